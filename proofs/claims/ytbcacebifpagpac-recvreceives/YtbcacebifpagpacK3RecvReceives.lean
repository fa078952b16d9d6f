/- Texts that were built one behind the other, joined; what RecvReceives does not reach is left out. -/
import Derived.Test.YtbcacebifpagpacK2RecvReceives
import Derived.Test.YtbcacebifpagpacRows
import Derived.ProofKit
import Derived.OpenShut
import Derived.Lib.SmallJoins
import Derived.Deep.Slices
namespace Go.Proofs.Ytbcacebifpagpac
open Go.RowKit Go.Shelf Go.Sort
set_option linter.unusedVariables false
theorem tm_orders {s : St} (h : 4 < s.os.n) : tooManyB s = true := by
  have : decide (4 < s.os.n) = true := decide_eq_true h
  simp [tooManyB, this]
theorem tm_moves {s : St} (h : 8 < s.ms.n) : tooManyB s = true := by
  have : decide (8 < s.ms.n) = true := decide_eq_true h
  simp [tooManyB, this]
theorem tm_lines {s : St} {i : Nat} (hi : i < s.os.n) (h : inB (s.os.z i).ls.n 1 3 = false) : tooManyB s = true := by
  have : anyB s.os.n (fun i => fewLines (s.os.z i)) = true := anyB_yes hi (by unfold fewLines; rw [h]; rfl)
  simp [tooManyB, this]
theorem tm_no {s : St} (h1 : ¬ 4 < s.os.n) (h2 : ¬ 8 < s.ms.n) (h3 : ∀ i, i < s.os.n → inB (s.os.z i).ls.n 1 3 = true) : tooManyB s = false := by
  have e1 : decide (4 < s.os.n) = false := decide_eq_false h1
  have e2 : decide (8 < s.ms.n) = false := decide_eq_false h2
  have e3 : anyB s.os.n (fun i => fewLines (s.os.z i)) = false := anyB_no fun i hi => by unfold fewLines; rw [h3 i hi]; rfl
  unfold tooManyB
  rw [e1, e2, e3]
  rfl
theorem sE_shelf {p : Pl} {s : St} (h : ¬ shelfE p s.on = 0) : stateE p s = shelfE p s.on := by unfold stateE; rw [if_neg h]
theorem sE_many {p : Pl} {s : St} (h : shelfE p s.on = 0) (h1 : tooManyB s = true) : stateE p s = 2 := by unfold stateE; rw [if_pos h, h1]; rfl
theorem sE_form {p : Pl} {s : St} (h : shelfE p s.on = 0) (h1 : tooManyB s = false) (h2 : formedB p s = false) : stateE p s = 1 := by
  have e : (badOrdersB p s || badHoldsB p s || badMovesB p s || badSumsB p s) = true := by
    cases hq : (badOrdersB p s || badHoldsB p s || badMovesB p s || badSumsB p s)
    · rw [formedB, hq] at h2; cases h2
    · rfl
  unfold stateE; rw [if_pos h, h1, e]; rfl
theorem formedB_yes {p : Pl} {s : St} (h : shelfE p s.on = 0) (h1 : tooManyB s = false) (h2 : formedB p s = true) : Formed p s := by
  have e : (badOrdersB p s || badHoldsB p s || badMovesB p s || badSumsB p s) = false := by
    cases hq : (badOrdersB p s || badHoldsB p s || badMovesB p s || badSumsB p s)
    · rfl
    · rw [formedB, hq] at h2; cases h2
  simp only [Bool.or_eq_false_iff] at e
  exact formed h h1 e.1.1.1 e.1.1.2 e.1.2 e.2
theorem sE_sum {p : Pl} {s : St} (h : shelfE p s.on = 0) (h1 : tooManyB s = false) (h2 : formedB p s = true) : stateE p s = if summedB p s then 0 else 7 := by
  have e : (badOrdersB p s || badHoldsB p s || badMovesB p s || badSumsB p s) = false := by
    cases hq : (badOrdersB p s || badHoldsB p s || badMovesB p s || badSumsB p s)
    · rfl
    · rw [formedB, hq] at h2; cases h2
  unfold stateE summedB
  rw [if_pos h, h1, e]
  cases (wrongGoodsB p s || wrongOrdersB s) <;> rfl
set_option maxRecDepth 100000 in
set_option maxHeartbeats 4000000 in
theorem refCheckState_any (p : Pl) (s : St) (w : World) (hp : p.At w) (hs : s.At w) :
    Calls Try.prog 47 #[p.val, s.val] w fun e w' => e = .returned (.int .i64 (stateE p s)) ∧ Below w.heap.size w w' := by
  obtain ⟨W0, hW, hWB, X0⟩ : ∃ W, ((w.alloc (.cells #[.slice p.ab p.nb p.cb, .slice p.sa p.ns p.cs] 25)).alloc (.cells s.cells 31)) = W ∧ Below w.heap.size w W ∧ Boxes W w.heap.size (w.heap.size + 1) p s := ⟨_, rfl, two_below _ _ _, boxes_new w p s _ _⟩
  have HC : Hid (∀ wk, Below W0.heap.size W0 wk → Boxes wk w.heap.size (w.heap.size + 1) p s ∧ p.At wk ∧ s.At wk ∧ Below w.heap.size w wk) := fun wk h => ⟨X0.below h, (hp.below hWB).below h, (hs.below hWB).below h, hWB.trans (h.mono hWB.size)⟩
  have HW : Hid ((w.alloc (.cells #[.slice p.ab p.nb p.cb, .slice p.sa p.ns p.cs] 25)).alloc (.cells #[.slice s.on.a s.on.n s.on.c, .slice s.os.a s.os.n s.os.c, .slice s.hs.a s.hs.n s.hs.c, .slice s.ms.a s.ms.n s.ms.c, .slice s.si.a s.si.n s.si.c, .slice s.so.a s.so.n s.so.c, .slice s.sf.a s.sf.n s.sf.c] 31) = W0) := hW
  have ole := hs.os.le
  have ocap := hs.os.cap
  have mle := hs.ms.le
  have mcap := hs.ms.cap
  unfold maxLen at ocap mcap
  clear hW X0 hp hs
  unfold Pl.val St.val
  go_enter Try.func47, Try.ntmps47
  go_wp2_with fail
  rw [HW.out]
  obtain ⟨X, hpk, hsk, hBw⟩ := HC.out W0 (Below.refl _ _)
  refine (refCheckShelf_any p s.on W0 hpk hsk.on).mono ?_
  rintro e w1 ⟨rfl, hB⟩
  clear X hpk hsk hBw HW
  obtain ⟨X, hpk, hsk, hBw⟩ := HC.out w1 hB
  obtain ⟨⟨l1, d0, d1⟩, l2, c0, c1, c2, c3, c4, c5, c6⟩ := X
  by_cases h0 : shelfE p s.on = 0
  · have H0 : Hid (shelfE p s.on = 0) := h0
    rw [h0]
    clear h0 hpk hsk
    by_cases n1 : 4 < s.os.n
    · have HX : Hid (stateE p s = 2) := sE_many H0.out (tm_orders n1)
      have n1' : (4 : Int) < (s.os.n : Int) := by omega
      go_wp2_with fail
      go_ret
      exact ⟨by rw [HX.out]; rfl, hBw⟩
    · by_cases n2 : 8 < s.ms.n
      · have HX : Hid (stateE p s = 2) := sE_many H0.out (tm_moves n2)
        have n1' : ¬ (4 : Int) < (s.os.n : Int) := by omega
        have n2' : (8 : Int) < (s.ms.n : Int) := by omega
        go_wp2_with fail
        go_ret
        exact ⟨by rw [HX.out]; rfl, hBw⟩
      · have n1' : ¬ (4 : Int) < (s.os.n : Int) := by omega
        have n2' : ¬ (8 : Int) < (s.ms.n : Int) := by omega
        go_wp2_with fail
        clear c0 c1 c2 c3 c4 c5 c6 d0 d1 l1 l2 hBw
        go_loopw [6] (fun i wk => ∃ k : Nat, k ≤ s.os.n ∧ i = .int .i64 k ∧ (∀ j, j < k → inB (s.os.z j).ls.n 1 3 = true) ∧ Below W0.heap.size W0 wk) (fun i _ => s.os.n - (intOf i).toNat)
        case atStart => exact ⟨0, Nat.zero_le _, rfl, fun j hj => absurd hj (Nat.not_lt_zero _), hB⟩
        case round =>
          clear hB
          obtain ⟨i, hi, rfl, hno, hB⟩ := hrel
          have HN : Hid (∀ j, j < i → inB (s.os.z j).ls.n 1 3 = true) := hno
          clear hno
          obtain ⟨X, hpk, hsk, hBw⟩ := HC.out wr hB
          obtain ⟨⟨l1, d0, d1⟩, l2, c0, c1, c2, c3, c4, c5, c6⟩ := X
          by_cases hlt : i < s.os.n
          · obtain ⟨b, o, hoa, hb, z0, z1, hl⟩ := hsk.os.ods i hlt
            have qi : (0 : Int) ≤ (i : Int) := by omega
            have HT1 : Hid (inB (s.os.z i).ls.n 1 3 = false → stateE p s = 2) := fun h => sE_many H0.out (tm_lines hlt h)
            have HT2 : Hid (inB (s.os.z i).ls.n 1 3 = true → ∀ j, j < i + 1 → inB (s.os.z j).ls.n 1 3 = true) := fun h => all_succ (f := fun j => inB (s.os.z j).ls.n 1 3) HN.out h
            rw [hoa] at c1
            clear hoa hl hpk hsk c0 c2 c3 c4 c5 c6 d0 d1 z0
            generalize (s.os.z i).ls = LS at *
            cases k1 : inB LS.n 1 3
            · have HX : Hid (stateE p s = 2) := HT1.out k1
              clear HT1 HT2
              go_wp2_with (go_at_call 48; refine calls_to (within_any _ _ _ _) ?_)
              go_ret
              exact ⟨by rw [HX.out]; rfl, hBw⟩
            · have HX := HT2.out k1
              have HX2 : Hid _ := HX
              clear HT1 HT2 HX
              go_wp2_with (go_at_call 48; refine calls_to (within_any _ _ _ _) ?_)
              go_roundw
              case rel => exact ⟨i + 1, by omega, by go_num, HX2.out, hB⟩
              case measure => simp [intOf]; omega
          · have HTM : Hid (tooManyB s = false) := tm_no n1 n2 fun j hj => HN.out j (by omega)
            go_wp2_with fail
            refine (formed_any p s wr hpk hsk H0.out HTM.out).mono ?_
            rintro e w2 ⟨rfl, hB2⟩
            have hB := hB.trans (hB2.mono hB.size)
            clear hpk hsk hBw l1 d0 d1 l2 c0 c1 c2 c3 c4 c5 c6 hB2
            obtain ⟨X, hpk, hsk, hBw⟩ := HC.out w2 hB
            obtain ⟨⟨l1, d0, d1⟩, l2, c0, c1, c2, c3, c4, c5, c6⟩ := X
            cases k2 : formedB p s
            · have HX : Hid (stateE p s = 1) := sE_form H0.out HTM.out k2
              clear hpk hsk
              go_wp2_with fail
              go_ret
              exact ⟨by rw [HX.out]; rfl, hBw⟩
            · have HFO : Hid (Formed p s) := formedB_yes H0.out HTM.out k2
              have HE : Hid (stateE p s = if summedB p s then 0 else 7) := sE_sum H0.out HTM.out k2
              clear k2
              go_wp2_with fail
              refine (summed_any p s w2 hpk hsk HFO.out).mono ?_
              rintro e w3 ⟨rfl, hB3⟩
              have hBw := hBw.trans (hB3.mono hBw.size)
              clear hpk hsk l1 d0 d1 l2 c0 c1 c2 c3 c4 c5 c6 hB3
              cases k3 : summedB p s
              · have HX : Hid (stateE p s = 7) := by show stateE p s = 7; rw [HE.out, k3]; rfl
                clear HE
                go_wp2_with fail
                go_ret
                exact ⟨by rw [HX.out]; rfl, hBw⟩
              · have HX : Hid (stateE p s = 0) := by show stateE p s = 0; rw [HE.out, k3]; rfl
                clear HE
                go_wp2_with fail
                go_ret
                exact ⟨by rw [HX.out]; rfl, hBw⟩
  · have HX : Hid (stateE p s = shelfE p s.on) := sE_shelf h0
    clear hpk hsk
    go_wp2_with fail
    go_ret
    exact ⟨by rw [HX.out]; rfl, hBw⟩
end Go.Proofs.Ytbcacebifpagpac
namespace Go.Proofs.Ytbcacebifpagpac
open Go.RowKit Go.Shelf Go.Sort
set_option linter.unusedVariables false
theorem recvE_state {p : Pl} {s : St} {bin good n : Int} (h : ¬ stateE p s = 0) : recvE p s bin good n = stateE p s := by unfold recvE; rw [if_neg h]
theorem recvE_range {p : Pl} {s : St} {bin good n : Int} (h : stateE p s = 0) (h2 : (inB bin 0 ((p.nb : Int) - 1) && inB good 0 ((p.ns : Int) - 1) && inB n 1 200) = false) : recvE p s bin good n = 3 := by unfold recvE; rw [if_pos h, h2]; rfl
theorem recvE_full {p : Pl} {s : St} {b g : Nat} {n : Int} (h : stateE p s = 0) (h1 : b < p.nb) (h2 : g < p.ns) (h3 : inB n 1 200 = true) (h4 : freeZ p s b < n * p.zs g) : recvE p s b g n = 5 := by
  unfold recvE; simp only [Int.toNat_natCast]; rw [if_pos h, inB_mk (by omega), inB_mk (by omega), h3, if_pos (by decide), if_pos h4]
theorem recvE_many {p : Pl} {s : St} {b g : Nat} {n : Int} (h : stateE p s = 0) (h1 : b < p.nb) (h2 : g < p.ns) (h3 : inB n 1 200 = true) (h4 : ¬ freeZ p s b < n * p.zs g) (h5 : 200 < lyingZ s b g + n ∨ 1048576 < s.si.z g + n) : recvE p s b g n = 2 := by
  unfold recvE; simp only [Int.toNat_natCast]; rw [if_pos h, inB_mk (by omega), inB_mk (by omega), h3, if_pos (by decide), if_neg h4, if_pos h5]
theorem recvE_ok {p : Pl} {s : St} {b g : Nat} {n : Int} (h : stateE p s = 0) (h1 : b < p.nb) (h2 : g < p.ns) (h3 : inB n 1 200 = true) (h4 : ¬ freeZ p s b < n * p.zs g) (h5 : ¬ (200 < lyingZ s b g + n ∨ 1048576 < s.si.z g + n)) : recvE p s b g n = 0 := by
  unfold recvE; simp only [Int.toNat_natCast]; rw [if_pos h, inB_mk (by omega), inB_mk (by omega), h3, if_pos (by decide), if_neg h4, if_neg h5]
theorem freeZ_bd {p : Pl} {s : St} (f : Formed p s) {b : Nat} (hb : b < p.nb) : -30000 ≤ freeZ p s b ∧ freeZ p s b ≤ 1000 := by
  have hon : b < s.on.n := by rw [f.sh.n]; exact hb
  have ub := usedTo_bd (z := (s.on.r b).z) (zs := p.zs) (n := p.ns) (fun j hj => ⟨f.sh.num b hon j hj, f.sh.pl.sizes j hj⟩) p.ns (Nat.le_refl _)
  have tb := takeTo_bd f (b : Int) s.ms.n (Nat.le_refl _)
  have room : 0 ≤ (p.zb b).room ∧ (p.zb b).room ≤ 1000 := by
    have := f.sh.pl.bins b hb
    simp only [badBin, Bool.or_eq_false_iff, Bool.not_eq_false'] at this
    exact inB_true this.1.1
  have := f.ms8
  have := f.sh.pl.ns3
  unfold freeZ
  omega
set_option maxRecDepth 100000 in
set_option maxHeartbeats 8000000 in
theorem ReceiveOfOwn_any (p : Pl) (s : St) (bin good n : Int) (w : World) (hp : p.At w) (hs : s.At w) :
    Calls Try.prog 22 #[p.val, s.val, .int .i64 bin, .int .i64 good, .int .i64 n] w fun e w' => ∃ s' : St, e = .returned (.tuple #[s'.val, .int .i64 (recvE p s bin good n)]) ∧ s'.At w' ∧ ActOK (recvE p s bin good n) (recvT s bin.toNat good.toNat n) s' ∧ (recvE p s bin good n = 0 → OwnS w.heap.size w' s') ∧ Below w.heap.size w w' := by
  obtain ⟨W0, hW, hWB, X0, Z0⟩ : ∃ W, (((w.alloc (.cells #[.slice p.ab p.nb p.cb, .slice p.sa p.ns p.cs] 25)).alloc (.cells s.cells 31)).alloc (.cells #[.slice .none 0 0, .slice .none 0 0, .slice .none 0 0, .slice .none 0 0, .slice .none 0 0, .slice .none 0 0, .slice .none 0 0] 31)) = W ∧ Below w.heap.size w W ∧ Boxes W w.heap.size (w.heap.size + 1) p s ∧ Blk W (w.heap.size + 2) 31 7 (fun _ => .slice .none 0 0) :=
    ⟨_, rfl, (two_below _ _ _).alloc (by simp; omega) _, (boxes_new w p s _ _).below ((Below.refl _ _).alloc (Nat.le_refl _) _), (Blk.mk' (cur := #[.slice .none 0 0, .slice .none 0 0, .slice .none 0 0, .slice .none 0 0, .slice .none 0 0, .slice .none 0 0, .slice .none 0 0]) (by simp) rfl).congr (fun j hj => by match j, hj with | 0, _ => rfl | 1, _ => rfl | 2, _ => rfl | 3, _ => rfl | 4, _ => rfl | 5, _ => rfl | 6, _ => rfl)⟩
  have HC : Hid (∀ wk, Below W0.heap.size W0 wk → Boxes wk w.heap.size (w.heap.size + 1) p s ∧ p.At wk ∧ s.At wk ∧ Below w.heap.size w wk ∧ Blk wk (w.heap.size + 2) 31 7 (fun _ => .slice .none 0 0)) := fun wk h => ⟨X0.below h, (hp.below hWB).below h, (hs.below hWB).below h, hWB.trans (h.mono hWB.size), Z0.below h⟩
  have HW : Hid (((w.alloc (.cells #[.slice p.ab p.nb p.cb, .slice p.sa p.ns p.cs] 25)).alloc (.cells #[.slice s.on.a s.on.n s.on.c, .slice s.os.a s.os.n s.os.c, .slice s.hs.a s.hs.n s.hs.c, .slice s.ms.a s.ms.n s.ms.c, .slice s.si.a s.si.n s.si.c, .slice s.so.a s.so.n s.so.c, .slice s.sf.a s.sf.n s.sf.c] 31)).alloc (.cells #[.slice .none 0 0, .slice .none 0 0, .slice .none 0 0, .slice .none 0 0, .slice .none 0 0, .slice .none 0 0, .slice .none 0 0] 31) = W0) := hW
  have leb := hp.leb
  have capb0 := hp.capb
  have les := hp.les
  have caps0 := hp.caps
  have capb := capb0
  have caps := caps0
  have zlt0 := Z0.lt
  unfold maxLen at capb caps
  clear hW X0 Z0 hp hs
  unfold Pl.val St.val
  go_enter Try.func22, Try.ntmps22
  go_wp2_with fail
  rw [HW.out]
  obtain ⟨X, hpk, hsk, hBw, hz⟩ := HC.out W0 (Below.refl _ _)
  refine (refCheckState_any p s W0 hpk hsk).mono ?_
  rintro e w1 ⟨rfl, hB⟩
  clear X hpk hsk hBw hz HW
  obtain ⟨⟨⟨l1, d0, d1⟩, l2, c0, c1, c2, c3, c4, c5, c6⟩, hpk, hsk, hBw, hz⟩ := HC.out w1 hB
  by_cases h0 : stateE p s = 0
  · have H0 : Hid (stateE p s = 0) := h0
    have HF : Hid (Formed p s) := (rightT h0).fm
    rw [h0]
    clear h0 c0 c1 c2 c3 c4 c5 c6 hsk
    go_wp2_with fail
    refine (isBin_any p bin w1 leb capb0).mono ?_
    rintro e w2 ⟨rfl, hB2⟩
    have hB := hB.trans (hB2.mono hB.size)
    clear l1 d0 d1 l2 hpk hBw hz hB2
    obtain ⟨⟨⟨l1, d0, d1⟩, l2, c0, c1, c2, c3, c4, c5, c6⟩, hpk, hsk, hBw, hz⟩ := HC.out w2 hB
    clear c0 c1 c2 c3 c4 c5 c6 hsk
    cases k1 : inB bin 0 ((p.nb : Int) - 1)
    · have HX : Hid (recvE p s bin good n = 3) := recvE_range H0.out (by rw [k1]; rfl)
      clear k1
      have zl := hz.lt
      have zf0 := hz.frozen 0
      have zc0 := hz.cell (j := 0) (by decide)
      have zf1 := hz.frozen 1
      have zc1 := hz.cell (j := 1) (by decide)
      have zf2 := hz.frozen 2
      have zc2 := hz.cell (j := 2) (by decide)
      have zf3 := hz.frozen 3
      have zc3 := hz.cell (j := 3) (by decide)
      have zf4 := hz.frozen 4
      have zc4 := hz.cell (j := 4) (by decide)
      have zf5 := hz.frozen 5
      have zc5 := hz.cell (j := 5) (by decide)
      have zf6 := hz.frozen 6
      have zc6 := hz.cell (j := 6) (by decide)
      go_wp2_with fail
      have KZ := set7_blk hz (.slice .none 0 0) (.slice .none 0 0) (.slice .none 0 0) (.slice .none 0 0) (.slice .none 0 0) (.slice .none 0 0) (.slice .none 0 0)
      have hbz := set7_below (b := w.heap.size + 2) hBw (by omega) (.slice .none 0 0) (.slice .none 0 0) (.slice .none 0 0) (.slice .none 0 0) (.slice .none 0 0) (.slice .none 0 0) (.slice .none 0 0)
      unfold set7 at KZ hbz
      obtain ⟨c0', c1', c2', c3', c4', c5', c6'⟩ := box_cells KZ
      refine bodyPost_ret (v := .tuple #[noneS.val, .int .i64 3]) (by simp [results, Try.results22, go_sem, noneS, St.val, c0', c1', c2', c3', c4', c5', c6']) rfl ?_
      exact ⟨noneS, by rw [HX.out]; rfl, noneS_at _, ⟨fun h => absurd h (by rw [HX.out]; decide), fun _ => ⟨rfl, rfl, rfl, rfl, rfl, rfl, rfl⟩⟩, fun h => absurd h (by rw [HX.out]; decide), hbz⟩
    · go_wp2_with fail
      refine (isGood_any p good w2 les caps0).mono ?_
      rintro e w3 ⟨rfl, hB2⟩
      have hB := hB.trans (hB2.mono hB.size)
      clear l1 d0 d1 l2 hpk hBw hz hB2
      obtain ⟨⟨⟨l1, d0, d1⟩, l2, c0, c1, c2, c3, c4, c5, c6⟩, hpk, hsk, hBw, hz⟩ := HC.out w3 hB
      cases k2 : inB good 0 ((p.ns : Int) - 1)
      · have HX : Hid (recvE p s bin good n = 3) := recvE_range H0.out (by rw [k1, k2]; rfl)
        clear k1 k2 c0 c1 c2 c3 c4 c5 c6 hsk
        have zl := hz.lt
        have zf0 := hz.frozen 0
        have zc0 := hz.cell (j := 0) (by decide)
        have zf1 := hz.frozen 1
        have zc1 := hz.cell (j := 1) (by decide)
        have zf2 := hz.frozen 2
        have zc2 := hz.cell (j := 2) (by decide)
        have zf3 := hz.frozen 3
        have zc3 := hz.cell (j := 3) (by decide)
        have zf4 := hz.frozen 4
        have zc4 := hz.cell (j := 4) (by decide)
        have zf5 := hz.frozen 5
        have zc5 := hz.cell (j := 5) (by decide)
        have zf6 := hz.frozen 6
        have zc6 := hz.cell (j := 6) (by decide)
        go_wp2_with fail
        have KZ := set7_blk hz (.slice .none 0 0) (.slice .none 0 0) (.slice .none 0 0) (.slice .none 0 0) (.slice .none 0 0) (.slice .none 0 0) (.slice .none 0 0)
        have hbz := set7_below (b := w.heap.size + 2) hBw (by omega) (.slice .none 0 0) (.slice .none 0 0) (.slice .none 0 0) (.slice .none 0 0) (.slice .none 0 0) (.slice .none 0 0) (.slice .none 0 0)
        unfold set7 at KZ hbz
        obtain ⟨c0', c1', c2', c3', c4', c5', c6'⟩ := box_cells KZ
        refine bodyPost_ret (v := .tuple #[noneS.val, .int .i64 3]) (by simp [results, Try.results22, go_sem, noneS, St.val, c0', c1', c2', c3', c4', c5', c6']) rfl ?_
        exact ⟨noneS, by rw [HX.out]; rfl, noneS_at _, ⟨fun h => absurd h (by rw [HX.out]; decide), fun _ => ⟨rfl, rfl, rfl, rfl, rfl, rfl, rfl⟩⟩, fun h => absurd h (by rw [HX.out]; decide), hbz⟩
      · cases k3 : inB n 1 200
        · have HX : Hid (recvE p s bin good n = 3) := recvE_range H0.out (by rw [k1, k2, k3]; rfl)
          clear k1 k2 c0 c1 c2 c3 c4 c5 c6 hsk
          have zl := hz.lt
          have zf0 := hz.frozen 0
          have zc0 := hz.cell (j := 0) (by decide)
          have zf1 := hz.frozen 1
          have zc1 := hz.cell (j := 1) (by decide)
          have zf2 := hz.frozen 2
          have zc2 := hz.cell (j := 2) (by decide)
          have zf3 := hz.frozen 3
          have zc3 := hz.cell (j := 3) (by decide)
          have zf4 := hz.frozen 4
          have zc4 := hz.cell (j := 4) (by decide)
          have zf5 := hz.frozen 5
          have zc5 := hz.cell (j := 5) (by decide)
          have zf6 := hz.frozen 6
          have zc6 := hz.cell (j := 6) (by decide)
          go_wp2_with (go_at_call 48; refine calls_to (within_any _ _ _ _) ?_)
          have KZ := set7_blk hz (.slice .none 0 0) (.slice .none 0 0) (.slice .none 0 0) (.slice .none 0 0) (.slice .none 0 0) (.slice .none 0 0) (.slice .none 0 0)
          have hbz := set7_below (b := w.heap.size + 2) hBw (by omega) (.slice .none 0 0) (.slice .none 0 0) (.slice .none 0 0) (.slice .none 0 0) (.slice .none 0 0) (.slice .none 0 0) (.slice .none 0 0)
          unfold set7 at KZ hbz
          obtain ⟨c0', c1', c2', c3', c4', c5', c6'⟩ := box_cells KZ
          refine bodyPost_ret (v := .tuple #[noneS.val, .int .i64 3]) (by simp [results, Try.results22, go_sem, noneS, St.val, c0', c1', c2', c3', c4', c5', c6']) rfl ?_
          exact ⟨noneS, by rw [HX.out]; rfl, noneS_at _, ⟨fun h => absurd h (by rw [HX.out]; decide), fun _ => ⟨rfl, rfl, rfl, rfl, rfl, rfl, rfl⟩⟩, fun h => absurd h (by rw [HX.out]; decide), hbz⟩
        · obtain ⟨b, rfl⟩ := Int.eq_ofNat_of_zero_le (inB_true k1).1
          obtain ⟨g, rfl⟩ := Int.eq_ofNat_of_zero_le (inB_true k2).1
          have hb : b < p.nb := by have := (inB_true k1).2; omega
          have hg : g < p.ns := by have := (inB_true k2).2; omega
          have hn := inB_true k3
          have K3 : Hid (inB n 1 200 = true) := k3
          have pz := HF.out.sh.pl.sizes g hg
          have fb := freeZ_bd HF.out hb
          have mb := mul_bd (a := n) (b := p.zs g) ⟨by omega, hn.2⟩ pz
          have qb : (0 : Int) ≤ (b : Int) := by omega
          have qg : (0 : Int) ≤ (g : Int) := by omega
          obtain ⟨bz, oz, hsa, hbz, y0⟩ := hpk.sizes g hg
          have HSA : Hid (p.sa = some ⟨bz, oz, none⟩ ∧ p.At w3 ∧ s.At w3) := ⟨hsa, hpk, hsk⟩
          rw [hsa] at d1
          have r0 : ∀ d os, (grow (redrawn w3 d) os).cell? ⟨w.heap.size, 0, none⟩ = some (.slice p.ab p.nb p.cb) := fun d os => cell_regrown d0 d os
          have r1 : ∀ d os, (grow (redrawn w3 d) os).cell? ⟨w.heap.size, 1, none⟩ = some (.slice (some ⟨bz, oz, none⟩) p.ns p.cs) := fun d os => cell_regrown d1 d os
          have r2 : ∀ d os, (grow (redrawn w3 d) os).cell? ⟨bz, oz + g, none⟩ = some (.int .i64 (p.zs g)) := fun d os => cell_regrown y0 d os
          have s0 : ∀ d os, (grow (redrawn w3 d) os).cell? ⟨w.heap.size + 1, 0, none⟩ = some (.slice s.on.a s.on.n s.on.c) := fun d os => cell_regrown c0 d os
          have s1 : ∀ d os, (grow (redrawn w3 d) os).cell? ⟨w.heap.size + 1, 1, none⟩ = some (.slice s.os.a s.os.n s.os.c) := fun d os => cell_regrown c1 d os
          have s2 : ∀ d os, (grow (redrawn w3 d) os).cell? ⟨w.heap.size + 1, 2, none⟩ = some (.slice s.hs.a s.hs.n s.hs.c) := fun d os => cell_regrown c2 d os
          have s3 : ∀ d os, (grow (redrawn w3 d) os).cell? ⟨w.heap.size + 1, 3, none⟩ = some (.slice s.ms.a s.ms.n s.ms.c) := fun d os => cell_regrown c3 d os
          have s4 : ∀ d os, (grow (redrawn w3 d) os).cell? ⟨w.heap.size + 1, 4, none⟩ = some (.slice s.si.a s.si.n s.si.c) := fun d os => cell_regrown c4 d os
          have s5 : ∀ d os, (grow (redrawn w3 d) os).cell? ⟨w.heap.size + 1, 5, none⟩ = some (.slice s.so.a s.so.n s.so.c) := fun d os => cell_regrown c5 d os
          have s6 : ∀ d os, (grow (redrawn w3 d) os).cell? ⟨w.heap.size + 1, 6, none⟩ = some (.slice s.sf.a s.sf.n s.sf.c) := fun d os => cell_regrown c6 d os
          have hfr : Hid (∀ wk, p.At wk → s.At wk → Calls Try.prog 59 #[.agg #[.slice p.ab p.nb p.cb, .slice (some ⟨bz, oz, none⟩) p.ns p.cs], .agg #[.slice s.on.a s.on.n s.on.c, .slice s.os.a s.os.n s.os.c, .slice s.hs.a s.hs.n s.hs.c, .slice s.ms.a s.ms.n s.ms.c, .slice s.si.a s.si.n s.si.c, .slice s.so.a s.so.n s.so.c, .slice s.sf.a s.sf.n s.sf.c], .int .i64 b] wk fun e w' => e = .returned (.int .i64 (freeZ p s b)) ∧ Below wk.heap.size wk w') := fun wk h1 h2 => by
            have := FreeOf_any p s b wk h1 h2 HF.out hb
            rw [Pl.val, HSA.out.1] at this
            exact this
          have HT5 : Hid (freeZ p s b < n * p.zs g → recvE p s b g n = 5) := fun h => recvE_full H0.out hb hg K3.out h
          have HT2 : Hid (¬ freeZ p s b < n * p.zs g → (200 < lyingZ s b g + n ∨ 1048576 < s.si.z g + n) → recvE p s b g n = 2) := fun h h2 => recvE_many H0.out hb hg K3.out h h2
          have HT0 : Hid (¬ freeZ p s b < n * p.zs g → ¬ (200 < lyingZ s b g + n ∨ 1048576 < s.si.z g + n) → recvE p s b g n = 0) := fun h h2 => recvE_ok H0.out hb hg K3.out h h2
          clear k1 k2 hsa hpk hsk c0 c1 c2 c3 c4 c5 c6 d0 d1 y0
          generalize freeZ p s b = FR at *
          generalize p.zs g = PZ at *
          go_wp2_with (go_at_call 48; refine calls_to (within_any _ _ _ _) ?_)
          refine wp_region_quiet_below (by kernel_rfl) (by kernel_rfl) ?_
          repeat (go_big_quiet_step ((go_at_call 59; exact Calls.regrown_of (hfr.out _ (HSA.out.2.1.below (below_regrown _ _ _)) (HSA.out.2.2.below (below_regrown _ _ _))))))
          refine wpQuiet_nil ?_
          intro _ hw'
          obtain ⟨⟨dq, osq⟩, hw''⟩ := hw'
          subst hw''
          have hB := hB.trans ((below_regrown w3 dq osq).mono hB.size)
          clear r0 r1 r2 s0 s1 s2 s3 s4 s5 s6 hfr HSA hBw hz l1 l2 hbz
          generalize grow (redrawn w3 dq) osq = w4 at *
          obtain ⟨⟨⟨l1, d0, d1⟩, l2, c0, c1, c2, c3, c4, c5, c6⟩, hpk, hsk, hBw, hz⟩ := HC.out w4 hB
          by_cases h5 : FR < n * PZ
          · have HX : Hid (recvE p s b g n = 5) := HT5.out h5
            clear hpk hsk c0 c1 c2 c3 c4 c5 c6
            have zl := hz.lt
            have zf0 := hz.frozen 0
            have zc0 := hz.cell (j := 0) (by decide)
            have zf1 := hz.frozen 1
            have zc1 := hz.cell (j := 1) (by decide)
            have zf2 := hz.frozen 2
            have zc2 := hz.cell (j := 2) (by decide)
            have zf3 := hz.frozen 3
            have zc3 := hz.cell (j := 3) (by decide)
            have zf4 := hz.frozen 4
            have zc4 := hz.cell (j := 4) (by decide)
            have zf5 := hz.frozen 5
            have zc5 := hz.cell (j := 5) (by decide)
            have zf6 := hz.frozen 6
            have zc6 := hz.cell (j := 6) (by decide)
            go_wp2_with fail
            have KZ := set7_blk hz (.slice .none 0 0) (.slice .none 0 0) (.slice .none 0 0) (.slice .none 0 0) (.slice .none 0 0) (.slice .none 0 0) (.slice .none 0 0)
            have hbz := set7_below (b := w.heap.size + 2) hBw (by omega) (.slice .none 0 0) (.slice .none 0 0) (.slice .none 0 0) (.slice .none 0 0) (.slice .none 0 0) (.slice .none 0 0) (.slice .none 0 0)
            unfold set7 at KZ hbz
            obtain ⟨c0', c1', c2', c3', c4', c5', c6'⟩ := box_cells KZ
            refine bodyPost_ret (v := .tuple #[noneS.val, .int .i64 5]) (by simp [results, Try.results22, go_sem, noneS, St.val, c0', c1', c2', c3', c4', c5', c6']) rfl ?_
            exact ⟨noneS, by rw [HX.out]; rfl, noneS_at _, ⟨fun h => absurd h (by rw [HX.out]; decide), fun _ => ⟨rfl, rfl, rfl, rfl, rfl, rfl, rfl⟩⟩, fun h => absurd h (by rw [HX.out]; decide), hbz⟩
          · have hon : b < s.on.n := by rw [HF.out.sh.n]; exact hb
            obtain ⟨bo, oo, hoa, hbo, y0, hrow⟩ := hsk.on.rows b hon
            have hrn := HF.out.sh.len b hon
            obtain ⟨br, orr, hra, hbr, y1⟩ := hrow.ints g (by rw [hrn]; exact hg)
            obtain ⟨bi, oi, hia, hbi, y2⟩ := hsk.si.ints g (by rw [HF.out.sin]; exact hg)
            have v1 := hrow.le
            have v2 := hrow.cap
            have v3 := hsk.on.le
            have v4 := hsk.on.cap
            have v5 := hsk.si.le
            have v6 := hsk.si.cap
            have u1 := HF.out.sh.num b hon g hg
            have u2 := comingTo_bd (s := s) (b := b) (g := g) HF.out.moveN
            have u3 := HF.out.sib g hg
            have ms8 := HF.out.ms8
            have si1 : g < s.si.n := by rw [HF.out.sin]; exact hg
            unfold maxLen at v2 v4 v6
            have HSA : Hid (s.At w4 ∧ s.on.a = some ⟨bo, oo, none⟩ ∧ s.si.a = some ⟨bi, oi, none⟩) := ⟨hsk, hoa, hia⟩
            rw [hra, hrn] at y0
            rw [hrn] at v1
            rw [hoa] at c0
            rw [hia] at c4
            have s0 : ∀ d os, (grow (redrawn w4 d) os).cell? ⟨w.heap.size + 1, 0, none⟩ = some (.slice (some ⟨bo, oo, none⟩) s.on.n s.on.c) := fun d os => cell_regrown c0 d os
            have s1 : ∀ d os, (grow (redrawn w4 d) os).cell? ⟨w.heap.size + 1, 1, none⟩ = some (.slice s.os.a s.os.n s.os.c) := fun d os => cell_regrown c1 d os
            have s2 : ∀ d os, (grow (redrawn w4 d) os).cell? ⟨w.heap.size + 1, 2, none⟩ = some (.slice s.hs.a s.hs.n s.hs.c) := fun d os => cell_regrown c2 d os
            have s3 : ∀ d os, (grow (redrawn w4 d) os).cell? ⟨w.heap.size + 1, 3, none⟩ = some (.slice s.ms.a s.ms.n s.ms.c) := fun d os => cell_regrown c3 d os
            have s4 : ∀ d os, (grow (redrawn w4 d) os).cell? ⟨w.heap.size + 1, 4, none⟩ = some (.slice (some ⟨bi, oi, none⟩) s.si.n s.si.c) := fun d os => cell_regrown c4 d os
            have s5 : ∀ d os, (grow (redrawn w4 d) os).cell? ⟨w.heap.size + 1, 5, none⟩ = some (.slice s.so.a s.so.n s.so.c) := fun d os => cell_regrown c5 d os
            have s6 : ∀ d os, (grow (redrawn w4 d) os).cell? ⟨w.heap.size + 1, 6, none⟩ = some (.slice s.sf.a s.sf.n s.sf.c) := fun d os => cell_regrown c6 d os
            have r1 : ∀ d os, (grow (redrawn w4 d) os).cell? ⟨bo, oo + b, none⟩ = some (.slice (some ⟨br, orr, none⟩) p.ns (s.on.r b).c) := fun d os => cell_regrown y0 d os
            have r2 : ∀ d os, (grow (redrawn w4 d) os).cell? ⟨br, orr + g, none⟩ = some (.int .i64 ((s.on.r b).z g)) := fun d os => cell_regrown y1 d os
            have r3 : ∀ d os, (grow (redrawn w4 d) os).cell? ⟨bi, oi + g, none⟩ = some (.int .i64 (s.si.z g)) := fun d os => cell_regrown y2 d os
            have hco : Hid (∀ wk, s.At wk → Calls Try.prog 60 #[.agg #[.slice (some ⟨bo, oo, none⟩) s.on.n s.on.c, .slice s.os.a s.os.n s.os.c, .slice s.hs.a s.hs.n s.hs.c, .slice s.ms.a s.ms.n s.ms.c, .slice (some ⟨bi, oi, none⟩) s.si.n s.si.c, .slice s.so.a s.so.n s.so.c, .slice s.sf.a s.sf.n s.sf.c], .int .i64 b, .int .i64 g] wk fun e w' => e = .returned (.int .i64 (comingTo s b g s.ms.n)) ∧ Below wk.heap.size wk w') := fun wk h => by
              have := coming_any p s b g wk h HF.out
              rw [St.val, HSA.out.2.1, HSA.out.2.2] at this
              exact this
            have HLY : Hid (lyingZ s b g = (s.on.r b).z g + comingTo s b g s.ms.n) := rfl
            have cm : 0 ≤ comingTo s b g s.ms.n ∧ comingTo s b g s.ms.n ≤ 1600 := by omega
            have HRT : Hid (recvT s b g n = setIn (setOn s b g ((s.on.r b).z g + n)) g (s.si.z g + n)) := rfl
            clear hoa hra hia hrow hrn hpk hsk c0 c1 c2 c3 c4 c5 c6 y0 y1 y2 d0 d1 u2
            generalize comingTo s b g s.ms.n = CM at *
            generalize hON : (s.on.r b).z g = ON at *
            have HON : Hid ((s.on.r b).z g = ON) := hON
            clear hON
            generalize (s.on.r b).c = RC at *
            generalize hSI : s.si.z g = SI at *
            have HSI : Hid (s.si.z g = SI) := hSI
            clear hSI
            by_cases h6 : 200 < ON + CM + n
            · have HX : Hid (recvE p s b g n = 2) := HT2.out (by omega) (.inl (by rw [HLY.out]; exact h6))
              have d6 : decide (200 < ON + CM + n) = true := decide_eq_true h6
              go_wp2_with fail
              refine wp_region_quiet_below (by kernel_rfl) (by kernel_rfl) ?_
              repeat (go_big_quiet_step ((go_at_call 60; exact Calls.regrown_of (hco.out _ (HSA.out.1.below (below_regrown _ _ _))))))
              refine wpQuiet_nil ?_
              intro _ hw'
              obtain ⟨⟨dq, osq⟩, hw''⟩ := hw'
              subst hw''
              have hB := hB.trans ((below_regrown w4 dq osq).mono hB.size)
              clear r1 r2 r3 s0 s1 s2 s3 s4 s5 s6 hco HSA hBw hz l1 l2
              generalize grow (redrawn w4 dq) osq = w5 at *
              obtain ⟨-, -, -, hBw, hz⟩ := HC.out w5 hB
              have zl := hz.lt
              have zf0 := hz.frozen 0
              have zc0 := hz.cell (j := 0) (by decide)
              have zf1 := hz.frozen 1
              have zc1 := hz.cell (j := 1) (by decide)
              have zf2 := hz.frozen 2
              have zc2 := hz.cell (j := 2) (by decide)
              have zf3 := hz.frozen 3
              have zc3 := hz.cell (j := 3) (by decide)
              have zf4 := hz.frozen 4
              have zc4 := hz.cell (j := 4) (by decide)
              have zf5 := hz.frozen 5
              have zc5 := hz.cell (j := 5) (by decide)
              have zf6 := hz.frozen 6
              have zc6 := hz.cell (j := 6) (by decide)
              go_wp2_with fail
              have KZ := set7_blk hz (.slice .none 0 0) (.slice .none 0 0) (.slice .none 0 0) (.slice .none 0 0) (.slice .none 0 0) (.slice .none 0 0) (.slice .none 0 0)
              have hbz := set7_below (b := w.heap.size + 2) hBw (by omega) (.slice .none 0 0) (.slice .none 0 0) (.slice .none 0 0) (.slice .none 0 0) (.slice .none 0 0) (.slice .none 0 0) (.slice .none 0 0)
              unfold set7 at KZ hbz
              obtain ⟨c0', c1', c2', c3', c4', c5', c6'⟩ := box_cells KZ
              refine bodyPost_ret (v := .tuple #[noneS.val, .int .i64 2]) (by simp [results, Try.results22, go_sem, noneS, St.val, c0', c1', c2', c3', c4', c5', c6']) rfl ?_
              exact ⟨noneS, by rw [HX.out]; rfl, noneS_at _, ⟨fun h => absurd h (by rw [HX.out]; decide), fun _ => ⟨rfl, rfl, rfl, rfl, rfl, rfl, rfl⟩⟩, fun h => absurd h (by rw [HX.out]; decide), hbz⟩
            · by_cases h7 : 1048576 < SI + n
              · have HX : Hid (recvE p s b g n = 2) := HT2.out (by omega) (.inr h7)
                have d6 : decide (200 < ON + CM + n) = false := decide_eq_false h6
                have d7 : decide (1048576 < SI + n) = true := decide_eq_true h7
                go_wp2_with fail
                refine wp_region_quiet_below (by kernel_rfl) (by kernel_rfl) ?_
                repeat (go_big_quiet_step ((go_at_call 60; exact Calls.regrown_of (hco.out _ (HSA.out.1.below (below_regrown _ _ _))))))
                refine wpQuiet_nil ?_
                intro _ hw'
                obtain ⟨⟨dq, osq⟩, hw''⟩ := hw'
                subst hw''
                have hB := hB.trans ((below_regrown w4 dq osq).mono hB.size)
                clear r1 r2 r3 s0 s1 s2 s3 s4 s5 s6 hco HSA hBw hz l1 l2
                generalize grow (redrawn w4 dq) osq = w5 at *
                obtain ⟨-, -, -, hBw, hz⟩ := HC.out w5 hB
                have zl := hz.lt
                have zf0 := hz.frozen 0
                have zc0 := hz.cell (j := 0) (by decide)
                have zf1 := hz.frozen 1
                have zc1 := hz.cell (j := 1) (by decide)
                have zf2 := hz.frozen 2
                have zc2 := hz.cell (j := 2) (by decide)
                have zf3 := hz.frozen 3
                have zc3 := hz.cell (j := 3) (by decide)
                have zf4 := hz.frozen 4
                have zc4 := hz.cell (j := 4) (by decide)
                have zf5 := hz.frozen 5
                have zc5 := hz.cell (j := 5) (by decide)
                have zf6 := hz.frozen 6
                have zc6 := hz.cell (j := 6) (by decide)
                go_wp2_with fail
                have KZ := set7_blk hz (.slice .none 0 0) (.slice .none 0 0) (.slice .none 0 0) (.slice .none 0 0) (.slice .none 0 0) (.slice .none 0 0) (.slice .none 0 0)
                have hbz := set7_below (b := w.heap.size + 2) hBw (by omega) (.slice .none 0 0) (.slice .none 0 0) (.slice .none 0 0) (.slice .none 0 0) (.slice .none 0 0) (.slice .none 0 0) (.slice .none 0 0)
                unfold set7 at KZ hbz
                obtain ⟨c0', c1', c2', c3', c4', c5', c6'⟩ := box_cells KZ
                refine bodyPost_ret (v := .tuple #[noneS.val, .int .i64 2]) (by simp [results, Try.results22, go_sem, noneS, St.val, c0', c1', c2', c3', c4', c5', c6']) rfl ?_
                exact ⟨noneS, by rw [HX.out]; rfl, noneS_at _, ⟨fun h => absurd h (by rw [HX.out]; decide), fun _ => ⟨rfl, rfl, rfl, rfl, rfl, rfl, rfl⟩⟩, fun h => absurd h (by rw [HX.out]; decide), hbz⟩
              · have HX : Hid (recvE p s b g n = 0) := HT0.out (by omega) (by rw [HLY.out]; omega)
                have d6 : decide (200 < ON + CM + n) = false := decide_eq_false h6
                have d7 : decide (1048576 < SI + n) = false := decide_eq_false h7
                go_wp2_with fail
                refine wp_region_quiet_below (by kernel_rfl) (by kernel_rfl) ?_
                repeat (go_big_quiet_step ((go_at_call 60; exact Calls.regrown_of (hco.out _ (HSA.out.1.below (below_regrown _ _ _))))))
                refine wpQuiet_nil ?_
                intro _ hw'
                obtain ⟨⟨dq, osq⟩, hw''⟩ := hw'
                subst hw''
                have hB := hB.trans ((below_regrown w4 dq osq).mono hB.size)
                clear r1 r2 r3 s0 s1 s2 s3 s4 s5 s6 hco HSA hBw hz l1 l2
                generalize grow (redrawn w4 dq) osq = w5 at *
                obtain ⟨⟨⟨l1, d0, d1⟩, l2, c0, c1, c2, c3, c4, c5, c6⟩, hpk, hsk, hBw, hz⟩ := HC.out w5 hB
                go_wp2_with fail
                have HLEZ : Hid (w.heap.size ≤ w5.heap.size) := hBw.size
                refine (OwnState_any p s w5 hsk HF.out).mono ?_
                rintro e w6 ⟨o, rfl, hsame, hown, hB2⟩
                have hn1 : b < o.on.n := by rw [hsame.on.1]; exact hon
                obtain ⟨x1, x2⟩ := hsame.on.2 b hn1
                have hrn : (o.on.r b).n = p.ns := by rw [x1]; exact HF.out.sh.len b hon
                have hON : (o.on.r b).z g = ON := by rw [x2 g (by rw [hrn]; exact hg)]; exact HON.out
                have hin : o.si.n = p.ns := by rw [hsame.si.1]; exact HF.out.sin
                have hSI : o.si.z g = SI := by rw [hsame.si.2 g (by rw [hin]; exact hg)]; exact HSI.out
                have HIN : Hid (o.si.n = p.ns) := hin
                have HSM0 : Hid (SameT o s) := hsame
                have HSM : Hid (SameT (setIn (setOn o b g (ON + n)) g (SI + n)) (recvT s b g n)) := by
                  show SameT _ (recvT s b g n)
                  rw [HRT.out]
                  exact setIn_same (setOn_same hsame _ _ _) _ _
                obtain ⟨W7, hW7, hWB7, K7⟩ : ∃ W, w6.alloc (.cells #[.slice o.on.a o.on.n o.on.c, .slice o.os.a o.os.n o.os.c, .slice o.hs.a o.hs.n o.hs.c, .slice o.ms.a o.ms.n o.ms.c, .slice o.si.a o.si.n o.si.c, .slice o.so.a o.so.n o.so.c, .slice o.sf.a o.sf.n o.sf.c] 31) = W ∧ Below w6.heap.size w6 W ∧ Blk W w6.heap.size 31 7 (fun j => o.cells.getD j default) := ⟨_, rfl, (Below.refl _ _).alloc (Nat.le_refl _) _, Blk.mk' rfl rfl⟩
                have HW7 : Hid (w6.alloc (.cells #[.slice o.on.a o.on.n o.on.c, .slice o.os.a o.os.n o.os.c, .slice o.hs.a o.hs.n o.hs.c, .slice o.ms.a o.ms.n o.ms.c, .slice o.si.a o.si.n o.si.c, .slice o.so.a o.so.n o.so.c, .slice o.sf.a o.sf.n o.sf.c] 31) = W7) := hW7
                obtain ⟨B13, hB13⟩ : ∃ B, w6.heap.size = B := ⟨_, rfl⟩
                have q6 := hB.size
                have q7 := hB2.size
                have hge : W0.heap.size ≤ B13 := by omega
                rw [hB13] at K7
                have HB13 : Hid (w6.heap.size = B13) := hB13
                have hB7 := (hB.trans (hB2.mono hB.size)).trans (hWB7.mono (hB.trans (hB2.mono hB.size)).size)
                have hown7 := OwnS.below hown hWB7
                obtain ⟨gg, ga, gA, g1, g2, gk⟩ := hown7.on
                obtain ⟨Gb, ra, rA, r1', r2', rk⟩ := hown7.rows b hn1
                obtain ⟨Gi, ia, iA, i1', i2', ik⟩ := hown7.si
                have HOW : Hid (OwnS w5.heap.size W7 o ∧ o.on.a = some ⟨gg, 0, none⟩ ∧ (o.on.r b).a = some ⟨Gb, 0, none⟩ ∧ o.si.a = some ⟨Gi, 0, none⟩ ∧ w5.heap.size ≤ Gb ∧ w5.heap.size ≤ Gi ∧ Blk W7 B13 31 7 (fun j => o.cells.getD j default)) := ⟨hown7, ga, ra, ia, rA, iA, K7⟩
                obtain ⟨m7, p0, p1, p2, p3, p4, p5, p6⟩ := Boxed.of K7
                rw [ga] at p0
                rw [ia] at p4
                have y0 := gk.cell (j := b) hn1
                rw [ra, hrn] at y0
                have y1 := rk.cell (j := g) (by rw [hrn]; exact hg)
                rw [hON] at y1
                have y2 := ik.cell (j := g) (by rw [hin]; exact hg)
                rw [hSI] at y2
                have t0 : ∀ d os, (grow (redrawn W7 d) os).cell? ⟨B13, 0, none⟩ = some (.slice (some ⟨gg, 0, none⟩) o.on.n o.on.c) := fun d os => cell_regrown p0 d os
                have t1 : ∀ d os, (grow (redrawn W7 d) os).cell? ⟨gg, b, none⟩ = some (.slice (some ⟨Gb, 0, none⟩) p.ns (o.on.r b).c) := fun d os => cell_regrown y0 d os
                have t2 : ∀ d os, (grow (redrawn W7 d) os).cell? ⟨Gb, g, none⟩ = some (.int .i64 ON) := fun d os => cell_regrown y1 d os
                have v1 := g1
                have v2 := g2
                have v3 := r1'
                have v4 := r2'
                rw [hrn] at v3
                unfold maxLen at v2 v4
                unfold maxLen at i2'
                rw [hin] at i1'
                clear hown7 hown gk rk ik K7 hWB7 hW7 hB13 p0 p1 p2 p3 p4 p5 p6 y0 y1 y2 ga ra ia hpk hsk c0 c1 c2 c3 c4 c5 c6 x1 x2 hB2 hz hBw hON hSI hsame hrn hin
                simp only [St.val]
                go_wp2_with fail
                rw [HW7.out, HB13.out]
                clear HW7 HB13
                refine wp_region_made5 (fun w' => ∃ p : Regrown, w' = grow (redrawn W7 p.d) p.os) (List.range 17) [] [(true, 17)] (by kernel_rfl) (by kernel_rfl) (by kernel_rfl) (by kernel_rfl) (by kernel_rfl) (by kernel_rfl) (by kernel_rfl) (by kernel_rfl) (by kernel_rfl) (regrown_of_below ((Below.refl _ _).drew)) ?_
                rw [show List.range 17 = [0, 1, 2, 3, 4, 5, 6, 7, 8, 9, 10, 11, 12, 13, 14, 15, 16] from rfl]
                simp only [picks, List.drop_succ_cons, List.drop_zero, List.take_succ_cons, List.take_zero, List.cons_append, List.nil_append]
                repeat (go_big_quiet_step (fail))
                refine wpQuiet_nil ?_
                clear t0 t1 t2
                refine ⟨fun _ _ _ _ => True, List.forall_mem_nil _, List.forall_mem_nil _, List.forall_mem_nil _, fun V G wk hS _ _ => ?_⟩
                have hX := below_of_regrown hS
                obtain ⟨hO, hOa, hOb, hOi, hA1, hA2, hK⟩ := HOW.out
                have hO := OwnS.below hO hX
                have hK := hK.below hX
                obtain ⟨Gq, hGq, _, _, _, rk⟩ := hO.rows b hn1
                rw [hOb] at hGq
                simp only [Option.some.injEq, Addr.mk.injEq, and_true] at hGq
                subst hGq
                have zl := rk.lt
                have zf := rk.frozen g
                have HRN : Hid ((o.on.r b).n = p.ns) := (HSM0.out.on.2 b hn1).1.trans (HF.out.sh.len b hon)
                have zc := rk.cell (j := g) (by rw [HRN.out]; exact hg)
                have q8 := hX.size
                have hB8 := hB7.trans (hX.mono hB7.size)
                have q9 := hB.size
                have hst := hB8.setCell (p := ⟨Gb, g, none⟩) (by show W0.heap.size ≤ Gb; omega) (.int .i64 (ON + n))
                have hO2 := OwnS.setOn hO hn1 hOb g (ON + n)
                have hK2 := hK.other (a := ⟨Gb, g, none⟩) (Blk.ne2 hK rk (by decide)) (.int .i64 (ON + n))
                have HST : Hid (Below W0.heap.size W0 (wk.setCell ⟨Gb, g, none⟩ (.int .i64 (ON + n))) ∧ OwnS w5.heap.size (wk.setCell ⟨Gb, g, none⟩ (.int .i64 (ON + n))) (setOn o b g (ON + n)) ∧ Blk (wk.setCell ⟨Gb, g, none⟩ (.int .i64 (ON + n))) B13 31 7 (fun j => o.cells.getD j default)) := ⟨hst, hO2, hK2⟩
                clear hst hO2 hK2 hO hK rk hX hB8 hS
                simp only [putAll]
                refine wpSeq_one 17 rfl ?_
                go_wp2_with fail
                refine ⟨Late.yes, ?_⟩
                refine NoPanic.normal ?_
                generalize wk.setCell { block := Gb, off := g } (Value.int IntKind.i64 (ON + n)) = W9 at *
                clear zl zf zc
                obtain ⟨hB9, hO9, hK9⟩ := HST.out
                obtain ⟨Gq, hGq, _, _, _, ik⟩ := hO9.si
                rw [show (setOn o b g (ON + n)).si.a = some ⟨Gi, 0, none⟩ from hOi] at hGq
                simp only [Option.some.injEq, Addr.mk.injEq, and_true] at hGq
                subst hGq
                have y2 := ik.cell (j := g) (by show g < o.si.n; rw [HIN.out]; exact hg)
                have p4 := hK9.cell (j := 4) (by decide)
                have p4' : W9.cell? ⟨B13, 4, none⟩ = some (.slice o.si.a o.si.n o.si.c) := p4
                rw [hOi, HIN.out] at p4'
                have HSQ : Hid (o.si.z g = SI) := (HSM0.out.si.2 g (by rw [HIN.out]; exact hg)).trans HSI.out
                have y2' : W9.cell? ⟨Gi, g, none⟩ = some (.int .i64 (o.si.z g)) := y2
                rw [HSQ.out] at y2'
                have t0 : ∀ d os, (grow (redrawn W9 d) os).cell? ⟨B13, 4, none⟩ = some (.slice (some ⟨Gi, 0, none⟩) p.ns o.si.c) := fun d os => cell_regrown p4' d os
                have t1 : ∀ d os, (grow (redrawn W9 d) os).cell? ⟨Gi, g, none⟩ = some (.int .i64 SI) := fun d os => cell_regrown y2' d os
                clear hB9 hO9 hK9 ik y2 p4 p4' y2'
                go_wp2_with fail
                refine wp_region_made5 (fun w' => ∃ p : Regrown, w' = grow (redrawn W9 p.d) p.os) (List.range 11) [] [(true, 11)] (by kernel_rfl) (by kernel_rfl) (by kernel_rfl) (by kernel_rfl) (by kernel_rfl) (by kernel_rfl) (by kernel_rfl) (by kernel_rfl) (by kernel_rfl) (regrown_of_below ((Below.refl _ _).drew)) ?_
                rw [show List.range 11 = [0, 1, 2, 3, 4, 5, 6, 7, 8, 9, 10] from rfl]
                simp only [picks, List.drop_succ_cons, List.drop_zero, List.take_succ_cons, List.take_zero, List.cons_append, List.nil_append]
                repeat (go_big_quiet_step (fail))
                refine wpQuiet_nil ?_
                clear t0 t1
                refine ⟨fun _ _ _ _ => True, List.forall_mem_nil _, List.forall_mem_nil _, List.forall_mem_nil _, fun V G wk2 hS _ _ => ?_⟩
                have hX := below_of_regrown hS
                obtain ⟨hB9, hO9, hK9⟩ := HST.out
                have hO := OwnS.below hO9 hX
                have hK := hK9.below hX
                have hB10 := hB9.trans (hX.mono hB9.size)
                obtain ⟨Gq, hGq, _, _, _, ik⟩ := hO.si
                rw [show (setOn o b g (ON + n)).si.a = some ⟨Gi, 0, none⟩ from hOi] at hGq
                simp only [Option.some.injEq, Addr.mk.injEq, and_true] at hGq
                subst hGq
                have zl := ik.lt
                have zf := ik.frozen g
                have zc := ik.cell (j := g) (by show g < o.si.n; rw [HIN.out]; exact hg)
                have hst := hB10.setCell (p := ⟨Gi, g, none⟩) (by show W0.heap.size ≤ Gi; omega) (.int .i64 (SI + n))
                have hO2 := OwnS.setIn hO (show (setOn o b g (ON + n)).si.a = some ⟨Gi, 0, none⟩ from hOi) g (SI + n)
                have hK2 := hK.other (a := ⟨Gi, g, none⟩) (Blk.ne2 hK ik (by decide)) (.int .i64 (SI + n))
                have HS2 : Hid (Below W0.heap.size W0 (wk2.setCell ⟨Gi, g, none⟩ (.int .i64 (SI + n))) ∧ OwnS w5.heap.size (wk2.setCell ⟨Gi, g, none⟩ (.int .i64 (SI + n))) (setIn (setOn o b g (ON + n)) g (SI + n)) ∧ Blk (wk2.setCell ⟨Gi, g, none⟩ (.int .i64 (SI + n))) B13 31 7 (fun j => o.cells.getD j default)) := ⟨hst, hO2, hK2⟩
                clear hst hO2 hK2 hO hK ik hX hB10 hS hB9 hO9 hK9 HST
                simp only [putAll]
                refine wpSeq_one 11 rfl ?_
                go_wp2_with fail
                refine ⟨Late.yes, ?_⟩
                refine NoPanic.normal ?_
                generalize wk2.setCell { block := Gi, off := g } (Value.int IntKind.i64 (SI + n)) = W10 at *
                clear zl zf zc
                obtain ⟨hBt, hOt, hKt⟩ := HS2.out
                obtain ⟨_, _, _, hBw, hz⟩ := HC.out W10 hBt
                obtain ⟨m8, p0, p1, p2, p3, p4, p5, p6⟩ := Boxed.of hKt
                have zl := hz.lt
                have zf0 := hz.frozen 0
                have zc0 := hz.cell (j := 0) (by decide)
                have zf1 := hz.frozen 1
                have zc1 := hz.cell (j := 1) (by decide)
                have zf2 := hz.frozen 2
                have zc2 := hz.cell (j := 2) (by decide)
                have zf3 := hz.frozen 3
                have zc3 := hz.cell (j := 3) (by decide)
                have zf4 := hz.frozen 4
                have zc4 := hz.cell (j := 4) (by decide)
                have zf5 := hz.frozen 5
                have zc5 := hz.cell (j := 5) (by decide)
                have zf6 := hz.frozen 6
                have zc6 := hz.cell (j := 6) (by decide)
                clear hBt hOt hKt hBw hz hOa hOb hOi hO hK
                go_wp2_with fail
                obtain ⟨hBt, hOt, hKt⟩ := HS2.out
                obtain ⟨_, _, _, hBw, hz⟩ := HC.out W10 hBt
                have KZ := set7_blk hz (.slice o.on.a o.on.n o.on.c) (.slice o.os.a o.os.n o.os.c) (.slice o.hs.a o.hs.n o.hs.c) (.slice o.ms.a o.ms.n o.ms.c) (.slice o.si.a o.si.n o.si.c) (.slice o.so.a o.so.n o.so.c) (.slice o.sf.a o.sf.n o.sf.c)
                have hbz := set7_below (b := w.heap.size + 2) hBw (by omega) (.slice o.on.a o.on.n o.on.c) (.slice o.os.a o.os.n o.os.c) (.slice o.hs.a o.hs.n o.hs.c) (.slice o.ms.a o.ms.n o.ms.c) (.slice o.si.a o.si.n o.si.c) (.slice o.so.a o.so.n o.so.c) (.slice o.sf.a o.sf.n o.sf.c)
                have hOz := OwnS.set7 hOt hz (.slice o.on.a o.on.n o.on.c) (.slice o.os.a o.os.n o.os.c) (.slice o.hs.a o.hs.n o.hs.c) (.slice o.ms.a o.ms.n o.ms.c) (.slice o.si.a o.si.n o.si.c) (.slice o.so.a o.so.n o.so.c) (.slice o.sf.a o.sf.n o.sf.c)
                unfold set7 at KZ hbz hOz
                obtain ⟨c0', c1', c2', c3', c4', c5', c6'⟩ := box_cells KZ
                refine bodyPost_ret (v := .tuple #[(setIn (setOn o b g (ON + n)) g (SI + n)).val, .int .i64 0]) (by simp [results, Try.results22, go_sem, setIn, setOn, setRw, St.val, c0', c1', c2', c3', c4', c5', c6']) rfl ?_
                exact ⟨setIn (setOn o b g (ON + n)) g (SI + n), by rw [HX.out]; rfl, hOz.at, ⟨fun _ => HSM.out, fun h => absurd HX.out h⟩, fun _ => hOz.mono HLEZ.out, hbz⟩
  · have HX : Hid (recvE p s bin good n = stateE p s) := recvE_state h0
    clear hpk hsk c0 c1 c2 c3 c4 c5 c6
    have zl := hz.lt
    have zf0 := hz.frozen 0
    have zc0 := hz.cell (j := 0) (by decide)
    have zf1 := hz.frozen 1
    have zc1 := hz.cell (j := 1) (by decide)
    have zf2 := hz.frozen 2
    have zc2 := hz.cell (j := 2) (by decide)
    have zf3 := hz.frozen 3
    have zc3 := hz.cell (j := 3) (by decide)
    have zf4 := hz.frozen 4
    have zc4 := hz.cell (j := 4) (by decide)
    have zf5 := hz.frozen 5
    have zc5 := hz.cell (j := 5) (by decide)
    have zf6 := hz.frozen 6
    have zc6 := hz.cell (j := 6) (by decide)
    go_wp2_with fail
    have KZ := set7_blk hz (.slice .none 0 0) (.slice .none 0 0) (.slice .none 0 0) (.slice .none 0 0) (.slice .none 0 0) (.slice .none 0 0) (.slice .none 0 0)
    have hbz := set7_below (b := w.heap.size + 2) hBw (by omega) (.slice .none 0 0) (.slice .none 0 0) (.slice .none 0 0) (.slice .none 0 0) (.slice .none 0 0) (.slice .none 0 0) (.slice .none 0 0)
    unfold set7 at KZ hbz
    obtain ⟨c0', c1', c2', c3', c4', c5', c6'⟩ := box_cells KZ
    refine bodyPost_ret (v := .tuple #[noneS.val, .int .i64 (stateE p s)]) (by simp [results, Try.results22, go_sem, noneS, St.val, c0', c1', c2', c3', c4', c5', c6']) rfl ?_
    exact ⟨noneS, by rw [HX.out]; rfl, noneS_at _, ⟨fun h => absurd h (by rw [HX.out]; exact h0), fun _ => ⟨rfl, rfl, rfl, rfl, rfl, rfl, rfl⟩⟩, fun h => absurd h (by rw [HX.out]; exact h0), hbz⟩
theorem ReceiveOf_any (p : Pl) (s : St) (bin good n : Int) (w : World) (hp : p.At w) (hs : s.At w) :
    Calls Try.prog 22 #[p.val, s.val, .int .i64 bin, .int .i64 good, .int .i64 n] w fun e w' => ∃ s' : St, e = .returned (.tuple #[s'.val, .int .i64 (recvE p s bin good n)]) ∧ s'.At w' ∧ ActOK (recvE p s bin good n) (recvT s bin.toNat good.toNat n) s' ∧ Below w.heap.size w w' :=
  (ReceiveOfOwn_any p s bin good n w hp hs).mono fun _ _ ⟨x, h1, h2, h3, _, h5⟩ => ⟨x, h1, h2, h3, h5⟩
end Go.Proofs.Ytbcacebifpagpac
namespace Go.Proofs.Ytbcacebifpagpac
open Go.RowKit Go.Shelf
set_option linter.unusedVariables false
structure OwnR (A : Nat) (w : World) (s : Sh) : Prop where
  on : ∃ g, s.a = some ⟨g, 0, none⟩ ∧ A ≤ g ∧ s.n ≤ s.c ∧ s.c ≤ maxLen ∧ Blk w g 23 s.n (fun i => .slice (s.r i).a (s.r i).n (s.r i).c)
  rows : ∀ i, i < s.n → OwnI A w (s.r i)
  rapart : ∀ i j, i < j → j < s.n → (s.r i).a ≠ (s.r j).a
set_option maxHeartbeats 1000000 in
theorem PutOwn_any (p : Pl) (s : Sh) (bin good n : Int) (w : World) (hp : p.At w) (hs : s.At w) (hput : putE p s bin good n = 0) :
    Calls Try.prog 57 #[p.val, s.val, .int .i64 bin, .int .i64 good, .int .i64 n] w fun e w' => ∃ s' : Sh, e = .returned (.tuple #[s'.val, .int .i64 0]) ∧ OwnR w.heap.size w' s' ∧ s'.n = s.n ∧ (∀ i, i < s.n → (s'.r i).n = (s.r i).n ∧ ∀ j, j < (s.r i).n → (s'.r i).z j = putZ s bin good n i j) ∧ Below w.heap.size w w' := by
  have hB0 : Below w.heap.size w (w.alloc (.cells #[.slice p.ab p.nb p.cb, .slice p.sa p.ns p.cs] 25)) := (Below.refl w.heap.size w).alloc (Nat.le_refl _) _
  simp only [Pl.val, Sh.val]
  have sle := hs.le
  have scap0 := hs.cap
  have scap := scap0
  unfold maxLen at scap
  have hn0 : s.n ≤ maxLen := Nat.le_trans sle scap0
  have les := hp.les
  have caps0 := hp.caps
  have hn1 : p.ns ≤ maxLen := Nat.le_trans les caps0
  have caps := caps0
  unfold maxLen at caps
  go_enter Try.func57, Try.ntmps57
  go_wp2_with fail
  refine (shelfCheck_any p s _ (hp.below hB0) (hs.below hB0)).mono ?_
  rintro e w1 ⟨rfl, hB⟩
  have hBw := hB0.trans (hB.mono (by simp))
  have hsz : w.heap.size < w1.heap.size := by have := hB.size; simp at this; omega
  have c1 : w1.cell? ⟨w.heap.size, 1, none⟩ = some (.slice p.sa p.ns p.cs) := (hB.cell (p := ⟨w.heap.size, 1, none⟩) (by simp)).trans (by simp)
  have h0 : shelfE p s = 0 := by
    apply Classical.byContradiction
    intro h0
    have hE : shelfErr p s bin good = shelfE p s := by simp [shelfErr, h0]
    simp [putE, hE, h0] at hput
  have hE := shelfErr_eq (bin := bin) (good := good) h0
  have h1 : inB bin 0 ((s.n : Int) - 1) = true := by
    cases h1 : inB bin 0 ((s.n : Int) - 1)
    · simp [putE, hE, h1] at hput
    · rfl
  have h2 : inB good 0 ((p.ns : Int) - 1) = true := by
    cases h2 : inB good 0 ((p.ns : Int) - 1)
    · simp [putE, hE, h1, h2] at hput
    · rfl
  have hE0 : shelfErr p s bin good = 0 := by simp [hE, h1, h2]
  clear hE
  obtain ⟨m, rfl⟩ := Int.eq_ofNat_of_zero_le (inB_true h1).1
  obtain ⟨q, rfl⟩ := Int.eq_ofNat_of_zero_le (inB_true h2).1
  have hm : m < s.n := by have := (inB_true h1).2; omega
  have hq : q < p.ns := by have := (inB_true h2).2; omega
  obtain ⟨pl, hn, hlen, hnum⟩ := (rightS h0).2
  have hz := hnum m hm q hq
  have hl := hlen m hm
  have h6 := pl.nb6
  rw [← hn] at h6
  have hr3 : Hid (∀ i, i < s.n → 1 ≤ (s.r i).n ∧ (s.r i).n ≤ 3) := fun i hi => by rw [hlen i hi]; exact ⟨pl.ns1, pl.ns3⟩
  have hs1 := hs.below hBw
  have m1 : (0 : Int) ≤ (m : Int) := by omega
  have m2 : (0 : Int) ≤ (q : Int) := by omega
  obtain ⟨b, o, ha, hb, z0, hat⟩ := hs1.rows m hm
  obtain ⟨b1, o1, ha1, hb1, y0⟩ := hat.ints q (by omega)
  rw [ha1] at z0
  have hql : q < (s.r m).n := by omega
  have rle := hat.le
  have rcap := hat.cap
  unfold maxLen at rcap
  have h3 : inB n (-((s.r m).z q)) (200 - (s.r m).z q) = true := by
    cases h3 : inB n (-((s.r m).z q)) (200 - (s.r m).z q)
    · simp [putE, hE0, h3] at hput
    · rfl
  clear hput
  clear pl hn hlen hnum ha1 hat hE0 hl
  obtain ⟨s0, sn, sc, sr⟩ := s
  dsimp only at *
  subst ha
  go_wp2_with (first | (go_at_call_of 30 (Value.int .i64 (m : Int)); refine calls_to (Has_any _ _ _ hn0) ?_) | (go_at_call_of 30 (Value.int .i64 (q : Int)); refine calls_to (Has_any _ _ _ hn1) ?_) | (go_at_call 55; refine calls_to (Within_any _ _ _ _) ?_))
  refine (copyRows_any ⟨some ⟨b, o, none⟩, sn, sc, sr⟩ w1 hs1 h6 hr3.out).mono ?_
  rintro e w2 ⟨g, G, C, rfl, hg, gb, gr, gm, hB2⟩
  dsimp only at gb gr gm ⊢
  obtain ⟨g1, g2, g3, g4⟩ := gr m hm
  have d0 := gb.cell hm
  have d1 := g4.cell hql
  have d2 := g4.frozen q
  have hnn := inB_true h3
  unfold maxLen at g3
  have hB3 := hBw.trans (hB2.mono hBw.size)
  have hge : w.heap.size ≤ G m := by have := hBw.size; omega
  have st := hB3.setCell (p := ⟨G m, q, none⟩) hge (.int .i64 ((sr m).z q + n))
  have HH : Hid _ := And.intro gb (And.intro gr gm)
  clear gb gr gm c1 y0 z0
  go_wp2_with fail
  go_ret2
  obtain ⟨gb, gr, gm⟩ := HH.out
  refine ⟨⟨some ⟨g, 0, none⟩, sn, sn, fun i => ⟨some ⟨G i, 0, none⟩, (sr i).n, C i, fun j => putZ ⟨some ⟨b, o, none⟩, sn, sc, sr⟩ m q n i j⟩⟩, rfl, ⟨⟨g, rfl, ?_, Nat.le_refl _, hn0, ?_⟩, ?_, ?_⟩, rfl, fun i hi => ⟨rfl, fun j hj => rfl⟩, st⟩
  · have := hBw.size; omega
  · exact gb.other (a := ⟨G m, q, none⟩) (by show g ≠ G m; omega) (.int .i64 ((sr m).z q + n))
  · intro i hi
    have gi := gr i hi
    refine ⟨G i, rfl, ?_, gi.2.1, gi.2.2.1, ?_⟩
    · have := hBw.size; omega
    · by_cases him : i = m
      · subst him
        refine (gi.2.2.2.set q (.int .i64 ((sr i).z q + n))).congr fun j hj => ?_
        by_cases hjq : j = q
        · subst hjq; simp [putZ]
        · simp [putZ, hjq]
      · have hGne : G i ≠ G m := by
          rcases Nat.lt_or_gt_of_ne him with h | h
          · have := gm i m h hm; omega
          · have := gm m i h hi; omega
        refine (gi.2.2.2.other (a := ⟨G m, q, none⟩) hGne (.int .i64 ((sr m).z q + n))).congr fun j hj => ?_
        simp [putZ, him]
  · intro i j hij hj h
    have := gm i j hij hj
    simp only [Option.some.injEq, Addr.mk.injEq, and_true] at h
    omega
end Go.Proofs.Ytbcacebifpagpac
namespace Go.Proofs.Ytbcacebifpagpac
open Go.RowKit Go.Shelf Go.Sort
set_option linter.unusedVariables false
set_option maxHeartbeats 4000000 in
theorem Lying_any (p : Pl) (s : St) (bin good : Nat) (w : World) (hs : s.At w) (f : Formed p s) (hbin : bin < p.nb) (hgood : good < p.ns) :
    Calls Try.prog 56 #[s.val, .int .i64 bin, .int .i64 good] w fun e w' => e = .returned (.int .i64 (lyingZ s bin good)) ∧ Below w.heap.size w w' := by
  obtain ⟨W0, hW0, hWB, hX⟩ : ∃ W0, w.alloc (.cells s.cells 31) = W0 ∧ Below w.heap.size w W0 ∧ Blk W0 w.heap.size 31 7 (fun j => s.cells.getD j default) := ⟨_, rfl, (Below.refl w.heap.size w).alloc (Nat.le_refl _) _, Blk.mk' rfl rfl⟩
  have hs0 := hs.below hWB
  have hon : bin < s.on.n := by rw [f.sh.n]; exact hbin
  obtain ⟨bo, oo, hoa, hbo, y0, hrow⟩ := hs0.on.rows bin hon
  have hrn := f.sh.len bin hon
  have hnum := f.sh.num bin hon good hgood
  obtain ⟨br, orr, hra, hbr, y1⟩ := hrow.ints good (by omega)
  have hrle := hrow.le
  have hrcap := hrow.cap
  have hole := hs0.on.le
  have hocap := hs0.on.cap
  unfold maxLen at hrcap hocap
  rw [hra, hrn] at y0
  rw [hrn] at hrle
  have c0 : W0.cell? ⟨w.heap.size, 0, none⟩ = some (.slice s.on.a s.on.n s.on.c) := hX.cell (j := 0) (by decide)
  rw [hoa] at c0
  have l0 := hX.lt
  have HOA : Hid (s.on.a = some ⟨bo, oo, none⟩) := hoa
  have b0 : (0 : Int) ≤ (bin : Int) := by omega
  have g0 : (0 : Int) ≤ (good : Int) := by omega
  have HLY : Hid (∀ k, k = s.ms.n → lyingZ s bin good = (s.on.r bin).z good + comingTo s bin good k) := fun k hk => by subst hk; rfl
  have HC : Hid (∀ wk, Below W0.heap.size W0 wk → s.At wk ∧ wk.cell? ⟨w.heap.size, 3, none⟩ = some (.slice s.ms.a s.ms.n s.ms.c) ∧ w.heap.size < wk.heap.size) :=
    fun wk h => ⟨hs0.below h, (hX.below h).cell (j := 3) (by decide), (hX.below h).lt⟩
  have hmle := hs0.ms.le
  have hmcap := hs0.ms.cap
  unfold maxLen at hmcap
  have m8 := f.ms8
  have MB : Hid (∀ k, k ≤ s.ms.n → 0 ≤ comingTo s bin good k ∧ comingTo s bin good k ≤ 200 * k) := fun k hk => comingTo_bd fun j hj => f.moveN j (by omega)
  have HW : Hid (w.alloc (.cells #[.slice (some ⟨bo, oo, none⟩) s.on.n s.on.c, .slice s.os.a s.os.n s.os.c, .slice s.hs.a s.hs.n s.hs.c, .slice s.ms.a s.ms.n s.ms.c, .slice s.si.a s.si.n s.si.c, .slice s.so.a s.so.n s.so.c, .slice s.sf.a s.sf.n s.sf.c] 31) = W0) := by show _ = W0; rw [← hW0, St.cells, hoa]
  have y0e := y0
  have y1e := y1
  have hboe := hbo
  have hbre := hbr
  rw [← HW.out] at y0e y1e hboe hbre
  simp only [St.val, hoa]
  clear hX hW0 hrow hs hs0
  clear hoa hra c0 l0 y0 y1 hbo hbr hrn
  generalize (s.on.r bin).z good = ON at *
  go_enter Try.func56, Try.ntmps56
  go_wp2_with fail
  rw [HW.out]
  clear y0e y1e hboe hbre
  go_loopw [7, 21] (fun u i wk => ∃ k : Nat, k ≤ s.ms.n ∧ i = .int .i64 k ∧ u = .int .i64 (ON + comingTo s bin good k) ∧ Below W0.heap.size W0 wk) (fun _ i _ => s.ms.n - (intOf i).toNat)
  case atStart => exact ⟨0, Nat.zero_le _, rfl, by simp [comingTo], Below.refl _ _⟩
  case round =>
    obtain ⟨k, hk, rfl, rfl, hB⟩ := hrel
    have m2 := MB.out k hk
    obtain ⟨hsk, c3, hlt0⟩ := HC.out wr hB
    by_cases hlt2 : k < s.ms.n
    · obtain ⟨b, q, hma, hb, z0, z1, z2, z3⟩ := hsk.ms.hds k hlt2
      have m3 := f.moveN k hlt2
      have H1 : Hid (((s.ms.z k).b = bin ∧ (s.ms.z k).o = good → comingTo s bin good (k + 1) = comingTo s bin good k + (s.ms.z k).n) ∧ (¬ ((s.ms.z k).b = bin ∧ (s.ms.z k).o = good) → comingTo s bin good (k + 1) = comingTo s bin good k)) := ⟨fun h => comingTo_hit h.1 h.2, comingTo_miss⟩
      have q4 : (0 : Int) ≤ (k : Int) := by omega
      rw [hma]
      obtain ⟨W1, hW1, hB1⟩ : ∃ W1, wr.alloc (.cells #[.int .i64 (s.ms.z k).o, .int .i64 (s.ms.z k).l, .int .i64 (s.ms.z k).b, .int .i64 (s.ms.z k).n] 70) = W1 ∧ Below W0.heap.size W0 W1 := ⟨_, rfl, hB.alloc hB.size _⟩
      have HV : Hid (wr.alloc (.cells #[.int .i64 (s.ms.z k).o, .int .i64 (s.ms.z k).l, .int .i64 (s.ms.z k).b, .int .i64 (s.ms.z k).n] 70) = W1) := hW1
      clear hma hsk hW1 c3 hlt0
      generalize comingTo s bin good k = U at *
      generalize (s.ms.z k).b = BB at *
      generalize (s.ms.z k).n = NN at *
      generalize (s.ms.z k).l = LL at *
      generalize (s.ms.z k).o = GD at *
      cases h1 : (BB == (bin : Int))
      · have hm := H1.out.2 (by simp at h1; omega)
        have HM : Hid (comingTo s bin good (k + 1) = U) := hm
        clear hm H1
        go_wp2_with fail
        rw [HV.out]
        go_roundw
        case rel => exact ⟨k + 1, by omega, by go_num, by rw [HM.out], hB1⟩
        case measure => simp [intOf]; omega
      · cases h2 : (GD == (good : Int))
        · have hm := H1.out.2 (by simp at h2; omega)
          have HM : Hid (comingTo s bin good (k + 1) = U) := hm
          clear hm H1
          go_wp2_with fail
          rw [HV.out]
          go_roundw
          case rel => exact ⟨k + 1, by omega, by go_num, by rw [HM.out], hB1⟩
          case measure => simp [intOf]; omega
        · have hm := H1.out.1 ⟨by simpa using h1, by simpa using h2⟩
          have HM : Hid (comingTo s bin good (k + 1) = U + NN) := hm
          clear hm H1
          go_wp2_with fail
          rw [HV.out]
          go_roundw
          case rel => exact ⟨k + 1, by omega, by go_num, by rw [HM.out]; congr 1; omega, hB1⟩
          case measure => simp [intOf]; omega
    · have hkn : k = s.ms.n := by omega
      subst hkn
      go_wp2_with fail
      go_ret
      exact ⟨by rw [HLY.out _ rfl]; rfl, hWB.trans (hB.mono hWB.size)⟩
end Go.Proofs.Ytbcacebifpagpac
namespace Go.Proofs.Ytbcacebifpagpac
open Go.RowKit Go.Shelf Go.Sort
set_option linter.unusedVariables false
theorem OwnS.swap {A B : Nat} {w0 w : World} {o : St} {r : Sh} (h : OwnS A w0 o) (hB : Below w0.heap.size w0 w) (hR : OwnR B w r) (hw : w0.heap.size ≤ B) (hA : A ≤ B) : OwnS A w ⟨r, o.os, o.hs, o.ms, o.si, o.so, o.sf⟩ := by
  have k := OwnS.below h hB
  obtain ⟨G1, a1, -, -, -, k1⟩ := h.si
  obtain ⟨G2, a2, -, -, -, k2⟩ := h.so
  obtain ⟨G3, a3, -, -, -, k3⟩ := h.sf
  have l1 := k1.lt
  have l2 := k2.lt
  have l3 := k3.lt
  refine ⟨?_, fun i hi => ?_, hR.rapart, k.os, k.hs, k.ms, k.msr, k.si, k.so, k.sf, k.aio, k.aif, k.aof, fun i hi => ?_⟩
  · obtain ⟨g, h1, h2, h3⟩ := hR.on
    exact ⟨g, h1, by omega, h3⟩
  · obtain ⟨g, h1, h2, h3⟩ := hR.rows i hi
    exact ⟨g, h1, by omega, h3⟩
  · obtain ⟨g, h1, h2, h3⟩ := hR.rows i hi
    show (r.r i).a ≠ o.si.a ∧ (r.r i).a ≠ o.so.a ∧ (r.r i).a ≠ o.sf.a
    rw [h1, a1, a2, a3]
    simp only [ne_eq, Option.some.injEq, Addr.mk.injEq, and_true]
    omega
set_option maxRecDepth 100000 in
set_option maxHeartbeats 8000000 in
theorem ReceiveOwn_any (p : Pl) (s : St) (bin good n : Int) (w : World) (hp : p.At w) (hs : s.At w) :
    Calls Try.prog 21 #[p.val, s.val, .int .i64 bin, .int .i64 good, .int .i64 n] w fun e w' => ∃ s' : St, e = .returned (.tuple #[s'.val, .int .i64 (recvE p s bin good n)]) ∧ s'.At w' ∧ ActOK (recvE p s bin good n) (recvT s bin.toNat good.toNat n) s' ∧ (recvE p s bin good n = 0 → OwnS w.heap.size w' s') ∧ Below w.heap.size w w' := by
  obtain ⟨W0, hW, hWB, X0, Z0⟩ : ∃ W, (((w.alloc (.cells #[.slice p.ab p.nb p.cb, .slice p.sa p.ns p.cs] 25)).alloc (.cells s.cells 31)).alloc (.cells #[.slice .none 0 0, .slice .none 0 0, .slice .none 0 0, .slice .none 0 0, .slice .none 0 0, .slice .none 0 0, .slice .none 0 0] 31)) = W ∧ Below w.heap.size w W ∧ Boxes W w.heap.size (w.heap.size + 1) p s ∧ Blk W (w.heap.size + 2) 31 7 (fun _ => .slice .none 0 0) :=
    ⟨_, rfl, (two_below _ _ _).alloc (by simp; omega) _, (boxes_new w p s _ _).below ((Below.refl _ _).alloc (Nat.le_refl _) _), (Blk.mk' (cur := #[.slice .none 0 0, .slice .none 0 0, .slice .none 0 0, .slice .none 0 0, .slice .none 0 0, .slice .none 0 0, .slice .none 0 0]) (by simp) rfl).congr (fun j hj => by match j, hj with | 0, _ => rfl | 1, _ => rfl | 2, _ => rfl | 3, _ => rfl | 4, _ => rfl | 5, _ => rfl | 6, _ => rfl)⟩
  have HC : Hid (∀ wk, Below W0.heap.size W0 wk → Boxes wk w.heap.size (w.heap.size + 1) p s ∧ p.At wk ∧ s.At wk ∧ Below w.heap.size w wk ∧ Blk wk (w.heap.size + 2) 31 7 (fun _ => .slice .none 0 0)) := fun wk h => ⟨X0.below h, (hp.below hWB).below h, (hs.below hWB).below h, hWB.trans (h.mono hWB.size), Z0.below h⟩
  have HW : Hid (((w.alloc (.cells #[.slice p.ab p.nb p.cb, .slice p.sa p.ns p.cs] 25)).alloc (.cells #[.slice s.on.a s.on.n s.on.c, .slice s.os.a s.os.n s.os.c, .slice s.hs.a s.hs.n s.hs.c, .slice s.ms.a s.ms.n s.ms.c, .slice s.si.a s.si.n s.si.c, .slice s.so.a s.so.n s.so.c, .slice s.sf.a s.sf.n s.sf.c] 31)).alloc (.cells #[.slice .none 0 0, .slice .none 0 0, .slice .none 0 0, .slice .none 0 0, .slice .none 0 0, .slice .none 0 0, .slice .none 0 0] 31) = W0) := hW
  have leb := hp.leb
  have capb0 := hp.capb
  have les := hp.les
  have caps0 := hp.caps
  have capb := capb0
  have caps := caps0
  have zlt0 := Z0.lt
  unfold maxLen at capb caps
  clear hW X0 Z0 hp hs
  unfold Pl.val St.val
  go_enter Try.func21, Try.ntmps21
  go_wp2_with fail
  rw [HW.out]
  obtain ⟨X, hpk, hsk, hBw, hz⟩ := HC.out W0 (Below.refl _ _)
  refine (stateCheck_any p s W0 hpk hsk).mono ?_
  rintro e w1 ⟨rfl, hB⟩
  clear X hpk hsk hBw hz HW
  obtain ⟨⟨⟨l1, d0, d1⟩, l2, c0, c1, c2, c3, c4, c5, c6⟩, hpk, hsk, hBw, hz⟩ := HC.out w1 hB
  have hnb : p.nb ≤ maxLen := Nat.le_trans leb capb0
  have hns : p.ns ≤ maxLen := Nat.le_trans les caps0
  by_cases h0 : stateE p s = 0
  · have H0 : Hid (stateE p s = 0) := h0
    have HF : Hid (Formed p s) := (rightT h0).fm
    rw [h0]
    clear h0
    cases k1 : inB bin 0 ((p.nb : Int) - 1)
    · have HX : Hid (recvE p s bin good n = 3) := recvE_range H0.out (by rw [k1]; rfl)
      clear c0 c1 c2 c3 c4 c5 c6 hpk hsk
      have zl := hz.lt
      have zf0 := hz.frozen 0
      have zc0 := hz.cell (j := 0) (by decide)
      have zf1 := hz.frozen 1
      have zc1 := hz.cell (j := 1) (by decide)
      have zf2 := hz.frozen 2
      have zc2 := hz.cell (j := 2) (by decide)
      have zf3 := hz.frozen 3
      have zc3 := hz.cell (j := 3) (by decide)
      have zf4 := hz.frozen 4
      have zc4 := hz.cell (j := 4) (by decide)
      have zf5 := hz.frozen 5
      have zc5 := hz.cell (j := 5) (by decide)
      have zf6 := hz.frozen 6
      have zc6 := hz.cell (j := 6) (by decide)
      go_wp2_with (first | (go_at_call_of 30 (Value.int .i64 bin); refine calls_to (Has_any _ _ _ hnb) ?_) | (go_at_call_of 30 (Value.int .i64 good); refine calls_to (Has_any _ _ _ hns) ?_) | (go_at_call 55; refine calls_to (Within_any _ _ _ _) ?_))
      have KZ := set7_blk hz (.slice .none 0 0) (.slice .none 0 0) (.slice .none 0 0) (.slice .none 0 0) (.slice .none 0 0) (.slice .none 0 0) (.slice .none 0 0)
      have hbz := set7_below (b := w.heap.size + 2) hBw (by omega) (.slice .none 0 0) (.slice .none 0 0) (.slice .none 0 0) (.slice .none 0 0) (.slice .none 0 0) (.slice .none 0 0) (.slice .none 0 0)
      unfold set7 at KZ hbz
      obtain ⟨c0', c1', c2', c3', c4', c5', c6'⟩ := box_cells KZ
      refine bodyPost_ret (v := .tuple #[noneS.val, .int .i64 3]) (by simp [results, Try.results21, go_sem, noneS, St.val, c0', c1', c2', c3', c4', c5', c6']) rfl ?_
      exact ⟨noneS, by rw [HX.out]; rfl, noneS_at _, ⟨fun h => absurd h (by rw [HX.out]; decide), fun _ => ⟨rfl, rfl, rfl, rfl, rfl, rfl, rfl⟩⟩, fun h => absurd h (by rw [HX.out]; decide), hbz⟩
    cases k2 : inB good 0 ((p.ns : Int) - 1)
    · have HX : Hid (recvE p s bin good n = 3) := recvE_range H0.out (by rw [k1, k2]; rfl)
      clear c0 c1 c2 c3 c4 c5 c6 hpk hsk
      have zl := hz.lt
      have zf0 := hz.frozen 0
      have zc0 := hz.cell (j := 0) (by decide)
      have zf1 := hz.frozen 1
      have zc1 := hz.cell (j := 1) (by decide)
      have zf2 := hz.frozen 2
      have zc2 := hz.cell (j := 2) (by decide)
      have zf3 := hz.frozen 3
      have zc3 := hz.cell (j := 3) (by decide)
      have zf4 := hz.frozen 4
      have zc4 := hz.cell (j := 4) (by decide)
      have zf5 := hz.frozen 5
      have zc5 := hz.cell (j := 5) (by decide)
      have zf6 := hz.frozen 6
      have zc6 := hz.cell (j := 6) (by decide)
      go_wp2_with (first | (go_at_call_of 30 (Value.int .i64 bin); refine calls_to (Has_any _ _ _ hnb) ?_) | (go_at_call_of 30 (Value.int .i64 good); refine calls_to (Has_any _ _ _ hns) ?_) | (go_at_call 55; refine calls_to (Within_any _ _ _ _) ?_))
      have KZ := set7_blk hz (.slice .none 0 0) (.slice .none 0 0) (.slice .none 0 0) (.slice .none 0 0) (.slice .none 0 0) (.slice .none 0 0) (.slice .none 0 0)
      have hbz := set7_below (b := w.heap.size + 2) hBw (by omega) (.slice .none 0 0) (.slice .none 0 0) (.slice .none 0 0) (.slice .none 0 0) (.slice .none 0 0) (.slice .none 0 0) (.slice .none 0 0)
      unfold set7 at KZ hbz
      obtain ⟨c0', c1', c2', c3', c4', c5', c6'⟩ := box_cells KZ
      refine bodyPost_ret (v := .tuple #[noneS.val, .int .i64 3]) (by simp [results, Try.results21, go_sem, noneS, St.val, c0', c1', c2', c3', c4', c5', c6']) rfl ?_
      exact ⟨noneS, by rw [HX.out]; rfl, noneS_at _, ⟨fun h => absurd h (by rw [HX.out]; decide), fun _ => ⟨rfl, rfl, rfl, rfl, rfl, rfl, rfl⟩⟩, fun h => absurd h (by rw [HX.out]; decide), hbz⟩
    cases k3 : inB n 1 200
    · have HX : Hid (recvE p s bin good n = 3) := recvE_range H0.out (by rw [k1, k2, k3]; rfl)
      clear c0 c1 c2 c3 c4 c5 c6 hpk hsk
      have zl := hz.lt
      have zf0 := hz.frozen 0
      have zc0 := hz.cell (j := 0) (by decide)
      have zf1 := hz.frozen 1
      have zc1 := hz.cell (j := 1) (by decide)
      have zf2 := hz.frozen 2
      have zc2 := hz.cell (j := 2) (by decide)
      have zf3 := hz.frozen 3
      have zc3 := hz.cell (j := 3) (by decide)
      have zf4 := hz.frozen 4
      have zc4 := hz.cell (j := 4) (by decide)
      have zf5 := hz.frozen 5
      have zc5 := hz.cell (j := 5) (by decide)
      have zf6 := hz.frozen 6
      have zc6 := hz.cell (j := 6) (by decide)
      go_wp2_with (first | (go_at_call_of 30 (Value.int .i64 bin); refine calls_to (Has_any _ _ _ hnb) ?_) | (go_at_call_of 30 (Value.int .i64 good); refine calls_to (Has_any _ _ _ hns) ?_) | (go_at_call 55; refine calls_to (Within_any _ _ _ _) ?_))
      have KZ := set7_blk hz (.slice .none 0 0) (.slice .none 0 0) (.slice .none 0 0) (.slice .none 0 0) (.slice .none 0 0) (.slice .none 0 0) (.slice .none 0 0)
      have hbz := set7_below (b := w.heap.size + 2) hBw (by omega) (.slice .none 0 0) (.slice .none 0 0) (.slice .none 0 0) (.slice .none 0 0) (.slice .none 0 0) (.slice .none 0 0) (.slice .none 0 0)
      unfold set7 at KZ hbz
      obtain ⟨c0', c1', c2', c3', c4', c5', c6'⟩ := box_cells KZ
      refine bodyPost_ret (v := .tuple #[noneS.val, .int .i64 3]) (by simp [results, Try.results21, go_sem, noneS, St.val, c0', c1', c2', c3', c4', c5', c6']) rfl ?_
      exact ⟨noneS, by rw [HX.out]; rfl, noneS_at _, ⟨fun h => absurd h (by rw [HX.out]; decide), fun _ => ⟨rfl, rfl, rfl, rfl, rfl, rfl, rfl⟩⟩, fun h => absurd h (by rw [HX.out]; decide), hbz⟩
    obtain ⟨b, rfl⟩ := Int.eq_ofNat_of_zero_le (inB_true k1).1
    obtain ⟨g, rfl⟩ := Int.eq_ofNat_of_zero_le (inB_true k2).1
    have hb : b < p.nb := by have := (inB_true k1).2; omega
    have hg : g < p.ns := by have := (inB_true k2).2; omega
    have hn := inB_true k3
    have K3 : Hid (inB n 1 200 = true) := k3
    have pz := HF.out.sh.pl.sizes g hg
    have fb := freeZ_bd HF.out hb
    have mb := mul_bd (a := n) (b := p.zs g) ⟨by omega, hn.2⟩ pz
    have qb : (0 : Int) ≤ (b : Int) := by omega
    have qg : (0 : Int) ≤ (g : Int) := by omega
    have HPS : Hid (p.At w1 ∧ s.At w1) := ⟨hpk, hsk⟩
    clear hpk hsk
    go_wp2_with (first | (go_at_call_of 30 (Value.int .i64 (b : Int)); refine calls_to (Has_any _ _ _ hnb) ?_) | (go_at_call_of 30 (Value.int .i64 (g : Int)); refine calls_to (Has_any _ _ _ hns) ?_) | (go_at_call 55; refine calls_to (Within_any _ _ _ _) ?_))
    refine (Free_any p s b w1 HPS.out.1 HPS.out.2).mono ?_
    rintro e w2 ⟨rfl, hB2⟩
    have hB := hB.trans (hB2.mono hB.size)
    clear l1 d0 d1 l2 c0 c1 c2 c3 c4 c5 c6 hBw hz hB2 HPS
    obtain ⟨⟨⟨l1, d0, d1⟩, l2, c0, c1, c2, c3, c4, c5, c6⟩, hpk, hsk, hBw, hz⟩ := HC.out w2 hB
    obtain ⟨bz, oz, hsa, hbz, y0⟩ := hpk.sizes g hg
    have HSA : Hid (p.sa = some ⟨bz, oz, none⟩ ∧ p.At w2 ∧ s.At w2) := ⟨hsa, hpk, hsk⟩
    rw [hsa] at d1
    have HFV : Hid (freeV p s b = freeZ p s b ∧ freeE p s b = 0) := by
      have hu : usedE p s.on b = 0 := by unfold usedE; rw [HF.out.sh0]; simp only [beq_self_eq_true, if_true]; rw [inB_mk (by have := HF.out.sh.n; omega)]; rfl
      have e : freeE p s b = 0 := by unfold freeE; rw [if_pos H0.out, hu]
      exact ⟨by unfold freeV; rw [e, if_pos rfl]; rfl, e⟩
    rw [HFV.out.1, HFV.out.2]
    have HT5 : Hid (freeZ p s b < n * p.zs g → recvE p s b g n = 5) := fun h => recvE_full H0.out hb hg K3.out h
    have HT2 : Hid (¬ freeZ p s b < n * p.zs g → (200 < lyingZ s b g + n ∨ 1048576 < s.si.z g + n) → recvE p s b g n = 2) := fun h h2 => recvE_many H0.out hb hg K3.out h h2
    have HT0 : Hid (¬ freeZ p s b < n * p.zs g → ¬ (200 < lyingZ s b g + n ∨ 1048576 < s.si.z g + n) → recvE p s b g n = 0) := fun h h2 => recvE_ok H0.out hb hg K3.out h h2
    clear HFV k1 k2 hsa hpk hsk
    generalize freeZ p s b = FR at *
    generalize p.zs g = PZ at *
    by_cases h5 : FR < n * PZ
    · have HX : Hid (recvE p s b g n = 5) := HT5.out h5
      clear c0 c1 c2 c3 c4 c5 c6
      have zl := hz.lt
      have zf0 := hz.frozen 0
      have zc0 := hz.cell (j := 0) (by decide)
      have zf1 := hz.frozen 1
      have zc1 := hz.cell (j := 1) (by decide)
      have zf2 := hz.frozen 2
      have zc2 := hz.cell (j := 2) (by decide)
      have zf3 := hz.frozen 3
      have zc3 := hz.cell (j := 3) (by decide)
      have zf4 := hz.frozen 4
      have zc4 := hz.cell (j := 4) (by decide)
      have zf5 := hz.frozen 5
      have zc5 := hz.cell (j := 5) (by decide)
      have zf6 := hz.frozen 6
      have zc6 := hz.cell (j := 6) (by decide)
      go_wp2_with fail
      have KZ := set7_blk hz (.slice .none 0 0) (.slice .none 0 0) (.slice .none 0 0) (.slice .none 0 0) (.slice .none 0 0) (.slice .none 0 0) (.slice .none 0 0)
      have hbz := set7_below (b := w.heap.size + 2) hBw (by omega) (.slice .none 0 0) (.slice .none 0 0) (.slice .none 0 0) (.slice .none 0 0) (.slice .none 0 0) (.slice .none 0 0) (.slice .none 0 0)
      unfold set7 at KZ hbz
      obtain ⟨c0', c1', c2', c3', c4', c5', c6'⟩ := box_cells KZ
      refine bodyPost_ret (v := .tuple #[noneS.val, .int .i64 5]) (by simp [results, Try.results21, go_sem, noneS, St.val, c0', c1', c2', c3', c4', c5', c6']) rfl ?_
      exact ⟨noneS, by rw [HX.out]; rfl, noneS_at _, ⟨fun h => absurd h (by rw [HX.out]; decide), fun _ => ⟨rfl, rfl, rfl, rfl, rfl, rfl, rfl⟩⟩, fun h => absurd h (by rw [HX.out]; decide), hbz⟩
    · have d5 : decide (FR < n * PZ) = false := by simp; omega
      have hz0 := hz.lt
      clear hz
      go_wp2_with fail
      refine (Lying_any p s b g w2 HSA.out.2.2 HF.out hb hg).mono ?_
      rintro e w3 ⟨rfl, hB2⟩
      have hB := hB.trans (hB2.mono hB.size)
      clear l1 d0 d1 l2 c0 c1 c2 c3 c4 c5 c6 hBw hB2 HSA y0 hz0 hbz d5
      obtain ⟨⟨⟨l1, d0, d1⟩, l2, c0, c1, c2, c3, c4, c5, c6⟩, hpk, hsk, hBw, hz⟩ := HC.out w3 hB
      obtain ⟨bi, oi, hia, hbi, y2⟩ := hsk.si.ints g (by rw [HF.out.sin]; exact hg)
      have v5 := hsk.si.le
      have v6 := hsk.si.cap
      unfold maxLen at v6
      have u3 := HF.out.sib g hg
      have si1 : g < s.si.n := by rw [HF.out.sin]; exact hg
      have ly : 0 ≤ lyingZ s b g ∧ lyingZ s b g ≤ 1800 := by
        have hon : b < s.on.n := by rw [HF.out.sh.n]; exact hb
        have u1 := HF.out.sh.num b hon g hg
        have u2 := comingTo_bd (s := s) (b := b) (g := g) HF.out.moveN
        have ms8 := HF.out.ms8
        unfold lyingZ
        omega
      have HSA : Hid (p.At w3 ∧ s.At w3 ∧ s.si.a = some ⟨bi, oi, none⟩) := ⟨hpk, hsk, hia⟩
      have HT2' := HT2.out h5
      have HT0' := HT0.out h5
      have HRE : Hid (recvT s b g n = setIn (setOn s b g ((s.on.r b).z g + n)) g (s.si.z g + n)) := rfl
      clear HT2 HT0
      have HLY : Hid (lyingZ s b g = (s.on.r b).z g + comingTo s b g s.ms.n) := rfl
      clear hpk hsk
      generalize lyingZ s b g = LY at *
      generalize hSI : s.si.z g = SI at *
      have HSI : Hid (s.si.z g = SI) := hSI
      clear hSI
      rw [hia] at c4
      clear hia
      cases d6 : decide (200 - LY < n)
      · cases d7 : decide (1048576 - SI < n)
        · have HX : Hid (recvE p s b g n = 0) := HT0' (by simp at d6 d7; omega)
          have hput : putE p s.on b g n = 0 := by
            have hon : b < s.on.n := by rw [HF.out.sh.n]; exact hb
            have hu : shelfErr p s.on b g = 0 := by rw [shelfErr_eq HF.out.sh0, inB_mk (by omega), inB_mk (by omega)]; rfl
            have u1 := HF.out.sh.num b hon g hg
            have u2 := (comingTo_bd (s := s) (b := b) (g := g) HF.out.moveN).1
            have ee := HLY.out
            have hi : inB n (-((s.on.r b).z g)) (200 - (s.on.r b).z g) = true := inB_mk (by simp at d6; omega)
            simp [putE, hu, hi]
          have HPUT : Hid (putE p s.on b g n = 0) := hput
          have hz0 := hz.lt
          have hcs := copyState_any p s w3 HSA.out.2.1 HF.out
          rw [St.val, HSA.out.2.2] at hcs
          have HCS : Hid _ := hcs
          clear HT2' HT0' hput hcs hz
          go_wp2_with fail
          refine Calls.mono HCS.out ?_
          rintro e w4 ⟨o, rfl, hsame, hown, hB2⟩
          clear HCS
          have hB4 := hB.trans (hB2.mono hB.size)
          have q3 := hB.size
          have HLOW : Hid (w.heap.size ≤ w3.heap.size) := Nat.le_trans (HC.out _ (Below.refl _ _)).2.2.2.1.size hB.size
          have q4 := hB2.size
          have HIN : Hid (o.si.n = p.ns) := hsame.si.1.trans HF.out.sin
          have HSQ : Hid (o.si.z g = SI) := (hsame.si.2 g (by rw [HIN.out]; exact hg)).trans HSI.out
          obtain ⟨W5, hW5, hWB5, K5⟩ : ∃ W, w4.alloc (.cells #[.slice o.on.a o.on.n o.on.c, .slice o.os.a o.os.n o.os.c, .slice o.hs.a o.hs.n o.hs.c, .slice o.ms.a o.ms.n o.ms.c, .slice o.si.a o.si.n o.si.c, .slice o.so.a o.so.n o.so.c, .slice o.sf.a o.sf.n o.sf.c] 31) = W ∧ Below w4.heap.size w4 W ∧ Blk W w4.heap.size 31 7 (fun j => o.cells.getD j default) := ⟨_, rfl, (Below.refl _ _).alloc (Nat.le_refl _) _, Blk.mk' rfl rfl⟩
          have HW5 : Hid (w4.alloc (.cells #[.slice o.on.a o.on.n o.on.c, .slice o.os.a o.os.n o.os.c, .slice o.hs.a o.hs.n o.hs.c, .slice o.ms.a o.ms.n o.ms.c, .slice o.si.a o.si.n o.si.c, .slice o.so.a o.so.n o.so.c, .slice o.sf.a o.sf.n o.sf.c] 31) = W5) := hW5
          have hB5 := hB4.trans (hWB5.mono hB4.size)
          have hown5 := OwnS.below hown hWB5
          clear l1 d0 d1 l2 c0 c1 c2 c3 c4 c5 c6 hBw HSA hz0 hbi y2
          obtain ⟨⟨⟨l1, d0, d1⟩, l2, c0, -⟩, hpk, hsk, hBw, -⟩ := HC.out W5 hB5
          have HAT : Hid (p.At W5 ∧ s.At W5) := ⟨hpk, hsk⟩
          have HOW : Hid (OwnS w3.heap.size W5 o ∧ Blk W5 w4.heap.size 31 7 (fun j => o.cells.getD j default) ∧ SameT o s) := ⟨hown5, K5, hsame⟩
          have l1e := l1
          have l2e := l2
          have d0e := d0
          have d1e := d1
          have c0e := c0
          rw [← HW5.out] at l1e l2e d0e d1e c0e
          clear hown hown5 K5 hsame hpk hsk hBw l1 l2 d0 d1 c0 hW5
          simp only [St.val]
          go_wp2_with fail
          rw [HW5.out]
          clear l1e l2e d0e d1e c0e HW5
          refine (PutOwn_any p s.on b g n W5 HAT.out.1 HAT.out.2.on HPUT.out).mono ?_
          rintro e w6 ⟨r, rfl, hR, hrn, hrz, hB6⟩
          obtain ⟨hO5, K5, hsame⟩ := HOW.out
          have q5 := hWB5.size
          have q6 := hB6.size
          have hB6' := hB5.trans (hB6.mono hB5.size)
          have hOa := OwnS.swap hO5 hB6 hR (Nat.le_refl _) (by omega)
          have K6 := K5.below hB6
          obtain ⟨Gi, hia, iA, i1, i2, ik⟩ := hOa.si
          have hOb := hOa.box K6 0 (.slice r.a r.n r.c)
          have K7 := K6.set 0 (.slice r.a r.n r.c)
          have hB7 := hB6'.setCell (p := ⟨w4.heap.size, 0, none⟩) (by show W0.heap.size ≤ w4.heap.size; omega) (.slice r.a r.n r.c)
          obtain ⟨Gi', hia', -, -, -, jk⟩ := hOb.si
          rw [show (⟨r, o.os, o.hs, o.ms, o.si, o.so, o.sf⟩ : St).si = o.si from rfl] at hia hia' jk i1 i2
          rw [hia] at hia'
          simp only [Option.some.injEq, Addr.mk.injEq, and_true] at hia'
          subst hia'
          have hOc := hOb.setIn (show (⟨r, o.os, o.hs, o.ms, o.si, o.so, o.sf⟩ : St).si.a = some ⟨Gi, 0, none⟩ from hia) g (SI + n)
          have K8 := K7.other (a := ⟨Gi, g, none⟩) (Blk.ne2 K7 jk (by decide)) (.int .i64 (SI + n))
          have hB8 := hB7.setCell (p := ⟨Gi, g, none⟩) (by show W0.heap.size ≤ Gi; omega) (.int .i64 (SI + n))
          have HEND : Hid (Below W0.heap.size W0 ((w6.setCell ⟨w4.heap.size, 0, none⟩ (.slice r.a r.n r.c)).setCell ⟨Gi, g, none⟩ (.int .i64 (SI + n))) ∧ OwnS w3.heap.size ((w6.setCell ⟨w4.heap.size, 0, none⟩ (.slice r.a r.n r.c)).setCell ⟨Gi, g, none⟩ (.int .i64 (SI + n))) (setIn ⟨r, o.os, o.hs, o.ms, o.si, o.so, o.sf⟩ g (SI + n)) ∧ Blk ((w6.setCell ⟨w4.heap.size, 0, none⟩ (.slice r.a r.n r.c)).setCell ⟨Gi, g, none⟩ (.int .i64 (SI + n))) w4.heap.size 31 7 (fun i => if i = 0 then .slice r.a r.n r.c else o.cells.getD i default)) := ⟨hB8, hOc, K8⟩
          have HSM : Hid (SameT (setIn ⟨r, o.os, o.hs, o.ms, o.si, o.so, o.sf⟩ g (SI + n)) (recvT s b g n)) := by
            show SameT _ (recvT s b g n)
            rw [HRE.out]
            refine setIn_same (s := ⟨r, o.os, o.hs, o.ms, o.si, o.so, o.sf⟩) (t := setOn s b g ((s.on.r b).z g + n)) ⟨⟨hrn, fun i hi => ?_⟩, hsame.os, hsame.hs, hsame.ms, hsame.si, hsame.so, hsame.sf⟩ _ _
            have hi' : i < s.on.n := by rw [← hrn]; exact hi
            have y := hrz i hi'
            show (r.r i).n = (if i = b then setRw (s.on.r i) g ((s.on.r b).z g + n) else s.on.r i).n ∧ ∀ j, j < (r.r i).n → (r.r i).z j = (if i = b then setRw (s.on.r i) g ((s.on.r b).z g + n) else s.on.r i).z j
            by_cases hib : i = b
            · subst hib
              rw [if_pos rfl]
              refine ⟨y.1, fun j hj => ?_⟩
              rw [y.2 j (by rw [← y.1]; exact hj)]
              show putZ s.on i g n i j = if j = g then (s.on.r i).z g + n else (s.on.r i).z j
              unfold putZ
              by_cases hjg : j = g
              · subst hjg; simp
              · simp [hjg]
            · rw [if_neg hib]
              refine ⟨y.1, fun j hj => ?_⟩
              rw [y.2 j (by rw [← y.1]; exact hj)]
              unfold putZ
              simp [hib]
          have z1 := K6.lt
          have z2 := K6.frozen 0
          have z3 := K6.cell (j := 0) (by decide)
          have y4 : (w6.setCell ⟨w4.heap.size, 0, none⟩ (.slice r.a r.n r.c)).cell? ⟨w4.heap.size, 4, none⟩ = some (.slice o.si.a o.si.n o.si.c) := K7.cell (j := 4) (by decide)
          rw [hia, HIN.out] at y4
          have y5 : (w6.setCell ⟨w4.heap.size, 0, none⟩ (.slice r.a r.n r.c)).cell? ⟨Gi, g, none⟩ = some (.int .i64 (o.si.z g)) := jk.cell (j := g) (by rw [HIN.out]; exact hg)
          rw [HSQ.out] at y5
          have y6 := jk.lt
          have y7 := jk.frozen g
          have y8 := K7.lt
          have HIA : Hid (o.si.a = some ⟨Gi, 0, none⟩) := hia
          rw [HIN.out] at i1
          unfold maxLen at i2
          obtain ⟨-, -, -, hBw8, hz8⟩ := HC.out _ hB8
          have m8 := K8.lt
          have e0 : ((w6.setCell ⟨w4.heap.size, 0, none⟩ (.slice r.a r.n r.c)).setCell ⟨Gi, g, none⟩ (.int .i64 (SI + n))).cell? ⟨w4.heap.size, 0, none⟩ = some (.slice r.a r.n r.c) := K8.cell (j := 0) (by decide)
          have e1 : ((w6.setCell ⟨w4.heap.size, 0, none⟩ (.slice r.a r.n r.c)).setCell ⟨Gi, g, none⟩ (.int .i64 (SI + n))).cell? ⟨w4.heap.size, 1, none⟩ = some (.slice o.os.a o.os.n o.os.c) := K8.cell (j := 1) (by decide)
          have e2 : ((w6.setCell ⟨w4.heap.size, 0, none⟩ (.slice r.a r.n r.c)).setCell ⟨Gi, g, none⟩ (.int .i64 (SI + n))).cell? ⟨w4.heap.size, 2, none⟩ = some (.slice o.hs.a o.hs.n o.hs.c) := K8.cell (j := 2) (by decide)
          have e3 : ((w6.setCell ⟨w4.heap.size, 0, none⟩ (.slice r.a r.n r.c)).setCell ⟨Gi, g, none⟩ (.int .i64 (SI + n))).cell? ⟨w4.heap.size, 3, none⟩ = some (.slice o.ms.a o.ms.n o.ms.c) := K8.cell (j := 3) (by decide)
          have e4 : ((w6.setCell ⟨w4.heap.size, 0, none⟩ (.slice r.a r.n r.c)).setCell ⟨Gi, g, none⟩ (.int .i64 (SI + n))).cell? ⟨w4.heap.size, 4, none⟩ = some (.slice o.si.a o.si.n o.si.c) := K8.cell (j := 4) (by decide)
          have e5 : ((w6.setCell ⟨w4.heap.size, 0, none⟩ (.slice r.a r.n r.c)).setCell ⟨Gi, g, none⟩ (.int .i64 (SI + n))).cell? ⟨w4.heap.size, 5, none⟩ = some (.slice o.so.a o.so.n o.so.c) := K8.cell (j := 5) (by decide)
          have e6 : ((w6.setCell ⟨w4.heap.size, 0, none⟩ (.slice r.a r.n r.c)).setCell ⟨Gi, g, none⟩ (.int .i64 (SI + n))).cell? ⟨w4.heap.size, 6, none⟩ = some (.slice o.sf.a o.sf.n o.sf.c) := K8.cell (j := 6) (by decide)
          have zl := hz8.lt
          have zf0 := hz8.frozen 0
          have zc0 := hz8.cell (j := 0) (by decide)
          have zf1 := hz8.frozen 1
          have zc1 := hz8.cell (j := 1) (by decide)
          have zf2 := hz8.frozen 2
          have zc2 := hz8.cell (j := 2) (by decide)
          have zf3 := hz8.frozen 3
          have zc3 := hz8.cell (j := 3) (by decide)
          have zf4 := hz8.frozen 4
          have zc4 := hz8.cell (j := 4) (by decide)
          have zf5 := hz8.frozen 5
          have zc5 := hz8.cell (j := 5) (by decide)
          have zf6 := hz8.frozen 6
          have zc6 := hz8.cell (j := 6) (by decide)
          clear hR hrn hrz hO5 K5 K6 K7 K8 hOa hOb hOc hB7 hB8 hB6 hB6' ik jk hsame hia hB5 hWB5 hBw8 hz8
          simp only [Sh.val]
          go_wp2_with fail
          obtain ⟨hBt, hOt, hKt⟩ := HEND.out
          obtain ⟨_, _, _, hBw, hz⟩ := HC.out _ hBt
          have KZ := set7_blk hz (.slice r.a r.n r.c) (.slice o.os.a o.os.n o.os.c) (.slice o.hs.a o.hs.n o.hs.c) (.slice o.ms.a o.ms.n o.ms.c) (.slice o.si.a o.si.n o.si.c) (.slice o.so.a o.so.n o.so.c) (.slice o.sf.a o.sf.n o.sf.c)
          have hbz := set7_below (b := w.heap.size + 2) hBw (by omega) (.slice r.a r.n r.c) (.slice o.os.a o.os.n o.os.c) (.slice o.hs.a o.hs.n o.hs.c) (.slice o.ms.a o.ms.n o.ms.c) (.slice o.si.a o.si.n o.si.c) (.slice o.so.a o.so.n o.so.c) (.slice o.sf.a o.sf.n o.sf.c)
          have hOz := OwnS.set7 hOt hz (.slice r.a r.n r.c) (.slice o.os.a o.os.n o.os.c) (.slice o.hs.a o.hs.n o.hs.c) (.slice o.ms.a o.ms.n o.ms.c) (.slice o.si.a o.si.n o.si.c) (.slice o.so.a o.so.n o.so.c) (.slice o.sf.a o.sf.n o.sf.c)
          unfold set7 at KZ hbz hOz
          obtain ⟨c0', c1', c2', c3', c4', c5', c6'⟩ := box_cells KZ
          refine bodyPost_ret (v := .tuple #[(setIn ⟨r, o.os, o.hs, o.ms, o.si, o.so, o.sf⟩ g (SI + n)).val, .int .i64 0]) (by simp [results, Try.results21, go_sem, setIn, setRw, St.val, c0', c1', c2', c3', c4', c5', c6']) rfl ?_
          exact ⟨setIn ⟨r, o.os, o.hs, o.ms, o.si, o.so, o.sf⟩ g (SI + n), by rw [HX.out]; rfl, hOz.at, ⟨fun _ => HSM.out, fun h => absurd HX.out h⟩, fun _ => hOz.mono HLOW.out, hbz⟩
        · have HX : Hid (recvE p s b g n = 2) := HT2' (Or.inr (by simp at d7; omega))
          clear HT2' HT0'
          have zl := hz.lt
          have zf0 := hz.frozen 0
          have zc0 := hz.cell (j := 0) (by decide)
          have zf1 := hz.frozen 1
          have zc1 := hz.cell (j := 1) (by decide)
          have zf2 := hz.frozen 2
          have zc2 := hz.cell (j := 2) (by decide)
          have zf3 := hz.frozen 3
          have zc3 := hz.cell (j := 3) (by decide)
          have zf4 := hz.frozen 4
          have zc4 := hz.cell (j := 4) (by decide)
          have zf5 := hz.frozen 5
          have zc5 := hz.cell (j := 5) (by decide)
          have zf6 := hz.frozen 6
          have zc6 := hz.cell (j := 6) (by decide)
          go_wp2_with fail
          have KZ := set7_blk hz (.slice .none 0 0) (.slice .none 0 0) (.slice .none 0 0) (.slice .none 0 0) (.slice .none 0 0) (.slice .none 0 0) (.slice .none 0 0)
          have hbz := set7_below (b := w.heap.size + 2) hBw (by omega) (.slice .none 0 0) (.slice .none 0 0) (.slice .none 0 0) (.slice .none 0 0) (.slice .none 0 0) (.slice .none 0 0) (.slice .none 0 0)
          unfold set7 at KZ hbz
          obtain ⟨c0', c1', c2', c3', c4', c5', c6'⟩ := box_cells KZ
          refine bodyPost_ret (v := .tuple #[noneS.val, .int .i64 2]) (by simp [results, Try.results21, go_sem, noneS, St.val, c0', c1', c2', c3', c4', c5', c6']) rfl ?_
          exact ⟨noneS, by rw [HX.out]; rfl, noneS_at _, ⟨fun h => absurd h (by rw [HX.out]; decide), fun _ => ⟨rfl, rfl, rfl, rfl, rfl, rfl, rfl⟩⟩, fun h => absurd h (by rw [HX.out]; decide), hbz⟩
      · have HX : Hid (recvE p s b g n = 2) := HT2' (Or.inl (by simp at d6; omega))
        clear HT2' HT0'
        have zl := hz.lt
        have zf0 := hz.frozen 0
        have zc0 := hz.cell (j := 0) (by decide)
        have zf1 := hz.frozen 1
        have zc1 := hz.cell (j := 1) (by decide)
        have zf2 := hz.frozen 2
        have zc2 := hz.cell (j := 2) (by decide)
        have zf3 := hz.frozen 3
        have zc3 := hz.cell (j := 3) (by decide)
        have zf4 := hz.frozen 4
        have zc4 := hz.cell (j := 4) (by decide)
        have zf5 := hz.frozen 5
        have zc5 := hz.cell (j := 5) (by decide)
        have zf6 := hz.frozen 6
        have zc6 := hz.cell (j := 6) (by decide)
        go_wp2_with fail
        have KZ := set7_blk hz (.slice .none 0 0) (.slice .none 0 0) (.slice .none 0 0) (.slice .none 0 0) (.slice .none 0 0) (.slice .none 0 0) (.slice .none 0 0)
        have hbz := set7_below (b := w.heap.size + 2) hBw (by omega) (.slice .none 0 0) (.slice .none 0 0) (.slice .none 0 0) (.slice .none 0 0) (.slice .none 0 0) (.slice .none 0 0) (.slice .none 0 0)
        unfold set7 at KZ hbz
        obtain ⟨c0', c1', c2', c3', c4', c5', c6'⟩ := box_cells KZ
        refine bodyPost_ret (v := .tuple #[noneS.val, .int .i64 2]) (by simp [results, Try.results21, go_sem, noneS, St.val, c0', c1', c2', c3', c4', c5', c6']) rfl ?_
        exact ⟨noneS, by rw [HX.out]; rfl, noneS_at _, ⟨fun h => absurd h (by rw [HX.out]; decide), fun _ => ⟨rfl, rfl, rfl, rfl, rfl, rfl, rfl⟩⟩, fun h => absurd h (by rw [HX.out]; decide), hbz⟩
  · have HX : Hid (recvE p s bin good n = stateE p s) := recvE_state h0
    clear hpk hsk c0 c1 c2 c3 c4 c5 c6
    have zl := hz.lt
    have zf0 := hz.frozen 0
    have zc0 := hz.cell (j := 0) (by decide)
    have zf1 := hz.frozen 1
    have zc1 := hz.cell (j := 1) (by decide)
    have zf2 := hz.frozen 2
    have zc2 := hz.cell (j := 2) (by decide)
    have zf3 := hz.frozen 3
    have zc3 := hz.cell (j := 3) (by decide)
    have zf4 := hz.frozen 4
    have zc4 := hz.cell (j := 4) (by decide)
    have zf5 := hz.frozen 5
    have zc5 := hz.cell (j := 5) (by decide)
    have zf6 := hz.frozen 6
    have zc6 := hz.cell (j := 6) (by decide)
    go_wp2_with fail
    have KZ := set7_blk hz (.slice .none 0 0) (.slice .none 0 0) (.slice .none 0 0) (.slice .none 0 0) (.slice .none 0 0) (.slice .none 0 0) (.slice .none 0 0)
    have hbz := set7_below (b := w.heap.size + 2) hBw (by omega) (.slice .none 0 0) (.slice .none 0 0) (.slice .none 0 0) (.slice .none 0 0) (.slice .none 0 0) (.slice .none 0 0) (.slice .none 0 0)
    unfold set7 at KZ hbz
    obtain ⟨c0', c1', c2', c3', c4', c5', c6'⟩ := box_cells KZ
    refine bodyPost_ret (v := .tuple #[noneS.val, .int .i64 (stateE p s)]) (by simp [results, Try.results21, go_sem, noneS, St.val, c0', c1', c2', c3', c4', c5', c6']) rfl ?_
    exact ⟨noneS, by rw [HX.out]; rfl, noneS_at _, ⟨fun h => absurd h (by rw [HX.out]; exact h0), fun _ => ⟨rfl, rfl, rfl, rfl, rfl, rfl, rfl⟩⟩, fun h => absurd h (by rw [HX.out]; exact h0), hbz⟩
theorem Receive_any (p : Pl) (s : St) (bin good n : Int) (w : World) (hp : p.At w) (hs : s.At w) :
    Calls Try.prog 21 #[p.val, s.val, .int .i64 bin, .int .i64 good, .int .i64 n] w fun e w' => ∃ s' : St, e = .returned (.tuple #[s'.val, .int .i64 (recvE p s bin good n)]) ∧ s'.At w' ∧ ActOK (recvE p s bin good n) (recvT s bin.toNat good.toNat n) s' ∧ Below w.heap.size w w' :=
  (ReceiveOwn_any p s bin good n w hp hs).mono fun _ _ ⟨x, h1, h2, h3, _, h5⟩ => ⟨x, h1, h2, h3, h5⟩
end Go.Proofs.Ytbcacebifpagpac
namespace Go.Proofs.Ytbcacebifpagpac
open Go.RowKit Go.Shelf Go.Sort
set_option linter.unusedVariables false
def outL (p : Pl) (x : Hd) : Bool := !(inB x.o 0 ((p.ns : Int) - 1)) || !(inB x.l 1 200)
def begunL (x : Hd) : Bool := x.b != 0 || x.n != 0
def enterE (p : Pl) (s : St) (l : Hs) : Int :=
  if stateE p s = 0 then (if s.os.n = 4 ∨ ¬ (1 ≤ l.n ∧ l.n ≤ 3) then 2 else if anyB l.n (fun j => outL p (l.z j)) then 3 else if anyB l.n (fun j => begunL (l.z j)) then 1 else 0) else stateE p s
def enterT (s : St) (l : Hs) : St := ⟨s.on, ⟨s.os.a, s.os.n + 1, s.os.c, fun i => if i = s.os.n then ⟨0, l⟩ else s.os.z i⟩, s.hs, s.ms, s.si, s.so, s.sf⟩
theorem enterE_state {p : Pl} {s : St} {l : Hs} (h : ¬ stateE p s = 0) : enterE p s l = stateE p s := by unfold enterE; rw [if_neg h]
theorem enterE_many {p : Pl} {s : St} {l : Hs} (h : stateE p s = 0) (h1 : s.os.n = 4 ∨ ¬ (1 ≤ l.n ∧ l.n ≤ 3)) : enterE p s l = 2 := by unfold enterE; rw [if_pos h, if_pos h1]
theorem enterE_range {p : Pl} {s : St} {l : Hs} (h : stateE p s = 0) (h1 : ¬ (s.os.n = 4 ∨ ¬ (1 ≤ l.n ∧ l.n ≤ 3))) (h2 : anyB l.n (fun j => outL p (l.z j)) = true) : enterE p s l = 3 := by unfold enterE; rw [if_pos h, if_neg h1, if_pos h2]
theorem enterE_form {p : Pl} {s : St} {l : Hs} (h : stateE p s = 0) (h1 : ¬ (s.os.n = 4 ∨ ¬ (1 ≤ l.n ∧ l.n ≤ 3))) (h2 : ¬ anyB l.n (fun j => outL p (l.z j)) = true) (h3 : anyB l.n (fun j => begunL (l.z j)) = true) : enterE p s l = 1 := by unfold enterE; rw [if_pos h, if_neg h1, if_neg h2, if_pos h3]
theorem enterE_ok {p : Pl} {s : St} {l : Hs} (h : stateE p s = 0) (h1 : ¬ (s.os.n = 4 ∨ ¬ (1 ≤ l.n ∧ l.n ≤ 3))) (h2 : ¬ anyB l.n (fun j => outL p (l.z j)) = true) (h3 : ¬ anyB l.n (fun j => begunL (l.z j)) = true) : enterE p s l = 0 := by unfold enterE; rw [if_pos h, if_neg h1, if_neg h2, if_neg h3]
set_option maxHeartbeats 1000000 in
theorem Enter1_any (B : Nat) (p : Pl) (x : Hd) (w : World) (les : p.ns ≤ p.cs) (caps : p.cs ≤ maxLen) (hB : B < w.heap.size) (c1 : w.cell? ⟨B, 1, none⟩ = some (.slice p.sa p.ns p.cs)) :
    Calls Try.prog 61 #[x.val, .pointer (some ⟨B, 0, none⟩)] w fun e w' => e = .returned (.bool (outL p x)) ∧ Below w.heap.size w w' := by
  have hns : p.ns ≤ maxLen := Nat.le_trans les caps
  have hB0 : Below w.heap.size w (w.alloc (.cells #[.int .i64 x.o, .int .i64 x.l, .int .i64 x.b, .int .i64 x.n] 53)) := (Below.refl w.heap.size w).alloc (Nat.le_refl _) _
  have c1e := (hB0.cell (p := ⟨B, 1, none⟩) hB).trans c1
  have hBe : B < (w.alloc (.cells #[.int .i64 x.o, .int .i64 x.l, .int .i64 x.b, .int .i64 x.n] 53)).heap.size := by have := hB0.size; omega
  unfold outL Hd.val
  clear c1
  unfold maxLen at caps
  cases h1 : inB x.o 0 ((p.ns : Int) - 1)
  all_goals
    go_enter Try.func61, Try.ntmps61
    go_wp2_with (first | (go_at_call 30; refine calls_to (Has_any _ _ _ hns) ?_) | (go_at_call 55; refine calls_to (Within_any _ _ _ _) ?_))
    go_ret
    exact ⟨by simp, hB0⟩
set_option maxHeartbeats 1000000 in
theorem Enter2_any (x : Hd) (w : World) :
    Calls Try.prog 62 #[x.val] w fun e w' => e = .returned (.bool (begunL x)) ∧ Below w.heap.size w w' := by
  have hB0 : Below w.heap.size w (w.alloc (.cells #[.int .i64 x.o, .int .i64 x.l, .int .i64 x.b, .int .i64 x.n] 53)) := (Below.refl w.heap.size w).alloc (Nat.le_refl _) _
  unfold begunL Hd.val
  cases h1 : (x.b != 0)
  all_goals
    go_enter Try.func62, Try.ntmps62
    go_wp2_with fail
    go_ret
    exact ⟨by simp, hB0⟩
end Go.Proofs.Ytbcacebifpagpac
namespace Go.Proofs.Ytbcacebifpagpac
open Go.RowKit Go.Shelf
set_option linter.unusedVariables false
def Grew (A : Nat) (e : TypeId) (w w' : World) : Prop := ∃ row, w.grownBy w' row ∧ ∀ k, row = some k → A ≤ k ∧ ∃ cur, w.heap[k]? = some (.cells cur e (0, 0))
theorem Grew.blk {A : Nat} {e : TypeId} {w w' : World} (h : Grew A e w w') {q : Nat} {t : TypeId} {m : Nat} {f : Nat → Value} (hb : Blk w q t m f) (hne : t ≠ e) : Blk w' q t m f := by
  obtain ⟨row, hg, hr⟩ := h
  refine hb.grown hg fun hq => ?_
  obtain ⟨_, c2, hc2⟩ := hr q hq.symm
  obtain ⟨c3, hc3, _⟩ := hb
  rw [hc3] at hc2
  cases hc2
  exact hne rfl
theorem Grew.low {A : Nat} {e : TypeId} {w w' : World} (h : Grew A e w w') {q : Nat} {t : TypeId} {m : Nat} {f : Nat → Value} (hb : Blk w q t m f) (hq : q < A) : Blk w' q t m f := by
  obtain ⟨row, hg, hr⟩ := h
  exact hb.grown hg fun hq' => by have := (hr q hq'.symm).1; omega
theorem Grew.below {A A' : Nat} {e : TypeId} {w0 w w' : World} (h : Grew A e w w') (hB : Below A' w0 w) (hA : A' ≤ A) (hs : A' ≤ w.heap.size) : Below A' w0 w' := by
  obtain ⟨row, hg, hr⟩ := h
  exact hB.grown hg hs fun k hk => by have := (hr k hk).1; omega
theorem Room.grew {A B : Nat} {t : TypeId} {w w2 : World} {sz c : Nat} {a : Option Addr} {e : TypeId} (h : Room A w t sz a c) (hg : Grew B e w w2) (hne : t ≠ e) : Room A w2 t sz a c := by
  obtain ⟨row, hg, hr⟩ := hg
  refine h.same fun g cur hgc => hg.block g (Array.getElem?_eq_some_iff.1 hgc).1 fun hq => ?_
  obtain ⟨_, c2, hc2⟩ := hr g hq.symm
  rw [hgc] at hc2
  cases hc2
  exact hne rfl
theorem OwnI.grew {A B : Nat} {w w2 : World} {r : Rw} {e : TypeId} (h : OwnI A w r) (hg : Grew B e w w2) (hne : 3 ≠ e) : OwnI A w2 r := by
  obtain ⟨g, ha, h0, h1, h2, hb⟩ := h
  exact ⟨g, ha, h0, h1, h2, hg.blk hb hne⟩
theorem OwnH.grew {A B : Nat} {t : TypeId} {w w2 : World} {s : Hs} {e : TypeId} (h : OwnH A t w s) (hg : Grew B e w w2) (hne : t ≠ e) : OwnH A t w2 s := by
  obtain ⟨h1, h2, h3, h4⟩ := h
  refine ⟨h1, h2, h3, fun hn => ?_⟩
  obtain ⟨g, ha, hA, hb⟩ := h4 hn
  exact ⟨g, ha, hA, hg.blk hb hne⟩
theorem owns_mono {A A' : Nat} {w : World} {e : TypeId} {size : Nat} {v : Value} {n : Nat} {xs : List Value} (h : w.ownsRow A e size v n xs) (hA : A' ≤ A) : w.ownsRow A' e size v n xs :=
  ⟨h.1, h.2.imp_right fun ⟨g, cap, cur, h1, h2, h3⟩ => ⟨g, cap, cur, h1, Nat.le_trans hA h2, h3⟩⟩
theorem owns_of {A : Nat} {w : World} {e : TypeId} {size g c n : Nat} {cur : Array Value} {xs : List Value} (hA : A ≤ g) (hg : w.heap[g]? = some (.cells cur e (0, 0))) (hsz : cur.size = c * size) (hle : n ≤ c) (hcap : c ≤ maxLen) (hl : xs.length = n * size)
    (hb : 0 < n → Blk w g e (n * size) (fun j => xs.getD j default)) : w.ownsRow A e size (.slice (some ⟨g, 0, none⟩) n c) n xs := by
  refine ⟨hl, Or.inr ⟨g, c, cur, rfl, hA, hg, hle, hcap, hsz, ?_⟩⟩
  apply List.ext_getElem?
  intro j
  rw [List.getElem?_take]
  by_cases hj : j < n * size
  · rw [if_pos hj]
    have hn : 0 < n := by
      rcases Nat.eq_zero_or_pos n with h | h
      · subst h; simp at hj
      · exact h
    obtain ⟨cur', hc, _, hf⟩ := hb hn
    rw [hg] at hc
    cases hc
    have h1 := hf j hj
    have h2 : j < xs.length := by omega
    rw [List.getElem?_eq_getElem h2]
    simp only [List.getD, List.getElem?_eq_getElem h2, Option.getD_some] at h1
    simpa using h1
  · rw [if_neg hj, List.getElem?_eq_none (by omega)]
theorem wpList_append_room {P : Program} (w : World) {ops : Array Oper} {rest : List Oper} {o : Oper} {a : Act} {Q : Exit → Act → World → Prop}
    (hg : o.guard = none) (s x : Operand) (t : TypeId) (hop : o.op = Op.call { callee := Callee.builtin Builtin.append, args := #[s, x], argTypes := #[t, t] })
    (A : Nat) (e : TypeId) (i : TypeInfo) (z : Value) (size bytes : Nat) (h1 : P.underlying t = some (.slice e)) (h2 : P.info? e = some i) (h3 : i.zero = some z) (h4 : i.size = size) (h5 : i.bytes = bytes) (h6 : z.cells.size = size) (h7 : 0 < size)
    (ao : Option Addr) (n c : Nat) (xs : List Value) (hs : a.eval s = .slice ao n c) (hroom : Room A w e size ao c) (hle : n ≤ c) (hcap : c ≤ maxLen) (hlo : xs.length = n * size) (hblk : 0 < n → ∃ g, ao = some ⟨g, 0, none⟩ ∧ A ≤ g ∧ Blk w g e (n * size) (fun j => xs.getD j default))
    (ad : Addr) (m c' : Nat) (news : List Value) (hx : a.eval x = .slice (some ad) m c') (hn : news.length = m * size) (hc : ∀ j u, news[j]? = some u → w.cell? (ad.add j) = some u) (h1c : ∀ u ∈ news, u.oneCell' = true)
    (hm : 0 < m) (b1 : n + m ≤ maxLen) (b2 : (n + m) * bytes ≤ 140737488355328) (hA : A ≤ w.heap.size)
    (hK : ∀ v' w', w'.ownsRow A e size v' (n + m) (xs ++ news) → Grew A e w w' → wpList P ops Q rest (a.put o.dst v') w') :
    wpList P ops Q (o :: rest) a w := by
  rcases hroom with h0 | ⟨g, cur, ha, hA', hgc, hsz⟩
  · subst h0
    have hn0 : n = 0 := by omega
    subst hn0
    obtain rfl : xs = [] := List.eq_nil_of_length_eq_zero (by simpa using hlo)
    refine wpList_append_grows w hg s x t hop e i z size bytes h1 h2 h3 h4 h5 h6 h7 ao 0 0 [] hs (fun _ => ⟨rfl, rfl⟩) (by simp) (fun b _ j u hj => by simp at hj) ad m c' news hx hn hc h1c (by omega) b1 b2 fun v' w' r1 r2 => ?_
    exact hK v' w' (owns_mono r1 hA) ⟨none, r2, fun k hk => by cases hk⟩
  · subst ha
    have hown := owns_of (w := w) (e := e) hA' hgc hsz hle hcap hlo (fun h => by
      obtain ⟨g', e1, _, hb⟩ := hblk h
      simp only [Option.some.injEq, Addr.mk.injEq, and_true] at e1
      subst e1
      exact hb)
    refine wpList_append_own w hg s x t hop A e i z size bytes h1 h2 h3 h4 h5 h6 h7 _ n xs hs hown ad m c' news hx hn hc h1c b1 b2 hA fun v' w' r1 r2 _ => ?_
    refine hK v' w' r1 ⟨_, r2, fun k hk => ?_⟩
    simp only [Value.ownBlock, Option.some.injEq] at hk
    subst hk
    exact ⟨hA', cur, hgc⟩
def moreO (s : Os) (x : Od) (i : Nat) : Od := if i = s.n then x else s.z i
theorem flatO_more (s : Os) (x : Od) : flatO s.n s.z ++ odCells x = flatO (s.n + 1) (moreO s x) := by
  rw [flatO, flatO_congr (z' := moreO s x) fun i hi => by unfold moreO; rw [if_neg (by omega)]]
  congr 1
  unfold moreO
  rw [if_pos rfl]
theorem OwnO.more {A : Nat} {w w' : World} {s : Os} {x : Od} {v : Value} (h : OwnO A w s) (ho : w'.ownsRow A 51 2 v (s.n + 1) (flatO s.n s.z ++ odCells x)) (hg : Grew A 51 w w')
    {B : Nat} (ha : x.ls.a = some ⟨B, 0, none⟩) (hB : A ≤ B) (hl : x.ls.n ≤ x.ls.c) (hc : x.ls.c ≤ maxLen) (hk : Blk w B 53 (x.ls.n * 4) (fun j => (flatH x.ls.n x.ls.z).getD j default)) (hap : ∀ i, i < s.n → (s.z i).ls.a ≠ x.ls.a) :
    ∃ va vc, v = .slice va (s.n + 1) vc ∧ OwnO A w' ⟨va, s.n + 1, vc, moreO s x⟩ := by
  have hv : v ≠ .slice none 0 0 := by
    rintro rfl
    rcases ho.2 with ⟨_, h0⟩ | ⟨g2, cap2, cur2, h, _⟩
    · omega
    · cases h
  have ho' := ho
  rw [flatO_more] at ho'
  obtain ⟨g, c, rfl, h1, h2, h3, h4⟩ := Blk.ofOwns ho' hv
  refine ⟨some ⟨g, 0, none⟩, c, rfl, h1, h2, fun _ => ⟨g, rfl, h3, h4⟩, fun i hi => ?_, fun i j hij hj => ?_, Room.ofOwns ho (Nat.le_refl _)⟩
  · show ∃ B, (moreO s x i).ls.a = _ ∧ A ≤ B ∧ (moreO s x i).ls.n ≤ (moreO s x i).ls.c ∧ (moreO s x i).ls.c ≤ maxLen ∧ Blk w' B 53 ((moreO s x i).ls.n * 4) (fun j => (flatH (moreO s x i).ls.n (moreO s x i).ls.z).getD j default)
    have hi' : i < s.n + 1 := hi
    unfold moreO
    by_cases hin : i = s.n
    · rw [if_pos hin]
      exact ⟨B, ha, hB, hl, hc, hg.blk hk (by decide)⟩
    · rw [if_neg hin]
      obtain ⟨B', a1, a2, a3, a4, a5⟩ := h.lines i (by omega)
      exact ⟨B', a1, a2, a3, a4, hg.blk a5 (by decide)⟩
  · have hj' : j < s.n + 1 := hj
    show (moreO s x i).ls.a ≠ (moreO s x j).ls.a
    unfold moreO
    rw [if_neg (by omega)]
    by_cases hjn : j = s.n
    · rw [if_pos hjn]
      exact hap i (by omega)
    · rw [if_neg hjn]
      exact h.apart i j hij (by omega)
end Go.Proofs.Ytbcacebifpagpac
namespace Go.Proofs.Ytbcacebifpagpac
open Go.RowKit Go.Shelf Go.Sort
set_option linter.unusedVariables false
theorem OwnS.orders {A B : Nat} {w w' : World} {s : St} {os : Os} (h : OwnS A w s) (hg : Grew B 51 w w') (ho : OwnO A w' os) : OwnS A w' ⟨s.on, os, s.hs, s.ms, s.si, s.so, s.sf⟩ := by
  refine ⟨?_, fun i hi => (h.rows i hi).grew hg (by decide), h.rapart, ho, h.hs.grew hg (by decide), h.ms.grew hg (by decide), h.msr.grew hg (by decide), h.si.grew hg (by decide), h.so.grew hg (by decide), h.sf.grew hg (by decide), h.aio, h.aif, h.aof, h.ari⟩
  obtain ⟨g, a, b, c, d, e⟩ := h.on
  exact ⟨g, a, b, c, d, hg.blk e (by decide)⟩
theorem enter_same {o s : St} {l l' : Hs} {a : Option Addr} {c : Nat} (h : SameT o s) (hn : l'.n = l.n) (hz : ∀ j, j < l.n → l'.z j = l.z j) : SameT ⟨o.on, ⟨a, o.os.n + 1, c, moreO o.os ⟨0, l'⟩⟩, o.hs, o.ms, o.si, o.so, o.sf⟩ (enterT s l) := by
  have hon : o.os.n = s.os.n := h.os.1
  refine ⟨h.on, ⟨by show o.os.n + 1 = s.os.n + 1; omega, fun i hi => ?_⟩, h.hs, h.ms, h.si, h.so, h.sf⟩
  have hi' : i < o.os.n + 1 := hi
  show (moreO o.os ⟨0, l'⟩ i).k = (if i = s.os.n then (⟨0, l⟩ : Od) else s.os.z i).k ∧ (moreO o.os ⟨0, l'⟩ i).ls.n = (if i = s.os.n then (⟨0, l⟩ : Od) else s.os.z i).ls.n ∧ ∀ j, j < (moreO o.os ⟨0, l'⟩ i).ls.n → (moreO o.os ⟨0, l'⟩ i).ls.z j = (if i = s.os.n then (⟨0, l⟩ : Od) else s.os.z i).ls.z j
  unfold moreO
  by_cases hin : i = s.os.n
  · rw [if_pos (by omega), if_pos hin]
    exact ⟨rfl, hn, fun j hj => hz j (by rw [← hn]; exact hj)⟩
  · rw [if_neg (by omega), if_neg hin]
    exact h.os.2 i (by omega)
set_option maxRecDepth 100000 in
set_option maxHeartbeats 8000000 in
theorem EnterOwn_any (p : Pl) (s : St) (l : Hs) (w : World) (hp : p.At w) (hs : s.At w) (hl : l.At w) :
    Calls Try.prog 24 #[p.val, s.val, l.val] w fun e w' => ∃ s' : St, e = .returned (.tuple #[s'.val, .int .i64 (enterE p s l)]) ∧ s'.At w' ∧ ActOK (enterE p s l) (enterT s l) s' ∧ (enterE p s l = 0 → OwnS w.heap.size w' s') ∧ Below w.heap.size w w' := by
  obtain ⟨W0, hW, hWB, X0, Z0⟩ : ∃ W, (((w.alloc (.cells #[.slice p.ab p.nb p.cb, .slice p.sa p.ns p.cs] 25)).alloc (.cells s.cells 31)).alloc (.cells #[.slice .none 0 0, .slice .none 0 0, .slice .none 0 0, .slice .none 0 0, .slice .none 0 0, .slice .none 0 0, .slice .none 0 0] 31)) = W ∧ Below w.heap.size w W ∧ Boxes W w.heap.size (w.heap.size + 1) p s ∧ Blk W (w.heap.size + 2) 31 7 (fun _ => .slice .none 0 0) :=
    ⟨_, rfl, (two_below _ _ _).alloc (by simp; omega) _, (boxes_new w p s _ _).below ((Below.refl _ _).alloc (Nat.le_refl _) _), (Blk.mk' (cur := #[.slice .none 0 0, .slice .none 0 0, .slice .none 0 0, .slice .none 0 0, .slice .none 0 0, .slice .none 0 0, .slice .none 0 0]) (by simp) rfl).congr (fun j hj => by match j, hj with | 0, _ => rfl | 1, _ => rfl | 2, _ => rfl | 3, _ => rfl | 4, _ => rfl | 5, _ => rfl | 6, _ => rfl)⟩
  have HC : Hid (∀ wk, Below W0.heap.size W0 wk → Boxes wk w.heap.size (w.heap.size + 1) p s ∧ p.At wk ∧ s.At wk ∧ Below w.heap.size w wk ∧ Blk wk (w.heap.size + 2) 31 7 (fun _ => .slice .none 0 0) ∧ l.At wk) := fun wk h => ⟨X0.below h, (hp.below hWB).below h, (hs.below hWB).below h, hWB.trans (h.mono hWB.size), Z0.below h, (hl.below hWB).below h⟩
  have HW : Hid (((w.alloc (.cells #[.slice p.ab p.nb p.cb, .slice p.sa p.ns p.cs] 25)).alloc (.cells #[.slice s.on.a s.on.n s.on.c, .slice s.os.a s.os.n s.os.c, .slice s.hs.a s.hs.n s.hs.c, .slice s.ms.a s.ms.n s.ms.c, .slice s.si.a s.si.n s.si.c, .slice s.so.a s.so.n s.so.c, .slice s.sf.a s.sf.n s.sf.c] 31)).alloc (.cells #[.slice .none 0 0, .slice .none 0 0, .slice .none 0 0, .slice .none 0 0, .slice .none 0 0, .slice .none 0 0, .slice .none 0 0] 31) = W0) := hW
  have leb := hp.leb
  have capb0 := hp.capb
  have les := hp.les
  have caps0 := hp.caps
  have capb := capb0
  have caps := caps0
  have zlt0 := Z0.lt
  unfold maxLen at capb caps
  have lle := hl.le
  have lcap0 := hl.cap
  have lcap := lcap0
  unfold maxLen at lcap
  clear hW X0 Z0 hp hs hl
  unfold Pl.val St.val Hs.val
  go_enter Try.func24, Try.ntmps24
  go_wp2_with fail
  rw [HW.out]
  obtain ⟨X, hpk, hsk, hBw, hz, hlk⟩ := HC.out W0 (Below.refl _ _)
  refine (stateCheck_any p s W0 hpk hsk).mono ?_
  rintro e w1 ⟨rfl, hB⟩
  clear X hpk hsk hBw hz hlk HW
  obtain ⟨⟨⟨l1, d0, d1⟩, l2, c0, c1, c2, c3, c4, c5, c6⟩, hpk, hsk, hBw, hz, hlk⟩ := HC.out w1 hB
  by_cases h0 : stateE p s = 0
  · have H0 : Hid (stateE p s = 0) := h0
    have HF : Hid (Formed p s) := (rightT h0).fm
    rw [h0]
    clear h0
    by_cases k1 : s.os.n = 4
    · have HX : Hid (enterE p s l = 2) := enterE_many H0.out (Or.inl k1)
      have q1 : ((s.os.n : Int) == 4) = true := by rw [k1]; rfl
      clear k1
      clear hpk hsk hlk
      have zl := hz.lt
      have zf0 := hz.frozen 0
      have zc0 := hz.cell (j := 0) (by decide)
      have zf1 := hz.frozen 1
      have zc1 := hz.cell (j := 1) (by decide)
      have zf2 := hz.frozen 2
      have zc2 := hz.cell (j := 2) (by decide)
      have zf3 := hz.frozen 3
      have zc3 := hz.cell (j := 3) (by decide)
      have zf4 := hz.frozen 4
      have zc4 := hz.cell (j := 4) (by decide)
      have zf5 := hz.frozen 5
      have zc5 := hz.cell (j := 5) (by decide)
      have zf6 := hz.frozen 6
      have zc6 := hz.cell (j := 6) (by decide)
      go_wp2_with (go_at_call 55; refine calls_to (Within_any _ _ _ _) ?_)
      have KZ := set7_blk hz (.slice .none 0 0) (.slice .none 0 0) (.slice .none 0 0) (.slice .none 0 0) (.slice .none 0 0) (.slice .none 0 0) (.slice .none 0 0)
      have hbz := set7_below (b := w.heap.size + 2) hBw (by omega) (.slice .none 0 0) (.slice .none 0 0) (.slice .none 0 0) (.slice .none 0 0) (.slice .none 0 0) (.slice .none 0 0) (.slice .none 0 0)
      unfold set7 at KZ hbz
      obtain ⟨c0', c1', c2', c3', c4', c5', c6'⟩ := box_cells KZ
      refine bodyPost_ret (v := .tuple #[noneS.val, .int .i64 2]) (by simp [results, Try.results24, go_sem, noneS, St.val, c0', c1', c2', c3', c4', c5', c6']) rfl ?_
      exact ⟨noneS, by rw [HX.out]; rfl, noneS_at _, ⟨fun h => absurd h (by rw [HX.out]; decide), fun _ => ⟨rfl, rfl, rfl, rfl, rfl, rfl, rfl⟩⟩, fun h => absurd h (by rw [HX.out]; decide), hbz⟩
    have q1 : ((s.os.n : Int) == 4) = false := by simp; omega
    cases k2 : inB l.n 1 3
    · have HX : Hid (enterE p s l = 2) := enterE_many H0.out (Or.inr (by have := inB_false k2; omega))
      clear k1
      clear hpk hsk hlk
      have zl := hz.lt
      have zf0 := hz.frozen 0
      have zc0 := hz.cell (j := 0) (by decide)
      have zf1 := hz.frozen 1
      have zc1 := hz.cell (j := 1) (by decide)
      have zf2 := hz.frozen 2
      have zc2 := hz.cell (j := 2) (by decide)
      have zf3 := hz.frozen 3
      have zc3 := hz.cell (j := 3) (by decide)
      have zf4 := hz.frozen 4
      have zc4 := hz.cell (j := 4) (by decide)
      have zf5 := hz.frozen 5
      have zc5 := hz.cell (j := 5) (by decide)
      have zf6 := hz.frozen 6
      have zc6 := hz.cell (j := 6) (by decide)
      go_wp2_with (go_at_call 55; refine calls_to (Within_any _ _ _ _) ?_)
      have KZ := set7_blk hz (.slice .none 0 0) (.slice .none 0 0) (.slice .none 0 0) (.slice .none 0 0) (.slice .none 0 0) (.slice .none 0 0) (.slice .none 0 0)
      have hbz := set7_below (b := w.heap.size + 2) hBw (by omega) (.slice .none 0 0) (.slice .none 0 0) (.slice .none 0 0) (.slice .none 0 0) (.slice .none 0 0) (.slice .none 0 0) (.slice .none 0 0)
      unfold set7 at KZ hbz
      obtain ⟨c0', c1', c2', c3', c4', c5', c6'⟩ := box_cells KZ
      refine bodyPost_ret (v := .tuple #[noneS.val, .int .i64 2]) (by simp [results, Try.results24, go_sem, noneS, St.val, c0', c1', c2', c3', c4', c5', c6']) rfl ?_
      exact ⟨noneS, by rw [HX.out]; rfl, noneS_at _, ⟨fun h => absurd h (by rw [HX.out]; decide), fun _ => ⟨rfl, rfl, rfl, rfl, rfl, rfl, rfl⟩⟩, fun h => absurd h (by rw [HX.out]; decide), hbz⟩
    have hl3 := inB_true k2
    have HM : Hid (¬ (s.os.n = 4 ∨ ¬ (1 ≤ l.n ∧ l.n ≤ 3))) := by show ¬ _; omega
    clear k1
    have HLK : Hid (l.At w1) := hlk
    clear hz hpk hsk hlk
    go_wp2_with (go_at_call 55; refine calls_to (Within_any _ _ _ _) ?_)
    refine (anyL4 61 #[.pointer (some ⟨w.heap.size, 0, none⟩)] (fun j => outL p (l.z j)) _ _ _ _ lle lcap0 l.z HLK.out.hds (enters_of Try.func61 (by kernel_rfl) rfl) (fun i w2 _ h => Enter1_any w.heap.size p _ w2 les caps0 (Nat.lt_of_lt_of_le l1 h.size) ((h.cell (p := ⟨w.heap.size, 1, none⟩) l1).trans d1))).mono ?_
    rintro e w2 ⟨rfl, hB2⟩
    have hB := hB.trans (hB2.mono hB.size)
    clear l1 d0 d1 l2 c0 c1 c2 c3 c4 c5 c6 hBw hB2 HLK q1 k2
    obtain ⟨⟨⟨l1, d0, d1⟩, l2, c0, c1, c2, c3, c4, c5, c6⟩, hpk, hsk, hBw, hz, hlk⟩ := HC.out w2 hB
    cases k3 : anyB l.n (fun j => outL p (l.z j))
    rotate_left
    · have HX : Hid (enterE p s l = 3) := enterE_range H0.out HM.out k3
      clear k3
      clear hpk hsk hlk
      have zl := hz.lt
      have zf0 := hz.frozen 0
      have zc0 := hz.cell (j := 0) (by decide)
      have zf1 := hz.frozen 1
      have zc1 := hz.cell (j := 1) (by decide)
      have zf2 := hz.frozen 2
      have zc2 := hz.cell (j := 2) (by decide)
      have zf3 := hz.frozen 3
      have zc3 := hz.cell (j := 3) (by decide)
      have zf4 := hz.frozen 4
      have zc4 := hz.cell (j := 4) (by decide)
      have zf5 := hz.frozen 5
      have zc5 := hz.cell (j := 5) (by decide)
      have zf6 := hz.frozen 6
      have zc6 := hz.cell (j := 6) (by decide)
      go_wp2_with fail
      have KZ := set7_blk hz (.slice .none 0 0) (.slice .none 0 0) (.slice .none 0 0) (.slice .none 0 0) (.slice .none 0 0) (.slice .none 0 0) (.slice .none 0 0)
      have hbz := set7_below (b := w.heap.size + 2) hBw (by omega) (.slice .none 0 0) (.slice .none 0 0) (.slice .none 0 0) (.slice .none 0 0) (.slice .none 0 0) (.slice .none 0 0) (.slice .none 0 0)
      unfold set7 at KZ hbz
      obtain ⟨c0', c1', c2', c3', c4', c5', c6'⟩ := box_cells KZ
      refine bodyPost_ret (v := .tuple #[noneS.val, .int .i64 3]) (by simp [results, Try.results24, go_sem, noneS, St.val, c0', c1', c2', c3', c4', c5', c6']) rfl ?_
      exact ⟨noneS, by rw [HX.out]; rfl, noneS_at _, ⟨fun h => absurd h (by rw [HX.out]; decide), fun _ => ⟨rfl, rfl, rfl, rfl, rfl, rfl, rfl⟩⟩, fun h => absurd h (by rw [HX.out]; decide), hbz⟩
    have K3 : Hid (¬ anyB l.n (fun j => outL p (l.z j)) = true) := by show ¬ _; rw [k3]; decide
    clear k3
    have HLK : Hid (l.At w2) := hlk
    clear hz hpk hsk hlk
    go_wp2_with fail
    refine (anyL4 62 #[] (fun j => begunL (l.z j)) _ _ _ _ lle lcap0 l.z HLK.out.hds (enters_of Try.func62 (by kernel_rfl) rfl) (fun i w2 _ h => by rw [Array.append_empty]; exact Enter2_any _ _)).mono ?_
    rintro e w3 ⟨rfl, hB2⟩
    have hB := hB.trans (hB2.mono hB.size)
    clear l1 d0 d1 l2 c0 c1 c2 c3 c4 c5 c6 hBw hB2 HLK
    obtain ⟨⟨⟨l1, d0, d1⟩, l2, c0, c1, c2, c3, c4, c5, c6⟩, hpk, hsk, hBw, hz, hlk⟩ := HC.out w3 hB
    cases k4 : anyB l.n (fun j => begunL (l.z j))
    rotate_left
    · have HX : Hid (enterE p s l = 1) := enterE_form H0.out HM.out K3.out k4
      clear k4
      clear hpk hsk hlk
      have zl := hz.lt
      have zf0 := hz.frozen 0
      have zc0 := hz.cell (j := 0) (by decide)
      have zf1 := hz.frozen 1
      have zc1 := hz.cell (j := 1) (by decide)
      have zf2 := hz.frozen 2
      have zc2 := hz.cell (j := 2) (by decide)
      have zf3 := hz.frozen 3
      have zc3 := hz.cell (j := 3) (by decide)
      have zf4 := hz.frozen 4
      have zc4 := hz.cell (j := 4) (by decide)
      have zf5 := hz.frozen 5
      have zc5 := hz.cell (j := 5) (by decide)
      have zf6 := hz.frozen 6
      have zc6 := hz.cell (j := 6) (by decide)
      go_wp2_with fail
      have KZ := set7_blk hz (.slice .none 0 0) (.slice .none 0 0) (.slice .none 0 0) (.slice .none 0 0) (.slice .none 0 0) (.slice .none 0 0) (.slice .none 0 0)
      have hbz := set7_below (b := w.heap.size + 2) hBw (by omega) (.slice .none 0 0) (.slice .none 0 0) (.slice .none 0 0) (.slice .none 0 0) (.slice .none 0 0) (.slice .none 0 0) (.slice .none 0 0)
      unfold set7 at KZ hbz
      obtain ⟨c0', c1', c2', c3', c4', c5', c6'⟩ := box_cells KZ
      refine bodyPost_ret (v := .tuple #[noneS.val, .int .i64 1]) (by simp [results, Try.results24, go_sem, noneS, St.val, c0', c1', c2', c3', c4', c5', c6']) rfl ?_
      exact ⟨noneS, by rw [HX.out]; rfl, noneS_at _, ⟨fun h => absurd h (by rw [HX.out]; decide), fun _ => ⟨rfl, rfl, rfl, rfl, rfl, rfl, rfl⟩⟩, fun h => absurd h (by rw [HX.out]; decide), hbz⟩
    have HX : Hid (enterE p s l = 0) := enterE_ok H0.out HM.out K3.out (by rw [k4]; decide)
    clear k4 K3 HM
    have hz0 := hz.lt
    have hcs := copyState_any p s w3 hsk HF.out
    have HCS : Hid _ := hcs
    have HLK : Hid (l.At w3) := hlk
    clear hcs hz hlk hpk hsk
    go_wp2_with fail
    refine Calls.mono HCS.out ?_
    rintro e w4 ⟨o, rfl, hsame, hown, hB2⟩
    clear HCS
    have hB4 := hB.trans (hB2.mono hB.size)
    have q3 := hB.size
    have HLOW : Hid (w.heap.size ≤ w3.heap.size) := Nat.le_trans (HC.out _ (Below.refl _ _)).2.2.2.1.size hB.size
    have q4 := hB2.size
    obtain ⟨W5, hW5, hBW5, KW5⟩ : ∃ W, w4.alloc (.cells #[.slice o.on.a o.on.n o.on.c, .slice o.os.a o.os.n o.os.c, .slice o.hs.a o.hs.n o.hs.c, .slice o.ms.a o.ms.n o.ms.c, .slice o.si.a o.si.n o.si.c, .slice o.so.a o.so.n o.so.c, .slice o.sf.a o.sf.n o.sf.c] 31) = W ∧ Below w4.heap.size w4 W ∧ Blk W w4.heap.size 31 7 (fun j => o.cells.getD j default) := ⟨_, rfl, (Below.refl _ _).alloc (Nat.le_refl _) _, Blk.mk' rfl rfl⟩
    have HW5 : Hid (w4.alloc (.cells #[.slice o.on.a o.on.n o.on.c, .slice o.os.a o.os.n o.os.c, .slice o.hs.a o.hs.n o.hs.c, .slice o.ms.a o.ms.n o.ms.c, .slice o.si.a o.si.n o.si.c, .slice o.so.a o.so.n o.so.c, .slice o.sf.a o.sf.n o.sf.c] 31) = W5) := hW5
    have hB5 := hB4.trans (hBW5.mono hB4.size)
    have hown5 := OwnS.below hown hBW5
    have hlk5 := (HLK.out.below hB2).below hBW5
    have q5 := hBW5.size
    have on4 : o.os.n ≤ 4 := by have := HF.out.os4; have : o.os.n = s.os.n := hsame.os.1; omega
    clear l1 d0 d1 l2 c0 c1 c2 c3 c4 c5 c6 hBw hz0 hW5
    simp only [St.val]
    go_wp2_with fail
    rw [HW5.out]
    have HOW : Hid (OwnS w3.heap.size W5 o ∧ Blk W5 w4.heap.size 31 7 (fun j => o.cells.getD j default) ∧ SameT o s) := ⟨hown5, KW5, hsame⟩
    have HL5 : Hid (l.At W5) := hlk5
    have r0 : ∀ d os, (grow (redrawn W5 d) os).cell? ⟨w4.heap.size, 1, none⟩ = some (.slice o.os.a o.os.n o.os.c) := fun d os => cell_regrown (KW5.cell (j := 1) (by decide)) d os
    have xl5 : w4.heap.size < W5.heap.size := KW5.lt
    clear hown hown5 KW5 hsame hlk5 HLK HW5 hBW5 hB2
    obtain ⟨iO, hO, hO0, hO1, hO2⟩ := info_parts infoOrderC
    refine wp_region_made6 (fun w' => ∃ p : Regrown, w' = grow (redrawn W5 p.d) p.os) [0, 1, 2] [3, 4, 5] [(true, 6), (true, 7), (true, 8)] (by kernel_rfl) (by kernel_rfl) (by kernel_rfl) (by kernel_rfl) (by kernel_rfl) (by kernel_rfl) (by kernel_rfl) (by kernel_rfl) (by kernel_rfl) (regrown_of_below ((Below.refl _ _).drew)) ?_
    simp only [picks, List.drop_succ_cons, List.drop_zero, List.take_succ_cons, List.take_zero, List.cons_append, List.nil_append]
    repeat (go_big_quiet_step (fail))
    refine wpQuiet_nil ?_
    clear r0
    refine ⟨fun j v g wk => match j with | 3 => DHs W5.heap.size 53 l v g wk | 4 => D16 W5.heap.size ⟨0, l⟩ v g wk | 5 => D17 W5.heap.size ⟨0, l⟩ v g wk | _ => True,
      List.forall_mem_cons.2 ⟨fun v g w w' hB h => DHs.below h hB, List.forall_mem_cons.2 ⟨fun v g w w' hB h => D16.below h hB, List.forall_mem_cons.2 ⟨fun v g w w' hB h => D17.below h hB, List.forall_mem_nil _⟩⟩⟩,
      List.forall_mem_cons.2 ⟨fun v g w h => by obtain ⟨_, h1, _⟩ := h; rw [h1]; intro x hx; simp at hx, List.forall_mem_cons.2 ⟨fun v g w h => by obtain ⟨_, h1, _⟩ := h; rw [h1]; intro x hx; simp at hx, List.forall_mem_cons.2 ⟨fun v g w h => by obtain ⟨_, _, h1, _⟩ := h; rw [h1]; intro x hx; simp at hx, List.forall_mem_nil _⟩⟩⟩,
      List.forall_mem_cons.2 ⟨?zt3, List.forall_mem_cons.2 ⟨?zt4, List.forall_mem_cons.2 ⟨?zt5, List.forall_mem_nil _⟩⟩⟩, ?ztdone⟩
    case zt3 =>
      intro V G wk K hS hd hA hK
      have hX := below_of_regrown hS
      have q := hX.size
      refine wpOp_list 3 rfl ?_
      simp only [putAll, dstOf, List.getElem?_toArray, List.getElem?_cons_succ, List.getElem?_cons_zero, Act.put, List.setIfInBounds_toArray, List.set_cons_succ, List.set_cons_zero] at hK ⊢
      go_wp2_with fail
      refine (CloneLine_any l wk (HL5.out.below hX) (by omega)).mono ?_
      rintro e w2 ⟨s', rfl, hc, hB2⟩
      have HR : Hid (Cloned W5.heap.size 53 l w2 s') := ⟨hc.1, hc.2.1, hc.2.2.1.mono (by omega), hc.2.2.2.mono (by omega)⟩
      clear hc
      simp only [Hs.val]
      go_wp2_with fail
      exact hK _ [] _ (regrown_of_below (hX.trans (hB2.mono hX.size))) hB2 (fun x hx => by simp at hx) ⟨s', rfl, rfl, HR.out⟩
    case zt4 =>
      intro V G wk K hS hd hA hK
      obtain ⟨s', -, h15, hc⟩ : DHs W5.heap.size 53 l (V 3) (G 3) wk := hd 3 (List.contains_iff_mem.1 (by kernel_rfl)) (by simp)
      have HCL : Hid (Cloned W5.heap.size 53 l wk s') := hc
      clear hc
      refine wpOp_list 4 rfl ?_
      simp only [putAll, dstOf, List.getElem?_toArray, List.getElem?_cons_succ, List.getElem?_cons_zero, Act.put, List.setIfInBounds_toArray, List.set_cons_succ, List.set_cons_zero, h15] at hK ⊢
      go_wp2_with fail
      exact hK _ [] _ hS (Below.refl _ _) (fun x hx => by simp at hx) ⟨s', rfl, rfl, HCL.out⟩
    case zt5 =>
      intro V G wk K hS hd hA hK
      have hX := below_of_regrown hS
      obtain ⟨s', -, h16, hc⟩ : D16 W5.heap.size ⟨0, l⟩ (V 4) (G 4) wk := hd 4 (List.contains_iff_mem.1 (by kernel_rfl)) (by simp)
      have HCL : Hid (Cloned W5.heap.size 53 l wk s') := hc
      clear hc
      refine wpOp_list 5 rfl ?_
      simp only [putAll, dstOf, List.getElem?_toArray, List.getElem?_cons_succ, List.getElem?_cons_zero, Act.put, List.setIfInBounds_toArray, List.set_cons_succ, List.set_cons_zero, h16] at hK ⊢
      go_wp2_with fail
      have hBa := (Below.refl wk.heap.size wk).alloc (Nat.le_refl _) (.cells #[.int .i64 0, .slice s'.a s'.n s'.c] 51)
      exact hK _ [] _ (regrown_of_below (hX.alloc hX.size _)) ((Below.refl _ _).alloc (Nat.le_refl _) _) (fun x hx => by simp at hx) ⟨wk.heap.size, s', rfl, rfl, hX.size, Blk.mk' rfl rfl, HCL.out.1, HCL.out.2.1, HCL.out.2.2.1.below hBa, HCL.out.2.2.2.below hBa⟩
    case ztdone =>
      intro V G' wk hS hD hA
      obtain ⟨BO, s', -, h17, m17, k17, e1, e2, ⟨o1, o2, o3, o4⟩, -⟩ : D17 W5.heap.size ⟨0, l⟩ (V 5) (G' 5) wk := hD 5 (by simp)
      have hX := below_of_regrown hS
      have q1 := hX.size
      obtain ⟨gB, ea, hgB, kB⟩ := o4 (by rw [e1]; show 0 < l.n; omega)
      obtain ⟨hO5, K5, hsame⟩ := HOW.out
      have hO6 := OwnS.below hO5 hX
      have K6 := K5.below hX
      have hBk := hB5.trans (hX.mono hB5.size)
      have HE : Hid (s'.n = l.n ∧ (∀ j, j < l.n → s'.z j = l.z j) ∧ s'.a = some ⟨gB, 0, none⟩ ∧ s'.n ≤ s'.c ∧ s'.c ≤ maxLen ∧ Blk wk gB 53 (s'.n * 4) (fun j => (flatH s'.n s'.z).getD j default) ∧ SameT o s ∧ W5.heap.size ≤ gB) := ⟨e1, e2, ea, o1, o2, kB, hsame, hgB⟩
      have HOK : Hid (OwnS w3.heap.size wk o ∧ OwnS w3.heap.size W5 o) := ⟨hO6, hO5⟩
      have HK6 : Hid (Blk wk w4.heap.size 31 7 (fun j => o.cells.getD j default)) := K6
      have HBk : Hid (Below W0.heap.size W0 wk) := hBk
      have HK17 : Hid (Blk wk BO 51 2 (fun j => (#[.int .i64 0, .slice s'.a s'.n s'.c] : Array Value).getD j default)) := k17
      clear hS hD hA e1 e2 ea o1 o2 o3 o4 kB hO5 K5 hsame hO6 K6 hBk k17 hB5
      simp only [putAll, dstOf, List.getElem?_toArray, List.getElem?_cons_succ, List.getElem?_cons_zero, Act.put, List.setIfInBounds_toArray, List.set_cons_succ, List.set_cons_zero, h17]
      refine wpSeq_one 6 rfl ?_
      go_wp2_with (at_builtin; refine wpList_append_room wk rfl (.tmp 45) (.tmp 49) 27 rfl w3.heap.size 51 iO (.agg #[.int .i64 0, .slice none 0 0]) 2 32 Try.underlying27 hO hO0 hO1 hO2 rfl (by decide) o.os.a o.os.n o.os.c (flatO o.os.n o.os.z) rfl HOK.out.1.os.room HOK.out.1.os.le HOK.out.1.os.cap (flatO_len _ _) HOK.out.1.os.list ⟨BO, 0, none⟩ 1 1 [.int .i64 0, .slice s'.a s'.n s'.c] rfl rfl ?zc1 ?zc2 (by decide) ?zc3 ?zc4 ?zc5 ?_)
      case zc1 =>
        intro j u hj
        match j, hj with
        | 0, hj => simp at hj; subst hj; exact HK17.out.cell (j := 0) (by decide)
        | 1, hj => simp at hj; subst hj; exact HK17.out.cell (j := 1) (by decide)
      case zc2 => first | (intro u hu; simp at hu; rcases hu with rfl | rfl <;> rfl) | exact ⟨rfl, rfl⟩
      case zc3 => unfold maxLen; omega
      case zc4 => omega
      case zc5 => omega
      intro v2 w2 hown2 hgrow2
      obtain ⟨e1, e2, ea, o1, o2, kB, hsame, hgB⟩ := HE.out
      obtain ⟨va, vc, rfl, hOO⟩ := OwnO.more (x := ⟨0, s'⟩) HOK.out.1.os hown2 hgrow2 ea (by omega) o1 o2 kB (fun i hi e => by
        obtain ⟨B, x1, x2, x3, x4, x5⟩ := HOK.out.2.os.lines i hi
        rw [x1] at e
        have e' := e.trans ea
        simp only [Option.some.injEq, Addr.mk.injEq, and_true] at e'
        have := x5.lt
        omega)
      have hOS2 := HOK.out.1.orders hgrow2 hOO
      have hB7 := hgrow2.below HBk.out (by omega) (by have := HBk.out.size; omega)
      have K7 := hgrow2.blk HK6.out (by decide)
      have xl := K7.lt
      have zf9 := K7.frozen 1
      have zc9 := K7.cell (j := 1) (by decide)
      have K8 := K7.set 1 (.slice va (o.os.n + 1) vc)
      have hO8 := hOS2.box K7 1 (.slice va (o.os.n + 1) vc)
      have hB8 := hB7.setCell (p := ⟨w4.heap.size, 1, none⟩) (by show W0.heap.size ≤ w4.heap.size; omega) (.slice va (o.os.n + 1) vc)
      have HSM : Hid (SameT ⟨o.on, ⟨va, o.os.n + 1, vc, moreO o.os ⟨0, s'⟩⟩, o.hs, o.ms, o.si, o.so, o.sf⟩ (enterT s l)) := enter_same hsame e1 e2
      obtain ⟨-, -, -, hBw8, hz8, -⟩ := HC.out _ hB8
      have HEND : Hid (OwnS w3.heap.size (w2.setCell ⟨w4.heap.size, 1, none⟩ (.slice va (o.os.n + 1) vc)) ⟨o.on, ⟨va, o.os.n + 1, vc, moreO o.os ⟨0, s'⟩⟩, o.hs, o.ms, o.si, o.so, o.sf⟩ ∧ Below w.heap.size w (w2.setCell ⟨w4.heap.size, 1, none⟩ (.slice va (o.os.n + 1) vc)) ∧ Blk (w2.setCell ⟨w4.heap.size, 1, none⟩ (.slice va (o.os.n + 1) vc)) (w.heap.size + 2) 31 7 (fun _ => .slice .none 0 0)) := ⟨hO8, hBw8, hz8⟩
      have m8 := K8.lt
      have e0' : (w2.setCell ⟨w4.heap.size, 1, none⟩ (.slice va (o.os.n + 1) vc)).cell? ⟨w4.heap.size, 0, none⟩ = some (.slice o.on.a o.on.n o.on.c) := K8.cell (j := 0) (by decide)
      have e1' : (w2.setCell ⟨w4.heap.size, 1, none⟩ (.slice va (o.os.n + 1) vc)).cell? ⟨w4.heap.size, 1, none⟩ = some (.slice va (o.os.n + 1) vc) := K8.cell (j := 1) (by decide)
      have e2' : (w2.setCell ⟨w4.heap.size, 1, none⟩ (.slice va (o.os.n + 1) vc)).cell? ⟨w4.heap.size, 2, none⟩ = some (.slice o.hs.a o.hs.n o.hs.c) := K8.cell (j := 2) (by decide)
      have e3' : (w2.setCell ⟨w4.heap.size, 1, none⟩ (.slice va (o.os.n + 1) vc)).cell? ⟨w4.heap.size, 3, none⟩ = some (.slice o.ms.a o.ms.n o.ms.c) := K8.cell (j := 3) (by decide)
      have e4' : (w2.setCell ⟨w4.heap.size, 1, none⟩ (.slice va (o.os.n + 1) vc)).cell? ⟨w4.heap.size, 4, none⟩ = some (.slice o.si.a o.si.n o.si.c) := K8.cell (j := 4) (by decide)
      have e5' : (w2.setCell ⟨w4.heap.size, 1, none⟩ (.slice va (o.os.n + 1) vc)).cell? ⟨w4.heap.size, 5, none⟩ = some (.slice o.so.a o.so.n o.so.c) := K8.cell (j := 5) (by decide)
      have e6' : (w2.setCell ⟨w4.heap.size, 1, none⟩ (.slice va (o.os.n + 1) vc)).cell? ⟨w4.heap.size, 6, none⟩ = some (.slice o.sf.a o.sf.n o.sf.c) := K8.cell (j := 6) (by decide)
      have zl := hz8.lt
      have zf0 := hz8.frozen 0
      have zc0 := hz8.cell (j := 0) (by decide)
      have zf1 := hz8.frozen 1
      have zc1 := hz8.cell (j := 1) (by decide)
      have zf2 := hz8.frozen 2
      have zc2 := hz8.cell (j := 2) (by decide)
      have zf3 := hz8.frozen 3
      have zc3 := hz8.cell (j := 3) (by decide)
      have zf4 := hz8.frozen 4
      have zc4 := hz8.cell (j := 4) (by decide)
      have zf5 := hz8.frozen 5
      have zc5 := hz8.cell (j := 5) (by decide)
      have zf6 := hz8.frozen 6
      have zc6 := hz8.cell (j := 6) (by decide)
      clear hown2 hgrow2 hOO hOS2 hB7 K7 K8 hO8 hB8 hBw8 hz8 HE HOK HK6 HBk HK17 kB hsame e1 e2 ea o1 o2 hgB hX
      refine wpList_end ⟨Late.yes, ?_⟩
      refine wpSeq_one 7 rfl ?_
      go_wp2_with fail
      refine ⟨Late.yes, ?_⟩
      refine wpSeq_one 8 rfl ?_
      go_wp2_with fail
      refine ⟨Late.yes, ?_⟩
      refine NoPanic.normal ?_
      go_wp2_with fail
      obtain ⟨hOt, hBw, hz⟩ := HEND.out
      have KZ := set7_blk hz (.slice o.on.a o.on.n o.on.c) (.slice va (o.os.n + 1) vc) (.slice o.hs.a o.hs.n o.hs.c) (.slice o.ms.a o.ms.n o.ms.c) (.slice o.si.a o.si.n o.si.c) (.slice o.so.a o.so.n o.so.c) (.slice o.sf.a o.sf.n o.sf.c)
      have hbz := set7_below (b := w.heap.size + 2) hBw (by omega) (.slice o.on.a o.on.n o.on.c) (.slice va (o.os.n + 1) vc) (.slice o.hs.a o.hs.n o.hs.c) (.slice o.ms.a o.ms.n o.ms.c) (.slice o.si.a o.si.n o.si.c) (.slice o.so.a o.so.n o.so.c) (.slice o.sf.a o.sf.n o.sf.c)
      have hOz := OwnS.set7 hOt hz (.slice o.on.a o.on.n o.on.c) (.slice va (o.os.n + 1) vc) (.slice o.hs.a o.hs.n o.hs.c) (.slice o.ms.a o.ms.n o.ms.c) (.slice o.si.a o.si.n o.si.c) (.slice o.so.a o.so.n o.so.c) (.slice o.sf.a o.sf.n o.sf.c)
      unfold set7 at KZ hbz hOz
      obtain ⟨c0', c1', c2', c3', c4', c5', c6'⟩ := box_cells KZ
      refine bodyPost_ret (v := .tuple #[(⟨o.on, ⟨va, o.os.n + 1, vc, moreO o.os ⟨0, s'⟩⟩, o.hs, o.ms, o.si, o.so, o.sf⟩ : St).val, .int .i64 0]) (by simp [results, Try.results24, go_sem, St.val, c0', c1', c2', c3', c4', c5', c6']) rfl ?_
      exact ⟨⟨o.on, ⟨va, o.os.n + 1, vc, moreO o.os ⟨0, s'⟩⟩, o.hs, o.ms, o.si, o.so, o.sf⟩, by rw [HX.out]; rfl, hOz.at, ⟨fun _ => HSM.out, fun h => absurd HX.out h⟩, fun _ => hOz.mono HLOW.out, hbz⟩
  · have HX : Hid (enterE p s l = stateE p s) := enterE_state h0
    clear hpk hsk hlk c0 c1 c2 c3 c4 c5 c6
    have zl := hz.lt
    have zf0 := hz.frozen 0
    have zc0 := hz.cell (j := 0) (by decide)
    have zf1 := hz.frozen 1
    have zc1 := hz.cell (j := 1) (by decide)
    have zf2 := hz.frozen 2
    have zc2 := hz.cell (j := 2) (by decide)
    have zf3 := hz.frozen 3
    have zc3 := hz.cell (j := 3) (by decide)
    have zf4 := hz.frozen 4
    have zc4 := hz.cell (j := 4) (by decide)
    have zf5 := hz.frozen 5
    have zc5 := hz.cell (j := 5) (by decide)
    have zf6 := hz.frozen 6
    have zc6 := hz.cell (j := 6) (by decide)
    go_wp2_with fail
    have KZ := set7_blk hz (.slice .none 0 0) (.slice .none 0 0) (.slice .none 0 0) (.slice .none 0 0) (.slice .none 0 0) (.slice .none 0 0) (.slice .none 0 0)
    have hbz := set7_below (b := w.heap.size + 2) hBw (by omega) (.slice .none 0 0) (.slice .none 0 0) (.slice .none 0 0) (.slice .none 0 0) (.slice .none 0 0) (.slice .none 0 0) (.slice .none 0 0)
    unfold set7 at KZ hbz
    obtain ⟨c0', c1', c2', c3', c4', c5', c6'⟩ := box_cells KZ
    refine bodyPost_ret (v := .tuple #[noneS.val, .int .i64 (stateE p s)]) (by simp [results, Try.results24, go_sem, noneS, St.val, c0', c1', c2', c3', c4', c5', c6']) rfl ?_
    exact ⟨noneS, by rw [HX.out]; rfl, noneS_at _, ⟨fun h => absurd h (by rw [HX.out]; exact h0), fun _ => ⟨rfl, rfl, rfl, rfl, rfl, rfl, rfl⟩⟩, fun h => absurd h (by rw [HX.out]; exact h0), hbz⟩
theorem Enter_any (p : Pl) (s : St) (l : Hs) (w : World) (hp : p.At w) (hs : s.At w) (hl : l.At w) :
    Calls Try.prog 24 #[p.val, s.val, l.val] w fun e w' => ∃ s' : St, e = .returned (.tuple #[s'.val, .int .i64 (enterE p s l)]) ∧ s'.At w' ∧ ActOK (enterE p s l) (enterT s l) s' ∧ Below w.heap.size w w' :=
  (EnterOwn_any p s l w hp hs hl).mono fun _ _ ⟨x, h1, h2, h3, _, h5⟩ => ⟨x, h1, h2, h3, h5⟩
end Go.Proofs.Ytbcacebifpagpac
namespace Go.Proofs.Ytbcacebifpagpac
open Go.RowKit Go.Shelf Go.Sort
set_option linter.unusedVariables false
structure BusyB (w : World) (g : Nat) (a k : Int) : Prop where
  b0 : Blk w (g) 3 2 (fun j => (#[.int .i64 9, .int .i64 0] : Array Value).getD j default)
  b1 : Blk w (g + 1) 3 2 (fun j => (#[.int .i64 3, .int .i64 0] : Array Value).getD j default)
  b2 : Blk w (g + 2) 3 2 (fun j => (#[.int .i64 0, .int .i64 6] : Array Value).getD j default)
  b3 : Blk w (g + 3) 23 3 (fun j => (#[.slice (some ⟨g, 0, none⟩) 2 2, .slice (some ⟨g + 1, 0, none⟩) 2 2, .slice (some ⟨g + 2, 0, none⟩) 2 2] : Array Value).getD j default)
  b4 : Blk w (g + 4) 53 8 (fun j => (#[.int .i64 0, .int .i64 6, .int .i64 1, .int .i64 0, .int .i64 1, .int .i64 9, .int .i64 0, .int .i64 3] : Array Value).getD j default)
  b5 : Blk w (g + 5) 53 4 (fun j => (#[.int .i64 0, .int .i64 4, .int .i64 0, .int .i64 0] : Array Value).getD j default)
  b6 : Blk w (g + 6) 51 4 (fun j => (#[.int .i64 1, .slice (some ⟨g + 4, 0, none⟩) 2 2, .int .i64 k, .slice (some ⟨g + 5, 0, none⟩) 1 1] : Array Value).getD j default)
  b7 : Blk w (g + 7) 65 12 (fun j => (#[.int .i64 0, .int .i64 0, .int .i64 0, .int .i64 a, .int .i64 0, .int .i64 0, .int .i64 1, .int .i64 3, .int .i64 0, .int .i64 1, .int .i64 2, .int .i64 6] : Array Value).getD j default)
  b8 : Blk w (g + 8) 70 4 (fun j => (#[.int .i64 0, .int .i64 0, .int .i64 1, .int .i64 5] : Array Value).getD j default)
  b9 : Blk w (g + 9) 3 2 (fun j => (#[.int .i64 13, .int .i64 6] : Array Value).getD j default)
  b10 : Blk w (g + 10) 3 2 (fun j => (#[.int .i64 1, .int .i64 0] : Array Value).getD j default)
  b11 : Blk w (g + 11) 3 2 (fun j => (#[.int .i64 0, .int .i64 0] : Array Value).getD j default)
theorem BusyB.below {w w' : World} {g : Nat} {a k : Int} (h : BusyB w g a k) (hB : Below w.heap.size w w') : BusyB w' g a k := ⟨h.b0.below hB, h.b1.below hB, h.b2.below hB, h.b3.below hB, h.b4.below hB, h.b5.below hB, h.b6.below hB, h.b7.below hB, h.b8.below hB, h.b9.below hB, h.b10.below hB, h.b11.below hB⟩
def bz0 : Nat → Int
  | 0 => 9
  | _ => 0
def bz1 : Nat → Int
  | 0 => 3
  | _ => 0
def bz2 : Nat → Int
  | 0 => 0
  | _ => 6
def bzi : Nat → Int
  | 0 => 13
  | _ => 6
def bzo : Nat → Int
  | 0 => 1
  | _ => 0
def bl0 : Nat → Hd
  | 0 => ⟨0, 6, 1, 0⟩
  | _ => ⟨1, 9, 0, 3⟩
def bhs (a : Int) : Nat → Hd
  | 0 => ⟨0, 0, 0, a⟩
  | 1 => ⟨0, 0, 1, 3⟩
  | _ => ⟨0, 1, 2, 6⟩
def bon (g : Nat) : Nat → Rw
  | 0 => ⟨some ⟨g, 0, none⟩, 2, 2, bz0⟩
  | 1 => ⟨some ⟨g + 1, 0, none⟩, 2, 2, bz1⟩
  | _ => ⟨some ⟨g + 2, 0, none⟩, 2, 2, bz2⟩
def bos (g : Nat) (k : Int) : Nat → Od
  | 0 => ⟨1, ⟨some ⟨g + 4, 0, none⟩, 2, 2, bl0⟩⟩
  | _ => ⟨k, ⟨some ⟨g + 5, 0, none⟩, 1, 1, fun _ => ⟨0, 4, 0, 0⟩⟩⟩
def busyS (g : Nat) (a k : Int) : St := ⟨⟨some ⟨g + 3, 0, none⟩, 3, 3, bon g⟩, ⟨some ⟨g + 6, 0, none⟩, 2, 2, bos g k⟩, ⟨some ⟨g + 7, 0, none⟩, 3, 3, bhs a⟩, ⟨some ⟨g + 8, 0, none⟩, 1, 1, fun _ => ⟨0, 0, 1, 5⟩⟩, ⟨some ⟨g + 9, 0, none⟩, 2, 2, bzi⟩, ⟨some ⟨g + 10, 0, none⟩, 2, 2, bzo⟩, ⟨some ⟨g + 11, 0, none⟩, 2, 2, fun _ => 0⟩⟩
theorem le_max {n : Nat} (h : n ≤ 100) : n ≤ maxLen := by unfold maxLen; omega
theorem two_at {w : World} {g : Nat} {e : TypeId} {x y : Int} {z : Nat → Int} (h : Blk w g e 2 (fun j => (#[.int .i64 x, .int .i64 y] : Array Value).getD j default)) (h0 : z 0 = x) (h1 : z 1 = y) : Rw.At w ⟨some ⟨g, 0, none⟩, 2, 2, z⟩ := by
  refine ⟨Nat.le_refl _, le_max (n := 2) (by decide), fun i hi => ?_⟩
  have hi' : i < 2 := hi
  refine ⟨g, 0, rfl, h.lt, ?_⟩
  match i, hi' with
  | 0, _ => show w.cell? ⟨g, 0 + 0, none⟩ = some (.int .i64 (z 0)); rw [h0]; exact h.cell (j := 0) (by decide)
  | 1, _ => show w.cell? ⟨g, 0 + 1, none⟩ = some (.int .i64 (z 1)); rw [h1]; exact h.cell (j := 1) (by decide)
theorem busyAt {w : World} {g : Nat} {a k : Int} (h : BusyB w g a k) : (busyS g a k).At w := by
  refine ⟨⟨Nat.le_refl _, le_max (n := 3) (by decide), fun i hi => ?_⟩, ⟨Nat.le_refl _, le_max (n := 2) (by decide), fun i hi => ?_⟩, ⟨Nat.le_refl _, le_max (n := 3) (by decide), fun i hi => ?_, fun e => by cases e⟩, ⟨Nat.le_refl _, le_max (n := 1) (by decide), fun i hi => ?_, fun e => by cases e⟩, two_at h.b9 rfl rfl, two_at h.b10 rfl rfl, two_at h.b11 rfl rfl⟩
  · have hi' : i < 3 := hi
    refine ⟨g + 3, 0, rfl, h.b3.lt, ?_⟩
    match i, hi' with
    | 0, _ => exact ⟨h.b3.cell (j := 0) (by decide), two_at h.b0 rfl rfl⟩
    | 1, _ => exact ⟨h.b3.cell (j := 1) (by decide), two_at h.b1 rfl rfl⟩
    | 2, _ => exact ⟨h.b3.cell (j := 2) (by decide), two_at h.b2 rfl rfl⟩
  · have hi' : i < 2 := hi
    refine ⟨g + 6, 0, rfl, h.b6.lt, ?_⟩
    match i, hi' with
    | 0, _ =>
      refine ⟨h.b6.cell (j := 0) (by decide), h.b6.cell (j := 1) (by decide), Nat.le_refl _, le_max (n := 2) (by decide), fun j hj => ?_, fun e => by cases e⟩
      have hj' : j < 2 := hj
      refine ⟨g + 4, 0, rfl, h.b4.lt, ?_⟩
      match j, hj' with
      | 0, _ => exact ⟨h.b4.cell (j := 0) (by decide), h.b4.cell (j := 1) (by decide), h.b4.cell (j := 2) (by decide), h.b4.cell (j := 3) (by decide)⟩
      | 1, _ => exact ⟨h.b4.cell (j := 4) (by decide), h.b4.cell (j := 5) (by decide), h.b4.cell (j := 6) (by decide), h.b4.cell (j := 7) (by decide)⟩
    | 1, _ =>
      refine ⟨h.b6.cell (j := 2) (by decide), h.b6.cell (j := 3) (by decide), Nat.le_refl _, le_max (n := 1) (by decide), fun j hj => ?_, fun e => by cases e⟩
      have hj' : j < 1 := hj
      refine ⟨g + 5, 0, rfl, h.b5.lt, ?_⟩
      match j, hj' with
      | 0, _ => exact ⟨h.b5.cell (j := 0) (by decide), h.b5.cell (j := 1) (by decide), h.b5.cell (j := 2) (by decide), h.b5.cell (j := 3) (by decide)⟩
  · have hi' : i < 3 := hi
    refine ⟨g + 7, 0, rfl, h.b7.lt, ?_⟩
    match i, hi' with
    | 0, _ => exact ⟨h.b7.cell (j := 0) (by decide), h.b7.cell (j := 1) (by decide), h.b7.cell (j := 2) (by decide), h.b7.cell (j := 3) (by decide)⟩
    | 1, _ => exact ⟨h.b7.cell (j := 4) (by decide), h.b7.cell (j := 5) (by decide), h.b7.cell (j := 6) (by decide), h.b7.cell (j := 7) (by decide)⟩
    | 2, _ => exact ⟨h.b7.cell (j := 8) (by decide), h.b7.cell (j := 9) (by decide), h.b7.cell (j := 10) (by decide), h.b7.cell (j := 11) (by decide)⟩
  · have hi' : i < 1 := hi
    refine ⟨g + 8, 0, rfl, h.b8.lt, ?_⟩
    match i, hi' with
    | 0, _ => exact ⟨h.b8.cell (j := 0) (by decide), h.b8.cell (j := 1) (by decide), h.b8.cell (j := 2) (by decide), h.b8.cell (j := 3) (by decide)⟩
set_option maxRecDepth 100000 in
set_option maxHeartbeats 4000000 in
theorem busy_any (w : World) :
    Calls Try.prog 29 #[] w fun e w' => ∃ g, e = .returned (busyS g 2 0).val ∧ w.heap.size < g ∧ BusyB w' g 2 0 ∧ Below w.heap.size w w' := by
  go_enter Try.func29, Try.ntmps29
  go_wp2
  refine bodyPost_ret (v := (busyS (w.heap.size + 1) 2 0).val) (by simp [results, Try.results29, go_sem, busyS, St.val]) rfl ?_
  refine ⟨w.heap.size + 1, rfl, by omega, ⟨Blk.alloc (Blk.alloc (Blk.alloc (Blk.alloc (Blk.alloc (Blk.alloc (Blk.alloc (Blk.alloc (Blk.alloc (Blk.alloc (Blk.alloc (Blk.mk' (by simp <;> omega) rfl) _) _) _) _) _) _) _) _) _) _) _, Blk.alloc (Blk.alloc (Blk.alloc (Blk.alloc (Blk.alloc (Blk.alloc (Blk.alloc (Blk.alloc (Blk.alloc (Blk.alloc (Blk.mk' (by simp <;> omega) rfl) _) _) _) _) _) _) _) _) _) _, Blk.alloc (Blk.alloc (Blk.alloc (Blk.alloc (Blk.alloc (Blk.alloc (Blk.alloc (Blk.alloc (Blk.alloc (Blk.mk' (by simp <;> omega) rfl) _) _) _) _) _) _) _) _) _, Blk.alloc (Blk.alloc (Blk.alloc (Blk.alloc (Blk.alloc (Blk.alloc (Blk.alloc (Blk.alloc (Blk.mk' (by simp <;> omega) rfl) _) _) _) _) _) _) _) _, Blk.alloc (Blk.alloc (Blk.alloc (Blk.alloc (Blk.alloc (Blk.alloc (Blk.alloc (Blk.mk' (by simp <;> omega) rfl) _) _) _) _) _) _) _, Blk.alloc (Blk.alloc (Blk.alloc (Blk.alloc (Blk.alloc (Blk.alloc (Blk.mk' (by simp <;> omega) rfl) _) _) _) _) _) _, Blk.alloc (Blk.alloc (Blk.alloc (Blk.alloc (Blk.alloc (Blk.mk' (by simp <;> omega) rfl) _) _) _) _) _, Blk.alloc (Blk.alloc (Blk.alloc (Blk.alloc (Blk.mk' (by simp <;> omega) rfl) _) _) _) _, Blk.alloc (Blk.alloc (Blk.alloc (Blk.mk' (by simp <;> omega) rfl) _) _) _, Blk.alloc (Blk.alloc (Blk.mk' (by simp <;> omega) rfl) _) _, Blk.alloc (Blk.mk' (by simp <;> omega) rfl) _, Blk.mk' (by simp <;> omega) rfl⟩, ?_⟩
  exact (((((((((((((Below.refl _ _).alloc (Nat.le_refl _) _).alloc (by simp <;> omega) _).alloc (by simp <;> omega) _).alloc (by simp <;> omega) _).alloc (by simp <;> omega) _).alloc (by simp <;> omega) _).alloc (by simp <;> omega) _).alloc (by simp <;> omega) _).alloc (by simp <;> omega) _).alloc (by simp <;> omega) _).alloc (by simp <;> omega) _).alloc (by simp <;> omega) _).alloc (by simp <;> omega) _
end Go.Proofs.Ytbcacebifpagpac
namespace Go.Proofs.Ytbcacebifpagpac
open Go.RowKit Go.Shelf Go.Sort
set_option linter.unusedVariables false
theorem recvBeg7 {w : World} {g1 g2 g : Nat} (hp : (yardP g1 g2).At w) (hs : BusyB w g 2 0) :
    Calls Try.prog 21 #[(yardP g1 g2).val, (busyS g 2 0).val, .int .i64 1, .int .i64 0, .int .i64 7] w fun e w' => ∃ s' : St, e = .returned (.tuple #[s'.val, .int .i64 0]) ∧ s'.At w' ∧ (s'.on.n = 3 ∧ (s'.on.r 1).n = 2 ∧ (s'.on.r 1).z 0 = 10 ∧ s'.si.n = 2 ∧ s'.si.z 0 = 20) ∧ Below w.heap.size w w' := by
  refine (Receive_any _ _ 1 0 7 w hp (busyAt hs)).mono ?_
  rintro e w' ⟨s', rfl, hat, hok, hB⟩
  have hE : recvE (yardP g1 g2) (busyS g 2 0) 1 0 7 = 0 := by rfl
  have h := hok.1 hE
  have n1 : s'.on.n = 3 := h.on.1
  have r1 := h.on.2 1 (by omega)
  have n2 : (s'.on.r 1).n = 2 := r1.1
  have z : (s'.on.r 1).z 0 = 10 := r1.2 0 (by omega)
  have n3 : s'.si.n = 2 := h.si.1
  have z2 : s'.si.z 0 = 20 := h.si.2 0 (by omega)
  rw [hE]
  exact ⟨s', rfl, hat, ⟨n1, n2, z, n3, z2⟩, hB⟩
theorem recvBeg8 {w : World} {g1 g2 g : Nat} (hp : (yardP g1 g2).At w) (hs : BusyB w g 2 0) :
    Calls Try.prog 21 #[(yardP g1 g2).val, (busyS g 2 0).val, .int .i64 1, .int .i64 0, .int .i64 8] w fun e w' => ∃ s' : St, e = .returned (.tuple #[s'.val, .int .i64 5]) ∧ Below w.heap.size w w' := by
  refine (Receive_any _ _ 1 0 8 w hp (busyAt hs)).mono ?_
  rintro e w' ⟨s', rfl, hat, hok, hB⟩
  rw [show recvE (yardP g1 g2) (busyS g 2 0) 1 0 8 = 5 by rfl]
  exact ⟨s', rfl, hB⟩
theorem entBeg1 {w : World} {g1 g2 g G : Nat} (hp : (yardP g1 g2).At w) (hs : BusyB w g 2 0) (hl : Hs.At w ⟨some ⟨G, 0, none⟩, 1, 1, fun _ => ⟨1, 2, 0, 0⟩⟩) :
    Calls Try.prog 24 #[(yardP g1 g2).val, (busyS g 2 0).val, .slice (some ⟨G, 0, none⟩) 1 1] w fun e w' => ∃ s' : St, e = .returned (.tuple #[s'.val, .int .i64 0]) ∧ s'.At w' ∧ (s'.os.n = 3 ∧ (s'.os.z 2).ls.n = 1 ∧ ((s'.os.z 2).ls.z 0).l = 2) ∧ Below w.heap.size w w' := by
  refine (Enter_any _ _ ⟨some ⟨G, 0, none⟩, 1, 1, fun _ => ⟨1, 2, 0, 0⟩⟩ w hp (busyAt hs) hl).mono ?_
  rintro e w' ⟨s', rfl, hat, hok, hB⟩
  have hE : enterE (yardP g1 g2) (busyS g 2 0) ⟨some ⟨G, 0, none⟩, 1, 1, fun _ => ⟨1, 2, 0, 0⟩⟩ = 0 := by rfl
  have h := hok.1 hE
  have n1 : s'.os.n = 3 := h.os.1
  have r1 := h.os.2 2 (by omega)
  have n2 : (s'.os.z 2).ls.n = 1 := r1.2.1
  have z : (s'.os.z 2).ls.z 0 = ⟨1, 2, 0, 0⟩ := r1.2.2 0 (by omega)
  rw [hE]
  exact ⟨s', rfl, hat, ⟨n1, n2, by rw [z]⟩, hB⟩
theorem entBeg2 {w : World} {g1 g2 g G : Nat} (hp : (yardP g1 g2).At w) (hs : BusyB w g 2 0) (hl : Hs.At w ⟨some ⟨G, 0, none⟩, 1, 1, fun _ => ⟨2, 2, 0, 0⟩⟩) :
    Calls Try.prog 24 #[(yardP g1 g2).val, (busyS g 2 0).val, .slice (some ⟨G, 0, none⟩) 1 1] w fun e w' => ∃ s' : St, e = .returned (.tuple #[s'.val, .int .i64 3]) ∧ Below w.heap.size w w' := by
  refine (Enter_any _ _ ⟨some ⟨G, 0, none⟩, 1, 1, fun _ => ⟨2, 2, 0, 0⟩⟩ w hp (busyAt hs) hl).mono ?_
  rintro e w' ⟨s', rfl, hat, hok, hB⟩
  rw [show enterE (yardP g1 g2) (busyS g 2 0) ⟨some ⟨G, 0, none⟩, 1, 1, fun _ => ⟨2, 2, 0, 0⟩⟩ = 3 by rfl]
  exact ⟨s', rfl, hB⟩
set_option maxRecDepth 100000 in
set_option maxHeartbeats 8000000 in
theorem recvBegun_any (w : World) :
    Calls Try.prog 23 #[] w fun e w' => e = .returned (.bool true) ∧ Below w.heap.size w w' := by
  go_enter Try.func23, Try.ntmps23
  go_wp2_with fail
  refine (yard_any _).mono ?_
  rintro e w1 ⟨g1, g2, rfl, -, -, k1, k2, hA⟩
  go_wp2_with fail
  refine (busy_any _).mono ?_
  rintro e w2 ⟨g, rfl, -, bb, hB⟩
  have k1 := k1.below hB
  have k2 := k2.below hB
  have hC := hA.trans (hB.mono hA.size)
  clear hA hB
  simp only [busyS, St.val]
  go_wp2_with fail
  refine (recvBeg7 (yardAt k1 k2) bb).mono ?_
  rintro e w3 ⟨x, rfl, xat, xf, hB⟩
  have hC := hC.trans (hB.mono hC.size)
  clear hB k1 k2 bb
  have HXF : Hid (x.on.n = 3 ∧ (x.on.r 1).n = 2 ∧ (x.on.r 1).z 0 = 10 ∧ x.si.n = 2 ∧ x.si.z 0 = 20) := xf
  clear xf
  simp only [St.val]
  go_wp2_with fail
  obtain ⟨W3, hW, hWB, K1⟩ : ∃ W, w3.alloc (.cells #[.slice x.on.a x.on.n x.on.c, .slice x.os.a x.os.n x.os.c, .slice x.hs.a x.hs.n x.hs.c, .slice x.ms.a x.ms.n x.ms.c, .slice x.si.a x.si.n x.si.c, .slice x.so.a x.so.n x.so.c, .slice x.sf.a x.sf.n x.sf.c] 31) = W ∧ Below w3.heap.size w3 W ∧ Blk W w3.heap.size 31 7 (fun j => x.cells.getD j default) := ⟨_, rfl, (Below.refl _ _).alloc (Nat.le_refl _) _, Blk.mk' rfl rfl⟩
  rw [hW]
  have xat := xat.below hWB
  have hC := hC.trans (hWB.mono hC.size)
  clear hW hWB
  generalize w3.heap.size = B1 at *
  refine (yard_any _).mono ?_
  rintro e w4 ⟨g1, g2, rfl, -, -, k1, k2, hA⟩
  go_wp2_with fail
  refine (busy_any _).mono ?_
  rintro e w5 ⟨g, rfl, -, bb, hB⟩
  have k1 := k1.below hB
  have k2 := k2.below hB
  have hD := hA.trans (hB.mono hA.size)
  clear hA hB
  simp only [busyS, St.val]
  go_wp2_with fail
  refine (recvBeg8 (yardAt k1 k2) bb).mono ?_
  rintro e w6 ⟨y, rfl, hB⟩
  have hD := hD.trans (hB.mono hD.size)
  have hC := hC.trans (hD.mono hC.size)
  have xat := xat.below hD
  have K1 := K1.below hD
  clear hD hB k1 k2 bb
  simp only [St.val]
  go_wp2_with fail
  obtain ⟨W6, hW, hWB⟩ : ∃ W, w6.alloc (.cells #[.slice y.on.a y.on.n y.on.c, .slice y.os.a y.os.n y.os.c, .slice y.hs.a y.hs.n y.hs.c, .slice y.ms.a y.ms.n y.ms.c, .slice y.si.a y.si.n y.si.c, .slice y.so.a y.so.n y.so.c, .slice y.sf.a y.sf.n y.sf.c] 31) = W ∧ Below w6.heap.size w6 W := ⟨_, rfl, (Below.refl _ _).alloc (Nat.le_refl _) _⟩
  rw [hW]
  have hC := hC.trans (hWB.mono hC.size)
  have xat := xat.below hWB
  have K1 := K1.below hWB
  clear hW hWB
  generalize w6.heap.size = B2 at *
  refine (yard_any _).mono ?_
  rintro e w7 ⟨g1, g2, rfl, -, -, k1, k2, hA⟩
  go_wp2_with fail
  refine (busy_any _).mono ?_
  rintro e w8 ⟨g, rfl, -, bb, hB⟩
  have k1 := k1.below hB
  have k2 := k2.below hB
  have hD := hA.trans (hB.mono hA.size)
  clear hA hB
  simp only [busyS, St.val]
  go_wp2_with fail
  obtain ⟨W8, hW, hWB, L8⟩ : ∃ W, w8.alloc (.cells #[.int .i64 1, .int .i64 2, .int .i64 0, .int .i64 0] 53) = W ∧ Below w8.heap.size w8 W ∧ Hs.At W ⟨some ⟨w8.heap.size, 0, none⟩, 1, 1, fun _ => ⟨1, 2, 0, 0⟩⟩ := ⟨_, rfl, (Below.refl _ _).alloc (Nat.le_refl _) _, Hs.one (Blk.mk' rfl rfl)⟩
  rw [hW]
  have k1 := k1.below hWB
  have k2 := k2.below hWB
  have bb := bb.below hWB
  have hD := hD.trans (hWB.mono hD.size)
  clear hW hWB
  refine (entBeg1 (yardAt k1 k2) bb L8).mono ?_
  rintro e w9 ⟨z, rfl, zat, zf, hB⟩
  have HZF : Hid (z.os.n = 3 ∧ (z.os.z 2).ls.n = 1 ∧ ((z.os.z 2).ls.z 0).l = 2) := zf
  have hD := hD.trans (hB.mono hD.size)
  have hC := hC.trans (hD.mono hC.size)
  have xat := xat.below hD
  have K1 := K1.below hD
  clear hD hB k1 k2 bb L8 zf
  simp only [St.val]
  go_wp2_with fail
  obtain ⟨W9, hW, hWB, K2⟩ : ∃ W, w9.alloc (.cells #[.slice z.on.a z.on.n z.on.c, .slice z.os.a z.os.n z.os.c, .slice z.hs.a z.hs.n z.hs.c, .slice z.ms.a z.ms.n z.ms.c, .slice z.si.a z.si.n z.si.c, .slice z.so.a z.so.n z.so.c, .slice z.sf.a z.sf.n z.sf.c] 31) = W ∧ Below w9.heap.size w9 W ∧ Blk W w9.heap.size 31 7 (fun j => z.cells.getD j default) := ⟨_, rfl, (Below.refl _ _).alloc (Nat.le_refl _) _, Blk.mk' rfl rfl⟩
  rw [hW]
  have hC := hC.trans (hWB.mono hC.size)
  have xat := xat.below hWB
  have zat := zat.below hWB
  have K1 := K1.below hWB
  clear hW hWB
  generalize w9.heap.size = B3 at *
  refine (yard_any _).mono ?_
  rintro e wa ⟨g1, g2, rfl, -, -, k1, k2, hA⟩
  go_wp2_with fail
  refine (busy_any _).mono ?_
  rintro e wb ⟨g, rfl, -, bb, hB⟩
  have k1 := k1.below hB
  have k2 := k2.below hB
  have hD := hA.trans (hB.mono hA.size)
  clear hA hB
  simp only [busyS, St.val]
  go_wp2_with fail
  obtain ⟨Wb, hW, hWB, L8⟩ : ∃ W, wb.alloc (.cells #[.int .i64 2, .int .i64 2, .int .i64 0, .int .i64 0] 53) = W ∧ Below wb.heap.size wb W ∧ Hs.At W ⟨some ⟨wb.heap.size, 0, none⟩, 1, 1, fun _ => ⟨2, 2, 0, 0⟩⟩ := ⟨_, rfl, (Below.refl _ _).alloc (Nat.le_refl _) _, Hs.one (Blk.mk' rfl rfl)⟩
  rw [hW]
  have k1 := k1.below hWB
  have k2 := k2.below hWB
  have bb := bb.below hWB
  have hD := hD.trans (hWB.mono hD.size)
  clear hW hWB
  refine (entBeg2 (yardAt k1 k2) bb L8).mono ?_
  rintro e wc ⟨y2, rfl, hB⟩
  have hD := hD.trans (hB.mono hD.size)
  have hC := hC.trans (hD.mono hC.size)
  have xat := xat.below hD
  have zat := zat.below hD
  have K1 := K1.below hD
  have K2 := K2.below hD
  clear hD hB k1 k2 bb L8
  obtain ⟨Wc, hW, hWB⟩ : ∃ W, wc.alloc (.cells #[.slice y2.on.a y2.on.n y2.on.c, .slice y2.os.a y2.os.n y2.os.c, .slice y2.hs.a y2.hs.n y2.hs.c, .slice y2.ms.a y2.ms.n y2.ms.c, .slice y2.si.a y2.si.n y2.si.c, .slice y2.so.a y2.so.n y2.so.c, .slice y2.sf.a y2.sf.n y2.sf.c] 31) = W ∧ Below wc.heap.size wc W := ⟨_, rfl, (Below.refl _ _).alloc (Nat.le_refl _) _⟩
  have HW : Hid (wc.alloc (.cells #[.slice y2.on.a y2.on.n y2.on.c, .slice y2.os.a y2.os.n y2.os.c, .slice y2.hs.a y2.hs.n y2.hs.c, .slice y2.ms.a y2.ms.n y2.ms.c, .slice y2.si.a y2.si.n y2.si.c, .slice y2.so.a y2.so.n y2.so.c, .slice y2.sf.a y2.sf.n y2.sf.c] 31) = Wc) := hW
  have hC := hC.trans (hWB.mono hC.size)
  have xat := xat.below hWB
  have zat := zat.below hWB
  have K1 := K1.below hWB
  have K2 := K2.below hWB
  have HCC : Hid (Below w.heap.size w Wc) := hC
  obtain ⟨b1, o1, ha1, hb1, t1, hr1⟩ := xat.on.rows 1 (by rw [HXF.out.1]; decide)
  obtain ⟨b2, o2, ha2, hb2, t2⟩ := hr1.ints 0 (by rw [HXF.out.2.1]; decide)
  obtain ⟨b3, o3, ha3, hb3, t3⟩ := xat.si.ints 0 (by rw [HXF.out.2.2.2.1]; decide)
  obtain ⟨b4, o4, ha4, hb4, t4, t5, hl4⟩ := zat.os.ods 2 (by rw [HZF.out.1]; decide)
  obtain ⟨b5, o5, ha5, hb5, t6, t7, t8, t9⟩ := hl4.hds 0 (by rw [HZF.out.2.1]; decide)
  have s0 : Wc.cell? ⟨B1, 0, none⟩ = some (.slice x.on.a x.on.n x.on.c) := K1.cell (j := 0) (by decide)
  have s4 : Wc.cell? ⟨B1, 4, none⟩ = some (.slice x.si.a x.si.n x.si.c) := K1.cell (j := 4) (by decide)
  have s1 : Wc.cell? ⟨B3, 1, none⟩ = some (.slice z.os.a z.os.n z.os.c) := K2.cell (j := 1) (by decide)
  have m1 := K1.lt
  have m2 := K2.lt
  have v1 := xat.on.le
  have v2 := xat.on.cap
  have v3 := hr1.le
  have v4 := hr1.cap
  have v5 := xat.si.le
  have v6 := xat.si.cap
  have v7 := zat.os.le
  have v8 := zat.os.cap
  have v9 := hl4.le
  have v10 := hl4.cap
  rw [ha1, HXF.out.1] at s0
  rw [ha3, HXF.out.2.2.2.1] at s4
  rw [ha4, HZF.out.1] at s1
  rw [ha2, HXF.out.2.1] at t1
  rw [HXF.out.2.2.1] at t2
  rw [HXF.out.2.2.2.2] at t3
  rw [ha5, HZF.out.2.1] at t5
  rw [HZF.out.2.2] at t7
  rw [HXF.out.1] at v1
  rw [HXF.out.2.1] at v3
  rw [HXF.out.2.2.2.1] at v5
  rw [HZF.out.1] at v7
  rw [HZF.out.2.1] at v9
  unfold maxLen at v2 v4 v6 v8 v10
  simp only [Nat.add_zero, Nat.zero_mul] at t2 t3 t7
  have t5a : Wc.cell? ⟨b4, o4 + 4 + 1, none⟩ = _ := t5
  have t5b : Wc.cell? ⟨b4, o4 + 5, none⟩ = _ := t5
  clear hW xat zat K1 K2 hr1 hl4 ha1 ha2 ha3 ha4 ha5 HXF HZF hWB hC
  simp only [St.val]
  have m1e := m1
  rw [← HW.out] at m1 m2 s0 s1 s4 t1 t2 t3 t5 t5a t5b t7 hb1 hb2 hb3 hb4 hb5
  go_wp2_with fail
  go_ret
  rw [HW.out]
  exact ⟨by simp, HCC.out⟩
end Go.Proofs.Ytbcacebifpagpac
namespace Go.Proofs.Ytbcacebifpagpac
open Go.RowKit Go.Shelf Go.Sort
set_option linter.unusedVariables false
theorem recvE_zero {p : Pl} {s : St} {bin good n : Int} (h : recvE p s bin good n = 0) : stateE p s = 0 := by
  apply Classical.byContradiction
  intro h0
  rw [recvE_state h0] at h
  exact h0 h
theorem none_same2 {s t : St} (a : NoneS s) (b : NoneS t) : SameT s t := by
  obtain ⟨a1, a2, a3, a4, a5, a6, a7⟩ := a
  obtain ⟨b1, b2, b3, b4, b5, b6, b7⟩ := b
  exact ⟨⟨by omega, fun i hi => absurd hi (by omega)⟩, ⟨by omega, fun i hi => absurd hi (by omega)⟩, ⟨by omega, fun j hj => absurd hj (by omega)⟩, ⟨by omega, fun j hj => absurd hj (by omega)⟩, ⟨by omega, fun j hj => absurd hj (by omega)⟩, ⟨by omega, fun j hj => absurd hj (by omega)⟩, ⟨by omega, fun j hj => absurd hj (by omega)⟩⟩
theorem ActOK.same {E : Int} {t x y : St} (a : ActOK E t x) (b : ActOK E t y) : SameT x y := by
  by_cases h : E = 0
  · exact (a.1 h).trans (b.1 h).symm
  · exact none_same2 (a.2 h) (b.2 h)
end Go.Proofs.Ytbcacebifpagpac
namespace Go.Proofs.Ytbcacebifpagpac
open Go.RowKit Go.Shelf Go.Sort
set_option linter.unusedVariables false
set_option maxRecDepth 100000 in
set_option maxHeartbeats 8000000 in
theorem RecvReceives_walk (p : Pl) (s : St) (bin good n : Int) (w : World) (hp : p.At w) (hs : s.At w) :
    Calls Try.prog 7 #[p.val, s.val, .int .i64 bin, .int .i64 good, .int .i64 n] w fun e w' => e = .returned (.bool true) ∧ Below w.heap.size w w' := by
  obtain ⟨W0, hW, hWB, X0⟩ : ∃ W, ((w.alloc (.cells #[.slice p.ab p.nb p.cb, .slice p.sa p.ns p.cs] 25)).alloc (.cells s.cells 31)) = W ∧ Below w.heap.size w W ∧ Boxes W w.heap.size (w.heap.size + 1) p s := ⟨_, rfl, two_below _ _ _, boxes_new w p s _ _⟩
  have HC : Hid (∀ wk, Below W0.heap.size W0 wk → Boxes wk w.heap.size (w.heap.size + 1) p s ∧ p.At wk ∧ s.At wk ∧ Below w.heap.size w wk) := fun wk h => ⟨X0.below h, (hp.below hWB).below h, (hs.below hWB).below h, hWB.trans (h.mono hWB.size)⟩
  have HW : Hid ((w.alloc (.cells #[.slice p.ab p.nb p.cb, .slice p.sa p.ns p.cs] 25)).alloc (.cells #[.slice s.on.a s.on.n s.on.c, .slice s.os.a s.os.n s.os.c, .slice s.hs.a s.hs.n s.hs.c, .slice s.ms.a s.ms.n s.ms.c, .slice s.si.a s.si.n s.si.c, .slice s.so.a s.so.n s.so.c, .slice s.sf.a s.sf.n s.sf.c] 31) = W0) := hW
  clear hW X0 hp hs
  unfold Pl.val St.val
  go_enter Try.func7, Try.ntmps7
  go_wp2_with fail
  rw [HW.out]
  obtain ⟨X, hpk, hsk, hBw⟩ := HC.out W0 (Below.refl _ _)
  refine (Receive_any p s bin good n W0 hpk hsk).mono ?_
  rintro e w1 ⟨x, rfl, xat, xok, hB⟩
  clear X hpk hsk hBw HW
  obtain ⟨⟨⟨l1, d0, d1⟩, l2, c0, c1, c2, c3, c4, c5, c6⟩, hpk, hsk, hBw⟩ := HC.out w1 hB
  obtain ⟨W2, hW, hWB2, K1⟩ : ∃ W, w1.alloc (.cells #[.slice x.on.a x.on.n x.on.c, .slice x.os.a x.os.n x.os.c, .slice x.hs.a x.hs.n x.hs.c, .slice x.ms.a x.ms.n x.ms.c, .slice x.si.a x.si.n x.si.c, .slice x.so.a x.so.n x.so.c, .slice x.sf.a x.sf.n x.sf.c] 31) = W ∧ Below w1.heap.size w1 W ∧ Blk W w1.heap.size 31 7 (fun j => x.cells.getD j default) := ⟨_, rfl, (Below.refl _ _).alloc (Nat.le_refl _) _, Blk.mk' rfl rfl⟩
  have HW : Hid (w1.alloc (.cells #[.slice x.on.a x.on.n x.on.c, .slice x.os.a x.os.n x.os.c, .slice x.hs.a x.hs.n x.hs.c, .slice x.ms.a x.ms.n x.ms.c, .slice x.si.a x.si.n x.si.c, .slice x.so.a x.so.n x.so.c, .slice x.sf.a x.sf.n x.sf.c] 31) = W2) := hW
  have HSM : Hid (∀ y, ActOK (recvE p s bin good n) (recvT s bin.toNat good.toNat n) y → SameT x y) := fun y h => ActOK.same xok h
  have HBD : Hid (x.os.n ≤ 1000 ∧ x.ms.n ≤ 1000 ∧ ∀ i, i < x.os.n → (x.os.z i).ls.n ≤ 1000) := by
    by_cases h : recvE p s bin good n = 0
    · have f := (rightT (recvE_zero h)).fm
      have a := xok.1 h
      have e1 : x.os.n = s.os.n := a.os.1
      have e2 : x.ms.n = s.ms.n := a.ms.1
      have o4 := f.os4
      have m8 := f.ms8
      refine ⟨by omega, by omega, fun i hi => ?_⟩
      have e3 : (x.os.z i).ls.n = (s.os.z i).ls.n := (a.os.2 i hi).2.1
      have := f.lns i (by omega)
      omega
    · obtain ⟨a1, a2, a3, a4, a5, a6, a7⟩ := xok.2 h
      exact ⟨by omega, by omega, fun i hi => absurd hi (by omega)⟩
  have xat := xat.below hWB2
  have hB2 := hB.trans (hWB2.mono hB.size)
  simp only [St.val]
  clear hW
  go_wp2_with fail
  rw [HW.out]
  clear l1 d0 d1 l2 c0 c1 c2 c3 c4 c5 c6 hpk hsk hBw HW hWB2 hB xok
  generalize w1.heap.size = B1 at *
  obtain ⟨X, hpk, hsk, hBw⟩ := HC.out W2 hB2
  refine (ReceiveOf_any p s bin good n W2 hpk hsk).mono ?_
  rintro e w3 ⟨y, rfl, yat, yok, hB3⟩
  have xat := xat.below hB3
  have K1 := K1.below hB3
  have hB3 := hB2.trans (hB3.mono hB2.size)
  clear X hpk hsk hBw hB2
  obtain ⟨W4, hW, hWB4, K2⟩ : ∃ W, w3.alloc (.cells #[.slice y.on.a y.on.n y.on.c, .slice y.os.a y.os.n y.os.c, .slice y.hs.a y.hs.n y.hs.c, .slice y.ms.a y.ms.n y.ms.c, .slice y.si.a y.si.n y.si.c, .slice y.so.a y.so.n y.so.c, .slice y.sf.a y.sf.n y.sf.c] 31) = W ∧ Below w3.heap.size w3 W ∧ Blk W w3.heap.size 31 7 (fun j => y.cells.getD j default) := ⟨_, rfl, (Below.refl _ _).alloc (Nat.le_refl _) _, Blk.mk' rfl rfl⟩
  have HW : Hid (w3.alloc (.cells #[.slice y.on.a y.on.n y.on.c, .slice y.os.a y.os.n y.os.c, .slice y.hs.a y.hs.n y.hs.c, .slice y.ms.a y.ms.n y.ms.c, .slice y.si.a y.si.n y.si.c, .slice y.so.a y.so.n y.so.c, .slice y.sf.a y.sf.n y.sf.c] 31) = W4) := hW
  have HS : Hid (SameT x y) := HSM.out y yok
  have xat := xat.below hWB4
  have yat := yat.below hWB4
  have K1 := K1.below hWB4
  have hB4 := hB3.trans (hWB4.mono hB3.size)
  simp only [St.val]
  clear hW
  go_wp2_with fail
  rw [HW.out]
  clear HW hWB4 hB3 yok
  generalize w3.heap.size = B2 at *
  refine (recvBegun_any W4).mono ?_
  rintro e w5 ⟨rfl, hB5⟩
  have xat := xat.below hB5
  have yat := yat.below hB5
  have K1 := K1.below hB5
  have K2 := K2.below hB5
  have hB5 := hB4.trans (hB5.mono hB4.size)
  clear hB4
  obtain ⟨m1, p0, p1, p2, p3, p4, p5, p6⟩ := Boxed.of K1
  obtain ⟨m2, t0, t1, t2, t3, t4, t5, t6⟩ := Boxed.of K2
  clear K1 K2
  have HXY : Hid (x.At w5 ∧ y.At w5) := ⟨xat, yat⟩
  clear xat yat
  go_wp2_with fail
  refine (SameStates_yes x y w5 HXY.out.1 HXY.out.2 HS.out HBD.out.1 HBD.out.2.1 HBD.out.2.2).mono ?_
  rintro e w6 ⟨rfl, hB6⟩
  have hB6 := hB5.trans (hB6.mono hB5.size)
  clear m1 p0 p1 p2 p3 p4 p5 p6 m2 t0 t1 t2 t3 t4 t5 t6
  go_wp2_with fail
  go_ret
  exact ⟨by simp, (HC.out w6 hB6).2.2.2⟩
end Go.Proofs.Ytbcacebifpagpac
namespace Go.Proofs.Ytbcacebifpagpac
open Go.ChangeShapes Go.WideShapes Go.ChangeAt Go.RowKit Go.Joins Go.Deep
set_option linter.unusedVariables false
set_option maxRecDepth 100000
theorem own : ownKnob Try.prog.godebug = none := by kernel_rfl
theorem laidOut : laidOutB Try.prog = true := by kernel_rfl
theorem cellsInt : Try.prog.cellsOf 3 = 1 := by kernel_rfl
theorem cellsInts : Try.prog.cellsOf 23 = 1 := by kernel_rfl
theorem cellsBin : Try.prog.cellsOf 42 = 4 := by kernel_rfl
theorem cellsPlan : Try.prog.cellsOf 25 = 2 := by kernel_rfl
theorem cellsBool : Try.prog.cellsOf 4 = 1 := by kernel_rfl
section
variable {H : Type} {enc : TypeId × Value → H} {w : World} {held : Bool} {spare : Nat → Bool}
theorem addrOf {a : Addr} {i : Nat} {v : Value} (h : w.cell? (a.add i) = some v) (h0 : ∃ v0, w.cell? a = some v0) : ∃ b o, a = ⟨b, o, none⟩ ∧ b < w.heap.size ∧ w.cell? ⟨b, o + i, none⟩ = some v := by
  obtain ⟨b, off, spot⟩ := a
  obtain ⟨v0, h0⟩ := h0
  have hspot : spot = none := World.cell?_spot h0
  subst hspot
  refine ⟨b, off, rfl, World.block_lt_of_cell? w _ h0, ?_⟩
  rw [← Go.WideShapes.add_plain]
  exact h
theorem readInts {fuel : Nat} {cs : List Value} {x : DataW H × List MemPlace} (h : DataW.trod enc Try.prog w 0 spare held fuel 23 cs = some x) : ∃ r : Rw, cs = [r.val] ∧ r.At w := by
  rcases open_slice1 Try.underlying23 cellsInt h with ⟨rfl, _⟩ | ⟨a, len, cap, m, n, V, D, Pl, rfl, hb, hl, hm, hmm, _, hx⟩
  · exact ⟨⟨none, 0, 0, fun _ => 0⟩, rfl, Nat.le_refl _, Nat.zero_le _, fun i hi => absurd hi (Nat.not_lt_zero _)⟩
  · have hlm : len ≤ m := by rw [hmm]; split <;> omega
    obtain ⟨z, hz⟩ := choose_lt (α := Int) (n := len) (p := fun i y => V i = .int .i64 y) (fun i hi => by
      obtain ⟨y, hy, _⟩ := DataW.trod_int Try.underlying3 (hx i (by omega)).2
      simp only [List.cons.injEq, and_true] at hy
      exact ⟨y, hy⟩)
    refine ⟨⟨some a, len, cap, z⟩, rfl, hl, hm, fun i hi => ?_⟩
    have hi' : i < len := hi
    have h0 : ∃ v0, w.cell? a = some v0 := ⟨_, by have := (hx 0 (by omega)).1; simpa [Addr.add] using this⟩
    obtain ⟨b, o, rfl, hb', hc⟩ := addrOf (hx i (by omega)).1 h0
    exact ⟨b, o, rfl, hb', by rw [hc, hz i hi']⟩
theorem readRows {fuel : Nat} {cs : List Value} {x : DataW H × List MemPlace} (h : DataW.trod enc Try.prog w 0 spare held fuel 26 cs = some x) : ∃ s : Sh, cs = [s.val] ∧ s.At w := by
  rcases open_slice1 Try.underlying26 cellsInts h with ⟨rfl, _⟩ | ⟨a, len, cap, m, n, V, D, Pl, rfl, hb, hl, hm, hmm, _, hx⟩
  · exact ⟨⟨none, 0, 0, fun _ => ⟨none, 0, 0, fun _ => 0⟩⟩, rfl, Nat.le_refl _, Nat.zero_le _, fun i hi => absurd hi (Nat.not_lt_zero _)⟩
  · have hlm : len ≤ m := by rw [hmm]; split <;> omega
    haveI : Inhabited Rw := ⟨⟨none, 0, 0, fun _ => 0⟩⟩
    obtain ⟨z, hz⟩ := choose_lt (α := Rw) (n := len) (p := fun i y => V i = y.val ∧ y.At w) (fun i hi => by
      obtain ⟨y, hy, hat⟩ := readInts (hx i (by omega)).2
      simp only [List.cons.injEq, and_true] at hy
      exact ⟨y, hy, hat⟩)
    refine ⟨⟨some a, len, cap, z⟩, rfl, hl, hm, fun i hi => ?_⟩
    have hi' : i < len := hi
    have h0 : ∃ v0, w.cell? a = some v0 := ⟨_, by have := (hx 0 (by omega)).1; simpa [Addr.add] using this⟩
    obtain ⟨b, o, rfl, hb', hc⟩ := addrOf (hx i (by omega)).1 h0
    exact ⟨b, o, rfl, hb', by rw [hc, (hz i hi').1]; rfl, (hz i hi').2⟩
theorem readBin {fuel : Nat} {c0 c1 c2 c3 : Value} {x : DataW H × List MemPlace} (h : DataW.trod enc Try.prog w 0 spare held fuel 42 [c0, c1, c2, c3] = some x) : ∃ y : Bin, c0 = .bool y.front ∧ c1 = .int .i64 y.room ∧ c2 = .int .i64 y.low ∧ c3 = .int .i64 y.high := by
  obtain ⟨y0, y1, y2, y3, n, hx, hl, h0, h1, h2, h3⟩ := trod_struct4 Try.underlying42 h
  simp only [cellsBool, cellsInt, List.drop_succ_cons, List.drop_zero, List.take_succ_cons, List.take_zero] at h0 h1 h2 h3
  obtain ⟨b, e0, _⟩ := DataW.trod_bool Try.underlying4 h0
  obtain ⟨n1, e1, _⟩ := DataW.trod_int Try.underlying3 h1
  obtain ⟨n2, e2, _⟩ := DataW.trod_int Try.underlying3 h2
  obtain ⟨n3, e3, _⟩ := DataW.trod_int Try.underlying3 h3
  simp only [List.cons.injEq, and_true] at e0 e1 e2 e3
  exact ⟨⟨b, n1, n2, n3⟩, e0, e1, e2, e3⟩
theorem cells4 {base : Nat} {a : Addr} {cs : List Value} (h : w.cells? base a 4 = some cs) : ∃ c0 c1 c2 c3, cs = [c0, c1, c2, c3] ∧ w.cell? a = some c0 ∧ w.cell? (a.add 1) = some c1 ∧ w.cell? (a.add 2) = some c2 ∧ w.cell? (a.add 3) = some c3 := by
  obtain ⟨_, hlen, hc⟩ := World.cells?_some h
  match cs, hlen with
  | [c0, c1, c2, c3], _ =>
    refine ⟨c0, c1, c2, c3, rfl, ?_, ?_, ?_, ?_⟩
    · simpa [Addr.add] using hc 0 (by decide)
    · simpa using hc 1 (by decide)
    · simpa using hc 2 (by decide)
    · simpa using hc 3 (by decide)
theorem readBins {fuel : Nat} {cs : List Value} {x : DataW H × List MemPlace} (h : DataW.trod enc Try.prog w 0 spare held fuel 22 cs = some x) : ∃ a n c z, cs = [.slice a n c] ∧ n ≤ c ∧ c ≤ maxLen ∧ BinsAt w a n z := by
  rcases open_slice Try.underlying22 h with ⟨rfl, _⟩ | ⟨a, len, cap, m, n, D, Pl, rfl, hb, hl, hm, hmm, _, hx⟩
  · exact ⟨none, 0, 0, fun _ => ⟨false, 0, 0, 0⟩, rfl, Nat.le_refl _, Nat.zero_le _, fun i hi => absurd hi (Nat.not_lt_zero _)⟩
  · have hlm : len ≤ m := by rw [hmm]; split <;> omega
    rw [cellsBin] at hx
    haveI : Inhabited Bin := ⟨⟨false, 0, 0, 0⟩⟩
    obtain ⟨z, hz⟩ := choose_lt (α := Bin) (n := len) (p := fun i y => w.cell? (a.add (i * 4)) = some (.bool y.front) ∧ w.cell? (a.add (i * 4 + 1)) = some (.int .i64 y.room) ∧ w.cell? (a.add (i * 4 + 2)) = some (.int .i64 y.low) ∧ w.cell? (a.add (i * 4 + 3)) = some (.int .i64 y.high)) (fun i hi => by
      obtain ⟨cs', hc, ht⟩ := hx i (by omega)
      obtain ⟨c0, c1, c2, c3, rfl, k0, k1, k2, k3⟩ := cells4 hc
      obtain ⟨y, rfl, rfl, rfl, rfl⟩ := readBin ht
      rw [add_add] at k1 k2 k3
      exact ⟨y, k0, k1, k2, k3⟩)
    refine ⟨some a, len, cap, z, rfl, hl, hm, fun i hi => ?_⟩
    have h0 : ∃ v0, w.cell? a = some v0 := ⟨_, by have := (hz 0 (by omega)).1; simpa [Addr.add] using this⟩
    obtain ⟨k0, k1, k2, k3⟩ := hz i hi
    obtain ⟨b, o, rfl, hb', e0⟩ := addrOf k0 h0
    rw [Go.WideShapes.add_plain] at k1 k2 k3
    exact ⟨b, o, rfl, hb', e0, by rw [Nat.add_assoc]; exact k1, by rw [Nat.add_assoc]; exact k2, by rw [Nat.add_assoc]; exact k3⟩
theorem openPlan {r : Reach} {b0 : Nat} {v : Value} {d : DataW H} {ps : List MemPlace} (hv : Value.okWide Try.prog w r b0 25 v) (h : DataW.Trod enc Try.prog w 0 spare held 25 v d ps) : ∃ p : Pl, v = p.val ∧ p.At w := by
  obtain ⟨c0, c1, y0, y1, m, rfl, rfl, rfl, hy0, hy1⟩ := open_agg2 Try.underlying25 (by kernel_rfl) cellsPlan hv h
  obtain ⟨a, n, c, z, e0, h1, h2, h3⟩ := readBins hy0
  obtain ⟨rr, e1, hr⟩ := readInts hy1
  simp only [List.cons.injEq, and_true] at e0 e1
  subst e0 e1
  exact ⟨⟨a, n, c, z, rr.a, rr.n, rr.c, rr.z⟩, rfl, h1, h2, h3, hr.le, hr.cap, hr.ints⟩
end
end Go.Proofs.Ytbcacebifpagpac
namespace Go.Proofs.Ytbcacebifpagpac
open Go.ChangeShapes Go.WideShapes Go.ChangeAt Go.RowKit Go.Joins Go.Deep
set_option linter.unusedVariables false
set_option maxRecDepth 100000
namespace HoldsFrames
theorem own : ownKnob Try.prog.godebug = none := by kernel_rfl
theorem laidOut : laidOutB Try.prog = true := by kernel_rfl
theorem cellsInt : Try.prog.cellsOf 3 = 1 := by kernel_rfl
theorem cellsHold : Try.prog.cellsOf 65 = 4 := by kernel_rfl
section
variable {H : Type} {enc : TypeId × Value → H} {w : World} {held : Bool} {spare : Nat → Bool}
theorem addrOf {a : Addr} {i : Nat} {v : Value} (h : w.cell? (a.add i) = some v) (h0 : ∃ v0, w.cell? a = some v0) : ∃ b o, a = ⟨b, o, none⟩ ∧ b < w.heap.size ∧ w.cell? ⟨b, o + i, none⟩ = some v := by
  obtain ⟨b, off, spot⟩ := a
  obtain ⟨v0, h0⟩ := h0
  have hspot : spot = none := World.cell?_spot h0
  subst hspot
  refine ⟨b, off, rfl, World.block_lt_of_cell? w _ h0, ?_⟩
  rw [← Go.WideShapes.add_plain]
  exact h
theorem cells4 {base : Nat} {a : Addr} {cs : List Value} (h : w.cells? base a 4 = some cs) : ∃ c0 c1 c2 c3, cs = [c0, c1, c2, c3] ∧ w.cell? a = some c0 ∧ w.cell? (a.add 1) = some c1 ∧ w.cell? (a.add 2) = some c2 ∧ w.cell? (a.add 3) = some c3 := by
  obtain ⟨_, hlen, hc⟩ := World.cells?_some h
  match cs, hlen with
  | [c0, c1, c2, c3], _ =>
    refine ⟨c0, c1, c2, c3, rfl, ?_, ?_, ?_, ?_⟩
    · simpa [Addr.add] using hc 0 (by decide)
    · simpa using hc 1 (by decide)
    · simpa using hc 2 (by decide)
    · simpa using hc 3 (by decide)
theorem readHold {fuel : Nat} {c0 c1 c2 c3 : Value} {x : DataW H × List MemPlace} (h : DataW.trod enc Try.prog w 0 spare held fuel 65 [c0, c1, c2, c3] = some x) : ∃ y : Hd, c0 = .int .i64 y.o ∧ c1 = .int .i64 y.l ∧ c2 = .int .i64 y.b ∧ c3 = .int .i64 y.n := by
  obtain ⟨y0, y1, y2, y3, n, hx, hl, h0, h1, h2, h3⟩ := trod_struct4 Try.underlying65 h
  simp only [cellsInt, List.drop_succ_cons, List.drop_zero, List.take_succ_cons, List.take_zero] at h0 h1 h2 h3
  obtain ⟨n0, e0, _⟩ := DataW.trod_int Try.underlying3 h0
  obtain ⟨n1, e1, _⟩ := DataW.trod_int Try.underlying3 h1
  obtain ⟨n2, e2, _⟩ := DataW.trod_int Try.underlying3 h2
  obtain ⟨n3, e3, _⟩ := DataW.trod_int Try.underlying3 h3
  simp only [List.cons.injEq, and_true] at e0 e1 e2 e3
  exact ⟨⟨n0, n1, n2, n3⟩, e0, e1, e2, e3⟩
theorem readHolds {fuel : Nat} {cs : List Value} {x : DataW H × List MemPlace} (h : DataW.trod enc Try.prog w 0 spare held fuel 28 cs = some x) : ∃ s : Hs, cs = [s.val] ∧ s.At w := by
  rcases open_slice Try.underlying28 h with ⟨rfl, _⟩ | ⟨a, len, cap, m, n, D, Pl, rfl, hb, hl, hm, hmm, _, hx⟩
  · exact ⟨⟨none, 0, 0, fun _ => ⟨0, 0, 0, 0⟩⟩, rfl, Nat.le_refl _, Nat.zero_le _, fun i hi => absurd hi (Nat.not_lt_zero _), fun _ => rfl⟩
  · have hlm : len ≤ m := by rw [hmm]; split <;> omega
    rw [cellsHold] at hx
    haveI : Inhabited Hd := ⟨⟨0, 0, 0, 0⟩⟩
    obtain ⟨z, hz⟩ := choose_lt (α := Hd) (n := len) (p := fun i y => w.cell? (a.add (i * 4)) = some (.int .i64 y.o) ∧ w.cell? (a.add (i * 4 + 1)) = some (.int .i64 y.l) ∧ w.cell? (a.add (i * 4 + 2)) = some (.int .i64 y.b) ∧ w.cell? (a.add (i * 4 + 3)) = some (.int .i64 y.n)) (fun i hi => by
      obtain ⟨cs', hc, ht⟩ := hx i (by omega)
      obtain ⟨c0, c1, c2, c3, rfl, k0, k1, k2, k3⟩ := cells4 hc
      obtain ⟨y, rfl, rfl, rfl, rfl⟩ := readHold ht
      rw [add_add] at k1 k2 k3
      exact ⟨y, k0, k1, k2, k3⟩)
    refine ⟨⟨some a, len, cap, z⟩, rfl, hl, hm, fun i hi => ?_, fun h => by cases h⟩
    have hi' : i < len := hi
    have h0 : ∃ v0, w.cell? a = some v0 := ⟨_, by have := (hz 0 (by omega)).1; simpa [Addr.add] using this⟩
    obtain ⟨k0, k1, k2, k3⟩ := hz i hi'
    obtain ⟨b, o, rfl, hb', e0⟩ := addrOf k0 h0
    rw [Go.WideShapes.add_plain] at k1 k2 k3
    exact ⟨b, o, rfl, hb', e0, by rw [Nat.add_assoc]; exact k1, by rw [Nat.add_assoc]; exact k2, by rw [Nat.add_assoc]; exact k3⟩
end
end HoldsFrames
end Go.Proofs.Ytbcacebifpagpac
namespace Go.Proofs.Ytbcacebifpagpac
open Go.ChangeShapes Go.WideShapes Go.ChangeAt Go.RowKit Go.Joins Go.Deep
set_option linter.unusedVariables false
set_option maxRecDepth 100000
theorem cellsLine : Try.prog.cellsOf 53 = 4 := by kernel_rfl
theorem cellsMove : Try.prog.cellsOf 70 = 4 := by kernel_rfl
theorem cellsOrder : Try.prog.cellsOf 51 = 2 := by kernel_rfl
theorem cellsState : Try.prog.cellsOf 31 = 7 := by kernel_rfl
theorem cellsLines : Try.prog.cellsOf 49 = 1 := by kernel_rfl
theorem cellsMoves : Try.prog.cellsOf 29 = 1 := by kernel_rfl
theorem cellsOrders : Try.prog.cellsOf 27 = 1 := by kernel_rfl
theorem cellsHolds : Try.prog.cellsOf 28 = 1 := by kernel_rfl
theorem cellsRows : Try.prog.cellsOf 26 = 1 := by kernel_rfl
section
variable {H : Type} {enc : TypeId × Value → H} {w : World} {held : Bool} {spare : Nat → Bool}
theorem readLine {fuel : Nat} {c0 c1 c2 c3 : Value} {x : DataW H × List MemPlace} (h : DataW.trod enc Try.prog w 0 spare held fuel 53 [c0, c1, c2, c3] = some x) : ∃ y : Hd, c0 = .int .i64 y.o ∧ c1 = .int .i64 y.l ∧ c2 = .int .i64 y.b ∧ c3 = .int .i64 y.n := by
  obtain ⟨y0, y1, y2, y3, n, hx, hl, h0, h1, h2, h3⟩ := trod_struct4 Try.underlying53 h
  simp only [cellsInt, List.drop_succ_cons, List.drop_zero, List.take_succ_cons, List.take_zero] at h0 h1 h2 h3
  obtain ⟨n0, e0, _⟩ := DataW.trod_int Try.underlying3 h0
  obtain ⟨n1, e1, _⟩ := DataW.trod_int Try.underlying3 h1
  obtain ⟨n2, e2, _⟩ := DataW.trod_int Try.underlying3 h2
  obtain ⟨n3, e3, _⟩ := DataW.trod_int Try.underlying3 h3
  simp only [List.cons.injEq, and_true] at e0 e1 e2 e3
  exact ⟨⟨n0, n1, n2, n3⟩, e0, e1, e2, e3⟩
theorem readLines {fuel : Nat} {cs : List Value} {x : DataW H × List MemPlace} (h : DataW.trod enc Try.prog w 0 spare held fuel 49 cs = some x) : ∃ s : Hs, cs = [s.val] ∧ s.At w := by
  rcases open_slice Try.underlying49 h with ⟨rfl, _⟩ | ⟨a, len, cap, m, n, D, Pl, rfl, hb, hl, hm, hmm, _, hx⟩
  · exact ⟨⟨none, 0, 0, fun _ => ⟨0, 0, 0, 0⟩⟩, rfl, Nat.le_refl _, Nat.zero_le _, fun i hi => absurd hi (Nat.not_lt_zero _), fun _ => rfl⟩
  · have hlm : len ≤ m := by rw [hmm]; split <;> omega
    rw [cellsLine] at hx
    haveI : Inhabited Hd := ⟨⟨0, 0, 0, 0⟩⟩
    obtain ⟨z, hz⟩ := choose_lt (α := Hd) (n := len) (p := fun i y => w.cell? (a.add (i * 4)) = some (.int .i64 y.o) ∧ w.cell? (a.add (i * 4 + 1)) = some (.int .i64 y.l) ∧ w.cell? (a.add (i * 4 + 2)) = some (.int .i64 y.b) ∧ w.cell? (a.add (i * 4 + 3)) = some (.int .i64 y.n)) (fun i hi => by
      obtain ⟨cs', hc, ht⟩ := hx i (by omega)
      obtain ⟨c0, c1, c2, c3, rfl, k0, k1, k2, k3⟩ := cells4 hc
      obtain ⟨y, rfl, rfl, rfl, rfl⟩ := readLine ht
      rw [add_add] at k1 k2 k3
      exact ⟨y, k0, k1, k2, k3⟩)
    refine ⟨⟨some a, len, cap, z⟩, rfl, hl, hm, fun i hi => ?_, fun h => by cases h⟩
    have hi' : i < len := hi
    have h0 : ∃ v0, w.cell? a = some v0 := ⟨_, by have := (hz 0 (by omega)).1; simpa [Addr.add] using this⟩
    obtain ⟨k0, k1, k2, k3⟩ := hz i hi'
    obtain ⟨b, o, rfl, hb', e0⟩ := addrOf k0 h0
    rw [Go.WideShapes.add_plain] at k1 k2 k3
    exact ⟨b, o, rfl, hb', e0, by rw [Nat.add_assoc]; exact k1, by rw [Nat.add_assoc]; exact k2, by rw [Nat.add_assoc]; exact k3⟩
theorem readMove {fuel : Nat} {c0 c1 c2 c3 : Value} {x : DataW H × List MemPlace} (h : DataW.trod enc Try.prog w 0 spare held fuel 70 [c0, c1, c2, c3] = some x) : ∃ y : Hd, c0 = .int .i64 y.o ∧ c1 = .int .i64 y.l ∧ c2 = .int .i64 y.b ∧ c3 = .int .i64 y.n := by
  obtain ⟨y0, y1, y2, y3, n, hx, hl, h0, h1, h2, h3⟩ := trod_struct4 Try.underlying70 h
  simp only [cellsInt, List.drop_succ_cons, List.drop_zero, List.take_succ_cons, List.take_zero] at h0 h1 h2 h3
  obtain ⟨n0, e0, _⟩ := DataW.trod_int Try.underlying3 h0
  obtain ⟨n1, e1, _⟩ := DataW.trod_int Try.underlying3 h1
  obtain ⟨n2, e2, _⟩ := DataW.trod_int Try.underlying3 h2
  obtain ⟨n3, e3, _⟩ := DataW.trod_int Try.underlying3 h3
  simp only [List.cons.injEq, and_true] at e0 e1 e2 e3
  exact ⟨⟨n0, n1, n2, n3⟩, e0, e1, e2, e3⟩
theorem readMoves {fuel : Nat} {cs : List Value} {x : DataW H × List MemPlace} (h : DataW.trod enc Try.prog w 0 spare held fuel 29 cs = some x) : ∃ s : Hs, cs = [s.val] ∧ s.At w := by
  rcases open_slice Try.underlying29 h with ⟨rfl, _⟩ | ⟨a, len, cap, m, n, D, Pl, rfl, hb, hl, hm, hmm, _, hx⟩
  · exact ⟨⟨none, 0, 0, fun _ => ⟨0, 0, 0, 0⟩⟩, rfl, Nat.le_refl _, Nat.zero_le _, fun i hi => absurd hi (Nat.not_lt_zero _), fun _ => rfl⟩
  · have hlm : len ≤ m := by rw [hmm]; split <;> omega
    rw [cellsMove] at hx
    haveI : Inhabited Hd := ⟨⟨0, 0, 0, 0⟩⟩
    obtain ⟨z, hz⟩ := choose_lt (α := Hd) (n := len) (p := fun i y => w.cell? (a.add (i * 4)) = some (.int .i64 y.o) ∧ w.cell? (a.add (i * 4 + 1)) = some (.int .i64 y.l) ∧ w.cell? (a.add (i * 4 + 2)) = some (.int .i64 y.b) ∧ w.cell? (a.add (i * 4 + 3)) = some (.int .i64 y.n)) (fun i hi => by
      obtain ⟨cs', hc, ht⟩ := hx i (by omega)
      obtain ⟨c0, c1, c2, c3, rfl, k0, k1, k2, k3⟩ := cells4 hc
      obtain ⟨y, rfl, rfl, rfl, rfl⟩ := readMove ht
      rw [add_add] at k1 k2 k3
      exact ⟨y, k0, k1, k2, k3⟩)
    refine ⟨⟨some a, len, cap, z⟩, rfl, hl, hm, fun i hi => ?_, fun h => by cases h⟩
    have hi' : i < len := hi
    have h0 : ∃ v0, w.cell? a = some v0 := ⟨_, by have := (hz 0 (by omega)).1; simpa [Addr.add] using this⟩
    obtain ⟨k0, k1, k2, k3⟩ := hz i hi'
    obtain ⟨b, o, rfl, hb', e0⟩ := addrOf k0 h0
    rw [Go.WideShapes.add_plain] at k1 k2 k3
    exact ⟨b, o, rfl, hb', e0, by rw [Nat.add_assoc]; exact k1, by rw [Nat.add_assoc]; exact k2, by rw [Nat.add_assoc]; exact k3⟩
theorem cells2 {base : Nat} {a : Addr} {cs : List Value} (h : w.cells? base a 2 = some cs) : ∃ c0 c1, cs = [c0, c1] ∧ w.cell? a = some c0 ∧ w.cell? (a.add 1) = some c1 := by
  obtain ⟨_, hlen, hc⟩ := World.cells?_some h
  match cs, hlen with
  | [c0, c1], _ =>
    refine ⟨c0, c1, rfl, ?_, ?_⟩
    · simpa [Addr.add] using hc 0 (by decide)
    · simpa using hc 1 (by decide)
theorem readOrder {fuel : Nat} {c0 c1 : Value} {x : DataW H × List MemPlace} (h : DataW.trod enc Try.prog w 0 spare held fuel 51 [c0, c1] = some x) : ∃ y : Od, c0 = .int .i64 y.k ∧ c1 = .slice y.ls.a y.ls.n y.ls.c ∧ y.ls.At w := by
  obtain ⟨y0, y1, n, hx, hl, h0, h1⟩ := trod_struct2 Try.underlying51 h
  simp only [cellsInt, cellsLines, List.drop_succ_cons, List.drop_zero, List.take_succ_cons, List.take_zero] at h0 h1
  obtain ⟨n0, e0, _⟩ := DataW.trod_int Try.underlying3 h0
  obtain ⟨s, e1, hs⟩ := readLines h1
  simp only [List.cons.injEq, and_true] at e0 e1
  exact ⟨⟨n0, s⟩, e0, e1, hs⟩
theorem readOrders {fuel : Nat} {cs : List Value} {x : DataW H × List MemPlace} (h : DataW.trod enc Try.prog w 0 spare held fuel 27 cs = some x) : ∃ s : Go.Proofs.Ytbcacebifpagpac.Os, cs = [s.val] ∧ s.At w := by
  rcases open_slice Try.underlying27 h with ⟨rfl, _⟩ | ⟨a, len, cap, m, n, D, Pl, rfl, hb, hl, hm, hmm, _, hx⟩
  · exact ⟨⟨none, 0, 0, fun _ => ⟨0, ⟨none, 0, 0, fun _ => ⟨0, 0, 0, 0⟩⟩⟩⟩, rfl, Nat.le_refl _, Nat.zero_le _, fun i hi => absurd hi (Nat.not_lt_zero _)⟩
  · have hlm : len ≤ m := by rw [hmm]; split <;> omega
    rw [cellsOrder] at hx
    haveI : Inhabited Od := ⟨⟨0, ⟨none, 0, 0, fun _ => ⟨0, 0, 0, 0⟩⟩⟩⟩
    obtain ⟨z, hz⟩ := choose_lt (α := Od) (n := len) (p := fun i y => w.cell? (a.add (i * 2)) = some (.int .i64 y.k) ∧ w.cell? (a.add (i * 2 + 1)) = some (.slice y.ls.a y.ls.n y.ls.c) ∧ y.ls.At w) (fun i hi => by
      obtain ⟨cs', hc, ht⟩ := hx i (by omega)
      obtain ⟨c0, c1, rfl, k0, k1⟩ := cells2 hc
      obtain ⟨y, rfl, rfl, hy⟩ := readOrder ht
      rw [add_add] at k1
      exact ⟨y, k0, k1, hy⟩)
    refine ⟨⟨some a, len, cap, z⟩, rfl, hl, hm, fun i hi => ?_⟩
    have hi' : i < len := hi
    have h0 : ∃ v0, w.cell? a = some v0 := ⟨_, by have := (hz 0 (by omega)).1; simpa [Addr.add] using this⟩
    obtain ⟨k0, k1, hy⟩ := hz i hi'
    obtain ⟨b, o, rfl, hb', e0⟩ := addrOf k0 h0
    rw [Go.WideShapes.add_plain] at k1
    exact ⟨b, o, rfl, hb', e0, by rw [Nat.add_assoc]; exact k1, hy⟩
theorem array7 {α : Type} {cs : Array α} (h : cs.size = 7) : ∃ c0 c1 c2 c3 c4 c5 c6, cs = #[c0, c1, c2, c3, c4, c5, c6] := by
  obtain ⟨l⟩ := cs
  match l, h with
  | [c0, c1, c2, c3, c4, c5, c6], _ => exact ⟨c0, c1, c2, c3, c4, c5, c6, rfl⟩
theorem openState {r : Reach} {b0 : Nat} {v : Value} {d : DataW H} {ps : List MemPlace} (hv : Value.okWide Try.prog w r b0 31 v) (h : DataW.Trod enc Try.prog w 0 spare held 31 v d ps) : ∃ s : St, v = s.val ∧ s.At w := by
  obtain ⟨cs, rfl, hsz⟩ := okWide_struct Try.underlying31 hv
  obtain ⟨c0, c1, c2, c3, c4, c5, c6, rfl⟩ := array7 (hsz.trans cellsState)
  obtain ⟨fuel, hf⟩ := h
  obtain ⟨xs, n, _, hx, hl, hlen, hg⟩ := DataW.trod_struct Try.underlying31 hf
  match xs, hlen with
  | [y0, y1, y2, y3, y4, y5, y6], _ =>
    have k0 := hg 0 _ rfl
    have k1 := hg 1 _ rfl
    have k2 := hg 2 _ rfl
    have k3 := hg 3 _ rfl
    have k4 := hg 4 _ rfl
    have k5 := hg 5 _ rfl
    have k6 := hg 6 _ rfl
    simp [cellsRows, cellsOrders, cellsHolds, cellsMoves, cellsInts, Value.cells] at k0 k1 k2 k3 k4 k5 k6
    obtain ⟨on, e0, h0⟩ := readRows k0
    obtain ⟨os, e1, h1⟩ := readOrders k1
    obtain ⟨hs, e2, h2⟩ := HoldsFrames.readHolds k2
    obtain ⟨ms, e3, h3⟩ := readMoves k3
    obtain ⟨si, e4, h4⟩ := readInts k4
    obtain ⟨so, e5, h5⟩ := readInts k5
    obtain ⟨sf, e6, h6⟩ := readInts k6
    simp only [List.cons.injEq, and_true] at e0 e1 e2 e3 e4 e5 e6
    subst e0 e1 e2 e3 e4 e5 e6
    exact ⟨⟨on, os, hs, ms, si, so, sf⟩, rfl, h0, h1, h2, h3, h4, h5, h6⟩
end
end Go.Proofs.Ytbcacebifpagpac

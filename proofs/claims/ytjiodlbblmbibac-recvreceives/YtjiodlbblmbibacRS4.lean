/- What the document asks of states: CheckState. -/
import Derived.Test.YtjiodlbblmbibacRS2
import Derived.Test.YtjiodlbblmbibacRS3
namespace Go.Proofs.Ytjiodlbblmbibac
open Go.RowKit Go.Shelf Go.Sort
set_option linter.unusedVariables false

theorem tm_orders {s : St} (h : 4 < s.os.n) : tooManyB s = true := by
  have : decide (4 < s.os.n) = true := decide_eq_true h
  simp [tooManyB, this]
theorem tm_moves {s : St} (h : 8 < s.ms.n) : tooManyB s = true := by
  have : decide (8 < s.ms.n) = true := decide_eq_true h
  simp [tooManyB, this]
theorem tm_lines {s : St} {i : Nat} (hi : i < s.os.n) (h : inB (s.os.z i).ls.n 1 3 = false) : tooManyB s = true := by
  have : anyB s.os.n (fun i => fewLines (s.os.z i)) = true := anyB_yes hi (by unfold fewLines; rw [h]; rfl)
  simp [tooManyB, this]
theorem tm_no {s : St} (h1 : ¬ 4 < s.os.n) (h2 : ¬ 8 < s.ms.n) (h3 : ∀ i, i < s.os.n → inB (s.os.z i).ls.n 1 3 = true) : tooManyB s = false := by
  have e1 : decide (4 < s.os.n) = false := decide_eq_false h1
  have e2 : decide (8 < s.ms.n) = false := decide_eq_false h2
  have e3 : anyB s.os.n (fun i => fewLines (s.os.z i)) = false := anyB_no fun i hi => by unfold fewLines; rw [h3 i hi]; rfl
  unfold tooManyB
  rw [e1, e2, e3]
  rfl
theorem sE_shelf {p : Pl} {s : St} (h : ¬ shelfE p s.on = 0) : stateE p s = shelfE p s.on := by unfold stateE; rw [if_neg h]
theorem sE_many {p : Pl} {s : St} (h : shelfE p s.on = 0) (h1 : tooManyB s = true) : stateE p s = 2 := by unfold stateE; rw [if_pos h, h1]; rfl
theorem sE_form {p : Pl} {s : St} (h : shelfE p s.on = 0) (h1 : tooManyB s = false) (h2 : formedB p s = false) : stateE p s = 1 := by
  have e : (badOrdersB p s || badHoldsB p s || badMovesB p s || badSumsB p s) = true := by
    cases hq : (badOrdersB p s || badHoldsB p s || badMovesB p s || badSumsB p s)
    · rw [formedB, hq] at h2; cases h2
    · rfl
  unfold stateE; rw [if_pos h, h1, e]; rfl
theorem formedB_yes {p : Pl} {s : St} (h : shelfE p s.on = 0) (h1 : tooManyB s = false) (h2 : formedB p s = true) : Formed p s := by
  have e : (badOrdersB p s || badHoldsB p s || badMovesB p s || badSumsB p s) = false := by
    cases hq : (badOrdersB p s || badHoldsB p s || badMovesB p s || badSumsB p s)
    · rfl
    · rw [formedB, hq] at h2; cases h2
  simp only [Bool.or_eq_false_iff] at e
  exact formed h h1 e.1.1.1 e.1.1.2 e.1.2 e.2
theorem sE_sum {p : Pl} {s : St} (h : shelfE p s.on = 0) (h1 : tooManyB s = false) (h2 : formedB p s = true) : stateE p s = if summedB p s then 0 else 7 := by
  have e : (badOrdersB p s || badHoldsB p s || badMovesB p s || badSumsB p s) = false := by
    cases hq : (badOrdersB p s || badHoldsB p s || badMovesB p s || badSumsB p s)
    · rfl
    · rw [formedB, hq] at h2; cases h2
  unfold stateE summedB
  rw [if_pos h, h1, e]
  cases (wrongGoodsB p s || wrongOrdersB s) <;> rfl

set_option maxRecDepth 100000 in
set_option maxHeartbeats 4000000 in
theorem refCheckState_any (p : Pl) (s : St) (w : World) (hp : p.At w) (hs : s.At w) :
    Calls Try.prog 47 #[p.val, s.val] w fun e w' => e = .returned (.int .i64 (stateE p s)) ∧ Below w.heap.size w w' := by
  obtain ⟨W0, hW, hWB, X0⟩ : ∃ W, ((w.alloc (.cells #[.slice p.ab p.nb p.cb, .slice p.sa p.ns p.cs] 25)).alloc (.cells s.cells 31)) = W ∧ Below w.heap.size w W ∧ Boxes W w.heap.size (w.heap.size + 1) p s := ⟨_, rfl, two_below _ _ _, boxes_new w p s _ _⟩
  have HC : Hid (∀ wk, Below W0.heap.size W0 wk → Boxes wk w.heap.size (w.heap.size + 1) p s ∧ p.At wk ∧ s.At wk ∧ Below w.heap.size w wk) := fun wk h => ⟨X0.below h, (hp.below hWB).below h, (hs.below hWB).below h, hWB.trans (h.mono hWB.size)⟩
  have HW : Hid ((w.alloc (.cells #[.slice p.ab p.nb p.cb, .slice p.sa p.ns p.cs] 25)).alloc (.cells #[.slice s.on.a s.on.n s.on.c, .slice s.os.a s.os.n s.os.c, .slice s.hs.a s.hs.n s.hs.c, .slice s.ms.a s.ms.n s.ms.c, .slice s.si.a s.si.n s.si.c, .slice s.so.a s.so.n s.so.c, .slice s.sf.a s.sf.n s.sf.c] 31) = W0) := hW
  have ole := hs.os.le
  have ocap := hs.os.cap
  have mle := hs.ms.le
  have mcap := hs.ms.cap
  unfold maxLen at ocap mcap
  clear hW X0 hp hs
  unfold Pl.val St.val
  go_enter Try.func47, Try.ntmps47
  go_wp2_with fail
  rw [HW.out]
  obtain ⟨X, hpk, hsk, hBw⟩ := HC.out W0 (Below.refl _ _)
  refine (refCheckShelf_any p s.on W0 hpk hsk.on).mono ?_
  rintro e w1 ⟨rfl, hB⟩
  clear X hpk hsk hBw HW
  obtain ⟨X, hpk, hsk, hBw⟩ := HC.out w1 hB
  obtain ⟨⟨l1, d0, d1⟩, l2, c0, c1, c2, c3, c4, c5, c6⟩ := X
  by_cases h0 : shelfE p s.on = 0
  · have H0 : Hid (shelfE p s.on = 0) := h0
    rw [h0]
    clear h0 hpk hsk
    by_cases n1 : 4 < s.os.n
    · have HX : Hid (stateE p s = 2) := sE_many H0.out (tm_orders n1)
      have n1' : (4 : Int) < (s.os.n : Int) := by omega
      go_wp2_with fail
      go_ret
      exact ⟨by rw [HX.out]; rfl, hBw⟩
    · by_cases n2 : 8 < s.ms.n
      · have HX : Hid (stateE p s = 2) := sE_many H0.out (tm_moves n2)
        have n1' : ¬ (4 : Int) < (s.os.n : Int) := by omega
        have n2' : (8 : Int) < (s.ms.n : Int) := by omega
        go_wp2_with fail
        go_ret
        exact ⟨by rw [HX.out]; rfl, hBw⟩
      · have n1' : ¬ (4 : Int) < (s.os.n : Int) := by omega
        have n2' : ¬ (8 : Int) < (s.ms.n : Int) := by omega
        go_wp2_with fail
        clear c0 c1 c2 c3 c4 c5 c6 d0 d1 l1 l2 hBw
        go_loopw [6] (fun i wk => ∃ k : Nat, k ≤ s.os.n ∧ i = .int .i64 k ∧ (∀ j, j < k → inB (s.os.z j).ls.n 1 3 = true) ∧ Below W0.heap.size W0 wk) (fun i _ => s.os.n - (intOf i).toNat)
        case atStart => exact ⟨0, Nat.zero_le _, rfl, fun j hj => absurd hj (Nat.not_lt_zero _), hB⟩
        case round =>
          clear hB
          obtain ⟨i, hi, rfl, hno, hB⟩ := hrel
          have HN : Hid (∀ j, j < i → inB (s.os.z j).ls.n 1 3 = true) := hno
          clear hno
          obtain ⟨X, hpk, hsk, hBw⟩ := HC.out wr hB
          obtain ⟨⟨l1, d0, d1⟩, l2, c0, c1, c2, c3, c4, c5, c6⟩ := X
          by_cases hlt : i < s.os.n
          · obtain ⟨b, o, hoa, hb, z0, z1, hl⟩ := hsk.os.ods i hlt
            have qi : (0 : Int) ≤ (i : Int) := by omega
            have HT1 : Hid (inB (s.os.z i).ls.n 1 3 = false → stateE p s = 2) := fun h => sE_many H0.out (tm_lines hlt h)
            have HT2 : Hid (inB (s.os.z i).ls.n 1 3 = true → ∀ j, j < i + 1 → inB (s.os.z j).ls.n 1 3 = true) := fun h => all_succ (f := fun j => inB (s.os.z j).ls.n 1 3) HN.out h
            rw [hoa] at c1
            clear hoa hl hpk hsk c0 c2 c3 c4 c5 c6 d0 d1 z0
            generalize (s.os.z i).ls = LS at *
            cases k1 : inB LS.n 1 3
            · have HX : Hid (stateE p s = 2) := HT1.out k1
              clear HT1 HT2
              go_wp2_with (go_at_call 48; refine calls_to (within_any _ _ _ _) ?_)
              go_ret
              exact ⟨by rw [HX.out]; rfl, hBw⟩
            · have HX := HT2.out k1
              have HX2 : Hid _ := HX
              clear HT1 HT2 HX
              go_wp2_with (go_at_call 48; refine calls_to (within_any _ _ _ _) ?_)
              go_roundw
              case rel => exact ⟨i + 1, by omega, by go_num, HX2.out, hB⟩
              case measure => simp [intOf]; omega
          · have HTM : Hid (tooManyB s = false) := tm_no n1 n2 fun j hj => HN.out j (by omega)
            go_wp2_with fail
            refine (formed_any p s wr hpk hsk H0.out HTM.out).mono ?_
            rintro e w2 ⟨rfl, hB2⟩
            have hB := hB.trans (hB2.mono hB.size)
            clear hpk hsk hBw l1 d0 d1 l2 c0 c1 c2 c3 c4 c5 c6 hB2
            obtain ⟨X, hpk, hsk, hBw⟩ := HC.out w2 hB
            obtain ⟨⟨l1, d0, d1⟩, l2, c0, c1, c2, c3, c4, c5, c6⟩ := X
            cases k2 : formedB p s
            · have HX : Hid (stateE p s = 1) := sE_form H0.out HTM.out k2
              clear hpk hsk
              go_wp2_with fail
              go_ret
              exact ⟨by rw [HX.out]; rfl, hBw⟩
            · have HFO : Hid (Formed p s) := formedB_yes H0.out HTM.out k2
              have HE : Hid (stateE p s = if summedB p s then 0 else 7) := sE_sum H0.out HTM.out k2
              clear k2
              go_wp2_with fail
              refine (summed_any p s w2 hpk hsk HFO.out).mono ?_
              rintro e w3 ⟨rfl, hB3⟩
              have hBw := hBw.trans (hB3.mono hBw.size)
              clear hpk hsk l1 d0 d1 l2 c0 c1 c2 c3 c4 c5 c6 hB3
              cases k3 : summedB p s
              · have HX : Hid (stateE p s = 7) := by show stateE p s = 7; rw [HE.out, k3]; rfl
                clear HE
                go_wp2_with fail
                go_ret
                exact ⟨by rw [HX.out]; rfl, hBw⟩
              · have HX : Hid (stateE p s = 0) := by show stateE p s = 0; rw [HE.out, k3]; rfl
                clear HE
                go_wp2_with fail
                go_ret
                exact ⟨by rw [HX.out]; rfl, hBw⟩
  · have HX : Hid (stateE p s = shelfE p s.on) := sE_shelf h0
    clear hpk hsk
    go_wp2_with fail
    go_ret
    exact ⟨by rw [HX.out]; rfl, hBw⟩

end Go.Proofs.Ytjiodlbblmbibac

/- Check of a state. -/
import Derived.Test.YtjiodlbblmbibacSW7
namespace Go.Proofs.Ytjiodlbblmbibac
open Go.RowKit Go.Shelf Go.Sort
set_option linter.unusedVariables false

theorem stateE_shelf {p : Pl} {s : St} (h : ¬ shelfE p s.on = 0) : stateE p s = shelfE p s.on := by unfold stateE; rw [if_neg h]
theorem stateE_many {p : Pl} {s : St} (h : shelfE p s.on = 0) (h1 : tooManyB s = true) : stateE p s = 2 := by unfold stateE; rw [if_pos h, if_pos h1]
theorem stateE_form {p : Pl} {s : St} (h : shelfE p s.on = 0) (h1 : tooManyB s = false) (h2 : badOrdersB p s = true ∨ badHoldsB p s = true ∨ badMovesB p s = true ∨ badSumsB p s = true) : stateE p s = 1 := by
  unfold stateE
  rw [if_pos h, h1, if_neg (by decide), if_pos (by rcases h2 with h2 | h2 | h2 | h2 <;> simp [h2])]
theorem stateE_sum {p : Pl} {s : St} (h : shelfE p s.on = 0) (h1 : tooManyB s = false) (h2 : badOrdersB p s = false) (h3 : badHoldsB p s = false) (h4 : badMovesB p s = false) (h5 : badSumsB p s = false) : stateE p s = if wrongGoodsB p s || wrongOrdersB s then 7 else 0 := by
  unfold stateE
  rw [if_pos h, h1, if_neg (by decide), h2, h3, h4, h5, if_neg (by decide)]

set_option maxHeartbeats 4000000 in
theorem stateCheck_any (p : Pl) (s : St) (w : World) (hp : p.At w) (hs : s.At w) :
    Calls Try.prog 14 #[p.val, s.val] w fun e w' => e = .returned (.int .i64 (stateE p s)) ∧ Below w.heap.size w w' := by
  obtain ⟨W0, hW, hWB, X0⟩ : ∃ W, ((w.alloc (.cells #[.slice p.ab p.nb p.cb, .slice p.sa p.ns p.cs] 25)).alloc (.cells s.cells 31)) = W ∧ Below w.heap.size w W ∧ Boxes W w.heap.size (w.heap.size + 1) p s := ⟨_, rfl, two_below _ _ _, boxes_new w p s _ _⟩
  have HC : Hid (∀ wk, Below W0.heap.size W0 wk → Boxes wk w.heap.size (w.heap.size + 1) p s ∧ p.At wk ∧ s.At wk ∧ Below w.heap.size w wk) := fun wk h => ⟨X0.below h, (hp.below hWB).below h, (hs.below hWB).below h, hWB.trans (h.mono hWB.size)⟩
  have HW : Hid ((w.alloc (.cells #[.slice p.ab p.nb p.cb, .slice p.sa p.ns p.cs] 25)).alloc (.cells #[.slice s.on.a s.on.n s.on.c, .slice s.os.a s.os.n s.os.c, .slice s.hs.a s.hs.n s.hs.c, .slice s.ms.a s.ms.n s.ms.c, .slice s.si.a s.si.n s.si.c, .slice s.so.a s.so.n s.so.c, .slice s.sf.a s.sf.n s.sf.c] 31) = W0) := hW
  clear hW X0
  unfold Pl.val St.val
  go_enter Try.func14, Try.ntmps14
  go_wp2_with fail
  rw [HW.out]
  have hB : Below W0.heap.size W0 W0 := Below.refl _ _
  obtain ⟨X, hpk, hsk, hBw⟩ := HC.out W0 hB
  refine (shelfCheck_any p s.on W0 hpk hsk.on).mono ?_
  rintro e w1 ⟨rfl, hB1⟩
  have hB := hB.trans (hB1.mono hB.size)
  clear hB1 X hpk hsk hBw
  obtain ⟨X, hpk, hsk, hBw⟩ := HC.out w1 hB
  by_cases h0 : shelfE p s.on = 0
  · have E1 : Hid (shelfE p s.on = 0) := h0
    rw [h0]
    clear h0
    obtain ⟨⟨l1, d0, d1⟩, l2, c0, c1, c2, c3, c4, c5, c6⟩ := X
    go_wp2_with fail
    refine (tooMany_any s _ hsk).mono ?_
    rintro e w2 ⟨rfl, hB1⟩
    have hBn := hB.trans (hB1.mono hB.size)
    clear l1 d0 d1 l2 c0 c1 c2 c3 c4 c5 c6 hpk hsk hBw hB hB1
    have hB := hBn
    clear hBn
    obtain ⟨X, hpk, hsk, hBw⟩ := HC.out w2 hB
    cases hh2 : tooManyB s
    · have E2 : Hid (tooManyB s = false) := hh2
      clear hh2
      obtain ⟨⟨l1, d0, d1⟩, l2, c0, c1, c2, c3, c4, c5, c6⟩ := X
      go_wp2_with fail
      refine (badOrders_any p s _ hpk hsk).mono ?_
      rintro e w3 ⟨rfl, hB1⟩
      have hBn := hB.trans (hB1.mono hB.size)
      clear l1 d0 d1 l2 c0 c1 c2 c3 c4 c5 c6 hpk hsk hBw hB hB1
      have hB := hBn
      clear hBn
      obtain ⟨X, hpk, hsk, hBw⟩ := HC.out w3 hB
      cases hh3 : badOrdersB p s
      · have E3 : Hid (badOrdersB p s = false) := hh3
        clear hh3
        obtain ⟨⟨l1, d0, d1⟩, l2, c0, c1, c2, c3, c4, c5, c6⟩ := X
        go_wp2_with fail
        refine (badHolds_any p s _ hpk hsk).mono ?_
        rintro e w4 ⟨rfl, hB1⟩
        have hBn := hB.trans (hB1.mono hB.size)
        clear l1 d0 d1 l2 c0 c1 c2 c3 c4 c5 c6 hpk hsk hBw hB hB1
        have hB := hBn
        clear hBn
        obtain ⟨X, hpk, hsk, hBw⟩ := HC.out w4 hB
        cases hh4 : badHoldsB p s
        · have E4 : Hid (badHoldsB p s = false) := hh4
          clear hh4
          obtain ⟨⟨l1, d0, d1⟩, l2, c0, c1, c2, c3, c4, c5, c6⟩ := X
          go_wp2_with fail
          refine (badMoves_any p s _ hpk hsk).mono ?_
          rintro e w5 ⟨rfl, hB1⟩
          have hBn := hB.trans (hB1.mono hB.size)
          clear l1 d0 d1 l2 c0 c1 c2 c3 c4 c5 c6 hpk hsk hBw hB hB1
          have hB := hBn
          clear hBn
          obtain ⟨X, hpk, hsk, hBw⟩ := HC.out w5 hB
          cases hh5 : badMovesB p s
          · have E5 : Hid (badMovesB p s = false) := hh5
            clear hh5
            obtain ⟨⟨l1, d0, d1⟩, l2, c0, c1, c2, c3, c4, c5, c6⟩ := X
            go_wp2_with fail
            refine (badSums_any p s _ hpk hsk).mono ?_
            rintro e w6 ⟨rfl, hB1⟩
            have hBn := hB.trans (hB1.mono hB.size)
            clear l1 d0 d1 l2 c0 c1 c2 c3 c4 c5 c6 hpk hsk hBw hB hB1
            have hB := hBn
            clear hBn
            obtain ⟨X, hpk, hsk, hBw⟩ := HC.out w6 hB
            cases hh6 : badSumsB p s
            · have E6 : Hid (badSumsB p s = false) := hh6
              clear hh6
              have HF : Formed p s := formed E1.out E2.out E3.out E4.out E5.out E6.out
              obtain ⟨⟨l1, d0, d1⟩, l2, c0, c1, c2, c3, c4, c5, c6⟩ := X
              go_wp2_with fail
              refine (wrongGoods_any p s _ hpk hsk HF).mono ?_
              rintro e w7 ⟨rfl, hB1⟩
              have hBn := hB.trans (hB1.mono hB.size)
              clear l1 d0 d1 l2 c0 c1 c2 c3 c4 c5 c6 hpk hsk hBw hB hB1
              have hB := hBn
              clear hBn
              obtain ⟨X, hpk, hsk, hBw⟩ := HC.out w7 hB
              cases hh7 : wrongGoodsB p s
              · have E7 : Hid (wrongGoodsB p s = false) := hh7
                clear hh7
                obtain ⟨⟨l1, d0, d1⟩, l2, c0, c1, c2, c3, c4, c5, c6⟩ := X
                go_wp2_with fail
                refine (wrongOrders_any p s _ hsk HF).mono ?_
                rintro e w8 ⟨rfl, hB1⟩
                have hBn := hB.trans (hB1.mono hB.size)
                clear l1 d0 d1 l2 c0 c1 c2 c3 c4 c5 c6 hpk hsk hBw hB hB1
                have hB := hBn
                clear hBn
                obtain ⟨X, hpk, hsk, hBw⟩ := HC.out w8 hB
                cases hh8 : wrongOrdersB s
                · have E8 : Hid (wrongOrdersB s = false) := hh8
                  clear hh8
                  go_wp2_with fail
                  go_ret
                  exact ⟨by rw [stateE_sum E1.out E2.out E3.out E4.out E5.out E6.out, E7.out, E8.out]; rfl, hBw⟩
                · have E8 : Hid (wrongOrdersB s = true) := hh8
                  clear hh8
                  go_wp2_with fail
                  go_ret
                  exact ⟨by rw [stateE_sum E1.out E2.out E3.out E4.out E5.out E6.out, E8.out, Bool.or_true]; rfl, hBw⟩
              · have E7 : Hid (wrongGoodsB p s = true) := hh7
                clear hh7
                go_wp2_with fail
                go_ret
                exact ⟨by rw [stateE_sum E1.out E2.out E3.out E4.out E5.out E6.out, E7.out]; rfl, hBw⟩
            · have E6 : Hid (badSumsB p s = true) := hh6
              clear hh6
              go_wp2_with fail
              go_ret
              exact ⟨by rw [stateE_form E1.out E2.out (.inr (.inr (.inr E6.out)))]; rfl, hBw⟩
          · have E5 : Hid (badMovesB p s = true) := hh5
            clear hh5
            go_wp2_with fail
            go_ret
            exact ⟨by rw [stateE_form E1.out E2.out (.inr (.inr (.inl E5.out)))]; rfl, hBw⟩
        · have E4 : Hid (badHoldsB p s = true) := hh4
          clear hh4
          go_wp2_with fail
          go_ret
          exact ⟨by rw [stateE_form E1.out E2.out (.inr (.inl E4.out))]; rfl, hBw⟩
      · have E3 : Hid (badOrdersB p s = true) := hh3
        clear hh3
        go_wp2_with fail
        go_ret
        exact ⟨by rw [stateE_form E1.out E2.out (.inl E3.out)]; rfl, hBw⟩
    · have E2 : Hid (tooManyB s = true) := hh2
      clear hh2
      go_wp2_with fail
      go_ret
      exact ⟨by rw [stateE_many E1.out E2.out]; rfl, hBw⟩
  · have HE : Hid (stateE p s = shelfE p s.on) := stateE_shelf h0
    go_wp2_with fail
    go_ret
    exact ⟨by rw [HE.out]; rfl, hBw⟩

end Go.Proofs.Ytjiodlbblmbibac

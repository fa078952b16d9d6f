/- Texts that were built one behind the other, joined; what StateChecks does not reach is left out. -/
import Derived.Test.YtbcacebifpagpabK1StateChecks
import Derived.Deep.OwnRows
import Derived.Lib.SliceRun
import Derived.Lib.QuietBelow
import Derived.Lib.AppendZerosOnto
import Derived.Lib.Walk
import Derived.Laws.AppendOwnNone
import Derived.BigRegion
import Derived.Test.YtbcacebifpagpabRows
import Derived.ProofKit
import Derived.OpenShut
import Derived.Lib.SmallJoins
import Derived.Deep.Slices
namespace Go.Proofs.Ytbcacebifpagpab
open Go.RowKit Go.Shelf Go.Sort
set_option linter.unusedVariables false
def formedB (p : Pl) (s : St) : Bool := !(badOrdersB p s || badHoldsB p s || badMovesB p s || badSumsB p s)
theorem fB_order {p : Pl} {s : St} {i : Nat} (hi : i < s.os.n) (h : badOrder p (s.os.z i) = true) : formedB p s = false := by
  have : badOrdersB p s = true := anyB_yes hi h
  simp [formedB, this]
theorem fB_check {p : Pl} {s : St} (h : ¬ checkH s.hs.n s.hs.z = 0) : formedB p s = false := by
  have : badHoldsB p s = true := by simp [badHoldsB, h]
  simp [formedB, this]
theorem fB_home {p : Pl} {s : St} {i : Nat} (hi : i < s.hs.n) (h : homeless p s (s.hs.z i) = true) : formedB p s = false := by
  have : badHoldsB p s = true := by unfold badHoldsB; rw [anyB_yes hi h, Bool.or_true]
  simp [formedB, this]
theorem fB_move {p : Pl} {s : St} {i : Nat} (hi : i < s.ms.n) (h : badMove p (s.ms.z i) = true) : formedB p s = false := by
  have : badMovesB p s = true := anyB_yes hi h
  simp [formedB, this]
theorem fB_len1 {p : Pl} {s : St} (h : ¬ s.si.n = p.ns) : formedB p s = false := by
  have : badSumsB p s = true := by
    have h1 : ((s.si.n : Int) != (p.ns : Int)) = true := by simp; omega
    simp [badSumsB, badSum, h1]
  simp [formedB, this]
theorem fB_len2 {p : Pl} {s : St} (h : ¬ s.so.n = p.ns) : formedB p s = false := by
  have : badSumsB p s = true := by
    have h1 : ((s.so.n : Int) != (p.ns : Int)) = true := by simp; omega
    simp [badSumsB, badSum, h1]
  simp [formedB, this]
theorem fB_len3 {p : Pl} {s : St} (h : ¬ s.sf.n = p.ns) : formedB p s = false := by
  have : badSumsB p s = true := by
    have h1 : ((s.sf.n : Int) != (p.ns : Int)) = true := by simp; omega
    simp [badSumsB, badSum, h1]
  simp [formedB, this]
theorem badSum_yes {p : Pl} {l : Rw} {low : Int} {g : Nat} (hn : l.n = p.ns) (hg : g < p.ns) (h : inB (l.z g) low 1048576 = false) : badSum p l low = true := by
  unfold badSum
  rw [anyB_yes (k := g) (by omega) (by rw [h]; rfl), Bool.or_true]
theorem badSum_mk {p : Pl} {l : Rw} {low : Int} (hn : l.n = p.ns) (h : ∀ g, g < p.ns → inB (l.z g) low 1048576 = true) : badSum p l low = false := by
  unfold badSum
  rw [anyB_no fun j hj => by rw [h j (by omega)]; rfl, hn]
  simp
theorem fB_sum {p : Pl} {s : St} (h : badSum p s.si 0 = true ∨ badSum p s.so 0 = true ∨ badSum p s.sf (-1048576) = true) : formedB p s = false := by
  have : badSumsB p s = true := by
    unfold badSumsB
    rcases h with h | h | h <;> rw [h] <;> simp
  simp [formedB, this]
def sumOK (s : St) (g : Nat) : Bool := inB (s.si.z g) 0 1048576 && inB (s.so.z g) 0 1048576 && inB (s.sf.z g) (-1048576) 1048576
theorem fB_yes {p : Pl} {s : St} (h1 : ∀ i, i < s.os.n → badOrder p (s.os.z i) = false) (h2 : checkH s.hs.n s.hs.z = 0) (h3 : ∀ i, i < s.hs.n → homeless p s (s.hs.z i) = false) (h4 : ∀ i, i < s.ms.n → badMove p (s.ms.z i) = false)
    (h5 : s.si.n = p.ns ∧ s.so.n = p.ns ∧ s.sf.n = p.ns) (h6 : ∀ g, g < p.ns → sumOK s g = true) : formedB p s = true := by
  have e1 : badOrdersB p s = false := anyB_no h1
  have e2 : badHoldsB p s = false := by unfold badHoldsB; rw [h2, anyB_no h3]; rfl
  have e3 : badMovesB p s = false := anyB_no h4
  have e4 : badSumsB p s = false := by
    have h : ∀ g, g < p.ns → (inB (s.si.z g) 0 1048576 = true ∧ inB (s.so.z g) 0 1048576 = true) ∧ inB (s.sf.z g) (-1048576) 1048576 = true := fun g hg => by
      have := h6 g hg
      simpa [sumOK] using this
    unfold badSumsB
    rw [badSum_mk h5.1 fun g hg => (h g hg).1.1, badSum_mk h5.2.1 fun g hg => (h g hg).1.2, badSum_mk h5.2.2 fun g hg => (h g hg).2]
    rfl
  unfold formedB
  rw [e1, e2, e3, e4]
  rfl
theorem checkH_zero' {n : Nat} {z : Nat → Hd} (h : checkH n z = 0) : anyB n (badH z) = false := by
  cases h' : anyB n (badH z)
  · rfl
  · simp [checkH, h'] at h
theorem all_succ {k : Nat} {f : Nat → Bool} {b : Bool} (h : ∀ j, j < k → f j = b) (hk : f k = b) : ∀ j, j < k + 1 → f j = b := fun j hj => by
  by_cases hjk : j = k
  · rw [hjk]; exact hk
  · exact h j (by omega)
set_option maxRecDepth 100000 in
set_option maxHeartbeats 8000000 in
theorem formed_any (p : Pl) (s : St) (w : World) (hp : p.At w) (hs : s.At w) (h0 : shelfE p s.on = 0) (h1 : tooManyB s = false) :
    Calls Try.prog 52 #[p.val, s.val] w fun e w' => e = .returned (.bool (formedB p s)) ∧ Below w.heap.size w w' := by
  obtain ⟨W0, hW, hWB, X0⟩ : ∃ W, ((w.alloc (.cells #[.slice p.ab p.nb p.cb, .slice p.sa p.ns p.cs] 40)).alloc (.cells s.cells 45)) = W ∧ Below w.heap.size w W ∧ Boxes W w.heap.size (w.heap.size + 1) p s := ⟨_, rfl, two_below _ _ _, boxes_new w p s _ _⟩
  have HC : Hid (∀ wk, Below W0.heap.size W0 wk → Boxes wk w.heap.size (w.heap.size + 1) p s ∧ p.At wk ∧ s.At wk ∧ Below w.heap.size w wk) := fun wk h => ⟨X0.below h, (hp.below hWB).below h, (hs.below hWB).below h, hWB.trans (h.mono hWB.size)⟩
  have HW : Hid ((w.alloc (.cells #[.slice p.ab p.nb p.cb, .slice p.sa p.ns p.cs] 40)).alloc (.cells #[.slice s.on.a s.on.n s.on.c, .slice s.os.a s.os.n s.os.c, .slice s.hs.a s.hs.n s.hs.c, .slice s.ms.a s.ms.n s.ms.c, .slice s.si.a s.si.n s.si.c, .slice s.so.a s.so.n s.so.c, .slice s.sf.a s.sf.n s.sf.c] 45) = W0) := hW
  have HT : Hid (s.os.n ≤ 4 ∧ s.ms.n ≤ 8 ∧ (∀ i, i < s.os.n → 1 ≤ (s.os.z i).ls.n ∧ (s.os.z i).ls.n ≤ 3)) := by
    unfold tooManyB at h1
    simp only [Bool.or_eq_false_iff, decide_eq_false_iff_not] at h1
    refine ⟨by omega, by omega, fun i hi => ?_⟩
    have := anyB_false h1.2 i hi
    simp only [fewLines, Bool.not_eq_false'] at this
    have := inB_true this
    omega
  have leb := hp.leb
  have capb0 := hp.capb
  have les := hp.les
  have caps0 := hp.caps
  have os4 := HT.out.1
  have ms8 := HT.out.2.1
  clear hW X0 h0 h1 hp hs
  unfold Pl.val St.val
  go_enter Try.func52, Try.ntmps52
  go_wp2_with fail
  rw [HW.out]
  go_loopw [5] (fun i wk => ∃ k : Nat, k ≤ s.os.n ∧ i = .int .i64 k ∧ (∀ j, j < k → badOrder p (s.os.z j) = false) ∧ Below W0.heap.size W0 wk) (fun i _ => s.os.n - (intOf i).toNat)
  case atStart => exact ⟨0, Nat.zero_le _, rfl, fun j hj => absurd hj (Nat.not_lt_zero _), Below.refl _ _⟩
  case round =>
    obtain ⟨i, hi, rfl, hno, hB⟩ := hrel
    have HN : Hid (∀ j, j < i → badOrder p (s.os.z j) = false) := hno
    clear hno
    obtain ⟨X, hpk, hsk, hBw⟩ := HC.out wr hB
    obtain ⟨⟨l1, d0, d1⟩, l2, c0, c1, c2, c3, c4, c5, c6⟩ := X
    by_cases hlt : i < s.os.n
    · obtain ⟨b, o, hoa, hb, z0, z1, hl⟩ := hsk.os.ods i hlt
      have q1 : (0 : Int) ≤ (i : Int) := by omega
      have hl3 := (HT.out.2.2 i hlt)
      have lle := hl.le
      have lcap := hl.cap
      unfold maxLen at lcap
      have HO : Hid (s.os.a = some ⟨b, o, none⟩) := hoa
      have HE : Hid (badOrder p (s.os.z i) = (!inB (s.os.z i).k 0 2 || anyB (s.os.z i).ls.n (fun j => badLine p ((s.os.z i).ls.z j)))) := rfl
      rw [hoa] at c1
      clear hoa hl hsk c0 c2 c3 c4 c5 c6 hpk
      cases hk : inB (s.os.z i).k 0 2
      · have HX : Hid (formedB p s = false) := fB_order hlt (by rw [HE.out, hk]; rfl)
        generalize (s.os.z i).k = KD at *
        go_wp2_with (go_at_call 40; refine calls_to (within_any _ _ _ _) ?_)
        go_ret
        exact ⟨by rw [HX.out]; rfl, hBw⟩
      · have HE2 : Hid (badOrder p (s.os.z i) = anyB (s.os.z i).ls.n (fun j => badLine p ((s.os.z i).ls.z j))) := by show badOrder p (s.os.z i) = _; rw [HE.out, hk]; rfl
        clear HE
        generalize (s.os.z i).k = KD at *
        go_wp2_with (go_at_call 40; refine calls_to (within_any _ _ _ _) ?_)
        clear hk z0 hBw z1 c1 d0 d1 l1 l2 hb
        go_loopw [6] (fun i0 wk => ∃ k : Nat, k ≤ (s.os.z i).ls.n ∧ i0 = .int .i64 k ∧ (∀ j, j < k → badLine p ((s.os.z i).ls.z j) = false) ∧ Below W0.heap.size W0 wk) (fun i0 _ => (s.os.z i).ls.n - (intOf i0).toNat)
        case atStart => exact ⟨0, Nat.zero_le _, rfl, fun j hj => absurd hj (Nat.not_lt_zero _), hB⟩
        case round =>
          clear hB
          obtain ⟨j, hj, rfl, hno, hB⟩ := hrel
          have HM : Hid (∀ j', j' < j → badLine p ((s.os.z i).ls.z j') = false) := hno
          clear hno
          obtain ⟨X, hpk, hsk, hBw⟩ := HC.out wr hB
          obtain ⟨⟨l1, d0, d1⟩, l2, c0, c1, c2, c3, c4, c5, c6⟩ := X
          obtain ⟨b', o', hoa, hb, z0, z1, hl⟩ := hsk.os.ods i hlt
          rw [HO.out] at hoa c1
          simp only [Option.some.injEq, Addr.mk.injEq, and_true] at hoa
          obtain ⟨rfl, rfl⟩ := hoa
          by_cases hlj : j < (s.os.z i).ls.n
          · obtain ⟨b2, o2, hla, hb2, y0, y1, y2, y3⟩ := hl.hds j hlj
            have q2 : (0 : Int) ≤ (j : Int) := by omega
            have HT1 : Hid (badLine p ((s.os.z i).ls.z j) = true → formedB p s = false) := fun h => fB_order hlt (by rw [HE2.out]; exact anyB_yes hlj h)
            have HT2 : Hid (badLine p ((s.os.z i).ls.z j) = false → ∀ j', j' < j + 1 → badLine p ((s.os.z i).ls.z j') = false) := fun h => all_succ HM.out h
            have HBL : Hid (badLine p ((s.os.z i).ls.z j) = (!inB ((s.os.z i).ls.z j).o 0 ((p.ns : Int) - 1) || !inB ((s.os.z i).ls.z j).l 1 200 || !inB ((s.os.z i).ls.z j).b 0 ((s.os.z i).ls.z j).l || !inB ((s.os.z i).ls.z j).n 0 ((s.os.z i).ls.z j).l)) := rfl
            rw [hla] at z1
            clear hla hl hsk hpk c0 c2 c3 c4 c5 c6 z0 HM
            generalize badLine p ((s.os.z i).ls.z j) = BL at *
            generalize (s.os.z i).ls.z j = LZ at *
            obtain ⟨W1, hW1, hBn, hYn⟩ : ∃ W1, wr.alloc (.cells #[.int .i64 LZ.o, .int .i64 LZ.l, .int .i64 LZ.b, .int .i64 LZ.n] 82) = W1 ∧ Below W0.heap.size W0 W1 ∧ Blk W1 wr.heap.size 82 4 (fun j => (#[.int .i64 LZ.o, .int .i64 LZ.l, .int .i64 LZ.b, .int .i64 LZ.n] : Array Value).getD j default) := ⟨_, rfl, hB.alloc hB.size _, Blk.mk' rfl rfl⟩
            obtain ⟨B4, hB4⟩ : ∃ B4, wr.heap.size = B4 := ⟨_, rfl⟩
            rw [hB4] at hYn
            have HV : Hid (wr.alloc (.cells #[.int .i64 LZ.o, .int .i64 LZ.l, .int .i64 LZ.b, .int .i64 LZ.n] 82) = W1 ∧ wr.heap.size = B4) := ⟨hW1, hB4⟩
            obtain ⟨X, hpk, hsk, hBw1⟩ := HC.out W1 hBn
            clear hW1 hB4 X hpk hsk
            have HY : Hid (∀ wk, Below W1.heap.size W1 wk → (wk.cell? ⟨B4, 1, none⟩ = some (.int .i64 LZ.l) ∧ wk.cell? ⟨B4, 2, none⟩ = some (.int .i64 LZ.b) ∧ wk.cell? ⟨B4, 3, none⟩ = some (.int .i64 LZ.n) ∧ B4 < wk.heap.size) ∧ Below W0.heap.size W0 wk ∧ Below w.heap.size w wk) :=
              fun wk h => ⟨⟨(hYn.below h).cell (j := 1) (by decide), (hYn.below h).cell (j := 2) (by decide), (hYn.below h).cell (j := 3) (by decide), (hYn.below h).lt⟩, hBn.trans (h.mono hBn.size), hBw1.trans (h.mono hBw1.size)⟩
            clear hYn hBn hBw1 hBw
            go_wp2_with fail
            rw [HV.out.1]
            refine (isGood_any p LZ.o W1 les caps0).mono ?_
            rintro e w2 ⟨rfl, hB2⟩
            rw [HV.out.2]
            obtain ⟨⟨t1, t2, t3, l4⟩, hBz, hBw⟩ := HY.out w2 hB2
            clear hB2 HY HV y0 y1 y2 y3 z1 c1 d0 d1 l1 l2 hb hb2 hB
            cases k1 : inB LZ.o 0 ((p.ns : Int) - 1)
            · have HX : Hid (formedB p s = false) := HT1.out (by rw [HBL.out, k1]; rfl)
              clear HBL HT1 HT2 k1
              go_wp2_with fail
              go_ret
              exact ⟨by rw [HX.out]; rfl, hBw⟩
            · cases k2 : inB LZ.l 1 200
              · have HX : Hid (formedB p s = false) := HT1.out (by rw [HBL.out, k1, k2]; rfl)
                clear HBL HT1 HT2 k1
                go_wp2_with (go_at_call 40; refine calls_to (within_any _ _ _ _) ?_)
                go_ret
                exact ⟨by rw [HX.out]; rfl, hBw⟩
              · cases k3 : inB LZ.b 0 LZ.l
                · have HX : Hid (formedB p s = false) := HT1.out (by rw [HBL.out, k1, k2, k3]; rfl)
                  clear HBL HT1 HT2 k1
                  go_wp2_with (go_at_call 40; refine calls_to (within_any _ _ _ _) ?_)
                  go_ret
                  exact ⟨by rw [HX.out]; rfl, hBw⟩
                · cases k4 : inB LZ.n 0 LZ.l
                  · have HX : Hid (formedB p s = false) := HT1.out (by rw [HBL.out, k1, k2, k3, k4]; rfl)
                    clear HBL HT1 HT2 k1
                    go_wp2_with (go_at_call 40; refine calls_to (within_any _ _ _ _) ?_)
                    go_ret
                    exact ⟨by rw [HX.out]; rfl, hBw⟩
                  · have HX := HT2.out (by rw [HBL.out, k1, k2, k3, k4]; rfl)
                    have HX2 : Hid _ := HX
                    clear HBL HT1 HT2 k1 HX
                    go_wp2_with (go_at_call 40; refine calls_to (within_any _ _ _ _) ?_)
                    go_roundw
                    case rel => exact ⟨j + 1, by omega, by go_num, HX2.out, hBz⟩
                    case measure => simp [intOf]; omega
          · have HA : Hid (badOrder p (s.os.z i) = false) := by show badOrder p (s.os.z i) = false; rw [HE2.out]; exact anyB_no fun j' hj' => HM.out j' (by omega)
            clear c0 c2 c3 c4 c5 c6 hpk hsk hl
            go_wp2_with fail
            go_roundw
            case rel => exact ⟨i + 1, by omega, by go_num, all_succ HN.out HA.out, hB⟩
            case measure => simp [intOf]; omega
    · have HN2 : Hid (∀ j, j < s.os.n → badOrder p (s.os.z j) = false) := fun j hj => HN.out j (by omega)
      clear HN
      have HHS : Hid (s.hs.At wr) := hsk.hs
      clear hsk hpk c0 c3 c4 c5 c6 hBw d0 d1
      go_wp2_with fail
      refine (CheckHolds_any s.hs wr HHS.out).mono ?_
      rintro e w2 ⟨rfl, hB2⟩
      have hB := hB.trans (hB2.mono hB.size)
      clear hB2 HHS c1 c2 l1 l2 hlt hi
      by_cases h0 : checkH s.hs.n s.hs.z = 0
      · have H0 : Hid (checkH s.hs.n s.hs.z = 0) := h0
        have h72 : s.hs.n ≤ 72 := right_len (checkH_zero' h0)
        rw [h0]
        clear h0
        go_wp2_with fail
        go_loopw [8] (fun i wk => ∃ k : Nat, k ≤ s.hs.n ∧ i = .int .i64 k ∧ (∀ j, j < k → homeless p s (s.hs.z j) = false) ∧ Below W0.heap.size W0 wk) (fun i _ => s.hs.n - (intOf i).toNat)
        case atStart => exact ⟨0, Nat.zero_le _, rfl, fun j hj => absurd hj (Nat.not_lt_zero _), hB⟩
        case round =>
          clear hB
          obtain ⟨k, hk, rfl, hno, hB⟩ := hrel
          have HM : Hid (∀ j, j < k → homeless p s (s.hs.z j) = false) := hno
          clear hno
          obtain ⟨X, hpk, hsk, hBw⟩ := HC.out wr hB
          obtain ⟨⟨l1, d0, d1⟩, l2, c0, c1, c2, c3, c4, c5, c6⟩ := X
          by_cases hlt : k < s.hs.n
          · obtain ⟨b, q, hha, hb, z0, z1, z2, z3⟩ := hsk.hs.hds k hlt
            have hfine := fineH_true (right_fine (checkH_zero' H0.out) k hlt)
            obtain ⟨mo, hmo⟩ := Int.eq_ofNat_of_zero_le hfine.1.1
            obtain ⟨ml, hml⟩ := Int.eq_ofNat_of_zero_le hfine.2.1.1
            have q4 : (0 : Int) ≤ (k : Int) := by omega
            have q2 : (0 : Int) ≤ (mo : Int) := by omega
            have q3 : (0 : Int) ≤ (ml : Int) := by omega
            have HT1 : Hid (homeless p s (s.hs.z k) = true → formedB p s = false) := fun h => fB_home hlt h
            have HT2 : Hid (homeless p s (s.hs.z k) = false → ∀ j', j' < k + 1 → homeless p s (s.hs.z j') = false) := fun h => all_succ HM.out h
            have HBL : Hid (homeless p s (s.hs.z k) = (!inB mo 0 ((s.os.n : Int) - 1) || !inB ml 0 (((s.os.z mo).ls.n : Int) - 1) || !inB (s.hs.z k).b 0 ((p.nb : Int) - 1))) := by
              show homeless p s (s.hs.z k) = _
              unfold homeless
              rw [hmo, hml]
              rfl
            rw [hmo] at z0
            rw [hml] at z1
            rw [hha] at c2
            clear hmo hml hfine HM hha
            generalize homeless p s (s.hs.z k) = BL at *
            generalize (s.hs.z k).b = HB at *
            generalize (s.hs.z k).n = HNn at *
            obtain ⟨W1, hW1, hBn, hYn, hBa⟩ : ∃ W1, wr.alloc (.cells #[.int .i64 mo, .int .i64 ml, .int .i64 HB, .int .i64 HNn] 24) = W1 ∧ Below W0.heap.size W0 W1 ∧ Blk W1 wr.heap.size 24 4 (fun j => (#[.int .i64 mo, .int .i64 ml, .int .i64 HB, .int .i64 HNn] : Array Value).getD j default) ∧ Below wr.heap.size wr W1 := ⟨_, rfl, hB.alloc hB.size _, Blk.mk' rfl rfl, (Below.refl _ _).alloc (Nat.le_refl _) _⟩
            have HV : Hid (wr.alloc (.cells #[.int .i64 mo, .int .i64 ml, .int .i64 HB, .int .i64 HNn] 24) = W1) := hW1
            obtain ⟨X, hpk1, hsk1, hBw1⟩ := HC.out W1 hBn
            obtain ⟨⟨m1, e0, e1⟩, m2, f0, f1, f2, f3, f4, f5, f6⟩ := X
            have r0 : ∀ d os, (grow (redrawn W1 d) os).cell? ⟨wr.heap.size, 0, none⟩ = some (.int .i64 mo) := fun d os => cell_regrown (hYn.cell (j := 0) (by decide)) d os
            have r1 : ∀ d os, (grow (redrawn W1 d) os).cell? ⟨wr.heap.size, 1, none⟩ = some (.int .i64 ml) := fun d os => cell_regrown (hYn.cell (j := 1) (by decide)) d os
            have r2 : ∀ d os, (grow (redrawn W1 d) os).cell? ⟨wr.heap.size, 2, none⟩ = some (.int .i64 HB) := fun d os => cell_regrown (hYn.cell (j := 2) (by decide)) d os
            have r3 : ∀ d os, (grow (redrawn W1 d) os).cell? ⟨w.heap.size, 0, none⟩ = some (.slice p.ab p.nb p.cb) := fun d os => cell_regrown e0 d os
            have r4 : ∀ d os, (grow (redrawn W1 d) os).cell? ⟨w.heap.size, 1, none⟩ = some (.slice p.sa p.ns p.cs) := fun d os => cell_regrown e1 d os
            clear e0 e1 f0 f2 f3 f4 f5 f6 hpk1 hW1
            by_cases g1 : mo < s.os.n
            · obtain ⟨b1, o1, hoa, hb1, -, y1, hl⟩ := hsk1.os.ods mo g1
              have lle := hl.le
              have lcap := hl.cap
              have l3 := HT.out.2.2 mo g1
              unfold maxLen at lcap
              rw [hoa] at f1
              have r5 : ∀ d os, (grow (redrawn W1 d) os).cell? ⟨w.heap.size + 1, 1, none⟩ = some (.slice (some ⟨b1, o1, none⟩) s.os.n s.os.c) := fun d os => cell_regrown f1 d os
              have r6 : ∀ d os, (grow (redrawn W1 d) os).cell? ⟨b1, o1 + mo * 2 + 1, none⟩ = some (.slice (s.os.z mo).ls.a (s.os.z mo).ls.n (s.os.z mo).ls.c) := fun d os => cell_regrown y1 d os
              have g1' : ¬ (s.os.n : Int) ≤ (mo : Int) := by omega
              have g1n : ¬ s.os.n ≤ mo := by omega
              have k1 : inB mo 0 ((s.os.n : Int) - 1) = true := inB_mk (by omega)
              clear hoa hl hsk1 f1 y1
              generalize (s.os.z mo).ls.n = LN at *
              generalize (s.os.z mo).ls.a = LA at *
              generalize (s.os.z mo).ls.c = LC at *
              by_cases g2 : ml < LN
              · have g2n : ¬ LN ≤ ml := by omega
                have k2 : inB ml 0 ((LN : Int) - 1) = true := inB_mk (by omega)
                cases k3 : inB HB 0 ((p.nb : Int) - 1)
                · have HX : Hid (formedB p s = false) := HT1.out (by rw [HBL.out, k1, k2, k3]; rfl)
                  clear HBL HT1 HT2 k1 k2
                  go_wp2_with fail
                  rw [HV.out]
                  refine wp_region_quiet_below (by kernel_rfl) (by kernel_rfl) ?_
                  repeat (go_big_quiet_step ((go_at_call 59; exact Calls.regrown_of (isBin_any p HB _ leb capb0))))
                  refine wpQuiet_nil ?_
                  intro _ hw'
                  obtain ⟨⟨dq, osq⟩, hw''⟩ := hw'
                  subst hw''
                  rw [k3]
                  go_wp2_with fail
                  go_ret
                  exact ⟨by rw [HX.out]; rfl, hBw1.trans ((below_regrown _ _ _).mono hBw1.size)⟩
                · have HX := HT2.out (by rw [HBL.out, k1, k2, k3]; rfl)
                  have HX2 : Hid _ := HX
                  clear HBL HT1 HT2 k1 k2 HX
                  go_wp2_with fail
                  rw [HV.out]
                  refine wp_region_quiet_below (by kernel_rfl) (by kernel_rfl) ?_
                  repeat (go_big_quiet_step ((go_at_call 59; exact Calls.regrown_of (isBin_any p HB _ leb capb0))))
                  refine wpQuiet_nil ?_
                  intro _ hw'
                  obtain ⟨⟨dq, osq⟩, hw''⟩ := hw'
                  subst hw''
                  rw [k3]
                  go_wp2_with fail
                  go_roundw
                  case rel => exact ⟨k + 1, by omega, by go_num, HX2.out, hBn.trans ((below_regrown _ _ _).mono hBn.size)⟩
                  case measure => simp [intOf]; omega
              · have g2' : (LN : Int) ≤ (ml : Int) := by omega
                have k2 : inB ml 0 ((LN : Int) - 1) = false := inB_no (by omega)
                have HX : Hid (formedB p s = false) := HT1.out (by rw [HBL.out, k1, k2]; rfl)
                clear HBL HT1 HT2 k1 k2
                go_wp2_with fail
                rw [HV.out]
                refine wp_region_quiet_below (by kernel_rfl) (by kernel_rfl) ?_
                repeat (go_big_quiet_step (fail))
                refine wpQuiet_nil ?_
                intro _ hw'
                obtain ⟨⟨dq, osq⟩, hw''⟩ := hw'
                subst hw''
                go_wp2_with fail
                go_ret
                exact ⟨by rw [HX.out]; rfl, hBw1.trans ((below_regrown _ _ _).mono hBw1.size)⟩
            · have g1' : (s.os.n : Int) ≤ (mo : Int) := by omega
              have k1 : inB mo 0 ((s.os.n : Int) - 1) = false := inB_no (by omega)
              have r5 : ∀ d os, (grow (redrawn W1 d) os).cell? ⟨w.heap.size + 1, 1, none⟩ = some (.slice s.os.a s.os.n s.os.c) := fun d os => cell_regrown f1 d os
              have HX : Hid (formedB p s = false) := HT1.out (by rw [HBL.out, k1]; rfl)
              clear HBL HT1 HT2 k1 f1 hsk1
              go_wp2_with fail
              rw [HV.out]
              refine wp_region_quiet_below (by kernel_rfl) (by kernel_rfl) ?_
              repeat (go_big_quiet_step (fail))
              refine wpQuiet_nil ?_
              intro _ hw'
              obtain ⟨⟨dq, osq⟩, hw''⟩ := hw'
              subst hw''
              go_wp2_with fail
              go_ret
              exact ⟨by rw [HX.out]; rfl, hBw1.trans ((below_regrown _ _ _).mono hBw1.size)⟩
          · have HN3 : Hid (∀ j, j < s.hs.n → homeless p s (s.hs.z j) = false) := fun j hj => HM.out j (by omega)
            clear HM
            go_wp2_with fail
            clear hsk hpk c0 c1 c2 c3 c4 c5 c6 d0 d1 hBw l1 l2 hlt hk
            go_loopw [10] (fun i wk => ∃ k : Nat, k ≤ s.ms.n ∧ i = .int .i64 k ∧ (∀ j, j < k → badMove p (s.ms.z j) = false) ∧ Below W0.heap.size W0 wk) (fun i _ => s.ms.n - (intOf i).toNat)
            case atStart => exact ⟨0, Nat.zero_le _, rfl, fun j hj => absurd hj (Nat.not_lt_zero _), hB⟩
            case round =>
              clear hB
              obtain ⟨k, hk, rfl, hno, hB⟩ := hrel
              have HM : Hid (∀ j, j < k → badMove p (s.ms.z j) = false) := hno
              clear hno
              obtain ⟨X, hpk, hsk, hBw⟩ := HC.out wr hB
              obtain ⟨⟨l1, d0, d1⟩, l2, c0, c1, c2, c3, c4, c5, c6⟩ := X
              by_cases hlt : k < s.ms.n
              · obtain ⟨b, q, hma, hb, z0, z1, z2, z3⟩ := hsk.ms.hds k hlt
                have q4 : (0 : Int) ≤ (k : Int) := by omega
                have HT1 : Hid (badMove p (s.ms.z k) = true → formedB p s = false) := fun h => fB_move hlt h
                have HT2 : Hid (badMove p (s.ms.z k) = false → ∀ j', j' < k + 1 → badMove p (s.ms.z j') = false) := fun h => all_succ HM.out h
                have HBL : Hid (badMove p (s.ms.z k) = (!inB (s.ms.z k).o 0 ((p.ns : Int) - 1) || !inB (s.ms.z k).l 0 ((p.nb : Int) - 1) || !inB (s.ms.z k).b 0 ((p.nb : Int) - 1) || ((s.ms.z k).l == (s.ms.z k).b) || !inB (s.ms.z k).n 1 200)) := rfl
                rw [hma] at c3
                clear hma hsk hpk c0 c1 c2 c4 c5 c6 HM
                generalize badMove p (s.ms.z k) = BL at *
                generalize s.ms.z k = LZ at *
                obtain ⟨W1, hW1, hBn, hYn⟩ : ∃ W1, wr.alloc (.cells #[.int .i64 LZ.o, .int .i64 LZ.l, .int .i64 LZ.b, .int .i64 LZ.n] 84) = W1 ∧ Below W0.heap.size W0 W1 ∧ Blk W1 wr.heap.size 84 4 (fun j => (#[.int .i64 LZ.o, .int .i64 LZ.l, .int .i64 LZ.b, .int .i64 LZ.n] : Array Value).getD j default) := ⟨_, rfl, hB.alloc hB.size _, Blk.mk' rfl rfl⟩
                obtain ⟨B4, hB4⟩ : ∃ B4, wr.heap.size = B4 := ⟨_, rfl⟩
                rw [hB4] at hYn
                have HV : Hid (wr.alloc (.cells #[.int .i64 LZ.o, .int .i64 LZ.l, .int .i64 LZ.b, .int .i64 LZ.n] 84) = W1 ∧ wr.heap.size = B4) := ⟨hW1, hB4⟩
                have HY : Hid (∀ wk, Below W1.heap.size W1 wk → (wk.cell? ⟨B4, 1, none⟩ = some (.int .i64 LZ.l) ∧ wk.cell? ⟨B4, 2, none⟩ = some (.int .i64 LZ.b) ∧ wk.cell? ⟨B4, 3, none⟩ = some (.int .i64 LZ.n) ∧ B4 < wk.heap.size) ∧ (w.heap.size < wk.heap.size ∧ wk.cell? ⟨w.heap.size, 0, none⟩ = some (.slice p.ab p.nb p.cb) ∧ wk.cell? ⟨w.heap.size, 1, none⟩ = some (.slice p.sa p.ns p.cs)) ∧ Below W0.heap.size W0 wk ∧ Below w.heap.size w wk) :=
                  fun wk h => ⟨⟨(hYn.below h).cell (j := 1) (by decide), (hYn.below h).cell (j := 2) (by decide), (hYn.below h).cell (j := 3) (by decide), (hYn.below h).lt⟩, (HC.out wk (hBn.trans (h.mono hBn.size))).1.1, hBn.trans (h.mono hBn.size), (HC.out wk (hBn.trans (h.mono hBn.size))).2.2.2⟩
                clear hYn hBn hBw hW1 hB4
                go_wp2_with fail
                rw [HV.out.1]
                refine (isGood_any p LZ.o W1 les caps0).mono ?_
                rintro e w2 ⟨rfl, hB2⟩
                rw [HV.out.2]
                clear d0 d1 l1 l2 hb hB z0 z1 z2 z3 c3 HV
                obtain ⟨⟨t1, t2, t3, l4⟩, ⟨l1, d0, d1⟩, hBz, hBw⟩ := HY.out w2 hB2
                cases k1 : inB LZ.o 0 ((p.ns : Int) - 1)
                · have HX : Hid (formedB p s = false) := HT1.out (by rw [HBL.out, k1]; rfl)
                  clear HBL HT1 HT2 k1
                  go_wp2_with fail
                  go_ret
                  exact ⟨by rw [HX.out]; rfl, hBw⟩
                · go_wp2_with fail
                  refine (isBin_any p LZ.l w2 leb capb0).mono ?_
                  rintro e w3 ⟨rfl, hB3⟩
                  have hB3 := hB2.trans (hB3.mono hB2.size)
                  clear hB2 t1 t2 t3 l4 l1 d0 d1 hBz hBw
                  obtain ⟨⟨t1, t2, t3, l4⟩, ⟨l1, d0, d1⟩, hBz, hBw⟩ := HY.out w3 hB3
                  cases k2 : inB LZ.l 0 ((p.nb : Int) - 1)
                  · have HX : Hid (formedB p s = false) := HT1.out (by rw [HBL.out, k1, k2]; rfl)
                    clear HBL HT1 HT2 k1 k2
                    go_wp2_with fail
                    go_ret
                    exact ⟨by rw [HX.out]; rfl, hBw⟩
                  · go_wp2_with fail
                    refine (isBin_any p LZ.b w3 leb capb0).mono ?_
                    rintro e w4 ⟨rfl, hB4⟩
                    have hB4 := hB3.trans (hB4.mono hB3.size)
                    clear hB3 t1 t2 t3 l4 l1 d0 d1 hBz hBw
                    obtain ⟨⟨t1, t2, t3, l4⟩, ⟨l1, d0, d1⟩, hBz, hBw⟩ := HY.out w4 hB4
                    cases k3 : inB LZ.b 0 ((p.nb : Int) - 1)
                    · have HX : Hid (formedB p s = false) := HT1.out (by rw [HBL.out, k1, k2, k3]; rfl)
                      clear HBL HT1 HT2 k1 k2 k3
                      go_wp2_with fail
                      go_ret
                      exact ⟨by rw [HX.out]; rfl, hBw⟩
                    · cases k4 : (LZ.l == LZ.b)
                      · cases k5 : inB LZ.n 1 200
                        · have HX : Hid (formedB p s = false) := HT1.out (by rw [HBL.out, k1, k2, k3, k4, k5]; rfl)
                          clear HBL HT1 HT2 k1 k2 k3
                          go_wp2_with (go_at_call 40; refine calls_to (within_any _ _ _ _) ?_)
                          go_ret
                          exact ⟨by rw [HX.out]; rfl, hBw⟩
                        · have HX := HT2.out (by rw [HBL.out, k1, k2, k3, k4, k5]; rfl)
                          have HX2 : Hid _ := HX
                          clear HBL HT1 HT2 k1 k2 k3 HX
                          go_wp2_with (go_at_call 40; refine calls_to (within_any _ _ _ _) ?_)
                          go_roundw
                          case rel => exact ⟨k + 1, by omega, by go_num, HX2.out, hBz⟩
                          case measure => simp [intOf]; omega
                      · have HX : Hid (formedB p s = false) := HT1.out (by rw [HBL.out, k1, k2, k3, k4]; rfl)
                        clear HBL HT1 HT2 k1 k2 k3
                        go_wp2_with fail
                        go_ret
                        exact ⟨by rw [HX.out]; rfl, hBw⟩
              · have HN4 : Hid (∀ j, j < s.ms.n → badMove p (s.ms.z j) = false) := fun j hj => HM.out j (by omega)
                clear HM
                by_cases n1 : s.si.n = p.ns
                · by_cases n2 : s.so.n = p.ns
                  · by_cases n3 : s.sf.n = p.ns
                    · have HLN : Hid (s.si.n = p.ns ∧ s.so.n = p.ns ∧ s.sf.n = p.ns) := ⟨n1, n2, n3⟩
                      have q1 := hsk.si.le
                      have q2 := hsk.si.cap
                      have q3 := hsk.so.le
                      have q4 := hsk.so.cap
                      have q5 := hsk.sf.le
                      have q6 := hsk.sf.cap
                      unfold maxLen at q2 q4 q6
                      rw [n1] at c4 q1
                      rw [n2] at c5 q3
                      rw [n3] at c6 q5
                      clear n1 n2 n3 hsk hpk c0 c1 c2 hBw
                      go_wp2_with fail
                      clear c3 c4 c5 c6 d0 d1 l1 l2 hlt hk
                      go_loopw [12] (fun i wk => ∃ k : Nat, k ≤ p.ns ∧ i = .int .i64 k ∧ (∀ j, j < k → sumOK s j = true) ∧ Below W0.heap.size W0 wk) (fun i _ => p.ns - (intOf i).toNat)
                      case atStart => exact ⟨0, Nat.zero_le _, rfl, fun j hj => absurd hj (Nat.not_lt_zero _), hB⟩
                      case round =>
                        clear hB
                        obtain ⟨g, hg, rfl, hno, hB⟩ := hrel
                        have HM : Hid (∀ j, j < g → sumOK s j = true) := hno
                        clear hno
                        obtain ⟨X, hpk, hsk, hBw⟩ := HC.out wr hB
                        obtain ⟨⟨l1, d0, d1⟩, l2, c0, c1, c2, c3, c4, c5, c6⟩ := X
                        by_cases hlt : g < p.ns
                        · obtain ⟨b1, o1, e1, g1, z1⟩ := hsk.si.ints g (by rw [HLN.out.1]; exact hlt)
                          obtain ⟨b2, o2, e2, g2, z2⟩ := hsk.so.ints g (by rw [HLN.out.2.1]; exact hlt)
                          obtain ⟨b3, o3, e3, g3, z3⟩ := hsk.sf.ints g (by rw [HLN.out.2.2]; exact hlt)
                          have qq : (0 : Int) ≤ (g : Int) := by omega
                          rw [e1, HLN.out.1] at c4
                          rw [e2, HLN.out.2.1] at c5
                          rw [e3, HLN.out.2.2] at c6
                          have HT1 : Hid (inB (s.si.z g) 0 1048576 = false → formedB p s = false) := fun h => fB_sum (.inl (badSum_yes HLN.out.1 hlt h))
                          have HT2 : Hid (inB (s.so.z g) 0 1048576 = false → formedB p s = false) := fun h => fB_sum (.inr (.inl (badSum_yes HLN.out.2.1 hlt h)))
                          have HT3 : Hid (inB (s.sf.z g) (-1048576) 1048576 = false → formedB p s = false) := fun h => fB_sum (.inr (.inr (badSum_yes HLN.out.2.2 hlt h)))
                          have HT4 : Hid (inB (s.si.z g) 0 1048576 = true → inB (s.so.z g) 0 1048576 = true → inB (s.sf.z g) (-1048576) 1048576 = true → ∀ j', j' < g + 1 → sumOK s j' = true) := fun h1 h2 h3 => all_succ HM.out (by unfold sumOK; rw [h1, h2, h3]; rfl)
                          clear e1 e2 e3 hsk hpk c0 c1 c2 c3 HM
                          generalize s.si.z g = I1 at *
                          generalize s.so.z g = I2 at *
                          generalize s.sf.z g = I3 at *
                          cases k1 : inB I1 0 1048576
                          · have HX : Hid (formedB p s = false) := HT1.out k1
                            clear HT1 HT2 HT3 HT4
                            go_wp2_with (go_at_call 40; refine calls_to (within_any _ _ _ _) ?_)
                            go_ret
                            exact ⟨by rw [HX.out]; rfl, hBw⟩
                          · cases k2 : inB I2 0 1048576
                            · have HX : Hid (formedB p s = false) := HT2.out k2
                              clear HT1 HT2 HT3 HT4
                              go_wp2_with (go_at_call 40; refine calls_to (within_any _ _ _ _) ?_)
                              go_ret
                              exact ⟨by rw [HX.out]; rfl, hBw⟩
                            · cases k3 : inB I3 (-1048576) 1048576
                              · have HX : Hid (formedB p s = false) := HT3.out k3
                                clear HT1 HT2 HT3 HT4
                                go_wp2_with (go_at_call 40; refine calls_to (within_any _ _ _ _) ?_)
                                go_ret
                                exact ⟨by rw [HX.out]; rfl, hBw⟩
                              · have HX := HT4.out k1 k2 k3
                                have HX2 : Hid _ := HX
                                clear HT1 HT2 HT3 HT4 HX
                                go_wp2_with (go_at_call 40; refine calls_to (within_any _ _ _ _) ?_)
                                go_roundw
                                case rel => exact ⟨g + 1, by omega, by go_num, HX2.out, hB⟩
                                case measure => simp [intOf]; omega
                        · have HX : Hid (formedB p s = true) := fB_yes HN2.out H0.out HN3.out HN4.out HLN.out (fun j hj => HM.out j (by omega))
                          clear hsk hpk c0 c1 c2 c3 c4 c5 c6 HM
                          go_wp2_with fail
                          go_ret
                          exact ⟨by rw [HX.out]; rfl, hBw⟩
                    · have HX : Hid (formedB p s = false) := fB_len3 n3
                      have m1 : ((s.si.n : Int) != (p.ns : Int)) = false := by simp [n1]
                      have m2 : ((s.so.n : Int) != (p.ns : Int)) = false := by simp [n2]
                      have m3 : ((s.sf.n : Int) != (p.ns : Int)) = true := by simp; omega
                      clear hsk hpk c0 c1 c2 n1 n2
                      go_wp2_with fail
                      go_ret
                      exact ⟨by rw [HX.out]; rfl, hBw⟩
                  · have HX : Hid (formedB p s = false) := fB_len2 n2
                    have m1 : ((s.si.n : Int) != (p.ns : Int)) = false := by simp [n1]
                    have m2 : ((s.so.n : Int) != (p.ns : Int)) = true := by simp; omega
                    clear hsk hpk c0 c1 c2 c6 n1
                    go_wp2_with fail
                    go_ret
                    exact ⟨by rw [HX.out]; rfl, hBw⟩
                · have HX : Hid (formedB p s = false) := fB_len1 n1
                  have m1 : ((s.si.n : Int) != (p.ns : Int)) = true := by simp; omega
                  clear hsk hpk c0 c1 c2 c5 c6
                  go_wp2_with fail
                  go_ret
                  exact ⟨by rw [HX.out]; rfl, hBw⟩
      · have HX : Hid (formedB p s = false) := fB_check h0
        obtain ⟨X, hpk, hsk, hBw⟩ := HC.out w2 hB
        clear X hpk hsk
        go_wp2_with fail
        go_ret
        exact ⟨by rw [HX.out]; rfl, hBw⟩
end Go.Proofs.Ytbcacebifpagpab
namespace Go.Proofs.Ytbcacebifpagpab
open Go.RowKit Go.Shelf Go.Sort
set_option linter.unusedVariables false
set_option maxHeartbeats 4000000 in
theorem bound_any (p : Pl) (s : St) (bin good : Nat) (w : World) (hs : s.At w) (f : Formed p s) :
    Calls Try.prog 61 #[s.val, .int .i64 bin, .int .i64 good] w fun e w' => e = .returned (.int .i64 (heldTo s bin good s.hs.n + fromTo s bin good s.ms.n)) ∧ Below w.heap.size w w' := by
  obtain ⟨W0, hW0, hWB, hX⟩ : ∃ W0, w.alloc (.cells s.cells 45) = W0 ∧ Below w.heap.size w W0 ∧ Blk W0 w.heap.size 45 7 (fun j => s.cells.getD j default) := ⟨_, rfl, (Below.refl w.heap.size w).alloc (Nat.le_refl _) _, Blk.mk' rfl rfl⟩
  have hs0 := hs.below hWB
  have hsz0 : w.heap.size < W0.heap.size := hX.lt
  have HC : Hid (∀ wk, Below W0.heap.size W0 wk → s.At wk ∧ wk.cell? ⟨w.heap.size, 1, none⟩ = some (.slice s.os.a s.os.n s.os.c) ∧ wk.cell? ⟨w.heap.size, 2, none⟩ = some (.slice s.hs.a s.hs.n s.hs.c) ∧ wk.cell? ⟨w.heap.size, 3, none⟩ = some (.slice s.ms.a s.ms.n s.ms.c) ∧ w.heap.size < wk.heap.size) :=
    fun wk h => ⟨hs0.below h, (hX.below h).cell (j := 1) (by decide), (hX.below h).cell (j := 2) (by decide), (hX.below h).cell (j := 3) (by decide), (hX.below h).lt⟩
  have hhle := hs0.hs.le
  have hhcap := hs0.hs.cap
  have hmle := hs0.ms.le
  have hmcap := hs0.ms.cap
  have hosle := hs0.os.le
  have hoscap := hs0.os.cap
  unfold maxLen at hhcap hmcap hoscap
  have h72 := f.hs72
  have m8 := f.ms8
  have HB : Hid (∀ k, k ≤ s.hs.n → 0 ≤ heldTo s bin good k ∧ heldTo s bin good k ≤ 200 * k) := fun k hk => heldTo_bd fun j hj => f.holdN j (by omega)
  have MB : Hid (∀ k, k ≤ s.ms.n → 0 ≤ fromTo s bin good k ∧ fromTo s bin good k ≤ 200 * k) := fun k hk => fromTo_bd fun j hj => f.moveN j (by omega)
  have HW : Hid (w.alloc (.cells #[.slice s.on.a s.on.n s.on.c, .slice s.os.a s.os.n s.os.c, .slice s.hs.a s.hs.n s.hs.c, .slice s.ms.a s.ms.n s.ms.c, .slice s.si.a s.si.n s.si.c, .slice s.so.a s.so.n s.so.c, .slice s.sf.a s.sf.n s.sf.c] 45) = W0) := hW0
  simp only [St.val]
  clear hX hW0
  go_enter Try.func61, Try.ntmps61
  go_wp2_with fail
  rw [HW.out]
  go_loopw [7, 8] (fun u i wk => ∃ k : Nat, k ≤ s.hs.n ∧ i = .int .i64 k ∧ u = .int .i64 (heldTo s bin good k) ∧ Below W0.heap.size W0 wk) (fun _ i _ => s.hs.n - (intOf i).toNat)
  case atStart => exact ⟨0, Nat.zero_le _, rfl, by simp [heldTo], Below.refl _ _⟩
  case round =>
    obtain ⟨k, hk, rfl, rfl, hB⟩ := hrel
    have m1 := HB.out k hk
    obtain ⟨hsk, c1, c2, c3, hlt0⟩ := HC.out wr hB
    by_cases hlt : k < s.hs.n
    · obtain ⟨b, q, hha, hb, z0, z1, z2, z3⟩ := hsk.hs.hds k hlt
      have m2 := f.holdN k hlt
      obtain ⟨mo, ml, b1, o1, b2, o2, N, C, hmo, hml, g1, g2, g3, g4, hosa, g5, g6, g7, g8⟩ := goodAt f hsk.os hlt
      have HG : Hid (s.hs.a = some ⟨b, q, none⟩ ∧ s.os.a = some ⟨b1, o1, none⟩ ∧ (s.hs.z k).o = (mo : Int) ∧ (s.hs.z k).l = (ml : Int)) := ⟨hha, hosa, hmo, hml⟩
      obtain ⟨W1, hW1, hB1, hY⟩ : ∃ W1, wr.alloc (.cells #[.int .i64 mo, .int .i64 ml, .int .i64 (s.hs.z k).b, .int .i64 (s.hs.z k).n] 24) = W1 ∧ Below W0.heap.size W0 W1 ∧ Blk W1 wr.heap.size 24 4 (fun j => (#[.int .i64 mo, .int .i64 ml, .int .i64 (s.hs.z k).b, .int .i64 (s.hs.z k).n] : Array Value).getD j default) := ⟨_, rfl, hB.alloc hB.size _, Blk.mk' rfl rfl⟩
      have hBa : Below wr.heap.size wr W1 := by rw [← hW1]; exact (Below.refl _ _).alloc (Nat.le_refl _) _
      have r0 : ∀ d os, (grow (redrawn W1 d) os).cell? ⟨wr.heap.size, 0, none⟩ = some (.int .i64 mo) := fun d os => cell_regrown (hY.cell (j := 0) (by decide)) d os
      have r1 : ∀ d os, (grow (redrawn W1 d) os).cell? ⟨wr.heap.size, 1, none⟩ = some (.int .i64 ml) := fun d os => cell_regrown (hY.cell (j := 1) (by decide)) d os
      have r2 : ∀ d os, (grow (redrawn W1 d) os).cell? ⟨wr.heap.size, 2, none⟩ = some (.int .i64 (s.hs.z k).b) := fun d os => cell_regrown (hY.cell (j := 2) (by decide)) d os
      have r3 : ∀ d os, (grow (redrawn W1 d) os).cell? ⟨wr.heap.size, 3, none⟩ = some (.int .i64 (s.hs.z k).n) := fun d os => cell_regrown (hY.cell (j := 3) (by decide)) d os
      rw [hosa] at c1
      rw [hmo] at z0
      rw [hml] at z1
      have r4 : ∀ d os, (grow (redrawn W1 d) os).cell? ⟨w.heap.size, 1, none⟩ = some (.slice (some ⟨b1, o1, none⟩) s.os.n s.os.c) := fun d os => cell_regrown ((hBa.cell (p := ⟨w.heap.size, 1, none⟩) hlt0).trans c1) d os
      have r5 : ∀ d os, (grow (redrawn W1 d) os).cell? ⟨b1, o1 + mo * 2 + 1, none⟩ = some (.slice (some ⟨b2, o2, none⟩) N C) := fun d os => cell_regrown ((hBa.cell (p := ⟨b1, o1 + mo * 2 + 1, none⟩) g5).trans g7) d os
      have r6 : ∀ d os, (grow (redrawn W1 d) os).cell? ⟨b2, o2 + ml * 4, none⟩ = some (.int .i64 (goodH s (s.hs.z k))) := fun d os => cell_regrown ((hBa.cell (p := ⟨b2, o2 + ml * 4, none⟩) g6).trans g8) d os
      have HV : Hid (wr.alloc (.cells #[.int .i64 mo, .int .i64 ml, .int .i64 (s.hs.z k).b, .int .i64 (s.hs.z k).n] 24) = W1) := hW1
      have q2 : (0 : Int) ≤ (mo : Int) := by omega
      have q3 : (0 : Int) ≤ (ml : Int) := by omega
      have q4 : (0 : Int) ≤ (k : Int) := by omega
      have H1 : Hid (((s.hs.z k).b = bin ∧ goodH s (s.hs.z k) = good → heldTo s bin good (k + 1) = heldTo s bin good k + (s.hs.z k).n) ∧ (¬ ((s.hs.z k).b = bin ∧ goodH s (s.hs.z k) = good) → heldTo s bin good (k + 1) = heldTo s bin good k)) := ⟨fun h => heldTo_hit h.1 h.2, heldTo_miss⟩
      rw [hha] at c2
      unfold maxLen at g4
      clear hmo hml hosa hha hW1 c1 c3 hsk hBa
      generalize goodH s (s.hs.z k) = GD at *
      generalize heldTo s bin good k = U at *
      generalize (s.hs.z k).b = BB at *
      generalize (s.hs.z k).n = NN at *
      cases h1 : (BB == (bin : Int))
      · have hm := H1.out.2 (by simp at h1; omega)
        have HM : Hid (heldTo s bin good (k + 1) = U) := hm
        clear hm H1
        go_wp2_with fail
        rw [HV.out]
        refine wp_region_quiet_below (by kernel_rfl) (by kernel_rfl) ?_
        repeat (go_big_quiet_step (fail))
        refine wpQuiet_nil ?_
        intro _ hw'
        obtain ⟨⟨dq, osq⟩, hw''⟩ := hw'
        subst hw''
        have hC := hB1.trans ((below_regrown W1 dq osq).mono hB1.size)
        have hn3 := r3 dq osq
        have hlw : wr.heap.size < (grow (redrawn W1 dq) osq).heap.size := Nat.lt_of_lt_of_le hY.lt (below_regrown W1 dq osq).size
        clear r0 r1 r2 r3 r4 r5 r6 hY hB1 HV
        generalize grow (redrawn W1 dq) osq = wz at *
        go_wp2_with fail
        go_roundw
        case rel => exact ⟨k + 1, by omega, by go_num, by rw [HM.out], hC⟩
        case measure => simp [intOf]; omega
      · cases h2 : (GD == (good : Int))
        · have h1 := h2
          have hm := H1.out.2 (by simp at h1; omega)
          have HM : Hid (heldTo s bin good (k + 1) = U) := hm
          clear hm H1
          go_wp2_with fail
          rw [HV.out]
          refine wp_region_quiet_below (by kernel_rfl) (by kernel_rfl) ?_
          repeat (go_big_quiet_step (fail))
          refine wpQuiet_nil ?_
          intro _ hw'
          obtain ⟨⟨dq, osq⟩, hw''⟩ := hw'
          subst hw''
          have hC := hB1.trans ((below_regrown W1 dq osq).mono hB1.size)
          have hn3 := r3 dq osq
          have hlw : wr.heap.size < (grow (redrawn W1 dq) osq).heap.size := Nat.lt_of_lt_of_le hY.lt (below_regrown W1 dq osq).size
          clear r0 r1 r2 r3 r4 r5 r6 hY hB1 HV
          generalize grow (redrawn W1 dq) osq = wz at *
          go_wp2_with fail
          go_roundw
          case rel => exact ⟨k + 1, by omega, by go_num, by rw [HM.out], hC⟩
          case measure => simp [intOf]; omega
        · have hm := H1.out.1 ⟨by simpa using h1, by simpa using h2⟩
          have HM : Hid (heldTo s bin good (k + 1) = U + NN) := hm
          clear hm H1
          go_wp2_with fail
          rw [HV.out]
          refine wp_region_quiet_below (by kernel_rfl) (by kernel_rfl) ?_
          repeat (go_big_quiet_step (fail))
          refine wpQuiet_nil ?_
          intro _ hw'
          obtain ⟨⟨dq, osq⟩, hw''⟩ := hw'
          subst hw''
          have hC := hB1.trans ((below_regrown W1 dq osq).mono hB1.size)
          have hn3 := r3 dq osq
          have hlw : wr.heap.size < (grow (redrawn W1 dq) osq).heap.size := Nat.lt_of_lt_of_le hY.lt (below_regrown W1 dq osq).size
          clear r0 r1 r2 r3 r4 r5 r6 hY hB1 HV
          generalize grow (redrawn W1 dq) osq = wz at *
          go_wp2_with fail
          go_roundw
          case rel => exact ⟨k + 1, by omega, by go_num, by rw [HM.out], hC⟩
          case measure => simp [intOf]; omega
    · have hkn : k = s.hs.n := by omega
      subst hkn
      generalize hHH : heldTo s bin good s.hs.n = HH at *
      have HHH : Hid (heldTo s bin good s.hs.n = HH) := hHH
      clear hHH hsk
      go_wp2_with fail
      go_loopw [7, 10] (fun u i wk => ∃ k : Nat, k ≤ s.ms.n ∧ i = .int .i64 k ∧ u = .int .i64 (HH + fromTo s bin good k) ∧ Below W0.heap.size W0 wk) (fun _ i _ => s.ms.n - (intOf i).toNat)
      case atStart => exact ⟨0, Nat.zero_le _, rfl, by simp [fromTo], hB⟩
      case round =>
        clear hB c1 c2 c3 hlt0
        obtain ⟨k, hk, rfl, rfl, hB⟩ := hrel
        have m2 := MB.out k hk
        by_cases hlt2 : k < s.ms.n
        · obtain ⟨hsk, c1, c2, c3, hlt0⟩ := HC.out wr hB
          obtain ⟨b, q, hma, hb, z0, z1, z2, z3⟩ := hsk.ms.hds k hlt2
          have m3 := f.moveN k hlt2
          have H1 : Hid (((s.ms.z k).l = bin ∧ (s.ms.z k).o = good → fromTo s bin good (k + 1) = fromTo s bin good k + (s.ms.z k).n) ∧ (¬ ((s.ms.z k).l = bin ∧ (s.ms.z k).o = good) → fromTo s bin good (k + 1) = fromTo s bin good k)) := ⟨fun h => fromTo_hit h.1 h.2, fromTo_miss⟩
          have q4 : (0 : Int) ≤ (k : Int) := by omega
          have hBa := hB
          have HBa : Hid (Below W0.heap.size W0 wr) := hBa
          rw [hma] at c3
          clear hma c1 c2 hsk hBa
          generalize fromTo s bin good k = U at *
          generalize (s.ms.z k).l = BB at *
          generalize (s.ms.z k).n = NN at *
          generalize (s.ms.z k).o = GD at *
          cases h1 : (BB == (bin : Int))
          · have hm := H1.out.2 (by simp at h1; omega)
            have HM : Hid (fromTo s bin good (k + 1) = U) := hm
            clear hm H1
            go_wp2_with fail
            go_roundw
            case rel => exact ⟨k + 1, by omega, by go_num, by rw [HM.out], HBa.out⟩
            case measure => simp [intOf]; omega
          · cases h2 : (GD == (good : Int))
            · have h1 := h2
              have hm := H1.out.2 (by simp at h1; omega)
              have HM : Hid (fromTo s bin good (k + 1) = U) := hm
              clear hm H1
              go_wp2_with fail
              go_roundw
              case rel => exact ⟨k + 1, by omega, by go_num, by rw [HM.out], HBa.out⟩
              case measure => simp [intOf]; omega
            · have hm := H1.out.1 ⟨by simpa using h1, by simpa using h2⟩
              have HM : Hid (fromTo s bin good (k + 1) = U + NN) := hm
              clear hm H1
              go_wp2_with fail
              go_roundw
              case rel => exact ⟨k + 1, by omega, by go_num, by rw [HM.out, Int.add_assoc], HBa.out⟩
              case measure => simp [intOf]; omega
        · have hkn : k = s.ms.n := by omega
          subst hkn
          obtain ⟨hsk, c1, c2, c3, hlt0⟩ := HC.out wr hB
          clear hsk c1 c2
          go_wp2_with fail
          go_ret
          exact ⟨by rw [← HHH.out]; rfl, hWB.trans (hB.mono hWB.size)⟩
end Go.Proofs.Ytbcacebifpagpab
namespace Go.Proofs.Ytbcacebifpagpab
open Go.RowKit
set_option linter.unusedVariables false
def depsOf (ops : Array Oper) (i : Nat) : List Nat := match ops[i]? with
  | none => []
  | some o => (o.after.toList.filter (fun e => Region.binds .any e)).map (fun e => e.on)
def mark (listed : Array Bool) : List Nat → Array Bool
  | [] => listed
  | i :: r => mark (listed.setIfInBounds i true) r
def firstsB (ops : Array Oper) : List Nat → Array Bool → Bool
  | [], _ => true
  | i :: r, listed => (Region.ready .any ops listed).contains i && Region.free .any ops listed i && firstsB ops r (listed.setIfInBounds i true)
def topoB (ops : Array Oper) (L : Array Bool) : List Nat → List Nat → Bool
  | _, [] => true
  | seen, i :: r => (depsOf ops i).all (fun d => L.getD d false || seen.contains d) && topoB ops L (i :: seen) r
def dstOf (ops : Array Oper) (i : Nat) : Option Tmp := match ops[i]? with
  | none => none
  | some o => o.dst
theorem mark_size : ∀ (l : List Nat) (listed : Array Bool), (mark listed l).size = listed.size
  | [], _ => rfl
  | i :: r, listed => by rw [mark, mark_size r]; simp
theorem mark_get : ∀ (l : List Nat) (listed : Array Bool) (j : Nat), j < listed.size → (mark listed l)[j]? = if j ∈ l then some true else listed[j]?
  | [], listed, j, _ => by simp [mark]
  | i :: r, listed, j, hj => by
    rw [mark, mark_get r _ j (by simpa using hj), Array.getElem?_setIfInBounds]
    by_cases h1 : j ∈ r
    · simp [h1]
    · by_cases h2 : i = j
      · subst h2; simp [h1, hj]
      · have h3 : ¬ j = i := fun e => h2 e.symm
        simp [h1, h2, h3]
def putAll (ops : Array Oper) (rem : List Nat) (V : Nat → Value) (a : Act) : Act := match rem with
  | [] => a
  | i :: r => putAll ops r V (a.put (dstOf ops i) (V i))
theorem put_self (a : Act) (d : Option Tmp) : a.put d (match d with | some d => a.tmps.getD d undef | none => undef) = a := by
  cases d with
  | none => rfl
  | some d =>
    cases a with
    | mk tmps defers =>
      simp only [Act.put]
      congr 1
      apply Array.ext_getElem?
      intro i
      rw [Array.getElem?_setIfInBounds]
      by_cases h : d = i
      · subst h
        by_cases h2 : d < tmps.size
        · simp [h2, Array.getD]
        · simp [h2]
      · simp [h]
theorem put_put (a : Act) (d : Option Tmp) (u v : Value) : (a.put d u).put d v = a.put d v := by
  cases d with
  | none => rfl
  | some d =>
    simp only [Act.put]
    congr 1
    apply Array.ext_getElem?
    intro i
    simp only [Array.getElem?_setIfInBounds, Array.size_setIfInBounds]
    by_cases h : d = i <;> simp [h]
theorem put_swap (a : Act) {d d' : Option Tmp} (u v : Value) (h : d ≠ d') : (a.put d u).put d' v = (a.put d' v).put d u := by
  cases d with
  | none => rfl
  | some d => cases d' with
    | none => rfl
    | some d' =>
      have hne : d ≠ d' := fun e => h (by rw [e])
      simp only [Act.put]
      congr 1
      apply Array.ext_getElem?
      intro i
      simp only [Array.getElem?_setIfInBounds, Array.size_setIfInBounds]
      by_cases h1 : d = i
      · have h2 : ¬ d' = i := fun e => hne (h1.trans e.symm)
        simp [h1, h2]
      · by_cases h2 : d' = i <;> simp [h1, h2]
def upd (V : Nat → Value) (i : Nat) (v : Value) (j : Nat) : Value := if j = i then v else V j
theorem putAll_congr {ops : Array Oper} : ∀ {rem : List Nat} {V V' : Nat → Value} {a : Act}, (∀ j ∈ rem, V j = V' j) → putAll ops rem V a = putAll ops rem V' a
  | [], _, _, _, _ => rfl
  | i :: r, V, V', a, h => by
    rw [putAll, putAll, h i (by simp)]
    exact putAll_congr fun j hj => h j (by simp [hj])
theorem putAll_swap {ops : Array Oper} {d : Option Tmp} {v : Value} : ∀ {rem : List Nat} {V : Nat → Value} {a : Act}, d ∉ rem.map (dstOf ops) → putAll ops rem V (a.put d v) = (putAll ops rem V a).put d v
  | [], _, _, _ => rfl
  | i :: r, V, a, h => by
    simp only [List.map_cons, List.mem_cons, not_or] at h
    rw [putAll, putAll, put_swap a _ _ h.1]
    exact putAll_swap h.2
theorem putAll_put {ops : Array Oper} {i : Nat} {v : Value} : ∀ {rem : List Nat} {V : Nat → Value} {a : Act}, (rem.map (dstOf ops)).Nodup → i ∈ rem → (putAll ops rem V a).put (dstOf ops i) v = putAll ops rem (upd V i v) a
  | [], _, _, _, hi => by simp at hi
  | k :: r, V, a, hn, hi => by
    simp only [List.map_cons, List.nodup_cons] at hn
    rw [putAll, putAll]
    by_cases hk : k = i
    · subst hk
      have hkr : k ∉ r := fun h => hn.1 (List.mem_map.2 ⟨k, h, rfl⟩)
      rw [← putAll_swap hn.1, put_put]
      have e1 : upd V k v k = v := if_pos rfl
      rw [e1]
      exact putAll_congr fun j hj => (if_neg (fun e : j = k => hkr (by rw [← e]; exact hj))).symm
    · have e1 : upd V i v k = V k := if_neg hk
      rw [e1]
      have hir : i ∈ r := by
        rcases List.mem_cons.1 hi with h | h
        · exact absurd h.symm hk
        · exact h
      exact putAll_put hn.2 hir
theorem putAll_self {ops : Array Oper} (a : Act) : ∀ (rem : List Nat), putAll ops rem (fun i => match dstOf ops i with | some d => a.tmps.getD d undef | none => undef) a = a
  | [] => rfl
  | i :: r => by
    rw [putAll, put_self]
    exact putAll_self a r
theorem wpOp_list {P : Program} {l : List Oper} {Q : Exit → Act → World → Prop} {K : Act → World → Prop} (k : Nat) {o : Oper} {a : Act} {w : World} (hk : l[k]? = some o)
    (h : wpList P l.toArray (Exit.then K Q) [o] a w) : wpOp P l.toArray Q k K a w := by
  unfold wpOp
  simp only [List.getElem?_toArray, hk]
  unfold wpList at h
  split
  · rename_i hw
    rw [if_pos hw] at h
    rcases h with h | ⟨h1, h2⟩
    · exact .inl (Oper.wp_then (Oper.wp_mono (fun a' w' h' => h') h))
    · exact .inr ⟨h1, h2⟩
  · rename_i hw
    rw [if_neg hw] at h
    exact h
theorem topo_ready {ops : Array Oper} {L listed : Array Bool} (hsz : listed.size = ops.size) : ∀ (seen rem : List Nat), topoB ops L seen rem = true → (∀ d, L.getD d false = true → listed.getD d false = true) → (∀ d ∈ seen, listed.getD d false = true) →
    (∀ r ∈ rem, r < ops.size) → (∃ r ∈ rem, listed.getD r true = false) → ∃ r ∈ rem, r ∈ Region.ready .any ops listed
  | _, [], _, _, _, _, h => by obtain ⟨r, hr, _⟩ := h; simp at hr
  | seen, i :: r, hT, hL, hs, hlt, h => by
    simp only [topoB, Bool.and_eq_true] at hT
    by_cases hi : listed.getD i true = false
    · refine ⟨i, by simp, mem_ready.2 ⟨hi, ops[i]'(hlt i (by simp)), by simp [hlt i (by simp)], fun e he hb => ?_⟩⟩
      have hd : e.on ∈ depsOf ops i := by
        unfold depsOf
        simp only [Array.getElem?_eq_getElem (hlt i (by simp))]
        exact List.mem_map.2 ⟨e, List.mem_filter.2 ⟨by simpa using he, hb⟩, rfl⟩
      have := List.all_eq_true.1 hT.1 _ hd
      simp only [Bool.or_eq_true, List.contains_iff_mem] at this
      rcases this with h1 | h1
      · exact hL _ h1
      · exact hs _ h1
    · obtain ⟨q, hq, hq2⟩ := h
      have hq3 : q ∈ r := by
        rcases List.mem_cons.1 hq with e | e
        · subst e; exact absurd hq2 hi
        · exact e
      obtain ⟨x, hx, hx2⟩ := topo_ready hsz (i :: seen) r hT.2 hL (fun d hd => by
        rcases List.mem_cons.1 hd with e | e
        · subst e
          have : listed.getD d true = true := by simpa using hi
          by_cases hz : d < listed.size
          · simpa [Array.getD, hz] using this
          · exfalso
            have hnone : listed.size ≤ d := by omega
            exact hz (by
              have := hlt d (by simp)
              omega)
        · exact hs d e) (fun x hx => hlt x (by simp [hx])) ⟨q, hq3, hq2⟩
      exact ⟨x, by simp [hx], hx2⟩
def picks (l : List Oper) : List Nat → List Oper
  | [] => []
  | k :: ks => (l.drop k).take 1 ++ picks l ks
theorem picks_ok {l : List Oper} : ∀ {ks : List Nat}, ks.all (fun k => decide (k < l.length)) = true → ks.map (fun k => l[k]?) = (picks l ks).map some
  | [], _ => rfl
  | k :: ks, h => by
    simp only [List.all_cons, Bool.and_eq_true, decide_eq_true_eq] at h
    have h1 : (l.drop k).take 1 = [l[k]'h.1] := by
      rw [List.drop_eq_getElem_cons h.1]
      rfl
    rw [picks, h1, List.map_cons, List.singleton_append, List.map_cons, List.getElem?_eq_getElem h.1, picks_ok h.2]
end Go.Proofs.Ytbcacebifpagpab
namespace Go.Proofs.Ytbcacebifpagpab
open Go.RowKit
set_option linter.unusedVariables false
def wpAnyT (P : Program) (ops : Array Oper) (Q : Exit → Act → World → Prop) (S : World → Prop) (T : Nat → Bool) : Nat → Array Bool → Act → World → Prop
  | 0, listed, a, w => Region.ready .any ops listed = [] ∧ Q .normal a w
  | fuel + 1, listed, a, w => (Region.ready .any ops listed = [] → Q .normal a w) ∧
      ∀ i ∈ Region.ready .any ops listed, wpOp P ops Q i (fun a' w' => (T i = false → S w') ∧ wpAnyT P ops Q S T fuel (listed.setIfInBounds i true) a' w') a w
theorem wpAny_of_T {P : Program} {ops : Array Oper} {Q : Exit → Act → World → Prop} {S : World → Prop} {T : Nat → Bool} : ∀ (fuel : Nat) (listed : Array Bool) (a : Act) (w : World), wpAnyT P ops Q S T fuel listed a w → wpAny P .any ops Q fuel listed a w
  | 0, _, _, _, h => h
  | fuel + 1, _, _, _, h => ⟨h.1, fun i hi => wpOp_mono (fun a' w' h' => wpAny_of_T fuel _ a' w' h'.2) (h.2 i hi)⟩
def Closed (ops : Array Oper) (listed : Array Bool) : Prop := ∀ j, listed.getD j false = true → ∀ d ∈ depsOf ops j, listed.getD d false = true
def reach (ops : Array Oper) : Nat → Nat → Nat → Bool
  | 0, _, _ => false
  | f + 1, j, i => (depsOf ops j).any (fun d => d == i || reach ops f d i)
theorem reach_listed {ops : Array Oper} {listed : Array Bool} (hc : Closed ops listed) : ∀ (f j i : Nat), (∀ d ∈ depsOf ops j, listed.getD d false = true) → reach ops f j i = true → listed.getD i false = true
  | 0, _, _, _, h => by simp [reach] at h
  | f + 1, j, i, hd, h => by
    unfold reach at h
    obtain ⟨d, hd1, hd2⟩ := List.any_eq_true.1 h
    simp only [Bool.or_eq_true, beq_iff_eq] at hd2
    rcases hd2 with rfl | hd2
    · exact hd d hd1
    · exact reach_listed hc f d i (hc d (hd d hd1)) hd2
theorem ready_deps {ops : Array Oper} {listed : Array Bool} {j : Nat} (h : j ∈ Region.ready .any ops listed) : ∀ d ∈ depsOf ops j, listed.getD d false = true := fun d hd => by
  obtain ⟨_, o, ho, hdep⟩ := mem_ready.1 h
  unfold depsOf at hd
  rw [ho] at hd
  obtain ⟨e, he, rfl⟩ := List.mem_map.1 hd
  have := List.mem_filter.1 he
  exact hdep e (by simpa using this.1) this.2
theorem getD_mono {listed : Array Bool} {i d : Nat} (h : listed.getD d false = true) : (listed.setIfInBounds i true).getD d false = true := by
  by_cases hid : i = d
  · subst hid
    by_cases hl : i < listed.size
    · simp [Array.getD, hl]
    · simp [Array.getD, hl] at h
  · rw [getD_set_ne false hid]; exact h
theorem Closed.set {ops : Array Oper} {listed : Array Bool} (hc : Closed ops listed) {i : Nat} (hi : i ∈ Region.ready .any ops listed) : Closed ops (listed.setIfInBounds i true) := fun j hj d hd => by
  by_cases hij : i = j
  · subst hij; exact getD_mono (ready_deps hi d hd)
  · rw [getD_set_ne false hij] at hj
    exact getD_mono (hc j hj d hd)
theorem Closed.none (ops : Array Oper) (n : Nat) : Closed ops (Array.replicate n false) := fun j hj => by
  by_cases hl : j < n <;> simp [Array.getD, hl] at hj
theorem wpAnyT_first {P : Program} {ops : Array Oper} {Q : Exit → Act → World → Prop} {S : World → Prop} {T : Nat → Bool} {N : Nat} {i : Nat} {oi : Oper} {v : Value} (hi : ops[i]? = some oi) (hsel : ∀ (j : Nat) (o : Oper) cs b, ops[j]? = some o → o.op ≠ .select cs b)
    (hQ : ∀ c a w, Q (.panic c) (a.put oi.dst v) w → Q (.panic c) a w) (hT : ∀ j, T j = true → reach ops N j i = true) (hTi : T i = false) :
    ∀ (fuel : Nat) (listed : Array Bool) (a : Act) (w : World),
      (∀ j oj, ops[j]? = some oj → j ≠ i → listed.getD j true = false → (∀ e ∈ oj.after, Region.binds .any e = true → e.on ≠ i) → oi.apart ops oj = true) →
      i ∈ Region.ready .any ops listed → Closed ops listed → YieldsIf P ops S oi v a → S w →
      wpAnyT P ops Q S T fuel (listed.setIfInBounds i true) (a.put oi.dst v) w → wpAnyT P ops Q S T (fuel + 1) listed a w := by
  intro fuel
  induction fuel with
  | zero =>
    intro listed a w _ hr _ hy hS H
    refine ⟨fun h => (by rw [h] at hr; cases hr), fun j hj => ?_⟩
    by_cases hji : j = i
    · subst hji; exact hy.wpOp hi hS ⟨fun _ => hS, H⟩
    · have := ready_mono hj hji
      rw [H.1] at this
      cases this
  | succ fuel ih =>
    intro listed a w hfree hr hc hy hS H
    refine ⟨fun h => (by rw [h] at hr; cases hr), fun j hj => ?_⟩
    by_cases hji : j = i
    · subst hji; exact hy.wpOp hi hS ⟨fun _ => hS, H⟩
    · have h1 := H.2 j (ready_mono hj hji)
      obtain ⟨hjun, oj, hoj, hall⟩ := mem_ready.1 hj
      have hiun : ¬ listed.getD i false = true := fun h1 => by
        have h0 := (mem_ready.1 hr).1
        rcases Nat.lt_or_ge i listed.size with h' | h'
        · simp [h'] at h0 h1; rw [h0] at h1; cases h1
        · simp [Array.getElem?_eq_none h'] at h1
      have hnot : ∀ e ∈ oj.after, Region.binds .any e = true → e.on ≠ i := fun e he hb heq => by
        have h1 := hall e he hb
        rw [heq] at h1
        exact hiun h1
      have hTj : T j = false := by
        cases hq : T j
        · rfl
        · exact absurd (reach_listed hc N j i (ready_deps hj) (hT j hq)) hiun
      have h2 := wpOp_putIf hoj (hfree j oj hoj hji hjun hnot) (fun cs b => hsel i oi cs b hi) (fun cs b => hsel j oj cs b hoj) hQ hy h1
      have hfree' : ∀ k ok, ops[k]? = some ok → k ≠ i → (listed.setIfInBounds j true).getD k true = false →
          (∀ e ∈ ok.after, Region.binds .any e = true → e.on ≠ i) → oi.apart ops ok = true := fun k ok hk hki hun hno => by
        refine hfree k ok hk hki ?_ hno
        by_cases hjk : j = k
        · subst hjk; exact hjun
        · rw [getD_set_ne true hjk] at hun; exact hun
      refine wpOp_mono (fun a' w' h3 => ⟨h3.2.1, ih (listed.setIfInBounds j true) a' w' hfree' (ready_mono hr (Ne.symm hji)) (hc.set hj) h3.1 (h3.2.1 hTj) ?_⟩) h2
      rw [Array.setIfInBounds_comm _ _ hji]
      exact h3.2.2
def vKind4 (o : Oper) : Bool := vKind2 o || match o.op with
  | .extract .. => true
  | .build .. => true
  | .field .. => true
  | .index .. => true
  | .unOp .. => true
  | .convert .. => true
  | _ => false
theorem vKind4_spec {P : Program} {o : Oper} {ρ : Operand → Value} {w w' : World} {n : Next} (hv : vKind4 o = true) (h : (execOp ρ o).run P w = .ok n w') : ∃ v, n = .value v := by
  unfold vKind4 at hv
  rw [Bool.or_eq_true] at hv
  rcases hv with hv | hv
  · exact vKind2_spec hv h
  · unfold execOp at h
    split at hv
    all_goals first
      | (cases hv; done)
      | (rename_i hx; rw [hx] at h; exact valued h)
theorem wpAnyT_firsts {P : Program} {l : List Oper} {Q : Exit → Act → World → Prop} {S : World → Prop} {T : Nat → Bool} {N : Nat} {K : Act → Prop} {w : World} {fuel : Nat} (hs : Region.noSelect l.toArray = true) (hS : S w) (hQ : ∀ c a a' w, Q (.panic c) a w → Q (.panic c) a' w) :
    ∀ (ks : List Nat) (os : List Oper) (listed : Array Bool) (a : Act), firstsB l.toArray ks listed = true → (∀ k ∈ ks, T k = false ∧ ∀ j, T j = true → reach l.toArray N j k = true) → Closed l.toArray listed → ks.map (fun k => l[k]?) = os.map some → (os.all vKind4) = true →
      wpQuiet P l.toArray S K os a → (∀ a, K a → Closed l.toArray (mark listed ks) → wpAnyT P l.toArray Q S T fuel (mark listed ks) a w) → wpAnyT P l.toArray Q S T (ks.length + fuel) listed a w
  | [], [], listed, a, _, _, hc, _, _, h, hK => by rw [List.length_nil, Nat.zero_add]; exact hK a h hc
  | k :: ks, o :: os, listed, a, hB, hTk, hc, hk, hv, h, hK => by
    simp only [List.map_cons, List.cons.injEq] at hk
    simp only [List.all_cons, Bool.and_eq_true] at hv
    simp only [firstsB, Bool.and_eq_true] at hB
    rw [List.length_cons, Nat.add_right_comm]
    have hready : k ∈ Region.ready .any l.toArray listed := by simpa using hB.1.1
    have go : ∀ v, YieldsIf P l.toArray S o v a → wpAnyT P l.toArray Q S T (ks.length + fuel) (listed.setIfInBounds k true) (a.put o.dst v) w → wpAnyT P l.toArray Q S T (ks.length + fuel + 1) listed a w :=
      fun v hy h' => wpAnyT_first (N := N) (by simpa using hk.1) (Region.noSelect_spec hs) (fun c a w hq => hQ _ _ _ _ hq) (hTk k (by simp)).2 (hTk k (by simp)).1 _ listed a w (Region.free_spec (by simpa using hk.1) hB.1.2) hready hc hy hS h'
    have again := fun (a : Act) (hq : wpQuiet P l.toArray S K os a) => wpAnyT_firsts (N := N) (T := T) (fuel := fuel) hs hS hQ ks os _ a hB.2 (fun k' hk' => hTk k' (by simp [hk'])) (hc.set hready) hk.2 hv.2 hq hK
    unfold wpQuiet at h
    split at h
    · rename_i hw
      obtain ⟨v, h1, h2⟩ := h
      refine go v (.inl ⟨hw, fun w' hS => ?_⟩) (again _ h2)
      have := h1 w' hS
      unfold Oper.quietAt at this
      cases hr : (execOp a.eval o).run P w' with
      | ok n w2 =>
        rw [hr] at this
        obtain ⟨u, rfl⟩ := vKind4_spec hv.1 hr
        simp only [Oper.quietUpon] at this
        rw [this.1, this.2]
      | halt x w2 => rw [hr] at this; exact this.elim
    · rename_i hw
      exact go undef (.inr ⟨by simpa using hw, rfl⟩) (again _ h)
  | [], _ :: _, _, _, _, _, _, hk, _, _, _ => by simp at hk
  | _ :: _, [], _, _, _, _, _, hk, _, _, _ => by simp at hk
def Late (t : Bool) (S : World → Prop) (w : World) : Prop := t = false → S w
theorem Late.yes {S : World → Prop} {w : World} : Late true S w := fun h => by cases h
theorem Late.no {S : World → Prop} {w : World} (h : S w) : Late false S w := fun _ => h
def wpSeq (P : Program) (ops : Array Oper) (Q : Exit → Act → World → Prop) (S : World → Prop) : List (Bool × Nat) → Act → World → Prop
  | [], a, w => Q .normal a w
  | (t, i) :: r, a, w => wpOp P ops Q i (fun a' w' => Late t S w' ∧ wpSeq P ops Q S r a' w') a w
def seqB (ops : Array Oper) : List (Bool × Nat) → Array Bool → Bool
  | [], listed => Region.ready .any ops listed == []
  | (t, i) :: r, listed => Region.ready .any ops listed == [i] && seqB ops r (listed.setIfInBounds i true)
theorem wpAnyT_seq {P : Program} {ops : Array Oper} {Q : Exit → Act → World → Prop} {S : World → Prop} {T : Nat → Bool} : ∀ (ord : List (Bool × Nat)) (listed : Array Bool) (a : Act) (w : World),
      seqB ops ord listed = true → (∀ t i, (t, i) ∈ ord → T i = t) → wpSeq P ops Q S ord a w → wpAnyT P ops Q S T ord.length listed a w
  | [], listed, a, w, hB, _, h => ⟨by simpa [seqB] using hB, h⟩
  | (t, i) :: r, listed, a, w, hB, hT, h => by
    simp only [seqB, Bool.and_eq_true, beq_iff_eq] at hB
    refine ⟨fun h0 => absurd (hB.1.symm.trans h0) (by simp), fun j hj => ?_⟩
    rw [hB.1, List.mem_singleton] at hj
    subst hj
    refine wpOp_mono (fun a' w' h' => ⟨?_, wpAnyT_seq r _ a' w' hB.2 (fun t i hti => hT t i (by simp [hti])) h'.2⟩) h
    rw [hT t j (by simp)]
    exact h'.1
theorem wpList_end {P : Program} {ops : Array Oper} {K : Act → World → Prop} {Q : Exit → Act → World → Prop} {a : Act} {w : World} (h : K a w) : wpList P ops (Exit.then K Q) [] a w := by unfold wpList; exact h
theorem wpSeq_one {P : Program} {l : List Oper} {Q : Exit → Act → World → Prop} {S : World → Prop} {r : List (Bool × Nat)} {t : Bool} (k : Nat) {o : Oper} {a : Act} {w : World} (hk : l[k]? = some o)
    (h : wpList P l.toArray (Exit.then (fun a' w' => Late t S w' ∧ wpSeq P l.toArray Q S r a' w') Q) [o] a w) : wpSeq P l.toArray Q S ((t, k) :: r) a w :=
  wpOp_list k hk h
def madeB5 (ops : Array Oper) (rem : List Nat) (L : Array Bool) : Bool :=
  (List.range ops.size).all (fun i => L.getD i true || rem.contains i || rem.all (fun r => reach ops ops.size i r)) &&
  topoB ops L [] rem && rem.all (fun r => decide (r < ops.size) && !L.getD r true) && decide (L.size = ops.size) && decide ((rem.map (dstOf ops)).Nodup)
theorem made_aux5 {P : Program} {ops : Array Oper} {Q : Exit → Act → World → Prop} {S : World → Prop} {T : Nat → Bool} {rem : List Nat} {L : Array Bool} {a1 : Act} {D : Nat → Value → List Nat → World → Prop} {fuel : Nat} (hB : madeB5 ops rem L = true) (hT : ∀ r ∈ rem, T r = false)
    (mono : ∀ j ∈ rem, ∀ v g w w', Below w.heap.size w w' → D j v g w → D j v g w') (lt : ∀ j ∈ rem, ∀ v g w, D j v g w → ∀ x ∈ g, x < w.heap.size)
    (step : ∀ i ∈ rem, ∀ (V : Nat → Value) (G : Nat → List Nat) (w : World) (K : Act → World → Prop), S w → (∀ d ∈ depsOf ops i, d ∈ rem → D d (V d) (G d) w) →
      (∀ v g w', S w' → Below w.heap.size w w' → (∀ x ∈ g, w.heap.size ≤ x) → D i v g w' → K ((putAll ops rem V a1).put (dstOf ops i) v) w') → wpOp P ops Q i K (putAll ops rem V a1) w)
    (done : ∀ (V : Nat → Value) (G : Nat → List Nat) (w : World), S w → (∀ j ∈ rem, D j (V j) (G j) w) → (∀ j ∈ rem, ∀ k ∈ rem, j ≠ k → ∀ x ∈ G j, x ∉ G k) → wpAnyT P ops Q S T fuel (mark L rem) (putAll ops rem V a1) w) :
    ∀ (m : Nat) (listed : Array Bool) (V : Nat → Value) (G : Nat → List Nat) (w : World), (rem.filter (fun r => !listed.getD r true)).length = m → listed.size = ops.size → (∀ j, j ∉ rem → listed[j]? = L[j]?) → Closed ops listed → S w → (∀ j ∈ rem, listed.getD j true = true → D j (V j) (G j) w) →
      (∀ j ∈ rem, ∀ k ∈ rem, listed.getD j true = true → listed.getD k true = true → j ≠ k → ∀ x ∈ G j, x ∉ G k) → wpAnyT P ops Q S T (m + fuel) listed (putAll ops rem V a1) w := by
  simp only [madeB5, Bool.and_eq_true, decide_eq_true_eq] at hB
  obtain ⟨⟨⟨⟨hoth, htopo⟩, hrem⟩, hLs⟩, hnd⟩ := hB
  have hrem' : ∀ r ∈ rem, r < ops.size ∧ L.getD r true = false := fun r hr => by
    have := List.all_eq_true.1 hrem r hr
    simpa using this
  intro m
  induction m with
  | zero =>
    intro listed V G w hm hsz hag hcl hS hD hA
    have hall : ∀ r ∈ rem, listed.getD r true = true := fun r hr => by
      cases hq : listed.getD r true
      · have : r ∈ rem.filter (fun r => !listed.getD r true) := List.mem_filter.2 ⟨hr, by simp [hq]⟩
        rw [List.length_eq_zero_iff.1 hm] at this
        simp at this
      · rfl
    have hl : listed = mark L rem := by
      apply Array.ext_getElem?
      intro j
      by_cases hj : j < L.size
      · rw [mark_get rem L j hj]
        by_cases hjr : j ∈ rem
        · rw [if_pos hjr]
          have h1 := hall j hjr
          have h2 : j < listed.size := by omega
          simp only [Array.getD, h2, dif_pos] at h1
          simp [h2]
          exact h1
        · rw [if_neg hjr]; exact hag j hjr
      · rw [Array.getElem?_eq_none (by omega), Array.getElem?_eq_none (by rw [mark_size]; omega)]
    rw [Nat.zero_add, hl]
    exact done V G w hS (fun j hj => hD j hj (hall j hj)) fun j hj k hk => hA j hj k hk (hall j hj) (hall k hk)
  | succ m ih =>
    intro listed V G w hm hsz hag hcl hS hD hA
    have hex : ∃ r ∈ rem, listed.getD r true = false := by
      have hne : rem.filter (fun r => !listed.getD r true) ≠ [] := fun e => by rw [e] at hm; simp at hm
      obtain ⟨x, hx⟩ := List.exists_mem_of_ne_nil _ hne
      have := List.mem_filter.1 hx
      exact ⟨x, this.1, by simpa using this.2⟩
    have hLl : ∀ d, L.getD d false = true → listed.getD d false = true := fun d hd => by
      by_cases hdr : d ∈ rem
      · have h1 := (hrem' d hdr).2
        have h2 : d < L.size := by have := (hrem' d hdr).1; omega
        simp only [Array.getD, h2, dif_pos] at h1 hd
        rw [h1] at hd; cases hd
      · have h1 := hag d hdr
        by_cases h2 : d < L.size
        · have h3 : d < listed.size := by omega
          simp only [Array.getD, h2, h3, dif_pos] at hd ⊢
          simp only [Array.getElem?_eq_getElem h2, Array.getElem?_eq_getElem h3, Option.some.injEq] at h1
          rw [Array.getInternal_eq_getElem] at hd ⊢
          rw [h1]; exact hd
        · simp [Array.getD, h2] at hd
    obtain ⟨r0, hr0, hr0r⟩ := topo_ready hsz [] rem htopo hLl (fun d hd => by simp at hd) (fun r hr => (hrem' r hr).1) hex
    rw [Nat.add_right_comm]
    refine ⟨fun h0 => absurd (h0 ▸ hr0r) (by simp), fun i hi => ?_⟩
    obtain ⟨hli, o, ho, hdep⟩ := mem_ready.1 hi
    have hdeps : ∀ d ∈ depsOf ops i, listed.getD d false = true := fun d hd => by
      unfold depsOf at hd
      rw [ho] at hd
      obtain ⟨e, he, rfl⟩ := List.mem_map.1 hd
      have := List.mem_filter.1 he
      exact hdep e (by simpa using this.1) this.2
    have hdt : ∀ d, listed.getD d false = true → listed.getD d true = true := fun d hd => by
      by_cases h2 : d < listed.size
      · simpa [Array.getD, h2] using hd
      · simp [Array.getD, h2]
    have hir : i ∈ rem := by
      cases hc : rem.contains i
      · exfalso
        have hlt : i < ops.size := (Array.getElem?_eq_some_iff.1 ho).1
        have hnr : i ∉ rem := fun h => by
          have := List.contains_iff_mem.2 h
          rw [this] at hc; cases hc
        have h1 := List.all_eq_true.1 hoth i (List.mem_range.2 hlt)
        have hLi : L.getD i true = false := by
          have h2 := hag i hnr
          have h3 : i < L.size := by omega
          have h4 : i < listed.size := by omega
          simp only [Array.getElem?_eq_getElem h3, Array.getElem?_eq_getElem h4, Option.some.injEq] at h2
          simp only [Array.getD, h3, h4, dif_pos] at hli ⊢
          rw [Array.getInternal_eq_getElem] at hli ⊢
          rw [← h2]; exact hli
        rw [hLi, hc] at h1
        simp only [Bool.false_or] at h1
        obtain ⟨q, hq, hq2⟩ := hex
        have h5 := List.all_eq_true.1 h1 q hq
        have h6 := hdt q (reach_listed hcl _ i q (ready_deps hi) h5)
        rw [hq2] at h6; cases h6
      · exact List.contains_iff_mem.1 hc
    refine step i hir V G w _ hS (fun d hd hdr => hD d hdr (hdt d (hdeps d hd))) (fun v g w' hS' hBel hfr hDi => ?_)
    refine ⟨fun _ => hS', ?_⟩
    rw [putAll_put hnd hir]
    have hin : i < listed.size := by rw [hsz]; exact (hrem' i hir).1
    have gset : ∀ j, (listed.setIfInBounds i true).getD j true = if j = i then true else listed.getD j true := fun j => by
      by_cases hj : j = i
      · subst hj; simp [Array.getD, hin]
      · rw [if_neg hj, getD_set_ne true (fun e => hj e.symm)]
    refine ih (listed.setIfInBounds i true) (upd V i v) (fun j => if j = i then g else G j) w' ?_ (by simpa using hsz) (fun j hj => ?_) (hcl.set hi) hS' (fun j hj hlj => ?_) (fun j hj k hk hlj hlk hjk x hx => ?_)
    · have hnodup : rem.Nodup := by
        exact (List.pairwise_map.1 hnd).imp (fun h e => h (by rw [e]))
      have e1 : (rem.filter (fun r => !listed.getD r true)) = rem.filter (fun r => !listed.getD r true) := rfl
      have hcount : (rem.filter (fun r => !(listed.setIfInBounds i true).getD r true)) = (rem.filter (fun r => !listed.getD r true)).erase i := by
        have e2 : rem.filter (fun r => !(listed.setIfInBounds i true).getD r true) = (rem.filter (fun r => !listed.getD r true)).filter (fun r => r != i) := by
          rw [List.filter_filter]
          refine List.filter_congr fun x hx => ?_
          rw [gset x]
          by_cases hxi : x = i <;> simp [hxi]
        rw [e2, ← List.Nodup.erase_eq_filter (hnodup.filter _)]
      rw [hcount, List.length_erase_of_mem (List.mem_filter.2 ⟨hir, by simp [hli]⟩), hm]
      rfl
    · rw [Array.getElem?_setIfInBounds, if_neg (fun e : i = j => hj (by rw [← e]; exact hir))]
      exact hag j hj
    · unfold upd
      by_cases hji : j = i
      · subst hji; rw [if_pos rfl, if_pos rfl]; exact hDi
      · rw [if_neg hji, if_neg hji]
        rw [gset j, if_neg hji] at hlj
        exact mono j hj _ _ _ _ hBel (hD j hj hlj)
    · by_cases hji : j = i
      · have hki : ¬ k = i := fun e => hjk (hji.trans e.symm)
        rw [if_pos hji] at hx
        rw [if_neg hki]
        rw [gset k, if_neg hki] at hlk
        intro hx2
        have h1 := hfr x hx
        have h2 := lt k hk _ _ _ (hD k hk hlk) x hx2
        omega
      · rw [if_neg hji] at hx
        rw [gset j, if_neg hji] at hlj
        by_cases hki : k = i
        · rw [if_pos hki]
          intro hx2
          have h1 := hfr x hx2
          have h2 := lt j hj _ _ _ (hD j hj hlj) x hx
          omega
        · rw [if_neg hki]
          rw [gset k, if_neg hki] at hlk
          exact hA j hj k hk hlj hlk hjk x hx
def Made5 (P : Program) (ops : Array Oper) (Q : Exit → Act → World → Prop) (S : World → Prop) (rem : List Nat) (ord : List (Bool × Nat)) (a1 : Act) : Prop :=
  ∃ D : Nat → Value → List Nat → World → Prop, (∀ j ∈ rem, ∀ v g w w', Below w.heap.size w w' → D j v g w → D j v g w') ∧ (∀ j ∈ rem, ∀ v g w, D j v g w → ∀ x ∈ g, x < w.heap.size) ∧
    (∀ i ∈ rem, ∀ (V : Nat → Value) (G : Nat → List Nat) (w : World) (K : Act → World → Prop), S w → (∀ d ∈ depsOf ops i, d ∈ rem → D d (V d) (G d) w) →
      (∀ v g w', S w' → Below w.heap.size w w' → (∀ x ∈ g, w.heap.size ≤ x) → D i v g w' → K ((putAll ops rem V a1).put (dstOf ops i) v) w') → wpOp P ops (NoPanic Q) i K (putAll ops rem V a1) w) ∧
    (∀ (V : Nat → Value) (G : Nat → List Nat) (w : World), S w → (∀ j ∈ rem, D j (V j) (G j) w) → (∀ j ∈ rem, ∀ k ∈ rem, j ≠ k → ∀ x ∈ G j, x ∉ G k) → wpSeq P ops (NoPanic Q) S ord (putAll ops rem V a1) w)
def tailsB (ops : Array Oper) (ks rem : List Nat) (ord : List (Bool × Nat)) : Bool :=
  ks.all (fun k => !ord.contains (true, k) && ord.all (fun x => !x.1 || reach ops ops.size x.2 k)) && rem.all (fun r => !ord.contains (true, r)) && ord.all (fun x => x.1 || !ord.contains (true, x.2))
theorem wp_region_made5 {P : Program} {l : List Oper} {Q : Exit → Act → World → Prop} {id : Nat} {a : Act} {w : World} (S : World → Prop) (ks rem : List Nat) (ord : List (Bool × Nat))
    (hm : P.follows .mixedOrders = true) (hs : Region.noSelect l.toArray = true) (hF : firstsB l.toArray ks (Array.replicate l.length false) = true) (hks : ks.all (fun k => decide (k < l.length)) = true) (hv : ((picks l ks).all vKind4) = true)
    (hM : madeB5 l.toArray rem (mark (Array.replicate l.length false) ks) = true) (hTB : tailsB l.toArray ks rem ord = true) (hB : seqB l.toArray ord (mark (mark (Array.replicate l.length false) ks) rem) = true) (hl : ks.length + (rem.length + ord.length) = l.length)
    (hS : S w.drew) (h : wpQuiet P l.toArray S (Made5 P l.toArray Q S rem ord) (picks l ks) a) : (Code.region id l.toArray true).wp P Q a w := by
  refine wp_region_noPanic (wp_region_any hm ?_)
  have hM' := hM
  simp only [madeB5, Bool.and_eq_true, decide_eq_true_eq] at hM'
  simp only [tailsB, Bool.and_eq_true] at hTB
  have hT : ∀ j, (ord.contains (true, j)) = true → (true, j) ∈ ord := fun j h => by simpa using h
  have key := wpAnyT_firsts (Q := NoPanic Q) (T := fun i => ord.contains (true, i)) (N := l.toArray.size) (fuel := rem.length + ord.length) (w := w.drew) hs hS (fun c a a' w h => (h : False).elim) ks (picks l ks) _ a hF (fun k hk => ?_) (Closed.none _ _) (picks_ok hks) hv h (fun a1 hK hcl => ?_)
  · have := wpAny_of_T _ _ _ _ key
    rw [hl] at this
    simpa using this
  · have h1 := List.all_eq_true.1 hTB.1.1 k hk
    simp only [Bool.and_eq_true] at h1
    refine ⟨by simpa using h1.1, fun j hj => ?_⟩
    have h2 := List.all_eq_true.1 h1.2 (true, j) (hT j hj)
    simpa using h2
  · obtain ⟨D, mono, lt, step, done⟩ := hK
    have hall : (rem.filter (fun r => !(mark (Array.replicate l.length false) ks).getD r true)) = rem := by
      rw [List.filter_eq_self]
      intro r hr
      have := List.all_eq_true.1 hM'.1.1.2 r hr
      simp only [Bool.and_eq_true] at this
      exact this.2
    have hun : ∀ j ∈ rem, (mark (Array.replicate l.length false) ks).getD j true = true → False := fun j hj hlj => by
      have := List.all_eq_true.1 hM'.1.1.2 j hj
      simp only [Bool.and_eq_true, hlj] at this
      simp at this
    obtain ⟨V0, hV0⟩ : ∃ V0, putAll l.toArray rem V0 a1 = a1 := ⟨_, putAll_self a1 rem⟩
    have := made_aux5 (P := P) (Q := NoPanic Q) (S := S) (T := fun i => ord.contains (true, i)) (a1 := a1) (fuel := ord.length) hM (fun r hr => by have := List.all_eq_true.1 hTB.1.2 r hr; simpa using this) mono lt step
      (fun V G w' hS' hD hA => wpAnyT_seq ord _ _ w' hB (fun t i hti => by
        cases t with
        | true => simpa using hti
        | false =>
          have := List.all_eq_true.1 hTB.2 (false, i) hti
          simpa using this) (done V G w' hS' hD hA))
      rem.length (mark (Array.replicate l.length false) ks) V0 (fun _ => []) w.drew (by rw [hall]) hM'.1.2 (fun _ _ => rfl) hcl hS (fun j hj hlj => (hun j hj hlj).elim) (fun j hj k hk hlj _ _ => (hun j hj hlj).elim)
    rw [hV0] at this
    exact this
end Go.Proofs.Ytbcacebifpagpab
namespace Go.Proofs.Ytbcacebifpagpab
open Go.RowKit Go.Shelf Go.Sort
set_option linter.unusedVariables false
def summedB (p : Pl) (s : St) : Bool := !(wrongGoodsB p s || wrongOrdersB s)
theorem sB_good {p : Pl} {s : St} {g : Nat} (hg : g < p.ns) (h : wrongGood p s g = true) : summedB p s = false := by
  have : wrongGoodsB p s = true := anyB_yes hg h
  simp [summedB, this]
theorem sB_order {p : Pl} {s : St} {i : Nat} (hi : i < s.os.n) (h : wrongOrder s i = true) : summedB p s = false := by
  have : wrongOrdersB s = true := anyB_yes hi h
  simp [summedB, this]
theorem sB_yes {p : Pl} {s : St} (h1 : ∀ g, g < p.ns → wrongGood p s g = false) (h2 : ∀ i, i < s.os.n → wrongOrder s i = false) : summedB p s = true := by
  have e1 : wrongGoodsB p s = false := anyB_no h1
  have e2 : wrongOrdersB s = false := anyB_no h2
  simp [summedB, e1, e2]
theorem wg_sum {p : Pl} {s : St} {g : Nat} (h : ¬ sumTo (fun i => (s.on.r i).z g) s.on.n = s.si.z g - s.so.z g + s.sf.z g) : wrongGood p s g = true := by
  rw [wrongGood_eq]
  have : (sumTo (fun i => (s.on.r i).z g) s.on.n == s.si.z g - s.so.z g + s.sf.z g) = false := by simpa using h
  rw [this]; rfl
theorem wg_bound {p : Pl} {s : St} {g b : Nat} (hb : b < p.nb) (h : (s.on.r b).z g < heldTo s b g s.hs.n + fromTo s b g s.ms.n) : wrongGood p s g = true := by
  rw [wrongGood_eq, anyB_yes hb (decide_eq_true (by unfold availZ; omega)), Bool.or_true]
theorem wg_no {p : Pl} {s : St} {g : Nat} (h : sumTo (fun i => (s.on.r i).z g) s.on.n = s.si.z g - s.so.z g + s.sf.z g) (h2 : ∀ b, b < p.nb → decide ((s.on.r b).z g < heldTo s b g s.hs.n + fromTo s b g s.ms.n) = false) : wrongGood p s g = false := by
  rw [wrongGood_eq, h, anyB_no fun b hb => ?_]
  · simp
  · have := of_decide_eq_false (h2 b hb)
    exact decide_eq_false (by unfold availZ; omega)
def noLack (ls : Nat → Hd) (n : Nat) : Bool := !anyB n (fun j => lacksL (ls j))
theorem noLack_succ (ls : Nat → Hd) (n : Nat) : noLack ls (n + 1) = (noLack ls n && ((ls n).b == (ls n).l)) := by
  unfold noLack
  rw [anyB_succ]
  simp [lacksL]
theorem noLack_step {ls : Nat → Hd} {n : Nat} {b c : Bool} (h : noLack ls n = b) (h2 : ((ls n).b == (ls n).l) = c) : noLack ls (n + 1) = (b && c) := by rw [noLack_succ, h, h2]
theorem all_succ3 {k : Nat} {f : Nat → Bool} {b : Bool} (h : ∀ j, j < k → f j = b) (hk : f k = b) : ∀ j, j < k + 1 → f j = b := fun j hj => by
  by_cases hjk : j = k
  · rw [hjk]; exact hk
  · exact h j (by omega)
theorem wL0 {x : Hd} {kept : Int} (h1 : 0 ≤ x.b ∧ x.b ≤ 200) (h2 : 0 ≤ x.n ∧ x.n ≤ 200) (h3 : 0 ≤ kept ∧ kept ≤ 14400) : wrongL 0 x kept = !(x.b + x.n + kept == 0) := by
  unfold wrongL
  rw [if_pos rfl, Bool.eq_iff_iff]
  simp only [Bool.or_eq_true, Bool.not_eq_true', beq_eq_false_iff_ne, ne_eq]
  omega
theorem wL1 {x : Hd} {kept : Int} : wrongL 1 x kept = !(x.b + x.n + kept == x.l) := by
  unfold wrongL
  rw [if_neg (by decide), if_neg (by decide)]
theorem wL2 {x : Hd} {kept : Int} : wrongL 2 x kept = (!(x.b + x.n + kept == x.l) || !(kept == 0)) := by
  unfold wrongL
  rw [if_neg (by decide), if_pos rfl, Bool.eq_iff_iff]
  simp only [Bool.or_eq_true, Bool.not_eq_true', beq_eq_false_iff_ne, ne_eq]
  omega
theorem below_of_regrown {W w' : World} (h : ∃ p : Regrown, w' = grow (redrawn W p.d) p.os) : Below W.heap.size W w' := by
  obtain ⟨p, rfl⟩ := h
  exact below_regrown _ _ _
theorem line_stored {A w : World} {B : Nat} {e : TypeId} {f : Nat → Value} (hY : Blk w B e 4 f) (hX : Below A.heap.size A w) (hB : A.heap.size ≤ B) (x : Hd) :
    ∃ W, (((w.setCell ⟨B, 0, none⟩ (.int .i64 x.o)).setCell ⟨B, 1, none⟩ (.int .i64 x.l)).setCell ⟨B, 2, none⟩ (.int .i64 x.b)).setCell ⟨B, 3, none⟩ (.int .i64 x.n) = W ∧ Below A.heap.size A W ∧
      Blk W B e 4 (fun j => (#[.int .i64 x.o, .int .i64 x.l, .int .i64 x.b, .int .i64 x.n] : Array Value).getD j default) :=
  ⟨_, rfl, (((hX.setCell (p := ⟨B, 0, none⟩) hB _).setCell (p := ⟨B, 1, none⟩) hB _).setCell (p := ⟨B, 2, none⟩) hB _).setCell (p := ⟨B, 3, none⟩) hB _,
    ((((hY.set 0 _).set 1 _).set 2 _).set 3 _).congr (fun j hj => by match j, hj with | 0, _ => rfl | 1, _ => rfl | 2, _ => rfl | 3, _ => rfl)⟩
set_option maxRecDepth 100000 in
set_option maxHeartbeats 4000000 in
theorem summed_any (p : Pl) (s : St) (w : World) (hp : p.At w) (hs : s.At w) (f : Formed p s) :
    Calls Try.prog 53 #[p.val, s.val] w fun e w' => e = .returned (.bool (summedB p s)) ∧ Below w.heap.size w w' := by
  obtain ⟨W0, hW, hWB, X0⟩ : ∃ W, ((w.alloc (.cells #[.slice p.ab p.nb p.cb, .slice p.sa p.ns p.cs] 40)).alloc (.cells s.cells 45)) = W ∧ Below w.heap.size w W ∧ Boxes W w.heap.size (w.heap.size + 1) p s := ⟨_, rfl, two_below _ _ _, boxes_new w p s _ _⟩
  have HC : Hid (∀ wk, Below W0.heap.size W0 wk → Boxes wk w.heap.size (w.heap.size + 1) p s ∧ p.At wk ∧ s.At wk ∧ Below w.heap.size w wk) := fun wk h => ⟨X0.below h, (hp.below hWB).below h, (hs.below hWB).below h, hWB.trans (h.mono hWB.size)⟩
  have HW : Hid ((w.alloc (.cells #[.slice p.ab p.nb p.cb, .slice p.sa p.ns p.cs] 40)).alloc (.cells #[.slice s.on.a s.on.n s.on.c, .slice s.os.a s.os.n s.os.c, .slice s.hs.a s.hs.n s.hs.c, .slice s.ms.a s.ms.n s.ms.c, .slice s.si.a s.si.n s.si.c, .slice s.so.a s.so.n s.so.c, .slice s.sf.a s.sf.n s.sf.c] 45) = W0) := hW
  have leb := hp.leb
  have capb := hp.capb
  have les := hp.les
  have caps := hp.caps
  have ole := hs.os.le
  have ocap := hs.os.cap
  unfold maxLen at capb caps ocap
  have os4 := f.os4
  have h72 := f.hs72
  have ms8 := f.ms8
  have ns3 := f.sh.pl.ns3
  have nb6 := f.sh.pl.nb6
  have HF : Hid (Formed p s) := f
  clear hW X0 hp hs f
  unfold Pl.val St.val
  go_enter Try.func53, Try.ntmps53
  go_wp2_with fail
  rw [HW.out]
  go_loopw [5] (fun i wk => ∃ k : Nat, k ≤ p.ns ∧ i = .int .i64 k ∧ (∀ j, j < k → wrongGood p s j = false) ∧ Below W0.heap.size W0 wk) (fun i _ => p.ns - (intOf i).toNat)
  case atStart => exact ⟨0, Nat.zero_le _, rfl, fun j hj => absurd hj (Nat.not_lt_zero _), Below.refl _ _⟩
  case round =>
    obtain ⟨g, hg, rfl, hno, hB⟩ := hrel
    have HN : Hid (∀ j, j < g → wrongGood p s j = false) := hno
    clear hno
    obtain ⟨X, hpk, hsk, hBw⟩ := HC.out wr hB
    obtain ⟨⟨l1, d0, d1⟩, l2, c0, c1, c2, c3, c4, c5, c6⟩ := X
    by_cases hlt : g < p.ns
    · have qg : (0 : Int) ≤ (g : Int) := by omega
      have F := HF.out
      obtain ⟨b1, o1, e1, g1, z1⟩ := hsk.si.ints g (by rw [F.sin]; exact hlt)
      obtain ⟨b2, o2, e2, g2, z2⟩ := hsk.so.ints g (by rw [F.son]; exact hlt)
      obtain ⟨b3, o3, e3, g3, z3⟩ := hsk.sf.ints g (by rw [F.sfn]; exact hlt)
      have v1 := hsk.si.le
      have v2 := hsk.so.le
      have v3 := hsk.sf.le
      have v4 := hsk.si.cap
      have v5 := hsk.so.cap
      have v6 := hsk.sf.cap
      have u1 := F.sib g hlt
      have u2 := F.sob g hlt
      have u3 := F.sfb g hlt
      unfold maxLen at v4 v5 v6
      have HON : Hid (s.on.At wr) := hsk.on
      rw [e1, F.sin] at c4
      rw [e2, F.son] at c5
      rw [e3, F.sfn] at c6
      rw [F.sin] at v1
      rw [F.son] at v2
      rw [F.sfn] at v3
      have r0 : ∀ d os, (grow (redrawn wr d) os).cell? ⟨w.heap.size + 1, 0, none⟩ = some (.slice s.on.a s.on.n s.on.c) := fun d os => cell_regrown c0 d os
      have r4 : ∀ d os, (grow (redrawn wr d) os).cell? ⟨w.heap.size + 1, 4, none⟩ = some (.slice (some ⟨b1, o1, none⟩) p.ns s.si.c) := fun d os => cell_regrown c4 d os
      have r5 : ∀ d os, (grow (redrawn wr d) os).cell? ⟨w.heap.size + 1, 5, none⟩ = some (.slice (some ⟨b2, o2, none⟩) p.ns s.so.c) := fun d os => cell_regrown c5 d os
      have r6 : ∀ d os, (grow (redrawn wr d) os).cell? ⟨w.heap.size + 1, 6, none⟩ = some (.slice (some ⟨b3, o3, none⟩) p.ns s.sf.c) := fun d os => cell_regrown c6 d os
      have r7 : ∀ d os, (grow (redrawn wr d) os).cell? ⟨b1, o1 + g, none⟩ = some (.int .i64 (s.si.z g)) := fun d os => cell_regrown z1 d os
      have r8 : ∀ d os, (grow (redrawn wr d) os).cell? ⟨b2, o2 + g, none⟩ = some (.int .i64 (s.so.z g)) := fun d os => cell_regrown z2 d os
      have r9 : ∀ d os, (grow (redrawn wr d) os).cell? ⟨b3, o3 + g, none⟩ = some (.int .i64 (s.sf.z g)) := fun d os => cell_regrown z3 d os
      have HT1 : Hid (¬ sumTo (fun i => (s.on.r i).z g) s.on.n = s.si.z g - s.so.z g + s.sf.z g → summedB p s = false) := fun h => sB_good hlt (wg_sum h)
      have HT2 : Hid (∀ b, b < p.nb → (s.on.r b).z g < heldTo s b g s.hs.n + fromTo s b g s.ms.n → summedB p s = false) := fun b hb h => sB_good hlt (wg_bound hb h)
      have HT3 : Hid (sumTo (fun i => (s.on.r i).z g) s.on.n = s.si.z g - s.so.z g + s.sf.z g → (∀ b, b < p.nb → decide ((s.on.r b).z g < heldTo s b g s.hs.n + fromTo s b g s.ms.n) = false) → wrongGood p s g = false) := fun h h2 => wg_no h h2
      have hsum : Hid (∀ wk, s.on.At wk → Calls Try.prog 89 #[s.on.val, .int .i64 g] wk fun e w' => e = .returned (.int .i64 (sumTo (fun i => (s.on.r i).z g) s.on.n)) ∧ Below wk.heap.size wk w') := fun wk h => SumOf_any p s.on g wk h F.sh hlt
      unfold Sh.val at hsum
      clear e1 e2 e3 hsk hpk c0 c1 c2 c3 c4 c5 c6 z1 z2 z3 d0 F
      generalize sumTo (fun i => (s.on.r i).z g) s.on.n = SM at *
      generalize s.si.z g = I1 at *
      generalize s.so.z g = I2 at *
      generalize s.sf.z g = I3 at *
      go_wp2_with fail
      refine wp_region_quiet_below (by kernel_rfl) (by kernel_rfl) ?_
      repeat (go_big_quiet_step ((go_at_call 89; exact Calls.regrown_of (hsum.out _ (HON.out.below (below_regrown _ _ _))))))
      refine wpQuiet_nil ?_
      intro _ hw'
      obtain ⟨⟨dq, osq⟩, hw''⟩ := hw'
      subst hw''
      have hB1 := hB.trans ((below_regrown wr dq osq).mono hB.size)
      clear r0 r4 r5 r6 r7 r8 r9 HON hsum hB hBw l1 l2 d1 g1 g2 g3 v1 v2 v3 v4 v5 v6
      generalize grow (redrawn wr dq) osq = wz at *
      obtain ⟨X, hpk, hsk, hBw⟩ := HC.out wz hB1
      obtain ⟨⟨l1, d0, d1⟩, l2, c0, c1, c2, c3, c4, c5, c6⟩ := X
      by_cases heq : SM = I1 - I2 + I3
      · have he : (SM != I1 - I2 + I3) = false := by simp [heq]
        have HEQ : Hid (SM = I1 - I2 + I3) := heq
        rw [he]
        clear heq he hpk hsk c0 c1 c2 c3 c4 c5 c6 hBw
        go_wp2_with fail
        clear d0 d1 l1 l2
        go_loopw [6] (fun i wk => ∃ k : Nat, k ≤ p.nb ∧ i = .int .i64 k ∧ (∀ b, b < k → decide ((s.on.r b).z g < heldTo s b g s.hs.n + fromTo s b g s.ms.n) = false) ∧ Below W0.heap.size W0 wk) (fun i _ => p.nb - (intOf i).toNat)
        case atStart => exact ⟨0, Nat.zero_le _, rfl, fun j hj => absurd hj (Nat.not_lt_zero _), hB1⟩
        case round =>
          clear hB1
          obtain ⟨b, hb, rfl, hno, hB⟩ := hrel
          have HM : Hid (∀ b', b' < b → decide ((s.on.r b').z g < heldTo s b' g s.hs.n + fromTo s b' g s.ms.n) = false) := hno
          clear hno
          obtain ⟨X, hpk, hsk, hBw⟩ := HC.out wr hB
          obtain ⟨⟨l1, d0, d1⟩, l2, c0, c1, c2, c3, c4, c5, c6⟩ := X
          by_cases hlb : b < p.nb
          · have qb : (0 : Int) ≤ (b : Int) := by omega
            have F := HF.out
            have hbn : b < s.on.n := by rw [F.sh.n]; exact hlb
            obtain ⟨bo, oo, hoa, hbo, y0, hrow⟩ := hsk.on.rows b hbn
            have rn := F.sh.len b hbn
            obtain ⟨br, orr, hra, hbr, y1⟩ := hrow.ints g (by rw [rn]; exact hlt)
            have v1 := hrow.le
            have v2 := hrow.cap
            have v3 := hsk.on.le
            have v4 := hsk.on.cap
            unfold maxLen at v2 v4
            have hx := heldTo_bd (s := s) (b := b) (g := g) F.holdN
            have hy := fromTo_bd (s := s) (b := b) (g := g) F.moveN
            have hz := F.sh.num b hbn g hlt
            rw [hra, rn] at y0
            rw [rn] at v1
            rw [hoa] at c0
            have HSA : Hid (s.At wr ∧ s.on.a = some ⟨bo, oo, none⟩) := ⟨hsk, hoa⟩
            have r0 : ∀ d os, (grow (redrawn wr d) os).cell? ⟨w.heap.size + 1, 0, none⟩ = some (.slice (some ⟨bo, oo, none⟩) s.on.n s.on.c) := fun d os => cell_regrown c0 d os
            have r1 : ∀ d os, (grow (redrawn wr d) os).cell? ⟨w.heap.size + 1, 1, none⟩ = some (.slice s.os.a s.os.n s.os.c) := fun d os => cell_regrown c1 d os
            have r2 : ∀ d os, (grow (redrawn wr d) os).cell? ⟨w.heap.size + 1, 2, none⟩ = some (.slice s.hs.a s.hs.n s.hs.c) := fun d os => cell_regrown c2 d os
            have r3 : ∀ d os, (grow (redrawn wr d) os).cell? ⟨w.heap.size + 1, 3, none⟩ = some (.slice s.ms.a s.ms.n s.ms.c) := fun d os => cell_regrown c3 d os
            have r4 : ∀ d os, (grow (redrawn wr d) os).cell? ⟨w.heap.size + 1, 4, none⟩ = some (.slice s.si.a s.si.n s.si.c) := fun d os => cell_regrown c4 d os
            have r5 : ∀ d os, (grow (redrawn wr d) os).cell? ⟨w.heap.size + 1, 5, none⟩ = some (.slice s.so.a s.so.n s.so.c) := fun d os => cell_regrown c5 d os
            have r6 : ∀ d os, (grow (redrawn wr d) os).cell? ⟨w.heap.size + 1, 6, none⟩ = some (.slice s.sf.a s.sf.n s.sf.c) := fun d os => cell_regrown c6 d os
            have r7 : ∀ d os, (grow (redrawn wr d) os).cell? ⟨bo, oo + b, none⟩ = some (.slice (some ⟨br, orr, none⟩) p.ns (s.on.r b).c) := fun d os => cell_regrown y0 d os
            have r8 : ∀ d os, (grow (redrawn wr d) os).cell? ⟨br, orr + g, none⟩ = some (.int .i64 ((s.on.r b).z g)) := fun d os => cell_regrown y1 d os
            have hbd : Hid (∀ wk, s.At wk → Calls Try.prog 61 #[.agg #[.slice (some ⟨bo, oo, none⟩) s.on.n s.on.c, .slice s.os.a s.os.n s.os.c, .slice s.hs.a s.hs.n s.hs.c, .slice s.ms.a s.ms.n s.ms.c, .slice s.si.a s.si.n s.si.c, .slice s.so.a s.so.n s.so.c, .slice s.sf.a s.sf.n s.sf.c], .int .i64 b, .int .i64 g] wk fun e w' => e = .returned (.int .i64 (heldTo s b g s.hs.n + fromTo s b g s.ms.n)) ∧ Below wk.heap.size wk w') := fun wk h => by
              have := bound_any p s b g wk h HF.out
              rw [St.val, HSA.out.2] at this
              exact this
            have HT4 : Hid (((s.on.r b).z g < heldTo s b g s.hs.n + fromTo s b g s.ms.n → summedB p s = false) ∧ (¬ (s.on.r b).z g < heldTo s b g s.hs.n + fromTo s b g s.ms.n → ∀ b', b' < b + 1 → decide ((s.on.r b').z g < heldTo s b' g s.hs.n + fromTo s b' g s.ms.n) = false)) := ⟨HT2.out b hlb, fun h => all_succ3 HM.out (decide_eq_false h)⟩
            clear hoa hra hrow rn F hsk hpk c0 c1 c2 c3 c4 c5 c6 y0 y1 HM d1
            generalize heldTo s b g s.hs.n + fromTo s b g s.ms.n = BD at *
            generalize (s.on.r b).z g = ON at *
            generalize (s.on.r b).c = RC at *
            by_cases hq : ON < BD
            · have HX : Hid (summedB p s = false) := HT4.out.1 hq
              go_wp2_with fail
              refine wp_region_quiet_below (by kernel_rfl) (by kernel_rfl) ?_
              repeat (go_big_quiet_step ((go_at_call 61; exact Calls.regrown_of (hbd.out _ (HSA.out.1.below (below_regrown _ _ _))))))
              refine wpQuiet_nil ?_
              intro _ hw'
              obtain ⟨⟨dq, osq⟩, hw''⟩ := hw'
              subst hw''
              go_wp2_with fail
              go_ret
              exact ⟨by rw [HX.out]; rfl, hBw.trans ((below_regrown _ _ _).mono hBw.size)⟩
            · have HX := HT4.out.2 hq
              have HX2 : Hid _ := HX
              clear HX
              go_wp2_with fail
              refine wp_region_quiet_below (by kernel_rfl) (by kernel_rfl) ?_
              repeat (go_big_quiet_step ((go_at_call 61; exact Calls.regrown_of (hbd.out _ (HSA.out.1.below (below_regrown _ _ _))))))
              refine wpQuiet_nil ?_
              intro _ hw'
              obtain ⟨⟨dq, osq⟩, hw''⟩ := hw'
              subst hw''
              go_wp2_with fail
              go_roundw
              case rel => exact ⟨b + 1, by omega, by go_num, HX2.out, hB.trans ((below_regrown _ _ _).mono hB.size)⟩
              case measure => simp [intOf]; omega
          · have HA : Hid (wrongGood p s g = false) := HT3.out HEQ.out fun b' hb' => HM.out b' (by omega)
            clear hsk hpk c0 c1 c2 c3 c4 c5 c6 HM
            go_wp2_with fail
            go_roundw
            case rel => exact ⟨g + 1, by omega, by go_num, all_succ3 HN.out HA.out, hB⟩
            case measure => simp [intOf]; omega
      · have he : (SM != I1 - I2 + I3) = true := by simp [heq]
        have HX : Hid (summedB p s = false) := HT1.out heq
        rw [he]
        clear heq he hpk hsk c0 c1 c2 c3 c4 c5 c6 d0 d1 l1 l2
        go_wp2_with fail
        go_ret
        exact ⟨by rw [HX.out]; rfl, hBw⟩
    · have HN2 : Hid (∀ j, j < p.ns → wrongGood p s j = false) := fun j hj => HN.out j (by omega)
      clear HN hsk hpk c0 c1 c2 c3 c4 c5 c6 hBw
      go_wp2_with fail
      clear d0 d1 l1 l2 hlt hg
      go_loopw [7] (fun i wk => ∃ k : Nat, k ≤ s.os.n ∧ i = .int .i64 k ∧ (∀ j, j < k → wrongOrder s j = false) ∧ Below W0.heap.size W0 wk) (fun i _ => s.os.n - (intOf i).toNat)
      case atStart => exact ⟨0, Nat.zero_le _, rfl, fun j hj => absurd hj (Nat.not_lt_zero _), hB⟩
      case round =>
        clear hB
        obtain ⟨i, hi, rfl, hno, hB⟩ := hrel
        have HN : Hid (∀ j, j < i → wrongOrder s j = false) := hno
        clear hno
        obtain ⟨X, hpk, hsk, hBw⟩ := HC.out wr hB
        obtain ⟨⟨l1, d0, d1⟩, l2, c0, c1, c2, c3, c4, c5, c6⟩ := X
        by_cases hlt : i < s.os.n
        · obtain ⟨b, o, hoa, hb, z0, z1, hl⟩ := hsk.os.ods i hlt
          have qi : (0 : Int) ≤ (i : Int) := by omega
          have HL : Hid (∀ wk, Below W0.heap.size W0 wk → wk.cell? ⟨b, o + i * 2, none⟩ = some (.int .i64 (s.os.z i).k) ∧ wk.cell? ⟨b, o + i * 2 + 1, none⟩ = some (.slice (s.os.z i).ls.a (s.os.z i).ls.n (s.os.z i).ls.c) ∧ (s.os.z i).ls.At wk ∧ wk.cell? ⟨w.heap.size + 1, 1, none⟩ = some (.slice (some ⟨b, o, none⟩) s.os.n s.os.c) ∧ w.heap.size + 1 < wk.heap.size ∧ b < wk.heap.size ∧ Below w.heap.size w wk ∧ s.hs.At wk ∧ wk.cell? ⟨w.heap.size + 1, 2, none⟩ = some (.slice s.hs.a s.hs.n s.hs.c)) := fun wk h => by
            obtain ⟨X, -, hsw, hBx⟩ := HC.out wk h
            obtain ⟨-, m2, -, f1, f2, -⟩ := X
            obtain ⟨b', o', hoa', hb', x0, x1, hl'⟩ := hsw.os.ods i hlt
            rw [hoa] at hoa' f1
            simp only [Option.some.injEq, Addr.mk.injEq, and_true] at hoa'
            obtain ⟨rfl, rfl⟩ := hoa'
            exact ⟨x0, x1, hl', f1, m2, hb', hBx, hsw.hs, f2⟩
          have lle := hl.le
          have lcap := hl.cap
          have l3 := HF.out.lns i hlt
          have kd := HF.out.kind i hlt
          unfold maxLen at lcap
          have HE : Hid (wrongOrder s i = (((s.os.z i).k == 1 && noLack (s.os.z i).ls.z (s.os.z i).ls.n) || anyB (s.os.z i).ls.n (fun j => wrongL (s.os.z i).k ((s.os.z i).ls.z j) (keptS s.hs.z i j s.hs.n)))) := wrongOrder_eq
          have HLB : Hid (∀ j, j < (s.os.z i).ls.n → (0 ≤ ((s.os.z i).ls.z j).b ∧ ((s.os.z i).ls.z j).b ≤ 200) ∧ (0 ≤ ((s.os.z i).ls.z j).n ∧ ((s.os.z i).ls.z j).n ≤ 200) ∧ 0 ≤ keptS s.hs.z i j s.hs.n ∧ keptS s.hs.z i j s.hs.n ≤ 14400) := fun j hj => by
            have a := badLine_no (HF.out.line i hlt j hj)
            have c := keptS_bd (z := s.hs.z) (i : Int) (j : Int) s.hs.n HF.out.holdN
            omega
          clear hoa hl hsk hpk c0 c2 c3 c4 c5 c6 z0 z1 d0 d1 hBw hb
          generalize (s.os.z i).k = KD at *
          generalize (s.os.z i).ls = LS at *
          go_wp2_with fail
          clear c1 l1 l2
          go_loopw [8, 9] (fun u i0 wk => ∃ k : Nat, k ≤ LS.n ∧ i0 = .int .i64 k ∧ u = .bool (noLack LS.z k) ∧ Below W0.heap.size W0 wk) (fun _ i0 _ => LS.n - (intOf i0).toNat)
          case atStart => exact ⟨0, Nat.zero_le _, rfl, rfl, hB⟩
          case round =>
            clear hB
            obtain ⟨j, hj, rfl, rfl, hB⟩ := hrel
            obtain ⟨z0, z1, hlk, c1, l2, hb, hBw, -, -⟩ := HL.out wr hB
            by_cases hlj : j < LS.n
            · obtain ⟨b2, o2, hla, hb2, y0, y1, y2, y3⟩ := hlk.hds j hlj
              have qj : (0 : Int) ≤ (j : Int) := by omega
              rw [hla] at z1
              have r0 : ∀ d os, (grow (redrawn wr d) os).cell? ⟨w.heap.size + 1, 1, none⟩ = some (.slice (some ⟨b, o, none⟩) s.os.n s.os.c) := fun d os => cell_regrown c1 d os
              have r1 : ∀ d os, (grow (redrawn wr d) os).cell? ⟨b, o + i * 2 + 1, none⟩ = some (.slice (some ⟨b2, o2, none⟩) LS.n LS.c) := fun d os => cell_regrown z1 d os
              have r2 : ∀ d os, (grow (redrawn wr d) os).cell? ⟨b2, o2 + j * 4 + 1, none⟩ = some (.int .i64 (LS.z j).l) := fun d os => cell_regrown y1 d os
              have r3 : ∀ d os, (grow (redrawn wr d) os).cell? ⟨b2, o2 + j * 4 + 2, none⟩ = some (.int .i64 (LS.z j).b) := fun d os => cell_regrown y2 d os
              have HS1 : Hid (∀ b c, noLack LS.z j = b → ((LS.z j).b == (LS.z j).l) = c → noLack LS.z (j + 1) = (b && c)) := fun _ _ h1 h2 => noLack_step h1 h2
              clear hla hlk y0 y1 y2 y3
              generalize (LS.z j).l = WN at *
              generalize (LS.z j).b = GT at *
              cases h1 : noLack LS.z j
              · have HX : Hid (noLack LS.z (j + 1) = false) := HS1.out _ _ h1 rfl
                clear HS1 h1
                go_wp2_with fail
                refine wp_region_quiet_below (by kernel_rfl) (by kernel_rfl) ?_
                repeat (go_big_quiet_step (fail))
                refine wpQuiet_nil ?_
                intro _ hw'
                obtain ⟨⟨dq, osq⟩, hw''⟩ := hw'
                subst hw''
                clear r0 r1 r2 r3
                go_wp2_with fail
                go_roundw
                case rel => exact ⟨j + 1, by omega, by go_num, by rw [HX.out], hB.trans ((below_regrown _ _ _).mono hB.size)⟩
                case measure => simp [intOf]; omega
              · cases h2 : (GT == WN)
                · have HX : Hid (noLack LS.z (j + 1) = false) := HS1.out _ _ h1 h2
                  clear HS1 h1
                  go_wp2_with fail
                  refine wp_region_quiet_below (by kernel_rfl) (by kernel_rfl) ?_
                  repeat (go_big_quiet_step (fail))
                  refine wpQuiet_nil ?_
                  intro _ hw'
                  obtain ⟨⟨dq, osq⟩, hw''⟩ := hw'
                  subst hw''
                  clear r0 r1 r2 r3
                  go_wp2_with fail
                  go_roundw
                  case rel => exact ⟨j + 1, by omega, by go_num, by rw [HX.out], hB.trans ((below_regrown _ _ _).mono hB.size)⟩
                  case measure => simp [intOf]; omega
                · have HX : Hid (noLack LS.z (j + 1) = true) := HS1.out _ _ h1 h2
                  clear HS1 h1
                  go_wp2_with fail
                  refine wp_region_quiet_below (by kernel_rfl) (by kernel_rfl) ?_
                  repeat (go_big_quiet_step (fail))
                  refine wpQuiet_nil ?_
                  intro _ hw'
                  obtain ⟨⟨dq, osq⟩, hw''⟩ := hw'
                  subst hw''
                  clear r0 r1 r2 r3
                  go_wp2_with fail
                  go_roundw
                  case rel => exact ⟨j + 1, by omega, by go_num, by rw [HX.out], hB.trans ((below_regrown _ _ _).mono hB.size)⟩
                  case measure => simp [intOf]; omega
            · have hjn : j = LS.n := by omega
              subst hjn
              cases hN : noLack LS.z LS.n
              · have HE2 : Hid (wrongOrder s i = anyB LS.n (fun j => wrongL KD (LS.z j) (keptS s.hs.z i j s.hs.n))) := by show wrongOrder s i = _; rw [HE.out, hN, Bool.and_false, Bool.false_or]
                clear hN HE
                go_wp2_with fail
                clear z0 z1 hlk c1 l2 hb hBw
                go_loopw [10] (fun i0 wk => ∃ k : Nat, k ≤ LS.n ∧ i0 = .int .i64 k ∧ (∀ j, j < k → wrongL KD (LS.z j) (keptS s.hs.z i j s.hs.n) = false) ∧ Below W0.heap.size W0 wk) (fun i0 _ => LS.n - (intOf i0).toNat)
                case atStart => exact ⟨0, Nat.zero_le _, rfl, fun j hj => absurd hj (Nat.not_lt_zero _), hB⟩
                case round =>
                  clear hB
                  obtain ⟨j, hj, rfl, hno, hB⟩ := hrel
                  have HM : Hid (∀ j', j' < j → wrongL KD (LS.z j') (keptS s.hs.z i j' s.hs.n) = false) := hno
                  clear hno
                  obtain ⟨z0, z1, hlk, c1, l2, hb, hBw, hhs, c2⟩ := HL.out wr hB
                  by_cases hlj : j < LS.n
                  · obtain ⟨b2, o2, hla, hb2, y0, y1, y2, y3⟩ := hlk.hds j hlj
                    have qj : (0 : Int) ≤ (j : Int) := by omega
                    obtain ⟨k1, k2, k3⟩ := HLB.out j hlj
                    have HT : Hid (wrongL KD (LS.z j) (keptS s.hs.z i j s.hs.n) = true → summedB p s = false) := fun h => sB_order hlt (by rw [HE2.out]; exact anyB_yes hlj h)
                    have HU : Hid (wrongL KD (LS.z j) (keptS s.hs.z i j s.hs.n) = false → ∀ j', j' < j + 1 → wrongL KD (LS.z j') (keptS s.hs.z i j' s.hs.n) = false) := fun h => all_succ3 HM.out h
                    rw [hla] at z1
                    have HKA : Hid (∀ wk, Below wr.heap.size wr wk → Calls Try.prog 90 #[.slice s.hs.a s.hs.n s.hs.c, .int .i64 i, .int .i64 j] wk fun e w' => e = .returned (.int .i64 (keptS s.hs.z i j s.hs.n)) ∧ w' = wk) := fun wk h => KeptOf_any s.hs i j wk (hhs.below h) HF.out.hold
                    have r0 : ∀ d os, (grow (redrawn wr d) os).cell? ⟨w.heap.size + 1, 1, none⟩ = some (.slice (some ⟨b, o, none⟩) s.os.n s.os.c) := fun d os => cell_regrown c1 d os
                    have r1 : ∀ d os, (grow (redrawn wr d) os).cell? ⟨b, o + i * 2 + 1, none⟩ = some (.slice (some ⟨b2, o2, none⟩) LS.n LS.c) := fun d os => cell_regrown z1 d os
                    have r2 : ∀ d os, (grow (redrawn wr d) os).cell? ⟨b2, o2 + j * 4, none⟩ = some (.int .i64 (LS.z j).o) := fun d os => cell_regrown y0 d os
                    have r3 : ∀ d os, (grow (redrawn wr d) os).cell? ⟨b2, o2 + j * 4 + 1, none⟩ = some (.int .i64 (LS.z j).l) := fun d os => cell_regrown y1 d os
                    have r4 : ∀ d os, (grow (redrawn wr d) os).cell? ⟨b2, o2 + j * 4 + 2, none⟩ = some (.int .i64 (LS.z j).b) := fun d os => cell_regrown y2 d os
                    have r5 : ∀ d os, (grow (redrawn wr d) os).cell? ⟨b2, o2 + j * 4 + 3, none⟩ = some (.int .i64 (LS.z j).n) := fun d os => cell_regrown y3 d os
                    have r6 : ∀ d os, (grow (redrawn wr d) os).cell? ⟨w.heap.size + 1, 2, none⟩ = some (.slice s.hs.a s.hs.n s.hs.c) := fun d os => cell_regrown c2 d os
                    clear hla hlk y0 y1 y2 y3 hhs c2 z0 HM hBw
                    generalize keptS s.hs.z i j s.hs.n = KP at *
                    generalize LS.z j = LZ at *
                    go_wp2_with fail
                    refine wp_region_made5 (fun w' => ∃ p : Regrown, w' = grow (redrawn wr p.d) p.os) (List.range 13) [13, 14] [(false, 15), (true, 16)] (by kernel_rfl) (by kernel_rfl) (by kernel_rfl) (by kernel_rfl) (by kernel_rfl) (by kernel_rfl) (by kernel_rfl) (by kernel_rfl) (by kernel_rfl) (regrown_of_below ((Below.refl _ _).drew)) ?_
                    rw [show List.range 13 = [0, 1, 2, 3, 4, 5, 6, 7, 8, 9, 10, 11, 12] from rfl]
                    simp only [picks, List.drop_succ_cons, List.drop_zero, List.take_succ_cons, List.take_zero, List.cons_append, List.nil_append]
                    repeat (go_big_quiet_step (fail))
                    refine wpQuiet_nil ?_
                    refine ⟨fun j v gg wk => match j with | 13 => v = .int .i64 KP ∧ gg = [] | 14 => ∃ B, v = .pointer (some ⟨B, 0, none⟩) ∧ gg = [B] ∧ wr.heap.size ≤ B ∧ Blk wk B 82 4 (fun _ => .int .i64 0) | _ => True, List.forall_mem_cons.2 ⟨?m13, List.forall_mem_cons.2 ⟨?m14, List.forall_mem_nil _⟩⟩, List.forall_mem_cons.2 ⟨?l13, List.forall_mem_cons.2 ⟨?l14, List.forall_mem_nil _⟩⟩, List.forall_mem_cons.2 ⟨?s13, List.forall_mem_cons.2 ⟨?s14, List.forall_mem_nil _⟩⟩, ?done⟩
                    case m13 => intro v g w w' _ h; exact h
                    case m14 => intro v g w w' hB h; obtain ⟨B, h1, h0, h2, h3⟩ := h; exact ⟨B, h1, h0, h2, h3.below hB⟩
                    case l13 => intro v g w h; rw [(show v = .int .i64 KP ∧ g = [] from h).2]; intro x hx; cases hx
                    case l14 => intro v g w h; obtain ⟨B, h1, h0, h2, h3⟩ := h; rw [h0]; intro x hx; rw [List.mem_singleton] at hx; rw [hx]; exact h3.lt
                    case s13 =>
                      intro V G wk K hS hd hK
                      obtain ⟨pp, rfl⟩ := hS
                      refine wpOp_list 13 rfl ?_
                      simp only [putAll, dstOf, List.getElem?_toArray, List.getElem?_cons_succ, List.getElem?_cons_zero, Act.put, List.setIfInBounds_toArray, List.set_cons_succ, List.set_cons_zero] at hK ⊢
                      go_wp2_with fail
                      refine (HKA.out _ (below_regrown _ _ _)).mono ?_
                      rintro e w' ⟨rfl, rfl⟩
                      go_wp2_with fail
                      exact hK _ [] _ ⟨pp, rfl⟩ (Below.refl _ _) (fun x hx => (by cases hx)) ⟨rfl, rfl⟩
                    case s14 =>
                      intro V G wk K hS hd hK
                      have hX := below_of_regrown hS
                      refine wpOp_list 14 rfl ?_
                      simp only [putAll, dstOf, List.getElem?_toArray, List.getElem?_cons_succ, List.getElem?_cons_zero, Act.put, List.setIfInBounds_toArray, List.set_cons_succ, List.set_cons_zero] at hK ⊢
                      go_wp2_with fail
                      exact hK _ [wk.heap.size] _ (regrown_of_below (hX.alloc hX.size _)) ((Below.refl _ _).alloc (Nat.le_refl _) _) (fun x hx => (by rw [List.mem_singleton] at hx; omega)) ⟨wk.heap.size, rfl, rfl, hX.size, (Blk.mk' (cur := #[.int .i64 0, .int .i64 0, .int .i64 0, .int .i64 0]) rfl rfl).congr (fun j hj => by match j, hj with | 0, _ => rfl | 1, _ => rfl | 2, _ => rfl | 3, _ => rfl)⟩
                    case done =>
                      intro V G wk hS hD hA
                      have h13 := (show V 13 = .int .i64 KP ∧ G 13 = [] from hD 13 (by simp)).1
                      have h14 : ∃ B, V 14 = .pointer (some ⟨B, 0, none⟩) ∧ G 14 = [B] ∧ wr.heap.size ≤ B ∧ Blk wk B 82 4 (fun _ => .int .i64 0) := hD 14 (by simp)
                      obtain ⟨B4, h14, -, hB4, hY⟩ := h14
                      have hX := below_of_regrown hS
                      clear hS hD hA r0 r1 r2 r3 r4 r5 r6
                      have hl4 := hY.lt
                      have f0 := hY.frozen 0
                      have f1 := hY.frozen 1
                      have f2 := hY.frozen 2
                      have f3 := hY.frozen 3
                      have e0 := hY.cell (j := 0) (by decide)
                      have e1 := hY.cell (j := 1) (by decide)
                      have e2 := hY.cell (j := 2) (by decide)
                      have e3 := hY.cell (j := 3) (by decide)
                      simp only [putAll, dstOf, List.getElem?_toArray, List.getElem?_cons_succ, List.getElem?_cons_zero, Act.put, List.setIfInBounds_toArray, List.set_cons_succ, List.set_cons_zero, h13, h14]
                      refine wpSeq_one 15 rfl ?_
                      go_wp2_with fail
                      obtain ⟨W5, hW5, hX5, hY5⟩ := line_stored hY hX hB4 LZ
                      rw [hW5]
                      refine ⟨Late.no (regrown_of_below hX5), ?_⟩
                      refine wpSeq_one 16 rfl ?_
                      go_wp2_with fail
                      refine ⟨Late.yes, ?_⟩
                      refine NoPanic.normal ?_
                      have hB5 := hB.trans (hX5.mono hB.size)
                      have t0 : W5.cell? ⟨B4, 0, none⟩ = some (.int .i64 LZ.o) := hY5.cell (j := 0) (by simp)
                      have t1 : W5.cell? ⟨B4, 1, none⟩ = some (.int .i64 LZ.l) := hY5.cell (j := 1) (by simp)
                      have t2 : W5.cell? ⟨B4, 2, none⟩ = some (.int .i64 LZ.b) := hY5.cell (j := 2) (by simp)
                      have t3 : W5.cell? ⟨B4, 3, none⟩ = some (.int .i64 LZ.n) := hY5.cell (j := 3) (by simp)
                      have hl5 := hY5.lt
                      clear hX5 hW5 hY5 hX hY f0 f1 f2 f3 e0 e1 e2 e3 h13 h14 hl4 hB4 z1 c1 l2 hb hb2 hB
                      obtain ⟨z0, z1, hlk, c1, l2, hb, hBw, hhs, c2⟩ := HL.out W5 hB5
                      clear hlk hhs c2 z1
                      have hkd : KD = 0 ∨ KD = 1 ∨ KD = 2 := by omega
                      have HK0 : Hid (∀ b, KD = 0 → (LZ.b + LZ.n + KP == 0) = b → wrongL KD LZ KP = !b) := fun b h h2 => by rw [h, wL0 k1 k2 k3, h2]
                      have HK1 : Hid (∀ b, KD = 1 → (LZ.b + LZ.n + KP == LZ.l) = b → wrongL KD LZ KP = !b) := fun b h h2 => by rw [h, wL1, h2]
                      have HK2 : Hid (∀ b c, KD = 2 → (LZ.b + LZ.n + KP == LZ.l) = b → (KP == 0) = c → wrongL KD LZ KP = (!b || !c)) := fun b c h h2 h3 => by rw [h, wL2, h2, h3]
                      generalize wrongL KD LZ KP = WL at *
                      rcases hkd with hkd | hkd | hkd
                      · cases h2 : (LZ.b + LZ.n + KP == 0)
                        · have HX : Hid (summedB p s = false) := HT.out (HK0.out _ hkd h2)
                          have n2 : (LZ.b + LZ.n + KP != 0) = true := by rw [bne, h2]; rfl
                          rw [hkd] at z0
                          clear HK0 HK1 HK2 HT HU hkd
                          go_wp2_with fail
                          go_ret
                          exact ⟨by rw [HX.out]; rfl, hBw⟩
                        · have HX := HU.out (HK0.out _ hkd h2)
                          have n2 : (LZ.b + LZ.n + KP != 0) = false := by rw [bne, h2]; rfl
                          have HX2 : Hid _ := HX
                          rw [hkd] at z0
                          clear HK0 HK1 HK2 HT HU hkd HX
                          go_wp2_with fail
                          go_roundw
                          case rel => exact ⟨j + 1, by omega, by go_num, HX2.out, hB5⟩
                          case measure => simp [intOf]; omega
                      · cases h2 : (LZ.b + LZ.n + KP == LZ.l)
                        · have HX : Hid (summedB p s = false) := HT.out (HK1.out _ hkd h2)
                          have n2 : (LZ.b + LZ.n + KP != LZ.l) = true := by rw [bne, h2]; rfl
                          rw [hkd] at z0
                          clear HK0 HK1 HK2 HT HU hkd
                          go_wp2_with fail
                          go_ret
                          exact ⟨by rw [HX.out]; rfl, hBw⟩
                        · have HX := HU.out (HK1.out _ hkd h2)
                          have n2 : (LZ.b + LZ.n + KP != LZ.l) = false := by rw [bne, h2]; rfl
                          have HX2 : Hid _ := HX
                          rw [hkd] at z0
                          clear HK0 HK1 HK2 HT HU hkd HX
                          go_wp2_with fail
                          go_roundw
                          case rel => exact ⟨j + 1, by omega, by go_num, HX2.out, hB5⟩
                          case measure => simp [intOf]; omega
                      · cases h2 : (LZ.b + LZ.n + KP == LZ.l)
                        · have HX : Hid (summedB p s = false) := HT.out (HK2.out _ _ hkd h2 rfl)
                          have n2 : (LZ.b + LZ.n + KP != LZ.l) = true := by rw [bne, h2]; rfl
                          rw [hkd] at z0
                          clear HK0 HK1 HK2 HT HU hkd
                          go_wp2_with fail
                          go_ret
                          exact ⟨by rw [HX.out]; rfl, hBw⟩
                        · cases h3 : (KP == 0)
                          · have HX : Hid (summedB p s = false) := HT.out (HK2.out _ _ hkd h2 h3)
                            have n2 : (LZ.b + LZ.n + KP != LZ.l) = false := by rw [bne, h2]; rfl
                            have n3 : (KP != 0) = true := by rw [bne, h3]; rfl
                            rw [hkd] at z0
                            clear HK0 HK1 HK2 HT HU hkd
                            go_wp2_with fail
                            go_ret
                            exact ⟨by rw [HX.out]; rfl, hBw⟩
                          · have HX := HU.out (HK2.out _ _ hkd h2 h3)
                            have n2 : (LZ.b + LZ.n + KP != LZ.l) = false := by rw [bne, h2]; rfl
                            have n3 : (KP != 0) = false := by rw [bne, h3]; rfl
                            have HX2 : Hid _ := HX
                            rw [hkd] at z0
                            clear HK0 HK1 HK2 HT HU hkd HX
                            go_wp2_with fail
                            go_roundw
                            case rel => exact ⟨j + 1, by omega, by go_num, HX2.out, hB5⟩
                            case measure => simp [intOf]; omega
                  · have HA : Hid (wrongOrder s i = false) := by show wrongOrder s i = false; rw [HE2.out]; exact anyB_no fun j' hj' => HM.out j' (by omega)
                    clear z0 hhs c2 hBw hlk
                    go_wp2_with fail
                    go_roundw
                    case rel => exact ⟨i + 1, by omega, by go_num, all_succ3 HN.out HA.out, hB⟩
                    case measure => simp [intOf]; omega
              · cases hk1 : (KD == 1)
                · have HE2 : Hid (wrongOrder s i = anyB LS.n (fun j => wrongL KD (LS.z j) (keptS s.hs.z i j s.hs.n))) := by show wrongOrder s i = _; rw [HE.out, hk1, Bool.false_and, Bool.false_or]
                  clear hN HE
                  go_wp2_with fail
                  clear hk1
                  clear z0 z1 hlk c1 l2 hb hBw
                  go_loopw [10] (fun i0 wk => ∃ k : Nat, k ≤ LS.n ∧ i0 = .int .i64 k ∧ (∀ j, j < k → wrongL KD (LS.z j) (keptS s.hs.z i j s.hs.n) = false) ∧ Below W0.heap.size W0 wk) (fun i0 _ => LS.n - (intOf i0).toNat)
                  case atStart => exact ⟨0, Nat.zero_le _, rfl, fun j hj => absurd hj (Nat.not_lt_zero _), hB⟩
                  case round =>
                    clear hB
                    obtain ⟨j, hj, rfl, hno, hB⟩ := hrel
                    have HM : Hid (∀ j', j' < j → wrongL KD (LS.z j') (keptS s.hs.z i j' s.hs.n) = false) := hno
                    clear hno
                    obtain ⟨z0, z1, hlk, c1, l2, hb, hBw, hhs, c2⟩ := HL.out wr hB
                    by_cases hlj : j < LS.n
                    · obtain ⟨b2, o2, hla, hb2, y0, y1, y2, y3⟩ := hlk.hds j hlj
                      have qj : (0 : Int) ≤ (j : Int) := by omega
                      obtain ⟨k1, k2, k3⟩ := HLB.out j hlj
                      have HT : Hid (wrongL KD (LS.z j) (keptS s.hs.z i j s.hs.n) = true → summedB p s = false) := fun h => sB_order hlt (by rw [HE2.out]; exact anyB_yes hlj h)
                      have HU : Hid (wrongL KD (LS.z j) (keptS s.hs.z i j s.hs.n) = false → ∀ j', j' < j + 1 → wrongL KD (LS.z j') (keptS s.hs.z i j' s.hs.n) = false) := fun h => all_succ3 HM.out h
                      rw [hla] at z1
                      have HKA : Hid (∀ wk, Below wr.heap.size wr wk → Calls Try.prog 90 #[.slice s.hs.a s.hs.n s.hs.c, .int .i64 i, .int .i64 j] wk fun e w' => e = .returned (.int .i64 (keptS s.hs.z i j s.hs.n)) ∧ w' = wk) := fun wk h => KeptOf_any s.hs i j wk (hhs.below h) HF.out.hold
                      have r0 : ∀ d os, (grow (redrawn wr d) os).cell? ⟨w.heap.size + 1, 1, none⟩ = some (.slice (some ⟨b, o, none⟩) s.os.n s.os.c) := fun d os => cell_regrown c1 d os
                      have r1 : ∀ d os, (grow (redrawn wr d) os).cell? ⟨b, o + i * 2 + 1, none⟩ = some (.slice (some ⟨b2, o2, none⟩) LS.n LS.c) := fun d os => cell_regrown z1 d os
                      have r2 : ∀ d os, (grow (redrawn wr d) os).cell? ⟨b2, o2 + j * 4, none⟩ = some (.int .i64 (LS.z j).o) := fun d os => cell_regrown y0 d os
                      have r3 : ∀ d os, (grow (redrawn wr d) os).cell? ⟨b2, o2 + j * 4 + 1, none⟩ = some (.int .i64 (LS.z j).l) := fun d os => cell_regrown y1 d os
                      have r4 : ∀ d os, (grow (redrawn wr d) os).cell? ⟨b2, o2 + j * 4 + 2, none⟩ = some (.int .i64 (LS.z j).b) := fun d os => cell_regrown y2 d os
                      have r5 : ∀ d os, (grow (redrawn wr d) os).cell? ⟨b2, o2 + j * 4 + 3, none⟩ = some (.int .i64 (LS.z j).n) := fun d os => cell_regrown y3 d os
                      have r6 : ∀ d os, (grow (redrawn wr d) os).cell? ⟨w.heap.size + 1, 2, none⟩ = some (.slice s.hs.a s.hs.n s.hs.c) := fun d os => cell_regrown c2 d os
                      clear hla hlk y0 y1 y2 y3 hhs c2 z0 HM hBw
                      generalize keptS s.hs.z i j s.hs.n = KP at *
                      generalize LS.z j = LZ at *
                      go_wp2_with fail
                      refine wp_region_made5 (fun w' => ∃ p : Regrown, w' = grow (redrawn wr p.d) p.os) (List.range 13) [13, 14] [(false, 15), (true, 16)] (by kernel_rfl) (by kernel_rfl) (by kernel_rfl) (by kernel_rfl) (by kernel_rfl) (by kernel_rfl) (by kernel_rfl) (by kernel_rfl) (by kernel_rfl) (regrown_of_below ((Below.refl _ _).drew)) ?_
                      rw [show List.range 13 = [0, 1, 2, 3, 4, 5, 6, 7, 8, 9, 10, 11, 12] from rfl]
                      simp only [picks, List.drop_succ_cons, List.drop_zero, List.take_succ_cons, List.take_zero, List.cons_append, List.nil_append]
                      repeat (go_big_quiet_step (fail))
                      refine wpQuiet_nil ?_
                      refine ⟨fun j v gg wk => match j with | 13 => v = .int .i64 KP ∧ gg = [] | 14 => ∃ B, v = .pointer (some ⟨B, 0, none⟩) ∧ gg = [B] ∧ wr.heap.size ≤ B ∧ Blk wk B 82 4 (fun _ => .int .i64 0) | _ => True, List.forall_mem_cons.2 ⟨?m13, List.forall_mem_cons.2 ⟨?m14, List.forall_mem_nil _⟩⟩, List.forall_mem_cons.2 ⟨?l13, List.forall_mem_cons.2 ⟨?l14, List.forall_mem_nil _⟩⟩, List.forall_mem_cons.2 ⟨?s13, List.forall_mem_cons.2 ⟨?s14, List.forall_mem_nil _⟩⟩, ?done⟩
                      case m13 => intro v g w w' _ h; exact h
                      case m14 => intro v g w w' hB h; obtain ⟨B, h1, h0, h2, h3⟩ := h; exact ⟨B, h1, h0, h2, h3.below hB⟩
                      case l13 => intro v g w h; rw [(show v = .int .i64 KP ∧ g = [] from h).2]; intro x hx; cases hx
                      case l14 => intro v g w h; obtain ⟨B, h1, h0, h2, h3⟩ := h; rw [h0]; intro x hx; rw [List.mem_singleton] at hx; rw [hx]; exact h3.lt
                      case s13 =>
                        intro V G wk K hS hd hK
                        obtain ⟨pp, rfl⟩ := hS
                        refine wpOp_list 13 rfl ?_
                        simp only [putAll, dstOf, List.getElem?_toArray, List.getElem?_cons_succ, List.getElem?_cons_zero, Act.put, List.setIfInBounds_toArray, List.set_cons_succ, List.set_cons_zero] at hK ⊢
                        go_wp2_with fail
                        refine (HKA.out _ (below_regrown _ _ _)).mono ?_
                        rintro e w' ⟨rfl, rfl⟩
                        go_wp2_with fail
                        exact hK _ [] _ ⟨pp, rfl⟩ (Below.refl _ _) (fun x hx => (by cases hx)) ⟨rfl, rfl⟩
                      case s14 =>
                        intro V G wk K hS hd hK
                        have hX := below_of_regrown hS
                        refine wpOp_list 14 rfl ?_
                        simp only [putAll, dstOf, List.getElem?_toArray, List.getElem?_cons_succ, List.getElem?_cons_zero, Act.put, List.setIfInBounds_toArray, List.set_cons_succ, List.set_cons_zero] at hK ⊢
                        go_wp2_with fail
                        exact hK _ [wk.heap.size] _ (regrown_of_below (hX.alloc hX.size _)) ((Below.refl _ _).alloc (Nat.le_refl _) _) (fun x hx => (by rw [List.mem_singleton] at hx; omega)) ⟨wk.heap.size, rfl, rfl, hX.size, (Blk.mk' (cur := #[.int .i64 0, .int .i64 0, .int .i64 0, .int .i64 0]) rfl rfl).congr (fun j hj => by match j, hj with | 0, _ => rfl | 1, _ => rfl | 2, _ => rfl | 3, _ => rfl)⟩
                      case done =>
                        intro V G wk hS hD hA
                        have h13 := (show V 13 = .int .i64 KP ∧ G 13 = [] from hD 13 (by simp)).1
                        have h14 : ∃ B, V 14 = .pointer (some ⟨B, 0, none⟩) ∧ G 14 = [B] ∧ wr.heap.size ≤ B ∧ Blk wk B 82 4 (fun _ => .int .i64 0) := hD 14 (by simp)
                        obtain ⟨B4, h14, -, hB4, hY⟩ := h14
                        have hX := below_of_regrown hS
                        clear hS hD hA r0 r1 r2 r3 r4 r5 r6
                        have hl4 := hY.lt
                        have f0 := hY.frozen 0
                        have f1 := hY.frozen 1
                        have f2 := hY.frozen 2
                        have f3 := hY.frozen 3
                        have e0 := hY.cell (j := 0) (by decide)
                        have e1 := hY.cell (j := 1) (by decide)
                        have e2 := hY.cell (j := 2) (by decide)
                        have e3 := hY.cell (j := 3) (by decide)
                        simp only [putAll, dstOf, List.getElem?_toArray, List.getElem?_cons_succ, List.getElem?_cons_zero, Act.put, List.setIfInBounds_toArray, List.set_cons_succ, List.set_cons_zero, h13, h14]
                        refine wpSeq_one 15 rfl ?_
                        go_wp2_with fail
                        obtain ⟨W5, hW5, hX5, hY5⟩ := line_stored hY hX hB4 LZ
                        rw [hW5]
                        refine ⟨Late.no (regrown_of_below hX5), ?_⟩
                        refine wpSeq_one 16 rfl ?_
                        go_wp2_with fail
                        refine ⟨Late.yes, ?_⟩
                        refine NoPanic.normal ?_
                        have hB5 := hB.trans (hX5.mono hB.size)
                        have t0 : W5.cell? ⟨B4, 0, none⟩ = some (.int .i64 LZ.o) := hY5.cell (j := 0) (by simp)
                        have t1 : W5.cell? ⟨B4, 1, none⟩ = some (.int .i64 LZ.l) := hY5.cell (j := 1) (by simp)
                        have t2 : W5.cell? ⟨B4, 2, none⟩ = some (.int .i64 LZ.b) := hY5.cell (j := 2) (by simp)
                        have t3 : W5.cell? ⟨B4, 3, none⟩ = some (.int .i64 LZ.n) := hY5.cell (j := 3) (by simp)
                        have hl5 := hY5.lt
                        clear hX5 hW5 hY5 hX hY f0 f1 f2 f3 e0 e1 e2 e3 h13 h14 hl4 hB4 z1 c1 l2 hb hb2 hB
                        obtain ⟨z0, z1, hlk, c1, l2, hb, hBw, hhs, c2⟩ := HL.out W5 hB5
                        clear hlk hhs c2 z1
                        have hkd : KD = 0 ∨ KD = 1 ∨ KD = 2 := by omega
                        have HK0 : Hid (∀ b, KD = 0 → (LZ.b + LZ.n + KP == 0) = b → wrongL KD LZ KP = !b) := fun b h h2 => by rw [h, wL0 k1 k2 k3, h2]
                        have HK1 : Hid (∀ b, KD = 1 → (LZ.b + LZ.n + KP == LZ.l) = b → wrongL KD LZ KP = !b) := fun b h h2 => by rw [h, wL1, h2]
                        have HK2 : Hid (∀ b c, KD = 2 → (LZ.b + LZ.n + KP == LZ.l) = b → (KP == 0) = c → wrongL KD LZ KP = (!b || !c)) := fun b c h h2 h3 => by rw [h, wL2, h2, h3]
                        generalize wrongL KD LZ KP = WL at *
                        rcases hkd with hkd | hkd | hkd
                        · cases h2 : (LZ.b + LZ.n + KP == 0)
                          · have HX : Hid (summedB p s = false) := HT.out (HK0.out _ hkd h2)
                            have n2 : (LZ.b + LZ.n + KP != 0) = true := by rw [bne, h2]; rfl
                            rw [hkd] at z0
                            clear HK0 HK1 HK2 HT HU hkd
                            go_wp2_with fail
                            go_ret
                            exact ⟨by rw [HX.out]; rfl, hBw⟩
                          · have HX := HU.out (HK0.out _ hkd h2)
                            have n2 : (LZ.b + LZ.n + KP != 0) = false := by rw [bne, h2]; rfl
                            have HX2 : Hid _ := HX
                            rw [hkd] at z0
                            clear HK0 HK1 HK2 HT HU hkd HX
                            go_wp2_with fail
                            go_roundw
                            case rel => exact ⟨j + 1, by omega, by go_num, HX2.out, hB5⟩
                            case measure => simp [intOf]; omega
                        · cases h2 : (LZ.b + LZ.n + KP == LZ.l)
                          · have HX : Hid (summedB p s = false) := HT.out (HK1.out _ hkd h2)
                            have n2 : (LZ.b + LZ.n + KP != LZ.l) = true := by rw [bne, h2]; rfl
                            rw [hkd] at z0
                            clear HK0 HK1 HK2 HT HU hkd
                            go_wp2_with fail
                            go_ret
                            exact ⟨by rw [HX.out]; rfl, hBw⟩
                          · have HX := HU.out (HK1.out _ hkd h2)
                            have n2 : (LZ.b + LZ.n + KP != LZ.l) = false := by rw [bne, h2]; rfl
                            have HX2 : Hid _ := HX
                            rw [hkd] at z0
                            clear HK0 HK1 HK2 HT HU hkd HX
                            go_wp2_with fail
                            go_roundw
                            case rel => exact ⟨j + 1, by omega, by go_num, HX2.out, hB5⟩
                            case measure => simp [intOf]; omega
                        · cases h2 : (LZ.b + LZ.n + KP == LZ.l)
                          · have HX : Hid (summedB p s = false) := HT.out (HK2.out _ _ hkd h2 rfl)
                            have n2 : (LZ.b + LZ.n + KP != LZ.l) = true := by rw [bne, h2]; rfl
                            rw [hkd] at z0
                            clear HK0 HK1 HK2 HT HU hkd
                            go_wp2_with fail
                            go_ret
                            exact ⟨by rw [HX.out]; rfl, hBw⟩
                          · cases h3 : (KP == 0)
                            · have HX : Hid (summedB p s = false) := HT.out (HK2.out _ _ hkd h2 h3)
                              have n2 : (LZ.b + LZ.n + KP != LZ.l) = false := by rw [bne, h2]; rfl
                              have n3 : (KP != 0) = true := by rw [bne, h3]; rfl
                              rw [hkd] at z0
                              clear HK0 HK1 HK2 HT HU hkd
                              go_wp2_with fail
                              go_ret
                              exact ⟨by rw [HX.out]; rfl, hBw⟩
                            · have HX := HU.out (HK2.out _ _ hkd h2 h3)
                              have n2 : (LZ.b + LZ.n + KP != LZ.l) = false := by rw [bne, h2]; rfl
                              have n3 : (KP != 0) = false := by rw [bne, h3]; rfl
                              have HX2 : Hid _ := HX
                              rw [hkd] at z0
                              clear HK0 HK1 HK2 HT HU hkd HX
                              go_wp2_with fail
                              go_roundw
                              case rel => exact ⟨j + 1, by omega, by go_num, HX2.out, hB5⟩
                              case measure => simp [intOf]; omega
                    · have HA : Hid (wrongOrder s i = false) := by show wrongOrder s i = false; rw [HE2.out]; exact anyB_no fun j' hj' => HM.out j' (by omega)
                      clear z0 hhs c2 hBw hlk
                      go_wp2_with fail
                      go_roundw
                      case rel => exact ⟨i + 1, by omega, by go_num, all_succ3 HN.out HA.out, hB⟩
                      case measure => simp [intOf]; omega
                · have HX : Hid (summedB p s = false) := sB_order hlt (by rw [HE.out, hN, hk1]; rfl)
                  clear HE
                  go_wp2_with fail
                  go_ret
                  exact ⟨by rw [HX.out]; rfl, hBw⟩
        · have HX : Hid (summedB p s = true) := sB_yes HN2.out fun j hj => HN.out j (by omega)
          clear hsk hpk c0 c2 c3 c4 c5 c6 d0 d1
          go_wp2_with fail
          go_ret
          exact ⟨by rw [HX.out]; rfl, hBw⟩
end Go.Proofs.Ytbcacebifpagpab
namespace Go.Proofs.Ytbcacebifpagpab
open Go.RowKit Go.Shelf Go.Sort
set_option linter.unusedVariables false
theorem tm_orders {s : St} (h : 4 < s.os.n) : tooManyB s = true := by
  have : decide (4 < s.os.n) = true := decide_eq_true h
  simp [tooManyB, this]
theorem tm_moves {s : St} (h : 8 < s.ms.n) : tooManyB s = true := by
  have : decide (8 < s.ms.n) = true := decide_eq_true h
  simp [tooManyB, this]
theorem tm_lines {s : St} {i : Nat} (hi : i < s.os.n) (h : inB (s.os.z i).ls.n 1 3 = false) : tooManyB s = true := by
  have : anyB s.os.n (fun i => fewLines (s.os.z i)) = true := anyB_yes hi (by unfold fewLines; rw [h]; rfl)
  simp [tooManyB, this]
theorem tm_no {s : St} (h1 : ¬ 4 < s.os.n) (h2 : ¬ 8 < s.ms.n) (h3 : ∀ i, i < s.os.n → inB (s.os.z i).ls.n 1 3 = true) : tooManyB s = false := by
  have e1 : decide (4 < s.os.n) = false := decide_eq_false h1
  have e2 : decide (8 < s.ms.n) = false := decide_eq_false h2
  have e3 : anyB s.os.n (fun i => fewLines (s.os.z i)) = false := anyB_no fun i hi => by unfold fewLines; rw [h3 i hi]; rfl
  unfold tooManyB
  rw [e1, e2, e3]
  rfl
theorem sE_shelf {p : Pl} {s : St} (h : ¬ shelfE p s.on = 0) : stateE p s = shelfE p s.on := by unfold stateE; rw [if_neg h]
theorem sE_many {p : Pl} {s : St} (h : shelfE p s.on = 0) (h1 : tooManyB s = true) : stateE p s = 2 := by unfold stateE; rw [if_pos h, h1]; rfl
theorem sE_form {p : Pl} {s : St} (h : shelfE p s.on = 0) (h1 : tooManyB s = false) (h2 : formedB p s = false) : stateE p s = 1 := by
  have e : (badOrdersB p s || badHoldsB p s || badMovesB p s || badSumsB p s) = true := by
    cases hq : (badOrdersB p s || badHoldsB p s || badMovesB p s || badSumsB p s)
    · rw [formedB, hq] at h2; cases h2
    · rfl
  unfold stateE; rw [if_pos h, h1, e]; rfl
theorem formedB_yes {p : Pl} {s : St} (h : shelfE p s.on = 0) (h1 : tooManyB s = false) (h2 : formedB p s = true) : Formed p s := by
  have e : (badOrdersB p s || badHoldsB p s || badMovesB p s || badSumsB p s) = false := by
    cases hq : (badOrdersB p s || badHoldsB p s || badMovesB p s || badSumsB p s)
    · rfl
    · rw [formedB, hq] at h2; cases h2
  simp only [Bool.or_eq_false_iff] at e
  exact formed h h1 e.1.1.1 e.1.1.2 e.1.2 e.2
theorem sE_sum {p : Pl} {s : St} (h : shelfE p s.on = 0) (h1 : tooManyB s = false) (h2 : formedB p s = true) : stateE p s = if summedB p s then 0 else 7 := by
  have e : (badOrdersB p s || badHoldsB p s || badMovesB p s || badSumsB p s) = false := by
    cases hq : (badOrdersB p s || badHoldsB p s || badMovesB p s || badSumsB p s)
    · rfl
    · rw [formedB, hq] at h2; cases h2
  unfold stateE summedB
  rw [if_pos h, h1, e]
  cases (wrongGoodsB p s || wrongOrdersB s) <;> rfl
set_option maxRecDepth 100000 in
set_option maxHeartbeats 4000000 in
theorem refCheckState_any (p : Pl) (s : St) (w : World) (hp : p.At w) (hs : s.At w) :
    Calls Try.prog 21 #[p.val, s.val] w fun e w' => e = .returned (.int .i64 (stateE p s)) ∧ Below w.heap.size w w' := by
  obtain ⟨W0, hW, hWB, X0⟩ : ∃ W, ((w.alloc (.cells #[.slice p.ab p.nb p.cb, .slice p.sa p.ns p.cs] 40)).alloc (.cells s.cells 45)) = W ∧ Below w.heap.size w W ∧ Boxes W w.heap.size (w.heap.size + 1) p s := ⟨_, rfl, two_below _ _ _, boxes_new w p s _ _⟩
  have HC : Hid (∀ wk, Below W0.heap.size W0 wk → Boxes wk w.heap.size (w.heap.size + 1) p s ∧ p.At wk ∧ s.At wk ∧ Below w.heap.size w wk) := fun wk h => ⟨X0.below h, (hp.below hWB).below h, (hs.below hWB).below h, hWB.trans (h.mono hWB.size)⟩
  have HW : Hid ((w.alloc (.cells #[.slice p.ab p.nb p.cb, .slice p.sa p.ns p.cs] 40)).alloc (.cells #[.slice s.on.a s.on.n s.on.c, .slice s.os.a s.os.n s.os.c, .slice s.hs.a s.hs.n s.hs.c, .slice s.ms.a s.ms.n s.ms.c, .slice s.si.a s.si.n s.si.c, .slice s.so.a s.so.n s.so.c, .slice s.sf.a s.sf.n s.sf.c] 45) = W0) := hW
  have ole := hs.os.le
  have ocap := hs.os.cap
  have mle := hs.ms.le
  have mcap := hs.ms.cap
  unfold maxLen at ocap mcap
  clear hW X0 hp hs
  unfold Pl.val St.val
  go_enter Try.func21, Try.ntmps21
  go_wp2_with fail
  rw [HW.out]
  obtain ⟨X, hpk, hsk, hBw⟩ := HC.out W0 (Below.refl _ _)
  refine (refCheckShelf_any p s.on W0 hpk hsk.on).mono ?_
  rintro e w1 ⟨rfl, hB⟩
  clear X hpk hsk hBw HW
  obtain ⟨X, hpk, hsk, hBw⟩ := HC.out w1 hB
  obtain ⟨⟨l1, d0, d1⟩, l2, c0, c1, c2, c3, c4, c5, c6⟩ := X
  by_cases h0 : shelfE p s.on = 0
  · have H0 : Hid (shelfE p s.on = 0) := h0
    rw [h0]
    clear h0 hpk hsk
    by_cases n1 : 4 < s.os.n
    · have HX : Hid (stateE p s = 2) := sE_many H0.out (tm_orders n1)
      have n1' : (4 : Int) < (s.os.n : Int) := by omega
      go_wp2_with fail
      go_ret
      exact ⟨by rw [HX.out]; rfl, hBw⟩
    · by_cases n2 : 8 < s.ms.n
      · have HX : Hid (stateE p s = 2) := sE_many H0.out (tm_moves n2)
        have n1' : ¬ (4 : Int) < (s.os.n : Int) := by omega
        have n2' : (8 : Int) < (s.ms.n : Int) := by omega
        go_wp2_with fail
        go_ret
        exact ⟨by rw [HX.out]; rfl, hBw⟩
      · have n1' : ¬ (4 : Int) < (s.os.n : Int) := by omega
        have n2' : ¬ (8 : Int) < (s.ms.n : Int) := by omega
        go_wp2_with fail
        clear c0 c1 c2 c3 c4 c5 c6 d0 d1 l1 l2 hBw
        go_loopw [6] (fun i wk => ∃ k : Nat, k ≤ s.os.n ∧ i = .int .i64 k ∧ (∀ j, j < k → inB (s.os.z j).ls.n 1 3 = true) ∧ Below W0.heap.size W0 wk) (fun i _ => s.os.n - (intOf i).toNat)
        case atStart => exact ⟨0, Nat.zero_le _, rfl, fun j hj => absurd hj (Nat.not_lt_zero _), hB⟩
        case round =>
          clear hB
          obtain ⟨i, hi, rfl, hno, hB⟩ := hrel
          have HN : Hid (∀ j, j < i → inB (s.os.z j).ls.n 1 3 = true) := hno
          clear hno
          obtain ⟨X, hpk, hsk, hBw⟩ := HC.out wr hB
          obtain ⟨⟨l1, d0, d1⟩, l2, c0, c1, c2, c3, c4, c5, c6⟩ := X
          by_cases hlt : i < s.os.n
          · obtain ⟨b, o, hoa, hb, z0, z1, hl⟩ := hsk.os.ods i hlt
            have qi : (0 : Int) ≤ (i : Int) := by omega
            have HT1 : Hid (inB (s.os.z i).ls.n 1 3 = false → stateE p s = 2) := fun h => sE_many H0.out (tm_lines hlt h)
            have HT2 : Hid (inB (s.os.z i).ls.n 1 3 = true → ∀ j, j < i + 1 → inB (s.os.z j).ls.n 1 3 = true) := fun h => all_succ (f := fun j => inB (s.os.z j).ls.n 1 3) HN.out h
            rw [hoa] at c1
            clear hoa hl hpk hsk c0 c2 c3 c4 c5 c6 d0 d1 z0
            generalize (s.os.z i).ls = LS at *
            cases k1 : inB LS.n 1 3
            · have HX : Hid (stateE p s = 2) := HT1.out k1
              clear HT1 HT2
              go_wp2_with (go_at_call 40; refine calls_to (within_any _ _ _ _) ?_)
              go_ret
              exact ⟨by rw [HX.out]; rfl, hBw⟩
            · have HX := HT2.out k1
              have HX2 : Hid _ := HX
              clear HT1 HT2 HX
              go_wp2_with (go_at_call 40; refine calls_to (within_any _ _ _ _) ?_)
              go_roundw
              case rel => exact ⟨i + 1, by omega, by go_num, HX2.out, hB⟩
              case measure => simp [intOf]; omega
          · have HTM : Hid (tooManyB s = false) := tm_no n1 n2 fun j hj => HN.out j (by omega)
            go_wp2_with fail
            refine (formed_any p s wr hpk hsk H0.out HTM.out).mono ?_
            rintro e w2 ⟨rfl, hB2⟩
            have hB := hB.trans (hB2.mono hB.size)
            clear hpk hsk hBw l1 d0 d1 l2 c0 c1 c2 c3 c4 c5 c6 hB2
            obtain ⟨X, hpk, hsk, hBw⟩ := HC.out w2 hB
            obtain ⟨⟨l1, d0, d1⟩, l2, c0, c1, c2, c3, c4, c5, c6⟩ := X
            cases k2 : formedB p s
            · have HX : Hid (stateE p s = 1) := sE_form H0.out HTM.out k2
              clear hpk hsk
              go_wp2_with fail
              go_ret
              exact ⟨by rw [HX.out]; rfl, hBw⟩
            · have HFO : Hid (Formed p s) := formedB_yes H0.out HTM.out k2
              have HE : Hid (stateE p s = if summedB p s then 0 else 7) := sE_sum H0.out HTM.out k2
              clear k2
              go_wp2_with fail
              refine (summed_any p s w2 hpk hsk HFO.out).mono ?_
              rintro e w3 ⟨rfl, hB3⟩
              have hBw := hBw.trans (hB3.mono hBw.size)
              clear hpk hsk l1 d0 d1 l2 c0 c1 c2 c3 c4 c5 c6 hB3
              cases k3 : summedB p s
              · have HX : Hid (stateE p s = 7) := by show stateE p s = 7; rw [HE.out, k3]; rfl
                clear HE
                go_wp2_with fail
                go_ret
                exact ⟨by rw [HX.out]; rfl, hBw⟩
              · have HX : Hid (stateE p s = 0) := by show stateE p s = 0; rw [HE.out, k3]; rfl
                clear HE
                go_wp2_with fail
                go_ret
                exact ⟨by rw [HX.out]; rfl, hBw⟩
  · have HX : Hid (stateE p s = shelfE p s.on) := sE_shelf h0
    clear hpk hsk
    go_wp2_with fail
    go_ret
    exact ⟨by rw [HX.out]; rfl, hBw⟩
end Go.Proofs.Ytbcacebifpagpab
namespace Go.Proofs.Ytbcacebifpagpab
open Go.RowKit Go.Shelf Go.Sort
set_option linter.unusedVariables false
set_option maxRecDepth 100000 in
set_option maxHeartbeats 400000 in
theorem SameInts_yes (r s : Rw) (w : World) (hr : r.At w) (hs : s.At w) (hn : r.n = s.n) (hz : ∀ j, j < r.n → r.z j = s.z j) :
    Calls Try.prog 55 #[r.val, s.val] w fun e w' => e = .returned (.bool true) ∧ Below w.heap.size w w' := by
  obtain ⟨ra, rn, rc, rz⟩ := r
  obtain ⟨sa, sn, sc, sz⟩ := s
  obtain ⟨rle, rcap, rints⟩ := hr
  obtain ⟨sle, scap, sints⟩ := hs
  dsimp only at *
  subst hn
  have HZ : Hid _ := hz
  clear hz
  unfold maxLen at rcap scap
  simp only [Rw.val]
  go_enter Try.func55, Try.ntmps55
  go_wp2_with fail
  go_loopw [5] (fun i wk => ∃ k : Nat, k ≤ rn ∧ i = .int .i64 k ∧ Below w.heap.size w wk) (fun i _ => rn - (intOf i).toNat)
  case atStart => exact ⟨0, Nat.zero_le _, rfl, Below.refl _ _⟩
  case round =>
    obtain ⟨k, hk, rfl, hB⟩ := hrel
    by_cases hlt : k < rn
    · obtain ⟨b1, o1, rfl, hb1, y0⟩ := (rints.below hB) k hlt
      obtain ⟨b2, o2, rfl, hb2, x0⟩ := (sints.below hB) k hlt
      rw [← HZ.out k hlt] at x0
      generalize rz k = Z at y0 x0
      go_wp2_with fail
      go_quiet (fail)
      go_wp2_with fail
      go_roundw
      case rel => exact ⟨k + 1, by omega, by go_num, below_drewN hB _⟩
      case measure => simp [intOf]; omega
    · go_wp2_with fail
      go_ret
      exact ⟨rfl, hB⟩
set_option maxRecDepth 100000 in
set_option maxHeartbeats 1000000 in
theorem SameRows_yes (r s : Sh) (w : World) (hr : r.At w) (hs : s.At w) (hn : r.n = s.n) (hz : ∀ i, i < r.n → (r.r i).n = (s.r i).n ∧ ∀ j, j < (r.r i).n → (r.r i).z j = (s.r i).z j) :
    Calls Try.prog 54 #[r.val, s.val] w fun e w' => e = .returned (.bool true) ∧ Below w.heap.size w w' := by
  obtain ⟨ra, rn, rc, rr⟩ := r
  obtain ⟨sa, sn, sc, sr⟩ := s
  obtain ⟨rle, rcap, rrows⟩ := hr
  obtain ⟨sle, scap, srows⟩ := hs
  dsimp only at *
  subst hn
  have HZ : Hid _ := hz
  clear hz
  unfold maxLen at rcap scap
  simp only [Sh.val]
  go_enter Try.func54, Try.ntmps54
  go_wp2_with fail
  go_loopw [5] (fun i wk => ∃ k : Nat, k ≤ rn ∧ i = .int .i64 k ∧ Below w.heap.size w wk) (fun i _ => rn - (intOf i).toNat)
  case atStart => exact ⟨0, Nat.zero_le _, rfl, Below.refl _ _⟩
  case round =>
    obtain ⟨k, hk, rfl, hB⟩ := hrel
    by_cases hlt : k < rn
    · obtain ⟨b1, o1, rfl, hb1, y0, at1⟩ := (rrows.below hB) k hlt
      obtain ⟨b2, o2, rfl, hb2, x0, at2⟩ := (srows.below hB) k hlt
      have hh := HZ.out k hlt
      have HH : Hid _ := hh
      clear hh
      have y1 : ∀ d os, (grow (redrawn wr d) os).cell? ⟨b1, o1 + k, none⟩ = some (.slice (rr k).a (rr k).n (rr k).c) := fun d os => cell_regrown y0 d os
      have x1 : ∀ d os, (grow (redrawn wr d) os).cell? ⟨b2, o2 + k, none⟩ = some (.slice (sr k).a (sr k).n (sr k).c) := fun d os => cell_regrown x0 d os
      go_wp2_with fail
      refine wp_region_quiet_below (by kernel_rfl) (by kernel_rfl) ?_
      repeat (go_big_quiet_step ((go_at_call 55; exact Calls.regrown_of (SameInts_yes (rr k) (sr k) _ (at1.below (below_regrown _ _ _)) (at2.below (below_regrown _ _ _)) HH.out.1 HH.out.2))))
      refine wpQuiet_nil ?_
      intro _ hw'
      obtain ⟨⟨dq, osq⟩, hw''⟩ := hw'
      subst hw''
      go_wp2_with fail
      go_roundw
      case rel => exact ⟨k + 1, by omega, by go_num, hB.trans ((below_regrown _ _ _).mono hB.size)⟩
      case measure => simp [intOf]; omega
    · go_wp2_with fail
      go_ret
      exact ⟨rfl, hB⟩
theorem Blk.ne {w : World} {g g' : Nat} {e e' : TypeId} {n n' : Nat} {f f' : Nat → Value} (h : Blk w g e n f) (h' : Blk w g' e' n' f') (he : e ≠ e') : g ≠ g' := by
  rintro rfl
  obtain ⟨c, hc, _⟩ := h
  obtain ⟨c', hc', _⟩ := h'
  rw [hc] at hc'
  cases hc'
  exact he rfl
end Go.Proofs.Ytbcacebifpagpab
namespace Go.Proofs.Ytbcacebifpagpab
open Go.RowKit Go.Shelf Go.Lib
set_option linter.unusedVariables false
def flatH (n : Nat) (z : Nat → Hd) : List Value := (List.range n).flatMap fun i => hdCells (z i)
theorem flatH_len : ∀ (n : Nat) (z : Nat → Hd), (flatH n z).length = n * 4
  | 0, _ => rfl
  | n + 1, z => by
    have := flatH_len n z
    unfold flatH at *
    rw [List.range_succ, List.flatMap_append, List.length_append, this]
    simp [hdCells]
    omega
theorem flatH_succ (n : Nat) (z : Nat → Hd) : flatH (n + 1) z = flatH n z ++ hdCells (z n) := by
  unfold flatH
  rw [List.range_succ, List.flatMap_append]
  simp
theorem flatH_get : ∀ (n : Nat) (z : Nat → Hd) (i c : Nat), i < n → c < 4 → (flatH n z)[i * 4 + c]? = (hdCells (z i))[c]?
  | n + 1, z, i, c, hi, hc => by
    rw [flatH_succ]
    by_cases hin : i = n
    · subst hin
      rw [List.getElem?_append_right (by rw [flatH_len]; omega), flatH_len]
      congr 1
      omega
    · rw [List.getElem?_append_left (by rw [flatH_len]; omega)]
      exact flatH_get n z i c (by omega) hc
theorem Hs.ofOwns {w : World} {base : Nat} {e : TypeId} {v : Value} {n : Nat} {z : Nat → Hd} (h : w.ownsRow base e 4 v n (flatH n z)) : ∃ s : Hs, v = s.val ∧ s.At w ∧ s.n = n ∧ s.z = z := by
  by_cases hv : v = .slice Option.none 0 0
  · have hn : n = 0 := by
      rcases h.2 with ⟨_, h0⟩ | ⟨g, cap, cur, hv', _⟩
      · exact h0
      · rw [hv] at hv'; cases hv'
    subst hn
    exact ⟨⟨Option.none, 0, 0, z⟩, hv, ⟨Nat.le_refl _, Nat.zero_le _, fun i hi => absurd hi (Nat.not_lt_zero _), fun _ => rfl⟩, rfl, rfl⟩
  · obtain ⟨g, c, rfl, h1, h2, h3, h4⟩ := Blk.ofOwns h hv
    refine ⟨⟨some ⟨g, 0, Option.none⟩, n, c, z⟩, rfl, ⟨h1, h2, fun i hi => ?_, fun h => by cases h⟩, rfl, rfl⟩
    have hi' : i < n := hi
    have k : ∀ q, q < 4 → w.cell? ⟨g, 0 + i * 4 + q, Option.none⟩ = some ((flatH n z).getD (i * 4 + q) default) := fun q hq => by
      rw [Nat.zero_add]
      exact h4.cell (by omega)
    have e : ∀ q, q < 4 → (flatH n z).getD (i * 4 + q) default = (hdCells (z i)).getD q default := fun q hq => by
      simp only [List.getD, flatH_get n z i q hi' hq]
    refine ⟨g, 0, rfl, h4.lt, ?_, ?_, ?_, ?_⟩
    · have := k 0 (by omega); rw [e 0 (by omega)] at this; simpa [hdCells] using this
    · have := k 1 (by omega); rw [e 1 (by omega)] at this; simpa [hdCells] using this
    · have := k 2 (by omega); rw [e 2 (by omega)] at this; simpa [hdCells] using this
    · have := k 3 (by omega); rw [e 3 (by omega)] at this; simpa [hdCells] using this
end Go.Proofs.Ytbcacebifpagpab
namespace Go.Proofs.Ytbcacebifpagpab
open Go.RowKit Go.Shelf
set_option linter.unusedVariables false
def OwnH (A : Nat) (e : TypeId) (w : World) (s : Hs) : Prop := s.n ≤ s.c ∧ s.c ≤ maxLen ∧ (s.a = none → s.c = 0) ∧ (0 < s.n → ∃ g, s.a = some ⟨g, 0, none⟩ ∧ A ≤ g ∧ Blk w g e (s.n * 4) (fun j => (flatH s.n s.z).getD j default))
theorem OwnH.at {A : Nat} {e : TypeId} {w : World} {s : Hs} (h : OwnH A e w s) : s.At w := by
  obtain ⟨h1, h2, h3, h4⟩ := h
  refine ⟨h1, h2, fun i hi => ?_, h3⟩
  obtain ⟨g, ha, hA, hb⟩ := h4 (by omega)
  have c : ∀ k, k < 4 → w.cell? ⟨g, 0 + i * 4 + k, none⟩ = (hdCells (s.z i))[k]? := fun k hk => by
    have h5 := hb.cell (j := i * 4 + k) (by omega)
    have h6 := flatH_get s.n s.z i k hi hk
    have h7 : i * 4 + k < (flatH s.n s.z).length := by rw [flatH_len]; omega
    rw [Nat.zero_add, h5, ← h6, List.getElem?_eq_getElem h7]
    simp [List.getD, List.getElem?_eq_getElem h7]
  exact ⟨g, 0, ha, hb.lt, c 0 (by decide), c 1 (by decide), c 2 (by decide), c 3 (by decide)⟩
theorem OwnH.below {A : Nat} {e : TypeId} {w w' : World} {s : Hs} (h : OwnH A e w s) (hB : Below w.heap.size w w') : OwnH A e w' s := by
  obtain ⟨h1, h2, h3, h4⟩ := h
  refine ⟨h1, h2, h3, fun hn => ?_⟩
  obtain ⟨g, ha, hA, hb⟩ := h4 hn
  exact ⟨g, ha, hA, hb.below hB⟩
theorem Blk.ne2 {w : World} {g g' : Nat} {e e' : TypeId} {n n' : Nat} {f f' : Nat → Value} (h : Blk w g e n f) (h' : Blk w g' e' n' f') (he : e ≠ e') : g ≠ g' := by
  rintro rfl
  obtain ⟨c, hc, _⟩ := h
  obtain ⟨c', hc', _⟩ := h'
  rw [hc] at hc'
  cases hc'
  exact he rfl
theorem OwnH.other {A : Nat} {e t : TypeId} {w : World} {s : Hs} {q n : Nat} {f : Nat → Value} (h : OwnH A e w s) (hq : Blk w q t n f) (hne : e ≠ t) (j : Nat) (u : Value) : OwnH A e (w.setCell ⟨q, j, none⟩ u) s := by
  obtain ⟨h1, h2, h3, h4⟩ := h
  refine ⟨h1, h2, h3, fun hn => ?_⟩
  obtain ⟨g, ha, hA, hb⟩ := h4 hn
  exact ⟨g, ha, hA, hb.other (a := ⟨q, j, none⟩) (Blk.ne2 hb hq hne) u⟩
theorem OwnH.mono {A A' : Nat} {e : TypeId} {w : World} {s : Hs} (h : OwnH A e w s) (hA : A' ≤ A) : OwnH A' e w s := by
  obtain ⟨h1, h2, h3, h4⟩ := h
  refine ⟨h1, h2, h3, fun hn => ?_⟩
  obtain ⟨g, ha, h5, hb⟩ := h4 hn
  exact ⟨g, ha, by omega, hb⟩
def Room (A : Nat) (w : World) (e : TypeId) (size : Nat) (a : Option Addr) (c : Nat) : Prop := c = 0 ∨ ∃ g cur, a = some ⟨g, 0, none⟩ ∧ A ≤ g ∧ w.heap[g]? = some (.cells cur e (0, 0)) ∧ cur.size = c * size
theorem Room.ofOwns {A A' : Nat} {w : World} {e : TypeId} {size : Nat} {a : Option Addr} {n n' c : Nat} {xs : List Value} (h : w.ownsRow A e size (.slice a n c) n' xs) (hA : A' ≤ A) : Room A' w e size a c := by
  obtain ⟨_, ⟨h, _⟩ | ⟨g, cap, cur, h, hb, hg, h1, h2, h3, h4⟩⟩ := h
  · cases h; exact Or.inl rfl
  · cases h; exact Or.inr ⟨g, cur, rfl, Nat.le_trans hA hb, hg, h3⟩
theorem Room.same {A : Nat} {w w' : World} {e : TypeId} {size : Nat} {a : Option Addr} {c : Nat} (h : Room A w e size a c) (hs : ∀ (g : Nat) (cur : Array Value), w.heap[g]? = some (.cells cur e (0, 0)) → w'.heap[g]? = w.heap[g]?) : Room A w' e size a c := by
  rcases h with h | ⟨g, cur, h1, h2, h3, h4⟩
  · exact Or.inl h
  · exact Or.inr ⟨g, cur, h1, h2, (hs g cur h3).trans h3, h4⟩
theorem Room.below {A : Nat} {w w' : World} {e : TypeId} {size : Nat} {a : Option Addr} {c : Nat} (h : Room A w e size a c) (hB : Below w.heap.size w w') : Room A w' e size a c :=
  h.same fun g _ hg => hB.block g (Array.getElem?_eq_some_iff.1 hg).1
theorem Room.mono {A A' : Nat} {w : World} {e : TypeId} {size : Nat} {a : Option Addr} {c : Nat} (h : Room A w e size a c) (hA : A' ≤ A) : Room A' w e size a c := by
  rcases h with h | ⟨g, cur, h1, h2, h3⟩
  · exact Or.inl h
  · exact Or.inr ⟨g, cur, h1, by omega, h3⟩
theorem Room.set {A : Nat} {w : World} {e : TypeId} {size : Nat} {a : Option Addr} {c : Nat} (h : Room A w e size a c) (q j : Nat) (u : Value) : Room A (w.setCell ⟨q, j, none⟩ u) e size a c := by
  rcases h with h | ⟨g, cur, h1, h2, h3, h4⟩
  · exact Or.inl h
  · by_cases hq : g = q
    · subst hq
      exact Or.inr ⟨g, cur.setIfInBounds j u, h1, h2, by simp [World.setCell, Array.getElem?_modify, h3], by simpa using h4⟩
    · exact Or.inr ⟨g, cur, h1, h2, (Below.heap_setCell w ⟨q, j, none⟩ u g hq).trans h3, h4⟩
end Go.Proofs.Ytbcacebifpagpab
namespace Go.Proofs.Ytbcacebifpagpab
open Go.RowKit Go.Shelf Go.Sort
set_option linter.unusedVariables false
theorem owns_below {w w' : World} {base : Nat} {e : TypeId} {size : Nat} {v : Value} {n : Nat} {xs : List Value} (h : w.ownsRow base e size v n xs) (hB : Below w.heap.size w w') : w'.ownsRow base e size v n xs :=
  h.kept (row := none) ⟨hB.os, hB.tape, hB.output, hB.size, fun j hj _ => hB.block j hj⟩ (by cases h : v.ownBlock <;> simp)
end Go.Proofs.Ytbcacebifpagpab
namespace Go.Proofs.Ytbcacebifpagpab
open Go.RowKit Go.Shelf
set_option linter.unusedVariables false
set_option maxRecDepth 100000 in
set_option maxHeartbeats 1000000 in
theorem SameHolds_yes (r s : Hs) (w : World) (hr : r.At w) (hs : s.At w) (hn : r.n = s.n) (hz : ∀ j, j < r.n → r.z j = s.z j) :
    Calls Try.prog 12 #[r.val, s.val] w fun e w' => e = .returned (.bool true) ∧ Below w.heap.size w w' := by
  obtain ⟨ra, rn, rc, rz⟩ := r
  obtain ⟨sa, sn, sc, sz⟩ := s
  obtain ⟨rle, rcap, rh, _⟩ := hr
  obtain ⟨sle, scap, sh, _⟩ := hs
  dsimp only at *
  subst hn
  have HZ : Hid (∀ j, j < rn → rz j = sz j) := hz
  clear hz
  unfold maxLen at rcap scap
  simp only [Hs.val]
  go_enter Try.func12, Try.ntmps12
  go_wp2_with fail
  go_loopw [5] (fun i wk => ∃ k : Nat, k ≤ rn ∧ i = .int .i64 k ∧ Below w.heap.size w wk) (fun i _ => rn - (intOf i).toNat)
  case atStart => exact ⟨0, Nat.zero_le _, rfl, Below.refl _ _⟩
  case round =>
    obtain ⟨k, hk, rfl, hB⟩ := hrel
    by_cases hlt : k < rn
    · obtain ⟨b1, o1, rfl, hb1, y0, y1, y2, y3⟩ := (rh.below hB) k hlt
      obtain ⟨b2, o2, rfl, hb2, x0, x1, x2, x3⟩ := (sh.below hB) k hlt
      rw [← HZ.out k hlt] at x0 x1 x2 x3
      generalize rz k = Z at y0 y1 y2 y3 x0 x1 x2 x3
      go_wp2_with fail
      go_quiet (fail)
      go_wp2_with fail
      go_roundw
      case rel => exact ⟨k + 1, by omega, by go_num, below_drewN hB _⟩
      case measure => simp [intOf]; omega
    · go_wp2_with fail
      go_ret
      exact ⟨rfl, hB⟩
end Go.Proofs.Ytbcacebifpagpab
namespace Go.Proofs.Ytbcacebifpagpab
open Go.RowKit Go.Shelf Go.Sort
set_option linter.unusedVariables false
structure SameT (s t : St) : Prop where
  on : s.on.n = t.on.n ∧ ∀ i, i < s.on.n → (s.on.r i).n = (t.on.r i).n ∧ ∀ j, j < (s.on.r i).n → (s.on.r i).z j = (t.on.r i).z j
  os : s.os.n = t.os.n ∧ ∀ i, i < s.os.n → (s.os.z i).k = (t.os.z i).k ∧ (s.os.z i).ls.n = (t.os.z i).ls.n ∧ ∀ j, j < (s.os.z i).ls.n → (s.os.z i).ls.z j = (t.os.z i).ls.z j
  hs : s.hs.n = t.hs.n ∧ ∀ j, j < s.hs.n → s.hs.z j = t.hs.z j
  ms : s.ms.n = t.ms.n ∧ ∀ j, j < s.ms.n → s.ms.z j = t.ms.z j
  si : s.si.n = t.si.n ∧ ∀ j, j < s.si.n → s.si.z j = t.si.z j
  so : s.so.n = t.so.n ∧ ∀ j, j < s.so.n → s.so.z j = t.so.z j
  sf : s.sf.n = t.sf.n ∧ ∀ j, j < s.sf.n → s.sf.z j = t.sf.z j
def Boxed (w : World) (B : Nat) (s : St) : Prop :=
  B < w.heap.size ∧ w.cell? ⟨B, 0, none⟩ = some (.slice s.on.a s.on.n s.on.c) ∧ w.cell? ⟨B, 1, none⟩ = some (.slice s.os.a s.os.n s.os.c) ∧ w.cell? ⟨B, 2, none⟩ = some (.slice s.hs.a s.hs.n s.hs.c) ∧
    w.cell? ⟨B, 3, none⟩ = some (.slice s.ms.a s.ms.n s.ms.c) ∧ w.cell? ⟨B, 4, none⟩ = some (.slice s.si.a s.si.n s.si.c) ∧ w.cell? ⟨B, 5, none⟩ = some (.slice s.so.a s.so.n s.so.c) ∧ w.cell? ⟨B, 6, none⟩ = some (.slice s.sf.a s.sf.n s.sf.c)
theorem Boxed.of {w : World} {B : Nat} {e : TypeId} {s : St} (h : Blk w B e 7 (fun j => s.cells.getD j default)) : Boxed w B s :=
  ⟨h.lt, h.cell (j := 0) (by decide), h.cell (j := 1) (by decide), h.cell (j := 2) (by decide), h.cell (j := 3) (by decide), h.cell (j := 4) (by decide), h.cell (j := 5) (by decide), h.cell (j := 6) (by decide)⟩
theorem order_stored {A w : World} {B : Nat} {e : TypeId} {f : Nat → Value} (hY : Blk w B e 2 f) (hX : Below A.heap.size A w) (hB : A.heap.size ≤ B) (k : Int) (v : Value) :
    ∃ W, (w.setCell ⟨B, 0, none⟩ (.int .i64 k)).setCell ⟨B, 1, none⟩ v = W ∧ Below A.heap.size A W ∧ Blk W B e 2 (fun j => (#[.int .i64 k, v] : Array Value).getD j default) ∧ ∀ g t n f', g ≠ B → Blk w g t n f' → Blk W g t n f' :=
  ⟨_, rfl, (hX.setCell (p := ⟨B, 0, none⟩) hB _).setCell (p := ⟨B, 1, none⟩) hB _, ((hY.set 0 _).set 1 _).congr (fun j hj => by match j, hj with | 0, _ => rfl | 1, _ => rfl),
    fun g t n f' hne h => (h.other (a := ⟨B, 0, none⟩) hne _).other (a := ⟨B, 1, none⟩) hne _⟩
set_option maxRecDepth 100000 in
set_option maxHeartbeats 4000000 in
theorem SameStates_yes (s t : St) (w : World) (hs : s.At w) (ht : t.At w) (h : SameT s t) (ho4 : s.os.n ≤ 1000) (hm8 : s.ms.n ≤ 1000) (hl3 : ∀ i, i < s.os.n → (s.os.z i).ls.n ≤ 1000) :
    Calls Try.prog 22 #[s.val, t.val] w fun e w' => e = .returned (.bool true) ∧ Below w.heap.size w w' := by
  obtain ⟨W0, hW, hWB, X0, Y0⟩ : ∃ W, ((w.alloc (.cells s.cells 45)).alloc (.cells t.cells 45)) = W ∧ Below w.heap.size w W ∧ Blk W w.heap.size 45 7 (fun j => s.cells.getD j default) ∧ Blk W (w.heap.size + 1) 45 7 (fun j => t.cells.getD j default) :=
    ⟨_, rfl, two_below _ _ _, (Blk.mk' rfl rfl).alloc _, Blk.mk' (by simp) rfl⟩
  have HC : Hid (∀ wk, Below W0.heap.size W0 wk → Boxed wk w.heap.size s ∧ Boxed wk (w.heap.size + 1) t ∧ s.At wk ∧ t.At wk ∧ Below w.heap.size w wk) := fun wk h => ⟨Boxed.of (X0.below h), Boxed.of (Y0.below h), (hs.below hWB).below h, (ht.below hWB).below h, hWB.trans (h.mono hWB.size)⟩
  have HW : Hid ((w.alloc (.cells #[.slice s.on.a s.on.n s.on.c, .slice s.os.a s.os.n s.os.c, .slice s.hs.a s.hs.n s.hs.c, .slice s.ms.a s.ms.n s.ms.c, .slice s.si.a s.si.n s.si.c, .slice s.so.a s.so.n s.so.c, .slice s.sf.a s.sf.n s.sf.c] 45)).alloc (.cells #[.slice t.on.a t.on.n t.on.c, .slice t.os.a t.os.n t.os.c, .slice t.hs.a t.hs.n t.hs.c, .slice t.ms.a t.ms.n t.ms.c, .slice t.si.a t.si.n t.si.c, .slice t.so.a t.so.n t.so.c, .slice t.sf.a t.sf.n t.sf.c] 45) = W0) := hW
  have HS : Hid (SameT s t) := h
  have ole := hs.os.le
  have ocap := hs.os.cap
  have mle := hs.ms.le
  have mcap := hs.ms.cap
  have ole2 := ht.os.le
  have ocap2 := ht.os.cap
  have mle2 := ht.ms.le
  have mcap2 := ht.ms.cap
  unfold maxLen at ocap mcap ocap2 mcap2
  have n1 : ((s.os.n : Int) != (t.os.n : Int)) = false := by rw [h.os.1]; simp
  have n2 : ((s.ms.n : Int) != (t.ms.n : Int)) = false := by rw [h.ms.1]; simp
  have HL3 : Hid (∀ i, i < s.os.n → (s.os.z i).ls.n ≤ 1000) := hl3
  clear hW X0 Y0 hs ht h hl3
  unfold St.val
  go_enter Try.func22, Try.ntmps22
  go_wp2_with fail
  rw [HW.out]
  obtain ⟨X, Y, hsk, htk, hBw⟩ := HC.out W0 (Below.refl _ _)
  refine (SameRows_yes s.on t.on W0 hsk.on htk.on HS.out.on.1 HS.out.on.2).mono ?_
  rintro e w1 ⟨rfl, hB⟩
  clear X Y hsk htk hBw HW
  obtain ⟨⟨l1, c0, c1, c2, c3, c4, c5, c6⟩, ⟨l2, d0, d1, d2, d3, d4, d5, d6⟩, hsk, htk, hBw⟩ := HC.out w1 hB
  go_wp2_with fail
  refine (SameHolds_yes s.hs t.hs w1 hsk.hs htk.hs HS.out.hs.1 HS.out.hs.2).mono ?_
  rintro e w2 ⟨rfl, hB2⟩
  have hB := hB.trans (hB2.mono hB.size)
  clear l1 c0 c1 c2 c3 c4 c5 c6 l2 d0 d1 d2 d3 d4 d5 d6 hsk htk hBw hB2
  obtain ⟨⟨l1, c0, c1, c2, c3, c4, c5, c6⟩, ⟨l2, d0, d1, d2, d3, d4, d5, d6⟩, hsk, htk, hBw⟩ := HC.out w2 hB
  go_wp2_with fail
  refine (SameInts_yes s.si t.si w2 hsk.si htk.si HS.out.si.1 HS.out.si.2).mono ?_
  rintro e w3 ⟨rfl, hB2⟩
  have hB := hB.trans (hB2.mono hB.size)
  clear l1 c0 c1 c2 c3 c4 c5 c6 l2 d0 d1 d2 d3 d4 d5 d6 hsk htk hBw hB2
  obtain ⟨⟨l1, c0, c1, c2, c3, c4, c5, c6⟩, ⟨l2, d0, d1, d2, d3, d4, d5, d6⟩, hsk, htk, hBw⟩ := HC.out w3 hB
  go_wp2_with fail
  refine (SameInts_yes s.so t.so w3 hsk.so htk.so HS.out.so.1 HS.out.so.2).mono ?_
  rintro e w4 ⟨rfl, hB2⟩
  have hB := hB.trans (hB2.mono hB.size)
  clear l1 c0 c1 c2 c3 c4 c5 c6 l2 d0 d1 d2 d3 d4 d5 d6 hsk htk hBw hB2
  obtain ⟨⟨l1, c0, c1, c2, c3, c4, c5, c6⟩, ⟨l2, d0, d1, d2, d3, d4, d5, d6⟩, hsk, htk, hBw⟩ := HC.out w4 hB
  go_wp2_with fail
  refine (SameInts_yes s.sf t.sf w4 hsk.sf htk.sf HS.out.sf.1 HS.out.sf.2).mono ?_
  rintro e w5 ⟨rfl, hB2⟩
  have hB := hB.trans (hB2.mono hB.size)
  clear l1 c0 c1 c2 c3 c4 c5 c6 l2 d0 d1 d2 d3 d4 d5 d6 hsk htk hBw hB2
  go_wp2_with fail
  go_loopw [5] (fun i wk => ∃ k : Nat, k ≤ s.os.n ∧ i = .int .i64 k ∧ Below W0.heap.size W0 wk) (fun i _ => s.os.n - (intOf i).toNat)
  case atStart => exact ⟨0, Nat.zero_le _, rfl, hB⟩
  case round =>
    clear hB
    obtain ⟨i, hi, rfl, hB⟩ := hrel
    obtain ⟨⟨l1, c0, c1, c2, c3, c4, c5, c6⟩, ⟨l2, d0, d1, d2, d3, d4, d5, d6⟩, hsk, htk, hBw⟩ := HC.out wr hB
    by_cases hlt : i < s.os.n
    · have hlt2 : i < t.os.n := by rw [← HS.out.os.1]; exact hlt
      have qi : (0 : Int) ≤ (i : Int) := by omega
      obtain ⟨b1, o1, hoa, hb1, y0, y1, hl⟩ := hsk.os.ods i hlt
      obtain ⟨b2, o2, hob, hb2, x0, x1, hm⟩ := htk.os.ods i hlt2
      obtain ⟨e1, e2, e3⟩ := HS.out.os.2 i hlt
      have hn3 := HL3.out i hlt
      rw [hoa] at c1
      rw [hob] at d1
      have r0 : ∀ d os, (grow (redrawn wr d) os).cell? ⟨w.heap.size, 1, none⟩ = some (.slice (some ⟨b1, o1, none⟩) s.os.n s.os.c) := fun d os => cell_regrown c1 d os
      have r1 : ∀ d os, (grow (redrawn wr d) os).cell? ⟨w.heap.size + 1, 1, none⟩ = some (.slice (some ⟨b2, o2, none⟩) t.os.n t.os.c) := fun d os => cell_regrown d1 d os
      have r2 : ∀ d os, (grow (redrawn wr d) os).cell? ⟨b1, o1 + i * 2, none⟩ = some (.int .i64 (s.os.z i).k) := fun d os => cell_regrown y0 d os
      have r3 : ∀ d os, (grow (redrawn wr d) os).cell? ⟨b1, o1 + i * 2 + 1, none⟩ = some (.slice (s.os.z i).ls.a (s.os.z i).ls.n (s.os.z i).ls.c) := fun d os => cell_regrown y1 d os
      rw [← e1] at x0
      have r4 : ∀ d os, (grow (redrawn wr d) os).cell? ⟨b2, o2 + i * 2, none⟩ = some (.int .i64 (s.os.z i).k) := fun d os => cell_regrown x0 d os
      have r5 : ∀ d os, (grow (redrawn wr d) os).cell? ⟨b2, o2 + i * 2 + 1, none⟩ = some (.slice (t.os.z i).ls.a (t.os.z i).ls.n (t.os.z i).ls.c) := fun d os => cell_regrown x1 d os
      have HLM : Hid ((s.os.z i).ls.At wr ∧ (t.os.z i).ls.At wr) := ⟨hl, hm⟩
      have HE : Hid ((s.os.z i).ls.n = (t.os.z i).ls.n ∧ ∀ j, j < (s.os.z i).ls.n → (s.os.z i).ls.z j = (t.os.z i).ls.z j) := ⟨e2, e3⟩
      clear hoa hob hl hm e1 e2 e3 c0 c2 c3 c4 c5 c6 d0 d2 d3 d4 d5 d6 hsk htk y0 y1 x0 x1 d1
      generalize (s.os.z i).k = KD at *
      generalize (s.os.z i).ls = LS at *
      generalize (t.os.z i).ls = LT at *
      go_wp2_with fail
      refine wp_region_made5 (fun w' => ∃ p : Regrown, w' = grow (redrawn wr p.d) p.os) (List.range 10) [10, 11] [(false, 12), (true, 13)] (by kernel_rfl) (by kernel_rfl) (by kernel_rfl) (by kernel_rfl) (by kernel_rfl) (by kernel_rfl) (by kernel_rfl) (by kernel_rfl) (by kernel_rfl) (regrown_of_below ((Below.refl _ _).drew)) ?_
      rw [show List.range 10 = [0, 1, 2, 3, 4, 5, 6, 7, 8, 9] from rfl]
      simp only [picks, List.drop_succ_cons, List.drop_zero, List.take_succ_cons, List.take_zero, List.cons_append, List.nil_append]
      repeat (go_big_quiet_step (fail))
      refine wpQuiet_nil ?_
      refine ⟨fun j v g wk => ∃ B, g = [B] ∧ v = .pointer (some ⟨B, 0, none⟩) ∧ wr.heap.size ≤ B ∧ Blk wk B 76 2 (fun j => (#[.int .i64 0, .slice .none 0 0] : Array Value).getD j default), List.forall_mem_cons.2 ⟨?zm, List.forall_mem_cons.2 ⟨?zm2, List.forall_mem_nil _⟩⟩, List.forall_mem_cons.2 ⟨?zl, List.forall_mem_cons.2 ⟨?zl2, List.forall_mem_nil _⟩⟩, List.forall_mem_cons.2 ⟨?zs10, List.forall_mem_cons.2 ⟨?zs11, List.forall_mem_nil _⟩⟩, ?zdone⟩
      case zm | zm2 => intro v g w w' hB h; obtain ⟨B, h0, h1, h2, h3⟩ := h; exact ⟨B, h0, h1, h2, h3.below hB⟩
      case zl | zl2 => intro v g w h; obtain ⟨B, rfl, h1, h2, h3⟩ := h; intro x hx; rw [List.mem_singleton] at hx; subst hx; exact h3.lt
      case zs10 =>
        intro V G wk K hS hd hK
        have hX := below_of_regrown hS
        refine wpOp_list 10 rfl ?_
        simp only [putAll, dstOf, List.getElem?_toArray, List.getElem?_cons_succ, List.getElem?_cons_zero, Act.put, List.setIfInBounds_toArray, List.set_cons_succ, List.set_cons_zero] at hK ⊢
        go_wp2_with fail
        exact hK _ [wk.heap.size] _ (regrown_of_below (hX.alloc hX.size _)) ((Below.refl _ _).alloc (Nat.le_refl _) _) (fun x hx => by rw [List.mem_singleton] at hx; omega) ⟨wk.heap.size, rfl, rfl, hX.size, Blk.mk' rfl rfl⟩
      case zs11 =>
        intro V G wk K hS hd hK
        have hX := below_of_regrown hS
        refine wpOp_list 11 rfl ?_
        simp only [putAll, dstOf, List.getElem?_toArray, List.getElem?_cons_succ, List.getElem?_cons_zero, Act.put, List.setIfInBounds_toArray, List.set_cons_succ, List.set_cons_zero] at hK ⊢
        go_wp2_with fail
        exact hK _ [wk.heap.size] _ (regrown_of_below (hX.alloc hX.size _)) ((Below.refl _ _).alloc (Nat.le_refl _) _) (fun x hx => by rw [List.mem_singleton] at hx; omega) ⟨wk.heap.size, rfl, rfl, hX.size, Blk.mk' rfl rfl⟩
      case zdone =>
        intro V G wk hS hD hA
        obtain ⟨B6, g6, h6, m6, k6⟩ := hD 10 (by simp)
        obtain ⟨B7, g7, h7, m7, k7⟩ := hD 11 (by simp)
        have hne : B6 ≠ B7 := fun e => hA 10 (by simp) 11 (by simp) (by decide) B6 (by rw [g6]; simp) (by rw [g7, e]; simp)
        have hX := below_of_regrown hS
        clear hS hD hA g6 g7 r0 r1 r2 r3 r4 r5
        have f0 := k6.frozen 0
        have f1 := k6.frozen 1
        have e0 := k6.cell (j := 0) (by decide)
        have e1 := k6.cell (j := 1) (by decide)
        have hl6 := k6.lt
        simp only [putAll, dstOf, List.getElem?_toArray, List.getElem?_cons_succ, List.getElem?_cons_zero, Act.put, List.setIfInBounds_toArray, List.set_cons_succ, List.set_cons_zero, h6, h7]
        refine wpSeq_one 12 rfl ?_
        go_wp2_with fail
        obtain ⟨W5, hW5, hX5, hY5, keep⟩ := order_stored k6 hX m6 KD (.slice LS.a LS.n LS.c)
        have k7 := keep _ _ _ _ hne.symm k7
        rw [hW5]
        refine ⟨Late.no (regrown_of_below hX5), ?_⟩
        clear hW5 hX k6 keep f0 f1 e0 e1 hl6 h6 h7
        have f0 := k7.frozen 0
        have f1 := k7.frozen 1
        have e0 := k7.cell (j := 0) (by decide)
        have e1 := k7.cell (j := 1) (by decide)
        have hl6 := k7.lt
        refine wpSeq_one 13 rfl ?_
        go_wp2_with fail
        obtain ⟨W6, hW6, hX6, hY7, keep⟩ := order_stored k7 hX5 m7 KD (.slice LT.a LT.n LT.c)
        have hY6 := keep _ _ _ _ hne hY5
        rw [hW6]
        refine ⟨Late.yes, ?_⟩
        refine NoPanic.normal ?_
        have hB6 := hB.trans (hX6.mono hB.size)
        have HLL : Hid (LS.At W6 ∧ LT.At W6) := ⟨HLM.out.1.below hX6, HLM.out.2.below hX6⟩
        clear hW6 hX5 hX6 k7 keep f0 f1 e0 e1 hl6 hY5 HLM hB m6 m7
        have HD : Hid (∀ wk, Below W6.heap.size W6 wk → (wk.cell? ⟨B6, 0, none⟩ = some (.int .i64 KD) ∧ wk.cell? ⟨B6, 1, none⟩ = some (.slice LS.a LS.n LS.c) ∧ B6 < wk.heap.size) ∧ (wk.cell? ⟨B7, 0, none⟩ = some (.int .i64 KD) ∧ wk.cell? ⟨B7, 1, none⟩ = some (.slice LT.a LT.n LT.c) ∧ B7 < wk.heap.size) ∧ LS.At wk ∧ LT.At wk ∧ Below W0.heap.size W0 wk) :=
          fun wk h => ⟨⟨(hY6.below h).cell (j := 0) (by decide), (hY6.below h).cell (j := 1) (by decide), (hY6.below h).lt⟩, ⟨(hY7.below h).cell (j := 0) (by decide), (hY7.below h).cell (j := 1) (by decide), (hY7.below h).lt⟩, HLL.out.1.below h, HLL.out.2.below h, hB6.trans (h.mono hB6.size)⟩
        clear hY6 hY7 HLL
        obtain ⟨⟨p0, p1, p2⟩, ⟨q0, q1, q2⟩, hls, hlt', hBz⟩ := HD.out W6 (Below.refl _ _)
        have lle := hls.le
        have lcap := hls.cap
        have mle3 := hlt'.le
        have mcap3 := hlt'.cap
        unfold maxLen at lcap mcap3
        have n3 : ((LS.n : Int) != (LT.n : Int)) = false := by rw [HE.out.1]; simp
        clear hls hlt' hBz
        go_wp2_with fail
        clear p0 p1 p2 q0 q1 q2
        go_loopw [8] (fun i0 wk => ∃ k : Nat, k ≤ LS.n ∧ i0 = .int .i64 k ∧ Below W6.heap.size W6 wk) (fun i0 _ => LS.n - (intOf i0).toNat)
        case atStart => exact ⟨0, Nat.zero_le _, rfl, Below.refl _ _⟩
        case round =>
          obtain ⟨j, hj, rfl, hB⟩ := hrel
          obtain ⟨⟨p0, p1, p2⟩, ⟨q0, q1, q2⟩, hls, hlt', hBz⟩ := HD.out wr hB
          by_cases hlj : j < LS.n
          · have hlj2 : j < LT.n := by rw [← HE.out.1]; exact hlj
            have qj : (0 : Int) ≤ (j : Int) := by omega
            obtain ⟨b3, o3, hla, hb3, y0, y1, y2, y3⟩ := hls.hds j hlj
            obtain ⟨b4, o4, hlb, hb4, x0, x1, x2, x3⟩ := hlt'.hds j hlj2
            rw [← HE.out.2 j hlj] at x0 x1 x2 x3
            rw [hla] at p1
            rw [hlb] at q1
            generalize LS.z j = Z at *
            clear hla hlb hls hlt' p0 q0
            go_wp2_with fail
            go_quiet (fail)
            go_wp2_with fail
            go_roundw
            case rel => exact ⟨j + 1, by omega, by go_num, below_drewN hB _⟩
            case measure => simp [intOf]; omega
          · clear hls hlt'
            go_wp2_with fail
            go_roundw
            case rel => exact ⟨i + 1, by omega, by go_num, hBz⟩
            case measure => simp [intOf]; omega
    · go_wp2_with fail
      clear l1 c0 c1 c2 c3 c4 c5 c6 l2 d0 d1 d2 d3 d4 d5 d6 hsk htk hBw hi hlt
      go_loopw [9] (fun i0 wk => ∃ k : Nat, k ≤ s.ms.n ∧ i0 = .int .i64 k ∧ Below W0.heap.size W0 wk) (fun i0 _ => s.ms.n - (intOf i0).toNat)
      case atStart => exact ⟨0, Nat.zero_le _, rfl, hB⟩
      case round =>
        clear hB
        obtain ⟨j, hj, rfl, hB⟩ := hrel
        obtain ⟨⟨l1, c0, c1, c2, c3, c4, c5, c6⟩, ⟨l2, d0, d1, d2, d3, d4, d5, d6⟩, hsk, htk, hBw⟩ := HC.out wr hB
        by_cases hlj : j < s.ms.n
        · have hlj2 : j < t.ms.n := by rw [← HS.out.ms.1]; exact hlj
          have qj : (0 : Int) ≤ (j : Int) := by omega
          obtain ⟨b3, o3, hla, hb3, y0, y1, y2, y3⟩ := hsk.ms.hds j hlj
          obtain ⟨b4, o4, hlb, hb4, x0, x1, x2, x3⟩ := htk.ms.hds j hlj2
          rw [← HS.out.ms.2 j hlj] at x0 x1 x2 x3
          rw [hla] at c3
          rw [hlb] at d3
          generalize s.ms.z j = Z at *
          clear hla hlb hsk htk c0 c1 c2 c4 c5 c6 d0 d1 d2 d4 d5 d6
          go_wp2_with fail
          go_quiet (fail)
          go_wp2_with fail
          go_roundw
          case rel => exact ⟨j + 1, by omega, by go_num, below_drewN hB _⟩
          case measure => simp [intOf]; omega
        · clear hsk htk
          go_wp2_with fail
          go_ret
          exact ⟨rfl, hBw⟩
end Go.Proofs.Ytbcacebifpagpab
namespace Go.Proofs.Ytbcacebifpagpab
open Go.RowKit Go.Shelf Go.Sort
set_option linter.unusedVariables false
def ZeroAt (A n : Nat) (v : Value) (g : List Nat) (wk : World) : Prop := ∃ B, g = [B] ∧ v = .slice (some ⟨B, 0, none⟩) n n ∧ A ≤ B ∧ Blk wk B 3 n (fun _ => .int .i64 0)
theorem ZeroAt.below {A n : Nat} {v : Value} {g : List Nat} {w w' : World} (h : ZeroAt A n v g w) (hB : Below w.heap.size w w') : ZeroAt A n v g w' := by
  obtain ⟨B, h0, h1, h2, h3⟩ := h
  exact ⟨B, h0, h1, h2, h3.below hB⟩
theorem ZeroAt.lt {A n : Nat} {v : Value} {g : List Nat} {w : World} (h : ZeroAt A n v g w) : ∀ x ∈ g, x < w.heap.size := by
  obtain ⟨B, rfl, h1, h2, h3⟩ := h
  intro x hx
  rw [List.mem_singleton] at hx
  subst hx
  exact h3.lt
def BoxAt (A : Nat) (v : Value) (g : List Nat) (wk : World) : Prop := ∃ B, g = [B] ∧ v = .pointer (some ⟨B, 0, none⟩) ∧ A ≤ B ∧ Blk wk B 45 7 (fun _ => .slice .none 0 0)
theorem BoxAt.below {A : Nat} {v : Value} {g : List Nat} {w w' : World} (h : BoxAt A v g w) (hB : Below w.heap.size w w') : BoxAt A v g w' := by
  obtain ⟨B, h0, h1, h2, h3⟩ := h
  exact ⟨B, h0, h1, h2, h3.below hB⟩
theorem BoxAt.lt {A : Nat} {v : Value} {g : List Nat} {w : World} (h : BoxAt A v g w) : ∀ x ∈ g, x < w.heap.size := by
  obtain ⟨B, rfl, h1, h2, h3⟩ := h
  intro x hx
  rw [List.mem_singleton] at hx
  subst hx
  exact h3.lt
def SumsAt (A n : Nat) (v : Value) (g : List Nat) (wk : World) : Prop := ∃ B1 B2 B3, g = [] ∧ v = .agg #[.slice .none 0 0, .slice .none 0 0, .slice .none 0 0, .slice .none 0 0, .slice (some ⟨B1, 0, none⟩) n n, .slice (some ⟨B2, 0, none⟩) n n, .slice (some ⟨B3, 0, none⟩) n n] ∧
  (A ≤ B1 ∧ Blk wk B1 3 n (fun _ => .int .i64 0)) ∧ (A ≤ B2 ∧ Blk wk B2 3 n (fun _ => .int .i64 0)) ∧ (A ≤ B3 ∧ Blk wk B3 3 n (fun _ => .int .i64 0))
theorem SumsAt.below {A n : Nat} {v : Value} {g : List Nat} {w w' : World} (h : SumsAt A n v g w) (hB : Below w.heap.size w w') : SumsAt A n v g w' := by
  obtain ⟨B1, B2, B3, h0, h1, ⟨a1, a2⟩, ⟨b1, b2⟩, ⟨c1, c2⟩⟩ := h
  exact ⟨B1, B2, B3, h0, h1, ⟨a1, a2.below hB⟩, ⟨b1, b2.below hB⟩, ⟨c1, c2.below hB⟩⟩
def OneAt (A n : Nat) (v : Value) (g : List Nat) (wk : World) : Prop := ∃ B R, g = [B] ∧ v = .slice (some ⟨B, 0, none⟩) 1 1 ∧ A ≤ B ∧ Blk wk B 38 1 (fun _ => .slice (some ⟨R, 0, none⟩) n n) ∧ A ≤ R ∧ Blk wk R 3 n (fun _ => .int .i64 0)
theorem OneAt.below {A n : Nat} {v : Value} {g : List Nat} {w w' : World} (h : OneAt A n v g w) (hB : Below w.heap.size w w') : OneAt A n v g w' := by
  obtain ⟨B, R, h0, h1, h2, h3, h4, h5⟩ := h
  exact ⟨B, R, h0, h1, h2, h3.below hB, h4, h5.below hB⟩
theorem OneAt.lt {A n : Nat} {v : Value} {g : List Nat} {w : World} (h : OneAt A n v g w) : ∀ x ∈ g, x < w.heap.size := by
  obtain ⟨B, R, rfl, h1, h2, h3, h4, h5⟩ := h
  intro x hx
  rw [List.mem_singleton] at hx
  subst hx
  exact h3.lt
def Fr (n : Nat) (w : World) (s : St) : Prop := ∀ w'' : World, w.heap.size ≤ w''.heap.size → (∀ g, n ≤ g → g < w.heap.size → w''.heap[g]? = w.heap[g]?) → s.At w''
theorem Fr.at {n : Nat} {w : World} {s : St} (h : Fr n w s) : s.At w := h w (Nat.le_refl _) (fun _ _ _ => rfl)
theorem Fr.below {n : Nat} {w w' : World} {s : St} (h : Fr n w s) (hB : Below w.heap.size w w') : Fr n w' s := fun w'' hz hs => h w'' (Nat.le_trans hB.size hz) fun g h1 h2 => (hs g h1 (Nat.lt_of_lt_of_le h2 hB.size)).trans (hB.block g h2)
theorem Fr.set {n : Nat} {w : World} {s : St} (h : Fr n w s) {q : Nat} (hq : q < n) (j : Nat) (u : Value) : Fr n (w.setCell ⟨q, j, none⟩ u) s := fun w'' hz hs => h w'' (by simpa using hz) fun g h1 h2 => (hs g h1 (by simpa using h2)).trans (Below.heap_setCell w ⟨q, j, none⟩ u g (by show g ≠ q; omega))
theorem grown_keep {w w2 : World} {base : Nat} {e : TypeId} {size : Nat} {v : Value} {n : Nat} {xs : List Value} (ho : w.ownsRow base e size v n xs) (hg : w.grownBy w2 v.ownBlock) {q : Nat} {t : TypeId} {m : Nat} {f : Nat → Value} (hb : Blk w q t m f) (hne : t ≠ e) : Blk w2 q t m f := by
  refine hb.grown hg ?_
  intro hq
  rcases ho.2 with ⟨rfl, _⟩ | ⟨g2, cap2, cur2, rfl, _, hh2, hrest⟩
  · simp [Value.ownBlock] at hq
  · simp only [Value.ownBlock, Option.some.injEq] at hq
    subst hq
    obtain ⟨c3, hc3, _⟩ := hb
    rw [hc3] at hh2
    cases hh2
    exact hne rfl
theorem owns_set {w : World} {base : Nat} {e : TypeId} {size : Nat} {v : Value} {n : Nat} {xs : List Value} (ho : w.ownsRow base e size v n xs) {q : Nat} {t : TypeId} {m : Nat} {f : Nat → Value} (hb : Blk w q t m f) (hne : t ≠ e) (j : Nat) (u : Value) : (w.setCell ⟨q, j, none⟩ u).ownsRow base e size v n xs := by
  refine ⟨ho.1, ?_⟩
  rcases ho.2 with h | ⟨g2, cap2, cur2, rfl, hb2, hh2, hrest⟩
  · exact .inl h
  · refine .inr ⟨g2, cap2, cur2, rfl, hb2, ?_, hrest⟩
    rw [Below.heap_setCell w ⟨q, j, none⟩ u g2 ?_]
    · exact hh2
    · intro hq
      obtain ⟨c3, hc3, _⟩ := hb
      rw [hq, hc3] at hh2
      cases hh2
      exact hne rfl
def BegL (p : Pl) (A BX B1 B2 B3 k : Nat) (wk : World) : Prop := ∃ (v : Value) (G : Nat → Nat), Blk wk BX 45 7 (fun j => (#[v, .slice .none 0 0, .slice .none 0 0, .slice .none 0 0, .slice (some ⟨B1, 0, none⟩) p.ns p.ns, .slice (some ⟨B2, 0, none⟩) p.ns p.ns, .slice (some ⟨B3, 0, none⟩) p.ns p.ns] : Array Value).getD j default) ∧
  wk.ownsRow A 38 1 v k ((List.range k).map fun i => Value.slice (some ⟨G i, 0, none⟩) p.ns p.ns) ∧ (∀ i, i < k → A ≤ G i ∧ Blk wk (G i) 3 p.ns (fun _ => .int .i64 0)) ∧
  Blk wk B1 3 p.ns (fun _ => .int .i64 0) ∧ Blk wk B2 3 p.ns (fun _ => .int .i64 0) ∧ Blk wk B3 3 p.ns (fun _ => .int .i64 0)
set_option maxRecDepth 100000 in
set_option maxHeartbeats 4000000 in
theorem BeginOf_any (p : Pl) (w : World) (hp : p.At w) (h0 : planE p = 0) :
    Calls Try.prog 18 #[p.val] w fun e w' => ∃ s : St, e = .returned s.val ∧ Fr w.heap.size w' s ∧ BegunS p s ∧ Below w.heap.size w w' := by
  have capb := hp.capb
  have leb := hp.leb
  have caps := hp.caps
  have les := hp.les
  have R := rightP h0
  have ns3 := R.ns3
  have nb6 := R.nb6
  have nb1 := R.nb1
  clear h0 R
  unfold maxLen at capb caps
  obtain ⟨W0, hW, hWB, X0, Z0⟩ : ∃ W, ((w.alloc (.cells #[.slice p.ab p.nb p.cb, .slice p.sa p.ns p.cs] 40)).alloc (.cells #[.slice .none 0 0, .slice .none 0 0, .slice .none 0 0, .slice .none 0 0, .slice .none 0 0, .slice .none 0 0, .slice .none 0 0] 45)) = W ∧ Below w.heap.size w W ∧ Blk W w.heap.size 40 2 (fun j => (#[.slice p.ab p.nb p.cb, .slice p.sa p.ns p.cs] : Array Value).getD j default) ∧ Blk W (w.heap.size + 1) 45 7 (fun _ => .slice .none 0 0) :=
    ⟨_, rfl, two_below _ _ _, (Blk.mk' rfl rfl).alloc _, (Blk.mk' (cur := #[.slice .none 0 0, .slice .none 0 0, .slice .none 0 0, .slice .none 0 0, .slice .none 0 0, .slice .none 0 0, .slice .none 0 0]) (by simp) rfl).congr (fun j hj => by match j, hj with | 0, _ => rfl | 1, _ => rfl | 2, _ => rfl | 3, _ => rfl | 4, _ => rfl | 5, _ => rfl | 6, _ => rfl)⟩
  have HW : Hid ((w.alloc (.cells #[.slice p.ab p.nb p.cb, .slice p.sa p.ns p.cs] 40)).alloc (.cells #[.slice .none 0 0, .slice .none 0 0, .slice .none 0 0, .slice .none 0 0, .slice .none 0 0, .slice .none 0 0, .slice .none 0 0] 45) = W0) := hW
  have HC : Hid (∀ wk, Below W0.heap.size W0 wk → (w.heap.size < wk.heap.size ∧ wk.cell? ⟨w.heap.size, 0, none⟩ = some (.slice p.ab p.nb p.cb) ∧ wk.cell? ⟨w.heap.size, 1, none⟩ = some (.slice p.sa p.ns p.cs)) ∧ Blk wk (w.heap.size + 1) 45 7 (fun _ => .slice .none 0 0) ∧ Below w.heap.size w wk) :=
    fun wk h => ⟨⟨(X0.below h).lt, (X0.below h).cell (j := 0) (by decide), (X0.below h).cell (j := 1) (by decide)⟩, Z0.below h, hWB.trans (h.mono hWB.size)⟩
  have zlt := Z0.lt
  obtain ⟨i1, hj, hy0, hy1, hy2⟩ := info_parts infoI2
  obtain ⟨i0, hi, hz0, hz1, hz2⟩ := info_parts infoS2
  have r1 : ∀ d os, (grow (redrawn W0 d) os).cell? ⟨w.heap.size, 1, none⟩ = some (.slice p.sa p.ns p.cs) := fun d os => cell_regrown (X0.cell (j := 1) (by decide)) d os
  clear hW X0 Z0 hp
  unfold Pl.val
  go_enter Try.func18, Try.ntmps18
  go_wp2_with fail
  rw [HW.out]
  refine wp_region_made5 (fun w' => ∃ p : Regrown, w' = grow (redrawn W0 p.d) p.os) [0, 1, 4, 5, 8, 9] [2, 3, 6, 7, 10, 11, 12, 13] [(false, 14)] (by kernel_rfl) (by kernel_rfl) (by kernel_rfl) (by kernel_rfl) (by kernel_rfl) (by kernel_rfl) (by kernel_rfl) (by kernel_rfl) (by kernel_rfl) (regrown_of_below ((Below.refl _ _).drew)) ?_
  simp only [picks, List.drop_succ_cons, List.drop_zero, List.take_succ_cons, List.take_zero, List.cons_append, List.nil_append]
  repeat (go_big_quiet_step (fail))
  refine wpQuiet_nil ?_
  refine ⟨fun j v g wk => match j with | 3 => ZeroAt W0.heap.size p.ns v g wk | 7 => ZeroAt W0.heap.size p.ns v g wk | 11 => ZeroAt W0.heap.size p.ns v g wk | 12 => SumsAt W0.heap.size p.ns v g wk | 13 => BoxAt W0.heap.size v g wk | _ => g = [] ∧ v = .int .i64 p.ns,
    List.forall_mem_cons.2 ⟨fun v g w w' _ h => h, List.forall_mem_cons.2 ⟨fun v g w w' hB h => ZeroAt.below h hB, List.forall_mem_cons.2 ⟨fun v g w w' _ h => h, List.forall_mem_cons.2 ⟨fun v g w w' hB h => ZeroAt.below h hB, List.forall_mem_cons.2 ⟨fun v g w w' _ h => h, List.forall_mem_cons.2 ⟨fun v g w w' hB h => ZeroAt.below h hB, List.forall_mem_cons.2 ⟨fun v g w w' hB h => SumsAt.below h hB, List.forall_mem_cons.2 ⟨fun v g w w' hB h => BoxAt.below h hB, List.forall_mem_nil _⟩⟩⟩⟩⟩⟩⟩⟩,
    List.forall_mem_cons.2 ⟨fun v g w h => by rw [h.1]; intro x hx; simp at hx, List.forall_mem_cons.2 ⟨fun v g w h => ZeroAt.lt h, List.forall_mem_cons.2 ⟨fun v g w h => by rw [h.1]; intro x hx; simp at hx, List.forall_mem_cons.2 ⟨fun v g w h => ZeroAt.lt h, List.forall_mem_cons.2 ⟨fun v g w h => by rw [h.1]; intro x hx; simp at hx, List.forall_mem_cons.2 ⟨fun v g w h => ZeroAt.lt h, List.forall_mem_cons.2 ⟨fun v g w h => by obtain ⟨_, _, _, h1, _⟩ := h; rw [h1]; intro x hx; simp at hx, List.forall_mem_cons.2 ⟨fun v g w h => BoxAt.lt h, List.forall_mem_nil _⟩⟩⟩⟩⟩⟩⟩⟩,
    List.forall_mem_cons.2 ⟨?zs2, List.forall_mem_cons.2 ⟨?zs3, List.forall_mem_cons.2 ⟨?zs6, List.forall_mem_cons.2 ⟨?zs7, List.forall_mem_cons.2 ⟨?zs10, List.forall_mem_cons.2 ⟨?zs11, List.forall_mem_cons.2 ⟨?zs12, List.forall_mem_cons.2 ⟨?zs13, List.forall_mem_nil _⟩⟩⟩⟩⟩⟩⟩⟩, ?zdone⟩
  case zs2 =>
    intro V G wk K hS hd hK
    refine wpOp_list 2 rfl ?_
    simp only [putAll, dstOf, List.getElem?_toArray, List.getElem?_cons_succ, List.getElem?_cons_zero, Act.put, List.setIfInBounds_toArray, List.set_cons_succ, List.set_cons_zero] at hK ⊢
    go_wp2_with fail
    exact hK _ [] _ hS (Below.refl _ _) (fun x hx => by simp at hx) ⟨rfl, rfl⟩
  case zs3 =>
    intro V G wk K hS hd hK
    have hX := below_of_regrown hS
    have h2 : G 2 = [] ∧ V 2 = .int .i64 p.ns := hd 2 (List.contains_iff_mem.1 (by kernel_rfl)) (by simp)
    refine wpOp_list 3 rfl ?_
    simp only [putAll, dstOf, List.getElem?_toArray, List.getElem?_cons_succ, List.getElem?_cons_zero, Act.put, List.setIfInBounds_toArray, List.set_cons_succ, List.set_cons_zero, h2.2] at hK ⊢
    go_wp2_with (at_make; refine wpList_make_full _ rfl _ _ 38 rfl wk.heap.size 3 i1 (.int .i64 0) 1 Try.underlying38 hj hy0 hy1 .i64 .i64 _ _ p.ns rfl rfl rfl rfl (by rw [hy2]; omega) (by unfold maxLen; omega) (Nat.le_refl _) ?_; intro w1 hown hgrow)
    obtain ⟨gq, c', hv, _, _, _, hblk⟩ := Blk.ofOwns hown (by simp)
    simp only [Value.slice.injEq, Option.some.injEq, Addr.mk.injEq, and_true] at hv
    obtain ⟨rfl, -, -⟩ := hv
    rw [Nat.mul_one] at hblk
    have hB1 : Below wk.heap.size wk w1 := (Below.refl _ wk).grown hgrow (Nat.le_refl _) (by intro k hk; cases hk)
    exact hK _ [wk.heap.size] _ (regrown_of_below (hX.trans (hB1.mono hX.size))) hB1 (fun x hx => by rw [List.mem_singleton] at hx; omega) ⟨wk.heap.size, rfl, rfl, hX.size, hblk.congr (fun j hj => madeI hj)⟩
  case zs6 =>
    intro V G wk K hS hd hK
    refine wpOp_list 6 rfl ?_
    simp only [putAll, dstOf, List.getElem?_toArray, List.getElem?_cons_succ, List.getElem?_cons_zero, Act.put, List.setIfInBounds_toArray, List.set_cons_succ, List.set_cons_zero] at hK ⊢
    go_wp2_with fail
    exact hK _ [] _ hS (Below.refl _ _) (fun x hx => by simp at hx) ⟨rfl, rfl⟩
  case zs7 =>
    intro V G wk K hS hd hK
    have hX := below_of_regrown hS
    have h2 : G 6 = [] ∧ V 6 = .int .i64 p.ns := hd 6 (List.contains_iff_mem.1 (by kernel_rfl)) (by simp)
    refine wpOp_list 7 rfl ?_
    simp only [putAll, dstOf, List.getElem?_toArray, List.getElem?_cons_succ, List.getElem?_cons_zero, Act.put, List.setIfInBounds_toArray, List.set_cons_succ, List.set_cons_zero, h2.2] at hK ⊢
    go_wp2_with (at_make; refine wpList_make_full _ rfl _ _ 38 rfl wk.heap.size 3 i1 (.int .i64 0) 1 Try.underlying38 hj hy0 hy1 .i64 .i64 _ _ p.ns rfl rfl rfl rfl (by rw [hy2]; omega) (by unfold maxLen; omega) (Nat.le_refl _) ?_; intro w1 hown hgrow)
    obtain ⟨gq, c', hv, _, _, _, hblk⟩ := Blk.ofOwns hown (by simp)
    simp only [Value.slice.injEq, Option.some.injEq, Addr.mk.injEq, and_true] at hv
    obtain ⟨rfl, -, -⟩ := hv
    rw [Nat.mul_one] at hblk
    have hB1 : Below wk.heap.size wk w1 := (Below.refl _ wk).grown hgrow (Nat.le_refl _) (by intro k hk; cases hk)
    exact hK _ [wk.heap.size] _ (regrown_of_below (hX.trans (hB1.mono hX.size))) hB1 (fun x hx => by rw [List.mem_singleton] at hx; omega) ⟨wk.heap.size, rfl, rfl, hX.size, hblk.congr (fun j hj => madeI hj)⟩
  case zs10 =>
    intro V G wk K hS hd hK
    refine wpOp_list 10 rfl ?_
    simp only [putAll, dstOf, List.getElem?_toArray, List.getElem?_cons_succ, List.getElem?_cons_zero, Act.put, List.setIfInBounds_toArray, List.set_cons_succ, List.set_cons_zero] at hK ⊢
    go_wp2_with fail
    exact hK _ [] _ hS (Below.refl _ _) (fun x hx => by simp at hx) ⟨rfl, rfl⟩
  case zs11 =>
    intro V G wk K hS hd hK
    have hX := below_of_regrown hS
    have h2 : G 10 = [] ∧ V 10 = .int .i64 p.ns := hd 10 (List.contains_iff_mem.1 (by kernel_rfl)) (by simp)
    refine wpOp_list 11 rfl ?_
    simp only [putAll, dstOf, List.getElem?_toArray, List.getElem?_cons_succ, List.getElem?_cons_zero, Act.put, List.setIfInBounds_toArray, List.set_cons_succ, List.set_cons_zero, h2.2] at hK ⊢
    go_wp2_with (at_make; refine wpList_make_full _ rfl _ _ 38 rfl wk.heap.size 3 i1 (.int .i64 0) 1 Try.underlying38 hj hy0 hy1 .i64 .i64 _ _ p.ns rfl rfl rfl rfl (by rw [hy2]; omega) (by unfold maxLen; omega) (Nat.le_refl _) ?_; intro w1 hown hgrow)
    obtain ⟨gq, c', hv, _, _, _, hblk⟩ := Blk.ofOwns hown (by simp)
    simp only [Value.slice.injEq, Option.some.injEq, Addr.mk.injEq, and_true] at hv
    obtain ⟨rfl, -, -⟩ := hv
    rw [Nat.mul_one] at hblk
    have hB1 : Below wk.heap.size wk w1 := (Below.refl _ wk).grown hgrow (Nat.le_refl _) (by intro k hk; cases hk)
    exact hK _ [wk.heap.size] _ (regrown_of_below (hX.trans (hB1.mono hX.size))) hB1 (fun x hx => by rw [List.mem_singleton] at hx; omega) ⟨wk.heap.size, rfl, rfl, hX.size, hblk.congr (fun j hj => madeI hj)⟩
  case zs12 =>
    intro V G wk K hS hd hK
    obtain ⟨B1, -, h1, m1, k1⟩ : ZeroAt W0.heap.size p.ns (V 3) (G 3) wk := hd 3 (List.contains_iff_mem.1 (by kernel_rfl)) (by simp)
    obtain ⟨B2, -, h2, m2, k2⟩ : ZeroAt W0.heap.size p.ns (V 7) (G 7) wk := hd 7 (List.contains_iff_mem.1 (by kernel_rfl)) (by simp)
    obtain ⟨B3, -, h3, m3, k3⟩ : ZeroAt W0.heap.size p.ns (V 11) (G 11) wk := hd 11 (List.contains_iff_mem.1 (by kernel_rfl)) (by simp)
    refine wpOp_list 12 rfl ?_
    simp only [putAll, dstOf, List.getElem?_toArray, List.getElem?_cons_succ, List.getElem?_cons_zero, Act.put, List.setIfInBounds_toArray, List.set_cons_succ, List.set_cons_zero, h1, h2, h3] at hK ⊢
    go_wp2_with fail
    exact hK _ [] _ hS (Below.refl _ _) (fun x hx => by simp at hx) ⟨B1, B2, B3, rfl, rfl, ⟨m1, k1⟩, ⟨m2, k2⟩, ⟨m3, k3⟩⟩
  case zs13 =>
    intro V G wk K hS hd hK
    have hX := below_of_regrown hS
    refine wpOp_list 13 rfl ?_
    simp only [putAll, dstOf, List.getElem?_toArray, List.getElem?_cons_succ, List.getElem?_cons_zero, Act.put, List.setIfInBounds_toArray, List.set_cons_succ, List.set_cons_zero] at hK ⊢
    go_wp2_with fail
    exact hK _ [wk.heap.size] _ (regrown_of_below (hX.alloc hX.size _)) ((Below.refl _ _).alloc (Nat.le_refl _) _) (fun x hx => by rw [List.mem_singleton] at hx; omega) ⟨wk.heap.size, rfl, rfl, hX.size, (Blk.mk' (cur := #[.slice .none 0 0, .slice .none 0 0, .slice .none 0 0, .slice .none 0 0, .slice .none 0 0, .slice .none 0 0, .slice .none 0 0]) rfl rfl).congr (fun j hj => by match j, hj with | 0, _ => rfl | 1, _ => rfl | 2, _ => rfl | 3, _ => rfl | 4, _ => rfl | 5, _ => rfl | 6, _ => rfl)⟩
  case zdone =>
    intro V G wk hS hD hA
    obtain ⟨B1, B2, B3, -, h12, ⟨m1, k1⟩, ⟨m2, k2⟩, ⟨m3, k3⟩⟩ : SumsAt W0.heap.size p.ns (V 12) (G 12) wk := hD 12 (by simp)
    obtain ⟨BX, -, h13, mX, kX⟩ : BoxAt W0.heap.size (V 13) (G 13) wk := hD 13 (by simp)
    have hX := below_of_regrown hS
    clear hS hD hA r1
    have xl := kX.lt
    have zf0 := kX.frozen 0
    have zc0 := kX.cell (j := 0) (by decide)
    have zf1 := kX.frozen 1
    have zc1 := kX.cell (j := 1) (by decide)
    have zf2 := kX.frozen 2
    have zc2 := kX.cell (j := 2) (by decide)
    have zf3 := kX.frozen 3
    have zc3 := kX.cell (j := 3) (by decide)
    have zf4 := kX.frozen 4
    have zc4 := kX.cell (j := 4) (by decide)
    have zf5 := kX.frozen 5
    have zc5 := kX.cell (j := 5) (by decide)
    have zf6 := kX.frozen 6
    have zc6 := kX.cell (j := 6) (by decide)
    simp only [putAll, dstOf, List.getElem?_toArray, List.getElem?_cons_succ, List.getElem?_cons_zero, Act.put, List.setIfInBounds_toArray, List.set_cons_succ, List.set_cons_zero, h12, h13]
    refine wpSeq_one 14 rfl ?_
    go_wp2_with fail
    have KZ := set7_blk kX (.slice .none 0 0) (.slice .none 0 0) (.slice .none 0 0) (.slice .none 0 0) (.slice (some ⟨B1, 0, none⟩) p.ns p.ns) (.slice (some ⟨B2, 0, none⟩) p.ns p.ns) (.slice (some ⟨B3, 0, none⟩) p.ns p.ns)
    have hb := set7_below hX mX (.slice .none 0 0) (.slice .none 0 0) (.slice .none 0 0) (.slice .none 0 0) (.slice (some ⟨B1, 0, none⟩) p.ns p.ns) (.slice (some ⟨B2, 0, none⟩) p.ns p.ns) (.slice (some ⟨B3, 0, none⟩) p.ns p.ns)
    have k1' := set7_other k1 (Blk.ne k1 kX (by decide)) (.slice .none 0 0) (.slice .none 0 0) (.slice .none 0 0) (.slice .none 0 0) (.slice (some ⟨B1, 0, none⟩) p.ns p.ns) (.slice (some ⟨B2, 0, none⟩) p.ns p.ns) (.slice (some ⟨B3, 0, none⟩) p.ns p.ns)
    have k2' := set7_other k2 (Blk.ne k2 kX (by decide)) (.slice .none 0 0) (.slice .none 0 0) (.slice .none 0 0) (.slice .none 0 0) (.slice (some ⟨B1, 0, none⟩) p.ns p.ns) (.slice (some ⟨B2, 0, none⟩) p.ns p.ns) (.slice (some ⟨B3, 0, none⟩) p.ns p.ns)
    have k3' := set7_other k3 (Blk.ne k3 kX (by decide)) (.slice .none 0 0) (.slice .none 0 0) (.slice .none 0 0) (.slice .none 0 0) (.slice (some ⟨B1, 0, none⟩) p.ns p.ns) (.slice (some ⟨B2, 0, none⟩) p.ns p.ns) (.slice (some ⟨B3, 0, none⟩) p.ns p.ns)
    unfold set7 at KZ hb k1' k2' k3'
    generalize (((((((wk.setCell { block := BX, off := 0 } (Value.slice none 0 0)).setCell { block := BX, off := 1 } (Value.slice none 0 0)).setCell { block := BX, off := 2 } (Value.slice none 0 0)).setCell { block := BX, off := 3 } (Value.slice none 0 0)).setCell { block := BX, off := 4 } (Value.slice (some { block := B1, off := 0 }) p.ns p.ns)).setCell { block := BX, off := 5 } (Value.slice (some { block := B2, off := 0 }) p.ns p.ns)).setCell { block := BX, off := 6 } (Value.slice (some { block := B3, off := 0 }) p.ns p.ns)) = WZ at *
    clear kX k1 k2 k3 hX zf0 zc0 zf1 zc1 zf2 zc2 zf3 zc3 zf4 zc4 zf5 zc5 zf6 zc6 xl h12 h13
    refine ⟨Late.no (regrown_of_below hb), ?_⟩
    refine NoPanic.normal ?_
    go_wp2_with fail
    have HL0 : Hid (BegL p W0.heap.size BX B1 B2 B3 0 WZ) := ⟨.slice .none 0 0, fun _ => 0, KZ, World.ownsRow_nil _ _ _ _, fun i hi => absurd hi (Nat.not_lt_zero _), k1', k2', k3'⟩
    clear KZ k1' k2' k3'
    go_loopw [4] (fun i wk => ∃ k : Nat, k ≤ p.nb ∧ i = .int .i64 k ∧ Hid (BegL p W0.heap.size BX B1 B2 B3 k wk) ∧ Below W0.heap.size W0 wk) (fun i _ => p.nb - (intOf i).toNat)
    case atStart => exact ⟨0, Nat.zero_le _, rfl, HL0, hb⟩
    case round =>
      clear HL0 hb
      obtain ⟨k, hk, rfl, HL, hB⟩ := hrel
      obtain ⟨⟨l1, d0, d1⟩, hz, hBw⟩ := HC.out wr hB
      by_cases hlt : k < p.nb
      · obtain ⟨v, G, kX, ho, gr, k1, k2, k3⟩ := HL.out
        have HG : Hid (wr.ownsRow W0.heap.size 38 1 v k ((List.range k).map fun i => Value.slice (some ⟨G i, 0, none⟩) p.ns p.ns) ∧ (∀ i, i < k → W0.heap.size ≤ G i ∧ Blk wr (G i) 3 p.ns (fun _ => .int .i64 0)) ∧ Blk wr B1 3 p.ns (fun _ => .int .i64 0) ∧ Blk wr B2 3 p.ns (fun _ => .int .i64 0) ∧ Blk wr B3 3 p.ns (fun _ => .int .i64 0)) := ⟨ho, gr, k1, k2, k3⟩
        have HX : Hid (Blk wr BX 45 7 (fun j => (#[v, .slice .none 0 0, .slice .none 0 0, .slice .none 0 0, .slice (some ⟨B1, 0, none⟩) p.ns p.ns, .slice (some ⟨B2, 0, none⟩) p.ns p.ns, .slice (some ⟨B3, 0, none⟩) p.ns p.ns] : Array Value).getD j default)) := kX
        have qk : (0 : Int) ≤ (k : Int) := by omega
        have r0 : ∀ d os, (grow (redrawn wr d) os).cell? ⟨BX, 0, none⟩ = some v := fun d os => cell_regrown (kX.cell (j := 0) (by decide)) d os
        have r1 : ∀ d os, (grow (redrawn wr d) os).cell? ⟨w.heap.size, 1, none⟩ = some (.slice p.sa p.ns p.cs) := fun d os => cell_regrown d1 d os
        clear kX ho gr k1 k2 k3 hz
        go_wp2_with fail
        refine wp_region_made5 (fun w' => ∃ p : Regrown, w' = grow (redrawn wr p.d) p.os) [0, 1, 2, 3] [4, 5, 6] [(true, 7), (true, 8), (true, 9)] (by kernel_rfl) (by kernel_rfl) (by kernel_rfl) (by kernel_rfl) (by kernel_rfl) (by kernel_rfl) (by kernel_rfl) (by kernel_rfl) (by kernel_rfl) (regrown_of_below ((Below.refl _ _).drew)) ?_
        simp only [picks, List.drop_succ_cons, List.drop_zero, List.take_succ_cons, List.take_zero, List.cons_append, List.nil_append]
        repeat (go_big_quiet_step (fail))
        refine wpQuiet_nil ?_
        refine ⟨fun j v g wk => match j with | 5 => ZeroAt wr.heap.size p.ns v g wk | 6 => OneAt wr.heap.size p.ns v g wk | _ => g = [] ∧ v = .int .i64 p.ns,
          List.forall_mem_cons.2 ⟨fun v g w w' _ h => h, List.forall_mem_cons.2 ⟨fun v g w w' hB h => ZeroAt.below h hB, List.forall_mem_cons.2 ⟨fun v g w w' hB h => OneAt.below h hB, List.forall_mem_nil _⟩⟩⟩,
          List.forall_mem_cons.2 ⟨fun v g w h => by rw [h.1]; intro x hx; simp at hx, List.forall_mem_cons.2 ⟨fun v g w h => ZeroAt.lt h, List.forall_mem_cons.2 ⟨fun v g w h => OneAt.lt h, List.forall_mem_nil _⟩⟩⟩,
          List.forall_mem_cons.2 ⟨?zt4, List.forall_mem_cons.2 ⟨?zt5, List.forall_mem_cons.2 ⟨?zt6, List.forall_mem_nil _⟩⟩⟩, ?ztdone⟩
        case zt4 =>
          intro V G wk K hS hd hK
          refine wpOp_list 4 rfl ?_
          simp only [putAll, dstOf, List.getElem?_toArray, List.getElem?_cons_succ, List.getElem?_cons_zero, Act.put, List.setIfInBounds_toArray, List.set_cons_succ, List.set_cons_zero] at hK ⊢
          go_wp2_with fail
          exact hK _ [] _ hS (Below.refl _ _) (fun x hx => by simp at hx) ⟨rfl, rfl⟩
        case zt5 =>
          intro V G wk K hS hd hK
          have hX := below_of_regrown hS
          have h2 : G 4 = [] ∧ V 4 = .int .i64 p.ns := hd 4 (List.contains_iff_mem.1 (by kernel_rfl)) (by simp)
          refine wpOp_list 5 rfl ?_
          simp only [putAll, dstOf, List.getElem?_toArray, List.getElem?_cons_succ, List.getElem?_cons_zero, Act.put, List.setIfInBounds_toArray, List.set_cons_succ, List.set_cons_zero, h2.2] at hK ⊢
          go_wp2_with (at_make; refine wpList_make_full _ rfl _ _ 38 rfl wk.heap.size 3 i1 (.int .i64 0) 1 Try.underlying38 hj hy0 hy1 .i64 .i64 _ _ p.ns rfl rfl rfl rfl (by rw [hy2]; omega) (by unfold maxLen; omega) (Nat.le_refl _) ?_; intro w1 hown hgrow)
          obtain ⟨gq, c', hv, _, _, _, hblk⟩ := Blk.ofOwns hown (by simp)
          simp only [Value.slice.injEq, Option.some.injEq, Addr.mk.injEq, and_true] at hv
          obtain ⟨rfl, -, -⟩ := hv
          rw [Nat.mul_one] at hblk
          have hB1 : Below wk.heap.size wk w1 := (Below.refl _ wk).grown hgrow (Nat.le_refl _) (by intro k hk; cases hk)
          exact hK _ [wk.heap.size] _ (regrown_of_below (hX.trans (hB1.mono hX.size))) hB1 (fun x hx => by rw [List.mem_singleton] at hx; omega) ⟨wk.heap.size, rfl, rfl, hX.size, hblk.congr (fun j hj => madeI hj)⟩
        case zt6 =>
          intro V G wk K hS hd hK
          have hX := below_of_regrown hS
          obtain ⟨R, -, h5, m5, k5⟩ : ZeroAt wr.heap.size p.ns (V 5) (G 5) wk := hd 5 (List.contains_iff_mem.1 (by kernel_rfl)) (by simp)
          refine wpOp_list 6 rfl ?_
          simp only [putAll, dstOf, List.getElem?_toArray, List.getElem?_cons_succ, List.getElem?_cons_zero, Act.put, List.setIfInBounds_toArray, List.set_cons_succ, List.set_cons_zero, h5] at hK ⊢
          go_wp2_with fail
          exact hK _ [wk.heap.size] _ (regrown_of_below (hX.alloc hX.size _)) ((Below.refl _ _).alloc (Nat.le_refl _) _) (fun x hx => by rw [List.mem_singleton] at hx; omega) ⟨wk.heap.size, R, rfl, rfl, hX.size, (Blk.mk' (cur := #[.slice (some ⟨R, 0, none⟩) p.ns p.ns]) rfl rfl).congr (fun j hj => by match j, hj with | 0, _ => rfl), m5, k5.alloc _⟩
        case ztdone =>
          intro V G' wk hS hD hA
          obtain ⟨BO, R, -, h6, m6, k6, mR, kR⟩ : OneAt wr.heap.size p.ns (V 6) (G' 6) wk := hD 6 (by simp)
          have hX := below_of_regrown hS
          clear hS hD hA r0 r1
          have ho := owns_below HG.out.1 hX
          have hBk := hB.trans (hX.mono hB.size)
          have s0 := hB.size
          have s1 := hX.size
          simp only [putAll, dstOf, List.getElem?_toArray, List.getElem?_cons_succ, List.getElem?_cons_zero, Act.put, List.setIfInBounds_toArray, List.set_cons_succ, List.set_cons_zero, h6]
          refine wpSeq_one 7 rfl ?_
          go_wp2_with (at_builtin; refine wpList_append_own _ rfl (.tmp 26) (.tmp 31) 41 rfl W0.heap.size 38 i0 (.slice none 0 0) 1 24 Try.underlying41 hi hz0 hz1 hz2 rfl (by decide) _ _ _ rfl ho ⟨BO, 0, none⟩ 1 1 [.slice (some ⟨R, 0, none⟩) p.ns p.ns] rfl rfl ?zc1 ?zc2 ?zc3 ?zc4 ?zc5 ?_)
          case zc1 =>
            intro j u hj
            match j, hj with
            | 0, hj => simp at hj; subst hj; exact k6.cell (j := 0) (by decide)
          case zc2 => intro u hu; simp at hu; subst hu; rfl
          case zc3 => unfold maxLen; omega
          case zc4 => omega
          case zc5 => omega
          intro v2 w2 hown2 hgrow2 hnil2
          have hlt2 := ho.lt
          have hB2 : Below W0.heap.size W0 w2 := hBk.grown hgrow2 (by omega) (fun q hq => (hlt2 q hq).1)
          have kX2 := grown_keep ho hgrow2 (HX.out.below hX) (by decide)
          have kR2 := grown_keep ho hgrow2 kR (by decide)
          have k12 := grown_keep ho hgrow2 (HG.out.2.2.1.below hX) (by decide)
          have k22 := grown_keep ho hgrow2 (HG.out.2.2.2.1.below hX) (by decide)
          have k32 := grown_keep ho hgrow2 (HG.out.2.2.2.2.below hX) (by decide)
          have gr2 : ∀ i, i < k → W0.heap.size ≤ G i ∧ Blk w2 (G i) 3 p.ns (fun _ => .int .i64 0) := fun i hi => ⟨(HG.out.2.1 i hi).1, grown_keep ho hgrow2 ((HG.out.2.1 i hi).2.below hX) (by decide)⟩
          clear ho hgrow2 hnil2 hlt2 kR k6 hX HG HX hBk HL
          have xl := kX2.lt
          have zf0 := kX2.frozen 0
          have zc0 := kX2.cell (j := 0) (by decide)
          have nXi : ∀ q n f, Blk w2 q 3 n f → q ≠ BX := fun q n f hq => Blk.ne hq kX2 (by decide)
          have hst := hB2.setCell (p := ⟨BX, 0, none⟩) mX v2
          have KB := kX2.set 0 v2
          have HN : Hid (BegL p W0.heap.size BX B1 B2 B3 (k + 1) (w2.setCell ⟨BX, 0, none⟩ v2)) := by
            refine ⟨v2, fun i => if i = k then R else G i, KB.congr (fun j hj => by match j, hj with | 0, _ => rfl | 1, _ => rfl | 2, _ => rfl | 3, _ => rfl | 4, _ => rfl | 5, _ => rfl | 6, _ => rfl), ?_, fun i hi => ?_, k12.other (nXi _ _ _ k12) _, k22.other (nXi _ _ _ k22) _, k32.other (nXi _ _ _ k32) _⟩
            · have e : (List.range (k + 1)).map (fun i => Value.slice (some ⟨if i = k then R else G i, 0, none⟩) p.ns p.ns) = ((List.range k).map fun i => Value.slice (some ⟨G i, 0, none⟩) p.ns p.ns) ++ [.slice (some ⟨R, 0, none⟩) p.ns p.ns] := by
                rw [List.range_succ, List.map_append]
                congr 1
                · exact List.map_congr_left fun i hi => by have := List.mem_range.1 hi; simp [show ¬ i = k by omega]
                · simp
              rw [e]
              exact owns_set hown2 kX2 (by decide) _ _
            · dsimp only
              by_cases hik : i = k
              · rw [if_pos hik]; exact ⟨by omega, kR2.other (nXi _ _ _ kR2) _⟩
              · rw [if_neg hik]; exact ⟨(gr2 i (by omega)).1, (gr2 i (by omega)).2.other (nXi _ _ _ (gr2 i (by omega)).2) _⟩
          have hv2 : ∃ g c, v2 = .slice (some ⟨g, 0, none⟩) (k + 1) c := by
            rcases hown2.2 with ⟨_, h0⟩ | ⟨g2, cap2, cur2, rfl, _⟩
            · omega
            · exact ⟨g2, cap2, rfl⟩
          clear kR2 k12 k22 k32 gr2 nXi KB hown2 kX2
          obtain ⟨g2, c2, rfl⟩ := hv2
          refine wpList_end ⟨Late.yes, ?_⟩
          refine wpSeq_one 8 rfl ?_
          go_wp2_with fail
          refine ⟨Late.yes, ?_⟩
          refine wpSeq_one 9 rfl ?_
          go_wp2_with fail
          refine ⟨Late.yes, ?_⟩
          refine NoPanic.normal ?_
          go_wp2_with fail
          go_roundw
          case rel => exact ⟨k + 1, by omega, by go_num, HN, hst⟩
          case measure => simp [intOf]; omega
      · have hkn : k = p.nb := by omega
        subst hkn
        obtain ⟨v, G, kX, ho, gr, k1, k2, k3⟩ := HL.out
        have hv : ∃ g c, v = .slice (some ⟨g, 0, none⟩) p.nb c := by
          rcases ho.2 with ⟨_, h0⟩ | ⟨g2, cap2, cur2, rfl, _⟩
          · omega
          · exact ⟨g2, cap2, rfl⟩
        obtain ⟨gg, cc, rfl⟩ := hv
        obtain ⟨g', c', hvv, hc1, hc2, hc3, hc4⟩ := Blk.ofOwns ho (by simp)
        simp only [Value.slice.injEq, Option.some.injEq, Addr.mk.injEq, and_true, true_and] at hvv
        obtain ⟨rfl, rfl⟩ := hvv
        rw [Nat.mul_one] at hc4
        have kg : Blk wr gg 38 p.nb (fun i => .slice (some ⟨G i, 0, none⟩) p.ns p.ns) := hc4.congr (fun j hj => by simp [hj])
        have HGG : Hid (W0.heap.size ≤ gg ∧ ∀ i, i < p.nb → W0.heap.size ≤ G i) := ⟨hc3, fun i hi => (gr i hi).1⟩
        have HG : Hid (Blk wr gg 38 p.nb (fun i => .slice (some ⟨G i, 0, none⟩) p.ns p.ns) ∧ (∀ i, i < p.nb → Blk wr (G i) 3 p.ns (fun _ => .int .i64 0)) ∧ Blk wr B1 3 p.ns (fun _ => .int .i64 0) ∧ Blk wr B2 3 p.ns (fun _ => .int .i64 0) ∧ Blk wr B3 3 p.ns (fun _ => .int .i64 0)) := ⟨kg, fun i hi => (gr i hi).2, k1, k2, k3⟩
        clear hc4 kg
        have HZ : Hid (Blk wr (w.heap.size + 1) 45 7 (fun _ => .slice .none 0 0)) := hz
        have xl := kX.lt
        obtain ⟨b0, b1, b2, b3, b4, b5, b6⟩ := box_cells kX
        have zl := hz.lt
        have zf0 := hz.frozen 0
        have zc0 := hz.cell (j := 0) (by decide)
        have zf1 := hz.frozen 1
        have zc1 := hz.cell (j := 1) (by decide)
        have zf2 := hz.frozen 2
        have zc2 := hz.cell (j := 2) (by decide)
        have zf3 := hz.frozen 3
        have zc3 := hz.cell (j := 3) (by decide)
        have zf4 := hz.frozen 4
        have zc4 := hz.cell (j := 4) (by decide)
        have zf5 := hz.frozen 5
        have zc5 := hz.cell (j := 5) (by decide)
        have zf6 := hz.frozen 6
        have zc6 := hz.cell (j := 6) (by decide)
        clear kX ho gr k1 k2 k3 hz HL
        go_wp2_with fail
        have KZ := set7_blk HZ.out (.slice (some ⟨gg, 0, none⟩) p.nb cc) (.slice .none 0 0) (.slice .none 0 0) (.slice .none 0 0) (.slice (some ⟨B1, 0, none⟩) p.ns p.ns) (.slice (some ⟨B2, 0, none⟩) p.ns p.ns) (.slice (some ⟨B3, 0, none⟩) p.ns p.ns)
        have hbz := set7_below (b := w.heap.size + 1) hBw (by omega) (.slice (some ⟨gg, 0, none⟩) p.nb cc) (.slice .none 0 0) (.slice .none 0 0) (.slice .none 0 0) (.slice (some ⟨B1, 0, none⟩) p.ns p.ns) (.slice (some ⟨B2, 0, none⟩) p.ns p.ns) (.slice (some ⟨B3, 0, none⟩) p.ns p.ns)
        have kon := set7_other HG.out.1 (Blk.ne HG.out.1 HZ.out (by decide)) (.slice (some ⟨gg, 0, none⟩) p.nb cc) (.slice .none 0 0) (.slice .none 0 0) (.slice .none 0 0) (.slice (some ⟨B1, 0, none⟩) p.ns p.ns) (.slice (some ⟨B2, 0, none⟩) p.ns p.ns) (.slice (some ⟨B3, 0, none⟩) p.ns p.ns)
        have krw := fun i (hi : i < p.nb) => set7_other (HG.out.2.1 i hi) (Blk.ne (HG.out.2.1 i hi) HZ.out (by decide)) (.slice (some ⟨gg, 0, none⟩) p.nb cc) (.slice .none 0 0) (.slice .none 0 0) (.slice .none 0 0) (.slice (some ⟨B1, 0, none⟩) p.ns p.ns) (.slice (some ⟨B2, 0, none⟩) p.ns p.ns) (.slice (some ⟨B3, 0, none⟩) p.ns p.ns)
        have k1' := set7_other HG.out.2.2.1 (Blk.ne HG.out.2.2.1 HZ.out (by decide)) (.slice (some ⟨gg, 0, none⟩) p.nb cc) (.slice .none 0 0) (.slice .none 0 0) (.slice .none 0 0) (.slice (some ⟨B1, 0, none⟩) p.ns p.ns) (.slice (some ⟨B2, 0, none⟩) p.ns p.ns) (.slice (some ⟨B3, 0, none⟩) p.ns p.ns)
        have k2' := set7_other HG.out.2.2.2.1 (Blk.ne HG.out.2.2.2.1 HZ.out (by decide)) (.slice (some ⟨gg, 0, none⟩) p.nb cc) (.slice .none 0 0) (.slice .none 0 0) (.slice .none 0 0) (.slice (some ⟨B1, 0, none⟩) p.ns p.ns) (.slice (some ⟨B2, 0, none⟩) p.ns p.ns) (.slice (some ⟨B3, 0, none⟩) p.ns p.ns)
        have k3' := set7_other HG.out.2.2.2.2 (Blk.ne HG.out.2.2.2.2 HZ.out (by decide)) (.slice (some ⟨gg, 0, none⟩) p.nb cc) (.slice .none 0 0) (.slice .none 0 0) (.slice .none 0 0) (.slice (some ⟨B1, 0, none⟩) p.ns p.ns) (.slice (some ⟨B2, 0, none⟩) p.ns p.ns) (.slice (some ⟨B3, 0, none⟩) p.ns p.ns)
        unfold set7 at KZ hbz kon krw k1' k2' k3'
        generalize (((((((wr.setCell { block := w.heap.size + 1, off := 0 } (Value.slice (some { block := gg, off := 0 }) p.nb cc)).setCell { block := w.heap.size + 1, off := 1 } (Value.slice none 0 0)).setCell { block := w.heap.size + 1, off := 2 } (Value.slice none 0 0)).setCell { block := w.heap.size + 1, off := 3 } (Value.slice none 0 0)).setCell { block := w.heap.size + 1, off := 4 } (Value.slice (some { block := B1, off := 0 }) p.ns p.ns)).setCell { block := w.heap.size + 1, off := 5 } (Value.slice (some { block := B2, off := 0 }) p.ns p.ns)).setCell { block := w.heap.size + 1, off := 6 } (Value.slice (some { block := B3, off := 0 }) p.ns p.ns)) = WY at *
        obtain ⟨c0, c1, c2, c3, c4, c5, c6⟩ := box_cells KZ
        refine bodyPost_ret (v := (⟨⟨some ⟨gg, 0, none⟩, p.nb, cc, fun i => ⟨some ⟨G i, 0, none⟩, p.ns, p.ns, fun _ => 0⟩⟩, ⟨none, 0, 0, fun _ => ⟨0, ⟨none, 0, 0, fun _ => ⟨0, 0, 0, 0⟩⟩⟩⟩, ⟨none, 0, 0, fun _ => ⟨0, 0, 0, 0⟩⟩, ⟨none, 0, 0, fun _ => ⟨0, 0, 0, 0⟩⟩, ⟨some ⟨B1, 0, none⟩, p.ns, p.ns, fun _ => 0⟩, ⟨some ⟨B2, 0, none⟩, p.ns, p.ns, fun _ => 0⟩, ⟨some ⟨B3, 0, none⟩, p.ns, p.ns, fun _ => 0⟩⟩ : St).val) (by simp [results, Try.results18, go_sem, St.val, c0, c1, c2, c3, c4, c5, c6]) rfl ?_
        refine ⟨_, rfl, fun w'' hsz hsm => ?_, ⟨rfl, fun i hi => ⟨rfl, fun j hj => rfl⟩, rfl, rfl, rfl, ⟨rfl, fun j hj => rfl⟩, ⟨rfl, fun j hj => rfl⟩, ⟨rfl, fun j hj => rfl⟩⟩, hbz⟩
        have q0 := HGG.out.1
        have kon := kon.same (hsm gg (by omega) kon.lt)
        refine ⟨⟨hc1, hc2, fun i hi => ?_⟩, ⟨Nat.le_refl _, Nat.zero_le _, fun i hi => absurd hi (Nat.not_lt_zero _)⟩, Hs.none _, Hs.none _, zeroRw (k1'.same (hsm B1 (by omega) k1'.lt)) ns3, zeroRw (k2'.same (hsm B2 (by omega) k2'.lt)) ns3, zeroRw (k3'.same (hsm B3 (by omega) k3'.lt)) ns3⟩
        have hi' : i < p.nb := hi
        have q1 := HGG.out.2 i hi'
        exact ⟨gg, 0, rfl, kon.lt, by rw [Nat.zero_add]; exact kon.cell hi', zeroRw ((krw i hi').same (hsm (G i) (by omega) (krw i hi').lt)) ns3⟩
end Go.Proofs.Ytbcacebifpagpab
namespace Go.Proofs.Ytbcacebifpagpab
open Go.RowKit Go.Shelf Go.Sort
set_option linter.unusedVariables false
theorem begun_same {p : Pl} {s t : St} (a : BegunS p s) (b : BegunS p t) : SameT s t := by
  obtain ⟨a1, a2, a3, a4, a5, a6, a7, a8⟩ := a
  obtain ⟨b1, b2, b3, b4, b5, b6, b7, b8⟩ := b
  refine ⟨⟨by omega, fun i hi => ?_⟩, ⟨by omega, fun i hi => absurd hi (by omega)⟩, ⟨by omega, fun j hj => absurd hj (by omega)⟩, ⟨by omega, fun j hj => absurd hj (by omega)⟩, ⟨by omega, fun j hj => ?_⟩, ⟨by omega, fun j hj => ?_⟩, ⟨by omega, fun j hj => ?_⟩⟩
  · have x := a2 i (by omega)
    have y := b2 i (by omega)
    exact ⟨by omega, fun j hj => by rw [x.2 j (by omega), y.2 j (by omega)]⟩
  · rw [a6.2 j (by omega), b6.2 j (by omega)]
  · rw [a7.2 j (by omega), b7.2 j (by omega)]
  · rw [a8.2 j (by omega), b8.2 j (by omega)]
theorem none_same {s : St} (a : NoneS s) : SameT s noneS := by
  obtain ⟨a1, a2, a3, a4, a5, a6, a7⟩ := a
  exact ⟨⟨a1, fun i hi => absurd hi (by omega)⟩, ⟨a2, fun i hi => absurd hi (by omega)⟩, ⟨a3, fun j hj => absurd hj (by omega)⟩, ⟨a4, fun j hj => absurd hj (by omega)⟩, ⟨a5, fun j hj => absurd hj (by omega)⟩, ⟨a6, fun j hj => absurd hj (by omega)⟩, ⟨a7, fun j hj => absurd hj (by omega)⟩⟩
theorem Fr.set7 {n : Nat} {w : World} {s : St} (h : Fr n w s) {b : Nat} (hb : b < n) (v0 v1 v2 v3 v4 v5 v6 : Value) : Fr n (Go.Proofs.Ytbcacebifpagpab.set7 w b v0 v1 v2 v3 v4 v5 v6) s :=
  ((((((h.set hb 0 v0).set hb 1 v1).set hb 2 v2).set hb 3 v3).set hb 4 v4).set hb 5 v5).set hb 6 v6
set_option maxRecDepth 100000 in
set_option maxHeartbeats 8000000 in
theorem StateChecks_walk (p : Pl) (s : St) (w : World) (hp : p.At w) (hs : s.At w) :
    Calls Try.prog 6 #[p.val, s.val] w fun e w' => e = .returned (.bool true) ∧ Below w.heap.size w w' := by
  obtain ⟨W0, hW, hWB, X0⟩ : ∃ W, ((w.alloc (.cells #[.slice p.ab p.nb p.cb, .slice p.sa p.ns p.cs] 40)).alloc (.cells s.cells 45)) = W ∧ Below w.heap.size w W ∧ Boxes W w.heap.size (w.heap.size + 1) p s := ⟨_, rfl, two_below _ _ _, boxes_new w p s _ _⟩
  have HC : Hid (∀ wk, Below W0.heap.size W0 wk → Boxes wk w.heap.size (w.heap.size + 1) p s ∧ p.At wk ∧ s.At wk ∧ Below w.heap.size w wk) := fun wk h => ⟨X0.below h, (hp.below hWB).below h, (hs.below hWB).below h, hWB.trans (h.mono hWB.size)⟩
  have HW : Hid ((w.alloc (.cells #[.slice p.ab p.nb p.cb, .slice p.sa p.ns p.cs] 40)).alloc (.cells #[.slice s.on.a s.on.n s.on.c, .slice s.os.a s.os.n s.os.c, .slice s.hs.a s.hs.n s.hs.c, .slice s.ms.a s.ms.n s.ms.c, .slice s.si.a s.si.n s.si.c, .slice s.so.a s.so.n s.so.c, .slice s.sf.a s.sf.n s.sf.c] 45) = W0) := hW
  clear hW X0 hp hs
  unfold Pl.val St.val
  go_enter Try.func6, Try.ntmps6
  go_wp2_with fail
  rw [HW.out]
  obtain ⟨X, hpk, hsk, hBw⟩ := HC.out W0 (Below.refl _ _)
  refine (Begin_any p W0 hpk).mono ?_
  rintro e w1 ⟨b, rfl, bat, bok, hB⟩
  clear X hpk hsk hBw HW
  obtain ⟨W2, hW, hWB2, K1⟩ : ∃ W, w1.alloc (.cells #[.slice b.on.a b.on.n b.on.c, .slice b.os.a b.os.n b.os.c, .slice b.hs.a b.hs.n b.hs.c, .slice b.ms.a b.ms.n b.ms.c, .slice b.si.a b.si.n b.si.c, .slice b.so.a b.so.n b.so.c, .slice b.sf.a b.sf.n b.sf.c] 45) = W ∧ Below w1.heap.size w1 W ∧ Blk W w1.heap.size 45 7 (fun j => b.cells.getD j default) := ⟨_, rfl, (Below.refl _ _).alloc (Nat.le_refl _) _, Blk.mk' rfl rfl⟩
  have HW : Hid (w1.alloc (.cells #[.slice b.on.a b.on.n b.on.c, .slice b.os.a b.os.n b.os.c, .slice b.hs.a b.hs.n b.hs.c, .slice b.ms.a b.ms.n b.ms.c, .slice b.si.a b.si.n b.si.c, .slice b.so.a b.so.n b.so.c, .slice b.sf.a b.sf.n b.sf.c] 45) = W2) := hW
  have bat := bat.below hWB2
  obtain ⟨⟨⟨l1, d0, d1⟩, l2, -⟩, -, -, -⟩ := HC.out w1 hB
  have hB := hB.trans (hWB2.mono hB.size)
  clear hW hWB2
  simp only [St.val]
  go_wp2_with fail
  rw [HW.out]
  obtain ⟨B1, hB1⟩ : ∃ B1, w1.heap.size = B1 := ⟨_, rfl⟩
  rw [hB1] at K1 ⊢
  clear hB1 HW l1 l2 d0 d1
  obtain ⟨X, hpk, hsk, hBw⟩ := HC.out W2 hB
  clear hsk hBw X
  refine (refCheckPlan_any p W2 hpk).mono ?_
  rintro e w2 ⟨rfl, hB2⟩
  clear hpk
  have bat := bat.below hB2
  have K1 := K1.below hB2
  have hB := hB.trans (hB2.mono hB.size)
  clear hB2
  obtain ⟨W3, hW, hWB3, K2⟩ : ∃ W, w2.alloc (.cells #[.slice .none 0 0, .slice .none 0 0, .slice .none 0 0, .slice .none 0 0, .slice .none 0 0, .slice .none 0 0, .slice .none 0 0] 45) = W ∧ Below w2.heap.size w2 W ∧ Blk W w2.heap.size 45 7 (fun _ => .slice .none 0 0) := ⟨_, rfl, (Below.refl _ _).alloc (Nat.le_refl _) _, (Blk.mk' (cur := #[.slice .none 0 0, .slice .none 0 0, .slice .none 0 0, .slice .none 0 0, .slice .none 0 0, .slice .none 0 0, .slice .none 0 0]) rfl rfl).congr (fun j hj => by match j, hj with | 0, _ => rfl | 1, _ => rfl | 2, _ => rfl | 3, _ => rfl | 4, _ => rfl | 5, _ => rfl | 6, _ => rfl)⟩
  have HW : Hid (w2.alloc (.cells #[.slice .none 0 0, .slice .none 0 0, .slice .none 0 0, .slice .none 0 0, .slice .none 0 0, .slice .none 0 0, .slice .none 0 0] 45) = W3) := hW
  have hne : B1 ≠ w2.heap.size := by have := K1.lt; omega
  have hb8 : W0.heap.size ≤ w2.heap.size := hB.size
  have HBA : Hid (∀ wk, Below w2.heap.size w2 wk → b.At wk) := fun wk h => bat.below h
  have HB2 : Hid (Below w2.heap.size w2 W3) := hWB3
  have bat := bat.below hWB3
  have K1 := K1.below hWB3
  obtain ⟨⟨⟨l1, d0, d1⟩, l2, -⟩, -, -, -⟩ := HC.out w2 hB
  have hB := hB.trans (hWB3.mono hB.size)
  obtain ⟨B8, hB8⟩ : ∃ B8, w2.heap.size = B8 := ⟨_, rfl⟩
  rw [hB8] at K2 hne hb8
  have HB8 : Hid (w2.heap.size = B8) := hB8
  clear hW hWB3 hB8
  by_cases h0 : planE p = 0
  · rw [h0]
    go_wp2_with fail
    rw [HW.out, HB8.out]
    clear HW l1 l2 d0 d1
    obtain ⟨X, hpk, hsk, hBw⟩ := HC.out W3 hB
    clear X hsk hBw
    have hl8 : B8 < W3.heap.size := K2.lt
    refine (BeginOf_any p W3 hpk h0).mono ?_
    rintro e w4 ⟨t, rfl, tat, tok, hB4⟩
    have HS : Hid (SameT b t ∧ b.os.n = 0 ∧ b.ms.n = 0) := ⟨begun_same (bok.1 h0) tok, (bok.1 h0).2.2.1, (bok.1 h0).2.2.2.2.1⟩
    have K1 := K1.below hB4
    have K2 := K2.below hB4
    have bat := bat.below hB4
    have hB := hB.trans (hB4.mono hB.size)
    have hB4' := hB4
    clear hB4 tok bok h0 hpk
    have zl := K2.lt
    have zf0 := K2.frozen 0
    have zc0 := K2.cell (j := 0) (by decide)
    have zf1 := K2.frozen 1
    have zc1 := K2.cell (j := 1) (by decide)
    have zf2 := K2.frozen 2
    have zc2 := K2.cell (j := 2) (by decide)
    have zf3 := K2.frozen 3
    have zc3 := K2.cell (j := 3) (by decide)
    have zf4 := K2.frozen 4
    have zc4 := K2.cell (j := 4) (by decide)
    have zf5 := K2.frozen 5
    have zc5 := K2.cell (j := 5) (by decide)
    have zf6 := K2.frozen 6
    have zc6 := K2.cell (j := 6) (by decide)
    simp only [St.val]
    go_wp2_with fail
    have KZ := set7_blk K2 (.slice t.on.a t.on.n t.on.c) (.slice t.os.a t.os.n t.os.c) (.slice t.hs.a t.hs.n t.hs.c) (.slice t.ms.a t.ms.n t.ms.c) (.slice t.si.a t.si.n t.si.c) (.slice t.so.a t.so.n t.so.c) (.slice t.sf.a t.sf.n t.sf.c)
    have hbz := set7_below hB hb8 (.slice t.on.a t.on.n t.on.c) (.slice t.os.a t.os.n t.os.c) (.slice t.hs.a t.hs.n t.hs.c) (.slice t.ms.a t.ms.n t.ms.c) (.slice t.si.a t.si.n t.si.c) (.slice t.so.a t.so.n t.so.c) (.slice t.sf.a t.sf.n t.sf.c)
    have K1z := set7_other K1 hne (.slice t.on.a t.on.n t.on.c) (.slice t.os.a t.os.n t.os.c) (.slice t.hs.a t.hs.n t.hs.c) (.slice t.ms.a t.ms.n t.ms.c) (.slice t.si.a t.si.n t.si.c) (.slice t.so.a t.so.n t.so.c) (.slice t.sf.a t.sf.n t.sf.c)
    have batz := HBA.out _ (set7_below (b := B8) (HB2.out.trans (hB4'.mono HB2.out.size)) (Nat.le_of_eq HB8.out) (.slice t.on.a t.on.n t.on.c) (.slice t.os.a t.os.n t.os.c) (.slice t.hs.a t.hs.n t.hs.c) (.slice t.ms.a t.ms.n t.ms.c) (.slice t.si.a t.si.n t.si.c) (.slice t.so.a t.so.n t.so.c) (.slice t.sf.a t.sf.n t.sf.c))
    have tatz := Fr.set7 tat hl8 (.slice t.on.a t.on.n t.on.c) (.slice t.os.a t.os.n t.os.c) (.slice t.hs.a t.hs.n t.hs.c) (.slice t.ms.a t.ms.n t.ms.c) (.slice t.si.a t.si.n t.si.c) (.slice t.so.a t.so.n t.so.c) (.slice t.sf.a t.sf.n t.sf.c)
    unfold set7 at KZ hbz K1z batz tatz
    generalize (((((((w4.setCell { block := B8, off := 0 } (Value.slice t.on.a t.on.n t.on.c)).setCell { block := B8, off := 1 } (Value.slice t.os.a t.os.n t.os.c)).setCell { block := B8, off := 2 } (Value.slice t.hs.a t.hs.n t.hs.c)).setCell { block := B8, off := 3 } (Value.slice t.ms.a t.ms.n t.ms.c)).setCell { block := B8, off := 4 } (Value.slice t.si.a t.si.n t.si.c)).setCell { block := B8, off := 5 } (Value.slice t.so.a t.so.n t.so.c)).setCell { block := B8, off := 6 } (Value.slice t.sf.a t.sf.n t.sf.c)) = WZ at *
    clear K1 K2 bat tat hB zl zf0 zc0 zf1 zc1 zf2 zc2 zf3 zc3 zf4 zc4 zf5 zc5 zf6 zc6
    have K1 := K1z
    have K2 := KZ
    have bat := batz
    have tat := tatz.at
    have hB := hbz
    clear K1z KZ batz tatz hbz
    obtain ⟨X, hpk, hsk, hBw⟩ := HC.out WZ hB
    obtain ⟨⟨l1, d0, d1⟩, l2, c0, c1, c2, c3, c4, c5, c6⟩ := X
    obtain ⟨m1, p0, p1, p2, p3, p4, p5, p6⟩ := Boxed.of K1
    have r0 : ∀ d os, (grow (redrawn WZ d) os).cell? ⟨w.heap.size, 0, none⟩ = some (.slice p.ab p.nb p.cb) := fun d os => cell_regrown d0 d os
    have r1 : ∀ d os, (grow (redrawn WZ d) os).cell? ⟨w.heap.size, 1, none⟩ = some (.slice p.sa p.ns p.cs) := fun d os => cell_regrown d1 d os
    have s0 : ∀ d os, (grow (redrawn WZ d) os).cell? ⟨w.heap.size + 1, 0, none⟩ = some (.slice s.on.a s.on.n s.on.c) := fun d os => cell_regrown c0 d os
    have s1 : ∀ d os, (grow (redrawn WZ d) os).cell? ⟨w.heap.size + 1, 1, none⟩ = some (.slice s.os.a s.os.n s.os.c) := fun d os => cell_regrown c1 d os
    have s2 : ∀ d os, (grow (redrawn WZ d) os).cell? ⟨w.heap.size + 1, 2, none⟩ = some (.slice s.hs.a s.hs.n s.hs.c) := fun d os => cell_regrown c2 d os
    have s3 : ∀ d os, (grow (redrawn WZ d) os).cell? ⟨w.heap.size + 1, 3, none⟩ = some (.slice s.ms.a s.ms.n s.ms.c) := fun d os => cell_regrown c3 d os
    have s4 : ∀ d os, (grow (redrawn WZ d) os).cell? ⟨w.heap.size + 1, 4, none⟩ = some (.slice s.si.a s.si.n s.si.c) := fun d os => cell_regrown c4 d os
    have s5 : ∀ d os, (grow (redrawn WZ d) os).cell? ⟨w.heap.size + 1, 5, none⟩ = some (.slice s.so.a s.so.n s.so.c) := fun d os => cell_regrown c5 d os
    have s6 : ∀ d os, (grow (redrawn WZ d) os).cell? ⟨w.heap.size + 1, 6, none⟩ = some (.slice s.sf.a s.sf.n s.sf.c) := fun d os => cell_regrown c6 d os
    have b0 : ∀ d os, (grow (redrawn WZ d) os).cell? ⟨B1, 0, none⟩ = some (.slice b.on.a b.on.n b.on.c) := fun d os => cell_regrown p0 d os
    have b1 : ∀ d os, (grow (redrawn WZ d) os).cell? ⟨B1, 1, none⟩ = some (.slice b.os.a b.os.n b.os.c) := fun d os => cell_regrown p1 d os
    have b2 : ∀ d os, (grow (redrawn WZ d) os).cell? ⟨B1, 2, none⟩ = some (.slice b.hs.a b.hs.n b.hs.c) := fun d os => cell_regrown p2 d os
    have b3 : ∀ d os, (grow (redrawn WZ d) os).cell? ⟨B1, 3, none⟩ = some (.slice b.ms.a b.ms.n b.ms.c) := fun d os => cell_regrown p3 d os
    have b4 : ∀ d os, (grow (redrawn WZ d) os).cell? ⟨B1, 4, none⟩ = some (.slice b.si.a b.si.n b.si.c) := fun d os => cell_regrown p4 d os
    have b5 : ∀ d os, (grow (redrawn WZ d) os).cell? ⟨B1, 5, none⟩ = some (.slice b.so.a b.so.n b.so.c) := fun d os => cell_regrown p5 d os
    have b6 : ∀ d os, (grow (redrawn WZ d) os).cell? ⟨B1, 6, none⟩ = some (.slice b.sf.a b.sf.n b.sf.c) := fun d os => cell_regrown p6 d os
    have t0 : ∀ d os, (grow (redrawn WZ d) os).cell? ⟨B8, 0, none⟩ = some (.slice t.on.a t.on.n t.on.c) := fun d os => cell_regrown (K2.cell (j := 0) (by decide)) d os
    have t1 : ∀ d os, (grow (redrawn WZ d) os).cell? ⟨B8, 1, none⟩ = some (.slice t.os.a t.os.n t.os.c) := fun d os => cell_regrown (K2.cell (j := 1) (by decide)) d os
    have t2 : ∀ d os, (grow (redrawn WZ d) os).cell? ⟨B8, 2, none⟩ = some (.slice t.hs.a t.hs.n t.hs.c) := fun d os => cell_regrown (K2.cell (j := 2) (by decide)) d os
    have t3 : ∀ d os, (grow (redrawn WZ d) os).cell? ⟨B8, 3, none⟩ = some (.slice t.ms.a t.ms.n t.ms.c) := fun d os => cell_regrown (K2.cell (j := 3) (by decide)) d os
    have t4 : ∀ d os, (grow (redrawn WZ d) os).cell? ⟨B8, 4, none⟩ = some (.slice t.si.a t.si.n t.si.c) := fun d os => cell_regrown (K2.cell (j := 4) (by decide)) d os
    have t5 : ∀ d os, (grow (redrawn WZ d) os).cell? ⟨B8, 5, none⟩ = some (.slice t.so.a t.so.n t.so.c) := fun d os => cell_regrown (K2.cell (j := 5) (by decide)) d os
    have t6 : ∀ d os, (grow (redrawn WZ d) os).cell? ⟨B8, 6, none⟩ = some (.slice t.sf.a t.sf.n t.sf.c) := fun d os => cell_regrown (K2.cell (j := 6) (by decide)) d os
    have HP : Hid (p.At WZ ∧ s.At WZ ∧ b.At WZ ∧ t.At WZ) := ⟨hpk, hsk, bat, tat⟩
    have hsame : Hid (∀ wk, b.At wk → t.At wk → Calls Try.prog 22 #[.agg #[.slice b.on.a b.on.n b.on.c, .slice b.os.a b.os.n b.os.c, .slice b.hs.a b.hs.n b.hs.c, .slice b.ms.a b.ms.n b.ms.c, .slice b.si.a b.si.n b.si.c, .slice b.so.a b.so.n b.so.c, .slice b.sf.a b.sf.n b.sf.c], .agg #[.slice t.on.a t.on.n t.on.c, .slice t.os.a t.os.n t.os.c, .slice t.hs.a t.hs.n t.hs.c, .slice t.ms.a t.ms.n t.ms.c, .slice t.si.a t.si.n t.si.c, .slice t.so.a t.so.n t.so.c, .slice t.sf.a t.sf.n t.sf.c]] wk fun e w' => e = .returned (.bool true) ∧ Below wk.heap.size wk w') := fun wk h1 h2 => SameStates_yes b t wk h1 h2 HS.out.1 (by rw [HS.out.2.1]; omega) (by rw [HS.out.2.2]; omega) (fun i hi => absurd hi (by rw [HS.out.2.1]; omega))
    clear hpk hsk bat tat K1 K2 l1 d0 d1 l2 c0 c1 c2 c3 c4 c5 c6 m1 p0 p1 p2 p3 p4 p5 p6
    refine wp_region_quiet_below (by kernel_rfl) (by kernel_rfl) ?_
    repeat (go_big_quiet_step (first | (go_at_call 19; exact Calls.regrown_of (stateBegun_any _)) | (go_at_call 20; exact Calls.regrown_of (stateCheck_any p s _ (HP.out.1.below (below_regrown _ _ _)) (HP.out.2.1.below (below_regrown _ _ _)))) | (go_at_call 21; exact Calls.regrown_of (refCheckState_any p s _ (HP.out.1.below (below_regrown _ _ _)) (HP.out.2.1.below (below_regrown _ _ _)))) | (go_at_call 22; exact Calls.regrown_of (hsame.out _ (HP.out.2.2.1.below (below_regrown _ _ _)) (HP.out.2.2.2.below (below_regrown _ _ _))))))
    refine wpQuiet_nil ?_
    intro _ hw'
    obtain ⟨⟨dq, osq⟩, hw''⟩ := hw'
    subst hw''
    go_wp2_with fail
    go_ret
    exact ⟨by simp, hBw.trans ((below_regrown _ _ _).mono hBw.size)⟩
  · have HS : Hid (SameT b noneS ∧ b.os.n = 0 ∧ b.ms.n = 0) := ⟨none_same (bok.2 h0), (bok.2 h0).2.1, (bok.2 h0).2.2.2.1⟩
    clear bok
    go_wp2_with fail
    rw [HW.out, HB8.out]
    clear HB8 HW l1 l2 d0 d1
    obtain ⟨X, hpk, hsk, hBw⟩ := HC.out W3 hB
    obtain ⟨⟨l1, d0, d1⟩, l2, c0, c1, c2, c3, c4, c5, c6⟩ := X
    obtain ⟨m1, p0, p1, p2, p3, p4, p5, p6⟩ := Boxed.of K1
    have r0 : ∀ d os, (grow (redrawn W3 d) os).cell? ⟨w.heap.size, 0, none⟩ = some (.slice p.ab p.nb p.cb) := fun d os => cell_regrown d0 d os
    have r1 : ∀ d os, (grow (redrawn W3 d) os).cell? ⟨w.heap.size, 1, none⟩ = some (.slice p.sa p.ns p.cs) := fun d os => cell_regrown d1 d os
    have s0 : ∀ d os, (grow (redrawn W3 d) os).cell? ⟨w.heap.size + 1, 0, none⟩ = some (.slice s.on.a s.on.n s.on.c) := fun d os => cell_regrown c0 d os
    have s1 : ∀ d os, (grow (redrawn W3 d) os).cell? ⟨w.heap.size + 1, 1, none⟩ = some (.slice s.os.a s.os.n s.os.c) := fun d os => cell_regrown c1 d os
    have s2 : ∀ d os, (grow (redrawn W3 d) os).cell? ⟨w.heap.size + 1, 2, none⟩ = some (.slice s.hs.a s.hs.n s.hs.c) := fun d os => cell_regrown c2 d os
    have s3 : ∀ d os, (grow (redrawn W3 d) os).cell? ⟨w.heap.size + 1, 3, none⟩ = some (.slice s.ms.a s.ms.n s.ms.c) := fun d os => cell_regrown c3 d os
    have s4 : ∀ d os, (grow (redrawn W3 d) os).cell? ⟨w.heap.size + 1, 4, none⟩ = some (.slice s.si.a s.si.n s.si.c) := fun d os => cell_regrown c4 d os
    have s5 : ∀ d os, (grow (redrawn W3 d) os).cell? ⟨w.heap.size + 1, 5, none⟩ = some (.slice s.so.a s.so.n s.so.c) := fun d os => cell_regrown c5 d os
    have s6 : ∀ d os, (grow (redrawn W3 d) os).cell? ⟨w.heap.size + 1, 6, none⟩ = some (.slice s.sf.a s.sf.n s.sf.c) := fun d os => cell_regrown c6 d os
    have b0 : ∀ d os, (grow (redrawn W3 d) os).cell? ⟨B1, 0, none⟩ = some (.slice b.on.a b.on.n b.on.c) := fun d os => cell_regrown p0 d os
    have b1 : ∀ d os, (grow (redrawn W3 d) os).cell? ⟨B1, 1, none⟩ = some (.slice b.os.a b.os.n b.os.c) := fun d os => cell_regrown p1 d os
    have b2 : ∀ d os, (grow (redrawn W3 d) os).cell? ⟨B1, 2, none⟩ = some (.slice b.hs.a b.hs.n b.hs.c) := fun d os => cell_regrown p2 d os
    have b3 : ∀ d os, (grow (redrawn W3 d) os).cell? ⟨B1, 3, none⟩ = some (.slice b.ms.a b.ms.n b.ms.c) := fun d os => cell_regrown p3 d os
    have b4 : ∀ d os, (grow (redrawn W3 d) os).cell? ⟨B1, 4, none⟩ = some (.slice b.si.a b.si.n b.si.c) := fun d os => cell_regrown p4 d os
    have b5 : ∀ d os, (grow (redrawn W3 d) os).cell? ⟨B1, 5, none⟩ = some (.slice b.so.a b.so.n b.so.c) := fun d os => cell_regrown p5 d os
    have b6 : ∀ d os, (grow (redrawn W3 d) os).cell? ⟨B1, 6, none⟩ = some (.slice b.sf.a b.sf.n b.sf.c) := fun d os => cell_regrown p6 d os
    have t0 : ∀ d os, (grow (redrawn W3 d) os).cell? ⟨B8, 0, none⟩ = some (.slice none 0 0) := fun d os => cell_regrown (K2.cell (j := 0) (by decide)) d os
    have t1 : ∀ d os, (grow (redrawn W3 d) os).cell? ⟨B8, 1, none⟩ = some (.slice none 0 0) := fun d os => cell_regrown (K2.cell (j := 1) (by decide)) d os
    have t2 : ∀ d os, (grow (redrawn W3 d) os).cell? ⟨B8, 2, none⟩ = some (.slice none 0 0) := fun d os => cell_regrown (K2.cell (j := 2) (by decide)) d os
    have t3 : ∀ d os, (grow (redrawn W3 d) os).cell? ⟨B8, 3, none⟩ = some (.slice none 0 0) := fun d os => cell_regrown (K2.cell (j := 3) (by decide)) d os
    have t4 : ∀ d os, (grow (redrawn W3 d) os).cell? ⟨B8, 4, none⟩ = some (.slice none 0 0) := fun d os => cell_regrown (K2.cell (j := 4) (by decide)) d os
    have t5 : ∀ d os, (grow (redrawn W3 d) os).cell? ⟨B8, 5, none⟩ = some (.slice none 0 0) := fun d os => cell_regrown (K2.cell (j := 5) (by decide)) d os
    have t6 : ∀ d os, (grow (redrawn W3 d) os).cell? ⟨B8, 6, none⟩ = some (.slice none 0 0) := fun d os => cell_regrown (K2.cell (j := 6) (by decide)) d os
    have HP : Hid (p.At W3 ∧ s.At W3 ∧ b.At W3 ∧ noneS.At W3) := ⟨hpk, hsk, bat, noneS_at _⟩
    have hsame : Hid (∀ wk, b.At wk → noneS.At wk → Calls Try.prog 22 #[.agg #[.slice b.on.a b.on.n b.on.c, .slice b.os.a b.os.n b.os.c, .slice b.hs.a b.hs.n b.hs.c, .slice b.ms.a b.ms.n b.ms.c, .slice b.si.a b.si.n b.si.c, .slice b.so.a b.so.n b.so.c, .slice b.sf.a b.sf.n b.sf.c], .agg #[.slice none 0 0, .slice none 0 0, .slice none 0 0, .slice none 0 0, .slice none 0 0, .slice none 0 0, .slice none 0 0]] wk fun e w' => e = .returned (.bool true) ∧ Below wk.heap.size wk w') := fun wk h1 h2 => SameStates_yes b noneS wk h1 h2 HS.out.1 (by rw [HS.out.2.1]; omega) (by rw [HS.out.2.2]; omega) (fun i hi => absurd hi (by rw [HS.out.2.1]; omega))
    clear hpk hsk bat  K1 K2 l1 d0 d1 l2 c0 c1 c2 c3 c4 c5 c6 m1 p0 p1 p2 p3 p4 p5 p6
    refine wp_region_quiet_below (by kernel_rfl) (by kernel_rfl) ?_
    repeat (go_big_quiet_step (first | (go_at_call 19; exact Calls.regrown_of (stateBegun_any _)) | (go_at_call 20; exact Calls.regrown_of (stateCheck_any p s _ (HP.out.1.below (below_regrown _ _ _)) (HP.out.2.1.below (below_regrown _ _ _)))) | (go_at_call 21; exact Calls.regrown_of (refCheckState_any p s _ (HP.out.1.below (below_regrown _ _ _)) (HP.out.2.1.below (below_regrown _ _ _)))) | (go_at_call 22; exact Calls.regrown_of (hsame.out _ (HP.out.2.2.1.below (below_regrown _ _ _)) (HP.out.2.2.2.below (below_regrown _ _ _))))))
    refine wpQuiet_nil ?_
    intro _ hw'
    obtain ⟨⟨dq, osq⟩, hw''⟩ := hw'
    subst hw''
    go_wp2_with fail
    go_ret
    exact ⟨by simp, hBw.trans ((below_regrown _ _ _).mono hBw.size)⟩
end Go.Proofs.Ytbcacebifpagpab
namespace Go.Proofs.Ytbcacebifpagpab
open Go.ChangeShapes Go.WideShapes Go.ChangeAt Go.RowKit Go.Joins Go.Deep
set_option linter.unusedVariables false
set_option maxRecDepth 100000
theorem own : ownKnob Try.prog.godebug = none := by kernel_rfl
theorem laidOut : laidOutB Try.prog = true := by kernel_rfl
theorem cellsInt : Try.prog.cellsOf 3 = 1 := by kernel_rfl
theorem cellsInts : Try.prog.cellsOf 38 = 1 := by kernel_rfl
theorem cellsBin : Try.prog.cellsOf 71 = 4 := by kernel_rfl
theorem cellsPlan : Try.prog.cellsOf 40 = 2 := by kernel_rfl
theorem cellsBool : Try.prog.cellsOf 4 = 1 := by kernel_rfl
section
variable {H : Type} {enc : TypeId × Value → H} {w : World} {held : Bool} {spare : Nat → Bool}
theorem addrOf {a : Addr} {i : Nat} {v : Value} (h : w.cell? (a.add i) = some v) (h0 : ∃ v0, w.cell? a = some v0) : ∃ b o, a = ⟨b, o, none⟩ ∧ b < w.heap.size ∧ w.cell? ⟨b, o + i, none⟩ = some v := by
  obtain ⟨b, off, spot⟩ := a
  obtain ⟨v0, h0⟩ := h0
  have hspot : spot = none := World.cell?_spot h0
  subst hspot
  refine ⟨b, off, rfl, World.block_lt_of_cell? w _ h0, ?_⟩
  rw [← Go.WideShapes.add_plain]
  exact h
theorem readInts {fuel : Nat} {cs : List Value} {x : DataW H × List MemPlace} (h : DataW.trod enc Try.prog w 0 spare held fuel 38 cs = some x) : ∃ r : Rw, cs = [r.val] ∧ r.At w := by
  rcases open_slice1 Try.underlying38 cellsInt h with ⟨rfl, _⟩ | ⟨a, len, cap, m, n, V, D, Pl, rfl, hb, hl, hm, hmm, _, hx⟩
  · exact ⟨⟨none, 0, 0, fun _ => 0⟩, rfl, Nat.le_refl _, Nat.zero_le _, fun i hi => absurd hi (Nat.not_lt_zero _)⟩
  · have hlm : len ≤ m := by rw [hmm]; split <;> omega
    obtain ⟨z, hz⟩ := choose_lt (α := Int) (n := len) (p := fun i y => V i = .int .i64 y) (fun i hi => by
      obtain ⟨y, hy, _⟩ := DataW.trod_int Try.underlying3 (hx i (by omega)).2
      simp only [List.cons.injEq, and_true] at hy
      exact ⟨y, hy⟩)
    refine ⟨⟨some a, len, cap, z⟩, rfl, hl, hm, fun i hi => ?_⟩
    have hi' : i < len := hi
    have h0 : ∃ v0, w.cell? a = some v0 := ⟨_, by have := (hx 0 (by omega)).1; simpa [Addr.add] using this⟩
    obtain ⟨b, o, rfl, hb', hc⟩ := addrOf (hx i (by omega)).1 h0
    exact ⟨b, o, rfl, hb', by rw [hc, hz i hi']⟩
theorem readRows {fuel : Nat} {cs : List Value} {x : DataW H × List MemPlace} (h : DataW.trod enc Try.prog w 0 spare held fuel 41 cs = some x) : ∃ s : Sh, cs = [s.val] ∧ s.At w := by
  rcases open_slice1 Try.underlying41 cellsInts h with ⟨rfl, _⟩ | ⟨a, len, cap, m, n, V, D, Pl, rfl, hb, hl, hm, hmm, _, hx⟩
  · exact ⟨⟨none, 0, 0, fun _ => ⟨none, 0, 0, fun _ => 0⟩⟩, rfl, Nat.le_refl _, Nat.zero_le _, fun i hi => absurd hi (Nat.not_lt_zero _)⟩
  · have hlm : len ≤ m := by rw [hmm]; split <;> omega
    haveI : Inhabited Rw := ⟨⟨none, 0, 0, fun _ => 0⟩⟩
    obtain ⟨z, hz⟩ := choose_lt (α := Rw) (n := len) (p := fun i y => V i = y.val ∧ y.At w) (fun i hi => by
      obtain ⟨y, hy, hat⟩ := readInts (hx i (by omega)).2
      simp only [List.cons.injEq, and_true] at hy
      exact ⟨y, hy, hat⟩)
    refine ⟨⟨some a, len, cap, z⟩, rfl, hl, hm, fun i hi => ?_⟩
    have hi' : i < len := hi
    have h0 : ∃ v0, w.cell? a = some v0 := ⟨_, by have := (hx 0 (by omega)).1; simpa [Addr.add] using this⟩
    obtain ⟨b, o, rfl, hb', hc⟩ := addrOf (hx i (by omega)).1 h0
    exact ⟨b, o, rfl, hb', by rw [hc, (hz i hi').1]; rfl, (hz i hi').2⟩
theorem readBin {fuel : Nat} {c0 c1 c2 c3 : Value} {x : DataW H × List MemPlace} (h : DataW.trod enc Try.prog w 0 spare held fuel 71 [c0, c1, c2, c3] = some x) : ∃ y : Bin, c0 = .bool y.front ∧ c1 = .int .i64 y.room ∧ c2 = .int .i64 y.low ∧ c3 = .int .i64 y.high := by
  obtain ⟨y0, y1, y2, y3, n, hx, hl, h0, h1, h2, h3⟩ := trod_struct4 Try.underlying71 h
  simp only [cellsBool, cellsInt, List.drop_succ_cons, List.drop_zero, List.take_succ_cons, List.take_zero] at h0 h1 h2 h3
  obtain ⟨b, e0, _⟩ := DataW.trod_bool Try.underlying4 h0
  obtain ⟨n1, e1, _⟩ := DataW.trod_int Try.underlying3 h1
  obtain ⟨n2, e2, _⟩ := DataW.trod_int Try.underlying3 h2
  obtain ⟨n3, e3, _⟩ := DataW.trod_int Try.underlying3 h3
  simp only [List.cons.injEq, and_true] at e0 e1 e2 e3
  exact ⟨⟨b, n1, n2, n3⟩, e0, e1, e2, e3⟩
theorem cells4 {base : Nat} {a : Addr} {cs : List Value} (h : w.cells? base a 4 = some cs) : ∃ c0 c1 c2 c3, cs = [c0, c1, c2, c3] ∧ w.cell? a = some c0 ∧ w.cell? (a.add 1) = some c1 ∧ w.cell? (a.add 2) = some c2 ∧ w.cell? (a.add 3) = some c3 := by
  obtain ⟨_, hlen, hc⟩ := World.cells?_some h
  match cs, hlen with
  | [c0, c1, c2, c3], _ =>
    refine ⟨c0, c1, c2, c3, rfl, ?_, ?_, ?_, ?_⟩
    · simpa [Addr.add] using hc 0 (by decide)
    · simpa using hc 1 (by decide)
    · simpa using hc 2 (by decide)
    · simpa using hc 3 (by decide)
theorem readBins {fuel : Nat} {cs : List Value} {x : DataW H × List MemPlace} (h : DataW.trod enc Try.prog w 0 spare held fuel 37 cs = some x) : ∃ a n c z, cs = [.slice a n c] ∧ n ≤ c ∧ c ≤ maxLen ∧ BinsAt w a n z := by
  rcases open_slice Try.underlying37 h with ⟨rfl, _⟩ | ⟨a, len, cap, m, n, D, Pl, rfl, hb, hl, hm, hmm, _, hx⟩
  · exact ⟨none, 0, 0, fun _ => ⟨false, 0, 0, 0⟩, rfl, Nat.le_refl _, Nat.zero_le _, fun i hi => absurd hi (Nat.not_lt_zero _)⟩
  · have hlm : len ≤ m := by rw [hmm]; split <;> omega
    rw [cellsBin] at hx
    haveI : Inhabited Bin := ⟨⟨false, 0, 0, 0⟩⟩
    obtain ⟨z, hz⟩ := choose_lt (α := Bin) (n := len) (p := fun i y => w.cell? (a.add (i * 4)) = some (.bool y.front) ∧ w.cell? (a.add (i * 4 + 1)) = some (.int .i64 y.room) ∧ w.cell? (a.add (i * 4 + 2)) = some (.int .i64 y.low) ∧ w.cell? (a.add (i * 4 + 3)) = some (.int .i64 y.high)) (fun i hi => by
      obtain ⟨cs', hc, ht⟩ := hx i (by omega)
      obtain ⟨c0, c1, c2, c3, rfl, k0, k1, k2, k3⟩ := cells4 hc
      obtain ⟨y, rfl, rfl, rfl, rfl⟩ := readBin ht
      rw [add_add] at k1 k2 k3
      exact ⟨y, k0, k1, k2, k3⟩)
    refine ⟨some a, len, cap, z, rfl, hl, hm, fun i hi => ?_⟩
    have h0 : ∃ v0, w.cell? a = some v0 := ⟨_, by have := (hz 0 (by omega)).1; simpa [Addr.add] using this⟩
    obtain ⟨k0, k1, k2, k3⟩ := hz i hi
    obtain ⟨b, o, rfl, hb', e0⟩ := addrOf k0 h0
    rw [Go.WideShapes.add_plain] at k1 k2 k3
    exact ⟨b, o, rfl, hb', e0, by rw [Nat.add_assoc]; exact k1, by rw [Nat.add_assoc]; exact k2, by rw [Nat.add_assoc]; exact k3⟩
theorem openPlan {r : Reach} {b0 : Nat} {v : Value} {d : DataW H} {ps : List MemPlace} (hv : Value.okWide Try.prog w r b0 40 v) (h : DataW.Trod enc Try.prog w 0 spare held 40 v d ps) : ∃ p : Pl, v = p.val ∧ p.At w := by
  obtain ⟨c0, c1, y0, y1, m, rfl, rfl, rfl, hy0, hy1⟩ := open_agg2 Try.underlying40 (by kernel_rfl) cellsPlan hv h
  obtain ⟨a, n, c, z, e0, h1, h2, h3⟩ := readBins hy0
  obtain ⟨rr, e1, hr⟩ := readInts hy1
  simp only [List.cons.injEq, and_true] at e0 e1
  subst e0 e1
  exact ⟨⟨a, n, c, z, rr.a, rr.n, rr.c, rr.z⟩, rfl, h1, h2, h3, hr.le, hr.cap, hr.ints⟩
end
end Go.Proofs.Ytbcacebifpagpab
namespace Go.Proofs.Ytbcacebifpagpab
open Go.ChangeShapes Go.WideShapes Go.ChangeAt Go.RowKit Go.Joins Go.Deep
set_option linter.unusedVariables false
set_option maxRecDepth 100000
namespace HoldsFrames
theorem own : ownKnob Try.prog.godebug = none := by kernel_rfl
theorem laidOut : laidOutB Try.prog = true := by kernel_rfl
theorem cellsInt : Try.prog.cellsOf 3 = 1 := by kernel_rfl
theorem cellsHold : Try.prog.cellsOf 24 = 4 := by kernel_rfl
section
variable {H : Type} {enc : TypeId × Value → H} {w : World} {held : Bool} {spare : Nat → Bool}
theorem addrOf {a : Addr} {i : Nat} {v : Value} (h : w.cell? (a.add i) = some v) (h0 : ∃ v0, w.cell? a = some v0) : ∃ b o, a = ⟨b, o, none⟩ ∧ b < w.heap.size ∧ w.cell? ⟨b, o + i, none⟩ = some v := by
  obtain ⟨b, off, spot⟩ := a
  obtain ⟨v0, h0⟩ := h0
  have hspot : spot = none := World.cell?_spot h0
  subst hspot
  refine ⟨b, off, rfl, World.block_lt_of_cell? w _ h0, ?_⟩
  rw [← Go.WideShapes.add_plain]
  exact h
theorem cells4 {base : Nat} {a : Addr} {cs : List Value} (h : w.cells? base a 4 = some cs) : ∃ c0 c1 c2 c3, cs = [c0, c1, c2, c3] ∧ w.cell? a = some c0 ∧ w.cell? (a.add 1) = some c1 ∧ w.cell? (a.add 2) = some c2 ∧ w.cell? (a.add 3) = some c3 := by
  obtain ⟨_, hlen, hc⟩ := World.cells?_some h
  match cs, hlen with
  | [c0, c1, c2, c3], _ =>
    refine ⟨c0, c1, c2, c3, rfl, ?_, ?_, ?_, ?_⟩
    · simpa [Addr.add] using hc 0 (by decide)
    · simpa using hc 1 (by decide)
    · simpa using hc 2 (by decide)
    · simpa using hc 3 (by decide)
theorem readHold {fuel : Nat} {c0 c1 c2 c3 : Value} {x : DataW H × List MemPlace} (h : DataW.trod enc Try.prog w 0 spare held fuel 24 [c0, c1, c2, c3] = some x) : ∃ y : Hd, c0 = .int .i64 y.o ∧ c1 = .int .i64 y.l ∧ c2 = .int .i64 y.b ∧ c3 = .int .i64 y.n := by
  obtain ⟨y0, y1, y2, y3, n, hx, hl, h0, h1, h2, h3⟩ := trod_struct4 Try.underlying24 h
  simp only [cellsInt, List.drop_succ_cons, List.drop_zero, List.take_succ_cons, List.take_zero] at h0 h1 h2 h3
  obtain ⟨n0, e0, _⟩ := DataW.trod_int Try.underlying3 h0
  obtain ⟨n1, e1, _⟩ := DataW.trod_int Try.underlying3 h1
  obtain ⟨n2, e2, _⟩ := DataW.trod_int Try.underlying3 h2
  obtain ⟨n3, e3, _⟩ := DataW.trod_int Try.underlying3 h3
  simp only [List.cons.injEq, and_true] at e0 e1 e2 e3
  exact ⟨⟨n0, n1, n2, n3⟩, e0, e1, e2, e3⟩
theorem readHolds {fuel : Nat} {cs : List Value} {x : DataW H × List MemPlace} (h : DataW.trod enc Try.prog w 0 spare held fuel 22 cs = some x) : ∃ s : Hs, cs = [s.val] ∧ s.At w := by
  rcases open_slice Try.underlying22 h with ⟨rfl, _⟩ | ⟨a, len, cap, m, n, D, Pl, rfl, hb, hl, hm, hmm, _, hx⟩
  · exact ⟨⟨none, 0, 0, fun _ => ⟨0, 0, 0, 0⟩⟩, rfl, Nat.le_refl _, Nat.zero_le _, fun i hi => absurd hi (Nat.not_lt_zero _), fun _ => rfl⟩
  · have hlm : len ≤ m := by rw [hmm]; split <;> omega
    rw [cellsHold] at hx
    haveI : Inhabited Hd := ⟨⟨0, 0, 0, 0⟩⟩
    obtain ⟨z, hz⟩ := choose_lt (α := Hd) (n := len) (p := fun i y => w.cell? (a.add (i * 4)) = some (.int .i64 y.o) ∧ w.cell? (a.add (i * 4 + 1)) = some (.int .i64 y.l) ∧ w.cell? (a.add (i * 4 + 2)) = some (.int .i64 y.b) ∧ w.cell? (a.add (i * 4 + 3)) = some (.int .i64 y.n)) (fun i hi => by
      obtain ⟨cs', hc, ht⟩ := hx i (by omega)
      obtain ⟨c0, c1, c2, c3, rfl, k0, k1, k2, k3⟩ := cells4 hc
      obtain ⟨y, rfl, rfl, rfl, rfl⟩ := readHold ht
      rw [add_add] at k1 k2 k3
      exact ⟨y, k0, k1, k2, k3⟩)
    refine ⟨⟨some a, len, cap, z⟩, rfl, hl, hm, fun i hi => ?_, fun h => by cases h⟩
    have hi' : i < len := hi
    have h0 : ∃ v0, w.cell? a = some v0 := ⟨_, by have := (hz 0 (by omega)).1; simpa [Addr.add] using this⟩
    obtain ⟨k0, k1, k2, k3⟩ := hz i hi'
    obtain ⟨b, o, rfl, hb', e0⟩ := addrOf k0 h0
    rw [Go.WideShapes.add_plain] at k1 k2 k3
    exact ⟨b, o, rfl, hb', e0, by rw [Nat.add_assoc]; exact k1, by rw [Nat.add_assoc]; exact k2, by rw [Nat.add_assoc]; exact k3⟩
end
end HoldsFrames
end Go.Proofs.Ytbcacebifpagpab
namespace Go.Proofs.Ytbcacebifpagpab
open Go.ChangeShapes Go.WideShapes Go.ChangeAt Go.RowKit Go.Joins Go.Deep
set_option linter.unusedVariables false
set_option maxRecDepth 100000
theorem cellsLine : Try.prog.cellsOf 82 = 4 := by kernel_rfl
theorem cellsMove : Try.prog.cellsOf 84 = 4 := by kernel_rfl
theorem cellsOrder : Try.prog.cellsOf 76 = 2 := by kernel_rfl
theorem cellsState : Try.prog.cellsOf 45 = 7 := by kernel_rfl
theorem cellsLines : Try.prog.cellsOf 74 = 1 := by kernel_rfl
theorem cellsMoves : Try.prog.cellsOf 43 = 1 := by kernel_rfl
theorem cellsOrders : Try.prog.cellsOf 42 = 1 := by kernel_rfl
theorem cellsHolds : Try.prog.cellsOf 22 = 1 := by kernel_rfl
theorem cellsRows : Try.prog.cellsOf 41 = 1 := by kernel_rfl
section
variable {H : Type} {enc : TypeId × Value → H} {w : World} {held : Bool} {spare : Nat → Bool}
theorem readLine {fuel : Nat} {c0 c1 c2 c3 : Value} {x : DataW H × List MemPlace} (h : DataW.trod enc Try.prog w 0 spare held fuel 82 [c0, c1, c2, c3] = some x) : ∃ y : Hd, c0 = .int .i64 y.o ∧ c1 = .int .i64 y.l ∧ c2 = .int .i64 y.b ∧ c3 = .int .i64 y.n := by
  obtain ⟨y0, y1, y2, y3, n, hx, hl, h0, h1, h2, h3⟩ := trod_struct4 Try.underlying82 h
  simp only [cellsInt, List.drop_succ_cons, List.drop_zero, List.take_succ_cons, List.take_zero] at h0 h1 h2 h3
  obtain ⟨n0, e0, _⟩ := DataW.trod_int Try.underlying3 h0
  obtain ⟨n1, e1, _⟩ := DataW.trod_int Try.underlying3 h1
  obtain ⟨n2, e2, _⟩ := DataW.trod_int Try.underlying3 h2
  obtain ⟨n3, e3, _⟩ := DataW.trod_int Try.underlying3 h3
  simp only [List.cons.injEq, and_true] at e0 e1 e2 e3
  exact ⟨⟨n0, n1, n2, n3⟩, e0, e1, e2, e3⟩
theorem readLines {fuel : Nat} {cs : List Value} {x : DataW H × List MemPlace} (h : DataW.trod enc Try.prog w 0 spare held fuel 74 cs = some x) : ∃ s : Hs, cs = [s.val] ∧ s.At w := by
  rcases open_slice Try.underlying74 h with ⟨rfl, _⟩ | ⟨a, len, cap, m, n, D, Pl, rfl, hb, hl, hm, hmm, _, hx⟩
  · exact ⟨⟨none, 0, 0, fun _ => ⟨0, 0, 0, 0⟩⟩, rfl, Nat.le_refl _, Nat.zero_le _, fun i hi => absurd hi (Nat.not_lt_zero _), fun _ => rfl⟩
  · have hlm : len ≤ m := by rw [hmm]; split <;> omega
    rw [cellsLine] at hx
    haveI : Inhabited Hd := ⟨⟨0, 0, 0, 0⟩⟩
    obtain ⟨z, hz⟩ := choose_lt (α := Hd) (n := len) (p := fun i y => w.cell? (a.add (i * 4)) = some (.int .i64 y.o) ∧ w.cell? (a.add (i * 4 + 1)) = some (.int .i64 y.l) ∧ w.cell? (a.add (i * 4 + 2)) = some (.int .i64 y.b) ∧ w.cell? (a.add (i * 4 + 3)) = some (.int .i64 y.n)) (fun i hi => by
      obtain ⟨cs', hc, ht⟩ := hx i (by omega)
      obtain ⟨c0, c1, c2, c3, rfl, k0, k1, k2, k3⟩ := cells4 hc
      obtain ⟨y, rfl, rfl, rfl, rfl⟩ := readLine ht
      rw [add_add] at k1 k2 k3
      exact ⟨y, k0, k1, k2, k3⟩)
    refine ⟨⟨some a, len, cap, z⟩, rfl, hl, hm, fun i hi => ?_, fun h => by cases h⟩
    have hi' : i < len := hi
    have h0 : ∃ v0, w.cell? a = some v0 := ⟨_, by have := (hz 0 (by omega)).1; simpa [Addr.add] using this⟩
    obtain ⟨k0, k1, k2, k3⟩ := hz i hi'
    obtain ⟨b, o, rfl, hb', e0⟩ := addrOf k0 h0
    rw [Go.WideShapes.add_plain] at k1 k2 k3
    exact ⟨b, o, rfl, hb', e0, by rw [Nat.add_assoc]; exact k1, by rw [Nat.add_assoc]; exact k2, by rw [Nat.add_assoc]; exact k3⟩
theorem readMove {fuel : Nat} {c0 c1 c2 c3 : Value} {x : DataW H × List MemPlace} (h : DataW.trod enc Try.prog w 0 spare held fuel 84 [c0, c1, c2, c3] = some x) : ∃ y : Hd, c0 = .int .i64 y.o ∧ c1 = .int .i64 y.l ∧ c2 = .int .i64 y.b ∧ c3 = .int .i64 y.n := by
  obtain ⟨y0, y1, y2, y3, n, hx, hl, h0, h1, h2, h3⟩ := trod_struct4 Try.underlying84 h
  simp only [cellsInt, List.drop_succ_cons, List.drop_zero, List.take_succ_cons, List.take_zero] at h0 h1 h2 h3
  obtain ⟨n0, e0, _⟩ := DataW.trod_int Try.underlying3 h0
  obtain ⟨n1, e1, _⟩ := DataW.trod_int Try.underlying3 h1
  obtain ⟨n2, e2, _⟩ := DataW.trod_int Try.underlying3 h2
  obtain ⟨n3, e3, _⟩ := DataW.trod_int Try.underlying3 h3
  simp only [List.cons.injEq, and_true] at e0 e1 e2 e3
  exact ⟨⟨n0, n1, n2, n3⟩, e0, e1, e2, e3⟩
theorem readMoves {fuel : Nat} {cs : List Value} {x : DataW H × List MemPlace} (h : DataW.trod enc Try.prog w 0 spare held fuel 43 cs = some x) : ∃ s : Hs, cs = [s.val] ∧ s.At w := by
  rcases open_slice Try.underlying43 h with ⟨rfl, _⟩ | ⟨a, len, cap, m, n, D, Pl, rfl, hb, hl, hm, hmm, _, hx⟩
  · exact ⟨⟨none, 0, 0, fun _ => ⟨0, 0, 0, 0⟩⟩, rfl, Nat.le_refl _, Nat.zero_le _, fun i hi => absurd hi (Nat.not_lt_zero _), fun _ => rfl⟩
  · have hlm : len ≤ m := by rw [hmm]; split <;> omega
    rw [cellsMove] at hx
    haveI : Inhabited Hd := ⟨⟨0, 0, 0, 0⟩⟩
    obtain ⟨z, hz⟩ := choose_lt (α := Hd) (n := len) (p := fun i y => w.cell? (a.add (i * 4)) = some (.int .i64 y.o) ∧ w.cell? (a.add (i * 4 + 1)) = some (.int .i64 y.l) ∧ w.cell? (a.add (i * 4 + 2)) = some (.int .i64 y.b) ∧ w.cell? (a.add (i * 4 + 3)) = some (.int .i64 y.n)) (fun i hi => by
      obtain ⟨cs', hc, ht⟩ := hx i (by omega)
      obtain ⟨c0, c1, c2, c3, rfl, k0, k1, k2, k3⟩ := cells4 hc
      obtain ⟨y, rfl, rfl, rfl, rfl⟩ := readMove ht
      rw [add_add] at k1 k2 k3
      exact ⟨y, k0, k1, k2, k3⟩)
    refine ⟨⟨some a, len, cap, z⟩, rfl, hl, hm, fun i hi => ?_, fun h => by cases h⟩
    have hi' : i < len := hi
    have h0 : ∃ v0, w.cell? a = some v0 := ⟨_, by have := (hz 0 (by omega)).1; simpa [Addr.add] using this⟩
    obtain ⟨k0, k1, k2, k3⟩ := hz i hi'
    obtain ⟨b, o, rfl, hb', e0⟩ := addrOf k0 h0
    rw [Go.WideShapes.add_plain] at k1 k2 k3
    exact ⟨b, o, rfl, hb', e0, by rw [Nat.add_assoc]; exact k1, by rw [Nat.add_assoc]; exact k2, by rw [Nat.add_assoc]; exact k3⟩
theorem cells2 {base : Nat} {a : Addr} {cs : List Value} (h : w.cells? base a 2 = some cs) : ∃ c0 c1, cs = [c0, c1] ∧ w.cell? a = some c0 ∧ w.cell? (a.add 1) = some c1 := by
  obtain ⟨_, hlen, hc⟩ := World.cells?_some h
  match cs, hlen with
  | [c0, c1], _ =>
    refine ⟨c0, c1, rfl, ?_, ?_⟩
    · simpa [Addr.add] using hc 0 (by decide)
    · simpa using hc 1 (by decide)
theorem readOrder {fuel : Nat} {c0 c1 : Value} {x : DataW H × List MemPlace} (h : DataW.trod enc Try.prog w 0 spare held fuel 76 [c0, c1] = some x) : ∃ y : Od, c0 = .int .i64 y.k ∧ c1 = .slice y.ls.a y.ls.n y.ls.c ∧ y.ls.At w := by
  obtain ⟨y0, y1, n, hx, hl, h0, h1⟩ := trod_struct2 Try.underlying76 h
  simp only [cellsInt, cellsLines, List.drop_succ_cons, List.drop_zero, List.take_succ_cons, List.take_zero] at h0 h1
  obtain ⟨n0, e0, _⟩ := DataW.trod_int Try.underlying3 h0
  obtain ⟨s, e1, hs⟩ := readLines h1
  simp only [List.cons.injEq, and_true] at e0 e1
  exact ⟨⟨n0, s⟩, e0, e1, hs⟩
theorem readOrders {fuel : Nat} {cs : List Value} {x : DataW H × List MemPlace} (h : DataW.trod enc Try.prog w 0 spare held fuel 42 cs = some x) : ∃ s : Go.Proofs.Ytbcacebifpagpab.Os, cs = [s.val] ∧ s.At w := by
  rcases open_slice Try.underlying42 h with ⟨rfl, _⟩ | ⟨a, len, cap, m, n, D, Pl, rfl, hb, hl, hm, hmm, _, hx⟩
  · exact ⟨⟨none, 0, 0, fun _ => ⟨0, ⟨none, 0, 0, fun _ => ⟨0, 0, 0, 0⟩⟩⟩⟩, rfl, Nat.le_refl _, Nat.zero_le _, fun i hi => absurd hi (Nat.not_lt_zero _)⟩
  · have hlm : len ≤ m := by rw [hmm]; split <;> omega
    rw [cellsOrder] at hx
    haveI : Inhabited Od := ⟨⟨0, ⟨none, 0, 0, fun _ => ⟨0, 0, 0, 0⟩⟩⟩⟩
    obtain ⟨z, hz⟩ := choose_lt (α := Od) (n := len) (p := fun i y => w.cell? (a.add (i * 2)) = some (.int .i64 y.k) ∧ w.cell? (a.add (i * 2 + 1)) = some (.slice y.ls.a y.ls.n y.ls.c) ∧ y.ls.At w) (fun i hi => by
      obtain ⟨cs', hc, ht⟩ := hx i (by omega)
      obtain ⟨c0, c1, rfl, k0, k1⟩ := cells2 hc
      obtain ⟨y, rfl, rfl, hy⟩ := readOrder ht
      rw [add_add] at k1
      exact ⟨y, k0, k1, hy⟩)
    refine ⟨⟨some a, len, cap, z⟩, rfl, hl, hm, fun i hi => ?_⟩
    have hi' : i < len := hi
    have h0 : ∃ v0, w.cell? a = some v0 := ⟨_, by have := (hz 0 (by omega)).1; simpa [Addr.add] using this⟩
    obtain ⟨k0, k1, hy⟩ := hz i hi'
    obtain ⟨b, o, rfl, hb', e0⟩ := addrOf k0 h0
    rw [Go.WideShapes.add_plain] at k1
    exact ⟨b, o, rfl, hb', e0, by rw [Nat.add_assoc]; exact k1, hy⟩
theorem array7 {α : Type} {cs : Array α} (h : cs.size = 7) : ∃ c0 c1 c2 c3 c4 c5 c6, cs = #[c0, c1, c2, c3, c4, c5, c6] := by
  obtain ⟨l⟩ := cs
  match l, h with
  | [c0, c1, c2, c3, c4, c5, c6], _ => exact ⟨c0, c1, c2, c3, c4, c5, c6, rfl⟩
theorem openState {r : Reach} {b0 : Nat} {v : Value} {d : DataW H} {ps : List MemPlace} (hv : Value.okWide Try.prog w r b0 45 v) (h : DataW.Trod enc Try.prog w 0 spare held 45 v d ps) : ∃ s : St, v = s.val ∧ s.At w := by
  obtain ⟨cs, rfl, hsz⟩ := okWide_struct Try.underlying45 hv
  obtain ⟨c0, c1, c2, c3, c4, c5, c6, rfl⟩ := array7 (hsz.trans cellsState)
  obtain ⟨fuel, hf⟩ := h
  obtain ⟨xs, n, _, hx, hl, hlen, hg⟩ := DataW.trod_struct Try.underlying45 hf
  match xs, hlen with
  | [y0, y1, y2, y3, y4, y5, y6], _ =>
    have k0 := hg 0 _ rfl
    have k1 := hg 1 _ rfl
    have k2 := hg 2 _ rfl
    have k3 := hg 3 _ rfl
    have k4 := hg 4 _ rfl
    have k5 := hg 5 _ rfl
    have k6 := hg 6 _ rfl
    simp [cellsRows, cellsOrders, cellsHolds, cellsMoves, cellsInts, Value.cells] at k0 k1 k2 k3 k4 k5 k6
    obtain ⟨on, e0, h0⟩ := readRows k0
    obtain ⟨os, e1, h1⟩ := readOrders k1
    obtain ⟨hs, e2, h2⟩ := HoldsFrames.readHolds k2
    obtain ⟨ms, e3, h3⟩ := readMoves k3
    obtain ⟨si, e4, h4⟩ := readInts k4
    obtain ⟨so, e5, h5⟩ := readInts k5
    obtain ⟨sf, e6, h6⟩ := readInts k6
    simp only [List.cons.injEq, and_true] at e0 e1 e2 e3 e4 e5 e6
    subst e0 e1 e2 e3 e4 e5 e6
    exact ⟨⟨on, os, hs, ms, si, so, sf⟩, rfl, h0, h1, h2, h3, h4, h5, h6⟩
end
end Go.Proofs.Ytbcacebifpagpab

/- Texts that were built one behind the other, joined; what BookTells does not reach is left out. -/
import Derived.Test.YtbcacebifpagpafK1BookTells
import Derived.Maps.AppendAt
import Derived.ArgAppend
import Derived.Deep.Upon
import Derived.Lib.SliceRun
import Derived.RangeFuncBox
import Derived.RangeFuncLeaves
import Derived.Shelf.Abstract
import Derived.WalkKit
import Derived.OwnWalkIn
import Derived.TacticsInMore
import Derived.LoopNIn
import Derived.LoopIn
import Derived.RangeFuncNested
namespace Go.Proofs.Ytbcacebifpagpaf
open Go.RowKit Go.Shelf Go.Sort
set_option linter.unusedVariables false
def summedB (p : Pl) (s : St) : Bool := !(wrongGoodsB p s || wrongOrdersB s)
theorem sB_good {p : Pl} {s : St} {g : Nat} (hg : g < p.ns) (h : wrongGood p s g = true) : summedB p s = false := by
  have : wrongGoodsB p s = true := anyB_yes hg h
  simp [summedB, this]
theorem sB_order {p : Pl} {s : St} {i : Nat} (hi : i < s.os.n) (h : wrongOrder s i = true) : summedB p s = false := by
  have : wrongOrdersB s = true := anyB_yes hi h
  simp [summedB, this]
theorem sB_yes {p : Pl} {s : St} (h1 : ∀ g, g < p.ns → wrongGood p s g = false) (h2 : ∀ i, i < s.os.n → wrongOrder s i = false) : summedB p s = true := by
  have e1 : wrongGoodsB p s = false := anyB_no h1
  have e2 : wrongOrdersB s = false := anyB_no h2
  simp [summedB, e1, e2]
theorem wg_sum {p : Pl} {s : St} {g : Nat} (h : ¬ sumTo (fun i => (s.on.r i).z g) s.on.n = s.si.z g - s.so.z g + s.sf.z g) : wrongGood p s g = true := by
  rw [wrongGood_eq]
  have : (sumTo (fun i => (s.on.r i).z g) s.on.n == s.si.z g - s.so.z g + s.sf.z g) = false := by simpa using h
  rw [this]; rfl
theorem wg_bound {p : Pl} {s : St} {g b : Nat} (hb : b < p.nb) (h : (s.on.r b).z g < heldTo s b g s.hs.n + fromTo s b g s.ms.n) : wrongGood p s g = true := by
  rw [wrongGood_eq, anyB_yes hb (decide_eq_true (by unfold availZ; omega)), Bool.or_true]
theorem wg_no {p : Pl} {s : St} {g : Nat} (h : sumTo (fun i => (s.on.r i).z g) s.on.n = s.si.z g - s.so.z g + s.sf.z g) (h2 : ∀ b, b < p.nb → decide ((s.on.r b).z g < heldTo s b g s.hs.n + fromTo s b g s.ms.n) = false) : wrongGood p s g = false := by
  rw [wrongGood_eq, h, anyB_no fun b hb => ?_]
  · simp
  · have := of_decide_eq_false (h2 b hb)
    exact decide_eq_false (by unfold availZ; omega)
def noLack (ls : Nat → Hd) (n : Nat) : Bool := !anyB n (fun j => lacksL (ls j))
theorem noLack_succ (ls : Nat → Hd) (n : Nat) : noLack ls (n + 1) = (noLack ls n && ((ls n).b == (ls n).l)) := by
  unfold noLack
  rw [anyB_succ]
  simp [lacksL]
theorem noLack_step {ls : Nat → Hd} {n : Nat} {b c : Bool} (h : noLack ls n = b) (h2 : ((ls n).b == (ls n).l) = c) : noLack ls (n + 1) = (b && c) := by rw [noLack_succ, h, h2]
theorem all_succ3 {k : Nat} {f : Nat → Bool} {b : Bool} (h : ∀ j, j < k → f j = b) (hk : f k = b) : ∀ j, j < k + 1 → f j = b := fun j hj => by
  by_cases hjk : j = k
  · rw [hjk]; exact hk
  · exact h j (by omega)
theorem wL0 {x : Hd} {kept : Int} (h1 : 0 ≤ x.b ∧ x.b ≤ 200) (h2 : 0 ≤ x.n ∧ x.n ≤ 200) (h3 : 0 ≤ kept ∧ kept ≤ 14400) : wrongL 0 x kept = !(x.b + x.n + kept == 0) := by
  unfold wrongL
  rw [if_pos rfl, Bool.eq_iff_iff]
  simp only [Bool.or_eq_true, Bool.not_eq_true', beq_eq_false_iff_ne, ne_eq]
  omega
theorem wL1 {x : Hd} {kept : Int} : wrongL 1 x kept = !(x.b + x.n + kept == x.l) := by
  unfold wrongL
  rw [if_neg (by decide), if_neg (by decide)]
theorem wL2 {x : Hd} {kept : Int} : wrongL 2 x kept = (!(x.b + x.n + kept == x.l) || !(kept == 0)) := by
  unfold wrongL
  rw [if_neg (by decide), if_pos rfl, Bool.eq_iff_iff]
  simp only [Bool.or_eq_true, Bool.not_eq_true', beq_eq_false_iff_ne, ne_eq]
  omega
theorem below_of_regrown {W w' : World} (h : ∃ p : Regrown, w' = grow (redrawn W p.d) p.os) : Below W.heap.size W w' := by
  obtain ⟨p, rfl⟩ := h
  exact below_regrown _ _ _
theorem line_stored {A w : World} {B : Nat} {e : TypeId} {f : Nat → Value} (hY : Blk w B e 4 f) (hX : Below A.heap.size A w) (hB : A.heap.size ≤ B) (x : Hd) :
    ∃ W, (((w.setCell ⟨B, 0, none⟩ (.int .i64 x.o)).setCell ⟨B, 1, none⟩ (.int .i64 x.l)).setCell ⟨B, 2, none⟩ (.int .i64 x.b)).setCell ⟨B, 3, none⟩ (.int .i64 x.n) = W ∧ Below A.heap.size A W ∧
      Blk W B e 4 (fun j => (#[.int .i64 x.o, .int .i64 x.l, .int .i64 x.b, .int .i64 x.n] : Array Value).getD j default) :=
  ⟨_, rfl, (((hX.setCell (p := ⟨B, 0, none⟩) hB _).setCell (p := ⟨B, 1, none⟩) hB _).setCell (p := ⟨B, 2, none⟩) hB _).setCell (p := ⟨B, 3, none⟩) hB _,
    ((((hY.set 0 _).set 1 _).set 2 _).set 3 _).congr (fun j hj => by match j, hj with | 0, _ => rfl | 1, _ => rfl | 2, _ => rfl | 3, _ => rfl)⟩
set_option maxRecDepth 100000 in
set_option maxHeartbeats 4000000 in
theorem summed_any (p : Pl) (s : St) (w : World) (hp : p.At w) (hs : s.At w) (f : Formed p s) :
    Calls Try.prog 34 #[p.val, s.val] w fun e w' => e = .returned (.bool (summedB p s)) ∧ Below w.heap.size w w' := by
  obtain ⟨W0, hW, hWB, X0⟩ : ∃ W, ((w.alloc (.cells #[.slice p.ab p.nb p.cb, .slice p.sa p.ns p.cs] 25)).alloc (.cells s.cells 31)) = W ∧ Below w.heap.size w W ∧ Boxes W w.heap.size (w.heap.size + 1) p s := ⟨_, rfl, two_below _ _ _, boxes_new w p s _ _⟩
  have HC : Hid (∀ wk, Below W0.heap.size W0 wk → Boxes wk w.heap.size (w.heap.size + 1) p s ∧ p.At wk ∧ s.At wk ∧ Below w.heap.size w wk) := fun wk h => ⟨X0.below h, (hp.below hWB).below h, (hs.below hWB).below h, hWB.trans (h.mono hWB.size)⟩
  have HW : Hid ((w.alloc (.cells #[.slice p.ab p.nb p.cb, .slice p.sa p.ns p.cs] 25)).alloc (.cells #[.slice s.on.a s.on.n s.on.c, .slice s.os.a s.os.n s.os.c, .slice s.hs.a s.hs.n s.hs.c, .slice s.ms.a s.ms.n s.ms.c, .slice s.si.a s.si.n s.si.c, .slice s.so.a s.so.n s.so.c, .slice s.sf.a s.sf.n s.sf.c] 31) = W0) := hW
  have leb := hp.leb
  have capb := hp.capb
  have les := hp.les
  have caps := hp.caps
  have ole := hs.os.le
  have ocap := hs.os.cap
  unfold maxLen at capb caps ocap
  have os4 := f.os4
  have h72 := f.hs72
  have ms8 := f.ms8
  have ns3 := f.sh.pl.ns3
  have nb6 := f.sh.pl.nb6
  have HF : Hid (Formed p s) := f
  clear hW X0 hp hs f
  unfold Pl.val St.val
  go_enter Try.func34, Try.ntmps34
  go_wp2_with fail
  rw [HW.out]
  go_loopw [5] (fun i wk => ∃ k : Nat, k ≤ p.ns ∧ i = .int .i64 k ∧ (∀ j, j < k → wrongGood p s j = false) ∧ Below W0.heap.size W0 wk) (fun i _ => p.ns - (intOf i).toNat)
  case atStart => exact ⟨0, Nat.zero_le _, rfl, fun j hj => absurd hj (Nat.not_lt_zero _), Below.refl _ _⟩
  case round =>
    obtain ⟨g, hg, rfl, hno, hB⟩ := hrel
    have HN : Hid (∀ j, j < g → wrongGood p s j = false) := hno
    clear hno
    obtain ⟨X, hpk, hsk, hBw⟩ := HC.out wr hB
    obtain ⟨⟨l1, d0, d1⟩, l2, c0, c1, c2, c3, c4, c5, c6⟩ := X
    by_cases hlt : g < p.ns
    · have qg : (0 : Int) ≤ (g : Int) := by omega
      have F := HF.out
      obtain ⟨b1, o1, e1, g1, z1⟩ := hsk.si.ints g (by rw [F.sin]; exact hlt)
      obtain ⟨b2, o2, e2, g2, z2⟩ := hsk.so.ints g (by rw [F.son]; exact hlt)
      obtain ⟨b3, o3, e3, g3, z3⟩ := hsk.sf.ints g (by rw [F.sfn]; exact hlt)
      have v1 := hsk.si.le
      have v2 := hsk.so.le
      have v3 := hsk.sf.le
      have v4 := hsk.si.cap
      have v5 := hsk.so.cap
      have v6 := hsk.sf.cap
      have u1 := F.sib g hlt
      have u2 := F.sob g hlt
      have u3 := F.sfb g hlt
      unfold maxLen at v4 v5 v6
      have HON : Hid (s.on.At wr) := hsk.on
      rw [e1, F.sin] at c4
      rw [e2, F.son] at c5
      rw [e3, F.sfn] at c6
      rw [F.sin] at v1
      rw [F.son] at v2
      rw [F.sfn] at v3
      have r0 : ∀ d os, (grow (redrawn wr d) os).cell? ⟨w.heap.size + 1, 0, none⟩ = some (.slice s.on.a s.on.n s.on.c) := fun d os => cell_regrown c0 d os
      have r4 : ∀ d os, (grow (redrawn wr d) os).cell? ⟨w.heap.size + 1, 4, none⟩ = some (.slice (some ⟨b1, o1, none⟩) p.ns s.si.c) := fun d os => cell_regrown c4 d os
      have r5 : ∀ d os, (grow (redrawn wr d) os).cell? ⟨w.heap.size + 1, 5, none⟩ = some (.slice (some ⟨b2, o2, none⟩) p.ns s.so.c) := fun d os => cell_regrown c5 d os
      have r6 : ∀ d os, (grow (redrawn wr d) os).cell? ⟨w.heap.size + 1, 6, none⟩ = some (.slice (some ⟨b3, o3, none⟩) p.ns s.sf.c) := fun d os => cell_regrown c6 d os
      have r7 : ∀ d os, (grow (redrawn wr d) os).cell? ⟨b1, o1 + g, none⟩ = some (.int .i64 (s.si.z g)) := fun d os => cell_regrown z1 d os
      have r8 : ∀ d os, (grow (redrawn wr d) os).cell? ⟨b2, o2 + g, none⟩ = some (.int .i64 (s.so.z g)) := fun d os => cell_regrown z2 d os
      have r9 : ∀ d os, (grow (redrawn wr d) os).cell? ⟨b3, o3 + g, none⟩ = some (.int .i64 (s.sf.z g)) := fun d os => cell_regrown z3 d os
      have HT1 : Hid (¬ sumTo (fun i => (s.on.r i).z g) s.on.n = s.si.z g - s.so.z g + s.sf.z g → summedB p s = false) := fun h => sB_good hlt (wg_sum h)
      have HT2 : Hid (∀ b, b < p.nb → (s.on.r b).z g < heldTo s b g s.hs.n + fromTo s b g s.ms.n → summedB p s = false) := fun b hb h => sB_good hlt (wg_bound hb h)
      have HT3 : Hid (sumTo (fun i => (s.on.r i).z g) s.on.n = s.si.z g - s.so.z g + s.sf.z g → (∀ b, b < p.nb → decide ((s.on.r b).z g < heldTo s b g s.hs.n + fromTo s b g s.ms.n) = false) → wrongGood p s g = false) := fun h h2 => wg_no h h2
      have hsum : Hid (∀ wk, s.on.At wk → Calls Try.prog 35 #[s.on.val, .int .i64 g] wk fun e w' => e = .returned (.int .i64 (sumTo (fun i => (s.on.r i).z g) s.on.n)) ∧ Below wk.heap.size wk w') := fun wk h => SumOf_any p s.on g wk h F.sh hlt
      unfold Sh.val at hsum
      clear e1 e2 e3 hsk hpk c0 c1 c2 c3 c4 c5 c6 z1 z2 z3 d0 F
      generalize sumTo (fun i => (s.on.r i).z g) s.on.n = SM at *
      generalize s.si.z g = I1 at *
      generalize s.so.z g = I2 at *
      generalize s.sf.z g = I3 at *
      go_wp2_with fail
      refine wp_region_quiet_below (by kernel_rfl) (by kernel_rfl) ?_
      repeat (go_big_quiet_step ((go_at_call 35; exact Calls.regrown_of (hsum.out _ (HON.out.below (below_regrown _ _ _))))))
      refine wpQuiet_nil ?_
      intro _ hw'
      obtain ⟨⟨dq, osq⟩, hw''⟩ := hw'
      subst hw''
      have hB1 := hB.trans ((below_regrown wr dq osq).mono hB.size)
      clear r0 r4 r5 r6 r7 r8 r9 HON hsum hB hBw l1 l2 d1 g1 g2 g3 v1 v2 v3 v4 v5 v6
      generalize grow (redrawn wr dq) osq = wz at *
      obtain ⟨X, hpk, hsk, hBw⟩ := HC.out wz hB1
      obtain ⟨⟨l1, d0, d1⟩, l2, c0, c1, c2, c3, c4, c5, c6⟩ := X
      by_cases heq : SM = I1 - I2 + I3
      · have he : (SM != I1 - I2 + I3) = false := by simp [heq]
        have HEQ : Hid (SM = I1 - I2 + I3) := heq
        rw [he]
        clear heq he hpk hsk c0 c1 c2 c3 c4 c5 c6 hBw
        go_wp2_with fail
        clear d0 d1 l1 l2
        go_loopw [6] (fun i wk => ∃ k : Nat, k ≤ p.nb ∧ i = .int .i64 k ∧ (∀ b, b < k → decide ((s.on.r b).z g < heldTo s b g s.hs.n + fromTo s b g s.ms.n) = false) ∧ Below W0.heap.size W0 wk) (fun i _ => p.nb - (intOf i).toNat)
        case atStart => exact ⟨0, Nat.zero_le _, rfl, fun j hj => absurd hj (Nat.not_lt_zero _), hB1⟩
        case round =>
          clear hB1
          obtain ⟨b, hb, rfl, hno, hB⟩ := hrel
          have HM : Hid (∀ b', b' < b → decide ((s.on.r b').z g < heldTo s b' g s.hs.n + fromTo s b' g s.ms.n) = false) := hno
          clear hno
          obtain ⟨X, hpk, hsk, hBw⟩ := HC.out wr hB
          obtain ⟨⟨l1, d0, d1⟩, l2, c0, c1, c2, c3, c4, c5, c6⟩ := X
          by_cases hlb : b < p.nb
          · have qb : (0 : Int) ≤ (b : Int) := by omega
            have F := HF.out
            have hbn : b < s.on.n := by rw [F.sh.n]; exact hlb
            obtain ⟨bo, oo, hoa, hbo, y0, hrow⟩ := hsk.on.rows b hbn
            have rn := F.sh.len b hbn
            obtain ⟨br, orr, hra, hbr, y1⟩ := hrow.ints g (by rw [rn]; exact hlt)
            have v1 := hrow.le
            have v2 := hrow.cap
            have v3 := hsk.on.le
            have v4 := hsk.on.cap
            unfold maxLen at v2 v4
            have hx := heldTo_bd (s := s) (b := b) (g := g) F.holdN
            have hy := fromTo_bd (s := s) (b := b) (g := g) F.moveN
            have hz := F.sh.num b hbn g hlt
            rw [hra, rn] at y0
            rw [rn] at v1
            rw [hoa] at c0
            have HSA : Hid (s.At wr ∧ s.on.a = some ⟨bo, oo, none⟩) := ⟨hsk, hoa⟩
            have r0 : ∀ d os, (grow (redrawn wr d) os).cell? ⟨w.heap.size + 1, 0, none⟩ = some (.slice (some ⟨bo, oo, none⟩) s.on.n s.on.c) := fun d os => cell_regrown c0 d os
            have r1 : ∀ d os, (grow (redrawn wr d) os).cell? ⟨w.heap.size + 1, 1, none⟩ = some (.slice s.os.a s.os.n s.os.c) := fun d os => cell_regrown c1 d os
            have r2 : ∀ d os, (grow (redrawn wr d) os).cell? ⟨w.heap.size + 1, 2, none⟩ = some (.slice s.hs.a s.hs.n s.hs.c) := fun d os => cell_regrown c2 d os
            have r3 : ∀ d os, (grow (redrawn wr d) os).cell? ⟨w.heap.size + 1, 3, none⟩ = some (.slice s.ms.a s.ms.n s.ms.c) := fun d os => cell_regrown c3 d os
            have r4 : ∀ d os, (grow (redrawn wr d) os).cell? ⟨w.heap.size + 1, 4, none⟩ = some (.slice s.si.a s.si.n s.si.c) := fun d os => cell_regrown c4 d os
            have r5 : ∀ d os, (grow (redrawn wr d) os).cell? ⟨w.heap.size + 1, 5, none⟩ = some (.slice s.so.a s.so.n s.so.c) := fun d os => cell_regrown c5 d os
            have r6 : ∀ d os, (grow (redrawn wr d) os).cell? ⟨w.heap.size + 1, 6, none⟩ = some (.slice s.sf.a s.sf.n s.sf.c) := fun d os => cell_regrown c6 d os
            have r7 : ∀ d os, (grow (redrawn wr d) os).cell? ⟨bo, oo + b, none⟩ = some (.slice (some ⟨br, orr, none⟩) p.ns (s.on.r b).c) := fun d os => cell_regrown y0 d os
            have r8 : ∀ d os, (grow (redrawn wr d) os).cell? ⟨br, orr + g, none⟩ = some (.int .i64 ((s.on.r b).z g)) := fun d os => cell_regrown y1 d os
            have hbd : Hid (∀ wk, s.At wk → Calls Try.prog 63 #[.agg #[.slice (some ⟨bo, oo, none⟩) s.on.n s.on.c, .slice s.os.a s.os.n s.os.c, .slice s.hs.a s.hs.n s.hs.c, .slice s.ms.a s.ms.n s.ms.c, .slice s.si.a s.si.n s.si.c, .slice s.so.a s.so.n s.so.c, .slice s.sf.a s.sf.n s.sf.c], .int .i64 b, .int .i64 g] wk fun e w' => e = .returned (.int .i64 (heldTo s b g s.hs.n + fromTo s b g s.ms.n)) ∧ Below wk.heap.size wk w') := fun wk h => by
              have := bound_any p s b g wk h HF.out
              rw [St.val, HSA.out.2] at this
              exact this
            have HT4 : Hid (((s.on.r b).z g < heldTo s b g s.hs.n + fromTo s b g s.ms.n → summedB p s = false) ∧ (¬ (s.on.r b).z g < heldTo s b g s.hs.n + fromTo s b g s.ms.n → ∀ b', b' < b + 1 → decide ((s.on.r b').z g < heldTo s b' g s.hs.n + fromTo s b' g s.ms.n) = false)) := ⟨HT2.out b hlb, fun h => all_succ3 HM.out (decide_eq_false h)⟩
            clear hoa hra hrow rn F hsk hpk c0 c1 c2 c3 c4 c5 c6 y0 y1 HM d1
            generalize heldTo s b g s.hs.n + fromTo s b g s.ms.n = BD at *
            generalize (s.on.r b).z g = ON at *
            generalize (s.on.r b).c = RC at *
            by_cases hq : ON < BD
            · have HX : Hid (summedB p s = false) := HT4.out.1 hq
              go_wp2_with fail
              refine wp_region_quiet_below (by kernel_rfl) (by kernel_rfl) ?_
              repeat (go_big_quiet_step ((go_at_call 63; exact Calls.regrown_of (hbd.out _ (HSA.out.1.below (below_regrown _ _ _))))))
              refine wpQuiet_nil ?_
              intro _ hw'
              obtain ⟨⟨dq, osq⟩, hw''⟩ := hw'
              subst hw''
              go_wp2_with fail
              go_ret
              exact ⟨by rw [HX.out]; rfl, hBw.trans ((below_regrown _ _ _).mono hBw.size)⟩
            · have HX := HT4.out.2 hq
              have HX2 : Hid _ := HX
              clear HX
              go_wp2_with fail
              refine wp_region_quiet_below (by kernel_rfl) (by kernel_rfl) ?_
              repeat (go_big_quiet_step ((go_at_call 63; exact Calls.regrown_of (hbd.out _ (HSA.out.1.below (below_regrown _ _ _))))))
              refine wpQuiet_nil ?_
              intro _ hw'
              obtain ⟨⟨dq, osq⟩, hw''⟩ := hw'
              subst hw''
              go_wp2_with fail
              go_roundw
              case rel => exact ⟨b + 1, by omega, by go_num, HX2.out, hB.trans ((below_regrown _ _ _).mono hB.size)⟩
              case measure => simp [intOf]; omega
          · have HA : Hid (wrongGood p s g = false) := HT3.out HEQ.out fun b' hb' => HM.out b' (by omega)
            clear hsk hpk c0 c1 c2 c3 c4 c5 c6 HM
            go_wp2_with fail
            go_roundw
            case rel => exact ⟨g + 1, by omega, by go_num, all_succ3 HN.out HA.out, hB⟩
            case measure => simp [intOf]; omega
      · have he : (SM != I1 - I2 + I3) = true := by simp [heq]
        have HX : Hid (summedB p s = false) := HT1.out heq
        rw [he]
        clear heq he hpk hsk c0 c1 c2 c3 c4 c5 c6 d0 d1 l1 l2
        go_wp2_with fail
        go_ret
        exact ⟨by rw [HX.out]; rfl, hBw⟩
    · have HN2 : Hid (∀ j, j < p.ns → wrongGood p s j = false) := fun j hj => HN.out j (by omega)
      clear HN hsk hpk c0 c1 c2 c3 c4 c5 c6 hBw
      go_wp2_with fail
      clear d0 d1 l1 l2 hlt hg
      go_loopw [7] (fun i wk => ∃ k : Nat, k ≤ s.os.n ∧ i = .int .i64 k ∧ (∀ j, j < k → wrongOrder s j = false) ∧ Below W0.heap.size W0 wk) (fun i _ => s.os.n - (intOf i).toNat)
      case atStart => exact ⟨0, Nat.zero_le _, rfl, fun j hj => absurd hj (Nat.not_lt_zero _), hB⟩
      case round =>
        clear hB
        obtain ⟨i, hi, rfl, hno, hB⟩ := hrel
        have HN : Hid (∀ j, j < i → wrongOrder s j = false) := hno
        clear hno
        obtain ⟨X, hpk, hsk, hBw⟩ := HC.out wr hB
        obtain ⟨⟨l1, d0, d1⟩, l2, c0, c1, c2, c3, c4, c5, c6⟩ := X
        by_cases hlt : i < s.os.n
        · obtain ⟨b, o, hoa, hb, z0, z1, hl⟩ := hsk.os.ods i hlt
          have qi : (0 : Int) ≤ (i : Int) := by omega
          have HL : Hid (∀ wk, Below W0.heap.size W0 wk → wk.cell? ⟨b, o + i * 2, none⟩ = some (.int .i64 (s.os.z i).k) ∧ wk.cell? ⟨b, o + i * 2 + 1, none⟩ = some (.slice (s.os.z i).ls.a (s.os.z i).ls.n (s.os.z i).ls.c) ∧ (s.os.z i).ls.At wk ∧ wk.cell? ⟨w.heap.size + 1, 1, none⟩ = some (.slice (some ⟨b, o, none⟩) s.os.n s.os.c) ∧ w.heap.size + 1 < wk.heap.size ∧ b < wk.heap.size ∧ Below w.heap.size w wk ∧ s.hs.At wk ∧ wk.cell? ⟨w.heap.size + 1, 2, none⟩ = some (.slice s.hs.a s.hs.n s.hs.c)) := fun wk h => by
            obtain ⟨X, -, hsw, hBx⟩ := HC.out wk h
            obtain ⟨-, m2, -, f1, f2, -⟩ := X
            obtain ⟨b', o', hoa', hb', x0, x1, hl'⟩ := hsw.os.ods i hlt
            rw [hoa] at hoa' f1
            simp only [Option.some.injEq, Addr.mk.injEq, and_true] at hoa'
            obtain ⟨rfl, rfl⟩ := hoa'
            exact ⟨x0, x1, hl', f1, m2, hb', hBx, hsw.hs, f2⟩
          have lle := hl.le
          have lcap := hl.cap
          have l3 := HF.out.lns i hlt
          have kd := HF.out.kind i hlt
          unfold maxLen at lcap
          have HE : Hid (wrongOrder s i = (((s.os.z i).k == 1 && noLack (s.os.z i).ls.z (s.os.z i).ls.n) || anyB (s.os.z i).ls.n (fun j => wrongL (s.os.z i).k ((s.os.z i).ls.z j) (keptS s.hs.z i j s.hs.n)))) := wrongOrder_eq
          have HLB : Hid (∀ j, j < (s.os.z i).ls.n → (0 ≤ ((s.os.z i).ls.z j).b ∧ ((s.os.z i).ls.z j).b ≤ 200) ∧ (0 ≤ ((s.os.z i).ls.z j).n ∧ ((s.os.z i).ls.z j).n ≤ 200) ∧ 0 ≤ keptS s.hs.z i j s.hs.n ∧ keptS s.hs.z i j s.hs.n ≤ 14400) := fun j hj => by
            have a := badLine_no (HF.out.line i hlt j hj)
            have c := keptS_bd (z := s.hs.z) (i : Int) (j : Int) s.hs.n HF.out.holdN
            omega
          clear hoa hl hsk hpk c0 c2 c3 c4 c5 c6 z0 z1 d0 d1 hBw hb
          generalize (s.os.z i).k = KD at *
          generalize (s.os.z i).ls = LS at *
          go_wp2_with fail
          clear c1 l1 l2
          go_loopw [8, 9] (fun u i0 wk => ∃ k : Nat, k ≤ LS.n ∧ i0 = .int .i64 k ∧ u = .bool (noLack LS.z k) ∧ Below W0.heap.size W0 wk) (fun _ i0 _ => LS.n - (intOf i0).toNat)
          case atStart => exact ⟨0, Nat.zero_le _, rfl, rfl, hB⟩
          case round =>
            clear hB
            obtain ⟨j, hj, rfl, rfl, hB⟩ := hrel
            obtain ⟨z0, z1, hlk, c1, l2, hb, hBw, -, -⟩ := HL.out wr hB
            by_cases hlj : j < LS.n
            · obtain ⟨b2, o2, hla, hb2, y0, y1, y2, y3⟩ := hlk.hds j hlj
              have qj : (0 : Int) ≤ (j : Int) := by omega
              rw [hla] at z1
              have r0 : ∀ d os, (grow (redrawn wr d) os).cell? ⟨w.heap.size + 1, 1, none⟩ = some (.slice (some ⟨b, o, none⟩) s.os.n s.os.c) := fun d os => cell_regrown c1 d os
              have r1 : ∀ d os, (grow (redrawn wr d) os).cell? ⟨b, o + i * 2 + 1, none⟩ = some (.slice (some ⟨b2, o2, none⟩) LS.n LS.c) := fun d os => cell_regrown z1 d os
              have r2 : ∀ d os, (grow (redrawn wr d) os).cell? ⟨b2, o2 + j * 4 + 1, none⟩ = some (.int .i64 (LS.z j).l) := fun d os => cell_regrown y1 d os
              have r3 : ∀ d os, (grow (redrawn wr d) os).cell? ⟨b2, o2 + j * 4 + 2, none⟩ = some (.int .i64 (LS.z j).b) := fun d os => cell_regrown y2 d os
              have HS1 : Hid (∀ b c, noLack LS.z j = b → ((LS.z j).b == (LS.z j).l) = c → noLack LS.z (j + 1) = (b && c)) := fun _ _ h1 h2 => noLack_step h1 h2
              clear hla hlk y0 y1 y2 y3
              generalize (LS.z j).l = WN at *
              generalize (LS.z j).b = GT at *
              cases h1 : noLack LS.z j
              · have HX : Hid (noLack LS.z (j + 1) = false) := HS1.out _ _ h1 rfl
                clear HS1 h1
                go_wp2_with fail
                refine wp_region_quiet_below (by kernel_rfl) (by kernel_rfl) ?_
                repeat (go_big_quiet_step (fail))
                refine wpQuiet_nil ?_
                intro _ hw'
                obtain ⟨⟨dq, osq⟩, hw''⟩ := hw'
                subst hw''
                clear r0 r1 r2 r3
                go_wp2_with fail
                go_roundw
                case rel => exact ⟨j + 1, by omega, by go_num, by rw [HX.out], hB.trans ((below_regrown _ _ _).mono hB.size)⟩
                case measure => simp [intOf]; omega
              · cases h2 : (GT == WN)
                · have HX : Hid (noLack LS.z (j + 1) = false) := HS1.out _ _ h1 h2
                  clear HS1 h1
                  go_wp2_with fail
                  refine wp_region_quiet_below (by kernel_rfl) (by kernel_rfl) ?_
                  repeat (go_big_quiet_step (fail))
                  refine wpQuiet_nil ?_
                  intro _ hw'
                  obtain ⟨⟨dq, osq⟩, hw''⟩ := hw'
                  subst hw''
                  clear r0 r1 r2 r3
                  go_wp2_with fail
                  go_roundw
                  case rel => exact ⟨j + 1, by omega, by go_num, by rw [HX.out], hB.trans ((below_regrown _ _ _).mono hB.size)⟩
                  case measure => simp [intOf]; omega
                · have HX : Hid (noLack LS.z (j + 1) = true) := HS1.out _ _ h1 h2
                  clear HS1 h1
                  go_wp2_with fail
                  refine wp_region_quiet_below (by kernel_rfl) (by kernel_rfl) ?_
                  repeat (go_big_quiet_step (fail))
                  refine wpQuiet_nil ?_
                  intro _ hw'
                  obtain ⟨⟨dq, osq⟩, hw''⟩ := hw'
                  subst hw''
                  clear r0 r1 r2 r3
                  go_wp2_with fail
                  go_roundw
                  case rel => exact ⟨j + 1, by omega, by go_num, by rw [HX.out], hB.trans ((below_regrown _ _ _).mono hB.size)⟩
                  case measure => simp [intOf]; omega
            · have hjn : j = LS.n := by omega
              subst hjn
              cases hN : noLack LS.z LS.n
              · have HE2 : Hid (wrongOrder s i = anyB LS.n (fun j => wrongL KD (LS.z j) (keptS s.hs.z i j s.hs.n))) := by show wrongOrder s i = _; rw [HE.out, hN, Bool.and_false, Bool.false_or]
                clear hN HE
                go_wp2_with fail
                clear z0 z1 hlk c1 l2 hb hBw
                go_loopw [10] (fun i0 wk => ∃ k : Nat, k ≤ LS.n ∧ i0 = .int .i64 k ∧ (∀ j, j < k → wrongL KD (LS.z j) (keptS s.hs.z i j s.hs.n) = false) ∧ Below W0.heap.size W0 wk) (fun i0 _ => LS.n - (intOf i0).toNat)
                case atStart => exact ⟨0, Nat.zero_le _, rfl, fun j hj => absurd hj (Nat.not_lt_zero _), hB⟩
                case round =>
                  clear hB
                  obtain ⟨j, hj, rfl, hno, hB⟩ := hrel
                  have HM : Hid (∀ j', j' < j → wrongL KD (LS.z j') (keptS s.hs.z i j' s.hs.n) = false) := hno
                  clear hno
                  obtain ⟨z0, z1, hlk, c1, l2, hb, hBw, hhs, c2⟩ := HL.out wr hB
                  by_cases hlj : j < LS.n
                  · obtain ⟨b2, o2, hla, hb2, y0, y1, y2, y3⟩ := hlk.hds j hlj
                    have qj : (0 : Int) ≤ (j : Int) := by omega
                    obtain ⟨k1, k2, k3⟩ := HLB.out j hlj
                    have HT : Hid (wrongL KD (LS.z j) (keptS s.hs.z i j s.hs.n) = true → summedB p s = false) := fun h => sB_order hlt (by rw [HE2.out]; exact anyB_yes hlj h)
                    have HU : Hid (wrongL KD (LS.z j) (keptS s.hs.z i j s.hs.n) = false → ∀ j', j' < j + 1 → wrongL KD (LS.z j') (keptS s.hs.z i j' s.hs.n) = false) := fun h => all_succ3 HM.out h
                    rw [hla] at z1
                    have HKA : Hid (∀ wk, Below wr.heap.size wr wk → Calls Try.prog 36 #[.slice s.hs.a s.hs.n s.hs.c, .int .i64 i, .int .i64 j] wk fun e w' => e = .returned (.int .i64 (keptS s.hs.z i j s.hs.n)) ∧ w' = wk) := fun wk h => KeptOf_any s.hs i j wk (hhs.below h) HF.out.hold
                    have r0 : ∀ d os, (grow (redrawn wr d) os).cell? ⟨w.heap.size + 1, 1, none⟩ = some (.slice (some ⟨b, o, none⟩) s.os.n s.os.c) := fun d os => cell_regrown c1 d os
                    have r1 : ∀ d os, (grow (redrawn wr d) os).cell? ⟨b, o + i * 2 + 1, none⟩ = some (.slice (some ⟨b2, o2, none⟩) LS.n LS.c) := fun d os => cell_regrown z1 d os
                    have r2 : ∀ d os, (grow (redrawn wr d) os).cell? ⟨b2, o2 + j * 4, none⟩ = some (.int .i64 (LS.z j).o) := fun d os => cell_regrown y0 d os
                    have r3 : ∀ d os, (grow (redrawn wr d) os).cell? ⟨b2, o2 + j * 4 + 1, none⟩ = some (.int .i64 (LS.z j).l) := fun d os => cell_regrown y1 d os
                    have r4 : ∀ d os, (grow (redrawn wr d) os).cell? ⟨b2, o2 + j * 4 + 2, none⟩ = some (.int .i64 (LS.z j).b) := fun d os => cell_regrown y2 d os
                    have r5 : ∀ d os, (grow (redrawn wr d) os).cell? ⟨b2, o2 + j * 4 + 3, none⟩ = some (.int .i64 (LS.z j).n) := fun d os => cell_regrown y3 d os
                    have r6 : ∀ d os, (grow (redrawn wr d) os).cell? ⟨w.heap.size + 1, 2, none⟩ = some (.slice s.hs.a s.hs.n s.hs.c) := fun d os => cell_regrown c2 d os
                    clear hla hlk y0 y1 y2 y3 hhs c2 z0 HM hBw
                    generalize keptS s.hs.z i j s.hs.n = KP at *
                    generalize LS.z j = LZ at *
                    go_wp2_with fail
                    refine wp_region_made (fun w' => ∃ p : Regrown, w' = grow (redrawn wr p.d) p.os) (List.range 13) [13, 14] [(false, 15), (false, 16)] (by kernel_rfl) (by kernel_rfl) (by kernel_rfl) (by kernel_rfl) (by kernel_rfl) (by kernel_rfl) (by kernel_rfl) (by kernel_rfl) (regrown_of_below ((Below.refl _ _).drew)) ?_
                    rw [show List.range 13 = [0, 1, 2, 3, 4, 5, 6, 7, 8, 9, 10, 11, 12] from rfl]
                    simp only [picks, List.drop_succ_cons, List.drop_zero, List.take_succ_cons, List.take_zero, List.cons_append, List.nil_append]
                    repeat (go_big_quiet_step (fail))
                    refine wpQuiet_nil ?_
                    refine ⟨fun j v wk => match j with | 13 => v = .int .i64 KP | 14 => ∃ B, v = .pointer (some ⟨B, 0, none⟩) ∧ wr.heap.size ≤ B ∧ Blk wk B 60 4 (fun _ => .int .i64 0) | _ => True, List.forall_mem_cons.2 ⟨?m13, List.forall_mem_cons.2 ⟨?m14, List.forall_mem_nil _⟩⟩, List.forall_mem_cons.2 ⟨?s13, List.forall_mem_cons.2 ⟨?s14, List.forall_mem_nil _⟩⟩, ?done⟩
                    case m13 => intro v w w' _ h; exact h
                    case m14 => intro v w w' hB h; obtain ⟨B, h1, h2, h3⟩ := h; exact ⟨B, h1, h2, h3.below hB⟩
                    case s13 =>
                      intro V wk K hS hd hK
                      obtain ⟨pp, rfl⟩ := hS
                      refine wpOp_list 13 rfl ?_
                      simp only [putAll, dstOf, List.getElem?_toArray, List.getElem?_cons_succ, List.getElem?_cons_zero, Act.put, List.setIfInBounds_toArray, List.set_cons_succ, List.set_cons_zero] at hK ⊢
                      go_wp2_with fail
                      refine (HKA.out _ (below_regrown _ _ _)).mono ?_
                      rintro e w' ⟨rfl, rfl⟩
                      go_wp2_with fail
                      exact hK _ _ ⟨pp, rfl⟩ (Below.refl _ _) rfl
                    case s14 =>
                      intro V wk K hS hd hK
                      have hX := below_of_regrown hS
                      refine wpOp_list 14 rfl ?_
                      simp only [putAll, dstOf, List.getElem?_toArray, List.getElem?_cons_succ, List.getElem?_cons_zero, Act.put, List.setIfInBounds_toArray, List.set_cons_succ, List.set_cons_zero] at hK ⊢
                      go_wp2_with fail
                      exact hK _ _ (regrown_of_below (hX.alloc hX.size _)) ((Below.refl _ _).alloc (Nat.le_refl _) _) ⟨wk.heap.size, rfl, hX.size, (Blk.mk' (cur := #[.int .i64 0, .int .i64 0, .int .i64 0, .int .i64 0]) rfl rfl).congr (fun j hj => by match j, hj with | 0, _ => rfl | 1, _ => rfl | 2, _ => rfl | 3, _ => rfl)⟩
                    case done =>
                      intro V wk hS hD
                      have h13 : V 13 = .int .i64 KP := hD 13 (by simp)
                      have h14 : ∃ B, V 14 = .pointer (some ⟨B, 0, none⟩) ∧ wr.heap.size ≤ B ∧ Blk wk B 60 4 (fun _ => .int .i64 0) := hD 14 (by simp)
                      obtain ⟨B4, h14, hB4, hY⟩ := h14
                      have hX := below_of_regrown hS
                      clear hS hD r0 r1 r2 r3 r4 r5 r6
                      have hl4 := hY.lt
                      have f0 := hY.frozen 0
                      have f1 := hY.frozen 1
                      have f2 := hY.frozen 2
                      have f3 := hY.frozen 3
                      have e0 := hY.cell (j := 0) (by decide)
                      have e1 := hY.cell (j := 1) (by decide)
                      have e2 := hY.cell (j := 2) (by decide)
                      have e3 := hY.cell (j := 3) (by decide)
                      simp only [putAll, dstOf, List.getElem?_toArray, List.getElem?_cons_succ, List.getElem?_cons_zero, Act.put, List.setIfInBounds_toArray, List.set_cons_succ, List.set_cons_zero, h13, h14]
                      refine wpOrdS_one 15 (by decide) ?_
                      simp only [List.drop_succ_cons, List.drop_zero, List.take_succ_cons, List.take_zero]
                      go_wp2_with fail
                      obtain ⟨W5, hW5, hX5, hY5⟩ := line_stored hY hX hB4 LZ
                      rw [hW5]
                      refine ⟨regrown_of_below hX5, ?_⟩
                      refine wpOrdS_one 16 (by decide) ?_
                      simp only [List.drop_succ_cons, List.drop_zero, List.take_succ_cons, List.take_zero]
                      go_wp2_with fail
                      refine ⟨regrown_of_below hX5, ?_⟩
                      refine NoPanic.normal ?_
                      have hB5 := hB.trans (hX5.mono hB.size)
                      have t0 : W5.cell? ⟨B4, 0, none⟩ = some (.int .i64 LZ.o) := hY5.cell (j := 0) (by simp)
                      have t1 : W5.cell? ⟨B4, 1, none⟩ = some (.int .i64 LZ.l) := hY5.cell (j := 1) (by simp)
                      have t2 : W5.cell? ⟨B4, 2, none⟩ = some (.int .i64 LZ.b) := hY5.cell (j := 2) (by simp)
                      have t3 : W5.cell? ⟨B4, 3, none⟩ = some (.int .i64 LZ.n) := hY5.cell (j := 3) (by simp)
                      have hl5 := hY5.lt
                      clear hX5 hW5 hY5 hX hY f0 f1 f2 f3 e0 e1 e2 e3 h13 h14 hl4 hB4 z1 c1 l2 hb hb2 hB
                      obtain ⟨z0, z1, hlk, c1, l2, hb, hBw, hhs, c2⟩ := HL.out W5 hB5
                      clear hlk hhs c2 z1
                      have hkd : KD = 0 ∨ KD = 1 ∨ KD = 2 := by omega
                      have HK0 : Hid (∀ b, KD = 0 → (LZ.b + LZ.n + KP == 0) = b → wrongL KD LZ KP = !b) := fun b h h2 => by rw [h, wL0 k1 k2 k3, h2]
                      have HK1 : Hid (∀ b, KD = 1 → (LZ.b + LZ.n + KP == LZ.l) = b → wrongL KD LZ KP = !b) := fun b h h2 => by rw [h, wL1, h2]
                      have HK2 : Hid (∀ b c, KD = 2 → (LZ.b + LZ.n + KP == LZ.l) = b → (KP == 0) = c → wrongL KD LZ KP = (!b || !c)) := fun b c h h2 h3 => by rw [h, wL2, h2, h3]
                      generalize wrongL KD LZ KP = WL at *
                      rcases hkd with hkd | hkd | hkd
                      · cases h2 : (LZ.b + LZ.n + KP == 0)
                        · have HX : Hid (summedB p s = false) := HT.out (HK0.out _ hkd h2)
                          have n2 : (LZ.b + LZ.n + KP != 0) = true := by rw [bne, h2]; rfl
                          rw [hkd] at z0
                          clear HK0 HK1 HK2 HT HU hkd
                          go_wp2_with fail
                          go_ret
                          exact ⟨by rw [HX.out]; rfl, hBw⟩
                        · have HX := HU.out (HK0.out _ hkd h2)
                          have n2 : (LZ.b + LZ.n + KP != 0) = false := by rw [bne, h2]; rfl
                          have HX2 : Hid _ := HX
                          rw [hkd] at z0
                          clear HK0 HK1 HK2 HT HU hkd HX
                          go_wp2_with fail
                          go_roundw
                          case rel => exact ⟨j + 1, by omega, by go_num, HX2.out, hB5⟩
                          case measure => simp [intOf]; omega
                      · cases h2 : (LZ.b + LZ.n + KP == LZ.l)
                        · have HX : Hid (summedB p s = false) := HT.out (HK1.out _ hkd h2)
                          have n2 : (LZ.b + LZ.n + KP != LZ.l) = true := by rw [bne, h2]; rfl
                          rw [hkd] at z0
                          clear HK0 HK1 HK2 HT HU hkd
                          go_wp2_with fail
                          go_ret
                          exact ⟨by rw [HX.out]; rfl, hBw⟩
                        · have HX := HU.out (HK1.out _ hkd h2)
                          have n2 : (LZ.b + LZ.n + KP != LZ.l) = false := by rw [bne, h2]; rfl
                          have HX2 : Hid _ := HX
                          rw [hkd] at z0
                          clear HK0 HK1 HK2 HT HU hkd HX
                          go_wp2_with fail
                          go_roundw
                          case rel => exact ⟨j + 1, by omega, by go_num, HX2.out, hB5⟩
                          case measure => simp [intOf]; omega
                      · cases h2 : (LZ.b + LZ.n + KP == LZ.l)
                        · have HX : Hid (summedB p s = false) := HT.out (HK2.out _ _ hkd h2 rfl)
                          have n2 : (LZ.b + LZ.n + KP != LZ.l) = true := by rw [bne, h2]; rfl
                          rw [hkd] at z0
                          clear HK0 HK1 HK2 HT HU hkd
                          go_wp2_with fail
                          go_ret
                          exact ⟨by rw [HX.out]; rfl, hBw⟩
                        · cases h3 : (KP == 0)
                          · have HX : Hid (summedB p s = false) := HT.out (HK2.out _ _ hkd h2 h3)
                            have n2 : (LZ.b + LZ.n + KP != LZ.l) = false := by rw [bne, h2]; rfl
                            have n3 : (KP != 0) = true := by rw [bne, h3]; rfl
                            rw [hkd] at z0
                            clear HK0 HK1 HK2 HT HU hkd
                            go_wp2_with fail
                            go_ret
                            exact ⟨by rw [HX.out]; rfl, hBw⟩
                          · have HX := HU.out (HK2.out _ _ hkd h2 h3)
                            have n2 : (LZ.b + LZ.n + KP != LZ.l) = false := by rw [bne, h2]; rfl
                            have n3 : (KP != 0) = false := by rw [bne, h3]; rfl
                            have HX2 : Hid _ := HX
                            rw [hkd] at z0
                            clear HK0 HK1 HK2 HT HU hkd HX
                            go_wp2_with fail
                            go_roundw
                            case rel => exact ⟨j + 1, by omega, by go_num, HX2.out, hB5⟩
                            case measure => simp [intOf]; omega
                  · have HA : Hid (wrongOrder s i = false) := by show wrongOrder s i = false; rw [HE2.out]; exact anyB_no fun j' hj' => HM.out j' (by omega)
                    clear z0 hhs c2 hBw hlk
                    go_wp2_with fail
                    go_roundw
                    case rel => exact ⟨i + 1, by omega, by go_num, all_succ3 HN.out HA.out, hB⟩
                    case measure => simp [intOf]; omega
              · cases hk1 : (KD == 1)
                · have HE2 : Hid (wrongOrder s i = anyB LS.n (fun j => wrongL KD (LS.z j) (keptS s.hs.z i j s.hs.n))) := by show wrongOrder s i = _; rw [HE.out, hk1, Bool.false_and, Bool.false_or]
                  clear hN HE
                  go_wp2_with fail
                  clear hk1
                  clear z0 z1 hlk c1 l2 hb hBw
                  go_loopw [10] (fun i0 wk => ∃ k : Nat, k ≤ LS.n ∧ i0 = .int .i64 k ∧ (∀ j, j < k → wrongL KD (LS.z j) (keptS s.hs.z i j s.hs.n) = false) ∧ Below W0.heap.size W0 wk) (fun i0 _ => LS.n - (intOf i0).toNat)
                  case atStart => exact ⟨0, Nat.zero_le _, rfl, fun j hj => absurd hj (Nat.not_lt_zero _), hB⟩
                  case round =>
                    clear hB
                    obtain ⟨j, hj, rfl, hno, hB⟩ := hrel
                    have HM : Hid (∀ j', j' < j → wrongL KD (LS.z j') (keptS s.hs.z i j' s.hs.n) = false) := hno
                    clear hno
                    obtain ⟨z0, z1, hlk, c1, l2, hb, hBw, hhs, c2⟩ := HL.out wr hB
                    by_cases hlj : j < LS.n
                    · obtain ⟨b2, o2, hla, hb2, y0, y1, y2, y3⟩ := hlk.hds j hlj
                      have qj : (0 : Int) ≤ (j : Int) := by omega
                      obtain ⟨k1, k2, k3⟩ := HLB.out j hlj
                      have HT : Hid (wrongL KD (LS.z j) (keptS s.hs.z i j s.hs.n) = true → summedB p s = false) := fun h => sB_order hlt (by rw [HE2.out]; exact anyB_yes hlj h)
                      have HU : Hid (wrongL KD (LS.z j) (keptS s.hs.z i j s.hs.n) = false → ∀ j', j' < j + 1 → wrongL KD (LS.z j') (keptS s.hs.z i j' s.hs.n) = false) := fun h => all_succ3 HM.out h
                      rw [hla] at z1
                      have HKA : Hid (∀ wk, Below wr.heap.size wr wk → Calls Try.prog 36 #[.slice s.hs.a s.hs.n s.hs.c, .int .i64 i, .int .i64 j] wk fun e w' => e = .returned (.int .i64 (keptS s.hs.z i j s.hs.n)) ∧ w' = wk) := fun wk h => KeptOf_any s.hs i j wk (hhs.below h) HF.out.hold
                      have r0 : ∀ d os, (grow (redrawn wr d) os).cell? ⟨w.heap.size + 1, 1, none⟩ = some (.slice (some ⟨b, o, none⟩) s.os.n s.os.c) := fun d os => cell_regrown c1 d os
                      have r1 : ∀ d os, (grow (redrawn wr d) os).cell? ⟨b, o + i * 2 + 1, none⟩ = some (.slice (some ⟨b2, o2, none⟩) LS.n LS.c) := fun d os => cell_regrown z1 d os
                      have r2 : ∀ d os, (grow (redrawn wr d) os).cell? ⟨b2, o2 + j * 4, none⟩ = some (.int .i64 (LS.z j).o) := fun d os => cell_regrown y0 d os
                      have r3 : ∀ d os, (grow (redrawn wr d) os).cell? ⟨b2, o2 + j * 4 + 1, none⟩ = some (.int .i64 (LS.z j).l) := fun d os => cell_regrown y1 d os
                      have r4 : ∀ d os, (grow (redrawn wr d) os).cell? ⟨b2, o2 + j * 4 + 2, none⟩ = some (.int .i64 (LS.z j).b) := fun d os => cell_regrown y2 d os
                      have r5 : ∀ d os, (grow (redrawn wr d) os).cell? ⟨b2, o2 + j * 4 + 3, none⟩ = some (.int .i64 (LS.z j).n) := fun d os => cell_regrown y3 d os
                      have r6 : ∀ d os, (grow (redrawn wr d) os).cell? ⟨w.heap.size + 1, 2, none⟩ = some (.slice s.hs.a s.hs.n s.hs.c) := fun d os => cell_regrown c2 d os
                      clear hla hlk y0 y1 y2 y3 hhs c2 z0 HM hBw
                      generalize keptS s.hs.z i j s.hs.n = KP at *
                      generalize LS.z j = LZ at *
                      go_wp2_with fail
                      refine wp_region_made (fun w' => ∃ p : Regrown, w' = grow (redrawn wr p.d) p.os) (List.range 13) [13, 14] [(false, 15), (false, 16)] (by kernel_rfl) (by kernel_rfl) (by kernel_rfl) (by kernel_rfl) (by kernel_rfl) (by kernel_rfl) (by kernel_rfl) (by kernel_rfl) (regrown_of_below ((Below.refl _ _).drew)) ?_
                      rw [show List.range 13 = [0, 1, 2, 3, 4, 5, 6, 7, 8, 9, 10, 11, 12] from rfl]
                      simp only [picks, List.drop_succ_cons, List.drop_zero, List.take_succ_cons, List.take_zero, List.cons_append, List.nil_append]
                      repeat (go_big_quiet_step (fail))
                      refine wpQuiet_nil ?_
                      refine ⟨fun j v wk => match j with | 13 => v = .int .i64 KP | 14 => ∃ B, v = .pointer (some ⟨B, 0, none⟩) ∧ wr.heap.size ≤ B ∧ Blk wk B 60 4 (fun _ => .int .i64 0) | _ => True, List.forall_mem_cons.2 ⟨?m13, List.forall_mem_cons.2 ⟨?m14, List.forall_mem_nil _⟩⟩, List.forall_mem_cons.2 ⟨?s13, List.forall_mem_cons.2 ⟨?s14, List.forall_mem_nil _⟩⟩, ?done⟩
                      case m13 => intro v w w' _ h; exact h
                      case m14 => intro v w w' hB h; obtain ⟨B, h1, h2, h3⟩ := h; exact ⟨B, h1, h2, h3.below hB⟩
                      case s13 =>
                        intro V wk K hS hd hK
                        obtain ⟨pp, rfl⟩ := hS
                        refine wpOp_list 13 rfl ?_
                        simp only [putAll, dstOf, List.getElem?_toArray, List.getElem?_cons_succ, List.getElem?_cons_zero, Act.put, List.setIfInBounds_toArray, List.set_cons_succ, List.set_cons_zero] at hK ⊢
                        go_wp2_with fail
                        refine (HKA.out _ (below_regrown _ _ _)).mono ?_
                        rintro e w' ⟨rfl, rfl⟩
                        go_wp2_with fail
                        exact hK _ _ ⟨pp, rfl⟩ (Below.refl _ _) rfl
                      case s14 =>
                        intro V wk K hS hd hK
                        have hX := below_of_regrown hS
                        refine wpOp_list 14 rfl ?_
                        simp only [putAll, dstOf, List.getElem?_toArray, List.getElem?_cons_succ, List.getElem?_cons_zero, Act.put, List.setIfInBounds_toArray, List.set_cons_succ, List.set_cons_zero] at hK ⊢
                        go_wp2_with fail
                        exact hK _ _ (regrown_of_below (hX.alloc hX.size _)) ((Below.refl _ _).alloc (Nat.le_refl _) _) ⟨wk.heap.size, rfl, hX.size, (Blk.mk' (cur := #[.int .i64 0, .int .i64 0, .int .i64 0, .int .i64 0]) rfl rfl).congr (fun j hj => by match j, hj with | 0, _ => rfl | 1, _ => rfl | 2, _ => rfl | 3, _ => rfl)⟩
                      case done =>
                        intro V wk hS hD
                        have h13 : V 13 = .int .i64 KP := hD 13 (by simp)
                        have h14 : ∃ B, V 14 = .pointer (some ⟨B, 0, none⟩) ∧ wr.heap.size ≤ B ∧ Blk wk B 60 4 (fun _ => .int .i64 0) := hD 14 (by simp)
                        obtain ⟨B4, h14, hB4, hY⟩ := h14
                        have hX := below_of_regrown hS
                        clear hS hD r0 r1 r2 r3 r4 r5 r6
                        have hl4 := hY.lt
                        have f0 := hY.frozen 0
                        have f1 := hY.frozen 1
                        have f2 := hY.frozen 2
                        have f3 := hY.frozen 3
                        have e0 := hY.cell (j := 0) (by decide)
                        have e1 := hY.cell (j := 1) (by decide)
                        have e2 := hY.cell (j := 2) (by decide)
                        have e3 := hY.cell (j := 3) (by decide)
                        simp only [putAll, dstOf, List.getElem?_toArray, List.getElem?_cons_succ, List.getElem?_cons_zero, Act.put, List.setIfInBounds_toArray, List.set_cons_succ, List.set_cons_zero, h13, h14]
                        refine wpOrdS_one 15 (by decide) ?_
                        simp only [List.drop_succ_cons, List.drop_zero, List.take_succ_cons, List.take_zero]
                        go_wp2_with fail
                        obtain ⟨W5, hW5, hX5, hY5⟩ := line_stored hY hX hB4 LZ
                        rw [hW5]
                        refine ⟨regrown_of_below hX5, ?_⟩
                        refine wpOrdS_one 16 (by decide) ?_
                        simp only [List.drop_succ_cons, List.drop_zero, List.take_succ_cons, List.take_zero]
                        go_wp2_with fail
                        refine ⟨regrown_of_below hX5, ?_⟩
                        refine NoPanic.normal ?_
                        have hB5 := hB.trans (hX5.mono hB.size)
                        have t0 : W5.cell? ⟨B4, 0, none⟩ = some (.int .i64 LZ.o) := hY5.cell (j := 0) (by simp)
                        have t1 : W5.cell? ⟨B4, 1, none⟩ = some (.int .i64 LZ.l) := hY5.cell (j := 1) (by simp)
                        have t2 : W5.cell? ⟨B4, 2, none⟩ = some (.int .i64 LZ.b) := hY5.cell (j := 2) (by simp)
                        have t3 : W5.cell? ⟨B4, 3, none⟩ = some (.int .i64 LZ.n) := hY5.cell (j := 3) (by simp)
                        have hl5 := hY5.lt
                        clear hX5 hW5 hY5 hX hY f0 f1 f2 f3 e0 e1 e2 e3 h13 h14 hl4 hB4 z1 c1 l2 hb hb2 hB
                        obtain ⟨z0, z1, hlk, c1, l2, hb, hBw, hhs, c2⟩ := HL.out W5 hB5
                        clear hlk hhs c2 z1
                        have hkd : KD = 0 ∨ KD = 1 ∨ KD = 2 := by omega
                        have HK0 : Hid (∀ b, KD = 0 → (LZ.b + LZ.n + KP == 0) = b → wrongL KD LZ KP = !b) := fun b h h2 => by rw [h, wL0 k1 k2 k3, h2]
                        have HK1 : Hid (∀ b, KD = 1 → (LZ.b + LZ.n + KP == LZ.l) = b → wrongL KD LZ KP = !b) := fun b h h2 => by rw [h, wL1, h2]
                        have HK2 : Hid (∀ b c, KD = 2 → (LZ.b + LZ.n + KP == LZ.l) = b → (KP == 0) = c → wrongL KD LZ KP = (!b || !c)) := fun b c h h2 h3 => by rw [h, wL2, h2, h3]
                        generalize wrongL KD LZ KP = WL at *
                        rcases hkd with hkd | hkd | hkd
                        · cases h2 : (LZ.b + LZ.n + KP == 0)
                          · have HX : Hid (summedB p s = false) := HT.out (HK0.out _ hkd h2)
                            have n2 : (LZ.b + LZ.n + KP != 0) = true := by rw [bne, h2]; rfl
                            rw [hkd] at z0
                            clear HK0 HK1 HK2 HT HU hkd
                            go_wp2_with fail
                            go_ret
                            exact ⟨by rw [HX.out]; rfl, hBw⟩
                          · have HX := HU.out (HK0.out _ hkd h2)
                            have n2 : (LZ.b + LZ.n + KP != 0) = false := by rw [bne, h2]; rfl
                            have HX2 : Hid _ := HX
                            rw [hkd] at z0
                            clear HK0 HK1 HK2 HT HU hkd HX
                            go_wp2_with fail
                            go_roundw
                            case rel => exact ⟨j + 1, by omega, by go_num, HX2.out, hB5⟩
                            case measure => simp [intOf]; omega
                        · cases h2 : (LZ.b + LZ.n + KP == LZ.l)
                          · have HX : Hid (summedB p s = false) := HT.out (HK1.out _ hkd h2)
                            have n2 : (LZ.b + LZ.n + KP != LZ.l) = true := by rw [bne, h2]; rfl
                            rw [hkd] at z0
                            clear HK0 HK1 HK2 HT HU hkd
                            go_wp2_with fail
                            go_ret
                            exact ⟨by rw [HX.out]; rfl, hBw⟩
                          · have HX := HU.out (HK1.out _ hkd h2)
                            have n2 : (LZ.b + LZ.n + KP != LZ.l) = false := by rw [bne, h2]; rfl
                            have HX2 : Hid _ := HX
                            rw [hkd] at z0
                            clear HK0 HK1 HK2 HT HU hkd HX
                            go_wp2_with fail
                            go_roundw
                            case rel => exact ⟨j + 1, by omega, by go_num, HX2.out, hB5⟩
                            case measure => simp [intOf]; omega
                        · cases h2 : (LZ.b + LZ.n + KP == LZ.l)
                          · have HX : Hid (summedB p s = false) := HT.out (HK2.out _ _ hkd h2 rfl)
                            have n2 : (LZ.b + LZ.n + KP != LZ.l) = true := by rw [bne, h2]; rfl
                            rw [hkd] at z0
                            clear HK0 HK1 HK2 HT HU hkd
                            go_wp2_with fail
                            go_ret
                            exact ⟨by rw [HX.out]; rfl, hBw⟩
                          · cases h3 : (KP == 0)
                            · have HX : Hid (summedB p s = false) := HT.out (HK2.out _ _ hkd h2 h3)
                              have n2 : (LZ.b + LZ.n + KP != LZ.l) = false := by rw [bne, h2]; rfl
                              have n3 : (KP != 0) = true := by rw [bne, h3]; rfl
                              rw [hkd] at z0
                              clear HK0 HK1 HK2 HT HU hkd
                              go_wp2_with fail
                              go_ret
                              exact ⟨by rw [HX.out]; rfl, hBw⟩
                            · have HX := HU.out (HK2.out _ _ hkd h2 h3)
                              have n2 : (LZ.b + LZ.n + KP != LZ.l) = false := by rw [bne, h2]; rfl
                              have n3 : (KP != 0) = false := by rw [bne, h3]; rfl
                              have HX2 : Hid _ := HX
                              rw [hkd] at z0
                              clear HK0 HK1 HK2 HT HU hkd HX
                              go_wp2_with fail
                              go_roundw
                              case rel => exact ⟨j + 1, by omega, by go_num, HX2.out, hB5⟩
                              case measure => simp [intOf]; omega
                    · have HA : Hid (wrongOrder s i = false) := by show wrongOrder s i = false; rw [HE2.out]; exact anyB_no fun j' hj' => HM.out j' (by omega)
                      clear z0 hhs c2 hBw hlk
                      go_wp2_with fail
                      go_roundw
                      case rel => exact ⟨i + 1, by omega, by go_num, all_succ3 HN.out HA.out, hB⟩
                      case measure => simp [intOf]; omega
                · have HX : Hid (summedB p s = false) := sB_order hlt (by rw [HE.out, hN, hk1]; rfl)
                  clear HE
                  go_wp2_with fail
                  go_ret
                  exact ⟨by rw [HX.out]; rfl, hBw⟩
        · have HX : Hid (summedB p s = true) := sB_yes HN2.out fun j hj => HN.out j (by omega)
          clear hsk hpk c0 c2 c3 c4 c5 c6 d0 d1
          go_wp2_with fail
          go_ret
          exact ⟨by rw [HX.out]; rfl, hBw⟩
end Go.Proofs.Ytbcacebifpagpaf
namespace Go.Proofs.Ytbcacebifpagpaf
open Go.RowKit Go.Shelf Go.Sort
set_option linter.unusedVariables false
structure SameT (s t : St) : Prop where
  on : s.on.n = t.on.n ∧ ∀ i, i < s.on.n → (s.on.r i).n = (t.on.r i).n ∧ ∀ j, j < (s.on.r i).n → (s.on.r i).z j = (t.on.r i).z j
  os : s.os.n = t.os.n ∧ ∀ i, i < s.os.n → (s.os.z i).k = (t.os.z i).k ∧ (s.os.z i).ls.n = (t.os.z i).ls.n ∧ ∀ j, j < (s.os.z i).ls.n → (s.os.z i).ls.z j = (t.os.z i).ls.z j
  hs : s.hs.n = t.hs.n ∧ ∀ j, j < s.hs.n → s.hs.z j = t.hs.z j
  ms : s.ms.n = t.ms.n ∧ ∀ j, j < s.ms.n → s.ms.z j = t.ms.z j
  si : s.si.n = t.si.n ∧ ∀ j, j < s.si.n → s.si.z j = t.si.z j
  so : s.so.n = t.so.n ∧ ∀ j, j < s.so.n → s.so.z j = t.so.z j
  sf : s.sf.n = t.sf.n ∧ ∀ j, j < s.sf.n → s.sf.z j = t.sf.z j
end Go.Proofs.Ytbcacebifpagpaf
namespace Go.Proofs.Ytbcacebifpagpaf
open Go.RowKit Go.Shelf Go.Sort
set_option linter.unusedVariables false
theorem stateE_shelf {p : Pl} {s : St} (h : ¬ shelfE p s.on = 0) : stateE p s = shelfE p s.on := by unfold stateE; rw [if_neg h]
theorem stateE_many {p : Pl} {s : St} (h : shelfE p s.on = 0) (h1 : tooManyB s = true) : stateE p s = 2 := by unfold stateE; rw [if_pos h, if_pos h1]
theorem stateE_form {p : Pl} {s : St} (h : shelfE p s.on = 0) (h1 : tooManyB s = false) (h2 : badOrdersB p s = true ∨ badHoldsB p s = true ∨ badMovesB p s = true ∨ badSumsB p s = true) : stateE p s = 1 := by
  unfold stateE
  rw [if_pos h, h1, if_neg (by decide), if_pos (by rcases h2 with h2 | h2 | h2 | h2 <;> simp [h2])]
theorem stateE_sum {p : Pl} {s : St} (h : shelfE p s.on = 0) (h1 : tooManyB s = false) (h2 : badOrdersB p s = false) (h3 : badHoldsB p s = false) (h4 : badMovesB p s = false) (h5 : badSumsB p s = false) : stateE p s = if wrongGoodsB p s || wrongOrdersB s then 7 else 0 := by
  unfold stateE
  rw [if_pos h, h1, if_neg (by decide), h2, h3, h4, h5, if_neg (by decide)]
set_option maxHeartbeats 4000000 in
theorem stateCheck_any (p : Pl) (s : St) (w : World) (hp : p.At w) (hs : s.At w) :
    Calls Try.prog 18 #[p.val, s.val] w fun e w' => e = .returned (.int .i64 (stateE p s)) ∧ Below w.heap.size w w' := by
  obtain ⟨W0, hW, hWB, X0⟩ : ∃ W, ((w.alloc (.cells #[.slice p.ab p.nb p.cb, .slice p.sa p.ns p.cs] 25)).alloc (.cells s.cells 31)) = W ∧ Below w.heap.size w W ∧ Boxes W w.heap.size (w.heap.size + 1) p s := ⟨_, rfl, two_below _ _ _, boxes_new w p s _ _⟩
  have HC : Hid (∀ wk, Below W0.heap.size W0 wk → Boxes wk w.heap.size (w.heap.size + 1) p s ∧ p.At wk ∧ s.At wk ∧ Below w.heap.size w wk) := fun wk h => ⟨X0.below h, (hp.below hWB).below h, (hs.below hWB).below h, hWB.trans (h.mono hWB.size)⟩
  have HW : Hid ((w.alloc (.cells #[.slice p.ab p.nb p.cb, .slice p.sa p.ns p.cs] 25)).alloc (.cells #[.slice s.on.a s.on.n s.on.c, .slice s.os.a s.os.n s.os.c, .slice s.hs.a s.hs.n s.hs.c, .slice s.ms.a s.ms.n s.ms.c, .slice s.si.a s.si.n s.si.c, .slice s.so.a s.so.n s.so.c, .slice s.sf.a s.sf.n s.sf.c] 31) = W0) := hW
  clear hW X0
  unfold Pl.val St.val
  go_enter Try.func18, Try.ntmps18
  go_wp2_with fail
  rw [HW.out]
  have hB : Below W0.heap.size W0 W0 := Below.refl _ _
  obtain ⟨X, hpk, hsk, hBw⟩ := HC.out W0 hB
  refine (shelfCheck_any p s.on W0 hpk hsk.on).mono ?_
  rintro e w1 ⟨rfl, hB1⟩
  have hB := hB.trans (hB1.mono hB.size)
  clear hB1 X hpk hsk hBw
  obtain ⟨X, hpk, hsk, hBw⟩ := HC.out w1 hB
  by_cases h0 : shelfE p s.on = 0
  · have E1 : Hid (shelfE p s.on = 0) := h0
    rw [h0]
    clear h0
    obtain ⟨⟨l1, d0, d1⟩, l2, c0, c1, c2, c3, c4, c5, c6⟩ := X
    go_wp2_with fail
    refine (tooMany_any s _ hsk).mono ?_
    rintro e w2 ⟨rfl, hB1⟩
    have hBn := hB.trans (hB1.mono hB.size)
    clear l1 d0 d1 l2 c0 c1 c2 c3 c4 c5 c6 hpk hsk hBw hB hB1
    have hB := hBn
    clear hBn
    obtain ⟨X, hpk, hsk, hBw⟩ := HC.out w2 hB
    cases hh2 : tooManyB s
    · have E2 : Hid (tooManyB s = false) := hh2
      clear hh2
      obtain ⟨⟨l1, d0, d1⟩, l2, c0, c1, c2, c3, c4, c5, c6⟩ := X
      go_wp2_with fail
      refine (badOrders_any p s _ hpk hsk).mono ?_
      rintro e w3 ⟨rfl, hB1⟩
      have hBn := hB.trans (hB1.mono hB.size)
      clear l1 d0 d1 l2 c0 c1 c2 c3 c4 c5 c6 hpk hsk hBw hB hB1
      have hB := hBn
      clear hBn
      obtain ⟨X, hpk, hsk, hBw⟩ := HC.out w3 hB
      cases hh3 : badOrdersB p s
      · have E3 : Hid (badOrdersB p s = false) := hh3
        clear hh3
        obtain ⟨⟨l1, d0, d1⟩, l2, c0, c1, c2, c3, c4, c5, c6⟩ := X
        go_wp2_with fail
        refine (badHolds_any p s _ hpk hsk).mono ?_
        rintro e w4 ⟨rfl, hB1⟩
        have hBn := hB.trans (hB1.mono hB.size)
        clear l1 d0 d1 l2 c0 c1 c2 c3 c4 c5 c6 hpk hsk hBw hB hB1
        have hB := hBn
        clear hBn
        obtain ⟨X, hpk, hsk, hBw⟩ := HC.out w4 hB
        cases hh4 : badHoldsB p s
        · have E4 : Hid (badHoldsB p s = false) := hh4
          clear hh4
          obtain ⟨⟨l1, d0, d1⟩, l2, c0, c1, c2, c3, c4, c5, c6⟩ := X
          go_wp2_with fail
          refine (badMoves_any p s _ hpk hsk).mono ?_
          rintro e w5 ⟨rfl, hB1⟩
          have hBn := hB.trans (hB1.mono hB.size)
          clear l1 d0 d1 l2 c0 c1 c2 c3 c4 c5 c6 hpk hsk hBw hB hB1
          have hB := hBn
          clear hBn
          obtain ⟨X, hpk, hsk, hBw⟩ := HC.out w5 hB
          cases hh5 : badMovesB p s
          · have E5 : Hid (badMovesB p s = false) := hh5
            clear hh5
            obtain ⟨⟨l1, d0, d1⟩, l2, c0, c1, c2, c3, c4, c5, c6⟩ := X
            go_wp2_with fail
            refine (badSums_any p s _ hpk hsk).mono ?_
            rintro e w6 ⟨rfl, hB1⟩
            have hBn := hB.trans (hB1.mono hB.size)
            clear l1 d0 d1 l2 c0 c1 c2 c3 c4 c5 c6 hpk hsk hBw hB hB1
            have hB := hBn
            clear hBn
            obtain ⟨X, hpk, hsk, hBw⟩ := HC.out w6 hB
            cases hh6 : badSumsB p s
            · have E6 : Hid (badSumsB p s = false) := hh6
              clear hh6
              have HF : Formed p s := formed E1.out E2.out E3.out E4.out E5.out E6.out
              obtain ⟨⟨l1, d0, d1⟩, l2, c0, c1, c2, c3, c4, c5, c6⟩ := X
              go_wp2_with fail
              refine (wrongGoods_any p s _ hpk hsk HF).mono ?_
              rintro e w7 ⟨rfl, hB1⟩
              have hBn := hB.trans (hB1.mono hB.size)
              clear l1 d0 d1 l2 c0 c1 c2 c3 c4 c5 c6 hpk hsk hBw hB hB1
              have hB := hBn
              clear hBn
              obtain ⟨X, hpk, hsk, hBw⟩ := HC.out w7 hB
              cases hh7 : wrongGoodsB p s
              · have E7 : Hid (wrongGoodsB p s = false) := hh7
                clear hh7
                obtain ⟨⟨l1, d0, d1⟩, l2, c0, c1, c2, c3, c4, c5, c6⟩ := X
                go_wp2_with fail
                refine (wrongOrders_any p s _ hsk HF).mono ?_
                rintro e w8 ⟨rfl, hB1⟩
                have hBn := hB.trans (hB1.mono hB.size)
                clear l1 d0 d1 l2 c0 c1 c2 c3 c4 c5 c6 hpk hsk hBw hB hB1
                have hB := hBn
                clear hBn
                obtain ⟨X, hpk, hsk, hBw⟩ := HC.out w8 hB
                cases hh8 : wrongOrdersB s
                · have E8 : Hid (wrongOrdersB s = false) := hh8
                  clear hh8
                  go_wp2_with fail
                  go_ret
                  exact ⟨by rw [stateE_sum E1.out E2.out E3.out E4.out E5.out E6.out, E7.out, E8.out]; rfl, hBw⟩
                · have E8 : Hid (wrongOrdersB s = true) := hh8
                  clear hh8
                  go_wp2_with fail
                  go_ret
                  exact ⟨by rw [stateE_sum E1.out E2.out E3.out E4.out E5.out E6.out, E8.out, Bool.or_true]; rfl, hBw⟩
              · have E7 : Hid (wrongGoodsB p s = true) := hh7
                clear hh7
                go_wp2_with fail
                go_ret
                exact ⟨by rw [stateE_sum E1.out E2.out E3.out E4.out E5.out E6.out, E7.out]; rfl, hBw⟩
            · have E6 : Hid (badSumsB p s = true) := hh6
              clear hh6
              go_wp2_with fail
              go_ret
              exact ⟨by rw [stateE_form E1.out E2.out (.inr (.inr (.inr E6.out)))]; rfl, hBw⟩
          · have E5 : Hid (badMovesB p s = true) := hh5
            clear hh5
            go_wp2_with fail
            go_ret
            exact ⟨by rw [stateE_form E1.out E2.out (.inr (.inr (.inl E5.out)))]; rfl, hBw⟩
        · have E4 : Hid (badHoldsB p s = true) := hh4
          clear hh4
          go_wp2_with fail
          go_ret
          exact ⟨by rw [stateE_form E1.out E2.out (.inr (.inl E4.out))]; rfl, hBw⟩
      · have E3 : Hid (badOrdersB p s = true) := hh3
        clear hh3
        go_wp2_with fail
        go_ret
        exact ⟨by rw [stateE_form E1.out E2.out (.inl E3.out)]; rfl, hBw⟩
    · have E2 : Hid (tooManyB s = true) := hh2
      clear hh2
      go_wp2_with fail
      go_ret
      exact ⟨by rw [stateE_many E1.out E2.out]; rfl, hBw⟩
  · have HE : Hid (stateE p s = shelfE p s.on) := stateE_shelf h0
    go_wp2_with fail
    go_ret
    exact ⟨by rw [HE.out]; rfl, hBw⟩
end Go.Proofs.Ytbcacebifpagpaf
namespace Go.Proofs.Ytbcacebifpagpaf
open Go.RowKit
set_option linter.unusedVariables false
theorem pos_exists {z : Nat → Hd} {h : Hd} (hf : fineH h = true) : ∀ n, anyB n (badH z) = false → ∃ i, PosH n z h i
  | 0, _ => ⟨0, Nat.le_refl _, fun q hq => absurd hq (Nat.not_lt_zero _), fun q _ hq => absurd hq (Nat.not_lt_zero _)⟩
  | n + 1, hr => by
    obtain ⟨i, hp⟩ := pos_exists hf n (right_pred hr)
    have hle := hp.le
    by_cases hi : i = n
    · by_cases hc : cmpH (z n) h < 0
      · exact ⟨n + 1, Nat.le_refl _, fun q hq => by
          by_cases hqn : q = n
          · subst hqn; exact hc
          · exact hp.lo q (by omega), fun q h1 h2 => by omega⟩
      · refine ⟨n, by omega, fun q hq => hp.lo q (by omega), fun q h1 h2 => ?_⟩
        have : q = n := by omega
        subst this; omega
    · refine ⟨i, by omega, hp.lo, fun q h1 h2 => ?_⟩
      by_cases hqn : q = n
      · subst hqn
        have a := hp.hi i (Nat.le_refl _) (by omega)
        have k1 := (cmp_key (right_fine hr i (by omega)) hf).1
        have k2 := (cmp_key (right_fine hr q (by omega)) hf).1
        have k3 := right_lt hr i q (by omega) (by omega)
        omega
      · exact hp.hi q h1 (by omega)
theorem pos_key {n : Nat} {z : Nat → Hd} {h : Hd} (hr : anyB n (badH z) = false) (hf : fineH h = true) :
    addPos n z h ≤ n ∧ (∀ j, j < addPos n z h → keyH (z j) < keyH h) ∧ (∀ j, addPos n z h ≤ j → j < n → keyH h ≤ keyH (z j)) := by
  obtain ⟨i, hp⟩ := pos_exists hf n hr
  rw [addPos_eq hp]
  have hle := hp.le
  refine ⟨hp.le, fun j hj => ?_, fun j hj hjn => ?_⟩
  · have := hp.lo j hj
    have := (cmp_key (right_fine hr j (by omega)) hf).1
    omega
  · have := hp.hi j hj hjn
    have := (cmp_key (right_fine hr j hjn) hf).1
    omega
theorem key_match {x y : Hd} (hx : fineH x = true) (hy : fineH y = true) (h : keyH x = keyH y) : matchH x y.o y.l y.b = true := by
  have a := fineH_true hx
  have b := fineH_true hy
  unfold keyH at h
  have h1 : x.o = y.o := by omega
  have h2 : x.l = y.l := by omega
  have h3 : x.b = y.b := by omega
  simp [matchH, h1, h2, h3]
theorem right_mk {n : Nat} {z : Nat → Hd} (hf : ∀ i, i < n → fineH (z i) = true) (hs : ∀ i, i + 1 < n → keyH (z i) < keyH (z (i + 1))) : anyB n (badH z) = false := by
  rw [← bad_eq]
  refine anyB_no fun j hj => ?_
  unfold badK
  rw [hf j hj]
  by_cases h0 : 0 < j
  · have := hs (j - 1) (by omega)
    rw [show j - 1 + 1 = j by omega] at this
    simp only [Bool.not_true, Bool.false_or, Bool.and_eq_false_imp, decide_eq_true_eq, decide_eq_false_iff_not]
    intro _
    omega
  · simp [h0]
theorem kept_at {n k : Nat} {z : Nat → Hd} {o l b : Int} (hr : anyB n (badH z) = false) (hk : k < n) (hm : matchH (z k) o l b = true) : keptV n z o l b = (z k).n ∧ dropI n z o l b = k := by
  have lo : ∀ j, j < k → matchH (z j) o l b = false := fun j hj => by
    cases hq : matchH (z j) o l b
    · rfl
    · have := matchH_key hq hm
      have := right_lt hr j k hj hk
      omega
  exact ⟨keptV_some hk lo hm, dropI_some hk lo hm⟩
theorem kept_no {n : Nat} {z : Nat → Hd} {o l b : Int} (hr : anyB n (badH z) = false) (h0 : keptV n z o l b = 0) : ∀ j, j < n → matchH (z j) o l b = false := by
  rcases keptV_cases n z o l b with h | ⟨k, hkn, h1, h2⟩
  · exact h
  · rw [keptV_some hkn h1 h2] at h0
    have := (fineH_true (right_fine hr k hkn)).2.2.2
    omega
theorem insZ_lt {z : Nat → Hd} {i j : Nat} {h : Hd} (hj : j < i) : insZ z i h j = z j := by unfold insZ; rw [if_pos hj]
theorem insZ_eq {z : Nat → Hd} {i : Nat} {h : Hd} : insZ z i h i = h := by unfold insZ; rw [if_neg (by omega), if_pos rfl]
theorem insZ_gt {z : Nat → Hd} {i j : Nat} {h : Hd} (hj : i < j) : insZ z i h j = z (j - 1) := by unfold insZ; rw [if_neg (by omega), if_neg (by omega)]
theorem setZ_eq {z : Nat → Hd} {i : Nat} {h : Hd} : setZ z i h i = h := if_pos rfl
theorem setZ_ne {z : Nat → Hd} {i j : Nat} {h : Hd} (hj : ¬ j = i) : setZ z i h j = z j := if_neg hj
theorem match_same {x y : Hd} {o l b : Int} (h1 : matchH x y.o y.l y.b = true) : matchH x o l b = matchH y o l b := by
  have a := matchH_true h1
  unfold matchH
  rw [a.1, a.2.1, a.2.2]
theorem add_ins {n : Nat} {z : Nat → Hd} {h : Hd} (hr : anyB n (badH z) = false) (hf : fineH h = true) (h0 : keptV n z h.o h.l h.b = 0) :
    anyB (n + 1) (badH (insZ z (addPos n z h) h)) = false ∧ (∀ o l b, keptV (n + 1) (insZ z (addPos n z h) h) o l b = keptV n z o l b + if matchH h o l b then h.n else 0) ∧
      dropI (n + 1) (insZ z (addPos n z h) h) h.o h.l h.b = addPos n z h := by
  obtain ⟨p1, p2, p3⟩ := pos_key hr hf
  have no := kept_no hr h0
  generalize addPos n z h = p at p1 p2 p3 ⊢
  have hs : ∀ j, p ≤ j → j < n → keyH h < keyH (z j) := fun j hj hjn => by
    have a := p3 j hj hjn
    have b : ¬ keyH (z j) = keyH h := fun e => by
      have := key_match (right_fine hr j hjn) hf e
      rw [no j hjn] at this
      cases this
    omega
  have hR : anyB (n + 1) (badH (insZ z p h)) = false := by
    refine right_mk (fun i hi => ?_) (fun i hi => ?_)
    · rcases Nat.lt_trichotomy i p with hip | hip | hip
      · rw [insZ_lt hip]; exact right_fine hr i (by omega)
      · subst hip; rw [insZ_eq]; exact hf
      · rw [insZ_gt hip]; exact right_fine hr (i - 1) (by omega)
    · rcases Nat.lt_trichotomy i p with hip | hip | hip
      · rw [insZ_lt hip]
        by_cases hq : i + 1 = p
        · subst hq; rw [insZ_eq]; exact p2 i (by omega)
        · rw [insZ_lt (by omega)]; exact right_step hr i (by omega)
      · subst hip
        rw [insZ_eq, insZ_gt (by omega)]
        exact hs _ (by omega) (by omega)
      · rw [insZ_gt hip, insZ_gt (by omega)]
        have := right_step hr (i - 1) (by omega)
        rw [show i - 1 + 1 = i + 1 - 1 by omega] at this
        exact this
  have hat := kept_at (o := h.o) (l := h.l) (b := h.b) hR (show p < n + 1 by omega) (by rw [insZ_eq]; simp [matchH])
  refine ⟨hR, fun o l b => ?_, hat.2⟩
  cases hm : matchH h o l b
  · simp only [Bool.false_eq_true, if_false, Int.add_zero]
    rcases keptV_cases n z o l b with hn | ⟨k, hk, h1, h2⟩
    · rw [keptV_none hn]
      refine keptV_none fun j hj => ?_
      rcases Nat.lt_trichotomy j p with hip | hip | hip
      · rw [insZ_lt hip]; exact hn j (by omega)
      · subst hip; rw [insZ_eq]; exact hm
      · rw [insZ_gt hip]; exact hn (j - 1) (by omega)
    · rw [keptV_some hk h1 h2]
      by_cases hkp : k < p
      · have := (kept_at (o := o) (l := l) (b := b) hR (show k < n + 1 by omega) (by rw [insZ_lt hkp]; exact h2)).1
        rw [this, insZ_lt hkp]
      · have e : insZ z p h (k + 1) = z k := by rw [insZ_gt (by omega), Nat.add_sub_cancel]
        have := (kept_at (o := o) (l := l) (b := b) hR (show k + 1 < n + 1 by omega) (by rw [e]; exact h2)).1
        rw [this, e]
  · have a := matchH_true hm
    rw [← a.1, ← a.2.1, ← a.2.2, h0, hat.1, insZ_eq]
    simp
theorem add_set {n : Nat} {z : Nat → Hd} {h : Hd} (hr : anyB n (badH z) = false) (hf : fineH h = true) (h0 : ¬ keptV n z h.o h.l h.b = 0) (h2 : keptV n z h.o h.l h.b + h.n ≤ 200) :
    anyB n (badH (setZ z (addPos n z h) ⟨h.o, h.l, h.b, keptV n z h.o h.l h.b + h.n⟩)) = false ∧ (∀ o l b, keptV n (setZ z (addPos n z h) ⟨h.o, h.l, h.b, keptV n z h.o h.l h.b + h.n⟩) o l b = keptV n z o l b + if matchH h o l b then h.n else 0) ∧
      dropI n (setZ z (addPos n z h) ⟨h.o, h.l, h.b, keptV n z h.o h.l h.b + h.n⟩) h.o h.l h.b = addPos n z h ∧ addPos n z h < n ∧ matchH (z (addPos n z h)) h.o h.l h.b = true ∧ dropI n z h.o h.l h.b = addPos n z h := by
  obtain ⟨p1, p2, p3⟩ := pos_key hr hf
  obtain ⟨q1, q2, q3, q4, q5⟩ := kept_pos hr h0
  have hkey : keyH (z (dropI n z h.o h.l h.b)) = keyH h := match_key (n := h.n) q2
  have hp : dropI n z h.o h.l h.b = addPos n z h := by
    rcases Nat.lt_trichotomy (dropI n z h.o h.l h.b) (addPos n z h) with c | c | c
    · have := p2 _ c; omega
    · exact c
    · have := q4 _ c
      have := p3 _ (Nat.le_refl _) (by omega)
      omega
  rw [hp] at q1 q2 q3 q4 q5 hkey ⊢
  generalize addPos n z h = p at p1 p2 p3 q1 q2 q3 q4 q5 hkey hp ⊢
  generalize hK : keptV n z h.o h.l h.b = K at h0 h2 q3 ⊢
  have hfz := fineH_true (right_fine hr p q1)
  have hfh := fineH_true hf
  have hkn : keyH ⟨h.o, h.l, h.b, K + h.n⟩ = keyH (z p) := by rw [hkey]; rfl
  have hR : anyB n (badH (setZ z p ⟨h.o, h.l, h.b, K + h.n⟩)) = false := by
    refine right_mk (fun i hi => ?_) (fun i hi => ?_)
    · by_cases hip : i = p
      · subst hip; rw [setZ_eq]
        simp only [fineH, Bool.and_eq_true]
        exact ⟨⟨⟨inB_mk (by omega), inB_mk (by omega)⟩, inB_mk (by omega)⟩, inB_mk (by show 1 ≤ K + h.n ∧ K + h.n ≤ 200; omega)⟩
      · rw [setZ_ne hip]; exact right_fine hr i hi
    · have hst := right_step hr i hi
      by_cases hip : i = p
      · subst hip; rw [setZ_eq, setZ_ne (by omega), hkn]; exact hst
      · rw [setZ_ne hip]
        by_cases hiq : i + 1 = p
        · rw [hiq, setZ_eq, hkn, ← hiq]; exact hst
        · rw [setZ_ne hiq]; exact hst
  have hat := kept_at (o := h.o) (l := h.l) (b := h.b) hR q1 (by rw [setZ_eq]; simp [matchH])
  refine ⟨hR, fun o l b => ?_, hat.2, q1, q2, rfl⟩
  cases hm : matchH h o l b
  · simp only [Bool.false_eq_true, if_false, Int.add_zero]
    have hzp : matchH (z p) o l b = false := by rw [match_same q2]; exact hm
    rcases keptV_cases n z o l b with hn | ⟨k, hk, h1, h3⟩
    · rw [keptV_none hn]
      refine keptV_none fun j hj => ?_
      by_cases hip : j = p
      · subst hip; rw [setZ_eq]; exact hm
      · rw [setZ_ne hip]; exact hn j hj
    · rw [keptV_some hk h1 h3]
      have hkp : ¬ k = p := fun e => by subst e; rw [hzp] at h3; cases h3
      have := (kept_at (o := o) (l := l) (b := b) hR hk (by rw [setZ_ne hkp]; exact h3)).1
      rw [this, setZ_ne hkp]
  · have a := matchH_true hm
    rw [← a.1, ← a.2.1, ← a.2.2, hK, hat.1, setZ_eq]
    simp
end Go.Proofs.Ytbcacebifpagpaf
namespace Go.Proofs.Ytbcacebifpagpaf
open Go.RowKit
set_option linter.unusedVariables false
theorem ext_half {n m : Nat} {z y : Nat → Hd} (hr : anyB n (badH z) = false) (hq : anyB m (badH y) = false) (hk : ∀ o l b, keptV n z o l b = keptV m y o l b) (j : Nat)
    (ih : ∀ i, i < j → i < m → i < n ∧ z i = y i) (hj : j < n) : j < m ∧ keyH (y j) ≤ keyH (z j) := by
  have a := (kept_at hr hj (matchH_self (z j))).1
  have f := (fineH_true (right_fine hr j hj)).2.2.2
  rw [hk] at a
  obtain ⟨q1, q2, q3, q4, q5⟩ := kept_pos (o := (z j).o) (l := (z j).l) (b := (z j).b) hq (by omega)
  generalize dropI m y (z j).o (z j).l (z j).b = k at q1 q2 q3 q4 q5
  have hkey : keyH (y k) = keyH (z j) := match_key (n := (z j).n) q2
  have hjk : j ≤ k := by
    rcases Nat.lt_or_ge k j with c | c
    · obtain ⟨_, e⟩ := ih k c q1
      have := right_lt hr k j c hj
      rw [e] at this
      omega
    · exact c
  refine ⟨by omega, ?_⟩
  by_cases e : j = k
  · rw [e] at hkey ⊢; omega
  · have := q4 j (by omega); omega
theorem ext_at {n m : Nat} {z y : Nat → Hd} (hr : anyB n (badH z) = false) (hq : anyB m (badH y) = false) (hk : ∀ o l b, keptV n z o l b = keptV m y o l b) :
    ∀ k j, j < k → (j < n → j < m ∧ z j = y j) ∧ (j < m → j < n ∧ z j = y j) := by
  intro k
  induction k with
  | zero => intro j hj; omega
  | succ k ih =>
    intro j hj
    by_cases hjk : j < k
    · exact ih j hjk
    · have e : j = k := by omega
      subst e
      have both : j < n → j < m → z j = y j := fun h1 h2 => by
        have a := (ext_half hr hq hk j (fun i hi him => (ih i hi).2 him) h1).2
        have b := (ext_half hq hr (fun o l b => (hk o l b).symm) j (fun i hi him => ⟨((ih i hi).1 him).1, ((ih i hi).1 him).2.symm⟩) h2).2
        have hm := key_match (right_fine hr j h1) (right_fine hq j h2) (by omega)
        have k1 := (kept_at hr h1 hm).1
        have k2 := (kept_at hq h2 (matchH_self (y j))).1
        rw [hk, k2] at k1
        have c := matchH_true hm
        cases hz : z j
        cases hy : y j
        rw [hz, hy] at c k1
        simp only at c k1
        simp [c, k1]
      exact ⟨fun h => ⟨(ext_half hr hq hk j (fun i hi him => (ih i hi).2 him) h).1, both h (ext_half hr hq hk j (fun i hi him => (ih i hi).2 him) h).1⟩,
        fun h => ⟨(ext_half hq hr (fun o l b => (hk o l b).symm) j (fun i hi him => ⟨((ih i hi).1 him).1, ((ih i hi).1 him).2.symm⟩) h).1, both (ext_half hq hr (fun o l b => (hk o l b).symm) j (fun i hi him => ⟨((ih i hi).1 him).1, ((ih i hi).1 him).2.symm⟩) h).1 h⟩⟩
theorem right_ext {n m : Nat} {z y : Nat → Hd} (hr : anyB n (badH z) = false) (hq : anyB m (badH y) = false) (hk : ∀ o l b, keptV n z o l b = keptV m y o l b) : n = m ∧ ∀ j, j < n → z j = y j := by
  have h := ext_at hr hq hk
  refine ⟨?_, fun j hj => ((h (j + 1) j (by omega)).1 hj).2⟩
  rcases Nat.lt_trichotomy n m with c | c | c
  · have := ((h (n + 1) n (by omega)).2 c).1; omega
  · exact c
  · have := ((h (m + 1) m (by omega)).1 c).1; omega
theorem add_both {n : Nat} {z : Nat → Hd} {h : Hd} (hr : anyB n (badH z) = false) (hf : fineH h = true) (h2 : keptV n z h.o h.l h.b + h.n ≤ 200) :
    anyB (addLen n z h) (badH (addZ n z h)) = false ∧ ∀ o l b, keptV (addLen n z h) (addZ n z h) o l b = keptV n z o l b + if matchH h o l b then h.n else 0 := by
  by_cases h0 : keptV n z h.o h.l h.b = 0
  · have e1 : addLen n z h = n + 1 := if_pos h0
    have e2 : addZ n z h = insZ z (addPos n z h) h := if_pos h0
    rw [e1, e2]
    obtain ⟨a, b, _⟩ := add_ins hr hf h0
    exact ⟨a, b⟩
  · have e1 : addLen n z h = n := if_neg h0
    have e2 : addZ n z h = setZ z (addPos n z h) ⟨h.o, h.l, h.b, keptV n z h.o h.l h.b + h.n⟩ := if_neg h0
    rw [e1, e2]
    obtain ⟨a, b, _⟩ := add_set hr hf h0 h2
    exact ⟨a, b⟩
theorem addE_zero {n : Nat} {z : Nat → Hd} {h : Hd} (e : addE n z h = 0) : anyB n (badH z) = false ∧ fineH h = true ∧ keptV n z h.o h.l h.b + h.n ≤ 200 := by
  unfold addE at e
  by_cases h0 : checkH n z = 0
  · rw [if_pos h0] at e
    cases hf : fineH h
    · rw [hf] at e; simp at e
    · rw [hf] at e
      simp only [if_true] at e
      by_cases h2 : 200 < keptV n z h.o h.l h.b + h.n
      · rw [if_pos h2] at e; omega
      · exact ⟨checkH_zero h0, rfl, by omega⟩
  · rw [if_neg h0] at e; exact absurd e h0
theorem checkH_right {n : Nat} {z : Nat → Hd} (h : anyB n (badH z) = false) : checkH n z = 0 := by unfold checkH; rw [h]; rfl
theorem badH_congr {z y : Nat → Hd} {n : Nat} (h : ∀ j, j < n → z j = y j) : anyB n (badH z) = anyB n (badH y) := by
  have e : ∀ j, j < n → badH z j = badH y j := fun j hj => by
    unfold badH
    rw [h j hj]
    by_cases h0 : 0 < j
    · rw [h (j - 1) (by omega)]
    · simp [h0]
  cases hq : anyB n (badH y)
  · exact anyB_no fun j hj => by rw [e j hj]; exact anyB_false hq j hj
  · cases hz : anyB n (badH z)
    · have : anyB n (badH y) = false := anyB_no fun j hj => by rw [← e j hj]; exact anyB_false hz j hj
      rw [this] at hq; cases hq
    · rfl
theorem keptV_congr {z y : Nat → Hd} {n : Nat} (h : ∀ j, j < n → z j = y j) (o l b : Int) : keptV n z o l b = keptV n y o l b := by
  rcases keptV_cases n y o l b with hn | ⟨k, hk, h1, h2⟩
  · rw [keptV_none hn, keptV_none fun j hj => by rw [h j hj]; exact hn j hj]
  · rw [keptV_some hk h1 h2, keptV_some hk (fun j hj => by rw [h j (by omega)]; exact h1 j hj) (by rw [h k hk]; exact h2), h k hk]
theorem keptS_congr {z y : Nat → Hd} (o l : Int) : ∀ {n : Nat}, (∀ j, j < n → z j = y j) → keptS z o l n = keptS y o l n
  | 0, _ => rfl
  | n + 1, h => by
    simp only [keptS]
    rw [keptS_congr o l (n := n) fun j hj => h j (by omega), h n (by omega)]
theorem AddOK.right {n : Nat} {z : Nat → Hd} {h : Hd} {x : Hs} (hx : AddOK n z h x) (e : addE n z h = 0) :
    anyB x.n (badH x.z) = false ∧ ∀ o l b, keptV x.n x.z o l b = keptV n z o l b + if matchH h o l b then h.n else 0 := by
  obtain ⟨a, b, c⟩ := addE_zero e
  obtain ⟨r, k⟩ := add_both a b c
  have hn : x.n = addLen n z h := by have := hx.1; rw [if_pos e] at this; exact this
  have hz := hx.2
  rw [hn] at hz ⊢
  exact ⟨by rw [badH_congr hz]; exact r, fun o l b => by rw [keptV_congr hz]; exact k o l b⟩
theorem AddOK.none {n : Nat} {z : Nat → Hd} {h : Hd} {x : Hs} (hx : AddOK n z h x) (e : ¬ addE n z h = 0) : x.n = 0 := by
  have := hx.1; rw [if_neg e] at this; exact this
end Go.Proofs.Ytbcacebifpagpaf
namespace Go.Proofs.Ytbcacebifpagpaf
open Go.RowKit
set_option linter.unusedVariables false
theorem homeless_mk {p : Pl} {s : St} {h : Hd} (h1 : 0 ≤ h.o ∧ h.o.toNat < s.os.n) (h2 : 0 ≤ h.l ∧ h.l.toNat < (s.os.z h.o.toNat).ls.n) (h3 : 0 ≤ h.b ∧ h.b < p.nb) : homeless p s h = false := by
  unfold homeless
  rw [inB_mk (by omega), inB_mk (by omega), inB_mk (by omega)]
  rfl
theorem heldTo_eq {x s : St} {b g : Int} : ∀ {k : Nat}, (∀ j, j < k → x.hs.z j = s.hs.z j) → (∀ j, j < k → goodH x (s.hs.z j) = goodH s (s.hs.z j)) → heldTo x b g k = heldTo s b g k
  | 0, _, _ => rfl
  | k + 1, h1, h2 => by
    simp only [heldTo]
    rw [heldTo_eq (k := k) (fun j hj => h1 j (by omega)) (fun j hj => h2 j (by omega)), h1 k (by omega), h2 k (by omega)]
theorem fromTo_eq {x s : St} {b g : Int} : ∀ {k : Nat}, (∀ j, j < k → x.ms.z j = s.ms.z j) → fromTo x b g k = fromTo s b g k
  | 0, _ => rfl
  | k + 1, h1 => by
    simp only [fromTo]
    rw [fromTo_eq (k := k) (fun j hj => h1 j (by omega)), h1 k (by omega)]
section
variable {p : Pl} {x t : St}
theorem SameT.held (h : SameT x t) (f : Formed p t) (b g : Int) : heldTo x b g x.hs.n = heldTo t b g t.hs.n := by
  rw [h.hs.1]
  refine heldTo_eq (fun j hj => h.hs.2 j (by rw [h.hs.1]; exact hj)) (fun j hj => ?_)
  obtain ⟨h1, h2, -⟩ := homeless_no (f.home j hj)
  unfold goodH
  have o := h.os.2 (t.hs.z j).o.toNat (by rw [h.os.1]; exact h1.2)
  rw [o.2.2 (t.hs.z j).l.toNat (by rw [o.2.1]; exact h2.2)]
theorem SameT.from (h : SameT x t) (b g : Int) : fromTo x b g x.ms.n = fromTo t b g t.ms.n := by
  rw [h.ms.1]
  exact fromTo_eq fun j hj => h.ms.2 j (by rw [h.ms.1]; exact hj)
theorem SameT.num (h : SameT x t) (f : Formed p t) {b g : Nat} (hb : b < p.nb) (hg : g < p.ns) : (x.on.r b).z g = (t.on.r b).z g := by
  have hb' : b < t.on.n := by rw [f.sh.n]; exact hb
  have r := h.on.2 b (by rw [h.on.1]; exact hb')
  exact r.2 g (by rw [r.1, f.sh.len b hb']; exact hg)
theorem SameT.avail (h : SameT x t) (f : Formed p t) {b g : Nat} (hb : b < p.nb) (hg : g < p.ns) : availZ x b g = availZ t b g := by
  unfold availZ
  rw [h.num f hb hg, h.held f, h.from]
theorem SameT.formed (h : SameT x t) (f : Formed p t) : Formed p x := by
  have hp := (rightS f.sh0).1
  have hs : RightS p x.on := ⟨f.sh.pl, h.on.1.trans f.sh.n, fun i hi => (h.on.2 i hi).1.trans (f.sh.len i (by rw [← h.on.1]; exact hi)), fun i hi j hj => by
    have hi' : i < t.on.n := by rw [← h.on.1]; exact hi
    rw [h.num f (by rw [← f.sh.n]; exact hi') hj]
    exact f.sh.num i hi' j hj⟩
  have o : ∀ i, i < x.os.n → i < t.os.n := fun i hi => by rw [← h.os.1]; exact hi
  refine ⟨hs, shelfE_mk hp hs, by rw [h.os.1]; exact f.os4, by rw [h.ms.1]; exact f.ms8, fun i hi => by rw [(h.os.2 i hi).2.1]; exact f.lns i (o i hi), fun i hi => by rw [(h.os.2 i hi).1]; exact f.kind i (o i hi), fun i hi j hj => ?_, ?_, fun i hi => ?_, fun i hi => ?_, h.si.1.trans f.sin, h.so.1.trans f.son, h.sf.1.trans f.sfn, fun j hj => ?_, fun j hj => ?_, fun j hj => ?_⟩
  · rw [(h.os.2 i hi).2.2 j hj]
    exact f.line i (o i hi) j (by rw [← (h.os.2 i hi).2.1]; exact hj)
  · rw [h.hs.1, badH_congr fun j hj => h.hs.2 j (by rw [h.hs.1]; exact hj)]
    exact f.hold
  · have hi' : i < t.hs.n := by rw [← h.hs.1]; exact hi
    obtain ⟨h1, h2, h3⟩ := homeless_no (f.home i hi')
    rw [h.hs.2 i hi]
    have h1' : (t.hs.z i).o.toNat < x.os.n := by rw [h.os.1]; exact h1.2
    exact homeless_mk ⟨h1.1, h1'⟩ ⟨h2.1, by rw [(h.os.2 _ h1').2.1]; exact h2.2⟩ h3
  · rw [h.ms.2 i hi]
    exact f.move i (by rw [← h.ms.1]; exact hi)
  · rw [h.si.2 j (by rw [h.si.1, f.sin]; exact hj)]; exact f.sib j hj
  · rw [h.so.2 j (by rw [h.so.1, f.son]; exact hj)]; exact f.sob j hj
  · rw [h.sf.2 j (by rw [h.sf.1, f.sfn]; exact hj)]; exact f.sfb j hj
theorem SameT.right (h : SameT x t) (r : RightT p t) : RightT p x := by
  have f := r.fm
  refine ⟨h.formed f, fun g hg => ?_, fun i hi => ?_⟩
  · have := r.goods g hg
    rw [wrongGood_eq] at this ⊢
    rw [← this]
    congr 1
    · have e : sumTo (fun i => (x.on.r i).z g) x.on.n = sumTo (fun i => (t.on.r i).z g) t.on.n := by
        rw [h.on.1]
        exact sumTo_congr fun i hi => h.num f (by rw [← f.sh.n]; exact hi) hg
      rw [e, h.si.2 g (by rw [h.si.1, f.sin]; exact hg), h.so.2 g (by rw [h.so.1, f.son]; exact hg), h.sf.2 g (by rw [h.sf.1, f.sfn]; exact hg)]
    · exact anyB_congr fun b hb => by rw [h.avail f hb hg]
  · have hi' : i < t.os.n := by rw [← h.os.1]; exact hi
    have := r.orders i hi'
    rw [← this]
    obtain ⟨e1, e2, e3⟩ := h.os.2 i hi
    unfold wrongOrder
    rw [e1, e2]
    congr 1
    · congr 2
      exact anyB_congr fun j hj => by rw [e3 j (by rw [e2]; exact hj)]
    · refine anyB_congr fun j hj => ?_
      rw [e3 j (by rw [e2]; exact hj), h.hs.1, keptS_congr _ _ fun j hj => h.hs.2 j (by rw [h.hs.1]; exact hj)]
end
end Go.Proofs.Ytbcacebifpagpaf
namespace Go.Proofs.Ytbcacebifpagpaf
open Go.RowKit Go.Shelf
set_option linter.unusedVariables false
def frL (p : Pl) (f : Bool) (k : Nat) : List Int := ((List.range k).filter (fun i => (p.zb i).front == f)).map Int.ofNat
theorem frL_hit {p : Pl} {f : Bool} {k : Nat} (h : (p.zb k).front = f) : frL p f (k + 1) = frL p f k ++ [(k : Int)] := by simp [frL, List.range_succ, h]
theorem frL_miss {p : Pl} {f : Bool} {k : Nat} (h : ¬ (p.zb k).front = f) : frL p f (k + 1) = frL p f k := by simp [frL, List.range_succ, h]
def wayL (p : Pl) : List Int := frL p true p.nb ++ frL p false p.nb
theorem Rw.ofOwns {w : World} {base : Nat} {v : Value} {xs : List Int} (h : w.ownsRow base 3 1 v xs.length (xs.map (Value.int .i64))) : ∃ r : Rw, v = r.val ∧ r.At w ∧ r.n = xs.length ∧ ∀ j, j < r.n → r.z j = xs.getD j 0 := by
  by_cases hv : v = .slice Option.none 0 0
  · subst hv
    have h0 : xs.length = 0 := by
      rcases h.2 with ⟨_, h0⟩ | ⟨g2, cap2, cur2, e, _⟩
      · exact h0
      · cases e
    exact ⟨⟨Option.none, 0, 0, fun _ => 0⟩, rfl, ⟨Nat.le_refl _, Nat.zero_le _, fun i hi => absurd hi (Nat.not_lt_zero _)⟩, h0.symm, fun j hj => absurd hj (Nat.not_lt_zero _)⟩
  · obtain ⟨g, c, rfl, h1, h2, h3, h4⟩ := Blk.ofOwns h hv
    rw [Nat.mul_one] at h4
    refine ⟨⟨some ⟨g, 0, Option.none⟩, xs.length, c, fun j => xs.getD j 0⟩, rfl, ⟨h1, h2, fun i hi => ?_⟩, rfl, fun j _ => rfl⟩
    have hi' : i < xs.length := hi
    refine ⟨g, 0, rfl, h4.lt, ?_⟩
    have := h4.cell (j := i) hi'
    rw [Nat.zero_add, this]
    simp [List.getD, hi']
end Go.Proofs.Ytbcacebifpagpaf
namespace Go.Proofs.Ytbcacebifpagpaf
open Go.RowKit
set_option linter.unusedVariables false
def wayB (p : Pl) (x : Int) : Bool := (p.zb x.toNat).front
theorem frL_mem {p : Pl} {f : Bool} {k : Nat} {x : Int} (h : x ∈ frL p f k) : 0 ≤ x ∧ x < k ∧ wayB p x = f := by
  simp only [frL, List.mem_map, List.mem_filter, List.mem_range, beq_iff_eq] at h
  obtain ⟨i, ⟨hi, hf⟩, rfl⟩ := h
  exact ⟨Int.natCast_nonneg _, by simp only [Int.ofNat_eq_natCast]; omega, hf⟩
theorem frL_pw (p : Pl) (f : Bool) : ∀ k, (frL p f k).Pairwise (· < ·)
  | 0 => by simp [frL]
  | k + 1 => by
    by_cases h : (p.zb k).front = f
    · rw [frL_hit h, List.pairwise_append]
      refine ⟨frL_pw p f k, List.pairwise_singleton _ _, fun x hx y hy => ?_⟩
      rw [List.mem_singleton] at hy
      have := (frL_mem hx).2.1
      omega
    · rw [frL_miss h]; exact frL_pw p f k
theorem way_mem {p : Pl} {x : Int} (h : x ∈ wayL p) : 0 ≤ x ∧ x < p.nb := by
  unfold wayL at h
  rw [List.mem_append] at h
  rcases h with h | h
  · exact ⟨(frL_mem h).1, (frL_mem h).2.1⟩
  · exact ⟨(frL_mem h).1, (frL_mem h).2.1⟩
theorem way_pw (p : Pl) : (wayL p).Pairwise (fun x y => ¬ x = y ∧ (wayB p y = true → wayB p x = true) ∧ (wayB p x = wayB p y → x < y)) := by
  unfold wayL
  rw [List.pairwise_append]
  refine ⟨?_, ?_, fun x hx y hy => ?_⟩
  · refine List.Pairwise.imp_of_mem ?_ (frL_pw p true p.nb)
    intro x y hx hy h
    exact ⟨by omega, fun _ => (frL_mem hx).2.2, fun _ => h⟩
  · refine List.Pairwise.imp_of_mem ?_ (frL_pw p false p.nb)
    intro x y hx hy h
    refine ⟨by omega, fun e => ?_, fun _ => h⟩
    rw [(frL_mem hy).2.2] at e; cases e
  · have a := (frL_mem hx).2.2
    have b := (frL_mem hy).2.2
    refine ⟨fun e => ?_, fun e => a, fun e => ?_⟩
    · rw [e, b] at a; cases a
    · rw [a, b] at e; cases e
end Go.Proofs.Ytbcacebifpagpaf
namespace Go.Proofs.Ytbcacebifpagpaf
open Go.RowKit Go.Shelf
set_option linter.unusedVariables false
def Cloned (A : Nat) (e : TypeId) (s : Hs) (w' : World) (s' : Hs) : Prop := s'.n = s.n ∧ (∀ j, j < s.n → s'.z j = s.z j) ∧ OwnH A e w' s' ∧ Room A w' e 4 s'.a s'.c
theorem OwnH.ofOwns {w : World} {base : Nat} {e : TypeId} {v : Value} {n : Nat} {z : Nat → Hd} (h : w.ownsRow base e 4 v n (flatH n z)) (hn : v ≠ .slice none 0 0) : ∃ s : Hs, v = s.val ∧ s.n = n ∧ s.z = z ∧ OwnH base e w s ∧ Room base w e 4 s.a s.c := by
  obtain ⟨g, c, rfl, h1, h2, h3, h4⟩ := Blk.ofOwns h hn
  exact ⟨⟨some ⟨g, 0, none⟩, n, c, z⟩, rfl, rfl, rfl, ⟨h1, h2, (fun e => by cases e), fun _ => ⟨g, rfl, h3, h4⟩⟩, Room.ofOwns h (Nat.le_refl _)⟩
end Go.Proofs.Ytbcacebifpagpaf
namespace Go.Proofs.Ytbcacebifpagpaf
open Go.RowKit Go.Shelf
set_option linter.unusedVariables false
def odCells (x : Od) : List Value := [.int .i64 x.k, .slice x.ls.a x.ls.n x.ls.c]
def flatO : Nat → (Nat → Od) → List Value
  | 0, _ => []
  | n + 1, z => flatO n z ++ odCells (z n)
theorem flatO_len : ∀ (n : Nat) (z : Nat → Od), (flatO n z).length = n * 2
  | 0, _ => rfl
  | n + 1, z => by rw [flatO, List.length_append, flatO_len n z]; simp [odCells]; omega
theorem flatO_get : ∀ (n : Nat) (z : Nat → Od) (i c : Nat), i < n → c < 2 → (flatO n z)[i * 2 + c]? = (odCells (z i))[c]?
  | 0, _, i, c, hi, _ => absurd hi (Nat.not_lt_zero _)
  | n + 1, z, i, c, hi, hc => by
    rw [flatO]
    by_cases h : i = n
    · subst h
      rw [List.getElem?_append_right (by rw [flatO_len]; omega), flatO_len]
      congr 1
      omega
    · rw [List.getElem?_append_left (by rw [flatO_len]; omega)]
      exact flatO_get n z i c (by omega) hc
theorem flatO_at {n : Nat} {z : Nat → Od} {i c : Nat} (hi : i < n) (hc : c < 2) : (flatO n z).getD (i * 2 + c) default = (odCells (z i)).getD c default := by
  simp only [List.getD, flatO_get n z i c hi hc]
structure OwnO (A : Nat) (w : World) (s : Os) : Prop where
  le : s.n ≤ s.c
  cap : s.c ≤ maxLen
  list : 0 < s.n → ∃ g, s.a = some ⟨g, 0, none⟩ ∧ A ≤ g ∧ Blk w g 58 (s.n * 2) (fun j => (flatO s.n s.z).getD j default)
  lines : ∀ i, i < s.n → ∃ B, (s.z i).ls.a = some ⟨B, 0, none⟩ ∧ A ≤ B ∧ (s.z i).ls.n ≤ (s.z i).ls.c ∧ (s.z i).ls.c ≤ maxLen ∧ Blk w B 60 ((s.z i).ls.n * 4) (fun j => (flatH (s.z i).ls.n (s.z i).ls.z).getD j default)
  apart : ∀ i j, i < j → j < s.n → (s.z i).ls.a ≠ (s.z j).ls.a
  room : Room A w 58 2 s.a s.c
theorem OwnO.at {A : Nat} {w : World} {s : Os} (h : OwnO A w s) : s.At w := by
  refine ⟨h.le, h.cap, fun i hi => ?_⟩
  obtain ⟨g, ha, hA, hb⟩ := h.list (by omega)
  obtain ⟨B, hl, hA2, l1, l2, hb2⟩ := h.lines i hi
  have c0 := hb.cell (j := i * 2) (by omega)
  have c1 := hb.cell (j := i * 2 + 1) (by omega)
  have e0 := flatO_at (z := s.z) hi (show 0 < 2 by decide)
  have e1 := flatO_at (z := s.z) hi (show 1 < 2 by decide)
  rw [Nat.add_zero] at e0
  rw [e0] at c0
  rw [e1] at c1
  refine ⟨g, 0, ha, hb.lt, by rw [Nat.zero_add]; exact c0, by rw [Nat.zero_add]; exact c1, ?_⟩
  exact OwnH.at (A := A) (e := 60) ⟨l1, l2, (fun e => by rw [hl] at e; cases e), fun _ => ⟨B, hl, hA2, hb2⟩⟩
def SameO (s t : Os) : Prop := s.n = t.n ∧ ∀ i, i < s.n → (s.z i).k = (t.z i).k ∧ (s.z i).ls.n = (t.z i).ls.n ∧ ∀ j, j < (s.z i).ls.n → (s.z i).ls.z j = (t.z i).ls.z j
theorem flatO_congr : ∀ {n : Nat} {z z' : Nat → Od}, (∀ i, i < n → odCells (z i) = odCells (z' i)) → flatO n z = flatO n z'
  | 0, _, _, _ => rfl
  | n + 1, z, z', h => by rw [flatO, flatO, flatO_congr (n := n) fun i hi => h i (by omega), h n (by omega)]
end Go.Proofs.Ytbcacebifpagpaf
namespace Go.Proofs.Ytbcacebifpagpaf
open Go.RowKit Go.Shelf Go.Sort
set_option linter.unusedVariables false
def NoneS (s : St) : Prop := s.on.n = 0 ∧ s.os.n = 0 ∧ s.hs.n = 0 ∧ s.ms.n = 0 ∧ s.si.n = 0 ∧ s.so.n = 0 ∧ s.sf.n = 0
theorem Rw.none (w : World) : Rw.At w ⟨.none, 0, 0, fun _ => 0⟩ := ⟨Nat.le_refl _, Nat.zero_le _, fun i hi => absurd hi (Nat.not_lt_zero _)⟩
theorem Hs.none (w : World) : Hs.At w ⟨.none, 0, 0, fun _ => ⟨0, 0, 0, 0⟩⟩ := ⟨Nat.le_refl _, Nat.zero_le _, fun i hi => absurd hi (Nat.not_lt_zero _), fun _ => rfl⟩
end Go.Proofs.Ytbcacebifpagpaf
namespace Go.Proofs.Ytbcacebifpagpaf
open Go.RowKit
set_option linter.unusedVariables false
def wpAnyT (P : Program) (ops : Array Oper) (Q : Exit → Act → World → Prop) (S : World → Prop) (T : Nat → Bool) : Nat → Array Bool → Act → World → Prop
  | 0, listed, a, w => Region.ready .any ops listed = [] ∧ Q .normal a w
  | fuel + 1, listed, a, w => (Region.ready .any ops listed = [] → Q .normal a w) ∧
      ∀ i ∈ Region.ready .any ops listed, wpOp P ops Q i (fun a' w' => (T i = false → S w') ∧ wpAnyT P ops Q S T fuel (listed.setIfInBounds i true) a' w') a w
theorem wpAny_of_T {P : Program} {ops : Array Oper} {Q : Exit → Act → World → Prop} {S : World → Prop} {T : Nat → Bool} : ∀ (fuel : Nat) (listed : Array Bool) (a : Act) (w : World), wpAnyT P ops Q S T fuel listed a w → wpAny P .any ops Q fuel listed a w
  | 0, _, _, _, h => h
  | fuel + 1, _, _, _, h => ⟨h.1, fun i hi => wpOp_mono (fun a' w' h' => wpAny_of_T fuel _ a' w' h'.2) (h.2 i hi)⟩
def Closed (ops : Array Oper) (listed : Array Bool) : Prop := ∀ j, listed.getD j false = true → ∀ d ∈ depsOf ops j, listed.getD d false = true
def reach (ops : Array Oper) : Nat → Nat → Nat → Bool
  | 0, _, _ => false
  | f + 1, j, i => (depsOf ops j).any (fun d => d == i || reach ops f d i)
theorem reach_listed {ops : Array Oper} {listed : Array Bool} (hc : Closed ops listed) : ∀ (f j i : Nat), (∀ d ∈ depsOf ops j, listed.getD d false = true) → reach ops f j i = true → listed.getD i false = true
  | 0, _, _, _, h => by simp [reach] at h
  | f + 1, j, i, hd, h => by
    unfold reach at h
    obtain ⟨d, hd1, hd2⟩ := List.any_eq_true.1 h
    simp only [Bool.or_eq_true, beq_iff_eq] at hd2
    rcases hd2 with rfl | hd2
    · exact hd d hd1
    · exact reach_listed hc f d i (hc d (hd d hd1)) hd2
theorem ready_deps {ops : Array Oper} {listed : Array Bool} {j : Nat} (h : j ∈ Region.ready .any ops listed) : ∀ d ∈ depsOf ops j, listed.getD d false = true := fun d hd => by
  obtain ⟨_, o, ho, hdep⟩ := mem_ready.1 h
  unfold depsOf at hd
  rw [ho] at hd
  obtain ⟨e, he, rfl⟩ := List.mem_map.1 hd
  have := List.mem_filter.1 he
  exact hdep e (by simpa using this.1) this.2
theorem getD_mono {listed : Array Bool} {i d : Nat} (h : listed.getD d false = true) : (listed.setIfInBounds i true).getD d false = true := by
  by_cases hid : i = d
  · subst hid
    by_cases hl : i < listed.size
    · simp [Array.getD, hl]
    · simp [Array.getD, hl] at h
  · rw [getD_set_ne false hid]; exact h
theorem Closed.set {ops : Array Oper} {listed : Array Bool} (hc : Closed ops listed) {i : Nat} (hi : i ∈ Region.ready .any ops listed) : Closed ops (listed.setIfInBounds i true) := fun j hj d hd => by
  by_cases hij : i = j
  · subst hij; exact getD_mono (ready_deps hi d hd)
  · rw [getD_set_ne false hij] at hj
    exact getD_mono (hc j hj d hd)
theorem Closed.none (ops : Array Oper) (n : Nat) : Closed ops (Array.replicate n false) := fun j hj => by
  by_cases hl : j < n <;> simp [Array.getD, hl] at hj
theorem wpAnyT_first {P : Program} {ops : Array Oper} {Q : Exit → Act → World → Prop} {S : World → Prop} {T : Nat → Bool} {N : Nat} {i : Nat} {oi : Oper} {v : Value} (hi : ops[i]? = some oi) (hsel : ∀ (j : Nat) (o : Oper) cs b, ops[j]? = some o → o.op ≠ .select cs b)
    (hQ : ∀ c a w, Q (.panic c) (a.put oi.dst v) w → Q (.panic c) a w) (hT : ∀ j, T j = true → reach ops N j i = true) (hTi : T i = false) :
    ∀ (fuel : Nat) (listed : Array Bool) (a : Act) (w : World),
      (∀ j oj, ops[j]? = some oj → j ≠ i → listed.getD j true = false → (∀ e ∈ oj.after, Region.binds .any e = true → e.on ≠ i) → oi.apart ops oj = true) →
      i ∈ Region.ready .any ops listed → Closed ops listed → YieldsIf P ops S oi v a → S w →
      wpAnyT P ops Q S T fuel (listed.setIfInBounds i true) (a.put oi.dst v) w → wpAnyT P ops Q S T (fuel + 1) listed a w := by
  intro fuel
  induction fuel with
  | zero =>
    intro listed a w _ hr _ hy hS H
    refine ⟨fun h => (by rw [h] at hr; cases hr), fun j hj => ?_⟩
    by_cases hji : j = i
    · subst hji; exact hy.wpOp hi hS ⟨fun _ => hS, H⟩
    · have := ready_mono hj hji
      rw [H.1] at this
      cases this
  | succ fuel ih =>
    intro listed a w hfree hr hc hy hS H
    refine ⟨fun h => (by rw [h] at hr; cases hr), fun j hj => ?_⟩
    by_cases hji : j = i
    · subst hji; exact hy.wpOp hi hS ⟨fun _ => hS, H⟩
    · have h1 := H.2 j (ready_mono hj hji)
      obtain ⟨hjun, oj, hoj, hall⟩ := mem_ready.1 hj
      have hiun : ¬ listed.getD i false = true := fun h1 => by
        have h0 := (mem_ready.1 hr).1
        rcases Nat.lt_or_ge i listed.size with h' | h'
        · simp [h'] at h0 h1; rw [h0] at h1; cases h1
        · simp [Array.getElem?_eq_none h'] at h1
      have hnot : ∀ e ∈ oj.after, Region.binds .any e = true → e.on ≠ i := fun e he hb heq => by
        have h1 := hall e he hb
        rw [heq] at h1
        exact hiun h1
      have hTj : T j = false := by
        cases hq : T j
        · rfl
        · exact absurd (reach_listed hc N j i (ready_deps hj) (hT j hq)) hiun
      have h2 := wpOp_putIf hoj (hfree j oj hoj hji hjun hnot) (fun cs b => hsel i oi cs b hi) (fun cs b => hsel j oj cs b hoj) hQ hy h1
      have hfree' : ∀ k ok, ops[k]? = some ok → k ≠ i → (listed.setIfInBounds j true).getD k true = false →
          (∀ e ∈ ok.after, Region.binds .any e = true → e.on ≠ i) → oi.apart ops ok = true := fun k ok hk hki hun hno => by
        refine hfree k ok hk hki ?_ hno
        by_cases hjk : j = k
        · subst hjk; exact hjun
        · rw [getD_set_ne true hjk] at hun; exact hun
      refine wpOp_mono (fun a' w' h3 => ⟨h3.2.1, ih (listed.setIfInBounds j true) a' w' hfree' (ready_mono hr (Ne.symm hji)) (hc.set hj) h3.1 (h3.2.1 hTj) ?_⟩) h2
      rw [Array.setIfInBounds_comm _ _ hji]
      exact h3.2.2
theorem wpAnyT_firsts {P : Program} {l : List Oper} {Q : Exit → Act → World → Prop} {S : World → Prop} {T : Nat → Bool} {N : Nat} {K : Act → Prop} {w : World} {fuel : Nat} (hs : Region.noSelect l.toArray = true) (hS : S w) (hQ : ∀ c a a' w, Q (.panic c) a w → Q (.panic c) a' w) :
    ∀ (ks : List Nat) (os : List Oper) (listed : Array Bool) (a : Act), firstsB l.toArray ks listed = true → (∀ k ∈ ks, T k = false ∧ ∀ j, T j = true → reach l.toArray N j k = true) → Closed l.toArray listed → ks.map (fun k => l[k]?) = os.map some → (os.all vKind2) = true →
      wpQuiet P l.toArray S K os a → (∀ a, K a → Closed l.toArray (mark listed ks) → wpAnyT P l.toArray Q S T fuel (mark listed ks) a w) → wpAnyT P l.toArray Q S T (ks.length + fuel) listed a w
  | [], [], listed, a, _, _, hc, _, _, h, hK => by rw [List.length_nil, Nat.zero_add]; exact hK a h hc
  | k :: ks, o :: os, listed, a, hB, hTk, hc, hk, hv, h, hK => by
    simp only [List.map_cons, List.cons.injEq] at hk
    simp only [List.all_cons, Bool.and_eq_true] at hv
    simp only [firstsB, Bool.and_eq_true] at hB
    rw [List.length_cons, Nat.add_right_comm]
    have hready : k ∈ Region.ready .any l.toArray listed := by simpa using hB.1.1
    have go : ∀ v, YieldsIf P l.toArray S o v a → wpAnyT P l.toArray Q S T (ks.length + fuel) (listed.setIfInBounds k true) (a.put o.dst v) w → wpAnyT P l.toArray Q S T (ks.length + fuel + 1) listed a w :=
      fun v hy h' => wpAnyT_first (N := N) (by simpa using hk.1) (Region.noSelect_spec hs) (fun c a w hq => hQ _ _ _ _ hq) (hTk k (by simp)).2 (hTk k (by simp)).1 _ listed a w (Region.free_spec (by simpa using hk.1) hB.1.2) hready hc hy hS h'
    have again := fun (a : Act) (hq : wpQuiet P l.toArray S K os a) => wpAnyT_firsts (N := N) (T := T) (fuel := fuel) hs hS hQ ks os _ a hB.2 (fun k' hk' => hTk k' (by simp [hk'])) (hc.set hready) hk.2 hv.2 hq hK
    unfold wpQuiet at h
    split at h
    · rename_i hw
      obtain ⟨v, h1, h2⟩ := h
      refine go v (.inl ⟨hw, fun w' hS => ?_⟩) (again _ h2)
      have := h1 w' hS
      unfold Oper.quietAt at this
      cases hr : (execOp a.eval o).run P w' with
      | ok n w2 =>
        rw [hr] at this
        obtain ⟨u, rfl⟩ := vKind2_spec hv.1 hr
        simp only [Oper.quietUpon] at this
        rw [this.1, this.2]
      | halt x w2 => rw [hr] at this; exact this.elim
    · rename_i hw
      exact go undef (.inr ⟨by simpa using hw, rfl⟩) (again _ h)
  | [], _ :: _, _, _, _, _, _, hk, _, _, _ => by simp at hk
  | _ :: _, [], _, _, _, _, _, hk, _, _, _ => by simp at hk
def Late (t : Bool) (S : World → Prop) (w : World) : Prop := t = false → S w
theorem Late.yes {S : World → Prop} {w : World} : Late true S w := fun h => by cases h
theorem Late.no {S : World → Prop} {w : World} (h : S w) : Late false S w := fun _ => h
def wpSeq (P : Program) (ops : Array Oper) (Q : Exit → Act → World → Prop) (S : World → Prop) : List (Bool × Nat) → Act → World → Prop
  | [], a, w => Q .normal a w
  | (t, i) :: r, a, w => wpOp P ops Q i (fun a' w' => Late t S w' ∧ wpSeq P ops Q S r a' w') a w
def seqB (ops : Array Oper) : List (Bool × Nat) → Array Bool → Bool
  | [], listed => Region.ready .any ops listed == []
  | (t, i) :: r, listed => Region.ready .any ops listed == [i] && seqB ops r (listed.setIfInBounds i true)
theorem wpAnyT_seq {P : Program} {ops : Array Oper} {Q : Exit → Act → World → Prop} {S : World → Prop} {T : Nat → Bool} : ∀ (ord : List (Bool × Nat)) (listed : Array Bool) (a : Act) (w : World),
      seqB ops ord listed = true → (∀ t i, (t, i) ∈ ord → T i = t) → wpSeq P ops Q S ord a w → wpAnyT P ops Q S T ord.length listed a w
  | [], listed, a, w, hB, _, h => ⟨by simpa [seqB] using hB, h⟩
  | (t, i) :: r, listed, a, w, hB, hT, h => by
    simp only [seqB, Bool.and_eq_true, beq_iff_eq] at hB
    refine ⟨fun h0 => absurd (hB.1.symm.trans h0) (by simp), fun j hj => ?_⟩
    rw [hB.1, List.mem_singleton] at hj
    subst hj
    refine wpOp_mono (fun a' w' h' => ⟨?_, wpAnyT_seq r _ a' w' hB.2 (fun t i hti => hT t i (by simp [hti])) h'.2⟩) h
    rw [hT t j (by simp)]
    exact h'.1
theorem wpSeq_one {P : Program} {l : List Oper} {Q : Exit → Act → World → Prop} {S : World → Prop} {r : List (Bool × Nat)} {t : Bool} (k : Nat) {o : Oper} {a : Act} {w : World} (hk : l[k]? = some o)
    (h : wpList P l.toArray (Exit.then (fun a' w' => Late t S w' ∧ wpSeq P l.toArray Q S r a' w') Q) [o] a w) : wpSeq P l.toArray Q S ((t, k) :: r) a w :=
  wpOp_list k hk h
def madeB5 (ops : Array Oper) (rem : List Nat) (L : Array Bool) : Bool :=
  (List.range ops.size).all (fun i => L.getD i true || rem.contains i || rem.all (fun r => reach ops ops.size i r)) &&
  topoB ops L [] rem && rem.all (fun r => decide (r < ops.size) && !L.getD r true) && decide (L.size = ops.size) && decide ((rem.map (dstOf ops)).Nodup)
theorem made_aux5 {P : Program} {ops : Array Oper} {Q : Exit → Act → World → Prop} {S : World → Prop} {T : Nat → Bool} {rem : List Nat} {L : Array Bool} {a1 : Act} {D : Nat → Value → List Nat → World → Prop} {fuel : Nat} (hB : madeB5 ops rem L = true) (hT : ∀ r ∈ rem, T r = false)
    (mono : ∀ j ∈ rem, ∀ v g w w', Below w.heap.size w w' → D j v g w → D j v g w') (lt : ∀ j ∈ rem, ∀ v g w, D j v g w → ∀ x ∈ g, x < w.heap.size)
    (step : ∀ i ∈ rem, ∀ (V : Nat → Value) (G : Nat → List Nat) (w : World) (K : Act → World → Prop), S w → (∀ d ∈ depsOf ops i, d ∈ rem → D d (V d) (G d) w) →
      (∀ v g w', S w' → Below w.heap.size w w' → (∀ x ∈ g, w.heap.size ≤ x) → D i v g w' → K ((putAll ops rem V a1).put (dstOf ops i) v) w') → wpOp P ops Q i K (putAll ops rem V a1) w)
    (done : ∀ (V : Nat → Value) (G : Nat → List Nat) (w : World), S w → (∀ j ∈ rem, D j (V j) (G j) w) → (∀ j ∈ rem, ∀ k ∈ rem, j ≠ k → ∀ x ∈ G j, x ∉ G k) → wpAnyT P ops Q S T fuel (mark L rem) (putAll ops rem V a1) w) :
    ∀ (m : Nat) (listed : Array Bool) (V : Nat → Value) (G : Nat → List Nat) (w : World), (rem.filter (fun r => !listed.getD r true)).length = m → listed.size = ops.size → (∀ j, j ∉ rem → listed[j]? = L[j]?) → Closed ops listed → S w → (∀ j ∈ rem, listed.getD j true = true → D j (V j) (G j) w) →
      (∀ j ∈ rem, ∀ k ∈ rem, listed.getD j true = true → listed.getD k true = true → j ≠ k → ∀ x ∈ G j, x ∉ G k) → wpAnyT P ops Q S T (m + fuel) listed (putAll ops rem V a1) w := by
  simp only [madeB5, Bool.and_eq_true, decide_eq_true_eq] at hB
  obtain ⟨⟨⟨⟨hoth, htopo⟩, hrem⟩, hLs⟩, hnd⟩ := hB
  have hrem' : ∀ r ∈ rem, r < ops.size ∧ L.getD r true = false := fun r hr => by
    have := List.all_eq_true.1 hrem r hr
    simpa using this
  intro m
  induction m with
  | zero =>
    intro listed V G w hm hsz hag hcl hS hD hA
    have hall : ∀ r ∈ rem, listed.getD r true = true := fun r hr => by
      cases hq : listed.getD r true
      · have : r ∈ rem.filter (fun r => !listed.getD r true) := List.mem_filter.2 ⟨hr, by simp [hq]⟩
        rw [List.length_eq_zero_iff.1 hm] at this
        simp at this
      · rfl
    have hl : listed = mark L rem := by
      apply Array.ext_getElem?
      intro j
      by_cases hj : j < L.size
      · rw [mark_get rem L j hj]
        by_cases hjr : j ∈ rem
        · rw [if_pos hjr]
          have h1 := hall j hjr
          have h2 : j < listed.size := by omega
          simp only [Array.getD, h2, dif_pos] at h1
          simp [h2]
          exact h1
        · rw [if_neg hjr]; exact hag j hjr
      · rw [Array.getElem?_eq_none (by omega), Array.getElem?_eq_none (by rw [mark_size]; omega)]
    rw [Nat.zero_add, hl]
    exact done V G w hS (fun j hj => hD j hj (hall j hj)) fun j hj k hk => hA j hj k hk (hall j hj) (hall k hk)
  | succ m ih =>
    intro listed V G w hm hsz hag hcl hS hD hA
    have hex : ∃ r ∈ rem, listed.getD r true = false := by
      have hne : rem.filter (fun r => !listed.getD r true) ≠ [] := fun e => by rw [e] at hm; simp at hm
      obtain ⟨x, hx⟩ := List.exists_mem_of_ne_nil _ hne
      have := List.mem_filter.1 hx
      exact ⟨x, this.1, by simpa using this.2⟩
    have hLl : ∀ d, L.getD d false = true → listed.getD d false = true := fun d hd => by
      by_cases hdr : d ∈ rem
      · have h1 := (hrem' d hdr).2
        have h2 : d < L.size := by have := (hrem' d hdr).1; omega
        simp only [Array.getD, h2, dif_pos] at h1 hd
        rw [h1] at hd; cases hd
      · have h1 := hag d hdr
        by_cases h2 : d < L.size
        · have h3 : d < listed.size := by omega
          simp only [Array.getD, h2, h3, dif_pos] at hd ⊢
          simp only [Array.getElem?_eq_getElem h2, Array.getElem?_eq_getElem h3, Option.some.injEq] at h1
          rw [Array.getInternal_eq_getElem] at hd ⊢
          rw [h1]; exact hd
        · simp [Array.getD, h2] at hd
    obtain ⟨r0, hr0, hr0r⟩ := topo_ready hsz [] rem htopo hLl (fun d hd => by simp at hd) (fun r hr => (hrem' r hr).1) hex
    rw [Nat.add_right_comm]
    refine ⟨fun h0 => absurd (h0 ▸ hr0r) (by simp), fun i hi => ?_⟩
    obtain ⟨hli, o, ho, hdep⟩ := mem_ready.1 hi
    have hdeps : ∀ d ∈ depsOf ops i, listed.getD d false = true := fun d hd => by
      unfold depsOf at hd
      rw [ho] at hd
      obtain ⟨e, he, rfl⟩ := List.mem_map.1 hd
      have := List.mem_filter.1 he
      exact hdep e (by simpa using this.1) this.2
    have hdt : ∀ d, listed.getD d false = true → listed.getD d true = true := fun d hd => by
      by_cases h2 : d < listed.size
      · simpa [Array.getD, h2] using hd
      · simp [Array.getD, h2]
    have hir : i ∈ rem := by
      cases hc : rem.contains i
      · exfalso
        have hlt : i < ops.size := (Array.getElem?_eq_some_iff.1 ho).1
        have hnr : i ∉ rem := fun h => by
          have := List.contains_iff_mem.2 h
          rw [this] at hc; cases hc
        have h1 := List.all_eq_true.1 hoth i (List.mem_range.2 hlt)
        have hLi : L.getD i true = false := by
          have h2 := hag i hnr
          have h3 : i < L.size := by omega
          have h4 : i < listed.size := by omega
          simp only [Array.getElem?_eq_getElem h3, Array.getElem?_eq_getElem h4, Option.some.injEq] at h2
          simp only [Array.getD, h3, h4, dif_pos] at hli ⊢
          rw [Array.getInternal_eq_getElem] at hli ⊢
          rw [← h2]; exact hli
        rw [hLi, hc] at h1
        simp only [Bool.false_or] at h1
        obtain ⟨q, hq, hq2⟩ := hex
        have h5 := List.all_eq_true.1 h1 q hq
        have h6 := hdt q (reach_listed hcl _ i q (ready_deps hi) h5)
        rw [hq2] at h6; cases h6
      · exact List.contains_iff_mem.1 hc
    refine step i hir V G w _ hS (fun d hd hdr => hD d hdr (hdt d (hdeps d hd))) (fun v g w' hS' hBel hfr hDi => ?_)
    refine ⟨fun _ => hS', ?_⟩
    rw [putAll_put hnd hir]
    have hin : i < listed.size := by rw [hsz]; exact (hrem' i hir).1
    have gset : ∀ j, (listed.setIfInBounds i true).getD j true = if j = i then true else listed.getD j true := fun j => by
      by_cases hj : j = i
      · subst hj; simp [Array.getD, hin]
      · rw [if_neg hj, getD_set_ne true (fun e => hj e.symm)]
    refine ih (listed.setIfInBounds i true) (upd V i v) (fun j => if j = i then g else G j) w' ?_ (by simpa using hsz) (fun j hj => ?_) (hcl.set hi) hS' (fun j hj hlj => ?_) (fun j hj k hk hlj hlk hjk x hx => ?_)
    · have hnodup : rem.Nodup := by
        exact (List.pairwise_map.1 hnd).imp (fun h e => h (by rw [e]))
      have e1 : (rem.filter (fun r => !listed.getD r true)) = rem.filter (fun r => !listed.getD r true) := rfl
      have hcount : (rem.filter (fun r => !(listed.setIfInBounds i true).getD r true)) = (rem.filter (fun r => !listed.getD r true)).erase i := by
        have e2 : rem.filter (fun r => !(listed.setIfInBounds i true).getD r true) = (rem.filter (fun r => !listed.getD r true)).filter (fun r => r != i) := by
          rw [List.filter_filter]
          refine List.filter_congr fun x hx => ?_
          rw [gset x]
          by_cases hxi : x = i <;> simp [hxi]
        rw [e2, ← List.Nodup.erase_eq_filter (hnodup.filter _)]
      rw [hcount, List.length_erase_of_mem (List.mem_filter.2 ⟨hir, by simp [hli]⟩), hm]
      rfl
    · rw [Array.getElem?_setIfInBounds, if_neg (fun e : i = j => hj (by rw [← e]; exact hir))]
      exact hag j hj
    · unfold upd
      by_cases hji : j = i
      · subst hji; rw [if_pos rfl, if_pos rfl]; exact hDi
      · rw [if_neg hji, if_neg hji]
        rw [gset j, if_neg hji] at hlj
        exact mono j hj _ _ _ _ hBel (hD j hj hlj)
    · by_cases hji : j = i
      · have hki : ¬ k = i := fun e => hjk (hji.trans e.symm)
        rw [if_pos hji] at hx
        rw [if_neg hki]
        rw [gset k, if_neg hki] at hlk
        intro hx2
        have h1 := hfr x hx
        have h2 := lt k hk _ _ _ (hD k hk hlk) x hx2
        omega
      · rw [if_neg hji] at hx
        rw [gset j, if_neg hji] at hlj
        by_cases hki : k = i
        · rw [if_pos hki]
          intro hx2
          have h1 := hfr x hx2
          have h2 := lt j hj _ _ _ (hD j hj hlj) x hx
          omega
        · rw [if_neg hki]
          rw [gset k, if_neg hki] at hlk
          exact hA j hj k hk hlj hlk hjk x hx
def Made5 (P : Program) (ops : Array Oper) (Q : Exit → Act → World → Prop) (S : World → Prop) (rem : List Nat) (ord : List (Bool × Nat)) (a1 : Act) : Prop :=
  ∃ D : Nat → Value → List Nat → World → Prop, (∀ j ∈ rem, ∀ v g w w', Below w.heap.size w w' → D j v g w → D j v g w') ∧ (∀ j ∈ rem, ∀ v g w, D j v g w → ∀ x ∈ g, x < w.heap.size) ∧
    (∀ i ∈ rem, ∀ (V : Nat → Value) (G : Nat → List Nat) (w : World) (K : Act → World → Prop), S w → (∀ d ∈ depsOf ops i, d ∈ rem → D d (V d) (G d) w) →
      (∀ v g w', S w' → Below w.heap.size w w' → (∀ x ∈ g, w.heap.size ≤ x) → D i v g w' → K ((putAll ops rem V a1).put (dstOf ops i) v) w') → wpOp P ops (NoPanic Q) i K (putAll ops rem V a1) w) ∧
    (∀ (V : Nat → Value) (G : Nat → List Nat) (w : World), S w → (∀ j ∈ rem, D j (V j) (G j) w) → (∀ j ∈ rem, ∀ k ∈ rem, j ≠ k → ∀ x ∈ G j, x ∉ G k) → wpSeq P ops (NoPanic Q) S ord (putAll ops rem V a1) w)
def tailsB (ops : Array Oper) (ks rem : List Nat) (ord : List (Bool × Nat)) : Bool :=
  ks.all (fun k => !ord.contains (true, k) && ord.all (fun x => !x.1 || reach ops ops.size x.2 k)) && rem.all (fun r => !ord.contains (true, r)) && ord.all (fun x => x.1 || !ord.contains (true, x.2))
theorem wp_region_made5 {P : Program} {l : List Oper} {Q : Exit → Act → World → Prop} {id : Nat} {a : Act} {w : World} (S : World → Prop) (ks rem : List Nat) (ord : List (Bool × Nat))
    (hm : P.follows .mixedOrders = true) (hs : Region.noSelect l.toArray = true) (hF : firstsB l.toArray ks (Array.replicate l.length false) = true) (hks : ks.all (fun k => decide (k < l.length)) = true) (hv : ((picks l ks).all vKind2) = true)
    (hM : madeB5 l.toArray rem (mark (Array.replicate l.length false) ks) = true) (hTB : tailsB l.toArray ks rem ord = true) (hB : seqB l.toArray ord (mark (mark (Array.replicate l.length false) ks) rem) = true) (hl : ks.length + (rem.length + ord.length) = l.length)
    (hS : S w.drew) (h : wpQuiet P l.toArray S (Made5 P l.toArray Q S rem ord) (picks l ks) a) : (Code.region id l.toArray true).wp P Q a w := by
  refine wp_region_noPanic (wp_region_any hm ?_)
  have hM' := hM
  simp only [madeB5, Bool.and_eq_true, decide_eq_true_eq] at hM'
  simp only [tailsB, Bool.and_eq_true] at hTB
  have hT : ∀ j, (ord.contains (true, j)) = true → (true, j) ∈ ord := fun j h => by simpa using h
  have key := wpAnyT_firsts (Q := NoPanic Q) (T := fun i => ord.contains (true, i)) (N := l.toArray.size) (fuel := rem.length + ord.length) (w := w.drew) hs hS (fun c a a' w h => (h : False).elim) ks (picks l ks) _ a hF (fun k hk => ?_) (Closed.none _ _) (picks_ok hks) hv h (fun a1 hK hcl => ?_)
  · have := wpAny_of_T _ _ _ _ key
    rw [hl] at this
    simpa using this
  · have h1 := List.all_eq_true.1 hTB.1.1 k hk
    simp only [Bool.and_eq_true] at h1
    refine ⟨by simpa using h1.1, fun j hj => ?_⟩
    have h2 := List.all_eq_true.1 h1.2 (true, j) (hT j hj)
    simpa using h2
  · obtain ⟨D, mono, lt, step, done⟩ := hK
    have hall : (rem.filter (fun r => !(mark (Array.replicate l.length false) ks).getD r true)) = rem := by
      rw [List.filter_eq_self]
      intro r hr
      have := List.all_eq_true.1 hM'.1.1.2 r hr
      simp only [Bool.and_eq_true] at this
      exact this.2
    have hun : ∀ j ∈ rem, (mark (Array.replicate l.length false) ks).getD j true = true → False := fun j hj hlj => by
      have := List.all_eq_true.1 hM'.1.1.2 j hj
      simp only [Bool.and_eq_true, hlj] at this
      simp at this
    obtain ⟨V0, hV0⟩ : ∃ V0, putAll l.toArray rem V0 a1 = a1 := ⟨_, putAll_self a1 rem⟩
    have := made_aux5 (P := P) (Q := NoPanic Q) (S := S) (T := fun i => ord.contains (true, i)) (a1 := a1) (fuel := ord.length) hM (fun r hr => by have := List.all_eq_true.1 hTB.1.2 r hr; simpa using this) mono lt step
      (fun V G w' hS' hD hA => wpAnyT_seq ord _ _ w' hB (fun t i hti => by
        cases t with
        | true => simpa using hti
        | false =>
          have := List.all_eq_true.1 hTB.2 (false, i) hti
          simpa using this) (done V G w' hS' hD hA))
      rem.length (mark (Array.replicate l.length false) ks) V0 (fun _ => []) w.drew (by rw [hall]) hM'.1.2 (fun _ _ => rfl) hcl hS (fun j hj hlj => (hun j hj hlj).elim) (fun j hj k hk hlj _ _ => (hun j hj hlj).elim)
    rw [hV0] at this
    exact this
end Go.Proofs.Ytbcacebifpagpaf
namespace Go.Proofs.Ytbcacebifpagpaf
open Go.RowKit Go.Shelf Go.Sort
set_option linter.unusedVariables false
def OwnI (A : Nat) (w : World) (r : Rw) : Prop := ∃ g, r.a = some ⟨g, 0, none⟩ ∧ A ≤ g ∧ r.n ≤ r.c ∧ r.c ≤ maxLen ∧ Blk w g 3 r.n (fun j => .int .i64 (r.z j))
theorem OwnI.at {A : Nat} {w : World} {r : Rw} (h : OwnI A w r) : r.At w := by
  obtain ⟨g, ha, _, h1, h2, hb⟩ := h
  exact ⟨h1, h2, fun i hi => ⟨g, 0, ha, hb.lt, by rw [Nat.zero_add]; exact hb.cell hi⟩⟩
theorem OwnI.below {A : Nat} {w w' : World} {r : Rw} (h : OwnI A w r) (hB : Below w.heap.size w w') : OwnI A w' r := by
  obtain ⟨g, ha, h0, h1, h2, hb⟩ := h
  exact ⟨g, ha, h0, h1, h2, hb.below hB⟩
structure OwnS (A : Nat) (w : World) (s : St) : Prop where
  on : ∃ g, s.on.a = some ⟨g, 0, none⟩ ∧ A ≤ g ∧ s.on.n ≤ s.on.c ∧ s.on.c ≤ maxLen ∧ Blk w g 23 s.on.n (fun i => .slice (s.on.r i).a (s.on.r i).n (s.on.r i).c)
  rows : ∀ i, i < s.on.n → OwnI A w (s.on.r i)
  rapart : ∀ i j, i < j → j < s.on.n → (s.on.r i).a ≠ (s.on.r j).a
  os : OwnO A w s.os
  hs : OwnH A 54 w s.hs
  ms : OwnH A 40 w s.ms
  msr : Room A w 40 4 s.ms.a s.ms.c
  si : OwnI A w s.si
  so : OwnI A w s.so
  sf : OwnI A w s.sf
  aio : s.si.a ≠ s.so.a
  aif : s.si.a ≠ s.sf.a
  aof : s.so.a ≠ s.sf.a
  ari : ∀ i, i < s.on.n → (s.on.r i).a ≠ s.si.a ∧ (s.on.r i).a ≠ s.so.a ∧ (s.on.r i).a ≠ s.sf.a
theorem OwnS.at {A : Nat} {w : World} {s : St} (h : OwnS A w s) : s.At w := by
  obtain ⟨g, ha, _, h1, h2, hb⟩ := h.on
  exact ⟨⟨h1, h2, fun i hi => ⟨g, 0, ha, hb.lt, by rw [Nat.zero_add]; exact hb.cell hi, (h.rows i hi).at⟩⟩, h.os.at, h.hs.at, h.ms.at, h.si.at, h.so.at, h.sf.at⟩
theorem OwnI.other {A : Nat} {t : TypeId} {w : World} {r : Rw} {q n : Nat} {f : Nat → Value} (h : OwnI A w r) (hq : Blk w q t n f) (hne : 3 ≠ t) (j : Nat) (u : Value) : OwnI A (w.setCell ⟨q, j, none⟩ u) r := by
  obtain ⟨g, ha, h0, h1, h2, hb⟩ := h
  exact ⟨g, ha, h0, h1, h2, hb.other (a := ⟨q, j, none⟩) (Blk.ne2 hb hq hne) u⟩
theorem OwnO.other {A : Nat} {t : TypeId} {w : World} {s : Os} {q n : Nat} {f : Nat → Value} (h : OwnO A w s) (hq : Blk w q t n f) (h1 : 58 ≠ t) (h2 : 60 ≠ t) (j : Nat) (u : Value) : OwnO A (w.setCell ⟨q, j, none⟩ u) s := by
  refine ⟨h.le, h.cap, fun hn => ?_, fun i hi => ?_, h.apart, h.room.set q j u⟩
  · obtain ⟨g, a, b, c⟩ := h.list hn
    exact ⟨g, a, b, c.other (a := ⟨q, j, none⟩) (Blk.ne2 c hq h1) u⟩
  · obtain ⟨B, a, b, c, d, e⟩ := h.lines i hi
    exact ⟨B, a, b, c, d, e.other (a := ⟨q, j, none⟩) (Blk.ne2 e hq h2) u⟩
theorem OwnS.box {A : Nat} {w : World} {s : St} {q n : Nat} {f : Nat → Value} (h : OwnS A w s) (hq : Blk w q 31 n f) (j : Nat) (u : Value) : OwnS A (w.setCell ⟨q, j, none⟩ u) s := by
  refine ⟨?_, fun i hi => (h.rows i hi).other hq (by decide) j u, h.rapart, h.os.other hq (by decide) (by decide) j u, h.hs.other hq (by decide) j u, h.ms.other hq (by decide) j u, h.msr.set q j u, h.si.other hq (by decide) j u, h.so.other hq (by decide) j u, h.sf.other hq (by decide) j u, h.aio, h.aif, h.aof, h.ari⟩
  obtain ⟨g, ha, h0, h1, h2, hb⟩ := h.on
  exact ⟨g, ha, h0, h1, h2, hb.other (a := ⟨q, j, none⟩) (Blk.ne2 hb hq (by decide)) u⟩
def DRows (A : Nat) (s : St) (v : Value) (g : List Nat) (wk : World) : Prop := ∃ (g0 : Nat) (G C : Nat → Nat), v = .slice (some ⟨g0, 0, none⟩) s.on.n s.on.n ∧ A ≤ g0 ∧ Blk wk g0 23 s.on.n (fun i => .slice (some ⟨G i, 0, none⟩) (s.on.r i).n (C i)) ∧
  (∀ i, i < s.on.n → A ≤ G i ∧ (s.on.r i).n ≤ C i ∧ C i ≤ maxLen ∧ Blk wk (G i) 3 (s.on.r i).n (fun j => .int .i64 ((s.on.r i).z j))) ∧ (∀ i j, i < j → j < s.on.n → G i < G j) ∧ g = (List.range s.on.n).map G
theorem DRows.below {A : Nat} {s : St} {v : Value} {g : List Nat} {w w' : World} (h : DRows A s v g w) (hB : Below w.heap.size w w') : DRows A s v g w' := by
  obtain ⟨g0, G, C, h1, h2, h3, h4, h5, h6⟩ := h
  exact ⟨g0, G, C, h1, h2, h3.below hB, fun i hi => ⟨(h4 i hi).1, (h4 i hi).2.1, (h4 i hi).2.2.1, (h4 i hi).2.2.2.below hB⟩, h5, h6⟩
theorem DRows.lt {A : Nat} {s : St} {v : Value} {g : List Nat} {w : World} (h : DRows A s v g w) : ∀ x ∈ g, x < w.heap.size := by
  obtain ⟨g0, G, C, h1, h2, h3, h4, h5, rfl⟩ := h
  intro x hx
  obtain ⟨i, hi, rfl⟩ := List.mem_map.1 hx
  exact (h4 i (List.mem_range.1 hi)).2.2.2.lt
def DInts (A : Nat) (r : Rw) (v : Value) (g : List Nat) (wk : World) : Prop := ∃ B c, g = [B] ∧ v = .slice (some ⟨B, 0, none⟩) r.n c ∧ A ≤ B ∧ r.n ≤ c ∧ c ≤ maxLen ∧ Blk wk B 3 r.n (fun j => .int .i64 (r.z j))
theorem DInts.below {A : Nat} {r : Rw} {v : Value} {g : List Nat} {w w' : World} (h : DInts A r v g w) (hB : Below w.heap.size w w') : DInts A r v g w' := by
  obtain ⟨B, c, h1, h2, h3, h4, h5, h6⟩ := h
  exact ⟨B, c, h1, h2, h3, h4, h5, h6.below hB⟩
theorem DInts.lt {A : Nat} {r : Rw} {v : Value} {g : List Nat} {w : World} (h : DInts A r v g w) : ∀ x ∈ g, x < w.heap.size := by
  obtain ⟨B, c, rfl, h2, h3, h4, h5, h6⟩ := h
  intro x hx
  rw [List.mem_singleton] at hx
  subst hx
  exact h6.lt
def DHs (A : Nat) (e : TypeId) (s : Hs) (v : Value) (g : List Nat) (wk : World) : Prop := ∃ s' : Hs, g = [] ∧ v = .slice s'.a s'.n s'.c ∧ Cloned A e s wk s'
theorem DHs.below {A : Nat} {e : TypeId} {s : Hs} {v : Value} {g : List Nat} {w w' : World} (h : DHs A e s v g w) (hB : Below w.heap.size w w') : DHs A e s v g w' := by
  obtain ⟨s', h1, h2, h3, h4, h5, h6⟩ := h
  exact ⟨s', h1, h2, h3, h4, h5.below hB, h6.below hB⟩
theorem OwnO.below {A : Nat} {w w' : World} {s : Os} (h : OwnO A w s) (hB : Below w.heap.size w w') : OwnO A w' s := by
  refine ⟨h.le, h.cap, fun hn => ?_, fun i hi => ?_, h.apart, h.room.below hB⟩
  · obtain ⟨g, a, b, c⟩ := h.list hn
    exact ⟨g, a, b, c.below hB⟩
  · obtain ⟨B, a, b, c, d, e⟩ := h.lines i hi
    exact ⟨B, a, b, c, d, e.below hB⟩
theorem OwnO.mono {A A' : Nat} {w : World} {s : Os} (h : OwnO A w s) (hA : A' ≤ A) : OwnO A' w s := by
  refine ⟨h.le, h.cap, fun hn => ?_, fun i hi => ?_, h.apart, h.room.mono hA⟩
  · obtain ⟨g, a, b, c⟩ := h.list hn
    exact ⟨g, a, by omega, c⟩
  · obtain ⟨B, a, b, c⟩ := h.lines i hi
    exact ⟨B, a, by omega, c⟩
def DOs (A : Nat) (s : Os) (v : Value) (g : List Nat) (wk : World) : Prop := ∃ s' : Os, g = [] ∧ v = .slice s'.a s'.n s'.c ∧ SameO s' s ∧ OwnO A wk s'
theorem DOs.below {A : Nat} {s : Os} {v : Value} {g : List Nat} {w w' : World} (h : DOs A s v g w) (hB : Below w.heap.size w w') : DOs A s v g w' := by
  obtain ⟨s', h1, h2, h3, h4⟩ := h
  exact ⟨s', h1, h2, h3, h4.below hB⟩
end Go.Proofs.Ytbcacebifpagpaf
namespace Go.Proofs.Ytbcacebifpagpaf
open Go.RowKit
set_option linter.unusedVariables false
theorem SameT.symm {s t : St} (h : SameT s t) : SameT t s := by
  refine ⟨⟨h.on.1.symm, fun i hi => ?_⟩, ⟨h.os.1.symm, fun i hi => ?_⟩, ⟨h.hs.1.symm, fun j hj => (h.hs.2 j (by rw [h.hs.1]; exact hj)).symm⟩, ⟨h.ms.1.symm, fun j hj => (h.ms.2 j (by rw [h.ms.1]; exact hj)).symm⟩, ⟨h.si.1.symm, fun j hj => (h.si.2 j (by rw [h.si.1]; exact hj)).symm⟩, ⟨h.so.1.symm, fun j hj => (h.so.2 j (by rw [h.so.1]; exact hj)).symm⟩, ⟨h.sf.1.symm, fun j hj => (h.sf.2 j (by rw [h.sf.1]; exact hj)).symm⟩⟩
  · have x := h.on.2 i (by rw [h.on.1]; exact hi)
    exact ⟨x.1.symm, fun j hj => (x.2 j (by rw [x.1]; exact hj)).symm⟩
  · have x := h.os.2 i (by rw [h.os.1]; exact hi)
    exact ⟨x.1.symm, x.2.1.symm, fun j hj => (x.2.2 j (by rw [x.2.1]; exact hj)).symm⟩
theorem SameT.trans {s t u : St} (h : SameT s t) (k : SameT t u) : SameT s u := by
  refine ⟨⟨h.on.1.trans k.on.1, fun i hi => ?_⟩, ⟨h.os.1.trans k.os.1, fun i hi => ?_⟩, ⟨h.hs.1.trans k.hs.1, fun j hj => (h.hs.2 j hj).trans (k.hs.2 j (by rw [← h.hs.1]; exact hj))⟩, ⟨h.ms.1.trans k.ms.1, fun j hj => (h.ms.2 j hj).trans (k.ms.2 j (by rw [← h.ms.1]; exact hj))⟩, ⟨h.si.1.trans k.si.1, fun j hj => (h.si.2 j hj).trans (k.si.2 j (by rw [← h.si.1]; exact hj))⟩, ⟨h.so.1.trans k.so.1, fun j hj => (h.so.2 j hj).trans (k.so.2 j (by rw [← h.so.1]; exact hj))⟩, ⟨h.sf.1.trans k.sf.1, fun j hj => (h.sf.2 j hj).trans (k.sf.2 j (by rw [← h.sf.1]; exact hj))⟩⟩
  · have x := h.on.2 i hi
    have y := k.on.2 i (by rw [← h.on.1]; exact hi)
    exact ⟨x.1.trans y.1, fun j hj => (x.2 j hj).trans (y.2 j (by rw [← x.1]; exact hj))⟩
  · have x := h.os.2 i hi
    have y := k.os.2 i (by rw [← h.os.1]; exact hi)
    exact ⟨x.1.trans y.1, x.2.1.trans y.2.1, fun j hj => (x.2.2 j hj).trans (y.2.2 j (by rw [← x.2.1]; exact hj))⟩
def setRw (r : Rw) (j : Nat) (x : Int) : Rw := ⟨r.a, r.n, r.c, fun i => if i = j then x else r.z i⟩
def setOn (s : St) (b g : Nat) (x : Int) : St := ⟨⟨s.on.a, s.on.n, s.on.c, fun i => if i = b then setRw (s.on.r i) g x else s.on.r i⟩, s.os, s.hs, s.ms, s.si, s.so, s.sf⟩
theorem OwnI.set {A : Nat} {w : World} {r : Rw} {G : Nat} (h : OwnI A w r) (ha : r.a = some ⟨G, 0, none⟩) (j : Nat) (x : Int) : OwnI A (w.setCell ⟨G, j, none⟩ (.int .i64 x)) (setRw r j x) := by
  obtain ⟨g, ha', h0, h1, h2, hb⟩ := h
  rw [ha] at ha'
  simp only [Option.some.injEq, Addr.mk.injEq, and_true] at ha'
  subst ha'
  refine ⟨G, ha, h0, h1, h2, (hb.set j (.int .i64 x)).congr fun i hi => ?_⟩
  show (if i = j then _ else _) = Value.int .i64 (if i = j then x else r.z i)
  by_cases hij : i = j <;> simp [hij]
theorem OwnI.apart {A : Nat} {w : World} {r : Rw} {G : Nat} (h : OwnI A w r) (ha : r.a ≠ some ⟨G, 0, none⟩) (j : Nat) (u : Value) : OwnI A (w.setCell ⟨G, j, none⟩ u) r := by
  obtain ⟨g, ha', h0, h1, h2, hb⟩ := h
  refine ⟨g, ha', h0, h1, h2, hb.other (a := ⟨G, j, none⟩) (fun e => ha ?_) u⟩
  rw [ha', show g = G from e]
theorem row_a {s : St} {b g : Nat} {x : Int} (i : Nat) : (if i = b then setRw (s.on.r i) g x else s.on.r i).a = (s.on.r i).a := by
  by_cases h : i = b <;> simp [h, setRw]
theorem OwnS.setOn {A : Nat} {w : World} {s : St} {b G : Nat} (h : OwnS A w s) (hb : b < s.on.n) (ha : (s.on.r b).a = some ⟨G, 0, none⟩) (g : Nat) (x : Int) : OwnS A (w.setCell ⟨G, g, none⟩ (.int .i64 x)) (Go.Proofs.Ytbcacebifpagpaf.setOn s b g x) := by
  obtain ⟨Gb, hGb, _, _, _, hblk⟩ := h.rows b hb
  rw [ha] at hGb
  simp only [Option.some.injEq, Addr.mk.injEq, and_true] at hGb
  subst hGb
  have q := h.ari b hb
  rw [ha] at q
  refine ⟨?_, fun i hi => ?_, fun i j hij hj => ?_, h.os.other hblk (by decide) (by decide) g _, h.hs.other hblk (by decide) g _, h.ms.other hblk (by decide) g _, h.msr.set _ _ _, h.si.apart (fun e => q.1 e.symm) g _, h.so.apart (fun e => q.2.1 e.symm) g _, h.sf.apart (fun e => q.2.2 e.symm) g _, h.aio, h.aif, h.aof, fun i hi => ?_⟩
  · obtain ⟨g0, ha0, h0, h1, h2, hb0⟩ := h.on
    refine ⟨g0, ha0, h0, h1, h2, (hb0.other (a := ⟨G, g, none⟩) (Blk.ne2 hb0 hblk (by decide)) _).congr fun i hi => ?_⟩
    show _ = Value.slice (if i = b then setRw (s.on.r i) g x else s.on.r i).a (if i = b then setRw (s.on.r i) g x else s.on.r i).n (if i = b then setRw (s.on.r i) g x else s.on.r i).c
    by_cases hib : i = b <;> simp [hib, setRw]
  · show OwnI A _ (if i = b then setRw (s.on.r i) g x else s.on.r i)
    by_cases hib : i = b
    · subst hib
      rw [if_pos rfl]
      exact (h.rows i hi).set ha g x
    · rw [if_neg hib]
      refine (h.rows i hi).apart (fun e => ?_) g _
      rcases Nat.lt_or_gt_of_ne hib with hlt | hgt
      · exact h.rapart i b hlt hb (e.trans ha.symm)
      · exact h.rapart b i hgt hi (ha.trans e.symm)
  · show (if i = b then setRw (s.on.r i) g x else s.on.r i).a ≠ (if j = b then setRw (s.on.r j) g x else s.on.r j).a
    rw [row_a, row_a]
    exact h.rapart i j hij hj
  · show (if i = b then setRw (s.on.r i) g x else s.on.r i).a ≠ _ ∧ (if i = b then setRw (s.on.r i) g x else s.on.r i).a ≠ _ ∧ (if i = b then setRw (s.on.r i) g x else s.on.r i).a ≠ _
    rw [row_a]
    exact h.ari i hi
def ActOK (E : Int) (t s' : St) : Prop := (E = 0 → SameT s' t) ∧ (¬ E = 0 → NoneS s')
end Go.Proofs.Ytbcacebifpagpaf
namespace Go.Proofs.Ytbcacebifpagpaf
open Go.RowKit
set_option linter.unusedVariables false
structure Tk where
  left : Int
  took : Int → Int
def Tk.step (av : Int → Int) (t : Tk) (b : Int) : Tk := ⟨t.left - min t.left (av b), fun x => t.took x + if x = b then min t.left (av b) else 0⟩
def Tk.go (av : Int → Int) (n : Int) (l : List Int) : Tk := l.foldl (Tk.step av) ⟨n, fun _ => 0⟩
theorem Tk.go_more (av : Int → Int) (n : Int) (l : List Int) (b : Int) : Tk.go av n (l ++ [b]) = (Tk.go av n l).step av b := by
  unfold Tk.go
  rw [List.foldl_append]
  rfl
structure TkOK (av : Int → Int) (n : Int) (l : List Int) (t : Tk) : Prop where
  left0 : 0 ≤ t.left
  leftn : t.left ≤ n
  took0 : ∀ x, 0 ≤ t.took x
  tookn : ∀ x, t.took x ≤ n - t.left
  had : ∀ x, x ∈ l → t.took x ≤ av x
  other : ∀ x, x ∉ l → t.took x = 0
  all : 0 < t.left → ∀ x, x ∈ l → t.took x = av x
  sum : sumTo (fun b => t.took b) 6 = n - t.left
theorem tkOK {av : Int → Int} {n : Int} (hn : 0 ≤ n) : ∀ {l : List Int}, l.Pairwise (fun x y => ¬ x = y) → (∀ x, x ∈ l → 0 ≤ av x) → (∀ x, x ∈ l → 0 ≤ x ∧ x < 6) → TkOK av n l (Tk.go av n l) := by
  suffices H : ∀ (k : Nat) (l : List Int), l.length = k → l.Pairwise (fun x y => ¬ x = y) → (∀ x, x ∈ l → 0 ≤ av x) → (∀ x, x ∈ l → 0 ≤ x ∧ x < 6) → TkOK av n l (Tk.go av n l) from fun {l} => H l.length l rfl
  intro k
  induction k with
  | zero =>
    intro l hl _ _ _
    obtain rfl := List.eq_nil_of_length_eq_zero hl
    exact ⟨hn, Int.le_refl _, fun _ => Int.le_refl _, fun _ => by show (0 : Int) ≤ n - n; omega, fun x h => by simp at h, fun _ _ => rfl, fun _ x h => by simp at h, by show (0 : Int) + 0 + 0 + 0 + 0 + 0 + 0 = n - n; omega⟩
  | succ m ih =>
    intro l0 hl0 hd ha hin
    obtain ⟨l, b, rfl⟩ : ∃ l b, l0 = l ++ [b] := ⟨l0.dropLast, l0.getLast (by intro e; rw [e] at hl0; simp at hl0), (List.dropLast_concat_getLast _).symm⟩
    have hlm : l.length = m := by simpa using hl0
    rw [List.pairwise_append] at hd
    have hb : b ∉ l := fun hm => hd.2.2 b hm b (by simp) rfl
    have k := ih l hlm hd.1 (fun x hx => ha x (by simp [hx])) (fun x hx => hin x (by simp [hx]))
    have hb6 := hin b (by simp)
    have hab := ha b (by simp)
    rw [Tk.go_more]
    generalize Tk.go av n l = t at k
    have h0 := k.left0
    have hln := k.leftn
    have hmin : 0 ≤ min t.left (av b) ∧ min t.left (av b) ≤ t.left ∧ min t.left (av b) ≤ av b := by omega
    have hob := k.other b hb
    refine ⟨?_, ?_, fun x => ?_, fun x => ?_, fun x hx => ?_, fun x hx => ?_, fun hl x hx => ?_, ?_⟩
    · show 0 ≤ t.left - min t.left (av b); omega
    · show t.left - min t.left (av b) ≤ n; omega
    · have := k.took0 x
      show 0 ≤ t.took x + if x = b then min t.left (av b) else 0
      split <;> omega
    · have := k.tookn x
      show (t.took x + if x = b then min t.left (av b) else 0) ≤ n - (t.left - min t.left (av b))
      split <;> omega
    · show (t.took x + if x = b then min t.left (av b) else 0) ≤ av x
      by_cases hxb : x = b
      · subst hxb; rw [if_pos rfl]; omega
      · rw [if_neg hxb]
        have : x ∈ l := by simpa [hxb] using hx
        have := k.had x this
        omega
    · show (t.took x + if x = b then min t.left (av b) else 0) = 0
      have hxb : ¬ x = b := fun e => hx (by simp [e])
      have hxl : x ∉ l := fun e => hx (by simp [e])
      rw [if_neg hxb, k.other x hxl]
      rfl
    · have hl' : 0 < t.left - min t.left (av b) := hl
      show (t.took x + if x = b then min t.left (av b) else 0) = av x
      by_cases hxb : x = b
      · subst hxb; rw [if_pos rfl]; omega
      · rw [if_neg hxb]
        have : x ∈ l := by simpa [hxb] using hx
        have := k.all (by omega) x this
        omega
    · show sumTo (fun x => t.took x + if (x : Int) = b then min t.left (av b) else 0) 6 = n - (t.left - min t.left (av b))
      have e := k.sum
      rw [sumTo_put (z := fun x => t.took x) (m := b.toNat) (n := min t.left (av b)) (by omega) fun i hi => by
        by_cases hib : i = b.toNat
        · have : ((i : Nat) : Int) = b := by omega
          rw [if_pos this, if_pos hib]
        · have : ¬ ((i : Nat) : Int) = b := by omega
          rw [if_neg this, if_neg hib, Int.add_zero], e]
      omega
def wayT (p : Pl) (but : Int) : List Int := (wayL p).filter (fun b => !(b == but))
theorem wayT_mem {p : Pl} {but x : Int} : x ∈ wayT p but ↔ x ∈ wayL p ∧ ¬ x = but := by
  unfold wayT
  rw [List.mem_filter]
  simp
theorem wayT_apart (p : Pl) (but : Int) : (wayT p but).Pairwise (fun x y => ¬ x = y) := ((way_pw p).imp fun h => h.1).filter _
end Go.Proofs.Ytbcacebifpagpaf
namespace Go.Proofs.Ytbcacebifpagpaf
open Go.RowKit Go.Shelf Go.Sort
set_option linter.unusedVariables false
def ZeroAt (A n : Nat) (v : Value) (g : List Nat) (wk : World) : Prop := ∃ B, g = [B] ∧ v = .slice (some ⟨B, 0, none⟩) n n ∧ A ≤ B ∧ Blk wk B 3 n (fun _ => .int .i64 0)
theorem ZeroAt.below {A n : Nat} {v : Value} {g : List Nat} {w w' : World} (h : ZeroAt A n v g w) (hB : Below w.heap.size w w') : ZeroAt A n v g w' := by
  obtain ⟨B, h0, h1, h2, h3⟩ := h
  exact ⟨B, h0, h1, h2, h3.below hB⟩
theorem ZeroAt.lt {A n : Nat} {v : Value} {g : List Nat} {w : World} (h : ZeroAt A n v g w) : ∀ x ∈ g, x < w.heap.size := by
  obtain ⟨B, rfl, h1, h2, h3⟩ := h
  intro x hx
  rw [List.mem_singleton] at hx
  subst hx
  exact h3.lt
def BoxAt (A : Nat) (v : Value) (g : List Nat) (wk : World) : Prop := ∃ B, g = [B] ∧ v = .pointer (some ⟨B, 0, none⟩) ∧ A ≤ B ∧ Blk wk B 31 7 (fun _ => .slice .none 0 0)
theorem BoxAt.below {A : Nat} {v : Value} {g : List Nat} {w w' : World} (h : BoxAt A v g w) (hB : Below w.heap.size w w') : BoxAt A v g w' := by
  obtain ⟨B, h0, h1, h2, h3⟩ := h
  exact ⟨B, h0, h1, h2, h3.below hB⟩
theorem BoxAt.lt {A : Nat} {v : Value} {g : List Nat} {w : World} (h : BoxAt A v g w) : ∀ x ∈ g, x < w.heap.size := by
  obtain ⟨B, rfl, h1, h2, h3⟩ := h
  intro x hx
  rw [List.mem_singleton] at hx
  subst hx
  exact h3.lt
def SumsAt (A n : Nat) (v : Value) (g : List Nat) (wk : World) : Prop := ∃ B1 B2 B3, g = [] ∧ v = .agg #[.slice .none 0 0, .slice .none 0 0, .slice .none 0 0, .slice .none 0 0, .slice (some ⟨B1, 0, none⟩) n n, .slice (some ⟨B2, 0, none⟩) n n, .slice (some ⟨B3, 0, none⟩) n n] ∧
  (A ≤ B1 ∧ Blk wk B1 3 n (fun _ => .int .i64 0)) ∧ (A ≤ B2 ∧ Blk wk B2 3 n (fun _ => .int .i64 0)) ∧ (A ≤ B3 ∧ Blk wk B3 3 n (fun _ => .int .i64 0))
theorem SumsAt.below {A n : Nat} {v : Value} {g : List Nat} {w w' : World} (h : SumsAt A n v g w) (hB : Below w.heap.size w w') : SumsAt A n v g w' := by
  obtain ⟨B1, B2, B3, h0, h1, ⟨a1, a2⟩, ⟨b1, b2⟩, ⟨c1, c2⟩⟩ := h
  exact ⟨B1, B2, B3, h0, h1, ⟨a1, a2.below hB⟩, ⟨b1, b2.below hB⟩, ⟨c1, c2.below hB⟩⟩
def OneAt (A n : Nat) (v : Value) (g : List Nat) (wk : World) : Prop := ∃ B R, g = [B] ∧ v = .slice (some ⟨B, 0, none⟩) 1 1 ∧ A ≤ B ∧ Blk wk B 23 1 (fun _ => .slice (some ⟨R, 0, none⟩) n n) ∧ A ≤ R ∧ Blk wk R 3 n (fun _ => .int .i64 0)
theorem OneAt.below {A n : Nat} {v : Value} {g : List Nat} {w w' : World} (h : OneAt A n v g w) (hB : Below w.heap.size w w') : OneAt A n v g w' := by
  obtain ⟨B, R, h0, h1, h2, h3, h4, h5⟩ := h
  exact ⟨B, R, h0, h1, h2, h3.below hB, h4, h5.below hB⟩
theorem OneAt.lt {A n : Nat} {v : Value} {g : List Nat} {w : World} (h : OneAt A n v g w) : ∀ x ∈ g, x < w.heap.size := by
  obtain ⟨B, R, rfl, h1, h2, h3, h4, h5⟩ := h
  intro x hx
  rw [List.mem_singleton] at hx
  subst hx
  exact h3.lt
def Fr (n : Nat) (w : World) (s : St) : Prop := ∀ w'' : World, w.heap.size ≤ w''.heap.size → (∀ g, n ≤ g → g < w.heap.size → w''.heap[g]? = w.heap[g]?) → s.At w''
theorem Fr.at {n : Nat} {w : World} {s : St} (h : Fr n w s) : s.At w := h w (Nat.le_refl _) (fun _ _ _ => rfl)
theorem Fr.below {n : Nat} {w w' : World} {s : St} (h : Fr n w s) (hB : Below w.heap.size w w') : Fr n w' s := fun w'' hz hs => h w'' (Nat.le_trans hB.size hz) fun g h1 h2 => (hs g h1 (Nat.lt_of_lt_of_le h2 hB.size)).trans (hB.block g h2)
theorem Fr.set {n : Nat} {w : World} {s : St} (h : Fr n w s) {q : Nat} (hq : q < n) (j : Nat) (u : Value) : Fr n (w.setCell ⟨q, j, none⟩ u) s := fun w'' hz hs => h w'' (by simpa using hz) fun g h1 h2 => (hs g h1 (by simpa using h2)).trans (Below.heap_setCell w ⟨q, j, none⟩ u g (by show g ≠ q; omega))
end Go.Proofs.Ytbcacebifpagpaf
namespace Go.Proofs.Ytbcacebifpagpaf
open Go.RowKit Go.Shelf Go.Sort
set_option linter.unusedVariables false
def DOn (A : Nat) (s : St) (v : Value) (g : List Nat) (wk : World) : Prop := ∃ (g0 c0 : Nat) (G C : Nat → Nat), v = .slice (some ⟨g0, 0, none⟩) s.on.n c0 ∧ A ≤ g0 ∧ s.on.n ≤ c0 ∧ c0 ≤ maxLen ∧ Blk wk g0 23 s.on.n (fun i => .slice (some ⟨G i, 0, none⟩) (s.on.r i).n (C i)) ∧
  (∀ i, i < s.on.n → A ≤ G i ∧ (s.on.r i).n ≤ C i ∧ C i ≤ maxLen ∧ Blk wk (G i) 3 (s.on.r i).n (fun j => .int .i64 ((s.on.r i).z j))) ∧ (∀ i j, i < j → j < s.on.n → G i < G j) ∧ g = (List.range s.on.n).map G
theorem DOn.below {A : Nat} {s : St} {v : Value} {g : List Nat} {w w' : World} (h : DOn A s v g w) (hB : Below w.heap.size w w') : DOn A s v g w' := by
  obtain ⟨g0, c0, G, C, h1, h2, h2', h2'', h3, h4, h5, h6⟩ := h
  exact ⟨g0, c0, G, C, h1, h2, h2', h2'', h3.below hB, fun i hi => ⟨(h4 i hi).1, (h4 i hi).2.1, (h4 i hi).2.2.1, (h4 i hi).2.2.2.below hB⟩, h5, h6⟩
theorem DOn.lt {A : Nat} {s : St} {v : Value} {g : List Nat} {w : World} (h : DOn A s v g w) : ∀ x ∈ g, x < w.heap.size := by
  obtain ⟨g0, c0, G, C, h1, h2, h2', h2'', h3, h4, h5, rfl⟩ := h
  intro x hx
  obtain ⟨i, hi, rfl⟩ := List.mem_map.1 hx
  exact (h4 i (List.mem_range.1 hi)).2.2.2.lt
def DAgg (A : Nat) (s : St) (v : Value) (g : List Nat) (wk : World) : Prop := g = [] ∧ ∃ x2 g2 x6 g6 x10 g10 x14 g14 x18 g18 x22 g22, v = .agg #[x2, .slice .none 0 0, x6, x10, x14, x18, x22] ∧ DOn A s x2 g2 wk ∧ DHs A 54 s.hs x6 g6 wk ∧ DHs A 40 s.ms x10 g10 wk ∧
  DInts A s.si x14 g14 wk ∧ DInts A s.so x18 g18 wk ∧ DInts A s.sf x22 g22 wk ∧ (∀ x ∈ g2, x ∉ g14) ∧ (∀ x ∈ g2, x ∉ g18) ∧ (∀ x ∈ g2, x ∉ g22) ∧ (∀ x ∈ g14, x ∉ g18) ∧ (∀ x ∈ g14, x ∉ g22) ∧ (∀ x ∈ g18, x ∉ g22)
theorem DAgg.below {A : Nat} {s : St} {v : Value} {g : List Nat} {w w' : World} (h : DAgg A s v g w) (hB : Below w.heap.size w w') : DAgg A s v g w' := by
  obtain ⟨h0, x2, g2, x6, g6, x10, g10, x14, g14, x18, g18, x22, g22, h1, a, b, c, d, e, f, r⟩ := h
  exact ⟨h0, x2, g2, x6, g6, x10, g10, x14, g14, x18, g18, x22, g22, h1, a.below hB, b.below hB, c.below hB, d.below hB, e.below hB, f.below hB, r⟩
theorem OwnS.below {A : Nat} {w w' : World} {s : St} (h : OwnS A w s) (hB : Below w.heap.size w w') : OwnS A w' s := by
  refine ⟨?_, fun i hi => (h.rows i hi).below hB, h.rapart, h.os.below hB, h.hs.below hB, h.ms.below hB, h.msr.below hB, h.si.below hB, h.so.below hB, h.sf.below hB, h.aio, h.aif, h.aof, h.ari⟩
  obtain ⟨g, ha, h0, h1, h2, hb⟩ := h.on
  exact ⟨g, ha, h0, h1, h2, hb.below hB⟩
def D16 (A : Nat) (x : Od) (v : Value) (g : List Nat) (wk : World) : Prop := ∃ s' : Hs, g = [] ∧ v = .agg #[.int .i64 x.k, .slice s'.a s'.n s'.c] ∧ Cloned A 60 x.ls wk s'
theorem D16.below {A : Nat} {x : Od} {v : Value} {g : List Nat} {w w' : World} (h : D16 A x v g w) (hB : Below w.heap.size w w') : D16 A x v g w' := by
  obtain ⟨s', h1, h2, h3, h4, h5, h6⟩ := h
  exact ⟨s', h1, h2, h3, h4, h5.below hB, h6.below hB⟩
def D17 (A : Nat) (x : Od) (v : Value) (g : List Nat) (wk : World) : Prop := ∃ (B : Nat) (s' : Hs), g = [] ∧ v = .slice (some ⟨B, 0, none⟩) 1 1 ∧ A ≤ B ∧ Blk wk B 58 2 (fun j => (#[.int .i64 x.k, .slice s'.a s'.n s'.c] : Array Value).getD j default) ∧ Cloned A 60 x.ls wk s'
theorem D17.below {A : Nat} {x : Od} {v : Value} {g : List Nat} {w w' : World} (h : D17 A x v g w) (hB : Below w.heap.size w w') : D17 A x v g w' := by
  obtain ⟨B, s', h1, h2, h3, h4, h5, h6, h7, h8⟩ := h
  exact ⟨B, s', h1, h2, h3, h4.below hB, h5, h6, h7.below hB, h8.below hB⟩
end Go.Proofs.Ytbcacebifpagpaf
namespace Go.Proofs.Ytbcacebifpagpaf
open Go.RowKit Go.Shelf Go.Sort
set_option linter.unusedVariables false
def formedB (p : Pl) (s : St) : Bool := !(badOrdersB p s || badHoldsB p s || badMovesB p s || badSumsB p s)
theorem fB_order {p : Pl} {s : St} {i : Nat} (hi : i < s.os.n) (h : badOrder p (s.os.z i) = true) : formedB p s = false := by
  have : badOrdersB p s = true := anyB_yes hi h
  simp [formedB, this]
theorem fB_check {p : Pl} {s : St} (h : ¬ checkH s.hs.n s.hs.z = 0) : formedB p s = false := by
  have : badHoldsB p s = true := by simp [badHoldsB, h]
  simp [formedB, this]
theorem fB_home {p : Pl} {s : St} {i : Nat} (hi : i < s.hs.n) (h : homeless p s (s.hs.z i) = true) : formedB p s = false := by
  have : badHoldsB p s = true := by unfold badHoldsB; rw [anyB_yes hi h, Bool.or_true]
  simp [formedB, this]
theorem fB_move {p : Pl} {s : St} {i : Nat} (hi : i < s.ms.n) (h : badMove p (s.ms.z i) = true) : formedB p s = false := by
  have : badMovesB p s = true := anyB_yes hi h
  simp [formedB, this]
theorem fB_len1 {p : Pl} {s : St} (h : ¬ s.si.n = p.ns) : formedB p s = false := by
  have : badSumsB p s = true := by
    have h1 : ((s.si.n : Int) != (p.ns : Int)) = true := by simp; omega
    simp [badSumsB, badSum, h1]
  simp [formedB, this]
theorem fB_len2 {p : Pl} {s : St} (h : ¬ s.so.n = p.ns) : formedB p s = false := by
  have : badSumsB p s = true := by
    have h1 : ((s.so.n : Int) != (p.ns : Int)) = true := by simp; omega
    simp [badSumsB, badSum, h1]
  simp [formedB, this]
theorem fB_len3 {p : Pl} {s : St} (h : ¬ s.sf.n = p.ns) : formedB p s = false := by
  have : badSumsB p s = true := by
    have h1 : ((s.sf.n : Int) != (p.ns : Int)) = true := by simp; omega
    simp [badSumsB, badSum, h1]
  simp [formedB, this]
theorem badSum_yes {p : Pl} {l : Rw} {low : Int} {g : Nat} (hn : l.n = p.ns) (hg : g < p.ns) (h : inB (l.z g) low 1048576 = false) : badSum p l low = true := by
  unfold badSum
  rw [anyB_yes (k := g) (by omega) (by rw [h]; rfl), Bool.or_true]
theorem badSum_mk {p : Pl} {l : Rw} {low : Int} (hn : l.n = p.ns) (h : ∀ g, g < p.ns → inB (l.z g) low 1048576 = true) : badSum p l low = false := by
  unfold badSum
  rw [anyB_no fun j hj => by rw [h j (by omega)]; rfl, hn]
  simp
theorem fB_sum {p : Pl} {s : St} (h : badSum p s.si 0 = true ∨ badSum p s.so 0 = true ∨ badSum p s.sf (-1048576) = true) : formedB p s = false := by
  have : badSumsB p s = true := by
    unfold badSumsB
    rcases h with h | h | h <;> rw [h] <;> simp
  simp [formedB, this]
def sumOK (s : St) (g : Nat) : Bool := inB (s.si.z g) 0 1048576 && inB (s.so.z g) 0 1048576 && inB (s.sf.z g) (-1048576) 1048576
theorem fB_yes {p : Pl} {s : St} (h1 : ∀ i, i < s.os.n → badOrder p (s.os.z i) = false) (h2 : checkH s.hs.n s.hs.z = 0) (h3 : ∀ i, i < s.hs.n → homeless p s (s.hs.z i) = false) (h4 : ∀ i, i < s.ms.n → badMove p (s.ms.z i) = false)
    (h5 : s.si.n = p.ns ∧ s.so.n = p.ns ∧ s.sf.n = p.ns) (h6 : ∀ g, g < p.ns → sumOK s g = true) : formedB p s = true := by
  have e1 : badOrdersB p s = false := anyB_no h1
  have e2 : badHoldsB p s = false := by unfold badHoldsB; rw [h2, anyB_no h3]; rfl
  have e3 : badMovesB p s = false := anyB_no h4
  have e4 : badSumsB p s = false := by
    have h : ∀ g, g < p.ns → (inB (s.si.z g) 0 1048576 = true ∧ inB (s.so.z g) 0 1048576 = true) ∧ inB (s.sf.z g) (-1048576) 1048576 = true := fun g hg => by
      have := h6 g hg
      simpa [sumOK] using this
    unfold badSumsB
    rw [badSum_mk h5.1 fun g hg => (h g hg).1.1, badSum_mk h5.2.1 fun g hg => (h g hg).1.2, badSum_mk h5.2.2 fun g hg => (h g hg).2]
    rfl
  unfold formedB
  rw [e1, e2, e3, e4]
  rfl
theorem checkH_zero' {n : Nat} {z : Nat → Hd} (h : checkH n z = 0) : anyB n (badH z) = false := by
  cases h' : anyB n (badH z)
  · rfl
  · simp [checkH, h'] at h
theorem all_succ {k : Nat} {f : Nat → Bool} {b : Bool} (h : ∀ j, j < k → f j = b) (hk : f k = b) : ∀ j, j < k + 1 → f j = b := fun j hj => by
  by_cases hjk : j = k
  · rw [hjk]; exact hk
  · exact h j (by omega)
set_option maxRecDepth 100000 in
set_option maxHeartbeats 8000000 in
theorem formed_any (p : Pl) (s : St) (w : World) (hp : p.At w) (hs : s.At w) (h0 : shelfE p s.on = 0) (h1 : tooManyB s = false) :
    Calls Try.prog 33 #[p.val, s.val] w fun e w' => e = .returned (.bool (formedB p s)) ∧ Below w.heap.size w w' := by
  obtain ⟨W0, hW, hWB, X0⟩ : ∃ W, ((w.alloc (.cells #[.slice p.ab p.nb p.cb, .slice p.sa p.ns p.cs] 25)).alloc (.cells s.cells 31)) = W ∧ Below w.heap.size w W ∧ Boxes W w.heap.size (w.heap.size + 1) p s := ⟨_, rfl, two_below _ _ _, boxes_new w p s _ _⟩
  have HC : Hid (∀ wk, Below W0.heap.size W0 wk → Boxes wk w.heap.size (w.heap.size + 1) p s ∧ p.At wk ∧ s.At wk ∧ Below w.heap.size w wk) := fun wk h => ⟨X0.below h, (hp.below hWB).below h, (hs.below hWB).below h, hWB.trans (h.mono hWB.size)⟩
  have HW : Hid ((w.alloc (.cells #[.slice p.ab p.nb p.cb, .slice p.sa p.ns p.cs] 25)).alloc (.cells #[.slice s.on.a s.on.n s.on.c, .slice s.os.a s.os.n s.os.c, .slice s.hs.a s.hs.n s.hs.c, .slice s.ms.a s.ms.n s.ms.c, .slice s.si.a s.si.n s.si.c, .slice s.so.a s.so.n s.so.c, .slice s.sf.a s.sf.n s.sf.c] 31) = W0) := hW
  have HT : Hid (s.os.n ≤ 4 ∧ s.ms.n ≤ 8 ∧ (∀ i, i < s.os.n → 1 ≤ (s.os.z i).ls.n ∧ (s.os.z i).ls.n ≤ 3)) := by
    unfold tooManyB at h1
    simp only [Bool.or_eq_false_iff, decide_eq_false_iff_not] at h1
    refine ⟨by omega, by omega, fun i hi => ?_⟩
    have := anyB_false h1.2 i hi
    simp only [fewLines, Bool.not_eq_false'] at this
    have := inB_true this
    omega
  have HR : Hid (RightS p s.on) := (rightS h0).2
  have leb := hp.leb
  have capb0 := hp.capb
  have les := hp.les
  have caps0 := hp.caps
  have capb := capb0
  have caps := caps0
  have ole := hs.os.le
  have ocap := hs.os.cap
  have hle := hs.hs.le
  have hcap := hs.hs.cap
  have mle := hs.ms.le
  have mcap := hs.ms.cap
  unfold maxLen at capb caps ocap hcap mcap
  have os4 := HT.out.1
  have ms8 := HT.out.2.1
  have ns3 := HR.out.pl.ns3
  clear hW X0 h0 h1 hp hs
  unfold Pl.val St.val
  go_enter Try.func33, Try.ntmps33
  go_wp2_with fail
  rw [HW.out]
  go_loopw [5] (fun i wk => ∃ k : Nat, k ≤ s.os.n ∧ i = .int .i64 k ∧ (∀ j, j < k → badOrder p (s.os.z j) = false) ∧ Below W0.heap.size W0 wk) (fun i _ => s.os.n - (intOf i).toNat)
  case atStart => exact ⟨0, Nat.zero_le _, rfl, fun j hj => absurd hj (Nat.not_lt_zero _), Below.refl _ _⟩
  case round =>
    obtain ⟨i, hi, rfl, hno, hB⟩ := hrel
    have HN : Hid (∀ j, j < i → badOrder p (s.os.z j) = false) := hno
    clear hno
    obtain ⟨X, hpk, hsk, hBw⟩ := HC.out wr hB
    obtain ⟨⟨l1, d0, d1⟩, l2, c0, c1, c2, c3, c4, c5, c6⟩ := X
    by_cases hlt : i < s.os.n
    · obtain ⟨b, o, hoa, hb, z0, z1, hl⟩ := hsk.os.ods i hlt
      have q1 : (0 : Int) ≤ (i : Int) := by omega
      have hl3 := (HT.out.2.2 i hlt)
      have lle := hl.le
      have lcap := hl.cap
      unfold maxLen at lcap
      have HO : Hid (s.os.a = some ⟨b, o, none⟩) := hoa
      have HE : Hid (badOrder p (s.os.z i) = (!inB (s.os.z i).k 0 2 || anyB (s.os.z i).ls.n (fun j => badLine p ((s.os.z i).ls.z j)))) := rfl
      rw [hoa] at c1
      clear hoa hl hsk c0 c2 c3 c4 c5 c6 hpk
      cases hk : inB (s.os.z i).k 0 2
      · have HX : Hid (formedB p s = false) := fB_order hlt (by rw [HE.out, hk]; rfl)
        generalize (s.os.z i).k = KD at *
        go_wp2_with (go_at_call 32; refine calls_to (within_any _ _ _ _) ?_)
        go_ret
        exact ⟨by rw [HX.out]; rfl, hBw⟩
      · have HE2 : Hid (badOrder p (s.os.z i) = anyB (s.os.z i).ls.n (fun j => badLine p ((s.os.z i).ls.z j))) := by show badOrder p (s.os.z i) = _; rw [HE.out, hk]; rfl
        clear HE
        generalize (s.os.z i).k = KD at *
        go_wp2_with (go_at_call 32; refine calls_to (within_any _ _ _ _) ?_)
        clear hk z0 hBw z1 c1 d0 d1 l1 l2 hb
        go_loopw [6] (fun i0 wk => ∃ k : Nat, k ≤ (s.os.z i).ls.n ∧ i0 = .int .i64 k ∧ (∀ j, j < k → badLine p ((s.os.z i).ls.z j) = false) ∧ Below W0.heap.size W0 wk) (fun i0 _ => (s.os.z i).ls.n - (intOf i0).toNat)
        case atStart => exact ⟨0, Nat.zero_le _, rfl, fun j hj => absurd hj (Nat.not_lt_zero _), hB⟩
        case round =>
          clear hB
          obtain ⟨j, hj, rfl, hno, hB⟩ := hrel
          have HM : Hid (∀ j', j' < j → badLine p ((s.os.z i).ls.z j') = false) := hno
          clear hno
          obtain ⟨X, hpk, hsk, hBw⟩ := HC.out wr hB
          obtain ⟨⟨l1, d0, d1⟩, l2, c0, c1, c2, c3, c4, c5, c6⟩ := X
          obtain ⟨b', o', hoa, hb, z0, z1, hl⟩ := hsk.os.ods i hlt
          rw [HO.out] at hoa c1
          simp only [Option.some.injEq, Addr.mk.injEq, and_true] at hoa
          obtain ⟨rfl, rfl⟩ := hoa
          by_cases hlj : j < (s.os.z i).ls.n
          · obtain ⟨b2, o2, hla, hb2, y0, y1, y2, y3⟩ := hl.hds j hlj
            have q2 : (0 : Int) ≤ (j : Int) := by omega
            have HT1 : Hid (badLine p ((s.os.z i).ls.z j) = true → formedB p s = false) := fun h => fB_order hlt (by rw [HE2.out]; exact anyB_yes hlj h)
            have HT2 : Hid (badLine p ((s.os.z i).ls.z j) = false → ∀ j', j' < j + 1 → badLine p ((s.os.z i).ls.z j') = false) := fun h => all_succ HM.out h
            have HBL : Hid (badLine p ((s.os.z i).ls.z j) = (!inB ((s.os.z i).ls.z j).o 0 ((p.ns : Int) - 1) || !inB ((s.os.z i).ls.z j).l 1 200 || !inB ((s.os.z i).ls.z j).b 0 ((s.os.z i).ls.z j).l || !inB ((s.os.z i).ls.z j).n 0 ((s.os.z i).ls.z j).l)) := rfl
            rw [hla] at z1
            clear hla hl hsk hpk c0 c2 c3 c4 c5 c6 z0 HM
            generalize badLine p ((s.os.z i).ls.z j) = BL at *
            generalize (s.os.z i).ls.z j = LZ at *
            obtain ⟨W1, hW1, hBn, hYn⟩ : ∃ W1, wr.alloc (.cells #[.int .i64 LZ.o, .int .i64 LZ.l, .int .i64 LZ.b, .int .i64 LZ.n] 60) = W1 ∧ Below W0.heap.size W0 W1 ∧ Blk W1 wr.heap.size 60 4 (fun j => (#[.int .i64 LZ.o, .int .i64 LZ.l, .int .i64 LZ.b, .int .i64 LZ.n] : Array Value).getD j default) := ⟨_, rfl, hB.alloc hB.size _, Blk.mk' rfl rfl⟩
            obtain ⟨B4, hB4⟩ : ∃ B4, wr.heap.size = B4 := ⟨_, rfl⟩
            rw [hB4] at hYn
            have HV : Hid (wr.alloc (.cells #[.int .i64 LZ.o, .int .i64 LZ.l, .int .i64 LZ.b, .int .i64 LZ.n] 60) = W1 ∧ wr.heap.size = B4) := ⟨hW1, hB4⟩
            obtain ⟨X, hpk, hsk, hBw1⟩ := HC.out W1 hBn
            have HX1 : Hid (Boxes W1 w.heap.size (w.heap.size + 1) p s) := X
            clear hW1 hB4 X hpk hsk
            have HY : Hid (∀ wk, Below W1.heap.size W1 wk → (wk.cell? ⟨B4, 1, none⟩ = some (.int .i64 LZ.l) ∧ wk.cell? ⟨B4, 2, none⟩ = some (.int .i64 LZ.b) ∧ wk.cell? ⟨B4, 3, none⟩ = some (.int .i64 LZ.n) ∧ B4 < wk.heap.size) ∧ Below W0.heap.size W0 wk ∧ Below w.heap.size w wk) :=
              fun wk h => ⟨⟨(hYn.below h).cell (j := 1) (by decide), (hYn.below h).cell (j := 2) (by decide), (hYn.below h).cell (j := 3) (by decide), (hYn.below h).lt⟩, hBn.trans (h.mono hBn.size), hBw1.trans (h.mono hBw1.size)⟩
            clear hYn hBn hBw1 hBw
            go_wp2_with fail
            rw [HV.out.1]
            refine (isGood_any p LZ.o W1 les caps0).mono ?_
            rintro e w2 ⟨rfl, hB2⟩
            rw [HV.out.2]
            obtain ⟨⟨t1, t2, t3, l4⟩, hBz, hBw⟩ := HY.out w2 hB2
            clear hB2 HY HV HX1 y0 y1 y2 y3 z1 c1 d0 d1 l1 l2 hb hb2 hB
            cases k1 : inB LZ.o 0 ((p.ns : Int) - 1)
            · have HX : Hid (formedB p s = false) := HT1.out (by rw [HBL.out, k1]; rfl)
              clear HBL HT1 HT2 k1
              go_wp2_with fail
              go_ret
              exact ⟨by rw [HX.out]; rfl, hBw⟩
            · cases k2 : inB LZ.l 1 200
              · have HX : Hid (formedB p s = false) := HT1.out (by rw [HBL.out, k1, k2]; rfl)
                clear HBL HT1 HT2 k1
                go_wp2_with (go_at_call 32; refine calls_to (within_any _ _ _ _) ?_)
                go_ret
                exact ⟨by rw [HX.out]; rfl, hBw⟩
              · cases k3 : inB LZ.b 0 LZ.l
                · have HX : Hid (formedB p s = false) := HT1.out (by rw [HBL.out, k1, k2, k3]; rfl)
                  clear HBL HT1 HT2 k1
                  go_wp2_with (go_at_call 32; refine calls_to (within_any _ _ _ _) ?_)
                  go_ret
                  exact ⟨by rw [HX.out]; rfl, hBw⟩
                · cases k4 : inB LZ.n 0 LZ.l
                  · have HX : Hid (formedB p s = false) := HT1.out (by rw [HBL.out, k1, k2, k3, k4]; rfl)
                    clear HBL HT1 HT2 k1
                    go_wp2_with (go_at_call 32; refine calls_to (within_any _ _ _ _) ?_)
                    go_ret
                    exact ⟨by rw [HX.out]; rfl, hBw⟩
                  · have HX := HT2.out (by rw [HBL.out, k1, k2, k3, k4]; rfl)
                    have HX2 : Hid _ := HX
                    clear HBL HT1 HT2 k1 HX
                    go_wp2_with (go_at_call 32; refine calls_to (within_any _ _ _ _) ?_)
                    go_roundw
                    case rel => exact ⟨j + 1, by omega, by go_num, HX2.out, hBz⟩
                    case measure => simp [intOf]; omega
          · have HA : Hid (badOrder p (s.os.z i) = false) := by show badOrder p (s.os.z i) = false; rw [HE2.out]; exact anyB_no fun j' hj' => HM.out j' (by omega)
            clear c0 c2 c3 c4 c5 c6 hpk hsk hl
            go_wp2_with fail
            go_roundw
            case rel => exact ⟨i + 1, by omega, by go_num, all_succ HN.out HA.out, hB⟩
            case measure => simp [intOf]; omega
    · have HN2 : Hid (∀ j, j < s.os.n → badOrder p (s.os.z j) = false) := fun j hj => HN.out j (by omega)
      clear HN
      have HHS : Hid (s.hs.At wr) := hsk.hs
      clear hsk hpk c0 c3 c4 c5 c6 hBw d0 d1
      go_wp2_with fail
      refine (CheckHolds_any s.hs wr HHS.out).mono ?_
      rintro e w2 ⟨rfl, hB2⟩
      have hB := hB.trans (hB2.mono hB.size)
      clear hB2 HHS c1 c2 l1 l2 hlt hi
      by_cases h0 : checkH s.hs.n s.hs.z = 0
      · have H0 : Hid (checkH s.hs.n s.hs.z = 0) := h0
        have h72 : s.hs.n ≤ 72 := right_len (checkH_zero' h0)
        rw [h0]
        clear h0
        go_wp2_with fail
        go_loopw [8] (fun i wk => ∃ k : Nat, k ≤ s.hs.n ∧ i = .int .i64 k ∧ (∀ j, j < k → homeless p s (s.hs.z j) = false) ∧ Below W0.heap.size W0 wk) (fun i _ => s.hs.n - (intOf i).toNat)
        case atStart => exact ⟨0, Nat.zero_le _, rfl, fun j hj => absurd hj (Nat.not_lt_zero _), hB⟩
        case round =>
          clear hB
          obtain ⟨k, hk, rfl, hno, hB⟩ := hrel
          have HM : Hid (∀ j, j < k → homeless p s (s.hs.z j) = false) := hno
          clear hno
          obtain ⟨X, hpk, hsk, hBw⟩ := HC.out wr hB
          obtain ⟨⟨l1, d0, d1⟩, l2, c0, c1, c2, c3, c4, c5, c6⟩ := X
          by_cases hlt : k < s.hs.n
          · obtain ⟨b, q, hha, hb, z0, z1, z2, z3⟩ := hsk.hs.hds k hlt
            have hfine := fineH_true (right_fine (checkH_zero' H0.out) k hlt)
            obtain ⟨mo, hmo⟩ := Int.eq_ofNat_of_zero_le hfine.1.1
            obtain ⟨ml, hml⟩ := Int.eq_ofNat_of_zero_le hfine.2.1.1
            have q4 : (0 : Int) ≤ (k : Int) := by omega
            have q2 : (0 : Int) ≤ (mo : Int) := by omega
            have q3 : (0 : Int) ≤ (ml : Int) := by omega
            have HT1 : Hid (homeless p s (s.hs.z k) = true → formedB p s = false) := fun h => fB_home hlt h
            have HT2 : Hid (homeless p s (s.hs.z k) = false → ∀ j', j' < k + 1 → homeless p s (s.hs.z j') = false) := fun h => all_succ HM.out h
            have HBL : Hid (homeless p s (s.hs.z k) = (!inB mo 0 ((s.os.n : Int) - 1) || !inB ml 0 (((s.os.z mo).ls.n : Int) - 1) || !inB (s.hs.z k).b 0 ((p.nb : Int) - 1))) := by
              show homeless p s (s.hs.z k) = _
              unfold homeless
              rw [hmo, hml]
              rfl
            rw [hmo] at z0
            rw [hml] at z1
            rw [hha] at c2
            clear hmo hml hfine HM hha
            generalize homeless p s (s.hs.z k) = BL at *
            generalize (s.hs.z k).b = HB at *
            generalize (s.hs.z k).n = HNn at *
            obtain ⟨W1, hW1, hBn, hYn, hBa⟩ : ∃ W1, wr.alloc (.cells #[.int .i64 mo, .int .i64 ml, .int .i64 HB, .int .i64 HNn] 54) = W1 ∧ Below W0.heap.size W0 W1 ∧ Blk W1 wr.heap.size 54 4 (fun j => (#[.int .i64 mo, .int .i64 ml, .int .i64 HB, .int .i64 HNn] : Array Value).getD j default) ∧ Below wr.heap.size wr W1 := ⟨_, rfl, hB.alloc hB.size _, Blk.mk' rfl rfl, (Below.refl _ _).alloc (Nat.le_refl _) _⟩
            have HV : Hid (wr.alloc (.cells #[.int .i64 mo, .int .i64 ml, .int .i64 HB, .int .i64 HNn] 54) = W1) := hW1
            obtain ⟨X, hpk1, hsk1, hBw1⟩ := HC.out W1 hBn
            obtain ⟨⟨m1, e0, e1⟩, m2, f0, f1, f2, f3, f4, f5, f6⟩ := X
            have r0 : ∀ d os, (grow (redrawn W1 d) os).cell? ⟨wr.heap.size, 0, none⟩ = some (.int .i64 mo) := fun d os => cell_regrown (hYn.cell (j := 0) (by decide)) d os
            have r1 : ∀ d os, (grow (redrawn W1 d) os).cell? ⟨wr.heap.size, 1, none⟩ = some (.int .i64 ml) := fun d os => cell_regrown (hYn.cell (j := 1) (by decide)) d os
            have r2 : ∀ d os, (grow (redrawn W1 d) os).cell? ⟨wr.heap.size, 2, none⟩ = some (.int .i64 HB) := fun d os => cell_regrown (hYn.cell (j := 2) (by decide)) d os
            have r3 : ∀ d os, (grow (redrawn W1 d) os).cell? ⟨w.heap.size, 0, none⟩ = some (.slice p.ab p.nb p.cb) := fun d os => cell_regrown e0 d os
            have r4 : ∀ d os, (grow (redrawn W1 d) os).cell? ⟨w.heap.size, 1, none⟩ = some (.slice p.sa p.ns p.cs) := fun d os => cell_regrown e1 d os
            clear e0 e1 f0 f2 f3 f4 f5 f6 hpk1 hW1
            by_cases g1 : mo < s.os.n
            · obtain ⟨b1, o1, hoa, hb1, -, y1, hl⟩ := hsk1.os.ods mo g1
              have lle := hl.le
              have lcap := hl.cap
              have l3 := HT.out.2.2 mo g1
              unfold maxLen at lcap
              rw [hoa] at f1
              have r5 : ∀ d os, (grow (redrawn W1 d) os).cell? ⟨w.heap.size + 1, 1, none⟩ = some (.slice (some ⟨b1, o1, none⟩) s.os.n s.os.c) := fun d os => cell_regrown f1 d os
              have r6 : ∀ d os, (grow (redrawn W1 d) os).cell? ⟨b1, o1 + mo * 2 + 1, none⟩ = some (.slice (s.os.z mo).ls.a (s.os.z mo).ls.n (s.os.z mo).ls.c) := fun d os => cell_regrown y1 d os
              have g1' : ¬ (s.os.n : Int) ≤ (mo : Int) := by omega
              have g1d : decide ((s.os.n : Int) ≤ (mo : Int)) = false := decide_eq_false g1'
              have g1n : ¬ s.os.n ≤ mo := by omega
              have g1e : decide (s.os.n ≤ mo) = false := decide_eq_false g1n
              have k1 : inB mo 0 ((s.os.n : Int) - 1) = true := inB_mk (by omega)
              clear hoa hl hsk1 f1 y1
              generalize (s.os.z mo).ls.n = LN at *
              generalize (s.os.z mo).ls.a = LA at *
              generalize (s.os.z mo).ls.c = LC at *
              by_cases g2 : ml < LN
              · have g2' : ¬ (LN : Int) ≤ (ml : Int) := by omega
                have g2d : decide ((LN : Int) ≤ (ml : Int)) = false := decide_eq_false g2'
                have g2n : ¬ LN ≤ ml := by omega
                have g2e : decide (LN ≤ ml) = false := decide_eq_false g2n
                have k2 : inB ml 0 ((LN : Int) - 1) = true := inB_mk (by omega)
                cases k3 : inB HB 0 ((p.nb : Int) - 1)
                · have HX : Hid (formedB p s = false) := HT1.out (by rw [HBL.out, k1, k2, k3]; rfl)
                  clear HBL HT1 HT2 k1 k2
                  go_wp2_with fail
                  rw [HV.out]
                  refine wp_region_quiet_below (by kernel_rfl) (by kernel_rfl) ?_
                  repeat (go_big_quiet_step ((go_at_call 62; exact Calls.regrown_of (isBin_any p HB _ leb capb0))))
                  refine wpQuiet_nil ?_
                  intro _ hw'
                  obtain ⟨⟨dq, osq⟩, hw''⟩ := hw'
                  subst hw''
                  rw [k3]
                  go_wp2_with fail
                  go_ret
                  exact ⟨by rw [HX.out]; rfl, hBw1.trans ((below_regrown _ _ _).mono hBw1.size)⟩
                · have HX := HT2.out (by rw [HBL.out, k1, k2, k3]; rfl)
                  have HX2 : Hid _ := HX
                  clear HBL HT1 HT2 k1 k2 HX
                  go_wp2_with fail
                  rw [HV.out]
                  refine wp_region_quiet_below (by kernel_rfl) (by kernel_rfl) ?_
                  repeat (go_big_quiet_step ((go_at_call 62; exact Calls.regrown_of (isBin_any p HB _ leb capb0))))
                  refine wpQuiet_nil ?_
                  intro _ hw'
                  obtain ⟨⟨dq, osq⟩, hw''⟩ := hw'
                  subst hw''
                  rw [k3]
                  go_wp2_with fail
                  go_roundw
                  case rel => exact ⟨k + 1, by omega, by go_num, HX2.out, hBn.trans ((below_regrown _ _ _).mono hBn.size)⟩
                  case measure => simp [intOf]; omega
              · have g2' : (LN : Int) ≤ (ml : Int) := by omega
                have g2d : decide ((LN : Int) ≤ (ml : Int)) = true := decide_eq_true g2'
                have g2n : LN ≤ ml := by omega
                have g2e : decide (LN ≤ ml) = true := decide_eq_true g2n
                have k2 : inB ml 0 ((LN : Int) - 1) = false := inB_no (by omega)
                have HX : Hid (formedB p s = false) := HT1.out (by rw [HBL.out, k1, k2]; rfl)
                clear HBL HT1 HT2 k1 k2
                go_wp2_with fail
                rw [HV.out]
                refine wp_region_quiet_below (by kernel_rfl) (by kernel_rfl) ?_
                repeat (go_big_quiet_step (fail))
                refine wpQuiet_nil ?_
                intro _ hw'
                obtain ⟨⟨dq, osq⟩, hw''⟩ := hw'
                subst hw''
                go_wp2_with fail
                go_ret
                exact ⟨by rw [HX.out]; rfl, hBw1.trans ((below_regrown _ _ _).mono hBw1.size)⟩
            · have g1' : (s.os.n : Int) ≤ (mo : Int) := by omega
              have g1d : decide ((s.os.n : Int) ≤ (mo : Int)) = true := decide_eq_true g1'
              have k1 : inB mo 0 ((s.os.n : Int) - 1) = false := inB_no (by omega)
              have r5 : ∀ d os, (grow (redrawn W1 d) os).cell? ⟨w.heap.size + 1, 1, none⟩ = some (.slice s.os.a s.os.n s.os.c) := fun d os => cell_regrown f1 d os
              have HX : Hid (formedB p s = false) := HT1.out (by rw [HBL.out, k1]; rfl)
              clear HBL HT1 HT2 k1 f1 hsk1
              go_wp2_with fail
              rw [HV.out]
              refine wp_region_quiet_below (by kernel_rfl) (by kernel_rfl) ?_
              repeat (go_big_quiet_step (fail))
              refine wpQuiet_nil ?_
              intro _ hw'
              obtain ⟨⟨dq, osq⟩, hw''⟩ := hw'
              subst hw''
              go_wp2_with fail
              go_ret
              exact ⟨by rw [HX.out]; rfl, hBw1.trans ((below_regrown _ _ _).mono hBw1.size)⟩
          · have HN3 : Hid (∀ j, j < s.hs.n → homeless p s (s.hs.z j) = false) := fun j hj => HM.out j (by omega)
            clear HM
            go_wp2_with fail
            clear hsk hpk c0 c1 c2 c3 c4 c5 c6 d0 d1 hBw l1 l2 hlt hk
            go_loopw [10] (fun i wk => ∃ k : Nat, k ≤ s.ms.n ∧ i = .int .i64 k ∧ (∀ j, j < k → badMove p (s.ms.z j) = false) ∧ Below W0.heap.size W0 wk) (fun i _ => s.ms.n - (intOf i).toNat)
            case atStart => exact ⟨0, Nat.zero_le _, rfl, fun j hj => absurd hj (Nat.not_lt_zero _), hB⟩
            case round =>
              clear hB
              obtain ⟨k, hk, rfl, hno, hB⟩ := hrel
              have HM : Hid (∀ j, j < k → badMove p (s.ms.z j) = false) := hno
              clear hno
              obtain ⟨X, hpk, hsk, hBw⟩ := HC.out wr hB
              obtain ⟨⟨l1, d0, d1⟩, l2, c0, c1, c2, c3, c4, c5, c6⟩ := X
              by_cases hlt : k < s.ms.n
              · obtain ⟨b, q, hma, hb, z0, z1, z2, z3⟩ := hsk.ms.hds k hlt
                have q4 : (0 : Int) ≤ (k : Int) := by omega
                have HT1 : Hid (badMove p (s.ms.z k) = true → formedB p s = false) := fun h => fB_move hlt h
                have HT2 : Hid (badMove p (s.ms.z k) = false → ∀ j', j' < k + 1 → badMove p (s.ms.z j') = false) := fun h => all_succ HM.out h
                have HBL : Hid (badMove p (s.ms.z k) = (!inB (s.ms.z k).o 0 ((p.ns : Int) - 1) || !inB (s.ms.z k).l 0 ((p.nb : Int) - 1) || !inB (s.ms.z k).b 0 ((p.nb : Int) - 1) || ((s.ms.z k).l == (s.ms.z k).b) || !inB (s.ms.z k).n 1 200)) := rfl
                rw [hma] at c3
                clear hma hsk hpk c0 c1 c2 c4 c5 c6 HM
                generalize badMove p (s.ms.z k) = BL at *
                generalize s.ms.z k = LZ at *
                obtain ⟨W1, hW1, hBn, hYn⟩ : ∃ W1, wr.alloc (.cells #[.int .i64 LZ.o, .int .i64 LZ.l, .int .i64 LZ.b, .int .i64 LZ.n] 40) = W1 ∧ Below W0.heap.size W0 W1 ∧ Blk W1 wr.heap.size 40 4 (fun j => (#[.int .i64 LZ.o, .int .i64 LZ.l, .int .i64 LZ.b, .int .i64 LZ.n] : Array Value).getD j default) := ⟨_, rfl, hB.alloc hB.size _, Blk.mk' rfl rfl⟩
                obtain ⟨B4, hB4⟩ : ∃ B4, wr.heap.size = B4 := ⟨_, rfl⟩
                rw [hB4] at hYn
                have HV : Hid (wr.alloc (.cells #[.int .i64 LZ.o, .int .i64 LZ.l, .int .i64 LZ.b, .int .i64 LZ.n] 40) = W1 ∧ wr.heap.size = B4) := ⟨hW1, hB4⟩
                have HY : Hid (∀ wk, Below W1.heap.size W1 wk → (wk.cell? ⟨B4, 1, none⟩ = some (.int .i64 LZ.l) ∧ wk.cell? ⟨B4, 2, none⟩ = some (.int .i64 LZ.b) ∧ wk.cell? ⟨B4, 3, none⟩ = some (.int .i64 LZ.n) ∧ B4 < wk.heap.size) ∧ (w.heap.size < wk.heap.size ∧ wk.cell? ⟨w.heap.size, 0, none⟩ = some (.slice p.ab p.nb p.cb) ∧ wk.cell? ⟨w.heap.size, 1, none⟩ = some (.slice p.sa p.ns p.cs)) ∧ Below W0.heap.size W0 wk ∧ Below w.heap.size w wk) :=
                  fun wk h => ⟨⟨(hYn.below h).cell (j := 1) (by decide), (hYn.below h).cell (j := 2) (by decide), (hYn.below h).cell (j := 3) (by decide), (hYn.below h).lt⟩, (HC.out wk (hBn.trans (h.mono hBn.size))).1.1, hBn.trans (h.mono hBn.size), (HC.out wk (hBn.trans (h.mono hBn.size))).2.2.2⟩
                clear hYn hBn hBw hW1 hB4
                go_wp2_with fail
                rw [HV.out.1]
                refine (isGood_any p LZ.o W1 les caps0).mono ?_
                rintro e w2 ⟨rfl, hB2⟩
                rw [HV.out.2]
                clear d0 d1 l1 l2 hb hB z0 z1 z2 z3 c3 HV
                obtain ⟨⟨t1, t2, t3, l4⟩, ⟨l1, d0, d1⟩, hBz, hBw⟩ := HY.out w2 hB2
                cases k1 : inB LZ.o 0 ((p.ns : Int) - 1)
                · have HX : Hid (formedB p s = false) := HT1.out (by rw [HBL.out, k1]; rfl)
                  clear HBL HT1 HT2 k1
                  go_wp2_with fail
                  go_ret
                  exact ⟨by rw [HX.out]; rfl, hBw⟩
                · go_wp2_with fail
                  refine (isBin_any p LZ.l w2 leb capb0).mono ?_
                  rintro e w3 ⟨rfl, hB3⟩
                  have hB3 := hB2.trans (hB3.mono hB2.size)
                  clear hB2 t1 t2 t3 l4 l1 d0 d1 hBz hBw
                  obtain ⟨⟨t1, t2, t3, l4⟩, ⟨l1, d0, d1⟩, hBz, hBw⟩ := HY.out w3 hB3
                  cases k2 : inB LZ.l 0 ((p.nb : Int) - 1)
                  · have HX : Hid (formedB p s = false) := HT1.out (by rw [HBL.out, k1, k2]; rfl)
                    clear HBL HT1 HT2 k1 k2
                    go_wp2_with fail
                    go_ret
                    exact ⟨by rw [HX.out]; rfl, hBw⟩
                  · go_wp2_with fail
                    refine (isBin_any p LZ.b w3 leb capb0).mono ?_
                    rintro e w4 ⟨rfl, hB4⟩
                    have hB4 := hB3.trans (hB4.mono hB3.size)
                    clear hB3 t1 t2 t3 l4 l1 d0 d1 hBz hBw
                    obtain ⟨⟨t1, t2, t3, l4⟩, ⟨l1, d0, d1⟩, hBz, hBw⟩ := HY.out w4 hB4
                    cases k3 : inB LZ.b 0 ((p.nb : Int) - 1)
                    · have HX : Hid (formedB p s = false) := HT1.out (by rw [HBL.out, k1, k2, k3]; rfl)
                      clear HBL HT1 HT2 k1 k2 k3
                      go_wp2_with fail
                      go_ret
                      exact ⟨by rw [HX.out]; rfl, hBw⟩
                    · cases k4 : (LZ.l == LZ.b)
                      · cases k5 : inB LZ.n 1 200
                        · have HX : Hid (formedB p s = false) := HT1.out (by rw [HBL.out, k1, k2, k3, k4, k5]; rfl)
                          clear HBL HT1 HT2 k1 k2 k3
                          go_wp2_with (go_at_call 32; refine calls_to (within_any _ _ _ _) ?_)
                          go_ret
                          exact ⟨by rw [HX.out]; rfl, hBw⟩
                        · have HX := HT2.out (by rw [HBL.out, k1, k2, k3, k4, k5]; rfl)
                          have HX2 : Hid _ := HX
                          clear HBL HT1 HT2 k1 k2 k3 HX
                          go_wp2_with (go_at_call 32; refine calls_to (within_any _ _ _ _) ?_)
                          go_roundw
                          case rel => exact ⟨k + 1, by omega, by go_num, HX2.out, hBz⟩
                          case measure => simp [intOf]; omega
                      · have HX : Hid (formedB p s = false) := HT1.out (by rw [HBL.out, k1, k2, k3, k4]; rfl)
                        clear HBL HT1 HT2 k1 k2 k3
                        go_wp2_with fail
                        go_ret
                        exact ⟨by rw [HX.out]; rfl, hBw⟩
              · have HN4 : Hid (∀ j, j < s.ms.n → badMove p (s.ms.z j) = false) := fun j hj => HM.out j (by omega)
                clear HM
                by_cases n1 : s.si.n = p.ns
                · by_cases n2 : s.so.n = p.ns
                  · by_cases n3 : s.sf.n = p.ns
                    · have HLN : Hid (s.si.n = p.ns ∧ s.so.n = p.ns ∧ s.sf.n = p.ns) := ⟨n1, n2, n3⟩
                      have q1 := hsk.si.le
                      have q2 := hsk.si.cap
                      have q3 := hsk.so.le
                      have q4 := hsk.so.cap
                      have q5 := hsk.sf.le
                      have q6 := hsk.sf.cap
                      unfold maxLen at q2 q4 q6
                      rw [n1] at c4 q1
                      rw [n2] at c5 q3
                      rw [n3] at c6 q5
                      clear n1 n2 n3 hsk hpk c0 c1 c2 hBw
                      go_wp2_with fail
                      clear c3 c4 c5 c6 d0 d1 l1 l2 hlt hk
                      go_loopw [12] (fun i wk => ∃ k : Nat, k ≤ p.ns ∧ i = .int .i64 k ∧ (∀ j, j < k → sumOK s j = true) ∧ Below W0.heap.size W0 wk) (fun i _ => p.ns - (intOf i).toNat)
                      case atStart => exact ⟨0, Nat.zero_le _, rfl, fun j hj => absurd hj (Nat.not_lt_zero _), hB⟩
                      case round =>
                        clear hB
                        obtain ⟨g, hg, rfl, hno, hB⟩ := hrel
                        have HM : Hid (∀ j, j < g → sumOK s j = true) := hno
                        clear hno
                        obtain ⟨X, hpk, hsk, hBw⟩ := HC.out wr hB
                        obtain ⟨⟨l1, d0, d1⟩, l2, c0, c1, c2, c3, c4, c5, c6⟩ := X
                        by_cases hlt : g < p.ns
                        · obtain ⟨b1, o1, e1, g1, z1⟩ := hsk.si.ints g (by rw [HLN.out.1]; exact hlt)
                          obtain ⟨b2, o2, e2, g2, z2⟩ := hsk.so.ints g (by rw [HLN.out.2.1]; exact hlt)
                          obtain ⟨b3, o3, e3, g3, z3⟩ := hsk.sf.ints g (by rw [HLN.out.2.2]; exact hlt)
                          have qq : (0 : Int) ≤ (g : Int) := by omega
                          rw [e1, HLN.out.1] at c4
                          rw [e2, HLN.out.2.1] at c5
                          rw [e3, HLN.out.2.2] at c6
                          have HT1 : Hid (inB (s.si.z g) 0 1048576 = false → formedB p s = false) := fun h => fB_sum (.inl (badSum_yes HLN.out.1 hlt h))
                          have HT2 : Hid (inB (s.so.z g) 0 1048576 = false → formedB p s = false) := fun h => fB_sum (.inr (.inl (badSum_yes HLN.out.2.1 hlt h)))
                          have HT3 : Hid (inB (s.sf.z g) (-1048576) 1048576 = false → formedB p s = false) := fun h => fB_sum (.inr (.inr (badSum_yes HLN.out.2.2 hlt h)))
                          have HT4 : Hid (inB (s.si.z g) 0 1048576 = true → inB (s.so.z g) 0 1048576 = true → inB (s.sf.z g) (-1048576) 1048576 = true → ∀ j', j' < g + 1 → sumOK s j' = true) := fun h1 h2 h3 => all_succ HM.out (by unfold sumOK; rw [h1, h2, h3]; rfl)
                          clear e1 e2 e3 hsk hpk c0 c1 c2 c3 HM
                          generalize s.si.z g = I1 at *
                          generalize s.so.z g = I2 at *
                          generalize s.sf.z g = I3 at *
                          cases k1 : inB I1 0 1048576
                          · have HX : Hid (formedB p s = false) := HT1.out k1
                            clear HT1 HT2 HT3 HT4
                            go_wp2_with (go_at_call 32; refine calls_to (within_any _ _ _ _) ?_)
                            go_ret
                            exact ⟨by rw [HX.out]; rfl, hBw⟩
                          · cases k2 : inB I2 0 1048576
                            · have HX : Hid (formedB p s = false) := HT2.out k2
                              clear HT1 HT2 HT3 HT4
                              go_wp2_with (go_at_call 32; refine calls_to (within_any _ _ _ _) ?_)
                              go_ret
                              exact ⟨by rw [HX.out]; rfl, hBw⟩
                            · cases k3 : inB I3 (-1048576) 1048576
                              · have HX : Hid (formedB p s = false) := HT3.out k3
                                clear HT1 HT2 HT3 HT4
                                go_wp2_with (go_at_call 32; refine calls_to (within_any _ _ _ _) ?_)
                                go_ret
                                exact ⟨by rw [HX.out]; rfl, hBw⟩
                              · have HX := HT4.out k1 k2 k3
                                have HX2 : Hid _ := HX
                                clear HT1 HT2 HT3 HT4 HX
                                go_wp2_with (go_at_call 32; refine calls_to (within_any _ _ _ _) ?_)
                                go_roundw
                                case rel => exact ⟨g + 1, by omega, by go_num, HX2.out, hB⟩
                                case measure => simp [intOf]; omega
                        · have HX : Hid (formedB p s = true) := fB_yes HN2.out H0.out HN3.out HN4.out HLN.out (fun j hj => HM.out j (by omega))
                          clear hsk hpk c0 c1 c2 c3 c4 c5 c6 HM
                          go_wp2_with fail
                          go_ret
                          exact ⟨by rw [HX.out]; rfl, hBw⟩
                    · have HX : Hid (formedB p s = false) := fB_len3 n3
                      have m1 : ((s.si.n : Int) != (p.ns : Int)) = false := by simp [n1]
                      have m2 : ((s.so.n : Int) != (p.ns : Int)) = false := by simp [n2]
                      have m3 : ((s.sf.n : Int) != (p.ns : Int)) = true := by simp; omega
                      clear hsk hpk c0 c1 c2 n1 n2
                      go_wp2_with fail
                      go_ret
                      exact ⟨by rw [HX.out]; rfl, hBw⟩
                  · have HX : Hid (formedB p s = false) := fB_len2 n2
                    have m1 : ((s.si.n : Int) != (p.ns : Int)) = false := by simp [n1]
                    have m2 : ((s.so.n : Int) != (p.ns : Int)) = true := by simp; omega
                    clear hsk hpk c0 c1 c2 c6 n1
                    go_wp2_with fail
                    go_ret
                    exact ⟨by rw [HX.out]; rfl, hBw⟩
                · have HX : Hid (formedB p s = false) := fB_len1 n1
                  have m1 : ((s.si.n : Int) != (p.ns : Int)) = true := by simp; omega
                  clear hsk hpk c0 c1 c2 c5 c6
                  go_wp2_with fail
                  go_ret
                  exact ⟨by rw [HX.out]; rfl, hBw⟩
      · have HX : Hid (formedB p s = false) := fB_check h0
        obtain ⟨X, hpk, hsk, hBw⟩ := HC.out w2 hB
        clear X hpk hsk
        go_wp2_with fail
        go_ret
        exact ⟨by rw [HX.out]; rfl, hBw⟩
end Go.Proofs.Ytbcacebifpagpaf
namespace Go.Proofs.Ytbcacebifpagpaf
open Go.RowKit Go.Shelf Go.Sort
set_option linter.unusedVariables false
theorem tm_orders {s : St} (h : 4 < s.os.n) : tooManyB s = true := by
  have : decide (4 < s.os.n) = true := decide_eq_true h
  simp [tooManyB, this]
theorem tm_moves {s : St} (h : 8 < s.ms.n) : tooManyB s = true := by
  have : decide (8 < s.ms.n) = true := decide_eq_true h
  simp [tooManyB, this]
theorem tm_lines {s : St} {i : Nat} (hi : i < s.os.n) (h : inB (s.os.z i).ls.n 1 3 = false) : tooManyB s = true := by
  have : anyB s.os.n (fun i => fewLines (s.os.z i)) = true := anyB_yes hi (by unfold fewLines; rw [h]; rfl)
  simp [tooManyB, this]
theorem tm_no {s : St} (h1 : ¬ 4 < s.os.n) (h2 : ¬ 8 < s.ms.n) (h3 : ∀ i, i < s.os.n → inB (s.os.z i).ls.n 1 3 = true) : tooManyB s = false := by
  have e1 : decide (4 < s.os.n) = false := decide_eq_false h1
  have e2 : decide (8 < s.ms.n) = false := decide_eq_false h2
  have e3 : anyB s.os.n (fun i => fewLines (s.os.z i)) = false := anyB_no fun i hi => by unfold fewLines; rw [h3 i hi]; rfl
  unfold tooManyB
  rw [e1, e2, e3]
  rfl
theorem sE_shelf {p : Pl} {s : St} (h : ¬ shelfE p s.on = 0) : stateE p s = shelfE p s.on := by unfold stateE; rw [if_neg h]
theorem sE_many {p : Pl} {s : St} (h : shelfE p s.on = 0) (h1 : tooManyB s = true) : stateE p s = 2 := by unfold stateE; rw [if_pos h, h1]; rfl
theorem sE_form {p : Pl} {s : St} (h : shelfE p s.on = 0) (h1 : tooManyB s = false) (h2 : formedB p s = false) : stateE p s = 1 := by
  have e : (badOrdersB p s || badHoldsB p s || badMovesB p s || badSumsB p s) = true := by
    cases hq : (badOrdersB p s || badHoldsB p s || badMovesB p s || badSumsB p s)
    · rw [formedB, hq] at h2; cases h2
    · rfl
  unfold stateE; rw [if_pos h, h1, e]; rfl
theorem formedB_yes {p : Pl} {s : St} (h : shelfE p s.on = 0) (h1 : tooManyB s = false) (h2 : formedB p s = true) : Formed p s := by
  have e : (badOrdersB p s || badHoldsB p s || badMovesB p s || badSumsB p s) = false := by
    cases hq : (badOrdersB p s || badHoldsB p s || badMovesB p s || badSumsB p s)
    · rfl
    · rw [formedB, hq] at h2; cases h2
  simp only [Bool.or_eq_false_iff] at e
  exact formed h h1 e.1.1.1 e.1.1.2 e.1.2 e.2
theorem sE_sum {p : Pl} {s : St} (h : shelfE p s.on = 0) (h1 : tooManyB s = false) (h2 : formedB p s = true) : stateE p s = if summedB p s then 0 else 7 := by
  have e : (badOrdersB p s || badHoldsB p s || badMovesB p s || badSumsB p s) = false := by
    cases hq : (badOrdersB p s || badHoldsB p s || badMovesB p s || badSumsB p s)
    · rfl
    · rw [formedB, hq] at h2; cases h2
  unfold stateE summedB
  rw [if_pos h, h1, e]
  cases (wrongGoodsB p s || wrongOrdersB s) <;> rfl
set_option maxRecDepth 100000 in
set_option maxHeartbeats 4000000 in
theorem refCheckState_any (p : Pl) (s : St) (w : World) (hp : p.At w) (hs : s.At w) :
    Calls Try.prog 12 #[p.val, s.val] w fun e w' => e = .returned (.int .i64 (stateE p s)) ∧ Below w.heap.size w w' := by
  obtain ⟨W0, hW, hWB, X0⟩ : ∃ W, ((w.alloc (.cells #[.slice p.ab p.nb p.cb, .slice p.sa p.ns p.cs] 25)).alloc (.cells s.cells 31)) = W ∧ Below w.heap.size w W ∧ Boxes W w.heap.size (w.heap.size + 1) p s := ⟨_, rfl, two_below _ _ _, boxes_new w p s _ _⟩
  have HC : Hid (∀ wk, Below W0.heap.size W0 wk → Boxes wk w.heap.size (w.heap.size + 1) p s ∧ p.At wk ∧ s.At wk ∧ Below w.heap.size w wk) := fun wk h => ⟨X0.below h, (hp.below hWB).below h, (hs.below hWB).below h, hWB.trans (h.mono hWB.size)⟩
  have HW : Hid ((w.alloc (.cells #[.slice p.ab p.nb p.cb, .slice p.sa p.ns p.cs] 25)).alloc (.cells #[.slice s.on.a s.on.n s.on.c, .slice s.os.a s.os.n s.os.c, .slice s.hs.a s.hs.n s.hs.c, .slice s.ms.a s.ms.n s.ms.c, .slice s.si.a s.si.n s.si.c, .slice s.so.a s.so.n s.so.c, .slice s.sf.a s.sf.n s.sf.c] 31) = W0) := hW
  have ole := hs.os.le
  have ocap := hs.os.cap
  have mle := hs.ms.le
  have mcap := hs.ms.cap
  unfold maxLen at ocap mcap
  clear hW X0 hp hs
  unfold Pl.val St.val
  go_enter Try.func12, Try.ntmps12
  go_wp2_with fail
  rw [HW.out]
  obtain ⟨X, hpk, hsk, hBw⟩ := HC.out W0 (Below.refl _ _)
  refine (refCheckShelf_any p s.on W0 hpk hsk.on).mono ?_
  rintro e w1 ⟨rfl, hB⟩
  clear X hpk hsk hBw HW
  obtain ⟨X, hpk, hsk, hBw⟩ := HC.out w1 hB
  obtain ⟨⟨l1, d0, d1⟩, l2, c0, c1, c2, c3, c4, c5, c6⟩ := X
  by_cases h0 : shelfE p s.on = 0
  · have H0 : Hid (shelfE p s.on = 0) := h0
    rw [h0]
    clear h0 hpk hsk
    by_cases n1 : 4 < s.os.n
    · have HX : Hid (stateE p s = 2) := sE_many H0.out (tm_orders n1)
      have n1' : (4 : Int) < (s.os.n : Int) := by omega
      go_wp2_with fail
      go_ret
      exact ⟨by rw [HX.out]; rfl, hBw⟩
    · by_cases n2 : 8 < s.ms.n
      · have HX : Hid (stateE p s = 2) := sE_many H0.out (tm_moves n2)
        have n1' : ¬ (4 : Int) < (s.os.n : Int) := by omega
        have n2' : (8 : Int) < (s.ms.n : Int) := by omega
        go_wp2_with fail
        go_ret
        exact ⟨by rw [HX.out]; rfl, hBw⟩
      · have n1' : ¬ (4 : Int) < (s.os.n : Int) := by omega
        have n2' : ¬ (8 : Int) < (s.ms.n : Int) := by omega
        go_wp2_with fail
        clear c0 c1 c2 c3 c4 c5 c6 d0 d1 l1 l2 hBw
        go_loopw [6] (fun i wk => ∃ k : Nat, k ≤ s.os.n ∧ i = .int .i64 k ∧ (∀ j, j < k → inB (s.os.z j).ls.n 1 3 = true) ∧ Below W0.heap.size W0 wk) (fun i _ => s.os.n - (intOf i).toNat)
        case atStart => exact ⟨0, Nat.zero_le _, rfl, fun j hj => absurd hj (Nat.not_lt_zero _), hB⟩
        case round =>
          clear hB
          obtain ⟨i, hi, rfl, hno, hB⟩ := hrel
          have HN : Hid (∀ j, j < i → inB (s.os.z j).ls.n 1 3 = true) := hno
          clear hno
          obtain ⟨X, hpk, hsk, hBw⟩ := HC.out wr hB
          obtain ⟨⟨l1, d0, d1⟩, l2, c0, c1, c2, c3, c4, c5, c6⟩ := X
          by_cases hlt : i < s.os.n
          · obtain ⟨b, o, hoa, hb, z0, z1, hl⟩ := hsk.os.ods i hlt
            have qi : (0 : Int) ≤ (i : Int) := by omega
            have HT1 : Hid (inB (s.os.z i).ls.n 1 3 = false → stateE p s = 2) := fun h => sE_many H0.out (tm_lines hlt h)
            have HT2 : Hid (inB (s.os.z i).ls.n 1 3 = true → ∀ j, j < i + 1 → inB (s.os.z j).ls.n 1 3 = true) := fun h => all_succ (f := fun j => inB (s.os.z j).ls.n 1 3) HN.out h
            rw [hoa] at c1
            clear hoa hl hpk hsk c0 c2 c3 c4 c5 c6 d0 d1 z0
            generalize (s.os.z i).ls = LS at *
            cases k1 : inB LS.n 1 3
            · have HX : Hid (stateE p s = 2) := HT1.out k1
              clear HT1 HT2
              go_wp2_with (go_at_call 32; refine calls_to (within_any _ _ _ _) ?_)
              go_ret
              exact ⟨by rw [HX.out]; rfl, hBw⟩
            · have HX := HT2.out k1
              have HX2 : Hid _ := HX
              clear HT1 HT2 HX
              go_wp2_with (go_at_call 32; refine calls_to (within_any _ _ _ _) ?_)
              go_roundw
              case rel => exact ⟨i + 1, by omega, by go_num, HX2.out, hB⟩
              case measure => simp [intOf]; omega
          · have HTM : Hid (tooManyB s = false) := tm_no n1 n2 fun j hj => HN.out j (by omega)
            go_wp2_with fail
            refine (formed_any p s wr hpk hsk H0.out HTM.out).mono ?_
            rintro e w2 ⟨rfl, hB2⟩
            have hB := hB.trans (hB2.mono hB.size)
            clear hpk hsk hBw l1 d0 d1 l2 c0 c1 c2 c3 c4 c5 c6 hB2
            obtain ⟨X, hpk, hsk, hBw⟩ := HC.out w2 hB
            obtain ⟨⟨l1, d0, d1⟩, l2, c0, c1, c2, c3, c4, c5, c6⟩ := X
            cases k2 : formedB p s
            · have HX : Hid (stateE p s = 1) := sE_form H0.out HTM.out k2
              clear hpk hsk
              go_wp2_with fail
              go_ret
              exact ⟨by rw [HX.out]; rfl, hBw⟩
            · have HFO : Hid (Formed p s) := formedB_yes H0.out HTM.out k2
              have HE : Hid (stateE p s = if summedB p s then 0 else 7) := sE_sum H0.out HTM.out k2
              clear k2
              go_wp2_with fail
              refine (summed_any p s w2 hpk hsk HFO.out).mono ?_
              rintro e w3 ⟨rfl, hB3⟩
              have hBw := hBw.trans (hB3.mono hBw.size)
              clear hpk hsk l1 d0 d1 l2 c0 c1 c2 c3 c4 c5 c6 hB3
              cases k3 : summedB p s
              · have HX : Hid (stateE p s = 7) := by show stateE p s = 7; rw [HE.out, k3]; rfl
                clear HE
                go_wp2_with fail
                go_ret
                exact ⟨by rw [HX.out]; rfl, hBw⟩
              · have HX : Hid (stateE p s = 0) := by show stateE p s = 0; rw [HE.out, k3]; rfl
                clear HE
                go_wp2_with fail
                go_ret
                exact ⟨by rw [HX.out]; rfl, hBw⟩
  · have HX : Hid (stateE p s = shelfE p s.on) := sE_shelf h0
    clear hpk hsk
    go_wp2_with fail
    go_ret
    exact ⟨by rw [HX.out]; rfl, hBw⟩
end Go.Proofs.Ytbcacebifpagpaf
namespace Go.Proofs.Ytbcacebifpagpaf
open Go.RowKit Go.Shelf
set_option linter.unusedVariables false
def Grew (A : Nat) (e : TypeId) (w w' : World) : Prop := ∃ row, w.grownBy w' row ∧ ∀ k, row = some k → A ≤ k ∧ ∃ cur, w.heap[k]? = some (.cells cur e (0, 0))
theorem Grew.blk {A : Nat} {e : TypeId} {w w' : World} (h : Grew A e w w') {q : Nat} {t : TypeId} {m : Nat} {f : Nat → Value} (hb : Blk w q t m f) (hne : t ≠ e) : Blk w' q t m f := by
  obtain ⟨row, hg, hr⟩ := h
  refine hb.grown hg fun hq => ?_
  obtain ⟨_, c2, hc2⟩ := hr q hq.symm
  obtain ⟨c3, hc3, _⟩ := hb
  rw [hc3] at hc2
  cases hc2
  exact hne rfl
theorem Grew.low {A : Nat} {e : TypeId} {w w' : World} (h : Grew A e w w') {q : Nat} {t : TypeId} {m : Nat} {f : Nat → Value} (hb : Blk w q t m f) (hq : q < A) : Blk w' q t m f := by
  obtain ⟨row, hg, hr⟩ := h
  exact hb.grown hg fun hq' => by have := (hr q hq'.symm).1; omega
theorem Grew.below {A A' : Nat} {e : TypeId} {w0 w w' : World} (h : Grew A e w w') (hB : Below A' w0 w) (hA : A' ≤ A) (hs : A' ≤ w.heap.size) : Below A' w0 w' := by
  obtain ⟨row, hg, hr⟩ := h
  exact hB.grown hg hs fun k hk => by have := (hr k hk).1; omega
theorem Room.grew {A B : Nat} {t : TypeId} {w w2 : World} {sz c : Nat} {a : Option Addr} {e : TypeId} (h : Room A w t sz a c) (hg : Grew B e w w2) (hne : t ≠ e) : Room A w2 t sz a c := by
  obtain ⟨row, hg, hr⟩ := hg
  refine h.same fun g cur hgc => hg.block g (Array.getElem?_eq_some_iff.1 hgc).1 fun hq => ?_
  obtain ⟨_, c2, hc2⟩ := hr g hq.symm
  rw [hgc] at hc2
  cases hc2
  exact hne rfl
theorem OwnI.grew {A B : Nat} {w w2 : World} {r : Rw} {e : TypeId} (h : OwnI A w r) (hg : Grew B e w w2) (hne : 3 ≠ e) : OwnI A w2 r := by
  obtain ⟨g, ha, h0, h1, h2, hb⟩ := h
  exact ⟨g, ha, h0, h1, h2, hg.blk hb hne⟩
theorem OwnH.grew {A B : Nat} {t : TypeId} {w w2 : World} {s : Hs} {e : TypeId} (h : OwnH A t w s) (hg : Grew B e w w2) (hne : t ≠ e) : OwnH A t w2 s := by
  obtain ⟨h1, h2, h3, h4⟩ := h
  refine ⟨h1, h2, h3, fun hn => ?_⟩
  obtain ⟨g, ha, hA, hb⟩ := h4 hn
  exact ⟨g, ha, hA, hg.blk hb hne⟩
end Go.Proofs.Ytbcacebifpagpaf
namespace Go.Proofs.Ytbcacebifpagpaf
open Go.RowKit Go.Shelf Go.Sort
set_option linter.unusedVariables false
theorem OwnS.mono {A A' : Nat} {w : World} {s : St} (h : OwnS A w s) (hA : A' ≤ A) : OwnS A' w s := by
  have i : ∀ {r : Rw}, OwnI A w r → OwnI A' w r := fun ⟨g, a, b, c⟩ => ⟨g, a, Nat.le_trans hA b, c⟩
  refine ⟨?_, fun j hj => i (h.rows j hj), h.rapart, h.os.mono hA, h.hs.mono hA, h.ms.mono hA, h.msr.mono hA, i h.si, i h.so, i h.sf, h.aio, h.aif, h.aof, h.ari⟩
  obtain ⟨g, a, b, c⟩ := h.on
  exact ⟨g, a, Nat.le_trans hA b, c⟩
theorem OwnS.orders {A B : Nat} {w w' : World} {s : St} {os : Os} (h : OwnS A w s) (hg : Grew B 58 w w') (ho : OwnO A w' os) : OwnS A w' ⟨s.on, os, s.hs, s.ms, s.si, s.so, s.sf⟩ := by
  refine ⟨?_, fun i hi => (h.rows i hi).grew hg (by decide), h.rapart, ho, h.hs.grew hg (by decide), h.ms.grew hg (by decide), h.msr.grew hg (by decide), h.si.grew hg (by decide), h.so.grew hg (by decide), h.sf.grew hg (by decide), h.aio, h.aif, h.aof, h.ari⟩
  obtain ⟨g, a, b, c, d, e⟩ := h.on
  exact ⟨g, a, b, c, d, hg.blk e (by decide)⟩
end Go.Proofs.Ytbcacebifpagpaf
namespace Go.Proofs.Ytbcacebifpagpaf
open Go.RowKit Go.Shelf Go.Sort
set_option linter.unusedVariables false
structure BusyB (w : World) (g : Nat) (a k : Int) : Prop where
  b0 : Blk w (g) 3 2 (fun j => (#[.int .i64 9, .int .i64 0] : Array Value).getD j default)
  b1 : Blk w (g + 1) 3 2 (fun j => (#[.int .i64 3, .int .i64 0] : Array Value).getD j default)
  b2 : Blk w (g + 2) 3 2 (fun j => (#[.int .i64 0, .int .i64 6] : Array Value).getD j default)
  b3 : Blk w (g + 3) 23 3 (fun j => (#[.slice (some ⟨g, 0, none⟩) 2 2, .slice (some ⟨g + 1, 0, none⟩) 2 2, .slice (some ⟨g + 2, 0, none⟩) 2 2] : Array Value).getD j default)
  b4 : Blk w (g + 4) 60 8 (fun j => (#[.int .i64 0, .int .i64 6, .int .i64 1, .int .i64 0, .int .i64 1, .int .i64 9, .int .i64 0, .int .i64 3] : Array Value).getD j default)
  b5 : Blk w (g + 5) 60 4 (fun j => (#[.int .i64 0, .int .i64 4, .int .i64 0, .int .i64 0] : Array Value).getD j default)
  b6 : Blk w (g + 6) 58 4 (fun j => (#[.int .i64 1, .slice (some ⟨g + 4, 0, none⟩) 2 2, .int .i64 k, .slice (some ⟨g + 5, 0, none⟩) 1 1] : Array Value).getD j default)
  b7 : Blk w (g + 7) 54 12 (fun j => (#[.int .i64 0, .int .i64 0, .int .i64 0, .int .i64 a, .int .i64 0, .int .i64 0, .int .i64 1, .int .i64 3, .int .i64 0, .int .i64 1, .int .i64 2, .int .i64 6] : Array Value).getD j default)
  b8 : Blk w (g + 8) 40 4 (fun j => (#[.int .i64 0, .int .i64 0, .int .i64 1, .int .i64 5] : Array Value).getD j default)
  b9 : Blk w (g + 9) 3 2 (fun j => (#[.int .i64 13, .int .i64 6] : Array Value).getD j default)
  b10 : Blk w (g + 10) 3 2 (fun j => (#[.int .i64 1, .int .i64 0] : Array Value).getD j default)
  b11 : Blk w (g + 11) 3 2 (fun j => (#[.int .i64 0, .int .i64 0] : Array Value).getD j default)
theorem BusyB.below {w w' : World} {g : Nat} {a k : Int} (h : BusyB w g a k) (hB : Below w.heap.size w w') : BusyB w' g a k := ⟨h.b0.below hB, h.b1.below hB, h.b2.below hB, h.b3.below hB, h.b4.below hB, h.b5.below hB, h.b6.below hB, h.b7.below hB, h.b8.below hB, h.b9.below hB, h.b10.below hB, h.b11.below hB⟩
def bz0 : Nat → Int
  | 0 => 9
  | _ => 0
def bz1 : Nat → Int
  | 0 => 3
  | _ => 0
def bz2 : Nat → Int
  | 0 => 0
  | _ => 6
def bzi : Nat → Int
  | 0 => 13
  | _ => 6
def bzo : Nat → Int
  | 0 => 1
  | _ => 0
def bl0 : Nat → Hd
  | 0 => ⟨0, 6, 1, 0⟩
  | _ => ⟨1, 9, 0, 3⟩
def bhs (a : Int) : Nat → Hd
  | 0 => ⟨0, 0, 0, a⟩
  | 1 => ⟨0, 0, 1, 3⟩
  | _ => ⟨0, 1, 2, 6⟩
def bon (g : Nat) : Nat → Rw
  | 0 => ⟨some ⟨g, 0, none⟩, 2, 2, bz0⟩
  | 1 => ⟨some ⟨g + 1, 0, none⟩, 2, 2, bz1⟩
  | _ => ⟨some ⟨g + 2, 0, none⟩, 2, 2, bz2⟩
def bos (g : Nat) (k : Int) : Nat → Od
  | 0 => ⟨1, ⟨some ⟨g + 4, 0, none⟩, 2, 2, bl0⟩⟩
  | _ => ⟨k, ⟨some ⟨g + 5, 0, none⟩, 1, 1, fun _ => ⟨0, 4, 0, 0⟩⟩⟩
def busyS (g : Nat) (a k : Int) : St := ⟨⟨some ⟨g + 3, 0, none⟩, 3, 3, bon g⟩, ⟨some ⟨g + 6, 0, none⟩, 2, 2, bos g k⟩, ⟨some ⟨g + 7, 0, none⟩, 3, 3, bhs a⟩, ⟨some ⟨g + 8, 0, none⟩, 1, 1, fun _ => ⟨0, 0, 1, 5⟩⟩, ⟨some ⟨g + 9, 0, none⟩, 2, 2, bzi⟩, ⟨some ⟨g + 10, 0, none⟩, 2, 2, bzo⟩, ⟨some ⟨g + 11, 0, none⟩, 2, 2, fun _ => 0⟩⟩
theorem le_max {n : Nat} (h : n ≤ 100) : n ≤ maxLen := by unfold maxLen; omega
theorem two_at {w : World} {g : Nat} {e : TypeId} {x y : Int} {z : Nat → Int} (h : Blk w g e 2 (fun j => (#[.int .i64 x, .int .i64 y] : Array Value).getD j default)) (h0 : z 0 = x) (h1 : z 1 = y) : Rw.At w ⟨some ⟨g, 0, none⟩, 2, 2, z⟩ := by
  refine ⟨Nat.le_refl _, le_max (n := 2) (by decide), fun i hi => ?_⟩
  have hi' : i < 2 := hi
  refine ⟨g, 0, rfl, h.lt, ?_⟩
  match i, hi' with
  | 0, _ => show w.cell? ⟨g, 0 + 0, none⟩ = some (.int .i64 (z 0)); rw [h0]; exact h.cell (j := 0) (by decide)
  | 1, _ => show w.cell? ⟨g, 0 + 1, none⟩ = some (.int .i64 (z 1)); rw [h1]; exact h.cell (j := 1) (by decide)
theorem busyAt {w : World} {g : Nat} {a k : Int} (h : BusyB w g a k) : (busyS g a k).At w := by
  refine ⟨⟨Nat.le_refl _, le_max (n := 3) (by decide), fun i hi => ?_⟩, ⟨Nat.le_refl _, le_max (n := 2) (by decide), fun i hi => ?_⟩, ⟨Nat.le_refl _, le_max (n := 3) (by decide), fun i hi => ?_, fun e => by cases e⟩, ⟨Nat.le_refl _, le_max (n := 1) (by decide), fun i hi => ?_, fun e => by cases e⟩, two_at h.b9 rfl rfl, two_at h.b10 rfl rfl, two_at h.b11 rfl rfl⟩
  · have hi' : i < 3 := hi
    refine ⟨g + 3, 0, rfl, h.b3.lt, ?_⟩
    match i, hi' with
    | 0, _ => exact ⟨h.b3.cell (j := 0) (by decide), two_at h.b0 rfl rfl⟩
    | 1, _ => exact ⟨h.b3.cell (j := 1) (by decide), two_at h.b1 rfl rfl⟩
    | 2, _ => exact ⟨h.b3.cell (j := 2) (by decide), two_at h.b2 rfl rfl⟩
  · have hi' : i < 2 := hi
    refine ⟨g + 6, 0, rfl, h.b6.lt, ?_⟩
    match i, hi' with
    | 0, _ =>
      refine ⟨h.b6.cell (j := 0) (by decide), h.b6.cell (j := 1) (by decide), Nat.le_refl _, le_max (n := 2) (by decide), fun j hj => ?_, fun e => by cases e⟩
      have hj' : j < 2 := hj
      refine ⟨g + 4, 0, rfl, h.b4.lt, ?_⟩
      match j, hj' with
      | 0, _ => exact ⟨h.b4.cell (j := 0) (by decide), h.b4.cell (j := 1) (by decide), h.b4.cell (j := 2) (by decide), h.b4.cell (j := 3) (by decide)⟩
      | 1, _ => exact ⟨h.b4.cell (j := 4) (by decide), h.b4.cell (j := 5) (by decide), h.b4.cell (j := 6) (by decide), h.b4.cell (j := 7) (by decide)⟩
    | 1, _ =>
      refine ⟨h.b6.cell (j := 2) (by decide), h.b6.cell (j := 3) (by decide), Nat.le_refl _, le_max (n := 1) (by decide), fun j hj => ?_, fun e => by cases e⟩
      have hj' : j < 1 := hj
      refine ⟨g + 5, 0, rfl, h.b5.lt, ?_⟩
      match j, hj' with
      | 0, _ => exact ⟨h.b5.cell (j := 0) (by decide), h.b5.cell (j := 1) (by decide), h.b5.cell (j := 2) (by decide), h.b5.cell (j := 3) (by decide)⟩
  · have hi' : i < 3 := hi
    refine ⟨g + 7, 0, rfl, h.b7.lt, ?_⟩
    match i, hi' with
    | 0, _ => exact ⟨h.b7.cell (j := 0) (by decide), h.b7.cell (j := 1) (by decide), h.b7.cell (j := 2) (by decide), h.b7.cell (j := 3) (by decide)⟩
    | 1, _ => exact ⟨h.b7.cell (j := 4) (by decide), h.b7.cell (j := 5) (by decide), h.b7.cell (j := 6) (by decide), h.b7.cell (j := 7) (by decide)⟩
    | 2, _ => exact ⟨h.b7.cell (j := 8) (by decide), h.b7.cell (j := 9) (by decide), h.b7.cell (j := 10) (by decide), h.b7.cell (j := 11) (by decide)⟩
  · have hi' : i < 1 := hi
    refine ⟨g + 8, 0, rfl, h.b8.lt, ?_⟩
    match i, hi' with
    | 0, _ => exact ⟨h.b8.cell (j := 0) (by decide), h.b8.cell (j := 1) (by decide), h.b8.cell (j := 2) (by decide), h.b8.cell (j := 3) (by decide)⟩
theorem busyE (g1 g2 g : Nat) : stateE (yardP g1 g2) (busyS g 2 0) = 0 ∧ stateE (yardP g1 g2) (busyS g 5 0) = 7 ∧ stateE (yardP g1 g2) (busyS g 2 3) = 1 := ⟨by rfl, by rfl, by rfl⟩
set_option maxRecDepth 100000 in
set_option maxHeartbeats 4000000 in
theorem busy_any (w : World) :
    Calls Try.prog 28 #[] w fun e w' => ∃ g, e = .returned (busyS g 2 0).val ∧ w.heap.size < g ∧ BusyB w' g 2 0 ∧ Below w.heap.size w w' := by
  go_enter Try.func28, Try.ntmps28
  go_wp2
  refine bodyPost_ret (v := (busyS (w.heap.size + 1) 2 0).val) (by simp [results, Try.results28, go_sem, busyS, St.val]) rfl ?_
  refine ⟨w.heap.size + 1, rfl, by omega, ⟨Blk.alloc (Blk.alloc (Blk.alloc (Blk.alloc (Blk.alloc (Blk.alloc (Blk.alloc (Blk.alloc (Blk.alloc (Blk.alloc (Blk.alloc (Blk.mk' (by simp <;> omega) rfl) _) _) _) _) _) _) _) _) _) _) _, Blk.alloc (Blk.alloc (Blk.alloc (Blk.alloc (Blk.alloc (Blk.alloc (Blk.alloc (Blk.alloc (Blk.alloc (Blk.alloc (Blk.mk' (by simp <;> omega) rfl) _) _) _) _) _) _) _) _) _) _, Blk.alloc (Blk.alloc (Blk.alloc (Blk.alloc (Blk.alloc (Blk.alloc (Blk.alloc (Blk.alloc (Blk.alloc (Blk.mk' (by simp <;> omega) rfl) _) _) _) _) _) _) _) _) _, Blk.alloc (Blk.alloc (Blk.alloc (Blk.alloc (Blk.alloc (Blk.alloc (Blk.alloc (Blk.alloc (Blk.mk' (by simp <;> omega) rfl) _) _) _) _) _) _) _) _, Blk.alloc (Blk.alloc (Blk.alloc (Blk.alloc (Blk.alloc (Blk.alloc (Blk.alloc (Blk.mk' (by simp <;> omega) rfl) _) _) _) _) _) _) _, Blk.alloc (Blk.alloc (Blk.alloc (Blk.alloc (Blk.alloc (Blk.alloc (Blk.mk' (by simp <;> omega) rfl) _) _) _) _) _) _, Blk.alloc (Blk.alloc (Blk.alloc (Blk.alloc (Blk.alloc (Blk.mk' (by simp <;> omega) rfl) _) _) _) _) _, Blk.alloc (Blk.alloc (Blk.alloc (Blk.alloc (Blk.mk' (by simp <;> omega) rfl) _) _) _) _, Blk.alloc (Blk.alloc (Blk.alloc (Blk.mk' (by simp <;> omega) rfl) _) _) _, Blk.alloc (Blk.alloc (Blk.mk' (by simp <;> omega) rfl) _) _, Blk.alloc (Blk.mk' (by simp <;> omega) rfl) _, Blk.mk' (by simp <;> omega) rfl⟩, ?_⟩
  exact (((((((((((((Below.refl _ _).alloc (Nat.le_refl _) _).alloc (by simp <;> omega) _).alloc (by simp <;> omega) _).alloc (by simp <;> omega) _).alloc (by simp <;> omega) _).alloc (by simp <;> omega) _).alloc (by simp <;> omega) _).alloc (by simp <;> omega) _).alloc (by simp <;> omega) _).alloc (by simp <;> omega) _).alloc (by simp <;> omega) _).alloc (by simp <;> omega) _).alloc (by simp <;> omega) _
end Go.Proofs.Ytbcacebifpagpaf
namespace Go.Proofs.Ytbcacebifpagpaf
open Go.RowKit
set_option linter.unusedVariables false
theorem sumTo_zero {z : Nat → Int} : ∀ {n : Nat}, (∀ j, j < n → z j = 0) → sumTo z n = 0
  | 0, _ => rfl
  | n + 1, h => by simp only [sumTo]; rw [sumTo_zero (n := n) fun j hj => h j (by omega), h n (by omega)]; rfl
end Go.Proofs.Ytbcacebifpagpaf
namespace Go.Proofs.Ytbcacebifpagpaf
open Go.RowKit
set_option linter.unusedVariables false
theorem goods_no {p : Pl} {s : St} {g : Nat} (h : wrongGood p s g = false) : sumTo (fun i => (s.on.r i).z g) s.on.n = s.si.z g - s.so.z g + s.sf.z g ∧ ∀ b, b < p.nb → 0 ≤ availZ s b g := by
  rw [wrongGood_eq, Bool.or_eq_false_iff] at h
  refine ⟨by simpa using h.1, fun b hb => ?_⟩
  have := anyB_false h.2 b hb
  simpa using this
theorem goods_mk {p : Pl} {s : St} {g : Nat} (h1 : sumTo (fun i => (s.on.r i).z g) s.on.n = s.si.z g - s.so.z g + s.sf.z g) (h2 : ∀ b, b < p.nb → 0 ≤ availZ s b g) : wrongGood p s g = false := by
  rw [wrongGood_eq, Bool.or_eq_false_iff]
  exact ⟨by simp [h1], anyB_no fun b hb => by have := h2 b hb; simpa using this⟩
section
variable {p : Pl} {s : St} {b g : Nat} {n : Int}
end
section
variable {p : Pl} {s : St} {l : Hs}
end
end Go.Proofs.Ytbcacebifpagpaf
namespace Go.Proofs.Ytbcacebifpagpaf
open Go.RowKit
set_option linter.unusedVariables false
theorem sumTo_at {z z' : Nat → Int} {m : Nat} {n : Int} {k : Nat} (hm : m < k) (h : ∀ i, i < k → z' i = z i + if i = m then n else 0) : sumTo z' k = sumTo z k + n :=
  sumTo_put hm fun i hi => by rw [h i hi]; by_cases e : i = m <;> simp [e]
theorem sumTo_same {z z' : Nat → Int} {k : Nat} (h : ∀ i, i < k → z' i = z i) : sumTo z' k = sumTo z k := sumTo_congr h
def lineHeld (x : St) (b g : Int) (k : Nat) (o l : Nat) : Int := if ((x.os.z o).ls.z l).o = g then keptV k x.hs.z o l b else 0
def heldSum (x : St) (b g : Int) (k : Nat) : Int := sumTo (fun o => sumTo (fun l => lineHeld x b g k o l) (x.os.z o).ls.n) x.os.n
theorem heldTo_sum {p : Pl} {x : St} (b g : Int) : ∀ k, (∀ j, j < k → homeless p x (x.hs.z j) = false) → anyB k (badH x.hs.z) = false → heldTo x b g k = heldSum x b g k
  | 0, _, _ => by
    unfold heldSum
    rw [sumTo_zero fun o _ => sumTo_zero fun l _ => by unfold lineHeld keptV; simp]
    rfl
  | k + 1, h, hr => by
    simp only [heldTo]
    rw [heldTo_sum b g k (fun j hj => h j (by omega)) (right_pred hr)]
    obtain ⟨h1, h2, h3⟩ := homeless_no (h k (by omega))
    have key : ∀ o l, lineHeld x b g (k + 1) o l = lineHeld x b g k o l + if o = (x.hs.z k).o.toNat ∧ l = (x.hs.z k).l.toNat then (if (x.hs.z k).b = b ∧ goodH x (x.hs.z k) = g then (x.hs.z k).n else 0) else 0 := fun o l => by
      unfold lineHeld
      rw [keptV_succ hr]
      by_cases hol : o = (x.hs.z k).o.toNat ∧ l = (x.hs.z k).l.toNat
      · rw [if_pos hol]
        obtain ⟨rfl, rfl⟩ := hol
        have e1 : (((x.hs.z k).o.toNat : Nat) : Int) = (x.hs.z k).o := by omega
        have e2 : (((x.hs.z k).l.toNat : Nat) : Int) = (x.hs.z k).l := by omega
        rw [e1, e2]
        by_cases hg : goodH x (x.hs.z k) = g
        · have hg' : ((x.os.z (x.hs.z k).o.toNat).ls.z (x.hs.z k).l.toNat).o = g := hg
          rw [if_pos hg', if_pos hg']
          by_cases hb : (x.hs.z k).b = b
          · have hm : matchH (x.hs.z k) (x.hs.z k).o (x.hs.z k).l b = true := by rw [← hb]; exact matchH_self _
            have e3 : (if (x.hs.z k).b = b ∧ goodH x (x.hs.z k) = g then (x.hs.z k).n else 0) = (x.hs.z k).n := if_pos ⟨hb, hg⟩
            rw [hm, e3, if_pos rfl]
          · have hm : matchH (x.hs.z k) (x.hs.z k).o (x.hs.z k).l b = false := by
              cases hm : matchH (x.hs.z k) (x.hs.z k).o (x.hs.z k).l b
              · rfl
              · exact absurd (matchH_true hm).2.2 hb
            have e3 : (if (x.hs.z k).b = b ∧ goodH x (x.hs.z k) = g then (x.hs.z k).n else 0) = 0 := if_neg (fun e => hb e.1)
            rw [hm, e3]
            simp
        · have hg' : ¬ ((x.os.z (x.hs.z k).o.toNat).ls.z (x.hs.z k).l.toNat).o = g := hg
          rw [if_neg hg', if_neg hg', if_neg (fun e => hg e.2)]
          rfl
      · rw [if_neg hol]
        have : matchH (x.hs.z k) o l b = false := by
          cases hm : matchH (x.hs.z k) o l b
          · rfl
          · have := matchH_true hm
            exact absurd ⟨by omega, by omega⟩ hol
        rw [this]
        simp
    unfold heldSum
    refine (sumTo_at h1.2 fun o ho => ?_).symm
    by_cases hoo : o = (x.hs.z k).o.toNat
    · rw [if_pos hoo]
      subst hoo
      exact sumTo_at h2.2 fun l hl => by
        rw [key]
        by_cases hll : l = (x.hs.z k).l.toNat
        · rw [if_pos ⟨rfl, hll⟩, if_pos hll]
        · rw [if_neg (fun e => hll e.2), if_neg hll]
    · rw [if_neg hoo, Int.add_zero]
      exact sumTo_same fun l hl => by rw [key, if_neg (fun e => hoo e.1)]; omega
def lessL (x : Hd) (n : Int) : Hd := ⟨x.o, x.l, x.b, x.n - n⟩
structure Took (s : St) (o l : Nat) (n : Int) (t : Tk) (x : St) : Prop where
  on : x.on.n = s.on.n ∧ ∀ i, i < x.on.n → (x.on.r i).n = (s.on.r i).n ∧ ∀ j, j < (x.on.r i).n → (x.on.r i).z j = (s.on.r i).z j
  os : x.os.n = s.os.n ∧ ∀ i, i < x.os.n → (x.os.z i).k = (s.os.z i).k ∧ (x.os.z i).ls.n = (s.os.z i).ls.n ∧ ∀ j, j < (x.os.z i).ls.n → (x.os.z i).ls.z j = if i = o ∧ j = l then lessL ((s.os.z i).ls.z j) (n - t.left) else (s.os.z i).ls.z j
  right : anyB x.hs.n (badH x.hs.z) = false
  kept : ∀ a b c : Int, keptV x.hs.n x.hs.z a b c = keptV s.hs.n s.hs.z a b c + if a = o ∧ b = l then t.took c else 0
  ms : x.ms.n = s.ms.n ∧ ∀ j, j < x.ms.n → x.ms.z j = s.ms.z j
  si : x.si.n = s.si.n ∧ ∀ j, j < x.si.n → x.si.z j = s.si.z j
  so : x.so.n = s.so.n ∧ ∀ j, j < x.so.n → x.so.z j = s.so.z j
  sf : x.sf.n = s.sf.n ∧ ∀ j, j < x.sf.n → x.sf.z j = s.sf.z j
theorem Took.same {s : St} {o l : Nat} {n : Int} {t : Tk} {x y : St} (h : Took s o l n t x) (k : Took s o l n t y) : SameT x y := by
  have ho : ∀ i, i < x.os.n → i < y.os.n := fun i hi => by rw [k.os.1, ← h.os.1]; exact hi
  refine ⟨⟨h.on.1.trans k.on.1.symm, fun i hi => ?_⟩, ⟨h.os.1.trans k.os.1.symm, fun i hi => ?_⟩, right_ext h.right k.right fun a b c => (h.kept a b c).trans (k.kept a b c).symm, ⟨h.ms.1.trans k.ms.1.symm, fun j hj => (h.ms.2 j hj).trans (k.ms.2 j (by rw [k.ms.1, ← h.ms.1]; exact hj)).symm⟩, ⟨h.si.1.trans k.si.1.symm, fun j hj => (h.si.2 j hj).trans (k.si.2 j (by rw [k.si.1, ← h.si.1]; exact hj)).symm⟩, ⟨h.so.1.trans k.so.1.symm, fun j hj => (h.so.2 j hj).trans (k.so.2 j (by rw [k.so.1, ← h.so.1]; exact hj)).symm⟩, ⟨h.sf.1.trans k.sf.1.symm, fun j hj => (h.sf.2 j hj).trans (k.sf.2 j (by rw [k.sf.1, ← h.sf.1]; exact hj)).symm⟩⟩
  · have a := h.on.2 i hi
    have b := k.on.2 i (by rw [k.on.1, ← h.on.1]; exact hi)
    exact ⟨a.1.trans b.1.symm, fun j hj => (a.2 j hj).trans (b.2 j (by rw [b.1, ← a.1]; exact hj)).symm⟩
  · have a := h.os.2 i hi
    have b := k.os.2 i (ho i hi)
    exact ⟨a.1.trans b.1.symm, a.2.1.trans b.2.1.symm, fun j hj => (a.2.2 j hj).trans (b.2.2 j (by rw [b.2.1, ← a.2.1]; exact hj)).symm⟩
section
variable {p : Pl} {s x : St} {o l : Nat} {n : Int} {t : Tk}
theorem Took.line (h : Took s o l n t x) {i j : Nat} (hi : i < s.os.n) (hj : j < (s.os.z i).ls.n) : (x.os.z i).ls.z j = if i = o ∧ j = l then lessL ((s.os.z i).ls.z j) (n - t.left) else (s.os.z i).ls.z j := by
  have a := h.os.2 i (by rw [h.os.1]; exact hi)
  exact a.2.2 j (by rw [a.2.1]; exact hj)
theorem Took.good (h : Took s o l n t x) {i j : Nat} (hi : i < s.os.n) (hj : j < (s.os.z i).ls.n) : ((x.os.z i).ls.z j).o = ((s.os.z i).ls.z j).o := by
  rw [h.line hi hj]
  split <;> rfl
theorem Took.keptS (h : Took s o l n t x) (f : Formed p s) (hsum : sumTo (fun b => t.took b) 6 = n - t.left) (a b : Int) : Go.Proofs.Ytbcacebifpagpaf.keptS x.hs.z a b x.hs.n = Go.Proofs.Ytbcacebifpagpaf.keptS s.hs.z a b s.hs.n + if a = o ∧ b = l then n - t.left else 0 := by
  rw [← kept_eq x.hs.z a b _ h.right, ← kept_eq s.hs.z a b _ f.hold]
  by_cases hab : a = o ∧ b = l
  · rw [if_pos hab, ← hsum]
    have : ∀ m, sumTo (fun c => keptV x.hs.n x.hs.z a b c) m = sumTo (fun c => keptV s.hs.n s.hs.z a b c) m + sumTo (fun c => t.took c) m := fun m => by
      induction m with
      | zero => rfl
      | succ m ih => simp only [sumTo]; rw [ih, h.kept, if_pos hab]; omega
    exact this 6
  · rw [if_neg hab, Int.add_zero]
    exact sumTo_same fun c _ => by rw [h.kept, if_neg hab]; omega
theorem Took.home (h : Took s o l n t x) (f : Formed p s) (ho : o < s.os.n) (hl : l < (s.os.z o).ls.n) (hin : ∀ b, ¬ t.took b = 0 → 0 ≤ b ∧ b < p.nb) : ∀ i, i < x.hs.n → homeless p x (x.hs.z i) = false := by
  intro i hi
  have fx := fineH_true (right_fine h.right i hi)
  have e := (kept_at h.right hi (matchH_self (x.hs.z i))).1
  rw [h.kept] at e
  have lens : ∀ a, a < s.os.n → (x.os.z a).ls.n = (s.os.z a).ls.n := fun a ha => (h.os.2 a (by rw [h.os.1]; exact ha)).2.1
  by_cases h0 : keptV s.hs.n s.hs.z (x.hs.z i).o (x.hs.z i).l (x.hs.z i).b = 0
  · by_cases hol : (x.hs.z i).o = o ∧ (x.hs.z i).l = l
    · rw [if_pos hol, h0] at e
      have hb := hin (x.hs.z i).b (by omega)
      have eo : (x.hs.z i).o.toNat = o := by omega
      have el : (x.hs.z i).l.toNat = l := by omega
      refine homeless_mk ⟨by omega, by rw [h.os.1]; omega⟩ ⟨by omega, ?_⟩ hb
      rw [eo, el, lens o ho]
      exact hl
    · rw [if_neg hol, h0] at e
      omega
  · obtain ⟨q1, q2, -⟩ := kept_pos f.hold h0
    obtain ⟨a1, a2, a3⟩ := homeless_no (f.home _ q1)
    obtain ⟨m1, m2, m3⟩ := matchH_true q2
    rw [m1, m2] at a2
    rw [m1] at a1
    rw [m3] at a3
    exact homeless_mk ⟨a1.1, by rw [h.os.1]; exact a1.2⟩ ⟨a2.1, by rw [lens _ a1.2]; exact a2.2⟩ a3
theorem Took.num (h : Took s o l n t x) (f : Formed p s) {b g : Nat} (hb : b < p.nb) (hg : g < p.ns) : (x.on.r b).z g = (s.on.r b).z g := by
  have hb' : b < s.on.n := by rw [f.sh.n]; exact hb
  have r := h.on.2 b (by rw [h.on.1]; exact hb')
  exact r.2 g (by rw [r.1, f.sh.len b hb']; exact hg)
theorem Took.formed (h : Took s o l n t x) (f : Formed p s) (ho : o < s.os.n) (hl : l < (s.os.z o).ls.n) (hin : ∀ b, ¬ t.took b = 0 → 0 ≤ b ∧ b < p.nb) (h0 : 0 ≤ n - t.left) (h1 : n - t.left ≤ ((s.os.z o).ls.z l).n) : Formed p x := by
  have hp := (rightS f.sh0).1
  have hs : RightS p x.on := ⟨f.sh.pl, h.on.1.trans f.sh.n, fun i hi => (h.on.2 i hi).1.trans (f.sh.len i (by rw [← h.on.1]; exact hi)), fun i hi j hj => by
    have hi' : i < s.on.n := by rw [← h.on.1]; exact hi
    rw [h.num f (by rw [← f.sh.n]; exact hi') hj]
    exact f.sh.num i hi' j hj⟩
  have oo : ∀ i, i < x.os.n → i < s.os.n := fun i hi => by rw [← h.os.1]; exact hi
  refine ⟨hs, shelfE_mk hp hs, by rw [h.os.1]; exact f.os4, by rw [h.ms.1]; exact f.ms8, fun i hi => by rw [(h.os.2 i hi).2.1]; exact f.lns i (oo i hi), fun i hi => by rw [(h.os.2 i hi).1]; exact f.kind i (oo i hi), fun i hi j hj => ?_, h.right, h.home f ho hl hin, fun i hi => ?_, h.si.1.trans f.sin, h.so.1.trans f.son, h.sf.1.trans f.sfn, fun j hj => ?_, fun j hj => ?_, fun j hj => ?_⟩
  · have hj' : j < (s.os.z i).ls.n := by rw [← (h.os.2 i hi).2.1]; exact hj
    rw [(h.os.2 i hi).2.2 j hj]
    by_cases hij : i = o ∧ j = l
    · rw [if_pos hij]
      obtain ⟨rfl, rfl⟩ := hij
      obtain ⟨b1, b2, b3, b4⟩ := badLine_no (f.line i (oo i hi) j hj')
      unfold badLine lessL
      rw [inB_mk (by show _ ∧ _; dsimp only; omega), inB_mk (by show _ ∧ _; dsimp only; omega), inB_mk (by show _ ∧ _; dsimp only; omega), inB_mk (by show _ ∧ _; dsimp only; omega)]
      rfl
    · rw [if_neg hij]
      exact f.line i (oo i hi) j hj'
  · rw [h.ms.2 i hi]
    exact f.move i (by rw [← h.ms.1]; exact hi)
  · rw [h.si.2 j (by rw [h.si.1, f.sin]; exact hj)]; exact f.sib j hj
  · rw [h.so.2 j (by rw [h.so.1, f.son]; exact hj)]; exact f.sob j hj
  · rw [h.sf.2 j (by rw [h.sf.1, f.sfn]; exact hj)]; exact f.sfb j hj
theorem Took.held (h : Took s o l n t x) (f : Formed p s) (fx : Formed p x) (ho : o < s.os.n) (hl : l < (s.os.z o).ls.n) (b g : Int) : heldTo x b g x.hs.n = heldTo s b g s.hs.n + if ((s.os.z o).ls.z l).o = g then t.took b else 0 := by
  rw [heldTo_sum b g _ fx.home fx.hold, heldTo_sum b g _ f.home f.hold]
  have lens : ∀ a, a < s.os.n → (x.os.z a).ls.n = (s.os.z a).ls.n := fun a ha => (h.os.2 a (by rw [h.os.1]; exact ha)).2.1
  have key : ∀ i, i < s.os.n → ∀ j, j < (s.os.z i).ls.n → lineHeld x b g x.hs.n i j = lineHeld s b g s.hs.n i j + if i = o ∧ j = l then (if ((s.os.z o).ls.z l).o = g then t.took b else 0) else 0 := fun i hi j hj => by
    unfold lineHeld
    rw [h.good hi hj, h.kept]
    by_cases hij : i = o ∧ j = l
    · have e1 : (if ((i : Nat) : Int) = o ∧ ((j : Nat) : Int) = l then t.took b else 0) = t.took b := if_pos (by omega)
      rw [e1, if_pos hij]
      obtain ⟨rfl, rfl⟩ := hij
      by_cases hg : ((s.os.z i).ls.z j).o = g <;> simp [hg]
    · have e1 : (if ((i : Nat) : Int) = o ∧ ((j : Nat) : Int) = l then t.took b else 0) = 0 := if_neg (by omega)
      rw [e1, if_neg hij]
      by_cases hg : ((s.os.z i).ls.z j).o = g <;> simp [hg]
  unfold heldSum
  rw [h.os.1]
  refine sumTo_at ho fun i hi => ?_
  rw [lens i hi]
  by_cases hio : i = o
  · subst hio
    rw [if_pos rfl]
    exact sumTo_at hl fun j hj => by
      rw [key i hi j hj]
      by_cases hjl : j = l
      · rw [if_pos ⟨rfl, hjl⟩, if_pos hjl]
      · rw [if_neg (fun e => hjl e.2), if_neg hjl]
  · rw [if_neg hio, Int.add_zero]
    exact sumTo_same fun j hj => by rw [key i hi j hj, if_neg (fun e => hio e.1), Int.add_zero]
theorem Took.avail (h : Took s o l n t x) (f : Formed p s) (fx : Formed p x) (ho : o < s.os.n) (hl : l < (s.os.z o).ls.n) {b g : Nat} (hb : b < p.nb) (hg : g < p.ns) : availZ x b g = availZ s b g - if ((s.os.z o).ls.z l).o = g then t.took b else 0 := by
  unfold availZ
  rw [h.num f hb hg, h.held f fx ho hl, h.ms.1, fromTo_eq fun j hj => h.ms.2 j (by rw [h.ms.1]; exact hj)]
  omega
theorem Took.isRight (h : Took s o l n t x) (r : RightT p s) (ho : o < s.os.n) (hl : l < (s.os.z o).ls.n) (hk : (s.os.z o).k = 1) (hin : ∀ b, ¬ t.took b = 0 → 0 ≤ b ∧ b < p.nb) (h0 : 0 ≤ n - t.left) (h1 : n - t.left ≤ ((s.os.z o).ls.z l).n)
    (hav : ∀ b : Nat, b < p.nb → t.took b ≤ availZ s b ((s.os.z o).ls.z l).o.toNat) (ht0 : ∀ b, 0 ≤ t.took b) (hsum : sumTo (fun b => t.took b) 6 = n - t.left) : RightT p x := by
  have f := r.fm
  have fx := h.formed f ho hl hin h0 h1
  refine ⟨fx, fun g hg => ?_, fun i hi => ?_⟩
  · obtain ⟨a1, a2⟩ := goods_no (r.goods g hg)
    refine goods_mk ?_ fun b hb => ?_
    · have e : sumTo (fun i => (x.on.r i).z g) x.on.n = sumTo (fun i => (s.on.r i).z g) s.on.n := by
        rw [h.on.1]
        exact sumTo_congr fun i hi => h.num f (by rw [← f.sh.n]; exact hi) hg
      rw [e, a1, h.si.2 g (by rw [h.si.1, f.sin]; exact hg), h.so.2 g (by rw [h.so.1, f.son]; exact hg), h.sf.2 g (by rw [h.sf.1, f.sfn]; exact hg)]
    · rw [h.avail f fx ho hl hb hg]
      have a3 := a2 b hb
      by_cases hgg : ((s.os.z o).ls.z l).o = g
      · rw [if_pos hgg]
        have := hav b hb
        rw [hgg] at this
        have e : ((g : Nat) : Int).toNat = g := rfl
        rw [e] at this
        omega
      · rw [if_neg hgg]; omega
  · have hi' : i < s.os.n := by rw [← h.os.1]; exact hi
    have w := r.orders i hi'
    obtain ⟨e1, e2, e3⟩ := h.os.2 i hi
    have e4 := fun j hj => h.line (i := i) (j := j) hi' hj
    unfold wrongOrder at w ⊢
    rw [Bool.or_eq_false_iff] at w ⊢
    rw [e1, e2]
    refine ⟨?_, anyB_no fun j hj => ?_⟩
    · rw [← w.1]
      congr 2
      refine anyB_congr fun j hj => ?_
      rw [e4 j hj]
      split <;> rfl
    · have wj := anyB_false w.2 j hj
      rw [h.keptS f hsum, e4 j hj]
      by_cases hij : i = o ∧ j = l
      · obtain ⟨rfl, rfl⟩ := hij
        rw [if_pos ⟨rfl, rfl⟩, if_pos ⟨rfl, rfl⟩]
        rw [hk] at wj ⊢
        unfold wrongL at wj ⊢
        simp only [lessL] at wj ⊢
        rw [if_neg (by decide), if_neg (by decide)] at wj ⊢
        simp only [Bool.not_eq_false', beq_iff_eq] at wj ⊢
        omega
      · rw [if_neg hij, if_neg (fun e => hij ⟨by omega, by omega⟩), Int.add_zero]
        exact wj
end
end Go.Proofs.Ytbcacebifpagpaf
namespace Go.Proofs.Ytbcacebifpagpaf
open Go.RowKit
set_option linter.unusedVariables false
def missL (s : St) (order line : Int) : Bool := !(inB order 0 ((s.os.n : Int) - 1)) || !(inB line 0 (((s.os.z order.toNat).ls.n : Int) - 1))
def allocR (p : Pl) (s : St) (order line n but : Int) : Bool := missL s order line || !(inB n 0 200) || ((but != -1) && !(inB but 0 ((p.nb : Int) - 1)))
def lineAt (s : St) (order line : Int) : Hd := (s.os.z order.toNat).ls.z line.toNat
def allocE (p : Pl) (s : St) (order line n but : Int) : Int :=
  if stateE p s = 0 then (if allocR p s order line n but then 3 else if (s.os.z order.toNat).k = 1 then (if (lineAt s order line).n < n then 3 else 0) else 6) else stateE p s
def tkOf (p : Pl) (s : St) (good : Int) (n but : Int) : Tk := Tk.go (fun b => availZ s b.toNat good.toNat) n (wayT p but)
def allocL (p : Pl) (s : St) (order line n but : Int) : Int := if allocE p s order line n but = 0 then (tkOf p s (lineAt s order line).o n but).left else 0
def AllocOK (p : Pl) (s : St) (order line n but : Int) (x : St) : Prop := (allocE p s order line n but = 0 → Took s order.toNat line.toNat n (tkOf p s (lineAt s order line).o n but) x) ∧ (¬ allocE p s order line n but = 0 → NoneS x)
section
variable {p : Pl} {s : St} {order line n but : Int}
theorem allocE_ok (h : stateE p s = 0) (h1 : allocR p s order line n but = false) (h2 : (s.os.z order.toNat).k = 1) (h3 : ¬ (lineAt s order line).n < n) : allocE p s order line n but = 0 := by unfold allocE; rw [if_pos h, h1, if_pos h2, if_neg h3]; rfl
structure AllocIn (p : Pl) (s : St) (order line n but : Int) : Prop where
  st : stateE p s = 0
  o0 : 0 ≤ order
  on : order.toNat < s.os.n
  l0 : 0 ≤ line
  ln : line.toNat < (s.os.z order.toNat).ls.n
  n0 : 0 ≤ n
  n2 : n ≤ 200
  bt : but = -1 ∨ 0 ≤ but ∧ but < p.nb
  kd : (s.os.z order.toNat).k = 1
  bk : n ≤ (lineAt s order line).n
theorem AllocIn.good (h : AllocIn p s order line n but) : 0 ≤ (lineAt s order line).o ∧ (lineAt s order line).o < p.ns := (badLine_no ((rightT h.st).fm.line _ h.on _ h.ln)).1
theorem AllocIn.way (h : AllocIn p s order line n but) : ∀ x, x ∈ wayT p but → 0 ≤ x ∧ x < p.nb := fun x hx => way_mem (wayT_mem.1 hx).1
theorem AllocIn.tk (h : AllocIn p s order line n but) {l : List Int} (hl : l.Pairwise (fun x y => ¬ x = y)) (hm : ∀ x, x ∈ l → 0 ≤ x ∧ x < p.nb) : TkOK (fun b => availZ s b.toNat (lineAt s order line).o.toNat) n l (Tk.go (fun b => availZ s b.toNat (lineAt s order line).o.toNat) n l) := by
  have r := rightT h.st
  have hg := h.good
  refine tkOK h.n0 hl (fun x hx => ?_) (fun x hx => ?_)
  · have := hm x hx
    exact (goods_no (r.goods _ (by omega))).2 _ (by omega)
  · have := hm x hx
    have := r.fm.sh.pl.nb6
    omega
theorem Took.rightAt {x : St} {l : List Int} {t : Tk} (h : AllocIn p s order line n but) (hm : ∀ x, x ∈ l → 0 ≤ x ∧ x < p.nb) (k : TkOK (fun b => availZ s b.toNat (lineAt s order line).o.toNat) n l t) (T : Took s order.toNat line.toNat n t x) : RightT p x := by
  have r := rightT h.st
  have hb := h.bk
  have hl0 := k.left0
  have hl1 := k.leftn
  refine T.isRight r h.on h.ln h.kd (fun b hb => ?_) (by omega) (by unfold lineAt at hb; omega) (fun b hb => ?_) k.took0 k.sum
  · apply Classical.byContradiction
    intro hc
    refine hb (k.other b fun hbl => hc ?_)
    exact hm b hbl
  · by_cases hbl : ((b : Nat) : Int) ∈ l
    · exact k.had b hbl
    · rw [k.other b hbl]
      have hg := h.good
      exact (goods_no (r.goods _ (by unfold lineAt at hg; omega))).2 b hb
end
end Go.Proofs.Ytbcacebifpagpaf
namespace Go.Proofs.Ytbcacebifpagpaf
open Go.RowKit
set_option linter.unusedVariables false
def setHd (x : Hd) (c : Nat) (v : Int) : Hd := if c = 0 then ⟨v, x.l, x.b, x.n⟩ else if c = 1 then ⟨x.o, v, x.b, x.n⟩ else if c = 2 then ⟨x.o, x.l, v, x.n⟩ else ⟨x.o, x.l, x.b, v⟩
def setLn (h : Hs) (j c : Nat) (v : Int) : Hs := ⟨h.a, h.n, h.c, fun i => if i = j then setHd (h.z i) c v else h.z i⟩
def setOd (os : Os) (o l c : Nat) (v : Int) : Os := ⟨os.a, os.n, os.c, fun i => if i = o then ⟨(os.z i).k, setLn (os.z i).ls l c v⟩ else os.z i⟩
def setLine (s : St) (o l c : Nat) (v : Int) : St := ⟨s.on, setOd s.os o l c v, s.hs, s.ms, s.si, s.so, s.sf⟩
def withHolds (s : St) (h : Hs) : St := ⟨s.on, s.os, h, s.ms, s.si, s.so, s.sf⟩
theorem flatH_at {n : Nat} {z : Nat → Hd} {i c : Nat} (hi : i < n) (hc : c < 4) : (flatH n z).getD (i * 4 + c) default = (hdCells (z i)).getD c default := by
  simp only [List.getD, flatH_get n z i c hi hc]
theorem setLn_flat {h : Hs} {j c : Nat} {v : Int} (hc : c < 4) (q : Nat) (hq : q < h.n * 4) :
    (if q = j * 4 + c then Value.int .i64 v else (flatH h.n h.z).getD q default) = (flatH h.n (setLn h j c v).z).getD q default := by
  have hd : q = q / 4 * 4 + q % 4 := by omega
  have hi : q / 4 < h.n := by omega
  have hm : q % 4 < 4 := by omega
  have e1 := flatH_at (z := h.z) hi hm
  have e2 := flatH_at (z := (setLn h j c v).z) hi hm
  rw [← hd] at e1 e2
  rw [e1, e2]
  show _ = (hdCells (if q / 4 = j then setHd (h.z (q / 4)) c v else h.z (q / 4))).getD (q % 4) default
  by_cases hj : q / 4 = j
  · rw [if_pos hj]
    by_cases hqc : q = j * 4 + c
    · rw [if_pos hqc]
      have : q % 4 = c := by omega
      rw [this]
      have hc4 : c = 0 ∨ c = 1 ∨ c = 2 ∨ c = 3 := by omega
      rcases hc4 with rfl | rfl | rfl | rfl <;> rfl
    · rw [if_neg hqc]
      have hc4 : c = 0 ∨ c = 1 ∨ c = 2 ∨ c = 3 := by omega
      have hm4 : q % 4 = 0 ∨ q % 4 = 1 ∨ q % 4 = 2 ∨ q % 4 = 3 := by omega
      rcases hc4 with rfl | rfl | rfl | rfl <;> rcases hm4 with hm | hm | hm | hm <;> first | (exfalso; omega) | (rw [hm]; rfl)
  · rw [if_neg hj, if_neg (by omega)]
theorem OwnO.setLine {A : Nat} {w : World} {s : Os} {o B : Nat} (h : OwnO A w s) (ho : o < s.n) (ha : (s.z o).ls.a = some ⟨B, 0, none⟩) (l c : Nat) (hc : c < 4) (v : Int) : OwnO A (w.setCell ⟨B, l * 4 + c, none⟩ (.int .i64 v)) (setOd s o l c v) := by
  obtain ⟨B', ha', hA, h1, h2, hb⟩ := h.lines o ho
  rw [ha] at ha'
  simp only [Option.some.injEq, Addr.mk.injEq, and_true] at ha'
  subst ha'
  have hz : ∀ i, (setOd s o l c v).z i = if i = o then ⟨(s.z i).k, setLn (s.z i).ls l c v⟩ else s.z i := fun _ => rfl
  have hcells : ∀ i, odCells ((setOd s o l c v).z i) = odCells (s.z i) := fun i => by
    rw [hz]
    by_cases hio : i = o
    · rw [if_pos hio]; rfl
    · rw [if_neg hio]
  have hla : ∀ i, ((setOd s o l c v).z i).ls.a = (s.z i).ls.a := fun i => by
    rw [hz]
    by_cases hio : i = o
    · rw [if_pos hio]; rfl
    · rw [if_neg hio]
  refine ⟨h.le, h.cap, fun hn => ?_, fun i hi => ?_, fun i j hij hj => by rw [hla, hla]; exact h.apart i j hij hj, h.room.set _ _ _⟩
  · obtain ⟨g, a1, a2, a3⟩ := h.list hn
    refine ⟨g, a1, a2, (a3.other (a := ⟨B, l * 4 + c, none⟩) (Blk.ne2 a3 hb (by decide)) _).congr fun j hj => ?_⟩
    show _ = (flatO s.n (setOd s o l c v).z).getD j default
    rw [flatO_congr fun i _ => hcells i]
  · rw [hz]
    by_cases hio : i = o
    · subst hio
      rw [if_pos rfl]
      exact ⟨B, ha, hA, h1, h2, (hb.set (l * 4 + c) (.int .i64 v)).congr fun q hq => setLn_flat hc q hq⟩
    · rw [if_neg hio]
      obtain ⟨C, a1, a2, a3, a4, a5⟩ := h.lines i hi
      refine ⟨C, a1, a2, a3, a4, a5.other (a := ⟨B, l * 4 + c, none⟩) (fun e => ?_) _⟩
      have e' : C = B := e
      subst e'
      rcases Nat.lt_or_gt_of_ne hio with hlt | hgt
      · exact h.apart i o hlt ho (a1.trans ha.symm)
      · exact h.apart o i hgt hi (ha.trans a1.symm)
theorem OwnS.setLine {A : Nat} {w : World} {s : St} {o B : Nat} (h : OwnS A w s) (ho : o < s.os.n) (ha : (s.os.z o).ls.a = some ⟨B, 0, none⟩) (l c : Nat) (hc : c < 4) (v : Int) : OwnS A (w.setCell ⟨B, l * 4 + c, none⟩ (.int .i64 v)) (Go.Proofs.Ytbcacebifpagpaf.setLine s o l c v) := by
  obtain ⟨B', ha', -, -, -, hb⟩ := h.os.lines o ho
  rw [ha] at ha'
  simp only [Option.some.injEq, Addr.mk.injEq, and_true] at ha'
  subst ha'
  refine ⟨?_, fun i hi => (h.rows i hi).other hb (by decide) _ _, h.rapart, h.os.setLine ho ha l c hc v, h.hs.other hb (by decide) _ _, h.ms.other hb (by decide) _ _, h.msr.set _ _ _, h.si.other hb (by decide) _ _, h.so.other hb (by decide) _ _, h.sf.other hb (by decide) _ _, h.aio, h.aif, h.aof, h.ari⟩
  obtain ⟨g, a0, a1, a2, a3, a4⟩ := h.on
  exact ⟨g, a0, a1, a2, a3, a4.other (a := ⟨B, l * 4 + c, none⟩) (Blk.ne2 a4 hb (by decide)) _⟩
theorem OwnS.withHolds {A : Nat} {w : World} {s : St} {h : Hs} (k : OwnS A w s) (hh : OwnH A 54 w h) : OwnS A w (Go.Proofs.Ytbcacebifpagpaf.withHolds s h) :=
  ⟨k.on, k.rows, k.rapart, k.os, hh, k.ms, k.msr, k.si, k.so, k.sf, k.aio, k.aif, k.aof, k.ari⟩
theorem setLine_at {s : St} {o l c : Nat} {v : Int} (i j : Nat) : ((Go.Proofs.Ytbcacebifpagpaf.setLine s o l c v).os.z i).ls.z j = if i = o ∧ j = l then setHd ((s.os.z i).ls.z j) c v else (s.os.z i).ls.z j := by
  show (if i = o then (⟨(s.os.z i).k, setLn (s.os.z i).ls l c v⟩ : Od) else s.os.z i).ls.z j = _
  by_cases hi : i = o
  · rw [if_pos hi]
    show (if j = l then setHd ((s.os.z i).ls.z j) c v else (s.os.z i).ls.z j) = _
    by_cases hj : j = l
    · rw [if_pos hj, if_pos ⟨hi, hj⟩]
    · rw [if_neg hj, if_neg (fun e => hj e.2)]
  · rw [if_neg hi, if_neg (fun e => hi e.1)]
theorem setLine_k {s : St} {o l c : Nat} {v : Int} (i : Nat) : ((Go.Proofs.Ytbcacebifpagpaf.setLine s o l c v).os.z i).k = (s.os.z i).k := by
  show (if i = o then (⟨(s.os.z i).k, setLn (s.os.z i).ls l c v⟩ : Od) else s.os.z i).k = _
  by_cases hi : i = o
  · rw [if_pos hi]
  · rw [if_neg hi]
theorem setLine_n {s : St} {o l c : Nat} {v : Int} (i : Nat) : ((Go.Proofs.Ytbcacebifpagpaf.setLine s o l c v).os.z i).ls.n = (s.os.z i).ls.n ∧ ((Go.Proofs.Ytbcacebifpagpaf.setLine s o l c v).os.z i).ls.a = (s.os.z i).ls.a ∧ ((Go.Proofs.Ytbcacebifpagpaf.setLine s o l c v).os.z i).ls.c = (s.os.z i).ls.c := by
  show (if i = o then (⟨(s.os.z i).k, setLn (s.os.z i).ls l c v⟩ : Od) else s.os.z i).ls.n = _ ∧ (if i = o then (⟨(s.os.z i).k, setLn (s.os.z i).ls l c v⟩ : Od) else s.os.z i).ls.a = _ ∧ (if i = o then (⟨(s.os.z i).k, setLn (s.os.z i).ls l c v⟩ : Od) else s.os.z i).ls.c = _
  by_cases hi : i = o
  · rw [if_pos hi]; exact ⟨rfl, rfl, rfl⟩
  · rw [if_neg hi]; exact ⟨rfl, rfl, rfl⟩
end Go.Proofs.Ytbcacebifpagpaf
namespace Go.Proofs.Ytbcacebifpagpaf
open Go.RowKit
set_option linter.unusedVariables false
theorem sumTo_ge {z : Nat → Int} {m : Nat} : ∀ {k : Nat}, m < k → (∀ i, i < k → 0 ≤ z i) → z m ≤ sumTo z k
  | k + 1, hm, h => by
    simp only [sumTo]
    have h0 : 0 ≤ sumTo z k := by
      have : ∀ q, q ≤ k → 0 ≤ sumTo z q := fun q => by
        induction q with
        | zero => intro _; exact Int.le_refl _
        | succ q ih => intro hq; simp only [sumTo]; have := ih (by omega); have := h q (by omega); omega
      exact this k (Nat.le_refl _)
    by_cases hmk : m = k
    · subst hmk; omega
    · have := sumTo_ge (z := z) (m := m) (k := k) (by omega) (fun i hi => h i (by omega))
      have := h k (by omega)
      omega
theorem kept_le {n : Nat} {z : Nat → Hd} (hr : anyB n (badH z) = false) (o l : Int) {b : Nat} (hb : b < 6) : keptV n z o l b ≤ keptS z o l n := by
  rw [← kept_eq z o l n hr]
  exact sumTo_ge (z := fun b => keptV n z o l b) hb fun i _ => (keptV_bd (fun j hj => (fineH_true (right_fine hr j hj)).2.2.2) o l i).1
theorem line_sum {p : Pl} {x : St} (r : RightT p x) {i j : Nat} (hi : i < x.os.n) (hj : j < (x.os.z i).ls.n) (hk : (x.os.z i).k = 1) : ((x.os.z i).ls.z j).b + ((x.os.z i).ls.z j).n + keptS x.hs.z i j x.hs.n = ((x.os.z i).ls.z j).l ∧ ((x.os.z i).ls.z j).l ≤ 200 ∧ 0 ≤ ((x.os.z i).ls.z j).b := by
  have w := r.orders i hi
  unfold wrongOrder at w
  rw [Bool.or_eq_false_iff] at w
  have wj := anyB_false w.2 j hj
  rw [hk] at wj
  unfold wrongL at wj
  rw [if_neg (by decide), if_neg (by decide)] at wj
  simp only [Bool.not_eq_false', beq_iff_eq] at wj
  have b := badLine_no (r.fm.line i hi j hj)
  exact ⟨wj, by omega, by omega⟩
theorem Took.congr {s x : St} {o l : Nat} {n : Int} {t t' : Tk} (h : Took s o l n t x) (h1 : t'.left = t.left) (h2 : ∀ c, t'.took c = t.took c) : Took s o l n t' x :=
  ⟨h.on, ⟨h.os.1, fun i hi => ⟨(h.os.2 i hi).1, (h.os.2 i hi).2.1, fun j hj => by rw [h1]; exact (h.os.2 i hi).2.2 j hj⟩⟩, h.right, fun a b c => by rw [h2]; exact h.kept a b c, h.ms, h.si, h.so, h.sf⟩
theorem Took.start {s : St} {o l : Nat} {n : Int} (hr : anyB s.hs.n (badH s.hs.z) = false) {x : St} (hx : SameT x s) : Took s o l n ⟨n, fun _ => 0⟩ x := by
  refine ⟨hx.on, ⟨hx.os.1, fun i hi => ⟨(hx.os.2 i hi).1, (hx.os.2 i hi).2.1, fun j hj => ?_⟩⟩, ?_, fun a b c => ?_, hx.ms, hx.si, hx.so, hx.sf⟩
  · rw [(hx.os.2 i hi).2.2 j hj]
    by_cases hij : i = o ∧ j = l
    · rw [if_pos hij]
      show _ = (⟨_, _, _, _ - (n - n)⟩ : Hd)
      rw [Int.sub_self, Int.sub_zero]
    · rw [if_neg hij]
  · rw [hx.hs.1, badH_congr fun j hj => hx.hs.2 j (by rw [hx.hs.1]; exact hj)]
    exact hr
  · rw [hx.hs.1, keptV_congr fun j hj => hx.hs.2 j (by rw [hx.hs.1]; exact hj)]
    show _ = _ + if _ then (0 : Int) else 0
    split <;> omega
section
variable {p : Pl} {s x : St} {order line n but : Int} {l : List Int} {t : Tk} {b : Int}
end
end Go.Proofs.Ytbcacebifpagpaf
namespace Go.Proofs.Ytbcacebifpagpaf
open Go.RowKit
set_option linter.unusedVariables false
structure TakeIn (p : Pl) (s : St) (o l : Nat) (n : Int) : Prop where
  fm : Formed p s
  av : ∀ b, b < p.nb → 0 ≤ availZ s b ((s.os.z o).ls.z l).o.toNat
  on : o < s.os.n
  ln : l < (s.os.z o).ls.n
  n0 : 0 ≤ n
  bk : n ≤ ((s.os.z o).ls.z l).n
  sum : ((s.os.z o).ls.z l).n + keptS s.hs.z o l s.hs.n ≤ 200
def avT (s : St) (o l : Nat) (b : Int) : Int := availZ s b.toNat ((s.os.z o).ls.z l).o.toNat
section
variable {p : Pl} {s x : St} {o l : Nat} {n : Int} {L : List Int} {t : Tk}
theorem TakeIn.good (h : TakeIn p s o l n) : 0 ≤ ((s.os.z o).ls.z l).o ∧ ((s.os.z o).ls.z l).o < p.ns := (badLine_no (h.fm.line _ h.on _ h.ln)).1
theorem TakeIn.tk (h : TakeIn p s o l n) (hL : L.Pairwise (fun x y => ¬ x = y)) (hm : ∀ x, x ∈ L → 0 ≤ x ∧ x < p.nb) : TkOK (avT s o l) n L (Tk.go (avT s o l) n L) := by
  refine tkOK h.n0 hL (fun x hx => ?_) (fun x hx => ?_)
  · have := hm x hx
    exact h.av _ (by omega)
  · have := hm x hx
    have := h.fm.sh.pl.nb6
    omega
theorem TakeIn.inBins (hm : ∀ x, x ∈ L → 0 ≤ x ∧ x < p.nb) (k : TkOK (avT s o l) n L t) : ∀ b, ¬ t.took b = 0 → 0 ≤ b ∧ b < p.nb := fun b hb => by
  apply Classical.byContradiction
  intro hc
  exact hb (k.other b fun hbl => hc (hm b hbl))
theorem TakeIn.formed (h : TakeIn p s o l n) (hm : ∀ x, x ∈ L → 0 ≤ x ∧ x < p.nb) (k : TkOK (avT s o l) n L t) (T : Took s o l n t x) : Formed p x := by
  have h0 := k.left0
  have h1 := k.leftn
  have h2 := h.bk
  exact T.formed h.fm h.on h.ln (TakeIn.inBins hm k) (by omega) (by omega)
end
end Go.Proofs.Ytbcacebifpagpaf
namespace Go.Proofs.Ytbcacebifpagpaf
open Go.RowKit
set_option linter.unusedVariables false
theorem TakeIn.same {p : Pl} {x s : St} {o l : Nat} {n : Int} (h : TakeIn p s o l n) (k : SameT x s) : TakeIn p x o l n := by
  have ho : o < x.os.n := by rw [k.os.1]; exact h.on
  have e := k.os.2 o ho
  have hl : l < (x.os.z o).ls.n := by rw [e.2.1]; exact h.ln
  have e3 := e.2.2 l hl
  have hg := h.good
  refine ⟨k.formed h.fm, fun b hb => ?_, ho, hl, h.n0, by rw [e3]; exact h.bk, ?_⟩
  · rw [e3, k.avail h.fm hb (by omega)]
    exact h.av b hb
  · rw [e3, k.hs.1, keptS_congr _ _ fun j hj => k.hs.2 j (by rw [k.hs.1]; exact hj)]
    exact h.sum
theorem Took.base {x0 s x : St} {o l : Nat} {n : Int} {t : Tk} (k : SameT x0 s) (h : Took x0 o l n t x) : Took s o l n t x := by
  have r := k
  refine ⟨⟨h.on.1.trans k.on.1, fun i hi => ?_⟩, ⟨h.os.1.trans k.os.1, fun i hi => ?_⟩, h.right, fun a b c => ?_, ⟨h.ms.1.trans k.ms.1, fun j hj => (h.ms.2 j hj).trans (k.ms.2 j (by rw [← h.ms.1]; exact hj))⟩, ⟨h.si.1.trans k.si.1, fun j hj => (h.si.2 j hj).trans (k.si.2 j (by rw [← h.si.1]; exact hj))⟩, ⟨h.so.1.trans k.so.1, fun j hj => (h.so.2 j hj).trans (k.so.2 j (by rw [← h.so.1]; exact hj))⟩, ⟨h.sf.1.trans k.sf.1, fun j hj => (h.sf.2 j hj).trans (k.sf.2 j (by rw [← h.sf.1]; exact hj))⟩⟩
  · have a := h.on.2 i hi
    have b := k.on.2 i (by rw [← h.on.1]; exact hi)
    exact ⟨a.1.trans b.1, fun j hj => (a.2 j hj).trans (b.2 j (by rw [← a.1]; exact hj))⟩
  · have a := h.os.2 i hi
    have b := k.os.2 i (by rw [← h.os.1]; exact hi)
    refine ⟨a.1.trans b.1, a.2.1.trans b.2.1, fun j hj => ?_⟩
    rw [a.2.2 j hj, b.2.2 j (by rw [← a.2.1]; exact hj)]
  · rw [h.kept, k.hs.1, keptV_congr fun j hj => k.hs.2 j (by rw [k.hs.1]; exact hj)]
end Go.Proofs.Ytbcacebifpagpaf
namespace Go.Proofs.Ytbcacebifpagpaf
open Go.RowKit Go.Shelf Go.Sort
set_option linter.unusedVariables false
theorem none_same2 {s t : St} (a : NoneS s) (b : NoneS t) : SameT s t := by
  obtain ⟨a1, a2, a3, a4, a5, a6, a7⟩ := a
  obtain ⟨b1, b2, b3, b4, b5, b6, b7⟩ := b
  exact ⟨⟨by omega, fun i hi => absurd hi (by omega)⟩, ⟨by omega, fun i hi => absurd hi (by omega)⟩, ⟨by omega, fun j hj => absurd hj (by omega)⟩, ⟨by omega, fun j hj => absurd hj (by omega)⟩, ⟨by omega, fun j hj => absurd hj (by omega)⟩, ⟨by omega, fun j hj => absurd hj (by omega)⟩, ⟨by omega, fun j hj => absurd hj (by omega)⟩⟩
theorem ActOK.same {E : Int} {t x y : St} (a : ActOK E t x) (b : ActOK E t y) : SameT x y := by
  by_cases h : E = 0
  · exact (a.1 h).trans (b.1 h).symm
  · exact none_same2 (a.2 h) (b.2 h)
end Go.Proofs.Ytbcacebifpagpaf
namespace Go.Proofs.Ytbcacebifpagpaf
open Go.RowKit
set_option linter.unusedVariables false
theorem AllocOK.same {p : Pl} {s x y : St} {order line n but : Int} (a : AllocOK p s order line n but x) (b : AllocOK p s order line n but y) : SameT x y := by
  by_cases h : allocE p s order line n but = 0
  · exact (a.1 h).same (b.1 h)
  · exact none_same2 (a.2 h) (b.2 h)
end Go.Proofs.Ytbcacebifpagpaf
namespace Go.Proofs.Ytbcacebifpagpaf
open Go.RowKit
set_option linter.unusedVariables false
theorem frL_has {p : Pl} {f : Bool} {b : Nat} : ∀ {k : Nat}, b < k → (p.zb b).front = f → ((b : Nat) : Int) ∈ frL p f k
  | k + 1, hb, hf => by
    by_cases hbk : b = k
    · subst hbk
      rw [frL_hit hf]
      simp
    · have h := frL_has (k := k) (by omega) hf
      by_cases hk : (p.zb k).front = f
      · rw [frL_hit hk]; simp [h]
      · rw [frL_miss hk]; exact h
theorem way_has {p : Pl} {b : Nat} (hb : b < p.nb) : ((b : Nat) : Int) ∈ wayL p := by
  unfold wayL
  rw [List.mem_append]
  cases hf : (p.zb b).front
  · exact Or.inr (frL_has hb hf)
  · exact Or.inl (frL_has hb hf)
theorem Took.trans {s y z : St} {o l : Nat} {k m : Int} {t1 t2 : Tk} (a : Took s o l k t1 y) (b : Took y o l m t2 z) : Took s o l (k + m) ⟨t1.left + t2.left, fun c => t1.took c + t2.took c⟩ z := by
  refine ⟨⟨b.on.1.trans a.on.1, fun i hi => ?_⟩, ⟨b.os.1.trans a.os.1, fun i hi => ?_⟩, b.right, fun e f g => ?_, ⟨b.ms.1.trans a.ms.1, fun j hj => (b.ms.2 j hj).trans (a.ms.2 j (by rw [← b.ms.1]; exact hj))⟩, ⟨b.si.1.trans a.si.1, fun j hj => (b.si.2 j hj).trans (a.si.2 j (by rw [← b.si.1]; exact hj))⟩, ⟨b.so.1.trans a.so.1, fun j hj => (b.so.2 j hj).trans (a.so.2 j (by rw [← b.so.1]; exact hj))⟩, ⟨b.sf.1.trans a.sf.1, fun j hj => (b.sf.2 j hj).trans (a.sf.2 j (by rw [← b.sf.1]; exact hj))⟩⟩
  · have x := b.on.2 i hi
    have y' := a.on.2 i (by rw [← b.on.1]; exact hi)
    exact ⟨x.1.trans y'.1, fun j hj => (x.2 j hj).trans (y'.2 j (by rw [← x.1]; exact hj))⟩
  · have x := b.os.2 i hi
    have y' := a.os.2 i (by rw [← b.os.1]; exact hi)
    refine ⟨x.1.trans y'.1, x.2.1.trans y'.2.1, fun j hj => ?_⟩
    rw [x.2.2 j hj, y'.2.2 j (by rw [← x.2.1]; exact hj)]
    by_cases hij : i = o ∧ j = l
    · rw [if_pos hij, if_pos hij, if_pos hij]
      unfold lessL
      congr 1
      show _ - (k - t1.left) - (m - t2.left) = _ - (k + m - (t1.left + t2.left))
      omega
    · rw [if_neg hij, if_neg hij, if_neg hij]
  · rw [b.kept, a.kept]
    show _ = _ + if _ then t1.took g + t2.took g else 0
    by_cases hef : e = o ∧ f = l
    · rw [if_pos hef, if_pos hef, if_pos hef]; omega
    · rw [if_neg hef, if_neg hef, if_neg hef]; omega
section
variable {p : Pl} {s x y z : St} {order line n but k : Int}
theorem AllocIn.less (h : AllocIn p s order line n but) (hk : 0 ≤ k ∧ k ≤ n) : allocE p s order line k but = 0 := by
  have h1 : allocR p s order line k but = false := by
    unfold allocR missL
    have h2 := h.n2
    have on := h.on
    have o0 := h.o0
    have ln := h.ln
    have l0 := h.l0
    rw [inB_mk (by omega), inB_mk (by omega), inB_mk (by omega)]
    rcases h.bt with e | e
    · rw [e]; rfl
    · rw [inB_mk (by omega)]; simp
  exact allocE_ok h.st h1 h.kd (by have := h.bk; omega)
theorem AllocIn.rightX (h : AllocIn p s order line n but) (hx : AllocOK p s order line n but x) : RightT p x :=
  (hx.1 (h.less ⟨h.n0, Int.le_refl _⟩)).rightAt h (fun x hx => h.way x hx) (h.tk (wayT_apart p but) (fun x hx => h.way x hx))
theorem AllocIn.none (h : AllocIn p s order line n but) (hx : AllocOK p s order line n but x) (hl : 0 < allocL p s order line n but) {b : Nat} (hb : b < p.nb) (hbut : ¬ ((b : Nat) : Int) = but) : availZ x b (lineAt s order line).o.toNat = 0 := by
  have e := h.less ⟨h.n0, Int.le_refl _⟩
  have T := hx.1 e
  have r := h.rightX hx
  have k := h.tk (wayT_apart p but) (fun x hx => h.way x hx)
  unfold allocL at hl
  rw [if_pos e] at hl
  have hg := h.good
  have hm : ((b : Nat) : Int) ∈ wayT p but := wayT_mem.2 ⟨way_has hb, hbut⟩
  have ha := k.all hl b hm
  rw [T.avail (rightT h.st).fm r.fm h.on h.ln hb (by omega), if_pos (by unfold lineAt; unfold lineAt at hg; omega)]
  show _ - (tkOf p s (lineAt s order line).o n but).took b = 0
  have ha' : (tkOf p s (lineAt s order line).o n but).took b = availZ s b (lineAt s order line).o.toNat := ha
  rw [ha']
  omega
end
end Go.Proofs.Ytbcacebifpagpaf
namespace Go.Proofs.Ytbcacebifpagpaf
open Go.RowKit
set_option linter.unusedVariables false
theorem SameT.self (s : St) : SameT s s := ⟨⟨rfl, fun _ _ => ⟨rfl, fun _ _ => rfl⟩⟩, ⟨rfl, fun _ _ => ⟨rfl, rfl, fun _ _ => rfl⟩⟩, ⟨rfl, fun _ _ => rfl⟩, ⟨rfl, fun _ _ => rfl⟩, ⟨rfl, fun _ _ => rfl⟩, ⟨rfl, fun _ _ => rfl⟩, ⟨rfl, fun _ _ => rfl⟩⟩
theorem right_line {p : Pl} {s : St} (r : RightT p s) {o l : Nat} (ho : o < s.os.n) (hl : l < (s.os.z o).ls.n) : 0 ≤ ((s.os.z o).ls.z l).n ∧ ((s.os.z o).ls.z l).n + keptS s.hs.z o l s.hs.n ≤ 200 ∧ 0 ≤ keptS s.hs.z o l s.hs.n := by
  have w := r.orders o ho
  unfold wrongOrder at w
  rw [Bool.or_eq_false_iff] at w
  have wl : wrongL (s.os.z o).k ((s.os.z o).ls.z l) (keptS s.hs.z o l s.hs.n) = false := anyB_false w.2 l hl
  obtain ⟨b1, b2, b3, b4⟩ := badLine_no (r.fm.line o ho l hl)
  have k0 := (keptS_bd (z := s.hs.z) o l s.hs.n fun j hj => (fineH_true (right_fine r.fm.hold j hj)).2.2.2).1
  unfold wrongL at wl
  by_cases h0 : (s.os.z o).k = 0
  · rw [if_pos h0] at wl
    simp only [Bool.or_eq_false_iff, Bool.not_eq_false', beq_iff_eq] at wl
    omega
  · rw [if_neg h0] at wl
    by_cases h2 : (s.os.z o).k = 2
    · rw [if_pos h2] at wl
      simp only [Bool.or_eq_false_iff, Bool.not_eq_false', beq_iff_eq] at wl
      omega
    · rw [if_neg h2] at wl
      simp only [Bool.not_eq_false', beq_iff_eq] at wl
      omega
theorem RightT.takeIn {p : Pl} {s : St} (r : RightT p s) {o l : Nat} (ho : o < s.os.n) (hl : l < (s.os.z o).ls.n) {n : Int} (h0 : 0 ≤ n) (hb : n ≤ ((s.os.z o).ls.z l).n) : TakeIn p s o l n := by
  have q := right_line r ho hl
  have hg := (badLine_no (r.fm.line o ho l hl)).1
  exact ⟨r.fm, fun b hb => (goods_no (r.goods _ (by omega))).2 b hb, ho, hl, h0, hb, q.2.1⟩
def Step (p : Pl) (but : Int) (y : St) (i j : Nat) (n : Int) (x : St) : Prop := Took y i j n (Tk.go (avT y i j) n (wayT p but)) x
structure StepIn (p : Pl) (but : Int) (y : St) (i j : Nat) (n : Int) : Prop where
  r : RightT p y
  on : i < y.os.n
  ln : j < (y.os.z i).ls.n
  n0 : 0 ≤ n
  kd : n = 0 ∨ (y.os.z i).k = 1 ∧ n ≤ ((y.os.z i).ls.z j).n
  bt : but = -1 ∨ 0 ≤ but ∧ but < p.nb
section
variable {p : Pl} {but : Int} {s y x : St} {i j : Nat} {n : Int}
theorem StepIn.bk (h : StepIn p but y i j n) : n ≤ ((y.os.z i).ls.z j).n := by
  have q := right_line h.r h.on h.ln
  rcases h.kd with e | e
  · omega
  · exact e.2
theorem StepIn.tki (h : StepIn p but y i j n) : TakeIn p y i j n := h.r.takeIn h.on h.ln h.n0 h.bk
theorem StepIn.way (x : Int) (hx : x ∈ wayT p but) : 0 ≤ x ∧ x < p.nb := way_mem (wayT_mem.1 hx).1
theorem StepIn.tk (h : StepIn p but y i j n) : TkOK (avT y i j) n (wayT p but) (Tk.go (avT y i j) n (wayT p but)) := h.tki.tk (wayT_apart p but) StepIn.way
theorem TakeIn.tkw {but : Int} (h : TakeIn p y i j n) : TkOK (avT y i j) n (wayT p but) (Tk.go (avT y i j) n (wayT p but)) := h.tk (wayT_apart p but) StepIn.way
theorem TakeIn.none {but : Int} (h : TakeIn p y i j 0) : (Tk.go (avT y i j) 0 (wayT p but)).left = 0 ∧ ∀ c, (Tk.go (avT y i j) 0 (wayT p but)).took c = 0 := by
  have k := h.tkw (but := but)
  have h0 := k.left0
  have h1 := k.leftn
  refine ⟨by omega, fun c => ?_⟩
  have h2 := k.took0 c
  have h3 := k.tookn c
  omega
theorem Step.zero (h : TakeIn p y i j 0) (T : Step p but y i j 0 x) : SameT x y := Took.same T (Took.congr (Took.start (n := 0) h.fm.hold (SameT.self y)) h.none.1 h.none.2)
theorem SameT.kept (h : SameT x s) (a b : Int) : keptS x.hs.z a b x.hs.n = keptS s.hs.z a b s.hs.n := by
  rw [h.hs.1, keptS_congr _ _ fun j hj => h.hs.2 j (by rw [h.hs.1]; exact hj)]
theorem SameT.line (h : SameT x s) {i j : Nat} (hi : i < s.os.n) (hj : j < (s.os.z i).ls.n) : (x.os.z i).ls.z j = (s.os.z i).ls.z j := by
  have e := h.os.2 i (by rw [h.os.1]; exact hi)
  exact e.2.2 j (by rw [e.2.1]; exact hj)
end
def before (a b i j : Nat) : Prop := a < i ∨ a = i ∧ b < j
def TkRow (p : Pl) (but : Int) (q : Nat → Nat → Int) (i : Nat) (s : St) : Nat → St → Prop
  | 0, x => x = s
  | j + 1, x => ∃ y, TkRow p but q i s j y ∧ Step p but y i j (q i j) x
def TkAll (p : Pl) (but : Int) (q : Nat → Nat → Int) (m : Nat → Nat) (s : St) : Nat → St → Prop
  | 0, x => SameT x s
  | i + 1, x => ∃ y, TkAll p but q m s i y ∧ TkRow p but q i y (m i) x
section
variable {p : Pl} {but : Int} {q : Nat → Nat → Int} {s y x : St} {i j : Nat}
theorem TkRow.base {q' : Nat → Nat → Int} (hq : ∀ b, b < (s.os.z i).ls.n → q' i b = q i b) : ∀ {j : Nat} {x : St}, j ≤ (s.os.z i).ls.n → TkRow p but q' i y j x → TkRow p but q i y j x
  | 0, x, _, h => h
  | j + 1, x, hj, ⟨z, hz, T⟩ => ⟨z, TkRow.base hq (by omega) hz, by rw [← hq j (by omega)]; exact T⟩
theorem TkAll.base {s' : St} {q' : Nat → Nat → Int} {m m' : Nat → Nat} (e : SameT s' s) (hm : ∀ a, a < s.os.n → m a = (s.os.z a).ls.n) (hm' : ∀ a, a < s.os.n → m' a = m a) (hq : ∀ a b, a < s.os.n → b < (s.os.z a).ls.n → q' a b = q a b) : ∀ {i : Nat} {x : St}, i ≤ s.os.n → TkAll p but q' m' s' i x → TkAll p but q m s i x
  | 0, x, _, h => SameT.trans h e
  | i + 1, x, hi, ⟨z, hz, T⟩ => ⟨z, TkAll.base e hm hm' hq (by omega) hz, by
      rw [hm' i (by omega)] at T
      exact TkRow.base (s := s) (fun b hb => hq i b (by omega) hb) (by rw [hm i (by omega)]; exact Nat.le_refl _) T⟩
end
end Go.Proofs.Ytbcacebifpagpaf
namespace Go.Proofs.Ytbcacebifpagpaf
open Go.RowKit Go.Shelf Go.Sort
set_option linter.unusedVariables false
def KeepO (w wk : World) : Prop := ∀ (q : Nat) (t : TypeId) (m : Nat) (f : Nat → Value), t ≠ 60 → t ≠ 58 → Blk w q t m f → Blk wk q t m f
theorem KeepO.below {w wk wj : World} (h : KeepO w wk) (hB : Below wk.heap.size wk wj) : KeepO w wj := fun q t m f ht h2 hb => (h q t m f ht h2 hb).below hB
theorem KeepO.refl (w : World) : KeepO w w := fun _ _ _ _ _ _ h => h
theorem KeepO.trans {w wk wj : World} (h : KeepO w wk) (k : KeepO wk wj) : KeepO w wj := fun q t m f ht h2 hb => k q t m f ht h2 (h q t m f ht h2 hb)
theorem KeepO.setLine {w wk : World} (h : KeepO w wk) {B n : Nat} {z : Nat → Value} (hB : Blk wk B 60 n z) (j : Nat) (u : Value) : KeepO w (wk.setCell ⟨B, j, none⟩ u) := fun q t m f ht h2 hb => (h q t m f ht h2 hb).other (a := ⟨B, j, none⟩) (Blk.ne2 (h q t m f ht h2 hb) hB ht) u
end Go.Proofs.Ytbcacebifpagpaf
namespace Go.Proofs.Ytbcacebifpagpaf
open Go.RowKit Go.Shelf
set_option linter.unusedVariables false
theorem Blk.setCells {g : Nat} {e : TypeId} {n : Nat} {f : Nat → Value} : ∀ (vs : List Value) (o : Nat) (w : World), Blk w g e n f → n ≤ o → Blk (w.setCells g o vs) g e n f
  | [], _, _, h, _ => h
  | v :: r, o, w, h, hn => by
    rw [World.setCells]
    exact Blk.setCells r (o + 1) _ ((h.set o v).congr fun j hj => by rw [if_neg (by omega)]) (by omega)
end Go.Proofs.Ytbcacebifpagpaf
namespace Go.Proofs.Ytbcacebifpagpaf
open Go.RowKit Go.Shelf
set_option linter.unusedVariables false
def hd0 : Hd := ⟨0, 0, 0, 0⟩
def hc (c : Nat → Hd) (q : Nat) : Value := (hdCells (c (q / 4))).getD (q % 4) default
theorem hc_at (c : Nat → Hd) (i : Nat) : hc c (i * 4) = .int .i64 (c i).o ∧ hc c (i * 4 + 1) = .int .i64 (c i).l ∧ hc c (i * 4 + 2) = .int .i64 (c i).b ∧ hc c (i * 4 + 3) = .int .i64 (c i).n := by
  unfold hc
  refine ⟨?_, ?_, ?_, ?_⟩
  · rw [show i * 4 / 4 = i by omega, show i * 4 % 4 = 0 by omega]; rfl
  · rw [show (i * 4 + 1) / 4 = i by omega, show (i * 4 + 1) % 4 = 1 by omega]; rfl
  · rw [show (i * 4 + 2) / 4 = i by omega, show (i * 4 + 2) % 4 = 2 by omega]; rfl
  · rw [show (i * 4 + 3) / 4 = i by omega, show (i * 4 + 3) % 4 = 3 by omega]; rfl
theorem Blk.hds {w : World} {g : Nat} {e : TypeId} {n : Nat} {c : Nat → Hd} (h : Blk w g e (n * 4) (hc c)) : HdsAt w (some ⟨g, 0, none⟩) n c := fun i hi => by
  have a := hc_at c i
  refine ⟨g, 0, rfl, h.lt, ?_, ?_, ?_, ?_⟩
  · rw [Nat.zero_add]; exact (h.cell (by omega)).trans (by rw [a.1])
  · rw [Nat.zero_add]; exact (h.cell (by omega)).trans (by rw [a.2.1])
  · rw [Nat.zero_add]; exact (h.cell (by omega)).trans (by rw [a.2.2.1])
  · rw [Nat.zero_add]; exact (h.cell (by omega)).trans (by rw [a.2.2.2])
def KeepG (g : Nat) (w w' : World) : Prop := w.heap.size ≤ w'.heap.size ∧ ∀ q, q < w.heap.size → q ≠ g → w'.heap[q]? = w.heap[q]?
theorem KeepG.refl (g : Nat) (w : World) : KeepG g w w := ⟨Nat.le_refl _, fun _ _ _ => rfl⟩
theorem KeepG.below {g : Nat} {w wk wj : World} (h : KeepG g w wk) (hB : Below wk.heap.size wk wj) : KeepG g w wj := ⟨Nat.le_trans h.1 hB.size, fun q hq hne => (hB.block q (Nat.lt_of_lt_of_le hq h.1)).trans (h.2 q hq hne)⟩
theorem KeepG.set {g : Nat} {w wk : World} (h : KeepG g w wk) (j : Nat) (u : Value) : KeepG g w (wk.setCell ⟨g, j, none⟩ u) := ⟨by simpa using h.1, fun q hq hne => (Below.heap_setCell wk ⟨g, j, none⟩ u q hne).trans (h.2 q hq hne)⟩
theorem KeepG.cells {g : Nat} {w : World} : ∀ (vs : List Value) (o : Nat) (wk : World), KeepG g w wk → KeepG g w (wk.setCells g o vs)
  | [], _, _, h => h
  | v :: r, o, wk, h => by
    rw [World.setCells]
    exact KeepG.cells r (o + 1) _ (h.set o v)
end Go.Proofs.Ytbcacebifpagpaf
namespace Go.Proofs.Ytbcacebifpagpaf
open Go.RowKit Go.Shelf Go.Sort
set_option linter.unusedVariables false
def kindO (os : Os) (o : Nat) (v : Int) : Os := ⟨os.a, os.n, os.c, fun i => if i = o then ⟨v, (os.z i).ls⟩ else os.z i⟩
def kindS (s : St) (o : Nat) (v : Int) : St := ⟨s.on, kindO s.os o v, s.hs, s.ms, s.si, s.so, s.sf⟩
theorem kindO_ls (os : Os) (o : Nat) (v : Int) (i : Nat) : ((kindO os o v).z i).ls = (os.z i).ls := by
  show (if i = o then (⟨v, (os.z i).ls⟩ : Od) else os.z i).ls = _
  by_cases h : i = o
  · rw [if_pos h]
  · rw [if_neg h]
theorem OwnO.kind {A : Nat} {w : World} {s : Os} {o g : Nat} (h : OwnO A w s) (ho : o < s.n) (ha : s.a = some ⟨g, 0, none⟩) (v : Int) : OwnO A (w.setCell ⟨g, o * 2, none⟩ (.int .i64 v)) (kindO s o v) := by
  obtain ⟨g', ha', hA, hb⟩ := h.list (by omega)
  rw [ha] at ha'
  simp only [Option.some.injEq, Addr.mk.injEq, and_true] at ha'
  subst ha'
  refine ⟨h.le, h.cap, fun hn => ⟨g, ha, hA, (hb.set (o * 2) (.int .i64 v)).congr fun q hq => ?_⟩, fun i hi => ?_, fun i j hij hj => by rw [kindO_ls, kindO_ls]; exact h.apart i j hij hj, h.room.set _ _ _⟩
  · have hd : q = q / 2 * 2 + q % 2 := by omega
    have hi : q / 2 < s.n := by omega
    have hm : q % 2 < 2 := by omega
    have e1 := flatO_at (z := s.z) hi hm
    have e2 := flatO_at (z := (kindO s o v).z) hi hm
    rw [← hd] at e1 e2
    show (if q = o * 2 then Value.int .i64 v else (flatO s.n s.z).getD q default) = (flatO s.n (kindO s o v).z).getD q default
    rw [e1, e2]
    show _ = (odCells (if q / 2 = o then (⟨v, (s.z (q / 2)).ls⟩ : Od) else s.z (q / 2))).getD (q % 2) default
    by_cases hj : q / 2 = o
    · rw [if_pos hj]
      have hm2 : q % 2 = 0 ∨ q % 2 = 1 := by omega
      rcases hm2 with hm2 | hm2
      · rw [if_pos (by omega), hm2]; rfl
      · rw [if_neg (by omega), hm2]; rfl
    · rw [if_neg hj, if_neg (by omega)]
  · rw [kindO_ls]
    obtain ⟨C, a1, a2, a3, a4, a5⟩ := h.lines i hi
    exact ⟨C, a1, a2, a3, a4, a5.other (a := ⟨g, o * 2, none⟩) (Blk.ne2 a5 hb (by decide)) _⟩
theorem OwnS.kind {A : Nat} {w : World} {s : St} {o g : Nat} (h : OwnS A w s) (ho : o < s.os.n) (ha : s.os.a = some ⟨g, 0, none⟩) (v : Int) : OwnS A (w.setCell ⟨g, o * 2, none⟩ (.int .i64 v)) (kindS s o v) := by
  obtain ⟨g', ha', hA, hb⟩ := h.os.list (by omega)
  rw [ha] at ha'
  simp only [Option.some.injEq, Addr.mk.injEq, and_true] at ha'
  subst ha'
  refine ⟨?_, fun i hi => (h.rows i hi).other hb (by decide) _ _, h.rapart, h.os.kind ho ha v, h.hs.other hb (by decide) _ _, h.ms.other hb (by decide) _ _, h.msr.set _ _ _, h.si.other hb (by decide) _ _, h.so.other hb (by decide) _ _, h.sf.other hb (by decide) _ _, h.aio, h.aif, h.aof, h.ari⟩
  obtain ⟨q, a0, a1, a2, a3, a4⟩ := h.on
  exact ⟨q, a0, a1, a2, a3, a4.other (a := ⟨g, o * 2, none⟩) (Blk.ne2 a4 hb (by decide)) _⟩
end Go.Proofs.Ytbcacebifpagpaf
namespace Go.Proofs.Ytbcacebifpagpaf
open Go.RowKit
set_option linter.unusedVariables false
theorem drop_right {n p : Nat} {z : Nat → Hd} (hr : anyB n (badH z) = false) (hp : p < n) : anyB (n - 1) (badH (dropZ z p)) = false := by
  refine right_mk (fun i hi => ?_) fun i hi => ?_
  · unfold dropZ
    split
    · exact right_fine hr i (by omega)
    · exact right_fine hr (i + 1) (by omega)
  · unfold dropZ
    by_cases h1 : i + 1 < p
    · rw [if_pos (by omega), if_pos h1]
      exact right_lt hr _ _ (by omega) (by omega)
    · rw [if_neg h1]
      split
      · exact right_lt hr _ _ (by omega) (by omega)
      · exact right_lt hr _ _ (by omega) (by omega)
theorem drop_kept {n p : Nat} {z : Nat → Hd} (hr : anyB n (badH z) = false) (hp : p < n) (o l b : Int) : keptV (n - 1) (dropZ z p) o l b = if matchH (z p) o l b then 0 else keptV n z o l b := by
  have ry := drop_right hr hp
  cases hm : matchH (z p) o l b
  · rw [if_neg (by decide)]
    rcases keptV_cases n z o l b with h | ⟨k, hk, h1, h2⟩
    · rw [keptV_none h, keptV_none fun j hj => ?_]
      unfold dropZ
      split
      · exact h j (by omega)
      · exact h (j + 1) (by omega)
    · have hkp : ¬ k = p := fun e => by rw [e, hm] at h2; exact absurd h2 (by decide)
      rw [(kept_at hr hk h2).1]
      by_cases hlt : k < p
      · have e : dropZ z p k = z k := if_pos hlt
        rw [(kept_at ry (k := k) (by omega) (by rw [e]; exact h2)).1, e]
      · have e : dropZ z p (k - 1) = z k := by
          unfold dropZ
          rw [if_neg (by omega), show k - 1 + 1 = k by omega]
        rw [(kept_at ry (k := k - 1) (by omega) (by rw [e]; exact h2)).1, e]
  · rw [if_pos rfl]
    refine keptV_none fun j hj => ?_
    cases hq : matchH (dropZ z p j) o l b
    · rfl
    · have e := matchH_key hq hm
      unfold dropZ at e
      split at e
      · have := right_lt hr j p (by omega) hp
        omega
      · have := right_lt hr p (j + 1) (by omega) (by omega)
        omega
end Go.Proofs.Ytbcacebifpagpaf
namespace Go.Proofs.Ytbcacebifpagpaf
open Go.RowKit
set_option linter.unusedVariables false
def setOut (s : St) (g : Nat) (x : Int) : St := ⟨s.on, s.os, s.hs, s.ms, s.si, setRw s.so g x, s.sf⟩
def lineGood (s : St) (o l : Nat) : Nat := ((s.os.z o).ls.z l).o.toNat
def heldAt (s : St) (o l b : Int) : Int := keptV s.hs.n s.hs.z o l b
section
variable {p : Pl} {s : St} {order line bin n : Int}
end
structure HoldIn (p : Pl) (s : St) (o l b : Nat) : Prop where
  r : RightT p s
  kp : ¬ heldAt s o l b = 0
  on : o < s.os.n
  ln : l < (s.os.z o).ls.n
  bn : b < p.nb
section
variable {p : Pl} {s : St} {o l b : Nat}
theorem HoldIn.bd (h : HoldIn p s o l b) : 1 ≤ heldAt s o l b ∧ heldAt s o l b ≤ 200 ∧ heldAt s o l b ≤ keptS s.hs.z o l s.hs.n := by
  obtain ⟨q1, q2, q3⟩ := kept_pos h.r.fm.hold h.kp
  have e := (kept_at h.r.fm.hold q1 q2).1
  have f := (fineH_true (right_fine h.r.fm.hold _ q1)).2.2.2
  have nb6 := h.r.fm.sh.pl.nb6
  have b6 := h.bn
  have k := kept_le h.r.fm.hold (o : Int) (l : Int) (b := b) (by omega)
  unfold heldAt
  omega
theorem HoldIn.kind (h : HoldIn p s o l b) : (s.os.z o).k = 1 := by
  have w := h.r.orders o h.on
  unfold wrongOrder at w
  rw [Bool.or_eq_false_iff] at w
  have wl : wrongL (s.os.z o).k ((s.os.z o).ls.z l) (keptS s.hs.z o l s.hs.n) = false := anyB_false w.2 l h.ln
  have bd := h.bd
  have kd := h.r.fm.kind o h.on
  unfold wrongL at wl
  by_cases h0 : (s.os.z o).k = 0
  · rw [if_pos h0] at wl
    simp only [Bool.or_eq_false_iff, Bool.not_eq_false', beq_iff_eq] at wl
    omega
  · rw [if_neg h0] at wl
    by_cases h2 : (s.os.z o).k = 2
    · rw [if_pos h2] at wl
      simp only [Bool.or_eq_false_iff, Bool.not_eq_false', beq_iff_eq] at wl
      omega
    · omega
theorem HoldIn.good (h : HoldIn p s o l b) : ((s.os.z o).ls.z l).o = (lineGood s o l : Int) ∧ lineGood s o l < p.ns := by
  have g := (badLine_no (h.r.fm.line o h.on l h.ln)).1
  unfold lineGood
  omega
theorem HoldIn.sum (h : HoldIn p s o l b) : ((s.os.z o).ls.z l).b + ((s.os.z o).ls.z l).n + keptS s.hs.z o l s.hs.n = ((s.os.z o).ls.z l).l ∧ ((s.os.z o).ls.z l).l ≤ 200 ∧ 0 ≤ ((s.os.z o).ls.z l).b := line_sum h.r h.on h.ln h.kind
theorem held_ge {p : Pl} {s : St} (f : Formed p s) {o l : Nat} (ho : o < s.os.n) (hl : l < (s.os.z o).ls.n) (b : Int) : keptV s.hs.n s.hs.z o l b ≤ heldTo s b ((s.os.z o).ls.z l).o s.hs.n := by
  rw [heldTo_sum b _ _ f.home f.hold]
  unfold heldSum
  have nn : ∀ i j, 0 ≤ lineHeld s b ((s.os.z o).ls.z l).o s.hs.n i j := fun i j => by
    unfold lineHeld
    have := (keptV_bd (fun j hj => (fineH_true (right_fine f.hold j hj)).2.2.2) (i : Int) (j : Int) b).1
    split <;> omega
  have e1 : lineHeld s b ((s.os.z o).ls.z l).o s.hs.n o l = keptV s.hs.n s.hs.z o l b := if_pos rfl
  have h1 := sumTo_ge (z := fun j => lineHeld s b ((s.os.z o).ls.z l).o s.hs.n o j) hl (fun j _ => nn o j)
  have h2 := sumTo_ge (z := fun i => sumTo (fun j => lineHeld s b ((s.os.z o).ls.z l).o s.hs.n i j) (s.os.z i).ls.n) ho (fun i _ => by
    have : ∀ k, 0 ≤ sumTo (fun j => lineHeld s b ((s.os.z o).ls.z l).o s.hs.n i j) k := fun k => by
      induction k with
      | zero => exact Int.le_refl _
      | succ k ih => simp only [sumTo]; have := nn i k; omega
    exact this _)
  omega
theorem HoldIn.there (h : HoldIn p s o l b) : heldAt s o l b ≤ (s.on.r b).z (lineGood s o l) ∧ (s.on.r b).z (lineGood s o l) ≤ 200 ∧ heldAt s o l b + availZ s b (lineGood s o l) ≤ (s.on.r b).z (lineGood s o l) := by
  have g := h.good
  have a := (goods_no (h.r.goods _ g.2)).2 b h.bn
  have k := held_ge h.r.fm h.on h.ln b
  rw [g.1] at k
  have ft := (fromTo_bd (s := s) (b := b) (g := (lineGood s o l : Int)) (n := s.ms.n) h.r.fm.moveN).1
  have nm := h.r.fm.sh.num b (by rw [h.r.fm.sh.n]; exact h.bn) (lineGood s o l) g.2
  unfold availZ at a ⊢
  unfold heldAt
  omega
end
def dropHs (h : Hs) (o l b : Int) : Hs := ⟨h.a, h.n - 1, h.c, dropZ h.z (dropI h.n h.z o l b)⟩
def pickS (s : St) (o l b : Nat) (n : Int) : St := setLine (setLine (setOut (setOn (withHolds s (dropHs s.hs o l b)) b (lineGood s o l) ((s.on.r b).z (lineGood s o l) - n)) (lineGood s o l) (s.so.z (lineGood s o l) + n)) o l 2 (((s.os.z o).ls.z l).b + n)) o l 3 (((s.os.z o).ls.z l).n + (heldAt s o l b - n))
section
variable {p : Pl} {s : St} {o l b : Nat} {n : Int}
theorem pickS_line (s : St) (o l b : Nat) (n : Int) (i j : Nat) : ((pickS s o l b n).os.z i).ls.z j = if i = o ∧ j = l then ⟨((s.os.z o).ls.z l).o, ((s.os.z o).ls.z l).l, ((s.os.z o).ls.z l).b + n, ((s.os.z o).ls.z l).n + (heldAt s o l b - n)⟩ else (s.os.z i).ls.z j := by
  unfold pickS
  rw [setLine_at, setLine_at]
  by_cases h : i = o ∧ j = l
  · rw [if_pos h, if_pos h, if_pos h]
    obtain ⟨rfl, rfl⟩ := h
    rfl
  · rw [if_neg h, if_neg h, if_neg h]
    rfl
theorem pickS_k (s : St) (o l b : Nat) (n : Int) (i : Nat) : ((pickS s o l b n).os.z i).k = (s.os.z i).k ∧ ((pickS s o l b n).os.z i).ls.n = (s.os.z i).ls.n := by
  unfold pickS
  rw [setLine_k, setLine_k, (setLine_n i).1, (setLine_n i).1]
  exact ⟨rfl, rfl⟩
theorem pickS_on (s : St) (o l b : Nat) (n : Int) (i : Nat) : ((pickS s o l b n).on.r i).n = (s.on.r i).n ∧ ∀ j, ((pickS s o l b n).on.r i).z j = if i = b ∧ j = lineGood s o l then (s.on.r i).z j - n else (s.on.r i).z j := by
  show (if i = b then setRw (s.on.r i) (lineGood s o l) _ else s.on.r i).n = _ ∧ ∀ j, (if i = b then setRw (s.on.r i) (lineGood s o l) _ else s.on.r i).z j = _
  by_cases h : i = b
  · subst h
    rw [if_pos rfl]
    refine ⟨rfl, fun j => ?_⟩
    show (if j = lineGood s o l then _ else (s.on.r i).z j) = _
    by_cases hj : j = lineGood s o l
    · rw [if_pos hj, if_pos ⟨rfl, hj⟩, hj]
    · rw [if_neg hj, if_neg (fun e => hj e.2)]
  · rw [if_neg h]
    exact ⟨rfl, fun j => by rw [if_neg (fun e => h e.1)]⟩
theorem HoldIn.drop (h : HoldIn p s o l b) : anyB (dropHs s.hs o l b).n (badH (dropHs s.hs o l b).z) = false ∧ ∀ x y z : Int, keptV (dropHs s.hs o l b).n (dropHs s.hs o l b).z x y z = if x = o ∧ y = l ∧ z = b then 0 else keptV s.hs.n s.hs.z x y z := by
  obtain ⟨q1, q2, q3⟩ := kept_pos h.r.fm.hold h.kp
  have e := (kept_at h.r.fm.hold q1 q2).2
  have e' : dropI s.hs.n s.hs.z o l b < s.hs.n := by rw [e]; exact q1
  refine ⟨drop_right h.r.fm.hold e', fun x y z => ?_⟩
  have k := drop_kept h.r.fm.hold e' x y z
  show keptV (s.hs.n - 1) (dropZ s.hs.z (dropI s.hs.n s.hs.z o l b)) x y z = _
  rw [k]
  have m := matchH_true q2
  by_cases c : x = o ∧ y = l ∧ z = b
  · have : matchH (s.hs.z (dropI s.hs.n s.hs.z o l b)) x y z = true := by rw [c.1, c.2.1, c.2.2]; exact q2
    rw [this, if_pos c]
    rfl
  · rw [if_neg c]
    cases hm : matchH (s.hs.z (dropI s.hs.n s.hs.z o l b)) x y z
    · rfl
    · exact absurd ⟨(matchH_true hm).1.symm.trans m.1, (matchH_true hm).2.1.symm.trans m.2.1, (matchH_true hm).2.2.symm.trans m.2.2⟩ c
theorem HoldIn.keptS (h : HoldIn p s o l b) (n : Int) (x y : Int) : Go.Proofs.Ytbcacebifpagpaf.keptS (pickS s o l b n).hs.z x y (pickS s o l b n).hs.n = Go.Proofs.Ytbcacebifpagpaf.keptS s.hs.z x y s.hs.n - if x = o ∧ y = l then heldAt s o l b else 0 := by
  have d := h.drop
  have nb6 := h.r.fm.sh.pl.nb6
  have hb := h.bn
  show Go.Proofs.Ytbcacebifpagpaf.keptS (dropHs s.hs o l b).z x y (dropHs s.hs o l b).n = _
  rw [← kept_eq _ x y _ d.1, ← kept_eq _ x y _ h.r.fm.hold]
  by_cases c : x = o ∧ y = l
  · rw [if_pos c]
    have e := sumTo_at (z := fun z => keptV s.hs.n s.hs.z x y z) (z' := fun z => keptV (dropHs s.hs o l b).n (dropHs s.hs o l b).z x y z) (m := b) (n := -heldAt s o l b) (k := 6) (by omega) (fun i hi => by
      rw [d.2]
      by_cases hi2 : i = b
      · rw [if_pos ⟨c.1, c.2, by omega⟩, if_pos hi2, hi2, c.1, c.2]
        unfold heldAt
        omega
      · rw [if_neg (fun e => hi2 (by omega)), if_neg hi2, Int.add_zero])
    rw [e]
    omega
  · rw [if_neg c, Int.sub_zero]
    exact sumTo_same fun i _ => by rw [d.2, if_neg (fun e => c ⟨e.1, e.2.1⟩)]
structure PickIn (p : Pl) (s : St) (o l b : Nat) (n : Int) : Prop where
  hd : HoldIn p s o l b
  n0 : 0 ≤ n
  nh : n ≤ heldAt s o l b
  om : s.so.z (lineGood s o l) + n ≤ 1048576
theorem PickIn.formed (h : PickIn p s o l b n) : Formed p (pickS s o l b n) := by
  have f := h.hd.r.fm
  have d := h.hd.drop
  have g := h.hd.good
  have th := h.hd.there
  have sm := h.hd.sum
  have bd := h.hd.bd
  have n0 := h.n0
  have nh := h.nh
  have om := h.om
  have rs : RightS p (pickS s o l b n).on := ⟨f.sh.pl, f.sh.n, fun i hi => (pickS_on s o l b n i).1.trans (f.sh.len i hi), fun i hi j hj => by
    rw [(pickS_on s o l b n i).2 j]
    have nm := f.sh.num i hi j hj
    by_cases c : i = b ∧ j = lineGood s o l
    · rw [if_pos c]
      obtain ⟨rfl, rfl⟩ := c
      omega
    · rw [if_neg c]; exact nm⟩
  refine ⟨rs, shelfE_mk (rightS f.sh0).1 rs, f.os4, f.ms8, fun i hi => by rw [(pickS_k s o l b n i).2]; exact f.lns i hi, fun i hi => by rw [(pickS_k s o l b n i).1]; exact f.kind i hi, fun i hi j hj => ?_, d.1, fun i hi => ?_, f.move, f.sin, f.son, f.sfn, f.sib, fun j hj => ?_, f.sfb⟩
  · have hj' : j < (s.os.z i).ls.n := by rw [← (pickS_k s o l b n i).2]; exact hj
    rw [pickS_line]
    by_cases c : i = o ∧ j = l
    · rw [if_pos c]
      obtain ⟨b1, b2, b3, b4⟩ := badLine_no (f.line o h.hd.on l h.hd.ln)
      unfold badLine
      rw [inB_mk (by dsimp only; omega), inB_mk (by dsimp only; omega), inB_mk (by dsimp only; omega), inB_mk (by dsimp only; omega)]
      rfl
    · rw [if_neg c]
      exact f.line i hi j hj'
  · have hx : anyB (pickS s o l b n).hs.n (badH (pickS s o l b n).hs.z) = false := d.1
    have e := (kept_at hx hi (matchH_self _)).1
    have fn := (fineH_true (right_fine hx i hi)).2.2.2
    have d2 : keptV (pickS s o l b n).hs.n (pickS s o l b n).hs.z ((pickS s o l b n).hs.z i).o ((pickS s o l b n).hs.z i).l ((pickS s o l b n).hs.z i).b = _ := d.2 _ _ _
    rw [d2] at e
    split at e
    · omega
    · obtain ⟨q1, q2, -⟩ := kept_pos f.hold (o := ((pickS s o l b n).hs.z i).o) (l := ((pickS s o l b n).hs.z i).l) (b := ((pickS s o l b n).hs.z i).b) (by omega)
      obtain ⟨m1, m2, m3⟩ := matchH_true q2
      obtain ⟨a1, a2, a3⟩ := homeless_no (f.home _ q1)
      rw [m1] at a1 a2
      rw [m2] at a2
      rw [m3] at a3
      refine homeless_mk a1 ⟨a2.1, ?_⟩ a3
      rw [(pickS_k s o l b n _).2]
      exact a2.2
  · have sb := f.sob j hj
    show 0 ≤ (if j = lineGood s o l then s.so.z (lineGood s o l) + n else s.so.z j) ∧ (if j = lineGood s o l then s.so.z (lineGood s o l) + n else s.so.z j) ≤ 1048576
    by_cases c : j = lineGood s o l
    · rw [if_pos c]
      rw [c] at sb
      omega
    · rw [if_neg c]; exact sb
theorem PickIn.held (h : PickIn p s o l b n) (c g : Nat) : heldTo (pickS s o l b n) c g (pickS s o l b n).hs.n = heldTo s c g s.hs.n - if c = b ∧ g = lineGood s o l then heldAt s o l b else 0 := by
  have f := h.hd.r.fm
  have fx := h.formed
  have d := h.hd.drop
  have gd := h.hd.good
  rw [heldTo_sum (c : Int) (g : Int) _ fx.home fx.hold, heldTo_sum (c : Int) (g : Int) _ f.home f.hold]
  have key : ∀ i j, lineHeld (pickS s o l b n) c g (pickS s o l b n).hs.n i j = lineHeld s c g s.hs.n i j + if i = o ∧ j = l then -(if c = b ∧ g = lineGood s o l then heldAt s o l b else 0) else 0 := fun i j => by
    unfold lineHeld
    have e : keptV (pickS s o l b n).hs.n (pickS s o l b n).hs.z (i : Int) (j : Int) (c : Int) = _ := d.2 i j c
    rw [e]
    have eg : (((pickS s o l b n).os.z i).ls.z j).o = ((s.os.z i).ls.z j).o := by
      rw [pickS_line]
      by_cases q : i = o ∧ j = l
      · rw [if_pos q, q.1, q.2]
      · rw [if_neg q]
    rw [eg]
    by_cases q : i = o ∧ j = l
    · rw [if_pos q]
      obtain ⟨rfl, rfl⟩ := q
      rw [gd.1]
      by_cases hg : g = lineGood s i j
      · subst hg
        rw [if_pos rfl, if_pos rfl]
        by_cases hc : c = b
        · subst hc
          rw [if_pos ⟨rfl, rfl, rfl⟩, if_pos ⟨rfl, rfl⟩]
          unfold heldAt
          omega
        · rw [if_neg (fun e => hc (by omega)), if_neg (fun e => hc e.1)]
          omega
      · rw [if_neg (fun e => hg (by omega)), if_neg (fun e => hg (by omega)), if_neg (fun e => hg e.2)]
        rfl
    · have e3 : (if (i : Int) = o ∧ (j : Int) = l ∧ (c : Int) = b then 0 else keptV s.hs.n s.hs.z (i : Int) (j : Int) (c : Int)) = keptV s.hs.n s.hs.z (i : Int) (j : Int) (c : Int) := if_neg (fun e => q ⟨by omega, by omega⟩)
      rw [if_neg q, e3, Int.add_zero]
  unfold heldSum
  have hn : (pickS s o l b n).os.n = s.os.n := rfl
  rw [hn]
  have := sumTo_at (z := fun i => sumTo (fun j => lineHeld s c g s.hs.n i j) (s.os.z i).ls.n) (z' := fun i => sumTo (fun j => lineHeld (pickS s o l b n) c g (pickS s o l b n).hs.n i j) ((pickS s o l b n).os.z i).ls.n) (m := o) (n := -(if c = b ∧ g = lineGood s o l then heldAt s o l b else 0)) (k := s.os.n) h.hd.on (fun i hi => by
    rw [(pickS_k s o l b n i).2]
    by_cases q : i = o
    · rw [if_pos q]
      subst q
      exact sumTo_at h.hd.ln fun j hj => by
        rw [key]
        by_cases q2 : j = l
        · rw [if_pos ⟨rfl, q2⟩, if_pos q2]
        · rw [if_neg (fun e => q2 e.2), if_neg q2]
    · rw [if_neg q, Int.add_zero]
      exact sumTo_same fun j hj => by rw [key, if_neg (fun e => q e.1), Int.add_zero])
  rw [this]
  omega
end
end Go.Proofs.Ytbcacebifpagpaf
namespace Go.Proofs.Ytbcacebifpagpaf
open Go.RowKit
set_option linter.unusedVariables false
structure RelK (A B7 : Nat) (W0 : World) (cur : St) (wk : World) : Prop where
  own : OwnS A wk cur
  box : Blk wk B7 31 7 (fun j => cur.cells.getD j default)
  bel : Below W0.heap.size W0 wk
  le : A ≤ wk.heap.size
theorem RelK.below {A B7 : Nat} {W0 wk wj : World} {cur : St} (h : RelK A B7 W0 cur wk) (hB : Below wk.heap.size wk wj) : RelK A B7 W0 cur wj :=
  ⟨h.own.below hB, h.box.below hB, h.bel.trans (hB.mono h.bel.size), Nat.le_trans h.le hB.size⟩
end Go.Proofs.Ytbcacebifpagpaf
namespace Go.Proofs.Ytbcacebifpagpaf
open Go.RowKit
set_option linter.unusedVariables false
def addT (x ln : Hd) (kept : Int) (g : Nat) : Hd := if ln.o = (g : Int) then ⟨x.o, x.l + kept, x.b + ln.n, x.n + ln.b⟩ else x
def lineT (s : St) (i g : Nat) : Nat → Hd → Hd
  | 0, x => x
  | j + 1, x => addT (lineT s i g j x) ((s.os.z i).ls.z j) (keptS s.hs.z i j s.hs.n) g
def ordT (s : St) (g : Nat) : Nat → Hd
  | 0 => ⟨sumTo (fun i => (s.on.r i).z g) s.on.n, 0, 0, 0⟩
  | i + 1 => lineT s i g (s.os.z i).ls.n (ordT s g i)
def totT (s : St) (g : Nat) : Hd := ordT s g s.os.n
def openN (s : St) : Nat → Nat
  | 0 => 0
  | i + 1 => openN s i + (if (s.os.z i).k = 2 then 0 else 1)
theorem openN_le (s : St) : ∀ k, openN s k ≤ k
  | 0 => Nat.le_refl _
  | k + 1 => by
    have := openN_le s k
    simp only [openN]
    split <;> omega
def TotLe (x : Hd) (B : Int) : Prop := (0 ≤ x.l ∧ x.l ≤ B) ∧ (0 ≤ x.b ∧ x.b ≤ B) ∧ 0 ≤ x.n ∧ x.n ≤ B
theorem addT_le {x ln : Hd} {kept B : Int} {g : Nat} (h : TotLe x B) (h1 : 0 ≤ kept ∧ kept ≤ 14400) (h2 : 0 ≤ ln.n ∧ ln.n ≤ 200) (h3 : 0 ≤ ln.b ∧ ln.b ≤ 200) : TotLe (addT x ln kept g) (B + 14400) := by
  unfold TotLe at h ⊢
  unfold addT
  split
  · show (0 ≤ x.l + kept ∧ x.l + kept ≤ B + 14400) ∧ (0 ≤ x.b + ln.n ∧ x.b + ln.n ≤ B + 14400) ∧ 0 ≤ x.n + ln.b ∧ x.n + ln.b ≤ B + 14400
    omega
  · omega
theorem lineT_le {p : Pl} {s : St} (f : Formed p s) {i g : Nat} (hi : i < s.os.n) {x : Hd} {B : Int} (h : TotLe x B) : ∀ {j : Nat}, j ≤ (s.os.z i).ls.n → TotLe (lineT s i g j x) (B + 14400 * j)
  | 0, _ => by rw [show B + 14400 * ((0 : Nat) : Int) = B by omega]; exact h
  | j + 1, hj => by
    have ih := lineT_le f (g := g) hi h (j := j) (by omega)
    obtain ⟨-, ⟨l1, l2⟩, ⟨b1, b2⟩, n1, n2⟩ := badLine_no (f.line i hi j (by omega))
    have k := keptS_bd (z := s.hs.z) i j s.hs.n fun q hq => (fineH_true (right_fine f.hold q hq)).2.2.2
    have h72 := f.hs72
    have := addT_le (g := g) ih (kept := keptS s.hs.z i j s.hs.n) (ln := (s.os.z i).ls.z j) (by omega) (by omega) (by omega)
    rw [show B + 14400 * ((j + 1 : Nat) : Int) = B + 14400 * (j : Int) + 14400 by omega]
    exact this
theorem ordT_le {p : Pl} {s : St} (f : Formed p s) {g : Nat} : ∀ {i : Nat}, i ≤ s.os.n → TotLe (ordT s g i) (43200 * i)
  | 0, _ => ⟨⟨Int.le_refl _, Int.le_refl _⟩, ⟨Int.le_refl _, Int.le_refl _⟩, Int.le_refl _, Int.le_refl _⟩
  | i + 1, hi => by
    have ih := ordT_le f (g := g) (i := i) (by omega)
    have a := lineT_le f (i := i) (g := g) (by omega) ih (j := (s.os.z i).ls.n) (Nat.le_refl _)
    have l3 := (f.lns i (by omega)).2
    unfold TotLe at a ⊢
    simp only [ordT]
    omega
end Go.Proofs.Ytbcacebifpagpaf
namespace Go.Proofs.Ytbcacebifpagpaf
open Go.RowKit
set_option linter.unusedVariables false
def vKind3 (o : Oper) : Bool := vKind2 o || match o.op with
  | .extract .. => true
  | .build .. => true
  | .field .. => true
  | .index .. => true
  | .unOp .. => true
  | _ => false
theorem vKind3_spec {P : Program} {o : Oper} {ρ : Operand → Value} {w w' : World} {n : Next} (hv : vKind3 o = true) (h : (execOp ρ o).run P w = .ok n w') : ∃ v, n = .value v := by
  unfold vKind3 at hv
  rw [Bool.or_eq_true] at hv
  rcases hv with hv | hv
  · exact vKind2_spec hv h
  · unfold execOp at h
    split at hv
    all_goals first
      | (cases hv; done)
      | (rename_i hx; rw [hx] at h; exact valued h)
theorem wpAnyT_firsts3 {P : Program} {l : List Oper} {Q : Exit → Act → World → Prop} {S : World → Prop} {T : Nat → Bool} {N : Nat} {K : Act → Prop} {w : World} {fuel : Nat} (hs : Region.noSelect l.toArray = true) (hS : S w) (hQ : ∀ c a a' w, Q (.panic c) a w → Q (.panic c) a' w) :
    ∀ (ks : List Nat) (os : List Oper) (listed : Array Bool) (a : Act), firstsB l.toArray ks listed = true → (∀ k ∈ ks, T k = false ∧ ∀ j, T j = true → reach l.toArray N j k = true) → Closed l.toArray listed → ks.map (fun k => l[k]?) = os.map some → (os.all vKind3) = true →
      wpQuiet P l.toArray S K os a → (∀ a, K a → Closed l.toArray (mark listed ks) → wpAnyT P l.toArray Q S T fuel (mark listed ks) a w) → wpAnyT P l.toArray Q S T (ks.length + fuel) listed a w
  | [], [], listed, a, _, _, hc, _, _, h, hK => by rw [List.length_nil, Nat.zero_add]; exact hK a h hc
  | k :: ks, o :: os, listed, a, hB, hTk, hc, hk, hv, h, hK => by
    simp only [List.map_cons, List.cons.injEq] at hk
    simp only [List.all_cons, Bool.and_eq_true] at hv
    simp only [firstsB, Bool.and_eq_true] at hB
    rw [List.length_cons, Nat.add_right_comm]
    have hready : k ∈ Region.ready .any l.toArray listed := by simpa using hB.1.1
    have go : ∀ v, YieldsIf P l.toArray S o v a → wpAnyT P l.toArray Q S T (ks.length + fuel) (listed.setIfInBounds k true) (a.put o.dst v) w → wpAnyT P l.toArray Q S T (ks.length + fuel + 1) listed a w :=
      fun v hy h' => wpAnyT_first (N := N) (by simpa using hk.1) (Region.noSelect_spec hs) (fun c a w hq => hQ _ _ _ _ hq) (hTk k (by simp)).2 (hTk k (by simp)).1 _ listed a w (Region.free_spec (by simpa using hk.1) hB.1.2) hready hc hy hS h'
    have again := fun (a : Act) (hq : wpQuiet P l.toArray S K os a) => wpAnyT_firsts3 (N := N) (T := T) (fuel := fuel) hs hS hQ ks os _ a hB.2 (fun k' hk' => hTk k' (by simp [hk'])) (hc.set hready) hk.2 hv.2 hq hK
    unfold wpQuiet at h
    split at h
    · rename_i hw
      obtain ⟨v, h1, h2⟩ := h
      refine go v (.inl ⟨hw, fun w' hS => ?_⟩) (again _ h2)
      have := h1 w' hS
      unfold Oper.quietAt at this
      cases hr : (execOp a.eval o).run P w' with
      | ok n w2 =>
        rw [hr] at this
        obtain ⟨u, rfl⟩ := vKind3_spec hv.1 hr
        simp only [Oper.quietUpon] at this
        rw [this.1, this.2]
      | halt x w2 => rw [hr] at this; exact this.elim
    · rename_i hw
      exact go undef (.inr ⟨by simpa using hw, rfl⟩) (again _ h)
  | [], _ :: _, _, _, _, _, _, hk, _, _, _ => by simp at hk
  | _ :: _, [], _, _, _, _, _, hk, _, _, _ => by simp at hk
def laterOf (n : Nat) (listed : Array Bool) : List Nat := (List.range n).filter (fun i => !listed.getD i true)
def phB (ops : Array Oper) : List (Bool × List Nat × Option Nat) → Array Bool → Bool
  | [], listed => Region.ready .any ops listed == []
  | (t, ks, c) :: r, listed => firstsB ops ks listed && ks.all (fun k => decide (k < ops.size)) && ks.all (fun k => !(laterOf ops.size (mark listed ks)).contains k) && (!t || ks.all (fun k => (laterOf ops.size (mark listed ks)).all (fun j => reach ops ops.size j k))) &&
      (match c with | some c => (Region.ready .any ops (mark listed ks) == [c]) && phB ops r ((mark listed ks).setIfInBounds c true) | none => phB ops r (mark listed ks))
def phN : List (Bool × List Nat × Option Nat) → Nat
  | [] => 0
  | (_, ks, some _) :: r => ks.length + (phN r + 1)
  | (_, ks, none) :: r => ks.length + phN r
def wpPh (P : Program) (l : List Oper) (Q : Exit → Act → World → Prop) : List (Bool × List Nat × Option Nat) → Act → World → Prop
  | [], a, w => Q .normal a w
  | (t, ks, some c) :: r, a, w => ∃ S : World → Prop, S w ∧ (t = false → ∀ w', S w') ∧ wpQuiet P l.toArray S (fun a1 => wpOp P l.toArray Q c (fun a2 w2 => wpPh P l Q r a2 w2) a1 w) (picks l ks) a
  | (t, ks, none) :: r, a, w => ∃ S : World → Prop, S w ∧ (t = false → ∀ w', S w') ∧ wpQuiet P l.toArray S (fun a1 => wpPh P l Q r a1 w) (picks l ks) a
theorem wpAnyT_of_any {P : Program} {ops : Array Oper} {Q : Exit → Act → World → Prop} {S : World → Prop} {T : Nat → Bool} : ∀ (fuel : Nat) (listed : Array Bool) (a : Act) (w : World), (∀ i, listed.getD i true = false → i < ops.size → T i = true ∨ ∀ w, S w) → wpAny P .any ops Q fuel listed a w → wpAnyT P ops Q S T fuel listed a w
  | 0, _, _, _, _, h => h
  | fuel + 1, listed, a, w, hT, h => ⟨h.1, fun i hi => wpOp_mono (fun a' w' h' => ⟨fun hTi => by
      obtain ⟨h1, o, h2, _⟩ := mem_ready.1 hi
      rcases hT i h1 (Array.getElem?_eq_some_iff.1 h2).1 with e | e
      · rw [e] at hTi; cases hTi
      · exact e w', wpAnyT_of_any fuel _ a' w' (fun j hj hjs => hT j (by
      by_cases e : i = j
      · subst e
        exact (mem_ready.1 hi).1
      · rw [getD_set_ne true e] at hj; exact hj) hjs) h'⟩) (h.2 i hi)⟩
theorem wpAny_ph {P : Program} {l : List Oper} {Q : Exit → Act → World → Prop} (hs : Region.noSelect l.toArray = true) (hQ : ∀ c a a' w, Q (.panic c) a w → Q (.panic c) a' w) : ∀ (ph : List (Bool × List Nat × Option Nat)) (listed : Array Bool) (a : Act) (w : World),
      phB l.toArray ph listed = true → (ph.all (fun x => (picks l x.2.1).all vKind3)) = true → Closed l.toArray listed → wpPh P l Q ph a w → wpAny P .any l.toArray Q (phN ph) listed a w
  | [], listed, a, w, hB, _, _, h => ⟨by simpa [phB] using hB, h⟩
  | (t, ks, c) :: r, listed, a, w, hB, hv, hcl, h => by
    simp only [phB, Bool.and_eq_true] at hB
    obtain ⟨⟨⟨⟨b1, b2⟩, b3⟩, b4⟩, b5⟩ := hB
    simp only [List.all_cons, Bool.and_eq_true] at hv
    have key := fun (S : World → Prop) (K : Act → Prop) (f : Nat) (hS : S w) (hST : t = false → ∀ w', S w') (hq : wpQuiet P l.toArray S K (picks l ks) a) (hK : ∀ a1, K a1 → Closed l.toArray (mark listed ks) → wpAny P .any l.toArray Q f (mark listed ks) a1 w) => wpAny_of_T _ _ _ _ (wpAnyT_firsts3 (P := P) (Q := Q) (S := S) (T := fun i => t && (laterOf l.toArray.size (mark listed ks)).contains i) (N := l.toArray.size) (fuel := f) (w := w) hs hS hQ ks (picks l ks) listed a b1
      (fun k hk => ⟨by
        have := List.all_eq_true.1 b3 k hk
        rw [Bool.not_eq_true'] at this
        rw [this, Bool.and_false], fun j hj => by
        rw [Bool.and_eq_true] at hj
        have b4' := b4
        rw [hj.1] at b4'
        simp only [Bool.not_true, Bool.false_or] at b4'
        exact List.all_eq_true.1 (List.all_eq_true.1 b4' k hk) j (by simpa using hj.2)⟩)
      hcl (picks_ok (by simpa using b2)) hv.1 hq (fun a1 h1 hcl1 => by
        refine wpAnyT_of_any _ _ _ _ (fun i hi his => ?_) (hK a1 h1 hcl1)
        cases t with
        | false => exact Or.inr (hST rfl)
        | true =>
          left
          have : i ∈ laterOf l.toArray.size (mark listed ks) := by
            unfold laterOf
            rw [List.mem_filter, List.mem_range]
            exact ⟨his, by rw [hi]; rfl⟩
          simpa using this))
    cases c with
    | none =>
      obtain ⟨S, hS, hST, hq⟩ := h
      exact key S _ (phN r) hS hST hq fun a1 h1 hcl1 => wpAny_ph hs hQ r _ a1 w b5 hv.2 hcl1 h1
    | some c =>
      obtain ⟨S, hS, hST, hq⟩ := h
      simp only [Bool.and_eq_true] at b5
      have hready : Region.ready .any l.toArray (mark listed ks) = [c] := by simpa using b5.1
      refine key S _ (phN r + 1) hS hST hq fun a1 h1 hcl1 => ?_
      refine ⟨fun e => (by rw [hready] at e; cases e), fun i hi => ?_⟩
      have hic : i = c := by rw [hready] at hi; simpa using hi
      subst hic
      exact wpOp_mono (fun a2 w2 h2 => wpAny_ph hs hQ r _ a2 w2 b5.2 hv.2 (hcl1.set hi) h2) h1
theorem wp_region_ph {P : Program} {l : List Oper} {Q : Exit → Act → World → Prop} {id : Nat} {a : Act} {w : World} (ph : List (Bool × List Nat × Option Nat))
    (hm : P.follows .mixedOrders = true) (hs : Region.noSelect l.toArray = true) (hB : phB l.toArray ph (Array.replicate l.length false) = true) (hv : (ph.all (fun x => (picks l x.2.1).all vKind3)) = true) (hl : phN ph = l.length)
    (h : wpPh P l (NoPanic Q) ph a w.drew) : (Code.region id l.toArray true).wp P Q a w := by
  refine wp_region_noPanic (wp_region_any hm ?_)
  have := wpAny_ph (Q := NoPanic Q) hs (fun c a a' w h => (h : False).elim) ph _ a w.drew hB hv (Closed.none _ _) h
  rw [hl] at this
  simpa using this
theorem wpOp_one {P : Program} {l : List Oper} {Q : Exit → Act → World → Prop} {K : Act → World → Prop} (k : Nat) {o : Oper} {a : Act} {w : World} (hk : l[k]? = some o)
    (h : wpList P l.toArray (Exit.then K Q) [o] a w) : wpOp P l.toArray Q k K a w := wpOp_list k hk h
end Go.Proofs.Ytbcacebifpagpaf
namespace Go.Proofs.Ytbcacebifpagpaf
open Go.RowKit Go.Shelf
set_option linter.unusedVariables false
theorem Blk.setF {w : World} {g : Nat} {e : TypeId} {n : Nat} {c : Nat → Hd} (h : Blk w g e n (hc c)) (i f : Nat) (hf : f < 4) (v : Int) : Blk (w.setCell ⟨g, i * 4 + f, none⟩ (.int .i64 v)) g e n (hc fun j => if j = i then setHd (c j) f v else c j) := by
  refine (h.set (i * 4 + f) _).congr fun q hq => ?_
  unfold hc
  dsimp only
  by_cases hi : q / 4 = i
  · rw [if_pos hi]
    have hm4 : q % 4 = 0 ∨ q % 4 = 1 ∨ q % 4 = 2 ∨ q % 4 = 3 := by omega
    have hf4 : f = 0 ∨ f = 1 ∨ f = 2 ∨ f = 3 := by omega
    by_cases hq' : q = i * 4 + f
    · rw [if_pos hq']
      have : q % 4 = f := by omega
      rw [this]
      rcases hf4 with rfl | rfl | rfl | rfl <;> rfl
    · rw [if_neg hq']
      rcases hf4 with rfl | rfl | rfl | rfl <;> rcases hm4 with hm | hm | hm | hm <;> first | (exfalso; omega) | (rw [hm]; rfl)
  · rw [if_neg hi, if_neg (by omega)]
theorem Blk.cong4 {w : World} {g : Nat} {e : TypeId} {n : Nat} {c c' : Nat → Hd} (h : Blk w g e (n * 4) (hc c)) (hz : ∀ j, j < n → c j = c' j) : Blk w g e (n * 4) (hc c') := h.congr fun q hq => by
  unfold hc
  rw [hz (q / 4) (by omega)]
theorem Sum_rightW (p : Pl) (s : St) (g : Nat) (w : World) (hp : p.At w) (hs : s.At w) (h : RightT p s) (hg : g < p.ns) :
    Calls Try.prog 29 #[.agg #[.slice p.ab p.nb p.cb, .slice p.sa p.ns p.cs], .slice s.on.a s.on.n s.on.c, .int .i64 (g : Int)] w fun e w' => e = .returned (.tuple #[.int .i64 (sumTo (fun i => (s.on.r i).z g) s.on.n), .int .i64 0]) ∧ Below w.heap.size w w' := by
  have k := Sum_any p s.on g w hp hs.on
  rw [(sum_ok h.fm.sh0 hg).1, (sum_ok h.fm.sh0 hg).2] at k
  exact k
theorem infoTot : (Try.prog.info? 50).map (fun i => (i.zero, i.size, i.bytes)) = some (some (.agg #[.int .i64 0, .int .i64 0, .int .i64 0, .int .i64 0]), 4, 32) := by kernel_rfl
theorem made4 {j n : Nat} (hj : j < n * 4) : (madeCells (Value.agg #[.int .i64 0, .int .i64 0, .int .i64 0, .int .i64 0]).cells (n * 4)).toList.getD j default = hc (fun _ => hd0) j := by
  have h4 : j % 4 < 4 := by omega
  unfold hc hd0
  rw [show (Value.agg #[.int .i64 0, .int .i64 0, .int .i64 0, .int .i64 0]).cells = #[.int .i64 0, .int .i64 0, .int .i64 0, .int .i64 0] from rfl]
  simp [madeCells, hj]
  generalize j % 4 = k at h4
  match k, h4 with
  | 0, _ => rfl
  | 1, _ => rfl
  | 2, _ => rfl
  | 3, _ => rfl
theorem addr_addT (g q j : Nat) : (⟨g, q, none⟩ : Addr).add j = ⟨g, q + j, none⟩ := by
  unfold Addr.add
  split <;> simp_all
theorem news4T (w : World) (Z : Hd) (e : TypeId) : ∀ j u, (hdCells Z)[j]? = some u → (w.alloc (.cells #[.int .i64 Z.o, .int .i64 Z.l, .int .i64 Z.b, .int .i64 Z.n] e)).cell? ((⟨w.heap.size, 0, none⟩ : Addr).add j) = some u := by
  intro j u hj
  rw [addr_addT, Nat.zero_add]
  have K := Blk.new w #[.int .i64 Z.o, .int .i64 Z.l, .int .i64 Z.b, .int .i64 Z.n] e
  have hl : j < 4 := (List.getElem?_eq_some_iff.1 hj).1
  rw [K.cell (j := j) hl, ← hj]
  match j, hl with
  | 0, _ => rfl
  | 1, _ => rfl
  | 2, _ => rfl
  | 3, _ => rfl
end Go.Proofs.Ytbcacebifpagpaf
namespace Go.Proofs.Ytbcacebifpagpaf
open Go.RowKit Go.Shelf Go.Sort
set_option linter.unusedVariables false
theorem Kept_rightW (s : Hs) (o l : Int) (w : World) (hs : s.At w) (hr : anyB s.n (badH s.z) = false) :
    Calls Try.prog 30 #[.slice s.a s.n s.c, .int .i64 o, .int .i64 l] w fun e w' => e = .returned (.tuple #[.int .i64 (keptS s.z o l s.n), .int .i64 0]) ∧ Below w.heap.size w w' := by
  have h := Kept_any s o l w hs
  have e : checkH s.n s.z = 0 := checkH_right hr
  rw [if_pos e, e] at h
  exact h
end Go.Proofs.Ytbcacebifpagpaf

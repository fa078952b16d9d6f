/- What the document asks of states: summed. -/
import Derived.Test.YtjiodlbblmbibacRS1
import Derived.Test.YtjiodlbblmbibacSW7
import Derived.Test.YtjiodlbblmbibacHW4
import Derived.Test.YtjiodlbblmbibacR3
namespace Go.Proofs.Ytjiodlbblmbibac
open Go.RowKit Go.Shelf Go.Sort
set_option linter.unusedVariables false

def summedB (p : Pl) (s : St) : Bool := !(wrongGoodsB p s || wrongOrdersB s)
theorem sB_good {p : Pl} {s : St} {g : Nat} (hg : g < p.ns) (h : wrongGood p s g = true) : summedB p s = false := by
  have : wrongGoodsB p s = true := anyB_yes hg h
  simp [summedB, this]
theorem sB_order {p : Pl} {s : St} {i : Nat} (hi : i < s.os.n) (h : wrongOrder s i = true) : summedB p s = false := by
  have : wrongOrdersB s = true := anyB_yes hi h
  simp [summedB, this]
theorem sB_yes {p : Pl} {s : St} (h1 : ∀ g, g < p.ns → wrongGood p s g = false) (h2 : ∀ i, i < s.os.n → wrongOrder s i = false) : summedB p s = true := by
  have e1 : wrongGoodsB p s = false := anyB_no h1
  have e2 : wrongOrdersB s = false := anyB_no h2
  simp [summedB, e1, e2]
theorem wg_sum {p : Pl} {s : St} {g : Nat} (h : ¬ sumTo (fun i => (s.on.r i).z g) s.on.n = s.si.z g - s.so.z g + s.sf.z g) : wrongGood p s g = true := by
  rw [wrongGood_eq]
  have : (sumTo (fun i => (s.on.r i).z g) s.on.n == s.si.z g - s.so.z g + s.sf.z g) = false := by simpa using h
  rw [this]; rfl
theorem wg_bound {p : Pl} {s : St} {g b : Nat} (hb : b < p.nb) (h : (s.on.r b).z g < heldTo s b g s.hs.n + fromTo s b g s.ms.n) : wrongGood p s g = true := by
  rw [wrongGood_eq, anyB_yes hb (decide_eq_true (by unfold availZ; omega)), Bool.or_true]
theorem wg_no {p : Pl} {s : St} {g : Nat} (h : sumTo (fun i => (s.on.r i).z g) s.on.n = s.si.z g - s.so.z g + s.sf.z g) (h2 : ∀ b, b < p.nb → decide ((s.on.r b).z g < heldTo s b g s.hs.n + fromTo s b g s.ms.n) = false) : wrongGood p s g = false := by
  rw [wrongGood_eq, h, anyB_no fun b hb => ?_]
  · simp
  · have := of_decide_eq_false (h2 b hb)
    exact decide_eq_false (by unfold availZ; omega)
def noLack (ls : Nat → Hd) (n : Nat) : Bool := !anyB n (fun j => lacksL (ls j))
theorem noLack_succ (ls : Nat → Hd) (n : Nat) : noLack ls (n + 1) = (noLack ls n && ((ls n).b == (ls n).l)) := by
  unfold noLack
  rw [anyB_succ]
  simp [lacksL]
theorem noLack_step {ls : Nat → Hd} {n : Nat} {b c : Bool} (h : noLack ls n = b) (h2 : ((ls n).b == (ls n).l) = c) : noLack ls (n + 1) = (b && c) := by rw [noLack_succ, h, h2]
theorem all_succ3 {k : Nat} {f : Nat → Bool} {b : Bool} (h : ∀ j, j < k → f j = b) (hk : f k = b) : ∀ j, j < k + 1 → f j = b := fun j hj => by
  by_cases hjk : j = k
  · rw [hjk]; exact hk
  · exact h j (by omega)
theorem wL0 {x : Hd} {kept : Int} (h1 : 0 ≤ x.b ∧ x.b ≤ 200) (h2 : 0 ≤ x.n ∧ x.n ≤ 200) (h3 : 0 ≤ kept ∧ kept ≤ 14400) : wrongL 0 x kept = !(x.b + x.n + kept == 0) := by
  unfold wrongL
  rw [if_pos rfl, Bool.eq_iff_iff]
  simp only [Bool.or_eq_true, Bool.not_eq_true', beq_eq_false_iff_ne, ne_eq]
  omega
theorem wL1 {x : Hd} {kept : Int} : wrongL 1 x kept = !(x.b + x.n + kept == x.l) := by
  unfold wrongL
  rw [if_neg (by decide), if_neg (by decide)]
theorem wL2 {x : Hd} {kept : Int} : wrongL 2 x kept = (!(x.b + x.n + kept == x.l) || !(kept == 0)) := by
  unfold wrongL
  rw [if_neg (by decide), if_pos rfl, Bool.eq_iff_iff]
  simp only [Bool.or_eq_true, Bool.not_eq_true', beq_eq_false_iff_ne, ne_eq]
  omega

theorem below_of_regrown {W w' : World} (h : ∃ p : Regrown, w' = grow (redrawn W p.d) p.os) : Below W.heap.size W w' := by
  obtain ⟨p, rfl⟩ := h
  exact below_regrown _ _ _
/-- Four numbers stored into a block of the call's own. -/
theorem line_stored {A w : World} {B : Nat} {e : TypeId} {f : Nat → Value} (hY : Blk w B e 4 f) (hX : Below A.heap.size A w) (hB : A.heap.size ≤ B) (x : Hd) :
    ∃ W, (((w.setCell ⟨B, 0, none⟩ (.int .i64 x.o)).setCell ⟨B, 1, none⟩ (.int .i64 x.l)).setCell ⟨B, 2, none⟩ (.int .i64 x.b)).setCell ⟨B, 3, none⟩ (.int .i64 x.n) = W ∧ Below A.heap.size A W ∧
      Blk W B e 4 (fun j => (#[.int .i64 x.o, .int .i64 x.l, .int .i64 x.b, .int .i64 x.n] : Array Value).getD j default) :=
  ⟨_, rfl, (((hX.setCell (p := ⟨B, 0, none⟩) hB _).setCell (p := ⟨B, 1, none⟩) hB _).setCell (p := ⟨B, 2, none⟩) hB _).setCell (p := ⟨B, 3, none⟩) hB _,
    ((((hY.set 0 _).set 1 _).set 2 _).set 3 _).congr (fun j hj => by match j, hj with | 0, _ => rfl | 1, _ => rfl | 2, _ => rfl | 3, _ => rfl)⟩

set_option maxRecDepth 100000 in
set_option maxHeartbeats 4000000 in
theorem summed_any (p : Pl) (s : St) (w : World) (hp : p.At w) (hs : s.At w) (f : Formed p s) :
    Calls Try.prog 99 #[p.val, s.val] w fun e w' => e = .returned (.bool (summedB p s)) ∧ Below w.heap.size w w' := by
  obtain ⟨W0, hW, hWB, X0⟩ : ∃ W, ((w.alloc (.cells #[.slice p.ab p.nb p.cb, .slice p.sa p.ns p.cs] 25)).alloc (.cells s.cells 31)) = W ∧ Below w.heap.size w W ∧ Boxes W w.heap.size (w.heap.size + 1) p s := ⟨_, rfl, two_below _ _ _, boxes_new w p s _ _⟩
  have HC : Hid (∀ wk, Below W0.heap.size W0 wk → Boxes wk w.heap.size (w.heap.size + 1) p s ∧ p.At wk ∧ s.At wk ∧ Below w.heap.size w wk) := fun wk h => ⟨X0.below h, (hp.below hWB).below h, (hs.below hWB).below h, hWB.trans (h.mono hWB.size)⟩
  have HW : Hid ((w.alloc (.cells #[.slice p.ab p.nb p.cb, .slice p.sa p.ns p.cs] 25)).alloc (.cells #[.slice s.on.a s.on.n s.on.c, .slice s.os.a s.os.n s.os.c, .slice s.hs.a s.hs.n s.hs.c, .slice s.ms.a s.ms.n s.ms.c, .slice s.si.a s.si.n s.si.c, .slice s.so.a s.so.n s.so.c, .slice s.sf.a s.sf.n s.sf.c] 31) = W0) := hW
  have leb := hp.leb
  have capb := hp.capb
  have les := hp.les
  have caps := hp.caps
  have ole := hs.os.le
  have ocap := hs.os.cap
  unfold maxLen at capb caps ocap
  have os4 := f.os4
  have h72 := f.hs72
  have ms8 := f.ms8
  have ns3 := f.sh.pl.ns3
  have nb6 := f.sh.pl.nb6
  have HF : Hid (Formed p s) := f
  clear hW X0 hp hs f
  unfold Pl.val St.val
  go_enter Try.func99, Try.ntmps99
  go_wp2_with fail
  rw [HW.out]
  go_loopw [5] (fun i wk => ∃ k : Nat, k ≤ p.ns ∧ i = .int .i64 k ∧ (∀ j, j < k → wrongGood p s j = false) ∧ Below W0.heap.size W0 wk) (fun i _ => p.ns - (intOf i).toNat)
  case atStart => exact ⟨0, Nat.zero_le _, rfl, fun j hj => absurd hj (Nat.not_lt_zero _), Below.refl _ _⟩
  case round =>
    obtain ⟨g, hg, rfl, hno, hB⟩ := hrel
    have HN : Hid (∀ j, j < g → wrongGood p s j = false) := hno
    clear hno
    obtain ⟨X, hpk, hsk, hBw⟩ := HC.out wr hB
    obtain ⟨⟨l1, d0, d1⟩, l2, c0, c1, c2, c3, c4, c5, c6⟩ := X
    by_cases hlt : g < p.ns
    · have qg : (0 : Int) ≤ (g : Int) := by omega
      have F := HF.out
      obtain ⟨b1, o1, e1, g1, z1⟩ := hsk.si.ints g (by rw [F.sin]; exact hlt)
      obtain ⟨b2, o2, e2, g2, z2⟩ := hsk.so.ints g (by rw [F.son]; exact hlt)
      obtain ⟨b3, o3, e3, g3, z3⟩ := hsk.sf.ints g (by rw [F.sfn]; exact hlt)
      have v1 := hsk.si.le
      have v2 := hsk.so.le
      have v3 := hsk.sf.le
      have v4 := hsk.si.cap
      have v5 := hsk.so.cap
      have v6 := hsk.sf.cap
      have u1 := F.sib g hlt
      have u2 := F.sob g hlt
      have u3 := F.sfb g hlt
      unfold maxLen at v4 v5 v6
      have HON : Hid (s.on.At wr) := hsk.on
      rw [e1, F.sin] at c4
      rw [e2, F.son] at c5
      rw [e3, F.sfn] at c6
      rw [F.sin] at v1
      rw [F.son] at v2
      rw [F.sfn] at v3
      have r0 : ∀ d os, (grow (redrawn wr d) os).cell? ⟨w.heap.size + 1, 0, none⟩ = some (.slice s.on.a s.on.n s.on.c) := fun d os => cell_regrown c0 d os
      have r4 : ∀ d os, (grow (redrawn wr d) os).cell? ⟨w.heap.size + 1, 4, none⟩ = some (.slice (some ⟨b1, o1, none⟩) p.ns s.si.c) := fun d os => cell_regrown c4 d os
      have r5 : ∀ d os, (grow (redrawn wr d) os).cell? ⟨w.heap.size + 1, 5, none⟩ = some (.slice (some ⟨b2, o2, none⟩) p.ns s.so.c) := fun d os => cell_regrown c5 d os
      have r6 : ∀ d os, (grow (redrawn wr d) os).cell? ⟨w.heap.size + 1, 6, none⟩ = some (.slice (some ⟨b3, o3, none⟩) p.ns s.sf.c) := fun d os => cell_regrown c6 d os
      have r7 : ∀ d os, (grow (redrawn wr d) os).cell? ⟨b1, o1 + g, none⟩ = some (.int .i64 (s.si.z g)) := fun d os => cell_regrown z1 d os
      have r8 : ∀ d os, (grow (redrawn wr d) os).cell? ⟨b2, o2 + g, none⟩ = some (.int .i64 (s.so.z g)) := fun d os => cell_regrown z2 d os
      have r9 : ∀ d os, (grow (redrawn wr d) os).cell? ⟨b3, o3 + g, none⟩ = some (.int .i64 (s.sf.z g)) := fun d os => cell_regrown z3 d os
      have HT1 : Hid (¬ sumTo (fun i => (s.on.r i).z g) s.on.n = s.si.z g - s.so.z g + s.sf.z g → summedB p s = false) := fun h => sB_good hlt (wg_sum h)
      have HT2 : Hid (∀ b, b < p.nb → (s.on.r b).z g < heldTo s b g s.hs.n + fromTo s b g s.ms.n → summedB p s = false) := fun b hb h => sB_good hlt (wg_bound hb h)
      have HT3 : Hid (sumTo (fun i => (s.on.r i).z g) s.on.n = s.si.z g - s.so.z g + s.sf.z g → (∀ b, b < p.nb → decide ((s.on.r b).z g < heldTo s b g s.hs.n + fromTo s b g s.ms.n) = false) → wrongGood p s g = false) := fun h h2 => wg_no h h2
      have hsum : Hid (∀ wk, s.on.At wk → Calls Try.prog 120 #[s.on.val, .int .i64 g] wk fun e w' => e = .returned (.int .i64 (sumTo (fun i => (s.on.r i).z g) s.on.n)) ∧ Below wk.heap.size wk w') := fun wk h => SumOf_any p s.on g wk h F.sh hlt
      unfold Sh.val at hsum
      clear e1 e2 e3 hsk hpk c0 c1 c2 c3 c4 c5 c6 z1 z2 z3 d0 F
      generalize sumTo (fun i => (s.on.r i).z g) s.on.n = SM at *
      generalize s.si.z g = I1 at *
      generalize s.so.z g = I2 at *
      generalize s.sf.z g = I3 at *
      go_wp2_with fail
      refine wp_region_quiet_below (by kernel_rfl) (by kernel_rfl) ?_
      repeat (go_big_quiet_step ((go_at_call 120; exact Calls.regrown_of (hsum.out _ (HON.out.below (below_regrown _ _ _))))))
      refine wpQuiet_nil ?_
      intro _ hw'
      obtain ⟨⟨dq, osq⟩, hw''⟩ := hw'
      subst hw''
      have hB1 := hB.trans ((below_regrown wr dq osq).mono hB.size)
      clear r0 r4 r5 r6 r7 r8 r9 HON hsum hB hBw l1 l2 d1 g1 g2 g3 v1 v2 v3 v4 v5 v6
      generalize grow (redrawn wr dq) osq = wz at *
      obtain ⟨X, hpk, hsk, hBw⟩ := HC.out wz hB1
      obtain ⟨⟨l1, d0, d1⟩, l2, c0, c1, c2, c3, c4, c5, c6⟩ := X
      by_cases heq : SM = I1 - I2 + I3
      · have he : (SM != I1 - I2 + I3) = false := by simp [heq]
        have HEQ : Hid (SM = I1 - I2 + I3) := heq
        rw [he]
        clear heq he hpk hsk c0 c1 c2 c3 c4 c5 c6 hBw
        go_wp2_with fail
        clear d0 d1 l1 l2
        go_loopw [6] (fun i wk => ∃ k : Nat, k ≤ p.nb ∧ i = .int .i64 k ∧ (∀ b, b < k → decide ((s.on.r b).z g < heldTo s b g s.hs.n + fromTo s b g s.ms.n) = false) ∧ Below W0.heap.size W0 wk) (fun i _ => p.nb - (intOf i).toNat)
        case atStart => exact ⟨0, Nat.zero_le _, rfl, fun j hj => absurd hj (Nat.not_lt_zero _), hB1⟩
        case round =>
          clear hB1
          obtain ⟨b, hb, rfl, hno, hB⟩ := hrel
          have HM : Hid (∀ b', b' < b → decide ((s.on.r b').z g < heldTo s b' g s.hs.n + fromTo s b' g s.ms.n) = false) := hno
          clear hno
          obtain ⟨X, hpk, hsk, hBw⟩ := HC.out wr hB
          obtain ⟨⟨l1, d0, d1⟩, l2, c0, c1, c2, c3, c4, c5, c6⟩ := X
          by_cases hlb : b < p.nb
          · have qb : (0 : Int) ≤ (b : Int) := by omega
            have F := HF.out
            have hbn : b < s.on.n := by rw [F.sh.n]; exact hlb
            obtain ⟨bo, oo, hoa, hbo, y0, hrow⟩ := hsk.on.rows b hbn
            have rn := F.sh.len b hbn
            obtain ⟨br, orr, hra, hbr, y1⟩ := hrow.ints g (by rw [rn]; exact hlt)
            have v1 := hrow.le
            have v2 := hrow.cap
            have v3 := hsk.on.le
            have v4 := hsk.on.cap
            unfold maxLen at v2 v4
            have hx := heldTo_bd (s := s) (b := b) (g := g) F.holdN
            have hy := fromTo_bd (s := s) (b := b) (g := g) F.moveN
            have hz := F.sh.num b hbn g hlt
            rw [hra, rn] at y0
            rw [rn] at v1
            rw [hoa] at c0
            have HSA : Hid (s.At wr ∧ s.on.a = some ⟨bo, oo, none⟩) := ⟨hsk, hoa⟩
            have r0 : ∀ d os, (grow (redrawn wr d) os).cell? ⟨w.heap.size + 1, 0, none⟩ = some (.slice (some ⟨bo, oo, none⟩) s.on.n s.on.c) := fun d os => cell_regrown c0 d os
            have r1 : ∀ d os, (grow (redrawn wr d) os).cell? ⟨w.heap.size + 1, 1, none⟩ = some (.slice s.os.a s.os.n s.os.c) := fun d os => cell_regrown c1 d os
            have r2 : ∀ d os, (grow (redrawn wr d) os).cell? ⟨w.heap.size + 1, 2, none⟩ = some (.slice s.hs.a s.hs.n s.hs.c) := fun d os => cell_regrown c2 d os
            have r3 : ∀ d os, (grow (redrawn wr d) os).cell? ⟨w.heap.size + 1, 3, none⟩ = some (.slice s.ms.a s.ms.n s.ms.c) := fun d os => cell_regrown c3 d os
            have r4 : ∀ d os, (grow (redrawn wr d) os).cell? ⟨w.heap.size + 1, 4, none⟩ = some (.slice s.si.a s.si.n s.si.c) := fun d os => cell_regrown c4 d os
            have r5 : ∀ d os, (grow (redrawn wr d) os).cell? ⟨w.heap.size + 1, 5, none⟩ = some (.slice s.so.a s.so.n s.so.c) := fun d os => cell_regrown c5 d os
            have r6 : ∀ d os, (grow (redrawn wr d) os).cell? ⟨w.heap.size + 1, 6, none⟩ = some (.slice s.sf.a s.sf.n s.sf.c) := fun d os => cell_regrown c6 d os
            have r7 : ∀ d os, (grow (redrawn wr d) os).cell? ⟨bo, oo + b, none⟩ = some (.slice (some ⟨br, orr, none⟩) p.ns (s.on.r b).c) := fun d os => cell_regrown y0 d os
            have r8 : ∀ d os, (grow (redrawn wr d) os).cell? ⟨br, orr + g, none⟩ = some (.int .i64 ((s.on.r b).z g)) := fun d os => cell_regrown y1 d os
            have hbd : Hid (∀ wk, s.At wk → Calls Try.prog 121 #[.agg #[.slice (some ⟨bo, oo, none⟩) s.on.n s.on.c, .slice s.os.a s.os.n s.os.c, .slice s.hs.a s.hs.n s.hs.c, .slice s.ms.a s.ms.n s.ms.c, .slice s.si.a s.si.n s.si.c, .slice s.so.a s.so.n s.so.c, .slice s.sf.a s.sf.n s.sf.c], .int .i64 b, .int .i64 g] wk fun e w' => e = .returned (.int .i64 (heldTo s b g s.hs.n + fromTo s b g s.ms.n)) ∧ Below wk.heap.size wk w') := fun wk h => by
              have := bound_any p s b g wk h HF.out
              rw [St.val, HSA.out.2] at this
              exact this
            have HT4 : Hid (((s.on.r b).z g < heldTo s b g s.hs.n + fromTo s b g s.ms.n → summedB p s = false) ∧ (¬ (s.on.r b).z g < heldTo s b g s.hs.n + fromTo s b g s.ms.n → ∀ b', b' < b + 1 → decide ((s.on.r b').z g < heldTo s b' g s.hs.n + fromTo s b' g s.ms.n) = false)) := ⟨HT2.out b hlb, fun h => all_succ3 HM.out (decide_eq_false h)⟩
            clear hoa hra hrow rn F hsk hpk c0 c1 c2 c3 c4 c5 c6 y0 y1 HM d1
            generalize heldTo s b g s.hs.n + fromTo s b g s.ms.n = BD at *
            generalize (s.on.r b).z g = ON at *
            generalize (s.on.r b).c = RC at *
            by_cases hq : ON < BD
            · have HX : Hid (summedB p s = false) := HT4.out.1 hq
              go_wp2_with fail
              refine wp_region_quiet_below (by kernel_rfl) (by kernel_rfl) ?_
              repeat (go_big_quiet_step ((go_at_call 121; exact Calls.regrown_of (hbd.out _ (HSA.out.1.below (below_regrown _ _ _))))))
              refine wpQuiet_nil ?_
              intro _ hw'
              obtain ⟨⟨dq, osq⟩, hw''⟩ := hw'
              subst hw''
              go_wp2_with fail
              go_ret
              exact ⟨by rw [HX.out]; rfl, hBw.trans ((below_regrown _ _ _).mono hBw.size)⟩
            · have HX := HT4.out.2 hq
              have HX2 : Hid _ := HX
              clear HX
              go_wp2_with fail
              refine wp_region_quiet_below (by kernel_rfl) (by kernel_rfl) ?_
              repeat (go_big_quiet_step ((go_at_call 121; exact Calls.regrown_of (hbd.out _ (HSA.out.1.below (below_regrown _ _ _))))))
              refine wpQuiet_nil ?_
              intro _ hw'
              obtain ⟨⟨dq, osq⟩, hw''⟩ := hw'
              subst hw''
              go_wp2_with fail
              go_roundw
              case rel => exact ⟨b + 1, by omega, by go_num, HX2.out, hB.trans ((below_regrown _ _ _).mono hB.size)⟩
              case measure => simp [intOf]; omega
          · have HA : Hid (wrongGood p s g = false) := HT3.out HEQ.out fun b' hb' => HM.out b' (by omega)
            clear hsk hpk c0 c1 c2 c3 c4 c5 c6 HM
            go_wp2_with fail
            go_roundw
            case rel => exact ⟨g + 1, by omega, by go_num, all_succ3 HN.out HA.out, hB⟩
            case measure => simp [intOf]; omega
      · have he : (SM != I1 - I2 + I3) = true := by simp [heq]
        have HX : Hid (summedB p s = false) := HT1.out heq
        rw [he]
        clear heq he hpk hsk c0 c1 c2 c3 c4 c5 c6 d0 d1 l1 l2
        go_wp2_with fail
        go_ret
        exact ⟨by rw [HX.out]; rfl, hBw⟩
    · have HN2 : Hid (∀ j, j < p.ns → wrongGood p s j = false) := fun j hj => HN.out j (by omega)
      clear HN hsk hpk c0 c1 c2 c3 c4 c5 c6 hBw
      go_wp2_with fail
      clear d0 d1 l1 l2 hlt hg
      go_loopw [7] (fun i wk => ∃ k : Nat, k ≤ s.os.n ∧ i = .int .i64 k ∧ (∀ j, j < k → wrongOrder s j = false) ∧ Below W0.heap.size W0 wk) (fun i _ => s.os.n - (intOf i).toNat)
      case atStart => exact ⟨0, Nat.zero_le _, rfl, fun j hj => absurd hj (Nat.not_lt_zero _), hB⟩
      case round =>
        clear hB
        obtain ⟨i, hi, rfl, hno, hB⟩ := hrel
        have HN : Hid (∀ j, j < i → wrongOrder s j = false) := hno
        clear hno
        obtain ⟨X, hpk, hsk, hBw⟩ := HC.out wr hB
        obtain ⟨⟨l1, d0, d1⟩, l2, c0, c1, c2, c3, c4, c5, c6⟩ := X
        by_cases hlt : i < s.os.n
        · obtain ⟨b, o, hoa, hb, z0, z1, hl⟩ := hsk.os.ods i hlt
          have qi : (0 : Int) ≤ (i : Int) := by omega
          have HL : Hid (∀ wk, Below W0.heap.size W0 wk → wk.cell? ⟨b, o + i * 2, none⟩ = some (.int .i64 (s.os.z i).k) ∧ wk.cell? ⟨b, o + i * 2 + 1, none⟩ = some (.slice (s.os.z i).ls.a (s.os.z i).ls.n (s.os.z i).ls.c) ∧ (s.os.z i).ls.At wk ∧ wk.cell? ⟨w.heap.size + 1, 1, none⟩ = some (.slice (some ⟨b, o, none⟩) s.os.n s.os.c) ∧ w.heap.size + 1 < wk.heap.size ∧ b < wk.heap.size ∧ Below w.heap.size w wk ∧ s.hs.At wk ∧ wk.cell? ⟨w.heap.size + 1, 2, none⟩ = some (.slice s.hs.a s.hs.n s.hs.c)) := fun wk h => by
            obtain ⟨X, -, hsw, hBx⟩ := HC.out wk h
            obtain ⟨-, m2, -, f1, f2, -⟩ := X
            obtain ⟨b', o', hoa', hb', x0, x1, hl'⟩ := hsw.os.ods i hlt
            rw [hoa] at hoa' f1
            simp only [Option.some.injEq, Addr.mk.injEq, and_true] at hoa'
            obtain ⟨rfl, rfl⟩ := hoa'
            exact ⟨x0, x1, hl', f1, m2, hb', hBx, hsw.hs, f2⟩
          have lle := hl.le
          have lcap := hl.cap
          have l3 := HF.out.lns i hlt
          have kd := HF.out.kind i hlt
          unfold maxLen at lcap
          have HE : Hid (wrongOrder s i = (((s.os.z i).k == 1 && noLack (s.os.z i).ls.z (s.os.z i).ls.n) || anyB (s.os.z i).ls.n (fun j => wrongL (s.os.z i).k ((s.os.z i).ls.z j) (keptS s.hs.z i j s.hs.n)))) := wrongOrder_eq
          have HLB : Hid (∀ j, j < (s.os.z i).ls.n → (0 ≤ ((s.os.z i).ls.z j).b ∧ ((s.os.z i).ls.z j).b ≤ 200) ∧ (0 ≤ ((s.os.z i).ls.z j).n ∧ ((s.os.z i).ls.z j).n ≤ 200) ∧ 0 ≤ keptS s.hs.z i j s.hs.n ∧ keptS s.hs.z i j s.hs.n ≤ 14400) := fun j hj => by
            have a := badLine_no (HF.out.line i hlt j hj)
            have c := keptS_bd (z := s.hs.z) (i : Int) (j : Int) s.hs.n HF.out.holdN
            omega
          clear hoa hl hsk hpk c0 c2 c3 c4 c5 c6 z0 z1 d0 d1 hBw hb
          generalize (s.os.z i).k = KD at *
          generalize (s.os.z i).ls = LS at *
          go_wp2_with fail
          clear c1 l1 l2
          go_loopw [8, 9] (fun u i0 wk => ∃ k : Nat, k ≤ LS.n ∧ i0 = .int .i64 k ∧ u = .bool (noLack LS.z k) ∧ Below W0.heap.size W0 wk) (fun _ i0 _ => LS.n - (intOf i0).toNat)
          case atStart => exact ⟨0, Nat.zero_le _, rfl, rfl, hB⟩
          case round =>
            clear hB
            obtain ⟨j, hj, rfl, rfl, hB⟩ := hrel
            obtain ⟨z0, z1, hlk, c1, l2, hb, hBw, -, -⟩ := HL.out wr hB
            by_cases hlj : j < LS.n
            · obtain ⟨b2, o2, hla, hb2, y0, y1, y2, y3⟩ := hlk.hds j hlj
              have qj : (0 : Int) ≤ (j : Int) := by omega
              rw [hla] at z1
              have r0 : ∀ d os, (grow (redrawn wr d) os).cell? ⟨w.heap.size + 1, 1, none⟩ = some (.slice (some ⟨b, o, none⟩) s.os.n s.os.c) := fun d os => cell_regrown c1 d os
              have r1 : ∀ d os, (grow (redrawn wr d) os).cell? ⟨b, o + i * 2 + 1, none⟩ = some (.slice (some ⟨b2, o2, none⟩) LS.n LS.c) := fun d os => cell_regrown z1 d os
              have r2 : ∀ d os, (grow (redrawn wr d) os).cell? ⟨b2, o2 + j * 4 + 1, none⟩ = some (.int .i64 (LS.z j).l) := fun d os => cell_regrown y1 d os
              have r3 : ∀ d os, (grow (redrawn wr d) os).cell? ⟨b2, o2 + j * 4 + 2, none⟩ = some (.int .i64 (LS.z j).b) := fun d os => cell_regrown y2 d os
              have HS1 : Hid (∀ b c, noLack LS.z j = b → ((LS.z j).b == (LS.z j).l) = c → noLack LS.z (j + 1) = (b && c)) := fun _ _ h1 h2 => noLack_step h1 h2
              clear hla hlk y0 y1 y2 y3
              generalize (LS.z j).l = WN at *
              generalize (LS.z j).b = GT at *
              cases h1 : noLack LS.z j
              · have HX : Hid (noLack LS.z (j + 1) = false) := HS1.out _ _ h1 rfl
                clear HS1 h1
                go_wp2_with fail
                refine wp_region_quiet_below (by kernel_rfl) (by kernel_rfl) ?_
                repeat (go_big_quiet_step (fail))
                refine wpQuiet_nil ?_
                intro _ hw'
                obtain ⟨⟨dq, osq⟩, hw''⟩ := hw'
                subst hw''
                clear r0 r1 r2 r3
                go_wp2_with fail
                go_roundw
                case rel => exact ⟨j + 1, by omega, by go_num, by rw [HX.out], hB.trans ((below_regrown _ _ _).mono hB.size)⟩
                case measure => simp [intOf]; omega
              · cases h2 : (GT == WN)
                · have HX : Hid (noLack LS.z (j + 1) = false) := HS1.out _ _ h1 h2
                  clear HS1 h1
                  go_wp2_with fail
                  refine wp_region_quiet_below (by kernel_rfl) (by kernel_rfl) ?_
                  repeat (go_big_quiet_step (fail))
                  refine wpQuiet_nil ?_
                  intro _ hw'
                  obtain ⟨⟨dq, osq⟩, hw''⟩ := hw'
                  subst hw''
                  clear r0 r1 r2 r3
                  go_wp2_with fail
                  go_roundw
                  case rel => exact ⟨j + 1, by omega, by go_num, by rw [HX.out], hB.trans ((below_regrown _ _ _).mono hB.size)⟩
                  case measure => simp [intOf]; omega
                · have HX : Hid (noLack LS.z (j + 1) = true) := HS1.out _ _ h1 h2
                  clear HS1 h1
                  go_wp2_with fail
                  refine wp_region_quiet_below (by kernel_rfl) (by kernel_rfl) ?_
                  repeat (go_big_quiet_step (fail))
                  refine wpQuiet_nil ?_
                  intro _ hw'
                  obtain ⟨⟨dq, osq⟩, hw''⟩ := hw'
                  subst hw''
                  clear r0 r1 r2 r3
                  go_wp2_with fail
                  go_roundw
                  case rel => exact ⟨j + 1, by omega, by go_num, by rw [HX.out], hB.trans ((below_regrown _ _ _).mono hB.size)⟩
                  case measure => simp [intOf]; omega
            · have hjn : j = LS.n := by omega
              subst hjn
              cases hN : noLack LS.z LS.n
              · have HE2 : Hid (wrongOrder s i = anyB LS.n (fun j => wrongL KD (LS.z j) (keptS s.hs.z i j s.hs.n))) := by show wrongOrder s i = _; rw [HE.out, hN, Bool.and_false, Bool.false_or]
                clear hN HE
                go_wp2_with fail
                clear z0 z1 hlk c1 l2 hb hBw
                go_loopw [10] (fun i0 wk => ∃ k : Nat, k ≤ LS.n ∧ i0 = .int .i64 k ∧ (∀ j, j < k → wrongL KD (LS.z j) (keptS s.hs.z i j s.hs.n) = false) ∧ Below W0.heap.size W0 wk) (fun i0 _ => LS.n - (intOf i0).toNat)
                case atStart => exact ⟨0, Nat.zero_le _, rfl, fun j hj => absurd hj (Nat.not_lt_zero _), hB⟩
                case round =>
                  clear hB
                  obtain ⟨j, hj, rfl, hno, hB⟩ := hrel
                  have HM : Hid (∀ j', j' < j → wrongL KD (LS.z j') (keptS s.hs.z i j' s.hs.n) = false) := hno
                  clear hno
                  obtain ⟨z0, z1, hlk, c1, l2, hb, hBw, hhs, c2⟩ := HL.out wr hB
                  by_cases hlj : j < LS.n
                  · obtain ⟨b2, o2, hla, hb2, y0, y1, y2, y3⟩ := hlk.hds j hlj
                    have qj : (0 : Int) ≤ (j : Int) := by omega
                    obtain ⟨k1, k2, k3⟩ := HLB.out j hlj
                    have HT : Hid (wrongL KD (LS.z j) (keptS s.hs.z i j s.hs.n) = true → summedB p s = false) := fun h => sB_order hlt (by rw [HE2.out]; exact anyB_yes hlj h)
                    have HU : Hid (wrongL KD (LS.z j) (keptS s.hs.z i j s.hs.n) = false → ∀ j', j' < j + 1 → wrongL KD (LS.z j') (keptS s.hs.z i j' s.hs.n) = false) := fun h => all_succ3 HM.out h
                    rw [hla] at z1
                    have HKA : Hid (∀ wk, Below wr.heap.size wr wk → Calls Try.prog 122 #[.slice s.hs.a s.hs.n s.hs.c, .int .i64 i, .int .i64 j] wk fun e w' => e = .returned (.int .i64 (keptS s.hs.z i j s.hs.n)) ∧ w' = wk) := fun wk h => KeptOf_any s.hs i j wk (hhs.below h) HF.out.hold
                    have r0 : ∀ d os, (grow (redrawn wr d) os).cell? ⟨w.heap.size + 1, 1, none⟩ = some (.slice (some ⟨b, o, none⟩) s.os.n s.os.c) := fun d os => cell_regrown c1 d os
                    have r1 : ∀ d os, (grow (redrawn wr d) os).cell? ⟨b, o + i * 2 + 1, none⟩ = some (.slice (some ⟨b2, o2, none⟩) LS.n LS.c) := fun d os => cell_regrown z1 d os
                    have r2 : ∀ d os, (grow (redrawn wr d) os).cell? ⟨b2, o2 + j * 4, none⟩ = some (.int .i64 (LS.z j).o) := fun d os => cell_regrown y0 d os
                    have r3 : ∀ d os, (grow (redrawn wr d) os).cell? ⟨b2, o2 + j * 4 + 1, none⟩ = some (.int .i64 (LS.z j).l) := fun d os => cell_regrown y1 d os
                    have r4 : ∀ d os, (grow (redrawn wr d) os).cell? ⟨b2, o2 + j * 4 + 2, none⟩ = some (.int .i64 (LS.z j).b) := fun d os => cell_regrown y2 d os
                    have r5 : ∀ d os, (grow (redrawn wr d) os).cell? ⟨b2, o2 + j * 4 + 3, none⟩ = some (.int .i64 (LS.z j).n) := fun d os => cell_regrown y3 d os
                    have r6 : ∀ d os, (grow (redrawn wr d) os).cell? ⟨w.heap.size + 1, 2, none⟩ = some (.slice s.hs.a s.hs.n s.hs.c) := fun d os => cell_regrown c2 d os
                    clear hla hlk y0 y1 y2 y3 hhs c2 z0 HM hBw
                    generalize keptS s.hs.z i j s.hs.n = KP at *
                    generalize LS.z j = LZ at *
                    go_wp2_with fail
                    refine wp_region_made (fun w' => ∃ p : Regrown, w' = grow (redrawn wr p.d) p.os) (List.range 13) [13, 14] [(false, 15), (false, 16)] (by kernel_rfl) (by kernel_rfl) (by kernel_rfl) (by kernel_rfl) (by kernel_rfl) (by kernel_rfl) (by kernel_rfl) (by kernel_rfl) (regrown_of_below ((Below.refl _ _).drew)) ?_
                    rw [show List.range 13 = [0, 1, 2, 3, 4, 5, 6, 7, 8, 9, 10, 11, 12] from rfl]
                    simp only [picks, List.drop_succ_cons, List.drop_zero, List.take_succ_cons, List.take_zero, List.cons_append, List.nil_append]
                    repeat (go_big_quiet_step (fail))
                    refine wpQuiet_nil ?_
                    refine ⟨fun j v wk => match j with | 13 => v = .int .i64 KP | 14 => ∃ B, v = .pointer (some ⟨B, 0, none⟩) ∧ wr.heap.size ≤ B ∧ Blk wk B 53 4 (fun _ => .int .i64 0) | _ => True, List.forall_mem_cons.2 ⟨?m13, List.forall_mem_cons.2 ⟨?m14, List.forall_mem_nil _⟩⟩, List.forall_mem_cons.2 ⟨?s13, List.forall_mem_cons.2 ⟨?s14, List.forall_mem_nil _⟩⟩, ?done⟩
                    case m13 => intro v w w' _ h; exact h
                    case m14 => intro v w w' hB h; obtain ⟨B, h1, h2, h3⟩ := h; exact ⟨B, h1, h2, h3.below hB⟩
                    case s13 =>
                      intro V wk K hS hd hK
                      obtain ⟨pp, rfl⟩ := hS
                      refine wpOp_list 13 rfl ?_
                      simp only [putAll, dstOf, List.getElem?_toArray, List.getElem?_cons_succ, List.getElem?_cons_zero, Act.put, List.setIfInBounds_toArray, List.set_cons_succ, List.set_cons_zero] at hK ⊢
                      go_wp2_with fail
                      refine (HKA.out _ (below_regrown _ _ _)).mono ?_
                      rintro e w' ⟨rfl, rfl⟩
                      go_wp2_with fail
                      exact hK _ _ ⟨pp, rfl⟩ (Below.refl _ _) rfl
                    case s14 =>
                      intro V wk K hS hd hK
                      have hX := below_of_regrown hS
                      refine wpOp_list 14 rfl ?_
                      simp only [putAll, dstOf, List.getElem?_toArray, List.getElem?_cons_succ, List.getElem?_cons_zero, Act.put, List.setIfInBounds_toArray, List.set_cons_succ, List.set_cons_zero] at hK ⊢
                      go_wp2_with fail
                      exact hK _ _ (regrown_of_below (hX.alloc hX.size _)) ((Below.refl _ _).alloc (Nat.le_refl _) _) ⟨wk.heap.size, rfl, hX.size, (Blk.mk' (cur := #[.int .i64 0, .int .i64 0, .int .i64 0, .int .i64 0]) rfl rfl).congr (fun j hj => by match j, hj with | 0, _ => rfl | 1, _ => rfl | 2, _ => rfl | 3, _ => rfl)⟩
                    case done =>
                      intro V wk hS hD
                      have h13 : V 13 = .int .i64 KP := hD 13 (by simp)
                      have h14 : ∃ B, V 14 = .pointer (some ⟨B, 0, none⟩) ∧ wr.heap.size ≤ B ∧ Blk wk B 53 4 (fun _ => .int .i64 0) := hD 14 (by simp)
                      obtain ⟨B4, h14, hB4, hY⟩ := h14
                      have hX := below_of_regrown hS
                      clear hS hD r0 r1 r2 r3 r4 r5 r6
                      have hl4 := hY.lt
                      have f0 := hY.frozen 0
                      have f1 := hY.frozen 1
                      have f2 := hY.frozen 2
                      have f3 := hY.frozen 3
                      have e0 := hY.cell (j := 0) (by decide)
                      have e1 := hY.cell (j := 1) (by decide)
                      have e2 := hY.cell (j := 2) (by decide)
                      have e3 := hY.cell (j := 3) (by decide)
                      simp only [putAll, dstOf, List.getElem?_toArray, List.getElem?_cons_succ, List.getElem?_cons_zero, Act.put, List.setIfInBounds_toArray, List.set_cons_succ, List.set_cons_zero, h13, h14]
                      refine wpOrdS_one 15 (by decide) ?_
                      simp only [List.drop_succ_cons, List.drop_zero, List.take_succ_cons, List.take_zero]
                      go_wp2_with fail
                      obtain ⟨W5, hW5, hX5, hY5⟩ := line_stored hY hX hB4 LZ
                      rw [hW5]
                      refine ⟨regrown_of_below hX5, ?_⟩
                      refine wpOrdS_one 16 (by decide) ?_
                      simp only [List.drop_succ_cons, List.drop_zero, List.take_succ_cons, List.take_zero]
                      go_wp2_with fail
                      refine ⟨regrown_of_below hX5, ?_⟩
                      refine NoPanic.normal ?_
                      have hB5 := hB.trans (hX5.mono hB.size)
                      have t0 : W5.cell? ⟨B4, 0, none⟩ = some (.int .i64 LZ.o) := hY5.cell (j := 0) (by simp)
                      have t1 : W5.cell? ⟨B4, 1, none⟩ = some (.int .i64 LZ.l) := hY5.cell (j := 1) (by simp)
                      have t2 : W5.cell? ⟨B4, 2, none⟩ = some (.int .i64 LZ.b) := hY5.cell (j := 2) (by simp)
                      have t3 : W5.cell? ⟨B4, 3, none⟩ = some (.int .i64 LZ.n) := hY5.cell (j := 3) (by simp)
                      have hl5 := hY5.lt
                      clear hX5 hW5 hY5 hX hY f0 f1 f2 f3 e0 e1 e2 e3 h13 h14 hl4 hB4 z1 c1 l2 hb hb2 hB
                      obtain ⟨z0, z1, hlk, c1, l2, hb, hBw, hhs, c2⟩ := HL.out W5 hB5
                      clear hlk hhs c2 z1
                      have hkd : KD = 0 ∨ KD = 1 ∨ KD = 2 := by omega
                      have HK0 : Hid (∀ b, KD = 0 → (LZ.b + LZ.n + KP == 0) = b → wrongL KD LZ KP = !b) := fun b h h2 => by rw [h, wL0 k1 k2 k3, h2]
                      have HK1 : Hid (∀ b, KD = 1 → (LZ.b + LZ.n + KP == LZ.l) = b → wrongL KD LZ KP = !b) := fun b h h2 => by rw [h, wL1, h2]
                      have HK2 : Hid (∀ b c, KD = 2 → (LZ.b + LZ.n + KP == LZ.l) = b → (KP == 0) = c → wrongL KD LZ KP = (!b || !c)) := fun b c h h2 h3 => by rw [h, wL2, h2, h3]
                      generalize wrongL KD LZ KP = WL at *
                      rcases hkd with hkd | hkd | hkd
                      · cases h2 : (LZ.b + LZ.n + KP == 0)
                        · have HX : Hid (summedB p s = false) := HT.out (HK0.out _ hkd h2)
                          have n2 : (LZ.b + LZ.n + KP != 0) = true := by rw [bne, h2]; rfl
                          rw [hkd] at z0
                          clear HK0 HK1 HK2 HT HU hkd
                          go_wp2_with fail
                          go_ret
                          exact ⟨by rw [HX.out]; rfl, hBw⟩
                        · have HX := HU.out (HK0.out _ hkd h2)
                          have n2 : (LZ.b + LZ.n + KP != 0) = false := by rw [bne, h2]; rfl
                          have HX2 : Hid _ := HX
                          rw [hkd] at z0
                          clear HK0 HK1 HK2 HT HU hkd HX
                          go_wp2_with fail
                          go_roundw
                          case rel => exact ⟨j + 1, by omega, by go_num, HX2.out, hB5⟩
                          case measure => simp [intOf]; omega
                      · cases h2 : (LZ.b + LZ.n + KP == LZ.l)
                        · have HX : Hid (summedB p s = false) := HT.out (HK1.out _ hkd h2)
                          have n2 : (LZ.b + LZ.n + KP != LZ.l) = true := by rw [bne, h2]; rfl
                          rw [hkd] at z0
                          clear HK0 HK1 HK2 HT HU hkd
                          go_wp2_with fail
                          go_ret
                          exact ⟨by rw [HX.out]; rfl, hBw⟩
                        · have HX := HU.out (HK1.out _ hkd h2)
                          have n2 : (LZ.b + LZ.n + KP != LZ.l) = false := by rw [bne, h2]; rfl
                          have HX2 : Hid _ := HX
                          rw [hkd] at z0
                          clear HK0 HK1 HK2 HT HU hkd HX
                          go_wp2_with fail
                          go_roundw
                          case rel => exact ⟨j + 1, by omega, by go_num, HX2.out, hB5⟩
                          case measure => simp [intOf]; omega
                      · cases h2 : (LZ.b + LZ.n + KP == LZ.l)
                        · have HX : Hid (summedB p s = false) := HT.out (HK2.out _ _ hkd h2 rfl)
                          have n2 : (LZ.b + LZ.n + KP != LZ.l) = true := by rw [bne, h2]; rfl
                          rw [hkd] at z0
                          clear HK0 HK1 HK2 HT HU hkd
                          go_wp2_with fail
                          go_ret
                          exact ⟨by rw [HX.out]; rfl, hBw⟩
                        · cases h3 : (KP == 0)
                          · have HX : Hid (summedB p s = false) := HT.out (HK2.out _ _ hkd h2 h3)
                            have n2 : (LZ.b + LZ.n + KP != LZ.l) = false := by rw [bne, h2]; rfl
                            have n3 : (KP != 0) = true := by rw [bne, h3]; rfl
                            rw [hkd] at z0
                            clear HK0 HK1 HK2 HT HU hkd
                            go_wp2_with fail
                            go_ret
                            exact ⟨by rw [HX.out]; rfl, hBw⟩
                          · have HX := HU.out (HK2.out _ _ hkd h2 h3)
                            have n2 : (LZ.b + LZ.n + KP != LZ.l) = false := by rw [bne, h2]; rfl
                            have n3 : (KP != 0) = false := by rw [bne, h3]; rfl
                            have HX2 : Hid _ := HX
                            rw [hkd] at z0
                            clear HK0 HK1 HK2 HT HU hkd HX
                            go_wp2_with fail
                            go_roundw
                            case rel => exact ⟨j + 1, by omega, by go_num, HX2.out, hB5⟩
                            case measure => simp [intOf]; omega
                  · have HA : Hid (wrongOrder s i = false) := by show wrongOrder s i = false; rw [HE2.out]; exact anyB_no fun j' hj' => HM.out j' (by omega)
                    clear z0 hhs c2 hBw hlk
                    go_wp2_with fail
                    go_roundw
                    case rel => exact ⟨i + 1, by omega, by go_num, all_succ3 HN.out HA.out, hB⟩
                    case measure => simp [intOf]; omega
              · cases hk1 : (KD == 1)
                · have HE2 : Hid (wrongOrder s i = anyB LS.n (fun j => wrongL KD (LS.z j) (keptS s.hs.z i j s.hs.n))) := by show wrongOrder s i = _; rw [HE.out, hk1, Bool.false_and, Bool.false_or]
                  clear hN HE
                  go_wp2_with fail
                  clear hk1
                  clear z0 z1 hlk c1 l2 hb hBw
                  go_loopw [10] (fun i0 wk => ∃ k : Nat, k ≤ LS.n ∧ i0 = .int .i64 k ∧ (∀ j, j < k → wrongL KD (LS.z j) (keptS s.hs.z i j s.hs.n) = false) ∧ Below W0.heap.size W0 wk) (fun i0 _ => LS.n - (intOf i0).toNat)
                  case atStart => exact ⟨0, Nat.zero_le _, rfl, fun j hj => absurd hj (Nat.not_lt_zero _), hB⟩
                  case round =>
                    clear hB
                    obtain ⟨j, hj, rfl, hno, hB⟩ := hrel
                    have HM : Hid (∀ j', j' < j → wrongL KD (LS.z j') (keptS s.hs.z i j' s.hs.n) = false) := hno
                    clear hno
                    obtain ⟨z0, z1, hlk, c1, l2, hb, hBw, hhs, c2⟩ := HL.out wr hB
                    by_cases hlj : j < LS.n
                    · obtain ⟨b2, o2, hla, hb2, y0, y1, y2, y3⟩ := hlk.hds j hlj
                      have qj : (0 : Int) ≤ (j : Int) := by omega
                      obtain ⟨k1, k2, k3⟩ := HLB.out j hlj
                      have HT : Hid (wrongL KD (LS.z j) (keptS s.hs.z i j s.hs.n) = true → summedB p s = false) := fun h => sB_order hlt (by rw [HE2.out]; exact anyB_yes hlj h)
                      have HU : Hid (wrongL KD (LS.z j) (keptS s.hs.z i j s.hs.n) = false → ∀ j', j' < j + 1 → wrongL KD (LS.z j') (keptS s.hs.z i j' s.hs.n) = false) := fun h => all_succ3 HM.out h
                      rw [hla] at z1
                      have HKA : Hid (∀ wk, Below wr.heap.size wr wk → Calls Try.prog 122 #[.slice s.hs.a s.hs.n s.hs.c, .int .i64 i, .int .i64 j] wk fun e w' => e = .returned (.int .i64 (keptS s.hs.z i j s.hs.n)) ∧ w' = wk) := fun wk h => KeptOf_any s.hs i j wk (hhs.below h) HF.out.hold
                      have r0 : ∀ d os, (grow (redrawn wr d) os).cell? ⟨w.heap.size + 1, 1, none⟩ = some (.slice (some ⟨b, o, none⟩) s.os.n s.os.c) := fun d os => cell_regrown c1 d os
                      have r1 : ∀ d os, (grow (redrawn wr d) os).cell? ⟨b, o + i * 2 + 1, none⟩ = some (.slice (some ⟨b2, o2, none⟩) LS.n LS.c) := fun d os => cell_regrown z1 d os
                      have r2 : ∀ d os, (grow (redrawn wr d) os).cell? ⟨b2, o2 + j * 4, none⟩ = some (.int .i64 (LS.z j).o) := fun d os => cell_regrown y0 d os
                      have r3 : ∀ d os, (grow (redrawn wr d) os).cell? ⟨b2, o2 + j * 4 + 1, none⟩ = some (.int .i64 (LS.z j).l) := fun d os => cell_regrown y1 d os
                      have r4 : ∀ d os, (grow (redrawn wr d) os).cell? ⟨b2, o2 + j * 4 + 2, none⟩ = some (.int .i64 (LS.z j).b) := fun d os => cell_regrown y2 d os
                      have r5 : ∀ d os, (grow (redrawn wr d) os).cell? ⟨b2, o2 + j * 4 + 3, none⟩ = some (.int .i64 (LS.z j).n) := fun d os => cell_regrown y3 d os
                      have r6 : ∀ d os, (grow (redrawn wr d) os).cell? ⟨w.heap.size + 1, 2, none⟩ = some (.slice s.hs.a s.hs.n s.hs.c) := fun d os => cell_regrown c2 d os
                      clear hla hlk y0 y1 y2 y3 hhs c2 z0 HM hBw
                      generalize keptS s.hs.z i j s.hs.n = KP at *
                      generalize LS.z j = LZ at *
                      go_wp2_with fail
                      refine wp_region_made (fun w' => ∃ p : Regrown, w' = grow (redrawn wr p.d) p.os) (List.range 13) [13, 14] [(false, 15), (false, 16)] (by kernel_rfl) (by kernel_rfl) (by kernel_rfl) (by kernel_rfl) (by kernel_rfl) (by kernel_rfl) (by kernel_rfl) (by kernel_rfl) (regrown_of_below ((Below.refl _ _).drew)) ?_
                      rw [show List.range 13 = [0, 1, 2, 3, 4, 5, 6, 7, 8, 9, 10, 11, 12] from rfl]
                      simp only [picks, List.drop_succ_cons, List.drop_zero, List.take_succ_cons, List.take_zero, List.cons_append, List.nil_append]
                      repeat (go_big_quiet_step (fail))
                      refine wpQuiet_nil ?_
                      refine ⟨fun j v wk => match j with | 13 => v = .int .i64 KP | 14 => ∃ B, v = .pointer (some ⟨B, 0, none⟩) ∧ wr.heap.size ≤ B ∧ Blk wk B 53 4 (fun _ => .int .i64 0) | _ => True, List.forall_mem_cons.2 ⟨?m13, List.forall_mem_cons.2 ⟨?m14, List.forall_mem_nil _⟩⟩, List.forall_mem_cons.2 ⟨?s13, List.forall_mem_cons.2 ⟨?s14, List.forall_mem_nil _⟩⟩, ?done⟩
                      case m13 => intro v w w' _ h; exact h
                      case m14 => intro v w w' hB h; obtain ⟨B, h1, h2, h3⟩ := h; exact ⟨B, h1, h2, h3.below hB⟩
                      case s13 =>
                        intro V wk K hS hd hK
                        obtain ⟨pp, rfl⟩ := hS
                        refine wpOp_list 13 rfl ?_
                        simp only [putAll, dstOf, List.getElem?_toArray, List.getElem?_cons_succ, List.getElem?_cons_zero, Act.put, List.setIfInBounds_toArray, List.set_cons_succ, List.set_cons_zero] at hK ⊢
                        go_wp2_with fail
                        refine (HKA.out _ (below_regrown _ _ _)).mono ?_
                        rintro e w' ⟨rfl, rfl⟩
                        go_wp2_with fail
                        exact hK _ _ ⟨pp, rfl⟩ (Below.refl _ _) rfl
                      case s14 =>
                        intro V wk K hS hd hK
                        have hX := below_of_regrown hS
                        refine wpOp_list 14 rfl ?_
                        simp only [putAll, dstOf, List.getElem?_toArray, List.getElem?_cons_succ, List.getElem?_cons_zero, Act.put, List.setIfInBounds_toArray, List.set_cons_succ, List.set_cons_zero] at hK ⊢
                        go_wp2_with fail
                        exact hK _ _ (regrown_of_below (hX.alloc hX.size _)) ((Below.refl _ _).alloc (Nat.le_refl _) _) ⟨wk.heap.size, rfl, hX.size, (Blk.mk' (cur := #[.int .i64 0, .int .i64 0, .int .i64 0, .int .i64 0]) rfl rfl).congr (fun j hj => by match j, hj with | 0, _ => rfl | 1, _ => rfl | 2, _ => rfl | 3, _ => rfl)⟩
                      case done =>
                        intro V wk hS hD
                        have h13 : V 13 = .int .i64 KP := hD 13 (by simp)
                        have h14 : ∃ B, V 14 = .pointer (some ⟨B, 0, none⟩) ∧ wr.heap.size ≤ B ∧ Blk wk B 53 4 (fun _ => .int .i64 0) := hD 14 (by simp)
                        obtain ⟨B4, h14, hB4, hY⟩ := h14
                        have hX := below_of_regrown hS
                        clear hS hD r0 r1 r2 r3 r4 r5 r6
                        have hl4 := hY.lt
                        have f0 := hY.frozen 0
                        have f1 := hY.frozen 1
                        have f2 := hY.frozen 2
                        have f3 := hY.frozen 3
                        have e0 := hY.cell (j := 0) (by decide)
                        have e1 := hY.cell (j := 1) (by decide)
                        have e2 := hY.cell (j := 2) (by decide)
                        have e3 := hY.cell (j := 3) (by decide)
                        simp only [putAll, dstOf, List.getElem?_toArray, List.getElem?_cons_succ, List.getElem?_cons_zero, Act.put, List.setIfInBounds_toArray, List.set_cons_succ, List.set_cons_zero, h13, h14]
                        refine wpOrdS_one 15 (by decide) ?_
                        simp only [List.drop_succ_cons, List.drop_zero, List.take_succ_cons, List.take_zero]
                        go_wp2_with fail
                        obtain ⟨W5, hW5, hX5, hY5⟩ := line_stored hY hX hB4 LZ
                        rw [hW5]
                        refine ⟨regrown_of_below hX5, ?_⟩
                        refine wpOrdS_one 16 (by decide) ?_
                        simp only [List.drop_succ_cons, List.drop_zero, List.take_succ_cons, List.take_zero]
                        go_wp2_with fail
                        refine ⟨regrown_of_below hX5, ?_⟩
                        refine NoPanic.normal ?_
                        have hB5 := hB.trans (hX5.mono hB.size)
                        have t0 : W5.cell? ⟨B4, 0, none⟩ = some (.int .i64 LZ.o) := hY5.cell (j := 0) (by simp)
                        have t1 : W5.cell? ⟨B4, 1, none⟩ = some (.int .i64 LZ.l) := hY5.cell (j := 1) (by simp)
                        have t2 : W5.cell? ⟨B4, 2, none⟩ = some (.int .i64 LZ.b) := hY5.cell (j := 2) (by simp)
                        have t3 : W5.cell? ⟨B4, 3, none⟩ = some (.int .i64 LZ.n) := hY5.cell (j := 3) (by simp)
                        have hl5 := hY5.lt
                        clear hX5 hW5 hY5 hX hY f0 f1 f2 f3 e0 e1 e2 e3 h13 h14 hl4 hB4 z1 c1 l2 hb hb2 hB
                        obtain ⟨z0, z1, hlk, c1, l2, hb, hBw, hhs, c2⟩ := HL.out W5 hB5
                        clear hlk hhs c2 z1
                        have hkd : KD = 0 ∨ KD = 1 ∨ KD = 2 := by omega
                        have HK0 : Hid (∀ b, KD = 0 → (LZ.b + LZ.n + KP == 0) = b → wrongL KD LZ KP = !b) := fun b h h2 => by rw [h, wL0 k1 k2 k3, h2]
                        have HK1 : Hid (∀ b, KD = 1 → (LZ.b + LZ.n + KP == LZ.l) = b → wrongL KD LZ KP = !b) := fun b h h2 => by rw [h, wL1, h2]
                        have HK2 : Hid (∀ b c, KD = 2 → (LZ.b + LZ.n + KP == LZ.l) = b → (KP == 0) = c → wrongL KD LZ KP = (!b || !c)) := fun b c h h2 h3 => by rw [h, wL2, h2, h3]
                        generalize wrongL KD LZ KP = WL at *
                        rcases hkd with hkd | hkd | hkd
                        · cases h2 : (LZ.b + LZ.n + KP == 0)
                          · have HX : Hid (summedB p s = false) := HT.out (HK0.out _ hkd h2)
                            have n2 : (LZ.b + LZ.n + KP != 0) = true := by rw [bne, h2]; rfl
                            rw [hkd] at z0
                            clear HK0 HK1 HK2 HT HU hkd
                            go_wp2_with fail
                            go_ret
                            exact ⟨by rw [HX.out]; rfl, hBw⟩
                          · have HX := HU.out (HK0.out _ hkd h2)
                            have n2 : (LZ.b + LZ.n + KP != 0) = false := by rw [bne, h2]; rfl
                            have HX2 : Hid _ := HX
                            rw [hkd] at z0
                            clear HK0 HK1 HK2 HT HU hkd HX
                            go_wp2_with fail
                            go_roundw
                            case rel => exact ⟨j + 1, by omega, by go_num, HX2.out, hB5⟩
                            case measure => simp [intOf]; omega
                        · cases h2 : (LZ.b + LZ.n + KP == LZ.l)
                          · have HX : Hid (summedB p s = false) := HT.out (HK1.out _ hkd h2)
                            have n2 : (LZ.b + LZ.n + KP != LZ.l) = true := by rw [bne, h2]; rfl
                            rw [hkd] at z0
                            clear HK0 HK1 HK2 HT HU hkd
                            go_wp2_with fail
                            go_ret
                            exact ⟨by rw [HX.out]; rfl, hBw⟩
                          · have HX := HU.out (HK1.out _ hkd h2)
                            have n2 : (LZ.b + LZ.n + KP != LZ.l) = false := by rw [bne, h2]; rfl
                            have HX2 : Hid _ := HX
                            rw [hkd] at z0
                            clear HK0 HK1 HK2 HT HU hkd HX
                            go_wp2_with fail
                            go_roundw
                            case rel => exact ⟨j + 1, by omega, by go_num, HX2.out, hB5⟩
                            case measure => simp [intOf]; omega
                        · cases h2 : (LZ.b + LZ.n + KP == LZ.l)
                          · have HX : Hid (summedB p s = false) := HT.out (HK2.out _ _ hkd h2 rfl)
                            have n2 : (LZ.b + LZ.n + KP != LZ.l) = true := by rw [bne, h2]; rfl
                            rw [hkd] at z0
                            clear HK0 HK1 HK2 HT HU hkd
                            go_wp2_with fail
                            go_ret
                            exact ⟨by rw [HX.out]; rfl, hBw⟩
                          · cases h3 : (KP == 0)
                            · have HX : Hid (summedB p s = false) := HT.out (HK2.out _ _ hkd h2 h3)
                              have n2 : (LZ.b + LZ.n + KP != LZ.l) = false := by rw [bne, h2]; rfl
                              have n3 : (KP != 0) = true := by rw [bne, h3]; rfl
                              rw [hkd] at z0
                              clear HK0 HK1 HK2 HT HU hkd
                              go_wp2_with fail
                              go_ret
                              exact ⟨by rw [HX.out]; rfl, hBw⟩
                            · have HX := HU.out (HK2.out _ _ hkd h2 h3)
                              have n2 : (LZ.b + LZ.n + KP != LZ.l) = false := by rw [bne, h2]; rfl
                              have n3 : (KP != 0) = false := by rw [bne, h3]; rfl
                              have HX2 : Hid _ := HX
                              rw [hkd] at z0
                              clear HK0 HK1 HK2 HT HU hkd HX
                              go_wp2_with fail
                              go_roundw
                              case rel => exact ⟨j + 1, by omega, by go_num, HX2.out, hB5⟩
                              case measure => simp [intOf]; omega
                    · have HA : Hid (wrongOrder s i = false) := by show wrongOrder s i = false; rw [HE2.out]; exact anyB_no fun j' hj' => HM.out j' (by omega)
                      clear z0 hhs c2 hBw hlk
                      go_wp2_with fail
                      go_roundw
                      case rel => exact ⟨i + 1, by omega, by go_num, all_succ3 HN.out HA.out, hB⟩
                      case measure => simp [intOf]; omega
                · have HX : Hid (summedB p s = false) := sB_order hlt (by rw [HE.out, hN, hk1]; rfl)
                  clear HE
                  go_wp2_with fail
                  go_ret
                  exact ⟨by rw [HX.out]; rfl, hBw⟩
        · have HX : Hid (summedB p s = true) := sB_yes HN2.out fun j hj => HN.out j (by omega)
          clear hsk hpk c0 c2 c3 c4 c5 c6 d0 d1
          go_wp2_with fail
          go_ret
          exact ⟨by rw [HX.out]; rfl, hBw⟩

end Go.Proofs.Ytjiodlbblmbibac

/- wrongGoods, wrongOrders. -/
import Derived.Test.YtjiodlbblmbibacSW6
import Derived.Test.YtjiodlbblmbibacHW4
namespace Go.Proofs.Ytjiodlbblmbibac
open Go.RowKit Go.Shelf Go.Sort
set_option linter.unusedVariables false

theorem sum_ok {p : Pl} {s : Sh} {g : Nat} (h0 : shelfE p s = 0) (hg : g < p.ns) : sumE p s (g : Int) = 0 ∧ sumV p s (g : Int) = sumTo (fun i => (s.r i).z g) s.n := by
  have h : sumE p s (g : Int) = 0 := by
    unfold sumE
    rw [h0, inB_mk ⟨by omega, by omega⟩]
    rfl
  exact ⟨h, by simp [sumV, h]⟩

theorem wrongGood_eq {p : Pl} {s : St} {g : Nat} : wrongGood p s g = (!(sumTo (fun i => (s.on.r i).z g) s.on.n == s.si.z g - s.so.z g + s.sf.z g) || anyB p.nb (fun b => decide (availZ s b g < 0))) := rfl

set_option maxHeartbeats 4000000 in
theorem wrongGoods_any (p : Pl) (s : St) (w : World) (hp : p.At w) (hs : s.At w) (f : Formed p s) :
    Calls Try.prog 39 #[p.val, s.val] w fun e w' => e = .returned (.bool (wrongGoodsB p s)) ∧ Below w.heap.size w w' := by
  obtain ⟨W0, hW, hWB, X0⟩ : ∃ W, ((w.alloc (.cells #[.slice p.ab p.nb p.cb, .slice p.sa p.ns p.cs] 25)).alloc (.cells s.cells 31)) = W ∧ Below w.heap.size w W ∧ Boxes W w.heap.size (w.heap.size + 1) p s := ⟨_, rfl, two_below _ _ _, boxes_new w p s _ _⟩
  have HC : Hid (∀ wk, Below W0.heap.size W0 wk → Boxes wk w.heap.size (w.heap.size + 1) p s ∧ p.At wk ∧ s.At wk) := fun wk h => ⟨X0.below h, (hp.below hWB).below h, (hs.below hWB).below h⟩
  have HW : Hid ((w.alloc (.cells #[.slice p.ab p.nb p.cb, .slice p.sa p.ns p.cs] 25)).alloc (.cells #[.slice s.on.a s.on.n s.on.c, .slice s.os.a s.os.n s.os.c, .slice s.hs.a s.hs.n s.hs.c, .slice s.ms.a s.ms.n s.ms.c, .slice s.si.a s.si.n s.si.c, .slice s.so.a s.so.n s.so.c, .slice s.sf.a s.sf.n s.sf.c] 31) = W0) := hW
  have ns3 := f.sh.pl.ns3
  have nb6 := f.sh.pl.nb6
  have HF : Hid (Formed p s) := f
  have HSB : Hid (∀ g, g < p.ns → 0 ≤ sumTo (fun i => (s.on.r i).z g) s.on.n ∧ sumTo (fun i => (s.on.r i).z g) s.on.n ≤ 1200) := fun g hg => by
    have := sumTo_bd (z := fun i => (s.on.r i).z g) (n := s.on.n) (fun j hj => f.sh.num j hj g hg) s.on.n (Nat.le_refl _)
    have := f.sh.n
    omega
  clear hW X0 f
  unfold Pl.val St.val
  go_enter Try.func39, Try.ntmps39
  go_wp2_with fail
  rw [HW.out]
  go_loopw [12] (fun i wk => ∃ g : Nat, g ≤ p.ns ∧ i = .int .i64 g ∧ (∀ j, j < g → wrongGood p s j = false) ∧ Below W0.heap.size W0 wk) (fun i _ => p.ns - (intOf i).toNat)
  case atStart => exact ⟨0, Nat.zero_le _, rfl, fun j hj => absurd hj (Nat.not_lt_zero _), Below.refl _ _⟩
  case round =>
    obtain ⟨g, hg, rfl, hno, hB⟩ := hrel
    have HN : Hid (∀ j, j < g → wrongGood p s j = false) := hno
    clear hno
    by_cases hlt : g < p.ns
    · obtain ⟨X, hpk, hsk⟩ := HC.out wr hB
      obtain ⟨⟨hl1, d0, d1⟩, hl2, c0, -⟩ := X
      obtain ⟨hs0, hsv⟩ := sum_ok HF.out.sh0 hlt
      go_wp2_with fail
      refine (Sum_any p s.on g wr hpk hsk.on).mono ?_
      rintro e w1 ⟨rfl, hB1⟩
      rw [hs0, hsv]
      clear hs0 hsv hl1 hl2 d0 d1 c0 hpk hsk
      have hC := hB.trans (hB1.mono hB.size)
      clear hB1
      obtain ⟨X, hpk, hsk⟩ := HC.out w1 hC
      obtain ⟨-, hl2, -, -, -, -, e4, e5, e6⟩ := X
      obtain ⟨b1, o1, a1, g1, y1⟩ := hsk.si.ints g (by rw [HF.out.sin]; exact hlt)
      obtain ⟨b2, o2, a2, g2, y2⟩ := hsk.so.ints g (by rw [HF.out.son]; exact hlt)
      obtain ⟨b3, o3, a3, g3, y3⟩ := hsk.sf.ints g (by rw [HF.out.sfn]; exact hlt)
      have u1 := HF.out.sib g hlt
      have u2 := HF.out.sob g hlt
      have u3 := HF.out.sfb g hlt
      have u4 := HSB.out g hlt
      rw [a1, HF.out.sin] at e4
      rw [a2, HF.out.son] at e5
      rw [a3, HF.out.sfn] at e6
      have v1 := hsk.si.le
      have v2 := hsk.so.le
      have v3 := hsk.sf.le
      have v4 := hsk.si.cap
      have v5 := hsk.so.cap
      have v6 := hsk.sf.cap
      rw [HF.out.sin] at v1
      rw [HF.out.son] at v2
      rw [HF.out.sfn] at v3
      unfold maxLen at v4 v5 v6
      have r1 : ∀ d os, (grow (redrawn w1 d) os).cell? ⟨w.heap.size + 1, 4, none⟩ = some (.slice (some ⟨b1, o1, none⟩) p.ns s.si.c) := fun d os => cell_regrown e4 d os
      have r2 : ∀ d os, (grow (redrawn w1 d) os).cell? ⟨w.heap.size + 1, 5, none⟩ = some (.slice (some ⟨b2, o2, none⟩) p.ns s.so.c) := fun d os => cell_regrown e5 d os
      have r3 : ∀ d os, (grow (redrawn w1 d) os).cell? ⟨w.heap.size + 1, 6, none⟩ = some (.slice (some ⟨b3, o3, none⟩) p.ns s.sf.c) := fun d os => cell_regrown e6 d os
      have r4 : ∀ d os, (grow (redrawn w1 d) os).cell? ⟨b1, o1 + g, none⟩ = some (.int .i64 (s.si.z g)) := fun d os => cell_regrown y1 d os
      have r5 : ∀ d os, (grow (redrawn w1 d) os).cell? ⟨b2, o2 + g, none⟩ = some (.int .i64 (s.so.z g)) := fun d os => cell_regrown y2 d os
      have r6 : ∀ d os, (grow (redrawn w1 d) os).cell? ⟨b3, o3 + g, none⟩ = some (.int .i64 (s.sf.z g)) := fun d os => cell_regrown y3 d os
      have q1 : (0 : Int) ≤ (g : Int) := by omega
      have HE : Hid (wrongGood p s g = (!(sumTo (fun i => (s.on.r i).z g) s.on.n == s.si.z g - s.so.z g + s.sf.z g) || anyB p.nb (fun b => decide (availZ s b g < 0)))) := wrongGood_eq
      clear e4 e5 e6 y1 y2 y3 a1 a2 a3 hpk hsk hB
      generalize sumTo (fun i => (s.on.r i).z g) s.on.n = A at *
      generalize s.si.z g = I1 at *
      generalize s.so.z g = I2 at *
      generalize s.sf.z g = I3 at *
      go_wp2_with fail
      refine wp_region_quiet_below (by kernel_rfl) (by kernel_rfl) ?_
      repeat (go_big_quiet_step (fail))
      refine wpQuiet_nil ?_
      intro _ hw'
      obtain ⟨⟨dq, osq⟩, hw''⟩ := hw'
      subst hw''
      have hD := hC.trans ((below_regrown w1 dq osq).mono hC.size)
      clear r1 r2 r3 r4 r5 r6 hC
      generalize grow (redrawn w1 dq) osq = wz at *
      cases h1 : (A == I1 - I2 + I3)
      · have HT : Hid (wrongGood p s g = true) := by show wrongGood p s g = true; rw [HE.out, h1]; rfl
        have h1' : (A != I1 - I2 + I3) = true := by simp [bne, h1]
        rw [h1']
        clear h1 h1' HE
        go_wp2_with fail
        go_ret
        exact ⟨by rw [wrongGoodsB, anyB_yes hlt HT.out]; rfl, hWB.trans (hD.mono hWB.size)⟩
      · have h1' : (A != I1 - I2 + I3) = false := by simp [bne, h1]
        have HT : Hid (wrongGood p s g = anyB p.nb (fun b => decide (availZ s b g < 0))) := by show wrongGood p s g = _; rw [HE.out, h1]; rfl
        rw [h1']
        clear h1 h1' HE
        obtain ⟨X, hpk, hsk⟩ := HC.out wz hD
        obtain ⟨⟨hl1, d0, d1⟩, hl2, c0, c1, c2, c3, c4, c5, c6⟩ := X
        clear c0 c1 c2 c3 c4 c5 c6 d1 hpk hsk
        have pl1 := hp.leb
        have pl2 := hp.capb
        unfold maxLen at pl2
        go_wp2_with fail
        go_loopw [45] (fun i wk => ∃ b : Nat, b ≤ p.nb ∧ i = .int .i64 b ∧ (∀ j, j < b → decide (availZ s j g < 0) = false) ∧ Below W0.heap.size W0 wk) (fun i _ => p.nb - (intOf i).toNat)
        case atStart => exact ⟨0, Nat.zero_le _, rfl, fun j hj => absurd hj (Nat.not_lt_zero _), hD⟩
        case round =>
          clear hD hl1 hl2 d0
          obtain ⟨b, hb, rfl, hno, hB⟩ := hrel
          have HM : Hid (∀ j, j < b → decide (availZ s j g < 0) = false) := hno
          clear hno
          by_cases hlb : b < p.nb
          · obtain ⟨X, hpk, hsk⟩ := HC.out wr hB
            obtain ⟨-, hl2, c0, c1, c2, c3, c4, c5, c6⟩ := X
            go_wp2_with fail
            refine (avail_any p s b g wr hsk HF.out hlb hlt).mono ?_
            rintro e w2 ⟨rfl, hB2⟩
            clear hl2 c0 c1 c2 c3 c4 c5 c6 hpk hsk
            have hC := hB.trans (hB2.mono hB.size)
            clear hB2
            cases ha : decide (availZ s b g < 0)
            · have HA : Hid (decide (availZ s b g < 0) = false) := ha
              have ha' : ¬ availZ s b g < 0 := of_decide_eq_false ha
              generalize availZ s b g = AV at ha' ⊢
              clear ha
              go_wp2_with fail
              go_roundw
              case rel =>
                refine ⟨b + 1, by omega, by go_num, ?_, hC⟩
                intro j hj
                by_cases hjk : j = b
                · rw [hjk]; exact HA.out
                · exact HM.out j (by omega)
              case measure => simp [intOf]; omega
            · have HA : Hid (wrongGood p s g = true) := by show wrongGood p s g = true; rw [HT.out]; exact anyB_yes hlb ha
              have ha' : availZ s b g < 0 := of_decide_eq_true ha
              generalize availZ s b g = AV at ha' ⊢
              clear ha
              go_wp2_with fail
              go_ret
              exact ⟨by rw [wrongGoodsB, anyB_yes hlt HA.out]; rfl, hWB.trans (hC.mono hWB.size)⟩
          · have HA : Hid (wrongGood p s g = false) := by show wrongGood p s g = false; rw [HT.out]; exact anyB_no fun j hj => HM.out j (by omega)
            go_wp2_with fail
            go_roundw
            case rel =>
              refine ⟨g + 1, by omega, by go_num, ?_, hB⟩
              intro j hj
              by_cases hjk : j = g
              · rw [hjk]; exact HA.out
              · exact HN.out j (by omega)
            case measure => simp [intOf]; omega
    · go_wp2_with fail
      go_ret
      exact ⟨by rw [wrongGoodsB, anyB_no fun j hj => HN.out j (by omega)]; rfl, hWB.trans (hB.mono hWB.size)⟩

theorem kept_ok {s : Hs} {o l : Int} (h : anyB s.n (badH s.z) = false) : (if checkH s.n s.z = 0 then keptS s.z o l s.n else 0) = keptS s.z o l s.n ∧ checkH s.n s.z = 0 := by
  have : checkH s.n s.z = 0 := by simp [checkH, h]
  exact ⟨if_pos this, this⟩

theorem wrongOrder_eq {s : St} {i : Nat} : wrongOrder s i = (((s.os.z i).k == 1 && !anyB (s.os.z i).ls.n (fun j => lacksL ((s.os.z i).ls.z j))) || anyB (s.os.z i).ls.n (fun j => wrongL (s.os.z i).k ((s.os.z i).ls.z j) (keptS s.hs.z i j s.hs.n))) := rfl

set_option maxHeartbeats 4000000 in
theorem wrongOrders_any (p : Pl) (s : St) (w : World) (hs : s.At w) (f : Formed p s) :
    Calls Try.prog 40 #[s.val] w fun e w' => e = .returned (.bool (wrongOrdersB s)) ∧ Below w.heap.size w w' := by
  obtain ⟨W0, hW0, hWB, hX⟩ : ∃ W0, w.alloc (.cells s.cells 31) = W0 ∧ Below w.heap.size w W0 ∧ Blk W0 w.heap.size 31 7 (fun j => s.cells.getD j default) := ⟨_, rfl, (Below.refl w.heap.size w).alloc (Nat.le_refl _) _, Blk.mk' rfl rfl⟩
  have hs0 := hs.below hWB
  have HC : Hid (∀ wk, Below W0.heap.size W0 wk → s.At wk ∧ wk.cell? ⟨w.heap.size, 2, none⟩ = some (.slice s.hs.a s.hs.n s.hs.c) ∧ w.heap.size < wk.heap.size) :=
    fun wk h => ⟨hs0.below h, (hX.below h).cell (j := 2) (by decide), (hX.below h).lt⟩
  have HW : Hid (w.alloc (.cells #[.slice s.on.a s.on.n s.on.c, .slice s.os.a s.os.n s.os.c, .slice s.hs.a s.hs.n s.hs.c, .slice s.ms.a s.ms.n s.ms.c, .slice s.si.a s.si.n s.si.c, .slice s.so.a s.so.n s.so.c, .slice s.sf.a s.sf.n s.sf.c] 31) = W0) := hW0
  have os4 := f.os4
  have osle := hs.os.le
  have oscap := hs.os.cap
  have h72 := f.hs72
  have HF : Hid (Formed p s) := f
  unfold maxLen at oscap
  clear hW0 hX hs0 f
  unfold St.val
  go_enter Try.func40, Try.ntmps40
  go_wp2_with fail
  rw [HW.out]
  go_loopw [12] (fun i wk => ∃ k : Nat, k ≤ s.os.n ∧ i = .int .i64 k ∧ (∀ j, j < k → wrongOrder s j = false) ∧ Below W0.heap.size W0 wk) (fun i _ => s.os.n - (intOf i).toNat)
  case atStart => exact ⟨0, Nat.zero_le _, rfl, fun j hj => absurd hj (Nat.not_lt_zero _), Below.refl _ _⟩
  case round =>
    obtain ⟨i, hi, rfl, hno, hB⟩ := hrel
    have HN : Hid (∀ j, j < i → wrongOrder s j = false) := hno
    clear hno
    by_cases hlt : i < s.os.n
    · obtain ⟨hsk, c2, hl0⟩ := HC.out wr hB
      obtain ⟨b, o, hoa, hb, z0, z1, hl⟩ := hsk.os.ods i hlt
      have q1 : (0 : Int) ≤ (i : Int) := by omega
      have HE : Hid (wrongOrder s i = (((s.os.z i).k == 1 && !anyB (s.os.z i).ls.n (fun j => lacksL ((s.os.z i).ls.z j))) || anyB (s.os.z i).ls.n (fun j => wrongL (s.os.z i).k ((s.os.z i).ls.z j) (keptS s.hs.z i j s.hs.n)))) := wrongOrder_eq
      have HL : Hid (∀ j, j < (s.os.z i).ls.n → (0 ≤ ((s.os.z i).ls.z j).b ∧ ((s.os.z i).ls.z j).b ≤ 200) ∧ (0 ≤ ((s.os.z i).ls.z j).n ∧ ((s.os.z i).ls.z j).n ≤ 200) ∧ 0 ≤ keptS s.hs.z i j s.hs.n ∧ keptS s.hs.z i j s.hs.n ≤ 14400) := fun j hj => by
        have a := badLine_no (HF.out.line i hlt j hj)
        have c := keptS_bd (z := s.hs.z) (i : Int) (j : Int) s.hs.n HF.out.holdN
        omega
      have n3 := (HF.out.lns i hlt).2
      have HB : Hid (b < wr.heap.size) := hb
      rw [hoa]
      clear hoa hsk c2
      generalize (s.os.z i).k = KD at *
      generalize (s.os.z i).ls = LS at *
      obtain ⟨W1, hW1, hB1, hY⟩ : ∃ W1, wr.alloc (.cells #[.int .i64 KD, .slice LS.a LS.n LS.c] 51) = W1 ∧ Below W0.heap.size W0 W1 ∧ Blk W1 wr.heap.size 51 2 (fun j => (#[.int .i64 KD, .slice LS.a LS.n LS.c] : Array Value).getD j default) := ⟨_, rfl, hB.alloc hB.size _, Blk.mk' rfl rfl⟩
      have HV : Hid (wr.alloc (.cells #[.int .i64 KD, .slice LS.a LS.n LS.c] 51) = W1) := hW1
      have hl1 : LS.At W1 := by rw [← hW1]; exact hl.below ((Below.refl _ _).alloc (Nat.le_refl _) _)
      clear hW1
      cases h1 : (KD == 1)
      · have HE2 : Hid (wrongOrder s i = anyB LS.n (fun j => wrongL KD (LS.z j) (keptS s.hs.z i j s.hs.n))) := by show wrongOrder s i = _; rw [HE.out, h1]; rfl
        clear HE
        go_wp2_with fail
        rw [HV.out]
        have hBW := hB1
        have hlW := hl1
        have hYW := hY
        obtain ⟨B4, hB4⟩ : ∃ B4, wr.heap.size = B4 := ⟨_, rfl⟩
        rw [hB4] at hYW ⊢
        have HD : Hid (∀ wk, Below W1.heap.size W1 wk → LS.At wk ∧ wk.cell? ⟨B4, 0, none⟩ = some (.int .i64 KD) ∧ B4 < wk.heap.size ∧ Below W0.heap.size W0 wk) := fun wk h => ⟨hlW.below h, (hYW.below h).cell (j := 0) (by decide), (hYW.below h).lt, hBW.trans (h.mono hBW.size)⟩
        clear hlW hYW hl hB hl0 z0 z1 hB4 hB1 hl1 hY HV HB hb
        go_loopw [29] (fun i0 wk => ∃ k : Nat, k ≤ LS.n ∧ i0 = .int .i64 k ∧ (∀ j, j < k → wrongL KD (LS.z j) (keptS s.hs.z i j s.hs.n) = false) ∧ Below W1.heap.size W1 wk) (fun i0 _ => LS.n - (intOf i0).toNat)
        case atStart => exact ⟨0, Nat.zero_le _, rfl, fun j hj => absurd hj (Nat.not_lt_zero _), Below.refl _ _⟩
        case round =>
          obtain ⟨j, hj, rfl, hno, hBr⟩ := hrel
          have HM : Hid (∀ j', j' < j → wrongL KD (LS.z j') (keptS s.hs.z i j' s.hs.n) = false) := hno
          clear hno
          by_cases hlj : j < LS.n
          · obtain ⟨hlk, d0, hl2, hBk⟩ := HD.out wr hBr
            obtain ⟨hsk, c2, hl0⟩ := HC.out wr hBk
            obtain ⟨b', o', hla, hb', y0, y1, y2, y3⟩ := hlk.hds j hlj
            have q2 : (0 : Int) ≤ (j : Int) := by omega
            obtain ⟨k1, k2, k3⟩ := HL.out j hlj
            have HT : Hid (wrongL KD (LS.z j) (keptS s.hs.z i j s.hs.n) = true → wrongOrder s i = true) := fun h => by rw [HE2.out]; exact anyB_yes hlj h
            have HU : Hid (wrongL KD (LS.z j) (keptS s.hs.z i j s.hs.n) = false → ∀ j', j' < j + 1 → wrongL KD (LS.z j') (keptS s.hs.z i j' s.hs.n) = false) := fun h j' hj' => by
              by_cases hjk : j' = j
              · rw [hjk]; exact h
              · exact HM.out j' (by omega)
            have hKO := kept_ok (s := s.hs) (o := i) (l := j) HF.out.hold
            have hBn := (Below.refl wr.heap.size wr).alloc (Nat.le_refl _) (.cells #[.int .i64 (LS.z j).o, .int .i64 (LS.z j).l, .int .i64 (LS.z j).b, .int .i64 (LS.z j).n] 53)
            have hYn := Blk.new wr #[.int .i64 (LS.z j).o, .int .i64 (LS.z j).l, .int .i64 (LS.z j).b, .int .i64 (LS.z j).n] 53
            have HKO : Hid ((if checkH s.hs.n s.hs.z = 0 then keptS s.hs.z i j s.hs.n else 0) = keptS s.hs.z i j s.hs.n ∧ checkH s.hs.n s.hs.z = 0) := hKO
            rw [hla]
            clear hla hlk HM hKO
            generalize LS.z j = LZ at *
            go_wp2_with fail
            refine (Kept_any s.hs i j _ (hsk.hs.below hBn)).mono ?_
            rintro e w3 ⟨rfl, hB3⟩
            rw [HKO.out.1, HKO.out.2]
            generalize keptS s.hs.z i j s.hs.n = KP at *
            have hB4 := hBn.trans (hB3.mono hBn.size)
            have hY3 := hYn.below hB3
            have d0 := (hB4.cell (p := ⟨B4, 0, none⟩) hl2).trans d0
            have hl2 := Nat.lt_of_lt_of_le hl2 hB4.size
            have t0 : w3.cell? ⟨wr.heap.size, 0, none⟩ = some (.int .i64 LZ.o) := hY3.cell (j := 0) (by simp)
            have t1 : w3.cell? ⟨wr.heap.size, 1, none⟩ = some (.int .i64 LZ.l) := hY3.cell (j := 1) (by simp)
            have t2 : w3.cell? ⟨wr.heap.size, 2, none⟩ = some (.int .i64 LZ.b) := hY3.cell (j := 2) (by simp)
            have t3 : w3.cell? ⟨wr.heap.size, 3, none⟩ = some (.int .i64 LZ.n) := hY3.cell (j := 3) (by simp)
            have hlt3 := hY3.lt
            have hB5 := hBr.trans (hB4.mono hBr.size)
            have hB6 := hBk.trans (hB4.mono hBk.size)
            clear hB3 hYn hBn hY3 hB4 hsk c2 y0 y1 y2 y3 hBr hBk HKO
            go_wp2_with fail
            refine (wrongLine_any KD LZ KP w3 k1 k2 k3).mono ?_
            rintro e w5 ⟨rfl, hB7⟩
            have hB8 := hB5.trans (hB7.mono hB5.size)
            have hB9 := hB6.trans (hB7.mono hB6.size)
            clear hB7 hB5 hB6 t0 t1 t2 t3 d0
            cases hw : wrongL KD LZ KP
            · have HX := HU.out hw
              have HX2 : Hid _ := HX
              clear hw HX HU HT
              go_wp2_with fail
              go_roundw
              case rel => exact ⟨j + 1, by omega, by go_num, HX2.out, hB8⟩
              case measure => simp [intOf]; omega
            · have HX := HT.out hw
              have HX2 : Hid (wrongOrder s i = true) := HX
              clear hw HX HU HT
              go_wp2_with fail
              go_ret
              exact ⟨by rw [wrongOrdersB, anyB_yes hlt HX2.out]; rfl, hWB.trans (hB9.mono hWB.size)⟩
          · have HA : Hid (wrongOrder s i = false) := by show wrongOrder s i = false; rw [HE2.out]; exact anyB_no fun j' hj' => HM.out j' (by omega)
            have hBk := (HD.out wr hBr).2.2.2
            go_wp2_with fail
            go_roundw
            case rel =>
              refine ⟨i + 1, by omega, by go_num, ?_, hBk⟩
              intro j' hj'
              by_cases hjk : j' = i
              · rw [hjk]; exact HA.out
              · exact HN.out j' (by omega)
            case measure => simp [intOf]; omega
      · have lle1 := hl1.le
        have lcap0 := hl1.cap
        have lcap := lcap0
        unfold maxLen at lcap
        go_wp2_with fail
        rw [HV.out]
        refine (anyL4 83 #[] (fun j => lacksL (LS.z j)) _ _ _ _ lle1 lcap0 LS.z hl1.hds (enters_of Try.func83 (by kernel_rfl) rfl) (fun i w1 _ _ => by rw [Array.append_empty]; exact lacks_any _ _)).mono ?_
        rintro e W2 ⟨rfl, hBl⟩
        have hB12 := hB1.trans (hBl.mono hB1.size)
        have hl12 := hl1.below hBl
        have hY2 := hY.below hBl
        have d1 := hY2.cell (j := 1) (by simp)
        have d1' : W2.cell? ⟨wr.heap.size, 1, none⟩ = some (.slice LS.a LS.n LS.c) := d1
        have hlW2 := hY2.lt
        clear d1 hBl
        cases h2 : anyB LS.n (fun j => lacksL (LS.z j))
        · have HX2 : Hid (wrongOrder s i = true) := by show wrongOrder s i = true; rw [HE.out, h1, h2]; rfl
          clear h2
          go_wp2_with fail
          go_ret
          exact ⟨by rw [wrongOrdersB, anyB_yes hlt HX2.out]; rfl, hWB.trans (hB12.mono hWB.size)⟩
        · have HE2 : Hid (wrongOrder s i = anyB LS.n (fun j => wrongL KD (LS.z j) (keptS s.hs.z i j s.hs.n))) := by show wrongOrder s i = _; rw [HE.out, h1, h2]; rfl
          clear HE h2
          go_wp2_with fail
          clear d1' hlW2
          have hBW := hB12
          have hlW := hl12
          have hYW := hY2
          obtain ⟨B4, hB4⟩ : ∃ B4, wr.heap.size = B4 := ⟨_, rfl⟩
          rw [hB4] at hYW ⊢
          have HD : Hid (∀ wk, Below W2.heap.size W2 wk → LS.At wk ∧ wk.cell? ⟨B4, 0, none⟩ = some (.int .i64 KD) ∧ B4 < wk.heap.size ∧ Below W0.heap.size W0 wk) := fun wk h => ⟨hlW.below h, (hYW.below h).cell (j := 0) (by decide), (hYW.below h).lt, hBW.trans (h.mono hBW.size)⟩
          clear hlW hYW hl hB hl0 z0 z1 hB4 hB1 hl1 hY HV HB hb hB12 hl12 hY2
          go_loopw [29] (fun i0 wk => ∃ k : Nat, k ≤ LS.n ∧ i0 = .int .i64 k ∧ (∀ j, j < k → wrongL KD (LS.z j) (keptS s.hs.z i j s.hs.n) = false) ∧ Below W2.heap.size W2 wk) (fun i0 _ => LS.n - (intOf i0).toNat)
          case atStart => exact ⟨0, Nat.zero_le _, rfl, fun j hj => absurd hj (Nat.not_lt_zero _), Below.refl _ _⟩
          case round =>
            obtain ⟨j, hj, rfl, hno, hBr⟩ := hrel
            have HM : Hid (∀ j', j' < j → wrongL KD (LS.z j') (keptS s.hs.z i j' s.hs.n) = false) := hno
            clear hno
            by_cases hlj : j < LS.n
            · obtain ⟨hlk, d0, hl2, hBk⟩ := HD.out wr hBr
              obtain ⟨hsk, c2, hl0⟩ := HC.out wr hBk
              obtain ⟨b', o', hla, hb', y0, y1, y2, y3⟩ := hlk.hds j hlj
              have q2 : (0 : Int) ≤ (j : Int) := by omega
              obtain ⟨k1, k2, k3⟩ := HL.out j hlj
              have HT : Hid (wrongL KD (LS.z j) (keptS s.hs.z i j s.hs.n) = true → wrongOrder s i = true) := fun h => by rw [HE2.out]; exact anyB_yes hlj h
              have HU : Hid (wrongL KD (LS.z j) (keptS s.hs.z i j s.hs.n) = false → ∀ j', j' < j + 1 → wrongL KD (LS.z j') (keptS s.hs.z i j' s.hs.n) = false) := fun h j' hj' => by
                by_cases hjk : j' = j
                · rw [hjk]; exact h
                · exact HM.out j' (by omega)
              have hKO := kept_ok (s := s.hs) (o := i) (l := j) HF.out.hold
              have hBn := (Below.refl wr.heap.size wr).alloc (Nat.le_refl _) (.cells #[.int .i64 (LS.z j).o, .int .i64 (LS.z j).l, .int .i64 (LS.z j).b, .int .i64 (LS.z j).n] 53)
              have hYn := Blk.new wr #[.int .i64 (LS.z j).o, .int .i64 (LS.z j).l, .int .i64 (LS.z j).b, .int .i64 (LS.z j).n] 53
              have HKO : Hid ((if checkH s.hs.n s.hs.z = 0 then keptS s.hs.z i j s.hs.n else 0) = keptS s.hs.z i j s.hs.n ∧ checkH s.hs.n s.hs.z = 0) := hKO
              rw [hla]
              clear hla hlk HM hKO
              generalize LS.z j = LZ at *
              go_wp2_with fail
              refine (Kept_any s.hs i j _ (hsk.hs.below hBn)).mono ?_
              rintro e w3 ⟨rfl, hB3⟩
              rw [HKO.out.1, HKO.out.2]
              generalize keptS s.hs.z i j s.hs.n = KP at *
              have hB4 := hBn.trans (hB3.mono hBn.size)
              have hY3 := hYn.below hB3
              have d0 := (hB4.cell (p := ⟨B4, 0, none⟩) hl2).trans d0
              have hl2 := Nat.lt_of_lt_of_le hl2 hB4.size
              have t0 : w3.cell? ⟨wr.heap.size, 0, none⟩ = some (.int .i64 LZ.o) := hY3.cell (j := 0) (by simp)
              have t1 : w3.cell? ⟨wr.heap.size, 1, none⟩ = some (.int .i64 LZ.l) := hY3.cell (j := 1) (by simp)
              have t2 : w3.cell? ⟨wr.heap.size, 2, none⟩ = some (.int .i64 LZ.b) := hY3.cell (j := 2) (by simp)
              have t3 : w3.cell? ⟨wr.heap.size, 3, none⟩ = some (.int .i64 LZ.n) := hY3.cell (j := 3) (by simp)
              have hlt3 := hY3.lt
              have hB5 := hBr.trans (hB4.mono hBr.size)
              have hB6 := hBk.trans (hB4.mono hBk.size)
              clear hB3 hYn hBn hY3 hB4 hsk c2 y0 y1 y2 y3 hBr hBk HKO
              go_wp2_with fail
              refine (wrongLine_any KD LZ KP w3 k1 k2 k3).mono ?_
              rintro e w5 ⟨rfl, hB7⟩
              have hB8 := hB5.trans (hB7.mono hB5.size)
              have hB9 := hB6.trans (hB7.mono hB6.size)
              clear hB7 hB5 hB6 t0 t1 t2 t3 d0
              cases hw : wrongL KD LZ KP
              · have HX := HU.out hw
                have HX2 : Hid _ := HX
                clear hw HX HU HT
                go_wp2_with fail
                go_roundw
                case rel => exact ⟨j + 1, by omega, by go_num, HX2.out, hB8⟩
                case measure => simp [intOf]; omega
              · have HX := HT.out hw
                have HX2 : Hid (wrongOrder s i = true) := HX
                clear hw HX HU HT
                go_wp2_with fail
                go_ret
                exact ⟨by rw [wrongOrdersB, anyB_yes hlt HX2.out]; rfl, hWB.trans (hB9.mono hWB.size)⟩
            · have HA : Hid (wrongOrder s i = false) := by show wrongOrder s i = false; rw [HE2.out]; exact anyB_no fun j' hj' => HM.out j' (by omega)
              have hBk := (HD.out wr hBr).2.2.2
              go_wp2_with fail
              go_roundw
              case rel =>
                refine ⟨i + 1, by omega, by go_num, ?_, hBk⟩
                intro j' hj'
                by_cases hjk : j' = i
                · rw [hjk]; exact HA.out
                · exact HN.out j' (by omega)
              case measure => simp [intOf]; omega
    · go_wp2_with fail
      go_ret
      exact ⟨by rw [wrongOrdersB, anyB_no fun j hj => HN.out j (by omega)]; rfl, hWB.trans (hB.mono hWB.size)⟩

end Go.Proofs.Ytjiodlbblmbibac

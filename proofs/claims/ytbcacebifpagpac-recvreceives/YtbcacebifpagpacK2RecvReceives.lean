/- Texts that were built one behind the other, joined; what RecvReceives does not reach is left out. -/
import Derived.Test.YtbcacebifpagpacK1RecvReceives
import Derived.Maps.AppendAt
import Derived.ArgAppend
import Derived.Deep.Upon
namespace Go.Proofs.Ytbcacebifpagpac
open Go.RowKit Go.Shelf Go.Sort
set_option linter.unusedVariables false
theorem sum_ok {p : Pl} {s : Sh} {g : Nat} (h0 : shelfE p s = 0) (hg : g < p.ns) : sumE p s (g : Int) = 0 ∧ sumV p s (g : Int) = sumTo (fun i => (s.r i).z g) s.n := by
  have h : sumE p s (g : Int) = 0 := by
    unfold sumE
    rw [h0, inB_mk ⟨by omega, by omega⟩]
    rfl
  exact ⟨h, by simp [sumV, h]⟩
theorem wrongGood_eq {p : Pl} {s : St} {g : Nat} : wrongGood p s g = (!(sumTo (fun i => (s.on.r i).z g) s.on.n == s.si.z g - s.so.z g + s.sf.z g) || anyB p.nb (fun b => decide (availZ s b g < 0))) := rfl
set_option maxHeartbeats 4000000 in
theorem wrongGoods_any (p : Pl) (s : St) (w : World) (hp : p.At w) (hs : s.At w) (f : Formed p s) :
    Calls Try.prog 39 #[p.val, s.val] w fun e w' => e = .returned (.bool (wrongGoodsB p s)) ∧ Below w.heap.size w w' := by
  obtain ⟨W0, hW, hWB, X0⟩ : ∃ W, ((w.alloc (.cells #[.slice p.ab p.nb p.cb, .slice p.sa p.ns p.cs] 25)).alloc (.cells s.cells 31)) = W ∧ Below w.heap.size w W ∧ Boxes W w.heap.size (w.heap.size + 1) p s := ⟨_, rfl, two_below _ _ _, boxes_new w p s _ _⟩
  have HC : Hid (∀ wk, Below W0.heap.size W0 wk → Boxes wk w.heap.size (w.heap.size + 1) p s ∧ p.At wk ∧ s.At wk) := fun wk h => ⟨X0.below h, (hp.below hWB).below h, (hs.below hWB).below h⟩
  have HW : Hid ((w.alloc (.cells #[.slice p.ab p.nb p.cb, .slice p.sa p.ns p.cs] 25)).alloc (.cells #[.slice s.on.a s.on.n s.on.c, .slice s.os.a s.os.n s.os.c, .slice s.hs.a s.hs.n s.hs.c, .slice s.ms.a s.ms.n s.ms.c, .slice s.si.a s.si.n s.si.c, .slice s.so.a s.so.n s.so.c, .slice s.sf.a s.sf.n s.sf.c] 31) = W0) := hW
  have ns3 := f.sh.pl.ns3
  have nb6 := f.sh.pl.nb6
  have HF : Hid (Formed p s) := f
  have HSB : Hid (∀ g, g < p.ns → 0 ≤ sumTo (fun i => (s.on.r i).z g) s.on.n ∧ sumTo (fun i => (s.on.r i).z g) s.on.n ≤ 1200) := fun g hg => by
    have := sumTo_bd (z := fun i => (s.on.r i).z g) (n := s.on.n) (fun j hj => f.sh.num j hj g hg) s.on.n (Nat.le_refl _)
    have := f.sh.n
    omega
  clear hW X0 f
  unfold Pl.val St.val
  go_enter Try.func39, Try.ntmps39
  go_wp2_with fail
  rw [HW.out]
  go_loopw [12] (fun i wk => ∃ g : Nat, g ≤ p.ns ∧ i = .int .i64 g ∧ (∀ j, j < g → wrongGood p s j = false) ∧ Below W0.heap.size W0 wk) (fun i _ => p.ns - (intOf i).toNat)
  case atStart => exact ⟨0, Nat.zero_le _, rfl, fun j hj => absurd hj (Nat.not_lt_zero _), Below.refl _ _⟩
  case round =>
    obtain ⟨g, hg, rfl, hno, hB⟩ := hrel
    have HN : Hid (∀ j, j < g → wrongGood p s j = false) := hno
    clear hno
    by_cases hlt : g < p.ns
    · obtain ⟨X, hpk, hsk⟩ := HC.out wr hB
      obtain ⟨⟨hl1, d0, d1⟩, hl2, c0, -⟩ := X
      obtain ⟨hs0, hsv⟩ := sum_ok HF.out.sh0 hlt
      go_wp2_with fail
      refine (Sum_any p s.on g wr hpk hsk.on).mono ?_
      rintro e w1 ⟨rfl, hB1⟩
      rw [hs0, hsv]
      clear hs0 hsv hl1 hl2 d0 d1 c0 hpk hsk
      have hC := hB.trans (hB1.mono hB.size)
      clear hB1
      obtain ⟨X, hpk, hsk⟩ := HC.out w1 hC
      obtain ⟨-, hl2, -, -, -, -, e4, e5, e6⟩ := X
      obtain ⟨b1, o1, a1, g1, y1⟩ := hsk.si.ints g (by rw [HF.out.sin]; exact hlt)
      obtain ⟨b2, o2, a2, g2, y2⟩ := hsk.so.ints g (by rw [HF.out.son]; exact hlt)
      obtain ⟨b3, o3, a3, g3, y3⟩ := hsk.sf.ints g (by rw [HF.out.sfn]; exact hlt)
      have u1 := HF.out.sib g hlt
      have u2 := HF.out.sob g hlt
      have u3 := HF.out.sfb g hlt
      have u4 := HSB.out g hlt
      rw [a1, HF.out.sin] at e4
      rw [a2, HF.out.son] at e5
      rw [a3, HF.out.sfn] at e6
      have v1 := hsk.si.le
      have v2 := hsk.so.le
      have v3 := hsk.sf.le
      have v4 := hsk.si.cap
      have v5 := hsk.so.cap
      have v6 := hsk.sf.cap
      rw [HF.out.sin] at v1
      rw [HF.out.son] at v2
      rw [HF.out.sfn] at v3
      unfold maxLen at v4 v5 v6
      have r1 : ∀ d os, (grow (redrawn w1 d) os).cell? ⟨w.heap.size + 1, 4, none⟩ = some (.slice (some ⟨b1, o1, none⟩) p.ns s.si.c) := fun d os => cell_regrown e4 d os
      have r2 : ∀ d os, (grow (redrawn w1 d) os).cell? ⟨w.heap.size + 1, 5, none⟩ = some (.slice (some ⟨b2, o2, none⟩) p.ns s.so.c) := fun d os => cell_regrown e5 d os
      have r3 : ∀ d os, (grow (redrawn w1 d) os).cell? ⟨w.heap.size + 1, 6, none⟩ = some (.slice (some ⟨b3, o3, none⟩) p.ns s.sf.c) := fun d os => cell_regrown e6 d os
      have r4 : ∀ d os, (grow (redrawn w1 d) os).cell? ⟨b1, o1 + g, none⟩ = some (.int .i64 (s.si.z g)) := fun d os => cell_regrown y1 d os
      have r5 : ∀ d os, (grow (redrawn w1 d) os).cell? ⟨b2, o2 + g, none⟩ = some (.int .i64 (s.so.z g)) := fun d os => cell_regrown y2 d os
      have r6 : ∀ d os, (grow (redrawn w1 d) os).cell? ⟨b3, o3 + g, none⟩ = some (.int .i64 (s.sf.z g)) := fun d os => cell_regrown y3 d os
      have q1 : (0 : Int) ≤ (g : Int) := by omega
      have HE : Hid (wrongGood p s g = (!(sumTo (fun i => (s.on.r i).z g) s.on.n == s.si.z g - s.so.z g + s.sf.z g) || anyB p.nb (fun b => decide (availZ s b g < 0)))) := wrongGood_eq
      clear e4 e5 e6 y1 y2 y3 a1 a2 a3 hpk hsk hB
      generalize sumTo (fun i => (s.on.r i).z g) s.on.n = A at *
      generalize s.si.z g = I1 at *
      generalize s.so.z g = I2 at *
      generalize s.sf.z g = I3 at *
      go_wp2_with fail
      refine wp_region_quiet_below (by kernel_rfl) (by kernel_rfl) ?_
      repeat (go_big_quiet_step (fail))
      refine wpQuiet_nil ?_
      intro _ hw'
      obtain ⟨⟨dq, osq⟩, hw''⟩ := hw'
      subst hw''
      have hD := hC.trans ((below_regrown w1 dq osq).mono hC.size)
      clear r1 r2 r3 r4 r5 r6 hC
      generalize grow (redrawn w1 dq) osq = wz at *
      cases h1 : (A == I1 - I2 + I3)
      · have HT : Hid (wrongGood p s g = true) := by show wrongGood p s g = true; rw [HE.out, h1]; rfl
        have h1' : (A != I1 - I2 + I3) = true := by simp [bne, h1]
        rw [h1']
        clear h1 h1' HE
        go_wp2_with fail
        go_ret
        exact ⟨by rw [wrongGoodsB, anyB_yes hlt HT.out]; rfl, hWB.trans (hD.mono hWB.size)⟩
      · have h1' : (A != I1 - I2 + I3) = false := by simp [bne, h1]
        have HT : Hid (wrongGood p s g = anyB p.nb (fun b => decide (availZ s b g < 0))) := by show wrongGood p s g = _; rw [HE.out, h1]; rfl
        rw [h1']
        clear h1 h1' HE
        obtain ⟨X, hpk, hsk⟩ := HC.out wz hD
        obtain ⟨⟨hl1, d0, d1⟩, hl2, c0, c1, c2, c3, c4, c5, c6⟩ := X
        clear c0 c1 c2 c3 c4 c5 c6 d1 hpk hsk
        have pl1 := hp.leb
        have pl2 := hp.capb
        unfold maxLen at pl2
        go_wp2_with fail
        go_loopw [45] (fun i wk => ∃ b : Nat, b ≤ p.nb ∧ i = .int .i64 b ∧ (∀ j, j < b → decide (availZ s j g < 0) = false) ∧ Below W0.heap.size W0 wk) (fun i _ => p.nb - (intOf i).toNat)
        case atStart => exact ⟨0, Nat.zero_le _, rfl, fun j hj => absurd hj (Nat.not_lt_zero _), hD⟩
        case round =>
          clear hD hl1 hl2 d0
          obtain ⟨b, hb, rfl, hno, hB⟩ := hrel
          have HM : Hid (∀ j, j < b → decide (availZ s j g < 0) = false) := hno
          clear hno
          by_cases hlb : b < p.nb
          · obtain ⟨X, hpk, hsk⟩ := HC.out wr hB
            obtain ⟨-, hl2, c0, c1, c2, c3, c4, c5, c6⟩ := X
            go_wp2_with fail
            refine (avail_any p s b g wr hsk HF.out hlb hlt).mono ?_
            rintro e w2 ⟨rfl, hB2⟩
            clear hl2 c0 c1 c2 c3 c4 c5 c6 hpk hsk
            have hC := hB.trans (hB2.mono hB.size)
            clear hB2
            cases ha : decide (availZ s b g < 0)
            · have HA : Hid (decide (availZ s b g < 0) = false) := ha
              have ha' : ¬ availZ s b g < 0 := of_decide_eq_false ha
              generalize availZ s b g = AV at ha' ⊢
              clear ha
              go_wp2_with fail
              go_roundw
              case rel =>
                refine ⟨b + 1, by omega, by go_num, ?_, hC⟩
                intro j hj
                by_cases hjk : j = b
                · rw [hjk]; exact HA.out
                · exact HM.out j (by omega)
              case measure => simp [intOf]; omega
            · have HA : Hid (wrongGood p s g = true) := by show wrongGood p s g = true; rw [HT.out]; exact anyB_yes hlb ha
              have ha' : availZ s b g < 0 := of_decide_eq_true ha
              generalize availZ s b g = AV at ha' ⊢
              clear ha
              go_wp2_with fail
              go_ret
              exact ⟨by rw [wrongGoodsB, anyB_yes hlt HA.out]; rfl, hWB.trans (hC.mono hWB.size)⟩
          · have HA : Hid (wrongGood p s g = false) := by show wrongGood p s g = false; rw [HT.out]; exact anyB_no fun j hj => HM.out j (by omega)
            go_wp2_with fail
            go_roundw
            case rel =>
              refine ⟨g + 1, by omega, by go_num, ?_, hB⟩
              intro j hj
              by_cases hjk : j = g
              · rw [hjk]; exact HA.out
              · exact HN.out j (by omega)
            case measure => simp [intOf]; omega
    · go_wp2_with fail
      go_ret
      exact ⟨by rw [wrongGoodsB, anyB_no fun j hj => HN.out j (by omega)]; rfl, hWB.trans (hB.mono hWB.size)⟩
theorem kept_ok {s : Hs} {o l : Int} (h : anyB s.n (badH s.z) = false) : (if checkH s.n s.z = 0 then keptS s.z o l s.n else 0) = keptS s.z o l s.n ∧ checkH s.n s.z = 0 := by
  have : checkH s.n s.z = 0 := by simp [checkH, h]
  exact ⟨if_pos this, this⟩
theorem wrongOrder_eq {s : St} {i : Nat} : wrongOrder s i = (((s.os.z i).k == 1 && !anyB (s.os.z i).ls.n (fun j => lacksL ((s.os.z i).ls.z j))) || anyB (s.os.z i).ls.n (fun j => wrongL (s.os.z i).k ((s.os.z i).ls.z j) (keptS s.hs.z i j s.hs.n))) := rfl
set_option maxHeartbeats 4000000 in
theorem wrongOrders_any (p : Pl) (s : St) (w : World) (hs : s.At w) (f : Formed p s) :
    Calls Try.prog 40 #[s.val] w fun e w' => e = .returned (.bool (wrongOrdersB s)) ∧ Below w.heap.size w w' := by
  obtain ⟨W0, hW0, hWB, hX⟩ : ∃ W0, w.alloc (.cells s.cells 31) = W0 ∧ Below w.heap.size w W0 ∧ Blk W0 w.heap.size 31 7 (fun j => s.cells.getD j default) := ⟨_, rfl, (Below.refl w.heap.size w).alloc (Nat.le_refl _) _, Blk.mk' rfl rfl⟩
  have hs0 := hs.below hWB
  have HC : Hid (∀ wk, Below W0.heap.size W0 wk → s.At wk ∧ wk.cell? ⟨w.heap.size, 2, none⟩ = some (.slice s.hs.a s.hs.n s.hs.c) ∧ w.heap.size < wk.heap.size) :=
    fun wk h => ⟨hs0.below h, (hX.below h).cell (j := 2) (by decide), (hX.below h).lt⟩
  have HW : Hid (w.alloc (.cells #[.slice s.on.a s.on.n s.on.c, .slice s.os.a s.os.n s.os.c, .slice s.hs.a s.hs.n s.hs.c, .slice s.ms.a s.ms.n s.ms.c, .slice s.si.a s.si.n s.si.c, .slice s.so.a s.so.n s.so.c, .slice s.sf.a s.sf.n s.sf.c] 31) = W0) := hW0
  have os4 := f.os4
  have osle := hs.os.le
  have oscap := hs.os.cap
  have h72 := f.hs72
  have HF : Hid (Formed p s) := f
  unfold maxLen at oscap
  clear hW0 hX hs0 f
  unfold St.val
  go_enter Try.func40, Try.ntmps40
  go_wp2_with fail
  rw [HW.out]
  go_loopw [12] (fun i wk => ∃ k : Nat, k ≤ s.os.n ∧ i = .int .i64 k ∧ (∀ j, j < k → wrongOrder s j = false) ∧ Below W0.heap.size W0 wk) (fun i _ => s.os.n - (intOf i).toNat)
  case atStart => exact ⟨0, Nat.zero_le _, rfl, fun j hj => absurd hj (Nat.not_lt_zero _), Below.refl _ _⟩
  case round =>
    obtain ⟨i, hi, rfl, hno, hB⟩ := hrel
    have HN : Hid (∀ j, j < i → wrongOrder s j = false) := hno
    clear hno
    by_cases hlt : i < s.os.n
    · obtain ⟨hsk, c2, hl0⟩ := HC.out wr hB
      obtain ⟨b, o, hoa, hb, z0, z1, hl⟩ := hsk.os.ods i hlt
      have q1 : (0 : Int) ≤ (i : Int) := by omega
      have HE : Hid (wrongOrder s i = (((s.os.z i).k == 1 && !anyB (s.os.z i).ls.n (fun j => lacksL ((s.os.z i).ls.z j))) || anyB (s.os.z i).ls.n (fun j => wrongL (s.os.z i).k ((s.os.z i).ls.z j) (keptS s.hs.z i j s.hs.n)))) := wrongOrder_eq
      have HL : Hid (∀ j, j < (s.os.z i).ls.n → (0 ≤ ((s.os.z i).ls.z j).b ∧ ((s.os.z i).ls.z j).b ≤ 200) ∧ (0 ≤ ((s.os.z i).ls.z j).n ∧ ((s.os.z i).ls.z j).n ≤ 200) ∧ 0 ≤ keptS s.hs.z i j s.hs.n ∧ keptS s.hs.z i j s.hs.n ≤ 14400) := fun j hj => by
        have a := badLine_no (HF.out.line i hlt j hj)
        have c := keptS_bd (z := s.hs.z) (i : Int) (j : Int) s.hs.n HF.out.holdN
        omega
      have n3 := (HF.out.lns i hlt).2
      have HB : Hid (b < wr.heap.size) := hb
      rw [hoa]
      clear hoa hsk c2
      generalize (s.os.z i).k = KD at *
      generalize (s.os.z i).ls = LS at *
      obtain ⟨W1, hW1, hB1, hY⟩ : ∃ W1, wr.alloc (.cells #[.int .i64 KD, .slice LS.a LS.n LS.c] 51) = W1 ∧ Below W0.heap.size W0 W1 ∧ Blk W1 wr.heap.size 51 2 (fun j => (#[.int .i64 KD, .slice LS.a LS.n LS.c] : Array Value).getD j default) := ⟨_, rfl, hB.alloc hB.size _, Blk.mk' rfl rfl⟩
      have HV : Hid (wr.alloc (.cells #[.int .i64 KD, .slice LS.a LS.n LS.c] 51) = W1) := hW1
      have hl1 : LS.At W1 := by rw [← hW1]; exact hl.below ((Below.refl _ _).alloc (Nat.le_refl _) _)
      clear hW1
      cases h1 : (KD == 1)
      · have HE2 : Hid (wrongOrder s i = anyB LS.n (fun j => wrongL KD (LS.z j) (keptS s.hs.z i j s.hs.n))) := by show wrongOrder s i = _; rw [HE.out, h1]; rfl
        clear HE
        go_wp2_with fail
        rw [HV.out]
        have hBW := hB1
        have hlW := hl1
        have hYW := hY
        clear hB1 hl1 hY HV
        obtain ⟨W2, rfl⟩ : ∃ W2, W2 = W1 := ⟨_, rfl⟩
        obtain ⟨B4, hB4⟩ : ∃ B4, wr.heap.size = B4 := ⟨_, rfl⟩
        rw [hB4] at hYW ⊢
        have HD : Hid (∀ wk, Below W2.heap.size W2 wk → LS.At wk ∧ wk.cell? ⟨B4, 0, none⟩ = some (.int .i64 KD) ∧ B4 < wk.heap.size ∧ Below W0.heap.size W0 wk) := fun wk h => ⟨hlW.below h, (hYW.below h).cell (j := 0) (by decide), (hYW.below h).lt, hBW.trans (h.mono hBW.size)⟩
        clear hlW hYW hl hB hl0 z0 z1 hB4 HB hb
        go_loopw [29] (fun i0 wk => ∃ k : Nat, k ≤ LS.n ∧ i0 = .int .i64 k ∧ (∀ j, j < k → wrongL KD (LS.z j) (keptS s.hs.z i j s.hs.n) = false) ∧ Below W2.heap.size W2 wk) (fun i0 _ => LS.n - (intOf i0).toNat)
        case atStart => exact ⟨0, Nat.zero_le _, rfl, fun j hj => absurd hj (Nat.not_lt_zero _), Below.refl _ _⟩
        case round =>
          obtain ⟨j, hj, rfl, hno, hBr⟩ := hrel
          have HM : Hid (∀ j', j' < j → wrongL KD (LS.z j') (keptS s.hs.z i j' s.hs.n) = false) := hno
          clear hno
          by_cases hlj : j < LS.n
          · obtain ⟨hlk, d0, hl2, hBk⟩ := HD.out wr hBr
            obtain ⟨hsk, c2, hl0⟩ := HC.out wr hBk
            obtain ⟨b', o', hla, hb', y0, y1, y2, y3⟩ := hlk.hds j hlj
            have q2 : (0 : Int) ≤ (j : Int) := by omega
            obtain ⟨k1, k2, k3⟩ := HL.out j hlj
            have HT : Hid (wrongL KD (LS.z j) (keptS s.hs.z i j s.hs.n) = true → wrongOrder s i = true) := fun h => by rw [HE2.out]; exact anyB_yes hlj h
            have HU : Hid (wrongL KD (LS.z j) (keptS s.hs.z i j s.hs.n) = false → ∀ j', j' < j + 1 → wrongL KD (LS.z j') (keptS s.hs.z i j' s.hs.n) = false) := fun h j' hj' => by
              by_cases hjk : j' = j
              · rw [hjk]; exact h
              · exact HM.out j' (by omega)
            have hKO := kept_ok (s := s.hs) (o := i) (l := j) HF.out.hold
            have hBn := (Below.refl wr.heap.size wr).alloc (Nat.le_refl _) (.cells #[.int .i64 (LS.z j).o, .int .i64 (LS.z j).l, .int .i64 (LS.z j).b, .int .i64 (LS.z j).n] 53)
            have hYn := Blk.new wr #[.int .i64 (LS.z j).o, .int .i64 (LS.z j).l, .int .i64 (LS.z j).b, .int .i64 (LS.z j).n] 53
            have HKO : Hid ((if checkH s.hs.n s.hs.z = 0 then keptS s.hs.z i j s.hs.n else 0) = keptS s.hs.z i j s.hs.n ∧ checkH s.hs.n s.hs.z = 0) := hKO
            rw [hla]
            clear hla hlk HM hKO
            generalize LS.z j = LZ at *
            go_wp2_with fail
            refine (Kept_any s.hs i j _ (hsk.hs.below hBn)).mono ?_
            rintro e w3 ⟨rfl, hB3⟩
            rw [HKO.out.1, HKO.out.2]
            generalize keptS s.hs.z i j s.hs.n = KP at *
            have hB4 := hBn.trans (hB3.mono hBn.size)
            have hY3 := hYn.below hB3
            have d0 := (hB4.cell (p := ⟨B4, 0, none⟩) hl2).trans d0
            have hl2 := Nat.lt_of_lt_of_le hl2 hB4.size
            have t0 : w3.cell? ⟨wr.heap.size, 0, none⟩ = some (.int .i64 LZ.o) := hY3.cell (j := 0) (by simp)
            have t1 : w3.cell? ⟨wr.heap.size, 1, none⟩ = some (.int .i64 LZ.l) := hY3.cell (j := 1) (by simp)
            have t2 : w3.cell? ⟨wr.heap.size, 2, none⟩ = some (.int .i64 LZ.b) := hY3.cell (j := 2) (by simp)
            have t3 : w3.cell? ⟨wr.heap.size, 3, none⟩ = some (.int .i64 LZ.n) := hY3.cell (j := 3) (by simp)
            have hlt3 := hY3.lt
            have hB5 := hBr.trans (hB4.mono hBr.size)
            have hB6 := hBk.trans (hB4.mono hBk.size)
            clear hB3 hYn hBn hY3 hB4 hsk c2 y0 y1 y2 y3 hBr hBk HKO
            go_wp2_with fail
            refine (wrongLine_any KD LZ KP w3 k1 k2 k3).mono ?_
            rintro e w5 ⟨rfl, hB7⟩
            have hB8 := hB5.trans (hB7.mono hB5.size)
            have hB9 := hB6.trans (hB7.mono hB6.size)
            clear hB7 hB5 hB6 t0 t1 t2 t3 d0
            cases hw : wrongL KD LZ KP
            · have HX := HU.out hw
              have HX2 : Hid _ := HX
              clear hw HX HU HT
              go_wp2_with fail
              go_roundw
              case rel => exact ⟨j + 1, by omega, by go_num, HX2.out, hB8⟩
              case measure => simp [intOf]; omega
            · have HX := HT.out hw
              have HX2 : Hid (wrongOrder s i = true) := HX
              clear hw HX HU HT
              go_wp2_with fail
              go_ret
              exact ⟨by rw [wrongOrdersB, anyB_yes hlt HX2.out]; rfl, hWB.trans (hB9.mono hWB.size)⟩
          · have HA : Hid (wrongOrder s i = false) := by show wrongOrder s i = false; rw [HE2.out]; exact anyB_no fun j' hj' => HM.out j' (by omega)
            have hBk := (HD.out wr hBr).2.2.2
            go_wp2_with fail
            go_roundw
            case rel =>
              refine ⟨i + 1, by omega, by go_num, ?_, hBk⟩
              intro j' hj'
              by_cases hjk : j' = i
              · rw [hjk]; exact HA.out
              · exact HN.out j' (by omega)
            case measure => simp [intOf]; omega
      · have lle1 := hl1.le
        have lcap0 := hl1.cap
        have lcap := lcap0
        unfold maxLen at lcap
        go_wp2_with fail
        rw [HV.out]
        refine (anyL4 83 #[] (fun j => lacksL (LS.z j)) _ _ _ _ lle1 lcap0 LS.z hl1.hds (enters_of Try.func83 (by kernel_rfl) rfl) (fun i w1 _ _ => by rw [Array.append_empty]; exact lacks_any _ _)).mono ?_
        rintro e W2 ⟨rfl, hBl⟩
        have hB12 := hB1.trans (hBl.mono hB1.size)
        have hl12 := hl1.below hBl
        have hY2 := hY.below hBl
        have d1 := hY2.cell (j := 1) (by simp)
        have d1' : W2.cell? ⟨wr.heap.size, 1, none⟩ = some (.slice LS.a LS.n LS.c) := d1
        have hlW2 := hY2.lt
        clear d1 hBl
        cases h2 : anyB LS.n (fun j => lacksL (LS.z j))
        · have HX2 : Hid (wrongOrder s i = true) := by show wrongOrder s i = true; rw [HE.out, h1, h2]; rfl
          clear h2
          go_wp2_with fail
          go_ret
          exact ⟨by rw [wrongOrdersB, anyB_yes hlt HX2.out]; rfl, hWB.trans (hB12.mono hWB.size)⟩
        · have HE2 : Hid (wrongOrder s i = anyB LS.n (fun j => wrongL KD (LS.z j) (keptS s.hs.z i j s.hs.n))) := by show wrongOrder s i = _; rw [HE.out, h1, h2]; rfl
          clear HE h2
          go_wp2_with fail
          clear d1' hlW2
          have hBW := hB12
          have hlW := hl12
          have hYW := hY2
          clear hB1 hl1 hY HV hB12 hl12 hY2
          obtain ⟨B4, hB4⟩ : ∃ B4, wr.heap.size = B4 := ⟨_, rfl⟩
          rw [hB4] at hYW ⊢
          have HD : Hid (∀ wk, Below W2.heap.size W2 wk → LS.At wk ∧ wk.cell? ⟨B4, 0, none⟩ = some (.int .i64 KD) ∧ B4 < wk.heap.size ∧ Below W0.heap.size W0 wk) := fun wk h => ⟨hlW.below h, (hYW.below h).cell (j := 0) (by decide), (hYW.below h).lt, hBW.trans (h.mono hBW.size)⟩
          clear hlW hYW hl hB hl0 z0 z1 hB4 HB hb
          go_loopw [29] (fun i0 wk => ∃ k : Nat, k ≤ LS.n ∧ i0 = .int .i64 k ∧ (∀ j, j < k → wrongL KD (LS.z j) (keptS s.hs.z i j s.hs.n) = false) ∧ Below W2.heap.size W2 wk) (fun i0 _ => LS.n - (intOf i0).toNat)
          case atStart => exact ⟨0, Nat.zero_le _, rfl, fun j hj => absurd hj (Nat.not_lt_zero _), Below.refl _ _⟩
          case round =>
            obtain ⟨j, hj, rfl, hno, hBr⟩ := hrel
            have HM : Hid (∀ j', j' < j → wrongL KD (LS.z j') (keptS s.hs.z i j' s.hs.n) = false) := hno
            clear hno
            by_cases hlj : j < LS.n
            · obtain ⟨hlk, d0, hl2, hBk⟩ := HD.out wr hBr
              obtain ⟨hsk, c2, hl0⟩ := HC.out wr hBk
              obtain ⟨b', o', hla, hb', y0, y1, y2, y3⟩ := hlk.hds j hlj
              have q2 : (0 : Int) ≤ (j : Int) := by omega
              obtain ⟨k1, k2, k3⟩ := HL.out j hlj
              have HT : Hid (wrongL KD (LS.z j) (keptS s.hs.z i j s.hs.n) = true → wrongOrder s i = true) := fun h => by rw [HE2.out]; exact anyB_yes hlj h
              have HU : Hid (wrongL KD (LS.z j) (keptS s.hs.z i j s.hs.n) = false → ∀ j', j' < j + 1 → wrongL KD (LS.z j') (keptS s.hs.z i j' s.hs.n) = false) := fun h j' hj' => by
                by_cases hjk : j' = j
                · rw [hjk]; exact h
                · exact HM.out j' (by omega)
              have hKO := kept_ok (s := s.hs) (o := i) (l := j) HF.out.hold
              have hBn := (Below.refl wr.heap.size wr).alloc (Nat.le_refl _) (.cells #[.int .i64 (LS.z j).o, .int .i64 (LS.z j).l, .int .i64 (LS.z j).b, .int .i64 (LS.z j).n] 53)
              have hYn := Blk.new wr #[.int .i64 (LS.z j).o, .int .i64 (LS.z j).l, .int .i64 (LS.z j).b, .int .i64 (LS.z j).n] 53
              have HKO : Hid ((if checkH s.hs.n s.hs.z = 0 then keptS s.hs.z i j s.hs.n else 0) = keptS s.hs.z i j s.hs.n ∧ checkH s.hs.n s.hs.z = 0) := hKO
              rw [hla]
              clear hla hlk HM hKO
              generalize LS.z j = LZ at *
              go_wp2_with fail
              refine (Kept_any s.hs i j _ (hsk.hs.below hBn)).mono ?_
              rintro e w3 ⟨rfl, hB3⟩
              rw [HKO.out.1, HKO.out.2]
              generalize keptS s.hs.z i j s.hs.n = KP at *
              have hB4 := hBn.trans (hB3.mono hBn.size)
              have hY3 := hYn.below hB3
              have d0 := (hB4.cell (p := ⟨B4, 0, none⟩) hl2).trans d0
              have hl2 := Nat.lt_of_lt_of_le hl2 hB4.size
              have t0 : w3.cell? ⟨wr.heap.size, 0, none⟩ = some (.int .i64 LZ.o) := hY3.cell (j := 0) (by simp)
              have t1 : w3.cell? ⟨wr.heap.size, 1, none⟩ = some (.int .i64 LZ.l) := hY3.cell (j := 1) (by simp)
              have t2 : w3.cell? ⟨wr.heap.size, 2, none⟩ = some (.int .i64 LZ.b) := hY3.cell (j := 2) (by simp)
              have t3 : w3.cell? ⟨wr.heap.size, 3, none⟩ = some (.int .i64 LZ.n) := hY3.cell (j := 3) (by simp)
              have hlt3 := hY3.lt
              have hB5 := hBr.trans (hB4.mono hBr.size)
              have hB6 := hBk.trans (hB4.mono hBk.size)
              clear hB3 hYn hBn hY3 hB4 hsk c2 y0 y1 y2 y3 hBr hBk HKO
              go_wp2_with fail
              refine (wrongLine_any KD LZ KP w3 k1 k2 k3).mono ?_
              rintro e w5 ⟨rfl, hB7⟩
              have hB8 := hB5.trans (hB7.mono hB5.size)
              have hB9 := hB6.trans (hB7.mono hB6.size)
              clear hB7 hB5 hB6 t0 t1 t2 t3 d0
              cases hw : wrongL KD LZ KP
              · have HX := HU.out hw
                have HX2 : Hid _ := HX
                clear hw HX HU HT
                go_wp2_with fail
                go_roundw
                case rel => exact ⟨j + 1, by omega, by go_num, HX2.out, hB8⟩
                case measure => simp [intOf]; omega
              · have HX := HT.out hw
                have HX2 : Hid (wrongOrder s i = true) := HX
                clear hw HX HU HT
                go_wp2_with fail
                go_ret
                exact ⟨by rw [wrongOrdersB, anyB_yes hlt HX2.out]; rfl, hWB.trans (hB9.mono hWB.size)⟩
            · have HA : Hid (wrongOrder s i = false) := by show wrongOrder s i = false; rw [HE2.out]; exact anyB_no fun j' hj' => HM.out j' (by omega)
              have hBk := (HD.out wr hBr).2.2.2
              go_wp2_with fail
              go_roundw
              case rel =>
                refine ⟨i + 1, by omega, by go_num, ?_, hBk⟩
                intro j' hj'
                by_cases hjk : j' = i
                · rw [hjk]; exact HA.out
                · exact HN.out j' (by omega)
              case measure => simp [intOf]; omega
    · go_wp2_with fail
      go_ret
      exact ⟨by rw [wrongOrdersB, anyB_no fun j hj => HN.out j (by omega)]; rfl, hWB.trans (hB.mono hWB.size)⟩
end Go.Proofs.Ytbcacebifpagpac
namespace Go.Proofs.Ytbcacebifpagpac
open Go.RowKit Go.Shelf Go.Sort
set_option linter.unusedVariables false
def summedB (p : Pl) (s : St) : Bool := !(wrongGoodsB p s || wrongOrdersB s)
theorem sB_good {p : Pl} {s : St} {g : Nat} (hg : g < p.ns) (h : wrongGood p s g = true) : summedB p s = false := by
  have : wrongGoodsB p s = true := anyB_yes hg h
  simp [summedB, this]
theorem sB_order {p : Pl} {s : St} {i : Nat} (hi : i < s.os.n) (h : wrongOrder s i = true) : summedB p s = false := by
  have : wrongOrdersB s = true := anyB_yes hi h
  simp [summedB, this]
theorem sB_yes {p : Pl} {s : St} (h1 : ∀ g, g < p.ns → wrongGood p s g = false) (h2 : ∀ i, i < s.os.n → wrongOrder s i = false) : summedB p s = true := by
  have e1 : wrongGoodsB p s = false := anyB_no h1
  have e2 : wrongOrdersB s = false := anyB_no h2
  simp [summedB, e1, e2]
theorem wg_sum {p : Pl} {s : St} {g : Nat} (h : ¬ sumTo (fun i => (s.on.r i).z g) s.on.n = s.si.z g - s.so.z g + s.sf.z g) : wrongGood p s g = true := by
  rw [wrongGood_eq]
  have : (sumTo (fun i => (s.on.r i).z g) s.on.n == s.si.z g - s.so.z g + s.sf.z g) = false := by simpa using h
  rw [this]; rfl
theorem wg_bound {p : Pl} {s : St} {g b : Nat} (hb : b < p.nb) (h : (s.on.r b).z g < heldTo s b g s.hs.n + fromTo s b g s.ms.n) : wrongGood p s g = true := by
  rw [wrongGood_eq, anyB_yes hb (decide_eq_true (by unfold availZ; omega)), Bool.or_true]
theorem wg_no {p : Pl} {s : St} {g : Nat} (h : sumTo (fun i => (s.on.r i).z g) s.on.n = s.si.z g - s.so.z g + s.sf.z g) (h2 : ∀ b, b < p.nb → decide ((s.on.r b).z g < heldTo s b g s.hs.n + fromTo s b g s.ms.n) = false) : wrongGood p s g = false := by
  rw [wrongGood_eq, h, anyB_no fun b hb => ?_]
  · simp
  · have := of_decide_eq_false (h2 b hb)
    exact decide_eq_false (by unfold availZ; omega)
def noLack (ls : Nat → Hd) (n : Nat) : Bool := !anyB n (fun j => lacksL (ls j))
theorem noLack_succ (ls : Nat → Hd) (n : Nat) : noLack ls (n + 1) = (noLack ls n && ((ls n).b == (ls n).l)) := by
  unfold noLack
  rw [anyB_succ]
  simp [lacksL]
theorem noLack_step {ls : Nat → Hd} {n : Nat} {b c : Bool} (h : noLack ls n = b) (h2 : ((ls n).b == (ls n).l) = c) : noLack ls (n + 1) = (b && c) := by rw [noLack_succ, h, h2]
theorem all_succ3 {k : Nat} {f : Nat → Bool} {b : Bool} (h : ∀ j, j < k → f j = b) (hk : f k = b) : ∀ j, j < k + 1 → f j = b := fun j hj => by
  by_cases hjk : j = k
  · rw [hjk]; exact hk
  · exact h j (by omega)
theorem wL0 {x : Hd} {kept : Int} (h1 : 0 ≤ x.b ∧ x.b ≤ 200) (h2 : 0 ≤ x.n ∧ x.n ≤ 200) (h3 : 0 ≤ kept ∧ kept ≤ 14400) : wrongL 0 x kept = !(x.b + x.n + kept == 0) := by
  unfold wrongL
  rw [if_pos rfl, Bool.eq_iff_iff]
  simp only [Bool.or_eq_true, Bool.not_eq_true', beq_eq_false_iff_ne, ne_eq]
  omega
theorem wL1 {x : Hd} {kept : Int} : wrongL 1 x kept = !(x.b + x.n + kept == x.l) := by
  unfold wrongL
  rw [if_neg (by decide), if_neg (by decide)]
theorem wL2 {x : Hd} {kept : Int} : wrongL 2 x kept = (!(x.b + x.n + kept == x.l) || !(kept == 0)) := by
  unfold wrongL
  rw [if_neg (by decide), if_pos rfl, Bool.eq_iff_iff]
  simp only [Bool.or_eq_true, Bool.not_eq_true', beq_eq_false_iff_ne, ne_eq]
  omega
theorem below_of_regrown {W w' : World} (h : ∃ p : Regrown, w' = grow (redrawn W p.d) p.os) : Below W.heap.size W w' := by
  obtain ⟨p, rfl⟩ := h
  exact below_regrown _ _ _
theorem line_stored {A w : World} {B : Nat} {e : TypeId} {f : Nat → Value} (hY : Blk w B e 4 f) (hX : Below A.heap.size A w) (hB : A.heap.size ≤ B) (x : Hd) :
    ∃ W, (((w.setCell ⟨B, 0, none⟩ (.int .i64 x.o)).setCell ⟨B, 1, none⟩ (.int .i64 x.l)).setCell ⟨B, 2, none⟩ (.int .i64 x.b)).setCell ⟨B, 3, none⟩ (.int .i64 x.n) = W ∧ Below A.heap.size A W ∧
      Blk W B e 4 (fun j => (#[.int .i64 x.o, .int .i64 x.l, .int .i64 x.b, .int .i64 x.n] : Array Value).getD j default) :=
  ⟨_, rfl, (((hX.setCell (p := ⟨B, 0, none⟩) hB _).setCell (p := ⟨B, 1, none⟩) hB _).setCell (p := ⟨B, 2, none⟩) hB _).setCell (p := ⟨B, 3, none⟩) hB _,
    ((((hY.set 0 _).set 1 _).set 2 _).set 3 _).congr (fun j hj => by match j, hj with | 0, _ => rfl | 1, _ => rfl | 2, _ => rfl | 3, _ => rfl)⟩
set_option maxRecDepth 100000 in
set_option maxHeartbeats 4000000 in
theorem summed_any (p : Pl) (s : St) (w : World) (hp : p.At w) (hs : s.At w) (f : Formed p s) :
    Calls Try.prog 99 #[p.val, s.val] w fun e w' => e = .returned (.bool (summedB p s)) ∧ Below w.heap.size w w' := by
  obtain ⟨W0, hW, hWB, X0⟩ : ∃ W, ((w.alloc (.cells #[.slice p.ab p.nb p.cb, .slice p.sa p.ns p.cs] 25)).alloc (.cells s.cells 31)) = W ∧ Below w.heap.size w W ∧ Boxes W w.heap.size (w.heap.size + 1) p s := ⟨_, rfl, two_below _ _ _, boxes_new w p s _ _⟩
  have HC : Hid (∀ wk, Below W0.heap.size W0 wk → Boxes wk w.heap.size (w.heap.size + 1) p s ∧ p.At wk ∧ s.At wk ∧ Below w.heap.size w wk) := fun wk h => ⟨X0.below h, (hp.below hWB).below h, (hs.below hWB).below h, hWB.trans (h.mono hWB.size)⟩
  have HW : Hid ((w.alloc (.cells #[.slice p.ab p.nb p.cb, .slice p.sa p.ns p.cs] 25)).alloc (.cells #[.slice s.on.a s.on.n s.on.c, .slice s.os.a s.os.n s.os.c, .slice s.hs.a s.hs.n s.hs.c, .slice s.ms.a s.ms.n s.ms.c, .slice s.si.a s.si.n s.si.c, .slice s.so.a s.so.n s.so.c, .slice s.sf.a s.sf.n s.sf.c] 31) = W0) := hW
  have leb := hp.leb
  have capb := hp.capb
  have les := hp.les
  have caps := hp.caps
  have ole := hs.os.le
  have ocap := hs.os.cap
  unfold maxLen at capb caps ocap
  have os4 := f.os4
  have h72 := f.hs72
  have ms8 := f.ms8
  have ns3 := f.sh.pl.ns3
  have nb6 := f.sh.pl.nb6
  have HF : Hid (Formed p s) := f
  clear hW X0 hp hs f
  unfold Pl.val St.val
  go_enter Try.func99, Try.ntmps99
  go_wp2_with fail
  rw [HW.out]
  go_loopw [5] (fun i wk => ∃ k : Nat, k ≤ p.ns ∧ i = .int .i64 k ∧ (∀ j, j < k → wrongGood p s j = false) ∧ Below W0.heap.size W0 wk) (fun i _ => p.ns - (intOf i).toNat)
  case atStart => exact ⟨0, Nat.zero_le _, rfl, fun j hj => absurd hj (Nat.not_lt_zero _), Below.refl _ _⟩
  case round =>
    obtain ⟨g, hg, rfl, hno, hB⟩ := hrel
    have HN : Hid (∀ j, j < g → wrongGood p s j = false) := hno
    clear hno
    obtain ⟨X, hpk, hsk, hBw⟩ := HC.out wr hB
    obtain ⟨⟨l1, d0, d1⟩, l2, c0, c1, c2, c3, c4, c5, c6⟩ := X
    by_cases hlt : g < p.ns
    · have qg : (0 : Int) ≤ (g : Int) := by omega
      have F := HF.out
      obtain ⟨b1, o1, e1, g1, z1⟩ := hsk.si.ints g (by rw [F.sin]; exact hlt)
      obtain ⟨b2, o2, e2, g2, z2⟩ := hsk.so.ints g (by rw [F.son]; exact hlt)
      obtain ⟨b3, o3, e3, g3, z3⟩ := hsk.sf.ints g (by rw [F.sfn]; exact hlt)
      have v1 := hsk.si.le
      have v2 := hsk.so.le
      have v3 := hsk.sf.le
      have v4 := hsk.si.cap
      have v5 := hsk.so.cap
      have v6 := hsk.sf.cap
      have u1 := F.sib g hlt
      have u2 := F.sob g hlt
      have u3 := F.sfb g hlt
      unfold maxLen at v4 v5 v6
      have HON : Hid (s.on.At wr) := hsk.on
      rw [e1, F.sin] at c4
      rw [e2, F.son] at c5
      rw [e3, F.sfn] at c6
      rw [F.sin] at v1
      rw [F.son] at v2
      rw [F.sfn] at v3
      have r0 : ∀ d os, (grow (redrawn wr d) os).cell? ⟨w.heap.size + 1, 0, none⟩ = some (.slice s.on.a s.on.n s.on.c) := fun d os => cell_regrown c0 d os
      have r4 : ∀ d os, (grow (redrawn wr d) os).cell? ⟨w.heap.size + 1, 4, none⟩ = some (.slice (some ⟨b1, o1, none⟩) p.ns s.si.c) := fun d os => cell_regrown c4 d os
      have r5 : ∀ d os, (grow (redrawn wr d) os).cell? ⟨w.heap.size + 1, 5, none⟩ = some (.slice (some ⟨b2, o2, none⟩) p.ns s.so.c) := fun d os => cell_regrown c5 d os
      have r6 : ∀ d os, (grow (redrawn wr d) os).cell? ⟨w.heap.size + 1, 6, none⟩ = some (.slice (some ⟨b3, o3, none⟩) p.ns s.sf.c) := fun d os => cell_regrown c6 d os
      have r7 : ∀ d os, (grow (redrawn wr d) os).cell? ⟨b1, o1 + g, none⟩ = some (.int .i64 (s.si.z g)) := fun d os => cell_regrown z1 d os
      have r8 : ∀ d os, (grow (redrawn wr d) os).cell? ⟨b2, o2 + g, none⟩ = some (.int .i64 (s.so.z g)) := fun d os => cell_regrown z2 d os
      have r9 : ∀ d os, (grow (redrawn wr d) os).cell? ⟨b3, o3 + g, none⟩ = some (.int .i64 (s.sf.z g)) := fun d os => cell_regrown z3 d os
      have HT1 : Hid (¬ sumTo (fun i => (s.on.r i).z g) s.on.n = s.si.z g - s.so.z g + s.sf.z g → summedB p s = false) := fun h => sB_good hlt (wg_sum h)
      have HT2 : Hid (∀ b, b < p.nb → (s.on.r b).z g < heldTo s b g s.hs.n + fromTo s b g s.ms.n → summedB p s = false) := fun b hb h => sB_good hlt (wg_bound hb h)
      have HT3 : Hid (sumTo (fun i => (s.on.r i).z g) s.on.n = s.si.z g - s.so.z g + s.sf.z g → (∀ b, b < p.nb → decide ((s.on.r b).z g < heldTo s b g s.hs.n + fromTo s b g s.ms.n) = false) → wrongGood p s g = false) := fun h h2 => wg_no h h2
      have hsum : Hid (∀ wk, s.on.At wk → Calls Try.prog 120 #[s.on.val, .int .i64 g] wk fun e w' => e = .returned (.int .i64 (sumTo (fun i => (s.on.r i).z g) s.on.n)) ∧ Below wk.heap.size wk w') := fun wk h => SumOf_any p s.on g wk h F.sh hlt
      unfold Sh.val at hsum
      clear e1 e2 e3 hsk hpk c0 c1 c2 c3 c4 c5 c6 z1 z2 z3 d0 F
      generalize sumTo (fun i => (s.on.r i).z g) s.on.n = SM at *
      generalize s.si.z g = I1 at *
      generalize s.so.z g = I2 at *
      generalize s.sf.z g = I3 at *
      go_wp2_with fail
      refine wp_region_quiet_below (by kernel_rfl) (by kernel_rfl) ?_
      repeat (go_big_quiet_step ((go_at_call 120; exact Calls.regrown_of (hsum.out _ (HON.out.below (below_regrown _ _ _))))))
      refine wpQuiet_nil ?_
      intro _ hw'
      obtain ⟨⟨dq, osq⟩, hw''⟩ := hw'
      subst hw''
      have hB1 := hB.trans ((below_regrown wr dq osq).mono hB.size)
      clear r0 r4 r5 r6 r7 r8 r9 HON hsum hB hBw l1 l2 d1 g1 g2 g3 v1 v2 v3 v4 v5 v6
      generalize grow (redrawn wr dq) osq = wz at *
      obtain ⟨X, hpk, hsk, hBw⟩ := HC.out wz hB1
      obtain ⟨⟨l1, d0, d1⟩, l2, c0, c1, c2, c3, c4, c5, c6⟩ := X
      by_cases heq : SM = I1 - I2 + I3
      · have he : (SM != I1 - I2 + I3) = false := by simp [heq]
        have HEQ : Hid (SM = I1 - I2 + I3) := heq
        rw [he]
        clear heq he hpk hsk c0 c1 c2 c3 c4 c5 c6 hBw
        go_wp2_with fail
        clear d0 d1 l1 l2
        go_loopw [6] (fun i wk => ∃ k : Nat, k ≤ p.nb ∧ i = .int .i64 k ∧ (∀ b, b < k → decide ((s.on.r b).z g < heldTo s b g s.hs.n + fromTo s b g s.ms.n) = false) ∧ Below W0.heap.size W0 wk) (fun i _ => p.nb - (intOf i).toNat)
        case atStart => exact ⟨0, Nat.zero_le _, rfl, fun j hj => absurd hj (Nat.not_lt_zero _), hB1⟩
        case round =>
          clear hB1
          obtain ⟨b, hb, rfl, hno, hB⟩ := hrel
          have HM : Hid (∀ b', b' < b → decide ((s.on.r b').z g < heldTo s b' g s.hs.n + fromTo s b' g s.ms.n) = false) := hno
          clear hno
          obtain ⟨X, hpk, hsk, hBw⟩ := HC.out wr hB
          obtain ⟨⟨l1, d0, d1⟩, l2, c0, c1, c2, c3, c4, c5, c6⟩ := X
          by_cases hlb : b < p.nb
          · have qb : (0 : Int) ≤ (b : Int) := by omega
            have F := HF.out
            have hbn : b < s.on.n := by rw [F.sh.n]; exact hlb
            obtain ⟨bo, oo, hoa, hbo, y0, hrow⟩ := hsk.on.rows b hbn
            have rn := F.sh.len b hbn
            obtain ⟨br, orr, hra, hbr, y1⟩ := hrow.ints g (by rw [rn]; exact hlt)
            have v1 := hrow.le
            have v2 := hrow.cap
            have v3 := hsk.on.le
            have v4 := hsk.on.cap
            unfold maxLen at v2 v4
            have hx := heldTo_bd (s := s) (b := b) (g := g) F.holdN
            have hy := fromTo_bd (s := s) (b := b) (g := g) F.moveN
            have hz := F.sh.num b hbn g hlt
            rw [hra, rn] at y0
            rw [rn] at v1
            rw [hoa] at c0
            have HSA : Hid (s.At wr ∧ s.on.a = some ⟨bo, oo, none⟩) := ⟨hsk, hoa⟩
            have r0 : ∀ d os, (grow (redrawn wr d) os).cell? ⟨w.heap.size + 1, 0, none⟩ = some (.slice (some ⟨bo, oo, none⟩) s.on.n s.on.c) := fun d os => cell_regrown c0 d os
            have r1 : ∀ d os, (grow (redrawn wr d) os).cell? ⟨w.heap.size + 1, 1, none⟩ = some (.slice s.os.a s.os.n s.os.c) := fun d os => cell_regrown c1 d os
            have r2 : ∀ d os, (grow (redrawn wr d) os).cell? ⟨w.heap.size + 1, 2, none⟩ = some (.slice s.hs.a s.hs.n s.hs.c) := fun d os => cell_regrown c2 d os
            have r3 : ∀ d os, (grow (redrawn wr d) os).cell? ⟨w.heap.size + 1, 3, none⟩ = some (.slice s.ms.a s.ms.n s.ms.c) := fun d os => cell_regrown c3 d os
            have r4 : ∀ d os, (grow (redrawn wr d) os).cell? ⟨w.heap.size + 1, 4, none⟩ = some (.slice s.si.a s.si.n s.si.c) := fun d os => cell_regrown c4 d os
            have r5 : ∀ d os, (grow (redrawn wr d) os).cell? ⟨w.heap.size + 1, 5, none⟩ = some (.slice s.so.a s.so.n s.so.c) := fun d os => cell_regrown c5 d os
            have r6 : ∀ d os, (grow (redrawn wr d) os).cell? ⟨w.heap.size + 1, 6, none⟩ = some (.slice s.sf.a s.sf.n s.sf.c) := fun d os => cell_regrown c6 d os
            have r7 : ∀ d os, (grow (redrawn wr d) os).cell? ⟨bo, oo + b, none⟩ = some (.slice (some ⟨br, orr, none⟩) p.ns (s.on.r b).c) := fun d os => cell_regrown y0 d os
            have r8 : ∀ d os, (grow (redrawn wr d) os).cell? ⟨br, orr + g, none⟩ = some (.int .i64 ((s.on.r b).z g)) := fun d os => cell_regrown y1 d os
            have hbd : Hid (∀ wk, s.At wk → Calls Try.prog 121 #[.agg #[.slice (some ⟨bo, oo, none⟩) s.on.n s.on.c, .slice s.os.a s.os.n s.os.c, .slice s.hs.a s.hs.n s.hs.c, .slice s.ms.a s.ms.n s.ms.c, .slice s.si.a s.si.n s.si.c, .slice s.so.a s.so.n s.so.c, .slice s.sf.a s.sf.n s.sf.c], .int .i64 b, .int .i64 g] wk fun e w' => e = .returned (.int .i64 (heldTo s b g s.hs.n + fromTo s b g s.ms.n)) ∧ Below wk.heap.size wk w') := fun wk h => by
              have := bound_any p s b g wk h HF.out
              rw [St.val, HSA.out.2] at this
              exact this
            have HT4 : Hid (((s.on.r b).z g < heldTo s b g s.hs.n + fromTo s b g s.ms.n → summedB p s = false) ∧ (¬ (s.on.r b).z g < heldTo s b g s.hs.n + fromTo s b g s.ms.n → ∀ b', b' < b + 1 → decide ((s.on.r b').z g < heldTo s b' g s.hs.n + fromTo s b' g s.ms.n) = false)) := ⟨HT2.out b hlb, fun h => all_succ3 HM.out (decide_eq_false h)⟩
            clear hoa hra hrow rn F hsk hpk c0 c1 c2 c3 c4 c5 c6 y0 y1 HM d1
            generalize heldTo s b g s.hs.n + fromTo s b g s.ms.n = BD at *
            generalize (s.on.r b).z g = ON at *
            generalize (s.on.r b).c = RC at *
            by_cases hq : ON < BD
            · have HX : Hid (summedB p s = false) := HT4.out.1 hq
              go_wp2_with fail
              refine wp_region_quiet_below (by kernel_rfl) (by kernel_rfl) ?_
              repeat (go_big_quiet_step ((go_at_call 121; exact Calls.regrown_of (hbd.out _ (HSA.out.1.below (below_regrown _ _ _))))))
              refine wpQuiet_nil ?_
              intro _ hw'
              obtain ⟨⟨dq, osq⟩, hw''⟩ := hw'
              subst hw''
              go_wp2_with fail
              go_ret
              exact ⟨by rw [HX.out]; rfl, hBw.trans ((below_regrown _ _ _).mono hBw.size)⟩
            · have HX := HT4.out.2 hq
              have HX2 : Hid _ := HX
              clear HX
              go_wp2_with fail
              refine wp_region_quiet_below (by kernel_rfl) (by kernel_rfl) ?_
              repeat (go_big_quiet_step ((go_at_call 121; exact Calls.regrown_of (hbd.out _ (HSA.out.1.below (below_regrown _ _ _))))))
              refine wpQuiet_nil ?_
              intro _ hw'
              obtain ⟨⟨dq, osq⟩, hw''⟩ := hw'
              subst hw''
              go_wp2_with fail
              go_roundw
              case rel => exact ⟨b + 1, by omega, by go_num, HX2.out, hB.trans ((below_regrown _ _ _).mono hB.size)⟩
              case measure => simp [intOf]; omega
          · have HA : Hid (wrongGood p s g = false) := HT3.out HEQ.out fun b' hb' => HM.out b' (by omega)
            clear hsk hpk c0 c1 c2 c3 c4 c5 c6 HM
            go_wp2_with fail
            go_roundw
            case rel => exact ⟨g + 1, by omega, by go_num, all_succ3 HN.out HA.out, hB⟩
            case measure => simp [intOf]; omega
      · have he : (SM != I1 - I2 + I3) = true := by simp [heq]
        have HX : Hid (summedB p s = false) := HT1.out heq
        rw [he]
        clear heq he hpk hsk c0 c1 c2 c3 c4 c5 c6 d0 d1 l1 l2
        go_wp2_with fail
        go_ret
        exact ⟨by rw [HX.out]; rfl, hBw⟩
    · have HN2 : Hid (∀ j, j < p.ns → wrongGood p s j = false) := fun j hj => HN.out j (by omega)
      clear HN hsk hpk c0 c1 c2 c3 c4 c5 c6 hBw
      go_wp2_with fail
      clear d0 d1 l1 l2 hlt hg
      go_loopw [7] (fun i wk => ∃ k : Nat, k ≤ s.os.n ∧ i = .int .i64 k ∧ (∀ j, j < k → wrongOrder s j = false) ∧ Below W0.heap.size W0 wk) (fun i _ => s.os.n - (intOf i).toNat)
      case atStart => exact ⟨0, Nat.zero_le _, rfl, fun j hj => absurd hj (Nat.not_lt_zero _), hB⟩
      case round =>
        clear hB
        obtain ⟨i, hi, rfl, hno, hB⟩ := hrel
        have HN : Hid (∀ j, j < i → wrongOrder s j = false) := hno
        clear hno
        obtain ⟨X, hpk, hsk, hBw⟩ := HC.out wr hB
        obtain ⟨⟨l1, d0, d1⟩, l2, c0, c1, c2, c3, c4, c5, c6⟩ := X
        by_cases hlt : i < s.os.n
        · obtain ⟨b, o, hoa, hb, z0, z1, hl⟩ := hsk.os.ods i hlt
          have qi : (0 : Int) ≤ (i : Int) := by omega
          have HL : Hid (∀ wk, Below W0.heap.size W0 wk → wk.cell? ⟨b, o + i * 2, none⟩ = some (.int .i64 (s.os.z i).k) ∧ wk.cell? ⟨b, o + i * 2 + 1, none⟩ = some (.slice (s.os.z i).ls.a (s.os.z i).ls.n (s.os.z i).ls.c) ∧ (s.os.z i).ls.At wk ∧ wk.cell? ⟨w.heap.size + 1, 1, none⟩ = some (.slice (some ⟨b, o, none⟩) s.os.n s.os.c) ∧ w.heap.size + 1 < wk.heap.size ∧ b < wk.heap.size ∧ Below w.heap.size w wk ∧ s.hs.At wk ∧ wk.cell? ⟨w.heap.size + 1, 2, none⟩ = some (.slice s.hs.a s.hs.n s.hs.c)) := fun wk h => by
            obtain ⟨X, -, hsw, hBx⟩ := HC.out wk h
            obtain ⟨-, m2, -, f1, f2, -⟩ := X
            obtain ⟨b', o', hoa', hb', x0, x1, hl'⟩ := hsw.os.ods i hlt
            rw [hoa] at hoa' f1
            simp only [Option.some.injEq, Addr.mk.injEq, and_true] at hoa'
            obtain ⟨rfl, rfl⟩ := hoa'
            exact ⟨x0, x1, hl', f1, m2, hb', hBx, hsw.hs, f2⟩
          have lle := hl.le
          have lcap := hl.cap
          have l3 := HF.out.lns i hlt
          have kd := HF.out.kind i hlt
          unfold maxLen at lcap
          have HE : Hid (wrongOrder s i = (((s.os.z i).k == 1 && noLack (s.os.z i).ls.z (s.os.z i).ls.n) || anyB (s.os.z i).ls.n (fun j => wrongL (s.os.z i).k ((s.os.z i).ls.z j) (keptS s.hs.z i j s.hs.n)))) := wrongOrder_eq
          have HLB : Hid (∀ j, j < (s.os.z i).ls.n → (0 ≤ ((s.os.z i).ls.z j).b ∧ ((s.os.z i).ls.z j).b ≤ 200) ∧ (0 ≤ ((s.os.z i).ls.z j).n ∧ ((s.os.z i).ls.z j).n ≤ 200) ∧ 0 ≤ keptS s.hs.z i j s.hs.n ∧ keptS s.hs.z i j s.hs.n ≤ 14400) := fun j hj => by
            have a := badLine_no (HF.out.line i hlt j hj)
            have c := keptS_bd (z := s.hs.z) (i : Int) (j : Int) s.hs.n HF.out.holdN
            omega
          clear hoa hl hsk hpk c0 c2 c3 c4 c5 c6 z0 z1 d0 d1 hBw hb
          generalize (s.os.z i).k = KD at *
          generalize (s.os.z i).ls = LS at *
          go_wp2_with fail
          clear c1 l1 l2
          go_loopw [8, 9] (fun u i0 wk => ∃ k : Nat, k ≤ LS.n ∧ i0 = .int .i64 k ∧ u = .bool (noLack LS.z k) ∧ Below W0.heap.size W0 wk) (fun _ i0 _ => LS.n - (intOf i0).toNat)
          case atStart => exact ⟨0, Nat.zero_le _, rfl, rfl, hB⟩
          case round =>
            clear hB
            obtain ⟨j, hj, rfl, rfl, hB⟩ := hrel
            obtain ⟨z0, z1, hlk, c1, l2, hb, hBw, -, -⟩ := HL.out wr hB
            by_cases hlj : j < LS.n
            · obtain ⟨b2, o2, hla, hb2, y0, y1, y2, y3⟩ := hlk.hds j hlj
              have qj : (0 : Int) ≤ (j : Int) := by omega
              rw [hla] at z1
              have r0 : ∀ d os, (grow (redrawn wr d) os).cell? ⟨w.heap.size + 1, 1, none⟩ = some (.slice (some ⟨b, o, none⟩) s.os.n s.os.c) := fun d os => cell_regrown c1 d os
              have r1 : ∀ d os, (grow (redrawn wr d) os).cell? ⟨b, o + i * 2 + 1, none⟩ = some (.slice (some ⟨b2, o2, none⟩) LS.n LS.c) := fun d os => cell_regrown z1 d os
              have r2 : ∀ d os, (grow (redrawn wr d) os).cell? ⟨b2, o2 + j * 4 + 1, none⟩ = some (.int .i64 (LS.z j).l) := fun d os => cell_regrown y1 d os
              have r3 : ∀ d os, (grow (redrawn wr d) os).cell? ⟨b2, o2 + j * 4 + 2, none⟩ = some (.int .i64 (LS.z j).b) := fun d os => cell_regrown y2 d os
              have HS1 : Hid (∀ b c, noLack LS.z j = b → ((LS.z j).b == (LS.z j).l) = c → noLack LS.z (j + 1) = (b && c)) := fun _ _ h1 h2 => noLack_step h1 h2
              clear hla hlk y0 y1 y2 y3
              generalize (LS.z j).l = WN at *
              generalize (LS.z j).b = GT at *
              cases h1 : noLack LS.z j
              · have HX : Hid (noLack LS.z (j + 1) = false) := HS1.out _ _ h1 rfl
                clear HS1 h1
                go_wp2_with fail
                refine wp_region_quiet_below (by kernel_rfl) (by kernel_rfl) ?_
                repeat (go_big_quiet_step (fail))
                refine wpQuiet_nil ?_
                intro _ hw'
                obtain ⟨⟨dq, osq⟩, hw''⟩ := hw'
                subst hw''
                clear r0 r1 r2 r3
                go_wp2_with fail
                go_roundw
                case rel => exact ⟨j + 1, by omega, by go_num, by rw [HX.out], hB.trans ((below_regrown _ _ _).mono hB.size)⟩
                case measure => simp [intOf]; omega
              · cases h2 : (GT == WN)
                · have HX : Hid (noLack LS.z (j + 1) = false) := HS1.out _ _ h1 h2
                  clear HS1 h1
                  go_wp2_with fail
                  refine wp_region_quiet_below (by kernel_rfl) (by kernel_rfl) ?_
                  repeat (go_big_quiet_step (fail))
                  refine wpQuiet_nil ?_
                  intro _ hw'
                  obtain ⟨⟨dq, osq⟩, hw''⟩ := hw'
                  subst hw''
                  clear r0 r1 r2 r3
                  go_wp2_with fail
                  go_roundw
                  case rel => exact ⟨j + 1, by omega, by go_num, by rw [HX.out], hB.trans ((below_regrown _ _ _).mono hB.size)⟩
                  case measure => simp [intOf]; omega
                · have HX : Hid (noLack LS.z (j + 1) = true) := HS1.out _ _ h1 h2
                  clear HS1 h1
                  go_wp2_with fail
                  refine wp_region_quiet_below (by kernel_rfl) (by kernel_rfl) ?_
                  repeat (go_big_quiet_step (fail))
                  refine wpQuiet_nil ?_
                  intro _ hw'
                  obtain ⟨⟨dq, osq⟩, hw''⟩ := hw'
                  subst hw''
                  clear r0 r1 r2 r3
                  go_wp2_with fail
                  go_roundw
                  case rel => exact ⟨j + 1, by omega, by go_num, by rw [HX.out], hB.trans ((below_regrown _ _ _).mono hB.size)⟩
                  case measure => simp [intOf]; omega
            · have hjn : j = LS.n := by omega
              subst hjn
              cases hN : noLack LS.z LS.n
              · have HE2 : Hid (wrongOrder s i = anyB LS.n (fun j => wrongL KD (LS.z j) (keptS s.hs.z i j s.hs.n))) := by show wrongOrder s i = _; rw [HE.out, hN, Bool.and_false, Bool.false_or]
                clear hN HE
                go_wp2_with fail
                clear z0 z1 hlk c1 l2 hb hBw
                go_loopw [10] (fun i0 wk => ∃ k : Nat, k ≤ LS.n ∧ i0 = .int .i64 k ∧ (∀ j, j < k → wrongL KD (LS.z j) (keptS s.hs.z i j s.hs.n) = false) ∧ Below W0.heap.size W0 wk) (fun i0 _ => LS.n - (intOf i0).toNat)
                case atStart => exact ⟨0, Nat.zero_le _, rfl, fun j hj => absurd hj (Nat.not_lt_zero _), hB⟩
                case round =>
                  clear hB
                  obtain ⟨j, hj, rfl, hno, hB⟩ := hrel
                  have HM : Hid (∀ j', j' < j → wrongL KD (LS.z j') (keptS s.hs.z i j' s.hs.n) = false) := hno
                  clear hno
                  obtain ⟨z0, z1, hlk, c1, l2, hb, hBw, hhs, c2⟩ := HL.out wr hB
                  by_cases hlj : j < LS.n
                  · obtain ⟨b2, o2, hla, hb2, y0, y1, y2, y3⟩ := hlk.hds j hlj
                    have qj : (0 : Int) ≤ (j : Int) := by omega
                    obtain ⟨k1, k2, k3⟩ := HLB.out j hlj
                    have HT : Hid (wrongL KD (LS.z j) (keptS s.hs.z i j s.hs.n) = true → summedB p s = false) := fun h => sB_order hlt (by rw [HE2.out]; exact anyB_yes hlj h)
                    have HU : Hid (wrongL KD (LS.z j) (keptS s.hs.z i j s.hs.n) = false → ∀ j', j' < j + 1 → wrongL KD (LS.z j') (keptS s.hs.z i j' s.hs.n) = false) := fun h => all_succ3 HM.out h
                    rw [hla] at z1
                    have HKA : Hid (∀ wk, Below wr.heap.size wr wk → Calls Try.prog 122 #[.slice s.hs.a s.hs.n s.hs.c, .int .i64 i, .int .i64 j] wk fun e w' => e = .returned (.int .i64 (keptS s.hs.z i j s.hs.n)) ∧ w' = wk) := fun wk h => KeptOf_any s.hs i j wk (hhs.below h) HF.out.hold
                    have r0 : ∀ d os, (grow (redrawn wr d) os).cell? ⟨w.heap.size + 1, 1, none⟩ = some (.slice (some ⟨b, o, none⟩) s.os.n s.os.c) := fun d os => cell_regrown c1 d os
                    have r1 : ∀ d os, (grow (redrawn wr d) os).cell? ⟨b, o + i * 2 + 1, none⟩ = some (.slice (some ⟨b2, o2, none⟩) LS.n LS.c) := fun d os => cell_regrown z1 d os
                    have r2 : ∀ d os, (grow (redrawn wr d) os).cell? ⟨b2, o2 + j * 4, none⟩ = some (.int .i64 (LS.z j).o) := fun d os => cell_regrown y0 d os
                    have r3 : ∀ d os, (grow (redrawn wr d) os).cell? ⟨b2, o2 + j * 4 + 1, none⟩ = some (.int .i64 (LS.z j).l) := fun d os => cell_regrown y1 d os
                    have r4 : ∀ d os, (grow (redrawn wr d) os).cell? ⟨b2, o2 + j * 4 + 2, none⟩ = some (.int .i64 (LS.z j).b) := fun d os => cell_regrown y2 d os
                    have r5 : ∀ d os, (grow (redrawn wr d) os).cell? ⟨b2, o2 + j * 4 + 3, none⟩ = some (.int .i64 (LS.z j).n) := fun d os => cell_regrown y3 d os
                    have r6 : ∀ d os, (grow (redrawn wr d) os).cell? ⟨w.heap.size + 1, 2, none⟩ = some (.slice s.hs.a s.hs.n s.hs.c) := fun d os => cell_regrown c2 d os
                    clear hla hlk y0 y1 y2 y3 hhs c2 z0 HM hBw
                    generalize keptS s.hs.z i j s.hs.n = KP at *
                    generalize LS.z j = LZ at *
                    go_wp2_with fail
                    refine wp_region_made5 (fun w' => ∃ p : Regrown, w' = grow (redrawn wr p.d) p.os) (List.range 13) [13, 14] [(false, 15), (true, 16)] (by kernel_rfl) (by kernel_rfl) (by kernel_rfl) (by kernel_rfl) (by kernel_rfl) (by kernel_rfl) (by kernel_rfl) (by kernel_rfl) (by kernel_rfl) (regrown_of_below ((Below.refl _ _).drew)) ?_
                    rw [show List.range 13 = [0, 1, 2, 3, 4, 5, 6, 7, 8, 9, 10, 11, 12] from rfl]
                    simp only [picks, List.drop_succ_cons, List.drop_zero, List.take_succ_cons, List.take_zero, List.cons_append, List.nil_append]
                    repeat (go_big_quiet_step (fail))
                    refine wpQuiet_nil ?_
                    refine ⟨fun j v gg wk => match j with | 13 => v = .int .i64 KP ∧ gg = [] | 14 => ∃ B, v = .pointer (some ⟨B, 0, none⟩) ∧ gg = [B] ∧ wr.heap.size ≤ B ∧ Blk wk B 53 4 (fun _ => .int .i64 0) | _ => True, List.forall_mem_cons.2 ⟨?m13, List.forall_mem_cons.2 ⟨?m14, List.forall_mem_nil _⟩⟩, List.forall_mem_cons.2 ⟨?l13, List.forall_mem_cons.2 ⟨?l14, List.forall_mem_nil _⟩⟩, List.forall_mem_cons.2 ⟨?s13, List.forall_mem_cons.2 ⟨?s14, List.forall_mem_nil _⟩⟩, ?done⟩
                    case m13 => intro v g w w' _ h; exact h
                    case m14 => intro v g w w' hB h; obtain ⟨B, h1, h0, h2, h3⟩ := h; exact ⟨B, h1, h0, h2, h3.below hB⟩
                    case l13 => intro v g w h; rw [(show v = .int .i64 KP ∧ g = [] from h).2]; intro x hx; cases hx
                    case l14 => intro v g w h; obtain ⟨B, h1, h0, h2, h3⟩ := h; rw [h0]; intro x hx; rw [List.mem_singleton] at hx; rw [hx]; exact h3.lt
                    case s13 =>
                      intro V G wk K hS hd hK
                      obtain ⟨pp, rfl⟩ := hS
                      refine wpOp_list 13 rfl ?_
                      simp only [putAll, dstOf, List.getElem?_toArray, List.getElem?_cons_succ, List.getElem?_cons_zero, Act.put, List.setIfInBounds_toArray, List.set_cons_succ, List.set_cons_zero] at hK ⊢
                      go_wp2_with fail
                      refine (HKA.out _ (below_regrown _ _ _)).mono ?_
                      rintro e w' ⟨rfl, rfl⟩
                      go_wp2_with fail
                      exact hK _ [] _ ⟨pp, rfl⟩ (Below.refl _ _) (fun x hx => (by cases hx)) ⟨rfl, rfl⟩
                    case s14 =>
                      intro V G wk K hS hd hK
                      have hX := below_of_regrown hS
                      refine wpOp_list 14 rfl ?_
                      simp only [putAll, dstOf, List.getElem?_toArray, List.getElem?_cons_succ, List.getElem?_cons_zero, Act.put, List.setIfInBounds_toArray, List.set_cons_succ, List.set_cons_zero] at hK ⊢
                      go_wp2_with fail
                      exact hK _ [wk.heap.size] _ (regrown_of_below (hX.alloc hX.size _)) ((Below.refl _ _).alloc (Nat.le_refl _) _) (fun x hx => (by rw [List.mem_singleton] at hx; omega)) ⟨wk.heap.size, rfl, rfl, hX.size, (Blk.mk' (cur := #[.int .i64 0, .int .i64 0, .int .i64 0, .int .i64 0]) rfl rfl).congr (fun j hj => by match j, hj with | 0, _ => rfl | 1, _ => rfl | 2, _ => rfl | 3, _ => rfl)⟩
                    case done =>
                      intro V G wk hS hD hA
                      have h13 := (show V 13 = .int .i64 KP ∧ G 13 = [] from hD 13 (by simp)).1
                      have h14 : ∃ B, V 14 = .pointer (some ⟨B, 0, none⟩) ∧ G 14 = [B] ∧ wr.heap.size ≤ B ∧ Blk wk B 53 4 (fun _ => .int .i64 0) := hD 14 (by simp)
                      obtain ⟨B4, h14, -, hB4, hY⟩ := h14
                      have hX := below_of_regrown hS
                      clear hS hD hA r0 r1 r2 r3 r4 r5 r6
                      have hl4 := hY.lt
                      have f0 := hY.frozen 0
                      have f1 := hY.frozen 1
                      have f2 := hY.frozen 2
                      have f3 := hY.frozen 3
                      have e0 := hY.cell (j := 0) (by decide)
                      have e1 := hY.cell (j := 1) (by decide)
                      have e2 := hY.cell (j := 2) (by decide)
                      have e3 := hY.cell (j := 3) (by decide)
                      simp only [putAll, dstOf, List.getElem?_toArray, List.getElem?_cons_succ, List.getElem?_cons_zero, Act.put, List.setIfInBounds_toArray, List.set_cons_succ, List.set_cons_zero, h13, h14]
                      refine wpSeq_one 15 rfl ?_
                      go_wp2_with fail
                      obtain ⟨W5, hW5, hX5, hY5⟩ := line_stored hY hX hB4 LZ
                      rw [hW5]
                      refine ⟨Late.no (regrown_of_below hX5), ?_⟩
                      refine wpSeq_one 16 rfl ?_
                      go_wp2_with fail
                      refine ⟨Late.yes, ?_⟩
                      refine NoPanic.normal ?_
                      have hB5 := hB.trans (hX5.mono hB.size)
                      have t0 : W5.cell? ⟨B4, 0, none⟩ = some (.int .i64 LZ.o) := hY5.cell (j := 0) (by simp)
                      have t1 : W5.cell? ⟨B4, 1, none⟩ = some (.int .i64 LZ.l) := hY5.cell (j := 1) (by simp)
                      have t2 : W5.cell? ⟨B4, 2, none⟩ = some (.int .i64 LZ.b) := hY5.cell (j := 2) (by simp)
                      have t3 : W5.cell? ⟨B4, 3, none⟩ = some (.int .i64 LZ.n) := hY5.cell (j := 3) (by simp)
                      have hl5 := hY5.lt
                      clear hX5 hW5 hY5 hX hY f0 f1 f2 f3 e0 e1 e2 e3 h13 h14 hl4 hB4 z1 c1 l2 hb hb2 hB
                      obtain ⟨z0, z1, hlk, c1, l2, hb, hBw, hhs, c2⟩ := HL.out W5 hB5
                      clear hlk hhs c2 z1
                      have hkd : KD = 0 ∨ KD = 1 ∨ KD = 2 := by omega
                      have HK0 : Hid (∀ b, KD = 0 → (LZ.b + LZ.n + KP == 0) = b → wrongL KD LZ KP = !b) := fun b h h2 => by rw [h, wL0 k1 k2 k3, h2]
                      have HK1 : Hid (∀ b, KD = 1 → (LZ.b + LZ.n + KP == LZ.l) = b → wrongL KD LZ KP = !b) := fun b h h2 => by rw [h, wL1, h2]
                      have HK2 : Hid (∀ b c, KD = 2 → (LZ.b + LZ.n + KP == LZ.l) = b → (KP == 0) = c → wrongL KD LZ KP = (!b || !c)) := fun b c h h2 h3 => by rw [h, wL2, h2, h3]
                      generalize wrongL KD LZ KP = WL at *
                      rcases hkd with hkd | hkd | hkd
                      · cases h2 : (LZ.b + LZ.n + KP == 0)
                        · have HX : Hid (summedB p s = false) := HT.out (HK0.out _ hkd h2)
                          have n2 : (LZ.b + LZ.n + KP != 0) = true := by rw [bne, h2]; rfl
                          rw [hkd] at z0
                          clear HK0 HK1 HK2 HT HU hkd
                          go_wp2_with fail
                          go_ret
                          exact ⟨by rw [HX.out]; rfl, hBw⟩
                        · have HX := HU.out (HK0.out _ hkd h2)
                          have n2 : (LZ.b + LZ.n + KP != 0) = false := by rw [bne, h2]; rfl
                          have HX2 : Hid _ := HX
                          rw [hkd] at z0
                          clear HK0 HK1 HK2 HT HU hkd HX
                          go_wp2_with fail
                          go_roundw
                          case rel => exact ⟨j + 1, by omega, by go_num, HX2.out, hB5⟩
                          case measure => simp [intOf]; omega
                      · cases h2 : (LZ.b + LZ.n + KP == LZ.l)
                        · have HX : Hid (summedB p s = false) := HT.out (HK1.out _ hkd h2)
                          have n2 : (LZ.b + LZ.n + KP != LZ.l) = true := by rw [bne, h2]; rfl
                          rw [hkd] at z0
                          clear HK0 HK1 HK2 HT HU hkd
                          go_wp2_with fail
                          go_ret
                          exact ⟨by rw [HX.out]; rfl, hBw⟩
                        · have HX := HU.out (HK1.out _ hkd h2)
                          have n2 : (LZ.b + LZ.n + KP != LZ.l) = false := by rw [bne, h2]; rfl
                          have HX2 : Hid _ := HX
                          rw [hkd] at z0
                          clear HK0 HK1 HK2 HT HU hkd HX
                          go_wp2_with fail
                          go_roundw
                          case rel => exact ⟨j + 1, by omega, by go_num, HX2.out, hB5⟩
                          case measure => simp [intOf]; omega
                      · cases h2 : (LZ.b + LZ.n + KP == LZ.l)
                        · have HX : Hid (summedB p s = false) := HT.out (HK2.out _ _ hkd h2 rfl)
                          have n2 : (LZ.b + LZ.n + KP != LZ.l) = true := by rw [bne, h2]; rfl
                          rw [hkd] at z0
                          clear HK0 HK1 HK2 HT HU hkd
                          go_wp2_with fail
                          go_ret
                          exact ⟨by rw [HX.out]; rfl, hBw⟩
                        · cases h3 : (KP == 0)
                          · have HX : Hid (summedB p s = false) := HT.out (HK2.out _ _ hkd h2 h3)
                            have n2 : (LZ.b + LZ.n + KP != LZ.l) = false := by rw [bne, h2]; rfl
                            have n3 : (KP != 0) = true := by rw [bne, h3]; rfl
                            rw [hkd] at z0
                            clear HK0 HK1 HK2 HT HU hkd
                            go_wp2_with fail
                            go_ret
                            exact ⟨by rw [HX.out]; rfl, hBw⟩
                          · have HX := HU.out (HK2.out _ _ hkd h2 h3)
                            have n2 : (LZ.b + LZ.n + KP != LZ.l) = false := by rw [bne, h2]; rfl
                            have n3 : (KP != 0) = false := by rw [bne, h3]; rfl
                            have HX2 : Hid _ := HX
                            rw [hkd] at z0
                            clear HK0 HK1 HK2 HT HU hkd HX
                            go_wp2_with fail
                            go_roundw
                            case rel => exact ⟨j + 1, by omega, by go_num, HX2.out, hB5⟩
                            case measure => simp [intOf]; omega
                  · have HA : Hid (wrongOrder s i = false) := by show wrongOrder s i = false; rw [HE2.out]; exact anyB_no fun j' hj' => HM.out j' (by omega)
                    clear z0 hhs c2 hBw hlk
                    go_wp2_with fail
                    go_roundw
                    case rel => exact ⟨i + 1, by omega, by go_num, all_succ3 HN.out HA.out, hB⟩
                    case measure => simp [intOf]; omega
              · cases hk1 : (KD == 1)
                · have HE2 : Hid (wrongOrder s i = anyB LS.n (fun j => wrongL KD (LS.z j) (keptS s.hs.z i j s.hs.n))) := by show wrongOrder s i = _; rw [HE.out, hk1, Bool.false_and, Bool.false_or]
                  clear hN HE
                  go_wp2_with fail
                  clear hk1
                  clear z0 z1 hlk c1 l2 hb hBw
                  go_loopw [10] (fun i0 wk => ∃ k : Nat, k ≤ LS.n ∧ i0 = .int .i64 k ∧ (∀ j, j < k → wrongL KD (LS.z j) (keptS s.hs.z i j s.hs.n) = false) ∧ Below W0.heap.size W0 wk) (fun i0 _ => LS.n - (intOf i0).toNat)
                  case atStart => exact ⟨0, Nat.zero_le _, rfl, fun j hj => absurd hj (Nat.not_lt_zero _), hB⟩
                  case round =>
                    clear hB
                    obtain ⟨j, hj, rfl, hno, hB⟩ := hrel
                    have HM : Hid (∀ j', j' < j → wrongL KD (LS.z j') (keptS s.hs.z i j' s.hs.n) = false) := hno
                    clear hno
                    obtain ⟨z0, z1, hlk, c1, l2, hb, hBw, hhs, c2⟩ := HL.out wr hB
                    by_cases hlj : j < LS.n
                    · obtain ⟨b2, o2, hla, hb2, y0, y1, y2, y3⟩ := hlk.hds j hlj
                      have qj : (0 : Int) ≤ (j : Int) := by omega
                      obtain ⟨k1, k2, k3⟩ := HLB.out j hlj
                      have HT : Hid (wrongL KD (LS.z j) (keptS s.hs.z i j s.hs.n) = true → summedB p s = false) := fun h => sB_order hlt (by rw [HE2.out]; exact anyB_yes hlj h)
                      have HU : Hid (wrongL KD (LS.z j) (keptS s.hs.z i j s.hs.n) = false → ∀ j', j' < j + 1 → wrongL KD (LS.z j') (keptS s.hs.z i j' s.hs.n) = false) := fun h => all_succ3 HM.out h
                      rw [hla] at z1
                      have HKA : Hid (∀ wk, Below wr.heap.size wr wk → Calls Try.prog 122 #[.slice s.hs.a s.hs.n s.hs.c, .int .i64 i, .int .i64 j] wk fun e w' => e = .returned (.int .i64 (keptS s.hs.z i j s.hs.n)) ∧ w' = wk) := fun wk h => KeptOf_any s.hs i j wk (hhs.below h) HF.out.hold
                      have r0 : ∀ d os, (grow (redrawn wr d) os).cell? ⟨w.heap.size + 1, 1, none⟩ = some (.slice (some ⟨b, o, none⟩) s.os.n s.os.c) := fun d os => cell_regrown c1 d os
                      have r1 : ∀ d os, (grow (redrawn wr d) os).cell? ⟨b, o + i * 2 + 1, none⟩ = some (.slice (some ⟨b2, o2, none⟩) LS.n LS.c) := fun d os => cell_regrown z1 d os
                      have r2 : ∀ d os, (grow (redrawn wr d) os).cell? ⟨b2, o2 + j * 4, none⟩ = some (.int .i64 (LS.z j).o) := fun d os => cell_regrown y0 d os
                      have r3 : ∀ d os, (grow (redrawn wr d) os).cell? ⟨b2, o2 + j * 4 + 1, none⟩ = some (.int .i64 (LS.z j).l) := fun d os => cell_regrown y1 d os
                      have r4 : ∀ d os, (grow (redrawn wr d) os).cell? ⟨b2, o2 + j * 4 + 2, none⟩ = some (.int .i64 (LS.z j).b) := fun d os => cell_regrown y2 d os
                      have r5 : ∀ d os, (grow (redrawn wr d) os).cell? ⟨b2, o2 + j * 4 + 3, none⟩ = some (.int .i64 (LS.z j).n) := fun d os => cell_regrown y3 d os
                      have r6 : ∀ d os, (grow (redrawn wr d) os).cell? ⟨w.heap.size + 1, 2, none⟩ = some (.slice s.hs.a s.hs.n s.hs.c) := fun d os => cell_regrown c2 d os
                      clear hla hlk y0 y1 y2 y3 hhs c2 z0 HM hBw
                      generalize keptS s.hs.z i j s.hs.n = KP at *
                      generalize LS.z j = LZ at *
                      go_wp2_with fail
                      refine wp_region_made5 (fun w' => ∃ p : Regrown, w' = grow (redrawn wr p.d) p.os) (List.range 13) [13, 14] [(false, 15), (true, 16)] (by kernel_rfl) (by kernel_rfl) (by kernel_rfl) (by kernel_rfl) (by kernel_rfl) (by kernel_rfl) (by kernel_rfl) (by kernel_rfl) (by kernel_rfl) (regrown_of_below ((Below.refl _ _).drew)) ?_
                      rw [show List.range 13 = [0, 1, 2, 3, 4, 5, 6, 7, 8, 9, 10, 11, 12] from rfl]
                      simp only [picks, List.drop_succ_cons, List.drop_zero, List.take_succ_cons, List.take_zero, List.cons_append, List.nil_append]
                      repeat (go_big_quiet_step (fail))
                      refine wpQuiet_nil ?_
                      refine ⟨fun j v gg wk => match j with | 13 => v = .int .i64 KP ∧ gg = [] | 14 => ∃ B, v = .pointer (some ⟨B, 0, none⟩) ∧ gg = [B] ∧ wr.heap.size ≤ B ∧ Blk wk B 53 4 (fun _ => .int .i64 0) | _ => True, List.forall_mem_cons.2 ⟨?m13, List.forall_mem_cons.2 ⟨?m14, List.forall_mem_nil _⟩⟩, List.forall_mem_cons.2 ⟨?l13, List.forall_mem_cons.2 ⟨?l14, List.forall_mem_nil _⟩⟩, List.forall_mem_cons.2 ⟨?s13, List.forall_mem_cons.2 ⟨?s14, List.forall_mem_nil _⟩⟩, ?done⟩
                      case m13 => intro v g w w' _ h; exact h
                      case m14 => intro v g w w' hB h; obtain ⟨B, h1, h0, h2, h3⟩ := h; exact ⟨B, h1, h0, h2, h3.below hB⟩
                      case l13 => intro v g w h; rw [(show v = .int .i64 KP ∧ g = [] from h).2]; intro x hx; cases hx
                      case l14 => intro v g w h; obtain ⟨B, h1, h0, h2, h3⟩ := h; rw [h0]; intro x hx; rw [List.mem_singleton] at hx; rw [hx]; exact h3.lt
                      case s13 =>
                        intro V G wk K hS hd hK
                        obtain ⟨pp, rfl⟩ := hS
                        refine wpOp_list 13 rfl ?_
                        simp only [putAll, dstOf, List.getElem?_toArray, List.getElem?_cons_succ, List.getElem?_cons_zero, Act.put, List.setIfInBounds_toArray, List.set_cons_succ, List.set_cons_zero] at hK ⊢
                        go_wp2_with fail
                        refine (HKA.out _ (below_regrown _ _ _)).mono ?_
                        rintro e w' ⟨rfl, rfl⟩
                        go_wp2_with fail
                        exact hK _ [] _ ⟨pp, rfl⟩ (Below.refl _ _) (fun x hx => (by cases hx)) ⟨rfl, rfl⟩
                      case s14 =>
                        intro V G wk K hS hd hK
                        have hX := below_of_regrown hS
                        refine wpOp_list 14 rfl ?_
                        simp only [putAll, dstOf, List.getElem?_toArray, List.getElem?_cons_succ, List.getElem?_cons_zero, Act.put, List.setIfInBounds_toArray, List.set_cons_succ, List.set_cons_zero] at hK ⊢
                        go_wp2_with fail
                        exact hK _ [wk.heap.size] _ (regrown_of_below (hX.alloc hX.size _)) ((Below.refl _ _).alloc (Nat.le_refl _) _) (fun x hx => (by rw [List.mem_singleton] at hx; omega)) ⟨wk.heap.size, rfl, rfl, hX.size, (Blk.mk' (cur := #[.int .i64 0, .int .i64 0, .int .i64 0, .int .i64 0]) rfl rfl).congr (fun j hj => by match j, hj with | 0, _ => rfl | 1, _ => rfl | 2, _ => rfl | 3, _ => rfl)⟩
                      case done =>
                        intro V G wk hS hD hA
                        have h13 := (show V 13 = .int .i64 KP ∧ G 13 = [] from hD 13 (by simp)).1
                        have h14 : ∃ B, V 14 = .pointer (some ⟨B, 0, none⟩) ∧ G 14 = [B] ∧ wr.heap.size ≤ B ∧ Blk wk B 53 4 (fun _ => .int .i64 0) := hD 14 (by simp)
                        obtain ⟨B4, h14, -, hB4, hY⟩ := h14
                        have hX := below_of_regrown hS
                        clear hS hD hA r0 r1 r2 r3 r4 r5 r6
                        have hl4 := hY.lt
                        have f0 := hY.frozen 0
                        have f1 := hY.frozen 1
                        have f2 := hY.frozen 2
                        have f3 := hY.frozen 3
                        have e0 := hY.cell (j := 0) (by decide)
                        have e1 := hY.cell (j := 1) (by decide)
                        have e2 := hY.cell (j := 2) (by decide)
                        have e3 := hY.cell (j := 3) (by decide)
                        simp only [putAll, dstOf, List.getElem?_toArray, List.getElem?_cons_succ, List.getElem?_cons_zero, Act.put, List.setIfInBounds_toArray, List.set_cons_succ, List.set_cons_zero, h13, h14]
                        refine wpSeq_one 15 rfl ?_
                        go_wp2_with fail
                        obtain ⟨W5, hW5, hX5, hY5⟩ := line_stored hY hX hB4 LZ
                        rw [hW5]
                        refine ⟨Late.no (regrown_of_below hX5), ?_⟩
                        refine wpSeq_one 16 rfl ?_
                        go_wp2_with fail
                        refine ⟨Late.yes, ?_⟩
                        refine NoPanic.normal ?_
                        have hB5 := hB.trans (hX5.mono hB.size)
                        have t0 : W5.cell? ⟨B4, 0, none⟩ = some (.int .i64 LZ.o) := hY5.cell (j := 0) (by simp)
                        have t1 : W5.cell? ⟨B4, 1, none⟩ = some (.int .i64 LZ.l) := hY5.cell (j := 1) (by simp)
                        have t2 : W5.cell? ⟨B4, 2, none⟩ = some (.int .i64 LZ.b) := hY5.cell (j := 2) (by simp)
                        have t3 : W5.cell? ⟨B4, 3, none⟩ = some (.int .i64 LZ.n) := hY5.cell (j := 3) (by simp)
                        have hl5 := hY5.lt
                        clear hX5 hW5 hY5 hX hY f0 f1 f2 f3 e0 e1 e2 e3 h13 h14 hl4 hB4 z1 c1 l2 hb hb2 hB
                        obtain ⟨z0, z1, hlk, c1, l2, hb, hBw, hhs, c2⟩ := HL.out W5 hB5
                        clear hlk hhs c2 z1
                        have hkd : KD = 0 ∨ KD = 1 ∨ KD = 2 := by omega
                        have HK0 : Hid (∀ b, KD = 0 → (LZ.b + LZ.n + KP == 0) = b → wrongL KD LZ KP = !b) := fun b h h2 => by rw [h, wL0 k1 k2 k3, h2]
                        have HK1 : Hid (∀ b, KD = 1 → (LZ.b + LZ.n + KP == LZ.l) = b → wrongL KD LZ KP = !b) := fun b h h2 => by rw [h, wL1, h2]
                        have HK2 : Hid (∀ b c, KD = 2 → (LZ.b + LZ.n + KP == LZ.l) = b → (KP == 0) = c → wrongL KD LZ KP = (!b || !c)) := fun b c h h2 h3 => by rw [h, wL2, h2, h3]
                        generalize wrongL KD LZ KP = WL at *
                        rcases hkd with hkd | hkd | hkd
                        · cases h2 : (LZ.b + LZ.n + KP == 0)
                          · have HX : Hid (summedB p s = false) := HT.out (HK0.out _ hkd h2)
                            have n2 : (LZ.b + LZ.n + KP != 0) = true := by rw [bne, h2]; rfl
                            rw [hkd] at z0
                            clear HK0 HK1 HK2 HT HU hkd
                            go_wp2_with fail
                            go_ret
                            exact ⟨by rw [HX.out]; rfl, hBw⟩
                          · have HX := HU.out (HK0.out _ hkd h2)
                            have n2 : (LZ.b + LZ.n + KP != 0) = false := by rw [bne, h2]; rfl
                            have HX2 : Hid _ := HX
                            rw [hkd] at z0
                            clear HK0 HK1 HK2 HT HU hkd HX
                            go_wp2_with fail
                            go_roundw
                            case rel => exact ⟨j + 1, by omega, by go_num, HX2.out, hB5⟩
                            case measure => simp [intOf]; omega
                        · cases h2 : (LZ.b + LZ.n + KP == LZ.l)
                          · have HX : Hid (summedB p s = false) := HT.out (HK1.out _ hkd h2)
                            have n2 : (LZ.b + LZ.n + KP != LZ.l) = true := by rw [bne, h2]; rfl
                            rw [hkd] at z0
                            clear HK0 HK1 HK2 HT HU hkd
                            go_wp2_with fail
                            go_ret
                            exact ⟨by rw [HX.out]; rfl, hBw⟩
                          · have HX := HU.out (HK1.out _ hkd h2)
                            have n2 : (LZ.b + LZ.n + KP != LZ.l) = false := by rw [bne, h2]; rfl
                            have HX2 : Hid _ := HX
                            rw [hkd] at z0
                            clear HK0 HK1 HK2 HT HU hkd HX
                            go_wp2_with fail
                            go_roundw
                            case rel => exact ⟨j + 1, by omega, by go_num, HX2.out, hB5⟩
                            case measure => simp [intOf]; omega
                        · cases h2 : (LZ.b + LZ.n + KP == LZ.l)
                          · have HX : Hid (summedB p s = false) := HT.out (HK2.out _ _ hkd h2 rfl)
                            have n2 : (LZ.b + LZ.n + KP != LZ.l) = true := by rw [bne, h2]; rfl
                            rw [hkd] at z0
                            clear HK0 HK1 HK2 HT HU hkd
                            go_wp2_with fail
                            go_ret
                            exact ⟨by rw [HX.out]; rfl, hBw⟩
                          · cases h3 : (KP == 0)
                            · have HX : Hid (summedB p s = false) := HT.out (HK2.out _ _ hkd h2 h3)
                              have n2 : (LZ.b + LZ.n + KP != LZ.l) = false := by rw [bne, h2]; rfl
                              have n3 : (KP != 0) = true := by rw [bne, h3]; rfl
                              rw [hkd] at z0
                              clear HK0 HK1 HK2 HT HU hkd
                              go_wp2_with fail
                              go_ret
                              exact ⟨by rw [HX.out]; rfl, hBw⟩
                            · have HX := HU.out (HK2.out _ _ hkd h2 h3)
                              have n2 : (LZ.b + LZ.n + KP != LZ.l) = false := by rw [bne, h2]; rfl
                              have n3 : (KP != 0) = false := by rw [bne, h3]; rfl
                              have HX2 : Hid _ := HX
                              rw [hkd] at z0
                              clear HK0 HK1 HK2 HT HU hkd HX
                              go_wp2_with fail
                              go_roundw
                              case rel => exact ⟨j + 1, by omega, by go_num, HX2.out, hB5⟩
                              case measure => simp [intOf]; omega
                    · have HA : Hid (wrongOrder s i = false) := by show wrongOrder s i = false; rw [HE2.out]; exact anyB_no fun j' hj' => HM.out j' (by omega)
                      clear z0 hhs c2 hBw hlk
                      go_wp2_with fail
                      go_roundw
                      case rel => exact ⟨i + 1, by omega, by go_num, all_succ3 HN.out HA.out, hB⟩
                      case measure => simp [intOf]; omega
                · have HX : Hid (summedB p s = false) := sB_order hlt (by rw [HE.out, hN, hk1]; rfl)
                  clear HE
                  go_wp2_with fail
                  go_ret
                  exact ⟨by rw [HX.out]; rfl, hBw⟩
        · have HX : Hid (summedB p s = true) := sB_yes HN2.out fun j hj => HN.out j (by omega)
          clear hsk hpk c0 c2 c3 c4 c5 c6 d0 d1
          go_wp2_with fail
          go_ret
          exact ⟨by rw [HX.out]; rfl, hBw⟩
end Go.Proofs.Ytbcacebifpagpac
namespace Go.Proofs.Ytbcacebifpagpac
open Go.RowKit Go.Shelf Go.Sort
set_option linter.unusedVariables false
structure SameT (s t : St) : Prop where
  on : s.on.n = t.on.n ∧ ∀ i, i < s.on.n → (s.on.r i).n = (t.on.r i).n ∧ ∀ j, j < (s.on.r i).n → (s.on.r i).z j = (t.on.r i).z j
  os : s.os.n = t.os.n ∧ ∀ i, i < s.os.n → (s.os.z i).k = (t.os.z i).k ∧ (s.os.z i).ls.n = (t.os.z i).ls.n ∧ ∀ j, j < (s.os.z i).ls.n → (s.os.z i).ls.z j = (t.os.z i).ls.z j
  hs : s.hs.n = t.hs.n ∧ ∀ j, j < s.hs.n → s.hs.z j = t.hs.z j
  ms : s.ms.n = t.ms.n ∧ ∀ j, j < s.ms.n → s.ms.z j = t.ms.z j
  si : s.si.n = t.si.n ∧ ∀ j, j < s.si.n → s.si.z j = t.si.z j
  so : s.so.n = t.so.n ∧ ∀ j, j < s.so.n → s.so.z j = t.so.z j
  sf : s.sf.n = t.sf.n ∧ ∀ j, j < s.sf.n → s.sf.z j = t.sf.z j
def Boxed (w : World) (B : Nat) (s : St) : Prop :=
  B < w.heap.size ∧ w.cell? ⟨B, 0, none⟩ = some (.slice s.on.a s.on.n s.on.c) ∧ w.cell? ⟨B, 1, none⟩ = some (.slice s.os.a s.os.n s.os.c) ∧ w.cell? ⟨B, 2, none⟩ = some (.slice s.hs.a s.hs.n s.hs.c) ∧
    w.cell? ⟨B, 3, none⟩ = some (.slice s.ms.a s.ms.n s.ms.c) ∧ w.cell? ⟨B, 4, none⟩ = some (.slice s.si.a s.si.n s.si.c) ∧ w.cell? ⟨B, 5, none⟩ = some (.slice s.so.a s.so.n s.so.c) ∧ w.cell? ⟨B, 6, none⟩ = some (.slice s.sf.a s.sf.n s.sf.c)
theorem Boxed.of {w : World} {B : Nat} {e : TypeId} {s : St} (h : Blk w B e 7 (fun j => s.cells.getD j default)) : Boxed w B s :=
  ⟨h.lt, h.cell (j := 0) (by decide), h.cell (j := 1) (by decide), h.cell (j := 2) (by decide), h.cell (j := 3) (by decide), h.cell (j := 4) (by decide), h.cell (j := 5) (by decide), h.cell (j := 6) (by decide)⟩
theorem order_stored {A w : World} {B : Nat} {e : TypeId} {f : Nat → Value} (hY : Blk w B e 2 f) (hX : Below A.heap.size A w) (hB : A.heap.size ≤ B) (k : Int) (v : Value) :
    ∃ W, (w.setCell ⟨B, 0, none⟩ (.int .i64 k)).setCell ⟨B, 1, none⟩ v = W ∧ Below A.heap.size A W ∧ Blk W B e 2 (fun j => (#[.int .i64 k, v] : Array Value).getD j default) ∧ ∀ g t n f', g ≠ B → Blk w g t n f' → Blk W g t n f' :=
  ⟨_, rfl, (hX.setCell (p := ⟨B, 0, none⟩) hB _).setCell (p := ⟨B, 1, none⟩) hB _, ((hY.set 0 _).set 1 _).congr (fun j hj => by match j, hj with | 0, _ => rfl | 1, _ => rfl),
    fun g t n f' hne h => (h.other (a := ⟨B, 0, none⟩) hne _).other (a := ⟨B, 1, none⟩) hne _⟩
set_option maxRecDepth 100000 in
set_option maxHeartbeats 4000000 in
theorem SameStates_yes (s t : St) (w : World) (hs : s.At w) (ht : t.At w) (h : SameT s t) (ho4 : s.os.n ≤ 1000) (hm8 : s.ms.n ≤ 1000) (hl3 : ∀ i, i < s.os.n → (s.os.z i).ls.n ≤ 1000) :
    Calls Try.prog 18 #[s.val, t.val] w fun e w' => e = .returned (.bool true) ∧ Below w.heap.size w w' := by
  obtain ⟨W0, hW, hWB, X0, Y0⟩ : ∃ W, ((w.alloc (.cells s.cells 31)).alloc (.cells t.cells 31)) = W ∧ Below w.heap.size w W ∧ Blk W w.heap.size 31 7 (fun j => s.cells.getD j default) ∧ Blk W (w.heap.size + 1) 31 7 (fun j => t.cells.getD j default) :=
    ⟨_, rfl, two_below _ _ _, (Blk.mk' rfl rfl).alloc _, Blk.mk' (by simp) rfl⟩
  have HC : Hid (∀ wk, Below W0.heap.size W0 wk → Boxed wk w.heap.size s ∧ Boxed wk (w.heap.size + 1) t ∧ s.At wk ∧ t.At wk ∧ Below w.heap.size w wk) := fun wk h => ⟨Boxed.of (X0.below h), Boxed.of (Y0.below h), (hs.below hWB).below h, (ht.below hWB).below h, hWB.trans (h.mono hWB.size)⟩
  have HW : Hid ((w.alloc (.cells #[.slice s.on.a s.on.n s.on.c, .slice s.os.a s.os.n s.os.c, .slice s.hs.a s.hs.n s.hs.c, .slice s.ms.a s.ms.n s.ms.c, .slice s.si.a s.si.n s.si.c, .slice s.so.a s.so.n s.so.c, .slice s.sf.a s.sf.n s.sf.c] 31)).alloc (.cells #[.slice t.on.a t.on.n t.on.c, .slice t.os.a t.os.n t.os.c, .slice t.hs.a t.hs.n t.hs.c, .slice t.ms.a t.ms.n t.ms.c, .slice t.si.a t.si.n t.si.c, .slice t.so.a t.so.n t.so.c, .slice t.sf.a t.sf.n t.sf.c] 31) = W0) := hW
  have HS : Hid (SameT s t) := h
  have ole := hs.os.le
  have ocap := hs.os.cap
  have mle := hs.ms.le
  have mcap := hs.ms.cap
  have ole2 := ht.os.le
  have ocap2 := ht.os.cap
  have mle2 := ht.ms.le
  have mcap2 := ht.ms.cap
  unfold maxLen at ocap mcap ocap2 mcap2
  have n1 : ((s.os.n : Int) != (t.os.n : Int)) = false := by rw [h.os.1]; simp
  have n2 : ((s.ms.n : Int) != (t.ms.n : Int)) = false := by rw [h.ms.1]; simp
  have HL3 : Hid (∀ i, i < s.os.n → (s.os.z i).ls.n ≤ 1000) := hl3
  clear hW X0 Y0 hs ht h hl3
  unfold St.val
  go_enter Try.func18, Try.ntmps18
  go_wp2_with fail
  rw [HW.out]
  obtain ⟨X, Y, hsk, htk, hBw⟩ := HC.out W0 (Below.refl _ _)
  refine (SameRows_yes s.on t.on W0 hsk.on htk.on HS.out.on.1 HS.out.on.2).mono ?_
  rintro e w1 ⟨rfl, hB⟩
  clear X Y hsk htk hBw HW
  obtain ⟨⟨l1, c0, c1, c2, c3, c4, c5, c6⟩, ⟨l2, d0, d1, d2, d3, d4, d5, d6⟩, hsk, htk, hBw⟩ := HC.out w1 hB
  go_wp2_with fail
  refine (SameHolds_yes s.hs t.hs w1 hsk.hs htk.hs HS.out.hs.1 HS.out.hs.2).mono ?_
  rintro e w2 ⟨rfl, hB2⟩
  have hB := hB.trans (hB2.mono hB.size)
  clear l1 c0 c1 c2 c3 c4 c5 c6 l2 d0 d1 d2 d3 d4 d5 d6 hsk htk hBw hB2
  obtain ⟨⟨l1, c0, c1, c2, c3, c4, c5, c6⟩, ⟨l2, d0, d1, d2, d3, d4, d5, d6⟩, hsk, htk, hBw⟩ := HC.out w2 hB
  go_wp2_with fail
  refine (SameInts_yes s.si t.si w2 hsk.si htk.si HS.out.si.1 HS.out.si.2).mono ?_
  rintro e w3 ⟨rfl, hB2⟩
  have hB := hB.trans (hB2.mono hB.size)
  clear l1 c0 c1 c2 c3 c4 c5 c6 l2 d0 d1 d2 d3 d4 d5 d6 hsk htk hBw hB2
  obtain ⟨⟨l1, c0, c1, c2, c3, c4, c5, c6⟩, ⟨l2, d0, d1, d2, d3, d4, d5, d6⟩, hsk, htk, hBw⟩ := HC.out w3 hB
  go_wp2_with fail
  refine (SameInts_yes s.so t.so w3 hsk.so htk.so HS.out.so.1 HS.out.so.2).mono ?_
  rintro e w4 ⟨rfl, hB2⟩
  have hB := hB.trans (hB2.mono hB.size)
  clear l1 c0 c1 c2 c3 c4 c5 c6 l2 d0 d1 d2 d3 d4 d5 d6 hsk htk hBw hB2
  obtain ⟨⟨l1, c0, c1, c2, c3, c4, c5, c6⟩, ⟨l2, d0, d1, d2, d3, d4, d5, d6⟩, hsk, htk, hBw⟩ := HC.out w4 hB
  go_wp2_with fail
  refine (SameInts_yes s.sf t.sf w4 hsk.sf htk.sf HS.out.sf.1 HS.out.sf.2).mono ?_
  rintro e w5 ⟨rfl, hB2⟩
  have hB := hB.trans (hB2.mono hB.size)
  clear l1 c0 c1 c2 c3 c4 c5 c6 l2 d0 d1 d2 d3 d4 d5 d6 hsk htk hBw hB2
  go_wp2_with fail
  go_loopw [5] (fun i wk => ∃ k : Nat, k ≤ s.os.n ∧ i = .int .i64 k ∧ Below W0.heap.size W0 wk) (fun i _ => s.os.n - (intOf i).toNat)
  case atStart => exact ⟨0, Nat.zero_le _, rfl, hB⟩
  case round =>
    clear hB
    obtain ⟨i, hi, rfl, hB⟩ := hrel
    obtain ⟨⟨l1, c0, c1, c2, c3, c4, c5, c6⟩, ⟨l2, d0, d1, d2, d3, d4, d5, d6⟩, hsk, htk, hBw⟩ := HC.out wr hB
    by_cases hlt : i < s.os.n
    · have hlt2 : i < t.os.n := by rw [← HS.out.os.1]; exact hlt
      have qi : (0 : Int) ≤ (i : Int) := by omega
      obtain ⟨b1, o1, hoa, hb1, y0, y1, hl⟩ := hsk.os.ods i hlt
      obtain ⟨b2, o2, hob, hb2, x0, x1, hm⟩ := htk.os.ods i hlt2
      obtain ⟨e1, e2, e3⟩ := HS.out.os.2 i hlt
      have hn3 := HL3.out i hlt
      rw [hoa] at c1
      rw [hob] at d1
      have r0 : ∀ d os, (grow (redrawn wr d) os).cell? ⟨w.heap.size, 1, none⟩ = some (.slice (some ⟨b1, o1, none⟩) s.os.n s.os.c) := fun d os => cell_regrown c1 d os
      have r1 : ∀ d os, (grow (redrawn wr d) os).cell? ⟨w.heap.size + 1, 1, none⟩ = some (.slice (some ⟨b2, o2, none⟩) t.os.n t.os.c) := fun d os => cell_regrown d1 d os
      have r2 : ∀ d os, (grow (redrawn wr d) os).cell? ⟨b1, o1 + i * 2, none⟩ = some (.int .i64 (s.os.z i).k) := fun d os => cell_regrown y0 d os
      have r3 : ∀ d os, (grow (redrawn wr d) os).cell? ⟨b1, o1 + i * 2 + 1, none⟩ = some (.slice (s.os.z i).ls.a (s.os.z i).ls.n (s.os.z i).ls.c) := fun d os => cell_regrown y1 d os
      rw [← e1] at x0
      have r4 : ∀ d os, (grow (redrawn wr d) os).cell? ⟨b2, o2 + i * 2, none⟩ = some (.int .i64 (s.os.z i).k) := fun d os => cell_regrown x0 d os
      have r5 : ∀ d os, (grow (redrawn wr d) os).cell? ⟨b2, o2 + i * 2 + 1, none⟩ = some (.slice (t.os.z i).ls.a (t.os.z i).ls.n (t.os.z i).ls.c) := fun d os => cell_regrown x1 d os
      have HLM : Hid ((s.os.z i).ls.At wr ∧ (t.os.z i).ls.At wr) := ⟨hl, hm⟩
      have HE : Hid ((s.os.z i).ls.n = (t.os.z i).ls.n ∧ ∀ j, j < (s.os.z i).ls.n → (s.os.z i).ls.z j = (t.os.z i).ls.z j) := ⟨e2, e3⟩
      clear hoa hob hl hm e1 e2 e3 c0 c2 c3 c4 c5 c6 d0 d2 d3 d4 d5 d6 hsk htk y0 y1 x0 x1 d1
      generalize (s.os.z i).k = KD at *
      generalize (s.os.z i).ls = LS at *
      generalize (t.os.z i).ls = LT at *
      go_wp2_with fail
      refine wp_region_made5 (fun w' => ∃ p : Regrown, w' = grow (redrawn wr p.d) p.os) (List.range 10) [10, 11] [(false, 12), (true, 13)] (by kernel_rfl) (by kernel_rfl) (by kernel_rfl) (by kernel_rfl) (by kernel_rfl) (by kernel_rfl) (by kernel_rfl) (by kernel_rfl) (by kernel_rfl) (regrown_of_below ((Below.refl _ _).drew)) ?_
      rw [show List.range 10 = [0, 1, 2, 3, 4, 5, 6, 7, 8, 9] from rfl]
      simp only [picks, List.drop_succ_cons, List.drop_zero, List.take_succ_cons, List.take_zero, List.cons_append, List.nil_append]
      repeat (go_big_quiet_step (fail))
      refine wpQuiet_nil ?_
      refine ⟨fun j v g wk => ∃ B, g = [B] ∧ v = .pointer (some ⟨B, 0, none⟩) ∧ wr.heap.size ≤ B ∧ Blk wk B 51 2 (fun j => (#[.int .i64 0, .slice .none 0 0] : Array Value).getD j default), List.forall_mem_cons.2 ⟨?zm, List.forall_mem_cons.2 ⟨?zm2, List.forall_mem_nil _⟩⟩, List.forall_mem_cons.2 ⟨?zl, List.forall_mem_cons.2 ⟨?zl2, List.forall_mem_nil _⟩⟩, List.forall_mem_cons.2 ⟨?zs10, List.forall_mem_cons.2 ⟨?zs11, List.forall_mem_nil _⟩⟩, ?zdone⟩
      case zm | zm2 => intro v g w w' hB h; obtain ⟨B, h0, h1, h2, h3⟩ := h; exact ⟨B, h0, h1, h2, h3.below hB⟩
      case zl | zl2 => intro v g w h; obtain ⟨B, rfl, h1, h2, h3⟩ := h; intro x hx; rw [List.mem_singleton] at hx; subst hx; exact h3.lt
      case zs10 =>
        intro V G wk K hS hd hK
        have hX := below_of_regrown hS
        refine wpOp_list 10 rfl ?_
        simp only [putAll, dstOf, List.getElem?_toArray, List.getElem?_cons_succ, List.getElem?_cons_zero, Act.put, List.setIfInBounds_toArray, List.set_cons_succ, List.set_cons_zero] at hK ⊢
        go_wp2_with fail
        exact hK _ [wk.heap.size] _ (regrown_of_below (hX.alloc hX.size _)) ((Below.refl _ _).alloc (Nat.le_refl _) _) (fun x hx => by rw [List.mem_singleton] at hx; omega) ⟨wk.heap.size, rfl, rfl, hX.size, Blk.mk' rfl rfl⟩
      case zs11 =>
        intro V G wk K hS hd hK
        have hX := below_of_regrown hS
        refine wpOp_list 11 rfl ?_
        simp only [putAll, dstOf, List.getElem?_toArray, List.getElem?_cons_succ, List.getElem?_cons_zero, Act.put, List.setIfInBounds_toArray, List.set_cons_succ, List.set_cons_zero] at hK ⊢
        go_wp2_with fail
        exact hK _ [wk.heap.size] _ (regrown_of_below (hX.alloc hX.size _)) ((Below.refl _ _).alloc (Nat.le_refl _) _) (fun x hx => by rw [List.mem_singleton] at hx; omega) ⟨wk.heap.size, rfl, rfl, hX.size, Blk.mk' rfl rfl⟩
      case zdone =>
        intro V G wk hS hD hA
        obtain ⟨B6, g6, h6, m6, k6⟩ := hD 10 (by simp)
        obtain ⟨B7, g7, h7, m7, k7⟩ := hD 11 (by simp)
        have hne : B6 ≠ B7 := fun e => hA 10 (by simp) 11 (by simp) (by decide) B6 (by rw [g6]; simp) (by rw [g7, e]; simp)
        have hX := below_of_regrown hS
        clear hS hD hA g6 g7 r0 r1 r2 r3 r4 r5
        have f0 := k6.frozen 0
        have f1 := k6.frozen 1
        have e0 := k6.cell (j := 0) (by decide)
        have e1 := k6.cell (j := 1) (by decide)
        have hl6 := k6.lt
        simp only [putAll, dstOf, List.getElem?_toArray, List.getElem?_cons_succ, List.getElem?_cons_zero, Act.put, List.setIfInBounds_toArray, List.set_cons_succ, List.set_cons_zero, h6, h7]
        refine wpSeq_one 12 rfl ?_
        go_wp2_with fail
        obtain ⟨W5, hW5, hX5, hY5, keep⟩ := order_stored k6 hX m6 KD (.slice LS.a LS.n LS.c)
        have k7 := keep _ _ _ _ hne.symm k7
        rw [hW5]
        refine ⟨Late.no (regrown_of_below hX5), ?_⟩
        clear hW5 hX k6 keep f0 f1 e0 e1 hl6 h6 h7
        have f0 := k7.frozen 0
        have f1 := k7.frozen 1
        have e0 := k7.cell (j := 0) (by decide)
        have e1 := k7.cell (j := 1) (by decide)
        have hl6 := k7.lt
        refine wpSeq_one 13 rfl ?_
        go_wp2_with fail
        obtain ⟨W6, hW6, hX6, hY7, keep⟩ := order_stored k7 hX5 m7 KD (.slice LT.a LT.n LT.c)
        have hY6 := keep _ _ _ _ hne hY5
        rw [hW6]
        refine ⟨Late.yes, ?_⟩
        refine NoPanic.normal ?_
        have hB6 := hB.trans (hX6.mono hB.size)
        have HLL : Hid (LS.At W6 ∧ LT.At W6) := ⟨HLM.out.1.below hX6, HLM.out.2.below hX6⟩
        clear hW6 hX5 hX6 k7 keep f0 f1 e0 e1 hl6 hY5 HLM hB m6 m7
        have HD : Hid (∀ wk, Below W6.heap.size W6 wk → (wk.cell? ⟨B6, 0, none⟩ = some (.int .i64 KD) ∧ wk.cell? ⟨B6, 1, none⟩ = some (.slice LS.a LS.n LS.c) ∧ B6 < wk.heap.size) ∧ (wk.cell? ⟨B7, 0, none⟩ = some (.int .i64 KD) ∧ wk.cell? ⟨B7, 1, none⟩ = some (.slice LT.a LT.n LT.c) ∧ B7 < wk.heap.size) ∧ LS.At wk ∧ LT.At wk ∧ Below W0.heap.size W0 wk) :=
          fun wk h => ⟨⟨(hY6.below h).cell (j := 0) (by decide), (hY6.below h).cell (j := 1) (by decide), (hY6.below h).lt⟩, ⟨(hY7.below h).cell (j := 0) (by decide), (hY7.below h).cell (j := 1) (by decide), (hY7.below h).lt⟩, HLL.out.1.below h, HLL.out.2.below h, hB6.trans (h.mono hB6.size)⟩
        clear hY6 hY7 HLL
        obtain ⟨⟨p0, p1, p2⟩, ⟨q0, q1, q2⟩, hls, hlt', hBz⟩ := HD.out W6 (Below.refl _ _)
        have lle := hls.le
        have lcap := hls.cap
        have mle3 := hlt'.le
        have mcap3 := hlt'.cap
        unfold maxLen at lcap mcap3
        have n3 : ((LS.n : Int) != (LT.n : Int)) = false := by rw [HE.out.1]; simp
        clear hls hlt' hBz
        go_wp2_with fail
        clear p0 p1 p2 q0 q1 q2
        go_loopw [8] (fun i0 wk => ∃ k : Nat, k ≤ LS.n ∧ i0 = .int .i64 k ∧ Below W6.heap.size W6 wk) (fun i0 _ => LS.n - (intOf i0).toNat)
        case atStart => exact ⟨0, Nat.zero_le _, rfl, Below.refl _ _⟩
        case round =>
          obtain ⟨j, hj, rfl, hB⟩ := hrel
          obtain ⟨⟨p0, p1, p2⟩, ⟨q0, q1, q2⟩, hls, hlt', hBz⟩ := HD.out wr hB
          by_cases hlj : j < LS.n
          · have hlj2 : j < LT.n := by rw [← HE.out.1]; exact hlj
            have qj : (0 : Int) ≤ (j : Int) := by omega
            obtain ⟨b3, o3, hla, hb3, y0, y1, y2, y3⟩ := hls.hds j hlj
            obtain ⟨b4, o4, hlb, hb4, x0, x1, x2, x3⟩ := hlt'.hds j hlj2
            rw [← HE.out.2 j hlj] at x0 x1 x2 x3
            rw [hla] at p1
            rw [hlb] at q1
            generalize LS.z j = Z at *
            clear hla hlb hls hlt' p0 q0
            go_wp2_with fail
            go_quiet (fail)
            go_wp2_with fail
            go_roundw
            case rel => exact ⟨j + 1, by omega, by go_num, below_drewN hB _⟩
            case measure => simp [intOf]; omega
          · clear hls hlt'
            go_wp2_with fail
            go_roundw
            case rel => exact ⟨i + 1, by omega, by go_num, hBz⟩
            case measure => simp [intOf]; omega
    · go_wp2_with fail
      clear l1 c0 c1 c2 c3 c4 c5 c6 l2 d0 d1 d2 d3 d4 d5 d6 hsk htk hBw hi hlt
      go_loopw [9] (fun i0 wk => ∃ k : Nat, k ≤ s.ms.n ∧ i0 = .int .i64 k ∧ Below W0.heap.size W0 wk) (fun i0 _ => s.ms.n - (intOf i0).toNat)
      case atStart => exact ⟨0, Nat.zero_le _, rfl, hB⟩
      case round =>
        clear hB
        obtain ⟨j, hj, rfl, hB⟩ := hrel
        obtain ⟨⟨l1, c0, c1, c2, c3, c4, c5, c6⟩, ⟨l2, d0, d1, d2, d3, d4, d5, d6⟩, hsk, htk, hBw⟩ := HC.out wr hB
        by_cases hlj : j < s.ms.n
        · have hlj2 : j < t.ms.n := by rw [← HS.out.ms.1]; exact hlj
          have qj : (0 : Int) ≤ (j : Int) := by omega
          obtain ⟨b3, o3, hla, hb3, y0, y1, y2, y3⟩ := hsk.ms.hds j hlj
          obtain ⟨b4, o4, hlb, hb4, x0, x1, x2, x3⟩ := htk.ms.hds j hlj2
          rw [← HS.out.ms.2 j hlj] at x0 x1 x2 x3
          rw [hla] at c3
          rw [hlb] at d3
          generalize s.ms.z j = Z at *
          clear hla hlb hsk htk c0 c1 c2 c4 c5 c6 d0 d1 d2 d4 d5 d6
          go_wp2_with fail
          go_quiet (fail)
          go_wp2_with fail
          go_roundw
          case rel => exact ⟨j + 1, by omega, by go_num, below_drewN hB _⟩
          case measure => simp [intOf]; omega
        · clear hsk htk
          go_wp2_with fail
          go_ret
          exact ⟨rfl, hBw⟩
end Go.Proofs.Ytbcacebifpagpac
namespace Go.Proofs.Ytbcacebifpagpac
open Go.RowKit Go.Shelf Go.Sort
set_option linter.unusedVariables false
theorem stateE_shelf {p : Pl} {s : St} (h : ¬ shelfE p s.on = 0) : stateE p s = shelfE p s.on := by unfold stateE; rw [if_neg h]
theorem stateE_many {p : Pl} {s : St} (h : shelfE p s.on = 0) (h1 : tooManyB s = true) : stateE p s = 2 := by unfold stateE; rw [if_pos h, if_pos h1]
theorem stateE_form {p : Pl} {s : St} (h : shelfE p s.on = 0) (h1 : tooManyB s = false) (h2 : badOrdersB p s = true ∨ badHoldsB p s = true ∨ badMovesB p s = true ∨ badSumsB p s = true) : stateE p s = 1 := by
  unfold stateE
  rw [if_pos h, h1, if_neg (by decide), if_pos (by rcases h2 with h2 | h2 | h2 | h2 <;> simp [h2])]
theorem stateE_sum {p : Pl} {s : St} (h : shelfE p s.on = 0) (h1 : tooManyB s = false) (h2 : badOrdersB p s = false) (h3 : badHoldsB p s = false) (h4 : badMovesB p s = false) (h5 : badSumsB p s = false) : stateE p s = if wrongGoodsB p s || wrongOrdersB s then 7 else 0 := by
  unfold stateE
  rw [if_pos h, h1, if_neg (by decide), h2, h3, h4, h5, if_neg (by decide)]
set_option maxHeartbeats 4000000 in
theorem stateCheck_any (p : Pl) (s : St) (w : World) (hp : p.At w) (hs : s.At w) :
    Calls Try.prog 14 #[p.val, s.val] w fun e w' => e = .returned (.int .i64 (stateE p s)) ∧ Below w.heap.size w w' := by
  obtain ⟨W0, hW, hWB, X0⟩ : ∃ W, ((w.alloc (.cells #[.slice p.ab p.nb p.cb, .slice p.sa p.ns p.cs] 25)).alloc (.cells s.cells 31)) = W ∧ Below w.heap.size w W ∧ Boxes W w.heap.size (w.heap.size + 1) p s := ⟨_, rfl, two_below _ _ _, boxes_new w p s _ _⟩
  have HC : Hid (∀ wk, Below W0.heap.size W0 wk → Boxes wk w.heap.size (w.heap.size + 1) p s ∧ p.At wk ∧ s.At wk ∧ Below w.heap.size w wk) := fun wk h => ⟨X0.below h, (hp.below hWB).below h, (hs.below hWB).below h, hWB.trans (h.mono hWB.size)⟩
  have HW : Hid ((w.alloc (.cells #[.slice p.ab p.nb p.cb, .slice p.sa p.ns p.cs] 25)).alloc (.cells #[.slice s.on.a s.on.n s.on.c, .slice s.os.a s.os.n s.os.c, .slice s.hs.a s.hs.n s.hs.c, .slice s.ms.a s.ms.n s.ms.c, .slice s.si.a s.si.n s.si.c, .slice s.so.a s.so.n s.so.c, .slice s.sf.a s.sf.n s.sf.c] 31) = W0) := hW
  clear hW X0
  unfold Pl.val St.val
  go_enter Try.func14, Try.ntmps14
  go_wp2_with fail
  rw [HW.out]
  have hB : Below W0.heap.size W0 W0 := Below.refl _ _
  obtain ⟨X, hpk, hsk, hBw⟩ := HC.out W0 hB
  refine (shelfCheck_any p s.on W0 hpk hsk.on).mono ?_
  rintro e w1 ⟨rfl, hB1⟩
  have hB := hB.trans (hB1.mono hB.size)
  clear hB1 X hpk hsk hBw
  obtain ⟨X, hpk, hsk, hBw⟩ := HC.out w1 hB
  by_cases h0 : shelfE p s.on = 0
  · have E1 : Hid (shelfE p s.on = 0) := h0
    rw [h0]
    clear h0
    obtain ⟨⟨l1, d0, d1⟩, l2, c0, c1, c2, c3, c4, c5, c6⟩ := X
    go_wp2_with fail
    refine (tooMany_any s _ hsk).mono ?_
    rintro e w2 ⟨rfl, hB1⟩
    have hBn := hB.trans (hB1.mono hB.size)
    clear l1 d0 d1 l2 c0 c1 c2 c3 c4 c5 c6 hpk hsk hBw hB hB1
    have hB := hBn
    clear hBn
    obtain ⟨X, hpk, hsk, hBw⟩ := HC.out w2 hB
    cases hh2 : tooManyB s
    · have E2 : Hid (tooManyB s = false) := hh2
      clear hh2
      obtain ⟨⟨l1, d0, d1⟩, l2, c0, c1, c2, c3, c4, c5, c6⟩ := X
      go_wp2_with fail
      refine (badOrders_any p s _ hpk hsk).mono ?_
      rintro e w3 ⟨rfl, hB1⟩
      have hBn := hB.trans (hB1.mono hB.size)
      clear l1 d0 d1 l2 c0 c1 c2 c3 c4 c5 c6 hpk hsk hBw hB hB1
      have hB := hBn
      clear hBn
      obtain ⟨X, hpk, hsk, hBw⟩ := HC.out w3 hB
      cases hh3 : badOrdersB p s
      · have E3 : Hid (badOrdersB p s = false) := hh3
        clear hh3
        obtain ⟨⟨l1, d0, d1⟩, l2, c0, c1, c2, c3, c4, c5, c6⟩ := X
        go_wp2_with fail
        refine (badHolds_any p s _ hpk hsk).mono ?_
        rintro e w4 ⟨rfl, hB1⟩
        have hBn := hB.trans (hB1.mono hB.size)
        clear l1 d0 d1 l2 c0 c1 c2 c3 c4 c5 c6 hpk hsk hBw hB hB1
        have hB := hBn
        clear hBn
        obtain ⟨X, hpk, hsk, hBw⟩ := HC.out w4 hB
        cases hh4 : badHoldsB p s
        · have E4 : Hid (badHoldsB p s = false) := hh4
          clear hh4
          obtain ⟨⟨l1, d0, d1⟩, l2, c0, c1, c2, c3, c4, c5, c6⟩ := X
          go_wp2_with fail
          refine (badMoves_any p s _ hpk hsk).mono ?_
          rintro e w5 ⟨rfl, hB1⟩
          have hBn := hB.trans (hB1.mono hB.size)
          clear l1 d0 d1 l2 c0 c1 c2 c3 c4 c5 c6 hpk hsk hBw hB hB1
          have hB := hBn
          clear hBn
          obtain ⟨X, hpk, hsk, hBw⟩ := HC.out w5 hB
          cases hh5 : badMovesB p s
          · have E5 : Hid (badMovesB p s = false) := hh5
            clear hh5
            obtain ⟨⟨l1, d0, d1⟩, l2, c0, c1, c2, c3, c4, c5, c6⟩ := X
            go_wp2_with fail
            refine (badSums_any p s _ hpk hsk).mono ?_
            rintro e w6 ⟨rfl, hB1⟩
            have hBn := hB.trans (hB1.mono hB.size)
            clear l1 d0 d1 l2 c0 c1 c2 c3 c4 c5 c6 hpk hsk hBw hB hB1
            have hB := hBn
            clear hBn
            obtain ⟨X, hpk, hsk, hBw⟩ := HC.out w6 hB
            cases hh6 : badSumsB p s
            · have E6 : Hid (badSumsB p s = false) := hh6
              clear hh6
              have HF : Formed p s := formed E1.out E2.out E3.out E4.out E5.out E6.out
              obtain ⟨⟨l1, d0, d1⟩, l2, c0, c1, c2, c3, c4, c5, c6⟩ := X
              go_wp2_with fail
              refine (wrongGoods_any p s _ hpk hsk HF).mono ?_
              rintro e w7 ⟨rfl, hB1⟩
              have hBn := hB.trans (hB1.mono hB.size)
              clear l1 d0 d1 l2 c0 c1 c2 c3 c4 c5 c6 hpk hsk hBw hB hB1
              have hB := hBn
              clear hBn
              obtain ⟨X, hpk, hsk, hBw⟩ := HC.out w7 hB
              cases hh7 : wrongGoodsB p s
              · have E7 : Hid (wrongGoodsB p s = false) := hh7
                clear hh7
                obtain ⟨⟨l1, d0, d1⟩, l2, c0, c1, c2, c3, c4, c5, c6⟩ := X
                go_wp2_with fail
                refine (wrongOrders_any p s _ hsk HF).mono ?_
                rintro e w8 ⟨rfl, hB1⟩
                have hBn := hB.trans (hB1.mono hB.size)
                clear l1 d0 d1 l2 c0 c1 c2 c3 c4 c5 c6 hpk hsk hBw hB hB1
                have hB := hBn
                clear hBn
                obtain ⟨X, hpk, hsk, hBw⟩ := HC.out w8 hB
                cases hh8 : wrongOrdersB s
                · have E8 : Hid (wrongOrdersB s = false) := hh8
                  clear hh8
                  go_wp2_with fail
                  go_ret
                  exact ⟨by rw [stateE_sum E1.out E2.out E3.out E4.out E5.out E6.out, E7.out, E8.out]; rfl, hBw⟩
                · have E8 : Hid (wrongOrdersB s = true) := hh8
                  clear hh8
                  go_wp2_with fail
                  go_ret
                  exact ⟨by rw [stateE_sum E1.out E2.out E3.out E4.out E5.out E6.out, E8.out, Bool.or_true]; rfl, hBw⟩
              · have E7 : Hid (wrongGoodsB p s = true) := hh7
                clear hh7
                go_wp2_with fail
                go_ret
                exact ⟨by rw [stateE_sum E1.out E2.out E3.out E4.out E5.out E6.out, E7.out]; rfl, hBw⟩
            · have E6 : Hid (badSumsB p s = true) := hh6
              clear hh6
              go_wp2_with fail
              go_ret
              exact ⟨by rw [stateE_form E1.out E2.out (.inr (.inr (.inr E6.out)))]; rfl, hBw⟩
          · have E5 : Hid (badMovesB p s = true) := hh5
            clear hh5
            go_wp2_with fail
            go_ret
            exact ⟨by rw [stateE_form E1.out E2.out (.inr (.inr (.inl E5.out)))]; rfl, hBw⟩
        · have E4 : Hid (badHoldsB p s = true) := hh4
          clear hh4
          go_wp2_with fail
          go_ret
          exact ⟨by rw [stateE_form E1.out E2.out (.inr (.inl E4.out))]; rfl, hBw⟩
      · have E3 : Hid (badOrdersB p s = true) := hh3
        clear hh3
        go_wp2_with fail
        go_ret
        exact ⟨by rw [stateE_form E1.out E2.out (.inl E3.out)]; rfl, hBw⟩
    · have E2 : Hid (tooManyB s = true) := hh2
      clear hh2
      go_wp2_with fail
      go_ret
      exact ⟨by rw [stateE_many E1.out E2.out]; rfl, hBw⟩
  · have HE : Hid (stateE p s = shelfE p s.on) := stateE_shelf h0
    go_wp2_with fail
    go_ret
    exact ⟨by rw [HE.out]; rfl, hBw⟩
end Go.Proofs.Ytbcacebifpagpac
namespace Go.Proofs.Ytbcacebifpagpac
open Go.RowKit Go.Shelf Go.Sort
set_option linter.unusedVariables false
def takeTo (p : Pl) (s : St) (b : Int) : Nat → Int
  | 0 => 0
  | k + 1 => takeTo p s b k + (if (s.ms.z k).b = b then (s.ms.z k).n * p.zs (s.ms.z k).o.toNat else 0)
def freeZ (p : Pl) (s : St) (b : Nat) : Int := (p.zb b).room - usedTo (s.on.r b).z p.zs p.ns - takeTo p s b s.ms.n
def freeE (p : Pl) (s : St) (bin : Int) : Int := if stateE p s = 0 then usedE p s.on bin else stateE p s
def freeV (p : Pl) (s : St) (bin : Int) : Int := if freeE p s bin = 0 then freeZ p s bin.toNat else 0
theorem takeTo_hit {p : Pl} {s : St} {b : Int} {k : Nat} (h : (s.ms.z k).b = b) : takeTo p s b (k + 1) = takeTo p s b k + (s.ms.z k).n * p.zs (s.ms.z k).o.toNat := by simp only [takeTo]; rw [if_pos h]
theorem takeTo_miss {p : Pl} {s : St} {b : Int} {k : Nat} (h : ¬ (s.ms.z k).b = b) : takeTo p s b (k + 1) = takeTo p s b k := by simp only [takeTo]; rw [if_neg h, Int.add_zero]
theorem takeTo_bd {p : Pl} {s : St} (f : Formed p s) (b : Int) : ∀ k, k ≤ s.ms.n → 0 ≤ takeTo p s b k ∧ takeTo p s b k ≤ 1800 * k
  | 0, _ => by simp [takeTo]
  | k + 1, hk => by
    have ih := takeTo_bd f b k (by omega)
    have hm := badMove_no (f.move k (by omega))
    have := mul_bd (a := (s.ms.z k).n) (b := p.zs (s.ms.z k).o.toNat) ⟨by omega, hm.2.2.2.2.2⟩ (f.sh.pl.sizes _ (by omega))
    simp only [takeTo]
    split <;> omega
set_option maxHeartbeats 4000000 in
theorem Free_any (p : Pl) (s : St) (bin : Int) (w : World) (hp : p.At w) (hs : s.At w) :
    Calls Try.prog 13 #[p.val, s.val, .int .i64 bin] w fun e w' => e = .returned (.tuple #[.int .i64 (freeV p s bin), .int .i64 (freeE p s bin)]) ∧ Below w.heap.size w w' := by
  obtain ⟨W0, hW, hWB, X0⟩ : ∃ W, ((w.alloc (.cells #[.slice p.ab p.nb p.cb, .slice p.sa p.ns p.cs] 25)).alloc (.cells s.cells 31)) = W ∧ Below w.heap.size w W ∧ Boxes W w.heap.size (w.heap.size + 1) p s := ⟨_, rfl, two_below _ _ _, boxes_new w p s _ _⟩
  have HC : Hid (∀ wk, Below W0.heap.size W0 wk → Boxes wk w.heap.size (w.heap.size + 1) p s ∧ p.At wk ∧ s.At wk ∧ Below w.heap.size w wk) := fun wk h => ⟨X0.below h, (hp.below hWB).below h, (hs.below hWB).below h, hWB.trans (h.mono hWB.size)⟩
  have HW : Hid ((w.alloc (.cells #[.slice p.ab p.nb p.cb, .slice p.sa p.ns p.cs] 25)).alloc (.cells #[.slice s.on.a s.on.n s.on.c, .slice s.os.a s.os.n s.os.c, .slice s.hs.a s.hs.n s.hs.c, .slice s.ms.a s.ms.n s.ms.c, .slice s.si.a s.si.n s.si.c, .slice s.so.a s.so.n s.so.c, .slice s.sf.a s.sf.n s.sf.c] 31) = W0) := hW
  clear hW X0
  unfold Pl.val St.val
  go_enter Try.func13, Try.ntmps13
  go_wp2_with fail
  rw [HW.out]
  obtain ⟨X, hpk, hsk, hBw⟩ := HC.out W0 (Below.refl _ _)
  refine (stateCheck_any p s W0 hpk hsk).mono ?_
  rintro e w1 ⟨rfl, hB⟩
  clear X hpk hsk hBw
  obtain ⟨X, hpk, hsk, hBw⟩ := HC.out w1 hB
  obtain ⟨⟨l1, d0, d1⟩, l2, c0, c1, c2, c3, c4, c5, c6⟩ := X
  by_cases h0 : stateE p s = 0
  · have HR : Hid (RightT p s) := rightT h0
    have H0 : Hid (stateE p s = 0) := h0
    rw [h0]
    clear h0
    go_wp2_with fail
    refine (Used_any p s.on bin w1 hpk hsk.on).mono ?_
    rintro e w2 ⟨rfl, hB2⟩
    have hBn := hB.trans (hB2.mono hB.size)
    clear hB2 hB l1 d0 d1 l2 c0 c1 c2 c3 c4 c5 c6 hpk hsk hBw
    obtain ⟨X, hpk, hsk, hBw⟩ := HC.out w2 hBn
    obtain ⟨⟨l1, d0, d1⟩, l2, c0, c1, c2, c3, c4, c5, c6⟩ := X
    by_cases h1 : usedE p s.on bin = 0
    · have hin : inB bin 0 ((s.on.n : Int) - 1) = true := by
        cases hq : inB bin 0 ((s.on.n : Int) - 1)
        · unfold usedE at h1; rw [HR.out.fm.sh0, hq] at h1; simp at h1
        · rfl
      have hon := HR.out.fm.sh.n
      obtain ⟨b, hb⟩ := Int.eq_ofNat_of_zero_le (inB_true hin).1
      have hbn : b < p.nb := by have := (inB_true hin).2; omega
      have HE : Hid (freeE p s bin = 0 ∧ freeV p s bin = freeZ p s b ∧ usedV p s.on bin = usedTo (s.on.r b).z p.zs p.ns) := by
        have e : freeE p s bin = 0 := by unfold freeE; rw [if_pos H0.out, h1]
        exact ⟨e, by unfold freeV; rw [e, if_pos rfl, hb]; rfl, by unfold usedV; rw [h1, hb]; rfl⟩
      rw [h1, HE.out.2.2]
      have hus := usedTo_bd (z := (s.on.r b).z) (zs := p.zs) (n := p.ns) (fun j hj => ⟨HR.out.fm.sh.num b (by omega) j hj, HR.out.fm.sh.pl.sizes j hj⟩) p.ns (Nat.le_refl _)
      have ns3 := HR.out.fm.sh.pl.ns3
      have ms8 := HR.out.fm.ms8
      have hroom : 0 ≤ (p.zb b).room ∧ (p.zb b).room ≤ 1000 := by
        have := HR.out.fm.sh.pl.bins b hbn
        simp only [badBin, Bool.or_eq_false_iff, Bool.not_eq_false'] at this
        exact inB_true this.1.1
      have TB : Hid (∀ k, k ≤ s.ms.n → 0 ≤ takeTo p s b k ∧ takeTo p s b k ≤ 1800 * k) := takeTo_bd HR.out.fm b
      have TH : Hid (freeZ p s b = (p.zb b).room - usedTo (s.on.r b).z p.zs p.ns - takeTo p s b s.ms.n) := rfl
      obtain ⟨bb, bo, hba, hblt, y0, y1, y2, y3⟩ := hpk.bins b hbn
      rw [hba] at d0
      have HF : Hid (Formed p s) := HR.out.fm
      clear hba h1 hin hpk hsk hon HR
      subst hb
      generalize usedTo (s.on.r b).z p.zs p.ns = US at *
      generalize (p.zb b).room = RM at *
      have q1 : (0 : Int) ≤ (b : Int) := by omega
      go_wp2_with fail
      go_loopw [11, 42] (fun u i wk => ∃ k : Nat, k ≤ s.ms.n ∧ i = .int .i64 k ∧ u = .int .i64 (RM - US - takeTo p s b k) ∧ Below W0.heap.size W0 wk) (fun _ i _ => s.ms.n - (intOf i).toNat)
      case atStart => exact ⟨0, Nat.zero_le _, rfl, by simp [takeTo], hBn⟩
      case round =>
        clear hBn hBw l1 d0 d1 l2 c0 c1 c2 c3 c4 c5 c6 y0 y1 y2 y3 hblt
        obtain ⟨k, hk, rfl, rfl, hB⟩ := hrel
        have m1 := TB.out k hk
        by_cases hlt : k < s.ms.n
        · obtain ⟨X, hpk, hsk, hBw⟩ := HC.out wr hB
          obtain ⟨⟨l1, d0, d1⟩, l2, -⟩ := X
          obtain ⟨b1, o1, hma, hb1, z0, z1, z2, z3⟩ := hsk.ms.hds k hlt
          have hm := badMove_no (HF.out.move k hlt)
          obtain ⟨g, hg⟩ := Int.eq_ofNat_of_zero_le hm.1.1
          have hgn : g < p.ns := by omega
          obtain ⟨b2, o2, hsa, hb2, y0⟩ := hpk.sizes g hgn
          have hzs := HF.out.sh.pl.sizes g hgn
          have hnn := hm.2.2.2.2
          have hmul := mul_bd (a := (s.ms.z k).n) (b := p.zs g) ⟨by omega, hnn.2⟩ hzs
          have H1 : Hid (((s.ms.z k).b = b → takeTo p s b (k + 1) = takeTo p s b k + (s.ms.z k).n * p.zs g) ∧ (¬ (s.ms.z k).b = b → takeTo p s b (k + 1) = takeTo p s b k)) := ⟨fun h => by rw [takeTo_hit h, hg]; rfl, takeTo_miss⟩
          rw [hg] at z0
          rw [hsa] at d1
          obtain ⟨W1, hW1, hB1, hY⟩ : ∃ W1, wr.alloc (.cells #[.int .i64 g, .int .i64 (s.ms.z k).l, .int .i64 (s.ms.z k).b, .int .i64 (s.ms.z k).n] 70) = W1 ∧ Below W0.heap.size W0 W1 ∧ Blk W1 wr.heap.size 70 4 (fun j => (#[.int .i64 g, .int .i64 (s.ms.z k).l, .int .i64 (s.ms.z k).b, .int .i64 (s.ms.z k).n] : Array Value).getD j default) := ⟨_, rfl, hB.alloc hB.size _, Blk.mk' rfl rfl⟩
          have HV : Hid (wr.alloc (.cells #[.int .i64 g, .int .i64 (s.ms.z k).l, .int .i64 (s.ms.z k).b, .int .i64 (s.ms.z k).n] 70) = W1) := hW1
          have hBa : Below wr.heap.size wr W1 := by rw [← hW1]; exact (Below.refl _ _).alloc (Nat.le_refl _) _
          have r0 : ∀ d os, (grow (redrawn W1 d) os).cell? ⟨wr.heap.size, 0, none⟩ = some (.int .i64 g) := fun d os => cell_regrown (hY.cell (j := 0) (by decide)) d os
          have r3 : ∀ d os, (grow (redrawn W1 d) os).cell? ⟨wr.heap.size, 3, none⟩ = some (.int .i64 (s.ms.z k).n) := fun d os => cell_regrown (hY.cell (j := 3) (by decide)) d os
          have r4 : ∀ d os, (grow (redrawn W1 d) os).cell? ⟨w.heap.size, 1, none⟩ = some (.slice (some ⟨b2, o2, none⟩) p.ns p.cs) := fun d os => cell_regrown ((hBa.cell (p := ⟨w.heap.size, 1, none⟩) l1).trans d1) d os
          have r5 : ∀ d os, (grow (redrawn W1 d) os).cell? ⟨b2, o2 + g, none⟩ = some (.int .i64 (p.zs g)) := fun d os => cell_regrown ((hBa.cell (p := ⟨b2, o2 + g, none⟩) hb2).trans y0) d os
          have q2 : (0 : Int) ≤ (g : Int) := by omega
          have q3 : (0 : Int) ≤ (k : Int) := by omega
          rw [hma]
          clear hma hsa hg hm hW1 hpk hsk hBw y0 hBa d0 d1
          generalize takeTo p s b k = U at *
          generalize (s.ms.z k).b = BB at *
          generalize (s.ms.z k).l = LL at *
          generalize (s.ms.z k).n = NN at *
          generalize p.zs g = ZG at *
          cases h1 : (BB == (b : Int))
          · have hm := H1.out.2 (by simpa using h1)
            have HM : Hid (takeTo p s b (k + 1) = U) := hm
            clear hm H1 r0 r3 r4 r5
            go_wp2_with fail
            rw [HV.out]
            go_roundw
            case rel => exact ⟨k + 1, by omega, by go_num, by rw [HM.out], hB1⟩
            case measure => simp [intOf]; omega
          · have hm := H1.out.1 (by simpa using h1)
            have HM : Hid (takeTo p s b (k + 1) = U + NN * ZG) := hm
            clear hm H1
            go_wp2_with fail
            rw [HV.out]
            generalize hPR : NN * ZG = PR at *
            refine wp_region_quiet_below (by kernel_rfl) (by kernel_rfl) ?_
            repeat (go_big_quiet_step (fail))
            refine wpQuiet_nil ?_
            intro _ hw'
            obtain ⟨⟨dq, osq⟩, hw''⟩ := hw'
            subst hw''
            have hC := hB1.trans ((below_regrown W1 dq osq).mono hB1.size)
            clear r0 r3 r4 r5 hY hB1 HV
            generalize grow (redrawn W1 dq) osq = wz at *
            go_wp2_with fail
            go_roundw
            case rel => exact ⟨k + 1, by omega, by go_num, by rw [HM.out, Int.sub_sub _ U], hC⟩
            case measure => simp [intOf]; omega
        · have hkn : k = s.ms.n := by omega
          subst hkn
          go_wp2_with fail
          go_ret2
          exact ⟨by rw [HE.out.1, HE.out.2.1, TH.out]; rfl, hWB.trans (hB.mono hWB.size)⟩
    · have HE : Hid (freeE p s bin = usedE p s.on bin ∧ freeV p s bin = 0) := by
        have e : freeE p s bin = usedE p s.on bin := by unfold freeE; rw [if_pos H0.out]
        exact ⟨e, by unfold freeV; rw [e, if_neg h1]⟩
      go_wp2_with fail
      go_ret2
      exact ⟨by rw [HE.out.1, HE.out.2]; rfl, hBw⟩
  · have HE : Hid (freeE p s bin = stateE p s ∧ freeV p s bin = 0) := by
      have e : freeE p s bin = stateE p s := by unfold freeE; rw [if_neg h0]
      exact ⟨e, by unfold freeV; rw [e, if_neg h0]⟩
    go_wp2_with fail
    go_ret2
    exact ⟨by rw [HE.out.1, HE.out.2]; rfl, hBw⟩
end Go.Proofs.Ytbcacebifpagpac
namespace Go.Proofs.Ytbcacebifpagpac
open Go.RowKit Go.Shelf Go.Sort
set_option linter.unusedVariables false
def NoneS (s : St) : Prop := s.on.n = 0 ∧ s.os.n = 0 ∧ s.hs.n = 0 ∧ s.ms.n = 0 ∧ s.si.n = 0 ∧ s.so.n = 0 ∧ s.sf.n = 0
def noneS : St := ⟨⟨none, 0, 0, fun _ => ⟨none, 0, 0, fun _ => 0⟩⟩, ⟨none, 0, 0, fun _ => ⟨0, ⟨none, 0, 0, fun _ => ⟨0, 0, 0, 0⟩⟩⟩⟩, ⟨none, 0, 0, fun _ => ⟨0, 0, 0, 0⟩⟩, ⟨none, 0, 0, fun _ => ⟨0, 0, 0, 0⟩⟩, ⟨none, 0, 0, fun _ => 0⟩, ⟨none, 0, 0, fun _ => 0⟩, ⟨none, 0, 0, fun _ => 0⟩⟩
theorem Rw.none (w : World) : Rw.At w ⟨.none, 0, 0, fun _ => 0⟩ := ⟨Nat.le_refl _, Nat.zero_le _, fun i hi => absurd hi (Nat.not_lt_zero _)⟩
theorem Hs.none (w : World) : Hs.At w ⟨.none, 0, 0, fun _ => ⟨0, 0, 0, 0⟩⟩ := ⟨Nat.le_refl _, Nat.zero_le _, fun i hi => absurd hi (Nat.not_lt_zero _), fun _ => rfl⟩
theorem noneS_at (w : World) : noneS.At w :=
  ⟨⟨Nat.le_refl _, Nat.zero_le _, fun i hi => absurd hi (Nat.not_lt_zero _)⟩, ⟨Nat.le_refl _, Nat.zero_le _, fun i hi => absurd hi (Nat.not_lt_zero _)⟩, Hs.none w, Hs.none w, Rw.none w, Rw.none w, Rw.none w⟩
def set7 (w : World) (b : Nat) (v0 v1 v2 v3 v4 v5 v6 : Value) : World :=
  ((((((w.setCell ⟨b, 0, none⟩ v0).setCell ⟨b, 1, none⟩ v1).setCell ⟨b, 2, none⟩ v2).setCell ⟨b, 3, none⟩ v3).setCell ⟨b, 4, none⟩ v4).setCell ⟨b, 5, none⟩ v5).setCell ⟨b, 6, none⟩ v6
theorem set7_blk {w : World} {b : Nat} {e : TypeId} {f : Nat → Value} (h : Blk w b e 7 f) (v0 v1 v2 v3 v4 v5 v6 : Value) : Blk (set7 w b v0 v1 v2 v3 v4 v5 v6) b e 7 (fun j => (#[v0, v1, v2, v3, v4, v5, v6] : Array Value).getD j default) :=
  (((((((h.set 0 v0).set 1 v1).set 2 v2).set 3 v3).set 4 v4).set 5 v5).set 6 v6).congr fun j hj => by match j, hj with | 0, _ => rfl | 1, _ => rfl | 2, _ => rfl | 3, _ => rfl | 4, _ => rfl | 5, _ => rfl | 6, _ => rfl
theorem set7_below {n : Nat} {A w : World} {b : Nat} (h : Below n A w) (hb : n ≤ b) (v0 v1 v2 v3 v4 v5 v6 : Value) : Below n A (set7 w b v0 v1 v2 v3 v4 v5 v6) :=
  ((((((h.setCell (p := ⟨b, 0, none⟩) hb v0).setCell (p := ⟨b, 1, none⟩) hb v1).setCell (p := ⟨b, 2, none⟩) hb v2).setCell (p := ⟨b, 3, none⟩) hb v3).setCell (p := ⟨b, 4, none⟩) hb v4).setCell (p := ⟨b, 5, none⟩) hb v5).setCell (p := ⟨b, 6, none⟩) hb v6
theorem box_cells {w : World} {b : Nat} {e : TypeId} {v0 v1 v2 v3 v4 v5 v6 : Value} (h : Blk w b e 7 (fun j => (#[v0, v1, v2, v3, v4, v5, v6] : Array Value).getD j default)) :
    w.cell? ⟨b, 0, none⟩ = some v0 ∧ w.cell? ⟨b, 1, none⟩ = some v1 ∧ w.cell? ⟨b, 2, none⟩ = some v2 ∧ w.cell? ⟨b, 3, none⟩ = some v3 ∧ w.cell? ⟨b, 4, none⟩ = some v4 ∧ w.cell? ⟨b, 5, none⟩ = some v5 ∧ w.cell? ⟨b, 6, none⟩ = some v6 :=
  ⟨h.cell (j := 0) (by decide), h.cell (j := 1) (by decide), h.cell (j := 2) (by decide), h.cell (j := 3) (by decide), h.cell (j := 4) (by decide), h.cell (j := 5) (by decide), h.cell (j := 6) (by decide)⟩
end Go.Proofs.Ytbcacebifpagpac
namespace Go.Proofs.Ytbcacebifpagpac
open Go.RowKit Go.Shelf Go.Sort
set_option linter.unusedVariables false
def OwnI (A : Nat) (w : World) (r : Rw) : Prop := ∃ g, r.a = some ⟨g, 0, none⟩ ∧ A ≤ g ∧ r.n ≤ r.c ∧ r.c ≤ maxLen ∧ Blk w g 3 r.n (fun j => .int .i64 (r.z j))
theorem OwnI.at {A : Nat} {w : World} {r : Rw} (h : OwnI A w r) : r.At w := by
  obtain ⟨g, ha, _, h1, h2, hb⟩ := h
  exact ⟨h1, h2, fun i hi => ⟨g, 0, ha, hb.lt, by rw [Nat.zero_add]; exact hb.cell hi⟩⟩
theorem OwnI.below {A : Nat} {w w' : World} {r : Rw} (h : OwnI A w r) (hB : Below w.heap.size w w') : OwnI A w' r := by
  obtain ⟨g, ha, h0, h1, h2, hb⟩ := h
  exact ⟨g, ha, h0, h1, h2, hb.below hB⟩
structure OwnS (A : Nat) (w : World) (s : St) : Prop where
  on : ∃ g, s.on.a = some ⟨g, 0, none⟩ ∧ A ≤ g ∧ s.on.n ≤ s.on.c ∧ s.on.c ≤ maxLen ∧ Blk w g 23 s.on.n (fun i => .slice (s.on.r i).a (s.on.r i).n (s.on.r i).c)
  rows : ∀ i, i < s.on.n → OwnI A w (s.on.r i)
  rapart : ∀ i j, i < j → j < s.on.n → (s.on.r i).a ≠ (s.on.r j).a
  os : OwnO A w s.os
  hs : OwnH A 65 w s.hs
  ms : OwnH A 70 w s.ms
  msr : Room A w 70 4 s.ms.a s.ms.c
  si : OwnI A w s.si
  so : OwnI A w s.so
  sf : OwnI A w s.sf
  aio : s.si.a ≠ s.so.a
  aif : s.si.a ≠ s.sf.a
  aof : s.so.a ≠ s.sf.a
  ari : ∀ i, i < s.on.n → (s.on.r i).a ≠ s.si.a ∧ (s.on.r i).a ≠ s.so.a ∧ (s.on.r i).a ≠ s.sf.a
theorem OwnS.at {A : Nat} {w : World} {s : St} (h : OwnS A w s) : s.At w := by
  obtain ⟨g, ha, _, h1, h2, hb⟩ := h.on
  exact ⟨⟨h1, h2, fun i hi => ⟨g, 0, ha, hb.lt, by rw [Nat.zero_add]; exact hb.cell hi, (h.rows i hi).at⟩⟩, h.os.at, h.hs.at, h.ms.at, h.si.at, h.so.at, h.sf.at⟩
theorem OwnI.other {A : Nat} {t : TypeId} {w : World} {r : Rw} {q n : Nat} {f : Nat → Value} (h : OwnI A w r) (hq : Blk w q t n f) (hne : 3 ≠ t) (j : Nat) (u : Value) : OwnI A (w.setCell ⟨q, j, none⟩ u) r := by
  obtain ⟨g, ha, h0, h1, h2, hb⟩ := h
  exact ⟨g, ha, h0, h1, h2, hb.other (a := ⟨q, j, none⟩) (Blk.ne2 hb hq hne) u⟩
theorem OwnO.other {A : Nat} {t : TypeId} {w : World} {s : Os} {q n : Nat} {f : Nat → Value} (h : OwnO A w s) (hq : Blk w q t n f) (h1 : 51 ≠ t) (h2 : 53 ≠ t) (j : Nat) (u : Value) : OwnO A (w.setCell ⟨q, j, none⟩ u) s := by
  refine ⟨h.le, h.cap, fun hn => ?_, fun i hi => ?_, h.apart, h.room.set q j u⟩
  · obtain ⟨g, a, b, c⟩ := h.list hn
    exact ⟨g, a, b, c.other (a := ⟨q, j, none⟩) (Blk.ne2 c hq h1) u⟩
  · obtain ⟨B, a, b, c, d, e⟩ := h.lines i hi
    exact ⟨B, a, b, c, d, e.other (a := ⟨q, j, none⟩) (Blk.ne2 e hq h2) u⟩
theorem OwnS.box {A : Nat} {w : World} {s : St} {q n : Nat} {f : Nat → Value} (h : OwnS A w s) (hq : Blk w q 31 n f) (j : Nat) (u : Value) : OwnS A (w.setCell ⟨q, j, none⟩ u) s := by
  refine ⟨?_, fun i hi => (h.rows i hi).other hq (by decide) j u, h.rapart, h.os.other hq (by decide) (by decide) j u, h.hs.other hq (by decide) j u, h.ms.other hq (by decide) j u, h.msr.set q j u, h.si.other hq (by decide) j u, h.so.other hq (by decide) j u, h.sf.other hq (by decide) j u, h.aio, h.aif, h.aof, h.ari⟩
  obtain ⟨g, ha, h0, h1, h2, hb⟩ := h.on
  exact ⟨g, ha, h0, h1, h2, hb.other (a := ⟨q, j, none⟩) (Blk.ne2 hb hq (by decide)) u⟩
theorem OwnS.set7 {A : Nat} {w : World} {s : St} {b : Nat} {f : Nat → Value} (h : OwnS A w s) (hq : Blk w b 31 7 f) (v0 v1 v2 v3 v4 v5 v6 : Value) : OwnS A (Go.Proofs.Ytbcacebifpagpac.set7 w b v0 v1 v2 v3 v4 v5 v6) s :=
  ((((((h.box hq 0 v0).box (hq.set 0 v0) 1 v1).box ((hq.set 0 v0).set 1 v1) 2 v2).box (((hq.set 0 v0).set 1 v1).set 2 v2) 3 v3).box ((((hq.set 0 v0).set 1 v1).set 2 v2).set 3 v3) 4 v4).box (((((hq.set 0 v0).set 1 v1).set 2 v2).set 3 v3).set 4 v4) 5 v5).box ((((((hq.set 0 v0).set 1 v1).set 2 v2).set 3 v3).set 4 v4).set 5 v5) 6 v6
def DRows (A : Nat) (s : St) (v : Value) (g : List Nat) (wk : World) : Prop := ∃ (g0 : Nat) (G C : Nat → Nat), v = .slice (some ⟨g0, 0, none⟩) s.on.n s.on.n ∧ A ≤ g0 ∧ Blk wk g0 23 s.on.n (fun i => .slice (some ⟨G i, 0, none⟩) (s.on.r i).n (C i)) ∧
  (∀ i, i < s.on.n → A ≤ G i ∧ (s.on.r i).n ≤ C i ∧ C i ≤ maxLen ∧ Blk wk (G i) 3 (s.on.r i).n (fun j => .int .i64 ((s.on.r i).z j))) ∧ (∀ i j, i < j → j < s.on.n → G i < G j) ∧ g = (List.range s.on.n).map G
theorem DRows.below {A : Nat} {s : St} {v : Value} {g : List Nat} {w w' : World} (h : DRows A s v g w) (hB : Below w.heap.size w w') : DRows A s v g w' := by
  obtain ⟨g0, G, C, h1, h2, h3, h4, h5, h6⟩ := h
  exact ⟨g0, G, C, h1, h2, h3.below hB, fun i hi => ⟨(h4 i hi).1, (h4 i hi).2.1, (h4 i hi).2.2.1, (h4 i hi).2.2.2.below hB⟩, h5, h6⟩
theorem DRows.lt {A : Nat} {s : St} {v : Value} {g : List Nat} {w : World} (h : DRows A s v g w) : ∀ x ∈ g, x < w.heap.size := by
  obtain ⟨g0, G, C, h1, h2, h3, h4, h5, rfl⟩ := h
  intro x hx
  obtain ⟨i, hi, rfl⟩ := List.mem_map.1 hx
  exact (h4 i (List.mem_range.1 hi)).2.2.2.lt
def DInts (A : Nat) (r : Rw) (v : Value) (g : List Nat) (wk : World) : Prop := ∃ B c, g = [B] ∧ v = .slice (some ⟨B, 0, none⟩) r.n c ∧ A ≤ B ∧ r.n ≤ c ∧ c ≤ maxLen ∧ Blk wk B 3 r.n (fun j => .int .i64 (r.z j))
theorem DInts.below {A : Nat} {r : Rw} {v : Value} {g : List Nat} {w w' : World} (h : DInts A r v g w) (hB : Below w.heap.size w w') : DInts A r v g w' := by
  obtain ⟨B, c, h1, h2, h3, h4, h5, h6⟩ := h
  exact ⟨B, c, h1, h2, h3, h4, h5, h6.below hB⟩
theorem DInts.lt {A : Nat} {r : Rw} {v : Value} {g : List Nat} {w : World} (h : DInts A r v g w) : ∀ x ∈ g, x < w.heap.size := by
  obtain ⟨B, c, rfl, h2, h3, h4, h5, h6⟩ := h
  intro x hx
  rw [List.mem_singleton] at hx
  subst hx
  exact h6.lt
def DHs (A : Nat) (e : TypeId) (s : Hs) (v : Value) (g : List Nat) (wk : World) : Prop := ∃ s' : Hs, g = [] ∧ v = .slice s'.a s'.n s'.c ∧ Cloned A e s wk s'
theorem DHs.below {A : Nat} {e : TypeId} {s : Hs} {v : Value} {g : List Nat} {w w' : World} (h : DHs A e s v g w) (hB : Below w.heap.size w w') : DHs A e s v g w' := by
  obtain ⟨s', h1, h2, h3, h4, h5, h6⟩ := h
  exact ⟨s', h1, h2, h3, h4, h5.below hB, h6.below hB⟩
theorem OwnO.below {A : Nat} {w w' : World} {s : Os} (h : OwnO A w s) (hB : Below w.heap.size w w') : OwnO A w' s := by
  refine ⟨h.le, h.cap, fun hn => ?_, fun i hi => ?_, h.apart, h.room.below hB⟩
  · obtain ⟨g, a, b, c⟩ := h.list hn
    exact ⟨g, a, b, c.below hB⟩
  · obtain ⟨B, a, b, c, d, e⟩ := h.lines i hi
    exact ⟨B, a, b, c, d, e.below hB⟩
theorem OwnO.mono {A A' : Nat} {w : World} {s : Os} (h : OwnO A w s) (hA : A' ≤ A) : OwnO A' w s := by
  refine ⟨h.le, h.cap, fun hn => ?_, fun i hi => ?_, h.apart, h.room.mono hA⟩
  · obtain ⟨g, a, b, c⟩ := h.list hn
    exact ⟨g, a, by omega, c⟩
  · obtain ⟨B, a, b, c⟩ := h.lines i hi
    exact ⟨B, a, by omega, c⟩
def DOs (A : Nat) (s : Os) (v : Value) (g : List Nat) (wk : World) : Prop := ∃ s' : Os, g = [] ∧ v = .slice s'.a s'.n s'.c ∧ SameO s' s ∧ OwnO A wk s'
theorem DOs.below {A : Nat} {s : Os} {v : Value} {g : List Nat} {w w' : World} (h : DOs A s v g w) (hB : Below w.heap.size w w') : DOs A s v g w' := by
  obtain ⟨s', h1, h2, h3, h4⟩ := h
  exact ⟨s', h1, h2, h3, h4.below hB⟩
set_option maxRecDepth 100000 in
set_option maxHeartbeats 4000000 in
theorem copyState_any (p : Pl) (s : St) (w : World) (hs : s.At w) (f : Formed p s) :
    Calls Try.prog 45 #[s.val] w fun e w' => ∃ s' : St, e = .returned s'.val ∧ SameT s' s ∧ OwnS w.heap.size w' s' ∧ Below w.heap.size w w' := by
  obtain ⟨W0, hW, hWB, X0, Z0⟩ : ∃ W, ((w.alloc (.cells s.cells 31)).alloc (.cells #[.slice .none 0 0, .slice .none 0 0, .slice .none 0 0, .slice .none 0 0, .slice .none 0 0, .slice .none 0 0, .slice .none 0 0] 31)) = W ∧ Below w.heap.size w W ∧ Blk W w.heap.size 31 7 (fun j => s.cells.getD j default) ∧ Blk W (w.heap.size + 1) 31 7 (fun _ => .slice .none 0 0) :=
    ⟨_, rfl, two_below _ _ _, (Blk.mk' rfl rfl).alloc _, (Blk.mk' (cur := #[.slice .none 0 0, .slice .none 0 0, .slice .none 0 0, .slice .none 0 0, .slice .none 0 0, .slice .none 0 0, .slice .none 0 0]) (by simp) rfl).congr (fun j hj => by match j, hj with | 0, _ => rfl | 1, _ => rfl | 2, _ => rfl | 3, _ => rfl | 4, _ => rfl | 5, _ => rfl | 6, _ => rfl)⟩
  have HW : Hid ((w.alloc (.cells #[.slice s.on.a s.on.n s.on.c, .slice s.os.a s.os.n s.os.c, .slice s.hs.a s.hs.n s.hs.c, .slice s.ms.a s.ms.n s.ms.c, .slice s.si.a s.si.n s.si.c, .slice s.so.a s.so.n s.so.c, .slice s.sf.a s.sf.n s.sf.c] 31)).alloc (.cells #[.slice .none 0 0, .slice .none 0 0, .slice .none 0 0, .slice .none 0 0, .slice .none 0 0, .slice .none 0 0, .slice .none 0 0] 31) = W0) := hW
  have HS : Hid (s.At W0) := hs.below hWB
  have HF : Hid (Formed p s) := f
  have HZ : Hid (Blk W0 (w.heap.size + 1) 31 7 (fun _ => .slice .none 0 0)) := Z0
  have hsz0 := hWB.size
  obtain ⟨l1, c0, c1, c2, c3, c4, c5, c6⟩ := Boxed.of X0
  have r0 : ∀ d os, (grow (redrawn W0 d) os).cell? ⟨w.heap.size, 0, none⟩ = some (.slice s.on.a s.on.n s.on.c) := fun d os => cell_regrown c0 d os
  have r1 : ∀ d os, (grow (redrawn W0 d) os).cell? ⟨w.heap.size, 1, none⟩ = some (.slice s.os.a s.os.n s.os.c) := fun d os => cell_regrown c1 d os
  have r2 : ∀ d os, (grow (redrawn W0 d) os).cell? ⟨w.heap.size, 2, none⟩ = some (.slice s.hs.a s.hs.n s.hs.c) := fun d os => cell_regrown c2 d os
  have r3 : ∀ d os, (grow (redrawn W0 d) os).cell? ⟨w.heap.size, 3, none⟩ = some (.slice s.ms.a s.ms.n s.ms.c) := fun d os => cell_regrown c3 d os
  have r4 : ∀ d os, (grow (redrawn W0 d) os).cell? ⟨w.heap.size, 4, none⟩ = some (.slice s.si.a s.si.n s.si.c) := fun d os => cell_regrown c4 d os
  have r5 : ∀ d os, (grow (redrawn W0 d) os).cell? ⟨w.heap.size, 5, none⟩ = some (.slice s.so.a s.so.n s.so.c) := fun d os => cell_regrown c5 d os
  have r6 : ∀ d os, (grow (redrawn W0 d) os).cell? ⟨w.heap.size, 6, none⟩ = some (.slice s.sf.a s.sf.n s.sf.c) := fun d os => cell_regrown c6 d os
  clear hW X0 Z0 hs f c0 c1 c2 c3 c4 c5 c6
  unfold St.val
  go_enter Try.func45, Try.ntmps45
  go_wp2_with fail
  rw [HW.out]
  refine wp_region_made5 (fun w' => ∃ p : Regrown, w' = grow (redrawn W0 p.d) p.os) [0, 1, 3, 4, 6, 7, 9, 10, 12, 13, 15, 16, 18, 19] [2, 5, 8, 11, 14, 17, 20] [(false, 21), (true, 22)] (by kernel_rfl) (by kernel_rfl) (by kernel_rfl) (by kernel_rfl) (by kernel_rfl) (by kernel_rfl) (by kernel_rfl) (by kernel_rfl) (by kernel_rfl) (regrown_of_below ((Below.refl _ _).drew)) ?_
  simp only [picks, List.drop_succ_cons, List.drop_zero, List.take_succ_cons, List.take_zero, List.cons_append, List.nil_append]
  repeat (go_big_quiet_step (fail))
  refine wpQuiet_nil ?_
  clear r0 r1 r2 r3 r4 r5 r6
  refine ⟨fun j v g wk => match j with | 2 => DRows w.heap.size s v g wk | 5 => DOs w.heap.size s.os v g wk | 8 => DHs w.heap.size 65 s.hs v g wk | 11 => DHs w.heap.size 70 s.ms v g wk | 14 => DInts w.heap.size s.si v g wk | 17 => DInts w.heap.size s.so v g wk | 20 => DInts w.heap.size s.sf v g wk | _ => True,
    List.forall_mem_cons.2 ⟨fun v g w w' hB h => DRows.below h hB, List.forall_mem_cons.2 ⟨fun v g w w' hB h => DOs.below h hB, List.forall_mem_cons.2 ⟨fun v g w w' hB h => DHs.below h hB, List.forall_mem_cons.2 ⟨fun v g w w' hB h => DHs.below h hB, List.forall_mem_cons.2 ⟨fun v g w w' hB h => DInts.below h hB, List.forall_mem_cons.2 ⟨fun v g w w' hB h => DInts.below h hB, List.forall_mem_cons.2 ⟨fun v g w w' hB h => DInts.below h hB, List.forall_mem_nil _⟩⟩⟩⟩⟩⟩⟩,
    List.forall_mem_cons.2 ⟨fun v g w h => DRows.lt h, List.forall_mem_cons.2 ⟨fun v g w h => by obtain ⟨_, h1, _⟩ := h; rw [h1]; intro x hx; simp at hx, List.forall_mem_cons.2 ⟨fun v g w h => by obtain ⟨_, h1, _⟩ := h; rw [h1]; intro x hx; simp at hx, List.forall_mem_cons.2 ⟨fun v g w h => by obtain ⟨_, h1, _⟩ := h; rw [h1]; intro x hx; simp at hx, List.forall_mem_cons.2 ⟨fun v g w h => DInts.lt h, List.forall_mem_cons.2 ⟨fun v g w h => DInts.lt h, List.forall_mem_cons.2 ⟨fun v g w h => DInts.lt h, List.forall_mem_nil _⟩⟩⟩⟩⟩⟩⟩,
    List.forall_mem_cons.2 ⟨?zs2, List.forall_mem_cons.2 ⟨?zs5, List.forall_mem_cons.2 ⟨?zs8, List.forall_mem_cons.2 ⟨?zs11, List.forall_mem_cons.2 ⟨?zs14, List.forall_mem_cons.2 ⟨?zs17, List.forall_mem_cons.2 ⟨?zs20, List.forall_mem_nil _⟩⟩⟩⟩⟩⟩⟩, ?zdone⟩
  case zs2 =>
    intro V G wk K hS hd hK
    have hX := below_of_regrown hS
    refine wpOp_list 2 rfl ?_
    simp only [putAll, dstOf, List.getElem?_toArray, List.getElem?_cons_succ, List.getElem?_cons_zero, Act.put, List.setIfInBounds_toArray, List.set_cons_succ, List.set_cons_zero] at hK ⊢
    go_wp2_with fail
    refine (copyRows_any s.on wk (HS.out.on.below hX) (by rw [HF.out.sh.n]; exact HF.out.sh.pl.nb6) (fun i hi => by rw [HF.out.sh.len i hi]; exact ⟨HF.out.sh.pl.ns1, HF.out.sh.pl.ns3⟩)).mono ?_
    rintro e w2 ⟨g0, Gr, Cr, rfl, a1, a2, a3, a4, hB2⟩
    go_wp2_with fail
    have q := hX.size
    refine hK _ ((List.range s.on.n).map Gr) _ (regrown_of_below (hX.trans (hB2.mono hX.size))) hB2 (fun x hx => ?_) ⟨g0, Gr, Cr, rfl, by omega, a2, fun i hi => ⟨by have := (a3 i hi).1; omega, (a3 i hi).2⟩, a4, rfl⟩
    obtain ⟨i, hi, rfl⟩ := List.mem_map.1 hx
    have := (a3 i (List.mem_range.1 hi)).1
    omega
  case zs5 =>
    intro V G wk K hS hd hK
    have hX := below_of_regrown hS
    refine wpOp_list 5 rfl ?_
    simp only [putAll, dstOf, List.getElem?_toArray, List.getElem?_cons_succ, List.getElem?_cons_zero, Act.put, List.setIfInBounds_toArray, List.set_cons_succ, List.set_cons_zero] at hK ⊢
    go_wp2_with fail
    refine (copyOrders_any s.os wk (HS.out.os.below hX) (by have := HF.out.os4; omega) HF.out.lns).mono ?_
    rintro e w2 ⟨s', rfl, a1, a2, hB2⟩
    have q := hX.size
    have HR : Hid (SameO s' s.os ∧ OwnO w.heap.size w2 s') := ⟨a1, a2.mono (by omega)⟩
    clear a1 a2
    simp only [Os.val]
    go_wp2_with fail
    exact hK _ [] _ (regrown_of_below (hX.trans (hB2.mono hX.size))) hB2 (fun x hx => by simp at hx) ⟨s', rfl, rfl, HR.out.1, HR.out.2⟩
  case zs8 =>
    intro V G wk K hS hd hK
    have hX := below_of_regrown hS
    refine wpOp_list 8 rfl ?_
    simp only [putAll, dstOf, List.getElem?_toArray, List.getElem?_cons_succ, List.getElem?_cons_zero, Act.put, List.setIfInBounds_toArray, List.set_cons_succ, List.set_cons_zero] at hK ⊢
    go_wp2_with fail
    refine (CloneHold_any s.hs wk (HS.out.hs.below hX) (by have := HF.out.hs72; omega)).mono ?_
    rintro e w2 ⟨s', rfl, hc, hB2⟩
    have q := hX.size
    have HR : Hid (Cloned w.heap.size 65 s.hs w2 s') := ⟨hc.1, hc.2.1, hc.2.2.1.mono (by omega), hc.2.2.2.mono (by omega)⟩
    clear hc
    simp only [Hs.val]
    go_wp2_with fail
    exact hK _ [] _ (regrown_of_below (hX.trans (hB2.mono hX.size))) hB2 (fun x hx => by simp at hx) ⟨s', rfl, rfl, HR.out⟩
  case zs11 =>
    intro V G wk K hS hd hK
    have hX := below_of_regrown hS
    refine wpOp_list 11 rfl ?_
    simp only [putAll, dstOf, List.getElem?_toArray, List.getElem?_cons_succ, List.getElem?_cons_zero, Act.put, List.setIfInBounds_toArray, List.set_cons_succ, List.set_cons_zero] at hK ⊢
    go_wp2_with fail
    refine (CloneMove_any s.ms wk (HS.out.ms.below hX) (by have := HF.out.ms8; omega)).mono ?_
    rintro e w2 ⟨s', rfl, hc, hB2⟩
    have q := hX.size
    have HR : Hid (Cloned w.heap.size 70 s.ms w2 s') := ⟨hc.1, hc.2.1, hc.2.2.1.mono (by omega), hc.2.2.2.mono (by omega)⟩
    clear hc
    simp only [Hs.val]
    go_wp2_with fail
    exact hK _ [] _ (regrown_of_below (hX.trans (hB2.mono hX.size))) hB2 (fun x hx => by simp at hx) ⟨s', rfl, rfl, HR.out⟩
  case zs14 =>
    intro V G wk K hS hd hK
    have hX := below_of_regrown hS
    have hn1 := HF.out.sh.pl.ns1
    have hn3 := HF.out.sh.pl.ns3
    have HCI : Hid (Calls Try.prog 92 #[.slice s.si.a s.si.n s.si.c] wk fun e w' => ∃ g c', e = .returned (.slice (some ⟨g, 0, none⟩) s.si.n c') ∧ s.si.n ≤ c' ∧ c' ≤ maxLen ∧ wk.heap.size ≤ g ∧ Blk w' g 3 s.si.n (fun j => .int .i64 (s.si.z j)) ∧ Below wk.heap.size wk w') := by
      have hr := HS.out.si.below hX
      obtain ⟨b, o, ha, -, -⟩ := hr.ints 0 (by rw [HF.out.sin]; omega)
      have hi := hr.ints
      have hz : s.si.n = p.ns := HF.out.sin
      rw [ha] at hi
      have := Clone_any b o s.si.n s.si.c s.si.z wk (by omega) (by omega) hi
      rw [← ha] at this
      exact this
    refine wpOp_list 14 rfl ?_
    simp only [putAll, dstOf, List.getElem?_toArray, List.getElem?_cons_succ, List.getElem?_cons_zero, Act.put, List.setIfInBounds_toArray, List.set_cons_succ, List.set_cons_zero] at hK ⊢
    go_wp2_with fail
    refine HCI.out.mono ?_
    rintro e w2 ⟨g, c', rfl, a1, a2, a3, a4, hB2⟩
    have q := hX.size
    go_wp2_with fail
    exact hK _ [g] _ (regrown_of_below (hX.trans (hB2.mono hX.size))) hB2 (fun x hx => by rw [List.mem_singleton] at hx; omega) ⟨g, c', rfl, rfl, by omega, a1, a2, a4⟩
  case zs17 =>
    intro V G wk K hS hd hK
    have hX := below_of_regrown hS
    have hn1 := HF.out.sh.pl.ns1
    have hn3 := HF.out.sh.pl.ns3
    have HCI : Hid (Calls Try.prog 92 #[.slice s.so.a s.so.n s.so.c] wk fun e w' => ∃ g c', e = .returned (.slice (some ⟨g, 0, none⟩) s.so.n c') ∧ s.so.n ≤ c' ∧ c' ≤ maxLen ∧ wk.heap.size ≤ g ∧ Blk w' g 3 s.so.n (fun j => .int .i64 (s.so.z j)) ∧ Below wk.heap.size wk w') := by
      have hr := HS.out.so.below hX
      obtain ⟨b, o, ha, -, -⟩ := hr.ints 0 (by rw [HF.out.son]; omega)
      have hi := hr.ints
      have hz : s.so.n = p.ns := HF.out.son
      rw [ha] at hi
      have := Clone_any b o s.so.n s.so.c s.so.z wk (by omega) (by omega) hi
      rw [← ha] at this
      exact this
    refine wpOp_list 17 rfl ?_
    simp only [putAll, dstOf, List.getElem?_toArray, List.getElem?_cons_succ, List.getElem?_cons_zero, Act.put, List.setIfInBounds_toArray, List.set_cons_succ, List.set_cons_zero] at hK ⊢
    go_wp2_with fail
    refine HCI.out.mono ?_
    rintro e w2 ⟨g, c', rfl, a1, a2, a3, a4, hB2⟩
    have q := hX.size
    go_wp2_with fail
    exact hK _ [g] _ (regrown_of_below (hX.trans (hB2.mono hX.size))) hB2 (fun x hx => by rw [List.mem_singleton] at hx; omega) ⟨g, c', rfl, rfl, by omega, a1, a2, a4⟩
  case zs20 =>
    intro V G wk K hS hd hK
    have hX := below_of_regrown hS
    have hn1 := HF.out.sh.pl.ns1
    have hn3 := HF.out.sh.pl.ns3
    have HCI : Hid (Calls Try.prog 92 #[.slice s.sf.a s.sf.n s.sf.c] wk fun e w' => ∃ g c', e = .returned (.slice (some ⟨g, 0, none⟩) s.sf.n c') ∧ s.sf.n ≤ c' ∧ c' ≤ maxLen ∧ wk.heap.size ≤ g ∧ Blk w' g 3 s.sf.n (fun j => .int .i64 (s.sf.z j)) ∧ Below wk.heap.size wk w') := by
      have hr := HS.out.sf.below hX
      obtain ⟨b, o, ha, -, -⟩ := hr.ints 0 (by rw [HF.out.sfn]; omega)
      have hi := hr.ints
      have hz : s.sf.n = p.ns := HF.out.sfn
      rw [ha] at hi
      have := Clone_any b o s.sf.n s.sf.c s.sf.z wk (by omega) (by omega) hi
      rw [← ha] at this
      exact this
    refine wpOp_list 20 rfl ?_
    simp only [putAll, dstOf, List.getElem?_toArray, List.getElem?_cons_succ, List.getElem?_cons_zero, Act.put, List.setIfInBounds_toArray, List.set_cons_succ, List.set_cons_zero] at hK ⊢
    go_wp2_with fail
    refine HCI.out.mono ?_
    rintro e w2 ⟨g, c', rfl, a1, a2, a3, a4, hB2⟩
    have q := hX.size
    go_wp2_with fail
    exact hK _ [g] _ (regrown_of_below (hX.trans (hB2.mono hX.size))) hB2 (fun x hx => by rw [List.mem_singleton] at hx; omega) ⟨g, c', rfl, rfl, by omega, a1, a2, a4⟩
  case zdone =>
    intro V G wk hS hD hA
    obtain ⟨g0, Gr, Cr, v2, a1, a2, a3, a4, gg2⟩ : DRows w.heap.size s (V 2) (G 2) wk := hD 2 (by simp)
    obtain ⟨o', -, v5, b1, b2⟩ : DOs w.heap.size s.os (V 5) (G 5) wk := hD 5 (by simp)
    obtain ⟨h', -, v8, d1, d2, d3, -⟩ : DHs w.heap.size 65 s.hs (V 8) (G 8) wk := hD 8 (by simp)
    obtain ⟨m', -, v11, f1, f2, f3, f4⟩ : DHs w.heap.size 70 s.ms (V 11) (G 11) wk := hD 11 (by simp)
    obtain ⟨B1, k1, gg14, v14, i1, i2, i3, i4⟩ : DInts w.heap.size s.si (V 14) (G 14) wk := hD 14 (by simp)
    obtain ⟨B2, k2, gg17, v17, j1, j2, j3, j4⟩ : DInts w.heap.size s.so (V 17) (G 17) wk := hD 17 (by simp)
    obtain ⟨B3, k3, gg20, v20, l2, l3, l4, l5⟩ : DInts w.heap.size s.sf (V 20) (G 20) wk := hD 20 (by simp)
    have n12 : B1 ≠ B2 := fun e => hA 14 (by simp) 17 (by simp) (by decide) B1 (by rw [gg14]; simp) (by rw [gg17, e]; simp)
    have n13 : B1 ≠ B3 := fun e => hA 14 (by simp) 20 (by simp) (by decide) B1 (by rw [gg14]; simp) (by rw [gg20, e]; simp)
    have n23 : B2 ≠ B3 := fun e => hA 17 (by simp) 20 (by simp) (by decide) B2 (by rw [gg17]; simp) (by rw [gg20, e]; simp)
    have nr : ∀ i, i < s.on.n → Gr i ≠ B1 ∧ Gr i ≠ B2 ∧ Gr i ≠ B3 := fun i hi => by
      have hm : Gr i ∈ G 2 := by rw [gg2]; exact List.mem_map.2 ⟨i, List.mem_range.2 hi, rfl⟩
      exact ⟨fun e => hA 2 (by simp) 14 (by simp) (by decide) _ hm (by rw [gg14, e]; simp), fun e => hA 2 (by simp) 17 (by simp) (by decide) _ hm (by rw [gg17, e]; simp), fun e => hA 2 (by simp) 20 (by simp) (by decide) _ hm (by rw [gg20, e]; simp)⟩
    have hX := below_of_regrown hS
    have hz := HZ.out.below hX
    clear hD hA gg2 gg14 gg17 gg20
    have HR : Hid (OwnS w.heap.size wk ⟨⟨some ⟨g0, 0, none⟩, s.on.n, s.on.n, fun i => ⟨some ⟨Gr i, 0, none⟩, (s.on.r i).n, Cr i, (s.on.r i).z⟩⟩, o', h', m', ⟨some ⟨B1, 0, none⟩, s.si.n, k1, s.si.z⟩, ⟨some ⟨B2, 0, none⟩, s.so.n, k2, s.so.z⟩, ⟨some ⟨B3, 0, none⟩, s.sf.n, k3, s.sf.z⟩⟩) := by
      refine ⟨⟨g0, rfl, a1, Nat.le_refl _, ?_, a2⟩, fun i hi => ⟨Gr i, rfl, (a3 i hi).1, (a3 i hi).2.1, (a3 i hi).2.2.1, (a3 i hi).2.2.2⟩, fun i j hij hj => ?_, b2, d3, f3, f4, ⟨B1, rfl, i1, i2, i3, i4⟩, ⟨B2, rfl, j1, j2, j3, j4⟩, ⟨B3, rfl, l2, l3, l4, l5⟩, ?_, ?_, ?_, fun i hi => ?_⟩
      · show s.on.n ≤ maxLen
        have := HF.out.sh.n
        have := HF.out.sh.pl.nb6
        unfold maxLen
        omega
      · have := a4 i j hij hj
        simp only [ne_eq, Option.some.injEq, Addr.mk.injEq, and_true]
        omega
      · intro e; simp only [Option.some.injEq, Addr.mk.injEq, and_true] at e; exact n12 e
      · intro e; simp only [Option.some.injEq, Addr.mk.injEq, and_true] at e; exact n13 e
      · intro e; simp only [Option.some.injEq, Addr.mk.injEq, and_true] at e; exact n23 e
      · obtain ⟨x1, x2, x3⟩ := nr i hi
        exact ⟨fun e => by simp only [Option.some.injEq, Addr.mk.injEq, and_true] at e; exact x1 e, fun e => by simp only [Option.some.injEq, Addr.mk.injEq, and_true] at e; exact x2 e, fun e => by simp only [Option.some.injEq, Addr.mk.injEq, and_true] at e; exact x3 e⟩
    have HC : Hid (SameT ⟨⟨some ⟨g0, 0, none⟩, s.on.n, s.on.n, fun i => ⟨some ⟨Gr i, 0, none⟩, (s.on.r i).n, Cr i, (s.on.r i).z⟩⟩, o', h', m', ⟨some ⟨B1, 0, none⟩, s.si.n, k1, s.si.z⟩, ⟨some ⟨B2, 0, none⟩, s.so.n, k2, s.so.z⟩, ⟨some ⟨B3, 0, none⟩, s.sf.n, k3, s.sf.z⟩⟩ s) :=
      ⟨⟨rfl, fun i hi => ⟨rfl, fun j hj => rfl⟩⟩, b1, ⟨d1, fun j hj => d2 j (by rw [← d1]; exact hj)⟩, ⟨f1, fun j hj => f2 j (by rw [← f1]; exact hj)⟩, ⟨rfl, fun j hj => rfl⟩, ⟨rfl, fun j hj => rfl⟩, ⟨rfl, fun j hj => rfl⟩⟩
    clear a1 a2 a3 a4 b1 b2 d1 d2 d3 f1 f2 f3 f4 i1 i2 i3 i4 j1 j2 j3 j4 l2 l3 l4 l5 n12 n13 n23 nr
    have HZ2 : Hid (Blk wk (w.heap.size + 1) 31 7 (fun _ => .slice .none 0 0)) := hz
    have zl := hz.lt
    have zf0 := hz.frozen 0
    have zc0 := hz.cell (j := 0) (by decide)
    have zf1 := hz.frozen 1
    have zc1 := hz.cell (j := 1) (by decide)
    have zf2 := hz.frozen 2
    have zc2 := hz.cell (j := 2) (by decide)
    have zf3 := hz.frozen 3
    have zc3 := hz.cell (j := 3) (by decide)
    have zf4 := hz.frozen 4
    have zc4 := hz.cell (j := 4) (by decide)
    have zf5 := hz.frozen 5
    have zc5 := hz.cell (j := 5) (by decide)
    have zf6 := hz.frozen 6
    have zc6 := hz.cell (j := 6) (by decide)
    clear hz
    simp only [putAll, dstOf, List.getElem?_toArray, List.getElem?_cons_succ, List.getElem?_cons_zero, Act.put, List.setIfInBounds_toArray, List.set_cons_succ, List.set_cons_zero, v2, v5, v8, v11, v14, v17, v20]
    refine wpSeq_one 21 rfl ?_
    go_wp2_with fail
    refine ⟨Late.no hS, ?_⟩
    refine wpSeq_one 22 rfl ?_
    go_wp2_with fail
    refine ⟨Late.yes, ?_⟩
    refine NoPanic.normal ?_
    have KZ := set7_blk HZ2.out (.slice (some ⟨g0, 0, none⟩) s.on.n s.on.n) (.slice o'.a o'.n o'.c) (.slice h'.a h'.n h'.c) (.slice m'.a m'.n m'.c) (.slice (some ⟨B1, 0, none⟩) s.si.n k1) (.slice (some ⟨B2, 0, none⟩) s.so.n k2) (.slice (some ⟨B3, 0, none⟩) s.sf.n k3)
    have hbz := set7_below (b := w.heap.size + 1) (hWB.trans (hX.mono hWB.size)) (by omega) (.slice (some ⟨g0, 0, none⟩) s.on.n s.on.n) (.slice o'.a o'.n o'.c) (.slice h'.a h'.n h'.c) (.slice m'.a m'.n m'.c) (.slice (some ⟨B1, 0, none⟩) s.si.n k1) (.slice (some ⟨B2, 0, none⟩) s.so.n k2) (.slice (some ⟨B3, 0, none⟩) s.sf.n k3)
    have HR2 := OwnS.set7 HR.out HZ2.out (.slice (some ⟨g0, 0, none⟩) s.on.n s.on.n) (.slice o'.a o'.n o'.c) (.slice h'.a h'.n h'.c) (.slice m'.a m'.n m'.c) (.slice (some ⟨B1, 0, none⟩) s.si.n k1) (.slice (some ⟨B2, 0, none⟩) s.so.n k2) (.slice (some ⟨B3, 0, none⟩) s.sf.n k3)
    unfold set7 at KZ hbz HR2
    generalize (((((((wk.setCell { block := w.heap.size + 1, off := 0 } (Value.slice (some { block := g0, off := 0 }) s.on.n s.on.n)).setCell { block := w.heap.size + 1, off := 1 } (Value.slice o'.a o'.n o'.c)).setCell { block := w.heap.size + 1, off := 2 } (Value.slice h'.a h'.n h'.c)).setCell { block := w.heap.size + 1, off := 3 } (Value.slice m'.a m'.n m'.c)).setCell { block := w.heap.size + 1, off := 4 } (Value.slice (some { block := B1, off := 0 }) s.si.n k1)).setCell { block := w.heap.size + 1, off := 5 } (Value.slice (some { block := B2, off := 0 }) s.so.n k2)).setCell { block := w.heap.size + 1, off := 6 } (Value.slice (some { block := B3, off := 0 }) s.sf.n k3)) = WY at *
    clear hX zl zf0 zc0 zf1 zc1 zf2 zc2 zf3 zc3 zf4 zc4 zf5 zc5 zf6 zc6 v2 v5 v8 v11 v14 v17 v20 hS
    obtain ⟨c0, c1, c2, c3, c4, c5, c6⟩ := box_cells KZ
    have HQ : Hid (OwnS w.heap.size WY ⟨⟨some ⟨g0, 0, none⟩, s.on.n, s.on.n, fun i => ⟨some ⟨Gr i, 0, none⟩, (s.on.r i).n, Cr i, (s.on.r i).z⟩⟩, o', h', m', ⟨some ⟨B1, 0, none⟩, s.si.n, k1, s.si.z⟩, ⟨some ⟨B2, 0, none⟩, s.so.n, k2, s.so.z⟩, ⟨some ⟨B3, 0, none⟩, s.sf.n, k3, s.sf.z⟩⟩) := HR2
    clear HR2
    go_wp2_with fail
    refine bodyPost_ret (v := (⟨⟨some ⟨g0, 0, none⟩, s.on.n, s.on.n, fun i => ⟨some ⟨Gr i, 0, none⟩, (s.on.r i).n, Cr i, (s.on.r i).z⟩⟩, o', h', m', ⟨some ⟨B1, 0, none⟩, s.si.n, k1, s.si.z⟩, ⟨some ⟨B2, 0, none⟩, s.so.n, k2, s.so.z⟩, ⟨some ⟨B3, 0, none⟩, s.sf.n, k3, s.sf.z⟩⟩ : St).val) (by simp [results, Try.results45, go_sem, St.val, c0, c1, c2, c3, c4, c5, c6]) rfl ?_
    exact ⟨_, rfl, HC.out, HQ.out, hbz⟩
theorem OwnS.mono {A A' : Nat} {w : World} {s : St} (h : OwnS A w s) (hA : A' ≤ A) : OwnS A' w s := by
  have i : ∀ {r : Rw}, OwnI A w r → OwnI A' w r := fun ⟨g, a, b, c⟩ => ⟨g, a, Nat.le_trans hA b, c⟩
  refine ⟨?_, fun j hj => i (h.rows j hj), h.rapart, h.os.mono hA, h.hs.mono hA, h.ms.mono hA, h.msr.mono hA, i h.si, i h.so, i h.sf, h.aio, h.aif, h.aof, h.ari⟩
  obtain ⟨g, a, b, c⟩ := h.on
  exact ⟨g, a, Nat.le_trans hA b, c⟩
end Go.Proofs.Ytbcacebifpagpac
namespace Go.Proofs.Ytbcacebifpagpac
open Go.RowKit Go.Shelf Go.Sort
set_option linter.unusedVariables false
def comingTo (s : St) (b g : Int) : Nat → Int
  | 0 => 0
  | k + 1 => comingTo s b g k + (if (s.ms.z k).b = b ∧ (s.ms.z k).o = g then (s.ms.z k).n else 0)
theorem comingTo_hit {s : St} {b g : Int} {k : Nat} (h1 : (s.ms.z k).b = b) (h2 : (s.ms.z k).o = g) : comingTo s b g (k + 1) = comingTo s b g k + (s.ms.z k).n := by simp only [comingTo]; rw [if_pos ⟨h1, h2⟩]
theorem comingTo_miss {s : St} {b g : Int} {k : Nat} (h : ¬ ((s.ms.z k).b = b ∧ (s.ms.z k).o = g)) : comingTo s b g (k + 1) = comingTo s b g k := by simp only [comingTo]; rw [if_neg h, Int.add_zero]
theorem comingTo_bd {s : St} {b g : Int} : ∀ {n : Nat}, (∀ j, j < n → 1 ≤ (s.ms.z j).n ∧ (s.ms.z j).n ≤ 200) → 0 ≤ comingTo s b g n ∧ comingTo s b g n ≤ 200 * n
  | 0, _ => by simp [comingTo]
  | n + 1, h => by
    have ih := comingTo_bd (b := b) (g := g) (n := n) fun j hj => h j (by omega)
    have := h n (by omega)
    simp only [comingTo]
    split <;> omega
theorem usedTo_put2 {z z' zs : Nat → Int} {m : Nat} {d : Int} : ∀ {n : Nat}, (∀ j, j < n → z' j = z j + if j = m then d else 0) → usedTo z' zs n = usedTo z zs n + if m < n then d * zs m else 0
  | 0, _ => by simp [usedTo]
  | n + 1, h => by
    simp only [usedTo]
    rw [usedTo_put2 (m := m) (d := d) (n := n) fun j hj => h j (by omega), h n (by omega)]
    by_cases h1 : n = m
    · subst h1
      rw [if_pos rfl, if_neg (Nat.lt_irrefl n), if_pos (by omega), Int.add_mul]
      omega
    · rw [if_neg h1, Int.add_zero]
      by_cases h2 : m < n
      · rw [if_pos h2, if_pos (by omega)]; omega
      · rw [if_neg h2, if_neg (by omega)]; omega
theorem come_eq {p : Pl} {s : St} (f : Formed p s) (b : Int) : ∀ n, n ≤ s.ms.n → usedTo (fun g => comingTo s b g n) p.zs p.ns = takeTo p s b n
  | 0, _ => usedTo_zero' fun j hj => rfl
  | n + 1, hn => by
    have hm := badMove_no (f.move n (by omega))
    by_cases hb : (s.ms.z n).b = b
    · rw [takeTo_hit hb, ← come_eq f b n (by omega), usedTo_put2 (z := fun g => comingTo s b g n) (m := (s.ms.z n).o.toNat) (d := (s.ms.z n).n) fun j hj => ?_, if_pos (by omega)]
      by_cases hj2 : j = (s.ms.z n).o.toNat
      · rw [if_pos hj2]; exact comingTo_hit hb (by omega)
      · rw [if_neg hj2, Int.add_zero]; exact comingTo_miss (fun h => hj2 (by omega))
    · rw [takeTo_miss hb, ← come_eq f b n (by omega)]
      exact usedTo_congr fun j hj => comingTo_miss (fun h => hb h.1)
where
  usedTo_zero' {z zs : Nat → Int} : ∀ {n : Nat}, (∀ j, j < n → z j = 0) → usedTo z zs n = 0
    | 0, _ => rfl
    | n + 1, h => by simp only [usedTo]; rw [usedTo_zero' (n := n) fun j hj => h j (by omega), h n (by omega)]; simp
theorem mul_bd2 {a b : Int} (ha : 0 ≤ a ∧ a ≤ 1600) (hb : 1 ≤ b ∧ b ≤ 9) : 0 ≤ a * b ∧ a * b ≤ 14400 := by
  obtain ⟨a0, a1⟩ := ha
  have : b = 1 ∨ b = 2 ∨ b = 3 ∨ b = 4 ∨ b = 5 ∨ b = 6 ∨ b = 7 ∨ b = 8 ∨ b = 9 := by omega
  rcases this with rfl | rfl | rfl | rfl | rfl | rfl | rfl | rfl | rfl <;> omega
theorem usedTo_bd2 {z zs : Nat → Int} {n : Nat} (h : ∀ j, j < n → (0 ≤ z j ∧ z j ≤ 1600) ∧ 1 ≤ zs j ∧ zs j ≤ 9) : ∀ k, k ≤ n → 0 ≤ usedTo z zs k ∧ usedTo z zs k ≤ 14400 * k
  | 0, _ => by simp [usedTo]
  | k + 1, hk => by
    have ih := usedTo_bd2 h k (by omega)
    have := mul_bd2 (h k (by omega)).1 (h k (by omega)).2
    simp only [usedTo]
    omega
set_option maxHeartbeats 4000000 in
theorem coming_any (p : Pl) (s : St) (bin good : Nat) (w : World) (hs : s.At w) (f : Formed p s) :
    Calls Try.prog 60 #[s.val, .int .i64 bin, .int .i64 good] w fun e w' => e = .returned (.int .i64 (comingTo s bin good s.ms.n)) ∧ Below w.heap.size w w' := by
  obtain ⟨W0, hW0, hWB, hX⟩ : ∃ W0, w.alloc (.cells s.cells 31) = W0 ∧ Below w.heap.size w W0 ∧ Blk W0 w.heap.size 31 7 (fun j => s.cells.getD j default) := ⟨_, rfl, (Below.refl w.heap.size w).alloc (Nat.le_refl _) _, Blk.mk' rfl rfl⟩
  have hs0 := hs.below hWB
  have HC : Hid (∀ wk, Below W0.heap.size W0 wk → s.At wk ∧ wk.cell? ⟨w.heap.size, 3, none⟩ = some (.slice s.ms.a s.ms.n s.ms.c) ∧ w.heap.size < wk.heap.size) :=
    fun wk h => ⟨hs0.below h, (hX.below h).cell (j := 3) (by decide), (hX.below h).lt⟩
  have m8 := f.ms8
  have MB : Hid (∀ k, k ≤ s.ms.n → 0 ≤ comingTo s bin good k ∧ comingTo s bin good k ≤ 200 * k) := fun k hk => comingTo_bd fun j hj => f.moveN j (by omega)
  have HW : Hid (w.alloc (.cells #[.slice s.on.a s.on.n s.on.c, .slice s.os.a s.os.n s.os.c, .slice s.hs.a s.hs.n s.hs.c, .slice s.ms.a s.ms.n s.ms.c, .slice s.si.a s.si.n s.si.c, .slice s.so.a s.so.n s.so.c, .slice s.sf.a s.sf.n s.sf.c] 31) = W0) := hW0
  simp only [St.val]
  clear hX hW0
  go_enter Try.func60, Try.ntmps60
  go_wp2_with fail
  rw [HW.out]
  go_loopw [7, 8] (fun u i wk => ∃ k : Nat, k ≤ s.ms.n ∧ i = .int .i64 k ∧ u = .int .i64 (comingTo s bin good k) ∧ Below W0.heap.size W0 wk) (fun _ i _ => s.ms.n - (intOf i).toNat)
  case atStart => exact ⟨0, Nat.zero_le _, rfl, by simp [comingTo], Below.refl _ _⟩
  case round =>
    obtain ⟨k, hk, rfl, rfl, hB⟩ := hrel
    have m2 := MB.out k hk
    obtain ⟨hsk, c3, hlt0⟩ := HC.out wr hB
    by_cases hlt2 : k < s.ms.n
    · obtain ⟨b, q, hma, hb, z0, z1, z2, z3⟩ := hsk.ms.hds k hlt2
      have m3 := f.moveN k hlt2
      have H1 : Hid (((s.ms.z k).b = bin ∧ (s.ms.z k).o = good → comingTo s bin good (k + 1) = comingTo s bin good k + (s.ms.z k).n) ∧ (¬ ((s.ms.z k).b = bin ∧ (s.ms.z k).o = good) → comingTo s bin good (k + 1) = comingTo s bin good k)) := ⟨fun h => comingTo_hit h.1 h.2, comingTo_miss⟩
      have q4 : (0 : Int) ≤ (k : Int) := by omega
      rw [hma] at c3
      clear hma hsk
      generalize comingTo s bin good k = U at *
      generalize (s.ms.z k).b = BB at *
      generalize (s.ms.z k).n = NN at *
      generalize (s.ms.z k).o = GD at *
      cases h1 : (BB == (bin : Int))
      · have hm := H1.out.2 (by simp at h1; omega)
        have HM : Hid (comingTo s bin good (k + 1) = U) := hm
        clear hm H1
        go_wp2_with fail
        go_roundw
        case rel => exact ⟨k + 1, by omega, by go_num, by rw [HM.out], hB⟩
        case measure => simp [intOf]; omega
      · cases h2 : (GD == (good : Int))
        · have hm := H1.out.2 (by simp at h2; omega)
          have HM : Hid (comingTo s bin good (k + 1) = U) := hm
          clear hm H1
          go_wp2_with fail
          go_roundw
          case rel => exact ⟨k + 1, by omega, by go_num, by rw [HM.out], hB⟩
          case measure => simp [intOf]; omega
        · have hm := H1.out.1 ⟨by simpa using h1, by simpa using h2⟩
          have HM : Hid (comingTo s bin good (k + 1) = U + NN) := hm
          clear hm H1
          go_wp2_with fail
          go_roundw
          case rel => exact ⟨k + 1, by omega, by go_num, by rw [HM.out], hB⟩
          case measure => simp [intOf]; omega
    · have hkn : k = s.ms.n := by omega
      subst hkn
      go_wp2_with fail
      go_ret
      exact ⟨rfl, hWB.trans (hB.mono hWB.size)⟩
set_option maxHeartbeats 4000000 in
theorem FreeOf_any (p : Pl) (s : St) (bin : Nat) (w : World) (hp : p.At w) (hs : s.At w) (f : Formed p s) (hbin : bin < p.nb) :
    Calls Try.prog 59 #[p.val, s.val, .int .i64 bin] w fun e w' => e = .returned (.int .i64 (freeZ p s bin)) ∧ Below w.heap.size w w' := by
  obtain ⟨W0, hW, hWB, X0⟩ : ∃ W, ((w.alloc (.cells #[.slice p.ab p.nb p.cb, .slice p.sa p.ns p.cs] 25)).alloc (.cells s.cells 31)) = W ∧ Below w.heap.size w W ∧ Boxes W w.heap.size (w.heap.size + 1) p s := ⟨_, rfl, two_below _ _ _, boxes_new w p s _ _⟩
  have HC : Hid (∀ wk, Below W0.heap.size W0 wk → Boxes wk w.heap.size (w.heap.size + 1) p s ∧ p.At wk ∧ s.At wk ∧ Below w.heap.size w wk) := fun wk h => ⟨X0.below h, (hp.below hWB).below h, (hs.below hWB).below h, hWB.trans (h.mono hWB.size)⟩
  have HW : Hid ((w.alloc (.cells #[.slice p.ab p.nb p.cb, .slice p.sa p.ns p.cs] 25)).alloc (.cells #[.slice s.on.a s.on.n s.on.c, .slice s.os.a s.os.n s.os.c, .slice s.hs.a s.hs.n s.hs.c, .slice s.ms.a s.ms.n s.ms.c, .slice s.si.a s.si.n s.si.c, .slice s.so.a s.so.n s.so.c, .slice s.sf.a s.sf.n s.sf.c] 31) = W0) := hW
  have HF : Hid (Formed p s) := f
  have ns3 := f.sh.pl.ns3
  have ms8 := f.ms8
  have hon : bin < s.on.n := by rw [f.sh.n]; exact hbin
  have ub := usedTo_bd (z := (s.on.r bin).z) (zs := p.zs) (n := p.ns) (fun j hj => ⟨f.sh.num bin hon j hj, f.sh.pl.sizes j hj⟩) p.ns (Nat.le_refl _)
  have room : 0 ≤ (p.zb bin).room ∧ (p.zb bin).room ≤ 1000 := by
    have := f.sh.pl.bins bin hbin
    simp only [badBin, Bool.or_eq_false_iff, Bool.not_eq_false'] at this
    exact inB_true this.1.1
  have HU : Hid (∀ k, k ≤ p.ns → 0 ≤ usedTo (fun g => comingTo s bin g s.ms.n) p.zs k ∧ usedTo (fun g => comingTo s bin g s.ms.n) p.zs k ≤ 14400 * k) := fun k hk => usedTo_bd2 (n := p.ns) (fun j hj => ⟨by have := comingTo_bd (s := s) (b := bin) (g := j) f.moveN; omega, f.sh.pl.sizes j hj⟩) k hk
  have HE : Hid (freeZ p s bin = (p.zb bin).room - usedTo (s.on.r bin).z p.zs p.ns - usedTo (fun g => comingTo s bin g s.ms.n) p.zs p.ns) := by show freeZ p s bin = _; rw [come_eq f bin s.ms.n (Nat.le_refl _)]; rfl
  have q1 : (0 : Int) ≤ (bin : Int) := by omega
  clear hW X0 hp hs f
  unfold Pl.val St.val
  go_enter Try.func59, Try.ntmps59
  go_wp2_with fail
  rw [HW.out]
  obtain ⟨X, hpk, hsk, hBw⟩ := HC.out W0 (Below.refl _ _)
  obtain ⟨⟨l1, d0, d1⟩, l2, c0, c1, c2, c3, c4, c5, c6⟩ := X
  obtain ⟨bb, bo, hba, hbb, y0, y1, y2, y3⟩ := hpk.bins bin hbin
  have HON : Hid (s.on.At W0 ∧ p.At W0 ∧ p.ab = some ⟨bb, bo, none⟩) := ⟨hsk.on, hpk, hba⟩
  rw [hba] at d0
  have r0 : ∀ d os, (grow (redrawn W0 d) os).cell? ⟨w.heap.size, 0, none⟩ = some (.slice (some ⟨bb, bo, none⟩) p.nb p.cb) := fun d os => cell_regrown d0 d os
  have r1 : ∀ d os, (grow (redrawn W0 d) os).cell? ⟨w.heap.size, 1, none⟩ = some (.slice p.sa p.ns p.cs) := fun d os => cell_regrown d1 d os
  have r2 : ∀ d os, (grow (redrawn W0 d) os).cell? ⟨w.heap.size + 1, 0, none⟩ = some (.slice s.on.a s.on.n s.on.c) := fun d os => cell_regrown c0 d os
  have r3 : ∀ d os, (grow (redrawn W0 d) os).cell? ⟨bb, bo + bin * 4 + 1, none⟩ = some (.int .i64 (p.zb bin).room) := fun d os => cell_regrown y1 d os
  have hub : Hid (∀ wk, p.At wk → s.on.At wk → Calls Try.prog 106 #[.agg #[.slice (some ⟨bb, bo, none⟩) p.nb p.cb, .slice p.sa p.ns p.cs], .slice s.on.a s.on.n s.on.c, .int .i64 bin] wk fun e w' => e = .returned (.int .i64 (usedTo (s.on.r bin).z p.zs p.ns)) ∧ Below wk.heap.size wk w') := fun wk h1 h2 => by
    have := UsedOf_any p s.on bin wk h1 h2 HF.out.sh hon
    rw [Pl.val, HON.out.2.2] at this
    exact this
  clear hba hpk hsk d0 d1 c0 c1 c2 c3 c4 c5 c6 y0 y1 y2 y3 HW
  generalize usedTo (s.on.r bin).z p.zs p.ns = US at *
  generalize (p.zb bin).room = RM at *
  refine wp_region_quiet_below (by kernel_rfl) (by kernel_rfl) ?_
  repeat (go_big_quiet_step ((go_at_call 106; exact Calls.regrown_of (hub.out _ (HON.out.2.1.below (below_regrown _ _ _)) (HON.out.1.below (below_regrown _ _ _))))))
  refine wpQuiet_nil ?_
  intro _ hw'
  obtain ⟨⟨dq, osq⟩, hw''⟩ := hw'
  subst hw''
  have hB := below_regrown W0 dq osq
  clear r0 r1 r2 r3 hub HON hBw l1 l2 hbb
  generalize grow (redrawn W0 dq) osq = wz at *
  go_wp2_with fail
  go_loopw [7, 8] (fun u i wk => ∃ k : Nat, k ≤ p.ns ∧ i = .int .i64 k ∧ u = .int .i64 (RM - US - usedTo (fun g => comingTo s bin g s.ms.n) p.zs k) ∧ Below W0.heap.size W0 wk) (fun _ i _ => p.ns - (intOf i).toNat)
  case atStart => exact ⟨0, Nat.zero_le _, rfl, by simp [usedTo], hB⟩
  case round =>
    clear hB
    obtain ⟨g, hg, rfl, rfl, hB⟩ := hrel
    have ug := HU.out g hg
    obtain ⟨X, hpk, hsk, hBw⟩ := HC.out wr hB
    obtain ⟨⟨l1, d0, d1⟩, l2, c0, c1, c2, c3, c4, c5, c6⟩ := X
    by_cases hlt : g < p.ns
    · obtain ⟨b1, o1, e1, g1, z1⟩ := hpk.sizes g hlt
      have qg : (0 : Int) ≤ (g : Int) := by omega
      have hcb := comingTo_bd (s := s) (b := bin) (g := g) HF.out.moveN
      have hcb2 : 0 ≤ comingTo s bin g s.ms.n ∧ comingTo s bin g s.ms.n ≤ 1600 := by omega
      have hmb := mul_bd2 hcb2 (HF.out.sh.pl.sizes g hlt)
      have HSX : Hid (usedTo (fun g => comingTo s bin g s.ms.n) p.zs (g + 1) = usedTo (fun g => comingTo s bin g s.ms.n) p.zs g + comingTo s bin g s.ms.n * p.zs g) := rfl
      rw [e1] at d1
      have HSA : Hid (s.At wr) := hsk
      have r0 : ∀ d os, (grow (redrawn wr d) os).cell? ⟨w.heap.size + 1, 0, none⟩ = some (.slice s.on.a s.on.n s.on.c) := fun d os => cell_regrown c0 d os
      have r1 : ∀ d os, (grow (redrawn wr d) os).cell? ⟨w.heap.size + 1, 1, none⟩ = some (.slice s.os.a s.os.n s.os.c) := fun d os => cell_regrown c1 d os
      have r2 : ∀ d os, (grow (redrawn wr d) os).cell? ⟨w.heap.size + 1, 2, none⟩ = some (.slice s.hs.a s.hs.n s.hs.c) := fun d os => cell_regrown c2 d os
      have r3 : ∀ d os, (grow (redrawn wr d) os).cell? ⟨w.heap.size + 1, 3, none⟩ = some (.slice s.ms.a s.ms.n s.ms.c) := fun d os => cell_regrown c3 d os
      have r4 : ∀ d os, (grow (redrawn wr d) os).cell? ⟨w.heap.size + 1, 4, none⟩ = some (.slice s.si.a s.si.n s.si.c) := fun d os => cell_regrown c4 d os
      have r5 : ∀ d os, (grow (redrawn wr d) os).cell? ⟨w.heap.size + 1, 5, none⟩ = some (.slice s.so.a s.so.n s.so.c) := fun d os => cell_regrown c5 d os
      have r6 : ∀ d os, (grow (redrawn wr d) os).cell? ⟨w.heap.size + 1, 6, none⟩ = some (.slice s.sf.a s.sf.n s.sf.c) := fun d os => cell_regrown c6 d os
      have r7 : ∀ d os, (grow (redrawn wr d) os).cell? ⟨w.heap.size, 1, none⟩ = some (.slice (some ⟨b1, o1, none⟩) p.ns p.cs) := fun d os => cell_regrown d1 d os
      have r8 : ∀ d os, (grow (redrawn wr d) os).cell? ⟨b1, o1 + g, none⟩ = some (.int .i64 (p.zs g)) := fun d os => cell_regrown z1 d os
      have hco : Hid (∀ wk, s.At wk → Calls Try.prog 60 #[.agg #[.slice s.on.a s.on.n s.on.c, .slice s.os.a s.os.n s.os.c, .slice s.hs.a s.hs.n s.hs.c, .slice s.ms.a s.ms.n s.ms.c, .slice s.si.a s.si.n s.si.c, .slice s.so.a s.so.n s.so.c, .slice s.sf.a s.sf.n s.sf.c], .int .i64 bin, .int .i64 g] wk fun e w' => e = .returned (.int .i64 (comingTo s bin g s.ms.n)) ∧ Below wk.heap.size wk w') := fun wk h => coming_any p s bin g wk h HF.out
      have pz := HF.out.sh.pl.sizes g hlt
      clear e1 hpk hsk d0 c0 c1 c2 c3 c4 c5 c6 z1 hcb
      generalize usedTo (fun g => comingTo s bin g s.ms.n) p.zs g = U0 at *
      generalize comingTo s bin g s.ms.n = CM at *
      generalize p.zs g = PZ at *
      go_wp2_with fail
      refine wp_region_quiet_below (by kernel_rfl) (by kernel_rfl) ?_
      repeat (go_big_quiet_step ((go_at_call 60; exact Calls.regrown_of (hco.out _ (HSA.out.below (below_regrown _ _ _))))))
      refine wpQuiet_nil ?_
      intro _ hw'
      obtain ⟨⟨dq, osq⟩, hw''⟩ := hw'
      subst hw''
      clear r0 r1 r2 r3 r4 r5 r6 r7 r8
      go_wp2_with fail
      go_roundw
      case rel => exact ⟨g + 1, by omega, by go_num, by rw [HSX.out, Int.sub_sub _ U0], hB.trans ((below_regrown _ _ _).mono hB.size)⟩
      case measure => simp [intOf]; omega
    · have hgn : g = p.ns := by omega
      subst hgn
      clear hpk hsk c0 c1 c2 c3 c4 c5 c6
      go_wp2_with fail
      go_ret
      exact ⟨by rw [HE.out]; rfl, hBw⟩
end Go.Proofs.Ytbcacebifpagpac
namespace Go.Proofs.Ytbcacebifpagpac
open Go.RowKit
set_option linter.unusedVariables false
theorem SameT.symm {s t : St} (h : SameT s t) : SameT t s := by
  refine ⟨⟨h.on.1.symm, fun i hi => ?_⟩, ⟨h.os.1.symm, fun i hi => ?_⟩, ⟨h.hs.1.symm, fun j hj => (h.hs.2 j (by rw [h.hs.1]; exact hj)).symm⟩, ⟨h.ms.1.symm, fun j hj => (h.ms.2 j (by rw [h.ms.1]; exact hj)).symm⟩, ⟨h.si.1.symm, fun j hj => (h.si.2 j (by rw [h.si.1]; exact hj)).symm⟩, ⟨h.so.1.symm, fun j hj => (h.so.2 j (by rw [h.so.1]; exact hj)).symm⟩, ⟨h.sf.1.symm, fun j hj => (h.sf.2 j (by rw [h.sf.1]; exact hj)).symm⟩⟩
  · have x := h.on.2 i (by rw [h.on.1]; exact hi)
    exact ⟨x.1.symm, fun j hj => (x.2 j (by rw [x.1]; exact hj)).symm⟩
  · have x := h.os.2 i (by rw [h.os.1]; exact hi)
    exact ⟨x.1.symm, x.2.1.symm, fun j hj => (x.2.2 j (by rw [x.2.1]; exact hj)).symm⟩
theorem SameT.trans {s t u : St} (h : SameT s t) (k : SameT t u) : SameT s u := by
  refine ⟨⟨h.on.1.trans k.on.1, fun i hi => ?_⟩, ⟨h.os.1.trans k.os.1, fun i hi => ?_⟩, ⟨h.hs.1.trans k.hs.1, fun j hj => (h.hs.2 j hj).trans (k.hs.2 j (by rw [← h.hs.1]; exact hj))⟩, ⟨h.ms.1.trans k.ms.1, fun j hj => (h.ms.2 j hj).trans (k.ms.2 j (by rw [← h.ms.1]; exact hj))⟩, ⟨h.si.1.trans k.si.1, fun j hj => (h.si.2 j hj).trans (k.si.2 j (by rw [← h.si.1]; exact hj))⟩, ⟨h.so.1.trans k.so.1, fun j hj => (h.so.2 j hj).trans (k.so.2 j (by rw [← h.so.1]; exact hj))⟩, ⟨h.sf.1.trans k.sf.1, fun j hj => (h.sf.2 j hj).trans (k.sf.2 j (by rw [← h.sf.1]; exact hj))⟩⟩
  · have x := h.on.2 i hi
    have y := k.on.2 i (by rw [← h.on.1]; exact hi)
    exact ⟨x.1.trans y.1, fun j hj => (x.2 j hj).trans (y.2 j (by rw [← x.1]; exact hj))⟩
  · have x := h.os.2 i hi
    have y := k.os.2 i (by rw [← h.os.1]; exact hi)
    exact ⟨x.1.trans y.1, x.2.1.trans y.2.1, fun j hj => (x.2.2 j hj).trans (y.2.2 j (by rw [← x.2.1]; exact hj))⟩
def setRw (r : Rw) (j : Nat) (x : Int) : Rw := ⟨r.a, r.n, r.c, fun i => if i = j then x else r.z i⟩
def setOn (s : St) (b g : Nat) (x : Int) : St := ⟨⟨s.on.a, s.on.n, s.on.c, fun i => if i = b then setRw (s.on.r i) g x else s.on.r i⟩, s.os, s.hs, s.ms, s.si, s.so, s.sf⟩
def setIn (s : St) (g : Nat) (x : Int) : St := ⟨s.on, s.os, s.hs, s.ms, setRw s.si g x, s.so, s.sf⟩
theorem OwnI.set {A : Nat} {w : World} {r : Rw} {G : Nat} (h : OwnI A w r) (ha : r.a = some ⟨G, 0, none⟩) (j : Nat) (x : Int) : OwnI A (w.setCell ⟨G, j, none⟩ (.int .i64 x)) (setRw r j x) := by
  obtain ⟨g, ha', h0, h1, h2, hb⟩ := h
  rw [ha] at ha'
  simp only [Option.some.injEq, Addr.mk.injEq, and_true] at ha'
  subst ha'
  refine ⟨G, ha, h0, h1, h2, (hb.set j (.int .i64 x)).congr fun i hi => ?_⟩
  show (if i = j then _ else _) = Value.int .i64 (if i = j then x else r.z i)
  by_cases hij : i = j <;> simp [hij]
theorem OwnI.apart {A : Nat} {w : World} {r : Rw} {G : Nat} (h : OwnI A w r) (ha : r.a ≠ some ⟨G, 0, none⟩) (j : Nat) (u : Value) : OwnI A (w.setCell ⟨G, j, none⟩ u) r := by
  obtain ⟨g, ha', h0, h1, h2, hb⟩ := h
  refine ⟨g, ha', h0, h1, h2, hb.other (a := ⟨G, j, none⟩) (fun e => ha ?_) u⟩
  rw [ha', show g = G from e]
theorem row_a {s : St} {b g : Nat} {x : Int} (i : Nat) : (if i = b then setRw (s.on.r i) g x else s.on.r i).a = (s.on.r i).a := by
  by_cases h : i = b <;> simp [h, setRw]
theorem OwnS.setOn {A : Nat} {w : World} {s : St} {b G : Nat} (h : OwnS A w s) (hb : b < s.on.n) (ha : (s.on.r b).a = some ⟨G, 0, none⟩) (g : Nat) (x : Int) : OwnS A (w.setCell ⟨G, g, none⟩ (.int .i64 x)) (Go.Proofs.Ytbcacebifpagpac.setOn s b g x) := by
  obtain ⟨Gb, hGb, _, _, _, hblk⟩ := h.rows b hb
  rw [ha] at hGb
  simp only [Option.some.injEq, Addr.mk.injEq, and_true] at hGb
  subst hGb
  have q := h.ari b hb
  rw [ha] at q
  refine ⟨?_, fun i hi => ?_, fun i j hij hj => ?_, h.os.other hblk (by decide) (by decide) g _, h.hs.other hblk (by decide) g _, h.ms.other hblk (by decide) g _, h.msr.set _ _ _, h.si.apart (fun e => q.1 e.symm) g _, h.so.apart (fun e => q.2.1 e.symm) g _, h.sf.apart (fun e => q.2.2 e.symm) g _, h.aio, h.aif, h.aof, fun i hi => ?_⟩
  · obtain ⟨g0, ha0, h0, h1, h2, hb0⟩ := h.on
    refine ⟨g0, ha0, h0, h1, h2, (hb0.other (a := ⟨G, g, none⟩) (Blk.ne2 hb0 hblk (by decide)) _).congr fun i hi => ?_⟩
    show _ = Value.slice (if i = b then setRw (s.on.r i) g x else s.on.r i).a (if i = b then setRw (s.on.r i) g x else s.on.r i).n (if i = b then setRw (s.on.r i) g x else s.on.r i).c
    by_cases hib : i = b <;> simp [hib, setRw]
  · show OwnI A _ (if i = b then setRw (s.on.r i) g x else s.on.r i)
    by_cases hib : i = b
    · subst hib
      rw [if_pos rfl]
      exact (h.rows i hi).set ha g x
    · rw [if_neg hib]
      refine (h.rows i hi).apart (fun e => ?_) g _
      rcases Nat.lt_or_gt_of_ne hib with hlt | hgt
      · exact h.rapart i b hlt hb (e.trans ha.symm)
      · exact h.rapart b i hgt hi (ha.trans e.symm)
  · show (if i = b then setRw (s.on.r i) g x else s.on.r i).a ≠ (if j = b then setRw (s.on.r j) g x else s.on.r j).a
    rw [row_a, row_a]
    exact h.rapart i j hij hj
  · show (if i = b then setRw (s.on.r i) g x else s.on.r i).a ≠ _ ∧ (if i = b then setRw (s.on.r i) g x else s.on.r i).a ≠ _ ∧ (if i = b then setRw (s.on.r i) g x else s.on.r i).a ≠ _
    rw [row_a]
    exact h.ari i hi
theorem OwnS.setIn {A : Nat} {w : World} {s : St} {G : Nat} (h : OwnS A w s) (ha : s.si.a = some ⟨G, 0, none⟩) (g : Nat) (x : Int) : OwnS A (w.setCell ⟨G, g, none⟩ (.int .i64 x)) (Go.Proofs.Ytbcacebifpagpac.setIn s g x) := by
  obtain ⟨Gb, hGb, _, _, _, hblk⟩ := h.si
  rw [ha] at hGb
  simp only [Option.some.injEq, Addr.mk.injEq, and_true] at hGb
  subst hGb
  refine ⟨?_, fun i hi => (h.rows i hi).apart (fun e => (h.ari i hi).1 (e.trans ha.symm)) g _, h.rapart, h.os.other hblk (by decide) (by decide) g _, h.hs.other hblk (by decide) g _, h.ms.other hblk (by decide) g _, h.msr.set _ _ _, h.si.set ha g x, h.so.apart (fun e => h.aio (ha.trans e.symm)) g _, h.sf.apart (fun e => h.aif (ha.trans e.symm)) g _, h.aio, h.aif, h.aof, h.ari⟩
  obtain ⟨g0, ha0, h0, h1, h2, hb0⟩ := h.on
  exact ⟨g0, ha0, h0, h1, h2, hb0.other (a := ⟨G, g, none⟩) (Blk.ne2 hb0 hblk (by decide)) _⟩
def lyingZ (s : St) (b g : Nat) : Int := (s.on.r b).z g + comingTo s b g s.ms.n
def recvE (p : Pl) (s : St) (bin good n : Int) : Int :=
  if stateE p s = 0 then (if inB bin 0 ((p.nb : Int) - 1) && inB good 0 ((p.ns : Int) - 1) && inB n 1 200 then (if freeZ p s bin.toNat < n * p.zs good.toNat then 5 else if 200 < lyingZ s bin.toNat good.toNat + n ∨ 1048576 < s.si.z good.toNat + n then 2 else 0) else 3) else stateE p s
def recvT (s : St) (b g : Nat) (n : Int) : St := setIn (setOn s b g ((s.on.r b).z g + n)) g (s.si.z g + n)
def ActOK (E : Int) (t s' : St) : Prop := (E = 0 → SameT s' t) ∧ (¬ E = 0 → NoneS s')
theorem setOn_same {s t : St} (h : SameT s t) (b g : Nat) (x : Int) : SameT (setOn s b g x) (setOn t b g x) := by
  refine ⟨⟨h.on.1, fun i hi => ?_⟩, h.os, h.hs, h.ms, h.si, h.so, h.sf⟩
  have y := h.on.2 i hi
  show (if i = b then setRw (s.on.r i) g x else s.on.r i).n = (if i = b then setRw (t.on.r i) g x else t.on.r i).n ∧ ∀ j, j < (if i = b then setRw (s.on.r i) g x else s.on.r i).n → (if i = b then setRw (s.on.r i) g x else s.on.r i).z j = (if i = b then setRw (t.on.r i) g x else t.on.r i).z j
  by_cases hib : i = b
  · rw [if_pos hib, if_pos hib]
    refine ⟨y.1, fun j hj => ?_⟩
    show (if j = g then x else (s.on.r i).z j) = if j = g then x else (t.on.r i).z j
    rw [y.2 j hj]
  · rw [if_neg hib, if_neg hib]
    exact y
theorem setIn_same {s t : St} (h : SameT s t) (g : Nat) (x : Int) : SameT (setIn s g x) (setIn t g x) := by
  refine ⟨h.on, h.os, h.hs, h.ms, ⟨h.si.1, fun j hj => ?_⟩, h.so, h.sf⟩
  show (if j = g then x else s.si.z j) = if j = g then x else t.si.z j
  rw [h.si.2 j hj]
end Go.Proofs.Ytbcacebifpagpac
namespace Go.Proofs.Ytbcacebifpagpac
open Go.RowKit
set_option linter.unusedVariables false
theorem made_aux6 {P : Program} {ops : Array Oper} {Q : Exit → Act → World → Prop} {S : World → Prop} {T : Nat → Bool} {rem : List Nat} {L : Array Bool} {a1 : Act} {D : Nat → Value → List Nat → World → Prop} {fuel : Nat} (hB : madeB5 ops rem L = true) (hT : ∀ r ∈ rem, T r = false)
    (mono : ∀ j ∈ rem, ∀ v g w w', Below w.heap.size w w' → D j v g w → D j v g w') (lt : ∀ j ∈ rem, ∀ v g w, D j v g w → ∀ x ∈ g, x < w.heap.size)
    (step : ∀ i ∈ rem, ∀ (V : Nat → Value) (G : Nat → List Nat) (w : World) (K : Act → World → Prop), S w → (∀ d ∈ depsOf ops i, d ∈ rem → D d (V d) (G d) w) → (∀ d ∈ depsOf ops i, ∀ k ∈ depsOf ops i, d ∈ rem → k ∈ rem → d ≠ k → ∀ x ∈ G d, x ∉ G k) →
      (∀ v g w', S w' → Below w.heap.size w w' → (∀ x ∈ g, w.heap.size ≤ x) → D i v g w' → K ((putAll ops rem V a1).put (dstOf ops i) v) w') → wpOp P ops Q i K (putAll ops rem V a1) w)
    (done : ∀ (V : Nat → Value) (G : Nat → List Nat) (w : World), S w → (∀ j ∈ rem, D j (V j) (G j) w) → (∀ j ∈ rem, ∀ k ∈ rem, j ≠ k → ∀ x ∈ G j, x ∉ G k) → wpAnyT P ops Q S T fuel (mark L rem) (putAll ops rem V a1) w) :
    ∀ (m : Nat) (listed : Array Bool) (V : Nat → Value) (G : Nat → List Nat) (w : World), (rem.filter (fun r => !listed.getD r true)).length = m → listed.size = ops.size → (∀ j, j ∉ rem → listed[j]? = L[j]?) → Closed ops listed → S w → (∀ j ∈ rem, listed.getD j true = true → D j (V j) (G j) w) →
      (∀ j ∈ rem, ∀ k ∈ rem, listed.getD j true = true → listed.getD k true = true → j ≠ k → ∀ x ∈ G j, x ∉ G k) → wpAnyT P ops Q S T (m + fuel) listed (putAll ops rem V a1) w := by
  simp only [madeB5, Bool.and_eq_true, decide_eq_true_eq] at hB
  obtain ⟨⟨⟨⟨hoth, htopo⟩, hrem⟩, hLs⟩, hnd⟩ := hB
  have hrem' : ∀ r ∈ rem, r < ops.size ∧ L.getD r true = false := fun r hr => by
    have := List.all_eq_true.1 hrem r hr
    simpa using this
  intro m
  induction m with
  | zero =>
    intro listed V G w hm hsz hag hcl hS hD hA
    have hall : ∀ r ∈ rem, listed.getD r true = true := fun r hr => by
      cases hq : listed.getD r true
      · have : r ∈ rem.filter (fun r => !listed.getD r true) := List.mem_filter.2 ⟨hr, by simp [hq]⟩
        rw [List.length_eq_zero_iff.1 hm] at this
        simp at this
      · rfl
    have hl : listed = mark L rem := by
      apply Array.ext_getElem?
      intro j
      by_cases hj : j < L.size
      · rw [mark_get rem L j hj]
        by_cases hjr : j ∈ rem
        · rw [if_pos hjr]
          have h1 := hall j hjr
          have h2 : j < listed.size := by omega
          simp only [Array.getD, h2, dif_pos] at h1
          simp [h2]
          exact h1
        · rw [if_neg hjr]; exact hag j hjr
      · rw [Array.getElem?_eq_none (by omega), Array.getElem?_eq_none (by rw [mark_size]; omega)]
    rw [Nat.zero_add, hl]
    exact done V G w hS (fun j hj => hD j hj (hall j hj)) fun j hj k hk => hA j hj k hk (hall j hj) (hall k hk)
  | succ m ih =>
    intro listed V G w hm hsz hag hcl hS hD hA
    have hex : ∃ r ∈ rem, listed.getD r true = false := by
      have hne : rem.filter (fun r => !listed.getD r true) ≠ [] := fun e => by rw [e] at hm; simp at hm
      obtain ⟨x, hx⟩ := List.exists_mem_of_ne_nil _ hne
      have := List.mem_filter.1 hx
      exact ⟨x, this.1, by simpa using this.2⟩
    have hLl : ∀ d, L.getD d false = true → listed.getD d false = true := fun d hd => by
      by_cases hdr : d ∈ rem
      · have h1 := (hrem' d hdr).2
        have h2 : d < L.size := by have := (hrem' d hdr).1; omega
        simp only [Array.getD, h2, dif_pos] at h1 hd
        rw [h1] at hd; cases hd
      · have h1 := hag d hdr
        by_cases h2 : d < L.size
        · have h3 : d < listed.size := by omega
          simp only [Array.getD, h2, h3, dif_pos] at hd ⊢
          simp only [Array.getElem?_eq_getElem h2, Array.getElem?_eq_getElem h3, Option.some.injEq] at h1
          rw [Array.getInternal_eq_getElem] at hd ⊢
          rw [h1]; exact hd
        · simp [Array.getD, h2] at hd
    obtain ⟨r0, hr0, hr0r⟩ := topo_ready hsz [] rem htopo hLl (fun d hd => by simp at hd) (fun r hr => (hrem' r hr).1) hex
    rw [Nat.add_right_comm]
    refine ⟨fun h0 => absurd (h0 ▸ hr0r) (by simp), fun i hi => ?_⟩
    obtain ⟨hli, o, ho, hdep⟩ := mem_ready.1 hi
    have hdeps : ∀ d ∈ depsOf ops i, listed.getD d false = true := fun d hd => by
      unfold depsOf at hd
      rw [ho] at hd
      obtain ⟨e, he, rfl⟩ := List.mem_map.1 hd
      have := List.mem_filter.1 he
      exact hdep e (by simpa using this.1) this.2
    have hdt : ∀ d, listed.getD d false = true → listed.getD d true = true := fun d hd => by
      by_cases h2 : d < listed.size
      · simpa [Array.getD, h2] using hd
      · simp [Array.getD, h2]
    have hir : i ∈ rem := by
      cases hc : rem.contains i
      · exfalso
        have hlt : i < ops.size := (Array.getElem?_eq_some_iff.1 ho).1
        have hnr : i ∉ rem := fun h => by
          have := List.contains_iff_mem.2 h
          rw [this] at hc; cases hc
        have h1 := List.all_eq_true.1 hoth i (List.mem_range.2 hlt)
        have hLi : L.getD i true = false := by
          have h2 := hag i hnr
          have h3 : i < L.size := by omega
          have h4 : i < listed.size := by omega
          simp only [Array.getElem?_eq_getElem h3, Array.getElem?_eq_getElem h4, Option.some.injEq] at h2
          simp only [Array.getD, h3, h4, dif_pos] at hli ⊢
          rw [Array.getInternal_eq_getElem] at hli ⊢
          rw [← h2]; exact hli
        rw [hLi, hc] at h1
        simp only [Bool.false_or] at h1
        obtain ⟨q, hq, hq2⟩ := hex
        have h5 := List.all_eq_true.1 h1 q hq
        have h6 := hdt q (reach_listed hcl _ i q (ready_deps hi) h5)
        rw [hq2] at h6; cases h6
      · exact List.contains_iff_mem.1 hc
    refine step i hir V G w _ hS (fun d hd hdr => hD d hdr (hdt d (hdeps d hd))) (fun d hd k hk hdr hkr => hA d hdr k hkr (hdt d (hdeps d hd)) (hdt k (hdeps k hk))) (fun v g w' hS' hBel hfr hDi => ?_)
    refine ⟨fun _ => hS', ?_⟩
    rw [putAll_put hnd hir]
    have hin : i < listed.size := by rw [hsz]; exact (hrem' i hir).1
    have gset : ∀ j, (listed.setIfInBounds i true).getD j true = if j = i then true else listed.getD j true := fun j => by
      by_cases hj : j = i
      · subst hj; simp [Array.getD, hin]
      · rw [if_neg hj, getD_set_ne true (fun e => hj e.symm)]
    refine ih (listed.setIfInBounds i true) (upd V i v) (fun j => if j = i then g else G j) w' ?_ (by simpa using hsz) (fun j hj => ?_) (hcl.set hi) hS' (fun j hj hlj => ?_) (fun j hj k hk hlj hlk hjk x hx => ?_)
    · have hnodup : rem.Nodup := by
        exact (List.pairwise_map.1 hnd).imp (fun h e => h (by rw [e]))
      have e1 : (rem.filter (fun r => !listed.getD r true)) = rem.filter (fun r => !listed.getD r true) := rfl
      have hcount : (rem.filter (fun r => !(listed.setIfInBounds i true).getD r true)) = (rem.filter (fun r => !listed.getD r true)).erase i := by
        have e2 : rem.filter (fun r => !(listed.setIfInBounds i true).getD r true) = (rem.filter (fun r => !listed.getD r true)).filter (fun r => r != i) := by
          rw [List.filter_filter]
          refine List.filter_congr fun x hx => ?_
          rw [gset x]
          by_cases hxi : x = i <;> simp [hxi]
        rw [e2, ← List.Nodup.erase_eq_filter (hnodup.filter _)]
      rw [hcount, List.length_erase_of_mem (List.mem_filter.2 ⟨hir, by simp [hli]⟩), hm]
      rfl
    · rw [Array.getElem?_setIfInBounds, if_neg (fun e : i = j => hj (by rw [← e]; exact hir))]
      exact hag j hj
    · unfold upd
      by_cases hji : j = i
      · subst hji; rw [if_pos rfl, if_pos rfl]; exact hDi
      · rw [if_neg hji, if_neg hji]
        rw [gset j, if_neg hji] at hlj
        exact mono j hj _ _ _ _ hBel (hD j hj hlj)
    · by_cases hji : j = i
      · have hki : ¬ k = i := fun e => hjk (hji.trans e.symm)
        rw [if_pos hji] at hx
        rw [if_neg hki]
        rw [gset k, if_neg hki] at hlk
        intro hx2
        have h1 := hfr x hx
        have h2 := lt k hk _ _ _ (hD k hk hlk) x hx2
        omega
      · rw [if_neg hji] at hx
        rw [gset j, if_neg hji] at hlj
        by_cases hki : k = i
        · rw [if_pos hki]
          intro hx2
          have h1 := hfr x hx2
          have h2 := lt j hj _ _ _ (hD j hj hlj) x hx
          omega
        · rw [if_neg hki]
          rw [gset k, if_neg hki] at hlk
          exact hA j hj k hk hlj hlk hjk x hx
def Made6 (P : Program) (ops : Array Oper) (Q : Exit → Act → World → Prop) (S : World → Prop) (rem : List Nat) (ord : List (Bool × Nat)) (a1 : Act) : Prop :=
  ∃ D : Nat → Value → List Nat → World → Prop, (∀ j ∈ rem, ∀ v g w w', Below w.heap.size w w' → D j v g w → D j v g w') ∧ (∀ j ∈ rem, ∀ v g w, D j v g w → ∀ x ∈ g, x < w.heap.size) ∧
    (∀ i ∈ rem, ∀ (V : Nat → Value) (G : Nat → List Nat) (w : World) (K : Act → World → Prop), S w → (∀ d ∈ depsOf ops i, d ∈ rem → D d (V d) (G d) w) → (∀ d ∈ depsOf ops i, ∀ k ∈ depsOf ops i, d ∈ rem → k ∈ rem → d ≠ k → ∀ x ∈ G d, x ∉ G k) →
      (∀ v g w', S w' → Below w.heap.size w w' → (∀ x ∈ g, w.heap.size ≤ x) → D i v g w' → K ((putAll ops rem V a1).put (dstOf ops i) v) w') → wpOp P ops (NoPanic Q) i K (putAll ops rem V a1) w) ∧
    (∀ (V : Nat → Value) (G : Nat → List Nat) (w : World), S w → (∀ j ∈ rem, D j (V j) (G j) w) → (∀ j ∈ rem, ∀ k ∈ rem, j ≠ k → ∀ x ∈ G j, x ∉ G k) → wpSeq P ops (NoPanic Q) S ord (putAll ops rem V a1) w)
def tailsB6 (ops : Array Oper) (ks rem : List Nat) (ord : List (Bool × Nat)) : Bool :=
  ks.all (fun k => !ord.contains (true, k) && ord.all (fun x => !x.1 || reach ops ops.size x.2 k)) && rem.all (fun r => !ord.contains (true, r)) && ord.all (fun x => x.1 || !ord.contains (true, x.2))
theorem wp_region_made6 {P : Program} {l : List Oper} {Q : Exit → Act → World → Prop} {id : Nat} {a : Act} {w : World} (S : World → Prop) (ks rem : List Nat) (ord : List (Bool × Nat))
    (hm : P.follows .mixedOrders = true) (hs : Region.noSelect l.toArray = true) (hF : firstsB l.toArray ks (Array.replicate l.length false) = true) (hks : ks.all (fun k => decide (k < l.length)) = true) (hv : ((picks l ks).all vKind4) = true)
    (hM : madeB5 l.toArray rem (mark (Array.replicate l.length false) ks) = true) (hTB : tailsB6 l.toArray ks rem ord = true) (hB : seqB l.toArray ord (mark (mark (Array.replicate l.length false) ks) rem) = true) (hl : ks.length + (rem.length + ord.length) = l.length)
    (hS : S w.drew) (h : wpQuiet P l.toArray S (Made6 P l.toArray Q S rem ord) (picks l ks) a) : (Code.region id l.toArray true).wp P Q a w := by
  refine wp_region_noPanic (wp_region_any hm ?_)
  have hM' := hM
  simp only [madeB5, Bool.and_eq_true, decide_eq_true_eq] at hM'
  simp only [tailsB6, Bool.and_eq_true] at hTB
  have hT : ∀ j, (ord.contains (true, j)) = true → (true, j) ∈ ord := fun j h => by simpa using h
  have key := wpAnyT_firsts (Q := NoPanic Q) (T := fun i => ord.contains (true, i)) (N := l.toArray.size) (fuel := rem.length + ord.length) (w := w.drew) hs hS (fun c a a' w h => (h : False).elim) ks (picks l ks) _ a hF (fun k hk => ?_) (Closed.none _ _) (picks_ok hks) hv h (fun a1 hK hcl => ?_)
  · have := wpAny_of_T _ _ _ _ key
    rw [hl] at this
    simpa using this
  · have h1 := List.all_eq_true.1 hTB.1.1 k hk
    simp only [Bool.and_eq_true] at h1
    refine ⟨by simpa using h1.1, fun j hj => ?_⟩
    have h2 := List.all_eq_true.1 h1.2 (true, j) (hT j hj)
    simpa using h2
  · obtain ⟨D, mono, lt, step, done⟩ := hK
    have hall : (rem.filter (fun r => !(mark (Array.replicate l.length false) ks).getD r true)) = rem := by
      rw [List.filter_eq_self]
      intro r hr
      have := List.all_eq_true.1 hM'.1.1.2 r hr
      simp only [Bool.and_eq_true] at this
      exact this.2
    have hun : ∀ j ∈ rem, (mark (Array.replicate l.length false) ks).getD j true = true → False := fun j hj hlj => by
      have := List.all_eq_true.1 hM'.1.1.2 j hj
      simp only [Bool.and_eq_true, hlj] at this
      simp at this
    obtain ⟨V0, hV0⟩ : ∃ V0, putAll l.toArray rem V0 a1 = a1 := ⟨_, putAll_self a1 rem⟩
    have := made_aux6 (P := P) (Q := NoPanic Q) (S := S) (T := fun i => ord.contains (true, i)) (a1 := a1) (fuel := ord.length) hM (fun r hr => by have := List.all_eq_true.1 hTB.1.2 r hr; simpa using this) mono lt step
      (fun V G w' hS' hD hA => wpAnyT_seq ord _ _ w' hB (fun t i hti => by
        cases t with
        | true => simpa using hti
        | false =>
          have := List.all_eq_true.1 hTB.2 (false, i) hti
          simpa using this) (done V G w' hS' hD hA))
      rem.length (mark (Array.replicate l.length false) ks) V0 (fun _ => []) w.drew (by rw [hall]) hM'.1.2 (fun _ _ => rfl) hcl hS (fun j hj hlj => (hun j hj hlj).elim) (fun j hj k hk hlj _ _ => (hun j hj hlj).elim)
    rw [hV0] at this
    exact this
end Go.Proofs.Ytbcacebifpagpac
namespace Go.Proofs.Ytbcacebifpagpac
open Go.RowKit Go.Shelf Go.Sort
set_option linter.unusedVariables false
theorem wp_append_empty {P : Program} (w : World) {ops : Array Oper} {rest : List Oper} {o : Oper} {a : Act} {Q : Exit → Act → World → Prop} (hg : o.guard = none) (s x : Operand) (t : TypeId)
    (hop : o.op = Op.call { callee := Callee.builtin Builtin.append, args := #[s, x], argTypes := #[t, t] }) (e : TypeId) (i : TypeInfo) (z : Value) (size bytes : Nat) (h1 : P.underlying t = some (.slice e)) (h2 : P.info? e = some i) (h3 : i.zero = some z) (h4 : i.size = size) (h5 : i.bytes = bytes)
    (h6 : z.cells.size = size) (h7 : 0 < size) (g : Nat) (hs : a.eval s = .slice (some ⟨g, 0, none⟩) 0 0) (xa : Option Addr) (m c : Nat) (news : List Value) (hx : a.eval x = .slice xa m c) (hn : news.length = m * size)
    (hc : ∀ ad, xa = some ad → ∀ j u, news[j]? = some u → w.cell? (ad.add j) = some u) (h1c : ∀ u ∈ news, u.oneCell' = true) (hnone : xa = none → m = 0) (b1 : m ≤ maxLen) (b2 : m * bytes ≤ 140737488355328)
    (hK0 : m = 0 → wpList P ops Q rest (a.put o.dst (.slice (some ⟨g, 0, none⟩) 0 0)) w) (hK : 0 < m → ∀ v' w', w'.ownsRow w.heap.size e size v' m news → w.grownBy w' none → wpList P ops Q rest (a.put o.dst v') w') :
    wpList P ops Q (o :: rest) a w := by
  rcases Nat.eq_zero_or_pos m with h0 | h0
  · subst h0
    have hnil : news = [] := List.eq_nil_of_length_eq_zero (by simpa using hn)
    subst hnil
    have hsrc : Src P i.size t (.slice xa 0 c) 0 [] w := by
      cases xa with
      | none => exact Src.ofNil w h1 c
      | some ad => exact Src.ofSlice w h1 ad 0 c [] (by simp) (fun j u hj => by simp at hj) (fun u hu => by cases hu)
    have hrun := run_append_nothing (P := P) w t t o.type e i h1 h2 (some ⟨g, 0, none⟩) 0 0 (Nat.le_refl _) _ hsrc
    refine wpList_plain hg fun K hK' => ?_
    unfold Oper.wp
    simp [execOp, hop, resolve, invoke, builtin, hs, hx, hrun, Result.andThen]
    exact hK' _ _ (hK0 rfl)
  · cases xa with
    | none => exact absurd (hnone rfl) (by omega)
    | some ad =>
      refine wpList_append_grows w hg s x t hop e i z size bytes h1 h2 h3 h4 h5 h6 h7 (some ⟨g, 0, none⟩) 0 0 [] hs (fun h => by cases h) (by simp) (fun b _ j u hj => by simp at hj) ad m c news hx hn (hc ad rfl) h1c (by omega) (by omega) (by rw [Nat.zero_add]; exact b2) (fun v' w' h1 h2 => ?_)
      rw [Nat.zero_add, List.nil_append] at h1
      exact hK h0 v' w' h1 h2
end Go.Proofs.Ytbcacebifpagpac
namespace Go.Proofs.Ytbcacebifpagpac
open Go.RowKit Go.Shelf Go.Sort
set_option linter.unusedVariables false
def ZeroAt (A n : Nat) (v : Value) (g : List Nat) (wk : World) : Prop := ∃ B, g = [B] ∧ v = .slice (some ⟨B, 0, none⟩) n n ∧ A ≤ B ∧ Blk wk B 3 n (fun _ => .int .i64 0)
theorem ZeroAt.below {A n : Nat} {v : Value} {g : List Nat} {w w' : World} (h : ZeroAt A n v g w) (hB : Below w.heap.size w w') : ZeroAt A n v g w' := by
  obtain ⟨B, h0, h1, h2, h3⟩ := h
  exact ⟨B, h0, h1, h2, h3.below hB⟩
theorem ZeroAt.lt {A n : Nat} {v : Value} {g : List Nat} {w : World} (h : ZeroAt A n v g w) : ∀ x ∈ g, x < w.heap.size := by
  obtain ⟨B, rfl, h1, h2, h3⟩ := h
  intro x hx
  rw [List.mem_singleton] at hx
  subst hx
  exact h3.lt
def BoxAt (A : Nat) (v : Value) (g : List Nat) (wk : World) : Prop := ∃ B, g = [B] ∧ v = .pointer (some ⟨B, 0, none⟩) ∧ A ≤ B ∧ Blk wk B 31 7 (fun _ => .slice .none 0 0)
theorem BoxAt.below {A : Nat} {v : Value} {g : List Nat} {w w' : World} (h : BoxAt A v g w) (hB : Below w.heap.size w w') : BoxAt A v g w' := by
  obtain ⟨B, h0, h1, h2, h3⟩ := h
  exact ⟨B, h0, h1, h2, h3.below hB⟩
theorem BoxAt.lt {A : Nat} {v : Value} {g : List Nat} {w : World} (h : BoxAt A v g w) : ∀ x ∈ g, x < w.heap.size := by
  obtain ⟨B, rfl, h1, h2, h3⟩ := h
  intro x hx
  rw [List.mem_singleton] at hx
  subst hx
  exact h3.lt
def SumsAt (A n : Nat) (v : Value) (g : List Nat) (wk : World) : Prop := ∃ B1 B2 B3, g = [] ∧ v = .agg #[.slice .none 0 0, .slice .none 0 0, .slice .none 0 0, .slice .none 0 0, .slice (some ⟨B1, 0, none⟩) n n, .slice (some ⟨B2, 0, none⟩) n n, .slice (some ⟨B3, 0, none⟩) n n] ∧
  (A ≤ B1 ∧ Blk wk B1 3 n (fun _ => .int .i64 0)) ∧ (A ≤ B2 ∧ Blk wk B2 3 n (fun _ => .int .i64 0)) ∧ (A ≤ B3 ∧ Blk wk B3 3 n (fun _ => .int .i64 0))
theorem SumsAt.below {A n : Nat} {v : Value} {g : List Nat} {w w' : World} (h : SumsAt A n v g w) (hB : Below w.heap.size w w') : SumsAt A n v g w' := by
  obtain ⟨B1, B2, B3, h0, h1, ⟨a1, a2⟩, ⟨b1, b2⟩, ⟨c1, c2⟩⟩ := h
  exact ⟨B1, B2, B3, h0, h1, ⟨a1, a2.below hB⟩, ⟨b1, b2.below hB⟩, ⟨c1, c2.below hB⟩⟩
def OneAt (A n : Nat) (v : Value) (g : List Nat) (wk : World) : Prop := ∃ B R, g = [B] ∧ v = .slice (some ⟨B, 0, none⟩) 1 1 ∧ A ≤ B ∧ Blk wk B 23 1 (fun _ => .slice (some ⟨R, 0, none⟩) n n) ∧ A ≤ R ∧ Blk wk R 3 n (fun _ => .int .i64 0)
theorem OneAt.below {A n : Nat} {v : Value} {g : List Nat} {w w' : World} (h : OneAt A n v g w) (hB : Below w.heap.size w w') : OneAt A n v g w' := by
  obtain ⟨B, R, h0, h1, h2, h3, h4, h5⟩ := h
  exact ⟨B, R, h0, h1, h2, h3.below hB, h4, h5.below hB⟩
theorem OneAt.lt {A n : Nat} {v : Value} {g : List Nat} {w : World} (h : OneAt A n v g w) : ∀ x ∈ g, x < w.heap.size := by
  obtain ⟨B, R, rfl, h1, h2, h3, h4, h5⟩ := h
  intro x hx
  rw [List.mem_singleton] at hx
  subst hx
  exact h3.lt
def Fr (n : Nat) (w : World) (s : St) : Prop := ∀ w'' : World, w.heap.size ≤ w''.heap.size → (∀ g, n ≤ g → g < w.heap.size → w''.heap[g]? = w.heap[g]?) → s.At w''
theorem Fr.at {n : Nat} {w : World} {s : St} (h : Fr n w s) : s.At w := h w (Nat.le_refl _) (fun _ _ _ => rfl)
theorem Fr.below {n : Nat} {w w' : World} {s : St} (h : Fr n w s) (hB : Below w.heap.size w w') : Fr n w' s := fun w'' hz hs => h w'' (Nat.le_trans hB.size hz) fun g h1 h2 => (hs g h1 (Nat.lt_of_lt_of_le h2 hB.size)).trans (hB.block g h2)
theorem Fr.set {n : Nat} {w : World} {s : St} (h : Fr n w s) {q : Nat} (hq : q < n) (j : Nat) (u : Value) : Fr n (w.setCell ⟨q, j, none⟩ u) s := fun w'' hz hs => h w'' (by simpa using hz) fun g h1 h2 => (hs g h1 (by simpa using h2)).trans (Below.heap_setCell w ⟨q, j, none⟩ u g (by show g ≠ q; omega))
theorem grown_keep {w w2 : World} {base : Nat} {e : TypeId} {size : Nat} {v : Value} {n : Nat} {xs : List Value} (ho : w.ownsRow base e size v n xs) (hg : w.grownBy w2 v.ownBlock) {q : Nat} {t : TypeId} {m : Nat} {f : Nat → Value} (hb : Blk w q t m f) (hne : t ≠ e) : Blk w2 q t m f := by
  refine hb.grown hg ?_
  intro hq
  rcases ho.2 with ⟨rfl, _⟩ | ⟨g2, cap2, cur2, rfl, _, hh2, hrest⟩
  · simp [Value.ownBlock] at hq
  · simp only [Value.ownBlock, Option.some.injEq] at hq
    subst hq
    obtain ⟨c3, hc3, _⟩ := hb
    rw [hc3] at hh2
    cases hh2
    exact hne rfl
theorem owns_set {w : World} {base : Nat} {e : TypeId} {size : Nat} {v : Value} {n : Nat} {xs : List Value} (ho : w.ownsRow base e size v n xs) {q : Nat} {t : TypeId} {m : Nat} {f : Nat → Value} (hb : Blk w q t m f) (hne : t ≠ e) (j : Nat) (u : Value) : (w.setCell ⟨q, j, none⟩ u).ownsRow base e size v n xs := by
  refine ⟨ho.1, ?_⟩
  rcases ho.2 with h | ⟨g2, cap2, cur2, rfl, hb2, hh2, hrest⟩
  · exact .inl h
  · refine .inr ⟨g2, cap2, cur2, rfl, hb2, ?_, hrest⟩
    rw [Below.heap_setCell w ⟨q, j, none⟩ u g2 ?_]
    · exact hh2
    · intro hq
      obtain ⟨c3, hc3, _⟩ := hb
      rw [hq, hc3] at hh2
      cases hh2
      exact hne rfl
end Go.Proofs.Ytbcacebifpagpac
namespace Go.Proofs.Ytbcacebifpagpac
open Go.RowKit Go.Shelf Go.Sort
set_option linter.unusedVariables false
def DOn (A : Nat) (s : St) (v : Value) (g : List Nat) (wk : World) : Prop := ∃ (g0 c0 : Nat) (G C : Nat → Nat), v = .slice (some ⟨g0, 0, none⟩) s.on.n c0 ∧ A ≤ g0 ∧ s.on.n ≤ c0 ∧ c0 ≤ maxLen ∧ Blk wk g0 23 s.on.n (fun i => .slice (some ⟨G i, 0, none⟩) (s.on.r i).n (C i)) ∧
  (∀ i, i < s.on.n → A ≤ G i ∧ (s.on.r i).n ≤ C i ∧ C i ≤ maxLen ∧ Blk wk (G i) 3 (s.on.r i).n (fun j => .int .i64 ((s.on.r i).z j))) ∧ (∀ i j, i < j → j < s.on.n → G i < G j) ∧ g = (List.range s.on.n).map G
theorem DOn.below {A : Nat} {s : St} {v : Value} {g : List Nat} {w w' : World} (h : DOn A s v g w) (hB : Below w.heap.size w w') : DOn A s v g w' := by
  obtain ⟨g0, c0, G, C, h1, h2, h2', h2'', h3, h4, h5, h6⟩ := h
  exact ⟨g0, c0, G, C, h1, h2, h2', h2'', h3.below hB, fun i hi => ⟨(h4 i hi).1, (h4 i hi).2.1, (h4 i hi).2.2.1, (h4 i hi).2.2.2.below hB⟩, h5, h6⟩
theorem DOn.lt {A : Nat} {s : St} {v : Value} {g : List Nat} {w : World} (h : DOn A s v g w) : ∀ x ∈ g, x < w.heap.size := by
  obtain ⟨g0, c0, G, C, h1, h2, h2', h2'', h3, h4, h5, rfl⟩ := h
  intro x hx
  obtain ⟨i, hi, rfl⟩ := List.mem_map.1 hx
  exact (h4 i (List.mem_range.1 hi)).2.2.2.lt
def DE (v : Value) (g : List Nat) : Prop := ∃ B : Nat, g = [] ∧ v = .slice (some ⟨B, 0, none⟩) 0 0
def DAgg (A : Nat) (s : St) (v : Value) (g : List Nat) (wk : World) : Prop := g = [] ∧ ∃ x2 g2 x6 g6 x10 g10 x14 g14 x18 g18 x22 g22, v = .agg #[x2, .slice .none 0 0, x6, x10, x14, x18, x22] ∧ DOn A s x2 g2 wk ∧ DHs A 65 s.hs x6 g6 wk ∧ DHs A 70 s.ms x10 g10 wk ∧
  DInts A s.si x14 g14 wk ∧ DInts A s.so x18 g18 wk ∧ DInts A s.sf x22 g22 wk ∧ (∀ x ∈ g2, x ∉ g14) ∧ (∀ x ∈ g2, x ∉ g18) ∧ (∀ x ∈ g2, x ∉ g22) ∧ (∀ x ∈ g14, x ∉ g18) ∧ (∀ x ∈ g14, x ∉ g22) ∧ (∀ x ∈ g18, x ∉ g22)
theorem DAgg.below {A : Nat} {s : St} {v : Value} {g : List Nat} {w w' : World} (h : DAgg A s v g w) (hB : Below w.heap.size w w') : DAgg A s v g w' := by
  obtain ⟨h0, x2, g2, x6, g6, x10, g10, x14, g14, x18, g18, x22, g22, h1, a, b, c, d, e, f, r⟩ := h
  exact ⟨h0, x2, g2, x6, g6, x10, g10, x14, g14, x18, g18, x22, g22, h1, a.below hB, b.below hB, c.below hB, d.below hB, e.below hB, f.below hB, r⟩
theorem OwnI.grownO {A B : Nat} {w w2 : World} {r : Rw} {e : TypeId} {size : Nat} {v : Value} {n : Nat} {xs : List Value} (h : OwnI A w r) (ho : w.ownsRow B e size v n xs) (hg : w.grownBy w2 v.ownBlock) (hne : 3 ≠ e) : OwnI A w2 r := by
  obtain ⟨g, ha, h0, h1, h2, hb⟩ := h
  exact ⟨g, ha, h0, h1, h2, grown_keep ho hg hb hne⟩
theorem OwnH.grownO {A B : Nat} {t : TypeId} {w w2 : World} {s : Hs} {e : TypeId} {size : Nat} {v : Value} {n : Nat} {xs : List Value} (h : OwnH A t w s) (ho : w.ownsRow B e size v n xs) (hg : w.grownBy w2 v.ownBlock) (hne : t ≠ e) : OwnH A t w2 s := by
  obtain ⟨h1, h2, h3, h4⟩ := h
  refine ⟨h1, h2, h3, fun hn => ?_⟩
  obtain ⟨g, ha, hA, hb⟩ := h4 hn
  exact ⟨g, ha, hA, grown_keep ho hg hb hne⟩
theorem Room.grownO {A B : Nat} {t : TypeId} {w w2 : World} {sz c : Nat} {a : Option Addr} {e : TypeId} {size : Nat} {v : Value} {n : Nat} {xs : List Value} (h : Room A w t sz a c) (ho : w.ownsRow B e size v n xs) (hg : w.grownBy w2 v.ownBlock) (hne : t ≠ e) : Room A w2 t sz a c := by
  refine h.same fun g cur hgc => hg.block g (Array.getElem?_eq_some_iff.1 hgc).1 fun hq => ?_
  rcases ho.2 with ⟨rfl, _⟩ | ⟨g2, cap2, cur2, rfl, _, hh2, hrest⟩
  · simp [Value.ownBlock] at hq
  · simp only [Value.ownBlock, Option.some.injEq] at hq
    subst hq
    rw [hgc] at hh2
    cases hh2
    exact hne rfl
theorem OwnS.grownO {A B : Nat} {w w2 : World} {s : St} {size : Nat} {v : Value} {n : Nat} {xs : List Value} (h : OwnS A w s) (hos : s.os.n = 0) (hoc : s.os.c = 0) (ho : w.ownsRow B 51 size v n xs) (hg : w.grownBy w2 v.ownBlock) : OwnS A w2 s := by
  refine ⟨?_, fun i hi => (h.rows i hi).grownO ho hg (by decide), h.rapart, ⟨h.os.le, h.os.cap, fun hn => absurd hn (by omega), fun i hi => absurd hi (by omega), h.os.apart, Or.inl hoc⟩, h.hs.grownO ho hg (by decide), h.ms.grownO ho hg (by decide), h.msr.grownO ho hg (by decide), h.si.grownO ho hg (by decide), h.so.grownO ho hg (by decide), h.sf.grownO ho hg (by decide), h.aio, h.aif, h.aof, h.ari⟩
  obtain ⟨g, ha, h0, h1, h2, hb⟩ := h.on
  exact ⟨g, ha, h0, h1, h2, grown_keep ho hg hb (by decide)⟩
theorem OwnS.below {A : Nat} {w w' : World} {s : St} (h : OwnS A w s) (hB : Below w.heap.size w w') : OwnS A w' s := by
  refine ⟨?_, fun i hi => (h.rows i hi).below hB, h.rapart, h.os.below hB, h.hs.below hB, h.ms.below hB, h.msr.below hB, h.si.below hB, h.so.below hB, h.sf.below hB, h.aio, h.aif, h.aof, h.ari⟩
  obtain ⟨g, ha, h0, h1, h2, hb⟩ := h.on
  exact ⟨g, ha, h0, h1, h2, hb.below hB⟩
def LineOK (A : Nat) (s : St) (Ls : Nat → Od) (i : Nat) (wk : World) : Prop := (Ls i).k = (s.os.z i).k ∧ (Ls i).ls.n = (s.os.z i).ls.n ∧ (∀ j, j < (s.os.z i).ls.n → (Ls i).ls.z j = (s.os.z i).ls.z j) ∧ ∃ B, (Ls i).ls.a = some ⟨B, 0, none⟩ ∧ A ≤ B ∧ (Ls i).ls.n ≤ (Ls i).ls.c ∧ (Ls i).ls.c ≤ maxLen ∧ Blk wk B 53 ((Ls i).ls.n * 4) (fun j => (flatH (Ls i).ls.n (Ls i).ls.z).getD j default)
def OwnL (A A0 : Nat) (s s0 : St) (BX k : Nat) (wk : World) : Prop := ∃ (v : Value) (Ls : Nat → Od), Blk wk BX 31 7 (fun j => (#[.slice s0.on.a s0.on.n s0.on.c, v, .slice s0.hs.a s0.hs.n s0.hs.c, .slice s0.ms.a s0.ms.n s0.ms.c, .slice s0.si.a s0.si.n s0.si.c, .slice s0.so.a s0.so.n s0.so.c, .slice s0.sf.a s0.sf.n s0.sf.c] : Array Value).getD j default) ∧
  wk.ownsRow A0 51 2 v k (flatO k Ls) ∧ (∀ i, i < k → LineOK A s Ls i wk) ∧ (∀ i j, i < j → j < k → (Ls i).ls.a ≠ (Ls j).ls.a) ∧ OwnS A wk s0
def D16 (A : Nat) (x : Od) (v : Value) (g : List Nat) (wk : World) : Prop := ∃ s' : Hs, g = [] ∧ v = .agg #[.int .i64 x.k, .slice s'.a s'.n s'.c] ∧ Cloned A 53 x.ls wk s'
theorem D16.below {A : Nat} {x : Od} {v : Value} {g : List Nat} {w w' : World} (h : D16 A x v g w) (hB : Below w.heap.size w w') : D16 A x v g w' := by
  obtain ⟨s', h1, h2, h3, h4, h5, h6⟩ := h
  exact ⟨s', h1, h2, h3, h4, h5.below hB, h6.below hB⟩
def D17 (A : Nat) (x : Od) (v : Value) (g : List Nat) (wk : World) : Prop := ∃ (B : Nat) (s' : Hs), g = [] ∧ v = .slice (some ⟨B, 0, none⟩) 1 1 ∧ A ≤ B ∧ Blk wk B 51 2 (fun j => (#[.int .i64 x.k, .slice s'.a s'.n s'.c] : Array Value).getD j default) ∧ Cloned A 53 x.ls wk s'
theorem D17.below {A : Nat} {x : Od} {v : Value} {g : List Nat} {w w' : World} (h : D17 A x v g w) (hB : Below w.heap.size w w') : D17 A x v g w' := by
  obtain ⟨B, s', h1, h2, h3, h4, h5, h6, h7, h8⟩ := h
  exact ⟨B, s', h1, h2, h3, h4.below hB, h5, h6, h7.below hB, h8.below hB⟩
theorem cloned_grow {A B : Nat} {e : TypeId} {s : Hs} {w : World} {v : Value} (hn : 0 < s.n) (hown : w.ownsRow B e 4 v s.n (flatH s.n s.z)) (hA : A ≤ B) : ∃ s' : Hs, v = .slice s'.a s'.n s'.c ∧ Cloned A e s w s' := by
  have hv : v ≠ .slice none 0 0 := by
    rintro rfl
    rcases hown.2 with ⟨_, h0⟩ | ⟨g2, cap2, cur2, h, _⟩
    · omega
    · cases h
  obtain ⟨s', h1, h2, h3, h4, h5⟩ := OwnH.ofOwns hown hv
  exact ⟨s', h1, h2, fun j _ => by rw [h3], h4.mono hA, h5.mono hA⟩
theorem cloned_none {A : Nat} {e : TypeId} {s : Hs} {w : World} (B : Nat) (hn : s.n = 0) : Cloned A e s w ⟨some ⟨B, 0, none⟩, 0, 0, s.z⟩ := ⟨hn.symm, fun j hj => rfl, ⟨Nat.le_refl _, Nat.zero_le _, (fun h => by cases h), fun h => absurd h (Nat.lt_irrefl _)⟩, Or.inl rfl⟩
theorem hs_news {s : Hs} {w : World} (h : s.At w) : ∀ ad, s.a = some ad → ∀ j u, (flatH s.n s.z)[j]? = some u → w.cell? (ad.add j) = some u := fun ad ha j u hj => by
  have hlen := (List.getElem?_eq_some_iff.1 hj).1
  rw [flatH_len] at hlen
  have hh := h.hds
  obtain ⟨b, o, he, hb, -⟩ := hh 0 (by omega)
  rw [ha] at he
  simp only [Option.some.injEq] at he
  subst he
  rw [ha] at hh
  exact HdsAt.news hh j u hj
theorem hs_none {s : Hs} {w : World} (h : s.At w) (ha : s.a = none) : s.n = 0 := by
  have := h.nilc ha
  have := h.le
  omega
theorem ints_grow {A B : Nat} {r : Rw} {w : World} {v : Value} (hn : 0 < r.n) (hown : w.ownsRow B 3 1 v r.n ((List.range r.n).map fun j => Value.int .i64 (r.z j))) (hA : A ≤ B) : ∃ g c, v = .slice (some ⟨g, 0, none⟩) r.n c ∧ B ≤ g ∧ DInts A r v [g] w := by
  have hv : v ≠ .slice none 0 0 := by
    rintro rfl
    rcases hown.2 with ⟨_, h0⟩ | ⟨g2, cap2, cur2, h, _⟩
    · omega
    · cases h
  obtain ⟨g, c, rfl, h1, h2, h3, h4⟩ := Blk.ofOwns hown hv
  rw [Nat.mul_one] at h4
  exact ⟨g, c, rfl, h3, g, c, rfl, rfl, by omega, h1, h2, h4.congr (fun j hj => by simp [hj])⟩
theorem rw_news {r : Rw} {w : World} (h : r.At w) : ∀ ad, r.a = some ad → ∀ j u, ((List.range r.n).map fun j => Value.int .i64 (r.z j))[j]? = some u → w.cell? (ad.add j) = some u := fun ad ha j u hj => by
  have hjn : j < r.n := by
    have := (List.getElem?_eq_some_iff.1 hj).1
    simpa using this
  obtain ⟨b, o, he, hb, hc⟩ := h.ints j hjn
  rw [ha] at he
  simp only [Option.some.injEq] at he
  subst he
  rw [Go.WideShapes.add_plain, hc]
  simp [hjn] at hj
  rw [hj]
theorem rw_none {r : Rw} {w : World} (h : r.At w) (ha : r.a = none) : r.n = 0 := by
  rcases Nat.eq_zero_or_pos r.n with h0 | h0
  · exact h0
  · obtain ⟨b, o, he, _⟩ := h.ints 0 h0
    rw [ha] at he
    cases he
set_option maxRecDepth 100000 in
set_option maxHeartbeats 4000000 in
theorem OwnState_any (p : Pl) (s : St) (w : World) (hs : s.At w) (f : Formed p s) :
    Calls Try.prog 51 #[s.val] w fun e w' => ∃ s' : St, e = .returned s'.val ∧ SameT s' s ∧ OwnS w.heap.size w' s' ∧ Below w.heap.size w w' := by
  obtain ⟨W0, hW, hWB, X0, Z0⟩ : ∃ W, ((w.alloc (.cells s.cells 31)).alloc (.cells #[.slice .none 0 0, .slice .none 0 0, .slice .none 0 0, .slice .none 0 0, .slice .none 0 0, .slice .none 0 0, .slice .none 0 0] 31)) = W ∧ Below w.heap.size w W ∧ Blk W w.heap.size 31 7 (fun j => s.cells.getD j default) ∧ Blk W (w.heap.size + 1) 31 7 (fun _ => .slice .none 0 0) :=
    ⟨_, rfl, two_below _ _ _, (Blk.mk' rfl rfl).alloc _, (Blk.mk' (cur := #[.slice .none 0 0, .slice .none 0 0, .slice .none 0 0, .slice .none 0 0, .slice .none 0 0, .slice .none 0 0, .slice .none 0 0]) (by simp) rfl).congr (fun j hj => by match j, hj with | 0, _ => rfl | 1, _ => rfl | 2, _ => rfl | 3, _ => rfl | 4, _ => rfl | 5, _ => rfl | 6, _ => rfl)⟩
  have HW : Hid ((w.alloc (.cells #[.slice s.on.a s.on.n s.on.c, .slice s.os.a s.os.n s.os.c, .slice s.hs.a s.hs.n s.hs.c, .slice s.ms.a s.ms.n s.ms.c, .slice s.si.a s.si.n s.si.c, .slice s.so.a s.so.n s.so.c, .slice s.sf.a s.sf.n s.sf.c] 31)).alloc (.cells #[.slice .none 0 0, .slice .none 0 0, .slice .none 0 0, .slice .none 0 0, .slice .none 0 0, .slice .none 0 0, .slice .none 0 0] 31) = W0) := hW
  have HS : Hid (s.At W0) := hs.below hWB
  have HF : Hid (Formed p s) := f
  have HC : Hid (∀ wk, Below W0.heap.size W0 wk → Boxed wk w.heap.size s ∧ Blk wk (w.heap.size + 1) 31 7 (fun _ => .slice .none 0 0) ∧ s.At wk ∧ Below w.heap.size w wk) := fun wk h => ⟨Boxed.of (X0.below h), Z0.below h, (hs.below hWB).below h, hWB.trans (h.mono hWB.size)⟩
  have hsz0 := hWB.size
  have zlt := Z0.lt
  have ns1 := f.sh.pl.ns1
  have ns3 := f.sh.pl.ns3
  have h72 := f.hs72
  have ms8 := f.ms8
  obtain ⟨l1, c0, c1, c2, c3, c4, c5, c6⟩ := Boxed.of X0
  have r0 : ∀ d os, (grow (redrawn W0 d) os).cell? ⟨w.heap.size, 0, none⟩ = some (.slice s.on.a s.on.n s.on.c) := fun d os => cell_regrown c0 d os
  have r2 : ∀ d os, (grow (redrawn W0 d) os).cell? ⟨w.heap.size, 2, none⟩ = some (.slice s.hs.a s.hs.n s.hs.c) := fun d os => cell_regrown c2 d os
  have r3 : ∀ d os, (grow (redrawn W0 d) os).cell? ⟨w.heap.size, 3, none⟩ = some (.slice s.ms.a s.ms.n s.ms.c) := fun d os => cell_regrown c3 d os
  have r4 : ∀ d os, (grow (redrawn W0 d) os).cell? ⟨w.heap.size, 4, none⟩ = some (.slice s.si.a s.si.n s.si.c) := fun d os => cell_regrown c4 d os
  have r5 : ∀ d os, (grow (redrawn W0 d) os).cell? ⟨w.heap.size, 5, none⟩ = some (.slice s.so.a s.so.n s.so.c) := fun d os => cell_regrown c5 d os
  have r6 : ∀ d os, (grow (redrawn W0 d) os).cell? ⟨w.heap.size, 6, none⟩ = some (.slice s.sf.a s.sf.n s.sf.c) := fun d os => cell_regrown c6 d os
  obtain ⟨iI, hI, hI0, hI1, hI2⟩ := info_parts infoInt
  obtain ⟨iH, hH, hH0, hH1, hH2⟩ := info_parts infoHoldC
  obtain ⟨iM, hM, hM0, hM1, hM2⟩ := info_parts infoMoveC
  obtain ⟨iL, hL, hL0, hL1, hL2⟩ := info_parts infoLineC
  obtain ⟨iO, hO, hO0, hO1, hO2⟩ := info_parts infoOrderC
  clear hW X0 Z0 hs f c0 c1 c2 c3 c4 c5 c6
  unfold St.val
  go_enter Try.func51, Try.ntmps51
  go_wp2_with fail
  rw [HW.out]
  refine wp_region_made6 (fun w' => ∃ p : Regrown, w' = grow (redrawn W0 p.d) p.os) [0, 1, 4, 5, 8, 9, 12, 13, 16, 17, 20, 21] [2, 3, 6, 7, 10, 11, 14, 15, 18, 19, 22, 23, 24] [(false, 25)] (by kernel_rfl) (by kernel_rfl) (by kernel_rfl) (by kernel_rfl) (by kernel_rfl) (by kernel_rfl) (by kernel_rfl) (by kernel_rfl) (by kernel_rfl) (regrown_of_below ((Below.refl _ _).drew)) ?_
  simp only [picks, List.drop_succ_cons, List.drop_zero, List.take_succ_cons, List.take_zero, List.cons_append, List.nil_append]
  repeat (go_big_quiet_step (fail))
  refine wpQuiet_nil ?_
  clear r0 r2 r3 r4 r5 r6
  refine ⟨fun j v g wk => match j with | 2 => DOn w.heap.size s v g wk | 6 => DHs w.heap.size 65 s.hs v g wk | 10 => DHs w.heap.size 70 s.ms v g wk | 14 => DInts w.heap.size s.si v g wk | 18 => DInts w.heap.size s.so v g wk | 22 => DInts w.heap.size s.sf v g wk | 23 => DAgg w.heap.size s v g wk | 24 => BoxAt W0.heap.size v g wk | _ => DE v g,
    ?zmono, ?zlow, ?zstep, ?zdone⟩
  case zmono =>
    intro j hj v g w w' hB h
    simp only [List.mem_cons, List.not_mem_nil, or_false] at hj
    rcases hj with rfl | rfl | rfl | rfl | rfl | rfl | rfl | rfl | rfl | rfl | rfl | rfl | rfl
    · exact DOn.below h hB
    · exact h
    · exact DHs.below h hB
    · exact h
    · exact DHs.below h hB
    · exact h
    · exact DInts.below h hB
    · exact h
    · exact DInts.below h hB
    · exact h
    · exact DInts.below h hB
    · exact DAgg.below h hB
    · exact BoxAt.below h hB
  case zlow =>
    intro j hj v g w h
    simp only [List.mem_cons, List.not_mem_nil, or_false] at hj
    rcases hj with rfl | rfl | rfl | rfl | rfl | rfl | rfl | rfl | rfl | rfl | rfl | rfl | rfl
    · exact DOn.lt h
    · obtain ⟨_, h1, _⟩ := h; rw [h1]; intro x hx; simp at hx
    · obtain ⟨_, h1, _⟩ := h; rw [h1]; intro x hx; simp at hx
    · obtain ⟨_, h1, _⟩ := h; rw [h1]; intro x hx; simp at hx
    · obtain ⟨_, h1, _⟩ := h; rw [h1]; intro x hx; simp at hx
    · obtain ⟨_, h1, _⟩ := h; rw [h1]; intro x hx; simp at hx
    · exact DInts.lt h
    · obtain ⟨_, h1, _⟩ := h; rw [h1]; intro x hx; simp at hx
    · exact DInts.lt h
    · obtain ⟨_, h1, _⟩ := h; rw [h1]; intro x hx; simp at hx
    · exact DInts.lt h
    · obtain ⟨h1, _⟩ := h; rw [h1]; intro x hx; simp at hx
    · exact BoxAt.lt h
  case zstep =>
    intro i hi
    simp only [List.mem_cons, List.not_mem_nil, or_false] at hi
    rcases hi with rfl | rfl | rfl | rfl | rfl | rfl | rfl | rfl | rfl | rfl | rfl | rfl | rfl
    · intro V G wk K hS hd hA hK
      have hX := below_of_regrown hS
      have q := hX.size
      refine wpOp_list 2 rfl ?_
      simp only [putAll, dstOf, List.getElem?_toArray, List.getElem?_cons_succ, List.getElem?_cons_zero, Act.put, List.setIfInBounds_toArray, List.set_cons_succ, List.set_cons_zero] at hK ⊢
      go_wp2_with fail
      refine (ownOn_any s.on wk (HS.out.on.below hX) (by rw [HF.out.sh.n]; exact HF.out.sh.pl.nb6) (by rw [HF.out.sh.n]; exact HF.out.sh.pl.nb1) (fun i hi => by rw [HF.out.sh.len i hi]; exact ⟨ns1, ns3⟩)).mono ?_
      rintro e w2 ⟨g0, c0, Gr, Cr, rfl, a1, a1', a1'', a2, a3, a4, hB2⟩
      go_wp2_with fail
      refine hK _ ((List.range s.on.n).map Gr) _ (regrown_of_below (hX.trans (hB2.mono hX.size))) hB2 (fun x hx => ?_) ⟨g0, c0, Gr, Cr, rfl, by omega, a1', a1'', a2, fun i hi => ⟨by have := (a3 i hi).1; omega, (a3 i hi).2⟩, a4, rfl⟩
      obtain ⟨i, hi, rfl⟩ := List.mem_map.1 hx
      exact (a3 i (List.mem_range.1 hi)).1
    · intro V G wk K hS hd hA hK
      have hX := below_of_regrown hS
      refine wpOp_list 3 rfl ?_
      simp only [putAll, dstOf, List.getElem?_toArray, List.getElem?_cons_succ, List.getElem?_cons_zero, Act.put, List.setIfInBounds_toArray, List.set_cons_succ, List.set_cons_zero] at hK ⊢
      go_wp2_with fail
      exact hK _ [] _ (regrown_of_below (hX.alloc hX.size _)) ((Below.refl _ _).alloc (Nat.le_refl _) _) (fun x hx => by simp at hx) ⟨wk.heap.size, rfl, rfl⟩
    · intro V G wk K hS hd hA hK
      have hX := below_of_regrown hS
      have q := hX.size
      obtain ⟨B, -, h3⟩ : DE (V 3) (G 3) := hd 3 (List.contains_iff_mem.1 (by kernel_rfl)) (by simp)
      refine wpOp_list 6 rfl ?_
      simp only [putAll, dstOf, List.getElem?_toArray, List.getElem?_cons_succ, List.getElem?_cons_zero, Act.put, List.setIfInBounds_toArray, List.set_cons_succ, List.set_cons_zero, h3] at hK ⊢
      go_wp2_with (at_builtin; refine wp_append_empty wk rfl (.tmp 8) (.tmp 10) 28 rfl 65 iH (.agg #[.int .i64 0, .int .i64 0, .int .i64 0, .int .i64 0]) 4 32 Try.underlying28 hH hH0 hH1 hH2 rfl (by decide) B rfl s.hs.a s.hs.n s.hs.c (flatH s.hs.n s.hs.z) rfl (by rw [flatH_len]) (hs_news (HS.out.hs.below hX)) (flatH_one _ _) (hs_none (HS.out.hs.below hX)) (by unfold maxLen; omega) (by omega) ?_ ?_)
      · intro h0
        exact wpList_end (hK _ [] _ hS (Below.refl _ _) (fun x hx => by simp at hx) ⟨⟨some ⟨B, 0, none⟩, 0, 0, s.hs.z⟩, rfl, rfl, cloned_none B h0⟩)
      · intro h0 v' w1 hown hgrow
        have hB1 : Below wk.heap.size wk w1 := (Below.refl _ wk).grown hgrow (Nat.le_refl _) (by intro k hk; cases hk)
        obtain ⟨s', rfl, hc⟩ := cloned_grow (A := w.heap.size) h0 hown (by omega)
        exact wpList_end (hK _ [] _ (regrown_of_below (hX.trans (hB1.mono hX.size))) hB1 (fun x hx => by simp at hx) ⟨s', rfl, rfl, hc⟩)
    · intro V G wk K hS hd hA hK
      have hX := below_of_regrown hS
      refine wpOp_list 7 rfl ?_
      simp only [putAll, dstOf, List.getElem?_toArray, List.getElem?_cons_succ, List.getElem?_cons_zero, Act.put, List.setIfInBounds_toArray, List.set_cons_succ, List.set_cons_zero] at hK ⊢
      go_wp2_with fail
      exact hK _ [] _ (regrown_of_below (hX.alloc hX.size _)) ((Below.refl _ _).alloc (Nat.le_refl _) _) (fun x hx => by simp at hx) ⟨wk.heap.size, rfl, rfl⟩
    · intro V G wk K hS hd hA hK
      have hX := below_of_regrown hS
      have q := hX.size
      obtain ⟨B, -, h3⟩ : DE (V 7) (G 7) := hd 7 (List.contains_iff_mem.1 (by kernel_rfl)) (by simp)
      refine wpOp_list 10 rfl ?_
      simp only [putAll, dstOf, List.getElem?_toArray, List.getElem?_cons_succ, List.getElem?_cons_zero, Act.put, List.setIfInBounds_toArray, List.set_cons_succ, List.set_cons_zero, h3] at hK ⊢
      go_wp2_with (at_builtin; refine wp_append_empty wk rfl (.tmp 12) (.tmp 14) 29 rfl 70 iM (.agg #[.int .i64 0, .int .i64 0, .int .i64 0, .int .i64 0]) 4 32 Try.underlying29 hM hM0 hM1 hM2 rfl (by decide) B rfl s.ms.a s.ms.n s.ms.c (flatH s.ms.n s.ms.z) rfl (by rw [flatH_len]) (hs_news (HS.out.ms.below hX)) (flatH_one _ _) (hs_none (HS.out.ms.below hX)) (by unfold maxLen; omega) (by omega) ?_ ?_)
      · intro h0
        exact wpList_end (hK _ [] _ hS (Below.refl _ _) (fun x hx => by simp at hx) ⟨⟨some ⟨B, 0, none⟩, 0, 0, s.ms.z⟩, rfl, rfl, cloned_none B h0⟩)
      · intro h0 v' w1 hown hgrow
        have hB1 : Below wk.heap.size wk w1 := (Below.refl _ wk).grown hgrow (Nat.le_refl _) (by intro k hk; cases hk)
        obtain ⟨s', rfl, hc⟩ := cloned_grow (A := w.heap.size) h0 hown (by omega)
        exact wpList_end (hK _ [] _ (regrown_of_below (hX.trans (hB1.mono hX.size))) hB1 (fun x hx => by simp at hx) ⟨s', rfl, rfl, hc⟩)
    · intro V G wk K hS hd hA hK
      have hX := below_of_regrown hS
      refine wpOp_list 11 rfl ?_
      simp only [putAll, dstOf, List.getElem?_toArray, List.getElem?_cons_succ, List.getElem?_cons_zero, Act.put, List.setIfInBounds_toArray, List.set_cons_succ, List.set_cons_zero] at hK ⊢
      go_wp2_with fail
      exact hK _ [] _ (regrown_of_below (hX.alloc hX.size _)) ((Below.refl _ _).alloc (Nat.le_refl _) _) (fun x hx => by simp at hx) ⟨wk.heap.size, rfl, rfl⟩
    · intro V G wk K hS hd hA hK
      have hX := below_of_regrown hS
      have q := hX.size
      obtain ⟨B, -, h3⟩ : DE (V 11) (G 11) := hd 11 (List.contains_iff_mem.1 (by kernel_rfl)) (by simp)
      have HN : Hid (s.si.n = p.ns) := HF.out.sin
      refine wpOp_list 14 rfl ?_
      simp only [putAll, dstOf, List.getElem?_toArray, List.getElem?_cons_succ, List.getElem?_cons_zero, Act.put, List.setIfInBounds_toArray, List.set_cons_succ, List.set_cons_zero, h3] at hK ⊢
      go_wp2_with (at_builtin; refine wp_append_empty wk rfl (.tmp 16) (.tmp 18) 23 rfl 3 iI (.int .i64 0) 1 8 Try.underlying23 hI hI0 hI1 hI2 rfl (by decide) B rfl s.si.a s.si.n s.si.c ((List.range s.si.n).map fun j => Value.int .i64 (s.si.z j)) rfl (by simp) (rw_news (HS.out.si.below hX)) (fun u hu => by obtain ⟨x, _, rfl⟩ := List.mem_map.1 hu; rfl) (rw_none (HS.out.si.below hX)) (by rw [HN.out]; unfold maxLen; omega) (by rw [HN.out]; omega) ?_ ?_)
      · intro h0
        exact absurd h0 (by rw [HN.out]; omega)
      · intro h0 v' w1 hown hgrow
        have hB1 : Below wk.heap.size wk w1 := (Below.refl _ wk).grown hgrow (Nat.le_refl _) (by intro k hk; cases hk)
        obtain ⟨gi, ci, rfl, hge, hdi⟩ := ints_grow (A := w.heap.size) h0 hown (by omega)
        exact wpList_end (hK _ [gi] _ (regrown_of_below (hX.trans (hB1.mono hX.size))) hB1 (fun x hx => by rw [List.mem_singleton] at hx; omega) hdi)
    · intro V G wk K hS hd hA hK
      have hX := below_of_regrown hS
      refine wpOp_list 15 rfl ?_
      simp only [putAll, dstOf, List.getElem?_toArray, List.getElem?_cons_succ, List.getElem?_cons_zero, Act.put, List.setIfInBounds_toArray, List.set_cons_succ, List.set_cons_zero] at hK ⊢
      go_wp2_with fail
      exact hK _ [] _ (regrown_of_below (hX.alloc hX.size _)) ((Below.refl _ _).alloc (Nat.le_refl _) _) (fun x hx => by simp at hx) ⟨wk.heap.size, rfl, rfl⟩
    · intro V G wk K hS hd hA hK
      have hX := below_of_regrown hS
      have q := hX.size
      obtain ⟨B, -, h3⟩ : DE (V 15) (G 15) := hd 15 (List.contains_iff_mem.1 (by kernel_rfl)) (by simp)
      have HN : Hid (s.so.n = p.ns) := HF.out.son
      refine wpOp_list 18 rfl ?_
      simp only [putAll, dstOf, List.getElem?_toArray, List.getElem?_cons_succ, List.getElem?_cons_zero, Act.put, List.setIfInBounds_toArray, List.set_cons_succ, List.set_cons_zero, h3] at hK ⊢
      go_wp2_with (at_builtin; refine wp_append_empty wk rfl (.tmp 20) (.tmp 22) 23 rfl 3 iI (.int .i64 0) 1 8 Try.underlying23 hI hI0 hI1 hI2 rfl (by decide) B rfl s.so.a s.so.n s.so.c ((List.range s.so.n).map fun j => Value.int .i64 (s.so.z j)) rfl (by simp) (rw_news (HS.out.so.below hX)) (fun u hu => by obtain ⟨x, _, rfl⟩ := List.mem_map.1 hu; rfl) (rw_none (HS.out.so.below hX)) (by rw [HN.out]; unfold maxLen; omega) (by rw [HN.out]; omega) ?_ ?_)
      · intro h0
        exact absurd h0 (by rw [HN.out]; omega)
      · intro h0 v' w1 hown hgrow
        have hB1 : Below wk.heap.size wk w1 := (Below.refl _ wk).grown hgrow (Nat.le_refl _) (by intro k hk; cases hk)
        obtain ⟨gi, ci, rfl, hge, hdi⟩ := ints_grow (A := w.heap.size) h0 hown (by omega)
        exact wpList_end (hK _ [gi] _ (regrown_of_below (hX.trans (hB1.mono hX.size))) hB1 (fun x hx => by rw [List.mem_singleton] at hx; omega) hdi)
    · intro V G wk K hS hd hA hK
      have hX := below_of_regrown hS
      refine wpOp_list 19 rfl ?_
      simp only [putAll, dstOf, List.getElem?_toArray, List.getElem?_cons_succ, List.getElem?_cons_zero, Act.put, List.setIfInBounds_toArray, List.set_cons_succ, List.set_cons_zero] at hK ⊢
      go_wp2_with fail
      exact hK _ [] _ (regrown_of_below (hX.alloc hX.size _)) ((Below.refl _ _).alloc (Nat.le_refl _) _) (fun x hx => by simp at hx) ⟨wk.heap.size, rfl, rfl⟩
    · intro V G wk K hS hd hA hK
      have hX := below_of_regrown hS
      have q := hX.size
      obtain ⟨B, -, h3⟩ : DE (V 19) (G 19) := hd 19 (List.contains_iff_mem.1 (by kernel_rfl)) (by simp)
      have HN : Hid (s.sf.n = p.ns) := HF.out.sfn
      refine wpOp_list 22 rfl ?_
      simp only [putAll, dstOf, List.getElem?_toArray, List.getElem?_cons_succ, List.getElem?_cons_zero, Act.put, List.setIfInBounds_toArray, List.set_cons_succ, List.set_cons_zero, h3] at hK ⊢
      go_wp2_with (at_builtin; refine wp_append_empty wk rfl (.tmp 24) (.tmp 26) 23 rfl 3 iI (.int .i64 0) 1 8 Try.underlying23 hI hI0 hI1 hI2 rfl (by decide) B rfl s.sf.a s.sf.n s.sf.c ((List.range s.sf.n).map fun j => Value.int .i64 (s.sf.z j)) rfl (by simp) (rw_news (HS.out.sf.below hX)) (fun u hu => by obtain ⟨x, _, rfl⟩ := List.mem_map.1 hu; rfl) (rw_none (HS.out.sf.below hX)) (by rw [HN.out]; unfold maxLen; omega) (by rw [HN.out]; omega) ?_ ?_)
      · intro h0
        exact absurd h0 (by rw [HN.out]; omega)
      · intro h0 v' w1 hown hgrow
        have hB1 : Below wk.heap.size wk w1 := (Below.refl _ wk).grown hgrow (Nat.le_refl _) (by intro k hk; cases hk)
        obtain ⟨gi, ci, rfl, hge, hdi⟩ := ints_grow (A := w.heap.size) h0 hown (by omega)
        exact wpList_end (hK _ [gi] _ (regrown_of_below (hX.trans (hB1.mono hX.size))) hB1 (fun x hx => by rw [List.mem_singleton] at hx; omega) hdi)
    · intro V G wk K hS hd hA hK
      have e2 : DOn w.heap.size s (V 2) (G 2) wk := hd 2 (List.contains_iff_mem.1 (by kernel_rfl)) (by simp)
      have e6 : DHs w.heap.size 65 s.hs (V 6) (G 6) wk := hd 6 (List.contains_iff_mem.1 (by kernel_rfl)) (by simp)
      have e10 : DHs w.heap.size 70 s.ms (V 10) (G 10) wk := hd 10 (List.contains_iff_mem.1 (by kernel_rfl)) (by simp)
      have e14 : DInts w.heap.size s.si (V 14) (G 14) wk := hd 14 (List.contains_iff_mem.1 (by kernel_rfl)) (by simp)
      have e18 : DInts w.heap.size s.so (V 18) (G 18) wk := hd 18 (List.contains_iff_mem.1 (by kernel_rfl)) (by simp)
      have e22 : DInts w.heap.size s.sf (V 22) (G 22) wk := hd 22 (List.contains_iff_mem.1 (by kernel_rfl)) (by simp)
      have HD : Hid (DAgg w.heap.size s (.agg #[V 2, .slice .none 0 0, V 6, V 10, V 14, V 18, V 22]) [] wk) := ⟨rfl, V 2, G 2, V 6, G 6, V 10, G 10, V 14, G 14, V 18, G 18, V 22, G 22, rfl, e2, e6, e10, e14, e18, e22, hA 2 (List.contains_iff_mem.1 (by kernel_rfl)) 14 (List.contains_iff_mem.1 (by kernel_rfl)) (by simp) (by simp) (by decide), hA 2 (List.contains_iff_mem.1 (by kernel_rfl)) 18 (List.contains_iff_mem.1 (by kernel_rfl)) (by simp) (by simp) (by decide), hA 2 (List.contains_iff_mem.1 (by kernel_rfl)) 22 (List.contains_iff_mem.1 (by kernel_rfl)) (by simp) (by simp) (by decide), hA 14 (List.contains_iff_mem.1 (by kernel_rfl)) 18 (List.contains_iff_mem.1 (by kernel_rfl)) (by simp) (by simp) (by decide), hA 14 (List.contains_iff_mem.1 (by kernel_rfl)) 22 (List.contains_iff_mem.1 (by kernel_rfl)) (by simp) (by simp) (by decide), hA 18 (List.contains_iff_mem.1 (by kernel_rfl)) 22 (List.contains_iff_mem.1 (by kernel_rfl)) (by simp) (by simp) (by decide)⟩
      obtain ⟨g0, c0, Gr, Cr, v2, -⟩ := e2
      obtain ⟨h', -, v6, -⟩ := e6
      obtain ⟨m', -, v10, -⟩ := e10
      obtain ⟨B1, k1, -, v14, -⟩ := e14
      obtain ⟨B2, k2, -, v18, -⟩ := e18
      obtain ⟨B3, k3, -, v22, -⟩ := e22
      have HD2 := HD.out
      rw [v2, v6, v10, v14, v18, v22] at HD2
      have HD3 : Hid (DAgg w.heap.size s (.agg #[.slice (some ⟨g0, 0, none⟩) s.on.n c0, .slice .none 0 0, .slice h'.a h'.n h'.c, .slice m'.a m'.n m'.c, .slice (some ⟨B1, 0, none⟩) s.si.n k1, .slice (some ⟨B2, 0, none⟩) s.so.n k2, .slice (some ⟨B3, 0, none⟩) s.sf.n k3]) [] wk) := HD2
      clear HD HD2 hA hd
      refine wpOp_list 23 rfl ?_
      simp only [putAll, dstOf, List.getElem?_toArray, List.getElem?_cons_succ, List.getElem?_cons_zero, Act.put, List.setIfInBounds_toArray, List.set_cons_succ, List.set_cons_zero, v2, v6, v10, v14, v18, v22] at hK ⊢
      go_wp2_with fail
      exact hK _ [] _ hS (Below.refl _ _) (fun x hx => by simp at hx) HD3.out
    · intro V G wk K hS hd hA hK
      have hX := below_of_regrown hS
      refine wpOp_list 24 rfl ?_
      simp only [putAll, dstOf, List.getElem?_toArray, List.getElem?_cons_succ, List.getElem?_cons_zero, Act.put, List.setIfInBounds_toArray, List.set_cons_succ, List.set_cons_zero] at hK ⊢
      go_wp2_with fail
      exact hK _ [wk.heap.size] _ (regrown_of_below (hX.alloc hX.size _)) ((Below.refl _ _).alloc (Nat.le_refl _) _) (fun x hx => by rw [List.mem_singleton] at hx; omega) ⟨wk.heap.size, rfl, rfl, hX.size, (Blk.mk' (cur := #[.slice .none 0 0, .slice .none 0 0, .slice .none 0 0, .slice .none 0 0, .slice .none 0 0, .slice .none 0 0, .slice .none 0 0]) rfl rfl).congr (fun j hj => by match j, hj with | 0, _ => rfl | 1, _ => rfl | 2, _ => rfl | 3, _ => rfl | 4, _ => rfl | 5, _ => rfl | 6, _ => rfl)⟩
  case zdone =>
    intro V G wk hS hD hA
    obtain ⟨-, x2, g2, x6, g6, x10, g10, x14, g14, x18, g18, x22, g22, v23, ⟨g0, c0, Gr, Cr, rfl, a1, a1', a1'', a2, a3, a4, rfl⟩, ⟨h', -, rfl, d1, d2, d3, -⟩, ⟨m', -, rfl, f1, f2, f3, f4⟩, ⟨B1, k1, rfl, rfl, i1, i2, i3, i4⟩, ⟨B2, k2, rfl, rfl, j1, j2, j3, j4⟩, ⟨B3, k3, rfl, rfl, l2, l3, l4, l5⟩, n1, n2, n3, n4, n5, n6⟩ : DAgg w.heap.size s (V 23) (G 23) wk := hD 23 (by simp)
    obtain ⟨BX, -, h24, mX, kX⟩ : BoxAt W0.heap.size (V 24) (G 24) wk := hD 24 (by simp)
    have hX := below_of_regrown hS
    have n12 : B1 ≠ B2 := fun e => n4 B1 (by simp) (by rw [e]; simp)
    have n13 : B1 ≠ B3 := fun e => n5 B1 (by simp) (by rw [e]; simp)
    have n23 : B2 ≠ B3 := fun e => n6 B2 (by simp) (by rw [e]; simp)
    have nr : ∀ i, i < s.on.n → Gr i ≠ B1 ∧ Gr i ≠ B2 ∧ Gr i ≠ B3 := fun i hi => by
      have hm : Gr i ∈ (List.range s.on.n).map Gr := List.mem_map.2 ⟨i, List.mem_range.2 hi, rfl⟩
      exact ⟨fun e => n1 _ hm (by rw [e]; simp), fun e => n2 _ hm (by rw [e]; simp), fun e => n3 _ hm (by rw [e]; simp)⟩
    have HR : Hid (OwnS w.heap.size wk ⟨⟨some ⟨g0, 0, none⟩, s.on.n, c0, fun i => ⟨some ⟨Gr i, 0, none⟩, (s.on.r i).n, Cr i, (s.on.r i).z⟩⟩, ⟨none, 0, 0, fun _ => ⟨0, ⟨none, 0, 0, fun _ => ⟨0, 0, 0, 0⟩⟩⟩⟩, h', m', ⟨some ⟨B1, 0, none⟩, s.si.n, k1, s.si.z⟩, ⟨some ⟨B2, 0, none⟩, s.so.n, k2, s.so.z⟩, ⟨some ⟨B3, 0, none⟩, s.sf.n, k3, s.sf.z⟩⟩) := by
      refine ⟨⟨g0, rfl, a1, a1', a1'', a2⟩, fun i hi => ⟨Gr i, rfl, (a3 i hi).1, (a3 i hi).2.1, (a3 i hi).2.2.1, (a3 i hi).2.2.2⟩, fun i j hij hj => ?_, ⟨Nat.le_refl _, Nat.zero_le _, fun h => absurd h (Nat.lt_irrefl _), fun i hi => absurd hi (Nat.not_lt_zero _), fun i j _ hj => absurd hj (Nat.not_lt_zero _), Or.inl rfl⟩, d3, f3, f4, ⟨B1, rfl, i1, i2, i3, i4⟩, ⟨B2, rfl, j1, j2, j3, j4⟩, ⟨B3, rfl, l2, l3, l4, l5⟩, ?_, ?_, ?_, fun i hi => ?_⟩
      · have := a4 i j hij hj
        simp only [ne_eq, Option.some.injEq, Addr.mk.injEq, and_true]
        omega
      · intro e; simp only [Option.some.injEq, Addr.mk.injEq, and_true] at e; exact n12 e
      · intro e; simp only [Option.some.injEq, Addr.mk.injEq, and_true] at e; exact n13 e
      · intro e; simp only [Option.some.injEq, Addr.mk.injEq, and_true] at e; exact n23 e
      · obtain ⟨x1, x2, x3⟩ := nr i hi
        exact ⟨fun e => by simp only [Option.some.injEq, Addr.mk.injEq, and_true] at e; exact x1 e, fun e => by simp only [Option.some.injEq, Addr.mk.injEq, and_true] at e; exact x2 e, fun e => by simp only [Option.some.injEq, Addr.mk.injEq, and_true] at e; exact x3 e⟩
    have HCT : Hid ((h'.n = s.hs.n ∧ ∀ j, j < h'.n → h'.z j = s.hs.z j) ∧ (m'.n = s.ms.n ∧ ∀ j, j < m'.n → m'.z j = s.ms.z j)) := ⟨⟨d1, fun j hj => d2 j (by rw [← d1]; exact hj)⟩, ⟨f1, fun j hj => f2 j (by rw [← f1]; exact hj)⟩⟩
    clear hD hA a1 a1' a1'' a2 a3 a4 d1 d2 d3 f1 f2 f3 f4 i1 i2 i3 i4 j1 j2 j3 j4 l2 l3 l4 l5 n1 n2 n3 n4 n5 n6 n12 n13 n23 nr hS
    have HKX : Hid (Blk wk BX 31 7 (fun _ => .slice .none 0 0)) := kX
    have xl := kX.lt
    have zf0 := kX.frozen 0
    have zc0 := kX.cell (j := 0) (by decide)
    have zf1 := kX.frozen 1
    have zc1 := kX.cell (j := 1) (by decide)
    have zf2 := kX.frozen 2
    have zc2 := kX.cell (j := 2) (by decide)
    have zf3 := kX.frozen 3
    have zc3 := kX.cell (j := 3) (by decide)
    have zf4 := kX.frozen 4
    have zc4 := kX.cell (j := 4) (by decide)
    have zf5 := kX.frozen 5
    have zc5 := kX.cell (j := 5) (by decide)
    have zf6 := kX.frozen 6
    have zc6 := kX.cell (j := 6) (by decide)
    clear kX
    simp only [putAll, dstOf, List.getElem?_toArray, List.getElem?_cons_succ, List.getElem?_cons_zero, Act.put, List.setIfInBounds_toArray, List.set_cons_succ, List.set_cons_zero, v23, h24]
    refine wpSeq_one 25 rfl ?_
    go_wp2_with fail
    have KZ := set7_blk HKX.out (.slice (some ⟨g0, 0, none⟩) s.on.n c0) (.slice .none 0 0) (.slice h'.a h'.n h'.c) (.slice m'.a m'.n m'.c) (.slice (some ⟨B1, 0, none⟩) s.si.n k1) (.slice (some ⟨B2, 0, none⟩) s.so.n k2) (.slice (some ⟨B3, 0, none⟩) s.sf.n k3)
    have hb := set7_below hX mX (.slice (some ⟨g0, 0, none⟩) s.on.n c0) (.slice .none 0 0) (.slice h'.a h'.n h'.c) (.slice m'.a m'.n m'.c) (.slice (some ⟨B1, 0, none⟩) s.si.n k1) (.slice (some ⟨B2, 0, none⟩) s.so.n k2) (.slice (some ⟨B3, 0, none⟩) s.sf.n k3)
    have HR2 := OwnS.set7 HR.out HKX.out (.slice (some ⟨g0, 0, none⟩) s.on.n c0) (.slice .none 0 0) (.slice h'.a h'.n h'.c) (.slice m'.a m'.n m'.c) (.slice (some ⟨B1, 0, none⟩) s.si.n k1) (.slice (some ⟨B2, 0, none⟩) s.so.n k2) (.slice (some ⟨B3, 0, none⟩) s.sf.n k3)
    unfold set7 at KZ hb HR2
    generalize (((((((wk.setCell { block := BX, off := 0 } (Value.slice (some { block := g0, off := 0 }) s.on.n c0)).setCell { block := BX, off := 1 } (Value.slice none 0 0)).setCell { block := BX, off := 2 } (Value.slice h'.a h'.n h'.c)).setCell { block := BX, off := 3 } (Value.slice m'.a m'.n m'.c)).setCell { block := BX, off := 4 } (Value.slice (some { block := B1, off := 0 }) s.si.n k1)).setCell { block := BX, off := 5 } (Value.slice (some { block := B2, off := 0 }) s.so.n k2)).setCell { block := BX, off := 6 } (Value.slice (some { block := B3, off := 0 }) s.sf.n k3)) = WZ at *
    clear hX zf0 zc0 zf1 zc1 zf2 zc2 zf3 zc3 zf4 zc4 zf5 zc5 zf6 zc6 xl v23 h24
    refine ⟨Late.no (regrown_of_below hb), ?_⟩
    refine NoPanic.normal ?_
    go_wp2_with fail
    have HL0 : Hid (OwnL w.heap.size W0.heap.size s ⟨⟨some ⟨g0, 0, none⟩, s.on.n, c0, fun i => ⟨some ⟨Gr i, 0, none⟩, (s.on.r i).n, Cr i, (s.on.r i).z⟩⟩, ⟨none, 0, 0, fun _ => ⟨0, ⟨none, 0, 0, fun _ => ⟨0, 0, 0, 0⟩⟩⟩⟩, h', m', ⟨some ⟨B1, 0, none⟩, s.si.n, k1, s.si.z⟩, ⟨some ⟨B2, 0, none⟩, s.so.n, k2, s.so.z⟩, ⟨some ⟨B3, 0, none⟩, s.sf.n, k3, s.sf.z⟩⟩ BX 0 WZ) := ⟨.slice .none 0 0, fun _ => ⟨0, ⟨none, 0, 0, fun _ => ⟨0, 0, 0, 0⟩⟩⟩, KZ, World.ownsRow_nil _ _ _ _, fun i hi => absurd hi (Nat.not_lt_zero _), fun i j _ hj => absurd hj (Nat.not_lt_zero _), HR2⟩
    clear KZ HR HR2 HKX
    have os4 := HF.out.os4
    have ole := HS.out.os.le
    have ocap := HS.out.os.cap
    unfold maxLen at ocap
    go_loopw [4] (fun i wk => ∃ k : Nat, k ≤ s.os.n ∧ i = .int .i64 k ∧ Hid (OwnL w.heap.size W0.heap.size s ⟨⟨some ⟨g0, 0, none⟩, s.on.n, c0, fun i => ⟨some ⟨Gr i, 0, none⟩, (s.on.r i).n, Cr i, (s.on.r i).z⟩⟩, ⟨none, 0, 0, fun _ => ⟨0, ⟨none, 0, 0, fun _ => ⟨0, 0, 0, 0⟩⟩⟩⟩, h', m', ⟨some ⟨B1, 0, none⟩, s.si.n, k1, s.si.z⟩, ⟨some ⟨B2, 0, none⟩, s.so.n, k2, s.so.z⟩, ⟨some ⟨B3, 0, none⟩, s.sf.n, k3, s.sf.z⟩⟩ BX k wk) ∧ Below W0.heap.size W0 wk) (fun i _ => s.os.n - (intOf i).toNat)
    case atStart => exact ⟨0, Nat.zero_le _, rfl, HL0, hb⟩
    case round =>
      clear HL0 hb
      obtain ⟨k, hk, rfl, HL, hB⟩ := hrel
      obtain ⟨⟨lb, b0, b1, b2, b3, b4, b5, b6⟩, hz, hsk, hBw⟩ := HC.out wr hB
      by_cases hlt : k < s.os.n
      · obtain ⟨v, Ls, kX, ho, hln, hap, hOS⟩ := HL.out
        obtain ⟨bo, oo, hoa, hbo, y0, y1, hlk⟩ := hsk.os.ods k hlt
        have l3 := HF.out.lns k hlt
        have HG : Hid (wr.ownsRow W0.heap.size 51 2 v k (flatO k Ls) ∧ (∀ i, i < k → LineOK w.heap.size s Ls i wr) ∧ (∀ i j, i < j → j < k → (Ls i).ls.a ≠ (Ls j).ls.a) ∧ OwnS w.heap.size wr ⟨⟨some ⟨g0, 0, none⟩, s.on.n, c0, fun i => ⟨some ⟨Gr i, 0, none⟩, (s.on.r i).n, Cr i, (s.on.r i).z⟩⟩, ⟨none, 0, 0, fun _ => ⟨0, ⟨none, 0, 0, fun _ => ⟨0, 0, 0, 0⟩⟩⟩⟩, h', m', ⟨some ⟨B1, 0, none⟩, s.si.n, k1, s.si.z⟩, ⟨some ⟨B2, 0, none⟩, s.so.n, k2, s.so.z⟩, ⟨some ⟨B3, 0, none⟩, s.sf.n, k3, s.sf.z⟩⟩) := ⟨ho, hln, hap, hOS⟩
        have HX : Hid (Blk wr BX 31 7 (fun j => (#[.slice (some ⟨g0, 0, none⟩) s.on.n c0, v, .slice h'.a h'.n h'.c, .slice m'.a m'.n m'.c, .slice (some ⟨B1, 0, none⟩) s.si.n k1, .slice (some ⟨B2, 0, none⟩) s.so.n k2, .slice (some ⟨B3, 0, none⟩) s.sf.n k3] : Array Value).getD j default)) := kX
        have HLK : Hid ((s.os.z k).ls.At wr) := hlk
        have qk : (0 : Int) ≤ (k : Int) := by omega
        rw [hoa] at b1
        have r0 : ∀ d os, (grow (redrawn wr d) os).cell? ⟨BX, 1, none⟩ = some v := fun d os => cell_regrown (kX.cell (j := 1) (by decide)) d os
        have r1 : ∀ d os, (grow (redrawn wr d) os).cell? ⟨w.heap.size, 1, none⟩ = some (.slice (some ⟨bo, oo, none⟩) s.os.n s.os.c) := fun d os => cell_regrown b1 d os
        have r2 : ∀ d os, (grow (redrawn wr d) os).cell? ⟨bo, oo + k * 2, none⟩ = some (.int .i64 (s.os.z k).k) := fun d os => cell_regrown y0 d os
        have r3 : ∀ d os, (grow (redrawn wr d) os).cell? ⟨bo, oo + k * 2 + 1, none⟩ = some (.slice (s.os.z k).ls.a (s.os.z k).ls.n (s.os.z k).ls.c) := fun d os => cell_regrown y1 d os
        clear kX ho hln hap hOS hz hoa y0 y1 hlk b0 b2 b3 b4 b5 b6 hsk HL
        go_wp2_with fail
        refine wp_region_made6 (fun w' => ∃ p : Regrown, w' = grow (redrawn wr p.d) p.os) [0, 1, 2, 3, 4, 5, 6, 7, 9, 10, 11, 12, 13, 14] [8, 15, 16, 17] [(true, 18), (true, 19), (true, 20)] (by kernel_rfl) (by kernel_rfl) (by kernel_rfl) (by kernel_rfl) (by kernel_rfl) (by kernel_rfl) (by kernel_rfl) (by kernel_rfl) (by kernel_rfl) (regrown_of_below ((Below.refl _ _).drew)) ?_
        simp only [picks, List.drop_succ_cons, List.drop_zero, List.take_succ_cons, List.take_zero, List.cons_append, List.nil_append]
        repeat (go_big_quiet_step (fail))
        refine wpQuiet_nil ?_
        clear r0 r1 r2 r3
        refine ⟨fun j v g wk => match j with | 15 => DHs wr.heap.size 53 (s.os.z k).ls v g wk | 16 => D16 wr.heap.size (s.os.z k) v g wk | 17 => D17 wr.heap.size (s.os.z k) v g wk | _ => DE v g,
          List.forall_mem_cons.2 ⟨fun v g w w' _ h => h, List.forall_mem_cons.2 ⟨fun v g w w' hB h => DHs.below h hB, List.forall_mem_cons.2 ⟨fun v g w w' hB h => D16.below h hB, List.forall_mem_cons.2 ⟨fun v g w w' hB h => D17.below h hB, List.forall_mem_nil _⟩⟩⟩⟩,
          List.forall_mem_cons.2 ⟨fun v g w h => by obtain ⟨_, h1, _⟩ := h; rw [h1]; intro x hx; simp at hx, List.forall_mem_cons.2 ⟨fun v g w h => by obtain ⟨_, h1, _⟩ := h; rw [h1]; intro x hx; simp at hx, List.forall_mem_cons.2 ⟨fun v g w h => by obtain ⟨_, h1, _⟩ := h; rw [h1]; intro x hx; simp at hx, List.forall_mem_cons.2 ⟨fun v g w h => by obtain ⟨_, _, h1, _⟩ := h; rw [h1]; intro x hx; simp at hx, List.forall_mem_nil _⟩⟩⟩⟩,
          List.forall_mem_cons.2 ⟨?zt8, List.forall_mem_cons.2 ⟨?zt15, List.forall_mem_cons.2 ⟨?zt16, List.forall_mem_cons.2 ⟨?zt17, List.forall_mem_nil _⟩⟩⟩⟩, ?ztdone⟩
        case zt8 =>
          intro V G wk K hS hd hA hK
          have hX := below_of_regrown hS
          refine wpOp_list 8 rfl ?_
          simp only [putAll, dstOf, List.getElem?_toArray, List.getElem?_cons_succ, List.getElem?_cons_zero, Act.put, List.setIfInBounds_toArray, List.set_cons_succ, List.set_cons_zero] at hK ⊢
          go_wp2_with fail
          exact hK _ [] _ (regrown_of_below (hX.alloc hX.size _)) ((Below.refl _ _).alloc (Nat.le_refl _) _) (fun x hx => by simp at hx) ⟨wk.heap.size, rfl, rfl⟩
        case zt15 =>
          intro V G wk K hS hd hA hK
          have hX := below_of_regrown hS
          have q := hX.size
          obtain ⟨B, -, h3⟩ : DE (V 8) (G 8) := hd 8 (List.contains_iff_mem.1 (by kernel_rfl)) (by simp)
          refine wpOp_list 15 rfl ?_
          simp only [putAll, dstOf, List.getElem?_toArray, List.getElem?_cons_succ, List.getElem?_cons_zero, Act.put, List.setIfInBounds_toArray, List.set_cons_succ, List.set_cons_zero, h3] at hK ⊢
          go_wp2_with (at_builtin; refine wp_append_empty wk rfl (.tmp 44) (.tmp 50) 49 rfl 53 iL (.agg #[.int .i64 0, .int .i64 0, .int .i64 0, .int .i64 0]) 4 32 Try.underlying49 hL hL0 hL1 hL2 rfl (by decide) B rfl (s.os.z k).ls.a (s.os.z k).ls.n (s.os.z k).ls.c (flatH (s.os.z k).ls.n (s.os.z k).ls.z) rfl (by rw [flatH_len]) (hs_news (HLK.out.below hX)) (flatH_one _ _) (hs_none (HLK.out.below hX)) (by unfold maxLen; omega) (by omega) ?_ ?_)
          · intro h0
            exact absurd h0 (by omega)
          · intro h0 v' w1 hown hgrow
            have hB1 : Below wk.heap.size wk w1 := (Below.refl _ wk).grown hgrow (Nat.le_refl _) (by intro k hk; cases hk)
            obtain ⟨s', rfl, hc⟩ := cloned_grow (A := wr.heap.size) h0 hown (by omega)
            exact wpList_end (hK _ [] _ (regrown_of_below (hX.trans (hB1.mono hX.size))) hB1 (fun x hx => by simp at hx) ⟨s', rfl, rfl, hc⟩)
        case zt16 =>
          intro V G wk K hS hd hA hK
          obtain ⟨s', -, h15, hc⟩ : DHs wr.heap.size 53 (s.os.z k).ls (V 15) (G 15) wk := hd 15 (List.contains_iff_mem.1 (by kernel_rfl)) (by simp)
          have HCL : Hid (Cloned wr.heap.size 53 (s.os.z k).ls wk s') := hc
          clear hc
          refine wpOp_list 16 rfl ?_
          simp only [putAll, dstOf, List.getElem?_toArray, List.getElem?_cons_succ, List.getElem?_cons_zero, Act.put, List.setIfInBounds_toArray, List.set_cons_succ, List.set_cons_zero, h15] at hK ⊢
          go_wp2_with fail
          exact hK _ [] _ hS (Below.refl _ _) (fun x hx => by simp at hx) ⟨s', rfl, rfl, HCL.out⟩
        case zt17 =>
          intro V G wk K hS hd hA hK
          have hX := below_of_regrown hS
          obtain ⟨s', -, h16, hc⟩ : D16 wr.heap.size (s.os.z k) (V 16) (G 16) wk := hd 16 (List.contains_iff_mem.1 (by kernel_rfl)) (by simp)
          have HCL : Hid (Cloned wr.heap.size 53 (s.os.z k).ls wk s') := hc
          clear hc
          refine wpOp_list 17 rfl ?_
          simp only [putAll, dstOf, List.getElem?_toArray, List.getElem?_cons_succ, List.getElem?_cons_zero, Act.put, List.setIfInBounds_toArray, List.set_cons_succ, List.set_cons_zero, h16] at hK ⊢
          go_wp2_with fail
          have hBa := (Below.refl wk.heap.size wk).alloc (Nat.le_refl _) (.cells #[.int .i64 (s.os.z k).k, .slice s'.a s'.n s'.c] 51)
          exact hK _ [] _ (regrown_of_below (hX.alloc hX.size _)) ((Below.refl _ _).alloc (Nat.le_refl _) _) (fun x hx => by simp at hx) ⟨wk.heap.size, s', rfl, rfl, hX.size, Blk.mk' rfl rfl, HCL.out.1, HCL.out.2.1, HCL.out.2.2.1.below hBa, HCL.out.2.2.2.below hBa⟩
        case ztdone =>
          intro V G' wk hS hD hA
          obtain ⟨BO, s', -, h17, m17, k17, e1, e2, ⟨o1, o2, o3, o4⟩, -⟩ : D17 wr.heap.size (s.os.z k) (V 17) (G' 17) wk := hD 17 (by simp)
          have hX := below_of_regrown hS
          have ho := owns_below HG.out.1 hX
          have hBk := hB.trans (hX.mono hB.size)
          have q0 := hB.size
          have q1 := hX.size
          obtain ⟨gB, ea, hgB, kB⟩ := o4 (by omega)
          clear hS hD hA
          have HE : Hid (s'.n = (s.os.z k).ls.n ∧ (∀ j, j < (s.os.z k).ls.n → s'.z j = (s.os.z k).ls.z j) ∧ s'.a = some ⟨gB, 0, none⟩ ∧ s'.n ≤ s'.c ∧ s'.c ≤ maxLen) := ⟨e1, e2, ea, o1, o2⟩
          have HKB : Hid (Blk wk gB 53 (s'.n * 4) (fun j => (flatH s'.n s'.z).getD j default)) := kB
          clear e1 e2 ea o1 o2 o3 o4 kB
          simp only [putAll, dstOf, List.getElem?_toArray, List.getElem?_cons_succ, List.getElem?_cons_zero, Act.put, List.setIfInBounds_toArray, List.set_cons_succ, List.set_cons_zero, h17]
          refine wpSeq_one 18 rfl ?_
          go_wp2_with (at_builtin; refine wpList_append_own _ rfl (.tmp 37) (.tmp 53) 27 rfl W0.heap.size 51 iO (.agg #[.int .i64 0, .slice none 0 0]) 2 32 Try.underlying27 hO hO0 hO1 hO2 rfl (by decide) _ _ _ rfl ho ⟨BO, 0, none⟩ 1 1 [.int .i64 (s.os.z k).k, .slice s'.a s'.n s'.c] rfl rfl ?zc1 ?zc2 ?zc3 ?zc4 ?zc5 ?_)
          case zc1 =>
            intro j u hj
            match j, hj with
            | 0, hj => simp at hj; subst hj; exact k17.cell (j := 0) (by decide)
            | 1, hj => simp at hj; subst hj; exact k17.cell (j := 1) (by decide)
          case zc2 => intro u hu; simp at hu; rcases hu with rfl | rfl <;> rfl
          case zc3 => unfold maxLen; omega
          case zc4 => omega
          case zc5 => omega
          intro v2 w2 hown2 hgrow2 hnil2
          have hlt2 := ho.lt
          have hBW2 : Below W0.heap.size W0 w2 := hBk.grown hgrow2 (by omega) (fun q hq => (hlt2 q hq).1)
          have kX2 := grown_keep ho hgrow2 (HX.out.below hX) (by decide)
          have kB2 := grown_keep ho hgrow2 HKB.out (by decide)
          have hln2 : ∀ i, i < k → LineOK w.heap.size s Ls i w2 := fun i hi => by
            obtain ⟨x1, x2, x3, B, x4, x5, x6, x7, x8⟩ := HG.out.2.1 i hi
            exact ⟨x1, x2, x3, B, x4, x5, x6, x7, grown_keep ho hgrow2 (x8.below hX) (by decide)⟩
          have hap2 : ∀ i, i < k → (Ls i).ls.a ≠ some ⟨gB, 0, none⟩ := fun i hi e => by
            obtain ⟨x1, x2, x3, B, x4, x5, x6, x7, x8⟩ := HG.out.2.1 i hi
            rw [x4] at e
            simp only [Option.some.injEq, Addr.mk.injEq, and_true] at e
            have := x8.lt
            omega
          have hOS2 := OwnS.grownO (HG.out.2.2.2.below hX) rfl rfl ho hgrow2
          have hv2 : ∃ g c, v2 = .slice (some ⟨g, 0, none⟩) (k + 1) c := by
            rcases hown2.2 with ⟨_, h0⟩ | ⟨g2, cap2, cur2, rfl, _⟩
            · omega
            · exact ⟨g2, cap2, rfl⟩
          have xl := kX2.lt
          have zf0 := kX2.frozen 1
          have zc0 := kX2.cell (j := 1) (by decide)
          have hst := hBW2.setCell (p := ⟨BX, 1, none⟩) mX v2
          have KB := kX2.set 1 v2
          have HN : Hid (OwnL w.heap.size W0.heap.size s ⟨⟨some ⟨g0, 0, none⟩, s.on.n, c0, fun i => ⟨some ⟨Gr i, 0, none⟩, (s.on.r i).n, Cr i, (s.on.r i).z⟩⟩, ⟨none, 0, 0, fun _ => ⟨0, ⟨none, 0, 0, fun _ => ⟨0, 0, 0, 0⟩⟩⟩⟩, h', m', ⟨some ⟨B1, 0, none⟩, s.si.n, k1, s.si.z⟩, ⟨some ⟨B2, 0, none⟩, s.so.n, k2, s.so.z⟩, ⟨some ⟨B3, 0, none⟩, s.sf.n, k3, s.sf.z⟩⟩ BX (k + 1) (w2.setCell ⟨BX, 1, none⟩ v2)) := by
            refine ⟨v2, fun i => if i = k then ⟨(s.os.z k).k, s'⟩ else Ls i, KB.congr (fun j hj => by match j, hj with | 0, _ => rfl | 1, _ => rfl | 2, _ => rfl | 3, _ => rfl | 4, _ => rfl | 5, _ => rfl | 6, _ => rfl), ?_, fun i hi => ?_, fun i j hij hj => ?_, hOS2.box kX2 1 v2⟩
            · have e : flatO (k + 1) (fun i => if i = k then ⟨(s.os.z k).k, s'⟩ else Ls i) = flatO k Ls ++ [.int .i64 (s.os.z k).k, .slice s'.a s'.n s'.c] := by
                rw [flatO, flatO_congr (z' := Ls) fun i hi => by rw [if_neg (by omega)], if_pos rfl]
                rfl
              rw [e]
              exact owns_set hown2 kX2 (by decide) _ _
            · by_cases hik : i = k
              · subst hik
                unfold LineOK
                dsimp only
                rw [if_pos rfl]
                exact ⟨rfl, HE.out.1, HE.out.2.1, gB, HE.out.2.2.1, by omega, HE.out.2.2.2.1, HE.out.2.2.2.2, kB2.other (a := ⟨BX, 1, none⟩) (Blk.ne kB2 kX2 (by decide)) _⟩
              · unfold LineOK
                dsimp only
                rw [if_neg hik]
                obtain ⟨x1, x2, x3, B, x4, x5, x6, x7, x8⟩ := hln2 i (by omega)
                exact ⟨x1, x2, x3, B, x4, x5, x6, x7, x8.other (a := ⟨BX, 1, none⟩) (Blk.ne x8 kX2 (by decide)) _⟩
            · dsimp only
              by_cases hjk : j = k
              · subst hjk
                rw [if_neg (by omega), if_pos rfl, HE.out.2.2.1]
                exact hap2 i hij
              · rw [if_neg (by omega), if_neg hjk]
                exact HG.out.2.2.1 i j hij (by omega)
          clear kB2 hln2 hap2 hOS2 KB hown2 kX2 ho hgrow2 hnil2 hlt2 k17 hX HG HX hBk HKB HE
          obtain ⟨g2, c2, rfl⟩ := hv2
          refine wpList_end ⟨Late.yes, ?_⟩
          refine wpSeq_one 19 rfl ?_
          go_wp2_with fail
          refine ⟨Late.yes, ?_⟩
          refine wpSeq_one 20 rfl ?_
          go_wp2_with fail
          refine ⟨Late.yes, ?_⟩
          refine NoPanic.normal ?_
          go_wp2_with fail
          go_roundw
          case rel => exact ⟨k + 1, by omega, by go_num, HN, hst⟩
          case measure => simp [intOf]; omega
      · have hkn : k = s.os.n := by omega
        subst hkn
        obtain ⟨v, Ls, kX, ho, hln, hap, hOS⟩ := HL.out
        have hv : ∃ va vc, v = .slice va s.os.n vc ∧ s.os.n ≤ vc ∧ vc ≤ maxLen ∧ (0 < s.os.n → ∃ g, va = some ⟨g, 0, none⟩ ∧ w.heap.size ≤ g ∧ Blk wr g 51 (s.os.n * 2) (fun j => (flatO s.os.n Ls).getD j default)) := by
          by_cases hv0 : v = .slice none 0 0
          · have h0 : s.os.n = 0 := by
              rcases ho.2 with ⟨_, h0⟩ | ⟨g2, cap2, cur2, h, _⟩
              · exact h0
              · rw [hv0] at h; cases h
            exact ⟨none, 0, by rw [hv0, h0], by omega, Nat.zero_le _, fun h => by omega⟩
          · obtain ⟨g, c, rfl, h1, h2, h3, h4⟩ := Blk.ofOwns ho hv0
            exact ⟨some ⟨g, 0, none⟩, c, rfl, h1, h2, fun _ => ⟨g, rfl, by omega, h4⟩⟩
        obtain ⟨va, vc, rfl, v1, v2, v3⟩ := hv
        have v4 : Room w.heap.size wr 51 2 va vc := Room.ofOwns ho (by omega)
        have HR : Hid (OwnS w.heap.size wr ⟨⟨some ⟨g0, 0, none⟩, s.on.n, c0, fun i => ⟨some ⟨Gr i, 0, none⟩, (s.on.r i).n, Cr i, (s.on.r i).z⟩⟩, ⟨va, s.os.n, vc, Ls⟩, h', m', ⟨some ⟨B1, 0, none⟩, s.si.n, k1, s.si.z⟩, ⟨some ⟨B2, 0, none⟩, s.so.n, k2, s.so.z⟩, ⟨some ⟨B3, 0, none⟩, s.sf.n, k3, s.sf.z⟩⟩) :=
          ⟨hOS.on, hOS.rows, hOS.rapart, ⟨v1, v2, v3, fun i hi => (hln i hi).2.2.2, hap, v4⟩, hOS.hs, hOS.ms, hOS.msr, hOS.si, hOS.so, hOS.sf, hOS.aio, hOS.aif, hOS.aof, hOS.ari⟩
        have HCC : Hid (SameT ⟨⟨some ⟨g0, 0, none⟩, s.on.n, c0, fun i => ⟨some ⟨Gr i, 0, none⟩, (s.on.r i).n, Cr i, (s.on.r i).z⟩⟩, ⟨va, s.os.n, vc, Ls⟩, h', m', ⟨some ⟨B1, 0, none⟩, s.si.n, k1, s.si.z⟩, ⟨some ⟨B2, 0, none⟩, s.so.n, k2, s.so.z⟩, ⟨some ⟨B3, 0, none⟩, s.sf.n, k3, s.sf.z⟩⟩ s) :=
          ⟨⟨rfl, fun i hi => ⟨rfl, fun j hj => rfl⟩⟩, ⟨rfl, fun i hi => ⟨(hln i hi).1, (hln i hi).2.1, fun j hj => (hln i hi).2.2.1 j (by rw [← (hln i hi).2.1]; exact hj)⟩⟩, HCT.out.1, HCT.out.2, ⟨rfl, fun j hj => rfl⟩, ⟨rfl, fun j hj => rfl⟩, ⟨rfl, fun j hj => rfl⟩⟩
        have xl := kX.lt
        obtain ⟨x0, x1, x2, x3, x4, x5, x6⟩ := box_cells kX
        have HZ2 : Hid (Blk wr (w.heap.size + 1) 31 7 (fun _ => .slice .none 0 0)) := hz
        have zl := hz.lt
        have zf0 := hz.frozen 0
        have zc0 := hz.cell (j := 0) (by decide)
        have zf1 := hz.frozen 1
        have zc1 := hz.cell (j := 1) (by decide)
        have zf2 := hz.frozen 2
        have zc2 := hz.cell (j := 2) (by decide)
        have zf3 := hz.frozen 3
        have zc3 := hz.cell (j := 3) (by decide)
        have zf4 := hz.frozen 4
        have zc4 := hz.cell (j := 4) (by decide)
        have zf5 := hz.frozen 5
        have zc5 := hz.cell (j := 5) (by decide)
        have zf6 := hz.frozen 6
        have zc6 := hz.cell (j := 6) (by decide)
        clear hz kX ho hln hap hOS v1 v2 v3 v4 HL hsk b0 b2 b3 b4 b5 b6
        go_wp2_with fail
        have KZ := set7_blk HZ2.out (.slice (some ⟨g0, 0, none⟩) s.on.n c0) (.slice va s.os.n vc) (.slice h'.a h'.n h'.c) (.slice m'.a m'.n m'.c) (.slice (some ⟨B1, 0, none⟩) s.si.n k1) (.slice (some ⟨B2, 0, none⟩) s.so.n k2) (.slice (some ⟨B3, 0, none⟩) s.sf.n k3)
        have hbz := set7_below (b := w.heap.size + 1) hBw (by omega) (.slice (some ⟨g0, 0, none⟩) s.on.n c0) (.slice va s.os.n vc) (.slice h'.a h'.n h'.c) (.slice m'.a m'.n m'.c) (.slice (some ⟨B1, 0, none⟩) s.si.n k1) (.slice (some ⟨B2, 0, none⟩) s.so.n k2) (.slice (some ⟨B3, 0, none⟩) s.sf.n k3)
        have HR2 := OwnS.set7 HR.out HZ2.out (.slice (some ⟨g0, 0, none⟩) s.on.n c0) (.slice va s.os.n vc) (.slice h'.a h'.n h'.c) (.slice m'.a m'.n m'.c) (.slice (some ⟨B1, 0, none⟩) s.si.n k1) (.slice (some ⟨B2, 0, none⟩) s.so.n k2) (.slice (some ⟨B3, 0, none⟩) s.sf.n k3)
        unfold set7 at KZ hbz HR2
        generalize (((((((wr.setCell { block := w.heap.size + 1, off := 0 } (Value.slice (some { block := g0, off := 0 }) s.on.n c0)).setCell { block := w.heap.size + 1, off := 1 } (Value.slice va s.os.n vc)).setCell { block := w.heap.size + 1, off := 2 } (Value.slice h'.a h'.n h'.c)).setCell { block := w.heap.size + 1, off := 3 } (Value.slice m'.a m'.n m'.c)).setCell { block := w.heap.size + 1, off := 4 } (Value.slice (some { block := B1, off := 0 }) s.si.n k1)).setCell { block := w.heap.size + 1, off := 5 } (Value.slice (some { block := B2, off := 0 }) s.so.n k2)).setCell { block := w.heap.size + 1, off := 6 } (Value.slice (some { block := B3, off := 0 }) s.sf.n k3)) = WY at *
        obtain ⟨c0', c1', c2', c3', c4', c5', c6'⟩ := box_cells KZ
        have HQ : Hid (OwnS w.heap.size WY ⟨⟨some ⟨g0, 0, none⟩, s.on.n, c0, fun i => ⟨some ⟨Gr i, 0, none⟩, (s.on.r i).n, Cr i, (s.on.r i).z⟩⟩, ⟨va, s.os.n, vc, Ls⟩, h', m', ⟨some ⟨B1, 0, none⟩, s.si.n, k1, s.si.z⟩, ⟨some ⟨B2, 0, none⟩, s.so.n, k2, s.so.z⟩, ⟨some ⟨B3, 0, none⟩, s.sf.n, k3, s.sf.z⟩⟩) := HR2
        refine bodyPost_ret (v := (⟨⟨some ⟨g0, 0, none⟩, s.on.n, c0, fun i => ⟨some ⟨Gr i, 0, none⟩, (s.on.r i).n, Cr i, (s.on.r i).z⟩⟩, ⟨va, s.os.n, vc, Ls⟩, h', m', ⟨some ⟨B1, 0, none⟩, s.si.n, k1, s.si.z⟩, ⟨some ⟨B2, 0, none⟩, s.so.n, k2, s.so.z⟩, ⟨some ⟨B3, 0, none⟩, s.sf.n, k3, s.sf.z⟩⟩ : St).val) (by simp [results, Try.results51, go_sem, St.val, c0', c1', c2', c3', c4', c5', c6']) rfl ?_
        exact ⟨_, rfl, HCC.out, HQ.out, hbz⟩
end Go.Proofs.Ytbcacebifpagpac
namespace Go.Proofs.Ytbcacebifpagpac
open Go.RowKit Go.Shelf Go.Sort
set_option linter.unusedVariables false
def formedB (p : Pl) (s : St) : Bool := !(badOrdersB p s || badHoldsB p s || badMovesB p s || badSumsB p s)
theorem fB_order {p : Pl} {s : St} {i : Nat} (hi : i < s.os.n) (h : badOrder p (s.os.z i) = true) : formedB p s = false := by
  have : badOrdersB p s = true := anyB_yes hi h
  simp [formedB, this]
theorem fB_check {p : Pl} {s : St} (h : ¬ checkH s.hs.n s.hs.z = 0) : formedB p s = false := by
  have : badHoldsB p s = true := by simp [badHoldsB, h]
  simp [formedB, this]
theorem fB_home {p : Pl} {s : St} {i : Nat} (hi : i < s.hs.n) (h : homeless p s (s.hs.z i) = true) : formedB p s = false := by
  have : badHoldsB p s = true := by unfold badHoldsB; rw [anyB_yes hi h, Bool.or_true]
  simp [formedB, this]
theorem fB_move {p : Pl} {s : St} {i : Nat} (hi : i < s.ms.n) (h : badMove p (s.ms.z i) = true) : formedB p s = false := by
  have : badMovesB p s = true := anyB_yes hi h
  simp [formedB, this]
theorem fB_len1 {p : Pl} {s : St} (h : ¬ s.si.n = p.ns) : formedB p s = false := by
  have : badSumsB p s = true := by
    have h1 : ((s.si.n : Int) != (p.ns : Int)) = true := by simp; omega
    simp [badSumsB, badSum, h1]
  simp [formedB, this]
theorem fB_len2 {p : Pl} {s : St} (h : ¬ s.so.n = p.ns) : formedB p s = false := by
  have : badSumsB p s = true := by
    have h1 : ((s.so.n : Int) != (p.ns : Int)) = true := by simp; omega
    simp [badSumsB, badSum, h1]
  simp [formedB, this]
theorem fB_len3 {p : Pl} {s : St} (h : ¬ s.sf.n = p.ns) : formedB p s = false := by
  have : badSumsB p s = true := by
    have h1 : ((s.sf.n : Int) != (p.ns : Int)) = true := by simp; omega
    simp [badSumsB, badSum, h1]
  simp [formedB, this]
theorem badSum_yes {p : Pl} {l : Rw} {low : Int} {g : Nat} (hn : l.n = p.ns) (hg : g < p.ns) (h : inB (l.z g) low 1048576 = false) : badSum p l low = true := by
  unfold badSum
  rw [anyB_yes (k := g) (by omega) (by rw [h]; rfl), Bool.or_true]
theorem badSum_mk {p : Pl} {l : Rw} {low : Int} (hn : l.n = p.ns) (h : ∀ g, g < p.ns → inB (l.z g) low 1048576 = true) : badSum p l low = false := by
  unfold badSum
  rw [anyB_no fun j hj => by rw [h j (by omega)]; rfl, hn]
  simp
theorem fB_sum {p : Pl} {s : St} (h : badSum p s.si 0 = true ∨ badSum p s.so 0 = true ∨ badSum p s.sf (-1048576) = true) : formedB p s = false := by
  have : badSumsB p s = true := by
    unfold badSumsB
    rcases h with h | h | h <;> rw [h] <;> simp
  simp [formedB, this]
def sumOK (s : St) (g : Nat) : Bool := inB (s.si.z g) 0 1048576 && inB (s.so.z g) 0 1048576 && inB (s.sf.z g) (-1048576) 1048576
theorem fB_yes {p : Pl} {s : St} (h1 : ∀ i, i < s.os.n → badOrder p (s.os.z i) = false) (h2 : checkH s.hs.n s.hs.z = 0) (h3 : ∀ i, i < s.hs.n → homeless p s (s.hs.z i) = false) (h4 : ∀ i, i < s.ms.n → badMove p (s.ms.z i) = false)
    (h5 : s.si.n = p.ns ∧ s.so.n = p.ns ∧ s.sf.n = p.ns) (h6 : ∀ g, g < p.ns → sumOK s g = true) : formedB p s = true := by
  have e1 : badOrdersB p s = false := anyB_no h1
  have e2 : badHoldsB p s = false := by unfold badHoldsB; rw [h2, anyB_no h3]; rfl
  have e3 : badMovesB p s = false := anyB_no h4
  have e4 : badSumsB p s = false := by
    have h : ∀ g, g < p.ns → (inB (s.si.z g) 0 1048576 = true ∧ inB (s.so.z g) 0 1048576 = true) ∧ inB (s.sf.z g) (-1048576) 1048576 = true := fun g hg => by
      have := h6 g hg
      simpa [sumOK] using this
    unfold badSumsB
    rw [badSum_mk h5.1 fun g hg => (h g hg).1.1, badSum_mk h5.2.1 fun g hg => (h g hg).1.2, badSum_mk h5.2.2 fun g hg => (h g hg).2]
    rfl
  unfold formedB
  rw [e1, e2, e3, e4]
  rfl
theorem checkH_zero' {n : Nat} {z : Nat → Hd} (h : checkH n z = 0) : anyB n (badH z) = false := by
  cases h' : anyB n (badH z)
  · rfl
  · simp [checkH, h'] at h
theorem all_succ {k : Nat} {f : Nat → Bool} {b : Bool} (h : ∀ j, j < k → f j = b) (hk : f k = b) : ∀ j, j < k + 1 → f j = b := fun j hj => by
  by_cases hjk : j = k
  · rw [hjk]; exact hk
  · exact h j (by omega)
set_option maxRecDepth 100000 in
set_option maxHeartbeats 8000000 in
theorem formed_any (p : Pl) (s : St) (w : World) (hp : p.At w) (hs : s.At w) (h0 : shelfE p s.on = 0) (h1 : tooManyB s = false) :
    Calls Try.prog 98 #[p.val, s.val] w fun e w' => e = .returned (.bool (formedB p s)) ∧ Below w.heap.size w w' := by
  obtain ⟨W0, hW, hWB, X0⟩ : ∃ W, ((w.alloc (.cells #[.slice p.ab p.nb p.cb, .slice p.sa p.ns p.cs] 25)).alloc (.cells s.cells 31)) = W ∧ Below w.heap.size w W ∧ Boxes W w.heap.size (w.heap.size + 1) p s := ⟨_, rfl, two_below _ _ _, boxes_new w p s _ _⟩
  have HC : Hid (∀ wk, Below W0.heap.size W0 wk → Boxes wk w.heap.size (w.heap.size + 1) p s ∧ p.At wk ∧ s.At wk ∧ Below w.heap.size w wk) := fun wk h => ⟨X0.below h, (hp.below hWB).below h, (hs.below hWB).below h, hWB.trans (h.mono hWB.size)⟩
  have HW : Hid ((w.alloc (.cells #[.slice p.ab p.nb p.cb, .slice p.sa p.ns p.cs] 25)).alloc (.cells #[.slice s.on.a s.on.n s.on.c, .slice s.os.a s.os.n s.os.c, .slice s.hs.a s.hs.n s.hs.c, .slice s.ms.a s.ms.n s.ms.c, .slice s.si.a s.si.n s.si.c, .slice s.so.a s.so.n s.so.c, .slice s.sf.a s.sf.n s.sf.c] 31) = W0) := hW
  have HT : Hid (s.os.n ≤ 4 ∧ s.ms.n ≤ 8 ∧ (∀ i, i < s.os.n → 1 ≤ (s.os.z i).ls.n ∧ (s.os.z i).ls.n ≤ 3)) := by
    unfold tooManyB at h1
    simp only [Bool.or_eq_false_iff, decide_eq_false_iff_not] at h1
    refine ⟨by omega, by omega, fun i hi => ?_⟩
    have := anyB_false h1.2 i hi
    simp only [fewLines, Bool.not_eq_false'] at this
    have := inB_true this
    omega
  have leb := hp.leb
  have capb0 := hp.capb
  have les := hp.les
  have caps0 := hp.caps
  have os4 := HT.out.1
  have ms8 := HT.out.2.1
  clear hW X0 h0 h1 hp hs
  unfold Pl.val St.val
  go_enter Try.func98, Try.ntmps98
  go_wp2_with fail
  rw [HW.out]
  go_loopw [5] (fun i wk => ∃ k : Nat, k ≤ s.os.n ∧ i = .int .i64 k ∧ (∀ j, j < k → badOrder p (s.os.z j) = false) ∧ Below W0.heap.size W0 wk) (fun i _ => s.os.n - (intOf i).toNat)
  case atStart => exact ⟨0, Nat.zero_le _, rfl, fun j hj => absurd hj (Nat.not_lt_zero _), Below.refl _ _⟩
  case round =>
    obtain ⟨i, hi, rfl, hno, hB⟩ := hrel
    have HN : Hid (∀ j, j < i → badOrder p (s.os.z j) = false) := hno
    clear hno
    obtain ⟨X, hpk, hsk, hBw⟩ := HC.out wr hB
    obtain ⟨⟨l1, d0, d1⟩, l2, c0, c1, c2, c3, c4, c5, c6⟩ := X
    by_cases hlt : i < s.os.n
    · obtain ⟨b, o, hoa, hb, z0, z1, hl⟩ := hsk.os.ods i hlt
      have q1 : (0 : Int) ≤ (i : Int) := by omega
      have hl3 := (HT.out.2.2 i hlt)
      have lle := hl.le
      have lcap := hl.cap
      unfold maxLen at lcap
      have HO : Hid (s.os.a = some ⟨b, o, none⟩) := hoa
      have HE : Hid (badOrder p (s.os.z i) = (!inB (s.os.z i).k 0 2 || anyB (s.os.z i).ls.n (fun j => badLine p ((s.os.z i).ls.z j)))) := rfl
      rw [hoa] at c1
      clear hoa hl hsk c0 c2 c3 c4 c5 c6 hpk
      cases hk : inB (s.os.z i).k 0 2
      · have HX : Hid (formedB p s = false) := fB_order hlt (by rw [HE.out, hk]; rfl)
        generalize (s.os.z i).k = KD at *
        go_wp2_with (go_at_call 48; refine calls_to (within_any _ _ _ _) ?_)
        go_ret
        exact ⟨by rw [HX.out]; rfl, hBw⟩
      · have HE2 : Hid (badOrder p (s.os.z i) = anyB (s.os.z i).ls.n (fun j => badLine p ((s.os.z i).ls.z j))) := by show badOrder p (s.os.z i) = _; rw [HE.out, hk]; rfl
        clear HE
        generalize (s.os.z i).k = KD at *
        go_wp2_with (go_at_call 48; refine calls_to (within_any _ _ _ _) ?_)
        clear hk z0 hBw z1 c1 d0 d1 l1 l2 hb
        go_loopw [6] (fun i0 wk => ∃ k : Nat, k ≤ (s.os.z i).ls.n ∧ i0 = .int .i64 k ∧ (∀ j, j < k → badLine p ((s.os.z i).ls.z j) = false) ∧ Below W0.heap.size W0 wk) (fun i0 _ => (s.os.z i).ls.n - (intOf i0).toNat)
        case atStart => exact ⟨0, Nat.zero_le _, rfl, fun j hj => absurd hj (Nat.not_lt_zero _), hB⟩
        case round =>
          clear hB
          obtain ⟨j, hj, rfl, hno, hB⟩ := hrel
          have HM : Hid (∀ j', j' < j → badLine p ((s.os.z i).ls.z j') = false) := hno
          clear hno
          obtain ⟨X, hpk, hsk, hBw⟩ := HC.out wr hB
          obtain ⟨⟨l1, d0, d1⟩, l2, c0, c1, c2, c3, c4, c5, c6⟩ := X
          obtain ⟨b', o', hoa, hb, z0, z1, hl⟩ := hsk.os.ods i hlt
          rw [HO.out] at hoa c1
          simp only [Option.some.injEq, Addr.mk.injEq, and_true] at hoa
          obtain ⟨rfl, rfl⟩ := hoa
          by_cases hlj : j < (s.os.z i).ls.n
          · obtain ⟨b2, o2, hla, hb2, y0, y1, y2, y3⟩ := hl.hds j hlj
            have q2 : (0 : Int) ≤ (j : Int) := by omega
            have HT1 : Hid (badLine p ((s.os.z i).ls.z j) = true → formedB p s = false) := fun h => fB_order hlt (by rw [HE2.out]; exact anyB_yes hlj h)
            have HT2 : Hid (badLine p ((s.os.z i).ls.z j) = false → ∀ j', j' < j + 1 → badLine p ((s.os.z i).ls.z j') = false) := fun h => all_succ HM.out h
            have HBL : Hid (badLine p ((s.os.z i).ls.z j) = (!inB ((s.os.z i).ls.z j).o 0 ((p.ns : Int) - 1) || !inB ((s.os.z i).ls.z j).l 1 200 || !inB ((s.os.z i).ls.z j).b 0 ((s.os.z i).ls.z j).l || !inB ((s.os.z i).ls.z j).n 0 ((s.os.z i).ls.z j).l)) := rfl
            rw [hla] at z1
            clear hla hl hsk hpk c0 c2 c3 c4 c5 c6 z0 HM
            generalize badLine p ((s.os.z i).ls.z j) = BL at *
            generalize (s.os.z i).ls.z j = LZ at *
            obtain ⟨W1, hW1, hBn, hYn⟩ : ∃ W1, wr.alloc (.cells #[.int .i64 LZ.o, .int .i64 LZ.l, .int .i64 LZ.b, .int .i64 LZ.n] 53) = W1 ∧ Below W0.heap.size W0 W1 ∧ Blk W1 wr.heap.size 53 4 (fun j => (#[.int .i64 LZ.o, .int .i64 LZ.l, .int .i64 LZ.b, .int .i64 LZ.n] : Array Value).getD j default) := ⟨_, rfl, hB.alloc hB.size _, Blk.mk' rfl rfl⟩
            obtain ⟨B4, hB4⟩ : ∃ B4, wr.heap.size = B4 := ⟨_, rfl⟩
            rw [hB4] at hYn
            have HV : Hid (wr.alloc (.cells #[.int .i64 LZ.o, .int .i64 LZ.l, .int .i64 LZ.b, .int .i64 LZ.n] 53) = W1 ∧ wr.heap.size = B4) := ⟨hW1, hB4⟩
            obtain ⟨X, hpk, hsk, hBw1⟩ := HC.out W1 hBn
            clear hW1 hB4 X hpk hsk
            have HY : Hid (∀ wk, Below W1.heap.size W1 wk → (wk.cell? ⟨B4, 1, none⟩ = some (.int .i64 LZ.l) ∧ wk.cell? ⟨B4, 2, none⟩ = some (.int .i64 LZ.b) ∧ wk.cell? ⟨B4, 3, none⟩ = some (.int .i64 LZ.n) ∧ B4 < wk.heap.size) ∧ Below W0.heap.size W0 wk ∧ Below w.heap.size w wk) :=
              fun wk h => ⟨⟨(hYn.below h).cell (j := 1) (by decide), (hYn.below h).cell (j := 2) (by decide), (hYn.below h).cell (j := 3) (by decide), (hYn.below h).lt⟩, hBn.trans (h.mono hBn.size), hBw1.trans (h.mono hBw1.size)⟩
            clear hYn hBn hBw1 hBw
            go_wp2_with fail
            rw [HV.out.1]
            refine (isGood_any p LZ.o W1 les caps0).mono ?_
            rintro e w2 ⟨rfl, hB2⟩
            rw [HV.out.2]
            obtain ⟨⟨t1, t2, t3, l4⟩, hBz, hBw⟩ := HY.out w2 hB2
            clear hB2 HY HV y0 y1 y2 y3 z1 c1 d0 d1 l1 l2 hb hb2 hB
            cases k1 : inB LZ.o 0 ((p.ns : Int) - 1)
            · have HX : Hid (formedB p s = false) := HT1.out (by rw [HBL.out, k1]; rfl)
              clear HBL HT1 HT2 k1
              go_wp2_with fail
              go_ret
              exact ⟨by rw [HX.out]; rfl, hBw⟩
            · cases k2 : inB LZ.l 1 200
              · have HX : Hid (formedB p s = false) := HT1.out (by rw [HBL.out, k1, k2]; rfl)
                clear HBL HT1 HT2 k1
                go_wp2_with (go_at_call 48; refine calls_to (within_any _ _ _ _) ?_)
                go_ret
                exact ⟨by rw [HX.out]; rfl, hBw⟩
              · cases k3 : inB LZ.b 0 LZ.l
                · have HX : Hid (formedB p s = false) := HT1.out (by rw [HBL.out, k1, k2, k3]; rfl)
                  clear HBL HT1 HT2 k1
                  go_wp2_with (go_at_call 48; refine calls_to (within_any _ _ _ _) ?_)
                  go_ret
                  exact ⟨by rw [HX.out]; rfl, hBw⟩
                · cases k4 : inB LZ.n 0 LZ.l
                  · have HX : Hid (formedB p s = false) := HT1.out (by rw [HBL.out, k1, k2, k3, k4]; rfl)
                    clear HBL HT1 HT2 k1
                    go_wp2_with (go_at_call 48; refine calls_to (within_any _ _ _ _) ?_)
                    go_ret
                    exact ⟨by rw [HX.out]; rfl, hBw⟩
                  · have HX := HT2.out (by rw [HBL.out, k1, k2, k3, k4]; rfl)
                    have HX2 : Hid _ := HX
                    clear HBL HT1 HT2 k1 HX
                    go_wp2_with (go_at_call 48; refine calls_to (within_any _ _ _ _) ?_)
                    go_roundw
                    case rel => exact ⟨j + 1, by omega, by go_num, HX2.out, hBz⟩
                    case measure => simp [intOf]; omega
          · have HA : Hid (badOrder p (s.os.z i) = false) := by show badOrder p (s.os.z i) = false; rw [HE2.out]; exact anyB_no fun j' hj' => HM.out j' (by omega)
            clear c0 c2 c3 c4 c5 c6 hpk hsk hl
            go_wp2_with fail
            go_roundw
            case rel => exact ⟨i + 1, by omega, by go_num, all_succ HN.out HA.out, hB⟩
            case measure => simp [intOf]; omega
    · have HN2 : Hid (∀ j, j < s.os.n → badOrder p (s.os.z j) = false) := fun j hj => HN.out j (by omega)
      clear HN
      have HHS : Hid (s.hs.At wr) := hsk.hs
      clear hsk hpk c0 c3 c4 c5 c6 hBw d0 d1
      go_wp2_with fail
      refine (CheckHolds_any s.hs wr HHS.out).mono ?_
      rintro e w2 ⟨rfl, hB2⟩
      have hB := hB.trans (hB2.mono hB.size)
      clear hB2 HHS c1 c2 l1 l2 hlt hi
      by_cases h0 : checkH s.hs.n s.hs.z = 0
      · have H0 : Hid (checkH s.hs.n s.hs.z = 0) := h0
        have h72 : s.hs.n ≤ 72 := right_len (checkH_zero' h0)
        rw [h0]
        clear h0
        go_wp2_with fail
        go_loopw [8] (fun i wk => ∃ k : Nat, k ≤ s.hs.n ∧ i = .int .i64 k ∧ (∀ j, j < k → homeless p s (s.hs.z j) = false) ∧ Below W0.heap.size W0 wk) (fun i _ => s.hs.n - (intOf i).toNat)
        case atStart => exact ⟨0, Nat.zero_le _, rfl, fun j hj => absurd hj (Nat.not_lt_zero _), hB⟩
        case round =>
          clear hB
          obtain ⟨k, hk, rfl, hno, hB⟩ := hrel
          have HM : Hid (∀ j, j < k → homeless p s (s.hs.z j) = false) := hno
          clear hno
          obtain ⟨X, hpk, hsk, hBw⟩ := HC.out wr hB
          obtain ⟨⟨l1, d0, d1⟩, l2, c0, c1, c2, c3, c4, c5, c6⟩ := X
          by_cases hlt : k < s.hs.n
          · obtain ⟨b, q, hha, hb, z0, z1, z2, z3⟩ := hsk.hs.hds k hlt
            have hfine := fineH_true (right_fine (checkH_zero' H0.out) k hlt)
            obtain ⟨mo, hmo⟩ := Int.eq_ofNat_of_zero_le hfine.1.1
            obtain ⟨ml, hml⟩ := Int.eq_ofNat_of_zero_le hfine.2.1.1
            have q4 : (0 : Int) ≤ (k : Int) := by omega
            have q2 : (0 : Int) ≤ (mo : Int) := by omega
            have q3 : (0 : Int) ≤ (ml : Int) := by omega
            have HT1 : Hid (homeless p s (s.hs.z k) = true → formedB p s = false) := fun h => fB_home hlt h
            have HT2 : Hid (homeless p s (s.hs.z k) = false → ∀ j', j' < k + 1 → homeless p s (s.hs.z j') = false) := fun h => all_succ HM.out h
            have HBL : Hid (homeless p s (s.hs.z k) = (!inB mo 0 ((s.os.n : Int) - 1) || !inB ml 0 (((s.os.z mo).ls.n : Int) - 1) || !inB (s.hs.z k).b 0 ((p.nb : Int) - 1))) := by
              show homeless p s (s.hs.z k) = _
              unfold homeless
              rw [hmo, hml]
              rfl
            rw [hmo] at z0
            rw [hml] at z1
            rw [hha] at c2
            clear hmo hml hfine HM hha
            generalize homeless p s (s.hs.z k) = BL at *
            generalize (s.hs.z k).b = HB at *
            generalize (s.hs.z k).n = HNn at *
            obtain ⟨W1, hW1, hBn, hYn, hBa⟩ : ∃ W1, wr.alloc (.cells #[.int .i64 mo, .int .i64 ml, .int .i64 HB, .int .i64 HNn] 65) = W1 ∧ Below W0.heap.size W0 W1 ∧ Blk W1 wr.heap.size 65 4 (fun j => (#[.int .i64 mo, .int .i64 ml, .int .i64 HB, .int .i64 HNn] : Array Value).getD j default) ∧ Below wr.heap.size wr W1 := ⟨_, rfl, hB.alloc hB.size _, Blk.mk' rfl rfl, (Below.refl _ _).alloc (Nat.le_refl _) _⟩
            have HV : Hid (wr.alloc (.cells #[.int .i64 mo, .int .i64 ml, .int .i64 HB, .int .i64 HNn] 65) = W1) := hW1
            obtain ⟨X, hpk1, hsk1, hBw1⟩ := HC.out W1 hBn
            obtain ⟨⟨m1, e0, e1⟩, m2, f0, f1, f2, f3, f4, f5, f6⟩ := X
            have r0 : ∀ d os, (grow (redrawn W1 d) os).cell? ⟨wr.heap.size, 0, none⟩ = some (.int .i64 mo) := fun d os => cell_regrown (hYn.cell (j := 0) (by decide)) d os
            have r1 : ∀ d os, (grow (redrawn W1 d) os).cell? ⟨wr.heap.size, 1, none⟩ = some (.int .i64 ml) := fun d os => cell_regrown (hYn.cell (j := 1) (by decide)) d os
            have r2 : ∀ d os, (grow (redrawn W1 d) os).cell? ⟨wr.heap.size, 2, none⟩ = some (.int .i64 HB) := fun d os => cell_regrown (hYn.cell (j := 2) (by decide)) d os
            have r3 : ∀ d os, (grow (redrawn W1 d) os).cell? ⟨w.heap.size, 0, none⟩ = some (.slice p.ab p.nb p.cb) := fun d os => cell_regrown e0 d os
            have r4 : ∀ d os, (grow (redrawn W1 d) os).cell? ⟨w.heap.size, 1, none⟩ = some (.slice p.sa p.ns p.cs) := fun d os => cell_regrown e1 d os
            clear e0 e1 f0 f2 f3 f4 f5 f6 hpk1 hW1
            by_cases g1 : mo < s.os.n
            · obtain ⟨b1, o1, hoa, hb1, -, y1, hl⟩ := hsk1.os.ods mo g1
              have lle := hl.le
              have lcap := hl.cap
              have l3 := HT.out.2.2 mo g1
              unfold maxLen at lcap
              rw [hoa] at f1
              have r5 : ∀ d os, (grow (redrawn W1 d) os).cell? ⟨w.heap.size + 1, 1, none⟩ = some (.slice (some ⟨b1, o1, none⟩) s.os.n s.os.c) := fun d os => cell_regrown f1 d os
              have r6 : ∀ d os, (grow (redrawn W1 d) os).cell? ⟨b1, o1 + mo * 2 + 1, none⟩ = some (.slice (s.os.z mo).ls.a (s.os.z mo).ls.n (s.os.z mo).ls.c) := fun d os => cell_regrown y1 d os
              have g1' : ¬ (s.os.n : Int) ≤ (mo : Int) := by omega
              have g1n : ¬ s.os.n ≤ mo := by omega
              have k1 : inB mo 0 ((s.os.n : Int) - 1) = true := inB_mk (by omega)
              clear hoa hl hsk1 f1 y1
              generalize (s.os.z mo).ls.n = LN at *
              generalize (s.os.z mo).ls.a = LA at *
              generalize (s.os.z mo).ls.c = LC at *
              by_cases g2 : ml < LN
              · have g2n : ¬ LN ≤ ml := by omega
                have k2 : inB ml 0 ((LN : Int) - 1) = true := inB_mk (by omega)
                cases k3 : inB HB 0 ((p.nb : Int) - 1)
                · have HX : Hid (formedB p s = false) := HT1.out (by rw [HBL.out, k1, k2, k3]; rfl)
                  clear HBL HT1 HT2 k1 k2
                  go_wp2_with fail
                  rw [HV.out]
                  refine wp_region_quiet_below (by kernel_rfl) (by kernel_rfl) ?_
                  repeat (go_big_quiet_step ((go_at_call 49; exact Calls.regrown_of (isBin_any p HB _ leb capb0))))
                  refine wpQuiet_nil ?_
                  intro _ hw'
                  obtain ⟨⟨dq, osq⟩, hw''⟩ := hw'
                  subst hw''
                  rw [k3]
                  go_wp2_with fail
                  go_ret
                  exact ⟨by rw [HX.out]; rfl, hBw1.trans ((below_regrown _ _ _).mono hBw1.size)⟩
                · have HX := HT2.out (by rw [HBL.out, k1, k2, k3]; rfl)
                  have HX2 : Hid _ := HX
                  clear HBL HT1 HT2 k1 k2 HX
                  go_wp2_with fail
                  rw [HV.out]
                  refine wp_region_quiet_below (by kernel_rfl) (by kernel_rfl) ?_
                  repeat (go_big_quiet_step ((go_at_call 49; exact Calls.regrown_of (isBin_any p HB _ leb capb0))))
                  refine wpQuiet_nil ?_
                  intro _ hw'
                  obtain ⟨⟨dq, osq⟩, hw''⟩ := hw'
                  subst hw''
                  rw [k3]
                  go_wp2_with fail
                  go_roundw
                  case rel => exact ⟨k + 1, by omega, by go_num, HX2.out, hBn.trans ((below_regrown _ _ _).mono hBn.size)⟩
                  case measure => simp [intOf]; omega
              · have g2' : (LN : Int) ≤ (ml : Int) := by omega
                have k2 : inB ml 0 ((LN : Int) - 1) = false := inB_no (by omega)
                have HX : Hid (formedB p s = false) := HT1.out (by rw [HBL.out, k1, k2]; rfl)
                clear HBL HT1 HT2 k1 k2
                go_wp2_with fail
                rw [HV.out]
                refine wp_region_quiet_below (by kernel_rfl) (by kernel_rfl) ?_
                repeat (go_big_quiet_step (fail))
                refine wpQuiet_nil ?_
                intro _ hw'
                obtain ⟨⟨dq, osq⟩, hw''⟩ := hw'
                subst hw''
                go_wp2_with fail
                go_ret
                exact ⟨by rw [HX.out]; rfl, hBw1.trans ((below_regrown _ _ _).mono hBw1.size)⟩
            · have g1' : (s.os.n : Int) ≤ (mo : Int) := by omega
              have k1 : inB mo 0 ((s.os.n : Int) - 1) = false := inB_no (by omega)
              have r5 : ∀ d os, (grow (redrawn W1 d) os).cell? ⟨w.heap.size + 1, 1, none⟩ = some (.slice s.os.a s.os.n s.os.c) := fun d os => cell_regrown f1 d os
              have HX : Hid (formedB p s = false) := HT1.out (by rw [HBL.out, k1]; rfl)
              clear HBL HT1 HT2 k1 f1 hsk1
              go_wp2_with fail
              rw [HV.out]
              refine wp_region_quiet_below (by kernel_rfl) (by kernel_rfl) ?_
              repeat (go_big_quiet_step (fail))
              refine wpQuiet_nil ?_
              intro _ hw'
              obtain ⟨⟨dq, osq⟩, hw''⟩ := hw'
              subst hw''
              go_wp2_with fail
              go_ret
              exact ⟨by rw [HX.out]; rfl, hBw1.trans ((below_regrown _ _ _).mono hBw1.size)⟩
          · have HN3 : Hid (∀ j, j < s.hs.n → homeless p s (s.hs.z j) = false) := fun j hj => HM.out j (by omega)
            clear HM
            go_wp2_with fail
            clear hsk hpk c0 c1 c2 c3 c4 c5 c6 d0 d1 hBw l1 l2 hlt hk
            go_loopw [10] (fun i wk => ∃ k : Nat, k ≤ s.ms.n ∧ i = .int .i64 k ∧ (∀ j, j < k → badMove p (s.ms.z j) = false) ∧ Below W0.heap.size W0 wk) (fun i _ => s.ms.n - (intOf i).toNat)
            case atStart => exact ⟨0, Nat.zero_le _, rfl, fun j hj => absurd hj (Nat.not_lt_zero _), hB⟩
            case round =>
              clear hB
              obtain ⟨k, hk, rfl, hno, hB⟩ := hrel
              have HM : Hid (∀ j, j < k → badMove p (s.ms.z j) = false) := hno
              clear hno
              obtain ⟨X, hpk, hsk, hBw⟩ := HC.out wr hB
              obtain ⟨⟨l1, d0, d1⟩, l2, c0, c1, c2, c3, c4, c5, c6⟩ := X
              by_cases hlt : k < s.ms.n
              · obtain ⟨b, q, hma, hb, z0, z1, z2, z3⟩ := hsk.ms.hds k hlt
                have q4 : (0 : Int) ≤ (k : Int) := by omega
                have HT1 : Hid (badMove p (s.ms.z k) = true → formedB p s = false) := fun h => fB_move hlt h
                have HT2 : Hid (badMove p (s.ms.z k) = false → ∀ j', j' < k + 1 → badMove p (s.ms.z j') = false) := fun h => all_succ HM.out h
                have HBL : Hid (badMove p (s.ms.z k) = (!inB (s.ms.z k).o 0 ((p.ns : Int) - 1) || !inB (s.ms.z k).l 0 ((p.nb : Int) - 1) || !inB (s.ms.z k).b 0 ((p.nb : Int) - 1) || ((s.ms.z k).l == (s.ms.z k).b) || !inB (s.ms.z k).n 1 200)) := rfl
                rw [hma] at c3
                clear hma hsk hpk c0 c1 c2 c4 c5 c6 HM
                generalize badMove p (s.ms.z k) = BL at *
                generalize s.ms.z k = LZ at *
                obtain ⟨W1, hW1, hBn, hYn⟩ : ∃ W1, wr.alloc (.cells #[.int .i64 LZ.o, .int .i64 LZ.l, .int .i64 LZ.b, .int .i64 LZ.n] 70) = W1 ∧ Below W0.heap.size W0 W1 ∧ Blk W1 wr.heap.size 70 4 (fun j => (#[.int .i64 LZ.o, .int .i64 LZ.l, .int .i64 LZ.b, .int .i64 LZ.n] : Array Value).getD j default) := ⟨_, rfl, hB.alloc hB.size _, Blk.mk' rfl rfl⟩
                obtain ⟨B4, hB4⟩ : ∃ B4, wr.heap.size = B4 := ⟨_, rfl⟩
                rw [hB4] at hYn
                have HV : Hid (wr.alloc (.cells #[.int .i64 LZ.o, .int .i64 LZ.l, .int .i64 LZ.b, .int .i64 LZ.n] 70) = W1 ∧ wr.heap.size = B4) := ⟨hW1, hB4⟩
                have HY : Hid (∀ wk, Below W1.heap.size W1 wk → (wk.cell? ⟨B4, 1, none⟩ = some (.int .i64 LZ.l) ∧ wk.cell? ⟨B4, 2, none⟩ = some (.int .i64 LZ.b) ∧ wk.cell? ⟨B4, 3, none⟩ = some (.int .i64 LZ.n) ∧ B4 < wk.heap.size) ∧ (w.heap.size < wk.heap.size ∧ wk.cell? ⟨w.heap.size, 0, none⟩ = some (.slice p.ab p.nb p.cb) ∧ wk.cell? ⟨w.heap.size, 1, none⟩ = some (.slice p.sa p.ns p.cs)) ∧ Below W0.heap.size W0 wk ∧ Below w.heap.size w wk) :=
                  fun wk h => ⟨⟨(hYn.below h).cell (j := 1) (by decide), (hYn.below h).cell (j := 2) (by decide), (hYn.below h).cell (j := 3) (by decide), (hYn.below h).lt⟩, (HC.out wk (hBn.trans (h.mono hBn.size))).1.1, hBn.trans (h.mono hBn.size), (HC.out wk (hBn.trans (h.mono hBn.size))).2.2.2⟩
                clear hYn hBn hBw hW1 hB4
                go_wp2_with fail
                rw [HV.out.1]
                refine (isGood_any p LZ.o W1 les caps0).mono ?_
                rintro e w2 ⟨rfl, hB2⟩
                rw [HV.out.2]
                clear d0 d1 l1 l2 hb hB z0 z1 z2 z3 c3 HV
                obtain ⟨⟨t1, t2, t3, l4⟩, ⟨l1, d0, d1⟩, hBz, hBw⟩ := HY.out w2 hB2
                cases k1 : inB LZ.o 0 ((p.ns : Int) - 1)
                · have HX : Hid (formedB p s = false) := HT1.out (by rw [HBL.out, k1]; rfl)
                  clear HBL HT1 HT2 k1
                  go_wp2_with fail
                  go_ret
                  exact ⟨by rw [HX.out]; rfl, hBw⟩
                · go_wp2_with fail
                  refine (isBin_any p LZ.l w2 leb capb0).mono ?_
                  rintro e w3 ⟨rfl, hB3⟩
                  have hB3 := hB2.trans (hB3.mono hB2.size)
                  clear hB2 t1 t2 t3 l4 l1 d0 d1 hBz hBw
                  obtain ⟨⟨t1, t2, t3, l4⟩, ⟨l1, d0, d1⟩, hBz, hBw⟩ := HY.out w3 hB3
                  cases k2 : inB LZ.l 0 ((p.nb : Int) - 1)
                  · have HX : Hid (formedB p s = false) := HT1.out (by rw [HBL.out, k1, k2]; rfl)
                    clear HBL HT1 HT2 k1 k2
                    go_wp2_with fail
                    go_ret
                    exact ⟨by rw [HX.out]; rfl, hBw⟩
                  · go_wp2_with fail
                    refine (isBin_any p LZ.b w3 leb capb0).mono ?_
                    rintro e w4 ⟨rfl, hB4⟩
                    have hB4 := hB3.trans (hB4.mono hB3.size)
                    clear hB3 t1 t2 t3 l4 l1 d0 d1 hBz hBw
                    obtain ⟨⟨t1, t2, t3, l4⟩, ⟨l1, d0, d1⟩, hBz, hBw⟩ := HY.out w4 hB4
                    cases k3 : inB LZ.b 0 ((p.nb : Int) - 1)
                    · have HX : Hid (formedB p s = false) := HT1.out (by rw [HBL.out, k1, k2, k3]; rfl)
                      clear HBL HT1 HT2 k1 k2 k3
                      go_wp2_with fail
                      go_ret
                      exact ⟨by rw [HX.out]; rfl, hBw⟩
                    · cases k4 : (LZ.l == LZ.b)
                      · cases k5 : inB LZ.n 1 200
                        · have HX : Hid (formedB p s = false) := HT1.out (by rw [HBL.out, k1, k2, k3, k4, k5]; rfl)
                          clear HBL HT1 HT2 k1 k2 k3
                          go_wp2_with (go_at_call 48; refine calls_to (within_any _ _ _ _) ?_)
                          go_ret
                          exact ⟨by rw [HX.out]; rfl, hBw⟩
                        · have HX := HT2.out (by rw [HBL.out, k1, k2, k3, k4, k5]; rfl)
                          have HX2 : Hid _ := HX
                          clear HBL HT1 HT2 k1 k2 k3 HX
                          go_wp2_with (go_at_call 48; refine calls_to (within_any _ _ _ _) ?_)
                          go_roundw
                          case rel => exact ⟨k + 1, by omega, by go_num, HX2.out, hBz⟩
                          case measure => simp [intOf]; omega
                      · have HX : Hid (formedB p s = false) := HT1.out (by rw [HBL.out, k1, k2, k3, k4]; rfl)
                        clear HBL HT1 HT2 k1 k2 k3
                        go_wp2_with fail
                        go_ret
                        exact ⟨by rw [HX.out]; rfl, hBw⟩
              · have HN4 : Hid (∀ j, j < s.ms.n → badMove p (s.ms.z j) = false) := fun j hj => HM.out j (by omega)
                clear HM
                by_cases n1 : s.si.n = p.ns
                · by_cases n2 : s.so.n = p.ns
                  · by_cases n3 : s.sf.n = p.ns
                    · have HLN : Hid (s.si.n = p.ns ∧ s.so.n = p.ns ∧ s.sf.n = p.ns) := ⟨n1, n2, n3⟩
                      have q1 := hsk.si.le
                      have q2 := hsk.si.cap
                      have q3 := hsk.so.le
                      have q4 := hsk.so.cap
                      have q5 := hsk.sf.le
                      have q6 := hsk.sf.cap
                      unfold maxLen at q2 q4 q6
                      rw [n1] at c4 q1
                      rw [n2] at c5 q3
                      rw [n3] at c6 q5
                      clear n1 n2 n3 hsk hpk c0 c1 c2 hBw
                      go_wp2_with fail
                      clear c3 c4 c5 c6 d0 d1 l1 l2 hlt hk
                      go_loopw [12] (fun i wk => ∃ k : Nat, k ≤ p.ns ∧ i = .int .i64 k ∧ (∀ j, j < k → sumOK s j = true) ∧ Below W0.heap.size W0 wk) (fun i _ => p.ns - (intOf i).toNat)
                      case atStart => exact ⟨0, Nat.zero_le _, rfl, fun j hj => absurd hj (Nat.not_lt_zero _), hB⟩
                      case round =>
                        clear hB
                        obtain ⟨g, hg, rfl, hno, hB⟩ := hrel
                        have HM : Hid (∀ j, j < g → sumOK s j = true) := hno
                        clear hno
                        obtain ⟨X, hpk, hsk, hBw⟩ := HC.out wr hB
                        obtain ⟨⟨l1, d0, d1⟩, l2, c0, c1, c2, c3, c4, c5, c6⟩ := X
                        by_cases hlt : g < p.ns
                        · obtain ⟨b1, o1, e1, g1, z1⟩ := hsk.si.ints g (by rw [HLN.out.1]; exact hlt)
                          obtain ⟨b2, o2, e2, g2, z2⟩ := hsk.so.ints g (by rw [HLN.out.2.1]; exact hlt)
                          obtain ⟨b3, o3, e3, g3, z3⟩ := hsk.sf.ints g (by rw [HLN.out.2.2]; exact hlt)
                          have qq : (0 : Int) ≤ (g : Int) := by omega
                          rw [e1, HLN.out.1] at c4
                          rw [e2, HLN.out.2.1] at c5
                          rw [e3, HLN.out.2.2] at c6
                          have HT1 : Hid (inB (s.si.z g) 0 1048576 = false → formedB p s = false) := fun h => fB_sum (.inl (badSum_yes HLN.out.1 hlt h))
                          have HT2 : Hid (inB (s.so.z g) 0 1048576 = false → formedB p s = false) := fun h => fB_sum (.inr (.inl (badSum_yes HLN.out.2.1 hlt h)))
                          have HT3 : Hid (inB (s.sf.z g) (-1048576) 1048576 = false → formedB p s = false) := fun h => fB_sum (.inr (.inr (badSum_yes HLN.out.2.2 hlt h)))
                          have HT4 : Hid (inB (s.si.z g) 0 1048576 = true → inB (s.so.z g) 0 1048576 = true → inB (s.sf.z g) (-1048576) 1048576 = true → ∀ j', j' < g + 1 → sumOK s j' = true) := fun h1 h2 h3 => all_succ HM.out (by unfold sumOK; rw [h1, h2, h3]; rfl)
                          clear e1 e2 e3 hsk hpk c0 c1 c2 c3 HM
                          generalize s.si.z g = I1 at *
                          generalize s.so.z g = I2 at *
                          generalize s.sf.z g = I3 at *
                          cases k1 : inB I1 0 1048576
                          · have HX : Hid (formedB p s = false) := HT1.out k1
                            clear HT1 HT2 HT3 HT4
                            go_wp2_with (go_at_call 48; refine calls_to (within_any _ _ _ _) ?_)
                            go_ret
                            exact ⟨by rw [HX.out]; rfl, hBw⟩
                          · cases k2 : inB I2 0 1048576
                            · have HX : Hid (formedB p s = false) := HT2.out k2
                              clear HT1 HT2 HT3 HT4
                              go_wp2_with (go_at_call 48; refine calls_to (within_any _ _ _ _) ?_)
                              go_ret
                              exact ⟨by rw [HX.out]; rfl, hBw⟩
                            · cases k3 : inB I3 (-1048576) 1048576
                              · have HX : Hid (formedB p s = false) := HT3.out k3
                                clear HT1 HT2 HT3 HT4
                                go_wp2_with (go_at_call 48; refine calls_to (within_any _ _ _ _) ?_)
                                go_ret
                                exact ⟨by rw [HX.out]; rfl, hBw⟩
                              · have HX := HT4.out k1 k2 k3
                                have HX2 : Hid _ := HX
                                clear HT1 HT2 HT3 HT4 HX
                                go_wp2_with (go_at_call 48; refine calls_to (within_any _ _ _ _) ?_)
                                go_roundw
                                case rel => exact ⟨g + 1, by omega, by go_num, HX2.out, hB⟩
                                case measure => simp [intOf]; omega
                        · have HX : Hid (formedB p s = true) := fB_yes HN2.out H0.out HN3.out HN4.out HLN.out (fun j hj => HM.out j (by omega))
                          clear hsk hpk c0 c1 c2 c3 c4 c5 c6 HM
                          go_wp2_with fail
                          go_ret
                          exact ⟨by rw [HX.out]; rfl, hBw⟩
                    · have HX : Hid (formedB p s = false) := fB_len3 n3
                      have m1 : ((s.si.n : Int) != (p.ns : Int)) = false := by simp [n1]
                      have m2 : ((s.so.n : Int) != (p.ns : Int)) = false := by simp [n2]
                      have m3 : ((s.sf.n : Int) != (p.ns : Int)) = true := by simp; omega
                      clear hsk hpk c0 c1 c2 n1 n2
                      go_wp2_with fail
                      go_ret
                      exact ⟨by rw [HX.out]; rfl, hBw⟩
                  · have HX : Hid (formedB p s = false) := fB_len2 n2
                    have m1 : ((s.si.n : Int) != (p.ns : Int)) = false := by simp [n1]
                    have m2 : ((s.so.n : Int) != (p.ns : Int)) = true := by simp; omega
                    clear hsk hpk c0 c1 c2 c6 n1
                    go_wp2_with fail
                    go_ret
                    exact ⟨by rw [HX.out]; rfl, hBw⟩
                · have HX : Hid (formedB p s = false) := fB_len1 n1
                  have m1 : ((s.si.n : Int) != (p.ns : Int)) = true := by simp; omega
                  clear hsk hpk c0 c1 c2 c5 c6
                  go_wp2_with fail
                  go_ret
                  exact ⟨by rw [HX.out]; rfl, hBw⟩
      · have HX : Hid (formedB p s = false) := fB_check h0
        obtain ⟨X, hpk, hsk, hBw⟩ := HC.out w2 hB
        clear X hpk hsk
        go_wp2_with fail
        go_ret
        exact ⟨by rw [HX.out]; rfl, hBw⟩
end Go.Proofs.Ytbcacebifpagpac

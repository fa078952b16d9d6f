/- Texts that were built one behind the other, joined; what BookKept does not reach is left out. -/
import Derived.Test.YtbcacebifpagpafGreatK5BookKept
import Derived.KernelRfl
import Derived.Lib.QuietBelow
import Derived.Test.YtbcacebifpagpafGreatRows
import Derived.ProofKit
import Derived.OpenShut
import Derived.Lib.SmallJoins
import Derived.Deep.Slices
namespace Go.Proofs.YtbcacebifpagpafGreat
open Go.RowKit Go.Shelf Go.Sort
set_option linter.unusedVariables false
set_option maxRecDepth 100000 in
set_option maxHeartbeats 8000000 in
theorem Totals_any (p : Pl) (s : St) (w : World) (hp : p.At w) (hs : s.At w) :
    Calls Tryz.prog 8 #[p.val, s.val] w fun e w' => ∃ h : Hs, e = .returned (.tuple #[.slice h.a h.n h.c, .int .i64 (stateE p s)]) ∧ h.At w' ∧ (stateE p s = 0 → h.n = p.ns ∧ ∀ g, g < p.ns → h.z g = totT s g) ∧ (¬ stateE p s = 0 → h.n = 0) ∧ Below w.heap.size w w' := by
  obtain ⟨W0, hW, hWB, X0⟩ : ∃ W, ((w.alloc (.cells #[.slice p.ab p.nb p.cb, .slice p.sa p.ns p.cs] 25)).alloc (.cells s.cells 31)) = W ∧ Below w.heap.size w W ∧ Boxes W w.heap.size (w.heap.size + 1) p s := ⟨_, rfl, two_below _ _ _, boxes_new w p s _ _⟩
  have HC : Hid (∀ wk, Below W0.heap.size W0 wk → Boxes wk w.heap.size (w.heap.size + 1) p s ∧ p.At wk ∧ s.At wk ∧ Below w.heap.size w wk) := fun wk h => ⟨X0.below h, (hp.below hWB).below h, (hs.below hWB).below h, hWB.trans (h.mono hWB.size)⟩
  have HW : Hid ((w.alloc (.cells #[.slice p.ab p.nb p.cb, .slice p.sa p.ns p.cs] 25)).alloc (.cells #[.slice s.on.a s.on.n s.on.c, .slice s.os.a s.os.n s.os.c, .slice s.hs.a s.hs.n s.hs.c, .slice s.ms.a s.ms.n s.ms.c, .slice s.si.a s.si.n s.si.c, .slice s.so.a s.so.n s.so.c, .slice s.sf.a s.sf.n s.sf.c] 31) = W0) := hW
  have osl := hs.os.le
  have osc := hs.os.cap
  unfold maxLen at osc
  clear hW X0 hp hs
  unfold Pl.val St.val
  go_enter Tryz.func8, Tryz.ntmps8
  go_wp2_with fail
  rw [HW.out]
  refine (stateCheck_any p s W0 (HC.out W0 (Below.refl _ _)).2.1 (HC.out W0 (Below.refl _ _)).2.2.1).mono ?_
  rintro e w1 ⟨rfl, hB⟩
  clear HW
  obtain ⟨⟨⟨l1, d0, d1⟩, l2, c0, c1, c2, c3, c4, c5, c6⟩, -, -, hBw⟩ := HC.out w1 hB
  by_cases h0 : stateE p s = 0
  · have HR : Hid (RightT p s) := rightT h0
    have H0 : Hid (stateE p s = 0) := h0
    have ns3 := HR.out.fm.sh.pl.ns3
    have ns1 := HR.out.fm.sh.pl.ns1
    have os4 := HR.out.fm.os4
    obtain ⟨iT, hT, hT0, hT1, hT2⟩ := info_parts infoTot
    rw [h0]
    have hA1 : W0.heap.size ≤ w1.heap.size := hB.size
    clear h0 hBw
    go_wp2_with (at_make; refine wpList_make_full _ rfl _ _ 39 rfl w1.heap.size 43 iT (.agg #[.int .i64 0, .int .i64 0, .int .i64 0, .int .i64 0]) 4 Tryz.underlying39 hT hT0 hT1 .i64 .i64 _ _ p.ns rfl rfl rfl rfl (by rw [hT2]; omega) (by unfold maxLen; omega) (Nat.le_refl _) ?_; intro w2 hown hgrow)
    have HB2 : Hid (Below W0.heap.size W0 w2) := hB.grown hgrow hB.size (by intro k hk; cases hk)
    obtain ⟨BT, c', hv, _, _, hBT, hblk⟩ := Blk.ofOwns hown (by simp)
    simp only [Value.slice.injEq, Option.some.injEq, Addr.mk.injEq, and_true] at hv
    obtain ⟨hv, -, -⟩ := hv
    have HK2 : Hid (Blk w2 BT 43 (p.ns * 4) (hc (fun g => if g < 0 then (⟨sumTo (fun i => (s.on.r i).z g) s.on.n, 0, 0, 0⟩ : Hd) else hd0))) := (hblk.congr (fun j hj => made4 hj)).cong4 (fun j _ => by rw [if_neg (by omega)])
    rw [hv]
    have hA2 : W0.heap.size ≤ BT := by omega
    clear hown hgrow hblk hv hB hBT l1 d0 d1 l2 c0 c1 c2 c3 c4 c5 c6
    go_loopw [28] (fun kv wk => ∃ k : Nat, k ≤ p.ns ∧ kv = .int .i64 k ∧ Hid (Blk wk BT 43 (p.ns * 4) (hc (fun g => if g < k then (⟨sumTo (fun i => (s.on.r i).z g) s.on.n, 0, 0, 0⟩ : Hd) else hd0))) ∧ Hid (Below W0.heap.size W0 wk)) (fun kv _ => p.ns - (intOf kv).toNat)
    case atStart => exact ⟨0, Nat.zero_le _, rfl, HK2, HB2⟩
    case round =>
      clear HK2 HB2
      obtain ⟨k, hk, rfl, HK, HB⟩ := hrel
      obtain ⟨⟨⟨l1, d0, d1⟩, l2, c0, c1, c2, c3, c4, c5, c6⟩, hpk, hsk, -⟩ := HC.out wr HB.out
      by_cases hlt : k < p.ns
      · have q0 : (0 : Int) ≤ (k : Int) := by omega
        have q1 : (k : Int) < (p.ns : Int) := by omega
        have HCS : Hid (Calls Tryz.prog 29 #[.agg #[.slice p.ab p.nb p.cb, .slice p.sa p.ns p.cs], .slice s.on.a s.on.n s.on.c, .int .i64 (k : Int)] wr fun e w' => e = .returned (.tuple #[.int .i64 (sumTo (fun i => (s.on.r i).z k) s.on.n), .int .i64 0]) ∧ Below wr.heap.size wr w') := Sum_rightW p s k wr hpk hsk HR.out hlt
        clear hpk hsk
        go_wp2_with fail
        refine Calls.mono HCS.out ?_
        rintro e w3 ⟨rfl, hB3⟩
        have HK3 : Hid (Blk w3 BT 43 (p.ns * 4) (hc (fun g => if g < k then (⟨sumTo (fun i => (s.on.r i).z g) s.on.n, 0, 0, 0⟩ : Hd) else hd0))) := HK.out.below hB3
        have HB3 : Hid (Below W0.heap.size W0 w3) := HB.out.trans (hB3.mono HB.out.size)
        have z1 := HK3.out.lt
        have z2 := HK3.out.frozen (k * 4)
        have z3 := HK3.out.cell (j := k * 4) (by omega)
        have HK4 : Hid (Blk (w3.setCell ⟨BT, k * 4, none⟩ (.int .i64 (sumTo (fun i => (s.on.r i).z k) s.on.n))) BT 43 (p.ns * 4) (hc (fun g => if g < (k + 1) then (⟨sumTo (fun i => (s.on.r i).z g) s.on.n, 0, 0, 0⟩ : Hd) else hd0))) := (HK3.out.setF k 0 (by decide) (sumTo (fun i => (s.on.r i).z k) s.on.n)).cong4 (fun j _ => by
          by_cases hj : j = k
          · rw [if_pos hj, if_neg (by omega), if_pos (by omega), hj]; rfl
          · rw [if_neg hj]
            by_cases hj2 : j < k
            · rw [if_pos hj2, if_pos (by omega)]
            · rw [if_neg hj2, if_neg (by omega)])
        have HB4 : Hid (Below W0.heap.size W0 (w3.setCell ⟨BT, k * 4, none⟩ (.int .i64 (sumTo (fun i => (s.on.r i).z k) s.on.n)))) := HB3.out.setCell (p := ⟨BT, k * 4, none⟩) hA2 _
        generalize sumTo (fun i => (s.on.r i).z k) s.on.n = SM at *
        clear hB3 HK3 HB3 HCS l1 d0 d1 l2 c0 c1 c2 c3 c4 c5 c6 HK HB
        go_wp2_with fail
        go_roundw
        case rel => exact ⟨k + 1, by omega, by go_num, HK4, HB4⟩
        case measure => simp [intOf]; omega
      · have q1 : (p.ns : Int) ≤ (k : Int) := by omega
        have HK5 : Hid (Blk wr BT 43 (p.ns * 4) (hc (fun g => ordT s g 0))) := HK.out.cong4 (fun j hj => by rw [if_pos (by omega)]; rfl)
        clear hpk hsk HK
        go_wp2_with fail
        have HBX : Hid (Below W0.heap.size W0 wr) := HB.out
        clear l1 d0 d1 l2 c0 c1 c2 c3 c4 c5 c6 HB
        go_loopw [47] (fun iv wk => ∃ i : Nat, i ≤ s.os.n ∧ iv = .int .i64 i ∧ Hid (Blk wk BT 43 (p.ns * 4) (hc (fun g => ordT s g i))) ∧ Hid (Below W0.heap.size W0 wk)) (fun iv _ => s.os.n - (intOf iv).toNat)
        case atStart => exact ⟨0, Nat.zero_le _, rfl, HK5, HBX⟩
        case round =>
          clear HK5 HBX
          obtain ⟨i, hi, rfl, HK, HB⟩ := hrel
          obtain ⟨-, -, hsk, hBw⟩ := HC.out wr HB.out
          by_cases hil : i < s.os.n
          · have q2 : (0 : Int) ≤ (i : Int) := by omega
            have q3 : (i : Int) < (s.os.n : Int) := by omega
            obtain ⟨bo, oo, hoa, hbo, z0, z1, hlk⟩ := hsk.os.ods i hil
            have ln3 := (HR.out.fm.lns i hil).2
            have HLE : Hid (Hs.At wr (s.os.z i).ls) := hlk
            have lle := hlk.le
            have lcp := hlk.cap
            unfold maxLen at lcp
            obtain ⟨W4, hW4, hWB4⟩ : ∃ W, wr.alloc (.cells #[.int .i64 (s.os.z i).k, .slice (s.os.z i).ls.a (s.os.z i).ls.n (s.os.z i).ls.c] 66) = W ∧ Below wr.heap.size wr W := ⟨_, rfl, (Below.refl _ _).alloc (Nat.le_refl _) _⟩
            have HW4 : Hid (wr.alloc (.cells #[.int .i64 (s.os.z i).k, .slice (s.os.z i).ls.a (s.os.z i).ls.n (s.os.z i).ls.c] 66) = W4) := hW4
            have HK4 : Hid (Blk W4 BT 43 (p.ns * 4) (hc (fun g => lineT s i g 0 (ordT s g i)))) := HK.out.below hWB4
            have HB4 : Hid (Below W0.heap.size W0 W4) := HB.out.trans (hWB4.mono HB.out.size)
            have HOA : Hid (s.os.a = some ⟨bo, oo, none⟩) := hoa
            rw [hoa]
            clear hoa hW4 hWB4 hsk hlk
            go_wp2_with fail
            rw [HW4.out]
            clear hbo z0 z1 HW4 HK HB hBw
            generalize wr.heap.size = BO at *
            go_loopw [55] (fun jv wk => ∃ j : Nat, j ≤ (s.os.z i).ls.n ∧ jv = .int .i64 j ∧ Hid (Blk wk BT 43 (p.ns * 4) (hc (fun g => lineT s i g j (ordT s g i)))) ∧ Hid (Below W0.heap.size W0 wk)) (fun jv _ => (s.os.z i).ls.n - (intOf jv).toNat)
            case atStart => exact ⟨0, Nat.zero_le _, rfl, HK4, HB4⟩
            case round =>
              clear HK4 HB4
              obtain ⟨j, hj, rfl, HK, HB⟩ := hrel
              obtain ⟨⟨⟨l1, d0, d1⟩, l2, c0, c1, c2, c3, c4, c5, c6⟩, -, hsk, -⟩ := HC.out wr HB.out
              by_cases hjl : j < (s.os.z i).ls.n
              · have q4 : (0 : Int) ≤ (j : Int) := by omega
                have q5 : (j : Int) < ((s.os.z i).ls.n : Int) := by omega
                obtain ⟨_, _, _, _, _, _, hlk⟩ := hsk.os.ods i hil
                obtain ⟨bl, ol, hla, hbl, y0, y1, y2, y3⟩ := hlk.hds j hjl
                obtain ⟨⟨zo1, zo2⟩, ⟨zl1, zl2⟩, ⟨zb1, zb2⟩, zn1, zn2⟩ := badLine_no (HR.out.fm.line i hil j hjl)
                obtain ⟨ZL, hZL⟩ : ∃ Z, (s.os.z i).ls.z j = Z := ⟨_, rfl⟩
                have HZL : Hid ((s.os.z i).ls.z j = ZL) := hZL
                rw [hZL] at y0 y1 y2 y3 zo1 zo2 zl1 zl2 zb1 zb2 zn1 zn2
                obtain ⟨gd, hgd⟩ : ∃ gd : Nat, ZL.o = gd := ⟨ZL.o.toNat, by omega⟩
                have HGD : Hid (ZL.o = (gd : Int)) := hgd
                have hgn : gd < p.ns := by omega
                rw [hgd] at y0
                have HKE : Hid (Hs.At wr s.hs) := hsk.hs
                obtain ⟨W6, hW6, hWB6, K6⟩ : ∃ W, wr.alloc (.cells #[.int .i64 (gd : Int), .int .i64 ZL.l, .int .i64 ZL.b, .int .i64 ZL.n] 68) = W ∧ Below wr.heap.size wr W ∧ Blk W wr.heap.size 68 4 (fun q => (#[.int .i64 (gd : Int), .int .i64 ZL.l, .int .i64 ZL.b, .int .i64 ZL.n] : Array Value).getD q default) := ⟨_, rfl, (Below.refl _ _).alloc (Nat.le_refl _) _, Blk.mk' rfl rfl⟩
                have HW6 : Hid (wr.alloc (.cells #[.int .i64 (gd : Int), .int .i64 ZL.l, .int .i64 ZL.b, .int .i64 ZL.n] 68) = W6) := hW6
                have HL6 : Hid (Blk W6 wr.heap.size 68 4 (fun q => (#[.int .i64 (gd : Int), .int .i64 ZL.l, .int .i64 ZL.b, .int .i64 ZL.n] : Array Value).getD q default)) := K6
                have HK6 : Hid (Blk W6 BT 43 (p.ns * 4) (hc (fun g => lineT s i g j (ordT s g i)))) := HK.out.below hWB6
                have HB6 : Hid (Below W0.heap.size W0 W6) := HB.out.trans (hWB6.mono HB.out.size)
                have HH6 : Hid (Hs.At W6 s.hs) := HKE.out.below hWB6
                rw [hla]
                have HLA : Hid ((s.os.z i).ls.a = some ⟨bl, ol, none⟩) := hla
                clear hla hlk hsk hZL hgd hW6 hWB6 K6 HKE
                go_wp2_with fail
                rw [HW6.out]
                clear hbl y0 y1 y2 y3 HW6 HK HB l1 d0 d1 l2 c0 c1 c2 c3 c4 c5 c6
                generalize wr.heap.size = BL at *
                refine Calls.mono (Kept_rightW s.hs i j W6 HH6.out HR.out.fm.hold) ?_
                rintro e w7 ⟨rfl, hB7⟩
                have HK7 : Hid (Blk w7 BT 43 (p.ns * 4) (hc (fun g => lineT s i g j (ordT s g i)))) := HK6.out.below hB7
                have HL7 : Hid (Blk w7 BL 68 4 (fun q => (#[.int .i64 (gd : Int), .int .i64 ZL.l, .int .i64 ZL.b, .int .i64 ZL.n] : Array Value).getD q default)) := HL6.out.below hB7
                have HB7 : Hid (Below W0.heap.size W0 w7) := HB6.out.trans (hB7.mono HB6.out.size)
                clear hB7 HK6 HL6 HB6 HH6
                have kb := keptS_bd (z := s.hs.z) i j s.hs.n fun q hq => (fineH_true (right_fine HR.out.fm.hold q hq)).2.2.2
                have h72 := HR.out.fm.hs72
                have HTL : Hid (TotLe (lineT s i gd j (ordT s gd i)) (43200 * i + 14400 * j)) := lineT_le HR.out.fm hil (ordT_le HR.out.fm (by omega)) hj
                have HAD : Hid (∀ g, addT (lineT s i g j (ordT s g i)) ZL (keptS s.hs.z i j s.hs.n) g = lineT s i g (j + 1) (ordT s g i)) := fun g => by show _ = addT _ ((s.os.z i).ls.z j) _ g; rw [HZL.out]
                generalize keptS s.hs.z i j s.hs.n = KP at *
                obtain ⟨T0, hT0⟩ : ∃ T, lineT s i gd j (ordT s gd i) = T := ⟨_, rfl⟩
                have HT0 : Hid (lineT s i gd j (ordT s gd i) = T0) := hT0
                rw [hT0] at HTL
                obtain ⟨⟨tl1, tl2⟩, ⟨tb1, tb2⟩, tn1, tn2⟩ := HTL.out
                clear hT0 HTL
                have z1 := HK7.out.lt
                have z2 := HK7.out.frozen (gd * 4 + 1)
                have z3 : w7.cell? ⟨BT, gd * 4 + 1, none⟩ = some (.int .i64 T0.l) := by
                  rw [HK7.out.cell (j := gd * 4 + 1) (by omega), (hc_at _ gd).2.1, HT0.out]
                have z4 : w7.cell? ⟨BL, 0, none⟩ = some (.int .i64 (gd : Int)) := HL7.out.cell (j := 0) (by decide)
                have z5 := HL7.out.lt
                have g0 : (0 : Int) ≤ (gd : Int) := by omega
                have g1 : (gd : Int) < (p.ns : Int) := by omega
                have HK8 : Hid (Blk (w7.setCell ⟨BT, gd * 4 + 1, none⟩ (.int .i64 (T0.l + KP))) BT 43 (p.ns * 4) (hc (fun g => if g = gd then setHd (lineT s i g j (ordT s g i)) 1 (T0.l + KP) else lineT s i g j (ordT s g i)))) := HK7.out.setF gd 1 (by decide) (T0.l + KP)
                have HL8 : Hid (Blk (w7.setCell ⟨BT, gd * 4 + 1, none⟩ (.int .i64 (T0.l + KP))) BL 68 4 (fun q => (#[.int .i64 (gd : Int), .int .i64 ZL.l, .int .i64 ZL.b, .int .i64 ZL.n] : Array Value).getD q default)) := HL7.out.other (a := ⟨BT, gd * 4 + 1, none⟩) (Blk.ne2 HL7.out HK7.out (by decide)) _
                have HB8 : Hid (Below W0.heap.size W0 (w7.setCell ⟨BT, gd * 4 + 1, none⟩ (.int .i64 (T0.l + KP)))) := HB7.out.setCell (p := ⟨BT, gd * 4 + 1, none⟩) hA2 _
                clear HK7 HL7 HB7
                go_wp2_with fail
                clear z1 z2 z3 z4 z5
                generalize (w7.setCell ⟨BT, gd * 4 + 1, none⟩ (.int .i64 (T0.l + KP))) = W8 at *
                have u1 : W8.cell? ⟨BT, gd * 4 + 2, none⟩ = some (.int .i64 T0.b) := by
                  rw [HK8.out.cell (j := gd * 4 + 2) (by omega), (hc_at _ gd).2.2.1, if_pos rfl, HT0.out]
                  rfl
                have u2 : W8.cell? ⟨BL, 3, none⟩ = some (.int .i64 ZL.n) := HL8.out.cell (j := 3) (by decide)
                have u3 := HK8.out.lt
                have u4 := HL8.out.lt
                have ru1 := fun d os => cell_regrown u1 d os
                have ru2 := fun d os => cell_regrown u2 d os
                clear u1 u2
                refine wp_region_ph [(true, [0, 1, 2, 3, 4, 5, 6, 7, 8], some 9)] (by kernel_rfl) (by kernel_rfl) (by kernel_rfl) (by kernel_rfl) (by kernel_rfl) ?_
                refine ⟨fun w' => ∃ p : Regrown, w' = grow (redrawn W8 p.d) p.os, regrown_of_below ((Below.refl _ _).drew), fun h => (by cases h), ?_⟩
                simp only [picks, List.drop_succ_cons, List.drop_zero, List.take_succ_cons, List.take_zero, List.cons_append, List.nil_append]
                repeat (go_big_quiet_step (fail))
                refine wpQuiet_nil ?_
                clear ru1 ru2 u3 u4
                have hBd : Below W8.heap.size W8 W8.drew := (Below.refl _ _).drew
                generalize W8.drew = wj at *
                have HKj : Hid (Blk wj BT 43 (p.ns * 4) (hc (fun g => if g = gd then setHd (lineT s i g j (ordT s g i)) 1 (T0.l + KP) else lineT s i g j (ordT s g i)))) := HK8.out.below hBd
                have HLj : Hid (Blk wj BL 68 4 (fun q => (#[.int .i64 (gd : Int), .int .i64 ZL.l, .int .i64 ZL.b, .int .i64 ZL.n] : Array Value).getD q default)) := HL8.out.below hBd
                have HBj : Hid (Below W0.heap.size W0 wj) := HB8.out.trans (hBd.mono HB8.out.size)
                have b1 := HKj.out.lt
                have b2 := HKj.out.frozen (gd * 4 + 2)
                have b3 := HKj.out.cell (j := gd * 4 + 2) (by omega)
                have HK9 : Hid (Blk (wj.setCell ⟨BT, gd * 4 + 2, none⟩ (.int .i64 (T0.b + ZL.n))) BT 43 (p.ns * 4) (hc (fun g => if g = gd then setHd (setHd (lineT s i g j (ordT s g i)) 1 (T0.l + KP)) 2 (T0.b + ZL.n) else lineT s i g j (ordT s g i)))) := (HKj.out.setF gd 2 (by decide) (T0.b + ZL.n)).cong4 (fun q _ => by
                  by_cases hq : q = gd
                  · rw [if_pos hq, if_pos hq, if_pos hq]
                  · rw [if_neg hq, if_neg hq, if_neg hq])
                have HL9 : Hid (Blk (wj.setCell ⟨BT, gd * 4 + 2, none⟩ (.int .i64 (T0.b + ZL.n))) BL 68 4 (fun q => (#[.int .i64 (gd : Int), .int .i64 ZL.l, .int .i64 ZL.b, .int .i64 ZL.n] : Array Value).getD q default)) := HLj.out.other (a := ⟨BT, gd * 4 + 2, none⟩) (Blk.ne2 HLj.out HKj.out (by decide)) _
                have HB9 : Hid (Below W0.heap.size W0 (wj.setCell ⟨BT, gd * 4 + 2, none⟩ (.int .i64 (T0.b + ZL.n)))) := HBj.out.setCell (p := ⟨BT, gd * 4 + 2, none⟩) hA2 _
                clear hBd HKj HLj HBj HK8 HL8 HB8
                refine wpOp_one 9 rfl ?_
                go_wp2_with fail
                refine NoPanic.normal ?_
                clear b1 b2 b3
                generalize wj.setCell ⟨BT, gd * 4 + 2, none⟩ (.int .i64 (T0.b + ZL.n)) = W9 at *
                go_wp2_with fail
                have u1 : W9.cell? ⟨BT, gd * 4 + 3, none⟩ = some (.int .i64 T0.n) := by
                  rw [HK9.out.cell (j := gd * 4 + 3) (by omega), (hc_at _ gd).2.2.2, if_pos rfl, HT0.out]
                  rfl
                have u2 : W9.cell? ⟨BL, 2, none⟩ = some (.int .i64 ZL.b) := HL9.out.cell (j := 2) (by decide)
                have u3 := HK9.out.lt
                have u4 := HL9.out.lt
                have ru1 := fun d os => cell_regrown u1 d os
                have ru2 := fun d os => cell_regrown u2 d os
                clear u1 u2
                refine wp_region_ph [(true, [0, 1, 2, 3, 4, 5, 6, 7, 8], some 9)] (by kernel_rfl) (by kernel_rfl) (by kernel_rfl) (by kernel_rfl) (by kernel_rfl) ?_
                refine ⟨fun w' => ∃ p : Regrown, w' = grow (redrawn W9 p.d) p.os, regrown_of_below ((Below.refl _ _).drew), fun h => (by cases h), ?_⟩
                simp only [picks, List.drop_succ_cons, List.drop_zero, List.take_succ_cons, List.take_zero, List.cons_append, List.nil_append]
                repeat (go_big_quiet_step (fail))
                refine wpQuiet_nil ?_
                clear ru1 ru2 u3 u4
                have hBd : Below W9.heap.size W9 W9.drew := (Below.refl _ _).drew
                generalize W9.drew = wj at *
                have HKj : Hid (Blk wj BT 43 (p.ns * 4) (hc (fun g => if g = gd then setHd (setHd (lineT s i g j (ordT s g i)) 1 (T0.l + KP)) 2 (T0.b + ZL.n) else lineT s i g j (ordT s g i)))) := HK9.out.below hBd
                have HLj : Hid (Blk wj BL 68 4 (fun q => (#[.int .i64 (gd : Int), .int .i64 ZL.l, .int .i64 ZL.b, .int .i64 ZL.n] : Array Value).getD q default)) := HL9.out.below hBd
                have HBj : Hid (Below W0.heap.size W0 wj) := HB9.out.trans (hBd.mono HB9.out.size)
                have b1 := HKj.out.lt
                have b2 := HKj.out.frozen (gd * 4 + 3)
                have b3 := HKj.out.cell (j := gd * 4 + 3) (by omega)
                have HK10 : Hid (Blk (wj.setCell ⟨BT, gd * 4 + 3, none⟩ (.int .i64 (T0.n + ZL.b))) BT 43 (p.ns * 4) (hc (fun g => lineT s i g (j + 1) (ordT s g i)))) := (HKj.out.setF gd 3 (by decide) (T0.n + ZL.b)).cong4 (fun q _ => by
                  rw [← HAD.out q]
                  unfold addT
                  by_cases hq : q = gd
                  · rw [if_pos hq, if_pos hq, if_pos (by rw [HGD.out]; omega), hq, HT0.out]
                    rfl
                  · rw [if_neg hq, if_neg hq, if_neg (by rw [HGD.out]; omega)])
                have HL10 : Hid (Blk (wj.setCell ⟨BT, gd * 4 + 3, none⟩ (.int .i64 (T0.n + ZL.b))) BL 68 4 (fun q => (#[.int .i64 (gd : Int), .int .i64 ZL.l, .int .i64 ZL.b, .int .i64 ZL.n] : Array Value).getD q default)) := HLj.out.other (a := ⟨BT, gd * 4 + 3, none⟩) (Blk.ne2 HLj.out HKj.out (by decide)) _
                have HB10 : Hid (Below W0.heap.size W0 (wj.setCell ⟨BT, gd * 4 + 3, none⟩ (.int .i64 (T0.n + ZL.b)))) := HBj.out.setCell (p := ⟨BT, gd * 4 + 3, none⟩) hA2 _
                clear hBd HKj HLj HBj HK9 HL9 HB9
                refine wpOp_one 9 rfl ?_
                go_wp2_with fail
                refine NoPanic.normal ?_
                clear b1 b2 b3
                generalize wj.setCell ⟨BT, gd * 4 + 3, none⟩ (.int .i64 (T0.n + ZL.b)) = W10 at *
                go_wp2_with fail
                go_roundw
                case rel => exact ⟨j + 1, by omega, by go_num, HK10, HB10⟩
                case measure => simp [intOf]; omega
              · have q5 : ((s.os.z i).ls.n : Int) ≤ (j : Int) := by omega
                have hjn : j = (s.os.z i).ls.n := by omega
                have HKN : Hid (Blk wr BT 43 (p.ns * 4) (hc (fun g => ordT s g (i + 1)))) := HK.out.cong4 (fun q _ => by rw [hjn]; rfl)
                clear hsk l1 d0 d1 l2 c0 c1 c2 c3 c4 c5 c6 HK hjn
                go_wp2_with fail
                go_roundw
                case rel => exact ⟨i + 1, by omega, by go_num, HKN, HB⟩
                case measure => simp [intOf]; omega
          · have q3 : (s.os.n : Int) ≤ (i : Int) := by omega
            have hin : i = s.os.n := by omega
            have HKE : Hid (Blk wr BT 43 (p.ns * 4) (hc (fun g => totT s g))) := HK.out.cong4 (fun j _ => by rw [hin]; rfl)
            clear hsk
            go_wp2_with fail
            refine bodyPost_ret (results_tmp2 rfl _ _ _) rfl ?_
            refine ⟨⟨some ⟨BT, 0, none⟩, p.ns, p.ns, fun g => totT s g⟩, by rw [H0.out]; rfl, ⟨Nat.le_refl _, by show p.ns ≤ maxLen; unfold maxLen; omega, HKE.out.hds, fun e => by cases e⟩, fun _ => ⟨rfl, fun _ _ => rfl⟩, fun h => absurd H0.out h, hBw⟩
  · have g0 : (stateE p s != 0) = true := by simpa using h0
    have H0 : Hid (¬ stateE p s = 0) := h0
    clear h0
    go_wp2_with fail
    refine bodyPost_ret (results_tmp2 rfl _ _ _) rfl ?_
    exact ⟨⟨none, 0, 0, fun _ => hd0⟩, rfl, ⟨Nat.le_refl _, Nat.zero_le _, fun i hi => absurd hi (Nat.not_lt_zero _), fun _ => rfl⟩, fun h => absurd h H0.out, fun _ => rfl, hBw⟩
end Go.Proofs.YtbcacebifpagpafGreat
namespace Go.Proofs.YtbcacebifpagpafGreat
open Go.RowKit Go.Shelf Go.Sort
set_option linter.unusedVariables false
def openV (p : Pl) (s : St) : Int := if stateE p s = 0 then (openN s s.os.n : Nat) else 0
theorem openN_hit {s : St} {i : Nat} (h : (s.os.z i).k = 2) : openN s (i + 1) = openN s i := by simp only [openN]; rw [if_pos h, Nat.add_zero]
theorem openN_miss {s : St} {i : Nat} (h : ¬ (s.os.z i).k = 2) : openN s (i + 1) = openN s i + 1 := by simp only [openN]; rw [if_neg h]
set_option maxRecDepth 100000 in
set_option maxHeartbeats 4000000 in
theorem Open_any (p : Pl) (s : St) (w : World) (hp : p.At w) (hs : s.At w) :
    Calls Tryz.prog 27 #[p.val, s.val] w fun e w' => e = .returned (.tuple #[.int .i64 (openV p s), .int .i64 (stateE p s)]) ∧ Below w.heap.size w w' := by
  obtain ⟨W0, hW, hWB, X0⟩ : ∃ W, ((w.alloc (.cells #[.slice p.ab p.nb p.cb, .slice p.sa p.ns p.cs] 25)).alloc (.cells s.cells 31)) = W ∧ Below w.heap.size w W ∧ Boxes W w.heap.size (w.heap.size + 1) p s := ⟨_, rfl, two_below _ _ _, boxes_new w p s _ _⟩
  have HC : Hid (∀ wk, Below W0.heap.size W0 wk → Boxes wk w.heap.size (w.heap.size + 1) p s ∧ p.At wk ∧ s.At wk ∧ Below w.heap.size w wk) := fun wk h => ⟨X0.below h, (hp.below hWB).below h, (hs.below hWB).below h, hWB.trans (h.mono hWB.size)⟩
  have HW : Hid ((w.alloc (.cells #[.slice p.ab p.nb p.cb, .slice p.sa p.ns p.cs] 25)).alloc (.cells #[.slice s.on.a s.on.n s.on.c, .slice s.os.a s.os.n s.os.c, .slice s.hs.a s.hs.n s.hs.c, .slice s.ms.a s.ms.n s.ms.c, .slice s.si.a s.si.n s.si.c, .slice s.so.a s.so.n s.so.c, .slice s.sf.a s.sf.n s.sf.c] 31) = W0) := hW
  have osl := hs.os.le
  have osc := hs.os.cap
  unfold maxLen at osc
  clear hW X0 hp hs
  unfold Pl.val St.val
  go_enter Tryz.func27, Tryz.ntmps27
  go_wp2_with fail
  rw [HW.out]
  refine (stateCheck_any p s W0 (HC.out W0 (Below.refl _ _)).2.1 (HC.out W0 (Below.refl _ _)).2.2.1).mono ?_
  rintro e w1 ⟨rfl, hB⟩
  clear HW
  obtain ⟨⟨⟨l1, d0, d1⟩, l2, c0, c1, c2, c3, c4, c5, c6⟩, -, -, hBw⟩ := HC.out w1 hB
  by_cases h0 : stateE p s = 0
  · have HR : Hid (RightT p s) := rightT h0
    have HV : Hid (openV p s = (openN s s.os.n : Nat) ∧ stateE p s = 0) := ⟨by unfold openV; rw [if_pos h0], h0⟩
    have os4 := HR.out.fm.os4
    have HB1 : Hid (Below W0.heap.size W0 w1) := hB
    rw [h0]
    clear h0 hBw hB
    go_wp2_with fail
    clear l1 d0 d1 l2 c0 c1 c2 c3 c4 c5 c6
    go_loopw [7, 19] (fun ov iv wk => ∃ i : Nat, i ≤ s.os.n ∧ iv = .int .i64 i ∧ ov = .int .i64 (openN s i : Nat) ∧ Hid (Below W0.heap.size W0 wk)) (fun _ iv _ => s.os.n - (intOf iv).toNat)
    case atStart => exact ⟨0, Nat.zero_le _, rfl, rfl, HB1⟩
    case round =>
      clear HB1
      obtain ⟨i, hi, rfl, rfl, HB⟩ := hrel
      have on := openN_le s i
      obtain ⟨-, -, hsk, hBw⟩ := HC.out wr HB.out
      by_cases hil : i < s.os.n
      · have q2 : (0 : Int) ≤ (i : Int) := by omega
        have q3 : (i : Int) < (s.os.n : Int) := by omega
        obtain ⟨bo, oo, hoa, hbo, z0, z1, hlk⟩ := hsk.os.ods i hil
        have HB4 : Hid (Below W0.heap.size W0 (wr.alloc (.cells #[.int .i64 (s.os.z i).k, .slice (s.os.z i).ls.a (s.os.z i).ls.n (s.os.z i).ls.c] 66))) := HB.out.alloc HB.out.size _
        by_cases hk : (s.os.z i).k = 2
        · have HO := openN_hit hk
          have HO2 : Hid (openN s (i + 1) = openN s i) := HO
          have hk' : ((s.os.z i).k != 2) = false := by rw [hk]; rfl
          rw [hoa]
          clear hoa HO hlk hk hsk hBw
          generalize (s.os.z i).k = KD at *
          go_wp2_with fail
          go_roundw
          case rel => exact ⟨i + 1, by omega, by go_num, by rw [HO2.out], HB4⟩
          case measure => simp [intOf]; omega
        · have HO := openN_miss hk
          have HO2 : Hid (openN s (i + 1) = openN s i + 1) := HO
          have hk' : ((s.os.z i).k != 2) = true := by simpa using hk
          rw [hoa]
          clear hoa HO hlk hk hsk hBw
          generalize (s.os.z i).k = KD at *
          go_wp2_with fail
          go_roundw
          case rel => exact ⟨i + 1, by omega, by go_num, by rw [HO2.out]; go_num, HB4⟩
          case measure => simp [intOf]; omega
      · have q3 : (s.os.n : Int) ≤ (i : Int) := by omega
        have hin : i = s.os.n := by omega
        have HIN : Hid (i = s.os.n) := hin
        clear hsk hin
        go_wp2_with fail
        go_ret2
        exact ⟨by rw [HV.out.1, HV.out.2, HIN.out]; rfl, hBw⟩
  · have g0 : (stateE p s != 0) = true := by simpa using h0
    have HV : Hid (openV p s = 0) := by show openV p s = 0; unfold openV; rw [if_neg h0]
    clear h0
    go_wp2_with fail
    go_ret2
    exact ⟨by rw [HV.out]; rfl, hBw⟩
end Go.Proofs.YtbcacebifpagpafGreat
namespace Go.Proofs.YtbcacebifpagpafGreat
open Go.RowKit Go.Shelf Go.Sort
set_option linter.unusedVariables false
theorem totBusy (g1 g2 g : Nat) : totT (busyS g 2 0) 0 = ⟨12, 5, 0, 1⟩ ∧ totT (busyS g 2 0) 1 = ⟨6, 6, 3, 0⟩ ∧ openV (yardP g1 g2) (busyS g 2 0) = 2 := ⟨by kernel_rfl, by kernel_rfl, by kernel_rfl⟩
set_option maxRecDepth 100000 in
set_option maxHeartbeats 4000000 in
theorem bookBegun_any (w : World) :
    Calls Tryz.prog 7 #[] w fun e w' => e = .returned (.bool true) ∧ Below w.heap.size w w' := by
  go_enter Tryz.func7, Tryz.ntmps7
  go_wp2_with fail
  refine (yard_any _).mono ?_
  rintro e wa ⟨g1, g2, rfl, -, -, k1, k2, hA⟩
  go_wp2_with fail
  refine (busy_any _).mono ?_
  rintro e wb ⟨g, rfl, -, bb, hB⟩
  have hD := hA.trans (hB.mono hA.size)
  have HAT : Hid ((yardP g1 g2).At wb ∧ (busyS g 2 0).At wb) := ⟨yardAt (k1.below hB) (k2.below hB), busyAt bb⟩
  clear hA hB k1 k2 bb
  simp only [busyS, St.val]
  go_wp2_with fail
  refine (Totals_any (yardP g1 g2) (busyS g 2 0) wb HAT.out.1 HAT.out.2).mono ?_
  rintro e w1 ⟨h, rfl, hat, hok, -, hB⟩
  have hE := hD.trans (hB.mono hD.size)
  have HT : Hid (h.n = 2 ∧ h.z 0 = ⟨12, 5, 0, 1⟩ ∧ h.z 1 = ⟨6, 6, 3, 0⟩) := by
    obtain ⟨a, b⟩ := hok (busyE g1 g2 g).1
    exact ⟨a, (b 0 (show 0 < 2 by decide)).trans (totBusy g1 g2 g).1, (b 1 (show 1 < 2 by decide)).trans (totBusy g1 g2 g).2.1⟩
  have HE : Hid (Below w.heap.size w w1) := hE
  have HH : Hid (h.At w1) := hat
  rw [(busyE g1 g2 g).1]
  clear hD hB HAT hok hat hE
  go_wp2_with fail
  refine (yard_any _).mono ?_
  rintro e wa ⟨g1, g2, rfl, -, -, k1, k2, hA⟩
  go_wp2_with fail
  refine (busy_any _).mono ?_
  rintro e wb ⟨g, rfl, -, bb, hB⟩
  have hD := hA.trans (hB.mono hA.size)
  have HAT : Hid ((yardP g1 g2).At wb ∧ (busyS g 2 0).At wb) := ⟨yardAt (k1.below hB) (k2.below hB), busyAt bb⟩
  clear hA hB k1 k2 bb
  simp only [busyS, St.val]
  go_wp2_with fail
  refine (Open_any (yardP g1 g2) (busyS g 2 0) wb HAT.out.1 HAT.out.2).mono ?_
  rintro e w2 ⟨rfl, hB⟩
  have hE := hD.trans (hB.mono hD.size)
  rw [(busyE g1 g2 g).1, (totBusy g1 g2 g).2.2]
  have hF := HE.out.trans (hE.mono HE.out.size)
  have hat := HH.out.below hE
  obtain ⟨hn, h0, h1⟩ := HT.out
  obtain ⟨b5, o5, ha5, hb5, y50, y51, y52, y53⟩ := hat.hds 0 (by omega)
  obtain ⟨b6, o6, ha6, hb6, y60, y61, y62, y63⟩ := hat.hds 1 (by omega)
  rw [ha5] at ha6
  simp only [Option.some.injEq, Addr.mk.injEq, and_true] at ha6
  obtain ⟨rfl, rfl⟩ := ha6
  rw [h0] at y50 y51 y52 y53
  rw [h1] at y60 y61 y62 y63
  have hle := hat.le
  have hcap := hat.cap
  unfold maxLen at hcap
  dsimp only at y50 y51 y52 y53 y60 y61 y62 y63
  rw [hn] at hle
  rw [ha5, hn]
  clear hD hB HAT HE HH HT hE hat hn h0 h1 ha5 hb6
  simp only [Nat.zero_mul, Nat.add_zero] at y50 y51 y52 y53
  go_wp2_with fail
  go_ret
  exact ⟨by simp, hF⟩
end Go.Proofs.YtbcacebifpagpafGreat
namespace Go.Proofs.YtbcacebifpagpafGreat
set_option linter.unusedVariables false
def lexL (ops : Array Oper) : Nat → List Oper → Bool
  | _, [] => true
  | k, o :: rest => o.after.all (fun e => !Region.binds .any e || decide (e.on < k)) && rest.all (fun oj => oj.after.any (fun e => Region.binds .any e && e.on == k) || o.apart ops oj) && lexL ops (k + 1) rest
theorem lexFrom_of {ops : Array Oper} : ∀ (l : List Oper) (k : Nat) (listed : Array Bool), (∀ j, l[j]? = ops[k + j]?) → k + l.length = ops.size → listed.size = ops.size → (∀ j, j < k → listed.getD j false = true ∧ listed.getD j true = true) → (∀ j, k ≤ j → j < ops.size → listed.getD j true = false) → lexL ops k l = true → Region.lexFrom .any ops l.length k listed = true
  | [], k, listed, _, hk, hs, h1, _, _ => by
    show (Region.ready .any ops listed).isEmpty = true
    rw [List.isEmpty_iff]
    apply List.eq_nil_iff_forall_not_mem.2
    intro j hj
    have m := (mem_ready.1 hj).1
    obtain ⟨-, o, ho, -⟩ := mem_ready.1 hj
    have hlt := (Array.getElem?_eq_some_iff.1 ho).1
    rw [(h1 j (by simp at hk; omega)).2] at m
    cases m
  | o :: l, k, listed, hl, hk, hs, h1, h2, hB => by
    have h0 : ops[k]? = some o := by simpa using (hl 0).symm
    simp only [List.length_cons] at hk
    have hkn : k < ops.size := by omega
    simp only [lexL, Bool.and_eq_true] at hB
    obtain ⟨⟨b1, b2⟩, b3⟩ := hB
    simp only [List.length_cons, Region.lexFrom, Bool.and_eq_true]
    refine ⟨⟨?_, ?_⟩, ?_⟩
    · rw [List.contains_iff_mem]
      refine mem_ready.2 ⟨h2 k (Nat.le_refl _) hkn, o, h0, fun e he hb => ?_⟩
      have h3 := (Array.all_eq_true_iff_forall_mem.1 b1) e he
      rw [hb] at h3
      simp only [Bool.not_true, Bool.false_or, decide_eq_true_eq] at h3
      exact (h1 _ h3).1
    · unfold Region.free
      rw [h0]
      simp only [List.all_eq_true, List.mem_range]
      intro j hj
      by_cases e1 : j = k
      · rw [e1]; simp
      · by_cases e2 : j < k
        · rw [(h1 j e2).2]; simp
        · obtain ⟨i, hi⟩ : ∃ i, j = k + (i + 1) := ⟨j - k - 1, by omega⟩
          have hlj := hl (i + 1)
          rw [← hi] at hlj
          have hls : l[i]? = ops[j]? := by simpa using hlj
          obtain ⟨oj, hoj⟩ : ∃ oj, ops[j]? = some oj := ⟨ops[j], Array.getElem?_eq_getElem hj⟩
          rw [hoj]
          have hm : oj ∈ l := List.mem_of_getElem? (hls.trans hoj)
          have h3 := (List.all_eq_true.1 b2) oj hm
          simp only [h3, Bool.or_true]
    · refine lexFrom_of l (k + 1) _ (fun j => ?_) (by omega) (by simpa using hs) (fun j hj => ?_) (fun j hj hjn => ?_) b3
      · have := hl (j + 1)
        simpa [Nat.add_assoc, Nat.add_comm 1 j] using this
      · have hks : k < listed.size := by omega
        by_cases e : j = k
        · subst e
          simp [Array.getD, hks]
        · rw [getD_set_ne false (fun h => e h.symm), getD_set_ne true (fun h => e h.symm)]
          exact h1 j (by omega)
      · rw [getD_set_ne true (by omega)]
        exact h2 j (by omega) hjn
theorem lexB_of {l : List Oper} (hs : Region.noSelect l.toArray = true) (h : lexL l.toArray 0 l = true) : Region.lexB .any l.toArray = true := by
  unfold Region.lexB
  rw [hs, Bool.true_and]
  have e : l.toArray.size = l.length := by simp
  rw [e]
  refine lexFrom_of l 0 _ (fun j => by simp) (by simp) (by simp) (fun j hj => absurd hj (Nat.not_lt_zero _)) (fun j _ hj => ?_) h
  have hj' : j < l.length := by simpa using hj
  simp [Array.getD, hj']
end Go.Proofs.YtbcacebifpagpafGreat
namespace Go.Proofs.YtbcacebifpagpafGreat
open Go.RowKit Go.Shelf Go.Sort
set_option linter.unusedVariables false
set_option maxRecDepth 100000 in
set_option maxHeartbeats 8000000 in
theorem BookKept_walk (p : Pl) (s : St) (x : Ax) (w : World) (hp : p.At w) (hs : s.At w) (hx : x.ls.At w) :
    Calls Tryz.prog 3 #[p.val, s.val, x.val] w fun e w' => e = .returned (.bool true) ∧ Below w.heap.size w w' := by
  obtain ⟨W0, hW, hWB, X0, XA⟩ : ∃ W, ((w.alloc (.cells #[.slice p.ab p.nb p.cb, .slice p.sa p.ns p.cs] 25)).alloc (.cells s.cells 31)).alloc (.cells x.cells 34) = W ∧ Below w.heap.size w W ∧ Boxes W w.heap.size (w.heap.size + 1) p s ∧ Blk W (w.heap.size + 2) 34 6 (fun j => x.cells.getD j default) := ⟨_, rfl, (two_below _ _ _).alloc (by simp; omega) _, (boxes_new w p s _ _).below ((Below.refl _ _).alloc (Nat.le_refl _) _), Blk.mk' (cur := x.cells) (by simp) rfl⟩
  have HC : Hid (∀ wk, Below W0.heap.size W0 wk → Boxes wk w.heap.size (w.heap.size + 1) p s ∧ p.At wk ∧ s.At wk ∧ Below w.heap.size w wk) := fun wk h => ⟨X0.below h, (hp.below hWB).below h, (hs.below hWB).below h, hWB.trans (h.mono hWB.size)⟩
  have HXA : Hid (∀ wk, Below W0.heap.size W0 wk → Blk wk (w.heap.size + 2) 34 6 (fun j => x.cells.getD j default) ∧ x.ls.At wk) := fun wk h => ⟨XA.below h, (hx.below hWB).below h⟩
  have HW : Hid (((w.alloc (.cells #[.slice p.ab p.nb p.cb, .slice p.sa p.ns p.cs] 25)).alloc (.cells #[.slice s.on.a s.on.n s.on.c, .slice s.os.a s.os.n s.os.c, .slice s.hs.a s.hs.n s.hs.c, .slice s.ms.a s.ms.n s.ms.c, .slice s.si.a s.si.n s.si.c, .slice s.so.a s.so.n s.so.c, .slice s.sf.a s.sf.n s.sf.c] 31)).alloc (.cells #[.int .i64 x.k, .int .i64 x.a, .int .i64 x.b, .int .i64 x.c, .int .i64 x.n, .slice x.ls.a x.ls.n x.ls.c] 34) = W0) := hW
  have HB : Hid (Below W0.heap.size W0 W0) := Below.refl _ _
  have leb := hp.leb
  have capb0 := hp.capb
  have capb := capb0
  unfold maxLen at capb
  have ssi := hs.si.le
  have ssc := hs.si.cap
  have sso := hs.so.le
  have ssoc := hs.so.cap
  have ssf := hs.sf.le
  have ssfc := hs.sf.cap
  unfold maxLen at ssc ssoc ssfc
  clear hW X0 XA hp hs hx
  unfold Pl.val St.val Ax.val Ax.cells
  go_enter Tryz.func3, Tryz.ntmps3
  go_wp2_with fail
  rw [HW.out]
  clear HW
  refine Calls.mono (Do_any p s x W0 (HC.out W0 HB.out).2.1 (HC.out W0 HB.out).2.2.1 (HXA.out W0 HB.out).2) ?_
  rintro e w1 ⟨y, rfl, yat, yok, -, hB⟩
  have HYOK : Hid (ActOK (doE p s x) (doT p s x) y) := yok
  clear yok
  have HB : Hid (Below W0.heap.size W0 w1) := HB.out.trans (hB.mono HB.out.size)
  clear hB
  have ysi := yat.si.le
  have ysc := yat.si.cap
  have yso := yat.so.le
  have ysoc := yat.so.cap
  have ysf := yat.sf.le
  have ysfc := yat.sf.cap
  unfold maxLen at ysc ysoc ysfc
  obtain ⟨W2, hW, hWB, K1⟩ : ∃ W, w1.alloc (.cells #[.slice y.on.a y.on.n y.on.c, .slice y.os.a y.os.n y.os.c, .slice y.hs.a y.hs.n y.hs.c, .slice y.ms.a y.ms.n y.ms.c, .slice y.si.a y.si.n y.si.c, .slice y.so.a y.so.n y.so.c, .slice y.sf.a y.sf.n y.sf.c] 31) = W ∧ Below w1.heap.size w1 W ∧ Blk W w1.heap.size 31 7 (fun j => y.cells.getD j default) := ⟨_, rfl, (Below.refl _ _).alloc (Nat.le_refl _) _, Blk.mk' rfl rfl⟩
  have HW : Hid (w1.alloc (.cells #[.slice y.on.a y.on.n y.on.c, .slice y.os.a y.os.n y.os.c, .slice y.hs.a y.hs.n y.hs.c, .slice y.ms.a y.ms.n y.ms.c, .slice y.si.a y.si.n y.si.c, .slice y.so.a y.so.n y.so.c, .slice y.sf.a y.sf.n y.sf.c] 31) = W2) := hW
  have Hy : Hid (y.At W2 ∧ Blk W2 w1.heap.size 31 7 (fun j => y.cells.getD j default)) := ⟨yat.below hWB, K1⟩
  clear hW K1 yat
  have HB : Hid (Below W0.heap.size W0 W2) := HB.out.trans (hWB.mono HB.out.size)
  clear hWB
  by_cases h0 : doE p s x = 0
  · have HSY : Hid (SameT y (doT p s x)) := HYOK.out.1 h0
    have HR : Hid (RightT p s) := (do_right h0).1
    have HRT : Hid (RightT p (doT p s x)) := (do_right h0).2
    have HRY : Hid (RightT p y) := HSY.out.right HRT.out
    have HES : Hid (stateE p s = 0) := stateE_of HR.out
    have HEY : Hid (stateE p y = 0) := stateE_of HRY.out
    have HK3 : Hid (∀ g, g < p.ns → Kept3 s y g) := fun g hg => (do_kept3 hg h0).same HSY.out (by rw [HRT.out.fm.son]; exact hg)
    rw [h0]
    clear h0 HYOK
    obtain ⟨⟨⟨l1, d0, d1⟩, l2, c0, c1, c2, c3, c4, c5, c6⟩, -, -, -⟩ := HC.out W2 HB.out
    rw [← HW.out] at l1 d0 d1 l2 c0 c1 c2 c3 c4 c5 c6
    simp only [St.val]
    go_wp2_with fail
    rw [HW.out]
    clear HW
    generalize w1.heap.size = By at *
    clear l1 d0 d1 l2 c0 c1 c2 c3 c4 c5 c6
    refine Calls.mono (Totals_any p s W2 (HC.out W2 HB.out).2.1 (HC.out W2 HB.out).2.2.1) ?_
    rintro e w3 ⟨ta, rfl, taat, tav, -, hB⟩
    have HTA : Hid (ta.At w3) := taat
    have HTV : Hid (ta.n = p.ns ∧ ∀ g, g < p.ns → ta.z g = totT s g) := tav HES.out
    rw [HES.out]
    have tal := taat.le
    have tac := taat.cap
    unfold maxLen at tac
    clear taat tav
    have Hy : Hid (y.At w3 ∧ Blk w3 By 31 7 (fun j => y.cells.getD j default)) := ⟨Hy.out.1.below hB, Hy.out.2.below hB⟩
    have HB : Hid (Below W0.heap.size W0 w3) := HB.out.trans (hB.mono HB.out.size)
    clear hB
    obtain ⟨⟨⟨l1, d0, d1⟩, l2, c0, c1, c2, c3, c4, c5, c6⟩, -, -, -⟩ := HC.out w3 HB.out
    obtain ⟨ym, yc0, yc1, yc2, yc3, yc4, yc5, yc6⟩ := Boxed.of Hy.out.2
    go_wp2_with fail
    clear l1 d0 d1 l2 c0 c1 c2 c3 c4 c5 c6 ym yc0 yc1 yc2 yc3 yc4 yc5 yc6
    refine Calls.mono (Totals_any p y w3 (HC.out w3 HB.out).2.1 Hy.out.1) ?_
    rintro e w4 ⟨tb, rfl, tbat, tbv, -, hB⟩
    have HTB : Hid (tb.At w4) := tbat
    have HTW : Hid (tb.n = p.ns ∧ ∀ g, g < p.ns → tb.z g = totT y g) := tbv HEY.out
    rw [HEY.out]
    have tbl := tbat.le
    have tbc := tbat.cap
    unfold maxLen at tbc
    clear tbat tbv
    have Hy : Hid (y.At w4 ∧ Blk w4 By 31 7 (fun j => y.cells.getD j default)) := ⟨Hy.out.1.below hB, Hy.out.2.below hB⟩
    have HTA : Hid (ta.At w4) := HTA.out.below hB
    have HB : Hid (Below W0.heap.size W0 w4) := HB.out.trans (hB.mono HB.out.size)
    clear hB
    have n1 : ((ta.n : Int) != (tb.n : Int)) = false := by rw [HTV.out.1, HTW.out.1]; simp
    have n2 : ((s.si.n : Int) != (ta.n : Int)) = false := by rw [HTV.out.1, HR.out.fm.sin]; simp
    have n3 : ((y.si.n : Int) != (ta.n : Int)) = false := by rw [HTV.out.1, HRY.out.fm.sin]; simp
    have n4 : ((s.so.n : Int) != (ta.n : Int)) = false := by rw [HTV.out.1, HR.out.fm.son]; simp
    have n5 : ((y.so.n : Int) != (ta.n : Int)) = false := by rw [HTV.out.1, HRY.out.fm.son]; simp
    have n6 : ((s.sf.n : Int) != (ta.n : Int)) = false := by rw [HTV.out.1, HR.out.fm.sfn]; simp
    have n7 : ((y.sf.n : Int) != (ta.n : Int)) = false := by rw [HTV.out.1, HRY.out.fm.sfn]; simp
    have ns3 := HR.out.fm.sh.pl.ns3
    obtain ⟨⟨⟨l1, d0, d1⟩, l2, c0, c1, c2, c3, c4, c5, c6⟩, -, -, -⟩ := HC.out w4 HB.out
    obtain ⟨ym, yc0, yc1, yc2, yc3, yc4, yc5, yc6⟩ := Boxed.of Hy.out.2
    go_wp2_with fail
    clear l1 d0 d1 l2 c0 c1 c2 c3 c4 c5 c6 ym yc0 yc1 yc2 yc3 yc4 yc5 yc6
    clear n1 n2 n3 n4 n5 n6 n7
    go_loopw [13] (fun kv wk => ∃ (k : Nat), k ≤ p.ns ∧ kv = .int .i64 k ∧ Hid (y.At wk ∧ Blk wk By 31 7 (fun j => y.cells.getD j default)) ∧ Hid (ta.At wk) ∧ Hid (tb.At wk) ∧ Hid (Below W0.heap.size W0 wk)) (fun kv _ => p.ns - (intOf kv).toNat)
    case atStart => exact ⟨0, Nat.zero_le _, rfl, Hy, HTA, HTB, HB⟩
    case round =>
      clear Hy HTA HTB HB
      obtain ⟨k, hk, rfl, Hy, HTA, HTB, HB⟩ := hrel
      by_cases hlt : k < p.ns
      · have q1 : (k : Int) < (ta.n : Int) := by rw [HTV.out.1]; omega
        obtain ⟨⟨⟨l1, d0, d1⟩, l2, c0, c1, c2, c3, c4, c5, c6⟩, -, -, -⟩ := HC.out wr HB.out
        obtain ⟨ym, yc0, yc1, yc2, yc3, yc4, yc5, yc6⟩ := Boxed.of Hy.out.2
        obtain ⟨ssiB, ssiO, ssiA, ssiL, ssiC⟩ := (HC.out wr HB.out).2.2.1.si.ints k (by rw [HR.out.fm.sin]; exact hlt)
        rw [ssiA] at c4
        have ssiN : (k : Int) < (s.si.n : Int) := by rw [HR.out.fm.sin]; omega
        clear ssiA
        obtain ⟨ssoB, ssoO, ssoA, ssoL, ssoC⟩ := (HC.out wr HB.out).2.2.1.so.ints k (by rw [HR.out.fm.son]; exact hlt)
        rw [ssoA] at c5
        have ssoN : (k : Int) < (s.so.n : Int) := by rw [HR.out.fm.son]; omega
        clear ssoA
        obtain ⟨ssfB, ssfO, ssfA, ssfL, ssfC⟩ := (HC.out wr HB.out).2.2.1.sf.ints k (by rw [HR.out.fm.sfn]; exact hlt)
        rw [ssfA] at c6
        have ssfN : (k : Int) < (s.sf.n : Int) := by rw [HR.out.fm.sfn]; omega
        clear ssfA
        obtain ⟨ysiB, ysiO, ysiA, ysiL, ysiC⟩ := Hy.out.1.si.ints k (by rw [HRY.out.fm.sin]; exact hlt)
        rw [ysiA] at yc4
        have ysiN : (k : Int) < (y.si.n : Int) := by rw [HRY.out.fm.sin]; omega
        clear ysiA
        obtain ⟨ysoB, ysoO, ysoA, ysoL, ysoC⟩ := Hy.out.1.so.ints k (by rw [HRY.out.fm.son]; exact hlt)
        rw [ysoA] at yc5
        have ysoN : (k : Int) < (y.so.n : Int) := by rw [HRY.out.fm.son]; omega
        clear ysoA
        obtain ⟨ysfB, ysfO, ysfA, ysfL, ysfC⟩ := Hy.out.1.sf.ints k (by rw [HRY.out.fm.sfn]; exact hlt)
        rw [ysfA] at yc6
        have ysfN : (k : Int) < (y.sf.n : Int) := by rw [HRY.out.fm.sfn]; omega
        clear ysfA
        obtain ⟨aB, aO, aA, aL, a0, a1, a2, a3⟩ := HTA.out.hds k (by rw [HTV.out.1]; exact hlt)
        obtain ⟨bB, bO, bA, bL, b0, b1, b2, b3⟩ := HTB.out.hds k (by rw [HTW.out.1]; exact hlt)
        rw [HTV.out.2 k hlt] at a0 a1 a2 a3
        rw [HTW.out.2 k hlt] at b0 b1 b2 b3
        have HAA : Hid (ta.a = some ⟨aB, aO, none⟩ ∧ tb.a = some ⟨bB, bO, none⟩) := ⟨aA, bA⟩
        rw [aA, bA]
        clear aA bA
        have aN : (k : Int) < (ta.n : Int) := by rw [HTV.out.1]; omega
        have bN : (k : Int) < (tb.n : Int) := by rw [HTW.out.1]; omega
        have q0 : (0 : Int) ≤ (k : Int) := by omega
        have k3 := HK3.out k hlt
        unfold Kept3 at k3
        have t1 := tot_on HR.out hlt
        have t2 := tot_on HRY.out hlt
        have t3 := held_on HRY.out hlt
        have u1 := HR.out.fm.sib k hlt
        have u2 := HR.out.fm.sob k hlt
        have u3 := HR.out.fm.sfb k hlt
        have v1 := HRY.out.fm.sib k hlt
        have v2 := HRY.out.fm.sob k hlt
        have v3 := HRY.out.fm.sfb k hlt
        have m1 : TotLe (totT s k) _ := ordT_le (g := k) HR.out.fm (Nat.le_refl _)
        have m2 : TotLe (totT y k) _ := ordT_le (g := k) HRY.out.fm (Nat.le_refl _)
        have m3 := HR.out.fm.os4
        have m4 := HRY.out.fm.os4
        unfold TotLe at m1 m2
        generalize totT s k = TA at *
        generalize totT y k = TB at *
        generalize s.si.z k = SI at *
        generalize s.so.z k = SO at *
        generalize s.sf.z k = SF at *
        generalize y.si.z k = YI at *
        generalize y.so.z k = YO at *
        generalize y.sf.z k = YF at *
        have m1' : 0 ≤ TA.n ∧ TA.n ≤ 200000 := by omega
        have m2' : (0 ≤ TB.l ∧ TB.l ≤ 200000) ∧ 0 ≤ TB.n ∧ TB.n ≤ 200000 := by omega
        have m5 : -4000000 ≤ TA.o ∧ TA.o ≤ 4000000 := by omega
        have m6 : -4000000 ≤ TB.o ∧ TB.o ≤ 4000000 := by omega
        have f1 : (TB.o - TA.o != YI - SI - (YO - SO) + (YF - SF)) = false := by simp; omega
        have f2 : decide (TB.o < TB.l) = false := decide_eq_false (by omega)
        have f3 : decide (TB.n < TA.n) = false := decide_eq_false (by omega)
        have f4 : (YO - SO != TB.n - TA.n) = false := by simp; omega
        clear k3 t1 t2 t3 m1 m2 m3 m4
        have rc4 := fun d os => cell_regrown c4 d os
        have rc5 := fun d os => cell_regrown c5 d os
        have rc6 := fun d os => cell_regrown c6 d os
        have ryc4 := fun d os => cell_regrown yc4 d os
        have ryc5 := fun d os => cell_regrown yc5 d os
        have ryc6 := fun d os => cell_regrown yc6 d os
        have rssiC := fun d os => cell_regrown ssiC d os
        have rssoC := fun d os => cell_regrown ssoC d os
        have rssfC := fun d os => cell_regrown ssfC d os
        have rysiC := fun d os => cell_regrown ysiC d os
        have rysoC := fun d os => cell_regrown ysoC d os
        have rysfC := fun d os => cell_regrown ysfC d os
        have ra0 := fun d os => cell_regrown a0 d os
        have ra1 := fun d os => cell_regrown a1 d os
        have ra2 := fun d os => cell_regrown a2 d os
        have ra3 := fun d os => cell_regrown a3 d os
        have rb0 := fun d os => cell_regrown b0 d os
        have rb1 := fun d os => cell_regrown b1 d os
        have rb2 := fun d os => cell_regrown b2 d os
        have rb3 := fun d os => cell_regrown b3 d os
        go_wp2_with fail
        refine wp_region_quiet_below (by kernel_rfl) (lexB_of (by kernel_rfl) (by kernel_rfl)) ?_
        dsimp only [List.append]
        repeat (go_big_quiet_step ((fail)))
        refine wpQuiet_nil ?_
        intro w5 hwq
        have hB := below_of_regrown hwq
        clear hwq rc4 rc5 rc6 ryc4 ryc5 ryc6 rssiC rssoC rssfC rysiC rysoC rysfC ra0 ra1 ra2 ra3 rb0 rb1 rb2 rb3
        have Hy : Hid (y.At w5 ∧ Blk w5 By 31 7 (fun j => y.cells.getD j default)) := ⟨Hy.out.1.below hB, Hy.out.2.below hB⟩
        have HTA : Hid (ta.At w5) := HTA.out.below hB
        have HTB : Hid (tb.At w5) := HTB.out.below hB
        have HB : Hid (Below W0.heap.size W0 w5) := HB.out.trans (hB.mono HB.out.size)
        clear hB
        clear l1 d0 d1 l2 c0 c1 c2 c3 c4 c5 c6 ym yc0 yc1 yc2 yc3 yc4 yc5 yc6 ssiL ssiC ssoL ssoC ssfL ssfC ysiL ysiC ysoL ysoC ysfL ysfC aL bL a0 a1 a2 a3 b0 b1 b2 b3
        go_wp2_with fail
        go_roundw
        case rel => exact ⟨k + 1, by omega, by go_num, Hy, HTA, HTB, HB⟩
        case measure => simp [intOf]; omega
      · have q1 : (ta.n : Int) ≤ (k : Int) := by rw [HTV.out.1]; omega
        go_wp2_with fail
        refine Calls.mono (bookBegun_any wr) ?_
        rintro e w6 ⟨rfl, hB⟩
        have Hy : Hid (y.At w6 ∧ Blk w6 By 31 7 (fun j => y.cells.getD j default)) := ⟨Hy.out.1.below hB, Hy.out.2.below hB⟩
        have HTA : Hid (ta.At w6) := HTA.out.below hB
        have HTB : Hid (tb.At w6) := HTB.out.below hB
        have HB : Hid (Below W0.heap.size W0 w6) := HB.out.trans (hB.mono HB.out.size)
        clear hB
        go_wp2_with fail
        go_ret
        exact ⟨rfl, (HC.out w6 HB.out).2.2.2⟩
  · have g0 : (doE p s x != 0) = true := by simpa using h0
    clear h0 HYOK
    generalize doE p s x = EE at *
    simp only [St.val]
    go_wp2_with fail
    rw [HW.out]
    clear HW
    generalize w1.heap.size = By at *
    refine Calls.mono (bookBegun_any W2) ?_
    rintro e w3 ⟨rfl, hB⟩
    have Hy : Hid (y.At w3 ∧ Blk w3 By 31 7 (fun j => y.cells.getD j default)) := ⟨Hy.out.1.below hB, Hy.out.2.below hB⟩
    have HB : Hid (Below W0.heap.size W0 w3) := HB.out.trans (hB.mono HB.out.size)
    clear hB
    go_wp2_with fail
    go_ret
    exact ⟨rfl, (HC.out w3 HB.out).2.2.2⟩
end Go.Proofs.YtbcacebifpagpafGreat
namespace Go.Proofs.YtbcacebifpagpafGreat
open Go.ChangeShapes Go.WideShapes Go.ChangeAt Go.RowKit Go.Joins Go.Deep
set_option linter.unusedVariables false
set_option maxRecDepth 100000
theorem own : ownKnob Tryz.prog.godebug = none := by kernel_rfl
theorem laidOut : laidOutB Tryz.prog = true := by kernel_rfl
theorem cellsInt : Tryz.prog.cellsOf 3 = 1 := by kernel_rfl
theorem cellsInts : Tryz.prog.cellsOf 23 = 1 := by kernel_rfl
theorem cellsBin : Tryz.prog.cellsOf 112 = 4 := by kernel_rfl
theorem cellsPlan : Tryz.prog.cellsOf 25 = 2 := by kernel_rfl
theorem cellsBool : Tryz.prog.cellsOf 4 = 1 := by kernel_rfl
section
variable {H : Type} {enc : TypeId × Value → H} {w : World} {held : Bool} {spare : Nat → Bool}
theorem addrOf {a : Addr} {i : Nat} {v : Value} (h : w.cell? (a.add i) = some v) (h0 : ∃ v0, w.cell? a = some v0) : ∃ b o, a = ⟨b, o, none⟩ ∧ b < w.heap.size ∧ w.cell? ⟨b, o + i, none⟩ = some v := by
  obtain ⟨b, off, spot⟩ := a
  obtain ⟨v0, h0⟩ := h0
  have hspot : spot = none := World.cell?_spot h0
  subst hspot
  refine ⟨b, off, rfl, World.block_lt_of_cell? w _ h0, ?_⟩
  rw [← Go.WideShapes.add_plain]
  exact h
theorem readInts {fuel : Nat} {cs : List Value} {x : DataW H × List MemPlace} (h : DataW.trod enc Tryz.prog w 0 spare held fuel 23 cs = some x) : ∃ r : Rw, cs = [r.val] ∧ r.At w := by
  rcases open_slice1 Tryz.underlying23 cellsInt h with ⟨rfl, _⟩ | ⟨a, len, cap, m, n, V, D, Pl, rfl, hb, hl, hm, hmm, _, hx⟩
  · exact ⟨⟨none, 0, 0, fun _ => 0⟩, rfl, Nat.le_refl _, Nat.zero_le _, fun i hi => absurd hi (Nat.not_lt_zero _)⟩
  · have hlm : len ≤ m := by rw [hmm]; split <;> omega
    obtain ⟨z, hz⟩ := choose_lt (α := Int) (n := len) (p := fun i y => V i = .int .i64 y) (fun i hi => by
      obtain ⟨y, hy, _⟩ := DataW.trod_int Tryz.underlying3 (hx i (by omega)).2
      simp only [List.cons.injEq, and_true] at hy
      exact ⟨y, hy⟩)
    refine ⟨⟨some a, len, cap, z⟩, rfl, hl, hm, fun i hi => ?_⟩
    have hi' : i < len := hi
    have h0 : ∃ v0, w.cell? a = some v0 := ⟨_, by have := (hx 0 (by omega)).1; simpa [Addr.add] using this⟩
    obtain ⟨b, o, rfl, hb', hc⟩ := addrOf (hx i (by omega)).1 h0
    exact ⟨b, o, rfl, hb', by rw [hc, hz i hi']⟩
theorem readRows {fuel : Nat} {cs : List Value} {x : DataW H × List MemPlace} (h : DataW.trod enc Tryz.prog w 0 spare held fuel 26 cs = some x) : ∃ s : Sh, cs = [s.val] ∧ s.At w := by
  rcases open_slice1 Tryz.underlying26 cellsInts h with ⟨rfl, _⟩ | ⟨a, len, cap, m, n, V, D, Pl, rfl, hb, hl, hm, hmm, _, hx⟩
  · exact ⟨⟨none, 0, 0, fun _ => ⟨none, 0, 0, fun _ => 0⟩⟩, rfl, Nat.le_refl _, Nat.zero_le _, fun i hi => absurd hi (Nat.not_lt_zero _)⟩
  · have hlm : len ≤ m := by rw [hmm]; split <;> omega
    haveI : Inhabited Rw := ⟨⟨none, 0, 0, fun _ => 0⟩⟩
    obtain ⟨z, hz⟩ := choose_lt (α := Rw) (n := len) (p := fun i y => V i = y.val ∧ y.At w) (fun i hi => by
      obtain ⟨y, hy, hat⟩ := readInts (hx i (by omega)).2
      simp only [List.cons.injEq, and_true] at hy
      exact ⟨y, hy, hat⟩)
    refine ⟨⟨some a, len, cap, z⟩, rfl, hl, hm, fun i hi => ?_⟩
    have hi' : i < len := hi
    have h0 : ∃ v0, w.cell? a = some v0 := ⟨_, by have := (hx 0 (by omega)).1; simpa [Addr.add] using this⟩
    obtain ⟨b, o, rfl, hb', hc⟩ := addrOf (hx i (by omega)).1 h0
    exact ⟨b, o, rfl, hb', by rw [hc, (hz i hi').1]; rfl, (hz i hi').2⟩
theorem readBin {fuel : Nat} {c0 c1 c2 c3 : Value} {x : DataW H × List MemPlace} (h : DataW.trod enc Tryz.prog w 0 spare held fuel 112 [c0, c1, c2, c3] = some x) : ∃ y : Bin, c0 = .bool y.front ∧ c1 = .int .i64 y.room ∧ c2 = .int .i64 y.low ∧ c3 = .int .i64 y.high := by
  obtain ⟨y0, y1, y2, y3, n, hx, hl, h0, h1, h2, h3⟩ := trod_struct4 Tryz.underlying112 h
  simp only [cellsBool, cellsInt, List.drop_succ_cons, List.drop_zero, List.take_succ_cons, List.take_zero] at h0 h1 h2 h3
  obtain ⟨b, e0, _⟩ := DataW.trod_bool Tryz.underlying4 h0
  obtain ⟨n1, e1, _⟩ := DataW.trod_int Tryz.underlying3 h1
  obtain ⟨n2, e2, _⟩ := DataW.trod_int Tryz.underlying3 h2
  obtain ⟨n3, e3, _⟩ := DataW.trod_int Tryz.underlying3 h3
  simp only [List.cons.injEq, and_true] at e0 e1 e2 e3
  exact ⟨⟨b, n1, n2, n3⟩, e0, e1, e2, e3⟩
theorem cells4 {base : Nat} {a : Addr} {cs : List Value} (h : w.cells? base a 4 = some cs) : ∃ c0 c1 c2 c3, cs = [c0, c1, c2, c3] ∧ w.cell? a = some c0 ∧ w.cell? (a.add 1) = some c1 ∧ w.cell? (a.add 2) = some c2 ∧ w.cell? (a.add 3) = some c3 := by
  obtain ⟨_, hlen, hc⟩ := World.cells?_some h
  match cs, hlen with
  | [c0, c1, c2, c3], _ =>
    refine ⟨c0, c1, c2, c3, rfl, ?_, ?_, ?_, ?_⟩
    · simpa [Addr.add] using hc 0 (by decide)
    · simpa using hc 1 (by decide)
    · simpa using hc 2 (by decide)
    · simpa using hc 3 (by decide)
theorem readBins {fuel : Nat} {cs : List Value} {x : DataW H × List MemPlace} (h : DataW.trod enc Tryz.prog w 0 spare held fuel 22 cs = some x) : ∃ a n c z, cs = [.slice a n c] ∧ n ≤ c ∧ c ≤ maxLen ∧ BinsAt w a n z := by
  rcases open_slice Tryz.underlying22 h with ⟨rfl, _⟩ | ⟨a, len, cap, m, n, D, Pl, rfl, hb, hl, hm, hmm, _, hx⟩
  · exact ⟨none, 0, 0, fun _ => ⟨false, 0, 0, 0⟩, rfl, Nat.le_refl _, Nat.zero_le _, fun i hi => absurd hi (Nat.not_lt_zero _)⟩
  · have hlm : len ≤ m := by rw [hmm]; split <;> omega
    rw [cellsBin] at hx
    haveI : Inhabited Bin := ⟨⟨false, 0, 0, 0⟩⟩
    obtain ⟨z, hz⟩ := choose_lt (α := Bin) (n := len) (p := fun i y => w.cell? (a.add (i * 4)) = some (.bool y.front) ∧ w.cell? (a.add (i * 4 + 1)) = some (.int .i64 y.room) ∧ w.cell? (a.add (i * 4 + 2)) = some (.int .i64 y.low) ∧ w.cell? (a.add (i * 4 + 3)) = some (.int .i64 y.high)) (fun i hi => by
      obtain ⟨cs', hc, ht⟩ := hx i (by omega)
      obtain ⟨c0, c1, c2, c3, rfl, k0, k1, k2, k3⟩ := cells4 hc
      obtain ⟨y, rfl, rfl, rfl, rfl⟩ := readBin ht
      rw [add_add] at k1 k2 k3
      exact ⟨y, k0, k1, k2, k3⟩)
    refine ⟨some a, len, cap, z, rfl, hl, hm, fun i hi => ?_⟩
    have h0 : ∃ v0, w.cell? a = some v0 := ⟨_, by have := (hz 0 (by omega)).1; simpa [Addr.add] using this⟩
    obtain ⟨k0, k1, k2, k3⟩ := hz i hi
    obtain ⟨b, o, rfl, hb', e0⟩ := addrOf k0 h0
    rw [Go.WideShapes.add_plain] at k1 k2 k3
    exact ⟨b, o, rfl, hb', e0, by rw [Nat.add_assoc]; exact k1, by rw [Nat.add_assoc]; exact k2, by rw [Nat.add_assoc]; exact k3⟩
theorem openPlan {r : Reach} {b0 : Nat} {v : Value} {d : DataW H} {ps : List MemPlace} (hv : Value.okWide Tryz.prog w r b0 25 v) (h : DataW.Trod enc Tryz.prog w 0 spare held 25 v d ps) : ∃ p : Pl, v = p.val ∧ p.At w := by
  obtain ⟨c0, c1, y0, y1, m, rfl, rfl, rfl, hy0, hy1⟩ := open_agg2 Tryz.underlying25 (by kernel_rfl) cellsPlan hv h
  obtain ⟨a, n, c, z, e0, h1, h2, h3⟩ := readBins hy0
  obtain ⟨rr, e1, hr⟩ := readInts hy1
  simp only [List.cons.injEq, and_true] at e0 e1
  subst e0 e1
  exact ⟨⟨a, n, c, z, rr.a, rr.n, rr.c, rr.z⟩, rfl, h1, h2, h3, hr.le, hr.cap, hr.ints⟩
end
end Go.Proofs.YtbcacebifpagpafGreat
namespace Go.Proofs.YtbcacebifpagpafGreat
open Go.ChangeShapes Go.WideShapes Go.ChangeAt Go.RowKit Go.Joins Go.Deep
set_option linter.unusedVariables false
set_option maxRecDepth 100000
namespace HoldsFrames
theorem own : ownKnob Tryz.prog.godebug = none := by kernel_rfl
theorem laidOut : laidOutB Tryz.prog = true := by kernel_rfl
theorem cellsInt : Tryz.prog.cellsOf 3 = 1 := by kernel_rfl
theorem cellsHold : Tryz.prog.cellsOf 103 = 4 := by kernel_rfl
section
variable {H : Type} {enc : TypeId × Value → H} {w : World} {held : Bool} {spare : Nat → Bool}
theorem addrOf {a : Addr} {i : Nat} {v : Value} (h : w.cell? (a.add i) = some v) (h0 : ∃ v0, w.cell? a = some v0) : ∃ b o, a = ⟨b, o, none⟩ ∧ b < w.heap.size ∧ w.cell? ⟨b, o + i, none⟩ = some v := by
  obtain ⟨b, off, spot⟩ := a
  obtain ⟨v0, h0⟩ := h0
  have hspot : spot = none := World.cell?_spot h0
  subst hspot
  refine ⟨b, off, rfl, World.block_lt_of_cell? w _ h0, ?_⟩
  rw [← Go.WideShapes.add_plain]
  exact h
theorem cells4 {base : Nat} {a : Addr} {cs : List Value} (h : w.cells? base a 4 = some cs) : ∃ c0 c1 c2 c3, cs = [c0, c1, c2, c3] ∧ w.cell? a = some c0 ∧ w.cell? (a.add 1) = some c1 ∧ w.cell? (a.add 2) = some c2 ∧ w.cell? (a.add 3) = some c3 := by
  obtain ⟨_, hlen, hc⟩ := World.cells?_some h
  match cs, hlen with
  | [c0, c1, c2, c3], _ =>
    refine ⟨c0, c1, c2, c3, rfl, ?_, ?_, ?_, ?_⟩
    · simpa [Addr.add] using hc 0 (by decide)
    · simpa using hc 1 (by decide)
    · simpa using hc 2 (by decide)
    · simpa using hc 3 (by decide)
theorem readHold {fuel : Nat} {c0 c1 c2 c3 : Value} {x : DataW H × List MemPlace} (h : DataW.trod enc Tryz.prog w 0 spare held fuel 103 [c0, c1, c2, c3] = some x) : ∃ y : Hd, c0 = .int .i64 y.o ∧ c1 = .int .i64 y.l ∧ c2 = .int .i64 y.b ∧ c3 = .int .i64 y.n := by
  obtain ⟨y0, y1, y2, y3, n, hx, hl, h0, h1, h2, h3⟩ := trod_struct4 Tryz.underlying103 h
  simp only [cellsInt, List.drop_succ_cons, List.drop_zero, List.take_succ_cons, List.take_zero] at h0 h1 h2 h3
  obtain ⟨n0, e0, _⟩ := DataW.trod_int Tryz.underlying3 h0
  obtain ⟨n1, e1, _⟩ := DataW.trod_int Tryz.underlying3 h1
  obtain ⟨n2, e2, _⟩ := DataW.trod_int Tryz.underlying3 h2
  obtain ⟨n3, e3, _⟩ := DataW.trod_int Tryz.underlying3 h3
  simp only [List.cons.injEq, and_true] at e0 e1 e2 e3
  exact ⟨⟨n0, n1, n2, n3⟩, e0, e1, e2, e3⟩
theorem readHolds {fuel : Nat} {cs : List Value} {x : DataW H × List MemPlace} (h : DataW.trod enc Tryz.prog w 0 spare held fuel 28 cs = some x) : ∃ s : Hs, cs = [s.val] ∧ s.At w := by
  rcases open_slice Tryz.underlying28 h with ⟨rfl, _⟩ | ⟨a, len, cap, m, n, D, Pl, rfl, hb, hl, hm, hmm, _, hx⟩
  · exact ⟨⟨none, 0, 0, fun _ => ⟨0, 0, 0, 0⟩⟩, rfl, Nat.le_refl _, Nat.zero_le _, fun i hi => absurd hi (Nat.not_lt_zero _), fun _ => rfl⟩
  · have hlm : len ≤ m := by rw [hmm]; split <;> omega
    rw [cellsHold] at hx
    haveI : Inhabited Hd := ⟨⟨0, 0, 0, 0⟩⟩
    obtain ⟨z, hz⟩ := choose_lt (α := Hd) (n := len) (p := fun i y => w.cell? (a.add (i * 4)) = some (.int .i64 y.o) ∧ w.cell? (a.add (i * 4 + 1)) = some (.int .i64 y.l) ∧ w.cell? (a.add (i * 4 + 2)) = some (.int .i64 y.b) ∧ w.cell? (a.add (i * 4 + 3)) = some (.int .i64 y.n)) (fun i hi => by
      obtain ⟨cs', hc, ht⟩ := hx i (by omega)
      obtain ⟨c0, c1, c2, c3, rfl, k0, k1, k2, k3⟩ := cells4 hc
      obtain ⟨y, rfl, rfl, rfl, rfl⟩ := readHold ht
      rw [add_add] at k1 k2 k3
      exact ⟨y, k0, k1, k2, k3⟩)
    refine ⟨⟨some a, len, cap, z⟩, rfl, hl, hm, fun i hi => ?_, fun h => by cases h⟩
    have hi' : i < len := hi
    have h0 : ∃ v0, w.cell? a = some v0 := ⟨_, by have := (hz 0 (by omega)).1; simpa [Addr.add] using this⟩
    obtain ⟨k0, k1, k2, k3⟩ := hz i hi'
    obtain ⟨b, o, rfl, hb', e0⟩ := addrOf k0 h0
    rw [Go.WideShapes.add_plain] at k1 k2 k3
    exact ⟨b, o, rfl, hb', e0, by rw [Nat.add_assoc]; exact k1, by rw [Nat.add_assoc]; exact k2, by rw [Nat.add_assoc]; exact k3⟩
end
end HoldsFrames
end Go.Proofs.YtbcacebifpagpafGreat
namespace Go.Proofs.YtbcacebifpagpafGreat
open Go.ChangeShapes Go.WideShapes Go.ChangeAt Go.RowKit Go.Joins Go.Deep
set_option linter.unusedVariables false
set_option maxRecDepth 100000
theorem cellsLine : Tryz.prog.cellsOf 68 = 4 := by kernel_rfl
theorem cellsMove : Tryz.prog.cellsOf 77 = 4 := by kernel_rfl
theorem cellsOrder : Tryz.prog.cellsOf 66 = 2 := by kernel_rfl
theorem cellsState : Tryz.prog.cellsOf 31 = 7 := by kernel_rfl
theorem cellsLines : Tryz.prog.cellsOf 32 = 1 := by kernel_rfl
theorem cellsMoves : Tryz.prog.cellsOf 29 = 1 := by kernel_rfl
theorem cellsOrders : Tryz.prog.cellsOf 27 = 1 := by kernel_rfl
theorem cellsHolds : Tryz.prog.cellsOf 28 = 1 := by kernel_rfl
theorem cellsRows : Tryz.prog.cellsOf 26 = 1 := by kernel_rfl
section
variable {H : Type} {enc : TypeId × Value → H} {w : World} {held : Bool} {spare : Nat → Bool}
theorem readLine {fuel : Nat} {c0 c1 c2 c3 : Value} {x : DataW H × List MemPlace} (h : DataW.trod enc Tryz.prog w 0 spare held fuel 68 [c0, c1, c2, c3] = some x) : ∃ y : Hd, c0 = .int .i64 y.o ∧ c1 = .int .i64 y.l ∧ c2 = .int .i64 y.b ∧ c3 = .int .i64 y.n := by
  obtain ⟨y0, y1, y2, y3, n, hx, hl, h0, h1, h2, h3⟩ := trod_struct4 Tryz.underlying68 h
  simp only [cellsInt, List.drop_succ_cons, List.drop_zero, List.take_succ_cons, List.take_zero] at h0 h1 h2 h3
  obtain ⟨n0, e0, _⟩ := DataW.trod_int Tryz.underlying3 h0
  obtain ⟨n1, e1, _⟩ := DataW.trod_int Tryz.underlying3 h1
  obtain ⟨n2, e2, _⟩ := DataW.trod_int Tryz.underlying3 h2
  obtain ⟨n3, e3, _⟩ := DataW.trod_int Tryz.underlying3 h3
  simp only [List.cons.injEq, and_true] at e0 e1 e2 e3
  exact ⟨⟨n0, n1, n2, n3⟩, e0, e1, e2, e3⟩
theorem readLines {fuel : Nat} {cs : List Value} {x : DataW H × List MemPlace} (h : DataW.trod enc Tryz.prog w 0 spare held fuel 32 cs = some x) : ∃ s : Hs, cs = [s.val] ∧ s.At w := by
  rcases open_slice Tryz.underlying32 h with ⟨rfl, _⟩ | ⟨a, len, cap, m, n, D, Pl, rfl, hb, hl, hm, hmm, _, hx⟩
  · exact ⟨⟨none, 0, 0, fun _ => ⟨0, 0, 0, 0⟩⟩, rfl, Nat.le_refl _, Nat.zero_le _, fun i hi => absurd hi (Nat.not_lt_zero _), fun _ => rfl⟩
  · have hlm : len ≤ m := by rw [hmm]; split <;> omega
    rw [cellsLine] at hx
    haveI : Inhabited Hd := ⟨⟨0, 0, 0, 0⟩⟩
    obtain ⟨z, hz⟩ := choose_lt (α := Hd) (n := len) (p := fun i y => w.cell? (a.add (i * 4)) = some (.int .i64 y.o) ∧ w.cell? (a.add (i * 4 + 1)) = some (.int .i64 y.l) ∧ w.cell? (a.add (i * 4 + 2)) = some (.int .i64 y.b) ∧ w.cell? (a.add (i * 4 + 3)) = some (.int .i64 y.n)) (fun i hi => by
      obtain ⟨cs', hc, ht⟩ := hx i (by omega)
      obtain ⟨c0, c1, c2, c3, rfl, k0, k1, k2, k3⟩ := cells4 hc
      obtain ⟨y, rfl, rfl, rfl, rfl⟩ := readLine ht
      rw [add_add] at k1 k2 k3
      exact ⟨y, k0, k1, k2, k3⟩)
    refine ⟨⟨some a, len, cap, z⟩, rfl, hl, hm, fun i hi => ?_, fun h => by cases h⟩
    have hi' : i < len := hi
    have h0 : ∃ v0, w.cell? a = some v0 := ⟨_, by have := (hz 0 (by omega)).1; simpa [Addr.add] using this⟩
    obtain ⟨k0, k1, k2, k3⟩ := hz i hi'
    obtain ⟨b, o, rfl, hb', e0⟩ := addrOf k0 h0
    rw [Go.WideShapes.add_plain] at k1 k2 k3
    exact ⟨b, o, rfl, hb', e0, by rw [Nat.add_assoc]; exact k1, by rw [Nat.add_assoc]; exact k2, by rw [Nat.add_assoc]; exact k3⟩
theorem readMove {fuel : Nat} {c0 c1 c2 c3 : Value} {x : DataW H × List MemPlace} (h : DataW.trod enc Tryz.prog w 0 spare held fuel 77 [c0, c1, c2, c3] = some x) : ∃ y : Hd, c0 = .int .i64 y.o ∧ c1 = .int .i64 y.l ∧ c2 = .int .i64 y.b ∧ c3 = .int .i64 y.n := by
  obtain ⟨y0, y1, y2, y3, n, hx, hl, h0, h1, h2, h3⟩ := trod_struct4 Tryz.underlying77 h
  simp only [cellsInt, List.drop_succ_cons, List.drop_zero, List.take_succ_cons, List.take_zero] at h0 h1 h2 h3
  obtain ⟨n0, e0, _⟩ := DataW.trod_int Tryz.underlying3 h0
  obtain ⟨n1, e1, _⟩ := DataW.trod_int Tryz.underlying3 h1
  obtain ⟨n2, e2, _⟩ := DataW.trod_int Tryz.underlying3 h2
  obtain ⟨n3, e3, _⟩ := DataW.trod_int Tryz.underlying3 h3
  simp only [List.cons.injEq, and_true] at e0 e1 e2 e3
  exact ⟨⟨n0, n1, n2, n3⟩, e0, e1, e2, e3⟩
theorem readMoves {fuel : Nat} {cs : List Value} {x : DataW H × List MemPlace} (h : DataW.trod enc Tryz.prog w 0 spare held fuel 29 cs = some x) : ∃ s : Hs, cs = [s.val] ∧ s.At w := by
  rcases open_slice Tryz.underlying29 h with ⟨rfl, _⟩ | ⟨a, len, cap, m, n, D, Pl, rfl, hb, hl, hm, hmm, _, hx⟩
  · exact ⟨⟨none, 0, 0, fun _ => ⟨0, 0, 0, 0⟩⟩, rfl, Nat.le_refl _, Nat.zero_le _, fun i hi => absurd hi (Nat.not_lt_zero _), fun _ => rfl⟩
  · have hlm : len ≤ m := by rw [hmm]; split <;> omega
    rw [cellsMove] at hx
    haveI : Inhabited Hd := ⟨⟨0, 0, 0, 0⟩⟩
    obtain ⟨z, hz⟩ := choose_lt (α := Hd) (n := len) (p := fun i y => w.cell? (a.add (i * 4)) = some (.int .i64 y.o) ∧ w.cell? (a.add (i * 4 + 1)) = some (.int .i64 y.l) ∧ w.cell? (a.add (i * 4 + 2)) = some (.int .i64 y.b) ∧ w.cell? (a.add (i * 4 + 3)) = some (.int .i64 y.n)) (fun i hi => by
      obtain ⟨cs', hc, ht⟩ := hx i (by omega)
      obtain ⟨c0, c1, c2, c3, rfl, k0, k1, k2, k3⟩ := cells4 hc
      obtain ⟨y, rfl, rfl, rfl, rfl⟩ := readMove ht
      rw [add_add] at k1 k2 k3
      exact ⟨y, k0, k1, k2, k3⟩)
    refine ⟨⟨some a, len, cap, z⟩, rfl, hl, hm, fun i hi => ?_, fun h => by cases h⟩
    have hi' : i < len := hi
    have h0 : ∃ v0, w.cell? a = some v0 := ⟨_, by have := (hz 0 (by omega)).1; simpa [Addr.add] using this⟩
    obtain ⟨k0, k1, k2, k3⟩ := hz i hi'
    obtain ⟨b, o, rfl, hb', e0⟩ := addrOf k0 h0
    rw [Go.WideShapes.add_plain] at k1 k2 k3
    exact ⟨b, o, rfl, hb', e0, by rw [Nat.add_assoc]; exact k1, by rw [Nat.add_assoc]; exact k2, by rw [Nat.add_assoc]; exact k3⟩
theorem cells2 {base : Nat} {a : Addr} {cs : List Value} (h : w.cells? base a 2 = some cs) : ∃ c0 c1, cs = [c0, c1] ∧ w.cell? a = some c0 ∧ w.cell? (a.add 1) = some c1 := by
  obtain ⟨_, hlen, hc⟩ := World.cells?_some h
  match cs, hlen with
  | [c0, c1], _ =>
    refine ⟨c0, c1, rfl, ?_, ?_⟩
    · simpa [Addr.add] using hc 0 (by decide)
    · simpa using hc 1 (by decide)
theorem readOrder {fuel : Nat} {c0 c1 : Value} {x : DataW H × List MemPlace} (h : DataW.trod enc Tryz.prog w 0 spare held fuel 66 [c0, c1] = some x) : ∃ y : Od, c0 = .int .i64 y.k ∧ c1 = .slice y.ls.a y.ls.n y.ls.c ∧ y.ls.At w := by
  obtain ⟨y0, y1, n, hx, hl, h0, h1⟩ := trod_struct2 Tryz.underlying66 h
  simp only [cellsInt, cellsLines, List.drop_succ_cons, List.drop_zero, List.take_succ_cons, List.take_zero] at h0 h1
  obtain ⟨n0, e0, _⟩ := DataW.trod_int Tryz.underlying3 h0
  obtain ⟨s, e1, hs⟩ := readLines h1
  simp only [List.cons.injEq, and_true] at e0 e1
  exact ⟨⟨n0, s⟩, e0, e1, hs⟩
theorem readOrders {fuel : Nat} {cs : List Value} {x : DataW H × List MemPlace} (h : DataW.trod enc Tryz.prog w 0 spare held fuel 27 cs = some x) : ∃ s : Go.Proofs.YtbcacebifpagpafGreat.Os, cs = [s.val] ∧ s.At w := by
  rcases open_slice Tryz.underlying27 h with ⟨rfl, _⟩ | ⟨a, len, cap, m, n, D, Pl, rfl, hb, hl, hm, hmm, _, hx⟩
  · exact ⟨⟨none, 0, 0, fun _ => ⟨0, ⟨none, 0, 0, fun _ => ⟨0, 0, 0, 0⟩⟩⟩⟩, rfl, Nat.le_refl _, Nat.zero_le _, fun i hi => absurd hi (Nat.not_lt_zero _)⟩
  · have hlm : len ≤ m := by rw [hmm]; split <;> omega
    rw [cellsOrder] at hx
    haveI : Inhabited Od := ⟨⟨0, ⟨none, 0, 0, fun _ => ⟨0, 0, 0, 0⟩⟩⟩⟩
    obtain ⟨z, hz⟩ := choose_lt (α := Od) (n := len) (p := fun i y => w.cell? (a.add (i * 2)) = some (.int .i64 y.k) ∧ w.cell? (a.add (i * 2 + 1)) = some (.slice y.ls.a y.ls.n y.ls.c) ∧ y.ls.At w) (fun i hi => by
      obtain ⟨cs', hc, ht⟩ := hx i (by omega)
      obtain ⟨c0, c1, rfl, k0, k1⟩ := cells2 hc
      obtain ⟨y, rfl, rfl, hy⟩ := readOrder ht
      rw [add_add] at k1
      exact ⟨y, k0, k1, hy⟩)
    refine ⟨⟨some a, len, cap, z⟩, rfl, hl, hm, fun i hi => ?_⟩
    have hi' : i < len := hi
    have h0 : ∃ v0, w.cell? a = some v0 := ⟨_, by have := (hz 0 (by omega)).1; simpa [Addr.add] using this⟩
    obtain ⟨k0, k1, hy⟩ := hz i hi'
    obtain ⟨b, o, rfl, hb', e0⟩ := addrOf k0 h0
    rw [Go.WideShapes.add_plain] at k1
    exact ⟨b, o, rfl, hb', e0, by rw [Nat.add_assoc]; exact k1, hy⟩
theorem array7 {α : Type} {cs : Array α} (h : cs.size = 7) : ∃ c0 c1 c2 c3 c4 c5 c6, cs = #[c0, c1, c2, c3, c4, c5, c6] := by
  obtain ⟨l⟩ := cs
  match l, h with
  | [c0, c1, c2, c3, c4, c5, c6], _ => exact ⟨c0, c1, c2, c3, c4, c5, c6, rfl⟩
theorem openState {r : Reach} {b0 : Nat} {v : Value} {d : DataW H} {ps : List MemPlace} (hv : Value.okWide Tryz.prog w r b0 31 v) (h : DataW.Trod enc Tryz.prog w 0 spare held 31 v d ps) : ∃ s : St, v = s.val ∧ s.At w := by
  obtain ⟨cs, rfl, hsz⟩ := okWide_struct Tryz.underlying31 hv
  obtain ⟨c0, c1, c2, c3, c4, c5, c6, rfl⟩ := array7 (hsz.trans cellsState)
  obtain ⟨fuel, hf⟩ := h
  obtain ⟨xs, n, _, hx, hl, hlen, hg⟩ := DataW.trod_struct Tryz.underlying31 hf
  match xs, hlen with
  | [y0, y1, y2, y3, y4, y5, y6], _ =>
    have k0 := hg 0 _ rfl
    have k1 := hg 1 _ rfl
    have k2 := hg 2 _ rfl
    have k3 := hg 3 _ rfl
    have k4 := hg 4 _ rfl
    have k5 := hg 5 _ rfl
    have k6 := hg 6 _ rfl
    simp [cellsRows, cellsOrders, cellsHolds, cellsMoves, cellsInts, Value.cells] at k0 k1 k2 k3 k4 k5 k6
    obtain ⟨on, e0, h0⟩ := readRows k0
    obtain ⟨os, e1, h1⟩ := readOrders k1
    obtain ⟨hs, e2, h2⟩ := HoldsFrames.readHolds k2
    obtain ⟨ms, e3, h3⟩ := readMoves k3
    obtain ⟨si, e4, h4⟩ := readInts k4
    obtain ⟨so, e5, h5⟩ := readInts k5
    obtain ⟨sf, e6, h6⟩ := readInts k6
    simp only [List.cons.injEq, and_true] at e0 e1 e2 e3 e4 e5 e6
    subst e0 e1 e2 e3 e4 e5 e6
    exact ⟨⟨on, os, hs, ms, si, so, sf⟩, rfl, h0, h1, h2, h3, h4, h5, h6⟩
end
end Go.Proofs.YtbcacebifpagpafGreat
namespace Go.Proofs.YtbcacebifpagpafGreat
open Go.ChangeShapes Go.WideShapes Go.ChangeAt Go.RowKit Go.Joins Go.Deep
set_option linter.unusedVariables false
set_option maxRecDepth 100000
theorem cellsAct : Tryz.prog.cellsOf 34 = 6 := by kernel_rfl
section
variable {H : Type} {enc : TypeId × Value → H} {w : World} {held : Bool} {spare : Nat → Bool}
theorem array6 {α : Type} {cs : Array α} (h : cs.size = 6) : ∃ c0 c1 c2 c3 c4 c5, cs = #[c0, c1, c2, c3, c4, c5] := by
  obtain ⟨l⟩ := cs
  match l, h with
  | [c0, c1, c2, c3, c4, c5], _ => exact ⟨c0, c1, c2, c3, c4, c5, rfl⟩
theorem openAct {r : Reach} {b0 : Nat} {v : Value} {d : DataW H} {ps : List MemPlace} (hv : Value.okWide Tryz.prog w r b0 34 v) (h : DataW.Trod enc Tryz.prog w 0 spare held 34 v d ps) : ∃ x : Ax, v = x.val ∧ x.ls.At w := by
  obtain ⟨cs, rfl, hsz⟩ := okWide_struct Tryz.underlying34 hv
  obtain ⟨c0, c1, c2, c3, c4, c5, rfl⟩ := array6 (hsz.trans cellsAct)
  obtain ⟨fuel, hf⟩ := h
  obtain ⟨xs, n, _, hx, hl, hlen, hg⟩ := DataW.trod_struct Tryz.underlying34 hf
  match xs, hlen with
  | [y0, y1, y2, y3, y4, y5], _ =>
    have k0 := hg 0 _ rfl
    have k1 := hg 1 _ rfl
    have k2 := hg 2 _ rfl
    have k3 := hg 3 _ rfl
    have k4 := hg 4 _ rfl
    have k5 := hg 5 _ rfl
    simp [cellsInt, cellsLines, Value.cells] at k0 k1 k2 k3 k4 k5
    obtain ⟨n0, e0, _⟩ := DataW.trod_int Tryz.underlying3 k0
    obtain ⟨n1, e1, _⟩ := DataW.trod_int Tryz.underlying3 k1
    obtain ⟨n2, e2, _⟩ := DataW.trod_int Tryz.underlying3 k2
    obtain ⟨n3, e3, _⟩ := DataW.trod_int Tryz.underlying3 k3
    obtain ⟨n4, e4, _⟩ := DataW.trod_int Tryz.underlying3 k4
    obtain ⟨ls, e5, h5⟩ := readLines k5
    simp only [List.cons.injEq, and_true] at e0 e1 e2 e3 e4 e5
    subst e0 e1 e2 e3 e4 e5
    exact ⟨⟨n0, n1, n2, n3, n4, ls⟩, rfl, h5⟩
end
end Go.Proofs.YtbcacebifpagpafGreat

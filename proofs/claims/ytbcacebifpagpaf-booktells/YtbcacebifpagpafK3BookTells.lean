/- Texts that were built one behind the other, joined; what BookTells does not reach is left out. -/
import Derived.Test.YtbcacebifpagpafK2BookTells
import Derived.KernelRfl
import Derived.Test.YtbcacebifpagpafRows
import Derived.ProofKit
import Derived.OpenShut
import Derived.Lib.SmallJoins
import Derived.Deep.Slices
namespace Go.Proofs.Ytbcacebifpagpaf
open Go.RowKit Go.Shelf Go.Sort
set_option linter.unusedVariables false
set_option maxRecDepth 100000 in
set_option maxHeartbeats 8000000 in
theorem Totals_any (p : Pl) (s : St) (w : World) (hp : p.At w) (hs : s.At w) :
    Calls Try.prog 10 #[p.val, s.val] w fun e w' => ∃ h : Hs, e = .returned (.tuple #[.slice h.a h.n h.c, .int .i64 (stateE p s)]) ∧ h.At w' ∧ (stateE p s = 0 → h.n = p.ns ∧ ∀ g, g < p.ns → h.z g = totT s g) ∧ (¬ stateE p s = 0 → h.n = 0) ∧ Below w.heap.size w w' := by
  obtain ⟨W0, hW, hWB, X0⟩ : ∃ W, ((w.alloc (.cells #[.slice p.ab p.nb p.cb, .slice p.sa p.ns p.cs] 25)).alloc (.cells s.cells 31)) = W ∧ Below w.heap.size w W ∧ Boxes W w.heap.size (w.heap.size + 1) p s := ⟨_, rfl, two_below _ _ _, boxes_new w p s _ _⟩
  have HC : Hid (∀ wk, Below W0.heap.size W0 wk → Boxes wk w.heap.size (w.heap.size + 1) p s ∧ p.At wk ∧ s.At wk ∧ Below w.heap.size w wk) := fun wk h => ⟨X0.below h, (hp.below hWB).below h, (hs.below hWB).below h, hWB.trans (h.mono hWB.size)⟩
  have HW : Hid ((w.alloc (.cells #[.slice p.ab p.nb p.cb, .slice p.sa p.ns p.cs] 25)).alloc (.cells #[.slice s.on.a s.on.n s.on.c, .slice s.os.a s.os.n s.os.c, .slice s.hs.a s.hs.n s.hs.c, .slice s.ms.a s.ms.n s.ms.c, .slice s.si.a s.si.n s.si.c, .slice s.so.a s.so.n s.so.c, .slice s.sf.a s.sf.n s.sf.c] 31) = W0) := hW
  have osl := hs.os.le
  have osc := hs.os.cap
  unfold maxLen at osc
  clear hW X0 hp hs
  unfold Pl.val St.val
  go_enter Try.func10, Try.ntmps10
  go_wp2_with fail
  rw [HW.out]
  refine (stateCheck_any p s W0 (HC.out W0 (Below.refl _ _)).2.1 (HC.out W0 (Below.refl _ _)).2.2.1).mono ?_
  rintro e w1 ⟨rfl, hB⟩
  clear HW
  obtain ⟨⟨⟨l1, d0, d1⟩, l2, c0, c1, c2, c3, c4, c5, c6⟩, -, -, hBw⟩ := HC.out w1 hB
  by_cases h0 : stateE p s = 0
  · have HR : Hid (RightT p s) := rightT h0
    have H0 : Hid (stateE p s = 0) := h0
    have ns3 := HR.out.fm.sh.pl.ns3
    have ns1 := HR.out.fm.sh.pl.ns1
    have os4 := HR.out.fm.os4
    obtain ⟨iT, hT, hT0, hT1, hT2⟩ := info_parts infoTot
    rw [h0]
    have hA1 : W0.heap.size ≤ w1.heap.size := hB.size
    clear h0 hBw
    go_wp2_with (at_make; refine wpList_make_full _ rfl _ _ 42 rfl w1.heap.size 50 iT (.agg #[.int .i64 0, .int .i64 0, .int .i64 0, .int .i64 0]) 4 Try.underlying42 hT hT0 hT1 .i64 .i64 _ _ p.ns rfl rfl rfl rfl (by rw [hT2]; omega) (by unfold maxLen; omega) (Nat.le_refl _) ?_; intro w2 hown hgrow)
    have HB2 : Hid (Below W0.heap.size W0 w2) := hB.grown hgrow hB.size (by intro k hk; cases hk)
    obtain ⟨BT, c', hv, _, _, hBT, hblk⟩ := Blk.ofOwns hown (by simp)
    simp only [Value.slice.injEq, Option.some.injEq, Addr.mk.injEq, and_true] at hv
    obtain ⟨hv, -, -⟩ := hv
    have HK2 : Hid (Blk w2 BT 50 (p.ns * 4) (hc (fun g => if g < 0 then (⟨sumTo (fun i => (s.on.r i).z g) s.on.n, 0, 0, 0⟩ : Hd) else hd0))) := (hblk.congr (fun j hj => made4 hj)).cong4 (fun j _ => by rw [if_neg (by omega)])
    rw [hv]
    have hA2 : W0.heap.size ≤ BT := by omega
    clear hown hgrow hblk hv hB hBT l1 d0 d1 l2 c0 c1 c2 c3 c4 c5 c6
    go_loopw [28] (fun kv wk => ∃ k : Nat, k ≤ p.ns ∧ kv = .int .i64 k ∧ Hid (Blk wk BT 50 (p.ns * 4) (hc (fun g => if g < k then (⟨sumTo (fun i => (s.on.r i).z g) s.on.n, 0, 0, 0⟩ : Hd) else hd0))) ∧ Hid (Below W0.heap.size W0 wk)) (fun kv _ => p.ns - (intOf kv).toNat)
    case atStart => exact ⟨0, Nat.zero_le _, rfl, HK2, HB2⟩
    case round =>
      clear HK2 HB2
      obtain ⟨k, hk, rfl, HK, HB⟩ := hrel
      obtain ⟨⟨⟨l1, d0, d1⟩, l2, c0, c1, c2, c3, c4, c5, c6⟩, hpk, hsk, -⟩ := HC.out wr HB.out
      by_cases hlt : k < p.ns
      · have q0 : (0 : Int) ≤ (k : Int) := by omega
        have q1 : (k : Int) < (p.ns : Int) := by omega
        have HCS : Hid (Calls Try.prog 29 #[.agg #[.slice p.ab p.nb p.cb, .slice p.sa p.ns p.cs], .slice s.on.a s.on.n s.on.c, .int .i64 (k : Int)] wr fun e w' => e = .returned (.tuple #[.int .i64 (sumTo (fun i => (s.on.r i).z k) s.on.n), .int .i64 0]) ∧ Below wr.heap.size wr w') := Sum_rightW p s k wr hpk hsk HR.out hlt
        clear hpk hsk
        go_wp2_with fail
        refine Calls.mono HCS.out ?_
        rintro e w3 ⟨rfl, hB3⟩
        have HK3 : Hid (Blk w3 BT 50 (p.ns * 4) (hc (fun g => if g < k then (⟨sumTo (fun i => (s.on.r i).z g) s.on.n, 0, 0, 0⟩ : Hd) else hd0))) := HK.out.below hB3
        have HB3 : Hid (Below W0.heap.size W0 w3) := HB.out.trans (hB3.mono HB.out.size)
        have z1 := HK3.out.lt
        have z2 := HK3.out.frozen (k * 4)
        have z3 := HK3.out.cell (j := k * 4) (by omega)
        have HK4 : Hid (Blk (w3.setCell ⟨BT, k * 4, none⟩ (.int .i64 (sumTo (fun i => (s.on.r i).z k) s.on.n))) BT 50 (p.ns * 4) (hc (fun g => if g < (k + 1) then (⟨sumTo (fun i => (s.on.r i).z g) s.on.n, 0, 0, 0⟩ : Hd) else hd0))) := (HK3.out.setF k 0 (by decide) (sumTo (fun i => (s.on.r i).z k) s.on.n)).cong4 (fun j _ => by
          by_cases hj : j = k
          · rw [if_pos hj, if_neg (by omega), if_pos (by omega), hj]; rfl
          · rw [if_neg hj]
            by_cases hj2 : j < k
            · rw [if_pos hj2, if_pos (by omega)]
            · rw [if_neg hj2, if_neg (by omega)])
        have HB4 : Hid (Below W0.heap.size W0 (w3.setCell ⟨BT, k * 4, none⟩ (.int .i64 (sumTo (fun i => (s.on.r i).z k) s.on.n)))) := HB3.out.setCell (p := ⟨BT, k * 4, none⟩) hA2 _
        generalize sumTo (fun i => (s.on.r i).z k) s.on.n = SM at *
        clear hB3 HK3 HB3 HCS l1 d0 d1 l2 c0 c1 c2 c3 c4 c5 c6 HK HB
        go_wp2_with fail
        go_roundw
        case rel => exact ⟨k + 1, by omega, by go_num, HK4, HB4⟩
        case measure => simp [intOf]; omega
      · have q1 : (p.ns : Int) ≤ (k : Int) := by omega
        have HK5 : Hid (Blk wr BT 50 (p.ns * 4) (hc (fun g => ordT s g 0))) := HK.out.cong4 (fun j hj => by rw [if_pos (by omega)]; rfl)
        clear hpk hsk HK
        go_wp2_with fail
        have HBX : Hid (Below W0.heap.size W0 wr) := HB.out
        clear l1 d0 d1 l2 c0 c1 c2 c3 c4 c5 c6 HB
        go_loopw [47] (fun iv wk => ∃ i : Nat, i ≤ s.os.n ∧ iv = .int .i64 i ∧ Hid (Blk wk BT 50 (p.ns * 4) (hc (fun g => ordT s g i))) ∧ Hid (Below W0.heap.size W0 wk)) (fun iv _ => s.os.n - (intOf iv).toNat)
        case atStart => exact ⟨0, Nat.zero_le _, rfl, HK5, HBX⟩
        case round =>
          clear HK5 HBX
          obtain ⟨i, hi, rfl, HK, HB⟩ := hrel
          obtain ⟨-, -, hsk, hBw⟩ := HC.out wr HB.out
          by_cases hil : i < s.os.n
          · have q2 : (0 : Int) ≤ (i : Int) := by omega
            have q3 : (i : Int) < (s.os.n : Int) := by omega
            obtain ⟨bo, oo, hoa, hbo, z0, z1, hlk⟩ := hsk.os.ods i hil
            have ln3 := (HR.out.fm.lns i hil).2
            have HLE : Hid (Hs.At wr (s.os.z i).ls) := hlk
            have lle := hlk.le
            have lcp := hlk.cap
            unfold maxLen at lcp
            obtain ⟨W4, hW4, hWB4⟩ : ∃ W, wr.alloc (.cells #[.int .i64 (s.os.z i).k, .slice (s.os.z i).ls.a (s.os.z i).ls.n (s.os.z i).ls.c] 58) = W ∧ Below wr.heap.size wr W := ⟨_, rfl, (Below.refl _ _).alloc (Nat.le_refl _) _⟩
            have HW4 : Hid (wr.alloc (.cells #[.int .i64 (s.os.z i).k, .slice (s.os.z i).ls.a (s.os.z i).ls.n (s.os.z i).ls.c] 58) = W4) := hW4
            have HK4 : Hid (Blk W4 BT 50 (p.ns * 4) (hc (fun g => lineT s i g 0 (ordT s g i)))) := HK.out.below hWB4
            have HB4 : Hid (Below W0.heap.size W0 W4) := HB.out.trans (hWB4.mono HB.out.size)
            have HOA : Hid (s.os.a = some ⟨bo, oo, none⟩) := hoa
            rw [hoa]
            clear hoa hW4 hWB4 hsk hlk
            go_wp2_with fail
            rw [HW4.out]
            clear hbo z0 z1 HW4 HK HB hBw
            generalize wr.heap.size = BO at *
            go_loopw [55] (fun jv wk => ∃ j : Nat, j ≤ (s.os.z i).ls.n ∧ jv = .int .i64 j ∧ Hid (Blk wk BT 50 (p.ns * 4) (hc (fun g => lineT s i g j (ordT s g i)))) ∧ Hid (Below W0.heap.size W0 wk)) (fun jv _ => (s.os.z i).ls.n - (intOf jv).toNat)
            case atStart => exact ⟨0, Nat.zero_le _, rfl, HK4, HB4⟩
            case round =>
              clear HK4 HB4
              obtain ⟨j, hj, rfl, HK, HB⟩ := hrel
              obtain ⟨⟨⟨l1, d0, d1⟩, l2, c0, c1, c2, c3, c4, c5, c6⟩, -, hsk, -⟩ := HC.out wr HB.out
              by_cases hjl : j < (s.os.z i).ls.n
              · have q4 : (0 : Int) ≤ (j : Int) := by omega
                have q5 : (j : Int) < ((s.os.z i).ls.n : Int) := by omega
                obtain ⟨_, _, _, _, _, _, hlk⟩ := hsk.os.ods i hil
                obtain ⟨bl, ol, hla, hbl, y0, y1, y2, y3⟩ := hlk.hds j hjl
                obtain ⟨⟨zo1, zo2⟩, ⟨zl1, zl2⟩, ⟨zb1, zb2⟩, zn1, zn2⟩ := badLine_no (HR.out.fm.line i hil j hjl)
                obtain ⟨ZL, hZL⟩ : ∃ Z, (s.os.z i).ls.z j = Z := ⟨_, rfl⟩
                have HZL : Hid ((s.os.z i).ls.z j = ZL) := hZL
                rw [hZL] at y0 y1 y2 y3 zo1 zo2 zl1 zl2 zb1 zb2 zn1 zn2
                obtain ⟨gd, hgd⟩ : ∃ gd : Nat, ZL.o = gd := ⟨ZL.o.toNat, by omega⟩
                have HGD : Hid (ZL.o = (gd : Int)) := hgd
                have hgn : gd < p.ns := by omega
                rw [hgd] at y0
                have HKE : Hid (Hs.At wr s.hs) := hsk.hs
                obtain ⟨W6, hW6, hWB6, K6⟩ : ∃ W, wr.alloc (.cells #[.int .i64 (gd : Int), .int .i64 ZL.l, .int .i64 ZL.b, .int .i64 ZL.n] 60) = W ∧ Below wr.heap.size wr W ∧ Blk W wr.heap.size 60 4 (fun q => (#[.int .i64 (gd : Int), .int .i64 ZL.l, .int .i64 ZL.b, .int .i64 ZL.n] : Array Value).getD q default) := ⟨_, rfl, (Below.refl _ _).alloc (Nat.le_refl _) _, Blk.mk' rfl rfl⟩
                have HW6 : Hid (wr.alloc (.cells #[.int .i64 (gd : Int), .int .i64 ZL.l, .int .i64 ZL.b, .int .i64 ZL.n] 60) = W6) := hW6
                have HL6 : Hid (Blk W6 wr.heap.size 60 4 (fun q => (#[.int .i64 (gd : Int), .int .i64 ZL.l, .int .i64 ZL.b, .int .i64 ZL.n] : Array Value).getD q default)) := K6
                have HK6 : Hid (Blk W6 BT 50 (p.ns * 4) (hc (fun g => lineT s i g j (ordT s g i)))) := HK.out.below hWB6
                have HB6 : Hid (Below W0.heap.size W0 W6) := HB.out.trans (hWB6.mono HB.out.size)
                have HH6 : Hid (Hs.At W6 s.hs) := HKE.out.below hWB6
                rw [hla]
                have HLA : Hid ((s.os.z i).ls.a = some ⟨bl, ol, none⟩) := hla
                clear hla hlk hsk hZL hgd hW6 hWB6 K6 HKE
                go_wp2_with fail
                rw [HW6.out]
                clear hbl y0 y1 y2 y3 HW6 HK HB l1 d0 d1 l2 c0 c1 c2 c3 c4 c5 c6
                generalize wr.heap.size = BL at *
                refine Calls.mono (Kept_rightW s.hs i j W6 HH6.out HR.out.fm.hold) ?_
                rintro e w7 ⟨rfl, hB7⟩
                have HK7 : Hid (Blk w7 BT 50 (p.ns * 4) (hc (fun g => lineT s i g j (ordT s g i)))) := HK6.out.below hB7
                have HL7 : Hid (Blk w7 BL 60 4 (fun q => (#[.int .i64 (gd : Int), .int .i64 ZL.l, .int .i64 ZL.b, .int .i64 ZL.n] : Array Value).getD q default)) := HL6.out.below hB7
                have HB7 : Hid (Below W0.heap.size W0 w7) := HB6.out.trans (hB7.mono HB6.out.size)
                clear hB7 HK6 HL6 HB6 HH6
                have kb := keptS_bd (z := s.hs.z) i j s.hs.n fun q hq => (fineH_true (right_fine HR.out.fm.hold q hq)).2.2.2
                have h72 := HR.out.fm.hs72
                have HTL : Hid (TotLe (lineT s i gd j (ordT s gd i)) (43200 * i + 14400 * j)) := lineT_le HR.out.fm hil (ordT_le HR.out.fm (by omega)) hj
                have HAD : Hid (∀ g, addT (lineT s i g j (ordT s g i)) ZL (keptS s.hs.z i j s.hs.n) g = lineT s i g (j + 1) (ordT s g i)) := fun g => by show _ = addT _ ((s.os.z i).ls.z j) _ g; rw [HZL.out]
                generalize keptS s.hs.z i j s.hs.n = KP at *
                obtain ⟨T0, hT0⟩ : ∃ T, lineT s i gd j (ordT s gd i) = T := ⟨_, rfl⟩
                have HT0 : Hid (lineT s i gd j (ordT s gd i) = T0) := hT0
                rw [hT0] at HTL
                obtain ⟨⟨tl1, tl2⟩, ⟨tb1, tb2⟩, tn1, tn2⟩ := HTL.out
                clear hT0 HTL
                have z1 := HK7.out.lt
                have z2 := HK7.out.frozen (gd * 4 + 1)
                have z3 : w7.cell? ⟨BT, gd * 4 + 1, none⟩ = some (.int .i64 T0.l) := by
                  rw [HK7.out.cell (j := gd * 4 + 1) (by omega), (hc_at _ gd).2.1, HT0.out]
                have z4 : w7.cell? ⟨BL, 0, none⟩ = some (.int .i64 (gd : Int)) := HL7.out.cell (j := 0) (by decide)
                have z5 := HL7.out.lt
                have g0 : (0 : Int) ≤ (gd : Int) := by omega
                have g1 : (gd : Int) < (p.ns : Int) := by omega
                have HK8 : Hid (Blk (w7.setCell ⟨BT, gd * 4 + 1, none⟩ (.int .i64 (T0.l + KP))) BT 50 (p.ns * 4) (hc (fun g => if g = gd then setHd (lineT s i g j (ordT s g i)) 1 (T0.l + KP) else lineT s i g j (ordT s g i)))) := HK7.out.setF gd 1 (by decide) (T0.l + KP)
                have HL8 : Hid (Blk (w7.setCell ⟨BT, gd * 4 + 1, none⟩ (.int .i64 (T0.l + KP))) BL 60 4 (fun q => (#[.int .i64 (gd : Int), .int .i64 ZL.l, .int .i64 ZL.b, .int .i64 ZL.n] : Array Value).getD q default)) := HL7.out.other (a := ⟨BT, gd * 4 + 1, none⟩) (Blk.ne2 HL7.out HK7.out (by decide)) _
                have HB8 : Hid (Below W0.heap.size W0 (w7.setCell ⟨BT, gd * 4 + 1, none⟩ (.int .i64 (T0.l + KP)))) := HB7.out.setCell (p := ⟨BT, gd * 4 + 1, none⟩) hA2 _
                clear HK7 HL7 HB7
                go_wp2_with fail
                clear z1 z2 z3 z4 z5
                generalize (w7.setCell ⟨BT, gd * 4 + 1, none⟩ (.int .i64 (T0.l + KP))) = W8 at *
                have u1 : W8.cell? ⟨BT, gd * 4 + 2, none⟩ = some (.int .i64 T0.b) := by
                  rw [HK8.out.cell (j := gd * 4 + 2) (by omega), (hc_at _ gd).2.2.1, if_pos rfl, HT0.out]
                  rfl
                have u2 : W8.cell? ⟨BL, 3, none⟩ = some (.int .i64 ZL.n) := HL8.out.cell (j := 3) (by decide)
                have u3 := HK8.out.lt
                have u4 := HL8.out.lt
                have ru1 := fun d os => cell_regrown u1 d os
                have ru2 := fun d os => cell_regrown u2 d os
                clear u1 u2
                refine wp_region_ph [(true, [0, 1, 2, 3, 4, 5, 6, 7, 8], some 9)] (by kernel_rfl) (by kernel_rfl) (by kernel_rfl) (by kernel_rfl) (by kernel_rfl) ?_
                refine ⟨fun w' => ∃ p : Regrown, w' = grow (redrawn W8 p.d) p.os, regrown_of_below ((Below.refl _ _).drew), fun h => (by cases h), ?_⟩
                simp only [picks, List.drop_succ_cons, List.drop_zero, List.take_succ_cons, List.take_zero, List.cons_append, List.nil_append]
                repeat (go_big_quiet_step (fail))
                refine wpQuiet_nil ?_
                clear ru1 ru2 u3 u4
                have hBd : Below W8.heap.size W8 W8.drew := (Below.refl _ _).drew
                generalize W8.drew = wj at *
                have HKj : Hid (Blk wj BT 50 (p.ns * 4) (hc (fun g => if g = gd then setHd (lineT s i g j (ordT s g i)) 1 (T0.l + KP) else lineT s i g j (ordT s g i)))) := HK8.out.below hBd
                have HLj : Hid (Blk wj BL 60 4 (fun q => (#[.int .i64 (gd : Int), .int .i64 ZL.l, .int .i64 ZL.b, .int .i64 ZL.n] : Array Value).getD q default)) := HL8.out.below hBd
                have HBj : Hid (Below W0.heap.size W0 wj) := HB8.out.trans (hBd.mono HB8.out.size)
                have b1 := HKj.out.lt
                have b2 := HKj.out.frozen (gd * 4 + 2)
                have b3 := HKj.out.cell (j := gd * 4 + 2) (by omega)
                have HK9 : Hid (Blk (wj.setCell ⟨BT, gd * 4 + 2, none⟩ (.int .i64 (T0.b + ZL.n))) BT 50 (p.ns * 4) (hc (fun g => if g = gd then setHd (setHd (lineT s i g j (ordT s g i)) 1 (T0.l + KP)) 2 (T0.b + ZL.n) else lineT s i g j (ordT s g i)))) := (HKj.out.setF gd 2 (by decide) (T0.b + ZL.n)).cong4 (fun q _ => by
                  by_cases hq : q = gd
                  · rw [if_pos hq, if_pos hq, if_pos hq]
                  · rw [if_neg hq, if_neg hq, if_neg hq])
                have HL9 : Hid (Blk (wj.setCell ⟨BT, gd * 4 + 2, none⟩ (.int .i64 (T0.b + ZL.n))) BL 60 4 (fun q => (#[.int .i64 (gd : Int), .int .i64 ZL.l, .int .i64 ZL.b, .int .i64 ZL.n] : Array Value).getD q default)) := HLj.out.other (a := ⟨BT, gd * 4 + 2, none⟩) (Blk.ne2 HLj.out HKj.out (by decide)) _
                have HB9 : Hid (Below W0.heap.size W0 (wj.setCell ⟨BT, gd * 4 + 2, none⟩ (.int .i64 (T0.b + ZL.n)))) := HBj.out.setCell (p := ⟨BT, gd * 4 + 2, none⟩) hA2 _
                clear hBd HKj HLj HBj HK8 HL8 HB8
                refine wpOp_one 9 rfl ?_
                go_wp2_with fail
                refine NoPanic.normal ?_
                clear b1 b2 b3
                generalize wj.setCell ⟨BT, gd * 4 + 2, none⟩ (.int .i64 (T0.b + ZL.n)) = W9 at *
                go_wp2_with fail
                have u1 : W9.cell? ⟨BT, gd * 4 + 3, none⟩ = some (.int .i64 T0.n) := by
                  rw [HK9.out.cell (j := gd * 4 + 3) (by omega), (hc_at _ gd).2.2.2, if_pos rfl, HT0.out]
                  rfl
                have u2 : W9.cell? ⟨BL, 2, none⟩ = some (.int .i64 ZL.b) := HL9.out.cell (j := 2) (by decide)
                have u3 := HK9.out.lt
                have u4 := HL9.out.lt
                have ru1 := fun d os => cell_regrown u1 d os
                have ru2 := fun d os => cell_regrown u2 d os
                clear u1 u2
                refine wp_region_ph [(true, [0, 1, 2, 3, 4, 5, 6, 7, 8], some 9)] (by kernel_rfl) (by kernel_rfl) (by kernel_rfl) (by kernel_rfl) (by kernel_rfl) ?_
                refine ⟨fun w' => ∃ p : Regrown, w' = grow (redrawn W9 p.d) p.os, regrown_of_below ((Below.refl _ _).drew), fun h => (by cases h), ?_⟩
                simp only [picks, List.drop_succ_cons, List.drop_zero, List.take_succ_cons, List.take_zero, List.cons_append, List.nil_append]
                repeat (go_big_quiet_step (fail))
                refine wpQuiet_nil ?_
                clear ru1 ru2 u3 u4
                have hBd : Below W9.heap.size W9 W9.drew := (Below.refl _ _).drew
                generalize W9.drew = wj at *
                have HKj : Hid (Blk wj BT 50 (p.ns * 4) (hc (fun g => if g = gd then setHd (setHd (lineT s i g j (ordT s g i)) 1 (T0.l + KP)) 2 (T0.b + ZL.n) else lineT s i g j (ordT s g i)))) := HK9.out.below hBd
                have HLj : Hid (Blk wj BL 60 4 (fun q => (#[.int .i64 (gd : Int), .int .i64 ZL.l, .int .i64 ZL.b, .int .i64 ZL.n] : Array Value).getD q default)) := HL9.out.below hBd
                have HBj : Hid (Below W0.heap.size W0 wj) := HB9.out.trans (hBd.mono HB9.out.size)
                have b1 := HKj.out.lt
                have b2 := HKj.out.frozen (gd * 4 + 3)
                have b3 := HKj.out.cell (j := gd * 4 + 3) (by omega)
                have HK10 : Hid (Blk (wj.setCell ⟨BT, gd * 4 + 3, none⟩ (.int .i64 (T0.n + ZL.b))) BT 50 (p.ns * 4) (hc (fun g => lineT s i g (j + 1) (ordT s g i)))) := (HKj.out.setF gd 3 (by decide) (T0.n + ZL.b)).cong4 (fun q _ => by
                  rw [← HAD.out q]
                  unfold addT
                  by_cases hq : q = gd
                  · rw [if_pos hq, if_pos hq, if_pos (by rw [HGD.out]; omega), hq, HT0.out]
                    rfl
                  · rw [if_neg hq, if_neg hq, if_neg (by rw [HGD.out]; omega)])
                have HL10 : Hid (Blk (wj.setCell ⟨BT, gd * 4 + 3, none⟩ (.int .i64 (T0.n + ZL.b))) BL 60 4 (fun q => (#[.int .i64 (gd : Int), .int .i64 ZL.l, .int .i64 ZL.b, .int .i64 ZL.n] : Array Value).getD q default)) := HLj.out.other (a := ⟨BT, gd * 4 + 3, none⟩) (Blk.ne2 HLj.out HKj.out (by decide)) _
                have HB10 : Hid (Below W0.heap.size W0 (wj.setCell ⟨BT, gd * 4 + 3, none⟩ (.int .i64 (T0.n + ZL.b)))) := HBj.out.setCell (p := ⟨BT, gd * 4 + 3, none⟩) hA2 _
                clear hBd HKj HLj HBj HK9 HL9 HB9
                refine wpOp_one 9 rfl ?_
                go_wp2_with fail
                refine NoPanic.normal ?_
                clear b1 b2 b3
                generalize wj.setCell ⟨BT, gd * 4 + 3, none⟩ (.int .i64 (T0.n + ZL.b)) = W10 at *
                go_wp2_with fail
                go_roundw
                case rel => exact ⟨j + 1, by omega, by go_num, HK10, HB10⟩
                case measure => simp [intOf]; omega
              · have q5 : ((s.os.z i).ls.n : Int) ≤ (j : Int) := by omega
                have hjn : j = (s.os.z i).ls.n := by omega
                have HKN : Hid (Blk wr BT 50 (p.ns * 4) (hc (fun g => ordT s g (i + 1)))) := HK.out.cong4 (fun q _ => by rw [hjn]; rfl)
                clear hsk l1 d0 d1 l2 c0 c1 c2 c3 c4 c5 c6 HK hjn
                go_wp2_with fail
                go_roundw
                case rel => exact ⟨i + 1, by omega, by go_num, HKN, HB⟩
                case measure => simp [intOf]; omega
          · have q3 : (s.os.n : Int) ≤ (i : Int) := by omega
            have hin : i = s.os.n := by omega
            have HKE : Hid (Blk wr BT 50 (p.ns * 4) (hc (fun g => totT s g))) := HK.out.cong4 (fun j _ => by rw [hin]; rfl)
            clear hsk
            go_wp2_with fail
            refine bodyPost_ret (results_tmp2 rfl _ _ _) rfl ?_
            refine ⟨⟨some ⟨BT, 0, none⟩, p.ns, p.ns, fun g => totT s g⟩, by rw [H0.out]; rfl, ⟨Nat.le_refl _, by show p.ns ≤ maxLen; unfold maxLen; omega, HKE.out.hds, fun e => by cases e⟩, fun _ => ⟨rfl, fun _ _ => rfl⟩, fun h => absurd H0.out h, hBw⟩
  · have g0 : (stateE p s != 0) = true := by simpa using h0
    have H0 : Hid (¬ stateE p s = 0) := h0
    clear h0
    go_wp2_with fail
    refine bodyPost_ret (results_tmp2 rfl _ _ _) rfl ?_
    exact ⟨⟨none, 0, 0, fun _ => hd0⟩, rfl, ⟨Nat.le_refl _, Nat.zero_le _, fun i hi => absurd hi (Nat.not_lt_zero _), fun _ => rfl⟩, fun h => absurd h H0.out, fun _ => rfl, hBw⟩
end Go.Proofs.Ytbcacebifpagpaf
namespace Go.Proofs.Ytbcacebifpagpaf
open Go.RowKit Go.Shelf Go.Sort
set_option linter.unusedVariables false
def openV (p : Pl) (s : St) : Int := if stateE p s = 0 then (openN s s.os.n : Nat) else 0
theorem openN_hit {s : St} {i : Nat} (h : (s.os.z i).k = 2) : openN s (i + 1) = openN s i := by simp only [openN]; rw [if_pos h, Nat.add_zero]
theorem openN_miss {s : St} {i : Nat} (h : ¬ (s.os.z i).k = 2) : openN s (i + 1) = openN s i + 1 := by simp only [openN]; rw [if_neg h]
set_option maxRecDepth 100000 in
set_option maxHeartbeats 4000000 in
theorem Open_any (p : Pl) (s : St) (w : World) (hp : p.At w) (hs : s.At w) :
    Calls Try.prog 11 #[p.val, s.val] w fun e w' => e = .returned (.tuple #[.int .i64 (openV p s), .int .i64 (stateE p s)]) ∧ Below w.heap.size w w' := by
  obtain ⟨W0, hW, hWB, X0⟩ : ∃ W, ((w.alloc (.cells #[.slice p.ab p.nb p.cb, .slice p.sa p.ns p.cs] 25)).alloc (.cells s.cells 31)) = W ∧ Below w.heap.size w W ∧ Boxes W w.heap.size (w.heap.size + 1) p s := ⟨_, rfl, two_below _ _ _, boxes_new w p s _ _⟩
  have HC : Hid (∀ wk, Below W0.heap.size W0 wk → Boxes wk w.heap.size (w.heap.size + 1) p s ∧ p.At wk ∧ s.At wk ∧ Below w.heap.size w wk) := fun wk h => ⟨X0.below h, (hp.below hWB).below h, (hs.below hWB).below h, hWB.trans (h.mono hWB.size)⟩
  have HW : Hid ((w.alloc (.cells #[.slice p.ab p.nb p.cb, .slice p.sa p.ns p.cs] 25)).alloc (.cells #[.slice s.on.a s.on.n s.on.c, .slice s.os.a s.os.n s.os.c, .slice s.hs.a s.hs.n s.hs.c, .slice s.ms.a s.ms.n s.ms.c, .slice s.si.a s.si.n s.si.c, .slice s.so.a s.so.n s.so.c, .slice s.sf.a s.sf.n s.sf.c] 31) = W0) := hW
  have osl := hs.os.le
  have osc := hs.os.cap
  unfold maxLen at osc
  clear hW X0 hp hs
  unfold Pl.val St.val
  go_enter Try.func11, Try.ntmps11
  go_wp2_with fail
  rw [HW.out]
  refine (stateCheck_any p s W0 (HC.out W0 (Below.refl _ _)).2.1 (HC.out W0 (Below.refl _ _)).2.2.1).mono ?_
  rintro e w1 ⟨rfl, hB⟩
  clear HW
  obtain ⟨⟨⟨l1, d0, d1⟩, l2, c0, c1, c2, c3, c4, c5, c6⟩, -, -, hBw⟩ := HC.out w1 hB
  by_cases h0 : stateE p s = 0
  · have HR : Hid (RightT p s) := rightT h0
    have HV : Hid (openV p s = (openN s s.os.n : Nat) ∧ stateE p s = 0) := ⟨by unfold openV; rw [if_pos h0], h0⟩
    have os4 := HR.out.fm.os4
    have HB1 : Hid (Below W0.heap.size W0 w1) := hB
    rw [h0]
    clear h0 hBw hB
    go_wp2_with fail
    clear l1 d0 d1 l2 c0 c1 c2 c3 c4 c5 c6
    go_loopw [7, 19] (fun ov iv wk => ∃ i : Nat, i ≤ s.os.n ∧ iv = .int .i64 i ∧ ov = .int .i64 (openN s i : Nat) ∧ Hid (Below W0.heap.size W0 wk)) (fun _ iv _ => s.os.n - (intOf iv).toNat)
    case atStart => exact ⟨0, Nat.zero_le _, rfl, rfl, HB1⟩
    case round =>
      clear HB1
      obtain ⟨i, hi, rfl, rfl, HB⟩ := hrel
      have on := openN_le s i
      obtain ⟨-, -, hsk, hBw⟩ := HC.out wr HB.out
      by_cases hil : i < s.os.n
      · have q2 : (0 : Int) ≤ (i : Int) := by omega
        have q3 : (i : Int) < (s.os.n : Int) := by omega
        obtain ⟨bo, oo, hoa, hbo, z0, z1, hlk⟩ := hsk.os.ods i hil
        have HB4 : Hid (Below W0.heap.size W0 (wr.alloc (.cells #[.int .i64 (s.os.z i).k, .slice (s.os.z i).ls.a (s.os.z i).ls.n (s.os.z i).ls.c] 58))) := HB.out.alloc HB.out.size _
        by_cases hk : (s.os.z i).k = 2
        · have HO := openN_hit hk
          have HO2 : Hid (openN s (i + 1) = openN s i) := HO
          have hk' : ((s.os.z i).k != 2) = false := by rw [hk]; rfl
          rw [hoa]
          clear hoa HO hlk hk hsk hBw
          generalize (s.os.z i).k = KD at *
          go_wp2_with fail
          go_roundw
          case rel => exact ⟨i + 1, by omega, by go_num, by rw [HO2.out], HB4⟩
          case measure => simp [intOf]; omega
        · have HO := openN_miss hk
          have HO2 : Hid (openN s (i + 1) = openN s i + 1) := HO
          have hk' : ((s.os.z i).k != 2) = true := by simpa using hk
          rw [hoa]
          clear hoa HO hlk hk hsk hBw
          generalize (s.os.z i).k = KD at *
          go_wp2_with fail
          go_roundw
          case rel => exact ⟨i + 1, by omega, by go_num, by rw [HO2.out]; go_num, HB4⟩
          case measure => simp [intOf]; omega
      · have q3 : (s.os.n : Int) ≤ (i : Int) := by omega
        have hin : i = s.os.n := by omega
        have HIN : Hid (i = s.os.n) := hin
        clear hsk hin
        go_wp2_with fail
        go_ret2
        exact ⟨by rw [HV.out.1, HV.out.2, HIN.out]; rfl, hBw⟩
  · have g0 : (stateE p s != 0) = true := by simpa using h0
    have HV : Hid (openV p s = 0) := by show openV p s = 0; unfold openV; rw [if_neg h0]
    clear h0
    go_wp2_with fail
    go_ret2
    exact ⟨by rw [HV.out]; rfl, hBw⟩
set_option maxRecDepth 100000 in
set_option maxHeartbeats 4000000 in
theorem OpenOf_any (p : Pl) (s : St) (w : World) (hs : s.At w) (f : Formed p s) :
    Calls Try.prog 14 #[s.val] w fun e w' => e = .returned (.int .i64 (openN s s.os.n : Nat)) ∧ Below w.heap.size w w' := by
  obtain ⟨W0, hW0, hWB, hX⟩ : ∃ W0, w.alloc (.cells s.cells 31) = W0 ∧ Below w.heap.size w W0 ∧ Blk W0 w.heap.size 31 7 (fun j => s.cells.getD j default) := ⟨_, rfl, (Below.refl w.heap.size w).alloc (Nat.le_refl _) _, Blk.mk' rfl rfl⟩
  have HC : Hid (∀ wk, Below W0.heap.size W0 wk → s.At wk ∧ wk.cell? ⟨w.heap.size, 1, none⟩ = some (.slice s.os.a s.os.n s.os.c) ∧ w.heap.size < wk.heap.size ∧ Below w.heap.size w wk) := fun wk h => ⟨(hs.below hWB).below h, (hX.below h).cell (j := 1) (by decide), (hX.below h).lt, hWB.trans (h.mono hWB.size)⟩
  have HW : Hid (w.alloc (.cells #[.slice s.on.a s.on.n s.on.c, .slice s.os.a s.os.n s.os.c, .slice s.hs.a s.hs.n s.hs.c, .slice s.ms.a s.ms.n s.ms.c, .slice s.si.a s.si.n s.si.c, .slice s.so.a s.so.n s.so.c, .slice s.sf.a s.sf.n s.sf.c] 31) = W0) := hW0
  have os4 := f.os4
  have osl := hs.os.le
  have osc := hs.os.cap
  unfold maxLen at osc
  have HB0 : Hid (Below W0.heap.size W0 W0) := Below.refl _ _
  clear hX hW0 hs f
  unfold St.val
  go_enter Try.func14, Try.ntmps14
  go_wp2_with fail
  rw [HW.out]
  clear HW
  go_loopw [3, 4] (fun ov iv wk => ∃ i : Nat, i ≤ s.os.n ∧ iv = .int .i64 i ∧ ov = .int .i64 (openN s i : Nat) ∧ Hid (Below W0.heap.size W0 wk)) (fun _ iv _ => s.os.n - (intOf iv).toNat)
  case atStart => exact ⟨0, Nat.zero_le _, rfl, rfl, HB0⟩
  case round =>
    clear HB0
    obtain ⟨i, hi, rfl, rfl, HB⟩ := hrel
    have on := openN_le s i
    obtain ⟨hsk, c1, l1, hBw⟩ := HC.out wr HB.out
    by_cases hil : i < s.os.n
    · have q2 : (0 : Int) ≤ (i : Int) := by omega
      have q3 : (i : Int) < (s.os.n : Int) := by omega
      obtain ⟨bo, oo, hoa, hbo, z0, z1, hlk⟩ := hsk.os.ods i hil
      rw [hoa] at c1
      by_cases hk : (s.os.z i).k = 2
      · have HO2 : Hid (openN s (i + 1) = openN s i) := openN_hit hk
        have hk' : ((s.os.z i).k != 2) = false := by rw [hk]; rfl
        clear hoa hlk hk hsk hBw
        generalize (s.os.z i).k = KD at *
        go_wp2_with fail
        go_roundw
        case rel => exact ⟨i + 1, by omega, by go_num, by rw [HO2.out], HB⟩
        case measure => simp [intOf]; omega
      · have HO2 : Hid (openN s (i + 1) = openN s i + 1) := openN_miss hk
        have hk' : ((s.os.z i).k != 2) = true := by simpa using hk
        clear hoa hlk hk hsk hBw
        generalize (s.os.z i).k = KD at *
        go_wp2_with fail
        go_roundw
        case rel => exact ⟨i + 1, by omega, by go_num, by rw [HO2.out]; go_num, HB⟩
        case measure => simp [intOf]; omega
    · have q3 : (s.os.n : Int) ≤ (i : Int) := by omega
      have HIN : Hid (i = s.os.n) := by show i = s.os.n; omega
      clear hsk
      go_wp2_with fail
      go_ret
      exact ⟨by rw [HIN.out]; rfl, hBw⟩
end Go.Proofs.Ytbcacebifpagpaf
namespace Go.Proofs.Ytbcacebifpagpaf
open Go.RowKit Go.Shelf Go.Sort
set_option linter.unusedVariables false
theorem totBusy (g1 g2 g : Nat) : totT (busyS g 2 0) 0 = ⟨12, 5, 0, 1⟩ ∧ totT (busyS g 2 0) 1 = ⟨6, 6, 3, 0⟩ ∧ openV (yardP g1 g2) (busyS g 2 0) = 2 := ⟨by kernel_rfl, by kernel_rfl, by kernel_rfl⟩
set_option maxRecDepth 100000 in
set_option maxHeartbeats 4000000 in
theorem bookBegun_any (w : World) :
    Calls Try.prog 15 #[] w fun e w' => e = .returned (.bool true) ∧ Below w.heap.size w w' := by
  go_enter Try.func15, Try.ntmps15
  go_wp2_with fail
  refine (yard_any _).mono ?_
  rintro e wa ⟨g1, g2, rfl, -, -, k1, k2, hA⟩
  go_wp2_with fail
  refine (busy_any _).mono ?_
  rintro e wb ⟨g, rfl, -, bb, hB⟩
  have hD := hA.trans (hB.mono hA.size)
  have HAT : Hid ((yardP g1 g2).At wb ∧ (busyS g 2 0).At wb) := ⟨yardAt (k1.below hB) (k2.below hB), busyAt bb⟩
  clear hA hB k1 k2 bb
  simp only [busyS, St.val]
  go_wp2_with fail
  refine (Totals_any (yardP g1 g2) (busyS g 2 0) wb HAT.out.1 HAT.out.2).mono ?_
  rintro e w1 ⟨h, rfl, hat, hok, -, hB⟩
  have hE := hD.trans (hB.mono hD.size)
  have HT : Hid (h.n = 2 ∧ h.z 0 = ⟨12, 5, 0, 1⟩ ∧ h.z 1 = ⟨6, 6, 3, 0⟩) := by
    obtain ⟨a, b⟩ := hok (busyE g1 g2 g).1
    exact ⟨a, (b 0 (show 0 < 2 by decide)).trans (totBusy g1 g2 g).1, (b 1 (show 1 < 2 by decide)).trans (totBusy g1 g2 g).2.1⟩
  have HE : Hid (Below w.heap.size w w1) := hE
  have HH : Hid (h.At w1) := hat
  rw [(busyE g1 g2 g).1]
  clear hD hB HAT hok hat hE
  go_wp2_with fail
  refine (yard_any _).mono ?_
  rintro e wa ⟨g1, g2, rfl, -, -, k1, k2, hA⟩
  go_wp2_with fail
  refine (busy_any _).mono ?_
  rintro e wb ⟨g, rfl, -, bb, hB⟩
  have hD := hA.trans (hB.mono hA.size)
  have HAT : Hid ((yardP g1 g2).At wb ∧ (busyS g 2 0).At wb) := ⟨yardAt (k1.below hB) (k2.below hB), busyAt bb⟩
  clear hA hB k1 k2 bb
  simp only [busyS, St.val]
  go_wp2_with fail
  refine (Open_any (yardP g1 g2) (busyS g 2 0) wb HAT.out.1 HAT.out.2).mono ?_
  rintro e w2 ⟨rfl, hB⟩
  have hE := hD.trans (hB.mono hD.size)
  rw [(busyE g1 g2 g).1, (totBusy g1 g2 g).2.2]
  have hF := HE.out.trans (hE.mono HE.out.size)
  have hat := HH.out.below hE
  obtain ⟨hn, h0, h1⟩ := HT.out
  obtain ⟨b5, o5, ha5, hb5, y50, y51, y52, y53⟩ := hat.hds 0 (by omega)
  obtain ⟨b6, o6, ha6, hb6, y60, y61, y62, y63⟩ := hat.hds 1 (by omega)
  rw [ha5] at ha6
  simp only [Option.some.injEq, Addr.mk.injEq, and_true] at ha6
  obtain ⟨rfl, rfl⟩ := ha6
  rw [h0] at y50 y51 y52 y53
  rw [h1] at y60 y61 y62 y63
  have hle := hat.le
  have hcap := hat.cap
  unfold maxLen at hcap
  dsimp only at y50 y51 y52 y53 y60 y61 y62 y63
  rw [hn] at hle
  rw [ha5, hn]
  clear hD hB HAT HE HH HT hE hat hn h0 h1 ha5 hb6
  simp only [Nat.zero_mul, Nat.add_zero] at y50 y51 y52 y53
  go_wp2_with fail
  go_ret
  exact ⟨by simp, hF⟩
end Go.Proofs.Ytbcacebifpagpaf
namespace Go.Proofs.Ytbcacebifpagpaf
open Go.RowKit Go.Shelf Go.Sort
set_option linter.unusedVariables false
theorem owns_belowB {A B : Nat} {w w' : World} {e : TypeId} {size : Nat} {v : Value} {n : Nat} {xs : List Value} (h : w.ownsRow A e size v n xs) (hB : Below B w w') (hw : w.heap.size ≤ B := by omega) : w'.ownsRow A e size v n xs :=
  ⟨h.1, h.2.imp_right fun ⟨g, cap, cur, h1, h2, h3, h4⟩ => ⟨g, cap, cur, h1, h2, (hB.block g (Nat.lt_of_lt_of_le (Array.getElem?_eq_some_iff.1 h3).1 hw)).trans h3, h4⟩⟩
theorem owns_blockT {A : Nat} {w : World} {e : TypeId} {size : Nat} {v : Value} {n : Nat} {xs : List Value} (h : w.ownsRow A e size v n xs) {k : Nat} (e' : v.ownBlock = some k) : A ≤ k := by
  obtain ⟨_, ⟨rfl, _⟩ | ⟨g, cap, cur, rfl, hb, _⟩⟩ := h
  · cases e'
  · simp only [Value.ownBlock, Option.some.injEq] at e'
    omega
def TB (w : World) (B : Nat) (x : Hd) : Prop := Blk w B 50 (1 * 4) (hc fun _ => x)
theorem TB.below {w w' : World} {B : Nat} {x : Hd} (h : TB w B x) (hB : Below w.heap.size w w') : TB w' B x := Blk.below h hB
theorem TB.setF {w : World} {B : Nat} {x : Hd} (h : TB w B x) (f : Nat) (hf : f < 4) (v : Int) : TB (w.setCell ⟨B, f, none⟩ (.int .i64 v)) B (setHd x f v) := by
  have k := Blk.setF h 0 f hf v
  rw [Nat.zero_mul, Nat.zero_add] at k
  exact k.cong4 fun j hj => by rw [if_pos (by omega)]
theorem TB.cells {w : World} {B : Nat} {x : Hd} (h : TB w B x) : w.cell? ⟨B, 0, none⟩ = some (.int .i64 x.o) ∧ w.cell? ⟨B, 1, none⟩ = some (.int .i64 x.l) ∧ w.cell? ⟨B, 2, none⟩ = some (.int .i64 x.b) ∧ w.cell? ⟨B, 3, none⟩ = some (.int .i64 x.n) :=
  ⟨h.cell (j := 0) (by decide), h.cell (j := 1) (by decide), h.cell (j := 2) (by decide), h.cell (j := 3) (by decide)⟩
theorem TB.new (w : World) (a b c d : Int) : TB (w.alloc (.cells #[.int .i64 a, .int .i64 b, .int .i64 c, .int .i64 d] 50)) w.heap.size ⟨a, b, c, d⟩ := by
  refine (Blk.mk' (cur := #[.int .i64 a, .int .i64 b, .int .i64 c, .int .i64 d]) rfl rfl).congr fun j hj => ?_
  have hj' : j < 4 := hj
  match j, hj' with
  | 0, _ => rfl
  | 1, _ => rfl
  | 2, _ => rfl
  | 3, _ => rfl
set_option maxRecDepth 100000 in
set_option maxHeartbeats 8000000 in
theorem TotalsOf_any (p : Pl) (s : St) (w : World) (hp : p.At w) (hs : s.At w) (r : RightT p s) :
    Calls Try.prog 13 #[p.val, s.val] w fun e w' => ∃ h : Hs, e = .returned (.slice h.a h.n h.c) ∧ h.At w' ∧ (h.n = p.ns ∧ ∀ g, g < p.ns → h.z g = totT s g) ∧ Below w.heap.size w w' := by
  obtain ⟨W0, hW, hWB, X0⟩ : ∃ W, ((w.alloc (.cells #[.slice p.ab p.nb p.cb, .slice p.sa p.ns p.cs] 25)).alloc (.cells s.cells 31)) = W ∧ Below w.heap.size w W ∧ Boxes W w.heap.size (w.heap.size + 1) p s := ⟨_, rfl, two_below _ _ _, boxes_new w p s _ _⟩
  have HC : Hid (∀ wk, Below W0.heap.size W0 wk → Boxes wk w.heap.size (w.heap.size + 1) p s ∧ p.At wk ∧ s.At wk ∧ Below w.heap.size w wk) := fun wk h => ⟨X0.below h, (hp.below hWB).below h, (hs.below hWB).below h, hWB.trans (h.mono hWB.size)⟩
  have HW : Hid ((w.alloc (.cells #[.slice p.ab p.nb p.cb, .slice p.sa p.ns p.cs] 25)).alloc (.cells #[.slice s.on.a s.on.n s.on.c, .slice s.os.a s.os.n s.os.c, .slice s.hs.a s.hs.n s.hs.c, .slice s.ms.a s.ms.n s.ms.c, .slice s.si.a s.si.n s.si.c, .slice s.so.a s.so.n s.so.c, .slice s.sf.a s.sf.n s.sf.c] 31) = W0) := hW
  have osl := hs.os.le
  have osc := hs.os.cap
  unfold maxLen at osc
  have HR : Hid (RightT p s) := r
  have ns3 := HR.out.fm.sh.pl.ns3
  have os4 := HR.out.fm.os4
  have HB0 : Hid (Below W0.heap.size W0 W0) := Below.refl _ _
  have HV0 : Hid (W0.ownsRow W0.heap.size 50 4 (.slice none 0 0) 0 (flatH 0 (totT s))) := World.ownsRow_nil _ _ _ _
  obtain ⟨iT, hT, hT0, hT1, hT2⟩ := info_parts infoTot
  clear hW X0 hp hs r
  unfold Pl.val St.val
  go_enter Try.func13, Try.ntmps13
  go_wp2_with fail
  rw [HW.out]
  clear HW
  go_loopw [5, 6] (fun v gv wk => ∃ (g : Nat) (va : Option Addr) (vc : Nat), g ≤ p.ns ∧ gv = .int .i64 g ∧ v = .slice va g vc ∧ Hid (wk.ownsRow W0.heap.size 50 4 (.slice va g vc) g (flatH g (totT s))) ∧ Hid (Below W0.heap.size W0 wk)) (fun _ gv _ => p.ns - (intOf gv).toNat)
  case atStart => exact ⟨0, none, 0, Nat.zero_le _, rfl, rfl, HV0, HB0⟩
  case round =>
    clear HV0 HB0
    obtain ⟨g, va, vc, hg, rfl, rfl, HV, HB⟩ := hrel
    obtain ⟨⟨⟨l1, d0, d1⟩, l2, c0, c1, c2, c3, c4, c5, c6⟩, -, hsk, hBw⟩ := HC.out wr HB.out
    by_cases hgl : g < p.ns
    · have q0 : (0 : Int) ≤ (g : Int) := by omega
      have q1 : (g : Int) < (p.ns : Int) := by omega
      have HSU : Hid (Calls Try.prog 35 #[.slice s.on.a s.on.n s.on.c, .int .i64 (g : Int)] wr fun e w' => e = .returned (.int .i64 (sumTo (fun i => (s.on.r i).z g) s.on.n)) ∧ Below wr.heap.size wr w') := SumOf_any p s.on g wr hsk.on HR.out.fm.sh hgl
      clear hsk hBw
      go_wp2_with fail
      refine Calls.mono HSU.out ?_
      rintro e w2 ⟨rfl, hB2⟩
      clear l1 d0 d1 l2 c0 c1 c2 c3 c4 c5 c6 HSU
      have HV2 : Hid (w2.ownsRow W0.heap.size 50 4 (.slice va g vc) g (flatH g (totT s))) := owns_below HV.out hB2
      have HB2 : Hid (Below W0.heap.size W0 w2) := HB.out.trans (hB2.mono HB.out.size)
      have h02 : W0.heap.size ≤ w2.heap.size := HB2.out.size
      obtain ⟨W3, hW3, hWB3, K3⟩ : ∃ W, w2.alloc (.cells #[.int .i64 (sumTo (fun i => (s.on.r i).z g) s.on.n), .int .i64 0, .int .i64 0, .int .i64 0] 50) = W ∧ Below w2.heap.size w2 W ∧ TB W w2.heap.size ⟨sumTo (fun i => (s.on.r i).z g) s.on.n, 0, 0, 0⟩ := ⟨_, rfl, (Below.refl _ _).alloc (Nat.le_refl _) _, TB.new _ _ _ _ _⟩
      have HW3 : Hid (w2.alloc (.cells #[.int .i64 (sumTo (fun i => (s.on.r i).z g) s.on.n), .int .i64 0, .int .i64 0, .int .i64 0] 50) = W3) := hW3
      have HT3 : Hid (TB W3 w2.heap.size (ordT s g 0)) := K3
      have HB3 : Hid (Below w2.heap.size w2 W3) := hWB3
      clear hB2 hW3 hWB3 K3 HV HB
      generalize sumTo (fun i => (s.on.r i).z g) s.on.n = SM at *
      go_wp2_with fail
      rw [HW3.out]
      clear HW3
      have HBS : Hid (w2.heap.size = w2.heap.size) := rfl
      clear HBS
      have hBT : w2.heap.size ≤ w2.heap.size := Nat.le_refl _
      generalize hBTe : w2.heap.size = BT at *
      go_loopw [8] (fun ov wk => ∃ o : Nat, o ≤ s.os.n ∧ ov = .int .i64 o ∧ Hid (TB wk BT (ordT s g o)) ∧ Hid (Below BT w2 wk)) (fun ov _ => s.os.n - (intOf ov).toNat)
      case atStart => exact ⟨0, Nat.zero_le _, rfl, HT3, HB3⟩
      case round =>
        clear HT3 HB3
        obtain ⟨o, ho, rfl, HT, HX⟩ := hrel
        have HB : Hid (Below W0.heap.size W0 wr) := HB2.out.trans (HX.out.mono h02)
        obtain ⟨⟨⟨l1, d0, d1⟩, l2, c0, c1, c2, c3, c4, c5, c6⟩, -, hsk, -⟩ := HC.out wr HB.out
        by_cases hol : o < s.os.n
        · have q2 : (0 : Int) ≤ (o : Int) := by omega
          have q3 : (o : Int) < (s.os.n : Int) := by omega
          have ln3 := (HR.out.fm.lns o hol).2
          have HT4 : Hid (TB wr BT (lineT s o g 0 (ordT s g o))) := HT.out
          clear hsk c0 c2 c3 c4 c5 c6
          go_wp2_with fail
          clear l1 d0 d1 l2 c1 HT HB
          go_loopw [9] (fun kv wk => ∃ k : Nat, k ≤ (s.os.z o).ls.n ∧ kv = .int .i64 k ∧ Hid (TB wk BT (lineT s o g k (ordT s g o))) ∧ Hid (Below BT w2 wk)) (fun kv _ => (s.os.z o).ls.n - (intOf kv).toNat)
          case atStart => exact ⟨0, Nat.zero_le _, rfl, HT4, HX⟩
          case round =>
            clear HT4 HX
            obtain ⟨k, hk, rfl, HT, HX⟩ := hrel
            have HB : Hid (Below W0.heap.size W0 wr) := HB2.out.trans (HX.out.mono h02)
            obtain ⟨⟨⟨l1, d0, d1⟩, l2, c0, c1, c2, c3, c4, c5, c6⟩, -, hsk, -⟩ := HC.out wr HB.out
            obtain ⟨bo, oo, hoa, hbo, z0, z1, hlk⟩ := hsk.os.ods o hol
            have lle := hlk.le
            have lcp := hlk.cap
            unfold maxLen at lcp
            rw [hoa] at c1
            by_cases hkl : k < (s.os.z o).ls.n
            · have q4 : (0 : Int) ≤ (k : Int) := by omega
              have q5 : (k : Int) < ((s.os.z o).ls.n : Int) := by omega
              obtain ⟨bl, ol, hla, hbl, y0, y1, y2, y3⟩ := hlk.hds k hkl
              obtain ⟨⟨zo1, zo2⟩, ⟨zl1, zl2⟩, ⟨zb1, zb2⟩, zn1, zn2⟩ := badLine_no (HR.out.fm.line o hol k hkl)
              have HAD : Hid (addT (lineT s o g k (ordT s g o)) ((s.os.z o).ls.z k) (keptS s.hs.z o k s.hs.n) g = lineT s o g (k + 1) (ordT s g o)) := rfl
              have HTL : Hid (TotLe (lineT s o g k (ordT s g o)) (43200 * o + 14400 * k)) := lineT_le HR.out.fm hol (ordT_le HR.out.fm (by omega)) hk
              have kb := keptS_bd (z := s.hs.z) o k s.hs.n fun q hq => (fineH_true (right_fine HR.out.fm.hold q hq)).2.2.2
              have h72 := HR.out.fm.hs72
              have HKO : Hid (∀ wk, s.hs.At wk → Calls Try.prog 36 #[.slice s.hs.a s.hs.n s.hs.c, .int .i64 (o : Int), .int .i64 (k : Int)] wk fun e w' => e = .returned (.int .i64 (keptS s.hs.z o k s.hs.n)) ∧ w' = wk) := fun wk h => KeptOf_any s.hs o k wk h HR.out.fm.hold
              rw [hla] at z1
              have HHS : Hid (s.hs.At wr) := hsk.hs
              generalize (s.os.z o).ls.z k = ZL at *
              generalize keptS s.hs.z o k s.hs.n = KP at *
              obtain ⟨T0, hT0e⟩ : ∃ T, lineT s o g k (ordT s g o) = T := ⟨_, rfl⟩
              rw [hT0e] at HAD HTL HT
              obtain ⟨⟨tl1, tl2⟩, ⟨tb1, tb2⟩, tn1, tn2⟩ := HTL.out
              obtain ⟨W5, hW5, hWB5, K5⟩ : ∃ W, wr.alloc (.cells #[.int .i64 ZL.o, .int .i64 ZL.l, .int .i64 ZL.b, .int .i64 ZL.n] 60) = W ∧ Below wr.heap.size wr W ∧ Blk W wr.heap.size 60 4 (fun q => (#[.int .i64 ZL.o, .int .i64 ZL.l, .int .i64 ZL.b, .int .i64 ZL.n] : Array Value).getD q default) := ⟨_, rfl, (Below.refl _ _).alloc (Nat.le_refl _) _, Blk.mk' rfl rfl⟩
              have HW5 : Hid (wr.alloc (.cells #[.int .i64 ZL.o, .int .i64 ZL.l, .int .i64 ZL.b, .int .i64 ZL.n] 60) = W5) := hW5
              have HL5 : Hid (Blk W5 wr.heap.size 60 4 (fun q => (#[.int .i64 ZL.o, .int .i64 ZL.l, .int .i64 ZL.b, .int .i64 ZL.n] : Array Value).getD q default)) := K5
              have HT5 : Hid (TB W5 BT T0) := HT.out.below hWB5
              have HX5 : Hid (Below BT w2 W5) := HX.out.trans (hWB5.mono (by have := Blk.lt HT.out; omega))
              have HH5 : Hid (s.hs.At W5) := HHS.out.below hWB5
              clear hoa hla hlk hsk hT0e HTL c0 c3 c4 c5 c6 hW5 hWB5 K5 HHS
              by_cases hz : ZL.o = (g : Int)
              · have hzb : (ZL.o == (g : Int)) = true := by simpa using hz
                have HAE : Hid (setHd (setHd (setHd T0 1 (T0.l + KP)) 2 (T0.b + ZL.n)) 3 (T0.n + ZL.b) = lineT s o g (k + 1) (ordT s g o)) := by
                  show _ = _
                  rw [← HAD.out, addT, if_pos hz]
                  rfl
                clear hz
                go_wp2_with fail
                rw [HW5.out]
                clear hbo z0 z1 hbl y0 y1 y2 y3 HW5 HT HX HB l1 d0 d1 l2 c1 c2
                generalize wr.heap.size = BL at *
                have HB5 : Hid (Below W0.heap.size W0 W5) := HB2.out.trans (HX5.out.mono h02)
                obtain ⟨⟨-, l2, c0, c1, c2, c3, c4, c5, c6⟩, -, -, -⟩ := HC.out W5 HB5.out
                obtain ⟨x0, x1, x2, x3⟩ := HT5.out.cells
                have xl := Blk.lt HT5.out
                have rc2 := fun d os => cell_regrown c2 d os
                have rx1 := fun d os => cell_regrown x1 d os
                clear c0 c1 c2 c3 c4 c5 c6 x0 x1 x2 x3
                refine wp_region_made5 (fun w' => ∃ p : Regrown, w' = grow (redrawn W5 p.d) p.os) [0, 1, 2, 3, 4, 5] [6] [(false, 7), (false, 8), (true, 9)] (by kernel_rfl) (by kernel_rfl) (by kernel_rfl) (by kernel_rfl) (by kernel_rfl) (by kernel_rfl) (by kernel_rfl) (by kernel_rfl) (by kernel_rfl) (regrown_of_below ((Below.refl _ _).drew)) ?_
                simp only [picks, List.drop_succ_cons, List.drop_zero, List.take_succ_cons, List.take_zero, List.cons_append, List.nil_append]
                repeat (go_big_quiet_step (fail))
                refine wpQuiet_nil ?_
                clear rc2 rx1 l2 xl
                refine ⟨fun j v g wk => v = .int .i64 KP ∧ g = [], List.forall_mem_cons.2 ⟨fun v g w w' _ h => h, List.forall_mem_nil _⟩, List.forall_mem_cons.2 ⟨fun v g w h => (by rw [h.2]; intro x hx; cases hx), List.forall_mem_nil _⟩, List.forall_mem_cons.2 ⟨?zt6, List.forall_mem_nil _⟩, ?ztdone⟩
                case zt6 =>
                  intro V G wk K hS hd hK
                  have hX := below_of_regrown hS
                  refine wpOp_list 6 rfl ?_
                  simp only [putAll, dstOf, List.getElem?_toArray, List.getElem?_cons_succ, List.getElem?_cons_zero, Act.put, List.setIfInBounds_toArray, List.set_cons_succ, List.set_cons_zero] at hK ⊢
                  go_wp2_with fail
                  refine (HKO.out wk (HH5.out.below hX)).mono ?_
                  rintro e wz ⟨rfl, rfl⟩
                  go_wp2_with fail
                  exact hK _ [] _ hS (Below.refl _ _) (fun x hx => by cases hx) ⟨rfl, rfl⟩
                case ztdone =>
                  intro V G' wk hS hD hA
                  obtain ⟨h1v, -⟩ : V 6 = .int .i64 KP ∧ G' 6 = [] := hD 6 (by simp)
                  have hX := below_of_regrown hS
                  have HS : Hid (∃ p : Regrown, wk = grow (redrawn W5 p.d) p.os) := hS
                  have HTk : Hid (TB wk BT T0) := HT5.out.below hX
                  have HLk : Hid (Blk wk BL 60 4 (fun q => (#[.int .i64 ZL.o, .int .i64 ZL.l, .int .i64 ZL.b, .int .i64 ZL.n] : Array Value).getD q default)) := HL5.out.below hX
                  have HXk : Hid (Below BT w2 wk) := HX5.out.trans (hX.mono (by have := Blk.lt HT5.out; omega))
                  have z1 := Blk.lt HTk.out
                  have z2 := Blk.frozen HTk.out 1
                  have z3 := HTk.out.cells.2.1
                  have HT6 : Hid (TB (wk.setCell ⟨BT, 1, none⟩ (.int .i64 (T0.l + KP))) BT (setHd T0 1 (T0.l + KP))) := HTk.out.setF 1 (by decide) _
                  have HL6 : Hid (Blk (wk.setCell ⟨BT, 1, none⟩ (.int .i64 (T0.l + KP))) BL 60 4 (fun q => (#[.int .i64 ZL.o, .int .i64 ZL.l, .int .i64 ZL.b, .int .i64 ZL.n] : Array Value).getD q default)) := HLk.out.other (a := ⟨BT, 1, none⟩) (Blk.ne2 HLk.out HTk.out (by decide)) _
                  have HX6 : Hid (Below BT w2 (wk.setCell ⟨BT, 1, none⟩ (.int .i64 (T0.l + KP)))) := HXk.out.setCell (p := ⟨BT, 1, none⟩) (Nat.le_refl _) _
                  clear hS hD hA hX HTk HLk HXk HT5 HL5 HX5 HH5 HKO HB5
                  simp only [putAll, dstOf, List.getElem?_toArray, List.getElem?_cons_succ, List.getElem?_cons_zero, Act.put, List.setIfInBounds_toArray, List.set_cons_succ, List.set_cons_zero, h1v]
                  refine wpSeq_one 7 rfl ?_
                  go_wp2_with fail
                  refine ⟨Late.no HS.out, ?_⟩
                  refine wpSeq_one 8 rfl ?_
                  go_wp2_with fail
                  refine ⟨Late.no HS.out, ?_⟩
                  refine wpSeq_one 9 rfl ?_
                  go_wp2_with fail
                  refine ⟨Late.yes, ?_⟩
                  clear z1 z2 z3 HS
                  generalize (wk.setCell ⟨BT, 1, none⟩ (.int .i64 (T0.l + KP))) = W6 at *
                  refine NoPanic.normal ?_
                  have y1 := Blk.lt HT6.out
                  have y2 := Blk.frozen HT6.out 2
                  have y3 : W6.cell? ⟨BT, 2, none⟩ = some (.int .i64 T0.b) := HT6.out.cells.2.2.1
                  have y4 : W6.cell? ⟨BL, 3, none⟩ = some (.int .i64 ZL.n) := HL6.out.cell (j := 3) (by decide)
                  have y5 := HL6.out.lt
                  have HT7 : Hid (TB (W6.setCell ⟨BT, 2, none⟩ (.int .i64 (T0.b + ZL.n))) BT (setHd (setHd T0 1 (T0.l + KP)) 2 (T0.b + ZL.n))) := HT6.out.setF 2 (by decide) _
                  have HL7 : Hid (Blk (W6.setCell ⟨BT, 2, none⟩ (.int .i64 (T0.b + ZL.n))) BL 60 4 (fun q => (#[.int .i64 ZL.o, .int .i64 ZL.l, .int .i64 ZL.b, .int .i64 ZL.n] : Array Value).getD q default)) := HL6.out.other (a := ⟨BT, 2, none⟩) (Blk.ne2 HL6.out HT6.out (by decide)) _
                  have u1 := Blk.lt HT7.out
                  have u2 := Blk.frozen HT7.out 3
                  have u3 : (W6.setCell ⟨BT, 2, none⟩ (.int .i64 (T0.b + ZL.n))).cell? ⟨BT, 3, none⟩ = some (.int .i64 T0.n) := HT7.out.cells.2.2.2
                  have u4 : (W6.setCell ⟨BT, 2, none⟩ (.int .i64 (T0.b + ZL.n))).cell? ⟨BL, 2, none⟩ = some (.int .i64 ZL.b) := HL7.out.cell (j := 2) (by decide)
                  have u5 := HL7.out.lt
                  have HT8 : Hid (TB ((W6.setCell ⟨BT, 2, none⟩ (.int .i64 (T0.b + ZL.n))).setCell ⟨BT, 3, none⟩ (.int .i64 (T0.n + ZL.b))) BT (lineT s o g (k + 1) (ordT s g o))) := by
                    have h := HT7.out.setF 3 (by decide) (T0.n + ZL.b)
                    rw [HAE.out] at h
                    exact h
                  have HX8 : Hid (Below BT w2 ((W6.setCell ⟨BT, 2, none⟩ (.int .i64 (T0.b + ZL.n))).setCell ⟨BT, 3, none⟩ (.int .i64 (T0.n + ZL.b)))) := (HX6.out.setCell (p := ⟨BT, 2, none⟩) (Nat.le_refl _) _).setCell (p := ⟨BT, 3, none⟩) (Nat.le_refl _) _
                  clear HT6 HL6 HX6 HT7 HL7
                  go_wp2_with fail
                  go_roundw
                  case rel => exact ⟨k + 1, by omega, by go_num, HT8, HX8⟩
                  case measure => simp [intOf]; omega
              · have hzb : (ZL.o == (g : Int)) = false := by simpa using hz
                have HTN : Hid (TB W5 BT (lineT s o g (k + 1) (ordT s g o))) := by
                  rw [← HAD.out, addT, if_neg hz]
                  exact HT5.out
                clear hz HAD HKO HT5
                go_wp2_with fail
                rw [HW5.out]
                go_roundw
                case rel => exact ⟨k + 1, by omega, by go_num, HTN, HX5⟩
                case measure => simp [intOf]; omega
            · have q5 : ((s.os.z o).ls.n : Int) ≤ (k : Int) := by omega
              have HTN : Hid (TB wr BT (ordT s g (o + 1))) := by
                have h := HT.out
                rw [show k = (s.os.z o).ls.n by omega] at h
                exact h
              clear hoa hlk hsk c0 c2 c3 c4 c5 c6 HT
              go_wp2_with fail
              go_roundw
              case rel => exact ⟨o + 1, by omega, by go_num, HTN, HX⟩
              case measure => simp [intOf]; omega
        · have q3 : (s.os.n : Int) ≤ (o : Int) := by omega
          have HTE : Hid (TB wr BT (totT s g)) := by
            have h := HT.out
            rw [show o = s.os.n by omega] at h
            exact h
          have HVE : Hid (wr.ownsRow W0.heap.size 50 4 (.slice va g vc) g (flatH g (totT s))) := owns_belowB HV2.out HX.out
          obtain ⟨T, hTe⟩ : ∃ T, totT s g = T := ⟨_, rfl⟩
          have HTQ : Hid (totT s g = T) := hTe
          rw [hTe] at HTE
          obtain ⟨x0, x1, x2, x3⟩ := HTE.out.cells
          have xl := Blk.lt HTE.out
          obtain ⟨W5, hW5, hWB5⟩ : ∃ W, wr.alloc (.cells #[.int .i64 T.o, .int .i64 T.l, .int .i64 T.b, .int .i64 T.n] 50) = W ∧ Below wr.heap.size wr W := ⟨_, rfl, (Below.refl _ _).alloc (Nat.le_refl _) _⟩
          have HW5 : Hid (wr.alloc (.cells #[.int .i64 T.o, .int .i64 T.l, .int .i64 T.b, .int .i64 T.n] 50) = W5) := hW5
          have HNW : Hid (∀ j u, (hdCells T)[j]? = some u → W5.cell? ((⟨wr.heap.size, 0, none⟩ : Addr).add j) = some u) := by rw [← hW5]; exact news4T wr T _
          have HV5 : Hid (W5.ownsRow W0.heap.size 50 4 (.slice va g vc) g (flatH g (totT s))) := owns_below HVE.out hWB5
          have HB5 : Hid (Below W0.heap.size W0 W5) := HB.out.trans (hWB5.mono HB.out.size)
          clear hsk c0 c2 c3 c4 c5 c6 hTe hW5 hWB5 HVE HTE HT HX
          go_wp2_with (at_builtin; rw [HW5.out]; refine wpList_append_own W5 rfl (.tmp 75) (.tmp 77) 42 rfl W0.heap.size 50 iT (.agg #[.int .i64 0, .int .i64 0, .int .i64 0, .int .i64 0]) 4 32 Try.underlying42 hT hT0 hT1 hT2 rfl (by decide) (.slice va g vc) g (flatH g (totT s)) rfl HV5.out ⟨wr.heap.size, 0, none⟩ 1 1 (hdCells T) rfl rfl HNW.out (fun u hu => by simp [hdCells] at hu; rcases hu with rfl | rfl | rfl | rfl <;> rfl) (by unfold maxLen; omega) (by omega) HB5.out.size ?_)
          intro v2 w6 r1 r2 _
          have hr1 : w6.ownsRow W0.heap.size 50 4 v2 (g + 1) (flatH (g + 1) (totT s)) := by
            rw [flatH_succ, HTQ.out]
            exact r1
          obtain ⟨h, rfl, h2, h3, h4⟩ := OwnH.ofRow hr1 (Nat.le_refl _)
          have HB6 : Hid (Below W0.heap.size W0 w6) := HB5.out.grown r2 HB5.out.size (fun q e => owns_blockT HV5.out e)
          have HV6 : Hid (w6.ownsRow W0.heap.size 50 4 (.slice h.a (g + 1) h.c) (g + 1) (flatH (g + 1) (totT s))) := by
            have hr2 := hr1
            unfold Hs.val at hr2
            rw [h3] at hr2
            exact hr2
          simp only [Hs.val, h3]
          clear r1 r2 hr1 h2 h3 h4 HV5 HB5 HNW HW5 l1 d0 d1 l2 c1 x0 x1 x2 x3 xl
          try simp only [Act.put, List.setIfInBounds_toArray, List.set_cons_succ, List.set_cons_zero]
          go_wp2_with fail
          go_roundw
          case rel => exact ⟨g + 1, h.a, h.c, by omega, by go_num, rfl, HV6, HB6⟩
          case measure => simp [intOf]; omega
    · have q1 : (p.ns : Int) ≤ (g : Int) := by omega
      have HGN : Hid (g = p.ns) := by show g = p.ns; omega
      clear hsk c0 c1 c2 c3 c4 c5 c6
      go_wp2_with fail
      go_ret
      have hv := HV.out
      rw [HGN.out] at hv
      obtain ⟨h, e1, e2, e3, e4⟩ := OwnH.ofRow hv (Nat.le_refl _)
      exact ⟨h, by rw [← HGN.out] at e1; exact congrArg Ending.returned e1, e2.at, ⟨e3, fun q _ => by rw [e4]⟩, hBw⟩
end Go.Proofs.Ytbcacebifpagpaf
namespace Go.Proofs.Ytbcacebifpagpaf
open Go.RowKit Go.Shelf Go.Sort
set_option linter.unusedVariables false
set_option maxRecDepth 100000 in
set_option maxHeartbeats 8000000 in
theorem BookTells_walk (p : Pl) (s : St)  (w : World) (hp : p.At w) (hs : s.At w) :
    Calls Try.prog 4 #[p.val, s.val] w fun e w' => e = .returned (.bool true) ∧ Below w.heap.size w w' := by
  obtain ⟨W0, hW, hWB, X0⟩ : ∃ W, ((w.alloc (.cells #[.slice p.ab p.nb p.cb, .slice p.sa p.ns p.cs] 25)).alloc (.cells s.cells 31)) = W ∧ Below w.heap.size w W ∧ Boxes W w.heap.size (w.heap.size + 1) p s := ⟨_, rfl, two_below _ _ _, boxes_new w p s _ _⟩
  have HC : Hid (∀ wk, Below W0.heap.size W0 wk → Boxes wk w.heap.size (w.heap.size + 1) p s ∧ p.At wk ∧ s.At wk ∧ Below w.heap.size w wk) := fun wk h => ⟨X0.below h, (hp.below hWB).below h, (hs.below hWB).below h, hWB.trans (h.mono hWB.size)⟩
  have HW : Hid ((w.alloc (.cells #[.slice p.ab p.nb p.cb, .slice p.sa p.ns p.cs] 25)).alloc (.cells #[.slice s.on.a s.on.n s.on.c, .slice s.os.a s.os.n s.os.c, .slice s.hs.a s.hs.n s.hs.c, .slice s.ms.a s.ms.n s.ms.c, .slice s.si.a s.si.n s.si.c, .slice s.so.a s.so.n s.so.c, .slice s.sf.a s.sf.n s.sf.c] 31) = W0) := hW
  have HB : Hid (Below W0.heap.size W0 W0) := Below.refl _ _
  have leb := hp.leb
  have capb0 := hp.capb
  have capb := capb0
  unfold maxLen at capb
  clear hW X0 hp hs
  unfold Pl.val St.val
  go_enter Try.func4, Try.ntmps4
  go_wp2_with fail
  rw [HW.out]
  clear HW
  refine Calls.mono (Totals_any p s W0 (HC.out W0 HB.out).2.1 (HC.out W0 HB.out).2.2.1) ?_
  rintro e w1 ⟨h, rfl, hat, hok, hno, hB⟩
  have HOK : Hid ((stateE p s = 0 → h.n = p.ns ∧ ∀ g, g < p.ns → h.z g = totT s g) ∧ (¬ stateE p s = 0 → h.n = 0)) := ⟨hok, hno⟩
  have HH : Hid (h.At w1) := hat
  have hle := hat.le
  have hcap := hat.cap
  unfold maxLen at hcap
  clear hok hno hat
  have HB : Hid (Below W0.heap.size W0 w1) := HB.out.trans (hB.mono HB.out.size)
  clear hB
  obtain ⟨⟨⟨l1, d0, d1⟩, l2, c0, c1, c2, c3, c4, c5, c6⟩, -, -, -⟩ := HC.out w1 HB.out
  go_wp2_with fail
  clear l1 d0 d1 l2 c0 c1 c2 c3 c4 c5 c6
  refine Calls.mono (Open_any p s w1 (HC.out w1 HB.out).2.1 (HC.out w1 HB.out).2.2.1) ?_
  rintro e w2 ⟨rfl, hB⟩
  have HH : Hid (h.At w2) := HH.out.below hB
  have HB : Hid (Below W0.heap.size W0 w2) := HB.out.trans (hB.mono HB.out.size)
  clear hB
  obtain ⟨⟨⟨l1, d0, d1⟩, l2, c0, c1, c2, c3, c4, c5, c6⟩, -, -, -⟩ := HC.out w2 HB.out
  go_wp2_with fail
  clear l1 d0 d1 l2 c0 c1 c2 c3 c4 c5 c6
  refine Calls.mono (refCheckState_any p s w2 (HC.out w2 HB.out).2.1 (HC.out w2 HB.out).2.2.1) ?_
  rintro e w3 ⟨rfl, hB⟩
  have HH : Hid (h.At w3) := HH.out.below hB
  have HB : Hid (Below W0.heap.size W0 w3) := HB.out.trans (hB.mono HB.out.size)
  clear hB
  by_cases h0 : stateE p s = 0
  · obtain ⟨⟨⟨l1, d0, d1⟩, l2, c0, c1, c2, c3, c4, c5, c6⟩, -, -, -⟩ := HC.out w3 HB.out
    have HR : Hid (RightT p s) := rightT h0
    have ns3 := HR.out.fm.sh.pl.ns3
    have hn : h.n = p.ns := (HOK.out.1 h0).1
    have HZ : Hid (∀ q, q < p.ns → h.z q = totT s q) := (HOK.out.1 h0).2
    have HV : Hid (openV p s = (openN s s.os.n : Nat)) := by show openV p s = _; unfold openV; rw [if_pos h0]
    have HHN : Hid (h.n = p.ns) := hn
    rw [h0, HV.out, hn]
    rw [hn] at hle
    clear h0 hn HOK HV
    have rd0 := fun d os => cell_regrown d0 d os
    have rd1 := fun d os => cell_regrown d1 d os
    have rc0 := fun d os => cell_regrown c0 d os
    have rc1 := fun d os => cell_regrown c1 d os
    have rc2 := fun d os => cell_regrown c2 d os
    have rc3 := fun d os => cell_regrown c3 d os
    have rc4 := fun d os => cell_regrown c4 d os
    have rc5 := fun d os => cell_regrown c5 d os
    have rc6 := fun d os => cell_regrown c6 d os
    clear d0 d1 c0 c1 c2 c3 c4 c5 c6
    go_wp2_with fail
    refine wp_region_made5 (fun w' => ∃ p : Regrown, w' = grow (redrawn w3 p.d) p.os) [0, 1, 3] [2, 4] [(false, 5), (false, 6)] (by kernel_rfl) (by kernel_rfl) (by kernel_rfl) (by kernel_rfl) (by kernel_rfl) (by kernel_rfl) (by kernel_rfl) (by kernel_rfl) (by kernel_rfl) (regrown_of_below ((Below.refl _ _).drew)) ?_
    simp only [picks, List.drop_succ_cons, List.drop_zero, List.take_succ_cons, List.take_zero, List.cons_append, List.nil_append]
    repeat (go_big_quiet_step (fail))
    refine wpQuiet_nil ?_
    clear rd0 rd1 rc0 rc1 rc2 rc3 rc4 rc5 rc6 l1 l2
    refine ⟨fun j v gs wk => (j = 2 → ∃ h' : Hs, v = .slice h'.a h'.n h'.c ∧ gs = [] ∧ h'.At wk ∧ h'.n = p.ns ∧ ∀ q, q < p.ns → h'.z q = totT s q) ∧ (j = 4 → v = .int .i64 (openN s s.os.n : Nat) ∧ gs = []),
      List.forall_mem_cons.2 ⟨fun v gs w w' hB h => ⟨fun e => by obtain ⟨h', a1, a2, a3, a4⟩ := h.1 e; exact ⟨h', a1, a2, a3.below hB, a4⟩, h.2⟩, List.forall_mem_cons.2 ⟨fun v gs w w' hB h => ⟨(fun e => by cases e), h.2⟩, List.forall_mem_nil _⟩⟩,
      List.forall_mem_cons.2 ⟨fun v gs w h => (by obtain ⟨h', a1, a2, a3, a4⟩ := h.1 rfl; rw [a2]; intro x hx; cases hx), List.forall_mem_cons.2 ⟨fun v gs w h => (by rw [(h.2 rfl).2]; intro x hx; cases hx), List.forall_mem_nil _⟩⟩,
      List.forall_mem_cons.2 ⟨?zt2, List.forall_mem_cons.2 ⟨?zt4, List.forall_mem_nil _⟩⟩, ?ztdone⟩
    case zt2 =>
      intro V G wk K hS hd hK
      have hX := below_of_regrown hS
      have HBK : Hid (Below W0.heap.size W0 wk) := HB.out.trans (hX.mono HB.out.size)
      refine wpOp_list 2 rfl ?_
      simp only [putAll, dstOf, List.getElem?_toArray, List.getElem?_cons_succ, List.getElem?_cons_zero, Act.put, List.setIfInBounds_toArray, List.set_cons_succ, List.set_cons_zero] at hK ⊢
      go_wp2_with fail
      refine (TotalsOf_any p s wk (HC.out wk HBK.out).2.1 (HC.out wk HBK.out).2.2.1 HR.out).mono ?_
      rintro e wz ⟨h', rfl, a1, a2, hBz⟩
      have HA2 : Hid (h'.n = p.ns ∧ ∀ g, g < p.ns → h'.z g = totT s g) := a2
      clear a2
      go_wp2_with fail
      exact hK _ [] _ (regrown_of_below (hX.trans (hBz.mono hX.size))) hBz (fun x hx => by cases hx) ⟨fun _ => ⟨h', rfl, rfl, a1, HA2.out⟩, (fun e => by cases e)⟩
    case zt4 =>
      intro V G wk K hS hd hK
      have hX := below_of_regrown hS
      have HBK : Hid (Below W0.heap.size W0 wk) := HB.out.trans (hX.mono HB.out.size)
      refine wpOp_list 4 rfl ?_
      simp only [putAll, dstOf, List.getElem?_toArray, List.getElem?_cons_succ, List.getElem?_cons_zero, Act.put, List.setIfInBounds_toArray, List.set_cons_succ, List.set_cons_zero] at hK ⊢
      go_wp2_with fail
      refine (OpenOf_any p s wk (HC.out wk HBK.out).2.2.1 HR.out.fm).mono ?_
      rintro e wz ⟨rfl, hBz⟩
      go_wp2_with fail
      exact hK _ [] _ (regrown_of_below (hX.trans (hBz.mono hX.size))) hBz (fun x hx => by cases hx) ⟨(fun e => by cases e), fun _ => ⟨rfl, rfl⟩⟩
    case ztdone =>
      intro V G' wk hS hD hA
      obtain ⟨h', e1, -, hat', hn', hz'⟩ := (hD 2 (by simp)).1 rfl
      obtain ⟨e2, -⟩ := (hD 4 (by simp)).2 rfl
      have hB := below_of_regrown hS
      have HS : Hid (∃ p : Regrown, wk = grow (redrawn w3 p.d) p.os) := hS
      have HG : Hid (h'.At wk) := hat'
      have HZ' : Hid (∀ q, q < p.ns → h'.z q = totT s q) := hz'
      have HHN' : Hid (h'.n = p.ns) := hn'
      have hle' := hat'.le
      have hcap' := hat'.cap
      unfold maxLen at hcap'
      rw [hn'] at e1 hle'
      clear hS hD hA hat' hz' hn'
      simp only [putAll, dstOf, List.getElem?_toArray, List.getElem?_cons_succ, List.getElem?_cons_zero, Act.put, List.setIfInBounds_toArray, List.set_cons_succ, List.set_cons_zero, e1, e2]
      refine wpSeq_one 5 rfl ?_
      go_wp2_with fail
      refine ⟨Late.no HS.out, ?_⟩
      refine wpSeq_one 6 rfl ?_
      go_wp2_with fail
      refine ⟨Late.no HS.out, ?_⟩
      clear HS e1 e2
      refine NoPanic.normal ?_
      have HH : Hid (h.At wk) := HH.out.below hB
      have HB : Hid (Below W0.heap.size W0 wk) := HB.out.trans (hB.mono HB.out.size)
      clear hB
      go_wp2_with fail
      go_loopw [12] (fun kv wk => ∃ k : Nat, k ≤ p.ns ∧ kv = .int .i64 k ∧ Hid (h.At wk) ∧ Hid (h'.At wk) ∧ Hid (Below W0.heap.size W0 wk)) (fun kv _ => p.ns - (intOf kv).toNat)
      case atStart => exact ⟨0, Nat.zero_le _, rfl, HH, HG, HB⟩
      case round =>
        clear HH HG HB
        obtain ⟨k, hk, rfl, HH, HG, HB⟩ := hrel
        by_cases hkl : k < p.ns
        · have q0 : (0 : Int) ≤ (k : Int) := by omega
          have q1 : (k : Int) < (p.ns : Int) := by omega
          obtain ⟨b5, o5, ha5, hb5, y50, y51, y52, y53⟩ := HH.out.hds k (by rw [HHN.out]; exact hkl)
          obtain ⟨b6, o6, ha6, hb6, y60, y61, y62, y63⟩ := HG.out.hds k (by rw [HHN'.out]; exact hkl)
          rw [HZ.out k hkl] at y50 y51 y52 y53
          rw [HZ'.out k hkl] at y60 y61 y62 y63
          generalize totT s k = TK at *
          rw [ha5, ha6]
          clear ha5 ha6
          have ry50 := fun d os => cell_regrown y50 d os
          have ry51 := fun d os => cell_regrown y51 d os
          have ry52 := fun d os => cell_regrown y52 d os
          have ry53 := fun d os => cell_regrown y53 d os
          have ry60 := fun d os => cell_regrown y60 d os
          have ry61 := fun d os => cell_regrown y61 d os
          have ry62 := fun d os => cell_regrown y62 d os
          have ry63 := fun d os => cell_regrown y63 d os
          go_wp2_with fail
          refine wp_region_quiet_below (by kernel_rfl) (by kernel_rfl) ?_
          repeat (go_big_quiet_step ((fail)))
          refine wpQuiet_nil ?_
          intro w6 hwq
          have hB := below_of_regrown hwq
          clear hwq ry50 ry51 ry52 ry53 ry60 ry61 ry62 ry63
          have HH : Hid (h.At w6) := HH.out.below hB
          have HG : Hid (h'.At w6) := HG.out.below hB
          have HB : Hid (Below W0.heap.size W0 w6) := HB.out.trans (hB.mono HB.out.size)
          clear hB
          clear hb5 y50 y51 y52 y53 hb6 y60 y61 y62 y63
          go_wp2_with fail
          go_roundw
          case rel => exact ⟨k + 1, by omega, by go_num, HH, HG, HB⟩
          case measure => simp [intOf]; omega
        · have q1 : (p.ns : Int) ≤ (k : Int) := by omega
          go_wp2_with fail
          refine Calls.mono (bookBegun_any wr) ?_
          rintro e w8 ⟨rfl, hB⟩
          have HH : Hid (h.At w8) := HH.out.below hB
          have HG : Hid (h'.At w8) := HG.out.below hB
          have HB : Hid (Below W0.heap.size W0 w8) := HB.out.trans (hB.mono HB.out.size)
          clear hB
          go_wp2_with fail
          go_ret
          exact ⟨by simp, (HC.out w8 HB.out).2.2.2⟩
  · have g0 : (stateE p s == 0) = false := by simpa using h0
    have hn : h.n = 0 := HOK.out.2 h0
    have HV : Hid (openV p s = 0) := by show openV p s = 0; unfold openV; rw [if_neg h0]
    rw [hn, HV.out]
    rw [hn] at hle
    clear h0 hn HOK HV
    generalize stateE p s = EE at *
    go_wp2_with fail
    go_loopw [12] (fun kv wk => ∃ k : Nat, k = 0 ∧ kv = .int .i64 (0 : Int) ∧ Hid (h.At wk) ∧ Hid (Below W0.heap.size W0 wk)) (fun kv _ => 0)
    case atStart => exact ⟨0, rfl, rfl, HH, HB⟩
    case round =>
      clear HH HB
      obtain ⟨k, hk, rfl, HH, HB⟩ := hrel
      go_wp2_with fail
      refine Calls.mono (bookBegun_any wr) ?_
      rintro e w8 ⟨rfl, hB⟩
      have HH : Hid (h.At w8) := HH.out.below hB
      have HB : Hid (Below W0.heap.size W0 w8) := HB.out.trans (hB.mono HB.out.size)
      clear hB
      go_wp2_with fail
      go_ret
      exact ⟨by simp, (HC.out w8 HB.out).2.2.2⟩
end Go.Proofs.Ytbcacebifpagpaf
namespace Go.Proofs.Ytbcacebifpagpaf
open Go.ChangeShapes Go.WideShapes Go.ChangeAt Go.RowKit Go.Joins Go.Deep
set_option linter.unusedVariables false
set_option maxRecDepth 100000
theorem own : ownKnob Try.prog.godebug = none := by kernel_rfl
theorem laidOut : laidOutB Try.prog = true := by kernel_rfl
theorem cellsInt : Try.prog.cellsOf 3 = 1 := by kernel_rfl
theorem cellsInts : Try.prog.cellsOf 23 = 1 := by kernel_rfl
theorem cellsBin : Try.prog.cellsOf 105 = 4 := by kernel_rfl
theorem cellsPlan : Try.prog.cellsOf 25 = 2 := by kernel_rfl
theorem cellsBool : Try.prog.cellsOf 4 = 1 := by kernel_rfl
section
variable {H : Type} {enc : TypeId × Value → H} {w : World} {held : Bool} {spare : Nat → Bool}
theorem addrOf {a : Addr} {i : Nat} {v : Value} (h : w.cell? (a.add i) = some v) (h0 : ∃ v0, w.cell? a = some v0) : ∃ b o, a = ⟨b, o, none⟩ ∧ b < w.heap.size ∧ w.cell? ⟨b, o + i, none⟩ = some v := by
  obtain ⟨b, off, spot⟩ := a
  obtain ⟨v0, h0⟩ := h0
  have hspot : spot = none := World.cell?_spot h0
  subst hspot
  refine ⟨b, off, rfl, World.block_lt_of_cell? w _ h0, ?_⟩
  rw [← Go.WideShapes.add_plain]
  exact h
theorem readInts {fuel : Nat} {cs : List Value} {x : DataW H × List MemPlace} (h : DataW.trod enc Try.prog w 0 spare held fuel 23 cs = some x) : ∃ r : Rw, cs = [r.val] ∧ r.At w := by
  rcases open_slice1 Try.underlying23 cellsInt h with ⟨rfl, _⟩ | ⟨a, len, cap, m, n, V, D, Pl, rfl, hb, hl, hm, hmm, _, hx⟩
  · exact ⟨⟨none, 0, 0, fun _ => 0⟩, rfl, Nat.le_refl _, Nat.zero_le _, fun i hi => absurd hi (Nat.not_lt_zero _)⟩
  · have hlm : len ≤ m := by rw [hmm]; split <;> omega
    obtain ⟨z, hz⟩ := choose_lt (α := Int) (n := len) (p := fun i y => V i = .int .i64 y) (fun i hi => by
      obtain ⟨y, hy, _⟩ := DataW.trod_int Try.underlying3 (hx i (by omega)).2
      simp only [List.cons.injEq, and_true] at hy
      exact ⟨y, hy⟩)
    refine ⟨⟨some a, len, cap, z⟩, rfl, hl, hm, fun i hi => ?_⟩
    have hi' : i < len := hi
    have h0 : ∃ v0, w.cell? a = some v0 := ⟨_, by have := (hx 0 (by omega)).1; simpa [Addr.add] using this⟩
    obtain ⟨b, o, rfl, hb', hc⟩ := addrOf (hx i (by omega)).1 h0
    exact ⟨b, o, rfl, hb', by rw [hc, hz i hi']⟩
theorem readRows {fuel : Nat} {cs : List Value} {x : DataW H × List MemPlace} (h : DataW.trod enc Try.prog w 0 spare held fuel 26 cs = some x) : ∃ s : Sh, cs = [s.val] ∧ s.At w := by
  rcases open_slice1 Try.underlying26 cellsInts h with ⟨rfl, _⟩ | ⟨a, len, cap, m, n, V, D, Pl, rfl, hb, hl, hm, hmm, _, hx⟩
  · exact ⟨⟨none, 0, 0, fun _ => ⟨none, 0, 0, fun _ => 0⟩⟩, rfl, Nat.le_refl _, Nat.zero_le _, fun i hi => absurd hi (Nat.not_lt_zero _)⟩
  · have hlm : len ≤ m := by rw [hmm]; split <;> omega
    haveI : Inhabited Rw := ⟨⟨none, 0, 0, fun _ => 0⟩⟩
    obtain ⟨z, hz⟩ := choose_lt (α := Rw) (n := len) (p := fun i y => V i = y.val ∧ y.At w) (fun i hi => by
      obtain ⟨y, hy, hat⟩ := readInts (hx i (by omega)).2
      simp only [List.cons.injEq, and_true] at hy
      exact ⟨y, hy, hat⟩)
    refine ⟨⟨some a, len, cap, z⟩, rfl, hl, hm, fun i hi => ?_⟩
    have hi' : i < len := hi
    have h0 : ∃ v0, w.cell? a = some v0 := ⟨_, by have := (hx 0 (by omega)).1; simpa [Addr.add] using this⟩
    obtain ⟨b, o, rfl, hb', hc⟩ := addrOf (hx i (by omega)).1 h0
    exact ⟨b, o, rfl, hb', by rw [hc, (hz i hi').1]; rfl, (hz i hi').2⟩
theorem readBin {fuel : Nat} {c0 c1 c2 c3 : Value} {x : DataW H × List MemPlace} (h : DataW.trod enc Try.prog w 0 spare held fuel 105 [c0, c1, c2, c3] = some x) : ∃ y : Bin, c0 = .bool y.front ∧ c1 = .int .i64 y.room ∧ c2 = .int .i64 y.low ∧ c3 = .int .i64 y.high := by
  obtain ⟨y0, y1, y2, y3, n, hx, hl, h0, h1, h2, h3⟩ := trod_struct4 Try.underlying105 h
  simp only [cellsBool, cellsInt, List.drop_succ_cons, List.drop_zero, List.take_succ_cons, List.take_zero] at h0 h1 h2 h3
  obtain ⟨b, e0, _⟩ := DataW.trod_bool Try.underlying4 h0
  obtain ⟨n1, e1, _⟩ := DataW.trod_int Try.underlying3 h1
  obtain ⟨n2, e2, _⟩ := DataW.trod_int Try.underlying3 h2
  obtain ⟨n3, e3, _⟩ := DataW.trod_int Try.underlying3 h3
  simp only [List.cons.injEq, and_true] at e0 e1 e2 e3
  exact ⟨⟨b, n1, n2, n3⟩, e0, e1, e2, e3⟩
theorem cells4 {base : Nat} {a : Addr} {cs : List Value} (h : w.cells? base a 4 = some cs) : ∃ c0 c1 c2 c3, cs = [c0, c1, c2, c3] ∧ w.cell? a = some c0 ∧ w.cell? (a.add 1) = some c1 ∧ w.cell? (a.add 2) = some c2 ∧ w.cell? (a.add 3) = some c3 := by
  obtain ⟨_, hlen, hc⟩ := World.cells?_some h
  match cs, hlen with
  | [c0, c1, c2, c3], _ =>
    refine ⟨c0, c1, c2, c3, rfl, ?_, ?_, ?_, ?_⟩
    · simpa [Addr.add] using hc 0 (by decide)
    · simpa using hc 1 (by decide)
    · simpa using hc 2 (by decide)
    · simpa using hc 3 (by decide)
theorem readBins {fuel : Nat} {cs : List Value} {x : DataW H × List MemPlace} (h : DataW.trod enc Try.prog w 0 spare held fuel 22 cs = some x) : ∃ a n c z, cs = [.slice a n c] ∧ n ≤ c ∧ c ≤ maxLen ∧ BinsAt w a n z := by
  rcases open_slice Try.underlying22 h with ⟨rfl, _⟩ | ⟨a, len, cap, m, n, D, Pl, rfl, hb, hl, hm, hmm, _, hx⟩
  · exact ⟨none, 0, 0, fun _ => ⟨false, 0, 0, 0⟩, rfl, Nat.le_refl _, Nat.zero_le _, fun i hi => absurd hi (Nat.not_lt_zero _)⟩
  · have hlm : len ≤ m := by rw [hmm]; split <;> omega
    rw [cellsBin] at hx
    haveI : Inhabited Bin := ⟨⟨false, 0, 0, 0⟩⟩
    obtain ⟨z, hz⟩ := choose_lt (α := Bin) (n := len) (p := fun i y => w.cell? (a.add (i * 4)) = some (.bool y.front) ∧ w.cell? (a.add (i * 4 + 1)) = some (.int .i64 y.room) ∧ w.cell? (a.add (i * 4 + 2)) = some (.int .i64 y.low) ∧ w.cell? (a.add (i * 4 + 3)) = some (.int .i64 y.high)) (fun i hi => by
      obtain ⟨cs', hc, ht⟩ := hx i (by omega)
      obtain ⟨c0, c1, c2, c3, rfl, k0, k1, k2, k3⟩ := cells4 hc
      obtain ⟨y, rfl, rfl, rfl, rfl⟩ := readBin ht
      rw [add_add] at k1 k2 k3
      exact ⟨y, k0, k1, k2, k3⟩)
    refine ⟨some a, len, cap, z, rfl, hl, hm, fun i hi => ?_⟩
    have h0 : ∃ v0, w.cell? a = some v0 := ⟨_, by have := (hz 0 (by omega)).1; simpa [Addr.add] using this⟩
    obtain ⟨k0, k1, k2, k3⟩ := hz i hi
    obtain ⟨b, o, rfl, hb', e0⟩ := addrOf k0 h0
    rw [Go.WideShapes.add_plain] at k1 k2 k3
    exact ⟨b, o, rfl, hb', e0, by rw [Nat.add_assoc]; exact k1, by rw [Nat.add_assoc]; exact k2, by rw [Nat.add_assoc]; exact k3⟩
theorem openPlan {r : Reach} {b0 : Nat} {v : Value} {d : DataW H} {ps : List MemPlace} (hv : Value.okWide Try.prog w r b0 25 v) (h : DataW.Trod enc Try.prog w 0 spare held 25 v d ps) : ∃ p : Pl, v = p.val ∧ p.At w := by
  obtain ⟨c0, c1, y0, y1, m, rfl, rfl, rfl, hy0, hy1⟩ := open_agg2 Try.underlying25 (by kernel_rfl) cellsPlan hv h
  obtain ⟨a, n, c, z, e0, h1, h2, h3⟩ := readBins hy0
  obtain ⟨rr, e1, hr⟩ := readInts hy1
  simp only [List.cons.injEq, and_true] at e0 e1
  subst e0 e1
  exact ⟨⟨a, n, c, z, rr.a, rr.n, rr.c, rr.z⟩, rfl, h1, h2, h3, hr.le, hr.cap, hr.ints⟩
end
end Go.Proofs.Ytbcacebifpagpaf
namespace Go.Proofs.Ytbcacebifpagpaf
open Go.ChangeShapes Go.WideShapes Go.ChangeAt Go.RowKit Go.Joins Go.Deep
set_option linter.unusedVariables false
set_option maxRecDepth 100000
namespace HoldsFrames
theorem own : ownKnob Try.prog.godebug = none := by kernel_rfl
theorem laidOut : laidOutB Try.prog = true := by kernel_rfl
theorem cellsInt : Try.prog.cellsOf 3 = 1 := by kernel_rfl
theorem cellsHold : Try.prog.cellsOf 54 = 4 := by kernel_rfl
section
variable {H : Type} {enc : TypeId × Value → H} {w : World} {held : Bool} {spare : Nat → Bool}
theorem addrOf {a : Addr} {i : Nat} {v : Value} (h : w.cell? (a.add i) = some v) (h0 : ∃ v0, w.cell? a = some v0) : ∃ b o, a = ⟨b, o, none⟩ ∧ b < w.heap.size ∧ w.cell? ⟨b, o + i, none⟩ = some v := by
  obtain ⟨b, off, spot⟩ := a
  obtain ⟨v0, h0⟩ := h0
  have hspot : spot = none := World.cell?_spot h0
  subst hspot
  refine ⟨b, off, rfl, World.block_lt_of_cell? w _ h0, ?_⟩
  rw [← Go.WideShapes.add_plain]
  exact h
theorem cells4 {base : Nat} {a : Addr} {cs : List Value} (h : w.cells? base a 4 = some cs) : ∃ c0 c1 c2 c3, cs = [c0, c1, c2, c3] ∧ w.cell? a = some c0 ∧ w.cell? (a.add 1) = some c1 ∧ w.cell? (a.add 2) = some c2 ∧ w.cell? (a.add 3) = some c3 := by
  obtain ⟨_, hlen, hc⟩ := World.cells?_some h
  match cs, hlen with
  | [c0, c1, c2, c3], _ =>
    refine ⟨c0, c1, c2, c3, rfl, ?_, ?_, ?_, ?_⟩
    · simpa [Addr.add] using hc 0 (by decide)
    · simpa using hc 1 (by decide)
    · simpa using hc 2 (by decide)
    · simpa using hc 3 (by decide)
theorem readHold {fuel : Nat} {c0 c1 c2 c3 : Value} {x : DataW H × List MemPlace} (h : DataW.trod enc Try.prog w 0 spare held fuel 54 [c0, c1, c2, c3] = some x) : ∃ y : Hd, c0 = .int .i64 y.o ∧ c1 = .int .i64 y.l ∧ c2 = .int .i64 y.b ∧ c3 = .int .i64 y.n := by
  obtain ⟨y0, y1, y2, y3, n, hx, hl, h0, h1, h2, h3⟩ := trod_struct4 Try.underlying54 h
  simp only [cellsInt, List.drop_succ_cons, List.drop_zero, List.take_succ_cons, List.take_zero] at h0 h1 h2 h3
  obtain ⟨n0, e0, _⟩ := DataW.trod_int Try.underlying3 h0
  obtain ⟨n1, e1, _⟩ := DataW.trod_int Try.underlying3 h1
  obtain ⟨n2, e2, _⟩ := DataW.trod_int Try.underlying3 h2
  obtain ⟨n3, e3, _⟩ := DataW.trod_int Try.underlying3 h3
  simp only [List.cons.injEq, and_true] at e0 e1 e2 e3
  exact ⟨⟨n0, n1, n2, n3⟩, e0, e1, e2, e3⟩
theorem readHolds {fuel : Nat} {cs : List Value} {x : DataW H × List MemPlace} (h : DataW.trod enc Try.prog w 0 spare held fuel 28 cs = some x) : ∃ s : Hs, cs = [s.val] ∧ s.At w := by
  rcases open_slice Try.underlying28 h with ⟨rfl, _⟩ | ⟨a, len, cap, m, n, D, Pl, rfl, hb, hl, hm, hmm, _, hx⟩
  · exact ⟨⟨none, 0, 0, fun _ => ⟨0, 0, 0, 0⟩⟩, rfl, Nat.le_refl _, Nat.zero_le _, fun i hi => absurd hi (Nat.not_lt_zero _), fun _ => rfl⟩
  · have hlm : len ≤ m := by rw [hmm]; split <;> omega
    rw [cellsHold] at hx
    haveI : Inhabited Hd := ⟨⟨0, 0, 0, 0⟩⟩
    obtain ⟨z, hz⟩ := choose_lt (α := Hd) (n := len) (p := fun i y => w.cell? (a.add (i * 4)) = some (.int .i64 y.o) ∧ w.cell? (a.add (i * 4 + 1)) = some (.int .i64 y.l) ∧ w.cell? (a.add (i * 4 + 2)) = some (.int .i64 y.b) ∧ w.cell? (a.add (i * 4 + 3)) = some (.int .i64 y.n)) (fun i hi => by
      obtain ⟨cs', hc, ht⟩ := hx i (by omega)
      obtain ⟨c0, c1, c2, c3, rfl, k0, k1, k2, k3⟩ := cells4 hc
      obtain ⟨y, rfl, rfl, rfl, rfl⟩ := readHold ht
      rw [add_add] at k1 k2 k3
      exact ⟨y, k0, k1, k2, k3⟩)
    refine ⟨⟨some a, len, cap, z⟩, rfl, hl, hm, fun i hi => ?_, fun h => by cases h⟩
    have hi' : i < len := hi
    have h0 : ∃ v0, w.cell? a = some v0 := ⟨_, by have := (hz 0 (by omega)).1; simpa [Addr.add] using this⟩
    obtain ⟨k0, k1, k2, k3⟩ := hz i hi'
    obtain ⟨b, o, rfl, hb', e0⟩ := addrOf k0 h0
    rw [Go.WideShapes.add_plain] at k1 k2 k3
    exact ⟨b, o, rfl, hb', e0, by rw [Nat.add_assoc]; exact k1, by rw [Nat.add_assoc]; exact k2, by rw [Nat.add_assoc]; exact k3⟩
end
end HoldsFrames
end Go.Proofs.Ytbcacebifpagpaf
namespace Go.Proofs.Ytbcacebifpagpaf
open Go.ChangeShapes Go.WideShapes Go.ChangeAt Go.RowKit Go.Joins Go.Deep
set_option linter.unusedVariables false
set_option maxRecDepth 100000
theorem cellsLine : Try.prog.cellsOf 60 = 4 := by kernel_rfl
theorem cellsMove : Try.prog.cellsOf 40 = 4 := by kernel_rfl
theorem cellsOrder : Try.prog.cellsOf 58 = 2 := by kernel_rfl
theorem cellsState : Try.prog.cellsOf 31 = 7 := by kernel_rfl
theorem cellsLines : Try.prog.cellsOf 56 = 1 := by kernel_rfl
theorem cellsMoves : Try.prog.cellsOf 29 = 1 := by kernel_rfl
theorem cellsOrders : Try.prog.cellsOf 27 = 1 := by kernel_rfl
theorem cellsHolds : Try.prog.cellsOf 28 = 1 := by kernel_rfl
theorem cellsRows : Try.prog.cellsOf 26 = 1 := by kernel_rfl
section
variable {H : Type} {enc : TypeId × Value → H} {w : World} {held : Bool} {spare : Nat → Bool}
theorem readLine {fuel : Nat} {c0 c1 c2 c3 : Value} {x : DataW H × List MemPlace} (h : DataW.trod enc Try.prog w 0 spare held fuel 60 [c0, c1, c2, c3] = some x) : ∃ y : Hd, c0 = .int .i64 y.o ∧ c1 = .int .i64 y.l ∧ c2 = .int .i64 y.b ∧ c3 = .int .i64 y.n := by
  obtain ⟨y0, y1, y2, y3, n, hx, hl, h0, h1, h2, h3⟩ := trod_struct4 Try.underlying60 h
  simp only [cellsInt, List.drop_succ_cons, List.drop_zero, List.take_succ_cons, List.take_zero] at h0 h1 h2 h3
  obtain ⟨n0, e0, _⟩ := DataW.trod_int Try.underlying3 h0
  obtain ⟨n1, e1, _⟩ := DataW.trod_int Try.underlying3 h1
  obtain ⟨n2, e2, _⟩ := DataW.trod_int Try.underlying3 h2
  obtain ⟨n3, e3, _⟩ := DataW.trod_int Try.underlying3 h3
  simp only [List.cons.injEq, and_true] at e0 e1 e2 e3
  exact ⟨⟨n0, n1, n2, n3⟩, e0, e1, e2, e3⟩
theorem readLines {fuel : Nat} {cs : List Value} {x : DataW H × List MemPlace} (h : DataW.trod enc Try.prog w 0 spare held fuel 56 cs = some x) : ∃ s : Hs, cs = [s.val] ∧ s.At w := by
  rcases open_slice Try.underlying56 h with ⟨rfl, _⟩ | ⟨a, len, cap, m, n, D, Pl, rfl, hb, hl, hm, hmm, _, hx⟩
  · exact ⟨⟨none, 0, 0, fun _ => ⟨0, 0, 0, 0⟩⟩, rfl, Nat.le_refl _, Nat.zero_le _, fun i hi => absurd hi (Nat.not_lt_zero _), fun _ => rfl⟩
  · have hlm : len ≤ m := by rw [hmm]; split <;> omega
    rw [cellsLine] at hx
    haveI : Inhabited Hd := ⟨⟨0, 0, 0, 0⟩⟩
    obtain ⟨z, hz⟩ := choose_lt (α := Hd) (n := len) (p := fun i y => w.cell? (a.add (i * 4)) = some (.int .i64 y.o) ∧ w.cell? (a.add (i * 4 + 1)) = some (.int .i64 y.l) ∧ w.cell? (a.add (i * 4 + 2)) = some (.int .i64 y.b) ∧ w.cell? (a.add (i * 4 + 3)) = some (.int .i64 y.n)) (fun i hi => by
      obtain ⟨cs', hc, ht⟩ := hx i (by omega)
      obtain ⟨c0, c1, c2, c3, rfl, k0, k1, k2, k3⟩ := cells4 hc
      obtain ⟨y, rfl, rfl, rfl, rfl⟩ := readLine ht
      rw [add_add] at k1 k2 k3
      exact ⟨y, k0, k1, k2, k3⟩)
    refine ⟨⟨some a, len, cap, z⟩, rfl, hl, hm, fun i hi => ?_, fun h => by cases h⟩
    have hi' : i < len := hi
    have h0 : ∃ v0, w.cell? a = some v0 := ⟨_, by have := (hz 0 (by omega)).1; simpa [Addr.add] using this⟩
    obtain ⟨k0, k1, k2, k3⟩ := hz i hi'
    obtain ⟨b, o, rfl, hb', e0⟩ := addrOf k0 h0
    rw [Go.WideShapes.add_plain] at k1 k2 k3
    exact ⟨b, o, rfl, hb', e0, by rw [Nat.add_assoc]; exact k1, by rw [Nat.add_assoc]; exact k2, by rw [Nat.add_assoc]; exact k3⟩
theorem readMove {fuel : Nat} {c0 c1 c2 c3 : Value} {x : DataW H × List MemPlace} (h : DataW.trod enc Try.prog w 0 spare held fuel 40 [c0, c1, c2, c3] = some x) : ∃ y : Hd, c0 = .int .i64 y.o ∧ c1 = .int .i64 y.l ∧ c2 = .int .i64 y.b ∧ c3 = .int .i64 y.n := by
  obtain ⟨y0, y1, y2, y3, n, hx, hl, h0, h1, h2, h3⟩ := trod_struct4 Try.underlying40 h
  simp only [cellsInt, List.drop_succ_cons, List.drop_zero, List.take_succ_cons, List.take_zero] at h0 h1 h2 h3
  obtain ⟨n0, e0, _⟩ := DataW.trod_int Try.underlying3 h0
  obtain ⟨n1, e1, _⟩ := DataW.trod_int Try.underlying3 h1
  obtain ⟨n2, e2, _⟩ := DataW.trod_int Try.underlying3 h2
  obtain ⟨n3, e3, _⟩ := DataW.trod_int Try.underlying3 h3
  simp only [List.cons.injEq, and_true] at e0 e1 e2 e3
  exact ⟨⟨n0, n1, n2, n3⟩, e0, e1, e2, e3⟩
theorem readMoves {fuel : Nat} {cs : List Value} {x : DataW H × List MemPlace} (h : DataW.trod enc Try.prog w 0 spare held fuel 29 cs = some x) : ∃ s : Hs, cs = [s.val] ∧ s.At w := by
  rcases open_slice Try.underlying29 h with ⟨rfl, _⟩ | ⟨a, len, cap, m, n, D, Pl, rfl, hb, hl, hm, hmm, _, hx⟩
  · exact ⟨⟨none, 0, 0, fun _ => ⟨0, 0, 0, 0⟩⟩, rfl, Nat.le_refl _, Nat.zero_le _, fun i hi => absurd hi (Nat.not_lt_zero _), fun _ => rfl⟩
  · have hlm : len ≤ m := by rw [hmm]; split <;> omega
    rw [cellsMove] at hx
    haveI : Inhabited Hd := ⟨⟨0, 0, 0, 0⟩⟩
    obtain ⟨z, hz⟩ := choose_lt (α := Hd) (n := len) (p := fun i y => w.cell? (a.add (i * 4)) = some (.int .i64 y.o) ∧ w.cell? (a.add (i * 4 + 1)) = some (.int .i64 y.l) ∧ w.cell? (a.add (i * 4 + 2)) = some (.int .i64 y.b) ∧ w.cell? (a.add (i * 4 + 3)) = some (.int .i64 y.n)) (fun i hi => by
      obtain ⟨cs', hc, ht⟩ := hx i (by omega)
      obtain ⟨c0, c1, c2, c3, rfl, k0, k1, k2, k3⟩ := cells4 hc
      obtain ⟨y, rfl, rfl, rfl, rfl⟩ := readMove ht
      rw [add_add] at k1 k2 k3
      exact ⟨y, k0, k1, k2, k3⟩)
    refine ⟨⟨some a, len, cap, z⟩, rfl, hl, hm, fun i hi => ?_, fun h => by cases h⟩
    have hi' : i < len := hi
    have h0 : ∃ v0, w.cell? a = some v0 := ⟨_, by have := (hz 0 (by omega)).1; simpa [Addr.add] using this⟩
    obtain ⟨k0, k1, k2, k3⟩ := hz i hi'
    obtain ⟨b, o, rfl, hb', e0⟩ := addrOf k0 h0
    rw [Go.WideShapes.add_plain] at k1 k2 k3
    exact ⟨b, o, rfl, hb', e0, by rw [Nat.add_assoc]; exact k1, by rw [Nat.add_assoc]; exact k2, by rw [Nat.add_assoc]; exact k3⟩
theorem cells2 {base : Nat} {a : Addr} {cs : List Value} (h : w.cells? base a 2 = some cs) : ∃ c0 c1, cs = [c0, c1] ∧ w.cell? a = some c0 ∧ w.cell? (a.add 1) = some c1 := by
  obtain ⟨_, hlen, hc⟩ := World.cells?_some h
  match cs, hlen with
  | [c0, c1], _ =>
    refine ⟨c0, c1, rfl, ?_, ?_⟩
    · simpa [Addr.add] using hc 0 (by decide)
    · simpa using hc 1 (by decide)
theorem readOrder {fuel : Nat} {c0 c1 : Value} {x : DataW H × List MemPlace} (h : DataW.trod enc Try.prog w 0 spare held fuel 58 [c0, c1] = some x) : ∃ y : Od, c0 = .int .i64 y.k ∧ c1 = .slice y.ls.a y.ls.n y.ls.c ∧ y.ls.At w := by
  obtain ⟨y0, y1, n, hx, hl, h0, h1⟩ := trod_struct2 Try.underlying58 h
  simp only [cellsInt, cellsLines, List.drop_succ_cons, List.drop_zero, List.take_succ_cons, List.take_zero] at h0 h1
  obtain ⟨n0, e0, _⟩ := DataW.trod_int Try.underlying3 h0
  obtain ⟨s, e1, hs⟩ := readLines h1
  simp only [List.cons.injEq, and_true] at e0 e1
  exact ⟨⟨n0, s⟩, e0, e1, hs⟩
theorem readOrders {fuel : Nat} {cs : List Value} {x : DataW H × List MemPlace} (h : DataW.trod enc Try.prog w 0 spare held fuel 27 cs = some x) : ∃ s : Go.Proofs.Ytbcacebifpagpaf.Os, cs = [s.val] ∧ s.At w := by
  rcases open_slice Try.underlying27 h with ⟨rfl, _⟩ | ⟨a, len, cap, m, n, D, Pl, rfl, hb, hl, hm, hmm, _, hx⟩
  · exact ⟨⟨none, 0, 0, fun _ => ⟨0, ⟨none, 0, 0, fun _ => ⟨0, 0, 0, 0⟩⟩⟩⟩, rfl, Nat.le_refl _, Nat.zero_le _, fun i hi => absurd hi (Nat.not_lt_zero _)⟩
  · have hlm : len ≤ m := by rw [hmm]; split <;> omega
    rw [cellsOrder] at hx
    haveI : Inhabited Od := ⟨⟨0, ⟨none, 0, 0, fun _ => ⟨0, 0, 0, 0⟩⟩⟩⟩
    obtain ⟨z, hz⟩ := choose_lt (α := Od) (n := len) (p := fun i y => w.cell? (a.add (i * 2)) = some (.int .i64 y.k) ∧ w.cell? (a.add (i * 2 + 1)) = some (.slice y.ls.a y.ls.n y.ls.c) ∧ y.ls.At w) (fun i hi => by
      obtain ⟨cs', hc, ht⟩ := hx i (by omega)
      obtain ⟨c0, c1, rfl, k0, k1⟩ := cells2 hc
      obtain ⟨y, rfl, rfl, hy⟩ := readOrder ht
      rw [add_add] at k1
      exact ⟨y, k0, k1, hy⟩)
    refine ⟨⟨some a, len, cap, z⟩, rfl, hl, hm, fun i hi => ?_⟩
    have hi' : i < len := hi
    have h0 : ∃ v0, w.cell? a = some v0 := ⟨_, by have := (hz 0 (by omega)).1; simpa [Addr.add] using this⟩
    obtain ⟨k0, k1, hy⟩ := hz i hi'
    obtain ⟨b, o, rfl, hb', e0⟩ := addrOf k0 h0
    rw [Go.WideShapes.add_plain] at k1
    exact ⟨b, o, rfl, hb', e0, by rw [Nat.add_assoc]; exact k1, hy⟩
theorem array7 {α : Type} {cs : Array α} (h : cs.size = 7) : ∃ c0 c1 c2 c3 c4 c5 c6, cs = #[c0, c1, c2, c3, c4, c5, c6] := by
  obtain ⟨l⟩ := cs
  match l, h with
  | [c0, c1, c2, c3, c4, c5, c6], _ => exact ⟨c0, c1, c2, c3, c4, c5, c6, rfl⟩
theorem openState {r : Reach} {b0 : Nat} {v : Value} {d : DataW H} {ps : List MemPlace} (hv : Value.okWide Try.prog w r b0 31 v) (h : DataW.Trod enc Try.prog w 0 spare held 31 v d ps) : ∃ s : St, v = s.val ∧ s.At w := by
  obtain ⟨cs, rfl, hsz⟩ := okWide_struct Try.underlying31 hv
  obtain ⟨c0, c1, c2, c3, c4, c5, c6, rfl⟩ := array7 (hsz.trans cellsState)
  obtain ⟨fuel, hf⟩ := h
  obtain ⟨xs, n, _, hx, hl, hlen, hg⟩ := DataW.trod_struct Try.underlying31 hf
  match xs, hlen with
  | [y0, y1, y2, y3, y4, y5, y6], _ =>
    have k0 := hg 0 _ rfl
    have k1 := hg 1 _ rfl
    have k2 := hg 2 _ rfl
    have k3 := hg 3 _ rfl
    have k4 := hg 4 _ rfl
    have k5 := hg 5 _ rfl
    have k6 := hg 6 _ rfl
    simp [cellsRows, cellsOrders, cellsHolds, cellsMoves, cellsInts, Value.cells] at k0 k1 k2 k3 k4 k5 k6
    obtain ⟨on, e0, h0⟩ := readRows k0
    obtain ⟨os, e1, h1⟩ := readOrders k1
    obtain ⟨hs, e2, h2⟩ := HoldsFrames.readHolds k2
    obtain ⟨ms, e3, h3⟩ := readMoves k3
    obtain ⟨si, e4, h4⟩ := readInts k4
    obtain ⟨so, e5, h5⟩ := readInts k5
    obtain ⟨sf, e6, h6⟩ := readInts k6
    simp only [List.cons.injEq, and_true] at e0 e1 e2 e3 e4 e5 e6
    subst e0 e1 e2 e3 e4 e5 e6
    exact ⟨⟨on, os, hs, ms, si, so, sf⟩, rfl, h0, h1, h2, h3, h4, h5, h6⟩
end
end Go.Proofs.Ytbcacebifpagpaf

/- Texts that were built one behind the other, joined. -/
import Derived.Test.YtjiodlbblmbibacRE3
import Derived.Test.YtjiodlbblmbibacSW12
import Derived.Test.YtjiodlbblmbibacW10J
import Derived.Test.YtjiodlbblmbibacRV2
/- recvBegun. -/
namespace Go.Proofs.Ytjiodlbblmbibac
open Go.RowKit Go.Shelf Go.Sort
set_option linter.unusedVariables false

theorem enterE_zero {p : Pl} {s : St} {l : Hs} (h : enterE p s l = 0) : stateE p s = 0 ∧ 1 ≤ l.n ∧ l.n ≤ 3 ∧ ¬ s.os.n = 4 ∧ anyB l.n (fun j => outL p (l.z j)) = false ∧ anyB l.n (fun j => begunL (l.z j)) = false := by
  by_cases h0 : stateE p s = 0
  · by_cases h1 : s.os.n = 4 ∨ ¬ (1 ≤ l.n ∧ l.n ≤ 3)
    · rw [enterE_many h0 h1] at h; exact absurd h (by decide)
    · cases h2 : anyB l.n (fun j => outL p (l.z j))
      · cases h3 : anyB l.n (fun j => begunL (l.z j))
        · exact ⟨h0, by omega, by omega, by omega, rfl, rfl⟩
        · rw [enterE_form h0 h1 (by rw [h2]; decide) h3] at h; exact absurd h (by decide)
      · rw [enterE_range h0 h1 h2] at h; exact absurd h (by decide)
  · rw [enterE_state h0] at h; exact absurd h h0
theorem enter_bound {p : Pl} {s : St} {l : Hs} (h : enterE p s l = 0) : (enterT s l).os.n ≤ 1000 ∧ (enterT s l).ms.n ≤ 1000 ∧ ∀ i, i < (enterT s l).os.n → ((enterT s l).os.z i).ls.n ≤ 1000 := by
  obtain ⟨h0, h1, h2, -⟩ := enterE_zero h
  have f := (rightT h0).fm
  have o4 := f.os4
  have m8 := f.ms8
  refine ⟨by show s.os.n + 1 ≤ 1000; omega, by show s.ms.n ≤ 1000; omega, fun i hi => ?_⟩
  have hi' : i < s.os.n + 1 := hi
  show (if i = s.os.n then (⟨0, l⟩ : Od) else s.os.z i).ls.n ≤ 1000
  by_cases hin : i = s.os.n
  · rw [if_pos hin]; show l.n ≤ 1000; omega
  · rw [if_neg hin]; have := f.lns i (by omega); omega

theorem recvBeg7 {w : World} {g1 g2 g : Nat} (hp : (yardP g1 g2).At w) (hs : BusyB w g 2 0) :
    Calls Try.prog 21 #[(yardP g1 g2).val, (busyS g 2 0).val, .int .i64 1, .int .i64 0, .int .i64 7] w fun e w' => ∃ s' : St, e = .returned (.tuple #[s'.val, .int .i64 0]) ∧ s'.At w' ∧ (s'.on.n = 3 ∧ (s'.on.r 1).n = 2 ∧ (s'.on.r 1).z 0 = 10 ∧ s'.si.n = 2 ∧ s'.si.z 0 = 20) ∧ Below w.heap.size w w' := by
  refine (Receive_any _ _ 1 0 7 w hp (busyAt hs)).mono ?_
  rintro e w' ⟨s', rfl, hat, hok, hB⟩
  have hE : recvE (yardP g1 g2) (busyS g 2 0) 1 0 7 = 0 := by rfl
  have h := hok.1 hE
  have n1 : s'.on.n = 3 := h.on.1
  have r1 := h.on.2 1 (by omega)
  have n2 : (s'.on.r 1).n = 2 := r1.1
  have z : (s'.on.r 1).z 0 = 10 := r1.2 0 (by omega)
  have n3 : s'.si.n = 2 := h.si.1
  have z2 : s'.si.z 0 = 20 := h.si.2 0 (by omega)
  rw [hE]
  exact ⟨s', rfl, hat, ⟨n1, n2, z, n3, z2⟩, hB⟩
theorem recvBeg8 {w : World} {g1 g2 g : Nat} (hp : (yardP g1 g2).At w) (hs : BusyB w g 2 0) :
    Calls Try.prog 21 #[(yardP g1 g2).val, (busyS g 2 0).val, .int .i64 1, .int .i64 0, .int .i64 8] w fun e w' => ∃ s' : St, e = .returned (.tuple #[s'.val, .int .i64 5]) ∧ Below w.heap.size w w' := by
  refine (Receive_any _ _ 1 0 8 w hp (busyAt hs)).mono ?_
  rintro e w' ⟨s', rfl, hat, hok, hB⟩
  rw [show recvE (yardP g1 g2) (busyS g 2 0) 1 0 8 = 5 by rfl]
  exact ⟨s', rfl, hB⟩
theorem entBeg1 {w : World} {g1 g2 g G : Nat} (hp : (yardP g1 g2).At w) (hs : BusyB w g 2 0) (hl : Hs.At w ⟨some ⟨G, 0, none⟩, 1, 1, fun _ => ⟨1, 2, 0, 0⟩⟩) :
    Calls Try.prog 24 #[(yardP g1 g2).val, (busyS g 2 0).val, .slice (some ⟨G, 0, none⟩) 1 1] w fun e w' => ∃ s' : St, e = .returned (.tuple #[s'.val, .int .i64 0]) ∧ s'.At w' ∧ (s'.os.n = 3 ∧ (s'.os.z 2).ls.n = 1 ∧ ((s'.os.z 2).ls.z 0).l = 2) ∧ Below w.heap.size w w' := by
  refine (Enter_any _ _ ⟨some ⟨G, 0, none⟩, 1, 1, fun _ => ⟨1, 2, 0, 0⟩⟩ w hp (busyAt hs) hl).mono ?_
  rintro e w' ⟨s', rfl, hat, hok, hB⟩
  have hE : enterE (yardP g1 g2) (busyS g 2 0) ⟨some ⟨G, 0, none⟩, 1, 1, fun _ => ⟨1, 2, 0, 0⟩⟩ = 0 := by rfl
  have h := hok.1 hE
  have n1 : s'.os.n = 3 := h.os.1
  have r1 := h.os.2 2 (by omega)
  have n2 : (s'.os.z 2).ls.n = 1 := r1.2.1
  have z : (s'.os.z 2).ls.z 0 = ⟨1, 2, 0, 0⟩ := r1.2.2 0 (by omega)
  rw [hE]
  exact ⟨s', rfl, hat, ⟨n1, n2, by rw [z]⟩, hB⟩
theorem entBeg2 {w : World} {g1 g2 g G : Nat} (hp : (yardP g1 g2).At w) (hs : BusyB w g 2 0) (hl : Hs.At w ⟨some ⟨G, 0, none⟩, 1, 1, fun _ => ⟨2, 2, 0, 0⟩⟩) :
    Calls Try.prog 24 #[(yardP g1 g2).val, (busyS g 2 0).val, .slice (some ⟨G, 0, none⟩) 1 1] w fun e w' => ∃ s' : St, e = .returned (.tuple #[s'.val, .int .i64 3]) ∧ Below w.heap.size w w' := by
  refine (Enter_any _ _ ⟨some ⟨G, 0, none⟩, 1, 1, fun _ => ⟨2, 2, 0, 0⟩⟩ w hp (busyAt hs) hl).mono ?_
  rintro e w' ⟨s', rfl, hat, hok, hB⟩
  rw [show enterE (yardP g1 g2) (busyS g 2 0) ⟨some ⟨G, 0, none⟩, 1, 1, fun _ => ⟨2, 2, 0, 0⟩⟩ = 3 by rfl]
  exact ⟨s', rfl, hB⟩

set_option maxRecDepth 100000 in
set_option maxHeartbeats 8000000 in
theorem recvBegun_any (w : World) :
    Calls Try.prog 23 #[] w fun e w' => e = .returned (.bool true) ∧ Below w.heap.size w w' := by
  go_enter Try.func23, Try.ntmps23
  go_wp2_with fail
  refine (yard_any _).mono ?_
  rintro e w1 ⟨g1, g2, rfl, -, -, k1, k2, hA⟩
  go_wp2_with fail
  refine (busy_any _).mono ?_
  rintro e w2 ⟨g, rfl, -, bb, hB⟩
  have k1 := k1.below hB
  have k2 := k2.below hB
  have hC := hA.trans (hB.mono hA.size)
  clear hA hB
  simp only [busyS, St.val]
  go_wp2_with fail
  refine (recvBeg7 (yardAt k1 k2) bb).mono ?_
  rintro e w3 ⟨x, rfl, xat, xf, hB⟩
  have hC := hC.trans (hB.mono hC.size)
  clear hB k1 k2 bb
  have HXF : Hid (x.on.n = 3 ∧ (x.on.r 1).n = 2 ∧ (x.on.r 1).z 0 = 10 ∧ x.si.n = 2 ∧ x.si.z 0 = 20) := xf
  clear xf
  simp only [St.val]
  go_wp2_with fail
  obtain ⟨W3, hW, hWB, K1⟩ : ∃ W, w3.alloc (.cells #[.slice x.on.a x.on.n x.on.c, .slice x.os.a x.os.n x.os.c, .slice x.hs.a x.hs.n x.hs.c, .slice x.ms.a x.ms.n x.ms.c, .slice x.si.a x.si.n x.si.c, .slice x.so.a x.so.n x.so.c, .slice x.sf.a x.sf.n x.sf.c] 31) = W ∧ Below w3.heap.size w3 W ∧ Blk W w3.heap.size 31 7 (fun j => x.cells.getD j default) := ⟨_, rfl, (Below.refl _ _).alloc (Nat.le_refl _) _, Blk.mk' rfl rfl⟩
  rw [hW]
  have xat := xat.below hWB
  have hC := hC.trans (hWB.mono hC.size)
  clear hW hWB
  generalize w3.heap.size = B1 at *
  refine (yard_any _).mono ?_
  rintro e w4 ⟨g1, g2, rfl, -, -, k1, k2, hA⟩
  go_wp2_with fail
  refine (busy_any _).mono ?_
  rintro e w5 ⟨g, rfl, -, bb, hB⟩
  have k1 := k1.below hB
  have k2 := k2.below hB
  have hD := hA.trans (hB.mono hA.size)
  clear hA hB
  simp only [busyS, St.val]
  go_wp2_with fail
  refine (recvBeg8 (yardAt k1 k2) bb).mono ?_
  rintro e w6 ⟨y, rfl, hB⟩
  have hD := hD.trans (hB.mono hD.size)
  have hC := hC.trans (hD.mono hC.size)
  have xat := xat.below hD
  have K1 := K1.below hD
  clear hD hB k1 k2 bb
  simp only [St.val]
  go_wp2_with fail
  obtain ⟨W6, hW, hWB⟩ : ∃ W, w6.alloc (.cells #[.slice y.on.a y.on.n y.on.c, .slice y.os.a y.os.n y.os.c, .slice y.hs.a y.hs.n y.hs.c, .slice y.ms.a y.ms.n y.ms.c, .slice y.si.a y.si.n y.si.c, .slice y.so.a y.so.n y.so.c, .slice y.sf.a y.sf.n y.sf.c] 31) = W ∧ Below w6.heap.size w6 W := ⟨_, rfl, (Below.refl _ _).alloc (Nat.le_refl _) _⟩
  rw [hW]
  have hC := hC.trans (hWB.mono hC.size)
  have xat := xat.below hWB
  have K1 := K1.below hWB
  clear hW hWB
  generalize w6.heap.size = B2 at *
  refine (yard_any _).mono ?_
  rintro e w7 ⟨g1, g2, rfl, -, -, k1, k2, hA⟩
  go_wp2_with fail
  refine (busy_any _).mono ?_
  rintro e w8 ⟨g, rfl, -, bb, hB⟩
  have k1 := k1.below hB
  have k2 := k2.below hB
  have hD := hA.trans (hB.mono hA.size)
  clear hA hB
  simp only [busyS, St.val]
  go_wp2_with fail
  obtain ⟨W8, hW, hWB, L8⟩ : ∃ W, w8.alloc (.cells #[.int .i64 1, .int .i64 2, .int .i64 0, .int .i64 0] 53) = W ∧ Below w8.heap.size w8 W ∧ Hs.At W ⟨some ⟨w8.heap.size, 0, none⟩, 1, 1, fun _ => ⟨1, 2, 0, 0⟩⟩ := ⟨_, rfl, (Below.refl _ _).alloc (Nat.le_refl _) _, Hs.one (Blk.mk' rfl rfl)⟩
  rw [hW]
  have k1 := k1.below hWB
  have k2 := k2.below hWB
  have bb := bb.below hWB
  have hD := hD.trans (hWB.mono hD.size)
  clear hW hWB
  refine (entBeg1 (yardAt k1 k2) bb L8).mono ?_
  rintro e w9 ⟨z, rfl, zat, zf, hB⟩
  have HZF : Hid (z.os.n = 3 ∧ (z.os.z 2).ls.n = 1 ∧ ((z.os.z 2).ls.z 0).l = 2) := zf
  have hD := hD.trans (hB.mono hD.size)
  have hC := hC.trans (hD.mono hC.size)
  have xat := xat.below hD
  have K1 := K1.below hD
  clear hD hB k1 k2 bb L8 zf
  simp only [St.val]
  go_wp2_with fail
  obtain ⟨W9, hW, hWB, K2⟩ : ∃ W, w9.alloc (.cells #[.slice z.on.a z.on.n z.on.c, .slice z.os.a z.os.n z.os.c, .slice z.hs.a z.hs.n z.hs.c, .slice z.ms.a z.ms.n z.ms.c, .slice z.si.a z.si.n z.si.c, .slice z.so.a z.so.n z.so.c, .slice z.sf.a z.sf.n z.sf.c] 31) = W ∧ Below w9.heap.size w9 W ∧ Blk W w9.heap.size 31 7 (fun j => z.cells.getD j default) := ⟨_, rfl, (Below.refl _ _).alloc (Nat.le_refl _) _, Blk.mk' rfl rfl⟩
  rw [hW]
  have hC := hC.trans (hWB.mono hC.size)
  have xat := xat.below hWB
  have zat := zat.below hWB
  have K1 := K1.below hWB
  clear hW hWB
  generalize w9.heap.size = B3 at *
  refine (yard_any _).mono ?_
  rintro e wa ⟨g1, g2, rfl, -, -, k1, k2, hA⟩
  go_wp2_with fail
  refine (busy_any _).mono ?_
  rintro e wb ⟨g, rfl, -, bb, hB⟩
  have k1 := k1.below hB
  have k2 := k2.below hB
  have hD := hA.trans (hB.mono hA.size)
  clear hA hB
  simp only [busyS, St.val]
  go_wp2_with fail
  obtain ⟨Wb, hW, hWB, L8⟩ : ∃ W, wb.alloc (.cells #[.int .i64 2, .int .i64 2, .int .i64 0, .int .i64 0] 53) = W ∧ Below wb.heap.size wb W ∧ Hs.At W ⟨some ⟨wb.heap.size, 0, none⟩, 1, 1, fun _ => ⟨2, 2, 0, 0⟩⟩ := ⟨_, rfl, (Below.refl _ _).alloc (Nat.le_refl _) _, Hs.one (Blk.mk' rfl rfl)⟩
  rw [hW]
  have k1 := k1.below hWB
  have k2 := k2.below hWB
  have bb := bb.below hWB
  have hD := hD.trans (hWB.mono hD.size)
  clear hW hWB
  refine (entBeg2 (yardAt k1 k2) bb L8).mono ?_
  rintro e wc ⟨y2, rfl, hB⟩
  have hD := hD.trans (hB.mono hD.size)
  have hC := hC.trans (hD.mono hC.size)
  have xat := xat.below hD
  have zat := zat.below hD
  have K1 := K1.below hD
  have K2 := K2.below hD
  clear hD hB k1 k2 bb L8
  obtain ⟨Wc, hW, hWB⟩ : ∃ W, wc.alloc (.cells #[.slice y2.on.a y2.on.n y2.on.c, .slice y2.os.a y2.os.n y2.os.c, .slice y2.hs.a y2.hs.n y2.hs.c, .slice y2.ms.a y2.ms.n y2.ms.c, .slice y2.si.a y2.si.n y2.si.c, .slice y2.so.a y2.so.n y2.so.c, .slice y2.sf.a y2.sf.n y2.sf.c] 31) = W ∧ Below wc.heap.size wc W := ⟨_, rfl, (Below.refl _ _).alloc (Nat.le_refl _) _⟩
  have HW : Hid (wc.alloc (.cells #[.slice y2.on.a y2.on.n y2.on.c, .slice y2.os.a y2.os.n y2.os.c, .slice y2.hs.a y2.hs.n y2.hs.c, .slice y2.ms.a y2.ms.n y2.ms.c, .slice y2.si.a y2.si.n y2.si.c, .slice y2.so.a y2.so.n y2.so.c, .slice y2.sf.a y2.sf.n y2.sf.c] 31) = Wc) := hW
  have hC := hC.trans (hWB.mono hC.size)
  have xat := xat.below hWB
  have zat := zat.below hWB
  have K1 := K1.below hWB
  have K2 := K2.below hWB
  have HCC : Hid (Below w.heap.size w Wc) := hC
  obtain ⟨b1, o1, ha1, hb1, t1, hr1⟩ := xat.on.rows 1 (by rw [HXF.out.1]; decide)
  obtain ⟨b2, o2, ha2, hb2, t2⟩ := hr1.ints 0 (by rw [HXF.out.2.1]; decide)
  obtain ⟨b3, o3, ha3, hb3, t3⟩ := xat.si.ints 0 (by rw [HXF.out.2.2.2.1]; decide)
  obtain ⟨b4, o4, ha4, hb4, t4, t5, hl4⟩ := zat.os.ods 2 (by rw [HZF.out.1]; decide)
  obtain ⟨b5, o5, ha5, hb5, t6, t7, t8, t9⟩ := hl4.hds 0 (by rw [HZF.out.2.1]; decide)
  have s0 : Wc.cell? ⟨B1, 0, none⟩ = some (.slice x.on.a x.on.n x.on.c) := K1.cell (j := 0) (by decide)
  have s4 : Wc.cell? ⟨B1, 4, none⟩ = some (.slice x.si.a x.si.n x.si.c) := K1.cell (j := 4) (by decide)
  have s1 : Wc.cell? ⟨B3, 1, none⟩ = some (.slice z.os.a z.os.n z.os.c) := K2.cell (j := 1) (by decide)
  have m1 := K1.lt
  have m2 := K2.lt
  have v1 := xat.on.le
  have v2 := xat.on.cap
  have v3 := hr1.le
  have v4 := hr1.cap
  have v5 := xat.si.le
  have v6 := xat.si.cap
  have v7 := zat.os.le
  have v8 := zat.os.cap
  have v9 := hl4.le
  have v10 := hl4.cap
  rw [ha1, HXF.out.1] at s0
  rw [ha3, HXF.out.2.2.2.1] at s4
  rw [ha4, HZF.out.1] at s1
  rw [ha2, HXF.out.2.1] at t1
  rw [HXF.out.2.2.1] at t2
  rw [HXF.out.2.2.2.2] at t3
  rw [ha5, HZF.out.2.1] at t5
  rw [HZF.out.2.2] at t7
  rw [HXF.out.1] at v1
  rw [HXF.out.2.1] at v3
  rw [HXF.out.2.2.2.1] at v5
  rw [HZF.out.1] at v7
  rw [HZF.out.2.1] at v9
  unfold maxLen at v2 v4 v6 v8 v10
  simp only [Nat.add_zero, Nat.zero_mul] at t2 t3 t7
  have t5a : Wc.cell? ⟨b4, o4 + 4 + 1, none⟩ = _ := t5
  have t5b : Wc.cell? ⟨b4, o4 + 5, none⟩ = _ := t5
  clear hW xat zat K1 K2 hr1 hl4 ha1 ha2 ha3 ha4 ha5 HXF HZF hWB hC
  simp only [St.val]
  have m1e := m1
  rw [← HW.out] at m1 m2 s0 s1 s4 t1 t2 t3 t5 t5a t5b t7 hb1 hb2 hb3 hb4 hb5
  go_wp2_with fail
  go_ret
  rw [HW.out]
  exact ⟨by simp, HCC.out⟩

end Go.Proofs.Ytjiodlbblmbibac
/- What two acts answer that are the same. No walk. -/
namespace Go.Proofs.Ytjiodlbblmbibac
open Go.RowKit Go.Shelf Go.Sort
set_option linter.unusedVariables false

theorem recvE_zero {p : Pl} {s : St} {bin good n : Int} (h : recvE p s bin good n = 0) : stateE p s = 0 := by
  apply Classical.byContradiction
  intro h0
  rw [recvE_state h0] at h
  exact h0 h
theorem none_same2 {s t : St} (a : NoneS s) (b : NoneS t) : SameT s t := by
  obtain ⟨a1, a2, a3, a4, a5, a6, a7⟩ := a
  obtain ⟨b1, b2, b3, b4, b5, b6, b7⟩ := b
  exact ⟨⟨by omega, fun i hi => absurd hi (by omega)⟩, ⟨by omega, fun i hi => absurd hi (by omega)⟩, ⟨by omega, fun j hj => absurd hj (by omega)⟩, ⟨by omega, fun j hj => absurd hj (by omega)⟩, ⟨by omega, fun j hj => absurd hj (by omega)⟩, ⟨by omega, fun j hj => absurd hj (by omega)⟩, ⟨by omega, fun j hj => absurd hj (by omega)⟩⟩
theorem ActOK.same {E : Int} {t x y : St} (a : ActOK E t x) (b : ActOK E t y) : SameT x y := by
  by_cases h : E = 0
  · exact (a.1 h).trans (b.1 h).symm
  · exact none_same2 (a.2 h) (b.2 h)

/-- What an act answers is not too long to be compared. -/
theorem ActOK.bound {E : Int} {p : Pl} {s t x : St} (h : ActOK E t x) (f : E = 0 → t.os.n ≤ 1000 ∧ t.ms.n ≤ 1000 ∧ ∀ i, i < t.os.n → (t.os.z i).ls.n ≤ 1000) : x.os.n ≤ 1000 ∧ x.ms.n ≤ 1000 ∧ ∀ i, i < x.os.n → (x.os.z i).ls.n ≤ 1000 := by
  by_cases hE : E = 0
  · obtain ⟨f1, f2, f3⟩ := f hE
    have a := h.1 hE
    have e1 : x.os.n = t.os.n := a.os.1
    have e2 : x.ms.n = t.ms.n := a.ms.1
    refine ⟨by omega, by omega, fun i hi => ?_⟩
    have e3 : (x.os.z i).ls.n = (t.os.z i).ls.n := (a.os.2 i hi).2.1
    have := f3 i (by omega)
    omega
  · obtain ⟨a1, a2, a3, a4, a5, a6, a7⟩ := h.2 hE
    exact ⟨by omega, by omega, fun i hi => absurd hi (by omega)⟩

end Go.Proofs.Ytjiodlbblmbibac
/- RecvEnters: the walk. -/
namespace Go.Proofs.Ytjiodlbblmbibac
open Go.RowKit Go.Shelf Go.Sort
set_option linter.unusedVariables false

set_option maxRecDepth 100000 in
set_option maxHeartbeats 8000000 in
theorem RecvEnters_walk (p : Pl) (s : St) (l : Hs) (w : World) (hp : p.At w) (hs : s.At w) (hl : l.At w) :
    Calls Try.prog 8 #[p.val, s.val, l.val] w fun e w' => e = .returned (.bool true) ∧ Below w.heap.size w w' := by
  obtain ⟨W0, hW, hWB, X0⟩ : ∃ W, ((w.alloc (.cells #[.slice p.ab p.nb p.cb, .slice p.sa p.ns p.cs] 25)).alloc (.cells s.cells 31)) = W ∧ Below w.heap.size w W ∧ Boxes W w.heap.size (w.heap.size + 1) p s := ⟨_, rfl, two_below _ _ _, boxes_new w p s _ _⟩
  have HC : Hid (∀ wk, Below W0.heap.size W0 wk → Boxes wk w.heap.size (w.heap.size + 1) p s ∧ p.At wk ∧ s.At wk ∧ Below w.heap.size w wk ∧ l.At wk) := fun wk h => ⟨X0.below h, (hp.below hWB).below h, (hs.below hWB).below h, hWB.trans (h.mono hWB.size), (hl.below hWB).below h⟩
  have HW : Hid ((w.alloc (.cells #[.slice p.ab p.nb p.cb, .slice p.sa p.ns p.cs] 25)).alloc (.cells #[.slice s.on.a s.on.n s.on.c, .slice s.os.a s.os.n s.os.c, .slice s.hs.a s.hs.n s.hs.c, .slice s.ms.a s.ms.n s.ms.c, .slice s.si.a s.si.n s.si.c, .slice s.so.a s.so.n s.so.c, .slice s.sf.a s.sf.n s.sf.c] 31) = W0) := hW
  clear hW X0 hp hs hl
  unfold Pl.val St.val Hs.val
  go_enter Try.func8, Try.ntmps8
  go_wp2_with fail
  rw [HW.out]
  obtain ⟨X, hpk, hsk, hBw, hlk⟩ := HC.out W0 (Below.refl _ _)
  refine (Enter_any p s l W0 hpk hsk hlk).mono ?_
  rintro e w1 ⟨x, rfl, xat, xok, hB⟩
  clear X hpk hsk hBw hlk HW
  obtain ⟨⟨⟨l1, d0, d1⟩, l2, c0, c1, c2, c3, c4, c5, c6⟩, hpk, hsk, hBw, hlk⟩ := HC.out w1 hB
  obtain ⟨W2, hW, hWB2, K1⟩ : ∃ W, w1.alloc (.cells #[.slice x.on.a x.on.n x.on.c, .slice x.os.a x.os.n x.os.c, .slice x.hs.a x.hs.n x.hs.c, .slice x.ms.a x.ms.n x.ms.c, .slice x.si.a x.si.n x.si.c, .slice x.so.a x.so.n x.so.c, .slice x.sf.a x.sf.n x.sf.c] 31) = W ∧ Below w1.heap.size w1 W ∧ Blk W w1.heap.size 31 7 (fun j => x.cells.getD j default) := ⟨_, rfl, (Below.refl _ _).alloc (Nat.le_refl _) _, Blk.mk' rfl rfl⟩
  have HW : Hid (w1.alloc (.cells #[.slice x.on.a x.on.n x.on.c, .slice x.os.a x.os.n x.os.c, .slice x.hs.a x.hs.n x.hs.c, .slice x.ms.a x.ms.n x.ms.c, .slice x.si.a x.si.n x.si.c, .slice x.so.a x.so.n x.so.c, .slice x.sf.a x.sf.n x.sf.c] 31) = W2) := hW
  have HSM : Hid (∀ y, ActOK (enterE p s l) (enterT s l) y → SameT x y) := fun y h => ActOK.same xok h
  have HBD : Hid (x.os.n ≤ 1000 ∧ x.ms.n ≤ 1000 ∧ ∀ i, i < x.os.n → (x.os.z i).ls.n ≤ 1000) := ActOK.bound (p := p) (s := s) xok (fun h => enter_bound h)
  have xat := xat.below hWB2
  have hB2 := hB.trans (hWB2.mono hB.size)
  simp only [St.val]
  clear hW hlk
  go_wp2_with fail
  rw [HW.out]
  clear l1 d0 d1 l2 c0 c1 c2 c3 c4 c5 c6 hpk hsk hBw HW hWB2 hB xok
  generalize w1.heap.size = B1 at *
  obtain ⟨X, hpk, hsk, hBw, hlk⟩ := HC.out W2 hB2
  refine (EnterOf_any p s l W2 hpk hsk hlk).mono ?_
  rintro e w3 ⟨y, rfl, yat, yok, hB3⟩
  have xat := xat.below hB3
  have K1 := K1.below hB3
  have hB3 := hB2.trans (hB3.mono hB2.size)
  clear X hpk hsk hBw hlk hB2
  obtain ⟨W4, hW, hWB4, K2⟩ : ∃ W, w3.alloc (.cells #[.slice y.on.a y.on.n y.on.c, .slice y.os.a y.os.n y.os.c, .slice y.hs.a y.hs.n y.hs.c, .slice y.ms.a y.ms.n y.ms.c, .slice y.si.a y.si.n y.si.c, .slice y.so.a y.so.n y.so.c, .slice y.sf.a y.sf.n y.sf.c] 31) = W ∧ Below w3.heap.size w3 W ∧ Blk W w3.heap.size 31 7 (fun j => y.cells.getD j default) := ⟨_, rfl, (Below.refl _ _).alloc (Nat.le_refl _) _, Blk.mk' rfl rfl⟩
  have HW : Hid (w3.alloc (.cells #[.slice y.on.a y.on.n y.on.c, .slice y.os.a y.os.n y.os.c, .slice y.hs.a y.hs.n y.hs.c, .slice y.ms.a y.ms.n y.ms.c, .slice y.si.a y.si.n y.si.c, .slice y.so.a y.so.n y.so.c, .slice y.sf.a y.sf.n y.sf.c] 31) = W4) := hW
  have HS : Hid (SameT x y) := HSM.out y yok
  have xat := xat.below hWB4
  have yat := yat.below hWB4
  have K1 := K1.below hWB4
  have hB4 := hB3.trans (hWB4.mono hB3.size)
  simp only [St.val]
  clear hW
  go_wp2_with fail
  rw [HW.out]
  clear HW hWB4 hB3 yok
  generalize w3.heap.size = B2 at *
  refine (recvBegun_any W4).mono ?_
  rintro e w5 ⟨rfl, hB5⟩
  have xat := xat.below hB5
  have yat := yat.below hB5
  have K1 := K1.below hB5
  have K2 := K2.below hB5
  have hB5 := hB4.trans (hB5.mono hB4.size)
  clear hB4
  obtain ⟨m1, p0, p1, p2, p3, p4, p5, p6⟩ := Boxed.of K1
  obtain ⟨m2, t0, t1, t2, t3, t4, t5, t6⟩ := Boxed.of K2
  clear K1 K2
  have HXY : Hid (x.At w5 ∧ y.At w5) := ⟨xat, yat⟩
  clear xat yat
  go_wp2_with fail
  refine (SameStates_yes x y w5 HXY.out.1 HXY.out.2 HS.out HBD.out.1 HBD.out.2.1 HBD.out.2.2).mono ?_
  rintro e w6 ⟨rfl, hB6⟩
  have hB6 := hB5.trans (hB6.mono hB5.size)
  clear m1 p0 p1 p2 p3 p4 p5 p6 m2 t0 t1 t2 t3 t4 t5 t6
  go_wp2_with fail
  go_ret
  exact ⟨by simp, (HC.out w6 hB6).2.2.2.1⟩

end Go.Proofs.Ytjiodlbblmbibac

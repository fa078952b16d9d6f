/- stateBegun. -/
import Derived.Test.YtjiodlbblmbibacSW11J
import Derived.Test.YtjiodlbblmbibacRJ
namespace Go.Proofs.Ytjiodlbblmbibac
open Go.RowKit Go.Shelf Go.Sort
set_option linter.unusedVariables false

theorem begunBegin {w : World} {g1 g2 : Nat} (hp : (yardP g1 g2).At w) :
    Calls Try.prog 9 #[(yardP g1 g2).val] w fun e w' => ∃ s : St, e = .returned (.tuple #[s.val, .int .i64 0]) ∧ s.At w' ∧ BegunS (yardP 0 0) s ∧ Below w.heap.size w w' := by
  refine (Begin_any _ w hp).mono ?_
  rintro e w' ⟨s, rfl, hs, hok, hB⟩
  exact ⟨s, rfl, hs, hok.1 rfl, hB⟩
theorem begunAvail {w : World} {g1 g2 g : Nat} (hp : (yardP g1 g2).At w) (hs : BusyB w g 2 0) :
    Calls Try.prog 12 #[(yardP g1 g2).val, (busyS g 2 0).val, .int .i64 0, .int .i64 0] w fun e w' => e = .returned (.tuple #[.int .i64 2, .int .i64 0]) ∧ Below w.heap.size w w' := by
  have := Avail_any _ _ 0 0 w hp (busyAt hs)
  rwa [(busyV g1 g2 g).1, (busyV g1 g2 g).2.1] at this
theorem begunFree {w : World} {g1 g2 g : Nat} (hp : (yardP g1 g2).At w) (hs : BusyB w g 2 0) :
    Calls Try.prog 13 #[(yardP g1 g2).val, (busyS g 2 0).val, .int .i64 1] w fun e w' => e = .returned (.tuple #[.int .i64 14, .int .i64 0]) ∧ Below w.heap.size w w' := by
  have := Free_any _ _ 1 w hp (busyAt hs)
  rwa [(busyV g1 g2 g).2.2.1, (busyV g1 g2 g).2.2.2] at this
theorem begunChk {w : World} {g1 g2 : Nat} {s : St} (hp : (yardP g1 g2).At w) (hs : s.At w) (e : Int) (he : stateE (yardP g1 g2) s = e) :
    Calls Try.prog 14 #[(yardP g1 g2).val, s.val] w fun e' w' => e' = .returned (.int .i64 e) ∧ Below w.heap.size w w' := by
  have := stateCheck_any _ _ w hp hs
  rwa [he] at this
theorem begunOK {g1 g2 : Nat} {s : St} (h : BegunS (yardP 0 0) s) : stateE (yardP g1 g2) s = 0 := begun_state (p := yardP g1 g2) rfl h
theorem BusyB.set5 {w : World} {g : Nat} (h : BusyB w g 2 0) : BusyB (w.setCell ⟨g + 7, 3, none⟩ (.int .i64 5)) g 5 0 :=
  ⟨h.b0.other (by simp) _, h.b1.other (by simp) _, h.b2.other (by simp) _, h.b3.other (by simp) _, h.b4.other (by simp) _, h.b5.other (by simp) _, h.b6.other (by simp) _, (h.b7.set 3 _).congr (fun j hj => by match j, hj with | 0, _ => rfl | 1, _ => rfl | 2, _ => rfl | 3, _ => rfl | 4, _ => rfl | 5, _ => rfl | 6, _ => rfl | 7, _ => rfl | 8, _ => rfl | 9, _ => rfl | 10, _ => rfl | 11, _ => rfl), h.b8.other (by simp) _, h.b9.other (by simp) _, h.b10.other (by simp) _, h.b11.other (by simp) _⟩
theorem BusyB.set3 {w : World} {g : Nat} (h : BusyB w g 2 0) : BusyB (w.setCell ⟨g + 6, 2, none⟩ (.int .i64 3)) g 2 3 :=
  ⟨h.b0.other (by simp) _, h.b1.other (by simp) _, h.b2.other (by simp) _, h.b3.other (by simp) _, h.b4.other (by simp) _, h.b5.other (by simp) _, (h.b6.set 2 _).congr (fun j hj => by match j, hj with | 0, _ => rfl | 1, _ => rfl | 2, _ => rfl | 3, _ => rfl), h.b7.other (by simp) _, h.b8.other (by simp) _, h.b9.other (by simp) _, h.b10.other (by simp) _, h.b11.other (by simp) _⟩

set_option maxRecDepth 100000 in
set_option maxHeartbeats 8000000 in
theorem stateBegun_any (w : World) :
    Calls Try.prog 10 #[] w fun e w' => e = .returned (.bool true) ∧ Below w.heap.size w w' := by
  go_enter Try.func10, Try.ntmps10
  go_wp2_with fail
  refine (yard_any _).mono ?_
  rintro e w1 ⟨g1, g2, rfl, -, -, k1, k2, hA⟩
  go_wp2_with fail
  refine (begunBegin (yardAt k1 k2)).mono ?_
  rintro e w2 ⟨s, rfl, sat, sbe, hB⟩
  have hC := hA.trans (hB.mono hA.size)
  clear hA hB k1 k2
  simp only [St.val]
  go_wp2_with fail
  obtain ⟨W, hW, hWB, K1⟩ : ∃ W, w2.alloc (.cells #[.slice s.on.a s.on.n s.on.c, .slice s.os.a s.os.n s.os.c, .slice s.hs.a s.hs.n s.hs.c, .slice s.ms.a s.ms.n s.ms.c, .slice s.si.a s.si.n s.si.c, .slice s.so.a s.so.n s.so.c, .slice s.sf.a s.sf.n s.sf.c] 31) = W ∧ Below w2.heap.size w2 W ∧ Blk W w2.heap.size 31 7 (fun j => (#[.slice s.on.a s.on.n s.on.c, .slice s.os.a s.os.n s.os.c, .slice s.hs.a s.hs.n s.hs.c, .slice s.ms.a s.ms.n s.ms.c, .slice s.si.a s.si.n s.si.c, .slice s.so.a s.so.n s.so.c, .slice s.sf.a s.sf.n s.sf.c] : Array Value).getD j default) := ⟨_, rfl, (Below.refl _ _).alloc (Nat.le_refl _) _, Blk.mk' rfl rfl⟩
  rw [hW]
  have sat := sat.below hWB
  have hC := hC.trans (hWB.mono hC.size)
  clear hW hWB
  generalize w2.heap.size = B1 at *
  refine (yard_any _).mono ?_
  rintro e w3 ⟨g1, g2, rfl, -, -, k1, k2, hA⟩
  go_wp2_with fail
  refine (busy_any _).mono ?_
  rintro e w4 ⟨g, rfl, -, bb, hB⟩
  have k1 := k1.below hB
  have k2 := k2.below hB
  have hD := hA.trans (hB.mono hA.size)
  clear hA hB
  simp only [busyS, St.val]
  go_wp2_with fail
  refine (begunAvail (yardAt k1 k2) bb).mono ?_
  rintro e w5 ⟨rfl, hB⟩
  have hD := hD.trans (hB.mono hD.size)
  have hC := hC.trans (hD.mono hC.size)
  have sat := sat.below hD
  have K1 := K1.below hD
  clear hD hB k1 k2 bb
  go_wp2_with fail
  refine (yard_any _).mono ?_
  rintro e w6 ⟨g1, g2, rfl, -, -, k1, k2, hA⟩
  go_wp2_with fail
  refine (busy_any _).mono ?_
  rintro e w7 ⟨g, rfl, -, bb, hB⟩
  have k1 := k1.below hB
  have k2 := k2.below hB
  have hD := hA.trans (hB.mono hA.size)
  clear hA hB
  simp only [busyS, St.val]
  go_wp2_with fail
  refine (begunFree (yardAt k1 k2) bb).mono ?_
  rintro e w8 ⟨rfl, hB⟩
  have hD := hD.trans (hB.mono hD.size)
  have hC := hC.trans (hD.mono hC.size)
  have sat := sat.below hD
  have K1 := K1.below hD
  clear hD hB k1 k2 bb
  go_wp2_with fail
  refine (busy_any _).mono ?_
  rintro e w9 ⟨ga, rfl, hgt, bb, hB⟩
  have hf := bb.b7.frozen 3
  have hc := bb.b7.cell (j := 3) (by decide)
  have hl := bb.b7.lt
  simp only [busyS, St.val]
  go_wp2_with fail
  obtain ⟨W2, hW, hWB, K2, bx⟩ : ∃ W, (w9.setCell ⟨ga + 7, 3, none⟩ (.int .i64 5)).alloc (.cells #[.slice (some ⟨ga + 3, 0, none⟩) 3 3, .slice (some ⟨ga + 6, 0, none⟩) 2 2, .slice (some ⟨ga + 7, 0, none⟩) 3 3, .slice (some ⟨ga + 8, 0, none⟩) 1 1, .slice (some ⟨ga + 9, 0, none⟩) 2 2, .slice (some ⟨ga + 10, 0, none⟩) 2 2, .slice (some ⟨ga + 11, 0, none⟩) 2 2] 31) = W ∧ Below w8.heap.size w8 W ∧ Blk W w9.heap.size 31 7 (fun j => (#[.slice (some ⟨ga + 3, 0, none⟩) 3 3, .slice (some ⟨ga + 6, 0, none⟩) 2 2, .slice (some ⟨ga + 7, 0, none⟩) 3 3, .slice (some ⟨ga + 8, 0, none⟩) 1 1, .slice (some ⟨ga + 9, 0, none⟩) 2 2, .slice (some ⟨ga + 10, 0, none⟩) 2 2, .slice (some ⟨ga + 11, 0, none⟩) 2 2] : Array Value).getD j default) ∧ BusyB W ga 5 0 := ⟨_, rfl, (hB.setCell (p := ⟨ga + 7, 3, none⟩) (by show w8.heap.size ≤ ga + 7; omega) _).alloc (by simpa using hB.size) _, Blk.mk' (by simp) rfl, (bb.set5).below ((Below.refl _ _).alloc (Nat.le_refl _) _)⟩
  rw [hW]
  generalize w9.heap.size = B2 at *
  have hC := hC.trans (hWB.mono hC.size)
  have sat := sat.below hWB
  have K1 := K1.below hWB
  clear hW hWB hB hgt bb hf hc hl
  clear w9
  refine (busy_any _).mono ?_
  rintro e w10 ⟨gb, rfl, hgt, bb, hB⟩
  have hf := bb.b6.frozen 2
  have hc := bb.b6.cell (j := 2) (by decide)
  have hl := bb.b6.lt
  simp only [busyS, St.val]
  go_wp2_with fail
  obtain ⟨WZ, hW, hWB, K3, by_⟩ : ∃ W, (w10.setCell ⟨gb + 6, 2, none⟩ (.int .i64 3)).alloc (.cells #[.slice (some ⟨gb + 3, 0, none⟩) 3 3, .slice (some ⟨gb + 6, 0, none⟩) 2 2, .slice (some ⟨gb + 7, 0, none⟩) 3 3, .slice (some ⟨gb + 8, 0, none⟩) 1 1, .slice (some ⟨gb + 9, 0, none⟩) 2 2, .slice (some ⟨gb + 10, 0, none⟩) 2 2, .slice (some ⟨gb + 11, 0, none⟩) 2 2] 31) = W ∧ Below W2.heap.size W2 W ∧ Blk W w10.heap.size 31 7 (fun j => (#[.slice (some ⟨gb + 3, 0, none⟩) 3 3, .slice (some ⟨gb + 6, 0, none⟩) 2 2, .slice (some ⟨gb + 7, 0, none⟩) 3 3, .slice (some ⟨gb + 8, 0, none⟩) 1 1, .slice (some ⟨gb + 9, 0, none⟩) 2 2, .slice (some ⟨gb + 10, 0, none⟩) 2 2, .slice (some ⟨gb + 11, 0, none⟩) 2 2] : Array Value).getD j default) ∧ BusyB W gb 2 3 := ⟨_, rfl, (hB.setCell (p := ⟨gb + 6, 2, none⟩) (by show W2.heap.size ≤ gb + 6; omega) _).alloc (by simpa using hB.size) _, Blk.mk' (by simp) rfl, (bb.set3).below ((Below.refl _ _).alloc (Nat.le_refl _) _)⟩
  rw [hW]
  generalize w10.heap.size = B3 at *
  have hC := hC.trans (hWB.mono hC.size)
  have sat := sat.below hWB
  have K1 := K1.below hWB
  have K2 := K2.below hWB
  have bx := bx.below hWB
  clear hW hWB hB hgt bb hf hc hl
  clear w10
  have p0 : ∀ d os, (grow (redrawn WZ d) os).cell? ⟨B1, 0, none⟩ = some (.slice s.on.a s.on.n s.on.c) := fun d os => cell_regrown (K1.cell (j := 0) (by simp)) d os
  have p1 : ∀ d os, (grow (redrawn WZ d) os).cell? ⟨B1, 1, none⟩ = some (.slice s.os.a s.os.n s.os.c) := fun d os => cell_regrown (K1.cell (j := 1) (by simp)) d os
  have p2 : ∀ d os, (grow (redrawn WZ d) os).cell? ⟨B1, 2, none⟩ = some (.slice s.hs.a s.hs.n s.hs.c) := fun d os => cell_regrown (K1.cell (j := 2) (by simp)) d os
  have p3 : ∀ d os, (grow (redrawn WZ d) os).cell? ⟨B1, 3, none⟩ = some (.slice s.ms.a s.ms.n s.ms.c) := fun d os => cell_regrown (K1.cell (j := 3) (by simp)) d os
  have p4 : ∀ d os, (grow (redrawn WZ d) os).cell? ⟨B1, 4, none⟩ = some (.slice s.si.a s.si.n s.si.c) := fun d os => cell_regrown (K1.cell (j := 4) (by simp)) d os
  have p5 : ∀ d os, (grow (redrawn WZ d) os).cell? ⟨B1, 5, none⟩ = some (.slice s.so.a s.so.n s.so.c) := fun d os => cell_regrown (K1.cell (j := 5) (by simp)) d os
  have p6 : ∀ d os, (grow (redrawn WZ d) os).cell? ⟨B1, 6, none⟩ = some (.slice s.sf.a s.sf.n s.sf.c) := fun d os => cell_regrown (K1.cell (j := 6) (by simp)) d os
  have q0 : ∀ d os, (grow (redrawn WZ d) os).cell? ⟨B2, 0, none⟩ = some (.slice (some ⟨ga + 3, 0, none⟩) 3 3) := fun d os => cell_regrown (K2.cell (j := 0) (by simp)) d os
  have q1 : ∀ d os, (grow (redrawn WZ d) os).cell? ⟨B2, 1, none⟩ = some (.slice (some ⟨ga + 6, 0, none⟩) 2 2) := fun d os => cell_regrown (K2.cell (j := 1) (by simp)) d os
  have q2 : ∀ d os, (grow (redrawn WZ d) os).cell? ⟨B2, 2, none⟩ = some (.slice (some ⟨ga + 7, 0, none⟩) 3 3) := fun d os => cell_regrown (K2.cell (j := 2) (by simp)) d os
  have q3 : ∀ d os, (grow (redrawn WZ d) os).cell? ⟨B2, 3, none⟩ = some (.slice (some ⟨ga + 8, 0, none⟩) 1 1) := fun d os => cell_regrown (K2.cell (j := 3) (by simp)) d os
  have q4 : ∀ d os, (grow (redrawn WZ d) os).cell? ⟨B2, 4, none⟩ = some (.slice (some ⟨ga + 9, 0, none⟩) 2 2) := fun d os => cell_regrown (K2.cell (j := 4) (by simp)) d os
  have q5 : ∀ d os, (grow (redrawn WZ d) os).cell? ⟨B2, 5, none⟩ = some (.slice (some ⟨ga + 10, 0, none⟩) 2 2) := fun d os => cell_regrown (K2.cell (j := 5) (by simp)) d os
  have q6 : ∀ d os, (grow (redrawn WZ d) os).cell? ⟨B2, 6, none⟩ = some (.slice (some ⟨ga + 11, 0, none⟩) 2 2) := fun d os => cell_regrown (K2.cell (j := 6) (by simp)) d os
  have r0 : ∀ d os, (grow (redrawn WZ d) os).cell? ⟨B3, 0, none⟩ = some (.slice (some ⟨gb + 3, 0, none⟩) 3 3) := fun d os => cell_regrown (K3.cell (j := 0) (by simp)) d os
  have r1 : ∀ d os, (grow (redrawn WZ d) os).cell? ⟨B3, 1, none⟩ = some (.slice (some ⟨gb + 6, 0, none⟩) 2 2) := fun d os => cell_regrown (K3.cell (j := 1) (by simp)) d os
  have r2 : ∀ d os, (grow (redrawn WZ d) os).cell? ⟨B3, 2, none⟩ = some (.slice (some ⟨gb + 7, 0, none⟩) 3 3) := fun d os => cell_regrown (K3.cell (j := 2) (by simp)) d os
  have r3 : ∀ d os, (grow (redrawn WZ d) os).cell? ⟨B3, 3, none⟩ = some (.slice (some ⟨gb + 8, 0, none⟩) 1 1) := fun d os => cell_regrown (K3.cell (j := 3) (by simp)) d os
  have r4 : ∀ d os, (grow (redrawn WZ d) os).cell? ⟨B3, 4, none⟩ = some (.slice (some ⟨gb + 9, 0, none⟩) 2 2) := fun d os => cell_regrown (K3.cell (j := 4) (by simp)) d os
  have r5 : ∀ d os, (grow (redrawn WZ d) os).cell? ⟨B3, 5, none⟩ = some (.slice (some ⟨gb + 10, 0, none⟩) 2 2) := fun d os => cell_regrown (K3.cell (j := 5) (by simp)) d os
  have r6 : ∀ d os, (grow (redrawn WZ d) os).cell? ⟨B3, 6, none⟩ = some (.slice (some ⟨gb + 11, 0, none⟩) 2 2) := fun d os => cell_regrown (K3.cell (j := 6) (by simp)) d os
  have hX : Below WZ.heap.size WZ WZ.drew := (Below.refl _ _).drew
  clear K1 K2 K3
  refine wp_region_ordS (fun w' => ∃ p : Regrown, w' = grow (redrawn WZ p.d) p.os) ((List.range' 0 5).map (fun i => (false, i)) ++ [(true, 6), (false, 5)] ++ (List.range' 7 4).map (fun i => (false, i)) ++ [(true, 12), (false, 11)] ++ (List.range' 13 4).map (fun i => (false, i)) ++ [(true, 18), (false, 17)] ++ (List.range' 19 24).map (fun i => (false, i))) (by kernel_rfl) (by kernel_rfl) (by kernel_rfl) (by kernel_rfl) (regrown_of_below hX) ?_
  refine wpOrdS_one 0 (by decide) ?_
  simp only [List.drop_zero, List.take_succ_cons, List.take_zero]
  go_wp2_with fail
  refine (yard_any _).mono ?_
  rintro e wy ⟨g1, g2, rfl, -, -, k1, k2, hB⟩
  have hX := hX.trans (hB.mono hX.size)
  clear hB
  go_wp2_with fail
  refine ⟨regrown_of_below hX, ?_⟩
  refine wpOrdS_one 1 (by decide) ?_
  simp only [List.drop_succ_cons, List.drop_zero, List.take_succ_cons, List.take_zero]
  go_wp2_with fail
  refine (busy_any _).mono ?_
  rintro e wb ⟨gz, rfl, -, bz, hB⟩
  have k1 := k1.below hB
  have k2 := k2.below hB
  have hX := hX.trans (hB.mono hX.size)
  clear hB
  simp only [busyS, St.val]
  go_wp2_with fail
  refine ⟨regrown_of_below hX, ?_⟩
  refine wpOrdS_one 2 (by decide) ?_
  simp only [List.drop_succ_cons, List.drop_zero, List.take_succ_cons, List.take_zero]
  go_wp2_with fail
  refine (begunChk (s := busyS gz 2 0) (yardAt k1 k2) (busyAt bz) 0 ((busyE _ _ _).1)).mono ?_
  rintro e wc ⟨rfl, hB⟩
  have hX := hX.trans (hB.mono hX.size)
  clear hB k1 k2
  go_wp2_with fail
  refine ⟨regrown_of_below hX, ?_⟩
  refine wpOrdS_one 3 (by decide) ?_
  simp only [List.drop_succ_cons, List.drop_zero, List.take_succ_cons, List.take_zero]
  go_wp2_with fail
  refine ⟨regrown_of_below hX, ?_⟩
  refine wpOrdS_one 4 (by decide) ?_
  simp only [List.drop_succ_cons, List.drop_zero, List.take_succ_cons, List.take_zero]
  go_wp2_with fail
  refine ⟨regrown_of_below hX, ?_⟩
  refine wpOrdS_first 6 rfl rfl ?_
  go_big_quiet_step (fail)
  refine wpQuiet_nil ?_
  refine wpOrdS_one 5 (by decide) ?_
  simp only [List.drop_succ_cons, List.drop_zero, List.take_succ_cons, List.take_zero]
  go_wp2_with fail
  refine (yard_any _).mono ?_
  rintro e wy ⟨g1, g2, rfl, -, -, k1, k2, hB⟩
  have hX := hX.trans (hB.mono hX.size)
  clear hB
  go_wp2_with fail
  refine ⟨regrown_of_below hX, ?_⟩
  refine wpOrdS_one 7 (by decide) ?_
  simp only [List.drop_succ_cons, List.drop_zero, List.take_succ_cons, List.take_zero]
  go_wp2_with fail
  refine (begunChk (s := s) (yardAt k1 k2) (sat.below hX) 0 (begunOK sbe)).mono ?_
  rintro e wc ⟨rfl, hB⟩
  have hX := hX.trans (hB.mono hX.size)
  clear hB k1 k2
  go_wp2_with fail
  refine ⟨regrown_of_below hX, ?_⟩
  refine wpOrdS_one 8 (by decide) ?_
  simp only [List.drop_succ_cons, List.drop_zero, List.take_succ_cons, List.take_zero]
  go_wp2_with fail
  refine ⟨regrown_of_below hX, ?_⟩
  refine wpOrdS_one 9 (by decide) ?_
  simp only [List.drop_succ_cons, List.drop_zero, List.take_succ_cons, List.take_zero]
  go_wp2_with fail
  refine ⟨regrown_of_below hX, ?_⟩
  refine wpOrdS_one 10 (by decide) ?_
  simp only [List.drop_succ_cons, List.drop_zero, List.take_succ_cons, List.take_zero]
  go_wp2_with fail
  refine ⟨regrown_of_below hX, ?_⟩
  refine wpOrdS_first 12 rfl rfl ?_
  go_big_quiet_step (fail)
  refine wpQuiet_nil ?_
  refine wpOrdS_one 11 (by decide) ?_
  simp only [List.drop_succ_cons, List.drop_zero, List.take_succ_cons, List.take_zero]
  go_wp2_with fail
  refine (yard_any _).mono ?_
  rintro e wy ⟨g1, g2, rfl, -, -, k1, k2, hB⟩
  have hX := hX.trans (hB.mono hX.size)
  clear hB
  go_wp2_with fail
  refine ⟨regrown_of_below hX, ?_⟩
  refine wpOrdS_one 13 (by decide) ?_
  simp only [List.drop_succ_cons, List.drop_zero, List.take_succ_cons, List.take_zero]
  go_wp2_with fail
  refine (begunChk (s := busyS ga 5 0) (yardAt k1 k2) (busyAt (bx.below hX)) 7 ((busyE _ _ _).2.1)).mono ?_
  rintro e wc ⟨rfl, hB⟩
  have hX := hX.trans (hB.mono hX.size)
  clear hB k1 k2
  go_wp2_with fail
  refine ⟨regrown_of_below hX, ?_⟩
  refine wpOrdS_one 14 (by decide) ?_
  simp only [List.drop_succ_cons, List.drop_zero, List.take_succ_cons, List.take_zero]
  go_wp2_with fail
  refine ⟨regrown_of_below hX, ?_⟩
  refine wpOrdS_one 15 (by decide) ?_
  simp only [List.drop_succ_cons, List.drop_zero, List.take_succ_cons, List.take_zero]
  go_wp2_with fail
  refine ⟨regrown_of_below hX, ?_⟩
  refine wpOrdS_one 16 (by decide) ?_
  simp only [List.drop_succ_cons, List.drop_zero, List.take_succ_cons, List.take_zero]
  go_wp2_with fail
  refine ⟨regrown_of_below hX, ?_⟩
  refine wpOrdS_first 18 rfl rfl ?_
  go_big_quiet_step (fail)
  refine wpQuiet_nil ?_
  refine wpOrdS_one 17 (by decide) ?_
  simp only [List.drop_succ_cons, List.drop_zero, List.take_succ_cons, List.take_zero]
  go_wp2_with fail
  refine (yard_any _).mono ?_
  rintro e wy ⟨g1, g2, rfl, -, -, k1, k2, hB⟩
  have hX := hX.trans (hB.mono hX.size)
  clear hB
  go_wp2_with fail
  refine ⟨regrown_of_below hX, ?_⟩
  refine wpOrdS_one 19 (by decide) ?_
  simp only [List.drop_succ_cons, List.drop_zero, List.take_succ_cons, List.take_zero]
  go_wp2_with fail
  refine (begunChk (s := busyS gb 2 3) (yardAt k1 k2) (busyAt (by_.below hX)) 1 ((busyE _ _ _).2.2)).mono ?_
  rintro e wc ⟨rfl, hB⟩
  have hX := hX.trans (hB.mono hX.size)
  clear hB k1 k2
  go_wp2_with fail
  refine ⟨regrown_of_below hX, ?_⟩
  refine wpOrdS_one 20 (by decide) ?_
  simp only [List.drop_succ_cons, List.drop_zero, List.take_succ_cons, List.take_zero]
  go_wp2_with fail
  refine ⟨regrown_of_below hX, ?_⟩
  refine wpOrdS_one 21 (by decide) ?_
  simp only [List.drop_succ_cons, List.drop_zero, List.take_succ_cons, List.take_zero]
  go_wp2_with fail
  refine ⟨regrown_of_below hX, ?_⟩
  refine wpOrdS_one 22 (by decide) ?_
  simp only [List.drop_succ_cons, List.drop_zero, List.take_succ_cons, List.take_zero]
  go_wp2_with fail
  refine ⟨regrown_of_below hX, ?_⟩
  refine wpOrdS_one 23 (by decide) ?_
  simp only [List.drop_succ_cons, List.drop_zero, List.take_succ_cons, List.take_zero]
  go_wp2_with fail
  refine ⟨regrown_of_below hX, ?_⟩
  refine wpOrdS_one 24 (by decide) ?_
  simp only [List.drop_succ_cons, List.drop_zero, List.take_succ_cons, List.take_zero]
  go_wp2_with fail
  refine ⟨regrown_of_below hX, ?_⟩
  refine wpOrdS_one 25 (by decide) ?_
  simp only [List.drop_succ_cons, List.drop_zero, List.take_succ_cons, List.take_zero]
  go_wp2_with fail
  refine ⟨regrown_of_below hX, ?_⟩
  refine wpOrdS_one 26 (by decide) ?_
  simp only [List.drop_succ_cons, List.drop_zero, List.take_succ_cons, List.take_zero]
  go_wp2_with fail
  refine ⟨regrown_of_below hX, ?_⟩
  refine wpOrdS_one 27 (by decide) ?_
  simp only [List.drop_succ_cons, List.drop_zero, List.take_succ_cons, List.take_zero]
  go_wp2_with fail
  refine ⟨regrown_of_below hX, ?_⟩
  refine wpOrdS_one 28 (by decide) ?_
  simp only [List.drop_succ_cons, List.drop_zero, List.take_succ_cons, List.take_zero]
  go_wp2_with fail
  refine ⟨regrown_of_below hX, ?_⟩
  refine wpOrdS_one 29 (by decide) ?_
  simp only [List.drop_succ_cons, List.drop_zero, List.take_succ_cons, List.take_zero]
  go_wp2_with fail
  refine ⟨regrown_of_below hX, ?_⟩
  refine wpOrdS_one 30 (by decide) ?_
  simp only [List.drop_succ_cons, List.drop_zero, List.take_succ_cons, List.take_zero]
  go_wp2_with fail
  refine ⟨regrown_of_below hX, ?_⟩
  refine wpOrdS_one 31 (by decide) ?_
  simp only [List.drop_succ_cons, List.drop_zero, List.take_succ_cons, List.take_zero]
  go_wp2_with fail
  refine ⟨regrown_of_below hX, ?_⟩
  refine wpOrdS_one 32 (by decide) ?_
  simp only [List.drop_succ_cons, List.drop_zero, List.take_succ_cons, List.take_zero]
  go_wp2_with fail
  refine ⟨regrown_of_below hX, ?_⟩
  refine wpOrdS_one 33 (by decide) ?_
  simp only [List.drop_succ_cons, List.drop_zero, List.take_succ_cons, List.take_zero]
  go_wp2_with fail
  refine ⟨regrown_of_below hX, ?_⟩
  refine wpOrdS_one 34 (by decide) ?_
  simp only [List.drop_succ_cons, List.drop_zero, List.take_succ_cons, List.take_zero]
  go_wp2_with fail
  refine ⟨regrown_of_below hX, ?_⟩
  refine wpOrdS_one 35 (by decide) ?_
  simp only [List.drop_succ_cons, List.drop_zero, List.take_succ_cons, List.take_zero]
  go_wp2_with fail
  refine ⟨regrown_of_below hX, ?_⟩
  refine wpOrdS_one 36 (by decide) ?_
  simp only [List.drop_succ_cons, List.drop_zero, List.take_succ_cons, List.take_zero]
  go_wp2_with fail
  refine ⟨regrown_of_below hX, ?_⟩
  refine wpOrdS_one 37 (by decide) ?_
  simp only [List.drop_succ_cons, List.drop_zero, List.take_succ_cons, List.take_zero]
  go_wp2_with fail
  refine ⟨regrown_of_below hX, ?_⟩
  refine wpOrdS_one 38 (by decide) ?_
  simp only [List.drop_succ_cons, List.drop_zero, List.take_succ_cons, List.take_zero]
  go_wp2_with fail
  refine ⟨regrown_of_below hX, ?_⟩
  refine wpOrdS_one 39 (by decide) ?_
  simp only [List.drop_succ_cons, List.drop_zero, List.take_succ_cons, List.take_zero]
  go_wp2_with fail
  refine ⟨regrown_of_below hX, ?_⟩
  refine wpOrdS_one 40 (by decide) ?_
  simp only [List.drop_succ_cons, List.drop_zero, List.take_succ_cons, List.take_zero]
  go_wp2_with fail
  refine ⟨regrown_of_below hX, ?_⟩
  refine wpOrdS_one 41 (by decide) ?_
  simp only [List.drop_succ_cons, List.drop_zero, List.take_succ_cons, List.take_zero]
  go_wp2_with fail
  refine ⟨regrown_of_below hX, ?_⟩
  refine wpOrdS_one 42 (by decide) ?_
  simp only [List.drop_succ_cons, List.drop_zero, List.take_succ_cons, List.take_zero]
  go_wp2_with fail
  refine ⟨regrown_of_below hX, ?_⟩
  refine NoPanic.normal ?_
  go_wp2_with fail
  go_ret
  exact ⟨rfl, hC.trans (hX.mono hC.size)⟩

end Go.Proofs.Ytjiodlbblmbibac

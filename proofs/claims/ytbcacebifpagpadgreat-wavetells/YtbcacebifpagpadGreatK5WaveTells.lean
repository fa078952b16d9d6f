/- Texts that were built one behind the other, joined; what WaveTells does not reach is left out. -/
import Derived.Test.YtbcacebifpagpadGreatK4WaveTells
import Derived.Test.YtbcacebifpagpadGreatRows
import Derived.ProofKit
import Derived.OpenShut
import Derived.Lib.SmallJoins
import Derived.Deep.Slices
namespace Go.Proofs.YtbcacebifpagpadGreat
open Go.RowKit Go.Shelf Go.Sort
set_option linter.unusedVariables false
theorem cancel_same2 {x s : St} (h : SameT x s) {o : Nat} (ho : o < x.os.n) {k : Hs} (hn : k.n = (dropH s.hs (fun x => x.o == (o : Int))).n) (hz : ∀ j, j < k.n → k.z j = (dropH s.hs (fun x => x.o == (o : Int))).z j) : SameT (lackS (kindS (withHolds x k) o 2) o (x.os.z o).ls.n) (cancelT s o) :=
  have c := cancel_same h ho
  ⟨c.on, c.os, ⟨hn, hz⟩, c.ms, c.si, c.so, c.sf⟩
theorem cancelE_zero {p : Pl} {s : St} {order : Int} (h : cancelE p s order = 0) : stateE p s = 0 ∧ (0 ≤ order ∧ order.toNat < s.os.n) ∧ ¬ (s.os.z order.toNat).k = 2 := by
  by_cases h0 : stateE p s = 0
  · cases h1 : inB order 0 ((s.os.n : Int) - 1)
    · rw [cancelE_none h0 h1] at h; exact absurd h (by decide)
    · by_cases h2 : (s.os.z order.toNat).k = 2
      · rw [cancelE_done h0 h1 h2] at h; exact absurd h (by decide)
      · have := inB_true h1
        exact ⟨h0, by omega, h2⟩
  · rw [cancelE_state h0] at h; exact absurd h h0
theorem cancelT_n (s : St) (o i : Nat) : ((cancelT s o).os.z i).ls.n = (s.os.z i).ls.n := by
  rw [cancelT_os]
  split <;> rfl
theorem cancelT_bound {p : Pl} {s : St} {order : Int} (h : cancelE p s order = 0) : (cancelT s order.toNat).os.n ≤ 1000 ∧ (cancelT s order.toNat).ms.n ≤ 1000 ∧ ∀ i, i < (cancelT s order.toNat).os.n → ((cancelT s order.toNat).os.z i).ls.n ≤ 1000 := by
  have b := (rightT (cancelE_zero h).1).bound
  exact ⟨b.1, b.2.1, fun i hi => by rw [cancelT_n]; exact b.2.2 i hi⟩
set_option maxRecDepth 100000 in
set_option maxHeartbeats 8000000 in
theorem CancelOf_any (p : Pl) (s : St) (order : Int) (w : World) (hp : p.At w) (hs : s.At w) :
    Calls Tryz.prog 8 #[p.val, s.val, .int .i64 order] w fun e w' => ∃ x : St, e = .returned (.tuple #[x.val, .int .i64 (cancelE p s order)]) ∧ x.At w' ∧ ActOK (cancelE p s order) (cancelT s order.toNat) x ∧ Below w.heap.size w w' := by
  obtain ⟨W0, hW, hWB, X0, Z0⟩ : ∃ W, (((w.alloc (.cells #[.slice p.ab p.nb p.cb, .slice p.sa p.ns p.cs] 25)).alloc (.cells s.cells 31)).alloc (.cells #[.slice .none 0 0, .slice .none 0 0, .slice .none 0 0, .slice .none 0 0, .slice .none 0 0, .slice .none 0 0, .slice .none 0 0] 31)) = W ∧ Below w.heap.size w W ∧ Boxes W w.heap.size (w.heap.size + 1) p s ∧ Blk W (w.heap.size + 2) 31 7 (fun _ => .slice .none 0 0) :=
    ⟨_, rfl, (two_below _ _ _).alloc (by simp; omega) _, (boxes_new w p s _ _).below ((Below.refl _ _).alloc (Nat.le_refl _) _), (Blk.mk' (cur := #[.slice .none 0 0, .slice .none 0 0, .slice .none 0 0, .slice .none 0 0, .slice .none 0 0, .slice .none 0 0, .slice .none 0 0]) (by simp) rfl).congr (fun j hj => by match j, hj with | 0, _ => rfl | 1, _ => rfl | 2, _ => rfl | 3, _ => rfl | 4, _ => rfl | 5, _ => rfl | 6, _ => rfl)⟩
  have HC : Hid (∀ wk, Below W0.heap.size W0 wk → Boxes wk w.heap.size (w.heap.size + 1) p s ∧ p.At wk ∧ s.At wk ∧ Below w.heap.size w wk ∧ Blk wk (w.heap.size + 2) 31 7 (fun _ => .slice .none 0 0)) := fun wk h => ⟨X0.below h, (hp.below hWB).below h, (hs.below hWB).below h, hWB.trans (h.mono hWB.size), Z0.below h⟩
  have HW : Hid (((w.alloc (.cells #[.slice p.ab p.nb p.cb, .slice p.sa p.ns p.cs] 25)).alloc (.cells #[.slice s.on.a s.on.n s.on.c, .slice s.os.a s.os.n s.os.c, .slice s.hs.a s.hs.n s.hs.c, .slice s.ms.a s.ms.n s.ms.c, .slice s.si.a s.si.n s.si.c, .slice s.so.a s.so.n s.so.c, .slice s.sf.a s.sf.n s.sf.c] 31)).alloc (.cells #[.slice .none 0 0, .slice .none 0 0, .slice .none 0 0, .slice .none 0 0, .slice .none 0 0, .slice .none 0 0, .slice .none 0 0] 31) = W0) := hW
  have leb := hp.leb
  have capb0 := hp.capb
  have les := hp.les
  have caps0 := hp.caps
  have capb := capb0
  have caps := caps0
  have zlt0 := Z0.lt
  unfold maxLen at capb caps
  have osl := hs.os.le
  have osc0 := hs.os.cap
  have osc := osc0
  unfold maxLen at osc
  clear hW X0 Z0 hp hs
  unfold Pl.val St.val
  go_enter Tryz.func8, Tryz.ntmps8
  go_wp2_with fail
  rw [HW.out]
  obtain ⟨X, hpk, hsk, hBw, hz⟩ := HC.out W0 (Below.refl _ _)
  refine (refCheckState_any p s W0 hpk hsk).mono ?_
  rintro e w1 ⟨rfl, hB⟩
  clear X hpk hsk hBw hz HW
  obtain ⟨⟨⟨l1, d0, d1⟩, l2, c0, c1, c2, c3, c4, c5, c6⟩, hpk, hsk, hBw, hz⟩ := HC.out w1 hB
  by_cases h0 : stateE p s = 0
  · have H0 : Hid (stateE p s = 0) := h0
    have HR : Hid (RightT p s) := rightT h0
    rw [h0]
    clear h0
    cases k1 : inB order 0 ((s.os.n : Int) - 1)
    · have HX : Hid (cancelE p s order = 4) := cancelE_none H0.out k1
      have HNE : Hid (¬ cancelE p s order = 0) := by show ¬ _; rw [HX.out]; decide
      clear hpk hsk
      have zl := hz.lt
      have zf0 := hz.frozen 0
      have zc0 := hz.cell (j := 0) (by decide)
      have zf1 := hz.frozen 1
      have zc1 := hz.cell (j := 1) (by decide)
      have zf2 := hz.frozen 2
      have zc2 := hz.cell (j := 2) (by decide)
      have zf3 := hz.frozen 3
      have zc3 := hz.cell (j := 3) (by decide)
      have zf4 := hz.frozen 4
      have zc4 := hz.cell (j := 4) (by decide)
      have zf5 := hz.frozen 5
      have zc5 := hz.cell (j := 5) (by decide)
      have zf6 := hz.frozen 6
      have zc6 := hz.cell (j := 6) (by decide)
      go_wp2_with (go_at_call 25; refine calls_to (within_any _ _ _ _) ?_)
      have KZ := set7_blk hz (.slice .none 0 0) (.slice .none 0 0) (.slice .none 0 0) (.slice .none 0 0) (.slice .none 0 0) (.slice .none 0 0) (.slice .none 0 0)
      have hbz := set7_below (b := w.heap.size + 2) hBw (by omega) (.slice .none 0 0) (.slice .none 0 0) (.slice .none 0 0) (.slice .none 0 0) (.slice .none 0 0) (.slice .none 0 0) (.slice .none 0 0)
      unfold set7 at KZ hbz
      obtain ⟨c0', c1', c2', c3', c4', c5', c6'⟩ := box_cells KZ
      refine bodyPost_ret (v := .tuple #[noneS.val, .int .i64 4]) (by simp [results, Tryz.results8, go_sem, noneS, St.val, c0', c1', c2', c3', c4', c5', c6']) rfl ?_
      exact ⟨noneS, by rw [HX.out]; rfl, noneS_at _, ⟨fun h => absurd h (HNE.out), fun _ => ⟨rfl, rfl, rfl, rfl, rfl, rfl, rfl⟩⟩, hbz⟩
    · have hin := inB_true k1
      obtain ⟨o, rfl⟩ := Int.eq_ofNat_of_zero_le hin.1
      have ho : o < s.os.n := by omega
      have q0 : (0 : Int) ≤ (o : Int) := by omega
      obtain ⟨bo, oo, hoa, hbo, z0, z1, hlk⟩ := hsk.os.ods o ho
      have HOA : Hid (s.os.a = some ⟨bo, oo, none⟩) := hoa
      rw [hoa] at c1
      clear hoa z1 hlk
      by_cases k2 : (s.os.z o).k = 2
      · have HX : Hid (cancelE p s (o : Int) = 6) := cancelE_done H0.out k1 k2
        have HNE : Hid (¬ cancelE p s (o : Int) = 0) := by show ¬ _; rw [HX.out]; decide
        rw [k2] at z0
        clear k2
        clear hpk hsk
        have zl := hz.lt
        have zf0 := hz.frozen 0
        have zc0 := hz.cell (j := 0) (by decide)
        have zf1 := hz.frozen 1
        have zc1 := hz.cell (j := 1) (by decide)
        have zf2 := hz.frozen 2
        have zc2 := hz.cell (j := 2) (by decide)
        have zf3 := hz.frozen 3
        have zc3 := hz.cell (j := 3) (by decide)
        have zf4 := hz.frozen 4
        have zc4 := hz.cell (j := 4) (by decide)
        have zf5 := hz.frozen 5
        have zc5 := hz.cell (j := 5) (by decide)
        have zf6 := hz.frozen 6
        have zc6 := hz.cell (j := 6) (by decide)
        go_wp2_with (go_at_call 25; refine calls_to (within_any _ _ _ _) ?_)
        have KZ := set7_blk hz (.slice .none 0 0) (.slice .none 0 0) (.slice .none 0 0) (.slice .none 0 0) (.slice .none 0 0) (.slice .none 0 0) (.slice .none 0 0)
        have hbz := set7_below (b := w.heap.size + 2) hBw (by omega) (.slice .none 0 0) (.slice .none 0 0) (.slice .none 0 0) (.slice .none 0 0) (.slice .none 0 0) (.slice .none 0 0) (.slice .none 0 0)
        unfold set7 at KZ hbz
        obtain ⟨c0', c1', c2', c3', c4', c5', c6'⟩ := box_cells KZ
        refine bodyPost_ret (v := .tuple #[noneS.val, .int .i64 6]) (by simp [results, Tryz.results8, go_sem, noneS, St.val, c0', c1', c2', c3', c4', c5', c6']) rfl ?_
        exact ⟨noneS, by rw [HX.out]; rfl, noneS_at _, ⟨fun h => absurd h (HNE.out), fun _ => ⟨rfl, rfl, rfl, rfl, rfl, rfl, rfl⟩⟩, hbz⟩
      · have HX : Hid (cancelE p s (o : Int) = 0) := cancelE_ok H0.out k1 k2
        have g2 : ((s.os.z o).k == 2) = false := by simpa using k2
        clear k2
        generalize (s.os.z o).k = KK at *
        have HCS : Hid (Calls Tryz.prog 23 #[s.val] w1 fun e w' => ∃ s' : St, e = .returned s'.val ∧ SameT s' s ∧ OwnS w1.heap.size w' s' ∧ Below w1.heap.size w1 w') := OwnState_any p s w1 hsk HR.out.fm
        clear hpk hsk hBw hz
        go_wp2_with (go_at_call 25; refine calls_to (within_any _ _ _ _) ?_)
        rw [← HOA.out]
        refine Calls.mono HCS.out ?_
        rintro e w4 ⟨x0, rfl, hsame, hown, hB4⟩
        clear HCS l1 d0 d1 l2 c0 c1 c2 c3 c4 c5 c6 z0 hbo k1 g2 HOA
        obtain ⟨W5, hW5, hWB5, K5⟩ : ∃ W, w4.alloc (.cells #[.slice x0.on.a x0.on.n x0.on.c, .slice x0.os.a x0.os.n x0.os.c, .slice none 0 0, .slice x0.ms.a x0.ms.n x0.ms.c, .slice x0.si.a x0.si.n x0.si.c, .slice x0.so.a x0.so.n x0.so.c, .slice x0.sf.a x0.sf.n x0.sf.c] 31) = W ∧ Below w4.heap.size w4 W ∧ Blk W w4.heap.size 31 7 (fun j => (withHolds x0 ⟨none, 0, 0, ofL []⟩).cells.getD j default) := ⟨_, rfl, (Below.refl _ _).alloc (Nat.le_refl _) _, Blk.mk' rfl rfl⟩
        have HW5 : Hid (w4.alloc (.cells #[.slice x0.on.a x0.on.n x0.on.c, .slice x0.os.a x0.os.n x0.os.c, .slice none 0 0, .slice x0.ms.a x0.ms.n x0.ms.c, .slice x0.si.a x0.si.n x0.si.c, .slice x0.so.a x0.so.n x0.so.c, .slice x0.sf.a x0.sf.n x0.sf.c] 31) = W5) := hW5
        have hB15 := hB4.trans (hWB5.mono hB4.size)
        have hB5 := hB.trans (hB15.mono hB.size)
        have ho0 : o < x0.os.n := by rw [hsame.os.1]; exact ho
        have HS0 : Hid (SameT x0 s) := hsame
        have A1 : W0.heap.size ≤ w1.heap.size := hB.size
        have A2 : w1.heap.size ≤ w4.heap.size := hB4.size
        have HK0 : Hid (RelK w1.heap.size w4.heap.size W0 (withHolds x0 ⟨none, 0, 0, ofL []⟩) W5) := ⟨(OwnS.below hown hWB5).withHolds (h := ⟨none, 0, 0, ofL []⟩) (OwnH.nil _ _ _ _), K5, hB5, hB15.size⟩
        have HRM : Hid (Room w1.heap.size W5 55 4 none 0) := Or.inl rfl
        clear hW5 hown K5 hB4 hWB5 hB15 hB5 hsame hB
        simp only [St.val]
        go_wp2_with fail
        rw [HW5.out]
        generalize w4.heap.size = B7 at *
        go_loopw [10] (fun kv wk => ∃ (k : Nat) (h : Hs), k ≤ s.hs.n ∧ kv = .int .i64 k ∧ Hid (RelK w1.heap.size B7 W0 (withHolds x0 h) wk) ∧ Hid (Room w1.heap.size wk 55 4 h.a h.c) ∧ Hid (h.n = (keepU s.hs (fun x => x.o == (o : Int)) k).length ∧ h.z = ofL (keepU s.hs (fun x => x.o == (o : Int)) k))) (fun kv _ => s.hs.n - (intOf kv).toNat)
        case atStart => exact ⟨0, ⟨none, 0, 0, ofL []⟩, Nat.zero_le _, rfl, HK0, HRM, ⟨rfl, rfl⟩⟩
        case round =>
          clear HK0 HRM HW5
          obtain ⟨k, h, hk, rfl, HK, HRM, HL⟩ := hrel
          obtain ⟨⟨⟨l1, d0, d1⟩, l2, c0, c1, c2, c3, c4, c5, c6⟩, hpk, hsk, hBw, hz⟩ := HC.out wr HK.out.bel
          have hle := hsk.hs.le
          have hcp := hsk.hs.cap
          unfold maxLen at hcp
          have h72 := HR.out.fm.hs72
          by_cases hlt : k < s.hs.n
          · have q2 : (0 : Int) ≤ (k : Int) := by omega
            have q3 : (k : Int) < (s.hs.n : Int) := by omega
            obtain ⟨bh, oh, hha, hbh, v0, v1, v2, v3⟩ := hsk.hs.hds k hlt
            rw [hha] at c2
            clear hha hpk hsk hBw hz
            by_cases hko : (s.hs.z k).o = (o : Int)
            · have HN : Hid (h.n = (keepU s.hs (fun x => x.o == (o : Int)) (k + 1)).length ∧ h.z = ofL (keepU s.hs (fun x => x.o == (o : Int)) (k + 1))) := by
                show h.n = _ ∧ h.z = _
                rw [keepU_miss hlt (by simpa using hko)]
                exact HL.out
              have g3 : ((s.hs.z k).o != (o : Int)) = false := by simpa using hko
              clear hko
              generalize s.hs.z k = Z at *
              go_wp2_with fail
              go_roundw
              case rel => exact ⟨k + 1, h, by omega, by go_num, HK, HRM, HN⟩
              case measure => simp [intOf]; omega
            · have HKU : Hid (keepU s.hs (fun x => x.o == (o : Int)) (k + 1) = keepU s.hs (fun x => x.o == (o : Int)) k ++ [s.hs.z k]) := keepU_hit hlt (by simpa using hko)
              have g3 : ((s.hs.z k).o != (o : Int)) = true := by simpa using hko
              have HLN : Hid (h.n ≤ 72) := by have := keepU_len s.hs (fun x => x.o == (o : Int)) k; have := HL.out.1; show h.n ≤ 72; omega
              clear hko
              obtain ⟨-, p0, p1, p2, p3, p4, p5, p6⟩ := Boxed.of HK.out.box
              have p2' : wr.cell? ⟨B7, 2, none⟩ = some (.slice h.a h.n h.c) := p2
              have HZ : Hid (∃ Z, s.hs.z k = Z) := ⟨_, rfl⟩
              generalize s.hs.z k = Z at *
              have t1 : ∀ d os, (grow (redrawn wr d) os).cell? ⟨B7, 2, none⟩ = some (.slice h.a h.n h.c) := fun d os => cell_regrown p2' d os
              have t2 : ∀ d os, (grow (redrawn wr d) os).cell? ⟨w.heap.size + 1, 2, none⟩ = some (.slice (some ⟨bh, oh, none⟩) s.hs.n s.hs.c) := fun d os => cell_regrown c2 d os
              have t3 : ∀ d os, (grow (redrawn wr d) os).cell? ⟨bh, oh + k * 4, none⟩ = some (.int .i64 Z.o) := fun d os => cell_regrown v0 d os
              have t4 : ∀ d os, (grow (redrawn wr d) os).cell? ⟨bh, oh + k * 4 + 1, none⟩ = some (.int .i64 Z.l) := fun d os => cell_regrown v1 d os
              have t5 : ∀ d os, (grow (redrawn wr d) os).cell? ⟨bh, oh + k * 4 + 2, none⟩ = some (.int .i64 Z.b) := fun d os => cell_regrown v2 d os
              have t6 : ∀ d os, (grow (redrawn wr d) os).cell? ⟨bh, oh + k * 4 + 3, none⟩ = some (.int .i64 Z.n) := fun d os => cell_regrown v3 d os
              have xl := HK.out.box.lt
              clear p0 p1 p2 p2' p3 p4 p5 p6 HZ
              go_wp2_with fail
              clear c0 c1 c2 c3 c4 c5 c6 v0 v1 v2 v3
              refine wp_region_made5 (fun w' => ∃ p : Regrown, w' = grow (redrawn wr p.d) p.os) [0, 1, 2, 3, 4, 5, 6] [] [(false, 7), (true, 8), (true, 9), (true, 10)] (by kernel_rfl) (by kernel_rfl) (by kernel_rfl) (by kernel_rfl) (by kernel_rfl) (by kernel_rfl) (by kernel_rfl) (by kernel_rfl) (by kernel_rfl) (regrown_of_below ((Below.refl _ _).drew)) ?_
              simp only [picks, List.drop_succ_cons, List.drop_zero, List.take_succ_cons, List.take_zero, List.cons_append, List.nil_append]
              repeat (go_big_quiet_step (fail))
              refine wpQuiet_nil ?_
              clear t1 t2 t3 t4 t5 t6
              refine ⟨fun _ _ _ _ => True, List.forall_mem_nil _, List.forall_mem_nil _, List.forall_mem_nil _, fun V G wj hS _ _ => ?_⟩
              have hBd := below_of_regrown hS
              clear hS
              obtain ⟨W9, hW9, hWB9, K9⟩ : ∃ W, wj.alloc (.cells #[.int .i64 Z.o, .int .i64 Z.l, .int .i64 Z.b, .int .i64 Z.n] 55) = W ∧ Below wj.heap.size wj W ∧ Blk W wj.heap.size 55 4 (fun j => (#[.int .i64 Z.o, .int .i64 Z.l, .int .i64 Z.b, .int .i64 Z.n] : Array Value).getD j default) := ⟨_, rfl, (Below.refl _ _).alloc (Nat.le_refl _) _, Blk.mk' rfl rfl⟩
              have HW9 : Hid (wj.alloc (.cells #[.int .i64 Z.o, .int .i64 Z.l, .int .i64 Z.b, .int .i64 Z.n] 55) = W9) := hW9
              have hBx := hBd.trans (hWB9.mono hBd.size)
              have HO9 : Hid (OwnS w1.heap.size W9 (withHolds x0 h)) := HK.out.own.below hBx
              have HR9 : Hid (Room w1.heap.size W9 55 4 h.a h.c) := HRM.out.below hBx
              have HX9 : Hid (Blk W9 B7 31 7 (fun j => (withHolds x0 h).cells.getD j default)) := HK.out.box.below hBx
              have HB9 : Hid (Below W0.heap.size W0 W9) := HK.out.bel.trans (hBx.mono HK.out.bel.size)
              have HE9 : Hid (w1.heap.size ≤ W9.heap.size) := Nat.le_trans HK.out.le hBx.size
              have HNW : Hid (∀ j u, (hdCells Z)[j]? = some u → W9.cell? ((⟨wj.heap.size, 0, none⟩ : Addr).add j) = some u) := by rw [← hW9]; exact one_news _ _ _
              have HBX : Hid (Below wr.heap.size wr W9) := hBx
              clear hBd hWB9 hBx hW9 K9 HK HRM
              simp only [putAll]
              refine wpSeq_one 7 rfl ?_
              go_wp2_with fail
              rw [HW9.out]
              refine ⟨Late.no (regrown_of_below HBX.out), ?_⟩
              obtain ⟨iO, hO, hO0, hO1, hO2⟩ := info_parts infoHoldC
              refine wpSeq_one 8 rfl ?_
              go_wp2_with (at_builtin; refine wpList_append_room W9 rfl (.tmp 54) (.tmp 60) 28 rfl w1.heap.size 55 iO (.agg #[.int .i64 0, .int .i64 0, .int .i64 0, .int .i64 0]) 4 32 Tryz.underlying28 hO hO0 hO1 hO2 rfl (by decide) h.a h.n h.c (flatH h.n h.z) rfl HR9.out HO9.out.hs.1 HO9.out.hs.2.1 (flatH_len _ _) HO9.out.hs.2.2.2 ⟨wj.heap.size, 0, none⟩ 1 1 (hdCells Z) rfl rfl HNW.out (one_cells _) (by decide) ?zc3 ?zc4 ?zc5 ?_)
              case zc3 => have := HLN.out; unfold maxLen; omega
              case zc4 => have := HLN.out; omega
              case zc5 => exact HE9.out
              intro v2 w2 hown2 hgrow2
              have HH2 : Hid (∃ h2 : Hs, v2 = .slice h2.a h2.n h2.c ∧ (h2.n = (keepU s.hs (fun x => x.o == (o : Int)) (k + 1)).length ∧ h2.z = ofL (keepU s.hs (fun x => x.o == (o : Int)) (k + 1))) ∧ OwnH w1.heap.size 55 w2 h2 ∧ Room w1.heap.size w2 55 4 h2.a h2.c) := by
                have e : flatH h.n h.z ++ hdCells Z = flatH (keepU s.hs (fun x => x.o == (o : Int)) (k + 1)).length (ofL (keepU s.hs (fun x => x.o == (o : Int)) (k + 1))) := by
                  rw [HKU.out, flatL_snoc, HL.out.1, HL.out.2]
                have e2 : h.n + 1 = (keepU s.hs (fun x => x.o == (o : Int)) (k + 1)).length := by rw [HKU.out, List.length_append, HL.out.1]; rfl
                rw [e, e2] at hown2
                obtain ⟨h2, a1, a2, a3, a4, a5⟩ := OwnH.ofOwns hown2 (fun e3 => by
                  rcases hown2.2 with ⟨_, e4⟩ | ⟨_, _, _, e4, _⟩
                  · omega
                  · rw [e3] at e4; cases e4)
                exact ⟨h2, a1, ⟨a2, a3⟩, a4, a5⟩
              obtain ⟨h2, rfl, hL2, hO2', hR2⟩ := HH2.out
              have HL2 : Hid (h2.n = (keepU s.hs (fun x => x.o == (o : Int)) (k + 1)).length ∧ h2.z = ofL (keepU s.hs (fun x => x.o == (o : Int)) (k + 1))) := hL2
              have K2 := hgrow2.blk HX9.out (by decide)
              have z1 := K2.lt
              have z2 := K2.frozen 2
              have z3 := K2.cell (j := 2) (by decide)
              have hOS := HO9.out.moreH hgrow2 hO2'
              have HN : Hid (RelK w1.heap.size B7 W0 (withHolds x0 h2) (w2.setCell ⟨B7, 2, none⟩ (.slice h2.a h2.n h2.c))) := by
                have hb2 := hgrow2.below HB9.out (by omega) HB9.out.size
                exact ⟨hOS.box K2 2 _, (K2.set 2 _).congr (fun j hj => by match j, hj with | 0, _ => rfl | 1, _ => rfl | 2, _ => rfl | 3, _ => rfl | 4, _ => rfl | 5, _ => rfl | 6, _ => rfl), hb2.setCell (p := ⟨B7, 2, none⟩) (by show W0.heap.size ≤ B7; omega) _, by
                  have h1 := hO2'
                  have h3 : w1.heap.size ≤ w2.heap.size := Nat.le_trans HE9.out (hgrow2.below (Below.refl w1.heap.size W9) (Nat.le_refl _) HE9.out).size
                  simpa using h3⟩
              have HRN : Hid (Room w1.heap.size (w2.setCell ⟨B7, 2, none⟩ (.slice h2.a h2.n h2.c)) 55 4 h2.a h2.c) := hR2.set _ _ _
              clear hown2 hgrow2 hL2 hO2' hR2 K2 hOS HH2 HO9 HR9 HX9 HB9 HE9 HNW HKU HL HLN
              refine wpList_end ⟨Late.yes, ?_⟩
              refine wpSeq_one 9 rfl ?_
              go_wp2_with fail
              refine ⟨Late.yes, ?_⟩
              refine wpSeq_one 10 rfl ?_
              go_wp2_with fail
              refine ⟨Late.yes, ?_⟩
              refine NoPanic.normal ?_
              go_wp2_with fail
              go_roundw
              case rel => exact ⟨k + 1, h2, by omega, by go_num, HN, HRN, HL2⟩
              case measure => simp [intOf]; omega
          · have hkn : k = s.hs.n := by omega
            have q4 : (s.hs.n : Int) ≤ (k : Int) := by omega
            have HD : Hid (h.n = (dropH s.hs (fun x => x.o == (o : Int))).n ∧ ∀ j, j < h.n → h.z j = (dropH s.hs (fun x => x.o == (o : Int))).z j) := by
              have e := HL.out
              rw [hkn] at e
              have e2 := dropH_keep s.hs (fun x => x.o == (o : Int))
              exact ⟨e.1.trans e2.1.symm, fun j _ => by rw [e.2, e2.2]⟩
            obtain ⟨gO, g1, g2, g3, g4, g5, g6⟩ := HK.out.own.orderCells (o := o) ho0
            have g1' : x0.os.a = some ⟨gO, 0, none⟩ := g1
            have HG : Hid (x0.os.a = some ⟨gO, 0, none⟩) := g1'
            have u1 : wr.cell? ⟨B7, 1, none⟩ = some (.slice x0.os.a x0.os.n x0.os.c) := HK.out.box.cell (j := 1) (by decide)
            have u2 := HK.out.box.lt
            rw [g1'] at u1
            have gf := g6 (o * 2)
            have ol : x0.os.n ≤ x0.os.c := HK.out.own.os.le
            have oc : x0.os.c ≤ maxLen := HK.out.own.os.cap
            unfold maxLen at oc
            have HLC : Hid ((x0.os.z o).ls.n ≤ (x0.os.z o).ls.c ∧ (x0.os.z o).ls.c ≤ maxLen) := by
              have h := HK.out.own.at.os.ods o ho0
              obtain ⟨_, _, _, _, _, _, h⟩ := h
              exact ⟨h.le, h.cap⟩
            have ll := HLC.out.1
            have lc := HLC.out.2
            unfold maxLen at lc
            have HN : Hid (RelK w1.heap.size B7 W0 (lackS (kindS (withHolds x0 h) o 2) o 0) (wr.setCell ⟨gO, o * 2, none⟩ (.int .i64 2))) := by
              show RelK _ _ _ (lackS (kindS (withHolds x0 h) o 2) o 0) _
              rw [lackS_zero]
              obtain ⟨gq, b1, b2, b3⟩ := HK.out.own.os.list (by show 0 < x0.os.n; omega)
              have b1' : x0.os.a = some ⟨gq, 0, none⟩ := b1
              rw [HG.out] at b1'
              simp only [Option.some.injEq, Addr.mk.injEq, and_true] at b1'
              subst b1'
              exact ⟨HK.out.own.kind (o := o) ho0 b1 2, HK.out.box.other (a := ⟨gO, o * 2, none⟩) (Blk.ne2 HK.out.box b3 (by decide)) _, HK.out.bel.setCell (p := ⟨gO, o * 2, none⟩) (by show W0.heap.size ≤ gO; omega) _, by have := HK.out.le; simpa using this⟩
            have HLN : Hid (∀ j, ((lackS (kindS (withHolds x0 h) o 2) o j).os.z o) = ⟨2, lackL (x0.os.z o).ls j⟩) := fun j => by
              rw [lackS_at, kindS_at]
              rfl
            have HBD : Hid (∀ j, j < (x0.os.z o).ls.n → (0 ≤ ((x0.os.z o).ls.z j).l ∧ ((x0.os.z o).ls.z j).l ≤ 200) ∧ 0 ≤ ((x0.os.z o).ls.z j).b ∧ ((x0.os.z o).ls.z j).b ≤ 200) := fun j hj => by
              have e := HS0.out.os.2 o ho0
              have hl := badLine_no (HR.out.fm.line o ho j (by rw [← e.2.1]; exact hj))
              rw [e.2.2 j hj]
              omega
            clear g1 g1' g6 hkn hpk hsk hBw hz HL HRM HLC
            go_wp2_with fail
            clear g4 g5 gf u1 u2 HK l1 d0 d1 l2 c0 c1 c2 c3 c4 c5 c6
            go_loopw [11] (fun jv wk => ∃ j : Nat, j ≤ (x0.os.z o).ls.n ∧ jv = .int .i64 j ∧ Hid (RelK w1.heap.size B7 W0 (lackS (kindS (withHolds x0 h) o 2) o j) wk)) (fun jv _ => (x0.os.z o).ls.n - (intOf jv).toNat)
            case atStart => exact ⟨0, Nat.zero_le _, rfl, HN⟩
            case round =>
              clear HN
              obtain ⟨j, hj, rfl, HK⟩ := hrel
              have u1 : wr.cell? ⟨B7, 1, none⟩ = some (.slice x0.os.a x0.os.n x0.os.c) := HK.out.box.cell (j := 1) (by decide)
              have u2 := HK.out.box.lt
              rw [HG.out] at u1
              obtain ⟨gq, g1, g2', g3', g4, g5, g6⟩ := HK.out.own.orderCells (o := o) ho0
              have g1' : x0.os.a = some ⟨gq, 0, none⟩ := g1
              rw [HG.out] at g1'
              simp only [Option.some.injEq, Addr.mk.injEq, and_true] at g1'
              subst g1'
              rw [HLN.out j] at g5
              have g5' : wr.cell? ⟨gO, o * 2 + 1, none⟩ = some (.slice (x0.os.z o).ls.a (x0.os.z o).ls.n (x0.os.z o).ls.c) := g5
              clear g1 g4 g5 g6
              by_cases hjl : j < (x0.os.z o).ls.n
              · have q5 : (0 : Int) ≤ (j : Int) := by omega
                have q6 : (j : Int) < ((x0.os.z o).ls.n : Int) := by omega
                have hl' : j < ((lackS (kindS (withHolds x0 h) o 2) o j).os.z o).ls.n := by rw [HLN.out]; exact hjl
                obtain ⟨gr, BL, f1, f2, f3, f4, f5, f6, f7, f8, f9, f10, f11, f12, f13, f14⟩ := HK.out.own.lineCell (o := o) (l := j) ho0 hl'
                rw [HLN.out] at f5 f11 f12 f13 f14
                have f5' : (x0.os.z o).ls.a = some ⟨BL, 0, none⟩ := f5
                have HF5 : Hid (((lackS (kindS (withHolds x0 h) o 2) o j).os.z o).ls.a = some ⟨BL, 0, none⟩) := by show ((lackS (kindS (withHolds x0 h) o 2) o j).os.z o).ls.a = _; rw [HLN.out]; exact f5'
                have hz : (lackL (x0.os.z o).ls j).z j = (x0.os.z o).ls.z j := if_neg (Nat.lt_irrefl _)
                have f12' : wr.cell? ⟨BL, j * 4 + 1, none⟩ = some (.int .i64 ((x0.os.z o).ls.z j).l) := by rw [← hz]; exact f12
                have f13' : wr.cell? ⟨BL, j * 4 + 2, none⟩ = some (.int .i64 ((x0.os.z o).ls.z j).b) := by rw [← hz]; exact f13
                have HSU : Hid (setLine (lackS (kindS (withHolds x0 h) o 2) o j) o j 3 (((x0.os.z o).ls.z j).l - ((x0.os.z o).ls.z j).b) = lackS (kindS (withHolds x0 h) o 2) o (j + 1)) := by
                  have e : ((kindS (withHolds x0 h) o 2).os.z o).ls.z j = (x0.os.z o).ls.z j := by rw [kindS_at]; rfl
                  have hh := lackS_succ (kindS (withHolds x0 h) o 2) o j
                  rw [e] at hh
                  exact hh
                have hb := HBD.out j hjl
                rw [f5'] at g5'
                have t1 : ∀ d os, (grow (redrawn wr d) os).cell? ⟨B7, 1, none⟩ = some (.slice (some ⟨gO, 0, none⟩) x0.os.n x0.os.c) := fun d os => cell_regrown u1 d os
                have t2 : ∀ d os, (grow (redrawn wr d) os).cell? ⟨gO, o * 2 + 1, none⟩ = some (.slice (some ⟨BL, 0, none⟩) (x0.os.z o).ls.n (x0.os.z o).ls.c) := fun d os => cell_regrown g5' d os
                have t3 : ∀ d os, (grow (redrawn wr d) os).cell? ⟨BL, j * 4 + 1, none⟩ = some (.int .i64 ((x0.os.z o).ls.z j).l) := fun d os => cell_regrown f12' d os
                have t4 : ∀ d os, (grow (redrawn wr d) os).cell? ⟨BL, j * 4 + 2, none⟩ = some (.int .i64 ((x0.os.z o).ls.z j).b) := fun d os => cell_regrown f13' d os
                clear f1 f2 f3 f4 f5 f5' f6 f8 f9 f10 f11 f12 f12' f13 f13' f14 hz
                generalize (x0.os.z o).ls.z j = Z at *
                go_wp2_with fail
                clear u1 g5'
                refine wp_region_ph [(true, [0, 1, 2, 3, 4, 5, 6, 7, 8, 9, 10, 11, 12, 13, 14, 15, 16, 17, 18, 19, 20, 21, 22, 23, 24, 25, 26, 27, 28, 29], some 30)] (by kernel_rfl) (by kernel_rfl) (by kernel_rfl) (by kernel_rfl) (by kernel_rfl) ?_
                refine ⟨fun w' => ∃ p : Regrown, w' = grow (redrawn wr p.d) p.os, regrown_of_below ((Below.refl _ _).drew), fun h => (by cases h), ?_⟩
                simp only [picks, List.drop_succ_cons, List.drop_zero, List.take_succ_cons, List.take_zero, List.cons_append, List.nil_append]
                repeat (go_big_quiet_step (fail))
                refine wpQuiet_nil ?_
                clear t1 t2 t3 t4
                have hBd : Below wr.heap.size wr wr.drew := (Below.refl _ _).drew
                generalize wr.drew = wj at *
                have hOj := HK.out.own.below hBd
                have Kj := HK.out.box.below hBd
                have hBj := HK.out.bel.trans (hBd.mono HK.out.bel.size)
                have hLj := Nat.le_trans HK.out.le hBd.size
                obtain ⟨Bq, hla', hAB, -, -, hlb⟩ := hOj.os.lines o ho0
                rw [HF5.out] at hla'
                simp only [Option.some.injEq, Addr.mk.injEq, and_true] at hla'
                subst hla'
                have zl := hlb.lt
                have zf := hlb.frozen (j * 4 + 3)
                have zc := hlb.cell (j := j * 4 + 3) (by omega)
                have hOc := hOj.setLine (o := o) ho0 HF5.out j 3 (by decide) (Z.l - Z.b)
                have hKc := Kj.other (a := ⟨BL, j * 4 + 3, none⟩) (Blk.ne2 Kj hlb (by decide)) (.int .i64 (Z.l - Z.b))
                have hBc := hBj.setCell (p := ⟨BL, j * 4 + 3, none⟩) (by show W0.heap.size ≤ BL; omega) (.int .i64 (Z.l - Z.b))
                rw [HSU.out] at hOc
                have HN : Hid (RelK w1.heap.size B7 W0 (lackS (kindS (withHolds x0 h) o 2) o (j + 1)) (wj.setCell ⟨BL, j * 4 + 3, none⟩ (.int .i64 (Z.l - Z.b)))) := ⟨hOc, hKc, hBc, by simpa using hLj⟩
                clear hOj Kj hBj hLj hlb hOc hKc hBc hBd HK
                generalize (flatH ((lackS (kindS (withHolds x0 h) o 2) o j).os.z o).ls.n ((lackS (kindS (withHolds x0 h) o 2) o j).os.z o).ls.z).getD (j * 4 + 3) default = VV at zc
                refine wpOp_one 30 rfl ?_
                go_wp2_with fail
                refine NoPanic.normal ?_
                go_wp2_with fail
                go_roundw
                case rel => exact ⟨j + 1, by omega, by go_num, HN⟩
                case measure => simp [intOf]; omega
              · have hjn : j = (x0.os.z o).ls.n := by omega
                have HTS : Hid (SameT (lackS (kindS (withHolds x0 h) o 2) o j) (cancelT s o)) := by rw [hjn]; exact cancel_same2 HS0.out ho0 HD.out.1 HD.out.2
                have q7 : ((x0.os.z o).ls.n : Int) ≤ (j : Int) := by omega
                have p0 : wr.cell? ⟨B7, 0, none⟩ = some (.slice x0.on.a x0.on.n x0.on.c) := HK.out.box.cell (j := 0) (by decide)
                have p2 : wr.cell? ⟨B7, 2, none⟩ = some (.slice h.a h.n h.c) := HK.out.box.cell (j := 2) (by decide)
                have p3 : wr.cell? ⟨B7, 3, none⟩ = some (.slice x0.ms.a x0.ms.n x0.ms.c) := HK.out.box.cell (j := 3) (by decide)
                have p4 : wr.cell? ⟨B7, 4, none⟩ = some (.slice x0.si.a x0.si.n x0.si.c) := HK.out.box.cell (j := 4) (by decide)
                have p5 : wr.cell? ⟨B7, 5, none⟩ = some (.slice x0.so.a x0.so.n x0.so.c) := HK.out.box.cell (j := 5) (by decide)
                have p6 : wr.cell? ⟨B7, 6, none⟩ = some (.slice x0.sf.a x0.sf.n x0.sf.c) := HK.out.box.cell (j := 6) (by decide)
                obtain ⟨-, -, -, hBw, hz⟩ := HC.out wr HK.out.bel
                have HZ : Hid (Below w.heap.size w wr ∧ Blk wr (w.heap.size + 2) 31 7 (fun _ => .slice .none 0 0)) := ⟨hBw, hz⟩
                have zl := hz.lt
                have zf0 := hz.frozen 0
                have zc0 := hz.cell (j := 0) (by decide)
                have zf1 := hz.frozen 1
                have zc1 := hz.cell (j := 1) (by decide)
                have zf2 := hz.frozen 2
                have zc2 := hz.cell (j := 2) (by decide)
                have zf3 := hz.frozen 3
                have zc3 := hz.cell (j := 3) (by decide)
                have zf4 := hz.frozen 4
                have zc4 := hz.cell (j := 4) (by decide)
                have zf5 := hz.frozen 5
                have zc5 := hz.cell (j := 5) (by decide)
                have zf6 := hz.frozen 6
                have zc6 := hz.cell (j := 6) (by decide)
                clear HLN HBD HD hBw hz
                go_wp2_with fail
                have KZ := set7_blk HZ.out.2 (.slice x0.on.a x0.on.n x0.on.c) (.slice (some ⟨gO, 0, none⟩) x0.os.n x0.os.c) (.slice h.a h.n h.c) (.slice x0.ms.a x0.ms.n x0.ms.c) (.slice x0.si.a x0.si.n x0.si.c) (.slice x0.so.a x0.so.n x0.so.c) (.slice x0.sf.a x0.sf.n x0.sf.c)
                have hbz := set7_below (b := w.heap.size + 2) HZ.out.1 (by omega) (.slice x0.on.a x0.on.n x0.on.c) (.slice (some ⟨gO, 0, none⟩) x0.os.n x0.os.c) (.slice h.a h.n h.c) (.slice x0.ms.a x0.ms.n x0.ms.c) (.slice x0.si.a x0.si.n x0.si.c) (.slice x0.so.a x0.so.n x0.so.c) (.slice x0.sf.a x0.sf.n x0.sf.c)
                have hOz := OwnS.set7 HK.out.own HZ.out.2 (.slice x0.on.a x0.on.n x0.on.c) (.slice (some ⟨gO, 0, none⟩) x0.os.n x0.os.c) (.slice h.a h.n h.c) (.slice x0.ms.a x0.ms.n x0.ms.c) (.slice x0.si.a x0.si.n x0.si.c) (.slice x0.so.a x0.so.n x0.so.c) (.slice x0.sf.a x0.sf.n x0.sf.c)
                unfold set7 at KZ hbz hOz
                obtain ⟨c0', c1', c2', c3', c4', c5', c6'⟩ := box_cells KZ
                refine bodyPost_ret (v := .tuple #[.agg #[.slice x0.on.a x0.on.n x0.on.c, .slice (some ⟨gO, 0, none⟩) x0.os.n x0.os.c, .slice h.a h.n h.c, .slice x0.ms.a x0.ms.n x0.ms.c, .slice x0.si.a x0.si.n x0.si.c, .slice x0.so.a x0.so.n x0.so.c, .slice x0.sf.a x0.sf.n x0.sf.c], .int .i64 0]) (by simp [results, Tryz.results8, go_sem, c0', c1', c2', c3', c4', c5', c6']) rfl ?_
                refine ⟨lackS (kindS (withHolds x0 h) o 2) o j, ?_, hOz.at, ⟨fun _ => HTS.out, fun h => absurd HX.out h⟩, hbz⟩
                rw [HX.out]
                show _ = Ending.returned (.tuple #[.agg #[.slice x0.on.a x0.on.n x0.on.c, .slice x0.os.a x0.os.n x0.os.c, .slice h.a h.n h.c, .slice x0.ms.a x0.ms.n x0.ms.c, .slice x0.si.a x0.si.n x0.si.c, .slice x0.so.a x0.so.n x0.so.c, .slice x0.sf.a x0.sf.n x0.sf.c], .int .i64 0])
                rw [HG.out]
  · have HX : Hid (cancelE p s order = stateE p s) := cancelE_state h0
    have HNE : Hid (¬ cancelE p s order = 0) := by show ¬ _; rw [cancelE_state h0]; exact h0
    have g0 : (stateE p s != 0) = true := by simpa using h0
    clear h0
    clear hpk hsk
    have zl := hz.lt
    have zf0 := hz.frozen 0
    have zc0 := hz.cell (j := 0) (by decide)
    have zf1 := hz.frozen 1
    have zc1 := hz.cell (j := 1) (by decide)
    have zf2 := hz.frozen 2
    have zc2 := hz.cell (j := 2) (by decide)
    have zf3 := hz.frozen 3
    have zc3 := hz.cell (j := 3) (by decide)
    have zf4 := hz.frozen 4
    have zc4 := hz.cell (j := 4) (by decide)
    have zf5 := hz.frozen 5
    have zc5 := hz.cell (j := 5) (by decide)
    have zf6 := hz.frozen 6
    have zc6 := hz.cell (j := 6) (by decide)
    go_wp2_with fail
    have KZ := set7_blk hz (.slice .none 0 0) (.slice .none 0 0) (.slice .none 0 0) (.slice .none 0 0) (.slice .none 0 0) (.slice .none 0 0) (.slice .none 0 0)
    have hbz := set7_below (b := w.heap.size + 2) hBw (by omega) (.slice .none 0 0) (.slice .none 0 0) (.slice .none 0 0) (.slice .none 0 0) (.slice .none 0 0) (.slice .none 0 0) (.slice .none 0 0)
    unfold set7 at KZ hbz
    obtain ⟨c0', c1', c2', c3', c4', c5', c6'⟩ := box_cells KZ
    refine bodyPost_ret (v := .tuple #[noneS.val, .int .i64 (stateE p s)]) (by simp [results, Tryz.results8, go_sem, noneS, St.val, c0', c1', c2', c3', c4', c5', c6']) rfl ?_
    exact ⟨noneS, by rw [HX.out]; rfl, noneS_at _, ⟨fun h => absurd h (HNE.out), fun _ => ⟨rfl, rfl, rfl, rfl, rfl, rfl, rfl⟩⟩, hbz⟩
end Go.Proofs.YtbcacebifpagpadGreat
namespace Go.Proofs.YtbcacebifpagpadGreat
open Go.RowKit Go.Shelf Go.Sort
set_option linter.unusedVariables false
set_option maxRecDepth 100000 in
set_option maxHeartbeats 8000000 in
theorem WaveTells_walk (p : Pl) (s : St) (order : Int) (w : World) (hp : p.At w) (hs : s.At w) :
    Calls Tryz.prog 3 #[p.val, s.val, .int .i64 order] w fun e w' => e = .returned (.bool true) ∧ Below w.heap.size w w' := by
  obtain ⟨W0, hW, hWB, X0⟩ : ∃ W, ((w.alloc (.cells #[.slice p.ab p.nb p.cb, .slice p.sa p.ns p.cs] 25)).alloc (.cells s.cells 31)) = W ∧ Below w.heap.size w W ∧ Boxes W w.heap.size (w.heap.size + 1) p s := ⟨_, rfl, two_below _ _ _, boxes_new w p s _ _⟩
  have HC : Hid (∀ wk, Below W0.heap.size W0 wk → Boxes wk w.heap.size (w.heap.size + 1) p s ∧ p.At wk ∧ s.At wk ∧ Below w.heap.size w wk) := fun wk h => ⟨X0.below h, (hp.below hWB).below h, (hs.below hWB).below h, hWB.trans (h.mono hWB.size)⟩
  have HW : Hid ((w.alloc (.cells #[.slice p.ab p.nb p.cb, .slice p.sa p.ns p.cs] 25)).alloc (.cells #[.slice s.on.a s.on.n s.on.c, .slice s.os.a s.os.n s.os.c, .slice s.hs.a s.hs.n s.hs.c, .slice s.ms.a s.ms.n s.ms.c, .slice s.si.a s.si.n s.si.c, .slice s.so.a s.so.n s.so.c, .slice s.sf.a s.sf.n s.sf.c] 31) = W0) := hW
  clear hW X0 hp hs
  unfold Pl.val St.val
  go_enter Tryz.func3, Tryz.ntmps3
  go_wp2_with fail
  rw [HW.out]
  have hB0 := Below.refl W0.heap.size W0
  obtain ⟨X, hpk, hsk, hBw⟩ := HC.out W0 hB0
  clear X hBw HW
  refine (Release_any p s  W0 hpk hsk).mono ?_
  rintro e w0 ⟨a, rfl, ata, oka, -, hB⟩
  have hBn := hB0.trans (hB.mono hB0.size)
  clear hpk hsk
  have HOKa : Hid (RelOK p s a) := oka
  have HBDa : Hid (a.os.n ≤ 1000 ∧ a.ms.n ≤ 1000 ∧ ∀ i, i < a.os.n → (a.os.z i).ls.n ≤ 1000) := ActOK.bound (p := p) (s := s) (RelOK.act oka) (fun h => relT_bound (rightT h))
  clear oka
  obtain ⟨V0, hW, hWB, K1⟩ : ∃ W, w0.alloc (.cells #[.slice a.on.a a.on.n a.on.c, .slice a.os.a a.os.n a.os.c, .slice a.hs.a a.hs.n a.hs.c, .slice a.ms.a a.ms.n a.ms.c, .slice a.si.a a.si.n a.si.c, .slice a.so.a a.so.n a.so.c, .slice a.sf.a a.sf.n a.sf.c] 31) = W ∧ Below w0.heap.size w0 W ∧ Blk W w0.heap.size 31 7 (fun j => a.cells.getD j default) := ⟨_, rfl, (Below.refl _ _).alloc (Nat.le_refl _) _, Blk.mk' rfl rfl⟩
  have HW : Hid (w0.alloc (.cells #[.slice a.on.a a.on.n a.on.c, .slice a.os.a a.os.n a.os.c, .slice a.hs.a a.hs.n a.hs.c, .slice a.ms.a a.ms.n a.ms.c, .slice a.si.a a.si.n a.si.c, .slice a.so.a a.so.n a.so.c, .slice a.sf.a a.sf.n a.sf.c] 31) = V0) := hW
  have hBm := hBn.trans (hWB.mono hBn.size)
  have Ha : Hid (a.At V0 ∧ Blk V0 w0.heap.size 31 7 (fun j => a.cells.getD j default)) := ⟨ata.below hWB, K1⟩
  obtain ⟨⟨⟨l1, d0, d1⟩, l2, c0, c1, c2, c3, c4, c5, c6⟩, hpk, hsk, hBw⟩ := HC.out V0 hBm
  rw [← HW.out] at l1 d0 d1 l2 c0 c1 c2 c3 c4 c5 c6
  simp only [St.val]
  clear hW K1 hBw hWB hB ata hBn
  go_wp2_with fail
  rw [HW.out]
  clear l1 d0 d1 l2 c0 c1 c2 c3 c4 c5 c6 HW
  generalize w0.heap.size = Ba at *
  have hB1' := hBm
  clear hBm
  refine (Cancel_any p s order V0 hpk hsk).mono ?_
  rintro e w1 ⟨b, rfl, atb, okb, -, hB⟩
  have hBn := hB1'.trans (hB.mono hB1'.size)
  clear hpk hsk
  have Ha : Hid (a.At w1 ∧ Blk w1 Ba 31 7 (fun j => a.cells.getD j default)) := ⟨Ha.out.1.below hB, Ha.out.2.below hB⟩
  have HOKb : Hid (ActOK (cancelE p s order) (cancelT s order.toNat) b) := okb
  have HBDb : Hid (b.os.n ≤ 1000 ∧ b.ms.n ≤ 1000 ∧ ∀ i, i < b.os.n → (b.os.z i).ls.n ≤ 1000) := ActOK.bound (p := p) (s := s) okb (fun h => cancelT_bound h)
  clear okb
  obtain ⟨V1, hW, hWB, K1⟩ : ∃ W, w1.alloc (.cells #[.slice b.on.a b.on.n b.on.c, .slice b.os.a b.os.n b.os.c, .slice b.hs.a b.hs.n b.hs.c, .slice b.ms.a b.ms.n b.ms.c, .slice b.si.a b.si.n b.si.c, .slice b.so.a b.so.n b.so.c, .slice b.sf.a b.sf.n b.sf.c] 31) = W ∧ Below w1.heap.size w1 W ∧ Blk W w1.heap.size 31 7 (fun j => b.cells.getD j default) := ⟨_, rfl, (Below.refl _ _).alloc (Nat.le_refl _) _, Blk.mk' rfl rfl⟩
  have HW : Hid (w1.alloc (.cells #[.slice b.on.a b.on.n b.on.c, .slice b.os.a b.os.n b.os.c, .slice b.hs.a b.hs.n b.hs.c, .slice b.ms.a b.ms.n b.ms.c, .slice b.si.a b.si.n b.si.c, .slice b.so.a b.so.n b.so.c, .slice b.sf.a b.sf.n b.sf.c] 31) = V1) := hW
  have hBm := hBn.trans (hWB.mono hBn.size)
  have Hb : Hid (b.At V1 ∧ Blk V1 w1.heap.size 31 7 (fun j => b.cells.getD j default)) := ⟨atb.below hWB, K1⟩
  have Ha : Hid (a.At V1 ∧ Blk V1 Ba 31 7 (fun j => a.cells.getD j default)) := ⟨Ha.out.1.below hWB, Ha.out.2.below hWB⟩
  obtain ⟨⟨⟨l1, d0, d1⟩, l2, c0, c1, c2, c3, c4, c5, c6⟩, hpk, hsk, hBw⟩ := HC.out V1 hBm
  rw [← HW.out] at l1 d0 d1 l2 c0 c1 c2 c3 c4 c5 c6
  simp only [St.val]
  clear hW K1 hBw hWB hB atb hBn
  go_wp2_with fail
  rw [HW.out]
  clear l1 d0 d1 l2 c0 c1 c2 c3 c4 c5 c6 HW
  generalize w1.heap.size = Bb at *
  have hB2' := hBm
  clear hBm
  refine (ReleaseOf_any p s  V1 hpk hsk).mono ?_
  rintro e w2 ⟨x, rfl, atx, okx, hB⟩
  have hBn := hB2'.trans (hB.mono hB2'.size)
  clear hpk hsk
  have Ha : Hid (a.At w2 ∧ Blk w2 Ba 31 7 (fun j => a.cells.getD j default)) := ⟨Ha.out.1.below hB, Ha.out.2.below hB⟩
  have Hb : Hid (b.At w2 ∧ Blk w2 Bb 31 7 (fun j => b.cells.getD j default)) := ⟨Hb.out.1.below hB, Hb.out.2.below hB⟩
  have HSa : Hid (SameT a x) := RelOK.same HOKa.out okx
  clear okx
  obtain ⟨V2, hW, hWB, K1⟩ : ∃ W, w2.alloc (.cells #[.slice x.on.a x.on.n x.on.c, .slice x.os.a x.os.n x.os.c, .slice x.hs.a x.hs.n x.hs.c, .slice x.ms.a x.ms.n x.ms.c, .slice x.si.a x.si.n x.si.c, .slice x.so.a x.so.n x.so.c, .slice x.sf.a x.sf.n x.sf.c] 31) = W ∧ Below w2.heap.size w2 W ∧ Blk W w2.heap.size 31 7 (fun j => x.cells.getD j default) := ⟨_, rfl, (Below.refl _ _).alloc (Nat.le_refl _) _, Blk.mk' rfl rfl⟩
  have HW : Hid (w2.alloc (.cells #[.slice x.on.a x.on.n x.on.c, .slice x.os.a x.os.n x.os.c, .slice x.hs.a x.hs.n x.hs.c, .slice x.ms.a x.ms.n x.ms.c, .slice x.si.a x.si.n x.si.c, .slice x.so.a x.so.n x.so.c, .slice x.sf.a x.sf.n x.sf.c] 31) = V2) := hW
  have hBm := hBn.trans (hWB.mono hBn.size)
  have Hx : Hid (x.At V2 ∧ Blk V2 w2.heap.size 31 7 (fun j => x.cells.getD j default)) := ⟨atx.below hWB, K1⟩
  have Ha : Hid (a.At V2 ∧ Blk V2 Ba 31 7 (fun j => a.cells.getD j default)) := ⟨Ha.out.1.below hWB, Ha.out.2.below hWB⟩
  have Hb : Hid (b.At V2 ∧ Blk V2 Bb 31 7 (fun j => b.cells.getD j default)) := ⟨Hb.out.1.below hWB, Hb.out.2.below hWB⟩
  obtain ⟨⟨⟨l1, d0, d1⟩, l2, c0, c1, c2, c3, c4, c5, c6⟩, hpk, hsk, hBw⟩ := HC.out V2 hBm
  rw [← HW.out] at l1 d0 d1 l2 c0 c1 c2 c3 c4 c5 c6
  simp only [St.val]
  clear hW K1 hBw hWB hB atx hBn
  go_wp2_with fail
  rw [HW.out]
  clear l1 d0 d1 l2 c0 c1 c2 c3 c4 c5 c6 HW
  generalize w2.heap.size = Bx at *
  have hB3' := hBm
  clear hBm
  refine (CancelOf_any p s order V2 hpk hsk).mono ?_
  rintro e w3 ⟨y, rfl, aty, oky, hB⟩
  have hBn := hB3'.trans (hB.mono hB3'.size)
  clear hpk hsk
  have Ha : Hid (a.At w3 ∧ Blk w3 Ba 31 7 (fun j => a.cells.getD j default)) := ⟨Ha.out.1.below hB, Ha.out.2.below hB⟩
  have Hb : Hid (b.At w3 ∧ Blk w3 Bb 31 7 (fun j => b.cells.getD j default)) := ⟨Hb.out.1.below hB, Hb.out.2.below hB⟩
  have Hx : Hid (x.At w3 ∧ Blk w3 Bx 31 7 (fun j => x.cells.getD j default)) := ⟨Hx.out.1.below hB, Hx.out.2.below hB⟩
  have HSb : Hid (SameT b y) := ActOK.same HOKb.out oky
  clear oky
  obtain ⟨V3, hW, hWB, K1⟩ : ∃ W, w3.alloc (.cells #[.slice y.on.a y.on.n y.on.c, .slice y.os.a y.os.n y.os.c, .slice y.hs.a y.hs.n y.hs.c, .slice y.ms.a y.ms.n y.ms.c, .slice y.si.a y.si.n y.si.c, .slice y.so.a y.so.n y.so.c, .slice y.sf.a y.sf.n y.sf.c] 31) = W ∧ Below w3.heap.size w3 W ∧ Blk W w3.heap.size 31 7 (fun j => y.cells.getD j default) := ⟨_, rfl, (Below.refl _ _).alloc (Nat.le_refl _) _, Blk.mk' rfl rfl⟩
  have HW : Hid (w3.alloc (.cells #[.slice y.on.a y.on.n y.on.c, .slice y.os.a y.os.n y.os.c, .slice y.hs.a y.hs.n y.hs.c, .slice y.ms.a y.ms.n y.ms.c, .slice y.si.a y.si.n y.si.c, .slice y.so.a y.so.n y.so.c, .slice y.sf.a y.sf.n y.sf.c] 31) = V3) := hW
  have hBm := hBn.trans (hWB.mono hBn.size)
  have Hy : Hid (y.At V3 ∧ Blk V3 w3.heap.size 31 7 (fun j => y.cells.getD j default)) := ⟨aty.below hWB, K1⟩
  have Ha : Hid (a.At V3 ∧ Blk V3 Ba 31 7 (fun j => a.cells.getD j default)) := ⟨Ha.out.1.below hWB, Ha.out.2.below hWB⟩
  have Hb : Hid (b.At V3 ∧ Blk V3 Bb 31 7 (fun j => b.cells.getD j default)) := ⟨Hb.out.1.below hWB, Hb.out.2.below hWB⟩
  have Hx : Hid (x.At V3 ∧ Blk V3 Bx 31 7 (fun j => x.cells.getD j default)) := ⟨Hx.out.1.below hWB, Hx.out.2.below hWB⟩
  obtain ⟨⟨⟨l1, d0, d1⟩, l2, c0, c1, c2, c3, c4, c5, c6⟩, hpk, hsk, hBw⟩ := HC.out V3 hBm
  rw [← HW.out] at l1 d0 d1 l2 c0 c1 c2 c3 c4 c5 c6
  simp only [St.val]
  clear hW K1 hBw hWB hB aty hBn
  go_wp2_with fail
  rw [HW.out]
  clear l1 d0 d1 l2 c0 c1 c2 c3 c4 c5 c6 HW
  generalize w3.heap.size = By at *
  have hB4' := hBm
  clear hBm
  clear hpk hsk
  refine (waveBegun_any V3).mono ?_
  rintro e w5 ⟨rfl, hB⟩
  have hB5 := hB4'.trans (hB.mono hB4'.size)
  have Ha : Hid (a.At w5 ∧ Blk w5 Ba 31 7 (fun j => a.cells.getD j default)) := ⟨Ha.out.1.below hB, Ha.out.2.below hB⟩
  have Hb : Hid (b.At w5 ∧ Blk w5 Bb 31 7 (fun j => b.cells.getD j default)) := ⟨Hb.out.1.below hB, Hb.out.2.below hB⟩
  have Hx : Hid (x.At w5 ∧ Blk w5 Bx 31 7 (fun j => x.cells.getD j default)) := ⟨Hx.out.1.below hB, Hx.out.2.below hB⟩
  have Hy : Hid (y.At w5 ∧ Blk w5 By 31 7 (fun j => y.cells.getD j default)) := ⟨Hy.out.1.below hB, Hy.out.2.below hB⟩
  clear hB
  obtain ⟨m1, p0, p1, p2, p3, p4, p5, p6⟩ := Boxed.of Ha.out.2
  obtain ⟨m2, t0, t1, t2, t3, t4, t5, t6⟩ := Boxed.of Hx.out.2
  go_wp2_with fail
  clear m1 p0 p1 p2 p3 p4 p5 p6 m2 t0 t1 t2 t3 t4 t5 t6
  refine (SameStates_yes a x w5 Ha.out.1 Hx.out.1 HSa.out HBDa.out.1 HBDa.out.2.1 HBDa.out.2.2).mono ?_
  rintro e w6 ⟨rfl, hB⟩
  have hB6 := hB5.trans (hB.mono hB5.size)
  have Ha : Hid (a.At w6 ∧ Blk w6 Ba 31 7 (fun j => a.cells.getD j default)) := ⟨Ha.out.1.below hB, Ha.out.2.below hB⟩
  have Hb : Hid (b.At w6 ∧ Blk w6 Bb 31 7 (fun j => b.cells.getD j default)) := ⟨Hb.out.1.below hB, Hb.out.2.below hB⟩
  have Hx : Hid (x.At w6 ∧ Blk w6 Bx 31 7 (fun j => x.cells.getD j default)) := ⟨Hx.out.1.below hB, Hx.out.2.below hB⟩
  have Hy : Hid (y.At w6 ∧ Blk w6 By 31 7 (fun j => y.cells.getD j default)) := ⟨Hy.out.1.below hB, Hy.out.2.below hB⟩
  clear hB
  obtain ⟨m1, p0, p1, p2, p3, p4, p5, p6⟩ := Boxed.of Hb.out.2
  obtain ⟨m2, t0, t1, t2, t3, t4, t5, t6⟩ := Boxed.of Hy.out.2
  go_wp2_with fail
  clear m1 p0 p1 p2 p3 p4 p5 p6 m2 t0 t1 t2 t3 t4 t5 t6
  refine (SameStates_yes b y w6 Hb.out.1 Hy.out.1 HSb.out HBDb.out.1 HBDb.out.2.1 HBDb.out.2.2).mono ?_
  rintro e w7 ⟨rfl, hB⟩
  have hB7 := hB6.trans (hB.mono hB6.size)
  clear hB
  go_wp2_with fail
  go_ret
  exact ⟨by simp, (HC.out w7 hB7).2.2.2⟩
end Go.Proofs.YtbcacebifpagpadGreat
namespace Go.Proofs.YtbcacebifpagpadGreat
open Go.ChangeShapes Go.WideShapes Go.ChangeAt Go.RowKit Go.Joins Go.Deep
set_option linter.unusedVariables false
set_option maxRecDepth 100000
theorem own : ownKnob Tryz.prog.godebug = none := by kernel_rfl
theorem laidOut : laidOutB Tryz.prog = true := by kernel_rfl
theorem cellsInt : Tryz.prog.cellsOf 3 = 1 := by kernel_rfl
theorem cellsInts : Tryz.prog.cellsOf 23 = 1 := by kernel_rfl
theorem cellsBin : Tryz.prog.cellsOf 94 = 4 := by kernel_rfl
theorem cellsPlan : Tryz.prog.cellsOf 25 = 2 := by kernel_rfl
theorem cellsBool : Tryz.prog.cellsOf 4 = 1 := by kernel_rfl
section
variable {H : Type} {enc : TypeId × Value → H} {w : World} {held : Bool} {spare : Nat → Bool}
theorem addrOf {a : Addr} {i : Nat} {v : Value} (h : w.cell? (a.add i) = some v) (h0 : ∃ v0, w.cell? a = some v0) : ∃ b o, a = ⟨b, o, none⟩ ∧ b < w.heap.size ∧ w.cell? ⟨b, o + i, none⟩ = some v := by
  obtain ⟨b, off, spot⟩ := a
  obtain ⟨v0, h0⟩ := h0
  have hspot : spot = none := World.cell?_spot h0
  subst hspot
  refine ⟨b, off, rfl, World.block_lt_of_cell? w _ h0, ?_⟩
  rw [← Go.WideShapes.add_plain]
  exact h
theorem readInts {fuel : Nat} {cs : List Value} {x : DataW H × List MemPlace} (h : DataW.trod enc Tryz.prog w 0 spare held fuel 23 cs = some x) : ∃ r : Rw, cs = [r.val] ∧ r.At w := by
  rcases open_slice1 Tryz.underlying23 cellsInt h with ⟨rfl, _⟩ | ⟨a, len, cap, m, n, V, D, Pl, rfl, hb, hl, hm, hmm, _, hx⟩
  · exact ⟨⟨none, 0, 0, fun _ => 0⟩, rfl, Nat.le_refl _, Nat.zero_le _, fun i hi => absurd hi (Nat.not_lt_zero _)⟩
  · have hlm : len ≤ m := by rw [hmm]; split <;> omega
    obtain ⟨z, hz⟩ := choose_lt (α := Int) (n := len) (p := fun i y => V i = .int .i64 y) (fun i hi => by
      obtain ⟨y, hy, _⟩ := DataW.trod_int Tryz.underlying3 (hx i (by omega)).2
      simp only [List.cons.injEq, and_true] at hy
      exact ⟨y, hy⟩)
    refine ⟨⟨some a, len, cap, z⟩, rfl, hl, hm, fun i hi => ?_⟩
    have hi' : i < len := hi
    have h0 : ∃ v0, w.cell? a = some v0 := ⟨_, by have := (hx 0 (by omega)).1; simpa [Addr.add] using this⟩
    obtain ⟨b, o, rfl, hb', hc⟩ := addrOf (hx i (by omega)).1 h0
    exact ⟨b, o, rfl, hb', by rw [hc, hz i hi']⟩
theorem readRows {fuel : Nat} {cs : List Value} {x : DataW H × List MemPlace} (h : DataW.trod enc Tryz.prog w 0 spare held fuel 26 cs = some x) : ∃ s : Sh, cs = [s.val] ∧ s.At w := by
  rcases open_slice1 Tryz.underlying26 cellsInts h with ⟨rfl, _⟩ | ⟨a, len, cap, m, n, V, D, Pl, rfl, hb, hl, hm, hmm, _, hx⟩
  · exact ⟨⟨none, 0, 0, fun _ => ⟨none, 0, 0, fun _ => 0⟩⟩, rfl, Nat.le_refl _, Nat.zero_le _, fun i hi => absurd hi (Nat.not_lt_zero _)⟩
  · have hlm : len ≤ m := by rw [hmm]; split <;> omega
    haveI : Inhabited Rw := ⟨⟨none, 0, 0, fun _ => 0⟩⟩
    obtain ⟨z, hz⟩ := choose_lt (α := Rw) (n := len) (p := fun i y => V i = y.val ∧ y.At w) (fun i hi => by
      obtain ⟨y, hy, hat⟩ := readInts (hx i (by omega)).2
      simp only [List.cons.injEq, and_true] at hy
      exact ⟨y, hy, hat⟩)
    refine ⟨⟨some a, len, cap, z⟩, rfl, hl, hm, fun i hi => ?_⟩
    have hi' : i < len := hi
    have h0 : ∃ v0, w.cell? a = some v0 := ⟨_, by have := (hx 0 (by omega)).1; simpa [Addr.add] using this⟩
    obtain ⟨b, o, rfl, hb', hc⟩ := addrOf (hx i (by omega)).1 h0
    exact ⟨b, o, rfl, hb', by rw [hc, (hz i hi').1]; rfl, (hz i hi').2⟩
theorem readBin {fuel : Nat} {c0 c1 c2 c3 : Value} {x : DataW H × List MemPlace} (h : DataW.trod enc Tryz.prog w 0 spare held fuel 94 [c0, c1, c2, c3] = some x) : ∃ y : Bin, c0 = .bool y.front ∧ c1 = .int .i64 y.room ∧ c2 = .int .i64 y.low ∧ c3 = .int .i64 y.high := by
  obtain ⟨y0, y1, y2, y3, n, hx, hl, h0, h1, h2, h3⟩ := trod_struct4 Tryz.underlying94 h
  simp only [cellsBool, cellsInt, List.drop_succ_cons, List.drop_zero, List.take_succ_cons, List.take_zero] at h0 h1 h2 h3
  obtain ⟨b, e0, _⟩ := DataW.trod_bool Tryz.underlying4 h0
  obtain ⟨n1, e1, _⟩ := DataW.trod_int Tryz.underlying3 h1
  obtain ⟨n2, e2, _⟩ := DataW.trod_int Tryz.underlying3 h2
  obtain ⟨n3, e3, _⟩ := DataW.trod_int Tryz.underlying3 h3
  simp only [List.cons.injEq, and_true] at e0 e1 e2 e3
  exact ⟨⟨b, n1, n2, n3⟩, e0, e1, e2, e3⟩
theorem cells4 {base : Nat} {a : Addr} {cs : List Value} (h : w.cells? base a 4 = some cs) : ∃ c0 c1 c2 c3, cs = [c0, c1, c2, c3] ∧ w.cell? a = some c0 ∧ w.cell? (a.add 1) = some c1 ∧ w.cell? (a.add 2) = some c2 ∧ w.cell? (a.add 3) = some c3 := by
  obtain ⟨_, hlen, hc⟩ := World.cells?_some h
  match cs, hlen with
  | [c0, c1, c2, c3], _ =>
    refine ⟨c0, c1, c2, c3, rfl, ?_, ?_, ?_, ?_⟩
    · simpa [Addr.add] using hc 0 (by decide)
    · simpa using hc 1 (by decide)
    · simpa using hc 2 (by decide)
    · simpa using hc 3 (by decide)
theorem readBins {fuel : Nat} {cs : List Value} {x : DataW H × List MemPlace} (h : DataW.trod enc Tryz.prog w 0 spare held fuel 22 cs = some x) : ∃ a n c z, cs = [.slice a n c] ∧ n ≤ c ∧ c ≤ maxLen ∧ BinsAt w a n z := by
  rcases open_slice Tryz.underlying22 h with ⟨rfl, _⟩ | ⟨a, len, cap, m, n, D, Pl, rfl, hb, hl, hm, hmm, _, hx⟩
  · exact ⟨none, 0, 0, fun _ => ⟨false, 0, 0, 0⟩, rfl, Nat.le_refl _, Nat.zero_le _, fun i hi => absurd hi (Nat.not_lt_zero _)⟩
  · have hlm : len ≤ m := by rw [hmm]; split <;> omega
    rw [cellsBin] at hx
    haveI : Inhabited Bin := ⟨⟨false, 0, 0, 0⟩⟩
    obtain ⟨z, hz⟩ := choose_lt (α := Bin) (n := len) (p := fun i y => w.cell? (a.add (i * 4)) = some (.bool y.front) ∧ w.cell? (a.add (i * 4 + 1)) = some (.int .i64 y.room) ∧ w.cell? (a.add (i * 4 + 2)) = some (.int .i64 y.low) ∧ w.cell? (a.add (i * 4 + 3)) = some (.int .i64 y.high)) (fun i hi => by
      obtain ⟨cs', hc, ht⟩ := hx i (by omega)
      obtain ⟨c0, c1, c2, c3, rfl, k0, k1, k2, k3⟩ := cells4 hc
      obtain ⟨y, rfl, rfl, rfl, rfl⟩ := readBin ht
      rw [add_add] at k1 k2 k3
      exact ⟨y, k0, k1, k2, k3⟩)
    refine ⟨some a, len, cap, z, rfl, hl, hm, fun i hi => ?_⟩
    have h0 : ∃ v0, w.cell? a = some v0 := ⟨_, by have := (hz 0 (by omega)).1; simpa [Addr.add] using this⟩
    obtain ⟨k0, k1, k2, k3⟩ := hz i hi
    obtain ⟨b, o, rfl, hb', e0⟩ := addrOf k0 h0
    rw [Go.WideShapes.add_plain] at k1 k2 k3
    exact ⟨b, o, rfl, hb', e0, by rw [Nat.add_assoc]; exact k1, by rw [Nat.add_assoc]; exact k2, by rw [Nat.add_assoc]; exact k3⟩
theorem openPlan {r : Reach} {b0 : Nat} {v : Value} {d : DataW H} {ps : List MemPlace} (hv : Value.okWide Tryz.prog w r b0 25 v) (h : DataW.Trod enc Tryz.prog w 0 spare held 25 v d ps) : ∃ p : Pl, v = p.val ∧ p.At w := by
  obtain ⟨c0, c1, y0, y1, m, rfl, rfl, rfl, hy0, hy1⟩ := open_agg2 Tryz.underlying25 (by kernel_rfl) cellsPlan hv h
  obtain ⟨a, n, c, z, e0, h1, h2, h3⟩ := readBins hy0
  obtain ⟨rr, e1, hr⟩ := readInts hy1
  simp only [List.cons.injEq, and_true] at e0 e1
  subst e0 e1
  exact ⟨⟨a, n, c, z, rr.a, rr.n, rr.c, rr.z⟩, rfl, h1, h2, h3, hr.le, hr.cap, hr.ints⟩
end
end Go.Proofs.YtbcacebifpagpadGreat
namespace Go.Proofs.YtbcacebifpagpadGreat
open Go.ChangeShapes Go.WideShapes Go.ChangeAt Go.RowKit Go.Joins Go.Deep
set_option linter.unusedVariables false
set_option maxRecDepth 100000
namespace HoldsFrames
theorem own : ownKnob Tryz.prog.godebug = none := by kernel_rfl
theorem laidOut : laidOutB Tryz.prog = true := by kernel_rfl
theorem cellsInt : Tryz.prog.cellsOf 3 = 1 := by kernel_rfl
theorem cellsHold : Tryz.prog.cellsOf 55 = 4 := by kernel_rfl
section
variable {H : Type} {enc : TypeId × Value → H} {w : World} {held : Bool} {spare : Nat → Bool}
theorem addrOf {a : Addr} {i : Nat} {v : Value} (h : w.cell? (a.add i) = some v) (h0 : ∃ v0, w.cell? a = some v0) : ∃ b o, a = ⟨b, o, none⟩ ∧ b < w.heap.size ∧ w.cell? ⟨b, o + i, none⟩ = some v := by
  obtain ⟨b, off, spot⟩ := a
  obtain ⟨v0, h0⟩ := h0
  have hspot : spot = none := World.cell?_spot h0
  subst hspot
  refine ⟨b, off, rfl, World.block_lt_of_cell? w _ h0, ?_⟩
  rw [← Go.WideShapes.add_plain]
  exact h
theorem cells4 {base : Nat} {a : Addr} {cs : List Value} (h : w.cells? base a 4 = some cs) : ∃ c0 c1 c2 c3, cs = [c0, c1, c2, c3] ∧ w.cell? a = some c0 ∧ w.cell? (a.add 1) = some c1 ∧ w.cell? (a.add 2) = some c2 ∧ w.cell? (a.add 3) = some c3 := by
  obtain ⟨_, hlen, hc⟩ := World.cells?_some h
  match cs, hlen with
  | [c0, c1, c2, c3], _ =>
    refine ⟨c0, c1, c2, c3, rfl, ?_, ?_, ?_, ?_⟩
    · simpa [Addr.add] using hc 0 (by decide)
    · simpa using hc 1 (by decide)
    · simpa using hc 2 (by decide)
    · simpa using hc 3 (by decide)
theorem readHold {fuel : Nat} {c0 c1 c2 c3 : Value} {x : DataW H × List MemPlace} (h : DataW.trod enc Tryz.prog w 0 spare held fuel 55 [c0, c1, c2, c3] = some x) : ∃ y : Hd, c0 = .int .i64 y.o ∧ c1 = .int .i64 y.l ∧ c2 = .int .i64 y.b ∧ c3 = .int .i64 y.n := by
  obtain ⟨y0, y1, y2, y3, n, hx, hl, h0, h1, h2, h3⟩ := trod_struct4 Tryz.underlying55 h
  simp only [cellsInt, List.drop_succ_cons, List.drop_zero, List.take_succ_cons, List.take_zero] at h0 h1 h2 h3
  obtain ⟨n0, e0, _⟩ := DataW.trod_int Tryz.underlying3 h0
  obtain ⟨n1, e1, _⟩ := DataW.trod_int Tryz.underlying3 h1
  obtain ⟨n2, e2, _⟩ := DataW.trod_int Tryz.underlying3 h2
  obtain ⟨n3, e3, _⟩ := DataW.trod_int Tryz.underlying3 h3
  simp only [List.cons.injEq, and_true] at e0 e1 e2 e3
  exact ⟨⟨n0, n1, n2, n3⟩, e0, e1, e2, e3⟩
theorem readHolds {fuel : Nat} {cs : List Value} {x : DataW H × List MemPlace} (h : DataW.trod enc Tryz.prog w 0 spare held fuel 28 cs = some x) : ∃ s : Hs, cs = [s.val] ∧ s.At w := by
  rcases open_slice Tryz.underlying28 h with ⟨rfl, _⟩ | ⟨a, len, cap, m, n, D, Pl, rfl, hb, hl, hm, hmm, _, hx⟩
  · exact ⟨⟨none, 0, 0, fun _ => ⟨0, 0, 0, 0⟩⟩, rfl, Nat.le_refl _, Nat.zero_le _, fun i hi => absurd hi (Nat.not_lt_zero _), fun _ => rfl⟩
  · have hlm : len ≤ m := by rw [hmm]; split <;> omega
    rw [cellsHold] at hx
    haveI : Inhabited Hd := ⟨⟨0, 0, 0, 0⟩⟩
    obtain ⟨z, hz⟩ := choose_lt (α := Hd) (n := len) (p := fun i y => w.cell? (a.add (i * 4)) = some (.int .i64 y.o) ∧ w.cell? (a.add (i * 4 + 1)) = some (.int .i64 y.l) ∧ w.cell? (a.add (i * 4 + 2)) = some (.int .i64 y.b) ∧ w.cell? (a.add (i * 4 + 3)) = some (.int .i64 y.n)) (fun i hi => by
      obtain ⟨cs', hc, ht⟩ := hx i (by omega)
      obtain ⟨c0, c1, c2, c3, rfl, k0, k1, k2, k3⟩ := cells4 hc
      obtain ⟨y, rfl, rfl, rfl, rfl⟩ := readHold ht
      rw [add_add] at k1 k2 k3
      exact ⟨y, k0, k1, k2, k3⟩)
    refine ⟨⟨some a, len, cap, z⟩, rfl, hl, hm, fun i hi => ?_, fun h => by cases h⟩
    have hi' : i < len := hi
    have h0 : ∃ v0, w.cell? a = some v0 := ⟨_, by have := (hz 0 (by omega)).1; simpa [Addr.add] using this⟩
    obtain ⟨k0, k1, k2, k3⟩ := hz i hi'
    obtain ⟨b, o, rfl, hb', e0⟩ := addrOf k0 h0
    rw [Go.WideShapes.add_plain] at k1 k2 k3
    exact ⟨b, o, rfl, hb', e0, by rw [Nat.add_assoc]; exact k1, by rw [Nat.add_assoc]; exact k2, by rw [Nat.add_assoc]; exact k3⟩
end
end HoldsFrames
end Go.Proofs.YtbcacebifpagpadGreat
namespace Go.Proofs.YtbcacebifpagpadGreat
open Go.ChangeShapes Go.WideShapes Go.ChangeAt Go.RowKit Go.Joins Go.Deep
set_option linter.unusedVariables false
set_option maxRecDepth 100000
theorem cellsLine : Tryz.prog.cellsOf 49 = 4 := by kernel_rfl
theorem cellsMove : Tryz.prog.cellsOf 66 = 4 := by kernel_rfl
theorem cellsOrder : Tryz.prog.cellsOf 47 = 2 := by kernel_rfl
theorem cellsState : Tryz.prog.cellsOf 31 = 7 := by kernel_rfl
theorem cellsLines : Tryz.prog.cellsOf 45 = 1 := by kernel_rfl
theorem cellsMoves : Tryz.prog.cellsOf 29 = 1 := by kernel_rfl
theorem cellsOrders : Tryz.prog.cellsOf 27 = 1 := by kernel_rfl
theorem cellsHolds : Tryz.prog.cellsOf 28 = 1 := by kernel_rfl
theorem cellsRows : Tryz.prog.cellsOf 26 = 1 := by kernel_rfl
section
variable {H : Type} {enc : TypeId × Value → H} {w : World} {held : Bool} {spare : Nat → Bool}
theorem readLine {fuel : Nat} {c0 c1 c2 c3 : Value} {x : DataW H × List MemPlace} (h : DataW.trod enc Tryz.prog w 0 spare held fuel 49 [c0, c1, c2, c3] = some x) : ∃ y : Hd, c0 = .int .i64 y.o ∧ c1 = .int .i64 y.l ∧ c2 = .int .i64 y.b ∧ c3 = .int .i64 y.n := by
  obtain ⟨y0, y1, y2, y3, n, hx, hl, h0, h1, h2, h3⟩ := trod_struct4 Tryz.underlying49 h
  simp only [cellsInt, List.drop_succ_cons, List.drop_zero, List.take_succ_cons, List.take_zero] at h0 h1 h2 h3
  obtain ⟨n0, e0, _⟩ := DataW.trod_int Tryz.underlying3 h0
  obtain ⟨n1, e1, _⟩ := DataW.trod_int Tryz.underlying3 h1
  obtain ⟨n2, e2, _⟩ := DataW.trod_int Tryz.underlying3 h2
  obtain ⟨n3, e3, _⟩ := DataW.trod_int Tryz.underlying3 h3
  simp only [List.cons.injEq, and_true] at e0 e1 e2 e3
  exact ⟨⟨n0, n1, n2, n3⟩, e0, e1, e2, e3⟩
theorem readLines {fuel : Nat} {cs : List Value} {x : DataW H × List MemPlace} (h : DataW.trod enc Tryz.prog w 0 spare held fuel 45 cs = some x) : ∃ s : Hs, cs = [s.val] ∧ s.At w := by
  rcases open_slice Tryz.underlying45 h with ⟨rfl, _⟩ | ⟨a, len, cap, m, n, D, Pl, rfl, hb, hl, hm, hmm, _, hx⟩
  · exact ⟨⟨none, 0, 0, fun _ => ⟨0, 0, 0, 0⟩⟩, rfl, Nat.le_refl _, Nat.zero_le _, fun i hi => absurd hi (Nat.not_lt_zero _), fun _ => rfl⟩
  · have hlm : len ≤ m := by rw [hmm]; split <;> omega
    rw [cellsLine] at hx
    haveI : Inhabited Hd := ⟨⟨0, 0, 0, 0⟩⟩
    obtain ⟨z, hz⟩ := choose_lt (α := Hd) (n := len) (p := fun i y => w.cell? (a.add (i * 4)) = some (.int .i64 y.o) ∧ w.cell? (a.add (i * 4 + 1)) = some (.int .i64 y.l) ∧ w.cell? (a.add (i * 4 + 2)) = some (.int .i64 y.b) ∧ w.cell? (a.add (i * 4 + 3)) = some (.int .i64 y.n)) (fun i hi => by
      obtain ⟨cs', hc, ht⟩ := hx i (by omega)
      obtain ⟨c0, c1, c2, c3, rfl, k0, k1, k2, k3⟩ := cells4 hc
      obtain ⟨y, rfl, rfl, rfl, rfl⟩ := readLine ht
      rw [add_add] at k1 k2 k3
      exact ⟨y, k0, k1, k2, k3⟩)
    refine ⟨⟨some a, len, cap, z⟩, rfl, hl, hm, fun i hi => ?_, fun h => by cases h⟩
    have hi' : i < len := hi
    have h0 : ∃ v0, w.cell? a = some v0 := ⟨_, by have := (hz 0 (by omega)).1; simpa [Addr.add] using this⟩
    obtain ⟨k0, k1, k2, k3⟩ := hz i hi'
    obtain ⟨b, o, rfl, hb', e0⟩ := addrOf k0 h0
    rw [Go.WideShapes.add_plain] at k1 k2 k3
    exact ⟨b, o, rfl, hb', e0, by rw [Nat.add_assoc]; exact k1, by rw [Nat.add_assoc]; exact k2, by rw [Nat.add_assoc]; exact k3⟩
theorem readMove {fuel : Nat} {c0 c1 c2 c3 : Value} {x : DataW H × List MemPlace} (h : DataW.trod enc Tryz.prog w 0 spare held fuel 66 [c0, c1, c2, c3] = some x) : ∃ y : Hd, c0 = .int .i64 y.o ∧ c1 = .int .i64 y.l ∧ c2 = .int .i64 y.b ∧ c3 = .int .i64 y.n := by
  obtain ⟨y0, y1, y2, y3, n, hx, hl, h0, h1, h2, h3⟩ := trod_struct4 Tryz.underlying66 h
  simp only [cellsInt, List.drop_succ_cons, List.drop_zero, List.take_succ_cons, List.take_zero] at h0 h1 h2 h3
  obtain ⟨n0, e0, _⟩ := DataW.trod_int Tryz.underlying3 h0
  obtain ⟨n1, e1, _⟩ := DataW.trod_int Tryz.underlying3 h1
  obtain ⟨n2, e2, _⟩ := DataW.trod_int Tryz.underlying3 h2
  obtain ⟨n3, e3, _⟩ := DataW.trod_int Tryz.underlying3 h3
  simp only [List.cons.injEq, and_true] at e0 e1 e2 e3
  exact ⟨⟨n0, n1, n2, n3⟩, e0, e1, e2, e3⟩
theorem readMoves {fuel : Nat} {cs : List Value} {x : DataW H × List MemPlace} (h : DataW.trod enc Tryz.prog w 0 spare held fuel 29 cs = some x) : ∃ s : Hs, cs = [s.val] ∧ s.At w := by
  rcases open_slice Tryz.underlying29 h with ⟨rfl, _⟩ | ⟨a, len, cap, m, n, D, Pl, rfl, hb, hl, hm, hmm, _, hx⟩
  · exact ⟨⟨none, 0, 0, fun _ => ⟨0, 0, 0, 0⟩⟩, rfl, Nat.le_refl _, Nat.zero_le _, fun i hi => absurd hi (Nat.not_lt_zero _), fun _ => rfl⟩
  · have hlm : len ≤ m := by rw [hmm]; split <;> omega
    rw [cellsMove] at hx
    haveI : Inhabited Hd := ⟨⟨0, 0, 0, 0⟩⟩
    obtain ⟨z, hz⟩ := choose_lt (α := Hd) (n := len) (p := fun i y => w.cell? (a.add (i * 4)) = some (.int .i64 y.o) ∧ w.cell? (a.add (i * 4 + 1)) = some (.int .i64 y.l) ∧ w.cell? (a.add (i * 4 + 2)) = some (.int .i64 y.b) ∧ w.cell? (a.add (i * 4 + 3)) = some (.int .i64 y.n)) (fun i hi => by
      obtain ⟨cs', hc, ht⟩ := hx i (by omega)
      obtain ⟨c0, c1, c2, c3, rfl, k0, k1, k2, k3⟩ := cells4 hc
      obtain ⟨y, rfl, rfl, rfl, rfl⟩ := readMove ht
      rw [add_add] at k1 k2 k3
      exact ⟨y, k0, k1, k2, k3⟩)
    refine ⟨⟨some a, len, cap, z⟩, rfl, hl, hm, fun i hi => ?_, fun h => by cases h⟩
    have hi' : i < len := hi
    have h0 : ∃ v0, w.cell? a = some v0 := ⟨_, by have := (hz 0 (by omega)).1; simpa [Addr.add] using this⟩
    obtain ⟨k0, k1, k2, k3⟩ := hz i hi'
    obtain ⟨b, o, rfl, hb', e0⟩ := addrOf k0 h0
    rw [Go.WideShapes.add_plain] at k1 k2 k3
    exact ⟨b, o, rfl, hb', e0, by rw [Nat.add_assoc]; exact k1, by rw [Nat.add_assoc]; exact k2, by rw [Nat.add_assoc]; exact k3⟩
theorem cells2 {base : Nat} {a : Addr} {cs : List Value} (h : w.cells? base a 2 = some cs) : ∃ c0 c1, cs = [c0, c1] ∧ w.cell? a = some c0 ∧ w.cell? (a.add 1) = some c1 := by
  obtain ⟨_, hlen, hc⟩ := World.cells?_some h
  match cs, hlen with
  | [c0, c1], _ =>
    refine ⟨c0, c1, rfl, ?_, ?_⟩
    · simpa [Addr.add] using hc 0 (by decide)
    · simpa using hc 1 (by decide)
theorem readOrder {fuel : Nat} {c0 c1 : Value} {x : DataW H × List MemPlace} (h : DataW.trod enc Tryz.prog w 0 spare held fuel 47 [c0, c1] = some x) : ∃ y : Od, c0 = .int .i64 y.k ∧ c1 = .slice y.ls.a y.ls.n y.ls.c ∧ y.ls.At w := by
  obtain ⟨y0, y1, n, hx, hl, h0, h1⟩ := trod_struct2 Tryz.underlying47 h
  simp only [cellsInt, cellsLines, List.drop_succ_cons, List.drop_zero, List.take_succ_cons, List.take_zero] at h0 h1
  obtain ⟨n0, e0, _⟩ := DataW.trod_int Tryz.underlying3 h0
  obtain ⟨s, e1, hs⟩ := readLines h1
  simp only [List.cons.injEq, and_true] at e0 e1
  exact ⟨⟨n0, s⟩, e0, e1, hs⟩
theorem readOrders {fuel : Nat} {cs : List Value} {x : DataW H × List MemPlace} (h : DataW.trod enc Tryz.prog w 0 spare held fuel 27 cs = some x) : ∃ s : Go.Proofs.YtbcacebifpagpadGreat.Os, cs = [s.val] ∧ s.At w := by
  rcases open_slice Tryz.underlying27 h with ⟨rfl, _⟩ | ⟨a, len, cap, m, n, D, Pl, rfl, hb, hl, hm, hmm, _, hx⟩
  · exact ⟨⟨none, 0, 0, fun _ => ⟨0, ⟨none, 0, 0, fun _ => ⟨0, 0, 0, 0⟩⟩⟩⟩, rfl, Nat.le_refl _, Nat.zero_le _, fun i hi => absurd hi (Nat.not_lt_zero _)⟩
  · have hlm : len ≤ m := by rw [hmm]; split <;> omega
    rw [cellsOrder] at hx
    haveI : Inhabited Od := ⟨⟨0, ⟨none, 0, 0, fun _ => ⟨0, 0, 0, 0⟩⟩⟩⟩
    obtain ⟨z, hz⟩ := choose_lt (α := Od) (n := len) (p := fun i y => w.cell? (a.add (i * 2)) = some (.int .i64 y.k) ∧ w.cell? (a.add (i * 2 + 1)) = some (.slice y.ls.a y.ls.n y.ls.c) ∧ y.ls.At w) (fun i hi => by
      obtain ⟨cs', hc, ht⟩ := hx i (by omega)
      obtain ⟨c0, c1, rfl, k0, k1⟩ := cells2 hc
      obtain ⟨y, rfl, rfl, hy⟩ := readOrder ht
      rw [add_add] at k1
      exact ⟨y, k0, k1, hy⟩)
    refine ⟨⟨some a, len, cap, z⟩, rfl, hl, hm, fun i hi => ?_⟩
    have hi' : i < len := hi
    have h0 : ∃ v0, w.cell? a = some v0 := ⟨_, by have := (hz 0 (by omega)).1; simpa [Addr.add] using this⟩
    obtain ⟨k0, k1, hy⟩ := hz i hi'
    obtain ⟨b, o, rfl, hb', e0⟩ := addrOf k0 h0
    rw [Go.WideShapes.add_plain] at k1
    exact ⟨b, o, rfl, hb', e0, by rw [Nat.add_assoc]; exact k1, hy⟩
theorem array7 {α : Type} {cs : Array α} (h : cs.size = 7) : ∃ c0 c1 c2 c3 c4 c5 c6, cs = #[c0, c1, c2, c3, c4, c5, c6] := by
  obtain ⟨l⟩ := cs
  match l, h with
  | [c0, c1, c2, c3, c4, c5, c6], _ => exact ⟨c0, c1, c2, c3, c4, c5, c6, rfl⟩
theorem openState {r : Reach} {b0 : Nat} {v : Value} {d : DataW H} {ps : List MemPlace} (hv : Value.okWide Tryz.prog w r b0 31 v) (h : DataW.Trod enc Tryz.prog w 0 spare held 31 v d ps) : ∃ s : St, v = s.val ∧ s.At w := by
  obtain ⟨cs, rfl, hsz⟩ := okWide_struct Tryz.underlying31 hv
  obtain ⟨c0, c1, c2, c3, c4, c5, c6, rfl⟩ := array7 (hsz.trans cellsState)
  obtain ⟨fuel, hf⟩ := h
  obtain ⟨xs, n, _, hx, hl, hlen, hg⟩ := DataW.trod_struct Tryz.underlying31 hf
  match xs, hlen with
  | [y0, y1, y2, y3, y4, y5, y6], _ =>
    have k0 := hg 0 _ rfl
    have k1 := hg 1 _ rfl
    have k2 := hg 2 _ rfl
    have k3 := hg 3 _ rfl
    have k4 := hg 4 _ rfl
    have k5 := hg 5 _ rfl
    have k6 := hg 6 _ rfl
    simp [cellsRows, cellsOrders, cellsHolds, cellsMoves, cellsInts, Value.cells] at k0 k1 k2 k3 k4 k5 k6
    obtain ⟨on, e0, h0⟩ := readRows k0
    obtain ⟨os, e1, h1⟩ := readOrders k1
    obtain ⟨hs, e2, h2⟩ := HoldsFrames.readHolds k2
    obtain ⟨ms, e3, h3⟩ := readMoves k3
    obtain ⟨si, e4, h4⟩ := readInts k4
    obtain ⟨so, e5, h5⟩ := readInts k5
    obtain ⟨sf, e6, h6⟩ := readInts k6
    simp only [List.cons.injEq, and_true] at e0 e1 e2 e3 e4 e5 e6
    subst e0 e1 e2 e3 e4 e5 e6
    exact ⟨⟨on, os, hs, ms, si, so, sf⟩, rfl, h0, h1, h2, h3, h4, h5, h6⟩
end
end Go.Proofs.YtbcacebifpagpadGreat

/- What the code enters: recv.Enter. -/
import Derived.Test.YtjiodlbblmbibacRE1J
namespace Go.Proofs.Ytjiodlbblmbibac
open Go.RowKit Go.Shelf Go.Sort
set_option linter.unusedVariables false

theorem OwnS.mono {A A' : Nat} {w : World} {s : St} (h : OwnS A w s) (hA : A' ≤ A) : OwnS A' w s := by
  have i : ∀ {r : Rw}, OwnI A w r → OwnI A' w r := fun ⟨g, a, b, c⟩ => ⟨g, a, Nat.le_trans hA b, c⟩
  refine ⟨?_, fun j hj => i (h.rows j hj), h.rapart, h.os.mono hA, h.hs.mono hA, h.ms.mono hA, h.msr.mono hA, i h.si, i h.so, i h.sf, h.aio, h.aif, h.aof, h.ari⟩
  obtain ⟨g, a, b, c⟩ := h.on
  exact ⟨g, a, Nat.le_trans hA b, c⟩
/-- A state whose orders are others now. -/
theorem OwnS.orders {A B : Nat} {w w' : World} {s : St} {os : Os} (h : OwnS A w s) (hg : Grew B 51 w w') (ho : OwnO A w' os) : OwnS A w' ⟨s.on, os, s.hs, s.ms, s.si, s.so, s.sf⟩ := by
  refine ⟨?_, fun i hi => (h.rows i hi).grew hg (by decide), h.rapart, ho, h.hs.grew hg (by decide), h.ms.grew hg (by decide), h.msr.grew hg (by decide), h.si.grew hg (by decide), h.so.grew hg (by decide), h.sf.grew hg (by decide), h.aio, h.aif, h.aof, h.ari⟩
  obtain ⟨g, a, b, c, d, e⟩ := h.on
  exact ⟨g, a, b, c, d, hg.blk e (by decide)⟩
theorem enter_same {o s : St} {l l' : Hs} {a : Option Addr} {c : Nat} (h : SameT o s) (hn : l'.n = l.n) (hz : ∀ j, j < l.n → l'.z j = l.z j) : SameT ⟨o.on, ⟨a, o.os.n + 1, c, moreO o.os ⟨0, l'⟩⟩, o.hs, o.ms, o.si, o.so, o.sf⟩ (enterT s l) := by
  have hon : o.os.n = s.os.n := h.os.1
  refine ⟨h.on, ⟨by show o.os.n + 1 = s.os.n + 1; omega, fun i hi => ?_⟩, h.hs, h.ms, h.si, h.so, h.sf⟩
  have hi' : i < o.os.n + 1 := hi
  show (moreO o.os ⟨0, l'⟩ i).k = (if i = s.os.n then (⟨0, l⟩ : Od) else s.os.z i).k ∧ (moreO o.os ⟨0, l'⟩ i).ls.n = (if i = s.os.n then (⟨0, l⟩ : Od) else s.os.z i).ls.n ∧ ∀ j, j < (moreO o.os ⟨0, l'⟩ i).ls.n → (moreO o.os ⟨0, l'⟩ i).ls.z j = (if i = s.os.n then (⟨0, l⟩ : Od) else s.os.z i).ls.z j
  unfold moreO
  by_cases hin : i = s.os.n
  · rw [if_pos (by omega), if_pos hin]
    exact ⟨rfl, hn, fun j hj => hz j (by rw [← hn]; exact hj)⟩
  · rw [if_neg (by omega), if_neg hin]
    exact h.os.2 i (by omega)

set_option maxRecDepth 100000 in
set_option maxHeartbeats 8000000 in
theorem Enter_any (p : Pl) (s : St) (l : Hs) (w : World) (hp : p.At w) (hs : s.At w) (hl : l.At w) :
    Calls Try.prog 24 #[p.val, s.val, l.val] w fun e w' => ∃ s' : St, e = .returned (.tuple #[s'.val, .int .i64 (enterE p s l)]) ∧ s'.At w' ∧ ActOK (enterE p s l) (enterT s l) s' ∧ Below w.heap.size w w' := by
  obtain ⟨W0, hW, hWB, X0, Z0⟩ : ∃ W, (((w.alloc (.cells #[.slice p.ab p.nb p.cb, .slice p.sa p.ns p.cs] 25)).alloc (.cells s.cells 31)).alloc (.cells #[.slice .none 0 0, .slice .none 0 0, .slice .none 0 0, .slice .none 0 0, .slice .none 0 0, .slice .none 0 0, .slice .none 0 0] 31)) = W ∧ Below w.heap.size w W ∧ Boxes W w.heap.size (w.heap.size + 1) p s ∧ Blk W (w.heap.size + 2) 31 7 (fun _ => .slice .none 0 0) :=
    ⟨_, rfl, (two_below _ _ _).alloc (by simp; omega) _, (boxes_new w p s _ _).below ((Below.refl _ _).alloc (Nat.le_refl _) _), (Blk.mk' (cur := #[.slice .none 0 0, .slice .none 0 0, .slice .none 0 0, .slice .none 0 0, .slice .none 0 0, .slice .none 0 0, .slice .none 0 0]) (by simp) rfl).congr (fun j hj => by match j, hj with | 0, _ => rfl | 1, _ => rfl | 2, _ => rfl | 3, _ => rfl | 4, _ => rfl | 5, _ => rfl | 6, _ => rfl)⟩
  have HC : Hid (∀ wk, Below W0.heap.size W0 wk → Boxes wk w.heap.size (w.heap.size + 1) p s ∧ p.At wk ∧ s.At wk ∧ Below w.heap.size w wk ∧ Blk wk (w.heap.size + 2) 31 7 (fun _ => .slice .none 0 0) ∧ l.At wk) := fun wk h => ⟨X0.below h, (hp.below hWB).below h, (hs.below hWB).below h, hWB.trans (h.mono hWB.size), Z0.below h, (hl.below hWB).below h⟩
  have HW : Hid (((w.alloc (.cells #[.slice p.ab p.nb p.cb, .slice p.sa p.ns p.cs] 25)).alloc (.cells #[.slice s.on.a s.on.n s.on.c, .slice s.os.a s.os.n s.os.c, .slice s.hs.a s.hs.n s.hs.c, .slice s.ms.a s.ms.n s.ms.c, .slice s.si.a s.si.n s.si.c, .slice s.so.a s.so.n s.so.c, .slice s.sf.a s.sf.n s.sf.c] 31)).alloc (.cells #[.slice .none 0 0, .slice .none 0 0, .slice .none 0 0, .slice .none 0 0, .slice .none 0 0, .slice .none 0 0, .slice .none 0 0] 31) = W0) := hW
  have leb := hp.leb
  have capb0 := hp.capb
  have les := hp.les
  have caps0 := hp.caps
  have capb := capb0
  have caps := caps0
  have zlt0 := Z0.lt
  unfold maxLen at capb caps
  have lle := hl.le
  have lcap0 := hl.cap
  have lcap := lcap0
  unfold maxLen at lcap
  clear hW X0 Z0 hp hs hl
  unfold Pl.val St.val Hs.val
  go_enter Try.func24, Try.ntmps24
  go_wp2_with fail
  rw [HW.out]
  obtain ⟨X, hpk, hsk, hBw, hz, hlk⟩ := HC.out W0 (Below.refl _ _)
  refine (stateCheck_any p s W0 hpk hsk).mono ?_
  rintro e w1 ⟨rfl, hB⟩
  clear X hpk hsk hBw hz hlk HW
  obtain ⟨⟨⟨l1, d0, d1⟩, l2, c0, c1, c2, c3, c4, c5, c6⟩, hpk, hsk, hBw, hz, hlk⟩ := HC.out w1 hB
  by_cases h0 : stateE p s = 0
  · have H0 : Hid (stateE p s = 0) := h0
    have HF : Hid (Formed p s) := (rightT h0).fm
    rw [h0]
    clear h0
    by_cases k1 : s.os.n = 4
    · have HX : Hid (enterE p s l = 2) := enterE_many H0.out (Or.inl k1)
      have q1 : ((s.os.n : Int) == 4) = true := by rw [k1]; rfl
      clear k1
      clear hpk hsk hlk
      have zl := hz.lt
      have zf0 := hz.frozen 0
      have zc0 := hz.cell (j := 0) (by decide)
      have zf1 := hz.frozen 1
      have zc1 := hz.cell (j := 1) (by decide)
      have zf2 := hz.frozen 2
      have zc2 := hz.cell (j := 2) (by decide)
      have zf3 := hz.frozen 3
      have zc3 := hz.cell (j := 3) (by decide)
      have zf4 := hz.frozen 4
      have zc4 := hz.cell (j := 4) (by decide)
      have zf5 := hz.frozen 5
      have zc5 := hz.cell (j := 5) (by decide)
      have zf6 := hz.frozen 6
      have zc6 := hz.cell (j := 6) (by decide)
      go_wp2_with (go_at_call 55; refine calls_to (Within_any _ _ _ _) ?_)
      have KZ := set7_blk hz (.slice .none 0 0) (.slice .none 0 0) (.slice .none 0 0) (.slice .none 0 0) (.slice .none 0 0) (.slice .none 0 0) (.slice .none 0 0)
      have hbz := set7_below (b := w.heap.size + 2) hBw (by omega) (.slice .none 0 0) (.slice .none 0 0) (.slice .none 0 0) (.slice .none 0 0) (.slice .none 0 0) (.slice .none 0 0) (.slice .none 0 0)
      unfold set7 at KZ hbz
      obtain ⟨c0', c1', c2', c3', c4', c5', c6'⟩ := box_cells KZ
      refine bodyPost_ret (v := .tuple #[noneS.val, .int .i64 2]) (by simp [results, Try.results24, go_sem, noneS, St.val, c0', c1', c2', c3', c4', c5', c6']) rfl ?_
      exact ⟨noneS, by rw [HX.out]; rfl, noneS_at _, ⟨fun h => absurd h (by rw [HX.out]; decide), fun _ => ⟨rfl, rfl, rfl, rfl, rfl, rfl, rfl⟩⟩, hbz⟩
    have q1 : ((s.os.n : Int) == 4) = false := by simp; omega
    cases k2 : inB l.n 1 3
    · have HX : Hid (enterE p s l = 2) := enterE_many H0.out (Or.inr (by have := inB_false k2; omega))
      clear k1
      clear hpk hsk hlk
      have zl := hz.lt
      have zf0 := hz.frozen 0
      have zc0 := hz.cell (j := 0) (by decide)
      have zf1 := hz.frozen 1
      have zc1 := hz.cell (j := 1) (by decide)
      have zf2 := hz.frozen 2
      have zc2 := hz.cell (j := 2) (by decide)
      have zf3 := hz.frozen 3
      have zc3 := hz.cell (j := 3) (by decide)
      have zf4 := hz.frozen 4
      have zc4 := hz.cell (j := 4) (by decide)
      have zf5 := hz.frozen 5
      have zc5 := hz.cell (j := 5) (by decide)
      have zf6 := hz.frozen 6
      have zc6 := hz.cell (j := 6) (by decide)
      go_wp2_with (go_at_call 55; refine calls_to (Within_any _ _ _ _) ?_)
      have KZ := set7_blk hz (.slice .none 0 0) (.slice .none 0 0) (.slice .none 0 0) (.slice .none 0 0) (.slice .none 0 0) (.slice .none 0 0) (.slice .none 0 0)
      have hbz := set7_below (b := w.heap.size + 2) hBw (by omega) (.slice .none 0 0) (.slice .none 0 0) (.slice .none 0 0) (.slice .none 0 0) (.slice .none 0 0) (.slice .none 0 0) (.slice .none 0 0)
      unfold set7 at KZ hbz
      obtain ⟨c0', c1', c2', c3', c4', c5', c6'⟩ := box_cells KZ
      refine bodyPost_ret (v := .tuple #[noneS.val, .int .i64 2]) (by simp [results, Try.results24, go_sem, noneS, St.val, c0', c1', c2', c3', c4', c5', c6']) rfl ?_
      exact ⟨noneS, by rw [HX.out]; rfl, noneS_at _, ⟨fun h => absurd h (by rw [HX.out]; decide), fun _ => ⟨rfl, rfl, rfl, rfl, rfl, rfl, rfl⟩⟩, hbz⟩
    have hl3 := inB_true k2
    have HM : Hid (¬ (s.os.n = 4 ∨ ¬ (1 ≤ l.n ∧ l.n ≤ 3))) := by show ¬ _; omega
    clear k1
    have HLK : Hid (l.At w1) := hlk
    clear hz hpk hsk hlk
    go_wp2_with (go_at_call 55; refine calls_to (Within_any _ _ _ _) ?_)
    refine (anyL4 61 #[.pointer (some ⟨w.heap.size, 0, none⟩)] (fun j => outL p (l.z j)) _ _ _ _ lle lcap0 l.z HLK.out.hds (enters_of Try.func61 (by kernel_rfl) rfl) (fun i w2 _ h => Enter1_any w.heap.size p _ w2 les caps0 (Nat.lt_of_lt_of_le l1 h.size) ((h.cell (p := ⟨w.heap.size, 1, none⟩) l1).trans d1))).mono ?_
    rintro e w2 ⟨rfl, hB2⟩
    have hB := hB.trans (hB2.mono hB.size)
    clear l1 d0 d1 l2 c0 c1 c2 c3 c4 c5 c6 hBw hB2 HLK q1 k2
    obtain ⟨⟨⟨l1, d0, d1⟩, l2, c0, c1, c2, c3, c4, c5, c6⟩, hpk, hsk, hBw, hz, hlk⟩ := HC.out w2 hB
    cases k3 : anyB l.n (fun j => outL p (l.z j))
    rotate_left
    · have HX : Hid (enterE p s l = 3) := enterE_range H0.out HM.out k3
      clear k3
      clear hpk hsk hlk
      have zl := hz.lt
      have zf0 := hz.frozen 0
      have zc0 := hz.cell (j := 0) (by decide)
      have zf1 := hz.frozen 1
      have zc1 := hz.cell (j := 1) (by decide)
      have zf2 := hz.frozen 2
      have zc2 := hz.cell (j := 2) (by decide)
      have zf3 := hz.frozen 3
      have zc3 := hz.cell (j := 3) (by decide)
      have zf4 := hz.frozen 4
      have zc4 := hz.cell (j := 4) (by decide)
      have zf5 := hz.frozen 5
      have zc5 := hz.cell (j := 5) (by decide)
      have zf6 := hz.frozen 6
      have zc6 := hz.cell (j := 6) (by decide)
      go_wp2_with fail
      have KZ := set7_blk hz (.slice .none 0 0) (.slice .none 0 0) (.slice .none 0 0) (.slice .none 0 0) (.slice .none 0 0) (.slice .none 0 0) (.slice .none 0 0)
      have hbz := set7_below (b := w.heap.size + 2) hBw (by omega) (.slice .none 0 0) (.slice .none 0 0) (.slice .none 0 0) (.slice .none 0 0) (.slice .none 0 0) (.slice .none 0 0) (.slice .none 0 0)
      unfold set7 at KZ hbz
      obtain ⟨c0', c1', c2', c3', c4', c5', c6'⟩ := box_cells KZ
      refine bodyPost_ret (v := .tuple #[noneS.val, .int .i64 3]) (by simp [results, Try.results24, go_sem, noneS, St.val, c0', c1', c2', c3', c4', c5', c6']) rfl ?_
      exact ⟨noneS, by rw [HX.out]; rfl, noneS_at _, ⟨fun h => absurd h (by rw [HX.out]; decide), fun _ => ⟨rfl, rfl, rfl, rfl, rfl, rfl, rfl⟩⟩, hbz⟩
    have K3 : Hid (¬ anyB l.n (fun j => outL p (l.z j)) = true) := by show ¬ _; rw [k3]; decide
    clear k3
    have HLK : Hid (l.At w2) := hlk
    clear hz hpk hsk hlk
    go_wp2_with fail
    refine (anyL4 62 #[] (fun j => begunL (l.z j)) _ _ _ _ lle lcap0 l.z HLK.out.hds (enters_of Try.func62 (by kernel_rfl) rfl) (fun i w2 _ h => by rw [Array.append_empty]; exact Enter2_any _ _)).mono ?_
    rintro e w3 ⟨rfl, hB2⟩
    have hB := hB.trans (hB2.mono hB.size)
    clear l1 d0 d1 l2 c0 c1 c2 c3 c4 c5 c6 hBw hB2 HLK
    obtain ⟨⟨⟨l1, d0, d1⟩, l2, c0, c1, c2, c3, c4, c5, c6⟩, hpk, hsk, hBw, hz, hlk⟩ := HC.out w3 hB
    cases k4 : anyB l.n (fun j => begunL (l.z j))
    rotate_left
    · have HX : Hid (enterE p s l = 1) := enterE_form H0.out HM.out K3.out k4
      clear k4
      clear hpk hsk hlk
      have zl := hz.lt
      have zf0 := hz.frozen 0
      have zc0 := hz.cell (j := 0) (by decide)
      have zf1 := hz.frozen 1
      have zc1 := hz.cell (j := 1) (by decide)
      have zf2 := hz.frozen 2
      have zc2 := hz.cell (j := 2) (by decide)
      have zf3 := hz.frozen 3
      have zc3 := hz.cell (j := 3) (by decide)
      have zf4 := hz.frozen 4
      have zc4 := hz.cell (j := 4) (by decide)
      have zf5 := hz.frozen 5
      have zc5 := hz.cell (j := 5) (by decide)
      have zf6 := hz.frozen 6
      have zc6 := hz.cell (j := 6) (by decide)
      go_wp2_with fail
      have KZ := set7_blk hz (.slice .none 0 0) (.slice .none 0 0) (.slice .none 0 0) (.slice .none 0 0) (.slice .none 0 0) (.slice .none 0 0) (.slice .none 0 0)
      have hbz := set7_below (b := w.heap.size + 2) hBw (by omega) (.slice .none 0 0) (.slice .none 0 0) (.slice .none 0 0) (.slice .none 0 0) (.slice .none 0 0) (.slice .none 0 0) (.slice .none 0 0)
      unfold set7 at KZ hbz
      obtain ⟨c0', c1', c2', c3', c4', c5', c6'⟩ := box_cells KZ
      refine bodyPost_ret (v := .tuple #[noneS.val, .int .i64 1]) (by simp [results, Try.results24, go_sem, noneS, St.val, c0', c1', c2', c3', c4', c5', c6']) rfl ?_
      exact ⟨noneS, by rw [HX.out]; rfl, noneS_at _, ⟨fun h => absurd h (by rw [HX.out]; decide), fun _ => ⟨rfl, rfl, rfl, rfl, rfl, rfl, rfl⟩⟩, hbz⟩
    have HX : Hid (enterE p s l = 0) := enterE_ok H0.out HM.out K3.out (by rw [k4]; decide)
    clear k4 K3 HM
    have hz0 := hz.lt
    have hcs := copyState_any p s w3 hsk HF.out
    have HCS : Hid _ := hcs
    have HLK : Hid (l.At w3) := hlk
    clear hcs hz hlk hpk hsk
    go_wp2_with fail
    refine Calls.mono HCS.out ?_
    rintro e w4 ⟨o, rfl, hsame, hown, hB2⟩
    clear HCS
    have hB4 := hB.trans (hB2.mono hB.size)
    have q3 := hB.size
    have q4 := hB2.size
    obtain ⟨W5, hW5, hBW5, KW5⟩ : ∃ W, w4.alloc (.cells #[.slice o.on.a o.on.n o.on.c, .slice o.os.a o.os.n o.os.c, .slice o.hs.a o.hs.n o.hs.c, .slice o.ms.a o.ms.n o.ms.c, .slice o.si.a o.si.n o.si.c, .slice o.so.a o.so.n o.so.c, .slice o.sf.a o.sf.n o.sf.c] 31) = W ∧ Below w4.heap.size w4 W ∧ Blk W w4.heap.size 31 7 (fun j => o.cells.getD j default) := ⟨_, rfl, (Below.refl _ _).alloc (Nat.le_refl _) _, Blk.mk' rfl rfl⟩
    have HW5 : Hid (w4.alloc (.cells #[.slice o.on.a o.on.n o.on.c, .slice o.os.a o.os.n o.os.c, .slice o.hs.a o.hs.n o.hs.c, .slice o.ms.a o.ms.n o.ms.c, .slice o.si.a o.si.n o.si.c, .slice o.so.a o.so.n o.so.c, .slice o.sf.a o.sf.n o.sf.c] 31) = W5) := hW5
    have hB5 := hB4.trans (hBW5.mono hB4.size)
    have hown5 := OwnS.below hown hBW5
    have hlk5 := (HLK.out.below hB2).below hBW5
    have q5 := hBW5.size
    have on4 : o.os.n ≤ 4 := by have := HF.out.os4; have : o.os.n = s.os.n := hsame.os.1; omega
    clear l1 d0 d1 l2 c0 c1 c2 c3 c4 c5 c6 hBw hz0 hW5
    simp only [St.val]
    go_wp2_with fail
    rw [HW5.out]
    have HOW : Hid (OwnS w3.heap.size W5 o ∧ Blk W5 w4.heap.size 31 7 (fun j => o.cells.getD j default) ∧ SameT o s) := ⟨hown5, KW5, hsame⟩
    have HL5 : Hid (l.At W5) := hlk5
    have r0 : ∀ d os, (grow (redrawn W5 d) os).cell? ⟨w4.heap.size, 1, none⟩ = some (.slice o.os.a o.os.n o.os.c) := fun d os => cell_regrown (KW5.cell (j := 1) (by decide)) d os
    have xl5 : w4.heap.size < W5.heap.size := KW5.lt
    clear hown hown5 KW5 hsame hlk5 HLK HW5 hBW5 hB2
    obtain ⟨iO, hO, hO0, hO1, hO2⟩ := info_parts infoOrderC
    refine wp_region_made6 (fun w' => ∃ p : Regrown, w' = grow (redrawn W5 p.d) p.os) [0, 1, 2] [3, 4, 5] [(true, 6), (true, 7), (true, 8)] (by kernel_rfl) (by kernel_rfl) (by kernel_rfl) (by kernel_rfl) (by kernel_rfl) (by kernel_rfl) (by kernel_rfl) (by kernel_rfl) (by kernel_rfl) (regrown_of_below ((Below.refl _ _).drew)) ?_
    simp only [picks, List.drop_succ_cons, List.drop_zero, List.take_succ_cons, List.take_zero, List.cons_append, List.nil_append]
    repeat (go_big_quiet_step (fail))
    refine wpQuiet_nil ?_
    clear r0
    refine ⟨fun j v g wk => match j with | 3 => DHs W5.heap.size 53 l v g wk | 4 => D16 W5.heap.size ⟨0, l⟩ v g wk | 5 => D17 W5.heap.size ⟨0, l⟩ v g wk | _ => True,
      List.forall_mem_cons.2 ⟨fun v g w w' hB h => DHs.below h hB, List.forall_mem_cons.2 ⟨fun v g w w' hB h => D16.below h hB, List.forall_mem_cons.2 ⟨fun v g w w' hB h => D17.below h hB, List.forall_mem_nil _⟩⟩⟩,
      List.forall_mem_cons.2 ⟨fun v g w h => by obtain ⟨_, h1, _⟩ := h; rw [h1]; intro x hx; simp at hx, List.forall_mem_cons.2 ⟨fun v g w h => by obtain ⟨_, h1, _⟩ := h; rw [h1]; intro x hx; simp at hx, List.forall_mem_cons.2 ⟨fun v g w h => by obtain ⟨_, _, h1, _⟩ := h; rw [h1]; intro x hx; simp at hx, List.forall_mem_nil _⟩⟩⟩,
      List.forall_mem_cons.2 ⟨?zt3, List.forall_mem_cons.2 ⟨?zt4, List.forall_mem_cons.2 ⟨?zt5, List.forall_mem_nil _⟩⟩⟩, ?ztdone⟩
    case zt3 =>
      intro V G wk K hS hd hA hK
      have hX := below_of_regrown hS
      have q := hX.size
      refine wpOp_list 3 rfl ?_
      simp only [putAll, dstOf, List.getElem?_toArray, List.getElem?_cons_succ, List.getElem?_cons_zero, Act.put, List.setIfInBounds_toArray, List.set_cons_succ, List.set_cons_zero] at hK ⊢
      go_wp2_with fail
      refine (CloneLine_any l wk (HL5.out.below hX) (by omega)).mono ?_
      rintro e w2 ⟨s', rfl, hc, hB2⟩
      have HR : Hid (Cloned W5.heap.size 53 l w2 s') := ⟨hc.1, hc.2.1, hc.2.2.1.mono (by omega), hc.2.2.2.mono (by omega)⟩
      clear hc
      simp only [Hs.val]
      go_wp2_with fail
      exact hK _ [] _ (regrown_of_below (hX.trans (hB2.mono hX.size))) hB2 (fun x hx => by simp at hx) ⟨s', rfl, rfl, HR.out⟩
    case zt4 =>
      intro V G wk K hS hd hA hK
      obtain ⟨s', -, h15, hc⟩ : DHs W5.heap.size 53 l (V 3) (G 3) wk := hd 3 (List.contains_iff_mem.1 (by kernel_rfl)) (by simp)
      have HCL : Hid (Cloned W5.heap.size 53 l wk s') := hc
      clear hc
      refine wpOp_list 4 rfl ?_
      simp only [putAll, dstOf, List.getElem?_toArray, List.getElem?_cons_succ, List.getElem?_cons_zero, Act.put, List.setIfInBounds_toArray, List.set_cons_succ, List.set_cons_zero, h15] at hK ⊢
      go_wp2_with fail
      exact hK _ [] _ hS (Below.refl _ _) (fun x hx => by simp at hx) ⟨s', rfl, rfl, HCL.out⟩
    case zt5 =>
      intro V G wk K hS hd hA hK
      have hX := below_of_regrown hS
      obtain ⟨s', -, h16, hc⟩ : D16 W5.heap.size ⟨0, l⟩ (V 4) (G 4) wk := hd 4 (List.contains_iff_mem.1 (by kernel_rfl)) (by simp)
      have HCL : Hid (Cloned W5.heap.size 53 l wk s') := hc
      clear hc
      refine wpOp_list 5 rfl ?_
      simp only [putAll, dstOf, List.getElem?_toArray, List.getElem?_cons_succ, List.getElem?_cons_zero, Act.put, List.setIfInBounds_toArray, List.set_cons_succ, List.set_cons_zero, h16] at hK ⊢
      go_wp2_with fail
      have hBa := (Below.refl wk.heap.size wk).alloc (Nat.le_refl _) (.cells #[.int .i64 0, .slice s'.a s'.n s'.c] 51)
      exact hK _ [] _ (regrown_of_below (hX.alloc hX.size _)) ((Below.refl _ _).alloc (Nat.le_refl _) _) (fun x hx => by simp at hx) ⟨wk.heap.size, s', rfl, rfl, hX.size, Blk.mk' rfl rfl, HCL.out.1, HCL.out.2.1, HCL.out.2.2.1.below hBa, HCL.out.2.2.2.below hBa⟩
    case ztdone =>
      intro V G' wk hS hD hA
      obtain ⟨BO, s', -, h17, m17, k17, e1, e2, ⟨o1, o2, o3, o4⟩, -⟩ : D17 W5.heap.size ⟨0, l⟩ (V 5) (G' 5) wk := hD 5 (by simp)
      have hX := below_of_regrown hS
      have q1 := hX.size
      obtain ⟨gB, ea, hgB, kB⟩ := o4 (by rw [e1]; show 0 < l.n; omega)
      obtain ⟨hO5, K5, hsame⟩ := HOW.out
      have hO6 := OwnS.below hO5 hX
      have K6 := K5.below hX
      have hBk := hB5.trans (hX.mono hB5.size)
      have HE : Hid (s'.n = l.n ∧ (∀ j, j < l.n → s'.z j = l.z j) ∧ s'.a = some ⟨gB, 0, none⟩ ∧ s'.n ≤ s'.c ∧ s'.c ≤ maxLen ∧ Blk wk gB 53 (s'.n * 4) (fun j => (flatH s'.n s'.z).getD j default) ∧ SameT o s ∧ W5.heap.size ≤ gB) := ⟨e1, e2, ea, o1, o2, kB, hsame, hgB⟩
      have HOK : Hid (OwnS w3.heap.size wk o ∧ OwnS w3.heap.size W5 o) := ⟨hO6, hO5⟩
      have HK6 : Hid (Blk wk w4.heap.size 31 7 (fun j => o.cells.getD j default)) := K6
      have HBk : Hid (Below W0.heap.size W0 wk) := hBk
      have HK17 : Hid (Blk wk BO 51 2 (fun j => (#[.int .i64 0, .slice s'.a s'.n s'.c] : Array Value).getD j default)) := k17
      clear hS hD hA e1 e2 ea o1 o2 o3 o4 kB hO5 K5 hsame hO6 K6 hBk k17 hB5
      simp only [putAll, dstOf, List.getElem?_toArray, List.getElem?_cons_succ, List.getElem?_cons_zero, Act.put, List.setIfInBounds_toArray, List.set_cons_succ, List.set_cons_zero, h17]
      refine wpSeq_one 6 rfl ?_
      go_wp2_with (at_builtin; refine wpList_append_room wk rfl (.tmp 45) (.tmp 49) 27 rfl w3.heap.size 51 iO (.agg #[.int .i64 0, .slice none 0 0]) 2 32 Try.underlying27 hO hO0 hO1 hO2 rfl (by decide) o.os.a o.os.n o.os.c (flatO o.os.n o.os.z) rfl HOK.out.1.os.room HOK.out.1.os.le HOK.out.1.os.cap (flatO_len _ _) HOK.out.1.os.list ⟨BO, 0, none⟩ 1 1 [.int .i64 0, .slice s'.a s'.n s'.c] rfl rfl ?zc1 ?zc2 (by decide) ?zc3 ?zc4 ?zc5 ?_)
      case zc1 =>
        intro j u hj
        match j, hj with
        | 0, hj => simp at hj; subst hj; exact HK17.out.cell (j := 0) (by decide)
        | 1, hj => simp at hj; subst hj; exact HK17.out.cell (j := 1) (by decide)
      case zc2 => intro u hu; simp at hu; rcases hu with rfl | rfl <;> rfl
      case zc3 => unfold maxLen; omega
      case zc4 => omega
      case zc5 => omega
      intro v2 w2 hown2 hgrow2
      obtain ⟨e1, e2, ea, o1, o2, kB, hsame, hgB⟩ := HE.out
      obtain ⟨va, vc, rfl, hOO⟩ := OwnO.more (x := ⟨0, s'⟩) HOK.out.1.os hown2 hgrow2 ea (by omega) o1 o2 kB (fun i hi e => by
        obtain ⟨B, x1, x2, x3, x4, x5⟩ := HOK.out.2.os.lines i hi
        rw [x1] at e
        have e' := e.trans ea
        simp only [Option.some.injEq, Addr.mk.injEq, and_true] at e'
        have := x5.lt
        omega)
      have hOS2 := HOK.out.1.orders hgrow2 hOO
      have hB7 := hgrow2.below HBk.out (by omega) (by have := HBk.out.size; omega)
      have K7 := hgrow2.blk HK6.out (by decide)
      have xl := K7.lt
      have zf9 := K7.frozen 1
      have zc9 := K7.cell (j := 1) (by decide)
      have K8 := K7.set 1 (.slice va (o.os.n + 1) vc)
      have hO8 := hOS2.box K7 1 (.slice va (o.os.n + 1) vc)
      have hB8 := hB7.setCell (p := ⟨w4.heap.size, 1, none⟩) (by show W0.heap.size ≤ w4.heap.size; omega) (.slice va (o.os.n + 1) vc)
      have HSM : Hid (SameT ⟨o.on, ⟨va, o.os.n + 1, vc, moreO o.os ⟨0, s'⟩⟩, o.hs, o.ms, o.si, o.so, o.sf⟩ (enterT s l)) := enter_same hsame e1 e2
      obtain ⟨-, -, -, hBw8, hz8, -⟩ := HC.out _ hB8
      have HEND : Hid (OwnS w3.heap.size (w2.setCell ⟨w4.heap.size, 1, none⟩ (.slice va (o.os.n + 1) vc)) ⟨o.on, ⟨va, o.os.n + 1, vc, moreO o.os ⟨0, s'⟩⟩, o.hs, o.ms, o.si, o.so, o.sf⟩ ∧ Below w.heap.size w (w2.setCell ⟨w4.heap.size, 1, none⟩ (.slice va (o.os.n + 1) vc)) ∧ Blk (w2.setCell ⟨w4.heap.size, 1, none⟩ (.slice va (o.os.n + 1) vc)) (w.heap.size + 2) 31 7 (fun _ => .slice .none 0 0)) := ⟨hO8, hBw8, hz8⟩
      have m8 := K8.lt
      have e0' : (w2.setCell ⟨w4.heap.size, 1, none⟩ (.slice va (o.os.n + 1) vc)).cell? ⟨w4.heap.size, 0, none⟩ = some (.slice o.on.a o.on.n o.on.c) := K8.cell (j := 0) (by decide)
      have e1' : (w2.setCell ⟨w4.heap.size, 1, none⟩ (.slice va (o.os.n + 1) vc)).cell? ⟨w4.heap.size, 1, none⟩ = some (.slice va (o.os.n + 1) vc) := K8.cell (j := 1) (by decide)
      have e2' : (w2.setCell ⟨w4.heap.size, 1, none⟩ (.slice va (o.os.n + 1) vc)).cell? ⟨w4.heap.size, 2, none⟩ = some (.slice o.hs.a o.hs.n o.hs.c) := K8.cell (j := 2) (by decide)
      have e3' : (w2.setCell ⟨w4.heap.size, 1, none⟩ (.slice va (o.os.n + 1) vc)).cell? ⟨w4.heap.size, 3, none⟩ = some (.slice o.ms.a o.ms.n o.ms.c) := K8.cell (j := 3) (by decide)
      have e4' : (w2.setCell ⟨w4.heap.size, 1, none⟩ (.slice va (o.os.n + 1) vc)).cell? ⟨w4.heap.size, 4, none⟩ = some (.slice o.si.a o.si.n o.si.c) := K8.cell (j := 4) (by decide)
      have e5' : (w2.setCell ⟨w4.heap.size, 1, none⟩ (.slice va (o.os.n + 1) vc)).cell? ⟨w4.heap.size, 5, none⟩ = some (.slice o.so.a o.so.n o.so.c) := K8.cell (j := 5) (by decide)
      have e6' : (w2.setCell ⟨w4.heap.size, 1, none⟩ (.slice va (o.os.n + 1) vc)).cell? ⟨w4.heap.size, 6, none⟩ = some (.slice o.sf.a o.sf.n o.sf.c) := K8.cell (j := 6) (by decide)
      have zl := hz8.lt
      have zf0 := hz8.frozen 0
      have zc0 := hz8.cell (j := 0) (by decide)
      have zf1 := hz8.frozen 1
      have zc1 := hz8.cell (j := 1) (by decide)
      have zf2 := hz8.frozen 2
      have zc2 := hz8.cell (j := 2) (by decide)
      have zf3 := hz8.frozen 3
      have zc3 := hz8.cell (j := 3) (by decide)
      have zf4 := hz8.frozen 4
      have zc4 := hz8.cell (j := 4) (by decide)
      have zf5 := hz8.frozen 5
      have zc5 := hz8.cell (j := 5) (by decide)
      have zf6 := hz8.frozen 6
      have zc6 := hz8.cell (j := 6) (by decide)
      clear hown2 hgrow2 hOO hOS2 hB7 K7 K8 hO8 hB8 hBw8 hz8 HE HOK HK6 HBk HK17 kB hsame e1 e2 ea o1 o2 hgB hX
      refine wpList_end ⟨Late.yes, ?_⟩
      refine wpSeq_one 7 rfl ?_
      go_wp2_with fail
      refine ⟨Late.yes, ?_⟩
      refine wpSeq_one 8 rfl ?_
      go_wp2_with fail
      refine ⟨Late.yes, ?_⟩
      refine NoPanic.normal ?_
      go_wp2_with fail
      obtain ⟨hOt, hBw, hz⟩ := HEND.out
      have KZ := set7_blk hz (.slice o.on.a o.on.n o.on.c) (.slice va (o.os.n + 1) vc) (.slice o.hs.a o.hs.n o.hs.c) (.slice o.ms.a o.ms.n o.ms.c) (.slice o.si.a o.si.n o.si.c) (.slice o.so.a o.so.n o.so.c) (.slice o.sf.a o.sf.n o.sf.c)
      have hbz := set7_below (b := w.heap.size + 2) hBw (by omega) (.slice o.on.a o.on.n o.on.c) (.slice va (o.os.n + 1) vc) (.slice o.hs.a o.hs.n o.hs.c) (.slice o.ms.a o.ms.n o.ms.c) (.slice o.si.a o.si.n o.si.c) (.slice o.so.a o.so.n o.so.c) (.slice o.sf.a o.sf.n o.sf.c)
      have hOz := OwnS.set7 hOt hz (.slice o.on.a o.on.n o.on.c) (.slice va (o.os.n + 1) vc) (.slice o.hs.a o.hs.n o.hs.c) (.slice o.ms.a o.ms.n o.ms.c) (.slice o.si.a o.si.n o.si.c) (.slice o.so.a o.so.n o.so.c) (.slice o.sf.a o.sf.n o.sf.c)
      unfold set7 at KZ hbz hOz
      obtain ⟨c0', c1', c2', c3', c4', c5', c6'⟩ := box_cells KZ
      refine bodyPost_ret (v := .tuple #[(⟨o.on, ⟨va, o.os.n + 1, vc, moreO o.os ⟨0, s'⟩⟩, o.hs, o.ms, o.si, o.so, o.sf⟩ : St).val, .int .i64 0]) (by simp [results, Try.results24, go_sem, St.val, c0', c1', c2', c3', c4', c5', c6']) rfl ?_
      exact ⟨⟨o.on, ⟨va, o.os.n + 1, vc, moreO o.os ⟨0, s'⟩⟩, o.hs, o.ms, o.si, o.so, o.sf⟩, by rw [HX.out]; rfl, hOz.at, ⟨fun _ => HSM.out, fun h => absurd HX.out h⟩, hbz⟩
  · have HX : Hid (enterE p s l = stateE p s) := enterE_state h0
    clear hpk hsk hlk c0 c1 c2 c3 c4 c5 c6
    have zl := hz.lt
    have zf0 := hz.frozen 0
    have zc0 := hz.cell (j := 0) (by decide)
    have zf1 := hz.frozen 1
    have zc1 := hz.cell (j := 1) (by decide)
    have zf2 := hz.frozen 2
    have zc2 := hz.cell (j := 2) (by decide)
    have zf3 := hz.frozen 3
    have zc3 := hz.cell (j := 3) (by decide)
    have zf4 := hz.frozen 4
    have zc4 := hz.cell (j := 4) (by decide)
    have zf5 := hz.frozen 5
    have zc5 := hz.cell (j := 5) (by decide)
    have zf6 := hz.frozen 6
    have zc6 := hz.cell (j := 6) (by decide)
    go_wp2_with fail
    have KZ := set7_blk hz (.slice .none 0 0) (.slice .none 0 0) (.slice .none 0 0) (.slice .none 0 0) (.slice .none 0 0) (.slice .none 0 0) (.slice .none 0 0)
    have hbz := set7_below (b := w.heap.size + 2) hBw (by omega) (.slice .none 0 0) (.slice .none 0 0) (.slice .none 0 0) (.slice .none 0 0) (.slice .none 0 0) (.slice .none 0 0) (.slice .none 0 0)
    unfold set7 at KZ hbz
    obtain ⟨c0', c1', c2', c3', c4', c5', c6'⟩ := box_cells KZ
    refine bodyPost_ret (v := .tuple #[noneS.val, .int .i64 (stateE p s)]) (by simp [results, Try.results24, go_sem, noneS, St.val, c0', c1', c2', c3', c4', c5', c6']) rfl ?_
    exact ⟨noneS, by rw [HX.out]; rfl, noneS_at _, ⟨fun h => absurd h (by rw [HX.out]; exact h0), fun _ => ⟨rfl, rfl, rfl, rfl, rfl, rfl, rfl⟩⟩, hbz⟩

end Go.Proofs.Ytjiodlbblmbibac

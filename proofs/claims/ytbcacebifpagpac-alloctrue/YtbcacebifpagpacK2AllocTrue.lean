/- Texts that were built one behind the other, joined; what AllocTrue does not reach is left out. -/
import Derived.Test.YtbcacebifpagpacK1AllocTrue
import Derived.Maps.AppendAt
import Derived.ArgAppend
import Derived.Deep.Upon
import Derived.Lib.SliceRun
import Derived.RangeFuncBox
import Derived.RangeFuncLeaves
import Derived.Shelf.Abstract
import Derived.WalkKit
import Derived.OwnWalkIn
import Derived.TacticsInMore
import Derived.LoopNIn
import Derived.LoopIn
import Derived.RangeFuncNested
namespace Go.Proofs.Ytbcacebifpagpac
open Go.RowKit Go.Shelf Go.Sort
set_option linter.unusedVariables false
structure SameT (s t : St) : Prop where
  on : s.on.n = t.on.n ∧ ∀ i, i < s.on.n → (s.on.r i).n = (t.on.r i).n ∧ ∀ j, j < (s.on.r i).n → (s.on.r i).z j = (t.on.r i).z j
  os : s.os.n = t.os.n ∧ ∀ i, i < s.os.n → (s.os.z i).k = (t.os.z i).k ∧ (s.os.z i).ls.n = (t.os.z i).ls.n ∧ ∀ j, j < (s.os.z i).ls.n → (s.os.z i).ls.z j = (t.os.z i).ls.z j
  hs : s.hs.n = t.hs.n ∧ ∀ j, j < s.hs.n → s.hs.z j = t.hs.z j
  ms : s.ms.n = t.ms.n ∧ ∀ j, j < s.ms.n → s.ms.z j = t.ms.z j
  si : s.si.n = t.si.n ∧ ∀ j, j < s.si.n → s.si.z j = t.si.z j
  so : s.so.n = t.so.n ∧ ∀ j, j < s.so.n → s.so.z j = t.so.z j
  sf : s.sf.n = t.sf.n ∧ ∀ j, j < s.sf.n → s.sf.z j = t.sf.z j
def Boxed (w : World) (B : Nat) (s : St) : Prop :=
  B < w.heap.size ∧ w.cell? ⟨B, 0, none⟩ = some (.slice s.on.a s.on.n s.on.c) ∧ w.cell? ⟨B, 1, none⟩ = some (.slice s.os.a s.os.n s.os.c) ∧ w.cell? ⟨B, 2, none⟩ = some (.slice s.hs.a s.hs.n s.hs.c) ∧
    w.cell? ⟨B, 3, none⟩ = some (.slice s.ms.a s.ms.n s.ms.c) ∧ w.cell? ⟨B, 4, none⟩ = some (.slice s.si.a s.si.n s.si.c) ∧ w.cell? ⟨B, 5, none⟩ = some (.slice s.so.a s.so.n s.so.c) ∧ w.cell? ⟨B, 6, none⟩ = some (.slice s.sf.a s.sf.n s.sf.c)
theorem Boxed.of {w : World} {B : Nat} {e : TypeId} {s : St} (h : Blk w B e 7 (fun j => s.cells.getD j default)) : Boxed w B s :=
  ⟨h.lt, h.cell (j := 0) (by decide), h.cell (j := 1) (by decide), h.cell (j := 2) (by decide), h.cell (j := 3) (by decide), h.cell (j := 4) (by decide), h.cell (j := 5) (by decide), h.cell (j := 6) (by decide)⟩
theorem order_stored {A w : World} {B : Nat} {e : TypeId} {f : Nat → Value} (hY : Blk w B e 2 f) (hX : Below A.heap.size A w) (hB : A.heap.size ≤ B) (k : Int) (v : Value) :
    ∃ W, (w.setCell ⟨B, 0, none⟩ (.int .i64 k)).setCell ⟨B, 1, none⟩ v = W ∧ Below A.heap.size A W ∧ Blk W B e 2 (fun j => (#[.int .i64 k, v] : Array Value).getD j default) ∧ ∀ g t n f', g ≠ B → Blk w g t n f' → Blk W g t n f' :=
  ⟨_, rfl, (hX.setCell (p := ⟨B, 0, none⟩) hB _).setCell (p := ⟨B, 1, none⟩) hB _, ((hY.set 0 _).set 1 _).congr (fun j hj => by match j, hj with | 0, _ => rfl | 1, _ => rfl),
    fun g t n f' hne h => (h.other (a := ⟨B, 0, none⟩) hne _).other (a := ⟨B, 1, none⟩) hne _⟩
set_option maxRecDepth 100000 in
set_option maxHeartbeats 4000000 in
theorem SameStates_yes (s t : St) (w : World) (hs : s.At w) (ht : t.At w) (h : SameT s t) (ho4 : s.os.n ≤ 1000) (hm8 : s.ms.n ≤ 1000) (hl3 : ∀ i, i < s.os.n → (s.os.z i).ls.n ≤ 1000) :
    Calls Try.prog 18 #[s.val, t.val] w fun e w' => e = .returned (.bool true) ∧ Below w.heap.size w w' := by
  obtain ⟨W0, hW, hWB, X0, Y0⟩ : ∃ W, ((w.alloc (.cells s.cells 31)).alloc (.cells t.cells 31)) = W ∧ Below w.heap.size w W ∧ Blk W w.heap.size 31 7 (fun j => s.cells.getD j default) ∧ Blk W (w.heap.size + 1) 31 7 (fun j => t.cells.getD j default) :=
    ⟨_, rfl, two_below _ _ _, (Blk.mk' rfl rfl).alloc _, Blk.mk' (by simp) rfl⟩
  have HC : Hid (∀ wk, Below W0.heap.size W0 wk → Boxed wk w.heap.size s ∧ Boxed wk (w.heap.size + 1) t ∧ s.At wk ∧ t.At wk ∧ Below w.heap.size w wk) := fun wk h => ⟨Boxed.of (X0.below h), Boxed.of (Y0.below h), (hs.below hWB).below h, (ht.below hWB).below h, hWB.trans (h.mono hWB.size)⟩
  have HW : Hid ((w.alloc (.cells #[.slice s.on.a s.on.n s.on.c, .slice s.os.a s.os.n s.os.c, .slice s.hs.a s.hs.n s.hs.c, .slice s.ms.a s.ms.n s.ms.c, .slice s.si.a s.si.n s.si.c, .slice s.so.a s.so.n s.so.c, .slice s.sf.a s.sf.n s.sf.c] 31)).alloc (.cells #[.slice t.on.a t.on.n t.on.c, .slice t.os.a t.os.n t.os.c, .slice t.hs.a t.hs.n t.hs.c, .slice t.ms.a t.ms.n t.ms.c, .slice t.si.a t.si.n t.si.c, .slice t.so.a t.so.n t.so.c, .slice t.sf.a t.sf.n t.sf.c] 31) = W0) := hW
  have HS : Hid (SameT s t) := h
  have ole := hs.os.le
  have ocap := hs.os.cap
  have mle := hs.ms.le
  have mcap := hs.ms.cap
  have ole2 := ht.os.le
  have ocap2 := ht.os.cap
  have mle2 := ht.ms.le
  have mcap2 := ht.ms.cap
  unfold maxLen at ocap mcap ocap2 mcap2
  have n1 : ((s.os.n : Int) != (t.os.n : Int)) = false := by rw [h.os.1]; simp
  have n2 : ((s.ms.n : Int) != (t.ms.n : Int)) = false := by rw [h.ms.1]; simp
  have HL3 : Hid (∀ i, i < s.os.n → (s.os.z i).ls.n ≤ 1000) := hl3
  clear hW X0 Y0 hs ht h hl3
  unfold St.val
  go_enter Try.func18, Try.ntmps18
  go_wp2_with fail
  rw [HW.out]
  obtain ⟨X, Y, hsk, htk, hBw⟩ := HC.out W0 (Below.refl _ _)
  refine (SameRows_yes s.on t.on W0 hsk.on htk.on HS.out.on.1 HS.out.on.2).mono ?_
  rintro e w1 ⟨rfl, hB⟩
  clear X Y hsk htk hBw HW
  obtain ⟨⟨l1, c0, c1, c2, c3, c4, c5, c6⟩, ⟨l2, d0, d1, d2, d3, d4, d5, d6⟩, hsk, htk, hBw⟩ := HC.out w1 hB
  go_wp2_with fail
  refine (SameHolds_yes s.hs t.hs w1 hsk.hs htk.hs HS.out.hs.1 HS.out.hs.2).mono ?_
  rintro e w2 ⟨rfl, hB2⟩
  have hB := hB.trans (hB2.mono hB.size)
  clear l1 c0 c1 c2 c3 c4 c5 c6 l2 d0 d1 d2 d3 d4 d5 d6 hsk htk hBw hB2
  obtain ⟨⟨l1, c0, c1, c2, c3, c4, c5, c6⟩, ⟨l2, d0, d1, d2, d3, d4, d5, d6⟩, hsk, htk, hBw⟩ := HC.out w2 hB
  go_wp2_with fail
  refine (SameInts_yes s.si t.si w2 hsk.si htk.si HS.out.si.1 HS.out.si.2).mono ?_
  rintro e w3 ⟨rfl, hB2⟩
  have hB := hB.trans (hB2.mono hB.size)
  clear l1 c0 c1 c2 c3 c4 c5 c6 l2 d0 d1 d2 d3 d4 d5 d6 hsk htk hBw hB2
  obtain ⟨⟨l1, c0, c1, c2, c3, c4, c5, c6⟩, ⟨l2, d0, d1, d2, d3, d4, d5, d6⟩, hsk, htk, hBw⟩ := HC.out w3 hB
  go_wp2_with fail
  refine (SameInts_yes s.so t.so w3 hsk.so htk.so HS.out.so.1 HS.out.so.2).mono ?_
  rintro e w4 ⟨rfl, hB2⟩
  have hB := hB.trans (hB2.mono hB.size)
  clear l1 c0 c1 c2 c3 c4 c5 c6 l2 d0 d1 d2 d3 d4 d5 d6 hsk htk hBw hB2
  obtain ⟨⟨l1, c0, c1, c2, c3, c4, c5, c6⟩, ⟨l2, d0, d1, d2, d3, d4, d5, d6⟩, hsk, htk, hBw⟩ := HC.out w4 hB
  go_wp2_with fail
  refine (SameInts_yes s.sf t.sf w4 hsk.sf htk.sf HS.out.sf.1 HS.out.sf.2).mono ?_
  rintro e w5 ⟨rfl, hB2⟩
  have hB := hB.trans (hB2.mono hB.size)
  clear l1 c0 c1 c2 c3 c4 c5 c6 l2 d0 d1 d2 d3 d4 d5 d6 hsk htk hBw hB2
  go_wp2_with fail
  go_loopw [5] (fun i wk => ∃ k : Nat, k ≤ s.os.n ∧ i = .int .i64 k ∧ Below W0.heap.size W0 wk) (fun i _ => s.os.n - (intOf i).toNat)
  case atStart => exact ⟨0, Nat.zero_le _, rfl, hB⟩
  case round =>
    clear hB
    obtain ⟨i, hi, rfl, hB⟩ := hrel
    obtain ⟨⟨l1, c0, c1, c2, c3, c4, c5, c6⟩, ⟨l2, d0, d1, d2, d3, d4, d5, d6⟩, hsk, htk, hBw⟩ := HC.out wr hB
    by_cases hlt : i < s.os.n
    · have hlt2 : i < t.os.n := by rw [← HS.out.os.1]; exact hlt
      have qi : (0 : Int) ≤ (i : Int) := by omega
      obtain ⟨b1, o1, hoa, hb1, y0, y1, hl⟩ := hsk.os.ods i hlt
      obtain ⟨b2, o2, hob, hb2, x0, x1, hm⟩ := htk.os.ods i hlt2
      obtain ⟨e1, e2, e3⟩ := HS.out.os.2 i hlt
      have hn3 := HL3.out i hlt
      rw [hoa] at c1
      rw [hob] at d1
      have r0 : ∀ d os, (grow (redrawn wr d) os).cell? ⟨w.heap.size, 1, none⟩ = some (.slice (some ⟨b1, o1, none⟩) s.os.n s.os.c) := fun d os => cell_regrown c1 d os
      have r1 : ∀ d os, (grow (redrawn wr d) os).cell? ⟨w.heap.size + 1, 1, none⟩ = some (.slice (some ⟨b2, o2, none⟩) t.os.n t.os.c) := fun d os => cell_regrown d1 d os
      have r2 : ∀ d os, (grow (redrawn wr d) os).cell? ⟨b1, o1 + i * 2, none⟩ = some (.int .i64 (s.os.z i).k) := fun d os => cell_regrown y0 d os
      have r3 : ∀ d os, (grow (redrawn wr d) os).cell? ⟨b1, o1 + i * 2 + 1, none⟩ = some (.slice (s.os.z i).ls.a (s.os.z i).ls.n (s.os.z i).ls.c) := fun d os => cell_regrown y1 d os
      rw [← e1] at x0
      have r4 : ∀ d os, (grow (redrawn wr d) os).cell? ⟨b2, o2 + i * 2, none⟩ = some (.int .i64 (s.os.z i).k) := fun d os => cell_regrown x0 d os
      have r5 : ∀ d os, (grow (redrawn wr d) os).cell? ⟨b2, o2 + i * 2 + 1, none⟩ = some (.slice (t.os.z i).ls.a (t.os.z i).ls.n (t.os.z i).ls.c) := fun d os => cell_regrown x1 d os
      have HLM : Hid ((s.os.z i).ls.At wr ∧ (t.os.z i).ls.At wr) := ⟨hl, hm⟩
      have HE : Hid ((s.os.z i).ls.n = (t.os.z i).ls.n ∧ ∀ j, j < (s.os.z i).ls.n → (s.os.z i).ls.z j = (t.os.z i).ls.z j) := ⟨e2, e3⟩
      clear hoa hob hl hm e1 e2 e3 c0 c2 c3 c4 c5 c6 d0 d2 d3 d4 d5 d6 hsk htk y0 y1 x0 x1 d1
      generalize (s.os.z i).k = KD at *
      generalize (s.os.z i).ls = LS at *
      generalize (t.os.z i).ls = LT at *
      go_wp2_with fail
      refine wp_region_made5 (fun w' => ∃ p : Regrown, w' = grow (redrawn wr p.d) p.os) (List.range 10) [10, 11] [(false, 12), (true, 13)] (by kernel_rfl) (by kernel_rfl) (by kernel_rfl) (by kernel_rfl) (by kernel_rfl) (by kernel_rfl) (by kernel_rfl) (by kernel_rfl) (by kernel_rfl) (regrown_of_below ((Below.refl _ _).drew)) ?_
      rw [show List.range 10 = [0, 1, 2, 3, 4, 5, 6, 7, 8, 9] from rfl]
      simp only [picks, List.drop_succ_cons, List.drop_zero, List.take_succ_cons, List.take_zero, List.cons_append, List.nil_append]
      repeat (go_big_quiet_step (fail))
      refine wpQuiet_nil ?_
      refine ⟨fun j v g wk => ∃ B, g = [B] ∧ v = .pointer (some ⟨B, 0, none⟩) ∧ wr.heap.size ≤ B ∧ Blk wk B 51 2 (fun j => (#[.int .i64 0, .slice .none 0 0] : Array Value).getD j default), List.forall_mem_cons.2 ⟨?zm, List.forall_mem_cons.2 ⟨?zm2, List.forall_mem_nil _⟩⟩, List.forall_mem_cons.2 ⟨?zl, List.forall_mem_cons.2 ⟨?zl2, List.forall_mem_nil _⟩⟩, List.forall_mem_cons.2 ⟨?zs10, List.forall_mem_cons.2 ⟨?zs11, List.forall_mem_nil _⟩⟩, ?zdone⟩
      case zm | zm2 => intro v g w w' hB h; obtain ⟨B, h0, h1, h2, h3⟩ := h; exact ⟨B, h0, h1, h2, h3.below hB⟩
      case zl | zl2 => intro v g w h; obtain ⟨B, rfl, h1, h2, h3⟩ := h; intro x hx; rw [List.mem_singleton] at hx; subst hx; exact h3.lt
      case zs10 =>
        intro V G wk K hS hd hK
        have hX := below_of_regrown hS
        refine wpOp_list 10 rfl ?_
        simp only [putAll, dstOf, List.getElem?_toArray, List.getElem?_cons_succ, List.getElem?_cons_zero, Act.put, List.setIfInBounds_toArray, List.set_cons_succ, List.set_cons_zero] at hK ⊢
        go_wp2_with fail
        exact hK _ [wk.heap.size] _ (regrown_of_below (hX.alloc hX.size _)) ((Below.refl _ _).alloc (Nat.le_refl _) _) (fun x hx => by rw [List.mem_singleton] at hx; omega) ⟨wk.heap.size, rfl, rfl, hX.size, Blk.mk' rfl rfl⟩
      case zs11 =>
        intro V G wk K hS hd hK
        have hX := below_of_regrown hS
        refine wpOp_list 11 rfl ?_
        simp only [putAll, dstOf, List.getElem?_toArray, List.getElem?_cons_succ, List.getElem?_cons_zero, Act.put, List.setIfInBounds_toArray, List.set_cons_succ, List.set_cons_zero] at hK ⊢
        go_wp2_with fail
        exact hK _ [wk.heap.size] _ (regrown_of_below (hX.alloc hX.size _)) ((Below.refl _ _).alloc (Nat.le_refl _) _) (fun x hx => by rw [List.mem_singleton] at hx; omega) ⟨wk.heap.size, rfl, rfl, hX.size, Blk.mk' rfl rfl⟩
      case zdone =>
        intro V G wk hS hD hA
        obtain ⟨B6, g6, h6, m6, k6⟩ := hD 10 (by simp)
        obtain ⟨B7, g7, h7, m7, k7⟩ := hD 11 (by simp)
        have hne : B6 ≠ B7 := fun e => hA 10 (by simp) 11 (by simp) (by decide) B6 (by rw [g6]; simp) (by rw [g7, e]; simp)
        have hX := below_of_regrown hS
        clear hS hD hA g6 g7 r0 r1 r2 r3 r4 r5
        have f0 := k6.frozen 0
        have f1 := k6.frozen 1
        have e0 := k6.cell (j := 0) (by decide)
        have e1 := k6.cell (j := 1) (by decide)
        have hl6 := k6.lt
        simp only [putAll, dstOf, List.getElem?_toArray, List.getElem?_cons_succ, List.getElem?_cons_zero, Act.put, List.setIfInBounds_toArray, List.set_cons_succ, List.set_cons_zero, h6, h7]
        refine wpSeq_one 12 rfl ?_
        go_wp2_with fail
        obtain ⟨W5, hW5, hX5, hY5, keep⟩ := order_stored k6 hX m6 KD (.slice LS.a LS.n LS.c)
        have k7 := keep _ _ _ _ hne.symm k7
        rw [hW5]
        refine ⟨Late.no (regrown_of_below hX5), ?_⟩
        clear hW5 hX k6 keep f0 f1 e0 e1 hl6 h6 h7
        have f0 := k7.frozen 0
        have f1 := k7.frozen 1
        have e0 := k7.cell (j := 0) (by decide)
        have e1 := k7.cell (j := 1) (by decide)
        have hl6 := k7.lt
        refine wpSeq_one 13 rfl ?_
        go_wp2_with fail
        obtain ⟨W6, hW6, hX6, hY7, keep⟩ := order_stored k7 hX5 m7 KD (.slice LT.a LT.n LT.c)
        have hY6 := keep _ _ _ _ hne hY5
        rw [hW6]
        refine ⟨Late.yes, ?_⟩
        refine NoPanic.normal ?_
        have hB6 := hB.trans (hX6.mono hB.size)
        have HLL : Hid (LS.At W6 ∧ LT.At W6) := ⟨HLM.out.1.below hX6, HLM.out.2.below hX6⟩
        clear hW6 hX5 hX6 k7 keep f0 f1 e0 e1 hl6 hY5 HLM hB m6 m7
        have HD : Hid (∀ wk, Below W6.heap.size W6 wk → (wk.cell? ⟨B6, 0, none⟩ = some (.int .i64 KD) ∧ wk.cell? ⟨B6, 1, none⟩ = some (.slice LS.a LS.n LS.c) ∧ B6 < wk.heap.size) ∧ (wk.cell? ⟨B7, 0, none⟩ = some (.int .i64 KD) ∧ wk.cell? ⟨B7, 1, none⟩ = some (.slice LT.a LT.n LT.c) ∧ B7 < wk.heap.size) ∧ LS.At wk ∧ LT.At wk ∧ Below W0.heap.size W0 wk) :=
          fun wk h => ⟨⟨(hY6.below h).cell (j := 0) (by decide), (hY6.below h).cell (j := 1) (by decide), (hY6.below h).lt⟩, ⟨(hY7.below h).cell (j := 0) (by decide), (hY7.below h).cell (j := 1) (by decide), (hY7.below h).lt⟩, HLL.out.1.below h, HLL.out.2.below h, hB6.trans (h.mono hB6.size)⟩
        clear hY6 hY7 HLL
        obtain ⟨⟨p0, p1, p2⟩, ⟨q0, q1, q2⟩, hls, hlt', hBz⟩ := HD.out W6 (Below.refl _ _)
        have lle := hls.le
        have lcap := hls.cap
        have mle3 := hlt'.le
        have mcap3 := hlt'.cap
        unfold maxLen at lcap mcap3
        have n3 : ((LS.n : Int) != (LT.n : Int)) = false := by rw [HE.out.1]; simp
        clear hls hlt' hBz
        go_wp2_with fail
        clear p0 p1 p2 q0 q1 q2
        go_loopw [8] (fun i0 wk => ∃ k : Nat, k ≤ LS.n ∧ i0 = .int .i64 k ∧ Below W6.heap.size W6 wk) (fun i0 _ => LS.n - (intOf i0).toNat)
        case atStart => exact ⟨0, Nat.zero_le _, rfl, Below.refl _ _⟩
        case round =>
          obtain ⟨j, hj, rfl, hB⟩ := hrel
          obtain ⟨⟨p0, p1, p2⟩, ⟨q0, q1, q2⟩, hls, hlt', hBz⟩ := HD.out wr hB
          by_cases hlj : j < LS.n
          · have hlj2 : j < LT.n := by rw [← HE.out.1]; exact hlj
            have qj : (0 : Int) ≤ (j : Int) := by omega
            obtain ⟨b3, o3, hla, hb3, y0, y1, y2, y3⟩ := hls.hds j hlj
            obtain ⟨b4, o4, hlb, hb4, x0, x1, x2, x3⟩ := hlt'.hds j hlj2
            rw [← HE.out.2 j hlj] at x0 x1 x2 x3
            rw [hla] at p1
            rw [hlb] at q1
            generalize LS.z j = Z at *
            clear hla hlb hls hlt' p0 q0
            go_wp2_with fail
            go_quiet (fail)
            go_wp2_with fail
            go_roundw
            case rel => exact ⟨j + 1, by omega, by go_num, below_drewN hB _⟩
            case measure => simp [intOf]; omega
          · clear hls hlt'
            go_wp2_with fail
            go_roundw
            case rel => exact ⟨i + 1, by omega, by go_num, hBz⟩
            case measure => simp [intOf]; omega
    · go_wp2_with fail
      clear l1 c0 c1 c2 c3 c4 c5 c6 l2 d0 d1 d2 d3 d4 d5 d6 hsk htk hBw hi hlt
      go_loopw [9] (fun i0 wk => ∃ k : Nat, k ≤ s.ms.n ∧ i0 = .int .i64 k ∧ Below W0.heap.size W0 wk) (fun i0 _ => s.ms.n - (intOf i0).toNat)
      case atStart => exact ⟨0, Nat.zero_le _, rfl, hB⟩
      case round =>
        clear hB
        obtain ⟨j, hj, rfl, hB⟩ := hrel
        obtain ⟨⟨l1, c0, c1, c2, c3, c4, c5, c6⟩, ⟨l2, d0, d1, d2, d3, d4, d5, d6⟩, hsk, htk, hBw⟩ := HC.out wr hB
        by_cases hlj : j < s.ms.n
        · have hlj2 : j < t.ms.n := by rw [← HS.out.ms.1]; exact hlj
          have qj : (0 : Int) ≤ (j : Int) := by omega
          obtain ⟨b3, o3, hla, hb3, y0, y1, y2, y3⟩ := hsk.ms.hds j hlj
          obtain ⟨b4, o4, hlb, hb4, x0, x1, x2, x3⟩ := htk.ms.hds j hlj2
          rw [← HS.out.ms.2 j hlj] at x0 x1 x2 x3
          rw [hla] at c3
          rw [hlb] at d3
          generalize s.ms.z j = Z at *
          clear hla hlb hsk htk c0 c1 c2 c4 c5 c6 d0 d1 d2 d4 d5 d6
          go_wp2_with fail
          go_quiet (fail)
          go_wp2_with fail
          go_roundw
          case rel => exact ⟨j + 1, by omega, by go_num, below_drewN hB _⟩
          case measure => simp [intOf]; omega
        · clear hsk htk
          go_wp2_with fail
          go_ret
          exact ⟨rfl, hBw⟩
end Go.Proofs.Ytbcacebifpagpac
namespace Go.Proofs.Ytbcacebifpagpac
open Go.RowKit Go.Shelf Go.Sort
set_option linter.unusedVariables false
theorem stateE_shelf {p : Pl} {s : St} (h : ¬ shelfE p s.on = 0) : stateE p s = shelfE p s.on := by unfold stateE; rw [if_neg h]
theorem stateE_many {p : Pl} {s : St} (h : shelfE p s.on = 0) (h1 : tooManyB s = true) : stateE p s = 2 := by unfold stateE; rw [if_pos h, if_pos h1]
theorem stateE_form {p : Pl} {s : St} (h : shelfE p s.on = 0) (h1 : tooManyB s = false) (h2 : badOrdersB p s = true ∨ badHoldsB p s = true ∨ badMovesB p s = true ∨ badSumsB p s = true) : stateE p s = 1 := by
  unfold stateE
  rw [if_pos h, h1, if_neg (by decide), if_pos (by rcases h2 with h2 | h2 | h2 | h2 <;> simp [h2])]
theorem stateE_sum {p : Pl} {s : St} (h : shelfE p s.on = 0) (h1 : tooManyB s = false) (h2 : badOrdersB p s = false) (h3 : badHoldsB p s = false) (h4 : badMovesB p s = false) (h5 : badSumsB p s = false) : stateE p s = if wrongGoodsB p s || wrongOrdersB s then 7 else 0 := by
  unfold stateE
  rw [if_pos h, h1, if_neg (by decide), h2, h3, h4, h5, if_neg (by decide)]
set_option maxHeartbeats 4000000 in
theorem stateCheck_any (p : Pl) (s : St) (w : World) (hp : p.At w) (hs : s.At w) :
    Calls Try.prog 14 #[p.val, s.val] w fun e w' => e = .returned (.int .i64 (stateE p s)) ∧ Below w.heap.size w w' := by
  obtain ⟨W0, hW, hWB, X0⟩ : ∃ W, ((w.alloc (.cells #[.slice p.ab p.nb p.cb, .slice p.sa p.ns p.cs] 25)).alloc (.cells s.cells 31)) = W ∧ Below w.heap.size w W ∧ Boxes W w.heap.size (w.heap.size + 1) p s := ⟨_, rfl, two_below _ _ _, boxes_new w p s _ _⟩
  have HC : Hid (∀ wk, Below W0.heap.size W0 wk → Boxes wk w.heap.size (w.heap.size + 1) p s ∧ p.At wk ∧ s.At wk ∧ Below w.heap.size w wk) := fun wk h => ⟨X0.below h, (hp.below hWB).below h, (hs.below hWB).below h, hWB.trans (h.mono hWB.size)⟩
  have HW : Hid ((w.alloc (.cells #[.slice p.ab p.nb p.cb, .slice p.sa p.ns p.cs] 25)).alloc (.cells #[.slice s.on.a s.on.n s.on.c, .slice s.os.a s.os.n s.os.c, .slice s.hs.a s.hs.n s.hs.c, .slice s.ms.a s.ms.n s.ms.c, .slice s.si.a s.si.n s.si.c, .slice s.so.a s.so.n s.so.c, .slice s.sf.a s.sf.n s.sf.c] 31) = W0) := hW
  clear hW X0
  unfold Pl.val St.val
  go_enter Try.func14, Try.ntmps14
  go_wp2_with fail
  rw [HW.out]
  have hB : Below W0.heap.size W0 W0 := Below.refl _ _
  obtain ⟨X, hpk, hsk, hBw⟩ := HC.out W0 hB
  refine (shelfCheck_any p s.on W0 hpk hsk.on).mono ?_
  rintro e w1 ⟨rfl, hB1⟩
  have hB := hB.trans (hB1.mono hB.size)
  clear hB1 X hpk hsk hBw
  obtain ⟨X, hpk, hsk, hBw⟩ := HC.out w1 hB
  by_cases h0 : shelfE p s.on = 0
  · have E1 : Hid (shelfE p s.on = 0) := h0
    rw [h0]
    clear h0
    obtain ⟨⟨l1, d0, d1⟩, l2, c0, c1, c2, c3, c4, c5, c6⟩ := X
    go_wp2_with fail
    refine (tooMany_any s _ hsk).mono ?_
    rintro e w2 ⟨rfl, hB1⟩
    have hBn := hB.trans (hB1.mono hB.size)
    clear l1 d0 d1 l2 c0 c1 c2 c3 c4 c5 c6 hpk hsk hBw hB hB1
    have hB := hBn
    clear hBn
    obtain ⟨X, hpk, hsk, hBw⟩ := HC.out w2 hB
    cases hh2 : tooManyB s
    · have E2 : Hid (tooManyB s = false) := hh2
      clear hh2
      obtain ⟨⟨l1, d0, d1⟩, l2, c0, c1, c2, c3, c4, c5, c6⟩ := X
      go_wp2_with fail
      refine (badOrders_any p s _ hpk hsk).mono ?_
      rintro e w3 ⟨rfl, hB1⟩
      have hBn := hB.trans (hB1.mono hB.size)
      clear l1 d0 d1 l2 c0 c1 c2 c3 c4 c5 c6 hpk hsk hBw hB hB1
      have hB := hBn
      clear hBn
      obtain ⟨X, hpk, hsk, hBw⟩ := HC.out w3 hB
      cases hh3 : badOrdersB p s
      · have E3 : Hid (badOrdersB p s = false) := hh3
        clear hh3
        obtain ⟨⟨l1, d0, d1⟩, l2, c0, c1, c2, c3, c4, c5, c6⟩ := X
        go_wp2_with fail
        refine (badHolds_any p s _ hpk hsk).mono ?_
        rintro e w4 ⟨rfl, hB1⟩
        have hBn := hB.trans (hB1.mono hB.size)
        clear l1 d0 d1 l2 c0 c1 c2 c3 c4 c5 c6 hpk hsk hBw hB hB1
        have hB := hBn
        clear hBn
        obtain ⟨X, hpk, hsk, hBw⟩ := HC.out w4 hB
        cases hh4 : badHoldsB p s
        · have E4 : Hid (badHoldsB p s = false) := hh4
          clear hh4
          obtain ⟨⟨l1, d0, d1⟩, l2, c0, c1, c2, c3, c4, c5, c6⟩ := X
          go_wp2_with fail
          refine (badMoves_any p s _ hpk hsk).mono ?_
          rintro e w5 ⟨rfl, hB1⟩
          have hBn := hB.trans (hB1.mono hB.size)
          clear l1 d0 d1 l2 c0 c1 c2 c3 c4 c5 c6 hpk hsk hBw hB hB1
          have hB := hBn
          clear hBn
          obtain ⟨X, hpk, hsk, hBw⟩ := HC.out w5 hB
          cases hh5 : badMovesB p s
          · have E5 : Hid (badMovesB p s = false) := hh5
            clear hh5
            obtain ⟨⟨l1, d0, d1⟩, l2, c0, c1, c2, c3, c4, c5, c6⟩ := X
            go_wp2_with fail
            refine (badSums_any p s _ hpk hsk).mono ?_
            rintro e w6 ⟨rfl, hB1⟩
            have hBn := hB.trans (hB1.mono hB.size)
            clear l1 d0 d1 l2 c0 c1 c2 c3 c4 c5 c6 hpk hsk hBw hB hB1
            have hB := hBn
            clear hBn
            obtain ⟨X, hpk, hsk, hBw⟩ := HC.out w6 hB
            cases hh6 : badSumsB p s
            · have E6 : Hid (badSumsB p s = false) := hh6
              clear hh6
              have HF : Formed p s := formed E1.out E2.out E3.out E4.out E5.out E6.out
              obtain ⟨⟨l1, d0, d1⟩, l2, c0, c1, c2, c3, c4, c5, c6⟩ := X
              go_wp2_with fail
              refine (wrongGoods_any p s _ hpk hsk HF).mono ?_
              rintro e w7 ⟨rfl, hB1⟩
              have hBn := hB.trans (hB1.mono hB.size)
              clear l1 d0 d1 l2 c0 c1 c2 c3 c4 c5 c6 hpk hsk hBw hB hB1
              have hB := hBn
              clear hBn
              obtain ⟨X, hpk, hsk, hBw⟩ := HC.out w7 hB
              cases hh7 : wrongGoodsB p s
              · have E7 : Hid (wrongGoodsB p s = false) := hh7
                clear hh7
                obtain ⟨⟨l1, d0, d1⟩, l2, c0, c1, c2, c3, c4, c5, c6⟩ := X
                go_wp2_with fail
                refine (wrongOrders_any p s _ hsk HF).mono ?_
                rintro e w8 ⟨rfl, hB1⟩
                have hBn := hB.trans (hB1.mono hB.size)
                clear l1 d0 d1 l2 c0 c1 c2 c3 c4 c5 c6 hpk hsk hBw hB hB1
                have hB := hBn
                clear hBn
                obtain ⟨X, hpk, hsk, hBw⟩ := HC.out w8 hB
                cases hh8 : wrongOrdersB s
                · have E8 : Hid (wrongOrdersB s = false) := hh8
                  clear hh8
                  go_wp2_with fail
                  go_ret
                  exact ⟨by rw [stateE_sum E1.out E2.out E3.out E4.out E5.out E6.out, E7.out, E8.out]; rfl, hBw⟩
                · have E8 : Hid (wrongOrdersB s = true) := hh8
                  clear hh8
                  go_wp2_with fail
                  go_ret
                  exact ⟨by rw [stateE_sum E1.out E2.out E3.out E4.out E5.out E6.out, E8.out, Bool.or_true]; rfl, hBw⟩
              · have E7 : Hid (wrongGoodsB p s = true) := hh7
                clear hh7
                go_wp2_with fail
                go_ret
                exact ⟨by rw [stateE_sum E1.out E2.out E3.out E4.out E5.out E6.out, E7.out]; rfl, hBw⟩
            · have E6 : Hid (badSumsB p s = true) := hh6
              clear hh6
              go_wp2_with fail
              go_ret
              exact ⟨by rw [stateE_form E1.out E2.out (.inr (.inr (.inr E6.out)))]; rfl, hBw⟩
          · have E5 : Hid (badMovesB p s = true) := hh5
            clear hh5
            go_wp2_with fail
            go_ret
            exact ⟨by rw [stateE_form E1.out E2.out (.inr (.inr (.inl E5.out)))]; rfl, hBw⟩
        · have E4 : Hid (badHoldsB p s = true) := hh4
          clear hh4
          go_wp2_with fail
          go_ret
          exact ⟨by rw [stateE_form E1.out E2.out (.inr (.inl E4.out))]; rfl, hBw⟩
      · have E3 : Hid (badOrdersB p s = true) := hh3
        clear hh3
        go_wp2_with fail
        go_ret
        exact ⟨by rw [stateE_form E1.out E2.out (.inl E3.out)]; rfl, hBw⟩
    · have E2 : Hid (tooManyB s = true) := hh2
      clear hh2
      go_wp2_with fail
      go_ret
      exact ⟨by rw [stateE_many E1.out E2.out]; rfl, hBw⟩
  · have HE : Hid (stateE p s = shelfE p s.on) := stateE_shelf h0
    go_wp2_with fail
    go_ret
    exact ⟨by rw [HE.out]; rfl, hBw⟩
end Go.Proofs.Ytbcacebifpagpac
namespace Go.Proofs.Ytbcacebifpagpac
open Go.RowKit Go.Shelf Go.Sort
set_option linter.unusedVariables false
def availE (p : Pl) (s : St) (bin good : Int) : Int := if stateE p s = 0 then (if inB bin 0 ((p.nb : Int) - 1) && inB good 0 ((p.ns : Int) - 1) then 0 else 3) else stateE p s
def availV (p : Pl) (s : St) (bin good : Int) : Int := if availE p s bin good = 0 then availZ s bin.toNat good.toNat else 0
set_option maxHeartbeats 4000000 in
theorem Avail_any (p : Pl) (s : St) (bin good : Int) (w : World) (hp : p.At w) (hs : s.At w) :
    Calls Try.prog 12 #[p.val, s.val, .int .i64 bin, .int .i64 good] w fun e w' => e = .returned (.tuple #[.int .i64 (availV p s bin good), .int .i64 (availE p s bin good)]) ∧ Below w.heap.size w w' := by
  obtain ⟨W0, hW, hWB, X0⟩ : ∃ W, ((w.alloc (.cells #[.slice p.ab p.nb p.cb, .slice p.sa p.ns p.cs] 25)).alloc (.cells s.cells 31)) = W ∧ Below w.heap.size w W ∧ Boxes W w.heap.size (w.heap.size + 1) p s := ⟨_, rfl, two_below _ _ _, boxes_new w p s _ _⟩
  have HC : Hid (∀ wk, Below W0.heap.size W0 wk → Boxes wk w.heap.size (w.heap.size + 1) p s ∧ p.At wk ∧ s.At wk ∧ Below w.heap.size w wk) := fun wk h => ⟨X0.below h, (hp.below hWB).below h, (hs.below hWB).below h, hWB.trans (h.mono hWB.size)⟩
  have HW : Hid ((w.alloc (.cells #[.slice p.ab p.nb p.cb, .slice p.sa p.ns p.cs] 25)).alloc (.cells #[.slice s.on.a s.on.n s.on.c, .slice s.os.a s.os.n s.os.c, .slice s.hs.a s.hs.n s.hs.c, .slice s.ms.a s.ms.n s.ms.c, .slice s.si.a s.si.n s.si.c, .slice s.so.a s.so.n s.so.c, .slice s.sf.a s.sf.n s.sf.c] 31) = W0) := hW
  have hnb : p.nb ≤ maxLen := Nat.le_trans hp.leb hp.capb
  have hns : p.ns ≤ maxLen := Nat.le_trans hp.les hp.caps
  clear hW X0
  unfold Pl.val St.val
  go_enter Try.func12, Try.ntmps12
  go_wp2_with fail
  rw [HW.out]
  obtain ⟨X, hpk, hsk, hBw⟩ := HC.out W0 (Below.refl _ _)
  refine (stateCheck_any p s W0 hpk hsk).mono ?_
  rintro e w1 ⟨rfl, hB⟩
  clear X hpk hsk hBw
  obtain ⟨X, hpk, hsk, hBw⟩ := HC.out w1 hB
  obtain ⟨⟨l1, d0, d1⟩, l2, c0, c1, c2, c3, c4, c5, c6⟩ := X
  by_cases h0 : stateE p s = 0
  · have HR : Hid (RightT p s) := rightT h0
    have H0 : Hid (stateE p s = 0) := h0
    rw [h0]
    clear h0
    cases h1 : inB bin 0 ((p.nb : Int) - 1)
    · have HE : Hid (availE p s bin good = 3 ∧ availV p s bin good = 0) := by
        have e : availE p s bin good = 3 := by unfold availE; rw [if_pos H0.out, h1]; rfl
        exact ⟨e, by unfold availV; rw [e]; rfl⟩
      go_wp2_with (go_at_call 30; refine calls_to (Has_any _ _ _ (by assumption)) ?_)
      go_ret2
      exact ⟨by rw [HE.out.1, HE.out.2]; rfl, hBw⟩
    · cases h2 : inB good 0 ((p.ns : Int) - 1)
      · have HE : Hid (availE p s bin good = 3 ∧ availV p s bin good = 0) := by
          have e : availE p s bin good = 3 := by unfold availE; rw [if_pos H0.out, h2, Bool.and_false]; rfl
          exact ⟨e, by unfold availV; rw [e]; rfl⟩
        go_wp2_with (go_at_call 30; refine calls_to (Has_any _ _ _ (by assumption)) ?_)
        go_ret2
        exact ⟨by rw [HE.out.1, HE.out.2]; rfl, hBw⟩
      · have HE : Hid (availE p s bin good = 0 ∧ availV p s bin good = availZ s bin.toNat good.toNat) := by
          have e : availE p s bin good = 0 := by unfold availE; rw [if_pos H0.out, h1, h2]; rfl
          exact ⟨e, by unfold availV; rw [e]; rfl⟩
        obtain ⟨b, hb⟩ := Int.eq_ofNat_of_zero_le (inB_true h1).1
        obtain ⟨g, hg⟩ := Int.eq_ofNat_of_zero_le (inB_true h2).1
        have hbn : b < p.nb := by have := (inB_true h1).2; omega
        have hgn : g < p.ns := by have := (inB_true h2).2; omega
        subst hb hg
        go_wp2_with (go_at_call 30; refine calls_to (Has_any _ _ _ (by assumption)) ?_)
        refine (avail_any p s b g w1 hsk HR.out.fm hbn hgn).mono ?_
        rintro e w2 ⟨rfl, hB2⟩
        go_wp2_with fail
        go_ret2
        exact ⟨by rw [HE.out.1, HE.out.2]; rfl, hBw.trans (hB2.mono hBw.size)⟩
  · have HE : Hid (availE p s bin good = stateE p s ∧ availV p s bin good = 0) := by
      have e : availE p s bin good = stateE p s := by unfold availE; rw [if_neg h0]
      exact ⟨e, by unfold availV; rw [e, if_neg h0]⟩
    go_wp2_with fail
    go_ret2
    exact ⟨by rw [HE.out.1, HE.out.2]; rfl, hBw⟩
end Go.Proofs.Ytbcacebifpagpac
namespace Go.Proofs.Ytbcacebifpagpac
open Go.RowKit
set_option linter.unusedVariables false
theorem pos_exists {z : Nat → Hd} {h : Hd} (hf : fineH h = true) : ∀ n, anyB n (badH z) = false → ∃ i, PosH n z h i
  | 0, _ => ⟨0, Nat.le_refl _, fun q hq => absurd hq (Nat.not_lt_zero _), fun q _ hq => absurd hq (Nat.not_lt_zero _)⟩
  | n + 1, hr => by
    obtain ⟨i, hp⟩ := pos_exists hf n (right_pred hr)
    have hle := hp.le
    by_cases hi : i = n
    · by_cases hc : cmpH (z n) h < 0
      · exact ⟨n + 1, Nat.le_refl _, fun q hq => by
          by_cases hqn : q = n
          · subst hqn; exact hc
          · exact hp.lo q (by omega), fun q h1 h2 => by omega⟩
      · refine ⟨n, by omega, fun q hq => hp.lo q (by omega), fun q h1 h2 => ?_⟩
        have : q = n := by omega
        subst this; omega
    · refine ⟨i, by omega, hp.lo, fun q h1 h2 => ?_⟩
      by_cases hqn : q = n
      · subst hqn
        have a := hp.hi i (Nat.le_refl _) (by omega)
        have k1 := (cmp_key (right_fine hr i (by omega)) hf).1
        have k2 := (cmp_key (right_fine hr q (by omega)) hf).1
        have k3 := right_lt hr i q (by omega) (by omega)
        omega
      · exact hp.hi q h1 (by omega)
theorem pos_key {n : Nat} {z : Nat → Hd} {h : Hd} (hr : anyB n (badH z) = false) (hf : fineH h = true) :
    addPos n z h ≤ n ∧ (∀ j, j < addPos n z h → keyH (z j) < keyH h) ∧ (∀ j, addPos n z h ≤ j → j < n → keyH h ≤ keyH (z j)) := by
  obtain ⟨i, hp⟩ := pos_exists hf n hr
  rw [addPos_eq hp]
  have hle := hp.le
  refine ⟨hp.le, fun j hj => ?_, fun j hj hjn => ?_⟩
  · have := hp.lo j hj
    have := (cmp_key (right_fine hr j (by omega)) hf).1
    omega
  · have := hp.hi j hj hjn
    have := (cmp_key (right_fine hr j hjn) hf).1
    omega
theorem key_match {x y : Hd} (hx : fineH x = true) (hy : fineH y = true) (h : keyH x = keyH y) : matchH x y.o y.l y.b = true := by
  have a := fineH_true hx
  have b := fineH_true hy
  unfold keyH at h
  have h1 : x.o = y.o := by omega
  have h2 : x.l = y.l := by omega
  have h3 : x.b = y.b := by omega
  simp [matchH, h1, h2, h3]
theorem right_mk {n : Nat} {z : Nat → Hd} (hf : ∀ i, i < n → fineH (z i) = true) (hs : ∀ i, i + 1 < n → keyH (z i) < keyH (z (i + 1))) : anyB n (badH z) = false := by
  rw [← bad_eq]
  refine anyB_no fun j hj => ?_
  unfold badK
  rw [hf j hj]
  by_cases h0 : 0 < j
  · have := hs (j - 1) (by omega)
    rw [show j - 1 + 1 = j by omega] at this
    simp only [Bool.not_true, Bool.false_or, Bool.and_eq_false_imp, decide_eq_true_eq, decide_eq_false_iff_not]
    intro _
    omega
  · simp [h0]
theorem kept_at {n k : Nat} {z : Nat → Hd} {o l b : Int} (hr : anyB n (badH z) = false) (hk : k < n) (hm : matchH (z k) o l b = true) : keptV n z o l b = (z k).n ∧ dropI n z o l b = k := by
  have lo : ∀ j, j < k → matchH (z j) o l b = false := fun j hj => by
    cases hq : matchH (z j) o l b
    · rfl
    · have := matchH_key hq hm
      have := right_lt hr j k hj hk
      omega
  exact ⟨keptV_some hk lo hm, dropI_some hk lo hm⟩
theorem kept_no {n : Nat} {z : Nat → Hd} {o l b : Int} (hr : anyB n (badH z) = false) (h0 : keptV n z o l b = 0) : ∀ j, j < n → matchH (z j) o l b = false := by
  rcases keptV_cases n z o l b with h | ⟨k, hkn, h1, h2⟩
  · exact h
  · rw [keptV_some hkn h1 h2] at h0
    have := (fineH_true (right_fine hr k hkn)).2.2.2
    omega
theorem insZ_lt {z : Nat → Hd} {i j : Nat} {h : Hd} (hj : j < i) : insZ z i h j = z j := by unfold insZ; rw [if_pos hj]
theorem insZ_eq {z : Nat → Hd} {i : Nat} {h : Hd} : insZ z i h i = h := by unfold insZ; rw [if_neg (by omega), if_pos rfl]
theorem insZ_gt {z : Nat → Hd} {i j : Nat} {h : Hd} (hj : i < j) : insZ z i h j = z (j - 1) := by unfold insZ; rw [if_neg (by omega), if_neg (by omega)]
theorem setZ_eq {z : Nat → Hd} {i : Nat} {h : Hd} : setZ z i h i = h := if_pos rfl
theorem setZ_ne {z : Nat → Hd} {i j : Nat} {h : Hd} (hj : ¬ j = i) : setZ z i h j = z j := if_neg hj
theorem match_same {x y : Hd} {o l b : Int} (h1 : matchH x y.o y.l y.b = true) : matchH x o l b = matchH y o l b := by
  have a := matchH_true h1
  unfold matchH
  rw [a.1, a.2.1, a.2.2]
theorem add_ins {n : Nat} {z : Nat → Hd} {h : Hd} (hr : anyB n (badH z) = false) (hf : fineH h = true) (h0 : keptV n z h.o h.l h.b = 0) :
    anyB (n + 1) (badH (insZ z (addPos n z h) h)) = false ∧ (∀ o l b, keptV (n + 1) (insZ z (addPos n z h) h) o l b = keptV n z o l b + if matchH h o l b then h.n else 0) ∧
      dropI (n + 1) (insZ z (addPos n z h) h) h.o h.l h.b = addPos n z h := by
  obtain ⟨p1, p2, p3⟩ := pos_key hr hf
  have no := kept_no hr h0
  generalize addPos n z h = p at p1 p2 p3 ⊢
  have hs : ∀ j, p ≤ j → j < n → keyH h < keyH (z j) := fun j hj hjn => by
    have a := p3 j hj hjn
    have b : ¬ keyH (z j) = keyH h := fun e => by
      have := key_match (right_fine hr j hjn) hf e
      rw [no j hjn] at this
      cases this
    omega
  have hR : anyB (n + 1) (badH (insZ z p h)) = false := by
    refine right_mk (fun i hi => ?_) (fun i hi => ?_)
    · rcases Nat.lt_trichotomy i p with hip | hip | hip
      · rw [insZ_lt hip]; exact right_fine hr i (by omega)
      · subst hip; rw [insZ_eq]; exact hf
      · rw [insZ_gt hip]; exact right_fine hr (i - 1) (by omega)
    · rcases Nat.lt_trichotomy i p with hip | hip | hip
      · rw [insZ_lt hip]
        by_cases hq : i + 1 = p
        · subst hq; rw [insZ_eq]; exact p2 i (by omega)
        · rw [insZ_lt (by omega)]; exact right_step hr i (by omega)
      · subst hip
        rw [insZ_eq, insZ_gt (by omega)]
        exact hs _ (by omega) (by omega)
      · rw [insZ_gt hip, insZ_gt (by omega)]
        have := right_step hr (i - 1) (by omega)
        rw [show i - 1 + 1 = i + 1 - 1 by omega] at this
        exact this
  have hat := kept_at (o := h.o) (l := h.l) (b := h.b) hR (show p < n + 1 by omega) (by rw [insZ_eq]; simp [matchH])
  refine ⟨hR, fun o l b => ?_, hat.2⟩
  cases hm : matchH h o l b
  · simp only [Bool.false_eq_true, if_false, Int.add_zero]
    rcases keptV_cases n z o l b with hn | ⟨k, hk, h1, h2⟩
    · rw [keptV_none hn]
      refine keptV_none fun j hj => ?_
      rcases Nat.lt_trichotomy j p with hip | hip | hip
      · rw [insZ_lt hip]; exact hn j (by omega)
      · subst hip; rw [insZ_eq]; exact hm
      · rw [insZ_gt hip]; exact hn (j - 1) (by omega)
    · rw [keptV_some hk h1 h2]
      by_cases hkp : k < p
      · have := (kept_at (o := o) (l := l) (b := b) hR (show k < n + 1 by omega) (by rw [insZ_lt hkp]; exact h2)).1
        rw [this, insZ_lt hkp]
      · have e : insZ z p h (k + 1) = z k := by rw [insZ_gt (by omega), Nat.add_sub_cancel]
        have := (kept_at (o := o) (l := l) (b := b) hR (show k + 1 < n + 1 by omega) (by rw [e]; exact h2)).1
        rw [this, e]
  · have a := matchH_true hm
    rw [← a.1, ← a.2.1, ← a.2.2, h0, hat.1, insZ_eq]
    simp
theorem add_set {n : Nat} {z : Nat → Hd} {h : Hd} (hr : anyB n (badH z) = false) (hf : fineH h = true) (h0 : ¬ keptV n z h.o h.l h.b = 0) (h2 : keptV n z h.o h.l h.b + h.n ≤ 200) :
    anyB n (badH (setZ z (addPos n z h) ⟨h.o, h.l, h.b, keptV n z h.o h.l h.b + h.n⟩)) = false ∧ (∀ o l b, keptV n (setZ z (addPos n z h) ⟨h.o, h.l, h.b, keptV n z h.o h.l h.b + h.n⟩) o l b = keptV n z o l b + if matchH h o l b then h.n else 0) ∧
      dropI n (setZ z (addPos n z h) ⟨h.o, h.l, h.b, keptV n z h.o h.l h.b + h.n⟩) h.o h.l h.b = addPos n z h ∧ addPos n z h < n ∧ matchH (z (addPos n z h)) h.o h.l h.b = true ∧ dropI n z h.o h.l h.b = addPos n z h := by
  obtain ⟨p1, p2, p3⟩ := pos_key hr hf
  obtain ⟨q1, q2, q3, q4, q5⟩ := kept_pos hr h0
  have hkey : keyH (z (dropI n z h.o h.l h.b)) = keyH h := match_key (n := h.n) q2
  have hp : dropI n z h.o h.l h.b = addPos n z h := by
    rcases Nat.lt_trichotomy (dropI n z h.o h.l h.b) (addPos n z h) with c | c | c
    · have := p2 _ c; omega
    · exact c
    · have := q4 _ c
      have := p3 _ (Nat.le_refl _) (by omega)
      omega
  rw [hp] at q1 q2 q3 q4 q5 hkey ⊢
  generalize addPos n z h = p at p1 p2 p3 q1 q2 q3 q4 q5 hkey hp ⊢
  generalize hK : keptV n z h.o h.l h.b = K at h0 h2 q3 ⊢
  have hfz := fineH_true (right_fine hr p q1)
  have hfh := fineH_true hf
  have hkn : keyH ⟨h.o, h.l, h.b, K + h.n⟩ = keyH (z p) := by rw [hkey]; rfl
  have hR : anyB n (badH (setZ z p ⟨h.o, h.l, h.b, K + h.n⟩)) = false := by
    refine right_mk (fun i hi => ?_) (fun i hi => ?_)
    · by_cases hip : i = p
      · subst hip; rw [setZ_eq]
        simp only [fineH, Bool.and_eq_true]
        exact ⟨⟨⟨inB_mk (by omega), inB_mk (by omega)⟩, inB_mk (by omega)⟩, inB_mk (by show 1 ≤ K + h.n ∧ K + h.n ≤ 200; omega)⟩
      · rw [setZ_ne hip]; exact right_fine hr i hi
    · have hst := right_step hr i hi
      by_cases hip : i = p
      · subst hip; rw [setZ_eq, setZ_ne (by omega), hkn]; exact hst
      · rw [setZ_ne hip]
        by_cases hiq : i + 1 = p
        · rw [hiq, setZ_eq, hkn, ← hiq]; exact hst
        · rw [setZ_ne hiq]; exact hst
  have hat := kept_at (o := h.o) (l := h.l) (b := h.b) hR q1 (by rw [setZ_eq]; simp [matchH])
  refine ⟨hR, fun o l b => ?_, hat.2, q1, q2, rfl⟩
  cases hm : matchH h o l b
  · simp only [Bool.false_eq_true, if_false, Int.add_zero]
    have hzp : matchH (z p) o l b = false := by rw [match_same q2]; exact hm
    rcases keptV_cases n z o l b with hn | ⟨k, hk, h1, h3⟩
    · rw [keptV_none hn]
      refine keptV_none fun j hj => ?_
      by_cases hip : j = p
      · subst hip; rw [setZ_eq]; exact hm
      · rw [setZ_ne hip]; exact hn j hj
    · rw [keptV_some hk h1 h3]
      have hkp : ¬ k = p := fun e => by subst e; rw [hzp] at h3; cases h3
      have := (kept_at (o := o) (l := l) (b := b) hR hk (by rw [setZ_ne hkp]; exact h3)).1
      rw [this, setZ_ne hkp]
  · have a := matchH_true hm
    rw [← a.1, ← a.2.1, ← a.2.2, hK, hat.1, setZ_eq]
    simp
end Go.Proofs.Ytbcacebifpagpac
namespace Go.Proofs.Ytbcacebifpagpac
open Go.RowKit
set_option linter.unusedVariables false
theorem ext_half {n m : Nat} {z y : Nat → Hd} (hr : anyB n (badH z) = false) (hq : anyB m (badH y) = false) (hk : ∀ o l b, keptV n z o l b = keptV m y o l b) (j : Nat)
    (ih : ∀ i, i < j → i < m → i < n ∧ z i = y i) (hj : j < n) : j < m ∧ keyH (y j) ≤ keyH (z j) := by
  have a := (kept_at hr hj (matchH_self (z j))).1
  have f := (fineH_true (right_fine hr j hj)).2.2.2
  rw [hk] at a
  obtain ⟨q1, q2, q3, q4, q5⟩ := kept_pos (o := (z j).o) (l := (z j).l) (b := (z j).b) hq (by omega)
  generalize dropI m y (z j).o (z j).l (z j).b = k at q1 q2 q3 q4 q5
  have hkey : keyH (y k) = keyH (z j) := match_key (n := (z j).n) q2
  have hjk : j ≤ k := by
    rcases Nat.lt_or_ge k j with c | c
    · obtain ⟨_, e⟩ := ih k c q1
      have := right_lt hr k j c hj
      rw [e] at this
      omega
    · exact c
  refine ⟨by omega, ?_⟩
  by_cases e : j = k
  · rw [e] at hkey ⊢; omega
  · have := q4 j (by omega); omega
theorem ext_at {n m : Nat} {z y : Nat → Hd} (hr : anyB n (badH z) = false) (hq : anyB m (badH y) = false) (hk : ∀ o l b, keptV n z o l b = keptV m y o l b) :
    ∀ k j, j < k → (j < n → j < m ∧ z j = y j) ∧ (j < m → j < n ∧ z j = y j) := by
  intro k
  induction k with
  | zero => intro j hj; omega
  | succ k ih =>
    intro j hj
    by_cases hjk : j < k
    · exact ih j hjk
    · have e : j = k := by omega
      subst e
      have both : j < n → j < m → z j = y j := fun h1 h2 => by
        have a := (ext_half hr hq hk j (fun i hi him => (ih i hi).2 him) h1).2
        have b := (ext_half hq hr (fun o l b => (hk o l b).symm) j (fun i hi him => ⟨((ih i hi).1 him).1, ((ih i hi).1 him).2.symm⟩) h2).2
        have hm := key_match (right_fine hr j h1) (right_fine hq j h2) (by omega)
        have k1 := (kept_at hr h1 hm).1
        have k2 := (kept_at hq h2 (matchH_self (y j))).1
        rw [hk, k2] at k1
        have c := matchH_true hm
        cases hz : z j
        cases hy : y j
        rw [hz, hy] at c k1
        simp only at c k1
        simp [c, k1]
      exact ⟨fun h => ⟨(ext_half hr hq hk j (fun i hi him => (ih i hi).2 him) h).1, both h (ext_half hr hq hk j (fun i hi him => (ih i hi).2 him) h).1⟩,
        fun h => ⟨(ext_half hq hr (fun o l b => (hk o l b).symm) j (fun i hi him => ⟨((ih i hi).1 him).1, ((ih i hi).1 him).2.symm⟩) h).1, both (ext_half hq hr (fun o l b => (hk o l b).symm) j (fun i hi him => ⟨((ih i hi).1 him).1, ((ih i hi).1 him).2.symm⟩) h).1 h⟩⟩
theorem right_ext {n m : Nat} {z y : Nat → Hd} (hr : anyB n (badH z) = false) (hq : anyB m (badH y) = false) (hk : ∀ o l b, keptV n z o l b = keptV m y o l b) : n = m ∧ ∀ j, j < n → z j = y j := by
  have h := ext_at hr hq hk
  refine ⟨?_, fun j hj => ((h (j + 1) j (by omega)).1 hj).2⟩
  rcases Nat.lt_trichotomy n m with c | c | c
  · have := ((h (n + 1) n (by omega)).2 c).1; omega
  · exact c
  · have := ((h (m + 1) m (by omega)).1 c).1; omega
theorem add_both {n : Nat} {z : Nat → Hd} {h : Hd} (hr : anyB n (badH z) = false) (hf : fineH h = true) (h2 : keptV n z h.o h.l h.b + h.n ≤ 200) :
    anyB (addLen n z h) (badH (addZ n z h)) = false ∧ ∀ o l b, keptV (addLen n z h) (addZ n z h) o l b = keptV n z o l b + if matchH h o l b then h.n else 0 := by
  by_cases h0 : keptV n z h.o h.l h.b = 0
  · have e1 : addLen n z h = n + 1 := if_pos h0
    have e2 : addZ n z h = insZ z (addPos n z h) h := if_pos h0
    rw [e1, e2]
    obtain ⟨a, b, _⟩ := add_ins hr hf h0
    exact ⟨a, b⟩
  · have e1 : addLen n z h = n := if_neg h0
    have e2 : addZ n z h = setZ z (addPos n z h) ⟨h.o, h.l, h.b, keptV n z h.o h.l h.b + h.n⟩ := if_neg h0
    rw [e1, e2]
    obtain ⟨a, b, _⟩ := add_set hr hf h0 h2
    exact ⟨a, b⟩
theorem addE_zero {n : Nat} {z : Nat → Hd} {h : Hd} (e : addE n z h = 0) : anyB n (badH z) = false ∧ fineH h = true ∧ keptV n z h.o h.l h.b + h.n ≤ 200 := by
  unfold addE at e
  by_cases h0 : checkH n z = 0
  · rw [if_pos h0] at e
    cases hf : fineH h
    · rw [hf] at e; simp at e
    · rw [hf] at e
      simp only [if_true] at e
      by_cases h2 : 200 < keptV n z h.o h.l h.b + h.n
      · rw [if_pos h2] at e; omega
      · exact ⟨checkH_zero h0, rfl, by omega⟩
  · rw [if_neg h0] at e; exact absurd e h0
theorem checkH_right {n : Nat} {z : Nat → Hd} (h : anyB n (badH z) = false) : checkH n z = 0 := by unfold checkH; rw [h]; rfl
theorem addE_of {n : Nat} {z : Nat → Hd} {h : Hd} (hr : anyB n (badH z) = false) (hf : fineH h = true) : addE n z h = if 200 < keptV n z h.o h.l h.b + h.n then 3 else 0 := by
  unfold addE
  rw [checkH_right hr, hf]
  rfl
theorem badH_congr {z y : Nat → Hd} {n : Nat} (h : ∀ j, j < n → z j = y j) : anyB n (badH z) = anyB n (badH y) := by
  have e : ∀ j, j < n → badH z j = badH y j := fun j hj => by
    unfold badH
    rw [h j hj]
    by_cases h0 : 0 < j
    · rw [h (j - 1) (by omega)]
    · simp [h0]
  cases hq : anyB n (badH y)
  · exact anyB_no fun j hj => by rw [e j hj]; exact anyB_false hq j hj
  · cases hz : anyB n (badH z)
    · have : anyB n (badH y) = false := anyB_no fun j hj => by rw [← e j hj]; exact anyB_false hz j hj
      rw [this] at hq; cases hq
    · rfl
theorem keptV_congr {z y : Nat → Hd} {n : Nat} (h : ∀ j, j < n → z j = y j) (o l b : Int) : keptV n z o l b = keptV n y o l b := by
  rcases keptV_cases n y o l b with hn | ⟨k, hk, h1, h2⟩
  · rw [keptV_none hn, keptV_none fun j hj => by rw [h j hj]; exact hn j hj]
  · rw [keptV_some hk h1 h2, keptV_some hk (fun j hj => by rw [h j (by omega)]; exact h1 j hj) (by rw [h k hk]; exact h2), h k hk]
theorem keptS_congr {z y : Nat → Hd} (o l : Int) : ∀ {n : Nat}, (∀ j, j < n → z j = y j) → keptS z o l n = keptS y o l n
  | 0, _ => rfl
  | n + 1, h => by
    simp only [keptS]
    rw [keptS_congr o l (n := n) fun j hj => h j (by omega), h n (by omega)]
theorem AddOK.right {n : Nat} {z : Nat → Hd} {h : Hd} {x : Hs} (hx : AddOK n z h x) (e : addE n z h = 0) :
    anyB x.n (badH x.z) = false ∧ ∀ o l b, keptV x.n x.z o l b = keptV n z o l b + if matchH h o l b then h.n else 0 := by
  obtain ⟨a, b, c⟩ := addE_zero e
  obtain ⟨r, k⟩ := add_both a b c
  have hn : x.n = addLen n z h := by have := hx.1; rw [if_pos e] at this; exact this
  have hz := hx.2
  rw [hn] at hz ⊢
  exact ⟨by rw [badH_congr hz]; exact r, fun o l b => by rw [keptV_congr hz]; exact k o l b⟩
theorem AddOK.none {n : Nat} {z : Nat → Hd} {h : Hd} {x : Hs} (hx : AddOK n z h x) (e : ¬ addE n z h = 0) : x.n = 0 := by
  have := hx.1; rw [if_neg e] at this; exact this
end Go.Proofs.Ytbcacebifpagpac
namespace Go.Proofs.Ytbcacebifpagpac
open Go.RowKit
set_option linter.unusedVariables false
theorem stateE_of {p : Pl} {s : St} (r : RightT p s) : stateE p s = 0 := by
  have f := r.fm
  have e1 : tooManyB s = false := by
    unfold tooManyB
    have h1 : decide (4 < s.os.n) = false := decide_eq_false (by have := f.os4; omega)
    have h2 : decide (8 < s.ms.n) = false := decide_eq_false (by have := f.ms8; omega)
    have h3 : anyB s.os.n (fun i => fewLines (s.os.z i)) = false := anyB_no fun i hi => by
      unfold fewLines
      rw [inB_mk (by have := f.lns i hi; omega)]
      rfl
    rw [h1, h2, h3]
    rfl
  have e2 : badOrdersB p s = false := anyB_no fun i hi => by
    unfold badOrder
    rw [inB_mk (f.kind i hi), anyB_no fun j hj => f.line i hi j hj]
    rfl
  have e3 : badHoldsB p s = false := by
    unfold badHoldsB
    rw [checkH_right f.hold, anyB_no f.home]
    rfl
  have e4 : badMovesB p s = false := anyB_no f.move
  have k : ∀ {r : Rw} {low : Int}, r.n = p.ns → (∀ j, j < p.ns → low ≤ r.z j ∧ r.z j ≤ 1048576) → badSum p r low = false := fun {r low} h1 h2 => by
    unfold badSum
    rw [Bool.or_eq_false_iff]
    refine ⟨by simp [h1], anyB_no fun j hj => ?_⟩
    rw [inB_mk (h2 j (by omega))]
    rfl
  have e5 : badSumsB p s = false := by
    unfold badSumsB
    rw [k f.sin f.sib, k f.son f.sob, k f.sfn f.sfb]
    rfl
  rw [stateE_sum f.sh0 e1 e2 e3 e4 e5, show wrongGoodsB p s = false from anyB_no r.goods, show wrongOrdersB s = false from anyB_no r.orders]
  rfl
theorem homeless_mk {p : Pl} {s : St} {h : Hd} (h1 : 0 ≤ h.o ∧ h.o.toNat < s.os.n) (h2 : 0 ≤ h.l ∧ h.l.toNat < (s.os.z h.o.toNat).ls.n) (h3 : 0 ≤ h.b ∧ h.b < p.nb) : homeless p s h = false := by
  unfold homeless
  rw [inB_mk (by omega), inB_mk (by omega), inB_mk (by omega)]
  rfl
theorem heldTo_eq {x s : St} {b g : Int} : ∀ {k : Nat}, (∀ j, j < k → x.hs.z j = s.hs.z j) → (∀ j, j < k → goodH x (s.hs.z j) = goodH s (s.hs.z j)) → heldTo x b g k = heldTo s b g k
  | 0, _, _ => rfl
  | k + 1, h1, h2 => by
    simp only [heldTo]
    rw [heldTo_eq (k := k) (fun j hj => h1 j (by omega)) (fun j hj => h2 j (by omega)), h1 k (by omega), h2 k (by omega)]
theorem fromTo_eq {x s : St} {b g : Int} : ∀ {k : Nat}, (∀ j, j < k → x.ms.z j = s.ms.z j) → fromTo x b g k = fromTo s b g k
  | 0, _ => rfl
  | k + 1, h1 => by
    simp only [fromTo]
    rw [fromTo_eq (k := k) (fun j hj => h1 j (by omega)), h1 k (by omega)]
section
variable {p : Pl} {x t : St}
theorem SameT.held (h : SameT x t) (f : Formed p t) (b g : Int) : heldTo x b g x.hs.n = heldTo t b g t.hs.n := by
  rw [h.hs.1]
  refine heldTo_eq (fun j hj => h.hs.2 j (by rw [h.hs.1]; exact hj)) (fun j hj => ?_)
  obtain ⟨h1, h2, -⟩ := homeless_no (f.home j hj)
  unfold goodH
  have o := h.os.2 (t.hs.z j).o.toNat (by rw [h.os.1]; exact h1.2)
  rw [o.2.2 (t.hs.z j).l.toNat (by rw [o.2.1]; exact h2.2)]
theorem SameT.from (h : SameT x t) (b g : Int) : fromTo x b g x.ms.n = fromTo t b g t.ms.n := by
  rw [h.ms.1]
  exact fromTo_eq fun j hj => h.ms.2 j (by rw [h.ms.1]; exact hj)
theorem SameT.num (h : SameT x t) (f : Formed p t) {b g : Nat} (hb : b < p.nb) (hg : g < p.ns) : (x.on.r b).z g = (t.on.r b).z g := by
  have hb' : b < t.on.n := by rw [f.sh.n]; exact hb
  have r := h.on.2 b (by rw [h.on.1]; exact hb')
  exact r.2 g (by rw [r.1, f.sh.len b hb']; exact hg)
theorem SameT.avail (h : SameT x t) (f : Formed p t) {b g : Nat} (hb : b < p.nb) (hg : g < p.ns) : availZ x b g = availZ t b g := by
  unfold availZ
  rw [h.num f hb hg, h.held f, h.from]
theorem SameT.formed (h : SameT x t) (f : Formed p t) : Formed p x := by
  have hp := (rightS f.sh0).1
  have hs : RightS p x.on := ⟨f.sh.pl, h.on.1.trans f.sh.n, fun i hi => (h.on.2 i hi).1.trans (f.sh.len i (by rw [← h.on.1]; exact hi)), fun i hi j hj => by
    have hi' : i < t.on.n := by rw [← h.on.1]; exact hi
    rw [h.num f (by rw [← f.sh.n]; exact hi') hj]
    exact f.sh.num i hi' j hj⟩
  have o : ∀ i, i < x.os.n → i < t.os.n := fun i hi => by rw [← h.os.1]; exact hi
  refine ⟨hs, shelfE_mk hp hs, by rw [h.os.1]; exact f.os4, by rw [h.ms.1]; exact f.ms8, fun i hi => by rw [(h.os.2 i hi).2.1]; exact f.lns i (o i hi), fun i hi => by rw [(h.os.2 i hi).1]; exact f.kind i (o i hi), fun i hi j hj => ?_, ?_, fun i hi => ?_, fun i hi => ?_, h.si.1.trans f.sin, h.so.1.trans f.son, h.sf.1.trans f.sfn, fun j hj => ?_, fun j hj => ?_, fun j hj => ?_⟩
  · rw [(h.os.2 i hi).2.2 j hj]
    exact f.line i (o i hi) j (by rw [← (h.os.2 i hi).2.1]; exact hj)
  · rw [h.hs.1, badH_congr fun j hj => h.hs.2 j (by rw [h.hs.1]; exact hj)]
    exact f.hold
  · have hi' : i < t.hs.n := by rw [← h.hs.1]; exact hi
    obtain ⟨h1, h2, h3⟩ := homeless_no (f.home i hi')
    rw [h.hs.2 i hi]
    have h1' : (t.hs.z i).o.toNat < x.os.n := by rw [h.os.1]; exact h1.2
    exact homeless_mk ⟨h1.1, h1'⟩ ⟨h2.1, by rw [(h.os.2 _ h1').2.1]; exact h2.2⟩ h3
  · rw [h.ms.2 i hi]
    exact f.move i (by rw [← h.ms.1]; exact hi)
  · rw [h.si.2 j (by rw [h.si.1, f.sin]; exact hj)]; exact f.sib j hj
  · rw [h.so.2 j (by rw [h.so.1, f.son]; exact hj)]; exact f.sob j hj
  · rw [h.sf.2 j (by rw [h.sf.1, f.sfn]; exact hj)]; exact f.sfb j hj
theorem SameT.right (h : SameT x t) (r : RightT p t) : RightT p x := by
  have f := r.fm
  refine ⟨h.formed f, fun g hg => ?_, fun i hi => ?_⟩
  · have := r.goods g hg
    rw [wrongGood_eq] at this ⊢
    rw [← this]
    congr 1
    · have e : sumTo (fun i => (x.on.r i).z g) x.on.n = sumTo (fun i => (t.on.r i).z g) t.on.n := by
        rw [h.on.1]
        exact sumTo_congr fun i hi => h.num f (by rw [← f.sh.n]; exact hi) hg
      rw [e, h.si.2 g (by rw [h.si.1, f.sin]; exact hg), h.so.2 g (by rw [h.so.1, f.son]; exact hg), h.sf.2 g (by rw [h.sf.1, f.sfn]; exact hg)]
    · exact anyB_congr fun b hb => by rw [h.avail f hb hg]
  · have hi' : i < t.os.n := by rw [← h.os.1]; exact hi
    have := r.orders i hi'
    rw [← this]
    obtain ⟨e1, e2, e3⟩ := h.os.2 i hi
    unfold wrongOrder
    rw [e1, e2]
    congr 1
    · congr 2
      exact anyB_congr fun j hj => by rw [e3 j (by rw [e2]; exact hj)]
    · refine anyB_congr fun j hj => ?_
      rw [e3 j (by rw [e2]; exact hj), h.hs.1, keptS_congr _ _ fun j hj => h.hs.2 j (by rw [h.hs.1]; exact hj)]
end
end Go.Proofs.Ytbcacebifpagpac
namespace Go.Proofs.Ytbcacebifpagpac
open Go.RowKit Go.Shelf
set_option linter.unusedVariables false
def frL (p : Pl) (f : Bool) (k : Nat) : List Int := ((List.range k).filter (fun i => (p.zb i).front == f)).map Int.ofNat
theorem frL_hit {p : Pl} {f : Bool} {k : Nat} (h : (p.zb k).front = f) : frL p f (k + 1) = frL p f k ++ [(k : Int)] := by simp [frL, List.range_succ, h]
theorem frL_miss {p : Pl} {f : Bool} {k : Nat} (h : ¬ (p.zb k).front = f) : frL p f (k + 1) = frL p f k := by simp [frL, List.range_succ, h]
theorem frL_len (p : Pl) (f : Bool) (k : Nat) : (frL p f k).length ≤ k := by
  unfold frL
  rw [List.length_map]
  exact Nat.le_trans (List.length_filter_le _ _) (by simp)
def wayL (p : Pl) : List Int := frL p true p.nb ++ frL p false p.nb
theorem Rw.ofOwns {w : World} {base : Nat} {v : Value} {xs : List Int} (h : w.ownsRow base 3 1 v xs.length (xs.map (Value.int .i64))) : ∃ r : Rw, v = r.val ∧ r.At w ∧ r.n = xs.length ∧ ∀ j, j < r.n → r.z j = xs.getD j 0 := by
  by_cases hv : v = .slice Option.none 0 0
  · subst hv
    have h0 : xs.length = 0 := by
      rcases h.2 with ⟨_, h0⟩ | ⟨g2, cap2, cur2, e, _⟩
      · exact h0
      · cases e
    exact ⟨⟨Option.none, 0, 0, fun _ => 0⟩, rfl, ⟨Nat.le_refl _, Nat.zero_le _, fun i hi => absurd hi (Nat.not_lt_zero _)⟩, h0.symm, fun j hj => absurd hj (Nat.not_lt_zero _)⟩
  · obtain ⟨g, c, rfl, h1, h2, h3, h4⟩ := Blk.ofOwns h hv
    rw [Nat.mul_one] at h4
    refine ⟨⟨some ⟨g, 0, Option.none⟩, xs.length, c, fun j => xs.getD j 0⟩, rfl, ⟨h1, h2, fun i hi => ?_⟩, rfl, fun j _ => rfl⟩
    have hi' : i < xs.length := hi
    refine ⟨g, 0, rfl, h4.lt, ?_⟩
    have := h4.cell (j := i) hi'
    rw [Nat.zero_add, this]
    simp [List.getD, hi']
end Go.Proofs.Ytbcacebifpagpac
namespace Go.Proofs.Ytbcacebifpagpac
open Go.RowKit
set_option linter.unusedVariables false
def wayB (p : Pl) (x : Int) : Bool := (p.zb x.toNat).front
theorem frL_mem {p : Pl} {f : Bool} {k : Nat} {x : Int} (h : x ∈ frL p f k) : 0 ≤ x ∧ x < k ∧ wayB p x = f := by
  simp only [frL, List.mem_map, List.mem_filter, List.mem_range, beq_iff_eq] at h
  obtain ⟨i, ⟨hi, hf⟩, rfl⟩ := h
  exact ⟨Int.natCast_nonneg _, by simp only [Int.ofNat_eq_natCast]; omega, hf⟩
theorem frL_pw (p : Pl) (f : Bool) : ∀ k, (frL p f k).Pairwise (· < ·)
  | 0 => by simp [frL]
  | k + 1 => by
    by_cases h : (p.zb k).front = f
    · rw [frL_hit h, List.pairwise_append]
      refine ⟨frL_pw p f k, List.pairwise_singleton _ _, fun x hx y hy => ?_⟩
      rw [List.mem_singleton] at hy
      have := (frL_mem hx).2.1
      omega
    · rw [frL_miss h]; exact frL_pw p f k
theorem frL_two (p : Pl) : ∀ k, (frL p true k).length + (frL p false k).length = k
  | 0 => by simp [frL]
  | k + 1 => by
    have ih := frL_two p k
    cases h : (p.zb k).front
    · rw [frL_hit h, frL_miss (by rw [h]; decide), List.length_append, List.length_singleton]; omega
    · rw [frL_hit h, frL_miss (by rw [h]; decide), List.length_append, List.length_singleton]; omega
theorem way_len (p : Pl) : (wayL p).length = p.nb := by
  unfold wayL
  rw [List.length_append, frL_two]
theorem way_mem {p : Pl} {x : Int} (h : x ∈ wayL p) : 0 ≤ x ∧ x < p.nb := by
  unfold wayL at h
  rw [List.mem_append] at h
  rcases h with h | h
  · exact ⟨(frL_mem h).1, (frL_mem h).2.1⟩
  · exact ⟨(frL_mem h).1, (frL_mem h).2.1⟩
theorem way_pw (p : Pl) : (wayL p).Pairwise (fun x y => ¬ x = y ∧ (wayB p y = true → wayB p x = true) ∧ (wayB p x = wayB p y → x < y)) := by
  unfold wayL
  rw [List.pairwise_append]
  refine ⟨?_, ?_, fun x hx y hy => ?_⟩
  · refine List.Pairwise.imp_of_mem ?_ (frL_pw p true p.nb)
    intro x y hx hy h
    exact ⟨by omega, fun _ => (frL_mem hx).2.2, fun _ => h⟩
  · refine List.Pairwise.imp_of_mem ?_ (frL_pw p false p.nb)
    intro x y hx hy h
    refine ⟨by omega, fun e => ?_, fun _ => h⟩
    rw [(frL_mem hy).2.2] at e; cases e
  · have a := (frL_mem hx).2.2
    have b := (frL_mem hy).2.2
    refine ⟨fun e => ?_, fun e => a, fun e => ?_⟩
    · rw [e, b] at a; cases a
    · rw [a, b] at e; cases e
def wayR (p : Pl) : List Int := if planE p = 0 then wayL p else []
theorem wayR_yes {p : Pl} (h : planE p = 0) : wayR p = wayL p := if_pos h
theorem wayR_no {p : Pl} (h : ¬ planE p = 0) : wayR p = [] := if_neg h
theorem owns_low {A A' : Nat} {w : World} {e : TypeId} {size : Nat} {v : Value} {n : Nat} {xs : List Value} (h : w.ownsRow A e size v n xs) (hA : A' ≤ A) : w.ownsRow A' e size v n xs :=
  ⟨h.1, h.2.imp_right fun ⟨g, cap, cur, h1, h2, h3⟩ => ⟨g, cap, cur, h1, Nat.le_trans hA h2, h3⟩⟩
end Go.Proofs.Ytbcacebifpagpac
namespace Go.Proofs.Ytbcacebifpagpac
open Go.RowKit Go.Shelf
set_option linter.unusedVariables false
def Cloned (A : Nat) (e : TypeId) (s : Hs) (w' : World) (s' : Hs) : Prop := s'.n = s.n ∧ (∀ j, j < s.n → s'.z j = s.z j) ∧ OwnH A e w' s' ∧ Room A w' e 4 s'.a s'.c
theorem OwnH.ofOwns {w : World} {base : Nat} {e : TypeId} {v : Value} {n : Nat} {z : Nat → Hd} (h : w.ownsRow base e 4 v n (flatH n z)) (hn : v ≠ .slice none 0 0) : ∃ s : Hs, v = s.val ∧ s.n = n ∧ s.z = z ∧ OwnH base e w s ∧ Room base w e 4 s.a s.c := by
  obtain ⟨g, c, rfl, h1, h2, h3, h4⟩ := Blk.ofOwns h hn
  exact ⟨⟨some ⟨g, 0, none⟩, n, c, z⟩, rfl, rfl, rfl, ⟨h1, h2, (fun e => by cases e), fun _ => ⟨g, rfl, h3, h4⟩⟩, Room.ofOwns h (Nat.le_refl _)⟩
theorem infoHoldC : (Try.prog.info? 65).map (fun i => (i.zero, i.size, i.bytes)) = some (some (.agg #[.int .i64 0, .int .i64 0, .int .i64 0, .int .i64 0]), 4, 32) := by kernel_rfl
set_option maxRecDepth 100000 in
set_option maxHeartbeats 1000000 in
theorem CloneHold_any (s : Hs) (w : World) (hs : s.At w) (hn : s.n ≤ 1000) :
    Calls Try.prog 90 #[s.val] w fun e w' => ∃ s' : Hs, e = .returned s'.val ∧ Cloned w.heap.size 65 s w' s' ∧ Below w.heap.size w w' := by
  obtain ⟨sle, scap, sh, snil⟩ := hs
  obtain ⟨sa, sn, sc, sz⟩ := s
  dsimp only at sle scap sh snil hn
  simp only [Hs.val]
  obtain ⟨i0, hi, hz0, hz1, hz2⟩ := info_parts infoHoldC
  have q22 : ∀ (w : World) (a : Option Addr) (n c n' c' : Nat), (binOp .eql 28 (.slice a n c) (.slice none n' c')).run Try.prog w = .ok (.bool a.isNone) w := fun w a n c n' c' => Lib.run_eql_slice_nil w _ _ a n c n' c' Try.underlying28
  cases sa with
  | none =>
    have hc0 := snil rfl
    subst hc0
    have hn0 : sn = 0 := by omega
    subst hn0
    go_enter Try.func90, Try.ntmps90
    go_wp2
    go_ret
    exact ⟨⟨none, 0, 0, sz⟩, rfl, ⟨rfl, fun j hj => rfl, ⟨Nat.le_refl _, Nat.zero_le _, fun _ => rfl, fun h => absurd h (Nat.lt_irrefl _)⟩, Or.inl rfl⟩, Below.refl _ _⟩
  | some ad =>
    have hnews : ∀ j u, (flatH sn sz)[j]? = some u → w.cell? (ad.add j) = some u ∧ (ad.add j).block < w.heap.size := fun j u hj => by
      have hlen := (List.getElem?_eq_some_iff.1 hj).1
      rw [flatH_len] at hlen
      obtain ⟨b, o, he, hb, -⟩ := sh 0 (by omega)
      simp only [Option.some.injEq] at he
      subst he
      exact ⟨HdsAt.news sh j u hj, by rw [Go.WideShapes.add_plain]; exact hb⟩
    have HN : Hid (∀ j u, (flatH sn sz)[j]? = some u → w.cell? (ad.add j) = some u ∧ (ad.add j).block < w.heap.size) := hnews
    clear hnews sh snil
    go_enter Try.func90, Try.ntmps90
    go_wp2_with (at_builtin; refine wpList_append_own _ rfl _ _ 28 rfl w.heap.size 65 i0 (.agg #[.int .i64 0, .int .i64 0, .int .i64 0, .int .i64 0]) 4 32 Try.underlying28 hi hz0 hz1 hz2 rfl (by decide) _ _ _ rfl (World.ownsRow_made w #[] 0 (Nat.le_refl _) (Nat.zero_le _) rfl) ad sn sc (flatH sn sz) rfl ?qc1 ?qc2 ?qc3 ?qc4 ?qc5 ?qc6 ?_)
    case qc1 => rw [flatH_len]
    case qc2 =>
      intro j u hj
      have := HN.out j u hj
      rw [((Below.refl w.heap.size w).alloc (Nat.le_refl _) _).cell (p := ad.add j) this.2]
      exact this.1
    case qc3 => exact flatH_one sn sz
    case qc4 => unfold maxLen; omega
    case qc5 => omega
    case qc6 => simp
    intro v' w1 hown hgrow hnil
    have hB : Below w.heap.size w w1 := ((Below.refl _ w).alloc (Nat.le_refl _) _).grown hgrow (by simp) (by intro k hk; simp [Value.ownBlock] at hk; omega)
    obtain ⟨s', rfl, e1, e2, e3⟩ := OwnH.ofOwns hown hnil
    clear hown hgrow hnil
    have HR : Hid (s'.n = sn ∧ s'.z = sz ∧ OwnH w.heap.size 65 w1 s' ∧ Room w.heap.size w1 65 4 s'.a s'.c) := ⟨e1, e2, e3⟩
    clear e1 e2 e3
    simp only [Hs.val]
    go_wp2
    go_ret
    exact ⟨s', rfl, ⟨HR.out.1, fun j _ => by rw [HR.out.2.1], HR.out.2.2⟩, hB⟩
theorem infoMoveC : (Try.prog.info? 70).map (fun i => (i.zero, i.size, i.bytes)) = some (some (.agg #[.int .i64 0, .int .i64 0, .int .i64 0, .int .i64 0]), 4, 32) := by kernel_rfl
set_option maxRecDepth 100000 in
set_option maxHeartbeats 1000000 in
theorem CloneMove_any (s : Hs) (w : World) (hs : s.At w) (hn : s.n ≤ 1000) :
    Calls Try.prog 91 #[s.val] w fun e w' => ∃ s' : Hs, e = .returned s'.val ∧ Cloned w.heap.size 70 s w' s' ∧ Below w.heap.size w w' := by
  obtain ⟨sle, scap, sh, snil⟩ := hs
  obtain ⟨sa, sn, sc, sz⟩ := s
  dsimp only at sle scap sh snil hn
  simp only [Hs.val]
  obtain ⟨i0, hi, hz0, hz1, hz2⟩ := info_parts infoMoveC
  have q22 : ∀ (w : World) (a : Option Addr) (n c n' c' : Nat), (binOp .eql 29 (.slice a n c) (.slice none n' c')).run Try.prog w = .ok (.bool a.isNone) w := fun w a n c n' c' => Lib.run_eql_slice_nil w _ _ a n c n' c' Try.underlying29
  cases sa with
  | none =>
    have hc0 := snil rfl
    subst hc0
    have hn0 : sn = 0 := by omega
    subst hn0
    go_enter Try.func91, Try.ntmps91
    go_wp2
    go_ret
    exact ⟨⟨none, 0, 0, sz⟩, rfl, ⟨rfl, fun j hj => rfl, ⟨Nat.le_refl _, Nat.zero_le _, fun _ => rfl, fun h => absurd h (Nat.lt_irrefl _)⟩, Or.inl rfl⟩, Below.refl _ _⟩
  | some ad =>
    have hnews : ∀ j u, (flatH sn sz)[j]? = some u → w.cell? (ad.add j) = some u ∧ (ad.add j).block < w.heap.size := fun j u hj => by
      have hlen := (List.getElem?_eq_some_iff.1 hj).1
      rw [flatH_len] at hlen
      obtain ⟨b, o, he, hb, -⟩ := sh 0 (by omega)
      simp only [Option.some.injEq] at he
      subst he
      exact ⟨HdsAt.news sh j u hj, by rw [Go.WideShapes.add_plain]; exact hb⟩
    have HN : Hid (∀ j u, (flatH sn sz)[j]? = some u → w.cell? (ad.add j) = some u ∧ (ad.add j).block < w.heap.size) := hnews
    clear hnews sh snil
    go_enter Try.func91, Try.ntmps91
    go_wp2_with (at_builtin; refine wpList_append_own _ rfl _ _ 29 rfl w.heap.size 70 i0 (.agg #[.int .i64 0, .int .i64 0, .int .i64 0, .int .i64 0]) 4 32 Try.underlying29 hi hz0 hz1 hz2 rfl (by decide) _ _ _ rfl (World.ownsRow_made w #[] 0 (Nat.le_refl _) (Nat.zero_le _) rfl) ad sn sc (flatH sn sz) rfl ?qc1 ?qc2 ?qc3 ?qc4 ?qc5 ?qc6 ?_)
    case qc1 => rw [flatH_len]
    case qc2 =>
      intro j u hj
      have := HN.out j u hj
      rw [((Below.refl w.heap.size w).alloc (Nat.le_refl _) _).cell (p := ad.add j) this.2]
      exact this.1
    case qc3 => exact flatH_one sn sz
    case qc4 => unfold maxLen; omega
    case qc5 => omega
    case qc6 => simp
    intro v' w1 hown hgrow hnil
    have hB : Below w.heap.size w w1 := ((Below.refl _ w).alloc (Nat.le_refl _) _).grown hgrow (by simp) (by intro k hk; simp [Value.ownBlock] at hk; omega)
    obtain ⟨s', rfl, e1, e2, e3⟩ := OwnH.ofOwns hown hnil
    clear hown hgrow hnil
    have HR : Hid (s'.n = sn ∧ s'.z = sz ∧ OwnH w.heap.size 70 w1 s' ∧ Room w.heap.size w1 70 4 s'.a s'.c) := ⟨e1, e2, e3⟩
    clear e1 e2 e3
    simp only [Hs.val]
    go_wp2
    go_ret
    exact ⟨s', rfl, ⟨HR.out.1, fun j _ => by rw [HR.out.2.1], HR.out.2.2⟩, hB⟩
theorem infoLineC : (Try.prog.info? 53).map (fun i => (i.zero, i.size, i.bytes)) = some (some (.agg #[.int .i64 0, .int .i64 0, .int .i64 0, .int .i64 0]), 4, 32) := by kernel_rfl
set_option maxRecDepth 100000 in
set_option maxHeartbeats 1000000 in
theorem CloneLine_any (s : Hs) (w : World) (hs : s.At w) (hn : s.n ≤ 1000) :
    Calls Try.prog 64 #[s.val] w fun e w' => ∃ s' : Hs, e = .returned s'.val ∧ Cloned w.heap.size 53 s w' s' ∧ Below w.heap.size w w' := by
  obtain ⟨sle, scap, sh, snil⟩ := hs
  obtain ⟨sa, sn, sc, sz⟩ := s
  dsimp only at sle scap sh snil hn
  simp only [Hs.val]
  obtain ⟨i0, hi, hz0, hz1, hz2⟩ := info_parts infoLineC
  have q22 : ∀ (w : World) (a : Option Addr) (n c n' c' : Nat), (binOp .eql 49 (.slice a n c) (.slice none n' c')).run Try.prog w = .ok (.bool a.isNone) w := fun w a n c n' c' => Lib.run_eql_slice_nil w _ _ a n c n' c' Try.underlying49
  cases sa with
  | none =>
    have hc0 := snil rfl
    subst hc0
    have hn0 : sn = 0 := by omega
    subst hn0
    go_enter Try.func64, Try.ntmps64
    go_wp2
    go_ret
    exact ⟨⟨none, 0, 0, sz⟩, rfl, ⟨rfl, fun j hj => rfl, ⟨Nat.le_refl _, Nat.zero_le _, fun _ => rfl, fun h => absurd h (Nat.lt_irrefl _)⟩, Or.inl rfl⟩, Below.refl _ _⟩
  | some ad =>
    have hnews : ∀ j u, (flatH sn sz)[j]? = some u → w.cell? (ad.add j) = some u ∧ (ad.add j).block < w.heap.size := fun j u hj => by
      have hlen := (List.getElem?_eq_some_iff.1 hj).1
      rw [flatH_len] at hlen
      obtain ⟨b, o, he, hb, -⟩ := sh 0 (by omega)
      simp only [Option.some.injEq] at he
      subst he
      exact ⟨HdsAt.news sh j u hj, by rw [Go.WideShapes.add_plain]; exact hb⟩
    have HN : Hid (∀ j u, (flatH sn sz)[j]? = some u → w.cell? (ad.add j) = some u ∧ (ad.add j).block < w.heap.size) := hnews
    clear hnews sh snil
    go_enter Try.func64, Try.ntmps64
    go_wp2_with (at_builtin; refine wpList_append_own _ rfl _ _ 49 rfl w.heap.size 53 i0 (.agg #[.int .i64 0, .int .i64 0, .int .i64 0, .int .i64 0]) 4 32 Try.underlying49 hi hz0 hz1 hz2 rfl (by decide) _ _ _ rfl (World.ownsRow_made w #[] 0 (Nat.le_refl _) (Nat.zero_le _) rfl) ad sn sc (flatH sn sz) rfl ?qc1 ?qc2 ?qc3 ?qc4 ?qc5 ?qc6 ?_)
    case qc1 => rw [flatH_len]
    case qc2 =>
      intro j u hj
      have := HN.out j u hj
      rw [((Below.refl w.heap.size w).alloc (Nat.le_refl _) _).cell (p := ad.add j) this.2]
      exact this.1
    case qc3 => exact flatH_one sn sz
    case qc4 => unfold maxLen; omega
    case qc5 => omega
    case qc6 => simp
    intro v' w1 hown hgrow hnil
    have hB : Below w.heap.size w w1 := ((Below.refl _ w).alloc (Nat.le_refl _) _).grown hgrow (by simp) (by intro k hk; simp [Value.ownBlock] at hk; omega)
    obtain ⟨s', rfl, e1, e2, e3⟩ := OwnH.ofOwns hown hnil
    clear hown hgrow hnil
    have HR : Hid (s'.n = sn ∧ s'.z = sz ∧ OwnH w.heap.size 53 w1 s' ∧ Room w.heap.size w1 53 4 s'.a s'.c) := ⟨e1, e2, e3⟩
    clear e1 e2 e3
    simp only [Hs.val]
    go_wp2
    go_ret
    exact ⟨s', rfl, ⟨HR.out.1, fun j _ => by rw [HR.out.2.1], HR.out.2.2⟩, hB⟩
end Go.Proofs.Ytbcacebifpagpac
namespace Go.Proofs.Ytbcacebifpagpac
open Go.RowKit Go.Shelf
set_option linter.unusedVariables false
def odCells (x : Od) : List Value := [.int .i64 x.k, .slice x.ls.a x.ls.n x.ls.c]
def flatO : Nat → (Nat → Od) → List Value
  | 0, _ => []
  | n + 1, z => flatO n z ++ odCells (z n)
theorem flatO_len : ∀ (n : Nat) (z : Nat → Od), (flatO n z).length = n * 2
  | 0, _ => rfl
  | n + 1, z => by rw [flatO, List.length_append, flatO_len n z]; simp [odCells]; omega
theorem flatO_get : ∀ (n : Nat) (z : Nat → Od) (i c : Nat), i < n → c < 2 → (flatO n z)[i * 2 + c]? = (odCells (z i))[c]?
  | 0, _, i, c, hi, _ => absurd hi (Nat.not_lt_zero _)
  | n + 1, z, i, c, hi, hc => by
    rw [flatO]
    by_cases h : i = n
    · subst h
      rw [List.getElem?_append_right (by rw [flatO_len]; omega), flatO_len]
      congr 1
      omega
    · rw [List.getElem?_append_left (by rw [flatO_len]; omega)]
      exact flatO_get n z i c (by omega) hc
theorem flatO_at {n : Nat} {z : Nat → Od} {i c : Nat} (hi : i < n) (hc : c < 2) : (flatO n z).getD (i * 2 + c) default = (odCells (z i)).getD c default := by
  simp only [List.getD, flatO_get n z i c hi hc]
theorem flatO_one : ∀ (n : Nat) (z : Nat → Od), ∀ u ∈ flatO n z, u.oneCell' = true
  | 0, _, u, hu => by simp [flatO] at hu
  | n + 1, z, u, hu => by
    rw [flatO, List.mem_append] at hu
    rcases hu with hu | hu
    · exact flatO_one n z u hu
    · simp only [odCells, List.mem_cons, List.not_mem_nil, or_false] at hu
      rcases hu with rfl | rfl <;> rfl
theorem OdsAt.news {w : World} {b o n : Nat} {z : Nat → Od} (h : OdsAt w (some ⟨b, o, none⟩) n z) : ∀ j u, (flatO n z)[j]? = some u → w.cell? ((⟨b, o, none⟩ : Addr).add j) = some u := by
  intro j u hj
  have hlen := (List.getElem?_eq_some_iff.1 hj).1
  rw [flatO_len] at hlen
  obtain ⟨b', o', he, hb, h0, h1, -⟩ := h (j / 2) (by omega)
  simp only [Option.some.injEq, Addr.mk.injEq, and_true] at he
  obtain ⟨rfl, rfl⟩ := he
  rw [Go.WideShapes.add_plain]
  have hd : j = j / 2 * 2 + j % 2 := by omega
  rw [hd, flatO_get n z (j / 2) (j % 2) (by omega) (by omega)] at hj
  have h2 : j % 2 = 0 ∨ j % 2 = 1 := by omega
  rcases h2 with h2 | h2
  · rw [h2] at hj; simp [odCells] at hj; rw [← hj, ← h0]; congr 2; omega
  · rw [h2] at hj; simp [odCells] at hj; rw [← hj, ← h1]; congr 2; omega
theorem infoOrderC : (Try.prog.info? 51).map (fun i => (i.zero, i.size, i.bytes)) = some (some (.agg #[.int .i64 0, .slice none 0 0]), 2, 32) := by kernel_rfl
def ClonedO (s : Os) (A : Nat) (w' : World) (a' : Option Addr) (c' : Nat) : Prop := s.n ≤ c' ∧ c' ≤ maxLen ∧ (0 < s.n → ∃ g, a' = some ⟨g, 0, none⟩ ∧ A ≤ g ∧ Blk w' g 51 (s.n * 2) (fun j => (flatO s.n s.z).getD j default)) ∧ Room A w' 51 2 a' c'
set_option maxRecDepth 100000 in
set_option maxHeartbeats 1000000 in
theorem CloneOrder_any (s : Os) (w : World) (hs : s.At w) (hn : s.n ≤ 1000) :
    Calls Try.prog 114 #[s.val] w fun e w' => ∃ a' c', e = .returned (.slice a' s.n c') ∧ ClonedO s w.heap.size w' a' c' ∧ Below w.heap.size w w' := by
  obtain ⟨sle, scap, sh⟩ := hs
  obtain ⟨sa, sn, sc, sz⟩ := s
  dsimp only at sle scap sh hn
  simp only [Os.val]
  obtain ⟨i0, hi, hz0, hz1, hz2⟩ := info_parts infoOrderC
  have q22 : ∀ (w : World) (a : Option Addr) (n c n' c' : Nat), (binOp .eql 27 (.slice a n c) (.slice none n' c')).run Try.prog w = .ok (.bool a.isNone) w := fun w a n c n' c' => Lib.run_eql_slice_nil w _ _ a n c n' c' Try.underlying27
  cases sa with
  | none =>
    have hn0 : sn = 0 := by
      rcases Nat.eq_zero_or_pos sn with h | h
      · exact h
      · obtain ⟨b, o, he, _⟩ := sh 0 h
        cases he
    subst hn0
    go_enter Try.func114, Try.ntmps114
    go_wp2
    go_ret
    exact ⟨none, 0, rfl, ⟨Nat.le_refl _, Nat.zero_le _, fun h => absurd h (Nat.lt_irrefl _), Or.inl rfl⟩, Below.refl _ _⟩
  | some ad =>
    have HN : Hid (∀ j u, (flatO sn sz)[j]? = some u → w.cell? (ad.add j) = some u ∧ (ad.add j).block < w.heap.size) := fun j u hj => by
      have hlen := (List.getElem?_eq_some_iff.1 hj).1
      rw [flatO_len] at hlen
      obtain ⟨b, o, he, hb, -⟩ := sh 0 (by omega)
      simp only [Option.some.injEq] at he
      subst he
      exact ⟨OdsAt.news sh j u hj, by rw [Go.WideShapes.add_plain]; exact hb⟩
    clear sh
    go_enter Try.func114, Try.ntmps114
    go_wp2_with (at_builtin; refine wpList_append_own _ rfl _ _ 27 rfl w.heap.size 51 i0 (.agg #[.int .i64 0, .slice none 0 0]) 2 32 Try.underlying27 hi hz0 hz1 hz2 rfl (by decide) _ _ _ rfl (World.ownsRow_made w #[] 0 (Nat.le_refl _) (Nat.zero_le _) rfl) ad sn sc (flatO sn sz) rfl ?qc1 ?qc2 ?qc3 ?qc4 ?qc5 ?qc6 ?_)
    case qc1 => rw [flatO_len]
    case qc2 =>
      intro j u hj
      have := HN.out j u hj
      rw [((Below.refl w.heap.size w).alloc (Nat.le_refl _) _).cell (p := ad.add j) this.2]
      exact this.1
    case qc3 => exact flatO_one sn sz
    case qc4 => unfold maxLen; omega
    case qc5 => omega
    case qc6 => simp
    intro v' w1 hown hgrow hnil
    have hB : Below w.heap.size w w1 := ((Below.refl _ w).alloc (Nat.le_refl _) _).grown hgrow (by simp) (by intro k hk; simp [Value.ownBlock] at hk; omega)
    obtain ⟨g, c', rfl, h1, h2, h3, h4⟩ := Blk.ofOwns hown hnil
    have hroom := Room.ofOwns hown (Nat.le_refl _)
    clear hown hgrow hnil
    have HR : Hid (ClonedO ⟨some ad, sn, sc, sz⟩ w.heap.size w1 (some ⟨g, 0, none⟩) c') := ⟨h1, h2, fun _ => ⟨g, rfl, h3, h4⟩, hroom⟩
    clear h4 hroom
    go_wp2
    go_ret
    exact ⟨some ⟨g, 0, none⟩, c', rfl, HR.out, hB⟩
structure OwnO (A : Nat) (w : World) (s : Os) : Prop where
  le : s.n ≤ s.c
  cap : s.c ≤ maxLen
  list : 0 < s.n → ∃ g, s.a = some ⟨g, 0, none⟩ ∧ A ≤ g ∧ Blk w g 51 (s.n * 2) (fun j => (flatO s.n s.z).getD j default)
  lines : ∀ i, i < s.n → ∃ B, (s.z i).ls.a = some ⟨B, 0, none⟩ ∧ A ≤ B ∧ (s.z i).ls.n ≤ (s.z i).ls.c ∧ (s.z i).ls.c ≤ maxLen ∧ Blk w B 53 ((s.z i).ls.n * 4) (fun j => (flatH (s.z i).ls.n (s.z i).ls.z).getD j default)
  apart : ∀ i j, i < j → j < s.n → (s.z i).ls.a ≠ (s.z j).ls.a
  room : Room A w 51 2 s.a s.c
theorem OwnO.at {A : Nat} {w : World} {s : Os} (h : OwnO A w s) : s.At w := by
  refine ⟨h.le, h.cap, fun i hi => ?_⟩
  obtain ⟨g, ha, hA, hb⟩ := h.list (by omega)
  obtain ⟨B, hl, hA2, l1, l2, hb2⟩ := h.lines i hi
  have c0 := hb.cell (j := i * 2) (by omega)
  have c1 := hb.cell (j := i * 2 + 1) (by omega)
  have e0 := flatO_at (z := s.z) hi (show 0 < 2 by decide)
  have e1 := flatO_at (z := s.z) hi (show 1 < 2 by decide)
  rw [Nat.add_zero] at e0
  rw [e0] at c0
  rw [e1] at c1
  refine ⟨g, 0, ha, hb.lt, by rw [Nat.zero_add]; exact c0, by rw [Nat.zero_add]; exact c1, ?_⟩
  exact OwnH.at (A := A) (e := 53) ⟨l1, l2, (fun e => by rw [hl] at e; cases e), fun _ => ⟨B, hl, hA2, hb2⟩⟩
def SameO (s t : Os) : Prop := s.n = t.n ∧ ∀ i, i < s.n → (s.z i).k = (t.z i).k ∧ (s.z i).ls.n = (t.z i).ls.n ∧ ∀ j, j < (s.z i).ls.n → (s.z i).ls.z j = (t.z i).ls.z j
def mixO (s : Os) (k : Nat) (B C : Nat → Nat) (i : Nat) : Od := if i < k then ⟨(s.z i).k, ⟨some ⟨B i, 0, none⟩, (s.z i).ls.n, C i, (s.z i).ls.z⟩⟩ else s.z i
def CopL (s : Os) (A : Nat) (a' : Option Addr) (c' k : Nat) (wk : World) : Prop := Room A wk 51 2 a' c' ∧ ∃ B C : Nat → Nat, (0 < s.n → ∃ g, a' = some ⟨g, 0, none⟩ ∧ A ≤ g ∧ Blk wk g 51 (s.n * 2) (fun j => (flatO s.n (mixO s k B C)).getD j default)) ∧
  (∀ i, i < k → A ≤ B i ∧ (s.z i).ls.n ≤ C i ∧ C i ≤ maxLen ∧ Blk wk (B i) 53 ((s.z i).ls.n * 4) (fun j => (flatH (s.z i).ls.n (s.z i).ls.z).getD j default)) ∧ (∀ i j, i < j → j < k → B i < B j)
theorem flatO_congr : ∀ {n : Nat} {z z' : Nat → Od}, (∀ i, i < n → odCells (z i) = odCells (z' i)) → flatO n z = flatO n z'
  | 0, _, _, _ => rfl
  | n + 1, z, z', h => by rw [flatO, flatO, flatO_congr (n := n) fun i hi => h i (by omega), h n (by omega)]
theorem mix_step {s : Os} {k : Nat} {B C : Nat → Nat} {gB cB : Nat} (hk : k < s.n) (j : Nat) (hj : j < s.n * 2) :
    (if j = k * 2 + 1 then Value.slice (some ⟨gB, 0, none⟩) (s.z k).ls.n cB else (flatO s.n (mixO s k B C)).getD j default) = (flatO s.n (mixO s (k + 1) (fun i => if i = k then gB else B i) (fun i => if i = k then cB else C i))).getD j default := by
  have hd : j = j / 2 * 2 + j % 2 := by omega
  have h2 : j % 2 = 0 ∨ j % 2 = 1 := by omega
  have hi : j / 2 < s.n := by omega
  have e1 := flatO_at (z := mixO s k B C) hi (show j % 2 < 2 by omega)
  have e2 := flatO_at (z := mixO s (k + 1) (fun i => if i = k then gB else B i) (fun i => if i = k then cB else C i)) hi (show j % 2 < 2 by omega)
  rw [← hd] at e1 e2
  rw [e1, e2]
  by_cases hjk : j / 2 = k
  · have m1 : mixO s k B C (j / 2) = s.z k := by unfold mixO; rw [if_neg (by omega), hjk]
    have m2 : mixO s (k + 1) (fun i => if i = k then gB else B i) (fun i => if i = k then cB else C i) (j / 2) = ⟨(s.z k).k, ⟨some ⟨gB, 0, none⟩, (s.z k).ls.n, cB, (s.z k).ls.z⟩⟩ := by unfold mixO; rw [if_pos (by omega)]; simp [hjk]
    rw [m1, m2]
    rcases h2 with h2 | h2
    · rw [if_neg (by omega), h2]; rfl
    · rw [if_pos (by omega), h2]; rfl
  · rw [if_neg (by omega)]
    have m : mixO s k B C (j / 2) = mixO s (k + 1) (fun i => if i = k then gB else B i) (fun i => if i = k then cB else C i) (j / 2) := by
      unfold mixO
      by_cases hlt : j / 2 < k
      · rw [if_pos hlt, if_pos (by omega)]; simp [hjk]
      · rw [if_neg hlt, if_neg (by omega)]
    rw [m]
set_option maxRecDepth 100000 in
set_option maxHeartbeats 2000000 in
theorem copyOrders_any (s : Os) (w : World) (hs : s.At w) (hn : s.n ≤ 1000) (hl : ∀ i, i < s.n → 1 ≤ (s.z i).ls.n ∧ (s.z i).ls.n ≤ 3) :
    Calls Try.prog 89 #[s.val] w fun e w' => ∃ s' : Os, e = .returned s'.val ∧ SameO s' s ∧ OwnO w.heap.size w' s' ∧ Below w.heap.size w w' := by
  have HS : Hid (s.At w) := hs
  have HL : Hid (∀ i, i < s.n → 1 ≤ (s.z i).ls.n ∧ (s.z i).ls.n ≤ 3) := hl
  have sle := hs.le
  have scap := hs.cap
  unfold maxLen at scap
  clear hs hl
  simp only [Os.val]
  go_enter Try.func89, Try.ntmps89
  go_wp2_with fail
  refine (CloneOrder_any s w HS.out hn).mono ?_
  rintro e w1 ⟨a', c', rfl, hcl, hB1⟩
  have HCL : Hid (ClonedO s w.heap.size w1 a' c') := hcl
  clear hcl
  have c1 := HCL.out.1
  have c2 := HCL.out.2.1
  unfold maxLen at c2
  go_wp2_with fail
  go_loopw [10] (fun i wk => ∃ k : Nat, k ≤ s.n ∧ i = .int .i64 k ∧ Hid (CopL s w.heap.size a' c' k wk) ∧ Below w.heap.size w wk) (fun i _ => s.n - (intOf i).toNat)
  case atStart =>
    refine ⟨0, Nat.zero_le _, rfl, ⟨HCL.out.2.2.2, fun _ => 0, fun _ => 0, fun h => ?_, fun i hi => absurd hi (Nat.not_lt_zero _), fun i j _ hj => absurd hj (Nat.not_lt_zero _)⟩, hB1⟩
    obtain ⟨g, e1, e2, e3⟩ := HCL.out.2.2.1 h
    exact ⟨g, e1, e2, e3.congr (fun j hj => by rw [flatO_congr (z' := mixO s 0 (fun _ => 0) (fun _ => 0)) fun i hi => by unfold mixO; rw [if_neg (by omega)]])⟩
  case round =>
    clear hB1
    obtain ⟨k, hk, rfl, HG, hB⟩ := hrel
    by_cases hlt : k < s.n
    · obtain ⟨b, o, hoa, hb, z0, z1, hlk⟩ := (HS.out.below hB).ods k hlt
      have qk : (0 : Int) ≤ (k : Int) := by omega
      obtain ⟨hroom, B, C, hgl, hrow, hinc⟩ := HG.out
      have HRM : Hid (Room w.heap.size wr 51 2 a' c') := hroom
      obtain ⟨g, ha', hA, gb⟩ := hgl (by omega)
      have HR : Hid ((∀ i, i < k → w.heap.size ≤ B i ∧ (s.z i).ls.n ≤ C i ∧ C i ≤ maxLen ∧ Blk wr (B i) 53 ((s.z i).ls.n * 4) (fun j => (flatH (s.z i).ls.n (s.z i).ls.z).getD j default)) ∧ (∀ i j, i < j → j < k → B i < B j) ∧ a' = some ⟨g, 0, none⟩) := ⟨hrow, hinc, ha'⟩
      have HGB : Hid (Blk wr g 51 (s.n * 2) (fun j => (flatO s.n (mixO s k B C)).getD j default)) := gb
      have hn3 := HL.out k hlt
      have hBa := (Below.refl wr.heap.size wr).alloc (Nat.le_refl _) (.cells #[.int .i64 (s.z k).k, .slice (s.z k).ls.a (s.z k).ls.n (s.z k).ls.c] 51)
      have hlk2 := hlk.below hBa
      rw [hoa, ha']
      clear hoa ha' hgl hrow hinc gb HG hlk hroom
      go_wp2_with fail
      refine (CloneLine_any (s.z k).ls _ hlk2 (by omega)).mono ?_
      rintro e w2 ⟨s', rfl, hcl, hB2⟩
      obtain ⟨sa', sn', sc', sz'⟩ := s'
      obtain ⟨e1, e2, ⟨o1, o2, o3, o4⟩, -⟩ := hcl
      dsimp only at e1 e2 o1 o2 o3 o4
      subst e1
      obtain ⟨gB, e3, hgB, kB⟩ := o4 (by omega)
      subst e3
      have kB2 : Blk w2 gB 53 ((s.z k).ls.n * 4) (fun j => (flatH (s.z k).ls.n (s.z k).ls.z).getD j default) := kB.congr (fun j hj => by rw [flatH_congr e2])
      have hB12 := hBa.trans (hB2.mono hBa.size)
      have gb2 := HGB.out.below hB12
      have hsz := hBa.size
      have hf := gb2.frozen (k * 2 + 1)
      have hc := gb2.cell (j := k * 2 + 1) (by omega)
      rw [flatO_at (z := mixO s k B C) hlt (show 1 < 2 by decide)] at hc
      have hm : mixO s k B C k = s.z k := by unfold mixO; rw [if_neg (by omega)]
      rw [hm] at hc
      have hc2 : w2.cell? ⟨g, k * 2 + 1, none⟩ = some (.slice (s.z k).ls.a (s.z k).ls.n (s.z k).ls.c) := hc
      have hlg := gb2.lt
      have hBw2 := hB.trans (hB12.mono hB.size)
      have KB := gb2.set (k * 2 + 1) (.slice (some ⟨gB, 0, none⟩) (s.z k).ls.n sc')
      have HN : Hid (CopL s w.heap.size (some ⟨g, 0, none⟩) c' (k + 1) (w2.setCell ⟨g, k * 2 + 1, none⟩ (.slice (some ⟨gB, 0, none⟩) (s.z k).ls.n sc')) ∧ Below w.heap.size w (w2.setCell ⟨g, k * 2 + 1, none⟩ (.slice (some ⟨gB, 0, none⟩) (s.z k).ls.n sc'))) := by
        refine ⟨⟨(by have h := (HRM.out.below hB12).set g (k * 2 + 1) (.slice (some ⟨gB, 0, none⟩) (s.z k).ls.n sc'); rw [HR.out.2.2] at h; exact h), fun i => if i = k then gB else B i, fun i => if i = k then sc' else C i, fun _ => ⟨g, rfl, hA, KB.congr (fun j hj => mix_step hlt j hj)⟩, fun i hi => ?_, fun i j hij hj => ?_⟩, hBw2.setCell (p := ⟨g, k * 2 + 1, none⟩) hA _⟩
        · dsimp only
          by_cases hik : i = k
          · subst hik
            rw [if_pos rfl, if_pos rfl]
            exact ⟨by have := hB.size; omega, o1, o2, kB2.other (a := ⟨g, i * 2 + 1, none⟩) (Blk.ne2 kB2 gb2 (by decide)) _⟩
          · rw [if_neg hik, if_neg hik]
            obtain ⟨r1, r2, r3, r4⟩ := HR.out.1 i (by omega)
            have r5 := r4.below hB12
            exact ⟨r1, r2, r3, r5.other (a := ⟨g, k * 2 + 1, none⟩) (Blk.ne2 r5 gb2 (by decide)) _⟩
        · dsimp only
          by_cases hjk : j = k
          · subst hjk
            rw [if_neg (by omega), if_pos rfl]
            have := (HR.out.1 i hij).2.2.2.lt
            omega
          · rw [if_neg (by omega), if_neg hjk]
            exact HR.out.2.1 i j hij (by omega)
      clear KB kB kB2 gb2 hc hm hB12 HGB hB2 hlk2 hBw2
      simp only [Hs.val]
      go_wp2_with fail
      go_roundw
      case rel => exact ⟨k + 1, by omega, by go_num, HN.out.1, HN.out.2⟩
      case measure => simp [intOf]; omega
    · have hkn : k = s.n := by omega
      subst hkn
      go_wp2_with fail
      go_ret
      obtain ⟨hroom, B, C, hgl, hrow, hinc⟩ := HG.out
      refine ⟨⟨a', s.n, c', mixO s s.n B C⟩, rfl, ⟨rfl, fun i hi => ?_⟩, ⟨c1, HCL.out.2.1, hgl, fun i hi => ?_, fun i j hij hj => ?_, hroom⟩, hB⟩
      · have hi' : i < s.n := hi
        have m : mixO s s.n B C i = ⟨(s.z i).k, ⟨some ⟨B i, 0, none⟩, (s.z i).ls.n, C i, (s.z i).ls.z⟩⟩ := by unfold mixO; rw [if_pos hi']
        show (mixO s s.n B C i).k = _ ∧ (mixO s s.n B C i).ls.n = _ ∧ _
        rw [m]
        exact ⟨rfl, rfl, fun j _ => by show (mixO s s.n B C i).ls.z j = _; rw [m]⟩
      · have hi' : i < s.n := hi
        have m : mixO s s.n B C i = ⟨(s.z i).k, ⟨some ⟨B i, 0, none⟩, (s.z i).ls.n, C i, (s.z i).ls.z⟩⟩ := by unfold mixO; rw [if_pos hi']
        show ∃ B', (mixO s s.n B C i).ls.a = _ ∧ _ ∧ (mixO s s.n B C i).ls.n ≤ (mixO s s.n B C i).ls.c ∧ (mixO s s.n B C i).ls.c ≤ maxLen ∧ Blk _ B' _ ((mixO s s.n B C i).ls.n * 4) (fun j => (flatH (mixO s s.n B C i).ls.n (mixO s s.n B C i).ls.z).getD j default)
        rw [m]
        obtain ⟨r1, r2, r3, r4⟩ := hrow i hi'
        exact ⟨B i, rfl, r1, r2, r3, r4⟩
      · have hj' : j < s.n := hj
        show (mixO s s.n B C i).ls.a ≠ (mixO s s.n B C j).ls.a
        unfold mixO
        rw [if_pos (by omega), if_pos hj']
        have := hinc i j hij hj'
        simp only [ne_eq, Option.some.injEq, Addr.mk.injEq, and_true]
        omega
end Go.Proofs.Ytbcacebifpagpac
namespace Go.Proofs.Ytbcacebifpagpac
open Go.RowKit Go.Shelf Go.Sort
set_option linter.unusedVariables false
def NoneS (s : St) : Prop := s.on.n = 0 ∧ s.os.n = 0 ∧ s.hs.n = 0 ∧ s.ms.n = 0 ∧ s.si.n = 0 ∧ s.so.n = 0 ∧ s.sf.n = 0
def noneS : St := ⟨⟨none, 0, 0, fun _ => ⟨none, 0, 0, fun _ => 0⟩⟩, ⟨none, 0, 0, fun _ => ⟨0, ⟨none, 0, 0, fun _ => ⟨0, 0, 0, 0⟩⟩⟩⟩, ⟨none, 0, 0, fun _ => ⟨0, 0, 0, 0⟩⟩, ⟨none, 0, 0, fun _ => ⟨0, 0, 0, 0⟩⟩, ⟨none, 0, 0, fun _ => 0⟩, ⟨none, 0, 0, fun _ => 0⟩, ⟨none, 0, 0, fun _ => 0⟩⟩
theorem Rw.none (w : World) : Rw.At w ⟨.none, 0, 0, fun _ => 0⟩ := ⟨Nat.le_refl _, Nat.zero_le _, fun i hi => absurd hi (Nat.not_lt_zero _)⟩
theorem Hs.none (w : World) : Hs.At w ⟨.none, 0, 0, fun _ => ⟨0, 0, 0, 0⟩⟩ := ⟨Nat.le_refl _, Nat.zero_le _, fun i hi => absurd hi (Nat.not_lt_zero _), fun _ => rfl⟩
theorem noneS_at (w : World) : noneS.At w :=
  ⟨⟨Nat.le_refl _, Nat.zero_le _, fun i hi => absurd hi (Nat.not_lt_zero _)⟩, ⟨Nat.le_refl _, Nat.zero_le _, fun i hi => absurd hi (Nat.not_lt_zero _)⟩, Hs.none w, Hs.none w, Rw.none w, Rw.none w, Rw.none w⟩
def set7 (w : World) (b : Nat) (v0 v1 v2 v3 v4 v5 v6 : Value) : World :=
  ((((((w.setCell ⟨b, 0, none⟩ v0).setCell ⟨b, 1, none⟩ v1).setCell ⟨b, 2, none⟩ v2).setCell ⟨b, 3, none⟩ v3).setCell ⟨b, 4, none⟩ v4).setCell ⟨b, 5, none⟩ v5).setCell ⟨b, 6, none⟩ v6
theorem set7_blk {w : World} {b : Nat} {e : TypeId} {f : Nat → Value} (h : Blk w b e 7 f) (v0 v1 v2 v3 v4 v5 v6 : Value) : Blk (set7 w b v0 v1 v2 v3 v4 v5 v6) b e 7 (fun j => (#[v0, v1, v2, v3, v4, v5, v6] : Array Value).getD j default) :=
  (((((((h.set 0 v0).set 1 v1).set 2 v2).set 3 v3).set 4 v4).set 5 v5).set 6 v6).congr fun j hj => by match j, hj with | 0, _ => rfl | 1, _ => rfl | 2, _ => rfl | 3, _ => rfl | 4, _ => rfl | 5, _ => rfl | 6, _ => rfl
theorem set7_below {n : Nat} {A w : World} {b : Nat} (h : Below n A w) (hb : n ≤ b) (v0 v1 v2 v3 v4 v5 v6 : Value) : Below n A (set7 w b v0 v1 v2 v3 v4 v5 v6) :=
  ((((((h.setCell (p := ⟨b, 0, none⟩) hb v0).setCell (p := ⟨b, 1, none⟩) hb v1).setCell (p := ⟨b, 2, none⟩) hb v2).setCell (p := ⟨b, 3, none⟩) hb v3).setCell (p := ⟨b, 4, none⟩) hb v4).setCell (p := ⟨b, 5, none⟩) hb v5).setCell (p := ⟨b, 6, none⟩) hb v6
theorem box_cells {w : World} {b : Nat} {e : TypeId} {v0 v1 v2 v3 v4 v5 v6 : Value} (h : Blk w b e 7 (fun j => (#[v0, v1, v2, v3, v4, v5, v6] : Array Value).getD j default)) :
    w.cell? ⟨b, 0, none⟩ = some v0 ∧ w.cell? ⟨b, 1, none⟩ = some v1 ∧ w.cell? ⟨b, 2, none⟩ = some v2 ∧ w.cell? ⟨b, 3, none⟩ = some v3 ∧ w.cell? ⟨b, 4, none⟩ = some v4 ∧ w.cell? ⟨b, 5, none⟩ = some v5 ∧ w.cell? ⟨b, 6, none⟩ = some v6 :=
  ⟨h.cell (j := 0) (by decide), h.cell (j := 1) (by decide), h.cell (j := 2) (by decide), h.cell (j := 3) (by decide), h.cell (j := 4) (by decide), h.cell (j := 5) (by decide), h.cell (j := 6) (by decide)⟩
end Go.Proofs.Ytbcacebifpagpac
namespace Go.Proofs.Ytbcacebifpagpac
open Go.RowKit Go.Shelf Go.Sort
set_option linter.unusedVariables false
def OwnI (A : Nat) (w : World) (r : Rw) : Prop := ∃ g, r.a = some ⟨g, 0, none⟩ ∧ A ≤ g ∧ r.n ≤ r.c ∧ r.c ≤ maxLen ∧ Blk w g 3 r.n (fun j => .int .i64 (r.z j))
theorem OwnI.at {A : Nat} {w : World} {r : Rw} (h : OwnI A w r) : r.At w := by
  obtain ⟨g, ha, _, h1, h2, hb⟩ := h
  exact ⟨h1, h2, fun i hi => ⟨g, 0, ha, hb.lt, by rw [Nat.zero_add]; exact hb.cell hi⟩⟩
theorem OwnI.below {A : Nat} {w w' : World} {r : Rw} (h : OwnI A w r) (hB : Below w.heap.size w w') : OwnI A w' r := by
  obtain ⟨g, ha, h0, h1, h2, hb⟩ := h
  exact ⟨g, ha, h0, h1, h2, hb.below hB⟩
structure OwnS (A : Nat) (w : World) (s : St) : Prop where
  on : ∃ g, s.on.a = some ⟨g, 0, none⟩ ∧ A ≤ g ∧ s.on.n ≤ s.on.c ∧ s.on.c ≤ maxLen ∧ Blk w g 23 s.on.n (fun i => .slice (s.on.r i).a (s.on.r i).n (s.on.r i).c)
  rows : ∀ i, i < s.on.n → OwnI A w (s.on.r i)
  rapart : ∀ i j, i < j → j < s.on.n → (s.on.r i).a ≠ (s.on.r j).a
  os : OwnO A w s.os
  hs : OwnH A 65 w s.hs
  ms : OwnH A 70 w s.ms
  msr : Room A w 70 4 s.ms.a s.ms.c
  si : OwnI A w s.si
  so : OwnI A w s.so
  sf : OwnI A w s.sf
  aio : s.si.a ≠ s.so.a
  aif : s.si.a ≠ s.sf.a
  aof : s.so.a ≠ s.sf.a
  ari : ∀ i, i < s.on.n → (s.on.r i).a ≠ s.si.a ∧ (s.on.r i).a ≠ s.so.a ∧ (s.on.r i).a ≠ s.sf.a
theorem OwnS.at {A : Nat} {w : World} {s : St} (h : OwnS A w s) : s.At w := by
  obtain ⟨g, ha, _, h1, h2, hb⟩ := h.on
  exact ⟨⟨h1, h2, fun i hi => ⟨g, 0, ha, hb.lt, by rw [Nat.zero_add]; exact hb.cell hi, (h.rows i hi).at⟩⟩, h.os.at, h.hs.at, h.ms.at, h.si.at, h.so.at, h.sf.at⟩
theorem OwnI.other {A : Nat} {t : TypeId} {w : World} {r : Rw} {q n : Nat} {f : Nat → Value} (h : OwnI A w r) (hq : Blk w q t n f) (hne : 3 ≠ t) (j : Nat) (u : Value) : OwnI A (w.setCell ⟨q, j, none⟩ u) r := by
  obtain ⟨g, ha, h0, h1, h2, hb⟩ := h
  exact ⟨g, ha, h0, h1, h2, hb.other (a := ⟨q, j, none⟩) (Blk.ne2 hb hq hne) u⟩
theorem OwnO.other {A : Nat} {t : TypeId} {w : World} {s : Os} {q n : Nat} {f : Nat → Value} (h : OwnO A w s) (hq : Blk w q t n f) (h1 : 51 ≠ t) (h2 : 53 ≠ t) (j : Nat) (u : Value) : OwnO A (w.setCell ⟨q, j, none⟩ u) s := by
  refine ⟨h.le, h.cap, fun hn => ?_, fun i hi => ?_, h.apart, h.room.set q j u⟩
  · obtain ⟨g, a, b, c⟩ := h.list hn
    exact ⟨g, a, b, c.other (a := ⟨q, j, none⟩) (Blk.ne2 c hq h1) u⟩
  · obtain ⟨B, a, b, c, d, e⟩ := h.lines i hi
    exact ⟨B, a, b, c, d, e.other (a := ⟨q, j, none⟩) (Blk.ne2 e hq h2) u⟩
theorem OwnS.box {A : Nat} {w : World} {s : St} {q n : Nat} {f : Nat → Value} (h : OwnS A w s) (hq : Blk w q 31 n f) (j : Nat) (u : Value) : OwnS A (w.setCell ⟨q, j, none⟩ u) s := by
  refine ⟨?_, fun i hi => (h.rows i hi).other hq (by decide) j u, h.rapart, h.os.other hq (by decide) (by decide) j u, h.hs.other hq (by decide) j u, h.ms.other hq (by decide) j u, h.msr.set q j u, h.si.other hq (by decide) j u, h.so.other hq (by decide) j u, h.sf.other hq (by decide) j u, h.aio, h.aif, h.aof, h.ari⟩
  obtain ⟨g, ha, h0, h1, h2, hb⟩ := h.on
  exact ⟨g, ha, h0, h1, h2, hb.other (a := ⟨q, j, none⟩) (Blk.ne2 hb hq (by decide)) u⟩
theorem OwnS.set7 {A : Nat} {w : World} {s : St} {b : Nat} {f : Nat → Value} (h : OwnS A w s) (hq : Blk w b 31 7 f) (v0 v1 v2 v3 v4 v5 v6 : Value) : OwnS A (Go.Proofs.Ytbcacebifpagpac.set7 w b v0 v1 v2 v3 v4 v5 v6) s :=
  ((((((h.box hq 0 v0).box (hq.set 0 v0) 1 v1).box ((hq.set 0 v0).set 1 v1) 2 v2).box (((hq.set 0 v0).set 1 v1).set 2 v2) 3 v3).box ((((hq.set 0 v0).set 1 v1).set 2 v2).set 3 v3) 4 v4).box (((((hq.set 0 v0).set 1 v1).set 2 v2).set 3 v3).set 4 v4) 5 v5).box ((((((hq.set 0 v0).set 1 v1).set 2 v2).set 3 v3).set 4 v4).set 5 v5) 6 v6
def DRows (A : Nat) (s : St) (v : Value) (g : List Nat) (wk : World) : Prop := ∃ (g0 : Nat) (G C : Nat → Nat), v = .slice (some ⟨g0, 0, none⟩) s.on.n s.on.n ∧ A ≤ g0 ∧ Blk wk g0 23 s.on.n (fun i => .slice (some ⟨G i, 0, none⟩) (s.on.r i).n (C i)) ∧
  (∀ i, i < s.on.n → A ≤ G i ∧ (s.on.r i).n ≤ C i ∧ C i ≤ maxLen ∧ Blk wk (G i) 3 (s.on.r i).n (fun j => .int .i64 ((s.on.r i).z j))) ∧ (∀ i j, i < j → j < s.on.n → G i < G j) ∧ g = (List.range s.on.n).map G
theorem DRows.below {A : Nat} {s : St} {v : Value} {g : List Nat} {w w' : World} (h : DRows A s v g w) (hB : Below w.heap.size w w') : DRows A s v g w' := by
  obtain ⟨g0, G, C, h1, h2, h3, h4, h5, h6⟩ := h
  exact ⟨g0, G, C, h1, h2, h3.below hB, fun i hi => ⟨(h4 i hi).1, (h4 i hi).2.1, (h4 i hi).2.2.1, (h4 i hi).2.2.2.below hB⟩, h5, h6⟩
theorem DRows.lt {A : Nat} {s : St} {v : Value} {g : List Nat} {w : World} (h : DRows A s v g w) : ∀ x ∈ g, x < w.heap.size := by
  obtain ⟨g0, G, C, h1, h2, h3, h4, h5, rfl⟩ := h
  intro x hx
  obtain ⟨i, hi, rfl⟩ := List.mem_map.1 hx
  exact (h4 i (List.mem_range.1 hi)).2.2.2.lt
def DInts (A : Nat) (r : Rw) (v : Value) (g : List Nat) (wk : World) : Prop := ∃ B c, g = [B] ∧ v = .slice (some ⟨B, 0, none⟩) r.n c ∧ A ≤ B ∧ r.n ≤ c ∧ c ≤ maxLen ∧ Blk wk B 3 r.n (fun j => .int .i64 (r.z j))
theorem DInts.below {A : Nat} {r : Rw} {v : Value} {g : List Nat} {w w' : World} (h : DInts A r v g w) (hB : Below w.heap.size w w') : DInts A r v g w' := by
  obtain ⟨B, c, h1, h2, h3, h4, h5, h6⟩ := h
  exact ⟨B, c, h1, h2, h3, h4, h5, h6.below hB⟩
theorem DInts.lt {A : Nat} {r : Rw} {v : Value} {g : List Nat} {w : World} (h : DInts A r v g w) : ∀ x ∈ g, x < w.heap.size := by
  obtain ⟨B, c, rfl, h2, h3, h4, h5, h6⟩ := h
  intro x hx
  rw [List.mem_singleton] at hx
  subst hx
  exact h6.lt
def DHs (A : Nat) (e : TypeId) (s : Hs) (v : Value) (g : List Nat) (wk : World) : Prop := ∃ s' : Hs, g = [] ∧ v = .slice s'.a s'.n s'.c ∧ Cloned A e s wk s'
theorem DHs.below {A : Nat} {e : TypeId} {s : Hs} {v : Value} {g : List Nat} {w w' : World} (h : DHs A e s v g w) (hB : Below w.heap.size w w') : DHs A e s v g w' := by
  obtain ⟨s', h1, h2, h3, h4, h5, h6⟩ := h
  exact ⟨s', h1, h2, h3, h4, h5.below hB, h6.below hB⟩
theorem OwnO.below {A : Nat} {w w' : World} {s : Os} (h : OwnO A w s) (hB : Below w.heap.size w w') : OwnO A w' s := by
  refine ⟨h.le, h.cap, fun hn => ?_, fun i hi => ?_, h.apart, h.room.below hB⟩
  · obtain ⟨g, a, b, c⟩ := h.list hn
    exact ⟨g, a, b, c.below hB⟩
  · obtain ⟨B, a, b, c, d, e⟩ := h.lines i hi
    exact ⟨B, a, b, c, d, e.below hB⟩
theorem OwnO.mono {A A' : Nat} {w : World} {s : Os} (h : OwnO A w s) (hA : A' ≤ A) : OwnO A' w s := by
  refine ⟨h.le, h.cap, fun hn => ?_, fun i hi => ?_, h.apart, h.room.mono hA⟩
  · obtain ⟨g, a, b, c⟩ := h.list hn
    exact ⟨g, a, by omega, c⟩
  · obtain ⟨B, a, b, c⟩ := h.lines i hi
    exact ⟨B, a, by omega, c⟩
def DOs (A : Nat) (s : Os) (v : Value) (g : List Nat) (wk : World) : Prop := ∃ s' : Os, g = [] ∧ v = .slice s'.a s'.n s'.c ∧ SameO s' s ∧ OwnO A wk s'
theorem DOs.below {A : Nat} {s : Os} {v : Value} {g : List Nat} {w w' : World} (h : DOs A s v g w) (hB : Below w.heap.size w w') : DOs A s v g w' := by
  obtain ⟨s', h1, h2, h3, h4⟩ := h
  exact ⟨s', h1, h2, h3, h4.below hB⟩
set_option maxRecDepth 100000 in
set_option maxHeartbeats 4000000 in
theorem copyState_any (p : Pl) (s : St) (w : World) (hs : s.At w) (f : Formed p s) :
    Calls Try.prog 45 #[s.val] w fun e w' => ∃ s' : St, e = .returned s'.val ∧ SameT s' s ∧ OwnS w.heap.size w' s' ∧ Below w.heap.size w w' := by
  obtain ⟨W0, hW, hWB, X0, Z0⟩ : ∃ W, ((w.alloc (.cells s.cells 31)).alloc (.cells #[.slice .none 0 0, .slice .none 0 0, .slice .none 0 0, .slice .none 0 0, .slice .none 0 0, .slice .none 0 0, .slice .none 0 0] 31)) = W ∧ Below w.heap.size w W ∧ Blk W w.heap.size 31 7 (fun j => s.cells.getD j default) ∧ Blk W (w.heap.size + 1) 31 7 (fun _ => .slice .none 0 0) :=
    ⟨_, rfl, two_below _ _ _, (Blk.mk' rfl rfl).alloc _, (Blk.mk' (cur := #[.slice .none 0 0, .slice .none 0 0, .slice .none 0 0, .slice .none 0 0, .slice .none 0 0, .slice .none 0 0, .slice .none 0 0]) (by simp) rfl).congr (fun j hj => by match j, hj with | 0, _ => rfl | 1, _ => rfl | 2, _ => rfl | 3, _ => rfl | 4, _ => rfl | 5, _ => rfl | 6, _ => rfl)⟩
  have HW : Hid ((w.alloc (.cells #[.slice s.on.a s.on.n s.on.c, .slice s.os.a s.os.n s.os.c, .slice s.hs.a s.hs.n s.hs.c, .slice s.ms.a s.ms.n s.ms.c, .slice s.si.a s.si.n s.si.c, .slice s.so.a s.so.n s.so.c, .slice s.sf.a s.sf.n s.sf.c] 31)).alloc (.cells #[.slice .none 0 0, .slice .none 0 0, .slice .none 0 0, .slice .none 0 0, .slice .none 0 0, .slice .none 0 0, .slice .none 0 0] 31) = W0) := hW
  have HS : Hid (s.At W0) := hs.below hWB
  have HF : Hid (Formed p s) := f
  have HZ : Hid (Blk W0 (w.heap.size + 1) 31 7 (fun _ => .slice .none 0 0)) := Z0
  have hsz0 := hWB.size
  obtain ⟨l1, c0, c1, c2, c3, c4, c5, c6⟩ := Boxed.of X0
  have r0 : ∀ d os, (grow (redrawn W0 d) os).cell? ⟨w.heap.size, 0, none⟩ = some (.slice s.on.a s.on.n s.on.c) := fun d os => cell_regrown c0 d os
  have r1 : ∀ d os, (grow (redrawn W0 d) os).cell? ⟨w.heap.size, 1, none⟩ = some (.slice s.os.a s.os.n s.os.c) := fun d os => cell_regrown c1 d os
  have r2 : ∀ d os, (grow (redrawn W0 d) os).cell? ⟨w.heap.size, 2, none⟩ = some (.slice s.hs.a s.hs.n s.hs.c) := fun d os => cell_regrown c2 d os
  have r3 : ∀ d os, (grow (redrawn W0 d) os).cell? ⟨w.heap.size, 3, none⟩ = some (.slice s.ms.a s.ms.n s.ms.c) := fun d os => cell_regrown c3 d os
  have r4 : ∀ d os, (grow (redrawn W0 d) os).cell? ⟨w.heap.size, 4, none⟩ = some (.slice s.si.a s.si.n s.si.c) := fun d os => cell_regrown c4 d os
  have r5 : ∀ d os, (grow (redrawn W0 d) os).cell? ⟨w.heap.size, 5, none⟩ = some (.slice s.so.a s.so.n s.so.c) := fun d os => cell_regrown c5 d os
  have r6 : ∀ d os, (grow (redrawn W0 d) os).cell? ⟨w.heap.size, 6, none⟩ = some (.slice s.sf.a s.sf.n s.sf.c) := fun d os => cell_regrown c6 d os
  clear hW X0 Z0 hs f c0 c1 c2 c3 c4 c5 c6
  unfold St.val
  go_enter Try.func45, Try.ntmps45
  go_wp2_with fail
  rw [HW.out]
  refine wp_region_made5 (fun w' => ∃ p : Regrown, w' = grow (redrawn W0 p.d) p.os) [0, 1, 3, 4, 6, 7, 9, 10, 12, 13, 15, 16, 18, 19] [2, 5, 8, 11, 14, 17, 20] [(false, 21), (true, 22)] (by kernel_rfl) (by kernel_rfl) (by kernel_rfl) (by kernel_rfl) (by kernel_rfl) (by kernel_rfl) (by kernel_rfl) (by kernel_rfl) (by kernel_rfl) (regrown_of_below ((Below.refl _ _).drew)) ?_
  simp only [picks, List.drop_succ_cons, List.drop_zero, List.take_succ_cons, List.take_zero, List.cons_append, List.nil_append]
  repeat (go_big_quiet_step (fail))
  refine wpQuiet_nil ?_
  clear r0 r1 r2 r3 r4 r5 r6
  refine ⟨fun j v g wk => match j with | 2 => DRows w.heap.size s v g wk | 5 => DOs w.heap.size s.os v g wk | 8 => DHs w.heap.size 65 s.hs v g wk | 11 => DHs w.heap.size 70 s.ms v g wk | 14 => DInts w.heap.size s.si v g wk | 17 => DInts w.heap.size s.so v g wk | 20 => DInts w.heap.size s.sf v g wk | _ => True,
    List.forall_mem_cons.2 ⟨fun v g w w' hB h => DRows.below h hB, List.forall_mem_cons.2 ⟨fun v g w w' hB h => DOs.below h hB, List.forall_mem_cons.2 ⟨fun v g w w' hB h => DHs.below h hB, List.forall_mem_cons.2 ⟨fun v g w w' hB h => DHs.below h hB, List.forall_mem_cons.2 ⟨fun v g w w' hB h => DInts.below h hB, List.forall_mem_cons.2 ⟨fun v g w w' hB h => DInts.below h hB, List.forall_mem_cons.2 ⟨fun v g w w' hB h => DInts.below h hB, List.forall_mem_nil _⟩⟩⟩⟩⟩⟩⟩,
    List.forall_mem_cons.2 ⟨fun v g w h => DRows.lt h, List.forall_mem_cons.2 ⟨fun v g w h => by obtain ⟨_, h1, _⟩ := h; rw [h1]; intro x hx; simp at hx, List.forall_mem_cons.2 ⟨fun v g w h => by obtain ⟨_, h1, _⟩ := h; rw [h1]; intro x hx; simp at hx, List.forall_mem_cons.2 ⟨fun v g w h => by obtain ⟨_, h1, _⟩ := h; rw [h1]; intro x hx; simp at hx, List.forall_mem_cons.2 ⟨fun v g w h => DInts.lt h, List.forall_mem_cons.2 ⟨fun v g w h => DInts.lt h, List.forall_mem_cons.2 ⟨fun v g w h => DInts.lt h, List.forall_mem_nil _⟩⟩⟩⟩⟩⟩⟩,
    List.forall_mem_cons.2 ⟨?zs2, List.forall_mem_cons.2 ⟨?zs5, List.forall_mem_cons.2 ⟨?zs8, List.forall_mem_cons.2 ⟨?zs11, List.forall_mem_cons.2 ⟨?zs14, List.forall_mem_cons.2 ⟨?zs17, List.forall_mem_cons.2 ⟨?zs20, List.forall_mem_nil _⟩⟩⟩⟩⟩⟩⟩, ?zdone⟩
  case zs2 =>
    intro V G wk K hS hd hK
    have hX := below_of_regrown hS
    refine wpOp_list 2 rfl ?_
    simp only [putAll, dstOf, List.getElem?_toArray, List.getElem?_cons_succ, List.getElem?_cons_zero, Act.put, List.setIfInBounds_toArray, List.set_cons_succ, List.set_cons_zero] at hK ⊢
    go_wp2_with fail
    refine (copyRows_any s.on wk (HS.out.on.below hX) (by rw [HF.out.sh.n]; exact HF.out.sh.pl.nb6) (fun i hi => by rw [HF.out.sh.len i hi]; exact ⟨HF.out.sh.pl.ns1, HF.out.sh.pl.ns3⟩)).mono ?_
    rintro e w2 ⟨g0, Gr, Cr, rfl, a1, a2, a3, a4, hB2⟩
    go_wp2_with fail
    have q := hX.size
    refine hK _ ((List.range s.on.n).map Gr) _ (regrown_of_below (hX.trans (hB2.mono hX.size))) hB2 (fun x hx => ?_) ⟨g0, Gr, Cr, rfl, by omega, a2, fun i hi => ⟨by have := (a3 i hi).1; omega, (a3 i hi).2⟩, a4, rfl⟩
    obtain ⟨i, hi, rfl⟩ := List.mem_map.1 hx
    have := (a3 i (List.mem_range.1 hi)).1
    omega
  case zs5 =>
    intro V G wk K hS hd hK
    have hX := below_of_regrown hS
    refine wpOp_list 5 rfl ?_
    simp only [putAll, dstOf, List.getElem?_toArray, List.getElem?_cons_succ, List.getElem?_cons_zero, Act.put, List.setIfInBounds_toArray, List.set_cons_succ, List.set_cons_zero] at hK ⊢
    go_wp2_with fail
    refine (copyOrders_any s.os wk (HS.out.os.below hX) (by have := HF.out.os4; omega) HF.out.lns).mono ?_
    rintro e w2 ⟨s', rfl, a1, a2, hB2⟩
    have q := hX.size
    have HR : Hid (SameO s' s.os ∧ OwnO w.heap.size w2 s') := ⟨a1, a2.mono (by omega)⟩
    clear a1 a2
    simp only [Os.val]
    go_wp2_with fail
    exact hK _ [] _ (regrown_of_below (hX.trans (hB2.mono hX.size))) hB2 (fun x hx => by simp at hx) ⟨s', rfl, rfl, HR.out.1, HR.out.2⟩
  case zs8 =>
    intro V G wk K hS hd hK
    have hX := below_of_regrown hS
    refine wpOp_list 8 rfl ?_
    simp only [putAll, dstOf, List.getElem?_toArray, List.getElem?_cons_succ, List.getElem?_cons_zero, Act.put, List.setIfInBounds_toArray, List.set_cons_succ, List.set_cons_zero] at hK ⊢
    go_wp2_with fail
    refine (CloneHold_any s.hs wk (HS.out.hs.below hX) (by have := HF.out.hs72; omega)).mono ?_
    rintro e w2 ⟨s', rfl, hc, hB2⟩
    have q := hX.size
    have HR : Hid (Cloned w.heap.size 65 s.hs w2 s') := ⟨hc.1, hc.2.1, hc.2.2.1.mono (by omega), hc.2.2.2.mono (by omega)⟩
    clear hc
    simp only [Hs.val]
    go_wp2_with fail
    exact hK _ [] _ (regrown_of_below (hX.trans (hB2.mono hX.size))) hB2 (fun x hx => by simp at hx) ⟨s', rfl, rfl, HR.out⟩
  case zs11 =>
    intro V G wk K hS hd hK
    have hX := below_of_regrown hS
    refine wpOp_list 11 rfl ?_
    simp only [putAll, dstOf, List.getElem?_toArray, List.getElem?_cons_succ, List.getElem?_cons_zero, Act.put, List.setIfInBounds_toArray, List.set_cons_succ, List.set_cons_zero] at hK ⊢
    go_wp2_with fail
    refine (CloneMove_any s.ms wk (HS.out.ms.below hX) (by have := HF.out.ms8; omega)).mono ?_
    rintro e w2 ⟨s', rfl, hc, hB2⟩
    have q := hX.size
    have HR : Hid (Cloned w.heap.size 70 s.ms w2 s') := ⟨hc.1, hc.2.1, hc.2.2.1.mono (by omega), hc.2.2.2.mono (by omega)⟩
    clear hc
    simp only [Hs.val]
    go_wp2_with fail
    exact hK _ [] _ (regrown_of_below (hX.trans (hB2.mono hX.size))) hB2 (fun x hx => by simp at hx) ⟨s', rfl, rfl, HR.out⟩
  case zs14 =>
    intro V G wk K hS hd hK
    have hX := below_of_regrown hS
    have hn1 := HF.out.sh.pl.ns1
    have hn3 := HF.out.sh.pl.ns3
    have HCI : Hid (Calls Try.prog 92 #[.slice s.si.a s.si.n s.si.c] wk fun e w' => ∃ g c', e = .returned (.slice (some ⟨g, 0, none⟩) s.si.n c') ∧ s.si.n ≤ c' ∧ c' ≤ maxLen ∧ wk.heap.size ≤ g ∧ Blk w' g 3 s.si.n (fun j => .int .i64 (s.si.z j)) ∧ Below wk.heap.size wk w') := by
      have hr := HS.out.si.below hX
      obtain ⟨b, o, ha, -, -⟩ := hr.ints 0 (by rw [HF.out.sin]; omega)
      have hi := hr.ints
      have hz : s.si.n = p.ns := HF.out.sin
      rw [ha] at hi
      have := Clone_any b o s.si.n s.si.c s.si.z wk (by omega) (by omega) hi
      rw [← ha] at this
      exact this
    refine wpOp_list 14 rfl ?_
    simp only [putAll, dstOf, List.getElem?_toArray, List.getElem?_cons_succ, List.getElem?_cons_zero, Act.put, List.setIfInBounds_toArray, List.set_cons_succ, List.set_cons_zero] at hK ⊢
    go_wp2_with fail
    refine HCI.out.mono ?_
    rintro e w2 ⟨g, c', rfl, a1, a2, a3, a4, hB2⟩
    have q := hX.size
    go_wp2_with fail
    exact hK _ [g] _ (regrown_of_below (hX.trans (hB2.mono hX.size))) hB2 (fun x hx => by rw [List.mem_singleton] at hx; omega) ⟨g, c', rfl, rfl, by omega, a1, a2, a4⟩
  case zs17 =>
    intro V G wk K hS hd hK
    have hX := below_of_regrown hS
    have hn1 := HF.out.sh.pl.ns1
    have hn3 := HF.out.sh.pl.ns3
    have HCI : Hid (Calls Try.prog 92 #[.slice s.so.a s.so.n s.so.c] wk fun e w' => ∃ g c', e = .returned (.slice (some ⟨g, 0, none⟩) s.so.n c') ∧ s.so.n ≤ c' ∧ c' ≤ maxLen ∧ wk.heap.size ≤ g ∧ Blk w' g 3 s.so.n (fun j => .int .i64 (s.so.z j)) ∧ Below wk.heap.size wk w') := by
      have hr := HS.out.so.below hX
      obtain ⟨b, o, ha, -, -⟩ := hr.ints 0 (by rw [HF.out.son]; omega)
      have hi := hr.ints
      have hz : s.so.n = p.ns := HF.out.son
      rw [ha] at hi
      have := Clone_any b o s.so.n s.so.c s.so.z wk (by omega) (by omega) hi
      rw [← ha] at this
      exact this
    refine wpOp_list 17 rfl ?_
    simp only [putAll, dstOf, List.getElem?_toArray, List.getElem?_cons_succ, List.getElem?_cons_zero, Act.put, List.setIfInBounds_toArray, List.set_cons_succ, List.set_cons_zero] at hK ⊢
    go_wp2_with fail
    refine HCI.out.mono ?_
    rintro e w2 ⟨g, c', rfl, a1, a2, a3, a4, hB2⟩
    have q := hX.size
    go_wp2_with fail
    exact hK _ [g] _ (regrown_of_below (hX.trans (hB2.mono hX.size))) hB2 (fun x hx => by rw [List.mem_singleton] at hx; omega) ⟨g, c', rfl, rfl, by omega, a1, a2, a4⟩
  case zs20 =>
    intro V G wk K hS hd hK
    have hX := below_of_regrown hS
    have hn1 := HF.out.sh.pl.ns1
    have hn3 := HF.out.sh.pl.ns3
    have HCI : Hid (Calls Try.prog 92 #[.slice s.sf.a s.sf.n s.sf.c] wk fun e w' => ∃ g c', e = .returned (.slice (some ⟨g, 0, none⟩) s.sf.n c') ∧ s.sf.n ≤ c' ∧ c' ≤ maxLen ∧ wk.heap.size ≤ g ∧ Blk w' g 3 s.sf.n (fun j => .int .i64 (s.sf.z j)) ∧ Below wk.heap.size wk w') := by
      have hr := HS.out.sf.below hX
      obtain ⟨b, o, ha, -, -⟩ := hr.ints 0 (by rw [HF.out.sfn]; omega)
      have hi := hr.ints
      have hz : s.sf.n = p.ns := HF.out.sfn
      rw [ha] at hi
      have := Clone_any b o s.sf.n s.sf.c s.sf.z wk (by omega) (by omega) hi
      rw [← ha] at this
      exact this
    refine wpOp_list 20 rfl ?_
    simp only [putAll, dstOf, List.getElem?_toArray, List.getElem?_cons_succ, List.getElem?_cons_zero, Act.put, List.setIfInBounds_toArray, List.set_cons_succ, List.set_cons_zero] at hK ⊢
    go_wp2_with fail
    refine HCI.out.mono ?_
    rintro e w2 ⟨g, c', rfl, a1, a2, a3, a4, hB2⟩
    have q := hX.size
    go_wp2_with fail
    exact hK _ [g] _ (regrown_of_below (hX.trans (hB2.mono hX.size))) hB2 (fun x hx => by rw [List.mem_singleton] at hx; omega) ⟨g, c', rfl, rfl, by omega, a1, a2, a4⟩
  case zdone =>
    intro V G wk hS hD hA
    obtain ⟨g0, Gr, Cr, v2, a1, a2, a3, a4, gg2⟩ : DRows w.heap.size s (V 2) (G 2) wk := hD 2 (by simp)
    obtain ⟨o', -, v5, b1, b2⟩ : DOs w.heap.size s.os (V 5) (G 5) wk := hD 5 (by simp)
    obtain ⟨h', -, v8, d1, d2, d3, -⟩ : DHs w.heap.size 65 s.hs (V 8) (G 8) wk := hD 8 (by simp)
    obtain ⟨m', -, v11, f1, f2, f3, f4⟩ : DHs w.heap.size 70 s.ms (V 11) (G 11) wk := hD 11 (by simp)
    obtain ⟨B1, k1, gg14, v14, i1, i2, i3, i4⟩ : DInts w.heap.size s.si (V 14) (G 14) wk := hD 14 (by simp)
    obtain ⟨B2, k2, gg17, v17, j1, j2, j3, j4⟩ : DInts w.heap.size s.so (V 17) (G 17) wk := hD 17 (by simp)
    obtain ⟨B3, k3, gg20, v20, l2, l3, l4, l5⟩ : DInts w.heap.size s.sf (V 20) (G 20) wk := hD 20 (by simp)
    have n12 : B1 ≠ B2 := fun e => hA 14 (by simp) 17 (by simp) (by decide) B1 (by rw [gg14]; simp) (by rw [gg17, e]; simp)
    have n13 : B1 ≠ B3 := fun e => hA 14 (by simp) 20 (by simp) (by decide) B1 (by rw [gg14]; simp) (by rw [gg20, e]; simp)
    have n23 : B2 ≠ B3 := fun e => hA 17 (by simp) 20 (by simp) (by decide) B2 (by rw [gg17]; simp) (by rw [gg20, e]; simp)
    have nr : ∀ i, i < s.on.n → Gr i ≠ B1 ∧ Gr i ≠ B2 ∧ Gr i ≠ B3 := fun i hi => by
      have hm : Gr i ∈ G 2 := by rw [gg2]; exact List.mem_map.2 ⟨i, List.mem_range.2 hi, rfl⟩
      exact ⟨fun e => hA 2 (by simp) 14 (by simp) (by decide) _ hm (by rw [gg14, e]; simp), fun e => hA 2 (by simp) 17 (by simp) (by decide) _ hm (by rw [gg17, e]; simp), fun e => hA 2 (by simp) 20 (by simp) (by decide) _ hm (by rw [gg20, e]; simp)⟩
    have hX := below_of_regrown hS
    have hz := HZ.out.below hX
    clear hD hA gg2 gg14 gg17 gg20
    have HR : Hid (OwnS w.heap.size wk ⟨⟨some ⟨g0, 0, none⟩, s.on.n, s.on.n, fun i => ⟨some ⟨Gr i, 0, none⟩, (s.on.r i).n, Cr i, (s.on.r i).z⟩⟩, o', h', m', ⟨some ⟨B1, 0, none⟩, s.si.n, k1, s.si.z⟩, ⟨some ⟨B2, 0, none⟩, s.so.n, k2, s.so.z⟩, ⟨some ⟨B3, 0, none⟩, s.sf.n, k3, s.sf.z⟩⟩) := by
      refine ⟨⟨g0, rfl, a1, Nat.le_refl _, ?_, a2⟩, fun i hi => ⟨Gr i, rfl, (a3 i hi).1, (a3 i hi).2.1, (a3 i hi).2.2.1, (a3 i hi).2.2.2⟩, fun i j hij hj => ?_, b2, d3, f3, f4, ⟨B1, rfl, i1, i2, i3, i4⟩, ⟨B2, rfl, j1, j2, j3, j4⟩, ⟨B3, rfl, l2, l3, l4, l5⟩, ?_, ?_, ?_, fun i hi => ?_⟩
      · show s.on.n ≤ maxLen
        have := HF.out.sh.n
        have := HF.out.sh.pl.nb6
        unfold maxLen
        omega
      · have := a4 i j hij hj
        simp only [ne_eq, Option.some.injEq, Addr.mk.injEq, and_true]
        omega
      · intro e; simp only [Option.some.injEq, Addr.mk.injEq, and_true] at e; exact n12 e
      · intro e; simp only [Option.some.injEq, Addr.mk.injEq, and_true] at e; exact n13 e
      · intro e; simp only [Option.some.injEq, Addr.mk.injEq, and_true] at e; exact n23 e
      · obtain ⟨x1, x2, x3⟩ := nr i hi
        exact ⟨fun e => by simp only [Option.some.injEq, Addr.mk.injEq, and_true] at e; exact x1 e, fun e => by simp only [Option.some.injEq, Addr.mk.injEq, and_true] at e; exact x2 e, fun e => by simp only [Option.some.injEq, Addr.mk.injEq, and_true] at e; exact x3 e⟩
    have HC : Hid (SameT ⟨⟨some ⟨g0, 0, none⟩, s.on.n, s.on.n, fun i => ⟨some ⟨Gr i, 0, none⟩, (s.on.r i).n, Cr i, (s.on.r i).z⟩⟩, o', h', m', ⟨some ⟨B1, 0, none⟩, s.si.n, k1, s.si.z⟩, ⟨some ⟨B2, 0, none⟩, s.so.n, k2, s.so.z⟩, ⟨some ⟨B3, 0, none⟩, s.sf.n, k3, s.sf.z⟩⟩ s) :=
      ⟨⟨rfl, fun i hi => ⟨rfl, fun j hj => rfl⟩⟩, b1, ⟨d1, fun j hj => d2 j (by rw [← d1]; exact hj)⟩, ⟨f1, fun j hj => f2 j (by rw [← f1]; exact hj)⟩, ⟨rfl, fun j hj => rfl⟩, ⟨rfl, fun j hj => rfl⟩, ⟨rfl, fun j hj => rfl⟩⟩
    clear a1 a2 a3 a4 b1 b2 d1 d2 d3 f1 f2 f3 f4 i1 i2 i3 i4 j1 j2 j3 j4 l2 l3 l4 l5 n12 n13 n23 nr
    have HZ2 : Hid (Blk wk (w.heap.size + 1) 31 7 (fun _ => .slice .none 0 0)) := hz
    have zl := hz.lt
    have zf0 := hz.frozen 0
    have zc0 := hz.cell (j := 0) (by decide)
    have zf1 := hz.frozen 1
    have zc1 := hz.cell (j := 1) (by decide)
    have zf2 := hz.frozen 2
    have zc2 := hz.cell (j := 2) (by decide)
    have zf3 := hz.frozen 3
    have zc3 := hz.cell (j := 3) (by decide)
    have zf4 := hz.frozen 4
    have zc4 := hz.cell (j := 4) (by decide)
    have zf5 := hz.frozen 5
    have zc5 := hz.cell (j := 5) (by decide)
    have zf6 := hz.frozen 6
    have zc6 := hz.cell (j := 6) (by decide)
    clear hz
    simp only [putAll, dstOf, List.getElem?_toArray, List.getElem?_cons_succ, List.getElem?_cons_zero, Act.put, List.setIfInBounds_toArray, List.set_cons_succ, List.set_cons_zero, v2, v5, v8, v11, v14, v17, v20]
    refine wpSeq_one 21 rfl ?_
    go_wp2_with fail
    refine ⟨Late.no hS, ?_⟩
    refine wpSeq_one 22 rfl ?_
    go_wp2_with fail
    refine ⟨Late.yes, ?_⟩
    refine NoPanic.normal ?_
    have KZ := set7_blk HZ2.out (.slice (some ⟨g0, 0, none⟩) s.on.n s.on.n) (.slice o'.a o'.n o'.c) (.slice h'.a h'.n h'.c) (.slice m'.a m'.n m'.c) (.slice (some ⟨B1, 0, none⟩) s.si.n k1) (.slice (some ⟨B2, 0, none⟩) s.so.n k2) (.slice (some ⟨B3, 0, none⟩) s.sf.n k3)
    have hbz := set7_below (b := w.heap.size + 1) (hWB.trans (hX.mono hWB.size)) (by omega) (.slice (some ⟨g0, 0, none⟩) s.on.n s.on.n) (.slice o'.a o'.n o'.c) (.slice h'.a h'.n h'.c) (.slice m'.a m'.n m'.c) (.slice (some ⟨B1, 0, none⟩) s.si.n k1) (.slice (some ⟨B2, 0, none⟩) s.so.n k2) (.slice (some ⟨B3, 0, none⟩) s.sf.n k3)
    have HR2 := OwnS.set7 HR.out HZ2.out (.slice (some ⟨g0, 0, none⟩) s.on.n s.on.n) (.slice o'.a o'.n o'.c) (.slice h'.a h'.n h'.c) (.slice m'.a m'.n m'.c) (.slice (some ⟨B1, 0, none⟩) s.si.n k1) (.slice (some ⟨B2, 0, none⟩) s.so.n k2) (.slice (some ⟨B3, 0, none⟩) s.sf.n k3)
    unfold set7 at KZ hbz HR2
    generalize (((((((wk.setCell { block := w.heap.size + 1, off := 0 } (Value.slice (some { block := g0, off := 0 }) s.on.n s.on.n)).setCell { block := w.heap.size + 1, off := 1 } (Value.slice o'.a o'.n o'.c)).setCell { block := w.heap.size + 1, off := 2 } (Value.slice h'.a h'.n h'.c)).setCell { block := w.heap.size + 1, off := 3 } (Value.slice m'.a m'.n m'.c)).setCell { block := w.heap.size + 1, off := 4 } (Value.slice (some { block := B1, off := 0 }) s.si.n k1)).setCell { block := w.heap.size + 1, off := 5 } (Value.slice (some { block := B2, off := 0 }) s.so.n k2)).setCell { block := w.heap.size + 1, off := 6 } (Value.slice (some { block := B3, off := 0 }) s.sf.n k3)) = WY at *
    clear hX zl zf0 zc0 zf1 zc1 zf2 zc2 zf3 zc3 zf4 zc4 zf5 zc5 zf6 zc6 v2 v5 v8 v11 v14 v17 v20 hS
    obtain ⟨c0, c1, c2, c3, c4, c5, c6⟩ := box_cells KZ
    have HQ : Hid (OwnS w.heap.size WY ⟨⟨some ⟨g0, 0, none⟩, s.on.n, s.on.n, fun i => ⟨some ⟨Gr i, 0, none⟩, (s.on.r i).n, Cr i, (s.on.r i).z⟩⟩, o', h', m', ⟨some ⟨B1, 0, none⟩, s.si.n, k1, s.si.z⟩, ⟨some ⟨B2, 0, none⟩, s.so.n, k2, s.so.z⟩, ⟨some ⟨B3, 0, none⟩, s.sf.n, k3, s.sf.z⟩⟩) := HR2
    clear HR2
    go_wp2_with fail
    refine bodyPost_ret (v := (⟨⟨some ⟨g0, 0, none⟩, s.on.n, s.on.n, fun i => ⟨some ⟨Gr i, 0, none⟩, (s.on.r i).n, Cr i, (s.on.r i).z⟩⟩, o', h', m', ⟨some ⟨B1, 0, none⟩, s.si.n, k1, s.si.z⟩, ⟨some ⟨B2, 0, none⟩, s.so.n, k2, s.so.z⟩, ⟨some ⟨B3, 0, none⟩, s.sf.n, k3, s.sf.z⟩⟩ : St).val) (by simp [results, Try.results45, go_sem, St.val, c0, c1, c2, c3, c4, c5, c6]) rfl ?_
    exact ⟨_, rfl, HC.out, HQ.out, hbz⟩
theorem OwnS.mono {A A' : Nat} {w : World} {s : St} (h : OwnS A w s) (hA : A' ≤ A) : OwnS A' w s := by
  have i : ∀ {r : Rw}, OwnI A w r → OwnI A' w r := fun ⟨g, a, b, c⟩ => ⟨g, a, Nat.le_trans hA b, c⟩
  refine ⟨?_, fun j hj => i (h.rows j hj), h.rapart, h.os.mono hA, h.hs.mono hA, h.ms.mono hA, h.msr.mono hA, i h.si, i h.so, i h.sf, h.aio, h.aif, h.aof, h.ari⟩
  obtain ⟨g, a, b, c⟩ := h.on
  exact ⟨g, a, Nat.le_trans hA b, c⟩
end Go.Proofs.Ytbcacebifpagpac
namespace Go.Proofs.Ytbcacebifpagpac
open Go.RowKit
set_option linter.unusedVariables false
theorem SameT.symm {s t : St} (h : SameT s t) : SameT t s := by
  refine ⟨⟨h.on.1.symm, fun i hi => ?_⟩, ⟨h.os.1.symm, fun i hi => ?_⟩, ⟨h.hs.1.symm, fun j hj => (h.hs.2 j (by rw [h.hs.1]; exact hj)).symm⟩, ⟨h.ms.1.symm, fun j hj => (h.ms.2 j (by rw [h.ms.1]; exact hj)).symm⟩, ⟨h.si.1.symm, fun j hj => (h.si.2 j (by rw [h.si.1]; exact hj)).symm⟩, ⟨h.so.1.symm, fun j hj => (h.so.2 j (by rw [h.so.1]; exact hj)).symm⟩, ⟨h.sf.1.symm, fun j hj => (h.sf.2 j (by rw [h.sf.1]; exact hj)).symm⟩⟩
  · have x := h.on.2 i (by rw [h.on.1]; exact hi)
    exact ⟨x.1.symm, fun j hj => (x.2 j (by rw [x.1]; exact hj)).symm⟩
  · have x := h.os.2 i (by rw [h.os.1]; exact hi)
    exact ⟨x.1.symm, x.2.1.symm, fun j hj => (x.2.2 j (by rw [x.2.1]; exact hj)).symm⟩
theorem SameT.trans {s t u : St} (h : SameT s t) (k : SameT t u) : SameT s u := by
  refine ⟨⟨h.on.1.trans k.on.1, fun i hi => ?_⟩, ⟨h.os.1.trans k.os.1, fun i hi => ?_⟩, ⟨h.hs.1.trans k.hs.1, fun j hj => (h.hs.2 j hj).trans (k.hs.2 j (by rw [← h.hs.1]; exact hj))⟩, ⟨h.ms.1.trans k.ms.1, fun j hj => (h.ms.2 j hj).trans (k.ms.2 j (by rw [← h.ms.1]; exact hj))⟩, ⟨h.si.1.trans k.si.1, fun j hj => (h.si.2 j hj).trans (k.si.2 j (by rw [← h.si.1]; exact hj))⟩, ⟨h.so.1.trans k.so.1, fun j hj => (h.so.2 j hj).trans (k.so.2 j (by rw [← h.so.1]; exact hj))⟩, ⟨h.sf.1.trans k.sf.1, fun j hj => (h.sf.2 j hj).trans (k.sf.2 j (by rw [← h.sf.1]; exact hj))⟩⟩
  · have x := h.on.2 i hi
    have y := k.on.2 i (by rw [← h.on.1]; exact hi)
    exact ⟨x.1.trans y.1, fun j hj => (x.2 j hj).trans (y.2 j (by rw [← x.1]; exact hj))⟩
  · have x := h.os.2 i hi
    have y := k.os.2 i (by rw [← h.os.1]; exact hi)
    exact ⟨x.1.trans y.1, x.2.1.trans y.2.1, fun j hj => (x.2.2 j hj).trans (y.2.2 j (by rw [← x.2.1]; exact hj))⟩
def setRw (r : Rw) (j : Nat) (x : Int) : Rw := ⟨r.a, r.n, r.c, fun i => if i = j then x else r.z i⟩
theorem OwnI.set {A : Nat} {w : World} {r : Rw} {G : Nat} (h : OwnI A w r) (ha : r.a = some ⟨G, 0, none⟩) (j : Nat) (x : Int) : OwnI A (w.setCell ⟨G, j, none⟩ (.int .i64 x)) (setRw r j x) := by
  obtain ⟨g, ha', h0, h1, h2, hb⟩ := h
  rw [ha] at ha'
  simp only [Option.some.injEq, Addr.mk.injEq, and_true] at ha'
  subst ha'
  refine ⟨G, ha, h0, h1, h2, (hb.set j (.int .i64 x)).congr fun i hi => ?_⟩
  show (if i = j then _ else _) = Value.int .i64 (if i = j then x else r.z i)
  by_cases hij : i = j <;> simp [hij]
theorem OwnI.apart {A : Nat} {w : World} {r : Rw} {G : Nat} (h : OwnI A w r) (ha : r.a ≠ some ⟨G, 0, none⟩) (j : Nat) (u : Value) : OwnI A (w.setCell ⟨G, j, none⟩ u) r := by
  obtain ⟨g, ha', h0, h1, h2, hb⟩ := h
  refine ⟨g, ha', h0, h1, h2, hb.other (a := ⟨G, j, none⟩) (fun e => ha ?_) u⟩
  rw [ha', show g = G from e]
def ActOK (E : Int) (t s' : St) : Prop := (E = 0 → SameT s' t) ∧ (¬ E = 0 → NoneS s')
end Go.Proofs.Ytbcacebifpagpac
namespace Go.Proofs.Ytbcacebifpagpac
open Go.RowKit
set_option linter.unusedVariables false
structure Tk where
  left : Int
  took : Int → Int
def Tk.step (av : Int → Int) (t : Tk) (b : Int) : Tk := ⟨t.left - min t.left (av b), fun x => t.took x + if x = b then min t.left (av b) else 0⟩
def Tk.go (av : Int → Int) (n : Int) (l : List Int) : Tk := l.foldl (Tk.step av) ⟨n, fun _ => 0⟩
theorem Tk.go_more (av : Int → Int) (n : Int) (l : List Int) (b : Int) : Tk.go av n (l ++ [b]) = (Tk.go av n l).step av b := by
  unfold Tk.go
  rw [List.foldl_append]
  rfl
structure TkOK (av : Int → Int) (n : Int) (l : List Int) (t : Tk) : Prop where
  left0 : 0 ≤ t.left
  leftn : t.left ≤ n
  took0 : ∀ x, 0 ≤ t.took x
  tookn : ∀ x, t.took x ≤ n - t.left
  had : ∀ x, x ∈ l → t.took x ≤ av x
  other : ∀ x, x ∉ l → t.took x = 0
  all : 0 < t.left → ∀ x, x ∈ l → t.took x = av x
  sum : sumTo (fun b => t.took b) 6 = n - t.left
theorem tkOK {av : Int → Int} {n : Int} (hn : 0 ≤ n) : ∀ {l : List Int}, l.Pairwise (fun x y => ¬ x = y) → (∀ x, x ∈ l → 0 ≤ av x) → (∀ x, x ∈ l → 0 ≤ x ∧ x < 6) → TkOK av n l (Tk.go av n l) := by
  suffices H : ∀ (k : Nat) (l : List Int), l.length = k → l.Pairwise (fun x y => ¬ x = y) → (∀ x, x ∈ l → 0 ≤ av x) → (∀ x, x ∈ l → 0 ≤ x ∧ x < 6) → TkOK av n l (Tk.go av n l) from fun {l} => H l.length l rfl
  intro k
  induction k with
  | zero =>
    intro l hl _ _ _
    obtain rfl := List.eq_nil_of_length_eq_zero hl
    exact ⟨hn, Int.le_refl _, fun _ => Int.le_refl _, fun _ => by show (0 : Int) ≤ n - n; omega, fun x h => by simp at h, fun _ _ => rfl, fun _ x h => by simp at h, by show (0 : Int) + 0 + 0 + 0 + 0 + 0 + 0 = n - n; omega⟩
  | succ m ih =>
    intro l0 hl0 hd ha hin
    obtain ⟨l, b, rfl⟩ : ∃ l b, l0 = l ++ [b] := ⟨l0.dropLast, l0.getLast (by intro e; rw [e] at hl0; simp at hl0), (List.dropLast_concat_getLast _).symm⟩
    have hlm : l.length = m := by simpa using hl0
    rw [List.pairwise_append] at hd
    have hb : b ∉ l := fun hm => hd.2.2 b hm b (by simp) rfl
    have k := ih l hlm hd.1 (fun x hx => ha x (by simp [hx])) (fun x hx => hin x (by simp [hx]))
    have hb6 := hin b (by simp)
    have hab := ha b (by simp)
    rw [Tk.go_more]
    generalize Tk.go av n l = t at k
    have h0 := k.left0
    have hln := k.leftn
    have hmin : 0 ≤ min t.left (av b) ∧ min t.left (av b) ≤ t.left ∧ min t.left (av b) ≤ av b := by omega
    have hob := k.other b hb
    refine ⟨?_, ?_, fun x => ?_, fun x => ?_, fun x hx => ?_, fun x hx => ?_, fun hl x hx => ?_, ?_⟩
    · show 0 ≤ t.left - min t.left (av b); omega
    · show t.left - min t.left (av b) ≤ n; omega
    · have := k.took0 x
      show 0 ≤ t.took x + if x = b then min t.left (av b) else 0
      split <;> omega
    · have := k.tookn x
      show (t.took x + if x = b then min t.left (av b) else 0) ≤ n - (t.left - min t.left (av b))
      split <;> omega
    · show (t.took x + if x = b then min t.left (av b) else 0) ≤ av x
      by_cases hxb : x = b
      · subst hxb; rw [if_pos rfl]; omega
      · rw [if_neg hxb]
        have : x ∈ l := by simpa [hxb] using hx
        have := k.had x this
        omega
    · show (t.took x + if x = b then min t.left (av b) else 0) = 0
      have hxb : ¬ x = b := fun e => hx (by simp [e])
      have hxl : x ∉ l := fun e => hx (by simp [e])
      rw [if_neg hxb, k.other x hxl]
      rfl
    · have hl' : 0 < t.left - min t.left (av b) := hl
      show (t.took x + if x = b then min t.left (av b) else 0) = av x
      by_cases hxb : x = b
      · subst hxb; rw [if_pos rfl]; omega
      · rw [if_neg hxb]
        have : x ∈ l := by simpa [hxb] using hx
        have := k.all (by omega) x this
        omega
    · show sumTo (fun x => t.took x + if (x : Int) = b then min t.left (av b) else 0) 6 = n - (t.left - min t.left (av b))
      have e := k.sum
      rw [sumTo_put (z := fun x => t.took x) (m := b.toNat) (n := min t.left (av b)) (by omega) fun i hi => by
        by_cases hib : i = b.toNat
        · have : ((i : Nat) : Int) = b := by omega
          rw [if_pos this, if_pos hib]
        · have : ¬ ((i : Nat) : Int) = b := by omega
          rw [if_neg this, if_neg hib, Int.add_zero], e]
      omega
def wayT (p : Pl) (but : Int) : List Int := (wayL p).filter (fun b => !(b == but))
theorem wayT_mem {p : Pl} {but x : Int} : x ∈ wayT p but ↔ x ∈ wayL p ∧ ¬ x = but := by
  unfold wayT
  rw [List.mem_filter]
  simp
theorem wayT_apart (p : Pl) (but : Int) : (wayT p but).Pairwise (fun x y => ¬ x = y) := ((way_pw p).imp fun h => h.1).filter _
end Go.Proofs.Ytbcacebifpagpac
namespace Go.Proofs.Ytbcacebifpagpac
open Go.RowKit Go.Shelf Go.Sort
set_option linter.unusedVariables false
def ZeroAt (A n : Nat) (v : Value) (g : List Nat) (wk : World) : Prop := ∃ B, g = [B] ∧ v = .slice (some ⟨B, 0, none⟩) n n ∧ A ≤ B ∧ Blk wk B 3 n (fun _ => .int .i64 0)
theorem ZeroAt.below {A n : Nat} {v : Value} {g : List Nat} {w w' : World} (h : ZeroAt A n v g w) (hB : Below w.heap.size w w') : ZeroAt A n v g w' := by
  obtain ⟨B, h0, h1, h2, h3⟩ := h
  exact ⟨B, h0, h1, h2, h3.below hB⟩
theorem ZeroAt.lt {A n : Nat} {v : Value} {g : List Nat} {w : World} (h : ZeroAt A n v g w) : ∀ x ∈ g, x < w.heap.size := by
  obtain ⟨B, rfl, h1, h2, h3⟩ := h
  intro x hx
  rw [List.mem_singleton] at hx
  subst hx
  exact h3.lt
def BoxAt (A : Nat) (v : Value) (g : List Nat) (wk : World) : Prop := ∃ B, g = [B] ∧ v = .pointer (some ⟨B, 0, none⟩) ∧ A ≤ B ∧ Blk wk B 31 7 (fun _ => .slice .none 0 0)
theorem BoxAt.below {A : Nat} {v : Value} {g : List Nat} {w w' : World} (h : BoxAt A v g w) (hB : Below w.heap.size w w') : BoxAt A v g w' := by
  obtain ⟨B, h0, h1, h2, h3⟩ := h
  exact ⟨B, h0, h1, h2, h3.below hB⟩
theorem BoxAt.lt {A : Nat} {v : Value} {g : List Nat} {w : World} (h : BoxAt A v g w) : ∀ x ∈ g, x < w.heap.size := by
  obtain ⟨B, rfl, h1, h2, h3⟩ := h
  intro x hx
  rw [List.mem_singleton] at hx
  subst hx
  exact h3.lt
def SumsAt (A n : Nat) (v : Value) (g : List Nat) (wk : World) : Prop := ∃ B1 B2 B3, g = [] ∧ v = .agg #[.slice .none 0 0, .slice .none 0 0, .slice .none 0 0, .slice .none 0 0, .slice (some ⟨B1, 0, none⟩) n n, .slice (some ⟨B2, 0, none⟩) n n, .slice (some ⟨B3, 0, none⟩) n n] ∧
  (A ≤ B1 ∧ Blk wk B1 3 n (fun _ => .int .i64 0)) ∧ (A ≤ B2 ∧ Blk wk B2 3 n (fun _ => .int .i64 0)) ∧ (A ≤ B3 ∧ Blk wk B3 3 n (fun _ => .int .i64 0))
theorem SumsAt.below {A n : Nat} {v : Value} {g : List Nat} {w w' : World} (h : SumsAt A n v g w) (hB : Below w.heap.size w w') : SumsAt A n v g w' := by
  obtain ⟨B1, B2, B3, h0, h1, ⟨a1, a2⟩, ⟨b1, b2⟩, ⟨c1, c2⟩⟩ := h
  exact ⟨B1, B2, B3, h0, h1, ⟨a1, a2.below hB⟩, ⟨b1, b2.below hB⟩, ⟨c1, c2.below hB⟩⟩
def OneAt (A n : Nat) (v : Value) (g : List Nat) (wk : World) : Prop := ∃ B R, g = [B] ∧ v = .slice (some ⟨B, 0, none⟩) 1 1 ∧ A ≤ B ∧ Blk wk B 23 1 (fun _ => .slice (some ⟨R, 0, none⟩) n n) ∧ A ≤ R ∧ Blk wk R 3 n (fun _ => .int .i64 0)
theorem OneAt.below {A n : Nat} {v : Value} {g : List Nat} {w w' : World} (h : OneAt A n v g w) (hB : Below w.heap.size w w') : OneAt A n v g w' := by
  obtain ⟨B, R, h0, h1, h2, h3, h4, h5⟩ := h
  exact ⟨B, R, h0, h1, h2, h3.below hB, h4, h5.below hB⟩
theorem OneAt.lt {A n : Nat} {v : Value} {g : List Nat} {w : World} (h : OneAt A n v g w) : ∀ x ∈ g, x < w.heap.size := by
  obtain ⟨B, R, rfl, h1, h2, h3, h4, h5⟩ := h
  intro x hx
  rw [List.mem_singleton] at hx
  subst hx
  exact h3.lt
def Fr (n : Nat) (w : World) (s : St) : Prop := ∀ w'' : World, w.heap.size ≤ w''.heap.size → (∀ g, n ≤ g → g < w.heap.size → w''.heap[g]? = w.heap[g]?) → s.At w''
theorem Fr.at {n : Nat} {w : World} {s : St} (h : Fr n w s) : s.At w := h w (Nat.le_refl _) (fun _ _ _ => rfl)
theorem Fr.below {n : Nat} {w w' : World} {s : St} (h : Fr n w s) (hB : Below w.heap.size w w') : Fr n w' s := fun w'' hz hs => h w'' (Nat.le_trans hB.size hz) fun g h1 h2 => (hs g h1 (Nat.lt_of_lt_of_le h2 hB.size)).trans (hB.block g h2)
theorem Fr.set {n : Nat} {w : World} {s : St} (h : Fr n w s) {q : Nat} (hq : q < n) (j : Nat) (u : Value) : Fr n (w.setCell ⟨q, j, none⟩ u) s := fun w'' hz hs => h w'' (by simpa using hz) fun g h1 h2 => (hs g h1 (by simpa using h2)).trans (Below.heap_setCell w ⟨q, j, none⟩ u g (by show g ≠ q; omega))
end Go.Proofs.Ytbcacebifpagpac
namespace Go.Proofs.Ytbcacebifpagpac
open Go.RowKit Go.Shelf Go.Sort
set_option linter.unusedVariables false
def DOn (A : Nat) (s : St) (v : Value) (g : List Nat) (wk : World) : Prop := ∃ (g0 c0 : Nat) (G C : Nat → Nat), v = .slice (some ⟨g0, 0, none⟩) s.on.n c0 ∧ A ≤ g0 ∧ s.on.n ≤ c0 ∧ c0 ≤ maxLen ∧ Blk wk g0 23 s.on.n (fun i => .slice (some ⟨G i, 0, none⟩) (s.on.r i).n (C i)) ∧
  (∀ i, i < s.on.n → A ≤ G i ∧ (s.on.r i).n ≤ C i ∧ C i ≤ maxLen ∧ Blk wk (G i) 3 (s.on.r i).n (fun j => .int .i64 ((s.on.r i).z j))) ∧ (∀ i j, i < j → j < s.on.n → G i < G j) ∧ g = (List.range s.on.n).map G
theorem DOn.below {A : Nat} {s : St} {v : Value} {g : List Nat} {w w' : World} (h : DOn A s v g w) (hB : Below w.heap.size w w') : DOn A s v g w' := by
  obtain ⟨g0, c0, G, C, h1, h2, h2', h2'', h3, h4, h5, h6⟩ := h
  exact ⟨g0, c0, G, C, h1, h2, h2', h2'', h3.below hB, fun i hi => ⟨(h4 i hi).1, (h4 i hi).2.1, (h4 i hi).2.2.1, (h4 i hi).2.2.2.below hB⟩, h5, h6⟩
theorem DOn.lt {A : Nat} {s : St} {v : Value} {g : List Nat} {w : World} (h : DOn A s v g w) : ∀ x ∈ g, x < w.heap.size := by
  obtain ⟨g0, c0, G, C, h1, h2, h2', h2'', h3, h4, h5, rfl⟩ := h
  intro x hx
  obtain ⟨i, hi, rfl⟩ := List.mem_map.1 hx
  exact (h4 i (List.mem_range.1 hi)).2.2.2.lt
def DAgg (A : Nat) (s : St) (v : Value) (g : List Nat) (wk : World) : Prop := g = [] ∧ ∃ x2 g2 x6 g6 x10 g10 x14 g14 x18 g18 x22 g22, v = .agg #[x2, .slice .none 0 0, x6, x10, x14, x18, x22] ∧ DOn A s x2 g2 wk ∧ DHs A 65 s.hs x6 g6 wk ∧ DHs A 70 s.ms x10 g10 wk ∧
  DInts A s.si x14 g14 wk ∧ DInts A s.so x18 g18 wk ∧ DInts A s.sf x22 g22 wk ∧ (∀ x ∈ g2, x ∉ g14) ∧ (∀ x ∈ g2, x ∉ g18) ∧ (∀ x ∈ g2, x ∉ g22) ∧ (∀ x ∈ g14, x ∉ g18) ∧ (∀ x ∈ g14, x ∉ g22) ∧ (∀ x ∈ g18, x ∉ g22)
theorem DAgg.below {A : Nat} {s : St} {v : Value} {g : List Nat} {w w' : World} (h : DAgg A s v g w) (hB : Below w.heap.size w w') : DAgg A s v g w' := by
  obtain ⟨h0, x2, g2, x6, g6, x10, g10, x14, g14, x18, g18, x22, g22, h1, a, b, c, d, e, f, r⟩ := h
  exact ⟨h0, x2, g2, x6, g6, x10, g10, x14, g14, x18, g18, x22, g22, h1, a.below hB, b.below hB, c.below hB, d.below hB, e.below hB, f.below hB, r⟩
theorem OwnS.below {A : Nat} {w w' : World} {s : St} (h : OwnS A w s) (hB : Below w.heap.size w w') : OwnS A w' s := by
  refine ⟨?_, fun i hi => (h.rows i hi).below hB, h.rapart, h.os.below hB, h.hs.below hB, h.ms.below hB, h.msr.below hB, h.si.below hB, h.so.below hB, h.sf.below hB, h.aio, h.aif, h.aof, h.ari⟩
  obtain ⟨g, ha, h0, h1, h2, hb⟩ := h.on
  exact ⟨g, ha, h0, h1, h2, hb.below hB⟩
def D16 (A : Nat) (x : Od) (v : Value) (g : List Nat) (wk : World) : Prop := ∃ s' : Hs, g = [] ∧ v = .agg #[.int .i64 x.k, .slice s'.a s'.n s'.c] ∧ Cloned A 53 x.ls wk s'
theorem D16.below {A : Nat} {x : Od} {v : Value} {g : List Nat} {w w' : World} (h : D16 A x v g w) (hB : Below w.heap.size w w') : D16 A x v g w' := by
  obtain ⟨s', h1, h2, h3, h4, h5, h6⟩ := h
  exact ⟨s', h1, h2, h3, h4, h5.below hB, h6.below hB⟩
def D17 (A : Nat) (x : Od) (v : Value) (g : List Nat) (wk : World) : Prop := ∃ (B : Nat) (s' : Hs), g = [] ∧ v = .slice (some ⟨B, 0, none⟩) 1 1 ∧ A ≤ B ∧ Blk wk B 51 2 (fun j => (#[.int .i64 x.k, .slice s'.a s'.n s'.c] : Array Value).getD j default) ∧ Cloned A 53 x.ls wk s'
theorem D17.below {A : Nat} {x : Od} {v : Value} {g : List Nat} {w w' : World} (h : D17 A x v g w) (hB : Below w.heap.size w w') : D17 A x v g w' := by
  obtain ⟨B, s', h1, h2, h3, h4, h5, h6, h7, h8⟩ := h
  exact ⟨B, s', h1, h2, h3, h4.below hB, h5, h6, h7.below hB, h8.below hB⟩
end Go.Proofs.Ytbcacebifpagpac
namespace Go.Proofs.Ytbcacebifpagpac
open Go.RowKit Go.Shelf
set_option linter.unusedVariables false
def Grew (A : Nat) (e : TypeId) (w w' : World) : Prop := ∃ row, w.grownBy w' row ∧ ∀ k, row = some k → A ≤ k ∧ ∃ cur, w.heap[k]? = some (.cells cur e (0, 0))
theorem Grew.blk {A : Nat} {e : TypeId} {w w' : World} (h : Grew A e w w') {q : Nat} {t : TypeId} {m : Nat} {f : Nat → Value} (hb : Blk w q t m f) (hne : t ≠ e) : Blk w' q t m f := by
  obtain ⟨row, hg, hr⟩ := h
  refine hb.grown hg fun hq => ?_
  obtain ⟨_, c2, hc2⟩ := hr q hq.symm
  obtain ⟨c3, hc3, _⟩ := hb
  rw [hc3] at hc2
  cases hc2
  exact hne rfl
theorem Grew.low {A : Nat} {e : TypeId} {w w' : World} (h : Grew A e w w') {q : Nat} {t : TypeId} {m : Nat} {f : Nat → Value} (hb : Blk w q t m f) (hq : q < A) : Blk w' q t m f := by
  obtain ⟨row, hg, hr⟩ := h
  exact hb.grown hg fun hq' => by have := (hr q hq'.symm).1; omega
theorem Grew.below {A A' : Nat} {e : TypeId} {w0 w w' : World} (h : Grew A e w w') (hB : Below A' w0 w) (hA : A' ≤ A) (hs : A' ≤ w.heap.size) : Below A' w0 w' := by
  obtain ⟨row, hg, hr⟩ := h
  exact hB.grown hg hs fun k hk => by have := (hr k hk).1; omega
theorem Room.grew {A B : Nat} {t : TypeId} {w w2 : World} {sz c : Nat} {a : Option Addr} {e : TypeId} (h : Room A w t sz a c) (hg : Grew B e w w2) (hne : t ≠ e) : Room A w2 t sz a c := by
  obtain ⟨row, hg, hr⟩ := hg
  refine h.same fun g cur hgc => hg.block g (Array.getElem?_eq_some_iff.1 hgc).1 fun hq => ?_
  obtain ⟨_, c2, hc2⟩ := hr g hq.symm
  rw [hgc] at hc2
  cases hc2
  exact hne rfl
theorem OwnI.grew {A B : Nat} {w w2 : World} {r : Rw} {e : TypeId} (h : OwnI A w r) (hg : Grew B e w w2) (hne : 3 ≠ e) : OwnI A w2 r := by
  obtain ⟨g, ha, h0, h1, h2, hb⟩ := h
  exact ⟨g, ha, h0, h1, h2, hg.blk hb hne⟩
theorem OwnH.grew {A B : Nat} {t : TypeId} {w w2 : World} {s : Hs} {e : TypeId} (h : OwnH A t w s) (hg : Grew B e w w2) (hne : t ≠ e) : OwnH A t w2 s := by
  obtain ⟨h1, h2, h3, h4⟩ := h
  refine ⟨h1, h2, h3, fun hn => ?_⟩
  obtain ⟨g, ha, hA, hb⟩ := h4 hn
  exact ⟨g, ha, hA, hg.blk hb hne⟩
end Go.Proofs.Ytbcacebifpagpac
namespace Go.Proofs.Ytbcacebifpagpac
open Go.RowKit Go.Shelf Go.Sort
set_option linter.unusedVariables false
theorem OwnS.orders {A B : Nat} {w w' : World} {s : St} {os : Os} (h : OwnS A w s) (hg : Grew B 51 w w') (ho : OwnO A w' os) : OwnS A w' ⟨s.on, os, s.hs, s.ms, s.si, s.so, s.sf⟩ := by
  refine ⟨?_, fun i hi => (h.rows i hi).grew hg (by decide), h.rapart, ho, h.hs.grew hg (by decide), h.ms.grew hg (by decide), h.msr.grew hg (by decide), h.si.grew hg (by decide), h.so.grew hg (by decide), h.sf.grew hg (by decide), h.aio, h.aif, h.aof, h.ari⟩
  obtain ⟨g, a, b, c, d, e⟩ := h.on
  exact ⟨g, a, b, c, d, hg.blk e (by decide)⟩
end Go.Proofs.Ytbcacebifpagpac
namespace Go.Proofs.Ytbcacebifpagpac
open Go.RowKit Go.Shelf Go.Sort
set_option linter.unusedVariables false
structure BusyB (w : World) (g : Nat) (a k : Int) : Prop where
  b0 : Blk w (g) 3 2 (fun j => (#[.int .i64 9, .int .i64 0] : Array Value).getD j default)
  b1 : Blk w (g + 1) 3 2 (fun j => (#[.int .i64 3, .int .i64 0] : Array Value).getD j default)
  b2 : Blk w (g + 2) 3 2 (fun j => (#[.int .i64 0, .int .i64 6] : Array Value).getD j default)
  b3 : Blk w (g + 3) 23 3 (fun j => (#[.slice (some ⟨g, 0, none⟩) 2 2, .slice (some ⟨g + 1, 0, none⟩) 2 2, .slice (some ⟨g + 2, 0, none⟩) 2 2] : Array Value).getD j default)
  b4 : Blk w (g + 4) 53 8 (fun j => (#[.int .i64 0, .int .i64 6, .int .i64 1, .int .i64 0, .int .i64 1, .int .i64 9, .int .i64 0, .int .i64 3] : Array Value).getD j default)
  b5 : Blk w (g + 5) 53 4 (fun j => (#[.int .i64 0, .int .i64 4, .int .i64 0, .int .i64 0] : Array Value).getD j default)
  b6 : Blk w (g + 6) 51 4 (fun j => (#[.int .i64 1, .slice (some ⟨g + 4, 0, none⟩) 2 2, .int .i64 k, .slice (some ⟨g + 5, 0, none⟩) 1 1] : Array Value).getD j default)
  b7 : Blk w (g + 7) 65 12 (fun j => (#[.int .i64 0, .int .i64 0, .int .i64 0, .int .i64 a, .int .i64 0, .int .i64 0, .int .i64 1, .int .i64 3, .int .i64 0, .int .i64 1, .int .i64 2, .int .i64 6] : Array Value).getD j default)
  b8 : Blk w (g + 8) 70 4 (fun j => (#[.int .i64 0, .int .i64 0, .int .i64 1, .int .i64 5] : Array Value).getD j default)
  b9 : Blk w (g + 9) 3 2 (fun j => (#[.int .i64 13, .int .i64 6] : Array Value).getD j default)
  b10 : Blk w (g + 10) 3 2 (fun j => (#[.int .i64 1, .int .i64 0] : Array Value).getD j default)
  b11 : Blk w (g + 11) 3 2 (fun j => (#[.int .i64 0, .int .i64 0] : Array Value).getD j default)
theorem BusyB.below {w w' : World} {g : Nat} {a k : Int} (h : BusyB w g a k) (hB : Below w.heap.size w w') : BusyB w' g a k := ⟨h.b0.below hB, h.b1.below hB, h.b2.below hB, h.b3.below hB, h.b4.below hB, h.b5.below hB, h.b6.below hB, h.b7.below hB, h.b8.below hB, h.b9.below hB, h.b10.below hB, h.b11.below hB⟩
def bz0 : Nat → Int
  | 0 => 9
  | _ => 0
def bz1 : Nat → Int
  | 0 => 3
  | _ => 0
def bz2 : Nat → Int
  | 0 => 0
  | _ => 6
def bzi : Nat → Int
  | 0 => 13
  | _ => 6
def bzo : Nat → Int
  | 0 => 1
  | _ => 0
def bl0 : Nat → Hd
  | 0 => ⟨0, 6, 1, 0⟩
  | _ => ⟨1, 9, 0, 3⟩
def bhs (a : Int) : Nat → Hd
  | 0 => ⟨0, 0, 0, a⟩
  | 1 => ⟨0, 0, 1, 3⟩
  | _ => ⟨0, 1, 2, 6⟩
def bon (g : Nat) : Nat → Rw
  | 0 => ⟨some ⟨g, 0, none⟩, 2, 2, bz0⟩
  | 1 => ⟨some ⟨g + 1, 0, none⟩, 2, 2, bz1⟩
  | _ => ⟨some ⟨g + 2, 0, none⟩, 2, 2, bz2⟩
def bos (g : Nat) (k : Int) : Nat → Od
  | 0 => ⟨1, ⟨some ⟨g + 4, 0, none⟩, 2, 2, bl0⟩⟩
  | _ => ⟨k, ⟨some ⟨g + 5, 0, none⟩, 1, 1, fun _ => ⟨0, 4, 0, 0⟩⟩⟩
def busyS (g : Nat) (a k : Int) : St := ⟨⟨some ⟨g + 3, 0, none⟩, 3, 3, bon g⟩, ⟨some ⟨g + 6, 0, none⟩, 2, 2, bos g k⟩, ⟨some ⟨g + 7, 0, none⟩, 3, 3, bhs a⟩, ⟨some ⟨g + 8, 0, none⟩, 1, 1, fun _ => ⟨0, 0, 1, 5⟩⟩, ⟨some ⟨g + 9, 0, none⟩, 2, 2, bzi⟩, ⟨some ⟨g + 10, 0, none⟩, 2, 2, bzo⟩, ⟨some ⟨g + 11, 0, none⟩, 2, 2, fun _ => 0⟩⟩
theorem le_max {n : Nat} (h : n ≤ 100) : n ≤ maxLen := by unfold maxLen; omega
theorem two_at {w : World} {g : Nat} {e : TypeId} {x y : Int} {z : Nat → Int} (h : Blk w g e 2 (fun j => (#[.int .i64 x, .int .i64 y] : Array Value).getD j default)) (h0 : z 0 = x) (h1 : z 1 = y) : Rw.At w ⟨some ⟨g, 0, none⟩, 2, 2, z⟩ := by
  refine ⟨Nat.le_refl _, le_max (n := 2) (by decide), fun i hi => ?_⟩
  have hi' : i < 2 := hi
  refine ⟨g, 0, rfl, h.lt, ?_⟩
  match i, hi' with
  | 0, _ => show w.cell? ⟨g, 0 + 0, none⟩ = some (.int .i64 (z 0)); rw [h0]; exact h.cell (j := 0) (by decide)
  | 1, _ => show w.cell? ⟨g, 0 + 1, none⟩ = some (.int .i64 (z 1)); rw [h1]; exact h.cell (j := 1) (by decide)
theorem busyAt {w : World} {g : Nat} {a k : Int} (h : BusyB w g a k) : (busyS g a k).At w := by
  refine ⟨⟨Nat.le_refl _, le_max (n := 3) (by decide), fun i hi => ?_⟩, ⟨Nat.le_refl _, le_max (n := 2) (by decide), fun i hi => ?_⟩, ⟨Nat.le_refl _, le_max (n := 3) (by decide), fun i hi => ?_, fun e => by cases e⟩, ⟨Nat.le_refl _, le_max (n := 1) (by decide), fun i hi => ?_, fun e => by cases e⟩, two_at h.b9 rfl rfl, two_at h.b10 rfl rfl, two_at h.b11 rfl rfl⟩
  · have hi' : i < 3 := hi
    refine ⟨g + 3, 0, rfl, h.b3.lt, ?_⟩
    match i, hi' with
    | 0, _ => exact ⟨h.b3.cell (j := 0) (by decide), two_at h.b0 rfl rfl⟩
    | 1, _ => exact ⟨h.b3.cell (j := 1) (by decide), two_at h.b1 rfl rfl⟩
    | 2, _ => exact ⟨h.b3.cell (j := 2) (by decide), two_at h.b2 rfl rfl⟩
  · have hi' : i < 2 := hi
    refine ⟨g + 6, 0, rfl, h.b6.lt, ?_⟩
    match i, hi' with
    | 0, _ =>
      refine ⟨h.b6.cell (j := 0) (by decide), h.b6.cell (j := 1) (by decide), Nat.le_refl _, le_max (n := 2) (by decide), fun j hj => ?_, fun e => by cases e⟩
      have hj' : j < 2 := hj
      refine ⟨g + 4, 0, rfl, h.b4.lt, ?_⟩
      match j, hj' with
      | 0, _ => exact ⟨h.b4.cell (j := 0) (by decide), h.b4.cell (j := 1) (by decide), h.b4.cell (j := 2) (by decide), h.b4.cell (j := 3) (by decide)⟩
      | 1, _ => exact ⟨h.b4.cell (j := 4) (by decide), h.b4.cell (j := 5) (by decide), h.b4.cell (j := 6) (by decide), h.b4.cell (j := 7) (by decide)⟩
    | 1, _ =>
      refine ⟨h.b6.cell (j := 2) (by decide), h.b6.cell (j := 3) (by decide), Nat.le_refl _, le_max (n := 1) (by decide), fun j hj => ?_, fun e => by cases e⟩
      have hj' : j < 1 := hj
      refine ⟨g + 5, 0, rfl, h.b5.lt, ?_⟩
      match j, hj' with
      | 0, _ => exact ⟨h.b5.cell (j := 0) (by decide), h.b5.cell (j := 1) (by decide), h.b5.cell (j := 2) (by decide), h.b5.cell (j := 3) (by decide)⟩
  · have hi' : i < 3 := hi
    refine ⟨g + 7, 0, rfl, h.b7.lt, ?_⟩
    match i, hi' with
    | 0, _ => exact ⟨h.b7.cell (j := 0) (by decide), h.b7.cell (j := 1) (by decide), h.b7.cell (j := 2) (by decide), h.b7.cell (j := 3) (by decide)⟩
    | 1, _ => exact ⟨h.b7.cell (j := 4) (by decide), h.b7.cell (j := 5) (by decide), h.b7.cell (j := 6) (by decide), h.b7.cell (j := 7) (by decide)⟩
    | 2, _ => exact ⟨h.b7.cell (j := 8) (by decide), h.b7.cell (j := 9) (by decide), h.b7.cell (j := 10) (by decide), h.b7.cell (j := 11) (by decide)⟩
  · have hi' : i < 1 := hi
    refine ⟨g + 8, 0, rfl, h.b8.lt, ?_⟩
    match i, hi' with
    | 0, _ => exact ⟨h.b8.cell (j := 0) (by decide), h.b8.cell (j := 1) (by decide), h.b8.cell (j := 2) (by decide), h.b8.cell (j := 3) (by decide)⟩
set_option maxRecDepth 100000 in
set_option maxHeartbeats 4000000 in
theorem busy_any (w : World) :
    Calls Try.prog 29 #[] w fun e w' => ∃ g, e = .returned (busyS g 2 0).val ∧ w.heap.size < g ∧ BusyB w' g 2 0 ∧ Below w.heap.size w w' := by
  go_enter Try.func29, Try.ntmps29
  go_wp2
  refine bodyPost_ret (v := (busyS (w.heap.size + 1) 2 0).val) (by simp [results, Try.results29, go_sem, busyS, St.val]) rfl ?_
  refine ⟨w.heap.size + 1, rfl, by omega, ⟨Blk.alloc (Blk.alloc (Blk.alloc (Blk.alloc (Blk.alloc (Blk.alloc (Blk.alloc (Blk.alloc (Blk.alloc (Blk.alloc (Blk.alloc (Blk.mk' (by simp <;> omega) rfl) _) _) _) _) _) _) _) _) _) _) _, Blk.alloc (Blk.alloc (Blk.alloc (Blk.alloc (Blk.alloc (Blk.alloc (Blk.alloc (Blk.alloc (Blk.alloc (Blk.alloc (Blk.mk' (by simp <;> omega) rfl) _) _) _) _) _) _) _) _) _) _, Blk.alloc (Blk.alloc (Blk.alloc (Blk.alloc (Blk.alloc (Blk.alloc (Blk.alloc (Blk.alloc (Blk.alloc (Blk.mk' (by simp <;> omega) rfl) _) _) _) _) _) _) _) _) _, Blk.alloc (Blk.alloc (Blk.alloc (Blk.alloc (Blk.alloc (Blk.alloc (Blk.alloc (Blk.alloc (Blk.mk' (by simp <;> omega) rfl) _) _) _) _) _) _) _) _, Blk.alloc (Blk.alloc (Blk.alloc (Blk.alloc (Blk.alloc (Blk.alloc (Blk.alloc (Blk.mk' (by simp <;> omega) rfl) _) _) _) _) _) _) _, Blk.alloc (Blk.alloc (Blk.alloc (Blk.alloc (Blk.alloc (Blk.alloc (Blk.mk' (by simp <;> omega) rfl) _) _) _) _) _) _, Blk.alloc (Blk.alloc (Blk.alloc (Blk.alloc (Blk.alloc (Blk.mk' (by simp <;> omega) rfl) _) _) _) _) _, Blk.alloc (Blk.alloc (Blk.alloc (Blk.alloc (Blk.mk' (by simp <;> omega) rfl) _) _) _) _, Blk.alloc (Blk.alloc (Blk.alloc (Blk.mk' (by simp <;> omega) rfl) _) _) _, Blk.alloc (Blk.alloc (Blk.mk' (by simp <;> omega) rfl) _) _, Blk.alloc (Blk.mk' (by simp <;> omega) rfl) _, Blk.mk' (by simp <;> omega) rfl⟩, ?_⟩
  exact (((((((((((((Below.refl _ _).alloc (Nat.le_refl _) _).alloc (by simp <;> omega) _).alloc (by simp <;> omega) _).alloc (by simp <;> omega) _).alloc (by simp <;> omega) _).alloc (by simp <;> omega) _).alloc (by simp <;> omega) _).alloc (by simp <;> omega) _).alloc (by simp <;> omega) _).alloc (by simp <;> omega) _).alloc (by simp <;> omega) _).alloc (by simp <;> omega) _).alloc (by simp <;> omega) _
end Go.Proofs.Ytbcacebifpagpac
namespace Go.Proofs.Ytbcacebifpagpac
open Go.RowKit
set_option linter.unusedVariables false
theorem sumTo_zero {z : Nat → Int} : ∀ {n : Nat}, (∀ j, j < n → z j = 0) → sumTo z n = 0
  | 0, _ => rfl
  | n + 1, h => by simp only [sumTo]; rw [sumTo_zero (n := n) fun j hj => h j (by omega), h n (by omega)]; rfl
end Go.Proofs.Ytbcacebifpagpac
namespace Go.Proofs.Ytbcacebifpagpac
open Go.RowKit
set_option linter.unusedVariables false
theorem goods_no {p : Pl} {s : St} {g : Nat} (h : wrongGood p s g = false) : sumTo (fun i => (s.on.r i).z g) s.on.n = s.si.z g - s.so.z g + s.sf.z g ∧ ∀ b, b < p.nb → 0 ≤ availZ s b g := by
  rw [wrongGood_eq, Bool.or_eq_false_iff] at h
  refine ⟨by simpa using h.1, fun b hb => ?_⟩
  have := anyB_false h.2 b hb
  simpa using this
theorem goods_mk {p : Pl} {s : St} {g : Nat} (h1 : sumTo (fun i => (s.on.r i).z g) s.on.n = s.si.z g - s.so.z g + s.sf.z g) (h2 : ∀ b, b < p.nb → 0 ≤ availZ s b g) : wrongGood p s g = false := by
  rw [wrongGood_eq, Bool.or_eq_false_iff]
  exact ⟨by simp [h1], anyB_no fun b hb => by have := h2 b hb; simpa using this⟩
section
variable {p : Pl} {s : St} {b g : Nat} {n : Int}
end
section
variable {p : Pl} {s : St} {l : Hs}
end
end Go.Proofs.Ytbcacebifpagpac
namespace Go.Proofs.Ytbcacebifpagpac
open Go.RowKit
set_option linter.unusedVariables false
theorem sumTo_at {z z' : Nat → Int} {m : Nat} {n : Int} {k : Nat} (hm : m < k) (h : ∀ i, i < k → z' i = z i + if i = m then n else 0) : sumTo z' k = sumTo z k + n :=
  sumTo_put hm fun i hi => by rw [h i hi]; by_cases e : i = m <;> simp [e]
theorem sumTo_same {z z' : Nat → Int} {k : Nat} (h : ∀ i, i < k → z' i = z i) : sumTo z' k = sumTo z k := sumTo_congr h
def lineHeld (x : St) (b g : Int) (k : Nat) (o l : Nat) : Int := if ((x.os.z o).ls.z l).o = g then keptV k x.hs.z o l b else 0
def heldSum (x : St) (b g : Int) (k : Nat) : Int := sumTo (fun o => sumTo (fun l => lineHeld x b g k o l) (x.os.z o).ls.n) x.os.n
theorem heldTo_sum {p : Pl} {x : St} (b g : Int) : ∀ k, (∀ j, j < k → homeless p x (x.hs.z j) = false) → anyB k (badH x.hs.z) = false → heldTo x b g k = heldSum x b g k
  | 0, _, _ => by
    unfold heldSum
    rw [sumTo_zero fun o _ => sumTo_zero fun l _ => by unfold lineHeld keptV; simp]
    rfl
  | k + 1, h, hr => by
    simp only [heldTo]
    rw [heldTo_sum b g k (fun j hj => h j (by omega)) (right_pred hr)]
    obtain ⟨h1, h2, h3⟩ := homeless_no (h k (by omega))
    have key : ∀ o l, lineHeld x b g (k + 1) o l = lineHeld x b g k o l + if o = (x.hs.z k).o.toNat ∧ l = (x.hs.z k).l.toNat then (if (x.hs.z k).b = b ∧ goodH x (x.hs.z k) = g then (x.hs.z k).n else 0) else 0 := fun o l => by
      unfold lineHeld
      rw [keptV_succ hr]
      by_cases hol : o = (x.hs.z k).o.toNat ∧ l = (x.hs.z k).l.toNat
      · rw [if_pos hol]
        obtain ⟨rfl, rfl⟩ := hol
        have e1 : (((x.hs.z k).o.toNat : Nat) : Int) = (x.hs.z k).o := by omega
        have e2 : (((x.hs.z k).l.toNat : Nat) : Int) = (x.hs.z k).l := by omega
        rw [e1, e2]
        by_cases hg : goodH x (x.hs.z k) = g
        · have hg' : ((x.os.z (x.hs.z k).o.toNat).ls.z (x.hs.z k).l.toNat).o = g := hg
          rw [if_pos hg', if_pos hg']
          by_cases hb : (x.hs.z k).b = b
          · have hm : matchH (x.hs.z k) (x.hs.z k).o (x.hs.z k).l b = true := by rw [← hb]; exact matchH_self _
            have e3 : (if (x.hs.z k).b = b ∧ goodH x (x.hs.z k) = g then (x.hs.z k).n else 0) = (x.hs.z k).n := if_pos ⟨hb, hg⟩
            rw [hm, e3, if_pos rfl]
          · have hm : matchH (x.hs.z k) (x.hs.z k).o (x.hs.z k).l b = false := by
              cases hm : matchH (x.hs.z k) (x.hs.z k).o (x.hs.z k).l b
              · rfl
              · exact absurd (matchH_true hm).2.2 hb
            have e3 : (if (x.hs.z k).b = b ∧ goodH x (x.hs.z k) = g then (x.hs.z k).n else 0) = 0 := if_neg (fun e => hb e.1)
            rw [hm, e3]
            simp
        · have hg' : ¬ ((x.os.z (x.hs.z k).o.toNat).ls.z (x.hs.z k).l.toNat).o = g := hg
          rw [if_neg hg', if_neg hg', if_neg (fun e => hg e.2)]
          rfl
      · rw [if_neg hol]
        have : matchH (x.hs.z k) o l b = false := by
          cases hm : matchH (x.hs.z k) o l b
          · rfl
          · have := matchH_true hm
            exact absurd ⟨by omega, by omega⟩ hol
        rw [this]
        simp
    unfold heldSum
    refine (sumTo_at h1.2 fun o ho => ?_).symm
    by_cases hoo : o = (x.hs.z k).o.toNat
    · rw [if_pos hoo]
      subst hoo
      exact sumTo_at h2.2 fun l hl => by
        rw [key]
        by_cases hll : l = (x.hs.z k).l.toNat
        · rw [if_pos ⟨rfl, hll⟩, if_pos hll]
        · rw [if_neg (fun e => hll e.2), if_neg hll]
    · rw [if_neg hoo, Int.add_zero]
      exact sumTo_same fun l hl => by rw [key, if_neg (fun e => hoo e.1)]; omega
def lessL (x : Hd) (n : Int) : Hd := ⟨x.o, x.l, x.b, x.n - n⟩
structure Took (s : St) (o l : Nat) (n : Int) (t : Tk) (x : St) : Prop where
  on : x.on.n = s.on.n ∧ ∀ i, i < x.on.n → (x.on.r i).n = (s.on.r i).n ∧ ∀ j, j < (x.on.r i).n → (x.on.r i).z j = (s.on.r i).z j
  os : x.os.n = s.os.n ∧ ∀ i, i < x.os.n → (x.os.z i).k = (s.os.z i).k ∧ (x.os.z i).ls.n = (s.os.z i).ls.n ∧ ∀ j, j < (x.os.z i).ls.n → (x.os.z i).ls.z j = if i = o ∧ j = l then lessL ((s.os.z i).ls.z j) (n - t.left) else (s.os.z i).ls.z j
  right : anyB x.hs.n (badH x.hs.z) = false
  kept : ∀ a b c : Int, keptV x.hs.n x.hs.z a b c = keptV s.hs.n s.hs.z a b c + if a = o ∧ b = l then t.took c else 0
  ms : x.ms.n = s.ms.n ∧ ∀ j, j < x.ms.n → x.ms.z j = s.ms.z j
  si : x.si.n = s.si.n ∧ ∀ j, j < x.si.n → x.si.z j = s.si.z j
  so : x.so.n = s.so.n ∧ ∀ j, j < x.so.n → x.so.z j = s.so.z j
  sf : x.sf.n = s.sf.n ∧ ∀ j, j < x.sf.n → x.sf.z j = s.sf.z j
theorem Took.same {s : St} {o l : Nat} {n : Int} {t : Tk} {x y : St} (h : Took s o l n t x) (k : Took s o l n t y) : SameT x y := by
  have ho : ∀ i, i < x.os.n → i < y.os.n := fun i hi => by rw [k.os.1, ← h.os.1]; exact hi
  refine ⟨⟨h.on.1.trans k.on.1.symm, fun i hi => ?_⟩, ⟨h.os.1.trans k.os.1.symm, fun i hi => ?_⟩, right_ext h.right k.right fun a b c => (h.kept a b c).trans (k.kept a b c).symm, ⟨h.ms.1.trans k.ms.1.symm, fun j hj => (h.ms.2 j hj).trans (k.ms.2 j (by rw [k.ms.1, ← h.ms.1]; exact hj)).symm⟩, ⟨h.si.1.trans k.si.1.symm, fun j hj => (h.si.2 j hj).trans (k.si.2 j (by rw [k.si.1, ← h.si.1]; exact hj)).symm⟩, ⟨h.so.1.trans k.so.1.symm, fun j hj => (h.so.2 j hj).trans (k.so.2 j (by rw [k.so.1, ← h.so.1]; exact hj)).symm⟩, ⟨h.sf.1.trans k.sf.1.symm, fun j hj => (h.sf.2 j hj).trans (k.sf.2 j (by rw [k.sf.1, ← h.sf.1]; exact hj)).symm⟩⟩
  · have a := h.on.2 i hi
    have b := k.on.2 i (by rw [k.on.1, ← h.on.1]; exact hi)
    exact ⟨a.1.trans b.1.symm, fun j hj => (a.2 j hj).trans (b.2 j (by rw [b.1, ← a.1]; exact hj)).symm⟩
  · have a := h.os.2 i hi
    have b := k.os.2 i (ho i hi)
    exact ⟨a.1.trans b.1.symm, a.2.1.trans b.2.1.symm, fun j hj => (a.2.2 j hj).trans (b.2.2 j (by rw [b.2.1, ← a.2.1]; exact hj)).symm⟩
section
variable {p : Pl} {s x : St} {o l : Nat} {n : Int} {t : Tk}
theorem Took.line (h : Took s o l n t x) {i j : Nat} (hi : i < s.os.n) (hj : j < (s.os.z i).ls.n) : (x.os.z i).ls.z j = if i = o ∧ j = l then lessL ((s.os.z i).ls.z j) (n - t.left) else (s.os.z i).ls.z j := by
  have a := h.os.2 i (by rw [h.os.1]; exact hi)
  exact a.2.2 j (by rw [a.2.1]; exact hj)
theorem Took.good (h : Took s o l n t x) {i j : Nat} (hi : i < s.os.n) (hj : j < (s.os.z i).ls.n) : ((x.os.z i).ls.z j).o = ((s.os.z i).ls.z j).o := by
  rw [h.line hi hj]
  split <;> rfl
theorem Took.keptS (h : Took s o l n t x) (f : Formed p s) (hsum : sumTo (fun b => t.took b) 6 = n - t.left) (a b : Int) : Go.Proofs.Ytbcacebifpagpac.keptS x.hs.z a b x.hs.n = Go.Proofs.Ytbcacebifpagpac.keptS s.hs.z a b s.hs.n + if a = o ∧ b = l then n - t.left else 0 := by
  rw [← kept_eq x.hs.z a b _ h.right, ← kept_eq s.hs.z a b _ f.hold]
  by_cases hab : a = o ∧ b = l
  · rw [if_pos hab, ← hsum]
    have : ∀ m, sumTo (fun c => keptV x.hs.n x.hs.z a b c) m = sumTo (fun c => keptV s.hs.n s.hs.z a b c) m + sumTo (fun c => t.took c) m := fun m => by
      induction m with
      | zero => rfl
      | succ m ih => simp only [sumTo]; rw [ih, h.kept, if_pos hab]; omega
    exact this 6
  · rw [if_neg hab, Int.add_zero]
    exact sumTo_same fun c _ => by rw [h.kept, if_neg hab]; omega
theorem Took.home (h : Took s o l n t x) (f : Formed p s) (ho : o < s.os.n) (hl : l < (s.os.z o).ls.n) (hin : ∀ b, ¬ t.took b = 0 → 0 ≤ b ∧ b < p.nb) : ∀ i, i < x.hs.n → homeless p x (x.hs.z i) = false := by
  intro i hi
  have fx := fineH_true (right_fine h.right i hi)
  have e := (kept_at h.right hi (matchH_self (x.hs.z i))).1
  rw [h.kept] at e
  have lens : ∀ a, a < s.os.n → (x.os.z a).ls.n = (s.os.z a).ls.n := fun a ha => (h.os.2 a (by rw [h.os.1]; exact ha)).2.1
  by_cases h0 : keptV s.hs.n s.hs.z (x.hs.z i).o (x.hs.z i).l (x.hs.z i).b = 0
  · by_cases hol : (x.hs.z i).o = o ∧ (x.hs.z i).l = l
    · rw [if_pos hol, h0] at e
      have hb := hin (x.hs.z i).b (by omega)
      have eo : (x.hs.z i).o.toNat = o := by omega
      have el : (x.hs.z i).l.toNat = l := by omega
      refine homeless_mk ⟨by omega, by rw [h.os.1]; omega⟩ ⟨by omega, ?_⟩ hb
      rw [eo, el, lens o ho]
      exact hl
    · rw [if_neg hol, h0] at e
      omega
  · obtain ⟨q1, q2, -⟩ := kept_pos f.hold h0
    obtain ⟨a1, a2, a3⟩ := homeless_no (f.home _ q1)
    obtain ⟨m1, m2, m3⟩ := matchH_true q2
    rw [m1, m2] at a2
    rw [m1] at a1
    rw [m3] at a3
    exact homeless_mk ⟨a1.1, by rw [h.os.1]; exact a1.2⟩ ⟨a2.1, by rw [lens _ a1.2]; exact a2.2⟩ a3
theorem Took.num (h : Took s o l n t x) (f : Formed p s) {b g : Nat} (hb : b < p.nb) (hg : g < p.ns) : (x.on.r b).z g = (s.on.r b).z g := by
  have hb' : b < s.on.n := by rw [f.sh.n]; exact hb
  have r := h.on.2 b (by rw [h.on.1]; exact hb')
  exact r.2 g (by rw [r.1, f.sh.len b hb']; exact hg)
theorem Took.formed (h : Took s o l n t x) (f : Formed p s) (ho : o < s.os.n) (hl : l < (s.os.z o).ls.n) (hin : ∀ b, ¬ t.took b = 0 → 0 ≤ b ∧ b < p.nb) (h0 : 0 ≤ n - t.left) (h1 : n - t.left ≤ ((s.os.z o).ls.z l).n) : Formed p x := by
  have hp := (rightS f.sh0).1
  have hs : RightS p x.on := ⟨f.sh.pl, h.on.1.trans f.sh.n, fun i hi => (h.on.2 i hi).1.trans (f.sh.len i (by rw [← h.on.1]; exact hi)), fun i hi j hj => by
    have hi' : i < s.on.n := by rw [← h.on.1]; exact hi
    rw [h.num f (by rw [← f.sh.n]; exact hi') hj]
    exact f.sh.num i hi' j hj⟩
  have oo : ∀ i, i < x.os.n → i < s.os.n := fun i hi => by rw [← h.os.1]; exact hi
  refine ⟨hs, shelfE_mk hp hs, by rw [h.os.1]; exact f.os4, by rw [h.ms.1]; exact f.ms8, fun i hi => by rw [(h.os.2 i hi).2.1]; exact f.lns i (oo i hi), fun i hi => by rw [(h.os.2 i hi).1]; exact f.kind i (oo i hi), fun i hi j hj => ?_, h.right, h.home f ho hl hin, fun i hi => ?_, h.si.1.trans f.sin, h.so.1.trans f.son, h.sf.1.trans f.sfn, fun j hj => ?_, fun j hj => ?_, fun j hj => ?_⟩
  · have hj' : j < (s.os.z i).ls.n := by rw [← (h.os.2 i hi).2.1]; exact hj
    rw [(h.os.2 i hi).2.2 j hj]
    by_cases hij : i = o ∧ j = l
    · rw [if_pos hij]
      obtain ⟨rfl, rfl⟩ := hij
      obtain ⟨b1, b2, b3, b4⟩ := badLine_no (f.line i (oo i hi) j hj')
      unfold badLine lessL
      rw [inB_mk (by show _ ∧ _; dsimp only; omega), inB_mk (by show _ ∧ _; dsimp only; omega), inB_mk (by show _ ∧ _; dsimp only; omega), inB_mk (by show _ ∧ _; dsimp only; omega)]
      rfl
    · rw [if_neg hij]
      exact f.line i (oo i hi) j hj'
  · rw [h.ms.2 i hi]
    exact f.move i (by rw [← h.ms.1]; exact hi)
  · rw [h.si.2 j (by rw [h.si.1, f.sin]; exact hj)]; exact f.sib j hj
  · rw [h.so.2 j (by rw [h.so.1, f.son]; exact hj)]; exact f.sob j hj
  · rw [h.sf.2 j (by rw [h.sf.1, f.sfn]; exact hj)]; exact f.sfb j hj
theorem Took.held (h : Took s o l n t x) (f : Formed p s) (fx : Formed p x) (ho : o < s.os.n) (hl : l < (s.os.z o).ls.n) (b g : Int) : heldTo x b g x.hs.n = heldTo s b g s.hs.n + if ((s.os.z o).ls.z l).o = g then t.took b else 0 := by
  rw [heldTo_sum b g _ fx.home fx.hold, heldTo_sum b g _ f.home f.hold]
  have lens : ∀ a, a < s.os.n → (x.os.z a).ls.n = (s.os.z a).ls.n := fun a ha => (h.os.2 a (by rw [h.os.1]; exact ha)).2.1
  have key : ∀ i, i < s.os.n → ∀ j, j < (s.os.z i).ls.n → lineHeld x b g x.hs.n i j = lineHeld s b g s.hs.n i j + if i = o ∧ j = l then (if ((s.os.z o).ls.z l).o = g then t.took b else 0) else 0 := fun i hi j hj => by
    unfold lineHeld
    rw [h.good hi hj, h.kept]
    by_cases hij : i = o ∧ j = l
    · have e1 : (if ((i : Nat) : Int) = o ∧ ((j : Nat) : Int) = l then t.took b else 0) = t.took b := if_pos (by omega)
      rw [e1, if_pos hij]
      obtain ⟨rfl, rfl⟩ := hij
      by_cases hg : ((s.os.z i).ls.z j).o = g <;> simp [hg]
    · have e1 : (if ((i : Nat) : Int) = o ∧ ((j : Nat) : Int) = l then t.took b else 0) = 0 := if_neg (by omega)
      rw [e1, if_neg hij]
      by_cases hg : ((s.os.z i).ls.z j).o = g <;> simp [hg]
  unfold heldSum
  rw [h.os.1]
  refine sumTo_at ho fun i hi => ?_
  rw [lens i hi]
  by_cases hio : i = o
  · subst hio
    rw [if_pos rfl]
    exact sumTo_at hl fun j hj => by
      rw [key i hi j hj]
      by_cases hjl : j = l
      · rw [if_pos ⟨rfl, hjl⟩, if_pos hjl]
      · rw [if_neg (fun e => hjl e.2), if_neg hjl]
  · rw [if_neg hio, Int.add_zero]
    exact sumTo_same fun j hj => by rw [key i hi j hj, if_neg (fun e => hio e.1), Int.add_zero]
theorem Took.avail (h : Took s o l n t x) (f : Formed p s) (fx : Formed p x) (ho : o < s.os.n) (hl : l < (s.os.z o).ls.n) {b g : Nat} (hb : b < p.nb) (hg : g < p.ns) : availZ x b g = availZ s b g - if ((s.os.z o).ls.z l).o = g then t.took b else 0 := by
  unfold availZ
  rw [h.num f hb hg, h.held f fx ho hl, h.ms.1, fromTo_eq fun j hj => h.ms.2 j (by rw [h.ms.1]; exact hj)]
  omega
theorem Took.isRight (h : Took s o l n t x) (r : RightT p s) (ho : o < s.os.n) (hl : l < (s.os.z o).ls.n) (hk : (s.os.z o).k = 1) (hin : ∀ b, ¬ t.took b = 0 → 0 ≤ b ∧ b < p.nb) (h0 : 0 ≤ n - t.left) (h1 : n - t.left ≤ ((s.os.z o).ls.z l).n)
    (hav : ∀ b : Nat, b < p.nb → t.took b ≤ availZ s b ((s.os.z o).ls.z l).o.toNat) (ht0 : ∀ b, 0 ≤ t.took b) (hsum : sumTo (fun b => t.took b) 6 = n - t.left) : RightT p x := by
  have f := r.fm
  have fx := h.formed f ho hl hin h0 h1
  refine ⟨fx, fun g hg => ?_, fun i hi => ?_⟩
  · obtain ⟨a1, a2⟩ := goods_no (r.goods g hg)
    refine goods_mk ?_ fun b hb => ?_
    · have e : sumTo (fun i => (x.on.r i).z g) x.on.n = sumTo (fun i => (s.on.r i).z g) s.on.n := by
        rw [h.on.1]
        exact sumTo_congr fun i hi => h.num f (by rw [← f.sh.n]; exact hi) hg
      rw [e, a1, h.si.2 g (by rw [h.si.1, f.sin]; exact hg), h.so.2 g (by rw [h.so.1, f.son]; exact hg), h.sf.2 g (by rw [h.sf.1, f.sfn]; exact hg)]
    · rw [h.avail f fx ho hl hb hg]
      have a3 := a2 b hb
      by_cases hgg : ((s.os.z o).ls.z l).o = g
      · rw [if_pos hgg]
        have := hav b hb
        rw [hgg] at this
        have e : ((g : Nat) : Int).toNat = g := rfl
        rw [e] at this
        omega
      · rw [if_neg hgg]; omega
  · have hi' : i < s.os.n := by rw [← h.os.1]; exact hi
    have w := r.orders i hi'
    obtain ⟨e1, e2, e3⟩ := h.os.2 i hi
    have e4 := fun j hj => h.line (i := i) (j := j) hi' hj
    unfold wrongOrder at w ⊢
    rw [Bool.or_eq_false_iff] at w ⊢
    rw [e1, e2]
    refine ⟨?_, anyB_no fun j hj => ?_⟩
    · rw [← w.1]
      congr 2
      refine anyB_congr fun j hj => ?_
      rw [e4 j hj]
      split <;> rfl
    · have wj := anyB_false w.2 j hj
      rw [h.keptS f hsum, e4 j hj]
      by_cases hij : i = o ∧ j = l
      · obtain ⟨rfl, rfl⟩ := hij
        rw [if_pos ⟨rfl, rfl⟩, if_pos ⟨rfl, rfl⟩]
        rw [hk] at wj ⊢
        unfold wrongL at wj ⊢
        simp only [lessL] at wj ⊢
        rw [if_neg (by decide), if_neg (by decide)] at wj ⊢
        simp only [Bool.not_eq_false', beq_iff_eq] at wj ⊢
        omega
      · rw [if_neg hij, if_neg (fun e => hij ⟨by omega, by omega⟩), Int.add_zero]
        exact wj
end
end Go.Proofs.Ytbcacebifpagpac
namespace Go.Proofs.Ytbcacebifpagpac
open Go.RowKit
set_option linter.unusedVariables false
def missL (s : St) (order line : Int) : Bool := !(inB order 0 ((s.os.n : Int) - 1)) || !(inB line 0 (((s.os.z order.toNat).ls.n : Int) - 1))
def allocR (p : Pl) (s : St) (order line n but : Int) : Bool := missL s order line || !(inB n 0 200) || ((but != -1) && !(inB but 0 ((p.nb : Int) - 1)))
def lineAt (s : St) (order line : Int) : Hd := (s.os.z order.toNat).ls.z line.toNat
def allocE (p : Pl) (s : St) (order line n but : Int) : Int :=
  if stateE p s = 0 then (if allocR p s order line n but then 3 else if (s.os.z order.toNat).k = 1 then (if (lineAt s order line).n < n then 3 else 0) else 6) else stateE p s
def tkOf (p : Pl) (s : St) (good : Int) (n but : Int) : Tk := Tk.go (fun b => availZ s b.toNat good.toNat) n (wayT p but)
def allocL (p : Pl) (s : St) (order line n but : Int) : Int := if allocE p s order line n but = 0 then (tkOf p s (lineAt s order line).o n but).left else 0
def AllocOK (p : Pl) (s : St) (order line n but : Int) (x : St) : Prop := (allocE p s order line n but = 0 → Took s order.toNat line.toNat n (tkOf p s (lineAt s order line).o n but) x) ∧ (¬ allocE p s order line n but = 0 → NoneS x)
section
variable {p : Pl} {s : St} {order line n but : Int}
theorem allocE_state (h : ¬ stateE p s = 0) : allocE p s order line n but = stateE p s := by unfold allocE; rw [if_neg h]
theorem allocE_range (h : stateE p s = 0) (h1 : allocR p s order line n but = true) : allocE p s order line n but = 3 := by unfold allocE; rw [if_pos h, if_pos h1]
theorem allocE_done (h : stateE p s = 0) (h1 : allocR p s order line n but = false) (h2 : ¬ (s.os.z order.toNat).k = 1) : allocE p s order line n but = 6 := by unfold allocE; rw [if_pos h, h1, if_neg h2]; rfl
theorem allocE_back (h : stateE p s = 0) (h1 : allocR p s order line n but = false) (h2 : (s.os.z order.toNat).k = 1) (h3 : (lineAt s order line).n < n) : allocE p s order line n but = 3 := by unfold allocE; rw [if_pos h, h1, if_pos h2, if_pos h3]; rfl
theorem allocE_ok (h : stateE p s = 0) (h1 : allocR p s order line n but = false) (h2 : (s.os.z order.toNat).k = 1) (h3 : ¬ (lineAt s order line).n < n) : allocE p s order line n but = 0 := by unfold allocE; rw [if_pos h, h1, if_pos h2, if_neg h3]; rfl
theorem allocR_no (h : allocR p s order line n but = false) : (0 ≤ order ∧ order.toNat < s.os.n) ∧ (0 ≤ line ∧ line.toNat < (s.os.z order.toNat).ls.n) ∧ (0 ≤ n ∧ n ≤ 200) ∧ (but = -1 ∨ 0 ≤ but ∧ but < p.nb) := by
  simp only [allocR, missL, Bool.or_eq_false_iff, Bool.not_eq_false', Bool.and_eq_false_iff, bne_eq_false_iff_eq] at h
  obtain ⟨⟨⟨a, b⟩, c⟩, d⟩ := h
  have a := inB_true a
  have b := inB_true b
  have c := inB_true c
  refine ⟨by omega, by omega, c, ?_⟩
  rcases d with d | d
  · exact Or.inl d
  · have := inB_true d; exact Or.inr (by omega)
structure AllocIn (p : Pl) (s : St) (order line n but : Int) : Prop where
  st : stateE p s = 0
  o0 : 0 ≤ order
  on : order.toNat < s.os.n
  l0 : 0 ≤ line
  ln : line.toNat < (s.os.z order.toNat).ls.n
  n0 : 0 ≤ n
  n2 : n ≤ 200
  bt : but = -1 ∨ 0 ≤ but ∧ but < p.nb
  kd : (s.os.z order.toNat).k = 1
  bk : n ≤ (lineAt s order line).n
theorem allocIn (h : allocE p s order line n but = 0) : AllocIn p s order line n but := by
  by_cases h0 : stateE p s = 0
  · cases h1 : allocR p s order line n but
    · obtain ⟨a, b, c, d⟩ := allocR_no h1
      by_cases h2 : (s.os.z order.toNat).k = 1
      · by_cases h3 : (lineAt s order line).n < n
        · rw [allocE_back h0 h1 h2 h3] at h; exact absurd h (by decide)
        · exact ⟨h0, a.1, a.2, b.1, b.2, c.1, c.2, d, h2, by omega⟩
      · rw [allocE_done h0 h1 h2] at h; exact absurd h (by decide)
    · rw [allocE_range h0 h1] at h; exact absurd h (by decide)
  · rw [allocE_state h0] at h; exact absurd h h0
theorem AllocIn.good (h : AllocIn p s order line n but) : 0 ≤ (lineAt s order line).o ∧ (lineAt s order line).o < p.ns := (badLine_no ((rightT h.st).fm.line _ h.on _ h.ln)).1
theorem AllocIn.way (h : AllocIn p s order line n but) : ∀ x, x ∈ wayT p but → 0 ≤ x ∧ x < p.nb := fun x hx => way_mem (wayT_mem.1 hx).1
theorem AllocIn.tk (h : AllocIn p s order line n but) {l : List Int} (hl : l.Pairwise (fun x y => ¬ x = y)) (hm : ∀ x, x ∈ l → 0 ≤ x ∧ x < p.nb) : TkOK (fun b => availZ s b.toNat (lineAt s order line).o.toNat) n l (Tk.go (fun b => availZ s b.toNat (lineAt s order line).o.toNat) n l) := by
  have r := rightT h.st
  have hg := h.good
  refine tkOK h.n0 hl (fun x hx => ?_) (fun x hx => ?_)
  · have := hm x hx
    exact (goods_no (r.goods _ (by omega))).2 _ (by omega)
  · have := hm x hx
    have := r.fm.sh.pl.nb6
    omega
theorem Took.rightAt {x : St} {l : List Int} {t : Tk} (h : AllocIn p s order line n but) (hm : ∀ x, x ∈ l → 0 ≤ x ∧ x < p.nb) (k : TkOK (fun b => availZ s b.toNat (lineAt s order line).o.toNat) n l t) (T : Took s order.toNat line.toNat n t x) : RightT p x := by
  have r := rightT h.st
  have hb := h.bk
  have hl0 := k.left0
  have hl1 := k.leftn
  refine T.isRight r h.on h.ln h.kd (fun b hb => ?_) (by omega) (by unfold lineAt at hb; omega) (fun b hb => ?_) k.took0 k.sum
  · apply Classical.byContradiction
    intro hc
    refine hb (k.other b fun hbl => hc ?_)
    exact hm b hbl
  · by_cases hbl : ((b : Nat) : Int) ∈ l
    · exact k.had b hbl
    · rw [k.other b hbl]
      have hg := h.good
      exact (goods_no (r.goods _ (by unfold lineAt at hg; omega))).2 b hb
end
end Go.Proofs.Ytbcacebifpagpac
namespace Go.Proofs.Ytbcacebifpagpac
open Go.RowKit Go.Shelf Go.Sort
set_option linter.unusedVariables false
set_option maxRecDepth 100000 in
set_option maxHeartbeats 2000000 in
theorem allocCheck1_any (B1 B2 B3 : Nat) (s : St) (order line : Int) (w : World) (hs : s.os.At w) (h1 : B1 < w.heap.size) (h2 : B2 < w.heap.size) (h3 : B3 < w.heap.size) (c1 : w.cell? ⟨B1, 1, none⟩ = some (.slice s.os.a s.os.n s.os.c)) (c2 : w.cell? ⟨B2, 0, none⟩ = some (.int .i64 order)) (c3 : w.cell? ⟨B3, 0, none⟩ = some (.int .i64 line)) :
    Calls Try.prog 85 #[.pointer (some ⟨B1, 0, none⟩), .pointer (some ⟨B2, 0, none⟩), .pointer (some ⟨B3, 0, none⟩)] w fun e w' => e = .returned (.bool (missL s order line)) ∧ Below w.heap.size w w' := by
  have ole := hs.le
  have ocap0 := hs.cap
  have ocap := ocap0
  unfold maxLen at ocap
  have hon : s.os.n ≤ maxLen := Nat.le_trans ole ocap0
  have r1 : ∀ d os, (grow (redrawn w d) os).cell? ⟨B1, 1, none⟩ = some (.slice s.os.a s.os.n s.os.c) := fun d os => cell_regrown c1 d os
  have r2 : ∀ d os, (grow (redrawn w d) os).cell? ⟨B2, 0, none⟩ = some (.int .i64 order) := fun d os => cell_regrown c2 d os
  have r3 : ∀ d os, (grow (redrawn w d) os).cell? ⟨B3, 0, none⟩ = some (.int .i64 line) := fun d os => cell_regrown c3 d os
  clear c1 c2 c3
  cases k1 : inB order 0 ((s.os.n : Int) - 1)
  · have HM : Hid (missL s order line = true) := by show missL s order line = true; unfold missL; rw [k1]; rfl
    clear hs
    go_enter Try.func85, Try.ntmps85
    go_wp2_with fail
    refine wp_region_quiet_below (by kernel_rfl) (by kernel_rfl) ?_
    repeat (go_big_quiet_step ((go_at_call 30; exact Calls.regrown_of ((Has_any _ _ _ (by assumption)).mono (fun _ _ h => ⟨h.1, h.2 ▸ Below.refl _ _⟩)))))
    refine wpQuiet_nil ?_
    intro _ hw'
    obtain ⟨⟨dq, osq⟩, hw''⟩ := hw'
    subst hw''
    go_wp2_with fail
    go_ret
    exact ⟨by rw [HM.out]; rfl, below_regrown _ _ _⟩
  · obtain ⟨m, rfl⟩ := Int.eq_ofNat_of_zero_le (inB_true k1).1
    have hm : m < s.os.n := by have := (inB_true k1).2; omega
    obtain ⟨b, o, hoa, hb, z0, z1, hl⟩ := hs.ods m hm
    have HM : Hid (missL s (m : Int) line = !(inB line 0 (((s.os.z m).ls.n : Int) - 1))) := by show missL s (m : Int) line = _; unfold missL; rw [k1]; rfl
    have lcap := hl.cap
    have lle := hl.le
    have hln : (s.os.z m).ls.n ≤ maxLen := Nat.le_trans lle lcap
    have r5 : ∀ d os, (grow (redrawn w d) os).cell? ⟨b, o + m * 2 + 1, none⟩ = some (.slice (s.os.z m).ls.a (s.os.z m).ls.n (s.os.z m).ls.c) := fun d os => cell_regrown z1 d os
    have m1 : (0 : Int) ≤ (m : Int) := by omega
    have m2 : (m : Int) < (s.os.n : Int) := by omega
    rw [hoa] at r1
    unfold maxLen at lcap
    clear z0 z1 hl hs hoa
    generalize (s.os.z m).ls.n = LN at *
    generalize (s.os.z m).ls.c = LC at *
    generalize (s.os.z m).ls.a = LA at *
    cases k2 : inB line 0 ((LN : Int) - 1)
    all_goals
      go_enter Try.func85, Try.ntmps85
      go_wp2_with fail
      refine wp_region_quiet_below (by kernel_rfl) (by kernel_rfl) ?_
      repeat (go_big_quiet_step ((go_at_call 30; exact Calls.regrown_of ((Has_any _ _ _ (by assumption)).mono (fun _ _ h => ⟨h.1, h.2 ▸ Below.refl _ _⟩)))))
      refine wpQuiet_nil ?_
      intro _ hw'
      obtain ⟨⟨dq, osq⟩, hw''⟩ := hw'
      subst hw''
      go_wp2_with fail
      go_ret
      exact ⟨by rw [HM.out, k2]; simp, below_regrown _ _ _⟩
set_option maxRecDepth 100000 in
set_option maxHeartbeats 4000000 in
theorem allocCheck_any (p : Pl) (s : St) (order line n but : Int) (w : World) (hp : p.At w) (hs : s.At w) :
    Calls Try.prog 41 #[p.val, s.val, .int .i64 order, .int .i64 line, .int .i64 n, .int .i64 but] w fun e w' => e = .returned (.int .i64 (allocE p s order line n but)) ∧ Below w.heap.size w w' := by
  obtain ⟨W0, hW, hWB, X0, K2, K3⟩ : ∃ W, ((((w.alloc (.cells #[.slice p.ab p.nb p.cb, .slice p.sa p.ns p.cs] 25)).alloc (.cells s.cells 31)).alloc (.cells #[.int .i64 order] 3)).alloc (.cells #[.int .i64 line] 3)) = W ∧ Below w.heap.size w W ∧ Boxes W w.heap.size (w.heap.size + 1) p s ∧ Blk W (w.heap.size + 2) 3 1 (fun _ => .int .i64 order) ∧ Blk W (w.heap.size + 3) 3 1 (fun _ => .int .i64 line) :=
    ⟨_, rfl, ((two_below _ _ _).alloc (by simp; omega) _).alloc (by simp; omega) _, ((boxes_new w p s _ _).below ((Below.refl _ _).alloc (Nat.le_refl _) _)).below ((Below.refl _ _).alloc (Nat.le_refl _) _), ((Blk.mk' (cur := #[.int .i64 order]) (by simp) rfl).congr (fun j hj => by match j, hj with | 0, _ => rfl)).alloc _, (Blk.mk' (cur := #[.int .i64 line]) (by simp) rfl).congr (fun j hj => by match j, hj with | 0, _ => rfl)⟩
  have HC : Hid (∀ wk, Below W0.heap.size W0 wk → Boxes wk w.heap.size (w.heap.size + 1) p s ∧ p.At wk ∧ s.At wk ∧ Below w.heap.size w wk ∧ Blk wk (w.heap.size + 2) 3 1 (fun _ => .int .i64 order) ∧ Blk wk (w.heap.size + 3) 3 1 (fun _ => .int .i64 line)) := fun wk h => ⟨X0.below h, (hp.below hWB).below h, (hs.below hWB).below h, hWB.trans (h.mono hWB.size), K2.below h, K3.below h⟩
  have HW : Hid ((((w.alloc (.cells #[.slice p.ab p.nb p.cb, .slice p.sa p.ns p.cs] 25)).alloc (.cells #[.slice s.on.a s.on.n s.on.c, .slice s.os.a s.os.n s.os.c, .slice s.hs.a s.hs.n s.hs.c, .slice s.ms.a s.ms.n s.ms.c, .slice s.si.a s.si.n s.si.c, .slice s.so.a s.so.n s.so.c, .slice s.sf.a s.sf.n s.sf.c] 31)).alloc (.cells #[.int .i64 order] 3)).alloc (.cells #[.int .i64 line] 3) = W0) := hW
  have leb := hp.leb
  have capb0 := hp.capb
  have capb := capb0
  unfold maxLen at capb
  have hnb : p.nb ≤ maxLen := Nat.le_trans leb capb0
  clear hW X0 K2 K3 hp hs
  unfold Pl.val St.val
  go_enter Try.func41, Try.ntmps41
  go_wp2_with fail
  rw [HW.out]
  obtain ⟨X, hpk, hsk, hBw, -, -⟩ := HC.out W0 (Below.refl _ _)
  refine (stateCheck_any p s W0 hpk hsk).mono ?_
  rintro e w1 ⟨rfl, hB⟩
  clear X hpk hsk hBw HW
  obtain ⟨⟨⟨l1, d0, d1⟩, l2, c0, c1, c2, c3, c4, c5, c6⟩, hpk, hsk, hBw, k2, k3⟩ := HC.out w1 hB
  have HBW : Hid (Below w.heap.size w w1) := hBw
  clear hBw
  by_cases h0 : stateE p s = 0
  · have H0 : Hid (stateE p s = 0) := h0
    have HF : Hid (Formed p s) := (rightT h0).fm
    rw [h0]
    clear h0
    have HCL : Hid (Calls Try.prog 85 #[.pointer (some ⟨w.heap.size + 1, 0, none⟩), .pointer (some ⟨w.heap.size + 1 + 1, 0, none⟩), .pointer (some ⟨w.heap.size + 1 + 1 + 1, 0, none⟩)] w1 fun e w' => e = .returned (.bool (missL s order line)) ∧ Below w1.heap.size w1 w') := allocCheck1_any (w.heap.size + 1) (w.heap.size + 2) (w.heap.size + 3) s order line w1 hsk.os l2 k2.lt k3.lt c1 (k2.cell (j := 0) (by decide)) (k3.cell (j := 0) (by decide))
    have eg := enters_of Try.func85 (by kernel_rfl) rfl
    clear hpk hsk k2 k3 c0 c1 c2 c3 c4 c5 c6 d1
    go_wp2_with fail
    refine HCL.out.mono ?_
    rintro e w2 ⟨rfl, hB2⟩
    have hB3 := hB.trans (hB2.mono hB.size)
    clear l1 d0 l2 hB2 HCL HBW hB eg
    obtain ⟨⟨⟨l1, d0, d1⟩, l2, c0, c1, c2, c3, c4, c5, c6⟩, hpk, hsk, hBw, k2, k3⟩ := HC.out w2 hB3
    have HBW : Hid (Below w.heap.size w w2) := hBw
    clear hBw
    have HR : Hid (∀ a b c d, missL s order line = a → inB n 0 200 = b → (but != -1) = c → inB but 0 ((p.nb : Int) - 1) = d → allocR p s order line n but = (a || !b || (c && !d))) := fun a b c d e1 e2 e3 e4 => by unfold allocR; rw [e1, e2, e3, e4]
    cases m1 : missL s order line
    · have hml := m1
      cases m2 : inB n 0 200
      · have HX : Hid (allocE p s order line n but = 3) := allocE_range H0.out (by rw [HR.out _ _ _ _ m1 m2 rfl rfl]; rfl)
        clear hpk hsk k2 k3 c0 c1 c2 c3 c4 c5 c6 m1 hml
        go_wp2_with (go_at_call 55; refine calls_to (Within_any _ _ _ _) ?_)
        go_ret
        exact ⟨by rw [HX.out]; rfl, HBW.out⟩
      · cases m3 : (but != -1)
        · have HA : Hid (allocR p s order line n but = false) := by show allocR p s order line n but = false; rw [HR.out _ _ _ _ m1 m2 m3 rfl]; rfl
          have hbx := m3
          obtain ⟨a, b, -, -⟩ := allocR_no HA.out
          obtain ⟨o, rfl⟩ := Int.eq_ofNat_of_zero_le a.1
          obtain ⟨l, rfl⟩ := Int.eq_ofNat_of_zero_le b.1
          have ho : o < s.os.n := a.2
          have hl : l < (s.os.z o).ls.n := b.2
          obtain ⟨bo, oo, hoa, hbo, z0, z1, hlk⟩ := hsk.os.ods o ho
          obtain ⟨bl, ol, hla, hbl, y0, y1, y2, y3⟩ := hlk.hds l hl
          have u0 := k2.cell (j := 0) (by decide)
          have u1 := k3.cell (j := 0) (by decide)
          have u2 := k2.lt
          have u3 := k3.lt
          have q0 : (0 : Int) ≤ (o : Int) := by omega
          have q1 : (o : Int) < (s.os.n : Int) := by omega
          have q2 : (0 : Int) ≤ (l : Int) := by omega
          have q3 : (l : Int) < ((s.os.z o).ls.n : Int) := by omega
          have v1 := hsk.os.le
          have v2 := hsk.os.cap
          have v3 := hlk.le
          have v4 := hlk.cap
          unfold maxLen at v2 v4
          have HT6 : Hid (¬ (s.os.z o).k = 1 → allocE p s o l n but = 6) := fun h => allocE_done H0.out HA.out h
          have HT3 : Hid ((s.os.z o).k = 1 → ((s.os.z o).ls.z l).n < n → allocE p s o l n but = 3) := fun h h' => allocE_back H0.out HA.out h h'
          have HT0 : Hid ((s.os.z o).k = 1 → ¬ ((s.os.z o).ls.z l).n < n → allocE p s o l n but = 0) := fun h h' => allocE_ok H0.out HA.out h h'
          rw [hoa] at c1
          rw [hla] at z1
          clear hpk hsk k2 k3 c0 c2 c3 c4 c5 c6 m1 hoa hla hlk y0 y1 y2 a b HR
          generalize (s.os.z o).k = KD at *
          generalize ((s.os.z o).ls.z l).n = LB at *
          generalize (s.os.z o).ls.n = LN at *
          generalize (s.os.z o).ls.c = LC at *
          by_cases g1 : KD = 1
          · have g2 : (KD != 1) = false := by rw [g1]; rfl
            have t1 : ∀ d os, (grow (redrawn w2 d) os).cell? ⟨w.heap.size + 1, 1, none⟩ = some (.slice (some ⟨bo, oo, none⟩) s.os.n s.os.c) := fun d os => cell_regrown c1 d os
            have t2 : ∀ d os, (grow (redrawn w2 d) os).cell? ⟨w.heap.size + 2, 0, none⟩ = some (.int .i64 (o : Int)) := fun d os => cell_regrown u0 d os
            have t3 : ∀ d os, (grow (redrawn w2 d) os).cell? ⟨w.heap.size + 3, 0, none⟩ = some (.int .i64 (l : Int)) := fun d os => cell_regrown u1 d os
            have t4 : ∀ d os, (grow (redrawn w2 d) os).cell? ⟨bo, oo + o * 2 + 1, none⟩ = some (.slice (some ⟨bl, ol, none⟩) LN LC) := fun d os => cell_regrown z1 d os
            have t5 : ∀ d os, (grow (redrawn w2 d) os).cell? ⟨bl, ol + l * 4 + 3, none⟩ = some (.int .i64 LB) := fun d os => cell_regrown y3 d os
            have HTA : Hid (LB < n → allocE p s o l n but = 3) := HT3.out g1
            have HTB : Hid (¬ LB < n → allocE p s o l n but = 0) := HT0.out g1
            clear HT6 HT3 HT0 g1
            cases g3 : decide (LB < n)
            · have HX : Hid (allocE p s o l n but = 0) := HTB.out (of_decide_eq_false g3)
              have g4 : ¬ LB < n := of_decide_eq_false g3
              clear HTA HTB
              go_wp2_with (first | (go_at_call 55; refine calls_to (Within_any _ _ _ _) ?_) | (go_at_call 30; refine calls_to (Has_any _ _ _ hnb) ?_))
              refine wp_region_quiet_below (by kernel_rfl) (by kernel_rfl) ?_
              repeat (go_big_quiet_step (fail))
              refine wpQuiet_nil ?_
              intro _ hw'
              obtain ⟨⟨dq, osq⟩, hw''⟩ := hw'
              subst hw''
              go_wp2_with fail
              go_ret
              exact ⟨by rw [HX.out]; rfl, HBW.out.trans ((below_regrown _ _ _).mono HBW.out.size)⟩
            · have HX : Hid (allocE p s o l n but = 3) := HTA.out (of_decide_eq_true g3)
              have g4 : LB < n := of_decide_eq_true g3
              clear HTA HTB
              go_wp2_with (first | (go_at_call 55; refine calls_to (Within_any _ _ _ _) ?_) | (go_at_call 30; refine calls_to (Has_any _ _ _ hnb) ?_))
              refine wp_region_quiet_below (by kernel_rfl) (by kernel_rfl) ?_
              repeat (go_big_quiet_step (fail))
              refine wpQuiet_nil ?_
              intro _ hw'
              obtain ⟨⟨dq, osq⟩, hw''⟩ := hw'
              subst hw''
              go_wp2_with fail
              go_ret
              exact ⟨by rw [HX.out]; rfl, HBW.out.trans ((below_regrown _ _ _).mono HBW.out.size)⟩
          · have HX : Hid (allocE p s o l n but = 6) := HT6.out g1
            have g2 : (KD != 1) = true := by simpa using g1
            clear HT6 HT3 HT0 g1
            go_wp2_with (first | (go_at_call 55; refine calls_to (Within_any _ _ _ _) ?_) | (go_at_call 30; refine calls_to (Has_any _ _ _ hnb) ?_))
            go_ret
            exact ⟨by rw [HX.out]; rfl, HBW.out⟩
        · cases m4 : inB but 0 ((p.nb : Int) - 1)
          · have HX : Hid (allocE p s order line n but = 3) := allocE_range H0.out (by rw [HR.out _ _ _ _ m1 m2 m3 m4]; rfl)
            clear hpk hsk k2 k3 c0 c1 c2 c3 c4 c5 c6 m1 hml
            go_wp2_with (first | (go_at_call 55; refine calls_to (Within_any _ _ _ _) ?_) | (go_at_call 30; refine calls_to (Has_any _ _ _ hnb) ?_))
            go_ret
            exact ⟨by rw [HX.out]; rfl, HBW.out⟩
          · have HA : Hid (allocR p s order line n but = false) := by show allocR p s order line n but = false; rw [HR.out _ _ _ _ m1 m2 m3 m4]; rfl
            obtain ⟨a, b, -, -⟩ := allocR_no HA.out
            obtain ⟨o, rfl⟩ := Int.eq_ofNat_of_zero_le a.1
            obtain ⟨l, rfl⟩ := Int.eq_ofNat_of_zero_le b.1
            have ho : o < s.os.n := a.2
            have hl : l < (s.os.z o).ls.n := b.2
            obtain ⟨bo, oo, hoa, hbo, z0, z1, hlk⟩ := hsk.os.ods o ho
            obtain ⟨bl, ol, hla, hbl, y0, y1, y2, y3⟩ := hlk.hds l hl
            have u0 := k2.cell (j := 0) (by decide)
            have u1 := k3.cell (j := 0) (by decide)
            have u2 := k2.lt
            have u3 := k3.lt
            have q0 : (0 : Int) ≤ (o : Int) := by omega
            have q1 : (o : Int) < (s.os.n : Int) := by omega
            have q2 : (0 : Int) ≤ (l : Int) := by omega
            have q3 : (l : Int) < ((s.os.z o).ls.n : Int) := by omega
            have v1 := hsk.os.le
            have v2 := hsk.os.cap
            have v3 := hlk.le
            have v4 := hlk.cap
            unfold maxLen at v2 v4
            have HT6 : Hid (¬ (s.os.z o).k = 1 → allocE p s o l n but = 6) := fun h => allocE_done H0.out HA.out h
            have HT3 : Hid ((s.os.z o).k = 1 → ((s.os.z o).ls.z l).n < n → allocE p s o l n but = 3) := fun h h' => allocE_back H0.out HA.out h h'
            have HT0 : Hid ((s.os.z o).k = 1 → ¬ ((s.os.z o).ls.z l).n < n → allocE p s o l n but = 0) := fun h h' => allocE_ok H0.out HA.out h h'
            rw [hoa] at c1
            rw [hla] at z1
            clear hpk hsk k2 k3 c0 c2 c3 c4 c5 c6 m1 hoa hla hlk y0 y1 y2 a b HR
            generalize (s.os.z o).k = KD at *
            generalize ((s.os.z o).ls.z l).n = LB at *
            generalize (s.os.z o).ls.n = LN at *
            generalize (s.os.z o).ls.c = LC at *
            by_cases g1 : KD = 1
            · have g2 : (KD != 1) = false := by rw [g1]; rfl
              have t1 : ∀ d os, (grow (redrawn w2 d) os).cell? ⟨w.heap.size + 1, 1, none⟩ = some (.slice (some ⟨bo, oo, none⟩) s.os.n s.os.c) := fun d os => cell_regrown c1 d os
              have t2 : ∀ d os, (grow (redrawn w2 d) os).cell? ⟨w.heap.size + 2, 0, none⟩ = some (.int .i64 (o : Int)) := fun d os => cell_regrown u0 d os
              have t3 : ∀ d os, (grow (redrawn w2 d) os).cell? ⟨w.heap.size + 3, 0, none⟩ = some (.int .i64 (l : Int)) := fun d os => cell_regrown u1 d os
              have t4 : ∀ d os, (grow (redrawn w2 d) os).cell? ⟨bo, oo + o * 2 + 1, none⟩ = some (.slice (some ⟨bl, ol, none⟩) LN LC) := fun d os => cell_regrown z1 d os
              have t5 : ∀ d os, (grow (redrawn w2 d) os).cell? ⟨bl, ol + l * 4 + 3, none⟩ = some (.int .i64 LB) := fun d os => cell_regrown y3 d os
              have HTA : Hid (LB < n → allocE p s o l n but = 3) := HT3.out g1
              have HTB : Hid (¬ LB < n → allocE p s o l n but = 0) := HT0.out g1
              clear HT6 HT3 HT0 g1
              cases g3 : decide (LB < n)
              · have HX : Hid (allocE p s o l n but = 0) := HTB.out (of_decide_eq_false g3)
                have g4 : ¬ LB < n := of_decide_eq_false g3
                clear HTA HTB
                go_wp2_with (first | (go_at_call 55; refine calls_to (Within_any _ _ _ _) ?_) | (go_at_call 30; refine calls_to (Has_any _ _ _ hnb) ?_))
                refine wp_region_quiet_below (by kernel_rfl) (by kernel_rfl) ?_
                repeat (go_big_quiet_step (fail))
                refine wpQuiet_nil ?_
                intro _ hw'
                obtain ⟨⟨dq, osq⟩, hw''⟩ := hw'
                subst hw''
                go_wp2_with fail
                go_ret
                exact ⟨by rw [HX.out]; rfl, HBW.out.trans ((below_regrown _ _ _).mono HBW.out.size)⟩
              · have HX : Hid (allocE p s o l n but = 3) := HTA.out (of_decide_eq_true g3)
                have g4 : LB < n := of_decide_eq_true g3
                clear HTA HTB
                go_wp2_with (first | (go_at_call 55; refine calls_to (Within_any _ _ _ _) ?_) | (go_at_call 30; refine calls_to (Has_any _ _ _ hnb) ?_))
                refine wp_region_quiet_below (by kernel_rfl) (by kernel_rfl) ?_
                repeat (go_big_quiet_step (fail))
                refine wpQuiet_nil ?_
                intro _ hw'
                obtain ⟨⟨dq, osq⟩, hw''⟩ := hw'
                subst hw''
                go_wp2_with fail
                go_ret
                exact ⟨by rw [HX.out]; rfl, HBW.out.trans ((below_regrown _ _ _).mono HBW.out.size)⟩
            · have HX : Hid (allocE p s o l n but = 6) := HT6.out g1
              have g2 : (KD != 1) = true := by simpa using g1
              clear HT6 HT3 HT0 g1
              go_wp2_with (first | (go_at_call 55; refine calls_to (Within_any _ _ _ _) ?_) | (go_at_call 30; refine calls_to (Has_any _ _ _ hnb) ?_))
              go_ret
              exact ⟨by rw [HX.out]; rfl, HBW.out⟩
    · have HX : Hid (allocE p s order line n but = 3) := allocE_range H0.out (by rw [HR.out _ _ _ _ m1 rfl rfl rfl]; rfl)
      clear hpk hsk k2 k3 c0 c1 c2 c3 c4 c5 c6 m1
      go_wp2_with fail
      go_ret
      exact ⟨by rw [HX.out]; rfl, HBW.out⟩
  · have HX : Hid (allocE p s order line n but = stateE p s) := allocE_state h0
    clear hpk hsk k2 k3 c0 c1 c2 c3 c4 c5 c6
    go_wp2_with fail
    go_ret
    exact ⟨by rw [HX.out]; rfl, HBW.out⟩
end Go.Proofs.Ytbcacebifpagpac
namespace Go.Proofs.Ytbcacebifpagpac
open Go.RowKit
set_option linter.unusedVariables false
def setHd (x : Hd) (c : Nat) (v : Int) : Hd := if c = 0 then ⟨v, x.l, x.b, x.n⟩ else if c = 1 then ⟨x.o, v, x.b, x.n⟩ else if c = 2 then ⟨x.o, x.l, v, x.n⟩ else ⟨x.o, x.l, x.b, v⟩
def setLn (h : Hs) (j c : Nat) (v : Int) : Hs := ⟨h.a, h.n, h.c, fun i => if i = j then setHd (h.z i) c v else h.z i⟩
def setOd (os : Os) (o l c : Nat) (v : Int) : Os := ⟨os.a, os.n, os.c, fun i => if i = o then ⟨(os.z i).k, setLn (os.z i).ls l c v⟩ else os.z i⟩
def setLine (s : St) (o l c : Nat) (v : Int) : St := ⟨s.on, setOd s.os o l c v, s.hs, s.ms, s.si, s.so, s.sf⟩
def withHolds (s : St) (h : Hs) : St := ⟨s.on, s.os, h, s.ms, s.si, s.so, s.sf⟩
theorem flatH_at {n : Nat} {z : Nat → Hd} {i c : Nat} (hi : i < n) (hc : c < 4) : (flatH n z).getD (i * 4 + c) default = (hdCells (z i)).getD c default := by
  simp only [List.getD, flatH_get n z i c hi hc]
theorem setLn_flat {h : Hs} {j c : Nat} {v : Int} (hc : c < 4) (q : Nat) (hq : q < h.n * 4) :
    (if q = j * 4 + c then Value.int .i64 v else (flatH h.n h.z).getD q default) = (flatH h.n (setLn h j c v).z).getD q default := by
  have hd : q = q / 4 * 4 + q % 4 := by omega
  have hi : q / 4 < h.n := by omega
  have hm : q % 4 < 4 := by omega
  have e1 := flatH_at (z := h.z) hi hm
  have e2 := flatH_at (z := (setLn h j c v).z) hi hm
  rw [← hd] at e1 e2
  rw [e1, e2]
  show _ = (hdCells (if q / 4 = j then setHd (h.z (q / 4)) c v else h.z (q / 4))).getD (q % 4) default
  by_cases hj : q / 4 = j
  · rw [if_pos hj]
    by_cases hqc : q = j * 4 + c
    · rw [if_pos hqc]
      have : q % 4 = c := by omega
      rw [this]
      have hc4 : c = 0 ∨ c = 1 ∨ c = 2 ∨ c = 3 := by omega
      rcases hc4 with rfl | rfl | rfl | rfl <;> rfl
    · rw [if_neg hqc]
      have hc4 : c = 0 ∨ c = 1 ∨ c = 2 ∨ c = 3 := by omega
      have hm4 : q % 4 = 0 ∨ q % 4 = 1 ∨ q % 4 = 2 ∨ q % 4 = 3 := by omega
      rcases hc4 with rfl | rfl | rfl | rfl <;> rcases hm4 with hm | hm | hm | hm <;> first | (exfalso; omega) | (rw [hm]; rfl)
  · rw [if_neg hj, if_neg (by omega)]
theorem OwnO.setLine {A : Nat} {w : World} {s : Os} {o B : Nat} (h : OwnO A w s) (ho : o < s.n) (ha : (s.z o).ls.a = some ⟨B, 0, none⟩) (l c : Nat) (hc : c < 4) (v : Int) : OwnO A (w.setCell ⟨B, l * 4 + c, none⟩ (.int .i64 v)) (setOd s o l c v) := by
  obtain ⟨B', ha', hA, h1, h2, hb⟩ := h.lines o ho
  rw [ha] at ha'
  simp only [Option.some.injEq, Addr.mk.injEq, and_true] at ha'
  subst ha'
  have hz : ∀ i, (setOd s o l c v).z i = if i = o then ⟨(s.z i).k, setLn (s.z i).ls l c v⟩ else s.z i := fun _ => rfl
  have hcells : ∀ i, odCells ((setOd s o l c v).z i) = odCells (s.z i) := fun i => by
    rw [hz]
    by_cases hio : i = o
    · rw [if_pos hio]; rfl
    · rw [if_neg hio]
  have hla : ∀ i, ((setOd s o l c v).z i).ls.a = (s.z i).ls.a := fun i => by
    rw [hz]
    by_cases hio : i = o
    · rw [if_pos hio]; rfl
    · rw [if_neg hio]
  refine ⟨h.le, h.cap, fun hn => ?_, fun i hi => ?_, fun i j hij hj => by rw [hla, hla]; exact h.apart i j hij hj, h.room.set _ _ _⟩
  · obtain ⟨g, a1, a2, a3⟩ := h.list hn
    refine ⟨g, a1, a2, (a3.other (a := ⟨B, l * 4 + c, none⟩) (Blk.ne2 a3 hb (by decide)) _).congr fun j hj => ?_⟩
    show _ = (flatO s.n (setOd s o l c v).z).getD j default
    rw [flatO_congr fun i _ => hcells i]
  · rw [hz]
    by_cases hio : i = o
    · subst hio
      rw [if_pos rfl]
      exact ⟨B, ha, hA, h1, h2, (hb.set (l * 4 + c) (.int .i64 v)).congr fun q hq => setLn_flat hc q hq⟩
    · rw [if_neg hio]
      obtain ⟨C, a1, a2, a3, a4, a5⟩ := h.lines i hi
      refine ⟨C, a1, a2, a3, a4, a5.other (a := ⟨B, l * 4 + c, none⟩) (fun e => ?_) _⟩
      have e' : C = B := e
      subst e'
      rcases Nat.lt_or_gt_of_ne hio with hlt | hgt
      · exact h.apart i o hlt ho (a1.trans ha.symm)
      · exact h.apart o i hgt hi (ha.trans a1.symm)
theorem OwnS.setLine {A : Nat} {w : World} {s : St} {o B : Nat} (h : OwnS A w s) (ho : o < s.os.n) (ha : (s.os.z o).ls.a = some ⟨B, 0, none⟩) (l c : Nat) (hc : c < 4) (v : Int) : OwnS A (w.setCell ⟨B, l * 4 + c, none⟩ (.int .i64 v)) (Go.Proofs.Ytbcacebifpagpac.setLine s o l c v) := by
  obtain ⟨B', ha', -, -, -, hb⟩ := h.os.lines o ho
  rw [ha] at ha'
  simp only [Option.some.injEq, Addr.mk.injEq, and_true] at ha'
  subst ha'
  refine ⟨?_, fun i hi => (h.rows i hi).other hb (by decide) _ _, h.rapart, h.os.setLine ho ha l c hc v, h.hs.other hb (by decide) _ _, h.ms.other hb (by decide) _ _, h.msr.set _ _ _, h.si.other hb (by decide) _ _, h.so.other hb (by decide) _ _, h.sf.other hb (by decide) _ _, h.aio, h.aif, h.aof, h.ari⟩
  obtain ⟨g, a0, a1, a2, a3, a4⟩ := h.on
  exact ⟨g, a0, a1, a2, a3, a4.other (a := ⟨B, l * 4 + c, none⟩) (Blk.ne2 a4 hb (by decide)) _⟩
theorem OwnS.withHolds {A : Nat} {w : World} {s : St} {h : Hs} (k : OwnS A w s) (hh : OwnH A 65 w h) : OwnS A w (Go.Proofs.Ytbcacebifpagpac.withHolds s h) :=
  ⟨k.on, k.rows, k.rapart, k.os, hh, k.ms, k.msr, k.si, k.so, k.sf, k.aio, k.aif, k.aof, k.ari⟩
theorem OwnS.lineCell {A : Nat} {w : World} {s : St} {o l : Nat} (h : OwnS A w s) (ho : o < s.os.n) (hl : l < (s.os.z o).ls.n) : ∃ g B, s.os.a = some ⟨g, 0, none⟩ ∧ A ≤ g ∧ g < w.heap.size ∧ w.cell? ⟨g, o * 2 + 1, none⟩ = some (.slice (some ⟨B, 0, none⟩) (s.os.z o).ls.n (s.os.z o).ls.c) ∧ (s.os.z o).ls.a = some ⟨B, 0, none⟩ ∧ A ≤ B ∧ B < w.heap.size ∧ (s.os.z o).ls.n ≤ (s.os.z o).ls.c ∧ (s.os.z o).ls.c ≤ maxLen ∧ (∀ j, w.frozen? ⟨B, j, none⟩ = false) ∧
    w.cell? ⟨B, l * 4, none⟩ = some (.int .i64 ((s.os.z o).ls.z l).o) ∧ w.cell? ⟨B, l * 4 + 1, none⟩ = some (.int .i64 ((s.os.z o).ls.z l).l) ∧ w.cell? ⟨B, l * 4 + 2, none⟩ = some (.int .i64 ((s.os.z o).ls.z l).b) ∧ w.cell? ⟨B, l * 4 + 3, none⟩ = some (.int .i64 ((s.os.z o).ls.z l).n) := by
  obtain ⟨g, g1, g2, g3⟩ := h.os.list (by omega)
  obtain ⟨B, b1, b2, b3, b4, b5⟩ := h.os.lines o ho
  have c0 := g3.cell (j := o * 2 + 1) (by omega)
  rw [flatO_at (z := s.os.z) ho (show 1 < 2 by decide)] at c0
  have c1 : w.cell? ⟨g, o * 2 + 1, none⟩ = some (.slice (s.os.z o).ls.a (s.os.z o).ls.n (s.os.z o).ls.c) := c0
  rw [b1] at c1
  have d : ∀ c, c < 4 → w.cell? ⟨B, l * 4 + c, none⟩ = some ((hdCells ((s.os.z o).ls.z l)).getD c default) := fun c hc => by
    rw [← flatH_at (z := (s.os.z o).ls.z) hl hc]
    exact b5.cell (by omega)
  exact ⟨g, B, g1, g2, g3.lt, c1, b1, b2, b5.lt, b3, b4, fun j => b5.frozen j, d 0 (by decide), d 1 (by decide), d 2 (by decide), d 3 (by decide)⟩
theorem setLine_at {s : St} {o l c : Nat} {v : Int} (i j : Nat) : ((Go.Proofs.Ytbcacebifpagpac.setLine s o l c v).os.z i).ls.z j = if i = o ∧ j = l then setHd ((s.os.z i).ls.z j) c v else (s.os.z i).ls.z j := by
  show (if i = o then (⟨(s.os.z i).k, setLn (s.os.z i).ls l c v⟩ : Od) else s.os.z i).ls.z j = _
  by_cases hi : i = o
  · rw [if_pos hi]
    show (if j = l then setHd ((s.os.z i).ls.z j) c v else (s.os.z i).ls.z j) = _
    by_cases hj : j = l
    · rw [if_pos hj, if_pos ⟨hi, hj⟩]
    · rw [if_neg hj, if_neg (fun e => hj e.2)]
  · rw [if_neg hi, if_neg (fun e => hi e.1)]
theorem setLine_k {s : St} {o l c : Nat} {v : Int} (i : Nat) : ((Go.Proofs.Ytbcacebifpagpac.setLine s o l c v).os.z i).k = (s.os.z i).k := by
  show (if i = o then (⟨(s.os.z i).k, setLn (s.os.z i).ls l c v⟩ : Od) else s.os.z i).k = _
  by_cases hi : i = o
  · rw [if_pos hi]
  · rw [if_neg hi]
theorem setLine_n {s : St} {o l c : Nat} {v : Int} (i : Nat) : ((Go.Proofs.Ytbcacebifpagpac.setLine s o l c v).os.z i).ls.n = (s.os.z i).ls.n ∧ ((Go.Proofs.Ytbcacebifpagpac.setLine s o l c v).os.z i).ls.a = (s.os.z i).ls.a ∧ ((Go.Proofs.Ytbcacebifpagpac.setLine s o l c v).os.z i).ls.c = (s.os.z i).ls.c := by
  show (if i = o then (⟨(s.os.z i).k, setLn (s.os.z i).ls l c v⟩ : Od) else s.os.z i).ls.n = _ ∧ (if i = o then (⟨(s.os.z i).k, setLn (s.os.z i).ls l c v⟩ : Od) else s.os.z i).ls.a = _ ∧ (if i = o then (⟨(s.os.z i).k, setLn (s.os.z i).ls l c v⟩ : Od) else s.os.z i).ls.c = _
  by_cases hi : i = o
  · rw [if_pos hi]; exact ⟨rfl, rfl, rfl⟩
  · rw [if_neg hi]; exact ⟨rfl, rfl, rfl⟩
end Go.Proofs.Ytbcacebifpagpac
namespace Go.Proofs.Ytbcacebifpagpac
open Go.RowKit
set_option linter.unusedVariables false
theorem sumTo_ge {z : Nat → Int} {m : Nat} : ∀ {k : Nat}, m < k → (∀ i, i < k → 0 ≤ z i) → z m ≤ sumTo z k
  | k + 1, hm, h => by
    simp only [sumTo]
    have h0 : 0 ≤ sumTo z k := by
      have : ∀ q, q ≤ k → 0 ≤ sumTo z q := fun q => by
        induction q with
        | zero => intro _; exact Int.le_refl _
        | succ q ih => intro hq; simp only [sumTo]; have := ih (by omega); have := h q (by omega); omega
      exact this k (Nat.le_refl _)
    by_cases hmk : m = k
    · subst hmk; omega
    · have := sumTo_ge (z := z) (m := m) (k := k) (by omega) (fun i hi => h i (by omega))
      have := h k (by omega)
      omega
theorem kept_le {n : Nat} {z : Nat → Hd} (hr : anyB n (badH z) = false) (o l : Int) {b : Nat} (hb : b < 6) : keptV n z o l b ≤ keptS z o l n := by
  rw [← kept_eq z o l n hr]
  exact sumTo_ge (z := fun b => keptV n z o l b) hb fun i _ => (keptV_bd (fun j hj => (fineH_true (right_fine hr j hj)).2.2.2) o l i).1
theorem line_sum {p : Pl} {x : St} (r : RightT p x) {i j : Nat} (hi : i < x.os.n) (hj : j < (x.os.z i).ls.n) (hk : (x.os.z i).k = 1) : ((x.os.z i).ls.z j).b + ((x.os.z i).ls.z j).n + keptS x.hs.z i j x.hs.n = ((x.os.z i).ls.z j).l ∧ ((x.os.z i).ls.z j).l ≤ 200 ∧ 0 ≤ ((x.os.z i).ls.z j).b := by
  have w := r.orders i hi
  unfold wrongOrder at w
  rw [Bool.or_eq_false_iff] at w
  have wj := anyB_false w.2 j hj
  rw [hk] at wj
  unfold wrongL at wj
  rw [if_neg (by decide), if_neg (by decide)] at wj
  simp only [Bool.not_eq_false', beq_iff_eq] at wj
  have b := badLine_no (r.fm.line i hi j hj)
  exact ⟨wj, by omega, by omega⟩
theorem Took.congr {s x : St} {o l : Nat} {n : Int} {t t' : Tk} (h : Took s o l n t x) (h1 : t'.left = t.left) (h2 : ∀ c, t'.took c = t.took c) : Took s o l n t' x :=
  ⟨h.on, ⟨h.os.1, fun i hi => ⟨(h.os.2 i hi).1, (h.os.2 i hi).2.1, fun j hj => by rw [h1]; exact (h.os.2 i hi).2.2 j hj⟩⟩, h.right, fun a b c => by rw [h2]; exact h.kept a b c, h.ms, h.si, h.so, h.sf⟩
theorem Took.stepZero {s x : St} {o l : Nat} {n : Int} {t : Tk} {av : Int → Int} {b : Int} (h : Took s o l n t x) (h0 : min t.left (av b) = 0) : Took s o l n (t.step av b) x :=
  h.congr (by show t.left - min t.left (av b) = t.left; omega) fun c => by
    show (t.took c + if c = b then min t.left (av b) else 0) = t.took c
    rw [h0]
    split <;> omega
def tookH (o l : Nat) (b m : Int) : Hd := ⟨o, l, b, m⟩
theorem Took.start {s : St} {o l : Nat} {n : Int} (hr : anyB s.hs.n (badH s.hs.z) = false) {x : St} (hx : SameT x s) : Took s o l n ⟨n, fun _ => 0⟩ x := by
  refine ⟨hx.on, ⟨hx.os.1, fun i hi => ⟨(hx.os.2 i hi).1, (hx.os.2 i hi).2.1, fun j hj => ?_⟩⟩, ?_, fun a b c => ?_, hx.ms, hx.si, hx.so, hx.sf⟩
  · rw [(hx.os.2 i hi).2.2 j hj]
    by_cases hij : i = o ∧ j = l
    · rw [if_pos hij]
      show _ = (⟨_, _, _, _ - (n - n)⟩ : Hd)
      rw [Int.sub_self, Int.sub_zero]
    · rw [if_neg hij]
  · rw [hx.hs.1, badH_congr fun j hj => hx.hs.2 j (by rw [hx.hs.1]; exact hj)]
    exact hr
  · rw [hx.hs.1, keptV_congr fun j hj => hx.hs.2 j (by rw [hx.hs.1]; exact hj)]
    show _ = _ + if _ then (0 : Int) else 0
    split <;> omega
section
variable {p : Pl} {s x : St} {order line n but : Int} {l : List Int} {t : Tk} {b : Int}
theorem Took.addE (h : AllocIn p s order line n but) (hm : ∀ x, x ∈ l → 0 ≤ x ∧ x < p.nb) (k : TkOK (fun b => availZ s b.toNat (lineAt s order line).o.toNat) n l t) (T : Took s order.toNat line.toNat n t x) (hb : 0 ≤ b ∧ b < p.nb) {m : Int} (hm0 : 0 < m) (hm1 : m ≤ t.left) :
    Go.Proofs.Ytbcacebifpagpac.addE x.hs.n x.hs.z (tookH order.toNat line.toNat b m) = 0 := by
  have r := T.rightAt h hm k
  have nb6 := r.fm.sh.pl.nb6
  have ho : order.toNat < x.os.n := by rw [T.os.1]; exact h.on
  have e := T.os.2 order.toNat ho
  have hl : line.toNat < (x.os.z order.toNat).ls.n := by rw [e.2.1]; exact h.ln
  obtain ⟨a1, a2, a3⟩ := line_sum r ho hl (by rw [e.1]; exact h.kd)
  have e3 := e.2.2 line.toNat hl
  rw [if_pos ⟨rfl, rfl⟩] at e3
  have e4 : ((x.os.z order.toNat).ls.z line.toNat).n = (lineAt s order line).n - (n - t.left) := by rw [e3]; rfl
  have hbk := h.bk
  have hln := k.leftn
  obtain ⟨b', rfl⟩ := Int.eq_ofNat_of_zero_le hb.1
  have hkl := kept_le T.right order.toNat line.toNat (b := b') (by omega)
  have os4 := r.fm.os4
  have ls3 := (r.fm.lns _ ho).2
  have hf : fineH (tookH order.toNat line.toNat b' m) = true := by
    unfold fineH tookH
    have hk0 := (keptS_bd (z := x.hs.z) (order.toNat : Nat) (line.toNat : Nat) x.hs.n fun j hj => (fineH_true (right_fine T.right j hj)).2.2.2).1
    rw [inB_mk (by dsimp only; omega), inB_mk (by dsimp only; omega), inB_mk (by dsimp only; omega), inB_mk (by dsimp only; omega)]
    rfl
  rw [addE_of T.right hf, if_neg]
  show ¬ 200 < keptV x.hs.n x.hs.z (order.toNat : Nat) (line.toNat : Nat) b' + m
  omega
theorem Took.stepAdd {y : Hs} {av : Int → Int} (T : Took s order.toNat line.toNat n t x) (ho : order.toNat < s.os.n) (hl : line.toNat < (s.os.z order.toNat).ls.n) {m : Int} (hm : min t.left (av b) = m) (he : Go.Proofs.Ytbcacebifpagpac.addE x.hs.n x.hs.z (tookH order.toNat line.toNat b m) = 0) (hy : AddOK x.hs.n x.hs.z (tookH order.toNat line.toNat b m) y) :
    Took s order.toNat line.toNat n (t.step av b) (withHolds (setLine x order.toNat line.toNat 3 (((x.os.z order.toNat).ls.z line.toNat).n - m)) y) := by
  obtain ⟨hr, hk⟩ := hy.right he
  refine ⟨T.on, ⟨T.os.1, fun i hi => ?_⟩, hr, fun a c d => ?_, T.ms, T.si, T.so, T.sf⟩
  · have hi' : i < x.os.n := hi
    have e := T.os.2 i hi'
    have n1 := (setLine_n (s := x) (o := order.toNat) (l := line.toNat) (c := 3) (v := ((x.os.z order.toNat).ls.z line.toNat).n - m) i).1
    refine ⟨(setLine_k i).trans e.1, n1.trans e.2.1, fun j hj => ?_⟩
    have hj' : j < (x.os.z i).ls.n := by rw [← n1]; exact hj
    show ((setLine x order.toNat line.toNat 3 (((x.os.z order.toNat).ls.z line.toNat).n - m)).os.z i).ls.z j = _
    rw [setLine_at, e.2.2 j hj']
    by_cases hij : i = order.toNat ∧ j = line.toNat
    · rw [if_pos hij, if_pos hij, if_pos hij]
      obtain ⟨rfl, rfl⟩ := hij
      have e3 := e.2.2 line.toNat hj'
      rw [if_pos ⟨rfl, rfl⟩] at e3
      rw [e3]
      show (⟨_, _, _, _ - (n - t.left) - m⟩ : Hd) = ⟨_, _, _, _ - (n - (t.left - min t.left (av b)))⟩
      rw [hm]
      congr 1
      omega
    · rw [if_neg hij, if_neg hij, if_neg hij]
  · show keptV y.n y.z a c d = _
    rw [hk, T.kept]
    show _ = _ + if _ then t.took d + (if d = b then min t.left (av b) else 0) else 0
    rw [hm]
    by_cases hac : a = order.toNat ∧ c = line.toNat
    · rw [if_pos hac, if_pos hac]
      by_cases hd : d = b
      · have : matchH (tookH order.toNat line.toNat b m) a c d = true := by
          unfold matchH tookH
          simp [hac, hd]
        rw [this, if_pos hd, if_pos rfl]
        show _ + m = _
        omega
      · have : matchH (tookH order.toNat line.toNat b m) a c d = false := by
          cases hq : matchH (tookH order.toNat line.toNat b m) a c d
          · rfl
          · exact absurd (matchH_true hq).2.2.symm hd
        rw [this, if_neg hd]
        simp
    · have : matchH (tookH order.toNat line.toNat b m) a c d = false := by
        cases hq : matchH (tookH order.toNat line.toNat b m) a c d
        · rfl
        · have := matchH_true hq
          exact absurd ⟨this.1.symm, this.2.1.symm⟩ hac
      rw [this, if_neg hac, if_neg hac]
      simp
end
end Go.Proofs.Ytbcacebifpagpac
namespace Go.Proofs.Ytbcacebifpagpac
open Go.RowKit Go.Shelf
set_option linter.unusedVariables false
theorem zeroInt (w : World) : (zeroValue 3).run Try.prog w = .ok (.int .i64 0) w := by kernel_rfl
theorem Blk.setCells {g : Nat} {e : TypeId} {n : Nat} {f : Nat → Value} : ∀ (vs : List Value) (o : Nat) (w : World), Blk w g e n f → n ≤ o → Blk (w.setCells g o vs) g e n f
  | [], _, _, h, _ => h
  | v :: r, o, w, h, hn => by
    rw [World.setCells]
    exact Blk.setCells r (o + 1) _ ((h.set o v).congr fun j hj => by rw [if_neg (by omega)]) (by omega)
theorem below_cells {B g : Nat} (hg : B ≤ g) {a : World} : ∀ (vs : List Value) (o : Nat) (w : World), Below B a w → Below B a (w.setCells g o vs)
  | [], _, _, h => h
  | v :: r, o, w, h => by
    rw [World.setCells]
    exact below_cells hg r (o + 1) _ (h.setCell (p := ⟨g, o, none⟩) hg v)
theorem Blk.less {w : World} {g : Nat} {e : TypeId} {n m : Nat} {f : Nat → Value} (h : Blk w g e n f) (hm : m ≤ n) : Blk w g e m f := by
  obtain ⟨cur, h1, h2, h3⟩ := h
  exact ⟨cur, h1, by omega, fun j hj => h3 j (by omega)⟩
set_option maxHeartbeats 400000 in
theorem idxI2 (f : Nat) (caps : Array Value) (bad : Nat → Bool) (A : Nat) (a : Option Addr) (n c : Nat) (w : World) (hA : A ≤ w.heap.size) (hn : n ≤ c) (hc : c ≤ maxLen) (z : Nat → Int) (hz : IntsAt w a n z)
    (eg : ∀ args w, (callFunc f args).run Try.prog w = .ok (.enter f args) w)
    (hf : Hid (∀ i w1, i < n → Below A w w1 → Calls Try.prog f (#[.int .i64 (z i)] ++ caps) w1 fun e w' => e = .returned (.bool (bad i)) ∧ Below w1.heap.size w1 w')) :
    Calls Try.prog 87 #[.slice a n c, .func (.func f) #[] caps] w fun e w' => ((e = .returned (.int .i64 (-1)) ∧ ∀ j, j < n → bad j = false) ∨ ∃ k, k < n ∧ e = .returned (.int .i64 (k : Nat)) ∧ bad k = true ∧ ∀ j, j < k → bad j = false) ∧ Below w.heap.size w w' := by
  unfold maxLen at hc
  go_enter Try.func87, Try.ntmps87
  go_wp2_with fail
  go_loopw [8] (fun i w1 => ∃ k : Nat, k ≤ n ∧ i = .int .i64 k ∧ (∀ j, j < k → bad j = false) ∧ Below w.heap.size w w1) (fun i _ => n - (intOf i).toNat)
  case atStart => exact ⟨0, Nat.zero_le _, rfl, fun j hj => absurd hj (Nat.not_lt_zero _), Below.refl _ _⟩
  case round =>
    obtain ⟨k, hk, rfl, hno, hB⟩ := hrel
    have HN : Hid (∀ j, j < k → bad j = false) := hno
    clear hno
    by_cases hlt : k < n
    · obtain ⟨b, o, rfl, _, hcell⟩ := (hz.below hB) k hlt
      clear hz
      go_wp2_with fail
      refine (hf.out k wr hlt (hB.mono hA)).mono ?_
      rintro e w1 ⟨rfl, hB1⟩
      have hB2 := hB.trans (hB1.mono hB.size)
      cases hbad : bad k
      · go_wp2_with fail
        go_roundw
        case rel =>
          refine ⟨k + 1, by omega, by go_num, ?_, hB2⟩
          intro j hj
          by_cases hjk : j = k
          · rw [hjk, hbad]
          · exact HN.out j (by omega)
        case measure => simp [intOf]; omega
      · go_wp2_with fail
        go_ret
        exact ⟨Or.inr ⟨k, hlt, rfl, hbad, HN.out⟩, hB2⟩
    · go_wp2_with fail
      go_ret
      have hkn : k = n := by omega
      subst hkn
      exact ⟨Or.inl ⟨rfl, HN.out⟩, hB⟩
def stay (bad : Int → Bool) (xs : List Int) (k : Nat) : List Int := (xs.take k).filter (fun x => !bad x)
theorem stay_all (bad : Int → Bool) (xs : List Int) : stay bad xs xs.length = xs.filter (fun x => !bad x) := by unfold stay; rw [List.take_length]
theorem stay_succ {bad : Int → Bool} {xs : List Int} {k : Nat} (hk : k < xs.length) : stay bad xs (k + 1) = stay bad xs k ++ if bad (xs.getD k 0) then [] else [xs.getD k 0] := by
  unfold stay
  have e : xs.getD k 0 = xs[k] := by simp [List.getD, List.getElem?_eq_getElem hk]
  rw [List.take_add_one, List.getElem?_eq_getElem hk, List.filter_append, e]
  congr 1
  cases h : bad xs[k] <;> simp [h]
theorem stay_full {bad : Int → Bool} {xs : List Int} : ∀ {k : Nat}, k ≤ xs.length → (∀ j, j < k → bad (xs.getD j 0) = false) → stay bad xs k = xs.take k
  | 0, _, _ => by simp [stay]
  | k + 1, hk, h => by
    rw [stay_succ (by omega), stay_full (k := k) (by omega) (fun j hj => h j (by omega)), h k (by omega), List.take_add_one]
    simp [List.getD, List.getElem?_eq_getElem (show k < xs.length by omega)]
def DelAt (g : Nat) (bad : Int → Bool) (xs : List Int) (k : Nat) (wk : World) : Prop := ∃ c : Nat → Value, Blk wk g 3 xs.length c ∧ (∀ q, q < (stay bad xs k).length → c q = .int .i64 ((stay bad xs k).getD q 0)) ∧ ∀ q, k ≤ q → q < xs.length → c q = .int .i64 (xs.getD q 0)
set_option maxRecDepth 100000 in
set_option maxHeartbeats 2000000 in
theorem DelI_any (f : Nat) (caps : Array Value) (bad : Int → Bool) (A g cap : Nat) (xs : List Int) (w : World) (hA : A ≤ g) (hA2 : A ≤ w.heap.size) (hn : xs.length ≤ cap) (hcap : cap ≤ maxLen) (hb : Blk w g 3 xs.length (fun j => .int .i64 (xs.getD j 0)))
    (eg : ∀ args w, (callFunc f args).run Try.prog w = .ok (.enter f args) w)
    (hf : Hid (∀ (x : Int) w1, Below A w w1 → Calls Try.prog f (#[.int .i64 x] ++ caps) w1 fun e w' => e = .returned (.bool (bad x)) ∧ Below w1.heap.size w1 w')) :
    Calls Try.prog 43 #[.slice (some ⟨g, 0, none⟩) xs.length cap, .func (.func f) #[] caps] w fun e w' => e = .returned (.slice (some ⟨g, 0, none⟩) (xs.filter (fun x => !bad x)).length cap) ∧ Blk w' g 3 (xs.filter (fun x => !bad x)).length (fun j => .int .i64 ((xs.filter (fun x => !bad x)).getD j 0)) ∧ Below A w w' := by
  have hcap0 := hcap
  unfold maxLen at hcap
  have HBK : Hid (Blk w g 3 xs.length (fun j => .int .i64 (xs.getD j 0))) := hb
  have hz : IntsAt w (some ⟨g, 0, none⟩) xs.length (fun j => xs.getD j 0) := hb.ints
  clear hb
  go_enter Try.func43, Try.ntmps43
  go_wp2_with fail
  refine (idxI2 f caps (fun j => bad (xs.getD j 0)) A _ _ _ w hA2 hn hcap0 _ hz eg (fun i w1 _ h => hf.out _ w1 h)).mono ?_
  rintro e w1 ⟨h, hB1⟩
  clear hz
  have hBA := hB1.mono hA2
  rcases h with ⟨rfl, hno⟩ | ⟨k0, hk0, rfl, hbad, hno⟩
  · have hfil : xs.filter (fun x => !bad x) = xs := by
      have := stay_full (bad := bad) (Nat.le_refl xs.length) hno
      rw [stay_all, List.take_length] at this
      exact this
    have HF : Hid (xs.filter (fun x => !bad x) = xs) := hfil
    clear hfil hno
    go_wp2_with fail
    go_ret
    rw [HF.out]
    exact ⟨rfl, HBK.out.below hB1, hBA⟩
  · have hs0 : stay bad xs (k0 + 1) = xs.take k0 := by rw [stay_succ hk0, stay_full (by omega) hno, hbad]; simp
    have hl0 : (stay bad xs (k0 + 1)).length = k0 := by rw [hs0, List.length_take]; omega
    have H0 : Hid (DelAt g bad xs (k0 + 1) w1) := ⟨_, HBK.out.below hB1, fun q hq => by
      rw [hl0] at hq
      rw [hs0]
      simp only [List.getD, List.getElem?_take, if_pos hq], fun q _ _ => rfl⟩
    have HL0 : Hid ((stay bad xs (k0 + 1)).length = k0) := hl0
    clear hs0 hl0 hbad hno HBK
    go_wp2_with fail
    go_loopw [5, 6] (fun i j wk => ∃ k : Nat, k ≤ xs.length ∧ j = .int .i64 k ∧ i = .int .i64 ((stay bad xs k).length : Nat) ∧ (stay bad xs k).length < k ∧ Hid (DelAt g bad xs k wk) ∧ Below A w wk) (fun _ j _ => xs.length - (intOf j).toNat)
    case atStart => exact ⟨k0 + 1, by omega, by go_num, by rw [HL0.out], by rw [HL0.out]; omega, H0, hBA⟩
    case round =>
      clear H0 HL0 hBA hB1
      obtain ⟨k, hk, rfl, rfl, hlen, HD, hB⟩ := hrel
      by_cases hlt : k < xs.length
      · obtain ⟨c, hc1, hc2, hc3⟩ := HD.out
        have HB : Hid (Blk wr g 3 xs.length c ∧ (∀ q, q < (stay bad xs k).length → c q = .int .i64 ((stay bad xs k).getD q 0)) ∧ ∀ q, k ≤ q → q < xs.length → c q = .int .i64 (xs.getD q 0)) := ⟨hc1, hc2, hc3⟩
        have z0 : wr.cell? ⟨g, k, none⟩ = some (.int .i64 (xs.getD k 0)) := (hc1.cell hlt).trans (by rw [hc3 k (Nat.le_refl _) hlt])
        have HS : Hid (stay bad xs (k + 1) = stay bad xs k ++ if bad (xs.getD k 0) then [] else [xs.getD k 0]) := stay_succ hlt
        clear hc1 hc2 hc3 HD
        obtain ⟨X, hX⟩ : ∃ X, xs.getD k 0 = X := ⟨_, rfl⟩
        have HXE : Hid (xs.getD k 0 = X) := hX
        rw [hX] at z0
        clear hX
        obtain ⟨I, hI⟩ : ∃ I, (stay bad xs k).length = I := ⟨_, rfl⟩
        have HIE : Hid ((stay bad xs k).length = I) := hI
        rw [hI] at hlen ⊢
        clear hI
        go_wp2_with fail
        refine (hf.out X wr hB).mono ?_
        rintro e w2 ⟨rfl, hB2⟩
        have hB3 := hB.trans (hB2.mono (Nat.le_trans hA2 hB.size))
        have kb := HB.out.1.below hB2
        cases hbd : bad X
        · have y1 := kb.frozen I
          have y2 := kb.cell (j := I) (by omega)
          have KB := kb.set I (.int .i64 X)
          have HN : Hid (DelAt g bad xs (k + 1) (w2.setCell ⟨g, I, none⟩ (.int .i64 X)) ∧ Below A w (w2.setCell ⟨g, I, none⟩ (.int .i64 X)) ∧ (stay bad xs (k + 1)).length = I + 1) := by
            have e1 : stay bad xs (k + 1) = stay bad xs k ++ [X] := by rw [HS.out, HXE.out, hbd]; rfl
            have e2 : (stay bad xs (k + 1)).length = I + 1 := by rw [e1, List.length_append, HIE.out]; rfl
            refine ⟨⟨_, KB, fun q hq => ?_, fun q hq hq2 => ?_⟩, hB3.setCell (p := ⟨g, I, none⟩) hA _, e2⟩
            · rw [e2] at hq
              show (if q = I then Value.int .i64 X else c q) = _
              rw [e1]
              by_cases hqi : q = I
              · rw [if_pos hqi]
                simp only [List.getD]
                rw [List.getElem?_append_right (by rw [HIE.out]; omega), HIE.out, hqi]
                simp
              · rw [if_neg hqi, HB.out.2.1 q (by rw [HIE.out]; omega)]
                simp only [List.getD]
                rw [List.getElem?_append_left (by rw [HIE.out]; omega)]
            · show (if q = I then Value.int .i64 X else c q) = _
              rw [if_neg (by omega), HB.out.2.2 q (by omega) hq2]
          clear kb KB HB HS
          go_wp2_with fail
          go_roundw
          case rel => exact ⟨_, _, _, _, _, _, _, _, _, _, _, _, _, _, _, _, _, _, _, _, _, _, _, ⟨k + 1, by omega, by go_num, by rw [HN.out.2.2]; go_num, by rw [HN.out.2.2]; omega, HN.out.1, HN.out.2.1⟩, rfl⟩
          case measure => simp [intOf]; omega
        · have HN : Hid (DelAt g bad xs (k + 1) w2 ∧ (stay bad xs (k + 1)).length = I) := by
            have e1 : stay bad xs (k + 1) = stay bad xs k := by rw [HS.out, HXE.out, hbd]; simp
            rw [e1]
            exact ⟨⟨c, kb, by rw [e1]; exact HB.out.2.1, fun q hq hq2 => HB.out.2.2 q (by omega) hq2⟩, HIE.out⟩
          clear kb HB HS
          go_wp2_with fail
          go_roundw
          case rel => exact ⟨_, _, _, _, _, _, _, _, _, _, _, _, _, _, _, _, _, _, _, _, _, _, _, ⟨k + 1, by omega, by go_num, by rw [HN.out.2], by rw [HN.out.2]; omega, HN.out.1, hB3⟩, rfl⟩
          case measure => simp [intOf]; omega
      · have hkn : k = xs.length := by omega
        subst hkn
        obtain ⟨c, hc1, hc2, hc3⟩ := HD.out
        have HIE : Hid (stay bad xs xs.length = xs.filter (fun x => !bad x)) := stay_all bad xs
        rw [stay_all] at hlen hc2 ⊢
        obtain ⟨I, hI⟩ : ∃ I, (xs.filter (fun x => !bad x)).length = I := ⟨_, rfl⟩
        have HI : Hid ((xs.filter (fun x => !bad x)).length = I) := hI
        rw [hI] at hlen hc2 ⊢
        clear hI
        obtain ⟨N, hN⟩ : ∃ N, xs.length = N := ⟨_, rfl⟩
        have HNE : Hid (xs.length = N) := hN
        rw [hN] at hlen hn hc1 ⊢
        clear hN hc3 hlt hk HD
        have hci : ¬ cap = I := by omega
        have hcl : ∀ ty, (Builtin.clear_ #[23] ty #[.slice (some ⟨g, I, none⟩) (N - I) (cap - I)]).run Try.prog wr = .ok (.tuple #[]) (wr.setCells g I (List.replicate (N - I) (.int .i64 0))) := fun ty =>
          Lib.run_clear_slice wr 23 3 ty (.int .i64 0) Try.underlying23 zeroInt rfl rfl g I (N - I) (cap - I) (by omega) (fun j hj => by rw [hc1.cell (by omega)]; rfl) (fun j _ => hc1.frozen _)
        have HEND : Hid (Blk (wr.setCells g I (List.replicate (N - I) (.int .i64 0))) g 3 I (fun j => .int .i64 ((xs.filter (fun x => !bad x)).getD j 0)) ∧ Below A w (wr.setCells g I (List.replicate (N - I) (.int .i64 0)))) :=
          ⟨Blk.setCells _ _ _ ((hc1.less (by omega)).congr fun j hj => hc2 j hj) (Nat.le_refl _), below_cells hA _ _ _ hB⟩
        clear hc1 hc2
        go_wp2_with fail
        go_ret
        rw [HI.out]
        exact ⟨rfl, HEND.out⟩
end Go.Proofs.Ytbcacebifpagpac
namespace Go.Proofs.Ytbcacebifpagpac
open Go.RowKit Go.Shelf
set_option linter.unusedVariables false
attribute [local go_sem] Oper.semAt_some
theorem frL_prefix (p : Pl) (f : Bool) {k m : Nat} (h : k ≤ m) : frL p f k <+: frL p f m := by
  induction m with
  | zero => rw [show k = 0 by omega]; exact List.prefix_refl _
  | succ m ih =>
    by_cases hk : k = m + 1
    · rw [hk]; exact List.prefix_refl _
    · refine (ih (by omega)).trans ?_
      by_cases hf : (p.zb m).front = f
      · rw [frL_hit hf]; exact List.prefix_append _ _
      · rw [frL_miss hf]; exact List.prefix_refl _
def keepsB (n₀ Bf : Nat) (A B : World) : Prop := Below n₀ A B ∧ (∀ v, A.cell? ⟨Bf, 0, none⟩ = some v → B.cell? ⟨Bf, 0, none⟩ = some v)
set_option maxRecDepth 100000 in
set_option maxHeartbeats 2000000 in
theorem binsOf1_in (F : Fence) (n : Nat) (h6 : F.fn 113) (hro : F.round = none) (hn : 1 ≤ n) (l Bp Bf n₀ : Nat) (p : Pl) (f : Bool) (J Jx : List Int → World → Prop)
    (hY : ∀ pre x W, J pre W → pre.length < p.nb → YieldAt F (n - 1) Try.prog l #[.int .i64 x] W fun e W' =>
      (e = .returned (.bool true) ∧ J (pre ++ [x]) W' ∧ keepsB n₀ Bf W W') ∨ (e = .returned (.bool false) ∧ Jx (pre ++ [x]) W'))
    (W : World) (hJ : AbidesFrom W.heap.size J) (hn₀ : n₀ ≤ W.heap.size) (hBp : W.cell? ⟨Bp, 0, none⟩ = some (.slice p.ab p.nb p.cb)) (hBf : W.cell? ⟨Bf, 0, none⟩ = some (.bool f)) (hle : p.nb ≤ p.cb) (hcap : p.cb ≤ maxLen)
    (hL : ∀ W', Below n₀ W W' → BinsAt W' p.ab p.nb p.zb) (h0 : J [] W) :
    CallsIn F n Try.prog 113 #[.func (.yield l) #[] #[], .pointer (some ⟨Bp, 0, none⟩), .pointer (some ⟨Bf, 0, none⟩)] W fun e W' => (∃ v, e = .returned v) ∧
      ((∃ ys, ys = frL p f p.nb ∧ J ys W') ∨ (∃ pre, pre <+: frL p f p.nb ∧ Jx pre W')) := by
  unfold maxLen at hcap
  have hS : Hid (∀ wr, Below n₀ W wr → W.heap.size ≤ wr.heap.size) := fun wr h => h.size
  have HJA : Hid (∀ pre A o, J pre A → J pre (A.alloc o)) := fun pre A o h => hJ pre A (A.alloc o) none h (World.grownBy_alloc A o none) (fun r e => by cases e)
  refine callsIn_of_wp Try.func113 rfl h6 ?_ hro
  simp only [Try.ntmps113, List.size_toArray, List.length_cons, List.length_nil, Nat.reduceAdd, Nat.reduceSub, Array.replicate_succ, Array.replicate_zero, List.push_toArray, List.append_toArray, List.nil_append, List.cons_append]
  gi_wp2
  gi_loopw [9] (fun i wr => ∃ k : Nat, k ≤ p.nb ∧ i = .int .i64 k ∧ J (frL p f k) wr ∧ Below n₀ W wr ∧ wr.cell? ⟨Bf, 0, none⟩ = some (.bool f)) (fun i _ => p.nb - (intOf i).toNat)
  case atStart => exact ⟨0, Nat.zero_le _, rfl, h0, Below.refl _ _, hBf⟩
  case round =>
    obtain ⟨k, hk, rfl, hJs, hB, hcf⟩ := hrel
    by_cases hlt : k < p.nb
    · obtain ⟨b, o, hab, hb, z0, z1, z2, z3⟩ := hL _ hB k hlt
      have m1 : (0 : Int) ≤ (k : Int) := by omega
      have hltf : Bf < wr.heap.size := World.block_lt_of_cell? wr _ hcf
      have hfl := frL_len p f k
      rw [hab]
      clear hab
      by_cases hf : (p.zb k).front = f
      · rw [hf] at z0
        have hJa := HJA.out _ wr (.cells #[.bool f, .int .i64 (p.zb k).room, .int .i64 (p.zb k).low, .int .i64 (p.zb k).high] 42) hJs
        obtain ⟨fn, tmps, assign, body, hy, hR⟩ := hY (frL p f k) k _ hJa (by omega)
        gi_wp2
        refine hR.mono ?_
        rintro e W3 (⟨rfl, hJ3, hk3⟩ | ⟨rfl, hJx3⟩)
        · have hB3 : Below n₀ W W3 := (hB.alloc (Nat.le_trans hn₀ (hS.out wr hB)) _).trans hk3.1
          have hc3 : W3.cell? ⟨Bf, 0, none⟩ = some (.bool f) := hk3.2 _ ((((Below.refl wr.heap.size wr).alloc (Nat.le_refl _) _).cell (p := ⟨Bf, 0, none⟩) hltf).trans hcf)
          rw [← frL_hit hf] at hJ3
          clear hk3 hR
          gi_wp2
          go_roundw
          case rel => exact ⟨k + 1, by omega, by go_num, hJ3, hB3, hc3⟩
          case measure => simp [intOf]; omega
        · rw [← frL_hit hf] at hJx3
          gi_wp2
          refine bodyPost_ret (results_none rfl _ _ _) rfl ?_
          exact ⟨⟨_, rfl⟩, .inr ⟨frL p f (k + 1), frL_prefix p f (by omega), hJx3⟩⟩
      · have hJa := HJA.out _ wr (.cells #[.bool (p.zb k).front, .int .i64 (p.zb k).room, .int .i64 (p.zb k).low, .int .i64 (p.zb k).high] 42) hJs
        rw [← frL_miss hf] at hJa
        have hBa := hB.alloc (Nat.le_trans hn₀ (hS.out wr hB)) (.cells #[.bool (p.zb k).front, .int .i64 (p.zb k).room, .int .i64 (p.zb k).low, .int .i64 (p.zb k).high] 42)
        have hca := (((Below.refl wr.heap.size wr).alloc (Nat.le_refl _) (.cells #[.bool (p.zb k).front, .int .i64 (p.zb k).room, .int .i64 (p.zb k).low, .int .i64 (p.zb k).high] 42)).cell (p := ⟨Bf, 0, none⟩) hltf).trans hcf
        have HA : Hid (J (frL p f (k + 1)) (wr.alloc (.cells #[.bool (p.zb k).front, .int .i64 (p.zb k).room, .int .i64 (p.zb k).low, .int .i64 (p.zb k).high] 42)) ∧ Below n₀ W (wr.alloc (.cells #[.bool (p.zb k).front, .int .i64 (p.zb k).room, .int .i64 (p.zb k).low, .int .i64 (p.zb k).high] 42)) ∧ (wr.alloc (.cells #[.bool (p.zb k).front, .int .i64 (p.zb k).room, .int .i64 (p.zb k).low, .int .i64 (p.zb k).high] 42)).cell? ⟨Bf, 0, none⟩ = some (.bool f)) := ⟨hJa, hBa, hca⟩
        clear hJa hBa hca
        gi_wp2
        refine ⟨fun _ h => (by cases h), ?_⟩
        gi_wp2
        go_roundw
        case rel => exact ⟨k + 1, by omega, by go_num, HA.out.1, HA.out.2.1, HA.out.2.2⟩
        case measure => simp [intOf]; omega
    · gi_wp2
      go_end0
      have hkn : k = p.nb := by omega
      subst hkn
      exact ⟨⟨_, rfl⟩, .inl ⟨_, rfl, hJs⟩⟩
end Go.Proofs.Ytbcacebifpagpac
namespace Go.Proofs.Ytbcacebifpagpac
open Go.RowKit Go.Shelf
set_option linter.unusedVariables false
attribute [local go_sem] Oper.semAt_some
theorem keepsB_t {n₀ Bf : Nat} {A B C : World} (h : keepsB n₀ Bf A B) (k : keepsB n₀ Bf B C) : keepsB n₀ Bf A C := ⟨h.1.trans k.1, fun v hv => k.2 v (h.2 v hv)⟩
theorem keepsB_b {n₀ Bf : Nat} {w : World} (hn : n₀ ≤ w.heap.size) (hb : Bf < w.heap.size) (W : World) (l : Nat) (o o' : Obj) (hl : w.heap.size ≤ l) (h : W.heap[l]? = some o) (h1 : o.isCells = false) (h2 : o.isWalk = false) : keepsB n₀ Bf W (W.putObj l o') :=
  ⟨belowK_b hn W l o o' hl h h1 h2, fun v hv => ((belowK_b (Nat.le_refl _) W l o o' hl h h1 h2).cell (p := ⟨Bf, 0, none⟩) hb).trans hv⟩
set_option maxRecDepth 100000 in
set_option maxHeartbeats 1000000 in
theorem binsOf_in (F : Fence) (n : Nat) (h5 : F.fn 86) (hro : F.round = none) (p : Pl) (f : Bool) (w : World) :
    CallsIn F n Try.prog 86 #[p.val, .bool f] w fun e w' => e = .returned (.func (.func 113) #[] #[.pointer (some ⟨w.heap.size, 0, none⟩), .pointer (some ⟨w.heap.size + 1, 0, none⟩)]) ∧ w' = (w.alloc (.cells #[.slice p.ab p.nb p.cb, .slice p.sa p.ns p.cs] 25)).alloc (.cells #[.bool f] 4) := by
  unfold Pl.val
  refine callsIn_of_wp Try.func86 rfl h5 ?_ hro
  simp only [Try.ntmps86, List.size_toArray, List.length_cons, List.length_nil, Nat.reduceAdd, Nat.reduceSub, Array.replicate_succ, Array.replicate_zero, List.push_toArray, List.append_toArray, List.nil_append, List.cons_append]
  gi_wp2
  go_ret
  exact ⟨rfl, rfl⟩
theorem binsOf_stops (F : Fence) (n : Nat) (h6 : F.fn 113) (hro : F.round = none) (hn : 1 ≤ n) (Bp Bf n₀ : Nat) (p : Pl) (f : Bool) (w : World) (hBp : Bp < w.heap.size) (hBf : Bf < w.heap.size) (hn₀ : n₀ ≤ w.heap.size)
    (hcp : w.cell? ⟨Bp, 0, none⟩ = some (.slice p.ab p.nb p.cb)) (hcf : w.cell? ⟨Bf, 0, none⟩ = some (.bool f)) (hle : p.nb ≤ p.cb) (hcap : p.cb ≤ maxLen) (hL : ∀ W', Below n₀ w W' → BinsAt W' p.ab p.nb p.zb) :
    SeqStopsK F n Try.prog 113 #[.pointer (some ⟨Bp, 0, none⟩), .pointer (some ⟨Bf, 0, none⟩)] (fun x : Int => #[Value.int .i64 x]) (keepsB n₀ Bf) (fun ys => ys = frL p f p.nb) (fun pre => pre <+: frL p f p.nb) p.nb w := fun l J Jx W hW hJ _ hY h0 =>
  binsOf1_in F n h6 hro hn l Bp Bf n₀ p f J Jx hY W hJ (Nat.le_trans hn₀ hW.size) ((hW.cell (p := ⟨Bp, 0, none⟩) hBp).trans hcp) ((hW.cell (p := ⟨Bf, 0, none⟩) hBf).trans hcf) hle hcap (fun W' h => hL W' ((hW.mono hn₀).trans h)) h0
end Go.Proofs.Ytbcacebifpagpac
namespace Go.Proofs.Ytbcacebifpagpac
open Go.RowKit Go.Shelf
set_option linter.unusedVariables false
attribute [local go_sem] Oper.semAt_some
set_option maxRecDepth 100000 in
set_option maxHeartbeats 2000000 in
theorem WayOwn_any (p : Pl) (w : World) (hp : p.At w) :
    Calls Try.prog 42 #[p.val] w fun e w' => ∃ v, e = .returned (.tuple #[v, .int .i64 (planE p)]) ∧ w'.ownsRow w.heap.size 3 1 v (wayR p).length ((wayR p).map (Value.int .i64)) ∧ Below w.heap.size w w' := by
  have leb := hp.leb
  have capb0 := hp.capb
  have hB0 : Below w.heap.size w (w.alloc (.cells #[.slice p.ab p.nb p.cb, .slice p.sa p.ns p.cs] 25)) := (Below.refl w.heap.size w).alloc (Nat.le_refl _) _
  obtain ⟨i1, hj, hy0, hy1, hy2⟩ := info_parts infoInt
  refine (callsIn_wide (n := 5)).1 ?_
  refine callsIn_of_wp_marks Try.func42 rfl trivial ?_ rfl
  simp only [Pl.val, Try.ntmps42, List.size_toArray, List.length_cons, List.length_nil, Nat.reduceAdd, Nat.reduceSub, Array.replicate_succ, Array.replicate_zero, List.push_toArray, List.append_toArray, List.nil_append, List.cons_append]
  by_cases h0 : planE p = 0
  · have HC : Calls Try.prog 26 #[p.val] (w.alloc (.cells #[.slice p.ab p.nb p.cb, .slice p.sa p.ns p.cs] 25)) fun e w' => e = .returned (.int .i64 0) ∧ Below (w.heap.size + 1) (w.alloc (.cells #[.slice p.ab p.nb p.cb, .slice p.sa p.ns p.cs] 25)) w' := by
      have := planCheck_any p _ (hp.below hB0)
      rw [h0] at this
      exact this.mono fun e w' h => ⟨h.1, by have k : Below _ _ w' := h.2; rwa [World.size_alloc] at k⟩
    have R := rightP h0
    have hnb := R.nb6
    have H0 : Hid (planE p = 0) := h0
    clear h0 R
    gi_wp2_with (first
      | (refine ⟨trivial, ?_⟩; gi_at_call 26; refine (callsIn_wide.2 HC).mono ?_; rintro e w1 ⟨rfl, hB⟩; have hsz := hB.size; have c0 : w1.cell? ⟨w.heap.size, 0, none⟩ = some (.slice p.ab p.nb p.cb) := (hB.cell (p := ⟨w.heap.size, 0, none⟩) (by simp)).trans (by simp); rw [World.size_alloc] at hsz)
      | (gi_at_make; refine wpListIn_make_own _ rfl _ _ 23 rfl (w.heap.size + 1) 3 i1 (.int .i64 0) 1 Try.underlying23 hj hy0 hy1 .i64 .i64 _ p.nb rfl rfl rfl (by rw [hy2]; omega) (by unfold maxLen; omega) (by omega) ?_; intro w2 hown2 hgrow2; have hB2 : Below (w.heap.size + 1) (w.alloc (.cells #[.slice p.ab p.nb p.cb, .slice p.sa p.ns p.cs] 25)) w2 := hB.grown hgrow2 (by omega) (by intro k hk; cases hk); have hsz2 := hB2.size; rw [World.size_alloc] at hsz2; have c0 : w2.cell? ⟨w.heap.size, 0, none⟩ = some (.slice p.ab p.nb p.cb) := (hB2.cell (p := ⟨w.heap.size, 0, none⟩) (by simp)).trans (by simp); have c1 : w2.cell? ⟨w.heap.size, 1, none⟩ = some (.slice p.sa p.ns p.cs) := (hB2.cell (p := ⟨w.heap.size, 1, none⟩) (by simp)).trans (by simp); have hlt2 : w.heap.size < w2.heap.size := by omega)
      | (refine ⟨trivial, ?_⟩; gi_at_call 86; refine (binsOf_in Fence.wide _ trivial rfl p true _).mono ?_; rintro e w' ⟨rfl, rfl⟩))
    obtain ⟨W3, hW3, s3, bO, hrow0, bF, cP, hB3⟩ : ∃ W3, ((w2.alloc (.cells #[(.slice (some ⟨w1.heap.size, 0, none⟩) 0 p.nb)] 23)).alloc (.cells #[.slice p.ab p.nb p.cb, .slice p.sa p.ns p.cs] 25)).alloc (.cells #[.bool true] 4) = W3 ∧ W3.heap.size = w2.heap.size + 3 ∧ _root_.Go.Boxed W3 w2.heap.size 23 (.slice (some ⟨w1.heap.size, 0, none⟩) 0 p.nb) ∧ W3.ownsRow (w.heap.size + 1) 3 1 (.slice (some ⟨w1.heap.size, 0, none⟩) 0 p.nb) 0 [] ∧ _root_.Go.Boxed W3 (w2.heap.size + 1 + 1) 4 (.bool true) ∧ W3.cell? ⟨w2.heap.size + 1, 0, none⟩ = some (.slice p.ab p.nb p.cb) ∧ Below (w.heap.size + 1) (w.alloc (.cells #[.slice p.ab p.nb p.cb, .slice p.sa p.ns p.cs] 25)) W3 := by
      refine ⟨_, rfl, by simp, ((_root_.Go.Boxed.new w2 23 _).alloc _).alloc _, ((hown2.alloc _).alloc _).alloc _, ?_, ?_, ((hB2.alloc hsz2 _).alloc (by simp; omega) _).alloc (by simp; omega) _⟩
      · have := _root_.Go.Boxed.new ((w2.alloc (.cells #[(.slice (some ⟨w1.heap.size, 0, none⟩) 0 p.nb)] 23)).alloc (.cells #[.slice p.ab p.nb p.cb, .slice p.sa p.ns p.cs] 25)) 4 (.bool true)
        rwa [World.size_alloc, World.size_alloc] at this
      · have := ((Blk.new (w2.alloc (.cells #[(.slice (some ⟨w1.heap.size, 0, none⟩) 0 p.nb)] 23)) #[.slice p.ab p.nb p.cb, .slice p.sa p.ns p.cs] 25).alloc (.cells #[.bool true] 4)).cell (j := 0) (by simp)
        rwa [World.size_alloc] at this
    have HP : Hid (∀ W', Below (w.heap.size + 1) (w.alloc (.cells #[.slice p.ab p.nb p.cb, .slice p.sa p.ns p.cs] 25)) W' → BinsAt W' p.ab p.nb p.zb) := fun W' h => (hp.bins.below hB0).below (show Below _ _ W' by rw [World.size_alloc]; exact h)
    rw [hW3]
    clear hB c0 c1 hown2 hgrow2 hW3
    refine wpIn_rangeFunc_ownG rfl (by decide) (gf := 113) (lb := #[.pointer (some ⟨w2.heap.size + 1, 0, none⟩), .pointer (some ⟨w2.heap.size + 1 + 1, 0, none⟩)]) rfl trivial (enters_of Try.func113 (by kernel_rfl) rfl)
      (binsOf_stops Fence.wide _ trivial rfl (by decide) (w2.heap.size + 1) (w2.heap.size + 1 + 1) (w.heap.size + 1) p true W3 (by omega) (by omega) (by omega) cP bF.cell leb capb0 (fun W' h => HP.out W' (hB3.trans h))) keepsB_t (keepsB_b (by omega) (by omega)) (Below.refl _ _) (fun _ => rfl)
      (fun pre W => (∃ v, _root_.Go.Boxed W w2.heap.size 23 v ∧ W.ownsRow (w.heap.size + 1) 3 1 v pre.length (pre.map (Value.int .i64)) ∧ True) ∧ _root_.Go.Boxed W (w2.heap.size + 1 + 1) 4 (.bool true) ∧ Below (w.heap.size + 1) (w.alloc (.cells #[.slice p.ab p.nb p.cb, .slice p.sa p.ns p.cs] 25)) W)
      (fun _ _ _ => False)
      (OwnFrom.and (Own.from (holdsRow_own (w.heap.size + 1) w2.heap.size 23 3 1 (fun pre : List Int => pre.length) (fun pre => pre.map (Value.int .i64)) (fun _ _ => True)) _) (OwnFrom.and (Own.from (boxed_own _ _ _) _) (ownFrom_below (by simp) (by omega))))
      (fun _ _ _ _ _ hs _ _ => hs)
      ⟨⟨_, bO, hrow0, trivial⟩, bF, hB3⟩
      (fun x => { tmps := #[.agg #[.slice p.ab p.nb p.cb, .slice p.sa p.ns p.cs], .pointer (some ⟨w.heap.size, 0, none⟩), .slice none 0 0, .int .i64 0, .int .i64 0, .pointer (some ⟨w2.heap.size, 0, none⟩), .int .i64 x, undef, .agg #[.slice p.ab p.nb p.cb, .slice p.sa p.ns p.cs], .int .i64 0, .int .i64 0, .bool false, undef, .pointer (some ⟨w.heap.size, 0, none⟩), .slice p.ab p.nb p.cb, .int .i64 p.nb, (.slice (some ⟨w1.heap.size, 0, none⟩) 0 p.nb), .agg #[.slice p.ab p.nb p.cb, .slice p.sa p.ns p.cs], .func (.func 113) #[] #[.pointer (some ⟨w2.heap.size + 1, 0, none⟩), .pointer (some ⟨w2.heap.size + 1 + 1, 0, none⟩)], .int .i64 x, undef, undef, undef, undef, undef, undef, undef, undef, undef, undef, undef, undef], defers := [] }) ?assign ?body ?done ?stop
    case assign =>
      intro l x W K hK
      gi_wp2
      exact hK
    case body =>
      rintro l pre x W ⟨⟨v, hv, hrow, -⟩, hbf, hBB⟩ hlt
      have hc := hv.cell
      gi_wp2_with (gi_at_builtin; refine wpListIn_append_own _ rfl _ _ 23 rfl (w.heap.size + 1) 3 i1 (.int .i64 0) 1 8 Try.underlying23 hj hy0 hy1 hy2 rfl (by decide) _ _ _ rfl (hrow.alloc _) ⟨W.heap.size, 0, none⟩ 1 1 [.int .i64 x] rfl rfl (cell_one_new _ _ _) (by simp [Value.oneCell']) (by unfold maxLen; omega) (by omega) (by have := hBB.size; simp at this ⊢; omega) ?_; intro v' w5 hown' hgrow _; obtain ⟨g', cap', rfl⟩ := ownsRow_succ hown'; obtain ⟨hv1, hv2, hr2, hk2, hb2⟩ := hv.appended (by decide) hrow (by have := hBB.size; simpa using this) hsz2 hown' hgrow; have hc1 := hv1.cell; have hf1 := hv1.frozen; have hF5 := (hbf.alloc _).kept hgrow (hbf.not_row (by decide) hrow))
      refine ⟨hk2.from _, ⟨hb2, fun u hu => ?_⟩, ⟨_, hv2, by simpa using hr2, trivial⟩, hF5.other (by omega) _, hBB.trans hb2⟩
      rw [hbf.cell] at hu
      cases hu
      exact (hF5.other (by omega) _).cell
    case done =>
      rintro D ys W4 hD rfl ⟨⟨v, hv, hrow, -⟩, -, hBB⟩ hK
      have c0 : W4.cell? ⟨w.heap.size, 0, none⟩ = some (.slice p.ab p.nb p.cb) := (hBB.cell (p := ⟨w.heap.size, 0, none⟩) (by simp)).trans (by simp)
      have c1 : W4.cell? ⟨w.heap.size, 1, none⟩ = some (.slice p.sa p.ns p.cs) := (hBB.cell (p := ⟨w.heap.size, 1, none⟩) (by simp)).trans (by simp)
      have hsz4 : w.heap.size < W4.heap.size := by have := hBB.size; simp at this; omega
      gi_wp2_with (refine ⟨trivial, ?_⟩; gi_at_call 86; refine (binsOf_in Fence.wide _ trivial rfl p false _).mono ?_; rintro e w' ⟨rfl, rfl⟩)
      have hsB := hv.lt
      obtain ⟨W5, hW5, s5, bO, hrow5, bF, cP, hB5, hK5⟩ : ∃ W5, (W4.alloc (.cells #[.slice p.ab p.nb p.cb, .slice p.sa p.ns p.cs] 25)).alloc (.cells #[.bool false] 4) = W5 ∧ W5.heap.size = W4.heap.size + 2 ∧ _root_.Go.Boxed W5 w2.heap.size 23 v ∧ W5.ownsRow (w.heap.size + 1) 3 1 v (frL p true p.nb).length ((frL p true p.nb).map (Value.int .i64)) ∧ _root_.Go.Boxed W5 (W4.heap.size + 1) 4 (.bool false) ∧ W5.cell? ⟨W4.heap.size, 0, none⟩ = some (.slice p.ab p.nb p.cb) ∧ Below (w.heap.size + 1) (w.alloc (.cells #[.slice p.ab p.nb p.cb, .slice p.sa p.ns p.cs] 25)) W5 ∧ W5.heap[D]? = some (.deferred (some [])) := by
        refine ⟨_, rfl, by simp, (hv.alloc _).alloc _, (hrow.alloc _).alloc _, ?_, ?_, (hBB.alloc (by omega) _).alloc (by simp; omega) _, ?_⟩
        · have := _root_.Go.Boxed.new (W4.alloc (.cells #[.slice p.ab p.nb p.cb, .slice p.sa p.ns p.cs] 25)) 4 (.bool false)
          rwa [World.size_alloc] at this
        · exact ((Blk.new W4 #[.slice p.ab p.nb p.cb, .slice p.sa p.ns p.cs] 25).alloc (.cells #[.bool false] 4)).cell (j := 0) (by simp)
        · have hD4 := (Array.getElem?_eq_some_iff.1 hK).1
          exact ((((Below.refl W4.heap.size W4).alloc (Nat.le_refl _) _).alloc (by simp) _).block D hD4).trans hK
      have hD4 := (Array.getElem?_eq_some_iff.1 hK).1
      have hfl := frL_two p p.nb
      rw [hW5]
      clear hv hrow hBB hK c0 c1 hW5 hB3
      refine wpIn_rangeFunc_ownG rfl (by decide) (gf := 113) (lb := #[.pointer (some ⟨W4.heap.size, 0, none⟩), .pointer (some ⟨W4.heap.size + 1, 0, none⟩)]) rfl trivial (enters_of Try.func113 (by kernel_rfl) rfl)
        (binsOf_stops Fence.wide _ trivial rfl (by decide) W4.heap.size (W4.heap.size + 1) (w.heap.size + 1) p false W5 (by omega) (by omega) (by omega) cP bF.cell leb capb0 (fun W' h => HP.out W' (hB5.trans h))) keepsB_t (keepsB_b (by omega) (by omega)) (Below.refl _ _) (fun _ => rfl)
        (fun pre W => (∃ v, _root_.Go.Boxed W w2.heap.size 23 v ∧ W.ownsRow (w.heap.size + 1) 3 1 v (frL p true p.nb ++ pre).length ((frL p true p.nb ++ pre).map (Value.int .i64)) ∧ True) ∧ _root_.Go.Boxed W (W4.heap.size + 1) 4 (.bool false) ∧ Below (w.heap.size + 1) (w.alloc (.cells #[.slice p.ab p.nb p.cb, .slice p.sa p.ns p.cs] 25)) W ∧ W.heap[D]? = some (.deferred (some [])))
        (fun _ _ _ => False)
        (OwnFrom.and (Own.from (holdsRow_own (w.heap.size + 1) w2.heap.size 23 3 1 (fun pre : List Int => (frL p true p.nb ++ pre).length) (fun pre => (frL p true p.nb ++ pre).map (Value.int .i64)) (fun _ _ => True)) _) (OwnFrom.and (Own.from (boxed_own _ _ _) _) (OwnFrom.and (ownFrom_below (by simp) (by omega)) (fun s A B row hs hg hr => (hg.block D (Array.getElem?_eq_some_iff.1 hs).1 (fun e => by have := (hr D e.symm).1; omega)).trans hs))))
        (fun _ _ _ _ _ hs _ _ => hs)
        ⟨⟨_, bO, by simpa using hrow5, trivial⟩, bF, hB5, hK5⟩
        (fun x => { tmps := #[.agg #[.slice p.ab p.nb p.cb, .slice p.sa p.ns p.cs], .pointer (some ⟨w.heap.size, 0, none⟩), .slice none 0 0, .int .i64 0, .int .i64 0, .pointer (some ⟨w2.heap.size, 0, none⟩), undef, .int .i64 x, .agg #[.slice p.ab p.nb p.cb, .slice p.sa p.ns p.cs], .int .i64 0, .int .i64 0, .bool false, undef, .pointer (some ⟨w.heap.size, 0, none⟩), .slice p.ab p.nb p.cb, .int .i64 p.nb, (.slice (some ⟨w1.heap.size, 0, none⟩) 0 p.nb), .agg #[.slice p.ab p.nb p.cb, .slice p.sa p.ns p.cs], .func (.func 113) #[] #[.pointer (some ⟨w2.heap.size + 1, 0, none⟩), .pointer (some ⟨w2.heap.size + 1 + 1, 0, none⟩)], undef, undef, undef, undef, undef, .agg #[.slice p.ab p.nb p.cb, .slice p.sa p.ns p.cs], .func (.func 113) #[] #[.pointer (some ⟨W4.heap.size, 0, none⟩), .pointer (some ⟨W4.heap.size + 1, 0, none⟩)], .int .i64 x, undef, undef, undef, undef, undef], defers := [] }) ?assign2 ?body2 ?done2 ?stop2
      case assign2 =>
        intro l x W K hK
        gi_wp2
        exact hK
      case body2 =>
        rintro l pre x W ⟨⟨v, hv, hrow, -⟩, hbf, hBB, hKD⟩ hlt
        have hc := hv.cell
        have hll : (frL p true p.nb ++ pre).length ≤ 2 * p.nb := by rw [List.length_append]; omega
        gi_wp2_with (gi_at_builtin; refine wpListIn_append_own _ rfl _ _ 23 rfl (w.heap.size + 1) 3 i1 (.int .i64 0) 1 8 Try.underlying23 hj hy0 hy1 hy2 rfl (by decide) _ _ _ rfl (hrow.alloc _) ⟨W.heap.size, 0, none⟩ 1 1 [.int .i64 x] rfl rfl (cell_one_new _ _ _) (by simp [Value.oneCell']) (by unfold maxLen; omega) (by omega) (by have := hBB.size; simp at this ⊢; omega) ?_; intro v' w5 hown' hgrow _; obtain ⟨g', cap', rfl⟩ := ownsRow_succ hown'; obtain ⟨hv1, hv2, hr2, hk2, hb2⟩ := hv.appended (by decide) hrow (by have := hBB.size; simpa using this) hsz2 hown' hgrow; have hc1 := hv1.cell; have hf1 := hv1.frozen; have hF5 := (hbf.alloc _).kept hgrow (hbf.not_row (by decide) hrow))
        simp only [List.length_append] at hv2 hr2 hk2 hb2
        refine ⟨hk2.from _, ⟨hb2, fun u hu => ?_⟩, ⟨_, hv2, by simpa [Nat.add_assoc] using hr2, trivial⟩, hF5.other (by omega) _, hBB.trans hb2, hk2.same D _ hKD rfl⟩
        rw [hbf.cell] at hu
        cases hu
        exact (hF5.other (by omega) _).cell
      case done2 =>
        rintro D2 ys W hD2 rfl ⟨⟨v, hv, hrow, -⟩, -, hBB, hK1⟩ hK2
        have hc := hv.cell
        gi_wp2
        refine ⟨by simp, .inl ⟨_, _, rfl, run_takeDeferred hK2, ?_⟩⟩
        have hne : D ≠ D2 := by omega
        have hK1' : (W.putObj D2 (.deferred none)).heap[D]? = some (.deferred (some [])) := ((grownBy_putObj' W D2 (.deferred none)).block D (Array.getElem?_eq_some_iff.1 hK1).1 (fun e => hne (by cases e; rfl))).trans hK1
        refine ⟨by simp, .inl ⟨_, _, rfl, run_takeDeferred hK1', ?_⟩⟩
        have hr2 := ownsRow_putObj (ownsRow_putObj hrow (.deferred none) hK2 rfl) (.deferred none) hK1' rfl
        have hb1 : Below (w.heap.size + 1) (w.alloc (.cells #[.slice p.ab p.nb p.cb, .slice p.sa p.ns p.cs] 25)) (W.putObj D2 (.deferred none)) := hBB.trans (belowK_b (w := W5) (by omega) W D2 _ _ hD2 hK2 rfl rfl)
        have hb2 := hb1.trans (belowK_b (w := W3) (by omega) (W.putObj D2 (.deferred none)) D _ (.deferred none) hD hK1' rfl rfl)
        rw [H0.out, wayR_yes H0.out]
        exact ⟨_, results_tmp2 rfl _ _ _, _, rfl, owns_low hr2 (Nat.le_succ _), hB0.trans (hb2.mono (by omega))⟩
      case stop2 =>
        rintro D c pre W _ _ h _
        exact h.elim
    case stop =>
      rintro D c pre W _ _ h _
      exact h.elim
  · gi_wp2_with (refine ⟨trivial, ?_⟩; gi_at_call 26; refine (callsIn_wide.2 (planCheck_any p _ (hp.below hB0))).mono ?_; rintro e w1 ⟨rfl, hB⟩)
    rw [wayR_no h0]
    exact ⟨_, results_tmp2 rfl _ _ _, _, rfl, World.ownsRow_nil _ _ _ _, hB0.trans (hB.mono (by simp))⟩
end Go.Proofs.Ytbcacebifpagpac
namespace Go.Proofs.Ytbcacebifpagpac
open Go.RowKit Go.Shelf Go.Sort
set_option linter.unusedVariables false
theorem Take1_any (B : Nat) (x but : Int) (w : World) (hB : B < w.heap.size) (c : w.cell? ⟨B, 0, none⟩ = some (.int .i64 but)) :
    Calls Try.prog 44 #[.int .i64 x, .pointer (some ⟨B, 0, none⟩)] w fun e w' => e = .returned (.bool (x == but)) ∧ Below w.heap.size w w' := by
  go_enter Try.func44, Try.ntmps44
  go_wp2_with fail
  go_ret
  exact ⟨rfl, Below.refl _ _⟩
def TakeInv (s : St) (o l : Nat) (n : Int) (av : Int → Int) (F : List Int) (A BX BL g k : Nat) (wk : World) : Prop :=
  ∃ x : St, Took s o l n (Tk.go av n (F.take k)) x ∧ OwnS A wk x ∧ Blk wk BX 31 7 (fun j => x.cells.getD j default) ∧ Blk wk g 3 F.length (fun j => .int .i64 (F.getD j 0)) ∧ (x.os.z o).ls.a = some ⟨BL, 0, none⟩
theorem take_more {F : List Int} {k : Nat} (hk : k < F.length) : F.take (k + 1) = F.take k ++ [F.getD k 0] := by
  rw [List.take_add_one]
  simp [List.getD, List.getElem?_eq_getElem hk]
theorem getD_mem {F : List Int} {k : Nat} (hk : k < F.length) : F.getD k 0 ∈ F := by
  simp [List.getD, List.getElem?_eq_getElem hk]
theorem avail_okA {p : Pl} {s : St} {b g : Nat} (h : stateE p s = 0) (hb : b < p.nb) (hg : g < p.ns) : availE p s b g = 0 ∧ availV p s b g = availZ s b g := by
  have e : availE p s b g = 0 := by unfold availE; rw [if_pos h, inB_mk (by omega), inB_mk (by omega)]; rfl
  exact ⟨e, by unfold availV; rw [if_pos e]; rfl⟩
theorem avail_bdA {p : Pl} {s : St} {b g : Nat} (r : RightT p s) (hb : b < p.nb) (hg : g < p.ns) : 0 ≤ availZ s b g ∧ availZ s b g ≤ 200 := by
  have f := r.fm
  refine ⟨(goods_no (r.goods g hg)).2 b hb, ?_⟩
  have h1 := f.sh.num b (by rw [f.sh.n]; exact hb) g hg
  have h2 := (heldTo_bd (s := s) (b := b) (g := g) f.holdN).1
  have h3 := (fromTo_bd (s := s) (b := b) (g := g) f.moveN).1
  unfold availZ
  omega
set_option maxRecDepth 100000 in
set_option maxHeartbeats 8000000 in
theorem Take_any (p : Pl) (s : St) (order line n but : Int) (w : World) (hp : p.At w) (hs : s.At w) :
    Calls Try.prog 15 #[p.val, s.val, .int .i64 order, .int .i64 line, .int .i64 n, .int .i64 but] w fun e w' => ∃ x : St, e = .returned (.tuple #[x.val, .int .i64 (allocL p s order line n but), .int .i64 (allocE p s order line n but)]) ∧ x.At w' ∧ AllocOK p s order line n but x ∧ (allocE p s order line n but = 0 → OwnS w.heap.size w' x) ∧ Below w.heap.size w w' := by
  obtain ⟨W0, hW, hWB, X0, K0, Z0⟩ : ∃ W, ((((w.alloc (.cells #[.slice p.ab p.nb p.cb, .slice p.sa p.ns p.cs] 25)).alloc (.cells s.cells 31)).alloc (.cells #[.int .i64 but] 3)).alloc (.cells #[.slice .none 0 0, .slice .none 0 0, .slice .none 0 0, .slice .none 0 0, .slice .none 0 0, .slice .none 0 0, .slice .none 0 0] 31)) = W ∧ Below w.heap.size w W ∧ Boxes W w.heap.size (w.heap.size + 1) p s ∧ Blk W (w.heap.size + 2) 3 1 (fun _ => .int .i64 but) ∧ Blk W (w.heap.size + 3) 31 7 (fun _ => .slice .none 0 0) :=
    ⟨_, rfl, ((two_below _ _ _).alloc (by simp; omega) _).alloc (by simp; omega) _, ((boxes_new w p s _ _).below ((Below.refl _ _).alloc (Nat.le_refl _) _)).below ((Below.refl _ _).alloc (Nat.le_refl _) _), ((Blk.mk' (cur := #[.int .i64 but]) (by simp) rfl).congr (fun j hj => by match j, hj with | 0, _ => rfl)).alloc _, (Blk.mk' (cur := #[.slice .none 0 0, .slice .none 0 0, .slice .none 0 0, .slice .none 0 0, .slice .none 0 0, .slice .none 0 0, .slice .none 0 0]) (by simp) rfl).congr (fun j hj => by match j, hj with | 0, _ => rfl | 1, _ => rfl | 2, _ => rfl | 3, _ => rfl | 4, _ => rfl | 5, _ => rfl | 6, _ => rfl)⟩
  have HC : Hid (∀ wk, Below W0.heap.size W0 wk → Boxes wk w.heap.size (w.heap.size + 1) p s ∧ p.At wk ∧ s.At wk ∧ Below w.heap.size w wk ∧ Blk wk (w.heap.size + 3) 31 7 (fun _ => .slice .none 0 0) ∧ Blk wk (w.heap.size + 2) 3 1 (fun _ => .int .i64 but)) := fun wk h => ⟨X0.below h, (hp.below hWB).below h, (hs.below hWB).below h, hWB.trans (h.mono hWB.size), Z0.below h, K0.below h⟩
  have HW : Hid ((((w.alloc (.cells #[.slice p.ab p.nb p.cb, .slice p.sa p.ns p.cs] 25)).alloc (.cells #[.slice s.on.a s.on.n s.on.c, .slice s.os.a s.os.n s.os.c, .slice s.hs.a s.hs.n s.hs.c, .slice s.ms.a s.ms.n s.ms.c, .slice s.si.a s.si.n s.si.c, .slice s.so.a s.so.n s.so.c, .slice s.sf.a s.sf.n s.sf.c] 31)).alloc (.cells #[.int .i64 but] 3)).alloc (.cells #[.slice .none 0 0, .slice .none 0 0, .slice .none 0 0, .slice .none 0 0, .slice .none 0 0, .slice .none 0 0, .slice .none 0 0] 31) = W0) := hW
  have leb := hp.leb
  have capb0 := hp.capb
  have capb := capb0
  have les := hp.les
  have caps := hp.caps
  have zlt0 := Z0.lt
  unfold maxLen at capb caps
  clear hW X0 Z0 K0 hp hs
  unfold Pl.val St.val
  go_enter Try.func15, Try.ntmps15
  go_wp2_with fail
  rw [HW.out]
  obtain ⟨X, hpk, hsk, hBw, hz, kb⟩ := HC.out W0 (Below.refl _ _)
  refine (allocCheck_any p s order line n but W0 hpk hsk).mono ?_
  rintro e w1 ⟨rfl, hB⟩
  clear X hpk hsk hBw hz kb HW
  obtain ⟨⟨⟨l1, d0, d1⟩, l2, c0, c1, c2, c3, c4, c5, c6⟩, hpk, hsk, hBw, hz, kb⟩ := HC.out w1 hB
  by_cases hE : allocE p s order line n but = 0
  · have HE : Hid (allocE p s order line n but = 0) := hE
    have HI : Hid (AllocIn p s order line n but) := allocIn hE
    rw [hE]
    clear hE
    have HRT : Hid (RightT p s) := rightT HI.out.st
    have HP0 : Hid (planE p = 0) := (rightS HRT.out.fm.sh0).1
    obtain ⟨o, rfl⟩ := Int.eq_ofNat_of_zero_le HI.out.o0
    obtain ⟨l, rfl⟩ := Int.eq_ofNat_of_zero_le HI.out.l0
    have ho : o < s.os.n := HI.out.on
    have hl : l < (s.os.z o).ls.n := HI.out.ln
    have nb1 := HRT.out.fm.sh.pl.nb1
    have nb6 := HRT.out.fm.sh.pl.nb6
    have HPK : Hid (p.At w1) := hpk
    clear hpk hsk c0 c1 c2 c3 c4 c5 c6 hBw hz
    go_wp2_with fail
    refine (WayOwn_any p w1 HPK.out).mono ?_
    rintro e w2 ⟨v, rfl, hown, hB2⟩
    clear l1 d0 d1 l2 HPK
    rw [wayR_yes HP0.out] at hown
    have HWL : Hid ((wayL p).length = p.nb) := way_len p
    have hv : v ≠ .slice none 0 0 := by
      rintro rfl
      rcases hown.2 with ⟨_, h0⟩ | ⟨g2, cap2, cur2, h, _⟩
      · have := HWL.out; omega
      · cases h
    obtain ⟨g, c, rfl, hc1, hc2, hg, hk⟩ := Blk.ofOwns hown hv
    have hk2 : Blk w2 g 3 (wayL p).length (fun j => .int .i64 ((wayL p).getD j 0)) := by
      have h := hk.less (m := (wayL p).length) (by omega)
      refine h.congr fun j hj => ?_
      simp [List.getD, List.getElem?_eq_getElem hj]
    have HDF : Hid (Calls Try.prog 43 #[.slice (some ⟨g, 0, none⟩) (wayL p).length c, .func (.func 44) #[] #[.pointer (some ⟨w.heap.size + 1 + 1, 0, none⟩)]] w2 fun e w' => e = .returned (.slice (some ⟨g, 0, none⟩) (wayT p but).length c) ∧ Blk w' g 3 (wayT p but).length (fun j => .int .i64 ((wayT p but).getD j 0)) ∧ Below w1.heap.size w2 w') :=
      DelI_any 44 #[.pointer (some ⟨w.heap.size + 1 + 1, 0, none⟩)] (fun x => x == but) w1.heap.size g c (wayL p) w2 hg hB2.size hc1 hc2 hk2 (enters_of Try.func44 (by kernel_rfl) rfl) (fun x wz hz => by
        have hlt := kb.lt
        exact Take1_any (w.heap.size + 1 + 1) x but wz (Nat.lt_of_lt_of_le hlt (Nat.le_trans hB2.size hz.size)) ((hz.cell (p := ⟨w.heap.size + 2, 0, none⟩) hlt).trans ((hB2.cell (p := ⟨w.heap.size + 2, 0, none⟩) hlt).trans (kb.cell (j := 0) (by decide)))))
    rw [HP0.out]
    clear hown hv hk hk2
    go_wp2_with fail
    refine HDF.out.mono ?_
    rintro e w3 ⟨rfl, hk3, hB3⟩
    have hB13 := hB2.trans hB3
    have hB' := hB.trans (hB13.mono hB.size)
    have q13 := hB13.size
    have glt := hk3.lt
    have HK3 : Hid (Blk w3 g 3 (wayT p but).length (fun j => .int .i64 ((wayT p but).getD j 0))) := hk3
    have hF6 : (wayT p but).length ≤ 6 := by
      have := HWL.out
      have := List.length_filter_le (fun b => !(b == but)) (wayL p)
      unfold wayT
      omega
    have hFc : (wayT p but).length ≤ c := by
      have := List.length_filter_le (fun b => !(b == but)) (wayL p)
      unfold wayT
      omega
    clear HDF hk3 kb hB2 hB3 hB13 hB
    obtain ⟨⟨⟨l1, d0, d1⟩, l2, c0, c1, c2, c3, c4, c5, c6⟩, hpk, hsk, hBw, hz, kb⟩ := HC.out w3 hB'
    have HCS : Hid _ := copyState_any p s w3 hsk HRT.out.fm
    clear hpk hsk hBw hz kb
    go_wp2_with fail
    refine Calls.mono HCS.out ?_
    rintro e w4 ⟨x0, rfl, hsame, hown, hB4⟩
    clear HCS l1 d0 d1 l2 c0 c1 c2 c3 c4 c5 c6
    have q4 := hB4.size
    obtain ⟨W5, hW5, hWB5, K5⟩ : ∃ W, w4.alloc (.cells #[.slice x0.on.a x0.on.n x0.on.c, .slice x0.os.a x0.os.n x0.os.c, .slice x0.hs.a x0.hs.n x0.hs.c, .slice x0.ms.a x0.ms.n x0.ms.c, .slice x0.si.a x0.si.n x0.si.c, .slice x0.so.a x0.so.n x0.so.c, .slice x0.sf.a x0.sf.n x0.sf.c] 31) = W ∧ Below w4.heap.size w4 W ∧ Blk W w4.heap.size 31 7 (fun j => x0.cells.getD j default) := ⟨_, rfl, (Below.refl _ _).alloc (Nat.le_refl _) _, Blk.mk' rfl rfl⟩
    have HW5 : Hid (w4.alloc (.cells #[.slice x0.on.a x0.on.n x0.on.c, .slice x0.os.a x0.os.n x0.os.c, .slice x0.hs.a x0.hs.n x0.hs.c, .slice x0.ms.a x0.ms.n x0.ms.c, .slice x0.si.a x0.si.n x0.si.c, .slice x0.so.a x0.so.n x0.so.c, .slice x0.sf.a x0.sf.n x0.sf.c] 31) = W5) := hW5
    have hB35 := hB4.trans (hWB5.mono hB4.size)
    have hB5 := hB'.trans (hB35.mono hB'.size)
    have hown5 := OwnS.below hown hWB5
    have hkF := HK3.out.below hB35
    have ho0 : o < x0.os.n := by rw [hsame.os.1]; exact ho
    have e0 := hsame.os.2 o ho0
    have hl0 : l < (x0.os.z o).ls.n := by rw [e0.2.1]; exact hl
    obtain ⟨gO, BL, f1, f2, f3, f4, f5, f6, f7, f8, f9, f10, f11, f12, f13, f14⟩ := hown5.lineCell ho0 hl0
    have s1 : W5.cell? ⟨w4.heap.size, 1, none⟩ = some (.slice x0.os.a x0.os.n x0.os.c) := K5.cell (j := 1) (by decide)
    have s2 := K5.lt
    have v1 := hown5.os.le
    have v2 := hown5.os.cap
    rw [f1] at s1
    have HINV : Hid (TakeInv s o l n (fun b => availZ s b.toNat (lineAt s o l).o.toNat) (wayT p but) w3.heap.size w4.heap.size BL g 0 W5) := ⟨x0, by rw [List.take_zero]; exact Took.start HRT.out.fm.hold hsame, hown5, K5, hkF, f5⟩
    have qo : (0 : Int) ≤ (o : Int) := by omega
    have ql : (0 : Int) ≤ (l : Int) := by omega
    have HB5 : Hid (Below W0.heap.size W0 W5 ∧ W0.heap.size ≤ w3.heap.size ∧ w3.heap.size ≤ w4.heap.size ∧ g < w3.heap.size ∧ w3.heap.size ≤ BL) := ⟨hB5, hB'.size, q4, glt, f6⟩
    rw [← HW5.out] at s1 s2 f3 f4 f7
    unfold maxLen at v2 f9
    clear hW5 hown hown5 hkF K5 hB4 hWB5 hB35 hB5 f1 f2 f5 f6 f10 f11 f12 f13 f14 e0 hsame HK3
    simp only [St.val]
    go_wp2_with fail
    rw [HW5.out]
    clear s1 s2 f3 f4 f7 HW5 hB' q4 q13 glt v1 v2 f8 f9
    generalize x0.os.n = XN at *
    go_loopw [4, 56] (fun nv kv wk => ∃ k : Nat, k ≤ (wayT p but).length ∧ kv = .int .i64 k ∧ nv = .int .i64 (Tk.go (fun b => availZ s b.toNat (lineAt s o l).o.toNat) n ((wayT p but).take k)).left ∧ Hid (TakeInv s o l n (fun b => availZ s b.toNat (lineAt s o l).o.toNat) (wayT p but) w3.heap.size w4.heap.size BL g k wk) ∧ Hid (Below W0.heap.size W0 wk)) (fun _ kv _ => (wayT p but).length - (intOf kv).toNat)
    case atStart => exact ⟨0, Nat.zero_le _, rfl, rfl, HINV, HB5.out.1⟩
    case round =>
      clear HINV
      obtain ⟨k, hk, rfl, rfl, HV, HBk⟩ := hrel
      have HTK : Hid (TkOK (fun b => availZ s b.toNat (lineAt s o l).o.toNat) n ((wayT p but).take k) (Tk.go (fun b => availZ s b.toNat (lineAt s o l).o.toNat) n ((wayT p but).take k))) := HI.out.tk ((wayT_apart p but).sublist (List.take_sublist _ _)) (fun x hx => HI.out.way x (List.mem_of_mem_take hx))
      have H31EP : Hid (k < (wayT p but).length → Tk.go (fun b => availZ s b.toNat (lineAt s o l).o.toNat) n ((wayT p but).take (k + 1)) = (Tk.go (fun b => availZ s b.toNat (lineAt s o l).o.toNat) n ((wayT p but).take k)).step (fun b => availZ s b.toNat (lineAt s o l).o.toNat) ((wayT p but).getD k 0)) := fun h => by rw [take_more h, Tk.go_more]
      have HEND : Hid (k = (wayT p but).length → Tk.go (fun b => availZ s b.toNat (lineAt s o l).o.toNat) n ((wayT p but).take k) = tkOf p s (lineAt s o l).o n but) := fun h => by rw [h, List.take_length]; rfl
      obtain ⟨x, hT, hO, hK, hF, hla⟩ := HV.out
      have HX : Hid (Took s o l n (Tk.go (fun b => availZ s b.toNat (lineAt s o l).o.toNat) n ((wayT p but).take k)) x ∧ OwnS w3.heap.size wr x ∧ Blk wr w4.heap.size 31 7 (fun j => x.cells.getD j default) ∧ Blk wr g 3 (wayT p but).length (fun j => .int .i64 ((wayT p but).getD j 0)) ∧ (x.os.z o).ls.a = some ⟨BL, 0, none⟩) := ⟨hT, hO, hK, hF, hla⟩
      obtain ⟨T, hTd⟩ : ∃ T, Tk.go (fun b => availZ s b.toNat (lineAt s o l).o.toNat) n ((wayT p but).take k) = T := ⟨_, rfl⟩
      rw [hTd] at HTK H31EP HEND HX ⊢
      clear hT hO hK hF hla HV hTd
      have tl0 := HTK.out.left0
      have tln := HTK.out.leftn
      have nn2 := HI.out.n2
      by_cases hlt : k < (wayT p but).length
      · have HS1 : Hid _ := H31EP.out hlt
        obtain ⟨hbm0, hbm1⟩ := HI.out.way _ (getD_mem hlt)
        have z0 := HX.out.2.2.2.1.cell (j := k) hlt
        have z1 := HX.out.2.2.2.1.lt
        obtain ⟨bv, hbv⟩ := Int.eq_ofNat_of_zero_le hbm0
        have HBV : Hid ((wayT p but).getD k 0 = (bv : Int)) := hbv
        rw [hbv] at z0 hbm1
        have hbvn : bv < p.nb := by omega
        have hgd := HI.out.good
        obtain ⟨gd, hgv⟩ := Int.eq_ofNat_of_zero_le hgd.1
        have HGV : Hid ((lineAt s o l).o = (gd : Int)) := hgv
        have hgdn : gd < p.ns := by omega
        have HAVL : Hid (∀ w', p.At w' → s.At w' → Calls Try.prog 12 #[p.val, s.val, .int .i64 (bv : Int), .int .i64 (gd : Int)] w' fun e w'' => e = .returned (.tuple #[.int .i64 (availZ s bv gd), .int .i64 0]) ∧ Below w'.heap.size w' w'') := fun w' h1 h2 => by
          have h := Avail_any p s bv gd w' h1 h2
          rw [(avail_okA HI.out.st hbvn hgdn).1, (avail_okA HI.out.st hbvn hgdn).2] at h
          exact h
        have avb := avail_bdA HRT.out hbvn hgdn
        have HAV : Hid ((fun b : Int => availZ s b.toNat (lineAt s o l).o.toNat) ((wayT p but).getD k 0) = availZ s bv gd) := by
          show availZ s ((wayT p but).getD k 0).toNat (lineAt s o l).o.toNat = _
          rw [hbv, hgv]
          rfl
        generalize hAVd : availZ s bv gd = AV at *
        clear hAVd
        have ho1 : o < x.os.n := by rw [HX.out.1.os.1]; exact ho
        have ex := HX.out.1.os.2 o ho1
        have hl1 : l < (x.os.z o).ls.n := by rw [ex.2.1]; exact hl
        obtain ⟨gO, BL', f1, f2, f3, f4, f5, f6, f7, f8, f9, f10, f11, f12, f13, f14⟩ := HX.out.2.1.lineCell ho1 hl1
        rw [HX.out.2.2.2.2] at f5
        simp only [Option.some.injEq, Addr.mk.injEq, and_true] at f5
        subst f5
        have hgx : ((x.os.z o).ls.z l).o = (gd : Int) := by
          rw [ex.2.2 l hl1, if_pos ⟨rfl, rfl⟩]
          exact hgv
        have hbx : ((x.os.z o).ls.z l).n = (lineAt s o l).n - (n - T.left) := by
          rw [ex.2.2 l hl1, if_pos ⟨rfl, rfl⟩]
          rfl
        have HBX : Hid (((x.os.z o).ls.z l).n = (lineAt s o l).n - (n - T.left)) := hbx
        have hbl := badLine_no (HRT.out.fm.line o ho l hl)
        have hbk0 : -1000 ≤ ((x.os.z o).ls.z l).n ∧ ((x.os.z o).ls.z l).n ≤ 1000 := by
          rw [hbx]
          have h1 : (lineAt s o l).n = ((s.os.z o).ls.z l).n := rfl
          rw [h1]
          omega
        rw [hgx] at f11
        obtain ⟨⟨⟨l1, d0, d1⟩, l2, c0, c1, c2, c3, c4, c5, c6⟩, hpk, hsk, hBw, hz, kb⟩ := HC.out wr HBk.out
        have HPS : Hid (p.At wr ∧ s.At wr) := ⟨hpk, hsk⟩
        have r0 : ∀ d os, (grow (redrawn wr d) os).cell? ⟨w.heap.size, 0, none⟩ = some (.slice p.ab p.nb p.cb) := fun d os => cell_regrown d0 d os
        have r1 : ∀ d os, (grow (redrawn wr d) os).cell? ⟨w.heap.size, 1, none⟩ = some (.slice p.sa p.ns p.cs) := fun d os => cell_regrown d1 d os
        have rs0 : ∀ d os, (grow (redrawn wr d) os).cell? ⟨w.heap.size + 1, 0, none⟩ = some (.slice s.on.a s.on.n s.on.c) := fun d os => cell_regrown c0 d os
        have rs1 : ∀ d os, (grow (redrawn wr d) os).cell? ⟨w.heap.size + 1, 1, none⟩ = some (.slice s.os.a s.os.n s.os.c) := fun d os => cell_regrown c1 d os
        have rs2 : ∀ d os, (grow (redrawn wr d) os).cell? ⟨w.heap.size + 1, 2, none⟩ = some (.slice s.hs.a s.hs.n s.hs.c) := fun d os => cell_regrown c2 d os
        have rs3 : ∀ d os, (grow (redrawn wr d) os).cell? ⟨w.heap.size + 1, 3, none⟩ = some (.slice s.ms.a s.ms.n s.ms.c) := fun d os => cell_regrown c3 d os
        have rs4 : ∀ d os, (grow (redrawn wr d) os).cell? ⟨w.heap.size + 1, 4, none⟩ = some (.slice s.si.a s.si.n s.si.c) := fun d os => cell_regrown c4 d os
        have rs5 : ∀ d os, (grow (redrawn wr d) os).cell? ⟨w.heap.size + 1, 5, none⟩ = some (.slice s.so.a s.so.n s.so.c) := fun d os => cell_regrown c5 d os
        have rs6 : ∀ d os, (grow (redrawn wr d) os).cell? ⟨w.heap.size + 1, 6, none⟩ = some (.slice s.sf.a s.sf.n s.sf.c) := fun d os => cell_regrown c6 d os
        have rl : ∀ d os, (grow (redrawn wr d) os).cell? ⟨BL, l * 4, none⟩ = some (.int .i64 (gd : Int)) := fun d os => cell_regrown f11 d os
        clear hbv hgv hgd hpk hsk hBw hz kb d0 d1 c0 c1 c2 c3 c4 c5 c6 l1 l2 f1 f2 f3 f4 f6 f8 f9 f10 f11 f12 f13 f14 ex hgx hbx hbl HEND hbm0 hbm1
        obtain ⟨BK, hBK⟩ : ∃ BK, ((x.os.z o).ls.z l).n = BK := ⟨_, rfl⟩
        have HBK : Hid (((x.os.z o).ls.z l).n = BK) := hBK
        rw [hBK] at hbk0
        clear hBK
        obtain ⟨N, hN⟩ : ∃ N, T.left = N := ⟨_, rfl⟩
        have HN : Hid (T.left = N) := hN
        rw [hN] at tl0 tln ⊢
        clear hN
        have q0 : (0 : Int) ≤ (k : Int) := by omega
        have HMZ : Hid (∀ m, min N AV = m → min T.left ((fun b : Int => availZ s b.toNat (lineAt s o l).o.toNat) ((wayT p but).getD k 0)) = m) := fun m h => by rw [HAV.out, HN.out]; exact h
        go_wp2_with fail
        refine wp_region_quiet_below (by kernel_rfl) (by kernel_rfl) ?_
        repeat (go_big_quiet_step ((go_at_call 12; exact Calls.regrown_of (HAVL.out _ (HPS.out.1.below (below_regrown _ _ _)) (HPS.out.2.below (below_regrown _ _ _))))))
        refine wpQuiet_nil ?_
        intro w9 hw9
        have hB9 : Below wr.heap.size wr w9 := by obtain ⟨⟨dq, osq⟩, hw''⟩ := hw9; subst hw''; exact below_regrown _ _ _
        clear hw9 r0 r1 rs0 rs1 rs2 rs3 rs4 rs5 rs6 rl HPS z0 z1 HAVL
        have HBk9 : Hid (Below W0.heap.size W0 w9) := HBk.out.trans (hB9.mono HBk.out.size)
        have HX9 : Hid (Took s o l n T x ∧ OwnS w3.heap.size w9 x ∧ Blk w9 w4.heap.size 31 7 (fun j => x.cells.getD j default) ∧ Blk w9 g 3 (wayT p but).length (fun j => .int .i64 ((wayT p but).getD j 0)) ∧ (x.os.z o).ls.a = some ⟨BL, 0, none⟩) := ⟨HX.out.1, OwnS.below HX.out.2.1 hB9, HX.out.2.2.1.below hB9, HX.out.2.2.2.1.below hB9, HX.out.2.2.2.2⟩
        clear hB9 HX HBk f7
        by_cases hm0 : min AV N = 0
        · have hm1 : min N AV = 0 := by omega
          have HNX : Hid (TakeInv s o l n (fun b => availZ s b.toNat (lineAt s o l).o.toNat) (wayT p but) w3.heap.size w4.heap.size BL g (k + 1) w9 ∧ (Tk.go (fun b => availZ s b.toNat (lineAt s o l).o.toNat) n ((wayT p but).take (k + 1))).left = N) := by
            refine ⟨⟨x, ?_, HX9.out.2⟩, ?_⟩
            · rw [HS1.out]
              exact HX9.out.1.stepZero (HMZ.out 0 hm1)
            · rw [HS1.out]
              show T.left - min T.left _ = N
              rw [HMZ.out 0 hm1, HN.out]
              omega
          go_wp2_with fail
          go_roundw
          case rel => exact ⟨k + 1, by omega, by go_num, by rw [HNX.out.2], HNX.out.1, HBk9⟩
          case measure => simp [intOf]; omega
        · obtain ⟨MV, hMV⟩ : ∃ MV, min AV N = MV := ⟨_, rfl⟩
          have HMV : Hid (min AV N = MV) := hMV
          have mv0 : 0 < MV := by omega
          have mv1 : MV ≤ N := by omega
          have mvd : (MV == 0) = false := by simp; omega
          have HM1 : Hid (min N AV = MV) := by show min N AV = MV; omega
          have HAE : Hid (addE x.hs.n x.hs.z (tookH o l bv MV) = 0) := by
            have h := HX9.out.1.addE (p := p) (order := o) (line := l) (but := but) HI.out (fun x hx => HI.out.way x (List.mem_of_mem_take hx)) HTK.out (b := (bv : Int)) ⟨by omega, by omega⟩ mv0 (by rw [HN.out]; exact mv1)
            exact h
          have KX := HX9.out.2.2.1
          have y2 : w9.cell? ⟨w4.heap.size, 2, none⟩ = some (.slice x.hs.a x.hs.n x.hs.c) := KX.cell (j := 2) (by decide)
          have y3 := KX.lt
          have HAD : Hid (Calls Try.prog 46 #[.slice x.hs.a x.hs.n x.hs.c, .agg #[.int .i64 (o : Int), .int .i64 (l : Int), .int .i64 (bv : Int), .int .i64 MV]] w9 fun e w' => ∃ s' : Hs, e = .returned (.tuple #[s'.val, .int .i64 0]) ∧ OwnH w9.heap.size 65 w' s' ∧ AddOK x.hs.n x.hs.z (tookH o l bv MV) s' ∧ Below w9.heap.size w9 w') := by
            have h := AddOwn_any x.hs (tookH o l bv MV) w9 HX9.out.2.1.hs.at
            rw [HAE.out] at h
            exact h
          clear KX hm0 HMV
          go_wp2_with fail
          refine HAD.out.mono ?_
          rintro e wa ⟨y, rfl, yown, yok, hBa⟩
          clear y2 y3 HAD hMV
          have q9 := HBk9.out.size
          have qa := hBa.size
          obtain ⟨b1, b2, b3, b4, b5⟩ := HB5.out
          have hOa := OwnS.below HX9.out.2.1 hBa
          have KA := HX9.out.2.2.1.below hBa
          have FA := HX9.out.2.2.2.1.below hBa
          have hBka := HBk9.out.trans (hBa.mono HBk9.out.size)
          have hlt9 := HX9.out.2.2.1.lt
          have ho1 : o < x.os.n := by rw [HX9.out.1.os.1]; exact ho
          have hOb := (hOa.withHolds (yown.mono (by omega))).box KA 2 (.slice y.a y.n y.c)
          have KB := KA.set 2 (.slice y.a y.n y.c)
          have FB := FA.other (a := ⟨w4.heap.size, 2, none⟩) (Blk.ne2 FA KA (by decide)) (.slice y.a y.n y.c)
          have hBb := hBka.setCell (p := ⟨w4.heap.size, 2, none⟩) (by show W0.heap.size ≤ w4.heap.size; omega) (.slice y.a y.n y.c)
          have hl1 : l < (x.os.z o).ls.n := by rw [(HX9.out.1.os.2 o ho1).2.1]; exact hl
          obtain ⟨gO, BL', f1, f2, f3, f4, f5, f6, f7, f8, f9, f10, f11, f12, f13, f14⟩ := hOb.lineCell (o := o) (l := l) ho1 hl1
          have f5' : (x.os.z o).ls.a = some ⟨BL', 0, none⟩ := f5
          rw [HX9.out.2.2.2.2] at f5'
          simp only [Option.some.injEq, Addr.mk.injEq, and_true] at f5'
          subst f5'
          have f14' : (wa.setCell ⟨w4.heap.size, 2, none⟩ (.slice y.a y.n y.c)).cell? ⟨BL, l * 4 + 3, none⟩ = some (.int .i64 ((x.os.z o).ls.z l).n) := f14
          rw [HBK.out] at f14'
          have g14 := f10 (l * 4 + 3)
          obtain ⟨B', hla', -, -, -, hlb⟩ := hOb.os.lines o ho1
          rw [f5] at hla'
          simp only [Option.some.injEq, Addr.mk.injEq, and_true] at hla'
          subst hla'
          have hOc := hOb.setLine (o := o) ho1 f5 l 3 (by decide) (BK - MV)
          have KC := KB.other (a := ⟨BL, l * 4 + 3, none⟩) (Blk.ne2 KB hlb (by decide)) (.int .i64 (BK - MV))
          have FC := FB.other (a := ⟨BL, l * 4 + 3, none⟩) (Blk.ne2 FB hlb (by decide)) (.int .i64 (BK - MV))
          have hBc := hBb.setCell (p := ⟨BL, l * 4 + 3, none⟩) (by show W0.heap.size ≤ BL; omega) (.int .i64 (BK - MV))
          have hTn := HX9.out.1.stepAdd (av := fun b => availZ s b.toNat (lineAt s o l).o.toNat) (order := o) (line := l) (b := (wayT p but).getD k 0) (m := MV) ho hl (HMZ.out MV HM1.out) (by rw [HBV.out]; exact HAE.out) (by rw [HBV.out]; exact yok)
          have HNX : Hid (TakeInv s o l n (fun b => availZ s b.toNat (lineAt s o l).o.toNat) (wayT p but) w3.heap.size w4.heap.size BL g (k + 1) ((wa.setCell ⟨w4.heap.size, 2, none⟩ (.slice y.a y.n y.c)).setCell ⟨BL, l * 4 + 3, none⟩ (.int .i64 (BK - MV))) ∧ (Tk.go (fun b => availZ s b.toNat (lineAt s o l).o.toNat) n ((wayT p but).take (k + 1))).left = N - MV ∧ Below W0.heap.size W0 ((wa.setCell ⟨w4.heap.size, 2, none⟩ (.slice y.a y.n y.c)).setCell ⟨BL, l * 4 + 3, none⟩ (.int .i64 (BK - MV)))) := by
            refine ⟨⟨withHolds (setLine x o l 3 (BK - MV)) y, ?_, hOc, KC.congr (fun j hj => by match j, hj with | 0, _ => rfl | 1, _ => rfl | 2, _ => rfl | 3, _ => rfl | 4, _ => rfl | 5, _ => rfl | 6, _ => rfl), FC, ?_⟩, ?_, hBc⟩
            · rw [HS1.out]
              have h := hTn
              rw [show ((x.os.z ((o : Nat) : Int).toNat).ls.z ((l : Nat) : Int).toNat).n = BK from HBK.out] at h
              exact h
            · exact ((setLine_n (s := x) (o := o) (l := l) (c := 3) (v := BK - MV) o).2.1).trans HX9.out.2.2.2.2
            · rw [HS1.out]
              show T.left - min T.left _ = N - MV
              rw [HMZ.out MV HM1.out, HN.out]
          have z1 := KA.lt
          have z2 := KA.frozen 2
          have z3 := KA.cell (j := 2) (by decide)
          clear hOa KA FA hBka hOb KB FB hBb f1 f2 f3 f4 f5 f6 f8 f9 f10 f11 f12 f13 f14 hlb hOc KC FC hBc hTn yown yok hBa HX9 HBk9 HTK HS1
          simp only [Hs.val]
          go_wp2_with fail
          go_roundw
          case rel => exact ⟨k + 1, by omega, by go_num, by rw [HNX.out.2.1], HNX.out.1, HNX.out.2.2⟩
          case measure => simp [intOf]; omega
      · have hkn : k = (wayT p but).length := by omega
        have HT : Hid (T = tkOf p s (lineAt s o l).o n but) := HEND.out hkn
        clear HEND
        have KX := HX.out.2.2.1
        obtain ⟨m1, p0, p1, p2, p3, p4, p5, p6⟩ := Boxed.of KX
        obtain ⟨-, -, -, hBw, hz, -⟩ := HC.out wr HBk.out
        have HZ : Hid (Below w.heap.size w wr ∧ Blk wr (w.heap.size + 3) 31 7 (fun _ => .slice .none 0 0)) := ⟨hBw, hz⟩
        have zl := hz.lt
        have zf0 := hz.frozen 0
        have zc0 := hz.cell (j := 0) (by decide)
        have zf1 := hz.frozen 1
        have zc1 := hz.cell (j := 1) (by decide)
        have zf2 := hz.frozen 2
        have zc2 := hz.cell (j := 2) (by decide)
        have zf3 := hz.frozen 3
        have zc3 := hz.cell (j := 3) (by decide)
        have zf4 := hz.frozen 4
        have zc4 := hz.cell (j := 4) (by decide)
        have zf5 := hz.frozen 5
        have zc5 := hz.cell (j := 5) (by decide)
        have zf6 := hz.frozen 6
        have zc6 := hz.cell (j := 6) (by decide)
        clear KX hBw hz
        go_wp2_with fail
        have KZ := set7_blk HZ.out.2 (.slice x.on.a x.on.n x.on.c) (.slice x.os.a x.os.n x.os.c) (.slice x.hs.a x.hs.n x.hs.c) (.slice x.ms.a x.ms.n x.ms.c) (.slice x.si.a x.si.n x.si.c) (.slice x.so.a x.so.n x.so.c) (.slice x.sf.a x.sf.n x.sf.c)
        have hbz := set7_below (b := w.heap.size + 3) HZ.out.1 (by omega) (.slice x.on.a x.on.n x.on.c) (.slice x.os.a x.os.n x.os.c) (.slice x.hs.a x.hs.n x.hs.c) (.slice x.ms.a x.ms.n x.ms.c) (.slice x.si.a x.si.n x.si.c) (.slice x.so.a x.so.n x.so.c) (.slice x.sf.a x.sf.n x.sf.c)
        have hOz := OwnS.set7 HX.out.2.1 HZ.out.2 (.slice x.on.a x.on.n x.on.c) (.slice x.os.a x.os.n x.os.c) (.slice x.hs.a x.hs.n x.hs.c) (.slice x.ms.a x.ms.n x.ms.c) (.slice x.si.a x.si.n x.si.c) (.slice x.so.a x.so.n x.so.c) (.slice x.sf.a x.sf.n x.sf.c)
        unfold set7 at KZ hbz hOz
        obtain ⟨c0', c1', c2', c3', c4', c5', c6'⟩ := box_cells KZ
        refine bodyPost_ret (v := .tuple #[x.val, .int .i64 T.left, .int .i64 0]) (by simp [results, Try.results15, go_sem, St.val, c0', c1', c2', c3', c4', c5', c6']) rfl ?_
        have HL : allocL p s o l n but = T.left := by rw [HT.out]; exact if_pos HE.out
        refine ⟨x, by rw [HL, HE.out]; rfl, hOz.at, ⟨fun _ => ?_, fun h => absurd HE.out h⟩, fun _ => hOz.mono ?_, hbz⟩
        · rw [← HT.out]; exact HX.out.1
        · have := (HC.out _ HB5.out.1).2.2.2.1.size
          have := HB5.out.2.1
          omega
  · have HX : Hid (allocL p s order line n but = 0) := if_neg hE
    clear c0 c1 c2 c3 c4 c5 c6 hpk hsk kb
    have zl := hz.lt
    have zf0 := hz.frozen 0
    have zc0 := hz.cell (j := 0) (by decide)
    have zf1 := hz.frozen 1
    have zc1 := hz.cell (j := 1) (by decide)
    have zf2 := hz.frozen 2
    have zc2 := hz.cell (j := 2) (by decide)
    have zf3 := hz.frozen 3
    have zc3 := hz.cell (j := 3) (by decide)
    have zf4 := hz.frozen 4
    have zc4 := hz.cell (j := 4) (by decide)
    have zf5 := hz.frozen 5
    have zc5 := hz.cell (j := 5) (by decide)
    have zf6 := hz.frozen 6
    have zc6 := hz.cell (j := 6) (by decide)
    go_wp2_with fail
    have KZ := set7_blk hz (.slice .none 0 0) (.slice .none 0 0) (.slice .none 0 0) (.slice .none 0 0) (.slice .none 0 0) (.slice .none 0 0) (.slice .none 0 0)
    have hbz := set7_below (b := w.heap.size + 3) hBw (by omega) (.slice .none 0 0) (.slice .none 0 0) (.slice .none 0 0) (.slice .none 0 0) (.slice .none 0 0) (.slice .none 0 0) (.slice .none 0 0)
    unfold set7 at KZ hbz
    obtain ⟨c0', c1', c2', c3', c4', c5', c6'⟩ := box_cells KZ
    refine bodyPost_ret (v := .tuple #[noneS.val, .int .i64 0, .int .i64 (allocE p s order line n but)]) (by simp [results, Try.results15, go_sem, noneS, St.val, c0', c1', c2', c3', c4', c5', c6']) rfl ?_
    exact ⟨noneS, by rw [HX.out]; rfl, noneS_at _, ⟨fun h => absurd h hE, fun _ => ⟨rfl, rfl, rfl, rfl, rfl, rfl, rfl⟩⟩, fun h => absurd h hE, hbz⟩
end Go.Proofs.Ytbcacebifpagpac
namespace Go.Proofs.Ytbcacebifpagpac
open Go.RowKit
set_option linter.unusedVariables false
def updB (dn : Nat → Bool) (i j : Nat) : Bool := if j = i then true else dn j
theorem made_aux7 {P : Program} {ops : Array Oper} {Q : Exit → Act → World → Prop} {S : World → Prop} {T : Nat → Bool} {rem : List Nat} {L : Array Bool} {a1 : Act} {I : (Nat → Bool) → (Nat → Value) → World → Prop} {fuel : Nat} (hB : madeB5 ops rem L = true) (hT : ∀ r ∈ rem, T r = false)
    (step : ∀ i ∈ rem, ∀ (dn : Nat → Bool) (V : Nat → Value) (w : World) (K : Act → World → Prop), S w → dn i = false → (∀ d ∈ depsOf ops i, d ∈ rem → dn d = true) → I dn V w →
      (∀ v w', S w' → I (updB dn i) (upd V i v) w' → K ((putAll ops rem V a1).put (dstOf ops i) v) w') → wpOp P ops Q i K (putAll ops rem V a1) w)
    (done : ∀ (dn : Nat → Bool) (V : Nat → Value) (w : World), S w → (∀ j ∈ rem, dn j = true) → I dn V w → wpAnyT P ops Q S T fuel (mark L rem) (putAll ops rem V a1) w) :
    ∀ (m : Nat) (listed : Array Bool) (V : Nat → Value) (w : World), (rem.filter (fun r => !listed.getD r true)).length = m → listed.size = ops.size → (∀ j, j ∉ rem → listed[j]? = L[j]?) → Closed ops listed → S w → I (fun j => listed.getD j true) V w →
      wpAnyT P ops Q S T (m + fuel) listed (putAll ops rem V a1) w := by
  simp only [madeB5, Bool.and_eq_true, decide_eq_true_eq] at hB
  obtain ⟨⟨⟨⟨hoth, htopo⟩, hrem⟩, hLs⟩, hnd⟩ := hB
  have hrem' : ∀ r ∈ rem, r < ops.size ∧ L.getD r true = false := fun r hr => by
    have := List.all_eq_true.1 hrem r hr
    simpa using this
  intro m
  induction m with
  | zero =>
    intro listed V w hm hsz hag hcl hS hI
    have hall : ∀ r ∈ rem, listed.getD r true = true := fun r hr => by
      cases hq : listed.getD r true
      · have : r ∈ rem.filter (fun r => !listed.getD r true) := List.mem_filter.2 ⟨hr, by simp [hq]⟩
        rw [List.length_eq_zero_iff.1 hm] at this
        simp at this
      · rfl
    have hl : listed = mark L rem := by
      apply Array.ext_getElem?
      intro j
      by_cases hj : j < L.size
      · rw [mark_get rem L j hj]
        by_cases hjr : j ∈ rem
        · rw [if_pos hjr]
          have h1 := hall j hjr
          have h2 : j < listed.size := by omega
          simp only [Array.getD, h2, dif_pos] at h1
          simp [h2]
          exact h1
        · rw [if_neg hjr]; exact hag j hjr
      · rw [Array.getElem?_eq_none (by omega), Array.getElem?_eq_none (by rw [mark_size]; omega)]
    rw [Nat.zero_add]
    have h := done (fun j => listed.getD j true) V w hS hall hI
    rw [← hl] at h
    exact h
  | succ m ih =>
    intro listed V w hm hsz hag hcl hS hI
    have hex : ∃ r ∈ rem, listed.getD r true = false := by
      have hne : rem.filter (fun r => !listed.getD r true) ≠ [] := fun e => by rw [e] at hm; simp at hm
      obtain ⟨x, hx⟩ := List.exists_mem_of_ne_nil _ hne
      have := List.mem_filter.1 hx
      exact ⟨x, this.1, by simpa using this.2⟩
    have hLl : ∀ d, L.getD d false = true → listed.getD d false = true := fun d hd => by
      by_cases hdr : d ∈ rem
      · have h1 := (hrem' d hdr).2
        have h2 : d < L.size := by have := (hrem' d hdr).1; omega
        simp only [Array.getD, h2, dif_pos] at h1 hd
        rw [h1] at hd; cases hd
      · have h1 := hag d hdr
        by_cases h2 : d < L.size
        · have h3 : d < listed.size := by omega
          simp only [Array.getD, h2, h3, dif_pos] at hd ⊢
          simp only [Array.getElem?_eq_getElem h2, Array.getElem?_eq_getElem h3, Option.some.injEq] at h1
          rw [Array.getInternal_eq_getElem] at hd ⊢
          rw [h1]; exact hd
        · simp [Array.getD, h2] at hd
    obtain ⟨r0, hr0, hr0r⟩ := topo_ready hsz [] rem htopo hLl (fun d hd => by simp at hd) (fun r hr => (hrem' r hr).1) hex
    rw [Nat.add_right_comm]
    refine ⟨fun h0 => absurd (h0 ▸ hr0r) (by simp), fun i hi => ?_⟩
    obtain ⟨hli, o, ho, hdep⟩ := mem_ready.1 hi
    have hdeps : ∀ d ∈ depsOf ops i, listed.getD d false = true := fun d hd => by
      unfold depsOf at hd
      rw [ho] at hd
      obtain ⟨e, he, rfl⟩ := List.mem_map.1 hd
      have := List.mem_filter.1 he
      exact hdep e (by simpa using this.1) this.2
    have hdt : ∀ d, listed.getD d false = true → listed.getD d true = true := fun d hd => by
      by_cases h2 : d < listed.size
      · simpa [Array.getD, h2] using hd
      · simp [Array.getD, h2]
    have hir : i ∈ rem := by
      cases hc : rem.contains i
      · exfalso
        have hlt : i < ops.size := (Array.getElem?_eq_some_iff.1 ho).1
        have hnr : i ∉ rem := fun h => by
          have := List.contains_iff_mem.2 h
          rw [this] at hc; cases hc
        have h1 := List.all_eq_true.1 hoth i (List.mem_range.2 hlt)
        have hLi : L.getD i true = false := by
          have h2 := hag i hnr
          have h3 : i < L.size := by omega
          have h4 : i < listed.size := by omega
          simp only [Array.getElem?_eq_getElem h3, Array.getElem?_eq_getElem h4, Option.some.injEq] at h2
          simp only [Array.getD, h3, h4, dif_pos] at hli ⊢
          rw [Array.getInternal_eq_getElem] at hli ⊢
          rw [← h2]; exact hli
        rw [hLi, hc] at h1
        simp only [Bool.false_or] at h1
        obtain ⟨q, hq, hq2⟩ := hex
        have h5 := List.all_eq_true.1 h1 q hq
        have h6 := hdt q (reach_listed hcl _ i q (ready_deps hi) h5)
        rw [hq2] at h6; cases h6
      · exact List.contains_iff_mem.1 hc
    have hin : i < listed.size := by rw [hsz]; exact (hrem' i hir).1
    have hlit : listed.getD i true = false := hli
    refine step i hir (fun j => listed.getD j true) V w _ hS hlit (fun d hd hdr => hdt d (hdeps d hd)) hI (fun v w' hS' hI' => ?_)
    refine ⟨fun _ => hS', ?_⟩
    rw [putAll_put hnd hir]
    have gset : ∀ j, (listed.setIfInBounds i true).getD j true = if j = i then true else listed.getD j true := fun j => by
      by_cases hj : j = i
      · subst hj; simp [Array.getD, hin]
      · rw [if_neg hj, getD_set_ne true (fun e => hj e.symm)]
    refine ih (listed.setIfInBounds i true) (upd V i v) w' ?_ (by simpa using hsz) (fun j hj => ?_) (hcl.set hi) hS' ?_
    · have hnodup : rem.Nodup := by
        exact (List.pairwise_map.1 hnd).imp (fun h e => h (by rw [e]))
      have hcount : (rem.filter (fun r => !(listed.setIfInBounds i true).getD r true)) = (rem.filter (fun r => !listed.getD r true)).erase i := by
        have e2 : rem.filter (fun r => !(listed.setIfInBounds i true).getD r true) = (rem.filter (fun r => !listed.getD r true)).filter (fun r => r != i) := by
          rw [List.filter_filter]
          refine List.filter_congr fun x hx => ?_
          rw [gset x]
          by_cases hxi : x = i <;> simp [hxi]
        rw [e2, ← List.Nodup.erase_eq_filter (hnodup.filter _)]
      rw [hcount, List.length_erase_of_mem (List.mem_filter.2 ⟨hir, by simp [hli]⟩), hm]
      rfl
    · rw [Array.getElem?_setIfInBounds, if_neg (fun e : i = j => hj (by rw [← e]; exact hir))]
      exact hag j hj
    · have e : (fun j => (listed.setIfInBounds i true).getD j true) = updB (fun j => listed.getD j true) i := funext fun j => gset j
      rw [e]
      exact hI'
def Made7 (P : Program) (ops : Array Oper) (Q : Exit → Act → World → Prop) (S : World → Prop) (rem : List Nat) (a1 : Act) : Prop :=
  ∃ I : (Nat → Bool) → (Nat → Value) → World → Prop, (∀ (dn : Nat → Bool) (V : Nat → Value) (w : World), S w → (∀ j ∈ rem, dn j = false) → I dn V w) ∧
    (∀ i ∈ rem, ∀ (dn : Nat → Bool) (V : Nat → Value) (w : World) (K : Act → World → Prop), S w → dn i = false → (∀ d ∈ depsOf ops i, d ∈ rem → dn d = true) → I dn V w →
      (∀ v w', S w' → I (updB dn i) (upd V i v) w' → K ((putAll ops rem V a1).put (dstOf ops i) v) w') → wpOp P ops (NoPanic Q) i K (putAll ops rem V a1) w) ∧
    (∀ (dn : Nat → Bool) (V : Nat → Value) (w : World), S w → (∀ j ∈ rem, dn j = true) → I dn V w → NoPanic Q .normal (putAll ops rem V a1) w)
theorem wp_region_made7 {P : Program} {l : List Oper} {Q : Exit → Act → World → Prop} {id : Nat} {a : Act} {w : World} (S : World → Prop) (ks rem : List Nat)
    (hm : P.follows .mixedOrders = true) (hs : Region.noSelect l.toArray = true) (hF : firstsB l.toArray ks (Array.replicate l.length false) = true) (hks : ks.all (fun k => decide (k < l.length)) = true) (hv : ((picks l ks).all vKind4) = true)
    (hM : madeB5 l.toArray rem (mark (Array.replicate l.length false) ks) = true) (hB : seqB l.toArray [] (mark (mark (Array.replicate l.length false) ks) rem) = true) (hl : ks.length + rem.length = l.length)
    (hS : S w.drew) (h : wpQuiet P l.toArray S (Made7 P l.toArray Q S rem) (picks l ks) a) : (Code.region id l.toArray true).wp P Q a w := by
  refine wp_region_noPanic (wp_region_any hm ?_)
  have hM' := hM
  simp only [madeB5, Bool.and_eq_true, decide_eq_true_eq] at hM'
  have key := wpAnyT_firsts (Q := NoPanic Q) (T := fun _ => false) (N := l.toArray.size) (fuel := rem.length) (w := w.drew) hs hS (fun c a a' w h => (h : False).elim) ks (picks l ks) _ a hF (fun k hk => ⟨rfl, fun j hj => by cases hj⟩) (Closed.none _ _) (picks_ok hks) hv h (fun a1 hK hcl => ?_)
  · have := wpAny_of_T _ _ _ _ key
    rw [hl] at this
    simpa using this
  · obtain ⟨I, init, step, done⟩ := hK
    have hall : (rem.filter (fun r => !(mark (Array.replicate l.length false) ks).getD r true)) = rem := by
      rw [List.filter_eq_self]
      intro r hr
      have := List.all_eq_true.1 hM'.1.1.2 r hr
      simp only [Bool.and_eq_true] at this
      exact this.2
    have hun : ∀ j ∈ rem, (mark (Array.replicate l.length false) ks).getD j true = false := fun j hj => by
      have := List.all_eq_true.1 hM'.1.1.2 j hj
      simp only [Bool.and_eq_true] at this
      simpa using this.2
    obtain ⟨V0, hV0⟩ : ∃ V0, putAll l.toArray rem V0 a1 = a1 := ⟨_, putAll_self a1 rem⟩
    have := made_aux7 (P := P) (Q := NoPanic Q) (S := S) (T := fun _ => false) (a1 := a1) (fuel := 0) (I := I) hM (fun _ _ => rfl) step
      (fun dn V w' hS' hd hI => wpAnyT_seq [] _ _ w' hB (fun t i hti => by simp at hti) (done dn V w' hS' hd hI))
      rem.length (mark (Array.replicate l.length false) ks) V0 w.drew (by rw [hall]) hM'.1.2 (fun _ _ => rfl) hcl hS (init _ _ _ hS hun)
    rw [hV0] at this
    exact this
end Go.Proofs.Ytbcacebifpagpac
namespace Go.Proofs.Ytbcacebifpagpac
open Go.RowKit Go.Shelf Go.Sort
set_option linter.unusedVariables false
theorem none_same2 {s t : St} (a : NoneS s) (b : NoneS t) : SameT s t := by
  obtain ⟨a1, a2, a3, a4, a5, a6, a7⟩ := a
  obtain ⟨b1, b2, b3, b4, b5, b6, b7⟩ := b
  exact ⟨⟨by omega, fun i hi => absurd hi (by omega)⟩, ⟨by omega, fun i hi => absurd hi (by omega)⟩, ⟨by omega, fun j hj => absurd hj (by omega)⟩, ⟨by omega, fun j hj => absurd hj (by omega)⟩, ⟨by omega, fun j hj => absurd hj (by omega)⟩, ⟨by omega, fun j hj => absurd hj (by omega)⟩, ⟨by omega, fun j hj => absurd hj (by omega)⟩⟩
theorem ActOK.same {E : Int} {t x y : St} (a : ActOK E t x) (b : ActOK E t y) : SameT x y := by
  by_cases h : E = 0
  · exact (a.1 h).trans (b.1 h).symm
  · exact none_same2 (a.2 h) (b.2 h)
theorem ActOK.bound {E : Int} {p : Pl} {s t x : St} (h : ActOK E t x) (f : E = 0 → t.os.n ≤ 1000 ∧ t.ms.n ≤ 1000 ∧ ∀ i, i < t.os.n → (t.os.z i).ls.n ≤ 1000) : x.os.n ≤ 1000 ∧ x.ms.n ≤ 1000 ∧ ∀ i, i < x.os.n → (x.os.z i).ls.n ≤ 1000 := by
  by_cases hE : E = 0
  · obtain ⟨f1, f2, f3⟩ := f hE
    have a := h.1 hE
    have e1 : x.os.n = t.os.n := a.os.1
    have e2 : x.ms.n = t.ms.n := a.ms.1
    refine ⟨by omega, by omega, fun i hi => ?_⟩
    have e3 : (x.os.z i).ls.n = (t.os.z i).ls.n := (a.os.2 i hi).2.1
    have := f3 i (by omega)
    omega
  · obtain ⟨a1, a2, a3, a4, a5, a6, a7⟩ := h.2 hE
    exact ⟨by omega, by omega, fun i hi => absurd hi (by omega)⟩
end Go.Proofs.Ytbcacebifpagpac

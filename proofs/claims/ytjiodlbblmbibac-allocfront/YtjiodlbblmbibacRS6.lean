/- SameStates: what is the same is told so. -/
import Derived.Test.YtjiodlbblmbibacW10
import Derived.Test.YtjiodlbblmbibacHW11
import Derived.Test.YtjiodlbblmbibacS
import Derived.Test.YtjiodlbblmbibacR4
import Derived.Test.YtjiodlbblmbibacRS3
namespace Go.Proofs.Ytjiodlbblmbibac
open Go.RowKit Go.Shelf Go.Sort
set_option linter.unusedVariables false

/-- The same, but for where it lies. -/
structure SameT (s t : St) : Prop where
  on : s.on.n = t.on.n ∧ ∀ i, i < s.on.n → (s.on.r i).n = (t.on.r i).n ∧ ∀ j, j < (s.on.r i).n → (s.on.r i).z j = (t.on.r i).z j
  os : s.os.n = t.os.n ∧ ∀ i, i < s.os.n → (s.os.z i).k = (t.os.z i).k ∧ (s.os.z i).ls.n = (t.os.z i).ls.n ∧ ∀ j, j < (s.os.z i).ls.n → (s.os.z i).ls.z j = (t.os.z i).ls.z j
  hs : s.hs.n = t.hs.n ∧ ∀ j, j < s.hs.n → s.hs.z j = t.hs.z j
  ms : s.ms.n = t.ms.n ∧ ∀ j, j < s.ms.n → s.ms.z j = t.ms.z j
  si : s.si.n = t.si.n ∧ ∀ j, j < s.si.n → s.si.z j = t.si.z j
  so : s.so.n = t.so.n ∧ ∀ j, j < s.so.n → s.so.z j = t.so.z j
  sf : s.sf.n = t.sf.n ∧ ∀ j, j < s.sf.n → s.sf.z j = t.sf.z j

def Boxed (w : World) (B : Nat) (s : St) : Prop :=
  B < w.heap.size ∧ w.cell? ⟨B, 0, none⟩ = some (.slice s.on.a s.on.n s.on.c) ∧ w.cell? ⟨B, 1, none⟩ = some (.slice s.os.a s.os.n s.os.c) ∧ w.cell? ⟨B, 2, none⟩ = some (.slice s.hs.a s.hs.n s.hs.c) ∧
    w.cell? ⟨B, 3, none⟩ = some (.slice s.ms.a s.ms.n s.ms.c) ∧ w.cell? ⟨B, 4, none⟩ = some (.slice s.si.a s.si.n s.si.c) ∧ w.cell? ⟨B, 5, none⟩ = some (.slice s.so.a s.so.n s.so.c) ∧ w.cell? ⟨B, 6, none⟩ = some (.slice s.sf.a s.sf.n s.sf.c)
theorem Boxed.of {w : World} {B : Nat} {e : TypeId} {s : St} (h : Blk w B e 7 (fun j => s.cells.getD j default)) : Boxed w B s :=
  ⟨h.lt, h.cell (j := 0) (by decide), h.cell (j := 1) (by decide), h.cell (j := 2) (by decide), h.cell (j := 3) (by decide), h.cell (j := 4) (by decide), h.cell (j := 5) (by decide), h.cell (j := 6) (by decide)⟩

/-- An order stored into a block of the call's own. -/
theorem order_stored {A w : World} {B : Nat} {e : TypeId} {f : Nat → Value} (hY : Blk w B e 2 f) (hX : Below A.heap.size A w) (hB : A.heap.size ≤ B) (k : Int) (v : Value) :
    ∃ W, (w.setCell ⟨B, 0, none⟩ (.int .i64 k)).setCell ⟨B, 1, none⟩ v = W ∧ Below A.heap.size A W ∧ Blk W B e 2 (fun j => (#[.int .i64 k, v] : Array Value).getD j default) ∧ ∀ g t n f', g ≠ B → Blk w g t n f' → Blk W g t n f' :=
  ⟨_, rfl, (hX.setCell (p := ⟨B, 0, none⟩) hB _).setCell (p := ⟨B, 1, none⟩) hB _, ((hY.set 0 _).set 1 _).congr (fun j hj => by match j, hj with | 0, _ => rfl | 1, _ => rfl),
    fun g t n f' hne h => (h.other (a := ⟨B, 0, none⟩) hne _).other (a := ⟨B, 1, none⟩) hne _⟩

set_option maxRecDepth 100000 in
set_option maxHeartbeats 4000000 in
theorem SameStates_yes (s t : St) (w : World) (hs : s.At w) (ht : t.At w) (h : SameT s t) (ho4 : s.os.n ≤ 1000) (hm8 : s.ms.n ≤ 1000) (hl3 : ∀ i, i < s.os.n → (s.os.z i).ls.n ≤ 1000) :
    Calls Try.prog 18 #[s.val, t.val] w fun e w' => e = .returned (.bool true) ∧ Below w.heap.size w w' := by
  obtain ⟨W0, hW, hWB, X0, Y0⟩ : ∃ W, ((w.alloc (.cells s.cells 31)).alloc (.cells t.cells 31)) = W ∧ Below w.heap.size w W ∧ Blk W w.heap.size 31 7 (fun j => s.cells.getD j default) ∧ Blk W (w.heap.size + 1) 31 7 (fun j => t.cells.getD j default) :=
    ⟨_, rfl, two_below _ _ _, (Blk.mk' rfl rfl).alloc _, Blk.mk' (by simp) rfl⟩
  have HC : Hid (∀ wk, Below W0.heap.size W0 wk → Boxed wk w.heap.size s ∧ Boxed wk (w.heap.size + 1) t ∧ s.At wk ∧ t.At wk ∧ Below w.heap.size w wk) := fun wk h => ⟨Boxed.of (X0.below h), Boxed.of (Y0.below h), (hs.below hWB).below h, (ht.below hWB).below h, hWB.trans (h.mono hWB.size)⟩
  have HW : Hid ((w.alloc (.cells #[.slice s.on.a s.on.n s.on.c, .slice s.os.a s.os.n s.os.c, .slice s.hs.a s.hs.n s.hs.c, .slice s.ms.a s.ms.n s.ms.c, .slice s.si.a s.si.n s.si.c, .slice s.so.a s.so.n s.so.c, .slice s.sf.a s.sf.n s.sf.c] 31)).alloc (.cells #[.slice t.on.a t.on.n t.on.c, .slice t.os.a t.os.n t.os.c, .slice t.hs.a t.hs.n t.hs.c, .slice t.ms.a t.ms.n t.ms.c, .slice t.si.a t.si.n t.si.c, .slice t.so.a t.so.n t.so.c, .slice t.sf.a t.sf.n t.sf.c] 31) = W0) := hW
  have HS : Hid (SameT s t) := h
  have ole := hs.os.le
  have ocap := hs.os.cap
  have mle := hs.ms.le
  have mcap := hs.ms.cap
  have ole2 := ht.os.le
  have ocap2 := ht.os.cap
  have mle2 := ht.ms.le
  have mcap2 := ht.ms.cap
  unfold maxLen at ocap mcap ocap2 mcap2
  have n1 : ((s.os.n : Int) != (t.os.n : Int)) = false := by rw [h.os.1]; simp
  have n2 : ((s.ms.n : Int) != (t.ms.n : Int)) = false := by rw [h.ms.1]; simp
  have HL3 : Hid (∀ i, i < s.os.n → (s.os.z i).ls.n ≤ 1000) := hl3
  clear hW X0 Y0 hs ht h hl3
  unfold St.val
  go_enter Try.func18, Try.ntmps18
  go_wp2_with fail
  rw [HW.out]
  obtain ⟨X, Y, hsk, htk, hBw⟩ := HC.out W0 (Below.refl _ _)
  refine (SameRows_yes s.on t.on W0 hsk.on htk.on HS.out.on.1 HS.out.on.2).mono ?_
  rintro e w1 ⟨rfl, hB⟩
  clear X Y hsk htk hBw HW
  obtain ⟨⟨l1, c0, c1, c2, c3, c4, c5, c6⟩, ⟨l2, d0, d1, d2, d3, d4, d5, d6⟩, hsk, htk, hBw⟩ := HC.out w1 hB
  go_wp2_with fail
  refine (SameHolds_yes s.hs t.hs w1 hsk.hs htk.hs HS.out.hs.1 HS.out.hs.2).mono ?_
  rintro e w2 ⟨rfl, hB2⟩
  have hB := hB.trans (hB2.mono hB.size)
  clear l1 c0 c1 c2 c3 c4 c5 c6 l2 d0 d1 d2 d3 d4 d5 d6 hsk htk hBw hB2
  obtain ⟨⟨l1, c0, c1, c2, c3, c4, c5, c6⟩, ⟨l2, d0, d1, d2, d3, d4, d5, d6⟩, hsk, htk, hBw⟩ := HC.out w2 hB
  go_wp2_with fail
  refine (SameInts_yes s.si t.si w2 hsk.si htk.si HS.out.si.1 HS.out.si.2).mono ?_
  rintro e w3 ⟨rfl, hB2⟩
  have hB := hB.trans (hB2.mono hB.size)
  clear l1 c0 c1 c2 c3 c4 c5 c6 l2 d0 d1 d2 d3 d4 d5 d6 hsk htk hBw hB2
  obtain ⟨⟨l1, c0, c1, c2, c3, c4, c5, c6⟩, ⟨l2, d0, d1, d2, d3, d4, d5, d6⟩, hsk, htk, hBw⟩ := HC.out w3 hB
  go_wp2_with fail
  refine (SameInts_yes s.so t.so w3 hsk.so htk.so HS.out.so.1 HS.out.so.2).mono ?_
  rintro e w4 ⟨rfl, hB2⟩
  have hB := hB.trans (hB2.mono hB.size)
  clear l1 c0 c1 c2 c3 c4 c5 c6 l2 d0 d1 d2 d3 d4 d5 d6 hsk htk hBw hB2
  obtain ⟨⟨l1, c0, c1, c2, c3, c4, c5, c6⟩, ⟨l2, d0, d1, d2, d3, d4, d5, d6⟩, hsk, htk, hBw⟩ := HC.out w4 hB
  go_wp2_with fail
  refine (SameInts_yes s.sf t.sf w4 hsk.sf htk.sf HS.out.sf.1 HS.out.sf.2).mono ?_
  rintro e w5 ⟨rfl, hB2⟩
  have hB := hB.trans (hB2.mono hB.size)
  clear l1 c0 c1 c2 c3 c4 c5 c6 l2 d0 d1 d2 d3 d4 d5 d6 hsk htk hBw hB2
  go_wp2_with fail
  go_loopw [5] (fun i wk => ∃ k : Nat, k ≤ s.os.n ∧ i = .int .i64 k ∧ Below W0.heap.size W0 wk) (fun i _ => s.os.n - (intOf i).toNat)
  case atStart => exact ⟨0, Nat.zero_le _, rfl, hB⟩
  case round =>
    clear hB
    obtain ⟨i, hi, rfl, hB⟩ := hrel
    obtain ⟨⟨l1, c0, c1, c2, c3, c4, c5, c6⟩, ⟨l2, d0, d1, d2, d3, d4, d5, d6⟩, hsk, htk, hBw⟩ := HC.out wr hB
    by_cases hlt : i < s.os.n
    · have hlt2 : i < t.os.n := by rw [← HS.out.os.1]; exact hlt
      have qi : (0 : Int) ≤ (i : Int) := by omega
      obtain ⟨b1, o1, hoa, hb1, y0, y1, hl⟩ := hsk.os.ods i hlt
      obtain ⟨b2, o2, hob, hb2, x0, x1, hm⟩ := htk.os.ods i hlt2
      obtain ⟨e1, e2, e3⟩ := HS.out.os.2 i hlt
      have hn3 := HL3.out i hlt
      rw [hoa] at c1
      rw [hob] at d1
      have r0 : ∀ d os, (grow (redrawn wr d) os).cell? ⟨w.heap.size, 1, none⟩ = some (.slice (some ⟨b1, o1, none⟩) s.os.n s.os.c) := fun d os => cell_regrown c1 d os
      have r1 : ∀ d os, (grow (redrawn wr d) os).cell? ⟨w.heap.size + 1, 1, none⟩ = some (.slice (some ⟨b2, o2, none⟩) t.os.n t.os.c) := fun d os => cell_regrown d1 d os
      have r2 : ∀ d os, (grow (redrawn wr d) os).cell? ⟨b1, o1 + i * 2, none⟩ = some (.int .i64 (s.os.z i).k) := fun d os => cell_regrown y0 d os
      have r3 : ∀ d os, (grow (redrawn wr d) os).cell? ⟨b1, o1 + i * 2 + 1, none⟩ = some (.slice (s.os.z i).ls.a (s.os.z i).ls.n (s.os.z i).ls.c) := fun d os => cell_regrown y1 d os
      rw [← e1] at x0
      have r4 : ∀ d os, (grow (redrawn wr d) os).cell? ⟨b2, o2 + i * 2, none⟩ = some (.int .i64 (s.os.z i).k) := fun d os => cell_regrown x0 d os
      have r5 : ∀ d os, (grow (redrawn wr d) os).cell? ⟨b2, o2 + i * 2 + 1, none⟩ = some (.slice (t.os.z i).ls.a (t.os.z i).ls.n (t.os.z i).ls.c) := fun d os => cell_regrown x1 d os
      have HLM : Hid ((s.os.z i).ls.At wr ∧ (t.os.z i).ls.At wr) := ⟨hl, hm⟩
      have HE : Hid ((s.os.z i).ls.n = (t.os.z i).ls.n ∧ ∀ j, j < (s.os.z i).ls.n → (s.os.z i).ls.z j = (t.os.z i).ls.z j) := ⟨e2, e3⟩
      clear hoa hob hl hm e1 e2 e3 c0 c2 c3 c4 c5 c6 d0 d2 d3 d4 d5 d6 hsk htk y0 y1 x0 x1 d1
      generalize (s.os.z i).k = KD at *
      generalize (s.os.z i).ls = LS at *
      generalize (t.os.z i).ls = LT at *
      go_wp2_with fail
      refine wp_region_made2 (fun w' => ∃ p : Regrown, w' = grow (redrawn wr p.d) p.os) (List.range 10) [10, 11] [(false, 12), (false, 13)] (by kernel_rfl) (by kernel_rfl) (by kernel_rfl) (by kernel_rfl) (by kernel_rfl) (by kernel_rfl) (by kernel_rfl) (by kernel_rfl) (regrown_of_below ((Below.refl _ _).drew)) ?_
      rw [show List.range 10 = [0, 1, 2, 3, 4, 5, 6, 7, 8, 9] from rfl]
      simp only [picks, List.drop_succ_cons, List.drop_zero, List.take_succ_cons, List.take_zero, List.cons_append, List.nil_append]
      repeat (go_big_quiet_step (fail))
      refine wpQuiet_nil ?_
      refine ⟨fun j v g wk => ∃ B, g = [B] ∧ v = .pointer (some ⟨B, 0, none⟩) ∧ wr.heap.size ≤ B ∧ Blk wk B 51 2 (fun j => (#[.int .i64 0, .slice .none 0 0] : Array Value).getD j default), List.forall_mem_cons.2 ⟨?zm, List.forall_mem_cons.2 ⟨?zm2, List.forall_mem_nil _⟩⟩, List.forall_mem_cons.2 ⟨?zl, List.forall_mem_cons.2 ⟨?zl2, List.forall_mem_nil _⟩⟩, List.forall_mem_cons.2 ⟨?zs10, List.forall_mem_cons.2 ⟨?zs11, List.forall_mem_nil _⟩⟩, ?zdone⟩
      case zm | zm2 => intro v g w w' hB h; obtain ⟨B, h0, h1, h2, h3⟩ := h; exact ⟨B, h0, h1, h2, h3.below hB⟩
      case zl | zl2 => intro v g w h; obtain ⟨B, rfl, h1, h2, h3⟩ := h; intro x hx; rw [List.mem_singleton] at hx; subst hx; exact h3.lt
      case zs10 =>
        intro V G wk K hS hd hK
        have hX := below_of_regrown hS
        refine wpOp_list 10 rfl ?_
        simp only [putAll, dstOf, List.getElem?_toArray, List.getElem?_cons_succ, List.getElem?_cons_zero, Act.put, List.setIfInBounds_toArray, List.set_cons_succ, List.set_cons_zero] at hK ⊢
        go_wp2_with fail
        exact hK _ [wk.heap.size] _ (regrown_of_below (hX.alloc hX.size _)) ((Below.refl _ _).alloc (Nat.le_refl _) _) (fun x hx => by rw [List.mem_singleton] at hx; omega) ⟨wk.heap.size, rfl, rfl, hX.size, Blk.mk' rfl rfl⟩
      case zs11 =>
        intro V G wk K hS hd hK
        have hX := below_of_regrown hS
        refine wpOp_list 11 rfl ?_
        simp only [putAll, dstOf, List.getElem?_toArray, List.getElem?_cons_succ, List.getElem?_cons_zero, Act.put, List.setIfInBounds_toArray, List.set_cons_succ, List.set_cons_zero] at hK ⊢
        go_wp2_with fail
        exact hK _ [wk.heap.size] _ (regrown_of_below (hX.alloc hX.size _)) ((Below.refl _ _).alloc (Nat.le_refl _) _) (fun x hx => by rw [List.mem_singleton] at hx; omega) ⟨wk.heap.size, rfl, rfl, hX.size, Blk.mk' rfl rfl⟩
      case zdone =>
        intro V G wk hS hD hA
        obtain ⟨B6, g6, h6, m6, k6⟩ := hD 10 (by simp)
        obtain ⟨B7, g7, h7, m7, k7⟩ := hD 11 (by simp)
        have hne : B6 ≠ B7 := fun e => hA 10 (by simp) 11 (by simp) (by decide) B6 (by rw [g6]; simp) (by rw [g7, e]; simp)
        have hX := below_of_regrown hS
        clear hS hD hA g6 g7 r0 r1 r2 r3 r4 r5
        have f0 := k6.frozen 0
        have f1 := k6.frozen 1
        have e0 := k6.cell (j := 0) (by decide)
        have e1 := k6.cell (j := 1) (by decide)
        have hl6 := k6.lt
        simp only [putAll, dstOf, List.getElem?_toArray, List.getElem?_cons_succ, List.getElem?_cons_zero, Act.put, List.setIfInBounds_toArray, List.set_cons_succ, List.set_cons_zero, h6, h7]
        refine wpOrdS_one 12 (by decide) ?_
        simp only [List.drop_succ_cons, List.drop_zero, List.take_succ_cons, List.take_zero]
        go_wp2_with fail
        obtain ⟨W5, hW5, hX5, hY5, keep⟩ := order_stored k6 hX m6 KD (.slice LS.a LS.n LS.c)
        have k7 := keep _ _ _ _ hne.symm k7
        rw [hW5]
        refine ⟨regrown_of_below hX5, ?_⟩
        clear hW5 hX k6 keep f0 f1 e0 e1 hl6 h6 h7
        have f0 := k7.frozen 0
        have f1 := k7.frozen 1
        have e0 := k7.cell (j := 0) (by decide)
        have e1 := k7.cell (j := 1) (by decide)
        have hl6 := k7.lt
        refine wpOrdS_one 13 (by decide) ?_
        simp only [List.drop_succ_cons, List.drop_zero, List.take_succ_cons, List.take_zero]
        go_wp2_with fail
        obtain ⟨W6, hW6, hX6, hY7, keep⟩ := order_stored k7 hX5 m7 KD (.slice LT.a LT.n LT.c)
        have hY6 := keep _ _ _ _ hne hY5
        rw [hW6]
        refine ⟨regrown_of_below hX6, ?_⟩
        refine NoPanic.normal ?_
        have hB6 := hB.trans (hX6.mono hB.size)
        have HLL : Hid (LS.At W6 ∧ LT.At W6) := ⟨HLM.out.1.below hX6, HLM.out.2.below hX6⟩
        clear hW6 hX5 hX6 k7 keep f0 f1 e0 e1 hl6 hY5 HLM hB m6 m7
        have HD : Hid (∀ wk, Below W6.heap.size W6 wk → (wk.cell? ⟨B6, 0, none⟩ = some (.int .i64 KD) ∧ wk.cell? ⟨B6, 1, none⟩ = some (.slice LS.a LS.n LS.c) ∧ B6 < wk.heap.size) ∧ (wk.cell? ⟨B7, 0, none⟩ = some (.int .i64 KD) ∧ wk.cell? ⟨B7, 1, none⟩ = some (.slice LT.a LT.n LT.c) ∧ B7 < wk.heap.size) ∧ LS.At wk ∧ LT.At wk ∧ Below W0.heap.size W0 wk) :=
          fun wk h => ⟨⟨(hY6.below h).cell (j := 0) (by decide), (hY6.below h).cell (j := 1) (by decide), (hY6.below h).lt⟩, ⟨(hY7.below h).cell (j := 0) (by decide), (hY7.below h).cell (j := 1) (by decide), (hY7.below h).lt⟩, HLL.out.1.below h, HLL.out.2.below h, hB6.trans (h.mono hB6.size)⟩
        clear hY6 hY7 HLL
        obtain ⟨⟨p0, p1, p2⟩, ⟨q0, q1, q2⟩, hls, hlt', hBz⟩ := HD.out W6 (Below.refl _ _)
        have lle := hls.le
        have lcap := hls.cap
        have mle3 := hlt'.le
        have mcap3 := hlt'.cap
        unfold maxLen at lcap mcap3
        have n3 : ((LS.n : Int) != (LT.n : Int)) = false := by rw [HE.out.1]; simp
        clear hls hlt' hBz
        go_wp2_with fail
        clear p0 p1 p2 q0 q1 q2
        go_loopw [8] (fun i0 wk => ∃ k : Nat, k ≤ LS.n ∧ i0 = .int .i64 k ∧ Below W6.heap.size W6 wk) (fun i0 _ => LS.n - (intOf i0).toNat)
        case atStart => exact ⟨0, Nat.zero_le _, rfl, Below.refl _ _⟩
        case round =>
          obtain ⟨j, hj, rfl, hB⟩ := hrel
          obtain ⟨⟨p0, p1, p2⟩, ⟨q0, q1, q2⟩, hls, hlt', hBz⟩ := HD.out wr hB
          by_cases hlj : j < LS.n
          · have hlj2 : j < LT.n := by rw [← HE.out.1]; exact hlj
            have qj : (0 : Int) ≤ (j : Int) := by omega
            obtain ⟨b3, o3, hla, hb3, y0, y1, y2, y3⟩ := hls.hds j hlj
            obtain ⟨b4, o4, hlb, hb4, x0, x1, x2, x3⟩ := hlt'.hds j hlj2
            rw [← HE.out.2 j hlj] at x0 x1 x2 x3
            rw [hla] at p1
            rw [hlb] at q1
            generalize LS.z j = Z at *
            clear hla hlb hls hlt' p0 q0
            go_wp2_with fail
            go_quiet (fail)
            go_wp2_with fail
            go_roundw
            case rel => exact ⟨j + 1, by omega, by go_num, below_drewN hB _⟩
            case measure => simp [intOf]; omega
          · clear hls hlt'
            go_wp2_with fail
            go_roundw
            case rel => exact ⟨i + 1, by omega, by go_num, hBz⟩
            case measure => simp [intOf]; omega
    · go_wp2_with fail
      clear l1 c0 c1 c2 c3 c4 c5 c6 l2 d0 d1 d2 d3 d4 d5 d6 hsk htk hBw hi hlt
      go_loopw [9] (fun i0 wk => ∃ k : Nat, k ≤ s.ms.n ∧ i0 = .int .i64 k ∧ Below W0.heap.size W0 wk) (fun i0 _ => s.ms.n - (intOf i0).toNat)
      case atStart => exact ⟨0, Nat.zero_le _, rfl, hB⟩
      case round =>
        clear hB
        obtain ⟨j, hj, rfl, hB⟩ := hrel
        obtain ⟨⟨l1, c0, c1, c2, c3, c4, c5, c6⟩, ⟨l2, d0, d1, d2, d3, d4, d5, d6⟩, hsk, htk, hBw⟩ := HC.out wr hB
        by_cases hlj : j < s.ms.n
        · have hlj2 : j < t.ms.n := by rw [← HS.out.ms.1]; exact hlj
          have qj : (0 : Int) ≤ (j : Int) := by omega
          obtain ⟨b3, o3, hla, hb3, y0, y1, y2, y3⟩ := hsk.ms.hds j hlj
          obtain ⟨b4, o4, hlb, hb4, x0, x1, x2, x3⟩ := htk.ms.hds j hlj2
          rw [← HS.out.ms.2 j hlj] at x0 x1 x2 x3
          rw [hla] at c3
          rw [hlb] at d3
          generalize s.ms.z j = Z at *
          clear hla hlb hsk htk c0 c1 c2 c4 c5 c6 d0 d1 d2 d4 d5 d6
          go_wp2_with fail
          go_quiet (fail)
          go_wp2_with fail
          go_roundw
          case rel => exact ⟨j + 1, by omega, by go_num, below_drewN hB _⟩
          case measure => simp [intOf]; omega
        · clear hsk htk
          go_wp2_with fail
          go_ret
          exact ⟨rfl, hBw⟩

end Go.Proofs.Ytjiodlbblmbibac

/- Texts that were built one behind the other, joined; what CountCounts does not reach is left out. -/
import Derived.Test.YtbcacebifpagpaeGreatK2CountCounts
import Derived.ArgAppend
import Derived.Deep.Upon
import Derived.Lib.SliceRun
namespace Go.Proofs.YtbcacebifpagpaeGreat
open Go.RowKit Go.Shelf Go.Sort
set_option linter.unusedVariables false
def OwnI (A : Nat) (w : World) (r : Rw) : Prop := ∃ g, r.a = some ⟨g, 0, none⟩ ∧ A ≤ g ∧ r.n ≤ r.c ∧ r.c ≤ maxLen ∧ Blk w g 3 r.n (fun j => .int .i64 (r.z j))
theorem OwnI.at {A : Nat} {w : World} {r : Rw} (h : OwnI A w r) : r.At w := by
  obtain ⟨g, ha, _, h1, h2, hb⟩ := h
  exact ⟨h1, h2, fun i hi => ⟨g, 0, ha, hb.lt, by rw [Nat.zero_add]; exact hb.cell hi⟩⟩
theorem OwnI.below {A : Nat} {w w' : World} {r : Rw} (h : OwnI A w r) (hB : Below w.heap.size w w') : OwnI A w' r := by
  obtain ⟨g, ha, h0, h1, h2, hb⟩ := h
  exact ⟨g, ha, h0, h1, h2, hb.below hB⟩
structure OwnS (A : Nat) (w : World) (s : St) : Prop where
  on : ∃ g, s.on.a = some ⟨g, 0, none⟩ ∧ A ≤ g ∧ s.on.n ≤ s.on.c ∧ s.on.c ≤ maxLen ∧ Blk w g 23 s.on.n (fun i => .slice (s.on.r i).a (s.on.r i).n (s.on.r i).c)
  rows : ∀ i, i < s.on.n → OwnI A w (s.on.r i)
  rapart : ∀ i j, i < j → j < s.on.n → (s.on.r i).a ≠ (s.on.r j).a
  os : OwnO A w s.os
  hs : OwnH A 58 w s.hs
  ms : OwnH A 56 w s.ms
  msr : Room A w 56 4 s.ms.a s.ms.c
  si : OwnI A w s.si
  so : OwnI A w s.so
  sf : OwnI A w s.sf
  aio : s.si.a ≠ s.so.a
  aif : s.si.a ≠ s.sf.a
  aof : s.so.a ≠ s.sf.a
  ari : ∀ i, i < s.on.n → (s.on.r i).a ≠ s.si.a ∧ (s.on.r i).a ≠ s.so.a ∧ (s.on.r i).a ≠ s.sf.a
theorem OwnS.at {A : Nat} {w : World} {s : St} (h : OwnS A w s) : s.At w := by
  obtain ⟨g, ha, _, h1, h2, hb⟩ := h.on
  exact ⟨⟨h1, h2, fun i hi => ⟨g, 0, ha, hb.lt, by rw [Nat.zero_add]; exact hb.cell hi, (h.rows i hi).at⟩⟩, h.os.at, h.hs.at, h.ms.at, h.si.at, h.so.at, h.sf.at⟩
theorem OwnI.other {A : Nat} {t : TypeId} {w : World} {r : Rw} {q n : Nat} {f : Nat → Value} (h : OwnI A w r) (hq : Blk w q t n f) (hne : 3 ≠ t) (j : Nat) (u : Value) : OwnI A (w.setCell ⟨q, j, none⟩ u) r := by
  obtain ⟨g, ha, h0, h1, h2, hb⟩ := h
  exact ⟨g, ha, h0, h1, h2, hb.other (a := ⟨q, j, none⟩) (Blk.ne2 hb hq hne) u⟩
theorem OwnO.other {A : Nat} {t : TypeId} {w : World} {s : Os} {q n : Nat} {f : Nat → Value} (h : OwnO A w s) (hq : Blk w q t n f) (h1 : 64 ≠ t) (h2 : 61 ≠ t) (j : Nat) (u : Value) : OwnO A (w.setCell ⟨q, j, none⟩ u) s := by
  refine ⟨h.le, h.cap, fun hn => ?_, fun i hi => ?_, h.apart, h.room.set q j u⟩
  · obtain ⟨g, a, b, c⟩ := h.list hn
    exact ⟨g, a, b, c.other (a := ⟨q, j, none⟩) (Blk.ne2 c hq h1) u⟩
  · obtain ⟨B, a, b, c, d, e⟩ := h.lines i hi
    exact ⟨B, a, b, c, d, e.other (a := ⟨q, j, none⟩) (Blk.ne2 e hq h2) u⟩
theorem OwnS.box {A : Nat} {w : World} {s : St} {q n : Nat} {f : Nat → Value} (h : OwnS A w s) (hq : Blk w q 31 n f) (j : Nat) (u : Value) : OwnS A (w.setCell ⟨q, j, none⟩ u) s := by
  refine ⟨?_, fun i hi => (h.rows i hi).other hq (by decide) j u, h.rapart, h.os.other hq (by decide) (by decide) j u, h.hs.other hq (by decide) j u, h.ms.other hq (by decide) j u, h.msr.set q j u, h.si.other hq (by decide) j u, h.so.other hq (by decide) j u, h.sf.other hq (by decide) j u, h.aio, h.aif, h.aof, h.ari⟩
  obtain ⟨g, ha, h0, h1, h2, hb⟩ := h.on
  exact ⟨g, ha, h0, h1, h2, hb.other (a := ⟨q, j, none⟩) (Blk.ne2 hb hq (by decide)) u⟩
theorem OwnS.set7 {A : Nat} {w : World} {s : St} {b : Nat} {f : Nat → Value} (h : OwnS A w s) (hq : Blk w b 31 7 f) (v0 v1 v2 v3 v4 v5 v6 : Value) : OwnS A (Go.Proofs.YtbcacebifpagpaeGreat.set7 w b v0 v1 v2 v3 v4 v5 v6) s :=
  ((((((h.box hq 0 v0).box (hq.set 0 v0) 1 v1).box ((hq.set 0 v0).set 1 v1) 2 v2).box (((hq.set 0 v0).set 1 v1).set 2 v2) 3 v3).box ((((hq.set 0 v0).set 1 v1).set 2 v2).set 3 v3) 4 v4).box (((((hq.set 0 v0).set 1 v1).set 2 v2).set 3 v3).set 4 v4) 5 v5).box ((((((hq.set 0 v0).set 1 v1).set 2 v2).set 3 v3).set 4 v4).set 5 v5) 6 v6
def DRows (A : Nat) (s : St) (v : Value) (g : List Nat) (wk : World) : Prop := ∃ (g0 : Nat) (G C : Nat → Nat), v = .slice (some ⟨g0, 0, none⟩) s.on.n s.on.n ∧ A ≤ g0 ∧ Blk wk g0 23 s.on.n (fun i => .slice (some ⟨G i, 0, none⟩) (s.on.r i).n (C i)) ∧
  (∀ i, i < s.on.n → A ≤ G i ∧ (s.on.r i).n ≤ C i ∧ C i ≤ maxLen ∧ Blk wk (G i) 3 (s.on.r i).n (fun j => .int .i64 ((s.on.r i).z j))) ∧ (∀ i j, i < j → j < s.on.n → G i < G j) ∧ g = (List.range s.on.n).map G
theorem DRows.below {A : Nat} {s : St} {v : Value} {g : List Nat} {w w' : World} (h : DRows A s v g w) (hB : Below w.heap.size w w') : DRows A s v g w' := by
  obtain ⟨g0, G, C, h1, h2, h3, h4, h5, h6⟩ := h
  exact ⟨g0, G, C, h1, h2, h3.below hB, fun i hi => ⟨(h4 i hi).1, (h4 i hi).2.1, (h4 i hi).2.2.1, (h4 i hi).2.2.2.below hB⟩, h5, h6⟩
theorem DRows.lt {A : Nat} {s : St} {v : Value} {g : List Nat} {w : World} (h : DRows A s v g w) : ∀ x ∈ g, x < w.heap.size := by
  obtain ⟨g0, G, C, h1, h2, h3, h4, h5, rfl⟩ := h
  intro x hx
  obtain ⟨i, hi, rfl⟩ := List.mem_map.1 hx
  exact (h4 i (List.mem_range.1 hi)).2.2.2.lt
def DInts (A : Nat) (r : Rw) (v : Value) (g : List Nat) (wk : World) : Prop := ∃ B c, g = [B] ∧ v = .slice (some ⟨B, 0, none⟩) r.n c ∧ A ≤ B ∧ r.n ≤ c ∧ c ≤ maxLen ∧ Blk wk B 3 r.n (fun j => .int .i64 (r.z j))
theorem DInts.below {A : Nat} {r : Rw} {v : Value} {g : List Nat} {w w' : World} (h : DInts A r v g w) (hB : Below w.heap.size w w') : DInts A r v g w' := by
  obtain ⟨B, c, h1, h2, h3, h4, h5, h6⟩ := h
  exact ⟨B, c, h1, h2, h3, h4, h5, h6.below hB⟩
theorem DInts.lt {A : Nat} {r : Rw} {v : Value} {g : List Nat} {w : World} (h : DInts A r v g w) : ∀ x ∈ g, x < w.heap.size := by
  obtain ⟨B, c, rfl, h2, h3, h4, h5, h6⟩ := h
  intro x hx
  rw [List.mem_singleton] at hx
  subst hx
  exact h6.lt
def DHs (A : Nat) (e : TypeId) (s : Hs) (v : Value) (g : List Nat) (wk : World) : Prop := ∃ s' : Hs, g = [] ∧ v = .slice s'.a s'.n s'.c ∧ Cloned A e s wk s'
theorem DHs.below {A : Nat} {e : TypeId} {s : Hs} {v : Value} {g : List Nat} {w w' : World} (h : DHs A e s v g w) (hB : Below w.heap.size w w') : DHs A e s v g w' := by
  obtain ⟨s', h1, h2, h3, h4, h5, h6⟩ := h
  exact ⟨s', h1, h2, h3, h4, h5.below hB, h6.below hB⟩
theorem OwnO.below {A : Nat} {w w' : World} {s : Os} (h : OwnO A w s) (hB : Below w.heap.size w w') : OwnO A w' s := by
  refine ⟨h.le, h.cap, fun hn => ?_, fun i hi => ?_, h.apart, h.room.below hB⟩
  · obtain ⟨g, a, b, c⟩ := h.list hn
    exact ⟨g, a, b, c.below hB⟩
  · obtain ⟨B, a, b, c, d, e⟩ := h.lines i hi
    exact ⟨B, a, b, c, d, e.below hB⟩
theorem OwnO.mono {A A' : Nat} {w : World} {s : Os} (h : OwnO A w s) (hA : A' ≤ A) : OwnO A' w s := by
  refine ⟨h.le, h.cap, fun hn => ?_, fun i hi => ?_, h.apart, h.room.mono hA⟩
  · obtain ⟨g, a, b, c⟩ := h.list hn
    exact ⟨g, a, by omega, c⟩
  · obtain ⟨B, a, b, c⟩ := h.lines i hi
    exact ⟨B, a, by omega, c⟩
def DOs (A : Nat) (s : Os) (v : Value) (g : List Nat) (wk : World) : Prop := ∃ s' : Os, g = [] ∧ v = .slice s'.a s'.n s'.c ∧ SameO s' s ∧ OwnO A wk s'
theorem DOs.below {A : Nat} {s : Os} {v : Value} {g : List Nat} {w w' : World} (h : DOs A s v g w) (hB : Below w.heap.size w w') : DOs A s v g w' := by
  obtain ⟨s', h1, h2, h3, h4⟩ := h
  exact ⟨s', h1, h2, h3, h4.below hB⟩
set_option maxRecDepth 100000 in
set_option maxHeartbeats 4000000 in
theorem copyState_any (p : Pl) (s : St) (w : World) (hs : s.At w) (f : Formed p s) :
    Calls Tryz.prog 10 #[s.val] w fun e w' => ∃ s' : St, e = .returned s'.val ∧ SameT s' s ∧ OwnS w.heap.size w' s' ∧ Below w.heap.size w w' := by
  obtain ⟨W0, hW, hWB, X0, Z0⟩ : ∃ W, ((w.alloc (.cells s.cells 31)).alloc (.cells #[.slice .none 0 0, .slice .none 0 0, .slice .none 0 0, .slice .none 0 0, .slice .none 0 0, .slice .none 0 0, .slice .none 0 0] 31)) = W ∧ Below w.heap.size w W ∧ Blk W w.heap.size 31 7 (fun j => s.cells.getD j default) ∧ Blk W (w.heap.size + 1) 31 7 (fun _ => .slice .none 0 0) :=
    ⟨_, rfl, two_below _ _ _, (Blk.mk' rfl rfl).alloc _, (Blk.mk' (cur := #[.slice .none 0 0, .slice .none 0 0, .slice .none 0 0, .slice .none 0 0, .slice .none 0 0, .slice .none 0 0, .slice .none 0 0]) (by simp) rfl).congr (fun j hj => by match j, hj with | 0, _ => rfl | 1, _ => rfl | 2, _ => rfl | 3, _ => rfl | 4, _ => rfl | 5, _ => rfl | 6, _ => rfl)⟩
  have HW : Hid ((w.alloc (.cells #[.slice s.on.a s.on.n s.on.c, .slice s.os.a s.os.n s.os.c, .slice s.hs.a s.hs.n s.hs.c, .slice s.ms.a s.ms.n s.ms.c, .slice s.si.a s.si.n s.si.c, .slice s.so.a s.so.n s.so.c, .slice s.sf.a s.sf.n s.sf.c] 31)).alloc (.cells #[.slice .none 0 0, .slice .none 0 0, .slice .none 0 0, .slice .none 0 0, .slice .none 0 0, .slice .none 0 0, .slice .none 0 0] 31) = W0) := hW
  have HS : Hid (s.At W0) := hs.below hWB
  have HF : Hid (Formed p s) := f
  have HZ : Hid (Blk W0 (w.heap.size + 1) 31 7 (fun _ => .slice .none 0 0)) := Z0
  have hsz0 := hWB.size
  obtain ⟨l1, c0, c1, c2, c3, c4, c5, c6⟩ := Boxed.of X0
  have r0 : ∀ d os, (grow (redrawn W0 d) os).cell? ⟨w.heap.size, 0, none⟩ = some (.slice s.on.a s.on.n s.on.c) := fun d os => cell_regrown c0 d os
  have r1 : ∀ d os, (grow (redrawn W0 d) os).cell? ⟨w.heap.size, 1, none⟩ = some (.slice s.os.a s.os.n s.os.c) := fun d os => cell_regrown c1 d os
  have r2 : ∀ d os, (grow (redrawn W0 d) os).cell? ⟨w.heap.size, 2, none⟩ = some (.slice s.hs.a s.hs.n s.hs.c) := fun d os => cell_regrown c2 d os
  have r3 : ∀ d os, (grow (redrawn W0 d) os).cell? ⟨w.heap.size, 3, none⟩ = some (.slice s.ms.a s.ms.n s.ms.c) := fun d os => cell_regrown c3 d os
  have r4 : ∀ d os, (grow (redrawn W0 d) os).cell? ⟨w.heap.size, 4, none⟩ = some (.slice s.si.a s.si.n s.si.c) := fun d os => cell_regrown c4 d os
  have r5 : ∀ d os, (grow (redrawn W0 d) os).cell? ⟨w.heap.size, 5, none⟩ = some (.slice s.so.a s.so.n s.so.c) := fun d os => cell_regrown c5 d os
  have r6 : ∀ d os, (grow (redrawn W0 d) os).cell? ⟨w.heap.size, 6, none⟩ = some (.slice s.sf.a s.sf.n s.sf.c) := fun d os => cell_regrown c6 d os
  clear hW X0 Z0 hs f c0 c1 c2 c3 c4 c5 c6
  unfold St.val
  go_enter Tryz.func10, Tryz.ntmps10
  go_wp2_with fail
  rw [HW.out]
  refine wp_region_made5 (fun w' => ∃ p : Regrown, w' = grow (redrawn W0 p.d) p.os) [0, 1, 3, 4, 6, 7, 9, 10, 12, 13, 15, 16, 18, 19] [2, 5, 8, 11, 14, 17, 20] [(false, 21), (true, 22)] (by kernel_rfl) (by kernel_rfl) (by kernel_rfl) (by kernel_rfl) (by kernel_rfl) (by kernel_rfl) (by kernel_rfl) (by kernel_rfl) (by kernel_rfl) (regrown_of_below ((Below.refl _ _).drew)) ?_
  simp only [picks, List.drop_succ_cons, List.drop_zero, List.take_succ_cons, List.take_zero, List.cons_append, List.nil_append]
  repeat (go_big_quiet_step (fail))
  refine wpQuiet_nil ?_
  clear r0 r1 r2 r3 r4 r5 r6
  refine ⟨fun j v g wk => match j with | 2 => DRows w.heap.size s v g wk | 5 => DOs w.heap.size s.os v g wk | 8 => DHs w.heap.size 58 s.hs v g wk | 11 => DHs w.heap.size 56 s.ms v g wk | 14 => DInts w.heap.size s.si v g wk | 17 => DInts w.heap.size s.so v g wk | 20 => DInts w.heap.size s.sf v g wk | _ => True,
    List.forall_mem_cons.2 ⟨fun v g w w' hB h => DRows.below h hB, List.forall_mem_cons.2 ⟨fun v g w w' hB h => DOs.below h hB, List.forall_mem_cons.2 ⟨fun v g w w' hB h => DHs.below h hB, List.forall_mem_cons.2 ⟨fun v g w w' hB h => DHs.below h hB, List.forall_mem_cons.2 ⟨fun v g w w' hB h => DInts.below h hB, List.forall_mem_cons.2 ⟨fun v g w w' hB h => DInts.below h hB, List.forall_mem_cons.2 ⟨fun v g w w' hB h => DInts.below h hB, List.forall_mem_nil _⟩⟩⟩⟩⟩⟩⟩,
    List.forall_mem_cons.2 ⟨fun v g w h => DRows.lt h, List.forall_mem_cons.2 ⟨fun v g w h => by obtain ⟨_, h1, _⟩ := h; rw [h1]; intro x hx; simp at hx, List.forall_mem_cons.2 ⟨fun v g w h => by obtain ⟨_, h1, _⟩ := h; rw [h1]; intro x hx; simp at hx, List.forall_mem_cons.2 ⟨fun v g w h => by obtain ⟨_, h1, _⟩ := h; rw [h1]; intro x hx; simp at hx, List.forall_mem_cons.2 ⟨fun v g w h => DInts.lt h, List.forall_mem_cons.2 ⟨fun v g w h => DInts.lt h, List.forall_mem_cons.2 ⟨fun v g w h => DInts.lt h, List.forall_mem_nil _⟩⟩⟩⟩⟩⟩⟩,
    List.forall_mem_cons.2 ⟨?zs2, List.forall_mem_cons.2 ⟨?zs5, List.forall_mem_cons.2 ⟨?zs8, List.forall_mem_cons.2 ⟨?zs11, List.forall_mem_cons.2 ⟨?zs14, List.forall_mem_cons.2 ⟨?zs17, List.forall_mem_cons.2 ⟨?zs20, List.forall_mem_nil _⟩⟩⟩⟩⟩⟩⟩, ?zdone⟩
  case zs2 =>
    intro V G wk K hS hd hK
    have hX := below_of_regrown hS
    refine wpOp_list 2 rfl ?_
    simp only [putAll, dstOf, List.getElem?_toArray, List.getElem?_cons_succ, List.getElem?_cons_zero, Act.put, List.setIfInBounds_toArray, List.set_cons_succ, List.set_cons_zero] at hK ⊢
    go_wp2_with fail
    refine (copyRows_any s.on wk (HS.out.on.below hX) (by rw [HF.out.sh.n]; exact HF.out.sh.pl.nb6) (fun i hi => by rw [HF.out.sh.len i hi]; exact ⟨HF.out.sh.pl.ns1, HF.out.sh.pl.ns3⟩)).mono ?_
    rintro e w2 ⟨g0, Gr, Cr, rfl, a1, a2, a3, a4, hB2⟩
    go_wp2_with fail
    have q := hX.size
    refine hK _ ((List.range s.on.n).map Gr) _ (regrown_of_below (hX.trans (hB2.mono hX.size))) hB2 (fun x hx => ?_) ⟨g0, Gr, Cr, rfl, by omega, a2, fun i hi => ⟨by have := (a3 i hi).1; omega, (a3 i hi).2⟩, a4, rfl⟩
    obtain ⟨i, hi, rfl⟩ := List.mem_map.1 hx
    have := (a3 i (List.mem_range.1 hi)).1
    omega
  case zs5 =>
    intro V G wk K hS hd hK
    have hX := below_of_regrown hS
    refine wpOp_list 5 rfl ?_
    simp only [putAll, dstOf, List.getElem?_toArray, List.getElem?_cons_succ, List.getElem?_cons_zero, Act.put, List.setIfInBounds_toArray, List.set_cons_succ, List.set_cons_zero] at hK ⊢
    go_wp2_with fail
    refine (copyOrders_any s.os wk (HS.out.os.below hX) (by have := HF.out.os4; omega) HF.out.lns).mono ?_
    rintro e w2 ⟨s', rfl, a1, a2, hB2⟩
    have q := hX.size
    have HR : Hid (SameO s' s.os ∧ OwnO w.heap.size w2 s') := ⟨a1, a2.mono (by omega)⟩
    clear a1 a2
    simp only [Os.val]
    go_wp2_with fail
    exact hK _ [] _ (regrown_of_below (hX.trans (hB2.mono hX.size))) hB2 (fun x hx => by simp at hx) ⟨s', rfl, rfl, HR.out.1, HR.out.2⟩
  case zs8 =>
    intro V G wk K hS hd hK
    have hX := below_of_regrown hS
    refine wpOp_list 8 rfl ?_
    simp only [putAll, dstOf, List.getElem?_toArray, List.getElem?_cons_succ, List.getElem?_cons_zero, Act.put, List.setIfInBounds_toArray, List.set_cons_succ, List.set_cons_zero] at hK ⊢
    go_wp2_with fail
    refine (CloneHold_any s.hs wk (HS.out.hs.below hX) (by have := HF.out.hs72; omega)).mono ?_
    rintro e w2 ⟨s', rfl, hc, hB2⟩
    have q := hX.size
    have HR : Hid (Cloned w.heap.size 58 s.hs w2 s') := ⟨hc.1, hc.2.1, hc.2.2.1.mono (by omega), hc.2.2.2.mono (by omega)⟩
    clear hc
    simp only [Hs.val]
    go_wp2_with fail
    exact hK _ [] _ (regrown_of_below (hX.trans (hB2.mono hX.size))) hB2 (fun x hx => by simp at hx) ⟨s', rfl, rfl, HR.out⟩
  case zs11 =>
    intro V G wk K hS hd hK
    have hX := below_of_regrown hS
    refine wpOp_list 11 rfl ?_
    simp only [putAll, dstOf, List.getElem?_toArray, List.getElem?_cons_succ, List.getElem?_cons_zero, Act.put, List.setIfInBounds_toArray, List.set_cons_succ, List.set_cons_zero] at hK ⊢
    go_wp2_with fail
    refine (CloneMove_any s.ms wk (HS.out.ms.below hX) (by have := HF.out.ms8; omega)).mono ?_
    rintro e w2 ⟨s', rfl, hc, hB2⟩
    have q := hX.size
    have HR : Hid (Cloned w.heap.size 56 s.ms w2 s') := ⟨hc.1, hc.2.1, hc.2.2.1.mono (by omega), hc.2.2.2.mono (by omega)⟩
    clear hc
    simp only [Hs.val]
    go_wp2_with fail
    exact hK _ [] _ (regrown_of_below (hX.trans (hB2.mono hX.size))) hB2 (fun x hx => by simp at hx) ⟨s', rfl, rfl, HR.out⟩
  case zs14 =>
    intro V G wk K hS hd hK
    have hX := below_of_regrown hS
    have hn1 := HF.out.sh.pl.ns1
    have hn3 := HF.out.sh.pl.ns3
    have HCI : Hid (Calls Tryz.prog 37 #[.slice s.si.a s.si.n s.si.c] wk fun e w' => ∃ g c', e = .returned (.slice (some ⟨g, 0, none⟩) s.si.n c') ∧ s.si.n ≤ c' ∧ c' ≤ maxLen ∧ wk.heap.size ≤ g ∧ Blk w' g 3 s.si.n (fun j => .int .i64 (s.si.z j)) ∧ Below wk.heap.size wk w') := by
      have hr := HS.out.si.below hX
      obtain ⟨b, o, ha, -, -⟩ := hr.ints 0 (by rw [HF.out.sin]; omega)
      have hi := hr.ints
      have hz : s.si.n = p.ns := HF.out.sin
      rw [ha] at hi
      have := Clone_any b o s.si.n s.si.c s.si.z wk (by omega) (by omega) hi
      rw [← ha] at this
      exact this
    refine wpOp_list 14 rfl ?_
    simp only [putAll, dstOf, List.getElem?_toArray, List.getElem?_cons_succ, List.getElem?_cons_zero, Act.put, List.setIfInBounds_toArray, List.set_cons_succ, List.set_cons_zero] at hK ⊢
    go_wp2_with fail
    refine HCI.out.mono ?_
    rintro e w2 ⟨g, c', rfl, a1, a2, a3, a4, hB2⟩
    have q := hX.size
    go_wp2_with fail
    exact hK _ [g] _ (regrown_of_below (hX.trans (hB2.mono hX.size))) hB2 (fun x hx => by rw [List.mem_singleton] at hx; omega) ⟨g, c', rfl, rfl, by omega, a1, a2, a4⟩
  case zs17 =>
    intro V G wk K hS hd hK
    have hX := below_of_regrown hS
    have hn1 := HF.out.sh.pl.ns1
    have hn3 := HF.out.sh.pl.ns3
    have HCI : Hid (Calls Tryz.prog 37 #[.slice s.so.a s.so.n s.so.c] wk fun e w' => ∃ g c', e = .returned (.slice (some ⟨g, 0, none⟩) s.so.n c') ∧ s.so.n ≤ c' ∧ c' ≤ maxLen ∧ wk.heap.size ≤ g ∧ Blk w' g 3 s.so.n (fun j => .int .i64 (s.so.z j)) ∧ Below wk.heap.size wk w') := by
      have hr := HS.out.so.below hX
      obtain ⟨b, o, ha, -, -⟩ := hr.ints 0 (by rw [HF.out.son]; omega)
      have hi := hr.ints
      have hz : s.so.n = p.ns := HF.out.son
      rw [ha] at hi
      have := Clone_any b o s.so.n s.so.c s.so.z wk (by omega) (by omega) hi
      rw [← ha] at this
      exact this
    refine wpOp_list 17 rfl ?_
    simp only [putAll, dstOf, List.getElem?_toArray, List.getElem?_cons_succ, List.getElem?_cons_zero, Act.put, List.setIfInBounds_toArray, List.set_cons_succ, List.set_cons_zero] at hK ⊢
    go_wp2_with fail
    refine HCI.out.mono ?_
    rintro e w2 ⟨g, c', rfl, a1, a2, a3, a4, hB2⟩
    have q := hX.size
    go_wp2_with fail
    exact hK _ [g] _ (regrown_of_below (hX.trans (hB2.mono hX.size))) hB2 (fun x hx => by rw [List.mem_singleton] at hx; omega) ⟨g, c', rfl, rfl, by omega, a1, a2, a4⟩
  case zs20 =>
    intro V G wk K hS hd hK
    have hX := below_of_regrown hS
    have hn1 := HF.out.sh.pl.ns1
    have hn3 := HF.out.sh.pl.ns3
    have HCI : Hid (Calls Tryz.prog 37 #[.slice s.sf.a s.sf.n s.sf.c] wk fun e w' => ∃ g c', e = .returned (.slice (some ⟨g, 0, none⟩) s.sf.n c') ∧ s.sf.n ≤ c' ∧ c' ≤ maxLen ∧ wk.heap.size ≤ g ∧ Blk w' g 3 s.sf.n (fun j => .int .i64 (s.sf.z j)) ∧ Below wk.heap.size wk w') := by
      have hr := HS.out.sf.below hX
      obtain ⟨b, o, ha, -, -⟩ := hr.ints 0 (by rw [HF.out.sfn]; omega)
      have hi := hr.ints
      have hz : s.sf.n = p.ns := HF.out.sfn
      rw [ha] at hi
      have := Clone_any b o s.sf.n s.sf.c s.sf.z wk (by omega) (by omega) hi
      rw [← ha] at this
      exact this
    refine wpOp_list 20 rfl ?_
    simp only [putAll, dstOf, List.getElem?_toArray, List.getElem?_cons_succ, List.getElem?_cons_zero, Act.put, List.setIfInBounds_toArray, List.set_cons_succ, List.set_cons_zero] at hK ⊢
    go_wp2_with fail
    refine HCI.out.mono ?_
    rintro e w2 ⟨g, c', rfl, a1, a2, a3, a4, hB2⟩
    have q := hX.size
    go_wp2_with fail
    exact hK _ [g] _ (regrown_of_below (hX.trans (hB2.mono hX.size))) hB2 (fun x hx => by rw [List.mem_singleton] at hx; omega) ⟨g, c', rfl, rfl, by omega, a1, a2, a4⟩
  case zdone =>
    intro V G wk hS hD hA
    obtain ⟨g0, Gr, Cr, v2, a1, a2, a3, a4, gg2⟩ : DRows w.heap.size s (V 2) (G 2) wk := hD 2 (by simp)
    obtain ⟨o', -, v5, b1, b2⟩ : DOs w.heap.size s.os (V 5) (G 5) wk := hD 5 (by simp)
    obtain ⟨h', -, v8, d1, d2, d3, -⟩ : DHs w.heap.size 58 s.hs (V 8) (G 8) wk := hD 8 (by simp)
    obtain ⟨m', -, v11, f1, f2, f3, f4⟩ : DHs w.heap.size 56 s.ms (V 11) (G 11) wk := hD 11 (by simp)
    obtain ⟨B1, k1, gg14, v14, i1, i2, i3, i4⟩ : DInts w.heap.size s.si (V 14) (G 14) wk := hD 14 (by simp)
    obtain ⟨B2, k2, gg17, v17, j1, j2, j3, j4⟩ : DInts w.heap.size s.so (V 17) (G 17) wk := hD 17 (by simp)
    obtain ⟨B3, k3, gg20, v20, l2, l3, l4, l5⟩ : DInts w.heap.size s.sf (V 20) (G 20) wk := hD 20 (by simp)
    have n12 : B1 ≠ B2 := fun e => hA 14 (by simp) 17 (by simp) (by decide) B1 (by rw [gg14]; simp) (by rw [gg17, e]; simp)
    have n13 : B1 ≠ B3 := fun e => hA 14 (by simp) 20 (by simp) (by decide) B1 (by rw [gg14]; simp) (by rw [gg20, e]; simp)
    have n23 : B2 ≠ B3 := fun e => hA 17 (by simp) 20 (by simp) (by decide) B2 (by rw [gg17]; simp) (by rw [gg20, e]; simp)
    have nr : ∀ i, i < s.on.n → Gr i ≠ B1 ∧ Gr i ≠ B2 ∧ Gr i ≠ B3 := fun i hi => by
      have hm : Gr i ∈ G 2 := by rw [gg2]; exact List.mem_map.2 ⟨i, List.mem_range.2 hi, rfl⟩
      exact ⟨fun e => hA 2 (by simp) 14 (by simp) (by decide) _ hm (by rw [gg14, e]; simp), fun e => hA 2 (by simp) 17 (by simp) (by decide) _ hm (by rw [gg17, e]; simp), fun e => hA 2 (by simp) 20 (by simp) (by decide) _ hm (by rw [gg20, e]; simp)⟩
    have hX := below_of_regrown hS
    have hz := HZ.out.below hX
    clear hD hA gg2 gg14 gg17 gg20
    have HR : Hid (OwnS w.heap.size wk ⟨⟨some ⟨g0, 0, none⟩, s.on.n, s.on.n, fun i => ⟨some ⟨Gr i, 0, none⟩, (s.on.r i).n, Cr i, (s.on.r i).z⟩⟩, o', h', m', ⟨some ⟨B1, 0, none⟩, s.si.n, k1, s.si.z⟩, ⟨some ⟨B2, 0, none⟩, s.so.n, k2, s.so.z⟩, ⟨some ⟨B3, 0, none⟩, s.sf.n, k3, s.sf.z⟩⟩) := by
      refine ⟨⟨g0, rfl, a1, Nat.le_refl _, ?_, a2⟩, fun i hi => ⟨Gr i, rfl, (a3 i hi).1, (a3 i hi).2.1, (a3 i hi).2.2.1, (a3 i hi).2.2.2⟩, fun i j hij hj => ?_, b2, d3, f3, f4, ⟨B1, rfl, i1, i2, i3, i4⟩, ⟨B2, rfl, j1, j2, j3, j4⟩, ⟨B3, rfl, l2, l3, l4, l5⟩, ?_, ?_, ?_, fun i hi => ?_⟩
      · show s.on.n ≤ maxLen
        have := HF.out.sh.n
        have := HF.out.sh.pl.nb6
        unfold maxLen
        omega
      · have := a4 i j hij hj
        simp only [ne_eq, Option.some.injEq, Addr.mk.injEq, and_true]
        omega
      · intro e; simp only [Option.some.injEq, Addr.mk.injEq, and_true] at e; exact n12 e
      · intro e; simp only [Option.some.injEq, Addr.mk.injEq, and_true] at e; exact n13 e
      · intro e; simp only [Option.some.injEq, Addr.mk.injEq, and_true] at e; exact n23 e
      · obtain ⟨x1, x2, x3⟩ := nr i hi
        exact ⟨fun e => by simp only [Option.some.injEq, Addr.mk.injEq, and_true] at e; exact x1 e, fun e => by simp only [Option.some.injEq, Addr.mk.injEq, and_true] at e; exact x2 e, fun e => by simp only [Option.some.injEq, Addr.mk.injEq, and_true] at e; exact x3 e⟩
    have HC : Hid (SameT ⟨⟨some ⟨g0, 0, none⟩, s.on.n, s.on.n, fun i => ⟨some ⟨Gr i, 0, none⟩, (s.on.r i).n, Cr i, (s.on.r i).z⟩⟩, o', h', m', ⟨some ⟨B1, 0, none⟩, s.si.n, k1, s.si.z⟩, ⟨some ⟨B2, 0, none⟩, s.so.n, k2, s.so.z⟩, ⟨some ⟨B3, 0, none⟩, s.sf.n, k3, s.sf.z⟩⟩ s) :=
      ⟨⟨rfl, fun i hi => ⟨rfl, fun j hj => rfl⟩⟩, b1, ⟨d1, fun j hj => d2 j (by rw [← d1]; exact hj)⟩, ⟨f1, fun j hj => f2 j (by rw [← f1]; exact hj)⟩, ⟨rfl, fun j hj => rfl⟩, ⟨rfl, fun j hj => rfl⟩, ⟨rfl, fun j hj => rfl⟩⟩
    clear a1 a2 a3 a4 b1 b2 d1 d2 d3 f1 f2 f3 f4 i1 i2 i3 i4 j1 j2 j3 j4 l2 l3 l4 l5 n12 n13 n23 nr
    have HZ2 : Hid (Blk wk (w.heap.size + 1) 31 7 (fun _ => .slice .none 0 0)) := hz
    have zl := hz.lt
    have zf0 := hz.frozen 0
    have zc0 := hz.cell (j := 0) (by decide)
    have zf1 := hz.frozen 1
    have zc1 := hz.cell (j := 1) (by decide)
    have zf2 := hz.frozen 2
    have zc2 := hz.cell (j := 2) (by decide)
    have zf3 := hz.frozen 3
    have zc3 := hz.cell (j := 3) (by decide)
    have zf4 := hz.frozen 4
    have zc4 := hz.cell (j := 4) (by decide)
    have zf5 := hz.frozen 5
    have zc5 := hz.cell (j := 5) (by decide)
    have zf6 := hz.frozen 6
    have zc6 := hz.cell (j := 6) (by decide)
    clear hz
    simp only [putAll, dstOf, List.getElem?_toArray, List.getElem?_cons_succ, List.getElem?_cons_zero, Act.put, List.setIfInBounds_toArray, List.set_cons_succ, List.set_cons_zero, v2, v5, v8, v11, v14, v17, v20]
    refine wpSeq_one 21 rfl ?_
    go_wp2_with fail
    refine ⟨Late.no hS, ?_⟩
    refine wpSeq_one 22 rfl ?_
    go_wp2_with fail
    refine ⟨Late.yes, ?_⟩
    refine NoPanic.normal ?_
    have KZ := set7_blk HZ2.out (.slice (some ⟨g0, 0, none⟩) s.on.n s.on.n) (.slice o'.a o'.n o'.c) (.slice h'.a h'.n h'.c) (.slice m'.a m'.n m'.c) (.slice (some ⟨B1, 0, none⟩) s.si.n k1) (.slice (some ⟨B2, 0, none⟩) s.so.n k2) (.slice (some ⟨B3, 0, none⟩) s.sf.n k3)
    have hbz := set7_below (b := w.heap.size + 1) (hWB.trans (hX.mono hWB.size)) (by omega) (.slice (some ⟨g0, 0, none⟩) s.on.n s.on.n) (.slice o'.a o'.n o'.c) (.slice h'.a h'.n h'.c) (.slice m'.a m'.n m'.c) (.slice (some ⟨B1, 0, none⟩) s.si.n k1) (.slice (some ⟨B2, 0, none⟩) s.so.n k2) (.slice (some ⟨B3, 0, none⟩) s.sf.n k3)
    have HR2 := OwnS.set7 HR.out HZ2.out (.slice (some ⟨g0, 0, none⟩) s.on.n s.on.n) (.slice o'.a o'.n o'.c) (.slice h'.a h'.n h'.c) (.slice m'.a m'.n m'.c) (.slice (some ⟨B1, 0, none⟩) s.si.n k1) (.slice (some ⟨B2, 0, none⟩) s.so.n k2) (.slice (some ⟨B3, 0, none⟩) s.sf.n k3)
    unfold set7 at KZ hbz HR2
    generalize (((((((wk.setCell { block := w.heap.size + 1, off := 0 } (Value.slice (some { block := g0, off := 0 }) s.on.n s.on.n)).setCell { block := w.heap.size + 1, off := 1 } (Value.slice o'.a o'.n o'.c)).setCell { block := w.heap.size + 1, off := 2 } (Value.slice h'.a h'.n h'.c)).setCell { block := w.heap.size + 1, off := 3 } (Value.slice m'.a m'.n m'.c)).setCell { block := w.heap.size + 1, off := 4 } (Value.slice (some { block := B1, off := 0 }) s.si.n k1)).setCell { block := w.heap.size + 1, off := 5 } (Value.slice (some { block := B2, off := 0 }) s.so.n k2)).setCell { block := w.heap.size + 1, off := 6 } (Value.slice (some { block := B3, off := 0 }) s.sf.n k3)) = WY at *
    clear hX zl zf0 zc0 zf1 zc1 zf2 zc2 zf3 zc3 zf4 zc4 zf5 zc5 zf6 zc6 v2 v5 v8 v11 v14 v17 v20 hS
    obtain ⟨c0, c1, c2, c3, c4, c5, c6⟩ := box_cells KZ
    have HQ : Hid (OwnS w.heap.size WY ⟨⟨some ⟨g0, 0, none⟩, s.on.n, s.on.n, fun i => ⟨some ⟨Gr i, 0, none⟩, (s.on.r i).n, Cr i, (s.on.r i).z⟩⟩, o', h', m', ⟨some ⟨B1, 0, none⟩, s.si.n, k1, s.si.z⟩, ⟨some ⟨B2, 0, none⟩, s.so.n, k2, s.so.z⟩, ⟨some ⟨B3, 0, none⟩, s.sf.n, k3, s.sf.z⟩⟩) := HR2
    clear HR2
    go_wp2_with fail
    refine bodyPost_ret (v := (⟨⟨some ⟨g0, 0, none⟩, s.on.n, s.on.n, fun i => ⟨some ⟨Gr i, 0, none⟩, (s.on.r i).n, Cr i, (s.on.r i).z⟩⟩, o', h', m', ⟨some ⟨B1, 0, none⟩, s.si.n, k1, s.si.z⟩, ⟨some ⟨B2, 0, none⟩, s.so.n, k2, s.so.z⟩, ⟨some ⟨B3, 0, none⟩, s.sf.n, k3, s.sf.z⟩⟩ : St).val) (by simp [results, Tryz.results10, go_sem, St.val, c0, c1, c2, c3, c4, c5, c6]) rfl ?_
    exact ⟨_, rfl, HC.out, HQ.out, hbz⟩
theorem OwnS.mono {A A' : Nat} {w : World} {s : St} (h : OwnS A w s) (hA : A' ≤ A) : OwnS A' w s := by
  have i : ∀ {r : Rw}, OwnI A w r → OwnI A' w r := fun ⟨g, a, b, c⟩ => ⟨g, a, Nat.le_trans hA b, c⟩
  refine ⟨?_, fun j hj => i (h.rows j hj), h.rapart, h.os.mono hA, h.hs.mono hA, h.ms.mono hA, h.msr.mono hA, i h.si, i h.so, i h.sf, h.aio, h.aif, h.aof, h.ari⟩
  obtain ⟨g, a, b, c⟩ := h.on
  exact ⟨g, a, Nat.le_trans hA b, c⟩
end Go.Proofs.YtbcacebifpagpaeGreat
namespace Go.Proofs.YtbcacebifpagpaeGreat
open Go.RowKit Go.Shelf Go.Sort
set_option linter.unusedVariables false
def comingTo (s : St) (b g : Int) : Nat → Int
  | 0 => 0
  | k + 1 => comingTo s b g k + (if (s.ms.z k).b = b ∧ (s.ms.z k).o = g then (s.ms.z k).n else 0)
theorem comingTo_bd {s : St} {b g : Int} : ∀ {n : Nat}, (∀ j, j < n → 1 ≤ (s.ms.z j).n ∧ (s.ms.z j).n ≤ 200) → 0 ≤ comingTo s b g n ∧ comingTo s b g n ≤ 200 * n
  | 0, _ => by simp [comingTo]
  | n + 1, h => by
    have ih := comingTo_bd (b := b) (g := g) (n := n) fun j hj => h j (by omega)
    have := h n (by omega)
    simp only [comingTo]
    split <;> omega
set_option maxHeartbeats 4000000 in
theorem AvailOf_any (p : Pl) (s : St) (bin good : Nat) (w : World) (hs : s.At w) (f : Formed p s) (hbin : bin < p.nb) (hgood : good < p.ns) :
    Calls Tryz.prog 50 #[s.val, .int .i64 bin, .int .i64 good] w fun e w' => e = .returned (.int .i64 (availZ s bin good)) ∧ Below w.heap.size w w' := by
  obtain ⟨W0, hW0, hWB, hX⟩ : ∃ W0, w.alloc (.cells s.cells 31) = W0 ∧ Below w.heap.size w W0 ∧ Blk W0 w.heap.size 31 7 (fun j => s.cells.getD j default) := ⟨_, rfl, (Below.refl w.heap.size w).alloc (Nat.le_refl _) _, Blk.mk' rfl rfl⟩
  have hs0 := hs.below hWB
  have hon : bin < s.on.n := by rw [f.sh.n]; exact hbin
  obtain ⟨bo, oo, hoa, hbo, y0, hrow⟩ := hs0.on.rows bin hon
  have hrn := f.sh.len bin hon
  have hnum := f.sh.num bin hon good hgood
  obtain ⟨br, orr, hra, hbr, y1⟩ := hrow.ints good (by omega)
  have hrle := hrow.le
  have hrcap := hrow.cap
  have hole := hs0.on.le
  have hocap := hs0.on.cap
  unfold maxLen at hrcap hocap
  rw [hra, hrn] at y0
  rw [hrn] at hrle
  have h72 := f.hs72
  have m8 := f.ms8
  have HB := heldTo_bd (s := s) (b := bin) (g := good) f.holdN
  have MB := fromTo_bd (s := s) (b := bin) (g := good) f.moveN
  have c0 : W0.cell? ⟨w.heap.size, 0, none⟩ = some (.slice s.on.a s.on.n s.on.c) := hX.cell (j := 0) (by decide)
  rw [hoa] at c0
  have HSA : Hid (s.At W0 ∧ s.on.a = some ⟨bo, oo, none⟩) := ⟨hs0, hoa⟩
  have r0 : ∀ d os, (grow (redrawn W0 d) os).cell? ⟨w.heap.size, 0, none⟩ = some (.slice (some ⟨bo, oo, none⟩) s.on.n s.on.c) := fun d os => cell_regrown c0 d os
  have r1 : ∀ d os, (grow (redrawn W0 d) os).cell? ⟨w.heap.size, 1, none⟩ = some (.slice s.os.a s.os.n s.os.c) := fun d os => cell_regrown (hX.cell (j := 1) (by decide)) d os
  have r2 : ∀ d os, (grow (redrawn W0 d) os).cell? ⟨w.heap.size, 2, none⟩ = some (.slice s.hs.a s.hs.n s.hs.c) := fun d os => cell_regrown (hX.cell (j := 2) (by decide)) d os
  have r3 : ∀ d os, (grow (redrawn W0 d) os).cell? ⟨w.heap.size, 3, none⟩ = some (.slice s.ms.a s.ms.n s.ms.c) := fun d os => cell_regrown (hX.cell (j := 3) (by decide)) d os
  have r4 : ∀ d os, (grow (redrawn W0 d) os).cell? ⟨w.heap.size, 4, none⟩ = some (.slice s.si.a s.si.n s.si.c) := fun d os => cell_regrown (hX.cell (j := 4) (by decide)) d os
  have r5 : ∀ d os, (grow (redrawn W0 d) os).cell? ⟨w.heap.size, 5, none⟩ = some (.slice s.so.a s.so.n s.so.c) := fun d os => cell_regrown (hX.cell (j := 5) (by decide)) d os
  have r6 : ∀ d os, (grow (redrawn W0 d) os).cell? ⟨w.heap.size, 6, none⟩ = some (.slice s.sf.a s.sf.n s.sf.c) := fun d os => cell_regrown (hX.cell (j := 6) (by decide)) d os
  have r7 : ∀ d os, (grow (redrawn W0 d) os).cell? ⟨bo, oo + bin, none⟩ = some (.slice (some ⟨br, orr, none⟩) p.ns (s.on.r bin).c) := fun d os => cell_regrown y0 d os
  have r8 : ∀ d os, (grow (redrawn W0 d) os).cell? ⟨br, orr + good, none⟩ = some (.int .i64 ((s.on.r bin).z good)) := fun d os => cell_regrown y1 d os
  have hbd : Hid (∀ wk, s.At wk → Calls Tryz.prog 20 #[.agg #[.slice (some ⟨bo, oo, none⟩) s.on.n s.on.c, .slice s.os.a s.os.n s.os.c, .slice s.hs.a s.hs.n s.hs.c, .slice s.ms.a s.ms.n s.ms.c, .slice s.si.a s.si.n s.si.c, .slice s.so.a s.so.n s.so.c, .slice s.sf.a s.sf.n s.sf.c], .int .i64 bin, .int .i64 good] wk fun e w' => e = .returned (.int .i64 (heldTo s bin good s.hs.n + fromTo s bin good s.ms.n)) ∧ Below wk.heap.size wk w') := fun wk h => by
    have := bound_any p s bin good wk h f
    rw [St.val, HSA.out.2] at this
    exact this
  have HE : Hid (availZ s bin good = (s.on.r bin).z good - (heldTo s bin good s.hs.n + fromTo s bin good s.ms.n)) := by show availZ s bin good = _; unfold availZ; omega
  have HW : Hid (w.alloc (.cells #[.slice (some ⟨bo, oo, none⟩) s.on.n s.on.c, .slice s.os.a s.os.n s.os.c, .slice s.hs.a s.hs.n s.hs.c, .slice s.ms.a s.ms.n s.ms.c, .slice s.si.a s.si.n s.si.c, .slice s.so.a s.so.n s.so.c, .slice s.sf.a s.sf.n s.sf.c] 31) = W0) := by show _ = W0; rw [← hW0, St.cells, hoa]
  have q1 : (0 : Int) ≤ (bin : Int) := by omega
  have q2 : (0 : Int) ≤ (good : Int) := by omega
  simp only [St.val, hoa]
  clear hX hW0 hrow hrn hoa hra hs0 c0 y0 y1 f hs
  generalize availZ s bin good = AV at *
  have hbs : 0 ≤ heldTo s bin good s.hs.n + fromTo s bin good s.ms.n ∧ heldTo s bin good s.hs.n + fromTo s bin good s.ms.n ≤ 16000 := by omega
  clear HB MB
  generalize heldTo s bin good s.hs.n + fromTo s bin good s.ms.n = BD at *
  generalize (s.on.r bin).z good = ON at *
  generalize (s.on.r bin).c = RC at *
  go_enter Tryz.func50, Tryz.ntmps50
  go_wp2_with fail
  rw [HW.out]
  refine wp_region_quiet_below (by kernel_rfl) (by kernel_rfl) ?_
  repeat (go_big_quiet_step ((go_at_call 20; exact Calls.regrown_of (hbd.out _ (HSA.out.1.below (below_regrown _ _ _))))))
  refine wpQuiet_nil ?_
  intro _ hw'
  obtain ⟨⟨dq, osq⟩, hw''⟩ := hw'
  subst hw''
  go_wp2_with fail
  go_ret
  exact ⟨by rw [HE.out]; rfl, hWB.trans ((below_regrown _ _ _).mono hWB.size)⟩
end Go.Proofs.YtbcacebifpagpaeGreat
namespace Go.Proofs.YtbcacebifpagpaeGreat
open Go.RowKit
set_option linter.unusedVariables false
theorem SameT.symm {s t : St} (h : SameT s t) : SameT t s := by
  refine ⟨⟨h.on.1.symm, fun i hi => ?_⟩, ⟨h.os.1.symm, fun i hi => ?_⟩, ⟨h.hs.1.symm, fun j hj => (h.hs.2 j (by rw [h.hs.1]; exact hj)).symm⟩, ⟨h.ms.1.symm, fun j hj => (h.ms.2 j (by rw [h.ms.1]; exact hj)).symm⟩, ⟨h.si.1.symm, fun j hj => (h.si.2 j (by rw [h.si.1]; exact hj)).symm⟩, ⟨h.so.1.symm, fun j hj => (h.so.2 j (by rw [h.so.1]; exact hj)).symm⟩, ⟨h.sf.1.symm, fun j hj => (h.sf.2 j (by rw [h.sf.1]; exact hj)).symm⟩⟩
  · have x := h.on.2 i (by rw [h.on.1]; exact hi)
    exact ⟨x.1.symm, fun j hj => (x.2 j (by rw [x.1]; exact hj)).symm⟩
  · have x := h.os.2 i (by rw [h.os.1]; exact hi)
    exact ⟨x.1.symm, x.2.1.symm, fun j hj => (x.2.2 j (by rw [x.2.1]; exact hj)).symm⟩
theorem SameT.trans {s t u : St} (h : SameT s t) (k : SameT t u) : SameT s u := by
  refine ⟨⟨h.on.1.trans k.on.1, fun i hi => ?_⟩, ⟨h.os.1.trans k.os.1, fun i hi => ?_⟩, ⟨h.hs.1.trans k.hs.1, fun j hj => (h.hs.2 j hj).trans (k.hs.2 j (by rw [← h.hs.1]; exact hj))⟩, ⟨h.ms.1.trans k.ms.1, fun j hj => (h.ms.2 j hj).trans (k.ms.2 j (by rw [← h.ms.1]; exact hj))⟩, ⟨h.si.1.trans k.si.1, fun j hj => (h.si.2 j hj).trans (k.si.2 j (by rw [← h.si.1]; exact hj))⟩, ⟨h.so.1.trans k.so.1, fun j hj => (h.so.2 j hj).trans (k.so.2 j (by rw [← h.so.1]; exact hj))⟩, ⟨h.sf.1.trans k.sf.1, fun j hj => (h.sf.2 j hj).trans (k.sf.2 j (by rw [← h.sf.1]; exact hj))⟩⟩
  · have x := h.on.2 i hi
    have y := k.on.2 i (by rw [← h.on.1]; exact hi)
    exact ⟨x.1.trans y.1, fun j hj => (x.2 j hj).trans (y.2 j (by rw [← x.1]; exact hj))⟩
  · have x := h.os.2 i hi
    have y := k.os.2 i (by rw [← h.os.1]; exact hi)
    exact ⟨x.1.trans y.1, x.2.1.trans y.2.1, fun j hj => (x.2.2 j hj).trans (y.2.2 j (by rw [← x.2.1]; exact hj))⟩
def setRw (r : Rw) (j : Nat) (x : Int) : Rw := ⟨r.a, r.n, r.c, fun i => if i = j then x else r.z i⟩
def setOn (s : St) (b g : Nat) (x : Int) : St := ⟨⟨s.on.a, s.on.n, s.on.c, fun i => if i = b then setRw (s.on.r i) g x else s.on.r i⟩, s.os, s.hs, s.ms, s.si, s.so, s.sf⟩
theorem OwnI.set {A : Nat} {w : World} {r : Rw} {G : Nat} (h : OwnI A w r) (ha : r.a = some ⟨G, 0, none⟩) (j : Nat) (x : Int) : OwnI A (w.setCell ⟨G, j, none⟩ (.int .i64 x)) (setRw r j x) := by
  obtain ⟨g, ha', h0, h1, h2, hb⟩ := h
  rw [ha] at ha'
  simp only [Option.some.injEq, Addr.mk.injEq, and_true] at ha'
  subst ha'
  refine ⟨G, ha, h0, h1, h2, (hb.set j (.int .i64 x)).congr fun i hi => ?_⟩
  show (if i = j then _ else _) = Value.int .i64 (if i = j then x else r.z i)
  by_cases hij : i = j <;> simp [hij]
theorem OwnI.apart {A : Nat} {w : World} {r : Rw} {G : Nat} (h : OwnI A w r) (ha : r.a ≠ some ⟨G, 0, none⟩) (j : Nat) (u : Value) : OwnI A (w.setCell ⟨G, j, none⟩ u) r := by
  obtain ⟨g, ha', h0, h1, h2, hb⟩ := h
  refine ⟨g, ha', h0, h1, h2, hb.other (a := ⟨G, j, none⟩) (fun e => ha ?_) u⟩
  rw [ha', show g = G from e]
theorem row_a {s : St} {b g : Nat} {x : Int} (i : Nat) : (if i = b then setRw (s.on.r i) g x else s.on.r i).a = (s.on.r i).a := by
  by_cases h : i = b <;> simp [h, setRw]
theorem OwnS.setOn {A : Nat} {w : World} {s : St} {b G : Nat} (h : OwnS A w s) (hb : b < s.on.n) (ha : (s.on.r b).a = some ⟨G, 0, none⟩) (g : Nat) (x : Int) : OwnS A (w.setCell ⟨G, g, none⟩ (.int .i64 x)) (Go.Proofs.YtbcacebifpagpaeGreat.setOn s b g x) := by
  obtain ⟨Gb, hGb, _, _, _, hblk⟩ := h.rows b hb
  rw [ha] at hGb
  simp only [Option.some.injEq, Addr.mk.injEq, and_true] at hGb
  subst hGb
  have q := h.ari b hb
  rw [ha] at q
  refine ⟨?_, fun i hi => ?_, fun i j hij hj => ?_, h.os.other hblk (by decide) (by decide) g _, h.hs.other hblk (by decide) g _, h.ms.other hblk (by decide) g _, h.msr.set _ _ _, h.si.apart (fun e => q.1 e.symm) g _, h.so.apart (fun e => q.2.1 e.symm) g _, h.sf.apart (fun e => q.2.2 e.symm) g _, h.aio, h.aif, h.aof, fun i hi => ?_⟩
  · obtain ⟨g0, ha0, h0, h1, h2, hb0⟩ := h.on
    refine ⟨g0, ha0, h0, h1, h2, (hb0.other (a := ⟨G, g, none⟩) (Blk.ne2 hb0 hblk (by decide)) _).congr fun i hi => ?_⟩
    show _ = Value.slice (if i = b then setRw (s.on.r i) g x else s.on.r i).a (if i = b then setRw (s.on.r i) g x else s.on.r i).n (if i = b then setRw (s.on.r i) g x else s.on.r i).c
    by_cases hib : i = b <;> simp [hib, setRw]
  · show OwnI A _ (if i = b then setRw (s.on.r i) g x else s.on.r i)
    by_cases hib : i = b
    · subst hib
      rw [if_pos rfl]
      exact (h.rows i hi).set ha g x
    · rw [if_neg hib]
      refine (h.rows i hi).apart (fun e => ?_) g _
      rcases Nat.lt_or_gt_of_ne hib with hlt | hgt
      · exact h.rapart i b hlt hb (e.trans ha.symm)
      · exact h.rapart b i hgt hi (ha.trans e.symm)
  · show (if i = b then setRw (s.on.r i) g x else s.on.r i).a ≠ (if j = b then setRw (s.on.r j) g x else s.on.r j).a
    rw [row_a, row_a]
    exact h.rapart i j hij hj
  · show (if i = b then setRw (s.on.r i) g x else s.on.r i).a ≠ _ ∧ (if i = b then setRw (s.on.r i) g x else s.on.r i).a ≠ _ ∧ (if i = b then setRw (s.on.r i) g x else s.on.r i).a ≠ _
    rw [row_a]
    exact h.ari i hi
def lyingZ (s : St) (b g : Nat) : Int := (s.on.r b).z g + comingTo s b g s.ms.n
def ActOK (E : Int) (t s' : St) : Prop := (E = 0 → SameT s' t) ∧ (¬ E = 0 → NoneS s')
end Go.Proofs.YtbcacebifpagpaeGreat
namespace Go.Proofs.YtbcacebifpagpaeGreat
open Go.RowKit
set_option linter.unusedVariables false
structure Tk where
  left : Int
  took : Int → Int
def Tk.step (av : Int → Int) (t : Tk) (b : Int) : Tk := ⟨t.left - min t.left (av b), fun x => t.took x + if x = b then min t.left (av b) else 0⟩
def Tk.go (av : Int → Int) (n : Int) (l : List Int) : Tk := l.foldl (Tk.step av) ⟨n, fun _ => 0⟩
theorem Tk.go_more (av : Int → Int) (n : Int) (l : List Int) (b : Int) : Tk.go av n (l ++ [b]) = (Tk.go av n l).step av b := by
  unfold Tk.go
  rw [List.foldl_append]
  rfl
structure TkOK (av : Int → Int) (n : Int) (l : List Int) (t : Tk) : Prop where
  left0 : 0 ≤ t.left
  leftn : t.left ≤ n
  took0 : ∀ x, 0 ≤ t.took x
  tookn : ∀ x, t.took x ≤ n - t.left
  had : ∀ x, x ∈ l → t.took x ≤ av x
  other : ∀ x, x ∉ l → t.took x = 0
  all : 0 < t.left → ∀ x, x ∈ l → t.took x = av x
  sum : sumTo (fun b => t.took b) 6 = n - t.left
theorem tkOK {av : Int → Int} {n : Int} (hn : 0 ≤ n) : ∀ {l : List Int}, l.Pairwise (fun x y => ¬ x = y) → (∀ x, x ∈ l → 0 ≤ av x) → (∀ x, x ∈ l → 0 ≤ x ∧ x < 6) → TkOK av n l (Tk.go av n l) := by
  suffices H : ∀ (k : Nat) (l : List Int), l.length = k → l.Pairwise (fun x y => ¬ x = y) → (∀ x, x ∈ l → 0 ≤ av x) → (∀ x, x ∈ l → 0 ≤ x ∧ x < 6) → TkOK av n l (Tk.go av n l) from fun {l} => H l.length l rfl
  intro k
  induction k with
  | zero =>
    intro l hl _ _ _
    obtain rfl := List.eq_nil_of_length_eq_zero hl
    exact ⟨hn, Int.le_refl _, fun _ => Int.le_refl _, fun _ => by show (0 : Int) ≤ n - n; omega, fun x h => by simp at h, fun _ _ => rfl, fun _ x h => by simp at h, by show (0 : Int) + 0 + 0 + 0 + 0 + 0 + 0 = n - n; omega⟩
  | succ m ih =>
    intro l0 hl0 hd ha hin
    obtain ⟨l, b, rfl⟩ : ∃ l b, l0 = l ++ [b] := ⟨l0.dropLast, l0.getLast (by intro e; rw [e] at hl0; simp at hl0), (List.dropLast_concat_getLast _).symm⟩
    have hlm : l.length = m := by simpa using hl0
    rw [List.pairwise_append] at hd
    have hb : b ∉ l := fun hm => hd.2.2 b hm b (by simp) rfl
    have k := ih l hlm hd.1 (fun x hx => ha x (by simp [hx])) (fun x hx => hin x (by simp [hx]))
    have hb6 := hin b (by simp)
    have hab := ha b (by simp)
    rw [Tk.go_more]
    generalize Tk.go av n l = t at k
    have h0 := k.left0
    have hln := k.leftn
    have hmin : 0 ≤ min t.left (av b) ∧ min t.left (av b) ≤ t.left ∧ min t.left (av b) ≤ av b := by omega
    have hob := k.other b hb
    refine ⟨?_, ?_, fun x => ?_, fun x => ?_, fun x hx => ?_, fun x hx => ?_, fun hl x hx => ?_, ?_⟩
    · show 0 ≤ t.left - min t.left (av b); omega
    · show t.left - min t.left (av b) ≤ n; omega
    · have := k.took0 x
      show 0 ≤ t.took x + if x = b then min t.left (av b) else 0
      split <;> omega
    · have := k.tookn x
      show (t.took x + if x = b then min t.left (av b) else 0) ≤ n - (t.left - min t.left (av b))
      split <;> omega
    · show (t.took x + if x = b then min t.left (av b) else 0) ≤ av x
      by_cases hxb : x = b
      · subst hxb; rw [if_pos rfl]; omega
      · rw [if_neg hxb]
        have : x ∈ l := by simpa [hxb] using hx
        have := k.had x this
        omega
    · show (t.took x + if x = b then min t.left (av b) else 0) = 0
      have hxb : ¬ x = b := fun e => hx (by simp [e])
      have hxl : x ∉ l := fun e => hx (by simp [e])
      rw [if_neg hxb, k.other x hxl]
      rfl
    · have hl' : 0 < t.left - min t.left (av b) := hl
      show (t.took x + if x = b then min t.left (av b) else 0) = av x
      by_cases hxb : x = b
      · subst hxb; rw [if_pos rfl]; omega
      · rw [if_neg hxb]
        have : x ∈ l := by simpa [hxb] using hx
        have := k.all (by omega) x this
        omega
    · show sumTo (fun x => t.took x + if (x : Int) = b then min t.left (av b) else 0) 6 = n - (t.left - min t.left (av b))
      have e := k.sum
      rw [sumTo_put (z := fun x => t.took x) (m := b.toNat) (n := min t.left (av b)) (by omega) fun i hi => by
        by_cases hib : i = b.toNat
        · have : ((i : Nat) : Int) = b := by omega
          rw [if_pos this, if_pos hib]
        · have : ¬ ((i : Nat) : Int) = b := by omega
          rw [if_neg this, if_neg hib, Int.add_zero], e]
      omega
def wayT (p : Pl) (but : Int) : List Int := (wayL p).filter (fun b => !(b == but))
theorem wayT_mem {p : Pl} {but x : Int} : x ∈ wayT p but ↔ x ∈ wayL p ∧ ¬ x = but := by
  unfold wayT
  rw [List.mem_filter]
  simp
theorem wayT_apart (p : Pl) (but : Int) : (wayT p but).Pairwise (fun x y => ¬ x = y) := ((way_pw p).imp fun h => h.1).filter _
end Go.Proofs.YtbcacebifpagpaeGreat
namespace Go.Proofs.YtbcacebifpagpaeGreat
open Go.RowKit
set_option linter.unusedVariables false
theorem made_aux6 {P : Program} {ops : Array Oper} {Q : Exit → Act → World → Prop} {S : World → Prop} {T : Nat → Bool} {rem : List Nat} {L : Array Bool} {a1 : Act} {D : Nat → Value → List Nat → World → Prop} {fuel : Nat} (hB : madeB5 ops rem L = true) (hT : ∀ r ∈ rem, T r = false)
    (mono : ∀ j ∈ rem, ∀ v g w w', Below w.heap.size w w' → D j v g w → D j v g w') (lt : ∀ j ∈ rem, ∀ v g w, D j v g w → ∀ x ∈ g, x < w.heap.size)
    (step : ∀ i ∈ rem, ∀ (V : Nat → Value) (G : Nat → List Nat) (w : World) (K : Act → World → Prop), S w → (∀ d ∈ depsOf ops i, d ∈ rem → D d (V d) (G d) w) → (∀ d ∈ depsOf ops i, ∀ k ∈ depsOf ops i, d ∈ rem → k ∈ rem → d ≠ k → ∀ x ∈ G d, x ∉ G k) →
      (∀ v g w', S w' → Below w.heap.size w w' → (∀ x ∈ g, w.heap.size ≤ x) → D i v g w' → K ((putAll ops rem V a1).put (dstOf ops i) v) w') → wpOp P ops Q i K (putAll ops rem V a1) w)
    (done : ∀ (V : Nat → Value) (G : Nat → List Nat) (w : World), S w → (∀ j ∈ rem, D j (V j) (G j) w) → (∀ j ∈ rem, ∀ k ∈ rem, j ≠ k → ∀ x ∈ G j, x ∉ G k) → wpAnyT P ops Q S T fuel (mark L rem) (putAll ops rem V a1) w) :
    ∀ (m : Nat) (listed : Array Bool) (V : Nat → Value) (G : Nat → List Nat) (w : World), (rem.filter (fun r => !listed.getD r true)).length = m → listed.size = ops.size → (∀ j, j ∉ rem → listed[j]? = L[j]?) → Closed ops listed → S w → (∀ j ∈ rem, listed.getD j true = true → D j (V j) (G j) w) →
      (∀ j ∈ rem, ∀ k ∈ rem, listed.getD j true = true → listed.getD k true = true → j ≠ k → ∀ x ∈ G j, x ∉ G k) → wpAnyT P ops Q S T (m + fuel) listed (putAll ops rem V a1) w := by
  simp only [madeB5, Bool.and_eq_true, decide_eq_true_eq] at hB
  obtain ⟨⟨⟨⟨hoth, htopo⟩, hrem⟩, hLs⟩, hnd⟩ := hB
  have hrem' : ∀ r ∈ rem, r < ops.size ∧ L.getD r true = false := fun r hr => by
    have := List.all_eq_true.1 hrem r hr
    simpa using this
  intro m
  induction m with
  | zero =>
    intro listed V G w hm hsz hag hcl hS hD hA
    have hall : ∀ r ∈ rem, listed.getD r true = true := fun r hr => by
      cases hq : listed.getD r true
      · have : r ∈ rem.filter (fun r => !listed.getD r true) := List.mem_filter.2 ⟨hr, by simp [hq]⟩
        rw [List.length_eq_zero_iff.1 hm] at this
        simp at this
      · rfl
    have hl : listed = mark L rem := by
      apply Array.ext_getElem?
      intro j
      by_cases hj : j < L.size
      · rw [mark_get rem L j hj]
        by_cases hjr : j ∈ rem
        · rw [if_pos hjr]
          have h1 := hall j hjr
          have h2 : j < listed.size := by omega
          simp only [Array.getD, h2, dif_pos] at h1
          simp [h2]
          exact h1
        · rw [if_neg hjr]; exact hag j hjr
      · rw [Array.getElem?_eq_none (by omega), Array.getElem?_eq_none (by rw [mark_size]; omega)]
    rw [Nat.zero_add, hl]
    exact done V G w hS (fun j hj => hD j hj (hall j hj)) fun j hj k hk => hA j hj k hk (hall j hj) (hall k hk)
  | succ m ih =>
    intro listed V G w hm hsz hag hcl hS hD hA
    have hex : ∃ r ∈ rem, listed.getD r true = false := by
      have hne : rem.filter (fun r => !listed.getD r true) ≠ [] := fun e => by rw [e] at hm; simp at hm
      obtain ⟨x, hx⟩ := List.exists_mem_of_ne_nil _ hne
      have := List.mem_filter.1 hx
      exact ⟨x, this.1, by simpa using this.2⟩
    have hLl : ∀ d, L.getD d false = true → listed.getD d false = true := fun d hd => by
      by_cases hdr : d ∈ rem
      · have h1 := (hrem' d hdr).2
        have h2 : d < L.size := by have := (hrem' d hdr).1; omega
        simp only [Array.getD, h2, dif_pos] at h1 hd
        rw [h1] at hd; cases hd
      · have h1 := hag d hdr
        by_cases h2 : d < L.size
        · have h3 : d < listed.size := by omega
          simp only [Array.getD, h2, h3, dif_pos] at hd ⊢
          simp only [Array.getElem?_eq_getElem h2, Array.getElem?_eq_getElem h3, Option.some.injEq] at h1
          rw [Array.getInternal_eq_getElem] at hd ⊢
          rw [h1]; exact hd
        · simp [Array.getD, h2] at hd
    obtain ⟨r0, hr0, hr0r⟩ := topo_ready hsz [] rem htopo hLl (fun d hd => by simp at hd) (fun r hr => (hrem' r hr).1) hex
    rw [Nat.add_right_comm]
    refine ⟨fun h0 => absurd (h0 ▸ hr0r) (by simp), fun i hi => ?_⟩
    obtain ⟨hli, o, ho, hdep⟩ := mem_ready.1 hi
    have hdeps : ∀ d ∈ depsOf ops i, listed.getD d false = true := fun d hd => by
      unfold depsOf at hd
      rw [ho] at hd
      obtain ⟨e, he, rfl⟩ := List.mem_map.1 hd
      have := List.mem_filter.1 he
      exact hdep e (by simpa using this.1) this.2
    have hdt : ∀ d, listed.getD d false = true → listed.getD d true = true := fun d hd => by
      by_cases h2 : d < listed.size
      · simpa [Array.getD, h2] using hd
      · simp [Array.getD, h2]
    have hir : i ∈ rem := by
      cases hc : rem.contains i
      · exfalso
        have hlt : i < ops.size := (Array.getElem?_eq_some_iff.1 ho).1
        have hnr : i ∉ rem := fun h => by
          have := List.contains_iff_mem.2 h
          rw [this] at hc; cases hc
        have h1 := List.all_eq_true.1 hoth i (List.mem_range.2 hlt)
        have hLi : L.getD i true = false := by
          have h2 := hag i hnr
          have h3 : i < L.size := by omega
          have h4 : i < listed.size := by omega
          simp only [Array.getElem?_eq_getElem h3, Array.getElem?_eq_getElem h4, Option.some.injEq] at h2
          simp only [Array.getD, h3, h4, dif_pos] at hli ⊢
          rw [Array.getInternal_eq_getElem] at hli ⊢
          rw [← h2]; exact hli
        rw [hLi, hc] at h1
        simp only [Bool.false_or] at h1
        obtain ⟨q, hq, hq2⟩ := hex
        have h5 := List.all_eq_true.1 h1 q hq
        have h6 := hdt q (reach_listed hcl _ i q (ready_deps hi) h5)
        rw [hq2] at h6; cases h6
      · exact List.contains_iff_mem.1 hc
    refine step i hir V G w _ hS (fun d hd hdr => hD d hdr (hdt d (hdeps d hd))) (fun d hd k hk hdr hkr => hA d hdr k hkr (hdt d (hdeps d hd)) (hdt k (hdeps k hk))) (fun v g w' hS' hBel hfr hDi => ?_)
    refine ⟨fun _ => hS', ?_⟩
    rw [putAll_put hnd hir]
    have hin : i < listed.size := by rw [hsz]; exact (hrem' i hir).1
    have gset : ∀ j, (listed.setIfInBounds i true).getD j true = if j = i then true else listed.getD j true := fun j => by
      by_cases hj : j = i
      · subst hj; simp [Array.getD, hin]
      · rw [if_neg hj, getD_set_ne true (fun e => hj e.symm)]
    refine ih (listed.setIfInBounds i true) (upd V i v) (fun j => if j = i then g else G j) w' ?_ (by simpa using hsz) (fun j hj => ?_) (hcl.set hi) hS' (fun j hj hlj => ?_) (fun j hj k hk hlj hlk hjk x hx => ?_)
    · have hnodup : rem.Nodup := by
        exact (List.pairwise_map.1 hnd).imp (fun h e => h (by rw [e]))
      have e1 : (rem.filter (fun r => !listed.getD r true)) = rem.filter (fun r => !listed.getD r true) := rfl
      have hcount : (rem.filter (fun r => !(listed.setIfInBounds i true).getD r true)) = (rem.filter (fun r => !listed.getD r true)).erase i := by
        have e2 : rem.filter (fun r => !(listed.setIfInBounds i true).getD r true) = (rem.filter (fun r => !listed.getD r true)).filter (fun r => r != i) := by
          rw [List.filter_filter]
          refine List.filter_congr fun x hx => ?_
          rw [gset x]
          by_cases hxi : x = i <;> simp [hxi]
        rw [e2, ← List.Nodup.erase_eq_filter (hnodup.filter _)]
      rw [hcount, List.length_erase_of_mem (List.mem_filter.2 ⟨hir, by simp [hli]⟩), hm]
      rfl
    · rw [Array.getElem?_setIfInBounds, if_neg (fun e : i = j => hj (by rw [← e]; exact hir))]
      exact hag j hj
    · unfold upd
      by_cases hji : j = i
      · subst hji; rw [if_pos rfl, if_pos rfl]; exact hDi
      · rw [if_neg hji, if_neg hji]
        rw [gset j, if_neg hji] at hlj
        exact mono j hj _ _ _ _ hBel (hD j hj hlj)
    · by_cases hji : j = i
      · have hki : ¬ k = i := fun e => hjk (hji.trans e.symm)
        rw [if_pos hji] at hx
        rw [if_neg hki]
        rw [gset k, if_neg hki] at hlk
        intro hx2
        have h1 := hfr x hx
        have h2 := lt k hk _ _ _ (hD k hk hlk) x hx2
        omega
      · rw [if_neg hji] at hx
        rw [gset j, if_neg hji] at hlj
        by_cases hki : k = i
        · rw [if_pos hki]
          intro hx2
          have h1 := hfr x hx2
          have h2 := lt j hj _ _ _ (hD j hj hlj) x hx
          omega
        · rw [if_neg hki]
          rw [gset k, if_neg hki] at hlk
          exact hA j hj k hk hlj hlk hjk x hx
def Made6 (P : Program) (ops : Array Oper) (Q : Exit → Act → World → Prop) (S : World → Prop) (rem : List Nat) (ord : List (Bool × Nat)) (a1 : Act) : Prop :=
  ∃ D : Nat → Value → List Nat → World → Prop, (∀ j ∈ rem, ∀ v g w w', Below w.heap.size w w' → D j v g w → D j v g w') ∧ (∀ j ∈ rem, ∀ v g w, D j v g w → ∀ x ∈ g, x < w.heap.size) ∧
    (∀ i ∈ rem, ∀ (V : Nat → Value) (G : Nat → List Nat) (w : World) (K : Act → World → Prop), S w → (∀ d ∈ depsOf ops i, d ∈ rem → D d (V d) (G d) w) → (∀ d ∈ depsOf ops i, ∀ k ∈ depsOf ops i, d ∈ rem → k ∈ rem → d ≠ k → ∀ x ∈ G d, x ∉ G k) →
      (∀ v g w', S w' → Below w.heap.size w w' → (∀ x ∈ g, w.heap.size ≤ x) → D i v g w' → K ((putAll ops rem V a1).put (dstOf ops i) v) w') → wpOp P ops (NoPanic Q) i K (putAll ops rem V a1) w) ∧
    (∀ (V : Nat → Value) (G : Nat → List Nat) (w : World), S w → (∀ j ∈ rem, D j (V j) (G j) w) → (∀ j ∈ rem, ∀ k ∈ rem, j ≠ k → ∀ x ∈ G j, x ∉ G k) → wpSeq P ops (NoPanic Q) S ord (putAll ops rem V a1) w)
def tailsB6 (ops : Array Oper) (ks rem : List Nat) (ord : List (Bool × Nat)) : Bool :=
  ks.all (fun k => !ord.contains (true, k) && ord.all (fun x => !x.1 || reach ops ops.size x.2 k)) && rem.all (fun r => !ord.contains (true, r)) && ord.all (fun x => x.1 || !ord.contains (true, x.2))
theorem wp_region_made6 {P : Program} {l : List Oper} {Q : Exit → Act → World → Prop} {id : Nat} {a : Act} {w : World} (S : World → Prop) (ks rem : List Nat) (ord : List (Bool × Nat))
    (hm : P.follows .mixedOrders = true) (hs : Region.noSelect l.toArray = true) (hF : firstsB l.toArray ks (Array.replicate l.length false) = true) (hks : ks.all (fun k => decide (k < l.length)) = true) (hv : ((picks l ks).all vKind2) = true)
    (hM : madeB5 l.toArray rem (mark (Array.replicate l.length false) ks) = true) (hTB : tailsB6 l.toArray ks rem ord = true) (hB : seqB l.toArray ord (mark (mark (Array.replicate l.length false) ks) rem) = true) (hl : ks.length + (rem.length + ord.length) = l.length)
    (hS : S w.drew) (h : wpQuiet P l.toArray S (Made6 P l.toArray Q S rem ord) (picks l ks) a) : (Code.region id l.toArray true).wp P Q a w := by
  refine wp_region_noPanic (wp_region_any hm ?_)
  have hM' := hM
  simp only [madeB5, Bool.and_eq_true, decide_eq_true_eq] at hM'
  simp only [tailsB6, Bool.and_eq_true] at hTB
  have hT : ∀ j, (ord.contains (true, j)) = true → (true, j) ∈ ord := fun j h => by simpa using h
  have key := wpAnyT_firsts (Q := NoPanic Q) (T := fun i => ord.contains (true, i)) (N := l.toArray.size) (fuel := rem.length + ord.length) (w := w.drew) hs hS (fun c a a' w h => (h : False).elim) ks (picks l ks) _ a hF (fun k hk => ?_) (Closed.none _ _) (picks_ok hks) hv h (fun a1 hK hcl => ?_)
  · have := wpAny_of_T _ _ _ _ key
    rw [hl] at this
    simpa using this
  · have h1 := List.all_eq_true.1 hTB.1.1 k hk
    simp only [Bool.and_eq_true] at h1
    refine ⟨by simpa using h1.1, fun j hj => ?_⟩
    have h2 := List.all_eq_true.1 h1.2 (true, j) (hT j hj)
    simpa using h2
  · obtain ⟨D, mono, lt, step, done⟩ := hK
    have hall : (rem.filter (fun r => !(mark (Array.replicate l.length false) ks).getD r true)) = rem := by
      rw [List.filter_eq_self]
      intro r hr
      have := List.all_eq_true.1 hM'.1.1.2 r hr
      simp only [Bool.and_eq_true] at this
      exact this.2
    have hun : ∀ j ∈ rem, (mark (Array.replicate l.length false) ks).getD j true = true → False := fun j hj hlj => by
      have := List.all_eq_true.1 hM'.1.1.2 j hj
      simp only [Bool.and_eq_true, hlj] at this
      simp at this
    obtain ⟨V0, hV0⟩ : ∃ V0, putAll l.toArray rem V0 a1 = a1 := ⟨_, putAll_self a1 rem⟩
    have := made_aux6 (P := P) (Q := NoPanic Q) (S := S) (T := fun i => ord.contains (true, i)) (a1 := a1) (fuel := ord.length) hM (fun r hr => by have := List.all_eq_true.1 hTB.1.2 r hr; simpa using this) mono lt step
      (fun V G w' hS' hD hA => wpAnyT_seq ord _ _ w' hB (fun t i hti => by
        cases t with
        | true => simpa using hti
        | false =>
          have := List.all_eq_true.1 hTB.2 (false, i) hti
          simpa using this) (done V G w' hS' hD hA))
      rem.length (mark (Array.replicate l.length false) ks) V0 (fun _ => []) w.drew (by rw [hall]) hM'.1.2 (fun _ _ => rfl) hcl hS (fun j hj hlj => (hun j hj hlj).elim) (fun j hj k hk hlj _ _ => (hun j hj hlj).elim)
    rw [hV0] at this
    exact this
end Go.Proofs.YtbcacebifpagpaeGreat
namespace Go.Proofs.YtbcacebifpagpaeGreat
open Go.RowKit Go.Shelf Go.Sort
set_option linter.unusedVariables false
theorem wp_append_empty {P : Program} (w : World) {ops : Array Oper} {rest : List Oper} {o : Oper} {a : Act} {Q : Exit → Act → World → Prop} (hg : o.guard = none) (s x : Operand) (t : TypeId)
    (hop : o.op = Op.call { callee := Callee.builtin Builtin.append, args := #[s, x], argTypes := #[t, t] }) (e : TypeId) (i : TypeInfo) (z : Value) (size bytes : Nat) (h1 : P.underlying t = some (.slice e)) (h2 : P.info? e = some i) (h3 : i.zero = some z) (h4 : i.size = size) (h5 : i.bytes = bytes)
    (h6 : z.cells.size = size) (h7 : 0 < size) (g : Nat) (hs : a.eval s = .slice (some ⟨g, 0, none⟩) 0 0) (xa : Option Addr) (m c : Nat) (news : List Value) (hx : a.eval x = .slice xa m c) (hn : news.length = m * size)
    (hc : ∀ ad, xa = some ad → ∀ j u, news[j]? = some u → w.cell? (ad.add j) = some u) (h1c : ∀ u ∈ news, u.oneCell' = true) (hnone : xa = none → m = 0) (b1 : m ≤ maxLen) (b2 : m * bytes ≤ 140737488355328)
    (hK0 : m = 0 → wpList P ops Q rest (a.put o.dst (.slice (some ⟨g, 0, none⟩) 0 0)) w) (hK : 0 < m → ∀ v' w', w'.ownsRow w.heap.size e size v' m news → w.grownBy w' none → wpList P ops Q rest (a.put o.dst v') w') :
    wpList P ops Q (o :: rest) a w := by
  rcases Nat.eq_zero_or_pos m with h0 | h0
  · subst h0
    have hnil : news = [] := List.eq_nil_of_length_eq_zero (by simpa using hn)
    subst hnil
    have hsrc : Src P i.size t (.slice xa 0 c) 0 [] w := by
      cases xa with
      | none => exact Src.ofNil w h1 c
      | some ad => exact Src.ofSlice w h1 ad 0 c [] (by simp) (fun j u hj => by simp at hj) (fun u hu => by cases hu)
    have hrun := run_append_nothing (P := P) w t t o.type e i h1 h2 (some ⟨g, 0, none⟩) 0 0 (Nat.le_refl _) _ hsrc
    refine wpList_plain hg fun K hK' => ?_
    unfold Oper.wp
    simp [execOp, hop, resolve, invoke, builtin, hs, hx, hrun, Result.andThen]
    exact hK' _ _ (hK0 rfl)
  · cases xa with
    | none => exact absurd (hnone rfl) (by omega)
    | some ad =>
      refine wpList_append_grows w hg s x t hop e i z size bytes h1 h2 h3 h4 h5 h6 h7 (some ⟨g, 0, none⟩) 0 0 [] hs (fun h => by cases h) (by simp) (fun b _ j u hj => by simp at hj) ad m c news hx hn (hc ad rfl) h1c (by omega) (by omega) (by rw [Nat.zero_add]; exact b2) (fun v' w' h1 h2 => ?_)
      rw [Nat.zero_add, List.nil_append] at h1
      exact hK h0 v' w' h1 h2
end Go.Proofs.YtbcacebifpagpaeGreat
namespace Go.Proofs.YtbcacebifpagpaeGreat
open Go.RowKit Go.Shelf Go.Sort
set_option linter.unusedVariables false
def ZeroAt (A n : Nat) (v : Value) (g : List Nat) (wk : World) : Prop := ∃ B, g = [B] ∧ v = .slice (some ⟨B, 0, none⟩) n n ∧ A ≤ B ∧ Blk wk B 3 n (fun _ => .int .i64 0)
theorem ZeroAt.below {A n : Nat} {v : Value} {g : List Nat} {w w' : World} (h : ZeroAt A n v g w) (hB : Below w.heap.size w w') : ZeroAt A n v g w' := by
  obtain ⟨B, h0, h1, h2, h3⟩ := h
  exact ⟨B, h0, h1, h2, h3.below hB⟩
theorem ZeroAt.lt {A n : Nat} {v : Value} {g : List Nat} {w : World} (h : ZeroAt A n v g w) : ∀ x ∈ g, x < w.heap.size := by
  obtain ⟨B, rfl, h1, h2, h3⟩ := h
  intro x hx
  rw [List.mem_singleton] at hx
  subst hx
  exact h3.lt
def BoxAt (A : Nat) (v : Value) (g : List Nat) (wk : World) : Prop := ∃ B, g = [B] ∧ v = .pointer (some ⟨B, 0, none⟩) ∧ A ≤ B ∧ Blk wk B 31 7 (fun _ => .slice .none 0 0)
theorem BoxAt.below {A : Nat} {v : Value} {g : List Nat} {w w' : World} (h : BoxAt A v g w) (hB : Below w.heap.size w w') : BoxAt A v g w' := by
  obtain ⟨B, h0, h1, h2, h3⟩ := h
  exact ⟨B, h0, h1, h2, h3.below hB⟩
theorem BoxAt.lt {A : Nat} {v : Value} {g : List Nat} {w : World} (h : BoxAt A v g w) : ∀ x ∈ g, x < w.heap.size := by
  obtain ⟨B, rfl, h1, h2, h3⟩ := h
  intro x hx
  rw [List.mem_singleton] at hx
  subst hx
  exact h3.lt
def SumsAt (A n : Nat) (v : Value) (g : List Nat) (wk : World) : Prop := ∃ B1 B2 B3, g = [] ∧ v = .agg #[.slice .none 0 0, .slice .none 0 0, .slice .none 0 0, .slice .none 0 0, .slice (some ⟨B1, 0, none⟩) n n, .slice (some ⟨B2, 0, none⟩) n n, .slice (some ⟨B3, 0, none⟩) n n] ∧
  (A ≤ B1 ∧ Blk wk B1 3 n (fun _ => .int .i64 0)) ∧ (A ≤ B2 ∧ Blk wk B2 3 n (fun _ => .int .i64 0)) ∧ (A ≤ B3 ∧ Blk wk B3 3 n (fun _ => .int .i64 0))
theorem SumsAt.below {A n : Nat} {v : Value} {g : List Nat} {w w' : World} (h : SumsAt A n v g w) (hB : Below w.heap.size w w') : SumsAt A n v g w' := by
  obtain ⟨B1, B2, B3, h0, h1, ⟨a1, a2⟩, ⟨b1, b2⟩, ⟨c1, c2⟩⟩ := h
  exact ⟨B1, B2, B3, h0, h1, ⟨a1, a2.below hB⟩, ⟨b1, b2.below hB⟩, ⟨c1, c2.below hB⟩⟩
def OneAt (A n : Nat) (v : Value) (g : List Nat) (wk : World) : Prop := ∃ B R, g = [B] ∧ v = .slice (some ⟨B, 0, none⟩) 1 1 ∧ A ≤ B ∧ Blk wk B 23 1 (fun _ => .slice (some ⟨R, 0, none⟩) n n) ∧ A ≤ R ∧ Blk wk R 3 n (fun _ => .int .i64 0)
theorem OneAt.below {A n : Nat} {v : Value} {g : List Nat} {w w' : World} (h : OneAt A n v g w) (hB : Below w.heap.size w w') : OneAt A n v g w' := by
  obtain ⟨B, R, h0, h1, h2, h3, h4, h5⟩ := h
  exact ⟨B, R, h0, h1, h2, h3.below hB, h4, h5.below hB⟩
theorem OneAt.lt {A n : Nat} {v : Value} {g : List Nat} {w : World} (h : OneAt A n v g w) : ∀ x ∈ g, x < w.heap.size := by
  obtain ⟨B, R, rfl, h1, h2, h3, h4, h5⟩ := h
  intro x hx
  rw [List.mem_singleton] at hx
  subst hx
  exact h3.lt
def Fr (n : Nat) (w : World) (s : St) : Prop := ∀ w'' : World, w.heap.size ≤ w''.heap.size → (∀ g, n ≤ g → g < w.heap.size → w''.heap[g]? = w.heap[g]?) → s.At w''
theorem Fr.at {n : Nat} {w : World} {s : St} (h : Fr n w s) : s.At w := h w (Nat.le_refl _) (fun _ _ _ => rfl)
theorem Fr.below {n : Nat} {w w' : World} {s : St} (h : Fr n w s) (hB : Below w.heap.size w w') : Fr n w' s := fun w'' hz hs => h w'' (Nat.le_trans hB.size hz) fun g h1 h2 => (hs g h1 (Nat.lt_of_lt_of_le h2 hB.size)).trans (hB.block g h2)
theorem Fr.set {n : Nat} {w : World} {s : St} (h : Fr n w s) {q : Nat} (hq : q < n) (j : Nat) (u : Value) : Fr n (w.setCell ⟨q, j, none⟩ u) s := fun w'' hz hs => h w'' (by simpa using hz) fun g h1 h2 => (hs g h1 (by simpa using h2)).trans (Below.heap_setCell w ⟨q, j, none⟩ u g (by show g ≠ q; omega))
theorem grown_keep {w w2 : World} {base : Nat} {e : TypeId} {size : Nat} {v : Value} {n : Nat} {xs : List Value} (ho : w.ownsRow base e size v n xs) (hg : w.grownBy w2 v.ownBlock) {q : Nat} {t : TypeId} {m : Nat} {f : Nat → Value} (hb : Blk w q t m f) (hne : t ≠ e) : Blk w2 q t m f := by
  refine hb.grown hg ?_
  intro hq
  rcases ho.2 with ⟨rfl, _⟩ | ⟨g2, cap2, cur2, rfl, _, hh2, hrest⟩
  · simp [Value.ownBlock] at hq
  · simp only [Value.ownBlock, Option.some.injEq] at hq
    subst hq
    obtain ⟨c3, hc3, _⟩ := hb
    rw [hc3] at hh2
    cases hh2
    exact hne rfl
theorem owns_set {w : World} {base : Nat} {e : TypeId} {size : Nat} {v : Value} {n : Nat} {xs : List Value} (ho : w.ownsRow base e size v n xs) {q : Nat} {t : TypeId} {m : Nat} {f : Nat → Value} (hb : Blk w q t m f) (hne : t ≠ e) (j : Nat) (u : Value) : (w.setCell ⟨q, j, none⟩ u).ownsRow base e size v n xs := by
  refine ⟨ho.1, ?_⟩
  rcases ho.2 with h | ⟨g2, cap2, cur2, rfl, hb2, hh2, hrest⟩
  · exact .inl h
  · refine .inr ⟨g2, cap2, cur2, rfl, hb2, ?_, hrest⟩
    rw [Below.heap_setCell w ⟨q, j, none⟩ u g2 ?_]
    · exact hh2
    · intro hq
      obtain ⟨c3, hc3, _⟩ := hb
      rw [hq, hc3] at hh2
      cases hh2
      exact hne rfl
end Go.Proofs.YtbcacebifpagpaeGreat
namespace Go.Proofs.YtbcacebifpagpaeGreat
open Go.RowKit Go.Shelf Go.Sort
set_option linter.unusedVariables false
def DOn (A : Nat) (s : St) (v : Value) (g : List Nat) (wk : World) : Prop := ∃ (g0 c0 : Nat) (G C : Nat → Nat), v = .slice (some ⟨g0, 0, none⟩) s.on.n c0 ∧ A ≤ g0 ∧ s.on.n ≤ c0 ∧ c0 ≤ maxLen ∧ Blk wk g0 23 s.on.n (fun i => .slice (some ⟨G i, 0, none⟩) (s.on.r i).n (C i)) ∧
  (∀ i, i < s.on.n → A ≤ G i ∧ (s.on.r i).n ≤ C i ∧ C i ≤ maxLen ∧ Blk wk (G i) 3 (s.on.r i).n (fun j => .int .i64 ((s.on.r i).z j))) ∧ (∀ i j, i < j → j < s.on.n → G i < G j) ∧ g = (List.range s.on.n).map G
theorem DOn.below {A : Nat} {s : St} {v : Value} {g : List Nat} {w w' : World} (h : DOn A s v g w) (hB : Below w.heap.size w w') : DOn A s v g w' := by
  obtain ⟨g0, c0, G, C, h1, h2, h2', h2'', h3, h4, h5, h6⟩ := h
  exact ⟨g0, c0, G, C, h1, h2, h2', h2'', h3.below hB, fun i hi => ⟨(h4 i hi).1, (h4 i hi).2.1, (h4 i hi).2.2.1, (h4 i hi).2.2.2.below hB⟩, h5, h6⟩
theorem DOn.lt {A : Nat} {s : St} {v : Value} {g : List Nat} {w : World} (h : DOn A s v g w) : ∀ x ∈ g, x < w.heap.size := by
  obtain ⟨g0, c0, G, C, h1, h2, h2', h2'', h3, h4, h5, rfl⟩ := h
  intro x hx
  obtain ⟨i, hi, rfl⟩ := List.mem_map.1 hx
  exact (h4 i (List.mem_range.1 hi)).2.2.2.lt
def DE (v : Value) (g : List Nat) : Prop := ∃ B : Nat, g = [] ∧ v = .slice (some ⟨B, 0, none⟩) 0 0
def DAgg (A : Nat) (s : St) (v : Value) (g : List Nat) (wk : World) : Prop := g = [] ∧ ∃ x2 g2 x6 g6 x10 g10 x14 g14 x18 g18 x22 g22, v = .agg #[x2, .slice .none 0 0, x6, x10, x14, x18, x22] ∧ DOn A s x2 g2 wk ∧ DHs A 58 s.hs x6 g6 wk ∧ DHs A 56 s.ms x10 g10 wk ∧
  DInts A s.si x14 g14 wk ∧ DInts A s.so x18 g18 wk ∧ DInts A s.sf x22 g22 wk ∧ (∀ x ∈ g2, x ∉ g14) ∧ (∀ x ∈ g2, x ∉ g18) ∧ (∀ x ∈ g2, x ∉ g22) ∧ (∀ x ∈ g14, x ∉ g18) ∧ (∀ x ∈ g14, x ∉ g22) ∧ (∀ x ∈ g18, x ∉ g22)
theorem DAgg.below {A : Nat} {s : St} {v : Value} {g : List Nat} {w w' : World} (h : DAgg A s v g w) (hB : Below w.heap.size w w') : DAgg A s v g w' := by
  obtain ⟨h0, x2, g2, x6, g6, x10, g10, x14, g14, x18, g18, x22, g22, h1, a, b, c, d, e, f, r⟩ := h
  exact ⟨h0, x2, g2, x6, g6, x10, g10, x14, g14, x18, g18, x22, g22, h1, a.below hB, b.below hB, c.below hB, d.below hB, e.below hB, f.below hB, r⟩
theorem OwnI.grownO {A B : Nat} {w w2 : World} {r : Rw} {e : TypeId} {size : Nat} {v : Value} {n : Nat} {xs : List Value} (h : OwnI A w r) (ho : w.ownsRow B e size v n xs) (hg : w.grownBy w2 v.ownBlock) (hne : 3 ≠ e) : OwnI A w2 r := by
  obtain ⟨g, ha, h0, h1, h2, hb⟩ := h
  exact ⟨g, ha, h0, h1, h2, grown_keep ho hg hb hne⟩
theorem OwnH.grownO {A B : Nat} {t : TypeId} {w w2 : World} {s : Hs} {e : TypeId} {size : Nat} {v : Value} {n : Nat} {xs : List Value} (h : OwnH A t w s) (ho : w.ownsRow B e size v n xs) (hg : w.grownBy w2 v.ownBlock) (hne : t ≠ e) : OwnH A t w2 s := by
  obtain ⟨h1, h2, h3, h4⟩ := h
  refine ⟨h1, h2, h3, fun hn => ?_⟩
  obtain ⟨g, ha, hA, hb⟩ := h4 hn
  exact ⟨g, ha, hA, grown_keep ho hg hb hne⟩
theorem Room.grownO {A B : Nat} {t : TypeId} {w w2 : World} {sz c : Nat} {a : Option Addr} {e : TypeId} {size : Nat} {v : Value} {n : Nat} {xs : List Value} (h : Room A w t sz a c) (ho : w.ownsRow B e size v n xs) (hg : w.grownBy w2 v.ownBlock) (hne : t ≠ e) : Room A w2 t sz a c := by
  refine h.same fun g cur hgc => hg.block g (Array.getElem?_eq_some_iff.1 hgc).1 fun hq => ?_
  rcases ho.2 with ⟨rfl, _⟩ | ⟨g2, cap2, cur2, rfl, _, hh2, hrest⟩
  · simp [Value.ownBlock] at hq
  · simp only [Value.ownBlock, Option.some.injEq] at hq
    subst hq
    rw [hgc] at hh2
    cases hh2
    exact hne rfl
theorem OwnS.grownO {A B : Nat} {w w2 : World} {s : St} {size : Nat} {v : Value} {n : Nat} {xs : List Value} (h : OwnS A w s) (hos : s.os.n = 0) (hoc : s.os.c = 0) (ho : w.ownsRow B 64 size v n xs) (hg : w.grownBy w2 v.ownBlock) : OwnS A w2 s := by
  refine ⟨?_, fun i hi => (h.rows i hi).grownO ho hg (by decide), h.rapart, ⟨h.os.le, h.os.cap, fun hn => absurd hn (by omega), fun i hi => absurd hi (by omega), h.os.apart, Or.inl hoc⟩, h.hs.grownO ho hg (by decide), h.ms.grownO ho hg (by decide), h.msr.grownO ho hg (by decide), h.si.grownO ho hg (by decide), h.so.grownO ho hg (by decide), h.sf.grownO ho hg (by decide), h.aio, h.aif, h.aof, h.ari⟩
  obtain ⟨g, ha, h0, h1, h2, hb⟩ := h.on
  exact ⟨g, ha, h0, h1, h2, grown_keep ho hg hb (by decide)⟩
theorem OwnS.below {A : Nat} {w w' : World} {s : St} (h : OwnS A w s) (hB : Below w.heap.size w w') : OwnS A w' s := by
  refine ⟨?_, fun i hi => (h.rows i hi).below hB, h.rapart, h.os.below hB, h.hs.below hB, h.ms.below hB, h.msr.below hB, h.si.below hB, h.so.below hB, h.sf.below hB, h.aio, h.aif, h.aof, h.ari⟩
  obtain ⟨g, ha, h0, h1, h2, hb⟩ := h.on
  exact ⟨g, ha, h0, h1, h2, hb.below hB⟩
def LineOK (A : Nat) (s : St) (Ls : Nat → Od) (i : Nat) (wk : World) : Prop := (Ls i).k = (s.os.z i).k ∧ (Ls i).ls.n = (s.os.z i).ls.n ∧ (∀ j, j < (s.os.z i).ls.n → (Ls i).ls.z j = (s.os.z i).ls.z j) ∧ ∃ B, (Ls i).ls.a = some ⟨B, 0, none⟩ ∧ A ≤ B ∧ (Ls i).ls.n ≤ (Ls i).ls.c ∧ (Ls i).ls.c ≤ maxLen ∧ Blk wk B 61 ((Ls i).ls.n * 4) (fun j => (flatH (Ls i).ls.n (Ls i).ls.z).getD j default)
def OwnL (A A0 : Nat) (s s0 : St) (BX k : Nat) (wk : World) : Prop := ∃ (v : Value) (Ls : Nat → Od), Blk wk BX 31 7 (fun j => (#[.slice s0.on.a s0.on.n s0.on.c, v, .slice s0.hs.a s0.hs.n s0.hs.c, .slice s0.ms.a s0.ms.n s0.ms.c, .slice s0.si.a s0.si.n s0.si.c, .slice s0.so.a s0.so.n s0.so.c, .slice s0.sf.a s0.sf.n s0.sf.c] : Array Value).getD j default) ∧
  wk.ownsRow A0 64 2 v k (flatO k Ls) ∧ (∀ i, i < k → LineOK A s Ls i wk) ∧ (∀ i j, i < j → j < k → (Ls i).ls.a ≠ (Ls j).ls.a) ∧ OwnS A wk s0
def D16 (A : Nat) (x : Od) (v : Value) (g : List Nat) (wk : World) : Prop := ∃ s' : Hs, g = [] ∧ v = .agg #[.int .i64 x.k, .slice s'.a s'.n s'.c] ∧ Cloned A 61 x.ls wk s'
theorem D16.below {A : Nat} {x : Od} {v : Value} {g : List Nat} {w w' : World} (h : D16 A x v g w) (hB : Below w.heap.size w w') : D16 A x v g w' := by
  obtain ⟨s', h1, h2, h3, h4, h5, h6⟩ := h
  exact ⟨s', h1, h2, h3, h4, h5.below hB, h6.below hB⟩
def D17 (A : Nat) (x : Od) (v : Value) (g : List Nat) (wk : World) : Prop := ∃ (B : Nat) (s' : Hs), g = [] ∧ v = .slice (some ⟨B, 0, none⟩) 1 1 ∧ A ≤ B ∧ Blk wk B 64 2 (fun j => (#[.int .i64 x.k, .slice s'.a s'.n s'.c] : Array Value).getD j default) ∧ Cloned A 61 x.ls wk s'
theorem D17.below {A : Nat} {x : Od} {v : Value} {g : List Nat} {w w' : World} (h : D17 A x v g w) (hB : Below w.heap.size w w') : D17 A x v g w' := by
  obtain ⟨B, s', h1, h2, h3, h4, h5, h6, h7, h8⟩ := h
  exact ⟨B, s', h1, h2, h3, h4.below hB, h5, h6, h7.below hB, h8.below hB⟩
theorem cloned_grow {A B : Nat} {e : TypeId} {s : Hs} {w : World} {v : Value} (hn : 0 < s.n) (hown : w.ownsRow B e 4 v s.n (flatH s.n s.z)) (hA : A ≤ B) : ∃ s' : Hs, v = .slice s'.a s'.n s'.c ∧ Cloned A e s w s' := by
  have hv : v ≠ .slice none 0 0 := by
    rintro rfl
    rcases hown.2 with ⟨_, h0⟩ | ⟨g2, cap2, cur2, h, _⟩
    · omega
    · cases h
  obtain ⟨s', h1, h2, h3, h4, h5⟩ := OwnH.ofOwns hown hv
  exact ⟨s', h1, h2, fun j _ => by rw [h3], h4.mono hA, h5.mono hA⟩
theorem cloned_none {A : Nat} {e : TypeId} {s : Hs} {w : World} (B : Nat) (hn : s.n = 0) : Cloned A e s w ⟨some ⟨B, 0, none⟩, 0, 0, s.z⟩ := ⟨hn.symm, fun j hj => rfl, ⟨Nat.le_refl _, Nat.zero_le _, (fun h => by cases h), fun h => absurd h (Nat.lt_irrefl _)⟩, Or.inl rfl⟩
theorem hs_news {s : Hs} {w : World} (h : s.At w) : ∀ ad, s.a = some ad → ∀ j u, (flatH s.n s.z)[j]? = some u → w.cell? (ad.add j) = some u := fun ad ha j u hj => by
  have hlen := (List.getElem?_eq_some_iff.1 hj).1
  rw [flatH_len] at hlen
  have hh := h.hds
  obtain ⟨b, o, he, hb, -⟩ := hh 0 (by omega)
  rw [ha] at he
  simp only [Option.some.injEq] at he
  subst he
  rw [ha] at hh
  exact HdsAt.news hh j u hj
theorem hs_none {s : Hs} {w : World} (h : s.At w) (ha : s.a = none) : s.n = 0 := by
  have := h.nilc ha
  have := h.le
  omega
theorem ints_grow {A B : Nat} {r : Rw} {w : World} {v : Value} (hn : 0 < r.n) (hown : w.ownsRow B 3 1 v r.n ((List.range r.n).map fun j => Value.int .i64 (r.z j))) (hA : A ≤ B) : ∃ g c, v = .slice (some ⟨g, 0, none⟩) r.n c ∧ B ≤ g ∧ DInts A r v [g] w := by
  have hv : v ≠ .slice none 0 0 := by
    rintro rfl
    rcases hown.2 with ⟨_, h0⟩ | ⟨g2, cap2, cur2, h, _⟩
    · omega
    · cases h
  obtain ⟨g, c, rfl, h1, h2, h3, h4⟩ := Blk.ofOwns hown hv
  rw [Nat.mul_one] at h4
  exact ⟨g, c, rfl, h3, g, c, rfl, rfl, by omega, h1, h2, h4.congr (fun j hj => by simp [hj])⟩
theorem rw_news {r : Rw} {w : World} (h : r.At w) : ∀ ad, r.a = some ad → ∀ j u, ((List.range r.n).map fun j => Value.int .i64 (r.z j))[j]? = some u → w.cell? (ad.add j) = some u := fun ad ha j u hj => by
  have hjn : j < r.n := by
    have := (List.getElem?_eq_some_iff.1 hj).1
    simpa using this
  obtain ⟨b, o, he, hb, hc⟩ := h.ints j hjn
  rw [ha] at he
  simp only [Option.some.injEq] at he
  subst he
  rw [Go.WideShapes.add_plain, hc]
  simp [hjn] at hj
  rw [hj]
theorem rw_none {r : Rw} {w : World} (h : r.At w) (ha : r.a = none) : r.n = 0 := by
  rcases Nat.eq_zero_or_pos r.n with h0 | h0
  · exact h0
  · obtain ⟨b, o, he, _⟩ := h.ints 0 h0
    rw [ha] at he
    cases he
set_option maxRecDepth 100000 in
set_option maxHeartbeats 4000000 in
theorem OwnState_any (p : Pl) (s : St) (w : World) (hs : s.At w) (f : Formed p s) :
    Calls Tryz.prog 19 #[s.val] w fun e w' => ∃ s' : St, e = .returned s'.val ∧ SameT s' s ∧ OwnS w.heap.size w' s' ∧ Below w.heap.size w w' := by
  obtain ⟨W0, hW, hWB, X0, Z0⟩ : ∃ W, ((w.alloc (.cells s.cells 31)).alloc (.cells #[.slice .none 0 0, .slice .none 0 0, .slice .none 0 0, .slice .none 0 0, .slice .none 0 0, .slice .none 0 0, .slice .none 0 0] 31)) = W ∧ Below w.heap.size w W ∧ Blk W w.heap.size 31 7 (fun j => s.cells.getD j default) ∧ Blk W (w.heap.size + 1) 31 7 (fun _ => .slice .none 0 0) :=
    ⟨_, rfl, two_below _ _ _, (Blk.mk' rfl rfl).alloc _, (Blk.mk' (cur := #[.slice .none 0 0, .slice .none 0 0, .slice .none 0 0, .slice .none 0 0, .slice .none 0 0, .slice .none 0 0, .slice .none 0 0]) (by simp) rfl).congr (fun j hj => by match j, hj with | 0, _ => rfl | 1, _ => rfl | 2, _ => rfl | 3, _ => rfl | 4, _ => rfl | 5, _ => rfl | 6, _ => rfl)⟩
  have HW : Hid ((w.alloc (.cells #[.slice s.on.a s.on.n s.on.c, .slice s.os.a s.os.n s.os.c, .slice s.hs.a s.hs.n s.hs.c, .slice s.ms.a s.ms.n s.ms.c, .slice s.si.a s.si.n s.si.c, .slice s.so.a s.so.n s.so.c, .slice s.sf.a s.sf.n s.sf.c] 31)).alloc (.cells #[.slice .none 0 0, .slice .none 0 0, .slice .none 0 0, .slice .none 0 0, .slice .none 0 0, .slice .none 0 0, .slice .none 0 0] 31) = W0) := hW
  have HS : Hid (s.At W0) := hs.below hWB
  have HF : Hid (Formed p s) := f
  have HC : Hid (∀ wk, Below W0.heap.size W0 wk → Boxed wk w.heap.size s ∧ Blk wk (w.heap.size + 1) 31 7 (fun _ => .slice .none 0 0) ∧ s.At wk ∧ Below w.heap.size w wk) := fun wk h => ⟨Boxed.of (X0.below h), Z0.below h, (hs.below hWB).below h, hWB.trans (h.mono hWB.size)⟩
  have hsz0 := hWB.size
  have zlt := Z0.lt
  have ns1 := f.sh.pl.ns1
  have ns3 := f.sh.pl.ns3
  have h72 := f.hs72
  have ms8 := f.ms8
  obtain ⟨l1, c0, c1, c2, c3, c4, c5, c6⟩ := Boxed.of X0
  have r0 : ∀ d os, (grow (redrawn W0 d) os).cell? ⟨w.heap.size, 0, none⟩ = some (.slice s.on.a s.on.n s.on.c) := fun d os => cell_regrown c0 d os
  have r2 : ∀ d os, (grow (redrawn W0 d) os).cell? ⟨w.heap.size, 2, none⟩ = some (.slice s.hs.a s.hs.n s.hs.c) := fun d os => cell_regrown c2 d os
  have r3 : ∀ d os, (grow (redrawn W0 d) os).cell? ⟨w.heap.size, 3, none⟩ = some (.slice s.ms.a s.ms.n s.ms.c) := fun d os => cell_regrown c3 d os
  have r4 : ∀ d os, (grow (redrawn W0 d) os).cell? ⟨w.heap.size, 4, none⟩ = some (.slice s.si.a s.si.n s.si.c) := fun d os => cell_regrown c4 d os
  have r5 : ∀ d os, (grow (redrawn W0 d) os).cell? ⟨w.heap.size, 5, none⟩ = some (.slice s.so.a s.so.n s.so.c) := fun d os => cell_regrown c5 d os
  have r6 : ∀ d os, (grow (redrawn W0 d) os).cell? ⟨w.heap.size, 6, none⟩ = some (.slice s.sf.a s.sf.n s.sf.c) := fun d os => cell_regrown c6 d os
  obtain ⟨iI, hI, hI0, hI1, hI2⟩ := info_parts infoInt
  obtain ⟨iH, hH, hH0, hH1, hH2⟩ := info_parts infoHoldC
  obtain ⟨iM, hM, hM0, hM1, hM2⟩ := info_parts infoMoveC
  obtain ⟨iL, hL, hL0, hL1, hL2⟩ := info_parts infoLineC
  obtain ⟨iO, hO, hO0, hO1, hO2⟩ := info_parts infoOrderC
  clear hW X0 Z0 hs f c0 c1 c2 c3 c4 c5 c6
  unfold St.val
  go_enter Tryz.func19, Tryz.ntmps19
  go_wp2_with fail
  rw [HW.out]
  refine wp_region_made6 (fun w' => ∃ p : Regrown, w' = grow (redrawn W0 p.d) p.os) [0, 1, 4, 5, 8, 9, 12, 13, 16, 17, 20, 21] [2, 3, 6, 7, 10, 11, 14, 15, 18, 19, 22, 23, 24] [(false, 25)] (by kernel_rfl) (by kernel_rfl) (by kernel_rfl) (by kernel_rfl) (by kernel_rfl) (by kernel_rfl) (by kernel_rfl) (by kernel_rfl) (by kernel_rfl) (regrown_of_below ((Below.refl _ _).drew)) ?_
  simp only [picks, List.drop_succ_cons, List.drop_zero, List.take_succ_cons, List.take_zero, List.cons_append, List.nil_append]
  repeat (go_big_quiet_step (fail))
  refine wpQuiet_nil ?_
  clear r0 r2 r3 r4 r5 r6
  refine ⟨fun j v g wk => match j with | 2 => DOn w.heap.size s v g wk | 6 => DHs w.heap.size 58 s.hs v g wk | 10 => DHs w.heap.size 56 s.ms v g wk | 14 => DInts w.heap.size s.si v g wk | 18 => DInts w.heap.size s.so v g wk | 22 => DInts w.heap.size s.sf v g wk | 23 => DAgg w.heap.size s v g wk | 24 => BoxAt W0.heap.size v g wk | _ => DE v g,
    ?zmono, ?zlow, ?zstep, ?zdone⟩
  case zmono =>
    intro j hj v g w w' hB h
    simp only [List.mem_cons, List.not_mem_nil, or_false] at hj
    rcases hj with rfl | rfl | rfl | rfl | rfl | rfl | rfl | rfl | rfl | rfl | rfl | rfl | rfl
    · exact DOn.below h hB
    · exact h
    · exact DHs.below h hB
    · exact h
    · exact DHs.below h hB
    · exact h
    · exact DInts.below h hB
    · exact h
    · exact DInts.below h hB
    · exact h
    · exact DInts.below h hB
    · exact DAgg.below h hB
    · exact BoxAt.below h hB
  case zlow =>
    intro j hj v g w h
    simp only [List.mem_cons, List.not_mem_nil, or_false] at hj
    rcases hj with rfl | rfl | rfl | rfl | rfl | rfl | rfl | rfl | rfl | rfl | rfl | rfl | rfl
    · exact DOn.lt h
    · obtain ⟨_, h1, _⟩ := h; rw [h1]; intro x hx; simp at hx
    · obtain ⟨_, h1, _⟩ := h; rw [h1]; intro x hx; simp at hx
    · obtain ⟨_, h1, _⟩ := h; rw [h1]; intro x hx; simp at hx
    · obtain ⟨_, h1, _⟩ := h; rw [h1]; intro x hx; simp at hx
    · obtain ⟨_, h1, _⟩ := h; rw [h1]; intro x hx; simp at hx
    · exact DInts.lt h
    · obtain ⟨_, h1, _⟩ := h; rw [h1]; intro x hx; simp at hx
    · exact DInts.lt h
    · obtain ⟨_, h1, _⟩ := h; rw [h1]; intro x hx; simp at hx
    · exact DInts.lt h
    · obtain ⟨h1, _⟩ := h; rw [h1]; intro x hx; simp at hx
    · exact BoxAt.lt h
  case zstep =>
    intro i hi
    simp only [List.mem_cons, List.not_mem_nil, or_false] at hi
    rcases hi with rfl | rfl | rfl | rfl | rfl | rfl | rfl | rfl | rfl | rfl | rfl | rfl | rfl
    · intro V G wk K hS hd hA hK
      have hX := below_of_regrown hS
      have q := hX.size
      refine wpOp_list 2 rfl ?_
      simp only [putAll, dstOf, List.getElem?_toArray, List.getElem?_cons_succ, List.getElem?_cons_zero, Act.put, List.setIfInBounds_toArray, List.set_cons_succ, List.set_cons_zero] at hK ⊢
      go_wp2_with fail
      refine (ownOn_any s.on wk (HS.out.on.below hX) (by rw [HF.out.sh.n]; exact HF.out.sh.pl.nb6) (by rw [HF.out.sh.n]; exact HF.out.sh.pl.nb1) (fun i hi => by rw [HF.out.sh.len i hi]; exact ⟨ns1, ns3⟩)).mono ?_
      rintro e w2 ⟨g0, c0, Gr, Cr, rfl, a1, a1', a1'', a2, a3, a4, hB2⟩
      go_wp2_with fail
      refine hK _ ((List.range s.on.n).map Gr) _ (regrown_of_below (hX.trans (hB2.mono hX.size))) hB2 (fun x hx => ?_) ⟨g0, c0, Gr, Cr, rfl, by omega, a1', a1'', a2, fun i hi => ⟨by have := (a3 i hi).1; omega, (a3 i hi).2⟩, a4, rfl⟩
      obtain ⟨i, hi, rfl⟩ := List.mem_map.1 hx
      exact (a3 i (List.mem_range.1 hi)).1
    · intro V G wk K hS hd hA hK
      have hX := below_of_regrown hS
      refine wpOp_list 3 rfl ?_
      simp only [putAll, dstOf, List.getElem?_toArray, List.getElem?_cons_succ, List.getElem?_cons_zero, Act.put, List.setIfInBounds_toArray, List.set_cons_succ, List.set_cons_zero] at hK ⊢
      go_wp2_with fail
      exact hK _ [] _ (regrown_of_below (hX.alloc hX.size _)) ((Below.refl _ _).alloc (Nat.le_refl _) _) (fun x hx => by simp at hx) ⟨wk.heap.size, rfl, rfl⟩
    · intro V G wk K hS hd hA hK
      have hX := below_of_regrown hS
      have q := hX.size
      obtain ⟨B, -, h3⟩ : DE (V 3) (G 3) := hd 3 (List.contains_iff_mem.1 (by kernel_rfl)) (by simp)
      refine wpOp_list 6 rfl ?_
      simp only [putAll, dstOf, List.getElem?_toArray, List.getElem?_cons_succ, List.getElem?_cons_zero, Act.put, List.setIfInBounds_toArray, List.set_cons_succ, List.set_cons_zero, h3] at hK ⊢
      go_wp2_with (at_builtin; refine wp_append_empty wk rfl (.tmp 8) (.tmp 10) 28 rfl 58 iH (.agg #[.int .i64 0, .int .i64 0, .int .i64 0, .int .i64 0]) 4 32 Tryz.underlying28 hH hH0 hH1 hH2 rfl (by decide) B rfl s.hs.a s.hs.n s.hs.c (flatH s.hs.n s.hs.z) rfl (by rw [flatH_len]) (hs_news (HS.out.hs.below hX)) (flatH_one _ _) (hs_none (HS.out.hs.below hX)) (by unfold maxLen; omega) (by omega) ?_ ?_)
      · intro h0
        exact wpList_end (hK _ [] _ hS (Below.refl _ _) (fun x hx => by simp at hx) ⟨⟨some ⟨B, 0, none⟩, 0, 0, s.hs.z⟩, rfl, rfl, cloned_none B h0⟩)
      · intro h0 v' w1 hown hgrow
        have hB1 : Below wk.heap.size wk w1 := (Below.refl _ wk).grown hgrow (Nat.le_refl _) (by intro k hk; cases hk)
        obtain ⟨s', rfl, hc⟩ := cloned_grow (A := w.heap.size) h0 hown (by omega)
        exact wpList_end (hK _ [] _ (regrown_of_below (hX.trans (hB1.mono hX.size))) hB1 (fun x hx => by simp at hx) ⟨s', rfl, rfl, hc⟩)
    · intro V G wk K hS hd hA hK
      have hX := below_of_regrown hS
      refine wpOp_list 7 rfl ?_
      simp only [putAll, dstOf, List.getElem?_toArray, List.getElem?_cons_succ, List.getElem?_cons_zero, Act.put, List.setIfInBounds_toArray, List.set_cons_succ, List.set_cons_zero] at hK ⊢
      go_wp2_with fail
      exact hK _ [] _ (regrown_of_below (hX.alloc hX.size _)) ((Below.refl _ _).alloc (Nat.le_refl _) _) (fun x hx => by simp at hx) ⟨wk.heap.size, rfl, rfl⟩
    · intro V G wk K hS hd hA hK
      have hX := below_of_regrown hS
      have q := hX.size
      obtain ⟨B, -, h3⟩ : DE (V 7) (G 7) := hd 7 (List.contains_iff_mem.1 (by kernel_rfl)) (by simp)
      refine wpOp_list 10 rfl ?_
      simp only [putAll, dstOf, List.getElem?_toArray, List.getElem?_cons_succ, List.getElem?_cons_zero, Act.put, List.setIfInBounds_toArray, List.set_cons_succ, List.set_cons_zero, h3] at hK ⊢
      go_wp2_with (at_builtin; refine wp_append_empty wk rfl (.tmp 12) (.tmp 14) 29 rfl 56 iM (.agg #[.int .i64 0, .int .i64 0, .int .i64 0, .int .i64 0]) 4 32 Tryz.underlying29 hM hM0 hM1 hM2 rfl (by decide) B rfl s.ms.a s.ms.n s.ms.c (flatH s.ms.n s.ms.z) rfl (by rw [flatH_len]) (hs_news (HS.out.ms.below hX)) (flatH_one _ _) (hs_none (HS.out.ms.below hX)) (by unfold maxLen; omega) (by omega) ?_ ?_)
      · intro h0
        exact wpList_end (hK _ [] _ hS (Below.refl _ _) (fun x hx => by simp at hx) ⟨⟨some ⟨B, 0, none⟩, 0, 0, s.ms.z⟩, rfl, rfl, cloned_none B h0⟩)
      · intro h0 v' w1 hown hgrow
        have hB1 : Below wk.heap.size wk w1 := (Below.refl _ wk).grown hgrow (Nat.le_refl _) (by intro k hk; cases hk)
        obtain ⟨s', rfl, hc⟩ := cloned_grow (A := w.heap.size) h0 hown (by omega)
        exact wpList_end (hK _ [] _ (regrown_of_below (hX.trans (hB1.mono hX.size))) hB1 (fun x hx => by simp at hx) ⟨s', rfl, rfl, hc⟩)
    · intro V G wk K hS hd hA hK
      have hX := below_of_regrown hS
      refine wpOp_list 11 rfl ?_
      simp only [putAll, dstOf, List.getElem?_toArray, List.getElem?_cons_succ, List.getElem?_cons_zero, Act.put, List.setIfInBounds_toArray, List.set_cons_succ, List.set_cons_zero] at hK ⊢
      go_wp2_with fail
      exact hK _ [] _ (regrown_of_below (hX.alloc hX.size _)) ((Below.refl _ _).alloc (Nat.le_refl _) _) (fun x hx => by simp at hx) ⟨wk.heap.size, rfl, rfl⟩
    · intro V G wk K hS hd hA hK
      have hX := below_of_regrown hS
      have q := hX.size
      obtain ⟨B, -, h3⟩ : DE (V 11) (G 11) := hd 11 (List.contains_iff_mem.1 (by kernel_rfl)) (by simp)
      have HN : Hid (s.si.n = p.ns) := HF.out.sin
      refine wpOp_list 14 rfl ?_
      simp only [putAll, dstOf, List.getElem?_toArray, List.getElem?_cons_succ, List.getElem?_cons_zero, Act.put, List.setIfInBounds_toArray, List.set_cons_succ, List.set_cons_zero, h3] at hK ⊢
      go_wp2_with (at_builtin; refine wp_append_empty wk rfl (.tmp 16) (.tmp 18) 23 rfl 3 iI (.int .i64 0) 1 8 Tryz.underlying23 hI hI0 hI1 hI2 rfl (by decide) B rfl s.si.a s.si.n s.si.c ((List.range s.si.n).map fun j => Value.int .i64 (s.si.z j)) rfl (by simp) (rw_news (HS.out.si.below hX)) (fun u hu => by obtain ⟨x, _, rfl⟩ := List.mem_map.1 hu; rfl) (rw_none (HS.out.si.below hX)) (by rw [HN.out]; unfold maxLen; omega) (by rw [HN.out]; omega) ?_ ?_)
      · intro h0
        exact absurd h0 (by rw [HN.out]; omega)
      · intro h0 v' w1 hown hgrow
        have hB1 : Below wk.heap.size wk w1 := (Below.refl _ wk).grown hgrow (Nat.le_refl _) (by intro k hk; cases hk)
        obtain ⟨gi, ci, rfl, hge, hdi⟩ := ints_grow (A := w.heap.size) h0 hown (by omega)
        exact wpList_end (hK _ [gi] _ (regrown_of_below (hX.trans (hB1.mono hX.size))) hB1 (fun x hx => by rw [List.mem_singleton] at hx; omega) hdi)
    · intro V G wk K hS hd hA hK
      have hX := below_of_regrown hS
      refine wpOp_list 15 rfl ?_
      simp only [putAll, dstOf, List.getElem?_toArray, List.getElem?_cons_succ, List.getElem?_cons_zero, Act.put, List.setIfInBounds_toArray, List.set_cons_succ, List.set_cons_zero] at hK ⊢
      go_wp2_with fail
      exact hK _ [] _ (regrown_of_below (hX.alloc hX.size _)) ((Below.refl _ _).alloc (Nat.le_refl _) _) (fun x hx => by simp at hx) ⟨wk.heap.size, rfl, rfl⟩
    · intro V G wk K hS hd hA hK
      have hX := below_of_regrown hS
      have q := hX.size
      obtain ⟨B, -, h3⟩ : DE (V 15) (G 15) := hd 15 (List.contains_iff_mem.1 (by kernel_rfl)) (by simp)
      have HN : Hid (s.so.n = p.ns) := HF.out.son
      refine wpOp_list 18 rfl ?_
      simp only [putAll, dstOf, List.getElem?_toArray, List.getElem?_cons_succ, List.getElem?_cons_zero, Act.put, List.setIfInBounds_toArray, List.set_cons_succ, List.set_cons_zero, h3] at hK ⊢
      go_wp2_with (at_builtin; refine wp_append_empty wk rfl (.tmp 20) (.tmp 22) 23 rfl 3 iI (.int .i64 0) 1 8 Tryz.underlying23 hI hI0 hI1 hI2 rfl (by decide) B rfl s.so.a s.so.n s.so.c ((List.range s.so.n).map fun j => Value.int .i64 (s.so.z j)) rfl (by simp) (rw_news (HS.out.so.below hX)) (fun u hu => by obtain ⟨x, _, rfl⟩ := List.mem_map.1 hu; rfl) (rw_none (HS.out.so.below hX)) (by rw [HN.out]; unfold maxLen; omega) (by rw [HN.out]; omega) ?_ ?_)
      · intro h0
        exact absurd h0 (by rw [HN.out]; omega)
      · intro h0 v' w1 hown hgrow
        have hB1 : Below wk.heap.size wk w1 := (Below.refl _ wk).grown hgrow (Nat.le_refl _) (by intro k hk; cases hk)
        obtain ⟨gi, ci, rfl, hge, hdi⟩ := ints_grow (A := w.heap.size) h0 hown (by omega)
        exact wpList_end (hK _ [gi] _ (regrown_of_below (hX.trans (hB1.mono hX.size))) hB1 (fun x hx => by rw [List.mem_singleton] at hx; omega) hdi)
    · intro V G wk K hS hd hA hK
      have hX := below_of_regrown hS
      refine wpOp_list 19 rfl ?_
      simp only [putAll, dstOf, List.getElem?_toArray, List.getElem?_cons_succ, List.getElem?_cons_zero, Act.put, List.setIfInBounds_toArray, List.set_cons_succ, List.set_cons_zero] at hK ⊢
      go_wp2_with fail
      exact hK _ [] _ (regrown_of_below (hX.alloc hX.size _)) ((Below.refl _ _).alloc (Nat.le_refl _) _) (fun x hx => by simp at hx) ⟨wk.heap.size, rfl, rfl⟩
    · intro V G wk K hS hd hA hK
      have hX := below_of_regrown hS
      have q := hX.size
      obtain ⟨B, -, h3⟩ : DE (V 19) (G 19) := hd 19 (List.contains_iff_mem.1 (by kernel_rfl)) (by simp)
      have HN : Hid (s.sf.n = p.ns) := HF.out.sfn
      refine wpOp_list 22 rfl ?_
      simp only [putAll, dstOf, List.getElem?_toArray, List.getElem?_cons_succ, List.getElem?_cons_zero, Act.put, List.setIfInBounds_toArray, List.set_cons_succ, List.set_cons_zero, h3] at hK ⊢
      go_wp2_with (at_builtin; refine wp_append_empty wk rfl (.tmp 24) (.tmp 26) 23 rfl 3 iI (.int .i64 0) 1 8 Tryz.underlying23 hI hI0 hI1 hI2 rfl (by decide) B rfl s.sf.a s.sf.n s.sf.c ((List.range s.sf.n).map fun j => Value.int .i64 (s.sf.z j)) rfl (by simp) (rw_news (HS.out.sf.below hX)) (fun u hu => by obtain ⟨x, _, rfl⟩ := List.mem_map.1 hu; rfl) (rw_none (HS.out.sf.below hX)) (by rw [HN.out]; unfold maxLen; omega) (by rw [HN.out]; omega) ?_ ?_)
      · intro h0
        exact absurd h0 (by rw [HN.out]; omega)
      · intro h0 v' w1 hown hgrow
        have hB1 : Below wk.heap.size wk w1 := (Below.refl _ wk).grown hgrow (Nat.le_refl _) (by intro k hk; cases hk)
        obtain ⟨gi, ci, rfl, hge, hdi⟩ := ints_grow (A := w.heap.size) h0 hown (by omega)
        exact wpList_end (hK _ [gi] _ (regrown_of_below (hX.trans (hB1.mono hX.size))) hB1 (fun x hx => by rw [List.mem_singleton] at hx; omega) hdi)
    · intro V G wk K hS hd hA hK
      have e2 : DOn w.heap.size s (V 2) (G 2) wk := hd 2 (List.contains_iff_mem.1 (by kernel_rfl)) (by simp)
      have e6 : DHs w.heap.size 58 s.hs (V 6) (G 6) wk := hd 6 (List.contains_iff_mem.1 (by kernel_rfl)) (by simp)
      have e10 : DHs w.heap.size 56 s.ms (V 10) (G 10) wk := hd 10 (List.contains_iff_mem.1 (by kernel_rfl)) (by simp)
      have e14 : DInts w.heap.size s.si (V 14) (G 14) wk := hd 14 (List.contains_iff_mem.1 (by kernel_rfl)) (by simp)
      have e18 : DInts w.heap.size s.so (V 18) (G 18) wk := hd 18 (List.contains_iff_mem.1 (by kernel_rfl)) (by simp)
      have e22 : DInts w.heap.size s.sf (V 22) (G 22) wk := hd 22 (List.contains_iff_mem.1 (by kernel_rfl)) (by simp)
      have HD : Hid (DAgg w.heap.size s (.agg #[V 2, .slice .none 0 0, V 6, V 10, V 14, V 18, V 22]) [] wk) := ⟨rfl, V 2, G 2, V 6, G 6, V 10, G 10, V 14, G 14, V 18, G 18, V 22, G 22, rfl, e2, e6, e10, e14, e18, e22, hA 2 (List.contains_iff_mem.1 (by kernel_rfl)) 14 (List.contains_iff_mem.1 (by kernel_rfl)) (by simp) (by simp) (by decide), hA 2 (List.contains_iff_mem.1 (by kernel_rfl)) 18 (List.contains_iff_mem.1 (by kernel_rfl)) (by simp) (by simp) (by decide), hA 2 (List.contains_iff_mem.1 (by kernel_rfl)) 22 (List.contains_iff_mem.1 (by kernel_rfl)) (by simp) (by simp) (by decide), hA 14 (List.contains_iff_mem.1 (by kernel_rfl)) 18 (List.contains_iff_mem.1 (by kernel_rfl)) (by simp) (by simp) (by decide), hA 14 (List.contains_iff_mem.1 (by kernel_rfl)) 22 (List.contains_iff_mem.1 (by kernel_rfl)) (by simp) (by simp) (by decide), hA 18 (List.contains_iff_mem.1 (by kernel_rfl)) 22 (List.contains_iff_mem.1 (by kernel_rfl)) (by simp) (by simp) (by decide)⟩
      obtain ⟨g0, c0, Gr, Cr, v2, -⟩ := e2
      obtain ⟨h', -, v6, -⟩ := e6
      obtain ⟨m', -, v10, -⟩ := e10
      obtain ⟨B1, k1, -, v14, -⟩ := e14
      obtain ⟨B2, k2, -, v18, -⟩ := e18
      obtain ⟨B3, k3, -, v22, -⟩ := e22
      have HD2 := HD.out
      rw [v2, v6, v10, v14, v18, v22] at HD2
      have HD3 : Hid (DAgg w.heap.size s (.agg #[.slice (some ⟨g0, 0, none⟩) s.on.n c0, .slice .none 0 0, .slice h'.a h'.n h'.c, .slice m'.a m'.n m'.c, .slice (some ⟨B1, 0, none⟩) s.si.n k1, .slice (some ⟨B2, 0, none⟩) s.so.n k2, .slice (some ⟨B3, 0, none⟩) s.sf.n k3]) [] wk) := HD2
      clear HD HD2 hA hd
      refine wpOp_list 23 rfl ?_
      simp only [putAll, dstOf, List.getElem?_toArray, List.getElem?_cons_succ, List.getElem?_cons_zero, Act.put, List.setIfInBounds_toArray, List.set_cons_succ, List.set_cons_zero, v2, v6, v10, v14, v18, v22] at hK ⊢
      go_wp2_with fail
      exact hK _ [] _ hS (Below.refl _ _) (fun x hx => by simp at hx) HD3.out
    · intro V G wk K hS hd hA hK
      have hX := below_of_regrown hS
      refine wpOp_list 24 rfl ?_
      simp only [putAll, dstOf, List.getElem?_toArray, List.getElem?_cons_succ, List.getElem?_cons_zero, Act.put, List.setIfInBounds_toArray, List.set_cons_succ, List.set_cons_zero] at hK ⊢
      go_wp2_with fail
      exact hK _ [wk.heap.size] _ (regrown_of_below (hX.alloc hX.size _)) ((Below.refl _ _).alloc (Nat.le_refl _) _) (fun x hx => by rw [List.mem_singleton] at hx; omega) ⟨wk.heap.size, rfl, rfl, hX.size, (Blk.mk' (cur := #[.slice .none 0 0, .slice .none 0 0, .slice .none 0 0, .slice .none 0 0, .slice .none 0 0, .slice .none 0 0, .slice .none 0 0]) rfl rfl).congr (fun j hj => by match j, hj with | 0, _ => rfl | 1, _ => rfl | 2, _ => rfl | 3, _ => rfl | 4, _ => rfl | 5, _ => rfl | 6, _ => rfl)⟩
  case zdone =>
    intro V G wk hS hD hA
    obtain ⟨-, x2, g2, x6, g6, x10, g10, x14, g14, x18, g18, x22, g22, v23, ⟨g0, c0, Gr, Cr, rfl, a1, a1', a1'', a2, a3, a4, rfl⟩, ⟨h', -, rfl, d1, d2, d3, -⟩, ⟨m', -, rfl, f1, f2, f3, f4⟩, ⟨B1, k1, rfl, rfl, i1, i2, i3, i4⟩, ⟨B2, k2, rfl, rfl, j1, j2, j3, j4⟩, ⟨B3, k3, rfl, rfl, l2, l3, l4, l5⟩, n1, n2, n3, n4, n5, n6⟩ : DAgg w.heap.size s (V 23) (G 23) wk := hD 23 (by simp)
    obtain ⟨BX, -, h24, mX, kX⟩ : BoxAt W0.heap.size (V 24) (G 24) wk := hD 24 (by simp)
    have hX := below_of_regrown hS
    have n12 : B1 ≠ B2 := fun e => n4 B1 (by simp) (by rw [e]; simp)
    have n13 : B1 ≠ B3 := fun e => n5 B1 (by simp) (by rw [e]; simp)
    have n23 : B2 ≠ B3 := fun e => n6 B2 (by simp) (by rw [e]; simp)
    have nr : ∀ i, i < s.on.n → Gr i ≠ B1 ∧ Gr i ≠ B2 ∧ Gr i ≠ B3 := fun i hi => by
      have hm : Gr i ∈ (List.range s.on.n).map Gr := List.mem_map.2 ⟨i, List.mem_range.2 hi, rfl⟩
      exact ⟨fun e => n1 _ hm (by rw [e]; simp), fun e => n2 _ hm (by rw [e]; simp), fun e => n3 _ hm (by rw [e]; simp)⟩
    have HR : Hid (OwnS w.heap.size wk ⟨⟨some ⟨g0, 0, none⟩, s.on.n, c0, fun i => ⟨some ⟨Gr i, 0, none⟩, (s.on.r i).n, Cr i, (s.on.r i).z⟩⟩, ⟨none, 0, 0, fun _ => ⟨0, ⟨none, 0, 0, fun _ => ⟨0, 0, 0, 0⟩⟩⟩⟩, h', m', ⟨some ⟨B1, 0, none⟩, s.si.n, k1, s.si.z⟩, ⟨some ⟨B2, 0, none⟩, s.so.n, k2, s.so.z⟩, ⟨some ⟨B3, 0, none⟩, s.sf.n, k3, s.sf.z⟩⟩) := by
      refine ⟨⟨g0, rfl, a1, a1', a1'', a2⟩, fun i hi => ⟨Gr i, rfl, (a3 i hi).1, (a3 i hi).2.1, (a3 i hi).2.2.1, (a3 i hi).2.2.2⟩, fun i j hij hj => ?_, ⟨Nat.le_refl _, Nat.zero_le _, fun h => absurd h (Nat.lt_irrefl _), fun i hi => absurd hi (Nat.not_lt_zero _), fun i j _ hj => absurd hj (Nat.not_lt_zero _), Or.inl rfl⟩, d3, f3, f4, ⟨B1, rfl, i1, i2, i3, i4⟩, ⟨B2, rfl, j1, j2, j3, j4⟩, ⟨B3, rfl, l2, l3, l4, l5⟩, ?_, ?_, ?_, fun i hi => ?_⟩
      · have := a4 i j hij hj
        simp only [ne_eq, Option.some.injEq, Addr.mk.injEq, and_true]
        omega
      · intro e; simp only [Option.some.injEq, Addr.mk.injEq, and_true] at e; exact n12 e
      · intro e; simp only [Option.some.injEq, Addr.mk.injEq, and_true] at e; exact n13 e
      · intro e; simp only [Option.some.injEq, Addr.mk.injEq, and_true] at e; exact n23 e
      · obtain ⟨x1, x2, x3⟩ := nr i hi
        exact ⟨fun e => by simp only [Option.some.injEq, Addr.mk.injEq, and_true] at e; exact x1 e, fun e => by simp only [Option.some.injEq, Addr.mk.injEq, and_true] at e; exact x2 e, fun e => by simp only [Option.some.injEq, Addr.mk.injEq, and_true] at e; exact x3 e⟩
    have HCT : Hid ((h'.n = s.hs.n ∧ ∀ j, j < h'.n → h'.z j = s.hs.z j) ∧ (m'.n = s.ms.n ∧ ∀ j, j < m'.n → m'.z j = s.ms.z j)) := ⟨⟨d1, fun j hj => d2 j (by rw [← d1]; exact hj)⟩, ⟨f1, fun j hj => f2 j (by rw [← f1]; exact hj)⟩⟩
    clear hD hA a1 a1' a1'' a2 a3 a4 d1 d2 d3 f1 f2 f3 f4 i1 i2 i3 i4 j1 j2 j3 j4 l2 l3 l4 l5 n1 n2 n3 n4 n5 n6 n12 n13 n23 nr hS
    have HKX : Hid (Blk wk BX 31 7 (fun _ => .slice .none 0 0)) := kX
    have xl := kX.lt
    have zf0 := kX.frozen 0
    have zc0 := kX.cell (j := 0) (by decide)
    have zf1 := kX.frozen 1
    have zc1 := kX.cell (j := 1) (by decide)
    have zf2 := kX.frozen 2
    have zc2 := kX.cell (j := 2) (by decide)
    have zf3 := kX.frozen 3
    have zc3 := kX.cell (j := 3) (by decide)
    have zf4 := kX.frozen 4
    have zc4 := kX.cell (j := 4) (by decide)
    have zf5 := kX.frozen 5
    have zc5 := kX.cell (j := 5) (by decide)
    have zf6 := kX.frozen 6
    have zc6 := kX.cell (j := 6) (by decide)
    clear kX
    simp only [putAll, dstOf, List.getElem?_toArray, List.getElem?_cons_succ, List.getElem?_cons_zero, Act.put, List.setIfInBounds_toArray, List.set_cons_succ, List.set_cons_zero, v23, h24]
    refine wpSeq_one 25 rfl ?_
    go_wp2_with fail
    have KZ := set7_blk HKX.out (.slice (some ⟨g0, 0, none⟩) s.on.n c0) (.slice .none 0 0) (.slice h'.a h'.n h'.c) (.slice m'.a m'.n m'.c) (.slice (some ⟨B1, 0, none⟩) s.si.n k1) (.slice (some ⟨B2, 0, none⟩) s.so.n k2) (.slice (some ⟨B3, 0, none⟩) s.sf.n k3)
    have hb := set7_below hX mX (.slice (some ⟨g0, 0, none⟩) s.on.n c0) (.slice .none 0 0) (.slice h'.a h'.n h'.c) (.slice m'.a m'.n m'.c) (.slice (some ⟨B1, 0, none⟩) s.si.n k1) (.slice (some ⟨B2, 0, none⟩) s.so.n k2) (.slice (some ⟨B3, 0, none⟩) s.sf.n k3)
    have HR2 := OwnS.set7 HR.out HKX.out (.slice (some ⟨g0, 0, none⟩) s.on.n c0) (.slice .none 0 0) (.slice h'.a h'.n h'.c) (.slice m'.a m'.n m'.c) (.slice (some ⟨B1, 0, none⟩) s.si.n k1) (.slice (some ⟨B2, 0, none⟩) s.so.n k2) (.slice (some ⟨B3, 0, none⟩) s.sf.n k3)
    unfold set7 at KZ hb HR2
    generalize (((((((wk.setCell { block := BX, off := 0 } (Value.slice (some { block := g0, off := 0 }) s.on.n c0)).setCell { block := BX, off := 1 } (Value.slice none 0 0)).setCell { block := BX, off := 2 } (Value.slice h'.a h'.n h'.c)).setCell { block := BX, off := 3 } (Value.slice m'.a m'.n m'.c)).setCell { block := BX, off := 4 } (Value.slice (some { block := B1, off := 0 }) s.si.n k1)).setCell { block := BX, off := 5 } (Value.slice (some { block := B2, off := 0 }) s.so.n k2)).setCell { block := BX, off := 6 } (Value.slice (some { block := B3, off := 0 }) s.sf.n k3)) = WZ at *
    clear hX zf0 zc0 zf1 zc1 zf2 zc2 zf3 zc3 zf4 zc4 zf5 zc5 zf6 zc6 xl v23 h24
    refine ⟨Late.no (regrown_of_below hb), ?_⟩
    refine NoPanic.normal ?_
    go_wp2_with fail
    have HL0 : Hid (OwnL w.heap.size W0.heap.size s ⟨⟨some ⟨g0, 0, none⟩, s.on.n, c0, fun i => ⟨some ⟨Gr i, 0, none⟩, (s.on.r i).n, Cr i, (s.on.r i).z⟩⟩, ⟨none, 0, 0, fun _ => ⟨0, ⟨none, 0, 0, fun _ => ⟨0, 0, 0, 0⟩⟩⟩⟩, h', m', ⟨some ⟨B1, 0, none⟩, s.si.n, k1, s.si.z⟩, ⟨some ⟨B2, 0, none⟩, s.so.n, k2, s.so.z⟩, ⟨some ⟨B3, 0, none⟩, s.sf.n, k3, s.sf.z⟩⟩ BX 0 WZ) := ⟨.slice .none 0 0, fun _ => ⟨0, ⟨none, 0, 0, fun _ => ⟨0, 0, 0, 0⟩⟩⟩, KZ, World.ownsRow_nil _ _ _ _, fun i hi => absurd hi (Nat.not_lt_zero _), fun i j _ hj => absurd hj (Nat.not_lt_zero _), HR2⟩
    clear KZ HR HR2 HKX
    have os4 := HF.out.os4
    have ole := HS.out.os.le
    have ocap := HS.out.os.cap
    unfold maxLen at ocap
    go_loopw [4] (fun i wk => ∃ k : Nat, k ≤ s.os.n ∧ i = .int .i64 k ∧ Hid (OwnL w.heap.size W0.heap.size s ⟨⟨some ⟨g0, 0, none⟩, s.on.n, c0, fun i => ⟨some ⟨Gr i, 0, none⟩, (s.on.r i).n, Cr i, (s.on.r i).z⟩⟩, ⟨none, 0, 0, fun _ => ⟨0, ⟨none, 0, 0, fun _ => ⟨0, 0, 0, 0⟩⟩⟩⟩, h', m', ⟨some ⟨B1, 0, none⟩, s.si.n, k1, s.si.z⟩, ⟨some ⟨B2, 0, none⟩, s.so.n, k2, s.so.z⟩, ⟨some ⟨B3, 0, none⟩, s.sf.n, k3, s.sf.z⟩⟩ BX k wk) ∧ Below W0.heap.size W0 wk) (fun i _ => s.os.n - (intOf i).toNat)
    case atStart => exact ⟨0, Nat.zero_le _, rfl, HL0, hb⟩
    case round =>
      clear HL0 hb
      obtain ⟨k, hk, rfl, HL, hB⟩ := hrel
      obtain ⟨⟨lb, b0, b1, b2, b3, b4, b5, b6⟩, hz, hsk, hBw⟩ := HC.out wr hB
      by_cases hlt : k < s.os.n
      · obtain ⟨v, Ls, kX, ho, hln, hap, hOS⟩ := HL.out
        obtain ⟨bo, oo, hoa, hbo, y0, y1, hlk⟩ := hsk.os.ods k hlt
        have l3 := HF.out.lns k hlt
        have HG : Hid (wr.ownsRow W0.heap.size 64 2 v k (flatO k Ls) ∧ (∀ i, i < k → LineOK w.heap.size s Ls i wr) ∧ (∀ i j, i < j → j < k → (Ls i).ls.a ≠ (Ls j).ls.a) ∧ OwnS w.heap.size wr ⟨⟨some ⟨g0, 0, none⟩, s.on.n, c0, fun i => ⟨some ⟨Gr i, 0, none⟩, (s.on.r i).n, Cr i, (s.on.r i).z⟩⟩, ⟨none, 0, 0, fun _ => ⟨0, ⟨none, 0, 0, fun _ => ⟨0, 0, 0, 0⟩⟩⟩⟩, h', m', ⟨some ⟨B1, 0, none⟩, s.si.n, k1, s.si.z⟩, ⟨some ⟨B2, 0, none⟩, s.so.n, k2, s.so.z⟩, ⟨some ⟨B3, 0, none⟩, s.sf.n, k3, s.sf.z⟩⟩) := ⟨ho, hln, hap, hOS⟩
        have HX : Hid (Blk wr BX 31 7 (fun j => (#[.slice (some ⟨g0, 0, none⟩) s.on.n c0, v, .slice h'.a h'.n h'.c, .slice m'.a m'.n m'.c, .slice (some ⟨B1, 0, none⟩) s.si.n k1, .slice (some ⟨B2, 0, none⟩) s.so.n k2, .slice (some ⟨B3, 0, none⟩) s.sf.n k3] : Array Value).getD j default)) := kX
        have HLK : Hid ((s.os.z k).ls.At wr) := hlk
        have qk : (0 : Int) ≤ (k : Int) := by omega
        rw [hoa] at b1
        have r0 : ∀ d os, (grow (redrawn wr d) os).cell? ⟨BX, 1, none⟩ = some v := fun d os => cell_regrown (kX.cell (j := 1) (by decide)) d os
        have r1 : ∀ d os, (grow (redrawn wr d) os).cell? ⟨w.heap.size, 1, none⟩ = some (.slice (some ⟨bo, oo, none⟩) s.os.n s.os.c) := fun d os => cell_regrown b1 d os
        have r2 : ∀ d os, (grow (redrawn wr d) os).cell? ⟨bo, oo + k * 2, none⟩ = some (.int .i64 (s.os.z k).k) := fun d os => cell_regrown y0 d os
        have r3 : ∀ d os, (grow (redrawn wr d) os).cell? ⟨bo, oo + k * 2 + 1, none⟩ = some (.slice (s.os.z k).ls.a (s.os.z k).ls.n (s.os.z k).ls.c) := fun d os => cell_regrown y1 d os
        clear kX ho hln hap hOS hz hoa y0 y1 hlk b0 b2 b3 b4 b5 b6 hsk HL
        go_wp2_with fail
        refine wp_region_made6 (fun w' => ∃ p : Regrown, w' = grow (redrawn wr p.d) p.os) [0, 1, 2, 3, 4, 5, 6, 7, 9, 10, 11, 12, 13, 14] [8, 15, 16, 17] [(true, 18), (true, 19), (true, 20)] (by kernel_rfl) (by kernel_rfl) (by kernel_rfl) (by kernel_rfl) (by kernel_rfl) (by kernel_rfl) (by kernel_rfl) (by kernel_rfl) (by kernel_rfl) (regrown_of_below ((Below.refl _ _).drew)) ?_
        simp only [picks, List.drop_succ_cons, List.drop_zero, List.take_succ_cons, List.take_zero, List.cons_append, List.nil_append]
        repeat (go_big_quiet_step (fail))
        refine wpQuiet_nil ?_
        clear r0 r1 r2 r3
        refine ⟨fun j v g wk => match j with | 15 => DHs wr.heap.size 61 (s.os.z k).ls v g wk | 16 => D16 wr.heap.size (s.os.z k) v g wk | 17 => D17 wr.heap.size (s.os.z k) v g wk | _ => DE v g,
          List.forall_mem_cons.2 ⟨fun v g w w' _ h => h, List.forall_mem_cons.2 ⟨fun v g w w' hB h => DHs.below h hB, List.forall_mem_cons.2 ⟨fun v g w w' hB h => D16.below h hB, List.forall_mem_cons.2 ⟨fun v g w w' hB h => D17.below h hB, List.forall_mem_nil _⟩⟩⟩⟩,
          List.forall_mem_cons.2 ⟨fun v g w h => by obtain ⟨_, h1, _⟩ := h; rw [h1]; intro x hx; simp at hx, List.forall_mem_cons.2 ⟨fun v g w h => by obtain ⟨_, h1, _⟩ := h; rw [h1]; intro x hx; simp at hx, List.forall_mem_cons.2 ⟨fun v g w h => by obtain ⟨_, h1, _⟩ := h; rw [h1]; intro x hx; simp at hx, List.forall_mem_cons.2 ⟨fun v g w h => by obtain ⟨_, _, h1, _⟩ := h; rw [h1]; intro x hx; simp at hx, List.forall_mem_nil _⟩⟩⟩⟩,
          List.forall_mem_cons.2 ⟨?zt8, List.forall_mem_cons.2 ⟨?zt15, List.forall_mem_cons.2 ⟨?zt16, List.forall_mem_cons.2 ⟨?zt17, List.forall_mem_nil _⟩⟩⟩⟩, ?ztdone⟩
        case zt8 =>
          intro V G wk K hS hd hA hK
          have hX := below_of_regrown hS
          refine wpOp_list 8 rfl ?_
          simp only [putAll, dstOf, List.getElem?_toArray, List.getElem?_cons_succ, List.getElem?_cons_zero, Act.put, List.setIfInBounds_toArray, List.set_cons_succ, List.set_cons_zero] at hK ⊢
          go_wp2_with fail
          exact hK _ [] _ (regrown_of_below (hX.alloc hX.size _)) ((Below.refl _ _).alloc (Nat.le_refl _) _) (fun x hx => by simp at hx) ⟨wk.heap.size, rfl, rfl⟩
        case zt15 =>
          intro V G wk K hS hd hA hK
          have hX := below_of_regrown hS
          have q := hX.size
          obtain ⟨B, -, h3⟩ : DE (V 8) (G 8) := hd 8 (List.contains_iff_mem.1 (by kernel_rfl)) (by simp)
          refine wpOp_list 15 rfl ?_
          simp only [putAll, dstOf, List.getElem?_toArray, List.getElem?_cons_succ, List.getElem?_cons_zero, Act.put, List.setIfInBounds_toArray, List.set_cons_succ, List.set_cons_zero, h3] at hK ⊢
          go_wp2_with (at_builtin; refine wp_append_empty wk rfl (.tmp 44) (.tmp 50) 62 rfl 61 iL (.agg #[.int .i64 0, .int .i64 0, .int .i64 0, .int .i64 0]) 4 32 Tryz.underlying62 hL hL0 hL1 hL2 rfl (by decide) B rfl (s.os.z k).ls.a (s.os.z k).ls.n (s.os.z k).ls.c (flatH (s.os.z k).ls.n (s.os.z k).ls.z) rfl (by rw [flatH_len]) (hs_news (HLK.out.below hX)) (flatH_one _ _) (hs_none (HLK.out.below hX)) (by unfold maxLen; omega) (by omega) ?_ ?_)
          · intro h0
            exact absurd h0 (by omega)
          · intro h0 v' w1 hown hgrow
            have hB1 : Below wk.heap.size wk w1 := (Below.refl _ wk).grown hgrow (Nat.le_refl _) (by intro k hk; cases hk)
            obtain ⟨s', rfl, hc⟩ := cloned_grow (A := wr.heap.size) h0 hown (by omega)
            exact wpList_end (hK _ [] _ (regrown_of_below (hX.trans (hB1.mono hX.size))) hB1 (fun x hx => by simp at hx) ⟨s', rfl, rfl, hc⟩)
        case zt16 =>
          intro V G wk K hS hd hA hK
          obtain ⟨s', -, h15, hc⟩ : DHs wr.heap.size 61 (s.os.z k).ls (V 15) (G 15) wk := hd 15 (List.contains_iff_mem.1 (by kernel_rfl)) (by simp)
          have HCL : Hid (Cloned wr.heap.size 61 (s.os.z k).ls wk s') := hc
          clear hc
          refine wpOp_list 16 rfl ?_
          simp only [putAll, dstOf, List.getElem?_toArray, List.getElem?_cons_succ, List.getElem?_cons_zero, Act.put, List.setIfInBounds_toArray, List.set_cons_succ, List.set_cons_zero, h15] at hK ⊢
          go_wp2_with fail
          exact hK _ [] _ hS (Below.refl _ _) (fun x hx => by simp at hx) ⟨s', rfl, rfl, HCL.out⟩
        case zt17 =>
          intro V G wk K hS hd hA hK
          have hX := below_of_regrown hS
          obtain ⟨s', -, h16, hc⟩ : D16 wr.heap.size (s.os.z k) (V 16) (G 16) wk := hd 16 (List.contains_iff_mem.1 (by kernel_rfl)) (by simp)
          have HCL : Hid (Cloned wr.heap.size 61 (s.os.z k).ls wk s') := hc
          clear hc
          refine wpOp_list 17 rfl ?_
          simp only [putAll, dstOf, List.getElem?_toArray, List.getElem?_cons_succ, List.getElem?_cons_zero, Act.put, List.setIfInBounds_toArray, List.set_cons_succ, List.set_cons_zero, h16] at hK ⊢
          go_wp2_with fail
          have hBa := (Below.refl wk.heap.size wk).alloc (Nat.le_refl _) (.cells #[.int .i64 (s.os.z k).k, .slice s'.a s'.n s'.c] 64)
          exact hK _ [] _ (regrown_of_below (hX.alloc hX.size _)) ((Below.refl _ _).alloc (Nat.le_refl _) _) (fun x hx => by simp at hx) ⟨wk.heap.size, s', rfl, rfl, hX.size, Blk.mk' rfl rfl, HCL.out.1, HCL.out.2.1, HCL.out.2.2.1.below hBa, HCL.out.2.2.2.below hBa⟩
        case ztdone =>
          intro V G' wk hS hD hA
          obtain ⟨BO, s', -, h17, m17, k17, e1, e2, ⟨o1, o2, o3, o4⟩, -⟩ : D17 wr.heap.size (s.os.z k) (V 17) (G' 17) wk := hD 17 (by simp)
          have hX := below_of_regrown hS
          have ho := owns_below HG.out.1 hX
          have hBk := hB.trans (hX.mono hB.size)
          have q0 := hB.size
          have q1 := hX.size
          obtain ⟨gB, ea, hgB, kB⟩ := o4 (by omega)
          clear hS hD hA
          have HE : Hid (s'.n = (s.os.z k).ls.n ∧ (∀ j, j < (s.os.z k).ls.n → s'.z j = (s.os.z k).ls.z j) ∧ s'.a = some ⟨gB, 0, none⟩ ∧ s'.n ≤ s'.c ∧ s'.c ≤ maxLen) := ⟨e1, e2, ea, o1, o2⟩
          have HKB : Hid (Blk wk gB 61 (s'.n * 4) (fun j => (flatH s'.n s'.z).getD j default)) := kB
          clear e1 e2 ea o1 o2 o3 o4 kB
          simp only [putAll, dstOf, List.getElem?_toArray, List.getElem?_cons_succ, List.getElem?_cons_zero, Act.put, List.setIfInBounds_toArray, List.set_cons_succ, List.set_cons_zero, h17]
          refine wpSeq_one 18 rfl ?_
          go_wp2_with (at_builtin; refine wpList_append_own _ rfl (.tmp 37) (.tmp 53) 27 rfl W0.heap.size 64 iO (.agg #[.int .i64 0, .slice none 0 0]) 2 32 Tryz.underlying27 hO hO0 hO1 hO2 rfl (by decide) _ _ _ rfl ho ⟨BO, 0, none⟩ 1 1 [.int .i64 (s.os.z k).k, .slice s'.a s'.n s'.c] rfl rfl ?zc1 ?zc2 ?zc3 ?zc4 ?zc5 ?_)
          case zc1 =>
            intro j u hj
            match j, hj with
            | 0, hj => simp at hj; subst hj; exact k17.cell (j := 0) (by decide)
            | 1, hj => simp at hj; subst hj; exact k17.cell (j := 1) (by decide)
          case zc2 => intro u hu; simp at hu; rcases hu with rfl | rfl <;> rfl
          case zc3 => unfold maxLen; omega
          case zc4 => omega
          case zc5 => omega
          intro v2 w2 hown2 hgrow2 hnil2
          have hlt2 := ho.lt
          have hBW2 : Below W0.heap.size W0 w2 := hBk.grown hgrow2 (by omega) (fun q hq => (hlt2 q hq).1)
          have kX2 := grown_keep ho hgrow2 (HX.out.below hX) (by decide)
          have kB2 := grown_keep ho hgrow2 HKB.out (by decide)
          have hln2 : ∀ i, i < k → LineOK w.heap.size s Ls i w2 := fun i hi => by
            obtain ⟨x1, x2, x3, B, x4, x5, x6, x7, x8⟩ := HG.out.2.1 i hi
            exact ⟨x1, x2, x3, B, x4, x5, x6, x7, grown_keep ho hgrow2 (x8.below hX) (by decide)⟩
          have hap2 : ∀ i, i < k → (Ls i).ls.a ≠ some ⟨gB, 0, none⟩ := fun i hi e => by
            obtain ⟨x1, x2, x3, B, x4, x5, x6, x7, x8⟩ := HG.out.2.1 i hi
            rw [x4] at e
            simp only [Option.some.injEq, Addr.mk.injEq, and_true] at e
            have := x8.lt
            omega
          have hOS2 := OwnS.grownO (HG.out.2.2.2.below hX) rfl rfl ho hgrow2
          have hv2 : ∃ g c, v2 = .slice (some ⟨g, 0, none⟩) (k + 1) c := by
            rcases hown2.2 with ⟨_, h0⟩ | ⟨g2, cap2, cur2, rfl, _⟩
            · omega
            · exact ⟨g2, cap2, rfl⟩
          have xl := kX2.lt
          have zf0 := kX2.frozen 1
          have zc0 := kX2.cell (j := 1) (by decide)
          have hst := hBW2.setCell (p := ⟨BX, 1, none⟩) mX v2
          have KB := kX2.set 1 v2
          have HN : Hid (OwnL w.heap.size W0.heap.size s ⟨⟨some ⟨g0, 0, none⟩, s.on.n, c0, fun i => ⟨some ⟨Gr i, 0, none⟩, (s.on.r i).n, Cr i, (s.on.r i).z⟩⟩, ⟨none, 0, 0, fun _ => ⟨0, ⟨none, 0, 0, fun _ => ⟨0, 0, 0, 0⟩⟩⟩⟩, h', m', ⟨some ⟨B1, 0, none⟩, s.si.n, k1, s.si.z⟩, ⟨some ⟨B2, 0, none⟩, s.so.n, k2, s.so.z⟩, ⟨some ⟨B3, 0, none⟩, s.sf.n, k3, s.sf.z⟩⟩ BX (k + 1) (w2.setCell ⟨BX, 1, none⟩ v2)) := by
            refine ⟨v2, fun i => if i = k then ⟨(s.os.z k).k, s'⟩ else Ls i, KB.congr (fun j hj => by match j, hj with | 0, _ => rfl | 1, _ => rfl | 2, _ => rfl | 3, _ => rfl | 4, _ => rfl | 5, _ => rfl | 6, _ => rfl), ?_, fun i hi => ?_, fun i j hij hj => ?_, hOS2.box kX2 1 v2⟩
            · have e : flatO (k + 1) (fun i => if i = k then ⟨(s.os.z k).k, s'⟩ else Ls i) = flatO k Ls ++ [.int .i64 (s.os.z k).k, .slice s'.a s'.n s'.c] := by
                rw [flatO, flatO_congr (z' := Ls) fun i hi => by rw [if_neg (by omega)], if_pos rfl]
                rfl
              rw [e]
              exact owns_set hown2 kX2 (by decide) _ _
            · by_cases hik : i = k
              · subst hik
                unfold LineOK
                dsimp only
                rw [if_pos rfl]
                exact ⟨rfl, HE.out.1, HE.out.2.1, gB, HE.out.2.2.1, by omega, HE.out.2.2.2.1, HE.out.2.2.2.2, kB2.other (a := ⟨BX, 1, none⟩) (Blk.ne kB2 kX2 (by decide)) _⟩
              · unfold LineOK
                dsimp only
                rw [if_neg hik]
                obtain ⟨x1, x2, x3, B, x4, x5, x6, x7, x8⟩ := hln2 i (by omega)
                exact ⟨x1, x2, x3, B, x4, x5, x6, x7, x8.other (a := ⟨BX, 1, none⟩) (Blk.ne x8 kX2 (by decide)) _⟩
            · dsimp only
              by_cases hjk : j = k
              · subst hjk
                rw [if_neg (by omega), if_pos rfl, HE.out.2.2.1]
                exact hap2 i hij
              · rw [if_neg (by omega), if_neg hjk]
                exact HG.out.2.2.1 i j hij (by omega)
          clear kB2 hln2 hap2 hOS2 KB hown2 kX2 ho hgrow2 hnil2 hlt2 k17 hX HG HX hBk HKB HE
          obtain ⟨g2, c2, rfl⟩ := hv2
          refine wpList_end ⟨Late.yes, ?_⟩
          refine wpSeq_one 19 rfl ?_
          go_wp2_with fail
          refine ⟨Late.yes, ?_⟩
          refine wpSeq_one 20 rfl ?_
          go_wp2_with fail
          refine ⟨Late.yes, ?_⟩
          refine NoPanic.normal ?_
          go_wp2_with fail
          go_roundw
          case rel => exact ⟨k + 1, by omega, by go_num, HN, hst⟩
          case measure => simp [intOf]; omega
      · have hkn : k = s.os.n := by omega
        subst hkn
        obtain ⟨v, Ls, kX, ho, hln, hap, hOS⟩ := HL.out
        have hv : ∃ va vc, v = .slice va s.os.n vc ∧ s.os.n ≤ vc ∧ vc ≤ maxLen ∧ (0 < s.os.n → ∃ g, va = some ⟨g, 0, none⟩ ∧ w.heap.size ≤ g ∧ Blk wr g 64 (s.os.n * 2) (fun j => (flatO s.os.n Ls).getD j default)) := by
          by_cases hv0 : v = .slice none 0 0
          · have h0 : s.os.n = 0 := by
              rcases ho.2 with ⟨_, h0⟩ | ⟨g2, cap2, cur2, h, _⟩
              · exact h0
              · rw [hv0] at h; cases h
            exact ⟨none, 0, by rw [hv0, h0], by omega, Nat.zero_le _, fun h => by omega⟩
          · obtain ⟨g, c, rfl, h1, h2, h3, h4⟩ := Blk.ofOwns ho hv0
            exact ⟨some ⟨g, 0, none⟩, c, rfl, h1, h2, fun _ => ⟨g, rfl, by omega, h4⟩⟩
        obtain ⟨va, vc, rfl, v1, v2, v3⟩ := hv
        have v4 : Room w.heap.size wr 64 2 va vc := Room.ofOwns ho (by omega)
        have HR : Hid (OwnS w.heap.size wr ⟨⟨some ⟨g0, 0, none⟩, s.on.n, c0, fun i => ⟨some ⟨Gr i, 0, none⟩, (s.on.r i).n, Cr i, (s.on.r i).z⟩⟩, ⟨va, s.os.n, vc, Ls⟩, h', m', ⟨some ⟨B1, 0, none⟩, s.si.n, k1, s.si.z⟩, ⟨some ⟨B2, 0, none⟩, s.so.n, k2, s.so.z⟩, ⟨some ⟨B3, 0, none⟩, s.sf.n, k3, s.sf.z⟩⟩) :=
          ⟨hOS.on, hOS.rows, hOS.rapart, ⟨v1, v2, v3, fun i hi => (hln i hi).2.2.2, hap, v4⟩, hOS.hs, hOS.ms, hOS.msr, hOS.si, hOS.so, hOS.sf, hOS.aio, hOS.aif, hOS.aof, hOS.ari⟩
        have HCC : Hid (SameT ⟨⟨some ⟨g0, 0, none⟩, s.on.n, c0, fun i => ⟨some ⟨Gr i, 0, none⟩, (s.on.r i).n, Cr i, (s.on.r i).z⟩⟩, ⟨va, s.os.n, vc, Ls⟩, h', m', ⟨some ⟨B1, 0, none⟩, s.si.n, k1, s.si.z⟩, ⟨some ⟨B2, 0, none⟩, s.so.n, k2, s.so.z⟩, ⟨some ⟨B3, 0, none⟩, s.sf.n, k3, s.sf.z⟩⟩ s) :=
          ⟨⟨rfl, fun i hi => ⟨rfl, fun j hj => rfl⟩⟩, ⟨rfl, fun i hi => ⟨(hln i hi).1, (hln i hi).2.1, fun j hj => (hln i hi).2.2.1 j (by rw [← (hln i hi).2.1]; exact hj)⟩⟩, HCT.out.1, HCT.out.2, ⟨rfl, fun j hj => rfl⟩, ⟨rfl, fun j hj => rfl⟩, ⟨rfl, fun j hj => rfl⟩⟩
        have xl := kX.lt
        obtain ⟨x0, x1, x2, x3, x4, x5, x6⟩ := box_cells kX
        have HZ2 : Hid (Blk wr (w.heap.size + 1) 31 7 (fun _ => .slice .none 0 0)) := hz
        have zl := hz.lt
        have zf0 := hz.frozen 0
        have zc0 := hz.cell (j := 0) (by decide)
        have zf1 := hz.frozen 1
        have zc1 := hz.cell (j := 1) (by decide)
        have zf2 := hz.frozen 2
        have zc2 := hz.cell (j := 2) (by decide)
        have zf3 := hz.frozen 3
        have zc3 := hz.cell (j := 3) (by decide)
        have zf4 := hz.frozen 4
        have zc4 := hz.cell (j := 4) (by decide)
        have zf5 := hz.frozen 5
        have zc5 := hz.cell (j := 5) (by decide)
        have zf6 := hz.frozen 6
        have zc6 := hz.cell (j := 6) (by decide)
        clear hz kX ho hln hap hOS v1 v2 v3 v4 HL hsk b0 b2 b3 b4 b5 b6
        go_wp2_with fail
        have KZ := set7_blk HZ2.out (.slice (some ⟨g0, 0, none⟩) s.on.n c0) (.slice va s.os.n vc) (.slice h'.a h'.n h'.c) (.slice m'.a m'.n m'.c) (.slice (some ⟨B1, 0, none⟩) s.si.n k1) (.slice (some ⟨B2, 0, none⟩) s.so.n k2) (.slice (some ⟨B3, 0, none⟩) s.sf.n k3)
        have hbz := set7_below (b := w.heap.size + 1) hBw (by omega) (.slice (some ⟨g0, 0, none⟩) s.on.n c0) (.slice va s.os.n vc) (.slice h'.a h'.n h'.c) (.slice m'.a m'.n m'.c) (.slice (some ⟨B1, 0, none⟩) s.si.n k1) (.slice (some ⟨B2, 0, none⟩) s.so.n k2) (.slice (some ⟨B3, 0, none⟩) s.sf.n k3)
        have HR2 := OwnS.set7 HR.out HZ2.out (.slice (some ⟨g0, 0, none⟩) s.on.n c0) (.slice va s.os.n vc) (.slice h'.a h'.n h'.c) (.slice m'.a m'.n m'.c) (.slice (some ⟨B1, 0, none⟩) s.si.n k1) (.slice (some ⟨B2, 0, none⟩) s.so.n k2) (.slice (some ⟨B3, 0, none⟩) s.sf.n k3)
        unfold set7 at KZ hbz HR2
        generalize (((((((wr.setCell { block := w.heap.size + 1, off := 0 } (Value.slice (some { block := g0, off := 0 }) s.on.n c0)).setCell { block := w.heap.size + 1, off := 1 } (Value.slice va s.os.n vc)).setCell { block := w.heap.size + 1, off := 2 } (Value.slice h'.a h'.n h'.c)).setCell { block := w.heap.size + 1, off := 3 } (Value.slice m'.a m'.n m'.c)).setCell { block := w.heap.size + 1, off := 4 } (Value.slice (some { block := B1, off := 0 }) s.si.n k1)).setCell { block := w.heap.size + 1, off := 5 } (Value.slice (some { block := B2, off := 0 }) s.so.n k2)).setCell { block := w.heap.size + 1, off := 6 } (Value.slice (some { block := B3, off := 0 }) s.sf.n k3)) = WY at *
        obtain ⟨c0', c1', c2', c3', c4', c5', c6'⟩ := box_cells KZ
        have HQ : Hid (OwnS w.heap.size WY ⟨⟨some ⟨g0, 0, none⟩, s.on.n, c0, fun i => ⟨some ⟨Gr i, 0, none⟩, (s.on.r i).n, Cr i, (s.on.r i).z⟩⟩, ⟨va, s.os.n, vc, Ls⟩, h', m', ⟨some ⟨B1, 0, none⟩, s.si.n, k1, s.si.z⟩, ⟨some ⟨B2, 0, none⟩, s.so.n, k2, s.so.z⟩, ⟨some ⟨B3, 0, none⟩, s.sf.n, k3, s.sf.z⟩⟩) := HR2
        refine bodyPost_ret (v := (⟨⟨some ⟨g0, 0, none⟩, s.on.n, c0, fun i => ⟨some ⟨Gr i, 0, none⟩, (s.on.r i).n, Cr i, (s.on.r i).z⟩⟩, ⟨va, s.os.n, vc, Ls⟩, h', m', ⟨some ⟨B1, 0, none⟩, s.si.n, k1, s.si.z⟩, ⟨some ⟨B2, 0, none⟩, s.so.n, k2, s.so.z⟩, ⟨some ⟨B3, 0, none⟩, s.sf.n, k3, s.sf.z⟩⟩ : St).val) (by simp [results, Tryz.results19, go_sem, St.val, c0', c1', c2', c3', c4', c5', c6']) rfl ?_
        exact ⟨_, rfl, HCC.out, HQ.out, hbz⟩
end Go.Proofs.YtbcacebifpagpaeGreat
namespace Go.Proofs.YtbcacebifpagpaeGreat
open Go.RowKit Go.Shelf Go.Sort
set_option linter.unusedVariables false
def formedB (p : Pl) (s : St) : Bool := !(badOrdersB p s || badHoldsB p s || badMovesB p s || badSumsB p s)
theorem fB_order {p : Pl} {s : St} {i : Nat} (hi : i < s.os.n) (h : badOrder p (s.os.z i) = true) : formedB p s = false := by
  have : badOrdersB p s = true := anyB_yes hi h
  simp [formedB, this]
theorem fB_check {p : Pl} {s : St} (h : ¬ checkH s.hs.n s.hs.z = 0) : formedB p s = false := by
  have : badHoldsB p s = true := by simp [badHoldsB, h]
  simp [formedB, this]
theorem fB_home {p : Pl} {s : St} {i : Nat} (hi : i < s.hs.n) (h : homeless p s (s.hs.z i) = true) : formedB p s = false := by
  have : badHoldsB p s = true := by unfold badHoldsB; rw [anyB_yes hi h, Bool.or_true]
  simp [formedB, this]
theorem fB_move {p : Pl} {s : St} {i : Nat} (hi : i < s.ms.n) (h : badMove p (s.ms.z i) = true) : formedB p s = false := by
  have : badMovesB p s = true := anyB_yes hi h
  simp [formedB, this]
theorem fB_len1 {p : Pl} {s : St} (h : ¬ s.si.n = p.ns) : formedB p s = false := by
  have : badSumsB p s = true := by
    have h1 : ((s.si.n : Int) != (p.ns : Int)) = true := by simp; omega
    simp [badSumsB, badSum, h1]
  simp [formedB, this]
theorem fB_len2 {p : Pl} {s : St} (h : ¬ s.so.n = p.ns) : formedB p s = false := by
  have : badSumsB p s = true := by
    have h1 : ((s.so.n : Int) != (p.ns : Int)) = true := by simp; omega
    simp [badSumsB, badSum, h1]
  simp [formedB, this]
theorem fB_len3 {p : Pl} {s : St} (h : ¬ s.sf.n = p.ns) : formedB p s = false := by
  have : badSumsB p s = true := by
    have h1 : ((s.sf.n : Int) != (p.ns : Int)) = true := by simp; omega
    simp [badSumsB, badSum, h1]
  simp [formedB, this]
theorem badSum_yes {p : Pl} {l : Rw} {low : Int} {g : Nat} (hn : l.n = p.ns) (hg : g < p.ns) (h : inB (l.z g) low 1048576 = false) : badSum p l low = true := by
  unfold badSum
  rw [anyB_yes (k := g) (by omega) (by rw [h]; rfl), Bool.or_true]
theorem badSum_mk {p : Pl} {l : Rw} {low : Int} (hn : l.n = p.ns) (h : ∀ g, g < p.ns → inB (l.z g) low 1048576 = true) : badSum p l low = false := by
  unfold badSum
  rw [anyB_no fun j hj => by rw [h j (by omega)]; rfl, hn]
  simp
theorem fB_sum {p : Pl} {s : St} (h : badSum p s.si 0 = true ∨ badSum p s.so 0 = true ∨ badSum p s.sf (-1048576) = true) : formedB p s = false := by
  have : badSumsB p s = true := by
    unfold badSumsB
    rcases h with h | h | h <;> rw [h] <;> simp
  simp [formedB, this]
def sumOK (s : St) (g : Nat) : Bool := inB (s.si.z g) 0 1048576 && inB (s.so.z g) 0 1048576 && inB (s.sf.z g) (-1048576) 1048576
theorem fB_yes {p : Pl} {s : St} (h1 : ∀ i, i < s.os.n → badOrder p (s.os.z i) = false) (h2 : checkH s.hs.n s.hs.z = 0) (h3 : ∀ i, i < s.hs.n → homeless p s (s.hs.z i) = false) (h4 : ∀ i, i < s.ms.n → badMove p (s.ms.z i) = false)
    (h5 : s.si.n = p.ns ∧ s.so.n = p.ns ∧ s.sf.n = p.ns) (h6 : ∀ g, g < p.ns → sumOK s g = true) : formedB p s = true := by
  have e1 : badOrdersB p s = false := anyB_no h1
  have e2 : badHoldsB p s = false := by unfold badHoldsB; rw [h2, anyB_no h3]; rfl
  have e3 : badMovesB p s = false := anyB_no h4
  have e4 : badSumsB p s = false := by
    have h : ∀ g, g < p.ns → (inB (s.si.z g) 0 1048576 = true ∧ inB (s.so.z g) 0 1048576 = true) ∧ inB (s.sf.z g) (-1048576) 1048576 = true := fun g hg => by
      have := h6 g hg
      simpa [sumOK] using this
    unfold badSumsB
    rw [badSum_mk h5.1 fun g hg => (h g hg).1.1, badSum_mk h5.2.1 fun g hg => (h g hg).1.2, badSum_mk h5.2.2 fun g hg => (h g hg).2]
    rfl
  unfold formedB
  rw [e1, e2, e3, e4]
  rfl
theorem checkH_zero' {n : Nat} {z : Nat → Hd} (h : checkH n z = 0) : anyB n (badH z) = false := by
  cases h' : anyB n (badH z)
  · rfl
  · simp [checkH, h'] at h
theorem all_succ {k : Nat} {f : Nat → Bool} {b : Bool} (h : ∀ j, j < k → f j = b) (hk : f k = b) : ∀ j, j < k + 1 → f j = b := fun j hj => by
  by_cases hjk : j = k
  · rw [hjk]; exact hk
  · exact h j (by omega)
set_option maxRecDepth 100000 in
set_option maxHeartbeats 8000000 in
theorem formed_any (p : Pl) (s : St) (w : World) (hp : p.At w) (hs : s.At w) (h0 : shelfE p s.on = 0) (h1 : tooManyB s = false) :
    Calls Tryz.prog 45 #[p.val, s.val] w fun e w' => e = .returned (.bool (formedB p s)) ∧ Below w.heap.size w w' := by
  obtain ⟨W0, hW, hWB, X0⟩ : ∃ W, ((w.alloc (.cells #[.slice p.ab p.nb p.cb, .slice p.sa p.ns p.cs] 25)).alloc (.cells s.cells 31)) = W ∧ Below w.heap.size w W ∧ Boxes W w.heap.size (w.heap.size + 1) p s := ⟨_, rfl, two_below _ _ _, boxes_new w p s _ _⟩
  have HC : Hid (∀ wk, Below W0.heap.size W0 wk → Boxes wk w.heap.size (w.heap.size + 1) p s ∧ p.At wk ∧ s.At wk ∧ Below w.heap.size w wk) := fun wk h => ⟨X0.below h, (hp.below hWB).below h, (hs.below hWB).below h, hWB.trans (h.mono hWB.size)⟩
  have HW : Hid ((w.alloc (.cells #[.slice p.ab p.nb p.cb, .slice p.sa p.ns p.cs] 25)).alloc (.cells #[.slice s.on.a s.on.n s.on.c, .slice s.os.a s.os.n s.os.c, .slice s.hs.a s.hs.n s.hs.c, .slice s.ms.a s.ms.n s.ms.c, .slice s.si.a s.si.n s.si.c, .slice s.so.a s.so.n s.so.c, .slice s.sf.a s.sf.n s.sf.c] 31) = W0) := hW
  have HT : Hid (s.os.n ≤ 4 ∧ s.ms.n ≤ 8 ∧ (∀ i, i < s.os.n → 1 ≤ (s.os.z i).ls.n ∧ (s.os.z i).ls.n ≤ 3)) := by
    unfold tooManyB at h1
    simp only [Bool.or_eq_false_iff, decide_eq_false_iff_not] at h1
    refine ⟨by omega, by omega, fun i hi => ?_⟩
    have := anyB_false h1.2 i hi
    simp only [fewLines, Bool.not_eq_false'] at this
    have := inB_true this
    omega
  have HR : Hid (RightS p s.on) := (rightS h0).2
  have leb := hp.leb
  have capb0 := hp.capb
  have les := hp.les
  have caps0 := hp.caps
  have capb := capb0
  have caps := caps0
  have ole := hs.os.le
  have ocap := hs.os.cap
  have hle := hs.hs.le
  have hcap := hs.hs.cap
  have mle := hs.ms.le
  have mcap := hs.ms.cap
  unfold maxLen at capb caps ocap hcap mcap
  have os4 := HT.out.1
  have ms8 := HT.out.2.1
  have ns3 := HR.out.pl.ns3
  clear hW X0 h0 h1 hp hs
  unfold Pl.val St.val
  go_enter Tryz.func45, Tryz.ntmps45
  go_wp2_with fail
  rw [HW.out]
  go_loopw [5] (fun i wk => ∃ k : Nat, k ≤ s.os.n ∧ i = .int .i64 k ∧ (∀ j, j < k → badOrder p (s.os.z j) = false) ∧ Below W0.heap.size W0 wk) (fun i _ => s.os.n - (intOf i).toNat)
  case atStart => exact ⟨0, Nat.zero_le _, rfl, fun j hj => absurd hj (Nat.not_lt_zero _), Below.refl _ _⟩
  case round =>
    obtain ⟨i, hi, rfl, hno, hB⟩ := hrel
    have HN : Hid (∀ j, j < i → badOrder p (s.os.z j) = false) := hno
    clear hno
    obtain ⟨X, hpk, hsk, hBw⟩ := HC.out wr hB
    obtain ⟨⟨l1, d0, d1⟩, l2, c0, c1, c2, c3, c4, c5, c6⟩ := X
    by_cases hlt : i < s.os.n
    · obtain ⟨b, o, hoa, hb, z0, z1, hl⟩ := hsk.os.ods i hlt
      have q1 : (0 : Int) ≤ (i : Int) := by omega
      have hl3 := (HT.out.2.2 i hlt)
      have lle := hl.le
      have lcap := hl.cap
      unfold maxLen at lcap
      have HO : Hid (s.os.a = some ⟨b, o, none⟩) := hoa
      have HE : Hid (badOrder p (s.os.z i) = (!inB (s.os.z i).k 0 2 || anyB (s.os.z i).ls.n (fun j => badLine p ((s.os.z i).ls.z j)))) := rfl
      rw [hoa] at c1
      clear hoa hl hsk c0 c2 c3 c4 c5 c6 hpk
      cases hk : inB (s.os.z i).k 0 2
      · have HX : Hid (formedB p s = false) := fB_order hlt (by rw [HE.out, hk]; rfl)
        generalize (s.os.z i).k = KD at *
        go_wp2_with (go_at_call 18; refine calls_to (within_any _ _ _ _) ?_)
        go_ret
        exact ⟨by rw [HX.out]; rfl, hBw⟩
      · have HE2 : Hid (badOrder p (s.os.z i) = anyB (s.os.z i).ls.n (fun j => badLine p ((s.os.z i).ls.z j))) := by show badOrder p (s.os.z i) = _; rw [HE.out, hk]; rfl
        clear HE
        generalize (s.os.z i).k = KD at *
        go_wp2_with (go_at_call 18; refine calls_to (within_any _ _ _ _) ?_)
        clear hk z0 hBw z1 c1 d0 d1 l1 l2 hb
        go_loopw [6] (fun i0 wk => ∃ k : Nat, k ≤ (s.os.z i).ls.n ∧ i0 = .int .i64 k ∧ (∀ j, j < k → badLine p ((s.os.z i).ls.z j) = false) ∧ Below W0.heap.size W0 wk) (fun i0 _ => (s.os.z i).ls.n - (intOf i0).toNat)
        case atStart => exact ⟨0, Nat.zero_le _, rfl, fun j hj => absurd hj (Nat.not_lt_zero _), hB⟩
        case round =>
          clear hB
          obtain ⟨j, hj, rfl, hno, hB⟩ := hrel
          have HM : Hid (∀ j', j' < j → badLine p ((s.os.z i).ls.z j') = false) := hno
          clear hno
          obtain ⟨X, hpk, hsk, hBw⟩ := HC.out wr hB
          obtain ⟨⟨l1, d0, d1⟩, l2, c0, c1, c2, c3, c4, c5, c6⟩ := X
          obtain ⟨b', o', hoa, hb, z0, z1, hl⟩ := hsk.os.ods i hlt
          rw [HO.out] at hoa c1
          simp only [Option.some.injEq, Addr.mk.injEq, and_true] at hoa
          obtain ⟨rfl, rfl⟩ := hoa
          by_cases hlj : j < (s.os.z i).ls.n
          · obtain ⟨b2, o2, hla, hb2, y0, y1, y2, y3⟩ := hl.hds j hlj
            have q2 : (0 : Int) ≤ (j : Int) := by omega
            have HT1 : Hid (badLine p ((s.os.z i).ls.z j) = true → formedB p s = false) := fun h => fB_order hlt (by rw [HE2.out]; exact anyB_yes hlj h)
            have HT2 : Hid (badLine p ((s.os.z i).ls.z j) = false → ∀ j', j' < j + 1 → badLine p ((s.os.z i).ls.z j') = false) := fun h => all_succ HM.out h
            have HBL : Hid (badLine p ((s.os.z i).ls.z j) = (!inB ((s.os.z i).ls.z j).o 0 ((p.ns : Int) - 1) || !inB ((s.os.z i).ls.z j).l 1 200 || !inB ((s.os.z i).ls.z j).b 0 ((s.os.z i).ls.z j).l || !inB ((s.os.z i).ls.z j).n 0 ((s.os.z i).ls.z j).l)) := rfl
            rw [hla] at z1
            clear hla hl hsk hpk c0 c2 c3 c4 c5 c6 z0 HM
            generalize badLine p ((s.os.z i).ls.z j) = BL at *
            generalize (s.os.z i).ls.z j = LZ at *
            obtain ⟨W1, hW1, hBn, hYn⟩ : ∃ W1, wr.alloc (.cells #[.int .i64 LZ.o, .int .i64 LZ.l, .int .i64 LZ.b, .int .i64 LZ.n] 61) = W1 ∧ Below W0.heap.size W0 W1 ∧ Blk W1 wr.heap.size 61 4 (fun j => (#[.int .i64 LZ.o, .int .i64 LZ.l, .int .i64 LZ.b, .int .i64 LZ.n] : Array Value).getD j default) := ⟨_, rfl, hB.alloc hB.size _, Blk.mk' rfl rfl⟩
            obtain ⟨B4, hB4⟩ : ∃ B4, wr.heap.size = B4 := ⟨_, rfl⟩
            rw [hB4] at hYn
            have HV : Hid (wr.alloc (.cells #[.int .i64 LZ.o, .int .i64 LZ.l, .int .i64 LZ.b, .int .i64 LZ.n] 61) = W1 ∧ wr.heap.size = B4) := ⟨hW1, hB4⟩
            obtain ⟨X, hpk, hsk, hBw1⟩ := HC.out W1 hBn
            have HX1 : Hid (Boxes W1 w.heap.size (w.heap.size + 1) p s) := X
            clear hW1 hB4 X hpk hsk
            have HY : Hid (∀ wk, Below W1.heap.size W1 wk → (wk.cell? ⟨B4, 1, none⟩ = some (.int .i64 LZ.l) ∧ wk.cell? ⟨B4, 2, none⟩ = some (.int .i64 LZ.b) ∧ wk.cell? ⟨B4, 3, none⟩ = some (.int .i64 LZ.n) ∧ B4 < wk.heap.size) ∧ Below W0.heap.size W0 wk ∧ Below w.heap.size w wk) :=
              fun wk h => ⟨⟨(hYn.below h).cell (j := 1) (by decide), (hYn.below h).cell (j := 2) (by decide), (hYn.below h).cell (j := 3) (by decide), (hYn.below h).lt⟩, hBn.trans (h.mono hBn.size), hBw1.trans (h.mono hBw1.size)⟩
            clear hYn hBn hBw1 hBw
            go_wp2_with fail
            rw [HV.out.1]
            refine (isGood_any p LZ.o W1 les caps0).mono ?_
            rintro e w2 ⟨rfl, hB2⟩
            rw [HV.out.2]
            obtain ⟨⟨t1, t2, t3, l4⟩, hBz, hBw⟩ := HY.out w2 hB2
            clear hB2 HY HV HX1 y0 y1 y2 y3 z1 c1 d0 d1 l1 l2 hb hb2 hB
            cases k1 : inB LZ.o 0 ((p.ns : Int) - 1)
            · have HX : Hid (formedB p s = false) := HT1.out (by rw [HBL.out, k1]; rfl)
              clear HBL HT1 HT2 k1
              go_wp2_with fail
              go_ret
              exact ⟨by rw [HX.out]; rfl, hBw⟩
            · cases k2 : inB LZ.l 1 200
              · have HX : Hid (formedB p s = false) := HT1.out (by rw [HBL.out, k1, k2]; rfl)
                clear HBL HT1 HT2 k1
                go_wp2_with (go_at_call 18; refine calls_to (within_any _ _ _ _) ?_)
                go_ret
                exact ⟨by rw [HX.out]; rfl, hBw⟩
              · cases k3 : inB LZ.b 0 LZ.l
                · have HX : Hid (formedB p s = false) := HT1.out (by rw [HBL.out, k1, k2, k3]; rfl)
                  clear HBL HT1 HT2 k1
                  go_wp2_with (go_at_call 18; refine calls_to (within_any _ _ _ _) ?_)
                  go_ret
                  exact ⟨by rw [HX.out]; rfl, hBw⟩
                · cases k4 : inB LZ.n 0 LZ.l
                  · have HX : Hid (formedB p s = false) := HT1.out (by rw [HBL.out, k1, k2, k3, k4]; rfl)
                    clear HBL HT1 HT2 k1
                    go_wp2_with (go_at_call 18; refine calls_to (within_any _ _ _ _) ?_)
                    go_ret
                    exact ⟨by rw [HX.out]; rfl, hBw⟩
                  · have HX := HT2.out (by rw [HBL.out, k1, k2, k3, k4]; rfl)
                    have HX2 : Hid _ := HX
                    clear HBL HT1 HT2 k1 HX
                    go_wp2_with (go_at_call 18; refine calls_to (within_any _ _ _ _) ?_)
                    go_roundw
                    case rel => exact ⟨j + 1, by omega, by go_num, HX2.out, hBz⟩
                    case measure => simp [intOf]; omega
          · have HA : Hid (badOrder p (s.os.z i) = false) := by show badOrder p (s.os.z i) = false; rw [HE2.out]; exact anyB_no fun j' hj' => HM.out j' (by omega)
            clear c0 c2 c3 c4 c5 c6 hpk hsk hl
            go_wp2_with fail
            go_roundw
            case rel => exact ⟨i + 1, by omega, by go_num, all_succ HN.out HA.out, hB⟩
            case measure => simp [intOf]; omega
    · have HN2 : Hid (∀ j, j < s.os.n → badOrder p (s.os.z j) = false) := fun j hj => HN.out j (by omega)
      clear HN
      have HHS : Hid (s.hs.At wr) := hsk.hs
      clear hsk hpk c0 c3 c4 c5 c6 hBw d0 d1
      go_wp2_with fail
      refine (CheckHolds_any s.hs wr HHS.out).mono ?_
      rintro e w2 ⟨rfl, hB2⟩
      have hB := hB.trans (hB2.mono hB.size)
      clear hB2 HHS c1 c2 l1 l2 hlt hi
      by_cases h0 : checkH s.hs.n s.hs.z = 0
      · have H0 : Hid (checkH s.hs.n s.hs.z = 0) := h0
        have h72 : s.hs.n ≤ 72 := right_len (checkH_zero' h0)
        rw [h0]
        clear h0
        go_wp2_with fail
        go_loopw [8] (fun i wk => ∃ k : Nat, k ≤ s.hs.n ∧ i = .int .i64 k ∧ (∀ j, j < k → homeless p s (s.hs.z j) = false) ∧ Below W0.heap.size W0 wk) (fun i _ => s.hs.n - (intOf i).toNat)
        case atStart => exact ⟨0, Nat.zero_le _, rfl, fun j hj => absurd hj (Nat.not_lt_zero _), hB⟩
        case round =>
          clear hB
          obtain ⟨k, hk, rfl, hno, hB⟩ := hrel
          have HM : Hid (∀ j, j < k → homeless p s (s.hs.z j) = false) := hno
          clear hno
          obtain ⟨X, hpk, hsk, hBw⟩ := HC.out wr hB
          obtain ⟨⟨l1, d0, d1⟩, l2, c0, c1, c2, c3, c4, c5, c6⟩ := X
          by_cases hlt : k < s.hs.n
          · obtain ⟨b, q, hha, hb, z0, z1, z2, z3⟩ := hsk.hs.hds k hlt
            have hfine := fineH_true (right_fine (checkH_zero' H0.out) k hlt)
            obtain ⟨mo, hmo⟩ := Int.eq_ofNat_of_zero_le hfine.1.1
            obtain ⟨ml, hml⟩ := Int.eq_ofNat_of_zero_le hfine.2.1.1
            have q4 : (0 : Int) ≤ (k : Int) := by omega
            have q2 : (0 : Int) ≤ (mo : Int) := by omega
            have q3 : (0 : Int) ≤ (ml : Int) := by omega
            have HT1 : Hid (homeless p s (s.hs.z k) = true → formedB p s = false) := fun h => fB_home hlt h
            have HT2 : Hid (homeless p s (s.hs.z k) = false → ∀ j', j' < k + 1 → homeless p s (s.hs.z j') = false) := fun h => all_succ HM.out h
            have HBL : Hid (homeless p s (s.hs.z k) = (!inB mo 0 ((s.os.n : Int) - 1) || !inB ml 0 (((s.os.z mo).ls.n : Int) - 1) || !inB (s.hs.z k).b 0 ((p.nb : Int) - 1))) := by
              show homeless p s (s.hs.z k) = _
              unfold homeless
              rw [hmo, hml]
              rfl
            rw [hmo] at z0
            rw [hml] at z1
            rw [hha] at c2
            clear hmo hml hfine HM hha
            generalize homeless p s (s.hs.z k) = BL at *
            generalize (s.hs.z k).b = HB at *
            generalize (s.hs.z k).n = HNn at *
            obtain ⟨W1, hW1, hBn, hYn, hBa⟩ : ∃ W1, wr.alloc (.cells #[.int .i64 mo, .int .i64 ml, .int .i64 HB, .int .i64 HNn] 58) = W1 ∧ Below W0.heap.size W0 W1 ∧ Blk W1 wr.heap.size 58 4 (fun j => (#[.int .i64 mo, .int .i64 ml, .int .i64 HB, .int .i64 HNn] : Array Value).getD j default) ∧ Below wr.heap.size wr W1 := ⟨_, rfl, hB.alloc hB.size _, Blk.mk' rfl rfl, (Below.refl _ _).alloc (Nat.le_refl _) _⟩
            have HV : Hid (wr.alloc (.cells #[.int .i64 mo, .int .i64 ml, .int .i64 HB, .int .i64 HNn] 58) = W1) := hW1
            obtain ⟨X, hpk1, hsk1, hBw1⟩ := HC.out W1 hBn
            obtain ⟨⟨m1, e0, e1⟩, m2, f0, f1, f2, f3, f4, f5, f6⟩ := X
            have r0 : ∀ d os, (grow (redrawn W1 d) os).cell? ⟨wr.heap.size, 0, none⟩ = some (.int .i64 mo) := fun d os => cell_regrown (hYn.cell (j := 0) (by decide)) d os
            have r1 : ∀ d os, (grow (redrawn W1 d) os).cell? ⟨wr.heap.size, 1, none⟩ = some (.int .i64 ml) := fun d os => cell_regrown (hYn.cell (j := 1) (by decide)) d os
            have r2 : ∀ d os, (grow (redrawn W1 d) os).cell? ⟨wr.heap.size, 2, none⟩ = some (.int .i64 HB) := fun d os => cell_regrown (hYn.cell (j := 2) (by decide)) d os
            have r3 : ∀ d os, (grow (redrawn W1 d) os).cell? ⟨w.heap.size, 0, none⟩ = some (.slice p.ab p.nb p.cb) := fun d os => cell_regrown e0 d os
            have r4 : ∀ d os, (grow (redrawn W1 d) os).cell? ⟨w.heap.size, 1, none⟩ = some (.slice p.sa p.ns p.cs) := fun d os => cell_regrown e1 d os
            clear e0 e1 f0 f2 f3 f4 f5 f6 hpk1 hW1
            by_cases g1 : mo < s.os.n
            · obtain ⟨b1, o1, hoa, hb1, -, y1, hl⟩ := hsk1.os.ods mo g1
              have lle := hl.le
              have lcap := hl.cap
              have l3 := HT.out.2.2 mo g1
              unfold maxLen at lcap
              rw [hoa] at f1
              have r5 : ∀ d os, (grow (redrawn W1 d) os).cell? ⟨w.heap.size + 1, 1, none⟩ = some (.slice (some ⟨b1, o1, none⟩) s.os.n s.os.c) := fun d os => cell_regrown f1 d os
              have r6 : ∀ d os, (grow (redrawn W1 d) os).cell? ⟨b1, o1 + mo * 2 + 1, none⟩ = some (.slice (s.os.z mo).ls.a (s.os.z mo).ls.n (s.os.z mo).ls.c) := fun d os => cell_regrown y1 d os
              have g1' : ¬ (s.os.n : Int) ≤ (mo : Int) := by omega
              have g1d : decide ((s.os.n : Int) ≤ (mo : Int)) = false := decide_eq_false g1'
              have g1n : ¬ s.os.n ≤ mo := by omega
              have g1e : decide (s.os.n ≤ mo) = false := decide_eq_false g1n
              have k1 : inB mo 0 ((s.os.n : Int) - 1) = true := inB_mk (by omega)
              clear hoa hl hsk1 f1 y1
              generalize (s.os.z mo).ls.n = LN at *
              generalize (s.os.z mo).ls.a = LA at *
              generalize (s.os.z mo).ls.c = LC at *
              by_cases g2 : ml < LN
              · have g2' : ¬ (LN : Int) ≤ (ml : Int) := by omega
                have g2d : decide ((LN : Int) ≤ (ml : Int)) = false := decide_eq_false g2'
                have g2n : ¬ LN ≤ ml := by omega
                have g2e : decide (LN ≤ ml) = false := decide_eq_false g2n
                have k2 : inB ml 0 ((LN : Int) - 1) = true := inB_mk (by omega)
                cases k3 : inB HB 0 ((p.nb : Int) - 1)
                · have HX : Hid (formedB p s = false) := HT1.out (by rw [HBL.out, k1, k2, k3]; rfl)
                  clear HBL HT1 HT2 k1 k2
                  go_wp2_with fail
                  rw [HV.out]
                  refine wp_region_quiet_below (by kernel_rfl) (by kernel_rfl) ?_
                  repeat (go_big_quiet_step ((go_at_call 16; exact Calls.regrown_of (isBin_any p HB _ leb capb0))))
                  refine wpQuiet_nil ?_
                  intro _ hw'
                  obtain ⟨⟨dq, osq⟩, hw''⟩ := hw'
                  subst hw''
                  rw [k3]
                  go_wp2_with fail
                  go_ret
                  exact ⟨by rw [HX.out]; rfl, hBw1.trans ((below_regrown _ _ _).mono hBw1.size)⟩
                · have HX := HT2.out (by rw [HBL.out, k1, k2, k3]; rfl)
                  have HX2 : Hid _ := HX
                  clear HBL HT1 HT2 k1 k2 HX
                  go_wp2_with fail
                  rw [HV.out]
                  refine wp_region_quiet_below (by kernel_rfl) (by kernel_rfl) ?_
                  repeat (go_big_quiet_step ((go_at_call 16; exact Calls.regrown_of (isBin_any p HB _ leb capb0))))
                  refine wpQuiet_nil ?_
                  intro _ hw'
                  obtain ⟨⟨dq, osq⟩, hw''⟩ := hw'
                  subst hw''
                  rw [k3]
                  go_wp2_with fail
                  go_roundw
                  case rel => exact ⟨k + 1, by omega, by go_num, HX2.out, hBn.trans ((below_regrown _ _ _).mono hBn.size)⟩
                  case measure => simp [intOf]; omega
              · have g2' : (LN : Int) ≤ (ml : Int) := by omega
                have g2d : decide ((LN : Int) ≤ (ml : Int)) = true := decide_eq_true g2'
                have g2n : LN ≤ ml := by omega
                have g2e : decide (LN ≤ ml) = true := decide_eq_true g2n
                have k2 : inB ml 0 ((LN : Int) - 1) = false := inB_no (by omega)
                have HX : Hid (formedB p s = false) := HT1.out (by rw [HBL.out, k1, k2]; rfl)
                clear HBL HT1 HT2 k1 k2
                go_wp2_with fail
                rw [HV.out]
                refine wp_region_quiet_below (by kernel_rfl) (by kernel_rfl) ?_
                repeat (go_big_quiet_step (fail))
                refine wpQuiet_nil ?_
                intro _ hw'
                obtain ⟨⟨dq, osq⟩, hw''⟩ := hw'
                subst hw''
                go_wp2_with fail
                go_ret
                exact ⟨by rw [HX.out]; rfl, hBw1.trans ((below_regrown _ _ _).mono hBw1.size)⟩
            · have g1' : (s.os.n : Int) ≤ (mo : Int) := by omega
              have g1d : decide ((s.os.n : Int) ≤ (mo : Int)) = true := decide_eq_true g1'
              have k1 : inB mo 0 ((s.os.n : Int) - 1) = false := inB_no (by omega)
              have r5 : ∀ d os, (grow (redrawn W1 d) os).cell? ⟨w.heap.size + 1, 1, none⟩ = some (.slice s.os.a s.os.n s.os.c) := fun d os => cell_regrown f1 d os
              have HX : Hid (formedB p s = false) := HT1.out (by rw [HBL.out, k1]; rfl)
              clear HBL HT1 HT2 k1 f1 hsk1
              go_wp2_with fail
              rw [HV.out]
              refine wp_region_quiet_below (by kernel_rfl) (by kernel_rfl) ?_
              repeat (go_big_quiet_step (fail))
              refine wpQuiet_nil ?_
              intro _ hw'
              obtain ⟨⟨dq, osq⟩, hw''⟩ := hw'
              subst hw''
              go_wp2_with fail
              go_ret
              exact ⟨by rw [HX.out]; rfl, hBw1.trans ((below_regrown _ _ _).mono hBw1.size)⟩
          · have HN3 : Hid (∀ j, j < s.hs.n → homeless p s (s.hs.z j) = false) := fun j hj => HM.out j (by omega)
            clear HM
            go_wp2_with fail
            clear hsk hpk c0 c1 c2 c3 c4 c5 c6 d0 d1 hBw l1 l2 hlt hk
            go_loopw [10] (fun i wk => ∃ k : Nat, k ≤ s.ms.n ∧ i = .int .i64 k ∧ (∀ j, j < k → badMove p (s.ms.z j) = false) ∧ Below W0.heap.size W0 wk) (fun i _ => s.ms.n - (intOf i).toNat)
            case atStart => exact ⟨0, Nat.zero_le _, rfl, fun j hj => absurd hj (Nat.not_lt_zero _), hB⟩
            case round =>
              clear hB
              obtain ⟨k, hk, rfl, hno, hB⟩ := hrel
              have HM : Hid (∀ j, j < k → badMove p (s.ms.z j) = false) := hno
              clear hno
              obtain ⟨X, hpk, hsk, hBw⟩ := HC.out wr hB
              obtain ⟨⟨l1, d0, d1⟩, l2, c0, c1, c2, c3, c4, c5, c6⟩ := X
              by_cases hlt : k < s.ms.n
              · obtain ⟨b, q, hma, hb, z0, z1, z2, z3⟩ := hsk.ms.hds k hlt
                have q4 : (0 : Int) ≤ (k : Int) := by omega
                have HT1 : Hid (badMove p (s.ms.z k) = true → formedB p s = false) := fun h => fB_move hlt h
                have HT2 : Hid (badMove p (s.ms.z k) = false → ∀ j', j' < k + 1 → badMove p (s.ms.z j') = false) := fun h => all_succ HM.out h
                have HBL : Hid (badMove p (s.ms.z k) = (!inB (s.ms.z k).o 0 ((p.ns : Int) - 1) || !inB (s.ms.z k).l 0 ((p.nb : Int) - 1) || !inB (s.ms.z k).b 0 ((p.nb : Int) - 1) || ((s.ms.z k).l == (s.ms.z k).b) || !inB (s.ms.z k).n 1 200)) := rfl
                rw [hma] at c3
                clear hma hsk hpk c0 c1 c2 c4 c5 c6 HM
                generalize badMove p (s.ms.z k) = BL at *
                generalize s.ms.z k = LZ at *
                obtain ⟨W1, hW1, hBn, hYn⟩ : ∃ W1, wr.alloc (.cells #[.int .i64 LZ.o, .int .i64 LZ.l, .int .i64 LZ.b, .int .i64 LZ.n] 56) = W1 ∧ Below W0.heap.size W0 W1 ∧ Blk W1 wr.heap.size 56 4 (fun j => (#[.int .i64 LZ.o, .int .i64 LZ.l, .int .i64 LZ.b, .int .i64 LZ.n] : Array Value).getD j default) := ⟨_, rfl, hB.alloc hB.size _, Blk.mk' rfl rfl⟩
                obtain ⟨B4, hB4⟩ : ∃ B4, wr.heap.size = B4 := ⟨_, rfl⟩
                rw [hB4] at hYn
                have HV : Hid (wr.alloc (.cells #[.int .i64 LZ.o, .int .i64 LZ.l, .int .i64 LZ.b, .int .i64 LZ.n] 56) = W1 ∧ wr.heap.size = B4) := ⟨hW1, hB4⟩
                have HY : Hid (∀ wk, Below W1.heap.size W1 wk → (wk.cell? ⟨B4, 1, none⟩ = some (.int .i64 LZ.l) ∧ wk.cell? ⟨B4, 2, none⟩ = some (.int .i64 LZ.b) ∧ wk.cell? ⟨B4, 3, none⟩ = some (.int .i64 LZ.n) ∧ B4 < wk.heap.size) ∧ (w.heap.size < wk.heap.size ∧ wk.cell? ⟨w.heap.size, 0, none⟩ = some (.slice p.ab p.nb p.cb) ∧ wk.cell? ⟨w.heap.size, 1, none⟩ = some (.slice p.sa p.ns p.cs)) ∧ Below W0.heap.size W0 wk ∧ Below w.heap.size w wk) :=
                  fun wk h => ⟨⟨(hYn.below h).cell (j := 1) (by decide), (hYn.below h).cell (j := 2) (by decide), (hYn.below h).cell (j := 3) (by decide), (hYn.below h).lt⟩, (HC.out wk (hBn.trans (h.mono hBn.size))).1.1, hBn.trans (h.mono hBn.size), (HC.out wk (hBn.trans (h.mono hBn.size))).2.2.2⟩
                clear hYn hBn hBw hW1 hB4
                go_wp2_with fail
                rw [HV.out.1]
                refine (isGood_any p LZ.o W1 les caps0).mono ?_
                rintro e w2 ⟨rfl, hB2⟩
                rw [HV.out.2]
                clear d0 d1 l1 l2 hb hB z0 z1 z2 z3 c3 HV
                obtain ⟨⟨t1, t2, t3, l4⟩, ⟨l1, d0, d1⟩, hBz, hBw⟩ := HY.out w2 hB2
                cases k1 : inB LZ.o 0 ((p.ns : Int) - 1)
                · have HX : Hid (formedB p s = false) := HT1.out (by rw [HBL.out, k1]; rfl)
                  clear HBL HT1 HT2 k1
                  go_wp2_with fail
                  go_ret
                  exact ⟨by rw [HX.out]; rfl, hBw⟩
                · go_wp2_with fail
                  refine (isBin_any p LZ.l w2 leb capb0).mono ?_
                  rintro e w3 ⟨rfl, hB3⟩
                  have hB3 := hB2.trans (hB3.mono hB2.size)
                  clear hB2 t1 t2 t3 l4 l1 d0 d1 hBz hBw
                  obtain ⟨⟨t1, t2, t3, l4⟩, ⟨l1, d0, d1⟩, hBz, hBw⟩ := HY.out w3 hB3
                  cases k2 : inB LZ.l 0 ((p.nb : Int) - 1)
                  · have HX : Hid (formedB p s = false) := HT1.out (by rw [HBL.out, k1, k2]; rfl)
                    clear HBL HT1 HT2 k1 k2
                    go_wp2_with fail
                    go_ret
                    exact ⟨by rw [HX.out]; rfl, hBw⟩
                  · go_wp2_with fail
                    refine (isBin_any p LZ.b w3 leb capb0).mono ?_
                    rintro e w4 ⟨rfl, hB4⟩
                    have hB4 := hB3.trans (hB4.mono hB3.size)
                    clear hB3 t1 t2 t3 l4 l1 d0 d1 hBz hBw
                    obtain ⟨⟨t1, t2, t3, l4⟩, ⟨l1, d0, d1⟩, hBz, hBw⟩ := HY.out w4 hB4
                    cases k3 : inB LZ.b 0 ((p.nb : Int) - 1)
                    · have HX : Hid (formedB p s = false) := HT1.out (by rw [HBL.out, k1, k2, k3]; rfl)
                      clear HBL HT1 HT2 k1 k2 k3
                      go_wp2_with fail
                      go_ret
                      exact ⟨by rw [HX.out]; rfl, hBw⟩
                    · cases k4 : (LZ.l == LZ.b)
                      · cases k5 : inB LZ.n 1 200
                        · have HX : Hid (formedB p s = false) := HT1.out (by rw [HBL.out, k1, k2, k3, k4, k5]; rfl)
                          clear HBL HT1 HT2 k1 k2 k3
                          go_wp2_with (go_at_call 18; refine calls_to (within_any _ _ _ _) ?_)
                          go_ret
                          exact ⟨by rw [HX.out]; rfl, hBw⟩
                        · have HX := HT2.out (by rw [HBL.out, k1, k2, k3, k4, k5]; rfl)
                          have HX2 : Hid _ := HX
                          clear HBL HT1 HT2 k1 k2 k3 HX
                          go_wp2_with (go_at_call 18; refine calls_to (within_any _ _ _ _) ?_)
                          go_roundw
                          case rel => exact ⟨k + 1, by omega, by go_num, HX2.out, hBz⟩
                          case measure => simp [intOf]; omega
                      · have HX : Hid (formedB p s = false) := HT1.out (by rw [HBL.out, k1, k2, k3, k4]; rfl)
                        clear HBL HT1 HT2 k1 k2 k3
                        go_wp2_with fail
                        go_ret
                        exact ⟨by rw [HX.out]; rfl, hBw⟩
              · have HN4 : Hid (∀ j, j < s.ms.n → badMove p (s.ms.z j) = false) := fun j hj => HM.out j (by omega)
                clear HM
                by_cases n1 : s.si.n = p.ns
                · by_cases n2 : s.so.n = p.ns
                  · by_cases n3 : s.sf.n = p.ns
                    · have HLN : Hid (s.si.n = p.ns ∧ s.so.n = p.ns ∧ s.sf.n = p.ns) := ⟨n1, n2, n3⟩
                      have q1 := hsk.si.le
                      have q2 := hsk.si.cap
                      have q3 := hsk.so.le
                      have q4 := hsk.so.cap
                      have q5 := hsk.sf.le
                      have q6 := hsk.sf.cap
                      unfold maxLen at q2 q4 q6
                      rw [n1] at c4 q1
                      rw [n2] at c5 q3
                      rw [n3] at c6 q5
                      clear n1 n2 n3 hsk hpk c0 c1 c2 hBw
                      go_wp2_with fail
                      clear c3 c4 c5 c6 d0 d1 l1 l2 hlt hk
                      go_loopw [12] (fun i wk => ∃ k : Nat, k ≤ p.ns ∧ i = .int .i64 k ∧ (∀ j, j < k → sumOK s j = true) ∧ Below W0.heap.size W0 wk) (fun i _ => p.ns - (intOf i).toNat)
                      case atStart => exact ⟨0, Nat.zero_le _, rfl, fun j hj => absurd hj (Nat.not_lt_zero _), hB⟩
                      case round =>
                        clear hB
                        obtain ⟨g, hg, rfl, hno, hB⟩ := hrel
                        have HM : Hid (∀ j, j < g → sumOK s j = true) := hno
                        clear hno
                        obtain ⟨X, hpk, hsk, hBw⟩ := HC.out wr hB
                        obtain ⟨⟨l1, d0, d1⟩, l2, c0, c1, c2, c3, c4, c5, c6⟩ := X
                        by_cases hlt : g < p.ns
                        · obtain ⟨b1, o1, e1, g1, z1⟩ := hsk.si.ints g (by rw [HLN.out.1]; exact hlt)
                          obtain ⟨b2, o2, e2, g2, z2⟩ := hsk.so.ints g (by rw [HLN.out.2.1]; exact hlt)
                          obtain ⟨b3, o3, e3, g3, z3⟩ := hsk.sf.ints g (by rw [HLN.out.2.2]; exact hlt)
                          have qq : (0 : Int) ≤ (g : Int) := by omega
                          rw [e1, HLN.out.1] at c4
                          rw [e2, HLN.out.2.1] at c5
                          rw [e3, HLN.out.2.2] at c6
                          have HT1 : Hid (inB (s.si.z g) 0 1048576 = false → formedB p s = false) := fun h => fB_sum (.inl (badSum_yes HLN.out.1 hlt h))
                          have HT2 : Hid (inB (s.so.z g) 0 1048576 = false → formedB p s = false) := fun h => fB_sum (.inr (.inl (badSum_yes HLN.out.2.1 hlt h)))
                          have HT3 : Hid (inB (s.sf.z g) (-1048576) 1048576 = false → formedB p s = false) := fun h => fB_sum (.inr (.inr (badSum_yes HLN.out.2.2 hlt h)))
                          have HT4 : Hid (inB (s.si.z g) 0 1048576 = true → inB (s.so.z g) 0 1048576 = true → inB (s.sf.z g) (-1048576) 1048576 = true → ∀ j', j' < g + 1 → sumOK s j' = true) := fun h1 h2 h3 => all_succ HM.out (by unfold sumOK; rw [h1, h2, h3]; rfl)
                          clear e1 e2 e3 hsk hpk c0 c1 c2 c3 HM
                          generalize s.si.z g = I1 at *
                          generalize s.so.z g = I2 at *
                          generalize s.sf.z g = I3 at *
                          cases k1 : inB I1 0 1048576
                          · have HX : Hid (formedB p s = false) := HT1.out k1
                            clear HT1 HT2 HT3 HT4
                            go_wp2_with (go_at_call 18; refine calls_to (within_any _ _ _ _) ?_)
                            go_ret
                            exact ⟨by rw [HX.out]; rfl, hBw⟩
                          · cases k2 : inB I2 0 1048576
                            · have HX : Hid (formedB p s = false) := HT2.out k2
                              clear HT1 HT2 HT3 HT4
                              go_wp2_with (go_at_call 18; refine calls_to (within_any _ _ _ _) ?_)
                              go_ret
                              exact ⟨by rw [HX.out]; rfl, hBw⟩
                            · cases k3 : inB I3 (-1048576) 1048576
                              · have HX : Hid (formedB p s = false) := HT3.out k3
                                clear HT1 HT2 HT3 HT4
                                go_wp2_with (go_at_call 18; refine calls_to (within_any _ _ _ _) ?_)
                                go_ret
                                exact ⟨by rw [HX.out]; rfl, hBw⟩
                              · have HX := HT4.out k1 k2 k3
                                have HX2 : Hid _ := HX
                                clear HT1 HT2 HT3 HT4 HX
                                go_wp2_with (go_at_call 18; refine calls_to (within_any _ _ _ _) ?_)
                                go_roundw
                                case rel => exact ⟨g + 1, by omega, by go_num, HX2.out, hB⟩
                                case measure => simp [intOf]; omega
                        · have HX : Hid (formedB p s = true) := fB_yes HN2.out H0.out HN3.out HN4.out HLN.out (fun j hj => HM.out j (by omega))
                          clear hsk hpk c0 c1 c2 c3 c4 c5 c6 HM
                          go_wp2_with fail
                          go_ret
                          exact ⟨by rw [HX.out]; rfl, hBw⟩
                    · have HX : Hid (formedB p s = false) := fB_len3 n3
                      have m1 : ((s.si.n : Int) != (p.ns : Int)) = false := by simp [n1]
                      have m2 : ((s.so.n : Int) != (p.ns : Int)) = false := by simp [n2]
                      have m3 : ((s.sf.n : Int) != (p.ns : Int)) = true := by simp; omega
                      clear hsk hpk c0 c1 c2 n1 n2
                      go_wp2_with fail
                      go_ret
                      exact ⟨by rw [HX.out]; rfl, hBw⟩
                  · have HX : Hid (formedB p s = false) := fB_len2 n2
                    have m1 : ((s.si.n : Int) != (p.ns : Int)) = false := by simp [n1]
                    have m2 : ((s.so.n : Int) != (p.ns : Int)) = true := by simp; omega
                    clear hsk hpk c0 c1 c2 c6 n1
                    go_wp2_with fail
                    go_ret
                    exact ⟨by rw [HX.out]; rfl, hBw⟩
                · have HX : Hid (formedB p s = false) := fB_len1 n1
                  have m1 : ((s.si.n : Int) != (p.ns : Int)) = true := by simp; omega
                  clear hsk hpk c0 c1 c2 c5 c6
                  go_wp2_with fail
                  go_ret
                  exact ⟨by rw [HX.out]; rfl, hBw⟩
      · have HX : Hid (formedB p s = false) := fB_check h0
        obtain ⟨X, hpk, hsk, hBw⟩ := HC.out w2 hB
        clear X hpk hsk
        go_wp2_with fail
        go_ret
        exact ⟨by rw [HX.out]; rfl, hBw⟩
end Go.Proofs.YtbcacebifpagpaeGreat
namespace Go.Proofs.YtbcacebifpagpaeGreat
open Go.RowKit Go.Shelf Go.Sort
set_option linter.unusedVariables false
theorem tm_orders {s : St} (h : 4 < s.os.n) : tooManyB s = true := by
  have : decide (4 < s.os.n) = true := decide_eq_true h
  simp [tooManyB, this]
theorem tm_moves {s : St} (h : 8 < s.ms.n) : tooManyB s = true := by
  have : decide (8 < s.ms.n) = true := decide_eq_true h
  simp [tooManyB, this]
theorem tm_lines {s : St} {i : Nat} (hi : i < s.os.n) (h : inB (s.os.z i).ls.n 1 3 = false) : tooManyB s = true := by
  have : anyB s.os.n (fun i => fewLines (s.os.z i)) = true := anyB_yes hi (by unfold fewLines; rw [h]; rfl)
  simp [tooManyB, this]
theorem tm_no {s : St} (h1 : ¬ 4 < s.os.n) (h2 : ¬ 8 < s.ms.n) (h3 : ∀ i, i < s.os.n → inB (s.os.z i).ls.n 1 3 = true) : tooManyB s = false := by
  have e1 : decide (4 < s.os.n) = false := decide_eq_false h1
  have e2 : decide (8 < s.ms.n) = false := decide_eq_false h2
  have e3 : anyB s.os.n (fun i => fewLines (s.os.z i)) = false := anyB_no fun i hi => by unfold fewLines; rw [h3 i hi]; rfl
  unfold tooManyB
  rw [e1, e2, e3]
  rfl
theorem sE_shelf {p : Pl} {s : St} (h : ¬ shelfE p s.on = 0) : stateE p s = shelfE p s.on := by unfold stateE; rw [if_neg h]
theorem sE_many {p : Pl} {s : St} (h : shelfE p s.on = 0) (h1 : tooManyB s = true) : stateE p s = 2 := by unfold stateE; rw [if_pos h, h1]; rfl
theorem sE_form {p : Pl} {s : St} (h : shelfE p s.on = 0) (h1 : tooManyB s = false) (h2 : formedB p s = false) : stateE p s = 1 := by
  have e : (badOrdersB p s || badHoldsB p s || badMovesB p s || badSumsB p s) = true := by
    cases hq : (badOrdersB p s || badHoldsB p s || badMovesB p s || badSumsB p s)
    · rw [formedB, hq] at h2; cases h2
    · rfl
  unfold stateE; rw [if_pos h, h1, e]; rfl
theorem formedB_yes {p : Pl} {s : St} (h : shelfE p s.on = 0) (h1 : tooManyB s = false) (h2 : formedB p s = true) : Formed p s := by
  have e : (badOrdersB p s || badHoldsB p s || badMovesB p s || badSumsB p s) = false := by
    cases hq : (badOrdersB p s || badHoldsB p s || badMovesB p s || badSumsB p s)
    · rfl
    · rw [formedB, hq] at h2; cases h2
  simp only [Bool.or_eq_false_iff] at e
  exact formed h h1 e.1.1.1 e.1.1.2 e.1.2 e.2
theorem sE_sum {p : Pl} {s : St} (h : shelfE p s.on = 0) (h1 : tooManyB s = false) (h2 : formedB p s = true) : stateE p s = if summedB p s then 0 else 7 := by
  have e : (badOrdersB p s || badHoldsB p s || badMovesB p s || badSumsB p s) = false := by
    cases hq : (badOrdersB p s || badHoldsB p s || badMovesB p s || badSumsB p s)
    · rfl
    · rw [formedB, hq] at h2; cases h2
  unfold stateE summedB
  rw [if_pos h, h1, e]
  cases (wrongGoodsB p s || wrongOrdersB s) <;> rfl
set_option maxRecDepth 100000 in
set_option maxHeartbeats 4000000 in
theorem refCheckState_any (p : Pl) (s : St) (w : World) (hp : p.At w) (hs : s.At w) :
    Calls Tryz.prog 15 #[p.val, s.val] w fun e w' => e = .returned (.int .i64 (stateE p s)) ∧ Below w.heap.size w w' := by
  obtain ⟨W0, hW, hWB, X0⟩ : ∃ W, ((w.alloc (.cells #[.slice p.ab p.nb p.cb, .slice p.sa p.ns p.cs] 25)).alloc (.cells s.cells 31)) = W ∧ Below w.heap.size w W ∧ Boxes W w.heap.size (w.heap.size + 1) p s := ⟨_, rfl, two_below _ _ _, boxes_new w p s _ _⟩
  have HC : Hid (∀ wk, Below W0.heap.size W0 wk → Boxes wk w.heap.size (w.heap.size + 1) p s ∧ p.At wk ∧ s.At wk ∧ Below w.heap.size w wk) := fun wk h => ⟨X0.below h, (hp.below hWB).below h, (hs.below hWB).below h, hWB.trans (h.mono hWB.size)⟩
  have HW : Hid ((w.alloc (.cells #[.slice p.ab p.nb p.cb, .slice p.sa p.ns p.cs] 25)).alloc (.cells #[.slice s.on.a s.on.n s.on.c, .slice s.os.a s.os.n s.os.c, .slice s.hs.a s.hs.n s.hs.c, .slice s.ms.a s.ms.n s.ms.c, .slice s.si.a s.si.n s.si.c, .slice s.so.a s.so.n s.so.c, .slice s.sf.a s.sf.n s.sf.c] 31) = W0) := hW
  have ole := hs.os.le
  have ocap := hs.os.cap
  have mle := hs.ms.le
  have mcap := hs.ms.cap
  unfold maxLen at ocap mcap
  clear hW X0 hp hs
  unfold Pl.val St.val
  go_enter Tryz.func15, Tryz.ntmps15
  go_wp2_with fail
  rw [HW.out]
  obtain ⟨X, hpk, hsk, hBw⟩ := HC.out W0 (Below.refl _ _)
  refine (refCheckShelf_any p s.on W0 hpk hsk.on).mono ?_
  rintro e w1 ⟨rfl, hB⟩
  clear X hpk hsk hBw HW
  obtain ⟨X, hpk, hsk, hBw⟩ := HC.out w1 hB
  obtain ⟨⟨l1, d0, d1⟩, l2, c0, c1, c2, c3, c4, c5, c6⟩ := X
  by_cases h0 : shelfE p s.on = 0
  · have H0 : Hid (shelfE p s.on = 0) := h0
    rw [h0]
    clear h0 hpk hsk
    by_cases n1 : 4 < s.os.n
    · have HX : Hid (stateE p s = 2) := sE_many H0.out (tm_orders n1)
      have n1' : (4 : Int) < (s.os.n : Int) := by omega
      go_wp2_with fail
      go_ret
      exact ⟨by rw [HX.out]; rfl, hBw⟩
    · by_cases n2 : 8 < s.ms.n
      · have HX : Hid (stateE p s = 2) := sE_many H0.out (tm_moves n2)
        have n1' : ¬ (4 : Int) < (s.os.n : Int) := by omega
        have n2' : (8 : Int) < (s.ms.n : Int) := by omega
        go_wp2_with fail
        go_ret
        exact ⟨by rw [HX.out]; rfl, hBw⟩
      · have n1' : ¬ (4 : Int) < (s.os.n : Int) := by omega
        have n2' : ¬ (8 : Int) < (s.ms.n : Int) := by omega
        go_wp2_with fail
        clear c0 c1 c2 c3 c4 c5 c6 d0 d1 l1 l2 hBw
        go_loopw [6] (fun i wk => ∃ k : Nat, k ≤ s.os.n ∧ i = .int .i64 k ∧ (∀ j, j < k → inB (s.os.z j).ls.n 1 3 = true) ∧ Below W0.heap.size W0 wk) (fun i _ => s.os.n - (intOf i).toNat)
        case atStart => exact ⟨0, Nat.zero_le _, rfl, fun j hj => absurd hj (Nat.not_lt_zero _), hB⟩
        case round =>
          clear hB
          obtain ⟨i, hi, rfl, hno, hB⟩ := hrel
          have HN : Hid (∀ j, j < i → inB (s.os.z j).ls.n 1 3 = true) := hno
          clear hno
          obtain ⟨X, hpk, hsk, hBw⟩ := HC.out wr hB
          obtain ⟨⟨l1, d0, d1⟩, l2, c0, c1, c2, c3, c4, c5, c6⟩ := X
          by_cases hlt : i < s.os.n
          · obtain ⟨b, o, hoa, hb, z0, z1, hl⟩ := hsk.os.ods i hlt
            have qi : (0 : Int) ≤ (i : Int) := by omega
            have HT1 : Hid (inB (s.os.z i).ls.n 1 3 = false → stateE p s = 2) := fun h => sE_many H0.out (tm_lines hlt h)
            have HT2 : Hid (inB (s.os.z i).ls.n 1 3 = true → ∀ j, j < i + 1 → inB (s.os.z j).ls.n 1 3 = true) := fun h => all_succ (f := fun j => inB (s.os.z j).ls.n 1 3) HN.out h
            rw [hoa] at c1
            clear hoa hl hpk hsk c0 c2 c3 c4 c5 c6 d0 d1 z0
            generalize (s.os.z i).ls = LS at *
            cases k1 : inB LS.n 1 3
            · have HX : Hid (stateE p s = 2) := HT1.out k1
              clear HT1 HT2
              go_wp2_with (go_at_call 18; refine calls_to (within_any _ _ _ _) ?_)
              go_ret
              exact ⟨by rw [HX.out]; rfl, hBw⟩
            · have HX := HT2.out k1
              have HX2 : Hid _ := HX
              clear HT1 HT2 HX
              go_wp2_with (go_at_call 18; refine calls_to (within_any _ _ _ _) ?_)
              go_roundw
              case rel => exact ⟨i + 1, by omega, by go_num, HX2.out, hB⟩
              case measure => simp [intOf]; omega
          · have HTM : Hid (tooManyB s = false) := tm_no n1 n2 fun j hj => HN.out j (by omega)
            go_wp2_with fail
            refine (formed_any p s wr hpk hsk H0.out HTM.out).mono ?_
            rintro e w2 ⟨rfl, hB2⟩
            have hB := hB.trans (hB2.mono hB.size)
            clear hpk hsk hBw l1 d0 d1 l2 c0 c1 c2 c3 c4 c5 c6 hB2
            obtain ⟨X, hpk, hsk, hBw⟩ := HC.out w2 hB
            obtain ⟨⟨l1, d0, d1⟩, l2, c0, c1, c2, c3, c4, c5, c6⟩ := X
            cases k2 : formedB p s
            · have HX : Hid (stateE p s = 1) := sE_form H0.out HTM.out k2
              clear hpk hsk
              go_wp2_with fail
              go_ret
              exact ⟨by rw [HX.out]; rfl, hBw⟩
            · have HFO : Hid (Formed p s) := formedB_yes H0.out HTM.out k2
              have HE : Hid (stateE p s = if summedB p s then 0 else 7) := sE_sum H0.out HTM.out k2
              clear k2
              go_wp2_with fail
              refine (summed_any p s w2 hpk hsk HFO.out).mono ?_
              rintro e w3 ⟨rfl, hB3⟩
              have hBw := hBw.trans (hB3.mono hBw.size)
              clear hpk hsk l1 d0 d1 l2 c0 c1 c2 c3 c4 c5 c6 hB3
              cases k3 : summedB p s
              · have HX : Hid (stateE p s = 7) := by show stateE p s = 7; rw [HE.out, k3]; rfl
                clear HE
                go_wp2_with fail
                go_ret
                exact ⟨by rw [HX.out]; rfl, hBw⟩
              · have HX : Hid (stateE p s = 0) := by show stateE p s = 0; rw [HE.out, k3]; rfl
                clear HE
                go_wp2_with fail
                go_ret
                exact ⟨by rw [HX.out]; rfl, hBw⟩
  · have HX : Hid (stateE p s = shelfE p s.on) := sE_shelf h0
    clear hpk hsk
    go_wp2_with fail
    go_ret
    exact ⟨by rw [HX.out]; rfl, hBw⟩
end Go.Proofs.YtbcacebifpagpaeGreat
namespace Go.Proofs.YtbcacebifpagpaeGreat
open Go.RowKit Go.Shelf
set_option linter.unusedVariables false
structure OwnR (A : Nat) (w : World) (s : Sh) : Prop where
  on : ∃ g, s.a = some ⟨g, 0, none⟩ ∧ A ≤ g ∧ s.n ≤ s.c ∧ s.c ≤ maxLen ∧ Blk w g 23 s.n (fun i => .slice (s.r i).a (s.r i).n (s.r i).c)
  rows : ∀ i, i < s.n → OwnI A w (s.r i)
  rapart : ∀ i j, i < j → j < s.n → (s.r i).a ≠ (s.r j).a
set_option maxHeartbeats 1000000 in
theorem PutOwn_any (p : Pl) (s : Sh) (bin good n : Int) (w : World) (hp : p.At w) (hs : s.At w) (hput : putE p s bin good n = 0) :
    Calls Tryz.prog 11 #[p.val, s.val, .int .i64 bin, .int .i64 good, .int .i64 n] w fun e w' => ∃ s' : Sh, e = .returned (.tuple #[s'.val, .int .i64 0]) ∧ OwnR w.heap.size w' s' ∧ s'.n = s.n ∧ (∀ i, i < s.n → (s'.r i).n = (s.r i).n ∧ ∀ j, j < (s.r i).n → (s'.r i).z j = putZ s bin good n i j) ∧ Below w.heap.size w w' := by
  have hB0 : Below w.heap.size w (w.alloc (.cells #[.slice p.ab p.nb p.cb, .slice p.sa p.ns p.cs] 25)) := (Below.refl w.heap.size w).alloc (Nat.le_refl _) _
  simp only [Pl.val, Sh.val]
  have sle := hs.le
  have scap0 := hs.cap
  have scap := scap0
  unfold maxLen at scap
  have hn0 : s.n ≤ maxLen := Nat.le_trans sle scap0
  have les := hp.les
  have caps0 := hp.caps
  have hn1 : p.ns ≤ maxLen := Nat.le_trans les caps0
  have caps := caps0
  unfold maxLen at caps
  go_enter Tryz.func11, Tryz.ntmps11
  go_wp2_with fail
  refine (shelfCheck_any p s _ (hp.below hB0) (hs.below hB0)).mono ?_
  rintro e w1 ⟨rfl, hB⟩
  have hBw := hB0.trans (hB.mono (by simp))
  have hsz : w.heap.size < w1.heap.size := by have := hB.size; simp at this; omega
  have c1 : w1.cell? ⟨w.heap.size, 1, none⟩ = some (.slice p.sa p.ns p.cs) := (hB.cell (p := ⟨w.heap.size, 1, none⟩) (by simp)).trans (by simp)
  have h0 : shelfE p s = 0 := by
    apply Classical.byContradiction
    intro h0
    have hE : shelfErr p s bin good = shelfE p s := by simp [shelfErr, h0]
    simp [putE, hE, h0] at hput
  have hE := shelfErr_eq (bin := bin) (good := good) h0
  have h1 : inB bin 0 ((s.n : Int) - 1) = true := by
    cases h1 : inB bin 0 ((s.n : Int) - 1)
    · simp [putE, hE, h1] at hput
    · rfl
  have h2 : inB good 0 ((p.ns : Int) - 1) = true := by
    cases h2 : inB good 0 ((p.ns : Int) - 1)
    · simp [putE, hE, h1, h2] at hput
    · rfl
  have hE0 : shelfErr p s bin good = 0 := by simp [hE, h1, h2]
  clear hE
  obtain ⟨m, rfl⟩ := Int.eq_ofNat_of_zero_le (inB_true h1).1
  obtain ⟨q, rfl⟩ := Int.eq_ofNat_of_zero_le (inB_true h2).1
  have hm : m < s.n := by have := (inB_true h1).2; omega
  have hq : q < p.ns := by have := (inB_true h2).2; omega
  obtain ⟨pl, hn, hlen, hnum⟩ := (rightS h0).2
  have hz := hnum m hm q hq
  have hl := hlen m hm
  have h6 := pl.nb6
  rw [← hn] at h6
  have hr3 : Hid (∀ i, i < s.n → 1 ≤ (s.r i).n ∧ (s.r i).n ≤ 3) := fun i hi => by rw [hlen i hi]; exact ⟨pl.ns1, pl.ns3⟩
  have hs1 := hs.below hBw
  have m1 : (0 : Int) ≤ (m : Int) := by omega
  have m2 : (0 : Int) ≤ (q : Int) := by omega
  obtain ⟨b, o, ha, hb, z0, hat⟩ := hs1.rows m hm
  obtain ⟨b1, o1, ha1, hb1, y0⟩ := hat.ints q (by omega)
  rw [ha1] at z0
  have hql : q < (s.r m).n := by omega
  have rle := hat.le
  have rcap := hat.cap
  unfold maxLen at rcap
  have h3 : inB n (-((s.r m).z q)) (200 - (s.r m).z q) = true := by
    cases h3 : inB n (-((s.r m).z q)) (200 - (s.r m).z q)
    · simp [putE, hE0, h3] at hput
    · rfl
  clear hput
  clear pl hn hlen hnum ha1 hat hE0 hl
  obtain ⟨s0, sn, sc, sr⟩ := s
  dsimp only at *
  subst ha
  go_wp2_with (first | (go_at_call_of 31 (Value.int .i64 (m : Int)); refine calls_to (Has_any _ _ _ hn0) ?_) | (go_at_call_of 31 (Value.int .i64 (q : Int)); refine calls_to (Has_any _ _ _ hn1) ?_) | (go_at_call 9; refine calls_to (Within_any _ _ _ _) ?_))
  refine (copyRows_any ⟨some ⟨b, o, none⟩, sn, sc, sr⟩ w1 hs1 h6 hr3.out).mono ?_
  rintro e w2 ⟨g, G, C, rfl, hg, gb, gr, gm, hB2⟩
  dsimp only at gb gr gm ⊢
  obtain ⟨g1, g2, g3, g4⟩ := gr m hm
  have d0 := gb.cell hm
  have d1 := g4.cell hql
  have d2 := g4.frozen q
  have hnn := inB_true h3
  unfold maxLen at g3
  have hB3 := hBw.trans (hB2.mono hBw.size)
  have hge : w.heap.size ≤ G m := by have := hBw.size; omega
  have st := hB3.setCell (p := ⟨G m, q, none⟩) hge (.int .i64 ((sr m).z q + n))
  have HH : Hid _ := And.intro gb (And.intro gr gm)
  clear gb gr gm c1 y0 z0
  go_wp2_with fail
  go_ret2
  obtain ⟨gb, gr, gm⟩ := HH.out
  refine ⟨⟨some ⟨g, 0, none⟩, sn, sn, fun i => ⟨some ⟨G i, 0, none⟩, (sr i).n, C i, fun j => putZ ⟨some ⟨b, o, none⟩, sn, sc, sr⟩ m q n i j⟩⟩, rfl, ⟨⟨g, rfl, ?_, Nat.le_refl _, hn0, ?_⟩, ?_, ?_⟩, rfl, fun i hi => ⟨rfl, fun j hj => rfl⟩, st⟩
  · have := hBw.size; omega
  · exact gb.other (a := ⟨G m, q, none⟩) (by show g ≠ G m; omega) (.int .i64 ((sr m).z q + n))
  · intro i hi
    have gi := gr i hi
    refine ⟨G i, rfl, ?_, gi.2.1, gi.2.2.1, ?_⟩
    · have := hBw.size; omega
    · by_cases him : i = m
      · subst him
        refine (gi.2.2.2.set q (.int .i64 ((sr i).z q + n))).congr fun j hj => ?_
        by_cases hjq : j = q
        · subst hjq; simp [putZ]
        · simp [putZ, hjq]
      · have hGne : G i ≠ G m := by
          rcases Nat.lt_or_gt_of_ne him with h | h
          · have := gm i m h hm; omega
          · have := gm m i h hi; omega
        refine (gi.2.2.2.other (a := ⟨G m, q, none⟩) hGne (.int .i64 ((sr m).z q + n))).congr fun j hj => ?_
        simp [putZ, him]
  · intro i j hij hj h
    have := gm i j hij hj
    simp only [Option.some.injEq, Addr.mk.injEq, and_true] at h
    omega
end Go.Proofs.YtbcacebifpagpaeGreat
namespace Go.Proofs.YtbcacebifpagpaeGreat
open Go.RowKit Go.Shelf Go.Sort
set_option linter.unusedVariables false
theorem OwnS.swap {A B : Nat} {w0 w : World} {o : St} {r : Sh} (h : OwnS A w0 o) (hB : Below w0.heap.size w0 w) (hR : OwnR B w r) (hw : w0.heap.size ≤ B) (hA : A ≤ B) : OwnS A w ⟨r, o.os, o.hs, o.ms, o.si, o.so, o.sf⟩ := by
  have k := OwnS.below h hB
  obtain ⟨G1, a1, -, -, -, k1⟩ := h.si
  obtain ⟨G2, a2, -, -, -, k2⟩ := h.so
  obtain ⟨G3, a3, -, -, -, k3⟩ := h.sf
  have l1 := k1.lt
  have l2 := k2.lt
  have l3 := k3.lt
  refine ⟨?_, fun i hi => ?_, hR.rapart, k.os, k.hs, k.ms, k.msr, k.si, k.so, k.sf, k.aio, k.aif, k.aof, fun i hi => ?_⟩
  · obtain ⟨g, h1, h2, h3⟩ := hR.on
    exact ⟨g, h1, by omega, h3⟩
  · obtain ⟨g, h1, h2, h3⟩ := hR.rows i hi
    exact ⟨g, h1, by omega, h3⟩
  · obtain ⟨g, h1, h2, h3⟩ := hR.rows i hi
    show (r.r i).a ≠ o.si.a ∧ (r.r i).a ≠ o.so.a ∧ (r.r i).a ≠ o.sf.a
    rw [h1, a1, a2, a3]
    simp only [ne_eq, Option.some.injEq, Addr.mk.injEq, and_true]
    omega
end Go.Proofs.YtbcacebifpagpaeGreat
namespace Go.Proofs.YtbcacebifpagpaeGreat
open Go.RowKit Go.Shelf
set_option linter.unusedVariables false
def Grew (A : Nat) (e : TypeId) (w w' : World) : Prop := ∃ row, w.grownBy w' row ∧ ∀ k, row = some k → A ≤ k ∧ ∃ cur, w.heap[k]? = some (.cells cur e (0, 0))
theorem Grew.blk {A : Nat} {e : TypeId} {w w' : World} (h : Grew A e w w') {q : Nat} {t : TypeId} {m : Nat} {f : Nat → Value} (hb : Blk w q t m f) (hne : t ≠ e) : Blk w' q t m f := by
  obtain ⟨row, hg, hr⟩ := h
  refine hb.grown hg fun hq => ?_
  obtain ⟨_, c2, hc2⟩ := hr q hq.symm
  obtain ⟨c3, hc3, _⟩ := hb
  rw [hc3] at hc2
  cases hc2
  exact hne rfl
theorem Grew.low {A : Nat} {e : TypeId} {w w' : World} (h : Grew A e w w') {q : Nat} {t : TypeId} {m : Nat} {f : Nat → Value} (hb : Blk w q t m f) (hq : q < A) : Blk w' q t m f := by
  obtain ⟨row, hg, hr⟩ := h
  exact hb.grown hg fun hq' => by have := (hr q hq'.symm).1; omega
theorem Grew.below {A A' : Nat} {e : TypeId} {w0 w w' : World} (h : Grew A e w w') (hB : Below A' w0 w) (hA : A' ≤ A) (hs : A' ≤ w.heap.size) : Below A' w0 w' := by
  obtain ⟨row, hg, hr⟩ := h
  exact hB.grown hg hs fun k hk => by have := (hr k hk).1; omega
theorem Room.grew {A B : Nat} {t : TypeId} {w w2 : World} {sz c : Nat} {a : Option Addr} {e : TypeId} (h : Room A w t sz a c) (hg : Grew B e w w2) (hne : t ≠ e) : Room A w2 t sz a c := by
  obtain ⟨row, hg, hr⟩ := hg
  refine h.same fun g cur hgc => hg.block g (Array.getElem?_eq_some_iff.1 hgc).1 fun hq => ?_
  obtain ⟨_, c2, hc2⟩ := hr g hq.symm
  rw [hgc] at hc2
  cases hc2
  exact hne rfl
theorem OwnI.grew {A B : Nat} {w w2 : World} {r : Rw} {e : TypeId} (h : OwnI A w r) (hg : Grew B e w w2) (hne : 3 ≠ e) : OwnI A w2 r := by
  obtain ⟨g, ha, h0, h1, h2, hb⟩ := h
  exact ⟨g, ha, h0, h1, h2, hg.blk hb hne⟩
theorem OwnH.grew {A B : Nat} {t : TypeId} {w w2 : World} {s : Hs} {e : TypeId} (h : OwnH A t w s) (hg : Grew B e w w2) (hne : t ≠ e) : OwnH A t w2 s := by
  obtain ⟨h1, h2, h3, h4⟩ := h
  refine ⟨h1, h2, h3, fun hn => ?_⟩
  obtain ⟨g, ha, hA, hb⟩ := h4 hn
  exact ⟨g, ha, hA, hg.blk hb hne⟩
end Go.Proofs.YtbcacebifpagpaeGreat
namespace Go.Proofs.YtbcacebifpagpaeGreat
open Go.RowKit Go.Shelf Go.Sort
set_option linter.unusedVariables false
theorem OwnS.orders {A B : Nat} {w w' : World} {s : St} {os : Os} (h : OwnS A w s) (hg : Grew B 64 w w') (ho : OwnO A w' os) : OwnS A w' ⟨s.on, os, s.hs, s.ms, s.si, s.so, s.sf⟩ := by
  refine ⟨?_, fun i hi => (h.rows i hi).grew hg (by decide), h.rapart, ho, h.hs.grew hg (by decide), h.ms.grew hg (by decide), h.msr.grew hg (by decide), h.si.grew hg (by decide), h.so.grew hg (by decide), h.sf.grew hg (by decide), h.aio, h.aif, h.aof, h.ari⟩
  obtain ⟨g, a, b, c, d, e⟩ := h.on
  exact ⟨g, a, b, c, d, hg.blk e (by decide)⟩
end Go.Proofs.YtbcacebifpagpaeGreat
namespace Go.Proofs.YtbcacebifpagpaeGreat
open Go.RowKit Go.Shelf Go.Sort
set_option linter.unusedVariables false
structure BusyB (w : World) (g : Nat) (a k : Int) : Prop where
  b0 : Blk w (g) 3 2 (fun j => (#[.int .i64 9, .int .i64 0] : Array Value).getD j default)
  b1 : Blk w (g + 1) 3 2 (fun j => (#[.int .i64 3, .int .i64 0] : Array Value).getD j default)
  b2 : Blk w (g + 2) 3 2 (fun j => (#[.int .i64 0, .int .i64 6] : Array Value).getD j default)
  b3 : Blk w (g + 3) 23 3 (fun j => (#[.slice (some ⟨g, 0, none⟩) 2 2, .slice (some ⟨g + 1, 0, none⟩) 2 2, .slice (some ⟨g + 2, 0, none⟩) 2 2] : Array Value).getD j default)
  b4 : Blk w (g + 4) 61 8 (fun j => (#[.int .i64 0, .int .i64 6, .int .i64 1, .int .i64 0, .int .i64 1, .int .i64 9, .int .i64 0, .int .i64 3] : Array Value).getD j default)
  b5 : Blk w (g + 5) 61 4 (fun j => (#[.int .i64 0, .int .i64 4, .int .i64 0, .int .i64 0] : Array Value).getD j default)
  b6 : Blk w (g + 6) 64 4 (fun j => (#[.int .i64 1, .slice (some ⟨g + 4, 0, none⟩) 2 2, .int .i64 k, .slice (some ⟨g + 5, 0, none⟩) 1 1] : Array Value).getD j default)
  b7 : Blk w (g + 7) 58 12 (fun j => (#[.int .i64 0, .int .i64 0, .int .i64 0, .int .i64 a, .int .i64 0, .int .i64 0, .int .i64 1, .int .i64 3, .int .i64 0, .int .i64 1, .int .i64 2, .int .i64 6] : Array Value).getD j default)
  b8 : Blk w (g + 8) 56 4 (fun j => (#[.int .i64 0, .int .i64 0, .int .i64 1, .int .i64 5] : Array Value).getD j default)
  b9 : Blk w (g + 9) 3 2 (fun j => (#[.int .i64 13, .int .i64 6] : Array Value).getD j default)
  b10 : Blk w (g + 10) 3 2 (fun j => (#[.int .i64 1, .int .i64 0] : Array Value).getD j default)
  b11 : Blk w (g + 11) 3 2 (fun j => (#[.int .i64 0, .int .i64 0] : Array Value).getD j default)
theorem BusyB.below {w w' : World} {g : Nat} {a k : Int} (h : BusyB w g a k) (hB : Below w.heap.size w w') : BusyB w' g a k := ⟨h.b0.below hB, h.b1.below hB, h.b2.below hB, h.b3.below hB, h.b4.below hB, h.b5.below hB, h.b6.below hB, h.b7.below hB, h.b8.below hB, h.b9.below hB, h.b10.below hB, h.b11.below hB⟩
def bz0 : Nat → Int
  | 0 => 9
  | _ => 0
def bz1 : Nat → Int
  | 0 => 3
  | _ => 0
def bz2 : Nat → Int
  | 0 => 0
  | _ => 6
def bzi : Nat → Int
  | 0 => 13
  | _ => 6
def bzo : Nat → Int
  | 0 => 1
  | _ => 0
def bl0 : Nat → Hd
  | 0 => ⟨0, 6, 1, 0⟩
  | _ => ⟨1, 9, 0, 3⟩
def bhs (a : Int) : Nat → Hd
  | 0 => ⟨0, 0, 0, a⟩
  | 1 => ⟨0, 0, 1, 3⟩
  | _ => ⟨0, 1, 2, 6⟩
def bon (g : Nat) : Nat → Rw
  | 0 => ⟨some ⟨g, 0, none⟩, 2, 2, bz0⟩
  | 1 => ⟨some ⟨g + 1, 0, none⟩, 2, 2, bz1⟩
  | _ => ⟨some ⟨g + 2, 0, none⟩, 2, 2, bz2⟩
def bos (g : Nat) (k : Int) : Nat → Od
  | 0 => ⟨1, ⟨some ⟨g + 4, 0, none⟩, 2, 2, bl0⟩⟩
  | _ => ⟨k, ⟨some ⟨g + 5, 0, none⟩, 1, 1, fun _ => ⟨0, 4, 0, 0⟩⟩⟩
def busyS (g : Nat) (a k : Int) : St := ⟨⟨some ⟨g + 3, 0, none⟩, 3, 3, bon g⟩, ⟨some ⟨g + 6, 0, none⟩, 2, 2, bos g k⟩, ⟨some ⟨g + 7, 0, none⟩, 3, 3, bhs a⟩, ⟨some ⟨g + 8, 0, none⟩, 1, 1, fun _ => ⟨0, 0, 1, 5⟩⟩, ⟨some ⟨g + 9, 0, none⟩, 2, 2, bzi⟩, ⟨some ⟨g + 10, 0, none⟩, 2, 2, bzo⟩, ⟨some ⟨g + 11, 0, none⟩, 2, 2, fun _ => 0⟩⟩
theorem le_max {n : Nat} (h : n ≤ 100) : n ≤ maxLen := by unfold maxLen; omega
theorem two_at {w : World} {g : Nat} {e : TypeId} {x y : Int} {z : Nat → Int} (h : Blk w g e 2 (fun j => (#[.int .i64 x, .int .i64 y] : Array Value).getD j default)) (h0 : z 0 = x) (h1 : z 1 = y) : Rw.At w ⟨some ⟨g, 0, none⟩, 2, 2, z⟩ := by
  refine ⟨Nat.le_refl _, le_max (n := 2) (by decide), fun i hi => ?_⟩
  have hi' : i < 2 := hi
  refine ⟨g, 0, rfl, h.lt, ?_⟩
  match i, hi' with
  | 0, _ => show w.cell? ⟨g, 0 + 0, none⟩ = some (.int .i64 (z 0)); rw [h0]; exact h.cell (j := 0) (by decide)
  | 1, _ => show w.cell? ⟨g, 0 + 1, none⟩ = some (.int .i64 (z 1)); rw [h1]; exact h.cell (j := 1) (by decide)
theorem busyAt {w : World} {g : Nat} {a k : Int} (h : BusyB w g a k) : (busyS g a k).At w := by
  refine ⟨⟨Nat.le_refl _, le_max (n := 3) (by decide), fun i hi => ?_⟩, ⟨Nat.le_refl _, le_max (n := 2) (by decide), fun i hi => ?_⟩, ⟨Nat.le_refl _, le_max (n := 3) (by decide), fun i hi => ?_, fun e => by cases e⟩, ⟨Nat.le_refl _, le_max (n := 1) (by decide), fun i hi => ?_, fun e => by cases e⟩, two_at h.b9 rfl rfl, two_at h.b10 rfl rfl, two_at h.b11 rfl rfl⟩
  · have hi' : i < 3 := hi
    refine ⟨g + 3, 0, rfl, h.b3.lt, ?_⟩
    match i, hi' with
    | 0, _ => exact ⟨h.b3.cell (j := 0) (by decide), two_at h.b0 rfl rfl⟩
    | 1, _ => exact ⟨h.b3.cell (j := 1) (by decide), two_at h.b1 rfl rfl⟩
    | 2, _ => exact ⟨h.b3.cell (j := 2) (by decide), two_at h.b2 rfl rfl⟩
  · have hi' : i < 2 := hi
    refine ⟨g + 6, 0, rfl, h.b6.lt, ?_⟩
    match i, hi' with
    | 0, _ =>
      refine ⟨h.b6.cell (j := 0) (by decide), h.b6.cell (j := 1) (by decide), Nat.le_refl _, le_max (n := 2) (by decide), fun j hj => ?_, fun e => by cases e⟩
      have hj' : j < 2 := hj
      refine ⟨g + 4, 0, rfl, h.b4.lt, ?_⟩
      match j, hj' with
      | 0, _ => exact ⟨h.b4.cell (j := 0) (by decide), h.b4.cell (j := 1) (by decide), h.b4.cell (j := 2) (by decide), h.b4.cell (j := 3) (by decide)⟩
      | 1, _ => exact ⟨h.b4.cell (j := 4) (by decide), h.b4.cell (j := 5) (by decide), h.b4.cell (j := 6) (by decide), h.b4.cell (j := 7) (by decide)⟩
    | 1, _ =>
      refine ⟨h.b6.cell (j := 2) (by decide), h.b6.cell (j := 3) (by decide), Nat.le_refl _, le_max (n := 1) (by decide), fun j hj => ?_, fun e => by cases e⟩
      have hj' : j < 1 := hj
      refine ⟨g + 5, 0, rfl, h.b5.lt, ?_⟩
      match j, hj' with
      | 0, _ => exact ⟨h.b5.cell (j := 0) (by decide), h.b5.cell (j := 1) (by decide), h.b5.cell (j := 2) (by decide), h.b5.cell (j := 3) (by decide)⟩
  · have hi' : i < 3 := hi
    refine ⟨g + 7, 0, rfl, h.b7.lt, ?_⟩
    match i, hi' with
    | 0, _ => exact ⟨h.b7.cell (j := 0) (by decide), h.b7.cell (j := 1) (by decide), h.b7.cell (j := 2) (by decide), h.b7.cell (j := 3) (by decide)⟩
    | 1, _ => exact ⟨h.b7.cell (j := 4) (by decide), h.b7.cell (j := 5) (by decide), h.b7.cell (j := 6) (by decide), h.b7.cell (j := 7) (by decide)⟩
    | 2, _ => exact ⟨h.b7.cell (j := 8) (by decide), h.b7.cell (j := 9) (by decide), h.b7.cell (j := 10) (by decide), h.b7.cell (j := 11) (by decide)⟩
  · have hi' : i < 1 := hi
    refine ⟨g + 8, 0, rfl, h.b8.lt, ?_⟩
    match i, hi' with
    | 0, _ => exact ⟨h.b8.cell (j := 0) (by decide), h.b8.cell (j := 1) (by decide), h.b8.cell (j := 2) (by decide), h.b8.cell (j := 3) (by decide)⟩
set_option maxRecDepth 100000 in
set_option maxHeartbeats 4000000 in
theorem busy_any (w : World) :
    Calls Tryz.prog 26 #[] w fun e w' => ∃ g, e = .returned (busyS g 2 0).val ∧ w.heap.size < g ∧ BusyB w' g 2 0 ∧ Below w.heap.size w w' := by
  go_enter Tryz.func26, Tryz.ntmps26
  go_wp2
  refine bodyPost_ret (v := (busyS (w.heap.size + 1) 2 0).val) (by simp [results, Tryz.results26, go_sem, busyS, St.val]) rfl ?_
  refine ⟨w.heap.size + 1, rfl, by omega, ⟨Blk.alloc (Blk.alloc (Blk.alloc (Blk.alloc (Blk.alloc (Blk.alloc (Blk.alloc (Blk.alloc (Blk.alloc (Blk.alloc (Blk.alloc (Blk.mk' (by simp <;> omega) rfl) _) _) _) _) _) _) _) _) _) _) _, Blk.alloc (Blk.alloc (Blk.alloc (Blk.alloc (Blk.alloc (Blk.alloc (Blk.alloc (Blk.alloc (Blk.alloc (Blk.alloc (Blk.mk' (by simp <;> omega) rfl) _) _) _) _) _) _) _) _) _) _, Blk.alloc (Blk.alloc (Blk.alloc (Blk.alloc (Blk.alloc (Blk.alloc (Blk.alloc (Blk.alloc (Blk.alloc (Blk.mk' (by simp <;> omega) rfl) _) _) _) _) _) _) _) _) _, Blk.alloc (Blk.alloc (Blk.alloc (Blk.alloc (Blk.alloc (Blk.alloc (Blk.alloc (Blk.alloc (Blk.mk' (by simp <;> omega) rfl) _) _) _) _) _) _) _) _, Blk.alloc (Blk.alloc (Blk.alloc (Blk.alloc (Blk.alloc (Blk.alloc (Blk.alloc (Blk.mk' (by simp <;> omega) rfl) _) _) _) _) _) _) _, Blk.alloc (Blk.alloc (Blk.alloc (Blk.alloc (Blk.alloc (Blk.alloc (Blk.mk' (by simp <;> omega) rfl) _) _) _) _) _) _, Blk.alloc (Blk.alloc (Blk.alloc (Blk.alloc (Blk.alloc (Blk.mk' (by simp <;> omega) rfl) _) _) _) _) _, Blk.alloc (Blk.alloc (Blk.alloc (Blk.alloc (Blk.mk' (by simp <;> omega) rfl) _) _) _) _, Blk.alloc (Blk.alloc (Blk.alloc (Blk.mk' (by simp <;> omega) rfl) _) _) _, Blk.alloc (Blk.alloc (Blk.mk' (by simp <;> omega) rfl) _) _, Blk.alloc (Blk.mk' (by simp <;> omega) rfl) _, Blk.mk' (by simp <;> omega) rfl⟩, ?_⟩
  exact (((((((((((((Below.refl _ _).alloc (Nat.le_refl _) _).alloc (by simp <;> omega) _).alloc (by simp <;> omega) _).alloc (by simp <;> omega) _).alloc (by simp <;> omega) _).alloc (by simp <;> omega) _).alloc (by simp <;> omega) _).alloc (by simp <;> omega) _).alloc (by simp <;> omega) _).alloc (by simp <;> omega) _).alloc (by simp <;> omega) _).alloc (by simp <;> omega) _).alloc (by simp <;> omega) _
end Go.Proofs.YtbcacebifpagpaeGreat
namespace Go.Proofs.YtbcacebifpagpaeGreat
open Go.RowKit
set_option linter.unusedVariables false
theorem sumTo_zero {z : Nat → Int} : ∀ {n : Nat}, (∀ j, j < n → z j = 0) → sumTo z n = 0
  | 0, _ => rfl
  | n + 1, h => by simp only [sumTo]; rw [sumTo_zero (n := n) fun j hj => h j (by omega), h n (by omega)]; rfl
end Go.Proofs.YtbcacebifpagpaeGreat
namespace Go.Proofs.YtbcacebifpagpaeGreat
open Go.RowKit
set_option linter.unusedVariables false
theorem goods_no {p : Pl} {s : St} {g : Nat} (h : wrongGood p s g = false) : sumTo (fun i => (s.on.r i).z g) s.on.n = s.si.z g - s.so.z g + s.sf.z g ∧ ∀ b, b < p.nb → 0 ≤ availZ s b g := by
  rw [wrongGood_eq, Bool.or_eq_false_iff] at h
  refine ⟨by simpa using h.1, fun b hb => ?_⟩
  have := anyB_false h.2 b hb
  simpa using this
theorem goods_mk {p : Pl} {s : St} {g : Nat} (h1 : sumTo (fun i => (s.on.r i).z g) s.on.n = s.si.z g - s.so.z g + s.sf.z g) (h2 : ∀ b, b < p.nb → 0 ≤ availZ s b g) : wrongGood p s g = false := by
  rw [wrongGood_eq, Bool.or_eq_false_iff]
  exact ⟨by simp [h1], anyB_no fun b hb => by have := h2 b hb; simpa using this⟩
section
variable {p : Pl} {s : St} {b g : Nat} {n : Int}
end
section
variable {p : Pl} {s : St} {l : Hs}
end
end Go.Proofs.YtbcacebifpagpaeGreat
namespace Go.Proofs.YtbcacebifpagpaeGreat
open Go.RowKit
set_option linter.unusedVariables false
theorem sumTo_at {z z' : Nat → Int} {m : Nat} {n : Int} {k : Nat} (hm : m < k) (h : ∀ i, i < k → z' i = z i + if i = m then n else 0) : sumTo z' k = sumTo z k + n :=
  sumTo_put hm fun i hi => by rw [h i hi]; by_cases e : i = m <;> simp [e]
theorem sumTo_same {z z' : Nat → Int} {k : Nat} (h : ∀ i, i < k → z' i = z i) : sumTo z' k = sumTo z k := sumTo_congr h
def lineHeld (x : St) (b g : Int) (k : Nat) (o l : Nat) : Int := if ((x.os.z o).ls.z l).o = g then keptV k x.hs.z o l b else 0
def heldSum (x : St) (b g : Int) (k : Nat) : Int := sumTo (fun o => sumTo (fun l => lineHeld x b g k o l) (x.os.z o).ls.n) x.os.n
theorem heldTo_sum {p : Pl} {x : St} (b g : Int) : ∀ k, (∀ j, j < k → homeless p x (x.hs.z j) = false) → anyB k (badH x.hs.z) = false → heldTo x b g k = heldSum x b g k
  | 0, _, _ => by
    unfold heldSum
    rw [sumTo_zero fun o _ => sumTo_zero fun l _ => by unfold lineHeld keptV; simp]
    rfl
  | k + 1, h, hr => by
    simp only [heldTo]
    rw [heldTo_sum b g k (fun j hj => h j (by omega)) (right_pred hr)]
    obtain ⟨h1, h2, h3⟩ := homeless_no (h k (by omega))
    have key : ∀ o l, lineHeld x b g (k + 1) o l = lineHeld x b g k o l + if o = (x.hs.z k).o.toNat ∧ l = (x.hs.z k).l.toNat then (if (x.hs.z k).b = b ∧ goodH x (x.hs.z k) = g then (x.hs.z k).n else 0) else 0 := fun o l => by
      unfold lineHeld
      rw [keptV_succ hr]
      by_cases hol : o = (x.hs.z k).o.toNat ∧ l = (x.hs.z k).l.toNat
      · rw [if_pos hol]
        obtain ⟨rfl, rfl⟩ := hol
        have e1 : (((x.hs.z k).o.toNat : Nat) : Int) = (x.hs.z k).o := by omega
        have e2 : (((x.hs.z k).l.toNat : Nat) : Int) = (x.hs.z k).l := by omega
        rw [e1, e2]
        by_cases hg : goodH x (x.hs.z k) = g
        · have hg' : ((x.os.z (x.hs.z k).o.toNat).ls.z (x.hs.z k).l.toNat).o = g := hg
          rw [if_pos hg', if_pos hg']
          by_cases hb : (x.hs.z k).b = b
          · have hm : matchH (x.hs.z k) (x.hs.z k).o (x.hs.z k).l b = true := by rw [← hb]; exact matchH_self _
            have e3 : (if (x.hs.z k).b = b ∧ goodH x (x.hs.z k) = g then (x.hs.z k).n else 0) = (x.hs.z k).n := if_pos ⟨hb, hg⟩
            rw [hm, e3, if_pos rfl]
          · have hm : matchH (x.hs.z k) (x.hs.z k).o (x.hs.z k).l b = false := by
              cases hm : matchH (x.hs.z k) (x.hs.z k).o (x.hs.z k).l b
              · rfl
              · exact absurd (matchH_true hm).2.2 hb
            have e3 : (if (x.hs.z k).b = b ∧ goodH x (x.hs.z k) = g then (x.hs.z k).n else 0) = 0 := if_neg (fun e => hb e.1)
            rw [hm, e3]
            simp
        · have hg' : ¬ ((x.os.z (x.hs.z k).o.toNat).ls.z (x.hs.z k).l.toNat).o = g := hg
          rw [if_neg hg', if_neg hg', if_neg (fun e => hg e.2)]
          rfl
      · rw [if_neg hol]
        have : matchH (x.hs.z k) o l b = false := by
          cases hm : matchH (x.hs.z k) o l b
          · rfl
          · have := matchH_true hm
            exact absurd ⟨by omega, by omega⟩ hol
        rw [this]
        simp
    unfold heldSum
    refine (sumTo_at h1.2 fun o ho => ?_).symm
    by_cases hoo : o = (x.hs.z k).o.toNat
    · rw [if_pos hoo]
      subst hoo
      exact sumTo_at h2.2 fun l hl => by
        rw [key]
        by_cases hll : l = (x.hs.z k).l.toNat
        · rw [if_pos ⟨rfl, hll⟩, if_pos hll]
        · rw [if_neg (fun e => hll e.2), if_neg hll]
    · rw [if_neg hoo, Int.add_zero]
      exact sumTo_same fun l hl => by rw [key, if_neg (fun e => hoo e.1)]; omega
def lessL (x : Hd) (n : Int) : Hd := ⟨x.o, x.l, x.b, x.n - n⟩
structure Took (s : St) (o l : Nat) (n : Int) (t : Tk) (x : St) : Prop where
  on : x.on.n = s.on.n ∧ ∀ i, i < x.on.n → (x.on.r i).n = (s.on.r i).n ∧ ∀ j, j < (x.on.r i).n → (x.on.r i).z j = (s.on.r i).z j
  os : x.os.n = s.os.n ∧ ∀ i, i < x.os.n → (x.os.z i).k = (s.os.z i).k ∧ (x.os.z i).ls.n = (s.os.z i).ls.n ∧ ∀ j, j < (x.os.z i).ls.n → (x.os.z i).ls.z j = if i = o ∧ j = l then lessL ((s.os.z i).ls.z j) (n - t.left) else (s.os.z i).ls.z j
  right : anyB x.hs.n (badH x.hs.z) = false
  kept : ∀ a b c : Int, keptV x.hs.n x.hs.z a b c = keptV s.hs.n s.hs.z a b c + if a = o ∧ b = l then t.took c else 0
  ms : x.ms.n = s.ms.n ∧ ∀ j, j < x.ms.n → x.ms.z j = s.ms.z j
  si : x.si.n = s.si.n ∧ ∀ j, j < x.si.n → x.si.z j = s.si.z j
  so : x.so.n = s.so.n ∧ ∀ j, j < x.so.n → x.so.z j = s.so.z j
  sf : x.sf.n = s.sf.n ∧ ∀ j, j < x.sf.n → x.sf.z j = s.sf.z j
theorem Took.same {s : St} {o l : Nat} {n : Int} {t : Tk} {x y : St} (h : Took s o l n t x) (k : Took s o l n t y) : SameT x y := by
  have ho : ∀ i, i < x.os.n → i < y.os.n := fun i hi => by rw [k.os.1, ← h.os.1]; exact hi
  refine ⟨⟨h.on.1.trans k.on.1.symm, fun i hi => ?_⟩, ⟨h.os.1.trans k.os.1.symm, fun i hi => ?_⟩, right_ext h.right k.right fun a b c => (h.kept a b c).trans (k.kept a b c).symm, ⟨h.ms.1.trans k.ms.1.symm, fun j hj => (h.ms.2 j hj).trans (k.ms.2 j (by rw [k.ms.1, ← h.ms.1]; exact hj)).symm⟩, ⟨h.si.1.trans k.si.1.symm, fun j hj => (h.si.2 j hj).trans (k.si.2 j (by rw [k.si.1, ← h.si.1]; exact hj)).symm⟩, ⟨h.so.1.trans k.so.1.symm, fun j hj => (h.so.2 j hj).trans (k.so.2 j (by rw [k.so.1, ← h.so.1]; exact hj)).symm⟩, ⟨h.sf.1.trans k.sf.1.symm, fun j hj => (h.sf.2 j hj).trans (k.sf.2 j (by rw [k.sf.1, ← h.sf.1]; exact hj)).symm⟩⟩
  · have a := h.on.2 i hi
    have b := k.on.2 i (by rw [k.on.1, ← h.on.1]; exact hi)
    exact ⟨a.1.trans b.1.symm, fun j hj => (a.2 j hj).trans (b.2 j (by rw [b.1, ← a.1]; exact hj)).symm⟩
  · have a := h.os.2 i hi
    have b := k.os.2 i (ho i hi)
    exact ⟨a.1.trans b.1.symm, a.2.1.trans b.2.1.symm, fun j hj => (a.2.2 j hj).trans (b.2.2 j (by rw [b.2.1, ← a.2.1]; exact hj)).symm⟩
section
variable {p : Pl} {s x : St} {o l : Nat} {n : Int} {t : Tk}
theorem Took.line (h : Took s o l n t x) {i j : Nat} (hi : i < s.os.n) (hj : j < (s.os.z i).ls.n) : (x.os.z i).ls.z j = if i = o ∧ j = l then lessL ((s.os.z i).ls.z j) (n - t.left) else (s.os.z i).ls.z j := by
  have a := h.os.2 i (by rw [h.os.1]; exact hi)
  exact a.2.2 j (by rw [a.2.1]; exact hj)
theorem Took.good (h : Took s o l n t x) {i j : Nat} (hi : i < s.os.n) (hj : j < (s.os.z i).ls.n) : ((x.os.z i).ls.z j).o = ((s.os.z i).ls.z j).o := by
  rw [h.line hi hj]
  split <;> rfl
theorem Took.keptS (h : Took s o l n t x) (f : Formed p s) (hsum : sumTo (fun b => t.took b) 6 = n - t.left) (a b : Int) : Go.Proofs.YtbcacebifpagpaeGreat.keptS x.hs.z a b x.hs.n = Go.Proofs.YtbcacebifpagpaeGreat.keptS s.hs.z a b s.hs.n + if a = o ∧ b = l then n - t.left else 0 := by
  rw [← kept_eq x.hs.z a b _ h.right, ← kept_eq s.hs.z a b _ f.hold]
  by_cases hab : a = o ∧ b = l
  · rw [if_pos hab, ← hsum]
    have : ∀ m, sumTo (fun c => keptV x.hs.n x.hs.z a b c) m = sumTo (fun c => keptV s.hs.n s.hs.z a b c) m + sumTo (fun c => t.took c) m := fun m => by
      induction m with
      | zero => rfl
      | succ m ih => simp only [sumTo]; rw [ih, h.kept, if_pos hab]; omega
    exact this 6
  · rw [if_neg hab, Int.add_zero]
    exact sumTo_same fun c _ => by rw [h.kept, if_neg hab]; omega
theorem Took.home (h : Took s o l n t x) (f : Formed p s) (ho : o < s.os.n) (hl : l < (s.os.z o).ls.n) (hin : ∀ b, ¬ t.took b = 0 → 0 ≤ b ∧ b < p.nb) : ∀ i, i < x.hs.n → homeless p x (x.hs.z i) = false := by
  intro i hi
  have fx := fineH_true (right_fine h.right i hi)
  have e := (kept_at h.right hi (matchH_self (x.hs.z i))).1
  rw [h.kept] at e
  have lens : ∀ a, a < s.os.n → (x.os.z a).ls.n = (s.os.z a).ls.n := fun a ha => (h.os.2 a (by rw [h.os.1]; exact ha)).2.1
  by_cases h0 : keptV s.hs.n s.hs.z (x.hs.z i).o (x.hs.z i).l (x.hs.z i).b = 0
  · by_cases hol : (x.hs.z i).o = o ∧ (x.hs.z i).l = l
    · rw [if_pos hol, h0] at e
      have hb := hin (x.hs.z i).b (by omega)
      have eo : (x.hs.z i).o.toNat = o := by omega
      have el : (x.hs.z i).l.toNat = l := by omega
      refine homeless_mk ⟨by omega, by rw [h.os.1]; omega⟩ ⟨by omega, ?_⟩ hb
      rw [eo, el, lens o ho]
      exact hl
    · rw [if_neg hol, h0] at e
      omega
  · obtain ⟨q1, q2, -⟩ := kept_pos f.hold h0
    obtain ⟨a1, a2, a3⟩ := homeless_no (f.home _ q1)
    obtain ⟨m1, m2, m3⟩ := matchH_true q2
    rw [m1, m2] at a2
    rw [m1] at a1
    rw [m3] at a3
    exact homeless_mk ⟨a1.1, by rw [h.os.1]; exact a1.2⟩ ⟨a2.1, by rw [lens _ a1.2]; exact a2.2⟩ a3
theorem Took.num (h : Took s o l n t x) (f : Formed p s) {b g : Nat} (hb : b < p.nb) (hg : g < p.ns) : (x.on.r b).z g = (s.on.r b).z g := by
  have hb' : b < s.on.n := by rw [f.sh.n]; exact hb
  have r := h.on.2 b (by rw [h.on.1]; exact hb')
  exact r.2 g (by rw [r.1, f.sh.len b hb']; exact hg)
theorem Took.formed (h : Took s o l n t x) (f : Formed p s) (ho : o < s.os.n) (hl : l < (s.os.z o).ls.n) (hin : ∀ b, ¬ t.took b = 0 → 0 ≤ b ∧ b < p.nb) (h0 : 0 ≤ n - t.left) (h1 : n - t.left ≤ ((s.os.z o).ls.z l).n) : Formed p x := by
  have hp := (rightS f.sh0).1
  have hs : RightS p x.on := ⟨f.sh.pl, h.on.1.trans f.sh.n, fun i hi => (h.on.2 i hi).1.trans (f.sh.len i (by rw [← h.on.1]; exact hi)), fun i hi j hj => by
    have hi' : i < s.on.n := by rw [← h.on.1]; exact hi
    rw [h.num f (by rw [← f.sh.n]; exact hi') hj]
    exact f.sh.num i hi' j hj⟩
  have oo : ∀ i, i < x.os.n → i < s.os.n := fun i hi => by rw [← h.os.1]; exact hi
  refine ⟨hs, shelfE_mk hp hs, by rw [h.os.1]; exact f.os4, by rw [h.ms.1]; exact f.ms8, fun i hi => by rw [(h.os.2 i hi).2.1]; exact f.lns i (oo i hi), fun i hi => by rw [(h.os.2 i hi).1]; exact f.kind i (oo i hi), fun i hi j hj => ?_, h.right, h.home f ho hl hin, fun i hi => ?_, h.si.1.trans f.sin, h.so.1.trans f.son, h.sf.1.trans f.sfn, fun j hj => ?_, fun j hj => ?_, fun j hj => ?_⟩
  · have hj' : j < (s.os.z i).ls.n := by rw [← (h.os.2 i hi).2.1]; exact hj
    rw [(h.os.2 i hi).2.2 j hj]
    by_cases hij : i = o ∧ j = l
    · rw [if_pos hij]
      obtain ⟨rfl, rfl⟩ := hij
      obtain ⟨b1, b2, b3, b4⟩ := badLine_no (f.line i (oo i hi) j hj')
      unfold badLine lessL
      rw [inB_mk (by show _ ∧ _; dsimp only; omega), inB_mk (by show _ ∧ _; dsimp only; omega), inB_mk (by show _ ∧ _; dsimp only; omega), inB_mk (by show _ ∧ _; dsimp only; omega)]
      rfl
    · rw [if_neg hij]
      exact f.line i (oo i hi) j hj'
  · rw [h.ms.2 i hi]
    exact f.move i (by rw [← h.ms.1]; exact hi)
  · rw [h.si.2 j (by rw [h.si.1, f.sin]; exact hj)]; exact f.sib j hj
  · rw [h.so.2 j (by rw [h.so.1, f.son]; exact hj)]; exact f.sob j hj
  · rw [h.sf.2 j (by rw [h.sf.1, f.sfn]; exact hj)]; exact f.sfb j hj
theorem Took.held (h : Took s o l n t x) (f : Formed p s) (fx : Formed p x) (ho : o < s.os.n) (hl : l < (s.os.z o).ls.n) (b g : Int) : heldTo x b g x.hs.n = heldTo s b g s.hs.n + if ((s.os.z o).ls.z l).o = g then t.took b else 0 := by
  rw [heldTo_sum b g _ fx.home fx.hold, heldTo_sum b g _ f.home f.hold]
  have lens : ∀ a, a < s.os.n → (x.os.z a).ls.n = (s.os.z a).ls.n := fun a ha => (h.os.2 a (by rw [h.os.1]; exact ha)).2.1
  have key : ∀ i, i < s.os.n → ∀ j, j < (s.os.z i).ls.n → lineHeld x b g x.hs.n i j = lineHeld s b g s.hs.n i j + if i = o ∧ j = l then (if ((s.os.z o).ls.z l).o = g then t.took b else 0) else 0 := fun i hi j hj => by
    unfold lineHeld
    rw [h.good hi hj, h.kept]
    by_cases hij : i = o ∧ j = l
    · have e1 : (if ((i : Nat) : Int) = o ∧ ((j : Nat) : Int) = l then t.took b else 0) = t.took b := if_pos (by omega)
      rw [e1, if_pos hij]
      obtain ⟨rfl, rfl⟩ := hij
      by_cases hg : ((s.os.z i).ls.z j).o = g <;> simp [hg]
    · have e1 : (if ((i : Nat) : Int) = o ∧ ((j : Nat) : Int) = l then t.took b else 0) = 0 := if_neg (by omega)
      rw [e1, if_neg hij]
      by_cases hg : ((s.os.z i).ls.z j).o = g <;> simp [hg]
  unfold heldSum
  rw [h.os.1]
  refine sumTo_at ho fun i hi => ?_
  rw [lens i hi]
  by_cases hio : i = o
  · subst hio
    rw [if_pos rfl]
    exact sumTo_at hl fun j hj => by
      rw [key i hi j hj]
      by_cases hjl : j = l
      · rw [if_pos ⟨rfl, hjl⟩, if_pos hjl]
      · rw [if_neg (fun e => hjl e.2), if_neg hjl]
  · rw [if_neg hio, Int.add_zero]
    exact sumTo_same fun j hj => by rw [key i hi j hj, if_neg (fun e => hio e.1), Int.add_zero]
theorem Took.avail (h : Took s o l n t x) (f : Formed p s) (fx : Formed p x) (ho : o < s.os.n) (hl : l < (s.os.z o).ls.n) {b g : Nat} (hb : b < p.nb) (hg : g < p.ns) : availZ x b g = availZ s b g - if ((s.os.z o).ls.z l).o = g then t.took b else 0 := by
  unfold availZ
  rw [h.num f hb hg, h.held f fx ho hl, h.ms.1, fromTo_eq fun j hj => h.ms.2 j (by rw [h.ms.1]; exact hj)]
  omega
theorem Took.isRight (h : Took s o l n t x) (r : RightT p s) (ho : o < s.os.n) (hl : l < (s.os.z o).ls.n) (hk : (s.os.z o).k = 1) (hin : ∀ b, ¬ t.took b = 0 → 0 ≤ b ∧ b < p.nb) (h0 : 0 ≤ n - t.left) (h1 : n - t.left ≤ ((s.os.z o).ls.z l).n)
    (hav : ∀ b : Nat, b < p.nb → t.took b ≤ availZ s b ((s.os.z o).ls.z l).o.toNat) (ht0 : ∀ b, 0 ≤ t.took b) (hsum : sumTo (fun b => t.took b) 6 = n - t.left) : RightT p x := by
  have f := r.fm
  have fx := h.formed f ho hl hin h0 h1
  refine ⟨fx, fun g hg => ?_, fun i hi => ?_⟩
  · obtain ⟨a1, a2⟩ := goods_no (r.goods g hg)
    refine goods_mk ?_ fun b hb => ?_
    · have e : sumTo (fun i => (x.on.r i).z g) x.on.n = sumTo (fun i => (s.on.r i).z g) s.on.n := by
        rw [h.on.1]
        exact sumTo_congr fun i hi => h.num f (by rw [← f.sh.n]; exact hi) hg
      rw [e, a1, h.si.2 g (by rw [h.si.1, f.sin]; exact hg), h.so.2 g (by rw [h.so.1, f.son]; exact hg), h.sf.2 g (by rw [h.sf.1, f.sfn]; exact hg)]
    · rw [h.avail f fx ho hl hb hg]
      have a3 := a2 b hb
      by_cases hgg : ((s.os.z o).ls.z l).o = g
      · rw [if_pos hgg]
        have := hav b hb
        rw [hgg] at this
        have e : ((g : Nat) : Int).toNat = g := rfl
        rw [e] at this
        omega
      · rw [if_neg hgg]; omega
  · have hi' : i < s.os.n := by rw [← h.os.1]; exact hi
    have w := r.orders i hi'
    obtain ⟨e1, e2, e3⟩ := h.os.2 i hi
    have e4 := fun j hj => h.line (i := i) (j := j) hi' hj
    unfold wrongOrder at w ⊢
    rw [Bool.or_eq_false_iff] at w ⊢
    rw [e1, e2]
    refine ⟨?_, anyB_no fun j hj => ?_⟩
    · rw [← w.1]
      congr 2
      refine anyB_congr fun j hj => ?_
      rw [e4 j hj]
      split <;> rfl
    · have wj := anyB_false w.2 j hj
      rw [h.keptS f hsum, e4 j hj]
      by_cases hij : i = o ∧ j = l
      · obtain ⟨rfl, rfl⟩ := hij
        rw [if_pos ⟨rfl, rfl⟩, if_pos ⟨rfl, rfl⟩]
        rw [hk] at wj ⊢
        unfold wrongL at wj ⊢
        simp only [lessL] at wj ⊢
        rw [if_neg (by decide), if_neg (by decide)] at wj ⊢
        simp only [Bool.not_eq_false', beq_iff_eq] at wj ⊢
        omega
      · rw [if_neg hij, if_neg (fun e => hij ⟨by omega, by omega⟩), Int.add_zero]
        exact wj
end
end Go.Proofs.YtbcacebifpagpaeGreat
namespace Go.Proofs.YtbcacebifpagpaeGreat
open Go.RowKit
set_option linter.unusedVariables false
def missL (s : St) (order line : Int) : Bool := !(inB order 0 ((s.os.n : Int) - 1)) || !(inB line 0 (((s.os.z order.toNat).ls.n : Int) - 1))
def allocR (p : Pl) (s : St) (order line n but : Int) : Bool := missL s order line || !(inB n 0 200) || ((but != -1) && !(inB but 0 ((p.nb : Int) - 1)))
def lineAt (s : St) (order line : Int) : Hd := (s.os.z order.toNat).ls.z line.toNat
def allocE (p : Pl) (s : St) (order line n but : Int) : Int :=
  if stateE p s = 0 then (if allocR p s order line n but then 3 else if (s.os.z order.toNat).k = 1 then (if (lineAt s order line).n < n then 3 else 0) else 6) else stateE p s
def tkOf (p : Pl) (s : St) (good : Int) (n but : Int) : Tk := Tk.go (fun b => availZ s b.toNat good.toNat) n (wayT p but)
def allocL (p : Pl) (s : St) (order line n but : Int) : Int := if allocE p s order line n but = 0 then (tkOf p s (lineAt s order line).o n but).left else 0
def AllocOK (p : Pl) (s : St) (order line n but : Int) (x : St) : Prop := (allocE p s order line n but = 0 → Took s order.toNat line.toNat n (tkOf p s (lineAt s order line).o n but) x) ∧ (¬ allocE p s order line n but = 0 → NoneS x)
section
variable {p : Pl} {s : St} {order line n but : Int}
theorem allocE_state (h : ¬ stateE p s = 0) : allocE p s order line n but = stateE p s := by unfold allocE; rw [if_neg h]
theorem allocE_range (h : stateE p s = 0) (h1 : allocR p s order line n but = true) : allocE p s order line n but = 3 := by unfold allocE; rw [if_pos h, if_pos h1]
theorem allocE_done (h : stateE p s = 0) (h1 : allocR p s order line n but = false) (h2 : ¬ (s.os.z order.toNat).k = 1) : allocE p s order line n but = 6 := by unfold allocE; rw [if_pos h, h1, if_neg h2]; rfl
theorem allocE_back (h : stateE p s = 0) (h1 : allocR p s order line n but = false) (h2 : (s.os.z order.toNat).k = 1) (h3 : (lineAt s order line).n < n) : allocE p s order line n but = 3 := by unfold allocE; rw [if_pos h, h1, if_pos h2, if_pos h3]; rfl
theorem allocE_ok (h : stateE p s = 0) (h1 : allocR p s order line n but = false) (h2 : (s.os.z order.toNat).k = 1) (h3 : ¬ (lineAt s order line).n < n) : allocE p s order line n but = 0 := by unfold allocE; rw [if_pos h, h1, if_pos h2, if_neg h3]; rfl
theorem allocR_no (h : allocR p s order line n but = false) : (0 ≤ order ∧ order.toNat < s.os.n) ∧ (0 ≤ line ∧ line.toNat < (s.os.z order.toNat).ls.n) ∧ (0 ≤ n ∧ n ≤ 200) ∧ (but = -1 ∨ 0 ≤ but ∧ but < p.nb) := by
  simp only [allocR, missL, Bool.or_eq_false_iff, Bool.not_eq_false', Bool.and_eq_false_iff, bne_eq_false_iff_eq] at h
  obtain ⟨⟨⟨a, b⟩, c⟩, d⟩ := h
  have a := inB_true a
  have b := inB_true b
  have c := inB_true c
  refine ⟨by omega, by omega, c, ?_⟩
  rcases d with d | d
  · exact Or.inl d
  · have := inB_true d; exact Or.inr (by omega)
structure AllocIn (p : Pl) (s : St) (order line n but : Int) : Prop where
  st : stateE p s = 0
  o0 : 0 ≤ order
  on : order.toNat < s.os.n
  l0 : 0 ≤ line
  ln : line.toNat < (s.os.z order.toNat).ls.n
  n0 : 0 ≤ n
  n2 : n ≤ 200
  bt : but = -1 ∨ 0 ≤ but ∧ but < p.nb
  kd : (s.os.z order.toNat).k = 1
  bk : n ≤ (lineAt s order line).n
theorem allocIn (h : allocE p s order line n but = 0) : AllocIn p s order line n but := by
  by_cases h0 : stateE p s = 0
  · cases h1 : allocR p s order line n but
    · obtain ⟨a, b, c, d⟩ := allocR_no h1
      by_cases h2 : (s.os.z order.toNat).k = 1
      · by_cases h3 : (lineAt s order line).n < n
        · rw [allocE_back h0 h1 h2 h3] at h; exact absurd h (by decide)
        · exact ⟨h0, a.1, a.2, b.1, b.2, c.1, c.2, d, h2, by omega⟩
      · rw [allocE_done h0 h1 h2] at h; exact absurd h (by decide)
    · rw [allocE_range h0 h1] at h; exact absurd h (by decide)
  · rw [allocE_state h0] at h; exact absurd h h0
theorem AllocIn.good (h : AllocIn p s order line n but) : 0 ≤ (lineAt s order line).o ∧ (lineAt s order line).o < p.ns := (badLine_no ((rightT h.st).fm.line _ h.on _ h.ln)).1
theorem AllocIn.way (h : AllocIn p s order line n but) : ∀ x, x ∈ wayT p but → 0 ≤ x ∧ x < p.nb := fun x hx => way_mem (wayT_mem.1 hx).1
theorem AllocIn.tk (h : AllocIn p s order line n but) {l : List Int} (hl : l.Pairwise (fun x y => ¬ x = y)) (hm : ∀ x, x ∈ l → 0 ≤ x ∧ x < p.nb) : TkOK (fun b => availZ s b.toNat (lineAt s order line).o.toNat) n l (Tk.go (fun b => availZ s b.toNat (lineAt s order line).o.toNat) n l) := by
  have r := rightT h.st
  have hg := h.good
  refine tkOK h.n0 hl (fun x hx => ?_) (fun x hx => ?_)
  · have := hm x hx
    exact (goods_no (r.goods _ (by omega))).2 _ (by omega)
  · have := hm x hx
    have := r.fm.sh.pl.nb6
    omega
theorem Took.rightAt {x : St} {l : List Int} {t : Tk} (h : AllocIn p s order line n but) (hm : ∀ x, x ∈ l → 0 ≤ x ∧ x < p.nb) (k : TkOK (fun b => availZ s b.toNat (lineAt s order line).o.toNat) n l t) (T : Took s order.toNat line.toNat n t x) : RightT p x := by
  have r := rightT h.st
  have hb := h.bk
  have hl0 := k.left0
  have hl1 := k.leftn
  refine T.isRight r h.on h.ln h.kd (fun b hb => ?_) (by omega) (by unfold lineAt at hb; omega) (fun b hb => ?_) k.took0 k.sum
  · apply Classical.byContradiction
    intro hc
    refine hb (k.other b fun hbl => hc ?_)
    exact hm b hbl
  · by_cases hbl : ((b : Nat) : Int) ∈ l
    · exact k.had b hbl
    · rw [k.other b hbl]
      have hg := h.good
      exact (goods_no (r.goods _ (by unfold lineAt at hg; omega))).2 b hb
end
end Go.Proofs.YtbcacebifpagpaeGreat
namespace Go.Proofs.YtbcacebifpagpaeGreat
open Go.RowKit
set_option linter.unusedVariables false
def setHd (x : Hd) (c : Nat) (v : Int) : Hd := if c = 0 then ⟨v, x.l, x.b, x.n⟩ else if c = 1 then ⟨x.o, v, x.b, x.n⟩ else if c = 2 then ⟨x.o, x.l, v, x.n⟩ else ⟨x.o, x.l, x.b, v⟩
def setLn (h : Hs) (j c : Nat) (v : Int) : Hs := ⟨h.a, h.n, h.c, fun i => if i = j then setHd (h.z i) c v else h.z i⟩
def setOd (os : Os) (o l c : Nat) (v : Int) : Os := ⟨os.a, os.n, os.c, fun i => if i = o then ⟨(os.z i).k, setLn (os.z i).ls l c v⟩ else os.z i⟩
def setLine (s : St) (o l c : Nat) (v : Int) : St := ⟨s.on, setOd s.os o l c v, s.hs, s.ms, s.si, s.so, s.sf⟩
def withHolds (s : St) (h : Hs) : St := ⟨s.on, s.os, h, s.ms, s.si, s.so, s.sf⟩
theorem flatH_at {n : Nat} {z : Nat → Hd} {i c : Nat} (hi : i < n) (hc : c < 4) : (flatH n z).getD (i * 4 + c) default = (hdCells (z i)).getD c default := by
  simp only [List.getD, flatH_get n z i c hi hc]
theorem setLn_flat {h : Hs} {j c : Nat} {v : Int} (hc : c < 4) (q : Nat) (hq : q < h.n * 4) :
    (if q = j * 4 + c then Value.int .i64 v else (flatH h.n h.z).getD q default) = (flatH h.n (setLn h j c v).z).getD q default := by
  have hd : q = q / 4 * 4 + q % 4 := by omega
  have hi : q / 4 < h.n := by omega
  have hm : q % 4 < 4 := by omega
  have e1 := flatH_at (z := h.z) hi hm
  have e2 := flatH_at (z := (setLn h j c v).z) hi hm
  rw [← hd] at e1 e2
  rw [e1, e2]
  show _ = (hdCells (if q / 4 = j then setHd (h.z (q / 4)) c v else h.z (q / 4))).getD (q % 4) default
  by_cases hj : q / 4 = j
  · rw [if_pos hj]
    by_cases hqc : q = j * 4 + c
    · rw [if_pos hqc]
      have : q % 4 = c := by omega
      rw [this]
      have hc4 : c = 0 ∨ c = 1 ∨ c = 2 ∨ c = 3 := by omega
      rcases hc4 with rfl | rfl | rfl | rfl <;> rfl
    · rw [if_neg hqc]
      have hc4 : c = 0 ∨ c = 1 ∨ c = 2 ∨ c = 3 := by omega
      have hm4 : q % 4 = 0 ∨ q % 4 = 1 ∨ q % 4 = 2 ∨ q % 4 = 3 := by omega
      rcases hc4 with rfl | rfl | rfl | rfl <;> rcases hm4 with hm | hm | hm | hm <;> first | (exfalso; omega) | (rw [hm]; rfl)
  · rw [if_neg hj, if_neg (by omega)]
theorem OwnO.setLine {A : Nat} {w : World} {s : Os} {o B : Nat} (h : OwnO A w s) (ho : o < s.n) (ha : (s.z o).ls.a = some ⟨B, 0, none⟩) (l c : Nat) (hc : c < 4) (v : Int) : OwnO A (w.setCell ⟨B, l * 4 + c, none⟩ (.int .i64 v)) (setOd s o l c v) := by
  obtain ⟨B', ha', hA, h1, h2, hb⟩ := h.lines o ho
  rw [ha] at ha'
  simp only [Option.some.injEq, Addr.mk.injEq, and_true] at ha'
  subst ha'
  have hz : ∀ i, (setOd s o l c v).z i = if i = o then ⟨(s.z i).k, setLn (s.z i).ls l c v⟩ else s.z i := fun _ => rfl
  have hcells : ∀ i, odCells ((setOd s o l c v).z i) = odCells (s.z i) := fun i => by
    rw [hz]
    by_cases hio : i = o
    · rw [if_pos hio]; rfl
    · rw [if_neg hio]
  have hla : ∀ i, ((setOd s o l c v).z i).ls.a = (s.z i).ls.a := fun i => by
    rw [hz]
    by_cases hio : i = o
    · rw [if_pos hio]; rfl
    · rw [if_neg hio]
  refine ⟨h.le, h.cap, fun hn => ?_, fun i hi => ?_, fun i j hij hj => by rw [hla, hla]; exact h.apart i j hij hj, h.room.set _ _ _⟩
  · obtain ⟨g, a1, a2, a3⟩ := h.list hn
    refine ⟨g, a1, a2, (a3.other (a := ⟨B, l * 4 + c, none⟩) (Blk.ne2 a3 hb (by decide)) _).congr fun j hj => ?_⟩
    show _ = (flatO s.n (setOd s o l c v).z).getD j default
    rw [flatO_congr fun i _ => hcells i]
  · rw [hz]
    by_cases hio : i = o
    · subst hio
      rw [if_pos rfl]
      exact ⟨B, ha, hA, h1, h2, (hb.set (l * 4 + c) (.int .i64 v)).congr fun q hq => setLn_flat hc q hq⟩
    · rw [if_neg hio]
      obtain ⟨C, a1, a2, a3, a4, a5⟩ := h.lines i hi
      refine ⟨C, a1, a2, a3, a4, a5.other (a := ⟨B, l * 4 + c, none⟩) (fun e => ?_) _⟩
      have e' : C = B := e
      subst e'
      rcases Nat.lt_or_gt_of_ne hio with hlt | hgt
      · exact h.apart i o hlt ho (a1.trans ha.symm)
      · exact h.apart o i hgt hi (ha.trans a1.symm)
theorem OwnS.setLine {A : Nat} {w : World} {s : St} {o B : Nat} (h : OwnS A w s) (ho : o < s.os.n) (ha : (s.os.z o).ls.a = some ⟨B, 0, none⟩) (l c : Nat) (hc : c < 4) (v : Int) : OwnS A (w.setCell ⟨B, l * 4 + c, none⟩ (.int .i64 v)) (Go.Proofs.YtbcacebifpagpaeGreat.setLine s o l c v) := by
  obtain ⟨B', ha', -, -, -, hb⟩ := h.os.lines o ho
  rw [ha] at ha'
  simp only [Option.some.injEq, Addr.mk.injEq, and_true] at ha'
  subst ha'
  refine ⟨?_, fun i hi => (h.rows i hi).other hb (by decide) _ _, h.rapart, h.os.setLine ho ha l c hc v, h.hs.other hb (by decide) _ _, h.ms.other hb (by decide) _ _, h.msr.set _ _ _, h.si.other hb (by decide) _ _, h.so.other hb (by decide) _ _, h.sf.other hb (by decide) _ _, h.aio, h.aif, h.aof, h.ari⟩
  obtain ⟨g, a0, a1, a2, a3, a4⟩ := h.on
  exact ⟨g, a0, a1, a2, a3, a4.other (a := ⟨B, l * 4 + c, none⟩) (Blk.ne2 a4 hb (by decide)) _⟩
theorem OwnS.withHolds {A : Nat} {w : World} {s : St} {h : Hs} (k : OwnS A w s) (hh : OwnH A 58 w h) : OwnS A w (Go.Proofs.YtbcacebifpagpaeGreat.withHolds s h) :=
  ⟨k.on, k.rows, k.rapart, k.os, hh, k.ms, k.msr, k.si, k.so, k.sf, k.aio, k.aif, k.aof, k.ari⟩
theorem OwnS.lineCell {A : Nat} {w : World} {s : St} {o l : Nat} (h : OwnS A w s) (ho : o < s.os.n) (hl : l < (s.os.z o).ls.n) : ∃ g B, s.os.a = some ⟨g, 0, none⟩ ∧ A ≤ g ∧ g < w.heap.size ∧ w.cell? ⟨g, o * 2 + 1, none⟩ = some (.slice (some ⟨B, 0, none⟩) (s.os.z o).ls.n (s.os.z o).ls.c) ∧ (s.os.z o).ls.a = some ⟨B, 0, none⟩ ∧ A ≤ B ∧ B < w.heap.size ∧ (s.os.z o).ls.n ≤ (s.os.z o).ls.c ∧ (s.os.z o).ls.c ≤ maxLen ∧ (∀ j, w.frozen? ⟨B, j, none⟩ = false) ∧
    w.cell? ⟨B, l * 4, none⟩ = some (.int .i64 ((s.os.z o).ls.z l).o) ∧ w.cell? ⟨B, l * 4 + 1, none⟩ = some (.int .i64 ((s.os.z o).ls.z l).l) ∧ w.cell? ⟨B, l * 4 + 2, none⟩ = some (.int .i64 ((s.os.z o).ls.z l).b) ∧ w.cell? ⟨B, l * 4 + 3, none⟩ = some (.int .i64 ((s.os.z o).ls.z l).n) := by
  obtain ⟨g, g1, g2, g3⟩ := h.os.list (by omega)
  obtain ⟨B, b1, b2, b3, b4, b5⟩ := h.os.lines o ho
  have c0 := g3.cell (j := o * 2 + 1) (by omega)
  rw [flatO_at (z := s.os.z) ho (show 1 < 2 by decide)] at c0
  have c1 : w.cell? ⟨g, o * 2 + 1, none⟩ = some (.slice (s.os.z o).ls.a (s.os.z o).ls.n (s.os.z o).ls.c) := c0
  rw [b1] at c1
  have d : ∀ c, c < 4 → w.cell? ⟨B, l * 4 + c, none⟩ = some ((hdCells ((s.os.z o).ls.z l)).getD c default) := fun c hc => by
    rw [← flatH_at (z := (s.os.z o).ls.z) hl hc]
    exact b5.cell (by omega)
  exact ⟨g, B, g1, g2, g3.lt, c1, b1, b2, b5.lt, b3, b4, fun j => b5.frozen j, d 0 (by decide), d 1 (by decide), d 2 (by decide), d 3 (by decide)⟩
theorem setLine_at {s : St} {o l c : Nat} {v : Int} (i j : Nat) : ((Go.Proofs.YtbcacebifpagpaeGreat.setLine s o l c v).os.z i).ls.z j = if i = o ∧ j = l then setHd ((s.os.z i).ls.z j) c v else (s.os.z i).ls.z j := by
  show (if i = o then (⟨(s.os.z i).k, setLn (s.os.z i).ls l c v⟩ : Od) else s.os.z i).ls.z j = _
  by_cases hi : i = o
  · rw [if_pos hi]
    show (if j = l then setHd ((s.os.z i).ls.z j) c v else (s.os.z i).ls.z j) = _
    by_cases hj : j = l
    · rw [if_pos hj, if_pos ⟨hi, hj⟩]
    · rw [if_neg hj, if_neg (fun e => hj e.2)]
  · rw [if_neg hi, if_neg (fun e => hi e.1)]
theorem setLine_k {s : St} {o l c : Nat} {v : Int} (i : Nat) : ((Go.Proofs.YtbcacebifpagpaeGreat.setLine s o l c v).os.z i).k = (s.os.z i).k := by
  show (if i = o then (⟨(s.os.z i).k, setLn (s.os.z i).ls l c v⟩ : Od) else s.os.z i).k = _
  by_cases hi : i = o
  · rw [if_pos hi]
  · rw [if_neg hi]
theorem setLine_n {s : St} {o l c : Nat} {v : Int} (i : Nat) : ((Go.Proofs.YtbcacebifpagpaeGreat.setLine s o l c v).os.z i).ls.n = (s.os.z i).ls.n ∧ ((Go.Proofs.YtbcacebifpagpaeGreat.setLine s o l c v).os.z i).ls.a = (s.os.z i).ls.a ∧ ((Go.Proofs.YtbcacebifpagpaeGreat.setLine s o l c v).os.z i).ls.c = (s.os.z i).ls.c := by
  show (if i = o then (⟨(s.os.z i).k, setLn (s.os.z i).ls l c v⟩ : Od) else s.os.z i).ls.n = _ ∧ (if i = o then (⟨(s.os.z i).k, setLn (s.os.z i).ls l c v⟩ : Od) else s.os.z i).ls.a = _ ∧ (if i = o then (⟨(s.os.z i).k, setLn (s.os.z i).ls l c v⟩ : Od) else s.os.z i).ls.c = _
  by_cases hi : i = o
  · rw [if_pos hi]; exact ⟨rfl, rfl, rfl⟩
  · rw [if_neg hi]; exact ⟨rfl, rfl, rfl⟩
end Go.Proofs.YtbcacebifpagpaeGreat
namespace Go.Proofs.YtbcacebifpagpaeGreat
open Go.RowKit
set_option linter.unusedVariables false
theorem sumTo_ge {z : Nat → Int} {m : Nat} : ∀ {k : Nat}, m < k → (∀ i, i < k → 0 ≤ z i) → z m ≤ sumTo z k
  | k + 1, hm, h => by
    simp only [sumTo]
    have h0 : 0 ≤ sumTo z k := by
      have : ∀ q, q ≤ k → 0 ≤ sumTo z q := fun q => by
        induction q with
        | zero => intro _; exact Int.le_refl _
        | succ q ih => intro hq; simp only [sumTo]; have := ih (by omega); have := h q (by omega); omega
      exact this k (Nat.le_refl _)
    by_cases hmk : m = k
    · subst hmk; omega
    · have := sumTo_ge (z := z) (m := m) (k := k) (by omega) (fun i hi => h i (by omega))
      have := h k (by omega)
      omega
theorem kept_le {n : Nat} {z : Nat → Hd} (hr : anyB n (badH z) = false) (o l : Int) {b : Nat} (hb : b < 6) : keptV n z o l b ≤ keptS z o l n := by
  rw [← kept_eq z o l n hr]
  exact sumTo_ge (z := fun b => keptV n z o l b) hb fun i _ => (keptV_bd (fun j hj => (fineH_true (right_fine hr j hj)).2.2.2) o l i).1
theorem line_sum {p : Pl} {x : St} (r : RightT p x) {i j : Nat} (hi : i < x.os.n) (hj : j < (x.os.z i).ls.n) (hk : (x.os.z i).k = 1) : ((x.os.z i).ls.z j).b + ((x.os.z i).ls.z j).n + keptS x.hs.z i j x.hs.n = ((x.os.z i).ls.z j).l ∧ ((x.os.z i).ls.z j).l ≤ 200 ∧ 0 ≤ ((x.os.z i).ls.z j).b := by
  have w := r.orders i hi
  unfold wrongOrder at w
  rw [Bool.or_eq_false_iff] at w
  have wj := anyB_false w.2 j hj
  rw [hk] at wj
  unfold wrongL at wj
  rw [if_neg (by decide), if_neg (by decide)] at wj
  simp only [Bool.not_eq_false', beq_iff_eq] at wj
  have b := badLine_no (r.fm.line i hi j hj)
  exact ⟨wj, by omega, by omega⟩
theorem Took.congr {s x : St} {o l : Nat} {n : Int} {t t' : Tk} (h : Took s o l n t x) (h1 : t'.left = t.left) (h2 : ∀ c, t'.took c = t.took c) : Took s o l n t' x :=
  ⟨h.on, ⟨h.os.1, fun i hi => ⟨(h.os.2 i hi).1, (h.os.2 i hi).2.1, fun j hj => by rw [h1]; exact (h.os.2 i hi).2.2 j hj⟩⟩, h.right, fun a b c => by rw [h2]; exact h.kept a b c, h.ms, h.si, h.so, h.sf⟩
theorem Took.stepZero {s x : St} {o l : Nat} {n : Int} {t : Tk} {av : Int → Int} {b : Int} (h : Took s o l n t x) (h0 : min t.left (av b) = 0) : Took s o l n (t.step av b) x :=
  h.congr (by show t.left - min t.left (av b) = t.left; omega) fun c => by
    show (t.took c + if c = b then min t.left (av b) else 0) = t.took c
    rw [h0]
    split <;> omega
def tookH (o l : Nat) (b m : Int) : Hd := ⟨o, l, b, m⟩
theorem Took.start {s : St} {o l : Nat} {n : Int} (hr : anyB s.hs.n (badH s.hs.z) = false) {x : St} (hx : SameT x s) : Took s o l n ⟨n, fun _ => 0⟩ x := by
  refine ⟨hx.on, ⟨hx.os.1, fun i hi => ⟨(hx.os.2 i hi).1, (hx.os.2 i hi).2.1, fun j hj => ?_⟩⟩, ?_, fun a b c => ?_, hx.ms, hx.si, hx.so, hx.sf⟩
  · rw [(hx.os.2 i hi).2.2 j hj]
    by_cases hij : i = o ∧ j = l
    · rw [if_pos hij]
      show _ = (⟨_, _, _, _ - (n - n)⟩ : Hd)
      rw [Int.sub_self, Int.sub_zero]
    · rw [if_neg hij]
  · rw [hx.hs.1, badH_congr fun j hj => hx.hs.2 j (by rw [hx.hs.1]; exact hj)]
    exact hr
  · rw [hx.hs.1, keptV_congr fun j hj => hx.hs.2 j (by rw [hx.hs.1]; exact hj)]
    show _ = _ + if _ then (0 : Int) else 0
    split <;> omega
section
variable {p : Pl} {s x : St} {order line n but : Int} {l : List Int} {t : Tk} {b : Int}
theorem Took.addE (h : AllocIn p s order line n but) (hm : ∀ x, x ∈ l → 0 ≤ x ∧ x < p.nb) (k : TkOK (fun b => availZ s b.toNat (lineAt s order line).o.toNat) n l t) (T : Took s order.toNat line.toNat n t x) (hb : 0 ≤ b ∧ b < p.nb) {m : Int} (hm0 : 0 < m) (hm1 : m ≤ t.left) :
    Go.Proofs.YtbcacebifpagpaeGreat.addE x.hs.n x.hs.z (tookH order.toNat line.toNat b m) = 0 := by
  have r := T.rightAt h hm k
  have nb6 := r.fm.sh.pl.nb6
  have ho : order.toNat < x.os.n := by rw [T.os.1]; exact h.on
  have e := T.os.2 order.toNat ho
  have hl : line.toNat < (x.os.z order.toNat).ls.n := by rw [e.2.1]; exact h.ln
  obtain ⟨a1, a2, a3⟩ := line_sum r ho hl (by rw [e.1]; exact h.kd)
  have e3 := e.2.2 line.toNat hl
  rw [if_pos ⟨rfl, rfl⟩] at e3
  have e4 : ((x.os.z order.toNat).ls.z line.toNat).n = (lineAt s order line).n - (n - t.left) := by rw [e3]; rfl
  have hbk := h.bk
  have hln := k.leftn
  obtain ⟨b', rfl⟩ := Int.eq_ofNat_of_zero_le hb.1
  have hkl := kept_le T.right order.toNat line.toNat (b := b') (by omega)
  have os4 := r.fm.os4
  have ls3 := (r.fm.lns _ ho).2
  have hf : fineH (tookH order.toNat line.toNat b' m) = true := by
    unfold fineH tookH
    have hk0 := (keptS_bd (z := x.hs.z) (order.toNat : Nat) (line.toNat : Nat) x.hs.n fun j hj => (fineH_true (right_fine T.right j hj)).2.2.2).1
    rw [inB_mk (by dsimp only; omega), inB_mk (by dsimp only; omega), inB_mk (by dsimp only; omega), inB_mk (by dsimp only; omega)]
    rfl
  rw [addE_of T.right hf, if_neg]
  show ¬ 200 < keptV x.hs.n x.hs.z (order.toNat : Nat) (line.toNat : Nat) b' + m
  omega
theorem Took.stepAdd {y : Hs} {av : Int → Int} (T : Took s order.toNat line.toNat n t x) (ho : order.toNat < s.os.n) (hl : line.toNat < (s.os.z order.toNat).ls.n) {m : Int} (hm : min t.left (av b) = m) (he : Go.Proofs.YtbcacebifpagpaeGreat.addE x.hs.n x.hs.z (tookH order.toNat line.toNat b m) = 0) (hy : AddOK x.hs.n x.hs.z (tookH order.toNat line.toNat b m) y) :
    Took s order.toNat line.toNat n (t.step av b) (withHolds (setLine x order.toNat line.toNat 3 (((x.os.z order.toNat).ls.z line.toNat).n - m)) y) := by
  obtain ⟨hr, hk⟩ := hy.right he
  refine ⟨T.on, ⟨T.os.1, fun i hi => ?_⟩, hr, fun a c d => ?_, T.ms, T.si, T.so, T.sf⟩
  · have hi' : i < x.os.n := hi
    have e := T.os.2 i hi'
    have n1 := (setLine_n (s := x) (o := order.toNat) (l := line.toNat) (c := 3) (v := ((x.os.z order.toNat).ls.z line.toNat).n - m) i).1
    refine ⟨(setLine_k i).trans e.1, n1.trans e.2.1, fun j hj => ?_⟩
    have hj' : j < (x.os.z i).ls.n := by rw [← n1]; exact hj
    show ((setLine x order.toNat line.toNat 3 (((x.os.z order.toNat).ls.z line.toNat).n - m)).os.z i).ls.z j = _
    rw [setLine_at, e.2.2 j hj']
    by_cases hij : i = order.toNat ∧ j = line.toNat
    · rw [if_pos hij, if_pos hij, if_pos hij]
      obtain ⟨rfl, rfl⟩ := hij
      have e3 := e.2.2 line.toNat hj'
      rw [if_pos ⟨rfl, rfl⟩] at e3
      rw [e3]
      show (⟨_, _, _, _ - (n - t.left) - m⟩ : Hd) = ⟨_, _, _, _ - (n - (t.left - min t.left (av b)))⟩
      rw [hm]
      congr 1
      omega
    · rw [if_neg hij, if_neg hij, if_neg hij]
  · show keptV y.n y.z a c d = _
    rw [hk, T.kept]
    show _ = _ + if _ then t.took d + (if d = b then min t.left (av b) else 0) else 0
    rw [hm]
    by_cases hac : a = order.toNat ∧ c = line.toNat
    · rw [if_pos hac, if_pos hac]
      by_cases hd : d = b
      · have : matchH (tookH order.toNat line.toNat b m) a c d = true := by
          unfold matchH tookH
          simp [hac, hd]
        rw [this, if_pos hd, if_pos rfl]
        show _ + m = _
        omega
      · have : matchH (tookH order.toNat line.toNat b m) a c d = false := by
          cases hq : matchH (tookH order.toNat line.toNat b m) a c d
          · rfl
          · exact absurd (matchH_true hq).2.2.symm hd
        rw [this, if_neg hd]
        simp
    · have : matchH (tookH order.toNat line.toNat b m) a c d = false := by
        cases hq : matchH (tookH order.toNat line.toNat b m) a c d
        · rfl
        · have := matchH_true hq
          exact absurd ⟨this.1.symm, this.2.1.symm⟩ hac
      rw [this, if_neg hac, if_neg hac]
      simp
end
end Go.Proofs.YtbcacebifpagpaeGreat
namespace Go.Proofs.YtbcacebifpagpaeGreat
open Go.RowKit
set_option linter.unusedVariables false
structure TakeIn (p : Pl) (s : St) (o l : Nat) (n : Int) : Prop where
  fm : Formed p s
  av : ∀ b, b < p.nb → 0 ≤ availZ s b ((s.os.z o).ls.z l).o.toNat
  on : o < s.os.n
  ln : l < (s.os.z o).ls.n
  n0 : 0 ≤ n
  bk : n ≤ ((s.os.z o).ls.z l).n
  sum : ((s.os.z o).ls.z l).n + keptS s.hs.z o l s.hs.n ≤ 200
def avT (s : St) (o l : Nat) (b : Int) : Int := availZ s b.toNat ((s.os.z o).ls.z l).o.toNat
section
variable {p : Pl} {s x : St} {o l : Nat} {n : Int} {L : List Int} {t : Tk}
theorem TakeIn.good (h : TakeIn p s o l n) : 0 ≤ ((s.os.z o).ls.z l).o ∧ ((s.os.z o).ls.z l).o < p.ns := (badLine_no (h.fm.line _ h.on _ h.ln)).1
theorem TakeIn.tk (h : TakeIn p s o l n) (hL : L.Pairwise (fun x y => ¬ x = y)) (hm : ∀ x, x ∈ L → 0 ≤ x ∧ x < p.nb) : TkOK (avT s o l) n L (Tk.go (avT s o l) n L) := by
  refine tkOK h.n0 hL (fun x hx => ?_) (fun x hx => ?_)
  · have := hm x hx
    exact h.av _ (by omega)
  · have := hm x hx
    have := h.fm.sh.pl.nb6
    omega
theorem TakeIn.inBins (hm : ∀ x, x ∈ L → 0 ≤ x ∧ x < p.nb) (k : TkOK (avT s o l) n L t) : ∀ b, ¬ t.took b = 0 → 0 ≤ b ∧ b < p.nb := fun b hb => by
  apply Classical.byContradiction
  intro hc
  exact hb (k.other b fun hbl => hc (hm b hbl))
theorem TakeIn.formed (h : TakeIn p s o l n) (hm : ∀ x, x ∈ L → 0 ≤ x ∧ x < p.nb) (k : TkOK (avT s o l) n L t) (T : Took s o l n t x) : Formed p x := by
  have h0 := k.left0
  have h1 := k.leftn
  have h2 := h.bk
  exact T.formed h.fm h.on h.ln (TakeIn.inBins hm k) (by omega) (by omega)
theorem TakeIn.availAt (h : TakeIn p s o l n) (hm : ∀ x, x ∈ L → 0 ≤ x ∧ x < p.nb) (k : TkOK (avT s o l) n L t) (T : Took s o l n t x) {b : Nat} (hb : b < p.nb) (hbL : ((b : Nat) : Int) ∉ L) : availZ x b ((s.os.z o).ls.z l).o.toNat = avT s o l b := by
  have hg := h.good
  rw [T.avail h.fm (h.formed hm k T) h.on h.ln hb (by omega), k.other b hbL]
  unfold avT
  rw [show ((b : Nat) : Int).toNat = b from rfl]
  split <;> omega
theorem TakeIn.addE (h : TakeIn p s o l n) (hm : ∀ x, x ∈ L → 0 ≤ x ∧ x < p.nb) (k : TkOK (avT s o l) n L t) (T : Took s o l n t x) {b : Int} (hb : 0 ≤ b ∧ b < p.nb) {m : Int} (hm0 : 0 < m) (hm1 : m ≤ t.left) :
    fineH (tookH o l b m) = true ∧ keptV x.hs.n x.hs.z o l b + m ≤ 200 ∧ Go.Proofs.YtbcacebifpagpaeGreat.addE x.hs.n x.hs.z (tookH o l b m) = 0 := by
  have fx := h.formed hm k T
  have nb6 := fx.sh.pl.nb6
  have os4 := h.fm.os4
  have ls3 := (h.fm.lns _ h.on).2
  have ho := h.on
  have hl := h.ln
  have e := T.keptS h.fm k.sum o l
  rw [if_pos ⟨rfl, rfl⟩] at e
  have hs := h.sum
  have hbk := h.bk
  have hln := k.leftn
  obtain ⟨b', rfl⟩ := Int.eq_ofNat_of_zero_le hb.1
  have hkl := kept_le T.right o l (b := b') (by omega)
  have hk0 := (keptS_bd (z := s.hs.z) o l s.hs.n fun j hj => (fineH_true (right_fine h.fm.hold j hj)).2.2.2).1
  have hf : fineH (tookH o l b' m) = true := by
    unfold fineH tookH
    rw [inB_mk (by dsimp only; omega), inB_mk (by dsimp only; omega), inB_mk (by dsimp only; omega), inB_mk (by dsimp only; omega)]
    rfl
  refine ⟨hf, by omega, ?_⟩
  rw [addE_of T.right hf, if_neg]
  show ¬ 200 < keptV x.hs.n x.hs.z o l b' + m
  omega
end
end Go.Proofs.YtbcacebifpagpaeGreat
namespace Go.Proofs.YtbcacebifpagpaeGreat
open Go.RowKit
set_option linter.unusedVariables false
theorem Tk.go_congr {av av' : Int → Int} {n : Int} : ∀ {L : List Int} {t : Tk}, (∀ b, b ∈ L → av b = av' b) → L.foldl (Tk.step av) t = L.foldl (Tk.step av') t
  | [], _, _ => rfl
  | b :: L, t, h => by
    rw [List.foldl_cons, List.foldl_cons, show Tk.step av t b = Tk.step av' t b by unfold Tk.step; rw [h b (by simp)]]
    exact Tk.go_congr (n := n) fun c hc => h c (by simp [hc])
theorem TakeIn.same {p : Pl} {x s : St} {o l : Nat} {n : Int} (h : TakeIn p s o l n) (k : SameT x s) : TakeIn p x o l n := by
  have ho : o < x.os.n := by rw [k.os.1]; exact h.on
  have e := k.os.2 o ho
  have hl : l < (x.os.z o).ls.n := by rw [e.2.1]; exact h.ln
  have e3 := e.2.2 l hl
  have hg := h.good
  refine ⟨k.formed h.fm, fun b hb => ?_, ho, hl, h.n0, by rw [e3]; exact h.bk, ?_⟩
  · rw [e3, k.avail h.fm hb (by omega)]
    exact h.av b hb
  · rw [e3, k.hs.1, keptS_congr _ _ fun j hj => k.hs.2 j (by rw [k.hs.1]; exact hj)]
    exact h.sum
theorem Took.base {x0 s x : St} {o l : Nat} {n : Int} {t : Tk} (k : SameT x0 s) (h : Took x0 o l n t x) : Took s o l n t x := by
  have r := k
  refine ⟨⟨h.on.1.trans k.on.1, fun i hi => ?_⟩, ⟨h.os.1.trans k.os.1, fun i hi => ?_⟩, h.right, fun a b c => ?_, ⟨h.ms.1.trans k.ms.1, fun j hj => (h.ms.2 j hj).trans (k.ms.2 j (by rw [← h.ms.1]; exact hj))⟩, ⟨h.si.1.trans k.si.1, fun j hj => (h.si.2 j hj).trans (k.si.2 j (by rw [← h.si.1]; exact hj))⟩, ⟨h.so.1.trans k.so.1, fun j hj => (h.so.2 j hj).trans (k.so.2 j (by rw [← h.so.1]; exact hj))⟩, ⟨h.sf.1.trans k.sf.1, fun j hj => (h.sf.2 j hj).trans (k.sf.2 j (by rw [← h.sf.1]; exact hj))⟩⟩
  · have a := h.on.2 i hi
    have b := k.on.2 i (by rw [← h.on.1]; exact hi)
    exact ⟨a.1.trans b.1, fun j hj => (a.2 j hj).trans (b.2 j (by rw [← a.1]; exact hj))⟩
  · have a := h.os.2 i hi
    have b := k.os.2 i (by rw [← h.os.1]; exact hi)
    refine ⟨a.1.trans b.1, a.2.1.trans b.2.1, fun j hj => ?_⟩
    rw [a.2.2 j hj, b.2.2 j (by rw [← a.2.1]; exact hj)]
  · rw [h.kept, k.hs.1, keptV_congr fun j hj => k.hs.2 j (by rw [k.hs.1]; exact hj)]
theorem tk_same {p : Pl} {x s : St} {o l : Nat} {n but : Int} (h : TakeIn p s o l n) (k : SameT x s) : Tk.go (avT x o l) n (wayT p but) = Tk.go (avT s o l) n (wayT p but) := by
  unfold Tk.go
  refine Tk.go_congr (n := n) fun b hb => ?_
  have ho : o < x.os.n := by rw [k.os.1]; exact h.on
  have e := k.os.2 o ho
  have hl : l < (x.os.z o).ls.n := by rw [e.2.1]; exact h.ln
  have hg := h.good
  have hw := way_mem (wayT_mem.1 hb).1
  unfold avT
  rw [e.2.2 l hl]
  exact k.avail h.fm (by omega) (by omega)
end Go.Proofs.YtbcacebifpagpaeGreat
namespace Go.Proofs.YtbcacebifpagpaeGreat
open Go.RowKit Go.Shelf Go.Sort
set_option linter.unusedVariables false
theorem none_same2 {s t : St} (a : NoneS s) (b : NoneS t) : SameT s t := by
  obtain ⟨a1, a2, a3, a4, a5, a6, a7⟩ := a
  obtain ⟨b1, b2, b3, b4, b5, b6, b7⟩ := b
  exact ⟨⟨by omega, fun i hi => absurd hi (by omega)⟩, ⟨by omega, fun i hi => absurd hi (by omega)⟩, ⟨by omega, fun j hj => absurd hj (by omega)⟩, ⟨by omega, fun j hj => absurd hj (by omega)⟩, ⟨by omega, fun j hj => absurd hj (by omega)⟩, ⟨by omega, fun j hj => absurd hj (by omega)⟩, ⟨by omega, fun j hj => absurd hj (by omega)⟩⟩
theorem ActOK.same {E : Int} {t x y : St} (a : ActOK E t x) (b : ActOK E t y) : SameT x y := by
  by_cases h : E = 0
  · exact (a.1 h).trans (b.1 h).symm
  · exact none_same2 (a.2 h) (b.2 h)
theorem ActOK.bound {E : Int} {p : Pl} {s t x : St} (h : ActOK E t x) (f : E = 0 → t.os.n ≤ 1000 ∧ t.ms.n ≤ 1000 ∧ ∀ i, i < t.os.n → (t.os.z i).ls.n ≤ 1000) : x.os.n ≤ 1000 ∧ x.ms.n ≤ 1000 ∧ ∀ i, i < x.os.n → (x.os.z i).ls.n ≤ 1000 := by
  by_cases hE : E = 0
  · obtain ⟨f1, f2, f3⟩ := f hE
    have a := h.1 hE
    have e1 : x.os.n = t.os.n := a.os.1
    have e2 : x.ms.n = t.ms.n := a.ms.1
    refine ⟨by omega, by omega, fun i hi => ?_⟩
    have e3 : (x.os.z i).ls.n = (t.os.z i).ls.n := (a.os.2 i hi).2.1
    have := f3 i (by omega)
    omega
  · obtain ⟨a1, a2, a3, a4, a5, a6, a7⟩ := h.2 hE
    exact ⟨by omega, by omega, fun i hi => absurd hi (by omega)⟩
end Go.Proofs.YtbcacebifpagpaeGreat
namespace Go.Proofs.YtbcacebifpagpaeGreat
open Go.RowKit
set_option linter.unusedVariables false
theorem AllocOK.same {p : Pl} {s x y : St} {order line n but : Int} (a : AllocOK p s order line n but x) (b : AllocOK p s order line n but y) : SameT x y := by
  by_cases h : allocE p s order line n but = 0
  · exact (a.1 h).same (b.1 h)
  · exact none_same2 (a.2 h) (b.2 h)
theorem AllocOK.bound {p : Pl} {s x : St} {order line n but : Int} (a : AllocOK p s order line n but x) : x.os.n ≤ 1000 ∧ x.ms.n ≤ 1000 ∧ ∀ i, i < x.os.n → (x.os.z i).ls.n ≤ 1000 := by
  by_cases h : allocE p s order line n but = 0
  · have f := (rightT (allocIn h).st).fm
    have T := a.1 h
    have o4 := f.os4
    have m8 := f.ms8
    have e1 := T.os.1
    have e2 := T.ms.1
    refine ⟨by omega, by omega, fun i hi => ?_⟩
    rw [(T.os.2 i hi).2.1]
    have := f.lns i (by omega)
    omega
  · obtain ⟨a1, a2, a3, a4, a5, a6, a7⟩ := a.2 h
    exact ⟨by omega, by omega, fun i hi => absurd hi (by omega)⟩
end Go.Proofs.YtbcacebifpagpaeGreat
namespace Go.Proofs.YtbcacebifpagpaeGreat
open Go.RowKit
set_option linter.unusedVariables false
theorem frL_has {p : Pl} {f : Bool} {b : Nat} : ∀ {k : Nat}, b < k → (p.zb b).front = f → ((b : Nat) : Int) ∈ frL p f k
  | k + 1, hb, hf => by
    by_cases hbk : b = k
    · subst hbk
      rw [frL_hit hf]
      simp
    · have h := frL_has (k := k) (by omega) hf
      by_cases hk : (p.zb k).front = f
      · rw [frL_hit hk]; simp [h]
      · rw [frL_miss hk]; exact h
theorem way_has {p : Pl} {b : Nat} (hb : b < p.nb) : ((b : Nat) : Int) ∈ wayL p := by
  unfold wayL
  rw [List.mem_append]
  cases hf : (p.zb b).front
  · exact Or.inr (frL_has hb hf)
  · exact Or.inl (frL_has hb hf)
theorem Took.trans {s y z : St} {o l : Nat} {k m : Int} {t1 t2 : Tk} (a : Took s o l k t1 y) (b : Took y o l m t2 z) : Took s o l (k + m) ⟨t1.left + t2.left, fun c => t1.took c + t2.took c⟩ z := by
  refine ⟨⟨b.on.1.trans a.on.1, fun i hi => ?_⟩, ⟨b.os.1.trans a.os.1, fun i hi => ?_⟩, b.right, fun e f g => ?_, ⟨b.ms.1.trans a.ms.1, fun j hj => (b.ms.2 j hj).trans (a.ms.2 j (by rw [← b.ms.1]; exact hj))⟩, ⟨b.si.1.trans a.si.1, fun j hj => (b.si.2 j hj).trans (a.si.2 j (by rw [← b.si.1]; exact hj))⟩, ⟨b.so.1.trans a.so.1, fun j hj => (b.so.2 j hj).trans (a.so.2 j (by rw [← b.so.1]; exact hj))⟩, ⟨b.sf.1.trans a.sf.1, fun j hj => (b.sf.2 j hj).trans (a.sf.2 j (by rw [← b.sf.1]; exact hj))⟩⟩
  · have x := b.on.2 i hi
    have y' := a.on.2 i (by rw [← b.on.1]; exact hi)
    exact ⟨x.1.trans y'.1, fun j hj => (x.2 j hj).trans (y'.2 j (by rw [← x.1]; exact hj))⟩
  · have x := b.os.2 i hi
    have y' := a.os.2 i (by rw [← b.os.1]; exact hi)
    refine ⟨x.1.trans y'.1, x.2.1.trans y'.2.1, fun j hj => ?_⟩
    rw [x.2.2 j hj, y'.2.2 j (by rw [← x.2.1]; exact hj)]
    by_cases hij : i = o ∧ j = l
    · rw [if_pos hij, if_pos hij, if_pos hij]
      unfold lessL
      congr 1
      show _ - (k - t1.left) - (m - t2.left) = _ - (k + m - (t1.left + t2.left))
      omega
    · rw [if_neg hij, if_neg hij, if_neg hij]
  · rw [b.kept, a.kept]
    show _ = _ + if _ then t1.took g + t2.took g else 0
    by_cases hef : e = o ∧ f = l
    · rw [if_pos hef, if_pos hef, if_pos hef]; omega
    · rw [if_neg hef, if_neg hef, if_neg hef]; omega
section
variable {p : Pl} {s x y z : St} {order line n but k : Int}
theorem AllocIn.less (h : AllocIn p s order line n but) (hk : 0 ≤ k ∧ k ≤ n) : allocE p s order line k but = 0 := by
  have h1 : allocR p s order line k but = false := by
    unfold allocR missL
    have h2 := h.n2
    have on := h.on
    have o0 := h.o0
    have ln := h.ln
    have l0 := h.l0
    rw [inB_mk (by omega), inB_mk (by omega), inB_mk (by omega)]
    rcases h.bt with e | e
    · rw [e]; rfl
    · rw [inB_mk (by omega)]; simp
  exact allocE_ok h.st h1 h.kd (by have := h.bk; omega)
theorem AllocIn.rightX (h : AllocIn p s order line n but) (hx : AllocOK p s order line n but x) : RightT p x :=
  (hx.1 (h.less ⟨h.n0, Int.le_refl _⟩)).rightAt h (fun x hx => h.way x hx) (h.tk (wayT_apart p but) (fun x hx => h.way x hx))
theorem AllocIn.none (h : AllocIn p s order line n but) (hx : AllocOK p s order line n but x) (hl : 0 < allocL p s order line n but) {b : Nat} (hb : b < p.nb) (hbut : ¬ ((b : Nat) : Int) = but) : availZ x b (lineAt s order line).o.toNat = 0 := by
  have e := h.less ⟨h.n0, Int.le_refl _⟩
  have T := hx.1 e
  have r := h.rightX hx
  have k := h.tk (wayT_apart p but) (fun x hx => h.way x hx)
  unfold allocL at hl
  rw [if_pos e] at hl
  have hg := h.good
  have hm : ((b : Nat) : Int) ∈ wayT p but := wayT_mem.2 ⟨way_has hb, hbut⟩
  have ha := k.all hl b hm
  rw [T.avail (rightT h.st).fm r.fm h.on h.ln hb (by omega), if_pos (by unfold lineAt; unfold lineAt at hg; omega)]
  show _ - (tkOf p s (lineAt s order line).o n but).took b = 0
  have ha' : (tkOf p s (lineAt s order line).o n but).took b = availZ s b (lineAt s order line).o.toNat := ha
  rw [ha']
  omega
end
end Go.Proofs.YtbcacebifpagpaeGreat
namespace Go.Proofs.YtbcacebifpagpaeGreat
open Go.RowKit
set_option linter.unusedVariables false
theorem SameT.self (s : St) : SameT s s := ⟨⟨rfl, fun _ _ => ⟨rfl, fun _ _ => rfl⟩⟩, ⟨rfl, fun _ _ => ⟨rfl, rfl, fun _ _ => rfl⟩⟩, ⟨rfl, fun _ _ => rfl⟩, ⟨rfl, fun _ _ => rfl⟩, ⟨rfl, fun _ _ => rfl⟩, ⟨rfl, fun _ _ => rfl⟩, ⟨rfl, fun _ _ => rfl⟩⟩
theorem right_line {p : Pl} {s : St} (r : RightT p s) {o l : Nat} (ho : o < s.os.n) (hl : l < (s.os.z o).ls.n) : 0 ≤ ((s.os.z o).ls.z l).n ∧ ((s.os.z o).ls.z l).n + keptS s.hs.z o l s.hs.n ≤ 200 ∧ 0 ≤ keptS s.hs.z o l s.hs.n := by
  have w := r.orders o ho
  unfold wrongOrder at w
  rw [Bool.or_eq_false_iff] at w
  have wl : wrongL (s.os.z o).k ((s.os.z o).ls.z l) (keptS s.hs.z o l s.hs.n) = false := anyB_false w.2 l hl
  obtain ⟨b1, b2, b3, b4⟩ := badLine_no (r.fm.line o ho l hl)
  have k0 := (keptS_bd (z := s.hs.z) o l s.hs.n fun j hj => (fineH_true (right_fine r.fm.hold j hj)).2.2.2).1
  unfold wrongL at wl
  by_cases h0 : (s.os.z o).k = 0
  · rw [if_pos h0] at wl
    simp only [Bool.or_eq_false_iff, Bool.not_eq_false', beq_iff_eq] at wl
    omega
  · rw [if_neg h0] at wl
    by_cases h2 : (s.os.z o).k = 2
    · rw [if_pos h2] at wl
      simp only [Bool.or_eq_false_iff, Bool.not_eq_false', beq_iff_eq] at wl
      omega
    · rw [if_neg h2] at wl
      simp only [Bool.not_eq_false', beq_iff_eq] at wl
      omega
theorem RightT.takeIn {p : Pl} {s : St} (r : RightT p s) {o l : Nat} (ho : o < s.os.n) (hl : l < (s.os.z o).ls.n) {n : Int} (h0 : 0 ≤ n) (hb : n ≤ ((s.os.z o).ls.z l).n) : TakeIn p s o l n := by
  have q := right_line r ho hl
  have hg := (badLine_no (r.fm.line o ho l hl)).1
  exact ⟨r.fm, fun b hb => (goods_no (r.goods _ (by omega))).2 b hb, ho, hl, h0, hb, q.2.1⟩
def Step (p : Pl) (but : Int) (y : St) (i j : Nat) (n : Int) (x : St) : Prop := Took y i j n (Tk.go (avT y i j) n (wayT p but)) x
structure StepIn (p : Pl) (but : Int) (y : St) (i j : Nat) (n : Int) : Prop where
  r : RightT p y
  on : i < y.os.n
  ln : j < (y.os.z i).ls.n
  n0 : 0 ≤ n
  kd : n = 0 ∨ (y.os.z i).k = 1 ∧ n ≤ ((y.os.z i).ls.z j).n
  bt : but = -1 ∨ 0 ≤ but ∧ but < p.nb
section
variable {p : Pl} {but : Int} {s y x : St} {i j : Nat} {n : Int}
theorem StepIn.bk (h : StepIn p but y i j n) : n ≤ ((y.os.z i).ls.z j).n := by
  have q := right_line h.r h.on h.ln
  rcases h.kd with e | e
  · omega
  · exact e.2
theorem StepIn.tki (h : StepIn p but y i j n) : TakeIn p y i j n := h.r.takeIn h.on h.ln h.n0 h.bk
theorem StepIn.way (x : Int) (hx : x ∈ wayT p but) : 0 ≤ x ∧ x < p.nb := way_mem (wayT_mem.1 hx).1
theorem StepIn.tk (h : StepIn p but y i j n) : TkOK (avT y i j) n (wayT p but) (Tk.go (avT y i j) n (wayT p but)) := h.tki.tk (wayT_apart p but) StepIn.way
theorem TakeIn.tkw {but : Int} (h : TakeIn p y i j n) : TkOK (avT y i j) n (wayT p but) (Tk.go (avT y i j) n (wayT p but)) := h.tk (wayT_apart p but) StepIn.way
theorem TakeIn.none {but : Int} (h : TakeIn p y i j 0) : (Tk.go (avT y i j) 0 (wayT p but)).left = 0 ∧ ∀ c, (Tk.go (avT y i j) 0 (wayT p but)).took c = 0 := by
  have k := h.tkw (but := but)
  have h0 := k.left0
  have h1 := k.leftn
  refine ⟨by omega, fun c => ?_⟩
  have h2 := k.took0 c
  have h3 := k.tookn c
  omega
theorem Step.zero (h : TakeIn p y i j 0) (T : Step p but y i j 0 x) : SameT x y := Took.same T (Took.congr (Took.start (n := 0) h.fm.hold (SameT.self y)) h.none.1 h.none.2)
theorem Step.skip (h : TakeIn p y i j 0) : Step p but y i j 0 y := Took.congr (Took.start (n := 0) h.fm.hold (SameT.self y)) h.none.1 h.none.2
theorem StepIn.allocIn (h : StepIn p but y i j n) (hk : (y.os.z i).k = 1) : AllocIn p y i j n but := by
  have q := right_line h.r h.on h.ln
  have b := h.bk
  have o := h.on
  have l := h.ln
  exact ⟨stateE_of h.r, by omega, o, by omega, l, h.n0, by omega, h.bt, hk, b⟩
theorem Step.right (h : StepIn p but y i j n) (T : Step p but y i j n x) : RightT p x := by
  rcases h.kd with e | e
  · subst e
    exact (Step.zero h.tki T).right h.r
  · have I := h.allocIn e.1
    exact Took.rightAt (order := i) (line := j) I (fun x hx => I.way x hx) (I.tk (wayT_apart p but) (fun x hx => I.way x hx)) T
theorem Step.same {y' x' : St} (h : TakeIn p y i j n) (e : SameT y' y) (T : Step p but y i j n x) (T' : Step p but y' i j n x') : SameT x' x := by
  unfold Step at T'
  rw [tk_same h e] at T'
  exact (Took.base e T').same T
structure Along (p : Pl) (but : Int) (s x : St) : Prop where
  r : RightT p x
  osn : x.os.n = s.os.n
  kind : ∀ i, i < s.os.n → (x.os.z i).k = (s.os.z i).k ∧ (x.os.z i).ls.n = (s.os.z i).ls.n
  line : ∀ i, i < s.os.n → ∀ j, j < (s.os.z i).ls.n → ((x.os.z i).ls.z j).o = ((s.os.z i).ls.z j).o ∧ ((x.os.z i).ls.z j).l = ((s.os.z i).ls.z j).l ∧ ((x.os.z i).ls.z j).b = ((s.os.z i).ls.z j).b
  sum : ∀ i, i < s.os.n → ∀ j, j < (s.os.z i).ls.n → ((x.os.z i).ls.z j).n + keptS x.hs.z i j x.hs.n = ((s.os.z i).ls.z j).n + keptS s.hs.z i j s.hs.n ∧ ((x.os.z i).ls.z j).n ≤ ((s.os.z i).ls.z j).n
  on : x.on.n = s.on.n ∧ ∀ i, i < x.on.n → (x.on.r i).n = (s.on.r i).n ∧ ∀ j, j < (x.on.r i).n → (x.on.r i).z j = (s.on.r i).z j
  ms : x.ms.n = s.ms.n ∧ ∀ j, j < x.ms.n → x.ms.z j = s.ms.z j
  si : x.si.n = s.si.n ∧ ∀ j, j < x.si.n → x.si.z j = s.si.z j
  so : x.so.n = s.so.n ∧ ∀ j, j < x.so.n → x.so.z j = s.so.z j
  sf : x.sf.n = s.sf.n ∧ ∀ j, j < x.sf.n → x.sf.z j = s.sf.z j
  av : ∀ b g, b < p.nb → g < p.ns → availZ x b g ≤ availZ s b g ∧ (((b : Nat) : Int) = but → availZ x b g = availZ s b g)
theorem SameT.kept (h : SameT x s) (a b : Int) : keptS x.hs.z a b x.hs.n = keptS s.hs.z a b s.hs.n := by
  rw [h.hs.1, keptS_congr _ _ fun j hj => h.hs.2 j (by rw [h.hs.1]; exact hj)]
theorem SameT.line (h : SameT x s) {i j : Nat} (hi : i < s.os.n) (hj : j < (s.os.z i).ls.n) : (x.os.z i).ls.z j = (s.os.z i).ls.z j := by
  have e := h.os.2 i (by rw [h.os.1]; exact hi)
  exact e.2.2 j (by rw [e.2.1]; exact hj)
theorem Along.self (r : RightT p s) (h : SameT x s) : Along p but s x := by
  refine ⟨h.right r, h.os.1, fun i hi => ?_, fun i hi j hj => ?_, fun i hi j hj => ?_, h.on, h.ms, h.si, h.so, h.sf, fun b g hb hg => ?_⟩
  · have e := h.os.2 i (by rw [h.os.1]; exact hi)
    exact ⟨e.1, e.2.1⟩
  · rw [h.line hi hj]
    exact ⟨rfl, rfl, rfl⟩
  · rw [h.line hi hj, h.kept]
    exact ⟨rfl, Int.le_refl _⟩
  · rw [h.avail r.fm hb hg]
    exact ⟨Int.le_refl _, fun _ => rfl⟩
theorem Along.step (A : Along p but s y) (h : StepIn p but y i j n) (T : Step p but y i j n x) : Along p but s x := by
  have k := h.tk
  have rx := Step.right h T
  have T' : Took y i j n (Tk.go (avT y i j) n (wayT p but)) x := T
  generalize Tk.go (avT y i j) n (wayT p but) = t at k T'
  have h0 := k.left0
  have h1 := k.leftn
  refine ⟨rx, T'.os.1.trans A.osn, fun a ha => ?_, fun a ha b hb => ?_, fun a ha b hb => ?_, ⟨T'.on.1.trans A.on.1, fun a ha => ?_⟩, ⟨T'.ms.1.trans A.ms.1, fun c hc => (T'.ms.2 c hc).trans (A.ms.2 c (by rw [← T'.ms.1]; exact hc))⟩, ⟨T'.si.1.trans A.si.1, fun c hc => (T'.si.2 c hc).trans (A.si.2 c (by rw [← T'.si.1]; exact hc))⟩, ⟨T'.so.1.trans A.so.1, fun c hc => (T'.so.2 c hc).trans (A.so.2 c (by rw [← T'.so.1]; exact hc))⟩, ⟨T'.sf.1.trans A.sf.1, fun c hc => (T'.sf.2 c hc).trans (A.sf.2 c (by rw [← T'.sf.1]; exact hc))⟩, fun b g hb hg => ?_⟩
  · have e := T'.os.2 a (by rw [T'.os.1, A.osn]; exact ha)
    have f := A.kind a ha
    exact ⟨e.1.trans f.1, e.2.1.trans f.2⟩
  · have f := A.kind a ha
    have g := A.line a ha b hb
    rw [T'.line (by rw [A.osn]; exact ha) (by rw [f.2]; exact hb)]
    by_cases c : a = i ∧ b = j
    · rw [if_pos c]; exact g
    · rw [if_neg c]; exact g
  · have f := A.kind a ha
    have g := A.sum a ha b hb
    rw [T'.line (by rw [A.osn]; exact ha) (by rw [f.2]; exact hb), T'.keptS h.r.fm k.sum]
    by_cases c : a = i ∧ b = j
    · rw [if_pos c, if_pos ⟨by omega, by omega⟩]
      show ((y.os.z a).ls.z b).n - (n - t.left) + _ = _ ∧ ((y.os.z a).ls.z b).n - (n - t.left) ≤ _
      omega
    · rw [if_neg c, if_neg (fun e => c ⟨by omega, by omega⟩)]
      omega
  · have e := T'.on.2 a ha
    have f := A.on.2 a (by rw [← T'.on.1]; exact ha)
    exact ⟨e.1.trans f.1, fun c hc => (e.2 c hc).trans (f.2 c (by rw [← e.1]; exact hc))⟩
  · have e := T'.avail h.r.fm rx.fm h.on h.ln hb hg
    have f := A.av b g hb hg
    have t0 := k.took0 b
    refine ⟨by rw [e]; split <;> omega, fun hbt => ?_⟩
    have hn : ((b : Nat) : Int) ∉ wayT p but := fun hm => (wayT_mem.1 hm).2 hbt
    rw [e, k.other _ hn, f.2 hbt]
    split <;> omega
end
def before (a b i j : Nat) : Prop := a < i ∨ a = i ∧ b < j
structure Pos (p : Pl) (but : Int) (q : Nat → Nat → Int) (s : St) (i j : Nat) (x : St) : Prop where
  al : Along p but s x
  later : ∀ a b, a < s.os.n → b < (s.os.z a).ls.n → ¬ before a b i j → (x.os.z a).ls.z b = (s.os.z a).ls.z b ∧ keptS x.hs.z a b x.hs.n = keptS s.hs.z a b s.hs.n
  none : ∀ a b, a < s.os.n → b < (s.os.z a).ls.n → before a b i j → q a b = ((s.os.z a).ls.z b).n → 0 < ((x.os.z a).ls.z b).n → ∀ c : Nat, c < p.nb → ¬ ((c : Nat) : Int) = but → availZ x c ((s.os.z a).ls.z b).o.toNat = 0
  first : ∀ a b, a < s.os.n → b < (s.os.z a).ls.n → ∀ a' b', a' < s.os.n → b' < (s.os.z a').ls.n → before a b a' b' → before a' b' i j → q a b = ((s.os.z a).ls.z b).n → 0 < ((x.os.z a).ls.z b).n → ((s.os.z a).ls.z b).o = ((s.os.z a').ls.z b').o → keptS x.hs.z a' b' x.hs.n = keptS s.hs.z a' b' s.hs.n
structure QIn (p : Pl) (but : Int) (q : Nat → Nat → Int) (s : St) : Prop where
  r : RightT p s
  q0 : ∀ a b, a < s.os.n → b < (s.os.z a).ls.n → 0 ≤ q a b ∧ (q a b = 0 ∨ (s.os.z a).k = 1 ∧ q a b ≤ ((s.os.z a).ls.z b).n)
  bt : but = -1 ∨ 0 ≤ but ∧ but < p.nb
def TkRow (p : Pl) (but : Int) (q : Nat → Nat → Int) (i : Nat) (s : St) : Nat → St → Prop
  | 0, x => x = s
  | j + 1, x => ∃ y, TkRow p but q i s j y ∧ Step p but y i j (q i j) x
def TkAll (p : Pl) (but : Int) (q : Nat → Nat → Int) (m : Nat → Nat) (s : St) : Nat → St → Prop
  | 0, x => SameT x s
  | i + 1, x => ∃ y, TkAll p but q m s i y ∧ TkRow p but q i y (m i) x
section
variable {p : Pl} {but : Int} {q : Nat → Nat → Int} {s y x : St} {i j : Nat}
theorem Pos.stepIn (Q : QIn p but q s) (P : Pos p but q s i j y) (hi : i < s.os.n) (hj : j < (s.os.z i).ls.n) : StepIn p but y i j (q i j) := by
  have k := P.al.kind i hi
  have l := P.later i j hi hj (fun e => by unfold before at e; omega)
  have e := Q.q0 i j hi hj
  refine ⟨P.al.r, by rw [P.al.osn]; exact hi, by rw [k.2]; exact hj, e.1, ?_, Q.bt⟩
  rw [k.1, l.1]
  exact e.2
theorem Pos.start (Q : QIn p but q s) (h : SameT x s) : Pos p but q s 0 0 x :=
  ⟨Along.self Q.r h, fun a b ha hb _ => ⟨h.line ha hb, h.kept _ _⟩, fun a b _ _ hb => by unfold before at hb; omega, fun _ _ _ _ a' b' _ _ _ hb => by unfold before at hb; omega⟩
theorem Pos.next (P : Pos p but q s i j x) (hj : (s.os.z i).ls.n ≤ j) : Pos p but q s (i + 1) 0 x := by
  have key : ∀ a b, b < (s.os.z a).ls.n → before a b (i + 1) 0 → before a b i j := fun a b hb h => by
    unfold before at h ⊢
    rcases h with h | h
    · by_cases e : a = i
      · subst e
        exact Or.inr ⟨rfl, by omega⟩
      · exact Or.inl (by omega)
    · omega
  refine ⟨P.al, fun a b ha hb h => P.later a b ha hb (fun e => h ?_), fun a b ha hb h => P.none a b ha hb (key a b hb h), fun a b ha hb a' b' ha' hb' h h' => P.first a b ha hb a' b' ha' hb' h (key a' b' hb' h')⟩
  unfold before at e ⊢
  omega
theorem Pos.step (Q : QIn p but q s) (P : Pos p but q s i j y) (hi : i < s.os.n) (hj : j < (s.os.z i).ls.n) (T : Step p but y i j (q i j) x) : Pos p but q s i (j + 1) x := by
  have I := P.stepIn Q hi hj
  have k := I.tk
  have rx := Step.right I T
  have A := P.al.step I T
  have T' : Took y i j (q i j) (Tk.go (avT y i j) (q i j) (wayT p but)) x := T
  generalize ht : Tk.go (avT y i j) (q i j) (wayT p but) = t at k T'
  have L := P.later i j hi hj (fun e => by unfold before at e; omega)
  have yln : ∀ a, a < s.os.n → ∀ b, b < (s.os.z a).ls.n → a < y.os.n ∧ b < (y.os.z a).ls.n := fun a ha b hb => ⟨by rw [P.al.osn]; exact ha, by rw [(P.al.kind a ha).2]; exact hb⟩
  have other : ∀ a, a < s.os.n → ∀ b, b < (s.os.z a).ls.n → ¬ (a = i ∧ b = j) → (x.os.z a).ls.z b = (y.os.z a).ls.z b ∧ keptS x.hs.z a b x.hs.n = keptS y.hs.z a b y.hs.n := fun a ha b hb hne => by
    have e := yln a ha b hb
    refine ⟨by rw [T'.line e.1 e.2, if_neg hne], ?_⟩
    rw [T'.keptS I.r.fm k.sum, if_neg (fun e => hne ⟨by omega, by omega⟩), Int.add_zero]
  have prev : ∀ a b, before a b i (j + 1) → ¬ (a = i ∧ b = j) → before a b i j := fun a b h hne => by
    unfold before at h ⊢
    omega
  have hl0 := k.left0
  have hg := I.tki.good
  have goodE : ((y.os.z i).ls.z j).o = ((s.os.z i).ls.z j).o := by rw [L.1]
  refine ⟨A, fun a b ha hb h => ?_, fun a b ha hb h hq hn c hc hcb => ?_, fun a b ha hb a' b' ha' hb' h h' hq hn hgd => ?_⟩
  · have hne : ¬ (a = i ∧ b = j) := fun e => h (by unfold before; omega)
    have e := other a ha b hb hne
    have f := P.later a b ha hb (fun e => h (by unfold before at e ⊢; omega))
    exact ⟨e.1.trans f.1, e.2.trans f.2⟩
  · by_cases hne : a = i ∧ b = j
    · obtain ⟨rfl, rfl⟩ := hne
      have e := T'.line (yln a ha b hb).1 (yln a ha b hb).2
      rw [if_pos ⟨rfl, rfl⟩] at e
      have hx : ((x.os.z a).ls.z b).n = ((y.os.z a).ls.z b).n - (q a b - t.left) := by rw [e]; rfl
      rw [hx, L.1, ← hq] at hn
      have hm : ((c : Nat) : Int) ∈ wayT p but := wayT_mem.2 ⟨way_has hc, hcb⟩
      have ha' := k.all (by omega) c hm
      rw [← goodE, T'.avail I.r.fm rx.fm I.on I.ln hc (by omega), if_pos (by omega), ha']
      unfold avT
      show availZ y c _ - availZ y c _ = 0
      omega
    · have e := other a ha b hb hne
      rw [e.1] at hn
      have f := P.none a b ha hb (prev a b h hne) hq hn c hc hcb
      have gg := (badLine_no (Q.r.fm.line a ha b hb)).1
      have u := T'.avail I.r.fm rx.fm I.on I.ln hc (g := ((s.os.z a).ls.z b).o.toNat) (by omega)
      have t0 := k.took0 c
      have v := (goods_no (rx.goods ((s.os.z a).ls.z b).o.toNat (by omega))).2 c hc
      rw [f] at u
      split at u <;> omega
  · have nab : ¬ (a = i ∧ b = j) := fun e => by unfold before at h h'; omega
    have eab := other a ha b hb nab
    rw [eab.1] at hn
    by_cases hne : a' = i ∧ b' = j
    · obtain ⟨rfl, rfl⟩ := hne
      have f := P.none a b ha hb h hq hn
      have tz : ∀ c : Nat, c < 6 → t.took c = 0 := fun c hc => by
        by_cases hm : ((c : Nat) : Int) ∈ wayT p but
        · have w := StepIn.way _ hm
          have u := f c (by omega) (wayT_mem.1 hm).2
          have v := k.had _ hm
          have t0 := k.took0 c
          have e2 : avT y a' b' c = availZ y c ((s.os.z a).ls.z b).o.toNat := by
            unfold avT
            rw [goodE, hgd]
            rfl
          rw [e2, u] at v
          omega
        · exact k.other _ hm
      have sz := k.sum
      rw [sumTo_zero fun c hc => tz c hc] at sz
      rw [T'.keptS I.r.fm k.sum, if_pos ⟨rfl, rfl⟩, L.2]
      omega
    · have e := other a' ha' b' hb' hne
      rw [e.2]
      exact P.first a b ha hb a' b' ha' hb' h (prev a' b' h' hne) hq hn hgd
theorem TkRow.pos (Q : QIn p but q s) (P : Pos p but q s i 0 y) (hi : i < s.os.n) : ∀ {j : Nat} {x : St}, j ≤ (s.os.z i).ls.n → TkRow p but q i y j x → Pos p but q s i j x
  | 0, x, _, h => by
    have h' : x = y := h
    rw [h']
    exact P
  | j + 1, x, hj, h => by
    obtain ⟨z, hz, T⟩ := h
    exact (TkRow.pos Q P hi (by omega) hz).step Q hi (by omega) T
theorem TkAll.pos {m : Nat → Nat} (Q : QIn p but q s) (hm : ∀ a, a < s.os.n → m a = (s.os.z a).ls.n) : ∀ {i : Nat} {x : St}, i ≤ s.os.n → TkAll p but q m s i x → Pos p but q s i 0 x
  | 0, x, _, h => Pos.start Q h
  | i + 1, x, hi, h => by
    obtain ⟨z, hz, T⟩ := h
    have P := TkAll.pos Q hm (i := i) (by omega) hz
    rw [hm i (by omega)] at T
    exact (TkRow.pos Q P (by omega) (Nat.le_refl _) T).next (Nat.le_refl _)
theorem TkRow.skip (Q : QIn p but q s) (P : Pos p but q s i 0 y) (hi : i < s.os.n) : ∀ {j : Nat}, j ≤ (s.os.z i).ls.n → (∀ b, b < j → q i b = 0) → TkRow p but q i y j y
  | 0, _, _ => rfl
  | j + 1, hj, h0 => by
    have T := TkRow.skip Q P hi (j := j) (by omega) fun b hb => h0 b (by omega)
    refine ⟨y, T, ?_⟩
    have I := (TkRow.pos Q P hi (by omega) T).stepIn Q hi (by omega)
    rw [h0 j (by omega)] at I ⊢
    exact Step.skip I.tki
theorem TkRow.same {y' : St} (Q : QIn p but q s) (P : Pos p but q s i 0 y) (e : SameT y' y) (hi : i < s.os.n) : ∀ {j : Nat} {x x' : St}, j ≤ (s.os.z i).ls.n → TkRow p but q i y j x → TkRow p but q i y' j x' → SameT x' x
  | 0, x, x', _, h, h' => by
    have h1 : x = y := h
    have h2 : x' = y' := h'
    rw [h1, h2]
    exact e
  | j + 1, x, x', hj, ⟨z, hz, T⟩, ⟨z', hz', T'⟩ => by
    have f := TkRow.same Q P e hi (j := j) (by omega) hz hz'
    exact Step.same ((TkRow.pos Q P hi (by omega) hz).stepIn Q hi (by omega)).tki f T T'
theorem TkAll.same {m : Nat → Nat} (Q : QIn p but q s) (hm : ∀ a, a < s.os.n → m a = (s.os.z a).ls.n) : ∀ {i : Nat} {x x' : St}, i ≤ s.os.n → TkAll p but q m s i x → TkAll p but q m s i x' → SameT x' x
  | 0, x, x', _, h, h' => SameT.trans h' (SameT.symm h)
  | i + 1, x, x', hi, ⟨z, hz, T⟩, ⟨z', hz', T'⟩ => by
    have f := TkAll.same Q hm (i := i) (by omega) hz hz'
    exact TkRow.same Q (TkAll.pos Q hm (by omega) hz) f (by omega) (by rw [hm i (by omega)]; exact Nat.le_refl _) T T'
theorem TkRow.base {q' : Nat → Nat → Int} (hq : ∀ b, b < (s.os.z i).ls.n → q' i b = q i b) : ∀ {j : Nat} {x : St}, j ≤ (s.os.z i).ls.n → TkRow p but q' i y j x → TkRow p but q i y j x
  | 0, x, _, h => h
  | j + 1, x, hj, ⟨z, hz, T⟩ => ⟨z, TkRow.base hq (by omega) hz, by rw [← hq j (by omega)]; exact T⟩
theorem TkAll.base {s' : St} {q' : Nat → Nat → Int} {m m' : Nat → Nat} (e : SameT s' s) (hm : ∀ a, a < s.os.n → m a = (s.os.z a).ls.n) (hm' : ∀ a, a < s.os.n → m' a = m a) (hq : ∀ a b, a < s.os.n → b < (s.os.z a).ls.n → q' a b = q a b) : ∀ {i : Nat} {x : St}, i ≤ s.os.n → TkAll p but q' m' s' i x → TkAll p but q m s i x
  | 0, x, _, h => SameT.trans h e
  | i + 1, x, hi, ⟨z, hz, T⟩ => ⟨z, TkAll.base e hm hm' hq (by omega) hz, by
      rw [hm' i (by omega)] at T
      exact TkRow.base (s := s) (fun b hb => hq i b (by omega) hb) (by rw [hm i (by omega)]; exact Nat.le_refl _) T⟩
end
end Go.Proofs.YtbcacebifpagpaeGreat
namespace Go.Proofs.YtbcacebifpagpaeGreat
open Go.RowKit
set_option linter.unusedVariables false
def putH (h : Hs) (x : Hd) : Hs := ⟨h.a, addLen h.n h.z x, h.c, addZ h.n h.z x⟩
def takeB (s : St) (o l : Nat) (m b : Int) : St := if 0 < m then withHolds (setLine s o l 3 (((s.os.z o).ls.z l).n - m)) (putH s.hs (tookH o l b m)) else s
def takeF (s0 : St) (o l : Nat) : List Int → Int → St → St
  | [], _, x => x
  | b :: L, n, x => takeF s0 o l L (n - min n (avT s0 o l b)) (takeB x o l (min n (avT s0 o l b)) b)
def takeT (p : Pl) (but : Int) (s : St) (o l : Nat) (n : Int) : St := takeF s o l (wayT p but) n s
theorem takeF_took {p : Pl} {s : St} {o l : Nat} {n : Int} (h : TakeIn p s o l n) : ∀ (L2 L1 : List Int) (x : St), (∀ c, c ∈ L1 ++ L2 → 0 ≤ c ∧ c < p.nb) → (L1 ++ L2).Pairwise (fun x y => ¬ x = y) → Took s o l n (Tk.go (avT s o l) n L1) x → Took s o l n (Tk.go (avT s o l) n (L1 ++ L2)) (takeF s o l L2 (Tk.go (avT s o l) n L1).left x)
  | [], L1, x, _, _, T => by rw [List.append_nil]; exact T
  | b :: L, L1, x, hc, hp, T => by
    have e : L1 ++ b :: L = (L1 ++ [b]) ++ L := by simp
    have hb := hc b (by simp)
    have k := h.tk (L := L1) (List.pairwise_append.1 hp).1 (fun c hc' => hc c (by simp [hc']))
    have h0 := k.left0
    have hav : 0 ≤ avT s o l b := h.av _ (by omega)
    have T2 : Took s o l n (Tk.go (avT s o l) n (L1 ++ [b])) (takeB x o l (min (Tk.go (avT s o l) n L1).left (avT s o l b)) b) := by
      rw [Tk.go_more]
      unfold takeB
      by_cases hm : 0 < min (Tk.go (avT s o l) n L1).left (avT s o l b)
      · rw [if_pos hm]
        have he := (h.addE (fun c hc' => hc c (by simp [hc'])) k T hb hm (Int.min_le_left _ _)).2.2
        exact T.stepAdd (order := o) (line := l) (y := putH x.hs (tookH o l b (min (Tk.go (avT s o l) n L1).left (avT s o l b)))) h.on h.ln rfl he ⟨(if_pos he).symm, fun _ _ => rfl⟩
      · rw [if_neg hm]
        exact T.stepZero (by omega)
    have R := takeF_took h L (L1 ++ [b]) _ (by rw [← e]; exact hc) (by rw [← e]; exact hp) T2
    rw [e]
    have el : (Tk.go (avT s o l) n (L1 ++ [b])).left = (Tk.go (avT s o l) n L1).left - min (Tk.go (avT s o l) n L1).left (avT s o l b) := by rw [Tk.go_more]; rfl
    rw [el] at R
    exact R
theorem takeT_step {p : Pl} {s : St} {o l : Nat} {n but : Int} (h : TakeIn p s o l n) : Step p but s o l n (takeT p but s o l n) :=
  takeF_took h (wayT p but) [] s (fun c hc => StepIn.way c hc) (wayT_apart p but) (Took.start (n := n) h.fm.hold (SameT.self s))
def rowT (p : Pl) (but : Int) (q : Nat → Nat → Int) (i : Nat) : Nat → St → St
  | 0, s => s
  | j + 1, s => takeT p but (rowT p but q i j s) i j (q i j)
def allT (p : Pl) (but : Int) (q : Nat → Nat → Int) (m : Nat → Nat) : Nat → St → St
  | 0, s => s
  | i + 1, s => rowT p but q i (m i) (allT p but q m i s)
section
variable {p : Pl} {but : Int} {q : Nat → Nat → Int} {s y : St} {i : Nat}
theorem rowT_row (Q : QIn p but q s) (P : Pos p but q s i 0 y) (hi : i < s.os.n) : ∀ {j : Nat}, j ≤ (s.os.z i).ls.n → TkRow p but q i y j (rowT p but q i j y)
  | 0, _ => rfl
  | j + 1, hj => by
    have T := rowT_row Q P hi (j := j) (by omega)
    exact ⟨_, T, takeT_step ((TkRow.pos Q P hi (by omega) T).stepIn Q hi (by omega)).tki⟩
theorem allT_all {m : Nat → Nat} (Q : QIn p but q s) (hm : ∀ a, a < s.os.n → m a = (s.os.z a).ls.n) : ∀ {i : Nat}, i ≤ s.os.n → TkAll p but q m s i (allT p but q m i s)
  | 0, _ => SameT.self s
  | i + 1, hi => by
    have T := allT_all Q hm (i := i) (by omega)
    exact ⟨_, T, by
      rw [show m i = (s.os.z i).ls.n from hm i (by omega)]
      show TkRow p but q i _ _ (rowT p but q i (m i) _)
      rw [hm i (by omega)]
      exact rowT_row Q (TkAll.pos Q hm (by omega) T) (by omega) (Nat.le_refl _)⟩
end
end Go.Proofs.YtbcacebifpagpaeGreat
namespace Go.Proofs.YtbcacebifpagpaeGreat
open Go.RowKit Go.Shelf Go.Sort
set_option linter.unusedVariables false
def lackH (x : Hd) : Hd := ⟨x.o, x.l, x.b, x.l - x.b⟩
def lackL (h : Hs) (k : Nat) : Hs := ⟨h.a, h.n, h.c, fun j => if j < k then lackH (h.z j) else h.z j⟩
def KeepO (w wk : World) : Prop := ∀ (q : Nat) (t : TypeId) (m : Nat) (f : Nat → Value), t ≠ 61 → t ≠ 64 → Blk w q t m f → Blk wk q t m f
theorem KeepO.below {w wk wj : World} (h : KeepO w wk) (hB : Below wk.heap.size wk wj) : KeepO w wj := fun q t m f ht h2 hb => (h q t m f ht h2 hb).below hB
theorem KeepO.refl (w : World) : KeepO w w := fun _ _ _ _ _ _ h => h
theorem KeepO.trans {w wk wj : World} (h : KeepO w wk) (k : KeepO wk wj) : KeepO w wj := fun q t m f ht h2 hb => k q t m f ht h2 (h q t m f ht h2 hb)
theorem KeepO.setLine {w wk : World} (h : KeepO w wk) {B n : Nat} {z : Nat → Value} (hB : Blk wk B 61 n z) (j : Nat) (u : Value) : KeepO w (wk.setCell ⟨B, j, none⟩ u) := fun q t m f ht h2 hb => (h q t m f ht h2 hb).other (a := ⟨B, j, none⟩) (Blk.ne2 (h q t m f ht h2 hb) hB ht) u
end Go.Proofs.YtbcacebifpagpaeGreat
namespace Go.Proofs.YtbcacebifpagpaeGreat
open Go.RowKit Go.Shelf
set_option linter.unusedVariables false
theorem zeroInt (w : World) : (zeroValue 3).run Tryz.prog w = .ok (.int .i64 0) w := by kernel_rfl
theorem Blk.setCells {g : Nat} {e : TypeId} {n : Nat} {f : Nat → Value} : ∀ (vs : List Value) (o : Nat) (w : World), Blk w g e n f → n ≤ o → Blk (w.setCells g o vs) g e n f
  | [], _, _, h, _ => h
  | v :: r, o, w, h, hn => by
    rw [World.setCells]
    exact Blk.setCells r (o + 1) _ ((h.set o v).congr fun j hj => by rw [if_neg (by omega)]) (by omega)
theorem below_cells {B g : Nat} (hg : B ≤ g) {a : World} : ∀ (vs : List Value) (o : Nat) (w : World), Below B a w → Below B a (w.setCells g o vs)
  | [], _, _, h => h
  | v :: r, o, w, h => by
    rw [World.setCells]
    exact below_cells hg r (o + 1) _ (h.setCell (p := ⟨g, o, none⟩) hg v)
theorem Blk.less {w : World} {g : Nat} {e : TypeId} {n m : Nat} {f : Nat → Value} (h : Blk w g e n f) (hm : m ≤ n) : Blk w g e m f := by
  obtain ⟨cur, h1, h2, h3⟩ := h
  exact ⟨cur, h1, by omega, fun j hj => h3 j (by omega)⟩
set_option maxHeartbeats 400000 in
theorem idxI2 (f : Nat) (caps : Array Value) (bad : Nat → Bool) (A : Nat) (a : Option Addr) (n c : Nat) (w : World) (hA : A ≤ w.heap.size) (hn : n ≤ c) (hc : c ≤ maxLen) (z : Nat → Int) (hz : IntsAt w a n z)
    (eg : ∀ args w, (callFunc f args).run Tryz.prog w = .ok (.enter f args) w)
    (hf : Hid (∀ i w1, i < n → Below A w w1 → Calls Tryz.prog f (#[.int .i64 (z i)] ++ caps) w1 fun e w' => e = .returned (.bool (bad i)) ∧ Below w1.heap.size w1 w')) :
    Calls Tryz.prog 96 #[.slice a n c, .func (.func f) #[] caps] w fun e w' => ((e = .returned (.int .i64 (-1)) ∧ ∀ j, j < n → bad j = false) ∨ ∃ k, k < n ∧ e = .returned (.int .i64 (k : Nat)) ∧ bad k = true ∧ ∀ j, j < k → bad j = false) ∧ Below w.heap.size w w' := by
  unfold maxLen at hc
  go_enter Tryz.func96, Tryz.ntmps96
  go_wp2_with fail
  go_loopw [8] (fun i w1 => ∃ k : Nat, k ≤ n ∧ i = .int .i64 k ∧ (∀ j, j < k → bad j = false) ∧ Below w.heap.size w w1) (fun i _ => n - (intOf i).toNat)
  case atStart => exact ⟨0, Nat.zero_le _, rfl, fun j hj => absurd hj (Nat.not_lt_zero _), Below.refl _ _⟩
  case round =>
    obtain ⟨k, hk, rfl, hno, hB⟩ := hrel
    have HN : Hid (∀ j, j < k → bad j = false) := hno
    clear hno
    by_cases hlt : k < n
    · obtain ⟨b, o, rfl, _, hcell⟩ := (hz.below hB) k hlt
      clear hz
      go_wp2_with fail
      refine (hf.out k wr hlt (hB.mono hA)).mono ?_
      rintro e w1 ⟨rfl, hB1⟩
      have hB2 := hB.trans (hB1.mono hB.size)
      cases hbad : bad k
      · go_wp2_with fail
        go_roundw
        case rel =>
          refine ⟨k + 1, by omega, by go_num, ?_, hB2⟩
          intro j hj
          by_cases hjk : j = k
          · rw [hjk, hbad]
          · exact HN.out j (by omega)
        case measure => simp [intOf]; omega
      · go_wp2_with fail
        go_ret
        exact ⟨Or.inr ⟨k, hlt, rfl, hbad, HN.out⟩, hB2⟩
    · go_wp2_with fail
      go_ret
      have hkn : k = n := by omega
      subst hkn
      exact ⟨Or.inl ⟨rfl, HN.out⟩, hB⟩
def stay (bad : Int → Bool) (xs : List Int) (k : Nat) : List Int := (xs.take k).filter (fun x => !bad x)
theorem stay_all (bad : Int → Bool) (xs : List Int) : stay bad xs xs.length = xs.filter (fun x => !bad x) := by unfold stay; rw [List.take_length]
theorem stay_succ {bad : Int → Bool} {xs : List Int} {k : Nat} (hk : k < xs.length) : stay bad xs (k + 1) = stay bad xs k ++ if bad (xs.getD k 0) then [] else [xs.getD k 0] := by
  unfold stay
  have e : xs.getD k 0 = xs[k] := by simp [List.getD, List.getElem?_eq_getElem hk]
  rw [List.take_add_one, List.getElem?_eq_getElem hk, List.filter_append, e]
  congr 1
  cases h : bad xs[k] <;> simp [h]
theorem stay_full {bad : Int → Bool} {xs : List Int} : ∀ {k : Nat}, k ≤ xs.length → (∀ j, j < k → bad (xs.getD j 0) = false) → stay bad xs k = xs.take k
  | 0, _, _ => by simp [stay]
  | k + 1, hk, h => by
    rw [stay_succ (by omega), stay_full (k := k) (by omega) (fun j hj => h j (by omega)), h k (by omega), List.take_add_one]
    simp [List.getD, List.getElem?_eq_getElem (show k < xs.length by omega)]
def DelAt (g : Nat) (bad : Int → Bool) (xs : List Int) (k : Nat) (wk : World) : Prop := ∃ c : Nat → Value, Blk wk g 3 xs.length c ∧ (∀ q, q < (stay bad xs k).length → c q = .int .i64 ((stay bad xs k).getD q 0)) ∧ ∀ q, k ≤ q → q < xs.length → c q = .int .i64 (xs.getD q 0)
set_option maxRecDepth 100000 in
set_option maxHeartbeats 2000000 in
theorem DelI_any (f : Nat) (caps : Array Value) (bad : Int → Bool) (A g cap : Nat) (xs : List Int) (w : World) (hA : A ≤ g) (hA2 : A ≤ w.heap.size) (hn : xs.length ≤ cap) (hcap : cap ≤ maxLen) (hb : Blk w g 3 xs.length (fun j => .int .i64 (xs.getD j 0)))
    (eg : ∀ args w, (callFunc f args).run Tryz.prog w = .ok (.enter f args) w)
    (hf : Hid (∀ (x : Int) w1, Below A w w1 → Calls Tryz.prog f (#[.int .i64 x] ++ caps) w1 fun e w' => e = .returned (.bool (bad x)) ∧ Below w1.heap.size w1 w')) :
    Calls Tryz.prog 70 #[.slice (some ⟨g, 0, none⟩) xs.length cap, .func (.func f) #[] caps] w fun e w' => e = .returned (.slice (some ⟨g, 0, none⟩) (xs.filter (fun x => !bad x)).length cap) ∧ Blk w' g 3 (xs.filter (fun x => !bad x)).length (fun j => .int .i64 ((xs.filter (fun x => !bad x)).getD j 0)) ∧ Below A w w' := by
  have hcap0 := hcap
  unfold maxLen at hcap
  have HBK : Hid (Blk w g 3 xs.length (fun j => .int .i64 (xs.getD j 0))) := hb
  have hz : IntsAt w (some ⟨g, 0, none⟩) xs.length (fun j => xs.getD j 0) := hb.ints
  clear hb
  go_enter Tryz.func70, Tryz.ntmps70
  go_wp2_with fail
  refine (idxI2 f caps (fun j => bad (xs.getD j 0)) A _ _ _ w hA2 hn hcap0 _ hz eg (fun i w1 _ h => hf.out _ w1 h)).mono ?_
  rintro e w1 ⟨h, hB1⟩
  clear hz
  have hBA := hB1.mono hA2
  rcases h with ⟨rfl, hno⟩ | ⟨k0, hk0, rfl, hbad, hno⟩
  · have hfil : xs.filter (fun x => !bad x) = xs := by
      have := stay_full (bad := bad) (Nat.le_refl xs.length) hno
      rw [stay_all, List.take_length] at this
      exact this
    have HF : Hid (xs.filter (fun x => !bad x) = xs) := hfil
    clear hfil hno
    go_wp2_with fail
    go_ret
    rw [HF.out]
    exact ⟨rfl, HBK.out.below hB1, hBA⟩
  · have hs0 : stay bad xs (k0 + 1) = xs.take k0 := by rw [stay_succ hk0, stay_full (by omega) hno, hbad]; simp
    have hl0 : (stay bad xs (k0 + 1)).length = k0 := by rw [hs0, List.length_take]; omega
    have H0 : Hid (DelAt g bad xs (k0 + 1) w1) := ⟨_, HBK.out.below hB1, fun q hq => by
      rw [hl0] at hq
      rw [hs0]
      simp only [List.getD, List.getElem?_take, if_pos hq], fun q _ _ => rfl⟩
    have HL0 : Hid ((stay bad xs (k0 + 1)).length = k0) := hl0
    clear hs0 hl0 hbad hno HBK
    go_wp2_with fail
    go_loopw [5, 6] (fun i j wk => ∃ k : Nat, k ≤ xs.length ∧ j = .int .i64 k ∧ i = .int .i64 ((stay bad xs k).length : Nat) ∧ (stay bad xs k).length < k ∧ Hid (DelAt g bad xs k wk) ∧ Below A w wk) (fun _ j _ => xs.length - (intOf j).toNat)
    case atStart => exact ⟨k0 + 1, by omega, by go_num, by rw [HL0.out], by rw [HL0.out]; omega, H0, hBA⟩
    case round =>
      clear H0 HL0 hBA hB1
      obtain ⟨k, hk, rfl, rfl, hlen, HD, hB⟩ := hrel
      by_cases hlt : k < xs.length
      · obtain ⟨c, hc1, hc2, hc3⟩ := HD.out
        have HB : Hid (Blk wr g 3 xs.length c ∧ (∀ q, q < (stay bad xs k).length → c q = .int .i64 ((stay bad xs k).getD q 0)) ∧ ∀ q, k ≤ q → q < xs.length → c q = .int .i64 (xs.getD q 0)) := ⟨hc1, hc2, hc3⟩
        have z0 : wr.cell? ⟨g, k, none⟩ = some (.int .i64 (xs.getD k 0)) := (hc1.cell hlt).trans (by rw [hc3 k (Nat.le_refl _) hlt])
        have z1 := hc1.lt
        have HS : Hid (stay bad xs (k + 1) = stay bad xs k ++ if bad (xs.getD k 0) then [] else [xs.getD k 0]) := stay_succ hlt
        have HX : Hid (xs.getD k 0 = xs.getD k 0) := rfl
        clear hc1 hc2 hc3 HD
        obtain ⟨X, hX⟩ : ∃ X, xs.getD k 0 = X := ⟨_, rfl⟩
        have HXE : Hid (xs.getD k 0 = X) := hX
        rw [hX] at z0
        clear hX HX
        obtain ⟨I, hI⟩ : ∃ I, (stay bad xs k).length = I := ⟨_, rfl⟩
        have HIE : Hid ((stay bad xs k).length = I) := hI
        rw [hI] at hlen ⊢
        clear hI
        go_wp2_with fail
        refine (hf.out X wr hB).mono ?_
        rintro e w2 ⟨rfl, hB2⟩
        have hB3 := hB.trans (hB2.mono (Nat.le_trans hA2 hB.size))
        have kb := HB.out.1.below hB2
        cases hbd : bad X
        · have y1 := kb.frozen I
          have y2 := kb.cell (j := I) (by omega)
          have y3 := kb.lt
          have KB := kb.set I (.int .i64 X)
          have HN : Hid (DelAt g bad xs (k + 1) (w2.setCell ⟨g, I, none⟩ (.int .i64 X)) ∧ Below A w (w2.setCell ⟨g, I, none⟩ (.int .i64 X)) ∧ (stay bad xs (k + 1)).length = I + 1) := by
            have e1 : stay bad xs (k + 1) = stay bad xs k ++ [X] := by rw [HS.out, HXE.out, hbd]; rfl
            have e2 : (stay bad xs (k + 1)).length = I + 1 := by rw [e1, List.length_append, HIE.out]; rfl
            refine ⟨⟨_, KB, fun q hq => ?_, fun q hq hq2 => ?_⟩, hB3.setCell (p := ⟨g, I, none⟩) hA _, e2⟩
            · rw [e2] at hq
              show (if q = I then Value.int .i64 X else c q) = _
              rw [e1]
              by_cases hqi : q = I
              · rw [if_pos hqi]
                simp only [List.getD]
                rw [List.getElem?_append_right (by rw [HIE.out]; omega), HIE.out, hqi]
                simp
              · rw [if_neg hqi, HB.out.2.1 q (by rw [HIE.out]; omega)]
                simp only [List.getD]
                rw [List.getElem?_append_left (by rw [HIE.out]; omega)]
            · show (if q = I then Value.int .i64 X else c q) = _
              rw [if_neg (by omega), HB.out.2.2 q (by omega) hq2]
          clear kb KB HB HS
          go_wp2_with fail
          go_roundw
          case rel => exact ⟨_, _, _, _, _, _, _, _, _, _, _, _, _, _, _, _, _, _, _, _, _, _, _, ⟨k + 1, by omega, by go_num, by rw [HN.out.2.2]; go_num, by rw [HN.out.2.2]; omega, HN.out.1, HN.out.2.1⟩, rfl⟩
          case measure => simp [intOf]; omega
        · have HN : Hid (DelAt g bad xs (k + 1) w2 ∧ (stay bad xs (k + 1)).length = I) := by
            have e1 : stay bad xs (k + 1) = stay bad xs k := by rw [HS.out, HXE.out, hbd]; simp
            rw [e1]
            exact ⟨⟨c, kb, by rw [e1]; exact HB.out.2.1, fun q hq hq2 => HB.out.2.2 q (by omega) hq2⟩, HIE.out⟩
          clear kb HB HS
          go_wp2_with fail
          go_roundw
          case rel => exact ⟨_, _, _, _, _, _, _, _, _, _, _, _, _, _, _, _, _, _, _, _, _, _, _, ⟨k + 1, by omega, by go_num, by rw [HN.out.2], by rw [HN.out.2]; omega, HN.out.1, hB3⟩, rfl⟩
          case measure => simp [intOf]; omega
      · have hkn : k = xs.length := by omega
        subst hkn
        obtain ⟨c, hc1, hc2, hc3⟩ := HD.out
        have HIE : Hid (stay bad xs xs.length = xs.filter (fun x => !bad x)) := stay_all bad xs
        rw [stay_all] at hlen hc2 ⊢
        obtain ⟨I, hI⟩ : ∃ I, (xs.filter (fun x => !bad x)).length = I := ⟨_, rfl⟩
        have HI : Hid ((xs.filter (fun x => !bad x)).length = I) := hI
        rw [hI] at hlen hc2 ⊢
        clear hI
        obtain ⟨N, hN⟩ : ∃ N, xs.length = N := ⟨_, rfl⟩
        have HNE : Hid (xs.length = N) := hN
        rw [hN] at hlen hn hc1 ⊢
        clear hN hc3 hlt hk HD
        have hci : ¬ cap = I := by omega
        have hcl : ∀ ty, (Builtin.clear_ #[23] ty #[.slice (some ⟨g, I, none⟩) (N - I) (cap - I)]).run Tryz.prog wr = .ok (.tuple #[]) (wr.setCells g I (List.replicate (N - I) (.int .i64 0))) := fun ty =>
          Lib.run_clear_slice wr 23 3 ty (.int .i64 0) Tryz.underlying23 zeroInt rfl rfl g I (N - I) (cap - I) (by omega) (fun j hj => by rw [hc1.cell (by omega)]; rfl) (fun j _ => hc1.frozen _)
        have HEND : Hid (Blk (wr.setCells g I (List.replicate (N - I) (.int .i64 0))) g 3 I (fun j => .int .i64 ((xs.filter (fun x => !bad x)).getD j 0)) ∧ Below A w (wr.setCells g I (List.replicate (N - I) (.int .i64 0)))) :=
          ⟨Blk.setCells _ _ _ ((hc1.less (by omega)).congr fun j hj => hc2 j hj) (Nat.le_refl _), below_cells hA _ _ _ hB⟩
        clear hc1 hc2
        go_wp2_with fail
        go_ret
        rw [HI.out]
        exact ⟨rfl, HEND.out⟩
end Go.Proofs.YtbcacebifpagpaeGreat

/- Texts that were built one behind the other, joined; what RecvTrue does not reach is left out. -/
import Derived.Test.YtbcacebifpagpadK1RecvTrue
import Derived.ArgAppend
import Derived.Deep.Upon
import Derived.Test.YtbcacebifpagpadRows
import Derived.ProofKit
import Derived.OpenShut
import Derived.Lib.SmallJoins
import Derived.Deep.Slices
namespace Go.Proofs.Ytbcacebifpagpad
open Go.RowKit Go.Shelf Go.Sort
set_option linter.unusedVariables false
def OwnI (A : Nat) (w : World) (r : Rw) : Prop := ∃ g, r.a = some ⟨g, 0, none⟩ ∧ A ≤ g ∧ r.n ≤ r.c ∧ r.c ≤ maxLen ∧ Blk w g 3 r.n (fun j => .int .i64 (r.z j))
theorem OwnI.at {A : Nat} {w : World} {r : Rw} (h : OwnI A w r) : r.At w := by
  obtain ⟨g, ha, _, h1, h2, hb⟩ := h
  exact ⟨h1, h2, fun i hi => ⟨g, 0, ha, hb.lt, by rw [Nat.zero_add]; exact hb.cell hi⟩⟩
theorem OwnI.below {A : Nat} {w w' : World} {r : Rw} (h : OwnI A w r) (hB : Below w.heap.size w w') : OwnI A w' r := by
  obtain ⟨g, ha, h0, h1, h2, hb⟩ := h
  exact ⟨g, ha, h0, h1, h2, hb.below hB⟩
structure OwnS (A : Nat) (w : World) (s : St) : Prop where
  on : ∃ g, s.on.a = some ⟨g, 0, none⟩ ∧ A ≤ g ∧ s.on.n ≤ s.on.c ∧ s.on.c ≤ maxLen ∧ Blk w g 23 s.on.n (fun i => .slice (s.on.r i).a (s.on.r i).n (s.on.r i).c)
  rows : ∀ i, i < s.on.n → OwnI A w (s.on.r i)
  rapart : ∀ i j, i < j → j < s.on.n → (s.on.r i).a ≠ (s.on.r j).a
  os : OwnO A w s.os
  hs : OwnH A 76 w s.hs
  ms : OwnH A 66 w s.ms
  msr : Room A w 66 4 s.ms.a s.ms.c
  si : OwnI A w s.si
  so : OwnI A w s.so
  sf : OwnI A w s.sf
  aio : s.si.a ≠ s.so.a
  aif : s.si.a ≠ s.sf.a
  aof : s.so.a ≠ s.sf.a
  ari : ∀ i, i < s.on.n → (s.on.r i).a ≠ s.si.a ∧ (s.on.r i).a ≠ s.so.a ∧ (s.on.r i).a ≠ s.sf.a
theorem OwnS.at {A : Nat} {w : World} {s : St} (h : OwnS A w s) : s.At w := by
  obtain ⟨g, ha, _, h1, h2, hb⟩ := h.on
  exact ⟨⟨h1, h2, fun i hi => ⟨g, 0, ha, hb.lt, by rw [Nat.zero_add]; exact hb.cell hi, (h.rows i hi).at⟩⟩, h.os.at, h.hs.at, h.ms.at, h.si.at, h.so.at, h.sf.at⟩
theorem OwnI.other {A : Nat} {t : TypeId} {w : World} {r : Rw} {q n : Nat} {f : Nat → Value} (h : OwnI A w r) (hq : Blk w q t n f) (hne : 3 ≠ t) (j : Nat) (u : Value) : OwnI A (w.setCell ⟨q, j, none⟩ u) r := by
  obtain ⟨g, ha, h0, h1, h2, hb⟩ := h
  exact ⟨g, ha, h0, h1, h2, hb.other (a := ⟨q, j, none⟩) (Blk.ne2 hb hq hne) u⟩
theorem OwnO.other {A : Nat} {t : TypeId} {w : World} {s : Os} {q n : Nat} {f : Nat → Value} (h : OwnO A w s) (hq : Blk w q t n f) (h1 : 48 ≠ t) (h2 : 50 ≠ t) (j : Nat) (u : Value) : OwnO A (w.setCell ⟨q, j, none⟩ u) s := by
  refine ⟨h.le, h.cap, fun hn => ?_, fun i hi => ?_, h.apart, h.room.set q j u⟩
  · obtain ⟨g, a, b, c⟩ := h.list hn
    exact ⟨g, a, b, c.other (a := ⟨q, j, none⟩) (Blk.ne2 c hq h1) u⟩
  · obtain ⟨B, a, b, c, d, e⟩ := h.lines i hi
    exact ⟨B, a, b, c, d, e.other (a := ⟨q, j, none⟩) (Blk.ne2 e hq h2) u⟩
theorem OwnS.box {A : Nat} {w : World} {s : St} {q n : Nat} {f : Nat → Value} (h : OwnS A w s) (hq : Blk w q 31 n f) (j : Nat) (u : Value) : OwnS A (w.setCell ⟨q, j, none⟩ u) s := by
  refine ⟨?_, fun i hi => (h.rows i hi).other hq (by decide) j u, h.rapart, h.os.other hq (by decide) (by decide) j u, h.hs.other hq (by decide) j u, h.ms.other hq (by decide) j u, h.msr.set q j u, h.si.other hq (by decide) j u, h.so.other hq (by decide) j u, h.sf.other hq (by decide) j u, h.aio, h.aif, h.aof, h.ari⟩
  obtain ⟨g, ha, h0, h1, h2, hb⟩ := h.on
  exact ⟨g, ha, h0, h1, h2, hb.other (a := ⟨q, j, none⟩) (Blk.ne2 hb hq (by decide)) u⟩
theorem OwnS.set7 {A : Nat} {w : World} {s : St} {b : Nat} {f : Nat → Value} (h : OwnS A w s) (hq : Blk w b 31 7 f) (v0 v1 v2 v3 v4 v5 v6 : Value) : OwnS A (Go.Proofs.Ytbcacebifpagpad.set7 w b v0 v1 v2 v3 v4 v5 v6) s :=
  ((((((h.box hq 0 v0).box (hq.set 0 v0) 1 v1).box ((hq.set 0 v0).set 1 v1) 2 v2).box (((hq.set 0 v0).set 1 v1).set 2 v2) 3 v3).box ((((hq.set 0 v0).set 1 v1).set 2 v2).set 3 v3) 4 v4).box (((((hq.set 0 v0).set 1 v1).set 2 v2).set 3 v3).set 4 v4) 5 v5).box ((((((hq.set 0 v0).set 1 v1).set 2 v2).set 3 v3).set 4 v4).set 5 v5) 6 v6
def DRows (A : Nat) (s : St) (v : Value) (g : List Nat) (wk : World) : Prop := ∃ (g0 : Nat) (G C : Nat → Nat), v = .slice (some ⟨g0, 0, none⟩) s.on.n s.on.n ∧ A ≤ g0 ∧ Blk wk g0 23 s.on.n (fun i => .slice (some ⟨G i, 0, none⟩) (s.on.r i).n (C i)) ∧
  (∀ i, i < s.on.n → A ≤ G i ∧ (s.on.r i).n ≤ C i ∧ C i ≤ maxLen ∧ Blk wk (G i) 3 (s.on.r i).n (fun j => .int .i64 ((s.on.r i).z j))) ∧ (∀ i j, i < j → j < s.on.n → G i < G j) ∧ g = (List.range s.on.n).map G
theorem DRows.below {A : Nat} {s : St} {v : Value} {g : List Nat} {w w' : World} (h : DRows A s v g w) (hB : Below w.heap.size w w') : DRows A s v g w' := by
  obtain ⟨g0, G, C, h1, h2, h3, h4, h5, h6⟩ := h
  exact ⟨g0, G, C, h1, h2, h3.below hB, fun i hi => ⟨(h4 i hi).1, (h4 i hi).2.1, (h4 i hi).2.2.1, (h4 i hi).2.2.2.below hB⟩, h5, h6⟩
theorem DRows.lt {A : Nat} {s : St} {v : Value} {g : List Nat} {w : World} (h : DRows A s v g w) : ∀ x ∈ g, x < w.heap.size := by
  obtain ⟨g0, G, C, h1, h2, h3, h4, h5, rfl⟩ := h
  intro x hx
  obtain ⟨i, hi, rfl⟩ := List.mem_map.1 hx
  exact (h4 i (List.mem_range.1 hi)).2.2.2.lt
def DInts (A : Nat) (r : Rw) (v : Value) (g : List Nat) (wk : World) : Prop := ∃ B c, g = [B] ∧ v = .slice (some ⟨B, 0, none⟩) r.n c ∧ A ≤ B ∧ r.n ≤ c ∧ c ≤ maxLen ∧ Blk wk B 3 r.n (fun j => .int .i64 (r.z j))
theorem DInts.below {A : Nat} {r : Rw} {v : Value} {g : List Nat} {w w' : World} (h : DInts A r v g w) (hB : Below w.heap.size w w') : DInts A r v g w' := by
  obtain ⟨B, c, h1, h2, h3, h4, h5, h6⟩ := h
  exact ⟨B, c, h1, h2, h3, h4, h5, h6.below hB⟩
theorem DInts.lt {A : Nat} {r : Rw} {v : Value} {g : List Nat} {w : World} (h : DInts A r v g w) : ∀ x ∈ g, x < w.heap.size := by
  obtain ⟨B, c, rfl, h2, h3, h4, h5, h6⟩ := h
  intro x hx
  rw [List.mem_singleton] at hx
  subst hx
  exact h6.lt
def DHs (A : Nat) (e : TypeId) (s : Hs) (v : Value) (g : List Nat) (wk : World) : Prop := ∃ s' : Hs, g = [] ∧ v = .slice s'.a s'.n s'.c ∧ Cloned A e s wk s'
theorem DHs.below {A : Nat} {e : TypeId} {s : Hs} {v : Value} {g : List Nat} {w w' : World} (h : DHs A e s v g w) (hB : Below w.heap.size w w') : DHs A e s v g w' := by
  obtain ⟨s', h1, h2, h3, h4, h5, h6⟩ := h
  exact ⟨s', h1, h2, h3, h4, h5.below hB, h6.below hB⟩
theorem OwnO.below {A : Nat} {w w' : World} {s : Os} (h : OwnO A w s) (hB : Below w.heap.size w w') : OwnO A w' s := by
  refine ⟨h.le, h.cap, fun hn => ?_, fun i hi => ?_, h.apart, h.room.below hB⟩
  · obtain ⟨g, a, b, c⟩ := h.list hn
    exact ⟨g, a, b, c.below hB⟩
  · obtain ⟨B, a, b, c, d, e⟩ := h.lines i hi
    exact ⟨B, a, b, c, d, e.below hB⟩
theorem OwnO.mono {A A' : Nat} {w : World} {s : Os} (h : OwnO A w s) (hA : A' ≤ A) : OwnO A' w s := by
  refine ⟨h.le, h.cap, fun hn => ?_, fun i hi => ?_, h.apart, h.room.mono hA⟩
  · obtain ⟨g, a, b, c⟩ := h.list hn
    exact ⟨g, a, by omega, c⟩
  · obtain ⟨B, a, b, c⟩ := h.lines i hi
    exact ⟨B, a, by omega, c⟩
def DOs (A : Nat) (s : Os) (v : Value) (g : List Nat) (wk : World) : Prop := ∃ s' : Os, g = [] ∧ v = .slice s'.a s'.n s'.c ∧ SameO s' s ∧ OwnO A wk s'
theorem DOs.below {A : Nat} {s : Os} {v : Value} {g : List Nat} {w w' : World} (h : DOs A s v g w) (hB : Below w.heap.size w w') : DOs A s v g w' := by
  obtain ⟨s', h1, h2, h3, h4⟩ := h
  exact ⟨s', h1, h2, h3, h4.below hB⟩
set_option maxRecDepth 100000 in
set_option maxHeartbeats 4000000 in
theorem copyState_any (p : Pl) (s : St) (w : World) (hs : s.At w) (f : Formed p s) :
    Calls Try.prog 25 #[s.val] w fun e w' => ∃ s' : St, e = .returned s'.val ∧ SameT s' s ∧ OwnS w.heap.size w' s' ∧ Below w.heap.size w w' := by
  obtain ⟨W0, hW, hWB, X0, Z0⟩ : ∃ W, ((w.alloc (.cells s.cells 31)).alloc (.cells #[.slice .none 0 0, .slice .none 0 0, .slice .none 0 0, .slice .none 0 0, .slice .none 0 0, .slice .none 0 0, .slice .none 0 0] 31)) = W ∧ Below w.heap.size w W ∧ Blk W w.heap.size 31 7 (fun j => s.cells.getD j default) ∧ Blk W (w.heap.size + 1) 31 7 (fun _ => .slice .none 0 0) :=
    ⟨_, rfl, two_below _ _ _, (Blk.mk' rfl rfl).alloc _, (Blk.mk' (cur := #[.slice .none 0 0, .slice .none 0 0, .slice .none 0 0, .slice .none 0 0, .slice .none 0 0, .slice .none 0 0, .slice .none 0 0]) (by simp) rfl).congr (fun j hj => by match j, hj with | 0, _ => rfl | 1, _ => rfl | 2, _ => rfl | 3, _ => rfl | 4, _ => rfl | 5, _ => rfl | 6, _ => rfl)⟩
  have HW : Hid ((w.alloc (.cells #[.slice s.on.a s.on.n s.on.c, .slice s.os.a s.os.n s.os.c, .slice s.hs.a s.hs.n s.hs.c, .slice s.ms.a s.ms.n s.ms.c, .slice s.si.a s.si.n s.si.c, .slice s.so.a s.so.n s.so.c, .slice s.sf.a s.sf.n s.sf.c] 31)).alloc (.cells #[.slice .none 0 0, .slice .none 0 0, .slice .none 0 0, .slice .none 0 0, .slice .none 0 0, .slice .none 0 0, .slice .none 0 0] 31) = W0) := hW
  have HS : Hid (s.At W0) := hs.below hWB
  have HF : Hid (Formed p s) := f
  have HZ : Hid (Blk W0 (w.heap.size + 1) 31 7 (fun _ => .slice .none 0 0)) := Z0
  have hsz0 := hWB.size
  obtain ⟨l1, c0, c1, c2, c3, c4, c5, c6⟩ := Boxed.of X0
  have r0 : ∀ d os, (grow (redrawn W0 d) os).cell? ⟨w.heap.size, 0, none⟩ = some (.slice s.on.a s.on.n s.on.c) := fun d os => cell_regrown c0 d os
  have r1 : ∀ d os, (grow (redrawn W0 d) os).cell? ⟨w.heap.size, 1, none⟩ = some (.slice s.os.a s.os.n s.os.c) := fun d os => cell_regrown c1 d os
  have r2 : ∀ d os, (grow (redrawn W0 d) os).cell? ⟨w.heap.size, 2, none⟩ = some (.slice s.hs.a s.hs.n s.hs.c) := fun d os => cell_regrown c2 d os
  have r3 : ∀ d os, (grow (redrawn W0 d) os).cell? ⟨w.heap.size, 3, none⟩ = some (.slice s.ms.a s.ms.n s.ms.c) := fun d os => cell_regrown c3 d os
  have r4 : ∀ d os, (grow (redrawn W0 d) os).cell? ⟨w.heap.size, 4, none⟩ = some (.slice s.si.a s.si.n s.si.c) := fun d os => cell_regrown c4 d os
  have r5 : ∀ d os, (grow (redrawn W0 d) os).cell? ⟨w.heap.size, 5, none⟩ = some (.slice s.so.a s.so.n s.so.c) := fun d os => cell_regrown c5 d os
  have r6 : ∀ d os, (grow (redrawn W0 d) os).cell? ⟨w.heap.size, 6, none⟩ = some (.slice s.sf.a s.sf.n s.sf.c) := fun d os => cell_regrown c6 d os
  clear hW X0 Z0 hs f c0 c1 c2 c3 c4 c5 c6
  unfold St.val
  go_enter Try.func25, Try.ntmps25
  go_wp2_with fail
  rw [HW.out]
  refine wp_region_made5 (fun w' => ∃ p : Regrown, w' = grow (redrawn W0 p.d) p.os) [0, 1, 3, 4, 6, 7, 9, 10, 12, 13, 15, 16, 18, 19] [2, 5, 8, 11, 14, 17, 20] [(false, 21), (true, 22)] (by kernel_rfl) (by kernel_rfl) (by kernel_rfl) (by kernel_rfl) (by kernel_rfl) (by kernel_rfl) (by kernel_rfl) (by kernel_rfl) (by kernel_rfl) (regrown_of_below ((Below.refl _ _).drew)) ?_
  simp only [picks, List.drop_succ_cons, List.drop_zero, List.take_succ_cons, List.take_zero, List.cons_append, List.nil_append]
  repeat (go_big_quiet_step (fail))
  refine wpQuiet_nil ?_
  clear r0 r1 r2 r3 r4 r5 r6
  refine ⟨fun j v g wk => match j with | 2 => DRows w.heap.size s v g wk | 5 => DOs w.heap.size s.os v g wk | 8 => DHs w.heap.size 76 s.hs v g wk | 11 => DHs w.heap.size 66 s.ms v g wk | 14 => DInts w.heap.size s.si v g wk | 17 => DInts w.heap.size s.so v g wk | 20 => DInts w.heap.size s.sf v g wk | _ => True,
    List.forall_mem_cons.2 ⟨fun v g w w' hB h => DRows.below h hB, List.forall_mem_cons.2 ⟨fun v g w w' hB h => DOs.below h hB, List.forall_mem_cons.2 ⟨fun v g w w' hB h => DHs.below h hB, List.forall_mem_cons.2 ⟨fun v g w w' hB h => DHs.below h hB, List.forall_mem_cons.2 ⟨fun v g w w' hB h => DInts.below h hB, List.forall_mem_cons.2 ⟨fun v g w w' hB h => DInts.below h hB, List.forall_mem_cons.2 ⟨fun v g w w' hB h => DInts.below h hB, List.forall_mem_nil _⟩⟩⟩⟩⟩⟩⟩,
    List.forall_mem_cons.2 ⟨fun v g w h => DRows.lt h, List.forall_mem_cons.2 ⟨fun v g w h => by obtain ⟨_, h1, _⟩ := h; rw [h1]; intro x hx; simp at hx, List.forall_mem_cons.2 ⟨fun v g w h => by obtain ⟨_, h1, _⟩ := h; rw [h1]; intro x hx; simp at hx, List.forall_mem_cons.2 ⟨fun v g w h => by obtain ⟨_, h1, _⟩ := h; rw [h1]; intro x hx; simp at hx, List.forall_mem_cons.2 ⟨fun v g w h => DInts.lt h, List.forall_mem_cons.2 ⟨fun v g w h => DInts.lt h, List.forall_mem_cons.2 ⟨fun v g w h => DInts.lt h, List.forall_mem_nil _⟩⟩⟩⟩⟩⟩⟩,
    List.forall_mem_cons.2 ⟨?zs2, List.forall_mem_cons.2 ⟨?zs5, List.forall_mem_cons.2 ⟨?zs8, List.forall_mem_cons.2 ⟨?zs11, List.forall_mem_cons.2 ⟨?zs14, List.forall_mem_cons.2 ⟨?zs17, List.forall_mem_cons.2 ⟨?zs20, List.forall_mem_nil _⟩⟩⟩⟩⟩⟩⟩, ?zdone⟩
  case zs2 =>
    intro V G wk K hS hd hK
    have hX := below_of_regrown hS
    refine wpOp_list 2 rfl ?_
    simp only [putAll, dstOf, List.getElem?_toArray, List.getElem?_cons_succ, List.getElem?_cons_zero, Act.put, List.setIfInBounds_toArray, List.set_cons_succ, List.set_cons_zero] at hK ⊢
    go_wp2_with fail
    refine (copyRows_any s.on wk (HS.out.on.below hX) (by rw [HF.out.sh.n]; exact HF.out.sh.pl.nb6) (fun i hi => by rw [HF.out.sh.len i hi]; exact ⟨HF.out.sh.pl.ns1, HF.out.sh.pl.ns3⟩)).mono ?_
    rintro e w2 ⟨g0, Gr, Cr, rfl, a1, a2, a3, a4, hB2⟩
    go_wp2_with fail
    have q := hX.size
    refine hK _ ((List.range s.on.n).map Gr) _ (regrown_of_below (hX.trans (hB2.mono hX.size))) hB2 (fun x hx => ?_) ⟨g0, Gr, Cr, rfl, by omega, a2, fun i hi => ⟨by have := (a3 i hi).1; omega, (a3 i hi).2⟩, a4, rfl⟩
    obtain ⟨i, hi, rfl⟩ := List.mem_map.1 hx
    have := (a3 i (List.mem_range.1 hi)).1
    omega
  case zs5 =>
    intro V G wk K hS hd hK
    have hX := below_of_regrown hS
    refine wpOp_list 5 rfl ?_
    simp only [putAll, dstOf, List.getElem?_toArray, List.getElem?_cons_succ, List.getElem?_cons_zero, Act.put, List.setIfInBounds_toArray, List.set_cons_succ, List.set_cons_zero] at hK ⊢
    go_wp2_with fail
    refine (copyOrders_any s.os wk (HS.out.os.below hX) (by have := HF.out.os4; omega) HF.out.lns).mono ?_
    rintro e w2 ⟨s', rfl, a1, a2, hB2⟩
    have q := hX.size
    have HR : Hid (SameO s' s.os ∧ OwnO w.heap.size w2 s') := ⟨a1, a2.mono (by omega)⟩
    clear a1 a2
    simp only [Os.val]
    go_wp2_with fail
    exact hK _ [] _ (regrown_of_below (hX.trans (hB2.mono hX.size))) hB2 (fun x hx => by simp at hx) ⟨s', rfl, rfl, HR.out.1, HR.out.2⟩
  case zs8 =>
    intro V G wk K hS hd hK
    have hX := below_of_regrown hS
    refine wpOp_list 8 rfl ?_
    simp only [putAll, dstOf, List.getElem?_toArray, List.getElem?_cons_succ, List.getElem?_cons_zero, Act.put, List.setIfInBounds_toArray, List.set_cons_succ, List.set_cons_zero] at hK ⊢
    go_wp2_with fail
    refine (CloneHold_any s.hs wk (HS.out.hs.below hX) (by have := HF.out.hs72; omega)).mono ?_
    rintro e w2 ⟨s', rfl, hc, hB2⟩
    have q := hX.size
    have HR : Hid (Cloned w.heap.size 76 s.hs w2 s') := ⟨hc.1, hc.2.1, hc.2.2.1.mono (by omega), hc.2.2.2.mono (by omega)⟩
    clear hc
    simp only [Hs.val]
    go_wp2_with fail
    exact hK _ [] _ (regrown_of_below (hX.trans (hB2.mono hX.size))) hB2 (fun x hx => by simp at hx) ⟨s', rfl, rfl, HR.out⟩
  case zs11 =>
    intro V G wk K hS hd hK
    have hX := below_of_regrown hS
    refine wpOp_list 11 rfl ?_
    simp only [putAll, dstOf, List.getElem?_toArray, List.getElem?_cons_succ, List.getElem?_cons_zero, Act.put, List.setIfInBounds_toArray, List.set_cons_succ, List.set_cons_zero] at hK ⊢
    go_wp2_with fail
    refine (CloneMove_any s.ms wk (HS.out.ms.below hX) (by have := HF.out.ms8; omega)).mono ?_
    rintro e w2 ⟨s', rfl, hc, hB2⟩
    have q := hX.size
    have HR : Hid (Cloned w.heap.size 66 s.ms w2 s') := ⟨hc.1, hc.2.1, hc.2.2.1.mono (by omega), hc.2.2.2.mono (by omega)⟩
    clear hc
    simp only [Hs.val]
    go_wp2_with fail
    exact hK _ [] _ (regrown_of_below (hX.trans (hB2.mono hX.size))) hB2 (fun x hx => by simp at hx) ⟨s', rfl, rfl, HR.out⟩
  case zs14 =>
    intro V G wk K hS hd hK
    have hX := below_of_regrown hS
    have hn1 := HF.out.sh.pl.ns1
    have hn3 := HF.out.sh.pl.ns3
    have HCI : Hid (Calls Try.prog 57 #[.slice s.si.a s.si.n s.si.c] wk fun e w' => ∃ g c', e = .returned (.slice (some ⟨g, 0, none⟩) s.si.n c') ∧ s.si.n ≤ c' ∧ c' ≤ maxLen ∧ wk.heap.size ≤ g ∧ Blk w' g 3 s.si.n (fun j => .int .i64 (s.si.z j)) ∧ Below wk.heap.size wk w') := by
      have hr := HS.out.si.below hX
      obtain ⟨b, o, ha, -, -⟩ := hr.ints 0 (by rw [HF.out.sin]; omega)
      have hi := hr.ints
      have hz : s.si.n = p.ns := HF.out.sin
      rw [ha] at hi
      have := Clone_any b o s.si.n s.si.c s.si.z wk (by omega) (by omega) hi
      rw [← ha] at this
      exact this
    refine wpOp_list 14 rfl ?_
    simp only [putAll, dstOf, List.getElem?_toArray, List.getElem?_cons_succ, List.getElem?_cons_zero, Act.put, List.setIfInBounds_toArray, List.set_cons_succ, List.set_cons_zero] at hK ⊢
    go_wp2_with fail
    refine HCI.out.mono ?_
    rintro e w2 ⟨g, c', rfl, a1, a2, a3, a4, hB2⟩
    have q := hX.size
    go_wp2_with fail
    exact hK _ [g] _ (regrown_of_below (hX.trans (hB2.mono hX.size))) hB2 (fun x hx => by rw [List.mem_singleton] at hx; omega) ⟨g, c', rfl, rfl, by omega, a1, a2, a4⟩
  case zs17 =>
    intro V G wk K hS hd hK
    have hX := below_of_regrown hS
    have hn1 := HF.out.sh.pl.ns1
    have hn3 := HF.out.sh.pl.ns3
    have HCI : Hid (Calls Try.prog 57 #[.slice s.so.a s.so.n s.so.c] wk fun e w' => ∃ g c', e = .returned (.slice (some ⟨g, 0, none⟩) s.so.n c') ∧ s.so.n ≤ c' ∧ c' ≤ maxLen ∧ wk.heap.size ≤ g ∧ Blk w' g 3 s.so.n (fun j => .int .i64 (s.so.z j)) ∧ Below wk.heap.size wk w') := by
      have hr := HS.out.so.below hX
      obtain ⟨b, o, ha, -, -⟩ := hr.ints 0 (by rw [HF.out.son]; omega)
      have hi := hr.ints
      have hz : s.so.n = p.ns := HF.out.son
      rw [ha] at hi
      have := Clone_any b o s.so.n s.so.c s.so.z wk (by omega) (by omega) hi
      rw [← ha] at this
      exact this
    refine wpOp_list 17 rfl ?_
    simp only [putAll, dstOf, List.getElem?_toArray, List.getElem?_cons_succ, List.getElem?_cons_zero, Act.put, List.setIfInBounds_toArray, List.set_cons_succ, List.set_cons_zero] at hK ⊢
    go_wp2_with fail
    refine HCI.out.mono ?_
    rintro e w2 ⟨g, c', rfl, a1, a2, a3, a4, hB2⟩
    have q := hX.size
    go_wp2_with fail
    exact hK _ [g] _ (regrown_of_below (hX.trans (hB2.mono hX.size))) hB2 (fun x hx => by rw [List.mem_singleton] at hx; omega) ⟨g, c', rfl, rfl, by omega, a1, a2, a4⟩
  case zs20 =>
    intro V G wk K hS hd hK
    have hX := below_of_regrown hS
    have hn1 := HF.out.sh.pl.ns1
    have hn3 := HF.out.sh.pl.ns3
    have HCI : Hid (Calls Try.prog 57 #[.slice s.sf.a s.sf.n s.sf.c] wk fun e w' => ∃ g c', e = .returned (.slice (some ⟨g, 0, none⟩) s.sf.n c') ∧ s.sf.n ≤ c' ∧ c' ≤ maxLen ∧ wk.heap.size ≤ g ∧ Blk w' g 3 s.sf.n (fun j => .int .i64 (s.sf.z j)) ∧ Below wk.heap.size wk w') := by
      have hr := HS.out.sf.below hX
      obtain ⟨b, o, ha, -, -⟩ := hr.ints 0 (by rw [HF.out.sfn]; omega)
      have hi := hr.ints
      have hz : s.sf.n = p.ns := HF.out.sfn
      rw [ha] at hi
      have := Clone_any b o s.sf.n s.sf.c s.sf.z wk (by omega) (by omega) hi
      rw [← ha] at this
      exact this
    refine wpOp_list 20 rfl ?_
    simp only [putAll, dstOf, List.getElem?_toArray, List.getElem?_cons_succ, List.getElem?_cons_zero, Act.put, List.setIfInBounds_toArray, List.set_cons_succ, List.set_cons_zero] at hK ⊢
    go_wp2_with fail
    refine HCI.out.mono ?_
    rintro e w2 ⟨g, c', rfl, a1, a2, a3, a4, hB2⟩
    have q := hX.size
    go_wp2_with fail
    exact hK _ [g] _ (regrown_of_below (hX.trans (hB2.mono hX.size))) hB2 (fun x hx => by rw [List.mem_singleton] at hx; omega) ⟨g, c', rfl, rfl, by omega, a1, a2, a4⟩
  case zdone =>
    intro V G wk hS hD hA
    obtain ⟨g0, Gr, Cr, v2, a1, a2, a3, a4, gg2⟩ : DRows w.heap.size s (V 2) (G 2) wk := hD 2 (by simp)
    obtain ⟨o', -, v5, b1, b2⟩ : DOs w.heap.size s.os (V 5) (G 5) wk := hD 5 (by simp)
    obtain ⟨h', -, v8, d1, d2, d3, -⟩ : DHs w.heap.size 76 s.hs (V 8) (G 8) wk := hD 8 (by simp)
    obtain ⟨m', -, v11, f1, f2, f3, f4⟩ : DHs w.heap.size 66 s.ms (V 11) (G 11) wk := hD 11 (by simp)
    obtain ⟨B1, k1, gg14, v14, i1, i2, i3, i4⟩ : DInts w.heap.size s.si (V 14) (G 14) wk := hD 14 (by simp)
    obtain ⟨B2, k2, gg17, v17, j1, j2, j3, j4⟩ : DInts w.heap.size s.so (V 17) (G 17) wk := hD 17 (by simp)
    obtain ⟨B3, k3, gg20, v20, l2, l3, l4, l5⟩ : DInts w.heap.size s.sf (V 20) (G 20) wk := hD 20 (by simp)
    have n12 : B1 ≠ B2 := fun e => hA 14 (by simp) 17 (by simp) (by decide) B1 (by rw [gg14]; simp) (by rw [gg17, e]; simp)
    have n13 : B1 ≠ B3 := fun e => hA 14 (by simp) 20 (by simp) (by decide) B1 (by rw [gg14]; simp) (by rw [gg20, e]; simp)
    have n23 : B2 ≠ B3 := fun e => hA 17 (by simp) 20 (by simp) (by decide) B2 (by rw [gg17]; simp) (by rw [gg20, e]; simp)
    have nr : ∀ i, i < s.on.n → Gr i ≠ B1 ∧ Gr i ≠ B2 ∧ Gr i ≠ B3 := fun i hi => by
      have hm : Gr i ∈ G 2 := by rw [gg2]; exact List.mem_map.2 ⟨i, List.mem_range.2 hi, rfl⟩
      exact ⟨fun e => hA 2 (by simp) 14 (by simp) (by decide) _ hm (by rw [gg14, e]; simp), fun e => hA 2 (by simp) 17 (by simp) (by decide) _ hm (by rw [gg17, e]; simp), fun e => hA 2 (by simp) 20 (by simp) (by decide) _ hm (by rw [gg20, e]; simp)⟩
    have hX := below_of_regrown hS
    have hz := HZ.out.below hX
    clear hD hA gg2 gg14 gg17 gg20
    have HR : Hid (OwnS w.heap.size wk ⟨⟨some ⟨g0, 0, none⟩, s.on.n, s.on.n, fun i => ⟨some ⟨Gr i, 0, none⟩, (s.on.r i).n, Cr i, (s.on.r i).z⟩⟩, o', h', m', ⟨some ⟨B1, 0, none⟩, s.si.n, k1, s.si.z⟩, ⟨some ⟨B2, 0, none⟩, s.so.n, k2, s.so.z⟩, ⟨some ⟨B3, 0, none⟩, s.sf.n, k3, s.sf.z⟩⟩) := by
      refine ⟨⟨g0, rfl, a1, Nat.le_refl _, ?_, a2⟩, fun i hi => ⟨Gr i, rfl, (a3 i hi).1, (a3 i hi).2.1, (a3 i hi).2.2.1, (a3 i hi).2.2.2⟩, fun i j hij hj => ?_, b2, d3, f3, f4, ⟨B1, rfl, i1, i2, i3, i4⟩, ⟨B2, rfl, j1, j2, j3, j4⟩, ⟨B3, rfl, l2, l3, l4, l5⟩, ?_, ?_, ?_, fun i hi => ?_⟩
      · show s.on.n ≤ maxLen
        have := HF.out.sh.n
        have := HF.out.sh.pl.nb6
        unfold maxLen
        omega
      · have := a4 i j hij hj
        simp only [ne_eq, Option.some.injEq, Addr.mk.injEq, and_true]
        omega
      · intro e; simp only [Option.some.injEq, Addr.mk.injEq, and_true] at e; exact n12 e
      · intro e; simp only [Option.some.injEq, Addr.mk.injEq, and_true] at e; exact n13 e
      · intro e; simp only [Option.some.injEq, Addr.mk.injEq, and_true] at e; exact n23 e
      · obtain ⟨x1, x2, x3⟩ := nr i hi
        exact ⟨fun e => by simp only [Option.some.injEq, Addr.mk.injEq, and_true] at e; exact x1 e, fun e => by simp only [Option.some.injEq, Addr.mk.injEq, and_true] at e; exact x2 e, fun e => by simp only [Option.some.injEq, Addr.mk.injEq, and_true] at e; exact x3 e⟩
    have HC : Hid (SameT ⟨⟨some ⟨g0, 0, none⟩, s.on.n, s.on.n, fun i => ⟨some ⟨Gr i, 0, none⟩, (s.on.r i).n, Cr i, (s.on.r i).z⟩⟩, o', h', m', ⟨some ⟨B1, 0, none⟩, s.si.n, k1, s.si.z⟩, ⟨some ⟨B2, 0, none⟩, s.so.n, k2, s.so.z⟩, ⟨some ⟨B3, 0, none⟩, s.sf.n, k3, s.sf.z⟩⟩ s) :=
      ⟨⟨rfl, fun i hi => ⟨rfl, fun j hj => rfl⟩⟩, b1, ⟨d1, fun j hj => d2 j (by rw [← d1]; exact hj)⟩, ⟨f1, fun j hj => f2 j (by rw [← f1]; exact hj)⟩, ⟨rfl, fun j hj => rfl⟩, ⟨rfl, fun j hj => rfl⟩, ⟨rfl, fun j hj => rfl⟩⟩
    clear a1 a2 a3 a4 b1 b2 d1 d2 d3 f1 f2 f3 f4 i1 i2 i3 i4 j1 j2 j3 j4 l2 l3 l4 l5 n12 n13 n23 nr
    have HZ2 : Hid (Blk wk (w.heap.size + 1) 31 7 (fun _ => .slice .none 0 0)) := hz
    have zl := hz.lt
    have zf0 := hz.frozen 0
    have zc0 := hz.cell (j := 0) (by decide)
    have zf1 := hz.frozen 1
    have zc1 := hz.cell (j := 1) (by decide)
    have zf2 := hz.frozen 2
    have zc2 := hz.cell (j := 2) (by decide)
    have zf3 := hz.frozen 3
    have zc3 := hz.cell (j := 3) (by decide)
    have zf4 := hz.frozen 4
    have zc4 := hz.cell (j := 4) (by decide)
    have zf5 := hz.frozen 5
    have zc5 := hz.cell (j := 5) (by decide)
    have zf6 := hz.frozen 6
    have zc6 := hz.cell (j := 6) (by decide)
    clear hz
    simp only [putAll, dstOf, List.getElem?_toArray, List.getElem?_cons_succ, List.getElem?_cons_zero, Act.put, List.setIfInBounds_toArray, List.set_cons_succ, List.set_cons_zero, v2, v5, v8, v11, v14, v17, v20]
    refine wpSeq_one 21 rfl ?_
    go_wp2_with fail
    refine ⟨Late.no hS, ?_⟩
    refine wpSeq_one 22 rfl ?_
    go_wp2_with fail
    refine ⟨Late.yes, ?_⟩
    refine NoPanic.normal ?_
    have KZ := set7_blk HZ2.out (.slice (some ⟨g0, 0, none⟩) s.on.n s.on.n) (.slice o'.a o'.n o'.c) (.slice h'.a h'.n h'.c) (.slice m'.a m'.n m'.c) (.slice (some ⟨B1, 0, none⟩) s.si.n k1) (.slice (some ⟨B2, 0, none⟩) s.so.n k2) (.slice (some ⟨B3, 0, none⟩) s.sf.n k3)
    have hbz := set7_below (b := w.heap.size + 1) (hWB.trans (hX.mono hWB.size)) (by omega) (.slice (some ⟨g0, 0, none⟩) s.on.n s.on.n) (.slice o'.a o'.n o'.c) (.slice h'.a h'.n h'.c) (.slice m'.a m'.n m'.c) (.slice (some ⟨B1, 0, none⟩) s.si.n k1) (.slice (some ⟨B2, 0, none⟩) s.so.n k2) (.slice (some ⟨B3, 0, none⟩) s.sf.n k3)
    have HR2 := OwnS.set7 HR.out HZ2.out (.slice (some ⟨g0, 0, none⟩) s.on.n s.on.n) (.slice o'.a o'.n o'.c) (.slice h'.a h'.n h'.c) (.slice m'.a m'.n m'.c) (.slice (some ⟨B1, 0, none⟩) s.si.n k1) (.slice (some ⟨B2, 0, none⟩) s.so.n k2) (.slice (some ⟨B3, 0, none⟩) s.sf.n k3)
    unfold set7 at KZ hbz HR2
    generalize (((((((wk.setCell { block := w.heap.size + 1, off := 0 } (Value.slice (some { block := g0, off := 0 }) s.on.n s.on.n)).setCell { block := w.heap.size + 1, off := 1 } (Value.slice o'.a o'.n o'.c)).setCell { block := w.heap.size + 1, off := 2 } (Value.slice h'.a h'.n h'.c)).setCell { block := w.heap.size + 1, off := 3 } (Value.slice m'.a m'.n m'.c)).setCell { block := w.heap.size + 1, off := 4 } (Value.slice (some { block := B1, off := 0 }) s.si.n k1)).setCell { block := w.heap.size + 1, off := 5 } (Value.slice (some { block := B2, off := 0 }) s.so.n k2)).setCell { block := w.heap.size + 1, off := 6 } (Value.slice (some { block := B3, off := 0 }) s.sf.n k3)) = WY at *
    clear hX zl zf0 zc0 zf1 zc1 zf2 zc2 zf3 zc3 zf4 zc4 zf5 zc5 zf6 zc6 v2 v5 v8 v11 v14 v17 v20 hS
    obtain ⟨c0, c1, c2, c3, c4, c5, c6⟩ := box_cells KZ
    have HQ : Hid (OwnS w.heap.size WY ⟨⟨some ⟨g0, 0, none⟩, s.on.n, s.on.n, fun i => ⟨some ⟨Gr i, 0, none⟩, (s.on.r i).n, Cr i, (s.on.r i).z⟩⟩, o', h', m', ⟨some ⟨B1, 0, none⟩, s.si.n, k1, s.si.z⟩, ⟨some ⟨B2, 0, none⟩, s.so.n, k2, s.so.z⟩, ⟨some ⟨B3, 0, none⟩, s.sf.n, k3, s.sf.z⟩⟩) := HR2
    clear HR2
    go_wp2_with fail
    refine bodyPost_ret (v := (⟨⟨some ⟨g0, 0, none⟩, s.on.n, s.on.n, fun i => ⟨some ⟨Gr i, 0, none⟩, (s.on.r i).n, Cr i, (s.on.r i).z⟩⟩, o', h', m', ⟨some ⟨B1, 0, none⟩, s.si.n, k1, s.si.z⟩, ⟨some ⟨B2, 0, none⟩, s.so.n, k2, s.so.z⟩, ⟨some ⟨B3, 0, none⟩, s.sf.n, k3, s.sf.z⟩⟩ : St).val) (by simp [results, Try.results25, go_sem, St.val, c0, c1, c2, c3, c4, c5, c6]) rfl ?_
    exact ⟨_, rfl, HC.out, HQ.out, hbz⟩
theorem OwnS.mono {A A' : Nat} {w : World} {s : St} (h : OwnS A w s) (hA : A' ≤ A) : OwnS A' w s := by
  have i : ∀ {r : Rw}, OwnI A w r → OwnI A' w r := fun ⟨g, a, b, c⟩ => ⟨g, a, Nat.le_trans hA b, c⟩
  refine ⟨?_, fun j hj => i (h.rows j hj), h.rapart, h.os.mono hA, h.hs.mono hA, h.ms.mono hA, h.msr.mono hA, i h.si, i h.so, i h.sf, h.aio, h.aif, h.aof, h.ari⟩
  obtain ⟨g, a, b, c⟩ := h.on
  exact ⟨g, a, Nat.le_trans hA b, c⟩
end Go.Proofs.Ytbcacebifpagpad
namespace Go.Proofs.Ytbcacebifpagpad
open Go.RowKit Go.Shelf Go.Sort
set_option linter.unusedVariables false
def comingTo (s : St) (b g : Int) : Nat → Int
  | 0 => 0
  | k + 1 => comingTo s b g k + (if (s.ms.z k).b = b ∧ (s.ms.z k).o = g then (s.ms.z k).n else 0)
theorem comingTo_hit {s : St} {b g : Int} {k : Nat} (h1 : (s.ms.z k).b = b) (h2 : (s.ms.z k).o = g) : comingTo s b g (k + 1) = comingTo s b g k + (s.ms.z k).n := by simp only [comingTo]; rw [if_pos ⟨h1, h2⟩]
theorem comingTo_miss {s : St} {b g : Int} {k : Nat} (h : ¬ ((s.ms.z k).b = b ∧ (s.ms.z k).o = g)) : comingTo s b g (k + 1) = comingTo s b g k := by simp only [comingTo]; rw [if_neg h, Int.add_zero]
theorem comingTo_bd {s : St} {b g : Int} : ∀ {n : Nat}, (∀ j, j < n → 1 ≤ (s.ms.z j).n ∧ (s.ms.z j).n ≤ 200) → 0 ≤ comingTo s b g n ∧ comingTo s b g n ≤ 200 * n
  | 0, _ => by simp [comingTo]
  | n + 1, h => by
    have ih := comingTo_bd (b := b) (g := g) (n := n) fun j hj => h j (by omega)
    have := h n (by omega)
    simp only [comingTo]
    split <;> omega
end Go.Proofs.Ytbcacebifpagpad
namespace Go.Proofs.Ytbcacebifpagpad
open Go.RowKit
set_option linter.unusedVariables false
theorem SameT.symm {s t : St} (h : SameT s t) : SameT t s := by
  refine ⟨⟨h.on.1.symm, fun i hi => ?_⟩, ⟨h.os.1.symm, fun i hi => ?_⟩, ⟨h.hs.1.symm, fun j hj => (h.hs.2 j (by rw [h.hs.1]; exact hj)).symm⟩, ⟨h.ms.1.symm, fun j hj => (h.ms.2 j (by rw [h.ms.1]; exact hj)).symm⟩, ⟨h.si.1.symm, fun j hj => (h.si.2 j (by rw [h.si.1]; exact hj)).symm⟩, ⟨h.so.1.symm, fun j hj => (h.so.2 j (by rw [h.so.1]; exact hj)).symm⟩, ⟨h.sf.1.symm, fun j hj => (h.sf.2 j (by rw [h.sf.1]; exact hj)).symm⟩⟩
  · have x := h.on.2 i (by rw [h.on.1]; exact hi)
    exact ⟨x.1.symm, fun j hj => (x.2 j (by rw [x.1]; exact hj)).symm⟩
  · have x := h.os.2 i (by rw [h.os.1]; exact hi)
    exact ⟨x.1.symm, x.2.1.symm, fun j hj => (x.2.2 j (by rw [x.2.1]; exact hj)).symm⟩
theorem SameT.trans {s t u : St} (h : SameT s t) (k : SameT t u) : SameT s u := by
  refine ⟨⟨h.on.1.trans k.on.1, fun i hi => ?_⟩, ⟨h.os.1.trans k.os.1, fun i hi => ?_⟩, ⟨h.hs.1.trans k.hs.1, fun j hj => (h.hs.2 j hj).trans (k.hs.2 j (by rw [← h.hs.1]; exact hj))⟩, ⟨h.ms.1.trans k.ms.1, fun j hj => (h.ms.2 j hj).trans (k.ms.2 j (by rw [← h.ms.1]; exact hj))⟩, ⟨h.si.1.trans k.si.1, fun j hj => (h.si.2 j hj).trans (k.si.2 j (by rw [← h.si.1]; exact hj))⟩, ⟨h.so.1.trans k.so.1, fun j hj => (h.so.2 j hj).trans (k.so.2 j (by rw [← h.so.1]; exact hj))⟩, ⟨h.sf.1.trans k.sf.1, fun j hj => (h.sf.2 j hj).trans (k.sf.2 j (by rw [← h.sf.1]; exact hj))⟩⟩
  · have x := h.on.2 i hi
    have y := k.on.2 i (by rw [← h.on.1]; exact hi)
    exact ⟨x.1.trans y.1, fun j hj => (x.2 j hj).trans (y.2 j (by rw [← x.1]; exact hj))⟩
  · have x := h.os.2 i hi
    have y := k.os.2 i (by rw [← h.os.1]; exact hi)
    exact ⟨x.1.trans y.1, x.2.1.trans y.2.1, fun j hj => (x.2.2 j hj).trans (y.2.2 j (by rw [← x.2.1]; exact hj))⟩
def setRw (r : Rw) (j : Nat) (x : Int) : Rw := ⟨r.a, r.n, r.c, fun i => if i = j then x else r.z i⟩
def setOn (s : St) (b g : Nat) (x : Int) : St := ⟨⟨s.on.a, s.on.n, s.on.c, fun i => if i = b then setRw (s.on.r i) g x else s.on.r i⟩, s.os, s.hs, s.ms, s.si, s.so, s.sf⟩
def setIn (s : St) (g : Nat) (x : Int) : St := ⟨s.on, s.os, s.hs, s.ms, setRw s.si g x, s.so, s.sf⟩
theorem OwnI.set {A : Nat} {w : World} {r : Rw} {G : Nat} (h : OwnI A w r) (ha : r.a = some ⟨G, 0, none⟩) (j : Nat) (x : Int) : OwnI A (w.setCell ⟨G, j, none⟩ (.int .i64 x)) (setRw r j x) := by
  obtain ⟨g, ha', h0, h1, h2, hb⟩ := h
  rw [ha] at ha'
  simp only [Option.some.injEq, Addr.mk.injEq, and_true] at ha'
  subst ha'
  refine ⟨G, ha, h0, h1, h2, (hb.set j (.int .i64 x)).congr fun i hi => ?_⟩
  show (if i = j then _ else _) = Value.int .i64 (if i = j then x else r.z i)
  by_cases hij : i = j <;> simp [hij]
theorem OwnI.apart {A : Nat} {w : World} {r : Rw} {G : Nat} (h : OwnI A w r) (ha : r.a ≠ some ⟨G, 0, none⟩) (j : Nat) (u : Value) : OwnI A (w.setCell ⟨G, j, none⟩ u) r := by
  obtain ⟨g, ha', h0, h1, h2, hb⟩ := h
  refine ⟨g, ha', h0, h1, h2, hb.other (a := ⟨G, j, none⟩) (fun e => ha ?_) u⟩
  rw [ha', show g = G from e]
theorem row_a {s : St} {b g : Nat} {x : Int} (i : Nat) : (if i = b then setRw (s.on.r i) g x else s.on.r i).a = (s.on.r i).a := by
  by_cases h : i = b <;> simp [h, setRw]
theorem OwnS.setOn {A : Nat} {w : World} {s : St} {b G : Nat} (h : OwnS A w s) (hb : b < s.on.n) (ha : (s.on.r b).a = some ⟨G, 0, none⟩) (g : Nat) (x : Int) : OwnS A (w.setCell ⟨G, g, none⟩ (.int .i64 x)) (Go.Proofs.Ytbcacebifpagpad.setOn s b g x) := by
  obtain ⟨Gb, hGb, _, _, _, hblk⟩ := h.rows b hb
  rw [ha] at hGb
  simp only [Option.some.injEq, Addr.mk.injEq, and_true] at hGb
  subst hGb
  have q := h.ari b hb
  rw [ha] at q
  refine ⟨?_, fun i hi => ?_, fun i j hij hj => ?_, h.os.other hblk (by decide) (by decide) g _, h.hs.other hblk (by decide) g _, h.ms.other hblk (by decide) g _, h.msr.set _ _ _, h.si.apart (fun e => q.1 e.symm) g _, h.so.apart (fun e => q.2.1 e.symm) g _, h.sf.apart (fun e => q.2.2 e.symm) g _, h.aio, h.aif, h.aof, fun i hi => ?_⟩
  · obtain ⟨g0, ha0, h0, h1, h2, hb0⟩ := h.on
    refine ⟨g0, ha0, h0, h1, h2, (hb0.other (a := ⟨G, g, none⟩) (Blk.ne2 hb0 hblk (by decide)) _).congr fun i hi => ?_⟩
    show _ = Value.slice (if i = b then setRw (s.on.r i) g x else s.on.r i).a (if i = b then setRw (s.on.r i) g x else s.on.r i).n (if i = b then setRw (s.on.r i) g x else s.on.r i).c
    by_cases hib : i = b <;> simp [hib, setRw]
  · show OwnI A _ (if i = b then setRw (s.on.r i) g x else s.on.r i)
    by_cases hib : i = b
    · subst hib
      rw [if_pos rfl]
      exact (h.rows i hi).set ha g x
    · rw [if_neg hib]
      refine (h.rows i hi).apart (fun e => ?_) g _
      rcases Nat.lt_or_gt_of_ne hib with hlt | hgt
      · exact h.rapart i b hlt hb (e.trans ha.symm)
      · exact h.rapart b i hgt hi (ha.trans e.symm)
  · show (if i = b then setRw (s.on.r i) g x else s.on.r i).a ≠ (if j = b then setRw (s.on.r j) g x else s.on.r j).a
    rw [row_a, row_a]
    exact h.rapart i j hij hj
  · show (if i = b then setRw (s.on.r i) g x else s.on.r i).a ≠ _ ∧ (if i = b then setRw (s.on.r i) g x else s.on.r i).a ≠ _ ∧ (if i = b then setRw (s.on.r i) g x else s.on.r i).a ≠ _
    rw [row_a]
    exact h.ari i hi
theorem OwnS.setIn {A : Nat} {w : World} {s : St} {G : Nat} (h : OwnS A w s) (ha : s.si.a = some ⟨G, 0, none⟩) (g : Nat) (x : Int) : OwnS A (w.setCell ⟨G, g, none⟩ (.int .i64 x)) (Go.Proofs.Ytbcacebifpagpad.setIn s g x) := by
  obtain ⟨Gb, hGb, _, _, _, hblk⟩ := h.si
  rw [ha] at hGb
  simp only [Option.some.injEq, Addr.mk.injEq, and_true] at hGb
  subst hGb
  refine ⟨?_, fun i hi => (h.rows i hi).apart (fun e => (h.ari i hi).1 (e.trans ha.symm)) g _, h.rapart, h.os.other hblk (by decide) (by decide) g _, h.hs.other hblk (by decide) g _, h.ms.other hblk (by decide) g _, h.msr.set _ _ _, h.si.set ha g x, h.so.apart (fun e => h.aio (ha.trans e.symm)) g _, h.sf.apart (fun e => h.aif (ha.trans e.symm)) g _, h.aio, h.aif, h.aof, h.ari⟩
  obtain ⟨g0, ha0, h0, h1, h2, hb0⟩ := h.on
  exact ⟨g0, ha0, h0, h1, h2, hb0.other (a := ⟨G, g, none⟩) (Blk.ne2 hb0 hblk (by decide)) _⟩
def lyingZ (s : St) (b g : Nat) : Int := (s.on.r b).z g + comingTo s b g s.ms.n
def recvE (p : Pl) (s : St) (bin good n : Int) : Int :=
  if stateE p s = 0 then (if inB bin 0 ((p.nb : Int) - 1) && inB good 0 ((p.ns : Int) - 1) && inB n 1 200 then (if freeZ p s bin.toNat < n * p.zs good.toNat then 5 else if 200 < lyingZ s bin.toNat good.toNat + n ∨ 1048576 < s.si.z good.toNat + n then 2 else 0) else 3) else stateE p s
def recvT (s : St) (b g : Nat) (n : Int) : St := setIn (setOn s b g ((s.on.r b).z g + n)) g (s.si.z g + n)
def ActOK (E : Int) (t s' : St) : Prop := (E = 0 → SameT s' t) ∧ (¬ E = 0 → NoneS s')
theorem setIn_same {s t : St} (h : SameT s t) (g : Nat) (x : Int) : SameT (setIn s g x) (setIn t g x) := by
  refine ⟨h.on, h.os, h.hs, h.ms, ⟨h.si.1, fun j hj => ?_⟩, h.so, h.sf⟩
  show (if j = g then x else s.si.z j) = if j = g then x else t.si.z j
  rw [h.si.2 j hj]
end Go.Proofs.Ytbcacebifpagpad
namespace Go.Proofs.Ytbcacebifpagpad
open Go.RowKit
set_option linter.unusedVariables false
theorem made_aux6 {P : Program} {ops : Array Oper} {Q : Exit → Act → World → Prop} {S : World → Prop} {T : Nat → Bool} {rem : List Nat} {L : Array Bool} {a1 : Act} {D : Nat → Value → List Nat → World → Prop} {fuel : Nat} (hB : madeB5 ops rem L = true) (hT : ∀ r ∈ rem, T r = false)
    (mono : ∀ j ∈ rem, ∀ v g w w', Below w.heap.size w w' → D j v g w → D j v g w') (lt : ∀ j ∈ rem, ∀ v g w, D j v g w → ∀ x ∈ g, x < w.heap.size)
    (step : ∀ i ∈ rem, ∀ (V : Nat → Value) (G : Nat → List Nat) (w : World) (K : Act → World → Prop), S w → (∀ d ∈ depsOf ops i, d ∈ rem → D d (V d) (G d) w) → (∀ d ∈ depsOf ops i, ∀ k ∈ depsOf ops i, d ∈ rem → k ∈ rem → d ≠ k → ∀ x ∈ G d, x ∉ G k) →
      (∀ v g w', S w' → Below w.heap.size w w' → (∀ x ∈ g, w.heap.size ≤ x) → D i v g w' → K ((putAll ops rem V a1).put (dstOf ops i) v) w') → wpOp P ops Q i K (putAll ops rem V a1) w)
    (done : ∀ (V : Nat → Value) (G : Nat → List Nat) (w : World), S w → (∀ j ∈ rem, D j (V j) (G j) w) → (∀ j ∈ rem, ∀ k ∈ rem, j ≠ k → ∀ x ∈ G j, x ∉ G k) → wpAnyT P ops Q S T fuel (mark L rem) (putAll ops rem V a1) w) :
    ∀ (m : Nat) (listed : Array Bool) (V : Nat → Value) (G : Nat → List Nat) (w : World), (rem.filter (fun r => !listed.getD r true)).length = m → listed.size = ops.size → (∀ j, j ∉ rem → listed[j]? = L[j]?) → Closed ops listed → S w → (∀ j ∈ rem, listed.getD j true = true → D j (V j) (G j) w) →
      (∀ j ∈ rem, ∀ k ∈ rem, listed.getD j true = true → listed.getD k true = true → j ≠ k → ∀ x ∈ G j, x ∉ G k) → wpAnyT P ops Q S T (m + fuel) listed (putAll ops rem V a1) w := by
  simp only [madeB5, Bool.and_eq_true, decide_eq_true_eq] at hB
  obtain ⟨⟨⟨⟨hoth, htopo⟩, hrem⟩, hLs⟩, hnd⟩ := hB
  have hrem' : ∀ r ∈ rem, r < ops.size ∧ L.getD r true = false := fun r hr => by
    have := List.all_eq_true.1 hrem r hr
    simpa using this
  intro m
  induction m with
  | zero =>
    intro listed V G w hm hsz hag hcl hS hD hA
    have hall : ∀ r ∈ rem, listed.getD r true = true := fun r hr => by
      cases hq : listed.getD r true
      · have : r ∈ rem.filter (fun r => !listed.getD r true) := List.mem_filter.2 ⟨hr, by simp [hq]⟩
        rw [List.length_eq_zero_iff.1 hm] at this
        simp at this
      · rfl
    have hl : listed = mark L rem := by
      apply Array.ext_getElem?
      intro j
      by_cases hj : j < L.size
      · rw [mark_get rem L j hj]
        by_cases hjr : j ∈ rem
        · rw [if_pos hjr]
          have h1 := hall j hjr
          have h2 : j < listed.size := by omega
          simp only [Array.getD, h2, dif_pos] at h1
          simp [h2]
          exact h1
        · rw [if_neg hjr]; exact hag j hjr
      · rw [Array.getElem?_eq_none (by omega), Array.getElem?_eq_none (by rw [mark_size]; omega)]
    rw [Nat.zero_add, hl]
    exact done V G w hS (fun j hj => hD j hj (hall j hj)) fun j hj k hk => hA j hj k hk (hall j hj) (hall k hk)
  | succ m ih =>
    intro listed V G w hm hsz hag hcl hS hD hA
    have hex : ∃ r ∈ rem, listed.getD r true = false := by
      have hne : rem.filter (fun r => !listed.getD r true) ≠ [] := fun e => by rw [e] at hm; simp at hm
      obtain ⟨x, hx⟩ := List.exists_mem_of_ne_nil _ hne
      have := List.mem_filter.1 hx
      exact ⟨x, this.1, by simpa using this.2⟩
    have hLl : ∀ d, L.getD d false = true → listed.getD d false = true := fun d hd => by
      by_cases hdr : d ∈ rem
      · have h1 := (hrem' d hdr).2
        have h2 : d < L.size := by have := (hrem' d hdr).1; omega
        simp only [Array.getD, h2, dif_pos] at h1 hd
        rw [h1] at hd; cases hd
      · have h1 := hag d hdr
        by_cases h2 : d < L.size
        · have h3 : d < listed.size := by omega
          simp only [Array.getD, h2, h3, dif_pos] at hd ⊢
          simp only [Array.getElem?_eq_getElem h2, Array.getElem?_eq_getElem h3, Option.some.injEq] at h1
          rw [Array.getInternal_eq_getElem] at hd ⊢
          rw [h1]; exact hd
        · simp [Array.getD, h2] at hd
    obtain ⟨r0, hr0, hr0r⟩ := topo_ready hsz [] rem htopo hLl (fun d hd => by simp at hd) (fun r hr => (hrem' r hr).1) hex
    rw [Nat.add_right_comm]
    refine ⟨fun h0 => absurd (h0 ▸ hr0r) (by simp), fun i hi => ?_⟩
    obtain ⟨hli, o, ho, hdep⟩ := mem_ready.1 hi
    have hdeps : ∀ d ∈ depsOf ops i, listed.getD d false = true := fun d hd => by
      unfold depsOf at hd
      rw [ho] at hd
      obtain ⟨e, he, rfl⟩ := List.mem_map.1 hd
      have := List.mem_filter.1 he
      exact hdep e (by simpa using this.1) this.2
    have hdt : ∀ d, listed.getD d false = true → listed.getD d true = true := fun d hd => by
      by_cases h2 : d < listed.size
      · simpa [Array.getD, h2] using hd
      · simp [Array.getD, h2]
    have hir : i ∈ rem := by
      cases hc : rem.contains i
      · exfalso
        have hlt : i < ops.size := (Array.getElem?_eq_some_iff.1 ho).1
        have hnr : i ∉ rem := fun h => by
          have := List.contains_iff_mem.2 h
          rw [this] at hc; cases hc
        have h1 := List.all_eq_true.1 hoth i (List.mem_range.2 hlt)
        have hLi : L.getD i true = false := by
          have h2 := hag i hnr
          have h3 : i < L.size := by omega
          have h4 : i < listed.size := by omega
          simp only [Array.getElem?_eq_getElem h3, Array.getElem?_eq_getElem h4, Option.some.injEq] at h2
          simp only [Array.getD, h3, h4, dif_pos] at hli ⊢
          rw [Array.getInternal_eq_getElem] at hli ⊢
          rw [← h2]; exact hli
        rw [hLi, hc] at h1
        simp only [Bool.false_or] at h1
        obtain ⟨q, hq, hq2⟩ := hex
        have h5 := List.all_eq_true.1 h1 q hq
        have h6 := hdt q (reach_listed hcl _ i q (ready_deps hi) h5)
        rw [hq2] at h6; cases h6
      · exact List.contains_iff_mem.1 hc
    refine step i hir V G w _ hS (fun d hd hdr => hD d hdr (hdt d (hdeps d hd))) (fun d hd k hk hdr hkr => hA d hdr k hkr (hdt d (hdeps d hd)) (hdt k (hdeps k hk))) (fun v g w' hS' hBel hfr hDi => ?_)
    refine ⟨fun _ => hS', ?_⟩
    rw [putAll_put hnd hir]
    have hin : i < listed.size := by rw [hsz]; exact (hrem' i hir).1
    have gset : ∀ j, (listed.setIfInBounds i true).getD j true = if j = i then true else listed.getD j true := fun j => by
      by_cases hj : j = i
      · subst hj; simp [Array.getD, hin]
      · rw [if_neg hj, getD_set_ne true (fun e => hj e.symm)]
    refine ih (listed.setIfInBounds i true) (upd V i v) (fun j => if j = i then g else G j) w' ?_ (by simpa using hsz) (fun j hj => ?_) (hcl.set hi) hS' (fun j hj hlj => ?_) (fun j hj k hk hlj hlk hjk x hx => ?_)
    · have hnodup : rem.Nodup := by
        exact (List.pairwise_map.1 hnd).imp (fun h e => h (by rw [e]))
      have e1 : (rem.filter (fun r => !listed.getD r true)) = rem.filter (fun r => !listed.getD r true) := rfl
      have hcount : (rem.filter (fun r => !(listed.setIfInBounds i true).getD r true)) = (rem.filter (fun r => !listed.getD r true)).erase i := by
        have e2 : rem.filter (fun r => !(listed.setIfInBounds i true).getD r true) = (rem.filter (fun r => !listed.getD r true)).filter (fun r => r != i) := by
          rw [List.filter_filter]
          refine List.filter_congr fun x hx => ?_
          rw [gset x]
          by_cases hxi : x = i <;> simp [hxi]
        rw [e2, ← List.Nodup.erase_eq_filter (hnodup.filter _)]
      rw [hcount, List.length_erase_of_mem (List.mem_filter.2 ⟨hir, by simp [hli]⟩), hm]
      rfl
    · rw [Array.getElem?_setIfInBounds, if_neg (fun e : i = j => hj (by rw [← e]; exact hir))]
      exact hag j hj
    · unfold upd
      by_cases hji : j = i
      · subst hji; rw [if_pos rfl, if_pos rfl]; exact hDi
      · rw [if_neg hji, if_neg hji]
        rw [gset j, if_neg hji] at hlj
        exact mono j hj _ _ _ _ hBel (hD j hj hlj)
    · by_cases hji : j = i
      · have hki : ¬ k = i := fun e => hjk (hji.trans e.symm)
        rw [if_pos hji] at hx
        rw [if_neg hki]
        rw [gset k, if_neg hki] at hlk
        intro hx2
        have h1 := hfr x hx
        have h2 := lt k hk _ _ _ (hD k hk hlk) x hx2
        omega
      · rw [if_neg hji] at hx
        rw [gset j, if_neg hji] at hlj
        by_cases hki : k = i
        · rw [if_pos hki]
          intro hx2
          have h1 := hfr x hx2
          have h2 := lt j hj _ _ _ (hD j hj hlj) x hx
          omega
        · rw [if_neg hki]
          rw [gset k, if_neg hki] at hlk
          exact hA j hj k hk hlj hlk hjk x hx
def Made6 (P : Program) (ops : Array Oper) (Q : Exit → Act → World → Prop) (S : World → Prop) (rem : List Nat) (ord : List (Bool × Nat)) (a1 : Act) : Prop :=
  ∃ D : Nat → Value → List Nat → World → Prop, (∀ j ∈ rem, ∀ v g w w', Below w.heap.size w w' → D j v g w → D j v g w') ∧ (∀ j ∈ rem, ∀ v g w, D j v g w → ∀ x ∈ g, x < w.heap.size) ∧
    (∀ i ∈ rem, ∀ (V : Nat → Value) (G : Nat → List Nat) (w : World) (K : Act → World → Prop), S w → (∀ d ∈ depsOf ops i, d ∈ rem → D d (V d) (G d) w) → (∀ d ∈ depsOf ops i, ∀ k ∈ depsOf ops i, d ∈ rem → k ∈ rem → d ≠ k → ∀ x ∈ G d, x ∉ G k) →
      (∀ v g w', S w' → Below w.heap.size w w' → (∀ x ∈ g, w.heap.size ≤ x) → D i v g w' → K ((putAll ops rem V a1).put (dstOf ops i) v) w') → wpOp P ops (NoPanic Q) i K (putAll ops rem V a1) w) ∧
    (∀ (V : Nat → Value) (G : Nat → List Nat) (w : World), S w → (∀ j ∈ rem, D j (V j) (G j) w) → (∀ j ∈ rem, ∀ k ∈ rem, j ≠ k → ∀ x ∈ G j, x ∉ G k) → wpSeq P ops (NoPanic Q) S ord (putAll ops rem V a1) w)
def tailsB6 (ops : Array Oper) (ks rem : List Nat) (ord : List (Bool × Nat)) : Bool :=
  ks.all (fun k => !ord.contains (true, k) && ord.all (fun x => !x.1 || reach ops ops.size x.2 k)) && rem.all (fun r => !ord.contains (true, r)) && ord.all (fun x => x.1 || !ord.contains (true, x.2))
theorem wp_region_made6 {P : Program} {l : List Oper} {Q : Exit → Act → World → Prop} {id : Nat} {a : Act} {w : World} (S : World → Prop) (ks rem : List Nat) (ord : List (Bool × Nat))
    (hm : P.follows .mixedOrders = true) (hs : Region.noSelect l.toArray = true) (hF : firstsB l.toArray ks (Array.replicate l.length false) = true) (hks : ks.all (fun k => decide (k < l.length)) = true) (hv : ((picks l ks).all vKind4) = true)
    (hM : madeB5 l.toArray rem (mark (Array.replicate l.length false) ks) = true) (hTB : tailsB6 l.toArray ks rem ord = true) (hB : seqB l.toArray ord (mark (mark (Array.replicate l.length false) ks) rem) = true) (hl : ks.length + (rem.length + ord.length) = l.length)
    (hS : S w.drew) (h : wpQuiet P l.toArray S (Made6 P l.toArray Q S rem ord) (picks l ks) a) : (Code.region id l.toArray true).wp P Q a w := by
  refine wp_region_noPanic (wp_region_any hm ?_)
  have hM' := hM
  simp only [madeB5, Bool.and_eq_true, decide_eq_true_eq] at hM'
  simp only [tailsB6, Bool.and_eq_true] at hTB
  have hT : ∀ j, (ord.contains (true, j)) = true → (true, j) ∈ ord := fun j h => by simpa using h
  have key := wpAnyT_firsts (Q := NoPanic Q) (T := fun i => ord.contains (true, i)) (N := l.toArray.size) (fuel := rem.length + ord.length) (w := w.drew) hs hS (fun c a a' w h => (h : False).elim) ks (picks l ks) _ a hF (fun k hk => ?_) (Closed.none _ _) (picks_ok hks) hv h (fun a1 hK hcl => ?_)
  · have := wpAny_of_T _ _ _ _ key
    rw [hl] at this
    simpa using this
  · have h1 := List.all_eq_true.1 hTB.1.1 k hk
    simp only [Bool.and_eq_true] at h1
    refine ⟨by simpa using h1.1, fun j hj => ?_⟩
    have h2 := List.all_eq_true.1 h1.2 (true, j) (hT j hj)
    simpa using h2
  · obtain ⟨D, mono, lt, step, done⟩ := hK
    have hall : (rem.filter (fun r => !(mark (Array.replicate l.length false) ks).getD r true)) = rem := by
      rw [List.filter_eq_self]
      intro r hr
      have := List.all_eq_true.1 hM'.1.1.2 r hr
      simp only [Bool.and_eq_true] at this
      exact this.2
    have hun : ∀ j ∈ rem, (mark (Array.replicate l.length false) ks).getD j true = true → False := fun j hj hlj => by
      have := List.all_eq_true.1 hM'.1.1.2 j hj
      simp only [Bool.and_eq_true, hlj] at this
      simp at this
    obtain ⟨V0, hV0⟩ : ∃ V0, putAll l.toArray rem V0 a1 = a1 := ⟨_, putAll_self a1 rem⟩
    have := made_aux6 (P := P) (Q := NoPanic Q) (S := S) (T := fun i => ord.contains (true, i)) (a1 := a1) (fuel := ord.length) hM (fun r hr => by have := List.all_eq_true.1 hTB.1.2 r hr; simpa using this) mono lt step
      (fun V G w' hS' hD hA => wpAnyT_seq ord _ _ w' hB (fun t i hti => by
        cases t with
        | true => simpa using hti
        | false =>
          have := List.all_eq_true.1 hTB.2 (false, i) hti
          simpa using this) (done V G w' hS' hD hA))
      rem.length (mark (Array.replicate l.length false) ks) V0 (fun _ => []) w.drew (by rw [hall]) hM'.1.2 (fun _ _ => rfl) hcl hS (fun j hj hlj => (hun j hj hlj).elim) (fun j hj k hk hlj _ _ => (hun j hj hlj).elim)
    rw [hV0] at this
    exact this
end Go.Proofs.Ytbcacebifpagpad
namespace Go.Proofs.Ytbcacebifpagpad
open Go.RowKit Go.Shelf Go.Sort
set_option linter.unusedVariables false
def ZeroAt (A n : Nat) (v : Value) (g : List Nat) (wk : World) : Prop := ∃ B, g = [B] ∧ v = .slice (some ⟨B, 0, none⟩) n n ∧ A ≤ B ∧ Blk wk B 3 n (fun _ => .int .i64 0)
theorem ZeroAt.below {A n : Nat} {v : Value} {g : List Nat} {w w' : World} (h : ZeroAt A n v g w) (hB : Below w.heap.size w w') : ZeroAt A n v g w' := by
  obtain ⟨B, h0, h1, h2, h3⟩ := h
  exact ⟨B, h0, h1, h2, h3.below hB⟩
theorem ZeroAt.lt {A n : Nat} {v : Value} {g : List Nat} {w : World} (h : ZeroAt A n v g w) : ∀ x ∈ g, x < w.heap.size := by
  obtain ⟨B, rfl, h1, h2, h3⟩ := h
  intro x hx
  rw [List.mem_singleton] at hx
  subst hx
  exact h3.lt
def BoxAt (A : Nat) (v : Value) (g : List Nat) (wk : World) : Prop := ∃ B, g = [B] ∧ v = .pointer (some ⟨B, 0, none⟩) ∧ A ≤ B ∧ Blk wk B 31 7 (fun _ => .slice .none 0 0)
theorem BoxAt.below {A : Nat} {v : Value} {g : List Nat} {w w' : World} (h : BoxAt A v g w) (hB : Below w.heap.size w w') : BoxAt A v g w' := by
  obtain ⟨B, h0, h1, h2, h3⟩ := h
  exact ⟨B, h0, h1, h2, h3.below hB⟩
theorem BoxAt.lt {A : Nat} {v : Value} {g : List Nat} {w : World} (h : BoxAt A v g w) : ∀ x ∈ g, x < w.heap.size := by
  obtain ⟨B, rfl, h1, h2, h3⟩ := h
  intro x hx
  rw [List.mem_singleton] at hx
  subst hx
  exact h3.lt
def SumsAt (A n : Nat) (v : Value) (g : List Nat) (wk : World) : Prop := ∃ B1 B2 B3, g = [] ∧ v = .agg #[.slice .none 0 0, .slice .none 0 0, .slice .none 0 0, .slice .none 0 0, .slice (some ⟨B1, 0, none⟩) n n, .slice (some ⟨B2, 0, none⟩) n n, .slice (some ⟨B3, 0, none⟩) n n] ∧
  (A ≤ B1 ∧ Blk wk B1 3 n (fun _ => .int .i64 0)) ∧ (A ≤ B2 ∧ Blk wk B2 3 n (fun _ => .int .i64 0)) ∧ (A ≤ B3 ∧ Blk wk B3 3 n (fun _ => .int .i64 0))
theorem SumsAt.below {A n : Nat} {v : Value} {g : List Nat} {w w' : World} (h : SumsAt A n v g w) (hB : Below w.heap.size w w') : SumsAt A n v g w' := by
  obtain ⟨B1, B2, B3, h0, h1, ⟨a1, a2⟩, ⟨b1, b2⟩, ⟨c1, c2⟩⟩ := h
  exact ⟨B1, B2, B3, h0, h1, ⟨a1, a2.below hB⟩, ⟨b1, b2.below hB⟩, ⟨c1, c2.below hB⟩⟩
def OneAt (A n : Nat) (v : Value) (g : List Nat) (wk : World) : Prop := ∃ B R, g = [B] ∧ v = .slice (some ⟨B, 0, none⟩) 1 1 ∧ A ≤ B ∧ Blk wk B 23 1 (fun _ => .slice (some ⟨R, 0, none⟩) n n) ∧ A ≤ R ∧ Blk wk R 3 n (fun _ => .int .i64 0)
theorem OneAt.below {A n : Nat} {v : Value} {g : List Nat} {w w' : World} (h : OneAt A n v g w) (hB : Below w.heap.size w w') : OneAt A n v g w' := by
  obtain ⟨B, R, h0, h1, h2, h3, h4, h5⟩ := h
  exact ⟨B, R, h0, h1, h2, h3.below hB, h4, h5.below hB⟩
theorem OneAt.lt {A n : Nat} {v : Value} {g : List Nat} {w : World} (h : OneAt A n v g w) : ∀ x ∈ g, x < w.heap.size := by
  obtain ⟨B, R, rfl, h1, h2, h3, h4, h5⟩ := h
  intro x hx
  rw [List.mem_singleton] at hx
  subst hx
  exact h3.lt
def Fr (n : Nat) (w : World) (s : St) : Prop := ∀ w'' : World, w.heap.size ≤ w''.heap.size → (∀ g, n ≤ g → g < w.heap.size → w''.heap[g]? = w.heap[g]?) → s.At w''
theorem Fr.at {n : Nat} {w : World} {s : St} (h : Fr n w s) : s.At w := h w (Nat.le_refl _) (fun _ _ _ => rfl)
theorem Fr.below {n : Nat} {w w' : World} {s : St} (h : Fr n w s) (hB : Below w.heap.size w w') : Fr n w' s := fun w'' hz hs => h w'' (Nat.le_trans hB.size hz) fun g h1 h2 => (hs g h1 (Nat.lt_of_lt_of_le h2 hB.size)).trans (hB.block g h2)
theorem Fr.set {n : Nat} {w : World} {s : St} (h : Fr n w s) {q : Nat} (hq : q < n) (j : Nat) (u : Value) : Fr n (w.setCell ⟨q, j, none⟩ u) s := fun w'' hz hs => h w'' (by simpa using hz) fun g h1 h2 => (hs g h1 (by simpa using h2)).trans (Below.heap_setCell w ⟨q, j, none⟩ u g (by show g ≠ q; omega))
end Go.Proofs.Ytbcacebifpagpad
namespace Go.Proofs.Ytbcacebifpagpad
open Go.RowKit Go.Shelf Go.Sort
set_option linter.unusedVariables false
def DOn (A : Nat) (s : St) (v : Value) (g : List Nat) (wk : World) : Prop := ∃ (g0 c0 : Nat) (G C : Nat → Nat), v = .slice (some ⟨g0, 0, none⟩) s.on.n c0 ∧ A ≤ g0 ∧ s.on.n ≤ c0 ∧ c0 ≤ maxLen ∧ Blk wk g0 23 s.on.n (fun i => .slice (some ⟨G i, 0, none⟩) (s.on.r i).n (C i)) ∧
  (∀ i, i < s.on.n → A ≤ G i ∧ (s.on.r i).n ≤ C i ∧ C i ≤ maxLen ∧ Blk wk (G i) 3 (s.on.r i).n (fun j => .int .i64 ((s.on.r i).z j))) ∧ (∀ i j, i < j → j < s.on.n → G i < G j) ∧ g = (List.range s.on.n).map G
theorem DOn.below {A : Nat} {s : St} {v : Value} {g : List Nat} {w w' : World} (h : DOn A s v g w) (hB : Below w.heap.size w w') : DOn A s v g w' := by
  obtain ⟨g0, c0, G, C, h1, h2, h2', h2'', h3, h4, h5, h6⟩ := h
  exact ⟨g0, c0, G, C, h1, h2, h2', h2'', h3.below hB, fun i hi => ⟨(h4 i hi).1, (h4 i hi).2.1, (h4 i hi).2.2.1, (h4 i hi).2.2.2.below hB⟩, h5, h6⟩
theorem DOn.lt {A : Nat} {s : St} {v : Value} {g : List Nat} {w : World} (h : DOn A s v g w) : ∀ x ∈ g, x < w.heap.size := by
  obtain ⟨g0, c0, G, C, h1, h2, h2', h2'', h3, h4, h5, rfl⟩ := h
  intro x hx
  obtain ⟨i, hi, rfl⟩ := List.mem_map.1 hx
  exact (h4 i (List.mem_range.1 hi)).2.2.2.lt
def DAgg (A : Nat) (s : St) (v : Value) (g : List Nat) (wk : World) : Prop := g = [] ∧ ∃ x2 g2 x6 g6 x10 g10 x14 g14 x18 g18 x22 g22, v = .agg #[x2, .slice .none 0 0, x6, x10, x14, x18, x22] ∧ DOn A s x2 g2 wk ∧ DHs A 76 s.hs x6 g6 wk ∧ DHs A 66 s.ms x10 g10 wk ∧
  DInts A s.si x14 g14 wk ∧ DInts A s.so x18 g18 wk ∧ DInts A s.sf x22 g22 wk ∧ (∀ x ∈ g2, x ∉ g14) ∧ (∀ x ∈ g2, x ∉ g18) ∧ (∀ x ∈ g2, x ∉ g22) ∧ (∀ x ∈ g14, x ∉ g18) ∧ (∀ x ∈ g14, x ∉ g22) ∧ (∀ x ∈ g18, x ∉ g22)
theorem DAgg.below {A : Nat} {s : St} {v : Value} {g : List Nat} {w w' : World} (h : DAgg A s v g w) (hB : Below w.heap.size w w') : DAgg A s v g w' := by
  obtain ⟨h0, x2, g2, x6, g6, x10, g10, x14, g14, x18, g18, x22, g22, h1, a, b, c, d, e, f, r⟩ := h
  exact ⟨h0, x2, g2, x6, g6, x10, g10, x14, g14, x18, g18, x22, g22, h1, a.below hB, b.below hB, c.below hB, d.below hB, e.below hB, f.below hB, r⟩
theorem OwnS.below {A : Nat} {w w' : World} {s : St} (h : OwnS A w s) (hB : Below w.heap.size w w') : OwnS A w' s := by
  refine ⟨?_, fun i hi => (h.rows i hi).below hB, h.rapart, h.os.below hB, h.hs.below hB, h.ms.below hB, h.msr.below hB, h.si.below hB, h.so.below hB, h.sf.below hB, h.aio, h.aif, h.aof, h.ari⟩
  obtain ⟨g, ha, h0, h1, h2, hb⟩ := h.on
  exact ⟨g, ha, h0, h1, h2, hb.below hB⟩
def D16 (A : Nat) (x : Od) (v : Value) (g : List Nat) (wk : World) : Prop := ∃ s' : Hs, g = [] ∧ v = .agg #[.int .i64 x.k, .slice s'.a s'.n s'.c] ∧ Cloned A 50 x.ls wk s'
theorem D16.below {A : Nat} {x : Od} {v : Value} {g : List Nat} {w w' : World} (h : D16 A x v g w) (hB : Below w.heap.size w w') : D16 A x v g w' := by
  obtain ⟨s', h1, h2, h3, h4, h5, h6⟩ := h
  exact ⟨s', h1, h2, h3, h4, h5.below hB, h6.below hB⟩
def D17 (A : Nat) (x : Od) (v : Value) (g : List Nat) (wk : World) : Prop := ∃ (B : Nat) (s' : Hs), g = [] ∧ v = .slice (some ⟨B, 0, none⟩) 1 1 ∧ A ≤ B ∧ Blk wk B 48 2 (fun j => (#[.int .i64 x.k, .slice s'.a s'.n s'.c] : Array Value).getD j default) ∧ Cloned A 50 x.ls wk s'
theorem D17.below {A : Nat} {x : Od} {v : Value} {g : List Nat} {w w' : World} (h : D17 A x v g w) (hB : Below w.heap.size w w') : D17 A x v g w' := by
  obtain ⟨B, s', h1, h2, h3, h4, h5, h6, h7, h8⟩ := h
  exact ⟨B, s', h1, h2, h3, h4.below hB, h5, h6, h7.below hB, h8.below hB⟩
end Go.Proofs.Ytbcacebifpagpad
namespace Go.Proofs.Ytbcacebifpagpad
open Go.RowKit Go.Shelf Go.Sort
set_option linter.unusedVariables false
theorem recvE_state {p : Pl} {s : St} {bin good n : Int} (h : ¬ stateE p s = 0) : recvE p s bin good n = stateE p s := by unfold recvE; rw [if_neg h]
theorem recvE_range {p : Pl} {s : St} {bin good n : Int} (h : stateE p s = 0) (h2 : (inB bin 0 ((p.nb : Int) - 1) && inB good 0 ((p.ns : Int) - 1) && inB n 1 200) = false) : recvE p s bin good n = 3 := by unfold recvE; rw [if_pos h, h2]; rfl
theorem recvE_full {p : Pl} {s : St} {b g : Nat} {n : Int} (h : stateE p s = 0) (h1 : b < p.nb) (h2 : g < p.ns) (h3 : inB n 1 200 = true) (h4 : freeZ p s b < n * p.zs g) : recvE p s b g n = 5 := by
  unfold recvE; simp only [Int.toNat_natCast]; rw [if_pos h, inB_mk (by omega), inB_mk (by omega), h3, if_pos (by decide), if_pos h4]
theorem recvE_many {p : Pl} {s : St} {b g : Nat} {n : Int} (h : stateE p s = 0) (h1 : b < p.nb) (h2 : g < p.ns) (h3 : inB n 1 200 = true) (h4 : ¬ freeZ p s b < n * p.zs g) (h5 : 200 < lyingZ s b g + n ∨ 1048576 < s.si.z g + n) : recvE p s b g n = 2 := by
  unfold recvE; simp only [Int.toNat_natCast]; rw [if_pos h, inB_mk (by omega), inB_mk (by omega), h3, if_pos (by decide), if_neg h4, if_pos h5]
theorem recvE_ok {p : Pl} {s : St} {b g : Nat} {n : Int} (h : stateE p s = 0) (h1 : b < p.nb) (h2 : g < p.ns) (h3 : inB n 1 200 = true) (h4 : ¬ freeZ p s b < n * p.zs g) (h5 : ¬ (200 < lyingZ s b g + n ∨ 1048576 < s.si.z g + n)) : recvE p s b g n = 0 := by
  unfold recvE; simp only [Int.toNat_natCast]; rw [if_pos h, inB_mk (by omega), inB_mk (by omega), h3, if_pos (by decide), if_neg h4, if_neg h5]
theorem freeZ_bd {p : Pl} {s : St} (f : Formed p s) {b : Nat} (hb : b < p.nb) : -30000 ≤ freeZ p s b ∧ freeZ p s b ≤ 1000 := by
  have hon : b < s.on.n := by rw [f.sh.n]; exact hb
  have ub := usedTo_bd (z := (s.on.r b).z) (zs := p.zs) (n := p.ns) (fun j hj => ⟨f.sh.num b hon j hj, f.sh.pl.sizes j hj⟩) p.ns (Nat.le_refl _)
  have tb := takeTo_bd f (b : Int) s.ms.n (Nat.le_refl _)
  have room : 0 ≤ (p.zb b).room ∧ (p.zb b).room ≤ 1000 := by
    have := f.sh.pl.bins b hb
    simp only [badBin, Bool.or_eq_false_iff, Bool.not_eq_false'] at this
    exact inB_true this.1.1
  have := f.ms8
  have := f.sh.pl.ns3
  unfold freeZ
  omega
end Go.Proofs.Ytbcacebifpagpad
namespace Go.Proofs.Ytbcacebifpagpad
open Go.RowKit Go.Shelf
set_option linter.unusedVariables false
structure OwnR (A : Nat) (w : World) (s : Sh) : Prop where
  on : ∃ g, s.a = some ⟨g, 0, none⟩ ∧ A ≤ g ∧ s.n ≤ s.c ∧ s.c ≤ maxLen ∧ Blk w g 23 s.n (fun i => .slice (s.r i).a (s.r i).n (s.r i).c)
  rows : ∀ i, i < s.n → OwnI A w (s.r i)
  rapart : ∀ i j, i < j → j < s.n → (s.r i).a ≠ (s.r j).a
set_option maxHeartbeats 1000000 in
theorem PutOwn_any (p : Pl) (s : Sh) (bin good n : Int) (w : World) (hp : p.At w) (hs : s.At w) (hput : putE p s bin good n = 0) :
    Calls Try.prog 26 #[p.val, s.val, .int .i64 bin, .int .i64 good, .int .i64 n] w fun e w' => ∃ s' : Sh, e = .returned (.tuple #[s'.val, .int .i64 0]) ∧ OwnR w.heap.size w' s' ∧ s'.n = s.n ∧ (∀ i, i < s.n → (s'.r i).n = (s.r i).n ∧ ∀ j, j < (s.r i).n → (s'.r i).z j = putZ s bin good n i j) ∧ Below w.heap.size w w' := by
  have hB0 : Below w.heap.size w (w.alloc (.cells #[.slice p.ab p.nb p.cb, .slice p.sa p.ns p.cs] 25)) := (Below.refl w.heap.size w).alloc (Nat.le_refl _) _
  simp only [Pl.val, Sh.val]
  have sle := hs.le
  have scap0 := hs.cap
  have scap := scap0
  unfold maxLen at scap
  have hn0 : s.n ≤ maxLen := Nat.le_trans sle scap0
  have les := hp.les
  have caps0 := hp.caps
  have hn1 : p.ns ≤ maxLen := Nat.le_trans les caps0
  have caps := caps0
  unfold maxLen at caps
  go_enter Try.func26, Try.ntmps26
  go_wp2_with fail
  refine (shelfCheck_any p s _ (hp.below hB0) (hs.below hB0)).mono ?_
  rintro e w1 ⟨rfl, hB⟩
  have hBw := hB0.trans (hB.mono (by simp))
  have hsz : w.heap.size < w1.heap.size := by have := hB.size; simp at this; omega
  have c1 : w1.cell? ⟨w.heap.size, 1, none⟩ = some (.slice p.sa p.ns p.cs) := (hB.cell (p := ⟨w.heap.size, 1, none⟩) (by simp)).trans (by simp)
  have h0 : shelfE p s = 0 := by
    apply Classical.byContradiction
    intro h0
    have hE : shelfErr p s bin good = shelfE p s := by simp [shelfErr, h0]
    simp [putE, hE, h0] at hput
  have hE := shelfErr_eq (bin := bin) (good := good) h0
  have h1 : inB bin 0 ((s.n : Int) - 1) = true := by
    cases h1 : inB bin 0 ((s.n : Int) - 1)
    · simp [putE, hE, h1] at hput
    · rfl
  have h2 : inB good 0 ((p.ns : Int) - 1) = true := by
    cases h2 : inB good 0 ((p.ns : Int) - 1)
    · simp [putE, hE, h1, h2] at hput
    · rfl
  have hE0 : shelfErr p s bin good = 0 := by simp [hE, h1, h2]
  clear hE
  obtain ⟨m, rfl⟩ := Int.eq_ofNat_of_zero_le (inB_true h1).1
  obtain ⟨q, rfl⟩ := Int.eq_ofNat_of_zero_le (inB_true h2).1
  have hm : m < s.n := by have := (inB_true h1).2; omega
  have hq : q < p.ns := by have := (inB_true h2).2; omega
  obtain ⟨pl, hn, hlen, hnum⟩ := (rightS h0).2
  have hz := hnum m hm q hq
  have hl := hlen m hm
  have h6 := pl.nb6
  rw [← hn] at h6
  have hr3 : Hid (∀ i, i < s.n → 1 ≤ (s.r i).n ∧ (s.r i).n ≤ 3) := fun i hi => by rw [hlen i hi]; exact ⟨pl.ns1, pl.ns3⟩
  have hs1 := hs.below hBw
  have m1 : (0 : Int) ≤ (m : Int) := by omega
  have m2 : (0 : Int) ≤ (q : Int) := by omega
  obtain ⟨b, o, ha, hb, z0, hat⟩ := hs1.rows m hm
  obtain ⟨b1, o1, ha1, hb1, y0⟩ := hat.ints q (by omega)
  rw [ha1] at z0
  have hql : q < (s.r m).n := by omega
  have rle := hat.le
  have rcap := hat.cap
  unfold maxLen at rcap
  have h3 : inB n (-((s.r m).z q)) (200 - (s.r m).z q) = true := by
    cases h3 : inB n (-((s.r m).z q)) (200 - (s.r m).z q)
    · simp [putE, hE0, h3] at hput
    · rfl
  clear hput
  clear pl hn hlen hnum ha1 hat hE0 hl
  obtain ⟨s0, sn, sc, sr⟩ := s
  dsimp only at *
  subst ha
  go_wp2_with (first | (go_at_call_of 22 (Value.int .i64 (m : Int)); refine calls_to (Has_any _ _ _ hn0) ?_) | (go_at_call_of 22 (Value.int .i64 (q : Int)); refine calls_to (Has_any _ _ _ hn1) ?_) | (go_at_call 23; refine calls_to (Within_any _ _ _ _) ?_))
  refine (copyRows_any ⟨some ⟨b, o, none⟩, sn, sc, sr⟩ w1 hs1 h6 hr3.out).mono ?_
  rintro e w2 ⟨g, G, C, rfl, hg, gb, gr, gm, hB2⟩
  dsimp only at gb gr gm ⊢
  obtain ⟨g1, g2, g3, g4⟩ := gr m hm
  have d0 := gb.cell hm
  have d1 := g4.cell hql
  have d2 := g4.frozen q
  have hnn := inB_true h3
  unfold maxLen at g3
  have hB3 := hBw.trans (hB2.mono hBw.size)
  have hge : w.heap.size ≤ G m := by have := hBw.size; omega
  have st := hB3.setCell (p := ⟨G m, q, none⟩) hge (.int .i64 ((sr m).z q + n))
  have HH : Hid _ := And.intro gb (And.intro gr gm)
  clear gb gr gm c1 y0 z0
  go_wp2_with fail
  go_ret2
  obtain ⟨gb, gr, gm⟩ := HH.out
  refine ⟨⟨some ⟨g, 0, none⟩, sn, sn, fun i => ⟨some ⟨G i, 0, none⟩, (sr i).n, C i, fun j => putZ ⟨some ⟨b, o, none⟩, sn, sc, sr⟩ m q n i j⟩⟩, rfl, ⟨⟨g, rfl, ?_, Nat.le_refl _, hn0, ?_⟩, ?_, ?_⟩, rfl, fun i hi => ⟨rfl, fun j hj => rfl⟩, st⟩
  · have := hBw.size; omega
  · exact gb.other (a := ⟨G m, q, none⟩) (by show g ≠ G m; omega) (.int .i64 ((sr m).z q + n))
  · intro i hi
    have gi := gr i hi
    refine ⟨G i, rfl, ?_, gi.2.1, gi.2.2.1, ?_⟩
    · have := hBw.size; omega
    · by_cases him : i = m
      · subst him
        refine (gi.2.2.2.set q (.int .i64 ((sr i).z q + n))).congr fun j hj => ?_
        by_cases hjq : j = q
        · subst hjq; simp [putZ]
        · simp [putZ, hjq]
      · have hGne : G i ≠ G m := by
          rcases Nat.lt_or_gt_of_ne him with h | h
          · have := gm i m h hm; omega
          · have := gm m i h hi; omega
        refine (gi.2.2.2.other (a := ⟨G m, q, none⟩) hGne (.int .i64 ((sr m).z q + n))).congr fun j hj => ?_
        simp [putZ, him]
  · intro i j hij hj h
    have := gm i j hij hj
    simp only [Option.some.injEq, Addr.mk.injEq, and_true] at h
    omega
end Go.Proofs.Ytbcacebifpagpad
namespace Go.Proofs.Ytbcacebifpagpad
open Go.RowKit Go.Shelf Go.Sort
set_option linter.unusedVariables false
set_option maxHeartbeats 4000000 in
theorem Lying_any (p : Pl) (s : St) (bin good : Nat) (w : World) (hs : s.At w) (f : Formed p s) (hbin : bin < p.nb) (hgood : good < p.ns) :
    Calls Try.prog 24 #[s.val, .int .i64 bin, .int .i64 good] w fun e w' => e = .returned (.int .i64 (lyingZ s bin good)) ∧ Below w.heap.size w w' := by
  obtain ⟨W0, hW0, hWB, hX⟩ : ∃ W0, w.alloc (.cells s.cells 31) = W0 ∧ Below w.heap.size w W0 ∧ Blk W0 w.heap.size 31 7 (fun j => s.cells.getD j default) := ⟨_, rfl, (Below.refl w.heap.size w).alloc (Nat.le_refl _) _, Blk.mk' rfl rfl⟩
  have hs0 := hs.below hWB
  have hon : bin < s.on.n := by rw [f.sh.n]; exact hbin
  obtain ⟨bo, oo, hoa, hbo, y0, hrow⟩ := hs0.on.rows bin hon
  have hrn := f.sh.len bin hon
  have hnum := f.sh.num bin hon good hgood
  obtain ⟨br, orr, hra, hbr, y1⟩ := hrow.ints good (by omega)
  have hrle := hrow.le
  have hrcap := hrow.cap
  have hole := hs0.on.le
  have hocap := hs0.on.cap
  unfold maxLen at hrcap hocap
  rw [hra, hrn] at y0
  rw [hrn] at hrle
  have c0 : W0.cell? ⟨w.heap.size, 0, none⟩ = some (.slice s.on.a s.on.n s.on.c) := hX.cell (j := 0) (by decide)
  rw [hoa] at c0
  have l0 := hX.lt
  have HOA : Hid (s.on.a = some ⟨bo, oo, none⟩) := hoa
  have b0 : (0 : Int) ≤ (bin : Int) := by omega
  have g0 : (0 : Int) ≤ (good : Int) := by omega
  have HLY : Hid (∀ k, k = s.ms.n → lyingZ s bin good = (s.on.r bin).z good + comingTo s bin good k) := fun k hk => by subst hk; rfl
  have HC : Hid (∀ wk, Below W0.heap.size W0 wk → s.At wk ∧ wk.cell? ⟨w.heap.size, 3, none⟩ = some (.slice s.ms.a s.ms.n s.ms.c) ∧ w.heap.size < wk.heap.size) :=
    fun wk h => ⟨hs0.below h, (hX.below h).cell (j := 3) (by decide), (hX.below h).lt⟩
  have hmle := hs0.ms.le
  have hmcap := hs0.ms.cap
  unfold maxLen at hmcap
  have m8 := f.ms8
  have MB : Hid (∀ k, k ≤ s.ms.n → 0 ≤ comingTo s bin good k ∧ comingTo s bin good k ≤ 200 * k) := fun k hk => comingTo_bd fun j hj => f.moveN j (by omega)
  have HW : Hid (w.alloc (.cells #[.slice (some ⟨bo, oo, none⟩) s.on.n s.on.c, .slice s.os.a s.os.n s.os.c, .slice s.hs.a s.hs.n s.hs.c, .slice s.ms.a s.ms.n s.ms.c, .slice s.si.a s.si.n s.si.c, .slice s.so.a s.so.n s.so.c, .slice s.sf.a s.sf.n s.sf.c] 31) = W0) := by show _ = W0; rw [← hW0, St.cells, hoa]
  have y0e := y0
  have y1e := y1
  have hboe := hbo
  have hbre := hbr
  rw [← HW.out] at y0e y1e hboe hbre
  simp only [St.val, hoa]
  clear hX hW0 hrow hs hs0
  clear hoa hra c0 l0 y0 y1 hbo hbr hrn
  generalize (s.on.r bin).z good = ON at *
  go_enter Try.func24, Try.ntmps24
  go_wp2_with fail
  rw [HW.out]
  clear y0e y1e hboe hbre
  go_loopw [7, 21] (fun u i wk => ∃ k : Nat, k ≤ s.ms.n ∧ i = .int .i64 k ∧ u = .int .i64 (ON + comingTo s bin good k) ∧ Below W0.heap.size W0 wk) (fun _ i _ => s.ms.n - (intOf i).toNat)
  case atStart => exact ⟨0, Nat.zero_le _, rfl, by simp [comingTo], Below.refl _ _⟩
  case round =>
    obtain ⟨k, hk, rfl, rfl, hB⟩ := hrel
    have m2 := MB.out k hk
    obtain ⟨hsk, c3, hlt0⟩ := HC.out wr hB
    by_cases hlt2 : k < s.ms.n
    · obtain ⟨b, q, hma, hb, z0, z1, z2, z3⟩ := hsk.ms.hds k hlt2
      have m3 := f.moveN k hlt2
      have H1 : Hid (((s.ms.z k).b = bin ∧ (s.ms.z k).o = good → comingTo s bin good (k + 1) = comingTo s bin good k + (s.ms.z k).n) ∧ (¬ ((s.ms.z k).b = bin ∧ (s.ms.z k).o = good) → comingTo s bin good (k + 1) = comingTo s bin good k)) := ⟨fun h => comingTo_hit h.1 h.2, comingTo_miss⟩
      have q4 : (0 : Int) ≤ (k : Int) := by omega
      rw [hma]
      obtain ⟨W1, hW1, hB1⟩ : ∃ W1, wr.alloc (.cells #[.int .i64 (s.ms.z k).o, .int .i64 (s.ms.z k).l, .int .i64 (s.ms.z k).b, .int .i64 (s.ms.z k).n] 66) = W1 ∧ Below W0.heap.size W0 W1 := ⟨_, rfl, hB.alloc hB.size _⟩
      have HV : Hid (wr.alloc (.cells #[.int .i64 (s.ms.z k).o, .int .i64 (s.ms.z k).l, .int .i64 (s.ms.z k).b, .int .i64 (s.ms.z k).n] 66) = W1) := hW1
      clear hma hsk hW1 c3 hlt0
      generalize comingTo s bin good k = U at *
      generalize (s.ms.z k).b = BB at *
      generalize (s.ms.z k).n = NN at *
      generalize (s.ms.z k).l = LL at *
      generalize (s.ms.z k).o = GD at *
      cases h1 : (BB == (bin : Int))
      · have hm := H1.out.2 (by simp at h1; omega)
        have HM : Hid (comingTo s bin good (k + 1) = U) := hm
        clear hm H1
        go_wp2_with fail
        rw [HV.out]
        go_roundw
        case rel => exact ⟨k + 1, by omega, by go_num, by rw [HM.out], hB1⟩
        case measure => simp [intOf]; omega
      · cases h2 : (GD == (good : Int))
        · have hm := H1.out.2 (by simp at h2; omega)
          have HM : Hid (comingTo s bin good (k + 1) = U) := hm
          clear hm H1
          go_wp2_with fail
          rw [HV.out]
          go_roundw
          case rel => exact ⟨k + 1, by omega, by go_num, by rw [HM.out], hB1⟩
          case measure => simp [intOf]; omega
        · have hm := H1.out.1 ⟨by simpa using h1, by simpa using h2⟩
          have HM : Hid (comingTo s bin good (k + 1) = U + NN) := hm
          clear hm H1
          go_wp2_with fail
          rw [HV.out]
          go_roundw
          case rel => exact ⟨k + 1, by omega, by go_num, by rw [HM.out]; congr 1; omega, hB1⟩
          case measure => simp [intOf]; omega
    · have hkn : k = s.ms.n := by omega
      subst hkn
      go_wp2_with fail
      go_ret
      exact ⟨by rw [HLY.out _ rfl]; rfl, hWB.trans (hB.mono hWB.size)⟩
end Go.Proofs.Ytbcacebifpagpad
namespace Go.Proofs.Ytbcacebifpagpad
open Go.RowKit Go.Shelf Go.Sort
set_option linter.unusedVariables false
theorem OwnS.swap {A B : Nat} {w0 w : World} {o : St} {r : Sh} (h : OwnS A w0 o) (hB : Below w0.heap.size w0 w) (hR : OwnR B w r) (hw : w0.heap.size ≤ B) (hA : A ≤ B) : OwnS A w ⟨r, o.os, o.hs, o.ms, o.si, o.so, o.sf⟩ := by
  have k := OwnS.below h hB
  obtain ⟨G1, a1, -, -, -, k1⟩ := h.si
  obtain ⟨G2, a2, -, -, -, k2⟩ := h.so
  obtain ⟨G3, a3, -, -, -, k3⟩ := h.sf
  have l1 := k1.lt
  have l2 := k2.lt
  have l3 := k3.lt
  refine ⟨?_, fun i hi => ?_, hR.rapart, k.os, k.hs, k.ms, k.msr, k.si, k.so, k.sf, k.aio, k.aif, k.aof, fun i hi => ?_⟩
  · obtain ⟨g, h1, h2, h3⟩ := hR.on
    exact ⟨g, h1, by omega, h3⟩
  · obtain ⟨g, h1, h2, h3⟩ := hR.rows i hi
    exact ⟨g, h1, by omega, h3⟩
  · obtain ⟨g, h1, h2, h3⟩ := hR.rows i hi
    show (r.r i).a ≠ o.si.a ∧ (r.r i).a ≠ o.so.a ∧ (r.r i).a ≠ o.sf.a
    rw [h1, a1, a2, a3]
    simp only [ne_eq, Option.some.injEq, Addr.mk.injEq, and_true]
    omega
set_option maxRecDepth 100000 in
set_option maxHeartbeats 8000000 in
theorem ReceiveOwn_any (p : Pl) (s : St) (bin good n : Int) (w : World) (hp : p.At w) (hs : s.At w) :
    Calls Try.prog 7 #[p.val, s.val, .int .i64 bin, .int .i64 good, .int .i64 n] w fun e w' => ∃ s' : St, e = .returned (.tuple #[s'.val, .int .i64 (recvE p s bin good n)]) ∧ s'.At w' ∧ ActOK (recvE p s bin good n) (recvT s bin.toNat good.toNat n) s' ∧ (recvE p s bin good n = 0 → OwnS w.heap.size w' s') ∧ Below w.heap.size w w' := by
  obtain ⟨W0, hW, hWB, X0, Z0⟩ : ∃ W, (((w.alloc (.cells #[.slice p.ab p.nb p.cb, .slice p.sa p.ns p.cs] 25)).alloc (.cells s.cells 31)).alloc (.cells #[.slice .none 0 0, .slice .none 0 0, .slice .none 0 0, .slice .none 0 0, .slice .none 0 0, .slice .none 0 0, .slice .none 0 0] 31)) = W ∧ Below w.heap.size w W ∧ Boxes W w.heap.size (w.heap.size + 1) p s ∧ Blk W (w.heap.size + 2) 31 7 (fun _ => .slice .none 0 0) :=
    ⟨_, rfl, (two_below _ _ _).alloc (by simp; omega) _, (boxes_new w p s _ _).below ((Below.refl _ _).alloc (Nat.le_refl _) _), (Blk.mk' (cur := #[.slice .none 0 0, .slice .none 0 0, .slice .none 0 0, .slice .none 0 0, .slice .none 0 0, .slice .none 0 0, .slice .none 0 0]) (by simp) rfl).congr (fun j hj => by match j, hj with | 0, _ => rfl | 1, _ => rfl | 2, _ => rfl | 3, _ => rfl | 4, _ => rfl | 5, _ => rfl | 6, _ => rfl)⟩
  have HC : Hid (∀ wk, Below W0.heap.size W0 wk → Boxes wk w.heap.size (w.heap.size + 1) p s ∧ p.At wk ∧ s.At wk ∧ Below w.heap.size w wk ∧ Blk wk (w.heap.size + 2) 31 7 (fun _ => .slice .none 0 0)) := fun wk h => ⟨X0.below h, (hp.below hWB).below h, (hs.below hWB).below h, hWB.trans (h.mono hWB.size), Z0.below h⟩
  have HW : Hid (((w.alloc (.cells #[.slice p.ab p.nb p.cb, .slice p.sa p.ns p.cs] 25)).alloc (.cells #[.slice s.on.a s.on.n s.on.c, .slice s.os.a s.os.n s.os.c, .slice s.hs.a s.hs.n s.hs.c, .slice s.ms.a s.ms.n s.ms.c, .slice s.si.a s.si.n s.si.c, .slice s.so.a s.so.n s.so.c, .slice s.sf.a s.sf.n s.sf.c] 31)).alloc (.cells #[.slice .none 0 0, .slice .none 0 0, .slice .none 0 0, .slice .none 0 0, .slice .none 0 0, .slice .none 0 0, .slice .none 0 0] 31) = W0) := hW
  have leb := hp.leb
  have capb0 := hp.capb
  have les := hp.les
  have caps0 := hp.caps
  have capb := capb0
  have caps := caps0
  have zlt0 := Z0.lt
  unfold maxLen at capb caps
  clear hW X0 Z0 hp hs
  unfold Pl.val St.val
  go_enter Try.func7, Try.ntmps7
  go_wp2_with fail
  rw [HW.out]
  obtain ⟨X, hpk, hsk, hBw, hz⟩ := HC.out W0 (Below.refl _ _)
  refine (stateCheck_any p s W0 hpk hsk).mono ?_
  rintro e w1 ⟨rfl, hB⟩
  clear X hpk hsk hBw hz HW
  obtain ⟨⟨⟨l1, d0, d1⟩, l2, c0, c1, c2, c3, c4, c5, c6⟩, hpk, hsk, hBw, hz⟩ := HC.out w1 hB
  have hnb : p.nb ≤ maxLen := Nat.le_trans leb capb0
  have hns : p.ns ≤ maxLen := Nat.le_trans les caps0
  by_cases h0 : stateE p s = 0
  · have H0 : Hid (stateE p s = 0) := h0
    have HF : Hid (Formed p s) := (rightT h0).fm
    rw [h0]
    clear h0
    cases k1 : inB bin 0 ((p.nb : Int) - 1)
    · have HX : Hid (recvE p s bin good n = 3) := recvE_range H0.out (by rw [k1]; rfl)
      clear c0 c1 c2 c3 c4 c5 c6 hpk hsk
      have zl := hz.lt
      have zf0 := hz.frozen 0
      have zc0 := hz.cell (j := 0) (by decide)
      have zf1 := hz.frozen 1
      have zc1 := hz.cell (j := 1) (by decide)
      have zf2 := hz.frozen 2
      have zc2 := hz.cell (j := 2) (by decide)
      have zf3 := hz.frozen 3
      have zc3 := hz.cell (j := 3) (by decide)
      have zf4 := hz.frozen 4
      have zc4 := hz.cell (j := 4) (by decide)
      have zf5 := hz.frozen 5
      have zc5 := hz.cell (j := 5) (by decide)
      have zf6 := hz.frozen 6
      have zc6 := hz.cell (j := 6) (by decide)
      go_wp2_with (first | (go_at_call_of 22 (Value.int .i64 bin); refine calls_to (Has_any _ _ _ hnb) ?_) | (go_at_call_of 22 (Value.int .i64 good); refine calls_to (Has_any _ _ _ hns) ?_) | (go_at_call 23; refine calls_to (Within_any _ _ _ _) ?_))
      have KZ := set7_blk hz (.slice .none 0 0) (.slice .none 0 0) (.slice .none 0 0) (.slice .none 0 0) (.slice .none 0 0) (.slice .none 0 0) (.slice .none 0 0)
      have hbz := set7_below (b := w.heap.size + 2) hBw (by omega) (.slice .none 0 0) (.slice .none 0 0) (.slice .none 0 0) (.slice .none 0 0) (.slice .none 0 0) (.slice .none 0 0) (.slice .none 0 0)
      unfold set7 at KZ hbz
      obtain ⟨c0', c1', c2', c3', c4', c5', c6'⟩ := box_cells KZ
      refine bodyPost_ret (v := .tuple #[noneS.val, .int .i64 3]) (by simp [results, Try.results7, go_sem, noneS, St.val, c0', c1', c2', c3', c4', c5', c6']) rfl ?_
      exact ⟨noneS, by rw [HX.out]; rfl, noneS_at _, ⟨fun h => absurd h (by rw [HX.out]; decide), fun _ => ⟨rfl, rfl, rfl, rfl, rfl, rfl, rfl⟩⟩, fun h => absurd h (by rw [HX.out]; decide), hbz⟩
    cases k2 : inB good 0 ((p.ns : Int) - 1)
    · have HX : Hid (recvE p s bin good n = 3) := recvE_range H0.out (by rw [k1, k2]; rfl)
      clear c0 c1 c2 c3 c4 c5 c6 hpk hsk
      have zl := hz.lt
      have zf0 := hz.frozen 0
      have zc0 := hz.cell (j := 0) (by decide)
      have zf1 := hz.frozen 1
      have zc1 := hz.cell (j := 1) (by decide)
      have zf2 := hz.frozen 2
      have zc2 := hz.cell (j := 2) (by decide)
      have zf3 := hz.frozen 3
      have zc3 := hz.cell (j := 3) (by decide)
      have zf4 := hz.frozen 4
      have zc4 := hz.cell (j := 4) (by decide)
      have zf5 := hz.frozen 5
      have zc5 := hz.cell (j := 5) (by decide)
      have zf6 := hz.frozen 6
      have zc6 := hz.cell (j := 6) (by decide)
      go_wp2_with (first | (go_at_call_of 22 (Value.int .i64 bin); refine calls_to (Has_any _ _ _ hnb) ?_) | (go_at_call_of 22 (Value.int .i64 good); refine calls_to (Has_any _ _ _ hns) ?_) | (go_at_call 23; refine calls_to (Within_any _ _ _ _) ?_))
      have KZ := set7_blk hz (.slice .none 0 0) (.slice .none 0 0) (.slice .none 0 0) (.slice .none 0 0) (.slice .none 0 0) (.slice .none 0 0) (.slice .none 0 0)
      have hbz := set7_below (b := w.heap.size + 2) hBw (by omega) (.slice .none 0 0) (.slice .none 0 0) (.slice .none 0 0) (.slice .none 0 0) (.slice .none 0 0) (.slice .none 0 0) (.slice .none 0 0)
      unfold set7 at KZ hbz
      obtain ⟨c0', c1', c2', c3', c4', c5', c6'⟩ := box_cells KZ
      refine bodyPost_ret (v := .tuple #[noneS.val, .int .i64 3]) (by simp [results, Try.results7, go_sem, noneS, St.val, c0', c1', c2', c3', c4', c5', c6']) rfl ?_
      exact ⟨noneS, by rw [HX.out]; rfl, noneS_at _, ⟨fun h => absurd h (by rw [HX.out]; decide), fun _ => ⟨rfl, rfl, rfl, rfl, rfl, rfl, rfl⟩⟩, fun h => absurd h (by rw [HX.out]; decide), hbz⟩
    cases k3 : inB n 1 200
    · have HX : Hid (recvE p s bin good n = 3) := recvE_range H0.out (by rw [k1, k2, k3]; rfl)
      clear c0 c1 c2 c3 c4 c5 c6 hpk hsk
      have zl := hz.lt
      have zf0 := hz.frozen 0
      have zc0 := hz.cell (j := 0) (by decide)
      have zf1 := hz.frozen 1
      have zc1 := hz.cell (j := 1) (by decide)
      have zf2 := hz.frozen 2
      have zc2 := hz.cell (j := 2) (by decide)
      have zf3 := hz.frozen 3
      have zc3 := hz.cell (j := 3) (by decide)
      have zf4 := hz.frozen 4
      have zc4 := hz.cell (j := 4) (by decide)
      have zf5 := hz.frozen 5
      have zc5 := hz.cell (j := 5) (by decide)
      have zf6 := hz.frozen 6
      have zc6 := hz.cell (j := 6) (by decide)
      go_wp2_with (first | (go_at_call_of 22 (Value.int .i64 bin); refine calls_to (Has_any _ _ _ hnb) ?_) | (go_at_call_of 22 (Value.int .i64 good); refine calls_to (Has_any _ _ _ hns) ?_) | (go_at_call 23; refine calls_to (Within_any _ _ _ _) ?_))
      have KZ := set7_blk hz (.slice .none 0 0) (.slice .none 0 0) (.slice .none 0 0) (.slice .none 0 0) (.slice .none 0 0) (.slice .none 0 0) (.slice .none 0 0)
      have hbz := set7_below (b := w.heap.size + 2) hBw (by omega) (.slice .none 0 0) (.slice .none 0 0) (.slice .none 0 0) (.slice .none 0 0) (.slice .none 0 0) (.slice .none 0 0) (.slice .none 0 0)
      unfold set7 at KZ hbz
      obtain ⟨c0', c1', c2', c3', c4', c5', c6'⟩ := box_cells KZ
      refine bodyPost_ret (v := .tuple #[noneS.val, .int .i64 3]) (by simp [results, Try.results7, go_sem, noneS, St.val, c0', c1', c2', c3', c4', c5', c6']) rfl ?_
      exact ⟨noneS, by rw [HX.out]; rfl, noneS_at _, ⟨fun h => absurd h (by rw [HX.out]; decide), fun _ => ⟨rfl, rfl, rfl, rfl, rfl, rfl, rfl⟩⟩, fun h => absurd h (by rw [HX.out]; decide), hbz⟩
    obtain ⟨b, rfl⟩ := Int.eq_ofNat_of_zero_le (inB_true k1).1
    obtain ⟨g, rfl⟩ := Int.eq_ofNat_of_zero_le (inB_true k2).1
    have hb : b < p.nb := by have := (inB_true k1).2; omega
    have hg : g < p.ns := by have := (inB_true k2).2; omega
    have hn := inB_true k3
    have K3 : Hid (inB n 1 200 = true) := k3
    have pz := HF.out.sh.pl.sizes g hg
    have fb := freeZ_bd HF.out hb
    have mb := mul_bd (a := n) (b := p.zs g) ⟨by omega, hn.2⟩ pz
    have qb : (0 : Int) ≤ (b : Int) := by omega
    have qg : (0 : Int) ≤ (g : Int) := by omega
    have HPS : Hid (p.At w1 ∧ s.At w1) := ⟨hpk, hsk⟩
    clear hpk hsk
    go_wp2_with (first | (go_at_call_of 22 (Value.int .i64 (b : Int)); refine calls_to (Has_any _ _ _ hnb) ?_) | (go_at_call_of 22 (Value.int .i64 (g : Int)); refine calls_to (Has_any _ _ _ hns) ?_) | (go_at_call 23; refine calls_to (Within_any _ _ _ _) ?_))
    refine (Free_any p s b w1 HPS.out.1 HPS.out.2).mono ?_
    rintro e w2 ⟨rfl, hB2⟩
    have hB := hB.trans (hB2.mono hB.size)
    clear l1 d0 d1 l2 c0 c1 c2 c3 c4 c5 c6 hBw hz hB2 HPS
    obtain ⟨⟨⟨l1, d0, d1⟩, l2, c0, c1, c2, c3, c4, c5, c6⟩, hpk, hsk, hBw, hz⟩ := HC.out w2 hB
    obtain ⟨bz, oz, hsa, hbz, y0⟩ := hpk.sizes g hg
    have HSA : Hid (p.sa = some ⟨bz, oz, none⟩ ∧ p.At w2 ∧ s.At w2) := ⟨hsa, hpk, hsk⟩
    rw [hsa] at d1
    have HFV : Hid (freeV p s b = freeZ p s b ∧ freeE p s b = 0) := by
      have hu : usedE p s.on b = 0 := by unfold usedE; rw [HF.out.sh0]; simp only [beq_self_eq_true, if_true]; rw [inB_mk (by have := HF.out.sh.n; omega)]; rfl
      have e : freeE p s b = 0 := by unfold freeE; rw [if_pos H0.out, hu]
      exact ⟨by unfold freeV; rw [e, if_pos rfl]; rfl, e⟩
    rw [HFV.out.1, HFV.out.2]
    have HT5 : Hid (freeZ p s b < n * p.zs g → recvE p s b g n = 5) := fun h => recvE_full H0.out hb hg K3.out h
    have HT2 : Hid (¬ freeZ p s b < n * p.zs g → (200 < lyingZ s b g + n ∨ 1048576 < s.si.z g + n) → recvE p s b g n = 2) := fun h h2 => recvE_many H0.out hb hg K3.out h h2
    have HT0 : Hid (¬ freeZ p s b < n * p.zs g → ¬ (200 < lyingZ s b g + n ∨ 1048576 < s.si.z g + n) → recvE p s b g n = 0) := fun h h2 => recvE_ok H0.out hb hg K3.out h h2
    clear HFV k1 k2 hsa hpk hsk
    generalize freeZ p s b = FR at *
    generalize p.zs g = PZ at *
    by_cases h5 : FR < n * PZ
    · have HX : Hid (recvE p s b g n = 5) := HT5.out h5
      clear c0 c1 c2 c3 c4 c5 c6
      have zl := hz.lt
      have zf0 := hz.frozen 0
      have zc0 := hz.cell (j := 0) (by decide)
      have zf1 := hz.frozen 1
      have zc1 := hz.cell (j := 1) (by decide)
      have zf2 := hz.frozen 2
      have zc2 := hz.cell (j := 2) (by decide)
      have zf3 := hz.frozen 3
      have zc3 := hz.cell (j := 3) (by decide)
      have zf4 := hz.frozen 4
      have zc4 := hz.cell (j := 4) (by decide)
      have zf5 := hz.frozen 5
      have zc5 := hz.cell (j := 5) (by decide)
      have zf6 := hz.frozen 6
      have zc6 := hz.cell (j := 6) (by decide)
      go_wp2_with fail
      have KZ := set7_blk hz (.slice .none 0 0) (.slice .none 0 0) (.slice .none 0 0) (.slice .none 0 0) (.slice .none 0 0) (.slice .none 0 0) (.slice .none 0 0)
      have hbz := set7_below (b := w.heap.size + 2) hBw (by omega) (.slice .none 0 0) (.slice .none 0 0) (.slice .none 0 0) (.slice .none 0 0) (.slice .none 0 0) (.slice .none 0 0) (.slice .none 0 0)
      unfold set7 at KZ hbz
      obtain ⟨c0', c1', c2', c3', c4', c5', c6'⟩ := box_cells KZ
      refine bodyPost_ret (v := .tuple #[noneS.val, .int .i64 5]) (by simp [results, Try.results7, go_sem, noneS, St.val, c0', c1', c2', c3', c4', c5', c6']) rfl ?_
      exact ⟨noneS, by rw [HX.out]; rfl, noneS_at _, ⟨fun h => absurd h (by rw [HX.out]; decide), fun _ => ⟨rfl, rfl, rfl, rfl, rfl, rfl, rfl⟩⟩, fun h => absurd h (by rw [HX.out]; decide), hbz⟩
    · have d5 : decide (FR < n * PZ) = false := by simp; omega
      have hz0 := hz.lt
      clear hz
      go_wp2_with fail
      refine (Lying_any p s b g w2 HSA.out.2.2 HF.out hb hg).mono ?_
      rintro e w3 ⟨rfl, hB2⟩
      have hB := hB.trans (hB2.mono hB.size)
      clear l1 d0 d1 l2 c0 c1 c2 c3 c4 c5 c6 hBw hB2 HSA y0 hz0 hbz d5
      obtain ⟨⟨⟨l1, d0, d1⟩, l2, c0, c1, c2, c3, c4, c5, c6⟩, hpk, hsk, hBw, hz⟩ := HC.out w3 hB
      obtain ⟨bi, oi, hia, hbi, y2⟩ := hsk.si.ints g (by rw [HF.out.sin]; exact hg)
      have v5 := hsk.si.le
      have v6 := hsk.si.cap
      unfold maxLen at v6
      have u3 := HF.out.sib g hg
      have si1 : g < s.si.n := by rw [HF.out.sin]; exact hg
      have ly : 0 ≤ lyingZ s b g ∧ lyingZ s b g ≤ 1800 := by
        have hon : b < s.on.n := by rw [HF.out.sh.n]; exact hb
        have u1 := HF.out.sh.num b hon g hg
        have u2 := comingTo_bd (s := s) (b := b) (g := g) HF.out.moveN
        have ms8 := HF.out.ms8
        unfold lyingZ
        omega
      have HSA : Hid (p.At w3 ∧ s.At w3 ∧ s.si.a = some ⟨bi, oi, none⟩) := ⟨hpk, hsk, hia⟩
      have HT2' := HT2.out h5
      have HT0' := HT0.out h5
      have HRE : Hid (recvT s b g n = setIn (setOn s b g ((s.on.r b).z g + n)) g (s.si.z g + n)) := rfl
      clear HT2 HT0
      have HLY : Hid (lyingZ s b g = (s.on.r b).z g + comingTo s b g s.ms.n) := rfl
      clear hpk hsk
      generalize lyingZ s b g = LY at *
      generalize hSI : s.si.z g = SI at *
      have HSI : Hid (s.si.z g = SI) := hSI
      clear hSI
      rw [hia] at c4
      clear hia
      cases d6 : decide (200 - LY < n)
      · cases d7 : decide (1048576 - SI < n)
        · have HX : Hid (recvE p s b g n = 0) := HT0' (by simp at d6 d7; omega)
          have hput : putE p s.on b g n = 0 := by
            have hon : b < s.on.n := by rw [HF.out.sh.n]; exact hb
            have hu : shelfErr p s.on b g = 0 := by rw [shelfErr_eq HF.out.sh0, inB_mk (by omega), inB_mk (by omega)]; rfl
            have u1 := HF.out.sh.num b hon g hg
            have u2 := (comingTo_bd (s := s) (b := b) (g := g) HF.out.moveN).1
            have ee := HLY.out
            have hi : inB n (-((s.on.r b).z g)) (200 - (s.on.r b).z g) = true := inB_mk (by simp at d6; omega)
            simp [putE, hu, hi]
          have HPUT : Hid (putE p s.on b g n = 0) := hput
          have hz0 := hz.lt
          have hcs := copyState_any p s w3 HSA.out.2.1 HF.out
          rw [St.val, HSA.out.2.2] at hcs
          have HCS : Hid _ := hcs
          clear HT2' HT0' hput hcs hz
          go_wp2_with fail
          refine Calls.mono HCS.out ?_
          rintro e w4 ⟨o, rfl, hsame, hown, hB2⟩
          clear HCS
          have hB4 := hB.trans (hB2.mono hB.size)
          have q3 := hB.size
          have HLOW : Hid (w.heap.size ≤ w3.heap.size) := Nat.le_trans (HC.out _ (Below.refl _ _)).2.2.2.1.size hB.size
          have q4 := hB2.size
          have HIN : Hid (o.si.n = p.ns) := hsame.si.1.trans HF.out.sin
          have HSQ : Hid (o.si.z g = SI) := (hsame.si.2 g (by rw [HIN.out]; exact hg)).trans HSI.out
          obtain ⟨W5, hW5, hWB5, K5⟩ : ∃ W, w4.alloc (.cells #[.slice o.on.a o.on.n o.on.c, .slice o.os.a o.os.n o.os.c, .slice o.hs.a o.hs.n o.hs.c, .slice o.ms.a o.ms.n o.ms.c, .slice o.si.a o.si.n o.si.c, .slice o.so.a o.so.n o.so.c, .slice o.sf.a o.sf.n o.sf.c] 31) = W ∧ Below w4.heap.size w4 W ∧ Blk W w4.heap.size 31 7 (fun j => o.cells.getD j default) := ⟨_, rfl, (Below.refl _ _).alloc (Nat.le_refl _) _, Blk.mk' rfl rfl⟩
          have HW5 : Hid (w4.alloc (.cells #[.slice o.on.a o.on.n o.on.c, .slice o.os.a o.os.n o.os.c, .slice o.hs.a o.hs.n o.hs.c, .slice o.ms.a o.ms.n o.ms.c, .slice o.si.a o.si.n o.si.c, .slice o.so.a o.so.n o.so.c, .slice o.sf.a o.sf.n o.sf.c] 31) = W5) := hW5
          have hB5 := hB4.trans (hWB5.mono hB4.size)
          have hown5 := OwnS.below hown hWB5
          clear l1 d0 d1 l2 c0 c1 c2 c3 c4 c5 c6 hBw HSA hz0 hbi y2
          obtain ⟨⟨⟨l1, d0, d1⟩, l2, c0, -⟩, hpk, hsk, hBw, -⟩ := HC.out W5 hB5
          have HAT : Hid (p.At W5 ∧ s.At W5) := ⟨hpk, hsk⟩
          have HOW : Hid (OwnS w3.heap.size W5 o ∧ Blk W5 w4.heap.size 31 7 (fun j => o.cells.getD j default) ∧ SameT o s) := ⟨hown5, K5, hsame⟩
          have l1e := l1
          have l2e := l2
          have d0e := d0
          have d1e := d1
          have c0e := c0
          rw [← HW5.out] at l1e l2e d0e d1e c0e
          clear hown hown5 K5 hsame hpk hsk hBw l1 l2 d0 d1 c0 hW5
          simp only [St.val]
          go_wp2_with fail
          rw [HW5.out]
          clear l1e l2e d0e d1e c0e HW5
          refine (PutOwn_any p s.on b g n W5 HAT.out.1 HAT.out.2.on HPUT.out).mono ?_
          rintro e w6 ⟨r, rfl, hR, hrn, hrz, hB6⟩
          obtain ⟨hO5, K5, hsame⟩ := HOW.out
          have q5 := hWB5.size
          have q6 := hB6.size
          have hB6' := hB5.trans (hB6.mono hB5.size)
          have hOa := OwnS.swap hO5 hB6 hR (Nat.le_refl _) (by omega)
          have K6 := K5.below hB6
          obtain ⟨Gi, hia, iA, i1, i2, ik⟩ := hOa.si
          have hOb := hOa.box K6 0 (.slice r.a r.n r.c)
          have K7 := K6.set 0 (.slice r.a r.n r.c)
          have hB7 := hB6'.setCell (p := ⟨w4.heap.size, 0, none⟩) (by show W0.heap.size ≤ w4.heap.size; omega) (.slice r.a r.n r.c)
          obtain ⟨Gi', hia', -, -, -, jk⟩ := hOb.si
          rw [show (⟨r, o.os, o.hs, o.ms, o.si, o.so, o.sf⟩ : St).si = o.si from rfl] at hia hia' jk i1 i2
          rw [hia] at hia'
          simp only [Option.some.injEq, Addr.mk.injEq, and_true] at hia'
          subst hia'
          have hOc := hOb.setIn (show (⟨r, o.os, o.hs, o.ms, o.si, o.so, o.sf⟩ : St).si.a = some ⟨Gi, 0, none⟩ from hia) g (SI + n)
          have K8 := K7.other (a := ⟨Gi, g, none⟩) (Blk.ne2 K7 jk (by decide)) (.int .i64 (SI + n))
          have hB8 := hB7.setCell (p := ⟨Gi, g, none⟩) (by show W0.heap.size ≤ Gi; omega) (.int .i64 (SI + n))
          have HEND : Hid (Below W0.heap.size W0 ((w6.setCell ⟨w4.heap.size, 0, none⟩ (.slice r.a r.n r.c)).setCell ⟨Gi, g, none⟩ (.int .i64 (SI + n))) ∧ OwnS w3.heap.size ((w6.setCell ⟨w4.heap.size, 0, none⟩ (.slice r.a r.n r.c)).setCell ⟨Gi, g, none⟩ (.int .i64 (SI + n))) (setIn ⟨r, o.os, o.hs, o.ms, o.si, o.so, o.sf⟩ g (SI + n)) ∧ Blk ((w6.setCell ⟨w4.heap.size, 0, none⟩ (.slice r.a r.n r.c)).setCell ⟨Gi, g, none⟩ (.int .i64 (SI + n))) w4.heap.size 31 7 (fun i => if i = 0 then .slice r.a r.n r.c else o.cells.getD i default)) := ⟨hB8, hOc, K8⟩
          have HSM : Hid (SameT (setIn ⟨r, o.os, o.hs, o.ms, o.si, o.so, o.sf⟩ g (SI + n)) (recvT s b g n)) := by
            show SameT _ (recvT s b g n)
            rw [HRE.out]
            refine setIn_same (s := ⟨r, o.os, o.hs, o.ms, o.si, o.so, o.sf⟩) (t := setOn s b g ((s.on.r b).z g + n)) ⟨⟨hrn, fun i hi => ?_⟩, hsame.os, hsame.hs, hsame.ms, hsame.si, hsame.so, hsame.sf⟩ _ _
            have hi' : i < s.on.n := by rw [← hrn]; exact hi
            have y := hrz i hi'
            show (r.r i).n = (if i = b then setRw (s.on.r i) g ((s.on.r b).z g + n) else s.on.r i).n ∧ ∀ j, j < (r.r i).n → (r.r i).z j = (if i = b then setRw (s.on.r i) g ((s.on.r b).z g + n) else s.on.r i).z j
            by_cases hib : i = b
            · subst hib
              rw [if_pos rfl]
              refine ⟨y.1, fun j hj => ?_⟩
              rw [y.2 j (by rw [← y.1]; exact hj)]
              show putZ s.on i g n i j = if j = g then (s.on.r i).z g + n else (s.on.r i).z j
              unfold putZ
              by_cases hjg : j = g
              · subst hjg; simp
              · simp [hjg]
            · rw [if_neg hib]
              refine ⟨y.1, fun j hj => ?_⟩
              rw [y.2 j (by rw [← y.1]; exact hj)]
              unfold putZ
              simp [hib]
          have z1 := K6.lt
          have z2 := K6.frozen 0
          have z3 := K6.cell (j := 0) (by decide)
          have y4 : (w6.setCell ⟨w4.heap.size, 0, none⟩ (.slice r.a r.n r.c)).cell? ⟨w4.heap.size, 4, none⟩ = some (.slice o.si.a o.si.n o.si.c) := K7.cell (j := 4) (by decide)
          rw [hia, HIN.out] at y4
          have y5 : (w6.setCell ⟨w4.heap.size, 0, none⟩ (.slice r.a r.n r.c)).cell? ⟨Gi, g, none⟩ = some (.int .i64 (o.si.z g)) := jk.cell (j := g) (by rw [HIN.out]; exact hg)
          rw [HSQ.out] at y5
          have y6 := jk.lt
          have y7 := jk.frozen g
          have y8 := K7.lt
          have HIA : Hid (o.si.a = some ⟨Gi, 0, none⟩) := hia
          rw [HIN.out] at i1
          unfold maxLen at i2
          obtain ⟨-, -, -, hBw8, hz8⟩ := HC.out _ hB8
          have m8 := K8.lt
          have e0 : ((w6.setCell ⟨w4.heap.size, 0, none⟩ (.slice r.a r.n r.c)).setCell ⟨Gi, g, none⟩ (.int .i64 (SI + n))).cell? ⟨w4.heap.size, 0, none⟩ = some (.slice r.a r.n r.c) := K8.cell (j := 0) (by decide)
          have e1 : ((w6.setCell ⟨w4.heap.size, 0, none⟩ (.slice r.a r.n r.c)).setCell ⟨Gi, g, none⟩ (.int .i64 (SI + n))).cell? ⟨w4.heap.size, 1, none⟩ = some (.slice o.os.a o.os.n o.os.c) := K8.cell (j := 1) (by decide)
          have e2 : ((w6.setCell ⟨w4.heap.size, 0, none⟩ (.slice r.a r.n r.c)).setCell ⟨Gi, g, none⟩ (.int .i64 (SI + n))).cell? ⟨w4.heap.size, 2, none⟩ = some (.slice o.hs.a o.hs.n o.hs.c) := K8.cell (j := 2) (by decide)
          have e3 : ((w6.setCell ⟨w4.heap.size, 0, none⟩ (.slice r.a r.n r.c)).setCell ⟨Gi, g, none⟩ (.int .i64 (SI + n))).cell? ⟨w4.heap.size, 3, none⟩ = some (.slice o.ms.a o.ms.n o.ms.c) := K8.cell (j := 3) (by decide)
          have e4 : ((w6.setCell ⟨w4.heap.size, 0, none⟩ (.slice r.a r.n r.c)).setCell ⟨Gi, g, none⟩ (.int .i64 (SI + n))).cell? ⟨w4.heap.size, 4, none⟩ = some (.slice o.si.a o.si.n o.si.c) := K8.cell (j := 4) (by decide)
          have e5 : ((w6.setCell ⟨w4.heap.size, 0, none⟩ (.slice r.a r.n r.c)).setCell ⟨Gi, g, none⟩ (.int .i64 (SI + n))).cell? ⟨w4.heap.size, 5, none⟩ = some (.slice o.so.a o.so.n o.so.c) := K8.cell (j := 5) (by decide)
          have e6 : ((w6.setCell ⟨w4.heap.size, 0, none⟩ (.slice r.a r.n r.c)).setCell ⟨Gi, g, none⟩ (.int .i64 (SI + n))).cell? ⟨w4.heap.size, 6, none⟩ = some (.slice o.sf.a o.sf.n o.sf.c) := K8.cell (j := 6) (by decide)
          have zl := hz8.lt
          have zf0 := hz8.frozen 0
          have zc0 := hz8.cell (j := 0) (by decide)
          have zf1 := hz8.frozen 1
          have zc1 := hz8.cell (j := 1) (by decide)
          have zf2 := hz8.frozen 2
          have zc2 := hz8.cell (j := 2) (by decide)
          have zf3 := hz8.frozen 3
          have zc3 := hz8.cell (j := 3) (by decide)
          have zf4 := hz8.frozen 4
          have zc4 := hz8.cell (j := 4) (by decide)
          have zf5 := hz8.frozen 5
          have zc5 := hz8.cell (j := 5) (by decide)
          have zf6 := hz8.frozen 6
          have zc6 := hz8.cell (j := 6) (by decide)
          clear hR hrn hrz hO5 K5 K6 K7 K8 hOa hOb hOc hB7 hB8 hB6 hB6' ik jk hsame hia hB5 hWB5 hBw8 hz8
          simp only [Sh.val]
          go_wp2_with fail
          obtain ⟨hBt, hOt, hKt⟩ := HEND.out
          obtain ⟨_, _, _, hBw, hz⟩ := HC.out _ hBt
          have KZ := set7_blk hz (.slice r.a r.n r.c) (.slice o.os.a o.os.n o.os.c) (.slice o.hs.a o.hs.n o.hs.c) (.slice o.ms.a o.ms.n o.ms.c) (.slice o.si.a o.si.n o.si.c) (.slice o.so.a o.so.n o.so.c) (.slice o.sf.a o.sf.n o.sf.c)
          have hbz := set7_below (b := w.heap.size + 2) hBw (by omega) (.slice r.a r.n r.c) (.slice o.os.a o.os.n o.os.c) (.slice o.hs.a o.hs.n o.hs.c) (.slice o.ms.a o.ms.n o.ms.c) (.slice o.si.a o.si.n o.si.c) (.slice o.so.a o.so.n o.so.c) (.slice o.sf.a o.sf.n o.sf.c)
          have hOz := OwnS.set7 hOt hz (.slice r.a r.n r.c) (.slice o.os.a o.os.n o.os.c) (.slice o.hs.a o.hs.n o.hs.c) (.slice o.ms.a o.ms.n o.ms.c) (.slice o.si.a o.si.n o.si.c) (.slice o.so.a o.so.n o.so.c) (.slice o.sf.a o.sf.n o.sf.c)
          unfold set7 at KZ hbz hOz
          obtain ⟨c0', c1', c2', c3', c4', c5', c6'⟩ := box_cells KZ
          refine bodyPost_ret (v := .tuple #[(setIn ⟨r, o.os, o.hs, o.ms, o.si, o.so, o.sf⟩ g (SI + n)).val, .int .i64 0]) (by simp [results, Try.results7, go_sem, setIn, setRw, St.val, c0', c1', c2', c3', c4', c5', c6']) rfl ?_
          exact ⟨setIn ⟨r, o.os, o.hs, o.ms, o.si, o.so, o.sf⟩ g (SI + n), by rw [HX.out]; rfl, hOz.at, ⟨fun _ => HSM.out, fun h => absurd HX.out h⟩, fun _ => hOz.mono HLOW.out, hbz⟩
        · have HX : Hid (recvE p s b g n = 2) := HT2' (Or.inr (by simp at d7; omega))
          clear HT2' HT0'
          have zl := hz.lt
          have zf0 := hz.frozen 0
          have zc0 := hz.cell (j := 0) (by decide)
          have zf1 := hz.frozen 1
          have zc1 := hz.cell (j := 1) (by decide)
          have zf2 := hz.frozen 2
          have zc2 := hz.cell (j := 2) (by decide)
          have zf3 := hz.frozen 3
          have zc3 := hz.cell (j := 3) (by decide)
          have zf4 := hz.frozen 4
          have zc4 := hz.cell (j := 4) (by decide)
          have zf5 := hz.frozen 5
          have zc5 := hz.cell (j := 5) (by decide)
          have zf6 := hz.frozen 6
          have zc6 := hz.cell (j := 6) (by decide)
          go_wp2_with fail
          have KZ := set7_blk hz (.slice .none 0 0) (.slice .none 0 0) (.slice .none 0 0) (.slice .none 0 0) (.slice .none 0 0) (.slice .none 0 0) (.slice .none 0 0)
          have hbz := set7_below (b := w.heap.size + 2) hBw (by omega) (.slice .none 0 0) (.slice .none 0 0) (.slice .none 0 0) (.slice .none 0 0) (.slice .none 0 0) (.slice .none 0 0) (.slice .none 0 0)
          unfold set7 at KZ hbz
          obtain ⟨c0', c1', c2', c3', c4', c5', c6'⟩ := box_cells KZ
          refine bodyPost_ret (v := .tuple #[noneS.val, .int .i64 2]) (by simp [results, Try.results7, go_sem, noneS, St.val, c0', c1', c2', c3', c4', c5', c6']) rfl ?_
          exact ⟨noneS, by rw [HX.out]; rfl, noneS_at _, ⟨fun h => absurd h (by rw [HX.out]; decide), fun _ => ⟨rfl, rfl, rfl, rfl, rfl, rfl, rfl⟩⟩, fun h => absurd h (by rw [HX.out]; decide), hbz⟩
      · have HX : Hid (recvE p s b g n = 2) := HT2' (Or.inl (by simp at d6; omega))
        clear HT2' HT0'
        have zl := hz.lt
        have zf0 := hz.frozen 0
        have zc0 := hz.cell (j := 0) (by decide)
        have zf1 := hz.frozen 1
        have zc1 := hz.cell (j := 1) (by decide)
        have zf2 := hz.frozen 2
        have zc2 := hz.cell (j := 2) (by decide)
        have zf3 := hz.frozen 3
        have zc3 := hz.cell (j := 3) (by decide)
        have zf4 := hz.frozen 4
        have zc4 := hz.cell (j := 4) (by decide)
        have zf5 := hz.frozen 5
        have zc5 := hz.cell (j := 5) (by decide)
        have zf6 := hz.frozen 6
        have zc6 := hz.cell (j := 6) (by decide)
        go_wp2_with fail
        have KZ := set7_blk hz (.slice .none 0 0) (.slice .none 0 0) (.slice .none 0 0) (.slice .none 0 0) (.slice .none 0 0) (.slice .none 0 0) (.slice .none 0 0)
        have hbz := set7_below (b := w.heap.size + 2) hBw (by omega) (.slice .none 0 0) (.slice .none 0 0) (.slice .none 0 0) (.slice .none 0 0) (.slice .none 0 0) (.slice .none 0 0) (.slice .none 0 0)
        unfold set7 at KZ hbz
        obtain ⟨c0', c1', c2', c3', c4', c5', c6'⟩ := box_cells KZ
        refine bodyPost_ret (v := .tuple #[noneS.val, .int .i64 2]) (by simp [results, Try.results7, go_sem, noneS, St.val, c0', c1', c2', c3', c4', c5', c6']) rfl ?_
        exact ⟨noneS, by rw [HX.out]; rfl, noneS_at _, ⟨fun h => absurd h (by rw [HX.out]; decide), fun _ => ⟨rfl, rfl, rfl, rfl, rfl, rfl, rfl⟩⟩, fun h => absurd h (by rw [HX.out]; decide), hbz⟩
  · have HX : Hid (recvE p s bin good n = stateE p s) := recvE_state h0
    clear hpk hsk c0 c1 c2 c3 c4 c5 c6
    have zl := hz.lt
    have zf0 := hz.frozen 0
    have zc0 := hz.cell (j := 0) (by decide)
    have zf1 := hz.frozen 1
    have zc1 := hz.cell (j := 1) (by decide)
    have zf2 := hz.frozen 2
    have zc2 := hz.cell (j := 2) (by decide)
    have zf3 := hz.frozen 3
    have zc3 := hz.cell (j := 3) (by decide)
    have zf4 := hz.frozen 4
    have zc4 := hz.cell (j := 4) (by decide)
    have zf5 := hz.frozen 5
    have zc5 := hz.cell (j := 5) (by decide)
    have zf6 := hz.frozen 6
    have zc6 := hz.cell (j := 6) (by decide)
    go_wp2_with fail
    have KZ := set7_blk hz (.slice .none 0 0) (.slice .none 0 0) (.slice .none 0 0) (.slice .none 0 0) (.slice .none 0 0) (.slice .none 0 0) (.slice .none 0 0)
    have hbz := set7_below (b := w.heap.size + 2) hBw (by omega) (.slice .none 0 0) (.slice .none 0 0) (.slice .none 0 0) (.slice .none 0 0) (.slice .none 0 0) (.slice .none 0 0) (.slice .none 0 0)
    unfold set7 at KZ hbz
    obtain ⟨c0', c1', c2', c3', c4', c5', c6'⟩ := box_cells KZ
    refine bodyPost_ret (v := .tuple #[noneS.val, .int .i64 (stateE p s)]) (by simp [results, Try.results7, go_sem, noneS, St.val, c0', c1', c2', c3', c4', c5', c6']) rfl ?_
    exact ⟨noneS, by rw [HX.out]; rfl, noneS_at _, ⟨fun h => absurd h (by rw [HX.out]; exact h0), fun _ => ⟨rfl, rfl, rfl, rfl, rfl, rfl, rfl⟩⟩, fun h => absurd h (by rw [HX.out]; exact h0), hbz⟩
theorem Receive_any (p : Pl) (s : St) (bin good n : Int) (w : World) (hp : p.At w) (hs : s.At w) :
    Calls Try.prog 7 #[p.val, s.val, .int .i64 bin, .int .i64 good, .int .i64 n] w fun e w' => ∃ s' : St, e = .returned (.tuple #[s'.val, .int .i64 (recvE p s bin good n)]) ∧ s'.At w' ∧ ActOK (recvE p s bin good n) (recvT s bin.toNat good.toNat n) s' ∧ Below w.heap.size w w' :=
  (ReceiveOwn_any p s bin good n w hp hs).mono fun _ _ ⟨x, h1, h2, h3, _, h5⟩ => ⟨x, h1, h2, h3, h5⟩
end Go.Proofs.Ytbcacebifpagpad
namespace Go.Proofs.Ytbcacebifpagpad
open Go.RowKit Go.Shelf Go.Sort
set_option linter.unusedVariables false
def outL (p : Pl) (x : Hd) : Bool := !(inB x.o 0 ((p.ns : Int) - 1)) || !(inB x.l 1 200)
def begunL (x : Hd) : Bool := x.b != 0 || x.n != 0
def enterE (p : Pl) (s : St) (l : Hs) : Int :=
  if stateE p s = 0 then (if s.os.n = 4 ∨ ¬ (1 ≤ l.n ∧ l.n ≤ 3) then 2 else if anyB l.n (fun j => outL p (l.z j)) then 3 else if anyB l.n (fun j => begunL (l.z j)) then 1 else 0) else stateE p s
def enterT (s : St) (l : Hs) : St := ⟨s.on, ⟨s.os.a, s.os.n + 1, s.os.c, fun i => if i = s.os.n then ⟨0, l⟩ else s.os.z i⟩, s.hs, s.ms, s.si, s.so, s.sf⟩
theorem enterE_state {p : Pl} {s : St} {l : Hs} (h : ¬ stateE p s = 0) : enterE p s l = stateE p s := by unfold enterE; rw [if_neg h]
theorem enterE_many {p : Pl} {s : St} {l : Hs} (h : stateE p s = 0) (h1 : s.os.n = 4 ∨ ¬ (1 ≤ l.n ∧ l.n ≤ 3)) : enterE p s l = 2 := by unfold enterE; rw [if_pos h, if_pos h1]
theorem enterE_range {p : Pl} {s : St} {l : Hs} (h : stateE p s = 0) (h1 : ¬ (s.os.n = 4 ∨ ¬ (1 ≤ l.n ∧ l.n ≤ 3))) (h2 : anyB l.n (fun j => outL p (l.z j)) = true) : enterE p s l = 3 := by unfold enterE; rw [if_pos h, if_neg h1, if_pos h2]
theorem enterE_form {p : Pl} {s : St} {l : Hs} (h : stateE p s = 0) (h1 : ¬ (s.os.n = 4 ∨ ¬ (1 ≤ l.n ∧ l.n ≤ 3))) (h2 : ¬ anyB l.n (fun j => outL p (l.z j)) = true) (h3 : anyB l.n (fun j => begunL (l.z j)) = true) : enterE p s l = 1 := by unfold enterE; rw [if_pos h, if_neg h1, if_neg h2, if_pos h3]
theorem enterE_ok {p : Pl} {s : St} {l : Hs} (h : stateE p s = 0) (h1 : ¬ (s.os.n = 4 ∨ ¬ (1 ≤ l.n ∧ l.n ≤ 3))) (h2 : ¬ anyB l.n (fun j => outL p (l.z j)) = true) (h3 : ¬ anyB l.n (fun j => begunL (l.z j)) = true) : enterE p s l = 0 := by unfold enterE; rw [if_pos h, if_neg h1, if_neg h2, if_neg h3]
set_option maxHeartbeats 1000000 in
theorem Enter1_any (B : Nat) (p : Pl) (x : Hd) (w : World) (les : p.ns ≤ p.cs) (caps : p.cs ≤ maxLen) (hB : B < w.heap.size) (c1 : w.cell? ⟨B, 1, none⟩ = some (.slice p.sa p.ns p.cs)) :
    Calls Try.prog 37 #[x.val, .pointer (some ⟨B, 0, none⟩)] w fun e w' => e = .returned (.bool (outL p x)) ∧ Below w.heap.size w w' := by
  have hns : p.ns ≤ maxLen := Nat.le_trans les caps
  have hB0 : Below w.heap.size w (w.alloc (.cells #[.int .i64 x.o, .int .i64 x.l, .int .i64 x.b, .int .i64 x.n] 50)) := (Below.refl w.heap.size w).alloc (Nat.le_refl _) _
  have c1e := (hB0.cell (p := ⟨B, 1, none⟩) hB).trans c1
  have hBe : B < (w.alloc (.cells #[.int .i64 x.o, .int .i64 x.l, .int .i64 x.b, .int .i64 x.n] 50)).heap.size := by have := hB0.size; omega
  unfold outL Hd.val
  clear c1
  unfold maxLen at caps
  cases h1 : inB x.o 0 ((p.ns : Int) - 1)
  all_goals
    go_enter Try.func37, Try.ntmps37
    go_wp2_with (first | (go_at_call 22; refine calls_to (Has_any _ _ _ hns) ?_) | (go_at_call 23; refine calls_to (Within_any _ _ _ _) ?_))
    go_ret
    exact ⟨by simp, hB0⟩
set_option maxHeartbeats 1000000 in
theorem Enter2_any (x : Hd) (w : World) :
    Calls Try.prog 38 #[x.val] w fun e w' => e = .returned (.bool (begunL x)) ∧ Below w.heap.size w w' := by
  have hB0 : Below w.heap.size w (w.alloc (.cells #[.int .i64 x.o, .int .i64 x.l, .int .i64 x.b, .int .i64 x.n] 50)) := (Below.refl w.heap.size w).alloc (Nat.le_refl _) _
  unfold begunL Hd.val
  cases h1 : (x.b != 0)
  all_goals
    go_enter Try.func38, Try.ntmps38
    go_wp2_with fail
    go_ret
    exact ⟨by simp, hB0⟩
end Go.Proofs.Ytbcacebifpagpad
namespace Go.Proofs.Ytbcacebifpagpad
open Go.RowKit Go.Shelf
set_option linter.unusedVariables false
def Grew (A : Nat) (e : TypeId) (w w' : World) : Prop := ∃ row, w.grownBy w' row ∧ ∀ k, row = some k → A ≤ k ∧ ∃ cur, w.heap[k]? = some (.cells cur e (0, 0))
theorem Grew.blk {A : Nat} {e : TypeId} {w w' : World} (h : Grew A e w w') {q : Nat} {t : TypeId} {m : Nat} {f : Nat → Value} (hb : Blk w q t m f) (hne : t ≠ e) : Blk w' q t m f := by
  obtain ⟨row, hg, hr⟩ := h
  refine hb.grown hg fun hq => ?_
  obtain ⟨_, c2, hc2⟩ := hr q hq.symm
  obtain ⟨c3, hc3, _⟩ := hb
  rw [hc3] at hc2
  cases hc2
  exact hne rfl
theorem Grew.low {A : Nat} {e : TypeId} {w w' : World} (h : Grew A e w w') {q : Nat} {t : TypeId} {m : Nat} {f : Nat → Value} (hb : Blk w q t m f) (hq : q < A) : Blk w' q t m f := by
  obtain ⟨row, hg, hr⟩ := h
  exact hb.grown hg fun hq' => by have := (hr q hq'.symm).1; omega
theorem Grew.below {A A' : Nat} {e : TypeId} {w0 w w' : World} (h : Grew A e w w') (hB : Below A' w0 w) (hA : A' ≤ A) (hs : A' ≤ w.heap.size) : Below A' w0 w' := by
  obtain ⟨row, hg, hr⟩ := h
  exact hB.grown hg hs fun k hk => by have := (hr k hk).1; omega
theorem Room.grew {A B : Nat} {t : TypeId} {w w2 : World} {sz c : Nat} {a : Option Addr} {e : TypeId} (h : Room A w t sz a c) (hg : Grew B e w w2) (hne : t ≠ e) : Room A w2 t sz a c := by
  obtain ⟨row, hg, hr⟩ := hg
  refine h.same fun g cur hgc => hg.block g (Array.getElem?_eq_some_iff.1 hgc).1 fun hq => ?_
  obtain ⟨_, c2, hc2⟩ := hr g hq.symm
  rw [hgc] at hc2
  cases hc2
  exact hne rfl
theorem OwnI.grew {A B : Nat} {w w2 : World} {r : Rw} {e : TypeId} (h : OwnI A w r) (hg : Grew B e w w2) (hne : 3 ≠ e) : OwnI A w2 r := by
  obtain ⟨g, ha, h0, h1, h2, hb⟩ := h
  exact ⟨g, ha, h0, h1, h2, hg.blk hb hne⟩
theorem OwnH.grew {A B : Nat} {t : TypeId} {w w2 : World} {s : Hs} {e : TypeId} (h : OwnH A t w s) (hg : Grew B e w w2) (hne : t ≠ e) : OwnH A t w2 s := by
  obtain ⟨h1, h2, h3, h4⟩ := h
  refine ⟨h1, h2, h3, fun hn => ?_⟩
  obtain ⟨g, ha, hA, hb⟩ := h4 hn
  exact ⟨g, ha, hA, hg.blk hb hne⟩
theorem owns_mono {A A' : Nat} {w : World} {e : TypeId} {size : Nat} {v : Value} {n : Nat} {xs : List Value} (h : w.ownsRow A e size v n xs) (hA : A' ≤ A) : w.ownsRow A' e size v n xs :=
  ⟨h.1, h.2.imp_right fun ⟨g, cap, cur, h1, h2, h3⟩ => ⟨g, cap, cur, h1, Nat.le_trans hA h2, h3⟩⟩
theorem owns_of {A : Nat} {w : World} {e : TypeId} {size g c n : Nat} {cur : Array Value} {xs : List Value} (hA : A ≤ g) (hg : w.heap[g]? = some (.cells cur e (0, 0))) (hsz : cur.size = c * size) (hle : n ≤ c) (hcap : c ≤ maxLen) (hl : xs.length = n * size)
    (hb : 0 < n → Blk w g e (n * size) (fun j => xs.getD j default)) : w.ownsRow A e size (.slice (some ⟨g, 0, none⟩) n c) n xs := by
  refine ⟨hl, Or.inr ⟨g, c, cur, rfl, hA, hg, hle, hcap, hsz, ?_⟩⟩
  apply List.ext_getElem?
  intro j
  rw [List.getElem?_take]
  by_cases hj : j < n * size
  · rw [if_pos hj]
    have hn : 0 < n := by
      rcases Nat.eq_zero_or_pos n with h | h
      · subst h; simp at hj
      · exact h
    obtain ⟨cur', hc, _, hf⟩ := hb hn
    rw [hg] at hc
    cases hc
    have h1 := hf j hj
    have h2 : j < xs.length := by omega
    rw [List.getElem?_eq_getElem h2]
    simp only [List.getD, List.getElem?_eq_getElem h2, Option.getD_some] at h1
    simpa using h1
  · rw [if_neg hj, List.getElem?_eq_none (by omega)]
theorem wpList_append_room {P : Program} (w : World) {ops : Array Oper} {rest : List Oper} {o : Oper} {a : Act} {Q : Exit → Act → World → Prop}
    (hg : o.guard = none) (s x : Operand) (t : TypeId) (hop : o.op = Op.call { callee := Callee.builtin Builtin.append, args := #[s, x], argTypes := #[t, t] })
    (A : Nat) (e : TypeId) (i : TypeInfo) (z : Value) (size bytes : Nat) (h1 : P.underlying t = some (.slice e)) (h2 : P.info? e = some i) (h3 : i.zero = some z) (h4 : i.size = size) (h5 : i.bytes = bytes) (h6 : z.cells.size = size) (h7 : 0 < size)
    (ao : Option Addr) (n c : Nat) (xs : List Value) (hs : a.eval s = .slice ao n c) (hroom : Room A w e size ao c) (hle : n ≤ c) (hcap : c ≤ maxLen) (hlo : xs.length = n * size) (hblk : 0 < n → ∃ g, ao = some ⟨g, 0, none⟩ ∧ A ≤ g ∧ Blk w g e (n * size) (fun j => xs.getD j default))
    (ad : Addr) (m c' : Nat) (news : List Value) (hx : a.eval x = .slice (some ad) m c') (hn : news.length = m * size) (hc : ∀ j u, news[j]? = some u → w.cell? (ad.add j) = some u) (h1c : ∀ u ∈ news, u.oneCell' = true)
    (hm : 0 < m) (b1 : n + m ≤ maxLen) (b2 : (n + m) * bytes ≤ 140737488355328) (hA : A ≤ w.heap.size)
    (hK : ∀ v' w', w'.ownsRow A e size v' (n + m) (xs ++ news) → Grew A e w w' → wpList P ops Q rest (a.put o.dst v') w') :
    wpList P ops Q (o :: rest) a w := by
  rcases hroom with h0 | ⟨g, cur, ha, hA', hgc, hsz⟩
  · subst h0
    have hn0 : n = 0 := by omega
    subst hn0
    obtain rfl : xs = [] := List.eq_nil_of_length_eq_zero (by simpa using hlo)
    refine wpList_append_grows w hg s x t hop e i z size bytes h1 h2 h3 h4 h5 h6 h7 ao 0 0 [] hs (fun _ => ⟨rfl, rfl⟩) (by simp) (fun b _ j u hj => by simp at hj) ad m c' news hx hn hc h1c (by omega) b1 b2 fun v' w' r1 r2 => ?_
    exact hK v' w' (owns_mono r1 hA) ⟨none, r2, fun k hk => by cases hk⟩
  · subst ha
    have hown := owns_of (w := w) (e := e) hA' hgc hsz hle hcap hlo (fun h => by
      obtain ⟨g', e1, _, hb⟩ := hblk h
      simp only [Option.some.injEq, Addr.mk.injEq, and_true] at e1
      subst e1
      exact hb)
    refine wpList_append_own w hg s x t hop A e i z size bytes h1 h2 h3 h4 h5 h6 h7 _ n xs hs hown ad m c' news hx hn hc h1c b1 b2 hA fun v' w' r1 r2 _ => ?_
    refine hK v' w' r1 ⟨_, r2, fun k hk => ?_⟩
    simp only [Value.ownBlock, Option.some.injEq] at hk
    subst hk
    exact ⟨hA', cur, hgc⟩
def moreO (s : Os) (x : Od) (i : Nat) : Od := if i = s.n then x else s.z i
theorem flatO_more (s : Os) (x : Od) : flatO s.n s.z ++ odCells x = flatO (s.n + 1) (moreO s x) := by
  rw [flatO, flatO_congr (z' := moreO s x) fun i hi => by unfold moreO; rw [if_neg (by omega)]]
  congr 1
  unfold moreO
  rw [if_pos rfl]
theorem OwnO.more {A : Nat} {w w' : World} {s : Os} {x : Od} {v : Value} (h : OwnO A w s) (ho : w'.ownsRow A 48 2 v (s.n + 1) (flatO s.n s.z ++ odCells x)) (hg : Grew A 48 w w')
    {B : Nat} (ha : x.ls.a = some ⟨B, 0, none⟩) (hB : A ≤ B) (hl : x.ls.n ≤ x.ls.c) (hc : x.ls.c ≤ maxLen) (hk : Blk w B 50 (x.ls.n * 4) (fun j => (flatH x.ls.n x.ls.z).getD j default)) (hap : ∀ i, i < s.n → (s.z i).ls.a ≠ x.ls.a) :
    ∃ va vc, v = .slice va (s.n + 1) vc ∧ OwnO A w' ⟨va, s.n + 1, vc, moreO s x⟩ := by
  have hv : v ≠ .slice none 0 0 := by
    rintro rfl
    rcases ho.2 with ⟨_, h0⟩ | ⟨g2, cap2, cur2, h, _⟩
    · omega
    · cases h
  have ho' := ho
  rw [flatO_more] at ho'
  obtain ⟨g, c, rfl, h1, h2, h3, h4⟩ := Blk.ofOwns ho' hv
  refine ⟨some ⟨g, 0, none⟩, c, rfl, h1, h2, fun _ => ⟨g, rfl, h3, h4⟩, fun i hi => ?_, fun i j hij hj => ?_, Room.ofOwns ho (Nat.le_refl _)⟩
  · show ∃ B, (moreO s x i).ls.a = _ ∧ A ≤ B ∧ (moreO s x i).ls.n ≤ (moreO s x i).ls.c ∧ (moreO s x i).ls.c ≤ maxLen ∧ Blk w' B 50 ((moreO s x i).ls.n * 4) (fun j => (flatH (moreO s x i).ls.n (moreO s x i).ls.z).getD j default)
    have hi' : i < s.n + 1 := hi
    unfold moreO
    by_cases hin : i = s.n
    · rw [if_pos hin]
      exact ⟨B, ha, hB, hl, hc, hg.blk hk (by decide)⟩
    · rw [if_neg hin]
      obtain ⟨B', a1, a2, a3, a4, a5⟩ := h.lines i (by omega)
      exact ⟨B', a1, a2, a3, a4, hg.blk a5 (by decide)⟩
  · have hj' : j < s.n + 1 := hj
    show (moreO s x i).ls.a ≠ (moreO s x j).ls.a
    unfold moreO
    rw [if_neg (by omega)]
    by_cases hjn : j = s.n
    · rw [if_pos hjn]
      exact hap i (by omega)
    · rw [if_neg hjn]
      exact h.apart i j hij (by omega)
end Go.Proofs.Ytbcacebifpagpad
namespace Go.Proofs.Ytbcacebifpagpad
open Go.RowKit Go.Shelf Go.Sort
set_option linter.unusedVariables false
theorem OwnS.orders {A B : Nat} {w w' : World} {s : St} {os : Os} (h : OwnS A w s) (hg : Grew B 48 w w') (ho : OwnO A w' os) : OwnS A w' ⟨s.on, os, s.hs, s.ms, s.si, s.so, s.sf⟩ := by
  refine ⟨?_, fun i hi => (h.rows i hi).grew hg (by decide), h.rapart, ho, h.hs.grew hg (by decide), h.ms.grew hg (by decide), h.msr.grew hg (by decide), h.si.grew hg (by decide), h.so.grew hg (by decide), h.sf.grew hg (by decide), h.aio, h.aif, h.aof, h.ari⟩
  obtain ⟨g, a, b, c, d, e⟩ := h.on
  exact ⟨g, a, b, c, d, hg.blk e (by decide)⟩
theorem enter_same {o s : St} {l l' : Hs} {a : Option Addr} {c : Nat} (h : SameT o s) (hn : l'.n = l.n) (hz : ∀ j, j < l.n → l'.z j = l.z j) : SameT ⟨o.on, ⟨a, o.os.n + 1, c, moreO o.os ⟨0, l'⟩⟩, o.hs, o.ms, o.si, o.so, o.sf⟩ (enterT s l) := by
  have hon : o.os.n = s.os.n := h.os.1
  refine ⟨h.on, ⟨by show o.os.n + 1 = s.os.n + 1; omega, fun i hi => ?_⟩, h.hs, h.ms, h.si, h.so, h.sf⟩
  have hi' : i < o.os.n + 1 := hi
  show (moreO o.os ⟨0, l'⟩ i).k = (if i = s.os.n then (⟨0, l⟩ : Od) else s.os.z i).k ∧ (moreO o.os ⟨0, l'⟩ i).ls.n = (if i = s.os.n then (⟨0, l⟩ : Od) else s.os.z i).ls.n ∧ ∀ j, j < (moreO o.os ⟨0, l'⟩ i).ls.n → (moreO o.os ⟨0, l'⟩ i).ls.z j = (if i = s.os.n then (⟨0, l⟩ : Od) else s.os.z i).ls.z j
  unfold moreO
  by_cases hin : i = s.os.n
  · rw [if_pos (by omega), if_pos hin]
    exact ⟨rfl, hn, fun j hj => hz j (by rw [← hn]; exact hj)⟩
  · rw [if_neg (by omega), if_neg hin]
    exact h.os.2 i (by omega)
set_option maxRecDepth 100000 in
set_option maxHeartbeats 8000000 in
theorem EnterOwn_any (p : Pl) (s : St) (l : Hs) (w : World) (hp : p.At w) (hs : s.At w) (hl : l.At w) :
    Calls Try.prog 11 #[p.val, s.val, l.val] w fun e w' => ∃ s' : St, e = .returned (.tuple #[s'.val, .int .i64 (enterE p s l)]) ∧ s'.At w' ∧ ActOK (enterE p s l) (enterT s l) s' ∧ (enterE p s l = 0 → OwnS w.heap.size w' s') ∧ Below w.heap.size w w' := by
  obtain ⟨W0, hW, hWB, X0, Z0⟩ : ∃ W, (((w.alloc (.cells #[.slice p.ab p.nb p.cb, .slice p.sa p.ns p.cs] 25)).alloc (.cells s.cells 31)).alloc (.cells #[.slice .none 0 0, .slice .none 0 0, .slice .none 0 0, .slice .none 0 0, .slice .none 0 0, .slice .none 0 0, .slice .none 0 0] 31)) = W ∧ Below w.heap.size w W ∧ Boxes W w.heap.size (w.heap.size + 1) p s ∧ Blk W (w.heap.size + 2) 31 7 (fun _ => .slice .none 0 0) :=
    ⟨_, rfl, (two_below _ _ _).alloc (by simp; omega) _, (boxes_new w p s _ _).below ((Below.refl _ _).alloc (Nat.le_refl _) _), (Blk.mk' (cur := #[.slice .none 0 0, .slice .none 0 0, .slice .none 0 0, .slice .none 0 0, .slice .none 0 0, .slice .none 0 0, .slice .none 0 0]) (by simp) rfl).congr (fun j hj => by match j, hj with | 0, _ => rfl | 1, _ => rfl | 2, _ => rfl | 3, _ => rfl | 4, _ => rfl | 5, _ => rfl | 6, _ => rfl)⟩
  have HC : Hid (∀ wk, Below W0.heap.size W0 wk → Boxes wk w.heap.size (w.heap.size + 1) p s ∧ p.At wk ∧ s.At wk ∧ Below w.heap.size w wk ∧ Blk wk (w.heap.size + 2) 31 7 (fun _ => .slice .none 0 0) ∧ l.At wk) := fun wk h => ⟨X0.below h, (hp.below hWB).below h, (hs.below hWB).below h, hWB.trans (h.mono hWB.size), Z0.below h, (hl.below hWB).below h⟩
  have HW : Hid (((w.alloc (.cells #[.slice p.ab p.nb p.cb, .slice p.sa p.ns p.cs] 25)).alloc (.cells #[.slice s.on.a s.on.n s.on.c, .slice s.os.a s.os.n s.os.c, .slice s.hs.a s.hs.n s.hs.c, .slice s.ms.a s.ms.n s.ms.c, .slice s.si.a s.si.n s.si.c, .slice s.so.a s.so.n s.so.c, .slice s.sf.a s.sf.n s.sf.c] 31)).alloc (.cells #[.slice .none 0 0, .slice .none 0 0, .slice .none 0 0, .slice .none 0 0, .slice .none 0 0, .slice .none 0 0, .slice .none 0 0] 31) = W0) := hW
  have leb := hp.leb
  have capb0 := hp.capb
  have les := hp.les
  have caps0 := hp.caps
  have capb := capb0
  have caps := caps0
  have zlt0 := Z0.lt
  unfold maxLen at capb caps
  have lle := hl.le
  have lcap0 := hl.cap
  have lcap := lcap0
  unfold maxLen at lcap
  clear hW X0 Z0 hp hs hl
  unfold Pl.val St.val Hs.val
  go_enter Try.func11, Try.ntmps11
  go_wp2_with fail
  rw [HW.out]
  obtain ⟨X, hpk, hsk, hBw, hz, hlk⟩ := HC.out W0 (Below.refl _ _)
  refine (stateCheck_any p s W0 hpk hsk).mono ?_
  rintro e w1 ⟨rfl, hB⟩
  clear X hpk hsk hBw hz hlk HW
  obtain ⟨⟨⟨l1, d0, d1⟩, l2, c0, c1, c2, c3, c4, c5, c6⟩, hpk, hsk, hBw, hz, hlk⟩ := HC.out w1 hB
  by_cases h0 : stateE p s = 0
  · have H0 : Hid (stateE p s = 0) := h0
    have HF : Hid (Formed p s) := (rightT h0).fm
    rw [h0]
    clear h0
    by_cases k1 : s.os.n = 4
    · have HX : Hid (enterE p s l = 2) := enterE_many H0.out (Or.inl k1)
      have q1 : ((s.os.n : Int) == 4) = true := by rw [k1]; rfl
      clear k1
      clear hpk hsk hlk
      have zl := hz.lt
      have zf0 := hz.frozen 0
      have zc0 := hz.cell (j := 0) (by decide)
      have zf1 := hz.frozen 1
      have zc1 := hz.cell (j := 1) (by decide)
      have zf2 := hz.frozen 2
      have zc2 := hz.cell (j := 2) (by decide)
      have zf3 := hz.frozen 3
      have zc3 := hz.cell (j := 3) (by decide)
      have zf4 := hz.frozen 4
      have zc4 := hz.cell (j := 4) (by decide)
      have zf5 := hz.frozen 5
      have zc5 := hz.cell (j := 5) (by decide)
      have zf6 := hz.frozen 6
      have zc6 := hz.cell (j := 6) (by decide)
      go_wp2_with (go_at_call 23; refine calls_to (Within_any _ _ _ _) ?_)
      have KZ := set7_blk hz (.slice .none 0 0) (.slice .none 0 0) (.slice .none 0 0) (.slice .none 0 0) (.slice .none 0 0) (.slice .none 0 0) (.slice .none 0 0)
      have hbz := set7_below (b := w.heap.size + 2) hBw (by omega) (.slice .none 0 0) (.slice .none 0 0) (.slice .none 0 0) (.slice .none 0 0) (.slice .none 0 0) (.slice .none 0 0) (.slice .none 0 0)
      unfold set7 at KZ hbz
      obtain ⟨c0', c1', c2', c3', c4', c5', c6'⟩ := box_cells KZ
      refine bodyPost_ret (v := .tuple #[noneS.val, .int .i64 2]) (by simp [results, Try.results11, go_sem, noneS, St.val, c0', c1', c2', c3', c4', c5', c6']) rfl ?_
      exact ⟨noneS, by rw [HX.out]; rfl, noneS_at _, ⟨fun h => absurd h (by rw [HX.out]; decide), fun _ => ⟨rfl, rfl, rfl, rfl, rfl, rfl, rfl⟩⟩, fun h => absurd h (by rw [HX.out]; decide), hbz⟩
    have q1 : ((s.os.n : Int) == 4) = false := by simp; omega
    cases k2 : inB l.n 1 3
    · have HX : Hid (enterE p s l = 2) := enterE_many H0.out (Or.inr (by have := inB_false k2; omega))
      clear k1
      clear hpk hsk hlk
      have zl := hz.lt
      have zf0 := hz.frozen 0
      have zc0 := hz.cell (j := 0) (by decide)
      have zf1 := hz.frozen 1
      have zc1 := hz.cell (j := 1) (by decide)
      have zf2 := hz.frozen 2
      have zc2 := hz.cell (j := 2) (by decide)
      have zf3 := hz.frozen 3
      have zc3 := hz.cell (j := 3) (by decide)
      have zf4 := hz.frozen 4
      have zc4 := hz.cell (j := 4) (by decide)
      have zf5 := hz.frozen 5
      have zc5 := hz.cell (j := 5) (by decide)
      have zf6 := hz.frozen 6
      have zc6 := hz.cell (j := 6) (by decide)
      go_wp2_with (go_at_call 23; refine calls_to (Within_any _ _ _ _) ?_)
      have KZ := set7_blk hz (.slice .none 0 0) (.slice .none 0 0) (.slice .none 0 0) (.slice .none 0 0) (.slice .none 0 0) (.slice .none 0 0) (.slice .none 0 0)
      have hbz := set7_below (b := w.heap.size + 2) hBw (by omega) (.slice .none 0 0) (.slice .none 0 0) (.slice .none 0 0) (.slice .none 0 0) (.slice .none 0 0) (.slice .none 0 0) (.slice .none 0 0)
      unfold set7 at KZ hbz
      obtain ⟨c0', c1', c2', c3', c4', c5', c6'⟩ := box_cells KZ
      refine bodyPost_ret (v := .tuple #[noneS.val, .int .i64 2]) (by simp [results, Try.results11, go_sem, noneS, St.val, c0', c1', c2', c3', c4', c5', c6']) rfl ?_
      exact ⟨noneS, by rw [HX.out]; rfl, noneS_at _, ⟨fun h => absurd h (by rw [HX.out]; decide), fun _ => ⟨rfl, rfl, rfl, rfl, rfl, rfl, rfl⟩⟩, fun h => absurd h (by rw [HX.out]; decide), hbz⟩
    have hl3 := inB_true k2
    have HM : Hid (¬ (s.os.n = 4 ∨ ¬ (1 ≤ l.n ∧ l.n ≤ 3))) := by show ¬ _; omega
    clear k1
    have HLK : Hid (l.At w1) := hlk
    clear hz hpk hsk hlk
    go_wp2_with (go_at_call 23; refine calls_to (Within_any _ _ _ _) ?_)
    refine (anyL4 37 #[.pointer (some ⟨w.heap.size, 0, none⟩)] (fun j => outL p (l.z j)) _ _ _ _ lle lcap0 l.z HLK.out.hds (enters_of Try.func37 (by kernel_rfl) rfl) (fun i w2 _ h => Enter1_any w.heap.size p _ w2 les caps0 (Nat.lt_of_lt_of_le l1 h.size) ((h.cell (p := ⟨w.heap.size, 1, none⟩) l1).trans d1))).mono ?_
    rintro e w2 ⟨rfl, hB2⟩
    have hB := hB.trans (hB2.mono hB.size)
    clear l1 d0 d1 l2 c0 c1 c2 c3 c4 c5 c6 hBw hB2 HLK q1 k2
    obtain ⟨⟨⟨l1, d0, d1⟩, l2, c0, c1, c2, c3, c4, c5, c6⟩, hpk, hsk, hBw, hz, hlk⟩ := HC.out w2 hB
    cases k3 : anyB l.n (fun j => outL p (l.z j))
    rotate_left
    · have HX : Hid (enterE p s l = 3) := enterE_range H0.out HM.out k3
      clear k3
      clear hpk hsk hlk
      have zl := hz.lt
      have zf0 := hz.frozen 0
      have zc0 := hz.cell (j := 0) (by decide)
      have zf1 := hz.frozen 1
      have zc1 := hz.cell (j := 1) (by decide)
      have zf2 := hz.frozen 2
      have zc2 := hz.cell (j := 2) (by decide)
      have zf3 := hz.frozen 3
      have zc3 := hz.cell (j := 3) (by decide)
      have zf4 := hz.frozen 4
      have zc4 := hz.cell (j := 4) (by decide)
      have zf5 := hz.frozen 5
      have zc5 := hz.cell (j := 5) (by decide)
      have zf6 := hz.frozen 6
      have zc6 := hz.cell (j := 6) (by decide)
      go_wp2_with fail
      have KZ := set7_blk hz (.slice .none 0 0) (.slice .none 0 0) (.slice .none 0 0) (.slice .none 0 0) (.slice .none 0 0) (.slice .none 0 0) (.slice .none 0 0)
      have hbz := set7_below (b := w.heap.size + 2) hBw (by omega) (.slice .none 0 0) (.slice .none 0 0) (.slice .none 0 0) (.slice .none 0 0) (.slice .none 0 0) (.slice .none 0 0) (.slice .none 0 0)
      unfold set7 at KZ hbz
      obtain ⟨c0', c1', c2', c3', c4', c5', c6'⟩ := box_cells KZ
      refine bodyPost_ret (v := .tuple #[noneS.val, .int .i64 3]) (by simp [results, Try.results11, go_sem, noneS, St.val, c0', c1', c2', c3', c4', c5', c6']) rfl ?_
      exact ⟨noneS, by rw [HX.out]; rfl, noneS_at _, ⟨fun h => absurd h (by rw [HX.out]; decide), fun _ => ⟨rfl, rfl, rfl, rfl, rfl, rfl, rfl⟩⟩, fun h => absurd h (by rw [HX.out]; decide), hbz⟩
    have K3 : Hid (¬ anyB l.n (fun j => outL p (l.z j)) = true) := by show ¬ _; rw [k3]; decide
    clear k3
    have HLK : Hid (l.At w2) := hlk
    clear hz hpk hsk hlk
    go_wp2_with fail
    refine (anyL4 38 #[] (fun j => begunL (l.z j)) _ _ _ _ lle lcap0 l.z HLK.out.hds (enters_of Try.func38 (by kernel_rfl) rfl) (fun i w2 _ h => by rw [Array.append_empty]; exact Enter2_any _ _)).mono ?_
    rintro e w3 ⟨rfl, hB2⟩
    have hB := hB.trans (hB2.mono hB.size)
    clear l1 d0 d1 l2 c0 c1 c2 c3 c4 c5 c6 hBw hB2 HLK
    obtain ⟨⟨⟨l1, d0, d1⟩, l2, c0, c1, c2, c3, c4, c5, c6⟩, hpk, hsk, hBw, hz, hlk⟩ := HC.out w3 hB
    cases k4 : anyB l.n (fun j => begunL (l.z j))
    rotate_left
    · have HX : Hid (enterE p s l = 1) := enterE_form H0.out HM.out K3.out k4
      clear k4
      clear hpk hsk hlk
      have zl := hz.lt
      have zf0 := hz.frozen 0
      have zc0 := hz.cell (j := 0) (by decide)
      have zf1 := hz.frozen 1
      have zc1 := hz.cell (j := 1) (by decide)
      have zf2 := hz.frozen 2
      have zc2 := hz.cell (j := 2) (by decide)
      have zf3 := hz.frozen 3
      have zc3 := hz.cell (j := 3) (by decide)
      have zf4 := hz.frozen 4
      have zc4 := hz.cell (j := 4) (by decide)
      have zf5 := hz.frozen 5
      have zc5 := hz.cell (j := 5) (by decide)
      have zf6 := hz.frozen 6
      have zc6 := hz.cell (j := 6) (by decide)
      go_wp2_with fail
      have KZ := set7_blk hz (.slice .none 0 0) (.slice .none 0 0) (.slice .none 0 0) (.slice .none 0 0) (.slice .none 0 0) (.slice .none 0 0) (.slice .none 0 0)
      have hbz := set7_below (b := w.heap.size + 2) hBw (by omega) (.slice .none 0 0) (.slice .none 0 0) (.slice .none 0 0) (.slice .none 0 0) (.slice .none 0 0) (.slice .none 0 0) (.slice .none 0 0)
      unfold set7 at KZ hbz
      obtain ⟨c0', c1', c2', c3', c4', c5', c6'⟩ := box_cells KZ
      refine bodyPost_ret (v := .tuple #[noneS.val, .int .i64 1]) (by simp [results, Try.results11, go_sem, noneS, St.val, c0', c1', c2', c3', c4', c5', c6']) rfl ?_
      exact ⟨noneS, by rw [HX.out]; rfl, noneS_at _, ⟨fun h => absurd h (by rw [HX.out]; decide), fun _ => ⟨rfl, rfl, rfl, rfl, rfl, rfl, rfl⟩⟩, fun h => absurd h (by rw [HX.out]; decide), hbz⟩
    have HX : Hid (enterE p s l = 0) := enterE_ok H0.out HM.out K3.out (by rw [k4]; decide)
    clear k4 K3 HM
    have hz0 := hz.lt
    have hcs := copyState_any p s w3 hsk HF.out
    have HCS : Hid _ := hcs
    have HLK : Hid (l.At w3) := hlk
    clear hcs hz hlk hpk hsk
    go_wp2_with fail
    refine Calls.mono HCS.out ?_
    rintro e w4 ⟨o, rfl, hsame, hown, hB2⟩
    clear HCS
    have hB4 := hB.trans (hB2.mono hB.size)
    have q3 := hB.size
    have HLOW : Hid (w.heap.size ≤ w3.heap.size) := Nat.le_trans (HC.out _ (Below.refl _ _)).2.2.2.1.size hB.size
    have q4 := hB2.size
    obtain ⟨W5, hW5, hBW5, KW5⟩ : ∃ W, w4.alloc (.cells #[.slice o.on.a o.on.n o.on.c, .slice o.os.a o.os.n o.os.c, .slice o.hs.a o.hs.n o.hs.c, .slice o.ms.a o.ms.n o.ms.c, .slice o.si.a o.si.n o.si.c, .slice o.so.a o.so.n o.so.c, .slice o.sf.a o.sf.n o.sf.c] 31) = W ∧ Below w4.heap.size w4 W ∧ Blk W w4.heap.size 31 7 (fun j => o.cells.getD j default) := ⟨_, rfl, (Below.refl _ _).alloc (Nat.le_refl _) _, Blk.mk' rfl rfl⟩
    have HW5 : Hid (w4.alloc (.cells #[.slice o.on.a o.on.n o.on.c, .slice o.os.a o.os.n o.os.c, .slice o.hs.a o.hs.n o.hs.c, .slice o.ms.a o.ms.n o.ms.c, .slice o.si.a o.si.n o.si.c, .slice o.so.a o.so.n o.so.c, .slice o.sf.a o.sf.n o.sf.c] 31) = W5) := hW5
    have hB5 := hB4.trans (hBW5.mono hB4.size)
    have hown5 := OwnS.below hown hBW5
    have hlk5 := (HLK.out.below hB2).below hBW5
    have q5 := hBW5.size
    have on4 : o.os.n ≤ 4 := by have := HF.out.os4; have : o.os.n = s.os.n := hsame.os.1; omega
    clear l1 d0 d1 l2 c0 c1 c2 c3 c4 c5 c6 hBw hz0 hW5
    simp only [St.val]
    go_wp2_with fail
    rw [HW5.out]
    have HOW : Hid (OwnS w3.heap.size W5 o ∧ Blk W5 w4.heap.size 31 7 (fun j => o.cells.getD j default) ∧ SameT o s) := ⟨hown5, KW5, hsame⟩
    have HL5 : Hid (l.At W5) := hlk5
    have r0 : ∀ d os, (grow (redrawn W5 d) os).cell? ⟨w4.heap.size, 1, none⟩ = some (.slice o.os.a o.os.n o.os.c) := fun d os => cell_regrown (KW5.cell (j := 1) (by decide)) d os
    have xl5 : w4.heap.size < W5.heap.size := KW5.lt
    clear hown hown5 KW5 hsame hlk5 HLK HW5 hBW5 hB2
    obtain ⟨iO, hO, hO0, hO1, hO2⟩ := info_parts infoOrderC
    refine wp_region_made6 (fun w' => ∃ p : Regrown, w' = grow (redrawn W5 p.d) p.os) [0, 1, 2] [3, 4, 5] [(true, 6), (true, 7), (true, 8)] (by kernel_rfl) (by kernel_rfl) (by kernel_rfl) (by kernel_rfl) (by kernel_rfl) (by kernel_rfl) (by kernel_rfl) (by kernel_rfl) (by kernel_rfl) (regrown_of_below ((Below.refl _ _).drew)) ?_
    simp only [picks, List.drop_succ_cons, List.drop_zero, List.take_succ_cons, List.take_zero, List.cons_append, List.nil_append]
    repeat (go_big_quiet_step (fail))
    refine wpQuiet_nil ?_
    clear r0
    refine ⟨fun j v g wk => match j with | 3 => DHs W5.heap.size 50 l v g wk | 4 => D16 W5.heap.size ⟨0, l⟩ v g wk | 5 => D17 W5.heap.size ⟨0, l⟩ v g wk | _ => True,
      List.forall_mem_cons.2 ⟨fun v g w w' hB h => DHs.below h hB, List.forall_mem_cons.2 ⟨fun v g w w' hB h => D16.below h hB, List.forall_mem_cons.2 ⟨fun v g w w' hB h => D17.below h hB, List.forall_mem_nil _⟩⟩⟩,
      List.forall_mem_cons.2 ⟨fun v g w h => by obtain ⟨_, h1, _⟩ := h; rw [h1]; intro x hx; simp at hx, List.forall_mem_cons.2 ⟨fun v g w h => by obtain ⟨_, h1, _⟩ := h; rw [h1]; intro x hx; simp at hx, List.forall_mem_cons.2 ⟨fun v g w h => by obtain ⟨_, _, h1, _⟩ := h; rw [h1]; intro x hx; simp at hx, List.forall_mem_nil _⟩⟩⟩,
      List.forall_mem_cons.2 ⟨?zt3, List.forall_mem_cons.2 ⟨?zt4, List.forall_mem_cons.2 ⟨?zt5, List.forall_mem_nil _⟩⟩⟩, ?ztdone⟩
    case zt3 =>
      intro V G wk K hS hd hA hK
      have hX := below_of_regrown hS
      have q := hX.size
      refine wpOp_list 3 rfl ?_
      simp only [putAll, dstOf, List.getElem?_toArray, List.getElem?_cons_succ, List.getElem?_cons_zero, Act.put, List.setIfInBounds_toArray, List.set_cons_succ, List.set_cons_zero] at hK ⊢
      go_wp2_with fail
      refine (CloneLine_any l wk (HL5.out.below hX) (by omega)).mono ?_
      rintro e w2 ⟨s', rfl, hc, hB2⟩
      have HR : Hid (Cloned W5.heap.size 50 l w2 s') := ⟨hc.1, hc.2.1, hc.2.2.1.mono (by omega), hc.2.2.2.mono (by omega)⟩
      clear hc
      simp only [Hs.val]
      go_wp2_with fail
      exact hK _ [] _ (regrown_of_below (hX.trans (hB2.mono hX.size))) hB2 (fun x hx => by simp at hx) ⟨s', rfl, rfl, HR.out⟩
    case zt4 =>
      intro V G wk K hS hd hA hK
      obtain ⟨s', -, h15, hc⟩ : DHs W5.heap.size 50 l (V 3) (G 3) wk := hd 3 (List.contains_iff_mem.1 (by kernel_rfl)) (by simp)
      have HCL : Hid (Cloned W5.heap.size 50 l wk s') := hc
      clear hc
      refine wpOp_list 4 rfl ?_
      simp only [putAll, dstOf, List.getElem?_toArray, List.getElem?_cons_succ, List.getElem?_cons_zero, Act.put, List.setIfInBounds_toArray, List.set_cons_succ, List.set_cons_zero, h15] at hK ⊢
      go_wp2_with fail
      exact hK _ [] _ hS (Below.refl _ _) (fun x hx => by simp at hx) ⟨s', rfl, rfl, HCL.out⟩
    case zt5 =>
      intro V G wk K hS hd hA hK
      have hX := below_of_regrown hS
      obtain ⟨s', -, h16, hc⟩ : D16 W5.heap.size ⟨0, l⟩ (V 4) (G 4) wk := hd 4 (List.contains_iff_mem.1 (by kernel_rfl)) (by simp)
      have HCL : Hid (Cloned W5.heap.size 50 l wk s') := hc
      clear hc
      refine wpOp_list 5 rfl ?_
      simp only [putAll, dstOf, List.getElem?_toArray, List.getElem?_cons_succ, List.getElem?_cons_zero, Act.put, List.setIfInBounds_toArray, List.set_cons_succ, List.set_cons_zero, h16] at hK ⊢
      go_wp2_with fail
      have hBa := (Below.refl wk.heap.size wk).alloc (Nat.le_refl _) (.cells #[.int .i64 0, .slice s'.a s'.n s'.c] 48)
      exact hK _ [] _ (regrown_of_below (hX.alloc hX.size _)) ((Below.refl _ _).alloc (Nat.le_refl _) _) (fun x hx => by simp at hx) ⟨wk.heap.size, s', rfl, rfl, hX.size, Blk.mk' rfl rfl, HCL.out.1, HCL.out.2.1, HCL.out.2.2.1.below hBa, HCL.out.2.2.2.below hBa⟩
    case ztdone =>
      intro V G' wk hS hD hA
      obtain ⟨BO, s', -, h17, m17, k17, e1, e2, ⟨o1, o2, o3, o4⟩, -⟩ : D17 W5.heap.size ⟨0, l⟩ (V 5) (G' 5) wk := hD 5 (by simp)
      have hX := below_of_regrown hS
      have q1 := hX.size
      obtain ⟨gB, ea, hgB, kB⟩ := o4 (by rw [e1]; show 0 < l.n; omega)
      obtain ⟨hO5, K5, hsame⟩ := HOW.out
      have hO6 := OwnS.below hO5 hX
      have K6 := K5.below hX
      have hBk := hB5.trans (hX.mono hB5.size)
      have HE : Hid (s'.n = l.n ∧ (∀ j, j < l.n → s'.z j = l.z j) ∧ s'.a = some ⟨gB, 0, none⟩ ∧ s'.n ≤ s'.c ∧ s'.c ≤ maxLen ∧ Blk wk gB 50 (s'.n * 4) (fun j => (flatH s'.n s'.z).getD j default) ∧ SameT o s ∧ W5.heap.size ≤ gB) := ⟨e1, e2, ea, o1, o2, kB, hsame, hgB⟩
      have HOK : Hid (OwnS w3.heap.size wk o ∧ OwnS w3.heap.size W5 o) := ⟨hO6, hO5⟩
      have HK6 : Hid (Blk wk w4.heap.size 31 7 (fun j => o.cells.getD j default)) := K6
      have HBk : Hid (Below W0.heap.size W0 wk) := hBk
      have HK17 : Hid (Blk wk BO 48 2 (fun j => (#[.int .i64 0, .slice s'.a s'.n s'.c] : Array Value).getD j default)) := k17
      clear hS hD hA e1 e2 ea o1 o2 o3 o4 kB hO5 K5 hsame hO6 K6 hBk k17 hB5
      simp only [putAll, dstOf, List.getElem?_toArray, List.getElem?_cons_succ, List.getElem?_cons_zero, Act.put, List.setIfInBounds_toArray, List.set_cons_succ, List.set_cons_zero, h17]
      refine wpSeq_one 6 rfl ?_
      go_wp2_with (at_builtin; refine wpList_append_room wk rfl (.tmp 45) (.tmp 49) 27 rfl w3.heap.size 48 iO (.agg #[.int .i64 0, .slice none 0 0]) 2 32 Try.underlying27 hO hO0 hO1 hO2 rfl (by decide) o.os.a o.os.n o.os.c (flatO o.os.n o.os.z) rfl HOK.out.1.os.room HOK.out.1.os.le HOK.out.1.os.cap (flatO_len _ _) HOK.out.1.os.list ⟨BO, 0, none⟩ 1 1 [.int .i64 0, .slice s'.a s'.n s'.c] rfl rfl ?zc1 ?zc2 (by decide) ?zc3 ?zc4 ?zc5 ?_)
      case zc1 =>
        intro j u hj
        match j, hj with
        | 0, hj => simp at hj; subst hj; exact HK17.out.cell (j := 0) (by decide)
        | 1, hj => simp at hj; subst hj; exact HK17.out.cell (j := 1) (by decide)
      case zc2 => first | (intro u hu; simp at hu; rcases hu with rfl | rfl <;> rfl) | exact ⟨rfl, rfl⟩
      case zc3 => unfold maxLen; omega
      case zc4 => omega
      case zc5 => omega
      intro v2 w2 hown2 hgrow2
      obtain ⟨e1, e2, ea, o1, o2, kB, hsame, hgB⟩ := HE.out
      obtain ⟨va, vc, rfl, hOO⟩ := OwnO.more (x := ⟨0, s'⟩) HOK.out.1.os hown2 hgrow2 ea (by omega) o1 o2 kB (fun i hi e => by
        obtain ⟨B, x1, x2, x3, x4, x5⟩ := HOK.out.2.os.lines i hi
        rw [x1] at e
        have e' := e.trans ea
        simp only [Option.some.injEq, Addr.mk.injEq, and_true] at e'
        have := x5.lt
        omega)
      have hOS2 := HOK.out.1.orders hgrow2 hOO
      have hB7 := hgrow2.below HBk.out (by omega) (by have := HBk.out.size; omega)
      have K7 := hgrow2.blk HK6.out (by decide)
      have xl := K7.lt
      have zf9 := K7.frozen 1
      have zc9 := K7.cell (j := 1) (by decide)
      have K8 := K7.set 1 (.slice va (o.os.n + 1) vc)
      have hO8 := hOS2.box K7 1 (.slice va (o.os.n + 1) vc)
      have hB8 := hB7.setCell (p := ⟨w4.heap.size, 1, none⟩) (by show W0.heap.size ≤ w4.heap.size; omega) (.slice va (o.os.n + 1) vc)
      have HSM : Hid (SameT ⟨o.on, ⟨va, o.os.n + 1, vc, moreO o.os ⟨0, s'⟩⟩, o.hs, o.ms, o.si, o.so, o.sf⟩ (enterT s l)) := enter_same hsame e1 e2
      obtain ⟨-, -, -, hBw8, hz8, -⟩ := HC.out _ hB8
      have HEND : Hid (OwnS w3.heap.size (w2.setCell ⟨w4.heap.size, 1, none⟩ (.slice va (o.os.n + 1) vc)) ⟨o.on, ⟨va, o.os.n + 1, vc, moreO o.os ⟨0, s'⟩⟩, o.hs, o.ms, o.si, o.so, o.sf⟩ ∧ Below w.heap.size w (w2.setCell ⟨w4.heap.size, 1, none⟩ (.slice va (o.os.n + 1) vc)) ∧ Blk (w2.setCell ⟨w4.heap.size, 1, none⟩ (.slice va (o.os.n + 1) vc)) (w.heap.size + 2) 31 7 (fun _ => .slice .none 0 0)) := ⟨hO8, hBw8, hz8⟩
      have m8 := K8.lt
      have e0' : (w2.setCell ⟨w4.heap.size, 1, none⟩ (.slice va (o.os.n + 1) vc)).cell? ⟨w4.heap.size, 0, none⟩ = some (.slice o.on.a o.on.n o.on.c) := K8.cell (j := 0) (by decide)
      have e1' : (w2.setCell ⟨w4.heap.size, 1, none⟩ (.slice va (o.os.n + 1) vc)).cell? ⟨w4.heap.size, 1, none⟩ = some (.slice va (o.os.n + 1) vc) := K8.cell (j := 1) (by decide)
      have e2' : (w2.setCell ⟨w4.heap.size, 1, none⟩ (.slice va (o.os.n + 1) vc)).cell? ⟨w4.heap.size, 2, none⟩ = some (.slice o.hs.a o.hs.n o.hs.c) := K8.cell (j := 2) (by decide)
      have e3' : (w2.setCell ⟨w4.heap.size, 1, none⟩ (.slice va (o.os.n + 1) vc)).cell? ⟨w4.heap.size, 3, none⟩ = some (.slice o.ms.a o.ms.n o.ms.c) := K8.cell (j := 3) (by decide)
      have e4' : (w2.setCell ⟨w4.heap.size, 1, none⟩ (.slice va (o.os.n + 1) vc)).cell? ⟨w4.heap.size, 4, none⟩ = some (.slice o.si.a o.si.n o.si.c) := K8.cell (j := 4) (by decide)
      have e5' : (w2.setCell ⟨w4.heap.size, 1, none⟩ (.slice va (o.os.n + 1) vc)).cell? ⟨w4.heap.size, 5, none⟩ = some (.slice o.so.a o.so.n o.so.c) := K8.cell (j := 5) (by decide)
      have e6' : (w2.setCell ⟨w4.heap.size, 1, none⟩ (.slice va (o.os.n + 1) vc)).cell? ⟨w4.heap.size, 6, none⟩ = some (.slice o.sf.a o.sf.n o.sf.c) := K8.cell (j := 6) (by decide)
      have zl := hz8.lt
      have zf0 := hz8.frozen 0
      have zc0 := hz8.cell (j := 0) (by decide)
      have zf1 := hz8.frozen 1
      have zc1 := hz8.cell (j := 1) (by decide)
      have zf2 := hz8.frozen 2
      have zc2 := hz8.cell (j := 2) (by decide)
      have zf3 := hz8.frozen 3
      have zc3 := hz8.cell (j := 3) (by decide)
      have zf4 := hz8.frozen 4
      have zc4 := hz8.cell (j := 4) (by decide)
      have zf5 := hz8.frozen 5
      have zc5 := hz8.cell (j := 5) (by decide)
      have zf6 := hz8.frozen 6
      have zc6 := hz8.cell (j := 6) (by decide)
      clear hown2 hgrow2 hOO hOS2 hB7 K7 K8 hO8 hB8 hBw8 hz8 HE HOK HK6 HBk HK17 kB hsame e1 e2 ea o1 o2 hgB hX
      refine wpList_end ⟨Late.yes, ?_⟩
      refine wpSeq_one 7 rfl ?_
      go_wp2_with fail
      refine ⟨Late.yes, ?_⟩
      refine wpSeq_one 8 rfl ?_
      go_wp2_with fail
      refine ⟨Late.yes, ?_⟩
      refine NoPanic.normal ?_
      go_wp2_with fail
      obtain ⟨hOt, hBw, hz⟩ := HEND.out
      have KZ := set7_blk hz (.slice o.on.a o.on.n o.on.c) (.slice va (o.os.n + 1) vc) (.slice o.hs.a o.hs.n o.hs.c) (.slice o.ms.a o.ms.n o.ms.c) (.slice o.si.a o.si.n o.si.c) (.slice o.so.a o.so.n o.so.c) (.slice o.sf.a o.sf.n o.sf.c)
      have hbz := set7_below (b := w.heap.size + 2) hBw (by omega) (.slice o.on.a o.on.n o.on.c) (.slice va (o.os.n + 1) vc) (.slice o.hs.a o.hs.n o.hs.c) (.slice o.ms.a o.ms.n o.ms.c) (.slice o.si.a o.si.n o.si.c) (.slice o.so.a o.so.n o.so.c) (.slice o.sf.a o.sf.n o.sf.c)
      have hOz := OwnS.set7 hOt hz (.slice o.on.a o.on.n o.on.c) (.slice va (o.os.n + 1) vc) (.slice o.hs.a o.hs.n o.hs.c) (.slice o.ms.a o.ms.n o.ms.c) (.slice o.si.a o.si.n o.si.c) (.slice o.so.a o.so.n o.so.c) (.slice o.sf.a o.sf.n o.sf.c)
      unfold set7 at KZ hbz hOz
      obtain ⟨c0', c1', c2', c3', c4', c5', c6'⟩ := box_cells KZ
      refine bodyPost_ret (v := .tuple #[(⟨o.on, ⟨va, o.os.n + 1, vc, moreO o.os ⟨0, s'⟩⟩, o.hs, o.ms, o.si, o.so, o.sf⟩ : St).val, .int .i64 0]) (by simp [results, Try.results11, go_sem, St.val, c0', c1', c2', c3', c4', c5', c6']) rfl ?_
      exact ⟨⟨o.on, ⟨va, o.os.n + 1, vc, moreO o.os ⟨0, s'⟩⟩, o.hs, o.ms, o.si, o.so, o.sf⟩, by rw [HX.out]; rfl, hOz.at, ⟨fun _ => HSM.out, fun h => absurd HX.out h⟩, fun _ => hOz.mono HLOW.out, hbz⟩
  · have HX : Hid (enterE p s l = stateE p s) := enterE_state h0
    clear hpk hsk hlk c0 c1 c2 c3 c4 c5 c6
    have zl := hz.lt
    have zf0 := hz.frozen 0
    have zc0 := hz.cell (j := 0) (by decide)
    have zf1 := hz.frozen 1
    have zc1 := hz.cell (j := 1) (by decide)
    have zf2 := hz.frozen 2
    have zc2 := hz.cell (j := 2) (by decide)
    have zf3 := hz.frozen 3
    have zc3 := hz.cell (j := 3) (by decide)
    have zf4 := hz.frozen 4
    have zc4 := hz.cell (j := 4) (by decide)
    have zf5 := hz.frozen 5
    have zc5 := hz.cell (j := 5) (by decide)
    have zf6 := hz.frozen 6
    have zc6 := hz.cell (j := 6) (by decide)
    go_wp2_with fail
    have KZ := set7_blk hz (.slice .none 0 0) (.slice .none 0 0) (.slice .none 0 0) (.slice .none 0 0) (.slice .none 0 0) (.slice .none 0 0) (.slice .none 0 0)
    have hbz := set7_below (b := w.heap.size + 2) hBw (by omega) (.slice .none 0 0) (.slice .none 0 0) (.slice .none 0 0) (.slice .none 0 0) (.slice .none 0 0) (.slice .none 0 0) (.slice .none 0 0)
    unfold set7 at KZ hbz
    obtain ⟨c0', c1', c2', c3', c4', c5', c6'⟩ := box_cells KZ
    refine bodyPost_ret (v := .tuple #[noneS.val, .int .i64 (stateE p s)]) (by simp [results, Try.results11, go_sem, noneS, St.val, c0', c1', c2', c3', c4', c5', c6']) rfl ?_
    exact ⟨noneS, by rw [HX.out]; rfl, noneS_at _, ⟨fun h => absurd h (by rw [HX.out]; exact h0), fun _ => ⟨rfl, rfl, rfl, rfl, rfl, rfl, rfl⟩⟩, fun h => absurd h (by rw [HX.out]; exact h0), hbz⟩
theorem Enter_any (p : Pl) (s : St) (l : Hs) (w : World) (hp : p.At w) (hs : s.At w) (hl : l.At w) :
    Calls Try.prog 11 #[p.val, s.val, l.val] w fun e w' => ∃ s' : St, e = .returned (.tuple #[s'.val, .int .i64 (enterE p s l)]) ∧ s'.At w' ∧ ActOK (enterE p s l) (enterT s l) s' ∧ Below w.heap.size w w' :=
  (EnterOwn_any p s l w hp hs hl).mono fun _ _ ⟨x, h1, h2, h3, _, h5⟩ => ⟨x, h1, h2, h3, h5⟩
end Go.Proofs.Ytbcacebifpagpad
namespace Go.Proofs.Ytbcacebifpagpad
open Go.RowKit Go.Shelf Go.Sort
set_option linter.unusedVariables false
structure BusyB (w : World) (g : Nat) (a k : Int) : Prop where
  b0 : Blk w (g) 3 2 (fun j => (#[.int .i64 9, .int .i64 0] : Array Value).getD j default)
  b1 : Blk w (g + 1) 3 2 (fun j => (#[.int .i64 3, .int .i64 0] : Array Value).getD j default)
  b2 : Blk w (g + 2) 3 2 (fun j => (#[.int .i64 0, .int .i64 6] : Array Value).getD j default)
  b3 : Blk w (g + 3) 23 3 (fun j => (#[.slice (some ⟨g, 0, none⟩) 2 2, .slice (some ⟨g + 1, 0, none⟩) 2 2, .slice (some ⟨g + 2, 0, none⟩) 2 2] : Array Value).getD j default)
  b4 : Blk w (g + 4) 50 8 (fun j => (#[.int .i64 0, .int .i64 6, .int .i64 1, .int .i64 0, .int .i64 1, .int .i64 9, .int .i64 0, .int .i64 3] : Array Value).getD j default)
  b5 : Blk w (g + 5) 50 4 (fun j => (#[.int .i64 0, .int .i64 4, .int .i64 0, .int .i64 0] : Array Value).getD j default)
  b6 : Blk w (g + 6) 48 4 (fun j => (#[.int .i64 1, .slice (some ⟨g + 4, 0, none⟩) 2 2, .int .i64 k, .slice (some ⟨g + 5, 0, none⟩) 1 1] : Array Value).getD j default)
  b7 : Blk w (g + 7) 76 12 (fun j => (#[.int .i64 0, .int .i64 0, .int .i64 0, .int .i64 a, .int .i64 0, .int .i64 0, .int .i64 1, .int .i64 3, .int .i64 0, .int .i64 1, .int .i64 2, .int .i64 6] : Array Value).getD j default)
  b8 : Blk w (g + 8) 66 4 (fun j => (#[.int .i64 0, .int .i64 0, .int .i64 1, .int .i64 5] : Array Value).getD j default)
  b9 : Blk w (g + 9) 3 2 (fun j => (#[.int .i64 13, .int .i64 6] : Array Value).getD j default)
  b10 : Blk w (g + 10) 3 2 (fun j => (#[.int .i64 1, .int .i64 0] : Array Value).getD j default)
  b11 : Blk w (g + 11) 3 2 (fun j => (#[.int .i64 0, .int .i64 0] : Array Value).getD j default)
theorem BusyB.below {w w' : World} {g : Nat} {a k : Int} (h : BusyB w g a k) (hB : Below w.heap.size w w') : BusyB w' g a k := ⟨h.b0.below hB, h.b1.below hB, h.b2.below hB, h.b3.below hB, h.b4.below hB, h.b5.below hB, h.b6.below hB, h.b7.below hB, h.b8.below hB, h.b9.below hB, h.b10.below hB, h.b11.below hB⟩
def bz0 : Nat → Int
  | 0 => 9
  | _ => 0
def bz1 : Nat → Int
  | 0 => 3
  | _ => 0
def bz2 : Nat → Int
  | 0 => 0
  | _ => 6
def bzi : Nat → Int
  | 0 => 13
  | _ => 6
def bzo : Nat → Int
  | 0 => 1
  | _ => 0
def bl0 : Nat → Hd
  | 0 => ⟨0, 6, 1, 0⟩
  | _ => ⟨1, 9, 0, 3⟩
def bhs (a : Int) : Nat → Hd
  | 0 => ⟨0, 0, 0, a⟩
  | 1 => ⟨0, 0, 1, 3⟩
  | _ => ⟨0, 1, 2, 6⟩
def bon (g : Nat) : Nat → Rw
  | 0 => ⟨some ⟨g, 0, none⟩, 2, 2, bz0⟩
  | 1 => ⟨some ⟨g + 1, 0, none⟩, 2, 2, bz1⟩
  | _ => ⟨some ⟨g + 2, 0, none⟩, 2, 2, bz2⟩
def bos (g : Nat) (k : Int) : Nat → Od
  | 0 => ⟨1, ⟨some ⟨g + 4, 0, none⟩, 2, 2, bl0⟩⟩
  | _ => ⟨k, ⟨some ⟨g + 5, 0, none⟩, 1, 1, fun _ => ⟨0, 4, 0, 0⟩⟩⟩
def busyS (g : Nat) (a k : Int) : St := ⟨⟨some ⟨g + 3, 0, none⟩, 3, 3, bon g⟩, ⟨some ⟨g + 6, 0, none⟩, 2, 2, bos g k⟩, ⟨some ⟨g + 7, 0, none⟩, 3, 3, bhs a⟩, ⟨some ⟨g + 8, 0, none⟩, 1, 1, fun _ => ⟨0, 0, 1, 5⟩⟩, ⟨some ⟨g + 9, 0, none⟩, 2, 2, bzi⟩, ⟨some ⟨g + 10, 0, none⟩, 2, 2, bzo⟩, ⟨some ⟨g + 11, 0, none⟩, 2, 2, fun _ => 0⟩⟩
theorem le_max {n : Nat} (h : n ≤ 100) : n ≤ maxLen := by unfold maxLen; omega
theorem two_at {w : World} {g : Nat} {e : TypeId} {x y : Int} {z : Nat → Int} (h : Blk w g e 2 (fun j => (#[.int .i64 x, .int .i64 y] : Array Value).getD j default)) (h0 : z 0 = x) (h1 : z 1 = y) : Rw.At w ⟨some ⟨g, 0, none⟩, 2, 2, z⟩ := by
  refine ⟨Nat.le_refl _, le_max (n := 2) (by decide), fun i hi => ?_⟩
  have hi' : i < 2 := hi
  refine ⟨g, 0, rfl, h.lt, ?_⟩
  match i, hi' with
  | 0, _ => show w.cell? ⟨g, 0 + 0, none⟩ = some (.int .i64 (z 0)); rw [h0]; exact h.cell (j := 0) (by decide)
  | 1, _ => show w.cell? ⟨g, 0 + 1, none⟩ = some (.int .i64 (z 1)); rw [h1]; exact h.cell (j := 1) (by decide)
theorem busyAt {w : World} {g : Nat} {a k : Int} (h : BusyB w g a k) : (busyS g a k).At w := by
  refine ⟨⟨Nat.le_refl _, le_max (n := 3) (by decide), fun i hi => ?_⟩, ⟨Nat.le_refl _, le_max (n := 2) (by decide), fun i hi => ?_⟩, ⟨Nat.le_refl _, le_max (n := 3) (by decide), fun i hi => ?_, fun e => by cases e⟩, ⟨Nat.le_refl _, le_max (n := 1) (by decide), fun i hi => ?_, fun e => by cases e⟩, two_at h.b9 rfl rfl, two_at h.b10 rfl rfl, two_at h.b11 rfl rfl⟩
  · have hi' : i < 3 := hi
    refine ⟨g + 3, 0, rfl, h.b3.lt, ?_⟩
    match i, hi' with
    | 0, _ => exact ⟨h.b3.cell (j := 0) (by decide), two_at h.b0 rfl rfl⟩
    | 1, _ => exact ⟨h.b3.cell (j := 1) (by decide), two_at h.b1 rfl rfl⟩
    | 2, _ => exact ⟨h.b3.cell (j := 2) (by decide), two_at h.b2 rfl rfl⟩
  · have hi' : i < 2 := hi
    refine ⟨g + 6, 0, rfl, h.b6.lt, ?_⟩
    match i, hi' with
    | 0, _ =>
      refine ⟨h.b6.cell (j := 0) (by decide), h.b6.cell (j := 1) (by decide), Nat.le_refl _, le_max (n := 2) (by decide), fun j hj => ?_, fun e => by cases e⟩
      have hj' : j < 2 := hj
      refine ⟨g + 4, 0, rfl, h.b4.lt, ?_⟩
      match j, hj' with
      | 0, _ => exact ⟨h.b4.cell (j := 0) (by decide), h.b4.cell (j := 1) (by decide), h.b4.cell (j := 2) (by decide), h.b4.cell (j := 3) (by decide)⟩
      | 1, _ => exact ⟨h.b4.cell (j := 4) (by decide), h.b4.cell (j := 5) (by decide), h.b4.cell (j := 6) (by decide), h.b4.cell (j := 7) (by decide)⟩
    | 1, _ =>
      refine ⟨h.b6.cell (j := 2) (by decide), h.b6.cell (j := 3) (by decide), Nat.le_refl _, le_max (n := 1) (by decide), fun j hj => ?_, fun e => by cases e⟩
      have hj' : j < 1 := hj
      refine ⟨g + 5, 0, rfl, h.b5.lt, ?_⟩
      match j, hj' with
      | 0, _ => exact ⟨h.b5.cell (j := 0) (by decide), h.b5.cell (j := 1) (by decide), h.b5.cell (j := 2) (by decide), h.b5.cell (j := 3) (by decide)⟩
  · have hi' : i < 3 := hi
    refine ⟨g + 7, 0, rfl, h.b7.lt, ?_⟩
    match i, hi' with
    | 0, _ => exact ⟨h.b7.cell (j := 0) (by decide), h.b7.cell (j := 1) (by decide), h.b7.cell (j := 2) (by decide), h.b7.cell (j := 3) (by decide)⟩
    | 1, _ => exact ⟨h.b7.cell (j := 4) (by decide), h.b7.cell (j := 5) (by decide), h.b7.cell (j := 6) (by decide), h.b7.cell (j := 7) (by decide)⟩
    | 2, _ => exact ⟨h.b7.cell (j := 8) (by decide), h.b7.cell (j := 9) (by decide), h.b7.cell (j := 10) (by decide), h.b7.cell (j := 11) (by decide)⟩
  · have hi' : i < 1 := hi
    refine ⟨g + 8, 0, rfl, h.b8.lt, ?_⟩
    match i, hi' with
    | 0, _ => exact ⟨h.b8.cell (j := 0) (by decide), h.b8.cell (j := 1) (by decide), h.b8.cell (j := 2) (by decide), h.b8.cell (j := 3) (by decide)⟩
set_option maxRecDepth 100000 in
set_option maxHeartbeats 4000000 in
theorem busy_any (w : World) :
    Calls Try.prog 42 #[] w fun e w' => ∃ g, e = .returned (busyS g 2 0).val ∧ w.heap.size < g ∧ BusyB w' g 2 0 ∧ Below w.heap.size w w' := by
  go_enter Try.func42, Try.ntmps42
  go_wp2
  refine bodyPost_ret (v := (busyS (w.heap.size + 1) 2 0).val) (by simp [results, Try.results42, go_sem, busyS, St.val]) rfl ?_
  refine ⟨w.heap.size + 1, rfl, by omega, ⟨Blk.alloc (Blk.alloc (Blk.alloc (Blk.alloc (Blk.alloc (Blk.alloc (Blk.alloc (Blk.alloc (Blk.alloc (Blk.alloc (Blk.alloc (Blk.mk' (by simp <;> omega) rfl) _) _) _) _) _) _) _) _) _) _) _, Blk.alloc (Blk.alloc (Blk.alloc (Blk.alloc (Blk.alloc (Blk.alloc (Blk.alloc (Blk.alloc (Blk.alloc (Blk.alloc (Blk.mk' (by simp <;> omega) rfl) _) _) _) _) _) _) _) _) _) _, Blk.alloc (Blk.alloc (Blk.alloc (Blk.alloc (Blk.alloc (Blk.alloc (Blk.alloc (Blk.alloc (Blk.alloc (Blk.mk' (by simp <;> omega) rfl) _) _) _) _) _) _) _) _) _, Blk.alloc (Blk.alloc (Blk.alloc (Blk.alloc (Blk.alloc (Blk.alloc (Blk.alloc (Blk.alloc (Blk.mk' (by simp <;> omega) rfl) _) _) _) _) _) _) _) _, Blk.alloc (Blk.alloc (Blk.alloc (Blk.alloc (Blk.alloc (Blk.alloc (Blk.alloc (Blk.mk' (by simp <;> omega) rfl) _) _) _) _) _) _) _, Blk.alloc (Blk.alloc (Blk.alloc (Blk.alloc (Blk.alloc (Blk.alloc (Blk.mk' (by simp <;> omega) rfl) _) _) _) _) _) _, Blk.alloc (Blk.alloc (Blk.alloc (Blk.alloc (Blk.alloc (Blk.mk' (by simp <;> omega) rfl) _) _) _) _) _, Blk.alloc (Blk.alloc (Blk.alloc (Blk.alloc (Blk.mk' (by simp <;> omega) rfl) _) _) _) _, Blk.alloc (Blk.alloc (Blk.alloc (Blk.mk' (by simp <;> omega) rfl) _) _) _, Blk.alloc (Blk.alloc (Blk.mk' (by simp <;> omega) rfl) _) _, Blk.alloc (Blk.mk' (by simp <;> omega) rfl) _, Blk.mk' (by simp <;> omega) rfl⟩, ?_⟩
  exact (((((((((((((Below.refl _ _).alloc (Nat.le_refl _) _).alloc (by simp <;> omega) _).alloc (by simp <;> omega) _).alloc (by simp <;> omega) _).alloc (by simp <;> omega) _).alloc (by simp <;> omega) _).alloc (by simp <;> omega) _).alloc (by simp <;> omega) _).alloc (by simp <;> omega) _).alloc (by simp <;> omega) _).alloc (by simp <;> omega) _).alloc (by simp <;> omega) _).alloc (by simp <;> omega) _
end Go.Proofs.Ytbcacebifpagpad
namespace Go.Proofs.Ytbcacebifpagpad
open Go.RowKit Go.Shelf Go.Sort
set_option linter.unusedVariables false
theorem enterE_zero {p : Pl} {s : St} {l : Hs} (h : enterE p s l = 0) : stateE p s = 0 ∧ 1 ≤ l.n ∧ l.n ≤ 3 ∧ ¬ s.os.n = 4 ∧ anyB l.n (fun j => outL p (l.z j)) = false ∧ anyB l.n (fun j => begunL (l.z j)) = false := by
  by_cases h0 : stateE p s = 0
  · by_cases h1 : s.os.n = 4 ∨ ¬ (1 ≤ l.n ∧ l.n ≤ 3)
    · rw [enterE_many h0 h1] at h; exact absurd h (by decide)
    · cases h2 : anyB l.n (fun j => outL p (l.z j))
      · cases h3 : anyB l.n (fun j => begunL (l.z j))
        · exact ⟨h0, by omega, by omega, by omega, rfl, rfl⟩
        · rw [enterE_form h0 h1 (by rw [h2]; decide) h3] at h; exact absurd h (by decide)
      · rw [enterE_range h0 h1 h2] at h; exact absurd h (by decide)
  · rw [enterE_state h0] at h; exact absurd h h0
theorem recvBeg7 {w : World} {g1 g2 g : Nat} (hp : (yardP g1 g2).At w) (hs : BusyB w g 2 0) :
    Calls Try.prog 7 #[(yardP g1 g2).val, (busyS g 2 0).val, .int .i64 1, .int .i64 0, .int .i64 7] w fun e w' => ∃ s' : St, e = .returned (.tuple #[s'.val, .int .i64 0]) ∧ s'.At w' ∧ (s'.on.n = 3 ∧ (s'.on.r 1).n = 2 ∧ (s'.on.r 1).z 0 = 10 ∧ s'.si.n = 2 ∧ s'.si.z 0 = 20) ∧ Below w.heap.size w w' := by
  refine (Receive_any _ _ 1 0 7 w hp (busyAt hs)).mono ?_
  rintro e w' ⟨s', rfl, hat, hok, hB⟩
  have hE : recvE (yardP g1 g2) (busyS g 2 0) 1 0 7 = 0 := by rfl
  have h := hok.1 hE
  have n1 : s'.on.n = 3 := h.on.1
  have r1 := h.on.2 1 (by omega)
  have n2 : (s'.on.r 1).n = 2 := r1.1
  have z : (s'.on.r 1).z 0 = 10 := r1.2 0 (by omega)
  have n3 : s'.si.n = 2 := h.si.1
  have z2 : s'.si.z 0 = 20 := h.si.2 0 (by omega)
  rw [hE]
  exact ⟨s', rfl, hat, ⟨n1, n2, z, n3, z2⟩, hB⟩
theorem recvBeg8 {w : World} {g1 g2 g : Nat} (hp : (yardP g1 g2).At w) (hs : BusyB w g 2 0) :
    Calls Try.prog 7 #[(yardP g1 g2).val, (busyS g 2 0).val, .int .i64 1, .int .i64 0, .int .i64 8] w fun e w' => ∃ s' : St, e = .returned (.tuple #[s'.val, .int .i64 5]) ∧ Below w.heap.size w w' := by
  refine (Receive_any _ _ 1 0 8 w hp (busyAt hs)).mono ?_
  rintro e w' ⟨s', rfl, hat, hok, hB⟩
  rw [show recvE (yardP g1 g2) (busyS g 2 0) 1 0 8 = 5 by rfl]
  exact ⟨s', rfl, hB⟩
theorem entBeg1 {w : World} {g1 g2 g G : Nat} (hp : (yardP g1 g2).At w) (hs : BusyB w g 2 0) (hl : Hs.At w ⟨some ⟨G, 0, none⟩, 1, 1, fun _ => ⟨1, 2, 0, 0⟩⟩) :
    Calls Try.prog 11 #[(yardP g1 g2).val, (busyS g 2 0).val, .slice (some ⟨G, 0, none⟩) 1 1] w fun e w' => ∃ s' : St, e = .returned (.tuple #[s'.val, .int .i64 0]) ∧ s'.At w' ∧ (s'.os.n = 3 ∧ (s'.os.z 2).ls.n = 1 ∧ ((s'.os.z 2).ls.z 0).l = 2) ∧ Below w.heap.size w w' := by
  refine (Enter_any _ _ ⟨some ⟨G, 0, none⟩, 1, 1, fun _ => ⟨1, 2, 0, 0⟩⟩ w hp (busyAt hs) hl).mono ?_
  rintro e w' ⟨s', rfl, hat, hok, hB⟩
  have hE : enterE (yardP g1 g2) (busyS g 2 0) ⟨some ⟨G, 0, none⟩, 1, 1, fun _ => ⟨1, 2, 0, 0⟩⟩ = 0 := by rfl
  have h := hok.1 hE
  have n1 : s'.os.n = 3 := h.os.1
  have r1 := h.os.2 2 (by omega)
  have n2 : (s'.os.z 2).ls.n = 1 := r1.2.1
  have z : (s'.os.z 2).ls.z 0 = ⟨1, 2, 0, 0⟩ := r1.2.2 0 (by omega)
  rw [hE]
  exact ⟨s', rfl, hat, ⟨n1, n2, by rw [z]⟩, hB⟩
theorem entBeg2 {w : World} {g1 g2 g G : Nat} (hp : (yardP g1 g2).At w) (hs : BusyB w g 2 0) (hl : Hs.At w ⟨some ⟨G, 0, none⟩, 1, 1, fun _ => ⟨2, 2, 0, 0⟩⟩) :
    Calls Try.prog 11 #[(yardP g1 g2).val, (busyS g 2 0).val, .slice (some ⟨G, 0, none⟩) 1 1] w fun e w' => ∃ s' : St, e = .returned (.tuple #[s'.val, .int .i64 3]) ∧ Below w.heap.size w w' := by
  refine (Enter_any _ _ ⟨some ⟨G, 0, none⟩, 1, 1, fun _ => ⟨2, 2, 0, 0⟩⟩ w hp (busyAt hs) hl).mono ?_
  rintro e w' ⟨s', rfl, hat, hok, hB⟩
  rw [show enterE (yardP g1 g2) (busyS g 2 0) ⟨some ⟨G, 0, none⟩, 1, 1, fun _ => ⟨2, 2, 0, 0⟩⟩ = 3 by rfl]
  exact ⟨s', rfl, hB⟩
set_option maxRecDepth 100000 in
set_option maxHeartbeats 8000000 in
theorem recvBegun_any (w : World) :
    Calls Try.prog 12 #[] w fun e w' => e = .returned (.bool true) ∧ Below w.heap.size w w' := by
  go_enter Try.func12, Try.ntmps12
  go_wp2_with fail
  refine (yard_any _).mono ?_
  rintro e w1 ⟨g1, g2, rfl, -, -, k1, k2, hA⟩
  go_wp2_with fail
  refine (busy_any _).mono ?_
  rintro e w2 ⟨g, rfl, -, bb, hB⟩
  have k1 := k1.below hB
  have k2 := k2.below hB
  have hC := hA.trans (hB.mono hA.size)
  clear hA hB
  simp only [busyS, St.val]
  go_wp2_with fail
  refine (recvBeg7 (yardAt k1 k2) bb).mono ?_
  rintro e w3 ⟨x, rfl, xat, xf, hB⟩
  have hC := hC.trans (hB.mono hC.size)
  clear hB k1 k2 bb
  have HXF : Hid (x.on.n = 3 ∧ (x.on.r 1).n = 2 ∧ (x.on.r 1).z 0 = 10 ∧ x.si.n = 2 ∧ x.si.z 0 = 20) := xf
  clear xf
  simp only [St.val]
  go_wp2_with fail
  obtain ⟨W3, hW, hWB, K1⟩ : ∃ W, w3.alloc (.cells #[.slice x.on.a x.on.n x.on.c, .slice x.os.a x.os.n x.os.c, .slice x.hs.a x.hs.n x.hs.c, .slice x.ms.a x.ms.n x.ms.c, .slice x.si.a x.si.n x.si.c, .slice x.so.a x.so.n x.so.c, .slice x.sf.a x.sf.n x.sf.c] 31) = W ∧ Below w3.heap.size w3 W ∧ Blk W w3.heap.size 31 7 (fun j => x.cells.getD j default) := ⟨_, rfl, (Below.refl _ _).alloc (Nat.le_refl _) _, Blk.mk' rfl rfl⟩
  rw [hW]
  have xat := xat.below hWB
  have hC := hC.trans (hWB.mono hC.size)
  clear hW hWB
  generalize w3.heap.size = B1 at *
  refine (yard_any _).mono ?_
  rintro e w4 ⟨g1, g2, rfl, -, -, k1, k2, hA⟩
  go_wp2_with fail
  refine (busy_any _).mono ?_
  rintro e w5 ⟨g, rfl, -, bb, hB⟩
  have k1 := k1.below hB
  have k2 := k2.below hB
  have hD := hA.trans (hB.mono hA.size)
  clear hA hB
  simp only [busyS, St.val]
  go_wp2_with fail
  refine (recvBeg8 (yardAt k1 k2) bb).mono ?_
  rintro e w6 ⟨y, rfl, hB⟩
  have hD := hD.trans (hB.mono hD.size)
  have hC := hC.trans (hD.mono hC.size)
  have xat := xat.below hD
  have K1 := K1.below hD
  clear hD hB k1 k2 bb
  simp only [St.val]
  go_wp2_with fail
  obtain ⟨W6, hW, hWB⟩ : ∃ W, w6.alloc (.cells #[.slice y.on.a y.on.n y.on.c, .slice y.os.a y.os.n y.os.c, .slice y.hs.a y.hs.n y.hs.c, .slice y.ms.a y.ms.n y.ms.c, .slice y.si.a y.si.n y.si.c, .slice y.so.a y.so.n y.so.c, .slice y.sf.a y.sf.n y.sf.c] 31) = W ∧ Below w6.heap.size w6 W := ⟨_, rfl, (Below.refl _ _).alloc (Nat.le_refl _) _⟩
  rw [hW]
  have hC := hC.trans (hWB.mono hC.size)
  have xat := xat.below hWB
  have K1 := K1.below hWB
  clear hW hWB
  generalize w6.heap.size = B2 at *
  refine (yard_any _).mono ?_
  rintro e w7 ⟨g1, g2, rfl, -, -, k1, k2, hA⟩
  go_wp2_with fail
  refine (busy_any _).mono ?_
  rintro e w8 ⟨g, rfl, -, bb, hB⟩
  have k1 := k1.below hB
  have k2 := k2.below hB
  have hD := hA.trans (hB.mono hA.size)
  clear hA hB
  simp only [busyS, St.val]
  go_wp2_with fail
  obtain ⟨W8, hW, hWB, L8⟩ : ∃ W, w8.alloc (.cells #[.int .i64 1, .int .i64 2, .int .i64 0, .int .i64 0] 50) = W ∧ Below w8.heap.size w8 W ∧ Hs.At W ⟨some ⟨w8.heap.size, 0, none⟩, 1, 1, fun _ => ⟨1, 2, 0, 0⟩⟩ := ⟨_, rfl, (Below.refl _ _).alloc (Nat.le_refl _) _, Hs.one (Blk.mk' rfl rfl)⟩
  rw [hW]
  have k1 := k1.below hWB
  have k2 := k2.below hWB
  have bb := bb.below hWB
  have hD := hD.trans (hWB.mono hD.size)
  clear hW hWB
  refine (entBeg1 (yardAt k1 k2) bb L8).mono ?_
  rintro e w9 ⟨z, rfl, zat, zf, hB⟩
  have HZF : Hid (z.os.n = 3 ∧ (z.os.z 2).ls.n = 1 ∧ ((z.os.z 2).ls.z 0).l = 2) := zf
  have hD := hD.trans (hB.mono hD.size)
  have hC := hC.trans (hD.mono hC.size)
  have xat := xat.below hD
  have K1 := K1.below hD
  clear hD hB k1 k2 bb L8 zf
  simp only [St.val]
  go_wp2_with fail
  obtain ⟨W9, hW, hWB, K2⟩ : ∃ W, w9.alloc (.cells #[.slice z.on.a z.on.n z.on.c, .slice z.os.a z.os.n z.os.c, .slice z.hs.a z.hs.n z.hs.c, .slice z.ms.a z.ms.n z.ms.c, .slice z.si.a z.si.n z.si.c, .slice z.so.a z.so.n z.so.c, .slice z.sf.a z.sf.n z.sf.c] 31) = W ∧ Below w9.heap.size w9 W ∧ Blk W w9.heap.size 31 7 (fun j => z.cells.getD j default) := ⟨_, rfl, (Below.refl _ _).alloc (Nat.le_refl _) _, Blk.mk' rfl rfl⟩
  rw [hW]
  have hC := hC.trans (hWB.mono hC.size)
  have xat := xat.below hWB
  have zat := zat.below hWB
  have K1 := K1.below hWB
  clear hW hWB
  generalize w9.heap.size = B3 at *
  refine (yard_any _).mono ?_
  rintro e wa ⟨g1, g2, rfl, -, -, k1, k2, hA⟩
  go_wp2_with fail
  refine (busy_any _).mono ?_
  rintro e wb ⟨g, rfl, -, bb, hB⟩
  have k1 := k1.below hB
  have k2 := k2.below hB
  have hD := hA.trans (hB.mono hA.size)
  clear hA hB
  simp only [busyS, St.val]
  go_wp2_with fail
  obtain ⟨Wb, hW, hWB, L8⟩ : ∃ W, wb.alloc (.cells #[.int .i64 2, .int .i64 2, .int .i64 0, .int .i64 0] 50) = W ∧ Below wb.heap.size wb W ∧ Hs.At W ⟨some ⟨wb.heap.size, 0, none⟩, 1, 1, fun _ => ⟨2, 2, 0, 0⟩⟩ := ⟨_, rfl, (Below.refl _ _).alloc (Nat.le_refl _) _, Hs.one (Blk.mk' rfl rfl)⟩
  rw [hW]
  have k1 := k1.below hWB
  have k2 := k2.below hWB
  have bb := bb.below hWB
  have hD := hD.trans (hWB.mono hD.size)
  clear hW hWB
  refine (entBeg2 (yardAt k1 k2) bb L8).mono ?_
  rintro e wc ⟨y2, rfl, hB⟩
  have hD := hD.trans (hB.mono hD.size)
  have hC := hC.trans (hD.mono hC.size)
  have xat := xat.below hD
  have zat := zat.below hD
  have K1 := K1.below hD
  have K2 := K2.below hD
  clear hD hB k1 k2 bb L8
  obtain ⟨Wc, hW, hWB⟩ : ∃ W, wc.alloc (.cells #[.slice y2.on.a y2.on.n y2.on.c, .slice y2.os.a y2.os.n y2.os.c, .slice y2.hs.a y2.hs.n y2.hs.c, .slice y2.ms.a y2.ms.n y2.ms.c, .slice y2.si.a y2.si.n y2.si.c, .slice y2.so.a y2.so.n y2.so.c, .slice y2.sf.a y2.sf.n y2.sf.c] 31) = W ∧ Below wc.heap.size wc W := ⟨_, rfl, (Below.refl _ _).alloc (Nat.le_refl _) _⟩
  have HW : Hid (wc.alloc (.cells #[.slice y2.on.a y2.on.n y2.on.c, .slice y2.os.a y2.os.n y2.os.c, .slice y2.hs.a y2.hs.n y2.hs.c, .slice y2.ms.a y2.ms.n y2.ms.c, .slice y2.si.a y2.si.n y2.si.c, .slice y2.so.a y2.so.n y2.so.c, .slice y2.sf.a y2.sf.n y2.sf.c] 31) = Wc) := hW
  have hC := hC.trans (hWB.mono hC.size)
  have xat := xat.below hWB
  have zat := zat.below hWB
  have K1 := K1.below hWB
  have K2 := K2.below hWB
  have HCC : Hid (Below w.heap.size w Wc) := hC
  obtain ⟨b1, o1, ha1, hb1, t1, hr1⟩ := xat.on.rows 1 (by rw [HXF.out.1]; decide)
  obtain ⟨b2, o2, ha2, hb2, t2⟩ := hr1.ints 0 (by rw [HXF.out.2.1]; decide)
  obtain ⟨b3, o3, ha3, hb3, t3⟩ := xat.si.ints 0 (by rw [HXF.out.2.2.2.1]; decide)
  obtain ⟨b4, o4, ha4, hb4, t4, t5, hl4⟩ := zat.os.ods 2 (by rw [HZF.out.1]; decide)
  obtain ⟨b5, o5, ha5, hb5, t6, t7, t8, t9⟩ := hl4.hds 0 (by rw [HZF.out.2.1]; decide)
  have s0 : Wc.cell? ⟨B1, 0, none⟩ = some (.slice x.on.a x.on.n x.on.c) := K1.cell (j := 0) (by decide)
  have s4 : Wc.cell? ⟨B1, 4, none⟩ = some (.slice x.si.a x.si.n x.si.c) := K1.cell (j := 4) (by decide)
  have s1 : Wc.cell? ⟨B3, 1, none⟩ = some (.slice z.os.a z.os.n z.os.c) := K2.cell (j := 1) (by decide)
  have m1 := K1.lt
  have m2 := K2.lt
  have v1 := xat.on.le
  have v2 := xat.on.cap
  have v3 := hr1.le
  have v4 := hr1.cap
  have v5 := xat.si.le
  have v6 := xat.si.cap
  have v7 := zat.os.le
  have v8 := zat.os.cap
  have v9 := hl4.le
  have v10 := hl4.cap
  rw [ha1, HXF.out.1] at s0
  rw [ha3, HXF.out.2.2.2.1] at s4
  rw [ha4, HZF.out.1] at s1
  rw [ha2, HXF.out.2.1] at t1
  rw [HXF.out.2.2.1] at t2
  rw [HXF.out.2.2.2.2] at t3
  rw [ha5, HZF.out.2.1] at t5
  rw [HZF.out.2.2] at t7
  rw [HXF.out.1] at v1
  rw [HXF.out.2.1] at v3
  rw [HXF.out.2.2.2.1] at v5
  rw [HZF.out.1] at v7
  rw [HZF.out.2.1] at v9
  unfold maxLen at v2 v4 v6 v8 v10
  simp only [Nat.add_zero, Nat.zero_mul] at t2 t3 t7
  have t5a : Wc.cell? ⟨b4, o4 + 4 + 1, none⟩ = _ := t5
  have t5b : Wc.cell? ⟨b4, o4 + 5, none⟩ = _ := t5
  clear hW xat zat K1 K2 hr1 hl4 ha1 ha2 ha3 ha4 ha5 HXF HZF hWB hC
  simp only [St.val]
  have m1e := m1
  rw [← HW.out] at m1 m2 s0 s1 s4 t1 t2 t3 t5 t5a t5b t7 hb1 hb2 hb3 hb4 hb5
  go_wp2_with fail
  go_ret
  rw [HW.out]
  exact ⟨by simp, HCC.out⟩
end Go.Proofs.Ytbcacebifpagpad
namespace Go.Proofs.Ytbcacebifpagpad
open Go.RowKit
set_option linter.unusedVariables false
theorem pos_exists {z : Nat → Hd} {h : Hd} (hf : fineH h = true) : ∀ n, anyB n (badH z) = false → ∃ i, PosH n z h i
  | 0, _ => ⟨0, Nat.le_refl _, fun q hq => absurd hq (Nat.not_lt_zero _), fun q _ hq => absurd hq (Nat.not_lt_zero _)⟩
  | n + 1, hr => by
    obtain ⟨i, hp⟩ := pos_exists hf n (right_pred hr)
    have hle := hp.le
    by_cases hi : i = n
    · by_cases hc : cmpH (z n) h < 0
      · exact ⟨n + 1, Nat.le_refl _, fun q hq => by
          by_cases hqn : q = n
          · subst hqn; exact hc
          · exact hp.lo q (by omega), fun q h1 h2 => by omega⟩
      · refine ⟨n, by omega, fun q hq => hp.lo q (by omega), fun q h1 h2 => ?_⟩
        have : q = n := by omega
        subst this; omega
    · refine ⟨i, by omega, hp.lo, fun q h1 h2 => ?_⟩
      by_cases hqn : q = n
      · subst hqn
        have a := hp.hi i (Nat.le_refl _) (by omega)
        have k1 := (cmp_key (right_fine hr i (by omega)) hf).1
        have k2 := (cmp_key (right_fine hr q (by omega)) hf).1
        have k3 := right_lt hr i q (by omega) (by omega)
        omega
      · exact hp.hi q h1 (by omega)
theorem pos_key {n : Nat} {z : Nat → Hd} {h : Hd} (hr : anyB n (badH z) = false) (hf : fineH h = true) :
    addPos n z h ≤ n ∧ (∀ j, j < addPos n z h → keyH (z j) < keyH h) ∧ (∀ j, addPos n z h ≤ j → j < n → keyH h ≤ keyH (z j)) := by
  obtain ⟨i, hp⟩ := pos_exists hf n hr
  rw [addPos_eq hp]
  have hle := hp.le
  refine ⟨hp.le, fun j hj => ?_, fun j hj hjn => ?_⟩
  · have := hp.lo j hj
    have := (cmp_key (right_fine hr j (by omega)) hf).1
    omega
  · have := hp.hi j hj hjn
    have := (cmp_key (right_fine hr j hjn) hf).1
    omega
theorem key_match {x y : Hd} (hx : fineH x = true) (hy : fineH y = true) (h : keyH x = keyH y) : matchH x y.o y.l y.b = true := by
  have a := fineH_true hx
  have b := fineH_true hy
  unfold keyH at h
  have h1 : x.o = y.o := by omega
  have h2 : x.l = y.l := by omega
  have h3 : x.b = y.b := by omega
  simp [matchH, h1, h2, h3]
theorem right_mk {n : Nat} {z : Nat → Hd} (hf : ∀ i, i < n → fineH (z i) = true) (hs : ∀ i, i + 1 < n → keyH (z i) < keyH (z (i + 1))) : anyB n (badH z) = false := by
  rw [← bad_eq]
  refine anyB_no fun j hj => ?_
  unfold badK
  rw [hf j hj]
  by_cases h0 : 0 < j
  · have := hs (j - 1) (by omega)
    rw [show j - 1 + 1 = j by omega] at this
    simp only [Bool.not_true, Bool.false_or, Bool.and_eq_false_imp, decide_eq_true_eq, decide_eq_false_iff_not]
    intro _
    omega
  · simp [h0]
theorem kept_at {n k : Nat} {z : Nat → Hd} {o l b : Int} (hr : anyB n (badH z) = false) (hk : k < n) (hm : matchH (z k) o l b = true) : keptV n z o l b = (z k).n ∧ dropI n z o l b = k := by
  have lo : ∀ j, j < k → matchH (z j) o l b = false := fun j hj => by
    cases hq : matchH (z j) o l b
    · rfl
    · have := matchH_key hq hm
      have := right_lt hr j k hj hk
      omega
  exact ⟨keptV_some hk lo hm, dropI_some hk lo hm⟩
theorem kept_no {n : Nat} {z : Nat → Hd} {o l b : Int} (hr : anyB n (badH z) = false) (h0 : keptV n z o l b = 0) : ∀ j, j < n → matchH (z j) o l b = false := by
  rcases keptV_cases n z o l b with h | ⟨k, hkn, h1, h2⟩
  · exact h
  · rw [keptV_some hkn h1 h2] at h0
    have := (fineH_true (right_fine hr k hkn)).2.2.2
    omega
theorem insZ_lt {z : Nat → Hd} {i j : Nat} {h : Hd} (hj : j < i) : insZ z i h j = z j := by unfold insZ; rw [if_pos hj]
theorem insZ_eq {z : Nat → Hd} {i : Nat} {h : Hd} : insZ z i h i = h := by unfold insZ; rw [if_neg (by omega), if_pos rfl]
theorem insZ_gt {z : Nat → Hd} {i j : Nat} {h : Hd} (hj : i < j) : insZ z i h j = z (j - 1) := by unfold insZ; rw [if_neg (by omega), if_neg (by omega)]
theorem setZ_eq {z : Nat → Hd} {i : Nat} {h : Hd} : setZ z i h i = h := if_pos rfl
theorem setZ_ne {z : Nat → Hd} {i j : Nat} {h : Hd} (hj : ¬ j = i) : setZ z i h j = z j := if_neg hj
theorem match_same {x y : Hd} {o l b : Int} (h1 : matchH x y.o y.l y.b = true) : matchH x o l b = matchH y o l b := by
  have a := matchH_true h1
  unfold matchH
  rw [a.1, a.2.1, a.2.2]
theorem add_ins {n : Nat} {z : Nat → Hd} {h : Hd} (hr : anyB n (badH z) = false) (hf : fineH h = true) (h0 : keptV n z h.o h.l h.b = 0) :
    anyB (n + 1) (badH (insZ z (addPos n z h) h)) = false ∧ (∀ o l b, keptV (n + 1) (insZ z (addPos n z h) h) o l b = keptV n z o l b + if matchH h o l b then h.n else 0) ∧
      dropI (n + 1) (insZ z (addPos n z h) h) h.o h.l h.b = addPos n z h := by
  obtain ⟨p1, p2, p3⟩ := pos_key hr hf
  have no := kept_no hr h0
  generalize addPos n z h = p at p1 p2 p3 ⊢
  have hs : ∀ j, p ≤ j → j < n → keyH h < keyH (z j) := fun j hj hjn => by
    have a := p3 j hj hjn
    have b : ¬ keyH (z j) = keyH h := fun e => by
      have := key_match (right_fine hr j hjn) hf e
      rw [no j hjn] at this
      cases this
    omega
  have hR : anyB (n + 1) (badH (insZ z p h)) = false := by
    refine right_mk (fun i hi => ?_) (fun i hi => ?_)
    · rcases Nat.lt_trichotomy i p with hip | hip | hip
      · rw [insZ_lt hip]; exact right_fine hr i (by omega)
      · subst hip; rw [insZ_eq]; exact hf
      · rw [insZ_gt hip]; exact right_fine hr (i - 1) (by omega)
    · rcases Nat.lt_trichotomy i p with hip | hip | hip
      · rw [insZ_lt hip]
        by_cases hq : i + 1 = p
        · subst hq; rw [insZ_eq]; exact p2 i (by omega)
        · rw [insZ_lt (by omega)]; exact right_step hr i (by omega)
      · subst hip
        rw [insZ_eq, insZ_gt (by omega)]
        exact hs _ (by omega) (by omega)
      · rw [insZ_gt hip, insZ_gt (by omega)]
        have := right_step hr (i - 1) (by omega)
        rw [show i - 1 + 1 = i + 1 - 1 by omega] at this
        exact this
  have hat := kept_at (o := h.o) (l := h.l) (b := h.b) hR (show p < n + 1 by omega) (by rw [insZ_eq]; simp [matchH])
  refine ⟨hR, fun o l b => ?_, hat.2⟩
  cases hm : matchH h o l b
  · simp only [Bool.false_eq_true, if_false, Int.add_zero]
    rcases keptV_cases n z o l b with hn | ⟨k, hk, h1, h2⟩
    · rw [keptV_none hn]
      refine keptV_none fun j hj => ?_
      rcases Nat.lt_trichotomy j p with hip | hip | hip
      · rw [insZ_lt hip]; exact hn j (by omega)
      · subst hip; rw [insZ_eq]; exact hm
      · rw [insZ_gt hip]; exact hn (j - 1) (by omega)
    · rw [keptV_some hk h1 h2]
      by_cases hkp : k < p
      · have := (kept_at (o := o) (l := l) (b := b) hR (show k < n + 1 by omega) (by rw [insZ_lt hkp]; exact h2)).1
        rw [this, insZ_lt hkp]
      · have e : insZ z p h (k + 1) = z k := by rw [insZ_gt (by omega), Nat.add_sub_cancel]
        have := (kept_at (o := o) (l := l) (b := b) hR (show k + 1 < n + 1 by omega) (by rw [e]; exact h2)).1
        rw [this, e]
  · have a := matchH_true hm
    rw [← a.1, ← a.2.1, ← a.2.2, h0, hat.1, insZ_eq]
    simp
theorem add_set {n : Nat} {z : Nat → Hd} {h : Hd} (hr : anyB n (badH z) = false) (hf : fineH h = true) (h0 : ¬ keptV n z h.o h.l h.b = 0) (h2 : keptV n z h.o h.l h.b + h.n ≤ 200) :
    anyB n (badH (setZ z (addPos n z h) ⟨h.o, h.l, h.b, keptV n z h.o h.l h.b + h.n⟩)) = false ∧ (∀ o l b, keptV n (setZ z (addPos n z h) ⟨h.o, h.l, h.b, keptV n z h.o h.l h.b + h.n⟩) o l b = keptV n z o l b + if matchH h o l b then h.n else 0) ∧
      dropI n (setZ z (addPos n z h) ⟨h.o, h.l, h.b, keptV n z h.o h.l h.b + h.n⟩) h.o h.l h.b = addPos n z h ∧ addPos n z h < n ∧ matchH (z (addPos n z h)) h.o h.l h.b = true ∧ dropI n z h.o h.l h.b = addPos n z h := by
  obtain ⟨p1, p2, p3⟩ := pos_key hr hf
  obtain ⟨q1, q2, q3, q4, q5⟩ := kept_pos hr h0
  have hkey : keyH (z (dropI n z h.o h.l h.b)) = keyH h := match_key (n := h.n) q2
  have hp : dropI n z h.o h.l h.b = addPos n z h := by
    rcases Nat.lt_trichotomy (dropI n z h.o h.l h.b) (addPos n z h) with c | c | c
    · have := p2 _ c; omega
    · exact c
    · have := q4 _ c
      have := p3 _ (Nat.le_refl _) (by omega)
      omega
  rw [hp] at q1 q2 q3 q4 q5 hkey ⊢
  generalize addPos n z h = p at p1 p2 p3 q1 q2 q3 q4 q5 hkey hp ⊢
  generalize hK : keptV n z h.o h.l h.b = K at h0 h2 q3 ⊢
  have hfz := fineH_true (right_fine hr p q1)
  have hfh := fineH_true hf
  have hkn : keyH ⟨h.o, h.l, h.b, K + h.n⟩ = keyH (z p) := by rw [hkey]; rfl
  have hR : anyB n (badH (setZ z p ⟨h.o, h.l, h.b, K + h.n⟩)) = false := by
    refine right_mk (fun i hi => ?_) (fun i hi => ?_)
    · by_cases hip : i = p
      · subst hip; rw [setZ_eq]
        simp only [fineH, Bool.and_eq_true]
        exact ⟨⟨⟨inB_mk (by omega), inB_mk (by omega)⟩, inB_mk (by omega)⟩, inB_mk (by show 1 ≤ K + h.n ∧ K + h.n ≤ 200; omega)⟩
      · rw [setZ_ne hip]; exact right_fine hr i hi
    · have hst := right_step hr i hi
      by_cases hip : i = p
      · subst hip; rw [setZ_eq, setZ_ne (by omega), hkn]; exact hst
      · rw [setZ_ne hip]
        by_cases hiq : i + 1 = p
        · rw [hiq, setZ_eq, hkn, ← hiq]; exact hst
        · rw [setZ_ne hiq]; exact hst
  have hat := kept_at (o := h.o) (l := h.l) (b := h.b) hR q1 (by rw [setZ_eq]; simp [matchH])
  refine ⟨hR, fun o l b => ?_, hat.2, q1, q2, rfl⟩
  cases hm : matchH h o l b
  · simp only [Bool.false_eq_true, if_false, Int.add_zero]
    have hzp : matchH (z p) o l b = false := by rw [match_same q2]; exact hm
    rcases keptV_cases n z o l b with hn | ⟨k, hk, h1, h3⟩
    · rw [keptV_none hn]
      refine keptV_none fun j hj => ?_
      by_cases hip : j = p
      · subst hip; rw [setZ_eq]; exact hm
      · rw [setZ_ne hip]; exact hn j hj
    · rw [keptV_some hk h1 h3]
      have hkp : ¬ k = p := fun e => by subst e; rw [hzp] at h3; cases h3
      have := (kept_at (o := o) (l := l) (b := b) hR hk (by rw [setZ_ne hkp]; exact h3)).1
      rw [this, setZ_ne hkp]
  · have a := matchH_true hm
    rw [← a.1, ← a.2.1, ← a.2.2, hK, hat.1, setZ_eq]
    simp
end Go.Proofs.Ytbcacebifpagpad
namespace Go.Proofs.Ytbcacebifpagpad
open Go.RowKit
set_option linter.unusedVariables false
theorem add_both {n : Nat} {z : Nat → Hd} {h : Hd} (hr : anyB n (badH z) = false) (hf : fineH h = true) (h2 : keptV n z h.o h.l h.b + h.n ≤ 200) :
    anyB (addLen n z h) (badH (addZ n z h)) = false ∧ ∀ o l b, keptV (addLen n z h) (addZ n z h) o l b = keptV n z o l b + if matchH h o l b then h.n else 0 := by
  by_cases h0 : keptV n z h.o h.l h.b = 0
  · have e1 : addLen n z h = n + 1 := if_pos h0
    have e2 : addZ n z h = insZ z (addPos n z h) h := if_pos h0
    rw [e1, e2]
    obtain ⟨a, b, _⟩ := add_ins hr hf h0
    exact ⟨a, b⟩
  · have e1 : addLen n z h = n := if_neg h0
    have e2 : addZ n z h = setZ z (addPos n z h) ⟨h.o, h.l, h.b, keptV n z h.o h.l h.b + h.n⟩ := if_neg h0
    rw [e1, e2]
    obtain ⟨a, b, _⟩ := add_set hr hf h0 h2
    exact ⟨a, b⟩
theorem addE_zero {n : Nat} {z : Nat → Hd} {h : Hd} (e : addE n z h = 0) : anyB n (badH z) = false ∧ fineH h = true ∧ keptV n z h.o h.l h.b + h.n ≤ 200 := by
  unfold addE at e
  by_cases h0 : checkH n z = 0
  · rw [if_pos h0] at e
    cases hf : fineH h
    · rw [hf] at e; simp at e
    · rw [hf] at e
      simp only [if_true] at e
      by_cases h2 : 200 < keptV n z h.o h.l h.b + h.n
      · rw [if_pos h2] at e; omega
      · exact ⟨checkH_zero h0, rfl, by omega⟩
  · rw [if_neg h0] at e; exact absurd e h0
theorem checkH_right {n : Nat} {z : Nat → Hd} (h : anyB n (badH z) = false) : checkH n z = 0 := by unfold checkH; rw [h]; rfl
theorem badH_congr {z y : Nat → Hd} {n : Nat} (h : ∀ j, j < n → z j = y j) : anyB n (badH z) = anyB n (badH y) := by
  have e : ∀ j, j < n → badH z j = badH y j := fun j hj => by
    unfold badH
    rw [h j hj]
    by_cases h0 : 0 < j
    · rw [h (j - 1) (by omega)]
    · simp [h0]
  cases hq : anyB n (badH y)
  · exact anyB_no fun j hj => by rw [e j hj]; exact anyB_false hq j hj
  · cases hz : anyB n (badH z)
    · have : anyB n (badH y) = false := anyB_no fun j hj => by rw [← e j hj]; exact anyB_false hz j hj
      rw [this] at hq; cases hq
    · rfl
theorem keptV_congr {z y : Nat → Hd} {n : Nat} (h : ∀ j, j < n → z j = y j) (o l b : Int) : keptV n z o l b = keptV n y o l b := by
  rcases keptV_cases n y o l b with hn | ⟨k, hk, h1, h2⟩
  · rw [keptV_none hn, keptV_none fun j hj => by rw [h j hj]; exact hn j hj]
  · rw [keptV_some hk h1 h2, keptV_some hk (fun j hj => by rw [h j (by omega)]; exact h1 j hj) (by rw [h k hk]; exact h2), h k hk]
theorem keptS_congr {z y : Nat → Hd} (o l : Int) : ∀ {n : Nat}, (∀ j, j < n → z j = y j) → keptS z o l n = keptS y o l n
  | 0, _ => rfl
  | n + 1, h => by
    simp only [keptS]
    rw [keptS_congr o l (n := n) fun j hj => h j (by omega), h n (by omega)]
theorem AddOK.right {n : Nat} {z : Nat → Hd} {h : Hd} {x : Hs} (hx : AddOK n z h x) (e : addE n z h = 0) :
    anyB x.n (badH x.z) = false ∧ ∀ o l b, keptV x.n x.z o l b = keptV n z o l b + if matchH h o l b then h.n else 0 := by
  obtain ⟨a, b, c⟩ := addE_zero e
  obtain ⟨r, k⟩ := add_both a b c
  have hn : x.n = addLen n z h := by have := hx.1; rw [if_pos e] at this; exact this
  have hz := hx.2
  rw [hn] at hz ⊢
  exact ⟨by rw [badH_congr hz]; exact r, fun o l b => by rw [keptV_congr hz]; exact k o l b⟩
theorem AddOK.none {n : Nat} {z : Nat → Hd} {h : Hd} {x : Hs} (hx : AddOK n z h x) (e : ¬ addE n z h = 0) : x.n = 0 := by
  have := hx.1; rw [if_neg e] at this; exact this
end Go.Proofs.Ytbcacebifpagpad
namespace Go.Proofs.Ytbcacebifpagpad
open Go.RowKit
set_option linter.unusedVariables false
theorem stateE_of {p : Pl} {s : St} (r : RightT p s) : stateE p s = 0 := by
  have f := r.fm
  have e1 : tooManyB s = false := by
    unfold tooManyB
    have h1 : decide (4 < s.os.n) = false := decide_eq_false (by have := f.os4; omega)
    have h2 : decide (8 < s.ms.n) = false := decide_eq_false (by have := f.ms8; omega)
    have h3 : anyB s.os.n (fun i => fewLines (s.os.z i)) = false := anyB_no fun i hi => by
      unfold fewLines
      rw [inB_mk (by have := f.lns i hi; omega)]
      rfl
    rw [h1, h2, h3]
    rfl
  have e2 : badOrdersB p s = false := anyB_no fun i hi => by
    unfold badOrder
    rw [inB_mk (f.kind i hi), anyB_no fun j hj => f.line i hi j hj]
    rfl
  have e3 : badHoldsB p s = false := by
    unfold badHoldsB
    rw [checkH_right f.hold, anyB_no f.home]
    rfl
  have e4 : badMovesB p s = false := anyB_no f.move
  have k : ∀ {r : Rw} {low : Int}, r.n = p.ns → (∀ j, j < p.ns → low ≤ r.z j ∧ r.z j ≤ 1048576) → badSum p r low = false := fun {r low} h1 h2 => by
    unfold badSum
    rw [Bool.or_eq_false_iff]
    refine ⟨by simp [h1], anyB_no fun j hj => ?_⟩
    rw [inB_mk (h2 j (by omega))]
    rfl
  have e5 : badSumsB p s = false := by
    unfold badSumsB
    rw [k f.sin f.sib, k f.son f.sob, k f.sfn f.sfb]
    rfl
  rw [stateE_sum f.sh0 e1 e2 e3 e4 e5, show wrongGoodsB p s = false from anyB_no r.goods, show wrongOrdersB s = false from anyB_no r.orders]
  rfl
theorem homeless_mk {p : Pl} {s : St} {h : Hd} (h1 : 0 ≤ h.o ∧ h.o.toNat < s.os.n) (h2 : 0 ≤ h.l ∧ h.l.toNat < (s.os.z h.o.toNat).ls.n) (h3 : 0 ≤ h.b ∧ h.b < p.nb) : homeless p s h = false := by
  unfold homeless
  rw [inB_mk (by omega), inB_mk (by omega), inB_mk (by omega)]
  rfl
theorem heldTo_eq {x s : St} {b g : Int} : ∀ {k : Nat}, (∀ j, j < k → x.hs.z j = s.hs.z j) → (∀ j, j < k → goodH x (s.hs.z j) = goodH s (s.hs.z j)) → heldTo x b g k = heldTo s b g k
  | 0, _, _ => rfl
  | k + 1, h1, h2 => by
    simp only [heldTo]
    rw [heldTo_eq (k := k) (fun j hj => h1 j (by omega)) (fun j hj => h2 j (by omega)), h1 k (by omega), h2 k (by omega)]
theorem fromTo_eq {x s : St} {b g : Int} : ∀ {k : Nat}, (∀ j, j < k → x.ms.z j = s.ms.z j) → fromTo x b g k = fromTo s b g k
  | 0, _ => rfl
  | k + 1, h1 => by
    simp only [fromTo]
    rw [fromTo_eq (k := k) (fun j hj => h1 j (by omega)), h1 k (by omega)]
theorem takeTo_eq {p : Pl} {x s : St} {b : Int} : ∀ {k : Nat}, (∀ j, j < k → x.ms.z j = s.ms.z j) → takeTo p x b k = takeTo p s b k
  | 0, _ => rfl
  | k + 1, h1 => by
    simp only [takeTo]
    rw [takeTo_eq (k := k) (fun j hj => h1 j (by omega)), h1 k (by omega)]
section
variable {p : Pl} {x t : St}
theorem SameT.held (h : SameT x t) (f : Formed p t) (b g : Int) : heldTo x b g x.hs.n = heldTo t b g t.hs.n := by
  rw [h.hs.1]
  refine heldTo_eq (fun j hj => h.hs.2 j (by rw [h.hs.1]; exact hj)) (fun j hj => ?_)
  obtain ⟨h1, h2, -⟩ := homeless_no (f.home j hj)
  unfold goodH
  have o := h.os.2 (t.hs.z j).o.toNat (by rw [h.os.1]; exact h1.2)
  rw [o.2.2 (t.hs.z j).l.toNat (by rw [o.2.1]; exact h2.2)]
theorem SameT.from (h : SameT x t) (b g : Int) : fromTo x b g x.ms.n = fromTo t b g t.ms.n := by
  rw [h.ms.1]
  exact fromTo_eq fun j hj => h.ms.2 j (by rw [h.ms.1]; exact hj)
theorem SameT.num (h : SameT x t) (f : Formed p t) {b g : Nat} (hb : b < p.nb) (hg : g < p.ns) : (x.on.r b).z g = (t.on.r b).z g := by
  have hb' : b < t.on.n := by rw [f.sh.n]; exact hb
  have r := h.on.2 b (by rw [h.on.1]; exact hb')
  exact r.2 g (by rw [r.1, f.sh.len b hb']; exact hg)
theorem SameT.avail (h : SameT x t) (f : Formed p t) {b g : Nat} (hb : b < p.nb) (hg : g < p.ns) : availZ x b g = availZ t b g := by
  unfold availZ
  rw [h.num f hb hg, h.held f, h.from]
theorem SameT.free (h : SameT x t) (f : Formed p t) {b : Nat} (hb : b < p.nb) : freeZ p x b = freeZ p t b := by
  unfold freeZ
  have e : usedTo (x.on.r b).z p.zs p.ns = usedTo (t.on.r b).z p.zs p.ns := usedTo_congr fun j hj => h.num f hb hj
  rw [e, h.ms.1, takeTo_eq fun j hj => h.ms.2 j (by rw [h.ms.1]; exact hj)]
theorem SameT.formed (h : SameT x t) (f : Formed p t) : Formed p x := by
  have hp := (rightS f.sh0).1
  have hs : RightS p x.on := ⟨f.sh.pl, h.on.1.trans f.sh.n, fun i hi => (h.on.2 i hi).1.trans (f.sh.len i (by rw [← h.on.1]; exact hi)), fun i hi j hj => by
    have hi' : i < t.on.n := by rw [← h.on.1]; exact hi
    rw [h.num f (by rw [← f.sh.n]; exact hi') hj]
    exact f.sh.num i hi' j hj⟩
  have o : ∀ i, i < x.os.n → i < t.os.n := fun i hi => by rw [← h.os.1]; exact hi
  refine ⟨hs, shelfE_mk hp hs, by rw [h.os.1]; exact f.os4, by rw [h.ms.1]; exact f.ms8, fun i hi => by rw [(h.os.2 i hi).2.1]; exact f.lns i (o i hi), fun i hi => by rw [(h.os.2 i hi).1]; exact f.kind i (o i hi), fun i hi j hj => ?_, ?_, fun i hi => ?_, fun i hi => ?_, h.si.1.trans f.sin, h.so.1.trans f.son, h.sf.1.trans f.sfn, fun j hj => ?_, fun j hj => ?_, fun j hj => ?_⟩
  · rw [(h.os.2 i hi).2.2 j hj]
    exact f.line i (o i hi) j (by rw [← (h.os.2 i hi).2.1]; exact hj)
  · rw [h.hs.1, badH_congr fun j hj => h.hs.2 j (by rw [h.hs.1]; exact hj)]
    exact f.hold
  · have hi' : i < t.hs.n := by rw [← h.hs.1]; exact hi
    obtain ⟨h1, h2, h3⟩ := homeless_no (f.home i hi')
    rw [h.hs.2 i hi]
    have h1' : (t.hs.z i).o.toNat < x.os.n := by rw [h.os.1]; exact h1.2
    exact homeless_mk ⟨h1.1, h1'⟩ ⟨h2.1, by rw [(h.os.2 _ h1').2.1]; exact h2.2⟩ h3
  · rw [h.ms.2 i hi]
    exact f.move i (by rw [← h.ms.1]; exact hi)
  · rw [h.si.2 j (by rw [h.si.1, f.sin]; exact hj)]; exact f.sib j hj
  · rw [h.so.2 j (by rw [h.so.1, f.son]; exact hj)]; exact f.sob j hj
  · rw [h.sf.2 j (by rw [h.sf.1, f.sfn]; exact hj)]; exact f.sfb j hj
theorem SameT.right (h : SameT x t) (r : RightT p t) : RightT p x := by
  have f := r.fm
  refine ⟨h.formed f, fun g hg => ?_, fun i hi => ?_⟩
  · have := r.goods g hg
    rw [wrongGood_eq] at this ⊢
    rw [← this]
    congr 1
    · have e : sumTo (fun i => (x.on.r i).z g) x.on.n = sumTo (fun i => (t.on.r i).z g) t.on.n := by
        rw [h.on.1]
        exact sumTo_congr fun i hi => h.num f (by rw [← f.sh.n]; exact hi) hg
      rw [e, h.si.2 g (by rw [h.si.1, f.sin]; exact hg), h.so.2 g (by rw [h.so.1, f.son]; exact hg), h.sf.2 g (by rw [h.sf.1, f.sfn]; exact hg)]
    · exact anyB_congr fun b hb => by rw [h.avail f hb hg]
  · have hi' : i < t.os.n := by rw [← h.os.1]; exact hi
    have := r.orders i hi'
    rw [← this]
    obtain ⟨e1, e2, e3⟩ := h.os.2 i hi
    unfold wrongOrder
    rw [e1, e2]
    congr 1
    · congr 2
      exact anyB_congr fun j hj => by rw [e3 j (by rw [e2]; exact hj)]
    · refine anyB_congr fun j hj => ?_
      rw [e3 j (by rw [e2]; exact hj), h.hs.1, keptS_congr _ _ fun j hj => h.hs.2 j (by rw [h.hs.1]; exact hj)]
end
end Go.Proofs.Ytbcacebifpagpad
namespace Go.Proofs.Ytbcacebifpagpad
open Go.RowKit
set_option linter.unusedVariables false
theorem goods_no {p : Pl} {s : St} {g : Nat} (h : wrongGood p s g = false) : sumTo (fun i => (s.on.r i).z g) s.on.n = s.si.z g - s.so.z g + s.sf.z g ∧ ∀ b, b < p.nb → 0 ≤ availZ s b g := by
  rw [wrongGood_eq, Bool.or_eq_false_iff] at h
  refine ⟨by simpa using h.1, fun b hb => ?_⟩
  have := anyB_false h.2 b hb
  simpa using this
theorem goods_mk {p : Pl} {s : St} {g : Nat} (h1 : sumTo (fun i => (s.on.r i).z g) s.on.n = s.si.z g - s.so.z g + s.sf.z g) (h2 : ∀ b, b < p.nb → 0 ≤ availZ s b g) : wrongGood p s g = false := by
  rw [wrongGood_eq, Bool.or_eq_false_iff]
  exact ⟨by simp [h1], anyB_no fun b hb => by have := h2 b hb; simpa using this⟩
theorem usedTo_put {z z' zs : Nat → Int} {m : Nat} {x : Int} : ∀ {k : Nat}, m < k → (∀ i, i < k → z' i = if i = m then z i + x else z i) → usedTo z' zs k = usedTo z zs k + x * zs m
  | k + 1, hm, h => by
    simp only [usedTo]
    by_cases hk : m = k
    · subst hk
      rw [h m (by omega), if_pos rfl, usedTo_congr (z := z') (z' := z) fun j hj => by rw [h j (by omega), if_neg (by omega)], Int.add_mul]
      omega
    · rw [usedTo_put (k := k) (by omega) fun i hi => h i (by omega), h k (by omega), if_neg (by omega)]
      omega
theorem recvE_zeros {p : Pl} {s : St} {bin good n : Int} (h : recvE p s bin good n = 0) : stateE p s = 0 ∧ (0 ≤ bin ∧ bin < p.nb) ∧ (0 ≤ good ∧ good < p.ns) ∧ (1 ≤ n ∧ n ≤ 200) ∧ n * p.zs good.toNat ≤ freeZ p s bin.toNat ∧ lyingZ s bin.toNat good.toNat + n ≤ 200 ∧ s.si.z good.toNat + n ≤ 1048576 := by
  unfold recvE at h
  by_cases h0 : stateE p s = 0
  · rw [if_pos h0] at h
    cases h1 : (inB bin 0 ((p.nb : Int) - 1) && inB good 0 ((p.ns : Int) - 1) && inB n 1 200)
    · rw [h1] at h; simp at h
    · rw [h1] at h
      simp only [if_true] at h
      simp only [Bool.and_eq_true] at h1
      have a := inB_true h1.1.1
      have b := inB_true h1.1.2
      have c := inB_true h1.2
      by_cases h2 : freeZ p s bin.toNat < n * p.zs good.toNat
      · rw [if_pos h2] at h; simp at h
      · rw [if_neg h2] at h
        by_cases h3 : 200 < lyingZ s bin.toNat good.toNat + n ∨ 1048576 < s.si.z good.toNat + n
        · rw [if_pos h3] at h; simp at h
        · exact ⟨h0, by omega, by omega, c, by omega, by omega, by omega⟩
  · rw [if_neg h0] at h; exact absurd h h0
section
variable {p : Pl} {s : St} {b g : Nat} {n : Int}
theorem recv_num (i j : Nat) : ((recvT s b g n).on.r i).z j = (s.on.r i).z j + if i = b ∧ j = g then n else 0 := by
  show (if i = b then setRw (s.on.r i) g ((s.on.r b).z g + n) else s.on.r i).z j = _
  by_cases hi : i = b
  · subst hi
    rw [if_pos rfl]
    show (if j = g then (s.on.r i).z g + n else (s.on.r i).z j) = _
    by_cases hj : j = g
    · subst hj; simp
    · simp [hj]
  · rw [if_neg hi]
    simp [hi]
theorem recv_len (i : Nat) : ((recvT s b g n).on.r i).n = (s.on.r i).n := by
  show (if i = b then setRw (s.on.r i) g ((s.on.r b).z g + n) else s.on.r i).n = _
  by_cases hi : i = b
  · rw [if_pos hi]; rfl
  · rw [if_neg hi]
theorem recv_in (j : Nat) : (recvT s b g n).si.z j = s.si.z j + if j = g then n else 0 := by
  show (if j = g then s.si.z g + n else s.si.z j) = _
  by_cases hj : j = g
  · subst hj; simp
  · simp [hj]
theorem recv_avail (i j : Nat) : availZ (recvT s b g n) i j = availZ s i j + if i = b ∧ j = g then n else 0 := by
  unfold availZ
  have e1 : heldTo (recvT s b g n) i j (recvT s b g n).hs.n = heldTo s i j s.hs.n := heldTo_eq (fun _ _ => rfl) (fun _ _ => rfl)
  have e2 : fromTo (recvT s b g n) i j (recvT s b g n).ms.n = fromTo s i j s.ms.n := fromTo_eq (fun _ _ => rfl)
  rw [recv_num, e1, e2]
  omega
theorem recv_right (r : RightT p s) (hb : b < p.nb) (hg : g < p.ns) (hn : 1 ≤ n) (h1 : lyingZ s b g + n ≤ 200) (h2 : s.si.z g + n ≤ 1048576) : RightT p (recvT s b g n) := by
  have f := r.fm
  have hbn : b < s.on.n := by rw [f.sh.n]; exact hb
  have hc := (comingTo_bd (s := s) (b := b) (g := g) f.moveN).1
  have hs : RightS p (recvT s b g n).on := by
    refine ⟨f.sh.pl, f.sh.n, fun i hi => by rw [recv_len]; exact f.sh.len i hi, fun i hi j hj => ?_⟩
    have := f.sh.num i hi j hj
    rw [recv_num]
    by_cases hij : i = b ∧ j = g
    · obtain ⟨rfl, rfl⟩ := hij
      rw [if_pos ⟨rfl, rfl⟩]
      unfold lyingZ at h1
      omega
    · rw [if_neg hij]; omega
  refine ⟨⟨hs, shelfE_mk (rightS f.sh0).1 hs, f.os4, f.ms8, f.lns, f.kind, f.line, f.hold, f.home, f.move, f.sin, f.son, f.sfn, fun j hj => ?_, f.sob, f.sfb⟩, fun j hj => ?_, r.orders⟩
  · have := f.sib j hj
    rw [recv_in]
    by_cases hj' : j = g
    · subst hj'; rw [if_pos rfl]; omega
    · rw [if_neg hj']; omega
  · obtain ⟨a1, a2⟩ := goods_no (r.goods j hj)
    refine goods_mk ?_ fun i hi => ?_
    · show sumTo (fun i => ((recvT s b g n).on.r i).z j) s.on.n = (recvT s b g n).si.z j - s.so.z j + s.sf.z j
      rw [recv_in]
      by_cases hj' : j = g
      · subst hj'
        rw [sumTo_put (z := fun i => (s.on.r i).z j) (m := b) (n := n) hbn fun i hi => by
          show ((recvT s b j n).on.r i).z j = _
          rw [recv_num]
          by_cases hib : i = b <;> simp [hib], if_pos rfl, a1]
        omega
      · rw [sumTo_congr (z' := fun i => (s.on.r i).z j) fun i hi => by
          show ((recvT s b g n).on.r i).z j = _
          rw [recv_num]
          simp [hj'], if_neg hj', a1]
        omega
    · rw [recv_avail]
      have := a2 i hi
      split <;> omega
theorem recv_free (hb : b < p.nb) (hg : g < p.ns) : freeZ p (recvT s b g n) b = freeZ p s b - n * p.zs g := by
  unfold freeZ
  have e : takeTo p (recvT s b g n) b (recvT s b g n).ms.n = takeTo p s b s.ms.n := takeTo_eq (fun _ _ => rfl)
  rw [e, usedTo_put (z := (s.on.r b).z) (m := g) (x := n) hg fun j hj => by
    rw [recv_num]
    by_cases hjg : j = g <;> simp [hjg]]
  omega
end
section
variable {p : Pl} {s : St} {l : Hs}
theorem enter_old {i : Nat} (hi : i < s.os.n) : (enterT s l).os.z i = s.os.z i := by
  show (if i = s.os.n then (⟨0, l⟩ : Od) else s.os.z i) = _
  rw [if_neg (by omega)]
theorem enter_new : (enterT s l).os.z s.os.n = ⟨0, l⟩ := by
  show (if s.os.n = s.os.n then (⟨0, l⟩ : Od) else s.os.z s.os.n) = _
  rw [if_pos rfl]
theorem keptS_none {z : Nat → Hd} {o l : Int} : ∀ {n : Nat}, (∀ j, j < n → ¬ (z j).o = o) → keptS z o l n = 0
  | 0, _ => rfl
  | n + 1, h => by
    simp only [keptS]
    rw [keptS_none (n := n) fun j hj => h j (by omega), if_neg fun e => h n (by omega) e.1]
    rfl
theorem enter_right (h : enterE p s l = 0) : RightT p (enterT s l) := by
  obtain ⟨h0, l1, l3, o4, k3, k4⟩ := enterE_zero h
  have r := rightT h0
  have f := r.fm
  have os4 := f.os4
  have ln : ∀ j, j < l.n → ((0 ≤ (l.z j).o ∧ (l.z j).o < p.ns) ∧ 1 ≤ (l.z j).l ∧ (l.z j).l ≤ 200) ∧ (l.z j).b = 0 ∧ (l.z j).n = 0 := fun j hj => by
    have a := anyB_false k3 j hj
    have b := anyB_false k4 j hj
    simp only [outL, begunL, Bool.or_eq_false_iff, Bool.not_eq_false', bne_eq_false_iff_eq] at a b
    have a1 := inB_true a.1
    have a2 := inB_true a.2
    exact ⟨⟨by omega, a2⟩, b⟩
  have hl : ∀ j, j < l.n → badLine p (l.z j) = false := fun j hj => by
    obtain ⟨⟨a1, a2⟩, a3, a4⟩ := ln j hj
    unfold badLine
    rw [inB_mk (by omega), inB_mk (by omega), inB_mk (by omega), inB_mk (by omega)]
    rfl
  have hgo : ∀ j, j < s.hs.n → goodH (enterT s l) (s.hs.z j) = goodH s (s.hs.z j) := fun j hj => by
    have := (homeless_no (f.home j hj)).1
    unfold goodH
    rw [enter_old this.2]
  have hav : ∀ b g, availZ (enterT s l) b g = availZ s b g := fun b g => by
    unfold availZ
    have e1 : heldTo (enterT s l) b g (enterT s l).hs.n = heldTo s b g s.hs.n := heldTo_eq (fun _ _ => rfl) hgo
    have e2 : fromTo (enterT s l) b g (enterT s l).ms.n = fromTo s b g s.ms.n := fromTo_eq (fun _ _ => rfl)
    rw [e1, e2]
    rfl
  have hi' : ∀ i, i < (enterT s l).os.n → i < s.os.n ∨ i = s.os.n := fun i hi => by
    have : i < s.os.n + 1 := hi
    omega
  refine ⟨⟨f.sh, f.sh0, by show s.os.n + 1 ≤ 4; omega, f.ms8, fun i hi => ?_, fun i hi => ?_, fun i hi j hj => ?_, f.hold, fun i hi => ?_, f.move, f.sin, f.son, f.sfn, f.sib, f.sob, f.sfb⟩, fun g hg => ?_, fun i hi => ?_⟩
  · rcases hi' i hi with h | rfl
    · rw [enter_old h]; exact f.lns i h
    · rw [enter_new]; exact ⟨l1, l3⟩
  · rcases hi' i hi with h | rfl
    · rw [enter_old h]; exact f.kind i h
    · rw [enter_new]; show (0 : Int) ≤ 0 ∧ (0 : Int) ≤ 2; omega
  · rcases hi' i hi with h | rfl
    · rw [enter_old h] at hj ⊢; exact f.line i h j hj
    · rw [enter_new] at hj ⊢; exact hl j hj
  · obtain ⟨a1, a2, a3⟩ := homeless_no (f.home i hi)
    refine homeless_mk (s := enterT s l) ⟨a1.1, ?_⟩ ⟨a2.1, ?_⟩ a3
    · show _ < s.os.n + 1
      have := a1.2
      show (s.hs.z i).o.toNat < s.os.n + 1
      omega
    · show (s.hs.z i).l.toNat < ((enterT s l).os.z (s.hs.z i).o.toNat).ls.n
      rw [enter_old a1.2]; exact a2.2
  · obtain ⟨a1, a2⟩ := goods_no (r.goods g hg)
    exact goods_mk a1 fun b hb => by rw [hav]; exact a2 b hb
  · rcases hi' i hi with h | rfl
    · have := r.orders i h
      unfold wrongOrder at this ⊢
      rw [enter_old h]
      exact this
    · unfold wrongOrder
      rw [enter_new]
      show (((0 : Int) == 1 && !anyB l.n (fun j => lacksL (l.z j))) || anyB l.n (fun j => wrongL 0 (l.z j) (keptS s.hs.z s.os.n j s.hs.n))) = false
      rw [Bool.or_eq_false_iff]
      refine ⟨by simp, anyB_no fun j hj => ?_⟩
      obtain ⟨-, a3, a4⟩ := ln j hj
      rw [keptS_none fun q hq e => by have := (homeless_no (f.home q hq)).1; omega]
      unfold wrongL
      rw [if_pos rfl, a3, a4]
      rfl
end
end Go.Proofs.Ytbcacebifpagpad
namespace Go.Proofs.Ytbcacebifpagpad
open Go.RowKit Go.Shelf Go.Sort
set_option linter.unusedVariables false
theorem avail_ok {p : Pl} {s : St} {b g : Nat} (h : stateE p s = 0) (hb : b < p.nb) (hg : g < p.ns) : availE p s b g = 0 ∧ availV p s b g = availZ s b g := by
  have e : availE p s b g = 0 := by unfold availE; rw [if_pos h, inB_mk (by omega), inB_mk (by omega)]; rfl
  exact ⟨e, by unfold availV; rw [if_pos e]; rfl⟩
theorem free_ok {p : Pl} {s : St} {b : Nat} (h : stateE p s = 0) (hb : b < p.nb) : freeE p s b = 0 ∧ freeV p s b = freeZ p s b := by
  have f := (rightT h).fm
  have hu : usedE p s.on b = 0 := by unfold usedE; rw [f.sh0]; simp only [beq_self_eq_true, if_true]; rw [inB_mk (by have := f.sh.n; omega)]; rfl
  have e : freeE p s b = 0 := by unfold freeE; rw [if_pos h, hu]
  exact ⟨e, by unfold freeV; rw [if_pos e]; rfl⟩
theorem avail_bd {p : Pl} {s : St} {b g : Nat} (r : RightT p s) (hb : b < p.nb) (hg : g < p.ns) : 0 ≤ availZ s b g ∧ availZ s b g ≤ 200 := by
  have f := r.fm
  refine ⟨(goods_no (r.goods g hg)).2 b hb, ?_⟩
  have h1 := f.sh.num b (by rw [f.sh.n]; exact hb) g hg
  have h2 := (heldTo_bd (s := s) (b := b) (g := g) f.holdN).1
  have h3 := (fromTo_bd (s := s) (b := b) (g := g) f.moveN).1
  unfold availZ
  omega
set_option maxRecDepth 100000 in
set_option maxHeartbeats 8000000 in
theorem RecvTrue_walk (p : Pl) (s : St) (bin good n : Int) (l : Hs) (w : World) (hp : p.At w) (hs : s.At w) (hl : l.At w) :
    Calls Try.prog 3 #[p.val, s.val, .int .i64 bin, .int .i64 good, .int .i64 n, l.val] w fun e w' => e = .returned (.bool true) ∧ Below w.heap.size w w' := by
  obtain ⟨W0, hW, hWB, X0⟩ : ∃ W, ((w.alloc (.cells #[.slice p.ab p.nb p.cb, .slice p.sa p.ns p.cs] 25)).alloc (.cells s.cells 31)) = W ∧ Below w.heap.size w W ∧ Boxes W w.heap.size (w.heap.size + 1) p s := ⟨_, rfl, two_below _ _ _, boxes_new w p s _ _⟩
  have HC : Hid (∀ wk, Below W0.heap.size W0 wk → Boxes wk w.heap.size (w.heap.size + 1) p s ∧ p.At wk ∧ s.At wk ∧ l.At wk ∧ Below w.heap.size w wk) := fun wk h => ⟨X0.below h, (hp.below hWB).below h, (hs.below hWB).below h, (hl.below hWB).below h, hWB.trans (h.mono hWB.size)⟩
  have HW : Hid ((w.alloc (.cells #[.slice p.ab p.nb p.cb, .slice p.sa p.ns p.cs] 25)).alloc (.cells #[.slice s.on.a s.on.n s.on.c, .slice s.os.a s.os.n s.os.c, .slice s.hs.a s.hs.n s.hs.c, .slice s.ms.a s.ms.n s.ms.c, .slice s.si.a s.si.n s.si.c, .slice s.so.a s.so.n s.so.c, .slice s.sf.a s.sf.n s.sf.c] 31) = W0) := hW
  clear hW X0 hp hs hl
  unfold Pl.val St.val Hs.val
  go_enter Try.func3, Try.ntmps3
  go_wp2_with fail
  rw [HW.out]
  obtain ⟨X, hpk, hsk, hlk, hBw⟩ := HC.out W0 (Below.refl _ _)
  refine (Receive_any p s bin good n W0 hpk hsk).mono ?_
  rintro e w1 ⟨x, rfl, xat, xok, hB⟩
  clear X hpk hsk hlk hBw HW
  obtain ⟨W2, hW, hWB, K1⟩ : ∃ W, w1.alloc (.cells #[.slice x.on.a x.on.n x.on.c, .slice x.os.a x.os.n x.os.c, .slice x.hs.a x.hs.n x.hs.c, .slice x.ms.a x.ms.n x.ms.c, .slice x.si.a x.si.n x.si.c, .slice x.so.a x.so.n x.so.c, .slice x.sf.a x.sf.n x.sf.c] 31) = W ∧ Below w1.heap.size w1 W ∧ Blk W w1.heap.size 31 7 (fun j => x.cells.getD j default) := ⟨_, rfl, (Below.refl _ _).alloc (Nat.le_refl _) _, Blk.mk' rfl rfl⟩
  have HW : Hid (w1.alloc (.cells #[.slice x.on.a x.on.n x.on.c, .slice x.os.a x.os.n x.os.c, .slice x.hs.a x.hs.n x.hs.c, .slice x.ms.a x.ms.n x.ms.c, .slice x.si.a x.si.n x.si.c, .slice x.so.a x.so.n x.so.c, .slice x.sf.a x.sf.n x.sf.c] 31) = W2) := hW
  have hB2 := hB.trans (hWB.mono hB.size)
  have xat := xat.below hWB
  clear hWB hB hW
  by_cases hE : recvE p s bin good n = 0
  · obtain ⟨h0, hb, hg, hn, hf, hl1, hl2⟩ := recvE_zeros hE
    obtain ⟨b, rfl⟩ := Int.eq_ofNat_of_zero_le hb.1
    obtain ⟨g, rfl⟩ := Int.eq_ofNat_of_zero_le hg.1
    have hb' : b < p.nb := by omega
    have hg' : g < p.ns := by omega
    have r := rightT h0
    have rr : RightT p (recvT s b g n) := recv_right r hb' hg' hn.1 hl1 hl2
    have sx : SameT x (recvT s b g n) := xok.1 hE
    have rx := sx.right rr
    have HA : Hid ((availE p s b g = 0 ∧ availV p s b g = availZ s b g) ∧ (availE p x b g = 0 ∧ availV p x b g = availZ s b g + n) ∧ (freeE p x b = 0 ∧ freeV p x b = freeZ p s b - n * p.zs g) ∧ stateE p x = 0) := by
      have ex := stateE_of rx
      refine ⟨avail_ok h0 hb' hg', ⟨(avail_ok ex hb' hg').1, ?_⟩, ⟨(free_ok ex hb').1, ?_⟩, ex⟩
      · rw [(avail_ok ex hb' hg').2, sx.avail rr.fm hb' hg', recv_avail, if_pos ⟨rfl, rfl⟩]
      · rw [(free_ok ex hb').2, sx.free rr.fm hb', recv_free hb' hg']
    have ab := avail_bd r hb' hg'
    have fb : 0 ≤ freeZ p s b - n * p.zs g := by have : n * p.zs g ≤ freeZ p s b := hf; omega
    have fd : decide (freeZ p s b - n * p.zs g < 0) = false := by simp; omega
    rw [hE]
    clear h0 hb hg hf hl1 hl2 r rr sx rx xok hE
    generalize availZ s b g = AV at *
    generalize freeZ p s b - n * p.zs g = FV at *
    have g0 : (AV + n != AV + n) = false := by simp
    obtain ⟨⟨⟨l1, d0, d1⟩, l2, c0, c1, c2, c3, c4, c5, c6⟩, hpk, hsk, hlk, hBw⟩ := HC.out W2 hB2
    have HAT : Hid (p.At W2 ∧ s.At W2 ∧ x.At W2) := ⟨hpk, hsk, xat⟩
    clear hpk hsk hlk
    simp only [St.val]
    have l1e := l1
    have l2e := l2
    have d0e := d0
    have d1e := d1
    have c0e := c0
    have c1e := c1
    have c2e := c2
    have c3e := c3
    have c4e := c4
    have c5e := c5
    have c6e := c6
    rw [← HW.out] at l1e l2e d0e d1e c0e c1e c2e c3e c4e c5e c6e
    go_wp2_with fail
    rw [HW.out]
    clear l1e l2e d0e d1e c0e c1e c2e c3e c4e c5e c6e HW
    generalize w1.heap.size = B1 at *
    refine (Avail_any p s b g W2 HAT.out.1 HAT.out.2.1).mono ?_
    rintro e w3 ⟨rfl, hB3⟩
    have xat := xat.below hB3
    have K1 := K1.below hB3
    have hB3 := hB2.trans (hB3.mono hB2.size)
    clear l1 d0 d1 l2 c0 c1 c2 c3 c4 c5 c6 hBw HAT hB2
    rw [HA.out.1.1, HA.out.1.2]
    obtain ⟨⟨⟨l1, d0, d1⟩, l2, c0, c1, c2, c3, c4, c5, c6⟩, hpk, hsk, hlk, hBw⟩ := HC.out w3 hB3
    obtain ⟨m1, p0, p1, p2, p3, p4, p5, p6⟩ := Boxed.of K1
    have HAT : Hid (p.At w3 ∧ x.At w3) := ⟨hpk, xat⟩
    clear hpk hsk hlk xat
    go_wp2_with fail
    refine (Avail_any p x b g w3 HAT.out.1 HAT.out.2).mono ?_
    rintro e w4 ⟨rfl, hB4⟩
    have xat := HAT.out.2.below hB4
    have K1 := K1.below hB4
    have hB4 := hB3.trans (hB4.mono hB3.size)
    clear l1 d0 d1 l2 c0 c1 c2 c3 c4 c5 c6 hBw HAT hB3
    clear m1 p0 p1 p2 p3 p4 p5 p6
    rw [HA.out.2.1.1, HA.out.2.1.2]
    obtain ⟨⟨⟨l1, d0, d1⟩, l2, c0, c1, c2, c3, c4, c5, c6⟩, hpk, hsk, hlk, hBw⟩ := HC.out w4 hB4
    obtain ⟨m1, p0, p1, p2, p3, p4, p5, p6⟩ := Boxed.of K1
    have HAT : Hid (p.At w4 ∧ x.At w4) := ⟨hpk, xat⟩
    clear hpk hsk hlk xat
    go_wp2_with fail
    refine (Free_any p x b w4 HAT.out.1 HAT.out.2).mono ?_
    rintro e w5 ⟨rfl, hB5⟩
    have xat := HAT.out.2.below hB5
    have K1 := K1.below hB5
    have hB5 := hB4.trans (hB5.mono hB4.size)
    clear l1 d0 d1 l2 c0 c1 c2 c3 c4 c5 c6 hBw HAT hB4
    clear m1 p0 p1 p2 p3 p4 p5 p6
    rw [HA.out.2.2.1.1, HA.out.2.2.1.2]
    obtain ⟨⟨⟨l1, d0, d1⟩, l2, c0, c1, c2, c3, c4, c5, c6⟩, hpk, hsk, hlk, hBw⟩ := HC.out w5 hB5
    obtain ⟨m1, p0, p1, p2, p3, p4, p5, p6⟩ := Boxed.of K1
    have HAT : Hid (p.At w5 ∧ x.At w5) := ⟨hpk, xat⟩
    clear hpk hsk hlk xat
    go_wp2_with fail
    refine (stateCheck_any p x w5 HAT.out.1 HAT.out.2).mono ?_
    rintro e w6 ⟨rfl, hB6⟩
    have hB6 := hB5.trans (hB6.mono hB5.size)
    clear l1 d0 d1 l2 c0 c1 c2 c3 c4 c5 c6 hBw HAT hB5 K1
    clear m1 p0 p1 p2 p3 p4 p5 p6
    rw [HA.out.2.2.2]
    obtain ⟨⟨⟨l1, d0, d1⟩, l2, c0, c1, c2, c3, c4, c5, c6⟩, hpk, hsk, hlk, hBw⟩ := HC.out w6 hB6
    have HAT : Hid (p.At w6 ∧ s.At w6 ∧ l.At w6) := ⟨hpk, hsk, hlk⟩
    clear hpk hsk hlk
    go_wp2_with fail
    refine (Enter_any p s l w6 HAT.out.1 HAT.out.2.1 HAT.out.2.2).mono ?_
    rintro e w7 ⟨y, rfl, yat, yok, hB7⟩
    have hB7 := hB6.trans (hB7.mono hB6.size)
    clear l1 d0 d1 l2 c0 c1 c2 c3 c4 c5 c6 hBw HAT
    obtain ⟨W8, hW, hWB, K2⟩ : ∃ W, w7.alloc (.cells #[.slice y.on.a y.on.n y.on.c, .slice y.os.a y.os.n y.os.c, .slice y.hs.a y.hs.n y.hs.c, .slice y.ms.a y.ms.n y.ms.c, .slice y.si.a y.si.n y.si.c, .slice y.so.a y.so.n y.so.c, .slice y.sf.a y.sf.n y.sf.c] 31) = W ∧ Below w7.heap.size w7 W ∧ Blk W w7.heap.size 31 7 (fun j => y.cells.getD j default) := ⟨_, rfl, (Below.refl _ _).alloc (Nat.le_refl _) _, Blk.mk' rfl rfl⟩
    have HW : Hid (w7.alloc (.cells #[.slice y.on.a y.on.n y.on.c, .slice y.os.a y.os.n y.os.c, .slice y.hs.a y.hs.n y.hs.c, .slice y.ms.a y.ms.n y.ms.c, .slice y.si.a y.si.n y.si.c, .slice y.so.a y.so.n y.so.c, .slice y.sf.a y.sf.n y.sf.c] 31) = W8) := hW
    have hB8 := hB7.trans (hWB.mono hB7.size)
    have yat := yat.below hWB
    clear hWB hB7 hW
    simp only [St.val]
    go_wp2_with fail
    rw [HW.out]
    clear HW
    generalize w7.heap.size = B2 at *
    refine (recvBegun_any W8).mono ?_
    rintro e w9 ⟨rfl, hB9⟩
    have hB10 := hB8.trans (hB9.mono hB8.size)
    have yat := yat.below hB9
    have K2 := K2.below hB9
    clear hB9 hB8
    obtain ⟨⟨⟨l1, d0, d1⟩, l2, c0, c1, c2, c3, c4, c5, c6⟩, hpk, hsk, hlk, hBw⟩ := HC.out w9 hB10
    obtain ⟨m2, t0, t1, t2, t3, t4, t5, t6⟩ := Boxed.of K2
    by_cases hI : enterE p s l = 0
    · have sy : SameT y (enterT s l) := yok.1 hI
      have ry := sy.right (enter_right hI)
      have HY : Hid (stateE p y = 0 ∧ y.os.n = s.os.n + 1 ∧ y.hs.n = s.hs.n ∧ ∀ j, j < y.hs.n → y.hs.z j = s.hs.z j) := ⟨stateE_of ry, sy.os.1, sy.hs.1, sy.hs.2⟩
      have os4 := (rightT (enterE_zero hI).1).fm.os4
      have g1 : ((y.os.n : Int) == (s.os.n : Int) + 1) = true := by rw [HY.out.2.1]; simp
      have HYA : Hid (y.At w9 ∧ p.At w9 ∧ s.At w9) := ⟨yat, hpk, hsk⟩
      rw [hI]
      clear sy ry yok hI yat hpk hsk hlk K2
      go_wp2_with fail
      refine (stateCheck_any p y w9 HYA.out.2.1 HYA.out.1).mono ?_
      rintro e wa ⟨rfl, hBa⟩
      have hB11 := hB10.trans (hBa.mono hB10.size)
      have HYB : Hid (y.hs.At wa ∧ s.hs.At wa) := ⟨HYA.out.1.hs.below hBa, HYA.out.2.2.hs.below hBa⟩
      have m2 := Nat.lt_of_lt_of_le m2 hBa.size
      have t1 := (hBa.cell (p := ⟨B2, 1, none⟩) (by assumption)).trans t1
      have t2 := (hBa.cell (p := ⟨B2, 2, none⟩) (by assumption)).trans t2
      rw [HY.out.1]
      clear l1 d0 d1 l2 c0 c1 c2 c3 c4 c5 c6 hBw t0 t3 t4 t5 t6 HYA hBa
      obtain ⟨⟨⟨l1, d0, d1⟩, l2, c0, c1, c2, c3, c4, c5, c6⟩, hpk, hsk, hlk, hBw⟩ := HC.out wa hB11
      clear hpk hsk hlk
      go_wp2_with fail
      refine (SameHolds_yes y.hs s.hs wa HYB.out.1 HYB.out.2 HY.out.2.2.1 HY.out.2.2.2).mono ?_
      rintro e wb ⟨rfl, hBb⟩
      have hB12 := hB11.trans (hBb.mono hB11.size)
      clear l1 d0 d1 l2 c0 c1 c2 c3 c4 c5 c6 hBw t1 t2 m2 HYB hBb
      go_wp2_with fail
      go_ret
      exact ⟨by simp, (HC.out wb hB12).2.2.2.2⟩
    · have g1 : (enterE p s l != 0) = true := by simpa using hI
      have HBW : Hid (Below w.heap.size w w9) := hBw
      generalize enterE p s l = EE at *
      clear hpk hsk hlk yat yok K2
      go_wp2_with fail
      go_ret
      exact ⟨by simp, HBW.out⟩
  · have g0 : (recvE p s bin good n == 0) = false := by simpa using hE
    obtain ⟨⟨⟨l1, d0, d1⟩, l2, c0, c1, c2, c3, c4, c5, c6⟩, hpk, hsk, hlk, hBw⟩ := HC.out W2 hB2
    have l1e := l1
    have l2e := l2
    have d0e := d0
    have d1e := d1
    have c0e := c0
    have c1e := c1
    have c2e := c2
    have c3e := c3
    have c4e := c4
    have c5e := c5
    have c6e := c6
    rw [← HW.out] at l1e l2e d0e d1e c0e c1e c2e c3e c4e c5e c6e
    clear xat xok K1 hE
    simp only [St.val]
    generalize recvE p s bin good n = RE at *
    have HAT : Hid (p.At W2 ∧ s.At W2 ∧ l.At W2) := ⟨hpk, hsk, hlk⟩
    clear hpk hsk hlk
    go_wp2_with fail
    rw [HW.out]
    clear l1e l2e d0e d1e c0e c1e c2e c3e c4e c5e c6e HW
    refine (Enter_any p s l W2 HAT.out.1 HAT.out.2.1 HAT.out.2.2).mono ?_
    rintro e w7 ⟨y, rfl, yat, yok, hB7⟩
    have hB7 := hB2.trans (hB7.mono hB2.size)
    clear l1 d0 d1 l2 c0 c1 c2 c3 c4 c5 c6 hBw HAT
    obtain ⟨W8, hW, hWB, K2⟩ : ∃ W, w7.alloc (.cells #[.slice y.on.a y.on.n y.on.c, .slice y.os.a y.os.n y.os.c, .slice y.hs.a y.hs.n y.hs.c, .slice y.ms.a y.ms.n y.ms.c, .slice y.si.a y.si.n y.si.c, .slice y.so.a y.so.n y.so.c, .slice y.sf.a y.sf.n y.sf.c] 31) = W ∧ Below w7.heap.size w7 W ∧ Blk W w7.heap.size 31 7 (fun j => y.cells.getD j default) := ⟨_, rfl, (Below.refl _ _).alloc (Nat.le_refl _) _, Blk.mk' rfl rfl⟩
    have HW : Hid (w7.alloc (.cells #[.slice y.on.a y.on.n y.on.c, .slice y.os.a y.os.n y.os.c, .slice y.hs.a y.hs.n y.hs.c, .slice y.ms.a y.ms.n y.ms.c, .slice y.si.a y.si.n y.si.c, .slice y.so.a y.so.n y.so.c, .slice y.sf.a y.sf.n y.sf.c] 31) = W8) := hW
    have hB8 := hB7.trans (hWB.mono hB7.size)
    have yat := yat.below hWB
    clear hWB hB7 hW
    simp only [St.val]
    go_wp2_with fail
    rw [HW.out]
    clear HW
    generalize w7.heap.size = B2 at *
    refine (recvBegun_any W8).mono ?_
    rintro e w9 ⟨rfl, hB9⟩
    have hB10 := hB8.trans (hB9.mono hB8.size)
    have yat := yat.below hB9
    have K2 := K2.below hB9
    clear hB9 hB8
    obtain ⟨⟨⟨l1, d0, d1⟩, l2, c0, c1, c2, c3, c4, c5, c6⟩, hpk, hsk, hlk, hBw⟩ := HC.out w9 hB10
    obtain ⟨m2, t0, t1, t2, t3, t4, t5, t6⟩ := Boxed.of K2
    by_cases hI : enterE p s l = 0
    · have sy : SameT y (enterT s l) := yok.1 hI
      have ry := sy.right (enter_right hI)
      have HY : Hid (stateE p y = 0 ∧ y.os.n = s.os.n + 1 ∧ y.hs.n = s.hs.n ∧ ∀ j, j < y.hs.n → y.hs.z j = s.hs.z j) := ⟨stateE_of ry, sy.os.1, sy.hs.1, sy.hs.2⟩
      have os4 := (rightT (enterE_zero hI).1).fm.os4
      have g1 : ((y.os.n : Int) == (s.os.n : Int) + 1) = true := by rw [HY.out.2.1]; simp
      have HYA : Hid (y.At w9 ∧ p.At w9 ∧ s.At w9) := ⟨yat, hpk, hsk⟩
      rw [hI]
      clear sy ry yok hI yat hpk hsk hlk K2
      go_wp2_with fail
      refine (stateCheck_any p y w9 HYA.out.2.1 HYA.out.1).mono ?_
      rintro e wa ⟨rfl, hBa⟩
      have hB11 := hB10.trans (hBa.mono hB10.size)
      have HYB : Hid (y.hs.At wa ∧ s.hs.At wa) := ⟨HYA.out.1.hs.below hBa, HYA.out.2.2.hs.below hBa⟩
      have m2 := Nat.lt_of_lt_of_le m2 hBa.size
      have t1 := (hBa.cell (p := ⟨B2, 1, none⟩) (by assumption)).trans t1
      have t2 := (hBa.cell (p := ⟨B2, 2, none⟩) (by assumption)).trans t2
      rw [HY.out.1]
      clear l1 d0 d1 l2 c0 c1 c2 c3 c4 c5 c6 hBw t0 t3 t4 t5 t6 HYA hBa
      obtain ⟨⟨⟨l1, d0, d1⟩, l2, c0, c1, c2, c3, c4, c5, c6⟩, hpk, hsk, hlk, hBw⟩ := HC.out wa hB11
      clear hpk hsk hlk
      go_wp2_with fail
      refine (SameHolds_yes y.hs s.hs wa HYB.out.1 HYB.out.2 HY.out.2.2.1 HY.out.2.2.2).mono ?_
      rintro e wb ⟨rfl, hBb⟩
      have hB12 := hB11.trans (hBb.mono hB11.size)
      clear l1 d0 d1 l2 c0 c1 c2 c3 c4 c5 c6 hBw t1 t2 m2 HYB hBb
      go_wp2_with fail
      go_ret
      exact ⟨by simp, (HC.out wb hB12).2.2.2.2⟩
    · have g1 : (enterE p s l != 0) = true := by simpa using hI
      have HBW : Hid (Below w.heap.size w w9) := hBw
      generalize enterE p s l = EE at *
      clear hpk hsk hlk yat yok K2
      go_wp2_with fail
      go_ret
      exact ⟨by simp, HBW.out⟩
end Go.Proofs.Ytbcacebifpagpad
namespace Go.Proofs.Ytbcacebifpagpad
open Go.ChangeShapes Go.WideShapes Go.ChangeAt Go.RowKit Go.Joins Go.Deep
set_option linter.unusedVariables false
set_option maxRecDepth 100000
theorem own : ownKnob Try.prog.godebug = none := by kernel_rfl
theorem laidOut : laidOutB Try.prog = true := by kernel_rfl
theorem cellsInt : Try.prog.cellsOf 3 = 1 := by kernel_rfl
theorem cellsInts : Try.prog.cellsOf 23 = 1 := by kernel_rfl
theorem cellsBin : Try.prog.cellsOf 64 = 4 := by kernel_rfl
theorem cellsPlan : Try.prog.cellsOf 25 = 2 := by kernel_rfl
theorem cellsBool : Try.prog.cellsOf 4 = 1 := by kernel_rfl
section
variable {H : Type} {enc : TypeId × Value → H} {w : World} {held : Bool} {spare : Nat → Bool}
theorem addrOf {a : Addr} {i : Nat} {v : Value} (h : w.cell? (a.add i) = some v) (h0 : ∃ v0, w.cell? a = some v0) : ∃ b o, a = ⟨b, o, none⟩ ∧ b < w.heap.size ∧ w.cell? ⟨b, o + i, none⟩ = some v := by
  obtain ⟨b, off, spot⟩ := a
  obtain ⟨v0, h0⟩ := h0
  have hspot : spot = none := World.cell?_spot h0
  subst hspot
  refine ⟨b, off, rfl, World.block_lt_of_cell? w _ h0, ?_⟩
  rw [← Go.WideShapes.add_plain]
  exact h
theorem readInts {fuel : Nat} {cs : List Value} {x : DataW H × List MemPlace} (h : DataW.trod enc Try.prog w 0 spare held fuel 23 cs = some x) : ∃ r : Rw, cs = [r.val] ∧ r.At w := by
  rcases open_slice1 Try.underlying23 cellsInt h with ⟨rfl, _⟩ | ⟨a, len, cap, m, n, V, D, Pl, rfl, hb, hl, hm, hmm, _, hx⟩
  · exact ⟨⟨none, 0, 0, fun _ => 0⟩, rfl, Nat.le_refl _, Nat.zero_le _, fun i hi => absurd hi (Nat.not_lt_zero _)⟩
  · have hlm : len ≤ m := by rw [hmm]; split <;> omega
    obtain ⟨z, hz⟩ := choose_lt (α := Int) (n := len) (p := fun i y => V i = .int .i64 y) (fun i hi => by
      obtain ⟨y, hy, _⟩ := DataW.trod_int Try.underlying3 (hx i (by omega)).2
      simp only [List.cons.injEq, and_true] at hy
      exact ⟨y, hy⟩)
    refine ⟨⟨some a, len, cap, z⟩, rfl, hl, hm, fun i hi => ?_⟩
    have hi' : i < len := hi
    have h0 : ∃ v0, w.cell? a = some v0 := ⟨_, by have := (hx 0 (by omega)).1; simpa [Addr.add] using this⟩
    obtain ⟨b, o, rfl, hb', hc⟩ := addrOf (hx i (by omega)).1 h0
    exact ⟨b, o, rfl, hb', by rw [hc, hz i hi']⟩
theorem readRows {fuel : Nat} {cs : List Value} {x : DataW H × List MemPlace} (h : DataW.trod enc Try.prog w 0 spare held fuel 26 cs = some x) : ∃ s : Sh, cs = [s.val] ∧ s.At w := by
  rcases open_slice1 Try.underlying26 cellsInts h with ⟨rfl, _⟩ | ⟨a, len, cap, m, n, V, D, Pl, rfl, hb, hl, hm, hmm, _, hx⟩
  · exact ⟨⟨none, 0, 0, fun _ => ⟨none, 0, 0, fun _ => 0⟩⟩, rfl, Nat.le_refl _, Nat.zero_le _, fun i hi => absurd hi (Nat.not_lt_zero _)⟩
  · have hlm : len ≤ m := by rw [hmm]; split <;> omega
    haveI : Inhabited Rw := ⟨⟨none, 0, 0, fun _ => 0⟩⟩
    obtain ⟨z, hz⟩ := choose_lt (α := Rw) (n := len) (p := fun i y => V i = y.val ∧ y.At w) (fun i hi => by
      obtain ⟨y, hy, hat⟩ := readInts (hx i (by omega)).2
      simp only [List.cons.injEq, and_true] at hy
      exact ⟨y, hy, hat⟩)
    refine ⟨⟨some a, len, cap, z⟩, rfl, hl, hm, fun i hi => ?_⟩
    have hi' : i < len := hi
    have h0 : ∃ v0, w.cell? a = some v0 := ⟨_, by have := (hx 0 (by omega)).1; simpa [Addr.add] using this⟩
    obtain ⟨b, o, rfl, hb', hc⟩ := addrOf (hx i (by omega)).1 h0
    exact ⟨b, o, rfl, hb', by rw [hc, (hz i hi').1]; rfl, (hz i hi').2⟩
theorem readBin {fuel : Nat} {c0 c1 c2 c3 : Value} {x : DataW H × List MemPlace} (h : DataW.trod enc Try.prog w 0 spare held fuel 64 [c0, c1, c2, c3] = some x) : ∃ y : Bin, c0 = .bool y.front ∧ c1 = .int .i64 y.room ∧ c2 = .int .i64 y.low ∧ c3 = .int .i64 y.high := by
  obtain ⟨y0, y1, y2, y3, n, hx, hl, h0, h1, h2, h3⟩ := trod_struct4 Try.underlying64 h
  simp only [cellsBool, cellsInt, List.drop_succ_cons, List.drop_zero, List.take_succ_cons, List.take_zero] at h0 h1 h2 h3
  obtain ⟨b, e0, _⟩ := DataW.trod_bool Try.underlying4 h0
  obtain ⟨n1, e1, _⟩ := DataW.trod_int Try.underlying3 h1
  obtain ⟨n2, e2, _⟩ := DataW.trod_int Try.underlying3 h2
  obtain ⟨n3, e3, _⟩ := DataW.trod_int Try.underlying3 h3
  simp only [List.cons.injEq, and_true] at e0 e1 e2 e3
  exact ⟨⟨b, n1, n2, n3⟩, e0, e1, e2, e3⟩
theorem cells4 {base : Nat} {a : Addr} {cs : List Value} (h : w.cells? base a 4 = some cs) : ∃ c0 c1 c2 c3, cs = [c0, c1, c2, c3] ∧ w.cell? a = some c0 ∧ w.cell? (a.add 1) = some c1 ∧ w.cell? (a.add 2) = some c2 ∧ w.cell? (a.add 3) = some c3 := by
  obtain ⟨_, hlen, hc⟩ := World.cells?_some h
  match cs, hlen with
  | [c0, c1, c2, c3], _ =>
    refine ⟨c0, c1, c2, c3, rfl, ?_, ?_, ?_, ?_⟩
    · simpa [Addr.add] using hc 0 (by decide)
    · simpa using hc 1 (by decide)
    · simpa using hc 2 (by decide)
    · simpa using hc 3 (by decide)
theorem readBins {fuel : Nat} {cs : List Value} {x : DataW H × List MemPlace} (h : DataW.trod enc Try.prog w 0 spare held fuel 22 cs = some x) : ∃ a n c z, cs = [.slice a n c] ∧ n ≤ c ∧ c ≤ maxLen ∧ BinsAt w a n z := by
  rcases open_slice Try.underlying22 h with ⟨rfl, _⟩ | ⟨a, len, cap, m, n, D, Pl, rfl, hb, hl, hm, hmm, _, hx⟩
  · exact ⟨none, 0, 0, fun _ => ⟨false, 0, 0, 0⟩, rfl, Nat.le_refl _, Nat.zero_le _, fun i hi => absurd hi (Nat.not_lt_zero _)⟩
  · have hlm : len ≤ m := by rw [hmm]; split <;> omega
    rw [cellsBin] at hx
    haveI : Inhabited Bin := ⟨⟨false, 0, 0, 0⟩⟩
    obtain ⟨z, hz⟩ := choose_lt (α := Bin) (n := len) (p := fun i y => w.cell? (a.add (i * 4)) = some (.bool y.front) ∧ w.cell? (a.add (i * 4 + 1)) = some (.int .i64 y.room) ∧ w.cell? (a.add (i * 4 + 2)) = some (.int .i64 y.low) ∧ w.cell? (a.add (i * 4 + 3)) = some (.int .i64 y.high)) (fun i hi => by
      obtain ⟨cs', hc, ht⟩ := hx i (by omega)
      obtain ⟨c0, c1, c2, c3, rfl, k0, k1, k2, k3⟩ := cells4 hc
      obtain ⟨y, rfl, rfl, rfl, rfl⟩ := readBin ht
      rw [add_add] at k1 k2 k3
      exact ⟨y, k0, k1, k2, k3⟩)
    refine ⟨some a, len, cap, z, rfl, hl, hm, fun i hi => ?_⟩
    have h0 : ∃ v0, w.cell? a = some v0 := ⟨_, by have := (hz 0 (by omega)).1; simpa [Addr.add] using this⟩
    obtain ⟨k0, k1, k2, k3⟩ := hz i hi
    obtain ⟨b, o, rfl, hb', e0⟩ := addrOf k0 h0
    rw [Go.WideShapes.add_plain] at k1 k2 k3
    exact ⟨b, o, rfl, hb', e0, by rw [Nat.add_assoc]; exact k1, by rw [Nat.add_assoc]; exact k2, by rw [Nat.add_assoc]; exact k3⟩
theorem openPlan {r : Reach} {b0 : Nat} {v : Value} {d : DataW H} {ps : List MemPlace} (hv : Value.okWide Try.prog w r b0 25 v) (h : DataW.Trod enc Try.prog w 0 spare held 25 v d ps) : ∃ p : Pl, v = p.val ∧ p.At w := by
  obtain ⟨c0, c1, y0, y1, m, rfl, rfl, rfl, hy0, hy1⟩ := open_agg2 Try.underlying25 (by kernel_rfl) cellsPlan hv h
  obtain ⟨a, n, c, z, e0, h1, h2, h3⟩ := readBins hy0
  obtain ⟨rr, e1, hr⟩ := readInts hy1
  simp only [List.cons.injEq, and_true] at e0 e1
  subst e0 e1
  exact ⟨⟨a, n, c, z, rr.a, rr.n, rr.c, rr.z⟩, rfl, h1, h2, h3, hr.le, hr.cap, hr.ints⟩
end
end Go.Proofs.Ytbcacebifpagpad
namespace Go.Proofs.Ytbcacebifpagpad
open Go.ChangeShapes Go.WideShapes Go.ChangeAt Go.RowKit Go.Joins Go.Deep
set_option linter.unusedVariables false
set_option maxRecDepth 100000
namespace HoldsFrames
theorem own : ownKnob Try.prog.godebug = none := by kernel_rfl
theorem laidOut : laidOutB Try.prog = true := by kernel_rfl
theorem cellsInt : Try.prog.cellsOf 3 = 1 := by kernel_rfl
theorem cellsHold : Try.prog.cellsOf 76 = 4 := by kernel_rfl
section
variable {H : Type} {enc : TypeId × Value → H} {w : World} {held : Bool} {spare : Nat → Bool}
theorem addrOf {a : Addr} {i : Nat} {v : Value} (h : w.cell? (a.add i) = some v) (h0 : ∃ v0, w.cell? a = some v0) : ∃ b o, a = ⟨b, o, none⟩ ∧ b < w.heap.size ∧ w.cell? ⟨b, o + i, none⟩ = some v := by
  obtain ⟨b, off, spot⟩ := a
  obtain ⟨v0, h0⟩ := h0
  have hspot : spot = none := World.cell?_spot h0
  subst hspot
  refine ⟨b, off, rfl, World.block_lt_of_cell? w _ h0, ?_⟩
  rw [← Go.WideShapes.add_plain]
  exact h
theorem cells4 {base : Nat} {a : Addr} {cs : List Value} (h : w.cells? base a 4 = some cs) : ∃ c0 c1 c2 c3, cs = [c0, c1, c2, c3] ∧ w.cell? a = some c0 ∧ w.cell? (a.add 1) = some c1 ∧ w.cell? (a.add 2) = some c2 ∧ w.cell? (a.add 3) = some c3 := by
  obtain ⟨_, hlen, hc⟩ := World.cells?_some h
  match cs, hlen with
  | [c0, c1, c2, c3], _ =>
    refine ⟨c0, c1, c2, c3, rfl, ?_, ?_, ?_, ?_⟩
    · simpa [Addr.add] using hc 0 (by decide)
    · simpa using hc 1 (by decide)
    · simpa using hc 2 (by decide)
    · simpa using hc 3 (by decide)
theorem readHold {fuel : Nat} {c0 c1 c2 c3 : Value} {x : DataW H × List MemPlace} (h : DataW.trod enc Try.prog w 0 spare held fuel 76 [c0, c1, c2, c3] = some x) : ∃ y : Hd, c0 = .int .i64 y.o ∧ c1 = .int .i64 y.l ∧ c2 = .int .i64 y.b ∧ c3 = .int .i64 y.n := by
  obtain ⟨y0, y1, y2, y3, n, hx, hl, h0, h1, h2, h3⟩ := trod_struct4 Try.underlying76 h
  simp only [cellsInt, List.drop_succ_cons, List.drop_zero, List.take_succ_cons, List.take_zero] at h0 h1 h2 h3
  obtain ⟨n0, e0, _⟩ := DataW.trod_int Try.underlying3 h0
  obtain ⟨n1, e1, _⟩ := DataW.trod_int Try.underlying3 h1
  obtain ⟨n2, e2, _⟩ := DataW.trod_int Try.underlying3 h2
  obtain ⟨n3, e3, _⟩ := DataW.trod_int Try.underlying3 h3
  simp only [List.cons.injEq, and_true] at e0 e1 e2 e3
  exact ⟨⟨n0, n1, n2, n3⟩, e0, e1, e2, e3⟩
theorem readHolds {fuel : Nat} {cs : List Value} {x : DataW H × List MemPlace} (h : DataW.trod enc Try.prog w 0 spare held fuel 28 cs = some x) : ∃ s : Hs, cs = [s.val] ∧ s.At w := by
  rcases open_slice Try.underlying28 h with ⟨rfl, _⟩ | ⟨a, len, cap, m, n, D, Pl, rfl, hb, hl, hm, hmm, _, hx⟩
  · exact ⟨⟨none, 0, 0, fun _ => ⟨0, 0, 0, 0⟩⟩, rfl, Nat.le_refl _, Nat.zero_le _, fun i hi => absurd hi (Nat.not_lt_zero _), fun _ => rfl⟩
  · have hlm : len ≤ m := by rw [hmm]; split <;> omega
    rw [cellsHold] at hx
    haveI : Inhabited Hd := ⟨⟨0, 0, 0, 0⟩⟩
    obtain ⟨z, hz⟩ := choose_lt (α := Hd) (n := len) (p := fun i y => w.cell? (a.add (i * 4)) = some (.int .i64 y.o) ∧ w.cell? (a.add (i * 4 + 1)) = some (.int .i64 y.l) ∧ w.cell? (a.add (i * 4 + 2)) = some (.int .i64 y.b) ∧ w.cell? (a.add (i * 4 + 3)) = some (.int .i64 y.n)) (fun i hi => by
      obtain ⟨cs', hc, ht⟩ := hx i (by omega)
      obtain ⟨c0, c1, c2, c3, rfl, k0, k1, k2, k3⟩ := cells4 hc
      obtain ⟨y, rfl, rfl, rfl, rfl⟩ := readHold ht
      rw [add_add] at k1 k2 k3
      exact ⟨y, k0, k1, k2, k3⟩)
    refine ⟨⟨some a, len, cap, z⟩, rfl, hl, hm, fun i hi => ?_, fun h => by cases h⟩
    have hi' : i < len := hi
    have h0 : ∃ v0, w.cell? a = some v0 := ⟨_, by have := (hz 0 (by omega)).1; simpa [Addr.add] using this⟩
    obtain ⟨k0, k1, k2, k3⟩ := hz i hi'
    obtain ⟨b, o, rfl, hb', e0⟩ := addrOf k0 h0
    rw [Go.WideShapes.add_plain] at k1 k2 k3
    exact ⟨b, o, rfl, hb', e0, by rw [Nat.add_assoc]; exact k1, by rw [Nat.add_assoc]; exact k2, by rw [Nat.add_assoc]; exact k3⟩
end
end HoldsFrames
end Go.Proofs.Ytbcacebifpagpad
namespace Go.Proofs.Ytbcacebifpagpad
open Go.ChangeShapes Go.WideShapes Go.ChangeAt Go.RowKit Go.Joins Go.Deep
set_option linter.unusedVariables false
set_option maxRecDepth 100000
theorem cellsLine : Try.prog.cellsOf 50 = 4 := by kernel_rfl
theorem cellsMove : Try.prog.cellsOf 66 = 4 := by kernel_rfl
theorem cellsOrder : Try.prog.cellsOf 48 = 2 := by kernel_rfl
theorem cellsState : Try.prog.cellsOf 31 = 7 := by kernel_rfl
theorem cellsLines : Try.prog.cellsOf 32 = 1 := by kernel_rfl
theorem cellsMoves : Try.prog.cellsOf 29 = 1 := by kernel_rfl
theorem cellsOrders : Try.prog.cellsOf 27 = 1 := by kernel_rfl
theorem cellsHolds : Try.prog.cellsOf 28 = 1 := by kernel_rfl
theorem cellsRows : Try.prog.cellsOf 26 = 1 := by kernel_rfl
section
variable {H : Type} {enc : TypeId × Value → H} {w : World} {held : Bool} {spare : Nat → Bool}
theorem readLine {fuel : Nat} {c0 c1 c2 c3 : Value} {x : DataW H × List MemPlace} (h : DataW.trod enc Try.prog w 0 spare held fuel 50 [c0, c1, c2, c3] = some x) : ∃ y : Hd, c0 = .int .i64 y.o ∧ c1 = .int .i64 y.l ∧ c2 = .int .i64 y.b ∧ c3 = .int .i64 y.n := by
  obtain ⟨y0, y1, y2, y3, n, hx, hl, h0, h1, h2, h3⟩ := trod_struct4 Try.underlying50 h
  simp only [cellsInt, List.drop_succ_cons, List.drop_zero, List.take_succ_cons, List.take_zero] at h0 h1 h2 h3
  obtain ⟨n0, e0, _⟩ := DataW.trod_int Try.underlying3 h0
  obtain ⟨n1, e1, _⟩ := DataW.trod_int Try.underlying3 h1
  obtain ⟨n2, e2, _⟩ := DataW.trod_int Try.underlying3 h2
  obtain ⟨n3, e3, _⟩ := DataW.trod_int Try.underlying3 h3
  simp only [List.cons.injEq, and_true] at e0 e1 e2 e3
  exact ⟨⟨n0, n1, n2, n3⟩, e0, e1, e2, e3⟩
theorem readLines {fuel : Nat} {cs : List Value} {x : DataW H × List MemPlace} (h : DataW.trod enc Try.prog w 0 spare held fuel 32 cs = some x) : ∃ s : Hs, cs = [s.val] ∧ s.At w := by
  rcases open_slice Try.underlying32 h with ⟨rfl, _⟩ | ⟨a, len, cap, m, n, D, Pl, rfl, hb, hl, hm, hmm, _, hx⟩
  · exact ⟨⟨none, 0, 0, fun _ => ⟨0, 0, 0, 0⟩⟩, rfl, Nat.le_refl _, Nat.zero_le _, fun i hi => absurd hi (Nat.not_lt_zero _), fun _ => rfl⟩
  · have hlm : len ≤ m := by rw [hmm]; split <;> omega
    rw [cellsLine] at hx
    haveI : Inhabited Hd := ⟨⟨0, 0, 0, 0⟩⟩
    obtain ⟨z, hz⟩ := choose_lt (α := Hd) (n := len) (p := fun i y => w.cell? (a.add (i * 4)) = some (.int .i64 y.o) ∧ w.cell? (a.add (i * 4 + 1)) = some (.int .i64 y.l) ∧ w.cell? (a.add (i * 4 + 2)) = some (.int .i64 y.b) ∧ w.cell? (a.add (i * 4 + 3)) = some (.int .i64 y.n)) (fun i hi => by
      obtain ⟨cs', hc, ht⟩ := hx i (by omega)
      obtain ⟨c0, c1, c2, c3, rfl, k0, k1, k2, k3⟩ := cells4 hc
      obtain ⟨y, rfl, rfl, rfl, rfl⟩ := readLine ht
      rw [add_add] at k1 k2 k3
      exact ⟨y, k0, k1, k2, k3⟩)
    refine ⟨⟨some a, len, cap, z⟩, rfl, hl, hm, fun i hi => ?_, fun h => by cases h⟩
    have hi' : i < len := hi
    have h0 : ∃ v0, w.cell? a = some v0 := ⟨_, by have := (hz 0 (by omega)).1; simpa [Addr.add] using this⟩
    obtain ⟨k0, k1, k2, k3⟩ := hz i hi'
    obtain ⟨b, o, rfl, hb', e0⟩ := addrOf k0 h0
    rw [Go.WideShapes.add_plain] at k1 k2 k3
    exact ⟨b, o, rfl, hb', e0, by rw [Nat.add_assoc]; exact k1, by rw [Nat.add_assoc]; exact k2, by rw [Nat.add_assoc]; exact k3⟩
theorem readMove {fuel : Nat} {c0 c1 c2 c3 : Value} {x : DataW H × List MemPlace} (h : DataW.trod enc Try.prog w 0 spare held fuel 66 [c0, c1, c2, c3] = some x) : ∃ y : Hd, c0 = .int .i64 y.o ∧ c1 = .int .i64 y.l ∧ c2 = .int .i64 y.b ∧ c3 = .int .i64 y.n := by
  obtain ⟨y0, y1, y2, y3, n, hx, hl, h0, h1, h2, h3⟩ := trod_struct4 Try.underlying66 h
  simp only [cellsInt, List.drop_succ_cons, List.drop_zero, List.take_succ_cons, List.take_zero] at h0 h1 h2 h3
  obtain ⟨n0, e0, _⟩ := DataW.trod_int Try.underlying3 h0
  obtain ⟨n1, e1, _⟩ := DataW.trod_int Try.underlying3 h1
  obtain ⟨n2, e2, _⟩ := DataW.trod_int Try.underlying3 h2
  obtain ⟨n3, e3, _⟩ := DataW.trod_int Try.underlying3 h3
  simp only [List.cons.injEq, and_true] at e0 e1 e2 e3
  exact ⟨⟨n0, n1, n2, n3⟩, e0, e1, e2, e3⟩
theorem readMoves {fuel : Nat} {cs : List Value} {x : DataW H × List MemPlace} (h : DataW.trod enc Try.prog w 0 spare held fuel 29 cs = some x) : ∃ s : Hs, cs = [s.val] ∧ s.At w := by
  rcases open_slice Try.underlying29 h with ⟨rfl, _⟩ | ⟨a, len, cap, m, n, D, Pl, rfl, hb, hl, hm, hmm, _, hx⟩
  · exact ⟨⟨none, 0, 0, fun _ => ⟨0, 0, 0, 0⟩⟩, rfl, Nat.le_refl _, Nat.zero_le _, fun i hi => absurd hi (Nat.not_lt_zero _), fun _ => rfl⟩
  · have hlm : len ≤ m := by rw [hmm]; split <;> omega
    rw [cellsMove] at hx
    haveI : Inhabited Hd := ⟨⟨0, 0, 0, 0⟩⟩
    obtain ⟨z, hz⟩ := choose_lt (α := Hd) (n := len) (p := fun i y => w.cell? (a.add (i * 4)) = some (.int .i64 y.o) ∧ w.cell? (a.add (i * 4 + 1)) = some (.int .i64 y.l) ∧ w.cell? (a.add (i * 4 + 2)) = some (.int .i64 y.b) ∧ w.cell? (a.add (i * 4 + 3)) = some (.int .i64 y.n)) (fun i hi => by
      obtain ⟨cs', hc, ht⟩ := hx i (by omega)
      obtain ⟨c0, c1, c2, c3, rfl, k0, k1, k2, k3⟩ := cells4 hc
      obtain ⟨y, rfl, rfl, rfl, rfl⟩ := readMove ht
      rw [add_add] at k1 k2 k3
      exact ⟨y, k0, k1, k2, k3⟩)
    refine ⟨⟨some a, len, cap, z⟩, rfl, hl, hm, fun i hi => ?_, fun h => by cases h⟩
    have hi' : i < len := hi
    have h0 : ∃ v0, w.cell? a = some v0 := ⟨_, by have := (hz 0 (by omega)).1; simpa [Addr.add] using this⟩
    obtain ⟨k0, k1, k2, k3⟩ := hz i hi'
    obtain ⟨b, o, rfl, hb', e0⟩ := addrOf k0 h0
    rw [Go.WideShapes.add_plain] at k1 k2 k3
    exact ⟨b, o, rfl, hb', e0, by rw [Nat.add_assoc]; exact k1, by rw [Nat.add_assoc]; exact k2, by rw [Nat.add_assoc]; exact k3⟩
theorem cells2 {base : Nat} {a : Addr} {cs : List Value} (h : w.cells? base a 2 = some cs) : ∃ c0 c1, cs = [c0, c1] ∧ w.cell? a = some c0 ∧ w.cell? (a.add 1) = some c1 := by
  obtain ⟨_, hlen, hc⟩ := World.cells?_some h
  match cs, hlen with
  | [c0, c1], _ =>
    refine ⟨c0, c1, rfl, ?_, ?_⟩
    · simpa [Addr.add] using hc 0 (by decide)
    · simpa using hc 1 (by decide)
theorem readOrder {fuel : Nat} {c0 c1 : Value} {x : DataW H × List MemPlace} (h : DataW.trod enc Try.prog w 0 spare held fuel 48 [c0, c1] = some x) : ∃ y : Od, c0 = .int .i64 y.k ∧ c1 = .slice y.ls.a y.ls.n y.ls.c ∧ y.ls.At w := by
  obtain ⟨y0, y1, n, hx, hl, h0, h1⟩ := trod_struct2 Try.underlying48 h
  simp only [cellsInt, cellsLines, List.drop_succ_cons, List.drop_zero, List.take_succ_cons, List.take_zero] at h0 h1
  obtain ⟨n0, e0, _⟩ := DataW.trod_int Try.underlying3 h0
  obtain ⟨s, e1, hs⟩ := readLines h1
  simp only [List.cons.injEq, and_true] at e0 e1
  exact ⟨⟨n0, s⟩, e0, e1, hs⟩
theorem readOrders {fuel : Nat} {cs : List Value} {x : DataW H × List MemPlace} (h : DataW.trod enc Try.prog w 0 spare held fuel 27 cs = some x) : ∃ s : Go.Proofs.Ytbcacebifpagpad.Os, cs = [s.val] ∧ s.At w := by
  rcases open_slice Try.underlying27 h with ⟨rfl, _⟩ | ⟨a, len, cap, m, n, D, Pl, rfl, hb, hl, hm, hmm, _, hx⟩
  · exact ⟨⟨none, 0, 0, fun _ => ⟨0, ⟨none, 0, 0, fun _ => ⟨0, 0, 0, 0⟩⟩⟩⟩, rfl, Nat.le_refl _, Nat.zero_le _, fun i hi => absurd hi (Nat.not_lt_zero _)⟩
  · have hlm : len ≤ m := by rw [hmm]; split <;> omega
    rw [cellsOrder] at hx
    haveI : Inhabited Od := ⟨⟨0, ⟨none, 0, 0, fun _ => ⟨0, 0, 0, 0⟩⟩⟩⟩
    obtain ⟨z, hz⟩ := choose_lt (α := Od) (n := len) (p := fun i y => w.cell? (a.add (i * 2)) = some (.int .i64 y.k) ∧ w.cell? (a.add (i * 2 + 1)) = some (.slice y.ls.a y.ls.n y.ls.c) ∧ y.ls.At w) (fun i hi => by
      obtain ⟨cs', hc, ht⟩ := hx i (by omega)
      obtain ⟨c0, c1, rfl, k0, k1⟩ := cells2 hc
      obtain ⟨y, rfl, rfl, hy⟩ := readOrder ht
      rw [add_add] at k1
      exact ⟨y, k0, k1, hy⟩)
    refine ⟨⟨some a, len, cap, z⟩, rfl, hl, hm, fun i hi => ?_⟩
    have hi' : i < len := hi
    have h0 : ∃ v0, w.cell? a = some v0 := ⟨_, by have := (hz 0 (by omega)).1; simpa [Addr.add] using this⟩
    obtain ⟨k0, k1, hy⟩ := hz i hi'
    obtain ⟨b, o, rfl, hb', e0⟩ := addrOf k0 h0
    rw [Go.WideShapes.add_plain] at k1
    exact ⟨b, o, rfl, hb', e0, by rw [Nat.add_assoc]; exact k1, hy⟩
theorem array7 {α : Type} {cs : Array α} (h : cs.size = 7) : ∃ c0 c1 c2 c3 c4 c5 c6, cs = #[c0, c1, c2, c3, c4, c5, c6] := by
  obtain ⟨l⟩ := cs
  match l, h with
  | [c0, c1, c2, c3, c4, c5, c6], _ => exact ⟨c0, c1, c2, c3, c4, c5, c6, rfl⟩
theorem openState {r : Reach} {b0 : Nat} {v : Value} {d : DataW H} {ps : List MemPlace} (hv : Value.okWide Try.prog w r b0 31 v) (h : DataW.Trod enc Try.prog w 0 spare held 31 v d ps) : ∃ s : St, v = s.val ∧ s.At w := by
  obtain ⟨cs, rfl, hsz⟩ := okWide_struct Try.underlying31 hv
  obtain ⟨c0, c1, c2, c3, c4, c5, c6, rfl⟩ := array7 (hsz.trans cellsState)
  obtain ⟨fuel, hf⟩ := h
  obtain ⟨xs, n, _, hx, hl, hlen, hg⟩ := DataW.trod_struct Try.underlying31 hf
  match xs, hlen with
  | [y0, y1, y2, y3, y4, y5, y6], _ =>
    have k0 := hg 0 _ rfl
    have k1 := hg 1 _ rfl
    have k2 := hg 2 _ rfl
    have k3 := hg 3 _ rfl
    have k4 := hg 4 _ rfl
    have k5 := hg 5 _ rfl
    have k6 := hg 6 _ rfl
    simp [cellsRows, cellsOrders, cellsHolds, cellsMoves, cellsInts, Value.cells] at k0 k1 k2 k3 k4 k5 k6
    obtain ⟨on, e0, h0⟩ := readRows k0
    obtain ⟨os, e1, h1⟩ := readOrders k1
    obtain ⟨hs, e2, h2⟩ := HoldsFrames.readHolds k2
    obtain ⟨ms, e3, h3⟩ := readMoves k3
    obtain ⟨si, e4, h4⟩ := readInts k4
    obtain ⟨so, e5, h5⟩ := readInts k5
    obtain ⟨sf, e6, h6⟩ := readInts k6
    simp only [List.cons.injEq, and_true] at e0 e1 e2 e3 e4 e5 e6
    subst e0 e1 e2 e3 e4 e5 e6
    exact ⟨⟨on, os, hs, ms, si, so, sf⟩, rfl, h0, h1, h2, h3, h4, h5, h6⟩
theorem openLines {r : Reach} {b0 : Nat} {v : Value} {d : DataW H} {ps : List MemPlace} (hv : Value.okWide Try.prog w r b0 32 v) (h : DataW.Trod enc Try.prog w 0 spare held 32 v d ps) : ∃ s : Hs, v = s.val ∧ s.At w := by
  obtain ⟨a0, len, cap, rfl⟩ := okWide_slice Try.underlying32 hv
  obtain ⟨fuel, hf⟩ := h
  obtain ⟨s, e, hs⟩ := readLines hf
  simp only [Value.cells, List.cons.injEq, and_true] at e
  exact ⟨s, e, hs⟩
end
end Go.Proofs.Ytbcacebifpagpad

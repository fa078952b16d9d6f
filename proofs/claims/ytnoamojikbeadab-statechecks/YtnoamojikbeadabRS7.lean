/- What the document begins: BeginOf. -/
import Derived.Test.YtnoamojikbeadabSW10
import Derived.Test.YtnoamojikbeadabW10
import Derived.Test.YtnoamojikbeadabR5
import Derived.Test.YtnoamojikbeadabRS6
namespace Go.Proofs.Ytnoamojikbeadab
open Go.RowKit Go.Shelf Go.Sort
set_option linter.unusedVariables false

def ZeroAt (A n : Nat) (v : Value) (g : List Nat) (wk : World) : Prop := ∃ B, g = [B] ∧ v = .slice (some ⟨B, 0, none⟩) n n ∧ A ≤ B ∧ Blk wk B 3 n (fun _ => .int .i64 0)
theorem ZeroAt.below {A n : Nat} {v : Value} {g : List Nat} {w w' : World} (h : ZeroAt A n v g w) (hB : Below w.heap.size w w') : ZeroAt A n v g w' := by
  obtain ⟨B, h0, h1, h2, h3⟩ := h
  exact ⟨B, h0, h1, h2, h3.below hB⟩
theorem ZeroAt.lt {A n : Nat} {v : Value} {g : List Nat} {w : World} (h : ZeroAt A n v g w) : ∀ x ∈ g, x < w.heap.size := by
  obtain ⟨B, rfl, h1, h2, h3⟩ := h
  intro x hx
  rw [List.mem_singleton] at hx
  subst hx
  exact h3.lt
def BoxAt (A : Nat) (v : Value) (g : List Nat) (wk : World) : Prop := ∃ B, g = [B] ∧ v = .pointer (some ⟨B, 0, none⟩) ∧ A ≤ B ∧ Blk wk B 45 7 (fun _ => .slice .none 0 0)
theorem BoxAt.below {A : Nat} {v : Value} {g : List Nat} {w w' : World} (h : BoxAt A v g w) (hB : Below w.heap.size w w') : BoxAt A v g w' := by
  obtain ⟨B, h0, h1, h2, h3⟩ := h
  exact ⟨B, h0, h1, h2, h3.below hB⟩
theorem BoxAt.lt {A : Nat} {v : Value} {g : List Nat} {w : World} (h : BoxAt A v g w) : ∀ x ∈ g, x < w.heap.size := by
  obtain ⟨B, rfl, h1, h2, h3⟩ := h
  intro x hx
  rw [List.mem_singleton] at hx
  subst hx
  exact h3.lt
def SumsAt (A n : Nat) (v : Value) (g : List Nat) (wk : World) : Prop := ∃ B1 B2 B3, g = [] ∧ v = .agg #[.slice .none 0 0, .slice .none 0 0, .slice .none 0 0, .slice .none 0 0, .slice (some ⟨B1, 0, none⟩) n n, .slice (some ⟨B2, 0, none⟩) n n, .slice (some ⟨B3, 0, none⟩) n n] ∧
  (A ≤ B1 ∧ Blk wk B1 3 n (fun _ => .int .i64 0)) ∧ (A ≤ B2 ∧ Blk wk B2 3 n (fun _ => .int .i64 0)) ∧ (A ≤ B3 ∧ Blk wk B3 3 n (fun _ => .int .i64 0))
theorem SumsAt.below {A n : Nat} {v : Value} {g : List Nat} {w w' : World} (h : SumsAt A n v g w) (hB : Below w.heap.size w w') : SumsAt A n v g w' := by
  obtain ⟨B1, B2, B3, h0, h1, ⟨a1, a2⟩, ⟨b1, b2⟩, ⟨c1, c2⟩⟩ := h
  exact ⟨B1, B2, B3, h0, h1, ⟨a1, a2.below hB⟩, ⟨b1, b2.below hB⟩, ⟨c1, c2.below hB⟩⟩
def OneAt (A n : Nat) (v : Value) (g : List Nat) (wk : World) : Prop := ∃ B R, g = [B] ∧ v = .slice (some ⟨B, 0, none⟩) 1 1 ∧ A ≤ B ∧ Blk wk B 38 1 (fun _ => .slice (some ⟨R, 0, none⟩) n n) ∧ A ≤ R ∧ Blk wk R 3 n (fun _ => .int .i64 0)
theorem OneAt.below {A n : Nat} {v : Value} {g : List Nat} {w w' : World} (h : OneAt A n v g w) (hB : Below w.heap.size w w') : OneAt A n v g w' := by
  obtain ⟨B, R, h0, h1, h2, h3, h4, h5⟩ := h
  exact ⟨B, R, h0, h1, h2, h3.below hB, h4, h5.below hB⟩
theorem OneAt.lt {A n : Nat} {v : Value} {g : List Nat} {w : World} (h : OneAt A n v g w) : ∀ x ∈ g, x < w.heap.size := by
  obtain ⟨B, R, rfl, h1, h2, h3, h4, h5⟩ := h
  intro x hx
  rw [List.mem_singleton] at hx
  subst hx
  exact h3.lt

/-- A state whose every block is new since n: it lies there still where nothing but elder blocks changes. -/
def Fr (n : Nat) (w : World) (s : St) : Prop := ∀ w'' : World, w.heap.size ≤ w''.heap.size → (∀ g, n ≤ g → g < w.heap.size → w''.heap[g]? = w.heap[g]?) → s.At w''
theorem Fr.at {n : Nat} {w : World} {s : St} (h : Fr n w s) : s.At w := h w (Nat.le_refl _) (fun _ _ _ => rfl)
theorem Fr.below {n : Nat} {w w' : World} {s : St} (h : Fr n w s) (hB : Below w.heap.size w w') : Fr n w' s := fun w'' hz hs => h w'' (Nat.le_trans hB.size hz) fun g h1 h2 => (hs g h1 (Nat.lt_of_lt_of_le h2 hB.size)).trans (hB.block g h2)
theorem Fr.set {n : Nat} {w : World} {s : St} (h : Fr n w s) {q : Nat} (hq : q < n) (j : Nat) (u : Value) : Fr n (w.setCell ⟨q, j, none⟩ u) s := fun w'' hz hs => h w'' (by simpa using hz) fun g h1 h2 => (hs g h1 (by simpa using h2)).trans (Below.heap_setCell w ⟨q, j, none⟩ u g (by show g ≠ q; omega))
/-- What is appended to leaves blocks of another type as they were. -/
theorem grown_keep {w w2 : World} {base : Nat} {e : TypeId} {size : Nat} {v : Value} {n : Nat} {xs : List Value} (ho : w.ownsRow base e size v n xs) (hg : w.grownBy w2 v.ownBlock) {q : Nat} {t : TypeId} {m : Nat} {f : Nat → Value} (hb : Blk w q t m f) (hne : t ≠ e) : Blk w2 q t m f := by
  refine hb.grown hg ?_
  intro hq
  rcases ho.2 with ⟨rfl, _⟩ | ⟨g2, cap2, cur2, rfl, _, hh2, hrest⟩
  · simp [Value.ownBlock] at hq
  · simp only [Value.ownBlock, Option.some.injEq] at hq
    subst hq
    obtain ⟨c3, hc3, _⟩ := hb
    rw [hc3] at hh2
    cases hh2
    exact hne rfl
/-- What is owned is owned still where a block of another type is changed. -/
theorem owns_set {w : World} {base : Nat} {e : TypeId} {size : Nat} {v : Value} {n : Nat} {xs : List Value} (ho : w.ownsRow base e size v n xs) {q : Nat} {t : TypeId} {m : Nat} {f : Nat → Value} (hb : Blk w q t m f) (hne : t ≠ e) (j : Nat) (u : Value) : (w.setCell ⟨q, j, none⟩ u).ownsRow base e size v n xs := by
  refine ⟨ho.1, ?_⟩
  rcases ho.2 with h | ⟨g2, cap2, cur2, rfl, hb2, hh2, hrest⟩
  · exact .inl h
  · refine .inr ⟨g2, cap2, cur2, rfl, hb2, ?_, hrest⟩
    rw [Below.heap_setCell w ⟨q, j, none⟩ u g2 ?_]
    · exact hh2
    · intro hq
      obtain ⟨c3, hc3, _⟩ := hb
      rw [hq, hc3] at hh2
      cases hh2
      exact hne rfl
/-- The rows that have been begun. -/
def BegL (p : Pl) (A BX B1 B2 B3 k : Nat) (wk : World) : Prop := ∃ (v : Value) (G : Nat → Nat), Blk wk BX 45 7 (fun j => (#[v, .slice .none 0 0, .slice .none 0 0, .slice .none 0 0, .slice (some ⟨B1, 0, none⟩) p.ns p.ns, .slice (some ⟨B2, 0, none⟩) p.ns p.ns, .slice (some ⟨B3, 0, none⟩) p.ns p.ns] : Array Value).getD j default) ∧
  wk.ownsRow A 38 1 v k ((List.range k).map fun i => Value.slice (some ⟨G i, 0, none⟩) p.ns p.ns) ∧ (∀ i, i < k → A ≤ G i ∧ Blk wk (G i) 3 p.ns (fun _ => .int .i64 0)) ∧
  Blk wk B1 3 p.ns (fun _ => .int .i64 0) ∧ Blk wk B2 3 p.ns (fun _ => .int .i64 0) ∧ Blk wk B3 3 p.ns (fun _ => .int .i64 0)

set_option maxRecDepth 100000 in
set_option maxHeartbeats 4000000 in
theorem BeginOf_any (p : Pl) (w : World) (hp : p.At w) (h0 : planE p = 0) :
    Calls Try.prog 18 #[p.val] w fun e w' => ∃ s : St, e = .returned s.val ∧ Fr w.heap.size w' s ∧ BegunS p s ∧ Below w.heap.size w w' := by
  have capb := hp.capb
  have leb := hp.leb
  have caps := hp.caps
  have les := hp.les
  have R := rightP h0
  have ns3 := R.ns3
  have nb6 := R.nb6
  have nb1 := R.nb1
  clear h0 R
  unfold maxLen at capb caps
  obtain ⟨W0, hW, hWB, X0, Z0⟩ : ∃ W, ((w.alloc (.cells #[.slice p.ab p.nb p.cb, .slice p.sa p.ns p.cs] 40)).alloc (.cells #[.slice .none 0 0, .slice .none 0 0, .slice .none 0 0, .slice .none 0 0, .slice .none 0 0, .slice .none 0 0, .slice .none 0 0] 45)) = W ∧ Below w.heap.size w W ∧ Blk W w.heap.size 40 2 (fun j => (#[.slice p.ab p.nb p.cb, .slice p.sa p.ns p.cs] : Array Value).getD j default) ∧ Blk W (w.heap.size + 1) 45 7 (fun _ => .slice .none 0 0) :=
    ⟨_, rfl, two_below _ _ _, (Blk.mk' rfl rfl).alloc _, (Blk.mk' (cur := #[.slice .none 0 0, .slice .none 0 0, .slice .none 0 0, .slice .none 0 0, .slice .none 0 0, .slice .none 0 0, .slice .none 0 0]) (by simp) rfl).congr (fun j hj => by match j, hj with | 0, _ => rfl | 1, _ => rfl | 2, _ => rfl | 3, _ => rfl | 4, _ => rfl | 5, _ => rfl | 6, _ => rfl)⟩
  have HW : Hid ((w.alloc (.cells #[.slice p.ab p.nb p.cb, .slice p.sa p.ns p.cs] 40)).alloc (.cells #[.slice .none 0 0, .slice .none 0 0, .slice .none 0 0, .slice .none 0 0, .slice .none 0 0, .slice .none 0 0, .slice .none 0 0] 45) = W0) := hW
  have HC : Hid (∀ wk, Below W0.heap.size W0 wk → (w.heap.size < wk.heap.size ∧ wk.cell? ⟨w.heap.size, 0, none⟩ = some (.slice p.ab p.nb p.cb) ∧ wk.cell? ⟨w.heap.size, 1, none⟩ = some (.slice p.sa p.ns p.cs)) ∧ Blk wk (w.heap.size + 1) 45 7 (fun _ => .slice .none 0 0) ∧ Below w.heap.size w wk) :=
    fun wk h => ⟨⟨(X0.below h).lt, (X0.below h).cell (j := 0) (by decide), (X0.below h).cell (j := 1) (by decide)⟩, Z0.below h, hWB.trans (h.mono hWB.size)⟩
  have zlt := Z0.lt
  obtain ⟨i1, hj, hy0, hy1, hy2⟩ := info_parts infoI2
  obtain ⟨i0, hi, hz0, hz1, hz2⟩ := info_parts infoS2
  have r1 : ∀ d os, (grow (redrawn W0 d) os).cell? ⟨w.heap.size, 1, none⟩ = some (.slice p.sa p.ns p.cs) := fun d os => cell_regrown (X0.cell (j := 1) (by decide)) d os
  clear hW X0 Z0 hp
  unfold Pl.val
  go_enter Try.func18, Try.ntmps18
  go_wp2_with fail
  rw [HW.out]
  refine wp_region_made5 (fun w' => ∃ p : Regrown, w' = grow (redrawn W0 p.d) p.os) [0, 1, 4, 5, 8, 9] [2, 3, 6, 7, 10, 11, 12, 13] [(false, 14)] (by kernel_rfl) (by kernel_rfl) (by kernel_rfl) (by kernel_rfl) (by kernel_rfl) (by kernel_rfl) (by kernel_rfl) (by kernel_rfl) (by kernel_rfl) (regrown_of_below ((Below.refl _ _).drew)) ?_
  simp only [picks, List.drop_succ_cons, List.drop_zero, List.take_succ_cons, List.take_zero, List.cons_append, List.nil_append]
  repeat (go_big_quiet_step (fail))
  refine wpQuiet_nil ?_
  refine ⟨fun j v g wk => match j with | 3 => ZeroAt W0.heap.size p.ns v g wk | 7 => ZeroAt W0.heap.size p.ns v g wk | 11 => ZeroAt W0.heap.size p.ns v g wk | 12 => SumsAt W0.heap.size p.ns v g wk | 13 => BoxAt W0.heap.size v g wk | _ => g = [] ∧ v = .int .i64 p.ns,
    List.forall_mem_cons.2 ⟨fun v g w w' _ h => h, List.forall_mem_cons.2 ⟨fun v g w w' hB h => ZeroAt.below h hB, List.forall_mem_cons.2 ⟨fun v g w w' _ h => h, List.forall_mem_cons.2 ⟨fun v g w w' hB h => ZeroAt.below h hB, List.forall_mem_cons.2 ⟨fun v g w w' _ h => h, List.forall_mem_cons.2 ⟨fun v g w w' hB h => ZeroAt.below h hB, List.forall_mem_cons.2 ⟨fun v g w w' hB h => SumsAt.below h hB, List.forall_mem_cons.2 ⟨fun v g w w' hB h => BoxAt.below h hB, List.forall_mem_nil _⟩⟩⟩⟩⟩⟩⟩⟩,
    List.forall_mem_cons.2 ⟨fun v g w h => by rw [h.1]; intro x hx; simp at hx, List.forall_mem_cons.2 ⟨fun v g w h => ZeroAt.lt h, List.forall_mem_cons.2 ⟨fun v g w h => by rw [h.1]; intro x hx; simp at hx, List.forall_mem_cons.2 ⟨fun v g w h => ZeroAt.lt h, List.forall_mem_cons.2 ⟨fun v g w h => by rw [h.1]; intro x hx; simp at hx, List.forall_mem_cons.2 ⟨fun v g w h => ZeroAt.lt h, List.forall_mem_cons.2 ⟨fun v g w h => by obtain ⟨_, _, _, h1, _⟩ := h; rw [h1]; intro x hx; simp at hx, List.forall_mem_cons.2 ⟨fun v g w h => BoxAt.lt h, List.forall_mem_nil _⟩⟩⟩⟩⟩⟩⟩⟩,
    List.forall_mem_cons.2 ⟨?zs2, List.forall_mem_cons.2 ⟨?zs3, List.forall_mem_cons.2 ⟨?zs6, List.forall_mem_cons.2 ⟨?zs7, List.forall_mem_cons.2 ⟨?zs10, List.forall_mem_cons.2 ⟨?zs11, List.forall_mem_cons.2 ⟨?zs12, List.forall_mem_cons.2 ⟨?zs13, List.forall_mem_nil _⟩⟩⟩⟩⟩⟩⟩⟩, ?zdone⟩
  case zs2 =>
    intro V G wk K hS hd hK
    refine wpOp_list 2 rfl ?_
    simp only [putAll, dstOf, List.getElem?_toArray, List.getElem?_cons_succ, List.getElem?_cons_zero, Act.put, List.setIfInBounds_toArray, List.set_cons_succ, List.set_cons_zero] at hK ⊢
    go_wp2_with fail
    exact hK _ [] _ hS (Below.refl _ _) (fun x hx => by simp at hx) ⟨rfl, rfl⟩
  case zs3 =>
    intro V G wk K hS hd hK
    have hX := below_of_regrown hS
    have h2 : G 2 = [] ∧ V 2 = .int .i64 p.ns := hd 2 (List.contains_iff_mem.1 (by kernel_rfl)) (by simp)
    refine wpOp_list 3 rfl ?_
    simp only [putAll, dstOf, List.getElem?_toArray, List.getElem?_cons_succ, List.getElem?_cons_zero, Act.put, List.setIfInBounds_toArray, List.set_cons_succ, List.set_cons_zero, h2.2] at hK ⊢
    go_wp2_with (at_make; refine wpList_make_full _ rfl _ _ 38 rfl wk.heap.size 3 i1 (.int .i64 0) 1 Try.underlying38 hj hy0 hy1 .i64 .i64 _ _ p.ns rfl rfl rfl rfl (by rw [hy2]; omega) (by unfold maxLen; omega) (Nat.le_refl _) ?_; intro w1 hown hgrow)
    obtain ⟨gq, c', hv, _, _, _, hblk⟩ := Blk.ofOwns hown (by simp)
    simp only [Value.slice.injEq, Option.some.injEq, Addr.mk.injEq, and_true] at hv
    obtain ⟨rfl, -, -⟩ := hv
    rw [Nat.mul_one] at hblk
    have hB1 : Below wk.heap.size wk w1 := (Below.refl _ wk).grown hgrow (Nat.le_refl _) (by intro k hk; cases hk)
    exact hK _ [wk.heap.size] _ (regrown_of_below (hX.trans (hB1.mono hX.size))) hB1 (fun x hx => by rw [List.mem_singleton] at hx; omega) ⟨wk.heap.size, rfl, rfl, hX.size, hblk.congr (fun j hj => madeI hj)⟩
  case zs6 =>
    intro V G wk K hS hd hK
    refine wpOp_list 6 rfl ?_
    simp only [putAll, dstOf, List.getElem?_toArray, List.getElem?_cons_succ, List.getElem?_cons_zero, Act.put, List.setIfInBounds_toArray, List.set_cons_succ, List.set_cons_zero] at hK ⊢
    go_wp2_with fail
    exact hK _ [] _ hS (Below.refl _ _) (fun x hx => by simp at hx) ⟨rfl, rfl⟩
  case zs7 =>
    intro V G wk K hS hd hK
    have hX := below_of_regrown hS
    have h2 : G 6 = [] ∧ V 6 = .int .i64 p.ns := hd 6 (List.contains_iff_mem.1 (by kernel_rfl)) (by simp)
    refine wpOp_list 7 rfl ?_
    simp only [putAll, dstOf, List.getElem?_toArray, List.getElem?_cons_succ, List.getElem?_cons_zero, Act.put, List.setIfInBounds_toArray, List.set_cons_succ, List.set_cons_zero, h2.2] at hK ⊢
    go_wp2_with (at_make; refine wpList_make_full _ rfl _ _ 38 rfl wk.heap.size 3 i1 (.int .i64 0) 1 Try.underlying38 hj hy0 hy1 .i64 .i64 _ _ p.ns rfl rfl rfl rfl (by rw [hy2]; omega) (by unfold maxLen; omega) (Nat.le_refl _) ?_; intro w1 hown hgrow)
    obtain ⟨gq, c', hv, _, _, _, hblk⟩ := Blk.ofOwns hown (by simp)
    simp only [Value.slice.injEq, Option.some.injEq, Addr.mk.injEq, and_true] at hv
    obtain ⟨rfl, -, -⟩ := hv
    rw [Nat.mul_one] at hblk
    have hB1 : Below wk.heap.size wk w1 := (Below.refl _ wk).grown hgrow (Nat.le_refl _) (by intro k hk; cases hk)
    exact hK _ [wk.heap.size] _ (regrown_of_below (hX.trans (hB1.mono hX.size))) hB1 (fun x hx => by rw [List.mem_singleton] at hx; omega) ⟨wk.heap.size, rfl, rfl, hX.size, hblk.congr (fun j hj => madeI hj)⟩
  case zs10 =>
    intro V G wk K hS hd hK
    refine wpOp_list 10 rfl ?_
    simp only [putAll, dstOf, List.getElem?_toArray, List.getElem?_cons_succ, List.getElem?_cons_zero, Act.put, List.setIfInBounds_toArray, List.set_cons_succ, List.set_cons_zero] at hK ⊢
    go_wp2_with fail
    exact hK _ [] _ hS (Below.refl _ _) (fun x hx => by simp at hx) ⟨rfl, rfl⟩
  case zs11 =>
    intro V G wk K hS hd hK
    have hX := below_of_regrown hS
    have h2 : G 10 = [] ∧ V 10 = .int .i64 p.ns := hd 10 (List.contains_iff_mem.1 (by kernel_rfl)) (by simp)
    refine wpOp_list 11 rfl ?_
    simp only [putAll, dstOf, List.getElem?_toArray, List.getElem?_cons_succ, List.getElem?_cons_zero, Act.put, List.setIfInBounds_toArray, List.set_cons_succ, List.set_cons_zero, h2.2] at hK ⊢
    go_wp2_with (at_make; refine wpList_make_full _ rfl _ _ 38 rfl wk.heap.size 3 i1 (.int .i64 0) 1 Try.underlying38 hj hy0 hy1 .i64 .i64 _ _ p.ns rfl rfl rfl rfl (by rw [hy2]; omega) (by unfold maxLen; omega) (Nat.le_refl _) ?_; intro w1 hown hgrow)
    obtain ⟨gq, c', hv, _, _, _, hblk⟩ := Blk.ofOwns hown (by simp)
    simp only [Value.slice.injEq, Option.some.injEq, Addr.mk.injEq, and_true] at hv
    obtain ⟨rfl, -, -⟩ := hv
    rw [Nat.mul_one] at hblk
    have hB1 : Below wk.heap.size wk w1 := (Below.refl _ wk).grown hgrow (Nat.le_refl _) (by intro k hk; cases hk)
    exact hK _ [wk.heap.size] _ (regrown_of_below (hX.trans (hB1.mono hX.size))) hB1 (fun x hx => by rw [List.mem_singleton] at hx; omega) ⟨wk.heap.size, rfl, rfl, hX.size, hblk.congr (fun j hj => madeI hj)⟩
  case zs12 =>
    intro V G wk K hS hd hK
    obtain ⟨B1, -, h1, m1, k1⟩ : ZeroAt W0.heap.size p.ns (V 3) (G 3) wk := hd 3 (List.contains_iff_mem.1 (by kernel_rfl)) (by simp)
    obtain ⟨B2, -, h2, m2, k2⟩ : ZeroAt W0.heap.size p.ns (V 7) (G 7) wk := hd 7 (List.contains_iff_mem.1 (by kernel_rfl)) (by simp)
    obtain ⟨B3, -, h3, m3, k3⟩ : ZeroAt W0.heap.size p.ns (V 11) (G 11) wk := hd 11 (List.contains_iff_mem.1 (by kernel_rfl)) (by simp)
    refine wpOp_list 12 rfl ?_
    simp only [putAll, dstOf, List.getElem?_toArray, List.getElem?_cons_succ, List.getElem?_cons_zero, Act.put, List.setIfInBounds_toArray, List.set_cons_succ, List.set_cons_zero, h1, h2, h3] at hK ⊢
    go_wp2_with fail
    exact hK _ [] _ hS (Below.refl _ _) (fun x hx => by simp at hx) ⟨B1, B2, B3, rfl, rfl, ⟨m1, k1⟩, ⟨m2, k2⟩, ⟨m3, k3⟩⟩
  case zs13 =>
    intro V G wk K hS hd hK
    have hX := below_of_regrown hS
    refine wpOp_list 13 rfl ?_
    simp only [putAll, dstOf, List.getElem?_toArray, List.getElem?_cons_succ, List.getElem?_cons_zero, Act.put, List.setIfInBounds_toArray, List.set_cons_succ, List.set_cons_zero] at hK ⊢
    go_wp2_with fail
    exact hK _ [wk.heap.size] _ (regrown_of_below (hX.alloc hX.size _)) ((Below.refl _ _).alloc (Nat.le_refl _) _) (fun x hx => by rw [List.mem_singleton] at hx; omega) ⟨wk.heap.size, rfl, rfl, hX.size, (Blk.mk' (cur := #[.slice .none 0 0, .slice .none 0 0, .slice .none 0 0, .slice .none 0 0, .slice .none 0 0, .slice .none 0 0, .slice .none 0 0]) rfl rfl).congr (fun j hj => by match j, hj with | 0, _ => rfl | 1, _ => rfl | 2, _ => rfl | 3, _ => rfl | 4, _ => rfl | 5, _ => rfl | 6, _ => rfl)⟩
  case zdone =>
    intro V G wk hS hD hA
    obtain ⟨B1, B2, B3, -, h12, ⟨m1, k1⟩, ⟨m2, k2⟩, ⟨m3, k3⟩⟩ : SumsAt W0.heap.size p.ns (V 12) (G 12) wk := hD 12 (by simp)
    obtain ⟨BX, -, h13, mX, kX⟩ : BoxAt W0.heap.size (V 13) (G 13) wk := hD 13 (by simp)
    have hX := below_of_regrown hS
    clear hS hD hA r1
    have xl := kX.lt
    have zf0 := kX.frozen 0
    have zc0 := kX.cell (j := 0) (by decide)
    have zf1 := kX.frozen 1
    have zc1 := kX.cell (j := 1) (by decide)
    have zf2 := kX.frozen 2
    have zc2 := kX.cell (j := 2) (by decide)
    have zf3 := kX.frozen 3
    have zc3 := kX.cell (j := 3) (by decide)
    have zf4 := kX.frozen 4
    have zc4 := kX.cell (j := 4) (by decide)
    have zf5 := kX.frozen 5
    have zc5 := kX.cell (j := 5) (by decide)
    have zf6 := kX.frozen 6
    have zc6 := kX.cell (j := 6) (by decide)
    simp only [putAll, dstOf, List.getElem?_toArray, List.getElem?_cons_succ, List.getElem?_cons_zero, Act.put, List.setIfInBounds_toArray, List.set_cons_succ, List.set_cons_zero, h12, h13]
    refine wpSeq_one 14 rfl ?_
    go_wp2_with fail
    have KZ := set7_blk kX (.slice .none 0 0) (.slice .none 0 0) (.slice .none 0 0) (.slice .none 0 0) (.slice (some ⟨B1, 0, none⟩) p.ns p.ns) (.slice (some ⟨B2, 0, none⟩) p.ns p.ns) (.slice (some ⟨B3, 0, none⟩) p.ns p.ns)
    have hb := set7_below hX mX (.slice .none 0 0) (.slice .none 0 0) (.slice .none 0 0) (.slice .none 0 0) (.slice (some ⟨B1, 0, none⟩) p.ns p.ns) (.slice (some ⟨B2, 0, none⟩) p.ns p.ns) (.slice (some ⟨B3, 0, none⟩) p.ns p.ns)
    have k1' := set7_other k1 (Blk.ne k1 kX (by decide)) (.slice .none 0 0) (.slice .none 0 0) (.slice .none 0 0) (.slice .none 0 0) (.slice (some ⟨B1, 0, none⟩) p.ns p.ns) (.slice (some ⟨B2, 0, none⟩) p.ns p.ns) (.slice (some ⟨B3, 0, none⟩) p.ns p.ns)
    have k2' := set7_other k2 (Blk.ne k2 kX (by decide)) (.slice .none 0 0) (.slice .none 0 0) (.slice .none 0 0) (.slice .none 0 0) (.slice (some ⟨B1, 0, none⟩) p.ns p.ns) (.slice (some ⟨B2, 0, none⟩) p.ns p.ns) (.slice (some ⟨B3, 0, none⟩) p.ns p.ns)
    have k3' := set7_other k3 (Blk.ne k3 kX (by decide)) (.slice .none 0 0) (.slice .none 0 0) (.slice .none 0 0) (.slice .none 0 0) (.slice (some ⟨B1, 0, none⟩) p.ns p.ns) (.slice (some ⟨B2, 0, none⟩) p.ns p.ns) (.slice (some ⟨B3, 0, none⟩) p.ns p.ns)
    unfold set7 at KZ hb k1' k2' k3'
    generalize (((((((wk.setCell { block := BX, off := 0 } (Value.slice none 0 0)).setCell { block := BX, off := 1 } (Value.slice none 0 0)).setCell { block := BX, off := 2 } (Value.slice none 0 0)).setCell { block := BX, off := 3 } (Value.slice none 0 0)).setCell { block := BX, off := 4 } (Value.slice (some { block := B1, off := 0 }) p.ns p.ns)).setCell { block := BX, off := 5 } (Value.slice (some { block := B2, off := 0 }) p.ns p.ns)).setCell { block := BX, off := 6 } (Value.slice (some { block := B3, off := 0 }) p.ns p.ns)) = WZ at *
    clear kX k1 k2 k3 hX zf0 zc0 zf1 zc1 zf2 zc2 zf3 zc3 zf4 zc4 zf5 zc5 zf6 zc6 xl h12 h13
    refine ⟨Late.no (regrown_of_below hb), ?_⟩
    refine NoPanic.normal ?_
    go_wp2_with fail
    have HL0 : Hid (BegL p W0.heap.size BX B1 B2 B3 0 WZ) := ⟨.slice .none 0 0, fun _ => 0, KZ, World.ownsRow_nil _ _ _ _, fun i hi => absurd hi (Nat.not_lt_zero _), k1', k2', k3'⟩
    clear KZ k1' k2' k3'
    go_loopw [4] (fun i wk => ∃ k : Nat, k ≤ p.nb ∧ i = .int .i64 k ∧ Hid (BegL p W0.heap.size BX B1 B2 B3 k wk) ∧ Below W0.heap.size W0 wk) (fun i _ => p.nb - (intOf i).toNat)
    case atStart => exact ⟨0, Nat.zero_le _, rfl, HL0, hb⟩
    case round =>
      clear HL0 hb
      obtain ⟨k, hk, rfl, HL, hB⟩ := hrel
      obtain ⟨⟨l1, d0, d1⟩, hz, hBw⟩ := HC.out wr hB
      by_cases hlt : k < p.nb
      · obtain ⟨v, G, kX, ho, gr, k1, k2, k3⟩ := HL.out
        have HG : Hid (wr.ownsRow W0.heap.size 38 1 v k ((List.range k).map fun i => Value.slice (some ⟨G i, 0, none⟩) p.ns p.ns) ∧ (∀ i, i < k → W0.heap.size ≤ G i ∧ Blk wr (G i) 3 p.ns (fun _ => .int .i64 0)) ∧ Blk wr B1 3 p.ns (fun _ => .int .i64 0) ∧ Blk wr B2 3 p.ns (fun _ => .int .i64 0) ∧ Blk wr B3 3 p.ns (fun _ => .int .i64 0)) := ⟨ho, gr, k1, k2, k3⟩
        have HX : Hid (Blk wr BX 45 7 (fun j => (#[v, .slice .none 0 0, .slice .none 0 0, .slice .none 0 0, .slice (some ⟨B1, 0, none⟩) p.ns p.ns, .slice (some ⟨B2, 0, none⟩) p.ns p.ns, .slice (some ⟨B3, 0, none⟩) p.ns p.ns] : Array Value).getD j default)) := kX
        have qk : (0 : Int) ≤ (k : Int) := by omega
        have r0 : ∀ d os, (grow (redrawn wr d) os).cell? ⟨BX, 0, none⟩ = some v := fun d os => cell_regrown (kX.cell (j := 0) (by decide)) d os
        have r1 : ∀ d os, (grow (redrawn wr d) os).cell? ⟨w.heap.size, 1, none⟩ = some (.slice p.sa p.ns p.cs) := fun d os => cell_regrown d1 d os
        clear kX ho gr k1 k2 k3 hz
        go_wp2_with fail
        refine wp_region_made5 (fun w' => ∃ p : Regrown, w' = grow (redrawn wr p.d) p.os) [0, 1, 2, 3] [4, 5, 6] [(true, 7), (true, 8), (true, 9)] (by kernel_rfl) (by kernel_rfl) (by kernel_rfl) (by kernel_rfl) (by kernel_rfl) (by kernel_rfl) (by kernel_rfl) (by kernel_rfl) (by kernel_rfl) (regrown_of_below ((Below.refl _ _).drew)) ?_
        simp only [picks, List.drop_succ_cons, List.drop_zero, List.take_succ_cons, List.take_zero, List.cons_append, List.nil_append]
        repeat (go_big_quiet_step (fail))
        refine wpQuiet_nil ?_
        refine ⟨fun j v g wk => match j with | 5 => ZeroAt wr.heap.size p.ns v g wk | 6 => OneAt wr.heap.size p.ns v g wk | _ => g = [] ∧ v = .int .i64 p.ns,
          List.forall_mem_cons.2 ⟨fun v g w w' _ h => h, List.forall_mem_cons.2 ⟨fun v g w w' hB h => ZeroAt.below h hB, List.forall_mem_cons.2 ⟨fun v g w w' hB h => OneAt.below h hB, List.forall_mem_nil _⟩⟩⟩,
          List.forall_mem_cons.2 ⟨fun v g w h => by rw [h.1]; intro x hx; simp at hx, List.forall_mem_cons.2 ⟨fun v g w h => ZeroAt.lt h, List.forall_mem_cons.2 ⟨fun v g w h => OneAt.lt h, List.forall_mem_nil _⟩⟩⟩,
          List.forall_mem_cons.2 ⟨?zt4, List.forall_mem_cons.2 ⟨?zt5, List.forall_mem_cons.2 ⟨?zt6, List.forall_mem_nil _⟩⟩⟩, ?ztdone⟩
        case zt4 =>
          intro V G wk K hS hd hK
          refine wpOp_list 4 rfl ?_
          simp only [putAll, dstOf, List.getElem?_toArray, List.getElem?_cons_succ, List.getElem?_cons_zero, Act.put, List.setIfInBounds_toArray, List.set_cons_succ, List.set_cons_zero] at hK ⊢
          go_wp2_with fail
          exact hK _ [] _ hS (Below.refl _ _) (fun x hx => by simp at hx) ⟨rfl, rfl⟩
        case zt5 =>
          intro V G wk K hS hd hK
          have hX := below_of_regrown hS
          have h2 : G 4 = [] ∧ V 4 = .int .i64 p.ns := hd 4 (List.contains_iff_mem.1 (by kernel_rfl)) (by simp)
          refine wpOp_list 5 rfl ?_
          simp only [putAll, dstOf, List.getElem?_toArray, List.getElem?_cons_succ, List.getElem?_cons_zero, Act.put, List.setIfInBounds_toArray, List.set_cons_succ, List.set_cons_zero, h2.2] at hK ⊢
          go_wp2_with (at_make; refine wpList_make_full _ rfl _ _ 38 rfl wk.heap.size 3 i1 (.int .i64 0) 1 Try.underlying38 hj hy0 hy1 .i64 .i64 _ _ p.ns rfl rfl rfl rfl (by rw [hy2]; omega) (by unfold maxLen; omega) (Nat.le_refl _) ?_; intro w1 hown hgrow)
          obtain ⟨gq, c', hv, _, _, _, hblk⟩ := Blk.ofOwns hown (by simp)
          simp only [Value.slice.injEq, Option.some.injEq, Addr.mk.injEq, and_true] at hv
          obtain ⟨rfl, -, -⟩ := hv
          rw [Nat.mul_one] at hblk
          have hB1 : Below wk.heap.size wk w1 := (Below.refl _ wk).grown hgrow (Nat.le_refl _) (by intro k hk; cases hk)
          exact hK _ [wk.heap.size] _ (regrown_of_below (hX.trans (hB1.mono hX.size))) hB1 (fun x hx => by rw [List.mem_singleton] at hx; omega) ⟨wk.heap.size, rfl, rfl, hX.size, hblk.congr (fun j hj => madeI hj)⟩
        case zt6 =>
          intro V G wk K hS hd hK
          have hX := below_of_regrown hS
          obtain ⟨R, -, h5, m5, k5⟩ : ZeroAt wr.heap.size p.ns (V 5) (G 5) wk := hd 5 (List.contains_iff_mem.1 (by kernel_rfl)) (by simp)
          refine wpOp_list 6 rfl ?_
          simp only [putAll, dstOf, List.getElem?_toArray, List.getElem?_cons_succ, List.getElem?_cons_zero, Act.put, List.setIfInBounds_toArray, List.set_cons_succ, List.set_cons_zero, h5] at hK ⊢
          go_wp2_with fail
          exact hK _ [wk.heap.size] _ (regrown_of_below (hX.alloc hX.size _)) ((Below.refl _ _).alloc (Nat.le_refl _) _) (fun x hx => by rw [List.mem_singleton] at hx; omega) ⟨wk.heap.size, R, rfl, rfl, hX.size, (Blk.mk' (cur := #[.slice (some ⟨R, 0, none⟩) p.ns p.ns]) rfl rfl).congr (fun j hj => by match j, hj with | 0, _ => rfl), m5, k5.alloc _⟩
        case ztdone =>
          intro V G' wk hS hD hA
          obtain ⟨BO, R, -, h6, m6, k6, mR, kR⟩ : OneAt wr.heap.size p.ns (V 6) (G' 6) wk := hD 6 (by simp)
          have hX := below_of_regrown hS
          clear hS hD hA r0 r1
          have ho := owns_below HG.out.1 hX
          have hBk := hB.trans (hX.mono hB.size)
          have s0 := hB.size
          have s1 := hX.size
          simp only [putAll, dstOf, List.getElem?_toArray, List.getElem?_cons_succ, List.getElem?_cons_zero, Act.put, List.setIfInBounds_toArray, List.set_cons_succ, List.set_cons_zero, h6]
          refine wpSeq_one 7 rfl ?_
          go_wp2_with (at_builtin; refine wpList_append_own _ rfl (.tmp 26) (.tmp 31) 41 rfl W0.heap.size 38 i0 (.slice none 0 0) 1 24 Try.underlying41 hi hz0 hz1 hz2 rfl (by decide) _ _ _ rfl ho ⟨BO, 0, none⟩ 1 1 [.slice (some ⟨R, 0, none⟩) p.ns p.ns] rfl rfl ?zc1 ?zc2 ?zc3 ?zc4 ?zc5 ?_)
          case zc1 =>
            intro j u hj
            match j, hj with
            | 0, hj => simp at hj; subst hj; exact k6.cell (j := 0) (by decide)
          case zc2 => intro u hu; simp at hu; subst hu; rfl
          case zc3 => unfold maxLen; omega
          case zc4 => omega
          case zc5 => omega
          intro v2 w2 hown2 hgrow2 hnil2
          have hlt2 := ho.lt
          have hB2 : Below W0.heap.size W0 w2 := hBk.grown hgrow2 (by omega) (fun q hq => (hlt2 q hq).1)
          have kX2 := grown_keep ho hgrow2 (HX.out.below hX) (by decide)
          have kR2 := grown_keep ho hgrow2 kR (by decide)
          have k12 := grown_keep ho hgrow2 (HG.out.2.2.1.below hX) (by decide)
          have k22 := grown_keep ho hgrow2 (HG.out.2.2.2.1.below hX) (by decide)
          have k32 := grown_keep ho hgrow2 (HG.out.2.2.2.2.below hX) (by decide)
          have gr2 : ∀ i, i < k → W0.heap.size ≤ G i ∧ Blk w2 (G i) 3 p.ns (fun _ => .int .i64 0) := fun i hi => ⟨(HG.out.2.1 i hi).1, grown_keep ho hgrow2 ((HG.out.2.1 i hi).2.below hX) (by decide)⟩
          clear ho hgrow2 hnil2 hlt2 kR k6 hX HG HX hBk HL
          have xl := kX2.lt
          have zf0 := kX2.frozen 0
          have zc0 := kX2.cell (j := 0) (by decide)
          have nXi : ∀ q n f, Blk w2 q 3 n f → q ≠ BX := fun q n f hq => Blk.ne hq kX2 (by decide)
          have hst := hB2.setCell (p := ⟨BX, 0, none⟩) mX v2
          have KB := kX2.set 0 v2
          have HN : Hid (BegL p W0.heap.size BX B1 B2 B3 (k + 1) (w2.setCell ⟨BX, 0, none⟩ v2)) := by
            refine ⟨v2, fun i => if i = k then R else G i, KB.congr (fun j hj => by match j, hj with | 0, _ => rfl | 1, _ => rfl | 2, _ => rfl | 3, _ => rfl | 4, _ => rfl | 5, _ => rfl | 6, _ => rfl), ?_, fun i hi => ?_, k12.other (nXi _ _ _ k12) _, k22.other (nXi _ _ _ k22) _, k32.other (nXi _ _ _ k32) _⟩
            · have e : (List.range (k + 1)).map (fun i => Value.slice (some ⟨if i = k then R else G i, 0, none⟩) p.ns p.ns) = ((List.range k).map fun i => Value.slice (some ⟨G i, 0, none⟩) p.ns p.ns) ++ [.slice (some ⟨R, 0, none⟩) p.ns p.ns] := by
                rw [List.range_succ, List.map_append]
                congr 1
                · exact List.map_congr_left fun i hi => by have := List.mem_range.1 hi; simp [show ¬ i = k by omega]
                · simp
              rw [e]
              exact owns_set hown2 kX2 (by decide) _ _
            · dsimp only
              by_cases hik : i = k
              · rw [if_pos hik]; exact ⟨by omega, kR2.other (nXi _ _ _ kR2) _⟩
              · rw [if_neg hik]; exact ⟨(gr2 i (by omega)).1, (gr2 i (by omega)).2.other (nXi _ _ _ (gr2 i (by omega)).2) _⟩
          have hv2 : ∃ g c, v2 = .slice (some ⟨g, 0, none⟩) (k + 1) c := by
            rcases hown2.2 with ⟨_, h0⟩ | ⟨g2, cap2, cur2, rfl, _⟩
            · omega
            · exact ⟨g2, cap2, rfl⟩
          clear kR2 k12 k22 k32 gr2 nXi KB hown2 kX2
          obtain ⟨g2, c2, rfl⟩ := hv2
          refine wpList_end ⟨Late.yes, ?_⟩
          refine wpSeq_one 8 rfl ?_
          go_wp2_with fail
          refine ⟨Late.yes, ?_⟩
          refine wpSeq_one 9 rfl ?_
          go_wp2_with fail
          refine ⟨Late.yes, ?_⟩
          refine NoPanic.normal ?_
          go_wp2_with fail
          go_roundw
          case rel => exact ⟨k + 1, by omega, by go_num, HN, hst⟩
          case measure => simp [intOf]; omega
      · have hkn : k = p.nb := by omega
        subst hkn
        obtain ⟨v, G, kX, ho, gr, k1, k2, k3⟩ := HL.out
        have hv : ∃ g c, v = .slice (some ⟨g, 0, none⟩) p.nb c := by
          rcases ho.2 with ⟨_, h0⟩ | ⟨g2, cap2, cur2, rfl, _⟩
          · omega
          · exact ⟨g2, cap2, rfl⟩
        obtain ⟨gg, cc, rfl⟩ := hv
        obtain ⟨g', c', hvv, hc1, hc2, hc3, hc4⟩ := Blk.ofOwns ho (by simp)
        simp only [Value.slice.injEq, Option.some.injEq, Addr.mk.injEq, and_true, true_and] at hvv
        obtain ⟨rfl, rfl⟩ := hvv
        rw [Nat.mul_one] at hc4
        have kg : Blk wr gg 38 p.nb (fun i => .slice (some ⟨G i, 0, none⟩) p.ns p.ns) := hc4.congr (fun j hj => by simp [hj])
        have HGG : Hid (W0.heap.size ≤ gg ∧ ∀ i, i < p.nb → W0.heap.size ≤ G i) := ⟨hc3, fun i hi => (gr i hi).1⟩
        have HG : Hid (Blk wr gg 38 p.nb (fun i => .slice (some ⟨G i, 0, none⟩) p.ns p.ns) ∧ (∀ i, i < p.nb → Blk wr (G i) 3 p.ns (fun _ => .int .i64 0)) ∧ Blk wr B1 3 p.ns (fun _ => .int .i64 0) ∧ Blk wr B2 3 p.ns (fun _ => .int .i64 0) ∧ Blk wr B3 3 p.ns (fun _ => .int .i64 0)) := ⟨kg, fun i hi => (gr i hi).2, k1, k2, k3⟩
        clear hc4 kg
        have HZ : Hid (Blk wr (w.heap.size + 1) 45 7 (fun _ => .slice .none 0 0)) := hz
        have xl := kX.lt
        obtain ⟨b0, b1, b2, b3, b4, b5, b6⟩ := box_cells kX
        have zl := hz.lt
        have zf0 := hz.frozen 0
        have zc0 := hz.cell (j := 0) (by decide)
        have zf1 := hz.frozen 1
        have zc1 := hz.cell (j := 1) (by decide)
        have zf2 := hz.frozen 2
        have zc2 := hz.cell (j := 2) (by decide)
        have zf3 := hz.frozen 3
        have zc3 := hz.cell (j := 3) (by decide)
        have zf4 := hz.frozen 4
        have zc4 := hz.cell (j := 4) (by decide)
        have zf5 := hz.frozen 5
        have zc5 := hz.cell (j := 5) (by decide)
        have zf6 := hz.frozen 6
        have zc6 := hz.cell (j := 6) (by decide)
        clear kX ho gr k1 k2 k3 hz HL
        go_wp2_with fail
        have KZ := set7_blk HZ.out (.slice (some ⟨gg, 0, none⟩) p.nb cc) (.slice .none 0 0) (.slice .none 0 0) (.slice .none 0 0) (.slice (some ⟨B1, 0, none⟩) p.ns p.ns) (.slice (some ⟨B2, 0, none⟩) p.ns p.ns) (.slice (some ⟨B3, 0, none⟩) p.ns p.ns)
        have hbz := set7_below (b := w.heap.size + 1) hBw (by omega) (.slice (some ⟨gg, 0, none⟩) p.nb cc) (.slice .none 0 0) (.slice .none 0 0) (.slice .none 0 0) (.slice (some ⟨B1, 0, none⟩) p.ns p.ns) (.slice (some ⟨B2, 0, none⟩) p.ns p.ns) (.slice (some ⟨B3, 0, none⟩) p.ns p.ns)
        have kon := set7_other HG.out.1 (Blk.ne HG.out.1 HZ.out (by decide)) (.slice (some ⟨gg, 0, none⟩) p.nb cc) (.slice .none 0 0) (.slice .none 0 0) (.slice .none 0 0) (.slice (some ⟨B1, 0, none⟩) p.ns p.ns) (.slice (some ⟨B2, 0, none⟩) p.ns p.ns) (.slice (some ⟨B3, 0, none⟩) p.ns p.ns)
        have krw := fun i (hi : i < p.nb) => set7_other (HG.out.2.1 i hi) (Blk.ne (HG.out.2.1 i hi) HZ.out (by decide)) (.slice (some ⟨gg, 0, none⟩) p.nb cc) (.slice .none 0 0) (.slice .none 0 0) (.slice .none 0 0) (.slice (some ⟨B1, 0, none⟩) p.ns p.ns) (.slice (some ⟨B2, 0, none⟩) p.ns p.ns) (.slice (some ⟨B3, 0, none⟩) p.ns p.ns)
        have k1' := set7_other HG.out.2.2.1 (Blk.ne HG.out.2.2.1 HZ.out (by decide)) (.slice (some ⟨gg, 0, none⟩) p.nb cc) (.slice .none 0 0) (.slice .none 0 0) (.slice .none 0 0) (.slice (some ⟨B1, 0, none⟩) p.ns p.ns) (.slice (some ⟨B2, 0, none⟩) p.ns p.ns) (.slice (some ⟨B3, 0, none⟩) p.ns p.ns)
        have k2' := set7_other HG.out.2.2.2.1 (Blk.ne HG.out.2.2.2.1 HZ.out (by decide)) (.slice (some ⟨gg, 0, none⟩) p.nb cc) (.slice .none 0 0) (.slice .none 0 0) (.slice .none 0 0) (.slice (some ⟨B1, 0, none⟩) p.ns p.ns) (.slice (some ⟨B2, 0, none⟩) p.ns p.ns) (.slice (some ⟨B3, 0, none⟩) p.ns p.ns)
        have k3' := set7_other HG.out.2.2.2.2 (Blk.ne HG.out.2.2.2.2 HZ.out (by decide)) (.slice (some ⟨gg, 0, none⟩) p.nb cc) (.slice .none 0 0) (.slice .none 0 0) (.slice .none 0 0) (.slice (some ⟨B1, 0, none⟩) p.ns p.ns) (.slice (some ⟨B2, 0, none⟩) p.ns p.ns) (.slice (some ⟨B3, 0, none⟩) p.ns p.ns)
        unfold set7 at KZ hbz kon krw k1' k2' k3'
        generalize (((((((wr.setCell { block := w.heap.size + 1, off := 0 } (Value.slice (some { block := gg, off := 0 }) p.nb cc)).setCell { block := w.heap.size + 1, off := 1 } (Value.slice none 0 0)).setCell { block := w.heap.size + 1, off := 2 } (Value.slice none 0 0)).setCell { block := w.heap.size + 1, off := 3 } (Value.slice none 0 0)).setCell { block := w.heap.size + 1, off := 4 } (Value.slice (some { block := B1, off := 0 }) p.ns p.ns)).setCell { block := w.heap.size + 1, off := 5 } (Value.slice (some { block := B2, off := 0 }) p.ns p.ns)).setCell { block := w.heap.size + 1, off := 6 } (Value.slice (some { block := B3, off := 0 }) p.ns p.ns)) = WY at *
        obtain ⟨c0, c1, c2, c3, c4, c5, c6⟩ := box_cells KZ
        refine bodyPost_ret (v := (⟨⟨some ⟨gg, 0, none⟩, p.nb, cc, fun i => ⟨some ⟨G i, 0, none⟩, p.ns, p.ns, fun _ => 0⟩⟩, ⟨none, 0, 0, fun _ => ⟨0, ⟨none, 0, 0, fun _ => ⟨0, 0, 0, 0⟩⟩⟩⟩, ⟨none, 0, 0, fun _ => ⟨0, 0, 0, 0⟩⟩, ⟨none, 0, 0, fun _ => ⟨0, 0, 0, 0⟩⟩, ⟨some ⟨B1, 0, none⟩, p.ns, p.ns, fun _ => 0⟩, ⟨some ⟨B2, 0, none⟩, p.ns, p.ns, fun _ => 0⟩, ⟨some ⟨B3, 0, none⟩, p.ns, p.ns, fun _ => 0⟩⟩ : St).val) (by simp [results, Try.results18, go_sem, St.val, c0, c1, c2, c3, c4, c5, c6]) rfl ?_
        refine ⟨_, rfl, fun w'' hsz hsm => ?_, ⟨rfl, fun i hi => ⟨rfl, fun j hj => rfl⟩, rfl, rfl, rfl, ⟨rfl, fun j hj => rfl⟩, ⟨rfl, fun j hj => rfl⟩, ⟨rfl, fun j hj => rfl⟩⟩, hbz⟩
        have q0 := HGG.out.1
        have kon := kon.same (hsm gg (by omega) kon.lt)
        refine ⟨⟨hc1, hc2, fun i hi => ?_⟩, ⟨Nat.le_refl _, Nat.zero_le _, fun i hi => absurd hi (Nat.not_lt_zero _)⟩, Hs.none _, Hs.none _, zeroRw (k1'.same (hsm B1 (by omega) k1'.lt)) ns3, zeroRw (k2'.same (hsm B2 (by omega) k2'.lt)) ns3, zeroRw (k3'.same (hsm B3 (by omega) k3'.lt)) ns3⟩
        have hi' : i < p.nb := hi
        have q1 := HGG.out.2 i hi'
        exact ⟨gg, 0, rfl, kon.lt, by rw [Nat.zero_add]; exact kon.cell hi', zeroRw ((krw i hi').same (hsm (G i) (by omega) (krw i hi').lt)) ns3⟩

end Go.Proofs.Ytnoamojikbeadab

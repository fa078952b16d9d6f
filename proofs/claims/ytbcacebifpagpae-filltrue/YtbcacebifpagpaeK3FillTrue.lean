/- Texts that were built one behind the other, joined; what FillTrue does not reach is left out. -/
import Derived.Test.YtbcacebifpagpaeK2FillTrue
import Derived.Scope
import Derived.RangeFuncLeaves
import Derived.KernelRfl
import Derived.Test.YtbcacebifpagpaeRows
import Derived.ProofKit
import Derived.OpenShut
import Derived.Lib.SmallJoins
import Derived.Deep.Slices
namespace Go.Proofs.Ytbcacebifpagpae
open Go.RowKit Go.Shelf Go.Sort
set_option linter.unusedVariables false
attribute [local go_sem] Oper.semAt_some
def Parked (P : Prop) : Prop := P
theorem park {P : Prop} (h : Parked P) : P := h
theorem unpark {P : Prop} (h : P) : Parked P := h
theorem leave_ret {F : Fence} {n : Nat} {P : Program} {fn : Func} {R : Ending → World → Prop} {a : Act} {w : World} {v : Value} (hr : (results fn a.tmps).run P w = .ok v w) (hd : a.defers = []) (hR : R (.returned v) w) : Exit.noGoto (bodyPostM F n P fn R) .ret a w := by
  show LeavesInM F n P fn a.tmps R a.defers .returning w
  rw [hd]
  exact ⟨v, hr, hR⟩
theorem leave_marked {F : Fence} {n : Nat} {P : Program} {fn : Func} {R : Ending → World → Prop} {a : Act} {w : World} {v : Value} {D : Nat} (hK : w.heap[D]? = some (.deferred (some []))) (hr : (results fn a.tmps).run P (w.putObj D (.deferred none)) = .ok v (w.putObj D (.deferred none))) (hd : a.defers = [{ target := .collected D, args := #[] }]) (hR : R (.returned v) (w.putObj D (.deferred none))) : Exit.noGoto (bodyPostM F n P fn R) .ret a w := by
  show LeavesInM F n P fn a.tmps R a.defers .returning w
  rw [hd]
  exact ⟨by simp, .inl ⟨_, _, rfl, run_takeDeferred hK, ⟨v, hr, hR⟩⟩⟩
theorem RelK.ck {A B7 M : Nat} {W0 X Y : World} {x : St} {row : Option Nat} (h : RelK A B7 W0 x X) (hg : X.grownBy Y row) (hr : ∀ r, row = some r → M ≤ r ∧ ∃ o : Obj, X.heap[r]? = some o ∧ o.isCells = false) (hM : W0.heap.size ≤ M) : RelK A B7 W0 x Y :=
  ⟨h.own.ck (CellsKept.of hg fun r e => (hr r e).2), h.box.ck (CellsKept.of hg fun r e => (hr r e).2), h.bel.grown hg h.bel.size (fun k e => Nat.le_trans hM (hr k e).1), Nat.le_trans h.le hg.size⟩
theorem keeps_below {X Y : World} (h : Below X.heap.size X Y) : KeepsOthers X Y := ⟨h.size, fun k o hk _ => (h.block k (Array.getElem?_eq_some_iff.1 hk).1).trans hk⟩
theorem keeps_b {n₀ B : Nat} {X Y : World} {v : Value} {e : TypeId} (h : Below n₀ X Y) (h1 : Blk X B e 1 (fun _ => v)) (h2 : Blk Y B e 1 (fun _ => v)) : keepsB n₀ B X Y := ⟨h, fun u hu => by
  have a := h1.cell (j := 0) (by decide)
  rw [a] at hu
  cases hu
  exact h2.cell (j := 0) (by decide)⟩
def FillK (p : Pl) (A B7 BF : Nat) (W0 : World) (y : St) (W : World) : Prop := (∃ x : St, SameT x y ∧ RelK A B7 W0 x W) ∧ Blk W BF 4 1 (fun _ => .bool true)
theorem FillK.ck {p : Pl} {A B7 BF M : Nat} {W0 X Y : World} {y : St} {row : Option Nat} (h : FillK p A B7 BF W0 y X) (hg : X.grownBy Y row) (hr : ∀ r, row = some r → M ≤ r ∧ ∃ o : Obj, X.heap[r]? = some o ∧ o.isCells = false) (hM : W0.heap.size ≤ M) : FillK p A B7 BF W0 y Y := by
  obtain ⟨⟨x, h1, h2⟩, h3⟩ := h
  exact ⟨⟨x, h1, h2.ck hg hr hM⟩, h3.ck (CellsKept.of hg fun r e => (hr r e).2)⟩
theorem FillK.below {p : Pl} {A B7 BF : Nat} {W0 X Y : World} {y : St} (h : FillK p A B7 BF W0 y X) (hB : Below X.heap.size X Y) : FillK p A B7 BF W0 y Y := by
  obtain ⟨⟨x, h1, h2⟩, h3⟩ := h
  exact ⟨⟨x, h1, h2.below hB⟩, h3.below hB⟩
def FillX (p : Pl) (A B7 : Nat) (W0 : World) (c : Code) (y : St) (W : World) : Prop := c = .exit 0 ∧ 8 ≤ y.ms.n ∧ ∃ x : St, SameT x y ∧ RelK A B7 W0 x W
theorem FillX.ck {p : Pl} {A B7 M : Nat} {W0 X Y : World} {c : Code} {y : St} {row : Option Nat} (h : FillX p A B7 W0 c y X) (hg : X.grownBy Y row) (hr : ∀ r, row = some r → M ≤ r ∧ ∃ o : Obj, X.heap[r]? = some o ∧ o.isCells = false) (hM : W0.heap.size ≤ M) : FillX p A B7 W0 c y Y := by
  obtain ⟨h0, h8, x, h1, h2⟩ := h
  exact ⟨h0, h8, x, h1, h2.ck hg hr hM⟩
theorem set7_heap {w : World} {b q : Nat} (h : q ≠ b) (v0 v1 v2 v3 v4 v5 v6 : Value) : (set7 w b v0 v1 v2 v3 v4 v5 v6).heap[q]? = w.heap[q]? := by
  unfold set7
  rw [Below.heap_setCell _ ⟨b, 6, none⟩ _ q h, Below.heap_setCell _ ⟨b, 5, none⟩ _ q h, Below.heap_setCell _ ⟨b, 4, none⟩ _ q h, Below.heap_setCell _ ⟨b, 3, none⟩ _ q h, Below.heap_setCell _ ⟨b, 2, none⟩ _ q h, Below.heap_setCell _ ⟨b, 1, none⟩ _ q h, Below.heap_setCell _ ⟨b, 0, none⟩ _ q h]
set_option maxRecDepth 100000 in
set_option maxHeartbeats 8000000 in
theorem Fill_any (p : Pl) (s : St) (w : World) (hp : p.At w) (hs : s.At w) :
    Calls Try.prog 13 #[p.val, s.val] w fun e w' => ∃ x : St, e = .returned (.tuple #[x.val, .int .i64 (stateE p s)]) ∧ x.At w' ∧ ActOK (stateE p s) (fillT p s) x ∧ (stateE p s = 0 → OwnS w.heap.size w' x) ∧ Below w.heap.size w w' := by
  obtain ⟨W0, hW, hWB, X0, Z0⟩ : ∃ W, (((w.alloc (.cells #[.slice p.ab p.nb p.cb, .slice p.sa p.ns p.cs] 25)).alloc (.cells s.cells 31)).alloc (.cells #[.slice .none 0 0, .slice .none 0 0, .slice .none 0 0, .slice .none 0 0, .slice .none 0 0, .slice .none 0 0, .slice .none 0 0] 31)) = W ∧ Below w.heap.size w W ∧ Boxes W w.heap.size (w.heap.size + 1) p s ∧ Blk W (w.heap.size + 2) 31 7 (fun _ => .slice .none 0 0) :=
    ⟨_, rfl, (two_below _ _ _).alloc (by simp; omega) _, (boxes_new w p s _ _).below ((Below.refl _ _).alloc (Nat.le_refl _) _), (Blk.mk' (cur := #[.slice .none 0 0, .slice .none 0 0, .slice .none 0 0, .slice .none 0 0, .slice .none 0 0, .slice .none 0 0, .slice .none 0 0]) (by simp) rfl).congr (fun j hj => by match j, hj with | 0, _ => rfl | 1, _ => rfl | 2, _ => rfl | 3, _ => rfl | 4, _ => rfl | 5, _ => rfl | 6, _ => rfl)⟩
  have HC : Hid (∀ wk, Below W0.heap.size W0 wk → Boxes wk w.heap.size (w.heap.size + 1) p s ∧ p.At wk ∧ s.At wk ∧ Below w.heap.size w wk ∧ Blk wk (w.heap.size + 2) 31 7 (fun _ => .slice .none 0 0)) := fun wk h => ⟨X0.below h, (hp.below hWB).below h, (hs.below hWB).below h, hWB.trans (h.mono hWB.size), Z0.below h⟩
  have HW : Hid (((w.alloc (.cells #[.slice p.ab p.nb p.cb, .slice p.sa p.ns p.cs] 25)).alloc (.cells #[.slice s.on.a s.on.n s.on.c, .slice s.os.a s.os.n s.os.c, .slice s.hs.a s.hs.n s.hs.c, .slice s.ms.a s.ms.n s.ms.c, .slice s.si.a s.si.n s.si.c, .slice s.so.a s.so.n s.so.c, .slice s.sf.a s.sf.n s.sf.c] 31)).alloc (.cells #[.slice .none 0 0, .slice .none 0 0, .slice .none 0 0, .slice .none 0 0, .slice .none 0 0, .slice .none 0 0, .slice .none 0 0] 31) = W0) := hW
  have leb := hp.leb
  have capb0 := hp.capb
  have les := hp.les
  have caps0 := hp.caps
  have capb := capb0
  have caps := caps0
  have zlt0 := Z0.lt
  unfold maxLen at capb caps
  clear hW X0 Z0 hp hs
  unfold Pl.val St.val
  refine (callsIn_wide (n := 9)).1 ?_
  refine callsIn_of_wp_marks Try.func13 rfl trivial ?_ rfl
  simp only [Try.ntmps13, List.size_toArray, List.length_cons, List.length_nil, Nat.reduceAdd, Nat.reduceSub, Array.replicate_succ, Array.replicate_zero, List.push_toArray, List.append_toArray, List.nil_append, List.cons_append]
  gi_wp2_with fail
  rw [HW.out]
  refine wpIn_wide.2 (wp_scope_straight ((wpIn_wide (n := 9)).1 ?_))
  obtain ⟨⟨⟨l1, d0, d1⟩, l2, c0, c1, c2, c3, c4, c5, c6⟩, -, -, -, -⟩ := HC.out W0 (Below.refl _ _)
  gi_wp2_with (refine ⟨trivial, ?_⟩; (first | gi_at_call 21 | gi_at_call 25 | gi_at_call 36 | gi_at_call 37 | gi_at_call 38); refine park ?_)
  clear l1 d0 d1 l2 c0 c1 c2 c3 c4 c5 c6
  refine unpark ?_
  obtain ⟨X, hpk, hsk, hBw, hz⟩ := HC.out W0 (Below.refl _ _)
  refine (callsIn_wide.2 (stateCheck_any p s W0 hpk hsk)).mono ?_
  rintro e w1 ⟨rfl, hB⟩
  clear X hpk hsk hBw hz HW
  obtain ⟨⟨⟨l1, d0, d1⟩, l2, c0, c1, c2, c3, c4, c5, c6⟩, hpk, hsk, hBw, hz⟩ := HC.out w1 hB
  by_cases h0 : stateE p s = 0
  · have HR : Hid (RightT p s) := rightT h0
    have H0 : Hid (stateE p s = 0) := h0
    have HCS : Hid (Calls Try.prog 25 #[s.val] w1 fun e w' => ∃ s' : St, e = .returned s'.val ∧ SameT s' s ∧ OwnS w1.heap.size w' s' ∧ Below w1.heap.size w1 w') := copyState_any p s w1 hsk HR.out.fm
    rw [h0]
    clear h0 hpk hsk hBw hz
    gi_wp2_with (refine ⟨trivial, ?_⟩; (first | gi_at_call 21 | gi_at_call 25 | gi_at_call 36 | gi_at_call 37 | gi_at_call 38); refine park ?_)
    refine unpark ?_
    refine (callsIn_wide.2 HCS.out).mono ?_
    rintro e w4 ⟨x0, rfl, hsame, hown, hB4⟩
    clear HCS l1 d0 d1 l2 c0 c1 c2 c3 c4 c5 c6
    obtain ⟨W5, hW5, hWB5, K5⟩ : ∃ W, w4.alloc (.cells #[.slice x0.on.a x0.on.n x0.on.c, .slice x0.os.a x0.os.n x0.os.c, .slice x0.hs.a x0.hs.n x0.hs.c, .slice x0.ms.a x0.ms.n x0.ms.c, .slice x0.si.a x0.si.n x0.si.c, .slice x0.so.a x0.so.n x0.so.c, .slice x0.sf.a x0.sf.n x0.sf.c] 31) = W ∧ Below w4.heap.size w4 W ∧ Blk W w4.heap.size 31 7 (fun j => x0.cells.getD j default) := ⟨_, rfl, (Below.refl _ _).alloc (Nat.le_refl _) _, Blk.mk' rfl rfl⟩
    have HW5 : Hid (w4.alloc (.cells #[.slice x0.on.a x0.on.n x0.on.c, .slice x0.os.a x0.os.n x0.os.c, .slice x0.hs.a x0.hs.n x0.hs.c, .slice x0.ms.a x0.ms.n x0.ms.c, .slice x0.si.a x0.si.n x0.si.c, .slice x0.so.a x0.so.n x0.so.c, .slice x0.sf.a x0.sf.n x0.sf.c] 31) = W5) := hW5
    have hB35 := hB4.trans (hWB5.mono hB4.size)
    have A2 : W0.heap.size ≤ w1.heap.size := hB.size
    have A3 : w1.heap.size ≤ w4.heap.size := hB4.size
    have HK5 : Hid (RelK w1.heap.size w4.heap.size W0 x0 W5) := ⟨OwnS.below hown hWB5, K5, hB.trans (hB35.mono hB.size), by have := hB35.size; omega⟩
    have HS5 : Hid (SameT x0 s) := hsame
    obtain ⟨⟨⟨l1, d0, d1⟩, l2, c0, c1, c2, c3, c4, c5, c6⟩, hpk, hsk, hBw, hz⟩ := HC.out W5 HK5.out.bel
    clear hW5 hown K5 hB4 hWB5 hB35 hsame hB hpk hsk hBw hz l2 c0 c1 c2 c3 c4 c5 c6
    rw [← HW5.out] at l1 d0 d1
    simp only [St.val]
    gi_wp2_with fail
    refine wpIn_label ?_
    rw [HW5.out]
    rw [HW5.out] at l1 d0 d1
    gi_wp2_with (refine ⟨trivial, ?_⟩; (first | gi_at_call 21 | gi_at_call 25 | gi_at_call 36 | gi_at_call 37 | gi_at_call 38); refine park ?_)
    refine unpark ?_
    clear l1 d0 d1
    refine (binsOf_in Fence.wide _ trivial rfl p true W5).mono ?_
    rintro e w' ⟨rfl, rfl⟩
    gi_wp2_with fail
    generalize hB7 : w4.heap.size = B7 at *
    have b75 : B7 < W5.heap.size := HK5.out.box.lt
    obtain ⟨W6, hW6, s6, hB6, kF, cP⟩ : ∃ W, (W5.alloc (.cells #[.slice p.ab p.nb p.cb, .slice p.sa p.ns p.cs] 25)).alloc (.cells #[.bool true] 4) = W ∧ W.heap.size = W5.heap.size + 2 ∧ Below W5.heap.size W5 W ∧ Blk W (W5.heap.size + 1) 4 1 (fun _ => .bool true) ∧ W.cell? ⟨W5.heap.size, 0, none⟩ = some (.slice p.ab p.nb p.cb) :=
      ⟨_, rfl, by simp, ((Below.refl _ _).alloc (Nat.le_refl _) _).alloc (by simp) _, (Blk.mk' (cur := #[.bool true]) (by simp) rfl).congr (fun j hj => by match j, hj with | 0, _ => rfl), ((Blk.new W5 #[.slice p.ab p.nb p.cb, .slice p.sa p.ns p.cs] 25).alloc (.cells #[.bool true] 4)).cell (j := 0) (by simp)⟩
    rw [hW6]
    have HK6 : Hid (RelK w1.heap.size B7 W0 x0 W6) := HK5.out.below hB6
    have hW06 : W0.heap.size ≤ W6.heap.size := HK6.out.bel.size
    have hW05 : W0.heap.size ≤ W5.heap.size := HK5.out.bel.size
    have HL0 : Hid (∀ W', Below W0.heap.size W6 W' → BinsAt W' p.ab p.nb p.zb) := fun W' h => (HC.out W' (HK6.out.bel.trans h)).2.1.bins
    have HFI : Hid (FillK p w1.heap.size B7 (W5.heap.size + 1) W0 (fillB p [] s) W6) := ⟨⟨x0, HS5.out, HK6.out⟩, kF⟩
    clear hW6 hB6 hB7
    have cF := kF.cell (j := 0) (by decide)
    refine wpIn_rangeFunc_ownH rfl (by decide) (gf := 79) (lb := #[.pointer (some ⟨W5.heap.size, 0, none⟩), .pointer (some ⟨W5.heap.size + 1, 0, none⟩)]) rfl trivial (enters_of Try.func79 (by kernel_rfl) rfl)
      (binsX_stops Fence.wide _ trivial rfl (by decide) W5.heap.size (W5.heap.size + 1) W0.heap.size p true W6 (by omega) (by omega) hW06 cP cF leb capb0 HL0.out) keepsB_t (keepsB_b hW06 (by omega)) (Below.refl _ _) (fun _ => rfl)
      (fun pre W => FillK p w1.heap.size B7 (W5.heap.size + 1) W0 (fillB p pre s) W)
      (fun c pre W => FillX p w1.heap.size B7 W0 c (fillB p pre s) W)
      (fun pre X Y row hs hg hr => hs.ck hg hr hW06)
      (fun c pre X Y row hs hg hr => hs.ck hg hr hW06)
      HFI.out
      (fun b a' W => ∃ Bx, Blk W Bx 3 1 (fun _ => .int .i64 (b.1 : Int)) ∧ a' = { tmps := #[.agg #[.slice p.ab p.nb p.cb, .slice p.sa p.ns p.cs], .agg #[.slice s.on.a s.on.n s.on.c, .slice s.os.a s.os.n s.os.c, .slice s.hs.a s.hs.n s.hs.c, .slice s.ms.a s.ms.n s.ms.c, .slice s.si.a s.si.n s.si.c, .slice s.so.a s.so.n s.so.c, .slice s.sf.a s.sf.n s.sf.c], .pointer (some ⟨w.heap.size, 0, none⟩), .pointer (some ⟨w.heap.size + 1, 0, none⟩), .pointer (some ⟨w.heap.size + 1 + 1, 0, none⟩), .int .i64 0, .int .i64 0, .pointer (some ⟨B7, 0, none⟩), .pointer (some ⟨Bx, 0, none⟩), undef, undef, undef, .agg #[.slice p.ab p.nb p.cb, .slice p.sa p.ns p.cs], .agg #[.slice s.on.a s.on.n s.on.c, .slice s.os.a s.os.n s.os.c, .slice s.hs.a s.hs.n s.hs.c, .slice s.ms.a s.ms.n s.ms.c, .slice s.si.a s.si.n s.si.c, .slice s.so.a s.so.n s.so.c, .slice s.sf.a s.sf.n s.sf.c], .int .i64 0, .int .i64 0, .bool false, undef, undef, .agg #[.slice s.on.a s.on.n s.on.c, .slice s.os.a s.os.n s.os.c, .slice s.hs.a s.hs.n s.hs.c, .slice s.ms.a s.ms.n s.ms.c, .slice s.si.a s.si.n s.si.c, .slice s.so.a s.so.n s.so.c, .slice s.sf.a s.sf.n s.sf.c], .agg #[.slice x0.on.a x0.on.n x0.on.c, .slice x0.os.a x0.os.n x0.os.c, .slice x0.hs.a x0.hs.n x0.hs.c, .slice x0.ms.a x0.ms.n x0.ms.c, .slice x0.si.a x0.si.n x0.si.c, .slice x0.so.a x0.so.n x0.so.c, .slice x0.sf.a x0.sf.n x0.sf.c], .agg #[.slice p.ab p.nb p.cb, .slice p.sa p.ns p.cs], .func (.func 79) #[] #[.pointer (some ⟨W5.heap.size, 0, none⟩), .pointer (some ⟨W5.heap.size + 1, 0, none⟩)], .int .i64 (b.1 : Int), undef, undef, undef, undef, undef, undef, undef, undef, undef, undef, undef, undef, undef, undef, undef, undef, undef, undef, undef, undef, undef, undef, undef, undef, undef, undef, undef, undef, undef, undef, undef, undef, undef, undef, undef, undef, undef, undef, undef, undef, undef, undef, undef, undef], defers := [] })
      (fun b a' _ X Y row hs hg hr => by obtain ⟨Bx, h1, h2⟩ := hs; exact ⟨Bx, h1.ck (CellsKept.of hg fun r e => (hr r e).2), h2⟩)
      ?assign ?body ?done ?stop
    case assign =>
      rintro l pre b W K hi hK
      gi_wp2
      exact hK _ _ ((KeepsOthers.alloc _ _).from _) (keeps_b ((Below.refl _ W).alloc (by have := hi.1.choose_spec.2.bel.size; omega) _) hi.2 (hi.2.alloc _)) (hi.below ((Below.refl _ _).alloc (Nat.le_refl _) _)) ⟨W.heap.size, (Blk.mk' (cur := #[.int .i64 (b.1 : Int)]) rfl rfl).congr (fun j hj => by match j, hj with | 0, _ => rfl), rfl⟩
    case body =>
      rintro l pre b a' W hl ⟨r, hr⟩ hi ⟨Bx, hbx, rfl⟩ hlt
      obtain ⟨b, hbn, hbf⟩ := b
      dsimp only at hbx ⊢
      obtain ⟨Yb, hYb⟩ : ∃ y, fillB p pre s = y := ⟨_, rfl⟩
      have HYB : Hid (fillB p (pre ++ [⟨b, hbn, hbf⟩]) s = fillG p b p.ns Yb) := by show _ = _; rw [fillB_snoc, hYb]
      have HFY : Hid (FillEnd p s Yb) := by show FillEnd p s Yb; rw [← hYb]; exact (FillEnd.refl HR.out).B _
      rw [hYb] at hi
      have HRR : Hid (W6.heap.size ≤ l ∧ W.heap[l]? = some (.loop r)) := ⟨hl, hr⟩
      have HJ : Hid (FillK p w1.heap.size B7 (W5.heap.size + 1) W0 (fillG p b 0 Yb) W ∧ Blk W Bx 3 1 (fun _ => .int .i64 (b : Int)) ∧ Below W0.heap.size W W ∧ KeepsFrom W6.heap.size W W) := ⟨hi, hbx, Below.refl _ _, KeepsFrom.refl _ _⟩
      have HIW : Hid (FillK p w1.heap.size B7 (W5.heap.size + 1) W0 Yb W) := hi
      obtain ⟨⟨y0, hs0, hk0⟩, hbf0⟩ := hi
      obtain ⟨⟨⟨l1, d0, d1⟩, l2, c0, c1, c2, c3, c4, c5, c6⟩, -, -, -, -⟩ := HC.out W hk0.bel
      have q0 : (0 : Int) ≤ (b : Int) := by omega
      have q1 : (b : Int) < (p.nb : Int) := by omega
      clear hl hr hYb hs0 hk0 hbf0 hbx l2 c0 c1 c2 c3 c4 c5 c6
      gi_wp2_with fail
      clear l1 d0 d1
      gi_loopw [27] (fun gv wk => ∃ g : Nat, g ≤ p.ns ∧ gv = .int .i64 g ∧ Hid (FillK p w1.heap.size B7 (W5.heap.size + 1) W0 (fillG p b g Yb) wk ∧ Blk wk Bx 3 1 (fun _ => .int .i64 (b : Int)) ∧ Below W0.heap.size W wk ∧ KeepsFrom W6.heap.size W wk)) (fun gv _ => p.ns - (intOf gv).toNat)
      case atStart => exact ⟨0, Nat.zero_le _, rfl, HJ⟩
      case round =>
        clear HJ
        obtain ⟨g, hg, rfl, HJ⟩ := hrel
        by_cases hgl : g < p.ns
        · have r0 : (0 : Int) ≤ (g : Int) := by omega
          have r1 : (g : Int) < (p.ns : Int) := by omega
          obtain ⟨Yg, hYg⟩ : ∃ z, fillG p b g Yb = z := ⟨_, rfl⟩
          have HYG : Hid (fillG p b g Yb = Yg) := hYg
          have HFG : Hid (FillEnd p s Yg) := by show FillEnd p s Yg; rw [← hYg]; exact HFY.out.G hbn hbf hg
          rw [hYg] at HJ
          clear hYg
          obtain ⟨⟨⟨y, hsy, hky⟩, -⟩, -, -, -⟩ := HJ.out
          have HSY : Hid (SameT y Yg) := hsy
          have HRY : Hid (RightT p y) := hsy.right HFG.out.r
          have HLY : Hid (lyingZ y b g = lyingZ Yg b g) := hsy.lying HFG.out.r.fm hbn hgl
          obtain ⟨W8, hW8, hWB8, K8⟩ : ∃ W', wr.alloc (.cells #[.int .i64 (g : Int)] 3) = W' ∧ Below wr.heap.size wr W' ∧ Blk W' wr.heap.size 3 1 (fun _ => .int .i64 (g : Int)) := ⟨_, rfl, (Below.refl _ _).alloc (Nat.le_refl _) _, (Blk.mk' (cur := #[.int .i64 (g : Int)]) rfl rfl).congr (fun j hj => by match j, hj with | 0, _ => rfl)⟩
          have HW8 : Hid (wr.alloc (.cells #[.int .i64 (g : Int)] 3) = W8) := hW8
          have HKY : Hid (RelK w1.heap.size B7 W0 y W8) := hky.below hWB8
          have HGB : Hid (Blk W8 wr.heap.size 3 1 (fun _ => .int .i64 (g : Int))) := K8
          have HBB : Hid (Blk W8 Bx 3 1 (fun _ => .int .i64 (b : Int))) := HJ.out.2.1.below hWB8
          have HFB : Hid (Blk W8 (W5.heap.size + 1) 4 1 (fun _ => .bool true)) := HJ.out.1.2.below hWB8
          have hwr0 : W0.heap.size ≤ wr.heap.size := hky.bel.size
          have HRW : Hid (Below W0.heap.size W W8 ∧ KeepsFrom W6.heap.size W W8) := ⟨HJ.out.2.2.1.trans (hWB8.mono hwr0), HJ.out.2.2.2.trans ((keeps_below hWB8).from _)⟩
          clear hW8 hWB8 K8 hsy hky HJ
          gi_wp2_with fail
          rw [HW8.out]
          clear HW8
          generalize wr.heap.size = Bg at *
          obtain ⟨⟨⟨l1, d0, d1⟩, l2, c0, c1, c2, c3, c4, c5, c6⟩, hpk, -, -, -⟩ := HC.out W8 HKY.out.bel
          obtain ⟨bb, ob, hab, hbb, z0, z1, z2, z3⟩ := hpk.bins b hbn
          have HAB : Hid (p.ab = some ⟨bb, ob, none⟩) := hab
          rw [hab] at d0
          obtain ⟨m1, p0, p1, p2, p3, p4, p5, p6⟩ := Boxed.of HKY.out.box
          have hxc := HBB.out.cell (j := 0) (by decide)
          have hxl := HBB.out.lt
          have hgc := HGB.out.cell (j := 0) (by decide)
          have hgl2 := HGB.out.lt
          have HYA : Hid (y.At W8) := HKY.out.own.at
          have HCL : Hid (∀ wk, y.At wk → Calls Try.prog 37 #[.agg #[.slice y.on.a y.on.n y.on.c, .slice y.os.a y.os.n y.os.c, .slice y.hs.a y.hs.n y.hs.c, .slice y.ms.a y.ms.n y.ms.c, .slice y.si.a y.si.n y.si.c, .slice y.so.a y.so.n y.so.c, .slice y.sf.a y.sf.n y.sf.c], .int .i64 b, .int .i64 g] wk fun e w' => e = .returned (.int .i64 (lyingZ Yg b g)) ∧ Below wk.heap.size wk w') := fun wk h => by
            have k := Lying_any p y b g wk h HRY.out.fm hbn hgl
            rw [HLY.out] at k
            exact k
          have ly := lying_bdF HFG.out.r.fm hbn hgl
          have hi1 := high_bdF HR.out.fm.sh.pl hbn
          have rd0 := fun d os => cell_regrown d0 d os
          have rz2 := fun d os => cell_regrown z2 d os
          have rp0 := fun d os => cell_regrown p0 d os
          have rp1 := fun d os => cell_regrown p1 d os
          have rp2 := fun d os => cell_regrown p2 d os
          have rp3 := fun d os => cell_regrown p3 d os
          have rp4 := fun d os => cell_regrown p4 d os
          have rp5 := fun d os => cell_regrown p5 d os
          have rp6 := fun d os => cell_regrown p6 d os
          have rhxc := fun d os => cell_regrown hxc d os
          have rhgc := fun d os => cell_regrown hgc d os
          have HNL : Hid ((p.zb b).low ≤ lyingZ Yg b g → fillG p b (g + 1) Yb = Yg) := fun h => by rw [fillG_low (by rw [HYG.out]; exact h), HYG.out]
          have HNG : Hid (¬ (p.zb b).low ≤ lyingZ Yg b g → fillG p b (g + 1) Yb = fillF p b g (frX p false p.nb) Yg) := fun h => by rw [fillG_go (by rw [HYG.out]; exact h), HYG.out]
          generalize lyingZ Yg b g = LY at *
          generalize (p.zb b).low = LW at *
          clear hab hpk l2 c0 c1 c2 c3 c4 c5 c6 d0 d1 z0 z1 z2 z3 p0 p1 p2 p3 p4 p5 p6 hxc hgc
          by_cases hlw : LW ≤ LY
          · refine wpIn_region_quiet_belowR (by kernel_rfl) (by kernel_rfl) (by kernel_rfl) ?_
            repeat (gi_big_quiet_step (fail))
            refine wpQuietIn_step (fun _ _ _ _ => trivial) (fun K hK => ?_)
            go_simp
            apply Exists.intro
            refine ⟨fun _ => ?_, hK _ ?_⟩
            · (gi_at_call 37; exact CallsIn.regrown_of (CallsIn.inRound l (callsIn_wide.2 (HCL.out _ (HYA.out.below (below_regrown _ _ _))))))
            clear hK K
            repeat (gi_big_quiet_step (fail))
            refine wpQuietIn_nil ?_
            intro w9 hw9
            have hB9 := below_of_regrown hw9
            have HKY : Hid (RelK w1.heap.size B7 W0 y w9) := HKY.out.below hB9
            have HGB : Hid (Blk w9 Bg 3 1 (fun _ => .int .i64 (g : Int))) := HGB.out.below hB9
            have HBB : Hid (Blk w9 Bx 3 1 (fun _ => .int .i64 (b : Int))) := HBB.out.below hB9
            have HFB : Hid (Blk w9 (W5.heap.size + 1) 4 1 (fun _ => .bool true)) := HFB.out.below hB9
            have HRW : Hid (Below W0.heap.size W w9 ∧ KeepsFrom W6.heap.size W w9) := ⟨HRW.out.1.trans (hB9.mono (by have := HRW.out.1.size; have := HIW.out.1.choose_spec.2.bel.size; omega)), HRW.out.2.trans ((keeps_below hB9).from _)⟩
            clear hw9 hB9 HYA HCL rd0 rz2 rp0 rp1 rp2 rp3 rp4 rp5 rp6 rhxc rhgc m1 hxl hgl2 hbb l1
            have HJ : Hid (FillK p w1.heap.size B7 (W5.heap.size + 1) W0 (fillG p b (g + 1) Yb) w9 ∧ Blk w9 Bx 3 1 (fun _ => .int .i64 (b : Int)) ∧ Below W0.heap.size W w9 ∧ KeepsFrom W6.heap.size W w9) := by
              show _ ∧ _
              rw [HNL.out hlw]
              exact ⟨⟨⟨y, HSY.out, HKY.out⟩, HFB.out⟩, HBB.out, HRW.out⟩
            gi_wp2_with fail
            go_roundw
            case rel => exact ⟨g + 1, by omega, by go_num, HJ⟩
            case measure => simp [intOf]; omega
          · refine wpIn_region_quiet_belowR (by kernel_rfl) (by kernel_rfl) (by kernel_rfl) ?_
            repeat (gi_big_quiet_step (fail))
            refine wpQuietIn_step (fun _ _ _ _ => trivial) (fun K hK => ?_)
            go_simp
            apply Exists.intro
            refine ⟨fun _ => ?_, hK _ ?_⟩
            · (gi_at_call 37; exact CallsIn.regrown_of (CallsIn.inRound l (callsIn_wide.2 (HCL.out _ (HYA.out.below (below_regrown _ _ _))))))
            clear hK K
            repeat (gi_big_quiet_step (fail))
            refine wpQuietIn_nil ?_
            intro w9 hw9
            have hB9 := below_of_regrown hw9
            have HKY : Hid (RelK w1.heap.size B7 W0 y w9) := HKY.out.below hB9
            have HGB : Hid (Blk w9 Bg 3 1 (fun _ => .int .i64 (g : Int))) := HGB.out.below hB9
            have HBB : Hid (Blk w9 Bx 3 1 (fun _ => .int .i64 (b : Int))) := HBB.out.below hB9
            have HFB : Hid (Blk w9 (W5.heap.size + 1) 4 1 (fun _ => .bool true)) := HFB.out.below hB9
            have HRW : Hid (Below W0.heap.size W w9 ∧ KeepsFrom W6.heap.size W w9) := ⟨HRW.out.1.trans (hB9.mono (by have := HRW.out.1.size; have := HIW.out.1.choose_spec.2.bel.size; omega)), HRW.out.2.trans ((keeps_below hB9).from _)⟩
            clear hw9 hB9 HYA HCL rd0 rz2 rp0 rp1 rp2 rp3 rp4 rp5 rp6 rhxc rhgc m1 hxl hgl2 hbb l1
            have HGO : Hid (fillG p b (g + 1) Yb = fillF p b g (frX p false p.nb) Yg) := HNG.out hlw
            obtain ⟨⟨⟨l1, d0, d1⟩, -, -, -, -, -, -, -, -⟩, -, -, -, -⟩ := HC.out w9 HKY.out.bel
            clear HNL HNG hlw
            gi_wp2_with (refine ⟨trivial, ?_⟩; (first | gi_at_call 21 | gi_at_call 25 | gi_at_call 36 | gi_at_call 37 | gi_at_call 38); refine park ?_)
            refine unpark ?_
            clear l1 d0 d1
            refine (CallsIn.inRound l (binsOf_in Fence.wide _ trivial rfl p false w9)).mono ?_
            rintro e w' ⟨rfl, rfl⟩
            gi_wp2_with fail
            obtain ⟨W10, hW10, s10, hB10, kF2, cP2⟩ : ∃ W', (w9.alloc (.cells #[.slice p.ab p.nb p.cb, .slice p.sa p.ns p.cs] 25)).alloc (.cells #[.bool false] 4) = W' ∧ W'.heap.size = w9.heap.size + 2 ∧ Below w9.heap.size w9 W' ∧ Blk W' (w9.heap.size + 1) 4 1 (fun _ => .bool false) ∧ W'.cell? ⟨w9.heap.size, 0, none⟩ = some (.slice p.ab p.nb p.cb) :=
              ⟨_, rfl, by simp, ((Below.refl _ _).alloc (Nat.le_refl _) _).alloc (by simp) _, (Blk.mk' (cur := #[.bool false]) (by simp) rfl).congr (fun j hj => by match j, hj with | 0, _ => rfl), ((Blk.new w9 #[.slice p.ab p.nb p.cb, .slice p.sa p.ns p.cs] 25).alloc (.cells #[.bool false] 4)).cell (j := 0) (by simp)⟩
            rw [hW10]
            have h09 : W0.heap.size ≤ w9.heap.size := HKY.out.bel.size
            have h0W : W0.heap.size ≤ W.heap.size := HIW.out.1.choose_spec.2.bel.size
            have hW9 : W.heap.size ≤ w9.heap.size := HRW.out.1.size
            have HRX : Hid (Below W0.heap.size W W10 ∧ KeepsFrom W6.heap.size W W10) := ⟨HRW.out.1.trans (hB10.mono h09), HRW.out.2.trans ((keeps_below hB10).from _)⟩
            have HI2 : Hid ((FillK p w1.heap.size B7 (W5.heap.size + 1) W0 (fillF p b g [] Yg) W10 ∧ Blk W10 Bx 3 1 (fun _ => .int .i64 (b : Int)) ∧ Blk W10 Bg 3 1 (fun _ => .int .i64 (g : Int))) ∧ Blk W10 (w9.heap.size + 1) 4 1 (fun _ => .bool false) ∧ (Below W0.heap.size W W10 ∧ KeepsFrom W6.heap.size W W10)) := ⟨⟨⟨⟨y, HSY.out, HKY.out.below hB10⟩, HFB.out.below hB10⟩, HBB.out.below hB10, HGB.out.below hB10⟩, kF2, HRX.out⟩
            have HL2 : Hid (∀ W', Below W0.heap.size W10 W' → BinsAt W' p.ab p.nb p.zb) := fun W' h => (HC.out W' ((HKY.out.below hB10).bel.trans h)).2.1.bins
            have h010 : W0.heap.size ≤ W10.heap.size := by omega
            have cF2 := kF2.cell (j := 0) (by decide)
            have hr' : W10.heap[l]? = some (.loop r) := HRX.out.2.same l (.loop r) HRR.out.1 HRR.out.2 rfl
            clear hW10 HKY HGB HBB HFB HRW
            refine wpIn_rangeFunc_ownN (l₀ := l) (r₀ := r) rfl hr' (by decide) (gf := 79) (lb := #[.pointer (some ⟨w9.heap.size, 0, none⟩), .pointer (some ⟨w9.heap.size + 1, 0, none⟩)]) rfl trivial (enters_of Try.func79 (by kernel_rfl) rfl)
              ((binsX_stops Fence.wide _ trivial rfl (by decide) w9.heap.size (w9.heap.size + 1) W0.heap.size p false W10 (by omega) (by omega) h010 cP2 cF2 leb capb0 HL2.out).inRound l) keepsB_t (keepsB_b h010 (by omega)) (Below.refl _ _) (fun _ => rfl)
              (fun pre' W' => (FillK p w1.heap.size B7 (W5.heap.size + 1) W0 (fillF p b g pre' Yg) W' ∧ Blk W' Bx 3 1 (fun _ => .int .i64 (b : Int)) ∧ Blk W' Bg 3 1 (fun _ => .int .i64 (g : Int))) ∧ Blk W' (w9.heap.size + 1) 4 1 (fun _ => .bool false) ∧ (Below W0.heap.size W W' ∧ KeepsFrom W6.heap.size W W'))
              (fun c pre' W' => FillX p w1.heap.size B7 W0 c (fillF p b g pre' Yg) W' ∧ (Below W0.heap.size W W' ∧ KeepsFrom W6.heap.size W W'))
              (fun pre' X Y row hs hg hr => ⟨⟨hs.1.1.ck hg hr h010, hs.1.2.1.ck (CellsKept.of hg fun r e => (hr r e).2), hs.1.2.2.ck (CellsKept.of hg fun r e => (hr r e).2)⟩, hs.2.1.ck (CellsKept.of hg fun r e => (hr r e).2), hs.2.2.1.grown hg (Nat.le_trans h0W hs.2.2.1.size) (fun k e => Nat.le_trans h010 (hr k e).1), ownFrom_keepsFrom (B := W6.heap.size) (w₀ := W) (B' := W10.heap.size) (by omega) () X Y row hs.2.2.2 hg hr⟩)
              (fun c pre' X Y row hs hg hr => ⟨hs.1.ck hg hr h010, hs.2.1.grown hg (Nat.le_trans h0W hs.2.1.size) (fun k e => Nat.le_trans h010 (hr k e).1), ownFrom_keepsFrom (B := W6.heap.size) (w₀ := W) (B' := W10.heap.size) (by omega) () X Y row hs.2.2 hg hr⟩)
              HI2.out
              (fun f a'' _ => a'' = { tmps := #[.agg #[.slice p.ab p.nb p.cb, .slice p.sa p.ns p.cs], .agg #[.slice s.on.a s.on.n s.on.c, .slice s.os.a s.os.n s.os.c, .slice s.hs.a s.hs.n s.hs.c, .slice s.ms.a s.ms.n s.ms.c, .slice s.si.a s.si.n s.si.c, .slice s.so.a s.so.n s.so.c, .slice s.sf.a s.sf.n s.sf.c], .pointer (some ⟨w.heap.size, 0, none⟩), .pointer (some ⟨w.heap.size + 1, 0, none⟩), .pointer (some ⟨w.heap.size + 1 + 1, 0, none⟩), .int .i64 0, .int .i64 0, .pointer (some ⟨B7, 0, none⟩), .pointer (some ⟨Bx, 0, none⟩), .pointer (some ⟨Bg, 0, none⟩), .int .i64 (f.1 : Int), u11, .agg #[.slice p.ab p.nb p.cb, .slice p.sa p.ns p.cs], .agg #[.slice s.on.a s.on.n s.on.c, .slice s.os.a s.os.n s.os.c, .slice s.hs.a s.hs.n s.hs.c, .slice s.ms.a s.ms.n s.ms.c, .slice s.si.a s.si.n s.si.c, .slice s.so.a s.so.n s.so.c, .slice s.sf.a s.sf.n s.sf.c], .int .i64 0, .int .i64 0, .bool false, undef, undef, .agg #[.slice s.on.a s.on.n s.on.c, .slice s.os.a s.os.n s.os.c, .slice s.hs.a s.hs.n s.hs.c, .slice s.ms.a s.ms.n s.ms.c, .slice s.si.a s.si.n s.si.c, .slice s.so.a s.so.n s.so.c, .slice s.sf.a s.sf.n s.sf.c], .agg #[.slice x0.on.a x0.on.n x0.on.c, .slice x0.os.a x0.os.n x0.os.c, .slice x0.hs.a x0.hs.n x0.hs.c, .slice x0.ms.a x0.ms.n x0.ms.c, .slice x0.si.a x0.si.n x0.si.c, .slice x0.so.a x0.so.n x0.so.c, .slice x0.sf.a x0.sf.n x0.sf.c], .agg #[.slice p.ab p.nb p.cb, .slice p.sa p.ns p.cs], .func (.func 79) #[] #[.pointer (some ⟨W5.heap.size, 0, none⟩), .pointer (some ⟨W5.heap.size + 1, 0, none⟩)], .int .i64 (b : Int), .pointer (some ⟨w.heap.size, 1, none⟩), .slice p.sa p.ns p.cs, .int .i64 (p.ns : Int), .int .i64 (g : Int), .bool true, .int .i64 (g : Int), .agg #[.slice y.on.a y.on.n y.on.c, .slice y.os.a y.os.n y.os.c, .slice y.hs.a y.hs.n y.hs.c, .slice y.ms.a y.ms.n y.ms.c, .slice y.si.a y.si.n y.si.c, .slice y.so.a y.so.n y.so.c, .slice y.sf.a y.sf.n y.sf.c], .int .i64 (b : Int), .int .i64 (g : Int), .int .i64 LY, .pointer (some ⟨w.heap.size, 0, none⟩), .slice (some ⟨bb, ob, none⟩) p.nb p.cb, .int .i64 (b : Int), .pointer (some ⟨bb, ob + b * 4, none⟩), .pointer (some ⟨bb, ob + b * 4 + 2, none⟩), .int .i64 LW, .bool false, .agg #[.slice p.ab p.nb p.cb, .slice p.sa p.ns p.cs], .func (.func 79) #[] #[.pointer (some ⟨w9.heap.size, 0, none⟩), .pointer (some ⟨w9.heap.size + 1, 0, none⟩)], .int .i64 (f.1 : Int), u44, u45, u46, u47, u48, u49, u50, u51, u52, u53, u54, u55, u56, u57, u58, u59, u60, u61, u62, u63, u64, u65, u66, undef], defers := [] })
              (fun _ _ _ _ _ _ hs _ _ => hs)
              ?assign2 ?body2 ?done2 ?stop2
            case assign2 =>
              rintro l2 pre' f W' K hi hK
              gi_wp2
              exact hK _ _ (KeepsFrom.refl _ _) ⟨Below.refl _ _, fun _ h => h⟩ hi rfl
            case done2 =>
              rintro xs W' rfl hi
              have HJ : Hid (FillK p w1.heap.size B7 (W5.heap.size + 1) W0 (fillG p b (g + 1) Yb) W' ∧ Blk W' Bx 3 1 (fun _ => .int .i64 (b : Int)) ∧ Below W0.heap.size W W' ∧ KeepsFrom W6.heap.size W W') := by
                show _ ∧ _
                rw [HGO.out]
                exact ⟨hi.1.1, hi.1.2.1, hi.2.2⟩
              clear hi
              gi_wp2_with fail
              go_roundw
              case rel => exact ⟨g + 1, by omega, by go_num, HJ⟩
              case measure => simp [intOf]; omega
            case stop2 =>
              rintro c pre' W' hpre ⟨⟨rfl, h8, z, hsz, hkz⟩, hbw, hkf⟩
              have e1 : fillF p b g (frX p false p.nb) Yg = fillF p b g pre' Yg := fillF_end hpre rfl h8
              have e2 : fillG p b p.ns Yb = fillF p b g pre' Yg := fillG_end (HGO.out.trans e1) h8 (by omega)
              have HFX : Hid (FillX p w1.heap.size B7 W0 (.exit 0) (fillB p (pre ++ [⟨b, hbn, hbf⟩]) s) W') := by
                show FillX _ _ _ _ _ _ _
                rw [HYB.out, e2]
                exact ⟨rfl, h8, z, hsz, hkz⟩
              clear e1 e2 hpre h8 hsz hkz
              gi_wp2_with fail
              exact ⟨hkf, HFX.out⟩
            case body2 =>
              rintro l2 pre' f a'' W' - - hi rfl -
              obtain ⟨f, hfn, hff⟩ := f
              dsimp only
              obtain ⟨YF, hYF⟩ : ∃ z, fillF p b g pre' Yg = z := ⟨_, rfl⟩
              have HFX : Hid (fillF p b g (pre' ++ [⟨f, hfn, hff⟩]) Yg = fillOne p b g f YF) := by show _ = _; rw [fillF_snoc, hYF]
              have HFF : Hid (FillEnd p s YF) := by show FillEnd p s YF; rw [← hYF]; exact HFG.out.F hbn hbf hgl _
              rw [hYF] at hi
              clear hYF
              obtain ⟨⟨⟨⟨z, hsz, hkz⟩, hbf1⟩, hbx1, hbg1⟩, hbf2, hbw, hkf⟩ := hi
              have HS : Hid (SameT z YF) := hsz
              have HRZ : Hid (RightT p z) := hsz.right HFF.out.r
              have HMN : Hid (z.ms.n = YF.ms.n) := hsz.ms.1
              have HK : Hid (RelK w1.heap.size B7 W0 z W') := hkz
              have HWW : Hid (Below W0.heap.size W W' ∧ KeepsFrom W6.heap.size W W') := ⟨hbw, hkf⟩
              have HBL : Hid (Blk W' (W5.heap.size + 1) 4 1 (fun _ => .bool true) ∧ Blk W' Bx 3 1 (fun _ => .int .i64 (b : Int)) ∧ Blk W' Bg 3 1 (fun _ => .int .i64 (g : Int)) ∧ Blk W' (w9.heap.size + 1) 4 1 (fun _ => .bool false)) := ⟨hbf1, hbx1, hbg1, hbf2⟩
              have h0W' : W0.heap.size ≤ W'.heap.size := hkz.bel.size
              have ms8 := HRZ.out.fm.ms8
              obtain ⟨m1, p0, p1, p2, p3, p4, p5, p6⟩ := Boxed.of HK.out.box
              clear hsz hkz hbw hkf hbf1 hbx1 hbg1 hbf2
              by_cases h8 : z.ms.n = 8
              · have h8' : ((z.ms.n : Int) == 8) = true := by rw [beq_iff_eq]; omega
                have HX8 : Hid (FillX p w1.heap.size B7 W0 (.exit 0) (fillF p b g (pre' ++ [⟨f, hfn, hff⟩]) Yg) W') := by
                  show FillX _ _ _ _ _ _ _
                  rw [HFX.out, fillOne_full (by rw [← HMN.out]; omega)]
                  exact ⟨rfl, by rw [← HMN.out]; omega, z, HS.out, HK.out⟩
                clear h8
                gi_wp2_with fail
                exact ⟨KeepsFrom.refl _ _, HX8.out, HWW.out⟩
              · have h8' : ((z.ms.n : Int) == 8) = false := beq_eq_false_iff_ne.2 (by omega)
                have hm8 : z.ms.n < 8 := by omega
                obtain ⟨W11, hW11, hWB11, K11⟩ : ∃ X, W'.alloc (.cells #[.int .i64 (g : Int), .int .i64 (f : Int), .int .i64 (b : Int), .int .i64 0] 55) = X ∧ Below W'.heap.size W' X ∧ Blk X W'.heap.size 55 4 (fun j => (#[.int .i64 (g : Int), .int .i64 (f : Int), .int .i64 (b : Int), .int .i64 0] : Array Value).getD j default) := ⟨_, rfl, (Below.refl _ _).alloc (Nat.le_refl _) _, Blk.mk' rfl rfl⟩
                have HW11 : Hid (W'.alloc (.cells #[.int .i64 (g : Int), .int .i64 (f : Int), .int .i64 (b : Int), .int .i64 0] 55) = W11) := hW11
                have HB11 : Hid (Below W'.heap.size W' W11) := hWB11
                have HM11 : Hid (Blk W11 W'.heap.size 55 4 (fun j => (#[.int .i64 (g : Int), .int .i64 (f : Int), .int .i64 (b : Int), .int .i64 0] : Array Value).getD j default)) := K11
                have HK11 : Hid (RelK w1.heap.size B7 W0 z W11) := HK.out.below hWB11
                have hxc := HBL.out.2.1.cell (j := 0) (by decide)
                have hxl := HBL.out.2.1.lt
                have hgc := HBL.out.2.2.1.cell (j := 0) (by decide)
                have hgl3 := HBL.out.2.2.1.lt
                obtain ⟨⟨⟨l1, d0, d1⟩, -, -, -, -, -, -, -, -⟩, -, -, -, -⟩ := HC.out W11 HK11.out.bel
                obtain ⟨n1, e0, e1, e2, e3, e4, e5, e6⟩ := Boxed.of HK11.out.box
                rw [← HW11.out] at l1 d0 d1 n1 e0 e1 e2 e3 e4 e5 e6
                clear hW11 hWB11 K11 h8
                gi_wp2_with (refine ⟨trivial, ?_⟩; (first | gi_at_call 21 | gi_at_call 25 | gi_at_call 36 | gi_at_call 37 | gi_at_call 38); refine park ?_)
                refine unpark ?_
                rw [HW11.out]
                clear l1 d0 d1 n1 e0 e1 e2 e3 e4 e5 e6 m1 p0 p1 p2 p3 p4 p5 p6 hxc hxl hgc hgl3 HW11
                refine (CallsIn.inRound l2 (CallsIn.inRound l (callsIn_wide.2 (atMost_any p z g f b 0 W11 (HC.out W11 HK11.out.bel).2.1 HK11.out.own.at HRZ.out hgl hfn hbn)))).mono ?_
                rintro e w12 ⟨rfl, hB12⟩
                have HNE : Hid (fillN p z b g f = fillN p YF b g f) := fillN_same HS.out HFF.out.r.fm hbn hgl hfn
                generalize fillN p z b g f = NN at *
                have hBW := HB11.out.trans (hB12.mono HB11.out.size)
                have K12 := HM11.out.below hB12
                have zl := K12.lt
                have zf3 := K12.frozen 3
                have zc3 := K12.cell (j := 3) (by decide)
                have HBX : Hid (Below W'.heap.size W' (w12.setCell ⟨W'.heap.size, 3, none⟩ (.int .i64 NN))) := hBW.setCell (p := ⟨W'.heap.size, 3, none⟩) (Nat.le_refl _) _
                have K13 : Blk (w12.setCell ⟨W'.heap.size, 3, none⟩ (.int .i64 NN)) W'.heap.size 55 4 (fun j => (#[.int .i64 (g : Int), .int .i64 (f : Int), .int .i64 (b : Int), .int .i64 NN] : Array Value).getD j default) := (K12.set 3 _).congr fun j hj => by match j, hj with | 0, _ => rfl | 1, _ => rfl | 2, _ => rfl | 3, _ => rfl
                have HKX : Hid (RelK w1.heap.size B7 W0 z (w12.setCell ⟨W'.heap.size, 3, none⟩ (.int .i64 NN))) := HK.out.below HBX.out
                have x0 := K13.cell (j := 0) (by decide)
                have x1 := K13.cell (j := 1) (by decide)
                have x2 := K13.cell (j := 2) (by decide)
                have x3 := K13.cell (j := 3) (by decide)
                have xl := K13.lt
                clear hB12 hBW K12 HM11 HK11 HB11 K13
                by_cases h1 : 1 ≤ NN
                · have HFO : Hid (fillOne p b g f YF = addMove YF ⟨g, f, b, NN⟩) := by
                    show _ = _
                    unfold fillOne
                    rw [← HNE.out, if_pos ⟨by rw [← HMN.out]; exact hm8, h1⟩]
                  obtain ⟨iM, hM, hM0, hM1, hM2⟩ := info_parts infoMove
                  have hszX : (w12.setCell ⟨W'.heap.size, 3, none⟩ (.int .i64 NN)).heap.size = w12.heap.size := by simp
                  obtain ⟨W14, hW14, hWB14⟩ : ∃ X, (w12.setCell ⟨W'.heap.size, 3, none⟩ (.int .i64 NN)).alloc (.cells #[.int .i64 (g : Int), .int .i64 (f : Int), .int .i64 (b : Int), .int .i64 NN] 55) = X ∧ Below (w12.setCell ⟨W'.heap.size, 3, none⟩ (.int .i64 NN)).heap.size (w12.setCell ⟨W'.heap.size, 3, none⟩ (.int .i64 NN)) X := ⟨_, rfl, (Below.refl _ _).alloc (Nat.le_refl _) _⟩
                  have HW14 : Hid ((w12.setCell ⟨W'.heap.size, 3, none⟩ (.int .i64 NN)).alloc (.cells #[.int .i64 (g : Int), .int .i64 (f : Int), .int .i64 (b : Int), .int .i64 NN] 55) = W14) := hW14
                  have HNW : Hid (∀ j u, (hdCells ⟨g, f, b, NN⟩)[j]? = some u → W14.cell? ((⟨w12.heap.size, 0, none⟩ : Addr).add j) = some u) := by
                    have h := news4 (w12.setCell ⟨W'.heap.size, 3, none⟩ (.int .i64 NN)) ⟨g, f, b, NN⟩ 55
                    rw [hszX] at h
                    rw [← hW14]
                    exact h
                  obtain ⟨n1, e0, e1, e2, e3, e4, e5, e6⟩ := Boxed.of HKX.out.box
                  have HK14 : Hid (RelK w1.heap.size B7 W0 z W14) := HKX.out.below hWB14
                  have HB14 : Hid (Below W'.heap.size W' W14) := HBX.out.trans (hWB14.mono HBX.out.size)
                  have msl := HK14.out.own.ms.1
                  have msc := HK14.out.own.ms.2.1
                  unfold maxLen at msc
                  clear hW14 hWB14 e0 e1 e2 e4 e5 e6 HKX HBX hszX
                  gi_wp2_with (gi_at_builtin; rw [HW14.out]; refine wpListIn_append_room W14 rfl (.tmp 61) (.tmp 63) 29 rfl w1.heap.size 55 iM (.agg #[.int .i64 0, .int .i64 0, .int .i64 0, .int .i64 0]) 4 32 Try.underlying29 hM hM0 hM1 hM2 rfl (by decide) z.ms.a z.ms.n z.ms.c (flatH z.ms.n z.ms.z) rfl HK14.out.own.msr HK14.out.own.ms.1 HK14.out.own.ms.2.1 (flatH_len _ _) HK14.out.own.ms.2.2.2 ⟨w12.heap.size, 0, none⟩ 1 1 (hdCells ⟨g, f, b, NN⟩) rfl rfl HNW.out (fun u hu => by simp [hdCells] at hu; rcases hu with rfl | rfl | rfl | rfl <;> rfl) (by decide) ?zc3 ?zc4 HK14.out.le ?_)
                  case zc3 => unfold maxLen; omega
                  case zc4 => omega
                  intro v2 w15 hown2 hgrow2
                  obtain ⟨k, rfl, hKn, kn, kz, kl, hbx⟩ := HK14.out.more A2 A3 hown2 hgrow2
                  have HGR : Hid (Grew w1.heap.size 55 W14 w15) := hgrow2
                  have HKN : Hid (RelK w1.heap.size B7 W0 (withMoves z k) (w15.setCell ⟨B7, 3, none⟩ (.slice k.a k.n k.c))) := hKn
                  have HSN : Hid (SameT (withMoves z k) (fillF p b g (pre' ++ [⟨f, hfn, hff⟩]) Yg)) := by
                    rw [HFX.out, HFO.out]
                    exact addMove_same HS.out _ kn kz kl
                  have HBO : Hid (∀ q t m g', t ≠ 55 → t ≠ 31 → Blk W' q t m g' → Blk (w15.setCell ⟨B7, 3, none⟩ (.slice k.a k.n k.c)) q t m g') := fun q t m g' h1 h2 hb => by
                    have h3 := HGR.out.blk (hb.below HB14.out) h1
                    exact h3.other (a := ⟨B7, 3, none⟩) (Blk.ne2 h3 hbx h2) _
                  have HB0 : Hid (Below W0.heap.size W' (w15.setCell ⟨B7, 3, none⟩ (.slice k.a k.n k.c))) := (HGR.out.below (HB14.out.mono h0W') A2 (Nat.le_trans h0W' HB14.out.size)).setCell (p := ⟨B7, 3, none⟩) (by show W0.heap.size ≤ B7; omega) _
                  have HKE : Hid (KeepsOthers W' (w15.setCell ⟨B7, 3, none⟩ (.slice k.a k.n k.c))) := ((keeps_below HB14.out).trans HGR.out.keeps).trans (KeepsOthers.setCell _ _ _)
                  have z1 := hbx.lt
                  have z2 := hbx.frozen 3
                  have z3 := hbx.cell (j := 3) (by decide)
                  clear hown2 hgrow2 hKn kn kz kl hbx HNW HW14 n1 e3 x0 x1 x2 x3 xl zl zf3 zc3 HFO HNE
                  try simp only [Act.put, List.setIfInBounds_toArray, List.set_cons_succ, List.set_cons_zero]
                  gi_wp2_with fail
                  refine ⟨HKE.out.from _, keeps_b HB0.out HBL.out.2.2.2 (HBO.out _ _ _ _ (by decide) (by decide) HBL.out.2.2.2), ⟨⟨⟨withMoves z k, HSN.out, HKN.out⟩, HBO.out _ _ _ _ (by decide) (by decide) HBL.out.1⟩, HBO.out _ _ _ _ (by decide) (by decide) HBL.out.2.1, HBO.out _ _ _ _ (by decide) (by decide) HBL.out.2.2.1⟩, HBO.out _ _ _ _ (by decide) (by decide) HBL.out.2.2.2, HWW.out.1.trans HB0.out, HWW.out.2.trans (HKE.out.from _)⟩
                · have HSN : Hid (SameT z (fillF p b g (pre' ++ [⟨f, hfn, hff⟩]) Yg)) := by
                    rw [HFX.out]
                    unfold fillOne
                    rw [← HNE.out, if_neg (fun c => h1 c.2)]
                    exact HS.out
                  clear HNE
                  gi_wp2_with fail
                  refine ⟨(keeps_below HBX.out).from _, keeps_b (HBX.out.mono h0W') HBL.out.2.2.2 (HBL.out.2.2.2.below HBX.out), ⟨⟨⟨z, HSN.out, HKX.out⟩, HBL.out.1.below HBX.out⟩, HBL.out.2.1.below HBX.out, HBL.out.2.2.1.below HBX.out⟩, HBL.out.2.2.2.below HBX.out, HWW.out.1.trans (HBX.out.mono h0W'), HWW.out.2.trans ((keeps_below HBX.out).from _)⟩
        · have hgn : g = p.ns := by omega
          have r1 : (p.ns : Int) ≤ (g : Int) := by omega
          gi_wp2_with fail
          refine ⟨HJ.out.2.2.2, keeps_b HJ.out.2.2.1 HIW.out.2 HJ.out.1.2, ?_⟩
          show FillK p w1.heap.size B7 (W5.heap.size + 1) W0 (fillB p (pre ++ [⟨b, hbn, hbf⟩]) s) _
          rw [HYB.out, ← hgn]
          exact HJ.out.1
    case done =>
      rintro D xs W hD rfl ⟨⟨x, hsx, hkx⟩, -⟩ hK
      have HSM : Hid (SameT x (fillT p s)) := hsx
      clear hsx
      obtain ⟨m1, p0, p1, p2, p3, p4, p5, p6⟩ := Boxed.of hkx.box
      obtain ⟨-, -, -, hBw, hz⟩ := HC.out W hkx.bel
      have HZ : Hid (Below w.heap.size w W ∧ Blk W (w.heap.size + 2) 31 7 (fun _ => .slice .none 0 0)) := ⟨hBw, hz⟩
      have zl := hz.lt
      have zf0 := hz.frozen 0
      have zc0 := hz.cell (j := 0) (by decide)
      have zf1 := hz.frozen 1
      have zc1 := hz.cell (j := 1) (by decide)
      have zf2 := hz.frozen 2
      have zc2 := hz.cell (j := 2) (by decide)
      have zf3 := hz.frozen 3
      have zc3 := hz.cell (j := 3) (by decide)
      have zf4 := hz.frozen 4
      have zc4 := hz.cell (j := 4) (by decide)
      have zf5 := hz.frozen 5
      have zc5 := hz.cell (j := 5) (by decide)
      have zf6 := hz.frozen 6
      have zc6 := hz.cell (j := 6) (by decide)
      have hlow := (HC.out _ (Below.refl _ _)).2.2.2.1.size
      have HKX : Hid (RelK w1.heap.size B7 W0 x W) := hkx
      have HHK : Hid (W.heap[D]? = some (.deferred (some []))) := hK
      clear hBw hz hkx hK
      gi_wp2_with fail
      have KZ := set7_blk HZ.out.2 (.slice x.on.a x.on.n x.on.c) (.slice x.os.a x.os.n x.os.c) (.slice x.hs.a x.hs.n x.hs.c) (.slice x.ms.a x.ms.n x.ms.c) (.slice x.si.a x.si.n x.si.c) (.slice x.so.a x.so.n x.so.c) (.slice x.sf.a x.sf.n x.sf.c)
      have hbz := set7_below (b := w.heap.size + 2) HZ.out.1 (by omega) (.slice x.on.a x.on.n x.on.c) (.slice x.os.a x.os.n x.os.c) (.slice x.hs.a x.hs.n x.hs.c) (.slice x.ms.a x.ms.n x.ms.c) (.slice x.si.a x.si.n x.si.c) (.slice x.so.a x.so.n x.so.c) (.slice x.sf.a x.sf.n x.sf.c)
      have hOz := OwnS.set7 HKX.out.own HZ.out.2 (.slice x.on.a x.on.n x.on.c) (.slice x.os.a x.os.n x.os.c) (.slice x.hs.a x.hs.n x.hs.c) (.slice x.ms.a x.ms.n x.ms.c) (.slice x.si.a x.si.n x.si.c) (.slice x.so.a x.so.n x.so.c) (.slice x.sf.a x.sf.n x.sf.c)
      have hKz := (set7_heap (w := W) (show D ≠ w.heap.size + 2 by omega) (.slice x.on.a x.on.n x.on.c) (.slice x.os.a x.os.n x.os.c) (.slice x.hs.a x.hs.n x.hs.c) (.slice x.ms.a x.ms.n x.ms.c) (.slice x.si.a x.si.n x.si.c) (.slice x.so.a x.so.n x.so.c) (.slice x.sf.a x.sf.n x.sf.c)).trans HHK.out
      unfold set7 at KZ hbz hOz hKz
      have ck := CellsKept.of (grownBy_putObj' _ D (.deferred none)) (fun r e => by cases e; exact ⟨_, hKz, rfl⟩)
      have KZ2 := KZ.ck ck
      have hOz2 := hOz.ck ck
      have hbz2 := hbz.grown (grownBy_putObj' _ D (.deferred none)) (by have := hbz.size; omega) (fun k e => by cases e; omega)
      obtain ⟨c0', c1', c2', c3', c4', c5', c6'⟩ := box_cells KZ2
      refine leave_marked (v := .tuple #[x.val, .int .i64 0]) hKz (by simp [results, Try.results13, go_sem, St.val, c0', c1', c2', c3', c4', c5', c6']) rfl ?_
      exact ⟨x, by rw [H0.out]; rfl, hOz2.at, ⟨fun _ => HSM.out, fun h => absurd H0.out h⟩, fun _ => hOz2.mono (by omega), hbz2⟩
    case stop =>
      rintro D c pre W hD hpre ⟨rfl, h8, x, hsx, hkx⟩ hK
      have HSM : Hid (SameT x (fillT p s)) := by
        have e : fillT p s = fillB p pre s := fillB_end hpre rfl h8
        rw [e]
        exact hsx
      clear hsx h8 hpre
      obtain ⟨m1, p0, p1, p2, p3, p4, p5, p6⟩ := Boxed.of hkx.box
      obtain ⟨-, -, -, hBw, hz⟩ := HC.out W hkx.bel
      have HZ : Hid (Below w.heap.size w W ∧ Blk W (w.heap.size + 2) 31 7 (fun _ => .slice .none 0 0)) := ⟨hBw, hz⟩
      have zl := hz.lt
      have zf0 := hz.frozen 0
      have zc0 := hz.cell (j := 0) (by decide)
      have zf1 := hz.frozen 1
      have zc1 := hz.cell (j := 1) (by decide)
      have zf2 := hz.frozen 2
      have zc2 := hz.cell (j := 2) (by decide)
      have zf3 := hz.frozen 3
      have zc3 := hz.cell (j := 3) (by decide)
      have zf4 := hz.frozen 4
      have zc4 := hz.cell (j := 4) (by decide)
      have zf5 := hz.frozen 5
      have zc5 := hz.cell (j := 5) (by decide)
      have zf6 := hz.frozen 6
      have zc6 := hz.cell (j := 6) (by decide)
      have hlow := (HC.out _ (Below.refl _ _)).2.2.2.1.size
      have HKX : Hid (RelK w1.heap.size B7 W0 x W) := hkx
      have HHK : Hid (W.heap[D]? = some (.deferred (some []))) := hK
      clear hBw hz hkx hK
      gi_wp2_with fail
      have KZ := set7_blk HZ.out.2 (.slice x.on.a x.on.n x.on.c) (.slice x.os.a x.os.n x.os.c) (.slice x.hs.a x.hs.n x.hs.c) (.slice x.ms.a x.ms.n x.ms.c) (.slice x.si.a x.si.n x.si.c) (.slice x.so.a x.so.n x.so.c) (.slice x.sf.a x.sf.n x.sf.c)
      have hbz := set7_below (b := w.heap.size + 2) HZ.out.1 (by omega) (.slice x.on.a x.on.n x.on.c) (.slice x.os.a x.os.n x.os.c) (.slice x.hs.a x.hs.n x.hs.c) (.slice x.ms.a x.ms.n x.ms.c) (.slice x.si.a x.si.n x.si.c) (.slice x.so.a x.so.n x.so.c) (.slice x.sf.a x.sf.n x.sf.c)
      have hOz := OwnS.set7 HKX.out.own HZ.out.2 (.slice x.on.a x.on.n x.on.c) (.slice x.os.a x.os.n x.os.c) (.slice x.hs.a x.hs.n x.hs.c) (.slice x.ms.a x.ms.n x.ms.c) (.slice x.si.a x.si.n x.si.c) (.slice x.so.a x.so.n x.so.c) (.slice x.sf.a x.sf.n x.sf.c)
      have hKz := (set7_heap (w := W) (show D ≠ w.heap.size + 2 by omega) (.slice x.on.a x.on.n x.on.c) (.slice x.os.a x.os.n x.os.c) (.slice x.hs.a x.hs.n x.hs.c) (.slice x.ms.a x.ms.n x.ms.c) (.slice x.si.a x.si.n x.si.c) (.slice x.so.a x.so.n x.so.c) (.slice x.sf.a x.sf.n x.sf.c)).trans HHK.out
      unfold set7 at KZ hbz hOz hKz
      have ck := CellsKept.of (grownBy_putObj' _ D (.deferred none)) (fun r e => by cases e; exact ⟨_, hKz, rfl⟩)
      have KZ2 := KZ.ck ck
      have hOz2 := hOz.ck ck
      have hbz2 := hbz.grown (grownBy_putObj' _ D (.deferred none)) (by have := hbz.size; omega) (fun k e => by cases e; omega)
      obtain ⟨c0', c1', c2', c3', c4', c5', c6'⟩ := box_cells KZ2
      refine leave_marked (v := .tuple #[x.val, .int .i64 0]) hKz (by simp [results, Try.results13, go_sem, St.val, c0', c1', c2', c3', c4', c5', c6']) rfl ?_
      exact ⟨x, by rw [H0.out]; rfl, hOz2.at, ⟨fun _ => HSM.out, fun h => absurd H0.out h⟩, fun _ => hOz2.mono (by omega), hbz2⟩
  · have HNE : Hid (¬ stateE p s = 0) := h0
    have g0 : (stateE p s != 0) = true := by simpa using h0
    clear h0 hpk hsk
    have zl := hz.lt
    have zf0 := hz.frozen 0
    have zc0 := hz.cell (j := 0) (by decide)
    have zf1 := hz.frozen 1
    have zc1 := hz.cell (j := 1) (by decide)
    have zf2 := hz.frozen 2
    have zc2 := hz.cell (j := 2) (by decide)
    have zf3 := hz.frozen 3
    have zc3 := hz.cell (j := 3) (by decide)
    have zf4 := hz.frozen 4
    have zc4 := hz.cell (j := 4) (by decide)
    have zf5 := hz.frozen 5
    have zc5 := hz.cell (j := 5) (by decide)
    have zf6 := hz.frozen 6
    have zc6 := hz.cell (j := 6) (by decide)
    gi_wp2_with fail
    have KZ := set7_blk hz (.slice .none 0 0) (.slice .none 0 0) (.slice .none 0 0) (.slice .none 0 0) (.slice .none 0 0) (.slice .none 0 0) (.slice .none 0 0)
    have hbz := set7_below (b := w.heap.size + 2) hBw (by omega) (.slice .none 0 0) (.slice .none 0 0) (.slice .none 0 0) (.slice .none 0 0) (.slice .none 0 0) (.slice .none 0 0) (.slice .none 0 0)
    unfold set7 at KZ hbz
    obtain ⟨c0', c1', c2', c3', c4', c5', c6'⟩ := box_cells KZ
    refine leave_ret (v := .tuple #[noneS.val, .int .i64 (stateE p s)]) (by simp [results, Try.results13, go_sem, noneS, St.val, c0', c1', c2', c3', c4', c5', c6']) rfl ?_
    exact ⟨noneS, rfl, noneS_at _, ⟨fun h => absurd h (HNE.out), fun _ => ⟨rfl, rfl, rfl, rfl, rfl, rfl, rfl⟩⟩, fun h => absurd h (HNE.out), hbz⟩
end Go.Proofs.Ytbcacebifpagpae
namespace Go.Proofs.Ytbcacebifpagpae
open Go.RowKit Go.Shelf Go.Sort
set_option linter.unusedVariables false
set_option maxRecDepth 100000 in
set_option maxHeartbeats 8000000 in
theorem Moved_any (p : Pl) (s : St) (k n : Int) (w : World) (hp : p.At w) (hs : s.At w) :
    Calls Try.prog 14 #[p.val, s.val, .int .i64 k, .int .i64 n] w fun e w' => ∃ x : St, e = .returned (.tuple #[x.val, .int .i64 (movedE p s k n)]) ∧ x.At w' ∧ ActOK (movedE p s k n) (movedT s k.toNat n) x ∧ (movedE p s k n = 0 → OwnS w.heap.size w' x) ∧ Below w.heap.size w w' := by
  obtain ⟨W0, hW, hWB, X0, Z0⟩ : ∃ W, (((w.alloc (.cells #[.slice p.ab p.nb p.cb, .slice p.sa p.ns p.cs] 25)).alloc (.cells s.cells 31)).alloc (.cells #[.slice .none 0 0, .slice .none 0 0, .slice .none 0 0, .slice .none 0 0, .slice .none 0 0, .slice .none 0 0, .slice .none 0 0] 31)) = W ∧ Below w.heap.size w W ∧ Boxes W w.heap.size (w.heap.size + 1) p s ∧ Blk W (w.heap.size + 2) 31 7 (fun _ => .slice .none 0 0) :=
    ⟨_, rfl, (two_below _ _ _).alloc (by simp; omega) _, (boxes_new w p s _ _).below ((Below.refl _ _).alloc (Nat.le_refl _) _), (Blk.mk' (cur := #[.slice .none 0 0, .slice .none 0 0, .slice .none 0 0, .slice .none 0 0, .slice .none 0 0, .slice .none 0 0, .slice .none 0 0]) (by simp) rfl).congr (fun j hj => by match j, hj with | 0, _ => rfl | 1, _ => rfl | 2, _ => rfl | 3, _ => rfl | 4, _ => rfl | 5, _ => rfl | 6, _ => rfl)⟩
  have HC : Hid (∀ wk, Below W0.heap.size W0 wk → Boxes wk w.heap.size (w.heap.size + 1) p s ∧ p.At wk ∧ s.At wk ∧ Below w.heap.size w wk ∧ Blk wk (w.heap.size + 2) 31 7 (fun _ => .slice .none 0 0)) := fun wk h => ⟨X0.below h, (hp.below hWB).below h, (hs.below hWB).below h, hWB.trans (h.mono hWB.size), Z0.below h⟩
  have HW : Hid (((w.alloc (.cells #[.slice p.ab p.nb p.cb, .slice p.sa p.ns p.cs] 25)).alloc (.cells #[.slice s.on.a s.on.n s.on.c, .slice s.os.a s.os.n s.os.c, .slice s.hs.a s.hs.n s.hs.c, .slice s.ms.a s.ms.n s.ms.c, .slice s.si.a s.si.n s.si.c, .slice s.so.a s.so.n s.so.c, .slice s.sf.a s.sf.n s.sf.c] 31)).alloc (.cells #[.slice .none 0 0, .slice .none 0 0, .slice .none 0 0, .slice .none 0 0, .slice .none 0 0, .slice .none 0 0, .slice .none 0 0] 31) = W0) := hW
  have leb := hp.leb
  have capb0 := hp.capb
  have les := hp.les
  have caps0 := hp.caps
  have capb := capb0
  have caps := caps0
  have zlt0 := Z0.lt
  unfold maxLen at capb caps
  have msl := hs.ms.le
  have msc0 := hs.ms.cap
  have msn0 : s.ms.n ≤ maxLen := Nat.le_trans msl msc0
  have msc := msc0
  have msn := msn0
  unfold maxLen at msc msn
  clear hW X0 Z0 hp hs
  unfold Pl.val St.val
  go_enter Try.func14, Try.ntmps14
  go_wp2_with fail
  rw [HW.out]
  obtain ⟨X, hpk, hsk, hBw, hz⟩ := HC.out W0 (Below.refl _ _)
  refine (stateCheck_any p s W0 hpk hsk).mono ?_
  rintro e w1 ⟨rfl, hB⟩
  clear X hpk hsk hBw hz HW
  obtain ⟨⟨⟨l1, d0, d1⟩, l2, c0, c1, c2, c3, c4, c5, c6⟩, hpk, hsk, hBw, hz⟩ := HC.out w1 hB
  by_cases h0 : stateE p s = 0
  · have H0 : Hid (stateE p s = 0) := h0
    have HR : Hid (RightT p s) := rightT h0
    rw [h0]
    clear h0
    cases h1 : inB k 0 ((s.ms.n : Int) - 1)
    · have HX : Hid (movedE p s k n = 4) := movedE_none H0.out h1
      have HNE : Hid (¬ movedE p s k n = 0) := by show ¬ _; rw [HX.out]; decide
      clear hpk hsk
      have zl := hz.lt
      have zf0 := hz.frozen 0
      have zc0 := hz.cell (j := 0) (by decide)
      have zf1 := hz.frozen 1
      have zc1 := hz.cell (j := 1) (by decide)
      have zf2 := hz.frozen 2
      have zc2 := hz.cell (j := 2) (by decide)
      have zf3 := hz.frozen 3
      have zc3 := hz.cell (j := 3) (by decide)
      have zf4 := hz.frozen 4
      have zc4 := hz.cell (j := 4) (by decide)
      have zf5 := hz.frozen 5
      have zc5 := hz.cell (j := 5) (by decide)
      have zf6 := hz.frozen 6
      have zc6 := hz.cell (j := 6) (by decide)
      go_wp2_with (go_at_call 34; refine calls_to (Has_any _ _ _ msn0) ?_)
      have KZ := set7_blk hz (.slice .none 0 0) (.slice .none 0 0) (.slice .none 0 0) (.slice .none 0 0) (.slice .none 0 0) (.slice .none 0 0) (.slice .none 0 0)
      have hbz := set7_below (b := w.heap.size + 2) hBw (by omega) (.slice .none 0 0) (.slice .none 0 0) (.slice .none 0 0) (.slice .none 0 0) (.slice .none 0 0) (.slice .none 0 0) (.slice .none 0 0)
      unfold set7 at KZ hbz
      obtain ⟨c0', c1', c2', c3', c4', c5', c6'⟩ := box_cells KZ
      refine bodyPost_ret (v := .tuple #[noneS.val, .int .i64 4]) (by simp [results, Try.results14, go_sem, noneS, St.val, c0', c1', c2', c3', c4', c5', c6']) rfl ?_
      exact ⟨noneS, by rw [HX.out]; rfl, noneS_at _, ⟨fun h => absurd h (HNE.out), fun _ => ⟨rfl, rfl, rfl, rfl, rfl, rfl, rfl⟩⟩, fun h => absurd h (HNE.out), hbz⟩
    · obtain ⟨i, rfl⟩ : ∃ i : Nat, k = i := ⟨k.toNat, by have := inB_true h1; omega⟩
      have hi : i < s.ms.n := by have := inB_true h1; omega
      have HMV := badMove_no (HR.out.fm.move i hi)
      obtain ⟨f, b, g, N, hm⟩ : ∃ (f b g : Nat) (N : Int), s.ms.z i = ⟨g, f, b, N⟩ := ⟨(s.ms.z i).l.toNat, (s.ms.z i).b.toNat, (s.ms.z i).o.toNat, (s.ms.z i).n, by rw [Int.toNat_of_nonneg HMV.1.1, Int.toNat_of_nonneg HMV.2.1.1, Int.toNat_of_nonneg HMV.2.2.1.1]⟩
      have HM : Hid (s.ms.z i = ⟨g, f, b, N⟩) := hm
      rw [hm] at HMV
      dsimp only at HMV
      obtain ⟨u1, u2, u3, u4, u5, u6⟩ := HMV
      have hgn : g < p.ns := by omega
      have hfn : f < p.nb := by omega
      have hbn : b < p.nb := by omega
      have hne : ¬ f = b := by omega
      have H1 : Hid (inB (i : Int) 0 ((s.ms.n : Int) - 1) = true) := h1
      obtain ⟨bm, om, hma, hbm, y0, y1, y2, y3⟩ := hsk.ms.hds i hi
      rw [hm] at y0 y1 y2 y3
      dsimp only at y0 y1 y2 y3
      have HMA : Hid (s.ms.a = some ⟨bm, om, none⟩) := hma
      rw [hma] at c3
      obtain ⟨W2, hW2, hWB2, K2⟩ : ∃ W, w1.alloc (.cells #[.int .i64 (g : Int), .int .i64 (f : Int), .int .i64 (b : Int), .int .i64 N] 55) = W ∧ Below w1.heap.size w1 W ∧ Blk W w1.heap.size 55 4 (fun j => (#[.int .i64 (g : Int), .int .i64 (f : Int), .int .i64 (b : Int), .int .i64 N] : Array Value).getD j default) := ⟨_, rfl, (Below.refl _ _).alloc (Nat.le_refl _) _, Blk.mk' rfl rfl⟩
      have HW2 : Hid (w1.alloc (.cells #[.int .i64 (g : Int), .int .i64 (f : Int), .int .i64 (b : Int), .int .i64 N] 55) = W2) := hW2
      have hB2 := hB.trans (hWB2.mono hB.size)
      have HMB : Hid (Blk W2 w1.heap.size 55 4 (fun j => (#[.int .i64 (g : Int), .int .i64 (f : Int), .int .i64 (b : Int), .int .i64 N] : Array Value).getD j default)) := K2
      have q0 : (0 : Int) ≤ (i : Int) := by omega
      have q1 : (i : Int) < (s.ms.n : Int) := by omega
      have A1 : W0.heap.size ≤ w1.heap.size := hB.size
      clear hpk hsk hBw hz hma hW2 K2 hm
      go_wp2_with (go_at_call 34; refine calls_to (Has_any _ _ _ msn0) ?_)
      rw [HW2.out]
      refine calls_to (Within_any _ _ _ _) ?_
      clear l1 d0 d1 l2 c0 c1 c2 c3 c4 c5 c6 hbm y0 y1 y2 y3 HW2 hWB2 hB h1
      generalize w1.heap.size = BM at *
      obtain ⟨⟨⟨l1, d0, d1⟩, l2, c0, c1, c2, c3, c4, c5, c6⟩, hpk, hsk, hBw, hz⟩ := HC.out W2 hB2
      rw [HMA.out] at c3
      cases h2 : inB n 0 N
      · have HX : Hid (movedE p s i n = 3) := movedE_range H0.out H1.out (by rw [Int.toNat_natCast, HM.out]; exact h2)
        have HNE : Hid (¬ movedE p s i n = 0) := by show ¬ _; rw [HX.out]; decide
        clear hpk hsk
        have zl := hz.lt
        have zf0 := hz.frozen 0
        have zc0 := hz.cell (j := 0) (by decide)
        have zf1 := hz.frozen 1
        have zc1 := hz.cell (j := 1) (by decide)
        have zf2 := hz.frozen 2
        have zc2 := hz.cell (j := 2) (by decide)
        have zf3 := hz.frozen 3
        have zc3 := hz.cell (j := 3) (by decide)
        have zf4 := hz.frozen 4
        have zc4 := hz.cell (j := 4) (by decide)
        have zf5 := hz.frozen 5
        have zc5 := hz.cell (j := 5) (by decide)
        have zf6 := hz.frozen 6
        have zc6 := hz.cell (j := 6) (by decide)
        go_wp2_with fail
        have KZ := set7_blk hz (.slice .none 0 0) (.slice .none 0 0) (.slice .none 0 0) (.slice .none 0 0) (.slice .none 0 0) (.slice .none 0 0) (.slice .none 0 0)
        have hbz := set7_below (b := w.heap.size + 2) hBw (by omega) (.slice .none 0 0) (.slice .none 0 0) (.slice .none 0 0) (.slice .none 0 0) (.slice .none 0 0) (.slice .none 0 0) (.slice .none 0 0)
        unfold set7 at KZ hbz
        obtain ⟨c0', c1', c2', c3', c4', c5', c6'⟩ := box_cells KZ
        refine bodyPost_ret (v := .tuple #[noneS.val, .int .i64 3]) (by simp [results, Try.results14, go_sem, noneS, St.val, c0', c1', c2', c3', c4', c5', c6']) rfl ?_
        exact ⟨noneS, by rw [HX.out]; rfl, noneS_at _, ⟨fun h => absurd h (HNE.out), fun _ => ⟨rfl, rfl, rfl, rfl, rfl, rfl, rfl⟩⟩, fun h => absurd h (HNE.out), hbz⟩
      · have nn := inB_true h2
        have H2 : Hid (inB n 0 (s.ms.z (i : Int).toNat).n = true) := by show inB n 0 (s.ms.z (i : Int).toNat).n = true; rw [Int.toNat_natCast, HM.out]; exact h2
        have onn : b < s.on.n := by rw [HR.out.fm.sh.n]; exact hbn
        have rn := HR.out.fm.sh.len b onn
        have HSN : Hid ((s.on.r (s.ms.z (i : Int).toNat).b.toNat).z (s.ms.z (i : Int).toNat).o.toNat = (s.on.r b).z g) := by show _ = _; rw [Int.toNat_natCast, HM.out]; simp only [Int.toNat_natCast]
        obtain ⟨bo, oo, hoa, hbo, z0, hrow⟩ := hsk.on.rows b onn
        obtain ⟨br, orr, hra, hbr, z1⟩ := hrow.ints g (by omega)
        have v1 := hrow.le
        have v2 := hrow.cap
        have v3 := hsk.on.le
        have v4 := hsk.on.cap
        unfold maxLen at v2 v4
        have zb := HR.out.fm.sh.num b onn g hgn
        have m0 : W2.cell? ⟨BM, 0, none⟩ = some (.int .i64 g) := HMB.out.cell (j := 0) (by decide)
        have m2 : W2.cell? ⟨BM, 2, none⟩ = some (.int .i64 b) := HMB.out.cell (j := 2) (by decide)
        have ml := HMB.out.lt
        have q2 : (0 : Int) ≤ (b : Int) := by omega
        have q3 : (b : Int) < (s.on.n : Int) := by omega
        have q4 : (0 : Int) ≤ (g : Int) := by omega
        have q5 : (g : Int) < ((s.on.r b).n : Int) := by omega
        rw [hoa] at c0
        rw [hra] at z0
        have rc0 := fun d os => cell_regrown c0 d os
        have rz0 := fun d os => cell_regrown z0 d os
        have rz1 := fun d os => cell_regrown z1 d os
        have rm0 := fun d os => cell_regrown m0 d os
        have rm2 := fun d os => cell_regrown m2 d os
        generalize hZB : (s.on.r b).z g = ZB at *
        clear hoa hra hrow c1 c2 c3 c4 c5 c6 d0 d1 m0 m2 z0 z1 c0
        go_wp2_with fail
        refine wp_region_quiet_below (by kernel_rfl) (by kernel_rfl) ?_
        repeat (go_big_quiet_step (fail))
        refine wpQuiet_nil ?_
        intro w3 hw3
        have hB3' := below_of_regrown hw3
        have HMB : Hid (Blk w3 BM 55 4 (fun j => (#[.int .i64 (g : Int), .int .i64 (f : Int), .int .i64 (b : Int), .int .i64 N] : Array Value).getD j default)) := HMB.out.below hB3'
        have hB3 := hB2.trans (hB3'.mono hB2.size)
        clear rc0 rz0 rz1 rm0 rm2 hw3 hbo hbr ml hpk hsk hBw hz l1 l2 hB3' hB2 v1 v2 v3 v4
        obtain ⟨⟨⟨l1, d0, d1⟩, l2, c0, c1, c2, c3, c4, c5, c6⟩, hpk, hsk, hBw, hz⟩ := HC.out w3 hB3
        by_cases h3 : 200 < ZB + n
        · have HX : Hid (movedE p s i n = 2) := movedE_many H0.out H1.out H2.out (by rw [HSN.out]; exact h3)
          have HNE : Hid (¬ movedE p s i n = 0) := by show ¬ _; rw [HX.out]; decide
          have h3' : 200 - ZB < n := by omega
          clear hpk hsk
          have zl := hz.lt
          have zf0 := hz.frozen 0
          have zc0 := hz.cell (j := 0) (by decide)
          have zf1 := hz.frozen 1
          have zc1 := hz.cell (j := 1) (by decide)
          have zf2 := hz.frozen 2
          have zc2 := hz.cell (j := 2) (by decide)
          have zf3 := hz.frozen 3
          have zc3 := hz.cell (j := 3) (by decide)
          have zf4 := hz.frozen 4
          have zc4 := hz.cell (j := 4) (by decide)
          have zf5 := hz.frozen 5
          have zc5 := hz.cell (j := 5) (by decide)
          have zf6 := hz.frozen 6
          have zc6 := hz.cell (j := 6) (by decide)
          go_wp2_with fail
          have KZ := set7_blk hz (.slice .none 0 0) (.slice .none 0 0) (.slice .none 0 0) (.slice .none 0 0) (.slice .none 0 0) (.slice .none 0 0) (.slice .none 0 0)
          have hbz := set7_below (b := w.heap.size + 2) hBw (by omega) (.slice .none 0 0) (.slice .none 0 0) (.slice .none 0 0) (.slice .none 0 0) (.slice .none 0 0) (.slice .none 0 0) (.slice .none 0 0)
          unfold set7 at KZ hbz
          obtain ⟨c0', c1', c2', c3', c4', c5', c6'⟩ := box_cells KZ
          refine bodyPost_ret (v := .tuple #[noneS.val, .int .i64 2]) (by simp [results, Try.results14, go_sem, noneS, St.val, c0', c1', c2', c3', c4', c5', c6']) rfl ?_
          exact ⟨noneS, by rw [HX.out]; rfl, noneS_at _, ⟨fun h => absurd h (HNE.out), fun _ => ⟨rfl, rfl, rfl, rfl, rfl, rfl, rfl⟩⟩, fun h => absurd h (HNE.out), hbz⟩
        · have HX : Hid (movedE p s i n = 0) := movedE_ok H0.out H1.out H2.out (by rw [HSN.out]; exact h3)
          have HI : Hid (MovedIn p s i f b g N n) := ⟨HR.out, hi, HM.out, hfn, hbn, hgn, hne, nn.1, nn.2, u5, u6, by rw [hZB]; omega⟩
          have h3' : ¬ 200 - ZB < n := by omega
          have HCS : Hid (Calls Try.prog 25 #[s.val] w3 fun e w' => ∃ s' : St, e = .returned s'.val ∧ SameT s' s ∧ OwnS w3.heap.size w' s' ∧ Below w3.heap.size w3 w') := copyState_any p s w3 hsk HR.out.fm
          have HBw : Hid (Below w.heap.size w w3) := hBw
          clear hpk hsk hBw hz h3 HSN
          go_wp2_with fail
          refine Calls.mono HCS.out ?_
          rintro e w4 ⟨x0, rfl, hsame, hown, hB4⟩
          clear HCS l1 d0 d1 l2 c0 c1 c2 c3 c4 c5 c6 h2 h3'
          have HS0 : Hid (SameT x0 s) := hsame
          have x0m : i < x0.ms.n := by rw [hsame.ms.1]; exact hi
          have x0f : f < x0.on.n := by rw [hsame.on.1, HR.out.fm.sh.n]; exact hfn
          have x0b : b < x0.on.n := by rw [hsame.on.1, HR.out.fm.sh.n]; exact hbn
          have x0fg : g < (x0.on.r f).n := by rw [(hsame.on.2 f x0f).1, HR.out.fm.sh.len f (by rw [HR.out.fm.sh.n]; exact hfn)]; exact hgn
          have x0bg : g < (x0.on.r b).n := by rw [(hsame.on.2 b x0b).1, HR.out.fm.sh.len b onn]; exact hgn
          have vf : 0 ≤ (x0.on.r f).z g ∧ (x0.on.r f).z g ≤ 200 := by rw [hsame.num HR.out.fm hfn hgn]; exact HR.out.fm.sh.num f (by rw [HR.out.fm.sh.n]; exact hfn) g hgn
          have vb : 0 ≤ (x0.on.r b).z g ∧ (x0.on.r b).z g ≤ 200 := by rw [hsame.num HR.out.fm hbn hgn, hZB]; exact zb
          obtain ⟨W5, hW5, hWB5, K5⟩ : ∃ W, w4.alloc (.cells #[.slice x0.on.a x0.on.n x0.on.c, .slice x0.os.a x0.os.n x0.os.c, .slice x0.hs.a x0.hs.n x0.hs.c, .slice x0.ms.a x0.ms.n x0.ms.c, .slice x0.si.a x0.si.n x0.si.c, .slice x0.so.a x0.so.n x0.so.c, .slice x0.sf.a x0.sf.n x0.sf.c] 31) = W ∧ Below w4.heap.size w4 W ∧ Blk W w4.heap.size 31 7 (fun j => x0.cells.getD j default) := ⟨_, rfl, (Below.refl _ _).alloc (Nat.le_refl _) _, Blk.mk' rfl rfl⟩
          have HW5 : Hid (w4.alloc (.cells #[.slice x0.on.a x0.on.n x0.on.c, .slice x0.os.a x0.os.n x0.os.c, .slice x0.hs.a x0.hs.n x0.hs.c, .slice x0.ms.a x0.ms.n x0.ms.c, .slice x0.si.a x0.si.n x0.si.c, .slice x0.so.a x0.so.n x0.so.c, .slice x0.sf.a x0.sf.n x0.sf.c] 31) = W5) := hW5
          have hB35 := hB4.trans (hWB5.mono hB4.size)
          have A2 : W0.heap.size ≤ w3.heap.size := hB3.size
          have A3 : w3.heap.size ≤ w4.heap.size := hB4.size
          have HK5 : Hid (RelK w3.heap.size w4.heap.size W0 x0 W5) := ⟨OwnS.below hown hWB5, K5, hB3.trans (hB35.mono hB3.size), by have := hB35.size; omega⟩
          have hbml : BM < w3.heap.size := HMB.out.lt
          have HMB : Hid (Blk W5 BM 55 4 (fun j => (#[.int .i64 (g : Int), .int .i64 (f : Int), .int .i64 (b : Int), .int .i64 N] : Array Value).getD j default)) := HMB.out.below hB35
          clear hW5 hown K5 hB4 hWB5 hB35 hsame zb
          obtain ⟨m1, p0, p1, p2, p3, p4, p5, p6⟩ := Boxed.of HK5.out.box
          have q6 : (i : Int) + 1 ≤ 9223372036854775807 := by omega
          rw [← HW5.out] at m1 p0 p1 p2 p3 p4 p5 p6
          simp only [St.val]
          go_wp2_with fail
          rw [HW5.out]
          clear m1 p0 p1 p2 p3 p4 p5 p6 HW5
          refine Calls.mono (DelM_any w3.heap.size x0 i W5 HK5.out.le HK5.out.own x0m) ?_
          rintro e w6 ⟨rfl, hown6, hB6, hk6⟩
          generalize w4.heap.size = B7 at *
          have hbox6 := hk6 _ _ _ _ (by decide) HK5.out.box
          have HK7 : Hid (RelK w3.heap.size B7 W0 (withMoves x0 (delM x0.ms i)) (w6.setCell ⟨B7, 3, none⟩ (.slice x0.ms.a (x0.ms.n - 1) x0.ms.c))) := HK5.out.moves A2 A3 (m := delM x0.ms i) hown6 hB6 hk6
          have HMB : Hid (Blk (w6.setCell ⟨B7, 3, none⟩ (.slice x0.ms.a (x0.ms.n - 1) x0.ms.c)) BM 55 4 (fun j => (#[.int .i64 (g : Int), .int .i64 (f : Int), .int .i64 (b : Int), .int .i64 N] : Array Value).getD j default)) := (HMB.out.same (hB6.block BM hbml)).other (a := ⟨B7, 3, none⟩) (show BM ≠ B7 by omega) _
          have zl := hbox6.lt
          have zf3 := hbox6.frozen 3
          have zc3 := hbox6.cell (j := 3) (by decide)
          clear hown6 hB6 hk6 hbox6 HK5
          go_wp2_with fail
          clear zl zf3 zc3
          generalize w6.setCell ⟨B7, 3, none⟩ (.slice x0.ms.a (x0.ms.n - 1) x0.ms.c) = W7 at *
          generalize hx1 : withMoves x0 (delM x0.ms i) = x1 at *
          have x1f : f < x1.on.n := by rw [← hx1]; exact x0f
          have x1b : b < x1.on.n := by rw [← hx1]; exact x0b
          have x1fg : g < (x1.on.r f).n := by rw [← hx1]; exact x0fg
          have x1bg : g < (x1.on.r b).n := by rw [← hx1]; exact x0bg
          have wf : 0 ≤ (x1.on.r f).z g ∧ (x1.on.r f).z g ≤ 200 := by rw [← hx1]; exact vf
          have wb : 0 ≤ (x1.on.r b).z g ∧ (x1.on.r b).z g ≤ 200 := by rw [← hx1]; exact vb
          have HX1 : Hid (withMoves x0 (delM x0.ms i) = x1) := hx1
          clear hx1 vf vb
          obtain ⟨g0, G, a1, a2, a3, a4, a5, a6, a7, a8, a9, a10, a11, a12⟩ := HK7.out.own.onCell x1f x1fg
          have u0 : W7.cell? ⟨B7, 0, none⟩ = some (.slice x1.on.a x1.on.n x1.on.c) := HK7.out.box.cell (j := 0) (by decide)
          have u00 := HK7.out.box.lt
          rw [a1] at u0
          unfold maxLen at a8 a12
          have m0 : W7.cell? ⟨BM, 0, none⟩ = some (.int .i64 g) := HMB.out.cell (j := 0) (by decide)
          have m1 : W7.cell? ⟨BM, 1, none⟩ = some (.int .i64 f) := HMB.out.cell (j := 1) (by decide)
          have ml := HMB.out.lt
          have r0 : (0 : Int) ≤ (f : Int) := by omega
          have r1 : (f : Int) < (x1.on.n : Int) := by omega
          have r2 : (0 : Int) ≤ (g : Int) := by omega
          have r3 : (g : Int) < ((x1.on.r f).n : Int) := by omega
          have ru0 := fun d os => cell_regrown u0 d os
          have ra3 := fun d os => cell_regrown a3 d os
          have ra9 := fun d os => cell_regrown a9 d os
          have rm0 := fun d os => cell_regrown m0 d os
          have rm1 := fun d os => cell_regrown m1 d os
          clear u0 a1 a3 a9 m0 m1
          refine wp_region_ph [(true, [0, 1, 2, 3, 4, 5, 6, 7, 8, 9, 10, 11, 12], some 13)] (by kernel_rfl) (by kernel_rfl) (by kernel_rfl) (by kernel_rfl) (by kernel_rfl) ?_
          refine ⟨fun w' => ∃ p : Regrown, w' = grow (redrawn W7 p.d) p.os, regrown_of_below ((Below.refl _ _).drew), fun h => (by cases h), ?_⟩
          simp only [picks, List.drop_succ_cons, List.drop_zero, List.take_succ_cons, List.take_zero, List.cons_append, List.nil_append]
          repeat (go_big_quiet_step (fail))
          refine wpQuiet_nil ?_
          clear ru0 ra3 ra9 rm0 rm1 u00 ml a2 a6 a10
          have hBd : Below W7.heap.size W7 W7.drew := (Below.refl _ _).drew
          generalize W7.drew = wj at *
          have HKj : Hid (RelK w3.heap.size B7 W0 x1 wj) := HK7.out.below hBd
          have HMj : Hid (Blk wj BM 55 4 (fun j => (#[.int .i64 (g : Int), .int .i64 (f : Int), .int .i64 (b : Int), .int .i64 N] : Array Value).getD j default)) := HMB.out.below hBd
          have gB := (HKj.out.own.rowBlk x1f a4).2
          have b1 := gB.lt
          have b2 := gB.frozen g
          have b3 := gB.cell x1fg
          have HK8 : Hid (RelK w3.heap.size B7 W0 (setOn x1 f g ((x1.on.r f).z g - n)) (wj.setCell ⟨G, g, none⟩ (.int .i64 ((x1.on.r f).z g - n)))) := HKj.out.setOn A2 x1f a4 g _
          have HMB : Hid (Blk (wj.setCell ⟨G, g, none⟩ (.int .i64 ((x1.on.r f).z g - n))) BM 55 4 (fun j => (#[.int .i64 (g : Int), .int .i64 (f : Int), .int .i64 (b : Int), .int .i64 N] : Array Value).getD j default)) := HMj.out.other (a := ⟨G, g, none⟩) (Blk.ne2 HMj.out gB (by decide)) _
          clear hBd gB HK7 HKj HMj a4 a5 a7 a8 a11 a12
          refine wpOp_one 13 rfl ?_
          go_wp2_with fail
          refine NoPanic.normal ?_
          clear b1 b2 b3 r0 r1 r2 r3
          generalize wj.setCell ⟨G, g, none⟩ (.int .i64 ((x1.on.r f).z g - n)) = W8 at *
          go_wp2_with fail
          generalize hx2 : setOn x1 f g ((x1.on.r f).z g - n) = x2 at *
          have HX2 : Hid (setOn x1 f g ((x1.on.r f).z g - n) = x2) := hx2
          have x2b : b < x2.on.n := by rw [← hx2]; exact x1b
          have x2bg : g < (x2.on.r b).n := by rw [← hx2, setOn_len]; exact x1bg
          have x2v : Hid ((x2.on.r b).z g = (x1.on.r b).z g) := by show (x2.on.r b).z g = _; rw [← hx2, setOn_num, if_neg (fun e => hne e.1.symm)]
          have wb2 : 0 ≤ (x2.on.r b).z g ∧ (x2.on.r b).z g ≤ 200 := by rw [x2v.out]; exact wb
          clear hx2
          obtain ⟨g0, G, a1, a2, a3, a4, a5, a6, a7, a8, a9, a10, a11, a12⟩ := HK8.out.own.onCell x2b x2bg
          have u0 : W8.cell? ⟨B7, 0, none⟩ = some (.slice x2.on.a x2.on.n x2.on.c) := HK8.out.box.cell (j := 0) (by decide)
          have u00 := HK8.out.box.lt
          rw [a1] at u0
          unfold maxLen at a8 a12
          have m0 : W8.cell? ⟨BM, 0, none⟩ = some (.int .i64 g) := HMB.out.cell (j := 0) (by decide)
          have m1 : W8.cell? ⟨BM, 2, none⟩ = some (.int .i64 b) := HMB.out.cell (j := 2) (by decide)
          have ml := HMB.out.lt
          have r0 : (0 : Int) ≤ (b : Int) := by omega
          have r1 : (b : Int) < (x2.on.n : Int) := by omega
          have r2 : (0 : Int) ≤ (g : Int) := by omega
          have r3 : (g : Int) < ((x2.on.r b).n : Int) := by omega
          have ru0 := fun d os => cell_regrown u0 d os
          have ra3 := fun d os => cell_regrown a3 d os
          have ra9 := fun d os => cell_regrown a9 d os
          have rm0 := fun d os => cell_regrown m0 d os
          have rm1 := fun d os => cell_regrown m1 d os
          clear u0 a1 a3 a9 m0 m1
          refine wp_region_ph [(true, [0, 1, 2, 3, 4, 5, 6, 7, 8, 9, 10, 11, 12], some 13)] (by kernel_rfl) (by kernel_rfl) (by kernel_rfl) (by kernel_rfl) (by kernel_rfl) ?_
          refine ⟨fun w' => ∃ p : Regrown, w' = grow (redrawn W8 p.d) p.os, regrown_of_below ((Below.refl _ _).drew), fun h => (by cases h), ?_⟩
          simp only [picks, List.drop_succ_cons, List.drop_zero, List.take_succ_cons, List.take_zero, List.cons_append, List.nil_append]
          repeat (go_big_quiet_step (fail))
          refine wpQuiet_nil ?_
          clear ru0 ra3 ra9 rm0 rm1 u00 ml a2 a6 a10
          have hBd : Below W8.heap.size W8 W8.drew := (Below.refl _ _).drew
          generalize W8.drew = wj at *
          have HKj : Hid (RelK w3.heap.size B7 W0 x2 wj) := HK8.out.below hBd
          have HMj : Hid (Blk wj BM 55 4 (fun j => (#[.int .i64 (g : Int), .int .i64 (f : Int), .int .i64 (b : Int), .int .i64 N] : Array Value).getD j default)) := HMB.out.below hBd
          have gB := (HKj.out.own.rowBlk x2b a4).2
          have b1 := gB.lt
          have b2 := gB.frozen g
          have b3 := gB.cell x2bg
          have HK9 : Hid (RelK w3.heap.size B7 W0 (setOn x2 b g ((x2.on.r b).z g + n)) (wj.setCell ⟨G, g, none⟩ (.int .i64 ((x2.on.r b).z g + n)))) := HKj.out.setOn A2 x2b a4 g _
          have HMB : Hid (Blk (wj.setCell ⟨G, g, none⟩ (.int .i64 ((x2.on.r b).z g + n))) BM 55 4 (fun j => (#[.int .i64 (g : Int), .int .i64 (f : Int), .int .i64 (b : Int), .int .i64 N] : Array Value).getD j default)) := HMj.out.other (a := ⟨G, g, none⟩) (Blk.ne2 HMj.out gB (by decide)) _
          clear hBd gB HK8 HKj HMj a4 a5 a7 a8 a11 a12
          refine wpOp_one 13 rfl ?_
          go_wp2_with fail
          refine NoPanic.normal ?_
          clear b1 b2 b3 r0 r1 r2 r3
          generalize wj.setCell ⟨G, g, none⟩ (.int .i64 ((x2.on.r b).z g + n)) = W9 at *
          generalize hx3 : setOn x2 b g ((x2.on.r b).z g + n) = x3 at *
          have HSM : Hid (SameT x3 (movedT s i n)) := by
            have h := movedW_same HI.out HS0.out (q := delM x0.ms i) (by show x0.ms.n - 1 = _; rw [HS0.out.ms.1]) (fun j hj => by
              have hj' : j < x0.ms.n - 1 := hj
              show (if j < i then x0.ms.z j else x0.ms.z (j + 1)) = if j < i then s.ms.z j else s.ms.z (j + 1)
              rw [HS0.out.ms.2 j (by omega), HS0.out.ms.2 (j + 1) (by omega)])
            have e : movedW x0 (delM x0.ms i) f b g n = x3 := by
              unfold movedW
              rw [← hx3, x2v.out, ← HX2.out, ← HX1.out]
              rfl
            rw [e] at h
            exact h
          clear hx3 x2v
          obtain ⟨m1, p0, p1, p2, p3, p4, p5, p6⟩ := Boxed.of HK9.out.box
          obtain ⟨-, -, -, hBw, hz⟩ := HC.out W9 HK9.out.bel
          have HZ : Hid (Below w.heap.size w W9 ∧ Blk W9 (w.heap.size + 2) 31 7 (fun _ => .slice .none 0 0)) := ⟨hBw, hz⟩
          have zl := hz.lt
          have zf0 := hz.frozen 0
          have zc0 := hz.cell (j := 0) (by decide)
          have zf1 := hz.frozen 1
          have zc1 := hz.cell (j := 1) (by decide)
          have zf2 := hz.frozen 2
          have zc2 := hz.cell (j := 2) (by decide)
          have zf3 := hz.frozen 3
          have zc3 := hz.cell (j := 3) (by decide)
          have zf4 := hz.frozen 4
          have zc4 := hz.cell (j := 4) (by decide)
          have zf5 := hz.frozen 5
          have zc5 := hz.cell (j := 5) (by decide)
          have zf6 := hz.frozen 6
          have zc6 := hz.cell (j := 6) (by decide)
          have hlow := (HC.out _ (Below.refl _ _)).2.2.2.1.size
          clear hBw hz x0m x0f x0b x0fg x0bg x1f x1b x1fg x1bg wf wb x2b x2bg wb2 u1 u2 u3 u4 u5 u6 q0 q1 q2 q3 q4 q5 q6 rn hZB hi onn nn hgn hfn hbn hne hbml HMB HX1 HX2 msl msc0 msn0 msc msn leb capb0 les caps0 capb caps
          go_wp2_with fail
          have KZ := set7_blk HZ.out.2 (.slice x3.on.a x3.on.n x3.on.c) (.slice x3.os.a x3.os.n x3.os.c) (.slice x3.hs.a x3.hs.n x3.hs.c) (.slice x3.ms.a x3.ms.n x3.ms.c) (.slice x3.si.a x3.si.n x3.si.c) (.slice x3.so.a x3.so.n x3.so.c) (.slice x3.sf.a x3.sf.n x3.sf.c)
          have hbz := set7_below (b := w.heap.size + 2) HZ.out.1 (by omega) (.slice x3.on.a x3.on.n x3.on.c) (.slice x3.os.a x3.os.n x3.os.c) (.slice x3.hs.a x3.hs.n x3.hs.c) (.slice x3.ms.a x3.ms.n x3.ms.c) (.slice x3.si.a x3.si.n x3.si.c) (.slice x3.so.a x3.so.n x3.so.c) (.slice x3.sf.a x3.sf.n x3.sf.c)
          have hOz := OwnS.set7 HK9.out.own HZ.out.2 (.slice x3.on.a x3.on.n x3.on.c) (.slice x3.os.a x3.os.n x3.os.c) (.slice x3.hs.a x3.hs.n x3.hs.c) (.slice x3.ms.a x3.ms.n x3.ms.c) (.slice x3.si.a x3.si.n x3.si.c) (.slice x3.so.a x3.so.n x3.so.c) (.slice x3.sf.a x3.sf.n x3.sf.c)
          unfold set7 at KZ hbz hOz
          obtain ⟨c0', c1', c2', c3', c4', c5', c6'⟩ := box_cells KZ
          refine bodyPost_ret (v := .tuple #[x3.val, .int .i64 0]) (by simp [results, Try.results14, go_sem, St.val, c0', c1', c2', c3', c4', c5', c6']) rfl ?_
          exact ⟨x3, by rw [HX.out]; rfl, hOz.at, ⟨fun _ => HSM.out, fun h => absurd HX.out h⟩, fun _ => hOz.mono (by omega), hbz⟩
  · have HX : Hid (movedE p s k n = stateE p s) := movedE_state h0
    have HNE : Hid (¬ movedE p s k n = 0) := by show ¬ _; rw [movedE_state h0]; exact h0
    have g0 : (stateE p s != 0) = true := by simpa using h0
    clear h0
    clear hpk hsk
    have zl := hz.lt
    have zf0 := hz.frozen 0
    have zc0 := hz.cell (j := 0) (by decide)
    have zf1 := hz.frozen 1
    have zc1 := hz.cell (j := 1) (by decide)
    have zf2 := hz.frozen 2
    have zc2 := hz.cell (j := 2) (by decide)
    have zf3 := hz.frozen 3
    have zc3 := hz.cell (j := 3) (by decide)
    have zf4 := hz.frozen 4
    have zc4 := hz.cell (j := 4) (by decide)
    have zf5 := hz.frozen 5
    have zc5 := hz.cell (j := 5) (by decide)
    have zf6 := hz.frozen 6
    have zc6 := hz.cell (j := 6) (by decide)
    go_wp2_with fail
    have KZ := set7_blk hz (.slice .none 0 0) (.slice .none 0 0) (.slice .none 0 0) (.slice .none 0 0) (.slice .none 0 0) (.slice .none 0 0) (.slice .none 0 0)
    have hbz := set7_below (b := w.heap.size + 2) hBw (by omega) (.slice .none 0 0) (.slice .none 0 0) (.slice .none 0 0) (.slice .none 0 0) (.slice .none 0 0) (.slice .none 0 0) (.slice .none 0 0)
    unfold set7 at KZ hbz
    obtain ⟨c0', c1', c2', c3', c4', c5', c6'⟩ := box_cells KZ
    refine bodyPost_ret (v := .tuple #[noneS.val, .int .i64 (stateE p s)]) (by simp [results, Try.results14, go_sem, noneS, St.val, c0', c1', c2', c3', c4', c5', c6']) rfl ?_
    exact ⟨noneS, by rw [HX.out]; rfl, noneS_at _, ⟨fun h => absurd h (HNE.out), fun _ => ⟨rfl, rfl, rfl, rfl, rfl, rfl, rfl⟩⟩, fun h => absurd h (HNE.out), hbz⟩
end Go.Proofs.Ytbcacebifpagpae
namespace Go.Proofs.Ytbcacebifpagpae
open Go.RowKit Go.Shelf Go.Sort
set_option linter.unusedVariables false
def fillOn (g i : Nat) : Rw := ⟨some ⟨g + i, 0, none⟩, 2, 2, fun j => if j = 0 then 0 else if i = 1 then 1 else 9⟩
def fillLit (g : Nat) : St := ⟨⟨some ⟨g + 1 + 1 + 1, 0, none⟩, 3, 3, fillOn g⟩, ⟨none, 0, 0, fun _ => ⟨0, ⟨none, 0, 0, fun _ => ⟨0, 0, 0, 0⟩⟩⟩⟩, ⟨none, 0, 0, fun _ => ⟨0, 0, 0, 0⟩⟩, ⟨none, 0, 0, fun _ => ⟨0, 0, 0, 0⟩⟩, ⟨some ⟨g + 1 + 1 + 1 + 1, 0, none⟩, 2, 2, fun j => if j = 0 then 0 else 19⟩, ⟨some ⟨g + 1 + 1 + 1 + 1 + 1, 0, none⟩, 2, 2, fun _ => 0⟩, ⟨some ⟨g + 1 + 1 + 1 + 1 + 1 + 1, 0, none⟩, 2, 2, fun _ => 0⟩⟩
theorem fillLit_at (w : World) : (fillLit w.heap.size).At (((((((w.alloc (.cells #[.int .i64 0, .int .i64 9] 3)).alloc (.cells #[.int .i64 0, .int .i64 1] 3)).alloc (.cells #[.int .i64 0, .int .i64 9] 3)).alloc (.cells #[.slice (some ⟨w.heap.size, 0, none⟩) 2 2, .slice (some ⟨w.heap.size + 1, 0, none⟩) 2 2, .slice (some ⟨w.heap.size + 1 + 1, 0, none⟩) 2 2] 23)).alloc (.cells #[.int .i64 0, .int .i64 19] 3)).alloc (.cells #[.int .i64 0, .int .i64 0] 3)).alloc (.cells #[.int .i64 0, .int .i64 0] 3)) := by
  have hB : ∀ (X : World) (o : Obj), Below X.heap.size X (X.alloc o) := fun X o => (Below.refl _ _).alloc (Nat.le_refl _) o
  generalize hg : w.heap.size = g
  obtain ⟨X0, e0⟩ : ∃ X, w.alloc (.cells #[.int .i64 0, .int .i64 9] 3) = X := ⟨_, rfl⟩
  have s0 : X0.heap.size = g + 1 := by rw [← e0, ← hg]; simp
  have k0 : Blk X0 g 3 2 (fun j => (#[.int .i64 0, .int .i64 9] : Array Value).getD j default) := by rw [← e0]; exact Blk.mk' hg.symm rfl
  rw [e0]
  obtain ⟨X1, e1⟩ : ∃ X, X0.alloc (.cells #[.int .i64 0, .int .i64 1] 3) = X := ⟨_, rfl⟩
  have s1 : X1.heap.size = g + 1 + 1 := by rw [← e1]; simp [s0]
  have k1 : Blk X1 (g + 1) 3 2 (fun j => (#[.int .i64 0, .int .i64 1] : Array Value).getD j default) := by rw [← e1]; exact Blk.mk' s0.symm rfl
  have b1 : Below X0.heap.size X0 X1 := by rw [← e1]; exact hB _ _
  have k0 := k0.below b1
  rw [e1]
  obtain ⟨X2, e2⟩ : ∃ X, X1.alloc (.cells #[.int .i64 0, .int .i64 9] 3) = X := ⟨_, rfl⟩
  have s2 : X2.heap.size = g + 1 + 1 + 1 := by rw [← e2]; simp [s1]
  have k2 : Blk X2 (g + 1 + 1) 3 2 (fun j => (#[.int .i64 0, .int .i64 9] : Array Value).getD j default) := by rw [← e2]; exact Blk.mk' s1.symm rfl
  have b2 : Below X1.heap.size X1 X2 := by rw [← e2]; exact hB _ _
  have k0 := k0.below b2
  have k1 := k1.below b2
  rw [e2]
  obtain ⟨X3, e3⟩ : ∃ X, X2.alloc (.cells #[.slice (some ⟨g, 0, none⟩) 2 2, .slice (some ⟨g + 1, 0, none⟩) 2 2, .slice (some ⟨g + 1 + 1, 0, none⟩) 2 2] 23) = X := ⟨_, rfl⟩
  have s3 : X3.heap.size = g + 1 + 1 + 1 + 1 := by rw [← e3]; simp [s2]
  have k3 : Blk X3 (g + 1 + 1 + 1) 23 3 (fun j => (#[.slice (some ⟨g, 0, none⟩) 2 2, .slice (some ⟨g + 1, 0, none⟩) 2 2, .slice (some ⟨g + 1 + 1, 0, none⟩) 2 2] : Array Value).getD j default) := by rw [← e3]; exact Blk.mk' s2.symm rfl
  have b3 : Below X2.heap.size X2 X3 := by rw [← e3]; exact hB _ _
  have k0 := k0.below b3
  have k1 := k1.below b3
  have k2 := k2.below b3
  rw [e3]
  obtain ⟨X4, e4⟩ : ∃ X, X3.alloc (.cells #[.int .i64 0, .int .i64 19] 3) = X := ⟨_, rfl⟩
  have s4 : X4.heap.size = g + 1 + 1 + 1 + 1 + 1 := by rw [← e4]; simp [s3]
  have k4 : Blk X4 (g + 1 + 1 + 1 + 1) 3 2 (fun j => (#[.int .i64 0, .int .i64 19] : Array Value).getD j default) := by rw [← e4]; exact Blk.mk' s3.symm rfl
  have b4 : Below X3.heap.size X3 X4 := by rw [← e4]; exact hB _ _
  have k0 := k0.below b4
  have k1 := k1.below b4
  have k2 := k2.below b4
  have k3 := k3.below b4
  rw [e4]
  obtain ⟨X5, e5⟩ : ∃ X, X4.alloc (.cells #[.int .i64 0, .int .i64 0] 3) = X := ⟨_, rfl⟩
  have s5 : X5.heap.size = g + 1 + 1 + 1 + 1 + 1 + 1 := by rw [← e5]; simp [s4]
  have k5 : Blk X5 (g + 1 + 1 + 1 + 1 + 1) 3 2 (fun j => (#[.int .i64 0, .int .i64 0] : Array Value).getD j default) := by rw [← e5]; exact Blk.mk' s4.symm rfl
  have b5 : Below X4.heap.size X4 X5 := by rw [← e5]; exact hB _ _
  have k0 := k0.below b5
  have k1 := k1.below b5
  have k2 := k2.below b5
  have k3 := k3.below b5
  have k4 := k4.below b5
  rw [e5]
  obtain ⟨X6, e6⟩ : ∃ X, X5.alloc (.cells #[.int .i64 0, .int .i64 0] 3) = X := ⟨_, rfl⟩
  have s6 : X6.heap.size = g + 1 + 1 + 1 + 1 + 1 + 1 + 1 := by rw [← e6]; simp [s5]
  have k6 : Blk X6 (g + 1 + 1 + 1 + 1 + 1 + 1) 3 2 (fun j => (#[.int .i64 0, .int .i64 0] : Array Value).getD j default) := by rw [← e6]; exact Blk.mk' s5.symm rfl
  have b6 : Below X5.heap.size X5 X6 := by rw [← e6]; exact hB _ _
  have k0 := k0.below b6
  have k1 := k1.below b6
  have k2 := k2.below b6
  have k3 := k3.below b6
  have k4 := k4.below b6
  have k5 := k5.below b6
  rw [e6]
  refine ⟨⟨Nat.le_refl _, le_max (n := 3) (by decide), fun i hi => ?_⟩, ⟨Nat.le_refl _, Nat.zero_le _, fun i hi => absurd hi (Nat.not_lt_zero _)⟩, Hs.none _, Hs.none _, two_at k4 rfl rfl, two_at k5 rfl rfl, two_at k6 rfl rfl⟩
  have hi' : i < 3 := hi
  refine ⟨g + 1 + 1 + 1, 0, rfl, k3.lt, ?_⟩
  match i, hi' with
  | 0, _ => exact ⟨k3.cell (j := 0) (by decide), two_at k0 rfl rfl⟩
  | 1, _ => exact ⟨k3.cell (j := 1) (by decide), two_at k1 rfl rfl⟩
  | 2, _ => exact ⟨k3.cell (j := 2) (by decide), two_at k2 rfl rfl⟩
theorem fillLit_below (w : World) : Below w.heap.size w (((((((w.alloc (.cells #[.int .i64 0, .int .i64 9] 3)).alloc (.cells #[.int .i64 0, .int .i64 1] 3)).alloc (.cells #[.int .i64 0, .int .i64 9] 3)).alloc (.cells #[.slice (some ⟨w.heap.size, 0, none⟩) 2 2, .slice (some ⟨w.heap.size + 1, 0, none⟩) 2 2, .slice (some ⟨w.heap.size + 1 + 1, 0, none⟩) 2 2] 23)).alloc (.cells #[.int .i64 0, .int .i64 19] 3)).alloc (.cells #[.int .i64 0, .int .i64 0] 3)).alloc (.cells #[.int .i64 0, .int .i64 0] 3)) :=
  ((((((((Below.refl _ _).alloc (Nat.le_refl _) _).alloc (by simp) _).alloc (by simp; omega) _).alloc (by simp; omega) _).alloc (by simp; omega) _).alloc (by simp; omega) _).alloc (by simp; omega) _)
theorem movedBusy (g1 g2 g : Nat) : movedE (yardP g1 g2) (busyS g 2 0) 0 4 = 0 ∧ movedE (yardP g1 g2) (busyS g 2 0) 1 0 = 4 ∧ movedE (yardP g1 g2) (busyS g 2 0) 0 6 = 3 ∧ stateE (yardP g1 g2) (fillLit g) = 0 := ⟨by kernel_rfl, by kernel_rfl, by kernel_rfl, by kernel_rfl⟩
def FillA (x : St) : Prop := x.ms.n = 1 ∧ x.os.n = 2
theorem FillA_mk {g1 g2 g : Nat} {x : St} (h : ActOK (stateE (yardP g1 g2) (busyS g 2 0)) (fillT (yardP g1 g2) (busyS g 2 0)) x) : FillA x := by
  have e : SameT x (fillT (yardP g1 g2) (busyS g 2 0)) := h.1 (busyE g1 g2 g).1
  have a1 : x.ms.n = 1 := by rw [e.ms.1]; kernel_rfl
  have a2 : x.os.n = 2 := by rw [e.os.1]; kernel_rfl
  exact ⟨a1, a2⟩
def FillB (y : St) : Prop := 0 < y.on.n ∧ 0 < (y.on.r 0).n ∧ (y.on.r 0).z 0 = 5 ∧ 1 < y.on.n ∧ 0 < (y.on.r 1).n ∧ (y.on.r 1).z 0 = 7 ∧ y.ms.n = 0
theorem FillB_mk {g1 g2 g : Nat} {y : St} (h : ActOK (movedE (yardP g1 g2) (busyS g 2 0) 0 4) (movedT (busyS g 2 0) (0 : Int).toNat 4) y) : FillB y := by
  have e : SameT y (movedT (busyS g 2 0) 0 4) := h.1 (movedBusy g1 g2 g).1
  have a1 : 0 < y.on.n := by rw [e.on.1]; exact of_decide_eq_true (by kernel_rfl)
  have b1 : 0 < (y.on.r 0).n := by rw [(e.on.2 0 a1).1]; exact of_decide_eq_true (by kernel_rfl)
  have c1 : (y.on.r 0).z 0 = 5 := by rw [(e.on.2 0 a1).2 0 b1]; kernel_rfl
  have a2 : 1 < y.on.n := by rw [e.on.1]; exact of_decide_eq_true (by kernel_rfl)
  have b2 : 0 < (y.on.r 1).n := by rw [(e.on.2 1 a2).1]; exact of_decide_eq_true (by kernel_rfl)
  have c2 : (y.on.r 1).z 0 = 7 := by rw [(e.on.2 1 a2).2 0 b2]; kernel_rfl
  have a3 : y.ms.n = 0 := by rw [e.ms.1]; kernel_rfl
  exact ⟨a1, b1, c1, a2, b2, c2, a3⟩
def FillC (z : St) : Prop := z.ms.n = 1 ∧ 0 < z.ms.n ∧ z.ms.z 0 = ⟨1, 0, 1, 7⟩
theorem FillC_mk {g1 g2 g : Nat} {z : St} (h : ActOK (stateE (yardP g1 g2) (fillLit g)) (fillT (yardP g1 g2) (fillLit g)) z) : FillC z := by
  have e : SameT z (fillT (yardP g1 g2) (fillLit g)) := h.1 (movedBusy g1 g2 g).2.2.2
  have a1 : z.ms.n = 1 := by rw [e.ms.1]; kernel_rfl
  have a2 : 0 < z.ms.n := by rw [e.ms.1]; exact of_decide_eq_true (by kernel_rfl)
  have b2 : z.ms.z 0 = ⟨1, 0, 1, 7⟩ := by rw [e.ms.2 0 a2]; kernel_rfl
  exact ⟨a1, a2, b2⟩
set_option maxRecDepth 100000 in
set_option maxHeartbeats 8000000 in
theorem fillBegun_any (w : World) :
    Calls Try.prog 17 #[] w fun e w' => e = .returned (.bool true) ∧ Below w.heap.size w w' := by
  go_enter Try.func17, Try.ntmps17
  have HB : Hid (Below w.heap.size w w) := Below.refl _ _
  go_wp2_with fail
  refine (yard_any _).mono ?_
  rintro e wa ⟨g1, g2, rfl, -, -, k1, k2, hA⟩
  go_wp2_with fail
  refine (busy_any _).mono ?_
  rintro e wb ⟨g, rfl, -, bb, hB⟩
  have hD := hA.trans (hB.mono hA.size)
  have HAT : Hid ((yardP g1 g2).At wb ∧ (busyS g 2 0).At wb) := ⟨yardAt (k1.below hB) (k2.below hB), busyAt bb⟩
  clear hA hB k1 k2 bb
  simp only [busyS, St.val]
  go_wp2_with fail
  refine (Fill_any (yardP g1 g2) (busyS g 2 0) wb HAT.out.1 HAT.out.2).mono ?_
  rintro e w1 ⟨x, rfl, atx, okx, -, hB⟩
  have hE := hD.trans (hB.mono hD.size)
  rw [(busyE g1 g2 g).1]
  have HPx : Hid (FillA x) := FillA_mk okx
  clear hD hB HAT okx
  obtain ⟨V0, hW, hWB, K1⟩ : ∃ W, w1.alloc (.cells #[.slice x.on.a x.on.n x.on.c, .slice x.os.a x.os.n x.os.c, .slice x.hs.a x.hs.n x.hs.c, .slice x.ms.a x.ms.n x.ms.c, .slice x.si.a x.si.n x.si.c, .slice x.so.a x.so.n x.so.c, .slice x.sf.a x.sf.n x.sf.c] 31) = W ∧ Below w1.heap.size w1 W ∧ Blk W w1.heap.size 31 7 (fun j => x.cells.getD j default) := ⟨_, rfl, (Below.refl _ _).alloc (Nat.le_refl _) _, Blk.mk' rfl rfl⟩
  have HW : Hid (w1.alloc (.cells #[.slice x.on.a x.on.n x.on.c, .slice x.os.a x.os.n x.os.c, .slice x.hs.a x.hs.n x.hs.c, .slice x.ms.a x.ms.n x.ms.c, .slice x.si.a x.si.n x.si.c, .slice x.so.a x.so.n x.so.c, .slice x.sf.a x.sf.n x.sf.c] 31) = V0) := hW
  have hE := hE.trans (hWB.mono hE.size)
  have HB : Hid (Below w.heap.size w V0) := HB.out.trans (hE.mono HB.out.size)
  have Hx : Hid (x.At V0 ∧ Blk V0 w1.heap.size 31 7 (fun j => x.cells.getD j default)) := ⟨atx.below hWB, K1⟩
  clear atx
  clear hW K1 hWB hE
  simp only [St.val]
  go_wp2_with fail
  rw [HW.out]
  clear HW
  generalize w1.heap.size = Bx at *
  refine (yard_any _).mono ?_
  rintro e wa ⟨g1, g2, rfl, -, -, k1, k2, hA⟩
  go_wp2_with fail
  refine (busy_any _).mono ?_
  rintro e wb ⟨g, rfl, -, bb, hB⟩
  have hD := hA.trans (hB.mono hA.size)
  have HAT : Hid ((yardP g1 g2).At wb ∧ (busyS g 2 0).At wb) := ⟨yardAt (k1.below hB) (k2.below hB), busyAt bb⟩
  clear hA hB k1 k2 bb
  simp only [busyS, St.val]
  go_wp2_with fail
  refine (Moved_any (yardP g1 g2) (busyS g 2 0) 0 4 wb HAT.out.1 HAT.out.2).mono ?_
  rintro e w2 ⟨y, rfl, aty, oky, -, hB⟩
  have hE := hD.trans (hB.mono hD.size)
  rw [(movedBusy g1 g2 g).1]
  have HPy : Hid (FillB y) := FillB_mk oky
  clear hD hB HAT oky
  obtain ⟨V1, hW, hWB, K1⟩ : ∃ W, w2.alloc (.cells #[.slice y.on.a y.on.n y.on.c, .slice y.os.a y.os.n y.os.c, .slice y.hs.a y.hs.n y.hs.c, .slice y.ms.a y.ms.n y.ms.c, .slice y.si.a y.si.n y.si.c, .slice y.so.a y.so.n y.so.c, .slice y.sf.a y.sf.n y.sf.c] 31) = W ∧ Below w2.heap.size w2 W ∧ Blk W w2.heap.size 31 7 (fun j => y.cells.getD j default) := ⟨_, rfl, (Below.refl _ _).alloc (Nat.le_refl _) _, Blk.mk' rfl rfl⟩
  have HW : Hid (w2.alloc (.cells #[.slice y.on.a y.on.n y.on.c, .slice y.os.a y.os.n y.os.c, .slice y.hs.a y.hs.n y.hs.c, .slice y.ms.a y.ms.n y.ms.c, .slice y.si.a y.si.n y.si.c, .slice y.so.a y.so.n y.so.c, .slice y.sf.a y.sf.n y.sf.c] 31) = V1) := hW
  have hE := hE.trans (hWB.mono hE.size)
  have HB : Hid (Below w.heap.size w V1) := HB.out.trans (hE.mono HB.out.size)
  have Hx : Hid (x.At V1 ∧ Blk V1 Bx 31 7 (fun j => x.cells.getD j default)) := ⟨Hx.out.1.below hE, Hx.out.2.below hE⟩
  have Hy : Hid (y.At V1 ∧ Blk V1 w2.heap.size 31 7 (fun j => y.cells.getD j default)) := ⟨aty.below hWB, K1⟩
  clear aty
  clear hW K1 hWB hE
  simp only [St.val]
  go_wp2_with fail
  rw [HW.out]
  clear HW
  generalize w2.heap.size = By at *
  refine (yard_any _).mono ?_
  rintro e wa ⟨g1, g2, rfl, -, -, k1, k2, hA⟩
  go_wp2_with fail
  refine (busy_any _).mono ?_
  rintro e wb ⟨g, rfl, -, bb, hB⟩
  have hD := hA.trans (hB.mono hA.size)
  have HAT : Hid ((yardP g1 g2).At wb ∧ (busyS g 2 0).At wb) := ⟨yardAt (k1.below hB) (k2.below hB), busyAt bb⟩
  clear hA hB k1 k2 bb
  simp only [busyS, St.val]
  go_wp2_with fail
  refine (Moved_any (yardP g1 g2) (busyS g 2 0) 1 0 wb HAT.out.1 HAT.out.2).mono ?_
  rintro e w3 ⟨u, rfl, -, -, -, hB⟩
  have hE := hD.trans (hB.mono hD.size)
  rw [(movedBusy g1 g2 g).2.1]
  clear hD hB HAT
  obtain ⟨V2, hW, hWB, K1⟩ : ∃ W, w3.alloc (.cells #[.slice u.on.a u.on.n u.on.c, .slice u.os.a u.os.n u.os.c, .slice u.hs.a u.hs.n u.hs.c, .slice u.ms.a u.ms.n u.ms.c, .slice u.si.a u.si.n u.si.c, .slice u.so.a u.so.n u.so.c, .slice u.sf.a u.sf.n u.sf.c] 31) = W ∧ Below w3.heap.size w3 W ∧ Blk W w3.heap.size 31 7 (fun j => u.cells.getD j default) := ⟨_, rfl, (Below.refl _ _).alloc (Nat.le_refl _) _, Blk.mk' rfl rfl⟩
  have HW : Hid (w3.alloc (.cells #[.slice u.on.a u.on.n u.on.c, .slice u.os.a u.os.n u.os.c, .slice u.hs.a u.hs.n u.hs.c, .slice u.ms.a u.ms.n u.ms.c, .slice u.si.a u.si.n u.si.c, .slice u.so.a u.so.n u.so.c, .slice u.sf.a u.sf.n u.sf.c] 31) = V2) := hW
  have hE := hE.trans (hWB.mono hE.size)
  have HB : Hid (Below w.heap.size w V2) := HB.out.trans (hE.mono HB.out.size)
  have Hx : Hid (x.At V2 ∧ Blk V2 Bx 31 7 (fun j => x.cells.getD j default)) := ⟨Hx.out.1.below hE, Hx.out.2.below hE⟩
  have Hy : Hid (y.At V2 ∧ Blk V2 By 31 7 (fun j => y.cells.getD j default)) := ⟨Hy.out.1.below hE, Hy.out.2.below hE⟩
  clear hW K1 hWB hE
  simp only [St.val]
  go_wp2_with fail
  rw [HW.out]
  clear HW
  generalize w3.heap.size = Bu at *
  refine (yard_any _).mono ?_
  rintro e wa ⟨g1, g2, rfl, -, -, k1, k2, hA⟩
  go_wp2_with fail
  refine (busy_any _).mono ?_
  rintro e wb ⟨g, rfl, -, bb, hB⟩
  have hD := hA.trans (hB.mono hA.size)
  have HAT : Hid ((yardP g1 g2).At wb ∧ (busyS g 2 0).At wb) := ⟨yardAt (k1.below hB) (k2.below hB), busyAt bb⟩
  clear hA hB k1 k2 bb
  simp only [busyS, St.val]
  go_wp2_with fail
  refine (Moved_any (yardP g1 g2) (busyS g 2 0) 0 6 wb HAT.out.1 HAT.out.2).mono ?_
  rintro e w4 ⟨v, rfl, -, -, -, hB⟩
  have hE := hD.trans (hB.mono hD.size)
  rw [(movedBusy g1 g2 g).2.2.1]
  clear hD hB HAT
  obtain ⟨V3, hW, hWB, K1⟩ : ∃ W, w4.alloc (.cells #[.slice v.on.a v.on.n v.on.c, .slice v.os.a v.os.n v.os.c, .slice v.hs.a v.hs.n v.hs.c, .slice v.ms.a v.ms.n v.ms.c, .slice v.si.a v.si.n v.si.c, .slice v.so.a v.so.n v.so.c, .slice v.sf.a v.sf.n v.sf.c] 31) = W ∧ Below w4.heap.size w4 W ∧ Blk W w4.heap.size 31 7 (fun j => v.cells.getD j default) := ⟨_, rfl, (Below.refl _ _).alloc (Nat.le_refl _) _, Blk.mk' rfl rfl⟩
  have HW : Hid (w4.alloc (.cells #[.slice v.on.a v.on.n v.on.c, .slice v.os.a v.os.n v.os.c, .slice v.hs.a v.hs.n v.hs.c, .slice v.ms.a v.ms.n v.ms.c, .slice v.si.a v.si.n v.si.c, .slice v.so.a v.so.n v.so.c, .slice v.sf.a v.sf.n v.sf.c] 31) = V3) := hW
  have hE := hE.trans (hWB.mono hE.size)
  have HB : Hid (Below w.heap.size w V3) := HB.out.trans (hE.mono HB.out.size)
  have Hx : Hid (x.At V3 ∧ Blk V3 Bx 31 7 (fun j => x.cells.getD j default)) := ⟨Hx.out.1.below hE, Hx.out.2.below hE⟩
  have Hy : Hid (y.At V3 ∧ Blk V3 By 31 7 (fun j => y.cells.getD j default)) := ⟨Hy.out.1.below hE, Hy.out.2.below hE⟩
  clear hW K1 hWB hE
  simp only [St.val]
  go_wp2_with fail
  rw [HW.out]
  clear HW
  generalize w4.heap.size = Bv at *
  refine (yard_any _).mono ?_
  rintro e wa ⟨g1, g2, rfl, -, -, k1, k2, hA⟩
  obtain ⟨VL, hVL, hVB, at5⟩ : ∃ W, (((((((wa.alloc (.cells #[.int .i64 0, .int .i64 9] 3)).alloc (.cells #[.int .i64 0, .int .i64 1] 3)).alloc (.cells #[.int .i64 0, .int .i64 9] 3)).alloc (.cells #[.slice (some ⟨wa.heap.size, 0, none⟩) 2 2, .slice (some ⟨wa.heap.size + 1, 0, none⟩) 2 2, .slice (some ⟨wa.heap.size + 1 + 1, 0, none⟩) 2 2] 23)).alloc (.cells #[.int .i64 0, .int .i64 19] 3)).alloc (.cells #[.int .i64 0, .int .i64 0] 3)).alloc (.cells #[.int .i64 0, .int .i64 0] 3)) = W ∧ Below wa.heap.size wa W ∧ (fillLit wa.heap.size).At W := ⟨_, rfl, fillLit_below wa, fillLit_at wa⟩
  have HVL : Hid ((((((((wa.alloc (.cells #[.int .i64 0, .int .i64 9] 3)).alloc (.cells #[.int .i64 0, .int .i64 1] 3)).alloc (.cells #[.int .i64 0, .int .i64 9] 3)).alloc (.cells #[.slice (some ⟨wa.heap.size, 0, none⟩) 2 2, .slice (some ⟨wa.heap.size + 1, 0, none⟩) 2 2, .slice (some ⟨wa.heap.size + 1 + 1, 0, none⟩) 2 2] 23)).alloc (.cells #[.int .i64 0, .int .i64 19] 3)).alloc (.cells #[.int .i64 0, .int .i64 0] 3)).alloc (.cells #[.int .i64 0, .int .i64 0] 3)) = VL) := hVL
  have hD := hA.trans (hVB.mono hA.size)
  have HAT : Hid ((yardP g1 g2).At VL ∧ (fillLit wa.heap.size).At VL) := ⟨yardAt (k1.below hVB) (k2.below hVB), at5⟩
  clear hA hVB k1 k2 at5 hVL
  go_wp2_with fail
  rw [HVL.out]
  clear HVL
  generalize wa.heap.size = g at *
  refine (Fill_any (yardP g1 g2) (fillLit g) VL HAT.out.1 HAT.out.2).mono ?_
  rintro e w5 ⟨z, rfl, atz, okz, -, hB⟩
  have hE := hD.trans (hB.mono hD.size)
  rw [(movedBusy g1 g2 g).2.2.2]
  have HPz : Hid (FillC z) := FillC_mk okz
  clear hD hB HAT okz
  obtain ⟨V4, hW, hWB, K1⟩ : ∃ W, w5.alloc (.cells #[.slice z.on.a z.on.n z.on.c, .slice z.os.a z.os.n z.os.c, .slice z.hs.a z.hs.n z.hs.c, .slice z.ms.a z.ms.n z.ms.c, .slice z.si.a z.si.n z.si.c, .slice z.so.a z.so.n z.so.c, .slice z.sf.a z.sf.n z.sf.c] 31) = W ∧ Below w5.heap.size w5 W ∧ Blk W w5.heap.size 31 7 (fun j => z.cells.getD j default) := ⟨_, rfl, (Below.refl _ _).alloc (Nat.le_refl _) _, Blk.mk' rfl rfl⟩
  have HW : Hid (w5.alloc (.cells #[.slice z.on.a z.on.n z.on.c, .slice z.os.a z.os.n z.os.c, .slice z.hs.a z.hs.n z.hs.c, .slice z.ms.a z.ms.n z.ms.c, .slice z.si.a z.si.n z.si.c, .slice z.so.a z.so.n z.so.c, .slice z.sf.a z.sf.n z.sf.c] 31) = V4) := hW
  have hE := hE.trans (hWB.mono hE.size)
  have HB : Hid (Below w.heap.size w V4) := HB.out.trans (hE.mono HB.out.size)
  have Hx : Hid (x.At V4 ∧ Blk V4 Bx 31 7 (fun j => x.cells.getD j default)) := ⟨Hx.out.1.below hE, Hx.out.2.below hE⟩
  have Hy : Hid (y.At V4 ∧ Blk V4 By 31 7 (fun j => y.cells.getD j default)) := ⟨Hy.out.1.below hE, Hy.out.2.below hE⟩
  have Hz : Hid (z.At V4 ∧ Blk V4 w5.heap.size 31 7 (fun j => z.cells.getD j default)) := ⟨atz.below hWB, K1⟩
  clear atz
  clear hW K1 hWB hE
  obtain ⟨xm, xc0, xc1, xc2, xc3, xc4, xc5, xc6⟩ := Boxed.of Hx.out.2
  obtain ⟨xh0, xh1⟩ := HPx.out
  try rw [xh0] at xc3
  try rw [xh1] at xc1
  obtain ⟨ym, yc0, yc1, yc2, yc3, yc4, yc5, yc6⟩ := Boxed.of Hy.out.2
  obtain ⟨yh0, yh1, yh2, yh3, yh4, yh5, yh6⟩ := HPy.out
  obtain ⟨y1b, y1o, y1a, y1l, y1c, y1r⟩ := Hy.out.1.on.rows 0 yh0
  have Hy1a : Hid (y.on.a = some ⟨y1b, y1o, none⟩) := y1a
  rw [y1a] at yc0
  have y1u := Hy.out.1.on.le
  have y1v := Hy.out.1.on.cap
  unfold maxLen at y1v
  clear y1a
  obtain ⟨y1B, y1O, y1A, y1L, y1C⟩ := y1r.ints 0 yh1
  rw [y1A] at y1c
  rw [yh2] at y1C
  have y1x := y1r.le
  have y1y := y1r.cap
  unfold maxLen at y1y
  have y1N : (0 : Int) < ((y.on.r 0).n : Int) := by omega
  have y1M : (0 : Int) < (y.on.n : Int) := by omega
  clear y1A y1r
  obtain ⟨y2b, y2o, y2a, y2l, y2c, y2r⟩ := Hy.out.1.on.rows 1 yh3
  rw [Hy1a.out] at y2a
  simp only [Option.some.injEq, Addr.mk.injEq, and_true] at y2a
  obtain ⟨rfl, rfl⟩ := y2a
  obtain ⟨y2B, y2O, y2A, y2L, y2C⟩ := y2r.ints 0 yh4
  rw [y2A] at y2c
  rw [yh5] at y2C
  have y2x := y2r.le
  have y2y := y2r.cap
  unfold maxLen at y2y
  have y2N : (0 : Int) < ((y.on.r 1).n : Int) := by omega
  have y2M : (1 : Int) < (y.on.n : Int) := by omega
  clear y2A y2r
  try rw [yh6] at yc3
  try simp only [Nat.add_zero] at y1l y1c y1L y1C y2l y2c y2L y2C
  obtain ⟨zm, zc0, zc1, zc2, zc3, zc4, zc5, zc6⟩ := Boxed.of Hz.out.2
  obtain ⟨zh0, zh1, zh2⟩ := HPz.out
  obtain ⟨z2B, z2O, z2A, z2L, z2C0, z2C1, z2C2, z2C3⟩ := Hz.out.1.ms.hds 0 zh1
  rw [z2A] at zc3
  rw [zh2] at z2C0 z2C1 z2C2 z2C3
  dsimp only at z2C0 z2C1 z2C2 z2C3
  have z2x := Hz.out.1.ms.le
  have z2y := Hz.out.1.ms.cap
  unfold maxLen at z2y
  have z2N : (0 : Int) < (z.ms.n : Int) := by omega
  clear z2A
  try rw [zh0] at zc3
  try simp only [Nat.zero_mul, Nat.add_zero] at z2L z2C0 z2C1 z2C2 z2C3
  rw [zh0] at z2x
  clear zh0 zh1 z2N
  rw [← HW.out] at xm xc0 xc1 xc2 xc3 xc4 xc5 xc6 ym yc0 yc1 yc2 yc3 yc4 yc5 yc6 y1l y1c y1L y1C y2l y2c y2L y2C zm zc0 zc1 zc2 zc3 zc4 zc5 zc6 z2L z2C0 z2C1 z2C2 z2C3
  simp only [St.val]
  go_wp2_with fail
  go_ret
  exact ⟨by simp, HW.out ▸ HB.out⟩
end Go.Proofs.Ytbcacebifpagpae
namespace Go.Proofs.Ytbcacebifpagpae
open Go.RowKit
set_option linter.unusedVariables false
def chooseN (c : Int) (n : Nat) : Nat := ((if c < 0 then -(c + 1) else c) % (n : Int)).toNat
theorem chooseN_pos {c : Int} {n : Nat} (h : ¬ c < 0) (hn : 1 ≤ n) : c % (n : Int) = ((chooseN c n : Nat) : Int) := by
  unfold chooseN
  rw [if_neg h]
  have := Int.emod_nonneg c (b := (n : Int)) (by omega)
  omega
theorem chooseN_neg {c : Int} {n : Nat} (h : c < 0) (hn : 1 ≤ n) : (-(c + 1)) % (n : Int) = ((chooseN c n : Nat) : Int) := by
  unfold chooseN
  rw [if_pos h]
  have := Int.emod_nonneg (-(c + 1)) (b := (n : Int)) (by omega)
  omega
theorem chooseN_lt (c : Int) {n : Nat} (hn : 1 ≤ n) : chooseN c n < n := by
  by_cases h : c < 0
  · have := chooseN_neg h hn
    have := Int.emod_lt_of_pos (-(c + 1)) (b := (n : Int)) (by omega)
    omega
  · have := chooseN_pos h hn
    have := Int.emod_lt_of_pos c (b := (n : Int)) (by omega)
    omega
theorem choose_any (c : Int) (n : Nat) (w : World) (hc : -9223372036854775808 ≤ c ∧ c ≤ 9223372036854775807) (hn : 1 ≤ n) (hm : n ≤ 1000) :
    Calls Try.prog 19 #[.int .i64 c, .int .i64 n] w fun e w' => e = .returned (.int .i64 (chooseN c n : Nat)) ∧ w' = w := by
  by_cases h : c < 0
  · have h1 := chooseN_neg h hn
    have q : (0 : Int) ≤ -(c + 1) := by omega
    have hz : ¬ (n : Int) = 0 := by omega
    go_enter Try.func19, Try.ntmps19
    go_wp2
    go_ret
    exact ⟨by rw [← h1, ← Int.tmod_eq_emod_of_nonneg q, Int.neg_tmod]; rfl, rfl⟩
  · have h1 := chooseN_pos h hn
    have hz : ¬ (n : Int) = 0 := by omega
    have q : (0 : Int) ≤ c := by omega
    go_enter Try.func19, Try.ntmps19
    go_wp2
    go_ret
    exact ⟨by simp [← h1], rfl⟩
end Go.Proofs.Ytbcacebifpagpae
namespace Go.Proofs.Ytbcacebifpagpae
open Go.RowKit Go.Shelf Go.Sort
set_option linter.unusedVariables false
set_option maxRecDepth 100000 in
set_option maxHeartbeats 8000000 in
theorem FillTrue_walk (p : Pl) (s : St) (bin k n : Int) (w : World) (hp : p.At w) (hs : s.At w) (hbin : -9223372036854775808 ≤ bin ∧ bin ≤ 9223372036854775807) :
    Calls Try.prog 5 #[p.val, s.val, .int .i64 bin, .int .i64 k, .int .i64 n] w fun e w' => e = .returned (.bool true) ∧ Below w.heap.size w w' := by
  obtain ⟨W0, hW, hWB, X0⟩ : ∃ W, ((w.alloc (.cells #[.slice p.ab p.nb p.cb, .slice p.sa p.ns p.cs] 25)).alloc (.cells s.cells 31)) = W ∧ Below w.heap.size w W ∧ Boxes W w.heap.size (w.heap.size + 1) p s := ⟨_, rfl, two_below _ _ _, boxes_new w p s _ _⟩
  have HC : Hid (∀ wk, Below W0.heap.size W0 wk → Boxes wk w.heap.size (w.heap.size + 1) p s ∧ p.At wk ∧ s.At wk ∧ Below w.heap.size w wk) := fun wk h => ⟨X0.below h, (hp.below hWB).below h, (hs.below hWB).below h, hWB.trans (h.mono hWB.size)⟩
  have HW : Hid ((w.alloc (.cells #[.slice p.ab p.nb p.cb, .slice p.sa p.ns p.cs] 25)).alloc (.cells #[.slice s.on.a s.on.n s.on.c, .slice s.os.a s.os.n s.os.c, .slice s.hs.a s.hs.n s.hs.c, .slice s.ms.a s.ms.n s.ms.c, .slice s.si.a s.si.n s.si.c, .slice s.so.a s.so.n s.so.c, .slice s.sf.a s.sf.n s.sf.c] 31) = W0) := hW
  have HB : Hid (Below W0.heap.size W0 W0) := Below.refl _ _
  have leb := hp.leb
  have capb0 := hp.capb
  have capb := capb0
  unfold maxLen at capb
  have msl := hs.ms.le
  have msc := hs.ms.cap
  unfold maxLen at msc
  have sol := hs.on.le
  have soc := hs.on.cap
  unfold maxLen at soc
  clear hW X0 hp hs
  unfold Pl.val St.val
  go_enter Try.func5, Try.ntmps5
  go_wp2_with fail
  rw [HW.out]
  clear HW
  refine Calls.mono (Fill_any p s W0 (HC.out W0 HB.out).2.1 (HC.out W0 HB.out).2.2.1) ?_
  rintro e w1 ⟨a, rfl, aat, aok, -, hB⟩
  have HAOK : Hid (ActOK (stateE p s) (fillT p s) a) := aok
  clear aok
  have HB : Hid (Below W0.heap.size W0 w1) := HB.out.trans (hB.mono HB.out.size)
  clear hB
  have aml := aat.ms.le
  have amc := aat.ms.cap
  unfold maxLen at amc
  obtain ⟨W2, hW, hWB, K1⟩ : ∃ W, w1.alloc (.cells #[.slice a.on.a a.on.n a.on.c, .slice a.os.a a.os.n a.os.c, .slice a.hs.a a.hs.n a.hs.c, .slice a.ms.a a.ms.n a.ms.c, .slice a.si.a a.si.n a.si.c, .slice a.so.a a.so.n a.so.c, .slice a.sf.a a.sf.n a.sf.c] 31) = W ∧ Below w1.heap.size w1 W ∧ Blk W w1.heap.size 31 7 (fun j => a.cells.getD j default) := ⟨_, rfl, (Below.refl _ _).alloc (Nat.le_refl _) _, Blk.mk' rfl rfl⟩
  have HW : Hid (w1.alloc (.cells #[.slice a.on.a a.on.n a.on.c, .slice a.os.a a.os.n a.os.c, .slice a.hs.a a.hs.n a.hs.c, .slice a.ms.a a.ms.n a.ms.c, .slice a.si.a a.si.n a.si.c, .slice a.so.a a.so.n a.so.c, .slice a.sf.a a.sf.n a.sf.c] 31) = W2) := hW
  have Ha : Hid (a.At W2 ∧ Blk W2 w1.heap.size 31 7 (fun j => a.cells.getD j default)) := ⟨aat.below hWB, K1⟩
  clear hW K1 aat
  have HB : Hid (Below W0.heap.size W0 W2) := HB.out.trans (hWB.mono HB.out.size)
  clear hWB
  by_cases h0 : stateE p s = 0
  · have H0 : Hid (stateE p s = 0) := h0
    have HE : Hid (FillEnd p s (fillT p s)) := fill_ends (rightT h0)
    have HSA : Hid (SameT a (fillT p s)) := HAOK.out.1 h0
    have HR : Hid (RightT p s) := rightT h0
    have HRA : Hid (RightT p a) := HSA.out.right HE.out.r
    have HEA : Hid (stateE p a = 0) := stateE_of HRA.out
    have amn : s.ms.n ≤ a.ms.n := by rw [HSA.out.ms.1]; exact HE.out.ge
    have o3 : decide (a.ms.n < s.ms.n) = false := decide_eq_false (by omega)
    have o4 : decide ((a.ms.n : Int) < (s.ms.n : Int)) = false := decide_eq_false (by omega)
    have nb1 := HR.out.fm.sh.pl.nb1
    have nb6 := HR.out.fm.sh.pl.nb6
    have ns3 := HR.out.fm.sh.pl.ns3
    have nb0 : ((p.nb : Int) == 0) = false := beq_eq_false_iff_ne.2 (by omega)
    have on1 := HR.out.fm.sh.n
    have HSN : Hid (s.on.n = p.nb) := on1
    clear on1
    rw [h0]
    clear h0 HAOK
    obtain ⟨⟨⟨l1, d0, d1⟩, l2, c0, c1, c2, c3, c4, c5, c6⟩, -, -, -⟩ := HC.out W2 HB.out
    rw [← HW.out] at l1 d0 d1 l2 c0 c1 c2 c3 c4 c5 c6
    simp only [St.val]
    go_wp2_with fail
    rw [HW.out]
    clear HW
    generalize w1.heap.size = Ba at *
    clear l1 d0 d1 l2 c0 c1 c2 c3 c4 c5 c6
    refine calls_to (choose_any bin p.nb W2 hbin nb1 (by omega)) ?_
    have hbc : chooseN bin p.nb < p.nb := chooseN_lt bin nb1
    generalize chooseN bin p.nb = bc at *
    have q0 : (0 : Int) ≤ (bc : Int) := by omega
    obtain ⟨⟨⟨l1, d0, d1⟩, l2, c0, c1, c2, c3, c4, c5, c6⟩, -, -, -⟩ := HC.out W2 HB.out
    go_wp2_with fail
    clear l1 d0 d1 l2 c0 c1 c2 c3 c4 c5 c6
    refine Calls.mono (Free_rightW p s bc W2 (HC.out W2 HB.out).2.1 (HC.out W2 HB.out).2.2.1 H0.out hbc) ?_
    rintro e w3 ⟨rfl, hB⟩
    have Ha : Hid (a.At w3 ∧ Blk w3 Ba 31 7 (fun j => a.cells.getD j default)) := ⟨Ha.out.1.below hB, Ha.out.2.below hB⟩
    have HB : Hid (Below W0.heap.size W0 w3) := HB.out.trans (hB.mono HB.out.size)
    clear hB
    obtain ⟨⟨⟨l1, d0, d1⟩, l2, c0, c1, c2, c3, c4, c5, c6⟩, -, -, -⟩ := HC.out w3 HB.out
    obtain ⟨am, ac0, ac1, ac2, ac3, ac4, ac5, ac6⟩ := Boxed.of Ha.out.2
    go_wp2_with fail
    clear l1 d0 d1 l2 c0 c1 c2 c3 c4 c5 c6 am ac0 ac1 ac2 ac3 ac4 ac5 ac6
    refine Calls.mono (Free_rightW p a bc w3 (HC.out w3 HB.out).2.1 Ha.out.1 HEA.out hbc) ?_
    rintro e w4 ⟨rfl, hB⟩
    have Ha : Hid (a.At w4 ∧ Blk w4 Ba 31 7 (fun j => a.cells.getD j default)) := ⟨Ha.out.1.below hB, Ha.out.2.below hB⟩
    have HB : Hid (Below W0.heap.size W0 w4) := HB.out.trans (hB.mono HB.out.size)
    clear hB
    have HFR : Hid (freeZ p a bc ≤ freeZ p s bc ∧ (freeZ p a bc < 0 → freeZ p a bc = freeZ p s bc)) := by
      have h := HE.out.free bc hbc
      rw [← HSA.out.free HE.out.r.fm hbc] at h
      exact h
    generalize freeZ p a bc = FA at *
    generalize freeZ p s bc = FS at *
    have f1 := HFR.out.1
    have f2 : decide (FS < FA) = false := decide_eq_false (by omega)
    have f3 := HFR.out.2
    by_cases f4 : FA < 0
    · have e5 := f3 f4
      have e6 : decide (FA < FS) = false := decide_eq_false (by omega)
      have e7 : ¬ FA < FS := by omega
      clear e5 f3 HFR
      obtain ⟨⟨⟨l1, d0, d1⟩, l2, c0, c1, c2, c3, c4, c5, c6⟩, -, -, -⟩ := HC.out w4 HB.out
      obtain ⟨am, ac0, ac1, ac2, ac3, ac4, ac5, ac6⟩ := Boxed.of Ha.out.2
      go_wp2_with fail
      clear l1 d0 d1 l2 c0 c1 c2 c3 c4 c5 c6 am ac0 ac1 ac2 ac3 ac4 ac5 ac6
      refine Calls.mono (Check_rightW p a w4 (HC.out w4 HB.out).2.1 Ha.out.1 HEA.out) ?_
      rintro e w5 ⟨rfl, hB⟩
      have Ha : Hid (a.At w5 ∧ Blk w5 Ba 31 7 (fun j => a.cells.getD j default)) := ⟨Ha.out.1.below hB, Ha.out.2.below hB⟩
      have HB : Hid (Below W0.heap.size W0 w5) := HB.out.trans (hB.mono HB.out.size)
      clear hB
      obtain ⟨⟨⟨l1, d0, d1⟩, l2, c0, c1, c2, c3, c4, c5, c6⟩, -, -, -⟩ := HC.out w5 HB.out
      obtain ⟨am, ac0, ac1, ac2, ac3, ac4, ac5, ac6⟩ := Boxed.of Ha.out.2
      go_wp2_with fail
      clear l1 d0 d1 l2 c0 c1 c2 c3 c4 c5 c6 am ac0 ac1 ac2 ac3 ac4 ac5 ac6
      refine Calls.mono (Moved_any p s k n w5 (HC.out w5 HB.out).2.1 (HC.out w5 HB.out).2.2.1) ?_
      rintro e w6 ⟨c, rfl, cat, cok, -, hB⟩
      have HCOK : Hid (ActOK (movedE p s k n) (movedT s k.toNat n) c) := cok
      clear cok
      have Ha : Hid (a.At w6 ∧ Blk w6 Ba 31 7 (fun j => a.cells.getD j default)) := ⟨Ha.out.1.below hB, Ha.out.2.below hB⟩
      have HB : Hid (Below W0.heap.size W0 w6) := HB.out.trans (hB.mono HB.out.size)
      clear hB
      have cml := cat.ms.le
      have cmc := cat.ms.cap
      unfold maxLen at cmc
      have col := cat.on.le
      have coc := cat.on.cap
      unfold maxLen at coc
      obtain ⟨W7, hW, hWB, K1⟩ : ∃ W, w6.alloc (.cells #[.slice c.on.a c.on.n c.on.c, .slice c.os.a c.os.n c.os.c, .slice c.hs.a c.hs.n c.hs.c, .slice c.ms.a c.ms.n c.ms.c, .slice c.si.a c.si.n c.si.c, .slice c.so.a c.so.n c.so.c, .slice c.sf.a c.sf.n c.sf.c] 31) = W ∧ Below w6.heap.size w6 W ∧ Blk W w6.heap.size 31 7 (fun j => c.cells.getD j default) := ⟨_, rfl, (Below.refl _ _).alloc (Nat.le_refl _) _, Blk.mk' rfl rfl⟩
      have HW : Hid (w6.alloc (.cells #[.slice c.on.a c.on.n c.on.c, .slice c.os.a c.os.n c.os.c, .slice c.hs.a c.hs.n c.hs.c, .slice c.ms.a c.ms.n c.ms.c, .slice c.si.a c.si.n c.si.c, .slice c.so.a c.so.n c.so.c, .slice c.sf.a c.sf.n c.sf.c] 31) = W7) := hW
      have Hc : Hid (c.At W7 ∧ Blk W7 w6.heap.size 31 7 (fun j => c.cells.getD j default)) := ⟨cat.below hWB, K1⟩
      clear hW K1 cat
      have Ha : Hid (a.At W7 ∧ Blk W7 Ba 31 7 (fun j => a.cells.getD j default)) := ⟨Ha.out.1.below hWB, Ha.out.2.below hWB⟩
      have HB : Hid (Below W0.heap.size W0 W7) := HB.out.trans (hWB.mono HB.out.size)
      clear hWB
      by_cases h1 : movedE p s k n = 0
      · obtain ⟨-, i, f, b, g, N, rfl, hi⟩ := movedIn h1
        have HI : Hid (MovedIn p s i f b g N n) := hi
        have HSC : Hid (SameT c (movedT s i n)) := by have h := HCOK.out.1 h1; rw [Int.toNat_natCast] at h; exact h
        have HRC : Hid (RightT p c) := HSC.out.right (moved_right hi)
        have HEC : Hid (stateE p c = 0) := stateE_of HRC.out
        have ikn := hi.kn
        have n0 := hi.n0
        have nN : n ≤ 200 := by have := hi.nN; have := hi.N2; omega
        have cmn : c.ms.n = s.ms.n - 1 := HSC.out.ms.1
        have i0 : decide ((i : Int) < 0) = false := decide_eq_false (by omega)
        have i1 : decide ((s.ms.n : Int) ≤ (i : Int)) = false := decide_eq_false (by omega)
        have i2 : decide (s.ms.n ≤ i) = false := decide_eq_false (by omega)
        have i3 : (0 : Int) ≤ (i : Int) := by omega
        have i4 : (i : Int) < (s.ms.n : Int) := by omega
        have i5 : ((c.ms.n : Int) != (s.ms.n : Int) - 1) = false := by rw [cmn]; simp; omega
        have i6 : ¬ s.ms.n ≤ i := by omega
        have HCN : Hid (c.on.n = p.nb) := HRC.out.fm.sh.n
        have HMZ : Hid (s.ms.z i = ⟨g, f, b, N⟩) := hi.m
        have ms8 := HR.out.fm.ms8
        have HNUM : Hid (∀ ii jj, ii < p.nb → jj < p.ns → (c.on.r ii).z jj = (s.on.r ii).z jj + if jj = g then (if ii = b then n else if ii = f then -n else 0) else 0) := fun ii jj h2 h3 => by
          rw [HSC.out.num (moved_right HI.out).fm h2 h3]
          exact moved_num HI.out ii jj
        have hne := hi.ne
        rw [h1]
        clear h1 HCOK hi cmn
        obtain ⟨⟨⟨l1, d0, d1⟩, l2, c0, c1, c2, c3, c4, c5, c6⟩, -, -, -⟩ := HC.out W7 HB.out
        obtain ⟨cm, cc0, cc1, cc2, cc3, cc4, cc5, cc6⟩ := Boxed.of Hc.out.2
        rw [← HW.out] at l1 d0 d1 l2 c0 c1 c2 c3 c4 c5 c6 cm cc0 cc1 cc2 cc3 cc4 cc5 cc6
        simp only [St.val]
        go_wp2_with fail
        rw [HW.out]
        clear HW
        generalize w6.heap.size = Bc at *
        clear l1 d0 d1 l2 c0 c1 c2 c3 c4 c5 c6 cm cc0 cc1 cc2 cc3 cc4 cc5 cc6
        refine Calls.mono (Check_rightW p c W7 (HC.out W7 HB.out).2.1 Hc.out.1 HEC.out) ?_
        rintro e w8 ⟨rfl, hB⟩
        have Ha : Hid (a.At w8 ∧ Blk w8 Ba 31 7 (fun j => a.cells.getD j default)) := ⟨Ha.out.1.below hB, Ha.out.2.below hB⟩
        have Hc : Hid (c.At w8 ∧ Blk w8 Bc 31 7 (fun j => c.cells.getD j default)) := ⟨Hc.out.1.below hB, Hc.out.2.below hB⟩
        have HB : Hid (Below W0.heap.size W0 w8) := HB.out.trans (hB.mono HB.out.size)
        clear hB
        obtain ⟨⟨⟨l1, d0, d1⟩, l2, c0, c1, c2, c3, c4, c5, c6⟩, -, -, -⟩ := HC.out w8 HB.out
        obtain ⟨cm, cc0, cc1, cc2, cc3, cc4, cc5, cc6⟩ := Boxed.of Hc.out.2
        obtain ⟨b5, o5, ha5, hb5, y50, y51, y52, y53⟩ := (HC.out w8 HB.out).2.2.1.ms.hds i ikn
        rw [HMZ.out] at y50 y51 y52 y53
        dsimp only at y50 y51 y52 y53
        rw [ha5] at c3
        clear ha5
        obtain ⟨Z, hZ⟩ : ∃ Z : Hd, Z = ⟨g, f, b, N⟩ := ⟨_, rfl⟩
        obtain ⟨W9, hW, hWB, K1⟩ : ∃ W, w8.alloc (.cells #[.int .i64 Z.o, .int .i64 Z.l, .int .i64 Z.b, .int .i64 Z.n] 55) = W ∧ Below w8.heap.size w8 W ∧ Blk W w8.heap.size 55 4 (fun j => (#[.int .i64 Z.o, .int .i64 Z.l, .int .i64 Z.b, .int .i64 Z.n] : Array Value).getD j default) := ⟨_, rfl, (Below.refl _ _).alloc (Nat.le_refl _) _, Blk.mk' rfl rfl⟩
        have HW : Hid (w8.alloc (.cells #[.int .i64 Z.o, .int .i64 Z.l, .int .i64 Z.b, .int .i64 Z.n] 55) = W9) := hW
        have HLB : Hid (Blk W9 w8.heap.size 55 4 (fun j => (#[.int .i64 Z.o, .int .i64 Z.l, .int .i64 Z.b, .int .i64 Z.n] : Array Value).getD j default)) := K1
        clear hW K1
        have Ha : Hid (a.At W9 ∧ Blk W9 Ba 31 7 (fun j => a.cells.getD j default)) := ⟨Ha.out.1.below hWB, Ha.out.2.below hWB⟩
        have Hc : Hid (c.At W9 ∧ Blk W9 Bc 31 7 (fun j => c.cells.getD j default)) := ⟨Hc.out.1.below hWB, Hc.out.2.below hWB⟩
        have HB : Hid (Below W0.heap.size W0 W9) := HB.out.trans (hWB.mono HB.out.size)
        clear hWB
        rw [hZ] at HW HLB
        dsimp only at HW HLB
        clear hZ
        go_wp2_with fail
        rw [HW.out]
        clear HW hb5 y50 y51 y52 y53 l1 d0 d1 l2 c0 c1 c2 c3 c4 c5 c6 cm cc0 cc1 cc2 cc3 cc4 cc5 cc6
        generalize w8.heap.size = BL at *
        go_loopw [21] (fun iv wk => ∃ ii : Nat, ii ≤ s.on.n ∧ iv = .int .i64 ii ∧ Hid (a.At wk ∧ Blk wk Ba 31 7 (fun j => a.cells.getD j default)) ∧ Hid (c.At wk ∧ Blk wk Bc 31 7 (fun j => c.cells.getD j default)) ∧ Hid (Blk wk BL 55 4 (fun j => (#[.int .i64 (g : Int), .int .i64 (f : Int), .int .i64 (b : Int), .int .i64 N] : Array Value).getD j default)) ∧ Hid (Below W0.heap.size W0 wk)) (fun iv _ => s.on.n - (intOf iv).toNat)
        case atStart => exact ⟨0, Nat.zero_le _, rfl, Ha, Hc, HLB, HB⟩
        case round =>
          clear Ha Hc HLB HB
          obtain ⟨ii, hii, rfl, Ha, Hc, HLB, HB⟩ := hrel
          by_cases hil : ii < s.on.n
          · have r0 : (0 : Int) ≤ (ii : Int) := by omega
            have r1 : (ii : Int) < (s.on.n : Int) := by omega
            have hip : ii < p.nb := by rw [← HSN.out]; exact hil
            have icn : ii < c.on.n := by rw [HCN.out]; exact hip
            have HRS : Hid ((s.on.r ii).n = p.ns) := HR.out.fm.sh.len ii hil
            have HRCN : Hid ((c.on.r ii).n = p.ns) := HRC.out.fm.sh.len ii icn
            have t1 : decide ((c.on.n : Int) ≤ (ii : Int)) = false := decide_eq_false (by omega)
            have t2 : decide (c.on.n ≤ ii) = false := decide_eq_false (by omega)
            have t3 : (ii : Int) < (c.on.n : Int) := by omega
            have t4 : ¬ c.on.n ≤ ii := by omega
            obtain ⟨⟨⟨l1, d0, d1⟩, l2, c0, c1, c2, c3, c4, c5, c6⟩, -, -, -⟩ := HC.out wr HB.out
            go_wp2_with fail
            clear l1 d0 d1 l2 c0 c1 c2 c3 c4 c5 c6
            go_loopw [22] (fun jv wk => ∃ jj : Nat, jj ≤ p.ns ∧ jv = .int .i64 jj ∧ Hid (a.At wk ∧ Blk wk Ba 31 7 (fun j => a.cells.getD j default)) ∧ Hid (c.At wk ∧ Blk wk Bc 31 7 (fun j => c.cells.getD j default)) ∧ Hid (Blk wk BL 55 4 (fun j => (#[.int .i64 (g : Int), .int .i64 (f : Int), .int .i64 (b : Int), .int .i64 N] : Array Value).getD j default)) ∧ Hid (Below W0.heap.size W0 wk)) (fun jv _ => p.ns - (intOf jv).toNat)
            case atStart => exact ⟨0, Nat.zero_le _, rfl, Ha, Hc, HLB, HB⟩
            case round =>
              clear Ha Hc HLB HB
              obtain ⟨jj, hjj, rfl, Ha, Hc, HLB, HB⟩ := hrel
              by_cases hjl : jj < p.ns
              · have w0j : (0 : Int) ≤ (jj : Int) := by omega
                have w1j : (jj : Int) < (p.ns : Int) := by omega
                have w2j : decide ((p.ns : Int) ≤ (jj : Int)) = false := decide_eq_false (by omega)
                have w3j : decide (p.ns ≤ jj) = false := decide_eq_false (by omega)
                have w4j : ¬ p.ns ≤ jj := by omega
                have nu := HR.out.fm.sh.num ii hil jj hjl
                have HEQ : Hid ((c.on.r ii).z jj = (s.on.r ii).z jj + if jj = g then (if ii = b then n else if ii = f then -n else 0) else 0) := HNUM.out ii jj hip hjl
                by_cases jg : jj = g
                · have e1 : ((jj : Int) == (g : Int)) = true := by rw [beq_iff_eq]; omega
                  by_cases ib : ii = b
                  · have e2 : ((ii : Int) == (b : Int)) = true := by rw [beq_iff_eq]; omega
                    have e3 : ((ii : Int) == (f : Int)) = false := beq_eq_false_iff_ne.2 (by omega)
                    have HVV : Hid ((c.on.r ii).z jj = (s.on.r ii).z jj + n) := by show _ = _; rw [HEQ.out, if_pos jg, if_pos ib]
                    clear HEQ jg ib
                    obtain ⟨⟨⟨l1, d0, d1⟩, l2, c0, c1, c2, c3, c4, c5, c6⟩, -, -, -⟩ := HC.out wr HB.out
                    obtain ⟨cm, cc0, cc1, cc2, cc3, cc4, cc5, cc6⟩ := Boxed.of Hc.out.2
                    obtain ⟨b7, o7, ha7, hb7, x7, hrow⟩ := (HC.out wr HB.out).2.2.1.on.rows ii hil
                    have v1 := hrow.le
                    have v2 := hrow.cap
                    unfold maxLen at v2
                    rw [ha7] at c0
                    rw [HRS.out] at x7 v1
                    clear ha7
                    obtain ⟨b8, o8, ha8, hb8, x8⟩ := hrow.ints jj (by rw [HRS.out]; exact hjl)
                    rw [ha8] at x7
                    obtain ⟨b9, o9, ha9, hb9, x9, crow⟩ := Hc.out.1.on.rows ii icn
                    obtain ⟨bA, oA, haA, hbA, xA⟩ := crow.ints jj (by rw [HRCN.out]; exact hjl)
                    have v3 := crow.le
                    have v4 := crow.cap
                    unfold maxLen at v4
                    rw [ha9] at cc0
                    rw [haA, HRCN.out] at x9
                    rw [HRCN.out] at v3
                    clear ha8 ha9 haA crow
                    have a0 : wr.cell? ⟨BL, 0, none⟩ = some (.int .i64 (g : Int)) := HLB.out.cell (j := 0) (by decide)
                    have a1 : wr.cell? ⟨BL, 1, none⟩ = some (.int .i64 (f : Int)) := HLB.out.cell (j := 1) (by decide)
                    have a2 : wr.cell? ⟨BL, 2, none⟩ = some (.int .i64 (b : Int)) := HLB.out.cell (j := 2) (by decide)
                    have a4 := HLB.out.lt
                    clear hrow
                    rw [HVV.out] at xA
                    have vv : ((s.on.r ii).z jj + n != (s.on.r ii).z jj + n) = false := by simp
                    generalize (s.on.r ii).z jj = SV at *
                    have rc0 := fun d os => cell_regrown c0 d os
                    have rcc0 := fun d os => cell_regrown cc0 d os
                    have rx7 := fun d os => cell_regrown x7 d os
                    have rx8 := fun d os => cell_regrown x8 d os
                    have rx9 := fun d os => cell_regrown x9 d os
                    have rxA := fun d os => cell_regrown xA d os
                    go_wp2_with fail
                    refine wp_region_quiet_below (by kernel_rfl) (by kernel_rfl) ?_
                    repeat (go_big_quiet_step ((fail)))
                    refine wpQuiet_nil ?_
                    intro w6 hwq
                    have hB := below_of_regrown hwq
                    clear hwq rc0 rcc0 rx7 rx8 rx9 rxA
                    have Ha : Hid (a.At w6 ∧ Blk w6 Ba 31 7 (fun j => a.cells.getD j default)) := ⟨Ha.out.1.below hB, Ha.out.2.below hB⟩
                    have Hc : Hid (c.At w6 ∧ Blk w6 Bc 31 7 (fun j => c.cells.getD j default)) := ⟨Hc.out.1.below hB, Hc.out.2.below hB⟩
                    have HLB : Hid (Blk w6 BL 55 4 (fun j => (#[.int .i64 (g : Int), .int .i64 (f : Int), .int .i64 (b : Int), .int .i64 N] : Array Value).getD j default)) := HLB.out.below hB
                    have HB : Hid (Below W0.heap.size W0 w6) := HB.out.trans (hB.mono HB.out.size)
                    clear hB
                    clear l1 d0 d1 l2 c0 c1 c2 c3 c4 c5 c6 cm cc0 cc1 cc2 cc3 cc4 cc5 cc6 hb7 x7 v1 v2 hb8 x8 hb9 x9 hbA xA v3 v4 a0 a1 a2 a4
                    go_wp2_with fail
                    go_roundw
                    case rel => exact ⟨jj + 1, by omega, by go_num, Ha, Hc, HLB, HB⟩
                    case measure => simp [intOf]; omega
                  · have e2 : ((ii : Int) == (b : Int)) = false := beq_eq_false_iff_ne.2 (by omega)
                    by_cases jf : ii = f
                    · have e3 : ((ii : Int) == (f : Int)) = true := by rw [beq_iff_eq]; omega
                      have HVV : Hid ((c.on.r ii).z jj = (s.on.r ii).z jj + -n) := by show _ = _; rw [HEQ.out, if_pos jg, if_neg ib, if_pos jf]
                      clear HEQ jg ib jf
                      obtain ⟨⟨⟨l1, d0, d1⟩, l2, c0, c1, c2, c3, c4, c5, c6⟩, -, -, -⟩ := HC.out wr HB.out
                      obtain ⟨cm, cc0, cc1, cc2, cc3, cc4, cc5, cc6⟩ := Boxed.of Hc.out.2
                      obtain ⟨b7, o7, ha7, hb7, x7, hrow⟩ := (HC.out wr HB.out).2.2.1.on.rows ii hil
                      have v1 := hrow.le
                      have v2 := hrow.cap
                      unfold maxLen at v2
                      rw [ha7] at c0
                      rw [HRS.out] at x7 v1
                      clear ha7
                      obtain ⟨b8, o8, ha8, hb8, x8⟩ := hrow.ints jj (by rw [HRS.out]; exact hjl)
                      rw [ha8] at x7
                      obtain ⟨b9, o9, ha9, hb9, x9, crow⟩ := Hc.out.1.on.rows ii icn
                      obtain ⟨bA, oA, haA, hbA, xA⟩ := crow.ints jj (by rw [HRCN.out]; exact hjl)
                      have v3 := crow.le
                      have v4 := crow.cap
                      unfold maxLen at v4
                      rw [ha9] at cc0
                      rw [haA, HRCN.out] at x9
                      rw [HRCN.out] at v3
                      clear ha8 ha9 haA crow
                      have a0 : wr.cell? ⟨BL, 0, none⟩ = some (.int .i64 (g : Int)) := HLB.out.cell (j := 0) (by decide)
                      have a1 : wr.cell? ⟨BL, 1, none⟩ = some (.int .i64 (f : Int)) := HLB.out.cell (j := 1) (by decide)
                      have a2 : wr.cell? ⟨BL, 2, none⟩ = some (.int .i64 (b : Int)) := HLB.out.cell (j := 2) (by decide)
                      have a4 := HLB.out.lt
                      clear hrow
                      rw [HVV.out] at xA
                      have vv : ((s.on.r ii).z jj + -n != (s.on.r ii).z jj + -n) = false := by simp
                      generalize (s.on.r ii).z jj = SV at *
                      have rc0 := fun d os => cell_regrown c0 d os
                      have rcc0 := fun d os => cell_regrown cc0 d os
                      have rx7 := fun d os => cell_regrown x7 d os
                      have rx8 := fun d os => cell_regrown x8 d os
                      have rx9 := fun d os => cell_regrown x9 d os
                      have rxA := fun d os => cell_regrown xA d os
                      go_wp2_with fail
                      refine wp_region_quiet_below (by kernel_rfl) (by kernel_rfl) ?_
                      repeat (go_big_quiet_step ((fail)))
                      refine wpQuiet_nil ?_
                      intro w6 hwq
                      have hB := below_of_regrown hwq
                      clear hwq rc0 rcc0 rx7 rx8 rx9 rxA
                      have Ha : Hid (a.At w6 ∧ Blk w6 Ba 31 7 (fun j => a.cells.getD j default)) := ⟨Ha.out.1.below hB, Ha.out.2.below hB⟩
                      have Hc : Hid (c.At w6 ∧ Blk w6 Bc 31 7 (fun j => c.cells.getD j default)) := ⟨Hc.out.1.below hB, Hc.out.2.below hB⟩
                      have HLB : Hid (Blk w6 BL 55 4 (fun j => (#[.int .i64 (g : Int), .int .i64 (f : Int), .int .i64 (b : Int), .int .i64 N] : Array Value).getD j default)) := HLB.out.below hB
                      have HB : Hid (Below W0.heap.size W0 w6) := HB.out.trans (hB.mono HB.out.size)
                      clear hB
                      clear l1 d0 d1 l2 c0 c1 c2 c3 c4 c5 c6 cm cc0 cc1 cc2 cc3 cc4 cc5 cc6 hb7 x7 v1 v2 hb8 x8 hb9 x9 hbA xA v3 v4 a0 a1 a2 a4
                      go_wp2_with fail
                      go_roundw
                      case rel => exact ⟨jj + 1, by omega, by go_num, Ha, Hc, HLB, HB⟩
                      case measure => simp [intOf]; omega
                    · have e3 : ((ii : Int) == (f : Int)) = false := beq_eq_false_iff_ne.2 (by omega)
                      have HVV : Hid ((c.on.r ii).z jj = (s.on.r ii).z jj + 0) := by show _ = _; rw [HEQ.out, if_pos jg, if_neg ib, if_neg jf]
                      clear HEQ jg ib jf
                      obtain ⟨⟨⟨l1, d0, d1⟩, l2, c0, c1, c2, c3, c4, c5, c6⟩, -, -, -⟩ := HC.out wr HB.out
                      obtain ⟨cm, cc0, cc1, cc2, cc3, cc4, cc5, cc6⟩ := Boxed.of Hc.out.2
                      obtain ⟨b7, o7, ha7, hb7, x7, hrow⟩ := (HC.out wr HB.out).2.2.1.on.rows ii hil
                      have v1 := hrow.le
                      have v2 := hrow.cap
                      unfold maxLen at v2
                      rw [ha7] at c0
                      rw [HRS.out] at x7 v1
                      clear ha7
                      obtain ⟨b8, o8, ha8, hb8, x8⟩ := hrow.ints jj (by rw [HRS.out]; exact hjl)
                      rw [ha8] at x7
                      obtain ⟨b9, o9, ha9, hb9, x9, crow⟩ := Hc.out.1.on.rows ii icn
                      obtain ⟨bA, oA, haA, hbA, xA⟩ := crow.ints jj (by rw [HRCN.out]; exact hjl)
                      have v3 := crow.le
                      have v4 := crow.cap
                      unfold maxLen at v4
                      rw [ha9] at cc0
                      rw [haA, HRCN.out] at x9
                      rw [HRCN.out] at v3
                      clear ha8 ha9 haA crow
                      have a0 : wr.cell? ⟨BL, 0, none⟩ = some (.int .i64 (g : Int)) := HLB.out.cell (j := 0) (by decide)
                      have a1 : wr.cell? ⟨BL, 1, none⟩ = some (.int .i64 (f : Int)) := HLB.out.cell (j := 1) (by decide)
                      have a2 : wr.cell? ⟨BL, 2, none⟩ = some (.int .i64 (b : Int)) := HLB.out.cell (j := 2) (by decide)
                      have a4 := HLB.out.lt
                      clear hrow
                      rw [HVV.out] at xA
                      have vv : ((s.on.r ii).z jj + 0 != (s.on.r ii).z jj + 0) = false := by simp
                      generalize (s.on.r ii).z jj = SV at *
                      have rc0 := fun d os => cell_regrown c0 d os
                      have rcc0 := fun d os => cell_regrown cc0 d os
                      have rx7 := fun d os => cell_regrown x7 d os
                      have rx8 := fun d os => cell_regrown x8 d os
                      have rx9 := fun d os => cell_regrown x9 d os
                      have rxA := fun d os => cell_regrown xA d os
                      go_wp2_with fail
                      refine wp_region_quiet_below (by kernel_rfl) (by kernel_rfl) ?_
                      repeat (go_big_quiet_step ((fail)))
                      refine wpQuiet_nil ?_
                      intro w6 hwq
                      have hB := below_of_regrown hwq
                      clear hwq rc0 rcc0 rx7 rx8 rx9 rxA
                      have Ha : Hid (a.At w6 ∧ Blk w6 Ba 31 7 (fun j => a.cells.getD j default)) := ⟨Ha.out.1.below hB, Ha.out.2.below hB⟩
                      have Hc : Hid (c.At w6 ∧ Blk w6 Bc 31 7 (fun j => c.cells.getD j default)) := ⟨Hc.out.1.below hB, Hc.out.2.below hB⟩
                      have HLB : Hid (Blk w6 BL 55 4 (fun j => (#[.int .i64 (g : Int), .int .i64 (f : Int), .int .i64 (b : Int), .int .i64 N] : Array Value).getD j default)) := HLB.out.below hB
                      have HB : Hid (Below W0.heap.size W0 w6) := HB.out.trans (hB.mono HB.out.size)
                      clear hB
                      clear l1 d0 d1 l2 c0 c1 c2 c3 c4 c5 c6 cm cc0 cc1 cc2 cc3 cc4 cc5 cc6 hb7 x7 v1 v2 hb8 x8 hb9 x9 hbA xA v3 v4 a0 a1 a2 a4
                      go_wp2_with fail
                      go_roundw
                      case rel => exact ⟨jj + 1, by omega, by go_num, Ha, Hc, HLB, HB⟩
                      case measure => simp [intOf]; omega
                · have e1 : ((jj : Int) == (g : Int)) = false := beq_eq_false_iff_ne.2 (by omega)
                  have HVV : Hid ((c.on.r ii).z jj = (s.on.r ii).z jj + 0) := by show _ = _; rw [HEQ.out, if_neg jg]
                  clear HEQ jg
                  obtain ⟨⟨⟨l1, d0, d1⟩, l2, c0, c1, c2, c3, c4, c5, c6⟩, -, -, -⟩ := HC.out wr HB.out
                  obtain ⟨cm, cc0, cc1, cc2, cc3, cc4, cc5, cc6⟩ := Boxed.of Hc.out.2
                  obtain ⟨b7, o7, ha7, hb7, x7, hrow⟩ := (HC.out wr HB.out).2.2.1.on.rows ii hil
                  have v1 := hrow.le
                  have v2 := hrow.cap
                  unfold maxLen at v2
                  rw [ha7] at c0
                  rw [HRS.out] at x7 v1
                  clear ha7
                  obtain ⟨b8, o8, ha8, hb8, x8⟩ := hrow.ints jj (by rw [HRS.out]; exact hjl)
                  rw [ha8] at x7
                  obtain ⟨b9, o9, ha9, hb9, x9, crow⟩ := Hc.out.1.on.rows ii icn
                  obtain ⟨bA, oA, haA, hbA, xA⟩ := crow.ints jj (by rw [HRCN.out]; exact hjl)
                  have v3 := crow.le
                  have v4 := crow.cap
                  unfold maxLen at v4
                  rw [ha9] at cc0
                  rw [haA, HRCN.out] at x9
                  rw [HRCN.out] at v3
                  clear ha8 ha9 haA crow
                  have a0 : wr.cell? ⟨BL, 0, none⟩ = some (.int .i64 (g : Int)) := HLB.out.cell (j := 0) (by decide)
                  have a1 : wr.cell? ⟨BL, 1, none⟩ = some (.int .i64 (f : Int)) := HLB.out.cell (j := 1) (by decide)
                  have a2 : wr.cell? ⟨BL, 2, none⟩ = some (.int .i64 (b : Int)) := HLB.out.cell (j := 2) (by decide)
                  have a4 := HLB.out.lt
                  clear hrow
                  rw [HVV.out] at xA
                  have vv : ((s.on.r ii).z jj + 0 != (s.on.r ii).z jj + 0) = false := by simp
                  generalize (s.on.r ii).z jj = SV at *
                  have rc0 := fun d os => cell_regrown c0 d os
                  have rcc0 := fun d os => cell_regrown cc0 d os
                  have rx7 := fun d os => cell_regrown x7 d os
                  have rx8 := fun d os => cell_regrown x8 d os
                  have rx9 := fun d os => cell_regrown x9 d os
                  have rxA := fun d os => cell_regrown xA d os
                  go_wp2_with fail
                  refine wp_region_quiet_below (by kernel_rfl) (by kernel_rfl) ?_
                  repeat (go_big_quiet_step ((fail)))
                  refine wpQuiet_nil ?_
                  intro w6 hwq
                  have hB := below_of_regrown hwq
                  clear hwq rc0 rcc0 rx7 rx8 rx9 rxA
                  have Ha : Hid (a.At w6 ∧ Blk w6 Ba 31 7 (fun j => a.cells.getD j default)) := ⟨Ha.out.1.below hB, Ha.out.2.below hB⟩
                  have Hc : Hid (c.At w6 ∧ Blk w6 Bc 31 7 (fun j => c.cells.getD j default)) := ⟨Hc.out.1.below hB, Hc.out.2.below hB⟩
                  have HLB : Hid (Blk w6 BL 55 4 (fun j => (#[.int .i64 (g : Int), .int .i64 (f : Int), .int .i64 (b : Int), .int .i64 N] : Array Value).getD j default)) := HLB.out.below hB
                  have HB : Hid (Below W0.heap.size W0 w6) := HB.out.trans (hB.mono HB.out.size)
                  clear hB
                  clear l1 d0 d1 l2 c0 c1 c2 c3 c4 c5 c6 cm cc0 cc1 cc2 cc3 cc4 cc5 cc6 hb7 x7 v1 v2 hb8 x8 hb9 x9 hbA xA v3 v4 a0 a1 a2 a4
                  go_wp2_with fail
                  go_roundw
                  case rel => exact ⟨jj + 1, by omega, by go_num, Ha, Hc, HLB, HB⟩
                  case measure => simp [intOf]; omega
              · have w1j : (p.ns : Int) ≤ (jj : Int) := by omega
                obtain ⟨⟨⟨l1, d0, d1⟩, l2, c0, c1, c2, c3, c4, c5, c6⟩, -, -, -⟩ := HC.out wr HB.out
                obtain ⟨cm, cc0, cc1, cc2, cc3, cc4, cc5, cc6⟩ := Boxed.of Hc.out.2
                obtain ⟨b7, o7, ha7, hb7, x7, hrow⟩ := (HC.out wr HB.out).2.2.1.on.rows ii hil
                have v1 := hrow.le
                have v2 := hrow.cap
                unfold maxLen at v2
                rw [ha7] at c0
                rw [HRS.out] at x7 v1
                clear ha7
                clear hrow
                go_wp2_with fail
                clear l1 d0 d1 l2 c0 c1 c2 c3 c4 c5 c6 cm cc0 cc1 cc2 cc3 cc4 cc5 cc6 hb7 x7 v1 v2
                go_roundw
                case rel => exact ⟨ii + 1, by omega, by go_num, Ha, Hc, HLB, HB⟩
                case measure => simp [intOf]; omega
          · have r1 : (s.on.n : Int) ≤ (ii : Int) := by omega
            obtain ⟨⟨⟨l1, d0, d1⟩, l2, c0, c1, c2, c3, c4, c5, c6⟩, -, -, -⟩ := HC.out wr HB.out
            go_wp2_with fail
            clear l1 d0 d1 l2 c0 c1 c2 c3 c4 c5 c6
            refine Calls.mono (fillBegun_any wr) ?_
            rintro e wz ⟨rfl, hB⟩
            have Ha : Hid (a.At wz ∧ Blk wz Ba 31 7 (fun j => a.cells.getD j default)) := ⟨Ha.out.1.below hB, Ha.out.2.below hB⟩
            have Hc : Hid (c.At wz ∧ Blk wz Bc 31 7 (fun j => c.cells.getD j default)) := ⟨Hc.out.1.below hB, Hc.out.2.below hB⟩
            have HLB : Hid (Blk wz BL 55 4 (fun j => (#[.int .i64 (g : Int), .int .i64 (f : Int), .int .i64 (b : Int), .int .i64 N] : Array Value).getD j default)) := HLB.out.below hB
            have HB : Hid (Below W0.heap.size W0 wz) := HB.out.trans (hB.mono HB.out.size)
            clear hB
            go_wp2_with fail
            go_ret
            exact ⟨rfl, (HC.out wz HB.out).2.2.2⟩
      · have g0 : (movedE p s k n != 0) = true := by simpa using h1
        clear h1 HCOK
        generalize movedE p s k n = EE at *
        simp only [St.val]
        go_wp2_with fail
        rw [HW.out]
        clear HW
        generalize w6.heap.size = Bc at *
        refine Calls.mono (fillBegun_any W7) ?_
        rintro e w8 ⟨rfl, hB⟩
        have Ha : Hid (a.At w8 ∧ Blk w8 Ba 31 7 (fun j => a.cells.getD j default)) := ⟨Ha.out.1.below hB, Ha.out.2.below hB⟩
        have Hc : Hid (c.At w8 ∧ Blk w8 Bc 31 7 (fun j => c.cells.getD j default)) := ⟨Hc.out.1.below hB, Hc.out.2.below hB⟩
        have HB : Hid (Below W0.heap.size W0 w8) := HB.out.trans (hB.mono HB.out.size)
        clear hB
        go_wp2_with fail
        go_ret
        exact ⟨rfl, (HC.out w8 HB.out).2.2.2⟩
    · have e6 : (0 : Int) ≤ FA := by omega
      clear f3 HFR
      obtain ⟨⟨⟨l1, d0, d1⟩, l2, c0, c1, c2, c3, c4, c5, c6⟩, -, -, -⟩ := HC.out w4 HB.out
      obtain ⟨am, ac0, ac1, ac2, ac3, ac4, ac5, ac6⟩ := Boxed.of Ha.out.2
      go_wp2_with fail
      clear l1 d0 d1 l2 c0 c1 c2 c3 c4 c5 c6 am ac0 ac1 ac2 ac3 ac4 ac5 ac6
      refine Calls.mono (Check_rightW p a w4 (HC.out w4 HB.out).2.1 Ha.out.1 HEA.out) ?_
      rintro e w5 ⟨rfl, hB⟩
      have Ha : Hid (a.At w5 ∧ Blk w5 Ba 31 7 (fun j => a.cells.getD j default)) := ⟨Ha.out.1.below hB, Ha.out.2.below hB⟩
      have HB : Hid (Below W0.heap.size W0 w5) := HB.out.trans (hB.mono HB.out.size)
      clear hB
      obtain ⟨⟨⟨l1, d0, d1⟩, l2, c0, c1, c2, c3, c4, c5, c6⟩, -, -, -⟩ := HC.out w5 HB.out
      obtain ⟨am, ac0, ac1, ac2, ac3, ac4, ac5, ac6⟩ := Boxed.of Ha.out.2
      go_wp2_with fail
      clear l1 d0 d1 l2 c0 c1 c2 c3 c4 c5 c6 am ac0 ac1 ac2 ac3 ac4 ac5 ac6
      refine Calls.mono (Moved_any p s k n w5 (HC.out w5 HB.out).2.1 (HC.out w5 HB.out).2.2.1) ?_
      rintro e w6 ⟨c, rfl, cat, cok, -, hB⟩
      have HCOK : Hid (ActOK (movedE p s k n) (movedT s k.toNat n) c) := cok
      clear cok
      have Ha : Hid (a.At w6 ∧ Blk w6 Ba 31 7 (fun j => a.cells.getD j default)) := ⟨Ha.out.1.below hB, Ha.out.2.below hB⟩
      have HB : Hid (Below W0.heap.size W0 w6) := HB.out.trans (hB.mono HB.out.size)
      clear hB
      have cml := cat.ms.le
      have cmc := cat.ms.cap
      unfold maxLen at cmc
      have col := cat.on.le
      have coc := cat.on.cap
      unfold maxLen at coc
      obtain ⟨W7, hW, hWB, K1⟩ : ∃ W, w6.alloc (.cells #[.slice c.on.a c.on.n c.on.c, .slice c.os.a c.os.n c.os.c, .slice c.hs.a c.hs.n c.hs.c, .slice c.ms.a c.ms.n c.ms.c, .slice c.si.a c.si.n c.si.c, .slice c.so.a c.so.n c.so.c, .slice c.sf.a c.sf.n c.sf.c] 31) = W ∧ Below w6.heap.size w6 W ∧ Blk W w6.heap.size 31 7 (fun j => c.cells.getD j default) := ⟨_, rfl, (Below.refl _ _).alloc (Nat.le_refl _) _, Blk.mk' rfl rfl⟩
      have HW : Hid (w6.alloc (.cells #[.slice c.on.a c.on.n c.on.c, .slice c.os.a c.os.n c.os.c, .slice c.hs.a c.hs.n c.hs.c, .slice c.ms.a c.ms.n c.ms.c, .slice c.si.a c.si.n c.si.c, .slice c.so.a c.so.n c.so.c, .slice c.sf.a c.sf.n c.sf.c] 31) = W7) := hW
      have Hc : Hid (c.At W7 ∧ Blk W7 w6.heap.size 31 7 (fun j => c.cells.getD j default)) := ⟨cat.below hWB, K1⟩
      clear hW K1 cat
      have Ha : Hid (a.At W7 ∧ Blk W7 Ba 31 7 (fun j => a.cells.getD j default)) := ⟨Ha.out.1.below hWB, Ha.out.2.below hWB⟩
      have HB : Hid (Below W0.heap.size W0 W7) := HB.out.trans (hWB.mono HB.out.size)
      clear hWB
      by_cases h1 : movedE p s k n = 0
      · obtain ⟨-, i, f, b, g, N, rfl, hi⟩ := movedIn h1
        have HI : Hid (MovedIn p s i f b g N n) := hi
        have HSC : Hid (SameT c (movedT s i n)) := by have h := HCOK.out.1 h1; rw [Int.toNat_natCast] at h; exact h
        have HRC : Hid (RightT p c) := HSC.out.right (moved_right hi)
        have HEC : Hid (stateE p c = 0) := stateE_of HRC.out
        have ikn := hi.kn
        have n0 := hi.n0
        have nN : n ≤ 200 := by have := hi.nN; have := hi.N2; omega
        have cmn : c.ms.n = s.ms.n - 1 := HSC.out.ms.1
        have i0 : decide ((i : Int) < 0) = false := decide_eq_false (by omega)
        have i1 : decide ((s.ms.n : Int) ≤ (i : Int)) = false := decide_eq_false (by omega)
        have i2 : decide (s.ms.n ≤ i) = false := decide_eq_false (by omega)
        have i3 : (0 : Int) ≤ (i : Int) := by omega
        have i4 : (i : Int) < (s.ms.n : Int) := by omega
        have i5 : ((c.ms.n : Int) != (s.ms.n : Int) - 1) = false := by rw [cmn]; simp; omega
        have i6 : ¬ s.ms.n ≤ i := by omega
        have HCN : Hid (c.on.n = p.nb) := HRC.out.fm.sh.n
        have HMZ : Hid (s.ms.z i = ⟨g, f, b, N⟩) := hi.m
        have ms8 := HR.out.fm.ms8
        have HNUM : Hid (∀ ii jj, ii < p.nb → jj < p.ns → (c.on.r ii).z jj = (s.on.r ii).z jj + if jj = g then (if ii = b then n else if ii = f then -n else 0) else 0) := fun ii jj h2 h3 => by
          rw [HSC.out.num (moved_right HI.out).fm h2 h3]
          exact moved_num HI.out ii jj
        have hne := hi.ne
        rw [h1]
        clear h1 HCOK hi cmn
        obtain ⟨⟨⟨l1, d0, d1⟩, l2, c0, c1, c2, c3, c4, c5, c6⟩, -, -, -⟩ := HC.out W7 HB.out
        obtain ⟨cm, cc0, cc1, cc2, cc3, cc4, cc5, cc6⟩ := Boxed.of Hc.out.2
        rw [← HW.out] at l1 d0 d1 l2 c0 c1 c2 c3 c4 c5 c6 cm cc0 cc1 cc2 cc3 cc4 cc5 cc6
        simp only [St.val]
        go_wp2_with fail
        rw [HW.out]
        clear HW
        generalize w6.heap.size = Bc at *
        clear l1 d0 d1 l2 c0 c1 c2 c3 c4 c5 c6 cm cc0 cc1 cc2 cc3 cc4 cc5 cc6
        refine Calls.mono (Check_rightW p c W7 (HC.out W7 HB.out).2.1 Hc.out.1 HEC.out) ?_
        rintro e w8 ⟨rfl, hB⟩
        have Ha : Hid (a.At w8 ∧ Blk w8 Ba 31 7 (fun j => a.cells.getD j default)) := ⟨Ha.out.1.below hB, Ha.out.2.below hB⟩
        have Hc : Hid (c.At w8 ∧ Blk w8 Bc 31 7 (fun j => c.cells.getD j default)) := ⟨Hc.out.1.below hB, Hc.out.2.below hB⟩
        have HB : Hid (Below W0.heap.size W0 w8) := HB.out.trans (hB.mono HB.out.size)
        clear hB
        obtain ⟨⟨⟨l1, d0, d1⟩, l2, c0, c1, c2, c3, c4, c5, c6⟩, -, -, -⟩ := HC.out w8 HB.out
        obtain ⟨cm, cc0, cc1, cc2, cc3, cc4, cc5, cc6⟩ := Boxed.of Hc.out.2
        obtain ⟨b5, o5, ha5, hb5, y50, y51, y52, y53⟩ := (HC.out w8 HB.out).2.2.1.ms.hds i ikn
        rw [HMZ.out] at y50 y51 y52 y53
        dsimp only at y50 y51 y52 y53
        rw [ha5] at c3
        clear ha5
        obtain ⟨Z, hZ⟩ : ∃ Z : Hd, Z = ⟨g, f, b, N⟩ := ⟨_, rfl⟩
        obtain ⟨W9, hW, hWB, K1⟩ : ∃ W, w8.alloc (.cells #[.int .i64 Z.o, .int .i64 Z.l, .int .i64 Z.b, .int .i64 Z.n] 55) = W ∧ Below w8.heap.size w8 W ∧ Blk W w8.heap.size 55 4 (fun j => (#[.int .i64 Z.o, .int .i64 Z.l, .int .i64 Z.b, .int .i64 Z.n] : Array Value).getD j default) := ⟨_, rfl, (Below.refl _ _).alloc (Nat.le_refl _) _, Blk.mk' rfl rfl⟩
        have HW : Hid (w8.alloc (.cells #[.int .i64 Z.o, .int .i64 Z.l, .int .i64 Z.b, .int .i64 Z.n] 55) = W9) := hW
        have HLB : Hid (Blk W9 w8.heap.size 55 4 (fun j => (#[.int .i64 Z.o, .int .i64 Z.l, .int .i64 Z.b, .int .i64 Z.n] : Array Value).getD j default)) := K1
        clear hW K1
        have Ha : Hid (a.At W9 ∧ Blk W9 Ba 31 7 (fun j => a.cells.getD j default)) := ⟨Ha.out.1.below hWB, Ha.out.2.below hWB⟩
        have Hc : Hid (c.At W9 ∧ Blk W9 Bc 31 7 (fun j => c.cells.getD j default)) := ⟨Hc.out.1.below hWB, Hc.out.2.below hWB⟩
        have HB : Hid (Below W0.heap.size W0 W9) := HB.out.trans (hWB.mono HB.out.size)
        clear hWB
        rw [hZ] at HW HLB
        dsimp only at HW HLB
        clear hZ
        go_wp2_with fail
        rw [HW.out]
        clear HW hb5 y50 y51 y52 y53 l1 d0 d1 l2 c0 c1 c2 c3 c4 c5 c6 cm cc0 cc1 cc2 cc3 cc4 cc5 cc6
        generalize w8.heap.size = BL at *
        go_loopw [21] (fun iv wk => ∃ ii : Nat, ii ≤ s.on.n ∧ iv = .int .i64 ii ∧ Hid (a.At wk ∧ Blk wk Ba 31 7 (fun j => a.cells.getD j default)) ∧ Hid (c.At wk ∧ Blk wk Bc 31 7 (fun j => c.cells.getD j default)) ∧ Hid (Blk wk BL 55 4 (fun j => (#[.int .i64 (g : Int), .int .i64 (f : Int), .int .i64 (b : Int), .int .i64 N] : Array Value).getD j default)) ∧ Hid (Below W0.heap.size W0 wk)) (fun iv _ => s.on.n - (intOf iv).toNat)
        case atStart => exact ⟨0, Nat.zero_le _, rfl, Ha, Hc, HLB, HB⟩
        case round =>
          clear Ha Hc HLB HB
          obtain ⟨ii, hii, rfl, Ha, Hc, HLB, HB⟩ := hrel
          by_cases hil : ii < s.on.n
          · have r0 : (0 : Int) ≤ (ii : Int) := by omega
            have r1 : (ii : Int) < (s.on.n : Int) := by omega
            have hip : ii < p.nb := by rw [← HSN.out]; exact hil
            have icn : ii < c.on.n := by rw [HCN.out]; exact hip
            have HRS : Hid ((s.on.r ii).n = p.ns) := HR.out.fm.sh.len ii hil
            have HRCN : Hid ((c.on.r ii).n = p.ns) := HRC.out.fm.sh.len ii icn
            have t1 : decide ((c.on.n : Int) ≤ (ii : Int)) = false := decide_eq_false (by omega)
            have t2 : decide (c.on.n ≤ ii) = false := decide_eq_false (by omega)
            have t3 : (ii : Int) < (c.on.n : Int) := by omega
            have t4 : ¬ c.on.n ≤ ii := by omega
            obtain ⟨⟨⟨l1, d0, d1⟩, l2, c0, c1, c2, c3, c4, c5, c6⟩, -, -, -⟩ := HC.out wr HB.out
            go_wp2_with fail
            clear l1 d0 d1 l2 c0 c1 c2 c3 c4 c5 c6
            go_loopw [22] (fun jv wk => ∃ jj : Nat, jj ≤ p.ns ∧ jv = .int .i64 jj ∧ Hid (a.At wk ∧ Blk wk Ba 31 7 (fun j => a.cells.getD j default)) ∧ Hid (c.At wk ∧ Blk wk Bc 31 7 (fun j => c.cells.getD j default)) ∧ Hid (Blk wk BL 55 4 (fun j => (#[.int .i64 (g : Int), .int .i64 (f : Int), .int .i64 (b : Int), .int .i64 N] : Array Value).getD j default)) ∧ Hid (Below W0.heap.size W0 wk)) (fun jv _ => p.ns - (intOf jv).toNat)
            case atStart => exact ⟨0, Nat.zero_le _, rfl, Ha, Hc, HLB, HB⟩
            case round =>
              clear Ha Hc HLB HB
              obtain ⟨jj, hjj, rfl, Ha, Hc, HLB, HB⟩ := hrel
              by_cases hjl : jj < p.ns
              · have w0j : (0 : Int) ≤ (jj : Int) := by omega
                have w1j : (jj : Int) < (p.ns : Int) := by omega
                have w2j : decide ((p.ns : Int) ≤ (jj : Int)) = false := decide_eq_false (by omega)
                have w3j : decide (p.ns ≤ jj) = false := decide_eq_false (by omega)
                have w4j : ¬ p.ns ≤ jj := by omega
                have nu := HR.out.fm.sh.num ii hil jj hjl
                have HEQ : Hid ((c.on.r ii).z jj = (s.on.r ii).z jj + if jj = g then (if ii = b then n else if ii = f then -n else 0) else 0) := HNUM.out ii jj hip hjl
                by_cases jg : jj = g
                · have e1 : ((jj : Int) == (g : Int)) = true := by rw [beq_iff_eq]; omega
                  by_cases ib : ii = b
                  · have e2 : ((ii : Int) == (b : Int)) = true := by rw [beq_iff_eq]; omega
                    have e3 : ((ii : Int) == (f : Int)) = false := beq_eq_false_iff_ne.2 (by omega)
                    have HVV : Hid ((c.on.r ii).z jj = (s.on.r ii).z jj + n) := by show _ = _; rw [HEQ.out, if_pos jg, if_pos ib]
                    clear HEQ jg ib
                    obtain ⟨⟨⟨l1, d0, d1⟩, l2, c0, c1, c2, c3, c4, c5, c6⟩, -, -, -⟩ := HC.out wr HB.out
                    obtain ⟨cm, cc0, cc1, cc2, cc3, cc4, cc5, cc6⟩ := Boxed.of Hc.out.2
                    obtain ⟨b7, o7, ha7, hb7, x7, hrow⟩ := (HC.out wr HB.out).2.2.1.on.rows ii hil
                    have v1 := hrow.le
                    have v2 := hrow.cap
                    unfold maxLen at v2
                    rw [ha7] at c0
                    rw [HRS.out] at x7 v1
                    clear ha7
                    obtain ⟨b8, o8, ha8, hb8, x8⟩ := hrow.ints jj (by rw [HRS.out]; exact hjl)
                    rw [ha8] at x7
                    obtain ⟨b9, o9, ha9, hb9, x9, crow⟩ := Hc.out.1.on.rows ii icn
                    obtain ⟨bA, oA, haA, hbA, xA⟩ := crow.ints jj (by rw [HRCN.out]; exact hjl)
                    have v3 := crow.le
                    have v4 := crow.cap
                    unfold maxLen at v4
                    rw [ha9] at cc0
                    rw [haA, HRCN.out] at x9
                    rw [HRCN.out] at v3
                    clear ha8 ha9 haA crow
                    have a0 : wr.cell? ⟨BL, 0, none⟩ = some (.int .i64 (g : Int)) := HLB.out.cell (j := 0) (by decide)
                    have a1 : wr.cell? ⟨BL, 1, none⟩ = some (.int .i64 (f : Int)) := HLB.out.cell (j := 1) (by decide)
                    have a2 : wr.cell? ⟨BL, 2, none⟩ = some (.int .i64 (b : Int)) := HLB.out.cell (j := 2) (by decide)
                    have a4 := HLB.out.lt
                    clear hrow
                    rw [HVV.out] at xA
                    have vv : ((s.on.r ii).z jj + n != (s.on.r ii).z jj + n) = false := by simp
                    generalize (s.on.r ii).z jj = SV at *
                    have rc0 := fun d os => cell_regrown c0 d os
                    have rcc0 := fun d os => cell_regrown cc0 d os
                    have rx7 := fun d os => cell_regrown x7 d os
                    have rx8 := fun d os => cell_regrown x8 d os
                    have rx9 := fun d os => cell_regrown x9 d os
                    have rxA := fun d os => cell_regrown xA d os
                    go_wp2_with fail
                    refine wp_region_quiet_below (by kernel_rfl) (by kernel_rfl) ?_
                    repeat (go_big_quiet_step ((fail)))
                    refine wpQuiet_nil ?_
                    intro w6 hwq
                    have hB := below_of_regrown hwq
                    clear hwq rc0 rcc0 rx7 rx8 rx9 rxA
                    have Ha : Hid (a.At w6 ∧ Blk w6 Ba 31 7 (fun j => a.cells.getD j default)) := ⟨Ha.out.1.below hB, Ha.out.2.below hB⟩
                    have Hc : Hid (c.At w6 ∧ Blk w6 Bc 31 7 (fun j => c.cells.getD j default)) := ⟨Hc.out.1.below hB, Hc.out.2.below hB⟩
                    have HLB : Hid (Blk w6 BL 55 4 (fun j => (#[.int .i64 (g : Int), .int .i64 (f : Int), .int .i64 (b : Int), .int .i64 N] : Array Value).getD j default)) := HLB.out.below hB
                    have HB : Hid (Below W0.heap.size W0 w6) := HB.out.trans (hB.mono HB.out.size)
                    clear hB
                    clear l1 d0 d1 l2 c0 c1 c2 c3 c4 c5 c6 cm cc0 cc1 cc2 cc3 cc4 cc5 cc6 hb7 x7 v1 v2 hb8 x8 hb9 x9 hbA xA v3 v4 a0 a1 a2 a4
                    go_wp2_with fail
                    go_roundw
                    case rel => exact ⟨jj + 1, by omega, by go_num, Ha, Hc, HLB, HB⟩
                    case measure => simp [intOf]; omega
                  · have e2 : ((ii : Int) == (b : Int)) = false := beq_eq_false_iff_ne.2 (by omega)
                    by_cases jf : ii = f
                    · have e3 : ((ii : Int) == (f : Int)) = true := by rw [beq_iff_eq]; omega
                      have HVV : Hid ((c.on.r ii).z jj = (s.on.r ii).z jj + -n) := by show _ = _; rw [HEQ.out, if_pos jg, if_neg ib, if_pos jf]
                      clear HEQ jg ib jf
                      obtain ⟨⟨⟨l1, d0, d1⟩, l2, c0, c1, c2, c3, c4, c5, c6⟩, -, -, -⟩ := HC.out wr HB.out
                      obtain ⟨cm, cc0, cc1, cc2, cc3, cc4, cc5, cc6⟩ := Boxed.of Hc.out.2
                      obtain ⟨b7, o7, ha7, hb7, x7, hrow⟩ := (HC.out wr HB.out).2.2.1.on.rows ii hil
                      have v1 := hrow.le
                      have v2 := hrow.cap
                      unfold maxLen at v2
                      rw [ha7] at c0
                      rw [HRS.out] at x7 v1
                      clear ha7
                      obtain ⟨b8, o8, ha8, hb8, x8⟩ := hrow.ints jj (by rw [HRS.out]; exact hjl)
                      rw [ha8] at x7
                      obtain ⟨b9, o9, ha9, hb9, x9, crow⟩ := Hc.out.1.on.rows ii icn
                      obtain ⟨bA, oA, haA, hbA, xA⟩ := crow.ints jj (by rw [HRCN.out]; exact hjl)
                      have v3 := crow.le
                      have v4 := crow.cap
                      unfold maxLen at v4
                      rw [ha9] at cc0
                      rw [haA, HRCN.out] at x9
                      rw [HRCN.out] at v3
                      clear ha8 ha9 haA crow
                      have a0 : wr.cell? ⟨BL, 0, none⟩ = some (.int .i64 (g : Int)) := HLB.out.cell (j := 0) (by decide)
                      have a1 : wr.cell? ⟨BL, 1, none⟩ = some (.int .i64 (f : Int)) := HLB.out.cell (j := 1) (by decide)
                      have a2 : wr.cell? ⟨BL, 2, none⟩ = some (.int .i64 (b : Int)) := HLB.out.cell (j := 2) (by decide)
                      have a4 := HLB.out.lt
                      clear hrow
                      rw [HVV.out] at xA
                      have vv : ((s.on.r ii).z jj + -n != (s.on.r ii).z jj + -n) = false := by simp
                      generalize (s.on.r ii).z jj = SV at *
                      have rc0 := fun d os => cell_regrown c0 d os
                      have rcc0 := fun d os => cell_regrown cc0 d os
                      have rx7 := fun d os => cell_regrown x7 d os
                      have rx8 := fun d os => cell_regrown x8 d os
                      have rx9 := fun d os => cell_regrown x9 d os
                      have rxA := fun d os => cell_regrown xA d os
                      go_wp2_with fail
                      refine wp_region_quiet_below (by kernel_rfl) (by kernel_rfl) ?_
                      repeat (go_big_quiet_step ((fail)))
                      refine wpQuiet_nil ?_
                      intro w6 hwq
                      have hB := below_of_regrown hwq
                      clear hwq rc0 rcc0 rx7 rx8 rx9 rxA
                      have Ha : Hid (a.At w6 ∧ Blk w6 Ba 31 7 (fun j => a.cells.getD j default)) := ⟨Ha.out.1.below hB, Ha.out.2.below hB⟩
                      have Hc : Hid (c.At w6 ∧ Blk w6 Bc 31 7 (fun j => c.cells.getD j default)) := ⟨Hc.out.1.below hB, Hc.out.2.below hB⟩
                      have HLB : Hid (Blk w6 BL 55 4 (fun j => (#[.int .i64 (g : Int), .int .i64 (f : Int), .int .i64 (b : Int), .int .i64 N] : Array Value).getD j default)) := HLB.out.below hB
                      have HB : Hid (Below W0.heap.size W0 w6) := HB.out.trans (hB.mono HB.out.size)
                      clear hB
                      clear l1 d0 d1 l2 c0 c1 c2 c3 c4 c5 c6 cm cc0 cc1 cc2 cc3 cc4 cc5 cc6 hb7 x7 v1 v2 hb8 x8 hb9 x9 hbA xA v3 v4 a0 a1 a2 a4
                      go_wp2_with fail
                      go_roundw
                      case rel => exact ⟨jj + 1, by omega, by go_num, Ha, Hc, HLB, HB⟩
                      case measure => simp [intOf]; omega
                    · have e3 : ((ii : Int) == (f : Int)) = false := beq_eq_false_iff_ne.2 (by omega)
                      have HVV : Hid ((c.on.r ii).z jj = (s.on.r ii).z jj + 0) := by show _ = _; rw [HEQ.out, if_pos jg, if_neg ib, if_neg jf]
                      clear HEQ jg ib jf
                      obtain ⟨⟨⟨l1, d0, d1⟩, l2, c0, c1, c2, c3, c4, c5, c6⟩, -, -, -⟩ := HC.out wr HB.out
                      obtain ⟨cm, cc0, cc1, cc2, cc3, cc4, cc5, cc6⟩ := Boxed.of Hc.out.2
                      obtain ⟨b7, o7, ha7, hb7, x7, hrow⟩ := (HC.out wr HB.out).2.2.1.on.rows ii hil
                      have v1 := hrow.le
                      have v2 := hrow.cap
                      unfold maxLen at v2
                      rw [ha7] at c0
                      rw [HRS.out] at x7 v1
                      clear ha7
                      obtain ⟨b8, o8, ha8, hb8, x8⟩ := hrow.ints jj (by rw [HRS.out]; exact hjl)
                      rw [ha8] at x7
                      obtain ⟨b9, o9, ha9, hb9, x9, crow⟩ := Hc.out.1.on.rows ii icn
                      obtain ⟨bA, oA, haA, hbA, xA⟩ := crow.ints jj (by rw [HRCN.out]; exact hjl)
                      have v3 := crow.le
                      have v4 := crow.cap
                      unfold maxLen at v4
                      rw [ha9] at cc0
                      rw [haA, HRCN.out] at x9
                      rw [HRCN.out] at v3
                      clear ha8 ha9 haA crow
                      have a0 : wr.cell? ⟨BL, 0, none⟩ = some (.int .i64 (g : Int)) := HLB.out.cell (j := 0) (by decide)
                      have a1 : wr.cell? ⟨BL, 1, none⟩ = some (.int .i64 (f : Int)) := HLB.out.cell (j := 1) (by decide)
                      have a2 : wr.cell? ⟨BL, 2, none⟩ = some (.int .i64 (b : Int)) := HLB.out.cell (j := 2) (by decide)
                      have a4 := HLB.out.lt
                      clear hrow
                      rw [HVV.out] at xA
                      have vv : ((s.on.r ii).z jj + 0 != (s.on.r ii).z jj + 0) = false := by simp
                      generalize (s.on.r ii).z jj = SV at *
                      have rc0 := fun d os => cell_regrown c0 d os
                      have rcc0 := fun d os => cell_regrown cc0 d os
                      have rx7 := fun d os => cell_regrown x7 d os
                      have rx8 := fun d os => cell_regrown x8 d os
                      have rx9 := fun d os => cell_regrown x9 d os
                      have rxA := fun d os => cell_regrown xA d os
                      go_wp2_with fail
                      refine wp_region_quiet_below (by kernel_rfl) (by kernel_rfl) ?_
                      repeat (go_big_quiet_step ((fail)))
                      refine wpQuiet_nil ?_
                      intro w6 hwq
                      have hB := below_of_regrown hwq
                      clear hwq rc0 rcc0 rx7 rx8 rx9 rxA
                      have Ha : Hid (a.At w6 ∧ Blk w6 Ba 31 7 (fun j => a.cells.getD j default)) := ⟨Ha.out.1.below hB, Ha.out.2.below hB⟩
                      have Hc : Hid (c.At w6 ∧ Blk w6 Bc 31 7 (fun j => c.cells.getD j default)) := ⟨Hc.out.1.below hB, Hc.out.2.below hB⟩
                      have HLB : Hid (Blk w6 BL 55 4 (fun j => (#[.int .i64 (g : Int), .int .i64 (f : Int), .int .i64 (b : Int), .int .i64 N] : Array Value).getD j default)) := HLB.out.below hB
                      have HB : Hid (Below W0.heap.size W0 w6) := HB.out.trans (hB.mono HB.out.size)
                      clear hB
                      clear l1 d0 d1 l2 c0 c1 c2 c3 c4 c5 c6 cm cc0 cc1 cc2 cc3 cc4 cc5 cc6 hb7 x7 v1 v2 hb8 x8 hb9 x9 hbA xA v3 v4 a0 a1 a2 a4
                      go_wp2_with fail
                      go_roundw
                      case rel => exact ⟨jj + 1, by omega, by go_num, Ha, Hc, HLB, HB⟩
                      case measure => simp [intOf]; omega
                · have e1 : ((jj : Int) == (g : Int)) = false := beq_eq_false_iff_ne.2 (by omega)
                  have HVV : Hid ((c.on.r ii).z jj = (s.on.r ii).z jj + 0) := by show _ = _; rw [HEQ.out, if_neg jg]
                  clear HEQ jg
                  obtain ⟨⟨⟨l1, d0, d1⟩, l2, c0, c1, c2, c3, c4, c5, c6⟩, -, -, -⟩ := HC.out wr HB.out
                  obtain ⟨cm, cc0, cc1, cc2, cc3, cc4, cc5, cc6⟩ := Boxed.of Hc.out.2
                  obtain ⟨b7, o7, ha7, hb7, x7, hrow⟩ := (HC.out wr HB.out).2.2.1.on.rows ii hil
                  have v1 := hrow.le
                  have v2 := hrow.cap
                  unfold maxLen at v2
                  rw [ha7] at c0
                  rw [HRS.out] at x7 v1
                  clear ha7
                  obtain ⟨b8, o8, ha8, hb8, x8⟩ := hrow.ints jj (by rw [HRS.out]; exact hjl)
                  rw [ha8] at x7
                  obtain ⟨b9, o9, ha9, hb9, x9, crow⟩ := Hc.out.1.on.rows ii icn
                  obtain ⟨bA, oA, haA, hbA, xA⟩ := crow.ints jj (by rw [HRCN.out]; exact hjl)
                  have v3 := crow.le
                  have v4 := crow.cap
                  unfold maxLen at v4
                  rw [ha9] at cc0
                  rw [haA, HRCN.out] at x9
                  rw [HRCN.out] at v3
                  clear ha8 ha9 haA crow
                  have a0 : wr.cell? ⟨BL, 0, none⟩ = some (.int .i64 (g : Int)) := HLB.out.cell (j := 0) (by decide)
                  have a1 : wr.cell? ⟨BL, 1, none⟩ = some (.int .i64 (f : Int)) := HLB.out.cell (j := 1) (by decide)
                  have a2 : wr.cell? ⟨BL, 2, none⟩ = some (.int .i64 (b : Int)) := HLB.out.cell (j := 2) (by decide)
                  have a4 := HLB.out.lt
                  clear hrow
                  rw [HVV.out] at xA
                  have vv : ((s.on.r ii).z jj + 0 != (s.on.r ii).z jj + 0) = false := by simp
                  generalize (s.on.r ii).z jj = SV at *
                  have rc0 := fun d os => cell_regrown c0 d os
                  have rcc0 := fun d os => cell_regrown cc0 d os
                  have rx7 := fun d os => cell_regrown x7 d os
                  have rx8 := fun d os => cell_regrown x8 d os
                  have rx9 := fun d os => cell_regrown x9 d os
                  have rxA := fun d os => cell_regrown xA d os
                  go_wp2_with fail
                  refine wp_region_quiet_below (by kernel_rfl) (by kernel_rfl) ?_
                  repeat (go_big_quiet_step ((fail)))
                  refine wpQuiet_nil ?_
                  intro w6 hwq
                  have hB := below_of_regrown hwq
                  clear hwq rc0 rcc0 rx7 rx8 rx9 rxA
                  have Ha : Hid (a.At w6 ∧ Blk w6 Ba 31 7 (fun j => a.cells.getD j default)) := ⟨Ha.out.1.below hB, Ha.out.2.below hB⟩
                  have Hc : Hid (c.At w6 ∧ Blk w6 Bc 31 7 (fun j => c.cells.getD j default)) := ⟨Hc.out.1.below hB, Hc.out.2.below hB⟩
                  have HLB : Hid (Blk w6 BL 55 4 (fun j => (#[.int .i64 (g : Int), .int .i64 (f : Int), .int .i64 (b : Int), .int .i64 N] : Array Value).getD j default)) := HLB.out.below hB
                  have HB : Hid (Below W0.heap.size W0 w6) := HB.out.trans (hB.mono HB.out.size)
                  clear hB
                  clear l1 d0 d1 l2 c0 c1 c2 c3 c4 c5 c6 cm cc0 cc1 cc2 cc3 cc4 cc5 cc6 hb7 x7 v1 v2 hb8 x8 hb9 x9 hbA xA v3 v4 a0 a1 a2 a4
                  go_wp2_with fail
                  go_roundw
                  case rel => exact ⟨jj + 1, by omega, by go_num, Ha, Hc, HLB, HB⟩
                  case measure => simp [intOf]; omega
              · have w1j : (p.ns : Int) ≤ (jj : Int) := by omega
                obtain ⟨⟨⟨l1, d0, d1⟩, l2, c0, c1, c2, c3, c4, c5, c6⟩, -, -, -⟩ := HC.out wr HB.out
                obtain ⟨cm, cc0, cc1, cc2, cc3, cc4, cc5, cc6⟩ := Boxed.of Hc.out.2
                obtain ⟨b7, o7, ha7, hb7, x7, hrow⟩ := (HC.out wr HB.out).2.2.1.on.rows ii hil
                have v1 := hrow.le
                have v2 := hrow.cap
                unfold maxLen at v2
                rw [ha7] at c0
                rw [HRS.out] at x7 v1
                clear ha7
                clear hrow
                go_wp2_with fail
                clear l1 d0 d1 l2 c0 c1 c2 c3 c4 c5 c6 cm cc0 cc1 cc2 cc3 cc4 cc5 cc6 hb7 x7 v1 v2
                go_roundw
                case rel => exact ⟨ii + 1, by omega, by go_num, Ha, Hc, HLB, HB⟩
                case measure => simp [intOf]; omega
          · have r1 : (s.on.n : Int) ≤ (ii : Int) := by omega
            obtain ⟨⟨⟨l1, d0, d1⟩, l2, c0, c1, c2, c3, c4, c5, c6⟩, -, -, -⟩ := HC.out wr HB.out
            go_wp2_with fail
            clear l1 d0 d1 l2 c0 c1 c2 c3 c4 c5 c6
            refine Calls.mono (fillBegun_any wr) ?_
            rintro e wz ⟨rfl, hB⟩
            have Ha : Hid (a.At wz ∧ Blk wz Ba 31 7 (fun j => a.cells.getD j default)) := ⟨Ha.out.1.below hB, Ha.out.2.below hB⟩
            have Hc : Hid (c.At wz ∧ Blk wz Bc 31 7 (fun j => c.cells.getD j default)) := ⟨Hc.out.1.below hB, Hc.out.2.below hB⟩
            have HLB : Hid (Blk wz BL 55 4 (fun j => (#[.int .i64 (g : Int), .int .i64 (f : Int), .int .i64 (b : Int), .int .i64 N] : Array Value).getD j default)) := HLB.out.below hB
            have HB : Hid (Below W0.heap.size W0 wz) := HB.out.trans (hB.mono HB.out.size)
            clear hB
            go_wp2_with fail
            go_ret
            exact ⟨rfl, (HC.out wz HB.out).2.2.2⟩
      · have g0 : (movedE p s k n != 0) = true := by simpa using h1
        clear h1 HCOK
        generalize movedE p s k n = EE at *
        simp only [St.val]
        go_wp2_with fail
        rw [HW.out]
        clear HW
        generalize w6.heap.size = Bc at *
        refine Calls.mono (fillBegun_any W7) ?_
        rintro e w8 ⟨rfl, hB⟩
        have Ha : Hid (a.At w8 ∧ Blk w8 Ba 31 7 (fun j => a.cells.getD j default)) := ⟨Ha.out.1.below hB, Ha.out.2.below hB⟩
        have Hc : Hid (c.At w8 ∧ Blk w8 Bc 31 7 (fun j => c.cells.getD j default)) := ⟨Hc.out.1.below hB, Hc.out.2.below hB⟩
        have HB : Hid (Below W0.heap.size W0 w8) := HB.out.trans (hB.mono HB.out.size)
        clear hB
        go_wp2_with fail
        go_ret
        exact ⟨rfl, (HC.out w8 HB.out).2.2.2⟩
  · have g0 : (stateE p s != 0) = true := by simpa using h0
    clear h0 HAOK
    generalize stateE p s = EE at *
    simp only [St.val]
    go_wp2_with fail
    rw [HW.out]
    clear HW
    generalize w1.heap.size = Ba at *
    refine Calls.mono (fillBegun_any W2) ?_
    rintro e w3 ⟨rfl, hB⟩
    have Ha : Hid (a.At w3 ∧ Blk w3 Ba 31 7 (fun j => a.cells.getD j default)) := ⟨Ha.out.1.below hB, Ha.out.2.below hB⟩
    have HB : Hid (Below W0.heap.size W0 w3) := HB.out.trans (hB.mono HB.out.size)
    clear hB
    go_wp2_with fail
    go_ret
    exact ⟨rfl, (HC.out w3 HB.out).2.2.2⟩
end Go.Proofs.Ytbcacebifpagpae
namespace Go.Proofs.Ytbcacebifpagpae
open Go.ChangeShapes Go.WideShapes Go.ChangeAt Go.RowKit Go.Joins Go.Deep
set_option linter.unusedVariables false
set_option maxRecDepth 100000
theorem own : ownKnob Try.prog.godebug = none := by kernel_rfl
theorem laidOut : laidOutB Try.prog = true := by kernel_rfl
theorem cellsInt : Try.prog.cellsOf 3 = 1 := by kernel_rfl
theorem cellsInts : Try.prog.cellsOf 23 = 1 := by kernel_rfl
theorem cellsBin : Try.prog.cellsOf 58 = 4 := by kernel_rfl
theorem cellsPlan : Try.prog.cellsOf 25 = 2 := by kernel_rfl
theorem cellsBool : Try.prog.cellsOf 4 = 1 := by kernel_rfl
section
variable {H : Type} {enc : TypeId × Value → H} {w : World} {held : Bool} {spare : Nat → Bool}
theorem addrOf {a : Addr} {i : Nat} {v : Value} (h : w.cell? (a.add i) = some v) (h0 : ∃ v0, w.cell? a = some v0) : ∃ b o, a = ⟨b, o, none⟩ ∧ b < w.heap.size ∧ w.cell? ⟨b, o + i, none⟩ = some v := by
  obtain ⟨b, off, spot⟩ := a
  obtain ⟨v0, h0⟩ := h0
  have hspot : spot = none := World.cell?_spot h0
  subst hspot
  refine ⟨b, off, rfl, World.block_lt_of_cell? w _ h0, ?_⟩
  rw [← Go.WideShapes.add_plain]
  exact h
theorem readInts {fuel : Nat} {cs : List Value} {x : DataW H × List MemPlace} (h : DataW.trod enc Try.prog w 0 spare held fuel 23 cs = some x) : ∃ r : Rw, cs = [r.val] ∧ r.At w := by
  rcases open_slice1 Try.underlying23 cellsInt h with ⟨rfl, _⟩ | ⟨a, len, cap, m, n, V, D, Pl, rfl, hb, hl, hm, hmm, _, hx⟩
  · exact ⟨⟨none, 0, 0, fun _ => 0⟩, rfl, Nat.le_refl _, Nat.zero_le _, fun i hi => absurd hi (Nat.not_lt_zero _)⟩
  · have hlm : len ≤ m := by rw [hmm]; split <;> omega
    obtain ⟨z, hz⟩ := choose_lt (α := Int) (n := len) (p := fun i y => V i = .int .i64 y) (fun i hi => by
      obtain ⟨y, hy, _⟩ := DataW.trod_int Try.underlying3 (hx i (by omega)).2
      simp only [List.cons.injEq, and_true] at hy
      exact ⟨y, hy⟩)
    refine ⟨⟨some a, len, cap, z⟩, rfl, hl, hm, fun i hi => ?_⟩
    have hi' : i < len := hi
    have h0 : ∃ v0, w.cell? a = some v0 := ⟨_, by have := (hx 0 (by omega)).1; simpa [Addr.add] using this⟩
    obtain ⟨b, o, rfl, hb', hc⟩ := addrOf (hx i (by omega)).1 h0
    exact ⟨b, o, rfl, hb', by rw [hc, hz i hi']⟩
theorem readRows {fuel : Nat} {cs : List Value} {x : DataW H × List MemPlace} (h : DataW.trod enc Try.prog w 0 spare held fuel 26 cs = some x) : ∃ s : Sh, cs = [s.val] ∧ s.At w := by
  rcases open_slice1 Try.underlying26 cellsInts h with ⟨rfl, _⟩ | ⟨a, len, cap, m, n, V, D, Pl, rfl, hb, hl, hm, hmm, _, hx⟩
  · exact ⟨⟨none, 0, 0, fun _ => ⟨none, 0, 0, fun _ => 0⟩⟩, rfl, Nat.le_refl _, Nat.zero_le _, fun i hi => absurd hi (Nat.not_lt_zero _)⟩
  · have hlm : len ≤ m := by rw [hmm]; split <;> omega
    haveI : Inhabited Rw := ⟨⟨none, 0, 0, fun _ => 0⟩⟩
    obtain ⟨z, hz⟩ := choose_lt (α := Rw) (n := len) (p := fun i y => V i = y.val ∧ y.At w) (fun i hi => by
      obtain ⟨y, hy, hat⟩ := readInts (hx i (by omega)).2
      simp only [List.cons.injEq, and_true] at hy
      exact ⟨y, hy, hat⟩)
    refine ⟨⟨some a, len, cap, z⟩, rfl, hl, hm, fun i hi => ?_⟩
    have hi' : i < len := hi
    have h0 : ∃ v0, w.cell? a = some v0 := ⟨_, by have := (hx 0 (by omega)).1; simpa [Addr.add] using this⟩
    obtain ⟨b, o, rfl, hb', hc⟩ := addrOf (hx i (by omega)).1 h0
    exact ⟨b, o, rfl, hb', by rw [hc, (hz i hi').1]; rfl, (hz i hi').2⟩
theorem readBin {fuel : Nat} {c0 c1 c2 c3 : Value} {x : DataW H × List MemPlace} (h : DataW.trod enc Try.prog w 0 spare held fuel 58 [c0, c1, c2, c3] = some x) : ∃ y : Bin, c0 = .bool y.front ∧ c1 = .int .i64 y.room ∧ c2 = .int .i64 y.low ∧ c3 = .int .i64 y.high := by
  obtain ⟨y0, y1, y2, y3, n, hx, hl, h0, h1, h2, h3⟩ := trod_struct4 Try.underlying58 h
  simp only [cellsBool, cellsInt, List.drop_succ_cons, List.drop_zero, List.take_succ_cons, List.take_zero] at h0 h1 h2 h3
  obtain ⟨b, e0, _⟩ := DataW.trod_bool Try.underlying4 h0
  obtain ⟨n1, e1, _⟩ := DataW.trod_int Try.underlying3 h1
  obtain ⟨n2, e2, _⟩ := DataW.trod_int Try.underlying3 h2
  obtain ⟨n3, e3, _⟩ := DataW.trod_int Try.underlying3 h3
  simp only [List.cons.injEq, and_true] at e0 e1 e2 e3
  exact ⟨⟨b, n1, n2, n3⟩, e0, e1, e2, e3⟩
theorem cells4 {base : Nat} {a : Addr} {cs : List Value} (h : w.cells? base a 4 = some cs) : ∃ c0 c1 c2 c3, cs = [c0, c1, c2, c3] ∧ w.cell? a = some c0 ∧ w.cell? (a.add 1) = some c1 ∧ w.cell? (a.add 2) = some c2 ∧ w.cell? (a.add 3) = some c3 := by
  obtain ⟨_, hlen, hc⟩ := World.cells?_some h
  match cs, hlen with
  | [c0, c1, c2, c3], _ =>
    refine ⟨c0, c1, c2, c3, rfl, ?_, ?_, ?_, ?_⟩
    · simpa [Addr.add] using hc 0 (by decide)
    · simpa using hc 1 (by decide)
    · simpa using hc 2 (by decide)
    · simpa using hc 3 (by decide)
theorem readBins {fuel : Nat} {cs : List Value} {x : DataW H × List MemPlace} (h : DataW.trod enc Try.prog w 0 spare held fuel 22 cs = some x) : ∃ a n c z, cs = [.slice a n c] ∧ n ≤ c ∧ c ≤ maxLen ∧ BinsAt w a n z := by
  rcases open_slice Try.underlying22 h with ⟨rfl, _⟩ | ⟨a, len, cap, m, n, D, Pl, rfl, hb, hl, hm, hmm, _, hx⟩
  · exact ⟨none, 0, 0, fun _ => ⟨false, 0, 0, 0⟩, rfl, Nat.le_refl _, Nat.zero_le _, fun i hi => absurd hi (Nat.not_lt_zero _)⟩
  · have hlm : len ≤ m := by rw [hmm]; split <;> omega
    rw [cellsBin] at hx
    haveI : Inhabited Bin := ⟨⟨false, 0, 0, 0⟩⟩
    obtain ⟨z, hz⟩ := choose_lt (α := Bin) (n := len) (p := fun i y => w.cell? (a.add (i * 4)) = some (.bool y.front) ∧ w.cell? (a.add (i * 4 + 1)) = some (.int .i64 y.room) ∧ w.cell? (a.add (i * 4 + 2)) = some (.int .i64 y.low) ∧ w.cell? (a.add (i * 4 + 3)) = some (.int .i64 y.high)) (fun i hi => by
      obtain ⟨cs', hc, ht⟩ := hx i (by omega)
      obtain ⟨c0, c1, c2, c3, rfl, k0, k1, k2, k3⟩ := cells4 hc
      obtain ⟨y, rfl, rfl, rfl, rfl⟩ := readBin ht
      rw [add_add] at k1 k2 k3
      exact ⟨y, k0, k1, k2, k3⟩)
    refine ⟨some a, len, cap, z, rfl, hl, hm, fun i hi => ?_⟩
    have h0 : ∃ v0, w.cell? a = some v0 := ⟨_, by have := (hz 0 (by omega)).1; simpa [Addr.add] using this⟩
    obtain ⟨k0, k1, k2, k3⟩ := hz i hi
    obtain ⟨b, o, rfl, hb', e0⟩ := addrOf k0 h0
    rw [Go.WideShapes.add_plain] at k1 k2 k3
    exact ⟨b, o, rfl, hb', e0, by rw [Nat.add_assoc]; exact k1, by rw [Nat.add_assoc]; exact k2, by rw [Nat.add_assoc]; exact k3⟩
theorem openPlan {r : Reach} {b0 : Nat} {v : Value} {d : DataW H} {ps : List MemPlace} (hv : Value.okWide Try.prog w r b0 25 v) (h : DataW.Trod enc Try.prog w 0 spare held 25 v d ps) : ∃ p : Pl, v = p.val ∧ p.At w := by
  obtain ⟨c0, c1, y0, y1, m, rfl, rfl, rfl, hy0, hy1⟩ := open_agg2 Try.underlying25 (by kernel_rfl) cellsPlan hv h
  obtain ⟨a, n, c, z, e0, h1, h2, h3⟩ := readBins hy0
  obtain ⟨rr, e1, hr⟩ := readInts hy1
  simp only [List.cons.injEq, and_true] at e0 e1
  subst e0 e1
  exact ⟨⟨a, n, c, z, rr.a, rr.n, rr.c, rr.z⟩, rfl, h1, h2, h3, hr.le, hr.cap, hr.ints⟩
end
end Go.Proofs.Ytbcacebifpagpae
namespace Go.Proofs.Ytbcacebifpagpae
open Go.ChangeShapes Go.WideShapes Go.ChangeAt Go.RowKit Go.Joins Go.Deep
set_option linter.unusedVariables false
set_option maxRecDepth 100000
namespace HoldsFrames
theorem own : ownKnob Try.prog.godebug = none := by kernel_rfl
theorem laidOut : laidOutB Try.prog = true := by kernel_rfl
theorem cellsInt : Try.prog.cellsOf 3 = 1 := by kernel_rfl
theorem cellsHold : Try.prog.cellsOf 70 = 4 := by kernel_rfl
section
variable {H : Type} {enc : TypeId × Value → H} {w : World} {held : Bool} {spare : Nat → Bool}
theorem addrOf {a : Addr} {i : Nat} {v : Value} (h : w.cell? (a.add i) = some v) (h0 : ∃ v0, w.cell? a = some v0) : ∃ b o, a = ⟨b, o, none⟩ ∧ b < w.heap.size ∧ w.cell? ⟨b, o + i, none⟩ = some v := by
  obtain ⟨b, off, spot⟩ := a
  obtain ⟨v0, h0⟩ := h0
  have hspot : spot = none := World.cell?_spot h0
  subst hspot
  refine ⟨b, off, rfl, World.block_lt_of_cell? w _ h0, ?_⟩
  rw [← Go.WideShapes.add_plain]
  exact h
theorem cells4 {base : Nat} {a : Addr} {cs : List Value} (h : w.cells? base a 4 = some cs) : ∃ c0 c1 c2 c3, cs = [c0, c1, c2, c3] ∧ w.cell? a = some c0 ∧ w.cell? (a.add 1) = some c1 ∧ w.cell? (a.add 2) = some c2 ∧ w.cell? (a.add 3) = some c3 := by
  obtain ⟨_, hlen, hc⟩ := World.cells?_some h
  match cs, hlen with
  | [c0, c1, c2, c3], _ =>
    refine ⟨c0, c1, c2, c3, rfl, ?_, ?_, ?_, ?_⟩
    · simpa [Addr.add] using hc 0 (by decide)
    · simpa using hc 1 (by decide)
    · simpa using hc 2 (by decide)
    · simpa using hc 3 (by decide)
theorem readHold {fuel : Nat} {c0 c1 c2 c3 : Value} {x : DataW H × List MemPlace} (h : DataW.trod enc Try.prog w 0 spare held fuel 70 [c0, c1, c2, c3] = some x) : ∃ y : Hd, c0 = .int .i64 y.o ∧ c1 = .int .i64 y.l ∧ c2 = .int .i64 y.b ∧ c3 = .int .i64 y.n := by
  obtain ⟨y0, y1, y2, y3, n, hx, hl, h0, h1, h2, h3⟩ := trod_struct4 Try.underlying70 h
  simp only [cellsInt, List.drop_succ_cons, List.drop_zero, List.take_succ_cons, List.take_zero] at h0 h1 h2 h3
  obtain ⟨n0, e0, _⟩ := DataW.trod_int Try.underlying3 h0
  obtain ⟨n1, e1, _⟩ := DataW.trod_int Try.underlying3 h1
  obtain ⟨n2, e2, _⟩ := DataW.trod_int Try.underlying3 h2
  obtain ⟨n3, e3, _⟩ := DataW.trod_int Try.underlying3 h3
  simp only [List.cons.injEq, and_true] at e0 e1 e2 e3
  exact ⟨⟨n0, n1, n2, n3⟩, e0, e1, e2, e3⟩
theorem readHolds {fuel : Nat} {cs : List Value} {x : DataW H × List MemPlace} (h : DataW.trod enc Try.prog w 0 spare held fuel 28 cs = some x) : ∃ s : Hs, cs = [s.val] ∧ s.At w := by
  rcases open_slice Try.underlying28 h with ⟨rfl, _⟩ | ⟨a, len, cap, m, n, D, Pl, rfl, hb, hl, hm, hmm, _, hx⟩
  · exact ⟨⟨none, 0, 0, fun _ => ⟨0, 0, 0, 0⟩⟩, rfl, Nat.le_refl _, Nat.zero_le _, fun i hi => absurd hi (Nat.not_lt_zero _), fun _ => rfl⟩
  · have hlm : len ≤ m := by rw [hmm]; split <;> omega
    rw [cellsHold] at hx
    haveI : Inhabited Hd := ⟨⟨0, 0, 0, 0⟩⟩
    obtain ⟨z, hz⟩ := choose_lt (α := Hd) (n := len) (p := fun i y => w.cell? (a.add (i * 4)) = some (.int .i64 y.o) ∧ w.cell? (a.add (i * 4 + 1)) = some (.int .i64 y.l) ∧ w.cell? (a.add (i * 4 + 2)) = some (.int .i64 y.b) ∧ w.cell? (a.add (i * 4 + 3)) = some (.int .i64 y.n)) (fun i hi => by
      obtain ⟨cs', hc, ht⟩ := hx i (by omega)
      obtain ⟨c0, c1, c2, c3, rfl, k0, k1, k2, k3⟩ := cells4 hc
      obtain ⟨y, rfl, rfl, rfl, rfl⟩ := readHold ht
      rw [add_add] at k1 k2 k3
      exact ⟨y, k0, k1, k2, k3⟩)
    refine ⟨⟨some a, len, cap, z⟩, rfl, hl, hm, fun i hi => ?_, fun h => by cases h⟩
    have hi' : i < len := hi
    have h0 : ∃ v0, w.cell? a = some v0 := ⟨_, by have := (hz 0 (by omega)).1; simpa [Addr.add] using this⟩
    obtain ⟨k0, k1, k2, k3⟩ := hz i hi'
    obtain ⟨b, o, rfl, hb', e0⟩ := addrOf k0 h0
    rw [Go.WideShapes.add_plain] at k1 k2 k3
    exact ⟨b, o, rfl, hb', e0, by rw [Nat.add_assoc]; exact k1, by rw [Nat.add_assoc]; exact k2, by rw [Nat.add_assoc]; exact k3⟩
end
end HoldsFrames
end Go.Proofs.Ytbcacebifpagpae
namespace Go.Proofs.Ytbcacebifpagpae
open Go.ChangeShapes Go.WideShapes Go.ChangeAt Go.RowKit Go.Joins Go.Deep
set_option linter.unusedVariables false
set_option maxRecDepth 100000
theorem cellsLine : Try.prog.cellsOf 40 = 4 := by kernel_rfl
theorem cellsMove : Try.prog.cellsOf 55 = 4 := by kernel_rfl
theorem cellsOrder : Try.prog.cellsOf 38 = 2 := by kernel_rfl
theorem cellsState : Try.prog.cellsOf 31 = 7 := by kernel_rfl
theorem cellsLines : Try.prog.cellsOf 36 = 1 := by kernel_rfl
theorem cellsMoves : Try.prog.cellsOf 29 = 1 := by kernel_rfl
theorem cellsOrders : Try.prog.cellsOf 27 = 1 := by kernel_rfl
theorem cellsHolds : Try.prog.cellsOf 28 = 1 := by kernel_rfl
theorem cellsRows : Try.prog.cellsOf 26 = 1 := by kernel_rfl
section
variable {H : Type} {enc : TypeId × Value → H} {w : World} {held : Bool} {spare : Nat → Bool}
theorem readLine {fuel : Nat} {c0 c1 c2 c3 : Value} {x : DataW H × List MemPlace} (h : DataW.trod enc Try.prog w 0 spare held fuel 40 [c0, c1, c2, c3] = some x) : ∃ y : Hd, c0 = .int .i64 y.o ∧ c1 = .int .i64 y.l ∧ c2 = .int .i64 y.b ∧ c3 = .int .i64 y.n := by
  obtain ⟨y0, y1, y2, y3, n, hx, hl, h0, h1, h2, h3⟩ := trod_struct4 Try.underlying40 h
  simp only [cellsInt, List.drop_succ_cons, List.drop_zero, List.take_succ_cons, List.take_zero] at h0 h1 h2 h3
  obtain ⟨n0, e0, _⟩ := DataW.trod_int Try.underlying3 h0
  obtain ⟨n1, e1, _⟩ := DataW.trod_int Try.underlying3 h1
  obtain ⟨n2, e2, _⟩ := DataW.trod_int Try.underlying3 h2
  obtain ⟨n3, e3, _⟩ := DataW.trod_int Try.underlying3 h3
  simp only [List.cons.injEq, and_true] at e0 e1 e2 e3
  exact ⟨⟨n0, n1, n2, n3⟩, e0, e1, e2, e3⟩
theorem readLines {fuel : Nat} {cs : List Value} {x : DataW H × List MemPlace} (h : DataW.trod enc Try.prog w 0 spare held fuel 36 cs = some x) : ∃ s : Hs, cs = [s.val] ∧ s.At w := by
  rcases open_slice Try.underlying36 h with ⟨rfl, _⟩ | ⟨a, len, cap, m, n, D, Pl, rfl, hb, hl, hm, hmm, _, hx⟩
  · exact ⟨⟨none, 0, 0, fun _ => ⟨0, 0, 0, 0⟩⟩, rfl, Nat.le_refl _, Nat.zero_le _, fun i hi => absurd hi (Nat.not_lt_zero _), fun _ => rfl⟩
  · have hlm : len ≤ m := by rw [hmm]; split <;> omega
    rw [cellsLine] at hx
    haveI : Inhabited Hd := ⟨⟨0, 0, 0, 0⟩⟩
    obtain ⟨z, hz⟩ := choose_lt (α := Hd) (n := len) (p := fun i y => w.cell? (a.add (i * 4)) = some (.int .i64 y.o) ∧ w.cell? (a.add (i * 4 + 1)) = some (.int .i64 y.l) ∧ w.cell? (a.add (i * 4 + 2)) = some (.int .i64 y.b) ∧ w.cell? (a.add (i * 4 + 3)) = some (.int .i64 y.n)) (fun i hi => by
      obtain ⟨cs', hc, ht⟩ := hx i (by omega)
      obtain ⟨c0, c1, c2, c3, rfl, k0, k1, k2, k3⟩ := cells4 hc
      obtain ⟨y, rfl, rfl, rfl, rfl⟩ := readLine ht
      rw [add_add] at k1 k2 k3
      exact ⟨y, k0, k1, k2, k3⟩)
    refine ⟨⟨some a, len, cap, z⟩, rfl, hl, hm, fun i hi => ?_, fun h => by cases h⟩
    have hi' : i < len := hi
    have h0 : ∃ v0, w.cell? a = some v0 := ⟨_, by have := (hz 0 (by omega)).1; simpa [Addr.add] using this⟩
    obtain ⟨k0, k1, k2, k3⟩ := hz i hi'
    obtain ⟨b, o, rfl, hb', e0⟩ := addrOf k0 h0
    rw [Go.WideShapes.add_plain] at k1 k2 k3
    exact ⟨b, o, rfl, hb', e0, by rw [Nat.add_assoc]; exact k1, by rw [Nat.add_assoc]; exact k2, by rw [Nat.add_assoc]; exact k3⟩
theorem readMove {fuel : Nat} {c0 c1 c2 c3 : Value} {x : DataW H × List MemPlace} (h : DataW.trod enc Try.prog w 0 spare held fuel 55 [c0, c1, c2, c3] = some x) : ∃ y : Hd, c0 = .int .i64 y.o ∧ c1 = .int .i64 y.l ∧ c2 = .int .i64 y.b ∧ c3 = .int .i64 y.n := by
  obtain ⟨y0, y1, y2, y3, n, hx, hl, h0, h1, h2, h3⟩ := trod_struct4 Try.underlying55 h
  simp only [cellsInt, List.drop_succ_cons, List.drop_zero, List.take_succ_cons, List.take_zero] at h0 h1 h2 h3
  obtain ⟨n0, e0, _⟩ := DataW.trod_int Try.underlying3 h0
  obtain ⟨n1, e1, _⟩ := DataW.trod_int Try.underlying3 h1
  obtain ⟨n2, e2, _⟩ := DataW.trod_int Try.underlying3 h2
  obtain ⟨n3, e3, _⟩ := DataW.trod_int Try.underlying3 h3
  simp only [List.cons.injEq, and_true] at e0 e1 e2 e3
  exact ⟨⟨n0, n1, n2, n3⟩, e0, e1, e2, e3⟩
theorem readMoves {fuel : Nat} {cs : List Value} {x : DataW H × List MemPlace} (h : DataW.trod enc Try.prog w 0 spare held fuel 29 cs = some x) : ∃ s : Hs, cs = [s.val] ∧ s.At w := by
  rcases open_slice Try.underlying29 h with ⟨rfl, _⟩ | ⟨a, len, cap, m, n, D, Pl, rfl, hb, hl, hm, hmm, _, hx⟩
  · exact ⟨⟨none, 0, 0, fun _ => ⟨0, 0, 0, 0⟩⟩, rfl, Nat.le_refl _, Nat.zero_le _, fun i hi => absurd hi (Nat.not_lt_zero _), fun _ => rfl⟩
  · have hlm : len ≤ m := by rw [hmm]; split <;> omega
    rw [cellsMove] at hx
    haveI : Inhabited Hd := ⟨⟨0, 0, 0, 0⟩⟩
    obtain ⟨z, hz⟩ := choose_lt (α := Hd) (n := len) (p := fun i y => w.cell? (a.add (i * 4)) = some (.int .i64 y.o) ∧ w.cell? (a.add (i * 4 + 1)) = some (.int .i64 y.l) ∧ w.cell? (a.add (i * 4 + 2)) = some (.int .i64 y.b) ∧ w.cell? (a.add (i * 4 + 3)) = some (.int .i64 y.n)) (fun i hi => by
      obtain ⟨cs', hc, ht⟩ := hx i (by omega)
      obtain ⟨c0, c1, c2, c3, rfl, k0, k1, k2, k3⟩ := cells4 hc
      obtain ⟨y, rfl, rfl, rfl, rfl⟩ := readMove ht
      rw [add_add] at k1 k2 k3
      exact ⟨y, k0, k1, k2, k3⟩)
    refine ⟨⟨some a, len, cap, z⟩, rfl, hl, hm, fun i hi => ?_, fun h => by cases h⟩
    have hi' : i < len := hi
    have h0 : ∃ v0, w.cell? a = some v0 := ⟨_, by have := (hz 0 (by omega)).1; simpa [Addr.add] using this⟩
    obtain ⟨k0, k1, k2, k3⟩ := hz i hi'
    obtain ⟨b, o, rfl, hb', e0⟩ := addrOf k0 h0
    rw [Go.WideShapes.add_plain] at k1 k2 k3
    exact ⟨b, o, rfl, hb', e0, by rw [Nat.add_assoc]; exact k1, by rw [Nat.add_assoc]; exact k2, by rw [Nat.add_assoc]; exact k3⟩
theorem cells2 {base : Nat} {a : Addr} {cs : List Value} (h : w.cells? base a 2 = some cs) : ∃ c0 c1, cs = [c0, c1] ∧ w.cell? a = some c0 ∧ w.cell? (a.add 1) = some c1 := by
  obtain ⟨_, hlen, hc⟩ := World.cells?_some h
  match cs, hlen with
  | [c0, c1], _ =>
    refine ⟨c0, c1, rfl, ?_, ?_⟩
    · simpa [Addr.add] using hc 0 (by decide)
    · simpa using hc 1 (by decide)
theorem readOrder {fuel : Nat} {c0 c1 : Value} {x : DataW H × List MemPlace} (h : DataW.trod enc Try.prog w 0 spare held fuel 38 [c0, c1] = some x) : ∃ y : Od, c0 = .int .i64 y.k ∧ c1 = .slice y.ls.a y.ls.n y.ls.c ∧ y.ls.At w := by
  obtain ⟨y0, y1, n, hx, hl, h0, h1⟩ := trod_struct2 Try.underlying38 h
  simp only [cellsInt, cellsLines, List.drop_succ_cons, List.drop_zero, List.take_succ_cons, List.take_zero] at h0 h1
  obtain ⟨n0, e0, _⟩ := DataW.trod_int Try.underlying3 h0
  obtain ⟨s, e1, hs⟩ := readLines h1
  simp only [List.cons.injEq, and_true] at e0 e1
  exact ⟨⟨n0, s⟩, e0, e1, hs⟩
theorem readOrders {fuel : Nat} {cs : List Value} {x : DataW H × List MemPlace} (h : DataW.trod enc Try.prog w 0 spare held fuel 27 cs = some x) : ∃ s : Go.Proofs.Ytbcacebifpagpae.Os, cs = [s.val] ∧ s.At w := by
  rcases open_slice Try.underlying27 h with ⟨rfl, _⟩ | ⟨a, len, cap, m, n, D, Pl, rfl, hb, hl, hm, hmm, _, hx⟩
  · exact ⟨⟨none, 0, 0, fun _ => ⟨0, ⟨none, 0, 0, fun _ => ⟨0, 0, 0, 0⟩⟩⟩⟩, rfl, Nat.le_refl _, Nat.zero_le _, fun i hi => absurd hi (Nat.not_lt_zero _)⟩
  · have hlm : len ≤ m := by rw [hmm]; split <;> omega
    rw [cellsOrder] at hx
    haveI : Inhabited Od := ⟨⟨0, ⟨none, 0, 0, fun _ => ⟨0, 0, 0, 0⟩⟩⟩⟩
    obtain ⟨z, hz⟩ := choose_lt (α := Od) (n := len) (p := fun i y => w.cell? (a.add (i * 2)) = some (.int .i64 y.k) ∧ w.cell? (a.add (i * 2 + 1)) = some (.slice y.ls.a y.ls.n y.ls.c) ∧ y.ls.At w) (fun i hi => by
      obtain ⟨cs', hc, ht⟩ := hx i (by omega)
      obtain ⟨c0, c1, rfl, k0, k1⟩ := cells2 hc
      obtain ⟨y, rfl, rfl, hy⟩ := readOrder ht
      rw [add_add] at k1
      exact ⟨y, k0, k1, hy⟩)
    refine ⟨⟨some a, len, cap, z⟩, rfl, hl, hm, fun i hi => ?_⟩
    have hi' : i < len := hi
    have h0 : ∃ v0, w.cell? a = some v0 := ⟨_, by have := (hz 0 (by omega)).1; simpa [Addr.add] using this⟩
    obtain ⟨k0, k1, hy⟩ := hz i hi'
    obtain ⟨b, o, rfl, hb', e0⟩ := addrOf k0 h0
    rw [Go.WideShapes.add_plain] at k1
    exact ⟨b, o, rfl, hb', e0, by rw [Nat.add_assoc]; exact k1, hy⟩
theorem array7 {α : Type} {cs : Array α} (h : cs.size = 7) : ∃ c0 c1 c2 c3 c4 c5 c6, cs = #[c0, c1, c2, c3, c4, c5, c6] := by
  obtain ⟨l⟩ := cs
  match l, h with
  | [c0, c1, c2, c3, c4, c5, c6], _ => exact ⟨c0, c1, c2, c3, c4, c5, c6, rfl⟩
theorem openState {r : Reach} {b0 : Nat} {v : Value} {d : DataW H} {ps : List MemPlace} (hv : Value.okWide Try.prog w r b0 31 v) (h : DataW.Trod enc Try.prog w 0 spare held 31 v d ps) : ∃ s : St, v = s.val ∧ s.At w := by
  obtain ⟨cs, rfl, hsz⟩ := okWide_struct Try.underlying31 hv
  obtain ⟨c0, c1, c2, c3, c4, c5, c6, rfl⟩ := array7 (hsz.trans cellsState)
  obtain ⟨fuel, hf⟩ := h
  obtain ⟨xs, n, _, hx, hl, hlen, hg⟩ := DataW.trod_struct Try.underlying31 hf
  match xs, hlen with
  | [y0, y1, y2, y3, y4, y5, y6], _ =>
    have k0 := hg 0 _ rfl
    have k1 := hg 1 _ rfl
    have k2 := hg 2 _ rfl
    have k3 := hg 3 _ rfl
    have k4 := hg 4 _ rfl
    have k5 := hg 5 _ rfl
    have k6 := hg 6 _ rfl
    simp [cellsRows, cellsOrders, cellsHolds, cellsMoves, cellsInts, Value.cells] at k0 k1 k2 k3 k4 k5 k6
    obtain ⟨on, e0, h0⟩ := readRows k0
    obtain ⟨os, e1, h1⟩ := readOrders k1
    obtain ⟨hs, e2, h2⟩ := HoldsFrames.readHolds k2
    obtain ⟨ms, e3, h3⟩ := readMoves k3
    obtain ⟨si, e4, h4⟩ := readInts k4
    obtain ⟨so, e5, h5⟩ := readInts k5
    obtain ⟨sf, e6, h6⟩ := readInts k6
    simp only [List.cons.injEq, and_true] at e0 e1 e2 e3 e4 e5 e6
    subst e0 e1 e2 e3 e4 e5 e6
    exact ⟨⟨on, os, hs, ms, si, so, sf⟩, rfl, h0, h1, h2, h3, h4, h5, h6⟩
end
end Go.Proofs.Ytbcacebifpagpae

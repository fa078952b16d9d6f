/- Texts that were built one behind the other, joined; what CountCounts does not reach is left out. -/
import Derived.Test.YtbcacebifpagpaeGreatK4CountCounts
import Derived.RangeFuncNested
import Derived.KernelRfl
import Derived.Lib.QuietBelow
namespace Go.Proofs.YtbcacebifpagpaeGreat
open Go.RowKit Go.Shelf
set_option linter.unusedVariables false
attribute [local go_sem] Oper.semAt_some
set_option maxRecDepth 100000 in
set_option maxHeartbeats 2000000 in
theorem WayOwn_any (p : Pl) (w : World) (hp : p.At w) :
    Calls Tryz.prog 69 #[p.val] w fun e w' => ∃ v, e = .returned (.tuple #[v, .int .i64 (planE p)]) ∧ w'.ownsRow w.heap.size 3 1 v (wayR p).length ((wayR p).map (Value.int .i64)) ∧ Below w.heap.size w w' := by
  have leb := hp.leb
  have capb0 := hp.capb
  have capb := capb0
  unfold maxLen at capb
  have hB0 : Below w.heap.size w (w.alloc (.cells #[.slice p.ab p.nb p.cb, .slice p.sa p.ns p.cs] 25)) := (Below.refl w.heap.size w).alloc (Nat.le_refl _) _
  obtain ⟨i1, hj, hy0, hy1, hy2⟩ := info_parts infoInt
  refine (callsIn_wide (n := 5)).1 ?_
  refine callsIn_of_wp_marks Tryz.func69 rfl trivial ?_ rfl
  simp only [Pl.val, Tryz.ntmps69, List.size_toArray, List.length_cons, List.length_nil, Nat.reduceAdd, Nat.reduceSub, Array.replicate_succ, Array.replicate_zero, List.push_toArray, List.append_toArray, List.nil_append, List.cons_append]
  by_cases h0 : planE p = 0
  · have HC : Calls Tryz.prog 61 #[p.val] (w.alloc (.cells #[.slice p.ab p.nb p.cb, .slice p.sa p.ns p.cs] 25)) fun e w' => e = .returned (.int .i64 0) ∧ Below (w.heap.size + 1) (w.alloc (.cells #[.slice p.ab p.nb p.cb, .slice p.sa p.ns p.cs] 25)) w' := by
      have := planCheck_any p _ (hp.below hB0)
      rw [h0, World.size_alloc] at this
      exact this
    have R := rightP h0
    have hnb := R.nb6
    have H0 : Hid (planE p = 0) := h0
    clear h0 R
    gi_wp2_with (first
      | (refine ⟨trivial, ?_⟩; gi_at_call 61; refine (callsIn_wide.2 HC).mono ?_; rintro e w1 ⟨rfl, hB⟩; have hsz := hB.size; have c0 : w1.cell? ⟨w.heap.size, 0, none⟩ = some (.slice p.ab p.nb p.cb) := (hB.cell (p := ⟨w.heap.size, 0, none⟩) (by simp)).trans (by simp); rw [World.size_alloc] at hsz)
      | (gi_at_make; refine wpListIn_make_own _ rfl _ _ 23 rfl (w.heap.size + 1) 3 i1 (.int .i64 0) 1 Tryz.underlying23 hj hy0 hy1 .i64 .i64 _ p.nb rfl rfl rfl (by rw [hy2]; omega) (by unfold maxLen; omega) (by omega) ?_; intro w2 hown2 hgrow2; have hB2 : Below (w.heap.size + 1) (w.alloc (.cells #[.slice p.ab p.nb p.cb, .slice p.sa p.ns p.cs] 25)) w2 := hB.grown hgrow2 (by omega) (by intro k hk; cases hk); have hsz2 := hB2.size; rw [World.size_alloc] at hsz2; have c0 : w2.cell? ⟨w.heap.size, 0, none⟩ = some (.slice p.ab p.nb p.cb) := (hB2.cell (p := ⟨w.heap.size, 0, none⟩) (by simp)).trans (by simp); have c1 : w2.cell? ⟨w.heap.size, 1, none⟩ = some (.slice p.sa p.ns p.cs) := (hB2.cell (p := ⟨w.heap.size, 1, none⟩) (by simp)).trans (by simp); have hlt2 : w.heap.size < w2.heap.size := by omega)
      | (refine ⟨trivial, ?_⟩; gi_at_call 99; refine (binsOf_in Fence.wide _ trivial rfl p true _).mono ?_; rintro e w' ⟨rfl, rfl⟩))
    obtain ⟨W3, hW3, s3, bO, hrow0, bF, cP, hB3⟩ : ∃ W3, ((w2.alloc (.cells #[(.slice (some ⟨w1.heap.size, 0, none⟩) 0 p.nb)] 23)).alloc (.cells #[.slice p.ab p.nb p.cb, .slice p.sa p.ns p.cs] 25)).alloc (.cells #[.bool true] 4) = W3 ∧ W3.heap.size = w2.heap.size + 3 ∧ _root_.Go.Boxed W3 w2.heap.size 23 (.slice (some ⟨w1.heap.size, 0, none⟩) 0 p.nb) ∧ W3.ownsRow (w.heap.size + 1) 3 1 (.slice (some ⟨w1.heap.size, 0, none⟩) 0 p.nb) 0 [] ∧ _root_.Go.Boxed W3 (w2.heap.size + 1 + 1) 4 (.bool true) ∧ W3.cell? ⟨w2.heap.size + 1, 0, none⟩ = some (.slice p.ab p.nb p.cb) ∧ Below (w.heap.size + 1) (w.alloc (.cells #[.slice p.ab p.nb p.cb, .slice p.sa p.ns p.cs] 25)) W3 := by
      refine ⟨_, rfl, by simp, ((_root_.Go.Boxed.new w2 23 _).alloc _).alloc _, ((hown2.alloc _).alloc _).alloc _, ?_, ?_, ((hB2.alloc hsz2 _).alloc (by simp; omega) _).alloc (by simp; omega) _⟩
      · have := _root_.Go.Boxed.new ((w2.alloc (.cells #[(.slice (some ⟨w1.heap.size, 0, none⟩) 0 p.nb)] 23)).alloc (.cells #[.slice p.ab p.nb p.cb, .slice p.sa p.ns p.cs] 25)) 4 (.bool true)
        rwa [World.size_alloc, World.size_alloc] at this
      · have := ((Blk.new (w2.alloc (.cells #[(.slice (some ⟨w1.heap.size, 0, none⟩) 0 p.nb)] 23)) #[.slice p.ab p.nb p.cb, .slice p.sa p.ns p.cs] 25).alloc (.cells #[.bool true] 4)).cell (j := 0) (by simp)
        rwa [World.size_alloc] at this
    have HP : Hid (∀ W', Below (w.heap.size + 1) (w.alloc (.cells #[.slice p.ab p.nb p.cb, .slice p.sa p.ns p.cs] 25)) W' → BinsAt W' p.ab p.nb p.zb) := fun W' h => (hp.bins.below hB0).below (by rw [World.size_alloc]; exact h)
    rw [hW3]
    clear hB c0 c1 hown2 hgrow2 hW3
    refine wpIn_rangeFunc_ownG rfl (by decide) (gf := 109) (lb := #[.pointer (some ⟨w2.heap.size + 1, 0, none⟩), .pointer (some ⟨w2.heap.size + 1 + 1, 0, none⟩)]) rfl trivial (enters_of Tryz.func109 (by kernel_rfl) rfl)
      (binsOf_stops Fence.wide _ trivial rfl (by decide) (w2.heap.size + 1) (w2.heap.size + 1 + 1) (w.heap.size + 1) p true W3 (by omega) (by omega) (by omega) cP bF.cell leb capb0 (fun W' h => HP.out W' (hB3.trans h))) keepsB_t (keepsB_b (by omega) (by omega)) (Below.refl _ _) (fun _ => rfl)
      (fun pre W => (∃ v, _root_.Go.Boxed W w2.heap.size 23 v ∧ W.ownsRow (w.heap.size + 1) 3 1 v pre.length (pre.map (Value.int .i64)) ∧ True) ∧ _root_.Go.Boxed W (w2.heap.size + 1 + 1) 4 (.bool true) ∧ Below (w.heap.size + 1) (w.alloc (.cells #[.slice p.ab p.nb p.cb, .slice p.sa p.ns p.cs] 25)) W)
      (fun _ _ _ => False)
      (OwnFrom.and (Own.from (holdsRow_own (w.heap.size + 1) w2.heap.size 23 3 1 (fun pre : List Int => pre.length) (fun pre => pre.map (Value.int .i64)) (fun _ _ => True)) _) (OwnFrom.and (Own.from (boxed_own _ _ _) _) (ownFrom_below (by simp) (by omega))))
      (fun _ _ _ _ _ hs _ _ => hs)
      ⟨⟨_, bO, hrow0, trivial⟩, bF, hB3⟩
      (fun x => { tmps := #[.agg #[.slice p.ab p.nb p.cb, .slice p.sa p.ns p.cs], .pointer (some ⟨w.heap.size, 0, none⟩), .slice none 0 0, .int .i64 0, .int .i64 0, .pointer (some ⟨w2.heap.size, 0, none⟩), .int .i64 x, undef, .agg #[.slice p.ab p.nb p.cb, .slice p.sa p.ns p.cs], .int .i64 0, .int .i64 0, .bool false, undef, .pointer (some ⟨w.heap.size, 0, none⟩), .slice p.ab p.nb p.cb, .int .i64 p.nb, (.slice (some ⟨w1.heap.size, 0, none⟩) 0 p.nb), .agg #[.slice p.ab p.nb p.cb, .slice p.sa p.ns p.cs], .func (.func 109) #[] #[.pointer (some ⟨w2.heap.size + 1, 0, none⟩), .pointer (some ⟨w2.heap.size + 1 + 1, 0, none⟩)], .int .i64 x, undef, undef, undef, undef, undef, undef, undef, undef, undef, undef, undef, undef], defers := [] }) ?assign ?body ?done ?stop
    case assign =>
      intro l x W K hK
      gi_wp2
      exact hK
    case body =>
      rintro l pre x W ⟨⟨v, hv, hrow, -⟩, hbf, hBB⟩ hlt
      have hc := hv.cell
      gi_wp2_with (gi_at_builtin; refine wpListIn_append_own _ rfl _ _ 23 rfl (w.heap.size + 1) 3 i1 (.int .i64 0) 1 8 Tryz.underlying23 hj hy0 hy1 hy2 rfl (by decide) _ _ _ rfl (hrow.alloc _) ⟨W.heap.size, 0, none⟩ 1 1 [.int .i64 x] rfl rfl (cell_one_new _ _ _) (by simp [Value.oneCell']) (by unfold maxLen; omega) (by omega) (by have := hBB.size; simp at this ⊢; omega) ?_; intro v' w5 hown' hgrow _; obtain ⟨g', cap', rfl⟩ := ownsRow_succ hown'; obtain ⟨hv1, hv2, hr2, hk2, hb2⟩ := hv.appended (by decide) hrow (by have := hBB.size; simpa using this) hsz2 hown' hgrow; have hc1 := hv1.cell; have hf1 := hv1.frozen; have hF5 := (hbf.alloc _).kept hgrow (hbf.not_row (by decide) hrow))
      refine ⟨hk2.from _, ⟨hb2, fun u hu => ?_⟩, ⟨_, hv2, by simpa using hr2, trivial⟩, hF5.other (by omega) _, hBB.trans hb2⟩
      rw [hbf.cell] at hu
      cases hu
      exact (hF5.other (by omega) _).cell
    case done =>
      rintro D ys W4 hD rfl ⟨⟨v, hv, hrow, -⟩, -, hBB⟩ hK
      have c0 : W4.cell? ⟨w.heap.size, 0, none⟩ = some (.slice p.ab p.nb p.cb) := (hBB.cell (p := ⟨w.heap.size, 0, none⟩) (by simp)).trans (by simp)
      have c1 : W4.cell? ⟨w.heap.size, 1, none⟩ = some (.slice p.sa p.ns p.cs) := (hBB.cell (p := ⟨w.heap.size, 1, none⟩) (by simp)).trans (by simp)
      have hsz4 : w.heap.size < W4.heap.size := by have := hBB.size; simp at this; omega
      gi_wp2_with (refine ⟨trivial, ?_⟩; gi_at_call 99; refine (binsOf_in Fence.wide _ trivial rfl p false _).mono ?_; rintro e w' ⟨rfl, rfl⟩)
      have hsB := hv.lt
      obtain ⟨W5, hW5, s5, bO, hrow5, bF, cP, hB5, hK5⟩ : ∃ W5, (W4.alloc (.cells #[.slice p.ab p.nb p.cb, .slice p.sa p.ns p.cs] 25)).alloc (.cells #[.bool false] 4) = W5 ∧ W5.heap.size = W4.heap.size + 2 ∧ _root_.Go.Boxed W5 w2.heap.size 23 v ∧ W5.ownsRow (w.heap.size + 1) 3 1 v (frL p true p.nb).length ((frL p true p.nb).map (Value.int .i64)) ∧ _root_.Go.Boxed W5 (W4.heap.size + 1) 4 (.bool false) ∧ W5.cell? ⟨W4.heap.size, 0, none⟩ = some (.slice p.ab p.nb p.cb) ∧ Below (w.heap.size + 1) (w.alloc (.cells #[.slice p.ab p.nb p.cb, .slice p.sa p.ns p.cs] 25)) W5 ∧ W5.heap[D]? = some (.deferred (some [])) := by
        refine ⟨_, rfl, by simp, (hv.alloc _).alloc _, (hrow.alloc _).alloc _, ?_, ?_, (hBB.alloc (by omega) _).alloc (by simp; omega) _, ?_⟩
        · have := _root_.Go.Boxed.new (W4.alloc (.cells #[.slice p.ab p.nb p.cb, .slice p.sa p.ns p.cs] 25)) 4 (.bool false)
          rwa [World.size_alloc] at this
        · exact ((Blk.new W4 #[.slice p.ab p.nb p.cb, .slice p.sa p.ns p.cs] 25).alloc (.cells #[.bool false] 4)).cell (j := 0) (by simp)
        · have hD4 := (Array.getElem?_eq_some_iff.1 hK).1
          exact ((((Below.refl W4.heap.size W4).alloc (Nat.le_refl _) _).alloc (by simp) _).block D hD4).trans hK
      have hD4 := (Array.getElem?_eq_some_iff.1 hK).1
      have hfl := frL_two p p.nb
      rw [hW5]
      clear hv hrow hBB hK c0 c1 hW5 hB3
      refine wpIn_rangeFunc_ownG rfl (by decide) (gf := 109) (lb := #[.pointer (some ⟨W4.heap.size, 0, none⟩), .pointer (some ⟨W4.heap.size + 1, 0, none⟩)]) rfl trivial (enters_of Tryz.func109 (by kernel_rfl) rfl)
        (binsOf_stops Fence.wide _ trivial rfl (by decide) W4.heap.size (W4.heap.size + 1) (w.heap.size + 1) p false W5 (by omega) (by omega) (by omega) cP bF.cell leb capb0 (fun W' h => HP.out W' (hB5.trans h))) keepsB_t (keepsB_b (by omega) (by omega)) (Below.refl _ _) (fun _ => rfl)
        (fun pre W => (∃ v, _root_.Go.Boxed W w2.heap.size 23 v ∧ W.ownsRow (w.heap.size + 1) 3 1 v (frL p true p.nb ++ pre).length ((frL p true p.nb ++ pre).map (Value.int .i64)) ∧ True) ∧ _root_.Go.Boxed W (W4.heap.size + 1) 4 (.bool false) ∧ Below (w.heap.size + 1) (w.alloc (.cells #[.slice p.ab p.nb p.cb, .slice p.sa p.ns p.cs] 25)) W ∧ W.heap[D]? = some (.deferred (some [])))
        (fun _ _ _ => False)
        (OwnFrom.and (Own.from (holdsRow_own (w.heap.size + 1) w2.heap.size 23 3 1 (fun pre : List Int => (frL p true p.nb ++ pre).length) (fun pre => (frL p true p.nb ++ pre).map (Value.int .i64)) (fun _ _ => True)) _) (OwnFrom.and (Own.from (boxed_own _ _ _) _) (OwnFrom.and (ownFrom_below (by simp) (by omega)) (fun s A B row hs hg hr => (hg.block D (Array.getElem?_eq_some_iff.1 hs).1 (fun e => by have := (hr D e.symm).1; omega)).trans hs))))
        (fun _ _ _ _ _ hs _ _ => hs)
        ⟨⟨_, bO, by simpa using hrow5, trivial⟩, bF, hB5, hK5⟩
        (fun x => { tmps := #[.agg #[.slice p.ab p.nb p.cb, .slice p.sa p.ns p.cs], .pointer (some ⟨w.heap.size, 0, none⟩), .slice none 0 0, .int .i64 0, .int .i64 0, .pointer (some ⟨w2.heap.size, 0, none⟩), undef, .int .i64 x, .agg #[.slice p.ab p.nb p.cb, .slice p.sa p.ns p.cs], .int .i64 0, .int .i64 0, .bool false, undef, .pointer (some ⟨w.heap.size, 0, none⟩), .slice p.ab p.nb p.cb, .int .i64 p.nb, (.slice (some ⟨w1.heap.size, 0, none⟩) 0 p.nb), .agg #[.slice p.ab p.nb p.cb, .slice p.sa p.ns p.cs], .func (.func 109) #[] #[.pointer (some ⟨w2.heap.size + 1, 0, none⟩), .pointer (some ⟨w2.heap.size + 1 + 1, 0, none⟩)], undef, undef, undef, undef, undef, .agg #[.slice p.ab p.nb p.cb, .slice p.sa p.ns p.cs], .func (.func 109) #[] #[.pointer (some ⟨W4.heap.size, 0, none⟩), .pointer (some ⟨W4.heap.size + 1, 0, none⟩)], .int .i64 x, undef, undef, undef, undef, undef], defers := [] }) ?assign2 ?body2 ?done2 ?stop2
      case assign2 =>
        intro l x W K hK
        gi_wp2
        exact hK
      case body2 =>
        rintro l pre x W ⟨⟨v, hv, hrow, -⟩, hbf, hBB, hKD⟩ hlt
        have hc := hv.cell
        have hll : (frL p true p.nb ++ pre).length ≤ 2 * p.nb := by rw [List.length_append]; omega
        gi_wp2_with (gi_at_builtin; refine wpListIn_append_own _ rfl _ _ 23 rfl (w.heap.size + 1) 3 i1 (.int .i64 0) 1 8 Tryz.underlying23 hj hy0 hy1 hy2 rfl (by decide) _ _ _ rfl (hrow.alloc _) ⟨W.heap.size, 0, none⟩ 1 1 [.int .i64 x] rfl rfl (cell_one_new _ _ _) (by simp [Value.oneCell']) (by unfold maxLen; omega) (by omega) (by have := hBB.size; simp at this ⊢; omega) ?_; intro v' w5 hown' hgrow _; obtain ⟨g', cap', rfl⟩ := ownsRow_succ hown'; obtain ⟨hv1, hv2, hr2, hk2, hb2⟩ := hv.appended (by decide) hrow (by have := hBB.size; simpa using this) hsz2 hown' hgrow; have hc1 := hv1.cell; have hf1 := hv1.frozen; have hF5 := (hbf.alloc _).kept hgrow (hbf.not_row (by decide) hrow))
        simp only [List.length_append] at hv2 hr2 hk2 hb2
        refine ⟨hk2.from _, ⟨hb2, fun u hu => ?_⟩, ⟨_, hv2, by simpa [Nat.add_assoc] using hr2, trivial⟩, hF5.other (by omega) _, hBB.trans hb2, hk2.same D _ hKD rfl⟩
        rw [hbf.cell] at hu
        cases hu
        exact (hF5.other (by omega) _).cell
      case done2 =>
        rintro D2 ys W hD2 rfl ⟨⟨v, hv, hrow, -⟩, -, hBB, hK1⟩ hK2
        have hc := hv.cell
        gi_wp2
        refine ⟨by simp, .inl ⟨_, _, rfl, run_takeDeferred hK2, ?_⟩⟩
        have hne : D ≠ D2 := by omega
        have hK1' : (W.putObj D2 (.deferred none)).heap[D]? = some (.deferred (some [])) := ((grownBy_putObj' W D2 (.deferred none)).block D (Array.getElem?_eq_some_iff.1 hK1).1 (fun e => hne (by cases e; rfl))).trans hK1
        refine ⟨by simp, .inl ⟨_, _, rfl, run_takeDeferred hK1', ?_⟩⟩
        have hr2 := ownsRow_putObj (ownsRow_putObj hrow (.deferred none) hK2 rfl) (.deferred none) hK1' rfl
        have hb1 : Below (w.heap.size + 1) (w.alloc (.cells #[.slice p.ab p.nb p.cb, .slice p.sa p.ns p.cs] 25)) (W.putObj D2 (.deferred none)) := hBB.trans (belowK_b (w := W5) (by omega) W D2 _ _ hD2 hK2 rfl rfl)
        have hb2 := hb1.trans (belowK_b (w := W3) (by omega) (W.putObj D2 (.deferred none)) D _ (.deferred none) hD hK1' rfl rfl)
        rw [H0.out, wayR_yes H0.out]
        exact ⟨_, results_tmp2 rfl _ _ _, _, rfl, owns_low hr2 (Nat.le_succ _), hB0.trans (hb2.mono (by omega))⟩
      case stop2 =>
        rintro D c pre W _ _ h _
        exact h.elim
    case stop =>
      rintro D c pre W _ _ h _
      exact h.elim
  · gi_wp2_with (refine ⟨trivial, ?_⟩; gi_at_call 61; refine (callsIn_wide.2 (planCheck_any p _ (hp.below hB0))).mono ?_; rintro e w1 ⟨rfl, hB⟩)
    rw [wayR_no h0]
    exact ⟨_, results_tmp2 rfl _ _ _, _, rfl, World.ownsRow_nil _ _ _ _, hB0.trans (hB.mono (by simp))⟩
end Go.Proofs.YtbcacebifpagpaeGreat
namespace Go.Proofs.YtbcacebifpagpaeGreat
open Go.RowKit Go.Shelf Go.Sort
set_option linter.unusedVariables false
theorem Take1_any (B : Nat) (x but : Int) (w : World) (hB : B < w.heap.size) (c : w.cell? ⟨B, 0, none⟩ = some (.int .i64 but)) :
    Calls Tryz.prog 71 #[.int .i64 x, .pointer (some ⟨B, 0, none⟩)] w fun e w' => e = .returned (.bool (x == but)) ∧ Below w.heap.size w w' := by
  go_enter Tryz.func71, Tryz.ntmps71
  go_wp2_with fail
  go_ret
  exact ⟨rfl, Below.refl _ _⟩
def TakeInv (s : St) (o l : Nat) (n : Int) (av : Int → Int) (F : List Int) (A BX BL g k : Nat) (wk : World) : Prop :=
  ∃ x : St, Took s o l n (Tk.go av n (F.take k)) x ∧ OwnS A wk x ∧ Blk wk BX 31 7 (fun j => x.cells.getD j default) ∧ Blk wk g 3 F.length (fun j => .int .i64 (F.getD j 0)) ∧ (x.os.z o).ls.a = some ⟨BL, 0, none⟩
theorem take_more {F : List Int} {k : Nat} (hk : k < F.length) : F.take (k + 1) = F.take k ++ [F.getD k 0] := by
  rw [List.take_add_one]
  simp [List.getD, List.getElem?_eq_getElem hk]
theorem getD_mem {F : List Int} {k : Nat} (hk : k < F.length) : F.getD k 0 ∈ F := by
  simp [List.getD, List.getElem?_eq_getElem hk]
theorem avail_okA {p : Pl} {s : St} {b g : Nat} (h : stateE p s = 0) (hb : b < p.nb) (hg : g < p.ns) : availE p s b g = 0 ∧ availV p s b g = availZ s b g := by
  have e : availE p s b g = 0 := by unfold availE; rw [if_pos h, inB_mk (by omega), inB_mk (by omega)]; rfl
  exact ⟨e, by unfold availV; rw [if_pos e]; rfl⟩
theorem avail_bdA {p : Pl} {s : St} {b g : Nat} (r : RightT p s) (hb : b < p.nb) (hg : g < p.ns) : 0 ≤ availZ s b g ∧ availZ s b g ≤ 200 := by
  have f := r.fm
  refine ⟨(goods_no (r.goods g hg)).2 b hb, ?_⟩
  have h1 := f.sh.num b (by rw [f.sh.n]; exact hb) g hg
  have h2 := (heldTo_bd (s := s) (b := b) (g := g) f.holdN).1
  have h3 := (fromTo_bd (s := s) (b := b) (g := g) f.moveN).1
  unfold availZ
  omega
set_option maxRecDepth 100000 in
set_option maxHeartbeats 8000000 in
theorem Take_any (p : Pl) (s : St) (order line n but : Int) (w : World) (hp : p.At w) (hs : s.At w) :
    Calls Tryz.prog 43 #[p.val, s.val, .int .i64 order, .int .i64 line, .int .i64 n, .int .i64 but] w fun e w' => ∃ x : St, e = .returned (.tuple #[x.val, .int .i64 (allocL p s order line n but), .int .i64 (allocE p s order line n but)]) ∧ x.At w' ∧ AllocOK p s order line n but x ∧ (allocE p s order line n but = 0 → OwnS w.heap.size w' x) ∧ Below w.heap.size w w' := by
  obtain ⟨W0, hW, hWB, X0, K0, Z0⟩ : ∃ W, ((((w.alloc (.cells #[.slice p.ab p.nb p.cb, .slice p.sa p.ns p.cs] 25)).alloc (.cells s.cells 31)).alloc (.cells #[.int .i64 but] 3)).alloc (.cells #[.slice .none 0 0, .slice .none 0 0, .slice .none 0 0, .slice .none 0 0, .slice .none 0 0, .slice .none 0 0, .slice .none 0 0] 31)) = W ∧ Below w.heap.size w W ∧ Boxes W w.heap.size (w.heap.size + 1) p s ∧ Blk W (w.heap.size + 2) 3 1 (fun _ => .int .i64 but) ∧ Blk W (w.heap.size + 3) 31 7 (fun _ => .slice .none 0 0) :=
    ⟨_, rfl, ((two_below _ _ _).alloc (by simp; omega) _).alloc (by simp; omega) _, ((boxes_new w p s _ _).below ((Below.refl _ _).alloc (Nat.le_refl _) _)).below ((Below.refl _ _).alloc (Nat.le_refl _) _), ((Blk.mk' (cur := #[.int .i64 but]) (by simp) rfl).congr (fun j hj => by match j, hj with | 0, _ => rfl)).alloc _, (Blk.mk' (cur := #[.slice .none 0 0, .slice .none 0 0, .slice .none 0 0, .slice .none 0 0, .slice .none 0 0, .slice .none 0 0, .slice .none 0 0]) (by simp) rfl).congr (fun j hj => by match j, hj with | 0, _ => rfl | 1, _ => rfl | 2, _ => rfl | 3, _ => rfl | 4, _ => rfl | 5, _ => rfl | 6, _ => rfl)⟩
  have HC : Hid (∀ wk, Below W0.heap.size W0 wk → Boxes wk w.heap.size (w.heap.size + 1) p s ∧ p.At wk ∧ s.At wk ∧ Below w.heap.size w wk ∧ Blk wk (w.heap.size + 3) 31 7 (fun _ => .slice .none 0 0) ∧ Blk wk (w.heap.size + 2) 3 1 (fun _ => .int .i64 but)) := fun wk h => ⟨X0.below h, (hp.below hWB).below h, (hs.below hWB).below h, hWB.trans (h.mono hWB.size), Z0.below h, K0.below h⟩
  have HW : Hid ((((w.alloc (.cells #[.slice p.ab p.nb p.cb, .slice p.sa p.ns p.cs] 25)).alloc (.cells #[.slice s.on.a s.on.n s.on.c, .slice s.os.a s.os.n s.os.c, .slice s.hs.a s.hs.n s.hs.c, .slice s.ms.a s.ms.n s.ms.c, .slice s.si.a s.si.n s.si.c, .slice s.so.a s.so.n s.so.c, .slice s.sf.a s.sf.n s.sf.c] 31)).alloc (.cells #[.int .i64 but] 3)).alloc (.cells #[.slice .none 0 0, .slice .none 0 0, .slice .none 0 0, .slice .none 0 0, .slice .none 0 0, .slice .none 0 0, .slice .none 0 0] 31) = W0) := hW
  have leb := hp.leb
  have capb0 := hp.capb
  have capb := capb0
  have les := hp.les
  have caps := hp.caps
  have zlt0 := Z0.lt
  unfold maxLen at capb caps
  clear hW X0 Z0 K0 hp hs
  unfold Pl.val St.val
  go_enter Tryz.func43, Tryz.ntmps43
  go_wp2_with fail
  rw [HW.out]
  obtain ⟨X, hpk, hsk, hBw, hz, kb⟩ := HC.out W0 (Below.refl _ _)
  refine (allocCheck_any p s order line n but W0 hpk hsk).mono ?_
  rintro e w1 ⟨rfl, hB⟩
  clear X hpk hsk hBw hz kb HW
  obtain ⟨⟨⟨l1, d0, d1⟩, l2, c0, c1, c2, c3, c4, c5, c6⟩, hpk, hsk, hBw, hz, kb⟩ := HC.out w1 hB
  by_cases hE : allocE p s order line n but = 0
  · have HE : Hid (allocE p s order line n but = 0) := hE
    have HI : Hid (AllocIn p s order line n but) := allocIn hE
    rw [hE]
    clear hE
    have HRT : Hid (RightT p s) := rightT HI.out.st
    have HP0 : Hid (planE p = 0) := (rightS HRT.out.fm.sh0).1
    obtain ⟨o, rfl⟩ := Int.eq_ofNat_of_zero_le HI.out.o0
    obtain ⟨l, rfl⟩ := Int.eq_ofNat_of_zero_le HI.out.l0
    have ho : o < s.os.n := HI.out.on
    have hl : l < (s.os.z o).ls.n := HI.out.ln
    have nb1 := HRT.out.fm.sh.pl.nb1
    have nb6 := HRT.out.fm.sh.pl.nb6
    have HPK : Hid (p.At w1) := hpk
    clear hpk hsk c0 c1 c2 c3 c4 c5 c6 hBw hz
    go_wp2_with fail
    refine (WayOwn_any p w1 HPK.out).mono ?_
    rintro e w2 ⟨v, rfl, hown, hB2⟩
    clear l1 d0 d1 l2 HPK
    rw [wayR_yes HP0.out] at hown
    have HWL : Hid ((wayL p).length = p.nb) := way_len p
    have hv : v ≠ .slice none 0 0 := by
      rintro rfl
      rcases hown.2 with ⟨_, h0⟩ | ⟨g2, cap2, cur2, h, _⟩
      · have := HWL.out; omega
      · cases h
    obtain ⟨g, c, rfl, hc1, hc2, hg, hk⟩ := Blk.ofOwns hown hv
    have hk2 : Blk w2 g 3 (wayL p).length (fun j => .int .i64 ((wayL p).getD j 0)) := by
      have h := hk.less (m := (wayL p).length) (by omega)
      refine h.congr fun j hj => ?_
      simp [List.getD, List.getElem?_eq_getElem hj]
    have HDF : Hid (Calls Tryz.prog 70 #[.slice (some ⟨g, 0, none⟩) (wayL p).length c, .func (.func 71) #[] #[.pointer (some ⟨w.heap.size + 1 + 1, 0, none⟩)]] w2 fun e w' => e = .returned (.slice (some ⟨g, 0, none⟩) (wayT p but).length c) ∧ Blk w' g 3 (wayT p but).length (fun j => .int .i64 ((wayT p but).getD j 0)) ∧ Below w1.heap.size w2 w') :=
      DelI_any 71 #[.pointer (some ⟨w.heap.size + 1 + 1, 0, none⟩)] (fun x => x == but) w1.heap.size g c (wayL p) w2 hg hB2.size hc1 hc2 hk2 (enters_of Tryz.func71 (by kernel_rfl) rfl) (fun x wz hz => by
        have hlt := kb.lt
        exact Take1_any (w.heap.size + 1 + 1) x but wz (Nat.lt_of_lt_of_le hlt (Nat.le_trans hB2.size hz.size)) ((hz.cell (p := ⟨w.heap.size + 2, 0, none⟩) hlt).trans ((hB2.cell (p := ⟨w.heap.size + 2, 0, none⟩) hlt).trans (kb.cell (j := 0) (by decide)))))
    rw [HP0.out]
    clear hown hv hk hk2
    go_wp2_with fail
    refine HDF.out.mono ?_
    rintro e w3 ⟨rfl, hk3, hB3⟩
    have hB13 := hB2.trans hB3
    have hB' := hB.trans (hB13.mono hB.size)
    have q13 := hB13.size
    have glt := hk3.lt
    have HK3 : Hid (Blk w3 g 3 (wayT p but).length (fun j => .int .i64 ((wayT p but).getD j 0))) := hk3
    have hF6 : (wayT p but).length ≤ 6 := by
      have := HWL.out
      have := List.length_filter_le (fun b => !(b == but)) (wayL p)
      unfold wayT
      omega
    have hFc : (wayT p but).length ≤ c := by
      have := List.length_filter_le (fun b => !(b == but)) (wayL p)
      unfold wayT
      omega
    clear HDF hk3 kb hB2 hB3 hB13 hB
    obtain ⟨⟨⟨l1, d0, d1⟩, l2, c0, c1, c2, c3, c4, c5, c6⟩, hpk, hsk, hBw, hz, kb⟩ := HC.out w3 hB'
    have HCS : Hid _ := copyState_any p s w3 hsk HRT.out.fm
    clear hpk hsk hBw hz kb
    go_wp2_with fail
    refine Calls.mono HCS.out ?_
    rintro e w4 ⟨x0, rfl, hsame, hown, hB4⟩
    clear HCS l1 d0 d1 l2 c0 c1 c2 c3 c4 c5 c6
    have q4 := hB4.size
    obtain ⟨W5, hW5, hWB5, K5⟩ : ∃ W, w4.alloc (.cells #[.slice x0.on.a x0.on.n x0.on.c, .slice x0.os.a x0.os.n x0.os.c, .slice x0.hs.a x0.hs.n x0.hs.c, .slice x0.ms.a x0.ms.n x0.ms.c, .slice x0.si.a x0.si.n x0.si.c, .slice x0.so.a x0.so.n x0.so.c, .slice x0.sf.a x0.sf.n x0.sf.c] 31) = W ∧ Below w4.heap.size w4 W ∧ Blk W w4.heap.size 31 7 (fun j => x0.cells.getD j default) := ⟨_, rfl, (Below.refl _ _).alloc (Nat.le_refl _) _, Blk.mk' rfl rfl⟩
    have HW5 : Hid (w4.alloc (.cells #[.slice x0.on.a x0.on.n x0.on.c, .slice x0.os.a x0.os.n x0.os.c, .slice x0.hs.a x0.hs.n x0.hs.c, .slice x0.ms.a x0.ms.n x0.ms.c, .slice x0.si.a x0.si.n x0.si.c, .slice x0.so.a x0.so.n x0.so.c, .slice x0.sf.a x0.sf.n x0.sf.c] 31) = W5) := hW5
    have hB35 := hB4.trans (hWB5.mono hB4.size)
    have hB5 := hB'.trans (hB35.mono hB'.size)
    have hown5 := OwnS.below hown hWB5
    have hkF := HK3.out.below hB35
    have ho0 : o < x0.os.n := by rw [hsame.os.1]; exact ho
    have e0 := hsame.os.2 o ho0
    have hl0 : l < (x0.os.z o).ls.n := by rw [e0.2.1]; exact hl
    obtain ⟨gO, BL, f1, f2, f3, f4, f5, f6, f7, f8, f9, f10, f11, f12, f13, f14⟩ := hown5.lineCell ho0 hl0
    have s1 : W5.cell? ⟨w4.heap.size, 1, none⟩ = some (.slice x0.os.a x0.os.n x0.os.c) := K5.cell (j := 1) (by decide)
    have s2 := K5.lt
    have v1 := hown5.os.le
    have v2 := hown5.os.cap
    rw [f1] at s1
    have HINV : Hid (TakeInv s o l n (fun b => availZ s b.toNat (lineAt s o l).o.toNat) (wayT p but) w3.heap.size w4.heap.size BL g 0 W5) := ⟨x0, by rw [List.take_zero]; exact Took.start HRT.out.fm.hold hsame, hown5, K5, hkF, f5⟩
    have qo : (0 : Int) ≤ (o : Int) := by omega
    have ql : (0 : Int) ≤ (l : Int) := by omega
    have HB5 : Hid (Below W0.heap.size W0 W5 ∧ W0.heap.size ≤ w3.heap.size ∧ w3.heap.size ≤ w4.heap.size ∧ g < w3.heap.size ∧ w3.heap.size ≤ BL) := ⟨hB5, hB'.size, q4, glt, f6⟩
    rw [← HW5.out] at s1 s2 f3 f4 f7
    unfold maxLen at v2 f9
    clear hW5 hown hown5 hkF K5 hB4 hWB5 hB35 hB5 f1 f2 f5 f6 f10 f11 f12 f13 f14 e0 hsame HK3
    simp only [St.val]
    go_wp2_with fail
    rw [HW5.out]
    clear s1 s2 f3 f4 f7 HW5 hB' q4 q13 glt v1 v2 f8 f9
    generalize x0.os.n = XN at *
    go_loopw [4, 56] (fun nv kv wk => ∃ k : Nat, k ≤ (wayT p but).length ∧ kv = .int .i64 k ∧ nv = .int .i64 (Tk.go (fun b => availZ s b.toNat (lineAt s o l).o.toNat) n ((wayT p but).take k)).left ∧ Hid (TakeInv s o l n (fun b => availZ s b.toNat (lineAt s o l).o.toNat) (wayT p but) w3.heap.size w4.heap.size BL g k wk) ∧ Hid (Below W0.heap.size W0 wk)) (fun _ kv _ => (wayT p but).length - (intOf kv).toNat)
    case atStart => exact ⟨0, Nat.zero_le _, rfl, rfl, HINV, HB5.out.1⟩
    case round =>
      clear HINV
      obtain ⟨k, hk, rfl, rfl, HV, HBk⟩ := hrel
      have HTK : Hid (TkOK (fun b => availZ s b.toNat (lineAt s o l).o.toNat) n ((wayT p but).take k) (Tk.go (fun b => availZ s b.toNat (lineAt s o l).o.toNat) n ((wayT p but).take k))) := HI.out.tk ((wayT_apart p but).sublist (List.take_sublist _ _)) (fun x hx => HI.out.way x (List.mem_of_mem_take hx))
      have H31EP : Hid (k < (wayT p but).length → Tk.go (fun b => availZ s b.toNat (lineAt s o l).o.toNat) n ((wayT p but).take (k + 1)) = (Tk.go (fun b => availZ s b.toNat (lineAt s o l).o.toNat) n ((wayT p but).take k)).step (fun b => availZ s b.toNat (lineAt s o l).o.toNat) ((wayT p but).getD k 0)) := fun h => by rw [take_more h, Tk.go_more]
      have HEND : Hid (k = (wayT p but).length → Tk.go (fun b => availZ s b.toNat (lineAt s o l).o.toNat) n ((wayT p but).take k) = tkOf p s (lineAt s o l).o n but) := fun h => by rw [h, List.take_length]; rfl
      obtain ⟨x, hT, hO, hK, hF, hla⟩ := HV.out
      have HX : Hid (Took s o l n (Tk.go (fun b => availZ s b.toNat (lineAt s o l).o.toNat) n ((wayT p but).take k)) x ∧ OwnS w3.heap.size wr x ∧ Blk wr w4.heap.size 31 7 (fun j => x.cells.getD j default) ∧ Blk wr g 3 (wayT p but).length (fun j => .int .i64 ((wayT p but).getD j 0)) ∧ (x.os.z o).ls.a = some ⟨BL, 0, none⟩) := ⟨hT, hO, hK, hF, hla⟩
      obtain ⟨T, hTd⟩ : ∃ T, Tk.go (fun b => availZ s b.toNat (lineAt s o l).o.toNat) n ((wayT p but).take k) = T := ⟨_, rfl⟩
      rw [hTd] at HTK H31EP HEND HX ⊢
      clear hT hO hK hF hla HV hTd
      have tl0 := HTK.out.left0
      have tln := HTK.out.leftn
      have nn2 := HI.out.n2
      by_cases hlt : k < (wayT p but).length
      · have HS1 : Hid _ := H31EP.out hlt
        obtain ⟨hbm0, hbm1⟩ := HI.out.way _ (getD_mem hlt)
        have z0 := HX.out.2.2.2.1.cell (j := k) hlt
        have z1 := HX.out.2.2.2.1.lt
        obtain ⟨bv, hbv⟩ := Int.eq_ofNat_of_zero_le hbm0
        have HBV : Hid ((wayT p but).getD k 0 = (bv : Int)) := hbv
        rw [hbv] at z0 hbm1
        have hbvn : bv < p.nb := by omega
        have hgd := HI.out.good
        obtain ⟨gd, hgv⟩ := Int.eq_ofNat_of_zero_le hgd.1
        have HGV : Hid ((lineAt s o l).o = (gd : Int)) := hgv
        have hgdn : gd < p.ns := by omega
        have HAVL : Hid (∀ w', p.At w' → s.At w' → Calls Tryz.prog 8 #[p.val, s.val, .int .i64 (bv : Int), .int .i64 (gd : Int)] w' fun e w'' => e = .returned (.tuple #[.int .i64 (availZ s bv gd), .int .i64 0]) ∧ Below w'.heap.size w' w'') := fun w' h1 h2 => by
          have h := Avail_any p s bv gd w' h1 h2
          rw [(avail_okA HI.out.st hbvn hgdn).1, (avail_okA HI.out.st hbvn hgdn).2] at h
          exact h
        have avb := avail_bdA HRT.out hbvn hgdn
        have HAV : Hid ((fun b : Int => availZ s b.toNat (lineAt s o l).o.toNat) ((wayT p but).getD k 0) = availZ s bv gd) := by
          show availZ s ((wayT p but).getD k 0).toNat (lineAt s o l).o.toNat = _
          rw [hbv, hgv]
          rfl
        generalize hAVd : availZ s bv gd = AV at *
        clear hAVd
        have ho1 : o < x.os.n := by rw [HX.out.1.os.1]; exact ho
        have ex := HX.out.1.os.2 o ho1
        have hl1 : l < (x.os.z o).ls.n := by rw [ex.2.1]; exact hl
        obtain ⟨gO, BL', f1, f2, f3, f4, f5, f6, f7, f8, f9, f10, f11, f12, f13, f14⟩ := HX.out.2.1.lineCell ho1 hl1
        rw [HX.out.2.2.2.2] at f5
        simp only [Option.some.injEq, Addr.mk.injEq, and_true] at f5
        subst f5
        have hgx : ((x.os.z o).ls.z l).o = (gd : Int) := by
          rw [ex.2.2 l hl1, if_pos ⟨rfl, rfl⟩]
          exact hgv
        have hbx : ((x.os.z o).ls.z l).n = (lineAt s o l).n - (n - T.left) := by
          rw [ex.2.2 l hl1, if_pos ⟨rfl, rfl⟩]
          rfl
        have HBX : Hid (((x.os.z o).ls.z l).n = (lineAt s o l).n - (n - T.left)) := hbx
        have hbl := badLine_no (HRT.out.fm.line o ho l hl)
        have hbk0 : -1000 ≤ ((x.os.z o).ls.z l).n ∧ ((x.os.z o).ls.z l).n ≤ 1000 := by
          rw [hbx]
          have h1 : (lineAt s o l).n = ((s.os.z o).ls.z l).n := rfl
          rw [h1]
          omega
        rw [hgx] at f11
        obtain ⟨⟨⟨l1, d0, d1⟩, l2, c0, c1, c2, c3, c4, c5, c6⟩, hpk, hsk, hBw, hz, kb⟩ := HC.out wr HBk.out
        have HPS : Hid (p.At wr ∧ s.At wr) := ⟨hpk, hsk⟩
        have r0 : ∀ d os, (grow (redrawn wr d) os).cell? ⟨w.heap.size, 0, none⟩ = some (.slice p.ab p.nb p.cb) := fun d os => cell_regrown d0 d os
        have r1 : ∀ d os, (grow (redrawn wr d) os).cell? ⟨w.heap.size, 1, none⟩ = some (.slice p.sa p.ns p.cs) := fun d os => cell_regrown d1 d os
        have rs0 : ∀ d os, (grow (redrawn wr d) os).cell? ⟨w.heap.size + 1, 0, none⟩ = some (.slice s.on.a s.on.n s.on.c) := fun d os => cell_regrown c0 d os
        have rs1 : ∀ d os, (grow (redrawn wr d) os).cell? ⟨w.heap.size + 1, 1, none⟩ = some (.slice s.os.a s.os.n s.os.c) := fun d os => cell_regrown c1 d os
        have rs2 : ∀ d os, (grow (redrawn wr d) os).cell? ⟨w.heap.size + 1, 2, none⟩ = some (.slice s.hs.a s.hs.n s.hs.c) := fun d os => cell_regrown c2 d os
        have rs3 : ∀ d os, (grow (redrawn wr d) os).cell? ⟨w.heap.size + 1, 3, none⟩ = some (.slice s.ms.a s.ms.n s.ms.c) := fun d os => cell_regrown c3 d os
        have rs4 : ∀ d os, (grow (redrawn wr d) os).cell? ⟨w.heap.size + 1, 4, none⟩ = some (.slice s.si.a s.si.n s.si.c) := fun d os => cell_regrown c4 d os
        have rs5 : ∀ d os, (grow (redrawn wr d) os).cell? ⟨w.heap.size + 1, 5, none⟩ = some (.slice s.so.a s.so.n s.so.c) := fun d os => cell_regrown c5 d os
        have rs6 : ∀ d os, (grow (redrawn wr d) os).cell? ⟨w.heap.size + 1, 6, none⟩ = some (.slice s.sf.a s.sf.n s.sf.c) := fun d os => cell_regrown c6 d os
        have rl : ∀ d os, (grow (redrawn wr d) os).cell? ⟨BL, l * 4, none⟩ = some (.int .i64 (gd : Int)) := fun d os => cell_regrown f11 d os
        clear hbv hgv hgd hpk hsk hBw hz kb d0 d1 c0 c1 c2 c3 c4 c5 c6 l1 l2 f1 f2 f3 f4 f6 f8 f9 f10 f11 f12 f13 f14 ex hgx hbx hbl HEND hbm0 hbm1
        obtain ⟨BK, hBK⟩ : ∃ BK, ((x.os.z o).ls.z l).n = BK := ⟨_, rfl⟩
        have HBK : Hid (((x.os.z o).ls.z l).n = BK) := hBK
        rw [hBK] at hbk0
        clear hBK
        obtain ⟨N, hN⟩ : ∃ N, T.left = N := ⟨_, rfl⟩
        have HN : Hid (T.left = N) := hN
        rw [hN] at tl0 tln ⊢
        clear hN
        have q0 : (0 : Int) ≤ (k : Int) := by omega
        have HMZ : Hid (∀ m, min N AV = m → min T.left ((fun b : Int => availZ s b.toNat (lineAt s o l).o.toNat) ((wayT p but).getD k 0)) = m) := fun m h => by rw [HAV.out, HN.out]; exact h
        go_wp2_with fail
        refine wp_region_quiet_below (by kernel_rfl) (by kernel_rfl) ?_
        repeat (go_big_quiet_step ((go_at_call 8; exact Calls.regrown_of (HAVL.out _ (HPS.out.1.below (below_regrown _ _ _)) (HPS.out.2.below (below_regrown _ _ _))))))
        refine wpQuiet_nil ?_
        intro w9 hw9
        have hB9 : Below wr.heap.size wr w9 := by obtain ⟨⟨dq, osq⟩, hw''⟩ := hw9; subst hw''; exact below_regrown _ _ _
        clear hw9 r0 r1 rs0 rs1 rs2 rs3 rs4 rs5 rs6 rl HPS z0 z1 HAVL
        have HBk9 : Hid (Below W0.heap.size W0 w9) := HBk.out.trans (hB9.mono HBk.out.size)
        have HX9 : Hid (Took s o l n T x ∧ OwnS w3.heap.size w9 x ∧ Blk w9 w4.heap.size 31 7 (fun j => x.cells.getD j default) ∧ Blk w9 g 3 (wayT p but).length (fun j => .int .i64 ((wayT p but).getD j 0)) ∧ (x.os.z o).ls.a = some ⟨BL, 0, none⟩) := ⟨HX.out.1, OwnS.below HX.out.2.1 hB9, HX.out.2.2.1.below hB9, HX.out.2.2.2.1.below hB9, HX.out.2.2.2.2⟩
        clear hB9 HX HBk f7
        by_cases hm0 : min AV N = 0
        · have hm1 : min N AV = 0 := by omega
          have HNX : Hid (TakeInv s o l n (fun b => availZ s b.toNat (lineAt s o l).o.toNat) (wayT p but) w3.heap.size w4.heap.size BL g (k + 1) w9 ∧ (Tk.go (fun b => availZ s b.toNat (lineAt s o l).o.toNat) n ((wayT p but).take (k + 1))).left = N) := by
            refine ⟨⟨x, ?_, HX9.out.2⟩, ?_⟩
            · rw [HS1.out]
              exact HX9.out.1.stepZero (HMZ.out 0 hm1)
            · rw [HS1.out]
              show T.left - min T.left _ = N
              rw [HMZ.out 0 hm1, HN.out]
              omega
          go_wp2_with fail
          go_roundw
          case rel => exact ⟨k + 1, by omega, by go_num, by rw [HNX.out.2], HNX.out.1, HBk9⟩
          case measure => simp [intOf]; omega
        · obtain ⟨MV, hMV⟩ : ∃ MV, min AV N = MV := ⟨_, rfl⟩
          have HMV : Hid (min AV N = MV) := hMV
          have mv0 : 0 < MV := by omega
          have mv1 : MV ≤ N := by omega
          have mvd : (MV == 0) = false := by simp; omega
          have HM1 : Hid (min N AV = MV) := by show min N AV = MV; omega
          have HAE : Hid (addE x.hs.n x.hs.z (tookH o l bv MV) = 0) := by
            have h := HX9.out.1.addE (p := p) (order := o) (line := l) (but := but) HI.out (fun x hx => HI.out.way x (List.mem_of_mem_take hx)) HTK.out (b := (bv : Int)) ⟨by omega, by omega⟩ mv0 (by rw [HN.out]; exact mv1)
            exact h
          have KX := HX9.out.2.2.1
          have y2 : w9.cell? ⟨w4.heap.size, 2, none⟩ = some (.slice x.hs.a x.hs.n x.hs.c) := KX.cell (j := 2) (by decide)
          have y3 := KX.lt
          have HAD : Hid (Calls Tryz.prog 72 #[.slice x.hs.a x.hs.n x.hs.c, .agg #[.int .i64 (o : Int), .int .i64 (l : Int), .int .i64 (bv : Int), .int .i64 MV]] w9 fun e w' => ∃ s' : Hs, e = .returned (.tuple #[s'.val, .int .i64 0]) ∧ OwnH w9.heap.size 58 w' s' ∧ AddOK x.hs.n x.hs.z (tookH o l bv MV) s' ∧ Below w9.heap.size w9 w') := by
            have h := AddOwn_any x.hs (tookH o l bv MV) w9 HX9.out.2.1.hs.at
            rw [HAE.out] at h
            exact h
          clear KX hm0 HMV
          go_wp2_with fail
          refine HAD.out.mono ?_
          rintro e wa ⟨y, rfl, yown, yok, hBa⟩
          clear y2 y3 HAD hMV
          have q9 := HBk9.out.size
          have qa := hBa.size
          obtain ⟨b1, b2, b3, b4, b5⟩ := HB5.out
          have hOa := OwnS.below HX9.out.2.1 hBa
          have KA := HX9.out.2.2.1.below hBa
          have FA := HX9.out.2.2.2.1.below hBa
          have hBka := HBk9.out.trans (hBa.mono HBk9.out.size)
          have hlt9 := HX9.out.2.2.1.lt
          have ho1 : o < x.os.n := by rw [HX9.out.1.os.1]; exact ho
          have hOb := (hOa.withHolds (yown.mono (by omega))).box KA 2 (.slice y.a y.n y.c)
          have KB := KA.set 2 (.slice y.a y.n y.c)
          have FB := FA.other (a := ⟨w4.heap.size, 2, none⟩) (Blk.ne2 FA KA (by decide)) (.slice y.a y.n y.c)
          have hBb := hBka.setCell (p := ⟨w4.heap.size, 2, none⟩) (by show W0.heap.size ≤ w4.heap.size; omega) (.slice y.a y.n y.c)
          have hl1 : l < (x.os.z o).ls.n := by rw [(HX9.out.1.os.2 o ho1).2.1]; exact hl
          obtain ⟨gO, BL', f1, f2, f3, f4, f5, f6, f7, f8, f9, f10, f11, f12, f13, f14⟩ := hOb.lineCell (o := o) (l := l) ho1 hl1
          have f5' : (x.os.z o).ls.a = some ⟨BL', 0, none⟩ := f5
          rw [HX9.out.2.2.2.2] at f5'
          simp only [Option.some.injEq, Addr.mk.injEq, and_true] at f5'
          subst f5'
          have f14' : (wa.setCell ⟨w4.heap.size, 2, none⟩ (.slice y.a y.n y.c)).cell? ⟨BL, l * 4 + 3, none⟩ = some (.int .i64 ((x.os.z o).ls.z l).n) := f14
          rw [HBK.out] at f14'
          have g14 := f10 (l * 4 + 3)
          obtain ⟨B', hla', -, -, -, hlb⟩ := hOb.os.lines o ho1
          rw [f5] at hla'
          simp only [Option.some.injEq, Addr.mk.injEq, and_true] at hla'
          subst hla'
          have hOc := hOb.setLine (o := o) ho1 f5 l 3 (by decide) (BK - MV)
          have KC := KB.other (a := ⟨BL, l * 4 + 3, none⟩) (Blk.ne2 KB hlb (by decide)) (.int .i64 (BK - MV))
          have FC := FB.other (a := ⟨BL, l * 4 + 3, none⟩) (Blk.ne2 FB hlb (by decide)) (.int .i64 (BK - MV))
          have hBc := hBb.setCell (p := ⟨BL, l * 4 + 3, none⟩) (by show W0.heap.size ≤ BL; omega) (.int .i64 (BK - MV))
          have hTn := HX9.out.1.stepAdd (av := fun b => availZ s b.toNat (lineAt s o l).o.toNat) (order := o) (line := l) (b := (wayT p but).getD k 0) (m := MV) ho hl (HMZ.out MV HM1.out) (by rw [HBV.out]; exact HAE.out) (by rw [HBV.out]; exact yok)
          have HNX : Hid (TakeInv s o l n (fun b => availZ s b.toNat (lineAt s o l).o.toNat) (wayT p but) w3.heap.size w4.heap.size BL g (k + 1) ((wa.setCell ⟨w4.heap.size, 2, none⟩ (.slice y.a y.n y.c)).setCell ⟨BL, l * 4 + 3, none⟩ (.int .i64 (BK - MV))) ∧ (Tk.go (fun b => availZ s b.toNat (lineAt s o l).o.toNat) n ((wayT p but).take (k + 1))).left = N - MV ∧ Below W0.heap.size W0 ((wa.setCell ⟨w4.heap.size, 2, none⟩ (.slice y.a y.n y.c)).setCell ⟨BL, l * 4 + 3, none⟩ (.int .i64 (BK - MV)))) := by
            refine ⟨⟨withHolds (setLine x o l 3 (BK - MV)) y, ?_, hOc, KC.congr (fun j hj => by match j, hj with | 0, _ => rfl | 1, _ => rfl | 2, _ => rfl | 3, _ => rfl | 4, _ => rfl | 5, _ => rfl | 6, _ => rfl), FC, ?_⟩, ?_, hBc⟩
            · rw [HS1.out]
              have h := hTn
              rw [show ((x.os.z ((o : Nat) : Int).toNat).ls.z ((l : Nat) : Int).toNat).n = BK from HBK.out] at h
              exact h
            · exact ((setLine_n (s := x) (o := o) (l := l) (c := 3) (v := BK - MV) o).2.1).trans HX9.out.2.2.2.2
            · rw [HS1.out]
              show T.left - min T.left _ = N - MV
              rw [HMZ.out MV HM1.out, HN.out]
          have z1 := KA.lt
          have z2 := KA.frozen 2
          have z3 := KA.cell (j := 2) (by decide)
          clear hOa KA FA hBka hOb KB FB hBb f1 f2 f3 f4 f5 f6 f8 f9 f10 f11 f12 f13 f14 hlb hOc KC FC hBc hTn yown yok hBa HX9 HBk9 HTK HS1
          simp only [Hs.val]
          go_wp2_with fail
          go_roundw
          case rel => exact ⟨k + 1, by omega, by go_num, by rw [HNX.out.2.1], HNX.out.1, HNX.out.2.2⟩
          case measure => simp [intOf]; omega
      · have hkn : k = (wayT p but).length := by omega
        have HT : Hid (T = tkOf p s (lineAt s o l).o n but) := HEND.out hkn
        clear HEND
        have KX := HX.out.2.2.1
        obtain ⟨m1, p0, p1, p2, p3, p4, p5, p6⟩ := Boxed.of KX
        obtain ⟨-, -, -, hBw, hz, -⟩ := HC.out wr HBk.out
        have HZ : Hid (Below w.heap.size w wr ∧ Blk wr (w.heap.size + 3) 31 7 (fun _ => .slice .none 0 0)) := ⟨hBw, hz⟩
        have zl := hz.lt
        have zf0 := hz.frozen 0
        have zc0 := hz.cell (j := 0) (by decide)
        have zf1 := hz.frozen 1
        have zc1 := hz.cell (j := 1) (by decide)
        have zf2 := hz.frozen 2
        have zc2 := hz.cell (j := 2) (by decide)
        have zf3 := hz.frozen 3
        have zc3 := hz.cell (j := 3) (by decide)
        have zf4 := hz.frozen 4
        have zc4 := hz.cell (j := 4) (by decide)
        have zf5 := hz.frozen 5
        have zc5 := hz.cell (j := 5) (by decide)
        have zf6 := hz.frozen 6
        have zc6 := hz.cell (j := 6) (by decide)
        clear KX hBw hz
        go_wp2_with fail
        have KZ := set7_blk HZ.out.2 (.slice x.on.a x.on.n x.on.c) (.slice x.os.a x.os.n x.os.c) (.slice x.hs.a x.hs.n x.hs.c) (.slice x.ms.a x.ms.n x.ms.c) (.slice x.si.a x.si.n x.si.c) (.slice x.so.a x.so.n x.so.c) (.slice x.sf.a x.sf.n x.sf.c)
        have hbz := set7_below (b := w.heap.size + 3) HZ.out.1 (by omega) (.slice x.on.a x.on.n x.on.c) (.slice x.os.a x.os.n x.os.c) (.slice x.hs.a x.hs.n x.hs.c) (.slice x.ms.a x.ms.n x.ms.c) (.slice x.si.a x.si.n x.si.c) (.slice x.so.a x.so.n x.so.c) (.slice x.sf.a x.sf.n x.sf.c)
        have hOz := OwnS.set7 HX.out.2.1 HZ.out.2 (.slice x.on.a x.on.n x.on.c) (.slice x.os.a x.os.n x.os.c) (.slice x.hs.a x.hs.n x.hs.c) (.slice x.ms.a x.ms.n x.ms.c) (.slice x.si.a x.si.n x.si.c) (.slice x.so.a x.so.n x.so.c) (.slice x.sf.a x.sf.n x.sf.c)
        unfold set7 at KZ hbz hOz
        obtain ⟨c0', c1', c2', c3', c4', c5', c6'⟩ := box_cells KZ
        refine bodyPost_ret (v := .tuple #[x.val, .int .i64 T.left, .int .i64 0]) (by simp [results, Tryz.results43, go_sem, St.val, c0', c1', c2', c3', c4', c5', c6']) rfl ?_
        have HL : allocL p s o l n but = T.left := by rw [HT.out]; exact if_pos HE.out
        refine ⟨x, by rw [HL, HE.out]; rfl, hOz.at, ⟨fun _ => ?_, fun h => absurd HE.out h⟩, fun _ => hOz.mono ?_, hbz⟩
        · rw [← HT.out]; exact HX.out.1
        · have := (HC.out _ HB5.out.1).2.2.2.1.size
          have := HB5.out.2.1
          omega
  · have HX : Hid (allocL p s order line n but = 0) := if_neg hE
    clear c0 c1 c2 c3 c4 c5 c6 hpk hsk kb
    have zl := hz.lt
    have zf0 := hz.frozen 0
    have zc0 := hz.cell (j := 0) (by decide)
    have zf1 := hz.frozen 1
    have zc1 := hz.cell (j := 1) (by decide)
    have zf2 := hz.frozen 2
    have zc2 := hz.cell (j := 2) (by decide)
    have zf3 := hz.frozen 3
    have zc3 := hz.cell (j := 3) (by decide)
    have zf4 := hz.frozen 4
    have zc4 := hz.cell (j := 4) (by decide)
    have zf5 := hz.frozen 5
    have zc5 := hz.cell (j := 5) (by decide)
    have zf6 := hz.frozen 6
    have zc6 := hz.cell (j := 6) (by decide)
    go_wp2_with fail
    have KZ := set7_blk hz (.slice .none 0 0) (.slice .none 0 0) (.slice .none 0 0) (.slice .none 0 0) (.slice .none 0 0) (.slice .none 0 0) (.slice .none 0 0)
    have hbz := set7_below (b := w.heap.size + 3) hBw (by omega) (.slice .none 0 0) (.slice .none 0 0) (.slice .none 0 0) (.slice .none 0 0) (.slice .none 0 0) (.slice .none 0 0) (.slice .none 0 0)
    unfold set7 at KZ hbz
    obtain ⟨c0', c1', c2', c3', c4', c5', c6'⟩ := box_cells KZ
    refine bodyPost_ret (v := .tuple #[noneS.val, .int .i64 0, .int .i64 (allocE p s order line n but)]) (by simp [results, Tryz.results43, go_sem, noneS, St.val, c0', c1', c2', c3', c4', c5', c6']) rfl ?_
    exact ⟨noneS, by rw [HX.out]; rfl, noneS_at _, ⟨fun h => absurd h hE, fun _ => ⟨rfl, rfl, rfl, rfl, rfl, rfl, rfl⟩⟩, fun h => absurd h hE, hbz⟩
end Go.Proofs.YtbcacebifpagpaeGreat
namespace Go.Proofs.YtbcacebifpagpaeGreat
open Go.RowKit
set_option linter.unusedVariables false
section
variable {p : Pl} {s x : St} {b g : Nat} {seen : Int}
theorem moreL_none (x : Hd) : moreL x 0 = x := by unfold moreL; rw [Int.add_zero]
theorem cutHs_none {f : Hd → Bool} {h : Hs} (hp : ∀ y, y ∈ revL h.z h.n → 1 ≤ y.n) : (cutHs f h 0).n = h.n ∧ ∀ j, j < (cutHs f h 0).n → (cutHs f h 0).z j = h.z j := by
  have e := cutHs_rev f h 0
  rw [cutL_zero f (fun y hy => by have := hp y hy; omega), flt_all hp] at e
  exact revL_inj e
theorem cut_none (r : RightT p s) (b g : Int) : SameT (cutS s b g 0) s := by
  have l0 : leftM s b g 0 = 0 := by
    have a := leftM_eq (b := b) (g := g) r (Int.le_refl 0)
    have c := (fromTo_bd (s := s) (b := b) (g := g) (n := s.ms.n) r.fm.moveN).1
    omega
  have q0 : ∀ o l, cutQs s b g 0 o l = 0 := fun o l => by
    unfold cutQs
    rw [l0]
    exact cutQ_zero _ _ _ r.holdsP
  refine ⟨⟨rfl, fun _ _ => ⟨rfl, fun _ _ => rfl⟩⟩, ⟨rfl, fun i _ => ⟨rfl, rfl, fun j _ => ?_⟩⟩, ?_, cutHs_none r.moves0, ⟨rfl, fun _ _ => rfl⟩, ⟨rfl, fun _ _ => rfl⟩, ⟨rfl, fun _ _ => rfl⟩⟩
  · show moreL ((s.os.z i).ls.z j) (cutQs s b g 0 i j) = _
    rw [q0, moreL_none]
  · show (cutHs (heldF s b g) s.hs (leftM s b g 0)).n = _ ∧ ∀ j, j < (cutHs (heldF s b g) s.hs (leftM s b g 0)).n → (cutHs (heldF s b g) s.hs (leftM s b g 0)).z j = _
    rw [l0]
    exact cutHs_none r.holds0
theorem TkAll.skip {but : Int} {q : Nat → Nat → Int} {m : Nat → Nat} (Q : QIn p but q s) (hm : ∀ a, a < s.os.n → m a = (s.os.z a).ls.n) (hq : ∀ a b, a < s.os.n → b < (s.os.z a).ls.n → q a b = 0) : ∀ {i : Nat}, i ≤ s.os.n → TkAll p but q m s i s
  | 0, _ => SameT.self s
  | i + 1, hi => by
    have T := TkAll.skip Q hm hq (i := i) (by omega)
    exact ⟨s, T, TkRow.skip Q (TkAll.pos Q hm (by omega) T) (by omega) (by rw [hm i (by omega)]; exact Nat.le_refl _) fun b hb => hq i b (by omega) (by rw [← hm i (by omega)]; exact hb)⟩
theorem countE_of (h : CountIn p s b g seen) : countE p s b g seen = 0 := by
  have h1 := h.bn
  have h2 := h.gn
  have h3 := h.s0
  have h4 := h.s1
  unfold countE
  rw [if_pos (stateE_of h.r), inB_mk (by omega), inB_mk (by omega), inB_mk (by omega)]
  have e : (Int.toNat (b : Int)) = b := rfl
  have e2 : (Int.toNat (g : Int)) = g := rfl
  rw [e, e2, inB_mk h.fx]
  rfl
theorem CountIn.onS (h : CountIn p s b g seen) (i j : Nat) : ((countS s b g seen).on.r i).z j = if i = b ∧ j = g then seen else (s.on.r i).z j := fixOn_num (cutS s b g (missZ s b g seen)) b g seen i j
theorem CountIn.on (h : CountIn p s b g seen) (e : SameT x (countT p s b g seen)) : x.on.n = s.on.n ∧ ∀ i, i < s.on.n → (x.on.r i).n = (s.on.r i).n ∧ ∀ j, j < (s.on.r i).n → (x.on.r i).z j = if i = b ∧ j = g then seen else (s.on.r i).z j := by
  have a := h.pos.al.on
  have n1 : x.on.n = s.on.n := e.on.1.trans a.1
  refine ⟨n1, fun i hi => ?_⟩
  have e1 := e.on.2 i (by rw [n1]; exact hi)
  have a1 := a.2 i (by rw [a.1]; exact hi)
  have l1 : ((countS s b g seen).on.r i).n = (s.on.r i).n := setOn_len (cutS s b g (missZ s b g seen)) b g seen i
  have l2 : (x.on.r i).n = (s.on.r i).n := e1.1.trans (a1.1.trans l1)
  refine ⟨l2, fun j hj => ?_⟩
  rw [e1.2 j (by rw [l2]; exact hj), a1.2 j (by rw [a1.1, l1]; exact hj), h.onS]
theorem CountIn.num (h : CountIn p s b g seen) (e : SameT x (countT p s b g seen)) : (x.on.r b).z g = seen := by
  have hb : b < s.on.n := by rw [h.r.fm.sh.n]; exact h.bn
  have l := h.r.fm.sh.len b hb
  have k := ((h.on e).2 b hb).2 g (by rw [l]; exact h.gn)
  rw [k, if_pos ⟨rfl, rfl⟩]
theorem CountIn.left (h : CountIn p s b g seen) (e : SameT x (countT p s b g seen)) : availZ x b g = max (seen - boundZ s b g) 0 := by
  rw [e.avail (count_right h).fm h.bn h.gn, (h.pos.al.av b g h.bn h.gn).2 rfl, h.av]
theorem revL_same {h k : Hs} (hn : h.n = k.n) (hz : ∀ j, j < h.n → h.z j = k.z j) : revL h.z h.n = revL k.z k.n := by
  rw [← hn]
  exact revL_congr hz
theorem cutL_same {f g : Hd → Bool} : ∀ {R : List Hd} {m : Int}, (∀ x, x ∈ R → f x = g x) → cutL f m R = cutL g m R
  | [], _, _ => rfl
  | h :: R, m, e => by
    show (if f h then _ else _) = if g h then _ else _
    rw [e h List.mem_cons_self, cutL_same (m := m - min m h.n) fun x hx => e x (List.mem_cons_of_mem _ hx), cutL_same (m := m) fun x hx => e x (List.mem_cons_of_mem _ hx)]
theorem cutQ_same {f g : Hd → Bool} {o l : Int} : ∀ {R : List Hd} {m : Int}, (∀ x, x ∈ R → f x = g x) → cutQ f m R o l = cutQ g m R o l
  | [], _, _ => rfl
  | h :: R, m, e => by
    show (if f h then _ else _) = if g h then _ else _
    rw [e h List.mem_cons_self, cutQ_same (m := m - min m h.n) fun x hx => e x (List.mem_cons_of_mem _ hx), cutQ_same (m := m) fun x hx => e x (List.mem_cons_of_mem _ hx)]
theorem cutS_same {y : St} (f : Formed p s) (e : SameT y s) (b g M : Int) : SameT (cutS y b g M) (cutS s b g M) ∧ ∀ o l, cutQs y b g M o l = cutQs s b g M o l := by
  have em : moveR y = moveR s := revL_same e.ms.1 e.ms.2
  have eh : holdR y = holdR s := revL_same e.hs.1 e.hs.2
  have el : leftM y b g M = leftM s b g M := by unfold leftM; rw [em]
  have ef : ∀ x, x ∈ holdR s → heldF y b g x = heldF s b g x := fun x hx => by
    obtain ⟨j, hj, rfl⟩ := revL_mem hx
    obtain ⟨h1, h2, -⟩ := homeless_no (f.home j hj)
    unfold heldF goodH
    rw [e.line h1.2 h2.2]
  have q : ∀ o l, cutQs y b g M o l = cutQs s b g M o l := fun o l => by
    unfold cutQs
    rw [el, eh]
    exact cutQ_same ef
  have hh : revL (cutHs (heldF y b g) y.hs (leftM y b g M)).z (cutHs (heldF y b g) y.hs (leftM y b g M)).n = revL (cutHs (heldF s b g) s.hs (leftM s b g M)).z (cutHs (heldF s b g) s.hs (leftM s b g M)).n := by
    rw [cutHs_rev, cutHs_rev, el]
    have e1 : revL y.hs.z y.hs.n = revL s.hs.z s.hs.n := eh
    have e2 : cutL (heldF y b g) (leftM s b g M) (revL s.hs.z s.hs.n) = cutL (heldF s b g) (leftM s b g M) (revL s.hs.z s.hs.n) := cutL_same ef
    rw [e1, e2]
  have hm : revL (cutHs (fromF b g) y.ms M).z (cutHs (fromF b g) y.ms M).n = revL (cutHs (fromF b g) s.ms M).z (cutHs (fromF b g) s.ms M).n := by
    rw [cutHs_rev, cutHs_rev]
    have e1 : revL y.ms.z y.ms.n = revL s.ms.z s.ms.n := em
    rw [e1]
  refine ⟨⟨e.on, ⟨e.os.1, fun i hi => ?_⟩, revL_inj hh, revL_inj hm, e.si, e.so, e.sf⟩, q⟩
  have hi' : i < y.os.n := hi
  have w := e.os.2 i hi'
  refine ⟨w.1, w.2.1, fun j hj => ?_⟩
  have hj' : j < (y.os.z i).ls.n := hj
  show moreL ((y.os.z i).ls.z j) (cutQs y b g M i j) = moreL ((s.os.z i).ls.z j) (cutQs s b g M i j)
  rw [w.2.2 j hj', q]
theorem QIn.same {but : Int} {q q' : Nat → Nat → Int} {y : St} (Q : QIn p but q s) (e : SameT y s) (hq : ∀ a b, a < s.os.n → b < (s.os.z a).ls.n → q' a b = q a b) : QIn p but q' y := by
  refine ⟨e.right Q.r, fun a b ha hb => ?_, Q.bt⟩
  have ha' : a < s.os.n := by rw [← e.os.1]; exact ha
  have k := e.os.2 a ha
  have hb' : b < (s.os.z a).ls.n := by rw [← k.2.1]; exact hb
  rw [hq a b ha' hb', k.1, k.2.2 b hb]
  exact Q.q0 a b ha' hb'
end
end Go.Proofs.YtbcacebifpagpaeGreat
namespace Go.Proofs.YtbcacebifpagpaeGreat
open Go.RowKit
set_option linter.unusedVariables false
def CutA (p : Pl) (x0 : St) (b : Nat) (q : Int → Int → Int) (i : Nat) (cur : St) : Prop := TkAll p b (fun i j => q i j) (relM x0) x0 i cur
def CutB (p : Pl) (x0 : St) (b : Nat) (q : Int → Int → Int) (i j : Nat) (cur : St) : Prop := ∃ y, CutA p x0 b q i y ∧ TkRow p b (fun i j => q i j) i y j cur
section
variable {p : Pl} {x0 cur x : St} {b : Nat} {q : Int → Int → Int} {i j : Nat}
theorem CutB.next (h : CutB p x0 b q i (x0.os.z i).ls.n cur) : CutA p x0 b q (i + 1) cur := h
theorem CutA.row (h : CutA p x0 b q i cur) : CutB p x0 b q i 0 cur := ⟨cur, h, rfl⟩
theorem CutB.pos (Q : QIn p b (fun i j => q i j) x0) (h : CutB p x0 b q i j cur) (hi : i < x0.os.n) (hj : j ≤ (x0.os.z i).ls.n) : Pos p b (fun i j => q i j) x0 i j cur := by
  obtain ⟨y, h1, h2⟩ := h
  exact TkRow.pos Q (TkAll.pos Q (fun _ _ => rfl) (Nat.le_of_lt hi) h1) hi hj h2
theorem CutB.step (h : CutB p x0 b q i j cur) (T : Step p b cur i j (q i j) x) : CutB p x0 b q i (j + 1) x := by
  obtain ⟨y, h1, h2⟩ := h
  exact ⟨y, h1, cur, h2, T⟩
theorem CutB.skip (Q : QIn p b (fun i j => q i j) x0) (h : CutB p x0 b q i j cur) (hi : i < x0.os.n) (hj : j < (x0.os.z i).ls.n) (h0 : q i j = 0) : CutB p x0 b q i (j + 1) cur := by
  have I := (h.pos Q hi (Nat.le_of_lt hj)).stepIn Q hi hj
  have T := I.tki
  have T' : TakeIn p cur i j (q i j) := T
  rw [h0] at T'
  refine h.step ?_
  rw [h0]
  exact Step.skip T'
end
end Go.Proofs.YtbcacebifpagpaeGreat
namespace Go.Proofs.YtbcacebifpagpaeGreat
open Go.RowKit Go.Shelf Go.Sort
set_option linter.unusedVariables false
theorem cutStep {A BC r n : Nat} {W0 w : World} {y : St} {q : Int → Int → Int} {f : Nat → Value} (h : OwnS A w y ∧ Blk w BC 44 10 f ∧ MapQ w r q ∧ Below n W0 w) (hn : n ≤ BC) (j : Nat) (u : Value) : OwnS A (w.setCell ⟨BC, j, none⟩ u) y ∧ Blk (w.setCell ⟨BC, j, none⟩ u) BC 44 10 (fun k => if k = j then u else f k) ∧ MapQ (w.setCell ⟨BC, j, none⟩ u) r q ∧ Below n W0 (w.setCell ⟨BC, j, none⟩ u) :=
  ⟨h.1.boxC h.2.1 j u, h.2.1.set j u, h.2.2.1.set (h.2.1.noMap h.2.2.1) u, h.2.2.2.setCell (p := ⟨BC, j, none⟩) hn u⟩
theorem CutI.newState {A BC r : Nat} {W0 wk : World} {x y : St} {b g : Int} {q : Int → Int → Int} (h : CutI A BC r W0 x b g q wk) (ho : OwnS A wk y) : CutI A BC r W0 y b g q (set7 wk BC (.slice y.on.a y.on.n y.on.c) (.slice y.os.a y.os.n y.os.c) (.slice y.hs.a y.hs.n y.hs.c) (.slice y.ms.a y.ms.n y.ms.c) (.slice y.si.a y.si.n y.si.c) (.slice y.so.a y.so.n y.so.c) (.slice y.sf.a y.sf.n y.sf.c)) := by
  have b1 := h.w0
  have b2 := h.bc
  have hn : W0.heap.size ≤ BC := by omega
  have k := cutStep (cutStep (cutStep (cutStep (cutStep (cutStep (cutStep ⟨ho, h.box, h.map, h.bel⟩ hn 0 (.slice y.on.a y.on.n y.on.c)) hn 1 (.slice y.os.a y.os.n y.os.c)) hn 2 (.slice y.hs.a y.hs.n y.hs.c)) hn 3 (.slice y.ms.a y.ms.n y.ms.c)) hn 4 (.slice y.si.a y.si.n y.si.c)) hn 5 (.slice y.so.a y.so.n y.so.c)) hn 6 (.slice y.sf.a y.sf.n y.sf.c)
  unfold set7
  refine ⟨k.1, k.2.1.congr fun j hj => ?_, k.2.2.1, k.2.2.2, by have := h.le; simpa using this, h.w0, h.bc, h.ra⟩
  match j, hj with
  | 0, _ => rfl
  | 1, _ => rfl
  | 2, _ => rfl
  | 3, _ => rfl
  | 4, _ => rfl
  | 5, _ => rfl
  | 6, _ => rfl
  | 7, _ => rfl
  | 8, _ => rfl
  | 9, _ => rfl
theorem OwnS.cut7 {A BC r : Nat} {W0 wk : World} {x y s : St} {b g : Int} {q : Int → Int → Int} (h : CutI A BC r W0 x b g q wk) (ho : OwnS A wk s) : OwnS A (Go.Proofs.YtbcacebifpagpaeGreat.set7 wk BC (.slice y.on.a y.on.n y.on.c) (.slice y.os.a y.os.n y.os.c) (.slice y.hs.a y.hs.n y.hs.c) (.slice y.ms.a y.ms.n y.ms.c) (.slice y.si.a y.si.n y.si.c) (.slice y.so.a y.so.n y.so.c) (.slice y.sf.a y.sf.n y.sf.c)) s := by
  have b1 := h.w0
  have b2 := h.bc
  have hn : W0.heap.size ≤ BC := by omega
  have k := cutStep (cutStep (cutStep (cutStep (cutStep (cutStep (cutStep ⟨ho, h.box, h.map, h.bel⟩ hn 0 (.slice y.on.a y.on.n y.on.c)) hn 1 (.slice y.os.a y.os.n y.os.c)) hn 2 (.slice y.hs.a y.hs.n y.hs.c)) hn 3 (.slice y.ms.a y.ms.n y.ms.c)) hn 4 (.slice y.si.a y.si.n y.si.c)) hn 5 (.slice y.so.a y.so.n y.so.c)) hn 6 (.slice y.sf.a y.sf.n y.sf.c)
  unfold Go.Proofs.YtbcacebifpagpaeGreat.set7
  exact k.1
theorem Blk.cut7 {w : World} {B BC n : Nat} {T : TypeId} {f : Nat → Value} (h : Blk w B T n f) (ne : B ≠ BC) (v0 v1 v2 v3 v4 v5 v6 : Value) : Blk (set7 w BC v0 v1 v2 v3 v4 v5 v6) B T n f := by
  unfold set7
  exact ((((((h.other (a := ⟨BC, 0, none⟩) ne v0).other (a := ⟨BC, 1, none⟩) ne v1).other (a := ⟨BC, 2, none⟩) ne v2).other (a := ⟨BC, 3, none⟩) ne v3).other (a := ⟨BC, 4, none⟩) ne v4).other (a := ⟨BC, 5, none⟩) ne v5).other (a := ⟨BC, 6, none⟩) ne v6
structure TakI (p : Pl) (x0 : St) (A BC r : Nat) (W0 : World) (b g : Int) (q : Int → Int → Int) (BP : Nat) (cur : St) (wk : World) : Prop where
  own0 : OwnS A wk x0
  cut : CutI A BC r W0 cur b g q wk
  plan : Blk wk BP 25 2 (fun j => (#[.slice p.ab p.nb p.cb, .slice p.sa p.ns p.cs] : Array Value).getD j default)
theorem TakI.below {p : Pl} {x0 cur : St} {A BC r BP : Nat} {W0 wk wj : World} {b g : Int} {q : Int → Int → Int} (h : TakI p x0 A BC r W0 b g q BP cur wk) (hB : Below wk.heap.size wk wj) : TakI p x0 A BC r W0 b g q BP cur wj := ⟨OwnS.below h.own0 hB, h.cut.below hB, h.plan.below hB⟩
set_option maxRecDepth 100000 in
set_option maxHeartbeats 4000000 in
theorem takeElsewhere_any (p : Pl) (A BC r : Nat) (W0 : World) (x0 : St) (b g : Nat) (q : Int → Int → Int) (w : World) (h : CutI A BC r W0 x0 b g q w) (hp : ∀ wk, Below W0.heap.size W0 wk → p.At wk) (Q : QIn p b (fun i j => q i j) x0) :
    Calls Tryz.prog 14 #[.pointer (some ⟨BC, 0, none⟩), p.val] w fun e w' => e = .returned (.tuple #[]) ∧ ∃ y, TkAll p b (fun i j => q i j) (relM x0) x0 x0.os.n y ∧ CutI A BC r W0 y b g q w' := by
  have HP : Hid (∀ wk, Below W0.heap.size W0 wk → p.At wk) := hp
  have HQ : Hid (QIn p b (fun i j => q i j) x0) := Q
  have ol : x0.os.n ≤ x0.os.c := h.own.os.le
  have oc : x0.os.c ≤ maxLen := h.own.os.cap
  unfold maxLen at oc
  have on4 : x0.os.n ≤ 4 := Q.r.fm.os4
  obtain ⟨W1, hW, hWB, K1⟩ : ∃ W, w.alloc (.cells #[.slice p.ab p.nb p.cb, .slice p.sa p.ns p.cs] 25) = W ∧ Below w.heap.size w W ∧ Blk W w.heap.size 25 2 (fun j => (#[.slice p.ab p.nb p.cb, .slice p.sa p.ns p.cs] : Array Value).getD j default) := ⟨_, rfl, (Below.refl _ _).alloc (Nat.le_refl _) _, Blk.mk' rfl rfl⟩
  have HW : Hid (w.alloc (.cells #[.slice p.ab p.nb p.cb, .slice p.sa p.ns p.cs] 25) = W1) := hW
  have h' := h.below hWB
  have HI : Hid (TakI p x0 A BC r W0 b g q w.heap.size x0 W1) := ⟨h'.own, h', K1⟩
  obtain ⟨u, -, u1, -⟩ := h'.boxed
  rw [← HW.out] at u u1
  clear hW hWB K1 h h' hp Q
  unfold Pl.val
  go_enter Tryz.func14, Tryz.ntmps14
  go_wp2_with fail
  rw [HW.out]
  clear u u1 HW
  generalize w.heap.size = BP at *
  go_loopw [14] (fun kv wk => ∃ (i : Nat) (cur : St), i ≤ x0.os.n ∧ kv = .int .i64 i ∧ Hid (TakI p x0 A BC r W0 b g q BP cur wk) ∧ Hid (CutA p x0 b q i cur)) (fun kv _ => x0.os.n - (intOf kv).toNat)
  case atStart => exact ⟨0, x0, Nat.zero_le _, rfl, HI, SameT.self x0⟩
  case round =>
    clear HI
    obtain ⟨i, cur, hi, rfl, HI, HA⟩ := hrel
    by_cases hlt : i < x0.os.n
    · have q0 : (0 : Int) ≤ (i : Int) := by omega
      have q1 : (i : Int) < (x0.os.n : Int) := by omega
      obtain ⟨bo, oo, hoa, hbo, z0, z1, hlk⟩ := HI.out.own0.at.os.ods i hlt
      have ll := hlk.le
      have lc := hlk.cap
      unfold maxLen at lc
      have ln3 : (x0.os.z i).ls.n ≤ 3 := (HQ.out.r.fm.lns i hlt).2
      rw [hoa]
      clear hoa hlk
      obtain ⟨W, hW, hWB⟩ : ∃ W, wr.alloc (.cells #[.int .i64 (x0.os.z i).k, .slice (x0.os.z i).ls.a (x0.os.z i).ls.n (x0.os.z i).ls.c] 64) = W ∧ Below wr.heap.size wr W := ⟨_, rfl, (Below.refl _ _).alloc (Nat.le_refl _) _⟩
      have HW : Hid (wr.alloc (.cells #[.int .i64 (x0.os.z i).k, .slice (x0.os.z i).ls.a (x0.os.z i).ls.n (x0.os.z i).ls.c] 64) = W) := hW
      have HIW : Hid (TakI p x0 A BC r W0 b g q BP cur W) := HI.out.below hWB
      clear hW hWB
      go_wp2_with fail
      rw [HW.out]
      clear z0 z1 hbo HW q0 q1
      go_loopw [22] (fun jv wk => ∃ (j : Nat) (cr : St), j ≤ (x0.os.z i).ls.n ∧ jv = .int .i64 j ∧ Hid (TakI p x0 A BC r W0 b g q BP cr wk) ∧ Hid (CutB p x0 b q i j cr)) (fun jv _ => (x0.os.z i).ls.n - (intOf jv).toNat)
      case atStart => exact ⟨0, cur, Nat.zero_le _, rfl, HIW, HA.out.row⟩
      case round =>
        clear HIW HI HA
        obtain ⟨j, cr, hj, rfl, HI, HB⟩ := hrel
        by_cases hjl : j < (x0.os.z i).ls.n
        · have q2 : (0 : Int) ≤ (j : Int) := by omega
          have q3 : (j : Int) < ((x0.os.z i).ls.n : Int) := by omega
          have lk := map_look (o := i) (l := j) HI.out.cut.map (by omega) (by omega)
          unfold mkey at lk
          obtain ⟨u, -, -, -, -, -, -, -, -, -, u9⟩ := HI.out.cut.boxed
          have HPO : Hid (Pos p b (fun i j => q i j) x0 i j cr) := HB.out.pos HQ.out hlt (Nat.le_of_lt hjl)
          have HSI : Hid (StepIn p b cr i j (q i j)) := HPO.out.stepIn HQ.out hlt hjl
          have hq0 := HSI.out.n0
          by_cases hq : 0 < q i j
          · have HK2 : Hid ((cr.os.z i).k = 1) := by
              rcases HSI.out.kd with e | e
              · omega
              · exact e.1
            have HE0 : Hid (allocE p cr i j (q i j) b = 0) := by have I := HSI.out.allocIn HK2.out; exact I.less ⟨I.n0, Int.le_refl _⟩
            have HST : Hid (∀ x, Step p b cr i j (q i j) x → CutB p x0 b q i (j + 1) x) := fun x T => HB.out.step T
            clear HSI HK2 HB HPO
            obtain ⟨QV, hQV⟩ : ∃ QV, q i j = QV := ⟨_, rfl⟩
            rw [hQV] at lk HE0 HST hq hq0
            clear hQV
            go_wp2_with fail
            clear lk u u9
            obtain ⟨pm, p0, p1, p2, p3, p4, p5, p6, p7, -, -⟩ := HI.out.cut.boxed
            have d0 : wr.cell? ⟨BP, 0, none⟩ = some (.slice p.ab p.nb p.cb) := HI.out.plan.cell (j := 0) (by decide)
            have d1 : wr.cell? ⟨BP, 1, none⟩ = some (.slice p.sa p.ns p.cs) := HI.out.plan.cell (j := 1) (by decide)
            have l1 := HI.out.plan.lt
            have rp0 := fun d os => cell_regrown p0 d os
            have rp1 := fun d os => cell_regrown p1 d os
            have rp2 := fun d os => cell_regrown p2 d os
            have rp3 := fun d os => cell_regrown p3 d os
            have rp4 := fun d os => cell_regrown p4 d os
            have rp5 := fun d os => cell_regrown p5 d os
            have rp6 := fun d os => cell_regrown p6 d os
            have rp7 := fun d os => cell_regrown p7 d os
            have rd0 := fun d os => cell_regrown d0 d os
            have rd1 := fun d os => cell_regrown d1 d os
            refine wp_region_ph [(false, [0, 2, 3, 4, 6, 7, 8, 9, 10, 11], none), (true, [1, 5, 12], some 13), (false, [14, 15, 16, 17, 18, 19], some 20)] (by kernel_rfl) (by kernel_rfl) (by kernel_rfl) (by kernel_rfl) (by kernel_rfl) ?_
            refine ⟨fun _ => True, trivial, fun _ _ => trivial, ?_⟩
            simp only [picks, List.drop_succ_cons, List.drop_zero, List.take_succ_cons, List.take_zero, List.cons_append, List.nil_append]
            repeat (go_big_quiet_step (fail))
            refine wpQuiet_nil ?_
            refine ⟨fun w' => ∃ p : Regrown, w' = grow (redrawn wr p.d) p.os, regrown_of_below ((Below.refl _ _).drew), fun h => (by cases h), ?_⟩
            simp only [picks, List.drop_succ_cons, List.drop_zero, List.take_succ_cons, List.take_zero, List.cons_append, List.nil_append]
            repeat (go_big_quiet_step (fail))
            refine wpQuiet_nil ?_
            clear rp0 rp1 rp2 rp3 rp4 rp5 rp6 rp7 rd0 rd1 p0 p1 p2 p3 p4 p5 p6 p7 d0 d1 l1 pm
            have hBd : Below wr.heap.size wr wr.drew := (Below.refl _ _).drew
            generalize wr.drew = wj at *
            have HIj : Hid (TakI p x0 A BC r W0 b g q BP cr wj) := HI.out.below hBd
            have HPj : Hid (p.At wj) := HP.out wj HIj.out.cut.bel
            clear hBd HI
            refine wpOp_one 13 rfl ?_
            go_wp2_with fail
            refine (Take_any p cr i j QV b wj HPj.out HIj.out.cut.own.at).mono ?_
            rintro e w8 ⟨x, rfl, xat, xok, xown, hB8⟩
            have HT : Hid (CutB p x0 b q i (j + 1) x) := HST.out x (xok.1 HE0.out)
            have HOX : Hid (OwnS A w8 x) := (xown HE0.out).mono HIj.out.cut.le
            have HI8 : Hid (TakI p x0 A BC r W0 b g q BP cr w8) := HIj.out.below hB8
            clear xat xok xown hB8 HST HIj HPj HE0
            generalize allocL p cr i j QV b = LL at *
            generalize allocE p cr i j QV b = EE at *
            simp only [St.val]
            go_wp2_with fail
            refine ⟨fun _ => True, trivial, fun _ _ => trivial, ?_⟩
            simp only [picks, List.drop_succ_cons, List.drop_zero, List.take_succ_cons, List.take_zero, List.cons_append, List.nil_append]
            repeat (go_big_quiet_step (fail))
            refine wpQuiet_nil ?_
            have hb8 := HI8.out.cut.box
            have zl := hb8.lt
            have zf0 := hb8.frozen 0
            have zc0 := hb8.cell (j := 0) (by decide)
            have zf1 := hb8.frozen 1
            have zc1 := hb8.cell (j := 1) (by decide)
            have zf2 := hb8.frozen 2
            have zc2 := hb8.cell (j := 2) (by decide)
            have zf3 := hb8.frozen 3
            have zc3 := hb8.cell (j := 3) (by decide)
            have zf4 := hb8.frozen 4
            have zc4 := hb8.cell (j := 4) (by decide)
            have zf5 := hb8.frozen 5
            have zc5 := hb8.cell (j := 5) (by decide)
            have zf6 := hb8.frozen 6
            have zc6 := hb8.cell (j := 6) (by decide)
            clear hb8
            refine wpOp_one 20 rfl ?_
            go_wp2_with fail
            have HN : Hid (TakI p x0 A BC r W0 b g q BP x (set7 w8 BC (.slice x.on.a x.on.n x.on.c) (.slice x.os.a x.os.n x.os.c) (.slice x.hs.a x.hs.n x.hs.c) (.slice x.ms.a x.ms.n x.ms.c) (.slice x.si.a x.si.n x.si.c) (.slice x.so.a x.so.n x.so.c) (.slice x.sf.a x.sf.n x.sf.c))) := ⟨OwnS.cut7 HI8.out.cut HI8.out.own0, HI8.out.cut.newState HOX.out, HI8.out.plan.cut7 (Blk.ne2 HI8.out.plan HI8.out.cut.box (by decide)) _ _ _ _ _ _ _⟩
            unfold set7 at HN
            refine NoPanic.normal ?_
            go_wp2_with fail
            go_roundw
            case rel => exact ⟨j + 1, x, by omega, by go_num, HN, HT⟩
            case measure => simp [intOf]; omega
          · have HN : Hid (CutB p x0 b q i (j + 1) cr) := HB.out.skip HQ.out hlt hjl (by omega)
            clear HSI HB HPO
            obtain ⟨QV, hQV⟩ : ∃ QV, q i j = QV := ⟨_, rfl⟩
            rw [hQV] at lk hq hq0
            clear hQV
            go_wp2_with fail
            go_roundw
            case rel => exact ⟨j + 1, cr, by omega, by go_num, HI, HN⟩
            case measure => simp [intOf]; omega
        · have hjn : j = (x0.os.z i).ls.n := by omega
          subst hjn
          have HN : Hid (CutA p x0 b q (i + 1) cr) := HB.out.next
          go_wp2_with fail
          go_roundw
          case rel => exact ⟨i + 1, cr, by omega, by go_num, HI, HN⟩
          case measure => simp [intOf]; omega
    · have hin : i = x0.os.n := by omega
      subst hin
      go_wp2_with fail
      go_end0
      exact ⟨rfl, cur, HA.out, HI.out.cut⟩
end Go.Proofs.YtbcacebifpagpaeGreat
namespace Go.Proofs.YtbcacebifpagpaeGreat
open Go.RowKit Go.Shelf Go.Sort
set_option linter.unusedVariables false
theorem countE_avail {p : Pl} {s : St} {bin good seen : Int} (h : ¬ availE p s bin good = 0) : countE p s bin good seen = availE p s bin good := by
  unfold availE at h ⊢
  unfold countE
  by_cases h0 : stateE p s = 0
  · rw [if_pos h0] at h ⊢
    rw [if_pos h0]
    cases h1 : (inB bin 0 ((p.nb : Int) - 1) && inB good 0 ((p.ns : Int) - 1))
    · rfl
    · rw [h1] at h; exact absurd rfl h
  · rw [if_neg h0, if_neg h0]
theorem countIn0 {p : Pl} {s : St} {bin good : Int} (h : availE p s bin good = 0) : stateE p s = 0 ∧ ∃ b g : Nat, bin = b ∧ good = g ∧ b < p.nb ∧ g < p.ns := by
  unfold availE at h
  by_cases h0 : stateE p s = 0
  · rw [if_pos h0] at h
    cases h1 : (inB bin 0 ((p.nb : Int) - 1) && inB good 0 ((p.ns : Int) - 1))
    · rw [h1] at h; exact absurd h (by decide)
    · simp only [Bool.and_eq_true] at h1
      have q1 := inB_true h1.1
      have q2 := inB_true h1.2
      exact ⟨h0, bin.toNat, good.toNat, by omega, by omega, by omega, by omega⟩
  · rw [if_neg h0] at h; exact absurd h h0
theorem countE_range {p : Pl} {s : St} {b g : Nat} {seen : Int} (h : stateE p s = 0) (h2 : inB seen 0 200 = false) : countE p s b g seen = 3 := by
  unfold countE
  rw [if_pos h, h2, Bool.and_false]
  rfl
theorem countE_many {p : Pl} {s : St} {b g : Nat} {seen : Int} (h : stateE p s = 0) (hb : b < p.nb) (hg : g < p.ns) (h2 : inB seen 0 200 = true) (h3 : inB (s.sf.z g + (seen - (s.on.r b).z g)) (-1048576) 1048576 = false) : countE p s b g seen = 2 := by
  unfold countE
  have e : (Int.toNat (b : Int)) = b := rfl
  have e2 : (Int.toNat (g : Int)) = g := rfl
  rw [if_pos h, inB_mk (by omega), inB_mk (by omega), h2, e, e2, h3]
  rfl
theorem countIn_of {p : Pl} {s : St} {b g : Nat} {seen : Int} (h : stateE p s = 0) (hb : b < p.nb) (hg : g < p.ns) (h2 : inB seen 0 200 = true) (h3 : inB (s.sf.z g + (seen - (s.on.r b).z g)) (-1048576) 1048576 = true) : CountIn p s b g seen :=
  ⟨rightT h, hb, hg, (inB_true h2).1, (inB_true h2).2, inB_true h3⟩
theorem OwnS.setFix {A : Nat} {w : World} {s : St} {G : Nat} (h : OwnS A w s) (ha : s.sf.a = some ⟨G, 0, none⟩) (g : Nat) (x : Int) : OwnS A (w.setCell ⟨G, g, none⟩ (.int .i64 x)) (Go.Proofs.YtbcacebifpagpaeGreat.setFix s g x) := by
  obtain ⟨q, b1, b2, b3, b4, b5⟩ := h.sf
  rw [ha] at b1
  simp only [Option.some.injEq, Addr.mk.injEq, and_true] at b1
  subst b1
  refine ⟨?_, fun i hi => (h.rows i hi).apart (fun e => (h.ari i hi).2.2 (e.trans ha.symm)) _ _, h.rapart, h.os.other b5 (by decide) (by decide) _ _, h.hs.other b5 (by decide) _ _, h.ms.other b5 (by decide) _ _, h.msr.set _ _ _, h.si.apart (fun e => h.aif (e.trans ha.symm)) _ _, h.so.apart (fun e => h.aof (e.trans ha.symm)) _ _, h.sf.set ha _ _, h.aio, h.aif, h.aof, h.ari⟩
  obtain ⟨q', a0, a1, a2, a3, a4⟩ := h.on
  exact ⟨q', a0, a1, a2, a3, a4.other (a := ⟨G, g, none⟩) (Blk.ne2 a4 b5 (by decide)) _⟩
theorem CountIn.formed0 {p : Pl} {s : St} {b g : Nat} {seen : Int} (h : CountIn p s b g seen) : Formed p (fixOn s b g seen) := by
  have f := h.r.fm
  have G := h.right.fm
  exact ⟨G.sh, G.sh0, f.os4, f.ms8, f.lns, f.kind, f.line, f.hold, f.home, f.move, G.sin, G.son, G.sfn, G.sib, G.sob, G.sfb⟩
theorem CountIn.formed1 {p : Pl} {s : St} {b g : Nat} {seen : Int} (h : CountIn p s b g seen) : Formed p (fixOn (withMoves s (cutHs (fromF b g) s.ms (missZ s b g seen))) b g seen) := by
  have f := h.r.fm
  have G := h.right.fm
  exact ⟨G.sh, G.sh0, f.os4, G.ms8, f.lns, f.kind, f.line, f.hold, f.home, G.move, G.sin, G.son, G.sfn, G.sib, G.sob, G.sfb⟩
theorem CountIn.qmax {p : Pl} {s : St} {b g : Nat} {seen : Int} (h : CountIn p s b g seen) (o l : Int) : cutQs s b g (missZ s b g seen) o l ≤ 100000 := by
  have k := (cutQs_bd (b := b) (g := g) h.r h.miss0 o l).2
  have kb := keptS_bd (z := s.hs.z) o l s.hs.n fun q hq => (fineH_true (right_fine h.r.fm.hold q hq)).2.2.2
  have h72 := h.r.fm.hs72
  omega
end Go.Proofs.YtbcacebifpagpaeGreat
namespace Go.Proofs.YtbcacebifpagpaeGreat
open Go.RowKit Go.Shelf Go.Sort
set_option linter.unusedVariables false
theorem CountIn.cutted {p : Pl} {s x2 : St} {b g : Nat} {seen v : Int} (h : CountIn p s b g seen) (e : SameT x2 (fixOn s b g seen)) (hv : max 0 v = leftL (fromF b g) (missZ s b g seen) (moveR x2)) :
    let x3 := withMoves x2 (cutHs (fromF b g) x2.ms (missZ s b g seen))
    let Q := cutQ (heldF x3 b g) (max 0 v) (holdR x3)
    SameT (withHolds (backS x3 Q) (cutHs (heldF x3 b g) x3.hs (max 0 v))) (countS s b g seen) ∧ (∀ o l, Q o l = cutQs s b g (missZ s b g seen) o l) ∧ Formed p x3 := by
  have c := cutS_same h.formed0 e b g (missZ s b g seen)
  refine ⟨?_, fun o l => ?_, ?_⟩
  · have e1 : withHolds (backS (withMoves x2 (cutHs (fromF b g) x2.ms (missZ s b g seen))) (cutQ (heldF x2 b g) (max 0 v) (holdR x2))) (cutHs (heldF x2 b g) x2.hs (max 0 v)) = cutS x2 b g (missZ s b g seen) := by
      rw [hv]
      rfl
    exact e1 ▸ c.1
  · have e1 : cutQ (heldF x2 b g) (max 0 v) (holdR x2) o l = cutQs x2 b g (missZ s b g seen) o l := by
      rw [hv]
      rfl
    exact e1.trans (c.2 o l)
  · refine SameT.formed ?_ h.formed1
    have k : revL (cutHs (fromF b g) x2.ms (missZ s b g seen)).z (cutHs (fromF b g) x2.ms (missZ s b g seen)).n = revL (cutHs (fromF b g) s.ms (missZ s b g seen)).z (cutHs (fromF b g) s.ms (missZ s b g seen)).n := by
      rw [cutHs_rev, cutHs_rev, revL_same (h := x2.ms) (k := s.ms) e.ms.1 e.ms.2]
    exact ⟨e.on, e.os, e.hs, revL_inj k, e.si, e.so, e.sf⟩
set_option maxRecDepth 100000 in
set_option maxHeartbeats 4000000 in
theorem Count_any (p : Pl) (s : St) (bin good seen : Int) (w : World) (hp : p.At w) (hs : s.At w) :
    Calls Tryz.prog 4 #[p.val, s.val, .int .i64 bin, .int .i64 good, .int .i64 seen] w fun e w' => ∃ x : St, e = .returned (.tuple #[x.val, .int .i64 (countE p s bin good seen)]) ∧ x.At w' ∧ ActOK (countE p s bin good seen) (countT p s bin.toNat good.toNat seen) x ∧ (countE p s bin good seen = 0 → OwnS w.heap.size w' x) ∧ Below w.heap.size w w' := by
  obtain ⟨W0, hW, hWB, X0, Z0⟩ : ∃ W, (((w.alloc (.cells #[.slice p.ab p.nb p.cb, .slice p.sa p.ns p.cs] 25)).alloc (.cells s.cells 31)).alloc (.cells #[.slice .none 0 0, .slice .none 0 0, .slice .none 0 0, .slice .none 0 0, .slice .none 0 0, .slice .none 0 0, .slice .none 0 0] 31)) = W ∧ Below w.heap.size w W ∧ Boxes W w.heap.size (w.heap.size + 1) p s ∧ Blk W (w.heap.size + 2) 31 7 (fun _ => .slice .none 0 0) :=
    ⟨_, rfl, (two_below _ _ _).alloc (by simp; omega) _, (boxes_new w p s _ _).below ((Below.refl _ _).alloc (Nat.le_refl _) _), (Blk.mk' (cur := #[.slice .none 0 0, .slice .none 0 0, .slice .none 0 0, .slice .none 0 0, .slice .none 0 0, .slice .none 0 0, .slice .none 0 0]) (by simp) rfl).congr (fun j hj => by match j, hj with | 0, _ => rfl | 1, _ => rfl | 2, _ => rfl | 3, _ => rfl | 4, _ => rfl | 5, _ => rfl | 6, _ => rfl)⟩
  have HC : Hid (∀ wk, Below W0.heap.size W0 wk → Boxes wk w.heap.size (w.heap.size + 1) p s ∧ p.At wk ∧ s.At wk ∧ Below w.heap.size w wk ∧ Blk wk (w.heap.size + 2) 31 7 (fun _ => .slice .none 0 0)) := fun wk h => ⟨X0.below h, (hp.below hWB).below h, (hs.below hWB).below h, hWB.trans (h.mono hWB.size), Z0.below h⟩
  have HW : Hid (((w.alloc (.cells #[.slice p.ab p.nb p.cb, .slice p.sa p.ns p.cs] 25)).alloc (.cells #[.slice s.on.a s.on.n s.on.c, .slice s.os.a s.os.n s.os.c, .slice s.hs.a s.hs.n s.hs.c, .slice s.ms.a s.ms.n s.ms.c, .slice s.si.a s.si.n s.si.c, .slice s.so.a s.so.n s.so.c, .slice s.sf.a s.sf.n s.sf.c] 31)).alloc (.cells #[.slice .none 0 0, .slice .none 0 0, .slice .none 0 0, .slice .none 0 0, .slice .none 0 0, .slice .none 0 0, .slice .none 0 0] 31) = W0) := hW
  have leb := hp.leb
  have capb0 := hp.capb
  have les := hp.les
  have caps0 := hp.caps
  have capb := capb0
  have caps := caps0
  have zlt0 := Z0.lt
  unfold maxLen at capb caps
  have HSL : Hid ((s.on.n ≤ s.on.c ∧ s.on.c ≤ maxLen) ∧ s.sf.n ≤ s.sf.c ∧ s.sf.c ≤ maxLen) := ⟨⟨hs.on.le, hs.on.cap⟩, hs.sf.le, hs.sf.cap⟩
  clear hW X0 Z0 hp hs
  unfold Pl.val St.val
  go_enter Tryz.func4, Tryz.ntmps4
  go_wp2_with fail
  rw [HW.out]
  obtain ⟨X, hpk, hsk, hBw, hz⟩ := HC.out W0 (Below.refl _ _)
  refine (Avail_any p s bin good W0 hpk hsk).mono ?_
  rintro e w1 ⟨rfl, hB⟩
  clear X hpk hsk hBw hz HW
  obtain ⟨⟨⟨l1, d0, d1⟩, l2, c0, c1, c2, c3, c4, c5, c6⟩, hpk, hsk, hBw, hz⟩ := HC.out w1 hB
  by_cases h0 : availE p s bin good = 0
  · obtain ⟨hse, b, g, rfl, rfl, hb, hg⟩ := countIn0 h0
    have H0 : Hid (stateE p s = 0) := hse
    have HR : Hid (RightT p s) := rightT hse
    have HAV : Hid (availV p s b g = availZ s b g) := by show availV p s b g = _; unfold availV; rw [if_pos h0]; rfl
    rw [HAV.out, h0]
    clear h0 hse
    have son := HR.out.fm.sh.n
    have hbo : b < s.on.n := by omega
    have HLEN : Hid ((s.on.r b).n = p.ns) := HR.out.fm.sh.len b hbo
    cases h2 : inB seen 0 200
    · have HX : Hid (countE p s b g seen = 3) := countE_range H0.out h2
      have HNE : Hid (¬ countE p s b g seen = 0) := by show ¬ _; rw [HX.out]; decide
      generalize availZ s b g = AV at *
      clear hpk hsk
      have zl := hz.lt
      have zf0 := hz.frozen 0
      have zc0 := hz.cell (j := 0) (by decide)
      have zf1 := hz.frozen 1
      have zc1 := hz.cell (j := 1) (by decide)
      have zf2 := hz.frozen 2
      have zc2 := hz.cell (j := 2) (by decide)
      have zf3 := hz.frozen 3
      have zc3 := hz.cell (j := 3) (by decide)
      have zf4 := hz.frozen 4
      have zc4 := hz.cell (j := 4) (by decide)
      have zf5 := hz.frozen 5
      have zc5 := hz.cell (j := 5) (by decide)
      have zf6 := hz.frozen 6
      have zc6 := hz.cell (j := 6) (by decide)
      go_wp2_with (go_at_call 9; refine calls_to (Within_any _ _ _ _) ?_)
      have KZ := set7_blk hz (.slice .none 0 0) (.slice .none 0 0) (.slice .none 0 0) (.slice .none 0 0) (.slice .none 0 0) (.slice .none 0 0) (.slice .none 0 0)
      have hbz := set7_below (b := w.heap.size + 2) hBw (by omega) (.slice .none 0 0) (.slice .none 0 0) (.slice .none 0 0) (.slice .none 0 0) (.slice .none 0 0) (.slice .none 0 0) (.slice .none 0 0)
      unfold set7 at KZ hbz
      obtain ⟨c0', c1', c2', c3', c4', c5', c6'⟩ := box_cells KZ
      refine bodyPost_ret (v := .tuple #[noneS.val, .int .i64 3]) (by simp [results, Tryz.results4, go_sem, noneS, St.val, c0', c1', c2', c3', c4', c5', c6']) rfl ?_
      exact ⟨noneS, by rw [HX.out]; rfl, noneS_at _, ⟨fun h => absurd h (HNE.out), fun _ => ⟨rfl, rfl, rfl, rfl, rfl, rfl, rfl⟩⟩, fun h => absurd h (HNE.out), hbz⟩
    · have sb := inB_true h2
      obtain ⟨⟨onl, onc⟩, sfl, sfc⟩ := HSL.out
      unfold maxLen at onc sfc
      obtain ⟨bb, ob, hoa, hbb, e0, hrow⟩ := hsk.on.rows b hbo
      have HLG : g < (s.on.r b).n := by rw [HLEN.out]; exact hg
      obtain ⟨bg, og, hga, hbg, e1⟩ := hrow.ints g HLG
      have rl := hrow.le
      have rc := hrow.cap
      unfold maxLen at rc
      have sfn : g < s.sf.n := by rw [HR.out.fm.sfn]; exact hg
      obtain ⟨bf, of, hfa, hbf, e2⟩ := hsk.sf.ints g sfn
      have HOA : Hid (s.on.a = some ⟨bb, ob, none⟩) := hoa
      have HFA : Hid (s.sf.a = some ⟨bf, of, none⟩) := hfa
      rw [hoa] at c0
      rw [hga] at e0
      rw [hfa] at c6
      have q0 : (0 : Int) ≤ (b : Int) := by omega
      have q1 : (b : Int) < (s.on.n : Int) := by omega
      have q2 : (0 : Int) ≤ (g : Int) := by omega
      have q3 : (g : Int) < ((s.on.r b).n : Int) := by omega
      have q4 : (g : Int) < (s.sf.n : Int) := by omega
      have onb := HR.out.fm.sh.num b hbo g hg
      have sfb := HR.out.fm.sfb g hg
      have H2 : Hid (inB seen 0 200 = true) := h2
      clear hoa hga hfa hrow son
      cases h3 : inB (s.sf.z g + (seen - (s.on.r b).z g)) (-1048576) 1048576
      · have HX : Hid (countE p s b g seen = 2) := countE_many H0.out hb hg H2.out h3
        have HNE : Hid (¬ countE p s b g seen = 0) := by show ¬ _; rw [HX.out]; decide
        generalize (s.on.r b).z g = ON at *
        generalize s.sf.z g = SF at *
        generalize availZ s b g = AV at *
        clear hpk hsk
        have zl := hz.lt
        have zf0 := hz.frozen 0
        have zc0 := hz.cell (j := 0) (by decide)
        have zf1 := hz.frozen 1
        have zc1 := hz.cell (j := 1) (by decide)
        have zf2 := hz.frozen 2
        have zc2 := hz.cell (j := 2) (by decide)
        have zf3 := hz.frozen 3
        have zc3 := hz.cell (j := 3) (by decide)
        have zf4 := hz.frozen 4
        have zc4 := hz.cell (j := 4) (by decide)
        have zf5 := hz.frozen 5
        have zc5 := hz.cell (j := 5) (by decide)
        have zf6 := hz.frozen 6
        have zc6 := hz.cell (j := 6) (by decide)
        go_wp2_with (go_at_call 9; refine calls_to (Within_any _ _ _ _) ?_)
        have KZ := set7_blk hz (.slice .none 0 0) (.slice .none 0 0) (.slice .none 0 0) (.slice .none 0 0) (.slice .none 0 0) (.slice .none 0 0) (.slice .none 0 0)
        have hbz := set7_below (b := w.heap.size + 2) hBw (by omega) (.slice .none 0 0) (.slice .none 0 0) (.slice .none 0 0) (.slice .none 0 0) (.slice .none 0 0) (.slice .none 0 0) (.slice .none 0 0)
        unfold set7 at KZ hbz
        obtain ⟨c0', c1', c2', c3', c4', c5', c6'⟩ := box_cells KZ
        refine bodyPost_ret (v := .tuple #[noneS.val, .int .i64 2]) (by simp [results, Tryz.results4, go_sem, noneS, St.val, c0', c1', c2', c3', c4', c5', c6']) rfl ?_
        exact ⟨noneS, by rw [HX.out]; rfl, noneS_at _, ⟨fun h => absurd h (HNE.out), fun _ => ⟨rfl, rfl, rfl, rfl, rfl, rfl, rfl⟩⟩, fun h => absurd h (HNE.out), hbz⟩
      · have HCI : Hid (CountIn p s b g seen) := countIn_of H0.out hb hg H2.out h3
        have HX : Hid (countE p s b g seen = 0) := countE_of HCI.out
        have HCS : Hid (Calls Tryz.prog 10 #[s.val] w1 fun e w' => ∃ s' : St, e = .returned s'.val ∧ SameT s' s ∧ OwnS w1.heap.size w' s' ∧ Below w1.heap.size w1 w') := copyState_any p s w1 hsk HR.out.fm
        obtain ⟨ON, hON⟩ : ∃ ON, (s.on.r b).z g = ON := ⟨_, rfl⟩
        obtain ⟨SF, hSF⟩ : ∃ SF, s.sf.z g = SF := ⟨_, rfl⟩
        obtain ⟨AV, hAV⟩ : ∃ AV, availZ s b g = AV := ⟨_, rfl⟩
        have HV : Hid ((s.on.r b).z g = ON ∧ s.sf.z g = SF ∧ availZ s b g = AV) := ⟨hON, hSF, hAV⟩
        have avb : 0 ≤ AV ∧ AV ≤ ON := by
          have a := (goods_no (HR.out.goods g hg)).2 b hb
          have c := HCI.out.bound
          rw [hAV] at a c
          rw [hON] at c
          omega
        rw [hON] at e1 onb h3
        rw [hSF] at e2 sfb h3
        rw [hAV]
        clear hpk hsk hBw hz hON hSF hAV HAV
        go_wp2_with (go_at_call 9; refine calls_to (Within_any _ _ _ _) ?_)
        rw [← HOA.out, ← HFA.out]
        refine Calls.mono HCS.out ?_
        rintro e w4 ⟨o, rfl, hsame, hown, hB4⟩
        clear HCS l1 d0 d1 l2 c0 c1 c2 c3 c4 c5 c6 hbb e0 hbg e1 hbf e2 h2 h3 HOA HFA
        have A1 : W0.heap.size ≤ w1.heap.size := hB.size
        have A2 : w1.heap.size ≤ w4.heap.size := hB4.size
        have HLOW : Hid (w.heap.size ≤ W0.heap.size) := (HC.out _ (Below.refl _ _)).2.2.2.1.size
        obtain ⟨W5, hW5, hWB5, K5, M5⟩ : ∃ W, (w4.alloc (.map #[] 0)).alloc (.cells #[.slice o.on.a o.on.n o.on.c, .slice o.os.a o.os.n o.os.c, .slice o.hs.a o.hs.n o.hs.c, .slice o.ms.a o.ms.n o.ms.c, .slice o.si.a o.si.n o.si.c, .slice o.so.a o.so.n o.so.c, .slice o.sf.a o.sf.n o.sf.c, .int .i64 (b : Int), .int .i64 (g : Int), .map (some w4.heap.size)] 44) = W ∧ Below w4.heap.size w4 W ∧ Blk W (w4.heap.size + 1) 44 10 (cutC o b g w4.heap.size) ∧ MapQ W w4.heap.size (fun _ _ => 0) :=
          ⟨_, rfl, ((Below.refl _ _).alloc (Nat.le_refl _) _).alloc (by simp) _, (Blk.mk' (by simp) rfl).congr (fun j hj => by match j, hj with | 0, _ => rfl | 1, _ => rfl | 2, _ => rfl | 3, _ => rfl | 4, _ => rfl | 5, _ => rfl | 6, _ => rfl | 7, _ => rfl | 8, _ => rfl | 9, _ => rfl), (MapQ.new w4).below ((Below.refl _ _).alloc (Nat.le_refl _) _)⟩
        have HW5 : Hid ((w4.alloc (.map #[] 0)).alloc (.cells #[.slice o.on.a o.on.n o.on.c, .slice o.os.a o.os.n o.os.c, .slice o.hs.a o.hs.n o.hs.c, .slice o.ms.a o.ms.n o.ms.c, .slice o.si.a o.si.n o.si.c, .slice o.so.a o.so.n o.so.c, .slice o.sf.a o.sf.n o.sf.c, .int .i64 (b : Int), .int .i64 (g : Int), .map (some w4.heap.size)] 44) = W5) := hW5
        have hB14 := hB.trans (hB4.mono hB.size)
        have hB05 := hB14.trans (hWB5.mono hB14.size)
        have HM5 : Hid (OwnS w1.heap.size w4 o ∧ Below w4.heap.size w4 W5 ∧ Blk W5 (w4.heap.size + 1) 44 10 (cutC o b g w4.heap.size) ∧ MapQ W5 w4.heap.size (fun _ _ => 0) ∧ Below W0.heap.size W0 W5 ∧ SameT o s) := ⟨hown, hWB5, K5, M5, hB05, hsame⟩
        obtain ⟨⟨⟨l1, d0, d1⟩, l2, c0, -⟩, hpk, hsk, -, -⟩ := HC.out W5 hB05
        have hput : putE p s.on b g (seen - ON) = 0 := by
          have hu : shelfErr p s.on b g = 0 := by rw [shelfErr_eq HR.out.fm.sh0, inB_mk (by omega), inB_mk (by omega)]; rfl
          have e := HV.out.1
          have hi : inB (seen - ON) (-((s.on.r b).z g)) (200 - (s.on.r b).z g) = true := inB_mk (by omega)
          simp [putE, hu, hi]
        have HPU : Hid (Calls Tryz.prog 11 #[p.val, s.on.val, .int .i64 b, .int .i64 g, .int .i64 (seen - ON)] W5 fun e w' => ∃ s' : Sh, e = .returned (.tuple #[s'.val, .int .i64 0]) ∧ OwnR W5.heap.size w' s' ∧ s'.n = s.on.n ∧ (∀ i, i < s.on.n → (s'.r i).n = (s.on.r i).n ∧ ∀ j, j < (s.on.r i).n → (s'.r i).z j = putZ s.on b g (seen - ON) i j) ∧ Below W5.heap.size W5 w') := PutOwn_any p s.on b g (seen - ON) W5 hpk hsk.on hput
        rw [← HW5.out] at l1 d0 d1 l2 c0
        clear hW5 hWB5 K5 M5 hB14 hB05 hown hB4 hB hsame hpk hsk hput
        have hmm : ∀ (t : TypeId) (w : World), (Instr.makeMap t none).run Tryz.prog w = .ok (.map (some w.heap.size)) (w.alloc (.map #[] 0)) := fun _ _ => rfl
        simp only [St.val]
        go_wp2_with fail
        rw [HW5.out]
        clear l1 d0 d1 l2 c0 HW5 hmm
        refine Calls.mono HPU.out ?_
        rintro e w6 ⟨r6, rfl, hR, hRn, hRz, hB6⟩
        clear HPU
        have HX1 : Hid (SameT (setFix ⟨r6, o.os, o.hs, o.ms, o.si, o.so, o.sf⟩ g (SF + (seen - ON))) (fixOn s b g seen)) := by
          have e := HM5.out.2.2.2.2.2
          refine ⟨⟨hRn, fun i hi => ?_⟩, e.os, e.hs, e.ms, e.si, e.so, ⟨e.sf.1, fun j hj => ?_⟩⟩
          · have hi' : i < s.on.n := by rw [← hRn]; exact hi
            have k := hRz i hi'
            refine ⟨k.1.trans (setOn_len s b g seen i).symm, fun j hj => ?_⟩
            have hj' : j < (r6.r i).n := hj
            rw [fixOn_num]
            show (r6.r i).z j = _
            rw [k.2 j (by rw [← k.1]; exact hj')]
            show (if i = b ∧ j = g then (s.on.r i).z j + (seen - ON) else (s.on.r i).z j) = _
            by_cases c : i = b ∧ j = g
            · have hv := HV.out.1
              rw [if_pos c, if_pos c, c.1, c.2, hv]
              omega
            · rw [if_neg c, if_neg c]
          · have hj' : j < o.sf.n := hj
            have hv := HV.out
            show (if j = g then SF + (seen - ON) else o.sf.z j) = if j = g then s.sf.z g + (seen - (s.on.r b).z g) else s.sf.z j
            rw [hv.1, hv.2.1, e.sf.2 j hj']
        have HZ6 : Hid (o.sf.z g = SF) := (HM5.out.2.2.2.2.2.sf.2 g (by rw [HM5.out.2.2.2.2.2.sf.1]; exact sfn)).trans HV.out.2.1
        have b65 := HM5.out.2.1.size
        have B6 := HM5.out.2.2.1.below hB6
        have osn : g < o.sf.n := by rw [HM5.out.2.2.2.2.2.sf.1]; exact sfn
        have O4 := OwnS.below HM5.out.1 (HM5.out.2.1.trans (hB6.mono HM5.out.2.1.size))
        obtain ⟨G, ga, gA, gl, gle, gc, gcell, gfz⟩ := O4.sf.cellAt osn
        have gl4 : G < w4.heap.size := by
          obtain ⟨G', ga', -, gl', -⟩ := HM5.out.1.sf.cellAt osn
          rw [ga] at ga'
          simp only [Option.some.injEq, Addr.mk.injEq, and_true] at ga'
          omega
        unfold maxLen at gc
        rw [HZ6.out] at gcell
        have HGA : Hid (o.sf.a = some ⟨G, 0, none⟩) := ga
        have gne : ¬ G = w4.heap.size + 1 := by omega
        have gne2 : ¬ w4.heap.size + 1 = G := by omega
        have y0 := B6.lt
        have y1 := B6.frozen 0
        have y2 := B6.cell (j := 0) (by decide)
        have y3 : w6.cell? ⟨w4.heap.size + 1, 6, none⟩ = some (.slice (some ⟨G, 0, none⟩) o.sf.n o.sf.c) := by have h := B6.cell (j := 6) (by decide); rw [← ga]; exact h
        have gf := gfz g
        have q5 : (g : Int) < (o.sf.n : Int) := by omega
        have HI : Hid (CutI w1.heap.size (w4.heap.size + 1) w4.heap.size W0 (setFix ⟨r6, o.os, o.hs, o.ms, o.si, o.so, o.sf⟩ g (SF + (seen - ON))) b g (fun _ _ => 0) ((w6.setCell ⟨w4.heap.size + 1, 0, none⟩ (.slice r6.a r6.n r6.c)).setCell ⟨G, g, none⟩ (.int .i64 (SF + (seen - ON))))) := by
          have m6 := HM5.out.2.2.2.1.below hB6
          have bl := HM5.out.2.2.2.2.1.trans (hB6.mono HM5.out.2.2.2.2.1.size)
          have o1 := OwnS.swap HM5.out.1 (HM5.out.2.1.trans (hB6.mono HM5.out.2.1.size)) hR b65 (by omega)
          have o2 := OwnS.boxC o1 B6 0 (.slice r6.a r6.n r6.c)
          have o3 := o2.setFix (G := G) ga g (SF + (seen - ON))
          have k2 := B6.set 0 (.slice r6.a r6.n r6.c)
          have sz := hB6.size
          obtain ⟨Gq, gq1, -, -, -, gq5⟩ := o2.sf
          have gq : G = Gq := by have e : o.sf.a = some ⟨Gq, 0, none⟩ := gq1; rw [ga] at e; simpa using e
          subst gq
          have m7 := m6.set (j := 0) (B6.noMap m6) (.slice r6.a r6.n r6.c)
          refine ⟨o3, (k2.other (a := ⟨G, g, none⟩) gne2 _).congr (fun j hj => by match j, hj with | 0, _ => rfl | 1, _ => rfl | 2, _ => rfl | 3, _ => rfl | 4, _ => rfl | 5, _ => rfl | 6, _ => rfl | 7, _ => rfl | 8, _ => rfl | 9, _ => rfl), m7.set (j := g) (gq5.noMap m7) _, (bl.setCell (p := ⟨w4.heap.size + 1, 0, none⟩) (by show W0.heap.size ≤ w4.heap.size + 1; omega) _).setCell (p := ⟨G, g, none⟩) (by show W0.heap.size ≤ G; omega) _, by simp; omega, A1, by omega, A2⟩
        have HMZ : Hid (max 0 (-(seen - ON) - AV) = missZ s b g seen) := by
          have k := HCI.out.bound
          have v := HV.out
          rw [v.1, v.2.2] at k
          show max 0 (-(seen - ON) - AV) = _
          unfold missZ
          omega
        generalize hX2 : setFix ⟨r6, o.os, o.hs, o.ms, o.si, o.so, o.sf⟩ g (SF + (seen - ON)) = x2 at HX1 HI
        clear hX2 gfz B6 O4 hR hRn hRz hB6 ga gA HM5 HZ6 gle
        simp only [Sh.val]
        go_wp2_with fail
        clear y0 y1 y2 y3 gf gcell gl gl4 gne gne2 b65
        obtain ⟨wB, hwB⟩ : ∃ wB, ((w6.setCell ⟨w4.heap.size + 1, 0, none⟩ (.slice r6.a r6.n r6.c)).setCell ⟨G, g, none⟩ (.int .i64 (SF + (seen - ON)))) = wB := ⟨_, rfl⟩
        rw [hwB] at HI ⊢
        clear hwB
        have f0 := HCI.out.formed0
        have HCM : Hid (Calls Tryz.prog 13 #[.pointer (some ⟨w4.heap.size + 1, 0, none⟩), .int .i64 (-(seen - ON) - AV)] wB fun e w' => ∃ v : Int, e = .returned (.int .i64 v) ∧ max 0 v = leftL (fromF b g) (missZ s b g seen) (moveR x2) ∧ (-100000 ≤ v ∧ v ≤ 100000) ∧ CutI w1.heap.size (w4.heap.size + 1) w4.heap.size W0 (withMoves x2 (cutHs (fromF b g) x2.ms (missZ s b g seen))) b g (fun _ _ => 0) w') := by
          have h := cutMoves_any w1.heap.size (w4.heap.size + 1) w4.heap.size W0 x2 b g (fun _ _ => 0) (-(seen - ON) - AV) wB HI.out (fun j hj => by
            rw [HX1.out.ms.2 j hj]
            have := f0.moveN j (by rw [← HX1.out.ms.1]; exact hj)
            omega) (by rw [HX1.out.ms.1]; exact f0.ms8) (by omega)
          rw [HMZ.out] at h
          exact h
        clear f0 HI
        refine Calls.mono HCM.out ?_
        rintro e w7 ⟨v, rfl, hv, hvb, hI7⟩
        clear HCM
        have CT := HCI.out.cutted HX1.out hv
        obtain ⟨ct1, ct2, ct3⟩ := CT
        obtain ⟨x3, hx3⟩ : ∃ x3, withMoves x2 (cutHs (fromF b g) x2.ms (missZ s b g seen)) = x3 := ⟨_, rfl⟩
        rw [hx3] at hI7 ct3
        have ct1' : SameT (withHolds (backS x3 (cutQ (heldF x3 b g) (max 0 v) (holdR x3))) (cutHs (heldF x3 b g) x3.hs (max 0 v))) (countS s b g seen) := by rw [← hx3]; exact ct1
        have ct2' : ∀ o l, cutQ (heldF x3 b g) (max 0 v) (holdR x3) o l = cutQs s b g (missZ s b g seen) o l := by rw [← hx3]; exact ct2
        clear ct1 ct2 hx3 hv
        have HCH := cutHolds_any p w1.heap.size (w4.heap.size + 1) w4.heap.size W0 x3 b g v w7 hI7 ct3 hvb (fun o l => by rw [ct2' o l]; exact HCI.out.qmax o l)
        obtain ⟨QQ, hQQ⟩ : ∃ QQ, cutQ (heldF x3 b g) (max 0 v) (holdR x3) = QQ := ⟨_, rfl⟩
        rw [hQQ] at HCH ct1' ct2'
        obtain ⟨x4, hx4⟩ : ∃ x4, withHolds (backS x3 QQ) (cutHs (heldF x3 b g) x3.hs (max 0 v)) = x4 := ⟨_, rfl⟩
        rw [hx4] at HCH ct1'
        have HCH2 : Hid (Calls Tryz.prog 12 #[.pointer (some ⟨w4.heap.size + 1, 0, none⟩), .int .i64 v] w7 fun e w' => e = .returned (.tuple #[]) ∧ CutI w1.heap.size (w4.heap.size + 1) w4.heap.size W0 x4 b g QQ w') := HCH
        have HS4 : Hid (SameT x4 (countS s b g seen) ∧ ∀ o l, QQ o l = cutQs s b g (missZ s b g seen) o l) := ⟨ct1', ct2'⟩
        clear HCH ct1' ct2' ct3 hQQ hx4 hI7 hvb HX1 HMZ
        go_wp2_with fail
        refine Calls.mono HCH2.out ?_
        rintro e w8 ⟨rfl, hI8⟩
        clear HCH2
        have HI8 : Hid (CutI w1.heap.size (w4.heap.size + 1) w4.heap.size W0 x4 b g QQ w8) := hI8
        obtain ⟨⟨⟨l1, d0, d1⟩, -⟩, -⟩ := HC.out w8 hI8.bel
        have HTE : Hid (Calls Tryz.prog 14 #[.pointer (some ⟨w4.heap.size + 1, 0, none⟩), p.val] w8 fun e w' => e = .returned (.tuple #[]) ∧ ∃ y, TkAll p b (fun i j => QQ i j) (relM x4) x4 x4.os.n y ∧ CutI w1.heap.size (w4.heap.size + 1) w4.heap.size W0 y b g QQ w') :=
          takeElsewhere_any p w1.heap.size (w4.heap.size + 1) w4.heap.size W0 x4 b g QQ w8 hI8 (fun wk hb => (HC.out wk hb).2.1) (HCI.out.qin.same HS4.out.1 fun i j _ _ => HS4.out.2 i j)
        clear hI8 HI8
        go_wp2_with fail
        clear l1 d0 d1
        refine Calls.mono HTE.out ?_
        rintro e w9 ⟨rfl, y, hT, hI9⟩
        clear HTE
        have HY : Hid (SameT y (countT p s b g seen)) := by
          refine TkAll.same HCI.out.qin (fun _ _ => rfl) (Nat.le_refl s.os.n) HCI.out.all ?_
          have n4 : x4.os.n = s.os.n := HS4.out.1.os.1
          rw [n4] at hT
          refine TkAll.base (m' := relM x4) HS4.out.1 (fun _ _ => rfl) (fun i hi => ?_) (fun i j _ _ => HS4.out.2 i j) (Nat.le_refl s.os.n) hT
          exact (HS4.out.1.os.2 i (by rw [n4]; exact hi)).2.1
        have HI9 : Hid (CutI w1.heap.size (w4.heap.size + 1) w4.heap.size W0 y b g QQ w9) := hI9
        obtain ⟨pm, p0, p1, p2, p3, p4, p5, p6, -, -, -⟩ := hI9.boxed
        obtain ⟨-, -, -, hBw, hz⟩ := HC.out w9 hI9.bel
        have HZ : Hid (Below w.heap.size w w9 ∧ Blk w9 (w.heap.size + 2) 31 7 (fun _ => .slice .none 0 0)) := ⟨hBw, hz⟩
        have zl := hz.lt
        have zf0 := hz.frozen 0
        have zc0 := hz.cell (j := 0) (by decide)
        have zf1 := hz.frozen 1
        have zc1 := hz.cell (j := 1) (by decide)
        have zf2 := hz.frozen 2
        have zc2 := hz.cell (j := 2) (by decide)
        have zf3 := hz.frozen 3
        have zc3 := hz.cell (j := 3) (by decide)
        have zf4 := hz.frozen 4
        have zc4 := hz.cell (j := 4) (by decide)
        have zf5 := hz.frozen 5
        have zc5 := hz.cell (j := 5) (by decide)
        have zf6 := hz.frozen 6
        have zc6 := hz.cell (j := 6) (by decide)
        clear hBw hz hI9 hT HS4
        go_wp2_with fail
        have KZ := set7_blk HZ.out.2 (.slice y.on.a y.on.n y.on.c) (.slice y.os.a y.os.n y.os.c) (.slice y.hs.a y.hs.n y.hs.c) (.slice y.ms.a y.ms.n y.ms.c) (.slice y.si.a y.si.n y.si.c) (.slice y.so.a y.so.n y.so.c) (.slice y.sf.a y.sf.n y.sf.c)
        have hbz := set7_below (b := w.heap.size + 2) HZ.out.1 (by omega) (.slice y.on.a y.on.n y.on.c) (.slice y.os.a y.os.n y.os.c) (.slice y.hs.a y.hs.n y.hs.c) (.slice y.ms.a y.ms.n y.ms.c) (.slice y.si.a y.si.n y.si.c) (.slice y.so.a y.so.n y.so.c) (.slice y.sf.a y.sf.n y.sf.c)
        have hOz := OwnS.set7 HI9.out.own HZ.out.2 (.slice y.on.a y.on.n y.on.c) (.slice y.os.a y.os.n y.os.c) (.slice y.hs.a y.hs.n y.hs.c) (.slice y.ms.a y.ms.n y.ms.c) (.slice y.si.a y.si.n y.si.c) (.slice y.so.a y.so.n y.so.c) (.slice y.sf.a y.sf.n y.sf.c)
        unfold set7 at KZ hbz hOz
        obtain ⟨c0', c1', c2', c3', c4', c5', c6'⟩ := box_cells KZ
        refine bodyPost_ret (v := .tuple #[y.val, .int .i64 0]) (by simp [results, Tryz.results4, go_sem, St.val, c0', c1', c2', c3', c4', c5', c6']) rfl ?_
        exact ⟨y, by rw [HX.out]; rfl, hOz.at, ⟨fun _ => HY.out, fun h => absurd HX.out h⟩, fun _ => hOz.mono (Nat.le_trans HLOW.out A1), hbz⟩
  · have HX : Hid (countE p s bin good seen = availE p s bin good) := countE_avail h0
    have HNE : Hid (¬ countE p s bin good seen = 0) := by show ¬ _; rw [countE_avail h0]; exact h0
    have g0 : (availE p s bin good != 0) = true := by simpa using h0
    clear h0
    generalize availV p s bin good = AV at *
    generalize availE p s bin good = AE at *
    clear hpk hsk
    have zl := hz.lt
    have zf0 := hz.frozen 0
    have zc0 := hz.cell (j := 0) (by decide)
    have zf1 := hz.frozen 1
    have zc1 := hz.cell (j := 1) (by decide)
    have zf2 := hz.frozen 2
    have zc2 := hz.cell (j := 2) (by decide)
    have zf3 := hz.frozen 3
    have zc3 := hz.cell (j := 3) (by decide)
    have zf4 := hz.frozen 4
    have zc4 := hz.cell (j := 4) (by decide)
    have zf5 := hz.frozen 5
    have zc5 := hz.cell (j := 5) (by decide)
    have zf6 := hz.frozen 6
    have zc6 := hz.cell (j := 6) (by decide)
    go_wp2_with fail
    have KZ := set7_blk hz (.slice .none 0 0) (.slice .none 0 0) (.slice .none 0 0) (.slice .none 0 0) (.slice .none 0 0) (.slice .none 0 0) (.slice .none 0 0)
    have hbz := set7_below (b := w.heap.size + 2) hBw (by omega) (.slice .none 0 0) (.slice .none 0 0) (.slice .none 0 0) (.slice .none 0 0) (.slice .none 0 0) (.slice .none 0 0) (.slice .none 0 0)
    unfold set7 at KZ hbz
    obtain ⟨c0', c1', c2', c3', c4', c5', c6'⟩ := box_cells KZ
    refine bodyPost_ret (v := .tuple #[noneS.val, .int .i64 AE]) (by simp [results, Tryz.results4, go_sem, noneS, St.val, c0', c1', c2', c3', c4', c5', c6']) rfl ?_
    exact ⟨noneS, by rw [HX.out]; rfl, noneS_at _, ⟨fun h => absurd h (HNE.out), fun _ => ⟨rfl, rfl, rfl, rfl, rfl, rfl, rfl⟩⟩, fun h => absurd h (HNE.out), hbz⟩
end Go.Proofs.YtbcacebifpagpaeGreat
namespace Go.Proofs.YtbcacebifpagpaeGreat
open Go.RowKit Go.Shelf Go.Sort
set_option linter.unusedVariables false
theorem countBusy (g1 g2 g : Nat) : countE (yardP g1 g2) (busyS g 2 0) 0 0 1 = 0 ∧ countE (yardP g1 g2) (busyS g 2 0) 2 1 9 = 0 ∧ countE (yardP g1 g2) (busyS g 2 0) 3 0 1 = 3 := ⟨by kernel_rfl, by kernel_rfl, by kernel_rfl⟩
def CountA (x : St) : Prop := 0 < x.on.n ∧ 0 < (x.on.r 0).n ∧ (x.on.r 0).z 0 = 1 ∧ 0 < x.sf.n ∧ x.sf.z 0 = -8 ∧ x.ms.n = 0 ∧ 0 < x.hs.n ∧ x.hs.z 0 = ⟨0, 0, 0, 1⟩ ∧ 0 < x.os.n ∧ 0 < (x.os.z 0).ls.n ∧ (x.os.z 0).ls.z 0 = ⟨0, 6, 1, 1⟩
theorem CountA_mk {g1 g2 g : Nat} {x : St} (h : ActOK (countE (yardP g1 g2) (busyS g 2 0) 0 0 1) (countT (yardP g1 g2) (busyS g 2 0) (0 : Int).toNat (0 : Int).toNat 1) x) : CountA x := by
  have e : SameT x (countT (yardP g1 g2) (busyS g 2 0) 0 0 1) := h.1 (countBusy g1 g2 g).1
  have a1 : 0 < x.on.n := by rw [e.on.1]; exact of_decide_eq_true (by kernel_rfl)
  have b1 : 0 < (x.on.r 0).n := by rw [(e.on.2 0 a1).1]; exact of_decide_eq_true (by kernel_rfl)
  have c1 : (x.on.r 0).z 0 = 1 := by rw [(e.on.2 0 a1).2 0 b1]; kernel_rfl
  have a2 : 0 < x.sf.n := by rw [e.sf.1]; exact of_decide_eq_true (by kernel_rfl)
  have b2 : x.sf.z 0 = -8 := by rw [e.sf.2 0 a2]; kernel_rfl
  have a3 : x.ms.n = 0 := by rw [e.ms.1]; kernel_rfl
  have a4 : 0 < x.hs.n := by rw [e.hs.1]; exact of_decide_eq_true (by kernel_rfl)
  have b4 : x.hs.z 0 = ⟨0, 0, 0, 1⟩ := by rw [e.hs.2 0 a4]; kernel_rfl
  have a5 : 0 < x.os.n := by rw [e.os.1]; exact of_decide_eq_true (by kernel_rfl)
  have b5 : 0 < (x.os.z 0).ls.n := by rw [(e.os.2 0 a5).2.1]; exact of_decide_eq_true (by kernel_rfl)
  have c5 : (x.os.z 0).ls.z 0 = ⟨0, 6, 1, 1⟩ := by rw [(e.os.2 0 a5).2.2 0 b5]; kernel_rfl
  exact ⟨a1, b1, c1, a2, b2, a3, a4, b4, a5, b5, c5⟩
def CountB (y : St) : Prop := 2 < y.on.n ∧ 1 < (y.on.r 2).n ∧ (y.on.r 2).z 1 = 9 ∧ 1 < y.sf.n ∧ y.sf.z 1 = 3 ∧ 0 < y.os.n ∧ 1 < (y.os.z 0).ls.n ∧ (y.os.z 0).ls.z 1 = ⟨1, 9, 0, 3⟩
theorem CountB_mk {g1 g2 g : Nat} {y : St} (h : ActOK (countE (yardP g1 g2) (busyS g 2 0) 2 1 9) (countT (yardP g1 g2) (busyS g 2 0) (2 : Int).toNat (1 : Int).toNat 9) y) : CountB y := by
  have e : SameT y (countT (yardP g1 g2) (busyS g 2 0) 2 1 9) := h.1 (countBusy g1 g2 g).2.1
  have a1 : 2 < y.on.n := by rw [e.on.1]; exact of_decide_eq_true (by kernel_rfl)
  have b1 : 1 < (y.on.r 2).n := by rw [(e.on.2 2 a1).1]; exact of_decide_eq_true (by kernel_rfl)
  have c1 : (y.on.r 2).z 1 = 9 := by rw [(e.on.2 2 a1).2 1 b1]; kernel_rfl
  have a2 : 1 < y.sf.n := by rw [e.sf.1]; exact of_decide_eq_true (by kernel_rfl)
  have b2 : y.sf.z 1 = 3 := by rw [e.sf.2 1 a2]; kernel_rfl
  have a3 : 0 < y.os.n := by rw [e.os.1]; exact of_decide_eq_true (by kernel_rfl)
  have b3 : 1 < (y.os.z 0).ls.n := by rw [(e.os.2 0 a3).2.1]; exact of_decide_eq_true (by kernel_rfl)
  have c3 : (y.os.z 0).ls.z 1 = ⟨1, 9, 0, 3⟩ := by rw [(e.os.2 0 a3).2.2 1 b3]; kernel_rfl
  exact ⟨a1, b1, c1, a2, b2, a3, b3, c3⟩
set_option maxRecDepth 100000 in
set_option maxHeartbeats 8000000 in
theorem countBegun_any (w : World) :
    Calls Tryz.prog 6 #[] w fun e w' => e = .returned (.bool true) ∧ Below w.heap.size w w' := by
  go_enter Tryz.func6, Tryz.ntmps6
  have HB : Hid (Below w.heap.size w w) := Below.refl _ _
  go_wp2_with fail
  refine (yard_any _).mono ?_
  rintro e wa ⟨g1, g2, rfl, -, -, k1, k2, hA⟩
  go_wp2_with fail
  refine (busy_any _).mono ?_
  rintro e wb ⟨g, rfl, -, bb, hB⟩
  have hD := hA.trans (hB.mono hA.size)
  have HAT : Hid ((yardP g1 g2).At wb ∧ (busyS g 2 0).At wb) := ⟨yardAt (k1.below hB) (k2.below hB), busyAt bb⟩
  clear hA hB k1 k2 bb
  simp only [busyS, St.val]
  go_wp2_with fail
  refine (Count_any (yardP g1 g2) (busyS g 2 0) 0 0 1 wb HAT.out.1 HAT.out.2).mono ?_
  rintro e w1 ⟨x, rfl, atx, okx, -, hB⟩
  have hE := hD.trans (hB.mono hD.size)
  rw [(countBusy g1 g2 g).1]
  have HPx : Hid (CountA x) := CountA_mk okx
  clear hD hB HAT okx
  obtain ⟨V0, hW, hWB, K1⟩ : ∃ W, w1.alloc (.cells #[.slice x.on.a x.on.n x.on.c, .slice x.os.a x.os.n x.os.c, .slice x.hs.a x.hs.n x.hs.c, .slice x.ms.a x.ms.n x.ms.c, .slice x.si.a x.si.n x.si.c, .slice x.so.a x.so.n x.so.c, .slice x.sf.a x.sf.n x.sf.c] 31) = W ∧ Below w1.heap.size w1 W ∧ Blk W w1.heap.size 31 7 (fun j => x.cells.getD j default) := ⟨_, rfl, (Below.refl _ _).alloc (Nat.le_refl _) _, Blk.mk' rfl rfl⟩
  have HW : Hid (w1.alloc (.cells #[.slice x.on.a x.on.n x.on.c, .slice x.os.a x.os.n x.os.c, .slice x.hs.a x.hs.n x.hs.c, .slice x.ms.a x.ms.n x.ms.c, .slice x.si.a x.si.n x.si.c, .slice x.so.a x.so.n x.so.c, .slice x.sf.a x.sf.n x.sf.c] 31) = V0) := hW
  have hE := hE.trans (hWB.mono hE.size)
  have HB : Hid (Below w.heap.size w V0) := HB.out.trans (hE.mono HB.out.size)
  have Hx : Hid (x.At V0 ∧ Blk V0 w1.heap.size 31 7 (fun j => x.cells.getD j default)) := ⟨atx.below hWB, K1⟩
  clear atx
  clear hW K1 hWB hE
  simp only [St.val]
  go_wp2_with fail
  rw [HW.out]
  clear HW
  generalize w1.heap.size = Bx at *
  refine (yard_any _).mono ?_
  rintro e wa ⟨g1, g2, rfl, -, -, k1, k2, hA⟩
  go_wp2_with fail
  refine (busy_any _).mono ?_
  rintro e wb ⟨g, rfl, -, bb, hB⟩
  have hD := hA.trans (hB.mono hA.size)
  have HAT : Hid ((yardP g1 g2).At wb ∧ (busyS g 2 0).At wb) := ⟨yardAt (k1.below hB) (k2.below hB), busyAt bb⟩
  clear hA hB k1 k2 bb
  simp only [busyS, St.val]
  go_wp2_with fail
  refine (Count_any (yardP g1 g2) (busyS g 2 0) 2 1 9 wb HAT.out.1 HAT.out.2).mono ?_
  rintro e w2 ⟨y, rfl, aty, oky, -, hB⟩
  have hE := hD.trans (hB.mono hD.size)
  rw [(countBusy g1 g2 g).2.1]
  have HPy : Hid (CountB y) := CountB_mk oky
  clear hD hB HAT oky
  obtain ⟨V1, hW, hWB, K1⟩ : ∃ W, w2.alloc (.cells #[.slice y.on.a y.on.n y.on.c, .slice y.os.a y.os.n y.os.c, .slice y.hs.a y.hs.n y.hs.c, .slice y.ms.a y.ms.n y.ms.c, .slice y.si.a y.si.n y.si.c, .slice y.so.a y.so.n y.so.c, .slice y.sf.a y.sf.n y.sf.c] 31) = W ∧ Below w2.heap.size w2 W ∧ Blk W w2.heap.size 31 7 (fun j => y.cells.getD j default) := ⟨_, rfl, (Below.refl _ _).alloc (Nat.le_refl _) _, Blk.mk' rfl rfl⟩
  have HW : Hid (w2.alloc (.cells #[.slice y.on.a y.on.n y.on.c, .slice y.os.a y.os.n y.os.c, .slice y.hs.a y.hs.n y.hs.c, .slice y.ms.a y.ms.n y.ms.c, .slice y.si.a y.si.n y.si.c, .slice y.so.a y.so.n y.so.c, .slice y.sf.a y.sf.n y.sf.c] 31) = V1) := hW
  have hE := hE.trans (hWB.mono hE.size)
  have HB : Hid (Below w.heap.size w V1) := HB.out.trans (hE.mono HB.out.size)
  have Hx : Hid (x.At V1 ∧ Blk V1 Bx 31 7 (fun j => x.cells.getD j default)) := ⟨Hx.out.1.below hE, Hx.out.2.below hE⟩
  have Hy : Hid (y.At V1 ∧ Blk V1 w2.heap.size 31 7 (fun j => y.cells.getD j default)) := ⟨aty.below hWB, K1⟩
  clear aty
  clear hW K1 hWB hE
  simp only [St.val]
  go_wp2_with fail
  rw [HW.out]
  clear HW
  generalize w2.heap.size = By at *
  refine (yard_any _).mono ?_
  rintro e wa ⟨g1, g2, rfl, -, -, k1, k2, hA⟩
  go_wp2_with fail
  refine (busy_any _).mono ?_
  rintro e wb ⟨g, rfl, -, bb, hB⟩
  have hD := hA.trans (hB.mono hA.size)
  have HAT : Hid ((yardP g1 g2).At wb ∧ (busyS g 2 0).At wb) := ⟨yardAt (k1.below hB) (k2.below hB), busyAt bb⟩
  clear hA hB k1 k2 bb
  simp only [busyS, St.val]
  go_wp2_with fail
  refine (Count_any (yardP g1 g2) (busyS g 2 0) 3 0 1 wb HAT.out.1 HAT.out.2).mono ?_
  rintro e w3 ⟨u, rfl, -, -, -, hB⟩
  have hE := hD.trans (hB.mono hD.size)
  rw [(countBusy g1 g2 g).2.2]
  clear hD hB HAT
  obtain ⟨V2, hW, hWB, K1⟩ : ∃ W, w3.alloc (.cells #[.slice u.on.a u.on.n u.on.c, .slice u.os.a u.os.n u.os.c, .slice u.hs.a u.hs.n u.hs.c, .slice u.ms.a u.ms.n u.ms.c, .slice u.si.a u.si.n u.si.c, .slice u.so.a u.so.n u.so.c, .slice u.sf.a u.sf.n u.sf.c] 31) = W ∧ Below w3.heap.size w3 W ∧ Blk W w3.heap.size 31 7 (fun j => u.cells.getD j default) := ⟨_, rfl, (Below.refl _ _).alloc (Nat.le_refl _) _, Blk.mk' rfl rfl⟩
  have HW : Hid (w3.alloc (.cells #[.slice u.on.a u.on.n u.on.c, .slice u.os.a u.os.n u.os.c, .slice u.hs.a u.hs.n u.hs.c, .slice u.ms.a u.ms.n u.ms.c, .slice u.si.a u.si.n u.si.c, .slice u.so.a u.so.n u.so.c, .slice u.sf.a u.sf.n u.sf.c] 31) = V2) := hW
  have hE := hE.trans (hWB.mono hE.size)
  have HB : Hid (Below w.heap.size w V2) := HB.out.trans (hE.mono HB.out.size)
  have Hx : Hid (x.At V2 ∧ Blk V2 Bx 31 7 (fun j => x.cells.getD j default)) := ⟨Hx.out.1.below hE, Hx.out.2.below hE⟩
  have Hy : Hid (y.At V2 ∧ Blk V2 By 31 7 (fun j => y.cells.getD j default)) := ⟨Hy.out.1.below hE, Hy.out.2.below hE⟩
  clear hW K1 hWB hE
  obtain ⟨xm, xc0, xc1, xc2, xc3, xc4, xc5, xc6⟩ := Boxed.of Hx.out.2
  obtain ⟨xh0, xh1, xh2, xh3, xh4, xh5, xh6, xh7, xh8, xh9, xh10⟩ := HPx.out
  obtain ⟨x1b, x1o, x1a, x1l, x1c, x1r⟩ := Hx.out.1.on.rows 0 xh0
  have Hx1a : Hid (x.on.a = some ⟨x1b, x1o, none⟩) := x1a
  rw [x1a] at xc0
  have x1u := Hx.out.1.on.le
  have x1v := Hx.out.1.on.cap
  unfold maxLen at x1v
  clear x1a
  obtain ⟨x1B, x1O, x1A, x1L, x1C⟩ := x1r.ints 0 xh1
  rw [x1A] at x1c
  rw [xh2] at x1C
  have x1x := x1r.le
  have x1y := x1r.cap
  unfold maxLen at x1y
  have x1N : (0 : Int) < ((x.on.r 0).n : Int) := by omega
  have x1M : (0 : Int) < (x.on.n : Int) := by omega
  clear x1A x1r
  obtain ⟨x2B, x2O, x2A, x2L, x2C⟩ := Hx.out.1.sf.ints 0 xh3
  rw [x2A] at xc6
  rw [xh4] at x2C
  have x2x := Hx.out.1.sf.le
  have x2y := Hx.out.1.sf.cap
  unfold maxLen at x2y
  have x2N : (0 : Int) < (x.sf.n : Int) := by omega
  clear x2A
  obtain ⟨x4B, x4O, x4A, x4L, x4C0, x4C1, x4C2, x4C3⟩ := Hx.out.1.hs.hds 0 xh6
  rw [x4A] at xc2
  rw [xh7] at x4C0 x4C1 x4C2 x4C3
  dsimp only at x4C0 x4C1 x4C2 x4C3
  have x4x := Hx.out.1.hs.le
  have x4y := Hx.out.1.hs.cap
  unfold maxLen at x4y
  have x4N : (0 : Int) < (x.hs.n : Int) := by omega
  clear x4A
  obtain ⟨x5b, x5o, x5a, x5l, x5k, x5c, x5r⟩ := Hx.out.1.os.ods 0 xh8
  rw [x5a] at xc1
  have x5u := Hx.out.1.os.le
  have x5v := Hx.out.1.os.cap
  unfold maxLen at x5v
  have x5M : (0 : Int) < (x.os.n : Int) := by omega
  clear x5a
  obtain ⟨x5B, x5O, x5A, x5L, x5C0, x5C1, x5C2, x5C3⟩ := x5r.hds 0 xh9
  rw [x5A] at x5c
  rw [xh10] at x5C0 x5C1 x5C2 x5C3
  dsimp only at x5C0 x5C1 x5C2 x5C3
  have x5x := x5r.le
  have x5y := x5r.cap
  unfold maxLen at x5y
  have x5N : (0 : Int) < ((x.os.z 0).ls.n : Int) := by omega
  clear x5A
  try rw [xh5] at xc3
  try simp only [Nat.zero_mul, Nat.add_zero] at x1l x1c x1L x1C x2L x2C x4L x4C0 x4C1 x4C2 x4C3 x5l x5k x5c x5L x5C0 x5C1 x5C2 x5C3
  clear x5r
  obtain ⟨ym, yc0, yc1, yc2, yc3, yc4, yc5, yc6⟩ := Boxed.of Hy.out.2
  obtain ⟨yh0, yh1, yh2, yh3, yh4, yh5, yh6, yh7⟩ := HPy.out
  obtain ⟨y1b, y1o, y1a, y1l, y1c, y1r⟩ := Hy.out.1.on.rows 2 yh0
  have Hy1a : Hid (y.on.a = some ⟨y1b, y1o, none⟩) := y1a
  rw [y1a] at yc0
  have y1u := Hy.out.1.on.le
  have y1v := Hy.out.1.on.cap
  unfold maxLen at y1v
  clear y1a
  obtain ⟨y1B, y1O, y1A, y1L, y1C⟩ := y1r.ints 1 yh1
  rw [y1A] at y1c
  rw [yh2] at y1C
  have y1x := y1r.le
  have y1y := y1r.cap
  unfold maxLen at y1y
  have y1N : (1 : Int) < ((y.on.r 2).n : Int) := by omega
  have y1M : (2 : Int) < (y.on.n : Int) := by omega
  clear y1A y1r
  obtain ⟨y2B, y2O, y2A, y2L, y2C⟩ := Hy.out.1.sf.ints 1 yh3
  rw [y2A] at yc6
  rw [yh4] at y2C
  have y2x := Hy.out.1.sf.le
  have y2y := Hy.out.1.sf.cap
  unfold maxLen at y2y
  have y2N : (1 : Int) < (y.sf.n : Int) := by omega
  clear y2A
  obtain ⟨y3b, y3o, y3a, y3l, y3k, y3c, y3r⟩ := Hy.out.1.os.ods 0 yh5
  rw [y3a] at yc1
  have y3u := Hy.out.1.os.le
  have y3v := Hy.out.1.os.cap
  unfold maxLen at y3v
  have y3M : (0 : Int) < (y.os.n : Int) := by omega
  clear y3a
  obtain ⟨y3B, y3O, y3A, y3L, y3C0, y3C1, y3C2, y3C3⟩ := y3r.hds 1 yh6
  rw [y3A] at y3c
  rw [yh7] at y3C0 y3C1 y3C2 y3C3
  dsimp only at y3C0 y3C1 y3C2 y3C3
  have y3x := y3r.le
  have y3y := y3r.cap
  unfold maxLen at y3y
  have y3N : (1 : Int) < ((y.os.z 0).ls.n : Int) := by omega
  clear y3A
  try simp only [Nat.zero_mul, Nat.add_zero] at y1l y1c y1L y1C y2L y2C y3l y3k y3c y3L y3C0 y3C1 y3C2 y3C3
  clear y3r
  rw [← HW.out] at xm xc0 xc1 xc2 xc3 xc4 xc5 xc6 x1l x1c x1L x1C x2L x2C x4L x4C0 x4C1 x4C2 x4C3 x5l x5k x5c x5L x5C0 x5C1 x5C2 x5C3 ym yc0 yc1 yc2 yc3 yc4 yc5 yc6 y1l y1c y1L y1C y2L y2C y3l y3k y3c y3L y3C0 y3C1 y3C2 y3C3
  simp only [St.val]
  go_wp2_with fail
  go_ret
  exact ⟨by simp, HW.out ▸ HB.out⟩
end Go.Proofs.YtbcacebifpagpaeGreat
namespace Go.Proofs.YtbcacebifpagpaeGreat
open Go.RowKit
set_option linter.unusedVariables false
theorem cutL_more {f : Hd → Bool} : ∀ {R : List Hd} {m : Int}, Pos0 R → sumB f R ≤ m → cutL f (m + 1) R = cutL f m R
  | [], _, _, _ => rfl
  | h :: R, m, p, hs => by
    have hh := p.head
    have sn := sumB_nn (P := f) p.tail
    by_cases c : f h = true
    · have e : ∀ k, cutL f k (h :: R) = lessL h (min k h.n) :: cutL f (k - min k h.n) R := fun k => if_pos c
      have e3 : sumB f (h :: R) = sumB f R + h.n := by show _ + (if f h then _ else _) = _; rw [if_pos c]
      rw [e3] at hs
      rw [e, e, show min (m + 1) h.n = h.n by omega, show min m h.n = h.n by omega, show m + 1 - h.n = m - h.n + 1 by omega, cutL_more p.tail (by omega)]
    · have e : ∀ k, cutL f k (h :: R) = h :: cutL f k R := fun k => if_neg c
      have e3 : sumB f (h :: R) = sumB f R := by show _ + (if f h then _ else _) = _; rw [if_neg c, Int.add_zero]
      rw [e3] at hs
      rw [e, e, cutL_more p.tail hs]
theorem last_none_sum {f : Hd → Bool} {z : Nat → Hd} : ∀ {n : Nat}, lastI f z n = none → sumB f (revL z n) = 0
  | 0, _ => rfl
  | n + 1, h => by
    have k := last_none h
    have c : f (z n) = false := k n (by omega)
    have h' : lastI f z n = none := by
      have h2 : (if f (z n) then some n else lastI f z n) = none := h
      rw [if_neg (by rw [c]; decide)] at h2
      exact h2
    show sumB f (revL z n) + (if f (z n) then (z n).n else 0) = 0
    rw [last_none_sum h', if_neg (by rw [c]; decide)]
    rfl
theorem last_some_sum {f : Hd → Bool} {z : Nat → Hd} : ∀ {n k : Nat}, (∀ x, x ∈ revL z n → 1 ≤ x.n) → lastI f z n = some k → 1 ≤ sumB f (revL z n)
  | 0, _, _, h => by cases h
  | n + 1, k, p, h => by
    have pt : ∀ x, x ∈ revL z n → 1 ≤ x.n := fun x hx => p x (List.mem_cons_of_mem _ hx)
    have p0 := sumB_nn (P := f) (R := revL z n) fun x hx => by have := pt x hx; omega
    have h' : (if f (z n) then some n else lastI f z n) = some k := h
    show 1 ≤ sumB f (revL z n) + (if f (z n) then (z n).n else 0)
    by_cases c : f (z n) = true
    · have := p (z n) List.mem_cons_self
      rw [if_pos c]
      omega
    · rw [if_neg c] at h' ⊢
      have := last_some_sum pt h'
      omega
theorem last_congr {f f' : Hd → Bool} {z : Nat → Hd} : ∀ {n : Nat}, (∀ j, j < n → f' (z j) = f (z j)) → lastI f' z n = lastI f z n
  | 0, _ => rfl
  | n + 1, h => by
    show (if f' (z n) then some n else lastI f' z n) = if f (z n) then some n else lastI f z n
    rw [h n (by omega), last_congr (n := n) fun j hj => h j (by omega)]
def OneCut (h m : Hs) (k : Nat) : Prop := if (h.z k).n = 1 then m.n = h.n - 1 ∧ (∀ i, i < m.n → m.z i = dropZ h.z k i) else m.n = h.n ∧ ∀ i, i < m.n → m.z i = lessN h.z k 1 i
theorem OneCut.rev {f : Hd → Bool} {h m : Hs} {k : Nat} (hk : lastI f h.z h.n = some k) (c : OneCut h m k) : revL m.z m.n = oneL f (revL h.z h.n) := by
  have l := last_lt hk
  unfold OneCut at c
  by_cases e : (h.z k).n = 1
  · rw [if_pos e] at c
    obtain ⟨q, hq⟩ : ∃ q, h.n = q + 1 := ⟨h.n - 1, by omega⟩
    rw [hq] at hk ⊢
    rw [← one_drop hk e, show m.n = q by omega]
    exact revL_congr fun j hj => c.2 j (by omega)
  · rw [if_neg e] at c
    rw [← one_less hk e, c.1]
    exact revL_congr fun j hj => c.2 j (by omega)
section
variable {p : Pl} {s x : St} {b g : Nat} {seen J : Int}
def CutJ (s : St) (b g : Nat) (seen J : Int) (x : St) : Prop := SameT x (fixOn (cutS s b g J) b g seen)
theorem CutJ.start (r : RightT p s) (hb : b < p.nb) (hg : g < p.ns) (h : SameT x s) : CutJ s b g seen 0 (fixOn x b g seen) := by
  have c := h.trans (cut_none r b g).symm
  have e1 : (x.on.r b).z g = (s.on.r b).z g := h.num r.fm hb hg
  refine ⟨⟨c.on.1, fun i hi => ?_⟩, c.os, c.hs, c.ms, c.si, c.so, ⟨c.sf.1, fun j hj => ?_⟩⟩
  · have hi' : i < x.on.n := hi
    have k := c.on.2 i hi'
    have l1 := setOn_len x b g seen i
    have l2 := setOn_len (cutS s b g 0) b g seen i
    have l3 : ((fixOn x b g seen).on.r i).n = (x.on.r i).n := l1
    refine ⟨l1.trans (k.1.trans l2.symm), fun j hj => ?_⟩
    rw [fixOn_num, fixOn_num, k.2 j (by rw [← l3]; exact hj)]
  · have hj' : j < x.sf.n := hj
    show (if j = g then x.sf.z g + (seen - (x.on.r b).z g) else x.sf.z j) = if j = g then s.sf.z g + (seen - (s.on.r b).z g) else s.sf.z j
    rw [h.sf.2 j hj', e1]
    by_cases q : j = g
    · rw [if_pos q, if_pos q, ← q, h.sf.2 j hj']
    · rw [if_neg q, if_neg q]
theorem cut_bound (r : RightT p s) (h0 : 0 ≤ J) (hJ : J ≤ boundZ s b g) : boundZ (cutS s b g J) b g = boundZ s b g - J := by
  have h1 := cut_held (b := b) (g := g) r h0 b g
  have h2 := cut_from (b := b) (g := g) r h0 b g
  have h3 := leftM_eq (b := b) (g := g) r h0
  have h4 := (heldTo_bd (s := s) (b := b) (g := g) (n := s.hs.n) r.fm.holdN).1
  have h5 := (fromTo_bd (s := s) (b := b) (g := g) (n := s.ms.n) r.fm.moveN).1
  rw [if_pos ⟨rfl, rfl⟩] at h1 h2
  unfold boundZ at hJ ⊢
  omega
theorem CutJ.revM (h : CutJ s b g seen J x) : revL x.ms.z x.ms.n = flt (cutL (fromF b g) J (moveR s)) := by
  have e : revL x.ms.z x.ms.n = revL (cutHs (fromF b g) s.ms J).z (cutHs (fromF b g) s.ms J).n := by
    have n : x.ms.n = (cutHs (fromF b g) s.ms J).n := h.ms.1
    rw [n]
    exact revL_congr fun j hj => h.ms.2 j (by rw [n]; exact hj)
  rw [e, cutHs_rev]
  rfl
theorem CutJ.revH (h : CutJ s b g seen J x) : revL x.hs.z x.hs.n = flt (cutL (heldF s b g) (leftM s b g J) (holdR s)) := by
  have e : revL x.hs.z x.hs.n = revL (cutHs (heldF s b g) s.hs (leftM s b g J)).z (cutHs (heldF s b g) s.hs (leftM s b g J)).n := by
    have n : x.hs.n = (cutHs (heldF s b g) s.hs (leftM s b g J)).n := h.hs.1
    rw [n]
    exact revL_congr fun j hj => h.hs.2 j (by rw [n]; exact hj)
  rw [e, cutHs_rev]
  rfl
theorem flt_one {R : List Hd} (p : Pos0 R) : ∀ y, y ∈ flt R → 1 ≤ y.n := fun y hy => by
  unfold flt at hy
  rw [List.mem_filter] at hy
  have := p y hy.1
  have h2 := hy.2
  unfold goneH at h2
  simp at h2
  omega
theorem CutJ.move (r : RightT p s) (h0 : 0 ≤ J) (h : CutJ s b g seen J x) {k : Nat} (hk : lastI (fromF b g) x.ms.z x.ms.n = some k) {m : Hs} (c : OneCut x.ms m k) : CutJ s b g seen (J + 1) (withMoves x m) := by
  have e := c.rev hk
  have s1 := last_some_sum (by rw [h.revM]; exact flt_one (cutL_pos _ r.movesP h0)) hk
  rw [h.revM, sumB_flt, (sumB_cut (fromF_blind b g) r.movesP h0).1] at s1
  have hJ : J + 1 ≤ sumB (fromF b g) (moveR s) := by omega
  rw [h.revM, (one_cut (fromF_blind b g) r.moves0 h0 hJ).1] at e
  have e2 : revL m.z m.n = revL (cutHs (fromF b g) s.ms (J + 1)).z (cutHs (fromF b g) s.ms (J + 1)).n := by rw [e, cutHs_rev]; rfl
  have e3 := revL_inj e2
  have f1 : fromTo s b g s.ms.n = sumB (fromF b g) (moveR s) := from_sum s b g s.ms.n
  have L : leftM s b g (J + 1) = leftM s b g J := by
    have a1 := (leftM_eq (b := b) (g := g) r h0).1
    have a2 := (leftM_eq (b := b) (g := g) (M := J + 1) r (by omega)).1
    omega
  have eq : cutQs s b g (J + 1) = cutQs s b g J := by unfold cutQs; rw [L]
  have eo : (fixOn (cutS s b g (J + 1)) b g seen).os = (fixOn (cutS s b g J) b g seen).os := by
    show backOs s.os (cutQs s b g (J + 1)) = backOs s.os (cutQs s b g J)
    rw [eq]
  have eh : (fixOn (cutS s b g (J + 1)) b g seen).hs = (fixOn (cutS s b g J) b g seen).hs := by
    show cutHs (heldF s b g) s.hs (leftM s b g (J + 1)) = cutHs (heldF s b g) s.hs (leftM s b g J)
    rw [L]
  exact ⟨h.on, by rw [eo]; exact h.os, by rw [eh]; exact h.hs, e3, h.si, h.so, h.sf⟩
theorem CutJ.noMove (r : RightT p s) (h0 : 0 ≤ J) (h : CutJ s b g seen J x) (hk : lastI (fromF b g) x.ms.z x.ms.n = none) : sumB (fromF b g) (moveR s) ≤ J ∧ leftM s b g (J + 1) = leftM s b g J + 1 := by
  have e := last_none_sum hk
  rw [h.revM, sumB_flt, (sumB_cut (fromF_blind b g) r.movesP h0).1] at e
  have f1 : fromTo s b g s.ms.n = sumB (fromF b g) (moveR s) := from_sum s b g s.ms.n
  have a1 := (leftM_eq (b := b) (g := g) r h0).1
  have a2 := (leftM_eq (b := b) (g := g) (M := J + 1) r (by omega)).1
  have h5 := (fromTo_bd (s := s) (b := b) (g := g) (n := s.ms.n) r.fm.moveN).1
  omega
theorem CutJ.good (r : RightT p s) (h0 : 0 ≤ J) (h : CutJ s b g seen J x) {j : Nat} (hj : j < x.hs.n) : heldF x b g (x.hs.z j) = heldF s b g (x.hs.z j) := by
  have f := cut_formed (b := b) (g := g) r h0
  have hn : x.hs.n = (cutS s b g J).hs.n := h.hs.1
  have hz : x.hs.z j = (cutS s b g J).hs.z j := h.hs.2 j hj
  obtain ⟨h1, h2, -⟩ := homeless_no (f.home j (by rw [← hn]; exact hj))
  rw [← hz] at h1 h2
  have hl := h.line (i := (x.hs.z j).o.toNat) (j := (x.hs.z j).l.toNat) h1.2 h2.2
  unfold heldF
  congr 2
  unfold goodH
  rw [hl]
  rfl
theorem CutJ.hold (r : RightT p s) (h0 : 0 ≤ J) (h : CutJ s b g seen J x) (hk : lastI (fromF b g) x.ms.z x.ms.n = none) {k : Nat} (hh : lastI (heldF x b g) x.hs.z x.hs.n = some k) {m : Hs} (c : OneCut x.hs m k) {o l : Nat} (ho : (x.hs.z k).o = o) (hl : (x.hs.z k).l = l) : CutJ s b g seen (J + 1) (setLine (withHolds x m) o l 3 (((x.os.z o).ls.z l).n + 1)) ∧ ∀ a d : Int, cutQs s b g (J + 1) a d = cutQs s b g J a d + if a = o ∧ d = l then 1 else 0 := by
  obtain ⟨hS, L⟩ := h.noMove r h0 hk
  have L0 := (leftM_eq (b := b) (g := g) r h0).2
  have hh' : lastI (heldF s b g) x.hs.z x.hs.n = some k := by rw [← hh]; exact (last_congr fun j hj => h.good r h0 hj).symm
  have e := c.rev hh'
  have s1 := last_some_sum (by rw [h.revH]; exact flt_one (cutL_pos _ r.holdsP L0)) hh'
  rw [h.revH, sumB_flt, (sumB_cut (heldF_blind s b g) r.holdsP L0).1] at s1
  have hJ : leftM s b g J + 1 ≤ sumB (heldF s b g) (holdR s) := by omega
  obtain ⟨o1, h0', f0, q1⟩ := one_cut (heldF_blind s b g) r.holds0 L0 hJ
  rw [h.revH, o1] at e
  have e2 : revL m.z m.n = revL (cutHs (heldF s b g) s.hs (leftM s b g (J + 1))).z (cutHs (heldF s b g) s.hs (leftM s b g (J + 1))).n := by rw [e, cutHs_rev, L]; rfl
  have e3 := revL_inj e2
  have fd : (revL x.hs.z x.hs.n).find? (heldF s b g) = some (x.hs.z k) := by rw [last_find, hh']; rfl
  rw [h.revH, f0] at fd
  have eh0 : h0' = x.hs.z k := by simpa using fd
  have Q : ∀ a d : Int, cutQs s b g (J + 1) a d = cutQs s b g J a d + if a = o ∧ d = l then 1 else 0 := fun a d => by
    unfold cutQs
    rw [L, q1, eh0, ho, hl]
    by_cases u : a = o ∧ d = l
    · rw [if_pos u, if_pos ⟨u.1.symm, u.2.symm⟩]
    · rw [if_neg u, if_neg (fun v => u ⟨v.1.symm, v.2.symm⟩)]
  refine ⟨⟨h.on, ⟨h.os.1, fun i hi => ?_⟩, e3, ?_, h.si, h.so, h.sf⟩, Q⟩
  · have hi' : i < x.os.n := hi
    have w := h.os.2 i hi'
    rw [setLine_k, (setLine_n i).1]
    refine ⟨w.1, w.2.1, fun j hj => ?_⟩
    rw [setLine_at]
    have hj' : j < (x.os.z i).ls.n := hj
    have v : (x.os.z i).ls.z j = moreL ((s.os.z i).ls.z j) (cutQs s b g J i j) := w.2.2 j hj'
    show (if i = o ∧ j = l then setHd ((x.os.z i).ls.z j) 3 _ else (x.os.z i).ls.z j) = moreL ((s.os.z i).ls.z j) (cutQs s b g (J + 1) i j)
    rw [Q]
    by_cases u : i = o ∧ j = l
    · rw [if_pos u, if_pos ⟨by omega, by omega⟩, ← u.1, ← u.2, v]
      show (⟨_, _, _, _ + 1⟩ : Hd) = ⟨_, _, _, _ + (_ + 1)⟩
      unfold moreL
      rw [Int.add_assoc]
    · rw [if_neg u, if_neg (fun e => u ⟨by omega, by omega⟩), v, Int.add_zero]
  · have e4 : revL (cutHs (fromF b g) s.ms (J + 1)).z (cutHs (fromF b g) s.ms (J + 1)).n = revL (cutHs (fromF b g) s.ms J).z (cutHs (fromF b g) s.ms J).n := by
      have e1 : revL s.ms.z s.ms.n = moveR s := rfl
      rw [cutHs_rev, cutHs_rev, e1, cutL_more r.movesP hS]
    have e5 := revL_inj e4
    have n1 : x.ms.n = (cutHs (fromF b g) s.ms J).n := h.ms.1
    refine ⟨?_, fun j hj => ?_⟩
    · show x.ms.n = (cutHs (fromF b g) s.ms (J + 1)).n
      rw [n1, e5.1]
    · have hj' : j < x.ms.n := hj
      show x.ms.z j = (cutHs (fromF b g) s.ms (J + 1)).z j
      rw [e5.2 j (by rw [e5.1, ← n1]; exact hj')]
      exact h.ms.2 j hj'
end
end Go.Proofs.YtbcacebifpagpaeGreat
namespace Go.Proofs.YtbcacebifpagpaeGreat
open Go.RowKit Go.Shelf Go.Sort
set_option linter.unusedVariables false
def lastV (f : Hd → Bool) (z : Nat → Hd) (n : Nat) : Int := match lastI f z n with
  | none => -1
  | some k => (k : Int)
theorem lastV_hit {f : Hd → Bool} {z : Nat → Hd} {k : Nat} (h : f (z k) = true) : lastV f z (k + 1) = (k : Int) := by
  have e : lastI f z (k + 1) = some k := if_pos h
  unfold lastV
  rw [e]
theorem lastV_miss {f : Hd → Bool} {z : Nat → Hd} {k : Nat} (h : f (z k) = false) : lastV f z (k + 1) = lastV f z k := by
  have e : lastI f z (k + 1) = lastI f z k := if_neg (by rw [h]; decide)
  unfold lastV
  rw [e]
set_option maxRecDepth 100000 in
set_option maxHeartbeats 4000000 in
theorem lastMove_any (s : St) (b g : Nat) (w : World) (hs : s.At w) :
    Calls Tryz.prog 21 #[s.val, .int .i64 (b : Int), .int .i64 (g : Int)] w fun e w' => e = .returned (.int .i64 (lastV (fromF b g) s.ms.z s.ms.n)) ∧ Below w.heap.size w w' := by
  obtain ⟨W0, hW, hWB, hX⟩ : ∃ W, w.alloc (.cells s.cells 31) = W ∧ Below w.heap.size w W ∧ Blk W w.heap.size 31 7 (fun j => s.cells.getD j default) := ⟨_, rfl, (Below.refl w.heap.size w).alloc (Nat.le_refl _) _, Blk.mk' rfl rfl⟩
  have HC : Hid (∀ wk, Below W0.heap.size W0 wk → Blk wk w.heap.size 31 7 (fun j => s.cells.getD j default) ∧ s.At wk ∧ Below w.heap.size w wk) := fun wk h => ⟨hX.below h, (hs.below hWB).below h, hWB.trans (h.mono hWB.size)⟩
  have HW : Hid (w.alloc (.cells #[.slice s.on.a s.on.n s.on.c, .slice s.os.a s.os.n s.os.c, .slice s.hs.a s.hs.n s.hs.c, .slice s.ms.a s.ms.n s.ms.c, .slice s.si.a s.si.n s.si.c, .slice s.so.a s.so.n s.so.c, .slice s.sf.a s.sf.n s.sf.c] 31) = W0) := hW
  have ml := hs.ms.le
  have mc := hs.ms.cap
  unfold maxLen at mc
  obtain ⟨m1, p0, p1, p2, p3, p4, p5, p6⟩ := Boxed.of hX
  rw [← HW.out] at m1 p0 p1 p2 p3 p4 p5 p6
  clear hW hWB hX hs
  unfold St.val
  go_enter Tryz.func21, Tryz.ntmps21
  go_wp2_with fail
  rw [HW.out]
  clear HW m1 p0 p1 p2 p3 p4 p5 p6
  go_loopw [7] (fun iv wk => ∃ i : Nat, i ≤ s.ms.n ∧ iv = .int .i64 ((i : Int) - 1) ∧ Hid (lastV (fromF b g) s.ms.z s.ms.n = lastV (fromF b g) s.ms.z i) ∧ Hid (Below W0.heap.size W0 wk)) (fun iv _ => (intOf iv + 1).toNat)
  case atStart => exact ⟨s.ms.n, Nat.le_refl _, rfl, rfl, Below.refl _ _⟩
  case round =>
    obtain ⟨i, hi, rfl, HL, HB⟩ := hrel
    rcases i with _ | k
    · have hBw := (HC.out wr HB.out).2.2
      have HL0 : Hid (lastV (fromF b g) s.ms.z s.ms.n = -1) := HL.out
      clear HL
      go_wp2_with fail
      go_ret
      exact ⟨by rw [HL0.out]; rfl, hBw⟩
    · have q1 : (0 : Int) ≤ (k : Int) := by omega
      have hk : k < s.ms.n := by omega
      have q3 : (k : Int) < (s.ms.n : Int) := by omega
      have e1 : (((k + 1 : Nat) : Int) - 1) = (k : Int) := by omega
      rw [e1]
      obtain ⟨hXk, hsk, hBw⟩ := HC.out wr HB.out
      obtain ⟨m1, p0, p1, p2, p3, p4, p5, p6⟩ := Boxed.of hXk
      obtain ⟨bm, om, hma, hbm, z0, z1, z2, z3⟩ := hsk.ms.hds k hk
      have HMA : Hid (s.ms.a = some ⟨bm, om, none⟩) := hma
      rw [hma] at p3
      have HF : Hid (fromF b g (s.ms.z k) = ((s.ms.z k).l == (b : Int) && (s.ms.z k).o == (g : Int))) := rfl
      generalize hZ : s.ms.z k = Z at *
      have HZ : Hid (s.ms.z k = Z) := hZ
      clear hma hZ e1
      cases h1 : (Z.l == (b : Int))
      · have HN : Hid (lastV (fromF b g) s.ms.z s.ms.n = lastV (fromF b g) s.ms.z k) := by show _ = _; rw [HL.out, lastV_miss (by rw [HZ.out, HF.out, h1]; rfl)]
        clear HL HF
        go_wp2_with fail
        clear hXk hsk m1 p0 p1 p2 p3 p4 p5 p6
        go_roundw
        case rel => exact ⟨k, by omega, by go_num, HN, HB⟩
        case measure => simp [intOf]
      · cases h2 : (Z.o == (g : Int))
        · have HN : Hid (lastV (fromF b g) s.ms.z s.ms.n = lastV (fromF b g) s.ms.z k) := by show _ = _; rw [HL.out, lastV_miss (by rw [HZ.out, HF.out, h1, h2]; rfl)]
          clear HL HF
          go_wp2_with fail
          clear hXk hsk m1 p0 p1 p2 p3 p4 p5 p6
          go_roundw
          case rel => exact ⟨k, by omega, by go_num, HN, HB⟩
          case measure => simp [intOf]
        · have HN : Hid (lastV (fromF b g) s.ms.z s.ms.n = (k : Int)) := by show _ = _; rw [HL.out, lastV_hit (by rw [HZ.out, HF.out, h1, h2]; rfl)]
          clear HL HF
          go_wp2_with fail
          go_ret
          exact ⟨by rw [HN.out]; rfl, hBw⟩
set_option maxRecDepth 100000 in
set_option maxHeartbeats 4000000 in
theorem lastHold_any (p : Pl) (s : St) (b g : Nat) (w : World) (hs : s.At w) (f : Formed p s) :
    Calls Tryz.prog 22 #[s.val, .int .i64 (b : Int), .int .i64 (g : Int)] w fun e w' => e = .returned (.int .i64 (lastV (heldF s b g) s.hs.z s.hs.n)) ∧ Below w.heap.size w w' := by
  have HF0 : Hid (Formed p s) := f
  have osl := hs.os.le
  have osc := hs.os.cap
  unfold maxLen at osc
  clear f
  obtain ⟨W0, hW, hWB, hX⟩ : ∃ W, w.alloc (.cells s.cells 31) = W ∧ Below w.heap.size w W ∧ Blk W w.heap.size 31 7 (fun j => s.cells.getD j default) := ⟨_, rfl, (Below.refl w.heap.size w).alloc (Nat.le_refl _) _, Blk.mk' rfl rfl⟩
  have HC : Hid (∀ wk, Below W0.heap.size W0 wk → Blk wk w.heap.size 31 7 (fun j => s.cells.getD j default) ∧ s.At wk ∧ Below w.heap.size w wk) := fun wk h => ⟨hX.below h, (hs.below hWB).below h, hWB.trans (h.mono hWB.size)⟩
  have HW : Hid (w.alloc (.cells #[.slice s.on.a s.on.n s.on.c, .slice s.os.a s.os.n s.os.c, .slice s.hs.a s.hs.n s.hs.c, .slice s.ms.a s.ms.n s.ms.c, .slice s.si.a s.si.n s.si.c, .slice s.so.a s.so.n s.so.c, .slice s.sf.a s.sf.n s.sf.c] 31) = W0) := hW
  have ml := hs.hs.le
  have mc := hs.hs.cap
  unfold maxLen at mc
  obtain ⟨m1, p0, p1, p2, p3, p4, p5, p6⟩ := Boxed.of hX
  rw [← HW.out] at m1 p0 p1 p2 p3 p4 p5 p6
  clear hW hWB hX hs
  unfold St.val
  go_enter Tryz.func22, Tryz.ntmps22
  go_wp2_with fail
  rw [HW.out]
  clear HW m1 p0 p1 p2 p3 p4 p5 p6
  go_loopw [7] (fun iv wk => ∃ i : Nat, i ≤ s.hs.n ∧ iv = .int .i64 ((i : Int) - 1) ∧ Hid (lastV (heldF s b g) s.hs.z s.hs.n = lastV (heldF s b g) s.hs.z i) ∧ Hid (Below W0.heap.size W0 wk)) (fun iv _ => (intOf iv + 1).toNat)
  case atStart => exact ⟨s.hs.n, Nat.le_refl _, rfl, rfl, Below.refl _ _⟩
  case round =>
    obtain ⟨i, hi, rfl, HL, HB⟩ := hrel
    rcases i with _ | k
    · have hBw := (HC.out wr HB.out).2.2
      have HL0 : Hid (lastV (heldF s b g) s.hs.z s.hs.n = -1) := HL.out
      clear HL
      go_wp2_with fail
      go_ret
      exact ⟨by rw [HL0.out]; rfl, hBw⟩
    · have q1 : (0 : Int) ≤ (k : Int) := by omega
      have hk : k < s.hs.n := by omega
      have q3 : (k : Int) < (s.hs.n : Int) := by omega
      have e1 : (((k + 1 : Nat) : Int) - 1) = (k : Int) := by omega
      rw [e1]
      obtain ⟨a1, a2, a3⟩ := homeless_no (HF0.out.home k hk)
      obtain ⟨o, ho⟩ := Int.eq_ofNat_of_zero_le a1.1
      obtain ⟨l, hl⟩ := Int.eq_ofNat_of_zero_le a2.1
      rw [ho] at a1 a2
      rw [hl] at a2
      have on : o < s.os.n := a1.2
      have ln : l < (s.os.z o).ls.n := a2.2
      have HH : Hid (heldF s b g (s.hs.z k) = ((s.hs.z k).b == (b : Int) && ((s.os.z o).ls.z l).o == (g : Int))) := by
        show heldF s b g (s.hs.z k) = _
        unfold heldF goodH
        rw [ho, hl]
        rfl
      obtain ⟨hXk, hsk, -⟩ := HC.out wr HB.out
      obtain ⟨bm, om, hma, hbm, v0, v1, v2, v3⟩ := hsk.hs.hds k hk
      rw [ho] at v0
      rw [hl] at v1
      generalize (s.hs.z k).b = ZB at *
      generalize (s.hs.z k).n = ZN at *
      obtain ⟨W3, hW3, hWB3, K3⟩ : ∃ W, wr.alloc (.cells #[.int .i64 (o : Int), .int .i64 (l : Int), .int .i64 ZB, .int .i64 ZN] 58) = W ∧ Below wr.heap.size wr W ∧ Blk W wr.heap.size 58 4 (fun j => (#[.int .i64 (o : Int), .int .i64 (l : Int), .int .i64 ZB, .int .i64 ZN] : Array Value).getD j default) := ⟨_, rfl, (Below.refl _ _).alloc (Nat.le_refl _) _, Blk.mk' rfl rfl⟩
      have HW3 : Hid (wr.alloc (.cells #[.int .i64 (o : Int), .int .i64 (l : Int), .int .i64 ZB, .int .i64 ZN] 58) = W3) := hW3
      have HB3 : Hid (Below W0.heap.size W0 W3) := HB.out.trans (hWB3.mono HB.out.size)
      have yl := K3.lt
      have y0 : W3.cell? ⟨wr.heap.size, 0, none⟩ = some (.int .i64 (o : Int)) := K3.cell (j := 0) (by decide)
      have y1 : W3.cell? ⟨wr.heap.size, 1, none⟩ = some (.int .i64 (l : Int)) := K3.cell (j := 1) (by decide)
      have y2 : W3.cell? ⟨wr.heap.size, 2, none⟩ = some (.int .i64 ZB) := K3.cell (j := 2) (by decide)
      have y3 : W3.cell? ⟨wr.heap.size, 3, none⟩ = some (.int .i64 ZN) := K3.cell (j := 3) (by decide)
      obtain ⟨m1, p0, p1, p2, p3, p4, p5, p6⟩ := Boxed.of hXk
      rw [hma] at p2
      clear a1 a2 a3 ho hl hW3 hWB3 K3 hXk hsk hma e1
      go_wp2_with fail
      rw [HW3.out]
      clear HW3 m1 p0 p1 p2 p3 p4 p5 p6 hbm v0 v1 v2 v3
      obtain ⟨hXk, hsk, -⟩ := HC.out W3 HB3.out
      obtain ⟨m1, p0, p1, p2, p3, p4, p5, p6⟩ := Boxed.of hXk
      obtain ⟨bo, oo, hoa, hbo, z0, z1, hlk⟩ := hsk.os.ods o on
      obtain ⟨bl, ol, hla, hbl, w0, w1, w2, w3⟩ := hlk.hds l ln
      have ll := hlk.le
      have lc := hlk.cap
      unfold maxLen at lc
      rw [hoa] at p1
      rw [hla] at z1
      have s0 : (0 : Int) ≤ (o : Int) := by omega
      have s1 : (o : Int) < (s.os.n : Int) := by omega
      have s2 : (0 : Int) ≤ (l : Int) := by omega
      have s3 : (l : Int) < ((s.os.z o).ls.n : Int) := by omega
      clear hXk hsk hoa hla hlk HB
      generalize ((s.os.z o).ls.z l).o = ZO at *
      cases h1 : (ZB == (b : Int))
      · have HN : Hid (lastV (heldF s b g) s.hs.z s.hs.n = lastV (heldF s b g) s.hs.z k) := by show _ = _; rw [HL.out, lastV_miss (by rw [HH.out, h1]; rfl)]
        clear HL HH
        have rp1 := fun d os => cell_regrown p1 d os
        have ry0 := fun d os => cell_regrown y0 d os
        have ry1 := fun d os => cell_regrown y1 d os
        have ry2 := fun d os => cell_regrown y2 d os
        have rz1 := fun d os => cell_regrown z1 d os
        have rw0 := fun d os => cell_regrown w0 d os
        refine wp_region_quiet_below (by kernel_rfl) (by kernel_rfl) ?_
        repeat (go_big_quiet_step (fail))
        refine wpQuiet_nil ?_
        intro w4 hwq
        have hBq := below_of_regrown hwq
        have HB4 : Hid (Below W0.heap.size W0 w4) := HB3.out.trans (hBq.mono HB3.out.size)
        clear hwq hBq rp1 ry0 ry1 ry2 rz1 rw0 HB3 m1 p0 p1 p2 p3 p4 p5 p6 y0 y1 y2 y3 yl hbo z0 z1 hbl w0 w1 w2 w3
        go_wp2_with fail
        go_roundw
        case rel => exact ⟨k, by omega, by go_num, HN, HB4⟩
        case measure => simp [intOf]
      · cases h2 : (ZO == (g : Int))
        · have HN : Hid (lastV (heldF s b g) s.hs.z s.hs.n = lastV (heldF s b g) s.hs.z k) := by show _ = _; rw [HL.out, lastV_miss (by rw [HH.out, h1, h2]; rfl)]
          clear HL HH
          have rp1 := fun d os => cell_regrown p1 d os
          have ry0 := fun d os => cell_regrown y0 d os
          have ry1 := fun d os => cell_regrown y1 d os
          have ry2 := fun d os => cell_regrown y2 d os
          have rz1 := fun d os => cell_regrown z1 d os
          have rw0 := fun d os => cell_regrown w0 d os
          refine wp_region_quiet_below (by kernel_rfl) (by kernel_rfl) ?_
          repeat (go_big_quiet_step (fail))
          refine wpQuiet_nil ?_
          intro w4 hwq
          have hBq := below_of_regrown hwq
          have HB4 : Hid (Below W0.heap.size W0 w4) := HB3.out.trans (hBq.mono HB3.out.size)
          clear hwq hBq rp1 ry0 ry1 ry2 rz1 rw0 HB3 m1 p0 p1 p2 p3 p4 p5 p6 y0 y1 y2 y3 yl hbo z0 z1 hbl w0 w1 w2 w3
          go_wp2_with fail
          go_roundw
          case rel => exact ⟨k, by omega, by go_num, HN, HB4⟩
          case measure => simp [intOf]
        · have HN : Hid (lastV (heldF s b g) s.hs.z s.hs.n = (k : Int)) := by show _ = _; rw [HL.out, lastV_hit (by rw [HH.out, h1, h2]; rfl)]
          clear HL HH
          have rp1 := fun d os => cell_regrown p1 d os
          have ry0 := fun d os => cell_regrown y0 d os
          have ry1 := fun d os => cell_regrown y1 d os
          have ry2 := fun d os => cell_regrown y2 d os
          have rz1 := fun d os => cell_regrown z1 d os
          have rw0 := fun d os => cell_regrown w0 d os
          refine wp_region_quiet_below (by kernel_rfl) (by kernel_rfl) ?_
          repeat (go_big_quiet_step (fail))
          refine wpQuiet_nil ?_
          intro w4 hwq
          have hBq := below_of_regrown hwq
          have HB4 : Hid (Below W0.heap.size W0 w4) := HB3.out.trans (hBq.mono HB3.out.size)
          clear hwq hBq rp1 ry0 ry1 ry2 rz1 rw0 HB3 m1 p0 p1 p2 p3 p4 p5 p6 y0 y1 y2 y3 yl hbo z0 z1 hbl w0 w1 w2 w3
          go_wp2_with fail
          go_ret
          exact ⟨by rw [HN.out]; rfl, (HC.out _ HB4.out).2.2⟩
end Go.Proofs.YtbcacebifpagpaeGreat
namespace Go.Proofs.YtbcacebifpagpaeGreat
set_option linter.unusedVariables false
theorem exists_least {p : Nat → Prop} (h : ∃ n, p n) : ∃ n, p n ∧ ∀ m, p m → n ≤ m := by
  obtain ⟨n, hn⟩ := h
  induction n using Nat.strongRecOn with
  | _ n ih =>
    by_cases c : ∃ m, m < n ∧ p m
    · obtain ⟨m, h1, h2⟩ := c
      exact ih m h1 h2
    · exact ⟨n, hn, fun m hm => Nat.le_of_not_lt fun hlt => c ⟨m, hlt, hm⟩⟩
theorem leasts : ∃ f : (Nat → Prop) → Nat, (∀ p : Nat → Prop, (∃ n, p n) → p (f p)) ∧ ∀ (p : Nat → Prop) (n : Nat), p n → f p ≤ n := by
  have h : ∀ p : Nat → Prop, ∃ m, (∃ n, p n) → p m ∧ ∀ n, p n → m ≤ n := fun p => by
    by_cases c : ∃ n, p n
    · obtain ⟨m, hm⟩ := exists_least c
      exact ⟨m, fun _ => hm⟩
    · exact ⟨0, fun h => absurd h c⟩
  exact ⟨fun p => Classical.choose (h p), fun p hp => (Classical.choose_spec (h p) hp).1, fun p n hn => (Classical.choose_spec (h p) ⟨n, hn⟩).2 n hn⟩
end Go.Proofs.YtbcacebifpagpaeGreat
namespace Go.Proofs.YtbcacebifpagpaeGreat
open Go.RowKit Go.Shelf
set_option linter.unusedVariables false
theorem Hs.At.congr {w : World} {s : Hs} {z' : Nat → Hd} {n : Nat} (h : s.At w) (hn : s.n = n) (hz : ∀ j, j < s.n → s.z j = z' j) : Hs.At w ⟨s.a, n, s.c, z'⟩ := by
  subst hn
  refine ⟨h.le, h.cap, fun i hi => ?_, h.nilc⟩
  have := h.hds i hi
  rw [hz i hi] at this
  exact this
end Go.Proofs.YtbcacebifpagpaeGreat
namespace Go.Proofs.YtbcacebifpagpaeGreat
open Go.RowKit Go.Shelf Go.Sort
set_option linter.unusedVariables false
theorem with_addO (s : Hs) (h : Hd) (w : World) (hs : s.At w) (hr : anyB s.n (badH s.z) = false) (hf : fineH h = true) :
    Calls Tryz.prog 23 #[s.val, .int .i64 h.o, .int .i64 h.l, .int .i64 h.b, .int .i64 (keptV s.n s.z h.o h.l h.b + h.n)] w fun e w' => ∃ s' : Hs, e = .returned s'.val ∧ OwnH w.heap.size 58 w' s' ∧ s'.n = addLen s.n s.z h ∧ s'.z = addZ s.n s.z h ∧ Below w.heap.size w w' := by
  obtain ⟨p1, p2, p3⟩ := pos_key hr hf
  have hfh := fineH_true hf
  by_cases h0 : keptV s.n s.z h.o h.l h.b = 0
  · have no := kept_no hr h0
    have hst : ∀ j, addPos s.n s.z h ≤ j → j < s.n → keyH h < keyH (s.z j) := fun j hj hjn => by
      have a := p3 j hj hjn
      have b : ¬ keyH (s.z j) = keyH h := fun e => by
        have := key_match (right_fine hr j hjn) hf e
        rw [no j hjn] at this
        cases this
      omega
    rw [h0, Int.zero_add]
    have e1 : addLen s.n s.z h = s.n + 1 := if_pos h0
    have e2 : addZ s.n s.z h = insZ s.z (addPos s.n s.z h) h := if_pos h0
    rw [e1, e2]
    exact with_insO s h (addPos s.n s.z h) w hs hr (rng_of hf) p1 (fun hlt => hst _ (Nat.le_refl _) hlt) (by omega) p2 (fun j hj hjn => hst j (by omega) hjn)
  · obtain ⟨q1, q2, q3, q4, q5⟩ := kept_pos hr h0
    have hkey : keyH (s.z (dropI s.n s.z h.o h.l h.b)) = keyH h := match_key (n := h.n) q2
    have hp : dropI s.n s.z h.o h.l h.b = addPos s.n s.z h := by
      rcases Nat.lt_trichotomy (dropI s.n s.z h.o h.l h.b) (addPos s.n s.z h) with c | c | c
      · have := p2 _ c; omega
      · exact c
      · have := q4 _ c
        have := p3 _ (Nat.le_refl _) (by omega)
        omega
    rw [hp] at q1 q2 q3 q4 q5 hkey
    have hz := fineH_true (right_fine hr _ q1)
    have e1 : addLen s.n s.z h = s.n := if_neg h0
    have e2 : addZ s.n s.z h = setZ s.z (addPos s.n s.z h) ⟨h.o, h.l, h.b, keptV s.n s.z h.o h.l h.b + h.n⟩ := if_neg h0
    rw [e1, e2]
    exact with_setO s ⟨h.o, h.l, h.b, keptV s.n s.z h.o h.l h.b + h.n⟩ (addPos s.n s.z h) w hs hr ⟨hfh.1, hfh.2.1, hfh.2.2.1⟩ q1 hkey (by show ¬ keptV s.n s.z h.o h.l h.b + h.n = 0; omega) (fun j hj => by have := q4 j hj; rw [hkey] at this; exact this) (fun j hj hjn => by have := q5 j hj hjn; rw [hkey] at this; exact this)
theorem keptAt_b (s : Hs) (o l b : Int) (w : World) (hs : s.At w) :
    Calls Tryz.prog 51 #[s.val, .int .i64 o, .int .i64 l, .int .i64 b] w fun e w' => e = .returned (.int .i64 (keptV s.n s.z o l b)) ∧ Below w.heap.size w w' :=
  (keptAt_any s o l b w hs).mono fun e w' h => ⟨h.1, by rw [h.2]; exact Below.refl _ _⟩
end Go.Proofs.YtbcacebifpagpaeGreat
namespace Go.Proofs.YtbcacebifpagpaeGreat
open Go.RowKit Go.Shelf Go.Sort
set_option linter.unusedVariables false
def wayK (p : Pl) (but : Int) (k : Nat) : List Int := ((wayL p).take k).filter (fun b => !(b == but))
theorem wayK_succ {p : Pl} {but : Int} {k : Nat} (hk : k < (wayL p).length) : wayK p but (k + 1) = wayK p but k ++ if (wayL p).getD k 0 = but then [] else [(wayL p).getD k 0] := by
  unfold wayK
  rw [List.take_add_one, List.getElem?_eq_getElem hk, List.filter_append]
  have e : (wayL p).getD k 0 = (wayL p)[k] := by simp [List.getD, List.getElem?_eq_getElem hk]
  rw [e]
  congr 1
  by_cases h : (wayL p)[k] = but <;> simp [h]
theorem wayK_all (p : Pl) (but : Int) : wayK p but (wayL p).length = wayT p but := by unfold wayK wayT; rw [List.take_length]
theorem wayK_apart (p : Pl) (but : Int) (k : Nat) : (wayK p but k).Pairwise (fun x y => ¬ x = y) := (((way_pw p).imp fun h => h.1).sublist (List.take_sublist _ _)).filter _
theorem wayK_mem {p : Pl} {but x : Int} {k : Nat} (h : x ∈ wayK p but k) : x ∈ (wayL p).take k := (List.mem_filter.1 h).1
theorem wayK_in {p : Pl} {but x : Int} {k : Nat} (h : x ∈ wayK p but k) : 0 ≤ x ∧ x < p.nb := way_mem (List.mem_of_mem_take (wayK_mem h))
theorem wayK_new {p : Pl} {but : Int} {k : Nat} (hk : k < (wayL p).length) : (wayL p).getD k 0 ∉ wayK p but k := fun h => by
  have h1 := wayK_mem h
  have e : (wayL p).getD k 0 = (wayL p)[k] := by simp [List.getD, List.getElem?_eq_getElem hk]
  rw [e] at h1
  obtain ⟨j, hj, hj2⟩ := List.mem_iff_getElem.1 h1
  rw [List.length_take] at hj
  rw [List.getElem_take] at hj2
  have hp := List.pairwise_iff_getElem.1 (way_pw p) j k (by omega) hk (by omega)
  exact hp.1 hj2
def TakeJ (s : St) (o l : Nat) (n : Int) (t : Tk) (F : List Int) (A BX BL g : Nat) (wk : World) : Prop :=
  ∃ x : St, Took s o l n t x ∧ OwnS A wk x ∧ Blk wk BX 31 7 (fun j => x.cells.getD j default) ∧ Blk wk g 3 F.length (fun j => .int .i64 (F.getD j 0)) ∧ (x.os.z o).ls.a = some ⟨BL, 0, none⟩ ∧ Blk wk (BX + 1) 31 7 (fun _ => .slice .none 0 0)
def KeepL (w wk : World) : Prop := ∀ (q : Nat) (t : TypeId) (m : Nat) (f : Nat → Value), t ≠ 61 → Blk w q t m f → Blk wk q t m f
theorem KeepL.below {w wk wj : World} (h : KeepL w wk) (hB : Below wk.heap.size wk wj) : KeepL w wj := fun q t m f ht hb => (h q t m f ht hb).below hB
theorem KeepL.refl (w : World) : KeepL w w := fun _ _ _ _ _ h => h
theorem KeepL.setNew {w wk : World} (h : KeepL w wk) {B : Nat} (hB : w.heap.size ≤ B) (j : Nat) (u : Value) : KeepL w (wk.setCell ⟨B, j, none⟩ u) := fun q t m f ht hb => (h q t m f ht hb).other (a := ⟨B, j, none⟩) (by have := hb.lt; show q ≠ B; omega) u
theorem KeepL.setLine {w wk : World} (h : KeepL w wk) {B n : Nat} {z : Nat → Value} (hB : Blk wk B 61 n z) (j : Nat) (u : Value) : KeepL w (wk.setCell ⟨B, j, none⟩ u) := fun q t m f ht hb => (h q t m f ht hb).other (a := ⟨B, j, none⟩) (Blk.ne2 (h q t m f ht hb) hB ht) u
def DWith (A : Nat) (x : Hs) (h : Hd) (v : Value) (g : List Nat) (wk : World) : Prop := ∃ y : Hs, g = [] ∧ v = .slice y.a y.n y.c ∧ OwnH A 58 wk y ∧ y.n = addLen x.n x.z h ∧ y.z = addZ x.n x.z h
theorem DWith.below {A : Nat} {x : Hs} {h : Hd} {v : Value} {g : List Nat} {w w' : World} (k : DWith A x h v g w) (hB : Below w.heap.size w w') : DWith A x h v g w' := by
  obtain ⟨y, h1, h2, h3, h4⟩ := k
  exact ⟨y, h1, h2, h3.below hB, h4⟩
set_option maxRecDepth 100000 in
set_option maxHeartbeats 8000000 in
theorem take_any (p : Pl) (s : St) (o l A : Nat) (n but : Int) (w : World) (hp : p.At w) (hO : OwnS A w s) (hA : A ≤ w.heap.size) (hI : TakeIn p s o l n) :
    Calls Tryz.prog 24 #[p.val, s.val, .int .i64 (o : Int), .int .i64 (l : Int), .int .i64 n, .int .i64 but] w fun e w' => ∃ x : St, e = .returned (.tuple #[x.val, .int .i64 (Tk.go (avT s o l) n (wayT p but)).left]) ∧ Took s o l n (Tk.go (avT s o l) n (wayT p but)) x ∧ OwnS A w' x ∧ Below A w w' ∧ KeepL w w' := by
  obtain ⟨W0, hW, hWB, X0, Z0⟩ : ∃ W, (((w.alloc (.cells #[.slice p.ab p.nb p.cb, .slice p.sa p.ns p.cs] 25)).alloc (.cells s.cells 31)).alloc (.cells #[.slice .none 0 0, .slice .none 0 0, .slice .none 0 0, .slice .none 0 0, .slice .none 0 0, .slice .none 0 0, .slice .none 0 0] 31)) = W ∧ Below w.heap.size w W ∧ Blk W (w.heap.size + 1) 31 7 (fun j => s.cells.getD j default) ∧ Blk W (w.heap.size + 1 + 1) 31 7 (fun _ => .slice .none 0 0) :=
    ⟨_, rfl, (two_below _ _ _).alloc (by simp; omega) _, (Blk.mk' (by simp) rfl).alloc _, (Blk.mk' (cur := #[.slice .none 0 0, .slice .none 0 0, .slice .none 0 0, .slice .none 0 0, .slice .none 0 0, .slice .none 0 0, .slice .none 0 0]) (by simp) rfl).congr (fun j hj => by match j, hj with | 0, _ => rfl | 1, _ => rfl | 2, _ => rfl | 3, _ => rfl | 4, _ => rfl | 5, _ => rfl | 6, _ => rfl)⟩
  have HW : Hid (((w.alloc (.cells #[.slice p.ab p.nb p.cb, .slice p.sa p.ns p.cs] 25)).alloc (.cells #[.slice s.on.a s.on.n s.on.c, .slice s.os.a s.os.n s.os.c, .slice s.hs.a s.hs.n s.hs.c, .slice s.ms.a s.ms.n s.ms.c, .slice s.si.a s.si.n s.si.c, .slice s.so.a s.so.n s.so.c, .slice s.sf.a s.sf.n s.sf.c] 31)).alloc (.cells #[.slice .none 0 0, .slice .none 0 0, .slice .none 0 0, .slice .none 0 0, .slice .none 0 0, .slice .none 0 0, .slice .none 0 0] 31) = W0) := hW
  have HI : Hid (TakeIn p s o l n) := hI
  have HP : Hid (p.At W0) := hp.below hWB
  have leb := hp.leb
  have capb := hp.capb
  have nb1 := hI.fm.sh.pl.nb1
  have nb6 := hI.fm.sh.pl.nb6
  have ho := hI.on
  have hl := hI.ln
  unfold maxLen at capb
  have HX0 : Hid (OwnS A W0 s ∧ Blk W0 (w.heap.size + 1) 31 7 (fun j => s.cells.getD j default) ∧ Blk W0 (w.heap.size + 1 + 1) 31 7 (fun _ => .slice .none 0 0) ∧ Below A w W0) := ⟨OwnS.below hO hWB, X0, Z0, hWB.mono hA⟩
  clear hW X0 Z0 hp hO hI
  unfold Pl.val St.val
  go_enter Tryz.func24, Tryz.ntmps24
  go_wp2_with fail
  rw [HW.out]
  refine (WayOfOwn_any p W0 HP.out nb6).mono ?_
  rintro e w1 ⟨v, rfl, hown, hB1⟩
  have HWL : Hid ((wayL p).length = p.nb) := way_len p
  have hv : v ≠ .slice none 0 0 := by
    rintro rfl
    rcases hown.2 with ⟨_, h0⟩ | ⟨g2, cap2, cur2, h, _⟩
    · have := HWL.out; omega
    · cases h
  obtain ⟨g, c, rfl, hc1, hc2, hg, hk⟩ := Blk.ofOwns hown hv
  have hk2 : Blk w1 g 3 (wayL p).length (fun j => .int .i64 ((wayL p).getD j 0)) := by
    have h := hk.less (m := (wayL p).length) (by omega)
    refine h.congr fun j hj => ?_
    simp [List.getD, List.getElem?_eq_getElem hj]
  obtain ⟨hO0, X0, Z0, hA0⟩ := HX0.out
  have hO1 := OwnS.below hO0 hB1
  have X1 := X0.below hB1
  have Z1 := Z0.below hB1
  have hA1 := hA0.trans (hB1.mono (Nat.le_trans hA hWB.size))
  obtain ⟨gO, BL, f1, f2, f3, f4, f5, f6, f7, f8, f9, f10, f11, f12, f13, f14⟩ := hO1.lineCell ho hl
  have HINV : Hid (TakeJ s o l n (Tk.go (avT s o l) n (wayK p but 0)) (wayL p) A (w.heap.size + 1) BL g w1) := ⟨s, Took.start HI.out.fm.hold ⟨⟨rfl, fun _ _ => ⟨rfl, fun _ _ => rfl⟩⟩, ⟨rfl, fun _ _ => ⟨rfl, rfl, fun _ _ => rfl⟩⟩, ⟨rfl, fun _ _ => rfl⟩, ⟨rfl, fun _ _ => rfl⟩, ⟨rfl, fun _ _ => rfl⟩, ⟨rfl, fun _ _ => rfl⟩, ⟨rfl, fun _ _ => rfl⟩⟩, hO1, X1, hk2, f5, Z1⟩
  have HKP : Hid (KeepL w w1) := ((KeepL.refl w).below hWB).below hB1
  have HBA : Hid (Below A w w1 ∧ A ≤ BL ∧ w.heap.size + 1 < W0.heap.size ∧ W0.heap.size ≤ g) := ⟨hA1, f6, X0.lt, hg⟩
  have s1 : w1.cell? ⟨w.heap.size + 1, 1, none⟩ = some (.slice s.os.a s.os.n s.os.c) := X1.cell (j := 1) (by decide)
  have s2 := X1.lt
  have v1 := hO1.os.le
  have v2 := hO1.os.cap
  rw [f1] at s1
  unfold maxLen at v2 f9 hc2
  have qo : (0 : Int) ≤ (o : Int) := by omega
  have ql : (0 : Int) ≤ (l : Int) := by omega
  have hgd := HI.out.good
  obtain ⟨gd, hgv⟩ := Int.eq_ofNat_of_zero_le hgd.1
  have HGV : Hid (((s.os.z o).ls.z l).o = (gd : Int)) := hgv
  have hgdn : gd < p.ns := by omega
  rw [hgv] at f11
  clear hown hv hk hk2 hO0 X0 Z0 hA0 hO1 X1 Z1 hA1 f1 f2 f5 f6 f10 f12 f13 f14 HX0 HW HP hB1 hgd hgv hg
  go_wp2_with fail
  clear s1 s2 f3 f4 f7 f8 f9 f11 v1 v2
  go_loopw [4, 16] (fun nv kv wk => ∃ k : Nat, k ≤ (wayL p).length ∧ kv = .int .i64 k ∧ nv = .int .i64 (Tk.go (avT s o l) n (wayK p but k)).left ∧ Hid (TakeJ s o l n (Tk.go (avT s o l) n (wayK p but k)) (wayL p) A (w.heap.size + 1) BL g wk) ∧ Hid (Below A w wk) ∧ Hid (KeepL w wk)) (fun _ kv _ => (wayL p).length - (intOf kv).toNat)
  case atStart => exact ⟨0, Nat.zero_le _, rfl, rfl, HINV, HBA.out.1, HKP⟩
  case round =>
    clear HINV HKP
    obtain ⟨k, hk, rfl, rfl, HV, HBk, HKP⟩ := hrel
    have HTK : Hid (TkOK (avT s o l) n (wayK p but k) (Tk.go (avT s o l) n (wayK p but k))) := HI.out.tk (wayK_apart p but k) (fun x hx => wayK_in hx)
    have HSTEP : Hid (k < (wayL p).length → Tk.go (avT s o l) n (wayK p but (k + 1)) = if (wayL p).getD k 0 = but then Tk.go (avT s o l) n (wayK p but k) else (Tk.go (avT s o l) n (wayK p but k)).step (avT s o l) ((wayL p).getD k 0)) := fun h => by
      rw [wayK_succ h]
      by_cases hb : (wayL p).getD k 0 = but
      · rw [if_pos hb, if_pos hb, List.append_nil]
      · rw [if_neg hb, if_neg hb, Tk.go_more]
    have HEND : Hid (k = (wayL p).length → Tk.go (avT s o l) n (wayK p but k) = Tk.go (avT s o l) n (wayT p but)) := fun h => by rw [h, wayK_all]
    obtain ⟨x, hx⟩ := HV.out
    have HX : Hid (Took s o l n (Tk.go (avT s o l) n (wayK p but k)) x ∧ OwnS A wr x ∧ Blk wr (w.heap.size + 1) 31 7 (fun j => x.cells.getD j default) ∧ Blk wr g 3 (wayL p).length (fun j => .int .i64 ((wayL p).getD j 0)) ∧ (x.os.z o).ls.a = some ⟨BL, 0, none⟩ ∧ Blk wr (w.heap.size + 1 + 1) 31 7 (fun _ => .slice .none 0 0)) := hx
    obtain ⟨T, hTd⟩ : ∃ T, Tk.go (avT s o l) n (wayK p but k) = T := ⟨_, rfl⟩
    rw [hTd] at HTK HSTEP HEND HX ⊢
    clear hx HV hTd
    have tl0 := HTK.out.left0
    have tln := HTK.out.leftn
    have nbk := HI.out.bk
    by_cases hlt : k < (wayL p).length
    · have HS1 : Hid _ := HSTEP.out hlt
      obtain ⟨hbm0, hbm1⟩ := way_mem (List.mem_iff_getElem.2 ⟨k, hlt, rfl⟩ : (wayL p)[k] ∈ wayL p)
      have hbe : (wayL p).getD k 0 = (wayL p)[k] := by simp [List.getD, List.getElem?_eq_getElem hlt]
      have z0 := HX.out.2.2.2.1.cell (j := k) hlt
      have z1 := HX.out.2.2.2.1.lt
      rw [← hbe] at hbm0 hbm1
      obtain ⟨bv, hbv⟩ := Int.eq_ofNat_of_zero_le hbm0
      have HBV : Hid ((wayL p).getD k 0 = (bv : Int)) := hbv
      rw [hbv] at z0 hbm1
      have hbvn : bv < p.nb := by omega
      have hnew := wayK_new (but := but) hlt
      rw [hbv] at hnew
      have HFX : Hid (Formed p x) := HI.out.formed (fun x hx => wayK_in hx) HTK.out HX.out.1
      have HAX : Hid (availZ x bv gd = avT s o l bv) := by
        have h := HI.out.availAt (fun x hx => wayK_in hx) HTK.out HX.out.1 hbvn hnew
        rw [HGV.out] at h
        exact h
      have avb : -20000 ≤ avT s o l bv ∧ avT s o l bv ≤ 200 := by
        have f := HI.out.fm
        have h1 := f.sh.num bv (by rw [f.sh.n]; exact hbvn) gd hgdn
        have h2 := heldTo_bd (s := s) (b := bv) (g := gd) f.holdN
        have h3 := fromTo_bd (s := s) (b := bv) (g := gd) f.moveN
        have h4 := f.hs72
        have h5 := f.ms8
        unfold avT
        rw [HGV.out]
        show -20000 ≤ availZ s bv gd ∧ availZ s bv gd ≤ 200
        unfold availZ
        omega
      have HAVE : Hid (avT s o l ((wayL p).getD k 0) = avT s o l bv) := by show avT s o l ((wayL p).getD k 0) = _; rw [hbv]
      generalize hAVd : avT s o l (bv : Int) = AV at *
      clear hAVd hnew hbm0 hbm1 hbe
      have q0 : (0 : Int) ≤ (k : Int) := by omega
      obtain ⟨N, hN⟩ : ∃ N, T.left = N := ⟨_, rfl⟩
      have HN : Hid (T.left = N) := hN
      rw [hN] at tl0 tln ⊢
      clear hN
      have HMZ : Hid (∀ m, min N AV = m → min T.left (avT s o l ((wayL p).getD k 0)) = m) := fun m h => by rw [HAVE.out, HN.out]; exact h
      rw [hbv] at HS1
      clear hbv HSTEP HEND
      have hNb : N ≤ 200 := by
        have := HI.out.sum
        have := (keptS_bd (z := s.hs.z) o l s.hs.n fun j hj => (fineH_true (right_fine HI.out.fm.hold j hj)).2.2.2).1
        omega
      by_cases hbut : (bv : Int) = but
      · have hbd : ((bv : Int) == but) = true := by simpa using hbut
        have HNX : Hid (Tk.go (avT s o l) n (wayK p but (k + 1)) = T) := by
          show Tk.go (avT s o l) n (wayK p but (k + 1)) = T
          rw [HS1.out, if_pos hbut]
        clear hbut
        go_wp2_with fail
        go_roundw
        case rel => exact ⟨k + 1, by omega, by go_num, by rw [HNX.out, HN.out], by rw [HNX.out]; exact ⟨x, HX.out⟩, HBk, HKP⟩
        case measure => simp [intOf]; omega
      · have hbd : ((bv : Int) == but) = false := by simpa using hbut
        have HS2 : Hid (Tk.go (avT s o l) n (wayK p but (k + 1)) = T.step (avT s o l) (bv : Int)) := by
          show Tk.go (avT s o l) n (wayK p but (k + 1)) = _
          rw [HS1.out, if_neg hbut]
        clear hbut HS1
        have KX := HX.out.2.2.1
        obtain ⟨m1, p0, p1, p2, p3, p4, p5, p6⟩ := Boxed.of KX
        have HAL : Hid (Calls Tryz.prog 50 #[x.val, .int .i64 (bv : Int), .int .i64 (gd : Int)] wr fun e w' => e = .returned (.int .i64 AV) ∧ Below wr.heap.size wr w') := by
          have h := AvailOf_any p x bv gd wr HX.out.2.1.at HFX.out hbvn hgdn
          rw [HAX.out] at h
          exact h
        clear KX
        go_wp2_with fail
        refine HAL.out.mono ?_
        rintro e w9 ⟨rfl, hB9⟩
        clear m1 p0 p1 p2 p3 p4 p5 p6 HAL z0 z1
        have HBk9 : Hid (Below A w w9) := HBk.out.trans (hB9.mono (Nat.le_trans hA HBk.out.size))
        have HX9 : Hid (Took s o l n T x ∧ OwnS A w9 x ∧ Blk w9 (w.heap.size + 1) 31 7 (fun j => x.cells.getD j default) ∧ Blk w9 g 3 (wayL p).length (fun j => .int .i64 ((wayL p).getD j 0)) ∧ (x.os.z o).ls.a = some ⟨BL, 0, none⟩ ∧ Blk w9 (w.heap.size + 1 + 1) 31 7 (fun _ => .slice .none 0 0)) := ⟨HX.out.1, OwnS.below HX.out.2.1 hB9, HX.out.2.2.1.below hB9, HX.out.2.2.2.1.below hB9, HX.out.2.2.2.2.1, HX.out.2.2.2.2.2.below hB9⟩
        have HKP9 : Hid (KeepL w w9) := HKP.out.below hB9
        clear HX HBk hB9 HKP
        by_cases hm0 : min N AV ≤ 0
        · have hm1 : min N AV = 0 := by
            have := HI.out.av bv hbvn
            have e : avT s o l (bv : Int) = availZ s bv ((s.os.z o).ls.z l).o.toNat := rfl
            have := HAVE.out
            rw [HBV.out, e] at this
            omega
          have g1 : ¬ 0 < min N AV := by omega
          have g2 : decide (0 < min N AV) = false := decide_eq_false g1
          have HNX : Hid (TakeJ s o l n (Tk.go (avT s o l) n (wayK p but (k + 1))) (wayL p) A (w.heap.size + 1) BL g w9 ∧ (Tk.go (avT s o l) n (wayK p but (k + 1))).left = N) := by
            have e0 : min T.left (avT s o l (bv : Int)) = 0 := by have h := HMZ.out 0 hm1; rw [HBV.out] at h; exact h
            refine ⟨⟨x, ?_, HX9.out.2⟩, ?_⟩
            · rw [HS2.out]
              exact HX9.out.1.stepZero e0
            · rw [HS2.out]
              show T.left - min T.left _ = N
              rw [e0, HN.out]
              omega
          clear hm0
          go_wp2_with fail
          go_roundw
          case rel => exact ⟨k + 1, by omega, by go_num, by rw [HNX.out.2], HNX.out.1, HBk9, HKP9⟩
          case measure => simp [intOf]; omega
        · obtain ⟨MV, hMV⟩ : ∃ MV, min N AV = MV := ⟨_, rfl⟩
          have HM1 : Hid (min N AV = MV) := hMV
          have mv0 : 0 < MV := by omega
          have mv1 : MV ≤ N := by omega
          have g2 : decide (0 < MV) = true := decide_eq_true mv0
          have HAE : Hid (fineH (tookH o l bv MV) = true ∧ keptV x.hs.n x.hs.z o l bv + MV ≤ 200 ∧ addE x.hs.n x.hs.z (tookH o l bv MV) = 0) := HI.out.addE (fun x hx => wayK_in hx) HTK.out HX9.out.1 (b := (bv : Int)) ⟨by omega, by omega⟩ mv0 (by rw [HN.out]; exact mv1)
          have kv0 := (keptV_bd (fun j hj => (fineH_true (right_fine HX9.out.1.right j hj)).2.2.2) (o : Int) (l : Int) (bv : Int)).1
          have kv1 := HAE.out.2.1
          obtain ⟨KV, hKV⟩ : ∃ KV, keptV x.hs.n x.hs.z o l bv = KV := ⟨_, rfl⟩
          have HKV : Hid (keptV x.hs.n x.hs.z o l bv = KV) := hKV
          rw [hKV] at kv0 kv1
          clear hKV
          have KX := HX9.out.2.2.1
          have y2 : ∀ d os, (grow (redrawn w9 d) os).cell? ⟨w.heap.size + 1, 2, none⟩ = some (.slice x.hs.a x.hs.n x.hs.c) := fun d os => cell_regrown (KX.cell (j := 2) (by decide)) d os
          have y3 := KX.lt
          clear KX hm0
          go_wp2_with fail
          clear hMV
          refine wp_region_made6 (fun w' => ∃ p : Regrown, w' = grow (redrawn w9 p.d) p.os) [0, 1, 2, 3, 4, 5, 6, 7, 8, 9, 11] [10, 12, 13] [(true, 14), (true, 15)] (by kernel_rfl) (by kernel_rfl) (by kernel_rfl) (by kernel_rfl) (by kernel_rfl) (by kernel_rfl) (by kernel_rfl) (by kernel_rfl) (by kernel_rfl) (regrown_of_below ((Below.refl _ _).drew)) ?_
          simp only [picks, List.drop_succ_cons, List.drop_zero, List.take_succ_cons, List.take_zero, List.cons_append, List.nil_append]
          repeat (go_big_quiet_step (fail))
          refine wpQuiet_nil ?_
          clear y2
          refine ⟨fun j v g wk => match j with | 10 => g = [] ∧ v = .int .i64 KV | 12 => g = [] ∧ v = .int .i64 (KV + MV) | 13 => DWith w9.heap.size x.hs (tookH o l bv MV) v g wk | _ => True,
            List.forall_mem_cons.2 ⟨fun v g w w' hB h => h, List.forall_mem_cons.2 ⟨fun v g w w' hB h => h, List.forall_mem_cons.2 ⟨fun v g w w' hB h => DWith.below h hB, List.forall_mem_nil _⟩⟩⟩,
            List.forall_mem_cons.2 ⟨fun v g w h => by rw [h.1]; intro x hx; simp at hx, List.forall_mem_cons.2 ⟨fun v g w h => by rw [h.1]; intro x hx; simp at hx, List.forall_mem_cons.2 ⟨fun v g w h => by obtain ⟨_, h1, _⟩ := h; rw [h1]; intro x hx; simp at hx, List.forall_mem_nil _⟩⟩⟩,
            List.forall_mem_cons.2 ⟨?zt3, List.forall_mem_cons.2 ⟨?zt4, List.forall_mem_cons.2 ⟨?zt5, List.forall_mem_nil _⟩⟩⟩, ?ztdone⟩
          case zt3 =>
            intro V G wk K hS hd hA hK
            have hX := below_of_regrown hS
            refine wpOp_list 10 rfl ?_
            simp only [putAll, dstOf, List.getElem?_toArray, List.getElem?_cons_succ, List.getElem?_cons_zero, Act.put, List.setIfInBounds_toArray, List.set_cons_succ, List.set_cons_zero] at hK ⊢
            have HKA : Hid (Calls Tryz.prog 51 #[.slice x.hs.a x.hs.n x.hs.c, .int .i64 (o : Int), .int .i64 (l : Int), .int .i64 (bv : Int)] wk fun e w' => e = .returned (.int .i64 KV) ∧ Below wk.heap.size wk w') := by
              have h := keptAt_b x.hs o l bv wk (HX9.out.2.1.hs.at.below hX)
              rw [HKV.out] at h
              exact h
            go_wp2_with fail
            refine HKA.out.mono ?_
            rintro e w2 ⟨rfl, hB2⟩
            go_wp2_with fail
            exact hK _ [] _ (regrown_of_below (hX.trans (hB2.mono hX.size))) hB2 (fun x hx => by simp at hx) ⟨rfl, rfl⟩
          case zt4 =>
            intro V G wk K hS hd hA hK
            obtain ⟨-, h10⟩ : (G 10 = [] ∧ V 10 = .int .i64 KV) := hd 10 (List.contains_iff_mem.1 (by kernel_rfl)) (by simp)
            refine wpOp_list 12 rfl ?_
            simp only [putAll, dstOf, List.getElem?_toArray, List.getElem?_cons_succ, List.getElem?_cons_zero, Act.put, List.setIfInBounds_toArray, List.set_cons_succ, List.set_cons_zero, h10] at hK ⊢
            go_wp2_with fail
            exact hK _ [] _ hS (Below.refl _ _) (fun x hx => by simp at hx) ⟨rfl, rfl⟩
          case zt5 =>
            intro V G wk K hS hd hA hK
            have hX := below_of_regrown hS
            have q := hX.size
            obtain ⟨-, h12⟩ : (G 12 = [] ∧ V 12 = .int .i64 (KV + MV)) := hd 12 (List.contains_iff_mem.1 (by kernel_rfl)) (by simp)
            refine wpOp_list 13 rfl ?_
            simp only [putAll, dstOf, List.getElem?_toArray, List.getElem?_cons_succ, List.getElem?_cons_zero, Act.put, List.setIfInBounds_toArray, List.set_cons_succ, List.set_cons_zero, h12] at hK ⊢
            have HWI : Hid (Calls Tryz.prog 23 #[.slice x.hs.a x.hs.n x.hs.c, .int .i64 (o : Int), .int .i64 (l : Int), .int .i64 (bv : Int), .int .i64 (KV + MV)] wk fun e w' => ∃ s' : Hs, e = .returned s'.val ∧ OwnH wk.heap.size 58 w' s' ∧ s'.n = addLen x.hs.n x.hs.z (tookH o l bv MV) ∧ s'.z = addZ x.hs.n x.hs.z (tookH o l bv MV) ∧ Below wk.heap.size wk w') := by
              have h := with_addO x.hs (tookH o l bv MV) wk (HX9.out.2.1.hs.at.below hX) HX9.out.1.right HAE.out.1
              rw [show keptV x.hs.n x.hs.z (tookH o l bv MV).o (tookH o l bv MV).l (tookH o l bv MV).b = KV from HKV.out] at h
              exact h
            go_wp2_with fail
            refine HWI.out.mono ?_
            rintro e w2 ⟨y, rfl, h1, h2, h3, hB2⟩
            have HR : Hid (OwnH w9.heap.size 58 w2 y ∧ y.n = addLen x.hs.n x.hs.z (tookH o l bv MV) ∧ y.z = addZ x.hs.n x.hs.z (tookH o l bv MV)) := ⟨h1.mono (by omega), h2, h3⟩
            clear h1 h2 h3
            simp only [Hs.val]
            go_wp2_with fail
            exact hK _ [] _ (regrown_of_below (hX.trans (hB2.mono hX.size))) hB2 (fun x hx => by simp at hx) ⟨y, rfl, rfl, HR.out⟩
          case ztdone =>
            intro V G' wk hS hD hA2
            obtain ⟨y, -, h13, yown, yn, yz⟩ : DWith w9.heap.size x.hs (tookH o l bv MV) (V 13) (G' 13) wk := hD 13 (by simp)
            have hX := below_of_regrown hS
            have yok : AddOK x.hs.n x.hs.z (tookH o l bv MV) y := ⟨by rw [if_pos HAE.out.2.2]; exact yn, fun j _ => by rw [yz]⟩
            have q9 := HBk9.out.size
            have qa := hX.size
            obtain ⟨b1, b2, b3, b4⟩ := HBA.out
            have hOa := OwnS.below HX9.out.2.1 hX
            have KA := HX9.out.2.2.1.below hX
            have FA := HX9.out.2.2.2.1.below hX
            have ZA := HX9.out.2.2.2.2.2.below hX
            have hBka := HBk9.out.trans (hX.mono (Nat.le_trans hA HBk9.out.size))
            have ho1 : o < x.os.n := by rw [HX9.out.1.os.1]; exact ho
            have hOb := (hOa.withHolds (yown.mono (by omega))).box KA 2 (.slice y.a y.n y.c)
            have KB := KA.set 2 (.slice y.a y.n y.c)
            have FB := FA.other (a := ⟨w.heap.size + 1, 2, none⟩) (Blk.ne2 FA KA (by decide)) (.slice y.a y.n y.c)
            have ZB := ZA.other (a := ⟨w.heap.size + 1, 2, none⟩) (by show w.heap.size + 1 + 1 ≠ w.heap.size + 1; omega) (.slice y.a y.n y.c)
            have hBb := hBka.setCell (p := ⟨w.heap.size + 1, 2, none⟩) (by show A ≤ w.heap.size + 1; omega) (.slice y.a y.n y.c)
            have hl1 : l < (x.os.z o).ls.n := by rw [(HX9.out.1.os.2 o ho1).2.1]; exact hl
            have hTn := HX9.out.1.stepAdd (av := avT s o l) (order := o) (line := l) (b := (bv : Int)) (m := MV) ho hl (by have h := HMZ.out MV HM1.out; rw [HBV.out] at h; exact h) HAE.out.2.2 yok
            have kpb := (HKP9.out.below hX).setNew (B := w.heap.size + 1) (by omega) 2 (.slice y.a y.n y.c)
            have z1 := KA.lt
            have z2 := KA.frozen 2
            have z3 := KA.cell (j := 2) (by decide)
            obtain ⟨WS, hWS⟩ : ∃ WS, wk.setCell ⟨w.heap.size + 1, 2, none⟩ (.slice y.a y.n y.c) = WS := ⟨_, rfl⟩
            have HWS : Hid (wk.setCell ⟨w.heap.size + 1, 2, none⟩ (.slice y.a y.n y.c) = WS) := hWS
            rw [hWS] at hOb KB FB ZB hBb kpb
            have HKPS : Hid (KeepL w WS) := kpb
            have HS9 : Hid (OwnS A WS (withHolds x y) ∧ Blk WS (w.heap.size + 1) 31 7 (fun i => if i = 2 then .slice y.a y.n y.c else x.cells.getD i default) ∧ Blk WS g 3 (wayL p).length (fun j => .int .i64 ((wayL p).getD j 0)) ∧ Blk WS (w.heap.size + 1 + 1) 31 7 (fun _ => .slice .none 0 0) ∧ Below A w WS ∧ Took s o l n (T.step (avT s o l) bv) (withHolds (setLine x o l 3 (((x.os.z o).ls.z l).n - MV)) y)) := ⟨hOb, KB, FB, ZB, hBb, hTn⟩
            have hXO : Hid (o < x.os.n ∧ l < (x.os.z o).ls.n ∧ (x.os.z o).ls.a = some ⟨BL, 0, none⟩ ∧ A ≤ BL) := ⟨ho1, hl1, HX9.out.2.2.2.2.1, b2⟩
            have HBXX : Hid (((x.os.z o).ls.z l).n = ((s.os.z o).ls.z l).n - (n - T.left)) := by
              show ((x.os.z o).ls.z l).n = _
              rw [(HX9.out.1.os.2 o ho1).2.2 l hl1, if_pos ⟨rfl, rfl⟩]
              rfl
            clear kpb HKP9 hS hD hA2 hX hOa KA FA ZA hBka hOb KB FB ZB hBb hTn yown yn yz yok hWS ho1 hl1 HX9 HBk9
            simp only [putAll, dstOf, List.getElem?_toArray, List.getElem?_cons_succ, List.getElem?_cons_zero, Act.put, List.setIfInBounds_toArray, List.set_cons_succ, List.set_cons_zero, h13]
            refine wpSeq_one 14 rfl ?_
            go_wp2_with fail
            refine ⟨Late.yes, ?_⟩
            refine wpSeq_one 15 rfl ?_
            go_wp2_with fail
            refine ⟨Late.yes, ?_⟩
            refine NoPanic.normal ?_
            rw [HWS.out]
            clear z1 z2 z3 HWS h13 b1 b2 b3 b4 q9 qa
            obtain ⟨ho1, hl1, hla1, hAB⟩ := hXO.out
            obtain ⟨gO, BL', f1, f2, f3, f4, f5, f6, f7, f8, f9, f10, f11, f12, f13, f14⟩ := HS9.out.1.lineCell (o := o) (l := l) ho1 hl1
            have f5' : (x.os.z o).ls.a = some ⟨BL', 0, none⟩ := f5
            rw [hla1] at f5'
            simp only [Option.some.injEq, Addr.mk.injEq, and_true] at f5'
            subst f5'
            have HF5 : Hid (((withHolds x y).os.z o).ls.a = some ⟨BL, 0, none⟩) := f5
            have s1 : WS.cell? ⟨w.heap.size + 1, 1, none⟩ = some (.slice x.os.a x.os.n x.os.c) := HS9.out.2.1.cell (j := 1) (by decide)
            have f1' : x.os.a = some ⟨gO, 0, none⟩ := f1
            rw [f1'] at s1
            have f4' : WS.cell? ⟨gO, o * 2 + 1, none⟩ = some (.slice (some ⟨BL, 0, none⟩) (x.os.z o).ls.n (x.os.z o).ls.c) := f4
            have f14' : WS.cell? ⟨BL, l * 4 + 3, none⟩ = some (.int .i64 ((x.os.z o).ls.z l).n) := f14
            obtain ⟨BK, hBK⟩ : ∃ BK, ((x.os.z o).ls.z l).n = BK := ⟨_, rfl⟩
            have HBK : Hid (((x.os.z o).ls.z l).n = BK) := hBK
            have bkb : -1000 ≤ BK ∧ BK ≤ 1000 := by
              rw [← hBK, HBXX.out]
              have := badLine_no (HI.out.fm.line o ho l hl)
              have := HN.out
              omega
            rw [hBK] at f14'
            have v1 : x.os.n ≤ x.os.c := HS9.out.1.os.le
            have v2 : x.os.c ≤ maxLen := HS9.out.1.os.cap
            have v3 : (x.os.z o).ls.n ≤ (x.os.z o).ls.c := f8
            have v4 : (x.os.z o).ls.c ≤ maxLen := f9
            unfold maxLen at v2 v4
            have t1 : ∀ d os, (grow (redrawn WS d) os).cell? ⟨w.heap.size + 1, 1, none⟩ = some (.slice (some ⟨gO, 0, none⟩) x.os.n x.os.c) := fun d os => cell_regrown s1 d os
            have t2 : ∀ d os, (grow (redrawn WS d) os).cell? ⟨gO, o * 2 + 1, none⟩ = some (.slice (some ⟨BL, 0, none⟩) (x.os.z o).ls.n (x.os.z o).ls.c) := fun d os => cell_regrown f4' d os
            have t3 : ∀ d os, (grow (redrawn WS d) os).cell? ⟨BL, l * 4 + 3, none⟩ = some (.int .i64 BK) := fun d os => cell_regrown f14' d os
            clear hBK f1 f2 f3 f4 f5 f6 f7 f8 f9 f10 f11 f12 f13 f14 s1 f1' f4' f14' hla1 hXO HBXX
            go_wp2_with fail
            refine wp_region_made5 (fun w' => ∃ p : Regrown, w' = grow (redrawn WS p.d) p.os) (List.range 21) [] [(true, 21)] (by kernel_rfl) (by kernel_rfl) (by kernel_rfl) (by kernel_rfl) (by kernel_rfl) (by kernel_rfl) (by kernel_rfl) (by kernel_rfl) (by kernel_rfl) (regrown_of_below ((Below.refl _ _).drew)) ?_
            rw [show List.range 21 = [0, 1, 2, 3, 4, 5, 6, 7, 8, 9, 10, 11, 12, 13, 14, 15, 16, 17, 18, 19, 20] from rfl]
            simp only [picks, List.drop_succ_cons, List.drop_zero, List.take_succ_cons, List.take_zero, List.cons_append, List.nil_append]
            repeat (go_big_quiet_step (fail))
            refine wpQuiet_nil ?_
            clear t1 t2 t3
            refine ⟨fun _ _ _ _ => True, List.forall_mem_nil _, List.forall_mem_nil _, List.forall_mem_nil _, fun V G wj hS _ _ => ?_⟩
            have hX := below_of_regrown hS
            have hOj := OwnS.below HS9.out.1 hX
            have Kj := HS9.out.2.1.below hX
            have Fj := HS9.out.2.2.1.below hX
            have Zj := HS9.out.2.2.2.1.below hX
            have hBj := HS9.out.2.2.2.2.1.trans (hX.mono (Nat.le_trans hA HS9.out.2.2.2.2.1.size))
            obtain ⟨B', hla', -, -, -, hlb⟩ := hOj.os.lines o ho1
            rw [HF5.out] at hla'
            simp only [Option.some.injEq, Addr.mk.injEq, and_true] at hla'
            subst hla'
            have zl := hlb.lt
            have zf := hlb.frozen (l * 4 + 3)
            obtain ⟨gq, Bq, -, -, -, -, g5, -, -, -, -, -, -, -, -, zc⟩ := hOj.lineCell (o := o) (l := l) ho1 hl1
            rw [HF5.out] at g5
            simp only [Option.some.injEq, Addr.mk.injEq, and_true] at g5
            subst g5
            have hOc := hOj.setLine (o := o) ho1 HF5.out l 3 (by decide) (BK - MV)
            have KC := Kj.other (a := ⟨BL, l * 4 + 3, none⟩) (Blk.ne2 Kj hlb (by decide)) (.int .i64 (BK - MV))
            have FC := Fj.other (a := ⟨BL, l * 4 + 3, none⟩) (Blk.ne2 Fj hlb (by decide)) (.int .i64 (BK - MV))
            have ZC := Zj.other (a := ⟨BL, l * 4 + 3, none⟩) (Blk.ne2 Zj hlb (by decide)) (.int .i64 (BK - MV))
            have kpc := (HKPS.out.below hX).setLine hlb (l * 4 + 3) (.int .i64 (BK - MV))
            have hBc := hBj.setCell (p := ⟨BL, l * 4 + 3, none⟩) (by show A ≤ BL; omega) (.int .i64 (BK - MV))
            have HNX : Hid (TakeJ s o l n (Tk.go (avT s o l) n (wayK p but (k + 1))) (wayL p) A (w.heap.size + 1) BL g (wj.setCell ⟨BL, l * 4 + 3, none⟩ (.int .i64 (BK - MV))) ∧ (Tk.go (avT s o l) n (wayK p but (k + 1))).left = N - MV ∧ Below A w (wj.setCell ⟨BL, l * 4 + 3, none⟩ (.int .i64 (BK - MV))) ∧ KeepL w (wj.setCell ⟨BL, l * 4 + 3, none⟩ (.int .i64 (BK - MV)))) := by
              refine ⟨⟨withHolds (setLine x o l 3 (BK - MV)) y, ?_, hOc, KC.congr (fun j hj => by match j, hj with | 0, _ => rfl | 1, _ => rfl | 2, _ => rfl | 3, _ => rfl | 4, _ => rfl | 5, _ => rfl | 6, _ => rfl), FC, ?_, ZC⟩, ?_, hBc, kpc⟩
              · rw [HS2.out]
                have h := HS9.out.2.2.2.2.2
                rw [HBK.out] at h
                exact h
              · exact ((setLine_n (s := x) (o := o) (l := l) (c := 3) (v := BK - MV) o).2.1).trans HF5.out
              · rw [HS2.out]
                show T.left - min T.left _ = N - MV
                have h := HMZ.out MV HM1.out
                rw [HBV.out] at h
                rw [h, HN.out]
            clear hOj Kj Fj Zj hBj hlb hOc KC FC ZC hBc kpc HKPS hX hS HS9
            have zc' : wj.cell? ⟨BL, l * 4 + 3, none⟩ = some (.int .i64 ((x.os.z o).ls.z l).n) := zc
            rw [HBK.out] at zc'
            clear zc
            simp only [putAll]
            refine wpSeq_one 21 rfl ?_
            go_wp2_with fail
            refine ⟨Late.yes, ?_⟩
            refine NoPanic.normal ?_
            go_wp2_with fail
            go_roundw
            case rel => exact ⟨k + 1, by omega, by go_num, by rw [HNX.out.2.1], HNX.out.1, HNX.out.2.2.1, HNX.out.2.2.2⟩
            case measure => simp [intOf]; omega
    · have hkn : k = (wayL p).length := by omega
      have HT : Hid (T = Tk.go (avT s o l) n (wayT p but)) := HEND.out hkn
      clear HEND HSTEP
      have KX := HX.out.2.2.1
      obtain ⟨m1, p0, p1, p2, p3, p4, p5, p6⟩ := Boxed.of KX
      have hz := HX.out.2.2.2.2.2
      have zl := hz.lt
      have zf0 := hz.frozen 0
      have zc0 := hz.cell (j := 0) (by decide)
      have zf1 := hz.frozen 1
      have zc1 := hz.cell (j := 1) (by decide)
      have zf2 := hz.frozen 2
      have zc2 := hz.cell (j := 2) (by decide)
      have zf3 := hz.frozen 3
      have zc3 := hz.cell (j := 3) (by decide)
      have zf4 := hz.frozen 4
      have zc4 := hz.cell (j := 4) (by decide)
      have zf5 := hz.frozen 5
      have zc5 := hz.cell (j := 5) (by decide)
      have zf6 := hz.frozen 6
      have zc6 := hz.cell (j := 6) (by decide)
      clear KX hz
      go_wp2_with fail
      have KZ := set7_blk HX.out.2.2.2.2.2 (.slice x.on.a x.on.n x.on.c) (.slice x.os.a x.os.n x.os.c) (.slice x.hs.a x.hs.n x.hs.c) (.slice x.ms.a x.ms.n x.ms.c) (.slice x.si.a x.si.n x.si.c) (.slice x.so.a x.so.n x.so.c) (.slice x.sf.a x.sf.n x.sf.c)
      have hbz := set7_below (b := w.heap.size + 1 + 1) HBk.out (by omega) (.slice x.on.a x.on.n x.on.c) (.slice x.os.a x.os.n x.os.c) (.slice x.hs.a x.hs.n x.hs.c) (.slice x.ms.a x.ms.n x.ms.c) (.slice x.si.a x.si.n x.si.c) (.slice x.so.a x.so.n x.so.c) (.slice x.sf.a x.sf.n x.sf.c)
      have hOz := OwnS.set7 HX.out.2.1 HX.out.2.2.2.2.2 (.slice x.on.a x.on.n x.on.c) (.slice x.os.a x.os.n x.os.c) (.slice x.hs.a x.hs.n x.hs.c) (.slice x.ms.a x.ms.n x.ms.c) (.slice x.si.a x.si.n x.si.c) (.slice x.so.a x.so.n x.so.c) (.slice x.sf.a x.sf.n x.sf.c)
      unfold set7 at KZ hbz hOz
      obtain ⟨c0', c1', c2', c3', c4', c5', c6'⟩ := box_cells KZ
      refine bodyPost_ret (v := .tuple #[x.val, .int .i64 T.left]) (by simp [results, Tryz.results24, go_sem, St.val, c0', c1', c2', c3', c4', c5', c6']) rfl ?_
      rw [← HT.out]
      refine ⟨x, rfl, HX.out.1, hOz, hbz, ?_⟩
      exact ((((((HKP.out.setNew (by omega) 0 _).setNew (by omega) 1 _).setNew (by omega) 2 _).setNew (by omega) 3 _).setNew (by omega) 4 _).setNew (by omega) 5 _).setNew (by omega) 6 _
end Go.Proofs.YtbcacebifpagpaeGreat
namespace Go.Proofs.YtbcacebifpagpaeGreat
open Go.RowKit
set_option linter.unusedVariables false
section
variable {p : Pl} {s x : St} {b g : Nat} {seen J : Int}
theorem CountIn.formedJ (h : CountIn p s b g seen) (h0 : 0 ≤ J) : Formed p (fixOn (cutS s b g J) b g seen) := by
  have F := cut_formed (b := b) (g := g) h.r h0
  have G := h.right.fm
  exact ⟨G.sh, G.sh0, F.os4, F.ms8, F.lns, F.kind, F.line, F.hold, F.home, F.move, G.sin, G.son, G.sfn, G.sib, G.sob, G.sfb⟩
theorem CutJ.formed (h : CountIn p s b g seen) (h0 : 0 ≤ J) (c : CutJ s b g seen J x) : Formed p x := SameT.formed c (h.formedJ h0)
theorem CutJ.boundJ (h : CountIn p s b g seen) (h0 : 0 ≤ J) (hJ : J ≤ boundZ s b g) (c : CutJ s b g seen J x) : boundZ x b g = boundZ s b g - J := by
  rw [← cut_bound h.r h0 hJ]
  unfold boundZ
  rw [SameT.held c (h.formedJ h0), SameT.from c]
  have e1 : heldTo (fixOn (cutS s b g J) b g seen) b g (fixOn (cutS s b g J) b g seen).hs.n = heldTo (cutS s b g J) b g (cutS s b g J).hs.n := heldTo_eq (fun _ _ => rfl) (fun _ _ => rfl)
  have e2 : fromTo (fixOn (cutS s b g J) b g seen) b g (fixOn (cutS s b g J) b g seen).ms.n = fromTo (cutS s b g J) b g (cutS s b g J).ms.n := fromTo_eq (fun _ _ => rfl)
  rw [e1, e2]
theorem RelK.moveN {A B7 : Nat} {W0 wk : World} (h : RelK A B7 W0 x wk) (hA : W0.heap.size ≤ A) {i G : Nat} (hi : i < x.ms.n) (ha : x.ms.a = some ⟨G, 0, none⟩) (d : Int) : RelK A B7 W0 (withMoves x (lessHs x.ms i d)) (wk.setCell ⟨G, i * 4 + 3, none⟩ (.int .i64 ((x.ms.z i).n - d))) := by
  have hm := h.own.ms
  obtain ⟨h1, h2, h3, h4⟩ := h.own.ms
  obtain ⟨G', ha', hA', hb⟩ := h4 (by omega)
  rw [ha] at ha'
  simp only [Option.some.injEq, Addr.mk.injEq, and_true] at ha'
  subst ha'
  exact ⟨h.own.keepM hb ((KeepG.refl G wk).set _ _) (hm.less hi ha d) (h.own.msr.set G (i * 4 + 3) _), h.box.other (a := ⟨G, i * 4 + 3, none⟩) (Blk.ne2 h.box hb (by decide)) _, h.bel.setCell (p := ⟨G, i * 4 + 3, none⟩) (by show W0.heap.size ≤ G; omega) _, by have := h.le; simpa using this⟩
theorem RelK.holds {A B7 : Nat} {W0 wk : World} (h : RelK A B7 W0 x wk) (hB : W0.heap.size ≤ B7) {m : Hs} (hm : OwnH A 58 wk m) : RelK A B7 W0 (withHolds x m) (wk.setCell ⟨B7, 2, none⟩ (.slice m.a m.n m.c)) := by
  refine ⟨(h.own.withHolds hm).box h.box 2 _, (h.box.set 2 _).congr fun j hj => ?_, h.bel.setCell (p := ⟨B7, 2, none⟩) hB _, by have := h.le; simpa using this⟩
  match j, hj with
  | 0, _ => rfl
  | 1, _ => rfl
  | 2, _ => rfl
  | 3, _ => rfl
  | 4, _ => rfl
  | 5, _ => rfl
  | 6, _ => rfl
theorem RelK.line {A B7 : Nat} {W0 wk : World} (h : RelK A B7 W0 x wk) (hA : W0.heap.size ≤ A) {o B : Nat} (ho : o < x.os.n) (ha : (x.os.z o).ls.a = some ⟨B, 0, none⟩) (l : Nat) (v : Int) : RelK A B7 W0 (setLine x o l 3 v) (wk.setCell ⟨B, l * 4 + 3, none⟩ (.int .i64 v)) := by
  obtain ⟨B', ha', hA', h1, h2, hb⟩ := h.own.os.lines o ho
  rw [ha] at ha'
  simp only [Option.some.injEq, Addr.mk.injEq, and_true] at ha'
  subst ha'
  exact ⟨h.own.setLine ho ha l 3 (by decide) v, h.box.other (a := ⟨B, l * 4 + 3, none⟩) (Blk.ne2 h.box hb (by decide)) _, h.bel.setCell (p := ⟨B, l * 4 + 3, none⟩) (by show W0.heap.size ≤ B; omega) _, by have := h.le; simpa using this⟩
theorem CutJ.cutQ_move (r : RightT p s) (h0 : 0 ≤ J) (h : CutJ s b g seen J x) {k : Nat} (hk : lastI (fromF b g) x.ms.z x.ms.n = some k) : cutQs s b g (J + 1) = cutQs s b g J := by
  have s1 := last_some_sum (by rw [h.revM]; exact flt_one (cutL_pos _ r.movesP h0)) hk
  rw [h.revM, sumB_flt, (sumB_cut (fromF_blind b g) r.movesP h0).1] at s1
  have f1 : fromTo s b g s.ms.n = sumB (fromF b g) (moveR s) := from_sum s b g s.ms.n
  have L : leftM s b g (J + 1) = leftM s b g J := by
    have a1 := (leftM_eq (b := b) (g := g) r h0).1
    have a2 := (leftM_eq (b := b) (g := g) (M := J + 1) r (by omega)).1
    omega
  unfold cutQs
  rw [L]
theorem OwnS.boxA {A : Nat} {w : World} {s : St} {q n : Nat} {f : Nat → Value} (h : OwnS A w s) (hq : Blk w q 53 n f) (j : Nat) (u : Value) : OwnS A (w.setCell ⟨q, j, none⟩ u) s := by
  refine ⟨?_, fun i hi => (h.rows i hi).other hq (by decide) j u, h.rapart, h.os.other hq (by decide) (by decide) j u, h.hs.other hq (by decide) j u, h.ms.other hq (by decide) j u, h.msr.set q j u, h.si.other hq (by decide) j u, h.so.other hq (by decide) j u, h.sf.other hq (by decide) j u, h.aio, h.aif, h.aof, h.ari⟩
  obtain ⟨g, ha, h0, h1, h2, hb⟩ := h.on
  exact ⟨g, ha, h0, h1, h2, hb.other (a := ⟨q, j, none⟩) (Blk.ne2 hb hq (by decide)) u⟩
theorem RelK.boxA {A B7 : Nat} {W0 wk : World} {q n : Nat} {f : Nat → Value} (h : RelK A B7 W0 x wk) (hq : Blk wk q 53 n f) (hW : W0.heap.size ≤ q) (j : Nat) (u : Value) : RelK A B7 W0 x (wk.setCell ⟨q, j, none⟩ u) :=
  ⟨h.own.boxA hq j u, h.box.other (a := ⟨q, j, none⟩) (Blk.ne2 h.box hq (by decide)) u, h.bel.setCell (p := ⟨q, j, none⟩) hW u, by have := h.le; simpa using this⟩
def cutF (q : Int → Int → Int) (j : Nat) : Value := .int .i64 (q ((j / 3 : Nat) : Int) ((j % 3 : Nat) : Int))
theorem cutF_at (q : Int → Int → Int) {o l : Nat} (hl : l < 3) : cutF q (o * 3 + l) = .int .i64 (q o l) := by
  unfold cutF
  rw [show (o * 3 + l) / 3 = o by omega, show (o * 3 + l) % 3 = l by omega]
theorem cutQs_zero (r : RightT p s) (o l : Int) : cutQs s b g 0 o l = 0 := by
  have l0 : leftM s b g 0 = 0 := by
    have a := leftM_eq (b := b) (g := g) r (Int.le_refl 0)
    have c := (fromTo_bd (s := s) (b := b) (g := g) (n := s.ms.n) r.fm.moveN).1
    omega
  unfold cutQs
  rw [l0]
  exact cutQ_zero _ _ _ r.holdsP
theorem cutF_more {q q' : Int → Int → Int} {o l : Nat} (hl : l < 3) (h : ∀ a d : Int, q' a d = q a d + if a = o ∧ d = l then 1 else 0) (j : Nat) : (if j = o * 3 + l then Value.int .i64 (q o l + 1) else cutF q j) = cutF q' j := by
  unfold cutF
  rw [h]
  by_cases e : j = o * 3 + l
  · rw [if_pos e, if_pos ⟨by omega, by omega⟩, show j / 3 = o by omega, show j % 3 = l by omega]
  · rw [if_neg e, if_neg (fun c => e (by omega)), Int.add_zero]
structure CoI (A B7 BC : Nat) (W0 : World) (s : St) (b g : Nat) (seen J : Int) (x : St) (wk : World) : Prop where
  rel : RelK A B7 W0 x wk
  cut : Blk wk BC 53 12 (cutF (cutQs s b g J))
  cj : CutJ s b g seen J x
  j0 : 0 ≤ J
  jm : J ≤ missZ s b g seen
theorem CoI.below {A B7 BC : Nat} {W0 wk wj : World} (h : CoI A B7 BC W0 s b g seen J x wk) (hB : Below wk.heap.size wk wj) : CoI A B7 BC W0 s b g seen J x wj := ⟨h.rel.below hB, h.cut.below hB, h.cj, h.j0, h.jm⟩
def CoN (A B7 BC : Nat) (W0 : World) (s : St) (b g : Nat) (seen : Int) (wk : World) (n : Nat) : Prop := ∃ (J : Int) (x : St), J = missZ s b g seen - n ∧ CoI A B7 BC W0 s b g seen J x wk
theorem CoI.num {A B7 BC : Nat} {W0 wk : World} (h : CoI A B7 BC W0 s b g seen J x wk) : CoN A B7 BC W0 s b g seen wk (missZ s b g seen - J).toNat := ⟨J, x, by have := h.jm; omega, h⟩
end
end Go.Proofs.YtbcacebifpagpaeGreat
namespace Go.Proofs.YtbcacebifpagpaeGreat
open Go.RowKit Go.Shelf Go.Sort
set_option linter.unusedVariables false
theorem countE_out {p : Pl} {s : St} {bin good seen : Int} (h : stateE p s = 0) (h2 : (inB bin 0 ((p.nb : Int) - 1) && inB good 0 ((p.ns : Int) - 1) && inB seen 0 200) = false) : countE p s bin good seen = 3 := by
  unfold countE
  rw [if_pos h, h2]
  rfl
theorem within_bel (v a c : Int) (w : World) : Calls Tryz.prog 18 #[.int .i64 v, .int .i64 a, .int .i64 c] w fun e w' => e = .returned (.bool (inB v a c)) ∧ Below w.heap.size w w' :=
  (within_any v a c w).mono fun e w' ⟨h1, h2⟩ => ⟨h1, h2 ▸ Below.refl _ _⟩
theorem RelK.setFix {A B7 : Nat} {W0 wk : World} {x : St} (h : RelK A B7 W0 x wk) (hA : W0.heap.size ≤ A) {G : Nat} (ha : x.sf.a = some ⟨G, 0, none⟩) (g : Nat) (v : Int) : RelK A B7 W0 (Go.Proofs.YtbcacebifpagpaeGreat.setFix x g v) (wk.setCell ⟨G, g, none⟩ (.int .i64 v)) := by
  obtain ⟨q, b1, b2, b3, b4, b5⟩ := h.own.sf
  rw [ha] at b1
  simp only [Option.some.injEq, Addr.mk.injEq, and_true] at b1
  subst b1
  exact ⟨h.own.setFix ha g v, h.box.other (a := ⟨G, g, none⟩) (Blk.ne2 h.box b5 (by decide)) _, h.bel.setCell (p := ⟨G, g, none⟩) (by show W0.heap.size ≤ G; omega) _, by have := h.le; simpa using this⟩
set_option maxRecDepth 100000 in
set_option maxHeartbeats 8000000 in
theorem CountOf_any (p : Pl) (s : St) (bin good seen : Int) (w : World) (hp : p.At w) (hs : s.At w) :
    Calls Tryz.prog 5 #[p.val, s.val, .int .i64 bin, .int .i64 good, .int .i64 seen] w fun e w' => ∃ x : St, e = .returned (.tuple #[x.val, .int .i64 (countE p s bin good seen)]) ∧ x.At w' ∧ ActOK (countE p s bin good seen) (countT p s bin.toNat good.toNat seen) x ∧ (countE p s bin good seen = 0 → OwnS w.heap.size w' x) ∧ Below w.heap.size w w' := by
  obtain ⟨W0, hW, hWB, X0, Z0⟩ : ∃ W, (((w.alloc (.cells #[.slice p.ab p.nb p.cb, .slice p.sa p.ns p.cs] 25)).alloc (.cells s.cells 31)).alloc (.cells #[.slice .none 0 0, .slice .none 0 0, .slice .none 0 0, .slice .none 0 0, .slice .none 0 0, .slice .none 0 0, .slice .none 0 0] 31)) = W ∧ Below w.heap.size w W ∧ Boxes W w.heap.size (w.heap.size + 1) p s ∧ Blk W (w.heap.size + 2) 31 7 (fun _ => .slice .none 0 0) :=
    ⟨_, rfl, (two_below _ _ _).alloc (by simp; omega) _, (boxes_new w p s _ _).below ((Below.refl _ _).alloc (Nat.le_refl _) _), (Blk.mk' (cur := #[.slice .none 0 0, .slice .none 0 0, .slice .none 0 0, .slice .none 0 0, .slice .none 0 0, .slice .none 0 0, .slice .none 0 0]) (by simp) rfl).congr (fun j hj => by match j, hj with | 0, _ => rfl | 1, _ => rfl | 2, _ => rfl | 3, _ => rfl | 4, _ => rfl | 5, _ => rfl | 6, _ => rfl)⟩
  have HC : Hid (∀ wk, Below W0.heap.size W0 wk → Boxes wk w.heap.size (w.heap.size + 1) p s ∧ p.At wk ∧ s.At wk ∧ Below w.heap.size w wk ∧ Blk wk (w.heap.size + 2) 31 7 (fun _ => .slice .none 0 0)) := fun wk h => ⟨X0.below h, (hp.below hWB).below h, (hs.below hWB).below h, hWB.trans (h.mono hWB.size), Z0.below h⟩
  have HW : Hid (((w.alloc (.cells #[.slice p.ab p.nb p.cb, .slice p.sa p.ns p.cs] 25)).alloc (.cells #[.slice s.on.a s.on.n s.on.c, .slice s.os.a s.os.n s.os.c, .slice s.hs.a s.hs.n s.hs.c, .slice s.ms.a s.ms.n s.ms.c, .slice s.si.a s.si.n s.si.c, .slice s.so.a s.so.n s.so.c, .slice s.sf.a s.sf.n s.sf.c] 31)).alloc (.cells #[.slice .none 0 0, .slice .none 0 0, .slice .none 0 0, .slice .none 0 0, .slice .none 0 0, .slice .none 0 0, .slice .none 0 0] 31) = W0) := hW
  have leb := hp.leb
  have capb0 := hp.capb
  have les := hp.les
  have caps0 := hp.caps
  have capb := capb0
  have caps := caps0
  have zlt0 := Z0.lt
  unfold maxLen at capb caps
  have HSL : Hid ((s.on.n ≤ s.on.c ∧ s.on.c ≤ maxLen) ∧ s.sf.n ≤ s.sf.c ∧ s.sf.c ≤ maxLen) := ⟨⟨hs.on.le, hs.on.cap⟩, hs.sf.le, hs.sf.cap⟩
  clear hW X0 Z0 hp hs
  unfold Pl.val St.val
  go_enter Tryz.func5, Tryz.ntmps5
  go_wp2_with fail
  rw [HW.out]
  obtain ⟨X, hpk, hsk, hBw, hz⟩ := HC.out W0 (Below.refl _ _)
  refine (refCheckState_any p s W0 hpk hsk).mono ?_
  rintro e w1 ⟨rfl, hB⟩
  clear X hpk hsk hBw hz HW
  obtain ⟨⟨⟨l1, d0, d1⟩, l2, c0, c1, c2, c3, c4, c5, c6⟩, hpk, hsk, hBw, hz⟩ := HC.out w1 hB
  by_cases h0 : stateE p s = 0
  · have H0 : Hid (stateE p s = 0) := h0
    have HR : Hid (RightT p s) := rightT h0
    rw [h0]
    clear h0 c0 c1 c2 c3 c4 c5 c6 hsk
    go_wp2_with fail
    refine (isBin_any p bin w1 leb capb0).mono ?_
    rintro e w2 ⟨rfl, hB2⟩
    have hB := hB.trans (hB2.mono hB.size)
    clear l1 d0 d1 l2 hpk hBw hz hB2
    obtain ⟨⟨⟨l1, d0, d1⟩, l2, c0, c1, c2, c3, c4, c5, c6⟩, hpk, hsk, hBw, hz⟩ := HC.out w2 hB
    clear c0 c1 c2 c3 c4 c5 c6
    cases k1 : inB bin 0 ((p.nb : Int) - 1)
    · have HX : Hid (countE p s bin good seen = 3) := countE_out H0.out (by rw [k1]; simp)
      have HNE : Hid (¬ countE p s bin good seen = 0) := by show ¬ _; rw [HX.out]; decide
      clear hpk hsk
      have zl := hz.lt
      have zf0 := hz.frozen 0
      have zc0 := hz.cell (j := 0) (by decide)
      have zf1 := hz.frozen 1
      have zc1 := hz.cell (j := 1) (by decide)
      have zf2 := hz.frozen 2
      have zc2 := hz.cell (j := 2) (by decide)
      have zf3 := hz.frozen 3
      have zc3 := hz.cell (j := 3) (by decide)
      have zf4 := hz.frozen 4
      have zc4 := hz.cell (j := 4) (by decide)
      have zf5 := hz.frozen 5
      have zc5 := hz.cell (j := 5) (by decide)
      have zf6 := hz.frozen 6
      have zc6 := hz.cell (j := 6) (by decide)
      go_wp2_with fail
      have KZ := set7_blk hz (.slice .none 0 0) (.slice .none 0 0) (.slice .none 0 0) (.slice .none 0 0) (.slice .none 0 0) (.slice .none 0 0) (.slice .none 0 0)
      have hbz := set7_below (b := w.heap.size + 2) hBw (by omega) (.slice .none 0 0) (.slice .none 0 0) (.slice .none 0 0) (.slice .none 0 0) (.slice .none 0 0) (.slice .none 0 0) (.slice .none 0 0)
      unfold set7 at KZ hbz
      obtain ⟨c0', c1', c2', c3', c4', c5', c6'⟩ := box_cells KZ
      refine bodyPost_ret (v := .tuple #[noneS.val, .int .i64 3]) (by simp [results, Tryz.results5, go_sem, noneS, St.val, c0', c1', c2', c3', c4', c5', c6']) rfl ?_
      exact ⟨noneS, by rw [HX.out]; rfl, noneS_at _, ⟨fun h => absurd h (HNE.out), fun _ => ⟨rfl, rfl, rfl, rfl, rfl, rfl, rfl⟩⟩, fun h => absurd h (HNE.out), hbz⟩
    · clear hsk
      go_wp2_with fail
      refine (isGood_any p good w2 les caps0).mono ?_
      rintro e w3 ⟨rfl, hB2⟩
      have hB := hB.trans (hB2.mono hB.size)
      clear l1 d0 d1 l2 hpk hBw hz hB2
      obtain ⟨⟨⟨l1, d0, d1⟩, l2, c0, c1, c2, c3, c4, c5, c6⟩, hpk, hsk, hBw, hz⟩ := HC.out w3 hB
      cases k2 : inB good 0 ((p.ns : Int) - 1)
      · have HX : Hid (countE p s bin good seen = 3) := countE_out H0.out (by rw [k1, k2]; simp)
        have HNE : Hid (¬ countE p s bin good seen = 0) := by show ¬ _; rw [HX.out]; decide
        clear hpk hsk
        have zl := hz.lt
        have zf0 := hz.frozen 0
        have zc0 := hz.cell (j := 0) (by decide)
        have zf1 := hz.frozen 1
        have zc1 := hz.cell (j := 1) (by decide)
        have zf2 := hz.frozen 2
        have zc2 := hz.cell (j := 2) (by decide)
        have zf3 := hz.frozen 3
        have zc3 := hz.cell (j := 3) (by decide)
        have zf4 := hz.frozen 4
        have zc4 := hz.cell (j := 4) (by decide)
        have zf5 := hz.frozen 5
        have zc5 := hz.cell (j := 5) (by decide)
        have zf6 := hz.frozen 6
        have zc6 := hz.cell (j := 6) (by decide)
        go_wp2_with fail
        have KZ := set7_blk hz (.slice .none 0 0) (.slice .none 0 0) (.slice .none 0 0) (.slice .none 0 0) (.slice .none 0 0) (.slice .none 0 0) (.slice .none 0 0)
        have hbz := set7_below (b := w.heap.size + 2) hBw (by omega) (.slice .none 0 0) (.slice .none 0 0) (.slice .none 0 0) (.slice .none 0 0) (.slice .none 0 0) (.slice .none 0 0) (.slice .none 0 0)
        unfold set7 at KZ hbz
        obtain ⟨c0', c1', c2', c3', c4', c5', c6'⟩ := box_cells KZ
        refine bodyPost_ret (v := .tuple #[noneS.val, .int .i64 3]) (by simp [results, Tryz.results5, go_sem, noneS, St.val, c0', c1', c2', c3', c4', c5', c6']) rfl ?_
        exact ⟨noneS, by rw [HX.out]; rfl, noneS_at _, ⟨fun h => absurd h (HNE.out), fun _ => ⟨rfl, rfl, rfl, rfl, rfl, rfl, rfl⟩⟩, fun h => absurd h (HNE.out), hbz⟩
      · cases k3 : inB seen 0 200
        · have HX : Hid (countE p s bin good seen = 3) := countE_out H0.out (by rw [k1, k2, k3]; simp)
          have HNE : Hid (¬ countE p s bin good seen = 0) := by show ¬ _; rw [HX.out]; decide
          clear hpk hsk
          have zl := hz.lt
          have zf0 := hz.frozen 0
          have zc0 := hz.cell (j := 0) (by decide)
          have zf1 := hz.frozen 1
          have zc1 := hz.cell (j := 1) (by decide)
          have zf2 := hz.frozen 2
          have zc2 := hz.cell (j := 2) (by decide)
          have zf3 := hz.frozen 3
          have zc3 := hz.cell (j := 3) (by decide)
          have zf4 := hz.frozen 4
          have zc4 := hz.cell (j := 4) (by decide)
          have zf5 := hz.frozen 5
          have zc5 := hz.cell (j := 5) (by decide)
          have zf6 := hz.frozen 6
          have zc6 := hz.cell (j := 6) (by decide)
          go_wp2_with (go_at_call 18; refine calls_to (within_any _ _ _ _) ?_)
          have KZ := set7_blk hz (.slice .none 0 0) (.slice .none 0 0) (.slice .none 0 0) (.slice .none 0 0) (.slice .none 0 0) (.slice .none 0 0) (.slice .none 0 0)
          have hbz := set7_below (b := w.heap.size + 2) hBw (by omega) (.slice .none 0 0) (.slice .none 0 0) (.slice .none 0 0) (.slice .none 0 0) (.slice .none 0 0) (.slice .none 0 0) (.slice .none 0 0)
          unfold set7 at KZ hbz
          obtain ⟨c0', c1', c2', c3', c4', c5', c6'⟩ := box_cells KZ
          refine bodyPost_ret (v := .tuple #[noneS.val, .int .i64 3]) (by simp [results, Tryz.results5, go_sem, noneS, St.val, c0', c1', c2', c3', c4', c5', c6']) rfl ?_
          exact ⟨noneS, by rw [HX.out]; rfl, noneS_at _, ⟨fun h => absurd h (HNE.out), fun _ => ⟨rfl, rfl, rfl, rfl, rfl, rfl, rfl⟩⟩, fun h => absurd h (HNE.out), hbz⟩
        · obtain ⟨b, rfl⟩ := Int.eq_ofNat_of_zero_le (inB_true k1).1
          obtain ⟨g, rfl⟩ := Int.eq_ofNat_of_zero_le (inB_true k2).1
          have hb : b < p.nb := by have := (inB_true k1).2; omega
          have hg : g < p.ns := by have := (inB_true k2).2; omega
          have sb := inB_true k3
          have K3 : Hid (inB seen 0 200 = true) := k3
          have son := HR.out.fm.sh.n
          have hbo : b < s.on.n := by omega
          have HLEN : Hid ((s.on.r b).n = p.ns) := HR.out.fm.sh.len b hbo
          obtain ⟨⟨onl, onc⟩, sfl, sfc⟩ := HSL.out
          unfold maxLen at onc sfc
          obtain ⟨bb, ob, hoa, hbb, e0, hrow⟩ := hsk.on.rows b hbo
          have HLG : g < (s.on.r b).n := by rw [HLEN.out]; exact hg
          obtain ⟨bg, og, hga, hbg, e1⟩ := hrow.ints g HLG
          have rl := hrow.le
          have rc := hrow.cap
          unfold maxLen at rc
          have sfn : g < s.sf.n := by rw [HR.out.fm.sfn]; exact hg
          obtain ⟨bf, of, hfa, hbf, e2⟩ := hsk.sf.ints g sfn
          have HOA : Hid (s.on.a = some ⟨bb, ob, none⟩) := hoa
          have HFA : Hid (s.sf.a = some ⟨bf, of, none⟩) := hfa
          rw [hoa] at c0
          rw [hga] at e0
          rw [hfa] at c6
          have q0 : (0 : Int) ≤ (b : Int) := by omega
          have q1 : (b : Int) < (s.on.n : Int) := by omega
          have q2 : (0 : Int) ≤ (g : Int) := by omega
          have q3 : (g : Int) < ((s.on.r b).n : Int) := by omega
          have q4 : (g : Int) < (s.sf.n : Int) := by omega
          have onb := HR.out.fm.sh.num b hbo g hg
          have sfb := HR.out.fm.sfb g hg
          obtain ⟨ON, hON⟩ : ∃ ON, (s.on.r b).z g = ON := ⟨_, rfl⟩
          obtain ⟨SF, hSF⟩ : ∃ SF, s.sf.z g = SF := ⟨_, rfl⟩
          have HV : Hid ((s.on.r b).z g = ON ∧ s.sf.z g = SF) := ⟨hON, hSF⟩
          rw [hON] at e1 onb
          rw [hSF] at e2 sfb
          clear hoa hga hfa hrow son hON hSF k1 k2 hpk hsk
          have rc0 := fun d os => cell_regrown c0 d os
          have rc6 := fun d os => cell_regrown c6 d os
          have re0 := fun d os => cell_regrown e0 d os
          have re1 := fun d os => cell_regrown e1 d os
          have re2 := fun d os => cell_regrown e2 d os
          have hwi : Hid (∀ wk, Calls Tryz.prog 18 #[.int .i64 (SF + seen - ON), .int .i64 (-1048576), .int .i64 1048576] wk fun e w' => e = .returned (.bool (inB (SF + seen - ON) (-1048576) 1048576)) ∧ Below wk.heap.size wk w') := fun wk => within_bel _ _ _ wk
          go_wp2_with (go_at_call 18; refine calls_to (within_any _ _ _ _) ?_)
          refine wp_region_quiet_below (by kernel_rfl) (by kernel_rfl) ?_
          repeat (go_big_quiet_step ((go_at_call 18; exact Calls.regrown_of (hwi.out _))))
          refine wpQuiet_nil ?_
          intro w4 hwq
          have hBq := below_of_regrown hwq
          have hB := hB.trans (hBq.mono hB.size)
          clear hwq hBq rc0 rc6 re0 re1 re2 hwi l1 d0 d1 l2 c0 c1 c2 c3 c4 c5 c6 hBw hz hbb e0 hbg e1 hbf e2 k3
          rw [← HOA.out, ← HFA.out]
          obtain ⟨⟨⟨l1, d0, d1⟩, l2, c0, c1, c2, c3, c4, c5, c6⟩, hpk, hsk, hBw, hz⟩ := HC.out w4 hB
          cases h3 : inB (SF + seen - ON) (-1048576) 1048576
          · have HX : Hid (countE p s b g seen = 2) := countE_many H0.out hb hg K3.out (by rw [HV.out.1, HV.out.2, ← Int.add_sub_assoc]; exact h3)
            have HNE : Hid (¬ countE p s b g seen = 0) := by show ¬ _; rw [HX.out]; decide
            clear hpk hsk
            have zl := hz.lt
            have zf0 := hz.frozen 0
            have zc0 := hz.cell (j := 0) (by decide)
            have zf1 := hz.frozen 1
            have zc1 := hz.cell (j := 1) (by decide)
            have zf2 := hz.frozen 2
            have zc2 := hz.cell (j := 2) (by decide)
            have zf3 := hz.frozen 3
            have zc3 := hz.cell (j := 3) (by decide)
            have zf4 := hz.frozen 4
            have zc4 := hz.cell (j := 4) (by decide)
            have zf5 := hz.frozen 5
            have zc5 := hz.cell (j := 5) (by decide)
            have zf6 := hz.frozen 6
            have zc6 := hz.cell (j := 6) (by decide)
            go_wp2_with fail
            have KZ := set7_blk hz (.slice .none 0 0) (.slice .none 0 0) (.slice .none 0 0) (.slice .none 0 0) (.slice .none 0 0) (.slice .none 0 0) (.slice .none 0 0)
            have hbz := set7_below (b := w.heap.size + 2) hBw (by omega) (.slice .none 0 0) (.slice .none 0 0) (.slice .none 0 0) (.slice .none 0 0) (.slice .none 0 0) (.slice .none 0 0) (.slice .none 0 0)
            unfold set7 at KZ hbz
            obtain ⟨c0', c1', c2', c3', c4', c5', c6'⟩ := box_cells KZ
            refine bodyPost_ret (v := .tuple #[noneS.val, .int .i64 2]) (by simp [results, Tryz.results5, go_sem, noneS, St.val, c0', c1', c2', c3', c4', c5', c6']) rfl ?_
            exact ⟨noneS, by rw [HX.out]; rfl, noneS_at _, ⟨fun h => absurd h (HNE.out), fun _ => ⟨rfl, rfl, rfl, rfl, rfl, rfl, rfl⟩⟩, fun h => absurd h (HNE.out), hbz⟩
          · have HCI : Hid (CountIn p s b g seen) := countIn_of H0.out hb hg K3.out (by rw [HV.out.1, HV.out.2, ← Int.add_sub_assoc]; exact h3)
            have HX : Hid (countE p s b g seen = 0) := countE_of HCI.out
            have HOS : Hid (Calls Tryz.prog 19 #[s.val] w4 fun e w' => ∃ s' : St, e = .returned s'.val ∧ SameT s' s ∧ OwnS w4.heap.size w' s' ∧ Below w4.heap.size w4 w') := OwnState_any p s w4 hsk HR.out.fm
            clear hpk hsk hBw hz h3 HOA HFA
            go_wp2_with fail
            refine Calls.mono HOS.out ?_
            rintro e w5 ⟨o, rfl, hsame, hown, hB5⟩
            clear HOS l1 d0 d1 l2 c0 c1 c2 c3 c4 c5 c6
            have A0 : W0.heap.size ≤ w4.heap.size := hB.size
            have A2 : w4.heap.size ≤ w5.heap.size := hB5.size
            have HLOW : Hid (w.heap.size ≤ W0.heap.size) := (HC.out _ (Below.refl _ _)).2.2.2.1.size
            obtain ⟨W6, hW6, hWB6, K6⟩ : ∃ W, w5.alloc (.cells #[.slice o.on.a o.on.n o.on.c, .slice o.os.a o.os.n o.os.c, .slice o.hs.a o.hs.n o.hs.c, .slice o.ms.a o.ms.n o.ms.c, .slice o.si.a o.si.n o.si.c, .slice o.so.a o.so.n o.so.c, .slice o.sf.a o.sf.n o.sf.c] 31) = W ∧ Below w5.heap.size w5 W ∧ Blk W w5.heap.size 31 7 (fun j => o.cells.getD j default) := ⟨_, rfl, (Below.refl _ _).alloc (Nat.le_refl _) _, Blk.mk' rfl rfl⟩
            have HW6 : Hid (w5.alloc (.cells #[.slice o.on.a o.on.n o.on.c, .slice o.os.a o.os.n o.os.c, .slice o.hs.a o.hs.n o.hs.c, .slice o.ms.a o.ms.n o.ms.c, .slice o.si.a o.si.n o.si.c, .slice o.so.a o.so.n o.so.c, .slice o.sf.a o.sf.n o.sf.c] 31) = W6) := hW6
            have hB46 := hB5.trans (hWB6.mono hB5.size)
            have hB06 := hB.trans (hB46.mono hB.size)
            have HK6 : Hid (RelK w4.heap.size w5.heap.size W0 o W6) := ⟨OwnS.below hown hWB6, K6, hB06, hB46.size⟩
            have HS0 : Hid (SameT o s) := hsame
            have x0b : b < o.on.n := by rw [hsame.on.1]; exact hbo
            have x0g : g < (o.on.r b).n := by rw [(hsame.on.2 b x0b).1]; exact HLG
            have x0s : g < o.sf.n := by rw [hsame.sf.1]; exact sfn
            have HOV : Hid ((o.on.r b).z g = ON ∧ o.sf.z g = SF) := ⟨(hsame.num HR.out.fm hb hg).trans HV.out.1, (hsame.sf.2 g x0s).trans HV.out.2⟩
            clear hW6 hWB6 K6 hB46 hB06 hown hB5 hB hsame
            simp only [St.val]
            -- what was fixed
            obtain ⟨g0, G, a1, a2, a3, a4, a5, a6, a7, a8, a9, a10, a11, a12⟩ := HK6.out.own.onCell x0b x0g
            obtain ⟨Gs, s1, s2, s3, s4, s5, s6, s7⟩ := HK6.out.own.sf.cellAt x0s
            unfold maxLen at a8 a12 s5
            rw [HOV.out.1] at a9
            rw [HOV.out.2] at s6
            have HGA : Hid ((o.on.r b).a = some ⟨G, 0, none⟩ ∧ o.sf.a = some ⟨Gs, 0, none⟩ ∧ o.on.a = some ⟨g0, 0, none⟩) := ⟨a4, s1, a1⟩
            have u0 : W6.cell? ⟨w5.heap.size, 0, none⟩ = some (.slice o.on.a o.on.n o.on.c) := HK6.out.box.cell (j := 0) (by decide)
            have u6 : W6.cell? ⟨w5.heap.size, 6, none⟩ = some (.slice o.sf.a o.sf.n o.sf.c) := HK6.out.box.cell (j := 6) (by decide)
            have ul := HK6.out.box.lt
            rw [a1] at u0
            rw [s1] at u6
            have q5 : (b : Int) < (o.on.n : Int) := by omega
            have q6 : (g : Int) < ((o.on.r b).n : Int) := by omega
            have q7 : (g : Int) < (o.sf.n : Int) := by omega
            clear a1 a4 a10 s1
            rw [← HW6.out] at u0 u6 ul a2 a3 a6 a9 s3 s6
            go_wp2_with fail
            rw [HW6.out] at u0 u6 ul a2 a3 a6 a9 s3 s6 ⊢
            clear HW6
            generalize w5.heap.size = B7 at *
            have ru0 := fun d os => cell_regrown u0 d os
            have ru6 := fun d os => cell_regrown u6 d os
            have ra3 := fun d os => cell_regrown a3 d os
            have ra9 := fun d os => cell_regrown a9 d os
            have rs6 := fun d os => cell_regrown s6 d os
            refine wp_region_ph [(true, [0, 1, 2, 3, 4, 5, 6, 7, 8, 9, 10, 11, 12, 13, 14, 15, 16, 17, 18, 19], some 20)] (by kernel_rfl) (by kernel_rfl) (by kernel_rfl) (by kernel_rfl) (by kernel_rfl) ?_
            refine ⟨fun w' => ∃ p : Regrown, w' = grow (redrawn W6 p.d) p.os, regrown_of_below ((Below.refl _ _).drew), fun h => (by cases h), ?_⟩
            simp only [picks, List.drop_succ_cons, List.drop_zero, List.take_succ_cons, List.take_zero, List.cons_append, List.nil_append]
            repeat (go_big_quiet_step (fail))
            refine wpQuiet_nil ?_
            clear ru0 ru6 ra3 ra9 rs6 u0 u6 ul a2 a3 a6 a9 s3 s6
            have hBd : Below W6.heap.size W6 W6.drew := (Below.refl _ _).drew
            generalize W6.drew = wj at *
            have HKj : Hid (RelK w4.heap.size B7 W0 o wj) := HK6.out.below hBd
            clear HK6 hBd
            obtain ⟨Gq, t1, t2, t3, t4, t5, t6, t7⟩ := HKj.out.own.sf.cellAt x0s
            have eG : Gq = Gs := by rw [HGA.out.2.1] at t1; simpa using t1.symm
            subst eG
            have t8 := t7 g
            have HK7 : Hid (RelK w4.heap.size B7 W0 (setFix o g (SF + seen - ON)) (wj.setCell ⟨Gq, g, none⟩ (.int .i64 (SF + seen - ON)))) := HKj.out.setFix A0 HGA.out.2.1 g (SF + seen - ON)
            clear t1 t7 HKj
            refine wpOp_one 20 rfl ?_
            go_wp2_with fail
            refine NoPanic.normal ?_
            clear t2 t3 t4 t5 t6 t8
            generalize wj.setCell ⟨Gq, g, none⟩ (.int .i64 (SF + seen - ON)) = W7 at *
            -- what lies there
            obtain ⟨g0', G', a1, a2, a3, a4, a5, a6, a7, a8, a9, a10, a11, a12⟩ := HK7.out.own.onCell (s := setFix o g (SF + seen - ON)) x0b x0g
            have u0 : W7.cell? ⟨B7, 0, none⟩ = some (.slice o.on.a o.on.n o.on.c) := HK7.out.box.cell (j := 0) (by decide)
            have ul := HK7.out.box.lt
            have a1' : o.on.a = some ⟨g0', 0, none⟩ := a1
            have a4' : (o.on.r b).a = some ⟨G', 0, none⟩ := a4
            rw [a1'] at u0
            have a13 := a10 g
            have HK8 : Hid (RelK w4.heap.size B7 W0 (setOn (setFix o g (SF + seen - ON)) b g seen) (W7.setCell ⟨G', g, none⟩ (.int .i64 seen))) := HK7.out.setOn A0 (b := b) x0b a4 g seen
            have HCJ : Hid (CutJ s b g seen 0 (setOn (setFix o g (SF + seen - ON)) b g seen)) := by
              have h := CutJ.start (seen := seen) HR.out hb hg HS0.out
              have e : fixOn o b g seen = setOn (setFix o g (SF + seen - ON)) b g seen := by
                unfold fixOn
                rw [HOV.out.1, HOV.out.2, ← Int.add_sub_assoc]
                rfl
              rw [e] at h
              exact h
            unfold maxLen at a8 a12
            have A3 : W0.heap.size ≤ W7.heap.size := HK7.out.bel.size
            clear a1 a4 a1' a4' a10 HK7
            obtain ⟨x2, hx2⟩ : ∃ x2, setOn (setFix o g (SF + seen - ON)) b g seen = x2 := ⟨_, rfl⟩
            rw [hx2] at HK8 HCJ
            clear hx2
            obtain ⟨W9, hW9, hWB9, K9⟩ : ∃ W, (W7.setCell ⟨G', g, none⟩ (.int .i64 seen)).alloc (.cells #[.int .i64 0, .int .i64 0, .int .i64 0, .int .i64 0, .int .i64 0, .int .i64 0, .int .i64 0, .int .i64 0, .int .i64 0, .int .i64 0, .int .i64 0, .int .i64 0] 53) = W ∧ Below (W7.setCell ⟨G', g, none⟩ (.int .i64 seen)).heap.size (W7.setCell ⟨G', g, none⟩ (.int .i64 seen)) W ∧ Blk W W7.heap.size 53 12 (cutF (cutQs s b g 0)) :=
              ⟨_, rfl, (Below.refl _ _).alloc (Nat.le_refl _) _, (Blk.mk' (cur := #[.int .i64 0, .int .i64 0, .int .i64 0, .int .i64 0, .int .i64 0, .int .i64 0, .int .i64 0, .int .i64 0, .int .i64 0, .int .i64 0, .int .i64 0, .int .i64 0]) (by simp) rfl).congr (fun j hj => by
                unfold cutF
                rw [cutQs_zero HR.out]
                match j, hj with
                | 0, _ => rfl
                | 1, _ => rfl
                | 2, _ => rfl
                | 3, _ => rfl
                | 4, _ => rfl
                | 5, _ => rfl
                | 6, _ => rfl
                | 7, _ => rfl
                | 8, _ => rfl
                | 9, _ => rfl
                | 10, _ => rfl
                | 11, _ => rfl)⟩
            have HW9 : Hid ((W7.setCell ⟨G', g, none⟩ (.int .i64 seen)).alloc (.cells #[.int .i64 0, .int .i64 0, .int .i64 0, .int .i64 0, .int .i64 0, .int .i64 0, .int .i64 0, .int .i64 0, .int .i64 0, .int .i64 0, .int .i64 0, .int .i64 0] 53) = W9) := hW9
            have HI0 : Hid (CoI w4.heap.size B7 W7.heap.size W0 s b g seen 0 x2 W9) := ⟨HK8.out.below hWB9, K9, HCJ.out, Int.le_refl _, HCI.out.miss0⟩
            clear hW9 hWB9 K9 HK8 HCJ
            go_wp2_with fail
            rw [HW9.out]
            clear HW9 u0 ul a2 a3 a6 a9 a13 a5 a7 a8 a11 a12
            generalize W7.heap.size = BC at *
            have bnd := HCI.out.bound
            obtain ⟨leastN, hl1, hl2⟩ := leasts
            have HL1 : Hid (∀ p : Nat → Prop, (∃ n, p n) → p (leastN p)) := hl1
            have HL2 : Hid (∀ (p : Nat → Prop) (n : Nat), p n → leastN p ≤ n) := hl2
            clear hl1 hl2
            go_loopw [] (fun wk => ∃ n : Nat, Hid (CoN w4.heap.size B7 BC W0 s b g seen wk n)) (fun wk => leastN (CoN w4.heap.size B7 BC W0 s b g seen wk))
            case atStart => exact ⟨_, HI0.out.num⟩
            case round =>
              obtain ⟨n0, HN0⟩ := hrel
              clear HI0
              obtain ⟨J, x, hJ, hI⟩ := HL1.out _ ⟨n0, HN0.out⟩
              have HJ : Hid (J = missZ s b g seen - (leastN (CoN w4.heap.size B7 BC W0 s b g seen wr) : Nat)) := hJ
              have HI : Hid (CoI w4.heap.size B7 BC W0 s b g seen J x wr) := hI
              have j0 := hI.j0
              have jm := hI.jm
              have HF : Hid (Formed p x) := CutJ.formed HCI.out hI.j0 hI.cj
              have HBV : Hid (heldTo x b g x.hs.n + fromTo x b g x.ms.n = boundZ s b g - J) := CutJ.boundJ HCI.out hI.j0 (by have h := hI.jm; unfold missZ at h; omega) hI.cj
              clear HN0 hJ hI n0
              obtain ⟨m1, p0, p1, p2, p3, p4, p5, p6⟩ := Boxed.of HI.out.rel.box
              go_wp2_with fail
              clear m1 p0 p1 p2 p3 p4 p5 p6
              refine (bound_any p x b g wr HI.out.rel.own.at HF.out).mono ?_
              rintro e wa ⟨rfl, hBa⟩
              rw [HBV.out]
              have HIa : Hid (CoI w4.heap.size B7 BC W0 s b g seen J x wa) := HI.out.below hBa
              have HLE : Hid (∀ (n : Nat) (wk : World), CoN w4.heap.size B7 BC W0 s b g seen wk n → (n : Int) < missZ s b g seen - J → leastN (CoN w4.heap.size B7 BC W0 s b g seen wk) < leastN (CoN w4.heap.size B7 BC W0 s b g seen wr)) := fun n wk h hn => by
                have a := HL2.out _ _ h
                have c := HJ.out
                omega
              clear HI hBa HJ
              obtain ⟨BZ, hBZ⟩ : ∃ BZ, boundZ s b g - J = BZ := ⟨_, rfl⟩
              have bz0 : -100000 ≤ BZ ∧ BZ ≤ 100000 := by
                have h1 := (heldTo_bd (s := s) (b := b) (g := g) (n := s.hs.n) HR.out.fm.holdN)
                have h2 := (fromTo_bd (s := s) (b := b) (g := g) (n := s.ms.n) HR.out.fm.moveN)
                have h3 := HR.out.fm.hs72
                have h4 := HR.out.fm.ms8
                unfold missZ at jm
                unfold boundZ at hBZ jm
                omega
              have HBE : Hid (heldTo x b g x.hs.n + fromTo x b g x.ms.n = BZ) := HBV.out.trans hBZ
              clear HBV
              rw [hBZ]
              by_cases hd : J < missZ s b g seen
              · have q8 : seen < BZ := by unfold missZ at hd; omega
                clear hBZ
                obtain ⟨m1, p0, p1, p2, p3, p4, p5, p6⟩ := Boxed.of HIa.out.rel.box
                go_wp2_with fail
                clear m1 p0 p1 p2 p3 p4 p5 p6
                refine (lastMove_any x b g wa HIa.out.rel.own.at).mono ?_
                rintro e wb ⟨rfl, hBb⟩
                have HIb : Hid (CoI w4.heap.size B7 BC W0 s b g seen J x wb) := HIa.out.below hBb
                clear HIa hBb
                cases hl : lastI (fromF b g) x.ms.z x.ms.n with
                | none =>
                  have LV : lastV (fromF b g) x.ms.z x.ms.n = -1 := by unfold lastV; rw [hl]
                  rw [LV]
                  have HL : Hid (lastI (fromF b g) x.ms.z x.ms.n = none) := hl
                  obtain ⟨k, hk0⟩ : ∃ k, lastI (heldF x b g) x.hs.z x.hs.n = some k := by
                    cases hq : lastI (heldF x b g) x.hs.z x.hs.n with
                    | some k => exact ⟨k, rfl⟩
                    | none =>
                      have h1 := last_none_sum hq
                      have h2 := last_none_sum hl
                      have h3 := held_sum x b g x.hs.n
                      have h4 := from_sum x b g x.ms.n
                      have h5 := HBE.out
                      omega
                  have HH : Hid (lastI (heldF x b g) x.hs.z x.hs.n = some k) := hk0
                  obtain ⟨hk, hfk⟩ := last_lt hk0
                  have hfk' := heldF_iff.1 hfk
                  obtain ⟨t1, t2, t3⟩ := homeless_no (HF.out.home k hk)
                  obtain ⟨ho, hho⟩ := Int.eq_ofNat_of_zero_le t1.1
                  obtain ⟨lh, hhl⟩ := Int.eq_ofNat_of_zero_le t2.1
                  rw [hho] at t1 t2
                  rw [hhl] at t2
                  have on : ho < x.os.n := t1.2
                  have ln : lh < (x.os.z ho).ls.n := t2.2
                  have o4 : ho < 4 := by have := HF.out.os4; omega
                  have l3 : lh < 3 := by have := (HF.out.lns ho on).2; omega
                  obtain ⟨ZN, hZN⟩ : ∃ ZN, (x.hs.z k).n = ZN := ⟨_, rfl⟩
                  have zn := HF.out.holdN k hk
                  rw [hZN] at zn
                  have HZ : Hid (x.hs.z k = ⟨(ho : Int), (lh : Int), (b : Int), ZN⟩) := by
                    show x.hs.z k = _
                    rw [← hho, ← hhl, ← hZN, ← hfk'.1]
                  have hsc := HIb.out.rel.own.hs.2.1
                  have hsl := HIb.out.rel.own.hs.1
                  have h72 := HF.out.hs72
                  unfold maxLen at hsc
                  obtain ⟨Gh, hGh, -, hb4⟩ := HIb.out.rel.own.hs.2.2.2 (show 0 < x.hs.n by omega)
                  have HGH : Hid (x.hs.a = some ⟨Gh, 0, none⟩) := hGh
                  have HHC : Hid (∀ wk, Below wb.heap.size wb wk → wk.cell? ⟨Gh, k * 4, none⟩ = some (.int .i64 (ho : Int)) ∧ wk.cell? ⟨Gh, k * 4 + 1, none⟩ = some (.int .i64 (lh : Int)) ∧ wk.cell? ⟨Gh, k * 4 + 2, none⟩ = some (.int .i64 (b : Int)) ∧ wk.cell? ⟨Gh, k * 4 + 3, none⟩ = some (.int .i64 ZN) ∧ Gh < wk.heap.size) := fun wk hB => by
                    have h := hb4.below hB
                    have z := HZ.out
                    have e : ∀ c, c < 4 → (flatH x.hs.n x.hs.z).getD (k * 4 + c) default = (hdCells (⟨(ho : Int), (lh : Int), (b : Int), ZN⟩ : Hd)).getD c default := fun c hc => by rw [flatH_at (z := x.hs.z) hk hc, z]
                    exact ⟨(h.cell (j := k * 4) (by show _ < x.hs.n * 4; omega)).trans (congrArg some (e 0 (by decide))), (h.cell (j := k * 4 + 1) (by show _ < x.hs.n * 4; omega)).trans (congrArg some (e 1 (by decide))), (h.cell (j := k * 4 + 2) (by show _ < x.hs.n * 4; omega)).trans (congrArg some (e 2 (by decide))), (h.cell (j := k * 4 + 3) (by show _ < x.hs.n * 4; omega)).trans (congrArg some (e 3 (by decide))), h.lt⟩
                  clear LV hl hk0 hfk hfk' t1 t2 t3 hho hhl hZN hb4
                  obtain ⟨m1, p0, p1, p2, p3, p4, p5, p6⟩ := Boxed.of HIb.out.rel.box
                  rw [hGh] at p2
                  clear hGh
                  have q0 : (0 : Int) ≤ (k : Int) := by omega
                  have q1 : (k : Int) < (x.hs.n : Int) := by omega
                  have rp0 := fun d os => cell_regrown p0 d os
                  have rp1 := fun d os => cell_regrown p1 d os
                  have rp2 := fun d os => cell_regrown p2 d os
                  have rp3 := fun d os => cell_regrown p3 d os
                  have rp4 := fun d os => cell_regrown p4 d os
                  have rp5 := fun d os => cell_regrown p5 d os
                  have rp6 := fun d os => cell_regrown p6 d os
                  go_wp2_with fail
                  refine wp_region_made5 (fun w' => ∃ p : Regrown, w' = grow (redrawn wb p.d) p.os) [0, 1, 2, 3, 4] [5, 6, 7, 8] [(true, 9)] (by kernel_rfl) (by kernel_rfl) (by kernel_rfl) (by kernel_rfl) (by kernel_rfl) (by kernel_rfl) (by kernel_rfl) (by kernel_rfl) (by kernel_rfl) (regrown_of_below ((Below.refl _ _).drew)) ?_
                  simp only [picks, List.drop_succ_cons, List.drop_zero, List.take_succ_cons, List.take_zero, List.cons_append, List.nil_append]
                  repeat (go_big_quiet_step (fail))
                  refine wpQuiet_nil ?_
                  clear rp0 rp1 rp2 rp3 rp4 rp5 rp6 m1 p0 p1 p2 p3 p4 p5 p6
                  refine ⟨fun j v gg wk => (j = 5 → v = .int .i64 (k : Int) ∧ gg = []) ∧ (j = 6 → v = .pointer (some ⟨Gh, k * 4, none⟩) ∧ gg = []) ∧ (j = 7 → v = .agg #[.int .i64 (ho : Int), .int .i64 (lh : Int), .int .i64 (b : Int), .int .i64 ZN] ∧ gg = []) ∧ (j = 8 → ∃ B, v = .pointer (some ⟨B, 0, none⟩) ∧ gg = [B] ∧ wb.heap.size ≤ B ∧ Blk wk B 58 4 (fun _ => .int .i64 0)),
                    List.forall_mem_cons.2 ⟨fun v g w w' hB h => ⟨h.1, fun e => absurd e (by decide), fun e => absurd e (by decide), fun e => absurd e (by decide)⟩, List.forall_mem_cons.2 ⟨fun v g w w' hB h => ⟨fun e => absurd e (by decide), h.2.1, fun e => absurd e (by decide), fun e => absurd e (by decide)⟩, List.forall_mem_cons.2 ⟨fun v g w w' hB h => ⟨fun e => absurd e (by decide), fun e => absurd e (by decide), h.2.2.1, fun e => absurd e (by decide)⟩, List.forall_mem_cons.2 ⟨fun v g w w' hB h => ⟨fun e => absurd e (by decide), fun e => absurd e (by decide), fun e => absurd e (by decide), fun e => (by obtain ⟨B, h1, h2, h3, h4⟩ := h.2.2.2 e; exact ⟨B, h1, h2, h3, h4.below hB⟩)⟩, List.forall_mem_nil _⟩⟩⟩⟩,
                    List.forall_mem_cons.2 ⟨fun v g w h => (by rw [(h.1 rfl).2]; intro x hx; cases hx), List.forall_mem_cons.2 ⟨fun v g w h => (by rw [(h.2.1 rfl).2]; intro x hx; cases hx), List.forall_mem_cons.2 ⟨fun v g w h => (by rw [(h.2.2.1 rfl).2]; intro x hx; cases hx), List.forall_mem_cons.2 ⟨fun v g w h => (by obtain ⟨B, -, h2, -, h4⟩ := h.2.2.2 rfl; rw [h2]; intro x hx; rw [List.mem_singleton] at hx; rw [hx]; exact h4.lt), List.forall_mem_nil _⟩⟩⟩⟩,
                    List.forall_mem_cons.2 ⟨?zt5, List.forall_mem_cons.2 ⟨?zt6, List.forall_mem_cons.2 ⟨?zt7, List.forall_mem_cons.2 ⟨?zt8, List.forall_mem_nil _⟩⟩⟩⟩, ?ztdone⟩
                  case zt5 =>
                    intro V G wk K hS hd hK
                    have hX := below_of_regrown hS
                    have HXX : Hid (Below wb.heap.size wb wk) := hX
                    have HLH : Hid (lastV (heldF x b g) x.hs.z x.hs.n = (k : Int)) := by show _ = _; unfold lastV; rw [HH.out]
                    have HLC : Hid (Calls Tryz.prog 22 #[.agg #[.slice x.on.a x.on.n x.on.c, .slice x.os.a x.os.n x.os.c, .slice (some ⟨Gh, 0, none⟩) x.hs.n x.hs.c, .slice x.ms.a x.ms.n x.ms.c, .slice x.si.a x.si.n x.si.c, .slice x.so.a x.so.n x.so.c, .slice x.sf.a x.sf.n x.sf.c], .int .i64 (b : Int), .int .i64 (g : Int)] wk fun e w' => e = .returned (.int .i64 (k : Int)) ∧ Below wk.heap.size wk w') := by
                      have h := lastHold_any p x b g wk (HIb.out.rel.below HXX.out).own.at HF.out
                      rw [St.val, HGH.out, HLH.out] at h
                      exact h
                    refine wpOp_list 5 rfl ?_
                    simp only [putAll, dstOf, List.getElem?_toArray, List.getElem?_cons_succ, List.getElem?_cons_zero, Act.put, List.setIfInBounds_toArray, List.set_cons_succ, List.set_cons_zero] at hK ⊢
                    go_wp2_with fail
                    refine Calls.mono HLC.out ?_
                    rintro e wj ⟨rfl, hBj⟩
                    have HXJ : Hid (Below wb.heap.size wb wj ∧ Below wk.heap.size wk wj) := ⟨HXX.out.trans (hBj.mono HXX.out.size), hBj⟩
                    clear hBj
                    go_wp2_with fail
                    exact hK _ [] _ (regrown_of_below HXJ.out.1) HXJ.out.2 (fun x hx => (by cases hx)) ⟨fun _ => ⟨rfl, rfl⟩, fun e => absurd e (by decide), fun e => absurd e (by decide), fun e => absurd e (by decide)⟩
                  case zt6 =>
                    intro V G wk K hS hd hK
                    have hX := below_of_regrown hS
                    have hd5 := ((hd 5 (List.contains_iff_mem.1 (by kernel_rfl)) (by simp)).1 rfl).1
                    refine wpOp_list 6 rfl ?_
                    simp only [putAll, dstOf, List.getElem?_toArray, List.getElem?_cons_succ, List.getElem?_cons_zero, Act.put, List.setIfInBounds_toArray, List.set_cons_succ, List.set_cons_zero, hd5] at hK ⊢
                    go_wp2_with fail
                    exact hK _ [] _ hS (Below.refl _ _) (fun x hx => (by cases hx)) ⟨fun e => absurd e (by decide), fun _ => ⟨rfl, rfl⟩, fun e => absurd e (by decide), fun e => absurd e (by decide)⟩
                  case zt7 =>
                    intro V G wk K hS hd hK
                    have hX := below_of_regrown hS
                    have hd6 := ((hd 6 (List.contains_iff_mem.1 (by kernel_rfl)) (by simp)).2.1 rfl).1
                    obtain ⟨y0, y1, y2, y3, y4⟩ := HHC.out wk hX
                    refine wpOp_list 7 rfl ?_
                    simp only [putAll, dstOf, List.getElem?_toArray, List.getElem?_cons_succ, List.getElem?_cons_zero, Act.put, List.setIfInBounds_toArray, List.set_cons_succ, List.set_cons_zero, hd6] at hK ⊢
                    go_wp2_with fail
                    exact hK _ [] _ hS (Below.refl _ _) (fun x hx => (by cases hx)) ⟨fun e => absurd e (by decide), fun e => absurd e (by decide), fun _ => ⟨rfl, rfl⟩, fun e => absurd e (by decide)⟩
                  case zt8 =>
                    intro V G wk K hS hd hK
                    have hX := below_of_regrown hS
                    refine wpOp_list 8 rfl ?_
                    simp only [putAll, dstOf, List.getElem?_toArray, List.getElem?_cons_succ, List.getElem?_cons_zero, Act.put, List.setIfInBounds_toArray, List.set_cons_succ, List.set_cons_zero] at hK ⊢
                    go_wp2_with fail
                    exact hK _ [wk.heap.size] _ (regrown_of_below (hX.alloc hX.size _)) ((Below.refl _ _).alloc (Nat.le_refl _) _) (fun x hx => (by rw [List.mem_singleton] at hx; omega)) ⟨fun e => absurd e (by decide), fun e => absurd e (by decide), fun e => absurd e (by decide), fun _ => ⟨wk.heap.size, rfl, rfl, hX.size, (Blk.mk' (cur := #[.int .i64 0, .int .i64 0, .int .i64 0, .int .i64 0]) rfl rfl).congr (fun j hj => by match j, hj with | 0, _ => rfl | 1, _ => rfl | 2, _ => rfl | 3, _ => rfl)⟩⟩
                  case ztdone =>
                    intro V G' wk hS hD hA
                    have h5v := ((hD 5 (by simp)).1 rfl).1
                    have h6v := ((hD 6 (by simp)).2.1 rfl).1
                    have h7v := ((hD 7 (by simp)).2.2.1 rfl).1
                    obtain ⟨BH, h1v, h1g, h1l, h1b⟩ := (hD 8 (by simp)).2.2.2 rfl
                    have hX := below_of_regrown hS
                    have HXX : Hid (Below wb.heap.size wb wk) := hX
                    clear hS hD hA h1g
                    simp only [putAll, dstOf, List.getElem?_toArray, List.getElem?_cons_succ, List.getElem?_cons_zero, Act.put, List.setIfInBounds_toArray, List.set_cons_succ, List.set_cons_zero, h1v, h5v, h6v, h7v]
                    have z1 := h1b.lt
                    have z1f0 := h1b.frozen 0
                    have z1f1 := h1b.frozen 1
                    have z1f2 := h1b.frozen 2
                    have z1f3 := h1b.frozen 3
                    have z1c0 := h1b.cell (j := 0) (by decide)
                    have z1c1 := h1b.cell (j := 1) (by decide)
                    have z1c2 := h1b.cell (j := 2) (by decide)
                    have z1c3 := h1b.cell (j := 3) (by decide)
                    have K1 := (((h1b.set 0 (.int .i64 (ho : Int))).set 1 (.int .i64 (lh : Int))).set 2 (.int .i64 (b : Int))).set 3 (.int .i64 ZN)
                    have HW1 : Hid (Blk ((((wk.setCell ⟨BH, 0, none⟩ (.int .i64 (ho : Int))).setCell ⟨BH, 1, none⟩ (.int .i64 (lh : Int))).setCell ⟨BH, 2, none⟩ (.int .i64 (b : Int))).setCell ⟨BH, 3, none⟩ (.int .i64 ZN)) BH 58 4 (fun j => (#[.int .i64 (ho : Int), .int .i64 (lh : Int), .int .i64 (b : Int), .int .i64 ZN] : Array Value).getD j default) ∧ Below wb.heap.size wb ((((wk.setCell ⟨BH, 0, none⟩ (.int .i64 (ho : Int))).setCell ⟨BH, 1, none⟩ (.int .i64 (lh : Int))).setCell ⟨BH, 2, none⟩ (.int .i64 (b : Int))).setCell ⟨BH, 3, none⟩ (.int .i64 ZN))) := ⟨K1.congr (fun j hj => by match j, hj with | 0, _ => rfl | 1, _ => rfl | 2, _ => rfl | 3, _ => rfl), (((hX.setCell (p := ⟨BH, 0, none⟩) h1l (.int .i64 (ho : Int))).setCell (p := ⟨BH, 1, none⟩) h1l (.int .i64 (lh : Int))).setCell (p := ⟨BH, 2, none⟩) h1l (.int .i64 (b : Int))).setCell (p := ⟨BH, 3, none⟩) h1l (.int .i64 ZN)⟩
                    clear K1 h1b hX
                    refine wpSeq_one 9 rfl ?_
                    go_wp2_with fail
                    refine ⟨Late.yes, ?_⟩
                    clear z1 z1f0 z1f1 z1f2 z1f3 z1c0 z1c1 z1c2 z1c3
                    generalize ((((wk.setCell ⟨BH, 0, none⟩ (.int .i64 (ho : Int))).setCell ⟨BH, 1, none⟩ (.int .i64 (lh : Int))).setCell ⟨BH, 2, none⟩ (.int .i64 (b : Int))).setCell ⟨BH, 3, none⟩ (.int .i64 ZN)) = wc at *
                    have HIc : Hid (CoI w4.heap.size B7 BC W0 s b g seen J x wc) := HIb.out.below HW1.out.2
                    have HBH : Hid (Blk wc BH 58 4 (fun j => (#[.int .i64 (ho : Int), .int .i64 (lh : Int), .int .i64 (b : Int), .int .i64 ZN] : Array Value).getD j default)) := HW1.out.1
                    clear HIb HW1 HXX HHC
                    refine NoPanic.normal ?_
                    have hr := HF.out.hold
                    have HWI : Hid (Calls Tryz.prog 23 #[.slice (some ⟨Gh, 0, none⟩) x.hs.n x.hs.c, .int .i64 (ho : Int), .int .i64 (lh : Int), .int .i64 (b : Int), .int .i64 (ZN - 1)] wc fun e w' => ∃ m : Hs, e = .returned (.slice m.a m.n m.c) ∧ OwnH wc.heap.size 58 w' m ∧ OneCut x.hs m k ∧ Below wc.heap.size wc w') := by
                      have hz := HZ.out
                      have hat := HIc.out.rel.own.hs.at
                      have ek : keyH (x.hs.z k) = keyH (⟨(ho : Int), (lh : Int), (b : Int), ZN - 1⟩ : Hd) := by rw [hz]; rfl
                      have rg : rngH (⟨(ho : Int), (lh : Int), (b : Int), ZN - 1⟩ : Hd) := by have h := rng_of (right_fine hr k hk); rw [hz] at h; exact h
                      have lo : ∀ j, j < k → keyH (x.hs.z j) < keyH (⟨(ho : Int), (lh : Int), (b : Int), ZN - 1⟩ : Hd) := fun j hj => by rw [← ek]; exact right_lt hr j k hj hk
                      have hi2 : ∀ j, k < j → j < x.hs.n → keyH (⟨(ho : Int), (lh : Int), (b : Int), ZN - 1⟩ : Hd) < keyH (x.hs.z j) := fun j h1 h2 => by rw [← ek]; exact right_lt hr k j h1 h2
                      by_cases c : ZN = 1
                      · have h := with_dropO x.hs ⟨(ho : Int), (lh : Int), (b : Int), ZN - 1⟩ k wc hat hr rg hk ek (by show ZN - 1 = 0; omega) lo hi2
                        rw [Hs.val, HGH.out] at h
                        refine h.mono fun e w' => ?_
                        rintro ⟨m, h1, h2, h3, h4, h5⟩
                        refine ⟨m, h1, h2, ?_, h5⟩
                        unfold OneCut
                        rw [hz, if_pos (show ZN = 1 from c)]
                        exact ⟨h3, fun i _ => by rw [h4]⟩
                      · have h := with_setO x.hs ⟨(ho : Int), (lh : Int), (b : Int), ZN - 1⟩ k wc hat hr rg hk ek (by show ¬ ZN - 1 = 0; omega) lo hi2
                        rw [Hs.val, HGH.out] at h
                        refine h.mono fun e w' => ?_
                        rintro ⟨m, h1, h2, h3, h4, h5⟩
                        refine ⟨m, h1, h2, ?_, h5⟩
                        unfold OneCut
                        rw [hz, if_neg (show ¬ ZN = 1 from c)]
                        refine ⟨h3, fun i _ => ?_⟩
                        rw [h4]
                        unfold setZ lessN
                        by_cases e : i = k
                        · rw [if_pos e, if_pos e, e, hz]; rfl
                        · rw [if_neg e, if_neg e]
                    obtain ⟨m1, p0, p1, p2, p3, p4, p5, p6⟩ := Boxed.of HIc.out.rel.box
                    rw [HGH.out] at p2
                    have y0 : wc.cell? ⟨BH, 0, none⟩ = some (.int .i64 (ho : Int)) := HBH.out.cell (j := 0) (by decide)
                    have y1 : wc.cell? ⟨BH, 1, none⟩ = some (.int .i64 (lh : Int)) := HBH.out.cell (j := 1) (by decide)
                    have y2 : wc.cell? ⟨BH, 2, none⟩ = some (.int .i64 (b : Int)) := HBH.out.cell (j := 2) (by decide)
                    have y3 : wc.cell? ⟨BH, 3, none⟩ = some (.int .i64 ZN) := HBH.out.cell (j := 3) (by decide)
                    have y4 := HBH.out.lt
                    clear hr
                    go_wp2_with fail
                    clear m1 p0 p1 p2 p3 p4 p5 p6 y0 y1 y2 y3 y4
                    refine Calls.mono HWI.out ?_
                    rintro e wd ⟨m, rfl, hmo, hoc, hBd⟩
                    have HOC : Hid (OneCut x.hs m k) := hoc
                    have HRD := HIc.out.rel.below hBd
                    have HRE : Hid (RelK w4.heap.size B7 W0 (withHolds x m) (wd.setCell ⟨B7, 2, none⟩ (.slice m.a m.n m.c))) := HRD.holds (by omega) (hmo.mono HIc.out.rel.le)
                    have HBE2 : Hid (Blk (wd.setCell ⟨B7, 2, none⟩ (.slice m.a m.n m.c)) BH 58 4 (fun j => (#[.int .i64 (ho : Int), .int .i64 (lh : Int), .int .i64 (b : Int), .int .i64 ZN] : Array Value).getD j default)) := (HBH.out.below hBd).other (a := ⟨B7, 2, none⟩) (Blk.ne2 (HBH.out.below hBd) HRD.box (by decide)) _
                    have HCE : Hid (Blk (wd.setCell ⟨B7, 2, none⟩ (.slice m.a m.n m.c)) BC 53 12 (cutF (cutQs s b g J))) := (HIc.out.cut.below hBd).other (a := ⟨B7, 2, none⟩) (Blk.ne2 (HIc.out.cut.below hBd) HRD.box (by decide)) _
                    have HCJ : Hid (CutJ s b g seen J x) := HIc.out.cj
                    have x1 := HRD.box.lt
                    have x2' := HRD.box.frozen 2
                    have x3 := HRD.box.cell (j := 2) (by decide)
                    clear HRD hmo hoc hBd HWI HIc HBH
                    go_wp2_with fail
                    clear x1 x2' x3
                    generalize wd.setCell ⟨B7, 2, none⟩ (.slice m.a m.n m.c) = we at *
                    obtain ⟨gO, B, hO, -, c3, c4, hB', -, c7, nc, cc, c10, d0, d1, d2, d3⟩ := HRE.out.own.lineCell (o := ho) (l := lh) on ln
                    have hO' : x.os.a = some ⟨gO, 0, none⟩ := hO
                    have hBa : (x.os.z ho).ls.a = some ⟨B, 0, none⟩ := hB'
                    have nc' : (x.os.z ho).ls.n ≤ (x.os.z ho).ls.c := nc
                    have cc' : (x.os.z ho).ls.c ≤ maxLen := cc
                    have oc : x.os.c ≤ maxLen := HRE.out.own.os.cap
                    have ocl : x.os.n ≤ x.os.c := HRE.out.own.os.le
                    unfold maxLen at cc' oc
                    obtain ⟨LN, hLN⟩ : ∃ LN, ((x.os.z ho).ls.z lh).n = LN := ⟨_, rfl⟩
                    have HLN : Hid (((x.os.z ho).ls.z lh).n = LN) := hLN
                    have d3' : we.cell? ⟨B, lh * 4 + 3, none⟩ = some (.int .i64 LN) := by rw [← hLN]; exact d3
                    have c4' : we.cell? ⟨gO, ho * 2 + 1, none⟩ = some (.slice (some ⟨B, 0, none⟩) (x.os.z ho).ls.n (x.os.z ho).ls.c) := c4
                    have lnb : 0 ≤ ((x.os.z ho).ls.z lh).n ∧ ((x.os.z ho).ls.z lh).n ≤ 200 := by have h := badLine_no (HF.out.line ho on lh ln); omega
                    rw [hLN] at lnb
                    obtain ⟨lnb1, lnb2⟩ := lnb
                    have lnb3 : -9223372036854775808 ≤ LN + 1 := by omega
                    have lnb4 : LN + 1 ≤ 9223372036854775807 := by omega
                    have u1 : we.cell? ⟨B7, 1, none⟩ = some (.slice x.os.a x.os.n x.os.c) := HRE.out.box.cell (j := 1) (by decide)
                    rw [hO'] at u1
                    have ul := HRE.out.box.lt
                    have y0 : we.cell? ⟨BH, 0, none⟩ = some (.int .i64 (ho : Int)) := HBE2.out.cell (j := 0) (by decide)
                    have y1 : we.cell? ⟨BH, 1, none⟩ = some (.int .i64 (lh : Int)) := HBE2.out.cell (j := 1) (by decide)
                    have y4 := HBE2.out.lt
                    have v0 : (0 : Int) ≤ (ho : Int) := by omega
                    have v1 : (ho : Int) < (x.os.n : Int) := by omega
                    have v2 : (0 : Int) ≤ (lh : Int) := by omega
                    have v3 : (lh : Int) < ((x.os.z ho).ls.n : Int) := by omega
                    obtain ⟨hcj, hcq⟩ := HCJ.out.hold HR.out j0 HL.out HH.out HOC.out (o := ho) (l := lh) (by rw [HZ.out]) (by rw [HZ.out])
                    rw [hLN] at hcj
                    have HCJ2 : Hid (CutJ s b g seen (J + 1) (setLine (withHolds x m) ho lh 3 (LN + 1)) ∧ ∀ a d : Int, cutQs s b g (J + 1) a d = cutQs s b g J a d + if a = ho ∧ d = lh then 1 else 0) := ⟨hcj, hcq⟩
                    have HLB : Hid ((x.os.z ho).ls.a = some ⟨B, 0, none⟩) := hBa
                    clear hO hO' hB' hBa nc cc d0 d1 d2 d3 hLN hcj hcq HCJ c10
                    have ru1 := fun d os => cell_regrown u1 d os
                    have ry0 := fun d os => cell_regrown y0 d os
                    have ry1 := fun d os => cell_regrown y1 d os
                    have rc4 := fun d os => cell_regrown c4' d os
                    have rd3 := fun d os => cell_regrown d3' d os
                    refine wp_region_ph [(true, [0, 1, 2, 3, 4, 5, 6, 7, 8, 9, 10, 11, 12, 13, 14], some 15)] (by kernel_rfl) (by kernel_rfl) (by kernel_rfl) (by kernel_rfl) (by kernel_rfl) ?_
                    refine ⟨fun w' => ∃ p : Regrown, w' = grow (redrawn we p.d) p.os, regrown_of_below ((Below.refl _ _).drew), fun h => (by cases h), ?_⟩
                    simp only [picks, List.drop_succ_cons, List.drop_zero, List.take_succ_cons, List.take_zero, List.cons_append, List.nil_append]
                    repeat (go_big_quiet_step (fail))
                    refine wpQuiet_nil ?_
                    clear ru1 ry0 ry1 rc4 rd3 u1 y0 y1 y4 c3 c4 c4' c7 d3' ul
                    have hBd : Below we.heap.size we we.drew := (Below.refl _ _).drew
                    generalize we.drew = wj at *
                    have HRF := HRE.out.below hBd
                    obtain ⟨B', hb1, -, -, -, hb5⟩ := HRF.own.os.lines ho on
                    have eB : B' = B := by have e : (x.os.z ho).ls.a = some ⟨B', 0, none⟩ := hb1; rw [HLB.out] at e; simpa using e.symm
                    subst eB
                    have s1 := hb5.lt
                    have s2 := hb5.frozen (lh * 4 + 3)
                    have s3 := hb5.cell (j := lh * 4 + 3) (by show _ < (x.os.z ho).ls.n * 4; omega)
                    have HRG : Hid (RelK w4.heap.size B7 W0 (setLine (withHolds x m) ho lh 3 (LN + 1)) (wj.setCell ⟨B', lh * 4 + 3, none⟩ (.int .i64 (LN + 1)))) := HRF.line A0 on hb1 lh (LN + 1)
                    have HBF : Hid (Blk (wj.setCell ⟨B', lh * 4 + 3, none⟩ (.int .i64 (LN + 1))) BH 58 4 (fun j => (#[.int .i64 (ho : Int), .int .i64 (lh : Int), .int .i64 (b : Int), .int .i64 ZN] : Array Value).getD j default)) := (HBE2.out.below hBd).other (a := ⟨B', lh * 4 + 3, none⟩) (Blk.ne2 (HBE2.out.below hBd) hb5 (by decide)) _
                    have HCF : Hid (Blk (wj.setCell ⟨B', lh * 4 + 3, none⟩ (.int .i64 (LN + 1))) BC 53 12 (cutF (cutQs s b g J))) := (HCE.out.below hBd).other (a := ⟨B', lh * 4 + 3, none⟩) (Blk.ne2 (HCE.out.below hBd) hb5 (by decide)) _
                    clear HRF hb1 hb5 HRE HBE2 HCE hBd HLB
                    refine wpOp_one 15 rfl ?_
                    go_wp2_with fail
                    refine NoPanic.normal ?_
                    clear s1 s2 s3
                    generalize wj.setCell ⟨B', lh * 4 + 3, none⟩ (.int .i64 (LN + 1)) = wf at *
                    have y0 : wf.cell? ⟨BH, 0, none⟩ = some (.int .i64 (ho : Int)) := HBF.out.cell (j := 0) (by decide)
                    have y1 : wf.cell? ⟨BH, 1, none⟩ = some (.int .i64 (lh : Int)) := HBF.out.cell (j := 1) (by decide)
                    have y4 := HBF.out.lt
                    obtain ⟨QV, hQV⟩ : ∃ QV, cutQs s b g J ho lh = QV := ⟨_, rfl⟩
                    have qb := cutQs_bd (b := b) (g := g) HR.out j0 ho lh
                    have kb := keptS_bd (z := s.hs.z) ho lh s.hs.n fun q hq => (fineH_true (right_fine HR.out.fm.hold q hq)).2.2.2
                    have s72 := HR.out.fm.hs72
                    rw [hQV] at qb
                    have qvb : 0 ≤ QV ∧ QV ≤ 100000 := by omega
                    have w1' : wf.cell? ⟨BC, ho * 3 + lh, none⟩ = some (.int .i64 QV) := by have h := HCF.out.cell (j := ho * 3 + lh) (by omega); rw [cutF_at _ l3, hQV] at h; exact h
                    have bl := HCF.out.lt
                    have v4 : (ho : Int) < 4 := by omega
                    have v5 : (lh : Int) < 3 := by omega
                    have HQV : Hid (cutQs s b g J ho lh = QV) := hQV
                    clear hQV qb kb s72
                    go_wp2_with fail
                    have ry0 := fun d os => cell_regrown y0 d os
                    have ry1 := fun d os => cell_regrown y1 d os
                    have rw1 := fun d os => cell_regrown w1' d os
                    refine wp_region_ph [(true, [0, 1, 2, 3, 4, 5, 6, 7, 8, 9], some 10)] (by kernel_rfl) (by kernel_rfl) (by kernel_rfl) (by kernel_rfl) (by kernel_rfl) ?_
                    refine ⟨fun w' => ∃ p : Regrown, w' = grow (redrawn wf p.d) p.os, regrown_of_below ((Below.refl _ _).drew), fun h => (by cases h), ?_⟩
                    simp only [picks, List.drop_succ_cons, List.drop_zero, List.take_succ_cons, List.take_zero, List.cons_append, List.nil_append]
                    repeat (go_big_quiet_step (fail))
                    refine wpQuiet_nil ?_
                    clear ry0 ry1 rw1 y0 y1 y4 w1' bl
                    have hBd : Below wf.heap.size wf wf.drew := (Below.refl _ _).drew
                    generalize wf.drew = wj2 at *
                    have HCG := HCF.out.below hBd
                    have s1 := HCG.lt
                    have s2 := HCG.frozen (ho * 3 + lh)
                    have s3 := HCG.cell (j := ho * 3 + lh) (by omega)
                    have HNX : Hid (CoI w4.heap.size B7 BC W0 s b g seen (J + 1) (setLine (withHolds x m) ho lh 3 (LN + 1)) (wj2.setCell ⟨BC, ho * 3 + lh, none⟩ (.int .i64 (QV + 1)))) := by
                      refine ⟨(HRG.out.below hBd).boxA HCG A3 _ _, (HCG.set (ho * 3 + lh) (.int .i64 (QV + 1))).congr (fun j hj => ?_), HCJ2.out.1, by omega, by omega⟩
                      rw [← HQV.out]
                      exact cutF_more l3 HCJ2.out.2 j
                    clear HCG HCF HRG hBd HBF HCJ2
                    refine wpOp_one 10 rfl ?_
                    go_wp2_with fail
                    refine NoPanic.normal ?_
                    clear s1 s2 s3
                    generalize wj2.setCell ⟨BC, ho * 3 + lh, none⟩ (.int .i64 (QV + 1)) = wg at *
                    go_wp2_with fail
                    go_roundw
                    case rel => exact ⟨_, HNX.out.num⟩
                    case measure => exact HLE.out _ _ HNX.out.num (by have := HNX.out.jm; omega)
                | some k =>
                  have LV : lastV (fromF b g) x.ms.z x.ms.n = (k : Int) := by unfold lastV; rw [hl]
                  rw [LV]
                  have hk : k < x.ms.n := (last_lt hl).1
                  have HL : Hid (lastI (fromF b g) x.ms.z x.ms.n = some k) := hl
                  have msc := HIb.out.rel.own.ms.2.1
                  have msl := HIb.out.rel.own.ms.1
                  have ms8 := HF.out.ms8
                  have zn := HF.out.moveN k hk
                  unfold maxLen at msc
                  obtain ⟨Gm, hGm, hAG, hb4⟩ := HIb.out.rel.own.ms.2.2.2 (show 0 < x.ms.n by omega)
                  have HGM : Hid (x.ms.a = some ⟨Gm, 0, none⟩) := hGm
                  have u3 : wb.cell? ⟨B7, 3, none⟩ = some (.slice x.ms.a x.ms.n x.ms.c) := HIb.out.rel.box.cell (j := 3) (by decide)
                  have ul := HIb.out.rel.box.lt
                  have gl := hb4.lt
                  have gf := hb4.frozen (k * 4 + 3)
                  have z3 : wb.cell? ⟨Gm, k * 4 + 3, none⟩ = some (.int .i64 (x.ms.z k).n) := (hb4.cell (j := k * 4 + 3) (by show _ < x.ms.n * 4; omega)).trans (congrArg some (flatH_at (z := x.ms.z) (c := 3) hk (by decide)))
                  have ne1 : ¬ Gm = B7 := Blk.ne2 hb4 HIb.out.rel.box (by decide)
                  have ne2 : ¬ B7 = Gm := fun e => ne1 e.symm
                  rw [hGm] at u3
                  have q0 : (0 : Int) ≤ (k : Int) := by omega
                  have q1 : (k : Int) < (x.ms.n : Int) := by omega
                  have HRK : Hid (RelK w4.heap.size B7 W0 (withMoves x (lessHs x.ms k 1)) (wb.setCell ⟨Gm, k * 4 + 3, none⟩ (.int .i64 ((x.ms.z k).n - 1)))) := HIb.out.rel.moveN A0 hk hGm 1
                  have HCB : Hid (Blk (wb.setCell ⟨Gm, k * 4 + 3, none⟩ (.int .i64 ((x.ms.z k).n - 1))) BC 53 12 (cutF (cutQs s b g J))) := HIb.out.cut.other (a := ⟨Gm, k * 4 + 3, none⟩) (Blk.ne2 HIb.out.cut hb4 (by decide)) _
                  have HQ : Hid (cutQs s b g (J + 1) = cutQs s b g J) := by
                    have h1 := HIb.out.cj.cutQ_move HR.out HIb.out.j0 hl
                    exact h1
                  have HCJ : Hid (CutJ s b g seen J x) := HIb.out.cj
                  have HZE : Hid (∀ m, OneCut x.ms m k → CutJ s b g seen (J + 1) (withMoves x m)) := fun m c => HCJ.out.move HR.out j0 HL.out c
                  clear LV hl hGm hb4 hAG
                  by_cases hz1 : (x.ms.z k).n = 1
                  · have HOC : Hid (∀ m : Hs, m.n = x.ms.n - 1 → (∀ i, i < m.n → m.z i = dropZ x.ms.z k i) → OneCut x.ms m k) := fun m h1 h2 => by unfold OneCut; rw [if_pos hz1]; exact ⟨h1, h2⟩
                    have e10 : (1 : Int) - 1 = 0 := rfl
                    rw [hz1] at z3 HRK HCB
                    rw [e10] at HRK HCB
                    clear hz1 zn
                    go_wp2_with fail
                    clear u3 ul gl gf z3
                    generalize wb.setCell ⟨Gm, k * 4 + 3, none⟩ (.int .i64 0) = W7x at *
                    obtain ⟨iM, hM, hM0, hM1, hM2⟩ := info_parts infoMove
                    obtain ⟨ZF, hZF⟩ : ∃ ZF, lessN x.ms.z k 1 = ZF := ⟨_, rfl⟩
                    have HZF : Hid (lessN x.ms.z k 1 = ZF) := hZF
                    have HMS : Hid ((⟨x.ms.a, x.ms.n, x.ms.c, ZF⟩ : Hs).At W7x) := by rw [← hZF]; exact HRK.out.own.ms.at
                    obtain ⟨bm, om, hma, -⟩ := HMS.out.hds k hk
                    have hma' : x.ms.a = some ⟨bm, om, none⟩ := hma
                    have HMA : Hid (x.ms.a = some ⟨bm, om, none⟩) := hma'
                    have c3 : W7x.cell? ⟨B7, 3, none⟩ = some (.slice x.ms.a x.ms.n x.ms.c) := HRK.out.box.cell (j := 3) (by decide)
                    rw [hma'] at c3
                    have rc3 := fun d os => cell_regrown c3 d os
                    clear hZF hma hma' c3 HIb
                    by_cases hc1 : x.ms.c = k + 1
                    · refine wp_region_made5 (fun w' => ∃ p : Regrown, w' = grow (redrawn W7x p.d) p.os) [1, 2, 3, 4, 6, 7, 8, 9, 10] [0] [(false, 5), (false, 11), (false, 12), (true, 13)] (by kernel_rfl) (by kernel_rfl) (by kernel_rfl) (by kernel_rfl) (by kernel_rfl) (by kernel_rfl) (by kernel_rfl) (by kernel_rfl) (by kernel_rfl) (regrown_of_below ((Below.refl _ _).drew)) ?_
                      simp only [picks, List.drop_succ_cons, List.drop_zero, List.take_succ_cons, List.take_zero, List.cons_append, List.nil_append]
                      repeat (go_big_quiet_step (fail))
                      refine wpQuiet_nil ?_
                      clear rc3
                      have HC1 : Hid (x.ms.c = k + 1) := hc1
                      clear hc1
                      refine ⟨fun j v g wk => ∃ B, v = .slice (some ⟨B, 0, none⟩) 0 0 ∧ g = [B] ∧ W7x.heap.size ≤ B ∧ wk.heap[B]? = some (.cells #[] 56 (0, 0)),
                        List.forall_mem_cons.2 ⟨fun v g w w' hB h => ⟨h.choose, h.choose_spec.1, h.choose_spec.2.1, h.choose_spec.2.2.1, (hB.block _ (Array.getElem?_eq_some_iff.1 h.choose_spec.2.2.2).1).trans h.choose_spec.2.2.2⟩, List.forall_mem_nil _⟩,
                        List.forall_mem_cons.2 ⟨fun v g w h => by obtain ⟨B, -, h2, -, h4⟩ := h; rw [h2]; intro x hx; rw [List.mem_singleton] at hx; rw [hx]; exact (Array.getElem?_eq_some_iff.1 h4).1, List.forall_mem_nil _⟩,
                        List.forall_mem_cons.2 ⟨?zt0, List.forall_mem_nil _⟩, ?ztdone⟩
                      case zt0 =>
                        intro V G wk K hS hd hK
                        have hX := below_of_regrown hS
                        refine wpOp_list 0 rfl ?_
                        simp only [putAll, dstOf, List.getElem?_toArray, List.getElem?_cons_zero, Act.put, List.setIfInBounds_toArray, List.set_cons_succ, List.set_cons_zero] at hK ⊢
                        go_wp2_with fail
                        exact hK _ [wk.heap.size] _ (regrown_of_below (hX.alloc hX.size _)) ((Below.refl _ _).alloc (Nat.le_refl _) _) (fun x hx => by rw [List.mem_singleton] at hx; omega) ⟨wk.heap.size, rfl, rfl, hX.size, heap_alloc_new wk _⟩
                      case ztdone =>
                        intro V G' wk hS hD hA
                        obtain ⟨BV, h1v, h1g, h1l, h1b⟩ : ∃ B, V 0 = .slice (some ⟨B, 0, none⟩) 0 0 ∧ G' 0 = [B] ∧ W7x.heap.size ≤ B ∧ wk.heap[B]? = some (.cells #[] 56 (0, 0)) := hD 0 (by simp)
                        have hX := below_of_regrown hS
                        clear hS hD hA h1g
                        simp only [putAll, dstOf, List.getElem?_toArray, List.getElem?_cons_zero, Act.put, List.setIfInBounds_toArray, List.set_cons_succ, List.set_cons_zero, h1v]
                        have hown : wk.ownsRow W7x.heap.size 56 4 (.slice (some ⟨BV, 0, none⟩) 0 0) 0 [] := ⟨rfl, Or.inr ⟨BV, 0, #[], rfl, h1l, h1b, Nat.le_refl _, Nat.zero_le _, rfl, rfl⟩⟩
                        have HMk : Hid (HdsAt wk (some ⟨bm, om, none⟩) x.ms.n ZF ∧ Below W7x.heap.size W7x wk) := ⟨by have h : HdsAt wk x.ms.a x.ms.n ZF := (HMS.out.below hX).hds; rw [HMA.out] at h; exact h, hX⟩
                        refine wpSeq_one 5 rfl ?_
                        refine wpList_append_own wk rfl (.tmp 119) (.tmp 123) 29 rfl W7x.heap.size 56 iM (.agg #[.int .i64 0, .int .i64 0, .int .i64 0, .int .i64 0]) 4 32 Tryz.underlying29 hM hM0 hM1 hM2 rfl (by decide) _ 0 [] rfl hown ⟨bm, om, none⟩ k _ (flatH k ZF) rfl (flatH_len _ _) (fun j u hj => by
                          rw [addr_add]
                          have h := HMk.out.1.flat (q := 0) (m := k) (by omega) (j := j) (u := u) (by simpa using hj)
                          simpa using h) (flatH_one _ _) (by unfold maxLen; omega) (by omega) hX.size ?_
                        intro v1 wk1 r1 r2 _
                        have hX1 : Below W7x.heap.size W7x wk1 := hX.grown r2 hX.size (fun k e => by cases e; exact h1l)
                        have HX1 : Hid (Below W7x.heap.size W7x wk1) := hX1
                        have HR1 : Hid (wk1.ownsRow W7x.heap.size 56 4 v1 k (flatH k ZF)) := by have h := r1; rw [Nat.zero_add, List.nil_append] at h; exact h
                        clear hX r1 r2 hown h1b h1l HMk hX1
                        simp only [Act.put, List.setIfInBounds_toArray, List.set_cons_succ, List.set_cons_zero]
                        refine (?_ : wpList _ _ _ [] _ _)
                        go_wp2_with fail
                        refine ⟨Late.no (regrown_of_below HX1.out), ?_⟩
                        refine wpSeq_one 11 rfl ?_
                        have HM1 : Hid (HdsAt wk1 (some ⟨bm, om, none⟩) x.ms.n ZF) := by have h : HdsAt wk1 x.ms.a x.ms.n ZF := (HMS.out.below HX1.out).hds; rw [HMA.out] at h; exact h
                        refine wpList_append_own wk1 rfl (.tmp 124) (.tmp 129) 29 rfl W7x.heap.size 56 iM (.agg #[.int .i64 0, .int .i64 0, .int .i64 0, .int .i64 0]) 4 32 Tryz.underlying29 hM hM0 hM1 hM2 rfl (by decide) v1 k (flatH k ZF) rfl HR1.out ⟨bm, om, none⟩ _ _ [] rfl (by first | rfl | (have := HC1.out; simp; omega)) (fun j u hj => by cases hj) (fun u hu => by cases hu) (by unfold maxLen; omega) (by omega) HX1.out.size ?_
                        intro v2 wk2 r3 r4 _
                        have hX2 : Below W7x.heap.size W7x wk2 := HX1.out.grown r4 HX1.out.size (fun k e => owns_block HR1.out e)
                        have hR2 : wk2.ownsRow W7x.heap.size 56 4 v2 (x.ms.n - 1) (flatH (x.ms.n - 1) (dropZ ZF k)) := by
                          rw [flatH_drop x.ms.n ZF k hk]
                          have hc := HC1.out
                          have e1 : x.ms.n - (k + 1) = 0 := by omega
                          rw [e1]
                          have e2 : x.ms.n - 1 = k := by omega
                          rw [e2]
                          first | exact r3 | (have r3' := r3; rw [e1] at r3'; exact r3')
                        obtain ⟨kh, rfl, kown, kn, kz⟩ := OwnH.ofRow hR2 (Nat.le_refl _)
                        have HRO : Hid (Room W7x.heap.size wk2 56 4 kh.a kh.c) := Room.ofOwns (a := kh.a) (n := kh.n) (c := kh.c) hR2 (Nat.le_refl _)
                        have HKH : Hid (OwnH W7x.heap.size 56 wk2 kh ∧ kh.n = x.ms.n - 1 ∧ kh.z = dropZ ZF k) := ⟨kown, kn, kz⟩
                        have HX2' : Hid (Below W7x.heap.size W7x wk2) := hX2
                        clear r3 r4 hX2 hR2 kown kn kz HR1 HX1 HM1
                        simp only [Act.put, List.setIfInBounds_toArray, List.set_cons_succ, List.set_cons_zero, Hs.val]
                        refine (?_ : wpList _ _ _ [] _ _)
                        go_wp2_with fail
                        refine ⟨Late.no (regrown_of_below HX2'.out), ?_⟩
                        refine wpSeq_one 12 rfl ?_
                        have hbox := HRK.out.box.below HX2'.out
                        have zl := hbox.lt
                        have zf3 := hbox.frozen 3
                        have zc3 := hbox.cell (j := 3) (by decide)
                        go_wp2_with fail
                        refine ⟨Late.no (regrown_of_below HX2'.out), ?_⟩
                        refine wpSeq_one 13 rfl ?_
                        go_wp2_with fail
                        refine ⟨Late.yes, ?_⟩
                        clear zl zf3 zc3
                        have HRN : Hid (RelK w4.heap.size B7 W0 (withMoves x kh) (wk2.setCell ⟨B7, 3, none⟩ (.slice kh.a kh.n kh.c))) := ⟨((OwnS.below HRK.out.own HX2'.out).withM (HKH.out.1.mono HRK.out.le) (HRO.out.mono HRK.out.le)).box hbox 3 (.slice kh.a kh.n kh.c), (hbox.set 3 _).congr fun j hj => by match j, hj with | 0, _ => rfl | 1, _ => rfl | 2, _ => rfl | 3, _ => rfl | 4, _ => rfl | 5, _ => rfl | 6, _ => rfl, (HRK.out.bel.trans (HX2'.out.mono HRK.out.bel.size)).setCell (p := ⟨B7, 3, none⟩) (by show W0.heap.size ≤ B7; omega) _, by have h1 := HRK.out.le; have h2 := HX2'.out.size; simp; omega⟩
                        have HCN : Hid (Blk (wk2.setCell ⟨B7, 3, none⟩ (.slice kh.a kh.n kh.c)) BC 53 12 (cutF (cutQs s b g J))) := (HCB.out.below HX2'.out).other (a := ⟨B7, 3, none⟩) (Blk.ne2 (HCB.out.below HX2'.out) hbox (by decide)) _
                        have HMM : Hid (CutJ s b g seen (J + 1) (withMoves x kh)) := HZE.out kh (HOC.out kh HKH.out.2.1 (fun q hq => by
                          rw [HKH.out.2.2, ← HZF.out]
                          unfold dropZ lessN
                          by_cases c : q < k
                          · rw [if_pos c, if_pos c, if_neg (by omega)]
                          · rw [if_neg c, if_neg c, if_neg (by omega)]))
                        have HNX : Hid (CoI w4.heap.size B7 BC W0 s b g seen (J + 1) (withMoves x kh) (wk2.setCell ⟨B7, 3, none⟩ (.slice kh.a kh.n kh.c))) := ⟨HRN.out, by rw [HQ.out]; exact HCN.out, HMM.out, by omega, by omega⟩
                        clear hbox HRK HX2' HKH HRO HRN HCN HMM HCB
                        generalize wk2.setCell ⟨B7, 3, none⟩ (.slice kh.a kh.n kh.c) = W9x at *
                        refine NoPanic.normal ?_
                        go_wp2_with fail
                        go_roundw
                        case rel => exact ⟨_, HNX.out.num⟩
                        case measure => exact HLE.out _ _ HNX.out.num (by have := HNX.out.jm; omega)
                    · refine wp_region_made5 (fun w' => ∃ p : Regrown, w' = grow (redrawn W7x p.d) p.os) [1, 2, 3, 4, 6, 7, 8, 9, 10] [0] [(false, 5), (false, 11), (false, 12), (true, 13)] (by kernel_rfl) (by kernel_rfl) (by kernel_rfl) (by kernel_rfl) (by kernel_rfl) (by kernel_rfl) (by kernel_rfl) (by kernel_rfl) (by kernel_rfl) (regrown_of_below ((Below.refl _ _).drew)) ?_
                      simp only [picks, List.drop_succ_cons, List.drop_zero, List.take_succ_cons, List.take_zero, List.cons_append, List.nil_append]
                      repeat (go_big_quiet_step (fail))
                      refine wpQuiet_nil ?_
                      clear rc3

                      refine ⟨fun j v g wk => ∃ B, v = .slice (some ⟨B, 0, none⟩) 0 0 ∧ g = [B] ∧ W7x.heap.size ≤ B ∧ wk.heap[B]? = some (.cells #[] 56 (0, 0)),
                        List.forall_mem_cons.2 ⟨fun v g w w' hB h => ⟨h.choose, h.choose_spec.1, h.choose_spec.2.1, h.choose_spec.2.2.1, (hB.block _ (Array.getElem?_eq_some_iff.1 h.choose_spec.2.2.2).1).trans h.choose_spec.2.2.2⟩, List.forall_mem_nil _⟩,
                        List.forall_mem_cons.2 ⟨fun v g w h => by obtain ⟨B, -, h2, -, h4⟩ := h; rw [h2]; intro x hx; rw [List.mem_singleton] at hx; rw [hx]; exact (Array.getElem?_eq_some_iff.1 h4).1, List.forall_mem_nil _⟩,
                        List.forall_mem_cons.2 ⟨?zt0, List.forall_mem_nil _⟩, ?ztdone⟩
                      case zt0 =>
                        intro V G wk K hS hd hK
                        have hX := below_of_regrown hS
                        refine wpOp_list 0 rfl ?_
                        simp only [putAll, dstOf, List.getElem?_toArray, List.getElem?_cons_zero, Act.put, List.setIfInBounds_toArray, List.set_cons_succ, List.set_cons_zero] at hK ⊢
                        go_wp2_with fail
                        exact hK _ [wk.heap.size] _ (regrown_of_below (hX.alloc hX.size _)) ((Below.refl _ _).alloc (Nat.le_refl _) _) (fun x hx => by rw [List.mem_singleton] at hx; omega) ⟨wk.heap.size, rfl, rfl, hX.size, heap_alloc_new wk _⟩
                      case ztdone =>
                        intro V G' wk hS hD hA
                        obtain ⟨BV, h1v, h1g, h1l, h1b⟩ : ∃ B, V 0 = .slice (some ⟨B, 0, none⟩) 0 0 ∧ G' 0 = [B] ∧ W7x.heap.size ≤ B ∧ wk.heap[B]? = some (.cells #[] 56 (0, 0)) := hD 0 (by simp)
                        have hX := below_of_regrown hS
                        clear hS hD hA h1g
                        simp only [putAll, dstOf, List.getElem?_toArray, List.getElem?_cons_zero, Act.put, List.setIfInBounds_toArray, List.set_cons_succ, List.set_cons_zero, h1v]
                        have hown : wk.ownsRow W7x.heap.size 56 4 (.slice (some ⟨BV, 0, none⟩) 0 0) 0 [] := ⟨rfl, Or.inr ⟨BV, 0, #[], rfl, h1l, h1b, Nat.le_refl _, Nat.zero_le _, rfl, rfl⟩⟩
                        have HMk : Hid (HdsAt wk (some ⟨bm, om, none⟩) x.ms.n ZF ∧ Below W7x.heap.size W7x wk) := ⟨by have h : HdsAt wk x.ms.a x.ms.n ZF := (HMS.out.below hX).hds; rw [HMA.out] at h; exact h, hX⟩
                        refine wpSeq_one 5 rfl ?_
                        refine wpList_append_own wk rfl (.tmp 119) (.tmp 123) 29 rfl W7x.heap.size 56 iM (.agg #[.int .i64 0, .int .i64 0, .int .i64 0, .int .i64 0]) 4 32 Tryz.underlying29 hM hM0 hM1 hM2 rfl (by decide) _ 0 [] rfl hown ⟨bm, om, none⟩ k _ (flatH k ZF) rfl (flatH_len _ _) (fun j u hj => by
                          rw [addr_add]
                          have h := HMk.out.1.flat (q := 0) (m := k) (by omega) (j := j) (u := u) (by simpa using hj)
                          simpa using h) (flatH_one _ _) (by unfold maxLen; omega) (by omega) hX.size ?_
                        intro v1 wk1 r1 r2 _
                        have hX1 : Below W7x.heap.size W7x wk1 := hX.grown r2 hX.size (fun k e => by cases e; exact h1l)
                        have HX1 : Hid (Below W7x.heap.size W7x wk1) := hX1
                        have HR1 : Hid (wk1.ownsRow W7x.heap.size 56 4 v1 k (flatH k ZF)) := by have h := r1; rw [Nat.zero_add, List.nil_append] at h; exact h
                        clear hX r1 r2 hown h1b h1l HMk hX1
                        simp only [Act.put, List.setIfInBounds_toArray, List.set_cons_succ, List.set_cons_zero]
                        refine (?_ : wpList _ _ _ [] _ _)
                        go_wp2_with fail
                        refine ⟨Late.no (regrown_of_below HX1.out), ?_⟩
                        refine wpSeq_one 11 rfl ?_
                        have HM1 : Hid (HdsAt wk1 (some ⟨bm, om, none⟩) x.ms.n ZF) := by have h : HdsAt wk1 x.ms.a x.ms.n ZF := (HMS.out.below HX1.out).hds; rw [HMA.out] at h; exact h
                        refine wpList_append_own wk1 rfl (.tmp 124) (.tmp 129) 29 rfl W7x.heap.size 56 iM (.agg #[.int .i64 0, .int .i64 0, .int .i64 0, .int .i64 0]) 4 32 Tryz.underlying29 hM hM0 hM1 hM2 rfl (by decide) v1 k (flatH k ZF) rfl HR1.out ⟨bm, om + (k + 1) * 4, none⟩ (x.ms.n - (k + 1)) _ (flatH (x.ms.n - (k + 1)) (fun j => ZF (k + 1 + j))) rfl (flatH_len _ _) (fun j u hj => by rw [addr_add]; exact HM1.out.flat (q := k + 1) (m := x.ms.n - (k + 1)) (by omega) hj) (flatH_one _ _) (by unfold maxLen; omega) (by omega) HX1.out.size ?_
                        intro v2 wk2 r3 r4 _
                        have hX2 : Below W7x.heap.size W7x wk2 := HX1.out.grown r4 HX1.out.size (fun k e => owns_block HR1.out e)
                        have hR2 : wk2.ownsRow W7x.heap.size 56 4 v2 (x.ms.n - 1) (flatH (x.ms.n - 1) (dropZ ZF k)) := by
                          rw [flatH_drop x.ms.n ZF k hk]
                          have r3' := r3
                          rw [show k + (x.ms.n - (k + 1)) = x.ms.n - 1 by omega] at r3'
                          exact r3'
                        obtain ⟨kh, rfl, kown, kn, kz⟩ := OwnH.ofRow hR2 (Nat.le_refl _)
                        have HRO : Hid (Room W7x.heap.size wk2 56 4 kh.a kh.c) := Room.ofOwns (a := kh.a) (n := kh.n) (c := kh.c) hR2 (Nat.le_refl _)
                        have HKH : Hid (OwnH W7x.heap.size 56 wk2 kh ∧ kh.n = x.ms.n - 1 ∧ kh.z = dropZ ZF k) := ⟨kown, kn, kz⟩
                        have HX2' : Hid (Below W7x.heap.size W7x wk2) := hX2
                        clear r3 r4 hX2 hR2 kown kn kz HR1 HX1 HM1
                        simp only [Act.put, List.setIfInBounds_toArray, List.set_cons_succ, List.set_cons_zero, Hs.val]
                        refine (?_ : wpList _ _ _ [] _ _)
                        go_wp2_with fail
                        refine ⟨Late.no (regrown_of_below HX2'.out), ?_⟩
                        refine wpSeq_one 12 rfl ?_
                        have hbox := HRK.out.box.below HX2'.out
                        have zl := hbox.lt
                        have zf3 := hbox.frozen 3
                        have zc3 := hbox.cell (j := 3) (by decide)
                        go_wp2_with fail
                        refine ⟨Late.no (regrown_of_below HX2'.out), ?_⟩
                        refine wpSeq_one 13 rfl ?_
                        go_wp2_with fail
                        refine ⟨Late.yes, ?_⟩
                        clear zl zf3 zc3
                        have HRN : Hid (RelK w4.heap.size B7 W0 (withMoves x kh) (wk2.setCell ⟨B7, 3, none⟩ (.slice kh.a kh.n kh.c))) := ⟨((OwnS.below HRK.out.own HX2'.out).withM (HKH.out.1.mono HRK.out.le) (HRO.out.mono HRK.out.le)).box hbox 3 (.slice kh.a kh.n kh.c), (hbox.set 3 _).congr fun j hj => by match j, hj with | 0, _ => rfl | 1, _ => rfl | 2, _ => rfl | 3, _ => rfl | 4, _ => rfl | 5, _ => rfl | 6, _ => rfl, (HRK.out.bel.trans (HX2'.out.mono HRK.out.bel.size)).setCell (p := ⟨B7, 3, none⟩) (by show W0.heap.size ≤ B7; omega) _, by have h1 := HRK.out.le; have h2 := HX2'.out.size; simp; omega⟩
                        have HCN : Hid (Blk (wk2.setCell ⟨B7, 3, none⟩ (.slice kh.a kh.n kh.c)) BC 53 12 (cutF (cutQs s b g J))) := (HCB.out.below HX2'.out).other (a := ⟨B7, 3, none⟩) (Blk.ne2 (HCB.out.below HX2'.out) hbox (by decide)) _
                        have HMM : Hid (CutJ s b g seen (J + 1) (withMoves x kh)) := HZE.out kh (HOC.out kh HKH.out.2.1 (fun q hq => by
                          rw [HKH.out.2.2, ← HZF.out]
                          unfold dropZ lessN
                          by_cases c : q < k
                          · rw [if_pos c, if_pos c, if_neg (by omega)]
                          · rw [if_neg c, if_neg c, if_neg (by omega)]))
                        have HNX : Hid (CoI w4.heap.size B7 BC W0 s b g seen (J + 1) (withMoves x kh) (wk2.setCell ⟨B7, 3, none⟩ (.slice kh.a kh.n kh.c))) := ⟨HRN.out, by rw [HQ.out]; exact HCN.out, HMM.out, by omega, by omega⟩
                        clear hbox HRK HX2' HKH HRO HRN HCN HMM HCB
                        generalize wk2.setCell ⟨B7, 3, none⟩ (.slice kh.a kh.n kh.c) = W9x at *
                        refine NoPanic.normal ?_
                        go_wp2_with fail
                        go_roundw
                        case rel => exact ⟨_, HNX.out.num⟩
                        case measure => exact HLE.out _ _ HNX.out.num (by have := HNX.out.jm; omega)
                  · have HM : Hid (CutJ s b g seen (J + 1) (withMoves x (lessHs x.ms k 1))) := HZE.out _ (by unfold OneCut; rw [if_neg hz1]; exact ⟨rfl, fun _ _ => rfl⟩)
                    have e0 : ((x.ms.z k).n - 1 == 0) = false := by simp; omega
                    clear hz1
                    generalize (x.ms.z k).n = ZN at *
                    go_wp2_with fail
                    have HNX : Hid (CoI w4.heap.size B7 BC W0 s b g seen (J + 1) (withMoves x (lessHs x.ms k 1)) (wb.setCell ⟨Gm, k * 4 + 3, none⟩ (.int .i64 (ZN - 1)))) := ⟨HRK.out, by rw [HQ.out]; exact HCB.out, HM.out, by omega, by omega⟩
                    go_roundw
                    case rel => exact ⟨_, HNX.out.num⟩
                    case measure => exact HLE.out _ _ HNX.out.num (by have := HNX.out.jm; omega)
              · have hJm : J = missZ s b g seen := by omega
                have q8 : ¬ seen < BZ := by unfold missZ at hJm; omega
                have HX0 : Hid (SameT x (countS s b g seen)) := by
                  have h : SameT x (fixOn (cutS s b g J) b g seen) := HIa.out.cj
                  rw [hJm] at h
                  exact h
                have HRX : Hid (RelK w4.heap.size B7 W0 x wa) := HIa.out.rel
                obtain ⟨QQ, hQQ⟩ : ∃ QQ, cutQs s b g (missZ s b g seen) = QQ := ⟨_, rfl⟩
                have HCX : Hid (Blk wa BC 53 12 (cutF QQ)) := by
                  have h := HIa.out.cut
                  rw [hJm, hQQ] at h
                  exact h
                have HQQ : Hid (cutQs s b g (missZ s b g seen) = QQ) := hQQ
                have HQI : Hid (QIn p b (fun i j => QQ i j) x) := HCI.out.qin.same HX0.out (fun i j _ _ => by rw [← hQQ]; rfl)
                clear hBZ hQQ HIa HLE HBE hJm hd jm j0 bz0
                go_wp2_with fail
                go_loopw [17] (fun kv wk => ∃ (i : Nat) (cur : St), i ≤ x.os.n ∧ kv = .int .i64 i ∧ Hid (RelK w4.heap.size B7 W0 cur wk) ∧ Hid (Blk wk BC 53 12 (cutF QQ)) ∧ Hid (CutA p x b QQ i cur)) (fun kv _ => x.os.n - (intOf kv).toNat)
                case atStart => exact ⟨0, x, Nat.zero_le _, rfl, HRX, HCX, SameT.self x⟩
                case round =>
                  clear HRX HCX
                  obtain ⟨i, cur, hi, rfl, HK, HCT, HA⟩ := hrel
                  have HN0 : Hid (cur.os.n = x.os.n) := (TkAll.pos HQI.out (fun _ _ => rfl) hi HA.out).al.osn
                  have n1 : (cur.os.n : Int) ≤ (x.os.n : Int) := by rw [HN0.out]; omega
                  have n2 : (x.os.n : Int) ≤ (cur.os.n : Int) := by rw [HN0.out]; omega
                  have u1 : wr.cell? ⟨B7, 1, none⟩ = some (.slice cur.os.a cur.os.n cur.os.c) := HK.out.box.cell (j := 1) (by decide)
                  have u2 := HK.out.box.lt
                  have ol : cur.os.n ≤ cur.os.c := HK.out.own.os.le
                  have oc : cur.os.c ≤ maxLen := HK.out.own.os.cap
                  have os4 : x.os.n ≤ 4 := HF.out.os4
                  unfold maxLen at oc
                  by_cases hlt : i < x.os.n
                  · have q0 : (0 : Int) ≤ (i : Int) := by omega
                    have q1 : (i : Int) < (cur.os.n : Int) := by omega
                    have ln3 := (HF.out.lns i hlt).2
                    go_wp2_with fail
                    clear u1 u2 ol oc q1 n1 n2 HN0
                    go_loopw [18] (fun jv wk => ∃ (j : Nat) (cr : St), j ≤ (x.os.z i).ls.n ∧ jv = .int .i64 j ∧ Hid (RelK w4.heap.size B7 W0 cr wk) ∧ Hid (Blk wk BC 53 12 (cutF QQ)) ∧ Hid (CutB p x b QQ i j cr)) (fun jv _ => (x.os.z i).ls.n - (intOf jv).toNat)
                    case atStart => exact ⟨0, cur, Nat.zero_le _, rfl, HK, HCT, HA.out.row⟩
                    case round =>
                      clear HK HCT HA
                      obtain ⟨j, cr, hj, rfl, HK, HCT, HB⟩ := hrel
                      have HPO : Hid (Pos p b (fun i j => QQ i j) x i j cr) := HB.out.pos HQI.out hlt hj
                      have en : cr.os.n = x.os.n := HPO.out.al.osn
                      have hic : i < cr.os.n := by rw [en]; exact hlt
                      have q1 : (i : Int) < (cr.os.n : Int) := by omega
                      have kn : (cr.os.z i).ls.n = (x.os.z i).ls.n := (HPO.out.al.kind i hlt).2
                      have HKN : Hid ((cr.os.z i).ls.n = (x.os.z i).ls.n) := kn
                      have kn1 : (cr.os.z i).ls.n ≤ (x.os.z i).ls.n := Nat.le_of_eq kn
                      have kn2 : (x.os.z i).ls.n ≤ (cr.os.z i).ls.n := Nat.le_of_eq kn.symm
                      obtain ⟨gO, g1, g2, g3, g4, g5, g6⟩ := HK.out.own.orderCells (o := i) hic
                      have u1 : wr.cell? ⟨B7, 1, none⟩ = some (.slice cr.os.a cr.os.n cr.os.c) := HK.out.box.cell (j := 1) (by decide)
                      rw [g1] at u1
                      have u2 := HK.out.box.lt
                      have ol : cr.os.n ≤ cr.os.c := HK.out.own.os.le
                      have oc : cr.os.c ≤ maxLen := HK.out.own.os.cap
                      unfold maxLen at oc
                      obtain ⟨_, _, -, -, -, -, hls⟩ := HK.out.own.at.os.ods i hic
                      have ll := hls.le
                      have lc := hls.cap
                      unfold maxLen at lc
                      have HG : Hid (cr.os.a = some ⟨gO, 0, none⟩) := g1
                      clear g1 g6 en kn hls
                      by_cases hjl : j < (x.os.z i).ls.n
                      · have q2 : (0 : Int) ≤ (j : Int) := by omega
                        have q3 : (j : Int) < ((cr.os.z i).ls.n : Int) := by omega
                        have v4 : (i : Int) < 4 := by omega
                        have v5 : (j : Int) < 3 := by omega
                        have HSI : Hid (StepIn p b cr i j (QQ i j)) := HPO.out.stepIn HQI.out hlt hjl
                        have hq0 := HSI.out.n0
                        have HTI : Hid (TakeIn p cr i j (QQ i j)) := HSI.out.tki
                        have HST : Hid (∀ y, Step p b cr i j (QQ i j) y → CutB p x b QQ i (j + 1) y) := fun y T => HB.out.step T
                        have HSK : Hid (QQ i j = 0 → CutB p x b QQ i (j + 1) cr) := fun h => HB.out.skip HQI.out hlt hjl h
                        have w1' : wr.cell? ⟨BC, i * 3 + j, none⟩ = some (.int .i64 (QQ i j)) := by have h := HCT.out.cell (j := i * 3 + j) (by omega); rw [cutF_at _ (by omega)] at h; exact h
                        have bl := HCT.out.lt
                        clear HSI HB HPO
                        generalize QQ i j = QV at *
                        by_cases hq : 0 < QV
                        · go_wp2_with fail
                          clear u1 u2 g3 g4 g5
                          obtain ⟨⟨⟨l1, d0, d1⟩, -⟩, hpk, -⟩ := HC.out wr HK.out.bel
                          obtain ⟨m1, p0, p1, p2, p3, p4, p5, p6⟩ := Boxed.of HK.out.box
                          have HPK : Hid (p.At wr) := hpk
                          have rd0 := fun d os => cell_regrown d0 d os
                          have rd1 := fun d os => cell_regrown d1 d os
                          have rp0 := fun d os => cell_regrown p0 d os
                          have rp1 := fun d os => cell_regrown p1 d os
                          have rp2 := fun d os => cell_regrown p2 d os
                          have rp3 := fun d os => cell_regrown p3 d os
                          have rp4 := fun d os => cell_regrown p4 d os
                          have rp5 := fun d os => cell_regrown p5 d os
                          have rp6 := fun d os => cell_regrown p6 d os
                          have rw1 := fun d os => cell_regrown w1' d os
                          refine wp_region_ph [(true, [0, 1, 2, 3, 4, 5, 6, 7, 8, 9], some 10), (false, [11, 12, 13], some 14)] (by kernel_rfl) (by kernel_rfl) (by kernel_rfl) (by kernel_rfl) (by kernel_rfl) ?_
                          refine ⟨fun w' => ∃ p : Regrown, w' = grow (redrawn wr p.d) p.os, regrown_of_below ((Below.refl _ _).drew), fun h => (by cases h), ?_⟩
                          simp only [picks, List.drop_succ_cons, List.drop_zero, List.take_succ_cons, List.take_zero, List.cons_append, List.nil_append]
                          repeat (go_big_quiet_step (fail))
                          refine wpQuiet_nil ?_
                          clear rd0 rd1 rp0 rp1 rp2 rp3 rp4 rp5 rp6 rw1 l1 d0 d1 m1 p0 p1 p2 p3 p4 p5 p6 w1' bl hpk
                          have hBd : Below wr.heap.size wr wr.drew := (Below.refl _ _).drew
                          generalize wr.drew = wj at *
                          have HPj : Hid (p.At wj) := HPK.out.below hBd
                          have HKj : Hid (RelK w4.heap.size B7 W0 cr wj) := HK.out.below hBd
                          have HCj : Hid (Blk wj BC 53 12 (cutF QQ)) := HCT.out.below hBd
                          clear hBd HPK HK HCT
                          refine wpOp_one 10 rfl ?_
                          go_wp2_with fail
                          refine (take_any p cr i j w4.heap.size QV b wj HPj.out HKj.out.own HKj.out.le HTI.out).mono ?_
                          rintro e w8 ⟨y, rfl, T, hO8, hB8, hK8⟩
                          have HT : Hid (CutB p x b QQ i (j + 1) y) := HST.out y T
                          have HB8 : Hid (Blk w8 B7 31 7 (fun j => cr.cells.getD j default)) := hK8 _ _ _ _ (by decide) HKj.out.box
                          have HC8 : Hid (Blk w8 BC 53 12 (cutF QQ)) := hK8 _ _ _ _ (by decide) HCj.out
                          have HO8 : Hid (OwnS w4.heap.size w8 y) := hO8
                          have HL8 : Hid (Below W0.heap.size W0 w8) := HKj.out.bel.trans (hB8.mono A0)
                          have HE8 : Hid (w4.heap.size ≤ w8.heap.size) := Nat.le_trans HKj.out.le hB8.size
                          clear T hO8 hB8 hK8 HST HTI HPj HKj HCj HSK
                          generalize (Tk.go (avT cr i j) QV (wayT p b)).left = LL at *
                          simp only [St.val]
                          go_wp2_with fail
                          refine ⟨fun _ => True, trivial, fun _ _ => trivial, ?_⟩
                          simp only [picks, List.drop_succ_cons, List.drop_zero, List.take_succ_cons, List.take_zero, List.cons_append, List.nil_append]
                          repeat (go_big_quiet_step (fail))
                          refine wpQuiet_nil ?_
                          have hb8 := HB8.out
                          have zl := hb8.lt
                          have zf0 := hb8.frozen 0
                          have zc0 := hb8.cell (j := 0) (by decide)
                          have zf1 := hb8.frozen 1
                          have zc1 := hb8.cell (j := 1) (by decide)
                          have zf2 := hb8.frozen 2
                          have zc2 := hb8.cell (j := 2) (by decide)
                          have zf3 := hb8.frozen 3
                          have zc3 := hb8.cell (j := 3) (by decide)
                          have zf4 := hb8.frozen 4
                          have zc4 := hb8.cell (j := 4) (by decide)
                          have zf5 := hb8.frozen 5
                          have zc5 := hb8.cell (j := 5) (by decide)
                          have zf6 := hb8.frozen 6
                          have zc6 := hb8.cell (j := 6) (by decide)
                          clear hb8
                          refine wpOp_one 14 rfl ?_
                          go_wp2_with fail
                          have HN : Hid (RelK w4.heap.size B7 W0 y (set7 w8 B7 (.slice y.on.a y.on.n y.on.c) (.slice y.os.a y.os.n y.os.c) (.slice y.hs.a y.hs.n y.hs.c) (.slice y.ms.a y.ms.n y.ms.c) (.slice y.si.a y.si.n y.si.c) (.slice y.so.a y.so.n y.so.c) (.slice y.sf.a y.sf.n y.sf.c)) ∧ Blk (set7 w8 B7 (.slice y.on.a y.on.n y.on.c) (.slice y.os.a y.os.n y.os.c) (.slice y.hs.a y.hs.n y.hs.c) (.slice y.ms.a y.ms.n y.ms.c) (.slice y.si.a y.si.n y.si.c) (.slice y.so.a y.so.n y.so.c) (.slice y.sf.a y.sf.n y.sf.c)) BC 53 12 (cutF QQ)) := by
                            have K := set7_blk HB8.out (.slice y.on.a y.on.n y.on.c) (.slice y.os.a y.os.n y.os.c) (.slice y.hs.a y.hs.n y.hs.c) (.slice y.ms.a y.ms.n y.ms.c) (.slice y.si.a y.si.n y.si.c) (.slice y.so.a y.so.n y.so.c) (.slice y.sf.a y.sf.n y.sf.c)
                            have hb := set7_below (b := B7) HL8.out (Nat.le_trans A0 A2) (.slice y.on.a y.on.n y.on.c) (.slice y.os.a y.os.n y.os.c) (.slice y.hs.a y.hs.n y.hs.c) (.slice y.ms.a y.ms.n y.ms.c) (.slice y.si.a y.si.n y.si.c) (.slice y.so.a y.so.n y.so.c) (.slice y.sf.a y.sf.n y.sf.c)
                            have ne := Blk.ne2 HC8.out HB8.out (by decide)
                            refine ⟨⟨OwnS.set7 HO8.out HB8.out (.slice y.on.a y.on.n y.on.c) (.slice y.os.a y.os.n y.os.c) (.slice y.hs.a y.hs.n y.hs.c) (.slice y.ms.a y.ms.n y.ms.c) (.slice y.si.a y.si.n y.si.c) (.slice y.so.a y.so.n y.so.c) (.slice y.sf.a y.sf.n y.sf.c), K.congr (fun j hj => by match j, hj with | 0, _ => rfl | 1, _ => rfl | 2, _ => rfl | 3, _ => rfl | 4, _ => rfl | 5, _ => rfl | 6, _ => rfl), hb, by have := HE8.out; simpa [set7] using this⟩, ?_⟩
                            unfold set7
                            exact ((((((HC8.out.other (a := ⟨B7, 0, none⟩) ne _).other (a := ⟨B7, 1, none⟩) ne _).other (a := ⟨B7, 2, none⟩) ne _).other (a := ⟨B7, 3, none⟩) ne _).other (a := ⟨B7, 4, none⟩) ne _).other (a := ⟨B7, 5, none⟩) ne _).other (a := ⟨B7, 6, none⟩) ne _
                          unfold set7 at HN
                          refine NoPanic.normal ?_
                          go_wp2_with fail
                          go_roundw
                          case rel => exact ⟨j + 1, y, by omega, by go_num, HN.out.1, HN.out.2, HT⟩
                          case measure => simp [intOf]; omega
                        · have HN : Hid (CutB p x b QQ i (j + 1) cr) := HSK.out (by omega)
                          go_wp2_with fail
                          go_roundw
                          case rel => exact ⟨j + 1, cr, by omega, by go_num, HK, HCT, HN⟩
                          case measure => simp [intOf]; omega
                      · have hjn : j = (x.os.z i).ls.n := by omega
                        have q4 : ((cr.os.z i).ls.n : Int) ≤ (j : Int) := by omega
                        have q5 : ¬ (j : Int) < ((cr.os.z i).ls.n : Int) := by omega
                        have HN : Hid (CutA p x b QQ (i + 1) cr) := by have h := HB.out; rw [hjn] at h; exact h.next
                        clear hjn HPO HB
                        go_wp2_with fail
                        go_roundw
                        case rel => exact ⟨i + 1, cr, by omega, by go_num, HK, HCT, HN⟩
                        case measure => simp [intOf]; omega
                  · have hin : i = x.os.n := by omega
                    have q4 : (cur.os.n : Int) ≤ (i : Int) := by omega
                    have q5 : ¬ (i : Int) < (cur.os.n : Int) := by omega
                    have HY : Hid (SameT cur (countT p s b g seen)) := by
                      refine TkAll.same HCI.out.qin (fun _ _ => rfl) (Nat.le_refl s.os.n) HCI.out.all ?_
                      have n4 : x.os.n = s.os.n := HX0.out.os.1
                      have h := HA.out
                      rw [hin, n4] at h
                      refine TkAll.base (m' := relM x) HX0.out (fun _ _ => rfl) (fun i hi => ?_) (fun i j _ _ => ?_) (Nat.le_refl s.os.n) h
                      · exact (HX0.out.os.2 i (by rw [n4]; exact hi)).2.1
                      · show QQ i j = cutQs s b g (missZ s b g seen) i j
                        rw [HQQ.out]
                    obtain ⟨m1, p0, p1, p2, p3, p4, p5, p6⟩ := Boxed.of HK.out.box
                    obtain ⟨-, -, -, hBw, hz⟩ := HC.out wr HK.out.bel
                    have HZ : Hid (Below w.heap.size w wr ∧ Blk wr (w.heap.size + 2) 31 7 (fun _ => .slice .none 0 0)) := ⟨hBw, hz⟩
                    have zl := hz.lt
                    have zf0 := hz.frozen 0
                    have zc0 := hz.cell (j := 0) (by decide)
                    have zf1 := hz.frozen 1
                    have zc1 := hz.cell (j := 1) (by decide)
                    have zf2 := hz.frozen 2
                    have zc2 := hz.cell (j := 2) (by decide)
                    have zf3 := hz.frozen 3
                    have zc3 := hz.cell (j := 3) (by decide)
                    have zf4 := hz.frozen 4
                    have zc4 := hz.cell (j := 4) (by decide)
                    have zf5 := hz.frozen 5
                    have zc5 := hz.cell (j := 5) (by decide)
                    have zf6 := hz.frozen 6
                    have zc6 := hz.cell (j := 6) (by decide)
                    clear hBw hz u1 u2
                    go_wp2_with fail
                    have KZ := set7_blk HZ.out.2 (.slice cur.on.a cur.on.n cur.on.c) (.slice cur.os.a cur.os.n cur.os.c) (.slice cur.hs.a cur.hs.n cur.hs.c) (.slice cur.ms.a cur.ms.n cur.ms.c) (.slice cur.si.a cur.si.n cur.si.c) (.slice cur.so.a cur.so.n cur.so.c) (.slice cur.sf.a cur.sf.n cur.sf.c)
                    have hbz := set7_below (b := w.heap.size + 2) HZ.out.1 (by omega) (.slice cur.on.a cur.on.n cur.on.c) (.slice cur.os.a cur.os.n cur.os.c) (.slice cur.hs.a cur.hs.n cur.hs.c) (.slice cur.ms.a cur.ms.n cur.ms.c) (.slice cur.si.a cur.si.n cur.si.c) (.slice cur.so.a cur.so.n cur.so.c) (.slice cur.sf.a cur.sf.n cur.sf.c)
                    have hOz := OwnS.set7 HK.out.own HZ.out.2 (.slice cur.on.a cur.on.n cur.on.c) (.slice cur.os.a cur.os.n cur.os.c) (.slice cur.hs.a cur.hs.n cur.hs.c) (.slice cur.ms.a cur.ms.n cur.ms.c) (.slice cur.si.a cur.si.n cur.si.c) (.slice cur.so.a cur.so.n cur.so.c) (.slice cur.sf.a cur.sf.n cur.sf.c)
                    unfold set7 at KZ hbz hOz
                    obtain ⟨c0', c1', c2', c3', c4', c5', c6'⟩ := box_cells KZ
                    refine bodyPost_ret (v := .tuple #[cur.val, .int .i64 0]) (by simp [results, Tryz.results5, go_sem, St.val, c0', c1', c2', c3', c4', c5', c6']) rfl ?_
                    exact ⟨cur, by rw [HX.out]; rfl, hOz.at, ⟨fun _ => HY.out, fun h => absurd HX.out h⟩, fun _ => hOz.mono (Nat.le_trans HLOW.out A0), hbz⟩
  · have HX : Hid (countE p s bin good seen = stateE p s) := by show countE p s bin good seen = _; unfold countE; rw [if_neg h0]
    have HNE : Hid (¬ countE p s bin good seen = 0) := by show ¬ _; rw [HX.out]; exact h0
    have g0 : (stateE p s != 0) = true := by simpa using h0
    clear h0
    generalize stateE p s = SE at *
    clear hpk hsk
    have zl := hz.lt
    have zf0 := hz.frozen 0
    have zc0 := hz.cell (j := 0) (by decide)
    have zf1 := hz.frozen 1
    have zc1 := hz.cell (j := 1) (by decide)
    have zf2 := hz.frozen 2
    have zc2 := hz.cell (j := 2) (by decide)
    have zf3 := hz.frozen 3
    have zc3 := hz.cell (j := 3) (by decide)
    have zf4 := hz.frozen 4
    have zc4 := hz.cell (j := 4) (by decide)
    have zf5 := hz.frozen 5
    have zc5 := hz.cell (j := 5) (by decide)
    have zf6 := hz.frozen 6
    have zc6 := hz.cell (j := 6) (by decide)
    go_wp2_with fail
    have KZ := set7_blk hz (.slice .none 0 0) (.slice .none 0 0) (.slice .none 0 0) (.slice .none 0 0) (.slice .none 0 0) (.slice .none 0 0) (.slice .none 0 0)
    have hbz := set7_below (b := w.heap.size + 2) hBw (by omega) (.slice .none 0 0) (.slice .none 0 0) (.slice .none 0 0) (.slice .none 0 0) (.slice .none 0 0) (.slice .none 0 0) (.slice .none 0 0)
    unfold set7 at KZ hbz
    obtain ⟨c0', c1', c2', c3', c4', c5', c6'⟩ := box_cells KZ
    refine bodyPost_ret (v := .tuple #[noneS.val, .int .i64 SE]) (by simp [results, Tryz.results5, go_sem, noneS, St.val, c0', c1', c2', c3', c4', c5', c6']) rfl ?_
    exact ⟨noneS, by rw [HX.out]; rfl, noneS_at _, ⟨fun h => absurd h (HNE.out), fun _ => ⟨rfl, rfl, rfl, rfl, rfl, rfl, rfl⟩⟩, fun h => absurd h (HNE.out), hbz⟩
end Go.Proofs.YtbcacebifpagpaeGreat
namespace Go.Proofs.YtbcacebifpagpaeGreat
open Go.RowKit Go.Shelf Go.Sort
set_option linter.unusedVariables false
set_option maxRecDepth 100000 in
set_option maxHeartbeats 8000000 in
theorem CountCounts_walk (p : Pl) (s : St) (bin good seen : Int) (w : World) (hp : p.At w) (hs : s.At w) :
    Calls Tryz.prog 3 #[p.val, s.val, .int .i64 bin, .int .i64 good, .int .i64 seen] w fun e w' => e = .returned (.bool true) ∧ Below w.heap.size w w' := by
  obtain ⟨W0, hW, hWB, X0⟩ : ∃ W, ((w.alloc (.cells #[.slice p.ab p.nb p.cb, .slice p.sa p.ns p.cs] 25)).alloc (.cells s.cells 31)) = W ∧ Below w.heap.size w W ∧ Boxes W w.heap.size (w.heap.size + 1) p s := ⟨_, rfl, two_below _ _ _, boxes_new w p s _ _⟩
  have HC : Hid (∀ wk, Below W0.heap.size W0 wk → Boxes wk w.heap.size (w.heap.size + 1) p s ∧ p.At wk ∧ s.At wk ∧ Below w.heap.size w wk) := fun wk h => ⟨X0.below h, (hp.below hWB).below h, (hs.below hWB).below h, hWB.trans (h.mono hWB.size)⟩
  have HW : Hid ((w.alloc (.cells #[.slice p.ab p.nb p.cb, .slice p.sa p.ns p.cs] 25)).alloc (.cells #[.slice s.on.a s.on.n s.on.c, .slice s.os.a s.os.n s.os.c, .slice s.hs.a s.hs.n s.hs.c, .slice s.ms.a s.ms.n s.ms.c, .slice s.si.a s.si.n s.si.c, .slice s.so.a s.so.n s.so.c, .slice s.sf.a s.sf.n s.sf.c] 31) = W0) := hW
  clear hW X0 hp hs
  unfold Pl.val St.val
  go_enter Tryz.func3, Tryz.ntmps3
  go_wp2_with fail
  rw [HW.out]
  obtain ⟨X, hpk, hsk, hBw⟩ := HC.out W0 (Below.refl _ _)
  refine (Count_any p s bin good seen W0 hpk hsk).mono ?_
  rintro e w1 ⟨x, rfl, xat, xok, -, hB⟩
  clear X hpk hsk hBw HW
  obtain ⟨⟨⟨l1, d0, d1⟩, l2, c0, c1, c2, c3, c4, c5, c6⟩, hpk, hsk, hBw⟩ := HC.out w1 hB
  obtain ⟨W2, hW, hWB2, K1⟩ : ∃ W, w1.alloc (.cells #[.slice x.on.a x.on.n x.on.c, .slice x.os.a x.os.n x.os.c, .slice x.hs.a x.hs.n x.hs.c, .slice x.ms.a x.ms.n x.ms.c, .slice x.si.a x.si.n x.si.c, .slice x.so.a x.so.n x.so.c, .slice x.sf.a x.sf.n x.sf.c] 31) = W ∧ Below w1.heap.size w1 W ∧ Blk W w1.heap.size 31 7 (fun j => x.cells.getD j default) := ⟨_, rfl, (Below.refl _ _).alloc (Nat.le_refl _) _, Blk.mk' rfl rfl⟩
  have HW : Hid (w1.alloc (.cells #[.slice x.on.a x.on.n x.on.c, .slice x.os.a x.os.n x.os.c, .slice x.hs.a x.hs.n x.hs.c, .slice x.ms.a x.ms.n x.ms.c, .slice x.si.a x.si.n x.si.c, .slice x.so.a x.so.n x.so.c, .slice x.sf.a x.sf.n x.sf.c] 31) = W2) := hW
  have HSM : Hid (∀ y, ActOK (countE p s bin good seen) (countT p s bin.toNat good.toNat seen) y → SameT x y) := fun y h => ActOK.same xok h
  have HBD : Hid (x.os.n ≤ 1000 ∧ x.ms.n ≤ 1000 ∧ ∀ i, i < x.os.n → (x.os.z i).ls.n ≤ 1000) := ActOK.bound (p := p) (s := s) xok (fun h => by obtain ⟨_, b, g, rfl, rfl, hh⟩ := countIn h; exact (count_right hh).bound)
  have xat := xat.below hWB2
  have hB2 := hB.trans (hWB2.mono hB.size)
  simp only [St.val]
  clear hW
  go_wp2_with fail
  rw [HW.out]
  clear l1 d0 d1 l2 c0 c1 c2 c3 c4 c5 c6 hpk hsk hBw HW hWB2 hB xok
  generalize w1.heap.size = B1 at *
  obtain ⟨X, hpk, hsk, hBw⟩ := HC.out W2 hB2
  refine (CountOf_any p s bin good seen W2 hpk hsk).mono ?_
  rintro e w3 ⟨y, rfl, yat, yok, -, hB3⟩
  have xat := xat.below hB3
  have K1 := K1.below hB3
  have hB3 := hB2.trans (hB3.mono hB2.size)
  clear X hpk hsk hBw hB2
  obtain ⟨W4, hW, hWB4, K2⟩ : ∃ W, w3.alloc (.cells #[.slice y.on.a y.on.n y.on.c, .slice y.os.a y.os.n y.os.c, .slice y.hs.a y.hs.n y.hs.c, .slice y.ms.a y.ms.n y.ms.c, .slice y.si.a y.si.n y.si.c, .slice y.so.a y.so.n y.so.c, .slice y.sf.a y.sf.n y.sf.c] 31) = W ∧ Below w3.heap.size w3 W ∧ Blk W w3.heap.size 31 7 (fun j => y.cells.getD j default) := ⟨_, rfl, (Below.refl _ _).alloc (Nat.le_refl _) _, Blk.mk' rfl rfl⟩
  have HW : Hid (w3.alloc (.cells #[.slice y.on.a y.on.n y.on.c, .slice y.os.a y.os.n y.os.c, .slice y.hs.a y.hs.n y.hs.c, .slice y.ms.a y.ms.n y.ms.c, .slice y.si.a y.si.n y.si.c, .slice y.so.a y.so.n y.so.c, .slice y.sf.a y.sf.n y.sf.c] 31) = W4) := hW
  have HS : Hid (SameT x y) := HSM.out y yok
  have xat := xat.below hWB4
  have yat := yat.below hWB4
  have K1 := K1.below hWB4
  have hB4 := hB3.trans (hWB4.mono hB3.size)
  simp only [St.val]
  clear hW
  go_wp2_with fail
  rw [HW.out]
  clear HW hWB4 hB3 yok
  generalize w3.heap.size = B2 at *
  refine (countBegun_any W4).mono ?_
  rintro e w5 ⟨rfl, hB5⟩
  have xat := xat.below hB5
  have yat := yat.below hB5
  have K1 := K1.below hB5
  have K2 := K2.below hB5
  have hB5 := hB4.trans (hB5.mono hB4.size)
  clear hB4
  obtain ⟨m1, p0, p1, p2, p3, p4, p5, p6⟩ := Boxed.of K1
  obtain ⟨m2, t0, t1, t2, t3, t4, t5, t6⟩ := Boxed.of K2
  clear K1 K2
  have HXY : Hid (x.At w5 ∧ y.At w5) := ⟨xat, yat⟩
  clear xat yat
  go_wp2_with fail
  refine (SameStates_yes x y w5 HXY.out.1 HXY.out.2 HS.out HBD.out.1 HBD.out.2.1 HBD.out.2.2).mono ?_
  rintro e w6 ⟨rfl, hB6⟩
  have hB6 := hB5.trans (hB6.mono hB5.size)
  clear m1 p0 p1 p2 p3 p4 p5 p6 m2 t0 t1 t2 t3 t4 t5 t6
  go_wp2_with fail
  go_ret
  exact ⟨by simp, (HC.out w6 hB6).2.2.2⟩
end Go.Proofs.YtbcacebifpagpaeGreat

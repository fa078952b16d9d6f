/- What the document asks of states: summed. -/
import Derived.Test.YtjiodlbblmbibadRS1
import Derived.Test.YtjiodlbblmbibadSW7
import Derived.Test.YtjiodlbblmbibadHW4
import Derived.Test.YtjiodlbblmbibadR3
namespace Go.Proofs.Ytjiodlbblmbibad
open Go.RowKit Go.Shelf Go.Sort
set_option linter.unusedVariables false

def summedB (p : Pl) (s : St) : Bool := !(wrongGoodsB p s || wrongOrdersB s)
theorem sB_good {p : Pl} {s : St} {g : Nat} (hg : g < p.ns) (h : wrongGood p s g = true) : summedB p s = false := by
  have : wrongGoodsB p s = true := anyB_yes hg h
  simp [summedB, this]
theorem sB_order {p : Pl} {s : St} {i : Nat} (hi : i < s.os.n) (h : wrongOrder s i = true) : summedB p s = false := by
  have : wrongOrdersB s = true := anyB_yes hi h
  simp [summedB, this]
theorem sB_yes {p : Pl} {s : St} (h1 : ∀ g, g < p.ns → wrongGood p s g = false) (h2 : ∀ i, i < s.os.n → wrongOrder s i = false) : summedB p s = true := by
  have e1 : wrongGoodsB p s = false := anyB_no h1
  have e2 : wrongOrdersB s = false := anyB_no h2
  simp [summedB, e1, e2]
theorem wg_sum {p : Pl} {s : St} {g : Nat} (h : ¬ sumTo (fun i => (s.on.r i).z g) s.on.n = s.si.z g - s.so.z g + s.sf.z g) : wrongGood p s g = true := by
  rw [wrongGood_eq]
  have : (sumTo (fun i => (s.on.r i).z g) s.on.n == s.si.z g - s.so.z g + s.sf.z g) = false := by simpa using h
  rw [this]; rfl
theorem wg_bound {p : Pl} {s : St} {g b : Nat} (hb : b < p.nb) (h : (s.on.r b).z g < heldTo s b g s.hs.n + fromTo s b g s.ms.n) : wrongGood p s g = true := by
  rw [wrongGood_eq, anyB_yes hb (decide_eq_true (by unfold availZ; omega)), Bool.or_true]
theorem wg_no {p : Pl} {s : St} {g : Nat} (h : sumTo (fun i => (s.on.r i).z g) s.on.n = s.si.z g - s.so.z g + s.sf.z g) (h2 : ∀ b, b < p.nb → decide ((s.on.r b).z g < heldTo s b g s.hs.n + fromTo s b g s.ms.n) = false) : wrongGood p s g = false := by
  rw [wrongGood_eq, h, anyB_no fun b hb => ?_]
  · simp
  · have := of_decide_eq_false (h2 b hb)
    exact decide_eq_false (by unfold availZ; omega)
def noLack (ls : Nat → Hd) (n : Nat) : Bool := !anyB n (fun j => lacksL (ls j))
theorem noLack_succ (ls : Nat → Hd) (n : Nat) : noLack ls (n + 1) = (noLack ls n && ((ls n).b == (ls n).l)) := by
  unfold noLack
  rw [anyB_succ]
  simp [lacksL]
theorem noLack_step {ls : Nat → Hd} {n : Nat} {b c : Bool} (h : noLack ls n = b) (h2 : ((ls n).b == (ls n).l) = c) : noLack ls (n + 1) = (b && c) := by rw [noLack_succ, h, h2]
theorem all_succ3 {k : Nat} {f : Nat → Bool} {b : Bool} (h : ∀ j, j < k → f j = b) (hk : f k = b) : ∀ j, j < k + 1 → f j = b := fun j hj => by
  by_cases hjk : j = k
  · rw [hjk]; exact hk
  · exact h j (by omega)
theorem wL0 {x : Hd} {kept : Int} (h1 : 0 ≤ x.b ∧ x.b ≤ 200) (h2 : 0 ≤ x.n ∧ x.n ≤ 200) (h3 : 0 ≤ kept ∧ kept ≤ 14400) : wrongL 0 x kept = !(x.b + x.n + kept == 0) := by
  unfold wrongL
  rw [if_pos rfl, Bool.eq_iff_iff]
  simp only [Bool.or_eq_true, Bool.not_eq_true', beq_eq_false_iff_ne, ne_eq]
  omega
theorem wL1 {x : Hd} {kept : Int} : wrongL 1 x kept = !(x.b + x.n + kept == x.l) := by
  unfold wrongL
  rw [if_neg (by decide), if_neg (by decide)]
theorem wL2 {x : Hd} {kept : Int} : wrongL 2 x kept = (!(x.b + x.n + kept == x.l) || !(kept == 0)) := by
  unfold wrongL
  rw [if_neg (by decide), if_pos rfl, Bool.eq_iff_iff]
  simp only [Bool.or_eq_true, Bool.not_eq_true', beq_eq_false_iff_ne, ne_eq]
  omega

theorem below_of_regrown {W w' : World} (h : ∃ p : Regrown, w' = grow (redrawn W p.d) p.os) : Below W.heap.size W w' := by
  obtain ⟨p, rfl⟩ := h
  exact below_regrown _ _ _
/-- Four numbers stored into a block of the call's own. -/
theorem line_stored {A w : World} {B : Nat} {e : TypeId} {f : Nat → Value} (hY : Blk w B e 4 f) (hX : Below A.heap.size A w) (hB : A.heap.size ≤ B) (x : Hd) :
    ∃ W, (((w.setCell ⟨B, 0, none⟩ (.int .i64 x.o)).setCell ⟨B, 1, none⟩ (.int .i64 x.l)).setCell ⟨B, 2, none⟩ (.int .i64 x.b)).setCell ⟨B, 3, none⟩ (.int .i64 x.n) = W ∧ Below A.heap.size A W ∧
      Blk W B e 4 (fun j => (#[.int .i64 x.o, .int .i64 x.l, .int .i64 x.b, .int .i64 x.n] : Array Value).getD j default) :=
  ⟨_, rfl, (((hX.setCell (p := ⟨B, 0, none⟩) hB _).setCell (p := ⟨B, 1, none⟩) hB _).setCell (p := ⟨B, 2, none⟩) hB _).setCell (p := ⟨B, 3, none⟩) hB _,
    ((((hY.set 0 _).set 1 _).set 2 _).set 3 _).congr (fun j hj => by match j, hj with | 0, _ => rfl | 1, _ => rfl | 2, _ => rfl | 3, _ => rfl)⟩

end Go.Proofs.Ytjiodlbblmbibad

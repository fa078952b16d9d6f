/- A region that draws its order, of which all but a few operations come in one order only: walked once, in an order that is named. No program in it. -/
import Derived.WalkKit
import Derived.Orders
import Derived.Deep.RegionHeld3
import Derived.Deep.QuietTactic
import Derived.BigQuiet
namespace Go.Proofs.Ytjiodlbblmbibac
open Go.RowKit
set_option linter.unusedVariables false

/-- Each operation of the order may come up when it comes; either it alone, or it is one that is taken first (marked true). -/
def ordB (ops : Array Oper) : List (Bool × Nat) → Array Bool → Bool
  | [], listed => Region.ready .any ops listed == []
  | (h, i) :: r, listed => (if h then (Region.ready .any ops listed).contains i && Region.free .any ops listed i else Region.ready .any ops listed == [i]) && ordB ops r (listed.setIfInBounds i true)

/-- The walk in that order. What is taken first yields its value in whatever world. -/
def wpOrd (P : Program) (ops : Array Oper) (Q : Exit → Act → World → Prop) : List (Bool × Nat) → Act → World → Prop
  | [], a, w => Q .normal a w
  | (false, i) :: r, a, w => wpOp P ops Q i (wpOrd P ops Q r) a w
  | (true, i) :: r, a, w => ∃ o v, ops[i]? = some o ∧ Yields P ops o v a ∧ wpOrd P ops Q r (a.put o.dst v) w

theorem wpAny_of_ord {P : Program} {ops : Array Oper} {Q : Exit → Act → World → Prop} (hs : Region.noSelect ops = true)
    (hQ : ∀ c a a' w, Q (.panic c) a w → Q (.panic c) a' w) : ∀ (ord : List (Bool × Nat)) (listed : Array Bool) (a : Act) (w : World),
      ordB ops ord listed = true → wpOrd P ops Q ord a w → wpAny P .any ops Q ord.length listed a w
  | [], listed, a, w, hB, h => wpAny_done (by simpa [ordB] using hB) h _
  | (false, i) :: r, listed, a, w, hB, h => by
    simp only [ordB, Bool.false_eq_true, if_false, Bool.and_eq_true, beq_iff_eq] at hB
    refine wpAny_all hB.1 (by simp) fun j hj => ?_
    rw [List.mem_singleton] at hj
    subst hj
    exact wpOp_mono (fun a' w' h' => wpAny_of_ord hs hQ r _ a' w' hB.2 h') h
  | (true, i) :: r, listed, a, w, hB, h => by
    simp only [ordB, if_true, Bool.and_eq_true] at hB
    obtain ⟨o, v, ho, hy, hn⟩ := h
    exact wpAny_take ho hs hB.1.2 hB.1.1 (fun c a w hq => hQ _ _ _ _ hq) hy (wpAny_of_ord hs hQ r _ _ w hB.2 hn)

theorem wp_region_ord {P : Program} {ops : Array Oper} {Q : Exit → Act → World → Prop} {id : Nat} {a : Act} {w : World} (ord : List (Bool × Nat))
    (hm : P.follows .mixedOrders = true) (hs : Region.noSelect ops = true) (hB : ordB ops ord (Array.replicate ops.size false) = true) (hl : ord.length = ops.size)
    (h : wpOrd P ops (NoPanic Q) ord a w.drew) : (Code.region id ops true).wp P Q a w := by
  refine wp_region_noPanic (wp_region_any hm ?_)
  have := wpAny_of_ord (Q := NoPanic Q) hs (fun c a a' w h => (h : False).elim) ord (Array.replicate ops.size false) a w.drew hB h
  rw [hl] at this
  exact this

/-- The post at a panic and at running out is all that an operation asks of it. -/
theorem Oper.wp_then {P : Program} {o : Oper} {a : Act} {w : World} {K N : Act → World → Prop} {Q : Exit → Act → World → Prop} (h : o.wp P a w K (Exit.then N Q)) : o.wp P a w K Q := by
  unfold Oper.wp at *
  generalize (execOp a.eval o).run P w = r at *
  cases r with
  | ok n w' =>
    cases n <;> simp only [Oper.upon] at h ⊢ <;>
      first
        | exact h
        | exact Calls.mono h (fun e w'' he => by cases e <;> exact he)
        | exact Rows.mono h (fun _ _ he => he)
  | halt x w' => cases x <;> simp only [Oper.upon] at h ⊢ <;> exact h

/-- A run of operations, each alone. -/
theorem wpOrd_run {P : Program} {ops : Array Oper} {Q : Exit → Act → World → Prop} {r : List (Bool × Nat)} :
    ∀ (l : List Oper) (k : Nat) {a : Act} {w : World}, (∀ j, j < l.length → l[j]? = ops[k + j]?) →
      wpList P ops (Exit.then (wpOrd P ops Q r) Q) l a w → wpOrd P ops Q ((List.range' k l.length).map (fun i => (false, i)) ++ r) a w
  | [], k, a, w, _, h => h
  | o :: l, k, a, w, hl, h => by
    have h0 : ops[k]? = some o := by simpa using (hl 0 (by simp)).symm
    show wpOp P ops Q k _ a w
    unfold wpOp
    simp only [h0]
    unfold wpList at h
    have ih : ∀ a w, wpList P ops (Exit.then (wpOrd P ops Q r) Q) l a w → wpOrd P ops Q ((List.range' (k + 1) l.length).map (fun i => (false, i)) ++ r) a w :=
      fun a w h => wpOrd_run l (k + 1) (fun j hj => by have := hl (j + 1) (by simpa using hj); simpa [Nat.add_assoc, Nat.add_comm 1 j] using this) h
    split
    · rename_i hw
      rw [if_pos hw] at h
      rcases h with h | ⟨h1, h2⟩
      · exact .inl (Oper.wp_then (Oper.wp_mono ih h))
      · exact .inr ⟨h1, h2⟩
    · rename_i hw
      rw [if_neg hw] at h
      exact ih _ _ h

/-- m operations from number k on, each alone; then the rest. -/
theorem wpOrd_from {P : Program} {l : List Oper} {Q : Exit → Act → World → Prop} {r : List (Bool × Nat)} (k m : Nat) {a : Act} {w : World} (hk : k + m ≤ l.length)
    (h : wpList P l.toArray (Exit.then (wpOrd P l.toArray Q r) Q) ((l.drop k).take m) a w) : wpOrd P l.toArray Q ((List.range' k m).map (fun i => (false, i)) ++ r) a w := by
  have hlen : ((l.drop k).take m).length = m := by simp; omega
  have := wpOrd_run (r := r) ((l.drop k).take m) k (fun j hj => by
    rw [hlen] at hj
    rw [List.getElem?_take, if_pos hj, List.getElem?_drop]
    simp) h
  rwa [hlen] at this

/-- What hands a value back, if anything. -/
def vKind (o : Oper) : Bool := match o.op with
  | .move _ => true
  | .slice .. => true
  | _ => false

theorem vKind_spec {P : Program} {o : Oper} {ρ : Operand → Value} {w w' : World} {n : Next} (hv : vKind o = true) (h : (execOp ρ o).run P w = .ok n w') : ∃ v, n = .value v := by
  unfold vKind at hv
  unfold execOp at h
  split at hv
  · rename_i x hx
    rw [hx] at h
    simp only [] at h
    cases h
    exact ⟨_, rfl⟩
  · rename_i t x lo hi mx hx
    rw [hx] at h
    simp only [Sem.run_bind, Sem.run_pure] at h
    cases hr : (Instr.sliceAt t (ρ x) (lo.map ρ) (hi.map ρ) (mx.map ρ)).run P w with
    | ok u w2 =>
      rw [hr] at h
      simp only [Result.andThen] at h
      cases h
      exact ⟨_, rfl⟩
    | halt y w2 =>
      rw [hr] at h
      simp only [Result.andThen] at h
      cases h
  · cases hv

/-- Taken first: by the walk that only reads. -/
theorem wpOrd_first {P : Program} {l : List Oper} {Q : Exit → Act → World → Prop} {r : List (Bool × Nat)} (k : Nat) {o : Oper} {a : Act} {w : World} (hk : l[k]? = some o) (hv : vKind o = true)
    (h : wpQuiet P l.toArray (fun _ => True) (fun a' => wpOrd P l.toArray Q r a' w) [o] a) : wpOrd P l.toArray Q ((true, k) :: r) a w := by
  unfold wpQuiet at h
  split at h
  · rename_i hw
    obtain ⟨v, h1, h2⟩ := h
    refine ⟨o, v, by simpa using hk, .inl ⟨hw, fun w' => ?_⟩, h2⟩
    have := h1 w' trivial
    unfold Oper.quietAt at this
    cases hr : (execOp a.eval o).run P w' with
    | ok n w2 =>
      rw [hr] at this
      obtain ⟨u, rfl⟩ := vKind_spec hv hr
      simp only [Oper.quietUpon] at this
      rw [this.1, this.2]
    | halt x w2 => rw [hr] at this; exact this.elim
  · rename_i hw
    refine ⟨o, undef, by simpa using hk, .inr ⟨by simpa using hw, rfl⟩, h⟩

end Go.Proofs.Ytjiodlbblmbibac

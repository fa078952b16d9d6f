/- As R, under a condition S on worlds that every operation keeps: so that what only reads may be taken first. -/
import Derived.Test.YtjiodlbblmbibacR
namespace Go.Proofs.Ytjiodlbblmbibac
open Go.RowKit
set_option linter.unusedVariables false

def wpOrdS (P : Program) (ops : Array Oper) (Q : Exit → Act → World → Prop) (S : World → Prop) : List (Bool × Nat) → Act → World → Prop
  | [], a, w => Q .normal a w
  | (false, i) :: r, a, w => wpOp P ops Q i (fun a' w' => S w' ∧ wpOrdS P ops Q S r a' w') a w
  | (true, i) :: r, a, w => ∃ o v, ops[i]? = some o ∧ YieldsIf P ops S o v a ∧ wpOrdS P ops Q S r (a.put o.dst v) w

theorem wpAnyH_of_ord {P : Program} {ops : Array Oper} {Q : Exit → Act → World → Prop} {S : World → Prop} (hs : Region.noSelect ops = true)
    (hQ : ∀ c a a' w, Q (.panic c) a w → Q (.panic c) a' w) : ∀ (ord : List (Bool × Nat)) (listed : Array Bool) (a : Act) (w : World),
      ordB ops ord listed = true → S w → wpOrdS P ops Q S ord a w → wpAnyH P .any ops Q S ord.length listed a w
  | [], listed, a, w, hB, _, h => wpAnyH_done (by simpa [ordB] using hB) h _
  | (false, i) :: r, listed, a, w, hB, hS, h => by
    simp only [ordB, Bool.false_eq_true, if_false, Bool.and_eq_true, beq_iff_eq] at hB
    refine wpAnyH_all hB.1 (by simp) fun j hj => ?_
    rw [List.mem_singleton] at hj
    subst hj
    exact wpOp_mono (fun a' w' h' => ⟨h'.1, wpAnyH_of_ord hs hQ r _ a' w' hB.2 h'.1 h'.2⟩) h
  | (true, i) :: r, listed, a, w, hB, hS, h => by
    simp only [ordB, if_true, Bool.and_eq_true] at hB
    obtain ⟨o, v, ho, hy, hn⟩ := h
    exact wpAnyH_take ho hs hB.1.2 hB.1.1 (fun c a w hq => hQ _ _ _ _ hq) hy hS (wpAnyH_of_ord hs hQ r _ _ w hB.2 hS hn)

theorem wp_region_ordS {P : Program} {ops : Array Oper} {Q : Exit → Act → World → Prop} {id : Nat} {a : Act} {w : World} (S : World → Prop) (ord : List (Bool × Nat))
    (hm : P.follows .mixedOrders = true) (hs : Region.noSelect ops = true) (hB : ordB ops ord (Array.replicate ops.size false) = true) (hl : ord.length = ops.size)
    (hS : S w.drew) (h : wpOrdS P ops (NoPanic Q) S ord a w.drew) : (Code.region id ops true).wp P Q a w := by
  refine wp_region_noPanic (wp_region_held (S := S) hm ?_)
  have := wpAnyH_of_ord (Q := NoPanic Q) hs (fun c a a' w h => (h : False).elim) ord (Array.replicate ops.size false) a w.drew hB hS h
  rw [hl] at this
  exact this

/-- One operation that comes alone. -/
theorem wpOrdS_one {P : Program} {l : List Oper} {Q : Exit → Act → World → Prop} {S : World → Prop} {r : List (Bool × Nat)} (k : Nat) {a : Act} {w : World} (hk : k < l.length)
    (h : wpList P l.toArray (Exit.then (fun a' w' => S w' ∧ wpOrdS P l.toArray Q S r a' w') Q) ((l.drop k).take 1) a w) : wpOrdS P l.toArray Q S ((false, k) :: r) a w := by
  have h0 : l.toArray[k]? = some l[k] := by simp [hk]
  have h1 : (l.drop k).take 1 = [l[k]] := by
    rw [List.drop_eq_getElem_cons hk]
    rfl
  rw [h1] at h
  show wpOp P l.toArray Q k _ a w
  unfold wpOp
  simp only [h0]
  unfold wpList at h
  split
  · rename_i hw
    rw [if_pos hw] at h
    rcases h with h | ⟨h1, h2⟩
    · exact .inl (Oper.wp_then (Oper.wp_mono (fun a' w' h' => h') h))
    · exact .inr ⟨h1, h2⟩
  · rename_i hw
    rw [if_neg hw] at h
    exact h

def vKind2 (o : Oper) : Bool := match o.op with
  | .move _ => true
  | .assign _ => true
  | .slice .. => true
  | .load .. => true
  | .fieldAddr .. => true
  | .indexAddr .. => true
  | .binOp .. => true
  | _ => false

theorem valued {P : Program} {s : Sem Value} {w w' : World} {n : Next} (h : (do let x ← s; pure (Next.value x) : Sem Next).run P w = .ok n w') : ∃ v, n = .value v := by
  simp only [Sem.run_bind, Sem.run_pure] at h
  cases hr : s.run P w with
  | ok u w2 =>
    rw [hr] at h
    simp only [Result.andThen] at h
    cases h
    exact ⟨_, rfl⟩
  | halt y w2 =>
    rw [hr] at h
    simp only [Result.andThen] at h
    cases h

theorem vKind2_spec {P : Program} {o : Oper} {ρ : Operand → Value} {w w' : World} {n : Next} (hv : vKind2 o = true) (h : (execOp ρ o).run P w = .ok n w') : ∃ v, n = .value v := by
  unfold vKind2 at hv
  unfold execOp at h
  split at hv
  · rename_i x hx
    rw [hx] at h
    simp only [] at h
    cases h
    exact ⟨_, rfl⟩
  · rename_i x hx
    rw [hx] at h
    simp only [] at h
    cases h
    exact ⟨_, rfl⟩
  all_goals first
    | (cases hv; done)
    | (rename_i hx; rw [hx] at h; exact valued h)

/-- Taken first: by the walk that only reads. -/
theorem wpOrdS_first {P : Program} {l : List Oper} {Q : Exit → Act → World → Prop} {S : World → Prop} {r : List (Bool × Nat)} (k : Nat) {o : Oper} {a : Act} {w : World} (hk : l[k]? = some o) (hv : vKind2 o = true)
    (h : wpQuiet P l.toArray S (fun a' => wpOrdS P l.toArray Q S r a' w) [o] a) : wpOrdS P l.toArray Q S ((true, k) :: r) a w := by
  unfold wpQuiet at h
  split at h
  · rename_i hw
    obtain ⟨v, h1, h2⟩ := h
    refine ⟨o, v, by simpa using hk, .inl ⟨hw, fun w' hS => ?_⟩, h2⟩
    have := h1 w' hS
    unfold Oper.quietAt at this
    cases hr : (execOp a.eval o).run P w' with
    | ok n w2 =>
      rw [hr] at this
      obtain ⟨u, rfl⟩ := vKind2_spec hv hr
      simp only [Oper.quietUpon] at this
      rw [this.1, this.2]
    | halt x w2 => rw [hr] at this; exact this.elim
  · rename_i hw
    refine ⟨o, undef, by simpa using hk, .inr ⟨by simpa using hw, rfl⟩, h⟩

/-- Several taken first, in the order that is named. -/
theorem wpOrdS_firsts {P : Program} {l : List Oper} {Q : Exit → Act → World → Prop} {S : World → Prop} {r : List (Bool × Nat)} : ∀ (ks : List Nat) (os : List Oper) {a : Act} {w : World}, ks.map (fun k => l[k]?) = os.map some → (os.all vKind2) = true →
    wpQuiet P l.toArray S (fun a' => wpOrdS P l.toArray Q S r a' w) os a → wpOrdS P l.toArray Q S (ks.map (fun k => (true, k)) ++ r) a w
  | [], [], a, w, _, _, h => h
  | k :: ks, o :: os, a, w, hk, hv, h => by
    simp only [List.map_cons, List.cons.injEq] at hk
    simp only [List.all_cons, Bool.and_eq_true] at hv
    refine wpOrdS_first k hk.1 hv.1 ?_
    unfold wpQuiet at h ⊢
    split
    · rename_i hw
      rw [if_pos hw] at h
      obtain ⟨v, h1, h2⟩ := h
      exact ⟨v, h1, wpOrdS_firsts ks os hk.2 hv.2 h2⟩
    · rename_i hw
      rw [if_neg hw] at h
      exact wpOrdS_firsts ks os hk.2 hv.2 h
  | [], _ :: _, _, _, hk, _, _ => by simp at hk
  | _ :: _, [], _, _, hk, _, _ => by simp at hk

end Go.Proofs.Ytjiodlbblmbibac

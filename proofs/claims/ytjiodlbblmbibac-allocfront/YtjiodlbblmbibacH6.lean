/- Holds: right holds are told by what they keep; adding in either order. No walk. -/
import Derived.Test.YtjiodlbblmbibacH5
namespace Go.Proofs.Ytjiodlbblmbibac
open Go.RowKit
set_option linter.unusedVariables false

theorem ext_half {n m : Nat} {z y : Nat → Hd} (hr : anyB n (badH z) = false) (hq : anyB m (badH y) = false) (hk : ∀ o l b, keptV n z o l b = keptV m y o l b) (j : Nat)
    (ih : ∀ i, i < j → i < m → i < n ∧ z i = y i) (hj : j < n) : j < m ∧ keyH (y j) ≤ keyH (z j) := by
  have a := (kept_at hr hj (matchH_self (z j))).1
  have f := (fineH_true (right_fine hr j hj)).2.2.2
  rw [hk] at a
  obtain ⟨q1, q2, q3, q4, q5⟩ := kept_pos (o := (z j).o) (l := (z j).l) (b := (z j).b) hq (by omega)
  generalize dropI m y (z j).o (z j).l (z j).b = k at q1 q2 q3 q4 q5
  have hkey : keyH (y k) = keyH (z j) := match_key (n := (z j).n) q2
  have hjk : j ≤ k := by
    rcases Nat.lt_or_ge k j with c | c
    · obtain ⟨_, e⟩ := ih k c q1
      have := right_lt hr k j c hj
      rw [e] at this
      omega
    · exact c
  refine ⟨by omega, ?_⟩
  by_cases e : j = k
  · rw [e] at hkey ⊢; omega
  · have := q4 j (by omega); omega

theorem ext_at {n m : Nat} {z y : Nat → Hd} (hr : anyB n (badH z) = false) (hq : anyB m (badH y) = false) (hk : ∀ o l b, keptV n z o l b = keptV m y o l b) :
    ∀ k j, j < k → (j < n → j < m ∧ z j = y j) ∧ (j < m → j < n ∧ z j = y j) := by
  intro k
  induction k with
  | zero => intro j hj; omega
  | succ k ih =>
    intro j hj
    by_cases hjk : j < k
    · exact ih j hjk
    · have e : j = k := by omega
      subst e
      have both : j < n → j < m → z j = y j := fun h1 h2 => by
        have a := (ext_half hr hq hk j (fun i hi him => (ih i hi).2 him) h1).2
        have b := (ext_half hq hr (fun o l b => (hk o l b).symm) j (fun i hi him => ⟨((ih i hi).1 him).1, ((ih i hi).1 him).2.symm⟩) h2).2
        have hm := key_match (right_fine hr j h1) (right_fine hq j h2) (by omega)
        have k1 := (kept_at hr h1 hm).1
        have k2 := (kept_at hq h2 (matchH_self (y j))).1
        rw [hk, k2] at k1
        have c := matchH_true hm
        cases hz : z j
        cases hy : y j
        rw [hz, hy] at c k1
        simp only at c k1
        simp [c, k1]
      exact ⟨fun h => ⟨(ext_half hr hq hk j (fun i hi him => (ih i hi).2 him) h).1, both h (ext_half hr hq hk j (fun i hi him => (ih i hi).2 him) h).1⟩,
        fun h => ⟨(ext_half hq hr (fun o l b => (hk o l b).symm) j (fun i hi him => ⟨((ih i hi).1 him).1, ((ih i hi).1 him).2.symm⟩) h).1, both (ext_half hq hr (fun o l b => (hk o l b).symm) j (fun i hi him => ⟨((ih i hi).1 him).1, ((ih i hi).1 him).2.symm⟩) h).1 h⟩⟩

/-- Right holds that keep the same are the same. -/
theorem right_ext {n m : Nat} {z y : Nat → Hd} (hr : anyB n (badH z) = false) (hq : anyB m (badH y) = false) (hk : ∀ o l b, keptV n z o l b = keptV m y o l b) : n = m ∧ ∀ j, j < n → z j = y j := by
  have h := ext_at hr hq hk
  refine ⟨?_, fun j hj => ((h (j + 1) j (by omega)).1 hj).2⟩
  rcases Nat.lt_trichotomy n m with c | c | c
  · have := ((h (n + 1) n (by omega)).2 c).1; omega
  · exact c
  · have := ((h (m + 1) m (by omega)).1 c).1; omega

/-- Both ways of adding. -/
theorem add_both {n : Nat} {z : Nat → Hd} {h : Hd} (hr : anyB n (badH z) = false) (hf : fineH h = true) (h2 : keptV n z h.o h.l h.b + h.n ≤ 200) :
    anyB (addLen n z h) (badH (addZ n z h)) = false ∧ ∀ o l b, keptV (addLen n z h) (addZ n z h) o l b = keptV n z o l b + if matchH h o l b then h.n else 0 := by
  by_cases h0 : keptV n z h.o h.l h.b = 0
  · have e1 : addLen n z h = n + 1 := if_pos h0
    have e2 : addZ n z h = insZ z (addPos n z h) h := if_pos h0
    rw [e1, e2]
    obtain ⟨a, b, _⟩ := add_ins hr hf h0
    exact ⟨a, b⟩
  · have e1 : addLen n z h = n := if_neg h0
    have e2 : addZ n z h = setZ z (addPos n z h) ⟨h.o, h.l, h.b, keptV n z h.o h.l h.b + h.n⟩ := if_neg h0
    rw [e1, e2]
    obtain ⟨a, b, _⟩ := add_set hr hf h0 h2
    exact ⟨a, b⟩

theorem addE_zero {n : Nat} {z : Nat → Hd} {h : Hd} (e : addE n z h = 0) : anyB n (badH z) = false ∧ fineH h = true ∧ keptV n z h.o h.l h.b + h.n ≤ 200 := by
  unfold addE at e
  by_cases h0 : checkH n z = 0
  · rw [if_pos h0] at e
    cases hf : fineH h
    · rw [hf] at e; simp at e
    · rw [hf] at e
      simp only [if_true] at e
      by_cases h2 : 200 < keptV n z h.o h.l h.b + h.n
      · rw [if_pos h2] at e; omega
      · exact ⟨checkH_zero h0, rfl, by omega⟩
  · rw [if_neg h0] at e; exact absurd e h0

theorem checkH_right {n : Nat} {z : Nat → Hd} (h : anyB n (badH z) = false) : checkH n z = 0 := by unfold checkH; rw [h]; rfl

theorem addE_of {n : Nat} {z : Nat → Hd} {h : Hd} (hr : anyB n (badH z) = false) (hf : fineH h = true) : addE n z h = if 200 < keptV n z h.o h.l h.b + h.n then 3 else 0 := by
  unfold addE
  rw [checkH_right hr, hf]
  rfl

/-- What holds is the same for lists that agree as far as they go. -/
theorem badH_congr {z y : Nat → Hd} {n : Nat} (h : ∀ j, j < n → z j = y j) : anyB n (badH z) = anyB n (badH y) := by
  have e : ∀ j, j < n → badH z j = badH y j := fun j hj => by
    unfold badH
    rw [h j hj]
    by_cases h0 : 0 < j
    · rw [h (j - 1) (by omega)]
    · simp [h0]
  cases hq : anyB n (badH y)
  · exact anyB_no fun j hj => by rw [e j hj]; exact anyB_false hq j hj
  · cases hz : anyB n (badH z)
    · have : anyB n (badH y) = false := anyB_no fun j hj => by rw [← e j hj]; exact anyB_false hz j hj
      rw [this] at hq; cases hq
    · rfl
theorem keptV_congr {z y : Nat → Hd} {n : Nat} (h : ∀ j, j < n → z j = y j) (o l b : Int) : keptV n z o l b = keptV n y o l b := by
  rcases keptV_cases n y o l b with hn | ⟨k, hk, h1, h2⟩
  · rw [keptV_none hn, keptV_none fun j hj => by rw [h j hj]; exact hn j hj]
  · rw [keptV_some hk h1 h2, keptV_some hk (fun j hj => by rw [h j (by omega)]; exact h1 j hj) (by rw [h k hk]; exact h2), h k hk]
theorem keptS_congr {z y : Nat → Hd} (o l : Int) : ∀ {n : Nat}, (∀ j, j < n → z j = y j) → keptS z o l n = keptS y o l n
  | 0, _ => rfl
  | n + 1, h => by
    simp only [keptS]
    rw [keptS_congr o l (n := n) fun j hj => h j (by omega), h n (by omega)]

/-- A list that came of adding. -/
theorem AddOK.right {n : Nat} {z : Nat → Hd} {h : Hd} {x : Hs} (hx : AddOK n z h x) (e : addE n z h = 0) :
    anyB x.n (badH x.z) = false ∧ ∀ o l b, keptV x.n x.z o l b = keptV n z o l b + if matchH h o l b then h.n else 0 := by
  obtain ⟨a, b, c⟩ := addE_zero e
  obtain ⟨r, k⟩ := add_both a b c
  have hn : x.n = addLen n z h := by have := hx.1; rw [if_pos e] at this; exact this
  have hz := hx.2
  rw [hn] at hz ⊢
  exact ⟨by rw [badH_congr hz]; exact r, fun o l b => by rw [keptV_congr hz]; exact k o l b⟩
theorem AddOK.none {n : Nat} {z : Nat → Hd} {h : Hd} {x : Hs} (hx : AddOK n z h x) (e : ¬ addE n z h = 0) : x.n = 0 := by
  have := hx.1; rw [if_neg e] at this; exact this

/-- The sum of a line, after adding. -/
theorem kept_sum {n m : Nat} {z y : Nat → Hd} {h : Hd} (hr : anyB n (badH z) = false) (hq : anyB m (badH y) = false) (hf : fineH h = true) (hk : ∀ o l b, keptV m y o l b = keptV n z o l b + if matchH h o l b then h.n else 0) (o l : Int) :
    keptS y o l m = keptS z o l n + if h.o = o ∧ h.l = l then h.n else 0 := by
  rw [← kept_eq z o l n hr, ← kept_eq y o l m hq]
  have f := fineH_true hf
  by_cases hm : h.o = o ∧ h.l = l
  · rw [if_pos hm]
    refine sumTo_put (m := h.b.toNat) (by omega) fun b hb => ?_
    rw [hk]
    by_cases hbb : b = h.b.toNat
    · have : matchH h o l b = true := by
        have e : (b : Int) = h.b := by omega
        simp [matchH, hm, e]
      rw [this, if_pos rfl, if_pos hbb]
    · have : matchH h o l b = false := by
        cases hq : matchH h o l b
        · rfl
        · have := matchH_true hq; omega
      simp [this, hbb]
  · rw [if_neg hm, Int.add_zero]
    refine sumTo_congr fun b hb => ?_
    rw [hk]
    have : matchH h o l b = false := by
      cases hq : matchH h o l b
      · rfl
      · have := matchH_true hq
        exact absurd ⟨this.1, this.2.1⟩ hm
    simp [this]

/-- Adding two, in either order. -/
theorem add_order {n : Nat} {z : Nat → Hd} {a b : Hd} {x y : Hs} (hx : AddOK n z a x) (hy : AddOK n z b y) (ea : addE n z a = 0) (eb : addE n z b = 0) :
    addE x.n x.z b = addE y.n y.z a ∧ ∀ u v : Hs, AddOK x.n x.z b u → AddOK y.n y.z a v → u.n = v.n ∧ ∀ j, j < u.n → u.z j = v.z j := by
  obtain ⟨rx, kx⟩ := hx.right ea
  obtain ⟨ry, ky⟩ := hy.right eb
  obtain ⟨r0, fa, a2⟩ := addE_zero ea
  obtain ⟨_, fb, b2⟩ := addE_zero eb
  have hE : addE x.n x.z b = addE y.n y.z a := by
    rw [addE_of rx fb, addE_of ry fa, kx, ky]
    cases hm : matchH a b.o b.l b.b
    · have hm' : matchH b a.o a.l a.b = false := by
        cases hq : matchH b a.o a.l a.b
        · rfl
        · have c := matchH_true hq
          have : matchH a b.o b.l b.b = true := by simp [matchH, c]
          rw [this] at hm; cases hm
      rw [hm']
      simp only [Bool.false_eq_true, if_false, Int.add_zero]
      rw [if_neg (by omega), if_neg (by omega)]
    · have c := matchH_true hm
      have hm' : matchH b a.o a.l a.b = true := by simp [matchH, c]
      rw [hm', c.1, c.2.1, c.2.2]
      simp only [if_true]
      by_cases hg : 200 < keptV n z b.o b.l b.b + a.n + b.n
      · rw [if_pos hg, if_pos (by omega)]
      · rw [if_neg hg, if_neg (by omega)]
  refine ⟨hE, fun u v hu hv => ?_⟩
  by_cases e : addE x.n x.z b = 0
  · obtain ⟨ru, ku⟩ := hu.right e
    obtain ⟨rv, kv⟩ := hv.right (by rw [← hE]; exact e)
    refine right_ext ru rv fun o l b' => ?_
    rw [ku, kv, kx, ky]
    omega
  · have h1 := hu.none e
    have h2 := hv.none (by rw [← hE]; exact e)
    exact ⟨by omega, fun j hj => by omega⟩

end Go.Proofs.Ytjiodlbblmbibac

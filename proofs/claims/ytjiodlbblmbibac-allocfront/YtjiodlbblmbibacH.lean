/- Holds: plain words; what lies in memory. No walk. -/
import Derived.Test.YtjiodlbblmbibacK
namespace Go.Proofs.Ytjiodlbblmbibac
open Go.RowKit
set_option linter.unusedVariables false

structure Hd where
  o : Int
  l : Int
  b : Int
  n : Int

def Hd.val (x : Hd) : Value := .agg #[.int .i64 x.o, .int .i64 x.l, .int .i64 x.b, .int .i64 x.n]
def hdCells (x : Hd) : List Value := [.int .i64 x.o, .int .i64 x.l, .int .i64 x.b, .int .i64 x.n]

def fineH (x : Hd) : Bool := inB x.o 0 3 && inB x.l 0 2 && inB x.b 0 5 && inB x.n 1 200
def keyH (x : Hd) : Int := (x.o * 3 + x.l) * 6 + x.b
def cmpI (a b : Int) : Int := if a < b then -1 else if b < a then 1 else 0
def orI (a b c : Int) : Int := if a = 0 then (if b = 0 then c else b) else a
def cmpH (x y : Hd) : Int := orI (cmpI x.o y.o) (cmpI x.l y.l) (cmpI x.b y.b)

theorem fineH_true {x : Hd} (h : fineH x = true) : (0 ≤ x.o ∧ x.o ≤ 3) ∧ (0 ≤ x.l ∧ x.l ≤ 2) ∧ (0 ≤ x.b ∧ x.b ≤ 5) ∧ 1 ≤ x.n ∧ x.n ≤ 200 := by
  simp only [fineH, Bool.and_eq_true] at h
  exact ⟨inB_true h.1.1.1, inB_true h.1.1.2, inB_true h.1.2, inB_true h.2⟩

theorem cmp_key {x y : Hd} (hx : fineH x = true) (hy : fineH y = true) : (0 ≤ cmpH x y ↔ keyH y ≤ keyH x) ∧ (cmpH x y = 0 ↔ keyH x = keyH y) := by
  have a := fineH_true hx
  have b := fineH_true hy
  unfold cmpH orI cmpI keyH
  constructor
  all_goals (repeat' split) <;> omega

theorem cmp_zero {x y : Hd} : cmpH x y = 0 ↔ x.o = y.o ∧ x.l = y.l ∧ x.b = y.b := by
  unfold cmpH orI cmpI
  (repeat' split) <;> omega

theorem cmp_neg {x y : Hd} : cmpH x y < 0 ↔ x.o < y.o ∨ (x.o = y.o ∧ (x.l < y.l ∨ (x.l = y.l ∧ x.b < y.b))) := by
  unfold cmpH orI cmpI
  (repeat' split) <;> omega
/-- The compare is transitive. -/
theorem cmp_trans {x y z : Hd} (h1 : cmpH x y < 0) (h2 : cmpH y z < 0) : cmpH x z < 0 := by
  rw [cmp_neg] at *
  omega

def badH (z : Nat → Hd) (i : Nat) : Bool := !fineH (z i) || (decide (0 < i) && decide (0 ≤ cmpH (z (i - 1)) (z i)))
def badK (z : Nat → Hd) (i : Nat) : Bool := !fineH (z i) || (decide (0 < i) && decide (keyH (z i) ≤ keyH (z (i - 1))))

theorem bad_eq (z : Nat → Hd) : ∀ n, anyB n (badK z) = anyB n (badH z)
  | 0 => rfl
  | n + 1 => by
    rw [anyB_succ, anyB_succ, bad_eq z n]
    cases h : anyB n (badH z)
    · simp only [Bool.false_or]
      unfold badK badH
      cases hf : fineH (z n)
      · simp
      · by_cases hn : 0 < n
        · have hp := anyB_false h (n - 1) (by omega)
          have hfp : fineH (z (n - 1)) = true := by
            cases hq : fineH (z (n - 1))
            · simp [badH, hq] at hp
            · rfl
          have := (cmp_key hfp hf).1
          simp only [hn, decide_true, Bool.true_and, Bool.not_true, Bool.false_or]
          rw [Bool.eq_iff_iff]
          simp only [decide_eq_true_eq]
          exact this.symm
        · simp [hn]
    · simp

def checkH (n : Nat) (z : Nat → Hd) : Int := if anyB n (badH z) then 1 else 0

/-- What is known of right holds. -/
theorem right_fine {n : Nat} {z : Nat → Hd} (h : anyB n (badH z) = false) : ∀ i, i < n → fineH (z i) = true := by
  intro i hi
  have := anyB_false h i hi
  cases hq : fineH (z i)
  · simp [badH, hq] at this
  · rfl
theorem right_step {n : Nat} {z : Nat → Hd} (h : anyB n (badH z) = false) : ∀ i, i + 1 < n → keyH (z i) < keyH (z (i + 1)) := by
  intro i hi
  have h1 := anyB_false h (i + 1) hi
  have f1 := right_fine h i (by omega)
  have f2 := right_fine h (i + 1) hi
  have := (cmp_key f1 f2).1
  simp only [badH, f2, Bool.not_true, Bool.false_or, Nat.succ_pos, decide_true, Bool.true_and, Nat.add_sub_cancel, decide_eq_false_iff_not] at h1
  rw [this] at h1
  omega
theorem right_lt {n : Nat} {z : Nat → Hd} (h : anyB n (badH z) = false) : ∀ i j, i < j → j < n → keyH (z i) < keyH (z j) := by
  intro i j hij hj
  induction j with
  | zero => omega
  | succ j ih =>
    have s := right_step h j hj
    by_cases hij' : i = j
    · subst hij'; exact s
    · have := ih (by omega) (by omega); omega
theorem right_key {n : Nat} {z : Nat → Hd} (h : anyB n (badH z) = false) : ∀ i, i < n → (i : Int) ≤ keyH (z i) ∧ keyH (z i) ≤ 71 := by
  intro i hi
  have f := fineH_true (right_fine h i hi)
  constructor
  · induction i with
    | zero => unfold keyH; omega
    | succ i ih =>
      have := right_step h i hi
      have := ih (by omega) (fineH_true (right_fine h i (by omega)))
      omega
  · unfold keyH; omega
theorem right_len {n : Nat} {z : Nat → Hd} (h : anyB n (badH z) = false) : n ≤ 72 := by
  by_cases hn : n = 0
  · omega
  · have := right_key h (n - 1) (by omega)
    omega

/-- n holds lie from the address a on. -/
def HdsAt (w : World) (a : Option Addr) (n : Nat) (z : Nat → Hd) : Prop :=
  ∀ i, i < n → ∃ b o, a = some ⟨b, o, none⟩ ∧ b < w.heap.size ∧ w.cell? ⟨b, o + i * 4, none⟩ = some (.int .i64 (z i).o) ∧
    w.cell? ⟨b, o + i * 4 + 1, none⟩ = some (.int .i64 (z i).l) ∧ w.cell? ⟨b, o + i * 4 + 2, none⟩ = some (.int .i64 (z i).b) ∧
    w.cell? ⟨b, o + i * 4 + 3, none⟩ = some (.int .i64 (z i).n)

theorem HdsAt.below {w w' : World} {a : Option Addr} {n : Nat} {z : Nat → Hd} (h : HdsAt w a n z) (hB : Below w.heap.size w w') : HdsAt w' a n z := by
  intro i hi
  obtain ⟨b, o, ha, hb, h0, h1, h2, h3⟩ := h i hi
  exact ⟨b, o, ha, Nat.lt_of_lt_of_le hb hB.size, (hB.cell (p := ⟨b, o + i * 4, none⟩) hb).trans h0, (hB.cell (p := ⟨b, o + i * 4 + 1, none⟩) hb).trans h1,
    (hB.cell (p := ⟨b, o + i * 4 + 2, none⟩) hb).trans h2, (hB.cell (p := ⟨b, o + i * 4 + 3, none⟩) hb).trans h3⟩

structure Hs where
  a : Option Addr
  n : Nat
  c : Nat
  z : Nat → Hd
def Hs.val (s : Hs) : Value := .slice s.a s.n s.c
structure Hs.At (w : World) (s : Hs) : Prop where
  le : s.n ≤ s.c
  cap : s.c ≤ maxLen
  hds : HdsAt w s.a s.n s.z
  nilc : s.a = none → s.c = 0
theorem Hs.At.below {w w' : World} {s : Hs} (h : s.At w) (hB : Below w.heap.size w w') : s.At w' := ⟨h.le, h.cap, h.hds.below hB, h.nilc⟩

end Go.Proofs.Ytjiodlbblmbibac

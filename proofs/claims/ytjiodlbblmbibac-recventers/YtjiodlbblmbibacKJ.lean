/- Texts that were built one behind the other, joined. -/
import Derived.Test.YtjiodlbblmbibacM
import Derived.Maps.AppendAt
/- Blocks of the call's own, by their cells. No walk. -/
namespace Go.Proofs.Ytjiodlbblmbibac
open Go.RowKit
set_option linter.unusedVariables false

/-- Block g is a row of type e, not frozen; its first n cells are f. -/
def Blk (w : World) (g : Nat) (e : TypeId) (n : Nat) (f : Nat → Value) : Prop :=
  ∃ cur, w.heap[g]? = some (.cells cur e (0, 0)) ∧ n ≤ cur.size ∧ ∀ j, j < n → cur[j]? = some (f j)

theorem Blk.lt {w : World} {g : Nat} {e : TypeId} {n : Nat} {f : Nat → Value} (h : Blk w g e n f) : g < w.heap.size := by
  obtain ⟨cur, hc, _⟩ := h
  exact (Array.getElem?_eq_some_iff.1 hc).1
theorem Blk.cell {w : World} {g : Nat} {e : TypeId} {n : Nat} {f : Nat → Value} (h : Blk w g e n f) {j : Nat} (hj : j < n) : w.cell? ⟨g, j, none⟩ = some (f j) := by
  obtain ⟨cur, hc, _, hf⟩ := h
  simp [World.cell?, hc, hf j hj]
theorem Blk.frozen {w : World} {g : Nat} {e : TypeId} {n : Nat} {f : Nat → Value} (h : Blk w g e n f) (j : Nat) : w.frozen? ⟨g, j, none⟩ = false := by
  obtain ⟨cur, hc, _, hf⟩ := h
  simp [World.frozen?, hc]
theorem Blk.same {w w' : World} {g : Nat} {e : TypeId} {n : Nat} {f : Nat → Value} (h : Blk w g e n f) (hs : w'.heap[g]? = w.heap[g]?) : Blk w' g e n f := by
  obtain ⟨cur, hc, hr⟩ := h
  exact ⟨cur, hs.trans hc, hr⟩
theorem Blk.below {w w' : World} {g : Nat} {e : TypeId} {n : Nat} {f : Nat → Value} (h : Blk w g e n f) (hB : Below w.heap.size w w') : Blk w' g e n f := h.same (hB.block g h.lt)
theorem Blk.grown {w w' : World} {g : Nat} {e : TypeId} {n : Nat} {f : Nat → Value} {row : Option Nat} (h : Blk w g e n f) (hg : w.grownBy w' row) (hne : some g ≠ row) : Blk w' g e n f := h.same (hg.block g h.lt hne)
theorem Blk.congr {w : World} {g : Nat} {e : TypeId} {n : Nat} {f f' : Nat → Value} (h : Blk w g e n f) (hf : ∀ j, j < n → f j = f' j) : Blk w g e n f' := by
  obtain ⟨cur, hc, hn, hr⟩ := h
  exact ⟨cur, hc, hn, fun j hj => by rw [hr j hj, hf j hj]⟩
theorem Blk.other {w : World} {g : Nat} {e : TypeId} {n : Nat} {f : Nat → Value} (h : Blk w g e n f) {a : Addr} (hne : g ≠ a.block) (v : Value) : Blk (w.setCell a v) g e n f := h.same (Below.heap_setCell w a v g hne)
theorem Blk.set {w : World} {g : Nat} {e : TypeId} {n : Nat} {f : Nat → Value} (h : Blk w g e n f) (j : Nat) (v : Value) : Blk (w.setCell ⟨g, j, none⟩ v) g e n (fun i => if i = j then v else f i) := by
  obtain ⟨cur, hc, hn, hr⟩ := h
  refine ⟨cur.setIfInBounds j v, ?_, by simpa using hn, ?_⟩
  · simp [World.setCell, Array.getElem?_modify, hc]
  · intro i hi
    rw [Array.getElem?_setIfInBounds]
    by_cases hij : i = j
    · subst hij
      simp; omega
    · rw [if_neg (fun e => hij e.symm), hr i hi]; simp [hij]
theorem Blk.new (w : World) (cur : Array Value) (e : TypeId) : Blk (w.alloc (.cells cur e)) w.heap.size e cur.size (fun j => cur.getD j default) := by
  refine ⟨cur, heap_alloc_new w _, Nat.le_refl _, fun j hj => ?_⟩
  simp [Array.getD, hj]
theorem Blk.ofOwns {w : World} {base : Nat} {e : TypeId} {size : Nat} {v : Value} {n : Nat} {xs : List Value} (h : w.ownsRow base e size v n xs) (hn : v ≠ .slice none 0 0) :
    ∃ g c, v = .slice (some ⟨g, 0, none⟩) n c ∧ n ≤ c ∧ c ≤ maxLen ∧ base ≤ g ∧ Blk w g e (n * size) (fun j => xs.getD j default) := by
  obtain ⟨hl, h | ⟨g, cap, cur, rfl, hb, hg, h1, h2, h3, h4⟩⟩ := h
  · exact absurd h.1 hn
  · refine ⟨g, cap, rfl, h1, h2, hb, cur, hg, by rw [h3]; exact Nat.mul_le_mul_right _ h1, fun j hj => ?_⟩
    have : xs[j]? = cur[j]? := by
      rw [← h4, List.getElem?_take, if_pos hj]; simp
    rw [← this, List.getElem?_eq_getElem (by omega)]
    simp [List.getD, List.getElem?_eq_getElem (show j < xs.length by omega)]

theorem Blk.mk' {w : World} {g : Nat} {cur : Array Value} {e : TypeId} {f : Nat → Value} (hg : g = w.heap.size) (hf : f = fun j => cur.getD j default) : Blk (w.alloc (.cells cur e)) g e cur.size f := by
  subst hg hf
  exact Blk.new w cur e
theorem Blk.alloc {w : World} {g : Nat} {e : TypeId} {n : Nat} {f : Nat → Value} (h : Blk w g e n f) (o : Obj) : Blk (w.alloc o) g e n f := h.below ((Below.refl _ _).alloc (Nat.le_refl _) o)

/-- Integers in a block of the call's own. -/
theorem Blk.ints {w : World} {g : Nat} {e : TypeId} {n : Nat} {z : Nat → Int} (h : Blk w g e n (fun j => .int .i64 (z j))) : IntsAt w (some ⟨g, 0, none⟩) n z := fun i hi =>
  ⟨g, 0, rfl, h.lt, by rw [Nat.zero_add]; exact h.cell hi⟩

end Go.Proofs.Ytjiodlbblmbibac
/- Holds: plain words; what lies in memory. No walk. -/
namespace Go.Proofs.Ytjiodlbblmbibac
open Go.RowKit
set_option linter.unusedVariables false

structure Hd where
  o : Int
  l : Int
  b : Int
  n : Int

def Hd.val (x : Hd) : Value := .agg #[.int .i64 x.o, .int .i64 x.l, .int .i64 x.b, .int .i64 x.n]
def hdCells (x : Hd) : List Value := [.int .i64 x.o, .int .i64 x.l, .int .i64 x.b, .int .i64 x.n]

def fineH (x : Hd) : Bool := inB x.o 0 3 && inB x.l 0 2 && inB x.b 0 5 && inB x.n 1 200
def keyH (x : Hd) : Int := (x.o * 3 + x.l) * 6 + x.b
def cmpI (a b : Int) : Int := if a < b then -1 else if b < a then 1 else 0
def orI (a b c : Int) : Int := if a = 0 then (if b = 0 then c else b) else a
def cmpH (x y : Hd) : Int := orI (cmpI x.o y.o) (cmpI x.l y.l) (cmpI x.b y.b)

theorem fineH_true {x : Hd} (h : fineH x = true) : (0 ≤ x.o ∧ x.o ≤ 3) ∧ (0 ≤ x.l ∧ x.l ≤ 2) ∧ (0 ≤ x.b ∧ x.b ≤ 5) ∧ 1 ≤ x.n ∧ x.n ≤ 200 := by
  simp only [fineH, Bool.and_eq_true] at h
  exact ⟨inB_true h.1.1.1, inB_true h.1.1.2, inB_true h.1.2, inB_true h.2⟩

theorem cmp_key {x y : Hd} (hx : fineH x = true) (hy : fineH y = true) : (0 ≤ cmpH x y ↔ keyH y ≤ keyH x) ∧ (cmpH x y = 0 ↔ keyH x = keyH y) := by
  have a := fineH_true hx
  have b := fineH_true hy
  unfold cmpH orI cmpI keyH
  constructor
  all_goals (repeat' split) <;> omega

theorem cmp_zero {x y : Hd} : cmpH x y = 0 ↔ x.o = y.o ∧ x.l = y.l ∧ x.b = y.b := by
  unfold cmpH orI cmpI
  (repeat' split) <;> omega

theorem cmp_neg {x y : Hd} : cmpH x y < 0 ↔ x.o < y.o ∨ (x.o = y.o ∧ (x.l < y.l ∨ (x.l = y.l ∧ x.b < y.b))) := by
  unfold cmpH orI cmpI
  (repeat' split) <;> omega
/-- The compare is transitive. -/
theorem cmp_trans {x y z : Hd} (h1 : cmpH x y < 0) (h2 : cmpH y z < 0) : cmpH x z < 0 := by
  rw [cmp_neg] at *
  omega

def badH (z : Nat → Hd) (i : Nat) : Bool := !fineH (z i) || (decide (0 < i) && decide (0 ≤ cmpH (z (i - 1)) (z i)))
def badK (z : Nat → Hd) (i : Nat) : Bool := !fineH (z i) || (decide (0 < i) && decide (keyH (z i) ≤ keyH (z (i - 1))))

theorem bad_eq (z : Nat → Hd) : ∀ n, anyB n (badK z) = anyB n (badH z)
  | 0 => rfl
  | n + 1 => by
    rw [anyB_succ, anyB_succ, bad_eq z n]
    cases h : anyB n (badH z)
    · simp only [Bool.false_or]
      unfold badK badH
      cases hf : fineH (z n)
      · simp
      · by_cases hn : 0 < n
        · have hp := anyB_false h (n - 1) (by omega)
          have hfp : fineH (z (n - 1)) = true := by
            cases hq : fineH (z (n - 1))
            · simp [badH, hq] at hp
            · rfl
          have := (cmp_key hfp hf).1
          simp only [hn, decide_true, Bool.true_and, Bool.not_true, Bool.false_or]
          rw [Bool.eq_iff_iff]
          simp only [decide_eq_true_eq]
          exact this.symm
        · simp [hn]
    · simp

def checkH (n : Nat) (z : Nat → Hd) : Int := if anyB n (badH z) then 1 else 0

/-- What is known of right holds. -/
theorem right_fine {n : Nat} {z : Nat → Hd} (h : anyB n (badH z) = false) : ∀ i, i < n → fineH (z i) = true := by
  intro i hi
  have := anyB_false h i hi
  cases hq : fineH (z i)
  · simp [badH, hq] at this
  · rfl
theorem right_step {n : Nat} {z : Nat → Hd} (h : anyB n (badH z) = false) : ∀ i, i + 1 < n → keyH (z i) < keyH (z (i + 1)) := by
  intro i hi
  have h1 := anyB_false h (i + 1) hi
  have f1 := right_fine h i (by omega)
  have f2 := right_fine h (i + 1) hi
  have := (cmp_key f1 f2).1
  simp only [badH, f2, Bool.not_true, Bool.false_or, Nat.succ_pos, decide_true, Bool.true_and, Nat.add_sub_cancel, decide_eq_false_iff_not] at h1
  rw [this] at h1
  omega
theorem right_lt {n : Nat} {z : Nat → Hd} (h : anyB n (badH z) = false) : ∀ i j, i < j → j < n → keyH (z i) < keyH (z j) := by
  intro i j hij hj
  induction j with
  | zero => omega
  | succ j ih =>
    have s := right_step h j hj
    by_cases hij' : i = j
    · subst hij'; exact s
    · have := ih (by omega) (by omega); omega
theorem right_key {n : Nat} {z : Nat → Hd} (h : anyB n (badH z) = false) : ∀ i, i < n → (i : Int) ≤ keyH (z i) ∧ keyH (z i) ≤ 71 := by
  intro i hi
  have f := fineH_true (right_fine h i hi)
  constructor
  · induction i with
    | zero => unfold keyH; omega
    | succ i ih =>
      have := right_step h i hi
      have := ih (by omega) (fineH_true (right_fine h i (by omega)))
      omega
  · unfold keyH; omega
theorem right_len {n : Nat} {z : Nat → Hd} (h : anyB n (badH z) = false) : n ≤ 72 := by
  by_cases hn : n = 0
  · omega
  · have := right_key h (n - 1) (by omega)
    omega

/-- n holds lie from the address a on. -/
def HdsAt (w : World) (a : Option Addr) (n : Nat) (z : Nat → Hd) : Prop :=
  ∀ i, i < n → ∃ b o, a = some ⟨b, o, none⟩ ∧ b < w.heap.size ∧ w.cell? ⟨b, o + i * 4, none⟩ = some (.int .i64 (z i).o) ∧
    w.cell? ⟨b, o + i * 4 + 1, none⟩ = some (.int .i64 (z i).l) ∧ w.cell? ⟨b, o + i * 4 + 2, none⟩ = some (.int .i64 (z i).b) ∧
    w.cell? ⟨b, o + i * 4 + 3, none⟩ = some (.int .i64 (z i).n)

theorem HdsAt.below {w w' : World} {a : Option Addr} {n : Nat} {z : Nat → Hd} (h : HdsAt w a n z) (hB : Below w.heap.size w w') : HdsAt w' a n z := by
  intro i hi
  obtain ⟨b, o, ha, hb, h0, h1, h2, h3⟩ := h i hi
  exact ⟨b, o, ha, Nat.lt_of_lt_of_le hb hB.size, (hB.cell (p := ⟨b, o + i * 4, none⟩) hb).trans h0, (hB.cell (p := ⟨b, o + i * 4 + 1, none⟩) hb).trans h1,
    (hB.cell (p := ⟨b, o + i * 4 + 2, none⟩) hb).trans h2, (hB.cell (p := ⟨b, o + i * 4 + 3, none⟩) hb).trans h3⟩

structure Hs where
  a : Option Addr
  n : Nat
  c : Nat
  z : Nat → Hd
def Hs.val (s : Hs) : Value := .slice s.a s.n s.c
structure Hs.At (w : World) (s : Hs) : Prop where
  le : s.n ≤ s.c
  cap : s.c ≤ maxLen
  hds : HdsAt w s.a s.n s.z
  nilc : s.a = none → s.c = 0
theorem Hs.At.below {w w' : World} {s : Hs} (h : s.At w) (hB : Below w.heap.size w w') : s.At w' := ⟨h.le, h.cap, h.hds.below hB, h.nilc⟩

end Go.Proofs.Ytjiodlbblmbibac

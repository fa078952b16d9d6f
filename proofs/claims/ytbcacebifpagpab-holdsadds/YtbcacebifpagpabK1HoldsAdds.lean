/- Texts that were built one behind the other, joined; what HoldsAdds does not reach is left out. -/
import Derived.WalkKit
import Derived.Test.YtbcacebifpagpabRows
import Derived.Laws.EntriesVeiled
import Derived.WalkSpells
import Derived.WalkLawsBesides
import Derived.Deep.QuietTactic
import Derived.BigQuiet
import Derived.Deep.RegionHeld3
import Derived.Shelf.Abstract
import Derived.Maps.AppendAt
import Derived.Orders
import Derived.Lib.QuietBelow
import Derived.Lib.AppendZerosOnto
import Derived.Lib.Walk
import Derived.Lib.SliceRun
import Derived.Laws.AppendOwnNone
import Derived.BigRegion
import Derived.ProofKit
import Derived.OpenShut
import Derived.Lib.SmallJoins
import Derived.Deep.Slices
namespace Go.Proofs.Ytbcacebifpagpab
open Go.RowKit
set_option linter.unusedVariables false
theorem calls_to {P : Program} {f : Nat} {args : Array Value} {w : World} {R : Ending → World → Prop} {v : Value}
    (h : Calls P f args w fun e w' => e = .returned v ∧ w' = w) (k : R (.returned v) w) : Calls P f args w R :=
  h.mono (by rintro e w' ⟨rfl, rfl⟩; exact k)
def inB (n low high : Int) : Bool := decide (low ≤ n ∧ n ≤ high)
theorem inB_true {n low high : Int} (h : inB n low high = true) : low ≤ n ∧ n ≤ high := by simpa [inB] using h
def anyB (n : Nat) (bad : Nat → Bool) : Bool := (List.range n).any bad
theorem anyB_no {n : Nat} {bad : Nat → Bool} (h : ∀ j, j < n → bad j = false) : anyB n bad = false := by
  unfold anyB; rw [List.any_eq_false]; intro x hx; simp [h x (List.mem_range.1 hx)]
theorem anyB_yes {n k : Nat} {bad : Nat → Bool} (hk : k < n) (h : bad k = true) : anyB n bad = true := by
  unfold anyB; rw [List.any_eq_true]; exact ⟨k, List.mem_range.2 hk, h⟩
theorem anyB_false {n : Nat} {bad : Nat → Bool} (h : anyB n bad = false) : ∀ j, j < n → bad j = false := by
  intro j hj
  cases hb : bad j
  · rfl
  · rw [anyB_yes hj hb] at h; cases h
theorem anyB_succ (n : Nat) (f : Nat → Bool) : anyB (n + 1) f = (anyB n f || f n) := by
  unfold anyB; rw [List.range_succ]; simp
structure Bin where
  front : Bool
  room : Int
  low : Int
  high : Int
def Bin.val (x : Bin) : Value := .agg #[.bool x.front, .int .i64 x.room, .int .i64 x.low, .int .i64 x.high]
def badBin (x : Bin) : Bool := !inB x.room 0 1000 || !inB x.low 0 x.high || decide (200 < x.high)
def badSize (x : Int) : Bool := !inB x 1 9
def badNum (x : Int) : Bool := !inB x 0 200
def IntsAt (w : World) (a : Option Addr) (n : Nat) (z : Nat → Int) : Prop :=
  ∀ i, i < n → ∃ b o, a = some ⟨b, o, none⟩ ∧ b < w.heap.size ∧ w.cell? ⟨b, o + i, none⟩ = some (.int .i64 (z i))
theorem IntsAt.below {w w' : World} {a : Option Addr} {n : Nat} {z : Nat → Int} (h : IntsAt w a n z) (hB : Below w.heap.size w w') : IntsAt w' a n z := by
  intro i hi
  obtain ⟨b, o, ha, hb, hc⟩ := h i hi
  exact ⟨b, o, ha, Nat.lt_of_lt_of_le hb hB.size, (hB.cell (p := ⟨b, o + i, none⟩) hb).trans hc⟩
def BinsAt (w : World) (a : Option Addr) (n : Nat) (z : Nat → Bin) : Prop :=
  ∀ i, i < n → ∃ b o, a = some ⟨b, o, none⟩ ∧ b < w.heap.size ∧ w.cell? ⟨b, o + i * 4, none⟩ = some (.bool (z i).front) ∧
    w.cell? ⟨b, o + i * 4 + 1, none⟩ = some (.int .i64 (z i).room) ∧ w.cell? ⟨b, o + i * 4 + 2, none⟩ = some (.int .i64 (z i).low) ∧
    w.cell? ⟨b, o + i * 4 + 3, none⟩ = some (.int .i64 (z i).high)
theorem BinsAt.below {w w' : World} {a : Option Addr} {n : Nat} {z : Nat → Bin} (h : BinsAt w a n z) (hB : Below w.heap.size w w') : BinsAt w' a n z := by
  intro i hi
  obtain ⟨b, o, ha, hb, h0, h1, h2, h3⟩ := h i hi
  exact ⟨b, o, ha, Nat.lt_of_lt_of_le hb hB.size, (hB.cell (p := ⟨b, o + i * 4, none⟩) hb).trans h0, (hB.cell (p := ⟨b, o + i * 4 + 1, none⟩) hb).trans h1,
    (hB.cell (p := ⟨b, o + i * 4 + 2, none⟩) hb).trans h2, (hB.cell (p := ⟨b, o + i * 4 + 3, none⟩) hb).trans h3⟩
structure Rw where
  a : Option Addr
  n : Nat
  c : Nat
  z : Nat → Int
def Rw.val (r : Rw) : Value := .slice r.a r.n r.c
structure Rw.At (w : World) (r : Rw) : Prop where
  le : r.n ≤ r.c
  cap : r.c ≤ maxLen
  ints : IntsAt w r.a r.n r.z
theorem Rw.At.below {w w' : World} {r : Rw} (h : r.At w) (hB : Below w.heap.size w w') : r.At w' := ⟨h.le, h.cap, h.ints.below hB⟩
def RowsAt (w : World) (a : Option Addr) (n : Nat) (r : Nat → Rw) : Prop :=
  ∀ i, i < n → ∃ b o, a = some ⟨b, o, none⟩ ∧ b < w.heap.size ∧ w.cell? ⟨b, o + i, none⟩ = some (.slice (r i).a (r i).n (r i).c) ∧ (r i).At w
theorem RowsAt.below {w w' : World} {a : Option Addr} {n : Nat} {z : Nat → Rw} (h : RowsAt w a n z) (hB : Below w.heap.size w w') : RowsAt w' a n z := by
  intro i hi
  obtain ⟨b, o, ha, hb, hc, hr⟩ := h i hi
  exact ⟨b, o, ha, Nat.lt_of_lt_of_le hb hB.size, (hB.cell (p := ⟨b, o + i, none⟩) hb).trans hc, hr.below hB⟩
structure Pl where
  ab : Option Addr
  nb : Nat
  cb : Nat
  zb : Nat → Bin
  sa : Option Addr
  ns : Nat
  cs : Nat
  zs : Nat → Int
def Pl.val (p : Pl) : Value := .agg #[.slice p.ab p.nb p.cb, .slice p.sa p.ns p.cs]
structure Pl.At (w : World) (p : Pl) : Prop where
  leb : p.nb ≤ p.cb
  capb : p.cb ≤ maxLen
  bins : BinsAt w p.ab p.nb p.zb
  les : p.ns ≤ p.cs
  caps : p.cs ≤ maxLen
  sizes : IntsAt w p.sa p.ns p.zs
theorem Pl.At.below {w w' : World} {p : Pl} (h : p.At w) (hB : Below w.heap.size w w') : p.At w' := ⟨h.leb, h.capb, h.bins.below hB, h.les, h.caps, h.sizes.below hB⟩
def planE (p : Pl) : Int :=
  if inB p.nb 1 6 && inB p.ns 1 3 then (if anyB p.nb (fun i => badBin (p.zb i)) || anyB p.ns (fun i => badSize (p.zs i)) then 3 else 0) else 2
structure Sh where
  a : Option Addr
  n : Nat
  c : Nat
  r : Nat → Rw
def Sh.val (s : Sh) : Value := .slice s.a s.n s.c
structure Sh.At (w : World) (s : Sh) : Prop where
  le : s.n ≤ s.c
  cap : s.c ≤ maxLen
  rows : RowsAt w s.a s.n s.r
theorem Sh.At.below {w w' : World} {s : Sh} (h : s.At w) (hB : Below w.heap.size w w') : s.At w' := ⟨h.le, h.cap, h.rows.below hB⟩
def badRow (p : Pl) (r : Rw) : Bool := ((r.n : Int) != (p.ns : Int)) || anyB r.n (fun i => badNum (r.z i))
def shelfE (p : Pl) (s : Sh) : Int :=
  if planE p == 0 then (if ((s.n : Int) != (p.nb : Int)) || anyB s.n (fun i => badRow p (s.r i)) then 1 else 0) else planE p
def shelfErr (p : Pl) (s : Sh) (bin good : Int) : Int := if shelfE p s == 0 then (if inB bin 0 ((p.nb : Int) - 1) && inB good 0 ((p.ns : Int) - 1) then 0 else 3) else shelfE p s
def putE (p : Pl) (s : Sh) (bin good n : Int) : Int :=
  if shelfErr p s bin good == 0 then (if inB n (-((s.r bin.toNat).z good.toNat)) (200 - (s.r bin.toNat).z good.toNat) then 0 else 3) else shelfErr p s bin good
def putZ (s : Sh) (bin good n : Int) (i j : Nat) : Int := if i = bin.toNat ∧ j = good.toNat then (s.r i).z j + n else (s.r i).z j
def PutRes (p : Pl) (s : Sh) (bin good n : Int) (w' : World) (v : Value) : Prop :=
  if putE p s bin good n = 0 then ∃ s' : Sh, v = s'.val ∧ s'.At w' ∧ s'.n = s.n ∧ ∀ i, i < s.n → (s'.r i).n = (s.r i).n ∧ ∀ j, j < (s.r i).n → (s'.r i).z j = putZ s bin good n i j
  else v = .slice none 0 0
theorem PutRes.below {p : Pl} {s : Sh} {bin good n : Int} {w w' : World} {v : Value} (h : PutRes p s bin good n w v) (hB : Below w.heap.size w w') : PutRes p s bin good n w' v := by
  unfold PutRes at *
  split
  · rename_i h0
    rw [if_pos h0] at h
    obtain ⟨s', h1, h2, h3⟩ := h
    exact ⟨s', h1, h2.below hB, h3⟩
  · rename_i h0
    rwa [if_neg h0] at h
end Go.Proofs.Ytbcacebifpagpab
namespace Go.Proofs.Ytbcacebifpagpab
open Go.RowKit
set_option linter.unusedVariables false
set_option maxHeartbeats 400000 in
theorem Within_any (n low high : Int) (w : World) :
    Calls Try.prog 64 #[.int .i64 n, .int .i64 low, .int .i64 high] w fun e w' => e = .returned (.bool (inB n low high)) ∧ w' = w := by
  unfold inB
  go_enter Try.func64, Try.ntmps64
  go_wp2
  all_goals go_ret
  all_goals refine ⟨?_, rfl⟩
  all_goals simp
  all_goals omega
set_option maxHeartbeats 400000 in
theorem within_any (n low high : Int) (w : World) :
    Calls Try.prog 40 #[.int .i64 n, .int .i64 low, .int .i64 high] w fun e w' => e = .returned (.bool (inB n low high)) ∧ w' = w := by
  unfold inB
  go_enter Try.func40, Try.ntmps40
  go_wp2
  all_goals go_ret
  all_goals refine ⟨?_, rfl⟩
  all_goals simp
  all_goals omega
end Go.Proofs.Ytbcacebifpagpab
namespace Go.Proofs.Ytbcacebifpagpab
open Go.RowKit Go.Shelf
set_option linter.unusedVariables false
set_option maxHeartbeats 400000 in
theorem Has_any (n : Nat) (k : Int) (w : World) (hn : n ≤ maxLen) :
    Calls Try.prog 56 #[.int .i64 n, .int .i64 k] w fun e w' => e = .returned (.bool (inB k 0 ((n : Int) - 1))) ∧ w' = w := by
  unfold maxLen at hn
  go_enter Try.func56, Try.ntmps56
  go_wp2_with (go_at_call 64; refine calls_to (Within_any _ _ _ _) ?_)
  go_ret
  exact ⟨rfl, rfl⟩
end Go.Proofs.Ytbcacebifpagpab
namespace Go.Proofs.Ytbcacebifpagpab
open Go.RowKit
set_option linter.unusedVariables false
def Blk (w : World) (g : Nat) (e : TypeId) (n : Nat) (f : Nat → Value) : Prop :=
  ∃ cur, w.heap[g]? = some (.cells cur e (0, 0)) ∧ n ≤ cur.size ∧ ∀ j, j < n → cur[j]? = some (f j)
theorem Blk.lt {w : World} {g : Nat} {e : TypeId} {n : Nat} {f : Nat → Value} (h : Blk w g e n f) : g < w.heap.size := by
  obtain ⟨cur, hc, _⟩ := h
  exact (Array.getElem?_eq_some_iff.1 hc).1
theorem Blk.cell {w : World} {g : Nat} {e : TypeId} {n : Nat} {f : Nat → Value} (h : Blk w g e n f) {j : Nat} (hj : j < n) : w.cell? ⟨g, j, none⟩ = some (f j) := by
  obtain ⟨cur, hc, _, hf⟩ := h
  simp [World.cell?, hc, hf j hj]
theorem Blk.frozen {w : World} {g : Nat} {e : TypeId} {n : Nat} {f : Nat → Value} (h : Blk w g e n f) (j : Nat) : w.frozen? ⟨g, j, none⟩ = false := by
  obtain ⟨cur, hc, _, hf⟩ := h
  simp [World.frozen?, hc]
theorem Blk.same {w w' : World} {g : Nat} {e : TypeId} {n : Nat} {f : Nat → Value} (h : Blk w g e n f) (hs : w'.heap[g]? = w.heap[g]?) : Blk w' g e n f := by
  obtain ⟨cur, hc, hr⟩ := h
  exact ⟨cur, hs.trans hc, hr⟩
theorem Blk.below {w w' : World} {g : Nat} {e : TypeId} {n : Nat} {f : Nat → Value} (h : Blk w g e n f) (hB : Below w.heap.size w w') : Blk w' g e n f := h.same (hB.block g h.lt)
theorem Blk.grown {w w' : World} {g : Nat} {e : TypeId} {n : Nat} {f : Nat → Value} {row : Option Nat} (h : Blk w g e n f) (hg : w.grownBy w' row) (hne : some g ≠ row) : Blk w' g e n f := h.same (hg.block g h.lt hne)
theorem Blk.congr {w : World} {g : Nat} {e : TypeId} {n : Nat} {f f' : Nat → Value} (h : Blk w g e n f) (hf : ∀ j, j < n → f j = f' j) : Blk w g e n f' := by
  obtain ⟨cur, hc, hn, hr⟩ := h
  exact ⟨cur, hc, hn, fun j hj => by rw [hr j hj, hf j hj]⟩
theorem Blk.set {w : World} {g : Nat} {e : TypeId} {n : Nat} {f : Nat → Value} (h : Blk w g e n f) (j : Nat) (v : Value) : Blk (w.setCell ⟨g, j, none⟩ v) g e n (fun i => if i = j then v else f i) := by
  obtain ⟨cur, hc, hn, hr⟩ := h
  refine ⟨cur.setIfInBounds j v, ?_, by simpa using hn, ?_⟩
  · simp [World.setCell, Array.getElem?_modify, hc]
  · intro i hi
    rw [Array.getElem?_setIfInBounds]
    by_cases hij : i = j
    · subst hij
      simp; omega
    · rw [if_neg (fun e => hij e.symm), hr i hi]; simp [hij]
theorem Blk.new (w : World) (cur : Array Value) (e : TypeId) : Blk (w.alloc (.cells cur e)) w.heap.size e cur.size (fun j => cur.getD j default) := by
  refine ⟨cur, heap_alloc_new w _, Nat.le_refl _, fun j hj => ?_⟩
  simp [Array.getD, hj]
theorem Blk.ofOwns {w : World} {base : Nat} {e : TypeId} {size : Nat} {v : Value} {n : Nat} {xs : List Value} (h : w.ownsRow base e size v n xs) (hn : v ≠ .slice none 0 0) :
    ∃ g c, v = .slice (some ⟨g, 0, none⟩) n c ∧ n ≤ c ∧ c ≤ maxLen ∧ base ≤ g ∧ Blk w g e (n * size) (fun j => xs.getD j default) := by
  obtain ⟨hl, h | ⟨g, cap, cur, rfl, hb, hg, h1, h2, h3, h4⟩⟩ := h
  · exact absurd h.1 hn
  · refine ⟨g, cap, rfl, h1, h2, hb, cur, hg, by rw [h3]; exact Nat.mul_le_mul_right _ h1, fun j hj => ?_⟩
    have : xs[j]? = cur[j]? := by
      rw [← h4, List.getElem?_take, if_pos hj]; simp
    rw [← this, List.getElem?_eq_getElem (by omega)]
    simp [List.getD, List.getElem?_eq_getElem (show j < xs.length by omega)]
theorem Blk.mk' {w : World} {g : Nat} {cur : Array Value} {e : TypeId} {f : Nat → Value} (hg : g = w.heap.size) (hf : f = fun j => cur.getD j default) : Blk (w.alloc (.cells cur e)) g e cur.size f := by
  subst hg hf
  exact Blk.new w cur e
theorem Blk.alloc {w : World} {g : Nat} {e : TypeId} {n : Nat} {f : Nat → Value} (h : Blk w g e n f) (o : Obj) : Blk (w.alloc o) g e n f := h.below ((Below.refl _ _).alloc (Nat.le_refl _) o)
end Go.Proofs.Ytbcacebifpagpab
namespace Go.Proofs.Ytbcacebifpagpab
open Go.RowKit
set_option linter.unusedVariables false
structure Hd where
  o : Int
  l : Int
  b : Int
  n : Int
def Hd.val (x : Hd) : Value := .agg #[.int .i64 x.o, .int .i64 x.l, .int .i64 x.b, .int .i64 x.n]
def hdCells (x : Hd) : List Value := [.int .i64 x.o, .int .i64 x.l, .int .i64 x.b, .int .i64 x.n]
def fineH (x : Hd) : Bool := inB x.o 0 3 && inB x.l 0 2 && inB x.b 0 5 && inB x.n 1 200
def keyH (x : Hd) : Int := (x.o * 3 + x.l) * 6 + x.b
def cmpI (a b : Int) : Int := if a < b then -1 else if b < a then 1 else 0
def orI (a b c : Int) : Int := if a = 0 then (if b = 0 then c else b) else a
def cmpH (x y : Hd) : Int := orI (cmpI x.o y.o) (cmpI x.l y.l) (cmpI x.b y.b)
theorem fineH_true {x : Hd} (h : fineH x = true) : (0 ≤ x.o ∧ x.o ≤ 3) ∧ (0 ≤ x.l ∧ x.l ≤ 2) ∧ (0 ≤ x.b ∧ x.b ≤ 5) ∧ 1 ≤ x.n ∧ x.n ≤ 200 := by
  simp only [fineH, Bool.and_eq_true] at h
  exact ⟨inB_true h.1.1.1, inB_true h.1.1.2, inB_true h.1.2, inB_true h.2⟩
theorem cmp_key {x y : Hd} (hx : fineH x = true) (hy : fineH y = true) : (0 ≤ cmpH x y ↔ keyH y ≤ keyH x) ∧ (cmpH x y = 0 ↔ keyH x = keyH y) := by
  have a := fineH_true hx
  have b := fineH_true hy
  unfold cmpH orI cmpI keyH
  constructor
  all_goals (repeat' split) <;> omega
theorem cmp_zero {x y : Hd} : cmpH x y = 0 ↔ x.o = y.o ∧ x.l = y.l ∧ x.b = y.b := by
  unfold cmpH orI cmpI
  (repeat' split) <;> omega
theorem cmp_neg {x y : Hd} : cmpH x y < 0 ↔ x.o < y.o ∨ (x.o = y.o ∧ (x.l < y.l ∨ (x.l = y.l ∧ x.b < y.b))) := by
  unfold cmpH orI cmpI
  (repeat' split) <;> omega
theorem cmp_trans {x y z : Hd} (h1 : cmpH x y < 0) (h2 : cmpH y z < 0) : cmpH x z < 0 := by
  rw [cmp_neg] at *
  omega
def badH (z : Nat → Hd) (i : Nat) : Bool := !fineH (z i) || (decide (0 < i) && decide (0 ≤ cmpH (z (i - 1)) (z i)))
def badK (z : Nat → Hd) (i : Nat) : Bool := !fineH (z i) || (decide (0 < i) && decide (keyH (z i) ≤ keyH (z (i - 1))))
theorem bad_eq (z : Nat → Hd) : ∀ n, anyB n (badK z) = anyB n (badH z)
  | 0 => rfl
  | n + 1 => by
    rw [anyB_succ, anyB_succ, bad_eq z n]
    cases h : anyB n (badH z)
    · simp only [Bool.false_or]
      unfold badK badH
      cases hf : fineH (z n)
      · simp
      · by_cases hn : 0 < n
        · have hp := anyB_false h (n - 1) (by omega)
          have hfp : fineH (z (n - 1)) = true := by
            cases hq : fineH (z (n - 1))
            · simp [badH, hq] at hp
            · rfl
          have := (cmp_key hfp hf).1
          simp only [hn, decide_true, Bool.true_and, Bool.not_true, Bool.false_or]
          rw [Bool.eq_iff_iff]
          simp only [decide_eq_true_eq]
          exact this.symm
        · simp [hn]
    · simp
def checkH (n : Nat) (z : Nat → Hd) : Int := if anyB n (badH z) then 1 else 0
theorem right_fine {n : Nat} {z : Nat → Hd} (h : anyB n (badH z) = false) : ∀ i, i < n → fineH (z i) = true := by
  intro i hi
  have := anyB_false h i hi
  cases hq : fineH (z i)
  · simp [badH, hq] at this
  · rfl
theorem right_step {n : Nat} {z : Nat → Hd} (h : anyB n (badH z) = false) : ∀ i, i + 1 < n → keyH (z i) < keyH (z (i + 1)) := by
  intro i hi
  have h1 := anyB_false h (i + 1) hi
  have f1 := right_fine h i (by omega)
  have f2 := right_fine h (i + 1) hi
  have := (cmp_key f1 f2).1
  simp only [badH, f2, Bool.not_true, Bool.false_or, Nat.succ_pos, decide_true, Bool.true_and, Nat.add_sub_cancel, decide_eq_false_iff_not] at h1
  rw [this] at h1
  omega
theorem right_lt {n : Nat} {z : Nat → Hd} (h : anyB n (badH z) = false) : ∀ i j, i < j → j < n → keyH (z i) < keyH (z j) := by
  intro i j hij hj
  induction j with
  | zero => omega
  | succ j ih =>
    have s := right_step h j hj
    by_cases hij' : i = j
    · subst hij'; exact s
    · have := ih (by omega) (by omega); omega
theorem right_key {n : Nat} {z : Nat → Hd} (h : anyB n (badH z) = false) : ∀ i, i < n → (i : Int) ≤ keyH (z i) ∧ keyH (z i) ≤ 71 := by
  intro i hi
  have f := fineH_true (right_fine h i hi)
  constructor
  · induction i with
    | zero => unfold keyH; omega
    | succ i ih =>
      have := right_step h i hi
      have := ih (by omega) (fineH_true (right_fine h i (by omega)))
      omega
  · unfold keyH; omega
theorem right_len {n : Nat} {z : Nat → Hd} (h : anyB n (badH z) = false) : n ≤ 72 := by
  by_cases hn : n = 0
  · omega
  · have := right_key h (n - 1) (by omega)
    omega
def HdsAt (w : World) (a : Option Addr) (n : Nat) (z : Nat → Hd) : Prop :=
  ∀ i, i < n → ∃ b o, a = some ⟨b, o, none⟩ ∧ b < w.heap.size ∧ w.cell? ⟨b, o + i * 4, none⟩ = some (.int .i64 (z i).o) ∧
    w.cell? ⟨b, o + i * 4 + 1, none⟩ = some (.int .i64 (z i).l) ∧ w.cell? ⟨b, o + i * 4 + 2, none⟩ = some (.int .i64 (z i).b) ∧
    w.cell? ⟨b, o + i * 4 + 3, none⟩ = some (.int .i64 (z i).n)
theorem HdsAt.below {w w' : World} {a : Option Addr} {n : Nat} {z : Nat → Hd} (h : HdsAt w a n z) (hB : Below w.heap.size w w') : HdsAt w' a n z := by
  intro i hi
  obtain ⟨b, o, ha, hb, h0, h1, h2, h3⟩ := h i hi
  exact ⟨b, o, ha, Nat.lt_of_lt_of_le hb hB.size, (hB.cell (p := ⟨b, o + i * 4, none⟩) hb).trans h0, (hB.cell (p := ⟨b, o + i * 4 + 1, none⟩) hb).trans h1,
    (hB.cell (p := ⟨b, o + i * 4 + 2, none⟩) hb).trans h2, (hB.cell (p := ⟨b, o + i * 4 + 3, none⟩) hb).trans h3⟩
structure Hs where
  a : Option Addr
  n : Nat
  c : Nat
  z : Nat → Hd
def Hs.val (s : Hs) : Value := .slice s.a s.n s.c
structure Hs.At (w : World) (s : Hs) : Prop where
  le : s.n ≤ s.c
  cap : s.c ≤ maxLen
  hds : HdsAt w s.a s.n s.z
  nilc : s.a = none → s.c = 0
theorem Hs.At.below {w w' : World} {s : Hs} (h : s.At w) (hB : Below w.heap.size w w') : s.At w' := ⟨h.le, h.cap, h.hds.below hB, h.nilc⟩
end Go.Proofs.Ytbcacebifpagpab
namespace Go.Proofs.Ytbcacebifpagpab
open Go.RowKit
set_option linter.unusedVariables false
def ordB (ops : Array Oper) : List (Bool × Nat) → Array Bool → Bool
  | [], listed => Region.ready .any ops listed == []
  | (h, i) :: r, listed => (if h then (Region.ready .any ops listed).contains i && Region.free .any ops listed i else Region.ready .any ops listed == [i]) && ordB ops r (listed.setIfInBounds i true)
theorem Oper.wp_then {P : Program} {o : Oper} {a : Act} {w : World} {K N : Act → World → Prop} {Q : Exit → Act → World → Prop} (h : o.wp P a w K (Exit.then N Q)) : o.wp P a w K Q := by
  unfold Oper.wp at *
  generalize (execOp a.eval o).run P w = r at *
  cases r with
  | ok n w' =>
    cases n <;> simp only [Oper.upon] at h ⊢ <;>
      first
        | exact h
        | exact Calls.mono h (fun e w'' he => by cases e <;> exact he)
        | exact Rows.mono h (fun _ _ he => he)
  | halt x w' => cases x <;> simp only [Oper.upon] at h ⊢ <;> exact h
end Go.Proofs.Ytbcacebifpagpab
namespace Go.Proofs.Ytbcacebifpagpab
open Go.RowKit
set_option linter.unusedVariables false
def wpOrdS (P : Program) (ops : Array Oper) (Q : Exit → Act → World → Prop) (S : World → Prop) : List (Bool × Nat) → Act → World → Prop
  | [], a, w => Q .normal a w
  | (false, i) :: r, a, w => wpOp P ops Q i (fun a' w' => S w' ∧ wpOrdS P ops Q S r a' w') a w
  | (true, i) :: r, a, w => ∃ o v, ops[i]? = some o ∧ YieldsIf P ops S o v a ∧ wpOrdS P ops Q S r (a.put o.dst v) w
theorem wpAnyH_of_ord {P : Program} {ops : Array Oper} {Q : Exit → Act → World → Prop} {S : World → Prop} (hs : Region.noSelect ops = true)
    (hQ : ∀ c a a' w, Q (.panic c) a w → Q (.panic c) a' w) : ∀ (ord : List (Bool × Nat)) (listed : Array Bool) (a : Act) (w : World),
      ordB ops ord listed = true → S w → wpOrdS P ops Q S ord a w → wpAnyH P .any ops Q S ord.length listed a w
  | [], listed, a, w, hB, _, h => wpAnyH_done (by simpa [ordB] using hB) h _
  | (false, i) :: r, listed, a, w, hB, hS, h => by
    simp only [ordB, Bool.false_eq_true, if_false, Bool.and_eq_true, beq_iff_eq] at hB
    refine wpAnyH_all hB.1 (by simp) fun j hj => ?_
    rw [List.mem_singleton] at hj
    subst hj
    exact wpOp_mono (fun a' w' h' => ⟨h'.1, wpAnyH_of_ord hs hQ r _ a' w' hB.2 h'.1 h'.2⟩) h
  | (true, i) :: r, listed, a, w, hB, hS, h => by
    simp only [ordB, if_true, Bool.and_eq_true] at hB
    obtain ⟨o, v, ho, hy, hn⟩ := h
    exact wpAnyH_take ho hs hB.1.2 hB.1.1 (fun c a w hq => hQ _ _ _ _ hq) hy hS (wpAnyH_of_ord hs hQ r _ _ w hB.2 hS hn)
theorem wp_region_ordS {P : Program} {ops : Array Oper} {Q : Exit → Act → World → Prop} {id : Nat} {a : Act} {w : World} (S : World → Prop) (ord : List (Bool × Nat))
    (hm : P.follows .mixedOrders = true) (hs : Region.noSelect ops = true) (hB : ordB ops ord (Array.replicate ops.size false) = true) (hl : ord.length = ops.size)
    (hS : S w.drew) (h : wpOrdS P ops (NoPanic Q) S ord a w.drew) : (Code.region id ops true).wp P Q a w := by
  refine wp_region_noPanic (wp_region_held (S := S) hm ?_)
  have := wpAnyH_of_ord (Q := NoPanic Q) hs (fun c a a' w h => (h : False).elim) ord (Array.replicate ops.size false) a w.drew hB hS h
  rw [hl] at this
  exact this
theorem wpOrdS_one {P : Program} {l : List Oper} {Q : Exit → Act → World → Prop} {S : World → Prop} {r : List (Bool × Nat)} (k : Nat) {a : Act} {w : World} (hk : k < l.length)
    (h : wpList P l.toArray (Exit.then (fun a' w' => S w' ∧ wpOrdS P l.toArray Q S r a' w') Q) ((l.drop k).take 1) a w) : wpOrdS P l.toArray Q S ((false, k) :: r) a w := by
  have h0 : l.toArray[k]? = some l[k] := by simp [hk]
  have h1 : (l.drop k).take 1 = [l[k]] := by
    rw [List.drop_eq_getElem_cons hk]
    rfl
  rw [h1] at h
  show wpOp P l.toArray Q k _ a w
  unfold wpOp
  simp only [h0]
  unfold wpList at h
  split
  · rename_i hw
    rw [if_pos hw] at h
    rcases h with h | ⟨h1, h2⟩
    · exact .inl (Oper.wp_then (Oper.wp_mono (fun a' w' h' => h') h))
    · exact .inr ⟨h1, h2⟩
  · rename_i hw
    rw [if_neg hw] at h
    exact h
def vKind2 (o : Oper) : Bool := match o.op with
  | .move _ => true
  | .assign _ => true
  | .slice .. => true
  | .load .. => true
  | .fieldAddr .. => true
  | .indexAddr .. => true
  | .binOp .. => true
  | .nilCheck _ => true
  | _ => false
theorem valued {P : Program} {s : Sem Value} {w w' : World} {n : Next} (h : (do let x ← s; pure (Next.value x) : Sem Next).run P w = .ok n w') : ∃ v, n = .value v := by
  simp only [Sem.run_bind, Sem.run_pure] at h
  cases hr : s.run P w with
  | ok u w2 =>
    rw [hr] at h
    simp only [Result.andThen] at h
    cases h
    exact ⟨_, rfl⟩
  | halt y w2 =>
    rw [hr] at h
    simp only [Result.andThen] at h
    cases h
theorem vKind2_spec {P : Program} {o : Oper} {ρ : Operand → Value} {w w' : World} {n : Next} (hv : vKind2 o = true) (h : (execOp ρ o).run P w = .ok n w') : ∃ v, n = .value v := by
  unfold vKind2 at hv
  unfold execOp at h
  split at hv
  · rename_i x hx
    rw [hx] at h
    simp only [] at h
    cases h
    exact ⟨_, rfl⟩
  · rename_i x hx
    rw [hx] at h
    simp only [] at h
    cases h
    exact ⟨_, rfl⟩
  all_goals first
    | (cases hv; done)
    | (rename_i hx; rw [hx] at h; exact valued h)
    | skip
  rename_i x hx
  rw [hx] at h
  simp only [] at h
  split at h
  · cases h
  · cases h
  · cases h
  · rename_i name first captured _
    split at h
    · cases h
    · rename_i t u _
      simp only [Sem.run_bind] at h
      cases hr : (nilAhead (P.types.size + Made.depth) t u name).run P w with
      | ok b w2 =>
        change Result.andThen ((nilAhead (P.types.size + Made.depth) t u name).run P w) (fun a w' => _) = _ at h
        rw [hr] at h
        simp only [Result.andThen] at h
        split at h
        · cases h
        · cases h
          exact ⟨_, rfl⟩
      | halt y w2 =>
        change Result.andThen ((nilAhead (P.types.size + Made.depth) t u name).run P w) (fun a w' => _) = _ at h
        rw [hr] at h
        cases h
    · cases h
      exact ⟨_, rfl⟩
  · cases h
    exact ⟨_, rfl⟩
theorem wpOrdS_first {P : Program} {l : List Oper} {Q : Exit → Act → World → Prop} {S : World → Prop} {r : List (Bool × Nat)} (k : Nat) {o : Oper} {a : Act} {w : World} (hk : l[k]? = some o) (hv : vKind2 o = true)
    (h : wpQuiet P l.toArray S (fun a' => wpOrdS P l.toArray Q S r a' w) [o] a) : wpOrdS P l.toArray Q S ((true, k) :: r) a w := by
  unfold wpQuiet at h
  split at h
  · rename_i hw
    obtain ⟨v, h1, h2⟩ := h
    refine ⟨o, v, by simpa using hk, .inl ⟨hw, fun w' hS => ?_⟩, h2⟩
    have := h1 w' hS
    unfold Oper.quietAt at this
    cases hr : (execOp a.eval o).run P w' with
    | ok n w2 =>
      rw [hr] at this
      obtain ⟨u, rfl⟩ := vKind2_spec hv hr
      simp only [Oper.quietUpon] at this
      rw [this.1, this.2]
    | halt x w2 => rw [hr] at this; exact this.elim
  · rename_i hw
    refine ⟨o, undef, by simpa using hk, .inr ⟨by simpa using hw, rfl⟩, h⟩
end Go.Proofs.Ytbcacebifpagpab
namespace Go.Proofs.Ytbcacebifpagpab
open Go.RowKit Go.Shelf Go.Sort
set_option linter.unusedVariables false
set_option maxHeartbeats 400000 in
theorem Has_int (n k : Int) (w : World) (hn : 0 ≤ n ∧ n ≤ 1000) :
    Calls Try.prog 56 #[.int .i64 n, .int .i64 k] w fun e w' => e = .returned (.bool (inB k 0 (n - 1))) ∧ w' = w := by
  obtain ⟨m, rfl⟩ := Int.eq_ofNat_of_zero_le hn.1
  exact Has_any m k w (by unfold maxLen; omega)
set_option maxHeartbeats 400000 in
theorem rightAlone_any (x : Hd) (w : World) :
    Calls Try.prog 29 #[x.val] w fun e w' => e = .returned (.bool (fineH x)) ∧ Below w.heap.size w w' := by
  unfold fineH Hd.val
  go_enter Try.func29, Try.ntmps29
  go_wp2_with (first | (go_at_call 56; refine calls_to (Has_int _ _ _ (by omega)) ?_) | (go_at_call 64; refine calls_to (Within_any _ _ _ _) ?_))
  all_goals go_ret
  all_goals exact ⟨by simp [*], (Below.refl _ _).alloc (Nat.le_refl _) _⟩
set_option maxHeartbeats 400000 in
theorem holdFine_any (x : Hd) (w : World) :
    Calls Try.prog 34 #[x.val] w fun e w' => e = .returned (.bool (fineH x)) ∧ Below w.heap.size w w' := by
  unfold fineH Hd.val
  go_enter Try.func34, Try.ntmps34
  go_wp2_with (go_at_call 40; refine calls_to (within_any _ _ _ _) ?_)
  all_goals go_ret
  all_goals exact ⟨by simp [*], (Below.refl _ _).alloc (Nat.le_refl _) _⟩
set_option maxHeartbeats 400000 in
theorem place_any (x : Hd) (w : World) (h : fineH x = true) :
    Calls Try.prog 68 #[x.val] w fun e w' => e = .returned (.int .i64 (keyH x)) ∧ Below w.heap.size w w' := by
  have a := fineH_true h
  unfold keyH Hd.val
  go_enter Try.func68, Try.ntmps68
  go_wp2
  go_ret
  exact ⟨rfl, (Below.refl _ _).alloc (Nat.le_refl _) _⟩
set_option maxHeartbeats 400000 in
theorem Compare_any (x y : Int) (w : World) :
    Calls Try.prog 66 #[.int .i64 x, .int .i64 y] w fun e w' => e = .returned (.int .i64 (cmpI x y)) ∧ w' = w := by
  unfold cmpI
  by_cases h1 : x < y
  · go_enter Try.func66, Try.ntmps66
    go_wp2
    go_ret
    exact ⟨by simp, rfl⟩
  by_cases h2 : y < x
  · go_enter Try.func66, Try.ntmps66
    go_wp2
    go_ret
    exact ⟨by simp, rfl⟩
  · go_enter Try.func66, Try.ntmps66
    go_wp2
    go_ret
    exact ⟨by simp, rfl⟩
set_option maxHeartbeats 400000 in
theorem Or_any (g : Nat) (a b c : Int) (w : World) (h : Blk w g 3 3 (fun j => (#[.int .i64 a, .int .i64 b, .int .i64 c] : Array Value).getD j default)) :
    Calls Try.prog 65 #[.slice (some ⟨g, 0, none⟩) 3 3] w fun e w' => e = .returned (.int .i64 (orI a b c)) ∧ w' = w := by
  have c0 : w.cell? ⟨g, 0, none⟩ = some (.int .i64 a) := h.cell (j := 0) (by decide)
  have c1 : w.cell? ⟨g, 1, none⟩ = some (.int .i64 b) := h.cell (j := 1) (by decide)
  have c2 : w.cell? ⟨g, 2, none⟩ = some (.int .i64 c) := h.cell (j := 2) (by decide)
  clear h
  unfold orI
  go_enter Try.func65, Try.ntmps65
  go_wp2
  go_loop [8] (fun i => ∃ k : Nat, k ≤ 3 ∧ i = .int .i64 k ∧ (1 ≤ k → a = 0) ∧ (2 ≤ k → b = 0) ∧ (3 ≤ k → c = 0)) (fun i => 3 - (intOf i).toNat)
  case atStart => exact ⟨0, by omega, rfl, fun h => by omega, fun h => by omega, fun h => by omega⟩
  case round =>
    obtain ⟨k, hk, rfl, ha, hb, hc⟩ := hrel
    have HA : Hid _ := And.intro ha (And.intro hb hc)
    clear ha hb hc
    have hk4 : k = 0 ∨ k = 1 ∨ k = 2 ∨ k = 3 := by omega
    rcases hk4 with rfl | rfl | rfl | rfl
    · cases h0 : (a != 0)
      · have h0' : a = 0 := by simpa using h0
        have H0 : Hid (a = 0) := h0'
        clear h0'
        go_wp2
        go_round
        case rel => exact ⟨1, by omega, by go_num, fun _ => H0.out, fun h => by omega, fun h => by omega⟩
        case measure => simp [intOf]
      · have h0' : ¬ a = 0 := by simpa using h0
        go_wp2
        go_ret
        exact ⟨by simp, rfl⟩
    · have h1 := HA.out.1 (by omega)
      have H1 : Hid (a = 0) := h1
      clear h1
      cases h0 : (b != 0)
      · have h0' : b = 0 := by simpa using h0
        have H0 : Hid (b = 0) := h0'
        clear h0'
        go_wp2
        go_round
        case rel => exact ⟨2, by omega, by go_num, fun _ => H1.out, fun _ => H0.out, fun h => by omega⟩
        case measure => simp [intOf]
      · have h0' : ¬ b = 0 := by simpa using h0
        go_wp2
        go_ret
        exact ⟨by simp, rfl⟩
    · have H1 : Hid (a = 0) := HA.out.1 (by omega)
      have H2 : Hid (b = 0) := HA.out.2.1 (by omega)
      cases h0 : (c != 0)
      · have h0' : c = 0 := by simpa using h0
        have H0 : Hid (c = 0) := h0'
        clear h0'
        go_wp2
        go_round
        case rel => exact ⟨3, by omega, by go_num, fun _ => H1.out, fun _ => H2.out, fun _ => H0.out⟩
        case measure => simp [intOf]
      · go_wp2
        go_ret
        exact ⟨by simp, rfl⟩
    · have H1 : Hid (a = 0) := HA.out.1 (by omega)
      have H2 : Hid (b = 0) := HA.out.2.1 (by omega)
      have H3 : Hid (c = 0) := HA.out.2.2 (by omega)
      go_wp2
      go_ret
      exact ⟨by simp [H3.out], rfl⟩
set_option maxHeartbeats 1000000 in
theorem compare_any (x y : Hd) (w : World) :
    Calls Try.prog 31 #[x.val, y.val] w fun e w' => e = .returned (.int .i64 (cmpH x y)) ∧ Below w.heap.size w w' := by
  unfold cmpH Hd.val
  have F : ∃ W, (w.alloc (.cells #[.int .i64 x.o, .int .i64 x.l, .int .i64 x.b, .int .i64 x.n] 24)).alloc (.cells #[.int .i64 y.o, .int .i64 y.l, .int .i64 y.b, .int .i64 y.n] 24) = W ∧ Below w.heap.size w W ∧
      (W.cell? ⟨w.heap.size, 0, none⟩ = some (.int .i64 x.o) ∧ W.cell? ⟨w.heap.size, 1, none⟩ = some (.int .i64 x.l) ∧ W.cell? ⟨w.heap.size, 2, none⟩ = some (.int .i64 x.b)) ∧
      (W.cell? ⟨w.heap.size + 1, 0, none⟩ = some (.int .i64 y.o) ∧ W.cell? ⟨w.heap.size + 1, 1, none⟩ = some (.int .i64 y.l) ∧ W.cell? ⟨w.heap.size + 1, 2, none⟩ = some (.int .i64 y.b)) := by
    refine ⟨_, rfl, ((Below.refl _ _).alloc (Nat.le_refl _) _).alloc (by simp) _, ?_, ?_⟩
    · exact ⟨by simp, by simp, by simp⟩
    · exact ⟨by simp, by simp, by simp⟩
  obtain ⟨W, hW, hB0, ⟨x0, x1, x2⟩, y0, y1, y2⟩ := F
  have HW : Hid _ := hW
  clear hW
  go_enter Try.func31, Try.ntmps31
  go_wp2_with fail
  rw [HW.out]
  clear HW
  have e0 : ∀ d os, (grow (redrawn W d) os).cell? ⟨w.heap.size, 0, none⟩ = some (.int .i64 x.o) := fun d os => cell_regrown x0 d os
  have e1 : ∀ d os, (grow (redrawn W d) os).cell? ⟨w.heap.size, 1, none⟩ = some (.int .i64 x.l) := fun d os => cell_regrown x1 d os
  have e2 : ∀ d os, (grow (redrawn W d) os).cell? ⟨w.heap.size, 2, none⟩ = some (.int .i64 x.b) := fun d os => cell_regrown x2 d os
  have f0 : ∀ d os, (grow (redrawn W d) os).cell? ⟨w.heap.size + 1, 0, none⟩ = some (.int .i64 y.o) := fun d os => cell_regrown y0 d os
  have f1 : ∀ d os, (grow (redrawn W d) os).cell? ⟨w.heap.size + 1, 1, none⟩ = some (.int .i64 y.l) := fun d os => cell_regrown y1 d os
  have f2 : ∀ d os, (grow (redrawn W d) os).cell? ⟨w.heap.size + 1, 2, none⟩ = some (.int .i64 y.b) := fun d os => cell_regrown y2 d os
  refine wp_region_ordS (fun w' => ∃ p : Regrown, w' = grow (redrawn W p.d) p.os)
    ([0, 1, 2, 3, 5, 6, 7, 8, 10, 11, 12, 13].map (fun k => (true, k)) ++ [(false, 4), (false, 9), (false, 14), (false, 15), (false, 16), (false, 17)]) (by kernel_rfl) (by kernel_rfl) (by kernel_rfl) (by kernel_rfl) (regrown_of_below ((Below.refl _ _).drew)) ?_
  refine wpOrdS_first 0 rfl rfl ?_
  go_big_quiet_step (fail)
  refine wpQuiet_nil ?_
  refine wpOrdS_first 1 rfl rfl ?_
  go_big_quiet_step (fail)
  refine wpQuiet_nil ?_
  refine wpOrdS_first 2 rfl rfl ?_
  go_big_quiet_step (fail)
  refine wpQuiet_nil ?_
  refine wpOrdS_first 3 rfl rfl ?_
  go_big_quiet_step (fail)
  refine wpQuiet_nil ?_
  refine wpOrdS_first 5 rfl rfl ?_
  go_big_quiet_step (fail)
  refine wpQuiet_nil ?_
  refine wpOrdS_first 6 rfl rfl ?_
  go_big_quiet_step (fail)
  refine wpQuiet_nil ?_
  refine wpOrdS_first 7 rfl rfl ?_
  go_big_quiet_step (fail)
  refine wpQuiet_nil ?_
  refine wpOrdS_first 8 rfl rfl ?_
  go_big_quiet_step (fail)
  refine wpQuiet_nil ?_
  refine wpOrdS_first 10 rfl rfl ?_
  go_big_quiet_step (fail)
  refine wpQuiet_nil ?_
  refine wpOrdS_first 11 rfl rfl ?_
  go_big_quiet_step (fail)
  refine wpQuiet_nil ?_
  refine wpOrdS_first 12 rfl rfl ?_
  go_big_quiet_step (fail)
  refine wpQuiet_nil ?_
  refine wpOrdS_first 13 rfl rfl ?_
  go_big_quiet_step (fail)
  refine wpQuiet_nil ?_
  refine wpOrdS_one 4 (by decide) ?_
  simp only [List.drop_succ_cons, List.drop_zero, List.take_succ_cons, List.take_zero]
  go_wp2_with (go_at_call 66; refine calls_to (Compare_any _ _ _) ?_)
  refine ⟨regrown_of_below ((Below.refl _ _).drew), ?_⟩
  refine wpOrdS_one 9 (by decide) ?_
  simp only [List.drop_succ_cons, List.drop_zero, List.take_succ_cons, List.take_zero]
  go_wp2_with (go_at_call 66; refine calls_to (Compare_any _ _ _) ?_)
  refine ⟨regrown_of_below ((Below.refl _ _).drew), ?_⟩
  refine wpOrdS_one 14 (by decide) ?_
  simp only [List.drop_succ_cons, List.drop_zero, List.take_succ_cons, List.take_zero]
  go_wp2_with (go_at_call 66; refine calls_to (Compare_any _ _ _) ?_)
  refine ⟨regrown_of_below ((Below.refl _ _).drew), ?_⟩
  generalize hA : cmpI x.o y.o = A
  generalize hBB : cmpI x.l y.l = B
  generalize hC : cmpI x.b y.b = C
  have HA : Hid (cmpI x.o y.o = A) := hA
  have HB : Hid (cmpI x.l y.l = B) := hBB
  have HC : Hid (cmpI x.b y.b = C) := hC
  clear hA hBB hC
  refine wpOrdS_one 15 (by decide) ?_
  simp only [List.drop_succ_cons, List.drop_zero, List.take_succ_cons, List.take_zero]
  go_wp2_with fail
  have hD : Below W.heap.size W (W.alloc (.cells #[.int .i64 A, .int .i64 B, .int .i64 C] 3)).drew := ((Below.refl _ _).alloc (Nat.le_refl _) _).drew
  refine ⟨regrown_of_below hD, ?_⟩
  refine wpOrdS_one 16 (by decide) ?_
  simp only [List.drop_succ_cons, List.drop_zero, List.take_succ_cons, List.take_zero]
  go_wp2_with fail
  refine calls_to (Or_any W.heap.size A B C _ (Blk.below (Blk.mk' rfl rfl) ((Below.refl _ _).drew))) ?_
  go_wp2_with fail
  refine ⟨regrown_of_below hD, ?_⟩
  refine wpOrdS_one 17 (by decide) ?_
  simp only [List.drop_succ_cons, List.drop_zero, List.take_succ_cons, List.take_zero]
  go_wp2_with fail
  refine ⟨regrown_of_below hD, ?_⟩
  refine NoPanic.normal ?_
  go_wp2_with fail
  go_ret
  exact ⟨by rw [HA.out, HB.out, HC.out]; rfl, hB0.trans (hD.mono hB0.size)⟩
end Go.Proofs.Ytbcacebifpagpab
namespace Go.Proofs.Ytbcacebifpagpab
open Go.RowKit Go.Shelf Go.Sort
set_option linter.unusedVariables false
theorem hd_regrown {w : World} {b q : Nat} {x : Hd} (h0 : w.cell? ⟨b, q, none⟩ = some (.int .i64 x.o)) (h1 : w.cell? ⟨b, q + 1, none⟩ = some (.int .i64 x.l)) (h2 : w.cell? ⟨b, q + 2, none⟩ = some (.int .i64 x.b)) (h3 : w.cell? ⟨b, q + 3, none⟩ = some (.int .i64 x.n)) :
    (∀ d os, (grow (redrawn w d) os).cell? ⟨b, q, none⟩ = some (.int .i64 x.o)) ∧ (∀ d os, (grow (redrawn w d) os).cell? ⟨b, q + 1, none⟩ = some (.int .i64 x.l)) ∧
    (∀ d os, (grow (redrawn w d) os).cell? ⟨b, q + 2, none⟩ = some (.int .i64 x.b)) ∧ (∀ d os, (grow (redrawn w d) os).cell? ⟨b, q + 3, none⟩ = some (.int .i64 x.n)) :=
  ⟨fun d os => cell_regrown h0 d os, fun d os => cell_regrown h1 d os, fun d os => cell_regrown h2 d os, fun d os => cell_regrown h3 d os⟩
set_option maxHeartbeats 1000000 in
theorem holdsCheck1_any (B : Nat) (a : Option Addr) (n c : Nat) (z : Nat → Hd) (i : Nat) (w : World) (hi : i < n) (hn : n ≤ c) (hc : c ≤ maxLen) (hz : HdsAt w a n z) (hB : w.cell? ⟨B, 0, none⟩ = some (.slice a n c)) :
    Calls Try.prog 37 #[.int .i64 i, .pointer (some ⟨B, 0, none⟩)] w fun e w' => e = .returned (.bool (badH z i)) ∧ Below w.heap.size w w' := by
  obtain ⟨b, o, rfl, hb, z0, z1, z2, z3⟩ := hz i hi
  obtain ⟨r0, r1, r2, r3⟩ := hd_regrown z0 z1 z2 z3
  have rB : ∀ d os, (grow (redrawn w d) os).cell? ⟨B, 0, none⟩ = some (.slice (some ⟨b, o, none⟩) n c) := fun d os => cell_regrown hB d os
  have m1 : (0 : Int) ≤ (i : Int) := by omega
  have m2 : (i : Int) < (n : Int) := by omega
  unfold maxLen at hc
  by_cases hi0 : i = 0
  · subst hi0
    simp only [Nat.zero_mul, Nat.add_zero] at r0 r1 r2 r3
    clear z0 z1 z2 z3 hz hB
    cases h1 : fineH (z 0)
    · go_enter Try.func37, Try.ntmps37
      go_wp2_with fail
      refine wp_region_quiet_below (by kernel_rfl) (by kernel_rfl) ?_
      repeat (go_big_quiet_step ((go_at_call 29; exact Calls.regrown_of (rightAlone_any (z 0) _))))
      refine wpQuiet_nil ?_
      intro _ hw'
      obtain ⟨⟨dq, osq⟩, hw''⟩ := hw'
      subst hw''
      go_wp2_with fail
      go_ret
      exact ⟨by simp [badH, h1], below_regrown _ _ _⟩
    · go_enter Try.func37, Try.ntmps37
      go_wp2_with fail
      refine wp_region_quiet_below (by kernel_rfl) (by kernel_rfl) ?_
      repeat (go_big_quiet_step ((go_at_call 29; exact Calls.regrown_of (rightAlone_any (z 0) _))))
      refine wpQuiet_nil ?_
      intro _ hw'
      obtain ⟨⟨dq, osq⟩, hw''⟩ := hw'
      subst hw''
      go_wp2_with fail
      go_ret
      exact ⟨by simp [badH, h1], below_regrown _ _ _⟩
  · obtain ⟨k, rfl⟩ : ∃ k, i = k + 1 := ⟨i - 1, by omega⟩
    obtain ⟨b', o', he, hb', y0, y1, y2, y3⟩ := hz k (by omega)
    simp only [Option.some.injEq, Addr.mk.injEq, and_true] at he
    obtain ⟨rfl, rfl⟩ := he
    obtain ⟨p0, p1, p2, p3⟩ := hd_regrown y0 y1 y2 y3
    have m3 : (0 : Int) ≤ (k : Int) := by omega
    have m4 : (k : Int) < (n : Int) := by omega
    have m5 : (0 : Int) < (k : Int) + 1 := by omega
    clear z0 z1 z2 z3 y0 y1 y2 y3 hz hB hi0
    cases h1 : fineH (z (k + 1))
    · go_enter Try.func37, Try.ntmps37
      go_wp2_with fail
      refine wp_region_quiet_below (by kernel_rfl) (by kernel_rfl) ?_
      repeat (go_big_quiet_step (first | (go_at_call 29; exact Calls.regrown_of (rightAlone_any (z (k + 1)) _)) | (go_at_call 31; exact Calls.regrown_of (compare_any (z k) (z (k + 1)) _))))
      refine wpQuiet_nil ?_
      intro _ hw'
      obtain ⟨⟨dq, osq⟩, hw''⟩ := hw'
      subst hw''
      go_wp2_with fail
      go_ret
      exact ⟨by simp [badH, h1], below_regrown _ _ _⟩
    · cases h2 : decide (0 ≤ cmpH (z k) (z (k + 1)))
      · go_enter Try.func37, Try.ntmps37
        go_wp2_with fail
        refine wp_region_quiet_below (by kernel_rfl) (by kernel_rfl) ?_
        repeat (go_big_quiet_step (first | (go_at_call 29; exact Calls.regrown_of (rightAlone_any (z (k + 1)) _)) | (go_at_call 31; exact Calls.regrown_of (compare_any (z k) (z (k + 1)) _))))
        refine wpQuiet_nil ?_
        intro _ hw'
        obtain ⟨⟨dq, osq⟩, hw''⟩ := hw'
        subst hw''
        go_wp2_with fail
        go_ret
        exact ⟨by simp only [badH, Nat.add_sub_cancel, h1, h2]; simp, below_regrown _ _ _⟩
      · go_enter Try.func37, Try.ntmps37
        go_wp2_with fail
        refine wp_region_quiet_below (by kernel_rfl) (by kernel_rfl) ?_
        repeat (go_big_quiet_step (first | (go_at_call 29; exact Calls.regrown_of (rightAlone_any (z (k + 1)) _)) | (go_at_call 31; exact Calls.regrown_of (compare_any (z k) (z (k + 1)) _))))
        refine wpQuiet_nil ?_
        intro _ hw'
        obtain ⟨⟨dq, osq⟩, hw''⟩ := hw'
        subst hw''
        go_wp2_with fail
        go_ret
        exact ⟨by simp only [badH, Nat.add_sub_cancel, h1, h2]; simp, below_regrown _ _ _⟩
set_option maxHeartbeats 1000000 in
theorem holdsCheck_any (s : Hs) (w : World) (hs : s.At w) :
    Calls Try.prog 15 #[s.val] w fun e w' => e = .returned (.int .i64 (checkH s.n s.z)) ∧ Below w.heap.size w w' := by
  obtain ⟨a, n, c, z⟩ := s
  obtain ⟨hn, hc, hz⟩ := hs
  dsimp only at hn hc hz ⊢
  have hc0 := hc
  unfold maxLen at hc
  simp only [Hs.val]
  go_enter Try.func15, Try.ntmps15
  go_wp2_with fail
  go_loopw [8] (fun i wk => ∃ k : Nat, k ≤ n ∧ i = .int .i64 k ∧ (∀ j, j < k → badH z j = false) ∧ Below (w.heap.size + 1) (w.alloc (.cells #[.slice a n c] 22)) wk) (fun i _ => n - (intOf i).toNat)
  case atStart => exact ⟨0, Nat.zero_le _, rfl, fun j hj => absurd hj (Nat.not_lt_zero _), Below.refl _ _⟩
  case round =>
    obtain ⟨k, hk, rfl, hno, hB⟩ := hrel
    have HN : Hid (∀ j, j < k → badH z j = false) := hno
    clear hno
    have hB' : Below w.heap.size w wr := ((Below.refl w.heap.size w).alloc (Nat.le_refl _) _).trans (hB.mono (by omega))
    have hs : w.heap.size + 1 ≤ wr.heap.size := by have := hB.size; simpa using this
    have c0 : wr.cell? ⟨w.heap.size, 0, none⟩ = some (.slice a n c) := (hB.cell (p := ⟨w.heap.size, 0, none⟩) (by simp)).trans (by simp)
    by_cases hlt : k < n
    · go_wp2_with fail
      refine (holdsCheck1_any w.heap.size a n c z k wr hlt hn hc0 (hz.below hB') c0).mono ?_
      rintro e w1 ⟨rfl, hB1⟩
      cases hb : badH z k
      · go_wp2_with fail
        go_roundw
        case rel =>
          refine ⟨k + 1, by omega, by go_num, ?_, hB.trans (hB1.mono hs)⟩
          intro j hj
          by_cases hjk : j = k
          · rw [hjk, hb]
          · exact HN.out j (by omega)
        case measure => simp [intOf]; omega
      · have h3 : Hid (anyB n (badH z) = true) := anyB_yes hlt hb
        go_wp2_with fail
        go_ret
        exact ⟨by rw [show checkH n z = 1 from by simp [checkH, h3.out]]; rfl, hB'.trans (hB1.mono (by omega))⟩
    · go_wp2_with fail
      go_ret
      have h3 : anyB n (badH z) = false := anyB_no fun j hj => HN.out j (by omega)
      exact ⟨by rw [show checkH n z = 0 from by simp [checkH, h3]]; rfl, hB'⟩
end Go.Proofs.Ytbcacebifpagpab
namespace Go.Proofs.Ytbcacebifpagpab
open Go.RowKit Go.Shelf Go.Sort
set_option linter.unusedVariables false
set_option maxHeartbeats 1000000 in
theorem CheckHolds_any (s : Hs) (w : World) (hs : s.At w) :
    Calls Try.prog 33 #[s.val] w fun e w' => e = .returned (.int .i64 (checkH s.n s.z)) ∧ Below w.heap.size w w' := by
  obtain ⟨a, n, c, z⟩ := s
  obtain ⟨hn, hc, hz⟩ := hs
  dsimp only at hn hc hz ⊢
  have hE : Hid (checkH n z = if anyB n (badK z) then 1 else 0) := by show checkH n z = _; rw [bad_eq]; rfl
  unfold maxLen at hc
  simp only [Hs.val]
  generalize checkH n z = E at hE ⊢
  go_enter Try.func33, Try.ntmps33
  go_wp2_with fail
  go_loopw [3] (fun i wk => ∃ k : Nat, k ≤ n ∧ i = .int .i64 k ∧ (∀ j, j < k → badK z j = false) ∧ Below w.heap.size w wk) (fun i _ => n - (intOf i).toNat)
  case atStart => exact ⟨0, Nat.zero_le _, rfl, fun j hj => absurd hj (Nat.not_lt_zero _), Below.refl _ _⟩
  case round =>
    obtain ⟨k, hk, rfl, hno, hB⟩ := hrel
    have HN : Hid (∀ j, j < k → badK z j = false) := hno
    clear hno
    by_cases hlt : k < n
    · have hz1 := hz.below hB
      obtain ⟨b, o, rfl, hb, z0, z1, z2, z3⟩ := hz1 k hlt
      obtain ⟨r0, r1, r2, r3⟩ := hd_regrown z0 z1 z2 z3
      have m1 : (0 : Int) ≤ (k : Int) := by omega
      have m2 : (k : Int) < (n : Int) := by omega
      cases h1 : fineH (z k)
      · have h3 : Hid (anyB n (badK z) = true) := anyB_yes hlt (by simp [badK, h1])
        go_wp2_with fail
        refine wp_region_quiet_below (by kernel_rfl) (by kernel_rfl) ?_
        repeat (go_big_quiet_step ((go_at_call 34; exact Calls.regrown_of (holdFine_any (z k) _))))
        refine wpQuiet_nil ?_
        intro _ hw'
        obtain ⟨⟨dq, osq⟩, hw''⟩ := hw'
        subst hw''
        go_wp2_with fail
        go_ret
        exact ⟨by rw [hE.out, h3.out]; rfl, hB.trans ((below_regrown _ _ _).mono hB.size)⟩
      · by_cases hk0 : k = 0
        · have hb0 : Hid (badK z k = false) := by show badK z k = false; subst hk0; simp [badK, h1]
          subst hk0
          simp only [Nat.zero_mul, Nat.add_zero] at r0 r1 r2 r3
          go_wp2_with fail
          refine wp_region_quiet_below (by kernel_rfl) (by kernel_rfl) ?_
          repeat (go_big_quiet_step ((go_at_call 34; exact Calls.regrown_of (holdFine_any (z 0) _))))
          refine wpQuiet_nil ?_
          intro _ hw'
          obtain ⟨⟨dq, osq⟩, hw''⟩ := hw'
          subst hw''
          go_wp2_with fail
          go_roundw
          case rel =>
            refine ⟨1, by omega, by go_num, ?_, hB.trans ((below_regrown _ _ _).mono hB.size)⟩
            intro j hj
            have : j = 0 := by omega
            rw [this, hb0.out]
          case measure => simp [intOf]; omega
        · obtain ⟨q, rfl⟩ : ∃ q, k = q + 1 := ⟨k - 1, by omega⟩
          have h2 : fineH (z q) = true := by
            have := HN.out q (by omega)
            cases hq : fineH (z q)
            · simp [badK, hq] at this
            · rfl
          obtain ⟨b', o', he, hb', y0, y1, y2, y3⟩ := hz1 q (by omega)
          simp only [Option.some.injEq, Addr.mk.injEq, and_true] at he
          obtain ⟨rfl, rfl⟩ := he
          obtain ⟨p0, p1, p2, p3⟩ := hd_regrown y0 y1 y2 y3
          have m3 : (0 : Int) ≤ (q : Int) := by omega
          have m4 : (q : Int) < (n : Int) := by omega
          have m5 : (0 : Int) < (q : Int) + 1 := by omega
          have HK : Hid _ := And.intro h1 h2
          have hbb : Hid (badK z (q + 1) = decide (keyH (z (q + 1)) ≤ keyH (z q))) := by show badK z (q + 1) = _; simp [badK, h1]
          clear z0 z1 z2 z3 y0 y1 y2 y3 hk0 h2
          cases h4 : decide (keyH (z (q + 1)) ≤ keyH (z q))
          · rw [h4] at hbb
            go_wp2_with fail
            refine wp_region_quiet_below (by kernel_rfl) (by kernel_rfl) ?_
            repeat (go_big_quiet_step (first | (go_at_call 34; exact Calls.regrown_of (holdFine_any (z (q + 1)) _)) | (go_at_call 68; exact Calls.regrown_of (place_any _ _ (by first | exact HK.out.2 | exact HK.out.1)))))
            refine wpQuiet_nil ?_
            intro _ hw'
            obtain ⟨⟨dq, osq⟩, hw''⟩ := hw'
            subst hw''
            go_wp2_with fail
            go_roundw
            case rel =>
              refine ⟨q + 1 + 1, by omega, by go_num, ?_, hB.trans ((below_regrown _ _ _).mono hB.size)⟩
              intro j hj
              by_cases hjk : j = q + 1
              · rw [hjk, hbb.out]
              · exact HN.out j (by omega)
            case measure => simp [intOf]; omega
          · rw [h4] at hbb
            have h3 : Hid (anyB n (badK z) = true) := anyB_yes hlt hbb.out
            go_wp2_with fail
            refine wp_region_quiet_below (by kernel_rfl) (by kernel_rfl) ?_
            repeat (go_big_quiet_step (first | (go_at_call 34; exact Calls.regrown_of (holdFine_any (z (q + 1)) _)) | (go_at_call 68; exact Calls.regrown_of (place_any _ _ (by first | exact HK.out.2 | exact HK.out.1)))))
            refine wpQuiet_nil ?_
            intro _ hw'
            obtain ⟨⟨dq, osq⟩, hw''⟩ := hw'
            subst hw''
            go_wp2_with fail
            go_ret
            exact ⟨by rw [hE.out, h3.out]; rfl, hB.trans ((below_regrown _ _ _).mono hB.size)⟩
    · go_wp2_with fail
      go_ret
      have h3 : anyB n (badK z) = false := anyB_no fun j hj => HN.out j (by omega)
      exact ⟨by rw [hE.out, h3]; rfl, hB⟩
end Go.Proofs.Ytbcacebifpagpab
namespace Go.Proofs.Ytbcacebifpagpab
open Go.RowKit
set_option linter.unusedVariables false
def matchH (x : Hd) (o l b : Int) : Bool := (x.o == o) && (x.l == l) && (x.b == b)
def keptV (n : Nat) (z : Nat → Hd) (o l b : Int) : Int := match (List.range n).find? (fun i => matchH (z i) o l b) with
  | some i => (z i).n
  | none => 0
theorem keptV_none {n : Nat} {z : Nat → Hd} {o l b : Int} (h : ∀ j, j < n → matchH (z j) o l b = false) : keptV n z o l b = 0 := by
  unfold keptV
  have : (List.range n).find? (fun i => matchH (z i) o l b) = none := by
    rw [List.find?_eq_none]
    intro x hx
    simp [h x (List.mem_range.1 hx)]
  rw [this]
theorem keptV_some {n k : Nat} {z : Nat → Hd} {o l b : Int} (hk : k < n) (h : ∀ j, j < k → matchH (z j) o l b = false) (hm : matchH (z k) o l b = true) : keptV n z o l b = (z k).n := by
  unfold keptV
  have e : List.range n = List.range k ++ (k :: (List.range (n - k - 1)).map (fun i => k + 1 + i)) := by
    have := @List.range_add k (n - k)
    rw [show k + (n - k) = n by omega] at this
    rw [this, show n - k = (n - k - 1) + 1 by omega, List.range_succ_eq_map]
    simp [Function.comp_def]
    intro i hi
    omega
  have : (List.range n).find? (fun i => matchH (z i) o l b) = some k := by
    rw [e, List.find?_append]
    have h0 : (List.range k).find? (fun i => matchH (z i) o l b) = none := by
      rw [List.find?_eq_none]
      intro x hx
      simp [h x (List.mem_range.1 hx)]
    rw [h0, List.find?_cons]
    simp [hm]
  rw [this]
theorem keptV_cases (n : Nat) (z : Nat → Hd) (o l b : Int) : (∀ j, j < n → matchH (z j) o l b = false) ∨ ∃ k, k < n ∧ (∀ j, j < k → matchH (z j) o l b = false) ∧ matchH (z k) o l b = true := by
  induction n with
  | zero => exact .inl fun j hj => absurd hj (Nat.not_lt_zero _)
  | succ n ih =>
    rcases ih with h | ⟨k, hk, h1, h2⟩
    · cases hm : matchH (z n) o l b
      · refine .inl fun j hj => ?_
        by_cases hjn : j = n
        · rw [hjn, hm]
        · exact h j (by omega)
      · exact .inr ⟨n, by omega, h, hm⟩
    · exact .inr ⟨k, by omega, h1, h2⟩
theorem matchH_true {x : Hd} {o l b : Int} (h : matchH x o l b = true) : x.o = o ∧ x.l = l ∧ x.b = b := by
  simpa [matchH, and_assoc] using h
def keptS (z : Nat → Hd) (o l : Int) : Nat → Int
  | 0 => 0
  | n + 1 => keptS z o l n + if (z n).o = o ∧ (z n).l = l then (z n).n else 0
theorem right_pred {n : Nat} {z : Nat → Hd} (hr : anyB (n + 1) (badH z) = false) : anyB n (badH z) = false := anyB_no fun j hj => anyB_false hr j (by omega)
theorem keptS_bd {z : Nat → Hd} (o l : Int) : ∀ n, (∀ j, j < n → 1 ≤ (z j).n ∧ (z j).n ≤ 200) → 0 ≤ keptS z o l n ∧ keptS z o l n ≤ 200 * n
  | 0, _ => by simp [keptS]
  | n + 1, h => by
    have ih := keptS_bd (z := z) o l n fun j hj => h j (by omega)
    have := h n (by omega)
    simp only [keptS]
    split <;> omega
theorem keptV_bd {n : Nat} {z : Nat → Hd} (h : ∀ j, j < n → 1 ≤ (z j).n ∧ (z j).n ≤ 200) (o l b : Int) : 0 ≤ keptV n z o l b ∧ keptV n z o l b ≤ 200 := by
  rcases keptV_cases n z o l b with h0 | ⟨k, hk, h1, h2⟩
  · rw [keptV_none h0]; omega
  · rw [keptV_some hk h1 h2]; have := h k hk; omega
end Go.Proofs.Ytbcacebifpagpab
namespace Go.Proofs.Ytbcacebifpagpab
open Go.RowKit Go.Shelf
set_option linter.unusedVariables false
set_option maxHeartbeats 1000000 in
theorem keptAt_any (s : Hs) (o l b : Int) (w : World) (hs : s.At w) :
    Calls Try.prog 35 #[s.val, .int .i64 o, .int .i64 l, .int .i64 b] w fun e w' => e = .returned (.int .i64 (keptV s.n s.z o l b)) ∧ w' = w := by
  obtain ⟨a, n, c, z⟩ := s
  obtain ⟨hn, hc, hz⟩ := hs
  dsimp only at hn hc hz ⊢
  unfold maxLen at hc
  simp only [Hs.val]
  generalize hV : keptV n z o l b = V
  have HV : Hid (keptV n z o l b = V) := hV
  clear hV
  go_enter Try.func35, Try.ntmps35
  go_wp2_with fail
  go_loop [9] (fun i => ∃ k : Nat, k ≤ n ∧ i = .int .i64 k ∧ (∀ j, j < k → matchH (z j) o l b = false)) (fun i => n - (intOf i).toNat)
  case atStart => exact ⟨0, Nat.zero_le _, rfl, fun j hj => absurd hj (Nat.not_lt_zero _)⟩
  case round =>
    obtain ⟨k, hk, rfl, hno⟩ := hrel
    have HN : Hid (∀ j, j < k → matchH (z j) o l b = false) := hno
    clear hno
    by_cases hlt : k < n
    · obtain ⟨bb, oo, rfl, hb, z0, z1, z2, z3⟩ := hz k hlt
      cases hm : matchH (z k) o l b
      · have HM : Hid (matchH (z k) o l b = false) := hm
        unfold matchH at hm
        cases h1 : ((z k).o == o)
        · clear hm
          go_wp2_with fail
          go_round
          case rel => exact ⟨k + 1, by omega, by go_num, fun j hj => by
            by_cases hjk : j = k
            · rw [hjk, HM.out]
            · exact HN.out j (by omega)⟩
          case measure => simp [intOf]; omega
        · cases h2 : ((z k).l == l)
          · clear hm
            go_wp2_with fail
            go_round
            case rel => exact ⟨k + 1, by omega, by go_num, fun j hj => by
              by_cases hjk : j = k
              · rw [hjk, HM.out]
              · exact HN.out j (by omega)⟩
            case measure => simp [intOf]; omega
          · have h3 : ((z k).b == b) = false := by simpa [h1, h2] using hm
            clear hm
            go_wp2_with fail
            go_round
            case rel => exact ⟨k + 1, by omega, by go_num, fun j hj => by
              by_cases hjk : j = k
              · rw [hjk, HM.out]
              · exact HN.out j (by omega)⟩
            case measure => simp [intOf]; omega
      · have hV2 : Hid ((z k).n = V) := (keptV_some hlt HN.out hm).symm.trans HV.out
        unfold matchH at hm
        simp only [Bool.and_eq_true] at hm
        obtain ⟨⟨h1, h2⟩, h3⟩ := hm
        go_wp2_with fail
        go_ret
        exact ⟨by rw [← hV2.out]; rfl, rfl⟩
    · have hV2 : Hid (0 = V) := (keptV_none fun j hj => HN.out j (by omega)).symm.trans HV.out
      go_wp2_with fail
      go_ret
      exact ⟨by rw [← hV2.out]; rfl, rfl⟩
set_option maxHeartbeats 1000000 in
theorem Kept_any (s : Hs) (o l : Int) (w : World) (hs : s.At w) :
    Calls Try.prog 13 #[s.val, .int .i64 o, .int .i64 l] w fun e w' => e = .returned (.tuple #[.int .i64 (if checkH s.n s.z = 0 then keptS s.z o l s.n else 0), .int .i64 (checkH s.n s.z)]) ∧ Below w.heap.size w w' := by
  have HS : Hid _ := hs
  obtain ⟨a, n, c, z⟩ := s
  obtain ⟨hn, hc, hz⟩ := hs
  dsimp only at hn hc hz ⊢
  unfold maxLen at hc
  simp only [Hs.val]
  by_cases h0 : checkH n z = 0
  · have hr : anyB n (badH z) = false := by
      cases h : anyB n (badH z)
      · rfl
      · simp [checkH, h] at h0
    have hlen := right_len hr
    have hN : Hid (∀ j, j < n → 1 ≤ (z j).n ∧ (z j).n ≤ 200) := fun j hj => (fineH_true (right_fine hr j hj)).2.2.2
    have hbd : Hid (∀ k, k ≤ n → 0 ≤ keptS z o l k ∧ keptS z o l k ≤ 200 * k) := fun k hk => keptS_bd o l k fun j hj => hN.out j (by omega)
    rw [if_pos h0]
    have H0 : Hid (checkH n z = 0) := h0
    clear hr
    go_enter Try.func13, Try.ntmps13
    go_wp2_with fail
    refine (holdsCheck_any ⟨a, n, c, z⟩ w HS.out).mono ?_
    rintro e w1 ⟨rfl, hB1⟩
    dsimp only
    go_wp2_with fail
    clear h0
    go_loopw [9, 19] (fun u i wk => ∃ k : Nat, k ≤ n ∧ i = .int .i64 k ∧ u = .int .i64 (keptS z o l k) ∧ Below w.heap.size w wk) (fun _ i _ => n - (intOf i).toNat)
    case atStart => exact ⟨0, Nat.zero_le _, rfl, rfl, hB1⟩
    case round =>
      obtain ⟨k, hk, rfl, rfl, hB⟩ := hrel
      have m1 := hbd.out k hk
      by_cases hlt : k < n
      · obtain ⟨b, q, rfl, hb, z0, z1, z2, z3⟩ := (hz.below hB) k hlt
        have m2 := hN.out k hlt
        have H1 : Hid (keptS z o l (k + 1) = keptS z o l k + if (z k).o = o ∧ (z k).l = l then (z k).n else 0) := rfl
        generalize keptS z o l k = U at m1 H1 ⊢
        cases h1 : ((z k).o == o)
        · have hf : ¬ ((z k).o = o ∧ (z k).l = l) := by simp at h1; omega
          have HF : Hid _ := hf
          clear hf
          go_wp2_with fail
          go_roundw
          case rel => exact ⟨k + 1, by omega, by go_num, by rw [H1.out, if_neg HF.out, Int.add_zero], hB.alloc (by have := hB.size; omega) _⟩
          case measure => simp [intOf]; omega
        · cases h2 : ((z k).l == l)
          · have hf : ¬ ((z k).o = o ∧ (z k).l = l) := by simp at h2; omega
            have HF : Hid _ := hf
            clear hf
            go_wp2_with fail
            go_roundw
            case rel => exact ⟨k + 1, by omega, by go_num, by rw [H1.out, if_neg HF.out, Int.add_zero], hB.alloc (by have := hB.size; omega) _⟩
            case measure => simp [intOf]; omega
          · have hf : ((z k).o = o ∧ (z k).l = l) := by simp at h1 h2; exact ⟨h1, h2⟩
            have HF : Hid _ := hf
            clear hf
            go_wp2_with fail
            go_roundw
            case rel => exact ⟨k + 1, by omega, by go_num, by rw [H1.out, if_pos HF.out], hB.alloc (by have := hB.size; omega) _⟩
            case measure => simp [intOf]; omega
      · have hkn : k = n := by omega
        subst hkn
        go_wp2_with fail
        go_ret2
        exact ⟨by rw [H0.out]; rfl, hB⟩
  · rw [if_neg h0]
    go_enter Try.func13, Try.ntmps13
    go_wp2_with fail
    refine (holdsCheck_any ⟨a, n, c, z⟩ w HS.out).mono ?_
    rintro e w1 ⟨rfl, hB1⟩
    dsimp only
    go_wp2_with fail
    go_ret2
    exact ⟨rfl, hB1⟩
end Go.Proofs.Ytbcacebifpagpab
namespace Go.Proofs.Ytbcacebifpagpab
open Go.RowKit Go.Shelf Go.Sort
set_option linter.unusedVariables false
structure PosH (n : Nat) (z : Nat → Hd) (t : Hd) (i : Nat) : Prop where
  le : i ≤ n
  lo : ∀ q, q < i → cmpH (z q) t < 0
  hi : ∀ q, i ≤ q → q < n → 0 ≤ cmpH (z q) t
theorem right_cmp {n : Nat} {z : Nat → Hd} (h : anyB n (badH z) = false) (p q : Nat) (hpq : p < q) (hq : q < n) : cmpH (z p) (z q) < 0 := by
  have f1 := right_fine h p (by omega)
  have f2 := right_fine h q hq
  have := (cmp_key f1 f2).1
  have := right_lt h p q hpq hq
  omega
set_option maxHeartbeats 1000000 in
theorem Search_any (s : Hs) (t : Hd) (w : World) (hs : s.At w) (hr : anyB s.n (badH s.z) = false) :
    Calls Try.prog 30 #[s.val, t.val, .func (.func 31) #[] #[]] w fun e w' => ∃ i : Nat, e = .returned (.tuple #[.int .i64 i, .bool (decide (i < s.n) && decide (cmpH (s.z i) t = 0))]) ∧ PosH s.n s.z t i ∧ Below w.heap.size w w' := by
  have hlen := right_len hr
  have HC : Hid (∀ p q, p < q → q < s.n → cmpH (s.z p) (s.z q) < 0) := fun p q h1 h2 => right_cmp hr p q h1 h2
  clear hr
  obtain ⟨a, n, c, z⟩ := s
  obtain ⟨hn, hc, hz⟩ := hs
  dsimp only at hn hc hz hlen HC ⊢
  unfold maxLen at hc
  have hB0 : Below w.heap.size w (w.alloc (.cells #[.int .i64 t.o, .int .i64 t.l, .int .i64 t.b, .int .i64 t.n] 24)) := (Below.refl _ _).alloc (Nat.le_refl _) _
  have hT : Hid (∀ w1, Below (w.heap.size + 1) (w.alloc (.cells #[.int .i64 t.o, .int .i64 t.l, .int .i64 t.b, .int .i64 t.n] 24)) w1 → w1.cell? ⟨w.heap.size, 0, none⟩ = some (.int .i64 t.o) ∧ w1.cell? ⟨w.heap.size, 0 + 1, none⟩ = some (.int .i64 t.l) ∧ w1.cell? ⟨w.heap.size, 0 + 2, none⟩ = some (.int .i64 t.b) ∧ w1.cell? ⟨w.heap.size, 0 + 3, none⟩ = some (.int .i64 t.n)) := fun w1 h =>
    ⟨(h.cell (p := ⟨w.heap.size, 0, none⟩) (by simp)).trans (by simp), (h.cell (p := ⟨w.heap.size, 1, none⟩) (by simp)).trans (by simp), (h.cell (p := ⟨w.heap.size, 2, none⟩) (by simp)).trans (by simp), (h.cell (p := ⟨w.heap.size, 3, none⟩) (by simp)).trans (by simp)⟩
  simp only [Hs.val, Hd.val]
  go_enter Try.func30, Try.ntmps30
  go_wp2_with fail
  go_loopw [9, 10] (fun u v wk => ∃ i j : Nat, i ≤ j ∧ j ≤ n ∧ u = .int .i64 i ∧ v = .int .i64 j ∧ (∀ q, q < i → cmpH (z q) t < 0) ∧ (∀ q, j ≤ q → q < n → 0 ≤ cmpH (z q) t) ∧ Below (w.heap.size + 1) (w.alloc (.cells #[.int .i64 t.o, .int .i64 t.l, .int .i64 t.b, .int .i64 t.n] 24)) wk) (fun u v _ => (intOf v).toNat - (intOf u).toNat)
  case atStart => exact ⟨0, n, Nat.zero_le _, Nat.le_refl _, rfl, rfl, fun q hq => absurd hq (Nat.not_lt_zero _), fun q h1 h2 => by omega, Below.refl _ _⟩
  case round =>
    obtain ⟨i, j, hij, hj, rfl, rfl, hlo, hhi, hB⟩ := hrel
    have HL : Hid _ := And.intro hlo hhi
    clear hlo hhi
    have hB' : Below w.heap.size w wr := hB0.trans (hB.mono (by omega))
    have hsz : w.heap.size + 1 ≤ wr.heap.size := by have := hB.size; simpa using this
    obtain ⟨t0, t1, t2, t3⟩ := hT.out wr hB
    obtain ⟨p0, p1, p2, p3⟩ := hd_regrown t0 t1 t2 t3
    simp only [Nat.zero_add] at p1 p2 p3
    clear t0 t1 t2 t3
    by_cases hlt : i < j
    · obtain ⟨m, hm⟩ : ∃ m, m = (i + j) / 2 := ⟨_, rfl⟩
      have hm1 : i ≤ m ∧ m < j := by omega
      have hm2 : Hid (((i : Int) + (j : Int)) / 2 = (m : Int)) := by show ((i : Int) + (j : Int)) / 2 = (m : Int); omega
      clear hm
      have hh : m < n := by omega
      obtain ⟨b, o, rfl, hb, z0, z1, z2, z3⟩ := (hz.below hB') _ hh
      obtain ⟨r0, r1, r2, r3⟩ := hd_regrown z0 z1 z2 z3
      clear z0 z1 z2 z3
      have m3 : (0 : Int) ≤ (m : Int) := by omega
      have m4 : (m : Int) < (n : Int) := by omega
      go_wp2_with fail
      rw [hm2.out]
      cases h1 : decide (cmpH (z m) t < 0)
      · have h2 : ¬ cmpH (z m) t < 0 := by simpa using h1
        have H2 : Hid _ := h2
        clear h2
        refine wp_region_quiet_below (by kernel_rfl) (by kernel_rfl) ?_
        repeat (go_big_quiet_step ((go_at_call 31; exact Calls.regrown_of (compare_any (z m) t _))))
        refine wpQuiet_nil ?_
        intro _ hw'
        obtain ⟨⟨dq, osq⟩, hw''⟩ := hw'
        subst hw''
        go_wp2_with fail
        go_roundw
        case rel =>
          refine ⟨i, m, hm1.1, by omega, by go_num, by go_num, HL.out.1, fun q h1 h2 => ?_, hB.trans ((below_regrown _ _ _).mono hsz)⟩
          by_cases hqm : q = m
          · rw [hqm]; exact Int.not_lt.1 H2.out
          · rcases Int.lt_or_le (cmpH (z q) t) 0 with h | h
            · exact absurd (cmp_trans (HC.out m q (by omega) h2) h) H2.out
            · exact h
        case measure => simp [intOf]; omega
      · have h2 : cmpH (z m) t < 0 := by simpa using h1
        have H2 : Hid _ := h2
        clear h2
        refine wp_region_quiet_below (by kernel_rfl) (by kernel_rfl) ?_
        repeat (go_big_quiet_step ((go_at_call 31; exact Calls.regrown_of (compare_any (z m) t _))))
        refine wpQuiet_nil ?_
        intro _ hw'
        obtain ⟨⟨dq, osq⟩, hw''⟩ := hw'
        subst hw''
        go_wp2_with fail
        go_roundw
        case rel =>
          refine ⟨m + 1, j, by omega, hj, by go_num, by go_num, fun q hq => ?_, HL.out.2, hB.trans ((below_regrown _ _ _).mono hsz)⟩
          by_cases hqm : q = m
          · rw [hqm]; exact H2.out
          · exact cmp_trans (HC.out q m (by omega) (by omega)) H2.out
        case measure => simp [intOf]; omega
    · have hij' : i = j := by omega
      subst hij'
      have HP : Hid (PosH n z t i) := ⟨hj, HL.out.1, HL.out.2⟩
      by_cases hin : i < n
      · obtain ⟨b, o, rfl, hb, z0, z1, z2, z3⟩ := (hz.below hB') _ hin
        obtain ⟨r0, r1, r2, r3⟩ := hd_regrown z0 z1 z2 z3
        clear z0 z1 z2 z3
        have m3 : (0 : Int) ≤ (i : Int) := by omega
        have m4 : (i : Int) < (n : Int) := by omega
        have hd : decide ((i : Int) < (n : Int)) = true := by simp; omega
        go_wp2_with fail
        refine wp_region_quiet_below (by kernel_rfl) (by kernel_rfl) ?_
        repeat (go_big_quiet_step ((go_at_call 31; exact Calls.regrown_of (compare_any (z i) t _))))
        refine wpQuiet_nil ?_
        intro _ hw'
        obtain ⟨⟨dq, osq⟩, hw''⟩ := hw'
        subst hw''
        go_wp2_with fail
        go_ret2
        refine ⟨i, ?_, HP.out, hB'.trans ((below_regrown _ _ _).mono hB'.size)⟩
        simp [hin]
        rfl
      · have hd : decide ((i : Int) < (n : Int)) = false := by simp; omega
        go_wp2_with fail
        refine wp_region_quiet_below (by kernel_rfl) (by kernel_rfl) ?_
        repeat (go_big_quiet_step ((go_at_call 31; exact Calls.regrown_of (compare_any (z i) t _))))
        refine wpQuiet_nil ?_
        intro _ hw'
        obtain ⟨⟨dq, osq⟩, hw''⟩ := hw'
        subst hw''
        go_wp2_with fail
        go_ret2
        refine ⟨i, ?_, HP.out, hB'.trans ((below_regrown _ _ _).mono hB'.size)⟩
        simp [hin]
end Go.Proofs.Ytbcacebifpagpab
namespace Go.Proofs.Ytbcacebifpagpab
open Go.RowKit Go.Shelf Go.Lib
set_option linter.unusedVariables false
theorem infoHold : (Try.prog.info? 24).map (fun i => (i.zero, i.size, i.bytes)) = some (some (.agg #[.int .i64 0, .int .i64 0, .int .i64 0, .int .i64 0]), 4, 32) := by kernel_rfl
set_option maxHeartbeats 2000000 in
set_option maxRecDepth 100000 in
theorem Grow_nil (n : Nat) (w : World) (hn : n ≤ 1000) :
    Calls Try.prog 67 #[.slice none 0 0, .int .i64 n] w fun e w' => ∃ v, e = .returned v ∧ w'.ownsRow w.heap.size 24 4 v 0 [] ∧ Below w.heap.size w w' := by
  obtain ⟨i0, hi, hz0, hz1, hz2⟩ := info_parts infoHold
  by_cases h0 : n = 0
  · subst h0
    go_enter Try.func67, Try.ntmps67
    go_wp2
    go_ret
    exact ⟨_, rfl, World.ownsRow_nil _ _ _ _, Below.refl _ _⟩
  · have hold : (Builtin.firstCells i0.size 0 (.slice none 0 0)).run Try.prog w.drew = .ok (#[] : Array Value) w.drew := run_firstCells_none w.drew i0.size 0 0 0
    have hrz : ∀ ty, (Builtin.append_ #[22, 3] ty #[.slice none 0 0, .int .i64 (n : Int)]).run Try.prog w =
        .ok (.slice (some ⟨w.heap.size, 0, none⟩) n (grownCap w n 0 24)) (w.drew.alloc (.cells (#[] ++ Builtin.zeroCells (Value.agg #[.int .i64 0, .int .i64 0, .int .i64 0, .int .i64 0]).cells n ++ Builtin.zeroCells (Value.agg #[.int .i64 0, .int .i64 0, .int .i64 0, .int .i64 0]).cells (grownCap w n 0 24 - n)) 24)) := fun ty => by
      have h := Lib.run_append_grow_zeros w 22 3 ty 24 i0 (.agg #[.int .i64 0, .int .i64 0, .int .i64 0, .int .i64 0]) .i64 .i64 Try.underlying22 Try.underlying3 hi hz0 none 0 0 [] hold n (by omega) (by omega) (by omega) (by omega)
        (by rw [hz2]; omega)
        (by rw [Nat.zero_add]; exact growslice_fits (by omega) (by rw [hz2]; omega))
      rw [Nat.zero_add] at h
      exact h
    have hGn : n ≤ grownCap w n 0 24 := grownCap_ge w _ _ _
    have hG63 := grownCap_le_maxLen w n 0 24 (by unfold maxLen; omega)
    obtain ⟨G, hG⟩ : ∃ G, G = grownCap w n 0 24 := ⟨_, rfl⟩
    rw [← hG] at hrz hGn hG63
    have HM : Hid (G ≤ maxLen) := hG63
    unfold maxLen at hG63
    have hn1 : (0 : Int) < (n : Int) := by omega
    clear hold hG
    go_enter Try.func67, Try.ntmps67
    go_wp2_with (at_builtin; refine Lib.wpList_append_run _ rfl _ _ _ _ rfl _ _ rfl rfl _ _ (hrz _) ?_)
    go_ret
    refine ⟨_, rfl, ?_, ((Below.refl _ _).alloc (Nat.le_refl _) _).drew⟩
    exact (World.ownsRow_made (base := w.heap.size) (e := 24) (size := 4) w (Builtin.zeroCells #[.int .i64 0, .int .i64 0, .int .i64 0, .int .i64 0] n ++ Builtin.zeroCells #[.int .i64 0, .int .i64 0, .int .i64 0, .int .i64 0] (G - n)) G (Nat.le_refl _) HM.out (by
      simp [Builtin.zeroCells]; omega)).drew
def flatH (n : Nat) (z : Nat → Hd) : List Value := (List.range n).flatMap fun i => hdCells (z i)
theorem flatH_len : ∀ (n : Nat) (z : Nat → Hd), (flatH n z).length = n * 4
  | 0, _ => rfl
  | n + 1, z => by
    have := flatH_len n z
    unfold flatH at *
    rw [List.range_succ, List.flatMap_append, List.length_append, this]
    simp [hdCells]
    omega
theorem flatH_succ (n : Nat) (z : Nat → Hd) : flatH (n + 1) z = flatH n z ++ hdCells (z n) := by
  unfold flatH
  rw [List.range_succ, List.flatMap_append]
  simp
theorem flatH_get : ∀ (n : Nat) (z : Nat → Hd) (i c : Nat), i < n → c < 4 → (flatH n z)[i * 4 + c]? = (hdCells (z i))[c]?
  | n + 1, z, i, c, hi, hc => by
    rw [flatH_succ]
    by_cases hin : i = n
    · subst hin
      rw [List.getElem?_append_right (by rw [flatH_len]; omega), flatH_len]
      congr 1
      omega
    · rw [List.getElem?_append_left (by rw [flatH_len]; omega)]
      exact flatH_get n z i c (by omega) hc
theorem flatH_congr {n : Nat} {z z' : Nat → Hd} (h : ∀ i, i < n → z i = z' i) : flatH n z = flatH n z' := by
  unfold flatH
  rw [List.flatMap_def, List.flatMap_def]
  rw [List.map_congr_left fun i hi => by rw [h i (List.mem_range.1 hi)]]
theorem flatH_one (n : Nat) (z : Nat → Hd) : ∀ u ∈ flatH n z, u.oneCell' = true := by
  intro u hu
  unfold flatH at hu
  rw [List.mem_flatMap] at hu
  obtain ⟨i, _, hi⟩ := hu
  simp [hdCells] at hi
  rcases hi with rfl | rfl | rfl | rfl <;> rfl
theorem HdsAt.news {w : World} {b o n : Nat} {z : Nat → Hd} (h : HdsAt w (some ⟨b, o, none⟩) n z) : ∀ j u, (flatH n z)[j]? = some u → w.cell? ((⟨b, o, none⟩ : Addr).add j) = some u := by
  intro j u hj
  have hlt : j < n * 4 := by
    have := (List.getElem?_eq_some_iff.1 hj).1
    rwa [flatH_len] at this
  have hjd : j = (j / 4) * 4 + j % 4 := by omega
  have hq : j / 4 < n := by omega
  obtain ⟨b', o', he, _, h0, h1, h2, h3⟩ := h (j / 4) hq
  simp only [Option.some.injEq, Addr.mk.injEq, and_true] at he
  obtain ⟨rfl, rfl⟩ := he
  rw [hjd, flatH_get n z _ _ hq (by omega)] at hj
  rw [Go.WideShapes.add_plain]
  have hc : j % 4 = 0 ∨ j % 4 = 1 ∨ j % 4 = 2 ∨ j % 4 = 3 := by omega
  rcases hc with hc | hc | hc | hc
  · rw [hc] at hj; simp [hdCells] at hj; rw [← hj, ← h0]; congr 2; omega
  · rw [hc] at hj; simp [hdCells] at hj; rw [← hj, ← h1]; congr 2; omega
  · rw [hc] at hj; simp [hdCells] at hj; rw [← hj, ← h2]; congr 2; omega
  · rw [hc] at hj; simp [hdCells] at hj; rw [← hj, ← h3]; congr 2; omega
theorem Hs.ofOwns {w : World} {base : Nat} {e : TypeId} {v : Value} {n : Nat} {z : Nat → Hd} (h : w.ownsRow base e 4 v n (flatH n z)) : ∃ s : Hs, v = s.val ∧ s.At w ∧ s.n = n ∧ s.z = z := by
  by_cases hv : v = .slice none 0 0
  · have hn : n = 0 := by
      rcases h.2 with ⟨_, h0⟩ | ⟨g, cap, cur, hv', _⟩
      · exact h0
      · rw [hv] at hv'; cases hv'
    subst hn
    exact ⟨⟨none, 0, 0, z⟩, hv, ⟨Nat.le_refl _, Nat.zero_le _, fun i hi => absurd hi (Nat.not_lt_zero _), fun _ => rfl⟩, rfl, rfl⟩
  · obtain ⟨g, c, rfl, h1, h2, h3, h4⟩ := Blk.ofOwns h hv
    refine ⟨⟨some ⟨g, 0, none⟩, n, c, z⟩, rfl, ⟨h1, h2, fun i hi => ?_, fun h => by cases h⟩, rfl, rfl⟩
    have hi' : i < n := hi
    have k : ∀ q, q < 4 → w.cell? ⟨g, 0 + i * 4 + q, none⟩ = some ((flatH n z).getD (i * 4 + q) default) := fun q hq => by
      rw [Nat.zero_add]
      exact h4.cell (by omega)
    have e : ∀ q, q < 4 → (flatH n z).getD (i * 4 + q) default = (hdCells (z i)).getD q default := fun q hq => by
      simp only [List.getD, flatH_get n z i q hi' hq]
    refine ⟨g, 0, rfl, h4.lt, ?_, ?_, ?_, ?_⟩
    · have := k 0 (by omega); rw [e 0 (by omega)] at this; simpa [hdCells] using this
    · have := k 1 (by omega); rw [e 1 (by omega)] at this; simpa [hdCells] using this
    · have := k 2 (by omega); rw [e 2 (by omega)] at this; simpa [hdCells] using this
    · have := k 3 (by omega); rw [e 3 (by omega)] at this; simpa [hdCells] using this
end Go.Proofs.Ytbcacebifpagpab
namespace Go.Proofs.Ytbcacebifpagpab
open Go.RowKit Go.Shelf
set_option linter.unusedVariables false
def sumN (S : Nat → Hs) : Nat → Nat
  | 0 => 0
  | k + 1 => sumN S k + (S k).n
def catC (S : Nat → Hs) : Nat → List Value
  | 0 => []
  | k + 1 => catC S k ++ flatH (S k).n (S k).z
theorem sumN_le {S : Nat → Hs} {m : Nat} (h : ∀ i, i < m → (S i).n ≤ 100) : ∀ k, k ≤ m → sumN S k ≤ 100 * k
  | 0, _ => by simp [sumN]
  | k + 1, hk => by
    have := sumN_le h k (by omega)
    have := h k (by omega)
    simp only [sumN]
    omega
set_option maxRecDepth 100000 in
set_option maxHeartbeats 2000000 in
theorem Concat_any (m g c0 : Nat) (S : Nat → Hs) (w : World) (hm : m ≤ 3) (hc0 : m ≤ c0) (hc1 : c0 ≤ maxLen) (hg : Blk w g 22 m (fun i => .slice (S i).a (S i).n (S i).c)) (hat : ∀ i, i < m → (S i).At w) (hn : ∀ i, i < m → (S i).n ≤ 100) :
    Calls Try.prog 32 #[.slice (some ⟨g, 0, none⟩) m c0] w fun e w' => ∃ v, e = .returned v ∧ w'.ownsRow w.heap.size 24 4 v (sumN S m) (catC S m) ∧ Below w.heap.size w w' := by
  obtain ⟨i0, hi, hz0, hz1, hz2⟩ := info_parts infoHold
  have HA : Hid (∀ i, i < m → (S i).At w) := hat
  have HN : Hid (∀ i, i < m → (S i).n ≤ 100) := hn
  clear hat hn
  unfold maxLen at hc1
  go_enter Try.func32, Try.ntmps32
  go_wp2_with fail
  go_loop [3, 11] (fun u i => ∃ k : Nat, k ≤ m ∧ i = .int .i64 k ∧ u = .int .i64 (sumN S k : Nat)) (fun _ i => m - (intOf i).toNat)
  case atStart => exact ⟨0, Nat.zero_le _, rfl, rfl⟩
  case round =>
    obtain ⟨k, hk, rfl, rfl⟩ := hrel
    have b1 := sumN_le HN.out k hk
    by_cases hlt : k < m
    · have b2 := HN.out k hlt
      have z0 := hg.cell hlt
      have le := (HA.out k hlt).le
      have cap := (HA.out k hlt).cap
      unfold maxLen at cap
      have H1 : Hid (sumN S (k + 1) = sumN S k + (S k).n) := rfl
      generalize sumN S k = U at b1 H1 ⊢
      go_wp2_with fail
      go_round
      case rel => exact ⟨k + 1, by omega, by go_num, by rw [H1.out]; go_num⟩
      case measure => simp [intOf]; omega
    · have hkm : k = m := by omega
      subst hkm
      go_wp2_with fail
      refine (Grow_nil (sumN S k) w (by omega)).mono ?_
      rintro e w1 ⟨v0, rfl, hown, hB1⟩
      go_wp2_with fail
      go_loopw [6, 27] (fun v i wk => ∃ j : Nat, j ≤ k ∧ i = .int .i64 j ∧ wk.ownsRow w.heap.size 24 4 v (sumN S j) (catC S j) ∧ Below w.heap.size w wk) (fun _ i _ => k - (intOf i).toNat)
      case atStart => exact ⟨0, Nat.zero_le _, rfl, hown, hB1⟩
      case round =>
        obtain ⟨j, hj, rfl, hown, hB⟩ := hrel
        by_cases hjk : j < k
        · have z0 := (hg.below hB).cell hjk
          have hs := (HA.out j hjk).below hB
          have b2 := HN.out j hjk
          have b3 := sumN_le HN.out j (by omega)
          cases ha : (S j).a with
          | none =>
            have hn0 : (S j).n = 0 := by
              rcases Nat.eq_zero_or_pos (S j).n with h | h
              · exact h
              · obtain ⟨_, _, he, _⟩ := hs.hds 0 h
                rw [ha] at he
                cases he
            rw [ha, hn0, hs.nilc ha] at z0
            have H1 : Hid (sumN S (j + 1) = sumN S j ∧ catC S (j + 1) = catC S j) := by
              show _ ∧ _
              simp [sumN, catC, hn0, flatH]
            go_wp2_with (at_builtin; refine wpList_append_own_none rfl (.tmp 31) (.tmp 32) 22 rfl w.heap.size 24 i0 4 Try.underlying22 hi _ _ _ rfl hown rfl ?_)
            go_roundw
            case rel => exact ⟨j + 1, by omega, by go_num, by rw [H1.out.1, H1.out.2]; exact hown, hB⟩
            case measure => simp [intOf]; omega
          | some ad =>
            have hnews := hs.hds
            rw [ha] at z0 hnews
            go_wp2_with (at_builtin; refine wpList_append_own _ rfl (.tmp 31) (.tmp 32) 22 rfl w.heap.size 24 i0 (.agg #[.int .i64 0, .int .i64 0, .int .i64 0, .int .i64 0]) 4 32 Try.underlying22 hi hz0 hz1 hz2 rfl (by decide) _ _ _ rfl hown ad (S j).n (S j).c (flatH (S j).n (S j).z) rfl ?c1 ?c2 ?c3 ?c4 ?c5 ?c6 ?_)
            case c1 => exact flatH_len _ _
            case c2 =>
              intro q u hq
              have hpos : 0 < (S j).n := by
                have := (List.getElem?_eq_some_iff.1 hq).1
                rw [flatH_len] at this
                omega
              obtain ⟨b, o, he, _⟩ := hnews 0 hpos
              simp only [Option.some.injEq] at he
              subst he
              exact hnews.news q u hq
            case c3 => exact flatH_one _ _
            case c4 => unfold maxLen; omega
            case c5 => omega
            case c6 => exact hB.size
            intro v' w2 hown2 hgrow2 hnil2
            have hlt2 := hown.lt
            have hB2 : Below w.heap.size w w2 := hB.grown hgrow2 hB.size (fun q hq => (hlt2 q hq).1)
            clear hgrow2 hnil2 hlt2 hnews
            go_wp2_with fail
            go_roundw
            case rel => exact ⟨j + 1, by omega, by go_num, hown2, hB2⟩
            case measure => simp [intOf]; omega
        · have hjk' : j = k := by omega
          subst hjk'
          go_wp2_with fail
          go_ret
          exact ⟨_, rfl, hown, hB⟩
end Go.Proofs.Ytbcacebifpagpab
namespace Go.Proofs.Ytbcacebifpagpab
open Go.RowKit
set_option linter.unusedVariables false
def dropZ (z : Nat → Hd) (i j : Nat) : Hd := if j < i then z j else z (j + 1)
def dropI (n : Nat) (z : Nat → Hd) (o l b : Int) : Nat := ((List.range n).find? (fun i => matchH (z i) o l b)).getD 0
def dropE (n : Nat) (z : Nat → Hd) (o l b : Int) : Int := if checkH n z = 0 then (if keptV n z o l b = 0 then 4 else 0) else checkH n z
def dropN (n : Nat) (z : Nat → Hd) (o l b : Int) : Int := if checkH n z = 0 then keptV n z o l b else 0
def DropOK (n : Nat) (z : Nat → Hd) (o l b : Int) (s' : Hs) : Prop :=
  s'.n = (if dropE n z o l b = 0 then n - 1 else 0) ∧ ∀ j, j < s'.n → s'.z j = dropZ z (dropI n z o l b) j
theorem dropI_some {n k : Nat} {z : Nat → Hd} {o l b : Int} (hk : k < n) (h : ∀ j, j < k → matchH (z j) o l b = false) (hm : matchH (z k) o l b = true) : dropI n z o l b = k := by
  unfold dropI
  have e : List.range n = List.range k ++ (k :: (List.range (n - k - 1)).map (fun i => k + 1 + i)) := by
    have := @List.range_add k (n - k)
    rw [show k + (n - k) = n by omega] at this
    rw [this, show n - k = (n - k - 1) + 1 by omega, List.range_succ_eq_map]
    simp [Function.comp_def]
    intro i hi
    omega
  rw [e, List.find?_append]
  have h0 : (List.range k).find? (fun i => matchH (z i) o l b) = none := by
    rw [List.find?_eq_none]
    intro x hx
    simp [h x (List.mem_range.1 hx)]
  rw [h0, List.find?_cons]
  simp [hm]
theorem match_cmp {x : Hd} {o l b : Int} (t : Hd) (ht : t.o = o ∧ t.l = l ∧ t.b = b) : matchH x o l b = true ↔ cmpH x t = 0 := by
  rw [cmp_zero]
  simp [matchH, ht, and_assoc]
theorem checkH_zero {n : Nat} {z : Nat → Hd} (h : checkH n z = 0) : anyB n (badH z) = false := by
  cases h' : anyB n (badH z)
  · rfl
  · simp [checkH, h'] at h
theorem found {n : Nat} {z : Nat → Hd} {o l b : Int} {t : Hd} {i : Nat} (hr : anyB n (badH z) = false) (ht : t.o = o ∧ t.l = l ∧ t.b = b) (hp : PosH n z t i) :
    ((decide (i < n) && decide (cmpH (z i) t = 0)) = true → i < n ∧ keptV n z o l b = (z i).n ∧ dropI n z o l b = i ∧ 1 ≤ (z i).n ∧ (z i).n ≤ 200) ∧
    ((decide (i < n) && decide (cmpH (z i) t = 0)) = false → keptV n z o l b = 0 ∧ ∀ j, j < n → matchH (z j) o l b = false) := by
  have lo : ∀ j, j < i → matchH (z j) o l b = false := fun j hj => by
    cases hm : matchH (z j) o l b
    · rfl
    · have := (match_cmp t ht).1 hm
      have := hp.lo j hj
      omega
  constructor
  · intro h
    simp only [Bool.and_eq_true, decide_eq_true_eq] at h
    have hm := (match_cmp (x := z i) t ht).2 h.2
    have hf := (fineH_true (right_fine hr i h.1)).2.2.2
    exact ⟨h.1, keptV_some h.1 lo hm, dropI_some h.1 lo hm, hf⟩
  · intro h
    have no : ∀ j, j < n → matchH (z j) o l b = false := fun j hj => by
      rcases Nat.lt_trichotomy j i with hji | hji | hji
      · exact lo j hji
      · subst hji
        cases hm : matchH (z j) o l b
        · rfl
        · have := (match_cmp t ht).1 hm
          simp [hj, this] at h
      · cases hm : matchH (z j) o l b
        · rfl
        · have h1 := (match_cmp t ht).1 hm
          have h2 := right_cmp hr i j hji hj
          have h3 := hp.hi i (Nat.le_refl _) (by omega)
          rw [cmp_zero] at h1
          rw [cmp_neg] at h2
          have h4 : cmpH (z i) t < 0 := by rw [cmp_neg]; omega
          omega
    exact ⟨keptV_none no, no⟩
theorem flatH_append (z : Nat → Hd) (p : Nat) : ∀ q, flatH (p + q) z = flatH p z ++ flatH q (fun j => z (p + j))
  | 0 => by simp [flatH]
  | q + 1 => by
    rw [← Nat.add_assoc, flatH_succ, flatH_append z p q, flatH_succ, List.append_assoc]
theorem flatH_drop (n : Nat) (z : Nat → Hd) (i : Nat) (hi : i < n) : flatH (n - 1) (dropZ z i) = flatH i z ++ flatH (n - (i + 1)) (fun j => z (i + 1 + j)) := by
  rw [show n - 1 = i + (n - (i + 1)) by omega, flatH_append]
  rw [flatH_congr (n := i) (z := dropZ z i) (z' := z) fun j hj => by simp [dropZ, hj]]
  rw [flatH_congr (n := n - (i + 1)) (z := fun j => dropZ z i (i + j)) (z' := fun j => z (i + 1 + j)) fun j hj => by show dropZ z i (i + j) = _; unfold dropZ; rw [if_neg (by omega), show i + j + 1 = i + 1 + j by omega]]
theorem HdsAt.cut {w : World} {a : Addr} {n c : Nat} {z : Nat → Hd} (h : HdsAt w (some a) n z) (k : Nat) (hk : k ≤ n) (hn : n ≤ c) : HdsAt w (some (if c = k then a else a.add (k * 4))) (n - k) (fun j => z (k + j)) := by
  intro i hi
  obtain ⟨b, o, ha, hb, h0, h1, h2, h3⟩ := h (k + i) (by omega)
  simp only [Option.some.injEq] at ha
  subst ha
  refine ⟨b, o + k * 4, ?_, hb, ?_, ?_, ?_, ?_⟩
  · rw [if_neg (by omega), Go.WideShapes.add_plain]
  all_goals (rw [show o + k * 4 + i * 4 = o + (k + i) * 4 by omega]; assumption)
end Go.Proofs.Ytbcacebifpagpab
namespace Go.Proofs.Ytbcacebifpagpab
open Go.RowKit Go.Shelf
set_option linter.unusedVariables false
def OwnH (A : Nat) (e : TypeId) (w : World) (s : Hs) : Prop := s.n ≤ s.c ∧ s.c ≤ maxLen ∧ (s.a = none → s.c = 0) ∧ (0 < s.n → ∃ g, s.a = some ⟨g, 0, none⟩ ∧ A ≤ g ∧ Blk w g e (s.n * 4) (fun j => (flatH s.n s.z).getD j default))
theorem OwnH.at {A : Nat} {e : TypeId} {w : World} {s : Hs} (h : OwnH A e w s) : s.At w := by
  obtain ⟨h1, h2, h3, h4⟩ := h
  refine ⟨h1, h2, fun i hi => ?_, h3⟩
  obtain ⟨g, ha, hA, hb⟩ := h4 (by omega)
  have c : ∀ k, k < 4 → w.cell? ⟨g, 0 + i * 4 + k, none⟩ = (hdCells (s.z i))[k]? := fun k hk => by
    have h5 := hb.cell (j := i * 4 + k) (by omega)
    have h6 := flatH_get s.n s.z i k hi hk
    have h7 : i * 4 + k < (flatH s.n s.z).length := by rw [flatH_len]; omega
    rw [Nat.zero_add, h5, ← h6, List.getElem?_eq_getElem h7]
    simp [List.getD, List.getElem?_eq_getElem h7]
  exact ⟨g, 0, ha, hb.lt, c 0 (by decide), c 1 (by decide), c 2 (by decide), c 3 (by decide)⟩
theorem OwnH.below {A : Nat} {e : TypeId} {w w' : World} {s : Hs} (h : OwnH A e w s) (hB : Below w.heap.size w w') : OwnH A e w' s := by
  obtain ⟨h1, h2, h3, h4⟩ := h
  refine ⟨h1, h2, h3, fun hn => ?_⟩
  obtain ⟨g, ha, hA, hb⟩ := h4 hn
  exact ⟨g, ha, hA, hb.below hB⟩
theorem OwnH.mono {A A' : Nat} {e : TypeId} {w : World} {s : Hs} (h : OwnH A e w s) (hA : A' ≤ A) : OwnH A' e w s := by
  obtain ⟨h1, h2, h3, h4⟩ := h
  refine ⟨h1, h2, h3, fun hn => ?_⟩
  obtain ⟨g, ha, h5, hb⟩ := h4 hn
  exact ⟨g, ha, by omega, hb⟩
def Room (A : Nat) (w : World) (e : TypeId) (size : Nat) (a : Option Addr) (c : Nat) : Prop := c = 0 ∨ ∃ g cur, a = some ⟨g, 0, none⟩ ∧ A ≤ g ∧ w.heap[g]? = some (.cells cur e (0, 0)) ∧ cur.size = c * size
theorem Room.ofOwns {A A' : Nat} {w : World} {e : TypeId} {size : Nat} {a : Option Addr} {n n' c : Nat} {xs : List Value} (h : w.ownsRow A e size (.slice a n c) n' xs) (hA : A' ≤ A) : Room A' w e size a c := by
  obtain ⟨_, ⟨h, _⟩ | ⟨g, cap, cur, h, hb, hg, h1, h2, h3, h4⟩⟩ := h
  · cases h; exact Or.inl rfl
  · cases h; exact Or.inr ⟨g, cur, rfl, Nat.le_trans hA hb, hg, h3⟩
theorem Room.same {A : Nat} {w w' : World} {e : TypeId} {size : Nat} {a : Option Addr} {c : Nat} (h : Room A w e size a c) (hs : ∀ (g : Nat) (cur : Array Value), w.heap[g]? = some (.cells cur e (0, 0)) → w'.heap[g]? = w.heap[g]?) : Room A w' e size a c := by
  rcases h with h | ⟨g, cur, h1, h2, h3, h4⟩
  · exact Or.inl h
  · exact Or.inr ⟨g, cur, h1, h2, (hs g cur h3).trans h3, h4⟩
theorem Room.below {A : Nat} {w w' : World} {e : TypeId} {size : Nat} {a : Option Addr} {c : Nat} (h : Room A w e size a c) (hB : Below w.heap.size w w') : Room A w' e size a c :=
  h.same fun g _ hg => hB.block g (Array.getElem?_eq_some_iff.1 hg).1
theorem Room.mono {A A' : Nat} {w : World} {e : TypeId} {size : Nat} {a : Option Addr} {c : Nat} (h : Room A w e size a c) (hA : A' ≤ A) : Room A' w e size a c := by
  rcases h with h | ⟨g, cur, h1, h2, h3⟩
  · exact Or.inl h
  · exact Or.inr ⟨g, cur, h1, by omega, h3⟩
theorem Room.set {A : Nat} {w : World} {e : TypeId} {size : Nat} {a : Option Addr} {c : Nat} (h : Room A w e size a c) (q j : Nat) (u : Value) : Room A (w.setCell ⟨q, j, none⟩ u) e size a c := by
  rcases h with h | ⟨g, cur, h1, h2, h3, h4⟩
  · exact Or.inl h
  · by_cases hq : g = q
    · subst hq
      exact Or.inr ⟨g, cur.setIfInBounds j u, h1, h2, by simp [World.setCell, Array.getElem?_modify, h3], by simpa using h4⟩
    · exact Or.inr ⟨g, cur, h1, h2, (Below.heap_setCell w ⟨q, j, none⟩ u g hq).trans h3, h4⟩
theorem OwnH.nil (A : Nat) (e : TypeId) (w : World) (z : Nat → Hd) : OwnH A e w ⟨none, 0, 0, z⟩ := ⟨Nat.le_refl _, Nat.zero_le _, fun _ => rfl, fun h => absurd h (Nat.lt_irrefl _)⟩
theorem OwnH.ofRow {w : World} {A base : Nat} {e : TypeId} {v : Value} {n : Nat} {z : Nat → Hd} (h : w.ownsRow base e 4 v n (flatH n z)) (hA : A ≤ base) : ∃ s : Hs, v = s.val ∧ OwnH A e w s ∧ s.n = n ∧ s.z = z := by
  by_cases hv : v = .slice none 0 0
  · have hn : n = 0 := by
      rcases h.2 with ⟨_, h0⟩ | ⟨g, cap, cur, hv', _⟩
      · exact h0
      · rw [hv] at hv'; cases hv'
    subst hn
    exact ⟨⟨none, 0, 0, z⟩, hv, OwnH.nil A e w z, rfl, rfl⟩
  · obtain ⟨g, c, rfl, h1, h2, h3, h4⟩ := Blk.ofOwns h hv
    exact ⟨⟨some ⟨g, 0, none⟩, n, c, z⟩, rfl, ⟨h1, h2, (fun e => by cases e), fun _ => ⟨g, rfl, Nat.le_trans hA h3, h4⟩⟩, rfl, rfl⟩
end Go.Proofs.Ytbcacebifpagpab
namespace Go.Proofs.Ytbcacebifpagpab
open Go.RowKit Go.Shelf Go.Sort
set_option linter.unusedVariables false
set_option maxRecDepth 100000 in
set_option maxHeartbeats 2000000 in
theorem DropOwn_any (s : Hs) (o l b : Int) (w : World) (hs : s.At w) :
    Calls Try.prog 14 #[s.val, .int .i64 o, .int .i64 l, .int .i64 b] w fun e w' => ∃ s' : Hs, e = .returned (.tuple #[s'.val, .int .i64 (dropN s.n s.z o l b), .int .i64 (dropE s.n s.z o l b)]) ∧ OwnH w.heap.size 24 w' s' ∧ DropOK s.n s.z o l b s' ∧ Below w.heap.size w w' := by
  have HS := hs
  obtain ⟨a, n, c, z⟩ := s
  obtain ⟨hn, hc, hz⟩ := hs
  dsimp only at hn hc hz ⊢
  have hc0 := hc
  unfold maxLen at hc
  simp only [Hs.val]
  have nilAt : ∀ w', OwnH w.heap.size 24 w' ⟨none, 0, 0, z⟩ := fun w' => OwnH.nil _ _ _ _
  have NA : Hid (∀ w', OwnH w.heap.size 24 w' ⟨none, 0, 0, z⟩) := nilAt
  clear nilAt
  go_enter Try.func14, Try.ntmps14
  go_wp2_with fail
  refine (holdsCheck_any ⟨a, n, c, z⟩ w HS).mono ?_
  rintro e w1 ⟨rfl, hB1⟩
  dsimp only
  by_cases h0 : checkH n z = 0
  · have hr := checkH_zero h0
    have hlen := right_len hr
    go_wp2_with fail
    refine (Search_any ⟨a, n, c, z⟩ ⟨o, l, b, 0⟩ w1 (HS.below hB1) hr).mono ?_
    rintro e w2 ⟨i, rfl, hp, hB2⟩
    dsimp only at hp ⊢
    have hBz := hB1.trans (hB2.mono hB1.size)
    obtain ⟨fy, fn⟩ := found (o := o) (l := l) (b := b) hr ⟨rfl, rfl, rfl⟩ hp
    have hpl := hp.le
    have HZ := HS.below hBz
    clear hp hz
    cases hf : (decide (i < n) && decide (cmpH (z i) ⟨o, l, b, 0⟩ = 0))
    · obtain ⟨k0, _⟩ := fn hf
      have hE : Hid (dropN n z o l b = 0 ∧ dropE n z o l b = 4) := by show _ ∧ _; simp [dropN, dropE, h0, k0]
      clear fy fn k0
      go_wp2_with fail
      go_ret3
      exact ⟨⟨none, 0, 0, z⟩, by rw [hE.out.1, hE.out.2]; rfl, NA.out _, ⟨by rw [hE.out.2]; rfl, fun j hj => absurd hj (Nat.not_lt_zero _)⟩, hBz⟩
    · obtain ⟨hin, k0, kI, k1, k2⟩ := fy hf
      have hE : Hid (dropN n z o l b = (z i).n ∧ dropE n z o l b = 0 ∧ dropI n z o l b = i) := by
        show _ ∧ _ ∧ _
        refine ⟨by simp [dropN, h0, k0], ?_, kI⟩
        unfold dropE
        rw [if_pos h0, if_neg (by omega)]
      obtain ⟨bb, oo, ha, hb, z0, z1, z2, z3⟩ := HZ.hds i hin
      dsimp only at ha z0 z1 z2 z3
      subst ha
      have r3 : ∀ d os, (grow (redrawn w2 d) os).cell? ⟨bb, oo + i * 4 + 3, none⟩ = some (.int .i64 (z i).n) := fun d os => cell_regrown z3 d os
      have m1 : (0 : Int) ≤ (i : Int) := by omega
      have m2 : (i : Int) < (n : Int) := by omega
      have m3 : (i : Int) + 1 ≤ (n : Int) := by omega
      have m4 : (n : Int) ≤ (c : Int) := by omega
      clear fy fn k0 kI z0 z1 z2
      go_wp2_with fail
      refine wp_region_ordS (fun w' => ∃ p : Regrown, w' = grow (redrawn w2 p.d) p.os)
        ([0, 1, 2, 3, 4, 5, 6, 9, 10, 11, 12, 13].map (fun k => (true, k)) ++ [(false, 7), (false, 8), (true, 14), (true, 15), (false, 16)]) (by kernel_rfl) (by kernel_rfl) (by kernel_rfl) (by kernel_rfl) (regrown_of_below ((Below.refl _ _).drew)) ?_
      refine wpOrdS_first 0 rfl rfl ?_
      go_big_quiet_step (fail)
      refine wpQuiet_nil ?_
      refine wpOrdS_first 1 rfl rfl ?_
      go_big_quiet_step (fail)
      refine wpQuiet_nil ?_
      refine wpOrdS_first 2 rfl rfl ?_
      go_big_quiet_step (fail)
      refine wpQuiet_nil ?_
      refine wpOrdS_first 3 rfl rfl ?_
      go_big_quiet_step (fail)
      refine wpQuiet_nil ?_
      refine wpOrdS_first 4 rfl rfl ?_
      go_big_quiet_step (fail)
      refine wpQuiet_nil ?_
      refine wpOrdS_first 5 rfl rfl ?_
      go_big_quiet_step (fail)
      refine wpQuiet_nil ?_
      refine wpOrdS_first 6 rfl rfl ?_
      go_big_quiet_step (fail)
      refine wpQuiet_nil ?_
      refine wpOrdS_first 9 rfl rfl ?_
      go_big_quiet_step (fail)
      refine wpQuiet_nil ?_
      refine wpOrdS_first 10 rfl rfl ?_
      go_big_quiet_step (fail)
      refine wpQuiet_nil ?_
      refine wpOrdS_first 11 rfl rfl ?_
      go_big_quiet_step (fail)
      refine wpQuiet_nil ?_
      refine wpOrdS_first 12 rfl rfl ?_
      go_big_quiet_step (fail)
      refine wpQuiet_nil ?_
      refine wpOrdS_first 13 rfl rfl ?_
      go_big_quiet_step (fail)
      refine wpQuiet_nil ?_
      refine wpOrdS_one 7 (by decide) ?_
      simp only [List.drop_succ_cons, List.drop_zero, List.take_succ_cons, List.take_zero]
      go_wp2_with fail
      · have hci : c = i + 1 := by assumption
        have A0 : Hs.At w2 ⟨some ⟨bb, oo, none⟩, i, i + 1, z⟩ := ⟨by simp, by show i + 1 ≤ maxLen; unfold maxLen; omega, fun j hj => HZ.hds j (by have : j < i := hj; show j < n; omega), fun h => by cases h⟩
        have A1 : Hs.At w2 ⟨some ⟨bb, oo, none⟩, n - (i + 1), 0, fun j => z (i + 1 + j)⟩ := ⟨by simp; omega, Nat.zero_le _, fun j hj => by have : j < n - (i + 1) := hj; omega, fun h => by cases h⟩
        have hat : Hid (Hs.At w2 ⟨some ⟨bb, oo, none⟩, i, i + 1, z⟩ ∧ Hs.At w2 ⟨some ⟨bb, oo, none⟩, n - (i + 1), 0, fun j => z (i + 1 + j)⟩) := ⟨A0, A1⟩
        clear A0 A1
        have hD : Below w2.heap.size w2 (w2.alloc (.cells #[.slice (some ⟨bb, oo, none⟩) i (i + 1), .slice (some ⟨bb, oo, none⟩) (n - (i + 1)) (0)] 22)).drew := ((Below.refl _ _).alloc (Nat.le_refl _) _).drew
        refine ⟨regrown_of_below hD, ?_⟩
        refine wpOrdS_one 8 (by decide) ?_
        simp only [List.drop_succ_cons, List.drop_zero, List.take_succ_cons, List.take_zero]
        go_wp2_with fail
        refine (Concat_any 2 w2.heap.size 2 (fun k => if k = 0 then ⟨some ⟨bb, oo, none⟩, i, i + 1, z⟩ else ⟨some ⟨bb, oo, none⟩, n - (i + 1), 0, fun j => z (i + 1 + j)⟩) _ (by omega) (Nat.le_refl _) (by unfold maxLen; omega) ?_ ?_ ?_).mono ?_
        · refine Blk.below (Blk.congr (Blk.mk' rfl rfl) (fun j hj => ?_)) ((Below.refl _ _).drew)
          have hj2 : j = 0 ∨ j = 1 := by have : j < 2 := hj; omega
          rcases hj2 with rfl | rfl <;> rfl
        · intro k hk
          have hk2 : k = 0 ∨ k = 1 := by omega
          rcases hk2 with rfl | rfl
          · exact hat.out.1.below hD
          · exact hat.out.2.below hD
        · intro k hk
          have hk2 : k = 0 ∨ k = 1 := by omega
          rcases hk2 with rfl | rfl
          · simp; omega
          · simp; omega
        rintro e w3 ⟨v, rfl, hown, hB3⟩
        have hown' : w3.ownsRow (w2.alloc (.cells #[.slice (some ⟨bb, oo, none⟩) i (i + 1), .slice (some ⟨bb, oo, none⟩) (n - (i + 1)) (0)] 22)).drew.heap.size 24 4 v (n - 1) (flatH (n - 1) (dropZ z i)) := by
          have e1 : sumN (fun k => if k = 0 then (⟨some ⟨bb, oo, none⟩, i, i + 1, z⟩ : Hs) else ⟨some ⟨bb, oo, none⟩, n - (i + 1), 0, fun j => z (i + 1 + j)⟩) 2 = n - 1 := by simp [sumN]; omega
          have e2 : catC (fun k => if k = 0 then (⟨some ⟨bb, oo, none⟩, i, i + 1, z⟩ : Hs) else ⟨some ⟨bb, oo, none⟩, n - (i + 1), 0, fun j => z (i + 1 + j)⟩) 2 = flatH (n - 1) (dropZ z i) := by rw [flatH_drop n z i hin]; simp [catC]
          rw [e1, e2] at hown
          exact hown
        obtain ⟨s', rfl, sat, sn, sz⟩ := OwnH.ofRow hown' (Nat.le_trans hBz.size hD.size)
        have hD3 := hD.trans (hB3.mono hD.size)
        have HR : Hid (OwnH w.heap.size 24 w3 s' ∧ s'.n = n - 1 ∧ s'.z = dropZ z i) := ⟨sat, sn, sz⟩
        clear hown hown' sat sn sz
        simp only [Hs.val]
        go_wp2_with fail
        refine ⟨regrown_of_below hD3, ?_⟩
        refine wpOrdS_first 14 rfl rfl ?_
        go_big_quiet_step (fail)
        refine wpQuiet_nil ?_
        refine wpOrdS_first 15 rfl rfl ?_
        go_big_quiet_step (fail)
        refine wpQuiet_nil ?_
        refine wpOrdS_one 16 (by decide) ?_
        simp only [List.drop_succ_cons, List.drop_zero, List.take_succ_cons, List.take_zero]
        go_wp2_with fail
        refine ⟨regrown_of_below hD3, ?_⟩
        refine NoPanic.normal ?_
        go_wp2_with fail
        go_ret3
        refine ⟨s', by rw [hE.out.1, hE.out.2.1]; rfl, HR.out.1, ⟨by rw [hE.out.2.1]; exact HR.out.2.1, fun j hj => by rw [hE.out.2.2, HR.out.2.2]⟩, hBz.trans (hD3.mono hBz.size)⟩
      · have hci : ¬ c = i + 1 := by assumption
        have A0 : Hs.At w2 ⟨some ⟨bb, oo, none⟩, i, c, z⟩ := ⟨by show i ≤ c; omega, hc0, fun j hj => HZ.hds j (by have : j < i := hj; show j < n; omega), fun h => by cases h⟩
        have A1 : Hs.At w2 ⟨some ⟨bb, oo + (i + 1) * 4, none⟩, n - (i + 1), c - (i + 1), fun j => z (i + 1 + j)⟩ := ⟨by show n - (i + 1) ≤ c - (i + 1); omega, by show c - (i + 1) ≤ maxLen; omega, by
          have := HZ.hds.cut (c := c) (i + 1) (by show i + 1 ≤ n; omega) hn
          rw [if_neg hci, Go.WideShapes.add_plain] at this
          exact this, fun h => by cases h⟩
        have hat : Hid (Hs.At w2 ⟨some ⟨bb, oo, none⟩, i, c, z⟩ ∧ Hs.At w2 ⟨some ⟨bb, oo + (i + 1) * 4, none⟩, n - (i + 1), c - (i + 1), fun j => z (i + 1 + j)⟩) := ⟨A0, A1⟩
        clear A0 A1
        have hD : Below w2.heap.size w2 (w2.alloc (.cells #[.slice (some ⟨bb, oo, none⟩) i (c), .slice (some ⟨bb, oo + (i + 1) * 4, none⟩) (n - (i + 1)) (c - (i + 1))] 22)).drew := ((Below.refl _ _).alloc (Nat.le_refl _) _).drew
        refine ⟨regrown_of_below hD, ?_⟩
        refine wpOrdS_one 8 (by decide) ?_
        simp only [List.drop_succ_cons, List.drop_zero, List.take_succ_cons, List.take_zero]
        go_wp2_with fail
        refine (Concat_any 2 w2.heap.size 2 (fun k => if k = 0 then ⟨some ⟨bb, oo, none⟩, i, c, z⟩ else ⟨some ⟨bb, oo + (i + 1) * 4, none⟩, n - (i + 1), c - (i + 1), fun j => z (i + 1 + j)⟩) _ (by omega) (Nat.le_refl _) (by unfold maxLen; omega) ?_ ?_ ?_).mono ?_
        · refine Blk.below (Blk.congr (Blk.mk' rfl rfl) (fun j hj => ?_)) ((Below.refl _ _).drew)
          have hj2 : j = 0 ∨ j = 1 := by have : j < 2 := hj; omega
          rcases hj2 with rfl | rfl <;> rfl
        · intro k hk
          have hk2 : k = 0 ∨ k = 1 := by omega
          rcases hk2 with rfl | rfl
          · exact hat.out.1.below hD
          · exact hat.out.2.below hD
        · intro k hk
          have hk2 : k = 0 ∨ k = 1 := by omega
          rcases hk2 with rfl | rfl
          · simp; omega
          · simp; omega
        rintro e w3 ⟨v, rfl, hown, hB3⟩
        have hown' : w3.ownsRow (w2.alloc (.cells #[.slice (some ⟨bb, oo, none⟩) i (c), .slice (some ⟨bb, oo + (i + 1) * 4, none⟩) (n - (i + 1)) (c - (i + 1))] 22)).drew.heap.size 24 4 v (n - 1) (flatH (n - 1) (dropZ z i)) := by
          have e1 : sumN (fun k => if k = 0 then (⟨some ⟨bb, oo, none⟩, i, c, z⟩ : Hs) else ⟨some ⟨bb, oo + (i + 1) * 4, none⟩, n - (i + 1), c - (i + 1), fun j => z (i + 1 + j)⟩) 2 = n - 1 := by simp [sumN]; omega
          have e2 : catC (fun k => if k = 0 then (⟨some ⟨bb, oo, none⟩, i, c, z⟩ : Hs) else ⟨some ⟨bb, oo + (i + 1) * 4, none⟩, n - (i + 1), c - (i + 1), fun j => z (i + 1 + j)⟩) 2 = flatH (n - 1) (dropZ z i) := by rw [flatH_drop n z i hin]; simp [catC]
          rw [e1, e2] at hown
          exact hown
        obtain ⟨s', rfl, sat, sn, sz⟩ := OwnH.ofRow hown' (Nat.le_trans hBz.size hD.size)
        have hD3 := hD.trans (hB3.mono hD.size)
        have HR : Hid (OwnH w.heap.size 24 w3 s' ∧ s'.n = n - 1 ∧ s'.z = dropZ z i) := ⟨sat, sn, sz⟩
        clear hown hown' sat sn sz
        simp only [Hs.val]
        go_wp2_with fail
        refine ⟨regrown_of_below hD3, ?_⟩
        refine wpOrdS_first 14 rfl rfl ?_
        go_big_quiet_step (fail)
        refine wpQuiet_nil ?_
        refine wpOrdS_first 15 rfl rfl ?_
        go_big_quiet_step (fail)
        refine wpQuiet_nil ?_
        refine wpOrdS_one 16 (by decide) ?_
        simp only [List.drop_succ_cons, List.drop_zero, List.take_succ_cons, List.take_zero]
        go_wp2_with fail
        refine ⟨regrown_of_below hD3, ?_⟩
        refine NoPanic.normal ?_
        go_wp2_with fail
        go_ret3
        refine ⟨s', by rw [hE.out.1, hE.out.2.1]; rfl, HR.out.1, ⟨by rw [hE.out.2.1]; exact HR.out.2.1, fun j hj => by rw [hE.out.2.2, HR.out.2.2]⟩, hBz.trans (hD3.mono hBz.size)⟩
  · have hE : Hid (dropN n z o l b = 0 ∧ dropE n z o l b = checkH n z) := by show _ ∧ _; simp [dropN, dropE, h0]
    go_wp2_with fail
    go_ret3
    exact ⟨⟨none, 0, 0, z⟩, by rw [hE.out.1, hE.out.2]; rfl, NA.out _, ⟨by rw [hE.out.2, if_neg h0], fun j hj => absurd hj (Nat.not_lt_zero _)⟩, hB1⟩
theorem Drop_any (s : Hs) (o l b : Int) (w : World) (hs : s.At w) :
    Calls Try.prog 14 #[s.val, .int .i64 o, .int .i64 l, .int .i64 b] w fun e w' => ∃ s' : Hs, e = .returned (.tuple #[s'.val, .int .i64 (dropN s.n s.z o l b), .int .i64 (dropE s.n s.z o l b)]) ∧ s'.At w' ∧ DropOK s.n s.z o l b s' ∧ Below w.heap.size w w' :=
  (DropOwn_any s o l b w hs).mono fun e w' h => by obtain ⟨s', h1, h2, h3⟩ := h; exact ⟨s', h1, h2.at, h3⟩
end Go.Proofs.Ytbcacebifpagpab
namespace Go.Proofs.Ytbcacebifpagpab
open Go.RowKit
set_option linter.unusedVariables false
def addPos (n : Nat) (z : Nat → Hd) (h : Hd) : Nat := ((List.range n).find? (fun i => decide (0 ≤ cmpH (z i) h))).getD n
def addE (n : Nat) (z : Nat → Hd) (h : Hd) : Int := if checkH n z = 0 then (if fineH h then (if 200 < keptV n z h.o h.l h.b + h.n then 3 else 0) else 1) else checkH n z
def insZ (z : Nat → Hd) (i : Nat) (h : Hd) (j : Nat) : Hd := if j < i then z j else if j = i then h else z (j - 1)
def setZ (z : Nat → Hd) (i : Nat) (h : Hd) (j : Nat) : Hd := if j = i then h else z j
def addZ (n : Nat) (z : Nat → Hd) (h : Hd) : Nat → Hd := if keptV n z h.o h.l h.b = 0 then insZ z (addPos n z h) h else setZ z (addPos n z h) ⟨h.o, h.l, h.b, keptV n z h.o h.l h.b + h.n⟩
def addLen (n : Nat) (z : Nat → Hd) (h : Hd) : Nat := if keptV n z h.o h.l h.b = 0 then n + 1 else n
def AddOK (n : Nat) (z : Nat → Hd) (h : Hd) (s' : Hs) : Prop :=
  s'.n = (if addE n z h = 0 then addLen n z h else 0) ∧ ∀ j, j < s'.n → s'.z j = addZ n z h j
theorem addPos_eq {n : Nat} {z : Nat → Hd} {h : Hd} {i : Nat} (hp : PosH n z h i) : addPos n z h = i := by
  unfold addPos
  by_cases hi : i < n
  · have e : List.range n = List.range i ++ (i :: (List.range (n - i - 1)).map (fun q => i + 1 + q)) := by
      have := @List.range_add i (n - i)
      rw [show i + (n - i) = n by omega] at this
      rw [this, show n - i = (n - i - 1) + 1 by omega, List.range_succ_eq_map]
      simp [Function.comp_def]
      intro q hq
      omega
    rw [e, List.find?_append]
    have h0 : (List.range i).find? (fun q => decide (0 ≤ cmpH (z q) h)) = none := by
      rw [List.find?_eq_none]
      intro x hx
      have := hp.lo x (List.mem_range.1 hx)
      simp; omega
    rw [h0, List.find?_cons]
    have := hp.hi i (Nat.le_refl _) hi
    simp [this]
  · have hin : i = n := by have := hp.le; omega
    subst hin
    have h0 : (List.range i).find? (fun q => decide (0 ≤ cmpH (z q) h)) = none := by
      rw [List.find?_eq_none]
      intro x hx
      have := hp.lo x (List.mem_range.1 hx)
      simp; omega
    rw [h0]
    rfl
theorem flatH_ins (n : Nat) (z : Nat → Hd) (i : Nat) (h : Hd) (hi : i ≤ n) : flatH (n + 1) (insZ z i h) = flatH i z ++ flatH 1 (fun _ => h) ++ flatH (n - i) (fun j => z (i + j)) := by
  rw [show n + 1 = (i + 1) + (n - i) by omega, flatH_append, flatH_append (insZ z i h) i 1]
  congr 1
  · congr 1
    · exact flatH_congr fun j hj => by unfold insZ; rw [if_pos hj]
    · exact flatH_congr fun j hj => by
        have : j = 0 := by omega
        subst this
        simp [insZ]
  · exact flatH_congr fun j hj => by
      show insZ z i h (i + 1 + j) = _
      unfold insZ
      rw [if_neg (by omega), if_neg (by omega), show i + 1 + j - 1 = i + j by omega]
theorem flatH_set (n : Nat) (z : Nat → Hd) (i : Nat) (h : Hd) (hi : i < n) : flatH n (setZ z i h) = flatH i z ++ flatH 1 (fun _ => h) ++ flatH (n - (i + 1)) (fun j => z (i + 1 + j)) := by
  rw [show flatH n (setZ z i h) = flatH ((i + 1) + (n - (i + 1))) (setZ z i h) by rw [show (i + 1) + (n - (i + 1)) = n by omega], flatH_append, flatH_append (setZ z i h) i 1]
  congr 1
  · congr 1
    · exact flatH_congr fun j hj => by unfold setZ; rw [if_neg (by omega)]
    · exact flatH_congr fun j hj => by
        have : j = 0 := by omega
        subst this
        simp [setZ]
  · exact flatH_congr fun j hj => by
      show setZ z i h (i + 1 + j) = _
      unfold setZ
      rw [if_neg (by omega)]
theorem Hs.one {w : World} {g : Nat} {h : Hd} {e : TypeId} (hb : Blk w g e 4 (fun j => (#[.int .i64 h.o, .int .i64 h.l, .int .i64 h.b, .int .i64 h.n] : Array Value).getD j default)) : Hs.At w ⟨some ⟨g, 0, none⟩, 1, 1, fun _ => h⟩ := by
  refine ⟨Nat.le_refl _, by show 1 ≤ maxLen; unfold maxLen; omega, fun i hi => ?_, fun h => by cases h⟩
  have hi0 : i = 0 := by have : i < 1 := hi; omega
  subst hi0
  exact ⟨g, 0, rfl, hb.lt, hb.cell (j := 0) (by decide), hb.cell (j := 1) (by decide), hb.cell (j := 2) (by decide), hb.cell (j := 3) (by decide)⟩
end Go.Proofs.Ytbcacebifpagpab
namespace Go.Proofs.Ytbcacebifpagpab
open Go.RowKit Go.Shelf Go.Sort
set_option linter.unusedVariables false
theorem Concat3 (s0 s2 : Hs) (h : Hd) (w : World) (m : Nat) (f : Nat → Hd) (a0 : s0.At w) (a2 : s2.At w) (n0 : s0.n ≤ 100) (n2 : s2.n ≤ 100) (e1 : s0.n + 1 + s2.n = m) (e2 : flatH s0.n s0.z ++ (hdCells h ++ flatH s2.n s2.z) = flatH m f) :
    Calls Try.prog 32 #[.slice (some ⟨w.heap.size + 1, 0, none⟩) 3 3] ((w.alloc (.cells #[.int .i64 h.o, .int .i64 h.l, .int .i64 h.b, .int .i64 h.n] 24)).alloc (.cells #[.slice s0.a s0.n s0.c, .slice (some ⟨w.heap.size, 0, none⟩) 1 1, .slice s2.a s2.n s2.c] 22)).drew fun e w' =>
      ∃ s' : Hs, e = .returned s'.val ∧ OwnH w.heap.size 24 w' s' ∧ s'.n = m ∧ s'.z = f ∧ Below w.heap.size w w' := by
  have hD : Below w.heap.size w ((w.alloc (.cells #[.int .i64 h.o, .int .i64 h.l, .int .i64 h.b, .int .i64 h.n] 24)).alloc (.cells #[.slice s0.a s0.n s0.c, .slice (some ⟨w.heap.size, 0, none⟩) 1 1, .slice s2.a s2.n s2.c] 22)).drew := (((Below.refl _ _).alloc (Nat.le_refl _) _).alloc (by simp) _).drew
  refine (Concat_any 3 (w.heap.size + 1) 3 (fun k => if k = 0 then s0 else if k = 1 then ⟨some ⟨w.heap.size, 0, none⟩, 1, 1, fun _ => h⟩ else s2) _ (by omega) (Nat.le_refl _) (by unfold maxLen; omega) ?_ ?_ ?_).mono ?_
  · refine Blk.below (Blk.congr (Blk.mk' (by simp) rfl) (fun j hj => ?_)) ((Below.refl _ _).drew)
    have hj2 : j = 0 ∨ j = 1 ∨ j = 2 := by have : j < 3 := hj; omega
    rcases hj2 with rfl | rfl | rfl <;> rfl
  · intro k hk
    have hk2 : k = 0 ∨ k = 1 ∨ k = 2 := by omega
    rcases hk2 with rfl | rfl | rfl
    · exact a0.below hD
    · exact Hs.one (Blk.below (Blk.alloc (Blk.mk' rfl rfl) _) ((Below.refl _ _).drew))
    · exact a2.below hD
  · intro k hk
    have hk2 : k = 0 ∨ k = 1 ∨ k = 2 := by omega
    rcases hk2 with rfl | rfl | rfl
    · exact n0
    · show 1 ≤ 100; omega
    · exact n2
  · rintro e w9 ⟨v, rfl, hown, hB9⟩
    have c1 : sumN (fun k => if k = 0 then s0 else if k = 1 then (⟨some ⟨w.heap.size, 0, none⟩, 1, 1, fun _ => h⟩ : Hs) else s2) 3 = m := by simp [sumN]; omega
    have c2 : catC (fun k => if k = 0 then s0 else if k = 1 then (⟨some ⟨w.heap.size, 0, none⟩, 1, 1, fun _ => h⟩ : Hs) else s2) 3 = flatH m f := by rw [← e2]; simp [catC, flatH]
    rw [c1, c2] at hown
    obtain ⟨s', rfl, sat, sn, sz⟩ := OwnH.ofRow hown hD.size
    exact ⟨s', rfl, sat, sn, sz, hD.trans (hB9.mono hD.size)⟩
set_option maxRecDepth 100000 in
set_option maxHeartbeats 4000000 in
theorem AddOwn_any (s : Hs) (h : Hd) (w : World) (hs : s.At w) :
    Calls Try.prog 9 #[s.val, h.val] w fun e w' => ∃ s' : Hs, e = .returned (.tuple #[s'.val, .int .i64 (addE s.n s.z h)]) ∧ OwnH w.heap.size 24 w' s' ∧ AddOK s.n s.z h s' ∧ Below w.heap.size w w' := by
  have HS := hs
  obtain ⟨a, n, c, z⟩ := s
  obtain ⟨hn, hc, hz, hnil⟩ := hs
  dsimp only at hn hc hz hnil ⊢
  have hc0 := hc
  unfold maxLen at hc
  simp only [Hs.val, Hd.val]
  have NA : Hid (∀ w', OwnH w.heap.size 24 w' ⟨none, 0, 0, z⟩) := fun w' => OwnH.nil _ _ _ _
  have hB0 : Below w.heap.size w (w.alloc (.cells #[.int .i64 h.o, .int .i64 h.l, .int .i64 h.b, .int .i64 h.n] 24)) := (Below.refl _ _).alloc (Nat.le_refl _) _
  have hBv : Below (w.heap.size + 1) (w.alloc (.cells #[.int .i64 h.o, .int .i64 h.l, .int .i64 h.b, .int .i64 h.n] 24)) (w.alloc (.cells #[.int .i64 h.o, .int .i64 h.l, .int .i64 h.b, .int .i64 h.n] 24)) := Below.refl _ _
  have hT : Hid (∀ w1, Below (w.heap.size + 1) (w.alloc (.cells #[.int .i64 h.o, .int .i64 h.l, .int .i64 h.b, .int .i64 h.n] 24)) w1 → (w1.cell? ⟨w.heap.size, 0, none⟩ = some (.int .i64 h.o) ∧ w1.cell? ⟨w.heap.size, 1, none⟩ = some (.int .i64 h.l) ∧ w1.cell? ⟨w.heap.size, 2, none⟩ = some (.int .i64 h.b) ∧ w1.cell? ⟨w.heap.size, 3, none⟩ = some (.int .i64 h.n)) ∧ w1.frozen? ⟨w.heap.size, 3, none⟩ = false ∧ w.heap.size < w1.heap.size) := fun w1 hb =>
    ⟨⟨(hb.cell (p := ⟨w.heap.size, 0, none⟩) (by simp)).trans (by simp), (hb.cell (p := ⟨w.heap.size, 1, none⟩) (by simp)).trans (by simp), (hb.cell (p := ⟨w.heap.size, 2, none⟩) (by simp)).trans (by simp), (hb.cell (p := ⟨w.heap.size, 3, none⟩) (by simp)).trans (by simp)⟩, (hb.frozen (p := ⟨w.heap.size, 3, none⟩) (by simp)).trans (by simp), by have := hb.size; simp at this; omega⟩
  go_enter Try.func9, Try.ntmps9
  go_wp2_with fail
  refine (holdsCheck_any ⟨a, n, c, z⟩ _ (HS.below hB0)).mono ?_
  rintro e w1 ⟨rfl, hB⟩
  dsimp only
  have hBw := hB0.trans (hB.mono (by simp))
  have hBv := hBv.trans (hB.mono (by simp))
  obtain ⟨⟨t0, t1, t2, t3⟩, tf, hsz⟩ := hT.out w1 hBv
  clear hB hz
  by_cases h0 : checkH n z = 0
  · have hr := checkH_zero h0
    have hlen := right_len hr
    go_wp2_with fail
    refine (rightAlone_any h w1).mono ?_
    rintro e w2 ⟨rfl, hB⟩
    have hBw := hBw.trans (hB.mono hBw.size)
    have hBv := hBv.trans (hB.mono (by omega))
    clear t0 t1 t2 t3 tf hsz hB
    obtain ⟨⟨t0, t1, t2, t3⟩, tf, hsz⟩ := hT.out w2 hBv
    cases hfine : fineH h
    · have hE : Hid (addE n z h = 1) := by show addE n z h = 1; simp [addE, h0, hfine]
      go_wp2_with fail
      go_ret2
      exact ⟨⟨none, 0, 0, z⟩, by rw [hE.out]; rfl, NA.out _, ⟨by rw [hE.out]; rfl, fun j hj => absurd hj (Nat.not_lt_zero _)⟩, hBw⟩
    · have hfh := (fineH_true hfine).2.2.2
      go_wp2_with fail
      refine (Search_any ⟨a, n, c, z⟩ h w2 (HS.below hBw) hr).mono ?_
      rintro e w3 ⟨i, rfl, hp, hB⟩
      dsimp only at hp ⊢
      have hBw := hBw.trans (hB.mono hBw.size)
      have hBv := hBv.trans (hB.mono (by omega))
      clear t0 t1 t2 t3 tf hsz hB
      obtain ⟨⟨t0, t1, t2, t3⟩, tf, hsz⟩ := hT.out w3 hBv
      obtain ⟨fy, fn⟩ := found (o := h.o) (l := h.l) (b := h.b) hr ⟨rfl, rfl, rfl⟩ hp
      have hpos : Hid (addPos n z h = i) := addPos_eq hp
      have hpl := hp.le
      have HZ := HS.below hBw
      clear hp
      have m1 : (0 : Int) ≤ (i : Int) := by omega
      have m2 : (i : Int) ≤ (n : Int) := by omega
      have m4 : (n : Int) ≤ (c : Int) := by omega
      cases hf : (decide (i < n) && decide (cmpH (z i) h = 0))
      · obtain ⟨k0, _⟩ := fn hf
        have hE : Hid (addE n z h = 0 ∧ addLen n z h = n + 1 ∧ addZ n z h = insZ z i h) := by
          show _ ∧ _ ∧ _
          refine ⟨?_, by simp [addLen, k0], by simp [addZ, k0, hpos.out]⟩
          unfold addE
          rw [if_pos h0, if_pos hfine, k0, if_neg (by omega)]
        have e0 : ∀ d os, (grow (redrawn w3 d) os).cell? ⟨w.heap.size, 0, none⟩ = some (.int .i64 h.o) := fun d os => cell_regrown t0 d os
        have e1 : ∀ d os, (grow (redrawn w3 d) os).cell? ⟨w.heap.size, 1, none⟩ = some (.int .i64 h.l) := fun d os => cell_regrown t1 d os
        have e2 : ∀ d os, (grow (redrawn w3 d) os).cell? ⟨w.heap.size, 2, none⟩ = some (.int .i64 h.b) := fun d os => cell_regrown t2 d os
        have e3 : ∀ d os, (grow (redrawn w3 d) os).cell? ⟨w.heap.size, 3, none⟩ = some (.int .i64 h.n) := fun d os => cell_regrown t3 d os
        clear fy fn k0 t0 t1 t2 t3 tf
        cases a with
        | none =>
          have hcz : c = 0 := hnil rfl
          have hnz : n = 0 := by omega
          have hiz : i = 0 := by omega
          subst hcz hnz hiz
          go_wp2_with fail
          refine wp_region_ordS (fun w' => ∃ p : Regrown, w' = grow (redrawn w3 p.d) p.os)
            ([0, 1, 2, 3, 5, 6, 7].map (fun k => (true, k)) ++ [(false, 4), (false, 8), (false, 9), (true, 10), (false, 11)]) (by kernel_rfl) (by kernel_rfl) (by kernel_rfl) (by kernel_rfl) (regrown_of_below ((Below.refl _ _).drew)) ?_
          refine wpOrdS_first 0 rfl rfl ?_
          go_big_quiet_step (fail)
          refine wpQuiet_nil ?_
          refine wpOrdS_first 1 rfl rfl ?_
          go_big_quiet_step (fail)
          refine wpQuiet_nil ?_
          refine wpOrdS_first 2 rfl rfl ?_
          go_big_quiet_step (fail)
          refine wpQuiet_nil ?_
          refine wpOrdS_first 3 rfl rfl ?_
          go_big_quiet_step (fail)
          refine wpQuiet_nil ?_
          refine wpOrdS_first 5 rfl rfl ?_
          go_big_quiet_step (fail)
          refine wpQuiet_nil ?_
          refine wpOrdS_first 6 rfl rfl ?_
          go_big_quiet_step (fail)
          refine wpQuiet_nil ?_
          refine wpOrdS_first 7 rfl rfl ?_
          go_big_quiet_step (fail)
          refine wpQuiet_nil ?_
          refine wpOrdS_one 4 (by decide) ?_
          simp only [List.drop_succ_cons, List.drop_zero, List.take_succ_cons, List.take_zero]
          go_wp2_with fail
          have A0 : Hid (Hs.At w3 ⟨none, 0, 0, z⟩) := (NA.out w3).at
          have A1 : Hid (Hs.At w3 ⟨none, 0 - 0, 0, fun j => z (0 + j)⟩) := ⟨Nat.le_refl _, Nat.zero_le _, fun i hi => absurd hi (Nat.not_lt_zero _), fun _ => rfl⟩
          have hD1 : Below w3.heap.size w3 (w3.alloc (.cells #[.int .i64 h.o, .int .i64 h.l, .int .i64 h.b, .int .i64 h.n] 24)).drew := ((Below.refl _ _).alloc (Nat.le_refl _) _).drew
          have hD : Below w3.heap.size w3 ((w3.alloc (.cells #[.int .i64 h.o, .int .i64 h.l, .int .i64 h.b, .int .i64 h.n] 24)).alloc (.cells #[.slice (none) (0) (0), .slice (some ⟨w3.heap.size, 0, none⟩) 1 1, .slice (none) (0) (0)] 22)).drew := (((Below.refl _ _).alloc (Nat.le_refl _) _).alloc (by simp) _).drew
          refine ⟨regrown_of_below hD1, ?_⟩
          refine wpOrdS_one 8 (by decide) ?_
          simp only [List.drop_succ_cons, List.drop_zero, List.take_succ_cons, List.take_zero]
          go_wp2_with fail
          refine ⟨regrown_of_below hD, ?_⟩
          refine wpOrdS_one 9 (by decide) ?_
          simp only [List.drop_succ_cons, List.drop_zero, List.take_succ_cons, List.take_zero]
          go_wp2_with fail
          refine (Concat3 ⟨none, 0, 0, z⟩ ⟨none, 0 - 0, 0, fun j => z (0 + j)⟩ h w3 (0 + 1) (insZ z 0 h) A0.out A1.out (by dsimp only; omega) (by dsimp only; omega) (by first | rfl | (dsimp only; omega)) (by rw [flatH_ins _ _ _ _ (by omega)]; simp [flatH])).mono ?_
          rintro e w9 ⟨s', rfl, sat, sn, sz, hD3⟩
          have HR : Hid (OwnH w.heap.size 24 w9 s' ∧ s'.n = 0 + 1 ∧ s'.z = insZ z 0 h) := ⟨sat.mono hBw.size, sn, sz⟩
          clear sat sn sz
          simp only [Hs.val]
          go_wp2_with fail
          refine ⟨regrown_of_below hD3, ?_⟩
          refine wpOrdS_first 10 rfl rfl ?_
          go_big_quiet_step (fail)
          refine wpQuiet_nil ?_
          refine wpOrdS_one 11 (by decide) ?_
          simp only [List.drop_succ_cons, List.drop_zero, List.take_succ_cons, List.take_zero]
          go_wp2_with fail
          refine ⟨regrown_of_below hD3, ?_⟩
          refine NoPanic.normal ?_
          go_wp2_with fail
          go_ret2
          exact ⟨s', by rw [hE.out.1]; rfl, HR.out.1, ⟨by rw [hE.out.1, hE.out.2.1]; exact HR.out.2.1, fun j hj => by rw [hE.out.2.2, HR.out.2.2]⟩, hBw.trans (hD3.mono hBw.size)⟩
        | some ad =>
          by_cases hci : c = i
          · have hni : n = i := by omega
            subst hni
            subst hci
            go_wp2_with fail
            refine wp_region_ordS (fun w' => ∃ p : Regrown, w' = grow (redrawn w3 p.d) p.os)
              ([0, 1, 2, 3, 5, 6, 7].map (fun k => (true, k)) ++ [(false, 4), (false, 8), (false, 9), (true, 10), (false, 11)]) (by kernel_rfl) (by kernel_rfl) (by kernel_rfl) (by kernel_rfl) (regrown_of_below ((Below.refl _ _).drew)) ?_
            refine wpOrdS_first 0 rfl rfl ?_
            go_big_quiet_step (fail)
            refine wpQuiet_nil ?_
            refine wpOrdS_first 1 rfl rfl ?_
            go_big_quiet_step (fail)
            refine wpQuiet_nil ?_
            refine wpOrdS_first 2 rfl rfl ?_
            go_big_quiet_step (fail)
            refine wpQuiet_nil ?_
            refine wpOrdS_first 3 rfl rfl ?_
            go_big_quiet_step (fail)
            refine wpQuiet_nil ?_
            refine wpOrdS_first 5 rfl rfl ?_
            go_big_quiet_step (fail)
            refine wpQuiet_nil ?_
            refine wpOrdS_first 6 rfl rfl ?_
            go_big_quiet_step (fail)
            refine wpQuiet_nil ?_
            refine wpOrdS_first 7 rfl rfl ?_
            go_big_quiet_step (fail)
            refine wpQuiet_nil ?_
            refine wpOrdS_one 4 (by decide) ?_
            simp only [List.drop_succ_cons, List.drop_zero, List.take_succ_cons, List.take_zero]
            go_wp2_with fail
            have A0 : Hid (Hs.At w3 ⟨some ad, c, c, z⟩) := HZ
            have A1 : Hid (Hs.At w3 ⟨some ad, c - c, 0, fun j => z (c + j)⟩) := ⟨by simp, Nat.zero_le _, fun i hi => by have : i < c - c := hi; omega, fun h => by cases h⟩
            have hD1 : Below w3.heap.size w3 (w3.alloc (.cells #[.int .i64 h.o, .int .i64 h.l, .int .i64 h.b, .int .i64 h.n] 24)).drew := ((Below.refl _ _).alloc (Nat.le_refl _) _).drew
            have hD : Below w3.heap.size w3 ((w3.alloc (.cells #[.int .i64 h.o, .int .i64 h.l, .int .i64 h.b, .int .i64 h.n] 24)).alloc (.cells #[.slice (some ad) (c) (c), .slice (some ⟨w3.heap.size, 0, none⟩) 1 1, .slice (some ad) (0) (0)] 22)).drew := (((Below.refl _ _).alloc (Nat.le_refl _) _).alloc (by simp) _).drew
            refine ⟨regrown_of_below hD1, ?_⟩
            refine wpOrdS_one 8 (by decide) ?_
            simp only [List.drop_succ_cons, List.drop_zero, List.take_succ_cons, List.take_zero]
            go_wp2_with fail
            refine ⟨regrown_of_below hD, ?_⟩
            refine wpOrdS_one 9 (by decide) ?_
            simp only [List.drop_succ_cons, List.drop_zero, List.take_succ_cons, List.take_zero]
            go_wp2_with fail
            refine (Concat3 ⟨some ad, c, c, z⟩ ⟨some ad, 0, 0, fun j => z (c + j)⟩ h w3 (c + 1) (insZ z c h) A0.out (by have := A1.out; rwa [Nat.sub_self] at this) (by dsimp only; omega) (by dsimp only; omega) (by first | rfl | (dsimp only; omega)) (by rw [flatH_ins _ _ _ _ (by omega)]; simp [flatH])).mono ?_
            rintro e w9 ⟨s', rfl, sat, sn, sz, hD3⟩
            have HR : Hid (OwnH w.heap.size 24 w9 s' ∧ s'.n = c + 1 ∧ s'.z = insZ z c h) := ⟨sat.mono hBw.size, sn, sz⟩
            clear sat sn sz
            simp only [Hs.val]
            go_wp2_with fail
            refine ⟨regrown_of_below hD3, ?_⟩
            refine wpOrdS_first 10 rfl rfl ?_
            go_big_quiet_step (fail)
            refine wpQuiet_nil ?_
            refine wpOrdS_one 11 (by decide) ?_
            simp only [List.drop_succ_cons, List.drop_zero, List.take_succ_cons, List.take_zero]
            go_wp2_with fail
            refine ⟨regrown_of_below hD3, ?_⟩
            refine NoPanic.normal ?_
            go_wp2_with fail
            go_ret2
            exact ⟨s', by rw [hE.out.1]; rfl, HR.out.1, ⟨by rw [hE.out.1, hE.out.2.1]; exact HR.out.2.1, fun j hj => by rw [hE.out.2.2, HR.out.2.2]⟩, hBw.trans (hD3.mono hBw.size)⟩
          · go_wp2_with fail
            refine wp_region_ordS (fun w' => ∃ p : Regrown, w' = grow (redrawn w3 p.d) p.os)
              ([0, 1, 2, 3, 5, 6, 7].map (fun k => (true, k)) ++ [(false, 4), (false, 8), (false, 9), (true, 10), (false, 11)]) (by kernel_rfl) (by kernel_rfl) (by kernel_rfl) (by kernel_rfl) (regrown_of_below ((Below.refl _ _).drew)) ?_
            refine wpOrdS_first 0 rfl rfl ?_
            go_big_quiet_step (fail)
            refine wpQuiet_nil ?_
            refine wpOrdS_first 1 rfl rfl ?_
            go_big_quiet_step (fail)
            refine wpQuiet_nil ?_
            refine wpOrdS_first 2 rfl rfl ?_
            go_big_quiet_step (fail)
            refine wpQuiet_nil ?_
            refine wpOrdS_first 3 rfl rfl ?_
            go_big_quiet_step (fail)
            refine wpQuiet_nil ?_
            refine wpOrdS_first 5 rfl rfl ?_
            go_big_quiet_step (fail)
            refine wpQuiet_nil ?_
            refine wpOrdS_first 6 rfl rfl ?_
            go_big_quiet_step (fail)
            refine wpQuiet_nil ?_
            refine wpOrdS_first 7 rfl rfl ?_
            go_big_quiet_step (fail)
            refine wpQuiet_nil ?_
            refine wpOrdS_one 4 (by decide) ?_
            simp only [List.drop_succ_cons, List.drop_zero, List.take_succ_cons, List.take_zero]
            go_wp2_with fail
            have A0 : Hid (Hs.At w3 ⟨some ad, i, c, z⟩) := ⟨by show i ≤ c; omega, hc0, fun j hj => HZ.hds j (by have : j < i := hj; show j < n; omega), fun h => by cases h⟩
            have A1 : Hid (Hs.At w3 ⟨some (ad.add (i * 4)), n - i, c - i, fun j => z (i + j)⟩) := ⟨by show n - i ≤ c - i; omega, by show c - i ≤ maxLen; omega, by
              have := HZ.hds.cut (c := c) i hpl hn
              rw [if_neg hci] at this
              exact this, fun h => by cases h⟩
            have hD1 : Below w3.heap.size w3 (w3.alloc (.cells #[.int .i64 h.o, .int .i64 h.l, .int .i64 h.b, .int .i64 h.n] 24)).drew := ((Below.refl _ _).alloc (Nat.le_refl _) _).drew
            have hD : Below w3.heap.size w3 ((w3.alloc (.cells #[.int .i64 h.o, .int .i64 h.l, .int .i64 h.b, .int .i64 h.n] 24)).alloc (.cells #[.slice (some ad) (i) (c), .slice (some ⟨w3.heap.size, 0, none⟩) 1 1, .slice (some (ad.add (i * 4))) (n - i) (c - i)] 22)).drew := (((Below.refl _ _).alloc (Nat.le_refl _) _).alloc (by simp) _).drew
            refine ⟨regrown_of_below hD1, ?_⟩
            refine wpOrdS_one 8 (by decide) ?_
            simp only [List.drop_succ_cons, List.drop_zero, List.take_succ_cons, List.take_zero]
            go_wp2_with fail
            refine ⟨regrown_of_below hD, ?_⟩
            refine wpOrdS_one 9 (by decide) ?_
            simp only [List.drop_succ_cons, List.drop_zero, List.take_succ_cons, List.take_zero]
            go_wp2_with fail
            refine (Concat3 ⟨some ad, i, c, z⟩ ⟨some (ad.add (i * 4)), n - i, c - i, fun j => z (i + j)⟩ h w3 (n + 1) (insZ z i h) A0.out A1.out (by dsimp only; omega) (by dsimp only; omega) (by first | rfl | (dsimp only; omega)) (by rw [flatH_ins _ _ _ _ (by omega)]; simp [flatH])).mono ?_
            rintro e w9 ⟨s', rfl, sat, sn, sz, hD3⟩
            have HR : Hid (OwnH w.heap.size 24 w9 s' ∧ s'.n = n + 1 ∧ s'.z = insZ z i h) := ⟨sat.mono hBw.size, sn, sz⟩
            clear sat sn sz
            simp only [Hs.val]
            go_wp2_with fail
            refine ⟨regrown_of_below hD3, ?_⟩
            refine wpOrdS_first 10 rfl rfl ?_
            go_big_quiet_step (fail)
            refine wpQuiet_nil ?_
            refine wpOrdS_one 11 (by decide) ?_
            simp only [List.drop_succ_cons, List.drop_zero, List.take_succ_cons, List.take_zero]
            go_wp2_with fail
            refine ⟨regrown_of_below hD3, ?_⟩
            refine NoPanic.normal ?_
            go_wp2_with fail
            go_ret2
            exact ⟨s', by rw [hE.out.1]; rfl, HR.out.1, ⟨by rw [hE.out.1, hE.out.2.1]; exact HR.out.2.1, fun j hj => by rw [hE.out.2.2, HR.out.2.2]⟩, hBw.trans (hD3.mono hBw.size)⟩
      · obtain ⟨hin, k0, kI, k1, k2⟩ := fy hf
        obtain ⟨bb, oo, ha, hb, z0, z1, z2, z3⟩ := HZ.hds i hin
        dsimp only at ha z0 z1 z2 z3
        subst ha
        have m3 : (i : Int) < (n : Int) := by omega
        have KV : Hid (keptV n z h.o h.l h.b = (z i).n) := k0
        clear fy fn k0 kI z0 z1 z2
        go_wp2_with fail
        go_region
        have F : ∃ W4, (w3.setCell ⟨w.heap.size, 3, none⟩ (.int .i64 (h.n + (z i).n))).drew = W4 ∧ Below w.heap.size w W4 ∧ w.heap.size < W4.heap.size ∧ (W4.cell? ⟨w.heap.size, 0, none⟩ = some (.int .i64 h.o) ∧ W4.cell? ⟨w.heap.size, 1, none⟩ = some (.int .i64 h.l) ∧ W4.cell? ⟨w.heap.size, 2, none⟩ = some (.int .i64 h.b) ∧ W4.cell? ⟨w.heap.size, 3, none⟩ = some (.int .i64 (h.n + (z i).n))) := by
          have bx : Blk w3 w.heap.size 24 4 (fun j => (#[.int .i64 h.o, .int .i64 h.l, .int .i64 h.b, .int .i64 h.n] : Array Value).getD j default) := (Blk.mk' (w := w) rfl rfl).same (hBv.block w.heap.size (by omega))
          have by2 := Blk.below (bx.set 3 (.int .i64 (h.n + (z i).n))) ((Below.refl _ _).drew)
          refine ⟨_, rfl, (hBw.setCell (p := ⟨w.heap.size, 3, none⟩) (Nat.le_refl _) _).drew, by2.lt, by2.cell (j := 0) (by decide), by2.cell (j := 1) (by decide), by2.cell (j := 2) (by decide), by2.cell (j := 3) (by decide)⟩
        obtain ⟨W4, hW4, hB4, hsz4, u0, u1, u2, u3⟩ := F
        rw [hW4]
        clear hW4 t0 t1 t2 t3 tf z3 hsz
        have HZ4 := HS.below hB4
        have hBw := hB4
        cases hbig : decide (200 < h.n + (z i).n)
        · have hbig2 : ¬ 200 < h.n + (z i).n := by simpa using hbig
          have hE : Hid (addE n z h = 0 ∧ addLen n z h = n ∧ addZ n z h = setZ z i ⟨h.o, h.l, h.b, h.n + (z i).n⟩) := by
            show _ ∧ _ ∧ _
            have k0 := KV.out
            have hne : ¬ keptV n z h.o h.l h.b = 0 := by omega
            refine ⟨?_, by simp [addLen, hne], ?_⟩
            · unfold addE
              rw [if_pos h0, if_pos hfine, k0, if_neg (by omega)]
            · unfold addZ
              rw [if_neg hne, hpos.out, k0, Int.add_comm]
          have e0 : ∀ d os, (grow (redrawn W4 d) os).cell? ⟨w.heap.size, 0, none⟩ = some (.int .i64 h.o) := fun d os => cell_regrown u0 d os
          have e1 : ∀ d os, (grow (redrawn W4 d) os).cell? ⟨w.heap.size, 1, none⟩ = some (.int .i64 h.l) := fun d os => cell_regrown u1 d os
          have e2 : ∀ d os, (grow (redrawn W4 d) os).cell? ⟨w.heap.size, 2, none⟩ = some (.int .i64 h.b) := fun d os => cell_regrown u2 d os
          have e3 : ∀ d os, (grow (redrawn W4 d) os).cell? ⟨w.heap.size, 3, none⟩ = some (.int .i64 (h.n + (z i).n)) := fun d os => cell_regrown u3 d os
          by_cases hci : c = i + 1
          · go_wp2_with fail
            refine wp_region_ordS (fun w' => ∃ p : Regrown, w' = grow (redrawn W4 p.d) p.os)
              ([0, 1, 2, 3, 5, 6, 7, 8].map (fun k => (true, k)) ++ [(false, 4), (false, 9), (false, 10), (true, 11), (false, 12)]) (by kernel_rfl) (by kernel_rfl) (by kernel_rfl) (by kernel_rfl) (regrown_of_below ((Below.refl _ _).drew)) ?_
            refine wpOrdS_first 0 rfl rfl ?_
            go_big_quiet_step (fail)
            refine wpQuiet_nil ?_
            refine wpOrdS_first 1 rfl rfl ?_
            go_big_quiet_step (fail)
            refine wpQuiet_nil ?_
            refine wpOrdS_first 2 rfl rfl ?_
            go_big_quiet_step (fail)
            refine wpQuiet_nil ?_
            refine wpOrdS_first 3 rfl rfl ?_
            go_big_quiet_step (fail)
            refine wpQuiet_nil ?_
            refine wpOrdS_first 5 rfl rfl ?_
            go_big_quiet_step (fail)
            refine wpQuiet_nil ?_
            refine wpOrdS_first 6 rfl rfl ?_
            go_big_quiet_step (fail)
            refine wpQuiet_nil ?_
            refine wpOrdS_first 7 rfl rfl ?_
            go_big_quiet_step (fail)
            refine wpQuiet_nil ?_
            refine wpOrdS_first 8 rfl rfl ?_
            go_big_quiet_step (fail)
            refine wpQuiet_nil ?_
            refine wpOrdS_one 4 (by decide) ?_
            simp only [List.drop_succ_cons, List.drop_zero, List.take_succ_cons, List.take_zero]
            go_wp2_with fail
            have A0 : Hid (Hs.At W4 ⟨some ⟨bb, oo, none⟩, i, i + 1, z⟩) := ⟨by simp, by show i + 1 ≤ maxLen; unfold maxLen; omega, fun j hj => HZ4.hds j (by have : j < i := hj; show j < n; omega), fun h => by cases h⟩
            have A1 : Hid (Hs.At W4 ⟨some ⟨bb, oo, none⟩, n - (i + 1), 0, fun j => z (i + 1 + j)⟩) := ⟨by show n - (i + 1) ≤ 0; omega, Nat.zero_le _, fun j hj => by have : j < n - (i + 1) := hj; omega, fun h => by cases h⟩
            have hD1 : Below W4.heap.size W4 (W4.alloc (.cells #[.int .i64 h.o, .int .i64 h.l, .int .i64 h.b, .int .i64 (h.n + (z i).n)] 24)).drew := ((Below.refl _ _).alloc (Nat.le_refl _) _).drew
            have hD : Below W4.heap.size W4 ((W4.alloc (.cells #[.int .i64 h.o, .int .i64 h.l, .int .i64 h.b, .int .i64 (h.n + (z i).n)] 24)).alloc (.cells #[.slice (some ⟨bb, oo, none⟩) (i) (i + 1), .slice (some ⟨W4.heap.size, 0, none⟩) 1 1, .slice (some ⟨bb, oo, none⟩) (n - (i + 1)) (0)] 22)).drew := (((Below.refl _ _).alloc (Nat.le_refl _) _).alloc (by simp) _).drew
            refine ⟨regrown_of_below hD1, ?_⟩
            refine wpOrdS_one 9 (by decide) ?_
            simp only [List.drop_succ_cons, List.drop_zero, List.take_succ_cons, List.take_zero]
            go_wp2_with fail
            refine ⟨regrown_of_below hD, ?_⟩
            refine wpOrdS_one 10 (by decide) ?_
            simp only [List.drop_succ_cons, List.drop_zero, List.take_succ_cons, List.take_zero]
            go_wp2_with fail
            refine (Concat3 ⟨some ⟨bb, oo, none⟩, i, i + 1, z⟩ ⟨some ⟨bb, oo, none⟩, n - (i + 1), 0, fun j => z (i + 1 + j)⟩ ⟨h.o, h.l, h.b, h.n + (z i).n⟩ W4 (n) (setZ z i ⟨h.o, h.l, h.b, h.n + (z i).n⟩) A0.out A1.out (by dsimp only; omega) (by dsimp only; omega) (by first | rfl | (dsimp only; omega)) (by rw [flatH_set _ _ _ _ hin]; simp [flatH])).mono ?_
            rintro e w9 ⟨s', rfl, sat, sn, sz, hD3⟩
            have HR : Hid (OwnH w.heap.size 24 w9 s' ∧ s'.n = n ∧ s'.z = setZ z i ⟨h.o, h.l, h.b, h.n + (z i).n⟩) := ⟨sat.mono hBw.size, sn, sz⟩
            clear sat sn sz
            simp only [Hs.val]
            go_wp2_with fail
            refine ⟨regrown_of_below hD3, ?_⟩
            refine wpOrdS_first 11 rfl rfl ?_
            go_big_quiet_step (fail)
            refine wpQuiet_nil ?_
            refine wpOrdS_one 12 (by decide) ?_
            simp only [List.drop_succ_cons, List.drop_zero, List.take_succ_cons, List.take_zero]
            go_wp2_with fail
            refine ⟨regrown_of_below hD3, ?_⟩
            refine NoPanic.normal ?_
            go_wp2_with fail
            go_ret2
            exact ⟨s', by rw [hE.out.1]; rfl, HR.out.1, ⟨by rw [hE.out.1, hE.out.2.1]; exact HR.out.2.1, fun j hj => by rw [hE.out.2.2, HR.out.2.2]⟩, hBw.trans (hD3.mono hBw.size)⟩
          · go_wp2_with fail
            refine wp_region_ordS (fun w' => ∃ p : Regrown, w' = grow (redrawn W4 p.d) p.os)
              ([0, 1, 2, 3, 5, 6, 7, 8].map (fun k => (true, k)) ++ [(false, 4), (false, 9), (false, 10), (true, 11), (false, 12)]) (by kernel_rfl) (by kernel_rfl) (by kernel_rfl) (by kernel_rfl) (regrown_of_below ((Below.refl _ _).drew)) ?_
            refine wpOrdS_first 0 rfl rfl ?_
            go_big_quiet_step (fail)
            refine wpQuiet_nil ?_
            refine wpOrdS_first 1 rfl rfl ?_
            go_big_quiet_step (fail)
            refine wpQuiet_nil ?_
            refine wpOrdS_first 2 rfl rfl ?_
            go_big_quiet_step (fail)
            refine wpQuiet_nil ?_
            refine wpOrdS_first 3 rfl rfl ?_
            go_big_quiet_step (fail)
            refine wpQuiet_nil ?_
            refine wpOrdS_first 5 rfl rfl ?_
            go_big_quiet_step (fail)
            refine wpQuiet_nil ?_
            refine wpOrdS_first 6 rfl rfl ?_
            go_big_quiet_step (fail)
            refine wpQuiet_nil ?_
            refine wpOrdS_first 7 rfl rfl ?_
            go_big_quiet_step (fail)
            refine wpQuiet_nil ?_
            refine wpOrdS_first 8 rfl rfl ?_
            go_big_quiet_step (fail)
            refine wpQuiet_nil ?_
            refine wpOrdS_one 4 (by decide) ?_
            simp only [List.drop_succ_cons, List.drop_zero, List.take_succ_cons, List.take_zero]
            go_wp2_with fail
            have A0 : Hid (Hs.At W4 ⟨some ⟨bb, oo, none⟩, i, c, z⟩) := ⟨by show i ≤ c; omega, hc0, fun j hj => HZ4.hds j (by have : j < i := hj; show j < n; omega), fun h => by cases h⟩
            have A1 : Hid (Hs.At W4 ⟨some ⟨bb, oo + (i + 1) * 4, none⟩, n - (i + 1), c - (i + 1), fun j => z (i + 1 + j)⟩) := ⟨by show n - (i + 1) ≤ c - (i + 1); omega, by show c - (i + 1) ≤ maxLen; omega, by
              have := HZ4.hds.cut (c := c) (i + 1) (by show i + 1 ≤ n; omega) hn
              rw [if_neg hci, Go.WideShapes.add_plain] at this
              exact this, fun h => by cases h⟩
            have hD1 : Below W4.heap.size W4 (W4.alloc (.cells #[.int .i64 h.o, .int .i64 h.l, .int .i64 h.b, .int .i64 (h.n + (z i).n)] 24)).drew := ((Below.refl _ _).alloc (Nat.le_refl _) _).drew
            have hD : Below W4.heap.size W4 ((W4.alloc (.cells #[.int .i64 h.o, .int .i64 h.l, .int .i64 h.b, .int .i64 (h.n + (z i).n)] 24)).alloc (.cells #[.slice (some ⟨bb, oo, none⟩) (i) (c), .slice (some ⟨W4.heap.size, 0, none⟩) 1 1, .slice (some ⟨bb, oo + (i + 1) * 4, none⟩) (n - (i + 1)) (c - (i + 1))] 22)).drew := (((Below.refl _ _).alloc (Nat.le_refl _) _).alloc (by simp) _).drew
            refine ⟨regrown_of_below hD1, ?_⟩
            refine wpOrdS_one 9 (by decide) ?_
            simp only [List.drop_succ_cons, List.drop_zero, List.take_succ_cons, List.take_zero]
            go_wp2_with fail
            refine ⟨regrown_of_below hD, ?_⟩
            refine wpOrdS_one 10 (by decide) ?_
            simp only [List.drop_succ_cons, List.drop_zero, List.take_succ_cons, List.take_zero]
            go_wp2_with fail
            refine (Concat3 ⟨some ⟨bb, oo, none⟩, i, c, z⟩ ⟨some ⟨bb, oo + (i + 1) * 4, none⟩, n - (i + 1), c - (i + 1), fun j => z (i + 1 + j)⟩ ⟨h.o, h.l, h.b, h.n + (z i).n⟩ W4 (n) (setZ z i ⟨h.o, h.l, h.b, h.n + (z i).n⟩) A0.out A1.out (by dsimp only; omega) (by dsimp only; omega) (by first | rfl | (dsimp only; omega)) (by rw [flatH_set _ _ _ _ hin]; simp [flatH])).mono ?_
            rintro e w9 ⟨s', rfl, sat, sn, sz, hD3⟩
            have HR : Hid (OwnH w.heap.size 24 w9 s' ∧ s'.n = n ∧ s'.z = setZ z i ⟨h.o, h.l, h.b, h.n + (z i).n⟩) := ⟨sat.mono hBw.size, sn, sz⟩
            clear sat sn sz
            simp only [Hs.val]
            go_wp2_with fail
            refine ⟨regrown_of_below hD3, ?_⟩
            refine wpOrdS_first 11 rfl rfl ?_
            go_big_quiet_step (fail)
            refine wpQuiet_nil ?_
            refine wpOrdS_one 12 (by decide) ?_
            simp only [List.drop_succ_cons, List.drop_zero, List.take_succ_cons, List.take_zero]
            go_wp2_with fail
            refine ⟨regrown_of_below hD3, ?_⟩
            refine NoPanic.normal ?_
            go_wp2_with fail
            go_ret2
            exact ⟨s', by rw [hE.out.1]; rfl, HR.out.1, ⟨by rw [hE.out.1, hE.out.2.1]; exact HR.out.2.1, fun j hj => by rw [hE.out.2.2, HR.out.2.2]⟩, hBw.trans (hD3.mono hBw.size)⟩
        · have hbig2 : 200 < h.n + (z i).n := by simpa using hbig
          have hE : Hid (addE n z h = 3) := by
            show addE n z h = 3
            have k0 := KV.out
            unfold addE
            rw [if_pos h0, if_pos hfine, k0, if_pos (by omega)]
          go_wp2_with fail
          go_ret2
          exact ⟨⟨none, 0, 0, z⟩, by rw [hE.out]; rfl, NA.out _, ⟨by rw [hE.out]; rfl, fun j hj => absurd hj (Nat.not_lt_zero _)⟩, hBw⟩
  · have hE : Hid (addE n z h = checkH n z) := by show addE n z h = _; simp [addE, h0]
    go_wp2_with fail
    go_ret2
    exact ⟨⟨none, 0, 0, z⟩, by rw [hE.out]; rfl, NA.out _, ⟨by rw [hE.out, if_neg h0], fun j hj => absurd hj (Nat.not_lt_zero _)⟩, hBw⟩
theorem Add_any (s : Hs) (h : Hd) (w : World) (hs : s.At w) :
    Calls Try.prog 9 #[s.val, h.val] w fun e w' => ∃ s' : Hs, e = .returned (.tuple #[s'.val, .int .i64 (addE s.n s.z h)]) ∧ s'.At w' ∧ AddOK s.n s.z h s' ∧ Below w.heap.size w w' :=
  (AddOwn_any s h w hs).mono fun e w' h => by obtain ⟨s', h1, h2, h3⟩ := h; exact ⟨s', h1, h2.at, h3⟩
end Go.Proofs.Ytbcacebifpagpab
namespace Go.Proofs.Ytbcacebifpagpab
open Go.RowKit Go.Shelf Go.Sort
set_option linter.unusedVariables false
def rngH (x : Hd) : Prop := (0 ≤ x.o ∧ x.o ≤ 3) ∧ (0 ≤ x.l ∧ x.l ≤ 2) ∧ (0 ≤ x.b ∧ x.b ≤ 5)
theorem rng_of {x : Hd} (h : fineH x = true) : rngH x := ⟨(fineH_true h).1, (fineH_true h).2.1, (fineH_true h).2.2.1⟩
set_option maxRecDepth 100000 in
set_option maxHeartbeats 400000 in
theorem place_rng (x : Hd) (w : World) (h : rngH x) :
    Calls Try.prog 68 #[x.val] w fun e w' => e = .returned (.int .i64 (keyH x)) ∧ Below w.heap.size w w' := by
  unfold rngH at h
  unfold keyH Hd.val
  go_enter Try.func68, Try.ntmps68
  go_wp2
  go_ret
  exact ⟨rfl, (Below.refl _ _).alloc (Nat.le_refl _) _⟩
theorem one_news (w : World) (x : Hd) (t : TypeId) : ∀ j u, (hdCells x)[j]? = some u → (w.alloc (.cells #[.int .i64 x.o, .int .i64 x.l, .int .i64 x.b, .int .i64 x.n] t)).cell? ((⟨w.heap.size, 0, none⟩ : Addr).add j) = some u := by
  intro j u hj
  rw [Go.WideShapes.add_plain]
  have hlt : j < 4 := by
    have := (List.getElem?_eq_some_iff.1 hj).1
    simpa [hdCells] using this
  have hb : Blk (w.alloc (.cells #[.int .i64 x.o, .int .i64 x.l, .int .i64 x.b, .int .i64 x.n] t)) w.heap.size t 4 (fun j => (#[.int .i64 x.o, .int .i64 x.l, .int .i64 x.b, .int .i64 x.n] : Array Value).getD j default) := Blk.mk' rfl rfl
  rw [Nat.zero_add, hb.cell hlt]
  have h4 : j = 0 ∨ j = 1 ∨ j = 2 ∨ j = 3 := by omega
  rcases h4 with rfl | rfl | rfl | rfl <;> (simp [hdCells] at hj; rw [← hj]; rfl)
theorem one_cells (x : Hd) : ∀ u ∈ hdCells x, u.oneCell' = true := by
  intro u hu
  simp [hdCells] at hu
  rcases hu with rfl | rfl | rfl | rfl <;> rfl
theorem owns_below {w w' : World} {base : Nat} {e : TypeId} {size : Nat} {v : Value} {n : Nat} {xs : List Value} (h : w.ownsRow base e size v n xs) (hB : Below w.heap.size w w') : w'.ownsRow base e size v n xs :=
  h.kept (row := none) ⟨hB.os, hB.tape, hB.output, hB.size, fun j hj _ => hB.block j hj⟩ (by cases h : v.ownBlock <;> simp)
theorem below_of_rg {W w' : World} (h : ∃ p : Regrown, w' = grow (redrawn W p.d) p.os) : Below W.heap.size W w' := by
  obtain ⟨p, rfl⟩ := h
  exact below_regrown _ _ _
def wA (h : Hd) (d : Bool) (x : Hd) : Bool := !d && decide (keyH h ≤ keyH x)
def wOut (h : Hd) (z : Nat → Hd) : Nat → List Hd × Bool
  | 0 => ([], h.n == 0)
  | k + 1 => ((wOut h z k).1 ++ (if wA h (wOut h z k).2 (z k) then [h] else []) ++ (if keyH (z k) != keyH h then [z k] else []), (wOut h z k).2 || wA h (wOut h z k).2 (z k))
def wAll (h : Hd) (n : Nat) (z : Nat → Hd) : List Hd := if (wOut h z n).2 then (wOut h z n).1 else (wOut h z n).1 ++ [h]
def flatW (l : List Hd) : List Value := l.flatMap hdCells
theorem flatW_snoc (l : List Hd) (x : Hd) : flatW (l ++ [x]) = flatW l ++ hdCells x := by simp [flatW]
theorem owns_mono0 {A A' : Nat} {w : World} {e : TypeId} {size : Nat} {v : Value} {n : Nat} {xs : List Value} (h : w.ownsRow A e size v n xs) (hA : A' ≤ A) : w.ownsRow A' e size v n xs :=
  ⟨h.1, h.2.imp_right fun ⟨g, cap, cur, h1, h2, h3⟩ => ⟨g, cap, cur, h1, Nat.le_trans hA h2, h3⟩⟩
theorem wOut_len (h : Hd) (z : Nat → Hd) : ∀ k, (wOut h z k).1.length ≤ 2 * k
  | 0 => Nat.le_refl _
  | k + 1 => by
    have := wOut_len h z k
    rw [wOut]
    simp only [List.length_append]
    split <;> split <;> simp <;> omega
set_option maxRecDepth 100000 in
set_option maxHeartbeats 4000000 in
theorem with_all (s : Hs) (h : Hd) (w : World) (hs : s.At w) (hr : anyB s.n (badH s.z) = false) (hrng : rngH h) :
    Calls Try.prog 36 #[s.val, .int .i64 h.o, .int .i64 h.l, .int .i64 h.b, .int .i64 h.n] w fun e w' => ∃ v, e = .returned v ∧ w'.ownsRow w.heap.size 24 4 v (wAll h s.n s.z).length (flatW (wAll h s.n s.z)) ∧ Below w.heap.size w w' := by
  have hlen := right_len hr
  have HF : Hid (∀ j, j < s.n → rngH (s.z j)) := fun j hj => rng_of (right_fine hr j hj)
  clear hr
  obtain ⟨i0, hi, hz0, hz1, hz2⟩ := info_parts infoHold
  obtain ⟨W0, hW, hB0, K0⟩ : ∃ W, w.alloc (.cells #[.int .i64 h.o, .int .i64 h.l, .int .i64 h.b, .int .i64 h.n] 24) = W ∧ Below w.heap.size w W ∧ Blk W w.heap.size 24 4 (fun j => (#[.int .i64 h.o, .int .i64 h.l, .int .i64 h.b, .int .i64 h.n] : Array Value).getD j default) := ⟨_, rfl, (Below.refl _ _).alloc (Nat.le_refl _) _, Blk.mk' rfl rfl⟩
  have HW : Hid (w.alloc (.cells #[.int .i64 h.o, .int .i64 h.l, .int .i64 h.b, .int .i64 h.n] 24) = W0) := hW
  have HRH : Hid (rngH h) := hrng
  have HT : Hid (∀ w1, Below W0.heap.size W0 w1 → w1.cell? ⟨w.heap.size, 0, none⟩ = some (.int .i64 h.o) ∧ w1.cell? ⟨w.heap.size, 0 + 1, none⟩ = some (.int .i64 h.l) ∧ w1.cell? ⟨w.heap.size, 0 + 2, none⟩ = some (.int .i64 h.b) ∧ w1.cell? ⟨w.heap.size, 0 + 3, none⟩ = some (.int .i64 h.n)) := fun w1 hb => ⟨(K0.below hb).cell (j := 0) (by decide), (K0.below hb).cell (j := 1) (by decide), (K0.below hb).cell (j := 2) (by decide), (K0.below hb).cell (j := 3) (by decide)⟩
  have HS : Hid (∀ w1, Below W0.heap.size W0 w1 → s.At w1 ∧ Below w.heap.size w w1) := fun w1 hb => ⟨(hs.below hB0).below hb, hB0.trans (hb.mono hB0.size)⟩
  have HL0 : Hid (w.heap.size ≤ W0.heap.size) := hB0.size
  have xle := hs.le
  have xcap := hs.cap
  unfold maxLen at xcap
  clear hW hB0 K0 hs hrng
  obtain ⟨a, n, c, z⟩ := s
  dsimp only at *
  simp only [Hs.val]
  go_enter Try.func36, Try.ntmps36
  go_wp2_with fail
  rw [HW.out]
  clear HW
  go_loopw [12, 13, 14] (fun v dn i wk => ∃ k : Nat, k ≤ n ∧ i = .int .i64 k ∧ dn = .bool (wOut h z k).2 ∧ wk.ownsRow W0.heap.size 24 4 v (wOut h z k).1.length (flatW (wOut h z k).1) ∧ Below W0.heap.size W0 wk) (fun _ _ i _ => n - (intOf i).toNat)
  case atStart => exact ⟨0, Nat.zero_le _, rfl, rfl, World.ownsRow_nil _ _ _ _, Below.refl _ _⟩
  case round =>
    obtain ⟨k, hk, rfl, rfl, own, hB⟩ := hrel
    have HLN : Hid ((wOut h z k).1.length ≤ 2 * k) := wOut_len h z k
    by_cases hlt : k < n
    · have HRZ : Hid (rngH (z k)) := HF.out k hlt
      obtain ⟨bb, oo, ha, hbb, -⟩ := (HS.out wr hB).1.hds k hlt
      subst ha
      have HK : Hid (∀ w1, Below W0.heap.size W0 w1 → w1.cell? ⟨bb, oo + k * 4, none⟩ = some (.int .i64 (z k).o) ∧ w1.cell? ⟨bb, oo + k * 4 + 1, none⟩ = some (.int .i64 (z k).l) ∧ w1.cell? ⟨bb, oo + k * 4 + 2, none⟩ = some (.int .i64 (z k).b) ∧ w1.cell? ⟨bb, oo + k * 4 + 3, none⟩ = some (.int .i64 (z k).n)) := fun w1 hb => by
        obtain ⟨b', o', he, -, q0, q1, q2, q3⟩ := (HS.out w1 hb).1.hds k hlt
        simp only [Option.some.injEq, Addr.mk.injEq, and_true] at he
        obtain ⟨rfl, rfl⟩ := he
        exact ⟨q0, q1, q2, q3⟩
      have m1 : (0 : Int) ≤ (k : Int) := by omega
      have m2 : (k : Int) < (n : Int) := by omega
      have HO : Hid (wOut h z (k + 1) = ((wOut h z k).1 ++ (if wA h (wOut h z k).2 (z k) then [h] else []) ++ (if keyH (z k) != keyH h then [z k] else []), (wOut h z k).2 || wA h (wOut h z k).2 (z k))) := rfl
      have HLK : Hid (k ≤ 72) := by show _ ≤ _; omega
      generalize (wOut h z k).1 = L at *
      generalize (wOut h z k).2 = D at *
      cases D
      · by_cases hb : keyH h ≤ keyH (z k)
        · have g1 : decide (keyH h ≤ keyH (z k)) = true := decide_eq_true hb
          have HO2 : Hid (wOut h z (k + 1) = ((L ++ [h]) ++ (if keyH (z k) != keyH h then [z k] else []), true)) := by show _ = _; rw [HO.out, show wA h false (z k) = true from by simp [wA, hb]]; simp
          clear HO
          clear hb
          obtain ⟨t0, t1, t2, t3⟩ := HT.out wr hB
          obtain ⟨p0, p1, p2, p3⟩ := hd_regrown t0 t1 t2 t3
          simp only [Nat.zero_add] at t1 t2 t3 p1 p2 p3
          obtain ⟨z0, z1, z2, z3⟩ := HK.out wr hB
          obtain ⟨r0, r1, r2, r3⟩ := hd_regrown z0 z1 z2 z3
          go_wp2_with fail
          refine wp_region_quiet_below (by kernel_rfl) (by kernel_rfl) ?_
          repeat (go_big_quiet_step ((go_at_call 68; exact Calls.regrown_of (place_rng _ _ (by first | exact HRZ.out | exact HRH.out)))))
          refine wpQuiet_nil ?_
          intro wa hq
          have hq := below_of_rg hq
          have hB := hB.trans (hq.mono hB.size)
          have own := owns_below own hq
          clear t0 t1 t2 t3 p0 p1 p2 p3 z0 z1 z2 z3 r0 r1 r2 r3
          clear hq
          obtain ⟨t0, t1, t2, t3⟩ := HT.out wa hB
          obtain ⟨p0, p1, p2, p3⟩ := hd_regrown t0 t1 t2 t3
          simp only [Nat.zero_add] at t1 t2 t3 p1 p2 p3
          obtain ⟨z0, z1, z2, z3⟩ := HK.out wa hB
          obtain ⟨r0, r1, r2, r3⟩ := hd_regrown z0 z1 z2 z3
          go_wp2_with (at_builtin; refine wpList_append_own _ rfl (.tmp 40) (.tmp 42) 22 rfl W0.heap.size 24 i0 (.agg #[.int .i64 0, .int .i64 0, .int .i64 0, .int .i64 0]) 4 32 Try.underlying22 hi hz0 hz1 hz2 rfl (by decide) _ _ _ rfl (World.ownsRow.alloc own _) ⟨wa.heap.size, 0, none⟩ 1 1 (hdCells h) rfl rfl (one_news _ _ _) (one_cells _) (by have := HLN.out; have := HLK.out; unfold maxLen; omega) (by have := HLN.out; have := HLK.out; omega) (by have := hB.size; simp; omega) ?_; intro v2 wb own2 hgr hnl)
          have hB := (hB.alloc hB.size _).grown hgr (by have := hB.size; simp; omega) (fun q hq => (World.ownsRow.lt own q hq).1)
          rw [← flatW_snoc, show ∀ l : List Hd, l.length + 1 = (l ++ [h]).length from fun l => by simp] at own2
          have own := own2
          clear t0 t1 t2 t3 p0 p1 p2 p3 z0 z1 z2 z3 r0 r1 r2 r3
          clear hgr hnl own2 g1
          cases hc : (keyH (z k) != keyH h)
          · have HO3 : Hid (wOut h z (k + 1) = ((L ++ [h]), true)) := by show _ = _; rw [HO2.out, hc]; simp
            clear HO2
            obtain ⟨t0, t1, t2, t3⟩ := HT.out wb hB
            obtain ⟨p0, p1, p2, p3⟩ := hd_regrown t0 t1 t2 t3
            simp only [Nat.zero_add] at t1 t2 t3 p1 p2 p3
            obtain ⟨z0, z1, z2, z3⟩ := HK.out wb hB
            obtain ⟨r0, r1, r2, r3⟩ := hd_regrown z0 z1 z2 z3
            go_wp2_with fail
            refine wp_region_quiet_below (by kernel_rfl) (by kernel_rfl) ?_
            repeat (go_big_quiet_step ((go_at_call 68; exact Calls.regrown_of (place_rng _ _ (by first | exact HRZ.out | exact HRH.out)))))
            refine wpQuiet_nil ?_
            intro wc hq
            have hq := below_of_rg hq
            have hB := hB.trans (hq.mono hB.size)
            have own := owns_below own hq
            clear t0 t1 t2 t3 p0 p1 p2 p3 z0 z1 z2 z3 r0 r1 r2 r3
            clear hq
            go_wp2_with fail
            go_roundw
            case rel => exact ⟨k + 1, by omega, by go_num, by rw [HO3.out], by rw [HO3.out]; exact own, hB⟩
            case measure => simp [intOf]; omega
          · have HO3 : Hid (wOut h z (k + 1) = ((L ++ [h]) ++ [z k], true)) := by show _ = _; rw [HO2.out, hc]; simp
            clear HO2
            obtain ⟨t0, t1, t2, t3⟩ := HT.out wb hB
            obtain ⟨p0, p1, p2, p3⟩ := hd_regrown t0 t1 t2 t3
            simp only [Nat.zero_add] at t1 t2 t3 p1 p2 p3
            obtain ⟨z0, z1, z2, z3⟩ := HK.out wb hB
            obtain ⟨r0, r1, r2, r3⟩ := hd_regrown z0 z1 z2 z3
            go_wp2_with fail
            refine wp_region_quiet_below (by kernel_rfl) (by kernel_rfl) ?_
            repeat (go_big_quiet_step ((go_at_call 68; exact Calls.regrown_of (place_rng _ _ (by first | exact HRZ.out | exact HRH.out)))))
            refine wpQuiet_nil ?_
            intro wc hq
            have hq := below_of_rg hq
            have hB := hB.trans (hq.mono hB.size)
            have own := owns_below own hq
            clear t0 t1 t2 t3 p0 p1 p2 p3 z0 z1 z2 z3 r0 r1 r2 r3
            clear hq
            obtain ⟨t0, t1, t2, t3⟩ := HT.out wc hB
            obtain ⟨p0, p1, p2, p3⟩ := hd_regrown t0 t1 t2 t3
            simp only [Nat.zero_add] at t1 t2 t3 p1 p2 p3
            obtain ⟨z0, z1, z2, z3⟩ := HK.out wc hB
            obtain ⟨r0, r1, r2, r3⟩ := hd_regrown z0 z1 z2 z3
            go_wp2_with (at_builtin; refine wpList_append_own _ rfl (.tmp 52) (.tmp 57) 22 rfl W0.heap.size 24 i0 (.agg #[.int .i64 0, .int .i64 0, .int .i64 0, .int .i64 0]) 4 32 Try.underlying22 hi hz0 hz1 hz2 rfl (by decide) _ _ _ rfl (World.ownsRow.alloc own _) ⟨wc.heap.size, 0, none⟩ 1 1 (hdCells (z k)) rfl rfl (one_news _ _ _) (one_cells _) (by have := HLN.out; have := HLK.out; simp; unfold maxLen; omega) (by have := HLN.out; have := HLK.out; simp; omega) (by have := hB.size; simp; omega) ?_; intro v2 wd own2 hgr hnl)
            have hB := (hB.alloc hB.size _).grown hgr (by have := hB.size; simp; omega) (fun q hq => (World.ownsRow.lt own q hq).1)
            rw [← flatW_snoc, show ∀ l : List Hd, l.length + 1 = (l ++ [(z k)]).length from fun l => by simp] at own2
            have own := own2
            clear t0 t1 t2 t3 p0 p1 p2 p3 z0 z1 z2 z3 r0 r1 r2 r3
            clear hgr hnl own2
            go_wp2_with fail
            go_roundw
            case rel => exact ⟨k + 1, by omega, by go_num, by rw [HO3.out], by rw [HO3.out]; exact own, hB⟩
            case measure => simp [intOf]; omega
        · have g1 : decide (keyH h ≤ keyH (z k)) = false := decide_eq_false hb
          have HO2 : Hid (wOut h z (k + 1) = (L ++ (if keyH (z k) != keyH h then [z k] else []), false)) := by show _ = _; rw [HO.out, show wA h false (z k) = false from by simp [wA, hb]]; simp
          clear HO
          clear hb
          obtain ⟨t0, t1, t2, t3⟩ := HT.out wr hB
          obtain ⟨p0, p1, p2, p3⟩ := hd_regrown t0 t1 t2 t3
          simp only [Nat.zero_add] at t1 t2 t3 p1 p2 p3
          obtain ⟨z0, z1, z2, z3⟩ := HK.out wr hB
          obtain ⟨r0, r1, r2, r3⟩ := hd_regrown z0 z1 z2 z3
          go_wp2_with fail
          refine wp_region_quiet_below (by kernel_rfl) (by kernel_rfl) ?_
          repeat (go_big_quiet_step ((go_at_call 68; exact Calls.regrown_of (place_rng _ _ (by first | exact HRZ.out | exact HRH.out)))))
          refine wpQuiet_nil ?_
          intro wb hq
          have hq := below_of_rg hq
          have hB := hB.trans (hq.mono hB.size)
          have own := owns_below own hq
          clear t0 t1 t2 t3 p0 p1 p2 p3 z0 z1 z2 z3 r0 r1 r2 r3
          clear hq
          clear g1
          cases hc : (keyH (z k) != keyH h)
          · have HO3 : Hid (wOut h z (k + 1) = (L, false)) := by show _ = _; rw [HO2.out, hc]; simp
            clear HO2
            obtain ⟨t0, t1, t2, t3⟩ := HT.out wb hB
            obtain ⟨p0, p1, p2, p3⟩ := hd_regrown t0 t1 t2 t3
            simp only [Nat.zero_add] at t1 t2 t3 p1 p2 p3
            obtain ⟨z0, z1, z2, z3⟩ := HK.out wb hB
            obtain ⟨r0, r1, r2, r3⟩ := hd_regrown z0 z1 z2 z3
            go_wp2_with fail
            refine wp_region_quiet_below (by kernel_rfl) (by kernel_rfl) ?_
            repeat (go_big_quiet_step ((go_at_call 68; exact Calls.regrown_of (place_rng _ _ (by first | exact HRZ.out | exact HRH.out)))))
            refine wpQuiet_nil ?_
            intro wc hq
            have hq := below_of_rg hq
            have hB := hB.trans (hq.mono hB.size)
            have own := owns_below own hq
            clear t0 t1 t2 t3 p0 p1 p2 p3 z0 z1 z2 z3 r0 r1 r2 r3
            clear hq
            go_wp2_with fail
            go_roundw
            case rel => exact ⟨k + 1, by omega, by go_num, by rw [HO3.out], by rw [HO3.out]; exact own, hB⟩
            case measure => simp [intOf]; omega
          · have HO3 : Hid (wOut h z (k + 1) = (L ++ [z k], false)) := by show _ = _; rw [HO2.out, hc]; simp
            clear HO2
            obtain ⟨t0, t1, t2, t3⟩ := HT.out wb hB
            obtain ⟨p0, p1, p2, p3⟩ := hd_regrown t0 t1 t2 t3
            simp only [Nat.zero_add] at t1 t2 t3 p1 p2 p3
            obtain ⟨z0, z1, z2, z3⟩ := HK.out wb hB
            obtain ⟨r0, r1, r2, r3⟩ := hd_regrown z0 z1 z2 z3
            go_wp2_with fail
            refine wp_region_quiet_below (by kernel_rfl) (by kernel_rfl) ?_
            repeat (go_big_quiet_step ((go_at_call 68; exact Calls.regrown_of (place_rng _ _ (by first | exact HRZ.out | exact HRH.out)))))
            refine wpQuiet_nil ?_
            intro wc hq
            have hq := below_of_rg hq
            have hB := hB.trans (hq.mono hB.size)
            have own := owns_below own hq
            clear t0 t1 t2 t3 p0 p1 p2 p3 z0 z1 z2 z3 r0 r1 r2 r3
            clear hq
            obtain ⟨t0, t1, t2, t3⟩ := HT.out wc hB
            obtain ⟨p0, p1, p2, p3⟩ := hd_regrown t0 t1 t2 t3
            simp only [Nat.zero_add] at t1 t2 t3 p1 p2 p3
            obtain ⟨z0, z1, z2, z3⟩ := HK.out wc hB
            obtain ⟨r0, r1, r2, r3⟩ := hd_regrown z0 z1 z2 z3
            go_wp2_with (at_builtin; refine wpList_append_own _ rfl (.tmp 52) (.tmp 57) 22 rfl W0.heap.size 24 i0 (.agg #[.int .i64 0, .int .i64 0, .int .i64 0, .int .i64 0]) 4 32 Try.underlying22 hi hz0 hz1 hz2 rfl (by decide) _ _ _ rfl (World.ownsRow.alloc own _) ⟨wc.heap.size, 0, none⟩ 1 1 (hdCells (z k)) rfl rfl (one_news _ _ _) (one_cells _) (by have := HLN.out; have := HLK.out; simp; unfold maxLen; omega) (by have := HLN.out; have := HLK.out; simp; omega) (by have := hB.size; simp; omega) ?_; intro v2 wd own2 hgr hnl)
            have hB := (hB.alloc hB.size _).grown hgr (by have := hB.size; simp; omega) (fun q hq => (World.ownsRow.lt own q hq).1)
            rw [← flatW_snoc, show ∀ l : List Hd, l.length + 1 = (l ++ [(z k)]).length from fun l => by simp] at own2
            have own := own2
            clear t0 t1 t2 t3 p0 p1 p2 p3 z0 z1 z2 z3 r0 r1 r2 r3
            clear hgr hnl own2
            go_wp2_with fail
            go_roundw
            case rel => exact ⟨k + 1, by omega, by go_num, by rw [HO3.out], by rw [HO3.out]; exact own, hB⟩
            case measure => simp [intOf]; omega
      · have HO2 : Hid (wOut h z (k + 1) = (L ++ (if keyH (z k) != keyH h then [z k] else []), true)) := by show _ = _; rw [HO.out, show wA h true (z k) = false from rfl]; simp
        clear HO
        obtain ⟨t0, t1, t2, t3⟩ := HT.out wr hB
        obtain ⟨p0, p1, p2, p3⟩ := hd_regrown t0 t1 t2 t3
        simp only [Nat.zero_add] at t1 t2 t3 p1 p2 p3
        obtain ⟨z0, z1, z2, z3⟩ := HK.out wr hB
        obtain ⟨r0, r1, r2, r3⟩ := hd_regrown z0 z1 z2 z3
        go_wp2_with fail
        refine wp_region_quiet_below (by kernel_rfl) (by kernel_rfl) ?_
        repeat (go_big_quiet_step ((go_at_call 68; exact Calls.regrown_of (place_rng _ _ (by first | exact HRZ.out | exact HRH.out)))))
        refine wpQuiet_nil ?_
        intro wb hq
        have hq := below_of_rg hq
        have hB := hB.trans (hq.mono hB.size)
        have own := owns_below own hq
        clear t0 t1 t2 t3 p0 p1 p2 p3 z0 z1 z2 z3 r0 r1 r2 r3
        clear hq
        cases hc : (keyH (z k) != keyH h)
        · have HO3 : Hid (wOut h z (k + 1) = (L, true)) := by show _ = _; rw [HO2.out, hc]; simp
          clear HO2
          obtain ⟨t0, t1, t2, t3⟩ := HT.out wb hB
          obtain ⟨p0, p1, p2, p3⟩ := hd_regrown t0 t1 t2 t3
          simp only [Nat.zero_add] at t1 t2 t3 p1 p2 p3
          obtain ⟨z0, z1, z2, z3⟩ := HK.out wb hB
          obtain ⟨r0, r1, r2, r3⟩ := hd_regrown z0 z1 z2 z3
          go_wp2_with fail
          refine wp_region_quiet_below (by kernel_rfl) (by kernel_rfl) ?_
          repeat (go_big_quiet_step ((go_at_call 68; exact Calls.regrown_of (place_rng _ _ (by first | exact HRZ.out | exact HRH.out)))))
          refine wpQuiet_nil ?_
          intro wc hq
          have hq := below_of_rg hq
          have hB := hB.trans (hq.mono hB.size)
          have own := owns_below own hq
          clear t0 t1 t2 t3 p0 p1 p2 p3 z0 z1 z2 z3 r0 r1 r2 r3
          clear hq
          go_wp2_with fail
          go_roundw
          case rel => exact ⟨k + 1, by omega, by go_num, by rw [HO3.out], by rw [HO3.out]; exact own, hB⟩
          case measure => simp [intOf]; omega
        · have HO3 : Hid (wOut h z (k + 1) = (L ++ [z k], true)) := by show _ = _; rw [HO2.out, hc]; simp
          clear HO2
          obtain ⟨t0, t1, t2, t3⟩ := HT.out wb hB
          obtain ⟨p0, p1, p2, p3⟩ := hd_regrown t0 t1 t2 t3
          simp only [Nat.zero_add] at t1 t2 t3 p1 p2 p3
          obtain ⟨z0, z1, z2, z3⟩ := HK.out wb hB
          obtain ⟨r0, r1, r2, r3⟩ := hd_regrown z0 z1 z2 z3
          go_wp2_with fail
          refine wp_region_quiet_below (by kernel_rfl) (by kernel_rfl) ?_
          repeat (go_big_quiet_step ((go_at_call 68; exact Calls.regrown_of (place_rng _ _ (by first | exact HRZ.out | exact HRH.out)))))
          refine wpQuiet_nil ?_
          intro wc hq
          have hq := below_of_rg hq
          have hB := hB.trans (hq.mono hB.size)
          have own := owns_below own hq
          clear t0 t1 t2 t3 p0 p1 p2 p3 z0 z1 z2 z3 r0 r1 r2 r3
          clear hq
          obtain ⟨t0, t1, t2, t3⟩ := HT.out wc hB
          obtain ⟨p0, p1, p2, p3⟩ := hd_regrown t0 t1 t2 t3
          simp only [Nat.zero_add] at t1 t2 t3 p1 p2 p3
          obtain ⟨z0, z1, z2, z3⟩ := HK.out wc hB
          obtain ⟨r0, r1, r2, r3⟩ := hd_regrown z0 z1 z2 z3
          go_wp2_with (at_builtin; refine wpList_append_own _ rfl (.tmp 52) (.tmp 57) 22 rfl W0.heap.size 24 i0 (.agg #[.int .i64 0, .int .i64 0, .int .i64 0, .int .i64 0]) 4 32 Try.underlying22 hi hz0 hz1 hz2 rfl (by decide) _ _ _ rfl (World.ownsRow.alloc own _) ⟨wc.heap.size, 0, none⟩ 1 1 (hdCells (z k)) rfl rfl (one_news _ _ _) (one_cells _) (by have := HLN.out; have := HLK.out; simp; unfold maxLen; omega) (by have := HLN.out; have := HLK.out; simp; omega) (by have := hB.size; simp; omega) ?_; intro v2 wd own2 hgr hnl)
          have hB := (hB.alloc hB.size _).grown hgr (by have := hB.size; simp; omega) (fun q hq => (World.ownsRow.lt own q hq).1)
          rw [← flatW_snoc, show ∀ l : List Hd, l.length + 1 = (l ++ [(z k)]).length from fun l => by simp] at own2
          have own := own2
          clear t0 t1 t2 t3 p0 p1 p2 p3 z0 z1 z2 z3 r0 r1 r2 r3
          clear hgr hnl own2
          go_wp2_with fail
          go_roundw
          case rel => exact ⟨k + 1, by omega, by go_num, by rw [HO3.out], by rw [HO3.out]; exact own, hB⟩
          case measure => simp [intOf]; omega
    · have hkn : k = n := by omega
      subst hkn
      have q1 : ¬ (k : Int) < (k : Int) := by omega
      have HB : Hid (Below w.heap.size w wr) := (HS.out wr hB).2
      have HA : Hid (wAll h k z = if (wOut h z k).2 then (wOut h z k).1 else (wOut h z k).1 ++ [h]) := rfl
      generalize (wOut h z k).1 = L at *
      generalize (wOut h z k).2 = D at *
      cases D
      · obtain ⟨t0, t1, t2, t3⟩ := HT.out wr hB
        simp only [Nat.zero_add] at t1 t2 t3
        go_wp2_with (at_builtin; refine wpList_append_own _ rfl (.tmp 61) (.tmp 63) 22 rfl W0.heap.size 24 i0 (.agg #[.int .i64 0, .int .i64 0, .int .i64 0, .int .i64 0]) 4 32 Try.underlying22 hi hz0 hz1 hz2 rfl (by decide) _ _ _ rfl (World.ownsRow.alloc own _) ⟨wr.heap.size, 0, none⟩ 1 1 (hdCells h) rfl rfl (one_news _ _ _) (one_cells _) (by have := HLN.out; have := hlen; unfold maxLen; omega) (by have := HLN.out; have := hlen; omega) (by have := hB.size; simp; omega) ?_; intro v2 wb own2 hgr hnl)
        have hB := (hB.alloc hB.size _).grown hgr (by have := hB.size; simp; omega) (fun q hq => (World.ownsRow.lt own q hq).1)
        rw [← flatW_snoc, show ∀ l : List Hd, l.length + 1 = (l ++ [h]).length from fun l => by simp] at own2
        have own := own2
        clear t0 t1 t2 t3 hgr hnl own2
        go_wp2_with fail
        go_ret
        exact ⟨_, rfl, by rw [HA.out]; exact owns_mono0 own HL0.out, (HS.out _ hB).2⟩
      · go_wp2_with fail
        go_ret
        exact ⟨_, rfl, by rw [HA.out]; exact owns_mono0 own HL0.out, HB.out⟩
def listH (k : Nat) (f : Nat → Hd) : List Hd := (List.range k).map f
theorem listH_succ (k : Nat) (f : Nat → Hd) : listH (k + 1) f = listH k f ++ [f k] := by simp [listH, List.range_succ]
theorem listH_len (k : Nat) (f : Nat → Hd) : (listH k f).length = k := by simp [listH]
theorem listH_flat (f : Nat → Hd) : ∀ k, flatW (listH k f) = flatH k f
  | 0 => rfl
  | k + 1 => by rw [listH_succ, flatW_snoc, listH_flat f k, flatH_succ]
theorem wA_yes {h x : Hd} (e : keyH h ≤ keyH x) : wA h false x = true := by simp [wA, e]
theorem wA_no {h x : Hd} (e : keyH x < keyH h) : wA h false x = false := by simp [wA]; omega
theorem wA_done (h x : Hd) : wA h true x = false := rfl
theorem wOut_step {h : Hd} {z : Nat → Hd} {k : Nat} {L : List Hd} {D : Bool} (e : wOut h z k = (L, D)) : wOut h z (k + 1) = (L ++ (if wA h D (z k) then [h] else []) ++ (if keyH (z k) != keyH h then [z k] else []), D || wA h D (z k)) := by rw [wOut, e]
theorem wOut_set {h : Hd} {z : Nat → Hd} {n p : Nat} (hlo : ∀ j, j < p → keyH (z j) < keyH h) (hhi : ∀ j, p < j → j < n → keyH h < keyH (z j)) (heq : keyH (z p) = keyH h) (hN : ¬ h.n = 0) : ∀ k, k ≤ n → wOut h z k = (listH k (setZ z p h), decide (p < k))
  | 0, _ => by simp [wOut, listH, hN]
  | k + 1, hk => by
    rw [wOut_step (wOut_set hlo hhi heq hN k (by omega)), listH_succ]
    unfold setZ
    rcases Nat.lt_trichotomy k p with c | c | c
    · have := hlo k c
      rw [decide_eq_false (by omega : ¬ p < k), decide_eq_false (by omega : ¬ p < k + 1), wA_no this, if_neg (by omega : ¬ k = p), if_pos (by simp; omega : (keyH (z k) != keyH h) = true)]
      simp
    · subst c
      rw [decide_eq_false (by omega : ¬ k < k), decide_eq_true (by omega : k < k + 1), wA_yes (by omega), if_pos (rfl : k = k), if_neg (by simp; omega : ¬ (keyH (z k) != keyH h) = true)]
      simp
    · have := hhi k c (by omega)
      rw [decide_eq_true c, decide_eq_true (by omega : p < k + 1), wA_done, if_neg (by omega : ¬ k = p), if_pos (by simp; omega : (keyH (z k) != keyH h) = true)]
      simp
theorem wOut_ins {h : Hd} {z : Nat → Hd} {n p : Nat} (hlo : ∀ j, j < p → keyH (z j) < keyH h) (hhi : ∀ j, p < j → j < n → keyH h < keyH (z j)) (heq : p < n → keyH h < keyH (z p)) (hN : ¬ h.n = 0) : ∀ k, k ≤ n → wOut h z k = (listH (if k ≤ p then k else k + 1) (insZ z p h), decide (p < k))
  | 0, _ => by simp [wOut, listH, hN]
  | k + 1, hk => by
    rw [wOut_step (wOut_ins hlo hhi heq hN k (by omega))]
    rcases Nat.lt_trichotomy k p with c | c | c
    · have := hlo k c
      rw [decide_eq_false (by omega : ¬ p < k), decide_eq_false (by omega : ¬ p < k + 1), wA_no this, if_pos (by omega : k ≤ p), if_pos (by omega : k + 1 ≤ p), listH_succ, show insZ z p h k = z k by unfold insZ; rw [if_pos c], if_pos (by simp; omega : (keyH (z k) != keyH h) = true)]
      simp
    · subst c
      have := heq (by omega)
      rw [decide_eq_false (by omega : ¬ k < k), decide_eq_true (by omega : k < k + 1), wA_yes (by omega), if_pos (Nat.le_refl k), if_neg (by omega : ¬ k + 1 ≤ k), listH_succ, listH_succ, show insZ z k h k = h by unfold insZ; rw [if_neg (by omega), if_pos rfl], show insZ z k h (k + 1) = z k by unfold insZ; rw [if_neg (by omega), if_neg (by omega)]; rfl, if_pos (by simp; omega : (keyH (z k) != keyH h) = true)]
      simp
    · have := hhi k c (by omega)
      rw [decide_eq_true c, decide_eq_true (by omega : p < k + 1), wA_done, if_neg (by omega : ¬ k ≤ p), if_neg (by omega : ¬ k + 1 ≤ p), listH_succ (k + 1), show insZ z p h (k + 1) = z k by unfold insZ; rw [if_neg (by omega), if_neg (by omega)]; rfl, if_pos (by simp; omega : (keyH (z k) != keyH h) = true)]
      simp
theorem with_row {s : Hs} {h : Hd} {w : World} {m : Nat} {f : Nat → Hd} (e : wAll h s.n s.z = listH m f) (hs : s.At w) (hr : anyB s.n (badH s.z) = false) (hrng : rngH h) :
    Calls Try.prog 36 #[s.val, .int .i64 h.o, .int .i64 h.l, .int .i64 h.b, .int .i64 h.n] w fun e w' => ∃ s' : Hs, e = .returned s'.val ∧ OwnH w.heap.size 24 w' s' ∧ s'.n = m ∧ s'.z = f ∧ Below w.heap.size w w' := by
  refine (with_all s h w hs hr hrng).mono fun e' w' ⟨v, h1, h2, h3⟩ => ?_
  rw [e, listH_len, listH_flat] at h2
  obtain ⟨s', e1, e2, e3, e4⟩ := OwnH.ofRow h2 (Nat.le_refl _)
  exact ⟨s', by rw [h1, e1], e2, e3, e4, h3⟩
theorem with_setO (s : Hs) (h : Hd) (p : Nat) (w : World) (hs : s.At w) (hr : anyB s.n (badH s.z) = false) (hrng : rngH h) (hp : p < s.n) (heq : keyH (s.z p) = keyH h) (hN : ¬ h.n = 0) (hlo : ∀ j, j < p → keyH (s.z j) < keyH h) (hhi : ∀ j, p < j → j < s.n → keyH h < keyH (s.z j)) :
    Calls Try.prog 36 #[s.val, .int .i64 h.o, .int .i64 h.l, .int .i64 h.b, .int .i64 h.n] w fun e w' => ∃ s' : Hs, e = .returned s'.val ∧ OwnH w.heap.size 24 w' s' ∧ s'.n = s.n ∧ s'.z = setZ s.z p h ∧ Below w.heap.size w w' :=
  with_row (by unfold wAll; rw [wOut_set hlo hhi heq hN s.n (Nat.le_refl _), decide_eq_true hp]; rfl) hs hr hrng
theorem with_insO (s : Hs) (h : Hd) (p : Nat) (w : World) (hs : s.At w) (hr : anyB s.n (badH s.z) = false) (hrng : rngH h) (hp : p ≤ s.n) (heq : p < s.n → keyH h < keyH (s.z p)) (hN : ¬ h.n = 0) (hlo : ∀ j, j < p → keyH (s.z j) < keyH h) (hhi : ∀ j, p < j → j < s.n → keyH h < keyH (s.z j)) :
    Calls Try.prog 36 #[s.val, .int .i64 h.o, .int .i64 h.l, .int .i64 h.b, .int .i64 h.n] w fun e w' => ∃ s' : Hs, e = .returned s'.val ∧ OwnH w.heap.size 24 w' s' ∧ s'.n = s.n + 1 ∧ s'.z = insZ s.z p h ∧ Below w.heap.size w w' :=
  with_row (by
    unfold wAll
    rw [wOut_ins hlo hhi heq hN s.n (Nat.le_refl _)]
    by_cases c : p < s.n
    · rw [decide_eq_true c, if_neg (by omega : ¬ s.n ≤ p)]; rfl
    · have hpn : p = s.n := by omega
      subst hpn
      rw [decide_eq_false (by omega), if_pos (Nat.le_refl _), listH_succ, show insZ s.z s.n h s.n = h by unfold insZ; rw [if_neg (by omega), if_pos rfl]]
      rfl) hs hr hrng
end Go.Proofs.Ytbcacebifpagpab
namespace Go.Proofs.Ytbcacebifpagpab
open Go.RowKit Go.Shelf
set_option linter.unusedVariables false
set_option maxRecDepth 100000 in
set_option maxHeartbeats 1000000 in
theorem SameHolds_yes (r s : Hs) (w : World) (hr : r.At w) (hs : s.At w) (hn : r.n = s.n) (hz : ∀ j, j < r.n → r.z j = s.z j) :
    Calls Try.prog 12 #[r.val, s.val] w fun e w' => e = .returned (.bool true) ∧ Below w.heap.size w w' := by
  obtain ⟨ra, rn, rc, rz⟩ := r
  obtain ⟨sa, sn, sc, sz⟩ := s
  obtain ⟨rle, rcap, rh, _⟩ := hr
  obtain ⟨sle, scap, sh, _⟩ := hs
  dsimp only at *
  subst hn
  have HZ : Hid (∀ j, j < rn → rz j = sz j) := hz
  clear hz
  unfold maxLen at rcap scap
  simp only [Hs.val]
  go_enter Try.func12, Try.ntmps12
  go_wp2_with fail
  go_loopw [5] (fun i wk => ∃ k : Nat, k ≤ rn ∧ i = .int .i64 k ∧ Below w.heap.size w wk) (fun i _ => rn - (intOf i).toNat)
  case atStart => exact ⟨0, Nat.zero_le _, rfl, Below.refl _ _⟩
  case round =>
    obtain ⟨k, hk, rfl, hB⟩ := hrel
    by_cases hlt : k < rn
    · obtain ⟨b1, o1, rfl, hb1, y0, y1, y2, y3⟩ := (rh.below hB) k hlt
      obtain ⟨b2, o2, rfl, hb2, x0, x1, x2, x3⟩ := (sh.below hB) k hlt
      rw [← HZ.out k hlt] at x0 x1 x2 x3
      generalize rz k = Z at y0 y1 y2 y3 x0 x1 x2 x3
      go_wp2_with fail
      go_quiet (fail)
      go_wp2_with fail
      go_roundw
      case rel => exact ⟨k + 1, by omega, by go_num, below_drewN hB _⟩
      case measure => simp [intOf]; omega
    · go_wp2_with fail
      go_ret
      exact ⟨rfl, hB⟩
theorem kept_pos {n : Nat} {z : Nat → Hd} {o l b : Int} (hr : anyB n (badH z) = false) (hk : ¬ keptV n z o l b = 0) :
    dropI n z o l b < n ∧ matchH (z (dropI n z o l b)) o l b = true ∧ keptV n z o l b = (z (dropI n z o l b)).n ∧ (∀ j, j < dropI n z o l b → keyH (z j) < keyH (z (dropI n z o l b))) ∧ (∀ j, dropI n z o l b < j → j < n → keyH (z (dropI n z o l b)) < keyH (z j)) := by
  rcases keptV_cases n z o l b with h | ⟨k, hkn, h1, h2⟩
  · exact absurd (keptV_none h) hk
  · rw [dropI_some hkn h1 h2]
    exact ⟨hkn, h2, keptV_some hkn h1 h2, fun j hj => right_lt hr j k hj hkn, fun j hj hjn => right_lt hr k j hj hjn⟩
theorem match_key {x : Hd} {o l b n : Int} (h : matchH x o l b = true) : keyH x = keyH ⟨o, l, b, n⟩ := by
  have a := matchH_true h
  simp [keyH, a]
end Go.Proofs.Ytbcacebifpagpab
namespace Go.Proofs.Ytbcacebifpagpab
open Go.RowKit Go.Shelf
set_option linter.unusedVariables false
def begL : Nat → Hd
  | 0 => ⟨0, 1, 2, 5⟩
  | _ => ⟨1, 0, 0, 3⟩
def begA : Nat → Hd := addZ 2 begL ⟨0, 1, 1, 4⟩
def begB : Nat → Hd := addZ 3 begA ⟨0, 1, 2, 2⟩
theorem Hs.At.congr {w : World} {s : Hs} {z' : Nat → Hd} {n : Nat} (h : s.At w) (hn : s.n = n) (hz : ∀ j, j < s.n → s.z j = z' j) : Hs.At w ⟨s.a, n, s.c, z'⟩ := by
  subst hn
  refine ⟨h.le, h.cap, fun i hi => ?_, h.nilc⟩
  have := h.hds i hi
  rw [hz i hi] at this
  exact this
theorem beg1 : addE 2 begL ⟨0, 1, 1, 4⟩ = 0 ∧ addLen 2 begL ⟨0, 1, 1, 4⟩ = 3 ∧ checkH 2 begL = 0 := ⟨by rfl, by rfl, by rfl⟩
theorem beg2 : addE 3 begA ⟨0, 1, 2, 2⟩ = 0 ∧ addLen 3 begA ⟨0, 1, 2, 2⟩ = 3 := ⟨by rfl, by rfl⟩
theorem beg3 : dropE 3 begB 1 0 0 = 0 ∧ dropN 3 begB 1 0 0 = 3 ∧ dropE 3 begB 1 1 0 = 4 ∧ dropN 3 begB 1 1 0 = 0 := ⟨by rfl, by rfl, by rfl, by rfl⟩
theorem beg4 : checkH 3 begB = 0 ∧ keptS begB 0 1 3 = 11 := ⟨by rfl, by rfl⟩
theorem beg5 : (begA 0).b = 1 ∧ (begB 1).n = 7 := ⟨by rfl, by rfl⟩
set_option maxRecDepth 100000 in
set_option maxHeartbeats 2000000 in
theorem holdsBegun_any (w : World) :
    Calls Try.prog 11 #[] w fun e w' => e = .returned (.bool true) ∧ Below w.heap.size w w' := by
  have F : ∃ W0, w.alloc (.cells #[.int .i64 0, .int .i64 1, .int .i64 2, .int .i64 5, .int .i64 1, .int .i64 0, .int .i64 0, .int .i64 3] 24) = W0 ∧ Below w.heap.size w W0 ∧ Hs.At W0 ⟨some ⟨w.heap.size, 0, none⟩, 2, 2, begL⟩ := by
    refine ⟨_, rfl, (Below.refl _ _).alloc (Nat.le_refl _) _, ⟨Nat.le_refl _, by show 2 ≤ maxLen; unfold maxLen; omega, fun i hi => ?_, fun h => by cases h⟩⟩
    have hb : Blk (w.alloc (.cells #[.int .i64 0, .int .i64 1, .int .i64 2, .int .i64 5, .int .i64 1, .int .i64 0, .int .i64 0, .int .i64 3] 24)) w.heap.size 24 8 (fun j => (#[.int .i64 0, .int .i64 1, .int .i64 2, .int .i64 5, .int .i64 1, .int .i64 0, .int .i64 0, .int .i64 3] : Array Value).getD j default) := Blk.mk' rfl rfl
    have hi2 : i = 0 ∨ i = 1 := by have : i < 2 := hi; omega
    refine ⟨w.heap.size, 0, rfl, hb.lt, ?_⟩
    rcases hi2 with rfl | rfl
    · exact ⟨hb.cell (j := 0) (by decide), hb.cell (j := 1) (by decide), hb.cell (j := 2) (by decide), hb.cell (j := 3) (by decide)⟩
    · exact ⟨hb.cell (j := 4) (by decide), hb.cell (j := 5) (by decide), hb.cell (j := 6) (by decide), hb.cell (j := 7) (by decide)⟩
  obtain ⟨W0, hW, hB0, hL⟩ := F
  have HW : Hid (w.alloc (.cells #[.int .i64 0, .int .i64 1, .int .i64 2, .int .i64 5, .int .i64 1, .int .i64 0, .int .i64 0, .int .i64 3] 24) = W0) := hW
  clear hW
  go_enter Try.func11, Try.ntmps11
  go_wp2_with fail
  rw [HW.out]
  clear HW
  refine (Add_any ⟨some ⟨w.heap.size, 0, none⟩, 2, 2, begL⟩ ⟨0, 1, 1, 4⟩ W0 hL).mono ?_
  rintro e w1 ⟨a, rfl, aat, aok, hB1⟩
  dsimp only at aok ⊢
  rw [beg1.1]
  have an : a.n = 3 := by have := aok.1; rw [beg1.1] at this; exact this
  have aat' := aat.congr (z' := begA) an aok.2
  obtain ⟨aa, n1, ac, az⟩ := a
  dsimp only at an aat'
  subst an
  have ale : 3 ≤ ac := aat.le
  have acap := aat.cap
  dsimp only at acap
  unfold maxLen at acap
  obtain ⟨ab, ao, hae, hab, _, _, a2, _⟩ := aat'.hds 0 (show 0 < 3 by decide)
  dsimp only at hae
  subst hae
  simp only [Nat.zero_mul, Nat.add_zero, beg5.1] at a2
  clear aat aok
  simp only [Hs.val]
  go_wp2_with fail
  refine (Add_any ⟨some ⟨ab, ao, none⟩, 3, ac, begA⟩ ⟨0, 1, 2, 2⟩ w1 aat').mono ?_
  rintro e w2 ⟨b, rfl, bat, bok, hB2⟩
  dsimp only at bok ⊢
  rw [beg2.1]
  have bn : b.n = 3 := by have := bok.1; rw [beg2.1] at this; exact this
  have bat' := bat.congr (z' := begB) bn bok.2
  obtain ⟨ba, n2, bc, bz⟩ := b
  dsimp only at bn bat'
  subst bn
  have ble : 3 ≤ bc := bat.le
  have bcap := bat.cap
  dsimp only at bcap
  unfold maxLen at bcap
  obtain ⟨bb, bo, hbe, hbb, _, _, _, b3⟩ := bat'.hds 1 (show 1 < 3 by decide)
  dsimp only at hbe
  subst hbe
  simp only [Nat.one_mul, beg5.2] at b3
  clear bat bok
  have hC2 := hB0.trans ((hB1.trans (hB2.mono hB1.size)).mono hB0.size)
  have HA2 : Hid (w2.cell? ⟨ab, ao + 2, none⟩ = some (.int .i64 1)) := (hB2.cell (p := ⟨ab, ao + 2, none⟩) hab).trans a2
  have lab := Nat.lt_of_lt_of_le hab hB2.size
  have hL2 := hL.below (hB1.trans (hB2.mono hB1.size))
  clear a2 aat'
  simp only [Hs.val]
  go_wp2_with fail
  refine (Drop_any ⟨some ⟨bb, bo, none⟩, 3, bc, begB⟩ 1 0 0 w2 bat').mono ?_
  rintro e w3 ⟨c, rfl, cat, cok, hB3⟩
  dsimp only at cok ⊢
  rw [beg3.1, beg3.2.1]
  have cn : c.n = 2 := by have := cok.1; rw [beg3.1] at this; exact this
  obtain ⟨ca, n3, cc, cz⟩ := c
  dsimp only at cn
  subst cn
  have cle : 2 ≤ cc := cat.le
  have ccap := cat.cap
  dsimp only at ccap
  unfold maxLen at ccap
  clear cat cok
  simp only [Hs.val]
  go_wp2_with fail
  refine (Kept_any ⟨some ⟨bb, bo, none⟩, 3, bc, begB⟩ 0 1 w3 (bat'.below hB3)).mono ?_
  rintro e w4 ⟨rfl, hB4⟩
  dsimp only
  rw [beg4.1, if_pos rfl, beg4.2]
  have hD4 := hB3.trans (hB4.mono hB3.size)
  go_wp2_with fail
  refine (Drop_any ⟨some ⟨bb, bo, none⟩, 3, bc, begB⟩ 1 1 0 w4 (bat'.below hD4)).mono ?_
  rintro e w5 ⟨d, rfl, dat, dok, hB5⟩
  dsimp only
  rw [beg3.2.2.1, beg3.2.2.2]
  have hD5 := hD4.trans (hB5.mono hD4.size)
  clear dat dok
  simp only [Hs.val]
  go_wp2_with fail
  refine (holdsCheck_any ⟨some ⟨w.heap.size, 0, none⟩, 2, 2, begL⟩ w5 (hL2.below hD5)).mono ?_
  rintro e w6 ⟨rfl, hB6⟩
  dsimp only
  rw [beg1.2.2]
  have hD6 := hD5.trans (hB6.mono hD5.size)
  have q1 := (hD6.cell (p := ⟨ab, ao + 2, none⟩) lab).trans HA2.out
  have q2 := (hD6.cell (p := ⟨bb, bo + 4 + 3, none⟩) hbb).trans b3
  go_wp2_with fail
  go_ret
  exact ⟨rfl, hC2.trans (hD6.mono hC2.size)⟩
end Go.Proofs.Ytbcacebifpagpab
namespace Go.Proofs.Ytbcacebifpagpab
open Go.RowKit
set_option linter.unusedVariables false
theorem pos_exists {z : Nat → Hd} {h : Hd} (hf : fineH h = true) : ∀ n, anyB n (badH z) = false → ∃ i, PosH n z h i
  | 0, _ => ⟨0, Nat.le_refl _, fun q hq => absurd hq (Nat.not_lt_zero _), fun q _ hq => absurd hq (Nat.not_lt_zero _)⟩
  | n + 1, hr => by
    obtain ⟨i, hp⟩ := pos_exists hf n (right_pred hr)
    have hle := hp.le
    by_cases hi : i = n
    · by_cases hc : cmpH (z n) h < 0
      · exact ⟨n + 1, Nat.le_refl _, fun q hq => by
          by_cases hqn : q = n
          · subst hqn; exact hc
          · exact hp.lo q (by omega), fun q h1 h2 => by omega⟩
      · refine ⟨n, by omega, fun q hq => hp.lo q (by omega), fun q h1 h2 => ?_⟩
        have : q = n := by omega
        subst this; omega
    · refine ⟨i, by omega, hp.lo, fun q h1 h2 => ?_⟩
      by_cases hqn : q = n
      · subst hqn
        have a := hp.hi i (Nat.le_refl _) (by omega)
        have k1 := (cmp_key (right_fine hr i (by omega)) hf).1
        have k2 := (cmp_key (right_fine hr q (by omega)) hf).1
        have k3 := right_lt hr i q (by omega) (by omega)
        omega
      · exact hp.hi q h1 (by omega)
theorem pos_key {n : Nat} {z : Nat → Hd} {h : Hd} (hr : anyB n (badH z) = false) (hf : fineH h = true) :
    addPos n z h ≤ n ∧ (∀ j, j < addPos n z h → keyH (z j) < keyH h) ∧ (∀ j, addPos n z h ≤ j → j < n → keyH h ≤ keyH (z j)) := by
  obtain ⟨i, hp⟩ := pos_exists hf n hr
  rw [addPos_eq hp]
  have hle := hp.le
  refine ⟨hp.le, fun j hj => ?_, fun j hj hjn => ?_⟩
  · have := hp.lo j hj
    have := (cmp_key (right_fine hr j (by omega)) hf).1
    omega
  · have := hp.hi j hj hjn
    have := (cmp_key (right_fine hr j hjn) hf).1
    omega
theorem key_match {x y : Hd} (hx : fineH x = true) (hy : fineH y = true) (h : keyH x = keyH y) : matchH x y.o y.l y.b = true := by
  have a := fineH_true hx
  have b := fineH_true hy
  unfold keyH at h
  have h1 : x.o = y.o := by omega
  have h2 : x.l = y.l := by omega
  have h3 : x.b = y.b := by omega
  simp [matchH, h1, h2, h3]
theorem kept_no {n : Nat} {z : Nat → Hd} {o l b : Int} (hr : anyB n (badH z) = false) (h0 : keptV n z o l b = 0) : ∀ j, j < n → matchH (z j) o l b = false := by
  rcases keptV_cases n z o l b with h | ⟨k, hkn, h1, h2⟩
  · exact h
  · rw [keptV_some hkn h1 h2] at h0
    have := (fineH_true (right_fine hr k hkn)).2.2.2
    omega
end Go.Proofs.Ytbcacebifpagpab
namespace Go.Proofs.Ytbcacebifpagpab
open Go.RowKit Go.Shelf Go.Sort
set_option linter.unusedVariables false
theorem with_addO (s : Hs) (h : Hd) (w : World) (hs : s.At w) (hr : anyB s.n (badH s.z) = false) (hf : fineH h = true) :
    Calls Try.prog 36 #[s.val, .int .i64 h.o, .int .i64 h.l, .int .i64 h.b, .int .i64 (keptV s.n s.z h.o h.l h.b + h.n)] w fun e w' => ∃ s' : Hs, e = .returned s'.val ∧ OwnH w.heap.size 24 w' s' ∧ s'.n = addLen s.n s.z h ∧ s'.z = addZ s.n s.z h ∧ Below w.heap.size w w' := by
  obtain ⟨p1, p2, p3⟩ := pos_key hr hf
  have hfh := fineH_true hf
  by_cases h0 : keptV s.n s.z h.o h.l h.b = 0
  · have no := kept_no hr h0
    have hst : ∀ j, addPos s.n s.z h ≤ j → j < s.n → keyH h < keyH (s.z j) := fun j hj hjn => by
      have a := p3 j hj hjn
      have b : ¬ keyH (s.z j) = keyH h := fun e => by
        have := key_match (right_fine hr j hjn) hf e
        rw [no j hjn] at this
        cases this
      omega
    rw [h0, Int.zero_add]
    have e1 : addLen s.n s.z h = s.n + 1 := if_pos h0
    have e2 : addZ s.n s.z h = insZ s.z (addPos s.n s.z h) h := if_pos h0
    rw [e1, e2]
    exact with_insO s h (addPos s.n s.z h) w hs hr (rng_of hf) p1 (fun hlt => hst _ (Nat.le_refl _) hlt) (by omega) p2 (fun j hj hjn => hst j (by omega) hjn)
  · obtain ⟨q1, q2, q3, q4, q5⟩ := kept_pos hr h0
    have hkey : keyH (s.z (dropI s.n s.z h.o h.l h.b)) = keyH h := match_key (n := h.n) q2
    have hp : dropI s.n s.z h.o h.l h.b = addPos s.n s.z h := by
      rcases Nat.lt_trichotomy (dropI s.n s.z h.o h.l h.b) (addPos s.n s.z h) with c | c | c
      · have := p2 _ c; omega
      · exact c
      · have := q4 _ c
        have := p3 _ (Nat.le_refl _) (by omega)
        omega
    rw [hp] at q1 q2 q3 q4 q5 hkey
    have hz := fineH_true (right_fine hr _ q1)
    have e1 : addLen s.n s.z h = s.n := if_neg h0
    have e2 : addZ s.n s.z h = setZ s.z (addPos s.n s.z h) ⟨h.o, h.l, h.b, keptV s.n s.z h.o h.l h.b + h.n⟩ := if_neg h0
    rw [e1, e2]
    exact with_setO s ⟨h.o, h.l, h.b, keptV s.n s.z h.o h.l h.b + h.n⟩ (addPos s.n s.z h) w hs hr ⟨hfh.1, hfh.2.1, hfh.2.2.1⟩ q1 hkey (by show ¬ keptV s.n s.z h.o h.l h.b + h.n = 0; omega) (fun j hj => by have := q4 j hj; rw [hkey] at this; exact this) (fun j hj hjn => by have := q5 j hj hjn; rw [hkey] at this; exact this)
theorem with_add (s : Hs) (h : Hd) (w : World) (hs : s.At w) (hr : anyB s.n (badH s.z) = false) (hf : fineH h = true) :
    Calls Try.prog 36 #[s.val, .int .i64 h.o, .int .i64 h.l, .int .i64 h.b, .int .i64 (keptV s.n s.z h.o h.l h.b + h.n)] w fun e w' => ∃ s' : Hs, e = .returned s'.val ∧ s'.At w' ∧ s'.n = addLen s.n s.z h ∧ s'.z = addZ s.n s.z h ∧ Below w.heap.size w w' :=
  (with_addO s h w hs hr hf).mono fun e w' h => by obtain ⟨s', h1, h2, h3⟩ := h; exact ⟨s', h1, h2.at, h3⟩
theorem keptAt_b (s : Hs) (o l b : Int) (w : World) (hs : s.At w) :
    Calls Try.prog 35 #[s.val, .int .i64 o, .int .i64 l, .int .i64 b] w fun e w' => e = .returned (.int .i64 (keptV s.n s.z o l b)) ∧ Below w.heap.size w w' :=
  (keptAt_any s o l b w hs).mono fun e w' h => ⟨h.1, by rw [h.2]; exact Below.refl _ _⟩
set_option maxRecDepth 100000 in
set_option maxHeartbeats 1000000 in
theorem AddOf_any (s : Hs) (h : Hd) (w : World) (hs : s.At w) :
    Calls Try.prog 10 #[s.val, h.val] w fun e w' => ∃ s' : Hs, e = .returned (.tuple #[s'.val, .int .i64 (addE s.n s.z h)]) ∧ s'.At w' ∧ AddOK s.n s.z h s' ∧ Below w.heap.size w w' := by
  have HA : Hid (∀ w', Hs.At w' ⟨none, 0, 0, s.z⟩) := fun w' => ⟨Nat.le_refl _, Nat.zero_le _, fun i hi => absurd hi (Nat.not_lt_zero _), fun _ => rfl⟩
  have HV : Hid (∀ x : Hs, x.val = .slice x.a x.n x.c) := fun _ => rfl
  have bd : anyB s.n (badH s.z) = false → ∀ o l b, 0 ≤ keptV s.n s.z o l b ∧ keptV s.n s.z o l b ≤ 200 := fun hr o l b => keptV_bd (fun j hj => (fineH_true (right_fine hr j hj)).2.2.2) o l b
  have HB : Hid (anyB s.n (badH s.z) = false → ∀ o l b, 0 ≤ keptV s.n s.z o l b ∧ keptV s.n s.z o l b ≤ 200) := bd
  clear bd
  have hB0 : Below w.heap.size w (w.alloc (.cells #[.int .i64 h.o, .int .i64 h.l, .int .i64 h.b, .int .i64 h.n] 24)) := (Below.refl w.heap.size w).alloc (Nat.le_refl _) _
  have hCell : Hid (∀ w1, Below (w.heap.size + 1) (w.alloc (.cells #[.int .i64 h.o, .int .i64 h.l, .int .i64 h.b, .int .i64 h.n] 24)) w1 → w1.cell? ⟨w.heap.size, 0, none⟩ = some (.int .i64 h.o) ∧ w1.cell? ⟨w.heap.size, 1, none⟩ = some (.int .i64 h.l) ∧ w1.cell? ⟨w.heap.size, 2, none⟩ = some (.int .i64 h.b) ∧ w1.cell? ⟨w.heap.size, 3, none⟩ = some (.int .i64 h.n) ∧ w.heap.size < w1.heap.size) := fun w1 h => ⟨(h.cell (p := ⟨w.heap.size, 0, none⟩) (by simp)).trans (by simp), (h.cell (p := ⟨w.heap.size, 1, none⟩) (by simp)).trans (by simp), (h.cell (p := ⟨w.heap.size, 2, none⟩) (by simp)).trans (by simp), (h.cell (p := ⟨w.heap.size, 3, none⟩) (by simp)).trans (by simp), by have := h.size; simp at this; omega⟩
  rw [HV.out s]
  simp only [Hd.val]
  go_enter Try.func10, Try.ntmps10
  go_wp2_with fail
  refine (CheckHolds_any s _ (hs.below hB0)).mono ?_
  rintro e w1 ⟨rfl, hB1⟩
  have hBw := hB0.trans (hB1.mono (by simp))
  have hBv : Below (w.heap.size + 1) _ w1 := hB1.mono (by simp)
  obtain ⟨c0, c1, c2, c3, hsz⟩ := hCell.out w1 hBv
  by_cases h0 : checkH s.n s.z = 0
  · have HR0 : Hid (anyB s.n (badH s.z) = false) := checkH_zero h0
    go_wp2_with fail
    refine (holdFine_any h w1).mono ?_
    rintro e w2 ⟨rfl, hB2⟩
    have hBw := hBw.trans (hB2.mono hBw.size)
    have hBv := hBv.trans (hB2.mono (by omega))
    obtain ⟨c0, c1, c2, c3, hsz⟩ := hCell.out w2 hBv
    cases hf : fineH h
    · have hE : Hid (addE s.n s.z h = 1) := by show _ = _; simp [addE, h0, hf]
      go_wp2_with fail
      go_ret2
      exact ⟨⟨none, 0, 0, s.z⟩, by rw [hE.out]; rfl, HA.out _, ⟨by rw [hE.out]; rfl, fun j hj => absurd hj (Nat.not_lt_zero _)⟩, hBw⟩
    · have hfh := fineH_true hf
      go_wp2_with fail
      have hsz2 := hs.below hBw
      have r0 : ∀ d os, (grow (redrawn w2 d) os).cell? ⟨w.heap.size, 0, none⟩ = some (.int .i64 h.o) := fun d os => cell_regrown c0 d os
      have r1 : ∀ d os, (grow (redrawn w2 d) os).cell? ⟨w.heap.size, 1, none⟩ = some (.int .i64 h.l) := fun d os => cell_regrown c1 d os
      have r2 : ∀ d os, (grow (redrawn w2 d) os).cell? ⟨w.heap.size, 2, none⟩ = some (.int .i64 h.b) := fun d os => cell_regrown c2 d os
      have r3 : ∀ d os, (grow (redrawn w2 d) os).cell? ⟨w.heap.size, 3, none⟩ = some (.int .i64 h.n) := fun d os => cell_regrown c3 d os
      have hbd := HB.out HR0.out h.o h.l h.b
      refine wp_region_quiet_below (by kernel_rfl) (by kernel_rfl) ?_
      repeat (go_big_quiet_step ((go_at_call 35; exact Calls.regrown_of (keptAt_b s h.o h.l h.b _ (hsz2.below (below_regrown _ _ _))))))
      refine wpQuiet_nil ?_
      intro _ hw'
      obtain ⟨⟨dq, osq⟩, hw''⟩ := hw'
      subst hw''
      have hB3 : Below w2.heap.size w2 (grow (redrawn w2 dq) osq) := below_regrown _ _ _
      have hBw := hBw.trans (hB3.mono hBw.size)
      have hBv := hBv.trans (hB3.mono (by omega))
      generalize grow (redrawn w2 dq) osq = w3 at hB3 hBw hBv ⊢
      obtain ⟨c0, c1, c2, c3, hsz⟩ := hCell.out w3 hBv
      clear r0 r1 r2 r3 hsz2
      by_cases h2 : 200 < keptV s.n s.z h.o h.l h.b + h.n
      · have hE : Hid (addE s.n s.z h = 3) := by show _ = _; simp [addE, h0, hf, h2]
        go_wp2_with fail
        go_ret2
        exact ⟨⟨none, 0, 0, s.z⟩, by rw [hE.out]; rfl, HA.out _, ⟨by rw [hE.out]; rfl, fun j hj => absurd hj (Nat.not_lt_zero _)⟩, hBw⟩
      · have hE : Hid (addE s.n s.z h = 0) := by show _ = _; simp [addE, h0, hf, h2]
        have HF : Hid (fineH h = true) := hf
        go_wp2_with fail
        refine (with_add s h w3 (hs.below hBw) HR0.out HF.out).mono ?_
        rintro e w4 ⟨s', rfl, e2, e3, e4, hB4⟩
        have HRR : Hid (s'.At w4 ∧ s'.n = addLen s.n s.z h ∧ s'.z = addZ s.n s.z h) := ⟨e2, e3, e4⟩
        clear e2 e3 e4
        rw [HV.out s']
        go_wp2_with fail
        go_ret2
        exact ⟨s', by rw [hE.out]; rfl, HRR.out.1, ⟨by rw [hE.out]; exact HRR.out.2.1, fun j hj => by rw [HRR.out.2.2]⟩, hBw.trans (hB4.mono hBw.size)⟩
  · have hE : Hid (addE s.n s.z h = checkH s.n s.z) := by show _ = _; simp [addE, h0]
    go_wp2_with fail
    go_ret2
    exact ⟨⟨none, 0, 0, s.z⟩, by rw [hE.out]; rfl, HA.out _, ⟨by rw [hE.out, if_neg h0], fun j hj => absurd hj (Nat.not_lt_zero _)⟩, hBw⟩
end Go.Proofs.Ytbcacebifpagpab
namespace Go.Proofs.Ytbcacebifpagpab
open Go.RowKit Go.Shelf
set_option linter.unusedVariables false
theorem AddOK.same {n : Nat} {z : Nat → Hd} {h : Hd} {x y : Hs} (hx : AddOK n z h x) (hy : AddOK n z h y) : x.n = y.n ∧ ∀ j, j < x.n → x.z j = y.z j := by
  have e : x.n = y.n := hx.1.trans hy.1.symm
  exact ⟨e, fun j hj => (hx.2 j hj).trans (hy.2 j (by rw [← e]; exact hj)).symm⟩
def boxed (w : World) (g : Nat) (h : Hd) : Prop :=
  w.cell? ⟨g, 0, none⟩ = some (.int .i64 h.o) ∧ w.cell? ⟨g, 1, none⟩ = some (.int .i64 h.l) ∧ w.cell? ⟨g, 2, none⟩ = some (.int .i64 h.b) ∧ w.cell? ⟨g, 3, none⟩ = some (.int .i64 h.n) ∧ g < w.heap.size
theorem boxed.below {w w' : World} {g : Nat} {h : Hd} (hb : boxed w g h) (hB : Below w.heap.size w w') : boxed w' g h :=
  have lt := hb.2.2.2.2
  ⟨(hB.cell (p := ⟨g, 0, none⟩) lt).trans hb.1, (hB.cell (p := ⟨g, 1, none⟩) lt).trans hb.2.1, (hB.cell (p := ⟨g, 2, none⟩) lt).trans hb.2.2.1, (hB.cell (p := ⟨g, 3, none⟩) lt).trans hb.2.2.2.1, Nat.lt_of_lt_of_le lt hB.size⟩
theorem boxed.mk' {w : World} {h : Hd} {t : TypeId} : boxed (w.alloc (.cells #[.int .i64 h.o, .int .i64 h.l, .int .i64 h.b, .int .i64 h.n] t)) w.heap.size h :=
  ⟨by simp, by simp, by simp, by simp, by simp⟩
set_option maxHeartbeats 1000000 in
theorem HoldsAdds_walk (s : Hs) (h : Hd) (w : World) (hs : s.At w) :
    Calls Try.prog 3 #[s.val, h.val] w fun e w' => e = .returned (.bool true) ∧ Below w.heap.size w w' := by
  have HV : Hid (∀ x : Hs, x.val = .slice x.a x.n x.c) := fun _ => rfl
  have F : ∃ W0, w.alloc (.cells #[.int .i64 h.o, .int .i64 h.l, .int .i64 h.b, .int .i64 h.n] 24) = W0 ∧ Below w.heap.size w W0 ∧ boxed W0 w.heap.size h := ⟨_, rfl, (Below.refl _ _).alloc (Nat.le_refl _) _, boxed.mk'⟩
  obtain ⟨W0, hW, hB0, hbx⟩ := F
  have HW : Hid (w.alloc (.cells #[.int .i64 h.o, .int .i64 h.l, .int .i64 h.b, .int .i64 h.n] 24) = W0) := hW
  clear hW
  have HX : Hid (boxed W0 w.heap.size h) := hbx
  rw [HV.out s]
  simp only [Hd.val]
  go_enter Try.func3, Try.ntmps3
  go_wp2_with fail
  rw [HW.out]
  refine (Add_any s h W0 (hs.below hB0)).mono ?_
  rintro e w1 ⟨x, rfl, xat, xok, hB1⟩
  rw [HV.out x]
  have hC1 := hB0.trans (hB1.mono hB0.size)
  obtain ⟨c0, c1, c2, c3, hsz⟩ := HX.out.below hB1
  go_wp2_with fail
  refine (AddOf_any s h w1 (hs.below hC1)).mono ?_
  rintro e w2 ⟨y, rfl, yat, yok, hB2⟩
  rw [HV.out y]
  have hC2 := hC1.trans (hB2.mono hC1.size)
  have HS : Hid (x.n = y.n ∧ ∀ j, j < x.n → x.z j = y.z j) := xok.same yok
  have xat2 := xat.below hB2
  clear xok yok xat c0 c1 c2 c3 hsz
  generalize addE s.n s.z h = AE
  go_wp2_with fail
  refine (holdsBegun_any w2).mono ?_
  rintro e w3 ⟨rfl, hB3⟩
  have hC3 := hC2.trans (hB3.mono hC2.size)
  go_wp2_with fail
  refine (SameHolds_yes x y w3 (xat2.below hB3) (yat.below hB3) HS.out.1 HS.out.2).mono ?_
  rintro e w4 ⟨rfl, hB4⟩
  go_wp2_with fail
  go_ret
  exact ⟨rfl, hC3.trans (hB4.mono hC3.size)⟩
end Go.Proofs.Ytbcacebifpagpab
namespace Go.Proofs.Ytbcacebifpagpab
open Go.ChangeShapes Go.WideShapes Go.ChangeAt Go.RowKit Go.Joins Go.Deep
set_option linter.unusedVariables false
set_option maxRecDepth 100000
namespace HoldsFrames
theorem own : ownKnob Try.prog.godebug = none := by kernel_rfl
theorem laidOut : laidOutB Try.prog = true := by kernel_rfl
theorem cellsInt : Try.prog.cellsOf 3 = 1 := by kernel_rfl
theorem cellsHold : Try.prog.cellsOf 24 = 4 := by kernel_rfl
section
variable {H : Type} {enc : TypeId × Value → H} {w : World} {held : Bool} {spare : Nat → Bool}
theorem addrOf {a : Addr} {i : Nat} {v : Value} (h : w.cell? (a.add i) = some v) (h0 : ∃ v0, w.cell? a = some v0) : ∃ b o, a = ⟨b, o, none⟩ ∧ b < w.heap.size ∧ w.cell? ⟨b, o + i, none⟩ = some v := by
  obtain ⟨b, off, spot⟩ := a
  obtain ⟨v0, h0⟩ := h0
  have hspot : spot = none := World.cell?_spot h0
  subst hspot
  refine ⟨b, off, rfl, World.block_lt_of_cell? w _ h0, ?_⟩
  rw [← Go.WideShapes.add_plain]
  exact h
theorem cells4 {base : Nat} {a : Addr} {cs : List Value} (h : w.cells? base a 4 = some cs) : ∃ c0 c1 c2 c3, cs = [c0, c1, c2, c3] ∧ w.cell? a = some c0 ∧ w.cell? (a.add 1) = some c1 ∧ w.cell? (a.add 2) = some c2 ∧ w.cell? (a.add 3) = some c3 := by
  obtain ⟨_, hlen, hc⟩ := World.cells?_some h
  match cs, hlen with
  | [c0, c1, c2, c3], _ =>
    refine ⟨c0, c1, c2, c3, rfl, ?_, ?_, ?_, ?_⟩
    · simpa [Addr.add] using hc 0 (by decide)
    · simpa using hc 1 (by decide)
    · simpa using hc 2 (by decide)
    · simpa using hc 3 (by decide)
theorem readHold {fuel : Nat} {c0 c1 c2 c3 : Value} {x : DataW H × List MemPlace} (h : DataW.trod enc Try.prog w 0 spare held fuel 24 [c0, c1, c2, c3] = some x) : ∃ y : Hd, c0 = .int .i64 y.o ∧ c1 = .int .i64 y.l ∧ c2 = .int .i64 y.b ∧ c3 = .int .i64 y.n := by
  obtain ⟨y0, y1, y2, y3, n, hx, hl, h0, h1, h2, h3⟩ := trod_struct4 Try.underlying24 h
  simp only [cellsInt, List.drop_succ_cons, List.drop_zero, List.take_succ_cons, List.take_zero] at h0 h1 h2 h3
  obtain ⟨n0, e0, _⟩ := DataW.trod_int Try.underlying3 h0
  obtain ⟨n1, e1, _⟩ := DataW.trod_int Try.underlying3 h1
  obtain ⟨n2, e2, _⟩ := DataW.trod_int Try.underlying3 h2
  obtain ⟨n3, e3, _⟩ := DataW.trod_int Try.underlying3 h3
  simp only [List.cons.injEq, and_true] at e0 e1 e2 e3
  exact ⟨⟨n0, n1, n2, n3⟩, e0, e1, e2, e3⟩
theorem readHolds {fuel : Nat} {cs : List Value} {x : DataW H × List MemPlace} (h : DataW.trod enc Try.prog w 0 spare held fuel 22 cs = some x) : ∃ s : Hs, cs = [s.val] ∧ s.At w := by
  rcases open_slice Try.underlying22 h with ⟨rfl, _⟩ | ⟨a, len, cap, m, n, D, Pl, rfl, hb, hl, hm, hmm, _, hx⟩
  · exact ⟨⟨none, 0, 0, fun _ => ⟨0, 0, 0, 0⟩⟩, rfl, Nat.le_refl _, Nat.zero_le _, fun i hi => absurd hi (Nat.not_lt_zero _), fun _ => rfl⟩
  · have hlm : len ≤ m := by rw [hmm]; split <;> omega
    rw [cellsHold] at hx
    haveI : Inhabited Hd := ⟨⟨0, 0, 0, 0⟩⟩
    obtain ⟨z, hz⟩ := choose_lt (α := Hd) (n := len) (p := fun i y => w.cell? (a.add (i * 4)) = some (.int .i64 y.o) ∧ w.cell? (a.add (i * 4 + 1)) = some (.int .i64 y.l) ∧ w.cell? (a.add (i * 4 + 2)) = some (.int .i64 y.b) ∧ w.cell? (a.add (i * 4 + 3)) = some (.int .i64 y.n)) (fun i hi => by
      obtain ⟨cs', hc, ht⟩ := hx i (by omega)
      obtain ⟨c0, c1, c2, c3, rfl, k0, k1, k2, k3⟩ := cells4 hc
      obtain ⟨y, rfl, rfl, rfl, rfl⟩ := readHold ht
      rw [add_add] at k1 k2 k3
      exact ⟨y, k0, k1, k2, k3⟩)
    refine ⟨⟨some a, len, cap, z⟩, rfl, hl, hm, fun i hi => ?_, fun h => by cases h⟩
    have hi' : i < len := hi
    have h0 : ∃ v0, w.cell? a = some v0 := ⟨_, by have := (hz 0 (by omega)).1; simpa [Addr.add] using this⟩
    obtain ⟨k0, k1, k2, k3⟩ := hz i hi'
    obtain ⟨b, o, rfl, hb', e0⟩ := addrOf k0 h0
    rw [Go.WideShapes.add_plain] at k1 k2 k3
    exact ⟨b, o, rfl, hb', e0, by rw [Nat.add_assoc]; exact k1, by rw [Nat.add_assoc]; exact k2, by rw [Nat.add_assoc]; exact k3⟩
theorem openHolds {r : Reach} {b0 : Nat} {v : Value} {d : DataW H} {ps : List MemPlace} (hv : Value.okWide Try.prog w r b0 22 v) (h : DataW.Trod enc Try.prog w 0 spare held 22 v d ps) : ∃ s : Hs, v = s.val ∧ s.At w := by
  obtain ⟨a0, len, cap, rfl⟩ := okWide_slice Try.underlying22 hv
  obtain ⟨fuel, hf⟩ := h
  obtain ⟨s, e, hs⟩ := readHolds hf
  simp only [Value.cells, List.cons.injEq, and_true] at e
  exact ⟨s, e, hs⟩
theorem openHold {r : Reach} {b0 : Nat} {v : Value} {d : DataW H} {ps : List MemPlace} (hv : Value.okWide Try.prog w r b0 24 v) (h : DataW.Trod enc Try.prog w 0 spare held 24 v d ps) : ∃ x : Hd, v = x.val := by
  obtain ⟨c0, c1, c2, c3, y0, y1, y2, y3, m, rfl, rfl, rfl, hy0, hy1, hy2, hy3⟩ := open_agg4 Try.underlying24 (by kernel_rfl) cellsHold hv h
  obtain ⟨n0, e0, _⟩ := DataW.trod_int Try.underlying3 hy0
  obtain ⟨n1, e1, _⟩ := DataW.trod_int Try.underlying3 hy1
  obtain ⟨n2, e2, _⟩ := DataW.trod_int Try.underlying3 hy2
  obtain ⟨n3, e3, _⟩ := DataW.trod_int Try.underlying3 hy3
  simp only [List.cons.injEq, and_true] at e0 e1 e2 e3
  subst e0 e1 e2 e3
  exact ⟨⟨n0, n1, n2, n3⟩, rfl⟩
end
end HoldsFrames
end Go.Proofs.Ytbcacebifpagpab

/- Plain words: bins, plans, rows; what lies in memory; what the document's checks come to. No walk. -/
import Derived.WalkKit
namespace Go.Proofs.Ytjiodlbblmbibac
open Go.RowKit
set_option linter.unusedVariables false

/-- A callee that leaves the world as it was. -/
theorem calls_to {P : Program} {f : Nat} {args : Array Value} {w : World} {R : Ending → World → Prop} {v : Value}
    (h : Calls P f args w fun e w' => e = .returned v ∧ w' = w) (k : R (.returned v) w) : Calls P f args w R :=
  h.mono (by rintro e w' ⟨rfl, rfl⟩; exact k)

def inB (n low high : Int) : Bool := decide (low ≤ n ∧ n ≤ high)
theorem inB_true {n low high : Int} (h : inB n low high = true) : low ≤ n ∧ n ≤ high := by simpa [inB] using h
theorem inB_false {n low high : Int} (h : inB n low high = false) : ¬ (low ≤ n ∧ n ≤ high) := by simpa [inB] using h
theorem inB_mk {n low high : Int} (h : low ≤ n ∧ n ≤ high) : inB n low high = true := by simpa [inB] using h
theorem inB_no {n low high : Int} (h : ¬ (low ≤ n ∧ n ≤ high)) : inB n low high = false := by simpa [inB] using h

def anyB (n : Nat) (bad : Nat → Bool) : Bool := (List.range n).any bad

theorem anyB_no {n : Nat} {bad : Nat → Bool} (h : ∀ j, j < n → bad j = false) : anyB n bad = false := by
  unfold anyB; rw [List.any_eq_false]; intro x hx; simp [h x (List.mem_range.1 hx)]
theorem anyB_yes {n k : Nat} {bad : Nat → Bool} (hk : k < n) (h : bad k = true) : anyB n bad = true := by
  unfold anyB; rw [List.any_eq_true]; exact ⟨k, List.mem_range.2 hk, h⟩
theorem anyB_false {n : Nat} {bad : Nat → Bool} (h : anyB n bad = false) : ∀ j, j < n → bad j = false := by
  intro j hj
  cases hb : bad j
  · rfl
  · rw [anyB_yes hj hb] at h; cases h
theorem anyB_true {n : Nat} {bad : Nat → Bool} (h : anyB n bad = true) : ∃ j, j < n ∧ bad j = true := by
  unfold anyB at h; rw [List.any_eq_true] at h; obtain ⟨x, hx, hb⟩ := h; exact ⟨x, List.mem_range.1 hx, hb⟩
theorem anyB_congr {n : Nat} {f g : Nat → Bool} (h : ∀ j, j < n → f j = g j) : anyB n f = anyB n g := by
  cases hg : anyB n g
  · exact anyB_no fun j hj => (h j hj).trans (anyB_false hg j hj)
  · obtain ⟨j, hj, hb⟩ := anyB_true hg
    exact anyB_yes hj ((h j hj).trans hb)
theorem anyB_succ (n : Nat) (f : Nat → Bool) : anyB (n + 1) f = (anyB n f || f n) := by
  unfold anyB; rw [List.range_succ]; simp

structure Bin where
  front : Bool
  room : Int
  low : Int
  high : Int

def Bin.val (x : Bin) : Value := .agg #[.bool x.front, .int .i64 x.room, .int .i64 x.low, .int .i64 x.high]

def badBin (x : Bin) : Bool := !inB x.room 0 1000 || !inB x.low 0 x.high || decide (200 < x.high)
def badSize (x : Int) : Bool := !inB x 1 9
def badNum (x : Int) : Bool := !inB x 0 200

theorem badBin_eq (x : Bin) : badBin x = (!inB x.room 0 1000 || !inB x.high 0 200 || !inB x.low 0 x.high) := by
  unfold badBin inB
  rw [Bool.eq_iff_iff]
  simp only [Bool.or_eq_true, Bool.not_eq_true', decide_eq_true_eq, decide_eq_false_iff_not]
  omega

/-- n integers lie from the address a on. -/
def IntsAt (w : World) (a : Option Addr) (n : Nat) (z : Nat → Int) : Prop :=
  ∀ i, i < n → ∃ b o, a = some ⟨b, o, none⟩ ∧ b < w.heap.size ∧ w.cell? ⟨b, o + i, none⟩ = some (.int .i64 (z i))

theorem IntsAt.below {w w' : World} {a : Option Addr} {n : Nat} {z : Nat → Int} (h : IntsAt w a n z) (hB : Below w.heap.size w w') : IntsAt w' a n z := by
  intro i hi
  obtain ⟨b, o, ha, hb, hc⟩ := h i hi
  exact ⟨b, o, ha, Nat.lt_of_lt_of_le hb hB.size, (hB.cell (p := ⟨b, o + i, none⟩) hb).trans hc⟩

def BinsAt (w : World) (a : Option Addr) (n : Nat) (z : Nat → Bin) : Prop :=
  ∀ i, i < n → ∃ b o, a = some ⟨b, o, none⟩ ∧ b < w.heap.size ∧ w.cell? ⟨b, o + i * 4, none⟩ = some (.bool (z i).front) ∧
    w.cell? ⟨b, o + i * 4 + 1, none⟩ = some (.int .i64 (z i).room) ∧ w.cell? ⟨b, o + i * 4 + 2, none⟩ = some (.int .i64 (z i).low) ∧
    w.cell? ⟨b, o + i * 4 + 3, none⟩ = some (.int .i64 (z i).high)

theorem BinsAt.below {w w' : World} {a : Option Addr} {n : Nat} {z : Nat → Bin} (h : BinsAt w a n z) (hB : Below w.heap.size w w') : BinsAt w' a n z := by
  intro i hi
  obtain ⟨b, o, ha, hb, h0, h1, h2, h3⟩ := h i hi
  exact ⟨b, o, ha, Nat.lt_of_lt_of_le hb hB.size, (hB.cell (p := ⟨b, o + i * 4, none⟩) hb).trans h0, (hB.cell (p := ⟨b, o + i * 4 + 1, none⟩) hb).trans h1,
    (hB.cell (p := ⟨b, o + i * 4 + 2, none⟩) hb).trans h2, (hB.cell (p := ⟨b, o + i * 4 + 3, none⟩) hb).trans h3⟩

/-- n slices of integers. -/
structure Rw where
  a : Option Addr
  n : Nat
  c : Nat
  z : Nat → Int

def Rw.val (r : Rw) : Value := .slice r.a r.n r.c
structure Rw.At (w : World) (r : Rw) : Prop where
  le : r.n ≤ r.c
  cap : r.c ≤ maxLen
  ints : IntsAt w r.a r.n r.z
theorem Rw.At.below {w w' : World} {r : Rw} (h : r.At w) (hB : Below w.heap.size w w') : r.At w' := ⟨h.le, h.cap, h.ints.below hB⟩

def RowsAt (w : World) (a : Option Addr) (n : Nat) (r : Nat → Rw) : Prop :=
  ∀ i, i < n → ∃ b o, a = some ⟨b, o, none⟩ ∧ b < w.heap.size ∧ w.cell? ⟨b, o + i, none⟩ = some (.slice (r i).a (r i).n (r i).c) ∧ (r i).At w

theorem RowsAt.below {w w' : World} {a : Option Addr} {n : Nat} {z : Nat → Rw} (h : RowsAt w a n z) (hB : Below w.heap.size w w') : RowsAt w' a n z := by
  intro i hi
  obtain ⟨b, o, ha, hb, hc, hr⟩ := h i hi
  exact ⟨b, o, ha, Nat.lt_of_lt_of_le hb hB.size, (hB.cell (p := ⟨b, o + i, none⟩) hb).trans hc, hr.below hB⟩

/-- A plan. -/
structure Pl where
  ab : Option Addr
  nb : Nat
  cb : Nat
  zb : Nat → Bin
  sa : Option Addr
  ns : Nat
  cs : Nat
  zs : Nat → Int

def Pl.val (p : Pl) : Value := .agg #[.slice p.ab p.nb p.cb, .slice p.sa p.ns p.cs]
structure Pl.At (w : World) (p : Pl) : Prop where
  leb : p.nb ≤ p.cb
  capb : p.cb ≤ maxLen
  bins : BinsAt w p.ab p.nb p.zb
  les : p.ns ≤ p.cs
  caps : p.cs ≤ maxLen
  sizes : IntsAt w p.sa p.ns p.zs
theorem Pl.At.below {w w' : World} {p : Pl} (h : p.At w) (hB : Below w.heap.size w w') : p.At w' := ⟨h.leb, h.capb, h.bins.below hB, h.les, h.caps, h.sizes.below hB⟩

/-- What Check of a plan answers. -/
def planE (p : Pl) : Int :=
  if inB p.nb 1 6 && inB p.ns 1 3 then (if anyB p.nb (fun i => badBin (p.zb i)) || anyB p.ns (fun i => badSize (p.zs i)) then 3 else 0) else 2

/-- A shelf. -/
structure Sh where
  a : Option Addr
  n : Nat
  c : Nat
  r : Nat → Rw
def Sh.val (s : Sh) : Value := .slice s.a s.n s.c
structure Sh.At (w : World) (s : Sh) : Prop where
  le : s.n ≤ s.c
  cap : s.c ≤ maxLen
  rows : RowsAt w s.a s.n s.r
theorem Sh.At.below {w w' : World} {s : Sh} (h : s.At w) (hB : Below w.heap.size w w') : s.At w' := ⟨h.le, h.cap, h.rows.below hB⟩

def badRow (p : Pl) (r : Rw) : Bool := ((r.n : Int) != (p.ns : Int)) || anyB r.n (fun i => badNum (r.z i))
def shelfE (p : Pl) (s : Sh) : Int :=
  if planE p == 0 then (if ((s.n : Int) != (p.nb : Int)) || anyB s.n (fun i => badRow p (s.r i)) then 1 else 0) else planE p

/-- What is known of a right plan and shelf. -/
structure RightP (p : Pl) : Prop where
  nb1 : 1 ≤ p.nb
  nb6 : p.nb ≤ 6
  ns1 : 1 ≤ p.ns
  ns3 : p.ns ≤ 3
  bins : ∀ i, i < p.nb → badBin (p.zb i) = false
  sizes : ∀ i, i < p.ns → 1 ≤ p.zs i ∧ p.zs i ≤ 9

theorem rightP {p : Pl} (h : planE p = 0) : RightP p := by
  unfold planE at h
  cases h1 : (inB p.nb 1 6 && inB p.ns 1 3)
  · simp [h1] at h
  · rw [h1] at h
    simp only [if_true] at h
    cases h2 : (anyB p.nb (fun i => badBin (p.zb i)) || anyB p.ns (fun i => badSize (p.zs i)))
    · rw [Bool.and_eq_true] at h1
      have a := inB_true h1.1
      have b := inB_true h1.2
      rw [Bool.or_eq_false_iff] at h2
      refine ⟨by omega, by omega, by omega, by omega, anyB_false h2.1, fun i hi => ?_⟩
      have c := anyB_false h2.2 i hi
      simp only [badSize, Bool.not_eq_false'] at c
      exact inB_true c
    · simp [h2] at h

structure RightS (p : Pl) (s : Sh) : Prop where
  pl : RightP p
  n : s.n = p.nb
  len : ∀ i, i < s.n → (s.r i).n = p.ns
  num : ∀ i, i < s.n → ∀ j, j < p.ns → 0 ≤ (s.r i).z j ∧ (s.r i).z j ≤ 200

theorem rightS {p : Pl} {s : Sh} (h : shelfE p s = 0) : planE p = 0 ∧ RightS p s := by
  unfold shelfE at h
  by_cases h0 : planE p = 0
  · simp only [h0, beq_self_eq_true, if_true] at h
    cases h2 : (((s.n : Int) != (p.nb : Int)) || anyB s.n (fun i => badRow p (s.r i)))
    · rw [Bool.or_eq_false_iff] at h2
      obtain ⟨a, b⟩ := h2
      have hn : s.n = p.nb := by have h' : (s.n : Int) = (p.nb : Int) := (by simpa using a); omega
      have hr : ∀ i, i < s.n → (s.r i).n = p.ns ∧ ∀ j, j < (s.r i).n → badNum ((s.r i).z j) = false := by
        intro i hi
        have c := anyB_false b i hi
        simp only [badRow, Bool.or_eq_false_iff] at c
        exact ⟨by have h' : ((s.r i).n : Int) = (p.ns : Int) := (by simpa using c.1); omega, anyB_false c.2⟩
      refine ⟨h0, rightP h0, hn, fun i hi => (hr i hi).1, fun i hi j hj => ?_⟩
      have c := (hr i hi).2 j (by rw [(hr i hi).1]; exact hj)
      simp only [badNum, Bool.not_eq_false'] at c
      exact inB_true c
    · simp [h2] at h
  · simp [h0] at h

/-- Sums of products, and sums. -/
def usedTo (z zs : Nat → Int) : Nat → Int
  | 0 => 0
  | k + 1 => usedTo z zs k + z k * zs k
def sumTo (z : Nat → Int) : Nat → Int
  | 0 => 0
  | k + 1 => sumTo z k + z k

theorem mul_bd {a b : Int} (ha : 0 ≤ a ∧ a ≤ 200) (hb : 1 ≤ b ∧ b ≤ 9) : 0 ≤ a * b ∧ a * b ≤ 1800 := by
  obtain ⟨a0, a1⟩ := ha
  have : b = 1 ∨ b = 2 ∨ b = 3 ∨ b = 4 ∨ b = 5 ∨ b = 6 ∨ b = 7 ∨ b = 8 ∨ b = 9 := by omega
  rcases this with rfl | rfl | rfl | rfl | rfl | rfl | rfl | rfl | rfl <;> omega

theorem usedTo_bd {z zs : Nat → Int} {n : Nat} (h : ∀ j, j < n → (0 ≤ z j ∧ z j ≤ 200) ∧ 1 ≤ zs j ∧ zs j ≤ 9) : ∀ k, k ≤ n → 0 ≤ usedTo z zs k ∧ usedTo z zs k ≤ 1800 * k
  | 0, _ => by simp [usedTo]
  | k + 1, hk => by
    have ih := usedTo_bd h k (by omega)
    have := mul_bd (h k (by omega)).1 (h k (by omega)).2
    simp only [usedTo]
    omega
theorem sumTo_bd {z : Nat → Int} {n : Nat} (h : ∀ j, j < n → 0 ≤ z j ∧ z j ≤ 200) : ∀ k, k ≤ n → 0 ≤ sumTo z k ∧ sumTo z k ≤ 200 * k
  | 0, _ => by simp [sumTo]
  | k + 1, hk => by
    have ih := sumTo_bd h k (by omega)
    have := h k (by omega)
    simp only [sumTo]
    omega
theorem usedTo_congr {z z' zs : Nat → Int} : ∀ {n : Nat}, (∀ j, j < n → z j = z' j) → usedTo z zs n = usedTo z' zs n
  | 0, _ => rfl
  | n + 1, h => by simp only [usedTo]; rw [usedTo_congr (n := n) fun j hj => h j (by omega), h n (by omega)]
theorem sumTo_congr {z z' : Nat → Int} : ∀ {n : Nat}, (∀ j, j < n → z j = z' j) → sumTo z n = sumTo z' n
  | 0, _ => rfl
  | n + 1, h => by simp only [sumTo]; rw [sumTo_congr (n := n) fun j hj => h j (by omega), h n (by omega)]

def usedE (p : Pl) (s : Sh) (bin : Int) : Int := if shelfE p s == 0 then (if inB bin 0 ((s.n : Int) - 1) then 0 else 3) else shelfE p s
def usedV (p : Pl) (s : Sh) (bin : Int) : Int := if usedE p s bin == 0 then usedTo (s.r bin.toNat).z p.zs p.ns else 0
def sumE (p : Pl) (s : Sh) (good : Int) : Int := if shelfE p s == 0 then (if inB good 0 ((p.ns : Int) - 1) then 0 else 3) else shelfE p s
def sumV (p : Pl) (s : Sh) (good : Int) : Int := if sumE p s good == 0 then sumTo (fun i => (s.r i).z good.toNat) s.n else 0
def shelfErr (p : Pl) (s : Sh) (bin good : Int) : Int := if shelfE p s == 0 then (if inB bin 0 ((p.nb : Int) - 1) && inB good 0 ((p.ns : Int) - 1) then 0 else 3) else shelfE p s

/-- Put: its error, and what it puts. -/
def putE (p : Pl) (s : Sh) (bin good n : Int) : Int :=
  if shelfErr p s bin good == 0 then (if inB n (-((s.r bin.toNat).z good.toNat)) (200 - (s.r bin.toNat).z good.toNat) then 0 else 3) else shelfErr p s bin good
def putZ (s : Sh) (bin good n : Int) (i j : Nat) : Int := if i = bin.toNat ∧ j = good.toNat then (s.r i).z j + n else (s.r i).z j

/-- What Put answers, as a value in memory. -/
def PutRes (p : Pl) (s : Sh) (bin good n : Int) (w' : World) (v : Value) : Prop :=
  if putE p s bin good n = 0 then ∃ s' : Sh, v = s'.val ∧ s'.At w' ∧ s'.n = s.n ∧ ∀ i, i < s.n → (s'.r i).n = (s.r i).n ∧ ∀ j, j < (s.r i).n → (s'.r i).z j = putZ s bin good n i j
  else v = .slice none 0 0
theorem PutRes.below {p : Pl} {s : Sh} {bin good n : Int} {w w' : World} {v : Value} (h : PutRes p s bin good n w v) (hB : Below w.heap.size w w') : PutRes p s bin good n w' v := by
  unfold PutRes at *
  split
  · rename_i h0
    rw [if_pos h0] at h
    obtain ⟨s', h1, h2, h3⟩ := h
    exact ⟨s', h1, h2.below hB, h3⟩
  · rename_i h0
    rwa [if_neg h0] at h

theorem shelfErr_eq {p : Pl} {s : Sh} {bin good : Int} (h0 : shelfE p s = 0) : shelfErr p s bin good = if inB bin 0 ((s.n : Int) - 1) && inB good 0 ((p.ns : Int) - 1) then 0 else 3 := by
  have := (rightS h0).2.n
  simp [shelfErr, h0, this]

end Go.Proofs.Ytjiodlbblmbibac

/- Texts that were built one behind the other, joined; what ShelfPuts does not reach is left out. -/
import Derived.WalkKit
import Derived.Test.YtbcacebifpagpaaRows
import Derived.Laws.EntriesVeiled
import Derived.WalkSpells
import Derived.WalkLawsBesides
import Derived.Deep.QuietTactic
import Derived.BigQuiet
import Derived.Deep.RegionHeld3
import Derived.Shelf.Abstract
import Derived.Maps.AppendAt
import Derived.Deep.OwnRows
import Derived.Lib.SliceRun
import Derived.Orders
import Derived.Lib.QuietBelow
import Derived.BigRegion
import Derived.ProofKit
import Derived.OpenShut
import Derived.Lib.SmallJoins
import Derived.Deep.Slices
namespace Go.Proofs.Ytbcacebifpagpaa
open Go.RowKit
set_option linter.unusedVariables false
theorem calls_to {P : Program} {f : Nat} {args : Array Value} {w : World} {R : Ending → World → Prop} {v : Value}
    (h : Calls P f args w fun e w' => e = .returned v ∧ w' = w) (k : R (.returned v) w) : Calls P f args w R :=
  h.mono (by rintro e w' ⟨rfl, rfl⟩; exact k)
def inB (n low high : Int) : Bool := decide (low ≤ n ∧ n ≤ high)
theorem inB_true {n low high : Int} (h : inB n low high = true) : low ≤ n ∧ n ≤ high := by simpa [inB] using h
def anyB (n : Nat) (bad : Nat → Bool) : Bool := (List.range n).any bad
theorem anyB_no {n : Nat} {bad : Nat → Bool} (h : ∀ j, j < n → bad j = false) : anyB n bad = false := by
  unfold anyB; rw [List.any_eq_false]; intro x hx; simp [h x (List.mem_range.1 hx)]
theorem anyB_yes {n k : Nat} {bad : Nat → Bool} (hk : k < n) (h : bad k = true) : anyB n bad = true := by
  unfold anyB; rw [List.any_eq_true]; exact ⟨k, List.mem_range.2 hk, h⟩
theorem anyB_false {n : Nat} {bad : Nat → Bool} (h : anyB n bad = false) : ∀ j, j < n → bad j = false := by
  intro j hj
  cases hb : bad j
  · rfl
  · rw [anyB_yes hj hb] at h; cases h
structure Bin where
  front : Bool
  room : Int
  low : Int
  high : Int
def Bin.val (x : Bin) : Value := .agg #[.bool x.front, .int .i64 x.room, .int .i64 x.low, .int .i64 x.high]
def badBin (x : Bin) : Bool := !inB x.room 0 1000 || !inB x.low 0 x.high || decide (200 < x.high)
def badSize (x : Int) : Bool := !inB x 1 9
def badNum (x : Int) : Bool := !inB x 0 200
theorem badBin_eq (x : Bin) : badBin x = (!inB x.room 0 1000 || !inB x.high 0 200 || !inB x.low 0 x.high) := by
  unfold badBin inB
  rw [Bool.eq_iff_iff]
  simp only [Bool.or_eq_true, Bool.not_eq_true', decide_eq_true_eq, decide_eq_false_iff_not]
  omega
def IntsAt (w : World) (a : Option Addr) (n : Nat) (z : Nat → Int) : Prop :=
  ∀ i, i < n → ∃ b o, a = some ⟨b, o, none⟩ ∧ b < w.heap.size ∧ w.cell? ⟨b, o + i, none⟩ = some (.int .i64 (z i))
theorem IntsAt.below {w w' : World} {a : Option Addr} {n : Nat} {z : Nat → Int} (h : IntsAt w a n z) (hB : Below w.heap.size w w') : IntsAt w' a n z := by
  intro i hi
  obtain ⟨b, o, ha, hb, hc⟩ := h i hi
  exact ⟨b, o, ha, Nat.lt_of_lt_of_le hb hB.size, (hB.cell (p := ⟨b, o + i, none⟩) hb).trans hc⟩
def BinsAt (w : World) (a : Option Addr) (n : Nat) (z : Nat → Bin) : Prop :=
  ∀ i, i < n → ∃ b o, a = some ⟨b, o, none⟩ ∧ b < w.heap.size ∧ w.cell? ⟨b, o + i * 4, none⟩ = some (.bool (z i).front) ∧
    w.cell? ⟨b, o + i * 4 + 1, none⟩ = some (.int .i64 (z i).room) ∧ w.cell? ⟨b, o + i * 4 + 2, none⟩ = some (.int .i64 (z i).low) ∧
    w.cell? ⟨b, o + i * 4 + 3, none⟩ = some (.int .i64 (z i).high)
theorem BinsAt.below {w w' : World} {a : Option Addr} {n : Nat} {z : Nat → Bin} (h : BinsAt w a n z) (hB : Below w.heap.size w w') : BinsAt w' a n z := by
  intro i hi
  obtain ⟨b, o, ha, hb, h0, h1, h2, h3⟩ := h i hi
  exact ⟨b, o, ha, Nat.lt_of_lt_of_le hb hB.size, (hB.cell (p := ⟨b, o + i * 4, none⟩) hb).trans h0, (hB.cell (p := ⟨b, o + i * 4 + 1, none⟩) hb).trans h1,
    (hB.cell (p := ⟨b, o + i * 4 + 2, none⟩) hb).trans h2, (hB.cell (p := ⟨b, o + i * 4 + 3, none⟩) hb).trans h3⟩
structure Rw where
  a : Option Addr
  n : Nat
  c : Nat
  z : Nat → Int
def Rw.val (r : Rw) : Value := .slice r.a r.n r.c
structure Rw.At (w : World) (r : Rw) : Prop where
  le : r.n ≤ r.c
  cap : r.c ≤ maxLen
  ints : IntsAt w r.a r.n r.z
theorem Rw.At.below {w w' : World} {r : Rw} (h : r.At w) (hB : Below w.heap.size w w') : r.At w' := ⟨h.le, h.cap, h.ints.below hB⟩
def RowsAt (w : World) (a : Option Addr) (n : Nat) (r : Nat → Rw) : Prop :=
  ∀ i, i < n → ∃ b o, a = some ⟨b, o, none⟩ ∧ b < w.heap.size ∧ w.cell? ⟨b, o + i, none⟩ = some (.slice (r i).a (r i).n (r i).c) ∧ (r i).At w
theorem RowsAt.below {w w' : World} {a : Option Addr} {n : Nat} {z : Nat → Rw} (h : RowsAt w a n z) (hB : Below w.heap.size w w') : RowsAt w' a n z := by
  intro i hi
  obtain ⟨b, o, ha, hb, hc, hr⟩ := h i hi
  exact ⟨b, o, ha, Nat.lt_of_lt_of_le hb hB.size, (hB.cell (p := ⟨b, o + i, none⟩) hb).trans hc, hr.below hB⟩
structure Pl where
  ab : Option Addr
  nb : Nat
  cb : Nat
  zb : Nat → Bin
  sa : Option Addr
  ns : Nat
  cs : Nat
  zs : Nat → Int
def Pl.val (p : Pl) : Value := .agg #[.slice p.ab p.nb p.cb, .slice p.sa p.ns p.cs]
structure Pl.At (w : World) (p : Pl) : Prop where
  leb : p.nb ≤ p.cb
  capb : p.cb ≤ maxLen
  bins : BinsAt w p.ab p.nb p.zb
  les : p.ns ≤ p.cs
  caps : p.cs ≤ maxLen
  sizes : IntsAt w p.sa p.ns p.zs
theorem Pl.At.below {w w' : World} {p : Pl} (h : p.At w) (hB : Below w.heap.size w w') : p.At w' := ⟨h.leb, h.capb, h.bins.below hB, h.les, h.caps, h.sizes.below hB⟩
def planE (p : Pl) : Int :=
  if inB p.nb 1 6 && inB p.ns 1 3 then (if anyB p.nb (fun i => badBin (p.zb i)) || anyB p.ns (fun i => badSize (p.zs i)) then 3 else 0) else 2
structure Sh where
  a : Option Addr
  n : Nat
  c : Nat
  r : Nat → Rw
def Sh.val (s : Sh) : Value := .slice s.a s.n s.c
structure Sh.At (w : World) (s : Sh) : Prop where
  le : s.n ≤ s.c
  cap : s.c ≤ maxLen
  rows : RowsAt w s.a s.n s.r
theorem Sh.At.below {w w' : World} {s : Sh} (h : s.At w) (hB : Below w.heap.size w w') : s.At w' := ⟨h.le, h.cap, h.rows.below hB⟩
def badRow (p : Pl) (r : Rw) : Bool := ((r.n : Int) != (p.ns : Int)) || anyB r.n (fun i => badNum (r.z i))
def shelfE (p : Pl) (s : Sh) : Int :=
  if planE p == 0 then (if ((s.n : Int) != (p.nb : Int)) || anyB s.n (fun i => badRow p (s.r i)) then 1 else 0) else planE p
structure RightP (p : Pl) : Prop where
  nb1 : 1 ≤ p.nb
  nb6 : p.nb ≤ 6
  ns1 : 1 ≤ p.ns
  ns3 : p.ns ≤ 3
  bins : ∀ i, i < p.nb → badBin (p.zb i) = false
  sizes : ∀ i, i < p.ns → 1 ≤ p.zs i ∧ p.zs i ≤ 9
theorem rightP {p : Pl} (h : planE p = 0) : RightP p := by
  unfold planE at h
  cases h1 : (inB p.nb 1 6 && inB p.ns 1 3)
  · simp [h1] at h
  · rw [h1] at h
    simp only [if_true] at h
    cases h2 : (anyB p.nb (fun i => badBin (p.zb i)) || anyB p.ns (fun i => badSize (p.zs i)))
    · rw [Bool.and_eq_true] at h1
      have a := inB_true h1.1
      have b := inB_true h1.2
      rw [Bool.or_eq_false_iff] at h2
      refine ⟨by omega, by omega, by omega, by omega, anyB_false h2.1, fun i hi => ?_⟩
      have c := anyB_false h2.2 i hi
      simp only [badSize, Bool.not_eq_false'] at c
      exact inB_true c
    · simp [h2] at h
structure RightS (p : Pl) (s : Sh) : Prop where
  pl : RightP p
  n : s.n = p.nb
  len : ∀ i, i < s.n → (s.r i).n = p.ns
  num : ∀ i, i < s.n → ∀ j, j < p.ns → 0 ≤ (s.r i).z j ∧ (s.r i).z j ≤ 200
theorem rightS {p : Pl} {s : Sh} (h : shelfE p s = 0) : planE p = 0 ∧ RightS p s := by
  unfold shelfE at h
  by_cases h0 : planE p = 0
  · simp only [h0, beq_self_eq_true, if_true] at h
    cases h2 : (((s.n : Int) != (p.nb : Int)) || anyB s.n (fun i => badRow p (s.r i)))
    · rw [Bool.or_eq_false_iff] at h2
      obtain ⟨a, b⟩ := h2
      have hn : s.n = p.nb := by have h' : (s.n : Int) = (p.nb : Int) := (by simpa using a); omega
      have hr : ∀ i, i < s.n → (s.r i).n = p.ns ∧ ∀ j, j < (s.r i).n → badNum ((s.r i).z j) = false := by
        intro i hi
        have c := anyB_false b i hi
        simp only [badRow, Bool.or_eq_false_iff] at c
        exact ⟨by have h' : ((s.r i).n : Int) = (p.ns : Int) := (by simpa using c.1); omega, anyB_false c.2⟩
      refine ⟨h0, rightP h0, hn, fun i hi => (hr i hi).1, fun i hi j hj => ?_⟩
      have c := (hr i hi).2 j (by rw [(hr i hi).1]; exact hj)
      simp only [badNum, Bool.not_eq_false'] at c
      exact inB_true c
    · simp [h2] at h
  · simp [h0] at h
def usedTo (z zs : Nat → Int) : Nat → Int
  | 0 => 0
  | k + 1 => usedTo z zs k + z k * zs k
def sumTo (z : Nat → Int) : Nat → Int
  | 0 => 0
  | k + 1 => sumTo z k + z k
theorem mul_bd {a b : Int} (ha : 0 ≤ a ∧ a ≤ 200) (hb : 1 ≤ b ∧ b ≤ 9) : 0 ≤ a * b ∧ a * b ≤ 1800 := by
  obtain ⟨a0, a1⟩ := ha
  have : b = 1 ∨ b = 2 ∨ b = 3 ∨ b = 4 ∨ b = 5 ∨ b = 6 ∨ b = 7 ∨ b = 8 ∨ b = 9 := by omega
  rcases this with rfl | rfl | rfl | rfl | rfl | rfl | rfl | rfl | rfl <;> omega
theorem usedTo_bd {z zs : Nat → Int} {n : Nat} (h : ∀ j, j < n → (0 ≤ z j ∧ z j ≤ 200) ∧ 1 ≤ zs j ∧ zs j ≤ 9) : ∀ k, k ≤ n → 0 ≤ usedTo z zs k ∧ usedTo z zs k ≤ 1800 * k
  | 0, _ => by simp [usedTo]
  | k + 1, hk => by
    have ih := usedTo_bd h k (by omega)
    have := mul_bd (h k (by omega)).1 (h k (by omega)).2
    simp only [usedTo]
    omega
theorem sumTo_bd {z : Nat → Int} {n : Nat} (h : ∀ j, j < n → 0 ≤ z j ∧ z j ≤ 200) : ∀ k, k ≤ n → 0 ≤ sumTo z k ∧ sumTo z k ≤ 200 * k
  | 0, _ => by simp [sumTo]
  | k + 1, hk => by
    have ih := sumTo_bd h k (by omega)
    have := h k (by omega)
    simp only [sumTo]
    omega
def usedE (p : Pl) (s : Sh) (bin : Int) : Int := if shelfE p s == 0 then (if inB bin 0 ((s.n : Int) - 1) then 0 else 3) else shelfE p s
def usedV (p : Pl) (s : Sh) (bin : Int) : Int := if usedE p s bin == 0 then usedTo (s.r bin.toNat).z p.zs p.ns else 0
def sumE (p : Pl) (s : Sh) (good : Int) : Int := if shelfE p s == 0 then (if inB good 0 ((p.ns : Int) - 1) then 0 else 3) else shelfE p s
def sumV (p : Pl) (s : Sh) (good : Int) : Int := if sumE p s good == 0 then sumTo (fun i => (s.r i).z good.toNat) s.n else 0
def shelfErr (p : Pl) (s : Sh) (bin good : Int) : Int := if shelfE p s == 0 then (if inB bin 0 ((p.nb : Int) - 1) && inB good 0 ((p.ns : Int) - 1) then 0 else 3) else shelfE p s
def putE (p : Pl) (s : Sh) (bin good n : Int) : Int :=
  if shelfErr p s bin good == 0 then (if inB n (-((s.r bin.toNat).z good.toNat)) (200 - (s.r bin.toNat).z good.toNat) then 0 else 3) else shelfErr p s bin good
def putZ (s : Sh) (bin good n : Int) (i j : Nat) : Int := if i = bin.toNat ∧ j = good.toNat then (s.r i).z j + n else (s.r i).z j
def PutRes (p : Pl) (s : Sh) (bin good n : Int) (w' : World) (v : Value) : Prop :=
  if putE p s bin good n = 0 then ∃ s' : Sh, v = s'.val ∧ s'.At w' ∧ s'.n = s.n ∧ ∀ i, i < s.n → (s'.r i).n = (s.r i).n ∧ ∀ j, j < (s.r i).n → (s'.r i).z j = putZ s bin good n i j
  else v = .slice none 0 0
theorem PutRes.below {p : Pl} {s : Sh} {bin good n : Int} {w w' : World} {v : Value} (h : PutRes p s bin good n w v) (hB : Below w.heap.size w w') : PutRes p s bin good n w' v := by
  unfold PutRes at *
  split
  · rename_i h0
    rw [if_pos h0] at h
    obtain ⟨s', h1, h2, h3⟩ := h
    exact ⟨s', h1, h2.below hB, h3⟩
  · rename_i h0
    rwa [if_neg h0] at h
theorem shelfErr_eq {p : Pl} {s : Sh} {bin good : Int} (h0 : shelfE p s = 0) : shelfErr p s bin good = if inB bin 0 ((s.n : Int) - 1) && inB good 0 ((p.ns : Int) - 1) then 0 else 3 := by
  have := (rightS h0).2.n
  simp [shelfErr, h0, this]
end Go.Proofs.Ytbcacebifpagpaa
namespace Go.Proofs.Ytbcacebifpagpaa
open Go.RowKit
set_option linter.unusedVariables false
set_option maxHeartbeats 400000 in
theorem Within_any (n low high : Int) (w : World) :
    Calls Try.prog 37 #[.int .i64 n, .int .i64 low, .int .i64 high] w fun e w' => e = .returned (.bool (inB n low high)) ∧ w' = w := by
  unfold inB
  go_enter Try.func37, Try.ntmps37
  go_wp2
  all_goals go_ret
  all_goals refine ⟨?_, rfl⟩
  all_goals simp
  all_goals omega
set_option maxHeartbeats 400000 in
theorem within_any (n low high : Int) (w : World) :
    Calls Try.prog 35 #[.int .i64 n, .int .i64 low, .int .i64 high] w fun e w' => e = .returned (.bool (inB n low high)) ∧ w' = w := by
  unfold inB
  go_enter Try.func35, Try.ntmps35
  go_wp2
  all_goals go_ret
  all_goals refine ⟨?_, rfl⟩
  all_goals simp
  all_goals omega
set_option maxHeartbeats 400000 in
theorem planCheck1_any (x : Bin) (w : World) :
    Calls Try.prog 38 #[x.val] w fun e w' => e = .returned (.bool (badBin x)) ∧ Below w.heap.size w w' := by
  unfold badBin Bin.val
  go_enter Try.func38, Try.ntmps38
  go_wp2_with (go_at_call 37; refine calls_to (Within_any _ _ _ _) ?_)
  all_goals go_ret
  all_goals exact ⟨by simp [*], (Below.refl _ _).alloc (Nat.le_refl _) _⟩
set_option maxHeartbeats 400000 in
theorem planCheck2_any (x : Int) (w : World) :
    Calls Try.prog 39 #[.int .i64 x] w fun e w' => e = .returned (.bool (badSize x)) ∧ w' = w := by
  unfold badSize
  go_enter Try.func39, Try.ntmps39
  go_wp2_with (go_at_call 37; refine calls_to (Within_any _ _ _ _) ?_)
  all_goals go_ret
  all_goals exact ⟨rfl, rfl⟩
set_option maxHeartbeats 400000 in
theorem idxI (f : Nat) (caps : Array Value) (bad : Nat → Bool)  (a : Option Addr) (n c : Nat) (w : World) (hn : n ≤ c) (hc : c ≤ maxLen) (z : Nat → Int) (hz : IntsAt w a n z)
    (eg : ∀ args w, (callFunc f args).run Try.prog w = .ok (.enter f args) w)
    (hf : Hid (∀ i w1, i < n → Below w.heap.size w w1 → Calls Try.prog f (#[.int .i64 (z i)] ++ caps) w1 fun e w' => e = .returned (.bool (bad i)) ∧ Below w1.heap.size w1 w')) :
    Calls Try.prog 62 #[.slice a n c, .func (.func f) #[] caps] w fun e w' => ∃ r : Int, e = .returned (.int .i64 r) ∧ decide (0 ≤ r) = anyB n bad ∧ Below w.heap.size w w' := by
  unfold maxLen at hc
  go_enter Try.func62, Try.ntmps62
  go_wp2_with fail
  go_loopw [8] (fun i w1 => ∃ k : Nat, k ≤ n ∧ i = .int .i64 k ∧ (∀ j, j < k → bad j = false) ∧ Below w.heap.size w w1) (fun i _ => n - (intOf i).toNat)
  case atStart => exact ⟨0, Nat.zero_le _, rfl, fun j hj => absurd hj (Nat.not_lt_zero _), Below.refl _ _⟩
  case round =>
    obtain ⟨k, hk, rfl, hno, hB⟩ := hrel
    have HN : Hid (∀ j, j < k → bad j = false) := hno
    clear hno
    by_cases hlt : k < n
    · obtain ⟨b, o, rfl, _, hcell⟩ := (hz.below hB) k hlt
      clear hz
      go_wp2_with fail
      refine (hf.out k wr hlt hB).mono ?_
      rintro e w1 ⟨rfl, hB1⟩
      have hB2 := hB.trans (hB1.mono hB.size)
      cases hbad : bad k
      · go_wp2_with fail
        go_roundw
        case rel =>
          refine ⟨k + 1, by omega, by go_num, ?_, hB2⟩
          intro j hj
          by_cases hjk : j = k
          · rw [hjk, hbad]
          · exact HN.out j (by omega)
        case measure => simp [intOf]; omega
      · go_wp2_with fail
        go_ret
        exact ⟨_, rfl, by rw [anyB_yes hlt hbad]; simp, hB2⟩
    · go_wp2_with fail
      go_ret
      have hkn : k = n := by omega
      subst hkn
      exact ⟨_, rfl, by rw [anyB_no HN.out]; decide, hB⟩
set_option maxHeartbeats 400000 in
theorem idxR (f : Nat) (caps : Array Value) (bad : Nat → Bool)  (a : Option Addr) (n c : Nat) (w : World) (hn : n ≤ c) (hc : c ≤ maxLen) (r : Nat → Rw) (hz : RowsAt w a n r)
    (eg : ∀ args w, (callFunc f args).run Try.prog w = .ok (.enter f args) w)
    (hf : Hid (∀ i w1, i < n → Below w.heap.size w w1 → Calls Try.prog f (#[.slice (r i).a (r i).n (r i).c] ++ caps) w1 fun e w' => e = .returned (.bool (bad i)) ∧ Below w1.heap.size w1 w')) :
    Calls Try.prog 63 #[.slice a n c, .func (.func f) #[] caps] w fun e w' => ∃ r : Int, e = .returned (.int .i64 r) ∧ decide (0 ≤ r) = anyB n bad ∧ Below w.heap.size w w' := by
  unfold maxLen at hc
  go_enter Try.func63, Try.ntmps63
  go_wp2_with fail
  go_loopw [8] (fun i w1 => ∃ k : Nat, k ≤ n ∧ i = .int .i64 k ∧ (∀ j, j < k → bad j = false) ∧ Below w.heap.size w w1) (fun i _ => n - (intOf i).toNat)
  case atStart => exact ⟨0, Nat.zero_le _, rfl, fun j hj => absurd hj (Nat.not_lt_zero _), Below.refl _ _⟩
  case round =>
    obtain ⟨k, hk, rfl, hno, hB⟩ := hrel
    have HN : Hid (∀ j, j < k → bad j = false) := hno
    clear hno
    by_cases hlt : k < n
    · obtain ⟨b, o, rfl, _, hcell, _⟩ := (hz.below hB) k hlt
      clear hz
      go_wp2_with fail
      refine (hf.out k wr hlt hB).mono ?_
      rintro e w1 ⟨rfl, hB1⟩
      have hB2 := hB.trans (hB1.mono hB.size)
      cases hbad : bad k
      · go_wp2_with fail
        go_roundw
        case rel =>
          refine ⟨k + 1, by omega, by go_num, ?_, hB2⟩
          intro j hj
          by_cases hjk : j = k
          · rw [hjk, hbad]
          · exact HN.out j (by omega)
        case measure => simp [intOf]; omega
      · go_wp2_with fail
        go_ret
        exact ⟨_, rfl, by rw [anyB_yes hlt hbad]; simp, hB2⟩
    · go_wp2_with fail
      go_ret
      have hkn : k = n := by omega
      subst hkn
      exact ⟨_, rfl, by rw [anyB_no HN.out]; decide, hB⟩
set_option maxHeartbeats 400000 in
theorem idxB (f : Nat) (caps : Array Value) (bad : Nat → Bool)  (a : Option Addr) (n c : Nat) (w : World) (hn : n ≤ c) (hc : c ≤ maxLen) (z : Nat → Bin) (hz : BinsAt w a n z)
    (eg : ∀ args w, (callFunc f args).run Try.prog w = .ok (.enter f args) w)
    (hf : Hid (∀ i w1, i < n → Below w.heap.size w w1 → Calls Try.prog f (#[(z i).val] ++ caps) w1 fun e w' => e = .returned (.bool (bad i)) ∧ Below w1.heap.size w1 w')) :
    Calls Try.prog 61 #[.slice a n c, .func (.func f) #[] caps] w fun e w' => ∃ r : Int, e = .returned (.int .i64 r) ∧ decide (0 ≤ r) = anyB n bad ∧ Below w.heap.size w w' := by
  unfold maxLen at hc
  go_enter Try.func61, Try.ntmps61
  go_wp2_with fail
  go_loopw [8] (fun i w1 => ∃ k : Nat, k ≤ n ∧ i = .int .i64 k ∧ (∀ j, j < k → bad j = false) ∧ Below w.heap.size w w1) (fun i _ => n - (intOf i).toNat)
  case atStart => exact ⟨0, Nat.zero_le _, rfl, fun j hj => absurd hj (Nat.not_lt_zero _), Below.refl _ _⟩
  case round =>
    obtain ⟨k, hk, rfl, hno, hB⟩ := hrel
    have HN : Hid (∀ j, j < k → bad j = false) := hno
    clear hno
    by_cases hlt : k < n
    · obtain ⟨b, o, rfl, _, hcell0, hcell1, hcell2, hcell3⟩ := (hz.below hB) k hlt
      clear hz
      go_wp2_with fail
      refine (hf.out k wr hlt hB).mono ?_
      rintro e w1 ⟨rfl, hB1⟩
      have hB2 := hB.trans (hB1.mono hB.size)
      cases hbad : bad k
      · go_wp2_with fail
        go_roundw
        case rel =>
          refine ⟨k + 1, by omega, by go_num, ?_, hB2⟩
          intro j hj
          by_cases hjk : j = k
          · rw [hjk, hbad]
          · exact HN.out j (by omega)
        case measure => simp [intOf]; omega
      · go_wp2_with fail
        go_ret
        exact ⟨_, rfl, by rw [anyB_yes hlt hbad]; simp, hB2⟩
    · go_wp2_with fail
      go_ret
      have hkn : k = n := by omega
      subst hkn
      exact ⟨_, rfl, by rw [anyB_no HN.out]; decide, hB⟩
set_option maxHeartbeats 400000 in
theorem anyI (f : Nat) (caps : Array Value) (bad : Nat → Bool) (a : Option Addr) (n c : Nat) (w : World) (hn : n ≤ c) (hc : c ≤ maxLen) (z : Nat → Int) (hz : IntsAt w a n z)
    (eg : ∀ args w, (callFunc f args).run Try.prog w = .ok (.enter f args) w)
    (hf : Hid (∀ i w1, i < n → Below w.heap.size w w1 → Calls Try.prog f (#[.int .i64 (z i)] ++ caps) w1 fun e w' => e = .returned (.bool (bad i)) ∧ Below w1.heap.size w1 w')) :
    Calls Try.prog 41 #[.slice a n c, .func (.func f) #[] caps] w fun e w' => e = .returned (.bool (anyB n bad)) ∧ Below w.heap.size w w' := by
  have hc0 := hc
  unfold maxLen at hc
  go_enter Try.func41, Try.ntmps41
  go_wp2_with fail
  refine (idxI f caps bad a n c w hn hc0 z hz eg hf).mono ?_
  rintro e w1 ⟨r, rfl, hr, hB⟩
  have HR : Hid (decide (0 ≤ r) = anyB n bad) := hr
  clear hr
  go_wp2_with fail
  go_ret
  exact ⟨by rw [← HR.out]; rfl, hB⟩
set_option maxHeartbeats 400000 in
theorem anyR (f : Nat) (caps : Array Value) (bad : Nat → Bool) (a : Option Addr) (n c : Nat) (w : World) (hn : n ≤ c) (hc : c ≤ maxLen) (r : Nat → Rw) (hz : RowsAt w a n r)
    (eg : ∀ args w, (callFunc f args).run Try.prog w = .ok (.enter f args) w)
    (hf : Hid (∀ i w1, i < n → Below w.heap.size w w1 → Calls Try.prog f (#[.slice (r i).a (r i).n (r i).c] ++ caps) w1 fun e w' => e = .returned (.bool (bad i)) ∧ Below w1.heap.size w1 w')) :
    Calls Try.prog 47 #[.slice a n c, .func (.func f) #[] caps] w fun e w' => e = .returned (.bool (anyB n bad)) ∧ Below w.heap.size w w' := by
  have hc0 := hc
  unfold maxLen at hc
  go_enter Try.func47, Try.ntmps47
  go_wp2_with fail
  refine (idxR f caps bad a n c w hn hc0 r hz eg hf).mono ?_
  rintro e w1 ⟨r, rfl, hr, hB⟩
  have HR : Hid (decide (0 ≤ r) = anyB n bad) := hr
  clear hr
  go_wp2_with fail
  go_ret
  exact ⟨by rw [← HR.out]; rfl, hB⟩
set_option maxHeartbeats 400000 in
theorem anyBin (f : Nat) (caps : Array Value) (bad : Nat → Bool) (a : Option Addr) (n c : Nat) (w : World) (hn : n ≤ c) (hc : c ≤ maxLen) (z : Nat → Bin) (hz : BinsAt w a n z)
    (eg : ∀ args w, (callFunc f args).run Try.prog w = .ok (.enter f args) w)
    (hf : Hid (∀ i w1, i < n → Below w.heap.size w w1 → Calls Try.prog f (#[(z i).val] ++ caps) w1 fun e w' => e = .returned (.bool (bad i)) ∧ Below w1.heap.size w1 w')) :
    Calls Try.prog 40 #[.slice a n c, .func (.func f) #[] caps] w fun e w' => e = .returned (.bool (anyB n bad)) ∧ Below w.heap.size w w' := by
  have hc0 := hc
  unfold maxLen at hc
  go_enter Try.func40, Try.ntmps40
  go_wp2_with fail
  refine (idxB f caps bad a n c w hn hc0 z hz eg hf).mono ?_
  rintro e w1 ⟨r, rfl, hr, hB⟩
  have HR : Hid (decide (0 ≤ r) = anyB n bad) := hr
  clear hr
  go_wp2_with fail
  go_ret
  exact ⟨by rw [← HR.out]; rfl, hB⟩
end Go.Proofs.Ytbcacebifpagpaa
namespace Go.Proofs.Ytbcacebifpagpaa
open Go.RowKit Go.Shelf
set_option linter.unusedVariables false
theorem bcell {W w1 : World} (hb : Below W.heap.size W w1) : (∀ b o, b < W.heap.size → w1.cell? ⟨b, o, none⟩ = W.cell? ⟨b, o, none⟩) ∧ (∀ b o, b < W.heap.size → w1.frozen? ⟨b, o, none⟩ = W.frozen? ⟨b, o, none⟩) :=
  ⟨fun b o h => hb.cell (p := ⟨b, o, none⟩) h, fun b o h => hb.frozen (p := ⟨b, o, none⟩) h⟩
set_option maxHeartbeats 400000 in
theorem planCheck_any (p : Pl) (w : World) (hp : p.At w) :
    Calls Try.prog 13 #[p.val] w fun e w' => e = .returned (.int .i64 (planE p)) ∧ Below w.heap.size w w' := by
  obtain ⟨leb, capb, bins, les, caps, sizes⟩ := hp
  have capb0 := capb
  have caps0 := caps
  unfold Pl.val
  unfold maxLen at capb caps
  have b1 := bins.below ((Below.refl w.heap.size w).alloc (Nat.le_refl _) (.cells #[.slice p.ab p.nb p.cb, .slice p.sa p.ns p.cs] 25))
  cases h1 : inB p.nb 1 6
  · go_enter Try.func13, Try.ntmps13
    go_wp2_with (go_at_call 37; refine calls_to (Within_any _ _ _ _) ?_)
    go_ret
    exact ⟨by simp [planE, h1], (Below.refl _ _).alloc (Nat.le_refl _) _⟩
  cases h2 : inB p.ns 1 3
  · go_enter Try.func13, Try.ntmps13
    go_wp2_with (go_at_call 37; refine calls_to (Within_any _ _ _ _) ?_)
    go_ret
    exact ⟨by simp [planE, h2], (Below.refl _ _).alloc (Nat.le_refl _) _⟩
  go_enter Try.func13, Try.ntmps13
  go_wp2_with (go_at_call 37; refine calls_to (Within_any _ _ _ _) ?_)
  refine (anyBin 38 #[] (fun i => badBin (p.zb i)) _ _ _ _ leb capb0 p.zb b1 (enters_of Try.func38 (by kernel_rfl) rfl) (fun i w1 _ _ => by rw [Array.append_empty]; exact planCheck1_any _ _)).mono ?_
  rintro e w1 ⟨rfl, hB⟩
  obtain ⟨hc, hfz⟩ := bcell hB
  have hB0 : Below w.heap.size w w1 := ((Below.refl w.heap.size w).alloc (Nat.le_refl _) _).trans (hB.mono (by simp))
  have s1 := sizes.below hB0
  cases h3 : anyB p.nb (fun i => badBin (p.zb i))
  · go_wp2_with fail
    refine (anyI 39 #[] (fun i => badSize (p.zs i)) _ _ _ _ les caps0 p.zs s1 (enters_of Try.func39 (by kernel_rfl) rfl) (fun i w2 _ _ => by rw [Array.append_empty]; exact (planCheck2_any _ _).mono fun _ _ h => ⟨h.1, h.2 ▸ Below.refl _ _⟩)).mono ?_
    rintro e w2 ⟨rfl, hB2⟩
    have hB3 := hB0.trans (hB2.mono hB0.size)
    cases h4 : anyB p.ns (fun i => badSize (p.zs i))
    · go_wp2_with fail
      go_ret
      exact ⟨by simp [planE, h1, h2, h3, h4], hB3⟩
    · go_wp2_with fail
      go_ret
      exact ⟨by simp [planE, h1, h2, h4], hB3⟩
  · go_wp2_with fail
    go_ret
    exact ⟨by simp [planE, h1, h2, h3], hB0⟩
set_option maxHeartbeats 1000000 in
theorem refCheckPlan_any (p : Pl) (w : World) (hp : p.At w) :
    Calls Try.prog 10 #[p.val] w fun e w' => e = .returned (.int .i64 (planE p)) ∧ Below w.heap.size w w' := by
  obtain ⟨ab, nb, cb, zb, sa, ns, cs, zs⟩ := p
  obtain ⟨leb, capb, bins, les, caps, sizes⟩ := hp
  dsimp only at leb capb bins les caps sizes
  simp only [Pl.val]
  unfold maxLen at capb caps
  cases h1 : inB nb 1 6
  · go_enter Try.func10, Try.ntmps10
    go_wp2_with (go_at_call 35; refine calls_to (within_any _ _ _ _) ?_)
    go_ret
    exact ⟨by simp [planE, h1], (Below.refl _ _).alloc (Nat.le_refl _) _⟩
  cases h2 : inB ns 1 3
  · go_enter Try.func10, Try.ntmps10
    go_wp2_with (go_at_call 35; refine calls_to (within_any _ _ _ _) ?_)
    go_ret
    exact ⟨by simp [planE, h2], (Below.refl _ _).alloc (Nat.le_refl _) _⟩
  have H12 : Hid (inB nb 1 6 = true ∧ inB ns 1 3 = true) := ⟨h1, h2⟩
  go_enter Try.func10, Try.ntmps10
  go_wp2_with (go_at_call 35; refine calls_to (within_any _ _ _ _) ?_)
  clear h1 h2
  go_loopw [3] (fun i w1 => ∃ k : Nat, k ≤ nb ∧ i = .int .i64 k ∧ (∀ j, j < k → badBin (zb j) = false) ∧ Below (w.heap.size + 1) (w.alloc (.cells #[.slice ab nb cb, .slice sa ns cs] 25)) w1) (fun i _ => nb - (intOf i).toNat)
  case atStart => exact ⟨0, Nat.zero_le _, rfl, fun j hj => absurd hj (Nat.not_lt_zero _), Below.refl _ _⟩
  case round =>
    obtain ⟨k, hk, rfl, hno, hB⟩ := hrel
    have HN : Hid (∀ j, j < k → badBin (zb j) = false) := hno
    clear hno
    have hB' : Below w.heap.size w wr := ((Below.refl w.heap.size w).alloc (Nat.le_refl _) _).trans (hB.mono (by omega))
    have hs : w.heap.size + 1 ≤ wr.heap.size := by have := hB.size; simpa using this
    have c0 : wr.cell? ⟨w.heap.size, 0, none⟩ = some (.slice ab nb cb) := (hB.cell (p := ⟨w.heap.size, 0, none⟩) (by simp)).trans (by simp)
    have c1 : wr.cell? ⟨w.heap.size, 1, none⟩ = some (.slice sa ns cs) := (hB.cell (p := ⟨w.heap.size, 1, none⟩) (by simp)).trans (by simp)
    by_cases hlt : k < nb
    · obtain ⟨b, o, rfl, hb, z0, z1, z2, z3⟩ := (bins.below hB') k hlt
      have HB := badBin_eq (zb k)
      cases hbad : badBin (zb k)
      · rw [hbad] at HB
        have hh : inB (zb k).room 0 1000 = true ∧ inB (zb k).high 0 200 = true ∧ inB (zb k).low 0 (zb k).high = true := by simpa [and_assoc] using HB.symm
        obtain ⟨i1, i2, i3⟩ := hh
        clear HB
        go_wp2_with (go_at_call 35; refine calls_to (within_any _ _ _ _) ?_)
        go_roundw
        case rel =>
          refine ⟨k + 1, by omega, by go_num, ?_, hB.alloc (by simpa using hs) _⟩
          intro j hj
          by_cases hjk : j = k
          · rw [hjk, hbad]
          · exact HN.out j (by omega)
        case measure => simp [intOf]; omega
      · rw [hbad] at HB
        have h3 : Hid (anyB nb (fun i => badBin (zb i)) = true) := anyB_yes hlt hbad
        cases i1 : inB (zb k).room 0 1000
        · clear HB
          go_wp2_with (go_at_call 35; refine calls_to (within_any _ _ _ _) ?_)
          go_ret
          exact ⟨by simp [planE, H12.out.1, H12.out.2, h3.out], hB'.alloc (by omega) _⟩
        · cases i2 : inB (zb k).high 0 200
          · clear HB
            go_wp2_with (go_at_call 35; refine calls_to (within_any _ _ _ _) ?_)
            go_ret
            exact ⟨by simp [planE, H12.out.1, H12.out.2, h3.out], hB'.alloc (by omega) _⟩
          · have i3 : inB (zb k).low 0 (zb k).high = false := by simpa [i1, i2] using HB.symm
            clear HB
            go_wp2_with (go_at_call 35; refine calls_to (within_any _ _ _ _) ?_)
            go_ret
            exact ⟨by simp [planE, H12.out.1, H12.out.2, h3.out], hB'.alloc (by omega) _⟩
    · go_wp2_with fail
      have h3 : anyB nb (fun i => badBin (zb i)) = false := anyB_no fun j hj => HN.out j (by omega)
      have H3 : Hid (anyB nb (fun i => badBin (zb i)) = false) := h3
      clear h3 hlt HN bins
      go_loopw [5] (fun i w1 => ∃ k : Nat, k ≤ ns ∧ i = .int .i64 k ∧ (∀ j, j < k → badSize (zs j) = false) ∧ Below (w.heap.size + 1) (w.alloc (.cells #[.slice ab nb cb, .slice sa ns cs] 25)) w1) (fun i _ => ns - (intOf i).toNat)
      case atStart => exact ⟨0, Nat.zero_le _, rfl, fun j hj => absurd hj (Nat.not_lt_zero _), hB⟩
      case round =>
        clear hB hB' hs c0 c1
        obtain ⟨k, hk, rfl, hno, hB⟩ := hrel
        have HN : Hid (∀ j, j < k → badSize (zs j) = false) := hno
        clear hno
        have hB' : Below w.heap.size w wr := ((Below.refl w.heap.size w).alloc (Nat.le_refl _) _).trans (hB.mono (by omega))
        have c1 : wr.cell? ⟨w.heap.size, 1, none⟩ = some (.slice sa ns cs) := (hB.cell (p := ⟨w.heap.size, 1, none⟩) (by simp)).trans (by simp)
        by_cases hlt : k < ns
        · obtain ⟨b, o, rfl, hb, z0⟩ := (sizes.below hB') k hlt
          cases i1 : inB (zs k) 1 9
          · have h4 : Hid (anyB ns (fun i => badSize (zs i)) = true) := anyB_yes hlt (by simp [badSize, i1])
            go_wp2_with (go_at_call 35; refine calls_to (within_any _ _ _ _) ?_)
            go_ret
            exact ⟨by simp [planE, H12.out.1, H12.out.2, h4.out], hB'⟩
          · have hbad : Hid (badSize (zs k) = false) := by show badSize (zs k) = false; simp [badSize, i1]
            go_wp2_with (go_at_call 35; refine calls_to (within_any _ _ _ _) ?_)
            go_roundw
            case rel =>
              refine ⟨k + 1, by omega, by go_num, ?_, hB⟩
              intro j hj
              by_cases hjk : j = k
              · rw [hjk, hbad.out]
              · exact HN.out j (by omega)
            case measure => simp [intOf]; omega
        · go_wp2_with fail
          go_ret
          have h4 : anyB ns (fun i => badSize (zs i)) = false := anyB_no fun j hj => HN.out j (by omega)
          exact ⟨by simp [planE, H12.out.1, H12.out.2, H3.out, h4], hB'⟩
end Go.Proofs.Ytbcacebifpagpaa
namespace Go.Proofs.Ytbcacebifpagpaa
open Go.RowKit Go.Shelf
set_option linter.unusedVariables false
set_option maxHeartbeats 400000 in
theorem shelfCheck1_any (x : Int) (w : World) :
    Calls Try.prog 45 #[.int .i64 x] w fun e w' => e = .returned (.bool (badNum x)) ∧ w' = w := by
  unfold badNum
  go_enter Try.func45, Try.ntmps45
  go_wp2_with (go_at_call 37; refine calls_to (Within_any _ _ _ _) ?_)
  all_goals go_ret
  all_goals exact ⟨rfl, rfl⟩
set_option maxHeartbeats 400000 in
theorem shelfCheck2_any (B B2 : Nat) (p : Pl) (r : Rw) (w : World) (hr : r.At w) (les : p.ns ≤ p.cs) (caps : p.cs ≤ maxLen)
    (c1 : w.cell? ⟨B, 1, none⟩ = some (.slice p.sa p.ns p.cs)) (c2 : w.cell? ⟨B2, 0, none⟩ = some (.func (.func 45) #[] #[])) :
    Calls Try.prog 46 #[.slice r.a r.n r.c, .pointer (some ⟨B, 0, none⟩), .pointer (some ⟨B2, 0, none⟩)] w fun e w' => e = .returned (.bool (badRow p r)) ∧ Below w.heap.size w w' := by
  obtain ⟨rle, rcap, ints⟩ := hr
  have rcap0 := rcap
  unfold maxLen at rcap caps
  cases h1 : ((r.n : Int) != (p.ns : Int))
  · go_enter Try.func46, Try.ntmps46
    go_wp2_with fail
    refine (anyI 45 #[] (fun i => badNum (r.z i)) _ _ _ _ rle rcap0 r.z ints (enters_of Try.func45 (by kernel_rfl) rfl) (fun i w1 _ _ => by rw [Array.append_empty]; exact (shelfCheck1_any _ _).mono fun _ _ h => ⟨h.1, h.2 ▸ Below.refl _ _⟩)).mono ?_
    rintro e w1 ⟨rfl, hB⟩
    go_wp2_with fail
    go_ret
    exact ⟨by simp [badRow, h1], hB⟩
  · go_enter Try.func46, Try.ntmps46
    go_wp2_with fail
    go_ret
    exact ⟨by simp [badRow, h1], Below.refl _ _⟩
set_option maxHeartbeats 400000 in
theorem shelfCheck_any (p : Pl) (s : Sh) (w : World) (hp : p.At w) (hs : s.At w) :
    Calls Try.prog 21 #[p.val, s.val] w fun e w' => e = .returned (.int .i64 (shelfE p s)) ∧ Below w.heap.size w w' := by
  obtain ⟨sle, scap, rows⟩ := hs
  have scap0 := scap
  unfold maxLen at scap
  have leb := hp.leb
  have capb := hp.capb
  unfold maxLen at capb
  have hB0 : Below w.heap.size w (w.alloc (.cells #[.slice p.ab p.nb p.cb, .slice p.sa p.ns p.cs] 25)) := (Below.refl w.heap.size w).alloc (Nat.le_refl _) _
  simp only [Pl.val, Sh.val]
  go_enter Try.func21, Try.ntmps21
  go_wp2_with fail
  refine (planCheck_any p _ (hp.below hB0)).mono ?_
  rintro e w1 ⟨rfl, hB⟩
  have hBw := hB0.trans (hB.mono (by simp))
  have hsz : w.heap.size < w1.heap.size := by have := hB.size; simp at this; omega
  have c0 : w1.cell? ⟨w.heap.size, 0, none⟩ = some (.slice p.ab p.nb p.cb) := (hB.cell (p := ⟨w.heap.size, 0, none⟩) (by simp)).trans (by simp)
  have c1 : w1.cell? ⟨w.heap.size, 1, none⟩ = some (.slice p.sa p.ns p.cs) := (hB.cell (p := ⟨w.heap.size, 1, none⟩) (by simp)).trans (by simp)
  by_cases h0 : planE p = 0
  · cases h1 : ((s.n : Int) != (p.nb : Int))
    · go_wp2_with fail
      have hBa := hBw.alloc (by omega) (.cells #[Value.func (Fn.func 45) #[] #[]] 63)
      have hrow := rows.below hBa
      refine (anyR 46 #[.pointer (some ⟨w.heap.size, 0, none⟩), .pointer (some ⟨w1.heap.size, 0, none⟩)] (fun i => badRow p (s.r i)) _ _ _ _ sle scap0 s.r hrow (enters_of Try.func46 (by kernel_rfl) rfl) ?_).mono ?_
      · intro i w2 hi hB2
        obtain ⟨_, _, _, _, _, hat⟩ := (hrow.below hB2) i hi
        have d1 : w2.cell? ⟨w.heap.size, 1, none⟩ = some (.slice p.sa p.ns p.cs) := (hB2.cell (p := ⟨w.heap.size, 1, none⟩) (by simp; omega)).trans (by simp [World.cell?_alloc_past, hsz, c1])
        have d2 : w2.cell? ⟨w1.heap.size, 0, none⟩ = some (.func (.func 45) #[] #[]) := (hB2.cell (p := ⟨w1.heap.size, 0, none⟩) (by simp)).trans (by simp)
        exact shelfCheck2_any _ _ p (s.r i) w2 hat hp.les hp.caps d1 d2
      rintro e w2 ⟨rfl, hB2⟩
      have hBz := hBa.trans (hB2.mono (by simp; omega))
      cases h2 : anyB s.n (fun i => badRow p (s.r i))
      · go_wp2_with fail
        go_ret
        exact ⟨by simp [shelfE, h0, h1, h2], hBz⟩
      · go_wp2_with fail
        go_ret
        exact ⟨by simp [shelfE, h0, h2], hBz⟩
    · go_wp2_with fail
      go_ret
      exact ⟨by simp [shelfE, h0, h1], hBw.alloc (by omega) _⟩
  · go_wp2_with fail
    go_ret
    exact ⟨by simp [shelfE, h0], hBw⟩
end Go.Proofs.Ytbcacebifpagpaa
namespace Go.Proofs.Ytbcacebifpagpaa
open Go.RowKit Go.Shelf
set_option linter.unusedVariables false
set_option maxHeartbeats 1000000 in
theorem refCheckShelf_any (p : Pl) (s : Sh) (w : World) (hp : p.At w) (hs : s.At w) :
    Calls Try.prog 22 #[p.val, s.val] w fun e w' => e = .returned (.int .i64 (shelfE p s)) ∧ Below w.heap.size w w' := by
  obtain ⟨sa, sn, sc, sr⟩ := s
  obtain ⟨sle, scap, rows⟩ := hs
  dsimp only at sle scap rows
  unfold maxLen at scap
  have leb := hp.leb
  have capb := hp.capb
  have les := hp.les
  have caps := hp.caps
  unfold maxLen at capb caps
  have hB0 : Below w.heap.size w (w.alloc (.cells #[.slice p.ab p.nb p.cb, .slice p.sa p.ns p.cs] 25)) := (Below.refl w.heap.size w).alloc (Nat.le_refl _) _
  simp only [Pl.val, Sh.val]
  go_enter Try.func22, Try.ntmps22
  go_wp2_with fail
  refine (refCheckPlan_any p _ (hp.below hB0)).mono ?_
  rintro e w1 ⟨rfl, hB⟩
  have hBw := hB0.trans (hB.mono (by simp))
  have hsz : w.heap.size < w1.heap.size := by have := hB.size; simp at this; omega
  have c0 : w1.cell? ⟨w.heap.size, 0, none⟩ = some (.slice p.ab p.nb p.cb) := (hB.cell (p := ⟨w.heap.size, 0, none⟩) (by simp)).trans (by simp)
  have c1 : w1.cell? ⟨w.heap.size, 1, none⟩ = some (.slice p.sa p.ns p.cs) := (hB.cell (p := ⟨w.heap.size, 1, none⟩) (by simp)).trans (by simp)
  have rows1 := rows.below hBw
  clear hB hB0 rows hp
  by_cases h0 : planE p = 0
  · cases h1 : ((sn : Int) != (p.nb : Int))
    · have H01 : Hid (planE p = 0 ∧ ((sn : Int) != (p.nb : Int)) = false) := ⟨h0, h1⟩
      go_wp2_with fail
      clear h0 h1
      go_loopw [6] (fun i wk => ∃ k : Nat, k ≤ sn ∧ i = .int .i64 k ∧ (∀ j, j < k → badRow p (sr j) = false) ∧ Below w1.heap.size w1 wk) (fun i _ => sn - (intOf i).toNat)
      case atStart => exact ⟨0, Nat.zero_le _, rfl, fun j hj => absurd hj (Nat.not_lt_zero _), Below.refl _ _⟩
      case round =>
        obtain ⟨k, hk, rfl, hno, hB1⟩ := hrel
        have HN : Hid (∀ j, j < k → badRow p (sr j) = false) := hno
        have d1 : wr.cell? ⟨w.heap.size, 1, none⟩ = some (.slice p.sa p.ns p.cs) := (hB1.cell (p := ⟨w.heap.size, 1, none⟩) hsz).trans c1
        clear hno
        by_cases hlt : k < sn
        · obtain ⟨b, o, rfl, hb, z0, hat⟩ := rows1 k hlt
          obtain ⟨rle, rcap, ints⟩ := hat
          unfold maxLen at rcap
          obtain ⟨R, hR⟩ : ∃ R, R = sr k := ⟨_, rfl⟩
          rw [← hR] at z0 rle rcap ints
          have HR : Hid (R = sr k) := hR
          obtain ⟨ra, rn, rc, rz⟩ := R
          dsimp only at z0 rle rcap ints
          have z1 := (hB1.cell (p := ⟨b, o + k, none⟩) hb).trans z0
          have Z0 : Hid (w1.cell? ⟨b, o + k, none⟩ = some (.slice ra rn rc)) := z0
          clear z0 hR
          cases h2 : ((rn : Int) != (p.ns : Int))
          · have H2 : Hid (((rn : Int) != (p.ns : Int)) = false) := h2
            go_wp2_with fail
            go_quiet (fail)
            go_wp2_with fail
            have hB2 := below_drewN hB1 nq
            clear h2
            go_loopw [7] (fun i wk => ∃ g : Nat, g ≤ rn ∧ i = .int .i64 g ∧ (∀ j, j < g → badNum (rz j) = false) ∧ Below w1.heap.size w1 wk) (fun i _ => rn - (intOf i).toNat)
            case atStart => exact ⟨0, Nat.zero_le _, rfl, fun j hj => absurd hj (Nat.not_lt_zero _), hB2⟩
            case round =>
              clear hB1 hB2 z1 d1
              obtain ⟨g, hg, rfl, hno, hB1⟩ := hrel
              have HM : Hid (∀ j, j < g → badNum (rz j) = false) := hno
              clear hno
              have z2 := (hB1.cell (p := ⟨b, o + k, none⟩) hb).trans Z0.out
              by_cases hgt : g < rn
              · obtain ⟨b', o', rfl, hb', y0⟩ := ints g hgt
                have y1 := (hB1.cell (p := ⟨b', o' + g, none⟩) hb').trans y0
                clear y0
                cases i1 : inB (rz g) 0 200
                · have hh : Hid (badNum (rz g) = true) := by show badNum (rz g) = true; simp [badNum, i1]
                  go_wp2_with (go_at_call 35; refine calls_to (within_any _ _ _ _) ?_)
                  go_ret
                  have h3 : anyB sn (fun i => badRow p (sr i)) = true := anyB_yes hlt (by rw [← HR.out]; simp [badRow, anyB_yes (bad := fun i => badNum (rz i)) hgt hh.out])
                  exact ⟨by simp [shelfE, H01.out.1, H01.out.2, h3], hBw.trans (hB1.mono hBw.size)⟩
                · have hh : Hid (badNum (rz g) = false) := by show badNum (rz g) = false; simp [badNum, i1]
                  go_wp2_with (go_at_call 35; refine calls_to (within_any _ _ _ _) ?_)
                  go_roundw
                  case rel =>
                    refine ⟨g + 1, by omega, by go_num, ?_, hB1⟩
                    intro j hj
                    by_cases hjk : j = g
                    · rw [hjk, hh.out]
                    · exact HM.out j (by omega)
                  case measure => simp [intOf]; omega
              · have hh : Hid (badRow p (sr k) = false) := by
                  show badRow p (sr k) = false
                  rw [← HR.out]
                  simp [badRow, H2.out, anyB_no (n := rn) (bad := fun i => badNum (rz i)) fun j hj => HM.out j (by omega)]
                go_wp2_with fail
                go_roundw
                case rel =>
                  refine ⟨k + 1, by omega, by go_num, ?_, hB1⟩
                  intro j hj
                  by_cases hjk : j = k
                  · rw [hjk, hh.out]
                  · exact HN.out j (by omega)
                case measure => simp [intOf]; omega
          · go_wp2_with fail
            go_quiet (fail)
            go_wp2_with fail
            go_ret
            have h3 : anyB sn (fun i => badRow p (sr i)) = true := anyB_yes hlt (by rw [← HR.out]; simp [badRow, h2])
            exact ⟨by simp [shelfE, H01.out.1, H01.out.2, h3], below_drewN (hBw.trans (hB1.mono hBw.size)) _⟩
        · go_wp2_with fail
          go_ret
          have h3 : anyB sn (fun i => badRow p (sr i)) = false := anyB_no fun j hj => HN.out j (by omega)
          exact ⟨by simp [shelfE, H01.out.1, H01.out.2, h3], hBw.trans (hB1.mono hBw.size)⟩
    · go_wp2_with fail
      go_ret
      exact ⟨by simp [shelfE, h0, h1], hBw⟩
  · go_wp2_with fail
    go_ret
    exact ⟨by simp [shelfE, h0], hBw⟩
end Go.Proofs.Ytbcacebifpagpaa
namespace Go.Proofs.Ytbcacebifpagpaa
open Go.RowKit Go.Shelf
set_option linter.unusedVariables false
set_option maxHeartbeats 400000 in
theorem Has_any (n : Nat) (k : Int) (w : World) (hn : n ≤ maxLen) :
    Calls Try.prog 42 #[.int .i64 n, .int .i64 k] w fun e w' => e = .returned (.bool (inB k 0 ((n : Int) - 1))) ∧ w' = w := by
  unfold maxLen at hn
  go_enter Try.func42, Try.ntmps42
  go_wp2_with (go_at_call 37; refine calls_to (Within_any _ _ _ _) ?_)
  go_ret
  exact ⟨rfl, rfl⟩
set_option maxHeartbeats 400000 in
theorem isBin_any (p : Pl) (k : Int) (w : World) (h1 : p.nb ≤ p.cb) (h2 : p.cb ≤ maxLen) :
    Calls Try.prog 43 #[p.val, .int .i64 k] w fun e w' => e = .returned (.bool (inB k 0 ((p.nb : Int) - 1))) ∧ Below w.heap.size w w' := by
  unfold maxLen at h2
  simp only [Pl.val]
  go_enter Try.func43, Try.ntmps43
  go_wp2_with (go_at_call 35; refine calls_to (within_any _ _ _ _) ?_)
  go_ret
  exact ⟨rfl, (Below.refl _ _).alloc (Nat.le_refl _) _⟩
set_option maxHeartbeats 400000 in
theorem isGood_any (p : Pl) (k : Int) (w : World) (h1 : p.ns ≤ p.cs) (h2 : p.cs ≤ maxLen) :
    Calls Try.prog 44 #[p.val, .int .i64 k] w fun e w' => e = .returned (.bool (inB k 0 ((p.ns : Int) - 1))) ∧ Below w.heap.size w w' := by
  unfold maxLen at h2
  simp only [Pl.val]
  go_enter Try.func44, Try.ntmps44
  go_wp2_with (go_at_call 35; refine calls_to (within_any _ _ _ _) ?_)
  go_ret
  exact ⟨rfl, (Below.refl _ _).alloc (Nat.le_refl _) _⟩
set_option maxHeartbeats 1000000 in
theorem ShelfError_any (p : Pl) (s : Sh) (bin good : Int) (w : World) (hp : p.At w) (hs : s.At w) :
    Calls Try.prog 17 #[p.val, s.val, .int .i64 bin, .int .i64 good] w fun e w' => e = .returned (.int .i64 (shelfErr p s bin good)) ∧ Below w.heap.size w w' := by
  have hB0 : Below w.heap.size w (w.alloc (.cells #[.slice p.ab p.nb p.cb, .slice p.sa p.ns p.cs] 25)) := (Below.refl w.heap.size w).alloc (Nat.le_refl _) _
  simp only [Pl.val, Sh.val]
  go_enter Try.func17, Try.ntmps17
  go_wp2_with fail
  refine (refCheckShelf_any p s _ (hp.below hB0) (hs.below hB0)).mono ?_
  rintro e w1 ⟨rfl, hB⟩
  have hBw := hB0.trans (hB.mono (by simp))
  have hsz : w.heap.size < w1.heap.size := by have := hB.size; simp at this; omega
  have c0 : w1.cell? ⟨w.heap.size, 0, none⟩ = some (.slice p.ab p.nb p.cb) := (hB.cell (p := ⟨w.heap.size, 0, none⟩) (by simp)).trans (by simp)
  have c1 : w1.cell? ⟨w.heap.size, 1, none⟩ = some (.slice p.sa p.ns p.cs) := (hB.cell (p := ⟨w.heap.size, 1, none⟩) (by simp)).trans (by simp)
  by_cases h0 : shelfE p s = 0
  · cases h1 : inB bin 0 ((p.nb : Int) - 1)
    · go_wp2_with fail
      refine (isBin_any p bin _ hp.leb hp.capb).mono ?_
      rintro e w2 ⟨rfl, hB2⟩
      go_wp2_with fail
      go_ret
      exact ⟨by simp [shelfErr, h0, h1], hBw.trans (hB2.mono hBw.size)⟩
    · go_wp2_with fail
      refine (isBin_any p bin _ hp.leb hp.capb).mono ?_
      rintro e w2 ⟨rfl, hB2⟩
      obtain ⟨hc, hf⟩ := bcell hB2
      cases h2 : inB good 0 ((p.ns : Int) - 1)
      · go_wp2_with fail
        refine (isGood_any p good _ hp.les hp.caps).mono ?_
        rintro e w3 ⟨rfl, hB3⟩
        go_wp2_with fail
        go_ret
        exact ⟨by simp [shelfErr, h0, h2], (hBw.trans (hB2.mono hBw.size)).trans (hB3.mono (Nat.le_trans hBw.size hB2.size))⟩
      · go_wp2_with fail
        refine (isGood_any p good _ hp.les hp.caps).mono ?_
        rintro e w3 ⟨rfl, hB3⟩
        go_wp2_with fail
        go_ret
        exact ⟨by simp [shelfErr, h0, h1, h2], (hBw.trans (hB2.mono hBw.size)).trans (hB3.mono (Nat.le_trans hBw.size hB2.size))⟩
  · go_wp2_with fail
    go_ret
    exact ⟨by simp [shelfErr, h0], hBw⟩
set_option maxHeartbeats 1000000 in
theorem Used_any (p : Pl) (s : Sh) (bin : Int) (w : World) (hp : p.At w) (hs : s.At w) :
    Calls Try.prog 15 #[p.val, s.val, .int .i64 bin] w fun e w' => e = .returned (.tuple #[.int .i64 (usedV p s bin), .int .i64 (usedE p s bin)]) ∧ Below w.heap.size w w' := by
  have hB0 : Below w.heap.size w (w.alloc (.cells #[.slice p.ab p.nb p.cb, .slice p.sa p.ns p.cs] 25)) := (Below.refl w.heap.size w).alloc (Nat.le_refl _) _
  simp only [Pl.val, Sh.val]
  have sle := hs.le
  have scap0 := hs.cap
  have scap := scap0
  unfold maxLen at scap
  have hn0 : s.n ≤ maxLen := Nat.le_trans sle scap0
  go_enter Try.func15, Try.ntmps15
  go_wp2_with fail
  refine (shelfCheck_any p s _ (hp.below hB0) (hs.below hB0)).mono ?_
  rintro e w1 ⟨rfl, hB⟩
  have hBw := hB0.trans (hB.mono (by simp))
  have hsz : w.heap.size < w1.heap.size := by have := hB.size; simp at this; omega
  have c1 : w1.cell? ⟨w.heap.size, 1, none⟩ = some (.slice p.sa p.ns p.cs) := (hB.cell (p := ⟨w.heap.size, 1, none⟩) (by simp)).trans (by simp)
  by_cases h0 : shelfE p s = 0
  · cases h1 : inB bin 0 ((s.n : Int) - 1)
    · go_wp2_with (go_at_call 42; refine calls_to (Has_any _ _ _ hn0) ?_)
      go_ret2
      exact ⟨by simp [usedV, usedE, h0, h1], hBw⟩
    · have H0 : Hid (shelfE p s = 0) := h0
      have H1 : Hid (inB bin 0 ((s.n : Int) - 1) = true) := h1
      obtain ⟨m, rfl⟩ := Int.eq_ofNat_of_zero_le (inB_true h1).1
      have hm : m < s.n := by have := (inB_true h1).2; omega
      have hV : Hid (usedV p s (m : Int) = usedTo (s.r m).z p.zs p.ns ∧ usedE p s (m : Int) = 0) := by
        show _ ∧ _
        simp [usedV, usedE, h0, h1]
      obtain ⟨pl, hn, hlen, hnum⟩ := (rightS h0).2
      have hl := hlen m hm
      have hbd : Hid (∀ j, j < p.ns → (0 ≤ (s.r m).z j ∧ (s.r m).z j ≤ 200) ∧ 1 ≤ p.zs j ∧ p.zs j ≤ 9) := fun j hj => ⟨hnum m hm j hj, pl.sizes j hj⟩
      have hns := pl.ns3
      have hp1 := hp.below hBw
      have hs1 := hs.below hBw
      clear hp hs hB hB0 hlen hnum pl hn
      obtain ⟨ab, nb, cb, zb, sa, ns, cs, zs⟩ := p
      obtain ⟨_, _, _, les, caps, sizes⟩ := hp1
      obtain ⟨s0, sn, sc, sr⟩ := s
      obtain ⟨_, _, rows⟩ := hs1
      dsimp only at *
      obtain ⟨b, o, rfl, hb, z0, hat⟩ := rows m hm
      obtain ⟨rle, rcap, ints⟩ := hat
      generalize hR : sr m = R at z0 rle rcap ints hl hbd
      obtain ⟨ra, rn, rc, rz⟩ := R
      dsimp only at z0 rle rcap ints hl hbd
      subst hl
      have HR : Hid (sr m = ⟨ra, rn, rc, rz⟩) := hR
      clear hR rows
      unfold maxLen at rcap caps
      have m3 : (0 : Int) ≤ (m : Int) := by omega
      go_wp2_with (go_at_call 42; refine calls_to (Has_any _ _ _ hn0) ?_)
      clear h0 h1
      go_loopw [9, 28] (fun u i wk => ∃ k : Nat, k ≤ rn ∧ i = .int .i64 k ∧ u = .int .i64 (usedTo rz zs k) ∧ Below w1.heap.size w1 wk) (fun _ i _ => rn - (intOf i).toNat)
      case atStart => exact ⟨0, Nat.zero_le _, rfl, rfl, Below.refl _ _⟩
      case round =>
        obtain ⟨k, hk, rfl, rfl, hB⟩ := hrel
        obtain ⟨hc, hf⟩ := bcell hB
        by_cases hlt : k < rn
        · obtain ⟨b1, o1, rfl, hb1, y0⟩ := (ints.below hB) k hlt
          obtain ⟨b2, o2, rfl, hb2, x0⟩ := (sizes.below hB) k hlt
          have m1 := usedTo_bd hbd.out k hk
          have m2 := mul_bd (hbd.out k hlt).1 (hbd.out k hlt).2
          have HS : Hid (usedTo rz zs (k + 1) = usedTo rz zs k + rz k * zs k) := rfl
          generalize usedTo rz zs k = U at m1 HS ⊢
          go_wp2_with fail
          go_roundw
          case rel => exact ⟨k + 1, by omega, by go_num, by rw [HS.out], hB⟩
          case measure => simp [intOf]; omega
        · go_wp2_with fail
          go_ret2
          have hkn : k = rn := by omega
          subst hkn
          exact ⟨by rw [hV.out.1, hV.out.2, HR.out]; rfl, hBw.trans (hB.mono hBw.size)⟩
  · go_wp2_with fail
    go_ret2
    exact ⟨by simp [usedV, usedE, h0], hBw⟩
set_option maxHeartbeats 1000000 in
theorem Sum_any (p : Pl) (s : Sh) (good : Int) (w : World) (hp : p.At w) (hs : s.At w) :
    Calls Try.prog 16 #[p.val, s.val, .int .i64 good] w fun e w' => e = .returned (.tuple #[.int .i64 (sumV p s good), .int .i64 (sumE p s good)]) ∧ Below w.heap.size w w' := by
  have hB0 : Below w.heap.size w (w.alloc (.cells #[.slice p.ab p.nb p.cb, .slice p.sa p.ns p.cs] 25)) := (Below.refl w.heap.size w).alloc (Nat.le_refl _) _
  simp only [Pl.val, Sh.val]
  have sle := hs.le
  have scap := hs.cap
  unfold maxLen at scap
  have les := hp.les
  have caps0 := hp.caps
  have hn0 : p.ns ≤ maxLen := Nat.le_trans les caps0
  go_enter Try.func16, Try.ntmps16
  go_wp2_with fail
  refine (shelfCheck_any p s _ (hp.below hB0) (hs.below hB0)).mono ?_
  rintro e w1 ⟨rfl, hB⟩
  have hBw := hB0.trans (hB.mono (by simp))
  have c1 : w1.cell? ⟨w.heap.size, 1, none⟩ = some (.slice p.sa p.ns p.cs) := (hB.cell (p := ⟨w.heap.size, 1, none⟩) (by simp)).trans (by simp)
  by_cases h0 : shelfE p s = 0
  · cases h1 : inB good 0 ((p.ns : Int) - 1)
    · go_wp2_with (go_at_call 42; refine calls_to (Has_any _ _ _ hn0) ?_)
      go_ret2
      exact ⟨by simp [sumV, sumE, h0, h1], hBw⟩
    · obtain ⟨m, rfl⟩ := Int.eq_ofNat_of_zero_le (inB_true h1).1
      have hm : m < p.ns := by have := (inB_true h1).2; omega
      have hV : Hid (sumV p s (m : Int) = sumTo (fun i => (s.r i).z m) s.n ∧ sumE p s (m : Int) = 0) := by
        show _ ∧ _
        simp [sumV, sumE, h0, h1]
      obtain ⟨pl, hn, hlen, hnum⟩ := (rightS h0).2
      have hl : Hid (∀ j, j < s.n → m < (s.r j).n) := fun j hj => by rw [hlen j hj]; exact hm
      have hbd : Hid (∀ j, j < s.n → 0 ≤ (s.r j).z m ∧ (s.r j).z m ≤ 200) := fun j hj => hnum j hj m hm
      have h6 := pl.nb6
      rw [← hn] at h6
      have rows := (hs.below hBw).rows
      clear hp hs hB hB0 hlen hnum pl hn
      have m3 : (0 : Int) ≤ (m : Int) := by omega
      go_wp2_with (go_at_call 42; refine calls_to (Has_any _ _ _ hn0) ?_)
      clear h0 h1 c1
      obtain ⟨s0, sn, sc, sr⟩ := s
      dsimp only at *
      go_loopw [9, 26] (fun u i wk => ∃ k : Nat, k ≤ sn ∧ i = .int .i64 k ∧ u = .int .i64 (sumTo (fun i => (sr i).z m) k) ∧ Below w1.heap.size w1 wk) (fun _ i _ => sn - (intOf i).toNat)
      case atStart => exact ⟨0, Nat.zero_le _, rfl, rfl, Below.refl _ _⟩
      case round =>
        obtain ⟨k, hk, rfl, rfl, hB⟩ := hrel
        by_cases hlt : k < sn
        · obtain ⟨b, o, rfl, hb, z0, hat⟩ := (rows.below hB) k hlt
          obtain ⟨rle, rcap, ints⟩ := hat
          have hgl := hl.out k hlt
          obtain ⟨b1, o1, ha, hb1, y0⟩ := ints m hgl
          rw [ha] at z0
          clear ha
          have m1 := sumTo_bd (z := fun i => (sr i).z m) hbd.out k hk
          have m2 := hbd.out k hlt
          have HS : Hid (sumTo (fun i => (sr i).z m) (k + 1) = sumTo (fun i => (sr i).z m) k + (sr k).z m) := rfl
          generalize sumTo (fun i => (sr i).z m) k = U at m1 HS ⊢
          unfold maxLen at rcap
          go_wp2_with fail
          go_roundw
          case rel => exact ⟨k + 1, by omega, by go_num, by rw [HS.out], hB⟩
          case measure => simp [intOf]; omega
        · go_wp2_with fail
          go_ret2
          have hkn : k = sn := by omega
          subst hkn
          exact ⟨by rw [hV.out.1, hV.out.2]; rfl, hBw.trans (hB.mono hBw.size)⟩
  · go_wp2_with fail
    go_ret2
    exact ⟨by simp [sumV, sumE, h0], hBw⟩
end Go.Proofs.Ytbcacebifpagpaa
namespace Go.Proofs.Ytbcacebifpagpaa
open Go.RowKit
set_option linter.unusedVariables false
def Blk (w : World) (g : Nat) (e : TypeId) (n : Nat) (f : Nat → Value) : Prop :=
  ∃ cur, w.heap[g]? = some (.cells cur e (0, 0)) ∧ n ≤ cur.size ∧ ∀ j, j < n → cur[j]? = some (f j)
theorem Blk.lt {w : World} {g : Nat} {e : TypeId} {n : Nat} {f : Nat → Value} (h : Blk w g e n f) : g < w.heap.size := by
  obtain ⟨cur, hc, _⟩ := h
  exact (Array.getElem?_eq_some_iff.1 hc).1
theorem Blk.cell {w : World} {g : Nat} {e : TypeId} {n : Nat} {f : Nat → Value} (h : Blk w g e n f) {j : Nat} (hj : j < n) : w.cell? ⟨g, j, none⟩ = some (f j) := by
  obtain ⟨cur, hc, _, hf⟩ := h
  simp [World.cell?, hc, hf j hj]
theorem Blk.frozen {w : World} {g : Nat} {e : TypeId} {n : Nat} {f : Nat → Value} (h : Blk w g e n f) (j : Nat) : w.frozen? ⟨g, j, none⟩ = false := by
  obtain ⟨cur, hc, _, hf⟩ := h
  simp [World.frozen?, hc]
theorem Blk.same {w w' : World} {g : Nat} {e : TypeId} {n : Nat} {f : Nat → Value} (h : Blk w g e n f) (hs : w'.heap[g]? = w.heap[g]?) : Blk w' g e n f := by
  obtain ⟨cur, hc, hr⟩ := h
  exact ⟨cur, hs.trans hc, hr⟩
theorem Blk.below {w w' : World} {g : Nat} {e : TypeId} {n : Nat} {f : Nat → Value} (h : Blk w g e n f) (hB : Below w.heap.size w w') : Blk w' g e n f := h.same (hB.block g h.lt)
theorem Blk.grown {w w' : World} {g : Nat} {e : TypeId} {n : Nat} {f : Nat → Value} {row : Option Nat} (h : Blk w g e n f) (hg : w.grownBy w' row) (hne : some g ≠ row) : Blk w' g e n f := h.same (hg.block g h.lt hne)
theorem Blk.congr {w : World} {g : Nat} {e : TypeId} {n : Nat} {f f' : Nat → Value} (h : Blk w g e n f) (hf : ∀ j, j < n → f j = f' j) : Blk w g e n f' := by
  obtain ⟨cur, hc, hn, hr⟩ := h
  exact ⟨cur, hc, hn, fun j hj => by rw [hr j hj, hf j hj]⟩
theorem Blk.other {w : World} {g : Nat} {e : TypeId} {n : Nat} {f : Nat → Value} (h : Blk w g e n f) {a : Addr} (hne : g ≠ a.block) (v : Value) : Blk (w.setCell a v) g e n f := h.same (Below.heap_setCell w a v g hne)
theorem Blk.set {w : World} {g : Nat} {e : TypeId} {n : Nat} {f : Nat → Value} (h : Blk w g e n f) (j : Nat) (v : Value) : Blk (w.setCell ⟨g, j, none⟩ v) g e n (fun i => if i = j then v else f i) := by
  obtain ⟨cur, hc, hn, hr⟩ := h
  refine ⟨cur.setIfInBounds j v, ?_, by simpa using hn, ?_⟩
  · simp [World.setCell, Array.getElem?_modify, hc]
  · intro i hi
    rw [Array.getElem?_setIfInBounds]
    by_cases hij : i = j
    · subst hij
      simp; omega
    · rw [if_neg (fun e => hij e.symm), hr i hi]; simp [hij]
theorem Blk.new (w : World) (cur : Array Value) (e : TypeId) : Blk (w.alloc (.cells cur e)) w.heap.size e cur.size (fun j => cur.getD j default) := by
  refine ⟨cur, heap_alloc_new w _, Nat.le_refl _, fun j hj => ?_⟩
  simp [Array.getD, hj]
theorem Blk.ofOwns {w : World} {base : Nat} {e : TypeId} {size : Nat} {v : Value} {n : Nat} {xs : List Value} (h : w.ownsRow base e size v n xs) (hn : v ≠ .slice none 0 0) :
    ∃ g c, v = .slice (some ⟨g, 0, none⟩) n c ∧ n ≤ c ∧ c ≤ maxLen ∧ base ≤ g ∧ Blk w g e (n * size) (fun j => xs.getD j default) := by
  obtain ⟨hl, h | ⟨g, cap, cur, rfl, hb, hg, h1, h2, h3, h4⟩⟩ := h
  · exact absurd h.1 hn
  · refine ⟨g, cap, rfl, h1, h2, hb, cur, hg, by rw [h3]; exact Nat.mul_le_mul_right _ h1, fun j hj => ?_⟩
    have : xs[j]? = cur[j]? := by
      rw [← h4, List.getElem?_take, if_pos hj]; simp
    rw [← this, List.getElem?_eq_getElem (by omega)]
    simp [List.getD, List.getElem?_eq_getElem (show j < xs.length by omega)]
theorem Blk.mk' {w : World} {g : Nat} {cur : Array Value} {e : TypeId} {f : Nat → Value} (hg : g = w.heap.size) (hf : f = fun j => cur.getD j default) : Blk (w.alloc (.cells cur e)) g e cur.size f := by
  subst hg hf
  exact Blk.new w cur e
theorem Blk.alloc {w : World} {g : Nat} {e : TypeId} {n : Nat} {f : Nat → Value} (h : Blk w g e n f) (o : Obj) : Blk (w.alloc o) g e n f := h.below ((Below.refl _ _).alloc (Nat.le_refl _) o)
theorem Blk.ints {w : World} {g : Nat} {e : TypeId} {n : Nat} {z : Nat → Int} (h : Blk w g e n (fun j => .int .i64 (z j))) : IntsAt w (some ⟨g, 0, none⟩) n z := fun i hi =>
  ⟨g, 0, rfl, h.lt, by rw [Nat.zero_add]; exact h.cell hi⟩
end Go.Proofs.Ytbcacebifpagpaa
namespace Go.Proofs.Ytbcacebifpagpaa
open Go.RowKit Go.Shelf
set_option linter.unusedVariables false
theorem infoInt : (Try.prog.info? 3).map (fun i => (i.zero, i.size, i.bytes)) = some (some (.int .i64 0), 1, 8) := by kernel_rfl
theorem infoInts : (Try.prog.info? 23).map (fun i => (i.zero, i.size, i.bytes)) = some (some (.slice none 0 0), 1, 24) := by kernel_rfl
set_option maxHeartbeats 1000000 in
theorem Clone_any (b o n c : Nat) (z : Nat → Int) (w : World) (hbig : n * 8 ≤ 140737488355328) (hn : 0 < n)
    (hc : IntsAt w (some ⟨b, o, none⟩) n z) :
    Calls Try.prog 64 #[.slice (some ⟨b, o, none⟩) n c] w fun e w' => ∃ g c', e = .returned (.slice (some ⟨g, 0, none⟩) n c') ∧ n ≤ c' ∧ c' ≤ maxLen ∧ w.heap.size ≤ g ∧ Blk w' g 3 n (fun j => .int .i64 (z j)) ∧ Below w.heap.size w w' := by
  obtain ⟨i0, hi, hz0, hz1, hz2⟩ := info_parts infoInt
  have q22 : ∀ (w : World) (a : Option Addr) (n c n' c' : Nat), (binOp .eql 23 (.slice a n c) (.slice none n' c')).run Try.prog w = .ok (.bool a.isNone) w := fun w a n c n' c' => Lib.run_eql_slice_nil w _ _ a n c n' c' Try.underlying23
  go_enter Try.func64, Try.ntmps64
  go_wp2_with (at_builtin; refine wpList_append_own _ rfl _ _ 23 rfl w.heap.size 3 i0 (.int .i64 0) 1 8 Try.underlying23 hi hz0 hz1 hz2 rfl (by decide) _ _ _ rfl (World.ownsRow_made w #[] 0 (Nat.le_refl _) (Nat.zero_le _) rfl) ⟨b, o, none⟩ n c ((List.range n).map fun j => Value.int .i64 (z j)) rfl ?qc1 ?qc2 ?qc3 ?qc4 ?qc5 ?qc6 ?_)
  case qc1 => simp
  case qc2 =>
    intro j u hj
    have hjn : j < n := by
      have := (List.getElem?_eq_some_iff.1 hj).1
      simpa using this
    obtain ⟨b', o', he, hb, hcell⟩ := hc j hjn
    simp only [Option.some.injEq, Addr.mk.injEq, and_true] at he
    obtain ⟨rfl, rfl⟩ := he
    rw [Go.WideShapes.add_plain]
    rw [((Below.refl w.heap.size w).alloc (Nat.le_refl _) _).cell (p := ⟨b, o + j, none⟩) hb, hcell]
    simp [hjn] at hj
    rw [hj]
  case qc3 => intro u hu; obtain ⟨x, _, rfl⟩ := List.mem_map.1 hu; rfl
  case qc4 => unfold maxLen; omega
  case qc5 => omega
  case qc6 => simp
  intro v' w1 hown hgrow hnil
  have hv : v' ≠ .slice none 0 0 := hnil
  obtain ⟨g, c', rfl, h1, h2, h3, h4⟩ := Blk.ofOwns hown hv
  rw [Nat.mul_one] at h4
  have hB : Below w.heap.size w w1 := ((Below.refl _ w).alloc (Nat.le_refl _) _).grown hgrow (by simp) (by intro k hk; simp [Value.ownBlock] at hk; omega)
  clear hown hgrow hnil hc
  go_wp2
  go_ret
  exact ⟨g, c', rfl, h1, h2, h3, h4.congr (fun j hj => by simp [hj]), hB⟩
theorem made_slice {j n : Nat} (hj : j < n) : (madeCells (Value.slice none 0 0).cells n).toList.getD j default = .slice none 0 0 := by
  simp [madeCells, Value.cells, hj, Nat.mod_one]
set_option maxHeartbeats 1000000 in
theorem copyRows_any (s : Sh) (w : World) (hs : s.At w) (hn : s.n ≤ 6) (hr : ∀ i, i < s.n → 1 ≤ (s.r i).n ∧ (s.r i).n ≤ 3) :
    Calls Try.prog 48 #[s.val] w fun e w' => ∃ (g : Nat) (G C : Nat → Nat), e = .returned (.slice (some ⟨g, 0, none⟩) s.n s.n) ∧ w.heap.size ≤ g ∧
      Blk w' g 23 s.n (fun i => .slice (some ⟨G i, 0, none⟩) (s.r i).n (C i)) ∧
      (∀ i, i < s.n → g < G i ∧ (s.r i).n ≤ C i ∧ C i ≤ maxLen ∧ Blk w' (G i) 3 (s.r i).n (fun j => .int .i64 ((s.r i).z j))) ∧
      (∀ i j, i < j → j < s.n → G i < G j) ∧ Below w.heap.size w w' := by
  obtain ⟨sle, scap, rows⟩ := hs
  obtain ⟨s0, sn, sc, sr⟩ := s
  dsimp only at sle scap rows hn hr
  unfold maxLen at scap
  simp only [Sh.val]
  obtain ⟨i0, hi, hz0, hz1, hz2⟩ := info_parts infoInts
  go_enter Try.func48, Try.ntmps48
  go_wp2_with (at_make; refine wpList_make_full _ rfl _ _ 36 rfl w.heap.size 23 i0 (.slice none 0 0) 1 Try.underlying36 hi hz0 hz1 .i64 .i64 _ _ sn rfl rfl rfl rfl (by rw [hz2]; omega) (by unfold maxLen; omega) (Nat.le_refl _) ?_; intro w1 hown hgrow)
  obtain ⟨g, c', hv, _, _, _, hblk⟩ := Blk.ofOwns hown (by simp)
  simp only [Value.slice.injEq, Option.some.injEq, Addr.mk.injEq, and_true] at hv
  obtain ⟨rfl, -, -⟩ := hv
  rw [Nat.mul_one] at hblk
  have hB1 : Below w.heap.size w w1 := (Below.refl _ w).grown hgrow (Nat.le_refl _) (by intro k hk; cases hk)
  clear hown hgrow
  go_loopw [11] (fun i wk => ∃ k : Nat, k ≤ sn ∧ i = .int .i64 k ∧ (∃ (G C : Nat → Nat), Blk wk w.heap.size 23 sn (fun i => if i < k then .slice (some ⟨G i, 0, none⟩) (sr i).n (C i) else .slice none 0 0) ∧
      (∀ i, i < k → w.heap.size < G i ∧ (sr i).n ≤ C i ∧ C i ≤ maxLen ∧ Blk wk (G i) 3 (sr i).n (fun j => .int .i64 ((sr i).z j))) ∧
      (∀ i j, i < j → j < k → G i < G j)) ∧ Below w.heap.size w wk) (fun i _ => sn - (intOf i).toNat)
  case atStart => exact ⟨0, Nat.zero_le _, rfl, ⟨fun _ => 0, fun _ => 0, hblk.congr (fun j hj => by rw [made_slice hj]; simp), fun i hi => absurd hi (Nat.not_lt_zero _), fun i j _ hj => absurd hj (Nat.not_lt_zero _)⟩, hB1⟩
  case round =>
    obtain ⟨k, hk, rfl, hgs, hB⟩ := hrel
    by_cases hlt : k < sn
    · obtain ⟨b, o, rfl, hb, z0, hat⟩ := (rows.below hB) k hlt
      have hr1 := hr k hlt
      obtain ⟨rle, rcap, ints⟩ := hat
      obtain ⟨b1, o1, ha, hb1, y0⟩ := ints 0 (by omega)
      rw [ha] at z0 ints
      clear y0
      have HG : Hid _ := hgs
      clear hgs ha
      have m1 : (0 : Int) ≤ (k : Int) := by omega
      go_wp2_with fail
      refine (Clone_any b1 o1 _ _ (sr k).z _ (by omega) (by omega) ints).mono ?_
      rintro e w2 ⟨g, c2, rfl, h1, h2, h3, h4, hB2⟩
      obtain ⟨G, C, gb, gr, gm⟩ := HG.out
      have hb0 := gb.lt
      have gb2 := gb.below hB2
      have hf0 := gb2.frozen k
      have hc0 := gb2.cell hlt
      simp only [Nat.lt_irrefl, if_false] at hc0
      have hB3 := hB.trans (hB2.mono hB.size)
      have st := hB3.setCell (p := ⟨w.heap.size, k, none⟩) (Nat.le_refl _) (.slice (some ⟨g, 0, none⟩) (sr k).n c2)
      have KB := gb2.set k (.slice (some ⟨g, 0, none⟩) (sr k).n c2)
      have KO : ∀ i, i < k → Blk (w2.setCell ⟨w.heap.size, k, none⟩ (.slice (some ⟨g, 0, none⟩) (sr k).n c2)) (G i) 3 (sr i).n (fun j => .int .i64 ((sr i).z j)) := fun i hi => ((gr i hi).2.2.2.below hB2).other (by have := (gr i hi).1; show _ ≠ w.heap.size; omega) _
      have KN : Blk (w2.setCell ⟨w.heap.size, k, none⟩ (.slice (some ⟨g, 0, none⟩) (sr k).n c2)) g 3 (sr k).n (fun j => .int .i64 ((sr k).z j)) := h4.other (by show _ ≠ w.heap.size; omega) _
      have GK : ∀ i, i < k → G i < g := fun i hi => by have := (gr i hi).2.2.2.lt; omega
      have H : Hid _ := And.intro KB (And.intro KO (And.intro KN (And.intro GK (And.intro gr gm))))
      clear KB KO KN GK gb gb2 gm h4 gr
      go_wp2_with fail
      go_roundw
      case rel =>
        obtain ⟨KB, KO, KN, GK, gr, gm⟩ := H.out
        refine ⟨k + 1, by omega, by go_num, ⟨fun i => if i = k then g else G i, fun i => if i = k then c2 else C i, KB.congr ?_, ?_, ?_⟩, st⟩
        · intro j hj
          by_cases hjk : j = k
          · subst hjk; simp
          · by_cases hj2 : j < k
            · simp [hjk, hj2, show j < k + 1 by omega]
            · simp [hjk, hj2, show ¬ j < k + 1 by omega]
        · intro i hi
          by_cases hik : i = k
          · subst hik
            simp only [if_true]
            exact ⟨by omega, h1, h2, KN⟩
          · simp only [hik, if_false]
            have hi2 : i < k := by omega
            exact ⟨(gr i hi2).1, (gr i hi2).2.1, (gr i hi2).2.2.1, KO i hi2⟩
        · intro i j hij hj
          by_cases hjk : j = k
          · subst hjk
            simp [show ¬ i = j by omega, GK i hij]
          · simp [hjk, show ¬ i = k by omega, gm i j hij (by omega)]
      case measure => simp [intOf]; omega
    · go_wp2_with fail
      go_ret
      have hkn : k = sn := by omega
      subst hkn
      obtain ⟨G, C, gb, gr, gm⟩ := hgs
      exact ⟨w.heap.size, G, C, rfl, Nat.le_refl _, gb.congr (fun j hj => by simp [hj]), gr, gm, hB⟩
end Go.Proofs.Ytbcacebifpagpaa
namespace Go.Proofs.Ytbcacebifpagpaa
open Go.RowKit Go.Shelf
set_option linter.unusedVariables false
set_option maxHeartbeats 1000000 in
theorem Put_any (p : Pl) (s : Sh) (bin good n : Int) (w : World) (hp : p.At w) (hs : s.At w) :
    Calls Try.prog 23 #[p.val, s.val, .int .i64 bin, .int .i64 good, .int .i64 n] w fun e w' => ∃ v, e = .returned (.tuple #[v, .int .i64 (putE p s bin good n)]) ∧ PutRes p s bin good n w' v ∧ Below w.heap.size w w' := by
  have hB0 : Below w.heap.size w (w.alloc (.cells #[.slice p.ab p.nb p.cb, .slice p.sa p.ns p.cs] 25)) := (Below.refl w.heap.size w).alloc (Nat.le_refl _) _
  simp only [Pl.val, Sh.val]
  have sle := hs.le
  have scap0 := hs.cap
  have scap := scap0
  unfold maxLen at scap
  have hn0 : s.n ≤ maxLen := Nat.le_trans sle scap0
  have les := hp.les
  have caps0 := hp.caps
  have hn1 : p.ns ≤ maxLen := Nat.le_trans les caps0
  have caps := caps0
  unfold maxLen at caps
  go_enter Try.func23, Try.ntmps23
  go_wp2_with fail
  refine (shelfCheck_any p s _ (hp.below hB0) (hs.below hB0)).mono ?_
  rintro e w1 ⟨rfl, hB⟩
  have hBw := hB0.trans (hB.mono (by simp))
  have hsz : w.heap.size < w1.heap.size := by have := hB.size; simp at this; omega
  have c1 : w1.cell? ⟨w.heap.size, 1, none⟩ = some (.slice p.sa p.ns p.cs) := (hB.cell (p := ⟨w.heap.size, 1, none⟩) (by simp)).trans (by simp)
  by_cases h0 : shelfE p s = 0
  · have hE := shelfErr_eq (bin := bin) (good := good) h0
    cases h1 : inB bin 0 ((s.n : Int) - 1)
    · have hPE : Hid (putE p s bin good n = 3) := by show putE p s bin good n = 3; simp [putE, hE, h1]
      clear hE
      go_wp2_with (first | (go_at_call_of 42 (Value.int .i64 bin); refine calls_to (Has_any _ _ _ hn0) ?_) | (go_at_call_of 42 (Value.int .i64 good); refine calls_to (Has_any _ _ _ hn1) ?_))
      go_ret2
      exact ⟨_, by rw [hPE.out]; rfl, by unfold PutRes; rw [hPE.out]; rfl, hBw⟩
    cases h2 : inB good 0 ((p.ns : Int) - 1)
    · have hPE : Hid (putE p s bin good n = 3) := by show putE p s bin good n = 3; simp [putE, hE, h1, h2]
      clear hE
      go_wp2_with (first | (go_at_call_of 42 (Value.int .i64 bin); refine calls_to (Has_any _ _ _ hn0) ?_) | (go_at_call_of 42 (Value.int .i64 good); refine calls_to (Has_any _ _ _ hn1) ?_))
      go_ret2
      exact ⟨_, by rw [hPE.out]; rfl, by unfold PutRes; rw [hPE.out]; rfl, hBw⟩
    have hE0 : shelfErr p s bin good = 0 := by simp [hE, h1, h2]
    clear hE
    obtain ⟨m, rfl⟩ := Int.eq_ofNat_of_zero_le (inB_true h1).1
    obtain ⟨q, rfl⟩ := Int.eq_ofNat_of_zero_le (inB_true h2).1
    have hm : m < s.n := by have := (inB_true h1).2; omega
    have hq : q < p.ns := by have := (inB_true h2).2; omega
    obtain ⟨pl, hn, hlen, hnum⟩ := (rightS h0).2
    have hz := hnum m hm q hq
    have hl := hlen m hm
    have h6 := pl.nb6
    rw [← hn] at h6
    have hr3 : Hid (∀ i, i < s.n → 1 ≤ (s.r i).n ∧ (s.r i).n ≤ 3) := fun i hi => by rw [hlen i hi]; exact ⟨pl.ns1, pl.ns3⟩
    have hs1 := hs.below hBw
    have m1 : (0 : Int) ≤ (m : Int) := by omega
    have m2 : (0 : Int) ≤ (q : Int) := by omega
    obtain ⟨b, o, ha, hb, z0, hat⟩ := hs1.rows m hm
    obtain ⟨b1, o1, ha1, hb1, y0⟩ := hat.ints q (by omega)
    rw [ha1] at z0
    have hql : q < (s.r m).n := by omega
    have rle := hat.le
    have rcap := hat.cap
    unfold maxLen at rcap
    have hPE : Hid (putE p s m q n = if inB n (-((s.r m).z q)) (200 - (s.r m).z q) then 0 else 3) := by show putE p s m q n = _; simp [putE, hE0]
    clear pl hn hlen hnum ha1 hat hE0 hl
    obtain ⟨s0, sn, sc, sr⟩ := s
    dsimp only at *
    subst ha
    cases h3 : inB n (-((sr m).z q)) (200 - (sr m).z q)
    · go_wp2_with (first | (go_at_call_of 42 (Value.int .i64 (m : Int)); refine calls_to (Has_any _ _ _ hn0) ?_) | (go_at_call_of 42 (Value.int .i64 (q : Int)); refine calls_to (Has_any _ _ _ hn1) ?_) | (go_at_call 37; refine calls_to (Within_any _ _ _ _) ?_))
      go_ret2
      rw [h3] at hPE
      exact ⟨_, by rw [hPE.out]; rfl, by unfold PutRes; rw [hPE.out]; rfl, hBw⟩
    · go_wp2_with (first | (go_at_call_of 42 (Value.int .i64 (m : Int)); refine calls_to (Has_any _ _ _ hn0) ?_) | (go_at_call_of 42 (Value.int .i64 (q : Int)); refine calls_to (Has_any _ _ _ hn1) ?_) | (go_at_call 37; refine calls_to (Within_any _ _ _ _) ?_))
      refine (copyRows_any ⟨some ⟨b, o, none⟩, sn, sc, sr⟩ w1 hs1 h6 hr3.out).mono ?_
      rintro e w2 ⟨g, G, C, rfl, hg, gb, gr, gm, hB2⟩
      dsimp only at gb gr gm ⊢
      obtain ⟨g1, g2, g3, g4⟩ := gr m hm
      have d0 := gb.cell hm
      have d1 := g4.cell hql
      have d2 := g4.frozen q
      have hnn := inB_true h3
      unfold maxLen at g3
      have hB3 := hBw.trans (hB2.mono hBw.size)
      have hge : w.heap.size ≤ G m := by have := hBw.size; omega
      have st := hB3.setCell (p := ⟨G m, q, none⟩) hge (.int .i64 ((sr m).z q + n))
      have HH : Hid _ := And.intro gb (And.intro gr gm)
      rw [h3] at hPE
      clear gb gr gm c1 y0 z0
      go_wp2_with fail
      go_ret2
      refine ⟨_, by rw [hPE.out]; rfl, ?_, st⟩
      obtain ⟨gb, gr, gm⟩ := HH.out
      unfold PutRes
      rw [hPE.out]
      simp only [if_true]
      refine ⟨⟨some ⟨g, 0, none⟩, sn, sn, fun i => ⟨some ⟨G i, 0, none⟩, (sr i).n, C i, fun j => putZ ⟨some ⟨b, o, none⟩, sn, sc, sr⟩ m q n i j⟩⟩, rfl, ⟨Nat.le_refl _, hn0, ?_⟩, rfl, fun i hi => ⟨rfl, fun j hj => rfl⟩⟩
      intro i hi
      have gi := gr i hi
      refine ⟨g, 0, rfl, ?_, ?_, gi.2.1, gi.2.2.1, ?_⟩
      · have := gb.lt; have := st.size; simp [World.setCell]; omega
      · have := gb.other (a := ⟨G m, q, none⟩) (by show g ≠ G m; omega) (.int .i64 ((sr m).z q + n))
        simpa using this.cell hi
      · apply Blk.ints (e := 3)
        by_cases him : i = m
        · subst him
          refine (gi.2.2.2.set q (.int .i64 ((sr i).z q + n))).congr fun j hj => ?_
          by_cases hjq : j = q
          · subst hjq; simp [putZ]
          · simp [putZ, hjq]
        · have hGne : G i ≠ G m := by
            rcases Nat.lt_or_gt_of_ne him with h | h
            · have := gm i m h hm; omega
            · have := gm m i h hi; omega
          refine (gi.2.2.2.other (a := ⟨G m, q, none⟩) hGne (.int .i64 ((sr m).z q + n))).congr fun j hj => ?_
          simp [putZ, him]
  · have hE : shelfErr p s bin good = shelfE p s := by simp [shelfErr, h0]
    have hPE : Hid (putE p s bin good n = shelfE p s) := by show putE p s bin good n = _; simp [putE, hE, h0]
    clear hE
    go_wp2_with fail
    go_ret2
    exact ⟨_, by rw [hPE.out]; rfl, by unfold PutRes; rw [hPE.out, if_neg h0]; rfl, hBw⟩
end Go.Proofs.Ytbcacebifpagpaa
namespace Go.Proofs.Ytbcacebifpagpaa
open Go.RowKit Go.Shelf
set_option linter.unusedVariables false
def yardZ : Nat → Bin
  | 0 => ⟨false, 100, 0, 0⟩
  | 1 => ⟨true, 30, 4, 8⟩
  | _ => ⟨false, 60, 0, 0⟩
def yardS : Nat → Int
  | 0 => 2
  | _ => 3
def yardP (g1 g2 : Nat) : Pl := ⟨some ⟨g1, 0, none⟩, 3, 3, yardZ, some ⟨g2, 0, none⟩, 2, 2, yardS⟩
def yardF : Nat → Value := fun j => (#[.bool false, .int .i64 100, .int .i64 0, .int .i64 0, .bool true, .int .i64 30, .int .i64 4, .int .i64 8, .bool false, .int .i64 60, .int .i64 0, .int .i64 0] : Array Value).getD j default
def yardG : Nat → Value := fun j => (#[.int .i64 2, .int .i64 3] : Array Value).getD j default
theorem yardAt {w : World} {g1 g2 : Nat} (h1 : Blk w g1 35 12 yardF) (h2 : Blk w g2 3 2 yardG) : (yardP g1 g2).At w := by
  refine ⟨by simp [yardP], by simp [yardP, maxLen], fun i hi => ?_, by simp [yardP], by simp [yardP, maxLen], fun i hi => ?_⟩
  · have hi' : i < 3 := hi
    refine ⟨g1, 0, rfl, h1.lt, ?_⟩
    match i, hi' with
    | 0, _ => exact ⟨h1.cell (j := 0) (by decide), h1.cell (j := 1) (by decide), h1.cell (j := 2) (by decide), h1.cell (j := 3) (by decide)⟩
    | 1, _ => exact ⟨h1.cell (j := 4) (by decide), h1.cell (j := 5) (by decide), h1.cell (j := 6) (by decide), h1.cell (j := 7) (by decide)⟩
    | 2, _ => exact ⟨h1.cell (j := 8) (by decide), h1.cell (j := 9) (by decide), h1.cell (j := 10) (by decide), h1.cell (j := 11) (by decide)⟩
  · have hi' : i < 2 := hi
    refine ⟨g2, 0, rfl, h2.lt, ?_⟩
    match i, hi' with
    | 0, _ => exact h2.cell (j := 0) (by decide)
    | 1, _ => exact h2.cell (j := 1) (by decide)
set_option maxHeartbeats 1000000 in
theorem yard_any (w : World) :
    Calls Try.prog 36 #[] w fun e w' => ∃ g1 g2, e = .returned (yardP g1 g2).val ∧ w.heap.size ≤ g1 ∧ g1 ≠ g2 ∧ Blk w' g1 35 12 yardF ∧ Blk w' g2 3 2 yardG ∧ Below w.heap.size w w' := by
  go_enter Try.func36, Try.ntmps36
  go_wp2
  refine bodyPost_ret (v := (yardP (w.heap.size + 1) (w.heap.size + 1 + 1)).val) (by simp [results, Try.results36, go_sem, yardP, Pl.val]) rfl ?_
  refine ⟨w.heap.size + 1, w.heap.size + 1 + 1, rfl, by omega, by omega, Blk.alloc (Blk.mk' (by simp) rfl) _, Blk.mk' (by simp) rfl, ?_⟩
  exact (((Below.refl _ _).alloc (Nat.le_refl _) _).alloc (by simp) _).alloc (by simp; omega) _
end Go.Proofs.Ytbcacebifpagpaa
namespace Go.Proofs.Ytbcacebifpagpaa
open Go.RowKit
set_option linter.unusedVariables false
def ordB (ops : Array Oper) : List (Bool × Nat) → Array Bool → Bool
  | [], listed => Region.ready .any ops listed == []
  | (h, i) :: r, listed => (if h then (Region.ready .any ops listed).contains i && Region.free .any ops listed i else Region.ready .any ops listed == [i]) && ordB ops r (listed.setIfInBounds i true)
def wpOrd (P : Program) (ops : Array Oper) (Q : Exit → Act → World → Prop) : List (Bool × Nat) → Act → World → Prop
  | [], a, w => Q .normal a w
  | (false, i) :: r, a, w => wpOp P ops Q i (wpOrd P ops Q r) a w
  | (true, i) :: r, a, w => ∃ o v, ops[i]? = some o ∧ Yields P ops o v a ∧ wpOrd P ops Q r (a.put o.dst v) w
theorem wpAny_of_ord {P : Program} {ops : Array Oper} {Q : Exit → Act → World → Prop} (hs : Region.noSelect ops = true)
    (hQ : ∀ c a a' w, Q (.panic c) a w → Q (.panic c) a' w) : ∀ (ord : List (Bool × Nat)) (listed : Array Bool) (a : Act) (w : World),
      ordB ops ord listed = true → wpOrd P ops Q ord a w → wpAny P .any ops Q ord.length listed a w
  | [], listed, a, w, hB, h => wpAny_done (by simpa [ordB] using hB) h _
  | (false, i) :: r, listed, a, w, hB, h => by
    simp only [ordB, Bool.false_eq_true, if_false, Bool.and_eq_true, beq_iff_eq] at hB
    refine wpAny_all hB.1 (by simp) fun j hj => ?_
    rw [List.mem_singleton] at hj
    subst hj
    exact wpOp_mono (fun a' w' h' => wpAny_of_ord hs hQ r _ a' w' hB.2 h') h
  | (true, i) :: r, listed, a, w, hB, h => by
    simp only [ordB, if_true, Bool.and_eq_true] at hB
    obtain ⟨o, v, ho, hy, hn⟩ := h
    exact wpAny_take ho hs hB.1.2 hB.1.1 (fun c a w hq => hQ _ _ _ _ hq) hy (wpAny_of_ord hs hQ r _ _ w hB.2 hn)
theorem wp_region_ord {P : Program} {ops : Array Oper} {Q : Exit → Act → World → Prop} {id : Nat} {a : Act} {w : World} (ord : List (Bool × Nat))
    (hm : P.follows .mixedOrders = true) (hs : Region.noSelect ops = true) (hB : ordB ops ord (Array.replicate ops.size false) = true) (hl : ord.length = ops.size)
    (h : wpOrd P ops (NoPanic Q) ord a w.drew) : (Code.region id ops true).wp P Q a w := by
  refine wp_region_noPanic (wp_region_any hm ?_)
  have := wpAny_of_ord (Q := NoPanic Q) hs (fun c a a' w h => (h : False).elim) ord (Array.replicate ops.size false) a w.drew hB h
  rw [hl] at this
  exact this
theorem Oper.wp_then {P : Program} {o : Oper} {a : Act} {w : World} {K N : Act → World → Prop} {Q : Exit → Act → World → Prop} (h : o.wp P a w K (Exit.then N Q)) : o.wp P a w K Q := by
  unfold Oper.wp at *
  generalize (execOp a.eval o).run P w = r at *
  cases r with
  | ok n w' =>
    cases n <;> simp only [Oper.upon] at h ⊢ <;>
      first
        | exact h
        | exact Calls.mono h (fun e w'' he => by cases e <;> exact he)
        | exact Rows.mono h (fun _ _ he => he)
  | halt x w' => cases x <;> simp only [Oper.upon] at h ⊢ <;> exact h
theorem wpOrd_run {P : Program} {ops : Array Oper} {Q : Exit → Act → World → Prop} {r : List (Bool × Nat)} :
    ∀ (l : List Oper) (k : Nat) {a : Act} {w : World}, (∀ j, j < l.length → l[j]? = ops[k + j]?) →
      wpList P ops (Exit.then (wpOrd P ops Q r) Q) l a w → wpOrd P ops Q ((List.range' k l.length).map (fun i => (false, i)) ++ r) a w
  | [], k, a, w, _, h => h
  | o :: l, k, a, w, hl, h => by
    have h0 : ops[k]? = some o := by simpa using (hl 0 (by simp)).symm
    show wpOp P ops Q k _ a w
    unfold wpOp
    simp only [h0]
    unfold wpList at h
    have ih : ∀ a w, wpList P ops (Exit.then (wpOrd P ops Q r) Q) l a w → wpOrd P ops Q ((List.range' (k + 1) l.length).map (fun i => (false, i)) ++ r) a w :=
      fun a w h => wpOrd_run l (k + 1) (fun j hj => by have := hl (j + 1) (by simpa using hj); simpa [Nat.add_assoc, Nat.add_comm 1 j] using this) h
    split
    · rename_i hw
      rw [if_pos hw] at h
      rcases h with h | ⟨h1, h2⟩
      · exact .inl (Oper.wp_then (Oper.wp_mono ih h))
      · exact .inr ⟨h1, h2⟩
    · rename_i hw
      rw [if_neg hw] at h
      exact ih _ _ h
theorem wpOrd_from {P : Program} {l : List Oper} {Q : Exit → Act → World → Prop} {r : List (Bool × Nat)} (k m : Nat) {a : Act} {w : World} (hk : k + m ≤ l.length)
    (h : wpList P l.toArray (Exit.then (wpOrd P l.toArray Q r) Q) ((l.drop k).take m) a w) : wpOrd P l.toArray Q ((List.range' k m).map (fun i => (false, i)) ++ r) a w := by
  have hlen : ((l.drop k).take m).length = m := by simp; omega
  have := wpOrd_run (r := r) ((l.drop k).take m) k (fun j hj => by
    rw [hlen] at hj
    rw [List.getElem?_take, if_pos hj, List.getElem?_drop]
    simp) h
  rwa [hlen] at this
def vKind (o : Oper) : Bool := match o.op with
  | .move _ => true
  | .slice .. => true
  | _ => false
theorem vKind_spec {P : Program} {o : Oper} {ρ : Operand → Value} {w w' : World} {n : Next} (hv : vKind o = true) (h : (execOp ρ o).run P w = .ok n w') : ∃ v, n = .value v := by
  unfold vKind at hv
  unfold execOp at h
  split at hv
  · rename_i x hx
    rw [hx] at h
    simp only [] at h
    cases h
    exact ⟨_, rfl⟩
  · rename_i t x lo hi mx hx
    rw [hx] at h
    simp only [Sem.run_bind, Sem.run_pure] at h
    cases hr : (Instr.sliceAt t (ρ x) (lo.map ρ) (hi.map ρ) (mx.map ρ)).run P w with
    | ok u w2 =>
      rw [hr] at h
      simp only [Result.andThen] at h
      cases h
      exact ⟨_, rfl⟩
    | halt y w2 =>
      rw [hr] at h
      simp only [Result.andThen] at h
      cases h
  · cases hv
theorem wpOrd_first {P : Program} {l : List Oper} {Q : Exit → Act → World → Prop} {r : List (Bool × Nat)} (k : Nat) {o : Oper} {a : Act} {w : World} (hk : l[k]? = some o) (hv : vKind o = true)
    (h : wpQuiet P l.toArray (fun _ => True) (fun a' => wpOrd P l.toArray Q r a' w) [o] a) : wpOrd P l.toArray Q ((true, k) :: r) a w := by
  unfold wpQuiet at h
  split at h
  · rename_i hw
    obtain ⟨v, h1, h2⟩ := h
    refine ⟨o, v, by simpa using hk, .inl ⟨hw, fun w' => ?_⟩, h2⟩
    have := h1 w' trivial
    unfold Oper.quietAt at this
    cases hr : (execOp a.eval o).run P w' with
    | ok n w2 =>
      rw [hr] at this
      obtain ⟨u, rfl⟩ := vKind_spec hv hr
      simp only [Oper.quietUpon] at this
      rw [this.1, this.2]
    | halt x w2 => rw [hr] at this; exact this.elim
  · rename_i hw
    refine ⟨o, undef, by simpa using hk, .inr ⟨by simpa using hw, rfl⟩, h⟩
end Go.Proofs.Ytbcacebifpagpaa
namespace Go.Proofs.Ytbcacebifpagpaa
open Go.RowKit Go.Shelf
set_option linter.unusedVariables false
def onZ : Nat → Nat → Int
  | 0, 0 => 5
  | 1, 0 => 1
  | 1, 1 => 2
  | _, _ => 0
def onS (g : Nat) (n : Nat) : Sh := ⟨some ⟨g + 3, 0, none⟩, n, 3, fun i => ⟨some ⟨g + i, 0, none⟩, 2, 2, onZ i⟩⟩
theorem onAt {w : World} {g n : Nat} (hn : n ≤ 3) (h0 : Blk w g 3 2 (fun j => (#[.int .i64 5, .int .i64 0] : Array Value).getD j default)) (h1 : Blk w (g + 1) 3 2 (fun j => (#[.int .i64 1, .int .i64 2] : Array Value).getD j default))
    (h2 : Blk w (g + 2) 3 2 (fun j => (#[.int .i64 0, .int .i64 0] : Array Value).getD j default))
    (h3 : Blk w (g + 3) 23 3 (fun j => (#[.slice (some ⟨g, 0, none⟩) 2 2, .slice (some ⟨g + 1, 0, none⟩) 2 2, .slice (some ⟨g + 2, 0, none⟩) 2 2] : Array Value).getD j default)) : (onS g n).At w := by
  refine ⟨hn, by simp [onS, maxLen], fun i hi => ?_⟩
  have hi' : i < 3 := Nat.lt_of_lt_of_le hi hn
  refine ⟨g + 3, 0, rfl, h3.lt, ?_, by simp [onS], by simp [onS, maxLen], fun j hj => ?_⟩
  · match i, hi' with
    | 0, _ => exact h3.cell (j := 0) (by decide)
    | 1, _ => exact h3.cell (j := 1) (by decide)
    | 2, _ => exact h3.cell (j := 2) (by decide)
  · have hj' : j < 2 := hj
    match i, hi' with
    | 0, _ =>
      refine ⟨g, 0, rfl, h0.lt, ?_⟩
      match j, hj' with
      | 0, _ => exact h0.cell (j := 0) (by decide)
      | 1, _ => exact h0.cell (j := 1) (by decide)
    | 1, _ =>
      refine ⟨g + 1, 0, rfl, h1.lt, ?_⟩
      match j, hj' with
      | 0, _ => exact h1.cell (j := 0) (by decide)
      | 1, _ => exact h1.cell (j := 1) (by decide)
    | 2, _ =>
      refine ⟨g + 2, 0, rfl, h2.lt, ?_⟩
      match j, hj' with
      | 0, _ => exact h2.cell (j := 0) (by decide)
      | 1, _ => exact h2.cell (j := 1) (by decide)
theorem begun_used (g1 g2 g : Nat) : usedV (yardP g1 g2) (onS g 3) 1 = 8 ∧ usedE (yardP g1 g2) (onS g 3) 1 = 0 := ⟨by rfl, by rfl⟩
theorem begun_sumW (g1 g2 g : Nat) : sumV (yardP g1 g2) (onS g 3) 0 = 6 ∧ sumE (yardP g1 g2) (onS g 3) 0 = 0 := ⟨by rfl, by rfl⟩
theorem begun_put (g1 g2 g : Nat) : putE (yardP g1 g2) (onS g 3) 0 0 (-5) = 0 ∧ putE (yardP g1 g2) (onS g 3) 0 0 (-6) = 3 := ⟨by rfl, by rfl⟩
theorem begun_check (g1 g2 g : Nat) : shelfE (yardP g1 g2) (onS g 3) = 0 ∧ shelfE (yardP g1 g2) (onS g 2) = 1 := ⟨by rfl, by rfl⟩
theorem begunUsed {w : World} {g1 g2 g : Nat} (hp : (yardP g1 g2).At w) (hs : (onS g 3).At w) :
    Calls Try.prog 15 #[(yardP g1 g2).val, (onS g 3).val, .int .i64 1] w fun e w' => e = .returned (.tuple #[.int .i64 8, .int .i64 0]) ∧ Below w.heap.size w w' := by
  have := Used_any _ _ 1 w hp hs
  rwa [(begun_used g1 g2 g).1, (begun_used g1 g2 g).2] at this
theorem begunSum {w : World} {g1 g2 g : Nat} (hp : (yardP g1 g2).At w) (hs : (onS g 3).At w) :
    Calls Try.prog 16 #[(yardP g1 g2).val, (onS g 3).val, .int .i64 0] w fun e w' => e = .returned (.tuple #[.int .i64 6, .int .i64 0]) ∧ Below w.heap.size w w' := by
  have := Sum_any _ _ 0 w hp hs
  rwa [(begun_sumW g1 g2 g).1, (begun_sumW g1 g2 g).2] at this
theorem begunPut {w : World} {g1 g2 g : Nat} (hp : (yardP g1 g2).At w) (hs : (onS g 3).At w) :
    Calls Try.prog 23 #[(yardP g1 g2).val, (onS g 3).val, .int .i64 0, .int .i64 0, .int .i64 (-5)] w fun e w' => ∃ a c b o b0 o0 c0 b1 o1 c1, e = .returned (.tuple #[.slice a 3 c, .int .i64 0]) ∧ a = some ⟨b, o, none⟩ ∧ 3 ≤ c ∧ c ≤ maxLen ∧ b < w'.heap.size ∧ b0 < w'.heap.size ∧ b1 < w'.heap.size ∧
      w'.cell? ⟨b, o, none⟩ = some (.slice (some ⟨b0, o0, none⟩) 2 c0) ∧ w'.cell? ⟨b0, o0, none⟩ = some (.int .i64 0) ∧
      w'.cell? ⟨b, o + 1, none⟩ = some (.slice (some ⟨b1, o1, none⟩) 2 c1) ∧ w'.cell? ⟨b1, o1 + 1, none⟩ = some (.int .i64 2) ∧ Below w.heap.size w w' := by
  refine (Put_any _ _ 0 0 (-5) w hp hs).mono ?_
  rintro e w' ⟨v, rfl, hr, hB⟩
  unfold PutRes at hr
  rw [if_pos (begun_put g1 g2 g).1] at hr
  obtain ⟨s', rfl, hat, hn, hrow⟩ := hr
  obtain ⟨a, n, c, r⟩ := s'
  dsimp only at hn hrow
  subst hn
  obtain ⟨b, o, rfl, hb, z0, h0⟩ := hat.rows 0 (show 0 < 3 by decide)
  obtain ⟨b', o', he, hb', z1, h1⟩ := hat.rows 1 (show 1 < 3 by decide)
  dsimp only at he z0 z1 h0 h1
  simp only [Option.some.injEq, Addr.mk.injEq, and_true] at he
  obtain ⟨rfl, rfl⟩ := he
  have n0 : (r 0).n = 2 := (hrow 0 (show 0 < 3 by decide)).1
  have n1 : (r 1).n = 2 := (hrow 1 (show 1 < 3 by decide)).1
  obtain ⟨b0, o0, a0, hb0, y0⟩ := h0.ints 0 (by rw [n0]; decide)
  obtain ⟨b1, o1, a1, hb1, y1⟩ := h1.ints 1 (by rw [n1]; decide)
  have v0 : (r 0).z 0 = 0 := (hrow 0 (show 0 < 3 by decide)).2 0 (show 0 < 2 by decide)
  have v1 : (r 1).z 1 = 2 := (hrow 1 (show 1 < 3 by decide)).2 1 (show 1 < 2 by decide)
  rw [n0, a0] at z0
  rw [n1, a1] at z1
  rw [v0] at y0
  rw [v1] at y1
  refine ⟨some ⟨b, o, none⟩, c, b, o, b0, o0, _, b1, o1, _, ?_, rfl, hat.le, hat.cap, hb, hb0, hb1, z0, y0, z1, y1, hB⟩
  rw [(begun_put g1 g2 g).1]
  rfl
theorem begunPut2 {w : World} {g1 g2 g : Nat} (hp : (yardP g1 g2).At w) (hs : (onS g 3).At w) :
    Calls Try.prog 23 #[(yardP g1 g2).val, (onS g 3).val, .int .i64 0, .int .i64 0, .int .i64 (-6)] w fun e w' => e = .returned (.tuple #[.slice none 0 0, .int .i64 3]) ∧ Below w.heap.size w w' := by
  refine (Put_any _ _ 0 0 (-6) w hp hs).mono ?_
  rintro e w' ⟨v, rfl, hr, hB⟩
  unfold PutRes at hr
  rw [if_neg (by rw [(begun_put g1 g2 g).2]; decide)] at hr
  rw [hr, (begun_put g1 g2 g).2]
  exact ⟨rfl, hB⟩
theorem begunCheck {w : World} {g1 g2 g n : Nat} (hp : (yardP g1 g2).At w) (hs : (onS g n).At w) (hn : n = 3 ∨ n = 2) :
    Calls Try.prog 21 #[(yardP g1 g2).val, (onS g n).val] w fun e w' => e = .returned (.int .i64 (if n = 3 then 0 else 1)) ∧ Below w.heap.size w w' := by
  have := shelfCheck_any _ _ w hp hs
  rcases hn with rfl | rfl
  · rwa [(begun_check g1 g2 g).1] at this
  · rwa [(begun_check g1 g2 g).2] at this
set_option maxHeartbeats 1000000 in
theorem shelfBegun_any (w : World) :
    Calls Try.prog 20 #[] w fun e w' => e = .returned (.bool true) ∧ Below w.heap.size w w' := by
  have F : ∃ W0, ((((w.alloc (.cells #[.int .i64 5, .int .i64 0] 3)).alloc (.cells #[.int .i64 1, .int .i64 2] 3)).alloc (.cells #[.int .i64 0, .int .i64 0] 3)).alloc (.cells #[.slice (some ⟨w.heap.size, 0, none⟩) 2 2, .slice (some ⟨w.heap.size + 1, 0, none⟩) 2 2, .slice (some ⟨w.heap.size + 1 + 1, 0, none⟩) 2 2] 23)) = W0 ∧ Below w.heap.size w W0 ∧ (onS w.heap.size 3).At W0 ∧ (onS w.heap.size 2).At W0 := by
    refine ⟨_, rfl, ((((Below.refl _ _).alloc (Nat.le_refl _) _).alloc (by simp) _).alloc (by simp; omega) _).alloc (by simp; omega) _, ?_, ?_⟩
    all_goals exact onAt (by decide) (Blk.alloc (Blk.alloc (Blk.alloc (Blk.mk' rfl rfl) _) _) _) (Blk.alloc (Blk.alloc (Blk.mk' (by simp) rfl) _) _) (Blk.alloc (Blk.mk' (by simp) rfl) _) (Blk.mk' (by simp) rfl)
  obtain ⟨W0, hW, hB0, hon, hon2⟩ := F
  have HW : Hid _ := hW
  clear hW
  go_enter Try.func20, Try.ntmps20
  go_wp2_with fail
  rw [HW.out]
  clear HW
  refine (yard_any _).mono ?_
  rintro e w1 ⟨g1, g2, rfl, -, -, k1, k2, hB1⟩
  go_wp2_with fail
  refine (begunUsed (yardAt k1 k2) (hon.below hB1)).mono ?_
  rintro e w2 ⟨rfl, hB2⟩
  have hC2 := hB1.trans (hB2.mono hB1.size)
  clear k1 k2 hB1 hB2
  go_wp2_with fail
  refine (yard_any _).mono ?_
  rintro e w3 ⟨g1, g2, rfl, -, -, k1, k2, hB1⟩
  have hC3 := hC2.trans (hB1.mono hC2.size)
  go_wp2_with fail
  refine (begunSum (yardAt k1 k2) (hon.below hC3)).mono ?_
  rintro e w4 ⟨rfl, hB2⟩
  have hC4 := hC3.trans (hB2.mono hC3.size)
  clear k1 k2 hB1 hB2 hC2 hC3
  go_wp2_with fail
  refine (yard_any _).mono ?_
  rintro e w5 ⟨g1, g2, rfl, -, -, k1, k2, hB1⟩
  have hC5 := hC4.trans (hB1.mono hC4.size)
  go_wp2_with fail
  refine (begunPut (yardAt k1 k2) (hon.below hC5)).mono ?_
  rintro e w6 ⟨a, c, b, o, b0, o0, c0, b1, o1, c1, rfl, rfl, hc3, hcm, hb, hb0, hb1, z0, y0, z1, y1, hB2⟩
  have hC6 := hC5.trans (hB2.mono hC5.size)
  clear k1 k2 hB1 hB2 hC4 hC5
  go_wp2_with fail
  refine (yard_any _).mono ?_
  rintro e w7 ⟨g1, g2, rfl, -, -, k1, k2, hB1⟩
  have hC7 := hC6.trans (hB1.mono hC6.size)
  go_wp2_with fail
  refine (begunPut2 (yardAt k1 k2) (hon.below hC7)).mono ?_
  rintro e w8 ⟨rfl, hB2⟩
  have hC8 := hC7.trans (hB2.mono hC7.size)
  have hD := hB1.trans (hB2.mono hB1.size)
  have z0' := (hD.cell (p := ⟨b, o, none⟩) hb).trans z0
  have z1' := (hD.cell (p := ⟨b, o + 1, none⟩) hb).trans z1
  have y0' := (hD.cell (p := ⟨b0, o0, none⟩) hb0).trans y0
  have y1' := (hD.cell (p := ⟨b1, o1 + 1, none⟩) hb1).trans y1
  have lb := Nat.lt_of_lt_of_le hb hD.size
  have lb0 := Nat.lt_of_lt_of_le hb0 hD.size
  have lb1 := Nat.lt_of_lt_of_le hb1 hD.size
  clear k1 k2 hB1 hB2 hC6 hC7 z0 z1 y0 y1 hD hb hb0 hb1
  unfold maxLen at hcm
  go_wp2_with fail
  have q0 : w8.cell? ⟨w.heap.size + 1 + 1 + 1, 0, none⟩ = some (.slice (some ⟨w.heap.size, 0, none⟩) 2 2) := by
    obtain ⟨b', o', he, _, hc', _⟩ := (hon.below hC8).rows 0 (show 0 < 3 by decide)
    simp only [onS, Option.some.injEq, Addr.mk.injEq, and_true] at he
    obtain ⟨rfl, rfl⟩ := he
    exact hc'
  have q1 : w8.cell? ⟨w.heap.size, 0, none⟩ = some (.int .i64 5) := by
    obtain ⟨_, _, _, _, _, hr⟩ := (hon.below hC8).rows 0 (show 0 < 3 by decide)
    obtain ⟨b', o', he, _, hc'⟩ := hr.ints 0 (show 0 < 2 by decide)
    simp only [onS, Option.some.injEq, Addr.mk.injEq, and_true] at he
    obtain ⟨rfl, rfl⟩ := he
    exact hc'
  have l0 : w.heap.size + 1 + 1 + 1 < w8.heap.size := by
    obtain ⟨b', o', he, hb', hc', _⟩ := (hon.below hC8).rows 0 (show 0 < 3 by decide)
    simp only [onS, Option.some.injEq, Addr.mk.injEq, and_true] at he
    obtain ⟨rfl, rfl⟩ := he
    exact hb'
  have l1 : w.heap.size < w8.heap.size := by omega
  have hon8 := hon.below hC8
  have hon28 := hon2.below hC8
  have HON : Hid (∀ n, (n = 3 ∨ n = 2) → (onS w.heap.size n).At w8) := fun n hn => by
    rcases hn with rfl | rfl
    · exact hon8
    · exact hon28
  have hBw := hB0.trans (hC8.mono hB0.size)
  have hX : Below w8.heap.size w8 w8.drew := (Below.refl _ _).drew
  have QQ : Hid _ := And.intro z0' (And.intro z1' (And.intro y0' (And.intro y1' (And.intro q0 q1))))
  clear z0' z1' y0' y1' q0 q1 hC8 hon hon2 hon8 hon28
  refine wp_region_ord ([(true, 1)] ++ (List.range' 0 1).map (fun i => (false, i)) ++ (List.range' 2 3).map (fun i => (false, i)) ++ [(true, 6), (true, 7), (false, 5)] ++ (List.range' 8 52).map (fun i => (false, i))) (by kernel_rfl) (by kernel_rfl) (by kernel_rfl) (by kernel_rfl) ?_
  refine wpOrd_first 1 rfl rfl ?_
  go_big_quiet_step (fail)
  refine wpQuiet_nil ?_
  refine wpOrd_from 0 1 (by decide) ?_
  simp only [List.drop_zero, List.take_succ_cons, List.take_zero]
  go_wp2_with fail
  refine (yard_any _).mono ?_
  rintro e wy ⟨g1, g2, rfl, -, -, k1, k2, hB1⟩
  have hX := hX.trans (hB1.mono hX.size)
  clear hB1
  go_wp2_with fail
  refine wpOrd_from 2 3 (by decide) ?_
  simp only [List.drop_succ_cons, List.drop_zero, List.take_succ_cons, List.take_zero]
  go_wp2_with fail
  refine (begunCheck (n := 3) (yardAt k1 k2) ((HON.out _ (by decide)).below hX) (by decide)).mono ?_
  rintro e wc ⟨rfl, hB2⟩
  have hX := hX.trans (hB2.mono hX.size)
  clear hB2 k1 k2
  go_wp2_with fail
  refine wpOrd_first 6 rfl rfl ?_
  go_big_quiet_step (fail)
  refine wpQuiet_nil ?_
  refine wpOrd_first 7 rfl rfl ?_
  go_big_quiet_step (fail)
  refine wpQuiet_nil ?_
  refine wpOrd_from 5 1 (by decide) ?_
  simp only [List.drop_succ_cons, List.drop_zero, List.take_succ_cons, List.take_zero]
  go_wp2_with fail
  refine (yard_any _).mono ?_
  rintro e wy ⟨g1, g2, rfl, -, -, k1, k2, hB1⟩
  have hX := hX.trans (hB1.mono hX.size)
  clear hB1
  go_wp2_with fail
  refine wpOrd_from (r := []) 8 52 (by decide) ?_
  simp only [List.drop_succ_cons, List.drop_zero, List.take_succ_cons, List.take_zero]
  go_wp2_with fail
  refine (begunCheck (n := 2) (yardAt k1 k2) ((HON.out _ (by decide)).below hX) (by decide)).mono ?_
  rintro e wc ⟨rfl, hB2⟩
  have hX := hX.trans (hB2.mono hX.size)
  clear hB2 k1 k2
  have z0 := (hX.cell (p := ⟨b, o, none⟩) lb).trans QQ.out.1
  have z1 := (hX.cell (p := ⟨b, o + 1, none⟩) lb).trans QQ.out.2.1
  have y0 := (hX.cell (p := ⟨b0, o0, none⟩) lb0).trans QQ.out.2.2.1
  have y1 := (hX.cell (p := ⟨b1, o1 + 1, none⟩) lb1).trans QQ.out.2.2.2.1
  have q0 := (hX.cell (p := ⟨w.heap.size + 1 + 1 + 1, 0, none⟩) l0).trans QQ.out.2.2.2.2.1
  have q1 := (hX.cell (p := ⟨w.heap.size, 0, none⟩) l1).trans QQ.out.2.2.2.2.2
  go_wp2_with fail
  refine NoPanic.normal ?_
  go_wp2_with fail
  go_ret
  exact ⟨rfl, hBw.trans (hX.mono hBw.size)⟩
end Go.Proofs.Ytbcacebifpagpaa
namespace Go.Proofs.Ytbcacebifpagpaa
open Go.RowKit Go.Shelf Go.Sort
set_option linter.unusedVariables false
set_option maxRecDepth 100000 in
set_option maxHeartbeats 400000 in
theorem SameInts_yes (r s : Rw) (w : World) (hr : r.At w) (hs : s.At w) (hn : r.n = s.n) (hz : ∀ j, j < r.n → r.z j = s.z j) :
    Calls Try.prog 14 #[r.val, s.val] w fun e w' => e = .returned (.bool true) ∧ Below w.heap.size w w' := by
  obtain ⟨ra, rn, rc, rz⟩ := r
  obtain ⟨sa, sn, sc, sz⟩ := s
  obtain ⟨rle, rcap, rints⟩ := hr
  obtain ⟨sle, scap, sints⟩ := hs
  dsimp only at *
  subst hn
  have HZ : Hid _ := hz
  clear hz
  unfold maxLen at rcap scap
  simp only [Rw.val]
  go_enter Try.func14, Try.ntmps14
  go_wp2_with fail
  go_loopw [5] (fun i wk => ∃ k : Nat, k ≤ rn ∧ i = .int .i64 k ∧ Below w.heap.size w wk) (fun i _ => rn - (intOf i).toNat)
  case atStart => exact ⟨0, Nat.zero_le _, rfl, Below.refl _ _⟩
  case round =>
    obtain ⟨k, hk, rfl, hB⟩ := hrel
    by_cases hlt : k < rn
    · obtain ⟨b1, o1, rfl, hb1, y0⟩ := (rints.below hB) k hlt
      obtain ⟨b2, o2, rfl, hb2, x0⟩ := (sints.below hB) k hlt
      rw [← HZ.out k hlt] at x0
      generalize rz k = Z at y0 x0
      go_wp2_with fail
      go_quiet (fail)
      go_wp2_with fail
      go_roundw
      case rel => exact ⟨k + 1, by omega, by go_num, below_drewN hB _⟩
      case measure => simp [intOf]; omega
    · go_wp2_with fail
      go_ret
      exact ⟨rfl, hB⟩
set_option maxRecDepth 100000 in
set_option maxHeartbeats 1000000 in
theorem SameRows_yes (r s : Sh) (w : World) (hr : r.At w) (hs : s.At w) (hn : r.n = s.n) (hz : ∀ i, i < r.n → (r.r i).n = (s.r i).n ∧ ∀ j, j < (r.r i).n → (r.r i).z j = (s.r i).z j) :
    Calls Try.prog 25 #[r.val, s.val] w fun e w' => e = .returned (.bool true) ∧ Below w.heap.size w w' := by
  obtain ⟨ra, rn, rc, rr⟩ := r
  obtain ⟨sa, sn, sc, sr⟩ := s
  obtain ⟨rle, rcap, rrows⟩ := hr
  obtain ⟨sle, scap, srows⟩ := hs
  dsimp only at *
  subst hn
  have HZ : Hid _ := hz
  clear hz
  unfold maxLen at rcap scap
  simp only [Sh.val]
  go_enter Try.func25, Try.ntmps25
  go_wp2_with fail
  go_loopw [5] (fun i wk => ∃ k : Nat, k ≤ rn ∧ i = .int .i64 k ∧ Below w.heap.size w wk) (fun i _ => rn - (intOf i).toNat)
  case atStart => exact ⟨0, Nat.zero_le _, rfl, Below.refl _ _⟩
  case round =>
    obtain ⟨k, hk, rfl, hB⟩ := hrel
    by_cases hlt : k < rn
    · obtain ⟨b1, o1, rfl, hb1, y0, at1⟩ := (rrows.below hB) k hlt
      obtain ⟨b2, o2, rfl, hb2, x0, at2⟩ := (srows.below hB) k hlt
      have hh := HZ.out k hlt
      have HH : Hid _ := hh
      clear hh
      have y1 : ∀ d os, (grow (redrawn wr d) os).cell? ⟨b1, o1 + k, none⟩ = some (.slice (rr k).a (rr k).n (rr k).c) := fun d os => cell_regrown y0 d os
      have x1 : ∀ d os, (grow (redrawn wr d) os).cell? ⟨b2, o2 + k, none⟩ = some (.slice (sr k).a (sr k).n (sr k).c) := fun d os => cell_regrown x0 d os
      go_wp2_with fail
      refine wp_region_quiet_below (by kernel_rfl) (by kernel_rfl) ?_
      repeat (go_big_quiet_step ((go_at_call 14; exact Calls.regrown_of (SameInts_yes (rr k) (sr k) _ (at1.below (below_regrown _ _ _)) (at2.below (below_regrown _ _ _)) HH.out.1 HH.out.2))))
      refine wpQuiet_nil ?_
      intro _ hw'
      obtain ⟨⟨dq, osq⟩, hw''⟩ := hw'
      subst hw''
      go_wp2_with fail
      go_roundw
      case rel => exact ⟨k + 1, by omega, by go_num, hB.trans ((below_regrown _ _ _).mono hB.size)⟩
      case measure => simp [intOf]; omega
    · go_wp2_with fail
      go_ret
      exact ⟨rfl, hB⟩
theorem Blk.ne {w : World} {g g' : Nat} {e e' : TypeId} {n n' : Nat} {f f' : Nat → Value} (h : Blk w g e n f) (h' : Blk w g' e' n' f') (he : e ≠ e') : g ≠ g' := by
  rintro rfl
  obtain ⟨c, hc, _⟩ := h
  obtain ⟨c', hc', _⟩ := h'
  rw [hc] at hc'
  cases hc'
  exact he rfl
set_option maxRecDepth 100000 in
set_option maxHeartbeats 1000000 in
theorem ownOn_any (s : Sh) (w : World) (hs : s.At w) (hn : s.n ≤ 6) (hn1 : 1 ≤ s.n) (hr : ∀ i, i < s.n → 1 ≤ (s.r i).n ∧ (s.r i).n ≤ 3) :
    Calls Try.prog 49 #[s.val] w fun e w' => ∃ (g c : Nat) (G C : Nat → Nat), e = .returned (.slice (some ⟨g, 0, none⟩) s.n c) ∧ w.heap.size ≤ g ∧ s.n ≤ c ∧ c ≤ maxLen ∧
      Blk w' g 23 s.n (fun i => .slice (some ⟨G i, 0, none⟩) (s.r i).n (C i)) ∧
      (∀ i, i < s.n → w.heap.size ≤ G i ∧ (s.r i).n ≤ C i ∧ C i ≤ maxLen ∧ Blk w' (G i) 3 (s.r i).n (fun j => .int .i64 ((s.r i).z j))) ∧
      (∀ i j, i < j → j < s.n → G i < G j) ∧ Below w.heap.size w w' := by
  obtain ⟨sle, scap, rows⟩ := hs
  obtain ⟨s0, sn, sc, sr⟩ := s
  dsimp only at sle scap rows hn hr hn1
  unfold maxLen at scap
  simp only [Sh.val]
  obtain ⟨i0, hi, hz0, hz1, hz2⟩ := info_parts infoInts
  obtain ⟨i1, hj, hy0, hy1, hy2⟩ := info_parts infoInt
  go_enter Try.func49, Try.ntmps49
  go_wp2_with fail
  go_loopw [3, 4] (fun v i wk => ∃ k : Nat, k ≤ sn ∧ i = .int .i64 k ∧ (∃ (G C : Nat → Nat), wk.ownsRow w.heap.size 23 1 v k ((List.range k).map fun i => Value.slice (some ⟨G i, 0, none⟩) (sr i).n (C i)) ∧
      (∀ i, i < k → w.heap.size ≤ G i ∧ (sr i).n ≤ C i ∧ C i ≤ maxLen ∧ Blk wk (G i) 3 (sr i).n (fun j => .int .i64 ((sr i).z j))) ∧
      (∀ i j, i < j → j < k → G i < G j)) ∧ Below w.heap.size w wk) (fun _ i _ => sn - (intOf i).toNat)
  case atStart => exact ⟨0, Nat.zero_le _, rfl, ⟨fun _ => 0, fun _ => 0, World.ownsRow_nil _ _ _ _, fun i hi => absurd hi (Nat.not_lt_zero _), fun i j _ hj => absurd hj (Nat.not_lt_zero _)⟩, Below.refl _ _⟩
  case round =>
    obtain ⟨k, hk, rfl, hgs, hB⟩ := hrel
    by_cases hlt : k < sn
    · obtain ⟨b, o, rfl, hb, z0, hat⟩ := (rows.below hB) k hlt
      have hr1 := hr k hlt
      obtain ⟨rle, rcap, ints⟩ := hat
      obtain ⟨b1, o1, ha, hb1, y0⟩ := ints 0 (by omega)
      rw [ha] at z0 ints
      clear y0 ha
      have HG : Hid _ := hgs
      clear hgs
      have m1 : (0 : Int) ≤ (k : Int) := by omega
      go_wp2_with (at_builtin; refine wpList_append_own _ rfl (.tmp 12) (.tmp 16) 23 rfl wr.heap.size 3 i1 (.int .i64 0) 1 8 Try.underlying23 hj hy0 hy1 hy2 rfl (by decide) _ _ _ rfl (World.ownsRow_made wr #[] 0 (Nat.le_refl _) (Nat.zero_le _) rfl) ⟨b1, o1, none⟩ (sr k).n (sr k).c ((List.range (sr k).n).map fun j => Value.int .i64 ((sr k).z j)) rfl ?qc1 ?qc2 ?qc3 ?qc4 ?qc5 ?qc6 ?_)
      case qc1 => simp
      case qc2 =>
        intro j u hj
        have hjn : j < (sr k).n := by
          have := (List.getElem?_eq_some_iff.1 hj).1
          simpa using this
        obtain ⟨b', o', he, hb', hcell⟩ := ints j hjn
        simp only [Option.some.injEq, Addr.mk.injEq, and_true] at he
        obtain ⟨rfl, rfl⟩ := he
        rw [Go.WideShapes.add_plain]
        rw [((Below.refl wr.heap.size wr).alloc (Nat.le_refl _) _).cell (p := ⟨b1, o1 + j, none⟩) hb', hcell]
        simp [hjn] at hj
        rw [hj]
      case qc3 => intro u hu; obtain ⟨x, _, rfl⟩ := List.mem_map.1 hu; rfl
      case qc4 => unfold maxLen; omega
      case qc5 => omega
      case qc6 => simp
      intro v' w1 hown hgrow hnil
      obtain ⟨g, c', rfl, h1, h2, h3, h4⟩ := Blk.ofOwns hown hnil
      rw [Nat.mul_one] at h4
      have hB1 : Below wr.heap.size wr w1 := ((Below.refl _ wr).alloc (Nat.le_refl _) _).grown hgrow (by simp) (by intro k hk; simp [Value.ownBlock] at hk; omega)
      have h5 : Blk w1 g 3 (sr k).n (fun j => .int .i64 ((sr k).z j)) := h4.congr (fun j hj => by simp [hj])
      clear hown hgrow hnil ints z0 h4
      obtain ⟨G, C, ho, gr, gm⟩ := HG.out
      have ho1 : w1.ownsRow w.heap.size 23 1 u3 k ((List.range k).map fun i => Value.slice (some ⟨G i, 0, none⟩) (sr i).n (C i)) := ho.kept (row := none) ⟨hB1.os, hB1.tape, hB1.output, hB1.size, fun j hj _ => hB1.block j hj⟩ (by cases h : u3.ownBlock <;> simp)
      have HR : Hid _ := And.intro gr gm
      clear ho gr gm HG
      go_wp2_with (at_builtin; refine wpList_append_own _ rfl (.tmp 11) (.tmp 18) 36 rfl w.heap.size 23 i0 (.slice none 0 0) 1 24 Try.underlying36 hi hz0 hz1 hz2 rfl (by decide) _ _ _ rfl (ho1.alloc _) ⟨w1.heap.size, 0, none⟩ 1 1 [.slice (some ⟨g, 0, none⟩) (sr k).n c'] rfl rfl ?c1 ?c2 ?c3 ?c4 ?c5 ?_)
      case c1 =>
        intro j u hj
        match j, hj with
        | 0, hj => simp at hj; subst hj; simp [Addr.add]
      case c2 => intro u hu; simp at hu; subst hu; rfl
      case c3 => unfold maxLen; omega
      case c4 => omega
      case c5 => have := hB.size; have := hB1.size; simp; omega
      intro v2 w2 hown2 hgrow2 hnil2
      have hB12 := hB.trans (hB1.mono hB.size)
      have hlt2 := ho1.lt
      have hB2 : Below w.heap.size w w2 := (hB12.alloc (by have := hB12.size; omega) _).grown hgrow2 (by have := hB12.size; simp; omega) (fun q hq => (hlt2 q hq).1)
      have keep : ∀ q f n', Blk w1 q 3 n' f → Blk w2 q 3 n' f := fun q f n' hb => by
        refine (hb.alloc _).grown hgrow2 ?_
        intro hq
        rcases ho1.2 with ⟨rfl, _⟩ | ⟨g2, cap2, cur2, rfl, _, hh2, hrest⟩
        · simp [Value.ownBlock] at hq
        · simp only [Value.ownBlock, Option.some.injEq] at hq
          subst hq
          obtain ⟨c3, hc3, _⟩ := hb
          rw [hc3] at hh2
          cases hh2
      have KN := keep _ _ _ h5
      have HK : Hid _ := And.intro hown2 (And.intro KN keep)
      clear hown2 hgrow2 hnil2 KN keep ho1 h5 hlt2
      go_wp2_with fail
      go_roundw
      case rel =>
        obtain ⟨hown2, KN, keep⟩ := HK.out
        obtain ⟨gr, gm⟩ := HR.out
        refine ⟨k + 1, by omega, by go_num, ⟨fun i => if i = k then g else G i, fun i => if i = k then c' else C i, ?_, ?_, ?_⟩, hB2⟩
        · have e : (List.range (k + 1)).map (fun i => Value.slice (some ⟨if i = k then g else G i, 0, none⟩) (sr i).n (if i = k then c' else C i)) = ((List.range k).map fun i => Value.slice (some ⟨G i, 0, none⟩) (sr i).n (C i)) ++ [.slice (some ⟨g, 0, none⟩) (sr k).n c'] := by
            rw [List.range_succ, List.map_append]
            congr 1
            · exact List.map_congr_left fun i hi => by have := List.mem_range.1 hi; simp [show ¬ i = k by omega]
            · simp
          rw [e]
          exact hown2
        · intro i hi
          by_cases hik : i = k
          · subst hik
            simp only [if_true]
            exact ⟨by have := hB.size; omega, h1, h2, KN⟩
          · simp only [hik, if_false]
            have hi2 : i < k := by omega
            exact ⟨(gr i hi2).1, (gr i hi2).2.1, (gr i hi2).2.2.1, keep _ _ _ ((gr i hi2).2.2.2.below hB1)⟩
        · intro i j hij hj
          by_cases hjk : j = k
          · subst hjk
            have := (gr i hij).2.2.2.lt
            simp [show ¬ i = j by omega]
            omega
          · simp [hjk, show ¬ i = k by omega, gm i j hij (by omega)]
      case measure => simp [intOf]; omega
    · go_wp2_with fail
      go_ret
      have hkn : k = sn := by omega
      subst hkn
      obtain ⟨G, C, ho, gr, gm⟩ := hgs
      have hv : ∃ g c, u3 = .slice (some ⟨g, 0, none⟩) k c := by
        rcases ho.2 with ⟨_, h0⟩ | ⟨g2, cap2, cur2, rfl, _⟩
        · omega
        · exact ⟨g2, cap2, rfl⟩
      obtain ⟨g', c'', rfl⟩ := hv
      obtain ⟨g, c, hvv, h1, h2, h3, h4⟩ := Blk.ofOwns ho (by simp)
      rw [Nat.mul_one] at h4
      simp only [Value.slice.injEq, Option.some.injEq, Addr.mk.injEq, and_true, true_and] at hvv
      obtain ⟨rfl, rfl⟩ := hvv
      exact ⟨g', c'', G, C, rfl, h3, h1, h2, h4.congr (fun j hj => by simp [hj]), gr, gm, hB⟩
end Go.Proofs.Ytbcacebifpagpaa
namespace Go.Proofs.Ytbcacebifpagpaa
open Go.RowKit Go.Shelf
set_option linter.unusedVariables false
set_option maxRecDepth 100000 in
set_option maxHeartbeats 1000000 in
theorem PutOf_any (p : Pl) (s : Sh) (bin good n : Int) (w : World) (hp : p.At w) (hs : s.At w) :
    Calls Try.prog 24 #[p.val, s.val, .int .i64 bin, .int .i64 good, .int .i64 n] w fun e w' => ∃ v, e = .returned (.tuple #[v, .int .i64 (putE p s bin good n)]) ∧ PutRes p s bin good n w' v ∧ Below w.heap.size w w' := by
  have hB0 : Below w.heap.size w (w.alloc (.cells #[.slice p.ab p.nb p.cb, .slice p.sa p.ns p.cs] 25)) := (Below.refl w.heap.size w).alloc (Nat.le_refl _) _
  simp only [Pl.val, Sh.val]
  have sle := hs.le
  have scap := hs.cap
  unfold maxLen at scap
  go_enter Try.func24, Try.ntmps24
  go_wp2_with fail
  refine (ShelfError_any p s bin good _ (hp.below hB0) (hs.below hB0)).mono ?_
  rintro e w1 ⟨rfl, hB⟩
  have hBw := hB0.trans (hB.mono (by simp))
  by_cases hE0 : shelfErr p s bin good = 0
  · have h0 : shelfE p s = 0 := by
      by_cases h : shelfE p s = 0
      · exact h
      · unfold shelfErr at hE0; simp [h] at hE0
    have hE := shelfErr_eq (bin := bin) (good := good) h0
    rw [hE0] at hE
    have h12 : inB bin 0 ((s.n : Int) - 1) = true ∧ inB good 0 ((p.ns : Int) - 1) = true := by
      cases h1 : inB bin 0 ((s.n : Int) - 1) <;> cases h2 : inB good 0 ((p.ns : Int) - 1) <;> simp [h1, h2] at hE ⊢
    obtain ⟨h1, h2⟩ := h12
    clear hE
    obtain ⟨m, rfl⟩ := Int.eq_ofNat_of_zero_le (inB_true h1).1
    obtain ⟨q, rfl⟩ := Int.eq_ofNat_of_zero_le (inB_true h2).1
    have hm : m < s.n := by have := (inB_true h1).2; omega
    have hq : q < p.ns := by have := (inB_true h2).2; omega
    obtain ⟨pl, hn, hlen, hnum⟩ := (rightS h0).2
    have hz := hnum m hm q hq
    have hl := hlen m hm
    have h6 := pl.nb6
    have h7 := pl.nb1
    rw [← hn] at h6 h7
    have hr3 : Hid (∀ i, i < s.n → 1 ≤ (s.r i).n ∧ (s.r i).n ≤ 3) := fun i hi => by rw [hlen i hi]; exact ⟨pl.ns1, pl.ns3⟩
    have hs1 := hs.below hBw
    have m1 : (0 : Int) ≤ (m : Int) := by omega
    have m2 : (0 : Int) ≤ (q : Int) := by omega
    have m3 : (m : Int) < (s.n : Int) := by omega
    have m4 : (q : Int) < ((s.r m).n : Int) := by omega
    obtain ⟨b, o, ha, hb, z0, hat⟩ := hs1.rows m hm
    obtain ⟨b1, o1, ha1, hb1, y0⟩ := hat.ints q (by omega)
    rw [ha1] at z0
    have hql : q < (s.r m).n := by omega
    have rle := hat.le
    have rcap := hat.cap
    unfold maxLen at rcap
    have hPE : Hid (putE p s m q n = if inB n (-((s.r m).z q)) (200 - (s.r m).z q) then 0 else 3) := by show putE p s m q n = _; simp [putE, hE0]
    clear pl hn hlen hnum ha1 hat hl h0 h1 h2
    obtain ⟨s0, sn, sc, sr⟩ := s
    dsimp only at *
    subst ha
    cases h3 : inB n (-((sr m).z q)) (200 - (sr m).z q)
    · go_wp2_with fail
      go_quiet ((go_at_call 35; exact Calls.quiet_of_same (within_any _ _ _ _)))
      go_wp2_with fail
      go_ret2
      rw [h3] at hPE
      exact ⟨_, by rw [hPE.out]; rfl, by unfold PutRes; rw [hPE.out]; rfl, below_drewN hBw _⟩
    · go_wp2_with fail
      go_quiet ((go_at_call 35; exact Calls.quiet_of_same (within_any _ _ _ _)))
      have hBw := below_drewN hBw nq
      have hs1 : Sh.At (w1.drewN nq) ⟨some ⟨b, o, none⟩, sn, sc, sr⟩ := hs1.below (below_drewN (Below.refl _ _) nq)
      go_wp2_with fail
      refine (ownOn_any ⟨some ⟨b, o, none⟩, sn, sc, sr⟩ _ hs1 h6 h7 hr3.out).mono ?_
      rintro e w2 ⟨g, c, G, C, rfl, hg, hgc, hgm, gb, gr, gm, hB2⟩
      dsimp only at gb gr gm hgc ⊢
      obtain ⟨g1, g2, g3, g4⟩ := gr m hm
      have d0 := gb.cell hm
      have d1 := g4.cell hql
      have d2 := g4.frozen q
      have hnn := inB_true h3
      have hgm0 := hgm
      unfold maxLen at g3 hgm
      have hB3 := hBw.trans (hB2.mono hBw.size)
      have hge : w.heap.size ≤ G m := by have := hBw.size; omega
      have hne : Hid (∀ i, i < sn → G i ≠ g) := fun i hi => (gr i hi).2.2.2.ne gb (by decide)
      have HH : Hid _ := And.intro gb (And.intro gr gm)
      rw [h3] at hPE
      clear gb gr gm y0 z0
      go_wp2_with fail
      go_region
      go_wp2_with fail
      go_ret2
      refine ⟨_, by rw [hPE.out]; rfl, ?_, ((hB3.setCell (p := ⟨G m, q, none⟩) hge (.int .i64 ((sr m).z q + n))).drew)⟩
      obtain ⟨gb, gr, gm⟩ := HH.out
      unfold PutRes
      rw [hPE.out]
      simp only [if_true]
      refine ⟨⟨some ⟨g, 0, none⟩, sn, c, fun i => ⟨some ⟨G i, 0, none⟩, (sr i).n, C i, fun j => putZ ⟨some ⟨b, o, none⟩, sn, sc, sr⟩ m q n i j⟩⟩, rfl, ⟨hgc, hgm0, ?_⟩, rfl, fun i hi => ⟨rfl, fun j hj => rfl⟩⟩
      have hD : Below (w2.setCell ⟨G m, q, none⟩ (.int .i64 ((sr m).z q + n))).heap.size (w2.setCell ⟨G m, q, none⟩ (.int .i64 ((sr m).z q + n))) (w2.setCell ⟨G m, q, none⟩ (.int .i64 ((sr m).z q + n))).drew := (Below.refl _ _).drew
      refine RowsAt.below ?_ hD
      intro i hi
      have gi := gr i hi
      refine ⟨g, 0, rfl, ?_, ?_, gi.2.1, gi.2.2.1, ?_⟩
      · have := gb.lt; simp [World.setCell]; omega
      · have := gb.other (a := ⟨G m, q, none⟩) (fun e => hne.out m hm e.symm) (.int .i64 ((sr m).z q + n))
        simpa using this.cell hi
      · apply Blk.ints (e := 3)
        by_cases him : i = m
        · subst him
          refine (gi.2.2.2.set q (.int .i64 ((sr i).z q + n))).congr fun j hj => ?_
          by_cases hjq : j = q
          · subst hjq; simp [putZ]
          · simp [putZ, hjq]
        · have hGne : G i ≠ G m := by
            rcases Nat.lt_or_gt_of_ne him with h | h
            · have := gm i m h hm; omega
            · have := gm m i h hi; omega
          refine (gi.2.2.2.other (a := ⟨G m, q, none⟩) hGne (.int .i64 ((sr m).z q + n))).congr fun j hj => ?_
          simp [putZ, him]
  · have hPE : Hid (putE p s bin good n = shelfErr p s bin good) := by show putE p s bin good n = _; simp [putE, hE0]
    go_wp2_with fail
    go_ret2
    exact ⟨_, by rw [hPE.out]; rfl, by unfold PutRes; rw [hPE.out, if_neg hE0]; rfl, hBw⟩
end Go.Proofs.Ytbcacebifpagpaa
namespace Go.Proofs.Ytbcacebifpagpaa
open Go.RowKit Go.Shelf Go.Sort
set_option linter.unusedVariables false
theorem PutRes.sh {p : Pl} {s : Sh} {bin good n : Int} {w : World} {v : Value} (h : PutRes p s bin good n w v) :
    ∃ s' : Sh, v = s'.val ∧ s'.At w ∧ s'.n = (if putE p s bin good n = 0 then s.n else 0) ∧ ∀ i, i < s'.n → (s'.r i).n = (s.r i).n ∧ ∀ j, j < (s.r i).n → (s'.r i).z j = putZ s bin good n i j := by
  unfold PutRes at h
  by_cases h0 : putE p s bin good n = 0
  · rw [if_pos h0] at h
    obtain ⟨s', h1, h2, h3, h4⟩ := h
    exact ⟨s', h1, h2, by rw [if_pos h0]; exact h3, fun i hi => h4 i (by omega)⟩
  · rw [if_neg h0] at h
    exact ⟨⟨none, 0, 0, fun _ => ⟨none, 0, 0, fun _ => 0⟩⟩, h, ⟨Nat.le_refl _, Nat.zero_le _, fun i hi => absurd hi (Nat.not_lt_zero _)⟩, by rw [if_neg h0], fun i hi => absurd hi (Nat.not_lt_zero _)⟩
set_option maxHeartbeats 1000000 in
theorem ShelfPuts_walk (p : Pl) (s : Sh) (bin good n : Int) (w : World) (hp : p.At w) (hs : s.At w) :
    Calls Try.prog 6 #[p.val, s.val, .int .i64 bin, .int .i64 good, .int .i64 n] w fun e w' => e = .returned (.bool true) ∧ Below w.heap.size w w' := by
  have hB0 : Below w.heap.size w (w.alloc (.cells #[.slice p.ab p.nb p.cb, .slice p.sa p.ns p.cs] 25)) := (Below.refl w.heap.size w).alloc (Nat.le_refl _) _
  simp only [Pl.val, Sh.val]
  go_enter Try.func6, Try.ntmps6
  go_wp2_with fail
  refine (Put_any p s bin good n _ (hp.below hB0) (hs.below hB0)).mono ?_
  rintro e w1 ⟨v1, rfl, hr1, hB⟩
  have hBw := hB0.trans (hB.mono (by simp))
  have hsz : w.heap.size < w1.heap.size := by have := hB.size; simp at this; omega
  have c0 : w1.cell? ⟨w.heap.size, 0, none⟩ = some (.slice p.ab p.nb p.cb) := (hB.cell (p := ⟨w.heap.size, 0, none⟩) (by simp)).trans (by simp)
  have c1 : w1.cell? ⟨w.heap.size, 1, none⟩ = some (.slice p.sa p.ns p.cs) := (hB.cell (p := ⟨w.heap.size, 1, none⟩) (by simp)).trans (by simp)
  obtain ⟨x, rfl, xat, xn, xz⟩ := hr1.sh
  go_wp2_with fail
  refine (PutOf_any p s bin good n _ (hp.below hBw) (hs.below hBw)).mono ?_
  rintro e w2 ⟨v2, rfl, hr2, hB2⟩
  obtain ⟨y, rfl, yat, yn, yz⟩ := hr2.sh
  have xat2 := xat.below hB2
  have hn : x.n = y.n := by rw [xn, yn]
  have HZ : Hid (∀ i, i < x.n → (x.r i).n = (y.r i).n ∧ ∀ j, j < (x.r i).n → (x.r i).z j = (y.r i).z j) := fun i hi => by
    have a := xz i hi
    have b := yz i (by omega)
    exact ⟨a.1.trans b.1.symm, fun j hj => (a.2 j (by rw [← a.1]; exact hj)).trans (b.2 j (by rw [← a.1]; exact hj)).symm⟩
  have HN : Hid (x.n = y.n) := hn
  have hBz := hBw.trans (hB2.mono hBw.size)
  clear xn yn xz yz hn hr1 hr2 xat c0 c1
  generalize putE p s bin good n = E
  simp only [Sh.val]
  go_wp2_with fail
  refine (shelfBegun_any _).mono ?_
  rintro e w3 ⟨rfl, hB3⟩
  have hBz := hBz.trans (hB3.mono hBz.size)
  go_wp2_with fail
  refine (SameRows_yes x y _ (xat2.below hB3) (yat.below hB3) HN.out HZ.out).mono ?_
  rintro e w4 ⟨rfl, hB4⟩
  go_wp2_with fail
  go_ret
  exact ⟨rfl, hBz.trans (hB4.mono hBz.size)⟩
end Go.Proofs.Ytbcacebifpagpaa
namespace Go.Proofs.Ytbcacebifpagpaa
open Go.ChangeShapes Go.WideShapes Go.ChangeAt Go.RowKit Go.Joins Go.Deep
set_option linter.unusedVariables false
set_option maxRecDepth 100000
theorem own : ownKnob Try.prog.godebug = none := by kernel_rfl
theorem laidOut : laidOutB Try.prog = true := by kernel_rfl
theorem cellsInt : Try.prog.cellsOf 3 = 1 := by kernel_rfl
theorem cellsInts : Try.prog.cellsOf 23 = 1 := by kernel_rfl
theorem cellsBin : Try.prog.cellsOf 35 = 4 := by kernel_rfl
theorem cellsPlan : Try.prog.cellsOf 25 = 2 := by kernel_rfl
theorem cellsBool : Try.prog.cellsOf 4 = 1 := by kernel_rfl
section
variable {H : Type} {enc : TypeId × Value → H} {w : World} {held : Bool} {spare : Nat → Bool}
theorem addrOf {a : Addr} {i : Nat} {v : Value} (h : w.cell? (a.add i) = some v) (h0 : ∃ v0, w.cell? a = some v0) : ∃ b o, a = ⟨b, o, none⟩ ∧ b < w.heap.size ∧ w.cell? ⟨b, o + i, none⟩ = some v := by
  obtain ⟨b, off, spot⟩ := a
  obtain ⟨v0, h0⟩ := h0
  have hspot : spot = none := World.cell?_spot h0
  subst hspot
  refine ⟨b, off, rfl, World.block_lt_of_cell? w _ h0, ?_⟩
  rw [← Go.WideShapes.add_plain]
  exact h
theorem readInts {fuel : Nat} {cs : List Value} {x : DataW H × List MemPlace} (h : DataW.trod enc Try.prog w 0 spare held fuel 23 cs = some x) : ∃ r : Rw, cs = [r.val] ∧ r.At w := by
  rcases open_slice1 Try.underlying23 cellsInt h with ⟨rfl, _⟩ | ⟨a, len, cap, m, n, V, D, Pl, rfl, hb, hl, hm, hmm, _, hx⟩
  · exact ⟨⟨none, 0, 0, fun _ => 0⟩, rfl, Nat.le_refl _, Nat.zero_le _, fun i hi => absurd hi (Nat.not_lt_zero _)⟩
  · have hlm : len ≤ m := by rw [hmm]; split <;> omega
    obtain ⟨z, hz⟩ := choose_lt (α := Int) (n := len) (p := fun i y => V i = .int .i64 y) (fun i hi => by
      obtain ⟨y, hy, _⟩ := DataW.trod_int Try.underlying3 (hx i (by omega)).2
      simp only [List.cons.injEq, and_true] at hy
      exact ⟨y, hy⟩)
    refine ⟨⟨some a, len, cap, z⟩, rfl, hl, hm, fun i hi => ?_⟩
    have hi' : i < len := hi
    have h0 : ∃ v0, w.cell? a = some v0 := ⟨_, by have := (hx 0 (by omega)).1; simpa [Addr.add] using this⟩
    obtain ⟨b, o, rfl, hb', hc⟩ := addrOf (hx i (by omega)).1 h0
    exact ⟨b, o, rfl, hb', by rw [hc, hz i hi']⟩
theorem readRows {fuel : Nat} {cs : List Value} {x : DataW H × List MemPlace} (h : DataW.trod enc Try.prog w 0 spare held fuel 36 cs = some x) : ∃ s : Sh, cs = [s.val] ∧ s.At w := by
  rcases open_slice1 Try.underlying36 cellsInts h with ⟨rfl, _⟩ | ⟨a, len, cap, m, n, V, D, Pl, rfl, hb, hl, hm, hmm, _, hx⟩
  · exact ⟨⟨none, 0, 0, fun _ => ⟨none, 0, 0, fun _ => 0⟩⟩, rfl, Nat.le_refl _, Nat.zero_le _, fun i hi => absurd hi (Nat.not_lt_zero _)⟩
  · have hlm : len ≤ m := by rw [hmm]; split <;> omega
    haveI : Inhabited Rw := ⟨⟨none, 0, 0, fun _ => 0⟩⟩
    obtain ⟨z, hz⟩ := choose_lt (α := Rw) (n := len) (p := fun i y => V i = y.val ∧ y.At w) (fun i hi => by
      obtain ⟨y, hy, hat⟩ := readInts (hx i (by omega)).2
      simp only [List.cons.injEq, and_true] at hy
      exact ⟨y, hy, hat⟩)
    refine ⟨⟨some a, len, cap, z⟩, rfl, hl, hm, fun i hi => ?_⟩
    have hi' : i < len := hi
    have h0 : ∃ v0, w.cell? a = some v0 := ⟨_, by have := (hx 0 (by omega)).1; simpa [Addr.add] using this⟩
    obtain ⟨b, o, rfl, hb', hc⟩ := addrOf (hx i (by omega)).1 h0
    exact ⟨b, o, rfl, hb', by rw [hc, (hz i hi').1]; rfl, (hz i hi').2⟩
theorem readBin {fuel : Nat} {c0 c1 c2 c3 : Value} {x : DataW H × List MemPlace} (h : DataW.trod enc Try.prog w 0 spare held fuel 35 [c0, c1, c2, c3] = some x) : ∃ y : Bin, c0 = .bool y.front ∧ c1 = .int .i64 y.room ∧ c2 = .int .i64 y.low ∧ c3 = .int .i64 y.high := by
  obtain ⟨y0, y1, y2, y3, n, hx, hl, h0, h1, h2, h3⟩ := trod_struct4 Try.underlying35 h
  simp only [cellsBool, cellsInt, List.drop_succ_cons, List.drop_zero, List.take_succ_cons, List.take_zero] at h0 h1 h2 h3
  obtain ⟨b, e0, _⟩ := DataW.trod_bool Try.underlying4 h0
  obtain ⟨n1, e1, _⟩ := DataW.trod_int Try.underlying3 h1
  obtain ⟨n2, e2, _⟩ := DataW.trod_int Try.underlying3 h2
  obtain ⟨n3, e3, _⟩ := DataW.trod_int Try.underlying3 h3
  simp only [List.cons.injEq, and_true] at e0 e1 e2 e3
  exact ⟨⟨b, n1, n2, n3⟩, e0, e1, e2, e3⟩
theorem cells4 {base : Nat} {a : Addr} {cs : List Value} (h : w.cells? base a 4 = some cs) : ∃ c0 c1 c2 c3, cs = [c0, c1, c2, c3] ∧ w.cell? a = some c0 ∧ w.cell? (a.add 1) = some c1 ∧ w.cell? (a.add 2) = some c2 ∧ w.cell? (a.add 3) = some c3 := by
  obtain ⟨_, hlen, hc⟩ := World.cells?_some h
  match cs, hlen with
  | [c0, c1, c2, c3], _ =>
    refine ⟨c0, c1, c2, c3, rfl, ?_, ?_, ?_, ?_⟩
    · simpa [Addr.add] using hc 0 (by decide)
    · simpa using hc 1 (by decide)
    · simpa using hc 2 (by decide)
    · simpa using hc 3 (by decide)
theorem readBins {fuel : Nat} {cs : List Value} {x : DataW H × List MemPlace} (h : DataW.trod enc Try.prog w 0 spare held fuel 22 cs = some x) : ∃ a n c z, cs = [.slice a n c] ∧ n ≤ c ∧ c ≤ maxLen ∧ BinsAt w a n z := by
  rcases open_slice Try.underlying22 h with ⟨rfl, _⟩ | ⟨a, len, cap, m, n, D, Pl, rfl, hb, hl, hm, hmm, _, hx⟩
  · exact ⟨none, 0, 0, fun _ => ⟨false, 0, 0, 0⟩, rfl, Nat.le_refl _, Nat.zero_le _, fun i hi => absurd hi (Nat.not_lt_zero _)⟩
  · have hlm : len ≤ m := by rw [hmm]; split <;> omega
    rw [cellsBin] at hx
    haveI : Inhabited Bin := ⟨⟨false, 0, 0, 0⟩⟩
    obtain ⟨z, hz⟩ := choose_lt (α := Bin) (n := len) (p := fun i y => w.cell? (a.add (i * 4)) = some (.bool y.front) ∧ w.cell? (a.add (i * 4 + 1)) = some (.int .i64 y.room) ∧ w.cell? (a.add (i * 4 + 2)) = some (.int .i64 y.low) ∧ w.cell? (a.add (i * 4 + 3)) = some (.int .i64 y.high)) (fun i hi => by
      obtain ⟨cs', hc, ht⟩ := hx i (by omega)
      obtain ⟨c0, c1, c2, c3, rfl, k0, k1, k2, k3⟩ := cells4 hc
      obtain ⟨y, rfl, rfl, rfl, rfl⟩ := readBin ht
      rw [add_add] at k1 k2 k3
      exact ⟨y, k0, k1, k2, k3⟩)
    refine ⟨some a, len, cap, z, rfl, hl, hm, fun i hi => ?_⟩
    have h0 : ∃ v0, w.cell? a = some v0 := ⟨_, by have := (hz 0 (by omega)).1; simpa [Addr.add] using this⟩
    obtain ⟨k0, k1, k2, k3⟩ := hz i hi
    obtain ⟨b, o, rfl, hb', e0⟩ := addrOf k0 h0
    rw [Go.WideShapes.add_plain] at k1 k2 k3
    exact ⟨b, o, rfl, hb', e0, by rw [Nat.add_assoc]; exact k1, by rw [Nat.add_assoc]; exact k2, by rw [Nat.add_assoc]; exact k3⟩
theorem openPlan {r : Reach} {b0 : Nat} {v : Value} {d : DataW H} {ps : List MemPlace} (hv : Value.okWide Try.prog w r b0 25 v) (h : DataW.Trod enc Try.prog w 0 spare held 25 v d ps) : ∃ p : Pl, v = p.val ∧ p.At w := by
  obtain ⟨c0, c1, y0, y1, m, rfl, rfl, rfl, hy0, hy1⟩ := open_agg2 Try.underlying25 (by kernel_rfl) cellsPlan hv h
  obtain ⟨a, n, c, z, e0, h1, h2, h3⟩ := readBins hy0
  obtain ⟨rr, e1, hr⟩ := readInts hy1
  simp only [List.cons.injEq, and_true] at e0 e1
  subst e0 e1
  exact ⟨⟨a, n, c, z, rr.a, rr.n, rr.c, rr.z⟩, rfl, h1, h2, h3, hr.le, hr.cap, hr.ints⟩
theorem openShelf {r : Reach} {b0 : Nat} {v : Value} {d : DataW H} {ps : List MemPlace} (hv : Value.okWide Try.prog w r b0 36 v) (h : DataW.Trod enc Try.prog w 0 spare held 36 v d ps) : ∃ s : Sh, v = s.val ∧ s.At w := by
  obtain ⟨a0, len, cap, rfl⟩ := okWide_slice Try.underlying36 hv
  obtain ⟨fuel, hf⟩ := h
  obtain ⟨s, e, hs⟩ := readRows hf
  simp only [Value.cells, List.cons.injEq, and_true] at e
  exact ⟨s, e, hs⟩
end
end Go.Proofs.Ytbcacebifpagpaa

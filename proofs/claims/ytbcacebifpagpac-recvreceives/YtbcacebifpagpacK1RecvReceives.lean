/- Texts that were built one behind the other, joined; what RecvReceives does not reach is left out. -/
import Derived.WalkKit
import Derived.Test.YtbcacebifpagpacRows
import Derived.Laws.EntriesVeiled
import Derived.WalkSpells
import Derived.WalkLawsBesides
import Derived.Deep.QuietTactic
import Derived.BigQuiet
import Derived.Deep.RegionHeld3
import Derived.Shelf.Abstract
import Derived.Maps.AppendAt
import Derived.Orders
import Derived.Lib.QuietBelow
import Derived.Lib.AppendZerosOnto
import Derived.Lib.Walk
import Derived.Lib.SliceRun
import Derived.Laws.AppendOwnNone
import Derived.Deep.OwnRows
import Derived.BigRegion
namespace Go.Proofs.Ytbcacebifpagpac
open Go.RowKit
set_option linter.unusedVariables false
theorem calls_to {P : Program} {f : Nat} {args : Array Value} {w : World} {R : Ending → World → Prop} {v : Value}
    (h : Calls P f args w fun e w' => e = .returned v ∧ w' = w) (k : R (.returned v) w) : Calls P f args w R :=
  h.mono (by rintro e w' ⟨rfl, rfl⟩; exact k)
def inB (n low high : Int) : Bool := decide (low ≤ n ∧ n ≤ high)
theorem inB_true {n low high : Int} (h : inB n low high = true) : low ≤ n ∧ n ≤ high := by simpa [inB] using h
theorem inB_false {n low high : Int} (h : inB n low high = false) : ¬ (low ≤ n ∧ n ≤ high) := by simpa [inB] using h
theorem inB_mk {n low high : Int} (h : low ≤ n ∧ n ≤ high) : inB n low high = true := by simpa [inB] using h
theorem inB_no {n low high : Int} (h : ¬ (low ≤ n ∧ n ≤ high)) : inB n low high = false := by simpa [inB] using h
def anyB (n : Nat) (bad : Nat → Bool) : Bool := (List.range n).any bad
theorem anyB_no {n : Nat} {bad : Nat → Bool} (h : ∀ j, j < n → bad j = false) : anyB n bad = false := by
  unfold anyB; rw [List.any_eq_false]; intro x hx; simp [h x (List.mem_range.1 hx)]
theorem anyB_yes {n k : Nat} {bad : Nat → Bool} (hk : k < n) (h : bad k = true) : anyB n bad = true := by
  unfold anyB; rw [List.any_eq_true]; exact ⟨k, List.mem_range.2 hk, h⟩
theorem anyB_false {n : Nat} {bad : Nat → Bool} (h : anyB n bad = false) : ∀ j, j < n → bad j = false := by
  intro j hj
  cases hb : bad j
  · rfl
  · rw [anyB_yes hj hb] at h; cases h
theorem anyB_succ (n : Nat) (f : Nat → Bool) : anyB (n + 1) f = (anyB n f || f n) := by
  unfold anyB; rw [List.range_succ]; simp
structure Bin where
  front : Bool
  room : Int
  low : Int
  high : Int
def Bin.val (x : Bin) : Value := .agg #[.bool x.front, .int .i64 x.room, .int .i64 x.low, .int .i64 x.high]
def badBin (x : Bin) : Bool := !inB x.room 0 1000 || !inB x.low 0 x.high || decide (200 < x.high)
def badSize (x : Int) : Bool := !inB x 1 9
def badNum (x : Int) : Bool := !inB x 0 200
theorem badBin_eq (x : Bin) : badBin x = (!inB x.room 0 1000 || !inB x.high 0 200 || !inB x.low 0 x.high) := by
  unfold badBin inB
  rw [Bool.eq_iff_iff]
  simp only [Bool.or_eq_true, Bool.not_eq_true', decide_eq_true_eq, decide_eq_false_iff_not]
  omega
def IntsAt (w : World) (a : Option Addr) (n : Nat) (z : Nat → Int) : Prop :=
  ∀ i, i < n → ∃ b o, a = some ⟨b, o, none⟩ ∧ b < w.heap.size ∧ w.cell? ⟨b, o + i, none⟩ = some (.int .i64 (z i))
theorem IntsAt.below {w w' : World} {a : Option Addr} {n : Nat} {z : Nat → Int} (h : IntsAt w a n z) (hB : Below w.heap.size w w') : IntsAt w' a n z := by
  intro i hi
  obtain ⟨b, o, ha, hb, hc⟩ := h i hi
  exact ⟨b, o, ha, Nat.lt_of_lt_of_le hb hB.size, (hB.cell (p := ⟨b, o + i, none⟩) hb).trans hc⟩
def BinsAt (w : World) (a : Option Addr) (n : Nat) (z : Nat → Bin) : Prop :=
  ∀ i, i < n → ∃ b o, a = some ⟨b, o, none⟩ ∧ b < w.heap.size ∧ w.cell? ⟨b, o + i * 4, none⟩ = some (.bool (z i).front) ∧
    w.cell? ⟨b, o + i * 4 + 1, none⟩ = some (.int .i64 (z i).room) ∧ w.cell? ⟨b, o + i * 4 + 2, none⟩ = some (.int .i64 (z i).low) ∧
    w.cell? ⟨b, o + i * 4 + 3, none⟩ = some (.int .i64 (z i).high)
theorem BinsAt.below {w w' : World} {a : Option Addr} {n : Nat} {z : Nat → Bin} (h : BinsAt w a n z) (hB : Below w.heap.size w w') : BinsAt w' a n z := by
  intro i hi
  obtain ⟨b, o, ha, hb, h0, h1, h2, h3⟩ := h i hi
  exact ⟨b, o, ha, Nat.lt_of_lt_of_le hb hB.size, (hB.cell (p := ⟨b, o + i * 4, none⟩) hb).trans h0, (hB.cell (p := ⟨b, o + i * 4 + 1, none⟩) hb).trans h1,
    (hB.cell (p := ⟨b, o + i * 4 + 2, none⟩) hb).trans h2, (hB.cell (p := ⟨b, o + i * 4 + 3, none⟩) hb).trans h3⟩
structure Rw where
  a : Option Addr
  n : Nat
  c : Nat
  z : Nat → Int
def Rw.val (r : Rw) : Value := .slice r.a r.n r.c
structure Rw.At (w : World) (r : Rw) : Prop where
  le : r.n ≤ r.c
  cap : r.c ≤ maxLen
  ints : IntsAt w r.a r.n r.z
theorem Rw.At.below {w w' : World} {r : Rw} (h : r.At w) (hB : Below w.heap.size w w') : r.At w' := ⟨h.le, h.cap, h.ints.below hB⟩
def RowsAt (w : World) (a : Option Addr) (n : Nat) (r : Nat → Rw) : Prop :=
  ∀ i, i < n → ∃ b o, a = some ⟨b, o, none⟩ ∧ b < w.heap.size ∧ w.cell? ⟨b, o + i, none⟩ = some (.slice (r i).a (r i).n (r i).c) ∧ (r i).At w
theorem RowsAt.below {w w' : World} {a : Option Addr} {n : Nat} {z : Nat → Rw} (h : RowsAt w a n z) (hB : Below w.heap.size w w') : RowsAt w' a n z := by
  intro i hi
  obtain ⟨b, o, ha, hb, hc, hr⟩ := h i hi
  exact ⟨b, o, ha, Nat.lt_of_lt_of_le hb hB.size, (hB.cell (p := ⟨b, o + i, none⟩) hb).trans hc, hr.below hB⟩
structure Pl where
  ab : Option Addr
  nb : Nat
  cb : Nat
  zb : Nat → Bin
  sa : Option Addr
  ns : Nat
  cs : Nat
  zs : Nat → Int
def Pl.val (p : Pl) : Value := .agg #[.slice p.ab p.nb p.cb, .slice p.sa p.ns p.cs]
structure Pl.At (w : World) (p : Pl) : Prop where
  leb : p.nb ≤ p.cb
  capb : p.cb ≤ maxLen
  bins : BinsAt w p.ab p.nb p.zb
  les : p.ns ≤ p.cs
  caps : p.cs ≤ maxLen
  sizes : IntsAt w p.sa p.ns p.zs
theorem Pl.At.below {w w' : World} {p : Pl} (h : p.At w) (hB : Below w.heap.size w w') : p.At w' := ⟨h.leb, h.capb, h.bins.below hB, h.les, h.caps, h.sizes.below hB⟩
def planE (p : Pl) : Int :=
  if inB p.nb 1 6 && inB p.ns 1 3 then (if anyB p.nb (fun i => badBin (p.zb i)) || anyB p.ns (fun i => badSize (p.zs i)) then 3 else 0) else 2
structure Sh where
  a : Option Addr
  n : Nat
  c : Nat
  r : Nat → Rw
def Sh.val (s : Sh) : Value := .slice s.a s.n s.c
structure Sh.At (w : World) (s : Sh) : Prop where
  le : s.n ≤ s.c
  cap : s.c ≤ maxLen
  rows : RowsAt w s.a s.n s.r
theorem Sh.At.below {w w' : World} {s : Sh} (h : s.At w) (hB : Below w.heap.size w w') : s.At w' := ⟨h.le, h.cap, h.rows.below hB⟩
def badRow (p : Pl) (r : Rw) : Bool := ((r.n : Int) != (p.ns : Int)) || anyB r.n (fun i => badNum (r.z i))
def shelfE (p : Pl) (s : Sh) : Int :=
  if planE p == 0 then (if ((s.n : Int) != (p.nb : Int)) || anyB s.n (fun i => badRow p (s.r i)) then 1 else 0) else planE p
structure RightP (p : Pl) : Prop where
  nb1 : 1 ≤ p.nb
  nb6 : p.nb ≤ 6
  ns1 : 1 ≤ p.ns
  ns3 : p.ns ≤ 3
  bins : ∀ i, i < p.nb → badBin (p.zb i) = false
  sizes : ∀ i, i < p.ns → 1 ≤ p.zs i ∧ p.zs i ≤ 9
theorem rightP {p : Pl} (h : planE p = 0) : RightP p := by
  unfold planE at h
  cases h1 : (inB p.nb 1 6 && inB p.ns 1 3)
  · simp [h1] at h
  · rw [h1] at h
    simp only [if_true] at h
    cases h2 : (anyB p.nb (fun i => badBin (p.zb i)) || anyB p.ns (fun i => badSize (p.zs i)))
    · rw [Bool.and_eq_true] at h1
      have a := inB_true h1.1
      have b := inB_true h1.2
      rw [Bool.or_eq_false_iff] at h2
      refine ⟨by omega, by omega, by omega, by omega, anyB_false h2.1, fun i hi => ?_⟩
      have c := anyB_false h2.2 i hi
      simp only [badSize, Bool.not_eq_false'] at c
      exact inB_true c
    · simp [h2] at h
structure RightS (p : Pl) (s : Sh) : Prop where
  pl : RightP p
  n : s.n = p.nb
  len : ∀ i, i < s.n → (s.r i).n = p.ns
  num : ∀ i, i < s.n → ∀ j, j < p.ns → 0 ≤ (s.r i).z j ∧ (s.r i).z j ≤ 200
theorem rightS {p : Pl} {s : Sh} (h : shelfE p s = 0) : planE p = 0 ∧ RightS p s := by
  unfold shelfE at h
  by_cases h0 : planE p = 0
  · simp only [h0, beq_self_eq_true, if_true] at h
    cases h2 : (((s.n : Int) != (p.nb : Int)) || anyB s.n (fun i => badRow p (s.r i)))
    · rw [Bool.or_eq_false_iff] at h2
      obtain ⟨a, b⟩ := h2
      have hn : s.n = p.nb := by have h' : (s.n : Int) = (p.nb : Int) := (by simpa using a); omega
      have hr : ∀ i, i < s.n → (s.r i).n = p.ns ∧ ∀ j, j < (s.r i).n → badNum ((s.r i).z j) = false := by
        intro i hi
        have c := anyB_false b i hi
        simp only [badRow, Bool.or_eq_false_iff] at c
        exact ⟨by have h' : ((s.r i).n : Int) = (p.ns : Int) := (by simpa using c.1); omega, anyB_false c.2⟩
      refine ⟨h0, rightP h0, hn, fun i hi => (hr i hi).1, fun i hi j hj => ?_⟩
      have c := (hr i hi).2 j (by rw [(hr i hi).1]; exact hj)
      simp only [badNum, Bool.not_eq_false'] at c
      exact inB_true c
    · simp [h2] at h
  · simp [h0] at h
def usedTo (z zs : Nat → Int) : Nat → Int
  | 0 => 0
  | k + 1 => usedTo z zs k + z k * zs k
def sumTo (z : Nat → Int) : Nat → Int
  | 0 => 0
  | k + 1 => sumTo z k + z k
theorem mul_bd {a b : Int} (ha : 0 ≤ a ∧ a ≤ 200) (hb : 1 ≤ b ∧ b ≤ 9) : 0 ≤ a * b ∧ a * b ≤ 1800 := by
  obtain ⟨a0, a1⟩ := ha
  have : b = 1 ∨ b = 2 ∨ b = 3 ∨ b = 4 ∨ b = 5 ∨ b = 6 ∨ b = 7 ∨ b = 8 ∨ b = 9 := by omega
  rcases this with rfl | rfl | rfl | rfl | rfl | rfl | rfl | rfl | rfl <;> omega
theorem usedTo_bd {z zs : Nat → Int} {n : Nat} (h : ∀ j, j < n → (0 ≤ z j ∧ z j ≤ 200) ∧ 1 ≤ zs j ∧ zs j ≤ 9) : ∀ k, k ≤ n → 0 ≤ usedTo z zs k ∧ usedTo z zs k ≤ 1800 * k
  | 0, _ => by simp [usedTo]
  | k + 1, hk => by
    have ih := usedTo_bd h k (by omega)
    have := mul_bd (h k (by omega)).1 (h k (by omega)).2
    simp only [usedTo]
    omega
theorem sumTo_bd {z : Nat → Int} {n : Nat} (h : ∀ j, j < n → 0 ≤ z j ∧ z j ≤ 200) : ∀ k, k ≤ n → 0 ≤ sumTo z k ∧ sumTo z k ≤ 200 * k
  | 0, _ => by simp [sumTo]
  | k + 1, hk => by
    have ih := sumTo_bd h k (by omega)
    have := h k (by omega)
    simp only [sumTo]
    omega
theorem usedTo_congr {z z' zs : Nat → Int} : ∀ {n : Nat}, (∀ j, j < n → z j = z' j) → usedTo z zs n = usedTo z' zs n
  | 0, _ => rfl
  | n + 1, h => by simp only [usedTo]; rw [usedTo_congr (n := n) fun j hj => h j (by omega), h n (by omega)]
theorem sumTo_congr {z z' : Nat → Int} : ∀ {n : Nat}, (∀ j, j < n → z j = z' j) → sumTo z n = sumTo z' n
  | 0, _ => rfl
  | n + 1, h => by simp only [sumTo]; rw [sumTo_congr (n := n) fun j hj => h j (by omega), h n (by omega)]
def usedE (p : Pl) (s : Sh) (bin : Int) : Int := if shelfE p s == 0 then (if inB bin 0 ((s.n : Int) - 1) then 0 else 3) else shelfE p s
def usedV (p : Pl) (s : Sh) (bin : Int) : Int := if usedE p s bin == 0 then usedTo (s.r bin.toNat).z p.zs p.ns else 0
def sumE (p : Pl) (s : Sh) (good : Int) : Int := if shelfE p s == 0 then (if inB good 0 ((p.ns : Int) - 1) then 0 else 3) else shelfE p s
def sumV (p : Pl) (s : Sh) (good : Int) : Int := if sumE p s good == 0 then sumTo (fun i => (s.r i).z good.toNat) s.n else 0
def shelfErr (p : Pl) (s : Sh) (bin good : Int) : Int := if shelfE p s == 0 then (if inB bin 0 ((p.nb : Int) - 1) && inB good 0 ((p.ns : Int) - 1) then 0 else 3) else shelfE p s
def putE (p : Pl) (s : Sh) (bin good n : Int) : Int :=
  if shelfErr p s bin good == 0 then (if inB n (-((s.r bin.toNat).z good.toNat)) (200 - (s.r bin.toNat).z good.toNat) then 0 else 3) else shelfErr p s bin good
def putZ (s : Sh) (bin good n : Int) (i j : Nat) : Int := if i = bin.toNat ∧ j = good.toNat then (s.r i).z j + n else (s.r i).z j
def PutRes (p : Pl) (s : Sh) (bin good n : Int) (w' : World) (v : Value) : Prop :=
  if putE p s bin good n = 0 then ∃ s' : Sh, v = s'.val ∧ s'.At w' ∧ s'.n = s.n ∧ ∀ i, i < s.n → (s'.r i).n = (s.r i).n ∧ ∀ j, j < (s.r i).n → (s'.r i).z j = putZ s bin good n i j
  else v = .slice none 0 0
theorem PutRes.below {p : Pl} {s : Sh} {bin good n : Int} {w w' : World} {v : Value} (h : PutRes p s bin good n w v) (hB : Below w.heap.size w w') : PutRes p s bin good n w' v := by
  unfold PutRes at *
  split
  · rename_i h0
    rw [if_pos h0] at h
    obtain ⟨s', h1, h2, h3⟩ := h
    exact ⟨s', h1, h2.below hB, h3⟩
  · rename_i h0
    rwa [if_neg h0] at h
theorem shelfErr_eq {p : Pl} {s : Sh} {bin good : Int} (h0 : shelfE p s = 0) : shelfErr p s bin good = if inB bin 0 ((s.n : Int) - 1) && inB good 0 ((p.ns : Int) - 1) then 0 else 3 := by
  have := (rightS h0).2.n
  simp [shelfErr, h0, this]
end Go.Proofs.Ytbcacebifpagpac
namespace Go.Proofs.Ytbcacebifpagpac
open Go.RowKit
set_option linter.unusedVariables false
set_option maxHeartbeats 400000 in
theorem Within_any (n low high : Int) (w : World) :
    Calls Try.prog 55 #[.int .i64 n, .int .i64 low, .int .i64 high] w fun e w' => e = .returned (.bool (inB n low high)) ∧ w' = w := by
  unfold inB
  go_enter Try.func55, Try.ntmps55
  go_wp2
  all_goals go_ret
  all_goals refine ⟨?_, rfl⟩
  all_goals simp
  all_goals omega
set_option maxHeartbeats 400000 in
theorem within_any (n low high : Int) (w : World) :
    Calls Try.prog 48 #[.int .i64 n, .int .i64 low, .int .i64 high] w fun e w' => e = .returned (.bool (inB n low high)) ∧ w' = w := by
  unfold inB
  go_enter Try.func48, Try.ntmps48
  go_wp2
  all_goals go_ret
  all_goals refine ⟨?_, rfl⟩
  all_goals simp
  all_goals omega
set_option maxHeartbeats 400000 in
theorem planCheck1_any (x : Bin) (w : World) :
    Calls Try.prog 65 #[x.val] w fun e w' => e = .returned (.bool (badBin x)) ∧ Below w.heap.size w w' := by
  unfold badBin Bin.val
  go_enter Try.func65, Try.ntmps65
  go_wp2_with (go_at_call 55; refine calls_to (Within_any _ _ _ _) ?_)
  all_goals go_ret
  all_goals exact ⟨by simp [*], (Below.refl _ _).alloc (Nat.le_refl _) _⟩
set_option maxHeartbeats 400000 in
theorem planCheck2_any (x : Int) (w : World) :
    Calls Try.prog 66 #[.int .i64 x] w fun e w' => e = .returned (.bool (badSize x)) ∧ w' = w := by
  unfold badSize
  go_enter Try.func66, Try.ntmps66
  go_wp2_with (go_at_call 55; refine calls_to (Within_any _ _ _ _) ?_)
  all_goals go_ret
  all_goals exact ⟨rfl, rfl⟩
set_option maxHeartbeats 400000 in
theorem idxI (f : Nat) (caps : Array Value) (bad : Nat → Bool)  (a : Option Addr) (n c : Nat) (w : World) (hn : n ≤ c) (hc : c ≤ maxLen) (z : Nat → Int) (hz : IntsAt w a n z)
    (eg : ∀ args w, (callFunc f args).run Try.prog w = .ok (.enter f args) w)
    (hf : Hid (∀ i w1, i < n → Below w.heap.size w w1 → Calls Try.prog f (#[.int .i64 (z i)] ++ caps) w1 fun e w' => e = .returned (.bool (bad i)) ∧ Below w1.heap.size w1 w')) :
    Calls Try.prog 87 #[.slice a n c, .func (.func f) #[] caps] w fun e w' => ∃ r : Int, e = .returned (.int .i64 r) ∧ decide (0 ≤ r) = anyB n bad ∧ Below w.heap.size w w' := by
  unfold maxLen at hc
  go_enter Try.func87, Try.ntmps87
  go_wp2_with fail
  go_loopw [8] (fun i w1 => ∃ k : Nat, k ≤ n ∧ i = .int .i64 k ∧ (∀ j, j < k → bad j = false) ∧ Below w.heap.size w w1) (fun i _ => n - (intOf i).toNat)
  case atStart => exact ⟨0, Nat.zero_le _, rfl, fun j hj => absurd hj (Nat.not_lt_zero _), Below.refl _ _⟩
  case round =>
    obtain ⟨k, hk, rfl, hno, hB⟩ := hrel
    have HN : Hid (∀ j, j < k → bad j = false) := hno
    clear hno
    by_cases hlt : k < n
    · obtain ⟨b, o, rfl, _, hcell⟩ := (hz.below hB) k hlt
      clear hz
      go_wp2_with fail
      refine (hf.out k wr hlt hB).mono ?_
      rintro e w1 ⟨rfl, hB1⟩
      have hB2 := hB.trans (hB1.mono hB.size)
      cases hbad : bad k
      · go_wp2_with fail
        go_roundw
        case rel =>
          refine ⟨k + 1, by omega, by go_num, ?_, hB2⟩
          intro j hj
          by_cases hjk : j = k
          · rw [hjk, hbad]
          · exact HN.out j (by omega)
        case measure => simp [intOf]; omega
      · go_wp2_with fail
        go_ret
        exact ⟨_, rfl, by rw [anyB_yes hlt hbad]; simp, hB2⟩
    · go_wp2_with fail
      go_ret
      have hkn : k = n := by omega
      subst hkn
      exact ⟨_, rfl, by rw [anyB_no HN.out]; decide, hB⟩
set_option maxHeartbeats 400000 in
theorem idxR (f : Nat) (caps : Array Value) (bad : Nat → Bool)  (a : Option Addr) (n c : Nat) (w : World) (hn : n ≤ c) (hc : c ≤ maxLen) (r : Nat → Rw) (hz : RowsAt w a n r)
    (eg : ∀ args w, (callFunc f args).run Try.prog w = .ok (.enter f args) w)
    (hf : Hid (∀ i w1, i < n → Below w.heap.size w w1 → Calls Try.prog f (#[.slice (r i).a (r i).n (r i).c] ++ caps) w1 fun e w' => e = .returned (.bool (bad i)) ∧ Below w1.heap.size w1 w')) :
    Calls Try.prog 109 #[.slice a n c, .func (.func f) #[] caps] w fun e w' => ∃ r : Int, e = .returned (.int .i64 r) ∧ decide (0 ≤ r) = anyB n bad ∧ Below w.heap.size w w' := by
  unfold maxLen at hc
  go_enter Try.func109, Try.ntmps109
  go_wp2_with fail
  go_loopw [8] (fun i w1 => ∃ k : Nat, k ≤ n ∧ i = .int .i64 k ∧ (∀ j, j < k → bad j = false) ∧ Below w.heap.size w w1) (fun i _ => n - (intOf i).toNat)
  case atStart => exact ⟨0, Nat.zero_le _, rfl, fun j hj => absurd hj (Nat.not_lt_zero _), Below.refl _ _⟩
  case round =>
    obtain ⟨k, hk, rfl, hno, hB⟩ := hrel
    have HN : Hid (∀ j, j < k → bad j = false) := hno
    clear hno
    by_cases hlt : k < n
    · obtain ⟨b, o, rfl, _, hcell, _⟩ := (hz.below hB) k hlt
      clear hz
      go_wp2_with fail
      refine (hf.out k wr hlt hB).mono ?_
      rintro e w1 ⟨rfl, hB1⟩
      have hB2 := hB.trans (hB1.mono hB.size)
      cases hbad : bad k
      · go_wp2_with fail
        go_roundw
        case rel =>
          refine ⟨k + 1, by omega, by go_num, ?_, hB2⟩
          intro j hj
          by_cases hjk : j = k
          · rw [hjk, hbad]
          · exact HN.out j (by omega)
        case measure => simp [intOf]; omega
      · go_wp2_with fail
        go_ret
        exact ⟨_, rfl, by rw [anyB_yes hlt hbad]; simp, hB2⟩
    · go_wp2_with fail
      go_ret
      have hkn : k = n := by omega
      subst hkn
      exact ⟨_, rfl, by rw [anyB_no HN.out]; decide, hB⟩
set_option maxHeartbeats 400000 in
theorem idxB (f : Nat) (caps : Array Value) (bad : Nat → Bool)  (a : Option Addr) (n c : Nat) (w : World) (hn : n ≤ c) (hc : c ≤ maxLen) (z : Nat → Bin) (hz : BinsAt w a n z)
    (eg : ∀ args w, (callFunc f args).run Try.prog w = .ok (.enter f args) w)
    (hf : Hid (∀ i w1, i < n → Below w.heap.size w w1 → Calls Try.prog f (#[(z i).val] ++ caps) w1 fun e w' => e = .returned (.bool (bad i)) ∧ Below w1.heap.size w1 w')) :
    Calls Try.prog 108 #[.slice a n c, .func (.func f) #[] caps] w fun e w' => ∃ r : Int, e = .returned (.int .i64 r) ∧ decide (0 ≤ r) = anyB n bad ∧ Below w.heap.size w w' := by
  unfold maxLen at hc
  go_enter Try.func108, Try.ntmps108
  go_wp2_with fail
  go_loopw [8] (fun i w1 => ∃ k : Nat, k ≤ n ∧ i = .int .i64 k ∧ (∀ j, j < k → bad j = false) ∧ Below w.heap.size w w1) (fun i _ => n - (intOf i).toNat)
  case atStart => exact ⟨0, Nat.zero_le _, rfl, fun j hj => absurd hj (Nat.not_lt_zero _), Below.refl _ _⟩
  case round =>
    obtain ⟨k, hk, rfl, hno, hB⟩ := hrel
    have HN : Hid (∀ j, j < k → bad j = false) := hno
    clear hno
    by_cases hlt : k < n
    · obtain ⟨b, o, rfl, _, hcell0, hcell1, hcell2, hcell3⟩ := (hz.below hB) k hlt
      clear hz
      go_wp2_with fail
      refine (hf.out k wr hlt hB).mono ?_
      rintro e w1 ⟨rfl, hB1⟩
      have hB2 := hB.trans (hB1.mono hB.size)
      cases hbad : bad k
      · go_wp2_with fail
        go_roundw
        case rel =>
          refine ⟨k + 1, by omega, by go_num, ?_, hB2⟩
          intro j hj
          by_cases hjk : j = k
          · rw [hjk, hbad]
          · exact HN.out j (by omega)
        case measure => simp [intOf]; omega
      · go_wp2_with fail
        go_ret
        exact ⟨_, rfl, by rw [anyB_yes hlt hbad]; simp, hB2⟩
    · go_wp2_with fail
      go_ret
      have hkn : k = n := by omega
      subst hkn
      exact ⟨_, rfl, by rw [anyB_no HN.out]; decide, hB⟩
set_option maxHeartbeats 400000 in
theorem anyI (f : Nat) (caps : Array Value) (bad : Nat → Bool) (a : Option Addr) (n c : Nat) (w : World) (hn : n ≤ c) (hc : c ≤ maxLen) (z : Nat → Int) (hz : IntsAt w a n z)
    (eg : ∀ args w, (callFunc f args).run Try.prog w = .ok (.enter f args) w)
    (hf : Hid (∀ i w1, i < n → Below w.heap.size w w1 → Calls Try.prog f (#[.int .i64 (z i)] ++ caps) w1 fun e w' => e = .returned (.bool (bad i)) ∧ Below w1.heap.size w1 w')) :
    Calls Try.prog 68 #[.slice a n c, .func (.func f) #[] caps] w fun e w' => e = .returned (.bool (anyB n bad)) ∧ Below w.heap.size w w' := by
  have hc0 := hc
  unfold maxLen at hc
  go_enter Try.func68, Try.ntmps68
  go_wp2_with fail
  refine (idxI f caps bad a n c w hn hc0 z hz eg hf).mono ?_
  rintro e w1 ⟨r, rfl, hr, hB⟩
  have HR : Hid (decide (0 ≤ r) = anyB n bad) := hr
  clear hr
  go_wp2_with fail
  go_ret
  exact ⟨by rw [← HR.out]; rfl, hB⟩
set_option maxHeartbeats 400000 in
theorem anyR (f : Nat) (caps : Array Value) (bad : Nat → Bool) (a : Option Addr) (n c : Nat) (w : World) (hn : n ≤ c) (hc : c ≤ maxLen) (r : Nat → Rw) (hz : RowsAt w a n r)
    (eg : ∀ args w, (callFunc f args).run Try.prog w = .ok (.enter f args) w)
    (hf : Hid (∀ i w1, i < n → Below w.heap.size w w1 → Calls Try.prog f (#[.slice (r i).a (r i).n (r i).c] ++ caps) w1 fun e w' => e = .returned (.bool (bad i)) ∧ Below w1.heap.size w1 w')) :
    Calls Try.prog 71 #[.slice a n c, .func (.func f) #[] caps] w fun e w' => e = .returned (.bool (anyB n bad)) ∧ Below w.heap.size w w' := by
  have hc0 := hc
  unfold maxLen at hc
  go_enter Try.func71, Try.ntmps71
  go_wp2_with fail
  refine (idxR f caps bad a n c w hn hc0 r hz eg hf).mono ?_
  rintro e w1 ⟨r, rfl, hr, hB⟩
  have HR : Hid (decide (0 ≤ r) = anyB n bad) := hr
  clear hr
  go_wp2_with fail
  go_ret
  exact ⟨by rw [← HR.out]; rfl, hB⟩
set_option maxHeartbeats 400000 in
theorem anyBin (f : Nat) (caps : Array Value) (bad : Nat → Bool) (a : Option Addr) (n c : Nat) (w : World) (hn : n ≤ c) (hc : c ≤ maxLen) (z : Nat → Bin) (hz : BinsAt w a n z)
    (eg : ∀ args w, (callFunc f args).run Try.prog w = .ok (.enter f args) w)
    (hf : Hid (∀ i w1, i < n → Below w.heap.size w w1 → Calls Try.prog f (#[(z i).val] ++ caps) w1 fun e w' => e = .returned (.bool (bad i)) ∧ Below w1.heap.size w1 w')) :
    Calls Try.prog 67 #[.slice a n c, .func (.func f) #[] caps] w fun e w' => e = .returned (.bool (anyB n bad)) ∧ Below w.heap.size w w' := by
  have hc0 := hc
  unfold maxLen at hc
  go_enter Try.func67, Try.ntmps67
  go_wp2_with fail
  refine (idxB f caps bad a n c w hn hc0 z hz eg hf).mono ?_
  rintro e w1 ⟨r, rfl, hr, hB⟩
  have HR : Hid (decide (0 ≤ r) = anyB n bad) := hr
  clear hr
  go_wp2_with fail
  go_ret
  exact ⟨by rw [← HR.out]; rfl, hB⟩
end Go.Proofs.Ytbcacebifpagpac
namespace Go.Proofs.Ytbcacebifpagpac
open Go.RowKit Go.Shelf
set_option linter.unusedVariables false
theorem bcell {W w1 : World} (hb : Below W.heap.size W w1) : (∀ b o, b < W.heap.size → w1.cell? ⟨b, o, none⟩ = W.cell? ⟨b, o, none⟩) ∧ (∀ b o, b < W.heap.size → w1.frozen? ⟨b, o, none⟩ = W.frozen? ⟨b, o, none⟩) :=
  ⟨fun b o h => hb.cell (p := ⟨b, o, none⟩) h, fun b o h => hb.frozen (p := ⟨b, o, none⟩) h⟩
set_option maxHeartbeats 400000 in
theorem planCheck_any (p : Pl) (w : World) (hp : p.At w) :
    Calls Try.prog 26 #[p.val] w fun e w' => e = .returned (.int .i64 (planE p)) ∧ Below w.heap.size w w' := by
  obtain ⟨leb, capb, bins, les, caps, sizes⟩ := hp
  have capb0 := capb
  have caps0 := caps
  unfold Pl.val
  unfold maxLen at capb caps
  have b1 := bins.below ((Below.refl w.heap.size w).alloc (Nat.le_refl _) (.cells #[.slice p.ab p.nb p.cb, .slice p.sa p.ns p.cs] 25))
  cases h1 : inB p.nb 1 6
  · go_enter Try.func26, Try.ntmps26
    go_wp2_with (go_at_call 55; refine calls_to (Within_any _ _ _ _) ?_)
    go_ret
    exact ⟨by simp [planE, h1], (Below.refl _ _).alloc (Nat.le_refl _) _⟩
  cases h2 : inB p.ns 1 3
  · go_enter Try.func26, Try.ntmps26
    go_wp2_with (go_at_call 55; refine calls_to (Within_any _ _ _ _) ?_)
    go_ret
    exact ⟨by simp [planE, h2], (Below.refl _ _).alloc (Nat.le_refl _) _⟩
  go_enter Try.func26, Try.ntmps26
  go_wp2_with (go_at_call 55; refine calls_to (Within_any _ _ _ _) ?_)
  refine (anyBin 65 #[] (fun i => badBin (p.zb i)) _ _ _ _ leb capb0 p.zb b1 (enters_of Try.func65 (by kernel_rfl) rfl) (fun i w1 _ _ => by rw [Array.append_empty]; exact planCheck1_any _ _)).mono ?_
  rintro e w1 ⟨rfl, hB⟩
  obtain ⟨hc, hfz⟩ := bcell hB
  have hB0 : Below w.heap.size w w1 := ((Below.refl w.heap.size w).alloc (Nat.le_refl _) _).trans (hB.mono (by simp))
  have s1 := sizes.below hB0
  cases h3 : anyB p.nb (fun i => badBin (p.zb i))
  · go_wp2_with fail
    refine (anyI 66 #[] (fun i => badSize (p.zs i)) _ _ _ _ les caps0 p.zs s1 (enters_of Try.func66 (by kernel_rfl) rfl) (fun i w2 _ _ => by rw [Array.append_empty]; exact (planCheck2_any _ _).mono fun _ _ h => ⟨h.1, h.2 ▸ Below.refl _ _⟩)).mono ?_
    rintro e w2 ⟨rfl, hB2⟩
    have hB3 := hB0.trans (hB2.mono hB0.size)
    cases h4 : anyB p.ns (fun i => badSize (p.zs i))
    · go_wp2_with fail
      go_ret
      exact ⟨by simp [planE, h1, h2, h3, h4], hB3⟩
    · go_wp2_with fail
      go_ret
      exact ⟨by simp [planE, h1, h2, h4], hB3⟩
  · go_wp2_with fail
    go_ret
    exact ⟨by simp [planE, h1, h2, h3], hB0⟩
set_option maxHeartbeats 1000000 in
theorem refCheckPlan_any (p : Pl) (w : World) (hp : p.At w) :
    Calls Try.prog 118 #[p.val] w fun e w' => e = .returned (.int .i64 (planE p)) ∧ Below w.heap.size w w' := by
  obtain ⟨ab, nb, cb, zb, sa, ns, cs, zs⟩ := p
  obtain ⟨leb, capb, bins, les, caps, sizes⟩ := hp
  dsimp only at leb capb bins les caps sizes
  simp only [Pl.val]
  unfold maxLen at capb caps
  cases h1 : inB nb 1 6
  · go_enter Try.func118, Try.ntmps118
    go_wp2_with (go_at_call 48; refine calls_to (within_any _ _ _ _) ?_)
    go_ret
    exact ⟨by simp [planE, h1], (Below.refl _ _).alloc (Nat.le_refl _) _⟩
  cases h2 : inB ns 1 3
  · go_enter Try.func118, Try.ntmps118
    go_wp2_with (go_at_call 48; refine calls_to (within_any _ _ _ _) ?_)
    go_ret
    exact ⟨by simp [planE, h2], (Below.refl _ _).alloc (Nat.le_refl _) _⟩
  have H12 : Hid (inB nb 1 6 = true ∧ inB ns 1 3 = true) := ⟨h1, h2⟩
  go_enter Try.func118, Try.ntmps118
  go_wp2_with (go_at_call 48; refine calls_to (within_any _ _ _ _) ?_)
  clear h1 h2
  go_loopw [3] (fun i w1 => ∃ k : Nat, k ≤ nb ∧ i = .int .i64 k ∧ (∀ j, j < k → badBin (zb j) = false) ∧ Below (w.heap.size + 1) (w.alloc (.cells #[.slice ab nb cb, .slice sa ns cs] 25)) w1) (fun i _ => nb - (intOf i).toNat)
  case atStart => exact ⟨0, Nat.zero_le _, rfl, fun j hj => absurd hj (Nat.not_lt_zero _), Below.refl _ _⟩
  case round =>
    obtain ⟨k, hk, rfl, hno, hB⟩ := hrel
    have HN : Hid (∀ j, j < k → badBin (zb j) = false) := hno
    clear hno
    have hB' : Below w.heap.size w wr := ((Below.refl w.heap.size w).alloc (Nat.le_refl _) _).trans (hB.mono (by omega))
    have hs : w.heap.size + 1 ≤ wr.heap.size := by have := hB.size; simpa using this
    have c0 : wr.cell? ⟨w.heap.size, 0, none⟩ = some (.slice ab nb cb) := (hB.cell (p := ⟨w.heap.size, 0, none⟩) (by simp)).trans (by simp)
    have c1 : wr.cell? ⟨w.heap.size, 1, none⟩ = some (.slice sa ns cs) := (hB.cell (p := ⟨w.heap.size, 1, none⟩) (by simp)).trans (by simp)
    by_cases hlt : k < nb
    · obtain ⟨b, o, rfl, hb, z0, z1, z2, z3⟩ := (bins.below hB') k hlt
      have HB := badBin_eq (zb k)
      cases hbad : badBin (zb k)
      · rw [hbad] at HB
        have hh : inB (zb k).room 0 1000 = true ∧ inB (zb k).high 0 200 = true ∧ inB (zb k).low 0 (zb k).high = true := by simpa [and_assoc] using HB.symm
        obtain ⟨i1, i2, i3⟩ := hh
        clear HB
        go_wp2_with (go_at_call 48; refine calls_to (within_any _ _ _ _) ?_)
        go_roundw
        case rel =>
          refine ⟨k + 1, by omega, by go_num, ?_, hB.alloc (by simpa using hs) _⟩
          intro j hj
          by_cases hjk : j = k
          · rw [hjk, hbad]
          · exact HN.out j (by omega)
        case measure => simp [intOf]; omega
      · rw [hbad] at HB
        have h3 : Hid (anyB nb (fun i => badBin (zb i)) = true) := anyB_yes hlt hbad
        cases i1 : inB (zb k).room 0 1000
        · clear HB
          go_wp2_with (go_at_call 48; refine calls_to (within_any _ _ _ _) ?_)
          go_ret
          exact ⟨by simp [planE, H12.out.1, H12.out.2, h3.out], hB'.alloc (by omega) _⟩
        · cases i2 : inB (zb k).high 0 200
          · clear HB
            go_wp2_with (go_at_call 48; refine calls_to (within_any _ _ _ _) ?_)
            go_ret
            exact ⟨by simp [planE, H12.out.1, H12.out.2, h3.out], hB'.alloc (by omega) _⟩
          · have i3 : inB (zb k).low 0 (zb k).high = false := by simpa [i1, i2] using HB.symm
            clear HB
            go_wp2_with (go_at_call 48; refine calls_to (within_any _ _ _ _) ?_)
            go_ret
            exact ⟨by simp [planE, H12.out.1, H12.out.2, h3.out], hB'.alloc (by omega) _⟩
    · go_wp2_with fail
      have h3 : anyB nb (fun i => badBin (zb i)) = false := anyB_no fun j hj => HN.out j (by omega)
      have H3 : Hid (anyB nb (fun i => badBin (zb i)) = false) := h3
      clear h3 hlt HN bins
      go_loopw [5] (fun i w1 => ∃ k : Nat, k ≤ ns ∧ i = .int .i64 k ∧ (∀ j, j < k → badSize (zs j) = false) ∧ Below (w.heap.size + 1) (w.alloc (.cells #[.slice ab nb cb, .slice sa ns cs] 25)) w1) (fun i _ => ns - (intOf i).toNat)
      case atStart => exact ⟨0, Nat.zero_le _, rfl, fun j hj => absurd hj (Nat.not_lt_zero _), hB⟩
      case round =>
        clear hB hB' hs c0 c1
        obtain ⟨k, hk, rfl, hno, hB⟩ := hrel
        have HN : Hid (∀ j, j < k → badSize (zs j) = false) := hno
        clear hno
        have hB' : Below w.heap.size w wr := ((Below.refl w.heap.size w).alloc (Nat.le_refl _) _).trans (hB.mono (by omega))
        have c1 : wr.cell? ⟨w.heap.size, 1, none⟩ = some (.slice sa ns cs) := (hB.cell (p := ⟨w.heap.size, 1, none⟩) (by simp)).trans (by simp)
        by_cases hlt : k < ns
        · obtain ⟨b, o, rfl, hb, z0⟩ := (sizes.below hB') k hlt
          cases i1 : inB (zs k) 1 9
          · have h4 : Hid (anyB ns (fun i => badSize (zs i)) = true) := anyB_yes hlt (by simp [badSize, i1])
            go_wp2_with (go_at_call 48; refine calls_to (within_any _ _ _ _) ?_)
            go_ret
            exact ⟨by simp [planE, H12.out.1, H12.out.2, h4.out], hB'⟩
          · have hbad : Hid (badSize (zs k) = false) := by show badSize (zs k) = false; simp [badSize, i1]
            go_wp2_with (go_at_call 48; refine calls_to (within_any _ _ _ _) ?_)
            go_roundw
            case rel =>
              refine ⟨k + 1, by omega, by go_num, ?_, hB⟩
              intro j hj
              by_cases hjk : j = k
              · rw [hjk, hbad.out]
              · exact HN.out j (by omega)
            case measure => simp [intOf]; omega
        · go_wp2_with fail
          go_ret
          have h4 : anyB ns (fun i => badSize (zs i)) = false := anyB_no fun j hj => HN.out j (by omega)
          exact ⟨by simp [planE, H12.out.1, H12.out.2, H3.out, h4], hB'⟩
end Go.Proofs.Ytbcacebifpagpac
namespace Go.Proofs.Ytbcacebifpagpac
open Go.RowKit Go.Shelf
set_option linter.unusedVariables false
set_option maxHeartbeats 400000 in
theorem shelfCheck1_any (x : Int) (w : World) :
    Calls Try.prog 69 #[.int .i64 x] w fun e w' => e = .returned (.bool (badNum x)) ∧ w' = w := by
  unfold badNum
  go_enter Try.func69, Try.ntmps69
  go_wp2_with (go_at_call 55; refine calls_to (Within_any _ _ _ _) ?_)
  all_goals go_ret
  all_goals exact ⟨rfl, rfl⟩
set_option maxHeartbeats 400000 in
theorem shelfCheck2_any (B B2 : Nat) (p : Pl) (r : Rw) (w : World) (hr : r.At w) (les : p.ns ≤ p.cs) (caps : p.cs ≤ maxLen)
    (c1 : w.cell? ⟨B, 1, none⟩ = some (.slice p.sa p.ns p.cs)) (c2 : w.cell? ⟨B2, 0, none⟩ = some (.func (.func 69) #[] #[])) :
    Calls Try.prog 70 #[.slice r.a r.n r.c, .pointer (some ⟨B, 0, none⟩), .pointer (some ⟨B2, 0, none⟩)] w fun e w' => e = .returned (.bool (badRow p r)) ∧ Below w.heap.size w w' := by
  obtain ⟨rle, rcap, ints⟩ := hr
  have rcap0 := rcap
  unfold maxLen at rcap caps
  cases h1 : ((r.n : Int) != (p.ns : Int))
  · go_enter Try.func70, Try.ntmps70
    go_wp2_with fail
    refine (anyI 69 #[] (fun i => badNum (r.z i)) _ _ _ _ rle rcap0 r.z ints (enters_of Try.func69 (by kernel_rfl) rfl) (fun i w1 _ _ => by rw [Array.append_empty]; exact (shelfCheck1_any _ _).mono fun _ _ h => ⟨h.1, h.2 ▸ Below.refl _ _⟩)).mono ?_
    rintro e w1 ⟨rfl, hB⟩
    go_wp2_with fail
    go_ret
    exact ⟨by simp [badRow, h1], hB⟩
  · go_enter Try.func70, Try.ntmps70
    go_wp2_with fail
    go_ret
    exact ⟨by simp [badRow, h1], Below.refl _ _⟩
set_option maxHeartbeats 400000 in
theorem shelfCheck_any (p : Pl) (s : Sh) (w : World) (hp : p.At w) (hs : s.At w) :
    Calls Try.prog 33 #[p.val, s.val] w fun e w' => e = .returned (.int .i64 (shelfE p s)) ∧ Below w.heap.size w w' := by
  obtain ⟨sle, scap, rows⟩ := hs
  have scap0 := scap
  unfold maxLen at scap
  have leb := hp.leb
  have capb := hp.capb
  unfold maxLen at capb
  have hB0 : Below w.heap.size w (w.alloc (.cells #[.slice p.ab p.nb p.cb, .slice p.sa p.ns p.cs] 25)) := (Below.refl w.heap.size w).alloc (Nat.le_refl _) _
  simp only [Pl.val, Sh.val]
  go_enter Try.func33, Try.ntmps33
  go_wp2_with fail
  refine (planCheck_any p _ (hp.below hB0)).mono ?_
  rintro e w1 ⟨rfl, hB⟩
  have hBw := hB0.trans (hB.mono (by simp))
  have hsz : w.heap.size < w1.heap.size := by have := hB.size; simp at this; omega
  have c0 : w1.cell? ⟨w.heap.size, 0, none⟩ = some (.slice p.ab p.nb p.cb) := (hB.cell (p := ⟨w.heap.size, 0, none⟩) (by simp)).trans (by simp)
  have c1 : w1.cell? ⟨w.heap.size, 1, none⟩ = some (.slice p.sa p.ns p.cs) := (hB.cell (p := ⟨w.heap.size, 1, none⟩) (by simp)).trans (by simp)
  by_cases h0 : planE p = 0
  · cases h1 : ((s.n : Int) != (p.nb : Int))
    · go_wp2_with fail
      have hBa := hBw.alloc (by omega) (.cells #[Value.func (Fn.func 69) #[] #[]] 78)
      have hrow := rows.below hBa
      refine (anyR 70 #[.pointer (some ⟨w.heap.size, 0, none⟩), .pointer (some ⟨w1.heap.size, 0, none⟩)] (fun i => badRow p (s.r i)) _ _ _ _ sle scap0 s.r hrow (enters_of Try.func70 (by kernel_rfl) rfl) ?_).mono ?_
      · intro i w2 hi hB2
        obtain ⟨_, _, _, _, _, hat⟩ := (hrow.below hB2) i hi
        have d1 : w2.cell? ⟨w.heap.size, 1, none⟩ = some (.slice p.sa p.ns p.cs) := (hB2.cell (p := ⟨w.heap.size, 1, none⟩) (by simp; omega)).trans (by simp [World.cell?_alloc_past, hsz, c1])
        have d2 : w2.cell? ⟨w1.heap.size, 0, none⟩ = some (.func (.func 69) #[] #[]) := (hB2.cell (p := ⟨w1.heap.size, 0, none⟩) (by simp)).trans (by simp)
        exact shelfCheck2_any _ _ p (s.r i) w2 hat hp.les hp.caps d1 d2
      rintro e w2 ⟨rfl, hB2⟩
      have hBz := hBa.trans (hB2.mono (by simp; omega))
      cases h2 : anyB s.n (fun i => badRow p (s.r i))
      · go_wp2_with fail
        go_ret
        exact ⟨by simp [shelfE, h0, h1, h2], hBz⟩
      · go_wp2_with fail
        go_ret
        exact ⟨by simp [shelfE, h0, h2], hBz⟩
    · go_wp2_with fail
      go_ret
      exact ⟨by simp [shelfE, h0, h1], hBw.alloc (by omega) _⟩
  · go_wp2_with fail
    go_ret
    exact ⟨by simp [shelfE, h0], hBw⟩
end Go.Proofs.Ytbcacebifpagpac
namespace Go.Proofs.Ytbcacebifpagpac
open Go.RowKit Go.Shelf
set_option linter.unusedVariables false
set_option maxHeartbeats 1000000 in
theorem refCheckShelf_any (p : Pl) (s : Sh) (w : World) (hp : p.At w) (hs : s.At w) :
    Calls Try.prog 97 #[p.val, s.val] w fun e w' => e = .returned (.int .i64 (shelfE p s)) ∧ Below w.heap.size w w' := by
  obtain ⟨sa, sn, sc, sr⟩ := s
  obtain ⟨sle, scap, rows⟩ := hs
  dsimp only at sle scap rows
  unfold maxLen at scap
  have leb := hp.leb
  have capb := hp.capb
  have les := hp.les
  have caps := hp.caps
  unfold maxLen at capb caps
  have hB0 : Below w.heap.size w (w.alloc (.cells #[.slice p.ab p.nb p.cb, .slice p.sa p.ns p.cs] 25)) := (Below.refl w.heap.size w).alloc (Nat.le_refl _) _
  simp only [Pl.val, Sh.val]
  go_enter Try.func97, Try.ntmps97
  go_wp2_with fail
  refine (refCheckPlan_any p _ (hp.below hB0)).mono ?_
  rintro e w1 ⟨rfl, hB⟩
  have hBw := hB0.trans (hB.mono (by simp))
  have hsz : w.heap.size < w1.heap.size := by have := hB.size; simp at this; omega
  have c0 : w1.cell? ⟨w.heap.size, 0, none⟩ = some (.slice p.ab p.nb p.cb) := (hB.cell (p := ⟨w.heap.size, 0, none⟩) (by simp)).trans (by simp)
  have c1 : w1.cell? ⟨w.heap.size, 1, none⟩ = some (.slice p.sa p.ns p.cs) := (hB.cell (p := ⟨w.heap.size, 1, none⟩) (by simp)).trans (by simp)
  have rows1 := rows.below hBw
  clear hB hB0 rows hp
  by_cases h0 : planE p = 0
  · cases h1 : ((sn : Int) != (p.nb : Int))
    · have H01 : Hid (planE p = 0 ∧ ((sn : Int) != (p.nb : Int)) = false) := ⟨h0, h1⟩
      go_wp2_with fail
      clear h0 h1
      go_loopw [6] (fun i wk => ∃ k : Nat, k ≤ sn ∧ i = .int .i64 k ∧ (∀ j, j < k → badRow p (sr j) = false) ∧ Below w1.heap.size w1 wk) (fun i _ => sn - (intOf i).toNat)
      case atStart => exact ⟨0, Nat.zero_le _, rfl, fun j hj => absurd hj (Nat.not_lt_zero _), Below.refl _ _⟩
      case round =>
        obtain ⟨k, hk, rfl, hno, hB1⟩ := hrel
        have HN : Hid (∀ j, j < k → badRow p (sr j) = false) := hno
        have d1 : wr.cell? ⟨w.heap.size, 1, none⟩ = some (.slice p.sa p.ns p.cs) := (hB1.cell (p := ⟨w.heap.size, 1, none⟩) hsz).trans c1
        clear hno
        by_cases hlt : k < sn
        · obtain ⟨b, o, rfl, hb, z0, hat⟩ := rows1 k hlt
          obtain ⟨rle, rcap, ints⟩ := hat
          unfold maxLen at rcap
          obtain ⟨R, hR⟩ : ∃ R, R = sr k := ⟨_, rfl⟩
          rw [← hR] at z0 rle rcap ints
          have HR : Hid (R = sr k) := hR
          obtain ⟨ra, rn, rc, rz⟩ := R
          dsimp only at z0 rle rcap ints
          have z1 := (hB1.cell (p := ⟨b, o + k, none⟩) hb).trans z0
          have Z0 : Hid (w1.cell? ⟨b, o + k, none⟩ = some (.slice ra rn rc)) := z0
          clear z0 hR
          cases h2 : ((rn : Int) != (p.ns : Int))
          · have H2 : Hid (((rn : Int) != (p.ns : Int)) = false) := h2
            go_wp2_with fail
            go_quiet (fail)
            go_wp2_with fail
            have hB2 := below_drewN hB1 nq
            clear h2
            go_loopw [7] (fun i wk => ∃ g : Nat, g ≤ rn ∧ i = .int .i64 g ∧ (∀ j, j < g → badNum (rz j) = false) ∧ Below w1.heap.size w1 wk) (fun i _ => rn - (intOf i).toNat)
            case atStart => exact ⟨0, Nat.zero_le _, rfl, fun j hj => absurd hj (Nat.not_lt_zero _), hB2⟩
            case round =>
              clear hB1 hB2 z1 d1
              obtain ⟨g, hg, rfl, hno, hB1⟩ := hrel
              have HM : Hid (∀ j, j < g → badNum (rz j) = false) := hno
              clear hno
              have z2 := (hB1.cell (p := ⟨b, o + k, none⟩) hb).trans Z0.out
              by_cases hgt : g < rn
              · obtain ⟨b', o', rfl, hb', y0⟩ := ints g hgt
                have y1 := (hB1.cell (p := ⟨b', o' + g, none⟩) hb').trans y0
                clear y0
                cases i1 : inB (rz g) 0 200
                · have hh : Hid (badNum (rz g) = true) := by show badNum (rz g) = true; simp [badNum, i1]
                  go_wp2_with (go_at_call 48; refine calls_to (within_any _ _ _ _) ?_)
                  go_ret
                  have h3 : anyB sn (fun i => badRow p (sr i)) = true := anyB_yes hlt (by rw [← HR.out]; simp [badRow, anyB_yes (bad := fun i => badNum (rz i)) hgt hh.out])
                  exact ⟨by simp [shelfE, H01.out.1, H01.out.2, h3], hBw.trans (hB1.mono hBw.size)⟩
                · have hh : Hid (badNum (rz g) = false) := by show badNum (rz g) = false; simp [badNum, i1]
                  go_wp2_with (go_at_call 48; refine calls_to (within_any _ _ _ _) ?_)
                  go_roundw
                  case rel =>
                    refine ⟨g + 1, by omega, by go_num, ?_, hB1⟩
                    intro j hj
                    by_cases hjk : j = g
                    · rw [hjk, hh.out]
                    · exact HM.out j (by omega)
                  case measure => simp [intOf]; omega
              · have hh : Hid (badRow p (sr k) = false) := by
                  show badRow p (sr k) = false
                  rw [← HR.out]
                  simp [badRow, H2.out, anyB_no (n := rn) (bad := fun i => badNum (rz i)) fun j hj => HM.out j (by omega)]
                go_wp2_with fail
                go_roundw
                case rel =>
                  refine ⟨k + 1, by omega, by go_num, ?_, hB1⟩
                  intro j hj
                  by_cases hjk : j = k
                  · rw [hjk, hh.out]
                  · exact HN.out j (by omega)
                case measure => simp [intOf]; omega
          · go_wp2_with fail
            go_quiet (fail)
            go_wp2_with fail
            go_ret
            have h3 : anyB sn (fun i => badRow p (sr i)) = true := anyB_yes hlt (by rw [← HR.out]; simp [badRow, h2])
            exact ⟨by simp [shelfE, H01.out.1, H01.out.2, h3], below_drewN (hBw.trans (hB1.mono hBw.size)) _⟩
        · go_wp2_with fail
          go_ret
          have h3 : anyB sn (fun i => badRow p (sr i)) = false := anyB_no fun j hj => HN.out j (by omega)
          exact ⟨by simp [shelfE, H01.out.1, H01.out.2, h3], hBw.trans (hB1.mono hBw.size)⟩
    · go_wp2_with fail
      go_ret
      exact ⟨by simp [shelfE, h0, h1], hBw⟩
  · go_wp2_with fail
    go_ret
    exact ⟨by simp [shelfE, h0], hBw⟩
end Go.Proofs.Ytbcacebifpagpac
namespace Go.Proofs.Ytbcacebifpagpac
open Go.RowKit Go.Shelf
set_option linter.unusedVariables false
set_option maxHeartbeats 400000 in
theorem Has_any (n : Nat) (k : Int) (w : World) (hn : n ≤ maxLen) :
    Calls Try.prog 30 #[.int .i64 n, .int .i64 k] w fun e w' => e = .returned (.bool (inB k 0 ((n : Int) - 1))) ∧ w' = w := by
  unfold maxLen at hn
  go_enter Try.func30, Try.ntmps30
  go_wp2_with (go_at_call 55; refine calls_to (Within_any _ _ _ _) ?_)
  go_ret
  exact ⟨rfl, rfl⟩
set_option maxHeartbeats 400000 in
theorem isBin_any (p : Pl) (k : Int) (w : World) (h1 : p.nb ≤ p.cb) (h2 : p.cb ≤ maxLen) :
    Calls Try.prog 49 #[p.val, .int .i64 k] w fun e w' => e = .returned (.bool (inB k 0 ((p.nb : Int) - 1))) ∧ Below w.heap.size w w' := by
  unfold maxLen at h2
  simp only [Pl.val]
  go_enter Try.func49, Try.ntmps49
  go_wp2_with (go_at_call 48; refine calls_to (within_any _ _ _ _) ?_)
  go_ret
  exact ⟨rfl, (Below.refl _ _).alloc (Nat.le_refl _) _⟩
set_option maxHeartbeats 400000 in
theorem isGood_any (p : Pl) (k : Int) (w : World) (h1 : p.ns ≤ p.cs) (h2 : p.cs ≤ maxLen) :
    Calls Try.prog 58 #[p.val, .int .i64 k] w fun e w' => e = .returned (.bool (inB k 0 ((p.ns : Int) - 1))) ∧ Below w.heap.size w w' := by
  unfold maxLen at h2
  simp only [Pl.val]
  go_enter Try.func58, Try.ntmps58
  go_wp2_with (go_at_call 48; refine calls_to (within_any _ _ _ _) ?_)
  go_ret
  exact ⟨rfl, (Below.refl _ _).alloc (Nat.le_refl _) _⟩
set_option maxHeartbeats 1000000 in
theorem UsedOf_any (p : Pl) (s : Sh) (bin : Nat) (w : World) (hp : p.At w) (hs : s.At w) (hr : RightS p s) (hbin : bin < s.n) :
    Calls Try.prog 106 #[p.val, s.val, .int .i64 bin] w fun e w' => e = .returned (.int .i64 (usedTo (s.r bin).z p.zs p.ns)) ∧ Below w.heap.size w w' := by
  obtain ⟨pl, hn, hlen, hnum⟩ := hr
  have hl := hlen bin hbin
  have hbd : Hid (∀ j, j < p.ns → (0 ≤ (s.r bin).z j ∧ (s.r bin).z j ≤ 200) ∧ 1 ≤ p.zs j ∧ p.zs j ≤ 9) := fun j hj => ⟨hnum bin hbin j hj, pl.sizes j hj⟩
  have hns := pl.ns3
  obtain ⟨ab, nb, cb, zb, sa, ns, cs, zs⟩ := p
  obtain ⟨_, _, _, les, caps, sizes⟩ := hp
  obtain ⟨s0, sn, sc, sr⟩ := s
  obtain ⟨sle, scap, rows⟩ := hs
  dsimp only at hl hbd les caps sizes sle scap rows hbin hns
  obtain ⟨b, o, rfl, hb, z0, hat⟩ := rows bin hbin
  obtain ⟨rle, rcap, ints⟩ := hat
  generalize hR : sr bin = R at z0 rle rcap ints hl hbd
  obtain ⟨ra, rn, rc, rz⟩ := R
  dsimp only at z0 rle rcap ints hl hbd
  subst hl
  have HR : Hid (sr bin = ⟨ra, rn, rc, rz⟩) := hR
  clear hR hlen hnum pl hn rows
  unfold maxLen at scap rcap caps
  simp only [Pl.val, Sh.val]
  go_enter Try.func106, Try.ntmps106
  go_wp2_with fail
  go_loopw [7, 8] (fun u i wk => ∃ k : Nat, k ≤ rn ∧ i = .int .i64 k ∧ u = .int .i64 (usedTo rz zs k) ∧ Below (w.heap.size + 1) (w.alloc (.cells #[.slice ab nb cb, .slice sa rn cs] 25)) wk) (fun _ i _ => rn - (intOf i).toNat)
  case atStart => exact ⟨0, Nat.zero_le _, rfl, rfl, Below.refl _ _⟩
  case round =>
    obtain ⟨k, hk, rfl, rfl, hB⟩ := hrel
    have hB' : Below w.heap.size w wr := ((Below.refl w.heap.size w).alloc (Nat.le_refl _) _).trans (hB.mono (by omega))
    have c1 : wr.cell? ⟨w.heap.size, 1, none⟩ = some (.slice sa rn cs) := (hB.cell (p := ⟨w.heap.size, 1, none⟩) (by simp)).trans (by simp)
    have z1 := (hB'.cell (p := ⟨b, o + bin, none⟩) hb).trans z0
    by_cases hlt : k < rn
    · obtain ⟨b1, o1, rfl, hb1, y0⟩ := (ints.below hB') k hlt
      obtain ⟨b2, o2, rfl, hb2, x0⟩ := (sizes.below hB') k hlt
      have m1 := usedTo_bd hbd.out k hk
      have m2 := mul_bd (hbd.out k hlt).1 (hbd.out k hlt).2
      have HS : Hid (usedTo rz zs (k + 1) = usedTo rz zs k + rz k * zs k) := rfl
      have m3 : (0 : Int) ≤ (bin : Int) := by omega
      generalize usedTo rz zs k = U at m1 HS ⊢
      go_wp2_with fail
      go_quiet (fail)
      go_wp2_with fail
      go_roundw
      case rel => exact ⟨k + 1, by omega, by go_num, by rw [HS.out], below_drewN hB _⟩
      case measure => simp [intOf]; omega
    · go_wp2_with fail
      go_ret
      have hkn : k = rn := by omega
      subst hkn
      exact ⟨by rw [HR.out]; rfl, hB'⟩
set_option maxHeartbeats 1000000 in
theorem SumOf_any (p : Pl) (s : Sh) (good : Nat) (w : World) (hs : s.At w) (hr : RightS p s) (hg : good < p.ns) :
    Calls Try.prog 120 #[s.val, .int .i64 good] w fun e w' => e = .returned (.int .i64 (sumTo (fun i => (s.r i).z good) s.n)) ∧ Below w.heap.size w w' := by
  obtain ⟨pl, hn, hlen, hnum⟩ := hr
  have hbd : Hid (∀ j, j < s.n → 0 ≤ (s.r j).z good ∧ (s.r j).z good ≤ 200) := fun j hj => hnum j hj good hg
  have hl : Hid (∀ j, j < s.n → good < (s.r j).n) := fun j hj => by rw [hlen j hj]; exact hg
  have h6 := pl.nb6
  rw [← hn] at h6
  clear hn hlen hnum pl hg
  obtain ⟨s0, sn, sc, sr⟩ := s
  obtain ⟨sle, scap, rows⟩ := hs
  dsimp only at hbd hl sle scap rows h6
  unfold maxLen at scap
  simp only [Sh.val]
  go_enter Try.func120, Try.ntmps120
  go_wp2_with fail
  go_loopw [5, 6] (fun u i wk => ∃ k : Nat, k ≤ sn ∧ i = .int .i64 k ∧ u = .int .i64 (sumTo (fun i => (sr i).z good) k) ∧ Below w.heap.size w wk) (fun _ i _ => sn - (intOf i).toNat)
  case atStart => exact ⟨0, Nat.zero_le _, rfl, rfl, Below.refl _ _⟩
  case round =>
    obtain ⟨k, hk, rfl, rfl, hB⟩ := hrel
    by_cases hlt : k < sn
    · obtain ⟨b, o, rfl, hb, z0, hat⟩ := (rows.below hB) k hlt
      obtain ⟨rle, rcap, ints⟩ := hat
      have hgl := hl.out k hlt
      obtain ⟨b1, o1, ha, hb1, y0⟩ := ints good hgl
      rw [ha] at z0
      clear ha
      have m1 := sumTo_bd (z := fun i => (sr i).z good) hbd.out k hk
      have m2 := hbd.out k hlt
      have HS : Hid (sumTo (fun i => (sr i).z good) (k + 1) = sumTo (fun i => (sr i).z good) k + (sr k).z good) := rfl
      have m3 : (0 : Int) ≤ (good : Int) := by omega
      generalize sumTo (fun i => (sr i).z good) k = U at m1 HS ⊢
      unfold maxLen at rcap
      go_wp2_with fail
      go_roundw
      case rel => exact ⟨k + 1, by omega, by go_num, by rw [HS.out], hB⟩
      case measure => simp [intOf]; omega
    · go_wp2_with fail
      go_ret
      have hkn : k = sn := by omega
      subst hkn
      exact ⟨rfl, hB⟩
set_option maxHeartbeats 1000000 in
theorem Used_any (p : Pl) (s : Sh) (bin : Int) (w : World) (hp : p.At w) (hs : s.At w) :
    Calls Try.prog 32 #[p.val, s.val, .int .i64 bin] w fun e w' => e = .returned (.tuple #[.int .i64 (usedV p s bin), .int .i64 (usedE p s bin)]) ∧ Below w.heap.size w w' := by
  have hB0 : Below w.heap.size w (w.alloc (.cells #[.slice p.ab p.nb p.cb, .slice p.sa p.ns p.cs] 25)) := (Below.refl w.heap.size w).alloc (Nat.le_refl _) _
  simp only [Pl.val, Sh.val]
  have sle := hs.le
  have scap0 := hs.cap
  have scap := scap0
  unfold maxLen at scap
  have hn0 : s.n ≤ maxLen := Nat.le_trans sle scap0
  go_enter Try.func32, Try.ntmps32
  go_wp2_with fail
  refine (shelfCheck_any p s _ (hp.below hB0) (hs.below hB0)).mono ?_
  rintro e w1 ⟨rfl, hB⟩
  have hBw := hB0.trans (hB.mono (by simp))
  have hsz : w.heap.size < w1.heap.size := by have := hB.size; simp at this; omega
  have c1 : w1.cell? ⟨w.heap.size, 1, none⟩ = some (.slice p.sa p.ns p.cs) := (hB.cell (p := ⟨w.heap.size, 1, none⟩) (by simp)).trans (by simp)
  by_cases h0 : shelfE p s = 0
  · cases h1 : inB bin 0 ((s.n : Int) - 1)
    · go_wp2_with (go_at_call 30; refine calls_to (Has_any _ _ _ hn0) ?_)
      go_ret2
      exact ⟨by simp [usedV, usedE, h0, h1], hBw⟩
    · have H0 : Hid (shelfE p s = 0) := h0
      have H1 : Hid (inB bin 0 ((s.n : Int) - 1) = true) := h1
      obtain ⟨m, rfl⟩ := Int.eq_ofNat_of_zero_le (inB_true h1).1
      have hm : m < s.n := by have := (inB_true h1).2; omega
      have hV : Hid (usedV p s (m : Int) = usedTo (s.r m).z p.zs p.ns ∧ usedE p s (m : Int) = 0) := by
        show _ ∧ _
        simp [usedV, usedE, h0, h1]
      obtain ⟨pl, hn, hlen, hnum⟩ := (rightS h0).2
      have hl := hlen m hm
      have hbd : Hid (∀ j, j < p.ns → (0 ≤ (s.r m).z j ∧ (s.r m).z j ≤ 200) ∧ 1 ≤ p.zs j ∧ p.zs j ≤ 9) := fun j hj => ⟨hnum m hm j hj, pl.sizes j hj⟩
      have hns := pl.ns3
      have hp1 := hp.below hBw
      have hs1 := hs.below hBw
      clear hp hs hB hB0 hlen hnum pl hn
      obtain ⟨ab, nb, cb, zb, sa, ns, cs, zs⟩ := p
      obtain ⟨_, _, _, les, caps, sizes⟩ := hp1
      obtain ⟨s0, sn, sc, sr⟩ := s
      obtain ⟨_, _, rows⟩ := hs1
      dsimp only at *
      obtain ⟨b, o, rfl, hb, z0, hat⟩ := rows m hm
      obtain ⟨rle, rcap, ints⟩ := hat
      generalize hR : sr m = R at z0 rle rcap ints hl hbd
      obtain ⟨ra, rn, rc, rz⟩ := R
      dsimp only at z0 rle rcap ints hl hbd
      subst hl
      have HR : Hid (sr m = ⟨ra, rn, rc, rz⟩) := hR
      clear hR rows
      unfold maxLen at rcap caps
      have m3 : (0 : Int) ≤ (m : Int) := by omega
      go_wp2_with (go_at_call 30; refine calls_to (Has_any _ _ _ hn0) ?_)
      clear h0 h1
      go_loopw [9, 28] (fun u i wk => ∃ k : Nat, k ≤ rn ∧ i = .int .i64 k ∧ u = .int .i64 (usedTo rz zs k) ∧ Below w1.heap.size w1 wk) (fun _ i _ => rn - (intOf i).toNat)
      case atStart => exact ⟨0, Nat.zero_le _, rfl, rfl, Below.refl _ _⟩
      case round =>
        obtain ⟨k, hk, rfl, rfl, hB⟩ := hrel
        obtain ⟨hc, hf⟩ := bcell hB
        by_cases hlt : k < rn
        · obtain ⟨b1, o1, rfl, hb1, y0⟩ := (ints.below hB) k hlt
          obtain ⟨b2, o2, rfl, hb2, x0⟩ := (sizes.below hB) k hlt
          have m1 := usedTo_bd hbd.out k hk
          have m2 := mul_bd (hbd.out k hlt).1 (hbd.out k hlt).2
          have HS : Hid (usedTo rz zs (k + 1) = usedTo rz zs k + rz k * zs k) := rfl
          generalize usedTo rz zs k = U at m1 HS ⊢
          go_wp2_with fail
          go_roundw
          case rel => exact ⟨k + 1, by omega, by go_num, by rw [HS.out], hB⟩
          case measure => simp [intOf]; omega
        · go_wp2_with fail
          go_ret2
          have hkn : k = rn := by omega
          subst hkn
          exact ⟨by rw [hV.out.1, hV.out.2, HR.out]; rfl, hBw.trans (hB.mono hBw.size)⟩
  · go_wp2_with fail
    go_ret2
    exact ⟨by simp [usedV, usedE, h0], hBw⟩
set_option maxHeartbeats 1000000 in
theorem Sum_any (p : Pl) (s : Sh) (good : Int) (w : World) (hp : p.At w) (hs : s.At w) :
    Calls Try.prog 82 #[p.val, s.val, .int .i64 good] w fun e w' => e = .returned (.tuple #[.int .i64 (sumV p s good), .int .i64 (sumE p s good)]) ∧ Below w.heap.size w w' := by
  have hB0 : Below w.heap.size w (w.alloc (.cells #[.slice p.ab p.nb p.cb, .slice p.sa p.ns p.cs] 25)) := (Below.refl w.heap.size w).alloc (Nat.le_refl _) _
  simp only [Pl.val, Sh.val]
  have sle := hs.le
  have scap := hs.cap
  unfold maxLen at scap
  have les := hp.les
  have caps0 := hp.caps
  have hn0 : p.ns ≤ maxLen := Nat.le_trans les caps0
  go_enter Try.func82, Try.ntmps82
  go_wp2_with fail
  refine (shelfCheck_any p s _ (hp.below hB0) (hs.below hB0)).mono ?_
  rintro e w1 ⟨rfl, hB⟩
  have hBw := hB0.trans (hB.mono (by simp))
  have c1 : w1.cell? ⟨w.heap.size, 1, none⟩ = some (.slice p.sa p.ns p.cs) := (hB.cell (p := ⟨w.heap.size, 1, none⟩) (by simp)).trans (by simp)
  by_cases h0 : shelfE p s = 0
  · cases h1 : inB good 0 ((p.ns : Int) - 1)
    · go_wp2_with (go_at_call 30; refine calls_to (Has_any _ _ _ hn0) ?_)
      go_ret2
      exact ⟨by simp [sumV, sumE, h0, h1], hBw⟩
    · obtain ⟨m, rfl⟩ := Int.eq_ofNat_of_zero_le (inB_true h1).1
      have hm : m < p.ns := by have := (inB_true h1).2; omega
      have hV : Hid (sumV p s (m : Int) = sumTo (fun i => (s.r i).z m) s.n ∧ sumE p s (m : Int) = 0) := by
        show _ ∧ _
        simp [sumV, sumE, h0, h1]
      obtain ⟨pl, hn, hlen, hnum⟩ := (rightS h0).2
      have hl : Hid (∀ j, j < s.n → m < (s.r j).n) := fun j hj => by rw [hlen j hj]; exact hm
      have hbd : Hid (∀ j, j < s.n → 0 ≤ (s.r j).z m ∧ (s.r j).z m ≤ 200) := fun j hj => hnum j hj m hm
      have h6 := pl.nb6
      rw [← hn] at h6
      have rows := (hs.below hBw).rows
      clear hp hs hB hB0 hlen hnum pl hn
      have m3 : (0 : Int) ≤ (m : Int) := by omega
      go_wp2_with (go_at_call 30; refine calls_to (Has_any _ _ _ hn0) ?_)
      clear h0 h1 c1
      obtain ⟨s0, sn, sc, sr⟩ := s
      dsimp only at *
      go_loopw [9, 26] (fun u i wk => ∃ k : Nat, k ≤ sn ∧ i = .int .i64 k ∧ u = .int .i64 (sumTo (fun i => (sr i).z m) k) ∧ Below w1.heap.size w1 wk) (fun _ i _ => sn - (intOf i).toNat)
      case atStart => exact ⟨0, Nat.zero_le _, rfl, rfl, Below.refl _ _⟩
      case round =>
        obtain ⟨k, hk, rfl, rfl, hB⟩ := hrel
        by_cases hlt : k < sn
        · obtain ⟨b, o, rfl, hb, z0, hat⟩ := (rows.below hB) k hlt
          obtain ⟨rle, rcap, ints⟩ := hat
          have hgl := hl.out k hlt
          obtain ⟨b1, o1, ha, hb1, y0⟩ := ints m hgl
          rw [ha] at z0
          clear ha
          have m1 := sumTo_bd (z := fun i => (sr i).z m) hbd.out k hk
          have m2 := hbd.out k hlt
          have HS : Hid (sumTo (fun i => (sr i).z m) (k + 1) = sumTo (fun i => (sr i).z m) k + (sr k).z m) := rfl
          generalize sumTo (fun i => (sr i).z m) k = U at m1 HS ⊢
          unfold maxLen at rcap
          go_wp2_with fail
          go_roundw
          case rel => exact ⟨k + 1, by omega, by go_num, by rw [HS.out], hB⟩
          case measure => simp [intOf]; omega
        · go_wp2_with fail
          go_ret2
          have hkn : k = sn := by omega
          subst hkn
          exact ⟨by rw [hV.out.1, hV.out.2]; rfl, hBw.trans (hB.mono hBw.size)⟩
  · go_wp2_with fail
    go_ret2
    exact ⟨by simp [sumV, sumE, h0], hBw⟩
end Go.Proofs.Ytbcacebifpagpac
namespace Go.Proofs.Ytbcacebifpagpac
open Go.RowKit
set_option linter.unusedVariables false
def Blk (w : World) (g : Nat) (e : TypeId) (n : Nat) (f : Nat → Value) : Prop :=
  ∃ cur, w.heap[g]? = some (.cells cur e (0, 0)) ∧ n ≤ cur.size ∧ ∀ j, j < n → cur[j]? = some (f j)
theorem Blk.lt {w : World} {g : Nat} {e : TypeId} {n : Nat} {f : Nat → Value} (h : Blk w g e n f) : g < w.heap.size := by
  obtain ⟨cur, hc, _⟩ := h
  exact (Array.getElem?_eq_some_iff.1 hc).1
theorem Blk.cell {w : World} {g : Nat} {e : TypeId} {n : Nat} {f : Nat → Value} (h : Blk w g e n f) {j : Nat} (hj : j < n) : w.cell? ⟨g, j, none⟩ = some (f j) := by
  obtain ⟨cur, hc, _, hf⟩ := h
  simp [World.cell?, hc, hf j hj]
theorem Blk.frozen {w : World} {g : Nat} {e : TypeId} {n : Nat} {f : Nat → Value} (h : Blk w g e n f) (j : Nat) : w.frozen? ⟨g, j, none⟩ = false := by
  obtain ⟨cur, hc, _, hf⟩ := h
  simp [World.frozen?, hc]
theorem Blk.same {w w' : World} {g : Nat} {e : TypeId} {n : Nat} {f : Nat → Value} (h : Blk w g e n f) (hs : w'.heap[g]? = w.heap[g]?) : Blk w' g e n f := by
  obtain ⟨cur, hc, hr⟩ := h
  exact ⟨cur, hs.trans hc, hr⟩
theorem Blk.below {w w' : World} {g : Nat} {e : TypeId} {n : Nat} {f : Nat → Value} (h : Blk w g e n f) (hB : Below w.heap.size w w') : Blk w' g e n f := h.same (hB.block g h.lt)
theorem Blk.grown {w w' : World} {g : Nat} {e : TypeId} {n : Nat} {f : Nat → Value} {row : Option Nat} (h : Blk w g e n f) (hg : w.grownBy w' row) (hne : some g ≠ row) : Blk w' g e n f := h.same (hg.block g h.lt hne)
theorem Blk.congr {w : World} {g : Nat} {e : TypeId} {n : Nat} {f f' : Nat → Value} (h : Blk w g e n f) (hf : ∀ j, j < n → f j = f' j) : Blk w g e n f' := by
  obtain ⟨cur, hc, hn, hr⟩ := h
  exact ⟨cur, hc, hn, fun j hj => by rw [hr j hj, hf j hj]⟩
theorem Blk.other {w : World} {g : Nat} {e : TypeId} {n : Nat} {f : Nat → Value} (h : Blk w g e n f) {a : Addr} (hne : g ≠ a.block) (v : Value) : Blk (w.setCell a v) g e n f := h.same (Below.heap_setCell w a v g hne)
theorem Blk.set {w : World} {g : Nat} {e : TypeId} {n : Nat} {f : Nat → Value} (h : Blk w g e n f) (j : Nat) (v : Value) : Blk (w.setCell ⟨g, j, none⟩ v) g e n (fun i => if i = j then v else f i) := by
  obtain ⟨cur, hc, hn, hr⟩ := h
  refine ⟨cur.setIfInBounds j v, ?_, by simpa using hn, ?_⟩
  · simp [World.setCell, Array.getElem?_modify, hc]
  · intro i hi
    rw [Array.getElem?_setIfInBounds]
    by_cases hij : i = j
    · subst hij
      simp; omega
    · rw [if_neg (fun e => hij e.symm), hr i hi]; simp [hij]
theorem Blk.new (w : World) (cur : Array Value) (e : TypeId) : Blk (w.alloc (.cells cur e)) w.heap.size e cur.size (fun j => cur.getD j default) := by
  refine ⟨cur, heap_alloc_new w _, Nat.le_refl _, fun j hj => ?_⟩
  simp [Array.getD, hj]
theorem Blk.ofOwns {w : World} {base : Nat} {e : TypeId} {size : Nat} {v : Value} {n : Nat} {xs : List Value} (h : w.ownsRow base e size v n xs) (hn : v ≠ .slice none 0 0) :
    ∃ g c, v = .slice (some ⟨g, 0, none⟩) n c ∧ n ≤ c ∧ c ≤ maxLen ∧ base ≤ g ∧ Blk w g e (n * size) (fun j => xs.getD j default) := by
  obtain ⟨hl, h | ⟨g, cap, cur, rfl, hb, hg, h1, h2, h3, h4⟩⟩ := h
  · exact absurd h.1 hn
  · refine ⟨g, cap, rfl, h1, h2, hb, cur, hg, by rw [h3]; exact Nat.mul_le_mul_right _ h1, fun j hj => ?_⟩
    have : xs[j]? = cur[j]? := by
      rw [← h4, List.getElem?_take, if_pos hj]; simp
    rw [← this, List.getElem?_eq_getElem (by omega)]
    simp [List.getD, List.getElem?_eq_getElem (show j < xs.length by omega)]
theorem Blk.mk' {w : World} {g : Nat} {cur : Array Value} {e : TypeId} {f : Nat → Value} (hg : g = w.heap.size) (hf : f = fun j => cur.getD j default) : Blk (w.alloc (.cells cur e)) g e cur.size f := by
  subst hg hf
  exact Blk.new w cur e
theorem Blk.alloc {w : World} {g : Nat} {e : TypeId} {n : Nat} {f : Nat → Value} (h : Blk w g e n f) (o : Obj) : Blk (w.alloc o) g e n f := h.below ((Below.refl _ _).alloc (Nat.le_refl _) o)
theorem Blk.ints {w : World} {g : Nat} {e : TypeId} {n : Nat} {z : Nat → Int} (h : Blk w g e n (fun j => .int .i64 (z j))) : IntsAt w (some ⟨g, 0, none⟩) n z := fun i hi =>
  ⟨g, 0, rfl, h.lt, by rw [Nat.zero_add]; exact h.cell hi⟩
end Go.Proofs.Ytbcacebifpagpac
namespace Go.Proofs.Ytbcacebifpagpac
open Go.RowKit
set_option linter.unusedVariables false
structure Hd where
  o : Int
  l : Int
  b : Int
  n : Int
def Hd.val (x : Hd) : Value := .agg #[.int .i64 x.o, .int .i64 x.l, .int .i64 x.b, .int .i64 x.n]
def hdCells (x : Hd) : List Value := [.int .i64 x.o, .int .i64 x.l, .int .i64 x.b, .int .i64 x.n]
def fineH (x : Hd) : Bool := inB x.o 0 3 && inB x.l 0 2 && inB x.b 0 5 && inB x.n 1 200
def keyH (x : Hd) : Int := (x.o * 3 + x.l) * 6 + x.b
def cmpI (a b : Int) : Int := if a < b then -1 else if b < a then 1 else 0
def orI (a b c : Int) : Int := if a = 0 then (if b = 0 then c else b) else a
def cmpH (x y : Hd) : Int := orI (cmpI x.o y.o) (cmpI x.l y.l) (cmpI x.b y.b)
theorem fineH_true {x : Hd} (h : fineH x = true) : (0 ≤ x.o ∧ x.o ≤ 3) ∧ (0 ≤ x.l ∧ x.l ≤ 2) ∧ (0 ≤ x.b ∧ x.b ≤ 5) ∧ 1 ≤ x.n ∧ x.n ≤ 200 := by
  simp only [fineH, Bool.and_eq_true] at h
  exact ⟨inB_true h.1.1.1, inB_true h.1.1.2, inB_true h.1.2, inB_true h.2⟩
theorem cmp_key {x y : Hd} (hx : fineH x = true) (hy : fineH y = true) : (0 ≤ cmpH x y ↔ keyH y ≤ keyH x) ∧ (cmpH x y = 0 ↔ keyH x = keyH y) := by
  have a := fineH_true hx
  have b := fineH_true hy
  unfold cmpH orI cmpI keyH
  constructor
  all_goals (repeat' split) <;> omega
def badH (z : Nat → Hd) (i : Nat) : Bool := !fineH (z i) || (decide (0 < i) && decide (0 ≤ cmpH (z (i - 1)) (z i)))
def badK (z : Nat → Hd) (i : Nat) : Bool := !fineH (z i) || (decide (0 < i) && decide (keyH (z i) ≤ keyH (z (i - 1))))
theorem bad_eq (z : Nat → Hd) : ∀ n, anyB n (badK z) = anyB n (badH z)
  | 0 => rfl
  | n + 1 => by
    rw [anyB_succ, anyB_succ, bad_eq z n]
    cases h : anyB n (badH z)
    · simp only [Bool.false_or]
      unfold badK badH
      cases hf : fineH (z n)
      · simp
      · by_cases hn : 0 < n
        · have hp := anyB_false h (n - 1) (by omega)
          have hfp : fineH (z (n - 1)) = true := by
            cases hq : fineH (z (n - 1))
            · simp [badH, hq] at hp
            · rfl
          have := (cmp_key hfp hf).1
          simp only [hn, decide_true, Bool.true_and, Bool.not_true, Bool.false_or]
          rw [Bool.eq_iff_iff]
          simp only [decide_eq_true_eq]
          exact this.symm
        · simp [hn]
    · simp
def checkH (n : Nat) (z : Nat → Hd) : Int := if anyB n (badH z) then 1 else 0
theorem right_fine {n : Nat} {z : Nat → Hd} (h : anyB n (badH z) = false) : ∀ i, i < n → fineH (z i) = true := by
  intro i hi
  have := anyB_false h i hi
  cases hq : fineH (z i)
  · simp [badH, hq] at this
  · rfl
theorem right_step {n : Nat} {z : Nat → Hd} (h : anyB n (badH z) = false) : ∀ i, i + 1 < n → keyH (z i) < keyH (z (i + 1)) := by
  intro i hi
  have h1 := anyB_false h (i + 1) hi
  have f1 := right_fine h i (by omega)
  have f2 := right_fine h (i + 1) hi
  have := (cmp_key f1 f2).1
  simp only [badH, f2, Bool.not_true, Bool.false_or, Nat.succ_pos, decide_true, Bool.true_and, Nat.add_sub_cancel, decide_eq_false_iff_not] at h1
  rw [this] at h1
  omega
theorem right_lt {n : Nat} {z : Nat → Hd} (h : anyB n (badH z) = false) : ∀ i j, i < j → j < n → keyH (z i) < keyH (z j) := by
  intro i j hij hj
  induction j with
  | zero => omega
  | succ j ih =>
    have s := right_step h j hj
    by_cases hij' : i = j
    · subst hij'; exact s
    · have := ih (by omega) (by omega); omega
theorem right_key {n : Nat} {z : Nat → Hd} (h : anyB n (badH z) = false) : ∀ i, i < n → (i : Int) ≤ keyH (z i) ∧ keyH (z i) ≤ 71 := by
  intro i hi
  have f := fineH_true (right_fine h i hi)
  constructor
  · induction i with
    | zero => unfold keyH; omega
    | succ i ih =>
      have := right_step h i hi
      have := ih (by omega) (fineH_true (right_fine h i (by omega)))
      omega
  · unfold keyH; omega
theorem right_len {n : Nat} {z : Nat → Hd} (h : anyB n (badH z) = false) : n ≤ 72 := by
  by_cases hn : n = 0
  · omega
  · have := right_key h (n - 1) (by omega)
    omega
def HdsAt (w : World) (a : Option Addr) (n : Nat) (z : Nat → Hd) : Prop :=
  ∀ i, i < n → ∃ b o, a = some ⟨b, o, none⟩ ∧ b < w.heap.size ∧ w.cell? ⟨b, o + i * 4, none⟩ = some (.int .i64 (z i).o) ∧
    w.cell? ⟨b, o + i * 4 + 1, none⟩ = some (.int .i64 (z i).l) ∧ w.cell? ⟨b, o + i * 4 + 2, none⟩ = some (.int .i64 (z i).b) ∧
    w.cell? ⟨b, o + i * 4 + 3, none⟩ = some (.int .i64 (z i).n)
theorem HdsAt.below {w w' : World} {a : Option Addr} {n : Nat} {z : Nat → Hd} (h : HdsAt w a n z) (hB : Below w.heap.size w w') : HdsAt w' a n z := by
  intro i hi
  obtain ⟨b, o, ha, hb, h0, h1, h2, h3⟩ := h i hi
  exact ⟨b, o, ha, Nat.lt_of_lt_of_le hb hB.size, (hB.cell (p := ⟨b, o + i * 4, none⟩) hb).trans h0, (hB.cell (p := ⟨b, o + i * 4 + 1, none⟩) hb).trans h1,
    (hB.cell (p := ⟨b, o + i * 4 + 2, none⟩) hb).trans h2, (hB.cell (p := ⟨b, o + i * 4 + 3, none⟩) hb).trans h3⟩
structure Hs where
  a : Option Addr
  n : Nat
  c : Nat
  z : Nat → Hd
def Hs.val (s : Hs) : Value := .slice s.a s.n s.c
structure Hs.At (w : World) (s : Hs) : Prop where
  le : s.n ≤ s.c
  cap : s.c ≤ maxLen
  hds : HdsAt w s.a s.n s.z
  nilc : s.a = none → s.c = 0
theorem Hs.At.below {w w' : World} {s : Hs} (h : s.At w) (hB : Below w.heap.size w w') : s.At w' := ⟨h.le, h.cap, h.hds.below hB, h.nilc⟩
end Go.Proofs.Ytbcacebifpagpac
namespace Go.Proofs.Ytbcacebifpagpac
open Go.RowKit
set_option linter.unusedVariables false
def ordB (ops : Array Oper) : List (Bool × Nat) → Array Bool → Bool
  | [], listed => Region.ready .any ops listed == []
  | (h, i) :: r, listed => (if h then (Region.ready .any ops listed).contains i && Region.free .any ops listed i else Region.ready .any ops listed == [i]) && ordB ops r (listed.setIfInBounds i true)
theorem Oper.wp_then {P : Program} {o : Oper} {a : Act} {w : World} {K N : Act → World → Prop} {Q : Exit → Act → World → Prop} (h : o.wp P a w K (Exit.then N Q)) : o.wp P a w K Q := by
  unfold Oper.wp at *
  generalize (execOp a.eval o).run P w = r at *
  cases r with
  | ok n w' =>
    cases n <;> simp only [Oper.upon] at h ⊢ <;>
      first
        | exact h
        | exact Calls.mono h (fun e w'' he => by cases e <;> exact he)
        | exact Rows.mono h (fun _ _ he => he)
  | halt x w' => cases x <;> simp only [Oper.upon] at h ⊢ <;> exact h
end Go.Proofs.Ytbcacebifpagpac
namespace Go.Proofs.Ytbcacebifpagpac
open Go.RowKit
set_option linter.unusedVariables false
def wpOrdS (P : Program) (ops : Array Oper) (Q : Exit → Act → World → Prop) (S : World → Prop) : List (Bool × Nat) → Act → World → Prop
  | [], a, w => Q .normal a w
  | (false, i) :: r, a, w => wpOp P ops Q i (fun a' w' => S w' ∧ wpOrdS P ops Q S r a' w') a w
  | (true, i) :: r, a, w => ∃ o v, ops[i]? = some o ∧ YieldsIf P ops S o v a ∧ wpOrdS P ops Q S r (a.put o.dst v) w
theorem wpAnyH_of_ord {P : Program} {ops : Array Oper} {Q : Exit → Act → World → Prop} {S : World → Prop} (hs : Region.noSelect ops = true)
    (hQ : ∀ c a a' w, Q (.panic c) a w → Q (.panic c) a' w) : ∀ (ord : List (Bool × Nat)) (listed : Array Bool) (a : Act) (w : World),
      ordB ops ord listed = true → S w → wpOrdS P ops Q S ord a w → wpAnyH P .any ops Q S ord.length listed a w
  | [], listed, a, w, hB, _, h => wpAnyH_done (by simpa [ordB] using hB) h _
  | (false, i) :: r, listed, a, w, hB, hS, h => by
    simp only [ordB, Bool.false_eq_true, if_false, Bool.and_eq_true, beq_iff_eq] at hB
    refine wpAnyH_all hB.1 (by simp) fun j hj => ?_
    rw [List.mem_singleton] at hj
    subst hj
    exact wpOp_mono (fun a' w' h' => ⟨h'.1, wpAnyH_of_ord hs hQ r _ a' w' hB.2 h'.1 h'.2⟩) h
  | (true, i) :: r, listed, a, w, hB, hS, h => by
    simp only [ordB, if_true, Bool.and_eq_true] at hB
    obtain ⟨o, v, ho, hy, hn⟩ := h
    exact wpAnyH_take ho hs hB.1.2 hB.1.1 (fun c a w hq => hQ _ _ _ _ hq) hy hS (wpAnyH_of_ord hs hQ r _ _ w hB.2 hS hn)
theorem wp_region_ordS {P : Program} {ops : Array Oper} {Q : Exit → Act → World → Prop} {id : Nat} {a : Act} {w : World} (S : World → Prop) (ord : List (Bool × Nat))
    (hm : P.follows .mixedOrders = true) (hs : Region.noSelect ops = true) (hB : ordB ops ord (Array.replicate ops.size false) = true) (hl : ord.length = ops.size)
    (hS : S w.drew) (h : wpOrdS P ops (NoPanic Q) S ord a w.drew) : (Code.region id ops true).wp P Q a w := by
  refine wp_region_noPanic (wp_region_held (S := S) hm ?_)
  have := wpAnyH_of_ord (Q := NoPanic Q) hs (fun c a a' w h => (h : False).elim) ord (Array.replicate ops.size false) a w.drew hB hS h
  rw [hl] at this
  exact this
theorem wpOrdS_one {P : Program} {l : List Oper} {Q : Exit → Act → World → Prop} {S : World → Prop} {r : List (Bool × Nat)} (k : Nat) {a : Act} {w : World} (hk : k < l.length)
    (h : wpList P l.toArray (Exit.then (fun a' w' => S w' ∧ wpOrdS P l.toArray Q S r a' w') Q) ((l.drop k).take 1) a w) : wpOrdS P l.toArray Q S ((false, k) :: r) a w := by
  have h0 : l.toArray[k]? = some l[k] := by simp [hk]
  have h1 : (l.drop k).take 1 = [l[k]] := by
    rw [List.drop_eq_getElem_cons hk]
    rfl
  rw [h1] at h
  show wpOp P l.toArray Q k _ a w
  unfold wpOp
  simp only [h0]
  unfold wpList at h
  split
  · rename_i hw
    rw [if_pos hw] at h
    rcases h with h | ⟨h1, h2⟩
    · exact .inl (Oper.wp_then (Oper.wp_mono (fun a' w' h' => h') h))
    · exact .inr ⟨h1, h2⟩
  · rename_i hw
    rw [if_neg hw] at h
    exact h
def vKind2 (o : Oper) : Bool := match o.op with
  | .move _ => true
  | .assign _ => true
  | .slice .. => true
  | .load .. => true
  | .fieldAddr .. => true
  | .indexAddr .. => true
  | .binOp .. => true
  | .nilCheck _ => true
  | _ => false
theorem valued {P : Program} {s : Sem Value} {w w' : World} {n : Next} (h : (do let x ← s; pure (Next.value x) : Sem Next).run P w = .ok n w') : ∃ v, n = .value v := by
  simp only [Sem.run_bind, Sem.run_pure] at h
  cases hr : s.run P w with
  | ok u w2 =>
    rw [hr] at h
    simp only [Result.andThen] at h
    cases h
    exact ⟨_, rfl⟩
  | halt y w2 =>
    rw [hr] at h
    simp only [Result.andThen] at h
    cases h
theorem vKind2_spec {P : Program} {o : Oper} {ρ : Operand → Value} {w w' : World} {n : Next} (hv : vKind2 o = true) (h : (execOp ρ o).run P w = .ok n w') : ∃ v, n = .value v := by
  unfold vKind2 at hv
  unfold execOp at h
  split at hv
  · rename_i x hx
    rw [hx] at h
    simp only [] at h
    cases h
    exact ⟨_, rfl⟩
  · rename_i x hx
    rw [hx] at h
    simp only [] at h
    cases h
    exact ⟨_, rfl⟩
  all_goals first
    | (cases hv; done)
    | (rename_i hx; rw [hx] at h; exact valued h)
    | skip
  rename_i x hx
  rw [hx] at h
  simp only [] at h
  split at h
  · cases h
  · cases h
  · cases h
  · rename_i name first captured _
    split at h
    · cases h
    · rename_i t u _
      simp only [Sem.run_bind] at h
      cases hr : (nilAhead (P.types.size + Made.depth) t u name).run P w with
      | ok b w2 =>
        change Result.andThen ((nilAhead (P.types.size + Made.depth) t u name).run P w) (fun a w' => _) = _ at h
        rw [hr] at h
        simp only [Result.andThen] at h
        split at h
        · cases h
        · cases h
          exact ⟨_, rfl⟩
      | halt y w2 =>
        change Result.andThen ((nilAhead (P.types.size + Made.depth) t u name).run P w) (fun a w' => _) = _ at h
        rw [hr] at h
        cases h
    · cases h
      exact ⟨_, rfl⟩
  · cases h
    exact ⟨_, rfl⟩
theorem wpOrdS_first {P : Program} {l : List Oper} {Q : Exit → Act → World → Prop} {S : World → Prop} {r : List (Bool × Nat)} (k : Nat) {o : Oper} {a : Act} {w : World} (hk : l[k]? = some o) (hv : vKind2 o = true)
    (h : wpQuiet P l.toArray S (fun a' => wpOrdS P l.toArray Q S r a' w) [o] a) : wpOrdS P l.toArray Q S ((true, k) :: r) a w := by
  unfold wpQuiet at h
  split at h
  · rename_i hw
    obtain ⟨v, h1, h2⟩ := h
    refine ⟨o, v, by simpa using hk, .inl ⟨hw, fun w' hS => ?_⟩, h2⟩
    have := h1 w' hS
    unfold Oper.quietAt at this
    cases hr : (execOp a.eval o).run P w' with
    | ok n w2 =>
      rw [hr] at this
      obtain ⟨u, rfl⟩ := vKind2_spec hv hr
      simp only [Oper.quietUpon] at this
      rw [this.1, this.2]
    | halt x w2 => rw [hr] at this; exact this.elim
  · rename_i hw
    refine ⟨o, undef, by simpa using hk, .inr ⟨by simpa using hw, rfl⟩, h⟩
end Go.Proofs.Ytbcacebifpagpac
namespace Go.Proofs.Ytbcacebifpagpac
open Go.RowKit Go.Shelf Go.Sort
set_option linter.unusedVariables false
set_option maxHeartbeats 400000 in
theorem Has_int (n k : Int) (w : World) (hn : 0 ≤ n ∧ n ≤ 1000) :
    Calls Try.prog 30 #[.int .i64 n, .int .i64 k] w fun e w' => e = .returned (.bool (inB k 0 (n - 1))) ∧ w' = w := by
  obtain ⟨m, rfl⟩ := Int.eq_ofNat_of_zero_le hn.1
  exact Has_any m k w (by unfold maxLen; omega)
set_option maxHeartbeats 400000 in
theorem rightAlone_any (x : Hd) (w : World) :
    Calls Try.prog 93 #[x.val] w fun e w' => e = .returned (.bool (fineH x)) ∧ Below w.heap.size w w' := by
  unfold fineH Hd.val
  go_enter Try.func93, Try.ntmps93
  go_wp2_with (first | (go_at_call 30; refine calls_to (Has_int _ _ _ (by omega)) ?_) | (go_at_call 55; refine calls_to (Within_any _ _ _ _) ?_))
  all_goals go_ret
  all_goals exact ⟨by simp [*], (Below.refl _ _).alloc (Nat.le_refl _) _⟩
set_option maxHeartbeats 400000 in
theorem holdFine_any (x : Hd) (w : World) :
    Calls Try.prog 125 #[x.val] w fun e w' => e = .returned (.bool (fineH x)) ∧ Below w.heap.size w w' := by
  unfold fineH Hd.val
  go_enter Try.func125, Try.ntmps125
  go_wp2_with (go_at_call 48; refine calls_to (within_any _ _ _ _) ?_)
  all_goals go_ret
  all_goals exact ⟨by simp [*], (Below.refl _ _).alloc (Nat.le_refl _) _⟩
set_option maxHeartbeats 400000 in
theorem place_any (x : Hd) (w : World) (h : fineH x = true) :
    Calls Try.prog 123 #[x.val] w fun e w' => e = .returned (.int .i64 (keyH x)) ∧ Below w.heap.size w w' := by
  have a := fineH_true h
  unfold keyH Hd.val
  go_enter Try.func123, Try.ntmps123
  go_wp2
  go_ret
  exact ⟨rfl, (Below.refl _ _).alloc (Nat.le_refl _) _⟩
set_option maxHeartbeats 400000 in
theorem Compare_any (x y : Int) (w : World) :
    Calls Try.prog 116 #[.int .i64 x, .int .i64 y] w fun e w' => e = .returned (.int .i64 (cmpI x y)) ∧ w' = w := by
  unfold cmpI
  by_cases h1 : x < y
  · go_enter Try.func116, Try.ntmps116
    go_wp2
    go_ret
    exact ⟨by simp, rfl⟩
  by_cases h2 : y < x
  · go_enter Try.func116, Try.ntmps116
    go_wp2
    go_ret
    exact ⟨by simp, rfl⟩
  · go_enter Try.func116, Try.ntmps116
    go_wp2
    go_ret
    exact ⟨by simp, rfl⟩
set_option maxHeartbeats 400000 in
theorem Or_any (g : Nat) (a b c : Int) (w : World) (h : Blk w g 3 3 (fun j => (#[.int .i64 a, .int .i64 b, .int .i64 c] : Array Value).getD j default)) :
    Calls Try.prog 115 #[.slice (some ⟨g, 0, none⟩) 3 3] w fun e w' => e = .returned (.int .i64 (orI a b c)) ∧ w' = w := by
  have c0 : w.cell? ⟨g, 0, none⟩ = some (.int .i64 a) := h.cell (j := 0) (by decide)
  have c1 : w.cell? ⟨g, 1, none⟩ = some (.int .i64 b) := h.cell (j := 1) (by decide)
  have c2 : w.cell? ⟨g, 2, none⟩ = some (.int .i64 c) := h.cell (j := 2) (by decide)
  clear h
  unfold orI
  go_enter Try.func115, Try.ntmps115
  go_wp2
  go_loop [8] (fun i => ∃ k : Nat, k ≤ 3 ∧ i = .int .i64 k ∧ (1 ≤ k → a = 0) ∧ (2 ≤ k → b = 0) ∧ (3 ≤ k → c = 0)) (fun i => 3 - (intOf i).toNat)
  case atStart => exact ⟨0, by omega, rfl, fun h => by omega, fun h => by omega, fun h => by omega⟩
  case round =>
    obtain ⟨k, hk, rfl, ha, hb, hc⟩ := hrel
    have HA : Hid _ := And.intro ha (And.intro hb hc)
    clear ha hb hc
    have hk4 : k = 0 ∨ k = 1 ∨ k = 2 ∨ k = 3 := by omega
    rcases hk4 with rfl | rfl | rfl | rfl
    · cases h0 : (a != 0)
      · have h0' : a = 0 := by simpa using h0
        have H0 : Hid (a = 0) := h0'
        clear h0'
        go_wp2
        go_round
        case rel => exact ⟨1, by omega, by go_num, fun _ => H0.out, fun h => by omega, fun h => by omega⟩
        case measure => simp [intOf]
      · have h0' : ¬ a = 0 := by simpa using h0
        go_wp2
        go_ret
        exact ⟨by simp, rfl⟩
    · have h1 := HA.out.1 (by omega)
      have H1 : Hid (a = 0) := h1
      clear h1
      cases h0 : (b != 0)
      · have h0' : b = 0 := by simpa using h0
        have H0 : Hid (b = 0) := h0'
        clear h0'
        go_wp2
        go_round
        case rel => exact ⟨2, by omega, by go_num, fun _ => H1.out, fun _ => H0.out, fun h => by omega⟩
        case measure => simp [intOf]
      · have h0' : ¬ b = 0 := by simpa using h0
        go_wp2
        go_ret
        exact ⟨by simp, rfl⟩
    · have H1 : Hid (a = 0) := HA.out.1 (by omega)
      have H2 : Hid (b = 0) := HA.out.2.1 (by omega)
      cases h0 : (c != 0)
      · have h0' : c = 0 := by simpa using h0
        have H0 : Hid (c = 0) := h0'
        clear h0'
        go_wp2
        go_round
        case rel => exact ⟨3, by omega, by go_num, fun _ => H1.out, fun _ => H2.out, fun _ => H0.out⟩
        case measure => simp [intOf]
      · go_wp2
        go_ret
        exact ⟨by simp, rfl⟩
    · have H1 : Hid (a = 0) := HA.out.1 (by omega)
      have H2 : Hid (b = 0) := HA.out.2.1 (by omega)
      have H3 : Hid (c = 0) := HA.out.2.2 (by omega)
      go_wp2
      go_ret
      exact ⟨by simp [H3.out], rfl⟩
set_option maxHeartbeats 1000000 in
theorem compare_any (x y : Hd) (w : World) :
    Calls Try.prog 95 #[x.val, y.val] w fun e w' => e = .returned (.int .i64 (cmpH x y)) ∧ Below w.heap.size w w' := by
  unfold cmpH Hd.val
  have F : ∃ W, (w.alloc (.cells #[.int .i64 x.o, .int .i64 x.l, .int .i64 x.b, .int .i64 x.n] 65)).alloc (.cells #[.int .i64 y.o, .int .i64 y.l, .int .i64 y.b, .int .i64 y.n] 65) = W ∧ Below w.heap.size w W ∧
      (W.cell? ⟨w.heap.size, 0, none⟩ = some (.int .i64 x.o) ∧ W.cell? ⟨w.heap.size, 1, none⟩ = some (.int .i64 x.l) ∧ W.cell? ⟨w.heap.size, 2, none⟩ = some (.int .i64 x.b)) ∧
      (W.cell? ⟨w.heap.size + 1, 0, none⟩ = some (.int .i64 y.o) ∧ W.cell? ⟨w.heap.size + 1, 1, none⟩ = some (.int .i64 y.l) ∧ W.cell? ⟨w.heap.size + 1, 2, none⟩ = some (.int .i64 y.b)) := by
    refine ⟨_, rfl, ((Below.refl _ _).alloc (Nat.le_refl _) _).alloc (by simp) _, ?_, ?_⟩
    · exact ⟨by simp, by simp, by simp⟩
    · exact ⟨by simp, by simp, by simp⟩
  obtain ⟨W, hW, hB0, ⟨x0, x1, x2⟩, y0, y1, y2⟩ := F
  have HW : Hid _ := hW
  clear hW
  go_enter Try.func95, Try.ntmps95
  go_wp2_with fail
  rw [HW.out]
  clear HW
  have e0 : ∀ d os, (grow (redrawn W d) os).cell? ⟨w.heap.size, 0, none⟩ = some (.int .i64 x.o) := fun d os => cell_regrown x0 d os
  have e1 : ∀ d os, (grow (redrawn W d) os).cell? ⟨w.heap.size, 1, none⟩ = some (.int .i64 x.l) := fun d os => cell_regrown x1 d os
  have e2 : ∀ d os, (grow (redrawn W d) os).cell? ⟨w.heap.size, 2, none⟩ = some (.int .i64 x.b) := fun d os => cell_regrown x2 d os
  have f0 : ∀ d os, (grow (redrawn W d) os).cell? ⟨w.heap.size + 1, 0, none⟩ = some (.int .i64 y.o) := fun d os => cell_regrown y0 d os
  have f1 : ∀ d os, (grow (redrawn W d) os).cell? ⟨w.heap.size + 1, 1, none⟩ = some (.int .i64 y.l) := fun d os => cell_regrown y1 d os
  have f2 : ∀ d os, (grow (redrawn W d) os).cell? ⟨w.heap.size + 1, 2, none⟩ = some (.int .i64 y.b) := fun d os => cell_regrown y2 d os
  refine wp_region_ordS (fun w' => ∃ p : Regrown, w' = grow (redrawn W p.d) p.os)
    ([0, 1, 2, 3, 5, 6, 7, 8, 10, 11, 12, 13].map (fun k => (true, k)) ++ [(false, 4), (false, 9), (false, 14), (false, 15), (false, 16), (false, 17)]) (by kernel_rfl) (by kernel_rfl) (by kernel_rfl) (by kernel_rfl) (regrown_of_below ((Below.refl _ _).drew)) ?_
  refine wpOrdS_first 0 rfl rfl ?_
  go_big_quiet_step (fail)
  refine wpQuiet_nil ?_
  refine wpOrdS_first 1 rfl rfl ?_
  go_big_quiet_step (fail)
  refine wpQuiet_nil ?_
  refine wpOrdS_first 2 rfl rfl ?_
  go_big_quiet_step (fail)
  refine wpQuiet_nil ?_
  refine wpOrdS_first 3 rfl rfl ?_
  go_big_quiet_step (fail)
  refine wpQuiet_nil ?_
  refine wpOrdS_first 5 rfl rfl ?_
  go_big_quiet_step (fail)
  refine wpQuiet_nil ?_
  refine wpOrdS_first 6 rfl rfl ?_
  go_big_quiet_step (fail)
  refine wpQuiet_nil ?_
  refine wpOrdS_first 7 rfl rfl ?_
  go_big_quiet_step (fail)
  refine wpQuiet_nil ?_
  refine wpOrdS_first 8 rfl rfl ?_
  go_big_quiet_step (fail)
  refine wpQuiet_nil ?_
  refine wpOrdS_first 10 rfl rfl ?_
  go_big_quiet_step (fail)
  refine wpQuiet_nil ?_
  refine wpOrdS_first 11 rfl rfl ?_
  go_big_quiet_step (fail)
  refine wpQuiet_nil ?_
  refine wpOrdS_first 12 rfl rfl ?_
  go_big_quiet_step (fail)
  refine wpQuiet_nil ?_
  refine wpOrdS_first 13 rfl rfl ?_
  go_big_quiet_step (fail)
  refine wpQuiet_nil ?_
  refine wpOrdS_one 4 (by decide) ?_
  simp only [List.drop_succ_cons, List.drop_zero, List.take_succ_cons, List.take_zero]
  go_wp2_with (go_at_call 116; refine calls_to (Compare_any _ _ _) ?_)
  refine ⟨regrown_of_below ((Below.refl _ _).drew), ?_⟩
  refine wpOrdS_one 9 (by decide) ?_
  simp only [List.drop_succ_cons, List.drop_zero, List.take_succ_cons, List.take_zero]
  go_wp2_with (go_at_call 116; refine calls_to (Compare_any _ _ _) ?_)
  refine ⟨regrown_of_below ((Below.refl _ _).drew), ?_⟩
  refine wpOrdS_one 14 (by decide) ?_
  simp only [List.drop_succ_cons, List.drop_zero, List.take_succ_cons, List.take_zero]
  go_wp2_with (go_at_call 116; refine calls_to (Compare_any _ _ _) ?_)
  refine ⟨regrown_of_below ((Below.refl _ _).drew), ?_⟩
  generalize hA : cmpI x.o y.o = A
  generalize hBB : cmpI x.l y.l = B
  generalize hC : cmpI x.b y.b = C
  have HA : Hid (cmpI x.o y.o = A) := hA
  have HB : Hid (cmpI x.l y.l = B) := hBB
  have HC : Hid (cmpI x.b y.b = C) := hC
  clear hA hBB hC
  refine wpOrdS_one 15 (by decide) ?_
  simp only [List.drop_succ_cons, List.drop_zero, List.take_succ_cons, List.take_zero]
  go_wp2_with fail
  have hD : Below W.heap.size W (W.alloc (.cells #[.int .i64 A, .int .i64 B, .int .i64 C] 3)).drew := ((Below.refl _ _).alloc (Nat.le_refl _) _).drew
  refine ⟨regrown_of_below hD, ?_⟩
  refine wpOrdS_one 16 (by decide) ?_
  simp only [List.drop_succ_cons, List.drop_zero, List.take_succ_cons, List.take_zero]
  go_wp2_with fail
  refine calls_to (Or_any W.heap.size A B C _ (Blk.below (Blk.mk' rfl rfl) ((Below.refl _ _).drew))) ?_
  go_wp2_with fail
  refine ⟨regrown_of_below hD, ?_⟩
  refine wpOrdS_one 17 (by decide) ?_
  simp only [List.drop_succ_cons, List.drop_zero, List.take_succ_cons, List.take_zero]
  go_wp2_with fail
  refine ⟨regrown_of_below hD, ?_⟩
  refine NoPanic.normal ?_
  go_wp2_with fail
  go_ret
  exact ⟨by rw [HA.out, HB.out, HC.out]; rfl, hB0.trans (hD.mono hB0.size)⟩
end Go.Proofs.Ytbcacebifpagpac
namespace Go.Proofs.Ytbcacebifpagpac
open Go.RowKit Go.Shelf Go.Sort
set_option linter.unusedVariables false
theorem hd_regrown {w : World} {b q : Nat} {x : Hd} (h0 : w.cell? ⟨b, q, none⟩ = some (.int .i64 x.o)) (h1 : w.cell? ⟨b, q + 1, none⟩ = some (.int .i64 x.l)) (h2 : w.cell? ⟨b, q + 2, none⟩ = some (.int .i64 x.b)) (h3 : w.cell? ⟨b, q + 3, none⟩ = some (.int .i64 x.n)) :
    (∀ d os, (grow (redrawn w d) os).cell? ⟨b, q, none⟩ = some (.int .i64 x.o)) ∧ (∀ d os, (grow (redrawn w d) os).cell? ⟨b, q + 1, none⟩ = some (.int .i64 x.l)) ∧
    (∀ d os, (grow (redrawn w d) os).cell? ⟨b, q + 2, none⟩ = some (.int .i64 x.b)) ∧ (∀ d os, (grow (redrawn w d) os).cell? ⟨b, q + 3, none⟩ = some (.int .i64 x.n)) :=
  ⟨fun d os => cell_regrown h0 d os, fun d os => cell_regrown h1 d os, fun d os => cell_regrown h2 d os, fun d os => cell_regrown h3 d os⟩
set_option maxHeartbeats 1000000 in
theorem holdsCheck1_any (B : Nat) (a : Option Addr) (n c : Nat) (z : Nat → Hd) (i : Nat) (w : World) (hi : i < n) (hn : n ≤ c) (hc : c ≤ maxLen) (hz : HdsAt w a n z) (hB : w.cell? ⟨B, 0, none⟩ = some (.slice a n c)) :
    Calls Try.prog 105 #[.int .i64 i, .pointer (some ⟨B, 0, none⟩)] w fun e w' => e = .returned (.bool (badH z i)) ∧ Below w.heap.size w w' := by
  obtain ⟨b, o, rfl, hb, z0, z1, z2, z3⟩ := hz i hi
  obtain ⟨r0, r1, r2, r3⟩ := hd_regrown z0 z1 z2 z3
  have rB : ∀ d os, (grow (redrawn w d) os).cell? ⟨B, 0, none⟩ = some (.slice (some ⟨b, o, none⟩) n c) := fun d os => cell_regrown hB d os
  have m1 : (0 : Int) ≤ (i : Int) := by omega
  have m2 : (i : Int) < (n : Int) := by omega
  unfold maxLen at hc
  by_cases hi0 : i = 0
  · subst hi0
    simp only [Nat.zero_mul, Nat.add_zero] at r0 r1 r2 r3
    clear z0 z1 z2 z3 hz hB
    cases h1 : fineH (z 0)
    · go_enter Try.func105, Try.ntmps105
      go_wp2_with fail
      refine wp_region_quiet_below (by kernel_rfl) (by kernel_rfl) ?_
      repeat (go_big_quiet_step ((go_at_call 93; exact Calls.regrown_of (rightAlone_any (z 0) _))))
      refine wpQuiet_nil ?_
      intro _ hw'
      obtain ⟨⟨dq, osq⟩, hw''⟩ := hw'
      subst hw''
      go_wp2_with fail
      go_ret
      exact ⟨by simp [badH, h1], below_regrown _ _ _⟩
    · go_enter Try.func105, Try.ntmps105
      go_wp2_with fail
      refine wp_region_quiet_below (by kernel_rfl) (by kernel_rfl) ?_
      repeat (go_big_quiet_step ((go_at_call 93; exact Calls.regrown_of (rightAlone_any (z 0) _))))
      refine wpQuiet_nil ?_
      intro _ hw'
      obtain ⟨⟨dq, osq⟩, hw''⟩ := hw'
      subst hw''
      go_wp2_with fail
      go_ret
      exact ⟨by simp [badH, h1], below_regrown _ _ _⟩
  · obtain ⟨k, rfl⟩ : ∃ k, i = k + 1 := ⟨i - 1, by omega⟩
    obtain ⟨b', o', he, hb', y0, y1, y2, y3⟩ := hz k (by omega)
    simp only [Option.some.injEq, Addr.mk.injEq, and_true] at he
    obtain ⟨rfl, rfl⟩ := he
    obtain ⟨p0, p1, p2, p3⟩ := hd_regrown y0 y1 y2 y3
    have m3 : (0 : Int) ≤ (k : Int) := by omega
    have m4 : (k : Int) < (n : Int) := by omega
    have m5 : (0 : Int) < (k : Int) + 1 := by omega
    clear z0 z1 z2 z3 y0 y1 y2 y3 hz hB hi0
    cases h1 : fineH (z (k + 1))
    · go_enter Try.func105, Try.ntmps105
      go_wp2_with fail
      refine wp_region_quiet_below (by kernel_rfl) (by kernel_rfl) ?_
      repeat (go_big_quiet_step (first | (go_at_call 93; exact Calls.regrown_of (rightAlone_any (z (k + 1)) _)) | (go_at_call 95; exact Calls.regrown_of (compare_any (z k) (z (k + 1)) _))))
      refine wpQuiet_nil ?_
      intro _ hw'
      obtain ⟨⟨dq, osq⟩, hw''⟩ := hw'
      subst hw''
      go_wp2_with fail
      go_ret
      exact ⟨by simp [badH, h1], below_regrown _ _ _⟩
    · cases h2 : decide (0 ≤ cmpH (z k) (z (k + 1)))
      · go_enter Try.func105, Try.ntmps105
        go_wp2_with fail
        refine wp_region_quiet_below (by kernel_rfl) (by kernel_rfl) ?_
        repeat (go_big_quiet_step (first | (go_at_call 93; exact Calls.regrown_of (rightAlone_any (z (k + 1)) _)) | (go_at_call 95; exact Calls.regrown_of (compare_any (z k) (z (k + 1)) _))))
        refine wpQuiet_nil ?_
        intro _ hw'
        obtain ⟨⟨dq, osq⟩, hw''⟩ := hw'
        subst hw''
        go_wp2_with fail
        go_ret
        exact ⟨by simp only [badH, Nat.add_sub_cancel, h1, h2]; simp, below_regrown _ _ _⟩
      · go_enter Try.func105, Try.ntmps105
        go_wp2_with fail
        refine wp_region_quiet_below (by kernel_rfl) (by kernel_rfl) ?_
        repeat (go_big_quiet_step (first | (go_at_call 93; exact Calls.regrown_of (rightAlone_any (z (k + 1)) _)) | (go_at_call 95; exact Calls.regrown_of (compare_any (z k) (z (k + 1)) _))))
        refine wpQuiet_nil ?_
        intro _ hw'
        obtain ⟨⟨dq, osq⟩, hw''⟩ := hw'
        subst hw''
        go_wp2_with fail
        go_ret
        exact ⟨by simp only [badH, Nat.add_sub_cancel, h1, h2]; simp, below_regrown _ _ _⟩
set_option maxHeartbeats 1000000 in
theorem holdsCheck_any (s : Hs) (w : World) (hs : s.At w) :
    Calls Try.prog 54 #[s.val] w fun e w' => e = .returned (.int .i64 (checkH s.n s.z)) ∧ Below w.heap.size w w' := by
  obtain ⟨a, n, c, z⟩ := s
  obtain ⟨hn, hc, hz⟩ := hs
  dsimp only at hn hc hz ⊢
  have hc0 := hc
  unfold maxLen at hc
  simp only [Hs.val]
  go_enter Try.func54, Try.ntmps54
  go_wp2_with fail
  go_loopw [8] (fun i wk => ∃ k : Nat, k ≤ n ∧ i = .int .i64 k ∧ (∀ j, j < k → badH z j = false) ∧ Below (w.heap.size + 1) (w.alloc (.cells #[.slice a n c] 28)) wk) (fun i _ => n - (intOf i).toNat)
  case atStart => exact ⟨0, Nat.zero_le _, rfl, fun j hj => absurd hj (Nat.not_lt_zero _), Below.refl _ _⟩
  case round =>
    obtain ⟨k, hk, rfl, hno, hB⟩ := hrel
    have HN : Hid (∀ j, j < k → badH z j = false) := hno
    clear hno
    have hB' : Below w.heap.size w wr := ((Below.refl w.heap.size w).alloc (Nat.le_refl _) _).trans (hB.mono (by omega))
    have hs : w.heap.size + 1 ≤ wr.heap.size := by have := hB.size; simpa using this
    have c0 : wr.cell? ⟨w.heap.size, 0, none⟩ = some (.slice a n c) := (hB.cell (p := ⟨w.heap.size, 0, none⟩) (by simp)).trans (by simp)
    by_cases hlt : k < n
    · go_wp2_with fail
      refine (holdsCheck1_any w.heap.size a n c z k wr hlt hn hc0 (hz.below hB') c0).mono ?_
      rintro e w1 ⟨rfl, hB1⟩
      cases hb : badH z k
      · go_wp2_with fail
        go_roundw
        case rel =>
          refine ⟨k + 1, by omega, by go_num, ?_, hB.trans (hB1.mono hs)⟩
          intro j hj
          by_cases hjk : j = k
          · rw [hjk, hb]
          · exact HN.out j (by omega)
        case measure => simp [intOf]; omega
      · have h3 : Hid (anyB n (badH z) = true) := anyB_yes hlt hb
        go_wp2_with fail
        go_ret
        exact ⟨by rw [show checkH n z = 1 from by simp [checkH, h3.out]]; rfl, hB'.trans (hB1.mono (by omega))⟩
    · go_wp2_with fail
      go_ret
      have h3 : anyB n (badH z) = false := anyB_no fun j hj => HN.out j (by omega)
      exact ⟨by rw [show checkH n z = 0 from by simp [checkH, h3]]; rfl, hB'⟩
end Go.Proofs.Ytbcacebifpagpac
namespace Go.Proofs.Ytbcacebifpagpac
open Go.RowKit Go.Shelf Go.Sort
set_option linter.unusedVariables false
set_option maxHeartbeats 1000000 in
theorem CheckHolds_any (s : Hs) (w : World) (hs : s.At w) :
    Calls Try.prog 119 #[s.val] w fun e w' => e = .returned (.int .i64 (checkH s.n s.z)) ∧ Below w.heap.size w w' := by
  obtain ⟨a, n, c, z⟩ := s
  obtain ⟨hn, hc, hz⟩ := hs
  dsimp only at hn hc hz ⊢
  have hE : Hid (checkH n z = if anyB n (badK z) then 1 else 0) := by show checkH n z = _; rw [bad_eq]; rfl
  unfold maxLen at hc
  simp only [Hs.val]
  generalize checkH n z = E at hE ⊢
  go_enter Try.func119, Try.ntmps119
  go_wp2_with fail
  go_loopw [3] (fun i wk => ∃ k : Nat, k ≤ n ∧ i = .int .i64 k ∧ (∀ j, j < k → badK z j = false) ∧ Below w.heap.size w wk) (fun i _ => n - (intOf i).toNat)
  case atStart => exact ⟨0, Nat.zero_le _, rfl, fun j hj => absurd hj (Nat.not_lt_zero _), Below.refl _ _⟩
  case round =>
    obtain ⟨k, hk, rfl, hno, hB⟩ := hrel
    have HN : Hid (∀ j, j < k → badK z j = false) := hno
    clear hno
    by_cases hlt : k < n
    · have hz1 := hz.below hB
      obtain ⟨b, o, rfl, hb, z0, z1, z2, z3⟩ := hz1 k hlt
      obtain ⟨r0, r1, r2, r3⟩ := hd_regrown z0 z1 z2 z3
      have m1 : (0 : Int) ≤ (k : Int) := by omega
      have m2 : (k : Int) < (n : Int) := by omega
      cases h1 : fineH (z k)
      · have h3 : Hid (anyB n (badK z) = true) := anyB_yes hlt (by simp [badK, h1])
        go_wp2_with fail
        refine wp_region_quiet_below (by kernel_rfl) (by kernel_rfl) ?_
        repeat (go_big_quiet_step ((go_at_call 125; exact Calls.regrown_of (holdFine_any (z k) _))))
        refine wpQuiet_nil ?_
        intro _ hw'
        obtain ⟨⟨dq, osq⟩, hw''⟩ := hw'
        subst hw''
        go_wp2_with fail
        go_ret
        exact ⟨by rw [hE.out, h3.out]; rfl, hB.trans ((below_regrown _ _ _).mono hB.size)⟩
      · by_cases hk0 : k = 0
        · have hb0 : Hid (badK z k = false) := by show badK z k = false; subst hk0; simp [badK, h1]
          subst hk0
          simp only [Nat.zero_mul, Nat.add_zero] at r0 r1 r2 r3
          go_wp2_with fail
          refine wp_region_quiet_below (by kernel_rfl) (by kernel_rfl) ?_
          repeat (go_big_quiet_step ((go_at_call 125; exact Calls.regrown_of (holdFine_any (z 0) _))))
          refine wpQuiet_nil ?_
          intro _ hw'
          obtain ⟨⟨dq, osq⟩, hw''⟩ := hw'
          subst hw''
          go_wp2_with fail
          go_roundw
          case rel =>
            refine ⟨1, by omega, by go_num, ?_, hB.trans ((below_regrown _ _ _).mono hB.size)⟩
            intro j hj
            have : j = 0 := by omega
            rw [this, hb0.out]
          case measure => simp [intOf]; omega
        · obtain ⟨q, rfl⟩ : ∃ q, k = q + 1 := ⟨k - 1, by omega⟩
          have h2 : fineH (z q) = true := by
            have := HN.out q (by omega)
            cases hq : fineH (z q)
            · simp [badK, hq] at this
            · rfl
          obtain ⟨b', o', he, hb', y0, y1, y2, y3⟩ := hz1 q (by omega)
          simp only [Option.some.injEq, Addr.mk.injEq, and_true] at he
          obtain ⟨rfl, rfl⟩ := he
          obtain ⟨p0, p1, p2, p3⟩ := hd_regrown y0 y1 y2 y3
          have m3 : (0 : Int) ≤ (q : Int) := by omega
          have m4 : (q : Int) < (n : Int) := by omega
          have m5 : (0 : Int) < (q : Int) + 1 := by omega
          have HK : Hid _ := And.intro h1 h2
          have hbb : Hid (badK z (q + 1) = decide (keyH (z (q + 1)) ≤ keyH (z q))) := by show badK z (q + 1) = _; simp [badK, h1]
          clear z0 z1 z2 z3 y0 y1 y2 y3 hk0 h2
          cases h4 : decide (keyH (z (q + 1)) ≤ keyH (z q))
          · rw [h4] at hbb
            go_wp2_with fail
            refine wp_region_quiet_below (by kernel_rfl) (by kernel_rfl) ?_
            repeat (go_big_quiet_step (first | (go_at_call 125; exact Calls.regrown_of (holdFine_any (z (q + 1)) _)) | (go_at_call 123; exact Calls.regrown_of (place_any _ _ (by first | exact HK.out.2 | exact HK.out.1)))))
            refine wpQuiet_nil ?_
            intro _ hw'
            obtain ⟨⟨dq, osq⟩, hw''⟩ := hw'
            subst hw''
            go_wp2_with fail
            go_roundw
            case rel =>
              refine ⟨q + 1 + 1, by omega, by go_num, ?_, hB.trans ((below_regrown _ _ _).mono hB.size)⟩
              intro j hj
              by_cases hjk : j = q + 1
              · rw [hjk, hbb.out]
              · exact HN.out j (by omega)
            case measure => simp [intOf]; omega
          · rw [h4] at hbb
            have h3 : Hid (anyB n (badK z) = true) := anyB_yes hlt hbb.out
            go_wp2_with fail
            refine wp_region_quiet_below (by kernel_rfl) (by kernel_rfl) ?_
            repeat (go_big_quiet_step (first | (go_at_call 125; exact Calls.regrown_of (holdFine_any (z (q + 1)) _)) | (go_at_call 123; exact Calls.regrown_of (place_any _ _ (by first | exact HK.out.2 | exact HK.out.1)))))
            refine wpQuiet_nil ?_
            intro _ hw'
            obtain ⟨⟨dq, osq⟩, hw''⟩ := hw'
            subst hw''
            go_wp2_with fail
            go_ret
            exact ⟨by rw [hE.out, h3.out]; rfl, hB.trans ((below_regrown _ _ _).mono hB.size)⟩
    · go_wp2_with fail
      go_ret
      have h3 : anyB n (badK z) = false := anyB_no fun j hj => HN.out j (by omega)
      exact ⟨by rw [hE.out, h3]; rfl, hB⟩
end Go.Proofs.Ytbcacebifpagpac
namespace Go.Proofs.Ytbcacebifpagpac
open Go.RowKit
set_option linter.unusedVariables false
theorem sumTo_put {z z' : Nat → Int} {m : Nat} {n : Int} : ∀ {k : Nat}, m < k → (∀ i, i < k → z' i = if i = m then z i + n else z i) → sumTo z' k = sumTo z k + n
  | k + 1, hm, h => by
    simp only [sumTo]
    by_cases hk : m = k
    · subst hk
      rw [h m (by omega), if_pos rfl, sumTo_congr (z := z') (z' := z) fun j hj => by rw [h j (by omega), if_neg (by omega)]]
      omega
    · rw [sumTo_put (k := k) (by omega) fun i hi => h i (by omega), h k (by omega), if_neg (by omega)]
      omega
end Go.Proofs.Ytbcacebifpagpac
namespace Go.Proofs.Ytbcacebifpagpac
open Go.RowKit
set_option linter.unusedVariables false
def matchH (x : Hd) (o l b : Int) : Bool := (x.o == o) && (x.l == l) && (x.b == b)
def keptV (n : Nat) (z : Nat → Hd) (o l b : Int) : Int := match (List.range n).find? (fun i => matchH (z i) o l b) with
  | some i => (z i).n
  | none => 0
theorem keptV_none {n : Nat} {z : Nat → Hd} {o l b : Int} (h : ∀ j, j < n → matchH (z j) o l b = false) : keptV n z o l b = 0 := by
  unfold keptV
  have : (List.range n).find? (fun i => matchH (z i) o l b) = none := by
    rw [List.find?_eq_none]
    intro x hx
    simp [h x (List.mem_range.1 hx)]
  rw [this]
theorem keptV_some {n k : Nat} {z : Nat → Hd} {o l b : Int} (hk : k < n) (h : ∀ j, j < k → matchH (z j) o l b = false) (hm : matchH (z k) o l b = true) : keptV n z o l b = (z k).n := by
  unfold keptV
  have e : List.range n = List.range k ++ (k :: (List.range (n - k - 1)).map (fun i => k + 1 + i)) := by
    have := @List.range_add k (n - k)
    rw [show k + (n - k) = n by omega] at this
    rw [this, show n - k = (n - k - 1) + 1 by omega, List.range_succ_eq_map]
    simp [Function.comp_def]
    intro i hi
    omega
  have : (List.range n).find? (fun i => matchH (z i) o l b) = some k := by
    rw [e, List.find?_append]
    have h0 : (List.range k).find? (fun i => matchH (z i) o l b) = none := by
      rw [List.find?_eq_none]
      intro x hx
      simp [h x (List.mem_range.1 hx)]
    rw [h0, List.find?_cons]
    simp [hm]
  rw [this]
theorem keptV_cases (n : Nat) (z : Nat → Hd) (o l b : Int) : (∀ j, j < n → matchH (z j) o l b = false) ∨ ∃ k, k < n ∧ (∀ j, j < k → matchH (z j) o l b = false) ∧ matchH (z k) o l b = true := by
  induction n with
  | zero => exact .inl fun j hj => absurd hj (Nat.not_lt_zero _)
  | succ n ih =>
    rcases ih with h | ⟨k, hk, h1, h2⟩
    · cases hm : matchH (z n) o l b
      · refine .inl fun j hj => ?_
        by_cases hjn : j = n
        · rw [hjn, hm]
        · exact h j (by omega)
      · exact .inr ⟨n, by omega, h, hm⟩
    · exact .inr ⟨k, by omega, h1, h2⟩
theorem matchH_true {x : Hd} {o l b : Int} (h : matchH x o l b = true) : x.o = o ∧ x.l = l ∧ x.b = b := by
  simpa [matchH, and_assoc] using h
theorem matchH_key {x y : Hd} {o l b : Int} (hx : matchH x o l b = true) (hy : matchH y o l b = true) : keyH x = keyH y := by
  have a := matchH_true hx
  have c := matchH_true hy
  simp [keyH, a, c]
def keptS (z : Nat → Hd) (o l : Int) : Nat → Int
  | 0 => 0
  | n + 1 => keptS z o l n + if (z n).o = o ∧ (z n).l = l then (z n).n else 0
theorem keptV_succ {n : Nat} {z : Nat → Hd} (hr : anyB (n + 1) (badH z) = false) (o l b : Int) : keptV (n + 1) z o l b = keptV n z o l b + if matchH (z n) o l b then (z n).n else 0 := by
  rcases keptV_cases n z o l b with h | ⟨k, hk, h1, h2⟩
  · cases hm : matchH (z n) o l b
    · rw [keptV_none h, keptV_none fun j hj => by
        by_cases hjn : j = n
        · rw [hjn, hm]
        · exact h j (by omega)]
      simp
    · rw [keptV_none h, keptV_some (Nat.lt_succ_self n) h hm]
      simp
  · have hne : matchH (z n) o l b = false := by
      cases hm : matchH (z n) o l b
      · rfl
      · have := matchH_key h2 hm
        have := right_lt hr k n hk (Nat.lt_succ_self n)
        omega
    rw [keptV_some hk h1 h2, keptV_some (by omega) h1 h2, hne]
    simp
theorem right_pred {n : Nat} {z : Nat → Hd} (hr : anyB (n + 1) (badH z) = false) : anyB n (badH z) = false := anyB_no fun j hj => anyB_false hr j (by omega)
theorem kept_eq (z : Nat → Hd) (o l : Int) : ∀ n, anyB n (badH z) = false → sumTo (fun b => keptV n z o l b) 6 = keptS z o l n
  | 0, _ => by simp [sumTo, keptS, keptV]
  | n + 1, hr => by
    have ih := kept_eq z o l n (right_pred hr)
    have hf := fineH_true (right_fine hr n (Nat.lt_succ_self n))
    by_cases hm : (z n).o = o ∧ (z n).l = l
    · simp only [keptS, hm, and_self, if_true]
      rw [← ih]
      refine sumTo_put (m := (z n).b.toNat) (by omega) fun b hb => ?_
      rw [keptV_succ hr]
      by_cases hbb : b = (z n).b.toNat
      · have : matchH (z n) o l b = true := by
          have e : (b : Int) = (z n).b := by omega
          simp [matchH, hm, e]
        rw [this, if_pos rfl, if_pos hbb]
      · have : matchH (z n) o l b = false := by
          cases hq : matchH (z n) o l b
          · rfl
          · have := matchH_true hq; omega
        simp [this, hbb]
    · simp only [keptS, hm, if_false, Int.add_zero]
      rw [← ih]
      refine sumTo_congr fun b hb => ?_
      rw [keptV_succ hr]
      have : matchH (z n) o l b = false := by
        cases hq : matchH (z n) o l b
        · rfl
        · have := matchH_true hq
          exact absurd ⟨this.1, this.2.1⟩ hm
      simp [this]
theorem keptS_bd {z : Nat → Hd} (o l : Int) : ∀ n, (∀ j, j < n → 1 ≤ (z j).n ∧ (z j).n ≤ 200) → 0 ≤ keptS z o l n ∧ keptS z o l n ≤ 200 * n
  | 0, _ => by simp [keptS]
  | n + 1, h => by
    have ih := keptS_bd (z := z) o l n fun j hj => h j (by omega)
    have := h n (by omega)
    simp only [keptS]
    split <;> omega
theorem keptV_bd {n : Nat} {z : Nat → Hd} (h : ∀ j, j < n → 1 ≤ (z j).n ∧ (z j).n ≤ 200) (o l b : Int) : 0 ≤ keptV n z o l b ∧ keptV n z o l b ≤ 200 := by
  rcases keptV_cases n z o l b with h0 | ⟨k, hk, h1, h2⟩
  · rw [keptV_none h0]; omega
  · rw [keptV_some hk h1 h2]; have := h k hk; omega
end Go.Proofs.Ytbcacebifpagpac
namespace Go.Proofs.Ytbcacebifpagpac
open Go.RowKit Go.Shelf
set_option linter.unusedVariables false
set_option maxHeartbeats 1000000 in
theorem keptAt_any (s : Hs) (o l b : Int) (w : World) (hs : s.At w) :
    Calls Try.prog 103 #[s.val, .int .i64 o, .int .i64 l, .int .i64 b] w fun e w' => e = .returned (.int .i64 (keptV s.n s.z o l b)) ∧ w' = w := by
  obtain ⟨a, n, c, z⟩ := s
  obtain ⟨hn, hc, hz⟩ := hs
  dsimp only at hn hc hz ⊢
  unfold maxLen at hc
  simp only [Hs.val]
  generalize hV : keptV n z o l b = V
  have HV : Hid (keptV n z o l b = V) := hV
  clear hV
  go_enter Try.func103, Try.ntmps103
  go_wp2_with fail
  go_loop [9] (fun i => ∃ k : Nat, k ≤ n ∧ i = .int .i64 k ∧ (∀ j, j < k → matchH (z j) o l b = false)) (fun i => n - (intOf i).toNat)
  case atStart => exact ⟨0, Nat.zero_le _, rfl, fun j hj => absurd hj (Nat.not_lt_zero _)⟩
  case round =>
    obtain ⟨k, hk, rfl, hno⟩ := hrel
    have HN : Hid (∀ j, j < k → matchH (z j) o l b = false) := hno
    clear hno
    by_cases hlt : k < n
    · obtain ⟨bb, oo, rfl, hb, z0, z1, z2, z3⟩ := hz k hlt
      cases hm : matchH (z k) o l b
      · have HM : Hid (matchH (z k) o l b = false) := hm
        unfold matchH at hm
        cases h1 : ((z k).o == o)
        · clear hm
          go_wp2_with fail
          go_round
          case rel => exact ⟨k + 1, by omega, by go_num, fun j hj => by
            by_cases hjk : j = k
            · rw [hjk, HM.out]
            · exact HN.out j (by omega)⟩
          case measure => simp [intOf]; omega
        · cases h2 : ((z k).l == l)
          · clear hm
            go_wp2_with fail
            go_round
            case rel => exact ⟨k + 1, by omega, by go_num, fun j hj => by
              by_cases hjk : j = k
              · rw [hjk, HM.out]
              · exact HN.out j (by omega)⟩
            case measure => simp [intOf]; omega
          · have h3 : ((z k).b == b) = false := by simpa [h1, h2] using hm
            clear hm
            go_wp2_with fail
            go_round
            case rel => exact ⟨k + 1, by omega, by go_num, fun j hj => by
              by_cases hjk : j = k
              · rw [hjk, HM.out]
              · exact HN.out j (by omega)⟩
            case measure => simp [intOf]; omega
      · have hV2 : Hid ((z k).n = V) := (keptV_some hlt HN.out hm).symm.trans HV.out
        unfold matchH at hm
        simp only [Bool.and_eq_true] at hm
        obtain ⟨⟨h1, h2⟩, h3⟩ := hm
        go_wp2_with fail
        go_ret
        exact ⟨by rw [← hV2.out]; rfl, rfl⟩
    · have hV2 : Hid (0 = V) := (keptV_none fun j hj => HN.out j (by omega)).symm.trans HV.out
      go_wp2_with fail
      go_ret
      exact ⟨by rw [← hV2.out]; rfl, rfl⟩
set_option maxHeartbeats 1000000 in
theorem KeptOf_any (s : Hs) (o l : Int) (w : World) (hs : s.At w) (hr : anyB s.n (badH s.z) = false) :
    Calls Try.prog 122 #[s.val, .int .i64 o, .int .i64 l] w fun e w' => e = .returned (.int .i64 (keptS s.z o l s.n)) ∧ w' = w := by
  have hbd : Hid (∀ b : Int, 0 ≤ keptV s.n s.z o l b ∧ keptV s.n s.z o l b ≤ 200) := fun b => keptV_bd (fun j hj => (fineH_true (right_fine hr j hj)).2.2.2) o l b
  have hE := kept_eq s.z o l s.n hr
  have HE : Hid (sumTo (fun b => keptV s.n s.z o l b) 6 = keptS s.z o l s.n) := hE
  have HS : Hid _ := hs
  clear hE hr hs
  have sbd : Hid (∀ k : Nat, k ≤ 6 → 0 ≤ sumTo (fun b => keptV s.n s.z o l b) k ∧ sumTo (fun b => keptV s.n s.z o l b) k ≤ 200 * k) := fun k hk => sumTo_bd (n := 6) (fun j _ => hbd.out j) k hk
  generalize keptS s.z o l s.n = E at HE ⊢
  simp only [Hs.val]
  go_enter Try.func122, Try.ntmps122
  go_wp2_with fail
  go_loopw [7, 8] (fun u i wk => ∃ k : Nat, k ≤ 6 ∧ i = .int .i64 k ∧ u = .int .i64 (sumTo (fun b => keptV s.n s.z o l b) k) ∧ wk = w) (fun _ i _ => 6 - (intOf i).toNat)
  case atStart => exact ⟨0, by omega, rfl, rfl, rfl⟩
  case round =>
    obtain ⟨k, hk, rfl, rfl, hw⟩ := hrel
    have HW : Hid (wr = w) := hw
    clear hw
    have m1 := sbd.out k hk
    have m2 := hbd.out k
    have H1 : Hid (sumTo (fun b => keptV s.n s.z o l b) (k + 1) = sumTo (fun b => keptV s.n s.z o l b) k + keptV s.n s.z o l k) := rfl
    by_cases hlt : k < 6
    · generalize sumTo (fun b => keptV s.n s.z o l b) k = U at m1 H1 ⊢
      go_wp2_with fail
      refine calls_to (keptAt_any s o l k wr (by rw [HW.out]; exact HS.out)) ?_
      generalize keptV s.n s.z o l k = V at m2 H1 ⊢
      go_wp2_with fail
      go_roundw
      case rel => exact ⟨k + 1, by omega, by go_num, by rw [H1.out], HW.out⟩
      case measure => simp [intOf]; omega
    · have hk6 : k = 6 := by omega
      subst hk6
      rw [HE.out]
      go_wp2_with fail
      go_ret
      exact ⟨rfl, HW.out⟩
set_option maxHeartbeats 1000000 in
theorem Kept_any (s : Hs) (o l : Int) (w : World) (hs : s.At w) :
    Calls Try.prog 20 #[s.val, .int .i64 o, .int .i64 l] w fun e w' => e = .returned (.tuple #[.int .i64 (if checkH s.n s.z = 0 then keptS s.z o l s.n else 0), .int .i64 (checkH s.n s.z)]) ∧ Below w.heap.size w w' := by
  have HS : Hid _ := hs
  obtain ⟨a, n, c, z⟩ := s
  obtain ⟨hn, hc, hz⟩ := hs
  dsimp only at hn hc hz ⊢
  unfold maxLen at hc
  simp only [Hs.val]
  by_cases h0 : checkH n z = 0
  · have hr : anyB n (badH z) = false := by
      cases h : anyB n (badH z)
      · rfl
      · simp [checkH, h] at h0
    have hlen := right_len hr
    have hN : Hid (∀ j, j < n → 1 ≤ (z j).n ∧ (z j).n ≤ 200) := fun j hj => (fineH_true (right_fine hr j hj)).2.2.2
    have hbd : Hid (∀ k, k ≤ n → 0 ≤ keptS z o l k ∧ keptS z o l k ≤ 200 * k) := fun k hk => keptS_bd o l k fun j hj => hN.out j (by omega)
    rw [if_pos h0]
    have H0 : Hid (checkH n z = 0) := h0
    clear hr
    go_enter Try.func20, Try.ntmps20
    go_wp2_with fail
    refine (holdsCheck_any ⟨a, n, c, z⟩ w HS.out).mono ?_
    rintro e w1 ⟨rfl, hB1⟩
    dsimp only
    go_wp2_with fail
    clear h0
    go_loopw [9, 19] (fun u i wk => ∃ k : Nat, k ≤ n ∧ i = .int .i64 k ∧ u = .int .i64 (keptS z o l k) ∧ Below w.heap.size w wk) (fun _ i _ => n - (intOf i).toNat)
    case atStart => exact ⟨0, Nat.zero_le _, rfl, rfl, hB1⟩
    case round =>
      obtain ⟨k, hk, rfl, rfl, hB⟩ := hrel
      have m1 := hbd.out k hk
      by_cases hlt : k < n
      · obtain ⟨b, q, rfl, hb, z0, z1, z2, z3⟩ := (hz.below hB) k hlt
        have m2 := hN.out k hlt
        have H1 : Hid (keptS z o l (k + 1) = keptS z o l k + if (z k).o = o ∧ (z k).l = l then (z k).n else 0) := rfl
        generalize keptS z o l k = U at m1 H1 ⊢
        cases h1 : ((z k).o == o)
        · have hf : ¬ ((z k).o = o ∧ (z k).l = l) := by simp at h1; omega
          have HF : Hid _ := hf
          clear hf
          go_wp2_with fail
          go_roundw
          case rel => exact ⟨k + 1, by omega, by go_num, by rw [H1.out, if_neg HF.out, Int.add_zero], hB.alloc (by have := hB.size; omega) _⟩
          case measure => simp [intOf]; omega
        · cases h2 : ((z k).l == l)
          · have hf : ¬ ((z k).o = o ∧ (z k).l = l) := by simp at h2; omega
            have HF : Hid _ := hf
            clear hf
            go_wp2_with fail
            go_roundw
            case rel => exact ⟨k + 1, by omega, by go_num, by rw [H1.out, if_neg HF.out, Int.add_zero], hB.alloc (by have := hB.size; omega) _⟩
            case measure => simp [intOf]; omega
          · have hf : ((z k).o = o ∧ (z k).l = l) := by simp at h1 h2; exact ⟨h1, h2⟩
            have HF : Hid _ := hf
            clear hf
            go_wp2_with fail
            go_roundw
            case rel => exact ⟨k + 1, by omega, by go_num, by rw [H1.out, if_pos HF.out], hB.alloc (by have := hB.size; omega) _⟩
            case measure => simp [intOf]; omega
      · have hkn : k = n := by omega
        subst hkn
        go_wp2_with fail
        go_ret2
        exact ⟨by rw [H0.out]; rfl, hB⟩
  · rw [if_neg h0]
    go_enter Try.func20, Try.ntmps20
    go_wp2_with fail
    refine (holdsCheck_any ⟨a, n, c, z⟩ w HS.out).mono ?_
    rintro e w1 ⟨rfl, hB1⟩
    dsimp only
    go_wp2_with fail
    go_ret2
    exact ⟨rfl, hB1⟩
end Go.Proofs.Ytbcacebifpagpac
namespace Go.Proofs.Ytbcacebifpagpac
open Go.RowKit Go.Shelf Go.Lib
set_option linter.unusedVariables false
def flatH (n : Nat) (z : Nat → Hd) : List Value := (List.range n).flatMap fun i => hdCells (z i)
theorem flatH_len : ∀ (n : Nat) (z : Nat → Hd), (flatH n z).length = n * 4
  | 0, _ => rfl
  | n + 1, z => by
    have := flatH_len n z
    unfold flatH at *
    rw [List.range_succ, List.flatMap_append, List.length_append, this]
    simp [hdCells]
    omega
theorem flatH_succ (n : Nat) (z : Nat → Hd) : flatH (n + 1) z = flatH n z ++ hdCells (z n) := by
  unfold flatH
  rw [List.range_succ, List.flatMap_append]
  simp
theorem flatH_get : ∀ (n : Nat) (z : Nat → Hd) (i c : Nat), i < n → c < 4 → (flatH n z)[i * 4 + c]? = (hdCells (z i))[c]?
  | n + 1, z, i, c, hi, hc => by
    rw [flatH_succ]
    by_cases hin : i = n
    · subst hin
      rw [List.getElem?_append_right (by rw [flatH_len]; omega), flatH_len]
      congr 1
      omega
    · rw [List.getElem?_append_left (by rw [flatH_len]; omega)]
      exact flatH_get n z i c (by omega) hc
theorem flatH_congr {n : Nat} {z z' : Nat → Hd} (h : ∀ i, i < n → z i = z' i) : flatH n z = flatH n z' := by
  unfold flatH
  rw [List.flatMap_def, List.flatMap_def]
  rw [List.map_congr_left fun i hi => by rw [h i (List.mem_range.1 hi)]]
theorem flatH_one (n : Nat) (z : Nat → Hd) : ∀ u ∈ flatH n z, u.oneCell' = true := by
  intro u hu
  unfold flatH at hu
  rw [List.mem_flatMap] at hu
  obtain ⟨i, _, hi⟩ := hu
  simp [hdCells] at hi
  rcases hi with rfl | rfl | rfl | rfl <;> rfl
theorem HdsAt.news {w : World} {b o n : Nat} {z : Nat → Hd} (h : HdsAt w (some ⟨b, o, none⟩) n z) : ∀ j u, (flatH n z)[j]? = some u → w.cell? ((⟨b, o, none⟩ : Addr).add j) = some u := by
  intro j u hj
  have hlt : j < n * 4 := by
    have := (List.getElem?_eq_some_iff.1 hj).1
    rwa [flatH_len] at this
  have hjd : j = (j / 4) * 4 + j % 4 := by omega
  have hq : j / 4 < n := by omega
  obtain ⟨b', o', he, _, h0, h1, h2, h3⟩ := h (j / 4) hq
  simp only [Option.some.injEq, Addr.mk.injEq, and_true] at he
  obtain ⟨rfl, rfl⟩ := he
  rw [hjd, flatH_get n z _ _ hq (by omega)] at hj
  rw [Go.WideShapes.add_plain]
  have hc : j % 4 = 0 ∨ j % 4 = 1 ∨ j % 4 = 2 ∨ j % 4 = 3 := by omega
  rcases hc with hc | hc | hc | hc
  · rw [hc] at hj; simp [hdCells] at hj; rw [← hj, ← h0]; congr 2; omega
  · rw [hc] at hj; simp [hdCells] at hj; rw [← hj, ← h1]; congr 2; omega
  · rw [hc] at hj; simp [hdCells] at hj; rw [← hj, ← h2]; congr 2; omega
  · rw [hc] at hj; simp [hdCells] at hj; rw [← hj, ← h3]; congr 2; omega
theorem Hs.ofOwns {w : World} {base : Nat} {e : TypeId} {v : Value} {n : Nat} {z : Nat → Hd} (h : w.ownsRow base e 4 v n (flatH n z)) : ∃ s : Hs, v = s.val ∧ s.At w ∧ s.n = n ∧ s.z = z := by
  by_cases hv : v = .slice none 0 0
  · have hn : n = 0 := by
      rcases h.2 with ⟨_, h0⟩ | ⟨g, cap, cur, hv', _⟩
      · exact h0
      · rw [hv] at hv'; cases hv'
    subst hn
    exact ⟨⟨none, 0, 0, z⟩, hv, ⟨Nat.le_refl _, Nat.zero_le _, fun i hi => absurd hi (Nat.not_lt_zero _), fun _ => rfl⟩, rfl, rfl⟩
  · obtain ⟨g, c, rfl, h1, h2, h3, h4⟩ := Blk.ofOwns h hv
    refine ⟨⟨some ⟨g, 0, none⟩, n, c, z⟩, rfl, ⟨h1, h2, fun i hi => ?_, fun h => by cases h⟩, rfl, rfl⟩
    have hi' : i < n := hi
    have k : ∀ q, q < 4 → w.cell? ⟨g, 0 + i * 4 + q, none⟩ = some ((flatH n z).getD (i * 4 + q) default) := fun q hq => by
      rw [Nat.zero_add]
      exact h4.cell (by omega)
    have e : ∀ q, q < 4 → (flatH n z).getD (i * 4 + q) default = (hdCells (z i)).getD q default := fun q hq => by
      simp only [List.getD, flatH_get n z i q hi' hq]
    refine ⟨g, 0, rfl, h4.lt, ?_, ?_, ?_, ?_⟩
    · have := k 0 (by omega); rw [e 0 (by omega)] at this; simpa [hdCells] using this
    · have := k 1 (by omega); rw [e 1 (by omega)] at this; simpa [hdCells] using this
    · have := k 2 (by omega); rw [e 2 (by omega)] at this; simpa [hdCells] using this
    · have := k 3 (by omega); rw [e 3 (by omega)] at this; simpa [hdCells] using this
end Go.Proofs.Ytbcacebifpagpac
namespace Go.Proofs.Ytbcacebifpagpac
open Go.RowKit Go.Shelf
set_option linter.unusedVariables false
def OwnH (A : Nat) (e : TypeId) (w : World) (s : Hs) : Prop := s.n ≤ s.c ∧ s.c ≤ maxLen ∧ (s.a = none → s.c = 0) ∧ (0 < s.n → ∃ g, s.a = some ⟨g, 0, none⟩ ∧ A ≤ g ∧ Blk w g e (s.n * 4) (fun j => (flatH s.n s.z).getD j default))
theorem OwnH.at {A : Nat} {e : TypeId} {w : World} {s : Hs} (h : OwnH A e w s) : s.At w := by
  obtain ⟨h1, h2, h3, h4⟩ := h
  refine ⟨h1, h2, fun i hi => ?_, h3⟩
  obtain ⟨g, ha, hA, hb⟩ := h4 (by omega)
  have c : ∀ k, k < 4 → w.cell? ⟨g, 0 + i * 4 + k, none⟩ = (hdCells (s.z i))[k]? := fun k hk => by
    have h5 := hb.cell (j := i * 4 + k) (by omega)
    have h6 := flatH_get s.n s.z i k hi hk
    have h7 : i * 4 + k < (flatH s.n s.z).length := by rw [flatH_len]; omega
    rw [Nat.zero_add, h5, ← h6, List.getElem?_eq_getElem h7]
    simp [List.getD, List.getElem?_eq_getElem h7]
  exact ⟨g, 0, ha, hb.lt, c 0 (by decide), c 1 (by decide), c 2 (by decide), c 3 (by decide)⟩
theorem OwnH.below {A : Nat} {e : TypeId} {w w' : World} {s : Hs} (h : OwnH A e w s) (hB : Below w.heap.size w w') : OwnH A e w' s := by
  obtain ⟨h1, h2, h3, h4⟩ := h
  refine ⟨h1, h2, h3, fun hn => ?_⟩
  obtain ⟨g, ha, hA, hb⟩ := h4 hn
  exact ⟨g, ha, hA, hb.below hB⟩
theorem Blk.ne2 {w : World} {g g' : Nat} {e e' : TypeId} {n n' : Nat} {f f' : Nat → Value} (h : Blk w g e n f) (h' : Blk w g' e' n' f') (he : e ≠ e') : g ≠ g' := by
  rintro rfl
  obtain ⟨c, hc, _⟩ := h
  obtain ⟨c', hc', _⟩ := h'
  rw [hc] at hc'
  cases hc'
  exact he rfl
theorem OwnH.other {A : Nat} {e t : TypeId} {w : World} {s : Hs} {q n : Nat} {f : Nat → Value} (h : OwnH A e w s) (hq : Blk w q t n f) (hne : e ≠ t) (j : Nat) (u : Value) : OwnH A e (w.setCell ⟨q, j, none⟩ u) s := by
  obtain ⟨h1, h2, h3, h4⟩ := h
  refine ⟨h1, h2, h3, fun hn => ?_⟩
  obtain ⟨g, ha, hA, hb⟩ := h4 hn
  exact ⟨g, ha, hA, hb.other (a := ⟨q, j, none⟩) (Blk.ne2 hb hq hne) u⟩
theorem OwnH.mono {A A' : Nat} {e : TypeId} {w : World} {s : Hs} (h : OwnH A e w s) (hA : A' ≤ A) : OwnH A' e w s := by
  obtain ⟨h1, h2, h3, h4⟩ := h
  refine ⟨h1, h2, h3, fun hn => ?_⟩
  obtain ⟨g, ha, h5, hb⟩ := h4 hn
  exact ⟨g, ha, by omega, hb⟩
def Room (A : Nat) (w : World) (e : TypeId) (size : Nat) (a : Option Addr) (c : Nat) : Prop := c = 0 ∨ ∃ g cur, a = some ⟨g, 0, none⟩ ∧ A ≤ g ∧ w.heap[g]? = some (.cells cur e (0, 0)) ∧ cur.size = c * size
theorem Room.ofOwns {A A' : Nat} {w : World} {e : TypeId} {size : Nat} {a : Option Addr} {n n' c : Nat} {xs : List Value} (h : w.ownsRow A e size (.slice a n c) n' xs) (hA : A' ≤ A) : Room A' w e size a c := by
  obtain ⟨_, ⟨h, _⟩ | ⟨g, cap, cur, h, hb, hg, h1, h2, h3, h4⟩⟩ := h
  · cases h; exact Or.inl rfl
  · cases h; exact Or.inr ⟨g, cur, rfl, Nat.le_trans hA hb, hg, h3⟩
theorem Room.same {A : Nat} {w w' : World} {e : TypeId} {size : Nat} {a : Option Addr} {c : Nat} (h : Room A w e size a c) (hs : ∀ (g : Nat) (cur : Array Value), w.heap[g]? = some (.cells cur e (0, 0)) → w'.heap[g]? = w.heap[g]?) : Room A w' e size a c := by
  rcases h with h | ⟨g, cur, h1, h2, h3, h4⟩
  · exact Or.inl h
  · exact Or.inr ⟨g, cur, h1, h2, (hs g cur h3).trans h3, h4⟩
theorem Room.below {A : Nat} {w w' : World} {e : TypeId} {size : Nat} {a : Option Addr} {c : Nat} (h : Room A w e size a c) (hB : Below w.heap.size w w') : Room A w' e size a c :=
  h.same fun g _ hg => hB.block g (Array.getElem?_eq_some_iff.1 hg).1
theorem Room.mono {A A' : Nat} {w : World} {e : TypeId} {size : Nat} {a : Option Addr} {c : Nat} (h : Room A w e size a c) (hA : A' ≤ A) : Room A' w e size a c := by
  rcases h with h | ⟨g, cur, h1, h2, h3⟩
  · exact Or.inl h
  · exact Or.inr ⟨g, cur, h1, by omega, h3⟩
theorem Room.set {A : Nat} {w : World} {e : TypeId} {size : Nat} {a : Option Addr} {c : Nat} (h : Room A w e size a c) (q j : Nat) (u : Value) : Room A (w.setCell ⟨q, j, none⟩ u) e size a c := by
  rcases h with h | ⟨g, cur, h1, h2, h3, h4⟩
  · exact Or.inl h
  · by_cases hq : g = q
    · subst hq
      exact Or.inr ⟨g, cur.setIfInBounds j u, h1, h2, by simp [World.setCell, Array.getElem?_modify, h3], by simpa using h4⟩
    · exact Or.inr ⟨g, cur, h1, h2, (Below.heap_setCell w ⟨q, j, none⟩ u g hq).trans h3, h4⟩
end Go.Proofs.Ytbcacebifpagpac
namespace Go.Proofs.Ytbcacebifpagpac
open Go.RowKit Go.Shelf
set_option linter.unusedVariables false
theorem infoInt : (Try.prog.info? 3).map (fun i => (i.zero, i.size, i.bytes)) = some (some (.int .i64 0), 1, 8) := by kernel_rfl
theorem infoInts : (Try.prog.info? 23).map (fun i => (i.zero, i.size, i.bytes)) = some (some (.slice none 0 0), 1, 24) := by kernel_rfl
set_option maxHeartbeats 1000000 in
theorem Clone_any (b o n c : Nat) (z : Nat → Int) (w : World) (hbig : n * 8 ≤ 140737488355328) (hn : 0 < n)
    (hc : IntsAt w (some ⟨b, o, none⟩) n z) :
    Calls Try.prog 92 #[.slice (some ⟨b, o, none⟩) n c] w fun e w' => ∃ g c', e = .returned (.slice (some ⟨g, 0, none⟩) n c') ∧ n ≤ c' ∧ c' ≤ maxLen ∧ w.heap.size ≤ g ∧ Blk w' g 3 n (fun j => .int .i64 (z j)) ∧ Below w.heap.size w w' := by
  obtain ⟨i0, hi, hz0, hz1, hz2⟩ := info_parts infoInt
  have q22 : ∀ (w : World) (a : Option Addr) (n c n' c' : Nat), (binOp .eql 23 (.slice a n c) (.slice none n' c')).run Try.prog w = .ok (.bool a.isNone) w := fun w a n c n' c' => Lib.run_eql_slice_nil w _ _ a n c n' c' Try.underlying23
  go_enter Try.func92, Try.ntmps92
  go_wp2_with (at_builtin; refine wpList_append_own _ rfl _ _ 23 rfl w.heap.size 3 i0 (.int .i64 0) 1 8 Try.underlying23 hi hz0 hz1 hz2 rfl (by decide) _ _ _ rfl (World.ownsRow_made w #[] 0 (Nat.le_refl _) (Nat.zero_le _) rfl) ⟨b, o, none⟩ n c ((List.range n).map fun j => Value.int .i64 (z j)) rfl ?qc1 ?qc2 ?qc3 ?qc4 ?qc5 ?qc6 ?_)
  case qc1 => simp
  case qc2 =>
    intro j u hj
    have hjn : j < n := by
      have := (List.getElem?_eq_some_iff.1 hj).1
      simpa using this
    obtain ⟨b', o', he, hb, hcell⟩ := hc j hjn
    simp only [Option.some.injEq, Addr.mk.injEq, and_true] at he
    obtain ⟨rfl, rfl⟩ := he
    rw [Go.WideShapes.add_plain]
    rw [((Below.refl w.heap.size w).alloc (Nat.le_refl _) _).cell (p := ⟨b, o + j, none⟩) hb, hcell]
    simp [hjn] at hj
    rw [hj]
  case qc3 => intro u hu; obtain ⟨x, _, rfl⟩ := List.mem_map.1 hu; rfl
  case qc4 => unfold maxLen; omega
  case qc5 => omega
  case qc6 => simp
  intro v' w1 hown hgrow hnil
  have hv : v' ≠ .slice none 0 0 := hnil
  obtain ⟨g, c', rfl, h1, h2, h3, h4⟩ := Blk.ofOwns hown hv
  rw [Nat.mul_one] at h4
  have hB : Below w.heap.size w w1 := ((Below.refl _ w).alloc (Nat.le_refl _) _).grown hgrow (by simp) (by intro k hk; simp [Value.ownBlock] at hk; omega)
  clear hown hgrow hnil hc
  go_wp2
  go_ret
  exact ⟨g, c', rfl, h1, h2, h3, h4.congr (fun j hj => by simp [hj]), hB⟩
theorem made_slice {j n : Nat} (hj : j < n) : (madeCells (Value.slice none 0 0).cells n).toList.getD j default = .slice none 0 0 := by
  simp [madeCells, Value.cells, hj, Nat.mod_one]
set_option maxHeartbeats 1000000 in
theorem copyRows_any (s : Sh) (w : World) (hs : s.At w) (hn : s.n ≤ 6) (hr : ∀ i, i < s.n → 1 ≤ (s.r i).n ∧ (s.r i).n ≤ 3) :
    Calls Try.prog 88 #[s.val] w fun e w' => ∃ (g : Nat) (G C : Nat → Nat), e = .returned (.slice (some ⟨g, 0, none⟩) s.n s.n) ∧ w.heap.size ≤ g ∧
      Blk w' g 23 s.n (fun i => .slice (some ⟨G i, 0, none⟩) (s.r i).n (C i)) ∧
      (∀ i, i < s.n → g < G i ∧ (s.r i).n ≤ C i ∧ C i ≤ maxLen ∧ Blk w' (G i) 3 (s.r i).n (fun j => .int .i64 ((s.r i).z j))) ∧
      (∀ i j, i < j → j < s.n → G i < G j) ∧ Below w.heap.size w w' := by
  obtain ⟨sle, scap, rows⟩ := hs
  obtain ⟨s0, sn, sc, sr⟩ := s
  dsimp only at sle scap rows hn hr
  unfold maxLen at scap
  simp only [Sh.val]
  obtain ⟨i0, hi, hz0, hz1, hz2⟩ := info_parts infoInts
  go_enter Try.func88, Try.ntmps88
  go_wp2_with (at_make; refine wpList_make_full _ rfl _ _ 26 rfl w.heap.size 23 i0 (.slice none 0 0) 1 Try.underlying26 hi hz0 hz1 .i64 .i64 _ _ sn rfl rfl rfl rfl (by rw [hz2]; omega) (by unfold maxLen; omega) (Nat.le_refl _) ?_; intro w1 hown hgrow)
  obtain ⟨g, c', hv, _, _, _, hblk⟩ := Blk.ofOwns hown (by simp)
  simp only [Value.slice.injEq, Option.some.injEq, Addr.mk.injEq, and_true] at hv
  obtain ⟨rfl, -, -⟩ := hv
  rw [Nat.mul_one] at hblk
  have hB1 : Below w.heap.size w w1 := (Below.refl _ w).grown hgrow (Nat.le_refl _) (by intro k hk; cases hk)
  clear hown hgrow
  go_loopw [11] (fun i wk => ∃ k : Nat, k ≤ sn ∧ i = .int .i64 k ∧ (∃ (G C : Nat → Nat), Blk wk w.heap.size 23 sn (fun i => if i < k then .slice (some ⟨G i, 0, none⟩) (sr i).n (C i) else .slice none 0 0) ∧
      (∀ i, i < k → w.heap.size < G i ∧ (sr i).n ≤ C i ∧ C i ≤ maxLen ∧ Blk wk (G i) 3 (sr i).n (fun j => .int .i64 ((sr i).z j))) ∧
      (∀ i j, i < j → j < k → G i < G j)) ∧ Below w.heap.size w wk) (fun i _ => sn - (intOf i).toNat)
  case atStart => exact ⟨0, Nat.zero_le _, rfl, ⟨fun _ => 0, fun _ => 0, hblk.congr (fun j hj => by rw [made_slice hj]; simp), fun i hi => absurd hi (Nat.not_lt_zero _), fun i j _ hj => absurd hj (Nat.not_lt_zero _)⟩, hB1⟩
  case round =>
    obtain ⟨k, hk, rfl, hgs, hB⟩ := hrel
    by_cases hlt : k < sn
    · obtain ⟨b, o, rfl, hb, z0, hat⟩ := (rows.below hB) k hlt
      have hr1 := hr k hlt
      obtain ⟨rle, rcap, ints⟩ := hat
      obtain ⟨b1, o1, ha, hb1, y0⟩ := ints 0 (by omega)
      rw [ha] at z0 ints
      clear y0
      have HG : Hid _ := hgs
      clear hgs ha
      have m1 : (0 : Int) ≤ (k : Int) := by omega
      go_wp2_with fail
      refine (Clone_any b1 o1 _ _ (sr k).z _ (by omega) (by omega) ints).mono ?_
      rintro e w2 ⟨g, c2, rfl, h1, h2, h3, h4, hB2⟩
      obtain ⟨G, C, gb, gr, gm⟩ := HG.out
      have hb0 := gb.lt
      have gb2 := gb.below hB2
      have hf0 := gb2.frozen k
      have hc0 := gb2.cell hlt
      simp only [Nat.lt_irrefl, if_false] at hc0
      have hB3 := hB.trans (hB2.mono hB.size)
      have st := hB3.setCell (p := ⟨w.heap.size, k, none⟩) (Nat.le_refl _) (.slice (some ⟨g, 0, none⟩) (sr k).n c2)
      have KB := gb2.set k (.slice (some ⟨g, 0, none⟩) (sr k).n c2)
      have KO : ∀ i, i < k → Blk (w2.setCell ⟨w.heap.size, k, none⟩ (.slice (some ⟨g, 0, none⟩) (sr k).n c2)) (G i) 3 (sr i).n (fun j => .int .i64 ((sr i).z j)) := fun i hi => ((gr i hi).2.2.2.below hB2).other (by have := (gr i hi).1; show _ ≠ w.heap.size; omega) _
      have KN : Blk (w2.setCell ⟨w.heap.size, k, none⟩ (.slice (some ⟨g, 0, none⟩) (sr k).n c2)) g 3 (sr k).n (fun j => .int .i64 ((sr k).z j)) := h4.other (by show _ ≠ w.heap.size; omega) _
      have GK : ∀ i, i < k → G i < g := fun i hi => by have := (gr i hi).2.2.2.lt; omega
      have H : Hid _ := And.intro KB (And.intro KO (And.intro KN (And.intro GK (And.intro gr gm))))
      clear KB KO KN GK gb gb2 gm h4 gr
      go_wp2_with fail
      go_roundw
      case rel =>
        obtain ⟨KB, KO, KN, GK, gr, gm⟩ := H.out
        refine ⟨k + 1, by omega, by go_num, ⟨fun i => if i = k then g else G i, fun i => if i = k then c2 else C i, KB.congr ?_, ?_, ?_⟩, st⟩
        · intro j hj
          by_cases hjk : j = k
          · subst hjk; simp
          · by_cases hj2 : j < k
            · simp [hjk, hj2, show j < k + 1 by omega]
            · simp [hjk, hj2, show ¬ j < k + 1 by omega]
        · intro i hi
          by_cases hik : i = k
          · subst hik
            simp only [if_true]
            exact ⟨by omega, h1, h2, KN⟩
          · simp only [hik, if_false]
            have hi2 : i < k := by omega
            exact ⟨(gr i hi2).1, (gr i hi2).2.1, (gr i hi2).2.2.1, KO i hi2⟩
        · intro i j hij hj
          by_cases hjk : j = k
          · subst hjk
            simp [show ¬ i = j by omega, GK i hij]
          · simp [hjk, show ¬ i = k by omega, gm i j hij (by omega)]
      case measure => simp [intOf]; omega
    · go_wp2_with fail
      go_ret
      have hkn : k = sn := by omega
      subst hkn
      obtain ⟨G, C, gb, gr, gm⟩ := hgs
      exact ⟨w.heap.size, G, C, rfl, Nat.le_refl _, gb.congr (fun j hj => by simp [hj]), gr, gm, hB⟩
end Go.Proofs.Ytbcacebifpagpac
namespace Go.Proofs.Ytbcacebifpagpac
open Go.RowKit Go.Shelf
set_option linter.unusedVariables false
def Cloned (A : Nat) (e : TypeId) (s : Hs) (w' : World) (s' : Hs) : Prop := s'.n = s.n ∧ (∀ j, j < s.n → s'.z j = s.z j) ∧ OwnH A e w' s' ∧ Room A w' e 4 s'.a s'.c
theorem OwnH.ofOwns {w : World} {base : Nat} {e : TypeId} {v : Value} {n : Nat} {z : Nat → Hd} (h : w.ownsRow base e 4 v n (flatH n z)) (hn : v ≠ .slice none 0 0) : ∃ s : Hs, v = s.val ∧ s.n = n ∧ s.z = z ∧ OwnH base e w s ∧ Room base w e 4 s.a s.c := by
  obtain ⟨g, c, rfl, h1, h2, h3, h4⟩ := Blk.ofOwns h hn
  exact ⟨⟨some ⟨g, 0, none⟩, n, c, z⟩, rfl, rfl, rfl, ⟨h1, h2, (fun e => by cases e), fun _ => ⟨g, rfl, h3, h4⟩⟩, Room.ofOwns h (Nat.le_refl _)⟩
theorem infoHoldC : (Try.prog.info? 65).map (fun i => (i.zero, i.size, i.bytes)) = some (some (.agg #[.int .i64 0, .int .i64 0, .int .i64 0, .int .i64 0]), 4, 32) := by kernel_rfl
set_option maxRecDepth 100000 in
set_option maxHeartbeats 1000000 in
theorem CloneHold_any (s : Hs) (w : World) (hs : s.At w) (hn : s.n ≤ 1000) :
    Calls Try.prog 90 #[s.val] w fun e w' => ∃ s' : Hs, e = .returned s'.val ∧ Cloned w.heap.size 65 s w' s' ∧ Below w.heap.size w w' := by
  obtain ⟨sle, scap, sh, snil⟩ := hs
  obtain ⟨sa, sn, sc, sz⟩ := s
  dsimp only at sle scap sh snil hn
  simp only [Hs.val]
  obtain ⟨i0, hi, hz0, hz1, hz2⟩ := info_parts infoHoldC
  have q22 : ∀ (w : World) (a : Option Addr) (n c n' c' : Nat), (binOp .eql 28 (.slice a n c) (.slice none n' c')).run Try.prog w = .ok (.bool a.isNone) w := fun w a n c n' c' => Lib.run_eql_slice_nil w _ _ a n c n' c' Try.underlying28
  cases sa with
  | none =>
    have hc0 := snil rfl
    subst hc0
    have hn0 : sn = 0 := by omega
    subst hn0
    go_enter Try.func90, Try.ntmps90
    go_wp2
    go_ret
    exact ⟨⟨none, 0, 0, sz⟩, rfl, ⟨rfl, fun j hj => rfl, ⟨Nat.le_refl _, Nat.zero_le _, fun _ => rfl, fun h => absurd h (Nat.lt_irrefl _)⟩, Or.inl rfl⟩, Below.refl _ _⟩
  | some ad =>
    have hnews : ∀ j u, (flatH sn sz)[j]? = some u → w.cell? (ad.add j) = some u ∧ (ad.add j).block < w.heap.size := fun j u hj => by
      have hlen := (List.getElem?_eq_some_iff.1 hj).1
      rw [flatH_len] at hlen
      obtain ⟨b, o, he, hb, -⟩ := sh 0 (by omega)
      simp only [Option.some.injEq] at he
      subst he
      exact ⟨HdsAt.news sh j u hj, by rw [Go.WideShapes.add_plain]; exact hb⟩
    have HN : Hid (∀ j u, (flatH sn sz)[j]? = some u → w.cell? (ad.add j) = some u ∧ (ad.add j).block < w.heap.size) := hnews
    clear hnews sh snil
    go_enter Try.func90, Try.ntmps90
    go_wp2_with (at_builtin; refine wpList_append_own _ rfl _ _ 28 rfl w.heap.size 65 i0 (.agg #[.int .i64 0, .int .i64 0, .int .i64 0, .int .i64 0]) 4 32 Try.underlying28 hi hz0 hz1 hz2 rfl (by decide) _ _ _ rfl (World.ownsRow_made w #[] 0 (Nat.le_refl _) (Nat.zero_le _) rfl) ad sn sc (flatH sn sz) rfl ?qc1 ?qc2 ?qc3 ?qc4 ?qc5 ?qc6 ?_)
    case qc1 => rw [flatH_len]
    case qc2 =>
      intro j u hj
      have := HN.out j u hj
      rw [((Below.refl w.heap.size w).alloc (Nat.le_refl _) _).cell (p := ad.add j) this.2]
      exact this.1
    case qc3 => exact flatH_one sn sz
    case qc4 => unfold maxLen; omega
    case qc5 => omega
    case qc6 => simp
    intro v' w1 hown hgrow hnil
    have hB : Below w.heap.size w w1 := ((Below.refl _ w).alloc (Nat.le_refl _) _).grown hgrow (by simp) (by intro k hk; simp [Value.ownBlock] at hk; omega)
    obtain ⟨s', rfl, e1, e2, e3⟩ := OwnH.ofOwns hown hnil
    clear hown hgrow hnil
    have HR : Hid (s'.n = sn ∧ s'.z = sz ∧ OwnH w.heap.size 65 w1 s' ∧ Room w.heap.size w1 65 4 s'.a s'.c) := ⟨e1, e2, e3⟩
    clear e1 e2 e3
    simp only [Hs.val]
    go_wp2
    go_ret
    exact ⟨s', rfl, ⟨HR.out.1, fun j _ => by rw [HR.out.2.1], HR.out.2.2⟩, hB⟩
theorem infoMoveC : (Try.prog.info? 70).map (fun i => (i.zero, i.size, i.bytes)) = some (some (.agg #[.int .i64 0, .int .i64 0, .int .i64 0, .int .i64 0]), 4, 32) := by kernel_rfl
set_option maxRecDepth 100000 in
set_option maxHeartbeats 1000000 in
theorem CloneMove_any (s : Hs) (w : World) (hs : s.At w) (hn : s.n ≤ 1000) :
    Calls Try.prog 91 #[s.val] w fun e w' => ∃ s' : Hs, e = .returned s'.val ∧ Cloned w.heap.size 70 s w' s' ∧ Below w.heap.size w w' := by
  obtain ⟨sle, scap, sh, snil⟩ := hs
  obtain ⟨sa, sn, sc, sz⟩ := s
  dsimp only at sle scap sh snil hn
  simp only [Hs.val]
  obtain ⟨i0, hi, hz0, hz1, hz2⟩ := info_parts infoMoveC
  have q22 : ∀ (w : World) (a : Option Addr) (n c n' c' : Nat), (binOp .eql 29 (.slice a n c) (.slice none n' c')).run Try.prog w = .ok (.bool a.isNone) w := fun w a n c n' c' => Lib.run_eql_slice_nil w _ _ a n c n' c' Try.underlying29
  cases sa with
  | none =>
    have hc0 := snil rfl
    subst hc0
    have hn0 : sn = 0 := by omega
    subst hn0
    go_enter Try.func91, Try.ntmps91
    go_wp2
    go_ret
    exact ⟨⟨none, 0, 0, sz⟩, rfl, ⟨rfl, fun j hj => rfl, ⟨Nat.le_refl _, Nat.zero_le _, fun _ => rfl, fun h => absurd h (Nat.lt_irrefl _)⟩, Or.inl rfl⟩, Below.refl _ _⟩
  | some ad =>
    have hnews : ∀ j u, (flatH sn sz)[j]? = some u → w.cell? (ad.add j) = some u ∧ (ad.add j).block < w.heap.size := fun j u hj => by
      have hlen := (List.getElem?_eq_some_iff.1 hj).1
      rw [flatH_len] at hlen
      obtain ⟨b, o, he, hb, -⟩ := sh 0 (by omega)
      simp only [Option.some.injEq] at he
      subst he
      exact ⟨HdsAt.news sh j u hj, by rw [Go.WideShapes.add_plain]; exact hb⟩
    have HN : Hid (∀ j u, (flatH sn sz)[j]? = some u → w.cell? (ad.add j) = some u ∧ (ad.add j).block < w.heap.size) := hnews
    clear hnews sh snil
    go_enter Try.func91, Try.ntmps91
    go_wp2_with (at_builtin; refine wpList_append_own _ rfl _ _ 29 rfl w.heap.size 70 i0 (.agg #[.int .i64 0, .int .i64 0, .int .i64 0, .int .i64 0]) 4 32 Try.underlying29 hi hz0 hz1 hz2 rfl (by decide) _ _ _ rfl (World.ownsRow_made w #[] 0 (Nat.le_refl _) (Nat.zero_le _) rfl) ad sn sc (flatH sn sz) rfl ?qc1 ?qc2 ?qc3 ?qc4 ?qc5 ?qc6 ?_)
    case qc1 => rw [flatH_len]
    case qc2 =>
      intro j u hj
      have := HN.out j u hj
      rw [((Below.refl w.heap.size w).alloc (Nat.le_refl _) _).cell (p := ad.add j) this.2]
      exact this.1
    case qc3 => exact flatH_one sn sz
    case qc4 => unfold maxLen; omega
    case qc5 => omega
    case qc6 => simp
    intro v' w1 hown hgrow hnil
    have hB : Below w.heap.size w w1 := ((Below.refl _ w).alloc (Nat.le_refl _) _).grown hgrow (by simp) (by intro k hk; simp [Value.ownBlock] at hk; omega)
    obtain ⟨s', rfl, e1, e2, e3⟩ := OwnH.ofOwns hown hnil
    clear hown hgrow hnil
    have HR : Hid (s'.n = sn ∧ s'.z = sz ∧ OwnH w.heap.size 70 w1 s' ∧ Room w.heap.size w1 70 4 s'.a s'.c) := ⟨e1, e2, e3⟩
    clear e1 e2 e3
    simp only [Hs.val]
    go_wp2
    go_ret
    exact ⟨s', rfl, ⟨HR.out.1, fun j _ => by rw [HR.out.2.1], HR.out.2.2⟩, hB⟩
theorem infoLineC : (Try.prog.info? 53).map (fun i => (i.zero, i.size, i.bytes)) = some (some (.agg #[.int .i64 0, .int .i64 0, .int .i64 0, .int .i64 0]), 4, 32) := by kernel_rfl
set_option maxRecDepth 100000 in
set_option maxHeartbeats 1000000 in
theorem CloneLine_any (s : Hs) (w : World) (hs : s.At w) (hn : s.n ≤ 1000) :
    Calls Try.prog 64 #[s.val] w fun e w' => ∃ s' : Hs, e = .returned s'.val ∧ Cloned w.heap.size 53 s w' s' ∧ Below w.heap.size w w' := by
  obtain ⟨sle, scap, sh, snil⟩ := hs
  obtain ⟨sa, sn, sc, sz⟩ := s
  dsimp only at sle scap sh snil hn
  simp only [Hs.val]
  obtain ⟨i0, hi, hz0, hz1, hz2⟩ := info_parts infoLineC
  have q22 : ∀ (w : World) (a : Option Addr) (n c n' c' : Nat), (binOp .eql 49 (.slice a n c) (.slice none n' c')).run Try.prog w = .ok (.bool a.isNone) w := fun w a n c n' c' => Lib.run_eql_slice_nil w _ _ a n c n' c' Try.underlying49
  cases sa with
  | none =>
    have hc0 := snil rfl
    subst hc0
    have hn0 : sn = 0 := by omega
    subst hn0
    go_enter Try.func64, Try.ntmps64
    go_wp2
    go_ret
    exact ⟨⟨none, 0, 0, sz⟩, rfl, ⟨rfl, fun j hj => rfl, ⟨Nat.le_refl _, Nat.zero_le _, fun _ => rfl, fun h => absurd h (Nat.lt_irrefl _)⟩, Or.inl rfl⟩, Below.refl _ _⟩
  | some ad =>
    have hnews : ∀ j u, (flatH sn sz)[j]? = some u → w.cell? (ad.add j) = some u ∧ (ad.add j).block < w.heap.size := fun j u hj => by
      have hlen := (List.getElem?_eq_some_iff.1 hj).1
      rw [flatH_len] at hlen
      obtain ⟨b, o, he, hb, -⟩ := sh 0 (by omega)
      simp only [Option.some.injEq] at he
      subst he
      exact ⟨HdsAt.news sh j u hj, by rw [Go.WideShapes.add_plain]; exact hb⟩
    have HN : Hid (∀ j u, (flatH sn sz)[j]? = some u → w.cell? (ad.add j) = some u ∧ (ad.add j).block < w.heap.size) := hnews
    clear hnews sh snil
    go_enter Try.func64, Try.ntmps64
    go_wp2_with (at_builtin; refine wpList_append_own _ rfl _ _ 49 rfl w.heap.size 53 i0 (.agg #[.int .i64 0, .int .i64 0, .int .i64 0, .int .i64 0]) 4 32 Try.underlying49 hi hz0 hz1 hz2 rfl (by decide) _ _ _ rfl (World.ownsRow_made w #[] 0 (Nat.le_refl _) (Nat.zero_le _) rfl) ad sn sc (flatH sn sz) rfl ?qc1 ?qc2 ?qc3 ?qc4 ?qc5 ?qc6 ?_)
    case qc1 => rw [flatH_len]
    case qc2 =>
      intro j u hj
      have := HN.out j u hj
      rw [((Below.refl w.heap.size w).alloc (Nat.le_refl _) _).cell (p := ad.add j) this.2]
      exact this.1
    case qc3 => exact flatH_one sn sz
    case qc4 => unfold maxLen; omega
    case qc5 => omega
    case qc6 => simp
    intro v' w1 hown hgrow hnil
    have hB : Below w.heap.size w w1 := ((Below.refl _ w).alloc (Nat.le_refl _) _).grown hgrow (by simp) (by intro k hk; simp [Value.ownBlock] at hk; omega)
    obtain ⟨s', rfl, e1, e2, e3⟩ := OwnH.ofOwns hown hnil
    clear hown hgrow hnil
    have HR : Hid (s'.n = sn ∧ s'.z = sz ∧ OwnH w.heap.size 53 w1 s' ∧ Room w.heap.size w1 53 4 s'.a s'.c) := ⟨e1, e2, e3⟩
    clear e1 e2 e3
    simp only [Hs.val]
    go_wp2
    go_ret
    exact ⟨s', rfl, ⟨HR.out.1, fun j _ => by rw [HR.out.2.1], HR.out.2.2⟩, hB⟩
end Go.Proofs.Ytbcacebifpagpac
namespace Go.Proofs.Ytbcacebifpagpac
open Go.RowKit
set_option linter.unusedVariables false
structure Od where
  k : Int
  ls : Hs
def Od.val (x : Od) : Value := .agg #[.int .i64 x.k, .slice x.ls.a x.ls.n x.ls.c]
def OdsAt (w : World) (a : Option Addr) (n : Nat) (z : Nat → Od) : Prop :=
  ∀ i, i < n → ∃ b o, a = some ⟨b, o, none⟩ ∧ b < w.heap.size ∧ w.cell? ⟨b, o + i * 2, none⟩ = some (.int .i64 (z i).k) ∧
    w.cell? ⟨b, o + i * 2 + 1, none⟩ = some (.slice (z i).ls.a (z i).ls.n (z i).ls.c) ∧ (z i).ls.At w
theorem OdsAt.below {w w' : World} {a : Option Addr} {n : Nat} {z : Nat → Od} (h : OdsAt w a n z) (hB : Below w.heap.size w w') : OdsAt w' a n z := by
  intro i hi
  obtain ⟨b, o, ha, hb, h0, h1, h2⟩ := h i hi
  exact ⟨b, o, ha, Nat.lt_of_lt_of_le hb hB.size, (hB.cell (p := ⟨b, o + i * 2, none⟩) hb).trans h0, (hB.cell (p := ⟨b, o + i * 2 + 1, none⟩) hb).trans h1, h2.below hB⟩
structure Os where
  a : Option Addr
  n : Nat
  c : Nat
  z : Nat → Od
def Os.val (s : Os) : Value := .slice s.a s.n s.c
structure Os.At (w : World) (s : Os) : Prop where
  le : s.n ≤ s.c
  cap : s.c ≤ maxLen
  ods : OdsAt w s.a s.n s.z
theorem Os.At.below {w w' : World} {s : Os} (h : s.At w) (hB : Below w.heap.size w w') : s.At w' := ⟨h.le, h.cap, h.ods.below hB⟩
structure St where
  on : Sh
  os : Os
  hs : Hs
  ms : Hs
  si : Rw
  so : Rw
  sf : Rw
def St.cells (s : St) : Array Value := #[.slice s.on.a s.on.n s.on.c, .slice s.os.a s.os.n s.os.c, .slice s.hs.a s.hs.n s.hs.c, .slice s.ms.a s.ms.n s.ms.c, .slice s.si.a s.si.n s.si.c, .slice s.so.a s.so.n s.so.c, .slice s.sf.a s.sf.n s.sf.c]
def St.val (s : St) : Value := .agg #[.slice s.on.a s.on.n s.on.c, .slice s.os.a s.os.n s.os.c, .slice s.hs.a s.hs.n s.hs.c, .slice s.ms.a s.ms.n s.ms.c, .slice s.si.a s.si.n s.si.c, .slice s.so.a s.so.n s.so.c, .slice s.sf.a s.sf.n s.sf.c]
structure St.At (w : World) (s : St) : Prop where
  on : s.on.At w
  os : s.os.At w
  hs : s.hs.At w
  ms : s.ms.At w
  si : s.si.At w
  so : s.so.At w
  sf : s.sf.At w
theorem St.At.below {w w' : World} {s : St} (h : s.At w) (hB : Below w.heap.size w w') : s.At w' := ⟨h.on.below hB, h.os.below hB, h.hs.below hB, h.ms.below hB, h.si.below hB, h.so.below hB, h.sf.below hB⟩
def fewLines (o : Od) : Bool := !inB o.ls.n 1 3
def tooManyB (s : St) : Bool := decide (4 < s.os.n) || decide (8 < s.ms.n) || anyB s.os.n (fun i => fewLines (s.os.z i))
def badLine (p : Pl) (x : Hd) : Bool := !inB x.o 0 ((p.ns : Int) - 1) || !inB x.l 1 200 || !inB x.b 0 x.l || !inB x.n 0 x.l
def badOrder (p : Pl) (o : Od) : Bool := !inB o.k 0 2 || anyB o.ls.n (fun j => badLine p (o.ls.z j))
def badOrdersB (p : Pl) (s : St) : Bool := anyB s.os.n (fun i => badOrder p (s.os.z i))
def homeless (p : Pl) (s : St) (h : Hd) : Bool := !inB h.o 0 ((s.os.n : Int) - 1) || !inB h.l 0 (((s.os.z h.o.toNat).ls.n : Int) - 1) || !inB h.b 0 ((p.nb : Int) - 1)
def badHoldsB (p : Pl) (s : St) : Bool := !(checkH s.hs.n s.hs.z == 0) || anyB s.hs.n (fun i => homeless p s (s.hs.z i))
def badMove (p : Pl) (m : Hd) : Bool := !inB m.o 0 ((p.ns : Int) - 1) || !inB m.l 0 ((p.nb : Int) - 1) || !inB m.b 0 ((p.nb : Int) - 1) || (m.l == m.b) || !inB m.n 1 200
def badMovesB (p : Pl) (s : St) : Bool := anyB s.ms.n (fun i => badMove p (s.ms.z i))
def badSum (p : Pl) (l : Rw) (low : Int) : Bool := ((l.n : Int) != (p.ns : Int)) || anyB l.n (fun i => !inB (l.z i) low 1048576)
def badSumsB (p : Pl) (s : St) : Bool := badSum p s.si 0 || badSum p s.so 0 || badSum p s.sf (-1048576)
def goodH (s : St) (h : Hd) : Int := ((s.os.z h.o.toNat).ls.z h.l.toNat).o
def heldTo (s : St) (b g : Int) : Nat → Int
  | 0 => 0
  | k + 1 => heldTo s b g k + (if (s.hs.z k).b = b ∧ goodH s (s.hs.z k) = g then (s.hs.z k).n else 0)
def fromTo (s : St) (b g : Int) : Nat → Int
  | 0 => 0
  | k + 1 => fromTo s b g k + (if (s.ms.z k).l = b ∧ (s.ms.z k).o = g then (s.ms.z k).n else 0)
def availZ (s : St) (b g : Nat) : Int := (s.on.r b).z g - heldTo s b g s.hs.n - fromTo s b g s.ms.n
def wrongGood (p : Pl) (s : St) (g : Nat) : Bool := !(sumTo (fun i => (s.on.r i).z g) s.on.n == s.si.z g - s.so.z g + s.sf.z g) || anyB p.nb (fun b => decide (availZ s b g < 0))
def wrongGoodsB (p : Pl) (s : St) : Bool := anyB p.ns (wrongGood p s)
def lacksL (x : Hd) : Bool := !(x.b == x.l)
def wrongL (k : Int) (x : Hd) (kept : Int) : Bool := if k = 0 then !(x.b == 0) || !(x.n == 0) || !(kept == 0) else if k = 2 then !(x.b + x.n == x.l) || !(kept == 0) else !(x.b + x.n + kept == x.l)
def wrongOrder (s : St) (i : Nat) : Bool := ((s.os.z i).k == 1 && !anyB (s.os.z i).ls.n (fun j => lacksL ((s.os.z i).ls.z j))) || anyB (s.os.z i).ls.n (fun j => wrongL (s.os.z i).k ((s.os.z i).ls.z j) (keptS s.hs.z i j s.hs.n))
def wrongOrdersB (s : St) : Bool := anyB s.os.n (wrongOrder s)
def stateE (p : Pl) (s : St) : Int :=
  if shelfE p s.on = 0 then (if tooManyB s then 2 else if badOrdersB p s || badHoldsB p s || badMovesB p s || badSumsB p s then 1 else if wrongGoodsB p s || wrongOrdersB s then 7 else 0) else shelfE p s.on
structure Formed (p : Pl) (s : St) : Prop where
  sh : RightS p s.on
  sh0 : shelfE p s.on = 0
  os4 : s.os.n ≤ 4
  ms8 : s.ms.n ≤ 8
  lns : ∀ i, i < s.os.n → 1 ≤ (s.os.z i).ls.n ∧ (s.os.z i).ls.n ≤ 3
  kind : ∀ i, i < s.os.n → 0 ≤ (s.os.z i).k ∧ (s.os.z i).k ≤ 2
  line : ∀ i, i < s.os.n → ∀ j, j < (s.os.z i).ls.n → badLine p ((s.os.z i).ls.z j) = false
  hold : anyB s.hs.n (badH s.hs.z) = false
  home : ∀ i, i < s.hs.n → homeless p s (s.hs.z i) = false
  move : ∀ i, i < s.ms.n → badMove p (s.ms.z i) = false
  sin : s.si.n = p.ns
  son : s.so.n = p.ns
  sfn : s.sf.n = p.ns
  sib : ∀ j, j < p.ns → 0 ≤ s.si.z j ∧ s.si.z j ≤ 1048576
  sob : ∀ j, j < p.ns → 0 ≤ s.so.z j ∧ s.so.z j ≤ 1048576
  sfb : ∀ j, j < p.ns → -1048576 ≤ s.sf.z j ∧ s.sf.z j ≤ 1048576
theorem badSum_no {p : Pl} {l : Rw} {low : Int} (h : badSum p l low = false) : l.n = p.ns ∧ ∀ j, j < p.ns → low ≤ l.z j ∧ l.z j ≤ 1048576 := by
  unfold badSum at h
  rw [Bool.or_eq_false_iff] at h
  have hn : l.n = p.ns := by have h' : (l.n : Int) = (p.ns : Int) := (by simpa using h.1); omega
  refine ⟨hn, fun j hj => ?_⟩
  have := anyB_false h.2 j (by omega)
  simp only [Bool.not_eq_false'] at this
  exact inB_true this
theorem formed {p : Pl} {s : St} (h0 : shelfE p s.on = 0) (h1 : tooManyB s = false) (h2 : badOrdersB p s = false) (h3 : badHoldsB p s = false) (h4 : badMovesB p s = false) (h5 : badSumsB p s = false) : Formed p s := by
  unfold tooManyB at h1
  unfold badHoldsB at h3
  unfold badSumsB at h5
  simp only [Bool.or_eq_false_iff, decide_eq_false_iff_not] at h1 h3 h5
  obtain ⟨a, b⟩ := badSum_no h5.1.1
  obtain ⟨c, d⟩ := badSum_no h5.1.2
  obtain ⟨e, f⟩ := badSum_no h5.2
  have ho : ∀ i, i < s.os.n → badOrder p (s.os.z i) = false := anyB_false h2
  refine ⟨(rightS h0).2, h0, by omega, by omega, fun i hi => ?_, fun i hi => ?_, fun i hi j hj => ?_, ?_, anyB_false h3.2, anyB_false h4, a, c, e, b, d, f⟩
  · have := anyB_false h1.2 i hi
    simp only [fewLines, Bool.not_eq_false'] at this
    have := inB_true this
    omega
  · have := ho i hi
    simp only [badOrder, Bool.or_eq_false_iff, Bool.not_eq_false'] at this
    exact inB_true this.1
  · have := ho i hi
    simp only [badOrder, Bool.or_eq_false_iff] at this
    exact anyB_false this.2 j hj
  · have h' := h3.1
    cases hq : anyB s.hs.n (badH s.hs.z)
    · rfl
    · simp [checkH, hq] at h'
theorem homeless_no {p : Pl} {s : St} {h : Hd} (e : homeless p s h = false) : (0 ≤ h.o ∧ h.o.toNat < s.os.n) ∧ (0 ≤ h.l ∧ h.l.toNat < (s.os.z h.o.toNat).ls.n) ∧ 0 ≤ h.b ∧ h.b < p.nb := by
  simp only [homeless, Bool.or_eq_false_iff, Bool.not_eq_false'] at e
  obtain ⟨⟨a, b⟩, c⟩ := e
  have := inB_true a
  have := inB_true b
  have := inB_true c
  omega
theorem badMove_no {p : Pl} {m : Hd} (e : badMove p m = false) : (0 ≤ m.o ∧ m.o < p.ns) ∧ (0 ≤ m.l ∧ m.l < p.nb) ∧ (0 ≤ m.b ∧ m.b < p.nb) ∧ ¬ m.l = m.b ∧ 1 ≤ m.n ∧ m.n ≤ 200 := by
  simp only [badMove, Bool.or_eq_false_iff, Bool.not_eq_false', beq_eq_false_iff_ne, ne_eq] at e
  obtain ⟨⟨⟨⟨a, b⟩, c⟩, d⟩, f⟩ := e
  have := inB_true a
  have := inB_true b
  have := inB_true c
  have := inB_true f
  omega
theorem badLine_no {p : Pl} {x : Hd} (e : badLine p x = false) : (0 ≤ x.o ∧ x.o < p.ns) ∧ (1 ≤ x.l ∧ x.l ≤ 200) ∧ (0 ≤ x.b ∧ x.b ≤ x.l) ∧ 0 ≤ x.n ∧ x.n ≤ x.l := by
  simp only [badLine, Bool.or_eq_false_iff, Bool.not_eq_false'] at e
  obtain ⟨⟨⟨a, b⟩, c⟩, d⟩ := e
  have := inB_true a
  have := inB_true b
  have := inB_true c
  have := inB_true d
  omega
theorem heldTo_bd {s : St} {b g : Int} : ∀ {n : Nat}, (∀ j, j < n → 1 ≤ (s.hs.z j).n ∧ (s.hs.z j).n ≤ 200) → 0 ≤ heldTo s b g n ∧ heldTo s b g n ≤ 200 * n
  | 0, _ => by simp [heldTo]
  | n + 1, h => by
    have ih := heldTo_bd (b := b) (g := g) (n := n) fun j hj => h j (by omega)
    have := h n (by omega)
    simp only [heldTo]
    split <;> omega
theorem fromTo_bd {s : St} {b g : Int} : ∀ {n : Nat}, (∀ j, j < n → 1 ≤ (s.ms.z j).n ∧ (s.ms.z j).n ≤ 200) → 0 ≤ fromTo s b g n ∧ fromTo s b g n ≤ 200 * n
  | 0, _ => by simp [fromTo]
  | n + 1, h => by
    have ih := fromTo_bd (b := b) (g := g) (n := n) fun j hj => h j (by omega)
    have := h n (by omega)
    simp only [fromTo]
    split <;> omega
theorem Formed.holdN {p : Pl} {s : St} (f : Formed p s) : ∀ j, j < s.hs.n → 1 ≤ (s.hs.z j).n ∧ (s.hs.z j).n ≤ 200 := fun j hj => (fineH_true (right_fine f.hold j hj)).2.2.2
theorem Formed.moveN {p : Pl} {s : St} (f : Formed p s) : ∀ j, j < s.ms.n → 1 ≤ (s.ms.z j).n ∧ (s.ms.z j).n ≤ 200 := fun j hj => (badMove_no (f.move j hj)).2.2.2.2
theorem Formed.hs72 {p : Pl} {s : St} (f : Formed p s) : s.hs.n ≤ 72 := right_len f.hold
structure RightT (p : Pl) (s : St) : Prop where
  fm : Formed p s
  goods : ∀ g, g < p.ns → wrongGood p s g = false
  orders : ∀ i, i < s.os.n → wrongOrder s i = false
theorem rightT {p : Pl} {s : St} (h : stateE p s = 0) : RightT p s := by
  unfold stateE at h
  by_cases h0 : shelfE p s.on = 0
  · rw [if_pos h0] at h
    cases h1 : tooManyB s
    · rw [h1] at h
      cases h2 : (badOrdersB p s || badHoldsB p s || badMovesB p s || badSumsB p s)
      · rw [h2] at h
        cases h3 : (wrongGoodsB p s || wrongOrdersB s)
        · simp only [Bool.or_eq_false_iff] at h2 h3
          exact ⟨formed h0 h1 h2.1.1.1 h2.1.1.2 h2.1.2 h2.2, anyB_false h3.1, anyB_false h3.2⟩
        · rw [h3] at h; simp at h
      · rw [h2] at h; simp at h
    · rw [h1] at h; simp at h
  · rw [if_neg h0] at h; exact absurd h h0
end Go.Proofs.Ytbcacebifpagpac
namespace Go.Proofs.Ytbcacebifpagpac
open Go.RowKit Go.Shelf
set_option linter.unusedVariables false
def odCells (x : Od) : List Value := [.int .i64 x.k, .slice x.ls.a x.ls.n x.ls.c]
def flatO : Nat → (Nat → Od) → List Value
  | 0, _ => []
  | n + 1, z => flatO n z ++ odCells (z n)
theorem flatO_len : ∀ (n : Nat) (z : Nat → Od), (flatO n z).length = n * 2
  | 0, _ => rfl
  | n + 1, z => by rw [flatO, List.length_append, flatO_len n z]; simp [odCells]; omega
theorem flatO_get : ∀ (n : Nat) (z : Nat → Od) (i c : Nat), i < n → c < 2 → (flatO n z)[i * 2 + c]? = (odCells (z i))[c]?
  | 0, _, i, c, hi, _ => absurd hi (Nat.not_lt_zero _)
  | n + 1, z, i, c, hi, hc => by
    rw [flatO]
    by_cases h : i = n
    · subst h
      rw [List.getElem?_append_right (by rw [flatO_len]; omega), flatO_len]
      congr 1
      omega
    · rw [List.getElem?_append_left (by rw [flatO_len]; omega)]
      exact flatO_get n z i c (by omega) hc
theorem flatO_at {n : Nat} {z : Nat → Od} {i c : Nat} (hi : i < n) (hc : c < 2) : (flatO n z).getD (i * 2 + c) default = (odCells (z i)).getD c default := by
  simp only [List.getD, flatO_get n z i c hi hc]
theorem flatO_one : ∀ (n : Nat) (z : Nat → Od), ∀ u ∈ flatO n z, u.oneCell' = true
  | 0, _, u, hu => by simp [flatO] at hu
  | n + 1, z, u, hu => by
    rw [flatO, List.mem_append] at hu
    rcases hu with hu | hu
    · exact flatO_one n z u hu
    · simp only [odCells, List.mem_cons, List.not_mem_nil, or_false] at hu
      rcases hu with rfl | rfl <;> rfl
theorem OdsAt.news {w : World} {b o n : Nat} {z : Nat → Od} (h : OdsAt w (some ⟨b, o, none⟩) n z) : ∀ j u, (flatO n z)[j]? = some u → w.cell? ((⟨b, o, none⟩ : Addr).add j) = some u := by
  intro j u hj
  have hlen := (List.getElem?_eq_some_iff.1 hj).1
  rw [flatO_len] at hlen
  obtain ⟨b', o', he, hb, h0, h1, -⟩ := h (j / 2) (by omega)
  simp only [Option.some.injEq, Addr.mk.injEq, and_true] at he
  obtain ⟨rfl, rfl⟩ := he
  rw [Go.WideShapes.add_plain]
  have hd : j = j / 2 * 2 + j % 2 := by omega
  rw [hd, flatO_get n z (j / 2) (j % 2) (by omega) (by omega)] at hj
  have h2 : j % 2 = 0 ∨ j % 2 = 1 := by omega
  rcases h2 with h2 | h2
  · rw [h2] at hj; simp [odCells] at hj; rw [← hj, ← h0]; congr 2; omega
  · rw [h2] at hj; simp [odCells] at hj; rw [← hj, ← h1]; congr 2; omega
theorem infoOrderC : (Try.prog.info? 51).map (fun i => (i.zero, i.size, i.bytes)) = some (some (.agg #[.int .i64 0, .slice none 0 0]), 2, 32) := by kernel_rfl
def ClonedO (s : Os) (A : Nat) (w' : World) (a' : Option Addr) (c' : Nat) : Prop := s.n ≤ c' ∧ c' ≤ maxLen ∧ (0 < s.n → ∃ g, a' = some ⟨g, 0, none⟩ ∧ A ≤ g ∧ Blk w' g 51 (s.n * 2) (fun j => (flatO s.n s.z).getD j default)) ∧ Room A w' 51 2 a' c'
set_option maxRecDepth 100000 in
set_option maxHeartbeats 1000000 in
theorem CloneOrder_any (s : Os) (w : World) (hs : s.At w) (hn : s.n ≤ 1000) :
    Calls Try.prog 114 #[s.val] w fun e w' => ∃ a' c', e = .returned (.slice a' s.n c') ∧ ClonedO s w.heap.size w' a' c' ∧ Below w.heap.size w w' := by
  obtain ⟨sle, scap, sh⟩ := hs
  obtain ⟨sa, sn, sc, sz⟩ := s
  dsimp only at sle scap sh hn
  simp only [Os.val]
  obtain ⟨i0, hi, hz0, hz1, hz2⟩ := info_parts infoOrderC
  have q22 : ∀ (w : World) (a : Option Addr) (n c n' c' : Nat), (binOp .eql 27 (.slice a n c) (.slice none n' c')).run Try.prog w = .ok (.bool a.isNone) w := fun w a n c n' c' => Lib.run_eql_slice_nil w _ _ a n c n' c' Try.underlying27
  cases sa with
  | none =>
    have hn0 : sn = 0 := by
      rcases Nat.eq_zero_or_pos sn with h | h
      · exact h
      · obtain ⟨b, o, he, _⟩ := sh 0 h
        cases he
    subst hn0
    go_enter Try.func114, Try.ntmps114
    go_wp2
    go_ret
    exact ⟨none, 0, rfl, ⟨Nat.le_refl _, Nat.zero_le _, fun h => absurd h (Nat.lt_irrefl _), Or.inl rfl⟩, Below.refl _ _⟩
  | some ad =>
    have HN : Hid (∀ j u, (flatO sn sz)[j]? = some u → w.cell? (ad.add j) = some u ∧ (ad.add j).block < w.heap.size) := fun j u hj => by
      have hlen := (List.getElem?_eq_some_iff.1 hj).1
      rw [flatO_len] at hlen
      obtain ⟨b, o, he, hb, -⟩ := sh 0 (by omega)
      simp only [Option.some.injEq] at he
      subst he
      exact ⟨OdsAt.news sh j u hj, by rw [Go.WideShapes.add_plain]; exact hb⟩
    clear sh
    go_enter Try.func114, Try.ntmps114
    go_wp2_with (at_builtin; refine wpList_append_own _ rfl _ _ 27 rfl w.heap.size 51 i0 (.agg #[.int .i64 0, .slice none 0 0]) 2 32 Try.underlying27 hi hz0 hz1 hz2 rfl (by decide) _ _ _ rfl (World.ownsRow_made w #[] 0 (Nat.le_refl _) (Nat.zero_le _) rfl) ad sn sc (flatO sn sz) rfl ?qc1 ?qc2 ?qc3 ?qc4 ?qc5 ?qc6 ?_)
    case qc1 => rw [flatO_len]
    case qc2 =>
      intro j u hj
      have := HN.out j u hj
      rw [((Below.refl w.heap.size w).alloc (Nat.le_refl _) _).cell (p := ad.add j) this.2]
      exact this.1
    case qc3 => exact flatO_one sn sz
    case qc4 => unfold maxLen; omega
    case qc5 => omega
    case qc6 => simp
    intro v' w1 hown hgrow hnil
    have hB : Below w.heap.size w w1 := ((Below.refl _ w).alloc (Nat.le_refl _) _).grown hgrow (by simp) (by intro k hk; simp [Value.ownBlock] at hk; omega)
    obtain ⟨g, c', rfl, h1, h2, h3, h4⟩ := Blk.ofOwns hown hnil
    have hroom := Room.ofOwns hown (Nat.le_refl _)
    clear hown hgrow hnil
    have HR : Hid (ClonedO ⟨some ad, sn, sc, sz⟩ w.heap.size w1 (some ⟨g, 0, none⟩) c') := ⟨h1, h2, fun _ => ⟨g, rfl, h3, h4⟩, hroom⟩
    clear h4 hroom
    go_wp2
    go_ret
    exact ⟨some ⟨g, 0, none⟩, c', rfl, HR.out, hB⟩
structure OwnO (A : Nat) (w : World) (s : Os) : Prop where
  le : s.n ≤ s.c
  cap : s.c ≤ maxLen
  list : 0 < s.n → ∃ g, s.a = some ⟨g, 0, none⟩ ∧ A ≤ g ∧ Blk w g 51 (s.n * 2) (fun j => (flatO s.n s.z).getD j default)
  lines : ∀ i, i < s.n → ∃ B, (s.z i).ls.a = some ⟨B, 0, none⟩ ∧ A ≤ B ∧ (s.z i).ls.n ≤ (s.z i).ls.c ∧ (s.z i).ls.c ≤ maxLen ∧ Blk w B 53 ((s.z i).ls.n * 4) (fun j => (flatH (s.z i).ls.n (s.z i).ls.z).getD j default)
  apart : ∀ i j, i < j → j < s.n → (s.z i).ls.a ≠ (s.z j).ls.a
  room : Room A w 51 2 s.a s.c
theorem OwnO.at {A : Nat} {w : World} {s : Os} (h : OwnO A w s) : s.At w := by
  refine ⟨h.le, h.cap, fun i hi => ?_⟩
  obtain ⟨g, ha, hA, hb⟩ := h.list (by omega)
  obtain ⟨B, hl, hA2, l1, l2, hb2⟩ := h.lines i hi
  have c0 := hb.cell (j := i * 2) (by omega)
  have c1 := hb.cell (j := i * 2 + 1) (by omega)
  have e0 := flatO_at (z := s.z) hi (show 0 < 2 by decide)
  have e1 := flatO_at (z := s.z) hi (show 1 < 2 by decide)
  rw [Nat.add_zero] at e0
  rw [e0] at c0
  rw [e1] at c1
  refine ⟨g, 0, ha, hb.lt, by rw [Nat.zero_add]; exact c0, by rw [Nat.zero_add]; exact c1, ?_⟩
  exact OwnH.at (A := A) (e := 53) ⟨l1, l2, (fun e => by rw [hl] at e; cases e), fun _ => ⟨B, hl, hA2, hb2⟩⟩
def SameO (s t : Os) : Prop := s.n = t.n ∧ ∀ i, i < s.n → (s.z i).k = (t.z i).k ∧ (s.z i).ls.n = (t.z i).ls.n ∧ ∀ j, j < (s.z i).ls.n → (s.z i).ls.z j = (t.z i).ls.z j
def mixO (s : Os) (k : Nat) (B C : Nat → Nat) (i : Nat) : Od := if i < k then ⟨(s.z i).k, ⟨some ⟨B i, 0, none⟩, (s.z i).ls.n, C i, (s.z i).ls.z⟩⟩ else s.z i
def CopL (s : Os) (A : Nat) (a' : Option Addr) (c' k : Nat) (wk : World) : Prop := Room A wk 51 2 a' c' ∧ ∃ B C : Nat → Nat, (0 < s.n → ∃ g, a' = some ⟨g, 0, none⟩ ∧ A ≤ g ∧ Blk wk g 51 (s.n * 2) (fun j => (flatO s.n (mixO s k B C)).getD j default)) ∧
  (∀ i, i < k → A ≤ B i ∧ (s.z i).ls.n ≤ C i ∧ C i ≤ maxLen ∧ Blk wk (B i) 53 ((s.z i).ls.n * 4) (fun j => (flatH (s.z i).ls.n (s.z i).ls.z).getD j default)) ∧ (∀ i j, i < j → j < k → B i < B j)
theorem flatO_congr : ∀ {n : Nat} {z z' : Nat → Od}, (∀ i, i < n → odCells (z i) = odCells (z' i)) → flatO n z = flatO n z'
  | 0, _, _, _ => rfl
  | n + 1, z, z', h => by rw [flatO, flatO, flatO_congr (n := n) fun i hi => h i (by omega), h n (by omega)]
theorem mix_step {s : Os} {k : Nat} {B C : Nat → Nat} {gB cB : Nat} (hk : k < s.n) (j : Nat) (hj : j < s.n * 2) :
    (if j = k * 2 + 1 then Value.slice (some ⟨gB, 0, none⟩) (s.z k).ls.n cB else (flatO s.n (mixO s k B C)).getD j default) = (flatO s.n (mixO s (k + 1) (fun i => if i = k then gB else B i) (fun i => if i = k then cB else C i))).getD j default := by
  have hd : j = j / 2 * 2 + j % 2 := by omega
  have h2 : j % 2 = 0 ∨ j % 2 = 1 := by omega
  have hi : j / 2 < s.n := by omega
  have e1 := flatO_at (z := mixO s k B C) hi (show j % 2 < 2 by omega)
  have e2 := flatO_at (z := mixO s (k + 1) (fun i => if i = k then gB else B i) (fun i => if i = k then cB else C i)) hi (show j % 2 < 2 by omega)
  rw [← hd] at e1 e2
  rw [e1, e2]
  by_cases hjk : j / 2 = k
  · have m1 : mixO s k B C (j / 2) = s.z k := by unfold mixO; rw [if_neg (by omega), hjk]
    have m2 : mixO s (k + 1) (fun i => if i = k then gB else B i) (fun i => if i = k then cB else C i) (j / 2) = ⟨(s.z k).k, ⟨some ⟨gB, 0, none⟩, (s.z k).ls.n, cB, (s.z k).ls.z⟩⟩ := by unfold mixO; rw [if_pos (by omega)]; simp [hjk]
    rw [m1, m2]
    rcases h2 with h2 | h2
    · rw [if_neg (by omega), h2]; rfl
    · rw [if_pos (by omega), h2]; rfl
  · rw [if_neg (by omega)]
    have m : mixO s k B C (j / 2) = mixO s (k + 1) (fun i => if i = k then gB else B i) (fun i => if i = k then cB else C i) (j / 2) := by
      unfold mixO
      by_cases hlt : j / 2 < k
      · rw [if_pos hlt, if_pos (by omega)]; simp [hjk]
      · rw [if_neg hlt, if_neg (by omega)]
    rw [m]
set_option maxRecDepth 100000 in
set_option maxHeartbeats 2000000 in
theorem copyOrders_any (s : Os) (w : World) (hs : s.At w) (hn : s.n ≤ 1000) (hl : ∀ i, i < s.n → 1 ≤ (s.z i).ls.n ∧ (s.z i).ls.n ≤ 3) :
    Calls Try.prog 89 #[s.val] w fun e w' => ∃ s' : Os, e = .returned s'.val ∧ SameO s' s ∧ OwnO w.heap.size w' s' ∧ Below w.heap.size w w' := by
  have HS : Hid (s.At w) := hs
  have HL : Hid (∀ i, i < s.n → 1 ≤ (s.z i).ls.n ∧ (s.z i).ls.n ≤ 3) := hl
  have sle := hs.le
  have scap := hs.cap
  unfold maxLen at scap
  clear hs hl
  simp only [Os.val]
  go_enter Try.func89, Try.ntmps89
  go_wp2_with fail
  refine (CloneOrder_any s w HS.out hn).mono ?_
  rintro e w1 ⟨a', c', rfl, hcl, hB1⟩
  have HCL : Hid (ClonedO s w.heap.size w1 a' c') := hcl
  clear hcl
  have c1 := HCL.out.1
  have c2 := HCL.out.2.1
  unfold maxLen at c2
  go_wp2_with fail
  go_loopw [10] (fun i wk => ∃ k : Nat, k ≤ s.n ∧ i = .int .i64 k ∧ Hid (CopL s w.heap.size a' c' k wk) ∧ Below w.heap.size w wk) (fun i _ => s.n - (intOf i).toNat)
  case atStart =>
    refine ⟨0, Nat.zero_le _, rfl, ⟨HCL.out.2.2.2, fun _ => 0, fun _ => 0, fun h => ?_, fun i hi => absurd hi (Nat.not_lt_zero _), fun i j _ hj => absurd hj (Nat.not_lt_zero _)⟩, hB1⟩
    obtain ⟨g, e1, e2, e3⟩ := HCL.out.2.2.1 h
    exact ⟨g, e1, e2, e3.congr (fun j hj => by rw [flatO_congr (z' := mixO s 0 (fun _ => 0) (fun _ => 0)) fun i hi => by unfold mixO; rw [if_neg (by omega)]])⟩
  case round =>
    clear hB1
    obtain ⟨k, hk, rfl, HG, hB⟩ := hrel
    by_cases hlt : k < s.n
    · obtain ⟨b, o, hoa, hb, z0, z1, hlk⟩ := (HS.out.below hB).ods k hlt
      have qk : (0 : Int) ≤ (k : Int) := by omega
      obtain ⟨hroom, B, C, hgl, hrow, hinc⟩ := HG.out
      have HRM : Hid (Room w.heap.size wr 51 2 a' c') := hroom
      obtain ⟨g, ha', hA, gb⟩ := hgl (by omega)
      have HR : Hid ((∀ i, i < k → w.heap.size ≤ B i ∧ (s.z i).ls.n ≤ C i ∧ C i ≤ maxLen ∧ Blk wr (B i) 53 ((s.z i).ls.n * 4) (fun j => (flatH (s.z i).ls.n (s.z i).ls.z).getD j default)) ∧ (∀ i j, i < j → j < k → B i < B j) ∧ a' = some ⟨g, 0, none⟩) := ⟨hrow, hinc, ha'⟩
      have HGB : Hid (Blk wr g 51 (s.n * 2) (fun j => (flatO s.n (mixO s k B C)).getD j default)) := gb
      have hn3 := HL.out k hlt
      have hBa := (Below.refl wr.heap.size wr).alloc (Nat.le_refl _) (.cells #[.int .i64 (s.z k).k, .slice (s.z k).ls.a (s.z k).ls.n (s.z k).ls.c] 51)
      have hlk2 := hlk.below hBa
      rw [hoa, ha']
      clear hoa ha' hgl hrow hinc gb HG hlk hroom
      go_wp2_with fail
      refine (CloneLine_any (s.z k).ls _ hlk2 (by omega)).mono ?_
      rintro e w2 ⟨s', rfl, hcl, hB2⟩
      obtain ⟨sa', sn', sc', sz'⟩ := s'
      obtain ⟨e1, e2, ⟨o1, o2, o3, o4⟩, -⟩ := hcl
      dsimp only at e1 e2 o1 o2 o3 o4
      subst e1
      obtain ⟨gB, e3, hgB, kB⟩ := o4 (by omega)
      subst e3
      have kB2 : Blk w2 gB 53 ((s.z k).ls.n * 4) (fun j => (flatH (s.z k).ls.n (s.z k).ls.z).getD j default) := kB.congr (fun j hj => by rw [flatH_congr e2])
      have hB12 := hBa.trans (hB2.mono hBa.size)
      have gb2 := HGB.out.below hB12
      have hsz := hBa.size
      have hf := gb2.frozen (k * 2 + 1)
      have hc := gb2.cell (j := k * 2 + 1) (by omega)
      rw [flatO_at (z := mixO s k B C) hlt (show 1 < 2 by decide)] at hc
      have hm : mixO s k B C k = s.z k := by unfold mixO; rw [if_neg (by omega)]
      rw [hm] at hc
      have hc2 : w2.cell? ⟨g, k * 2 + 1, none⟩ = some (.slice (s.z k).ls.a (s.z k).ls.n (s.z k).ls.c) := hc
      have hlg := gb2.lt
      have hBw2 := hB.trans (hB12.mono hB.size)
      have KB := gb2.set (k * 2 + 1) (.slice (some ⟨gB, 0, none⟩) (s.z k).ls.n sc')
      have HN : Hid (CopL s w.heap.size (some ⟨g, 0, none⟩) c' (k + 1) (w2.setCell ⟨g, k * 2 + 1, none⟩ (.slice (some ⟨gB, 0, none⟩) (s.z k).ls.n sc')) ∧ Below w.heap.size w (w2.setCell ⟨g, k * 2 + 1, none⟩ (.slice (some ⟨gB, 0, none⟩) (s.z k).ls.n sc'))) := by
        refine ⟨⟨(by have h := (HRM.out.below hB12).set g (k * 2 + 1) (.slice (some ⟨gB, 0, none⟩) (s.z k).ls.n sc'); rw [HR.out.2.2] at h; exact h), fun i => if i = k then gB else B i, fun i => if i = k then sc' else C i, fun _ => ⟨g, rfl, hA, KB.congr (fun j hj => mix_step hlt j hj)⟩, fun i hi => ?_, fun i j hij hj => ?_⟩, hBw2.setCell (p := ⟨g, k * 2 + 1, none⟩) hA _⟩
        · dsimp only
          by_cases hik : i = k
          · subst hik
            rw [if_pos rfl, if_pos rfl]
            exact ⟨by have := hB.size; omega, o1, o2, kB2.other (a := ⟨g, i * 2 + 1, none⟩) (Blk.ne2 kB2 gb2 (by decide)) _⟩
          · rw [if_neg hik, if_neg hik]
            obtain ⟨r1, r2, r3, r4⟩ := HR.out.1 i (by omega)
            have r5 := r4.below hB12
            exact ⟨r1, r2, r3, r5.other (a := ⟨g, k * 2 + 1, none⟩) (Blk.ne2 r5 gb2 (by decide)) _⟩
        · dsimp only
          by_cases hjk : j = k
          · subst hjk
            rw [if_neg (by omega), if_pos rfl]
            have := (HR.out.1 i hij).2.2.2.lt
            omega
          · rw [if_neg (by omega), if_neg hjk]
            exact HR.out.2.1 i j hij (by omega)
      clear KB kB kB2 gb2 hc hm hB12 HGB hB2 hlk2 hBw2
      simp only [Hs.val]
      go_wp2_with fail
      go_roundw
      case rel => exact ⟨k + 1, by omega, by go_num, HN.out.1, HN.out.2⟩
      case measure => simp [intOf]; omega
    · have hkn : k = s.n := by omega
      subst hkn
      go_wp2_with fail
      go_ret
      obtain ⟨hroom, B, C, hgl, hrow, hinc⟩ := HG.out
      refine ⟨⟨a', s.n, c', mixO s s.n B C⟩, rfl, ⟨rfl, fun i hi => ?_⟩, ⟨c1, HCL.out.2.1, hgl, fun i hi => ?_, fun i j hij hj => ?_, hroom⟩, hB⟩
      · have hi' : i < s.n := hi
        have m : mixO s s.n B C i = ⟨(s.z i).k, ⟨some ⟨B i, 0, none⟩, (s.z i).ls.n, C i, (s.z i).ls.z⟩⟩ := by unfold mixO; rw [if_pos hi']
        show (mixO s s.n B C i).k = _ ∧ (mixO s s.n B C i).ls.n = _ ∧ _
        rw [m]
        exact ⟨rfl, rfl, fun j _ => by show (mixO s s.n B C i).ls.z j = _; rw [m]⟩
      · have hi' : i < s.n := hi
        have m : mixO s s.n B C i = ⟨(s.z i).k, ⟨some ⟨B i, 0, none⟩, (s.z i).ls.n, C i, (s.z i).ls.z⟩⟩ := by unfold mixO; rw [if_pos hi']
        show ∃ B', (mixO s s.n B C i).ls.a = _ ∧ _ ∧ (mixO s s.n B C i).ls.n ≤ (mixO s s.n B C i).ls.c ∧ (mixO s s.n B C i).ls.c ≤ maxLen ∧ Blk _ B' _ ((mixO s s.n B C i).ls.n * 4) (fun j => (flatH (mixO s s.n B C i).ls.n (mixO s s.n B C i).ls.z).getD j default)
        rw [m]
        obtain ⟨r1, r2, r3, r4⟩ := hrow i hi'
        exact ⟨B i, rfl, r1, r2, r3, r4⟩
      · have hj' : j < s.n := hj
        show (mixO s s.n B C i).ls.a ≠ (mixO s s.n B C j).ls.a
        unfold mixO
        rw [if_pos (by omega), if_pos hj']
        have := hinc i j hij hj'
        simp only [ne_eq, Option.some.injEq, Addr.mk.injEq, and_true]
        omega
end Go.Proofs.Ytbcacebifpagpac
namespace Go.Proofs.Ytbcacebifpagpac
open Go.RowKit Go.Shelf
set_option linter.unusedVariables false
def yardZ : Nat → Bin
  | 0 => ⟨false, 100, 0, 0⟩
  | 1 => ⟨true, 30, 4, 8⟩
  | _ => ⟨false, 60, 0, 0⟩
def yardS : Nat → Int
  | 0 => 2
  | _ => 3
def yardP (g1 g2 : Nat) : Pl := ⟨some ⟨g1, 0, none⟩, 3, 3, yardZ, some ⟨g2, 0, none⟩, 2, 2, yardS⟩
def yardF : Nat → Value := fun j => (#[.bool false, .int .i64 100, .int .i64 0, .int .i64 0, .bool true, .int .i64 30, .int .i64 4, .int .i64 8, .bool false, .int .i64 60, .int .i64 0, .int .i64 0] : Array Value).getD j default
def yardG : Nat → Value := fun j => (#[.int .i64 2, .int .i64 3] : Array Value).getD j default
theorem yardAt {w : World} {g1 g2 : Nat} (h1 : Blk w g1 42 12 yardF) (h2 : Blk w g2 3 2 yardG) : (yardP g1 g2).At w := by
  refine ⟨by simp [yardP], by simp [yardP, maxLen], fun i hi => ?_, by simp [yardP], by simp [yardP, maxLen], fun i hi => ?_⟩
  · have hi' : i < 3 := hi
    refine ⟨g1, 0, rfl, h1.lt, ?_⟩
    match i, hi' with
    | 0, _ => exact ⟨h1.cell (j := 0) (by decide), h1.cell (j := 1) (by decide), h1.cell (j := 2) (by decide), h1.cell (j := 3) (by decide)⟩
    | 1, _ => exact ⟨h1.cell (j := 4) (by decide), h1.cell (j := 5) (by decide), h1.cell (j := 6) (by decide), h1.cell (j := 7) (by decide)⟩
    | 2, _ => exact ⟨h1.cell (j := 8) (by decide), h1.cell (j := 9) (by decide), h1.cell (j := 10) (by decide), h1.cell (j := 11) (by decide)⟩
  · have hi' : i < 2 := hi
    refine ⟨g2, 0, rfl, h2.lt, ?_⟩
    match i, hi' with
    | 0, _ => exact h2.cell (j := 0) (by decide)
    | 1, _ => exact h2.cell (j := 1) (by decide)
set_option maxHeartbeats 1000000 in
theorem yard_any (w : World) :
    Calls Try.prog 28 #[] w fun e w' => ∃ g1 g2, e = .returned (yardP g1 g2).val ∧ w.heap.size ≤ g1 ∧ g1 ≠ g2 ∧ Blk w' g1 42 12 yardF ∧ Blk w' g2 3 2 yardG ∧ Below w.heap.size w w' := by
  go_enter Try.func28, Try.ntmps28
  go_wp2
  refine bodyPost_ret (v := (yardP (w.heap.size + 1) (w.heap.size + 1 + 1)).val) (by simp [results, Try.results28, go_sem, yardP, Pl.val]) rfl ?_
  refine ⟨w.heap.size + 1, w.heap.size + 1 + 1, rfl, by omega, by omega, Blk.alloc (Blk.mk' (by simp) rfl) _, Blk.mk' (by simp) rfl, ?_⟩
  exact (((Below.refl _ _).alloc (Nat.le_refl _) _).alloc (by simp) _).alloc (by simp; omega) _
end Go.Proofs.Ytbcacebifpagpac
namespace Go.Proofs.Ytbcacebifpagpac
open Go.RowKit Go.Shelf Go.Sort
set_option linter.unusedVariables false
set_option maxRecDepth 100000 in
set_option maxHeartbeats 400000 in
theorem SameInts_yes (r s : Rw) (w : World) (hr : r.At w) (hs : s.At w) (hn : r.n = s.n) (hz : ∀ j, j < r.n → r.z j = s.z j) :
    Calls Try.prog 53 #[r.val, s.val] w fun e w' => e = .returned (.bool true) ∧ Below w.heap.size w w' := by
  obtain ⟨ra, rn, rc, rz⟩ := r
  obtain ⟨sa, sn, sc, sz⟩ := s
  obtain ⟨rle, rcap, rints⟩ := hr
  obtain ⟨sle, scap, sints⟩ := hs
  dsimp only at *
  subst hn
  have HZ : Hid _ := hz
  clear hz
  unfold maxLen at rcap scap
  simp only [Rw.val]
  go_enter Try.func53, Try.ntmps53
  go_wp2_with fail
  go_loopw [5] (fun i wk => ∃ k : Nat, k ≤ rn ∧ i = .int .i64 k ∧ Below w.heap.size w wk) (fun i _ => rn - (intOf i).toNat)
  case atStart => exact ⟨0, Nat.zero_le _, rfl, Below.refl _ _⟩
  case round =>
    obtain ⟨k, hk, rfl, hB⟩ := hrel
    by_cases hlt : k < rn
    · obtain ⟨b1, o1, rfl, hb1, y0⟩ := (rints.below hB) k hlt
      obtain ⟨b2, o2, rfl, hb2, x0⟩ := (sints.below hB) k hlt
      rw [← HZ.out k hlt] at x0
      generalize rz k = Z at y0 x0
      go_wp2_with fail
      go_quiet (fail)
      go_wp2_with fail
      go_roundw
      case rel => exact ⟨k + 1, by omega, by go_num, below_drewN hB _⟩
      case measure => simp [intOf]; omega
    · go_wp2_with fail
      go_ret
      exact ⟨rfl, hB⟩
set_option maxRecDepth 100000 in
set_option maxHeartbeats 1000000 in
theorem SameRows_yes (r s : Sh) (w : World) (hr : r.At w) (hs : s.At w) (hn : r.n = s.n) (hz : ∀ i, i < r.n → (r.r i).n = (s.r i).n ∧ ∀ j, j < (r.r i).n → (r.r i).z j = (s.r i).z j) :
    Calls Try.prog 19 #[r.val, s.val] w fun e w' => e = .returned (.bool true) ∧ Below w.heap.size w w' := by
  obtain ⟨ra, rn, rc, rr⟩ := r
  obtain ⟨sa, sn, sc, sr⟩ := s
  obtain ⟨rle, rcap, rrows⟩ := hr
  obtain ⟨sle, scap, srows⟩ := hs
  dsimp only at *
  subst hn
  have HZ : Hid _ := hz
  clear hz
  unfold maxLen at rcap scap
  simp only [Sh.val]
  go_enter Try.func19, Try.ntmps19
  go_wp2_with fail
  go_loopw [5] (fun i wk => ∃ k : Nat, k ≤ rn ∧ i = .int .i64 k ∧ Below w.heap.size w wk) (fun i _ => rn - (intOf i).toNat)
  case atStart => exact ⟨0, Nat.zero_le _, rfl, Below.refl _ _⟩
  case round =>
    obtain ⟨k, hk, rfl, hB⟩ := hrel
    by_cases hlt : k < rn
    · obtain ⟨b1, o1, rfl, hb1, y0, at1⟩ := (rrows.below hB) k hlt
      obtain ⟨b2, o2, rfl, hb2, x0, at2⟩ := (srows.below hB) k hlt
      have hh := HZ.out k hlt
      have HH : Hid _ := hh
      clear hh
      have y1 : ∀ d os, (grow (redrawn wr d) os).cell? ⟨b1, o1 + k, none⟩ = some (.slice (rr k).a (rr k).n (rr k).c) := fun d os => cell_regrown y0 d os
      have x1 : ∀ d os, (grow (redrawn wr d) os).cell? ⟨b2, o2 + k, none⟩ = some (.slice (sr k).a (sr k).n (sr k).c) := fun d os => cell_regrown x0 d os
      go_wp2_with fail
      refine wp_region_quiet_below (by kernel_rfl) (by kernel_rfl) ?_
      repeat (go_big_quiet_step ((go_at_call 53; exact Calls.regrown_of (SameInts_yes (rr k) (sr k) _ (at1.below (below_regrown _ _ _)) (at2.below (below_regrown _ _ _)) HH.out.1 HH.out.2))))
      refine wpQuiet_nil ?_
      intro _ hw'
      obtain ⟨⟨dq, osq⟩, hw''⟩ := hw'
      subst hw''
      go_wp2_with fail
      go_roundw
      case rel => exact ⟨k + 1, by omega, by go_num, hB.trans ((below_regrown _ _ _).mono hB.size)⟩
      case measure => simp [intOf]; omega
    · go_wp2_with fail
      go_ret
      exact ⟨rfl, hB⟩
theorem Blk.ne {w : World} {g g' : Nat} {e e' : TypeId} {n n' : Nat} {f f' : Nat → Value} (h : Blk w g e n f) (h' : Blk w g' e' n' f') (he : e ≠ e') : g ≠ g' := by
  rintro rfl
  obtain ⟨c, hc, _⟩ := h
  obtain ⟨c', hc', _⟩ := h'
  rw [hc] at hc'
  cases hc'
  exact he rfl
set_option maxRecDepth 100000 in
set_option maxHeartbeats 1000000 in
theorem ownOn_any (s : Sh) (w : World) (hs : s.At w) (hn : s.n ≤ 6) (hn1 : 1 ≤ s.n) (hr : ∀ i, i < s.n → 1 ≤ (s.r i).n ∧ (s.r i).n ≤ 3) :
    Calls Try.prog 104 #[s.val] w fun e w' => ∃ (g c : Nat) (G C : Nat → Nat), e = .returned (.slice (some ⟨g, 0, none⟩) s.n c) ∧ w.heap.size ≤ g ∧ s.n ≤ c ∧ c ≤ maxLen ∧
      Blk w' g 23 s.n (fun i => .slice (some ⟨G i, 0, none⟩) (s.r i).n (C i)) ∧
      (∀ i, i < s.n → w.heap.size ≤ G i ∧ (s.r i).n ≤ C i ∧ C i ≤ maxLen ∧ Blk w' (G i) 3 (s.r i).n (fun j => .int .i64 ((s.r i).z j))) ∧
      (∀ i j, i < j → j < s.n → G i < G j) ∧ Below w.heap.size w w' := by
  obtain ⟨sle, scap, rows⟩ := hs
  obtain ⟨s0, sn, sc, sr⟩ := s
  dsimp only at sle scap rows hn hr hn1
  unfold maxLen at scap
  simp only [Sh.val]
  obtain ⟨i0, hi, hz0, hz1, hz2⟩ := info_parts infoInts
  obtain ⟨i1, hj, hy0, hy1, hy2⟩ := info_parts infoInt
  go_enter Try.func104, Try.ntmps104
  go_wp2_with fail
  go_loopw [3, 4] (fun v i wk => ∃ k : Nat, k ≤ sn ∧ i = .int .i64 k ∧ (∃ (G C : Nat → Nat), wk.ownsRow w.heap.size 23 1 v k ((List.range k).map fun i => Value.slice (some ⟨G i, 0, none⟩) (sr i).n (C i)) ∧
      (∀ i, i < k → w.heap.size ≤ G i ∧ (sr i).n ≤ C i ∧ C i ≤ maxLen ∧ Blk wk (G i) 3 (sr i).n (fun j => .int .i64 ((sr i).z j))) ∧
      (∀ i j, i < j → j < k → G i < G j)) ∧ Below w.heap.size w wk) (fun _ i _ => sn - (intOf i).toNat)
  case atStart => exact ⟨0, Nat.zero_le _, rfl, ⟨fun _ => 0, fun _ => 0, World.ownsRow_nil _ _ _ _, fun i hi => absurd hi (Nat.not_lt_zero _), fun i j _ hj => absurd hj (Nat.not_lt_zero _)⟩, Below.refl _ _⟩
  case round =>
    obtain ⟨k, hk, rfl, hgs, hB⟩ := hrel
    by_cases hlt : k < sn
    · obtain ⟨b, o, rfl, hb, z0, hat⟩ := (rows.below hB) k hlt
      have hr1 := hr k hlt
      obtain ⟨rle, rcap, ints⟩ := hat
      obtain ⟨b1, o1, ha, hb1, y0⟩ := ints 0 (by omega)
      rw [ha] at z0 ints
      clear y0 ha
      have HG : Hid _ := hgs
      clear hgs
      have m1 : (0 : Int) ≤ (k : Int) := by omega
      go_wp2_with (at_builtin; refine wpList_append_own _ rfl (.tmp 12) (.tmp 16) 23 rfl wr.heap.size 3 i1 (.int .i64 0) 1 8 Try.underlying23 hj hy0 hy1 hy2 rfl (by decide) _ _ _ rfl (World.ownsRow_made wr #[] 0 (Nat.le_refl _) (Nat.zero_le _) rfl) ⟨b1, o1, none⟩ (sr k).n (sr k).c ((List.range (sr k).n).map fun j => Value.int .i64 ((sr k).z j)) rfl ?qc1 ?qc2 ?qc3 ?qc4 ?qc5 ?qc6 ?_)
      case qc1 => simp
      case qc2 =>
        intro j u hj
        have hjn : j < (sr k).n := by
          have := (List.getElem?_eq_some_iff.1 hj).1
          simpa using this
        obtain ⟨b', o', he, hb', hcell⟩ := ints j hjn
        simp only [Option.some.injEq, Addr.mk.injEq, and_true] at he
        obtain ⟨rfl, rfl⟩ := he
        rw [Go.WideShapes.add_plain]
        rw [((Below.refl wr.heap.size wr).alloc (Nat.le_refl _) _).cell (p := ⟨b1, o1 + j, none⟩) hb', hcell]
        simp [hjn] at hj
        rw [hj]
      case qc3 => intro u hu; obtain ⟨x, _, rfl⟩ := List.mem_map.1 hu; rfl
      case qc4 => unfold maxLen; omega
      case qc5 => omega
      case qc6 => simp
      intro v' w1 hown hgrow hnil
      obtain ⟨g, c', rfl, h1, h2, h3, h4⟩ := Blk.ofOwns hown hnil
      rw [Nat.mul_one] at h4
      have hB1 : Below wr.heap.size wr w1 := ((Below.refl _ wr).alloc (Nat.le_refl _) _).grown hgrow (by simp) (by intro k hk; simp [Value.ownBlock] at hk; omega)
      have h5 : Blk w1 g 3 (sr k).n (fun j => .int .i64 ((sr k).z j)) := h4.congr (fun j hj => by simp [hj])
      clear hown hgrow hnil ints z0 h4
      obtain ⟨G, C, ho, gr, gm⟩ := HG.out
      have ho1 : w1.ownsRow w.heap.size 23 1 u3 k ((List.range k).map fun i => Value.slice (some ⟨G i, 0, none⟩) (sr i).n (C i)) := ho.kept (row := none) ⟨hB1.os, hB1.tape, hB1.output, hB1.size, fun j hj _ => hB1.block j hj⟩ (by cases h : u3.ownBlock <;> simp)
      have HR : Hid _ := And.intro gr gm
      clear ho gr gm HG
      go_wp2_with (at_builtin; refine wpList_append_own _ rfl (.tmp 11) (.tmp 18) 26 rfl w.heap.size 23 i0 (.slice none 0 0) 1 24 Try.underlying26 hi hz0 hz1 hz2 rfl (by decide) _ _ _ rfl (ho1.alloc _) ⟨w1.heap.size, 0, none⟩ 1 1 [.slice (some ⟨g, 0, none⟩) (sr k).n c'] rfl rfl ?c1 ?c2 ?c3 ?c4 ?c5 ?_)
      case c1 =>
        intro j u hj
        match j, hj with
        | 0, hj => simp at hj; subst hj; simp [Addr.add]
      case c2 => intro u hu; simp at hu; subst hu; rfl
      case c3 => unfold maxLen; omega
      case c4 => omega
      case c5 => have := hB.size; have := hB1.size; simp; omega
      intro v2 w2 hown2 hgrow2 hnil2
      have hB12 := hB.trans (hB1.mono hB.size)
      have hlt2 := ho1.lt
      have hB2 : Below w.heap.size w w2 := (hB12.alloc (by have := hB12.size; omega) _).grown hgrow2 (by have := hB12.size; simp; omega) (fun q hq => (hlt2 q hq).1)
      have keep : ∀ q f n', Blk w1 q 3 n' f → Blk w2 q 3 n' f := fun q f n' hb => by
        refine (hb.alloc _).grown hgrow2 ?_
        intro hq
        rcases ho1.2 with ⟨rfl, _⟩ | ⟨g2, cap2, cur2, rfl, _, hh2, hrest⟩
        · simp [Value.ownBlock] at hq
        · simp only [Value.ownBlock, Option.some.injEq] at hq
          subst hq
          obtain ⟨c3, hc3, _⟩ := hb
          rw [hc3] at hh2
          cases hh2
      have KN := keep _ _ _ h5
      have HK : Hid _ := And.intro hown2 (And.intro KN keep)
      clear hown2 hgrow2 hnil2 KN keep ho1 h5 hlt2
      go_wp2_with fail
      go_roundw
      case rel =>
        obtain ⟨hown2, KN, keep⟩ := HK.out
        obtain ⟨gr, gm⟩ := HR.out
        refine ⟨k + 1, by omega, by go_num, ⟨fun i => if i = k then g else G i, fun i => if i = k then c' else C i, ?_, ?_, ?_⟩, hB2⟩
        · have e : (List.range (k + 1)).map (fun i => Value.slice (some ⟨if i = k then g else G i, 0, none⟩) (sr i).n (if i = k then c' else C i)) = ((List.range k).map fun i => Value.slice (some ⟨G i, 0, none⟩) (sr i).n (C i)) ++ [.slice (some ⟨g, 0, none⟩) (sr k).n c'] := by
            rw [List.range_succ, List.map_append]
            congr 1
            · exact List.map_congr_left fun i hi => by have := List.mem_range.1 hi; simp [show ¬ i = k by omega]
            · simp
          rw [e]
          exact hown2
        · intro i hi
          by_cases hik : i = k
          · subst hik
            simp only [if_true]
            exact ⟨by have := hB.size; omega, h1, h2, KN⟩
          · simp only [hik, if_false]
            have hi2 : i < k := by omega
            exact ⟨(gr i hi2).1, (gr i hi2).2.1, (gr i hi2).2.2.1, keep _ _ _ ((gr i hi2).2.2.2.below hB1)⟩
        · intro i j hij hj
          by_cases hjk : j = k
          · subst hjk
            have := (gr i hij).2.2.2.lt
            simp [show ¬ i = j by omega]
            omega
          · simp [hjk, show ¬ i = k by omega, gm i j hij (by omega)]
      case measure => simp [intOf]; omega
    · go_wp2_with fail
      go_ret
      have hkn : k = sn := by omega
      subst hkn
      obtain ⟨G, C, ho, gr, gm⟩ := hgs
      have hv : ∃ g c, u3 = .slice (some ⟨g, 0, none⟩) k c := by
        rcases ho.2 with ⟨_, h0⟩ | ⟨g2, cap2, cur2, rfl, _⟩
        · omega
        · exact ⟨g2, cap2, rfl⟩
      obtain ⟨g', c'', rfl⟩ := hv
      obtain ⟨g, c, hvv, h1, h2, h3, h4⟩ := Blk.ofOwns ho (by simp)
      rw [Nat.mul_one] at h4
      simp only [Value.slice.injEq, Option.some.injEq, Addr.mk.injEq, and_true, true_and] at hvv
      obtain ⟨rfl, rfl⟩ := hvv
      exact ⟨g', c'', G, C, rfl, h3, h1, h2, h4.congr (fun j hj => by simp [hj]), gr, gm, hB⟩
end Go.Proofs.Ytbcacebifpagpac
namespace Go.Proofs.Ytbcacebifpagpac
open Go.RowKit
set_option linter.unusedVariables false
theorem Hs.one {w : World} {g : Nat} {h : Hd} {e : TypeId} (hb : Blk w g e 4 (fun j => (#[.int .i64 h.o, .int .i64 h.l, .int .i64 h.b, .int .i64 h.n] : Array Value).getD j default)) : Hs.At w ⟨some ⟨g, 0, none⟩, 1, 1, fun _ => h⟩ := by
  refine ⟨Nat.le_refl _, by show 1 ≤ maxLen; unfold maxLen; omega, fun i hi => ?_, fun h => by cases h⟩
  have hi0 : i = 0 := by have : i < 1 := hi; omega
  subst hi0
  exact ⟨g, 0, rfl, hb.lt, hb.cell (j := 0) (by decide), hb.cell (j := 1) (by decide), hb.cell (j := 2) (by decide), hb.cell (j := 3) (by decide)⟩
end Go.Proofs.Ytbcacebifpagpac
namespace Go.Proofs.Ytbcacebifpagpac
open Go.RowKit Go.Shelf Go.Sort
set_option linter.unusedVariables false
theorem owns_below {w w' : World} {base : Nat} {e : TypeId} {size : Nat} {v : Value} {n : Nat} {xs : List Value} (h : w.ownsRow base e size v n xs) (hB : Below w.heap.size w w') : w'.ownsRow base e size v n xs :=
  h.kept (row := none) ⟨hB.os, hB.tape, hB.output, hB.size, fun j hj _ => hB.block j hj⟩ (by cases h : v.ownBlock <;> simp)
end Go.Proofs.Ytbcacebifpagpac
namespace Go.Proofs.Ytbcacebifpagpac
open Go.RowKit Go.Shelf
set_option linter.unusedVariables false
set_option maxRecDepth 100000 in
set_option maxHeartbeats 1000000 in
theorem SameHolds_yes (r s : Hs) (w : World) (hr : r.At w) (hs : s.At w) (hn : r.n = s.n) (hz : ∀ j, j < r.n → r.z j = s.z j) :
    Calls Try.prog 52 #[r.val, s.val] w fun e w' => e = .returned (.bool true) ∧ Below w.heap.size w w' := by
  obtain ⟨ra, rn, rc, rz⟩ := r
  obtain ⟨sa, sn, sc, sz⟩ := s
  obtain ⟨rle, rcap, rh, _⟩ := hr
  obtain ⟨sle, scap, sh, _⟩ := hs
  dsimp only at *
  subst hn
  have HZ : Hid (∀ j, j < rn → rz j = sz j) := hz
  clear hz
  unfold maxLen at rcap scap
  simp only [Hs.val]
  go_enter Try.func52, Try.ntmps52
  go_wp2_with fail
  go_loopw [5] (fun i wk => ∃ k : Nat, k ≤ rn ∧ i = .int .i64 k ∧ Below w.heap.size w wk) (fun i _ => rn - (intOf i).toNat)
  case atStart => exact ⟨0, Nat.zero_le _, rfl, Below.refl _ _⟩
  case round =>
    obtain ⟨k, hk, rfl, hB⟩ := hrel
    by_cases hlt : k < rn
    · obtain ⟨b1, o1, rfl, hb1, y0, y1, y2, y3⟩ := (rh.below hB) k hlt
      obtain ⟨b2, o2, rfl, hb2, x0, x1, x2, x3⟩ := (sh.below hB) k hlt
      rw [← HZ.out k hlt] at x0 x1 x2 x3
      generalize rz k = Z at y0 y1 y2 y3 x0 x1 x2 x3
      go_wp2_with fail
      go_quiet (fail)
      go_wp2_with fail
      go_roundw
      case rel => exact ⟨k + 1, by omega, by go_num, below_drewN hB _⟩
      case measure => simp [intOf]; omega
    · go_wp2_with fail
      go_ret
      exact ⟨rfl, hB⟩
end Go.Proofs.Ytbcacebifpagpac
namespace Go.Proofs.Ytbcacebifpagpac
open Go.RowKit
set_option linter.unusedVariables false
def depsOf (ops : Array Oper) (i : Nat) : List Nat := match ops[i]? with
  | none => []
  | some o => (o.after.toList.filter (fun e => Region.binds .any e)).map (fun e => e.on)
def mark (listed : Array Bool) : List Nat → Array Bool
  | [] => listed
  | i :: r => mark (listed.setIfInBounds i true) r
def firstsB (ops : Array Oper) : List Nat → Array Bool → Bool
  | [], _ => true
  | i :: r, listed => (Region.ready .any ops listed).contains i && Region.free .any ops listed i && firstsB ops r (listed.setIfInBounds i true)
def topoB (ops : Array Oper) (L : Array Bool) : List Nat → List Nat → Bool
  | _, [] => true
  | seen, i :: r => (depsOf ops i).all (fun d => L.getD d false || seen.contains d) && topoB ops L (i :: seen) r
def dstOf (ops : Array Oper) (i : Nat) : Option Tmp := match ops[i]? with
  | none => none
  | some o => o.dst
theorem mark_size : ∀ (l : List Nat) (listed : Array Bool), (mark listed l).size = listed.size
  | [], _ => rfl
  | i :: r, listed => by rw [mark, mark_size r]; simp
theorem mark_get : ∀ (l : List Nat) (listed : Array Bool) (j : Nat), j < listed.size → (mark listed l)[j]? = if j ∈ l then some true else listed[j]?
  | [], listed, j, _ => by simp [mark]
  | i :: r, listed, j, hj => by
    rw [mark, mark_get r _ j (by simpa using hj), Array.getElem?_setIfInBounds]
    by_cases h1 : j ∈ r
    · simp [h1]
    · by_cases h2 : i = j
      · subst h2; simp [h1, hj]
      · have h3 : ¬ j = i := fun e => h2 e.symm
        simp [h1, h2, h3]
def putAll (ops : Array Oper) (rem : List Nat) (V : Nat → Value) (a : Act) : Act := match rem with
  | [] => a
  | i :: r => putAll ops r V (a.put (dstOf ops i) (V i))
theorem put_self (a : Act) (d : Option Tmp) : a.put d (match d with | some d => a.tmps.getD d undef | none => undef) = a := by
  cases d with
  | none => rfl
  | some d =>
    cases a with
    | mk tmps defers =>
      simp only [Act.put]
      congr 1
      apply Array.ext_getElem?
      intro i
      rw [Array.getElem?_setIfInBounds]
      by_cases h : d = i
      · subst h
        by_cases h2 : d < tmps.size
        · simp [h2, Array.getD]
        · simp [h2]
      · simp [h]
theorem put_put (a : Act) (d : Option Tmp) (u v : Value) : (a.put d u).put d v = a.put d v := by
  cases d with
  | none => rfl
  | some d =>
    simp only [Act.put]
    congr 1
    apply Array.ext_getElem?
    intro i
    simp only [Array.getElem?_setIfInBounds, Array.size_setIfInBounds]
    by_cases h : d = i <;> simp [h]
theorem put_swap (a : Act) {d d' : Option Tmp} (u v : Value) (h : d ≠ d') : (a.put d u).put d' v = (a.put d' v).put d u := by
  cases d with
  | none => rfl
  | some d => cases d' with
    | none => rfl
    | some d' =>
      have hne : d ≠ d' := fun e => h (by rw [e])
      simp only [Act.put]
      congr 1
      apply Array.ext_getElem?
      intro i
      simp only [Array.getElem?_setIfInBounds, Array.size_setIfInBounds]
      by_cases h1 : d = i
      · have h2 : ¬ d' = i := fun e => hne (h1.trans e.symm)
        simp [h1, h2]
      · by_cases h2 : d' = i <;> simp [h1, h2]
def upd (V : Nat → Value) (i : Nat) (v : Value) (j : Nat) : Value := if j = i then v else V j
theorem putAll_congr {ops : Array Oper} : ∀ {rem : List Nat} {V V' : Nat → Value} {a : Act}, (∀ j ∈ rem, V j = V' j) → putAll ops rem V a = putAll ops rem V' a
  | [], _, _, _, _ => rfl
  | i :: r, V, V', a, h => by
    rw [putAll, putAll, h i (by simp)]
    exact putAll_congr fun j hj => h j (by simp [hj])
theorem putAll_swap {ops : Array Oper} {d : Option Tmp} {v : Value} : ∀ {rem : List Nat} {V : Nat → Value} {a : Act}, d ∉ rem.map (dstOf ops) → putAll ops rem V (a.put d v) = (putAll ops rem V a).put d v
  | [], _, _, _ => rfl
  | i :: r, V, a, h => by
    simp only [List.map_cons, List.mem_cons, not_or] at h
    rw [putAll, putAll, put_swap a _ _ h.1]
    exact putAll_swap h.2
theorem putAll_put {ops : Array Oper} {i : Nat} {v : Value} : ∀ {rem : List Nat} {V : Nat → Value} {a : Act}, (rem.map (dstOf ops)).Nodup → i ∈ rem → (putAll ops rem V a).put (dstOf ops i) v = putAll ops rem (upd V i v) a
  | [], _, _, _, hi => by simp at hi
  | k :: r, V, a, hn, hi => by
    simp only [List.map_cons, List.nodup_cons] at hn
    rw [putAll, putAll]
    by_cases hk : k = i
    · subst hk
      have hkr : k ∉ r := fun h => hn.1 (List.mem_map.2 ⟨k, h, rfl⟩)
      rw [← putAll_swap hn.1, put_put]
      have e1 : upd V k v k = v := if_pos rfl
      rw [e1]
      exact putAll_congr fun j hj => (if_neg (fun e : j = k => hkr (by rw [← e]; exact hj))).symm
    · have e1 : upd V i v k = V k := if_neg hk
      rw [e1]
      have hir : i ∈ r := by
        rcases List.mem_cons.1 hi with h | h
        · exact absurd h.symm hk
        · exact h
      exact putAll_put hn.2 hir
theorem putAll_self {ops : Array Oper} (a : Act) : ∀ (rem : List Nat), putAll ops rem (fun i => match dstOf ops i with | some d => a.tmps.getD d undef | none => undef) a = a
  | [] => rfl
  | i :: r => by
    rw [putAll, put_self]
    exact putAll_self a r
theorem wpOp_list {P : Program} {l : List Oper} {Q : Exit → Act → World → Prop} {K : Act → World → Prop} (k : Nat) {o : Oper} {a : Act} {w : World} (hk : l[k]? = some o)
    (h : wpList P l.toArray (Exit.then K Q) [o] a w) : wpOp P l.toArray Q k K a w := by
  unfold wpOp
  simp only [List.getElem?_toArray, hk]
  unfold wpList at h
  split
  · rename_i hw
    rw [if_pos hw] at h
    rcases h with h | ⟨h1, h2⟩
    · exact .inl (Oper.wp_then (Oper.wp_mono (fun a' w' h' => h') h))
    · exact .inr ⟨h1, h2⟩
  · rename_i hw
    rw [if_neg hw] at h
    exact h
theorem topo_ready {ops : Array Oper} {L listed : Array Bool} (hsz : listed.size = ops.size) : ∀ (seen rem : List Nat), topoB ops L seen rem = true → (∀ d, L.getD d false = true → listed.getD d false = true) → (∀ d ∈ seen, listed.getD d false = true) →
    (∀ r ∈ rem, r < ops.size) → (∃ r ∈ rem, listed.getD r true = false) → ∃ r ∈ rem, r ∈ Region.ready .any ops listed
  | _, [], _, _, _, _, h => by obtain ⟨r, hr, _⟩ := h; simp at hr
  | seen, i :: r, hT, hL, hs, hlt, h => by
    simp only [topoB, Bool.and_eq_true] at hT
    by_cases hi : listed.getD i true = false
    · refine ⟨i, by simp, mem_ready.2 ⟨hi, ops[i]'(hlt i (by simp)), by simp [hlt i (by simp)], fun e he hb => ?_⟩⟩
      have hd : e.on ∈ depsOf ops i := by
        unfold depsOf
        simp only [Array.getElem?_eq_getElem (hlt i (by simp))]
        exact List.mem_map.2 ⟨e, List.mem_filter.2 ⟨by simpa using he, hb⟩, rfl⟩
      have := List.all_eq_true.1 hT.1 _ hd
      simp only [Bool.or_eq_true, List.contains_iff_mem] at this
      rcases this with h1 | h1
      · exact hL _ h1
      · exact hs _ h1
    · obtain ⟨q, hq, hq2⟩ := h
      have hq3 : q ∈ r := by
        rcases List.mem_cons.1 hq with e | e
        · subst e; exact absurd hq2 hi
        · exact e
      obtain ⟨x, hx, hx2⟩ := topo_ready hsz (i :: seen) r hT.2 hL (fun d hd => by
        rcases List.mem_cons.1 hd with e | e
        · subst e
          have : listed.getD d true = true := by simpa using hi
          by_cases hz : d < listed.size
          · simpa [Array.getD, hz] using this
          · exfalso
            have hnone : listed.size ≤ d := by omega
            exact hz (by
              have := hlt d (by simp)
              omega)
        · exact hs d e) (fun x hx => hlt x (by simp [hx])) ⟨q, hq3, hq2⟩
      exact ⟨x, by simp [hx], hx2⟩
def picks (l : List Oper) : List Nat → List Oper
  | [] => []
  | k :: ks => (l.drop k).take 1 ++ picks l ks
theorem picks_ok {l : List Oper} : ∀ {ks : List Nat}, ks.all (fun k => decide (k < l.length)) = true → ks.map (fun k => l[k]?) = (picks l ks).map some
  | [], _ => rfl
  | k :: ks, h => by
    simp only [List.all_cons, Bool.and_eq_true, decide_eq_true_eq] at h
    have h1 : (l.drop k).take 1 = [l[k]'h.1] := by
      rw [List.drop_eq_getElem_cons h.1]
      rfl
    rw [picks, h1, List.map_cons, List.singleton_append, List.map_cons, List.getElem?_eq_getElem h.1, picks_ok h.2]
end Go.Proofs.Ytbcacebifpagpac
namespace Go.Proofs.Ytbcacebifpagpac
open Go.RowKit
set_option linter.unusedVariables false
def wpAnyT (P : Program) (ops : Array Oper) (Q : Exit → Act → World → Prop) (S : World → Prop) (T : Nat → Bool) : Nat → Array Bool → Act → World → Prop
  | 0, listed, a, w => Region.ready .any ops listed = [] ∧ Q .normal a w
  | fuel + 1, listed, a, w => (Region.ready .any ops listed = [] → Q .normal a w) ∧
      ∀ i ∈ Region.ready .any ops listed, wpOp P ops Q i (fun a' w' => (T i = false → S w') ∧ wpAnyT P ops Q S T fuel (listed.setIfInBounds i true) a' w') a w
theorem wpAny_of_T {P : Program} {ops : Array Oper} {Q : Exit → Act → World → Prop} {S : World → Prop} {T : Nat → Bool} : ∀ (fuel : Nat) (listed : Array Bool) (a : Act) (w : World), wpAnyT P ops Q S T fuel listed a w → wpAny P .any ops Q fuel listed a w
  | 0, _, _, _, h => h
  | fuel + 1, _, _, _, h => ⟨h.1, fun i hi => wpOp_mono (fun a' w' h' => wpAny_of_T fuel _ a' w' h'.2) (h.2 i hi)⟩
def Closed (ops : Array Oper) (listed : Array Bool) : Prop := ∀ j, listed.getD j false = true → ∀ d ∈ depsOf ops j, listed.getD d false = true
def reach (ops : Array Oper) : Nat → Nat → Nat → Bool
  | 0, _, _ => false
  | f + 1, j, i => (depsOf ops j).any (fun d => d == i || reach ops f d i)
theorem reach_listed {ops : Array Oper} {listed : Array Bool} (hc : Closed ops listed) : ∀ (f j i : Nat), (∀ d ∈ depsOf ops j, listed.getD d false = true) → reach ops f j i = true → listed.getD i false = true
  | 0, _, _, _, h => by simp [reach] at h
  | f + 1, j, i, hd, h => by
    unfold reach at h
    obtain ⟨d, hd1, hd2⟩ := List.any_eq_true.1 h
    simp only [Bool.or_eq_true, beq_iff_eq] at hd2
    rcases hd2 with rfl | hd2
    · exact hd d hd1
    · exact reach_listed hc f d i (hc d (hd d hd1)) hd2
theorem ready_deps {ops : Array Oper} {listed : Array Bool} {j : Nat} (h : j ∈ Region.ready .any ops listed) : ∀ d ∈ depsOf ops j, listed.getD d false = true := fun d hd => by
  obtain ⟨_, o, ho, hdep⟩ := mem_ready.1 h
  unfold depsOf at hd
  rw [ho] at hd
  obtain ⟨e, he, rfl⟩ := List.mem_map.1 hd
  have := List.mem_filter.1 he
  exact hdep e (by simpa using this.1) this.2
theorem getD_mono {listed : Array Bool} {i d : Nat} (h : listed.getD d false = true) : (listed.setIfInBounds i true).getD d false = true := by
  by_cases hid : i = d
  · subst hid
    by_cases hl : i < listed.size
    · simp [Array.getD, hl]
    · simp [Array.getD, hl] at h
  · rw [getD_set_ne false hid]; exact h
theorem Closed.set {ops : Array Oper} {listed : Array Bool} (hc : Closed ops listed) {i : Nat} (hi : i ∈ Region.ready .any ops listed) : Closed ops (listed.setIfInBounds i true) := fun j hj d hd => by
  by_cases hij : i = j
  · subst hij; exact getD_mono (ready_deps hi d hd)
  · rw [getD_set_ne false hij] at hj
    exact getD_mono (hc j hj d hd)
theorem Closed.none (ops : Array Oper) (n : Nat) : Closed ops (Array.replicate n false) := fun j hj => by
  by_cases hl : j < n <;> simp [Array.getD, hl] at hj
theorem wpAnyT_first {P : Program} {ops : Array Oper} {Q : Exit → Act → World → Prop} {S : World → Prop} {T : Nat → Bool} {N : Nat} {i : Nat} {oi : Oper} {v : Value} (hi : ops[i]? = some oi) (hsel : ∀ (j : Nat) (o : Oper) cs b, ops[j]? = some o → o.op ≠ .select cs b)
    (hQ : ∀ c a w, Q (.panic c) (a.put oi.dst v) w → Q (.panic c) a w) (hT : ∀ j, T j = true → reach ops N j i = true) (hTi : T i = false) :
    ∀ (fuel : Nat) (listed : Array Bool) (a : Act) (w : World),
      (∀ j oj, ops[j]? = some oj → j ≠ i → listed.getD j true = false → (∀ e ∈ oj.after, Region.binds .any e = true → e.on ≠ i) → oi.apart ops oj = true) →
      i ∈ Region.ready .any ops listed → Closed ops listed → YieldsIf P ops S oi v a → S w →
      wpAnyT P ops Q S T fuel (listed.setIfInBounds i true) (a.put oi.dst v) w → wpAnyT P ops Q S T (fuel + 1) listed a w := by
  intro fuel
  induction fuel with
  | zero =>
    intro listed a w _ hr _ hy hS H
    refine ⟨fun h => (by rw [h] at hr; cases hr), fun j hj => ?_⟩
    by_cases hji : j = i
    · subst hji; exact hy.wpOp hi hS ⟨fun _ => hS, H⟩
    · have := ready_mono hj hji
      rw [H.1] at this
      cases this
  | succ fuel ih =>
    intro listed a w hfree hr hc hy hS H
    refine ⟨fun h => (by rw [h] at hr; cases hr), fun j hj => ?_⟩
    by_cases hji : j = i
    · subst hji; exact hy.wpOp hi hS ⟨fun _ => hS, H⟩
    · have h1 := H.2 j (ready_mono hj hji)
      obtain ⟨hjun, oj, hoj, hall⟩ := mem_ready.1 hj
      have hiun : ¬ listed.getD i false = true := fun h1 => by
        have h0 := (mem_ready.1 hr).1
        rcases Nat.lt_or_ge i listed.size with h' | h'
        · simp [h'] at h0 h1; rw [h0] at h1; cases h1
        · simp [Array.getElem?_eq_none h'] at h1
      have hnot : ∀ e ∈ oj.after, Region.binds .any e = true → e.on ≠ i := fun e he hb heq => by
        have h1 := hall e he hb
        rw [heq] at h1
        exact hiun h1
      have hTj : T j = false := by
        cases hq : T j
        · rfl
        · exact absurd (reach_listed hc N j i (ready_deps hj) (hT j hq)) hiun
      have h2 := wpOp_putIf hoj (hfree j oj hoj hji hjun hnot) (fun cs b => hsel i oi cs b hi) (fun cs b => hsel j oj cs b hoj) hQ hy h1
      have hfree' : ∀ k ok, ops[k]? = some ok → k ≠ i → (listed.setIfInBounds j true).getD k true = false →
          (∀ e ∈ ok.after, Region.binds .any e = true → e.on ≠ i) → oi.apart ops ok = true := fun k ok hk hki hun hno => by
        refine hfree k ok hk hki ?_ hno
        by_cases hjk : j = k
        · subst hjk; exact hjun
        · rw [getD_set_ne true hjk] at hun; exact hun
      refine wpOp_mono (fun a' w' h3 => ⟨h3.2.1, ih (listed.setIfInBounds j true) a' w' hfree' (ready_mono hr (Ne.symm hji)) (hc.set hj) h3.1 (h3.2.1 hTj) ?_⟩) h2
      rw [Array.setIfInBounds_comm _ _ hji]
      exact h3.2.2
def vKind4 (o : Oper) : Bool := vKind2 o || match o.op with
  | .extract .. => true
  | .build .. => true
  | .field .. => true
  | .index .. => true
  | .unOp .. => true
  | .convert .. => true
  | _ => false
theorem vKind4_spec {P : Program} {o : Oper} {ρ : Operand → Value} {w w' : World} {n : Next} (hv : vKind4 o = true) (h : (execOp ρ o).run P w = .ok n w') : ∃ v, n = .value v := by
  unfold vKind4 at hv
  rw [Bool.or_eq_true] at hv
  rcases hv with hv | hv
  · exact vKind2_spec hv h
  · unfold execOp at h
    split at hv
    all_goals first
      | (cases hv; done)
      | (rename_i hx; rw [hx] at h; exact valued h)
theorem wpAnyT_firsts {P : Program} {l : List Oper} {Q : Exit → Act → World → Prop} {S : World → Prop} {T : Nat → Bool} {N : Nat} {K : Act → Prop} {w : World} {fuel : Nat} (hs : Region.noSelect l.toArray = true) (hS : S w) (hQ : ∀ c a a' w, Q (.panic c) a w → Q (.panic c) a' w) :
    ∀ (ks : List Nat) (os : List Oper) (listed : Array Bool) (a : Act), firstsB l.toArray ks listed = true → (∀ k ∈ ks, T k = false ∧ ∀ j, T j = true → reach l.toArray N j k = true) → Closed l.toArray listed → ks.map (fun k => l[k]?) = os.map some → (os.all vKind4) = true →
      wpQuiet P l.toArray S K os a → (∀ a, K a → Closed l.toArray (mark listed ks) → wpAnyT P l.toArray Q S T fuel (mark listed ks) a w) → wpAnyT P l.toArray Q S T (ks.length + fuel) listed a w
  | [], [], listed, a, _, _, hc, _, _, h, hK => by rw [List.length_nil, Nat.zero_add]; exact hK a h hc
  | k :: ks, o :: os, listed, a, hB, hTk, hc, hk, hv, h, hK => by
    simp only [List.map_cons, List.cons.injEq] at hk
    simp only [List.all_cons, Bool.and_eq_true] at hv
    simp only [firstsB, Bool.and_eq_true] at hB
    rw [List.length_cons, Nat.add_right_comm]
    have hready : k ∈ Region.ready .any l.toArray listed := by simpa using hB.1.1
    have go : ∀ v, YieldsIf P l.toArray S o v a → wpAnyT P l.toArray Q S T (ks.length + fuel) (listed.setIfInBounds k true) (a.put o.dst v) w → wpAnyT P l.toArray Q S T (ks.length + fuel + 1) listed a w :=
      fun v hy h' => wpAnyT_first (N := N) (by simpa using hk.1) (Region.noSelect_spec hs) (fun c a w hq => hQ _ _ _ _ hq) (hTk k (by simp)).2 (hTk k (by simp)).1 _ listed a w (Region.free_spec (by simpa using hk.1) hB.1.2) hready hc hy hS h'
    have again := fun (a : Act) (hq : wpQuiet P l.toArray S K os a) => wpAnyT_firsts (N := N) (T := T) (fuel := fuel) hs hS hQ ks os _ a hB.2 (fun k' hk' => hTk k' (by simp [hk'])) (hc.set hready) hk.2 hv.2 hq hK
    unfold wpQuiet at h
    split at h
    · rename_i hw
      obtain ⟨v, h1, h2⟩ := h
      refine go v (.inl ⟨hw, fun w' hS => ?_⟩) (again _ h2)
      have := h1 w' hS
      unfold Oper.quietAt at this
      cases hr : (execOp a.eval o).run P w' with
      | ok n w2 =>
        rw [hr] at this
        obtain ⟨u, rfl⟩ := vKind4_spec hv.1 hr
        simp only [Oper.quietUpon] at this
        rw [this.1, this.2]
      | halt x w2 => rw [hr] at this; exact this.elim
    · rename_i hw
      exact go undef (.inr ⟨by simpa using hw, rfl⟩) (again _ h)
  | [], _ :: _, _, _, _, _, _, hk, _, _, _ => by simp at hk
  | _ :: _, [], _, _, _, _, _, hk, _, _, _ => by simp at hk
def Late (t : Bool) (S : World → Prop) (w : World) : Prop := t = false → S w
theorem Late.yes {S : World → Prop} {w : World} : Late true S w := fun h => by cases h
theorem Late.no {S : World → Prop} {w : World} (h : S w) : Late false S w := fun _ => h
def wpSeq (P : Program) (ops : Array Oper) (Q : Exit → Act → World → Prop) (S : World → Prop) : List (Bool × Nat) → Act → World → Prop
  | [], a, w => Q .normal a w
  | (t, i) :: r, a, w => wpOp P ops Q i (fun a' w' => Late t S w' ∧ wpSeq P ops Q S r a' w') a w
def seqB (ops : Array Oper) : List (Bool × Nat) → Array Bool → Bool
  | [], listed => Region.ready .any ops listed == []
  | (t, i) :: r, listed => Region.ready .any ops listed == [i] && seqB ops r (listed.setIfInBounds i true)
theorem wpAnyT_seq {P : Program} {ops : Array Oper} {Q : Exit → Act → World → Prop} {S : World → Prop} {T : Nat → Bool} : ∀ (ord : List (Bool × Nat)) (listed : Array Bool) (a : Act) (w : World),
      seqB ops ord listed = true → (∀ t i, (t, i) ∈ ord → T i = t) → wpSeq P ops Q S ord a w → wpAnyT P ops Q S T ord.length listed a w
  | [], listed, a, w, hB, _, h => ⟨by simpa [seqB] using hB, h⟩
  | (t, i) :: r, listed, a, w, hB, hT, h => by
    simp only [seqB, Bool.and_eq_true, beq_iff_eq] at hB
    refine ⟨fun h0 => absurd (hB.1.symm.trans h0) (by simp), fun j hj => ?_⟩
    rw [hB.1, List.mem_singleton] at hj
    subst hj
    refine wpOp_mono (fun a' w' h' => ⟨?_, wpAnyT_seq r _ a' w' hB.2 (fun t i hti => hT t i (by simp [hti])) h'.2⟩) h
    rw [hT t j (by simp)]
    exact h'.1
theorem wpList_end {P : Program} {ops : Array Oper} {K : Act → World → Prop} {Q : Exit → Act → World → Prop} {a : Act} {w : World} (h : K a w) : wpList P ops (Exit.then K Q) [] a w := by unfold wpList; exact h
theorem wpSeq_one {P : Program} {l : List Oper} {Q : Exit → Act → World → Prop} {S : World → Prop} {r : List (Bool × Nat)} {t : Bool} (k : Nat) {o : Oper} {a : Act} {w : World} (hk : l[k]? = some o)
    (h : wpList P l.toArray (Exit.then (fun a' w' => Late t S w' ∧ wpSeq P l.toArray Q S r a' w') Q) [o] a w) : wpSeq P l.toArray Q S ((t, k) :: r) a w :=
  wpOp_list k hk h
def madeB5 (ops : Array Oper) (rem : List Nat) (L : Array Bool) : Bool :=
  (List.range ops.size).all (fun i => L.getD i true || rem.contains i || rem.all (fun r => reach ops ops.size i r)) &&
  topoB ops L [] rem && rem.all (fun r => decide (r < ops.size) && !L.getD r true) && decide (L.size = ops.size) && decide ((rem.map (dstOf ops)).Nodup)
theorem made_aux5 {P : Program} {ops : Array Oper} {Q : Exit → Act → World → Prop} {S : World → Prop} {T : Nat → Bool} {rem : List Nat} {L : Array Bool} {a1 : Act} {D : Nat → Value → List Nat → World → Prop} {fuel : Nat} (hB : madeB5 ops rem L = true) (hT : ∀ r ∈ rem, T r = false)
    (mono : ∀ j ∈ rem, ∀ v g w w', Below w.heap.size w w' → D j v g w → D j v g w') (lt : ∀ j ∈ rem, ∀ v g w, D j v g w → ∀ x ∈ g, x < w.heap.size)
    (step : ∀ i ∈ rem, ∀ (V : Nat → Value) (G : Nat → List Nat) (w : World) (K : Act → World → Prop), S w → (∀ d ∈ depsOf ops i, d ∈ rem → D d (V d) (G d) w) →
      (∀ v g w', S w' → Below w.heap.size w w' → (∀ x ∈ g, w.heap.size ≤ x) → D i v g w' → K ((putAll ops rem V a1).put (dstOf ops i) v) w') → wpOp P ops Q i K (putAll ops rem V a1) w)
    (done : ∀ (V : Nat → Value) (G : Nat → List Nat) (w : World), S w → (∀ j ∈ rem, D j (V j) (G j) w) → (∀ j ∈ rem, ∀ k ∈ rem, j ≠ k → ∀ x ∈ G j, x ∉ G k) → wpAnyT P ops Q S T fuel (mark L rem) (putAll ops rem V a1) w) :
    ∀ (m : Nat) (listed : Array Bool) (V : Nat → Value) (G : Nat → List Nat) (w : World), (rem.filter (fun r => !listed.getD r true)).length = m → listed.size = ops.size → (∀ j, j ∉ rem → listed[j]? = L[j]?) → Closed ops listed → S w → (∀ j ∈ rem, listed.getD j true = true → D j (V j) (G j) w) →
      (∀ j ∈ rem, ∀ k ∈ rem, listed.getD j true = true → listed.getD k true = true → j ≠ k → ∀ x ∈ G j, x ∉ G k) → wpAnyT P ops Q S T (m + fuel) listed (putAll ops rem V a1) w := by
  simp only [madeB5, Bool.and_eq_true, decide_eq_true_eq] at hB
  obtain ⟨⟨⟨⟨hoth, htopo⟩, hrem⟩, hLs⟩, hnd⟩ := hB
  have hrem' : ∀ r ∈ rem, r < ops.size ∧ L.getD r true = false := fun r hr => by
    have := List.all_eq_true.1 hrem r hr
    simpa using this
  intro m
  induction m with
  | zero =>
    intro listed V G w hm hsz hag hcl hS hD hA
    have hall : ∀ r ∈ rem, listed.getD r true = true := fun r hr => by
      cases hq : listed.getD r true
      · have : r ∈ rem.filter (fun r => !listed.getD r true) := List.mem_filter.2 ⟨hr, by simp [hq]⟩
        rw [List.length_eq_zero_iff.1 hm] at this
        simp at this
      · rfl
    have hl : listed = mark L rem := by
      apply Array.ext_getElem?
      intro j
      by_cases hj : j < L.size
      · rw [mark_get rem L j hj]
        by_cases hjr : j ∈ rem
        · rw [if_pos hjr]
          have h1 := hall j hjr
          have h2 : j < listed.size := by omega
          simp only [Array.getD, h2, dif_pos] at h1
          simp [h2]
          exact h1
        · rw [if_neg hjr]; exact hag j hjr
      · rw [Array.getElem?_eq_none (by omega), Array.getElem?_eq_none (by rw [mark_size]; omega)]
    rw [Nat.zero_add, hl]
    exact done V G w hS (fun j hj => hD j hj (hall j hj)) fun j hj k hk => hA j hj k hk (hall j hj) (hall k hk)
  | succ m ih =>
    intro listed V G w hm hsz hag hcl hS hD hA
    have hex : ∃ r ∈ rem, listed.getD r true = false := by
      have hne : rem.filter (fun r => !listed.getD r true) ≠ [] := fun e => by rw [e] at hm; simp at hm
      obtain ⟨x, hx⟩ := List.exists_mem_of_ne_nil _ hne
      have := List.mem_filter.1 hx
      exact ⟨x, this.1, by simpa using this.2⟩
    have hLl : ∀ d, L.getD d false = true → listed.getD d false = true := fun d hd => by
      by_cases hdr : d ∈ rem
      · have h1 := (hrem' d hdr).2
        have h2 : d < L.size := by have := (hrem' d hdr).1; omega
        simp only [Array.getD, h2, dif_pos] at h1 hd
        rw [h1] at hd; cases hd
      · have h1 := hag d hdr
        by_cases h2 : d < L.size
        · have h3 : d < listed.size := by omega
          simp only [Array.getD, h2, h3, dif_pos] at hd ⊢
          simp only [Array.getElem?_eq_getElem h2, Array.getElem?_eq_getElem h3, Option.some.injEq] at h1
          rw [Array.getInternal_eq_getElem] at hd ⊢
          rw [h1]; exact hd
        · simp [Array.getD, h2] at hd
    obtain ⟨r0, hr0, hr0r⟩ := topo_ready hsz [] rem htopo hLl (fun d hd => by simp at hd) (fun r hr => (hrem' r hr).1) hex
    rw [Nat.add_right_comm]
    refine ⟨fun h0 => absurd (h0 ▸ hr0r) (by simp), fun i hi => ?_⟩
    obtain ⟨hli, o, ho, hdep⟩ := mem_ready.1 hi
    have hdeps : ∀ d ∈ depsOf ops i, listed.getD d false = true := fun d hd => by
      unfold depsOf at hd
      rw [ho] at hd
      obtain ⟨e, he, rfl⟩ := List.mem_map.1 hd
      have := List.mem_filter.1 he
      exact hdep e (by simpa using this.1) this.2
    have hdt : ∀ d, listed.getD d false = true → listed.getD d true = true := fun d hd => by
      by_cases h2 : d < listed.size
      · simpa [Array.getD, h2] using hd
      · simp [Array.getD, h2]
    have hir : i ∈ rem := by
      cases hc : rem.contains i
      · exfalso
        have hlt : i < ops.size := (Array.getElem?_eq_some_iff.1 ho).1
        have hnr : i ∉ rem := fun h => by
          have := List.contains_iff_mem.2 h
          rw [this] at hc; cases hc
        have h1 := List.all_eq_true.1 hoth i (List.mem_range.2 hlt)
        have hLi : L.getD i true = false := by
          have h2 := hag i hnr
          have h3 : i < L.size := by omega
          have h4 : i < listed.size := by omega
          simp only [Array.getElem?_eq_getElem h3, Array.getElem?_eq_getElem h4, Option.some.injEq] at h2
          simp only [Array.getD, h3, h4, dif_pos] at hli ⊢
          rw [Array.getInternal_eq_getElem] at hli ⊢
          rw [← h2]; exact hli
        rw [hLi, hc] at h1
        simp only [Bool.false_or] at h1
        obtain ⟨q, hq, hq2⟩ := hex
        have h5 := List.all_eq_true.1 h1 q hq
        have h6 := hdt q (reach_listed hcl _ i q (ready_deps hi) h5)
        rw [hq2] at h6; cases h6
      · exact List.contains_iff_mem.1 hc
    refine step i hir V G w _ hS (fun d hd hdr => hD d hdr (hdt d (hdeps d hd))) (fun v g w' hS' hBel hfr hDi => ?_)
    refine ⟨fun _ => hS', ?_⟩
    rw [putAll_put hnd hir]
    have hin : i < listed.size := by rw [hsz]; exact (hrem' i hir).1
    have gset : ∀ j, (listed.setIfInBounds i true).getD j true = if j = i then true else listed.getD j true := fun j => by
      by_cases hj : j = i
      · subst hj; simp [Array.getD, hin]
      · rw [if_neg hj, getD_set_ne true (fun e => hj e.symm)]
    refine ih (listed.setIfInBounds i true) (upd V i v) (fun j => if j = i then g else G j) w' ?_ (by simpa using hsz) (fun j hj => ?_) (hcl.set hi) hS' (fun j hj hlj => ?_) (fun j hj k hk hlj hlk hjk x hx => ?_)
    · have hnodup : rem.Nodup := by
        exact (List.pairwise_map.1 hnd).imp (fun h e => h (by rw [e]))
      have e1 : (rem.filter (fun r => !listed.getD r true)) = rem.filter (fun r => !listed.getD r true) := rfl
      have hcount : (rem.filter (fun r => !(listed.setIfInBounds i true).getD r true)) = (rem.filter (fun r => !listed.getD r true)).erase i := by
        have e2 : rem.filter (fun r => !(listed.setIfInBounds i true).getD r true) = (rem.filter (fun r => !listed.getD r true)).filter (fun r => r != i) := by
          rw [List.filter_filter]
          refine List.filter_congr fun x hx => ?_
          rw [gset x]
          by_cases hxi : x = i <;> simp [hxi]
        rw [e2, ← List.Nodup.erase_eq_filter (hnodup.filter _)]
      rw [hcount, List.length_erase_of_mem (List.mem_filter.2 ⟨hir, by simp [hli]⟩), hm]
      rfl
    · rw [Array.getElem?_setIfInBounds, if_neg (fun e : i = j => hj (by rw [← e]; exact hir))]
      exact hag j hj
    · unfold upd
      by_cases hji : j = i
      · subst hji; rw [if_pos rfl, if_pos rfl]; exact hDi
      · rw [if_neg hji, if_neg hji]
        rw [gset j, if_neg hji] at hlj
        exact mono j hj _ _ _ _ hBel (hD j hj hlj)
    · by_cases hji : j = i
      · have hki : ¬ k = i := fun e => hjk (hji.trans e.symm)
        rw [if_pos hji] at hx
        rw [if_neg hki]
        rw [gset k, if_neg hki] at hlk
        intro hx2
        have h1 := hfr x hx
        have h2 := lt k hk _ _ _ (hD k hk hlk) x hx2
        omega
      · rw [if_neg hji] at hx
        rw [gset j, if_neg hji] at hlj
        by_cases hki : k = i
        · rw [if_pos hki]
          intro hx2
          have h1 := hfr x hx2
          have h2 := lt j hj _ _ _ (hD j hj hlj) x hx
          omega
        · rw [if_neg hki]
          rw [gset k, if_neg hki] at hlk
          exact hA j hj k hk hlj hlk hjk x hx
def Made5 (P : Program) (ops : Array Oper) (Q : Exit → Act → World → Prop) (S : World → Prop) (rem : List Nat) (ord : List (Bool × Nat)) (a1 : Act) : Prop :=
  ∃ D : Nat → Value → List Nat → World → Prop, (∀ j ∈ rem, ∀ v g w w', Below w.heap.size w w' → D j v g w → D j v g w') ∧ (∀ j ∈ rem, ∀ v g w, D j v g w → ∀ x ∈ g, x < w.heap.size) ∧
    (∀ i ∈ rem, ∀ (V : Nat → Value) (G : Nat → List Nat) (w : World) (K : Act → World → Prop), S w → (∀ d ∈ depsOf ops i, d ∈ rem → D d (V d) (G d) w) →
      (∀ v g w', S w' → Below w.heap.size w w' → (∀ x ∈ g, w.heap.size ≤ x) → D i v g w' → K ((putAll ops rem V a1).put (dstOf ops i) v) w') → wpOp P ops (NoPanic Q) i K (putAll ops rem V a1) w) ∧
    (∀ (V : Nat → Value) (G : Nat → List Nat) (w : World), S w → (∀ j ∈ rem, D j (V j) (G j) w) → (∀ j ∈ rem, ∀ k ∈ rem, j ≠ k → ∀ x ∈ G j, x ∉ G k) → wpSeq P ops (NoPanic Q) S ord (putAll ops rem V a1) w)
def tailsB (ops : Array Oper) (ks rem : List Nat) (ord : List (Bool × Nat)) : Bool :=
  ks.all (fun k => !ord.contains (true, k) && ord.all (fun x => !x.1 || reach ops ops.size x.2 k)) && rem.all (fun r => !ord.contains (true, r)) && ord.all (fun x => x.1 || !ord.contains (true, x.2))
theorem wp_region_made5 {P : Program} {l : List Oper} {Q : Exit → Act → World → Prop} {id : Nat} {a : Act} {w : World} (S : World → Prop) (ks rem : List Nat) (ord : List (Bool × Nat))
    (hm : P.follows .mixedOrders = true) (hs : Region.noSelect l.toArray = true) (hF : firstsB l.toArray ks (Array.replicate l.length false) = true) (hks : ks.all (fun k => decide (k < l.length)) = true) (hv : ((picks l ks).all vKind4) = true)
    (hM : madeB5 l.toArray rem (mark (Array.replicate l.length false) ks) = true) (hTB : tailsB l.toArray ks rem ord = true) (hB : seqB l.toArray ord (mark (mark (Array.replicate l.length false) ks) rem) = true) (hl : ks.length + (rem.length + ord.length) = l.length)
    (hS : S w.drew) (h : wpQuiet P l.toArray S (Made5 P l.toArray Q S rem ord) (picks l ks) a) : (Code.region id l.toArray true).wp P Q a w := by
  refine wp_region_noPanic (wp_region_any hm ?_)
  have hM' := hM
  simp only [madeB5, Bool.and_eq_true, decide_eq_true_eq] at hM'
  simp only [tailsB, Bool.and_eq_true] at hTB
  have hT : ∀ j, (ord.contains (true, j)) = true → (true, j) ∈ ord := fun j h => by simpa using h
  have key := wpAnyT_firsts (Q := NoPanic Q) (T := fun i => ord.contains (true, i)) (N := l.toArray.size) (fuel := rem.length + ord.length) (w := w.drew) hs hS (fun c a a' w h => (h : False).elim) ks (picks l ks) _ a hF (fun k hk => ?_) (Closed.none _ _) (picks_ok hks) hv h (fun a1 hK hcl => ?_)
  · have := wpAny_of_T _ _ _ _ key
    rw [hl] at this
    simpa using this
  · have h1 := List.all_eq_true.1 hTB.1.1 k hk
    simp only [Bool.and_eq_true] at h1
    refine ⟨by simpa using h1.1, fun j hj => ?_⟩
    have h2 := List.all_eq_true.1 h1.2 (true, j) (hT j hj)
    simpa using h2
  · obtain ⟨D, mono, lt, step, done⟩ := hK
    have hall : (rem.filter (fun r => !(mark (Array.replicate l.length false) ks).getD r true)) = rem := by
      rw [List.filter_eq_self]
      intro r hr
      have := List.all_eq_true.1 hM'.1.1.2 r hr
      simp only [Bool.and_eq_true] at this
      exact this.2
    have hun : ∀ j ∈ rem, (mark (Array.replicate l.length false) ks).getD j true = true → False := fun j hj hlj => by
      have := List.all_eq_true.1 hM'.1.1.2 j hj
      simp only [Bool.and_eq_true, hlj] at this
      simp at this
    obtain ⟨V0, hV0⟩ : ∃ V0, putAll l.toArray rem V0 a1 = a1 := ⟨_, putAll_self a1 rem⟩
    have := made_aux5 (P := P) (Q := NoPanic Q) (S := S) (T := fun i => ord.contains (true, i)) (a1 := a1) (fuel := ord.length) hM (fun r hr => by have := List.all_eq_true.1 hTB.1.2 r hr; simpa using this) mono lt step
      (fun V G w' hS' hD hA => wpAnyT_seq ord _ _ w' hB (fun t i hti => by
        cases t with
        | true => simpa using hti
        | false =>
          have := List.all_eq_true.1 hTB.2 (false, i) hti
          simpa using this) (done V G w' hS' hD hA))
      rem.length (mark (Array.replicate l.length false) ks) V0 (fun _ => []) w.drew (by rw [hall]) hM'.1.2 (fun _ _ => rfl) hcl hS (fun j hj hlj => (hun j hj hlj).elim) (fun j hj k hk hlj _ _ => (hun j hj hlj).elim)
    rw [hV0] at this
    exact this
end Go.Proofs.Ytbcacebifpagpac
namespace Go.Proofs.Ytbcacebifpagpac
open Go.RowKit Go.Shelf
set_option linter.unusedVariables false
set_option maxHeartbeats 400000 in
theorem idxO4 (f : Nat) (caps : Array Value) (bad : Nat → Bool)  (a : Option Addr) (n c : Nat) (w : World) (hn : n ≤ c) (hc : c ≤ maxLen) (z : Nat → Od) (hz : OdsAt w a n z)
    (eg : ∀ args w, (callFunc f args).run Try.prog w = .ok (.enter f args) w)
    (hf : Hid (∀ i w1, i < n → Below w.heap.size w w1 → Calls Try.prog f (#[(z i).val] ++ caps) w1 fun e w' => e = .returned (.bool (bad i)) ∧ Below w1.heap.size w1 w')) :
    Calls Try.prog 110 #[.slice a n c, .func (.func f) #[] caps] w fun e w' => ∃ r : Int, e = .returned (.int .i64 r) ∧ decide (0 ≤ r) = anyB n bad ∧ Below w.heap.size w w' := by
  unfold maxLen at hc
  go_enter Try.func110, Try.ntmps110
  go_wp2_with fail
  go_loopw [8] (fun i w1 => ∃ k : Nat, k ≤ n ∧ i = .int .i64 k ∧ (∀ j, j < k → bad j = false) ∧ Below w.heap.size w w1) (fun i _ => n - (intOf i).toNat)
  case atStart => exact ⟨0, Nat.zero_le _, rfl, fun j hj => absurd hj (Nat.not_lt_zero _), Below.refl _ _⟩
  case round =>
    obtain ⟨k, hk, rfl, hno, hB⟩ := hrel
    have HN : Hid (∀ j, j < k → bad j = false) := hno
    clear hno
    by_cases hlt : k < n
    · obtain ⟨b, o, rfl, _, hcell0, hcell1, _⟩ := (hz.below hB) k hlt
      clear hz
      go_wp2_with fail
      refine (hf.out k wr hlt hB).mono ?_
      rintro e w1 ⟨rfl, hB1⟩
      have hB2 := hB.trans (hB1.mono hB.size)
      cases hbad : bad k
      · go_wp2_with fail
        go_roundw
        case rel =>
          refine ⟨k + 1, by omega, by go_num, ?_, hB2⟩
          intro j hj
          by_cases hjk : j = k
          · rw [hjk, hbad]
          · exact HN.out j (by omega)
        case measure => simp [intOf]; omega
      · go_wp2_with fail
        go_ret
        exact ⟨_, rfl, by rw [anyB_yes hlt hbad]; simp, hB2⟩
    · go_wp2_with fail
      go_ret
      have hkn : k = n := by omega
      subst hkn
      exact ⟨_, rfl, by rw [anyB_no HN.out]; decide, hB⟩
set_option maxHeartbeats 400000 in
theorem anyO4 (f : Nat) (caps : Array Value) (bad : Nat → Bool) (a : Option Addr) (n c : Nat) (w : World) (hn : n ≤ c) (hc : c ≤ maxLen) (z : Nat → Od) (hz : OdsAt w a n z)
    (eg : ∀ args w, (callFunc f args).run Try.prog w = .ok (.enter f args) w)
    (hf : Hid (∀ i w1, i < n → Below w.heap.size w w1 → Calls Try.prog f (#[(z i).val] ++ caps) w1 fun e w' => e = .returned (.bool (bad i)) ∧ Below w1.heap.size w1 w')) :
    Calls Try.prog 73 #[.slice a n c, .func (.func f) #[] caps] w fun e w' => e = .returned (.bool (anyB n bad)) ∧ Below w.heap.size w w' := by
  have hc0 := hc
  unfold maxLen at hc
  go_enter Try.func73, Try.ntmps73
  go_wp2_with fail
  refine (idxO4 f caps bad a n c w hn hc0 z hz eg hf).mono ?_
  rintro e w1 ⟨r, rfl, hr, hB⟩
  have HR : Hid (decide (0 ≤ r) = anyB n bad) := hr
  clear hr
  go_wp2_with fail
  go_ret
  exact ⟨by rw [← HR.out]; rfl, hB⟩
set_option maxHeartbeats 400000 in
theorem idxL4 (f : Nat) (caps : Array Value) (bad : Nat → Bool)  (a : Option Addr) (n c : Nat) (w : World) (hn : n ≤ c) (hc : c ≤ maxLen) (z : Nat → Hd) (hz : HdsAt w a n z)
    (eg : ∀ args w, (callFunc f args).run Try.prog w = .ok (.enter f args) w)
    (hf : Hid (∀ i w1, i < n → Below w.heap.size w w1 → Calls Try.prog f (#[(z i).val] ++ caps) w1 fun e w' => e = .returned (.bool (bad i)) ∧ Below w1.heap.size w1 w')) :
    Calls Try.prog 107 #[.slice a n c, .func (.func f) #[] caps] w fun e w' => ∃ r : Int, e = .returned (.int .i64 r) ∧ decide (0 ≤ r) = anyB n bad ∧ Below w.heap.size w w' := by
  unfold maxLen at hc
  go_enter Try.func107, Try.ntmps107
  go_wp2_with fail
  go_loopw [8] (fun i w1 => ∃ k : Nat, k ≤ n ∧ i = .int .i64 k ∧ (∀ j, j < k → bad j = false) ∧ Below w.heap.size w w1) (fun i _ => n - (intOf i).toNat)
  case atStart => exact ⟨0, Nat.zero_le _, rfl, fun j hj => absurd hj (Nat.not_lt_zero _), Below.refl _ _⟩
  case round =>
    obtain ⟨k, hk, rfl, hno, hB⟩ := hrel
    have HN : Hid (∀ j, j < k → bad j = false) := hno
    clear hno
    by_cases hlt : k < n
    · obtain ⟨b, o, rfl, _, hcell0, hcell1, hcell2, hcell3⟩ := (hz.below hB) k hlt
      clear hz
      go_wp2_with fail
      refine (hf.out k wr hlt hB).mono ?_
      rintro e w1 ⟨rfl, hB1⟩
      have hB2 := hB.trans (hB1.mono hB.size)
      cases hbad : bad k
      · go_wp2_with fail
        go_roundw
        case rel =>
          refine ⟨k + 1, by omega, by go_num, ?_, hB2⟩
          intro j hj
          by_cases hjk : j = k
          · rw [hjk, hbad]
          · exact HN.out j (by omega)
        case measure => simp [intOf]; omega
      · go_wp2_with fail
        go_ret
        exact ⟨_, rfl, by rw [anyB_yes hlt hbad]; simp, hB2⟩
    · go_wp2_with fail
      go_ret
      have hkn : k = n := by omega
      subst hkn
      exact ⟨_, rfl, by rw [anyB_no HN.out]; decide, hB⟩
set_option maxHeartbeats 400000 in
theorem anyL4 (f : Nat) (caps : Array Value) (bad : Nat → Bool) (a : Option Addr) (n c : Nat) (w : World) (hn : n ≤ c) (hc : c ≤ maxLen) (z : Nat → Hd) (hz : HdsAt w a n z)
    (eg : ∀ args w, (callFunc f args).run Try.prog w = .ok (.enter f args) w)
    (hf : Hid (∀ i w1, i < n → Below w.heap.size w w1 → Calls Try.prog f (#[(z i).val] ++ caps) w1 fun e w' => e = .returned (.bool (bad i)) ∧ Below w1.heap.size w1 w')) :
    Calls Try.prog 63 #[.slice a n c, .func (.func f) #[] caps] w fun e w' => e = .returned (.bool (anyB n bad)) ∧ Below w.heap.size w w' := by
  have hc0 := hc
  unfold maxLen at hc
  go_enter Try.func63, Try.ntmps63
  go_wp2_with fail
  refine (idxL4 f caps bad a n c w hn hc0 z hz eg hf).mono ?_
  rintro e w1 ⟨r, rfl, hr, hB⟩
  have HR : Hid (decide (0 ≤ r) = anyB n bad) := hr
  clear hr
  go_wp2_with fail
  go_ret
  exact ⟨by rw [← HR.out]; rfl, hB⟩
set_option maxHeartbeats 400000 in
theorem idxH4 (f : Nat) (caps : Array Value) (bad : Nat → Bool)  (a : Option Addr) (n c : Nat) (w : World) (hn : n ≤ c) (hc : c ≤ maxLen) (z : Nat → Hd) (hz : HdsAt w a n z)
    (eg : ∀ args w, (callFunc f args).run Try.prog w = .ok (.enter f args) w)
    (hf : Hid (∀ i w1, i < n → Below w.heap.size w w1 → Calls Try.prog f (#[(z i).val] ++ caps) w1 fun e w' => e = .returned (.bool (bad i)) ∧ Below w1.heap.size w1 w')) :
    Calls Try.prog 111 #[.slice a n c, .func (.func f) #[] caps] w fun e w' => ∃ r : Int, e = .returned (.int .i64 r) ∧ decide (0 ≤ r) = anyB n bad ∧ Below w.heap.size w w' := by
  unfold maxLen at hc
  go_enter Try.func111, Try.ntmps111
  go_wp2_with fail
  go_loopw [8] (fun i w1 => ∃ k : Nat, k ≤ n ∧ i = .int .i64 k ∧ (∀ j, j < k → bad j = false) ∧ Below w.heap.size w w1) (fun i _ => n - (intOf i).toNat)
  case atStart => exact ⟨0, Nat.zero_le _, rfl, fun j hj => absurd hj (Nat.not_lt_zero _), Below.refl _ _⟩
  case round =>
    obtain ⟨k, hk, rfl, hno, hB⟩ := hrel
    have HN : Hid (∀ j, j < k → bad j = false) := hno
    clear hno
    by_cases hlt : k < n
    · obtain ⟨b, o, rfl, _, hcell0, hcell1, hcell2, hcell3⟩ := (hz.below hB) k hlt
      clear hz
      go_wp2_with fail
      refine (hf.out k wr hlt hB).mono ?_
      rintro e w1 ⟨rfl, hB1⟩
      have hB2 := hB.trans (hB1.mono hB.size)
      cases hbad : bad k
      · go_wp2_with fail
        go_roundw
        case rel =>
          refine ⟨k + 1, by omega, by go_num, ?_, hB2⟩
          intro j hj
          by_cases hjk : j = k
          · rw [hjk, hbad]
          · exact HN.out j (by omega)
        case measure => simp [intOf]; omega
      · go_wp2_with fail
        go_ret
        exact ⟨_, rfl, by rw [anyB_yes hlt hbad]; simp, hB2⟩
    · go_wp2_with fail
      go_ret
      have hkn : k = n := by omega
      subst hkn
      exact ⟨_, rfl, by rw [anyB_no HN.out]; decide, hB⟩
set_option maxHeartbeats 400000 in
theorem anyH4 (f : Nat) (caps : Array Value) (bad : Nat → Bool) (a : Option Addr) (n c : Nat) (w : World) (hn : n ≤ c) (hc : c ≤ maxLen) (z : Nat → Hd) (hz : HdsAt w a n z)
    (eg : ∀ args w, (callFunc f args).run Try.prog w = .ok (.enter f args) w)
    (hf : Hid (∀ i w1, i < n → Below w.heap.size w w1 → Calls Try.prog f (#[(z i).val] ++ caps) w1 fun e w' => e = .returned (.bool (bad i)) ∧ Below w1.heap.size w1 w')) :
    Calls Try.prog 77 #[.slice a n c, .func (.func f) #[] caps] w fun e w' => e = .returned (.bool (anyB n bad)) ∧ Below w.heap.size w w' := by
  have hc0 := hc
  unfold maxLen at hc
  go_enter Try.func77, Try.ntmps77
  go_wp2_with fail
  refine (idxH4 f caps bad a n c w hn hc0 z hz eg hf).mono ?_
  rintro e w1 ⟨r, rfl, hr, hB⟩
  have HR : Hid (decide (0 ≤ r) = anyB n bad) := hr
  clear hr
  go_wp2_with fail
  go_ret
  exact ⟨by rw [← HR.out]; rfl, hB⟩
set_option maxHeartbeats 400000 in
theorem idxM4 (f : Nat) (caps : Array Value) (bad : Nat → Bool)  (a : Option Addr) (n c : Nat) (w : World) (hn : n ≤ c) (hc : c ≤ maxLen) (z : Nat → Hd) (hz : HdsAt w a n z)
    (eg : ∀ args w, (callFunc f args).run Try.prog w = .ok (.enter f args) w)
    (hf : Hid (∀ i w1, i < n → Below w.heap.size w w1 → Calls Try.prog f (#[(z i).val] ++ caps) w1 fun e w' => e = .returned (.bool (bad i)) ∧ Below w1.heap.size w1 w')) :
    Calls Try.prog 112 #[.slice a n c, .func (.func f) #[] caps] w fun e w' => ∃ r : Int, e = .returned (.int .i64 r) ∧ decide (0 ≤ r) = anyB n bad ∧ Below w.heap.size w w' := by
  unfold maxLen at hc
  go_enter Try.func112, Try.ntmps112
  go_wp2_with fail
  go_loopw [8] (fun i w1 => ∃ k : Nat, k ≤ n ∧ i = .int .i64 k ∧ (∀ j, j < k → bad j = false) ∧ Below w.heap.size w w1) (fun i _ => n - (intOf i).toNat)
  case atStart => exact ⟨0, Nat.zero_le _, rfl, fun j hj => absurd hj (Nat.not_lt_zero _), Below.refl _ _⟩
  case round =>
    obtain ⟨k, hk, rfl, hno, hB⟩ := hrel
    have HN : Hid (∀ j, j < k → bad j = false) := hno
    clear hno
    by_cases hlt : k < n
    · obtain ⟨b, o, rfl, _, hcell0, hcell1, hcell2, hcell3⟩ := (hz.below hB) k hlt
      clear hz
      go_wp2_with fail
      refine (hf.out k wr hlt hB).mono ?_
      rintro e w1 ⟨rfl, hB1⟩
      have hB2 := hB.trans (hB1.mono hB.size)
      cases hbad : bad k
      · go_wp2_with fail
        go_roundw
        case rel =>
          refine ⟨k + 1, by omega, by go_num, ?_, hB2⟩
          intro j hj
          by_cases hjk : j = k
          · rw [hjk, hbad]
          · exact HN.out j (by omega)
        case measure => simp [intOf]; omega
      · go_wp2_with fail
        go_ret
        exact ⟨_, rfl, by rw [anyB_yes hlt hbad]; simp, hB2⟩
    · go_wp2_with fail
      go_ret
      have hkn : k = n := by omega
      subst hkn
      exact ⟨_, rfl, by rw [anyB_no HN.out]; decide, hB⟩
set_option maxHeartbeats 400000 in
theorem anyM4 (f : Nat) (caps : Array Value) (bad : Nat → Bool) (a : Option Addr) (n c : Nat) (w : World) (hn : n ≤ c) (hc : c ≤ maxLen) (z : Nat → Hd) (hz : HdsAt w a n z)
    (eg : ∀ args w, (callFunc f args).run Try.prog w = .ok (.enter f args) w)
    (hf : Hid (∀ i w1, i < n → Below w.heap.size w w1 → Calls Try.prog f (#[(z i).val] ++ caps) w1 fun e w' => e = .returned (.bool (bad i)) ∧ Below w1.heap.size w1 w')) :
    Calls Try.prog 78 #[.slice a n c, .func (.func f) #[] caps] w fun e w' => e = .returned (.bool (anyB n bad)) ∧ Below w.heap.size w w' := by
  have hc0 := hc
  unfold maxLen at hc
  go_enter Try.func78, Try.ntmps78
  go_wp2_with fail
  refine (idxM4 f caps bad a n c w hn hc0 z hz eg hf).mono ?_
  rintro e w1 ⟨r, rfl, hr, hB⟩
  have HR : Hid (decide (0 ≤ r) = anyB n bad) := hr
  clear hr
  go_wp2_with fail
  go_ret
  exact ⟨by rw [← HR.out]; rfl, hB⟩
end Go.Proofs.Ytbcacebifpagpac
namespace Go.Proofs.Ytbcacebifpagpac
open Go.RowKit Go.Shelf
set_option linter.unusedVariables false
set_option maxHeartbeats 400000 in
theorem tooMany1_any (x : Od) (w : World) :
    Calls Try.prog 72 #[x.val] w fun e w' => e = .returned (.bool (fewLines x)) ∧ Below w.heap.size w w' := by
  unfold fewLines Od.val
  go_enter Try.func72, Try.ntmps72
  go_wp2_with (go_at_call 55; refine calls_to (Within_any _ _ _ _) ?_)
  all_goals go_ret
  all_goals exact ⟨rfl, (Below.refl _ _).alloc (Nat.le_refl _) _⟩
set_option maxHeartbeats 1000000 in
theorem badOrders1_any (B : Nat) (p : Pl) (x : Hd) (w : World) (les : p.ns ≤ p.cs) (caps : p.cs ≤ maxLen) (hB : B < w.heap.size) (c1 : w.cell? ⟨B, 1, none⟩ = some (.slice p.sa p.ns p.cs)) :
    Calls Try.prog 74 #[x.val, .pointer (some ⟨B, 0, none⟩)] w fun e w' => e = .returned (.bool (badLine p x)) ∧ Below w.heap.size w w' := by
  have hns : p.ns ≤ maxLen := Nat.le_trans les caps
  unfold maxLen at caps
  unfold badLine Hd.val
  cases h1 : inB x.o 0 ((p.ns : Int) - 1)
  · go_enter Try.func74, Try.ntmps74
    go_wp2_with (first | (go_at_call 55; refine calls_to (Within_any _ _ _ _) ?_) | (go_at_call 30; refine calls_to (Has_any _ _ _ hns) ?_))
    all_goals go_ret
    all_goals exact ⟨by simp, (Below.refl _ _).alloc (Nat.le_refl _) _⟩
  · cases h2 : inB x.l 1 200
    · go_enter Try.func74, Try.ntmps74
      go_wp2_with (first | (go_at_call 55; refine calls_to (Within_any _ _ _ _) ?_) | (go_at_call 30; refine calls_to (Has_any _ _ _ hns) ?_))
      all_goals go_ret
      all_goals exact ⟨by simp, (Below.refl _ _).alloc (Nat.le_refl _) _⟩
    · cases h3 : inB x.b 0 x.l
      · go_enter Try.func74, Try.ntmps74
        go_wp2_with (first | (go_at_call 55; refine calls_to (Within_any _ _ _ _) ?_) | (go_at_call 30; refine calls_to (Has_any _ _ _ hns) ?_))
        all_goals go_ret
        all_goals exact ⟨by simp, (Below.refl _ _).alloc (Nat.le_refl _) _⟩
      · go_enter Try.func74, Try.ntmps74
        go_wp2_with (first | (go_at_call 55; refine calls_to (Within_any _ _ _ _) ?_) | (go_at_call 30; refine calls_to (Has_any _ _ _ hns) ?_))
        all_goals go_ret
        all_goals exact ⟨by simp, (Below.refl _ _).alloc (Nat.le_refl _) _⟩
set_option maxHeartbeats 1000000 in
theorem badMoves1_any (B : Nat) (p : Pl) (x : Hd) (w : World) (les : p.ns ≤ p.cs) (caps : p.cs ≤ maxLen) (leb : p.nb ≤ p.cb) (capb : p.cb ≤ maxLen) (hB : B < w.heap.size) (c0 : w.cell? ⟨B, 0, none⟩ = some (.slice p.ab p.nb p.cb)) (c1 : w.cell? ⟨B, 1, none⟩ = some (.slice p.sa p.ns p.cs)) :
    Calls Try.prog 79 #[x.val, .pointer (some ⟨B, 0, none⟩)] w fun e w' => e = .returned (.bool (badMove p x)) ∧ Below w.heap.size w w' := by
  have hns : p.ns ≤ maxLen := Nat.le_trans les caps
  have hnb : p.nb ≤ maxLen := Nat.le_trans leb capb
  unfold maxLen at caps capb
  unfold badMove Hd.val
  cases h1 : inB x.o 0 ((p.ns : Int) - 1)
  · go_enter Try.func79, Try.ntmps79
    go_wp2_with (first | (go_at_call 55; refine calls_to (Within_any _ _ _ _) ?_) | (go_at_call 30; first | refine calls_to (Has_any _ _ _ hns) ?_ | refine calls_to (Has_any _ _ _ hnb) ?_))
    all_goals go_ret
    all_goals exact ⟨by simp, (Below.refl _ _).alloc (Nat.le_refl _) _⟩
  cases h2 : inB x.l 0 ((p.nb : Int) - 1)
  · go_enter Try.func79, Try.ntmps79
    go_wp2_with (first | (go_at_call 55; refine calls_to (Within_any _ _ _ _) ?_) | (go_at_call 30; first | refine calls_to (Has_any _ _ _ hns) ?_ | refine calls_to (Has_any _ _ _ hnb) ?_))
    all_goals go_ret
    all_goals exact ⟨by simp, (Below.refl _ _).alloc (Nat.le_refl _) _⟩
  cases h3 : inB x.b 0 ((p.nb : Int) - 1)
  · go_enter Try.func79, Try.ntmps79
    go_wp2_with (first | (go_at_call 55; refine calls_to (Within_any _ _ _ _) ?_) | (go_at_call 30; first | refine calls_to (Has_any _ _ _ hns) ?_ | refine calls_to (Has_any _ _ _ hnb) ?_))
    all_goals go_ret
    all_goals exact ⟨by simp, (Below.refl _ _).alloc (Nat.le_refl _) _⟩
  cases h4 : (x.l == x.b)
  · go_enter Try.func79, Try.ntmps79
    go_wp2_with (first | (go_at_call 55; refine calls_to (Within_any _ _ _ _) ?_) | (go_at_call 30; first | refine calls_to (Has_any _ _ _ hns) ?_ | refine calls_to (Has_any _ _ _ hnb) ?_))
    all_goals go_ret
    all_goals exact ⟨by simp, (Below.refl _ _).alloc (Nat.le_refl _) _⟩
  · go_enter Try.func79, Try.ntmps79
    go_wp2_with (first | (go_at_call 55; refine calls_to (Within_any _ _ _ _) ?_) | (go_at_call 30; first | refine calls_to (Has_any _ _ _ hns) ?_ | refine calls_to (Has_any _ _ _ hnb) ?_))
    all_goals go_ret
    all_goals exact ⟨by simp, (Below.refl _ _).alloc (Nat.le_refl _) _⟩
set_option maxHeartbeats 400000 in
theorem badSums11_any (B : Nat) (x low : Int) (w : World) (c0 : w.cell? ⟨B, 0, none⟩ = some (.int .i64 low)) :
    Calls Try.prog 81 #[.int .i64 x, .pointer (some ⟨B, 0, none⟩)] w fun e w' => e = .returned (.bool (!inB x low 1048576)) ∧ w' = w := by
  go_enter Try.func81, Try.ntmps81
  go_wp2_with (go_at_call 55; refine calls_to (Within_any _ _ _ _) ?_)
  all_goals go_ret
  all_goals exact ⟨rfl, rfl⟩
set_option maxHeartbeats 1000000 in
theorem badSums1_any (B : Nat) (p : Pl) (r : Rw) (low : Int) (w : World) (hr : r.At w) (les : p.ns ≤ p.cs) (caps : p.cs ≤ maxLen) (hB : B < w.heap.size) (c1 : w.cell? ⟨B, 1, none⟩ = some (.slice p.sa p.ns p.cs)) :
    Calls Try.prog 80 #[.slice r.a r.n r.c, .int .i64 low, .pointer (some ⟨B, 0, none⟩)] w fun e w' => e = .returned (.bool (badSum p r low)) ∧ Below w.heap.size w w' := by
  have rcap0 := hr.cap
  have rle := hr.le
  have rcap := rcap0
  unfold maxLen at rcap caps
  have hB1 : Below w.heap.size w (w.alloc (.cells #[.int .i64 low] 3)) := (Below.refl w.heap.size w).alloc (Nat.le_refl _) _
  have ints := (hr.below hB1).ints
  cases h1 : ((r.n : Int) != (p.ns : Int))
  · go_enter Try.func80, Try.ntmps80
    go_wp2_with fail
    refine (anyI 81 #[.pointer (some ⟨w.heap.size, 0, none⟩)] (fun i => !inB (r.z i) low 1048576) _ _ _ _ rle rcap0 r.z ints (enters_of Try.func81 (by kernel_rfl) rfl) (fun i w1 _ h => (badSums11_any w.heap.size _ low w1 ((h.cell (p := ⟨w.heap.size, 0, none⟩) (by simp)).trans (by simp))).mono fun _ _ h => ⟨h.1, h.2 ▸ Below.refl _ _⟩)).mono ?_
    rintro e w1 ⟨rfl, hB2⟩
    go_wp2_with fail
    go_ret
    exact ⟨by simp [badSum, h1], hB1.trans (hB2.mono (by simp))⟩
  · go_enter Try.func80, Try.ntmps80
    go_wp2_with fail
    go_ret
    exact ⟨by simp [badSum, h1], hB1⟩
end Go.Proofs.Ytbcacebifpagpac
namespace Go.Proofs.Ytbcacebifpagpac
open Go.RowKit Go.Shelf Go.Sort
set_option linter.unusedVariables false
def Boxes (w : World) (Bp Bs : Nat) (p : Pl) (s : St) : Prop :=
  (Bp < w.heap.size ∧ w.cell? ⟨Bp, 0, none⟩ = some (.slice p.ab p.nb p.cb) ∧ w.cell? ⟨Bp, 1, none⟩ = some (.slice p.sa p.ns p.cs)) ∧
  Bs < w.heap.size ∧ w.cell? ⟨Bs, 0, none⟩ = some (.slice s.on.a s.on.n s.on.c) ∧ w.cell? ⟨Bs, 1, none⟩ = some (.slice s.os.a s.os.n s.os.c) ∧ w.cell? ⟨Bs, 2, none⟩ = some (.slice s.hs.a s.hs.n s.hs.c) ∧
    w.cell? ⟨Bs, 3, none⟩ = some (.slice s.ms.a s.ms.n s.ms.c) ∧ w.cell? ⟨Bs, 4, none⟩ = some (.slice s.si.a s.si.n s.si.c) ∧ w.cell? ⟨Bs, 5, none⟩ = some (.slice s.so.a s.so.n s.so.c) ∧ w.cell? ⟨Bs, 6, none⟩ = some (.slice s.sf.a s.sf.n s.sf.c)
theorem Boxes.below {w w' : World} {Bp Bs : Nat} {p : Pl} {s : St} (h : Boxes w Bp Bs p s) (hB : Below w.heap.size w w') : Boxes w' Bp Bs p s := by
  obtain ⟨⟨a, b, c⟩, d, e0, e1, e2, e3, e4, e5, e6⟩ := h
  exact ⟨⟨Nat.lt_of_lt_of_le a hB.size, (hB.cell (p := ⟨Bp, 0, none⟩) a).trans b, (hB.cell (p := ⟨Bp, 1, none⟩) a).trans c⟩, Nat.lt_of_lt_of_le d hB.size, (hB.cell (p := ⟨Bs, 0, none⟩) d).trans e0, (hB.cell (p := ⟨Bs, 1, none⟩) d).trans e1, (hB.cell (p := ⟨Bs, 2, none⟩) d).trans e2, (hB.cell (p := ⟨Bs, 3, none⟩) d).trans e3, (hB.cell (p := ⟨Bs, 4, none⟩) d).trans e4, (hB.cell (p := ⟨Bs, 5, none⟩) d).trans e5, (hB.cell (p := ⟨Bs, 6, none⟩) d).trans e6⟩
theorem boxes_new (w : World) (p : Pl) (s : St) (t u : TypeId) : Boxes ((w.alloc (.cells #[.slice p.ab p.nb p.cb, .slice p.sa p.ns p.cs] t)).alloc (.cells s.cells u)) w.heap.size (w.heap.size + 1) p s := by
  have hp := (Blk.new w #[.slice p.ab p.nb p.cb, .slice p.sa p.ns p.cs] t).alloc (.cells s.cells u)
  have hs := Blk.new (w.alloc (.cells #[.slice p.ab p.nb p.cb, .slice p.sa p.ns p.cs] t)) s.cells u
  rw [World.size_alloc] at hs
  exact ⟨⟨hp.lt, hp.cell (j := 0) (by simp), hp.cell (j := 1) (by simp)⟩, hs.lt, hs.cell (j := 0) (by simp [St.cells]), hs.cell (j := 1) (by simp [St.cells]), hs.cell (j := 2) (by simp [St.cells]), hs.cell (j := 3) (by simp [St.cells]), hs.cell (j := 4) (by simp [St.cells]), hs.cell (j := 5) (by simp [St.cells]), hs.cell (j := 6) (by simp [St.cells])⟩
theorem two_below (w : World) (o o' : Obj) : Below w.heap.size w ((w.alloc o).alloc o') := ((Below.refl w.heap.size w).alloc (Nat.le_refl _) o).alloc (by simp) o'
set_option maxHeartbeats 1000000 in
theorem badOrders2_any (B Bp : Nat) (p : Pl) (x : Od) (w : World) (hx : x.ls.At w) (les : p.ns ≤ p.cs) (caps : p.cs ≤ maxLen) (hBp : Bp < w.heap.size) (c1 : w.cell? ⟨Bp, 1, none⟩ = some (.slice p.sa p.ns p.cs)) (hB : B < w.heap.size) (c2 : w.cell? ⟨B, 0, none⟩ = some (.func (.func 74) #[] #[.pointer (some ⟨Bp, 0, none⟩)])) :
    Calls Try.prog 75 #[x.val, .pointer (some ⟨B, 0, none⟩)] w fun e w' => e = .returned (.bool (badOrder p x)) ∧ Below w.heap.size w w' := by
  unfold Od.val
  have xcap0 := hx.cap
  have xle := hx.le
  have xcap := xcap0
  unfold maxLen at xcap
  have hB1 : Below w.heap.size w (w.alloc (.cells #[.int .i64 x.k, .slice x.ls.a x.ls.n x.ls.c] 51)) := (Below.refl w.heap.size w).alloc (Nat.le_refl _) _
  have hx1 := (hx.below hB1).hds
  cases h1 : inB x.k 0 2
  · go_enter Try.func75, Try.ntmps75
    go_wp2_with (go_at_call 55; refine calls_to (Within_any _ _ _ _) ?_)
    go_ret
    exact ⟨by simp [badOrder, h1], hB1⟩
  · go_enter Try.func75, Try.ntmps75
    go_wp2_with (go_at_call 55; refine calls_to (Within_any _ _ _ _) ?_)
    refine (anyL4 74 #[.pointer (some ⟨Bp, 0, none⟩)] (fun j => badLine p (x.ls.z j)) _ _ _ _ xle xcap0 x.ls.z hx1 (enters_of Try.func74 (by kernel_rfl) rfl) (fun i w1 _ h => badOrders1_any Bp p _ w1 les caps (Nat.lt_of_lt_of_le hBp (hB1.trans (h.mono hB1.size)).size) (((hB1.trans (h.mono hB1.size)).cell (p := ⟨Bp, 1, none⟩) hBp).trans c1))).mono ?_
    rintro e w1 ⟨rfl, hB2⟩
    go_wp2_with fail
    go_ret
    exact ⟨by simp [badOrder, h1], hB1.trans (hB2.mono hB1.size)⟩
set_option maxHeartbeats 1000000 in
theorem tooMany_any (s : St) (w : World) (hs : s.At w) :
    Calls Try.prog 34 #[s.val] w fun e w' => e = .returned (.bool (tooManyB s)) ∧ Below w.heap.size w w' := by
  unfold St.val
  have ocap0 := hs.os.cap
  have ole := hs.os.le
  have hB1 : Below w.heap.size w (w.alloc (.cells s.cells 31)) := (Below.refl w.heap.size w).alloc (Nat.le_refl _) _
  have ho1 := (hs.os.below hB1).ods
  unfold St.cells at hB1 ho1
  cases h1 : decide (4 < s.os.n)
  · have h1' : ¬ (4 : Int) < (s.os.n : Int) := by have := of_decide_eq_false h1; omega
    cases h2 : decide (8 < s.ms.n)
    · have h2' : ¬ (8 : Int) < (s.ms.n : Int) := by have := of_decide_eq_false h2; omega
      have H12 : Hid (decide (4 < s.os.n) = false ∧ decide (8 < s.ms.n) = false) := ⟨h1, h2⟩
      clear h1 h2
      go_enter Try.func34, Try.ntmps34
      go_wp2_with fail
      refine (anyO4 72 #[] (fun i => fewLines (s.os.z i)) _ _ _ _ ole ocap0 s.os.z ho1 (enters_of Try.func72 (by kernel_rfl) rfl) (fun i w1 _ _ => by rw [Array.append_empty]; exact tooMany1_any _ _)).mono ?_
      rintro e w1 ⟨rfl, hB2⟩
      go_wp2_with fail
      go_ret
      exact ⟨by simp [tooManyB, H12.out.1, H12.out.2], hB1.trans (hB2.mono hB1.size)⟩
    · have h2' : (8 : Int) < (s.ms.n : Int) := by have := of_decide_eq_true h2; omega
      have H12 : Hid (decide (8 < s.ms.n) = true) := h2
      clear h1 h2
      go_enter Try.func34, Try.ntmps34
      go_wp2_with fail
      go_ret
      exact ⟨by simp [tooManyB, H12.out], hB1⟩
  · have h1' : (4 : Int) < (s.os.n : Int) := by have := of_decide_eq_true h1; omega
    have H12 : Hid (decide (4 < s.os.n) = true) := h1
    clear h1
    go_enter Try.func34, Try.ntmps34
    go_wp2_with fail
    go_ret
    exact ⟨by simp [tooManyB, H12.out], hB1⟩
set_option maxHeartbeats 1000000 in
theorem badOrders_any (p : Pl) (s : St) (w : World) (hp : p.At w) (hs : s.At w) :
    Calls Try.prog 35 #[p.val, s.val] w fun e w' => e = .returned (.bool (badOrdersB p s)) ∧ Below w.heap.size w w' := by
  have X := boxes_new w p s 25 31
  have hB1 := two_below w (.cells #[.slice p.ab p.nb p.cb, .slice p.sa p.ns p.cs] 25) (.cells s.cells 31)
  unfold St.cells at X hB1
  have ocap0 := hs.os.cap
  have ole := hs.os.le
  unfold Pl.val St.val
  go_enter Try.func35, Try.ntmps35
  go_wp2_with fail
  obtain ⟨W, hW, hWB, hWc⟩ : ∃ W, (((w.alloc (.cells #[.slice p.ab p.nb p.cb, .slice p.sa p.ns p.cs] 25)).alloc (.cells #[.slice s.on.a s.on.n s.on.c, .slice s.os.a s.os.n s.os.c, .slice s.hs.a s.hs.n s.hs.c, .slice s.ms.a s.ms.n s.ms.c, .slice s.si.a s.si.n s.si.c, .slice s.so.a s.so.n s.so.c, .slice s.sf.a s.sf.n s.sf.c] 31)).alloc (.cells #[.func (.func 74) #[] #[.pointer (some ⟨w.heap.size, 0, none⟩)]] 93)) = W ∧ Below (w.heap.size + 2) ((w.alloc (.cells #[.slice p.ab p.nb p.cb, .slice p.sa p.ns p.cs] 25)).alloc (.cells #[.slice s.on.a s.on.n s.on.c, .slice s.os.a s.os.n s.os.c, .slice s.hs.a s.hs.n s.hs.c, .slice s.ms.a s.ms.n s.ms.c, .slice s.si.a s.si.n s.si.c, .slice s.so.a s.so.n s.so.c, .slice s.sf.a s.sf.n s.sf.c] 31)) W ∧ Blk W (w.heap.size + 1 + 1) 93 1 (fun j => (#[.func (.func 74) #[] #[.pointer (some ⟨w.heap.size, 0, none⟩)]] : Array Value).getD j default) :=
    ⟨_, rfl, (Below.refl _ _).alloc (by simp) _, Blk.mk' (by simp) rfl⟩
  rw [hW]
  have X2 := X.below (show Below _ _ W by simpa using hWB)
  have hB2 : Below w.heap.size w W := hB1.trans (hWB.mono (by omega))
  clear X hW
  have ho1 := (hs.os.below hB2).ods
  refine (anyO4 75 #[.pointer (some ⟨w.heap.size + 1 + 1, 0, none⟩)] (fun i => badOrder p (s.os.z i)) _ _ _ _ ole ocap0 s.os.z ho1 (enters_of Try.func75 (by kernel_rfl) rfl) (fun i w1 hi h => ?_)).mono ?_
  · obtain ⟨_, _, _, _, _, _, hl⟩ := (OdsAt.below ho1 h) i hi
    have X3 := X2.below h
    have hb := hWc.below h
    exact badOrders2_any (w.heap.size + 1 + 1) w.heap.size p _ w1 hl hp.les hp.caps X3.1.1 X3.1.2.2 hb.lt (hb.cell (j := 0) (by decide))
  · rintro e w1 ⟨rfl, hB3⟩
    go_wp2_with fail
    go_ret
    exact ⟨rfl, hB2.trans (hB3.mono hB2.size)⟩
end Go.Proofs.Ytbcacebifpagpac
namespace Go.Proofs.Ytbcacebifpagpac
open Go.RowKit Go.Shelf Go.Sort
set_option linter.unusedVariables false
set_option maxHeartbeats 1000000 in
theorem badMoves_any (p : Pl) (s : St) (w : World) (hp : p.At w) (hs : s.At w) :
    Calls Try.prog 37 #[p.val, s.val] w fun e w' => e = .returned (.bool (badMovesB p s)) ∧ Below w.heap.size w w' := by
  have X := boxes_new w p s 25 31
  have hB1 := two_below w (.cells #[.slice p.ab p.nb p.cb, .slice p.sa p.ns p.cs] 25) (.cells s.cells 31)
  have hm1 := (hs.ms.below hB1).hds
  unfold St.cells at X hB1 hm1
  have mcap0 := hs.ms.cap
  have mle := hs.ms.le
  unfold Pl.val St.val
  go_enter Try.func37, Try.ntmps37
  go_wp2_with fail
  refine (anyM4 79 #[.pointer (some ⟨w.heap.size, 0, none⟩)] (fun i => badMove p (s.ms.z i)) _ _ _ _ mle mcap0 s.ms.z hm1 (enters_of Try.func79 (by kernel_rfl) rfl) (fun i w1 hi h => ?_)).mono ?_
  · have X3 := X.below h
    exact badMoves1_any w.heap.size p _ w1 hp.les hp.caps hp.leb hp.capb X3.1.1 X3.1.2.1 X3.1.2.2
  · rintro e w1 ⟨rfl, hB3⟩
    go_wp2_with fail
    go_ret
    exact ⟨rfl, hB1.trans (hB3.mono hB1.size)⟩
set_option maxHeartbeats 2000000 in
theorem badSums_any (p : Pl) (s : St) (w : World) (hp : p.At w) (hs : s.At w) :
    Calls Try.prog 38 #[p.val, s.val] w fun e w' => e = .returned (.bool (badSumsB p s)) ∧ Below w.heap.size w w' := by
  have X := boxes_new w p s 25 31
  have hB1 := two_below w (.cells #[.slice p.ab p.nb p.cb, .slice p.sa p.ns p.cs] 25) (.cells s.cells 31)
  have eg := enters_of Try.func80 (by kernel_rfl) rfl
  unfold Pl.val St.val
  go_enter Try.func38, Try.ntmps38
  go_wp2_with fail
  obtain ⟨W, hW⟩ : ∃ W, ((w.alloc (.cells #[.slice p.ab p.nb p.cb, .slice p.sa p.ns p.cs] 25)).alloc (.cells s.cells 31)) = W := ⟨_, rfl⟩
  rw [hW] at X hB1
  unfold St.cells at hW
  rw [hW]
  clear hW
  refine (badSums1_any w.heap.size p s.si 0 W (hs.si.below hB1) hp.les hp.caps X.1.1 X.1.2.2).mono ?_
  rintro e w1 ⟨rfl, hB2⟩
  have X1 := X.below hB2
  have hC1 := hB1.trans (hB2.mono hB1.size)
  clear X hB1 hB2
  cases h1 : badSum p s.si 0
  · have Y1 := X1
    obtain ⟨-, hlt, -, -, -, -, -, e5, -⟩ := Y1
    go_wp2_with fail
    refine (badSums1_any w.heap.size p s.so 0 w1 (hs.so.below hC1) hp.les hp.caps X1.1.1 X1.1.2.2).mono ?_
    rintro e w2 ⟨rfl, hB2⟩
    have X2 := X1.below hB2
    have hC2 := hC1.trans (hB2.mono hC1.size)
    clear X1 hC1 hB2 e5 hlt
    cases h2 : badSum p s.so 0
    · have Y2 := X2
      obtain ⟨-, hlt, -, -, -, -, -, -, e6⟩ := Y2
      go_wp2_with fail
      refine (badSums1_any w.heap.size p s.sf (-1048576) w2 (hs.sf.below hC2) hp.les hp.caps X2.1.1 X2.1.2.2).mono ?_
      rintro e w3 ⟨rfl, hB2⟩
      go_wp2_with fail
      go_ret
      exact ⟨by simp [badSumsB, h1, h2], hC2.trans (hB2.mono hC2.size)⟩
    · go_wp2_with fail
      go_ret
      exact ⟨by simp [badSumsB, h2], hC2⟩
  · go_wp2_with fail
    go_ret
    exact ⟨by simp [badSumsB, h1], hC1⟩
set_option maxHeartbeats 2000000 in
theorem badHolds1_any (Bp Bs : Nat) (p : Pl) (s : St) (x : Hd) (w : World) (hp : p.At w) (hs : s.os.At w) (X : Boxes w Bp Bs p s) :
    Calls Try.prog 76 #[x.val, .pointer (some ⟨Bs, 0, none⟩), .pointer (some ⟨Bp, 0, none⟩)] w fun e w' => e = .returned (.bool (homeless p s x)) ∧ Below w.heap.size w w' := by
  obtain ⟨W, hW, hWB, hX⟩ : ∃ W, w.alloc (.cells #[.int .i64 x.o, .int .i64 x.l, .int .i64 x.b, .int .i64 x.n] 65) = W ∧ Below w.heap.size w W ∧ Blk W w.heap.size 65 4 (fun j => (#[.int .i64 x.o, .int .i64 x.l, .int .i64 x.b, .int .i64 x.n] : Array Value).getD j default) := ⟨_, rfl, (Below.refl w.heap.size w).alloc (Nat.le_refl _) _, Blk.mk' rfl rfl⟩
  have HW : Hid (w.alloc (.cells #[.int .i64 x.o, .int .i64 x.l, .int .i64 x.b, .int .i64 x.n] 65) = W) := hW
  have X1 := X.below hWB
  have os := hs.below hWB
  have ole := os.le
  have ocap0 := os.cap
  have hn0 : s.os.n ≤ maxLen := Nat.le_trans ole ocap0
  have hnb : p.nb ≤ maxLen := Nat.le_trans hp.leb hp.capb
  have pcap := hp.capb
  have ple := hp.leb
  have ocap := ocap0
  unfold maxLen at ocap pcap
  have r0 : ∀ d os, (grow (redrawn W d) os).cell? ⟨w.heap.size, 0, none⟩ = some (.int .i64 x.o) := fun d os => cell_regrown (hX.cell (j := 0) (by decide)) d os
  have r1 : ∀ d os, (grow (redrawn W d) os).cell? ⟨w.heap.size, 1, none⟩ = some (.int .i64 x.l) := fun d os => cell_regrown (hX.cell (j := 1) (by decide)) d os
  have r2 : ∀ d os, (grow (redrawn W d) os).cell? ⟨w.heap.size, 2, none⟩ = some (.int .i64 x.b) := fun d os => cell_regrown (hX.cell (j := 2) (by decide)) d os
  have r3 : ∀ d os, (grow (redrawn W d) os).cell? ⟨Bs, 1, none⟩ = some (.slice s.os.a s.os.n s.os.c) := fun d os => cell_regrown X1.2.2.2.1 d os
  have r4 : ∀ d os, (grow (redrawn W d) os).cell? ⟨Bp, 0, none⟩ = some (.slice p.ab p.nb p.cb) := fun d os => cell_regrown X1.1.2.1 d os
  clear hW
  unfold Hd.val
  cases h1 : inB x.o 0 ((s.os.n : Int) - 1)
  · go_enter Try.func76, Try.ntmps76
    go_wp2_with fail
    rw [HW.out]
    refine wp_region_quiet_below (by kernel_rfl) (by kernel_rfl) ?_
    repeat (go_big_quiet_step ((go_at_call 30; exact Calls.regrown_of ((Has_any _ _ _ (by assumption)).mono (fun _ _ h => ⟨h.1, h.2 ▸ Below.refl _ _⟩)))))
    refine wpQuiet_nil ?_
    intro _ hw'
    obtain ⟨⟨dq, osq⟩, hw''⟩ := hw'
    subst hw''
    go_wp2_with fail
    go_ret
    exact ⟨by simp [homeless, h1], hWB.trans ((below_regrown _ _ _).mono hWB.size)⟩
  · obtain ⟨m, hm⟩ := Int.eq_ofNat_of_zero_le (inB_true h1).1
    have hmn : m < s.os.n := by have := (inB_true h1).2; omega
    obtain ⟨b, o, hab, hb, -, z1, hl⟩ := os.ods m hmn
    have hln0 : (s.os.z m).ls.n ≤ maxLen := Nat.le_trans hl.le hl.cap
    have HA : Hid (homeless p s x = (!inB x.l 0 (((s.os.z m).ls.n : Int) - 1) || !inB x.b 0 ((p.nb : Int) - 1))) := by
      show homeless p s x = _
      unfold homeless
      rw [h1, hm, Int.toNat_natCast]
      rfl
    rw [hm] at r0 h1
    simp only [hab] at r3
    have r5 : ∀ d os, (grow (redrawn W d) os).cell? ⟨b, o + m * 2 + 1, none⟩ = some (.slice (s.os.z m).ls.a (s.os.z m).ls.n (s.os.z m).ls.c) := fun d os => cell_regrown z1 d os
    have m1 : (0 : Int) ≤ (m : Int) := by omega
    have m2 : (m : Int) < (s.os.n : Int) := by omega
    have HO : Hid (x.o = (m : Int)) := hm
    clear hm hab z1 os X1 X hX
    generalize (s.os.z m).ls = L at *
    cases h2 : inB x.l 0 ((L.n : Int) - 1)
    · go_enter Try.func76, Try.ntmps76
      go_wp2_with fail
      rw [HW.out, HO.out]
      refine wp_region_quiet_below (by kernel_rfl) (by kernel_rfl) ?_
      repeat (go_big_quiet_step ((go_at_call 30; exact Calls.regrown_of ((Has_any _ _ _ (by assumption)).mono (fun _ _ h => ⟨h.1, h.2 ▸ Below.refl _ _⟩)))))
      refine wpQuiet_nil ?_
      intro _ hw'
      obtain ⟨⟨dq, osq⟩, hw''⟩ := hw'
      subst hw''
      go_wp2_with fail
      go_ret
      exact ⟨by rw [HA.out, h2]; simp, hWB.trans ((below_regrown _ _ _).mono hWB.size)⟩
    · go_enter Try.func76, Try.ntmps76
      go_wp2_with fail
      rw [HW.out, HO.out]
      refine wp_region_quiet_below (by kernel_rfl) (by kernel_rfl) ?_
      repeat (go_big_quiet_step ((go_at_call 30; exact Calls.regrown_of ((Has_any _ _ _ (by assumption)).mono (fun _ _ h => ⟨h.1, h.2 ▸ Below.refl _ _⟩)))))
      refine wpQuiet_nil ?_
      intro _ hw'
      obtain ⟨⟨dq, osq⟩, hw''⟩ := hw'
      subst hw''
      go_wp2_with fail
      go_ret
      exact ⟨by rw [HA.out, h2]; simp, hWB.trans ((below_regrown _ _ _).mono hWB.size)⟩
end Go.Proofs.Ytbcacebifpagpac
namespace Go.Proofs.Ytbcacebifpagpac
open Go.RowKit Go.Shelf Go.Sort
set_option linter.unusedVariables false
set_option maxHeartbeats 2000000 in
theorem badHolds_any (p : Pl) (s : St) (w : World) (hp : p.At w) (hs : s.At w) :
    Calls Try.prog 36 #[p.val, s.val] w fun e w' => e = .returned (.bool (badHoldsB p s)) ∧ Below w.heap.size w w' := by
  have X := boxes_new w p s 25 31
  have hB1 := two_below w (.cells #[.slice p.ab p.nb p.cb, .slice p.sa p.ns p.cs] 25) (.cells s.cells 31)
  have mcap0 := hs.hs.cap
  have mle := hs.hs.le
  have hp1 := hp.below hB1
  have hs1 := hs.below hB1
  unfold Pl.val St.val
  go_enter Try.func36, Try.ntmps36
  go_wp2_with fail
  obtain ⟨W, hW⟩ : ∃ W, ((w.alloc (.cells #[.slice p.ab p.nb p.cb, .slice p.sa p.ns p.cs] 25)).alloc (.cells s.cells 31)) = W := ⟨_, rfl⟩
  rw [hW] at X hB1 hp1 hs1
  unfold St.cells at hW
  rw [hW]
  clear hW
  refine (holdsCheck_any s.hs W hs1.hs).mono ?_
  rintro e w1 ⟨rfl, hB2⟩
  have X1 := X.below hB2
  have hC1 := hB1.trans (hB2.mono hB1.size)
  have hp2 := hp1.below hB2
  have hs2 := hs1.below hB2
  clear X hB1 hB2 hp1 hs1
  by_cases h0 : checkH s.hs.n s.hs.z = 0
  · have Y1 := X1
    obtain ⟨-, hlt, -, -, e2, -⟩ := Y1
    go_wp2_with fail
    refine (anyH4 76 #[.pointer (some ⟨w.heap.size + 1, 0, none⟩), .pointer (some ⟨w.heap.size, 0, none⟩)] (fun i => homeless p s (s.hs.z i)) _ _ _ _ mle mcap0 s.hs.z hs2.hs.hds (enters_of Try.func76 (by kernel_rfl) rfl) (fun i w2 hi h => ?_)).mono ?_
    · exact badHolds1_any w.heap.size (w.heap.size + 1) p s _ w2 (hp2.below h) (hs2.os.below h) (X1.below h)
    · rintro e w2 ⟨rfl, hB3⟩
      go_wp2_with fail
      go_ret
      exact ⟨by simp [badHoldsB, h0], hC1.trans (hB3.mono hC1.size)⟩
  · go_wp2_with fail
    go_ret
    exact ⟨by simp [badHoldsB, h0], hC1⟩
set_option maxHeartbeats 400000 in
theorem lacks_any (x : Hd) (w : World) :
    Calls Try.prog 83 #[x.val] w fun e w' => e = .returned (.bool (lacksL x)) ∧ Below w.heap.size w w' := by
  unfold lacksL Hd.val
  go_enter Try.func83, Try.ntmps83
  go_wp2_with fail
  go_ret
  exact ⟨rfl, (Below.refl _ _).alloc (Nat.le_refl _) _⟩
set_option maxHeartbeats 1000000 in
theorem wrongLine_any (k : Int) (x : Hd) (kept : Int) (w : World) (h1 : 0 ≤ x.b ∧ x.b ≤ 200) (h2 : 0 ≤ x.n ∧ x.n ≤ 200) (h3 : 0 ≤ kept ∧ kept ≤ 14400) :
    Calls Try.prog 84 #[.int .i64 k, x.val, .int .i64 kept] w fun e w' => e = .returned (.bool (wrongL k x kept)) ∧ Below w.heap.size w w' := by
  unfold Hd.val
  by_cases hk : k = 0
  · have HK : Hid (wrongL k x kept = (!(x.b == 0) || !(x.n == 0) || !(kept == 0))) := by show wrongL k x kept = _; simp only [wrongL, if_pos hk]
    rw [HK.out]
    subst hk
    clear HK
    cases h4 : (x.b == 0)
    · go_enter Try.func84, Try.ntmps84
      go_wp2_with fail
      all_goals go_ret
      all_goals exact ⟨by first | rfl | simp_all, (Below.refl _ _).alloc (Nat.le_refl _) _⟩
    · cases h5 : (x.n == 0)
      · go_enter Try.func84, Try.ntmps84
        go_wp2_with fail
        all_goals go_ret
        all_goals exact ⟨by first | rfl | simp_all, (Below.refl _ _).alloc (Nat.le_refl _) _⟩
      · go_enter Try.func84, Try.ntmps84
        go_wp2_with fail
        all_goals go_ret
        all_goals exact ⟨by first | rfl | simp_all, (Below.refl _ _).alloc (Nat.le_refl _) _⟩
  · by_cases hk2 : k = 2
    · have HK : Hid (wrongL k x kept = (!(x.b + x.n == x.l) || !(kept == 0))) := by show wrongL k x kept = _; simp only [wrongL, if_neg hk, if_pos hk2]
      rw [HK.out]
      subst hk2
      clear HK hk
      cases h4 : (x.b + x.n == x.l)
      · go_enter Try.func84, Try.ntmps84
        go_wp2_with fail
        all_goals go_ret
        all_goals exact ⟨by first | rfl | simp_all, (Below.refl _ _).alloc (Nat.le_refl _) _⟩
      · go_enter Try.func84, Try.ntmps84
        go_wp2_with fail
        all_goals go_ret
        all_goals exact ⟨by first | rfl | simp_all, (Below.refl _ _).alloc (Nat.le_refl _) _⟩
    · have HK : Hid (wrongL k x kept = !(x.b + x.n + kept == x.l)) := by show wrongL k x kept = _; simp only [wrongL, if_neg hk, if_neg hk2]
      rw [HK.out]
      clear HK
      go_enter Try.func84, Try.ntmps84
      go_wp2_with fail
      all_goals go_ret
      all_goals exact ⟨rfl, (Below.refl _ _).alloc (Nat.le_refl _) _⟩
end Go.Proofs.Ytbcacebifpagpac
namespace Go.Proofs.Ytbcacebifpagpac
open Go.RowKit Go.Shelf Go.Sort
set_option linter.unusedVariables false
theorem goodAt {p : Pl} {s : St} {w : World} {k : Nat} (f : Formed p s) (hs : s.os.At w) (hk : k < s.hs.n) :
    ∃ (mo ml b1 o1 b2 o2 N C : Nat), (s.hs.z k).o = (mo : Int) ∧ (s.hs.z k).l = (ml : Int) ∧ mo < s.os.n ∧ ml < N ∧ N ≤ C ∧ C ≤ maxLen ∧ s.os.a = some ⟨b1, o1, none⟩ ∧ b1 < w.heap.size ∧ b2 < w.heap.size ∧
      w.cell? ⟨b1, o1 + mo * 2 + 1, none⟩ = some (.slice (some ⟨b2, o2, none⟩) N C) ∧ w.cell? ⟨b2, o2 + ml * 4, none⟩ = some (.int .i64 (goodH s (s.hs.z k))) := by
  obtain ⟨⟨a0, a1⟩, ⟨l0, l1⟩, -⟩ := homeless_no (f.home k hk)
  obtain ⟨mo, hmo⟩ := Int.eq_ofNat_of_zero_le a0
  obtain ⟨ml, hml⟩ := Int.eq_ofNat_of_zero_le l0
  have e1 : (s.hs.z k).o.toNat = mo := by omega
  have e2 : (s.hs.z k).l.toNat = ml := by omega
  have hg : goodH s (s.hs.z k) = ((s.os.z mo).ls.z ml).o := by unfold goodH; rw [e1, e2]
  rw [e1] at a1 l1
  rw [e2] at l1
  obtain ⟨b1, o1, ha, hb1, -, z1, hl⟩ := hs.ods mo a1
  obtain ⟨b2, o2, ha2, hb2, y0, -⟩ := hl.hds ml l1
  rw [ha2] at z1
  exact ⟨mo, ml, b1, o1, b2, o2, _, _, hmo, hml, a1, l1, hl.le, hl.cap, ha, hb1, hb2, z1, by rw [hg]; exact y0⟩
theorem heldTo_hit {s : St} {b g : Int} {k : Nat} (h1 : (s.hs.z k).b = b) (h2 : goodH s (s.hs.z k) = g) : heldTo s b g (k + 1) = heldTo s b g k + (s.hs.z k).n := by simp only [heldTo]; rw [if_pos ⟨h1, h2⟩]
theorem heldTo_miss {s : St} {b g : Int} {k : Nat} (h : ¬ ((s.hs.z k).b = b ∧ goodH s (s.hs.z k) = g)) : heldTo s b g (k + 1) = heldTo s b g k := by simp only [heldTo]; rw [if_neg h, Int.add_zero]
theorem fromTo_hit {s : St} {b g : Int} {k : Nat} (h1 : (s.ms.z k).l = b) (h2 : (s.ms.z k).o = g) : fromTo s b g (k + 1) = fromTo s b g k + (s.ms.z k).n := by simp only [fromTo]; rw [if_pos ⟨h1, h2⟩]
theorem fromTo_miss {s : St} {b g : Int} {k : Nat} (h : ¬ ((s.ms.z k).l = b ∧ (s.ms.z k).o = g)) : fromTo s b g (k + 1) = fromTo s b g k := by simp only [fromTo]; rw [if_neg h, Int.add_zero]
set_option maxHeartbeats 4000000 in
theorem avail_any (p : Pl) (s : St) (bin good : Nat) (w : World) (hs : s.At w) (f : Formed p s) (hbin : bin < p.nb) (hgood : good < p.ns) :
    Calls Try.prog 31 #[s.val, .int .i64 bin, .int .i64 good] w fun e w' => e = .returned (.int .i64 (availZ s bin good)) ∧ Below w.heap.size w w' := by
  obtain ⟨W0, hW0, hWB, hX⟩ : ∃ W0, w.alloc (.cells s.cells 31) = W0 ∧ Below w.heap.size w W0 ∧ Blk W0 w.heap.size 31 7 (fun j => s.cells.getD j default) := ⟨_, rfl, (Below.refl w.heap.size w).alloc (Nat.le_refl _) _, Blk.mk' rfl rfl⟩
  have hs0 := hs.below hWB
  have HC : Hid (∀ wk, Below W0.heap.size W0 wk → s.At wk ∧ wk.cell? ⟨w.heap.size, 0, none⟩ = some (.slice s.on.a s.on.n s.on.c) ∧ wk.cell? ⟨w.heap.size, 1, none⟩ = some (.slice s.os.a s.os.n s.os.c) ∧ wk.cell? ⟨w.heap.size, 2, none⟩ = some (.slice s.hs.a s.hs.n s.hs.c) ∧ wk.cell? ⟨w.heap.size, 3, none⟩ = some (.slice s.ms.a s.ms.n s.ms.c) ∧ w.heap.size < wk.heap.size) :=
    fun wk h => ⟨hs0.below h, (hX.below h).cell (j := 0) (by decide), (hX.below h).cell (j := 1) (by decide), (hX.below h).cell (j := 2) (by decide), (hX.below h).cell (j := 3) (by decide), (hX.below h).lt⟩
  have hon := f.sh.n
  obtain ⟨bo, oo, hoa, hbo, y0, hrow⟩ := hs.on.rows bin (by omega)
  have hrn := f.sh.len bin (by omega)
  have hnum := f.sh.num bin (by omega) good hgood
  obtain ⟨br, orr, hra, hbr, y1⟩ := hrow.ints good (by omega)
  have hrle := hrow.le
  have hrcap := hrow.cap
  have hole := hs0.on.le
  have hocap := hs0.on.cap
  have hhle := hs0.hs.le
  have hhcap := hs0.hs.cap
  have hmle := hs0.ms.le
  have hmcap := hs0.ms.cap
  have hosle := hs0.os.le
  have hoscap := hs0.os.cap
  unfold maxLen at hrcap hocap hhcap hmcap hoscap
  rw [hra] at y0
  have h72 := f.hs72
  have m8 := f.ms8
  have HB : Hid (∀ k, k ≤ s.hs.n → 0 ≤ heldTo s bin good k ∧ heldTo s bin good k ≤ 200 * k) := fun k hk => heldTo_bd fun j hj => f.holdN j (by omega)
  have MB : Hid (∀ k, k ≤ s.ms.n → 0 ≤ fromTo s bin good k ∧ fromTo s bin good k ≤ 200 * k) := fun k hk => fromTo_bd fun j hj => f.moveN j (by omega)
  have HW : Hid (w.alloc (.cells #[.slice (some ⟨bo, oo, none⟩) p.nb s.on.c, .slice s.os.a s.os.n s.os.c, .slice s.hs.a s.hs.n s.hs.c, .slice s.ms.a s.ms.n s.ms.c, .slice s.si.a s.si.n s.si.c, .slice s.so.a s.so.n s.so.c, .slice s.sf.a s.sf.n s.sf.c] 31) = W0) := by
    show _ = W0
    rw [← hW0, ← hoa, ← hon]
    rfl
  have HN : Hid (s.on.n = p.nb ∧ (s.on.r bin).n = p.ns ∧ (s.on.r bin).z good + 0 = (s.on.r bin).z good) := ⟨hon, hrn, Int.add_zero _⟩
  have HO : Hid (s.on.a = some ⟨bo, oo, none⟩) := hoa
  rw [hrn] at y0 hrle
  rw [hon] at hole
  have q0 : (0 : Int) ≤ (bin : Int) := by omega
  have q1 : (0 : Int) ≤ (good : Int) := by omega
  simp only [St.val, hoa, hon]
  clear hX hW0 hrow hon hrn hoa hra
  go_enter Try.func31, Try.ntmps31
  go_wp2_with fail
  rw [HW.out]
  go_loopw [7, 23] (fun u i wk => ∃ k : Nat, k ≤ s.hs.n ∧ i = .int .i64 k ∧ u = .int .i64 ((s.on.r bin).z good - heldTo s bin good k) ∧ Below W0.heap.size W0 wk) (fun _ i _ => s.hs.n - (intOf i).toNat)
  case atStart => exact ⟨0, Nat.zero_le _, rfl, by simp [heldTo], Below.refl _ _⟩
  case round =>
    obtain ⟨k, hk, rfl, rfl, hB⟩ := hrel
    have m1 := HB.out k hk
    obtain ⟨hsk, c0, c1, c2, c3, hlt0⟩ := HC.out wr hB
    by_cases hlt : k < s.hs.n
    · obtain ⟨b, q, hha, hb, z0, z1, z2, z3⟩ := hsk.hs.hds k hlt
      have m2 := f.holdN k hlt
      obtain ⟨mo, ml, b1, o1, b2, o2, N, C, hmo, hml, g1, g2, g3, g4, hosa, g5, g6, g7, g8⟩ := goodAt f hsk.os hlt
      have HG : Hid (s.hs.a = some ⟨b, q, none⟩ ∧ s.os.a = some ⟨b1, o1, none⟩ ∧ (s.hs.z k).o = (mo : Int) ∧ (s.hs.z k).l = (ml : Int)) := ⟨hha, hosa, hmo, hml⟩
      obtain ⟨W1, hW1, hB1, hY⟩ : ∃ W1, wr.alloc (.cells #[.int .i64 mo, .int .i64 ml, .int .i64 (s.hs.z k).b, .int .i64 (s.hs.z k).n] 65) = W1 ∧ Below W0.heap.size W0 W1 ∧ Blk W1 wr.heap.size 65 4 (fun j => (#[.int .i64 mo, .int .i64 ml, .int .i64 (s.hs.z k).b, .int .i64 (s.hs.z k).n] : Array Value).getD j default) := ⟨_, rfl, hB.alloc hB.size _, Blk.mk' rfl rfl⟩
      have hBa : Below wr.heap.size wr W1 := by rw [← hW1]; exact (Below.refl _ _).alloc (Nat.le_refl _) _
      have r0 : ∀ d os, (grow (redrawn W1 d) os).cell? ⟨wr.heap.size, 0, none⟩ = some (.int .i64 mo) := fun d os => cell_regrown (hY.cell (j := 0) (by decide)) d os
      have r1 : ∀ d os, (grow (redrawn W1 d) os).cell? ⟨wr.heap.size, 1, none⟩ = some (.int .i64 ml) := fun d os => cell_regrown (hY.cell (j := 1) (by decide)) d os
      have r2 : ∀ d os, (grow (redrawn W1 d) os).cell? ⟨wr.heap.size, 2, none⟩ = some (.int .i64 (s.hs.z k).b) := fun d os => cell_regrown (hY.cell (j := 2) (by decide)) d os
      have r3 : ∀ d os, (grow (redrawn W1 d) os).cell? ⟨wr.heap.size, 3, none⟩ = some (.int .i64 (s.hs.z k).n) := fun d os => cell_regrown (hY.cell (j := 3) (by decide)) d os
      rw [hosa] at c1
      rw [hmo] at z0
      rw [hml] at z1
      have r4 : ∀ d os, (grow (redrawn W1 d) os).cell? ⟨w.heap.size, 1, none⟩ = some (.slice (some ⟨b1, o1, none⟩) s.os.n s.os.c) := fun d os => cell_regrown ((hBa.cell (p := ⟨w.heap.size, 1, none⟩) hlt0).trans c1) d os
      have r5 : ∀ d os, (grow (redrawn W1 d) os).cell? ⟨b1, o1 + mo * 2 + 1, none⟩ = some (.slice (some ⟨b2, o2, none⟩) N C) := fun d os => cell_regrown ((hBa.cell (p := ⟨b1, o1 + mo * 2 + 1, none⟩) g5).trans g7) d os
      have r6 : ∀ d os, (grow (redrawn W1 d) os).cell? ⟨b2, o2 + ml * 4, none⟩ = some (.int .i64 (goodH s (s.hs.z k))) := fun d os => cell_regrown ((hBa.cell (p := ⟨b2, o2 + ml * 4, none⟩) g6).trans g8) d os
      have HV : Hid (wr.alloc (.cells #[.int .i64 mo, .int .i64 ml, .int .i64 (s.hs.z k).b, .int .i64 (s.hs.z k).n] 65) = W1) := hW1
      have q2 : (0 : Int) ≤ (mo : Int) := by omega
      have q3 : (0 : Int) ≤ (ml : Int) := by omega
      have q4 : (0 : Int) ≤ (k : Int) := by omega
      have H1 : Hid (((s.hs.z k).b = bin ∧ goodH s (s.hs.z k) = good → heldTo s bin good (k + 1) = heldTo s bin good k + (s.hs.z k).n) ∧ (¬ ((s.hs.z k).b = bin ∧ goodH s (s.hs.z k) = good) → heldTo s bin good (k + 1) = heldTo s bin good k)) := ⟨fun h => heldTo_hit h.1 h.2, heldTo_miss⟩
      rw [hha]
      unfold maxLen at g4
      clear hmo hml hosa hha hW1 c0 c1 c2 c3 hsk hBa
      generalize goodH s (s.hs.z k) = GD at *
      generalize heldTo s bin good k = U at *
      generalize (s.hs.z k).b = BB at *
      generalize (s.hs.z k).n = NN at *
      cases h1 : (BB == (bin : Int))
      · have hm := H1.out.2 (by simp at h1; omega)
        have HM : Hid (heldTo s bin good (k + 1) = U) := hm
        clear hm H1
        go_wp2_with fail
        rw [HV.out]
        refine wp_region_quiet_below (by kernel_rfl) (by kernel_rfl) ?_
        repeat (go_big_quiet_step (fail))
        refine wpQuiet_nil ?_
        intro _ hw'
        obtain ⟨⟨dq, osq⟩, hw''⟩ := hw'
        subst hw''
        have hC := hB1.trans ((below_regrown W1 dq osq).mono hB1.size)
        have hn3 := r3 dq osq
        have hlw : wr.heap.size < (grow (redrawn W1 dq) osq).heap.size := Nat.lt_of_lt_of_le hY.lt (below_regrown W1 dq osq).size
        clear r0 r1 r2 r3 r4 r5 r6 hY hB1 HV
        generalize grow (redrawn W1 dq) osq = wz at *
        go_wp2_with fail
        go_roundw
        case rel => exact ⟨k + 1, by omega, by go_num, by rw [HM.out], hC⟩
        case measure => simp [intOf]; omega
      · cases h2 : (GD == (good : Int))
        · have h1 := h2
          have hm := H1.out.2 (by simp at h1; omega)
          have HM : Hid (heldTo s bin good (k + 1) = U) := hm
          clear hm H1
          go_wp2_with fail
          rw [HV.out]
          refine wp_region_quiet_below (by kernel_rfl) (by kernel_rfl) ?_
          repeat (go_big_quiet_step (fail))
          refine wpQuiet_nil ?_
          intro _ hw'
          obtain ⟨⟨dq, osq⟩, hw''⟩ := hw'
          subst hw''
          have hC := hB1.trans ((below_regrown W1 dq osq).mono hB1.size)
          have hn3 := r3 dq osq
          have hlw : wr.heap.size < (grow (redrawn W1 dq) osq).heap.size := Nat.lt_of_lt_of_le hY.lt (below_regrown W1 dq osq).size
          clear r0 r1 r2 r3 r4 r5 r6 hY hB1 HV
          generalize grow (redrawn W1 dq) osq = wz at *
          go_wp2_with fail
          go_roundw
          case rel => exact ⟨k + 1, by omega, by go_num, by rw [HM.out], hC⟩
          case measure => simp [intOf]; omega
        · have hm := H1.out.1 ⟨by simpa using h1, by simpa using h2⟩
          have HM : Hid (heldTo s bin good (k + 1) = U + NN) := hm
          clear hm H1
          go_wp2_with fail
          rw [HV.out]
          refine wp_region_quiet_below (by kernel_rfl) (by kernel_rfl) ?_
          repeat (go_big_quiet_step (fail))
          refine wpQuiet_nil ?_
          intro _ hw'
          obtain ⟨⟨dq, osq⟩, hw''⟩ := hw'
          subst hw''
          have hC := hB1.trans ((below_regrown W1 dq osq).mono hB1.size)
          have hn3 := r3 dq osq
          have hlw : wr.heap.size < (grow (redrawn W1 dq) osq).heap.size := Nat.lt_of_lt_of_le hY.lt (below_regrown W1 dq osq).size
          clear r0 r1 r2 r3 r4 r5 r6 hY hB1 HV
          generalize grow (redrawn W1 dq) osq = wz at *
          go_wp2_with fail
          go_roundw
          case rel => exact ⟨k + 1, by omega, by go_num, by rw [HM.out, Int.sub_sub], hC⟩
          case measure => simp [intOf]; omega
    · have hkn : k = s.hs.n := by omega
      subst hkn
      generalize hHH : heldTo s bin good s.hs.n = HH at *
      have HHH : Hid (heldTo s bin good s.hs.n = HH) := hHH
      clear hHH hsk
      go_wp2_with fail
      go_loopw [7, 55] (fun u i wk => ∃ k : Nat, k ≤ s.ms.n ∧ i = .int .i64 k ∧ u = .int .i64 ((s.on.r bin).z good - HH - fromTo s bin good k) ∧ Below W0.heap.size W0 wk) (fun _ i _ => s.ms.n - (intOf i).toNat)
      case atStart => exact ⟨0, Nat.zero_le _, rfl, by simp [fromTo], hB⟩
      case round =>
        clear hB c0 c1 c2 c3 hlt0
        obtain ⟨k, hk, rfl, rfl, hB⟩ := hrel
        have m2 := MB.out k hk
        by_cases hlt2 : k < s.ms.n
        · obtain ⟨hsk, c0, c1, c2, c3, hlt0⟩ := HC.out wr hB
          obtain ⟨b, q, hma, hb, z0, z1, z2, z3⟩ := hsk.ms.hds k hlt2
          have m3 := f.moveN k hlt2
          have H1 : Hid (((s.ms.z k).l = bin ∧ (s.ms.z k).o = good → fromTo s bin good (k + 1) = fromTo s bin good k + (s.ms.z k).n) ∧ (¬ ((s.ms.z k).l = bin ∧ (s.ms.z k).o = good) → fromTo s bin good (k + 1) = fromTo s bin good k)) := ⟨fun h => fromTo_hit h.1 h.2, fromTo_miss⟩
          have q4 : (0 : Int) ≤ (k : Int) := by omega
          have hBa := fun o => hB.alloc (Nat.le_trans hB.size (Nat.le_refl _)) o
          have HBa : Hid (∀ o, Below W0.heap.size W0 (wr.alloc o)) := hBa
          rw [hma]
          clear hma c0 c1 c2 c3 hsk hBa
          generalize fromTo s bin good k = U at *
          generalize (s.ms.z k).l = BB at *
          generalize (s.ms.z k).n = NN at *
          generalize (s.ms.z k).o = GD at *
          cases h1 : (BB == (bin : Int))
          · have hm := H1.out.2 (by simp at h1; omega)
            have HM : Hid (fromTo s bin good (k + 1) = U) := hm
            clear hm H1
            go_wp2_with fail
            go_roundw
            case rel => exact ⟨k + 1, by omega, by go_num, by rw [HM.out], HBa.out _⟩
            case measure => simp [intOf]; omega
          · cases h2 : (GD == (good : Int))
            · have h1 := h2
              have hm := H1.out.2 (by simp at h1; omega)
              have HM : Hid (fromTo s bin good (k + 1) = U) := hm
              clear hm H1
              go_wp2_with fail
              go_roundw
              case rel => exact ⟨k + 1, by omega, by go_num, by rw [HM.out], HBa.out _⟩
              case measure => simp [intOf]; omega
            · have hm := H1.out.1 ⟨by simpa using h1, by simpa using h2⟩
              have HM : Hid (fromTo s bin good (k + 1) = U + NN) := hm
              clear hm H1
              go_wp2_with fail
              go_roundw
              case rel => exact ⟨k + 1, by omega, by go_num, by rw [HM.out, Int.sub_sub _ U], HBa.out _⟩
              case measure => simp [intOf]; omega
        · have hkn : k = s.ms.n := by omega
          subst hkn
          go_wp2_with fail
          go_ret
          exact ⟨by rw [← HHH.out]; rfl, hWB.trans (hB.mono hWB.size)⟩
end Go.Proofs.Ytbcacebifpagpac
namespace Go.Proofs.Ytbcacebifpagpac
open Go.RowKit Go.Shelf Go.Sort
set_option linter.unusedVariables false
set_option maxHeartbeats 4000000 in
theorem bound_any (p : Pl) (s : St) (bin good : Nat) (w : World) (hs : s.At w) (f : Formed p s) :
    Calls Try.prog 121 #[s.val, .int .i64 bin, .int .i64 good] w fun e w' => e = .returned (.int .i64 (heldTo s bin good s.hs.n + fromTo s bin good s.ms.n)) ∧ Below w.heap.size w w' := by
  obtain ⟨W0, hW0, hWB, hX⟩ : ∃ W0, w.alloc (.cells s.cells 31) = W0 ∧ Below w.heap.size w W0 ∧ Blk W0 w.heap.size 31 7 (fun j => s.cells.getD j default) := ⟨_, rfl, (Below.refl w.heap.size w).alloc (Nat.le_refl _) _, Blk.mk' rfl rfl⟩
  have hs0 := hs.below hWB
  have hsz0 : w.heap.size < W0.heap.size := hX.lt
  have HC : Hid (∀ wk, Below W0.heap.size W0 wk → s.At wk ∧ wk.cell? ⟨w.heap.size, 1, none⟩ = some (.slice s.os.a s.os.n s.os.c) ∧ wk.cell? ⟨w.heap.size, 2, none⟩ = some (.slice s.hs.a s.hs.n s.hs.c) ∧ wk.cell? ⟨w.heap.size, 3, none⟩ = some (.slice s.ms.a s.ms.n s.ms.c) ∧ w.heap.size < wk.heap.size) :=
    fun wk h => ⟨hs0.below h, (hX.below h).cell (j := 1) (by decide), (hX.below h).cell (j := 2) (by decide), (hX.below h).cell (j := 3) (by decide), (hX.below h).lt⟩
  have hhle := hs0.hs.le
  have hhcap := hs0.hs.cap
  have hmle := hs0.ms.le
  have hmcap := hs0.ms.cap
  have hosle := hs0.os.le
  have hoscap := hs0.os.cap
  unfold maxLen at hhcap hmcap hoscap
  have h72 := f.hs72
  have m8 := f.ms8
  have HB : Hid (∀ k, k ≤ s.hs.n → 0 ≤ heldTo s bin good k ∧ heldTo s bin good k ≤ 200 * k) := fun k hk => heldTo_bd fun j hj => f.holdN j (by omega)
  have MB : Hid (∀ k, k ≤ s.ms.n → 0 ≤ fromTo s bin good k ∧ fromTo s bin good k ≤ 200 * k) := fun k hk => fromTo_bd fun j hj => f.moveN j (by omega)
  have HW : Hid (w.alloc (.cells #[.slice s.on.a s.on.n s.on.c, .slice s.os.a s.os.n s.os.c, .slice s.hs.a s.hs.n s.hs.c, .slice s.ms.a s.ms.n s.ms.c, .slice s.si.a s.si.n s.si.c, .slice s.so.a s.so.n s.so.c, .slice s.sf.a s.sf.n s.sf.c] 31) = W0) := hW0
  simp only [St.val]
  clear hX hW0
  go_enter Try.func121, Try.ntmps121
  go_wp2_with fail
  rw [HW.out]
  go_loopw [7, 8] (fun u i wk => ∃ k : Nat, k ≤ s.hs.n ∧ i = .int .i64 k ∧ u = .int .i64 (heldTo s bin good k) ∧ Below W0.heap.size W0 wk) (fun _ i _ => s.hs.n - (intOf i).toNat)
  case atStart => exact ⟨0, Nat.zero_le _, rfl, by simp [heldTo], Below.refl _ _⟩
  case round =>
    obtain ⟨k, hk, rfl, rfl, hB⟩ := hrel
    have m1 := HB.out k hk
    obtain ⟨hsk, c1, c2, c3, hlt0⟩ := HC.out wr hB
    by_cases hlt : k < s.hs.n
    · obtain ⟨b, q, hha, hb, z0, z1, z2, z3⟩ := hsk.hs.hds k hlt
      have m2 := f.holdN k hlt
      obtain ⟨mo, ml, b1, o1, b2, o2, N, C, hmo, hml, g1, g2, g3, g4, hosa, g5, g6, g7, g8⟩ := goodAt f hsk.os hlt
      have HG : Hid (s.hs.a = some ⟨b, q, none⟩ ∧ s.os.a = some ⟨b1, o1, none⟩ ∧ (s.hs.z k).o = (mo : Int) ∧ (s.hs.z k).l = (ml : Int)) := ⟨hha, hosa, hmo, hml⟩
      obtain ⟨W1, hW1, hB1, hY⟩ : ∃ W1, wr.alloc (.cells #[.int .i64 mo, .int .i64 ml, .int .i64 (s.hs.z k).b, .int .i64 (s.hs.z k).n] 65) = W1 ∧ Below W0.heap.size W0 W1 ∧ Blk W1 wr.heap.size 65 4 (fun j => (#[.int .i64 mo, .int .i64 ml, .int .i64 (s.hs.z k).b, .int .i64 (s.hs.z k).n] : Array Value).getD j default) := ⟨_, rfl, hB.alloc hB.size _, Blk.mk' rfl rfl⟩
      have hBa : Below wr.heap.size wr W1 := by rw [← hW1]; exact (Below.refl _ _).alloc (Nat.le_refl _) _
      have r0 : ∀ d os, (grow (redrawn W1 d) os).cell? ⟨wr.heap.size, 0, none⟩ = some (.int .i64 mo) := fun d os => cell_regrown (hY.cell (j := 0) (by decide)) d os
      have r1 : ∀ d os, (grow (redrawn W1 d) os).cell? ⟨wr.heap.size, 1, none⟩ = some (.int .i64 ml) := fun d os => cell_regrown (hY.cell (j := 1) (by decide)) d os
      have r2 : ∀ d os, (grow (redrawn W1 d) os).cell? ⟨wr.heap.size, 2, none⟩ = some (.int .i64 (s.hs.z k).b) := fun d os => cell_regrown (hY.cell (j := 2) (by decide)) d os
      have r3 : ∀ d os, (grow (redrawn W1 d) os).cell? ⟨wr.heap.size, 3, none⟩ = some (.int .i64 (s.hs.z k).n) := fun d os => cell_regrown (hY.cell (j := 3) (by decide)) d os
      rw [hosa] at c1
      rw [hmo] at z0
      rw [hml] at z1
      have r4 : ∀ d os, (grow (redrawn W1 d) os).cell? ⟨w.heap.size, 1, none⟩ = some (.slice (some ⟨b1, o1, none⟩) s.os.n s.os.c) := fun d os => cell_regrown ((hBa.cell (p := ⟨w.heap.size, 1, none⟩) hlt0).trans c1) d os
      have r5 : ∀ d os, (grow (redrawn W1 d) os).cell? ⟨b1, o1 + mo * 2 + 1, none⟩ = some (.slice (some ⟨b2, o2, none⟩) N C) := fun d os => cell_regrown ((hBa.cell (p := ⟨b1, o1 + mo * 2 + 1, none⟩) g5).trans g7) d os
      have r6 : ∀ d os, (grow (redrawn W1 d) os).cell? ⟨b2, o2 + ml * 4, none⟩ = some (.int .i64 (goodH s (s.hs.z k))) := fun d os => cell_regrown ((hBa.cell (p := ⟨b2, o2 + ml * 4, none⟩) g6).trans g8) d os
      have HV : Hid (wr.alloc (.cells #[.int .i64 mo, .int .i64 ml, .int .i64 (s.hs.z k).b, .int .i64 (s.hs.z k).n] 65) = W1) := hW1
      have q2 : (0 : Int) ≤ (mo : Int) := by omega
      have q3 : (0 : Int) ≤ (ml : Int) := by omega
      have q4 : (0 : Int) ≤ (k : Int) := by omega
      have H1 : Hid (((s.hs.z k).b = bin ∧ goodH s (s.hs.z k) = good → heldTo s bin good (k + 1) = heldTo s bin good k + (s.hs.z k).n) ∧ (¬ ((s.hs.z k).b = bin ∧ goodH s (s.hs.z k) = good) → heldTo s bin good (k + 1) = heldTo s bin good k)) := ⟨fun h => heldTo_hit h.1 h.2, heldTo_miss⟩
      rw [hha] at c2
      unfold maxLen at g4
      clear hmo hml hosa hha hW1 c1 c3 hsk hBa
      generalize goodH s (s.hs.z k) = GD at *
      generalize heldTo s bin good k = U at *
      generalize (s.hs.z k).b = BB at *
      generalize (s.hs.z k).n = NN at *
      cases h1 : (BB == (bin : Int))
      · have hm := H1.out.2 (by simp at h1; omega)
        have HM : Hid (heldTo s bin good (k + 1) = U) := hm
        clear hm H1
        go_wp2_with fail
        rw [HV.out]
        refine wp_region_quiet_below (by kernel_rfl) (by kernel_rfl) ?_
        repeat (go_big_quiet_step (fail))
        refine wpQuiet_nil ?_
        intro _ hw'
        obtain ⟨⟨dq, osq⟩, hw''⟩ := hw'
        subst hw''
        have hC := hB1.trans ((below_regrown W1 dq osq).mono hB1.size)
        have hn3 := r3 dq osq
        have hlw : wr.heap.size < (grow (redrawn W1 dq) osq).heap.size := Nat.lt_of_lt_of_le hY.lt (below_regrown W1 dq osq).size
        clear r0 r1 r2 r3 r4 r5 r6 hY hB1 HV
        generalize grow (redrawn W1 dq) osq = wz at *
        go_wp2_with fail
        go_roundw
        case rel => exact ⟨k + 1, by omega, by go_num, by rw [HM.out], hC⟩
        case measure => simp [intOf]; omega
      · cases h2 : (GD == (good : Int))
        · have h1 := h2
          have hm := H1.out.2 (by simp at h1; omega)
          have HM : Hid (heldTo s bin good (k + 1) = U) := hm
          clear hm H1
          go_wp2_with fail
          rw [HV.out]
          refine wp_region_quiet_below (by kernel_rfl) (by kernel_rfl) ?_
          repeat (go_big_quiet_step (fail))
          refine wpQuiet_nil ?_
          intro _ hw'
          obtain ⟨⟨dq, osq⟩, hw''⟩ := hw'
          subst hw''
          have hC := hB1.trans ((below_regrown W1 dq osq).mono hB1.size)
          have hn3 := r3 dq osq
          have hlw : wr.heap.size < (grow (redrawn W1 dq) osq).heap.size := Nat.lt_of_lt_of_le hY.lt (below_regrown W1 dq osq).size
          clear r0 r1 r2 r3 r4 r5 r6 hY hB1 HV
          generalize grow (redrawn W1 dq) osq = wz at *
          go_wp2_with fail
          go_roundw
          case rel => exact ⟨k + 1, by omega, by go_num, by rw [HM.out], hC⟩
          case measure => simp [intOf]; omega
        · have hm := H1.out.1 ⟨by simpa using h1, by simpa using h2⟩
          have HM : Hid (heldTo s bin good (k + 1) = U + NN) := hm
          clear hm H1
          go_wp2_with fail
          rw [HV.out]
          refine wp_region_quiet_below (by kernel_rfl) (by kernel_rfl) ?_
          repeat (go_big_quiet_step (fail))
          refine wpQuiet_nil ?_
          intro _ hw'
          obtain ⟨⟨dq, osq⟩, hw''⟩ := hw'
          subst hw''
          have hC := hB1.trans ((below_regrown W1 dq osq).mono hB1.size)
          have hn3 := r3 dq osq
          have hlw : wr.heap.size < (grow (redrawn W1 dq) osq).heap.size := Nat.lt_of_lt_of_le hY.lt (below_regrown W1 dq osq).size
          clear r0 r1 r2 r3 r4 r5 r6 hY hB1 HV
          generalize grow (redrawn W1 dq) osq = wz at *
          go_wp2_with fail
          go_roundw
          case rel => exact ⟨k + 1, by omega, by go_num, by rw [HM.out], hC⟩
          case measure => simp [intOf]; omega
    · have hkn : k = s.hs.n := by omega
      subst hkn
      generalize hHH : heldTo s bin good s.hs.n = HH at *
      have HHH : Hid (heldTo s bin good s.hs.n = HH) := hHH
      clear hHH hsk
      go_wp2_with fail
      go_loopw [7, 10] (fun u i wk => ∃ k : Nat, k ≤ s.ms.n ∧ i = .int .i64 k ∧ u = .int .i64 (HH + fromTo s bin good k) ∧ Below W0.heap.size W0 wk) (fun _ i _ => s.ms.n - (intOf i).toNat)
      case atStart => exact ⟨0, Nat.zero_le _, rfl, by simp [fromTo], hB⟩
      case round =>
        clear hB c1 c2 c3 hlt0
        obtain ⟨k, hk, rfl, rfl, hB⟩ := hrel
        have m2 := MB.out k hk
        by_cases hlt2 : k < s.ms.n
        · obtain ⟨hsk, c1, c2, c3, hlt0⟩ := HC.out wr hB
          obtain ⟨b, q, hma, hb, z0, z1, z2, z3⟩ := hsk.ms.hds k hlt2
          have m3 := f.moveN k hlt2
          have H1 : Hid (((s.ms.z k).l = bin ∧ (s.ms.z k).o = good → fromTo s bin good (k + 1) = fromTo s bin good k + (s.ms.z k).n) ∧ (¬ ((s.ms.z k).l = bin ∧ (s.ms.z k).o = good) → fromTo s bin good (k + 1) = fromTo s bin good k)) := ⟨fun h => fromTo_hit h.1 h.2, fromTo_miss⟩
          have q4 : (0 : Int) ≤ (k : Int) := by omega
          have hBa := hB
          have HBa : Hid (Below W0.heap.size W0 wr) := hBa
          rw [hma] at c3
          clear hma c1 c2 hsk hBa
          generalize fromTo s bin good k = U at *
          generalize (s.ms.z k).l = BB at *
          generalize (s.ms.z k).n = NN at *
          generalize (s.ms.z k).o = GD at *
          cases h1 : (BB == (bin : Int))
          · have hm := H1.out.2 (by simp at h1; omega)
            have HM : Hid (fromTo s bin good (k + 1) = U) := hm
            clear hm H1
            go_wp2_with fail
            go_roundw
            case rel => exact ⟨k + 1, by omega, by go_num, by rw [HM.out], HBa.out⟩
            case measure => simp [intOf]; omega
          · cases h2 : (GD == (good : Int))
            · have h1 := h2
              have hm := H1.out.2 (by simp at h1; omega)
              have HM : Hid (fromTo s bin good (k + 1) = U) := hm
              clear hm H1
              go_wp2_with fail
              go_roundw
              case rel => exact ⟨k + 1, by omega, by go_num, by rw [HM.out], HBa.out⟩
              case measure => simp [intOf]; omega
            · have hm := H1.out.1 ⟨by simpa using h1, by simpa using h2⟩
              have HM : Hid (fromTo s bin good (k + 1) = U + NN) := hm
              clear hm H1
              go_wp2_with fail
              go_roundw
              case rel => exact ⟨k + 1, by omega, by go_num, by rw [HM.out, Int.add_assoc], HBa.out⟩
              case measure => simp [intOf]; omega
        · have hkn : k = s.ms.n := by omega
          subst hkn
          obtain ⟨hsk, c1, c2, c3, hlt0⟩ := HC.out wr hB
          clear hsk c1 c2
          go_wp2_with fail
          go_ret
          exact ⟨by rw [← HHH.out]; rfl, hWB.trans (hB.mono hWB.size)⟩
end Go.Proofs.Ytbcacebifpagpac

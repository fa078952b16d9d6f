/- Texts that were built one behind the other, joined; what PlanTells does not reach is left out. -/
import Derived.WalkKit
import Derived.Test.YtbcacebifpagpaaRows
import Derived.Laws.EntriesVeiled
import Derived.WalkSpells
import Derived.WalkLawsBesides
import Derived.Deep.QuietTactic
import Derived.BigQuiet
import Derived.Deep.RegionHeld3
import Derived.Shelf.Abstract
import Derived.Maps.AppendAt
import Derived.Deep.OwnRows
import Derived.Lib.SliceRun
import Derived.Orders
import Derived.Lib.QuietBelow
import Derived.RangeFuncBox
import Derived.RangeFuncLeaves
import Derived.OwnWalkIn
import Derived.TacticsInMore
import Derived.LoopNIn
import Derived.LoopIn
import Derived.RangeFuncNested
import Derived.ProofKit
import Derived.OpenShut
import Derived.Lib.SmallJoins
import Derived.Deep.Slices
namespace Go.Proofs.Ytbcacebifpagpaa
open Go.RowKit
set_option linter.unusedVariables false
theorem calls_to {P : Program} {f : Nat} {args : Array Value} {w : World} {R : Ending → World → Prop} {v : Value}
    (h : Calls P f args w fun e w' => e = .returned v ∧ w' = w) (k : R (.returned v) w) : Calls P f args w R :=
  h.mono (by rintro e w' ⟨rfl, rfl⟩; exact k)
def inB (n low high : Int) : Bool := decide (low ≤ n ∧ n ≤ high)
theorem inB_true {n low high : Int} (h : inB n low high = true) : low ≤ n ∧ n ≤ high := by simpa [inB] using h
def anyB (n : Nat) (bad : Nat → Bool) : Bool := (List.range n).any bad
theorem anyB_no {n : Nat} {bad : Nat → Bool} (h : ∀ j, j < n → bad j = false) : anyB n bad = false := by
  unfold anyB; rw [List.any_eq_false]; intro x hx; simp [h x (List.mem_range.1 hx)]
theorem anyB_yes {n k : Nat} {bad : Nat → Bool} (hk : k < n) (h : bad k = true) : anyB n bad = true := by
  unfold anyB; rw [List.any_eq_true]; exact ⟨k, List.mem_range.2 hk, h⟩
theorem anyB_false {n : Nat} {bad : Nat → Bool} (h : anyB n bad = false) : ∀ j, j < n → bad j = false := by
  intro j hj
  cases hb : bad j
  · rfl
  · rw [anyB_yes hj hb] at h; cases h
structure Bin where
  front : Bool
  room : Int
  low : Int
  high : Int
def Bin.val (x : Bin) : Value := .agg #[.bool x.front, .int .i64 x.room, .int .i64 x.low, .int .i64 x.high]
def badBin (x : Bin) : Bool := !inB x.room 0 1000 || !inB x.low 0 x.high || decide (200 < x.high)
def badSize (x : Int) : Bool := !inB x 1 9
def badNum (x : Int) : Bool := !inB x 0 200
theorem badBin_eq (x : Bin) : badBin x = (!inB x.room 0 1000 || !inB x.high 0 200 || !inB x.low 0 x.high) := by
  unfold badBin inB
  rw [Bool.eq_iff_iff]
  simp only [Bool.or_eq_true, Bool.not_eq_true', decide_eq_true_eq, decide_eq_false_iff_not]
  omega
def IntsAt (w : World) (a : Option Addr) (n : Nat) (z : Nat → Int) : Prop :=
  ∀ i, i < n → ∃ b o, a = some ⟨b, o, none⟩ ∧ b < w.heap.size ∧ w.cell? ⟨b, o + i, none⟩ = some (.int .i64 (z i))
theorem IntsAt.below {w w' : World} {a : Option Addr} {n : Nat} {z : Nat → Int} (h : IntsAt w a n z) (hB : Below w.heap.size w w') : IntsAt w' a n z := by
  intro i hi
  obtain ⟨b, o, ha, hb, hc⟩ := h i hi
  exact ⟨b, o, ha, Nat.lt_of_lt_of_le hb hB.size, (hB.cell (p := ⟨b, o + i, none⟩) hb).trans hc⟩
def BinsAt (w : World) (a : Option Addr) (n : Nat) (z : Nat → Bin) : Prop :=
  ∀ i, i < n → ∃ b o, a = some ⟨b, o, none⟩ ∧ b < w.heap.size ∧ w.cell? ⟨b, o + i * 4, none⟩ = some (.bool (z i).front) ∧
    w.cell? ⟨b, o + i * 4 + 1, none⟩ = some (.int .i64 (z i).room) ∧ w.cell? ⟨b, o + i * 4 + 2, none⟩ = some (.int .i64 (z i).low) ∧
    w.cell? ⟨b, o + i * 4 + 3, none⟩ = some (.int .i64 (z i).high)
theorem BinsAt.below {w w' : World} {a : Option Addr} {n : Nat} {z : Nat → Bin} (h : BinsAt w a n z) (hB : Below w.heap.size w w') : BinsAt w' a n z := by
  intro i hi
  obtain ⟨b, o, ha, hb, h0, h1, h2, h3⟩ := h i hi
  exact ⟨b, o, ha, Nat.lt_of_lt_of_le hb hB.size, (hB.cell (p := ⟨b, o + i * 4, none⟩) hb).trans h0, (hB.cell (p := ⟨b, o + i * 4 + 1, none⟩) hb).trans h1,
    (hB.cell (p := ⟨b, o + i * 4 + 2, none⟩) hb).trans h2, (hB.cell (p := ⟨b, o + i * 4 + 3, none⟩) hb).trans h3⟩
structure Rw where
  a : Option Addr
  n : Nat
  c : Nat
  z : Nat → Int
def Rw.val (r : Rw) : Value := .slice r.a r.n r.c
structure Rw.At (w : World) (r : Rw) : Prop where
  le : r.n ≤ r.c
  cap : r.c ≤ maxLen
  ints : IntsAt w r.a r.n r.z
theorem Rw.At.below {w w' : World} {r : Rw} (h : r.At w) (hB : Below w.heap.size w w') : r.At w' := ⟨h.le, h.cap, h.ints.below hB⟩
def RowsAt (w : World) (a : Option Addr) (n : Nat) (r : Nat → Rw) : Prop :=
  ∀ i, i < n → ∃ b o, a = some ⟨b, o, none⟩ ∧ b < w.heap.size ∧ w.cell? ⟨b, o + i, none⟩ = some (.slice (r i).a (r i).n (r i).c) ∧ (r i).At w
theorem RowsAt.below {w w' : World} {a : Option Addr} {n : Nat} {z : Nat → Rw} (h : RowsAt w a n z) (hB : Below w.heap.size w w') : RowsAt w' a n z := by
  intro i hi
  obtain ⟨b, o, ha, hb, hc, hr⟩ := h i hi
  exact ⟨b, o, ha, Nat.lt_of_lt_of_le hb hB.size, (hB.cell (p := ⟨b, o + i, none⟩) hb).trans hc, hr.below hB⟩
structure Pl where
  ab : Option Addr
  nb : Nat
  cb : Nat
  zb : Nat → Bin
  sa : Option Addr
  ns : Nat
  cs : Nat
  zs : Nat → Int
def Pl.val (p : Pl) : Value := .agg #[.slice p.ab p.nb p.cb, .slice p.sa p.ns p.cs]
structure Pl.At (w : World) (p : Pl) : Prop where
  leb : p.nb ≤ p.cb
  capb : p.cb ≤ maxLen
  bins : BinsAt w p.ab p.nb p.zb
  les : p.ns ≤ p.cs
  caps : p.cs ≤ maxLen
  sizes : IntsAt w p.sa p.ns p.zs
theorem Pl.At.below {w w' : World} {p : Pl} (h : p.At w) (hB : Below w.heap.size w w') : p.At w' := ⟨h.leb, h.capb, h.bins.below hB, h.les, h.caps, h.sizes.below hB⟩
def planE (p : Pl) : Int :=
  if inB p.nb 1 6 && inB p.ns 1 3 then (if anyB p.nb (fun i => badBin (p.zb i)) || anyB p.ns (fun i => badSize (p.zs i)) then 3 else 0) else 2
structure Sh where
  a : Option Addr
  n : Nat
  c : Nat
  r : Nat → Rw
def Sh.val (s : Sh) : Value := .slice s.a s.n s.c
structure Sh.At (w : World) (s : Sh) : Prop where
  le : s.n ≤ s.c
  cap : s.c ≤ maxLen
  rows : RowsAt w s.a s.n s.r
theorem Sh.At.below {w w' : World} {s : Sh} (h : s.At w) (hB : Below w.heap.size w w') : s.At w' := ⟨h.le, h.cap, h.rows.below hB⟩
def badRow (p : Pl) (r : Rw) : Bool := ((r.n : Int) != (p.ns : Int)) || anyB r.n (fun i => badNum (r.z i))
def shelfE (p : Pl) (s : Sh) : Int :=
  if planE p == 0 then (if ((s.n : Int) != (p.nb : Int)) || anyB s.n (fun i => badRow p (s.r i)) then 1 else 0) else planE p
structure RightP (p : Pl) : Prop where
  nb1 : 1 ≤ p.nb
  nb6 : p.nb ≤ 6
  ns1 : 1 ≤ p.ns
  ns3 : p.ns ≤ 3
  bins : ∀ i, i < p.nb → badBin (p.zb i) = false
  sizes : ∀ i, i < p.ns → 1 ≤ p.zs i ∧ p.zs i ≤ 9
theorem rightP {p : Pl} (h : planE p = 0) : RightP p := by
  unfold planE at h
  cases h1 : (inB p.nb 1 6 && inB p.ns 1 3)
  · simp [h1] at h
  · rw [h1] at h
    simp only [if_true] at h
    cases h2 : (anyB p.nb (fun i => badBin (p.zb i)) || anyB p.ns (fun i => badSize (p.zs i)))
    · rw [Bool.and_eq_true] at h1
      have a := inB_true h1.1
      have b := inB_true h1.2
      rw [Bool.or_eq_false_iff] at h2
      refine ⟨by omega, by omega, by omega, by omega, anyB_false h2.1, fun i hi => ?_⟩
      have c := anyB_false h2.2 i hi
      simp only [badSize, Bool.not_eq_false'] at c
      exact inB_true c
    · simp [h2] at h
def shelfErr (p : Pl) (s : Sh) (bin good : Int) : Int := if shelfE p s == 0 then (if inB bin 0 ((p.nb : Int) - 1) && inB good 0 ((p.ns : Int) - 1) then 0 else 3) else shelfE p s
def putE (p : Pl) (s : Sh) (bin good n : Int) : Int :=
  if shelfErr p s bin good == 0 then (if inB n (-((s.r bin.toNat).z good.toNat)) (200 - (s.r bin.toNat).z good.toNat) then 0 else 3) else shelfErr p s bin good
def putZ (s : Sh) (bin good n : Int) (i j : Nat) : Int := if i = bin.toNat ∧ j = good.toNat then (s.r i).z j + n else (s.r i).z j
def PutRes (p : Pl) (s : Sh) (bin good n : Int) (w' : World) (v : Value) : Prop :=
  if putE p s bin good n = 0 then ∃ s' : Sh, v = s'.val ∧ s'.At w' ∧ s'.n = s.n ∧ ∀ i, i < s.n → (s'.r i).n = (s.r i).n ∧ ∀ j, j < (s.r i).n → (s'.r i).z j = putZ s bin good n i j
  else v = .slice none 0 0
theorem PutRes.below {p : Pl} {s : Sh} {bin good n : Int} {w w' : World} {v : Value} (h : PutRes p s bin good n w v) (hB : Below w.heap.size w w') : PutRes p s bin good n w' v := by
  unfold PutRes at *
  split
  · rename_i h0
    rw [if_pos h0] at h
    obtain ⟨s', h1, h2, h3⟩ := h
    exact ⟨s', h1, h2.below hB, h3⟩
  · rename_i h0
    rwa [if_neg h0] at h
end Go.Proofs.Ytbcacebifpagpaa
namespace Go.Proofs.Ytbcacebifpagpaa
open Go.RowKit
set_option linter.unusedVariables false
set_option maxHeartbeats 400000 in
theorem Within_any (n low high : Int) (w : World) :
    Calls Try.prog 37 #[.int .i64 n, .int .i64 low, .int .i64 high] w fun e w' => e = .returned (.bool (inB n low high)) ∧ w' = w := by
  unfold inB
  go_enter Try.func37, Try.ntmps37
  go_wp2
  all_goals go_ret
  all_goals refine ⟨?_, rfl⟩
  all_goals simp
  all_goals omega
set_option maxHeartbeats 400000 in
theorem within_any (n low high : Int) (w : World) :
    Calls Try.prog 35 #[.int .i64 n, .int .i64 low, .int .i64 high] w fun e w' => e = .returned (.bool (inB n low high)) ∧ w' = w := by
  unfold inB
  go_enter Try.func35, Try.ntmps35
  go_wp2
  all_goals go_ret
  all_goals refine ⟨?_, rfl⟩
  all_goals simp
  all_goals omega
set_option maxHeartbeats 400000 in
theorem planCheck1_any (x : Bin) (w : World) :
    Calls Try.prog 38 #[x.val] w fun e w' => e = .returned (.bool (badBin x)) ∧ Below w.heap.size w w' := by
  unfold badBin Bin.val
  go_enter Try.func38, Try.ntmps38
  go_wp2_with (go_at_call 37; refine calls_to (Within_any _ _ _ _) ?_)
  all_goals go_ret
  all_goals exact ⟨by simp [*], (Below.refl _ _).alloc (Nat.le_refl _) _⟩
set_option maxHeartbeats 400000 in
theorem planCheck2_any (x : Int) (w : World) :
    Calls Try.prog 39 #[.int .i64 x] w fun e w' => e = .returned (.bool (badSize x)) ∧ w' = w := by
  unfold badSize
  go_enter Try.func39, Try.ntmps39
  go_wp2_with (go_at_call 37; refine calls_to (Within_any _ _ _ _) ?_)
  all_goals go_ret
  all_goals exact ⟨rfl, rfl⟩
set_option maxHeartbeats 400000 in
theorem idxI (f : Nat) (caps : Array Value) (bad : Nat → Bool)  (a : Option Addr) (n c : Nat) (w : World) (hn : n ≤ c) (hc : c ≤ maxLen) (z : Nat → Int) (hz : IntsAt w a n z)
    (eg : ∀ args w, (callFunc f args).run Try.prog w = .ok (.enter f args) w)
    (hf : Hid (∀ i w1, i < n → Below w.heap.size w w1 → Calls Try.prog f (#[.int .i64 (z i)] ++ caps) w1 fun e w' => e = .returned (.bool (bad i)) ∧ Below w1.heap.size w1 w')) :
    Calls Try.prog 62 #[.slice a n c, .func (.func f) #[] caps] w fun e w' => ∃ r : Int, e = .returned (.int .i64 r) ∧ decide (0 ≤ r) = anyB n bad ∧ Below w.heap.size w w' := by
  unfold maxLen at hc
  go_enter Try.func62, Try.ntmps62
  go_wp2_with fail
  go_loopw [8] (fun i w1 => ∃ k : Nat, k ≤ n ∧ i = .int .i64 k ∧ (∀ j, j < k → bad j = false) ∧ Below w.heap.size w w1) (fun i _ => n - (intOf i).toNat)
  case atStart => exact ⟨0, Nat.zero_le _, rfl, fun j hj => absurd hj (Nat.not_lt_zero _), Below.refl _ _⟩
  case round =>
    obtain ⟨k, hk, rfl, hno, hB⟩ := hrel
    have HN : Hid (∀ j, j < k → bad j = false) := hno
    clear hno
    by_cases hlt : k < n
    · obtain ⟨b, o, rfl, _, hcell⟩ := (hz.below hB) k hlt
      clear hz
      go_wp2_with fail
      refine (hf.out k wr hlt hB).mono ?_
      rintro e w1 ⟨rfl, hB1⟩
      have hB2 := hB.trans (hB1.mono hB.size)
      cases hbad : bad k
      · go_wp2_with fail
        go_roundw
        case rel =>
          refine ⟨k + 1, by omega, by go_num, ?_, hB2⟩
          intro j hj
          by_cases hjk : j = k
          · rw [hjk, hbad]
          · exact HN.out j (by omega)
        case measure => simp [intOf]; omega
      · go_wp2_with fail
        go_ret
        exact ⟨_, rfl, by rw [anyB_yes hlt hbad]; simp, hB2⟩
    · go_wp2_with fail
      go_ret
      have hkn : k = n := by omega
      subst hkn
      exact ⟨_, rfl, by rw [anyB_no HN.out]; decide, hB⟩
set_option maxHeartbeats 400000 in
theorem idxB (f : Nat) (caps : Array Value) (bad : Nat → Bool)  (a : Option Addr) (n c : Nat) (w : World) (hn : n ≤ c) (hc : c ≤ maxLen) (z : Nat → Bin) (hz : BinsAt w a n z)
    (eg : ∀ args w, (callFunc f args).run Try.prog w = .ok (.enter f args) w)
    (hf : Hid (∀ i w1, i < n → Below w.heap.size w w1 → Calls Try.prog f (#[(z i).val] ++ caps) w1 fun e w' => e = .returned (.bool (bad i)) ∧ Below w1.heap.size w1 w')) :
    Calls Try.prog 61 #[.slice a n c, .func (.func f) #[] caps] w fun e w' => ∃ r : Int, e = .returned (.int .i64 r) ∧ decide (0 ≤ r) = anyB n bad ∧ Below w.heap.size w w' := by
  unfold maxLen at hc
  go_enter Try.func61, Try.ntmps61
  go_wp2_with fail
  go_loopw [8] (fun i w1 => ∃ k : Nat, k ≤ n ∧ i = .int .i64 k ∧ (∀ j, j < k → bad j = false) ∧ Below w.heap.size w w1) (fun i _ => n - (intOf i).toNat)
  case atStart => exact ⟨0, Nat.zero_le _, rfl, fun j hj => absurd hj (Nat.not_lt_zero _), Below.refl _ _⟩
  case round =>
    obtain ⟨k, hk, rfl, hno, hB⟩ := hrel
    have HN : Hid (∀ j, j < k → bad j = false) := hno
    clear hno
    by_cases hlt : k < n
    · obtain ⟨b, o, rfl, _, hcell0, hcell1, hcell2, hcell3⟩ := (hz.below hB) k hlt
      clear hz
      go_wp2_with fail
      refine (hf.out k wr hlt hB).mono ?_
      rintro e w1 ⟨rfl, hB1⟩
      have hB2 := hB.trans (hB1.mono hB.size)
      cases hbad : bad k
      · go_wp2_with fail
        go_roundw
        case rel =>
          refine ⟨k + 1, by omega, by go_num, ?_, hB2⟩
          intro j hj
          by_cases hjk : j = k
          · rw [hjk, hbad]
          · exact HN.out j (by omega)
        case measure => simp [intOf]; omega
      · go_wp2_with fail
        go_ret
        exact ⟨_, rfl, by rw [anyB_yes hlt hbad]; simp, hB2⟩
    · go_wp2_with fail
      go_ret
      have hkn : k = n := by omega
      subst hkn
      exact ⟨_, rfl, by rw [anyB_no HN.out]; decide, hB⟩
set_option maxHeartbeats 400000 in
theorem anyI (f : Nat) (caps : Array Value) (bad : Nat → Bool) (a : Option Addr) (n c : Nat) (w : World) (hn : n ≤ c) (hc : c ≤ maxLen) (z : Nat → Int) (hz : IntsAt w a n z)
    (eg : ∀ args w, (callFunc f args).run Try.prog w = .ok (.enter f args) w)
    (hf : Hid (∀ i w1, i < n → Below w.heap.size w w1 → Calls Try.prog f (#[.int .i64 (z i)] ++ caps) w1 fun e w' => e = .returned (.bool (bad i)) ∧ Below w1.heap.size w1 w')) :
    Calls Try.prog 41 #[.slice a n c, .func (.func f) #[] caps] w fun e w' => e = .returned (.bool (anyB n bad)) ∧ Below w.heap.size w w' := by
  have hc0 := hc
  unfold maxLen at hc
  go_enter Try.func41, Try.ntmps41
  go_wp2_with fail
  refine (idxI f caps bad a n c w hn hc0 z hz eg hf).mono ?_
  rintro e w1 ⟨r, rfl, hr, hB⟩
  have HR : Hid (decide (0 ≤ r) = anyB n bad) := hr
  clear hr
  go_wp2_with fail
  go_ret
  exact ⟨by rw [← HR.out]; rfl, hB⟩
set_option maxHeartbeats 400000 in
theorem anyBin (f : Nat) (caps : Array Value) (bad : Nat → Bool) (a : Option Addr) (n c : Nat) (w : World) (hn : n ≤ c) (hc : c ≤ maxLen) (z : Nat → Bin) (hz : BinsAt w a n z)
    (eg : ∀ args w, (callFunc f args).run Try.prog w = .ok (.enter f args) w)
    (hf : Hid (∀ i w1, i < n → Below w.heap.size w w1 → Calls Try.prog f (#[(z i).val] ++ caps) w1 fun e w' => e = .returned (.bool (bad i)) ∧ Below w1.heap.size w1 w')) :
    Calls Try.prog 40 #[.slice a n c, .func (.func f) #[] caps] w fun e w' => e = .returned (.bool (anyB n bad)) ∧ Below w.heap.size w w' := by
  have hc0 := hc
  unfold maxLen at hc
  go_enter Try.func40, Try.ntmps40
  go_wp2_with fail
  refine (idxB f caps bad a n c w hn hc0 z hz eg hf).mono ?_
  rintro e w1 ⟨r, rfl, hr, hB⟩
  have HR : Hid (decide (0 ≤ r) = anyB n bad) := hr
  clear hr
  go_wp2_with fail
  go_ret
  exact ⟨by rw [← HR.out]; rfl, hB⟩
end Go.Proofs.Ytbcacebifpagpaa
namespace Go.Proofs.Ytbcacebifpagpaa
open Go.RowKit Go.Shelf
set_option linter.unusedVariables false
theorem bcell {W w1 : World} (hb : Below W.heap.size W w1) : (∀ b o, b < W.heap.size → w1.cell? ⟨b, o, none⟩ = W.cell? ⟨b, o, none⟩) ∧ (∀ b o, b < W.heap.size → w1.frozen? ⟨b, o, none⟩ = W.frozen? ⟨b, o, none⟩) :=
  ⟨fun b o h => hb.cell (p := ⟨b, o, none⟩) h, fun b o h => hb.frozen (p := ⟨b, o, none⟩) h⟩
set_option maxHeartbeats 400000 in
theorem planCheck_any (p : Pl) (w : World) (hp : p.At w) :
    Calls Try.prog 13 #[p.val] w fun e w' => e = .returned (.int .i64 (planE p)) ∧ Below w.heap.size w w' := by
  obtain ⟨leb, capb, bins, les, caps, sizes⟩ := hp
  have capb0 := capb
  have caps0 := caps
  unfold Pl.val
  unfold maxLen at capb caps
  have b1 := bins.below ((Below.refl w.heap.size w).alloc (Nat.le_refl _) (.cells #[.slice p.ab p.nb p.cb, .slice p.sa p.ns p.cs] 25))
  cases h1 : inB p.nb 1 6
  · go_enter Try.func13, Try.ntmps13
    go_wp2_with (go_at_call 37; refine calls_to (Within_any _ _ _ _) ?_)
    go_ret
    exact ⟨by simp [planE, h1], (Below.refl _ _).alloc (Nat.le_refl _) _⟩
  cases h2 : inB p.ns 1 3
  · go_enter Try.func13, Try.ntmps13
    go_wp2_with (go_at_call 37; refine calls_to (Within_any _ _ _ _) ?_)
    go_ret
    exact ⟨by simp [planE, h2], (Below.refl _ _).alloc (Nat.le_refl _) _⟩
  go_enter Try.func13, Try.ntmps13
  go_wp2_with (go_at_call 37; refine calls_to (Within_any _ _ _ _) ?_)
  refine (anyBin 38 #[] (fun i => badBin (p.zb i)) _ _ _ _ leb capb0 p.zb b1 (enters_of Try.func38 (by kernel_rfl) rfl) (fun i w1 _ _ => by rw [Array.append_empty]; exact planCheck1_any _ _)).mono ?_
  rintro e w1 ⟨rfl, hB⟩
  obtain ⟨hc, hfz⟩ := bcell hB
  have hB0 : Below w.heap.size w w1 := ((Below.refl w.heap.size w).alloc (Nat.le_refl _) _).trans (hB.mono (by simp))
  have s1 := sizes.below hB0
  cases h3 : anyB p.nb (fun i => badBin (p.zb i))
  · go_wp2_with fail
    refine (anyI 39 #[] (fun i => badSize (p.zs i)) _ _ _ _ les caps0 p.zs s1 (enters_of Try.func39 (by kernel_rfl) rfl) (fun i w2 _ _ => by rw [Array.append_empty]; exact (planCheck2_any _ _).mono fun _ _ h => ⟨h.1, h.2 ▸ Below.refl _ _⟩)).mono ?_
    rintro e w2 ⟨rfl, hB2⟩
    have hB3 := hB0.trans (hB2.mono hB0.size)
    cases h4 : anyB p.ns (fun i => badSize (p.zs i))
    · go_wp2_with fail
      go_ret
      exact ⟨by simp [planE, h1, h2, h3, h4], hB3⟩
    · go_wp2_with fail
      go_ret
      exact ⟨by simp [planE, h1, h2, h4], hB3⟩
  · go_wp2_with fail
    go_ret
    exact ⟨by simp [planE, h1, h2, h3], hB0⟩
set_option maxHeartbeats 1000000 in
theorem refCheckPlan_any (p : Pl) (w : World) (hp : p.At w) :
    Calls Try.prog 10 #[p.val] w fun e w' => e = .returned (.int .i64 (planE p)) ∧ Below w.heap.size w w' := by
  obtain ⟨ab, nb, cb, zb, sa, ns, cs, zs⟩ := p
  obtain ⟨leb, capb, bins, les, caps, sizes⟩ := hp
  dsimp only at leb capb bins les caps sizes
  simp only [Pl.val]
  unfold maxLen at capb caps
  cases h1 : inB nb 1 6
  · go_enter Try.func10, Try.ntmps10
    go_wp2_with (go_at_call 35; refine calls_to (within_any _ _ _ _) ?_)
    go_ret
    exact ⟨by simp [planE, h1], (Below.refl _ _).alloc (Nat.le_refl _) _⟩
  cases h2 : inB ns 1 3
  · go_enter Try.func10, Try.ntmps10
    go_wp2_with (go_at_call 35; refine calls_to (within_any _ _ _ _) ?_)
    go_ret
    exact ⟨by simp [planE, h2], (Below.refl _ _).alloc (Nat.le_refl _) _⟩
  have H12 : Hid (inB nb 1 6 = true ∧ inB ns 1 3 = true) := ⟨h1, h2⟩
  go_enter Try.func10, Try.ntmps10
  go_wp2_with (go_at_call 35; refine calls_to (within_any _ _ _ _) ?_)
  clear h1 h2
  go_loopw [3] (fun i w1 => ∃ k : Nat, k ≤ nb ∧ i = .int .i64 k ∧ (∀ j, j < k → badBin (zb j) = false) ∧ Below (w.heap.size + 1) (w.alloc (.cells #[.slice ab nb cb, .slice sa ns cs] 25)) w1) (fun i _ => nb - (intOf i).toNat)
  case atStart => exact ⟨0, Nat.zero_le _, rfl, fun j hj => absurd hj (Nat.not_lt_zero _), Below.refl _ _⟩
  case round =>
    obtain ⟨k, hk, rfl, hno, hB⟩ := hrel
    have HN : Hid (∀ j, j < k → badBin (zb j) = false) := hno
    clear hno
    have hB' : Below w.heap.size w wr := ((Below.refl w.heap.size w).alloc (Nat.le_refl _) _).trans (hB.mono (by omega))
    have hs : w.heap.size + 1 ≤ wr.heap.size := by have := hB.size; simpa using this
    have c0 : wr.cell? ⟨w.heap.size, 0, none⟩ = some (.slice ab nb cb) := (hB.cell (p := ⟨w.heap.size, 0, none⟩) (by simp)).trans (by simp)
    have c1 : wr.cell? ⟨w.heap.size, 1, none⟩ = some (.slice sa ns cs) := (hB.cell (p := ⟨w.heap.size, 1, none⟩) (by simp)).trans (by simp)
    by_cases hlt : k < nb
    · obtain ⟨b, o, rfl, hb, z0, z1, z2, z3⟩ := (bins.below hB') k hlt
      have HB := badBin_eq (zb k)
      cases hbad : badBin (zb k)
      · rw [hbad] at HB
        have hh : inB (zb k).room 0 1000 = true ∧ inB (zb k).high 0 200 = true ∧ inB (zb k).low 0 (zb k).high = true := by simpa [and_assoc] using HB.symm
        obtain ⟨i1, i2, i3⟩ := hh
        clear HB
        go_wp2_with (go_at_call 35; refine calls_to (within_any _ _ _ _) ?_)
        go_roundw
        case rel =>
          refine ⟨k + 1, by omega, by go_num, ?_, hB.alloc (by simpa using hs) _⟩
          intro j hj
          by_cases hjk : j = k
          · rw [hjk, hbad]
          · exact HN.out j (by omega)
        case measure => simp [intOf]; omega
      · rw [hbad] at HB
        have h3 : Hid (anyB nb (fun i => badBin (zb i)) = true) := anyB_yes hlt hbad
        cases i1 : inB (zb k).room 0 1000
        · clear HB
          go_wp2_with (go_at_call 35; refine calls_to (within_any _ _ _ _) ?_)
          go_ret
          exact ⟨by simp [planE, H12.out.1, H12.out.2, h3.out], hB'.alloc (by omega) _⟩
        · cases i2 : inB (zb k).high 0 200
          · clear HB
            go_wp2_with (go_at_call 35; refine calls_to (within_any _ _ _ _) ?_)
            go_ret
            exact ⟨by simp [planE, H12.out.1, H12.out.2, h3.out], hB'.alloc (by omega) _⟩
          · have i3 : inB (zb k).low 0 (zb k).high = false := by simpa [i1, i2] using HB.symm
            clear HB
            go_wp2_with (go_at_call 35; refine calls_to (within_any _ _ _ _) ?_)
            go_ret
            exact ⟨by simp [planE, H12.out.1, H12.out.2, h3.out], hB'.alloc (by omega) _⟩
    · go_wp2_with fail
      have h3 : anyB nb (fun i => badBin (zb i)) = false := anyB_no fun j hj => HN.out j (by omega)
      have H3 : Hid (anyB nb (fun i => badBin (zb i)) = false) := h3
      clear h3 hlt HN bins
      go_loopw [5] (fun i w1 => ∃ k : Nat, k ≤ ns ∧ i = .int .i64 k ∧ (∀ j, j < k → badSize (zs j) = false) ∧ Below (w.heap.size + 1) (w.alloc (.cells #[.slice ab nb cb, .slice sa ns cs] 25)) w1) (fun i _ => ns - (intOf i).toNat)
      case atStart => exact ⟨0, Nat.zero_le _, rfl, fun j hj => absurd hj (Nat.not_lt_zero _), hB⟩
      case round =>
        clear hB hB' hs c0 c1
        obtain ⟨k, hk, rfl, hno, hB⟩ := hrel
        have HN : Hid (∀ j, j < k → badSize (zs j) = false) := hno
        clear hno
        have hB' : Below w.heap.size w wr := ((Below.refl w.heap.size w).alloc (Nat.le_refl _) _).trans (hB.mono (by omega))
        have c1 : wr.cell? ⟨w.heap.size, 1, none⟩ = some (.slice sa ns cs) := (hB.cell (p := ⟨w.heap.size, 1, none⟩) (by simp)).trans (by simp)
        by_cases hlt : k < ns
        · obtain ⟨b, o, rfl, hb, z0⟩ := (sizes.below hB') k hlt
          cases i1 : inB (zs k) 1 9
          · have h4 : Hid (anyB ns (fun i => badSize (zs i)) = true) := anyB_yes hlt (by simp [badSize, i1])
            go_wp2_with (go_at_call 35; refine calls_to (within_any _ _ _ _) ?_)
            go_ret
            exact ⟨by simp [planE, H12.out.1, H12.out.2, h4.out], hB'⟩
          · have hbad : Hid (badSize (zs k) = false) := by show badSize (zs k) = false; simp [badSize, i1]
            go_wp2_with (go_at_call 35; refine calls_to (within_any _ _ _ _) ?_)
            go_roundw
            case rel =>
              refine ⟨k + 1, by omega, by go_num, ?_, hB⟩
              intro j hj
              by_cases hjk : j = k
              · rw [hjk, hbad.out]
              · exact HN.out j (by omega)
            case measure => simp [intOf]; omega
        · go_wp2_with fail
          go_ret
          have h4 : anyB ns (fun i => badSize (zs i)) = false := anyB_no fun j hj => HN.out j (by omega)
          exact ⟨by simp [planE, H12.out.1, H12.out.2, H3.out, h4], hB'⟩
end Go.Proofs.Ytbcacebifpagpaa
namespace Go.Proofs.Ytbcacebifpagpaa
open Go.RowKit
set_option linter.unusedVariables false
def Blk (w : World) (g : Nat) (e : TypeId) (n : Nat) (f : Nat → Value) : Prop :=
  ∃ cur, w.heap[g]? = some (.cells cur e (0, 0)) ∧ n ≤ cur.size ∧ ∀ j, j < n → cur[j]? = some (f j)
theorem Blk.lt {w : World} {g : Nat} {e : TypeId} {n : Nat} {f : Nat → Value} (h : Blk w g e n f) : g < w.heap.size := by
  obtain ⟨cur, hc, _⟩ := h
  exact (Array.getElem?_eq_some_iff.1 hc).1
theorem Blk.cell {w : World} {g : Nat} {e : TypeId} {n : Nat} {f : Nat → Value} (h : Blk w g e n f) {j : Nat} (hj : j < n) : w.cell? ⟨g, j, none⟩ = some (f j) := by
  obtain ⟨cur, hc, _, hf⟩ := h
  simp [World.cell?, hc, hf j hj]
theorem Blk.frozen {w : World} {g : Nat} {e : TypeId} {n : Nat} {f : Nat → Value} (h : Blk w g e n f) (j : Nat) : w.frozen? ⟨g, j, none⟩ = false := by
  obtain ⟨cur, hc, _, hf⟩ := h
  simp [World.frozen?, hc]
theorem Blk.same {w w' : World} {g : Nat} {e : TypeId} {n : Nat} {f : Nat → Value} (h : Blk w g e n f) (hs : w'.heap[g]? = w.heap[g]?) : Blk w' g e n f := by
  obtain ⟨cur, hc, hr⟩ := h
  exact ⟨cur, hs.trans hc, hr⟩
theorem Blk.below {w w' : World} {g : Nat} {e : TypeId} {n : Nat} {f : Nat → Value} (h : Blk w g e n f) (hB : Below w.heap.size w w') : Blk w' g e n f := h.same (hB.block g h.lt)
theorem Blk.grown {w w' : World} {g : Nat} {e : TypeId} {n : Nat} {f : Nat → Value} {row : Option Nat} (h : Blk w g e n f) (hg : w.grownBy w' row) (hne : some g ≠ row) : Blk w' g e n f := h.same (hg.block g h.lt hne)
theorem Blk.other {w : World} {g : Nat} {e : TypeId} {n : Nat} {f : Nat → Value} (h : Blk w g e n f) {a : Addr} (hne : g ≠ a.block) (v : Value) : Blk (w.setCell a v) g e n f := h.same (Below.heap_setCell w a v g hne)
theorem Blk.set {w : World} {g : Nat} {e : TypeId} {n : Nat} {f : Nat → Value} (h : Blk w g e n f) (j : Nat) (v : Value) : Blk (w.setCell ⟨g, j, none⟩ v) g e n (fun i => if i = j then v else f i) := by
  obtain ⟨cur, hc, hn, hr⟩ := h
  refine ⟨cur.setIfInBounds j v, ?_, by simpa using hn, ?_⟩
  · simp [World.setCell, Array.getElem?_modify, hc]
  · intro i hi
    rw [Array.getElem?_setIfInBounds]
    by_cases hij : i = j
    · subst hij
      simp; omega
    · rw [if_neg (fun e => hij e.symm), hr i hi]; simp [hij]
theorem Blk.new (w : World) (cur : Array Value) (e : TypeId) : Blk (w.alloc (.cells cur e)) w.heap.size e cur.size (fun j => cur.getD j default) := by
  refine ⟨cur, heap_alloc_new w _, Nat.le_refl _, fun j hj => ?_⟩
  simp [Array.getD, hj]
theorem Blk.ofOwns {w : World} {base : Nat} {e : TypeId} {size : Nat} {v : Value} {n : Nat} {xs : List Value} (h : w.ownsRow base e size v n xs) (hn : v ≠ .slice none 0 0) :
    ∃ g c, v = .slice (some ⟨g, 0, none⟩) n c ∧ n ≤ c ∧ c ≤ maxLen ∧ base ≤ g ∧ Blk w g e (n * size) (fun j => xs.getD j default) := by
  obtain ⟨hl, h | ⟨g, cap, cur, rfl, hb, hg, h1, h2, h3, h4⟩⟩ := h
  · exact absurd h.1 hn
  · refine ⟨g, cap, rfl, h1, h2, hb, cur, hg, by rw [h3]; exact Nat.mul_le_mul_right _ h1, fun j hj => ?_⟩
    have : xs[j]? = cur[j]? := by
      rw [← h4, List.getElem?_take, if_pos hj]; simp
    rw [← this, List.getElem?_eq_getElem (by omega)]
    simp [List.getD, List.getElem?_eq_getElem (show j < xs.length by omega)]
theorem Blk.mk' {w : World} {g : Nat} {cur : Array Value} {e : TypeId} {f : Nat → Value} (hg : g = w.heap.size) (hf : f = fun j => cur.getD j default) : Blk (w.alloc (.cells cur e)) g e cur.size f := by
  subst hg hf
  exact Blk.new w cur e
theorem Blk.alloc {w : World} {g : Nat} {e : TypeId} {n : Nat} {f : Nat → Value} (h : Blk w g e n f) (o : Obj) : Blk (w.alloc o) g e n f := h.below ((Below.refl _ _).alloc (Nat.le_refl _) o)
theorem Blk.ints {w : World} {g : Nat} {e : TypeId} {n : Nat} {z : Nat → Int} (h : Blk w g e n (fun j => .int .i64 (z j))) : IntsAt w (some ⟨g, 0, none⟩) n z := fun i hi =>
  ⟨g, 0, rfl, h.lt, by rw [Nat.zero_add]; exact h.cell hi⟩
end Go.Proofs.Ytbcacebifpagpaa
namespace Go.Proofs.Ytbcacebifpagpaa
open Go.RowKit Go.Shelf
set_option linter.unusedVariables false
theorem infoInt : (Try.prog.info? 3).map (fun i => (i.zero, i.size, i.bytes)) = some (some (.int .i64 0), 1, 8) := by kernel_rfl
end Go.Proofs.Ytbcacebifpagpaa
namespace Go.Proofs.Ytbcacebifpagpaa
open Go.RowKit Go.Shelf
set_option linter.unusedVariables false
def yardZ : Nat → Bin
  | 0 => ⟨false, 100, 0, 0⟩
  | 1 => ⟨true, 30, 4, 8⟩
  | _ => ⟨false, 60, 0, 0⟩
def yardS : Nat → Int
  | 0 => 2
  | _ => 3
def yardP (g1 g2 : Nat) : Pl := ⟨some ⟨g1, 0, none⟩, 3, 3, yardZ, some ⟨g2, 0, none⟩, 2, 2, yardS⟩
def yardF : Nat → Value := fun j => (#[.bool false, .int .i64 100, .int .i64 0, .int .i64 0, .bool true, .int .i64 30, .int .i64 4, .int .i64 8, .bool false, .int .i64 60, .int .i64 0, .int .i64 0] : Array Value).getD j default
def yardG : Nat → Value := fun j => (#[.int .i64 2, .int .i64 3] : Array Value).getD j default
theorem yardAt {w : World} {g1 g2 : Nat} (h1 : Blk w g1 35 12 yardF) (h2 : Blk w g2 3 2 yardG) : (yardP g1 g2).At w := by
  refine ⟨by simp [yardP], by simp [yardP, maxLen], fun i hi => ?_, by simp [yardP], by simp [yardP, maxLen], fun i hi => ?_⟩
  · have hi' : i < 3 := hi
    refine ⟨g1, 0, rfl, h1.lt, ?_⟩
    match i, hi' with
    | 0, _ => exact ⟨h1.cell (j := 0) (by decide), h1.cell (j := 1) (by decide), h1.cell (j := 2) (by decide), h1.cell (j := 3) (by decide)⟩
    | 1, _ => exact ⟨h1.cell (j := 4) (by decide), h1.cell (j := 5) (by decide), h1.cell (j := 6) (by decide), h1.cell (j := 7) (by decide)⟩
    | 2, _ => exact ⟨h1.cell (j := 8) (by decide), h1.cell (j := 9) (by decide), h1.cell (j := 10) (by decide), h1.cell (j := 11) (by decide)⟩
  · have hi' : i < 2 := hi
    refine ⟨g2, 0, rfl, h2.lt, ?_⟩
    match i, hi' with
    | 0, _ => exact h2.cell (j := 0) (by decide)
    | 1, _ => exact h2.cell (j := 1) (by decide)
set_option maxHeartbeats 1000000 in
theorem yard_any (w : World) :
    Calls Try.prog 36 #[] w fun e w' => ∃ g1 g2, e = .returned (yardP g1 g2).val ∧ w.heap.size ≤ g1 ∧ g1 ≠ g2 ∧ Blk w' g1 35 12 yardF ∧ Blk w' g2 3 2 yardG ∧ Below w.heap.size w w' := by
  go_enter Try.func36, Try.ntmps36
  go_wp2
  refine bodyPost_ret (v := (yardP (w.heap.size + 1) (w.heap.size + 1 + 1)).val) (by simp [results, Try.results36, go_sem, yardP, Pl.val]) rfl ?_
  refine ⟨w.heap.size + 1, w.heap.size + 1 + 1, rfl, by omega, by omega, Blk.alloc (Blk.mk' (by simp) rfl) _, Blk.mk' (by simp) rfl, ?_⟩
  exact (((Below.refl _ _).alloc (Nat.le_refl _) _).alloc (by simp) _).alloc (by simp; omega) _
end Go.Proofs.Ytbcacebifpagpaa
namespace Go.Proofs.Ytbcacebifpagpaa
open Go.RowKit Go.Shelf Go.Sort
set_option linter.unusedVariables false
set_option maxRecDepth 100000 in
set_option maxHeartbeats 400000 in
theorem SameInts_yes (r s : Rw) (w : World) (hr : r.At w) (hs : s.At w) (hn : r.n = s.n) (hz : ∀ j, j < r.n → r.z j = s.z j) :
    Calls Try.prog 14 #[r.val, s.val] w fun e w' => e = .returned (.bool true) ∧ Below w.heap.size w w' := by
  obtain ⟨ra, rn, rc, rz⟩ := r
  obtain ⟨sa, sn, sc, sz⟩ := s
  obtain ⟨rle, rcap, rints⟩ := hr
  obtain ⟨sle, scap, sints⟩ := hs
  dsimp only at *
  subst hn
  have HZ : Hid _ := hz
  clear hz
  unfold maxLen at rcap scap
  simp only [Rw.val]
  go_enter Try.func14, Try.ntmps14
  go_wp2_with fail
  go_loopw [5] (fun i wk => ∃ k : Nat, k ≤ rn ∧ i = .int .i64 k ∧ Below w.heap.size w wk) (fun i _ => rn - (intOf i).toNat)
  case atStart => exact ⟨0, Nat.zero_le _, rfl, Below.refl _ _⟩
  case round =>
    obtain ⟨k, hk, rfl, hB⟩ := hrel
    by_cases hlt : k < rn
    · obtain ⟨b1, o1, rfl, hb1, y0⟩ := (rints.below hB) k hlt
      obtain ⟨b2, o2, rfl, hb2, x0⟩ := (sints.below hB) k hlt
      rw [← HZ.out k hlt] at x0
      generalize rz k = Z at y0 x0
      go_wp2_with fail
      go_quiet (fail)
      go_wp2_with fail
      go_roundw
      case rel => exact ⟨k + 1, by omega, by go_num, below_drewN hB _⟩
      case measure => simp [intOf]; omega
    · go_wp2_with fail
      go_ret
      exact ⟨rfl, hB⟩
end Go.Proofs.Ytbcacebifpagpaa
namespace Go.Proofs.Ytbcacebifpagpaa
open Go.RowKit Go.Shelf
set_option linter.unusedVariables false
def frL (p : Pl) (f : Bool) (k : Nat) : List Int := ((List.range k).filter (fun i => (p.zb i).front == f)).map Int.ofNat
theorem frL_hit {p : Pl} {f : Bool} {k : Nat} (h : (p.zb k).front = f) : frL p f (k + 1) = frL p f k ++ [(k : Int)] := by simp [frL, List.range_succ, h]
theorem frL_miss {p : Pl} {f : Bool} {k : Nat} (h : ¬ (p.zb k).front = f) : frL p f (k + 1) = frL p f k := by simp [frL, List.range_succ, h]
theorem frL_len (p : Pl) (f : Bool) (k : Nat) : (frL p f k).length ≤ k := by
  unfold frL
  rw [List.length_map]
  exact Nat.le_trans (List.length_filter_le _ _) (by simp)
def wayL (p : Pl) : List Int := frL p true p.nb ++ frL p false p.nb
theorem Rw.ofOwns {w : World} {base : Nat} {v : Value} {xs : List Int} (h : w.ownsRow base 3 1 v xs.length (xs.map (Value.int .i64))) : ∃ r : Rw, v = r.val ∧ r.At w ∧ r.n = xs.length ∧ ∀ j, j < r.n → r.z j = xs.getD j 0 := by
  by_cases hv : v = .slice Option.none 0 0
  · subst hv
    have h0 : xs.length = 0 := by
      rcases h.2 with ⟨_, h0⟩ | ⟨g2, cap2, cur2, e, _⟩
      · exact h0
      · cases e
    exact ⟨⟨Option.none, 0, 0, fun _ => 0⟩, rfl, ⟨Nat.le_refl _, Nat.zero_le _, fun i hi => absurd hi (Nat.not_lt_zero _)⟩, h0.symm, fun j hj => absurd hj (Nat.not_lt_zero _)⟩
  · obtain ⟨g, c, rfl, h1, h2, h3, h4⟩ := Blk.ofOwns h hv
    rw [Nat.mul_one] at h4
    refine ⟨⟨some ⟨g, 0, Option.none⟩, xs.length, c, fun j => xs.getD j 0⟩, rfl, ⟨h1, h2, fun i hi => ?_⟩, rfl, fun j _ => rfl⟩
    have hi' : i < xs.length := hi
    refine ⟨g, 0, rfl, h4.lt, ?_⟩
    have := h4.cell (j := i) hi'
    rw [Nat.zero_add, this]
    simp [List.getD, hi']
set_option maxRecDepth 100000 in
set_option maxHeartbeats 2000000 in
theorem WayOfOwn_any (p : Pl) (w : World) (hp : p.At w) (hn : p.nb ≤ 6) :
    Calls Try.prog 11 #[p.val] w fun e w' => ∃ v, e = .returned v ∧ w'.ownsRow w.heap.size 3 1 v (wayL p).length ((wayL p).map (Value.int .i64)) ∧ Below w.heap.size w w' := by
  have leb := hp.leb
  have capb := hp.capb
  unfold maxLen at capb
  have F : ∃ W0, w.alloc (.cells #[.slice p.ab p.nb p.cb, .slice p.sa p.ns p.cs] 25) = W0 ∧ Below w.heap.size w W0 ∧ W0.heap.size = w.heap.size + 1 ∧ ∀ w1, Below W0.heap.size W0 w1 → w1.cell? ⟨w.heap.size, 0, Option.none⟩ = some (.slice p.ab p.nb p.cb) ∧ w.heap.size < w1.heap.size :=
    ⟨_, rfl, (Below.refl w.heap.size w).alloc (Nat.le_refl _) _, by simp, fun w1 h => ⟨(h.cell (p := ⟨w.heap.size, 0, Option.none⟩) (by simp)).trans (by simp), by have := h.size; simp at this; omega⟩⟩
  obtain ⟨W0, hW, hB0, hsz0, hcell⟩ := F
  have HW : Hid (w.alloc (.cells #[.slice p.ab p.nb p.cb, .slice p.sa p.ns p.cs] 25) = W0) := hW
  have HC : Hid (∀ w1, Below W0.heap.size W0 w1 → w1.cell? ⟨w.heap.size, 0, Option.none⟩ = some (.slice p.ab p.nb p.cb) ∧ w.heap.size < w1.heap.size) := hcell
  have HP : Hid (∀ w1, Below W0.heap.size W0 w1 → p.At w1) := fun w1 h => (hp.below hB0).below h
  have HZ : Hid (W0.heap.size = w.heap.size + 1) := hsz0
  clear hW hcell hsz0
  obtain ⟨i1, hj, hy0, hy1, hy2⟩ := info_parts infoInt
  simp only [Pl.val]
  go_enter Try.func11, Try.ntmps11
  go_wp2_with fail
  rw [HW.out]
  go_loopw [3, 4] (fun v i wk => ∃ k : Nat, k ≤ p.nb ∧ i = .int .i64 k ∧ wk.ownsRow W0.heap.size 3 1 v (frL p true k).length ((frL p true k).map (Value.int .i64)) ∧ Below W0.heap.size W0 wk) (fun _ i _ => p.nb - (intOf i).toNat)
  case atStart => exact ⟨0, Nat.zero_le _, rfl, World.ownsRow_nil _ _ _ _, Below.refl _ _⟩
  case round =>
    obtain ⟨k, hk, rfl, ho, hB⟩ := hrel
    obtain ⟨c0, hlt0⟩ := HC.out _ hB
    have HO : Hid (wr.ownsRow W0.heap.size 3 1 u3 (frL p true k).length ((frL p true k).map (Value.int .i64))) := ho
    clear ho
    by_cases hlt : k < p.nb
    · obtain ⟨b, o, hab, hb, z0, z1, z2, z3⟩ := (HP.out _ hB).bins k hlt
      rw [hab] at c0
      clear hab
      have m1 : (0 : Int) ≤ (k : Int) := by omega
      cases hf : (p.zb k).front
      · rw [hf] at z0
        go_wp2_with fail
        go_roundw
        case rel => exact ⟨k + 1, by omega, by go_num, by rw [frL_miss (by rw [hf]; decide)]; exact HO.out, hB⟩
        case measure => simp [intOf]; omega
      · rw [hf] at z0
        have hfl := frL_len p true k
        go_wp2_with (at_builtin; refine wpList_append_own _ rfl (.tmp 19) (.tmp 21) 23 rfl W0.heap.size 3 i1 (.int .i64 0) 1 8 Try.underlying23 hj hy0 hy1 hy2 rfl (by decide) _ _ _ rfl (HO.out.alloc _) ⟨wr.heap.size, 0, Option.none⟩ 1 1 [.int .i64 k] rfl rfl ?c1 ?c2 ?c3 ?c4 ?c5 ?_)
        case c1 =>
          intro j u hj
          match j, hj with
          | 0, hj => simp at hj; subst hj; simp [Addr.add]
        case c2 => intro u hu; simp at hu; subst hu; rfl
        case c3 => unfold maxLen; omega
        case c4 => omega
        case c5 => have := hB.size; simp; omega
        intro v2 w2 hown2 hgrow2 hnil2
        have hlt2 := HO.out.lt
        have hB2 : Below W0.heap.size W0 w2 := (hB.alloc (by have := hB.size; omega) _).grown hgrow2 (by have := hB.size; simp; omega) (fun q hq => (hlt2 q hq).1)
        have HN : Hid (w2.ownsRow W0.heap.size 3 1 v2 (frL p true (k + 1)).length ((frL p true (k + 1)).map (Value.int .i64))) := by
          show w2.ownsRow W0.heap.size 3 1 v2 (frL p true (k + 1)).length ((frL p true (k + 1)).map (Value.int .i64))
          rw [frL_hit hf]
          simpa using hown2
        clear hown2 hgrow2 hnil2 hlt2
        go_wp2_with fail
        go_roundw
        case rel => exact ⟨k + 1, by omega, by go_num, HN.out, hB2⟩
        case measure => simp [intOf]; omega
    · have hkn : k = p.nb := by omega
      subst hkn
      go_wp2_with fail
      go_loopw [3, 5] (fun v i wk => ∃ k : Nat, k ≤ p.nb ∧ i = .int .i64 k ∧ wk.ownsRow W0.heap.size 3 1 v (frL p true p.nb ++ frL p false k).length ((frL p true p.nb ++ frL p false k).map (Value.int .i64)) ∧ Below W0.heap.size W0 wk) (fun _ i _ => p.nb - (intOf i).toNat)
      case atStart => exact ⟨0, Nat.zero_le _, rfl, by simpa [frL] using HO.out, hB⟩
      case round =>
        clear HO hB c0 hlt0 hk hlt
        obtain ⟨k, hk, rfl, ho, hB⟩ := hrel
        obtain ⟨c0, hlt0⟩ := HC.out _ hB
        have HO : Hid (wr.ownsRow W0.heap.size 3 1 u3 (frL p true p.nb ++ frL p false k).length ((frL p true p.nb ++ frL p false k).map (Value.int .i64))) := ho
        clear ho
        by_cases hlt : k < p.nb
        · obtain ⟨b, o, hab, hb, z0, z1, z2, z3⟩ := (HP.out _ hB).bins k hlt
          rw [hab] at c0
          clear hab
          have m1 : (0 : Int) ≤ (k : Int) := by omega
          cases hf : (p.zb k).front
          · rw [hf] at z0
            have hfl := frL_len p false k
            have hfl2 := frL_len p true p.nb
            go_wp2_with (at_builtin; refine wpList_append_own _ rfl (.tmp 37) (.tmp 39) 23 rfl W0.heap.size 3 i1 (.int .i64 0) 1 8 Try.underlying23 hj hy0 hy1 hy2 rfl (by decide) _ _ _ rfl (HO.out.alloc _) ⟨wr.heap.size, 0, Option.none⟩ 1 1 [.int .i64 k] rfl rfl ?c1 ?c2 ?c3 ?c4 ?c5 ?_)
            case c1 =>
              intro j u hj
              match j, hj with
              | 0, hj => simp at hj; subst hj; simp [Addr.add]
            case c2 => intro u hu; simp at hu; subst hu; rfl
            case c3 => rw [List.length_append]; unfold maxLen; omega
            case c4 => rw [List.length_append]; omega
            case c5 => have := hB.size; simp; omega
            intro v2 w2 hown2 hgrow2 hnil2
            have hlt2 := HO.out.lt
            have hB2 : Below W0.heap.size W0 w2 := (hB.alloc (by have := hB.size; omega) _).grown hgrow2 (by have := hB.size; simp; omega) (fun q hq => (hlt2 q hq).1)
            have HN : Hid (w2.ownsRow W0.heap.size 3 1 v2 (frL p true p.nb ++ frL p false (k + 1)).length ((frL p true p.nb ++ frL p false (k + 1)).map (Value.int .i64))) := by
              show w2.ownsRow W0.heap.size 3 1 v2 (frL p true p.nb ++ frL p false (k + 1)).length ((frL p true p.nb ++ frL p false (k + 1)).map (Value.int .i64))
              rw [frL_hit hf]
              simpa [Nat.add_assoc] using hown2
            clear hown2 hgrow2 hnil2 hlt2
            go_wp2_with fail
            go_roundw
            case rel => exact ⟨k + 1, by omega, by go_num, HN.out, hB2⟩
            case measure => simp [intOf]; omega
          · rw [hf] at z0
            go_wp2_with fail
            go_roundw
            case rel => exact ⟨k + 1, by omega, by go_num, by rw [frL_miss (by rw [hf]; decide)]; exact HO.out, hB⟩
            case measure => simp [intOf]; omega
        · go_wp2_with fail
          go_ret
          have hkn : k = p.nb := by omega
          subst hkn
          exact ⟨_, rfl, ⟨HO.out.1, HO.out.2.imp_right fun ⟨g, cap, cur, h1, h2, h3⟩ => ⟨g, cap, cur, h1, Nat.le_trans hB0.size h2, h3⟩⟩, hB0.trans (hB.mono hB0.size)⟩
theorem WayOf_any (p : Pl) (w : World) (hp : p.At w) (hn : p.nb ≤ 6) :
    Calls Try.prog 11 #[p.val] w fun e w' => ∃ r : Rw, e = .returned r.val ∧ r.At w' ∧ r.n = (wayL p).length ∧ (∀ j, j < r.n → r.z j = (wayL p).getD j 0) ∧ Below w.heap.size w w' :=
  (WayOfOwn_any p w hp hn).mono fun e w' h => by
    obtain ⟨v, rfl, hr2, hB⟩ := h
    obtain ⟨r, rfl, ra, rn, rz⟩ := Rw.ofOwns hr2
    exact ⟨r, rfl, ra, rn, rz, hB⟩
end Go.Proofs.Ytbcacebifpagpaa
namespace Go.Proofs.Ytbcacebifpagpaa
open Go.RowKit Go.Shelf
set_option linter.unusedVariables false
attribute [local go_sem] Oper.semAt_some
theorem frL_prefix (p : Pl) (f : Bool) {k m : Nat} (h : k ≤ m) : frL p f k <+: frL p f m := by
  induction m with
  | zero => rw [show k = 0 by omega]; exact List.prefix_refl _
  | succ m ih =>
    by_cases hk : k = m + 1
    · rw [hk]; exact List.prefix_refl _
    · refine (ih (by omega)).trans ?_
      by_cases hf : (p.zb m).front = f
      · rw [frL_hit hf]; exact List.prefix_append _ _
      · rw [frL_miss hf]; exact List.prefix_refl _
def keepsB (n₀ Bf : Nat) (A B : World) : Prop := Below n₀ A B ∧ (∀ v, A.cell? ⟨Bf, 0, none⟩ = some v → B.cell? ⟨Bf, 0, none⟩ = some v)
set_option maxRecDepth 100000 in
set_option maxHeartbeats 2000000 in
theorem binsOf1_in (F : Fence) (n : Nat) (h6 : F.fn 60) (hro : F.round = none) (hn : 1 ≤ n) (l Bp Bf n₀ : Nat) (p : Pl) (f : Bool) (J Jx : List Int → World → Prop)
    (hY : ∀ pre x W, J pre W → pre.length < p.nb → YieldAt F (n - 1) Try.prog l #[.int .i64 x] W fun e W' =>
      (e = .returned (.bool true) ∧ J (pre ++ [x]) W' ∧ keepsB n₀ Bf W W') ∨ (e = .returned (.bool false) ∧ Jx (pre ++ [x]) W'))
    (W : World) (hJ : AbidesFrom W.heap.size J) (hn₀ : n₀ ≤ W.heap.size) (hBp : W.cell? ⟨Bp, 0, none⟩ = some (.slice p.ab p.nb p.cb)) (hBf : W.cell? ⟨Bf, 0, none⟩ = some (.bool f)) (hle : p.nb ≤ p.cb) (hcap : p.cb ≤ maxLen)
    (hL : ∀ W', Below n₀ W W' → BinsAt W' p.ab p.nb p.zb) (h0 : J [] W) :
    CallsIn F n Try.prog 60 #[.func (.yield l) #[] #[], .pointer (some ⟨Bp, 0, none⟩), .pointer (some ⟨Bf, 0, none⟩)] W fun e W' => (∃ v, e = .returned v) ∧
      ((∃ ys, ys = frL p f p.nb ∧ J ys W') ∨ (∃ pre, pre <+: frL p f p.nb ∧ Jx pre W')) := by
  unfold maxLen at hcap
  have hS : Hid (∀ wr, Below n₀ W wr → W.heap.size ≤ wr.heap.size) := fun wr h => h.size
  have HJA : Hid (∀ pre A o, J pre A → J pre (A.alloc o)) := fun pre A o h => hJ pre A (A.alloc o) none h (World.grownBy_alloc A o none) (fun r e => by cases e)
  refine callsIn_of_wp Try.func60 rfl h6 ?_ hro
  simp only [Try.ntmps60, List.size_toArray, List.length_cons, List.length_nil, Nat.reduceAdd, Nat.reduceSub, Array.replicate_succ, Array.replicate_zero, List.push_toArray, List.append_toArray, List.nil_append, List.cons_append]
  gi_wp2
  gi_loopw [9] (fun i wr => ∃ k : Nat, k ≤ p.nb ∧ i = .int .i64 k ∧ J (frL p f k) wr ∧ Below n₀ W wr ∧ wr.cell? ⟨Bf, 0, none⟩ = some (.bool f)) (fun i _ => p.nb - (intOf i).toNat)
  case atStart => exact ⟨0, Nat.zero_le _, rfl, h0, Below.refl _ _, hBf⟩
  case round =>
    obtain ⟨k, hk, rfl, hJs, hB, hcf⟩ := hrel
    by_cases hlt : k < p.nb
    · obtain ⟨b, o, hab, hb, z0, z1, z2, z3⟩ := hL _ hB k hlt
      have m1 : (0 : Int) ≤ (k : Int) := by omega
      have hltf : Bf < wr.heap.size := World.block_lt_of_cell? wr _ hcf
      have hfl := frL_len p f k
      rw [hab]
      clear hab
      by_cases hf : (p.zb k).front = f
      · rw [hf] at z0
        have hJa := HJA.out _ wr (.cells #[.bool f, .int .i64 (p.zb k).room, .int .i64 (p.zb k).low, .int .i64 (p.zb k).high] 35) hJs
        obtain ⟨fn, tmps, assign, body, hy, hR⟩ := hY (frL p f k) k _ hJa (by omega)
        gi_wp2
        refine hR.mono ?_
        rintro e W3 (⟨rfl, hJ3, hk3⟩ | ⟨rfl, hJx3⟩)
        · have hB3 : Below n₀ W W3 := (hB.alloc (Nat.le_trans hn₀ (hS.out wr hB)) _).trans hk3.1
          have hc3 : W3.cell? ⟨Bf, 0, none⟩ = some (.bool f) := hk3.2 _ ((((Below.refl wr.heap.size wr).alloc (Nat.le_refl _) _).cell (p := ⟨Bf, 0, none⟩) hltf).trans hcf)
          rw [← frL_hit hf] at hJ3
          clear hk3 hR
          gi_wp2
          go_roundw
          case rel => exact ⟨k + 1, by omega, by go_num, hJ3, hB3, hc3⟩
          case measure => simp [intOf]; omega
        · rw [← frL_hit hf] at hJx3
          gi_wp2
          refine bodyPost_ret (results_none rfl _ _ _) rfl ?_
          exact ⟨⟨_, rfl⟩, .inr ⟨frL p f (k + 1), frL_prefix p f (by omega), hJx3⟩⟩
      · have hJa := HJA.out _ wr (.cells #[.bool (p.zb k).front, .int .i64 (p.zb k).room, .int .i64 (p.zb k).low, .int .i64 (p.zb k).high] 35) hJs
        rw [← frL_miss hf] at hJa
        have hBa := hB.alloc (Nat.le_trans hn₀ (hS.out wr hB)) (.cells #[.bool (p.zb k).front, .int .i64 (p.zb k).room, .int .i64 (p.zb k).low, .int .i64 (p.zb k).high] 35)
        have hca := (((Below.refl wr.heap.size wr).alloc (Nat.le_refl _) (.cells #[.bool (p.zb k).front, .int .i64 (p.zb k).room, .int .i64 (p.zb k).low, .int .i64 (p.zb k).high] 35)).cell (p := ⟨Bf, 0, none⟩) hltf).trans hcf
        have HA : Hid (J (frL p f (k + 1)) (wr.alloc (.cells #[.bool (p.zb k).front, .int .i64 (p.zb k).room, .int .i64 (p.zb k).low, .int .i64 (p.zb k).high] 35)) ∧ Below n₀ W (wr.alloc (.cells #[.bool (p.zb k).front, .int .i64 (p.zb k).room, .int .i64 (p.zb k).low, .int .i64 (p.zb k).high] 35)) ∧ (wr.alloc (.cells #[.bool (p.zb k).front, .int .i64 (p.zb k).room, .int .i64 (p.zb k).low, .int .i64 (p.zb k).high] 35)).cell? ⟨Bf, 0, none⟩ = some (.bool f)) := ⟨hJa, hBa, hca⟩
        clear hJa hBa hca
        gi_wp2
        refine ⟨fun _ h => (by cases h), ?_⟩
        gi_wp2
        go_roundw
        case rel => exact ⟨k + 1, by omega, by go_num, HA.out.1, HA.out.2.1, HA.out.2.2⟩
        case measure => simp [intOf]; omega
    · gi_wp2
      go_end0
      have hkn : k = p.nb := by omega
      subst hkn
      exact ⟨⟨_, rfl⟩, .inl ⟨_, rfl, hJs⟩⟩
end Go.Proofs.Ytbcacebifpagpaa
namespace Go.Proofs.Ytbcacebifpagpaa
open Go.RowKit
set_option linter.unusedVariables false
theorem frL_two (p : Pl) : ∀ k, (frL p true k).length + (frL p false k).length = k
  | 0 => by simp [frL]
  | k + 1 => by
    have ih := frL_two p k
    cases h : (p.zb k).front
    · rw [frL_hit h, frL_miss (by rw [h]; decide), List.length_append, List.length_singleton]; omega
    · rw [frL_hit h, frL_miss (by rw [h]; decide), List.length_append, List.length_singleton]; omega
def wayR (p : Pl) : List Int := if planE p = 0 then wayL p else []
theorem wayR_yes {p : Pl} (h : planE p = 0) : wayR p = wayL p := if_pos h
theorem wayR_no {p : Pl} (h : ¬ planE p = 0) : wayR p = [] := if_neg h
theorem owns_low {A A' : Nat} {w : World} {e : TypeId} {size : Nat} {v : Value} {n : Nat} {xs : List Value} (h : w.ownsRow A e size v n xs) (hA : A' ≤ A) : w.ownsRow A' e size v n xs :=
  ⟨h.1, h.2.imp_right fun ⟨g, cap, cur, h1, h2, h3⟩ => ⟨g, cap, cur, h1, Nat.le_trans hA h2, h3⟩⟩
end Go.Proofs.Ytbcacebifpagpaa
namespace Go.Proofs.Ytbcacebifpagpaa
open Go.RowKit Go.Shelf
set_option linter.unusedVariables false
attribute [local go_sem] Oper.semAt_some
theorem keepsB_t {n₀ Bf : Nat} {A B C : World} (h : keepsB n₀ Bf A B) (k : keepsB n₀ Bf B C) : keepsB n₀ Bf A C := ⟨h.1.trans k.1, fun v hv => k.2 v (h.2 v hv)⟩
theorem keepsB_b {n₀ Bf : Nat} {w : World} (hn : n₀ ≤ w.heap.size) (hb : Bf < w.heap.size) (W : World) (l : Nat) (o o' : Obj) (hl : w.heap.size ≤ l) (h : W.heap[l]? = some o) (h1 : o.isCells = false) (h2 : o.isWalk = false) : keepsB n₀ Bf W (W.putObj l o') :=
  ⟨belowK_b hn W l o o' hl h h1 h2, fun v hv => ((belowK_b (Nat.le_refl _) W l o o' hl h h1 h2).cell (p := ⟨Bf, 0, none⟩) hb).trans hv⟩
set_option maxRecDepth 100000 in
set_option maxHeartbeats 1000000 in
theorem binsOf_in (F : Fence) (n : Nat) (h5 : F.fn 34) (hro : F.round = none) (p : Pl) (f : Bool) (w : World) :
    CallsIn F n Try.prog 34 #[p.val, .bool f] w fun e w' => e = .returned (.func (.func 60) #[] #[.pointer (some ⟨w.heap.size, 0, none⟩), .pointer (some ⟨w.heap.size + 1, 0, none⟩)]) ∧ w' = (w.alloc (.cells #[.slice p.ab p.nb p.cb, .slice p.sa p.ns p.cs] 25)).alloc (.cells #[.bool f] 4) := by
  unfold Pl.val
  refine callsIn_of_wp Try.func34 rfl h5 ?_ hro
  simp only [Try.ntmps34, List.size_toArray, List.length_cons, List.length_nil, Nat.reduceAdd, Nat.reduceSub, Array.replicate_succ, Array.replicate_zero, List.push_toArray, List.append_toArray, List.nil_append, List.cons_append]
  gi_wp2
  go_ret
  exact ⟨rfl, rfl⟩
theorem binsOf_stops (F : Fence) (n : Nat) (h6 : F.fn 60) (hro : F.round = none) (hn : 1 ≤ n) (Bp Bf n₀ : Nat) (p : Pl) (f : Bool) (w : World) (hBp : Bp < w.heap.size) (hBf : Bf < w.heap.size) (hn₀ : n₀ ≤ w.heap.size)
    (hcp : w.cell? ⟨Bp, 0, none⟩ = some (.slice p.ab p.nb p.cb)) (hcf : w.cell? ⟨Bf, 0, none⟩ = some (.bool f)) (hle : p.nb ≤ p.cb) (hcap : p.cb ≤ maxLen) (hL : ∀ W', Below n₀ w W' → BinsAt W' p.ab p.nb p.zb) :
    SeqStopsK F n Try.prog 60 #[.pointer (some ⟨Bp, 0, none⟩), .pointer (some ⟨Bf, 0, none⟩)] (fun x : Int => #[Value.int .i64 x]) (keepsB n₀ Bf) (fun ys => ys = frL p f p.nb) (fun pre => pre <+: frL p f p.nb) p.nb w := fun l J Jx W hW hJ _ hY h0 =>
  binsOf1_in F n h6 hro hn l Bp Bf n₀ p f J Jx hY W hJ (Nat.le_trans hn₀ hW.size) ((hW.cell (p := ⟨Bp, 0, none⟩) hBp).trans hcp) ((hW.cell (p := ⟨Bf, 0, none⟩) hBf).trans hcf) hle hcap (fun W' h => hL W' ((hW.mono hn₀).trans h)) h0
end Go.Proofs.Ytbcacebifpagpaa
namespace Go.Proofs.Ytbcacebifpagpaa
open Go.RowKit Go.Shelf
set_option linter.unusedVariables false
attribute [local go_sem] Oper.semAt_some
set_option maxRecDepth 100000 in
set_option maxHeartbeats 2000000 in
theorem WayOwn_any (p : Pl) (w : World) (hp : p.At w) :
    Calls Try.prog 9 #[p.val] w fun e w' => ∃ v, e = .returned (.tuple #[v, .int .i64 (planE p)]) ∧ w'.ownsRow w.heap.size 3 1 v (wayR p).length ((wayR p).map (Value.int .i64)) ∧ Below w.heap.size w w' := by
  have leb := hp.leb
  have capb0 := hp.capb
  have hB0 : Below w.heap.size w (w.alloc (.cells #[.slice p.ab p.nb p.cb, .slice p.sa p.ns p.cs] 25)) := (Below.refl w.heap.size w).alloc (Nat.le_refl _) _
  obtain ⟨i1, hj, hy0, hy1, hy2⟩ := info_parts infoInt
  refine (callsIn_wide (n := 5)).1 ?_
  refine callsIn_of_wp_marks Try.func9 rfl trivial ?_ rfl
  simp only [Pl.val, Try.ntmps9, List.size_toArray, List.length_cons, List.length_nil, Nat.reduceAdd, Nat.reduceSub, Array.replicate_succ, Array.replicate_zero, List.push_toArray, List.append_toArray, List.nil_append, List.cons_append]
  by_cases h0 : planE p = 0
  · have HC : Calls Try.prog 13 #[p.val] (w.alloc (.cells #[.slice p.ab p.nb p.cb, .slice p.sa p.ns p.cs] 25)) fun e w' => e = .returned (.int .i64 0) ∧ Below (w.heap.size + 1) (w.alloc (.cells #[.slice p.ab p.nb p.cb, .slice p.sa p.ns p.cs] 25)) w' := by
      have := planCheck_any p _ (hp.below hB0)
      rw [h0] at this
      exact this.mono fun e w' h => ⟨h.1, by have k : Below _ _ w' := h.2; rwa [World.size_alloc] at k⟩
    have R := rightP h0
    have hnb := R.nb6
    have H0 : Hid (planE p = 0) := h0
    clear h0 R
    gi_wp2_with (first
      | (refine ⟨trivial, ?_⟩; gi_at_call 13; refine (callsIn_wide.2 HC).mono ?_; rintro e w1 ⟨rfl, hB⟩; have hsz := hB.size; have c0 : w1.cell? ⟨w.heap.size, 0, none⟩ = some (.slice p.ab p.nb p.cb) := (hB.cell (p := ⟨w.heap.size, 0, none⟩) (by simp)).trans (by simp); rw [World.size_alloc] at hsz)
      | (gi_at_make; refine wpListIn_make_own _ rfl _ _ 23 rfl (w.heap.size + 1) 3 i1 (.int .i64 0) 1 Try.underlying23 hj hy0 hy1 .i64 .i64 _ p.nb rfl rfl rfl (by rw [hy2]; omega) (by unfold maxLen; omega) (by omega) ?_; intro w2 hown2 hgrow2; have hB2 : Below (w.heap.size + 1) (w.alloc (.cells #[.slice p.ab p.nb p.cb, .slice p.sa p.ns p.cs] 25)) w2 := hB.grown hgrow2 (by omega) (by intro k hk; cases hk); have hsz2 := hB2.size; rw [World.size_alloc] at hsz2; have c0 : w2.cell? ⟨w.heap.size, 0, none⟩ = some (.slice p.ab p.nb p.cb) := (hB2.cell (p := ⟨w.heap.size, 0, none⟩) (by simp)).trans (by simp); have c1 : w2.cell? ⟨w.heap.size, 1, none⟩ = some (.slice p.sa p.ns p.cs) := (hB2.cell (p := ⟨w.heap.size, 1, none⟩) (by simp)).trans (by simp); have hlt2 : w.heap.size < w2.heap.size := by omega)
      | (refine ⟨trivial, ?_⟩; gi_at_call 34; refine (binsOf_in Fence.wide _ trivial rfl p true _).mono ?_; rintro e w' ⟨rfl, rfl⟩))
    obtain ⟨W3, hW3, s3, bO, hrow0, bF, cP, hB3⟩ : ∃ W3, ((w2.alloc (.cells #[(.slice (some ⟨w1.heap.size, 0, none⟩) 0 p.nb)] 23)).alloc (.cells #[.slice p.ab p.nb p.cb, .slice p.sa p.ns p.cs] 25)).alloc (.cells #[.bool true] 4) = W3 ∧ W3.heap.size = w2.heap.size + 3 ∧ _root_.Go.Boxed W3 w2.heap.size 23 (.slice (some ⟨w1.heap.size, 0, none⟩) 0 p.nb) ∧ W3.ownsRow (w.heap.size + 1) 3 1 (.slice (some ⟨w1.heap.size, 0, none⟩) 0 p.nb) 0 [] ∧ _root_.Go.Boxed W3 (w2.heap.size + 1 + 1) 4 (.bool true) ∧ W3.cell? ⟨w2.heap.size + 1, 0, none⟩ = some (.slice p.ab p.nb p.cb) ∧ Below (w.heap.size + 1) (w.alloc (.cells #[.slice p.ab p.nb p.cb, .slice p.sa p.ns p.cs] 25)) W3 := by
      refine ⟨_, rfl, by simp, ((_root_.Go.Boxed.new w2 23 _).alloc _).alloc _, ((hown2.alloc _).alloc _).alloc _, ?_, ?_, ((hB2.alloc hsz2 _).alloc (by simp; omega) _).alloc (by simp; omega) _⟩
      · have := _root_.Go.Boxed.new ((w2.alloc (.cells #[(.slice (some ⟨w1.heap.size, 0, none⟩) 0 p.nb)] 23)).alloc (.cells #[.slice p.ab p.nb p.cb, .slice p.sa p.ns p.cs] 25)) 4 (.bool true)
        rwa [World.size_alloc, World.size_alloc] at this
      · have := ((Blk.new (w2.alloc (.cells #[(.slice (some ⟨w1.heap.size, 0, none⟩) 0 p.nb)] 23)) #[.slice p.ab p.nb p.cb, .slice p.sa p.ns p.cs] 25).alloc (.cells #[.bool true] 4)).cell (j := 0) (by simp)
        rwa [World.size_alloc] at this
    have HP : Hid (∀ W', Below (w.heap.size + 1) (w.alloc (.cells #[.slice p.ab p.nb p.cb, .slice p.sa p.ns p.cs] 25)) W' → BinsAt W' p.ab p.nb p.zb) := fun W' h => (hp.bins.below hB0).below (show Below _ _ W' by rw [World.size_alloc]; exact h)
    rw [hW3]
    clear hB c0 c1 hown2 hgrow2 hW3
    refine wpIn_rangeFunc_ownG rfl (by decide) (gf := 60) (lb := #[.pointer (some ⟨w2.heap.size + 1, 0, none⟩), .pointer (some ⟨w2.heap.size + 1 + 1, 0, none⟩)]) rfl trivial (enters_of Try.func60 (by kernel_rfl) rfl)
      (binsOf_stops Fence.wide _ trivial rfl (by decide) (w2.heap.size + 1) (w2.heap.size + 1 + 1) (w.heap.size + 1) p true W3 (by omega) (by omega) (by omega) cP bF.cell leb capb0 (fun W' h => HP.out W' (hB3.trans h))) keepsB_t (keepsB_b (by omega) (by omega)) (Below.refl _ _) (fun _ => rfl)
      (fun pre W => (∃ v, _root_.Go.Boxed W w2.heap.size 23 v ∧ W.ownsRow (w.heap.size + 1) 3 1 v pre.length (pre.map (Value.int .i64)) ∧ True) ∧ _root_.Go.Boxed W (w2.heap.size + 1 + 1) 4 (.bool true) ∧ Below (w.heap.size + 1) (w.alloc (.cells #[.slice p.ab p.nb p.cb, .slice p.sa p.ns p.cs] 25)) W)
      (fun _ _ _ => False)
      (OwnFrom.and (Own.from (holdsRow_own (w.heap.size + 1) w2.heap.size 23 3 1 (fun pre : List Int => pre.length) (fun pre => pre.map (Value.int .i64)) (fun _ _ => True)) _) (OwnFrom.and (Own.from (boxed_own _ _ _) _) (ownFrom_below (by simp) (by omega))))
      (fun _ _ _ _ _ hs _ _ => hs)
      ⟨⟨_, bO, hrow0, trivial⟩, bF, hB3⟩
      (fun x => { tmps := #[.agg #[.slice p.ab p.nb p.cb, .slice p.sa p.ns p.cs], .pointer (some ⟨w.heap.size, 0, none⟩), .slice none 0 0, .int .i64 0, .int .i64 0, .pointer (some ⟨w2.heap.size, 0, none⟩), .int .i64 x, undef, .agg #[.slice p.ab p.nb p.cb, .slice p.sa p.ns p.cs], .int .i64 0, .int .i64 0, .bool false, undef, .pointer (some ⟨w.heap.size, 0, none⟩), .slice p.ab p.nb p.cb, .int .i64 p.nb, (.slice (some ⟨w1.heap.size, 0, none⟩) 0 p.nb), .agg #[.slice p.ab p.nb p.cb, .slice p.sa p.ns p.cs], .func (.func 60) #[] #[.pointer (some ⟨w2.heap.size + 1, 0, none⟩), .pointer (some ⟨w2.heap.size + 1 + 1, 0, none⟩)], .int .i64 x, undef, undef, undef, undef, undef, undef, undef, undef, undef, undef, undef, undef], defers := [] }) ?assign ?body ?done ?stop
    case assign =>
      intro l x W K hK
      gi_wp2
      exact hK
    case body =>
      rintro l pre x W ⟨⟨v, hv, hrow, -⟩, hbf, hBB⟩ hlt
      have hc := hv.cell
      gi_wp2_with (gi_at_builtin; refine wpListIn_append_own _ rfl _ _ 23 rfl (w.heap.size + 1) 3 i1 (.int .i64 0) 1 8 Try.underlying23 hj hy0 hy1 hy2 rfl (by decide) _ _ _ rfl (hrow.alloc _) ⟨W.heap.size, 0, none⟩ 1 1 [.int .i64 x] rfl rfl (cell_one_new _ _ _) (by simp [Value.oneCell']) (by unfold maxLen; omega) (by omega) (by have := hBB.size; simp at this ⊢; omega) ?_; intro v' w5 hown' hgrow _; obtain ⟨g', cap', rfl⟩ := ownsRow_succ hown'; obtain ⟨hv1, hv2, hr2, hk2, hb2⟩ := hv.appended (by decide) hrow (by have := hBB.size; simpa using this) hsz2 hown' hgrow; have hc1 := hv1.cell; have hf1 := hv1.frozen; have hF5 := (hbf.alloc _).kept hgrow (hbf.not_row (by decide) hrow))
      refine ⟨hk2.from _, ⟨hb2, fun u hu => ?_⟩, ⟨_, hv2, by simpa using hr2, trivial⟩, hF5.other (by omega) _, hBB.trans hb2⟩
      rw [hbf.cell] at hu
      cases hu
      exact (hF5.other (by omega) _).cell
    case done =>
      rintro D ys W4 hD rfl ⟨⟨v, hv, hrow, -⟩, -, hBB⟩ hK
      have c0 : W4.cell? ⟨w.heap.size, 0, none⟩ = some (.slice p.ab p.nb p.cb) := (hBB.cell (p := ⟨w.heap.size, 0, none⟩) (by simp)).trans (by simp)
      have c1 : W4.cell? ⟨w.heap.size, 1, none⟩ = some (.slice p.sa p.ns p.cs) := (hBB.cell (p := ⟨w.heap.size, 1, none⟩) (by simp)).trans (by simp)
      have hsz4 : w.heap.size < W4.heap.size := by have := hBB.size; simp at this; omega
      gi_wp2_with (refine ⟨trivial, ?_⟩; gi_at_call 34; refine (binsOf_in Fence.wide _ trivial rfl p false _).mono ?_; rintro e w' ⟨rfl, rfl⟩)
      have hsB := hv.lt
      obtain ⟨W5, hW5, s5, bO, hrow5, bF, cP, hB5, hK5⟩ : ∃ W5, (W4.alloc (.cells #[.slice p.ab p.nb p.cb, .slice p.sa p.ns p.cs] 25)).alloc (.cells #[.bool false] 4) = W5 ∧ W5.heap.size = W4.heap.size + 2 ∧ _root_.Go.Boxed W5 w2.heap.size 23 v ∧ W5.ownsRow (w.heap.size + 1) 3 1 v (frL p true p.nb).length ((frL p true p.nb).map (Value.int .i64)) ∧ _root_.Go.Boxed W5 (W4.heap.size + 1) 4 (.bool false) ∧ W5.cell? ⟨W4.heap.size, 0, none⟩ = some (.slice p.ab p.nb p.cb) ∧ Below (w.heap.size + 1) (w.alloc (.cells #[.slice p.ab p.nb p.cb, .slice p.sa p.ns p.cs] 25)) W5 ∧ W5.heap[D]? = some (.deferred (some [])) := by
        refine ⟨_, rfl, by simp, (hv.alloc _).alloc _, (hrow.alloc _).alloc _, ?_, ?_, (hBB.alloc (by omega) _).alloc (by simp; omega) _, ?_⟩
        · have := _root_.Go.Boxed.new (W4.alloc (.cells #[.slice p.ab p.nb p.cb, .slice p.sa p.ns p.cs] 25)) 4 (.bool false)
          rwa [World.size_alloc] at this
        · exact ((Blk.new W4 #[.slice p.ab p.nb p.cb, .slice p.sa p.ns p.cs] 25).alloc (.cells #[.bool false] 4)).cell (j := 0) (by simp)
        · have hD4 := (Array.getElem?_eq_some_iff.1 hK).1
          exact ((((Below.refl W4.heap.size W4).alloc (Nat.le_refl _) _).alloc (by simp) _).block D hD4).trans hK
      have hD4 := (Array.getElem?_eq_some_iff.1 hK).1
      have hfl := frL_two p p.nb
      rw [hW5]
      clear hv hrow hBB hK c0 c1 hW5 hB3
      refine wpIn_rangeFunc_ownG rfl (by decide) (gf := 60) (lb := #[.pointer (some ⟨W4.heap.size, 0, none⟩), .pointer (some ⟨W4.heap.size + 1, 0, none⟩)]) rfl trivial (enters_of Try.func60 (by kernel_rfl) rfl)
        (binsOf_stops Fence.wide _ trivial rfl (by decide) W4.heap.size (W4.heap.size + 1) (w.heap.size + 1) p false W5 (by omega) (by omega) (by omega) cP bF.cell leb capb0 (fun W' h => HP.out W' (hB5.trans h))) keepsB_t (keepsB_b (by omega) (by omega)) (Below.refl _ _) (fun _ => rfl)
        (fun pre W => (∃ v, _root_.Go.Boxed W w2.heap.size 23 v ∧ W.ownsRow (w.heap.size + 1) 3 1 v (frL p true p.nb ++ pre).length ((frL p true p.nb ++ pre).map (Value.int .i64)) ∧ True) ∧ _root_.Go.Boxed W (W4.heap.size + 1) 4 (.bool false) ∧ Below (w.heap.size + 1) (w.alloc (.cells #[.slice p.ab p.nb p.cb, .slice p.sa p.ns p.cs] 25)) W ∧ W.heap[D]? = some (.deferred (some [])))
        (fun _ _ _ => False)
        (OwnFrom.and (Own.from (holdsRow_own (w.heap.size + 1) w2.heap.size 23 3 1 (fun pre : List Int => (frL p true p.nb ++ pre).length) (fun pre => (frL p true p.nb ++ pre).map (Value.int .i64)) (fun _ _ => True)) _) (OwnFrom.and (Own.from (boxed_own _ _ _) _) (OwnFrom.and (ownFrom_below (by simp) (by omega)) (fun s A B row hs hg hr => (hg.block D (Array.getElem?_eq_some_iff.1 hs).1 (fun e => by have := (hr D e.symm).1; omega)).trans hs))))
        (fun _ _ _ _ _ hs _ _ => hs)
        ⟨⟨_, bO, by simpa using hrow5, trivial⟩, bF, hB5, hK5⟩
        (fun x => { tmps := #[.agg #[.slice p.ab p.nb p.cb, .slice p.sa p.ns p.cs], .pointer (some ⟨w.heap.size, 0, none⟩), .slice none 0 0, .int .i64 0, .int .i64 0, .pointer (some ⟨w2.heap.size, 0, none⟩), undef, .int .i64 x, .agg #[.slice p.ab p.nb p.cb, .slice p.sa p.ns p.cs], .int .i64 0, .int .i64 0, .bool false, undef, .pointer (some ⟨w.heap.size, 0, none⟩), .slice p.ab p.nb p.cb, .int .i64 p.nb, (.slice (some ⟨w1.heap.size, 0, none⟩) 0 p.nb), .agg #[.slice p.ab p.nb p.cb, .slice p.sa p.ns p.cs], .func (.func 60) #[] #[.pointer (some ⟨w2.heap.size + 1, 0, none⟩), .pointer (some ⟨w2.heap.size + 1 + 1, 0, none⟩)], undef, undef, undef, undef, undef, .agg #[.slice p.ab p.nb p.cb, .slice p.sa p.ns p.cs], .func (.func 60) #[] #[.pointer (some ⟨W4.heap.size, 0, none⟩), .pointer (some ⟨W4.heap.size + 1, 0, none⟩)], .int .i64 x, undef, undef, undef, undef, undef], defers := [] }) ?assign2 ?body2 ?done2 ?stop2
      case assign2 =>
        intro l x W K hK
        gi_wp2
        exact hK
      case body2 =>
        rintro l pre x W ⟨⟨v, hv, hrow, -⟩, hbf, hBB, hKD⟩ hlt
        have hc := hv.cell
        have hll : (frL p true p.nb ++ pre).length ≤ 2 * p.nb := by rw [List.length_append]; omega
        gi_wp2_with (gi_at_builtin; refine wpListIn_append_own _ rfl _ _ 23 rfl (w.heap.size + 1) 3 i1 (.int .i64 0) 1 8 Try.underlying23 hj hy0 hy1 hy2 rfl (by decide) _ _ _ rfl (hrow.alloc _) ⟨W.heap.size, 0, none⟩ 1 1 [.int .i64 x] rfl rfl (cell_one_new _ _ _) (by simp [Value.oneCell']) (by unfold maxLen; omega) (by omega) (by have := hBB.size; simp at this ⊢; omega) ?_; intro v' w5 hown' hgrow _; obtain ⟨g', cap', rfl⟩ := ownsRow_succ hown'; obtain ⟨hv1, hv2, hr2, hk2, hb2⟩ := hv.appended (by decide) hrow (by have := hBB.size; simpa using this) hsz2 hown' hgrow; have hc1 := hv1.cell; have hf1 := hv1.frozen; have hF5 := (hbf.alloc _).kept hgrow (hbf.not_row (by decide) hrow))
        simp only [List.length_append] at hv2 hr2 hk2 hb2
        refine ⟨hk2.from _, ⟨hb2, fun u hu => ?_⟩, ⟨_, hv2, by simpa [Nat.add_assoc] using hr2, trivial⟩, hF5.other (by omega) _, hBB.trans hb2, hk2.same D _ hKD rfl⟩
        rw [hbf.cell] at hu
        cases hu
        exact (hF5.other (by omega) _).cell
      case done2 =>
        rintro D2 ys W hD2 rfl ⟨⟨v, hv, hrow, -⟩, -, hBB, hK1⟩ hK2
        have hc := hv.cell
        gi_wp2
        refine ⟨by simp, .inl ⟨_, _, rfl, run_takeDeferred hK2, ?_⟩⟩
        have hne : D ≠ D2 := by omega
        have hK1' : (W.putObj D2 (.deferred none)).heap[D]? = some (.deferred (some [])) := ((grownBy_putObj' W D2 (.deferred none)).block D (Array.getElem?_eq_some_iff.1 hK1).1 (fun e => hne (by cases e; rfl))).trans hK1
        refine ⟨by simp, .inl ⟨_, _, rfl, run_takeDeferred hK1', ?_⟩⟩
        have hr2 := ownsRow_putObj (ownsRow_putObj hrow (.deferred none) hK2 rfl) (.deferred none) hK1' rfl
        have hb1 : Below (w.heap.size + 1) (w.alloc (.cells #[.slice p.ab p.nb p.cb, .slice p.sa p.ns p.cs] 25)) (W.putObj D2 (.deferred none)) := hBB.trans (belowK_b (w := W5) (by omega) W D2 _ _ hD2 hK2 rfl rfl)
        have hb2 := hb1.trans (belowK_b (w := W3) (by omega) (W.putObj D2 (.deferred none)) D _ (.deferred none) hD hK1' rfl rfl)
        rw [H0.out, wayR_yes H0.out]
        exact ⟨_, results_tmp2 rfl _ _ _, _, rfl, owns_low hr2 (Nat.le_succ _), hB0.trans (hb2.mono (by omega))⟩
      case stop2 =>
        rintro D c pre W _ _ h _
        exact h.elim
    case stop =>
      rintro D c pre W _ _ h _
      exact h.elim
  · gi_wp2_with (refine ⟨trivial, ?_⟩; gi_at_call 13; refine (callsIn_wide.2 (planCheck_any p _ (hp.below hB0))).mono ?_; rintro e w1 ⟨rfl, hB⟩)
    rw [wayR_no h0]
    exact ⟨_, results_tmp2 rfl _ _ _, _, rfl, World.ownsRow_nil _ _ _ _, hB0.trans (hB.mono (by simp))⟩
theorem Way_any (p : Pl) (w : World) (hp : p.At w) :
    Calls Try.prog 9 #[p.val] w fun e w' => ∃ r : Rw, e = .returned (.tuple #[r.val, .int .i64 (planE p)]) ∧ r.At w' ∧ r.n = (wayR p).length ∧ (∀ j, j < r.n → r.z j = (wayR p).getD j 0) ∧ Below w.heap.size w w' :=
  (WayOwn_any p w hp).mono fun e w' h => by
    obtain ⟨v, rfl, hr2, hB⟩ := h
    obtain ⟨r, rfl, ra, rn, rz⟩ := Rw.ofOwns hr2
    exact ⟨r, rfl, ra, rn, rz, hB⟩
end Go.Proofs.Ytbcacebifpagpaa
namespace Go.Proofs.Ytbcacebifpagpaa
open Go.RowKit Go.Shelf
set_option linter.unusedVariables false
def yardZ9 : Nat → Bin
  | 0 => ⟨false, 100, 0, 0⟩
  | 1 => ⟨true, 30, 9, 8⟩
  | _ => ⟨false, 60, 0, 0⟩
def yardP9 (g1 g2 : Nat) : Pl := ⟨some ⟨g1, 0, none⟩, 3, 3, yardZ9, some ⟨g2, 0, none⟩, 2, 2, yardS⟩
theorem yardAt9 {w : World} {g1 g2 : Nat} (h1 : Blk w g1 35 12 (fun i => if i = 6 then .int .i64 9 else yardF i)) (h2 : Blk w g2 3 2 yardG) : (yardP9 g1 g2).At w := by
  refine ⟨by simp [yardP9], by simp [yardP9, maxLen], fun i hi => ?_, by simp [yardP9], by simp [yardP9, maxLen], fun i hi => ?_⟩
  · have hi' : i < 3 := hi
    refine ⟨g1, 0, rfl, h1.lt, ?_⟩
    match i, hi' with
    | 0, _ => exact ⟨h1.cell (j := 0) (by decide), h1.cell (j := 1) (by decide), h1.cell (j := 2) (by decide), h1.cell (j := 3) (by decide)⟩
    | 1, _ => exact ⟨h1.cell (j := 4) (by decide), h1.cell (j := 5) (by decide), h1.cell (j := 6) (by decide), h1.cell (j := 7) (by decide)⟩
    | 2, _ => exact ⟨h1.cell (j := 8) (by decide), h1.cell (j := 9) (by decide), h1.cell (j := 10) (by decide), h1.cell (j := 11) (by decide)⟩
  · have hi' : i < 2 := hi
    refine ⟨g2, 0, rfl, h2.lt, ?_⟩
    match i, hi' with
    | 0, _ => exact h2.cell (j := 0) (by decide)
    | 1, _ => exact h2.cell (j := 1) (by decide)
theorem begun_plan (g1 g2 : Nat) : planE (yardP g1 g2) = 0 ∧ planE (yardP9 g1 g2) = 3 ∧ wayR (yardP g1 g2) = [1, 0, 2] := ⟨by rfl, by rfl, by rfl⟩
theorem begunWay {w : World} {g1 g2 : Nat} (hp : (yardP g1 g2).At w) :
    Calls Try.prog 9 #[(yardP g1 g2).val] w fun e w' => ∃ r : Rw, e = .returned (.tuple #[r.val, .int .i64 0]) ∧ r.At w' ∧ r.n = 3 ∧ (∀ j, j < r.n → r.z j = [1, 0, 2].getD j 0) ∧ Below w.heap.size w w' := by
  have := Way_any _ w hp
  rwa [(begun_plan g1 g2).1, (begun_plan g1 g2).2.2] at this
theorem begunPlan {w : World} {g1 g2 : Nat} (hp : (yardP g1 g2).At w) : Calls Try.prog 13 #[(yardP g1 g2).val] w fun e w' => e = .returned (.int .i64 0) ∧ Below w.heap.size w w' := by
  have := planCheck_any _ w hp
  rwa [(begun_plan g1 g2).1] at this
theorem begunPlan9 {w : World} {g1 g2 : Nat} (hp : (yardP9 g1 g2).At w) : Calls Try.prog 13 #[(yardP9 g1 g2).val] w fun e w' => e = .returned (.int .i64 3) ∧ Below w.heap.size w w' := by
  have := planCheck_any _ w hp
  rwa [(begun_plan g1 g2).2.1] at this
theorem begunPlan0 {w : World} : Calls Try.prog 13 #[.agg #[.slice none 0 0, .slice none 0 0]] w fun e w' => e = .returned (.int .i64 2) ∧ Below w.heap.size w w' :=
  planCheck_any ⟨none, 0, 0, fun _ => ⟨false, 0, 0, 0⟩, none, 0, 0, fun _ => 0⟩ w ⟨Nat.le_refl _, Nat.zero_le _, fun i hi => absurd hi (Nat.not_lt_zero _), Nat.le_refl _, Nat.zero_le _, fun i hi => absurd hi (Nat.not_lt_zero _)⟩
set_option maxRecDepth 100000 in
set_option maxHeartbeats 1000000 in
theorem planBegun_any (w : World) :
    Calls Try.prog 12 #[] w fun e w' => e = .returned (.bool true) ∧ Below w.heap.size w w' := by
  go_enter Try.func12, Try.ntmps12
  go_wp2_with fail
  refine (yard_any _).mono ?_
  rintro e w1 ⟨g1, g2, rfl, -, -, k1, k2, hB1⟩
  go_wp2_with fail
  refine (begunWay (yardAt k1 k2)).mono ?_
  rintro e w2 ⟨r, rfl, rat, rn, rz, hB2⟩
  have hC2 := hB1.trans (hB2.mono hB1.size)
  clear k1 k2 hB1 hB2
  obtain ⟨ra, r3, rc, rz0⟩ := r
  dsimp only at rn rz
  subst rn
  simp only [Rw.val]
  go_wp2_with fail
  refine (yard_any _).mono ?_
  rintro e w3 ⟨h1, h2, rfl, hge, hne, k1, k2, hB1⟩
  have f6 := k1.frozen 6
  have c6 := k1.cell (j := 6) (by decide)
  have hlt1 := k1.lt
  have hlt2 := k2.lt
  simp only [yardP, Pl.val]
  go_wp2_with fail
  obtain ⟨w4, hw4, K1, K2, hX, p0, p1, hs4⟩ : ∃ w4, (w3.setCell ⟨h1, 6, none⟩ (.int .i64 9)).alloc (.cells #[.slice (some ⟨h1, 0, none⟩) 3 3, .slice (some ⟨h2, 0, none⟩) 2 2] 25) = w4 ∧ Blk w4 h1 35 12 (fun i => if i = 6 then .int .i64 9 else yardF i) ∧ Blk w4 h2 3 2 yardG ∧ Below w2.heap.size w2 w4 ∧ w4.cell? ⟨w3.heap.size, 0, none⟩ = some (.slice (some ⟨h1, 0, none⟩) 3 3) ∧ w4.cell? ⟨w3.heap.size, 1, none⟩ = some (.slice (some ⟨h2, 0, none⟩) 2 2) ∧ w3.heap.size < w4.heap.size := by
    refine ⟨_, rfl, (k1.set 6 _).alloc _, (k2.other (fun e => hne e.symm) _).alloc _, (hB1.setCell (p := ⟨h1, 6, none⟩) hge _).alloc (by simpa using hB1.size) _, ?_, ?_, by simp⟩
    · have := (Blk.new (w3.setCell ⟨h1, 6, none⟩ (.int .i64 9)) #[.slice (some ⟨h1, 0, none⟩) 3 3, .slice (some ⟨h2, 0, none⟩) 2 2] 25).cell (j := 0) (by simp)
      simpa using this
    · have := (Blk.new (w3.setCell ⟨h1, 6, none⟩ (.int .i64 9)) #[.slice (some ⟨h1, 0, none⟩) 3 3, .slice (some ⟨h2, 0, none⟩) 2 2] 25).cell (j := 1) (by simp)
      simpa using this
  rw [hw4]
  have hC4 := hC2.trans (hX.mono hC2.size)
  have rat4 := rat.below hX
  clear hw4 k1 k2 hB1 f6 c6 hlt1 hlt2 hX rat
  refine (yard_any _).mono ?_
  rintro e w5 ⟨g3, g4, rfl, -, -, k1, k2, hB5⟩
  go_wp2_with fail
  refine (begunPlan (yardAt k1 k2)).mono ?_
  rintro e w6 ⟨rfl, hB6⟩
  have hD := hB5.trans (hB6.mono hB5.size)
  have p0' := (hD.cell (p := ⟨w3.heap.size, 0, none⟩) hs4).trans p0
  have p1' := (hD.cell (p := ⟨w3.heap.size, 1, none⟩) hs4).trans p1
  clear p0 p1 k1 k2 hB5 hB6
  go_wp2_with fail
  refine (begunPlan9 (yardAt9 (K1.below hD) (K2.below hD))).mono ?_
  rintro e w7 ⟨rfl, hB7⟩
  have hD7 := hD.trans (hB7.mono hD.size)
  clear hD hB7 p0' p1' K1 K2
  go_wp2_with fail
  refine (begunPlan0).mono ?_
  rintro e w8 ⟨rfl, hB8⟩
  have hD8 := hD7.trans (hB8.mono hD7.size)
  clear hD7 hB8
  go_wp2_with fail
  have hb := Blk.new w8 #[.int .i64 1, .int .i64 0, .int .i64 2] 3
  have hBn : Below w8.heap.size w8 (w8.alloc (.cells #[.int .i64 1, .int .i64 0, .int .i64 2] 3)) := (Below.refl _ _).alloc (Nat.le_refl _) _
  have hs : Rw.At (w8.alloc (.cells #[.int .i64 1, .int .i64 0, .int .i64 2] 3)) ⟨some ⟨w8.heap.size, 0, none⟩, 3, 3, fun j => [1, 0, 2].getD j 0⟩ := by
    refine ⟨Nat.le_refl _, by show 3 ≤ maxLen; unfold maxLen; omega, fun i hi => ?_⟩
    have hi' : i < 3 := hi
    refine ⟨w8.heap.size, 0, rfl, hb.lt, ?_⟩
    match i, hi' with
    | 0, _ => exact hb.cell (j := 0) (by decide)
    | 1, _ => exact hb.cell (j := 1) (by decide)
    | 2, _ => exact hb.cell (j := 2) (by decide)
  refine (SameInts_yes ⟨ra, 3, rc, rz0⟩ ⟨some ⟨w8.heap.size, 0, none⟩, 3, 3, fun j => [1, 0, 2].getD j 0⟩ _ ((rat4.below hD8).below hBn) hs rfl rz).mono ?_
  rintro e w9 ⟨rfl, hB9⟩
  have hE := hD8.trans ((hBn.trans (hB9.mono hBn.size)).mono hD8.size)
  go_wp2_with fail
  go_ret
  exact ⟨rfl, hC4.trans (hE.mono hC4.size)⟩
end Go.Proofs.Ytbcacebifpagpaa
namespace Go.Proofs.Ytbcacebifpagpaa
open Go.RowKit Go.Shelf
set_option linter.unusedVariables false
set_option maxRecDepth 100000 in
set_option maxHeartbeats 1000000 in
theorem PlanTells_walk (p : Pl) (w : World) (hp : p.At w) :
    Calls Try.prog 3 #[p.val] w fun e w' => e = .returned (.bool true) ∧ Below w.heap.size w w' := by
  have hB0 : Below w.heap.size w (w.alloc (.cells #[.slice p.ab p.nb p.cb, .slice p.sa p.ns p.cs] 25)) := (Below.refl w.heap.size w).alloc (Nat.le_refl _) _
  have hBv : Below (w.heap.size + 1) (w.alloc (.cells #[.slice p.ab p.nb p.cb, .slice p.sa p.ns p.cs] 25)) (w.alloc (.cells #[.slice p.ab p.nb p.cb, .slice p.sa p.ns p.cs] 25)) := Below.refl _ _
  have hCell : Hid (∀ w1, Below (w.heap.size + 1) (w.alloc (.cells #[.slice p.ab p.nb p.cb, .slice p.sa p.ns p.cs] 25)) w1 → w1.cell? ⟨w.heap.size, 0, none⟩ = some (.slice p.ab p.nb p.cb) ∧ w1.cell? ⟨w.heap.size, 1, none⟩ = some (.slice p.sa p.ns p.cs) ∧ w.heap.size < w1.heap.size) := fun w1 h => ⟨(h.cell (p := ⟨w.heap.size, 0, none⟩) (by simp)).trans (by simp), (h.cell (p := ⟨w.heap.size, 1, none⟩) (by simp)).trans (by simp), by have := h.size; simp at this; omega⟩
  simp only [Pl.val]
  go_enter Try.func3, Try.ntmps3
  go_wp2_with fail
  refine (Way_any p _ (hp.below hB0)).mono ?_
  rintro e w1 ⟨r, rfl, rat, rn, rz, hB⟩
  have hBw := hB0.trans (hB.mono (by simp))
  have hBv := hBv.trans (hB.mono (by simp))
  obtain ⟨c0, c1, hsz⟩ := hCell.out w1 hBv
  clear hB
  simp only [Rw.val]
  have RN : Hid (r.n = (wayR p).length ∧ (∀ j, j < r.n → r.z j = (wayR p).getD j 0)) := ⟨rn, rz⟩
  clear rn rz
  go_wp2_with fail
  refine (refCheckPlan_any p _ (hp.below hBw)).mono ?_
  rintro e w2 ⟨rfl, hB⟩
  have rat := rat.below hB
  have hBw := hBw.trans (hB.mono hBw.size)
  have hBv := hBv.trans (hB.mono (by omega))
  obtain ⟨c0, c1, hsz⟩ := hCell.out w2 hBv
  clear hB
  by_cases h0 : planE p = 0
  · have hnb := (rightP h0).nb6
    go_wp2_with fail
    refine (WayOf_any p _ (hp.below hBw) hnb).mono ?_
    rintro e w3 ⟨s, rfl, sat, sn, sz, hB⟩
    have rat := rat.below hB
    have hBw := hBw.trans (hB.mono hBw.size)
    have hBv := hBv.trans (hB.mono (by omega))
    obtain ⟨c0, c1, hsz⟩ := hCell.out w3 hBv
    clear hB
    have SN : Hid (r.n = s.n ∧ ∀ j, j < r.n → r.z j = s.z j) := by
      have := RN.out
      rw [wayR_yes h0, ← sn] at this
      exact ⟨this.1, fun j hj => by rw [this.2 j hj, sz j (by omega)]⟩
    clear sn sz RN
    simp only [Rw.val]
    go_wp2_with fail
    refine (planBegun_any _).mono ?_
    rintro e w4 ⟨rfl, hB⟩
    have rat := rat.below hB
    have sat := sat.below hB
    have hBw := hBw.trans (hB.mono hBw.size)
    have hBv := hBv.trans (hB.mono (by omega))
    obtain ⟨c0, c1, hsz⟩ := hCell.out w4 hBv
    clear hB
    go_wp2_with fail
    refine (planCheck_any p _ (hp.below hBw)).mono ?_
    rintro e w5 ⟨rfl, hB⟩
    have rat := rat.below hB
    have sat := sat.below hB
    have hBw := hBw.trans (hB.mono hBw.size)
    clear hB
    go_wp2_with fail
    refine (SameInts_yes r s _ rat sat SN.out.1 SN.out.2).mono ?_
    rintro e w6 ⟨rfl, hB⟩
    have hBw := hBw.trans (hB.mono hBw.size)
    go_wp2_with fail
    go_ret
    exact ⟨rfl, hBw⟩
  · go_wp2_with fail
    refine (planBegun_any _).mono ?_
    rintro e w4 ⟨rfl, hB⟩
    have rat := rat.below hB
    have hBw := hBw.trans (hB.mono hBw.size)
    have hBv := hBv.trans (hB.mono (by omega))
    obtain ⟨c0, c1, hsz⟩ := hCell.out w4 hBv
    clear hB
    have SN : Hid (r.n = 0) := by
      have := RN.out
      rw [wayR_no h0] at this
      exact this.1
    go_wp2_with fail
    refine (planCheck_any p _ (hp.below hBw)).mono ?_
    rintro e w5 ⟨rfl, hB⟩
    have rat := rat.below hB
    have hBw := hBw.trans (hB.mono hBw.size)
    clear hB
    go_wp2_with fail
    refine (SameInts_yes r ⟨none, 0, 0, fun _ => 0⟩ _ rat ⟨Nat.le_refl _, Nat.zero_le _, fun i hi => absurd hi (Nat.not_lt_zero _)⟩ SN.out (fun j hj => absurd hj (by rw [SN.out]; exact Nat.not_lt_zero _))).mono ?_
    rintro e w6 ⟨rfl, hB⟩
    have hBw := hBw.trans (hB.mono hBw.size)
    go_wp2_with fail
    go_ret
    exact ⟨rfl, hBw⟩
end Go.Proofs.Ytbcacebifpagpaa
namespace Go.Proofs.Ytbcacebifpagpaa
open Go.ChangeShapes Go.WideShapes Go.ChangeAt Go.RowKit Go.Joins Go.Deep
set_option linter.unusedVariables false
set_option maxRecDepth 100000
theorem own : ownKnob Try.prog.godebug = none := by kernel_rfl
theorem laidOut : laidOutB Try.prog = true := by kernel_rfl
theorem cellsInt : Try.prog.cellsOf 3 = 1 := by kernel_rfl
theorem cellsBin : Try.prog.cellsOf 35 = 4 := by kernel_rfl
theorem cellsPlan : Try.prog.cellsOf 25 = 2 := by kernel_rfl
theorem cellsBool : Try.prog.cellsOf 4 = 1 := by kernel_rfl
section
variable {H : Type} {enc : TypeId × Value → H} {w : World} {held : Bool} {spare : Nat → Bool}
theorem addrOf {a : Addr} {i : Nat} {v : Value} (h : w.cell? (a.add i) = some v) (h0 : ∃ v0, w.cell? a = some v0) : ∃ b o, a = ⟨b, o, none⟩ ∧ b < w.heap.size ∧ w.cell? ⟨b, o + i, none⟩ = some v := by
  obtain ⟨b, off, spot⟩ := a
  obtain ⟨v0, h0⟩ := h0
  have hspot : spot = none := World.cell?_spot h0
  subst hspot
  refine ⟨b, off, rfl, World.block_lt_of_cell? w _ h0, ?_⟩
  rw [← Go.WideShapes.add_plain]
  exact h
theorem readInts {fuel : Nat} {cs : List Value} {x : DataW H × List MemPlace} (h : DataW.trod enc Try.prog w 0 spare held fuel 23 cs = some x) : ∃ r : Rw, cs = [r.val] ∧ r.At w := by
  rcases open_slice1 Try.underlying23 cellsInt h with ⟨rfl, _⟩ | ⟨a, len, cap, m, n, V, D, Pl, rfl, hb, hl, hm, hmm, _, hx⟩
  · exact ⟨⟨none, 0, 0, fun _ => 0⟩, rfl, Nat.le_refl _, Nat.zero_le _, fun i hi => absurd hi (Nat.not_lt_zero _)⟩
  · have hlm : len ≤ m := by rw [hmm]; split <;> omega
    obtain ⟨z, hz⟩ := choose_lt (α := Int) (n := len) (p := fun i y => V i = .int .i64 y) (fun i hi => by
      obtain ⟨y, hy, _⟩ := DataW.trod_int Try.underlying3 (hx i (by omega)).2
      simp only [List.cons.injEq, and_true] at hy
      exact ⟨y, hy⟩)
    refine ⟨⟨some a, len, cap, z⟩, rfl, hl, hm, fun i hi => ?_⟩
    have hi' : i < len := hi
    have h0 : ∃ v0, w.cell? a = some v0 := ⟨_, by have := (hx 0 (by omega)).1; simpa [Addr.add] using this⟩
    obtain ⟨b, o, rfl, hb', hc⟩ := addrOf (hx i (by omega)).1 h0
    exact ⟨b, o, rfl, hb', by rw [hc, hz i hi']⟩
theorem readBin {fuel : Nat} {c0 c1 c2 c3 : Value} {x : DataW H × List MemPlace} (h : DataW.trod enc Try.prog w 0 spare held fuel 35 [c0, c1, c2, c3] = some x) : ∃ y : Bin, c0 = .bool y.front ∧ c1 = .int .i64 y.room ∧ c2 = .int .i64 y.low ∧ c3 = .int .i64 y.high := by
  obtain ⟨y0, y1, y2, y3, n, hx, hl, h0, h1, h2, h3⟩ := trod_struct4 Try.underlying35 h
  simp only [cellsBool, cellsInt, List.drop_succ_cons, List.drop_zero, List.take_succ_cons, List.take_zero] at h0 h1 h2 h3
  obtain ⟨b, e0, _⟩ := DataW.trod_bool Try.underlying4 h0
  obtain ⟨n1, e1, _⟩ := DataW.trod_int Try.underlying3 h1
  obtain ⟨n2, e2, _⟩ := DataW.trod_int Try.underlying3 h2
  obtain ⟨n3, e3, _⟩ := DataW.trod_int Try.underlying3 h3
  simp only [List.cons.injEq, and_true] at e0 e1 e2 e3
  exact ⟨⟨b, n1, n2, n3⟩, e0, e1, e2, e3⟩
theorem cells4 {base : Nat} {a : Addr} {cs : List Value} (h : w.cells? base a 4 = some cs) : ∃ c0 c1 c2 c3, cs = [c0, c1, c2, c3] ∧ w.cell? a = some c0 ∧ w.cell? (a.add 1) = some c1 ∧ w.cell? (a.add 2) = some c2 ∧ w.cell? (a.add 3) = some c3 := by
  obtain ⟨_, hlen, hc⟩ := World.cells?_some h
  match cs, hlen with
  | [c0, c1, c2, c3], _ =>
    refine ⟨c0, c1, c2, c3, rfl, ?_, ?_, ?_, ?_⟩
    · simpa [Addr.add] using hc 0 (by decide)
    · simpa using hc 1 (by decide)
    · simpa using hc 2 (by decide)
    · simpa using hc 3 (by decide)
theorem readBins {fuel : Nat} {cs : List Value} {x : DataW H × List MemPlace} (h : DataW.trod enc Try.prog w 0 spare held fuel 22 cs = some x) : ∃ a n c z, cs = [.slice a n c] ∧ n ≤ c ∧ c ≤ maxLen ∧ BinsAt w a n z := by
  rcases open_slice Try.underlying22 h with ⟨rfl, _⟩ | ⟨a, len, cap, m, n, D, Pl, rfl, hb, hl, hm, hmm, _, hx⟩
  · exact ⟨none, 0, 0, fun _ => ⟨false, 0, 0, 0⟩, rfl, Nat.le_refl _, Nat.zero_le _, fun i hi => absurd hi (Nat.not_lt_zero _)⟩
  · have hlm : len ≤ m := by rw [hmm]; split <;> omega
    rw [cellsBin] at hx
    haveI : Inhabited Bin := ⟨⟨false, 0, 0, 0⟩⟩
    obtain ⟨z, hz⟩ := choose_lt (α := Bin) (n := len) (p := fun i y => w.cell? (a.add (i * 4)) = some (.bool y.front) ∧ w.cell? (a.add (i * 4 + 1)) = some (.int .i64 y.room) ∧ w.cell? (a.add (i * 4 + 2)) = some (.int .i64 y.low) ∧ w.cell? (a.add (i * 4 + 3)) = some (.int .i64 y.high)) (fun i hi => by
      obtain ⟨cs', hc, ht⟩ := hx i (by omega)
      obtain ⟨c0, c1, c2, c3, rfl, k0, k1, k2, k3⟩ := cells4 hc
      obtain ⟨y, rfl, rfl, rfl, rfl⟩ := readBin ht
      rw [add_add] at k1 k2 k3
      exact ⟨y, k0, k1, k2, k3⟩)
    refine ⟨some a, len, cap, z, rfl, hl, hm, fun i hi => ?_⟩
    have h0 : ∃ v0, w.cell? a = some v0 := ⟨_, by have := (hz 0 (by omega)).1; simpa [Addr.add] using this⟩
    obtain ⟨k0, k1, k2, k3⟩ := hz i hi
    obtain ⟨b, o, rfl, hb', e0⟩ := addrOf k0 h0
    rw [Go.WideShapes.add_plain] at k1 k2 k3
    exact ⟨b, o, rfl, hb', e0, by rw [Nat.add_assoc]; exact k1, by rw [Nat.add_assoc]; exact k2, by rw [Nat.add_assoc]; exact k3⟩
theorem openPlan {r : Reach} {b0 : Nat} {v : Value} {d : DataW H} {ps : List MemPlace} (hv : Value.okWide Try.prog w r b0 25 v) (h : DataW.Trod enc Try.prog w 0 spare held 25 v d ps) : ∃ p : Pl, v = p.val ∧ p.At w := by
  obtain ⟨c0, c1, y0, y1, m, rfl, rfl, rfl, hy0, hy1⟩ := open_agg2 Try.underlying25 (by kernel_rfl) cellsPlan hv h
  obtain ⟨a, n, c, z, e0, h1, h2, h3⟩ := readBins hy0
  obtain ⟨rr, e1, hr⟩ := readInts hy1
  simp only [List.cons.injEq, and_true] at e0 e1
  subst e0 e1
  exact ⟨⟨a, n, c, z, rr.a, rr.n, rr.c, rr.z⟩, rfl, h1, h2, h3, hr.le, hr.cap, hr.ints⟩
end
end Go.Proofs.Ytbcacebifpagpaa

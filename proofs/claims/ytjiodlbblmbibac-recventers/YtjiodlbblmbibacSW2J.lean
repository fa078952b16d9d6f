/- Texts that were built one behind the other, joined. -/
import Derived.Test.YtjiodlbblmbibacSW1
import Derived.Test.YtjiodlbblmbibacHW1J
import Derived.Lib.QuietBelow
/- What Check of a state asks part by part: the closures, and tooMany, badOrders, badMoves, badSums. -/
namespace Go.Proofs.Ytjiodlbblmbibac
open Go.RowKit Go.Shelf
set_option linter.unusedVariables false

set_option maxHeartbeats 400000 in
theorem tooMany1_any (x : Od) (w : World) :
    Calls Try.prog 72 #[x.val] w fun e w' => e = .returned (.bool (fewLines x)) ∧ Below w.heap.size w w' := by
  unfold fewLines Od.val
  go_enter Try.func72, Try.ntmps72
  go_wp2_with (go_at_call 55; refine calls_to (Within_any _ _ _ _) ?_)
  all_goals go_ret
  all_goals exact ⟨rfl, (Below.refl _ _).alloc (Nat.le_refl _) _⟩

set_option maxHeartbeats 1000000 in
theorem badOrders1_any (B : Nat) (p : Pl) (x : Hd) (w : World) (les : p.ns ≤ p.cs) (caps : p.cs ≤ maxLen) (hB : B < w.heap.size) (c1 : w.cell? ⟨B, 1, none⟩ = some (.slice p.sa p.ns p.cs)) :
    Calls Try.prog 74 #[x.val, .pointer (some ⟨B, 0, none⟩)] w fun e w' => e = .returned (.bool (badLine p x)) ∧ Below w.heap.size w w' := by
  have hns : p.ns ≤ maxLen := Nat.le_trans les caps
  unfold maxLen at caps
  unfold badLine Hd.val
  cases h1 : inB x.o 0 ((p.ns : Int) - 1)
  · go_enter Try.func74, Try.ntmps74
    go_wp2_with (first | (go_at_call 55; refine calls_to (Within_any _ _ _ _) ?_) | (go_at_call 30; refine calls_to (Has_any _ _ _ hns) ?_))
    all_goals go_ret
    all_goals exact ⟨by simp, (Below.refl _ _).alloc (Nat.le_refl _) _⟩
  · cases h2 : inB x.l 1 200
    · go_enter Try.func74, Try.ntmps74
      go_wp2_with (first | (go_at_call 55; refine calls_to (Within_any _ _ _ _) ?_) | (go_at_call 30; refine calls_to (Has_any _ _ _ hns) ?_))
      all_goals go_ret
      all_goals exact ⟨by simp, (Below.refl _ _).alloc (Nat.le_refl _) _⟩
    · cases h3 : inB x.b 0 x.l
      · go_enter Try.func74, Try.ntmps74
        go_wp2_with (first | (go_at_call 55; refine calls_to (Within_any _ _ _ _) ?_) | (go_at_call 30; refine calls_to (Has_any _ _ _ hns) ?_))
        all_goals go_ret
        all_goals exact ⟨by simp, (Below.refl _ _).alloc (Nat.le_refl _) _⟩
      · go_enter Try.func74, Try.ntmps74
        go_wp2_with (first | (go_at_call 55; refine calls_to (Within_any _ _ _ _) ?_) | (go_at_call 30; refine calls_to (Has_any _ _ _ hns) ?_))
        all_goals go_ret
        all_goals exact ⟨by simp, (Below.refl _ _).alloc (Nat.le_refl _) _⟩

set_option maxHeartbeats 1000000 in
theorem badMoves1_any (B : Nat) (p : Pl) (x : Hd) (w : World) (les : p.ns ≤ p.cs) (caps : p.cs ≤ maxLen) (leb : p.nb ≤ p.cb) (capb : p.cb ≤ maxLen) (hB : B < w.heap.size) (c0 : w.cell? ⟨B, 0, none⟩ = some (.slice p.ab p.nb p.cb)) (c1 : w.cell? ⟨B, 1, none⟩ = some (.slice p.sa p.ns p.cs)) :
    Calls Try.prog 79 #[x.val, .pointer (some ⟨B, 0, none⟩)] w fun e w' => e = .returned (.bool (badMove p x)) ∧ Below w.heap.size w w' := by
  have hns : p.ns ≤ maxLen := Nat.le_trans les caps
  have hnb : p.nb ≤ maxLen := Nat.le_trans leb capb
  unfold maxLen at caps capb
  unfold badMove Hd.val
  cases h1 : inB x.o 0 ((p.ns : Int) - 1)
  · go_enter Try.func79, Try.ntmps79
    go_wp2_with (first | (go_at_call 55; refine calls_to (Within_any _ _ _ _) ?_) | (go_at_call 30; first | refine calls_to (Has_any _ _ _ hns) ?_ | refine calls_to (Has_any _ _ _ hnb) ?_))
    all_goals go_ret
    all_goals exact ⟨by simp, (Below.refl _ _).alloc (Nat.le_refl _) _⟩
  cases h2 : inB x.l 0 ((p.nb : Int) - 1)
  · go_enter Try.func79, Try.ntmps79
    go_wp2_with (first | (go_at_call 55; refine calls_to (Within_any _ _ _ _) ?_) | (go_at_call 30; first | refine calls_to (Has_any _ _ _ hns) ?_ | refine calls_to (Has_any _ _ _ hnb) ?_))
    all_goals go_ret
    all_goals exact ⟨by simp, (Below.refl _ _).alloc (Nat.le_refl _) _⟩
  cases h3 : inB x.b 0 ((p.nb : Int) - 1)
  · go_enter Try.func79, Try.ntmps79
    go_wp2_with (first | (go_at_call 55; refine calls_to (Within_any _ _ _ _) ?_) | (go_at_call 30; first | refine calls_to (Has_any _ _ _ hns) ?_ | refine calls_to (Has_any _ _ _ hnb) ?_))
    all_goals go_ret
    all_goals exact ⟨by simp, (Below.refl _ _).alloc (Nat.le_refl _) _⟩
  cases h4 : (x.l == x.b)
  · go_enter Try.func79, Try.ntmps79
    go_wp2_with (first | (go_at_call 55; refine calls_to (Within_any _ _ _ _) ?_) | (go_at_call 30; first | refine calls_to (Has_any _ _ _ hns) ?_ | refine calls_to (Has_any _ _ _ hnb) ?_))
    all_goals go_ret
    all_goals exact ⟨by simp, (Below.refl _ _).alloc (Nat.le_refl _) _⟩
  · go_enter Try.func79, Try.ntmps79
    go_wp2_with (first | (go_at_call 55; refine calls_to (Within_any _ _ _ _) ?_) | (go_at_call 30; first | refine calls_to (Has_any _ _ _ hns) ?_ | refine calls_to (Has_any _ _ _ hnb) ?_))
    all_goals go_ret
    all_goals exact ⟨by simp, (Below.refl _ _).alloc (Nat.le_refl _) _⟩

set_option maxHeartbeats 400000 in
theorem badSums11_any (B : Nat) (x low : Int) (w : World) (c0 : w.cell? ⟨B, 0, none⟩ = some (.int .i64 low)) :
    Calls Try.prog 81 #[.int .i64 x, .pointer (some ⟨B, 0, none⟩)] w fun e w' => e = .returned (.bool (!inB x low 1048576)) ∧ w' = w := by
  go_enter Try.func81, Try.ntmps81
  go_wp2_with (go_at_call 55; refine calls_to (Within_any _ _ _ _) ?_)
  all_goals go_ret
  all_goals exact ⟨rfl, rfl⟩

set_option maxHeartbeats 1000000 in
theorem badSums1_any (B : Nat) (p : Pl) (r : Rw) (low : Int) (w : World) (hr : r.At w) (les : p.ns ≤ p.cs) (caps : p.cs ≤ maxLen) (hB : B < w.heap.size) (c1 : w.cell? ⟨B, 1, none⟩ = some (.slice p.sa p.ns p.cs)) :
    Calls Try.prog 80 #[.slice r.a r.n r.c, .int .i64 low, .pointer (some ⟨B, 0, none⟩)] w fun e w' => e = .returned (.bool (badSum p r low)) ∧ Below w.heap.size w w' := by
  have rcap0 := hr.cap
  have rle := hr.le
  have rcap := rcap0
  unfold maxLen at rcap caps
  have hB1 : Below w.heap.size w (w.alloc (.cells #[.int .i64 low] 3)) := (Below.refl w.heap.size w).alloc (Nat.le_refl _) _
  have ints := (hr.below hB1).ints
  cases h1 : ((r.n : Int) != (p.ns : Int))
  · go_enter Try.func80, Try.ntmps80
    go_wp2_with fail
    refine (anyI 81 #[.pointer (some ⟨w.heap.size, 0, none⟩)] (fun i => !inB (r.z i) low 1048576) _ _ _ _ rle rcap0 r.z ints (enters_of Try.func81 (by kernel_rfl) rfl) (fun i w1 _ h => (badSums11_any w.heap.size _ low w1 ((h.cell (p := ⟨w.heap.size, 0, none⟩) (by simp)).trans (by simp))).mono fun _ _ h => ⟨h.1, h.2 ▸ Below.refl _ _⟩)).mono ?_
    rintro e w1 ⟨rfl, hB2⟩
    go_wp2_with fail
    go_ret
    exact ⟨by simp [badSum, h1], hB1.trans (hB2.mono (by simp))⟩
  · go_enter Try.func80, Try.ntmps80
    go_wp2_with fail
    go_ret
    exact ⟨by simp [badSum, h1], hB1⟩

end Go.Proofs.Ytjiodlbblmbibac
/- What Check of a state asks part by part: tooMany, badOrders, badHolds, badMoves, badSums. -/
namespace Go.Proofs.Ytjiodlbblmbibac
open Go.RowKit Go.Shelf Go.Sort
set_option linter.unusedVariables false

/-- The two boxes: of the plan and of the state. -/
def Boxes (w : World) (Bp Bs : Nat) (p : Pl) (s : St) : Prop :=
  (Bp < w.heap.size ∧ w.cell? ⟨Bp, 0, none⟩ = some (.slice p.ab p.nb p.cb) ∧ w.cell? ⟨Bp, 1, none⟩ = some (.slice p.sa p.ns p.cs)) ∧
  Bs < w.heap.size ∧ w.cell? ⟨Bs, 0, none⟩ = some (.slice s.on.a s.on.n s.on.c) ∧ w.cell? ⟨Bs, 1, none⟩ = some (.slice s.os.a s.os.n s.os.c) ∧ w.cell? ⟨Bs, 2, none⟩ = some (.slice s.hs.a s.hs.n s.hs.c) ∧
    w.cell? ⟨Bs, 3, none⟩ = some (.slice s.ms.a s.ms.n s.ms.c) ∧ w.cell? ⟨Bs, 4, none⟩ = some (.slice s.si.a s.si.n s.si.c) ∧ w.cell? ⟨Bs, 5, none⟩ = some (.slice s.so.a s.so.n s.so.c) ∧ w.cell? ⟨Bs, 6, none⟩ = some (.slice s.sf.a s.sf.n s.sf.c)
theorem Boxes.below {w w' : World} {Bp Bs : Nat} {p : Pl} {s : St} (h : Boxes w Bp Bs p s) (hB : Below w.heap.size w w') : Boxes w' Bp Bs p s := by
  obtain ⟨⟨a, b, c⟩, d, e0, e1, e2, e3, e4, e5, e6⟩ := h
  exact ⟨⟨Nat.lt_of_lt_of_le a hB.size, (hB.cell (p := ⟨Bp, 0, none⟩) a).trans b, (hB.cell (p := ⟨Bp, 1, none⟩) a).trans c⟩, Nat.lt_of_lt_of_le d hB.size, (hB.cell (p := ⟨Bs, 0, none⟩) d).trans e0, (hB.cell (p := ⟨Bs, 1, none⟩) d).trans e1, (hB.cell (p := ⟨Bs, 2, none⟩) d).trans e2, (hB.cell (p := ⟨Bs, 3, none⟩) d).trans e3, (hB.cell (p := ⟨Bs, 4, none⟩) d).trans e4, (hB.cell (p := ⟨Bs, 5, none⟩) d).trans e5, (hB.cell (p := ⟨Bs, 6, none⟩) d).trans e6⟩
theorem boxes_new (w : World) (p : Pl) (s : St) (t u : TypeId) : Boxes ((w.alloc (.cells #[.slice p.ab p.nb p.cb, .slice p.sa p.ns p.cs] t)).alloc (.cells s.cells u)) w.heap.size (w.heap.size + 1) p s := by
  have hp := (Blk.new w #[.slice p.ab p.nb p.cb, .slice p.sa p.ns p.cs] t).alloc (.cells s.cells u)
  have hs := Blk.new (w.alloc (.cells #[.slice p.ab p.nb p.cb, .slice p.sa p.ns p.cs] t)) s.cells u
  rw [World.size_alloc] at hs
  exact ⟨⟨hp.lt, hp.cell (j := 0) (by simp), hp.cell (j := 1) (by simp)⟩, hs.lt, hs.cell (j := 0) (by simp [St.cells]), hs.cell (j := 1) (by simp [St.cells]), hs.cell (j := 2) (by simp [St.cells]), hs.cell (j := 3) (by simp [St.cells]), hs.cell (j := 4) (by simp [St.cells]), hs.cell (j := 5) (by simp [St.cells]), hs.cell (j := 6) (by simp [St.cells])⟩
theorem two_below (w : World) (o o' : Obj) : Below w.heap.size w ((w.alloc o).alloc o') := ((Below.refl w.heap.size w).alloc (Nat.le_refl _) o).alloc (by simp) o'

set_option maxHeartbeats 1000000 in
theorem badOrders2_any (B Bp : Nat) (p : Pl) (x : Od) (w : World) (hx : x.ls.At w) (les : p.ns ≤ p.cs) (caps : p.cs ≤ maxLen) (hBp : Bp < w.heap.size) (c1 : w.cell? ⟨Bp, 1, none⟩ = some (.slice p.sa p.ns p.cs)) (hB : B < w.heap.size) (c2 : w.cell? ⟨B, 0, none⟩ = some (.func (.func 74) #[] #[.pointer (some ⟨Bp, 0, none⟩)])) :
    Calls Try.prog 75 #[x.val, .pointer (some ⟨B, 0, none⟩)] w fun e w' => e = .returned (.bool (badOrder p x)) ∧ Below w.heap.size w w' := by
  unfold Od.val
  have xcap0 := hx.cap
  have xle := hx.le
  have xcap := xcap0
  unfold maxLen at xcap
  have hB1 : Below w.heap.size w (w.alloc (.cells #[.int .i64 x.k, .slice x.ls.a x.ls.n x.ls.c] 51)) := (Below.refl w.heap.size w).alloc (Nat.le_refl _) _
  have hx1 := (hx.below hB1).hds
  cases h1 : inB x.k 0 2
  · go_enter Try.func75, Try.ntmps75
    go_wp2_with (go_at_call 55; refine calls_to (Within_any _ _ _ _) ?_)
    go_ret
    exact ⟨by simp [badOrder, h1], hB1⟩
  · go_enter Try.func75, Try.ntmps75
    go_wp2_with (go_at_call 55; refine calls_to (Within_any _ _ _ _) ?_)
    refine (anyL4 74 #[.pointer (some ⟨Bp, 0, none⟩)] (fun j => badLine p (x.ls.z j)) _ _ _ _ xle xcap0 x.ls.z hx1 (enters_of Try.func74 (by kernel_rfl) rfl) (fun i w1 _ h => badOrders1_any Bp p _ w1 les caps (Nat.lt_of_lt_of_le hBp (hB1.trans (h.mono hB1.size)).size) (((hB1.trans (h.mono hB1.size)).cell (p := ⟨Bp, 1, none⟩) hBp).trans c1))).mono ?_
    rintro e w1 ⟨rfl, hB2⟩
    go_wp2_with fail
    go_ret
    exact ⟨by simp [badOrder, h1], hB1.trans (hB2.mono hB1.size)⟩

set_option maxHeartbeats 1000000 in
theorem tooMany_any (s : St) (w : World) (hs : s.At w) :
    Calls Try.prog 34 #[s.val] w fun e w' => e = .returned (.bool (tooManyB s)) ∧ Below w.heap.size w w' := by
  unfold St.val
  have ocap0 := hs.os.cap
  have ole := hs.os.le
  have hB1 : Below w.heap.size w (w.alloc (.cells s.cells 31)) := (Below.refl w.heap.size w).alloc (Nat.le_refl _) _
  have ho1 := (hs.os.below hB1).ods
  unfold St.cells at hB1 ho1
  cases h1 : decide (4 < s.os.n)
  · have h1' : ¬ (4 : Int) < (s.os.n : Int) := by have := of_decide_eq_false h1; omega
    cases h2 : decide (8 < s.ms.n)
    · have h2' : ¬ (8 : Int) < (s.ms.n : Int) := by have := of_decide_eq_false h2; omega
      have H12 : Hid (decide (4 < s.os.n) = false ∧ decide (8 < s.ms.n) = false) := ⟨h1, h2⟩
      clear h1 h2
      go_enter Try.func34, Try.ntmps34
      go_wp2_with fail
      refine (anyO4 72 #[] (fun i => fewLines (s.os.z i)) _ _ _ _ ole ocap0 s.os.z ho1 (enters_of Try.func72 (by kernel_rfl) rfl) (fun i w1 _ _ => by rw [Array.append_empty]; exact tooMany1_any _ _)).mono ?_
      rintro e w1 ⟨rfl, hB2⟩
      go_wp2_with fail
      go_ret
      exact ⟨by simp [tooManyB, H12.out.1, H12.out.2], hB1.trans (hB2.mono hB1.size)⟩
    · have h2' : (8 : Int) < (s.ms.n : Int) := by have := of_decide_eq_true h2; omega
      have H12 : Hid (decide (8 < s.ms.n) = true) := h2
      clear h1 h2
      go_enter Try.func34, Try.ntmps34
      go_wp2_with fail
      go_ret
      exact ⟨by simp [tooManyB, H12.out], hB1⟩
  · have h1' : (4 : Int) < (s.os.n : Int) := by have := of_decide_eq_true h1; omega
    have H12 : Hid (decide (4 < s.os.n) = true) := h1
    clear h1
    go_enter Try.func34, Try.ntmps34
    go_wp2_with fail
    go_ret
    exact ⟨by simp [tooManyB, H12.out], hB1⟩

set_option maxHeartbeats 1000000 in
theorem badOrders_any (p : Pl) (s : St) (w : World) (hp : p.At w) (hs : s.At w) :
    Calls Try.prog 35 #[p.val, s.val] w fun e w' => e = .returned (.bool (badOrdersB p s)) ∧ Below w.heap.size w w' := by
  have X := boxes_new w p s 25 31
  have hB1 := two_below w (.cells #[.slice p.ab p.nb p.cb, .slice p.sa p.ns p.cs] 25) (.cells s.cells 31)
  unfold St.cells at X hB1
  have ocap0 := hs.os.cap
  have ole := hs.os.le
  unfold Pl.val St.val
  go_enter Try.func35, Try.ntmps35
  go_wp2_with fail
  obtain ⟨W, hW, hWB, hWc⟩ : ∃ W, (((w.alloc (.cells #[.slice p.ab p.nb p.cb, .slice p.sa p.ns p.cs] 25)).alloc (.cells #[.slice s.on.a s.on.n s.on.c, .slice s.os.a s.os.n s.os.c, .slice s.hs.a s.hs.n s.hs.c, .slice s.ms.a s.ms.n s.ms.c, .slice s.si.a s.si.n s.si.c, .slice s.so.a s.so.n s.so.c, .slice s.sf.a s.sf.n s.sf.c] 31)).alloc (.cells #[.func (.func 74) #[] #[.pointer (some ⟨w.heap.size, 0, none⟩)]] 93)) = W ∧ Below (w.heap.size + 2) ((w.alloc (.cells #[.slice p.ab p.nb p.cb, .slice p.sa p.ns p.cs] 25)).alloc (.cells #[.slice s.on.a s.on.n s.on.c, .slice s.os.a s.os.n s.os.c, .slice s.hs.a s.hs.n s.hs.c, .slice s.ms.a s.ms.n s.ms.c, .slice s.si.a s.si.n s.si.c, .slice s.so.a s.so.n s.so.c, .slice s.sf.a s.sf.n s.sf.c] 31)) W ∧ Blk W (w.heap.size + 1 + 1) 93 1 (fun j => (#[.func (.func 74) #[] #[.pointer (some ⟨w.heap.size, 0, none⟩)]] : Array Value).getD j default) :=
    ⟨_, rfl, (Below.refl _ _).alloc (by simp) _, Blk.mk' (by simp) rfl⟩
  rw [hW]
  have X2 := X.below (by simpa using hWB)
  have hB2 : Below w.heap.size w W := hB1.trans (hWB.mono (by omega))
  clear X hW
  have ho1 := (hs.os.below hB2).ods
  refine (anyO4 75 #[.pointer (some ⟨w.heap.size + 1 + 1, 0, none⟩)] (fun i => badOrder p (s.os.z i)) _ _ _ _ ole ocap0 s.os.z ho1 (enters_of Try.func75 (by kernel_rfl) rfl) (fun i w1 hi h => ?_)).mono ?_
  · obtain ⟨_, _, _, _, _, _, hl⟩ := (OdsAt.below ho1 h) i hi
    have X3 := X2.below h
    have hb := hWc.below h
    exact badOrders2_any (w.heap.size + 1 + 1) w.heap.size p _ w1 hl hp.les hp.caps X3.1.1 X3.1.2.2 hb.lt (hb.cell (j := 0) (by decide))
  · rintro e w1 ⟨rfl, hB3⟩
    go_wp2_with fail
    go_ret
    exact ⟨rfl, hB2.trans (hB3.mono hB2.size)⟩

end Go.Proofs.Ytjiodlbblmbibac

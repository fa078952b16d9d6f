/- What Check of a state asks part by part: tooMany, badOrders, badHolds, badMoves, badSums. -/
import Derived.Test.YtjiodlbblmbibacSW2
import Derived.Lib.QuietBelow
namespace Go.Proofs.Ytjiodlbblmbibac
open Go.RowKit Go.Shelf Go.Sort
set_option linter.unusedVariables false

/-- The two boxes: of the plan and of the state. -/
def Boxes (w : World) (Bp Bs : Nat) (p : Pl) (s : St) : Prop :=
  (Bp < w.heap.size ∧ w.cell? ⟨Bp, 0, none⟩ = some (.slice p.ab p.nb p.cb) ∧ w.cell? ⟨Bp, 1, none⟩ = some (.slice p.sa p.ns p.cs)) ∧
  Bs < w.heap.size ∧ w.cell? ⟨Bs, 0, none⟩ = some (.slice s.on.a s.on.n s.on.c) ∧ w.cell? ⟨Bs, 1, none⟩ = some (.slice s.os.a s.os.n s.os.c) ∧ w.cell? ⟨Bs, 2, none⟩ = some (.slice s.hs.a s.hs.n s.hs.c) ∧
    w.cell? ⟨Bs, 3, none⟩ = some (.slice s.ms.a s.ms.n s.ms.c) ∧ w.cell? ⟨Bs, 4, none⟩ = some (.slice s.si.a s.si.n s.si.c) ∧ w.cell? ⟨Bs, 5, none⟩ = some (.slice s.so.a s.so.n s.so.c) ∧ w.cell? ⟨Bs, 6, none⟩ = some (.slice s.sf.a s.sf.n s.sf.c)
theorem Boxes.below {w w' : World} {Bp Bs : Nat} {p : Pl} {s : St} (h : Boxes w Bp Bs p s) (hB : Below w.heap.size w w') : Boxes w' Bp Bs p s := by
  obtain ⟨⟨a, b, c⟩, d, e0, e1, e2, e3, e4, e5, e6⟩ := h
  exact ⟨⟨Nat.lt_of_lt_of_le a hB.size, (hB.cell (p := ⟨Bp, 0, none⟩) a).trans b, (hB.cell (p := ⟨Bp, 1, none⟩) a).trans c⟩, Nat.lt_of_lt_of_le d hB.size, (hB.cell (p := ⟨Bs, 0, none⟩) d).trans e0, (hB.cell (p := ⟨Bs, 1, none⟩) d).trans e1, (hB.cell (p := ⟨Bs, 2, none⟩) d).trans e2, (hB.cell (p := ⟨Bs, 3, none⟩) d).trans e3, (hB.cell (p := ⟨Bs, 4, none⟩) d).trans e4, (hB.cell (p := ⟨Bs, 5, none⟩) d).trans e5, (hB.cell (p := ⟨Bs, 6, none⟩) d).trans e6⟩
theorem boxes_new (w : World) (p : Pl) (s : St) (t u : TypeId) : Boxes ((w.alloc (.cells #[.slice p.ab p.nb p.cb, .slice p.sa p.ns p.cs] t)).alloc (.cells s.cells u)) w.heap.size (w.heap.size + 1) p s := by
  have hp := (Blk.new w #[.slice p.ab p.nb p.cb, .slice p.sa p.ns p.cs] t).alloc (.cells s.cells u)
  have hs := Blk.new (w.alloc (.cells #[.slice p.ab p.nb p.cb, .slice p.sa p.ns p.cs] t)) s.cells u
  rw [World.size_alloc] at hs
  exact ⟨⟨hp.lt, hp.cell (j := 0) (by simp), hp.cell (j := 1) (by simp)⟩, hs.lt, hs.cell (j := 0) (by simp [St.cells]), hs.cell (j := 1) (by simp [St.cells]), hs.cell (j := 2) (by simp [St.cells]), hs.cell (j := 3) (by simp [St.cells]), hs.cell (j := 4) (by simp [St.cells]), hs.cell (j := 5) (by simp [St.cells]), hs.cell (j := 6) (by simp [St.cells])⟩
theorem two_below (w : World) (o o' : Obj) : Below w.heap.size w ((w.alloc o).alloc o') := ((Below.refl w.heap.size w).alloc (Nat.le_refl _) o).alloc (by simp) o'

set_option maxHeartbeats 1000000 in
theorem badOrders2_any (B Bp : Nat) (p : Pl) (x : Od) (w : World) (hx : x.ls.At w) (les : p.ns ≤ p.cs) (caps : p.cs ≤ maxLen) (hBp : Bp < w.heap.size) (c1 : w.cell? ⟨Bp, 1, none⟩ = some (.slice p.sa p.ns p.cs)) (hB : B < w.heap.size) (c2 : w.cell? ⟨B, 0, none⟩ = some (.func (.func 74) #[] #[.pointer (some ⟨Bp, 0, none⟩)])) :
    Calls Try.prog 75 #[x.val, .pointer (some ⟨B, 0, none⟩)] w fun e w' => e = .returned (.bool (badOrder p x)) ∧ Below w.heap.size w w' := by
  unfold Od.val
  have xcap0 := hx.cap
  have xle := hx.le
  have xcap := xcap0
  unfold maxLen at xcap
  have hB1 : Below w.heap.size w (w.alloc (.cells #[.int .i64 x.k, .slice x.ls.a x.ls.n x.ls.c] 51)) := (Below.refl w.heap.size w).alloc (Nat.le_refl _) _
  have hx1 := (hx.below hB1).hds
  cases h1 : inB x.k 0 2
  · go_enter Try.func75, Try.ntmps75
    go_wp2_with (go_at_call 55; refine calls_to (Within_any _ _ _ _) ?_)
    go_ret
    exact ⟨by simp [badOrder, h1], hB1⟩
  · go_enter Try.func75, Try.ntmps75
    go_wp2_with (go_at_call 55; refine calls_to (Within_any _ _ _ _) ?_)
    refine (anyL4 74 #[.pointer (some ⟨Bp, 0, none⟩)] (fun j => badLine p (x.ls.z j)) _ _ _ _ xle xcap0 x.ls.z hx1 (enters_of Try.func74 (by kernel_rfl) rfl) (fun i w1 _ h => badOrders1_any Bp p _ w1 les caps (Nat.lt_of_lt_of_le hBp (hB1.trans (h.mono hB1.size)).size) (((hB1.trans (h.mono hB1.size)).cell (p := ⟨Bp, 1, none⟩) hBp).trans c1))).mono ?_
    rintro e w1 ⟨rfl, hB2⟩
    go_wp2_with fail
    go_ret
    exact ⟨by simp [badOrder, h1], hB1.trans (hB2.mono hB1.size)⟩

set_option maxHeartbeats 1000000 in
theorem tooMany_any (s : St) (w : World) (hs : s.At w) :
    Calls Try.prog 34 #[s.val] w fun e w' => e = .returned (.bool (tooManyB s)) ∧ Below w.heap.size w w' := by
  unfold St.val
  have ocap0 := hs.os.cap
  have ole := hs.os.le
  have hB1 : Below w.heap.size w (w.alloc (.cells s.cells 31)) := (Below.refl w.heap.size w).alloc (Nat.le_refl _) _
  have ho1 := (hs.os.below hB1).ods
  unfold St.cells at hB1 ho1
  cases h1 : decide (4 < s.os.n)
  · have h1' : ¬ (4 : Int) < (s.os.n : Int) := by have := of_decide_eq_false h1; omega
    cases h2 : decide (8 < s.ms.n)
    · have h2' : ¬ (8 : Int) < (s.ms.n : Int) := by have := of_decide_eq_false h2; omega
      have H12 : Hid (decide (4 < s.os.n) = false ∧ decide (8 < s.ms.n) = false) := ⟨h1, h2⟩
      clear h1 h2
      go_enter Try.func34, Try.ntmps34
      go_wp2_with fail
      refine (anyO4 72 #[] (fun i => fewLines (s.os.z i)) _ _ _ _ ole ocap0 s.os.z ho1 (enters_of Try.func72 (by kernel_rfl) rfl) (fun i w1 _ _ => by rw [Array.append_empty]; exact tooMany1_any _ _)).mono ?_
      rintro e w1 ⟨rfl, hB2⟩
      go_wp2_with fail
      go_ret
      exact ⟨by simp [tooManyB, H12.out.1, H12.out.2], hB1.trans (hB2.mono hB1.size)⟩
    · have h2' : (8 : Int) < (s.ms.n : Int) := by have := of_decide_eq_true h2; omega
      have H12 : Hid (decide (8 < s.ms.n) = true) := h2
      clear h1 h2
      go_enter Try.func34, Try.ntmps34
      go_wp2_with fail
      go_ret
      exact ⟨by simp [tooManyB, H12.out], hB1⟩
  · have h1' : (4 : Int) < (s.os.n : Int) := by have := of_decide_eq_true h1; omega
    have H12 : Hid (decide (4 < s.os.n) = true) := h1
    clear h1
    go_enter Try.func34, Try.ntmps34
    go_wp2_with fail
    go_ret
    exact ⟨by simp [tooManyB, H12.out], hB1⟩

set_option maxHeartbeats 1000000 in
theorem badOrders_any (p : Pl) (s : St) (w : World) (hp : p.At w) (hs : s.At w) :
    Calls Try.prog 35 #[p.val, s.val] w fun e w' => e = .returned (.bool (badOrdersB p s)) ∧ Below w.heap.size w w' := by
  have X := boxes_new w p s 25 31
  have hB1 := two_below w (.cells #[.slice p.ab p.nb p.cb, .slice p.sa p.ns p.cs] 25) (.cells s.cells 31)
  unfold St.cells at X hB1
  have ocap0 := hs.os.cap
  have ole := hs.os.le
  unfold Pl.val St.val
  go_enter Try.func35, Try.ntmps35
  go_wp2_with fail
  obtain ⟨W, hW, hWB, hWc⟩ : ∃ W, (((w.alloc (.cells #[.slice p.ab p.nb p.cb, .slice p.sa p.ns p.cs] 25)).alloc (.cells #[.slice s.on.a s.on.n s.on.c, .slice s.os.a s.os.n s.os.c, .slice s.hs.a s.hs.n s.hs.c, .slice s.ms.a s.ms.n s.ms.c, .slice s.si.a s.si.n s.si.c, .slice s.so.a s.so.n s.so.c, .slice s.sf.a s.sf.n s.sf.c] 31)).alloc (.cells #[.func (.func 74) #[] #[.pointer (some ⟨w.heap.size, 0, none⟩)]] 93)) = W ∧ Below (w.heap.size + 2) ((w.alloc (.cells #[.slice p.ab p.nb p.cb, .slice p.sa p.ns p.cs] 25)).alloc (.cells #[.slice s.on.a s.on.n s.on.c, .slice s.os.a s.os.n s.os.c, .slice s.hs.a s.hs.n s.hs.c, .slice s.ms.a s.ms.n s.ms.c, .slice s.si.a s.si.n s.si.c, .slice s.so.a s.so.n s.so.c, .slice s.sf.a s.sf.n s.sf.c] 31)) W ∧ Blk W (w.heap.size + 1 + 1) 93 1 (fun j => (#[.func (.func 74) #[] #[.pointer (some ⟨w.heap.size, 0, none⟩)]] : Array Value).getD j default) :=
    ⟨_, rfl, (Below.refl _ _).alloc (by simp) _, Blk.mk' (by simp) rfl⟩
  rw [hW]
  have X2 := X.below (by simpa using hWB)
  have hB2 : Below w.heap.size w W := hB1.trans (hWB.mono (by omega))
  clear X hW
  have ho1 := (hs.os.below hB2).ods
  refine (anyO4 75 #[.pointer (some ⟨w.heap.size + 1 + 1, 0, none⟩)] (fun i => badOrder p (s.os.z i)) _ _ _ _ ole ocap0 s.os.z ho1 (enters_of Try.func75 (by kernel_rfl) rfl) (fun i w1 hi h => ?_)).mono ?_
  · obtain ⟨_, _, _, _, _, _, hl⟩ := (OdsAt.below ho1 h) i hi
    have X3 := X2.below h
    have hb := hWc.below h
    exact badOrders2_any (w.heap.size + 1 + 1) w.heap.size p _ w1 hl hp.les hp.caps X3.1.1 X3.1.2.2 hb.lt (hb.cell (j := 0) (by decide))
  · rintro e w1 ⟨rfl, hB3⟩
    go_wp2_with fail
    go_ret
    exact ⟨rfl, hB2.trans (hB3.mono hB2.size)⟩

end Go.Proofs.Ytjiodlbblmbibac

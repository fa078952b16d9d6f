/- Texts that were built one behind the other, joined; what AllocTakes does not reach is left out. -/
import Derived.Test.YtbcacebifpagpacK1AllocTakes
import Derived.Lib.QuietBelow
import Derived.Maps.AppendAt
import Derived.ArgAppend
import Derived.Deep.Upon
namespace Go.Proofs.Ytbcacebifpagpac
open Go.RowKit Go.Shelf Go.Sort
set_option linter.unusedVariables false
def Boxes (w : World) (Bp Bs : Nat) (p : Pl) (s : St) : Prop :=
  (Bp < w.heap.size ∧ w.cell? ⟨Bp, 0, none⟩ = some (.slice p.ab p.nb p.cb) ∧ w.cell? ⟨Bp, 1, none⟩ = some (.slice p.sa p.ns p.cs)) ∧
  Bs < w.heap.size ∧ w.cell? ⟨Bs, 0, none⟩ = some (.slice s.on.a s.on.n s.on.c) ∧ w.cell? ⟨Bs, 1, none⟩ = some (.slice s.os.a s.os.n s.os.c) ∧ w.cell? ⟨Bs, 2, none⟩ = some (.slice s.hs.a s.hs.n s.hs.c) ∧
    w.cell? ⟨Bs, 3, none⟩ = some (.slice s.ms.a s.ms.n s.ms.c) ∧ w.cell? ⟨Bs, 4, none⟩ = some (.slice s.si.a s.si.n s.si.c) ∧ w.cell? ⟨Bs, 5, none⟩ = some (.slice s.so.a s.so.n s.so.c) ∧ w.cell? ⟨Bs, 6, none⟩ = some (.slice s.sf.a s.sf.n s.sf.c)
theorem Boxes.below {w w' : World} {Bp Bs : Nat} {p : Pl} {s : St} (h : Boxes w Bp Bs p s) (hB : Below w.heap.size w w') : Boxes w' Bp Bs p s := by
  obtain ⟨⟨a, b, c⟩, d, e0, e1, e2, e3, e4, e5, e6⟩ := h
  exact ⟨⟨Nat.lt_of_lt_of_le a hB.size, (hB.cell (p := ⟨Bp, 0, none⟩) a).trans b, (hB.cell (p := ⟨Bp, 1, none⟩) a).trans c⟩, Nat.lt_of_lt_of_le d hB.size, (hB.cell (p := ⟨Bs, 0, none⟩) d).trans e0, (hB.cell (p := ⟨Bs, 1, none⟩) d).trans e1, (hB.cell (p := ⟨Bs, 2, none⟩) d).trans e2, (hB.cell (p := ⟨Bs, 3, none⟩) d).trans e3, (hB.cell (p := ⟨Bs, 4, none⟩) d).trans e4, (hB.cell (p := ⟨Bs, 5, none⟩) d).trans e5, (hB.cell (p := ⟨Bs, 6, none⟩) d).trans e6⟩
theorem boxes_new (w : World) (p : Pl) (s : St) (t u : TypeId) : Boxes ((w.alloc (.cells #[.slice p.ab p.nb p.cb, .slice p.sa p.ns p.cs] t)).alloc (.cells s.cells u)) w.heap.size (w.heap.size + 1) p s := by
  have hp := (Blk.new w #[.slice p.ab p.nb p.cb, .slice p.sa p.ns p.cs] t).alloc (.cells s.cells u)
  have hs := Blk.new (w.alloc (.cells #[.slice p.ab p.nb p.cb, .slice p.sa p.ns p.cs] t)) s.cells u
  rw [World.size_alloc] at hs
  exact ⟨⟨hp.lt, hp.cell (j := 0) (by simp), hp.cell (j := 1) (by simp)⟩, hs.lt, hs.cell (j := 0) (by simp [St.cells]), hs.cell (j := 1) (by simp [St.cells]), hs.cell (j := 2) (by simp [St.cells]), hs.cell (j := 3) (by simp [St.cells]), hs.cell (j := 4) (by simp [St.cells]), hs.cell (j := 5) (by simp [St.cells]), hs.cell (j := 6) (by simp [St.cells])⟩
theorem two_below (w : World) (o o' : Obj) : Below w.heap.size w ((w.alloc o).alloc o') := ((Below.refl w.heap.size w).alloc (Nat.le_refl _) o).alloc (by simp) o'
set_option maxHeartbeats 1000000 in
theorem badOrders2_any (B Bp : Nat) (p : Pl) (x : Od) (w : World) (hx : x.ls.At w) (les : p.ns ≤ p.cs) (caps : p.cs ≤ maxLen) (hBp : Bp < w.heap.size) (c1 : w.cell? ⟨Bp, 1, none⟩ = some (.slice p.sa p.ns p.cs)) (hB : B < w.heap.size) (c2 : w.cell? ⟨B, 0, none⟩ = some (.func (.func 74) #[] #[.pointer (some ⟨Bp, 0, none⟩)])) :
    Calls Try.prog 75 #[x.val, .pointer (some ⟨B, 0, none⟩)] w fun e w' => e = .returned (.bool (badOrder p x)) ∧ Below w.heap.size w w' := by
  unfold Od.val
  have xcap0 := hx.cap
  have xle := hx.le
  have xcap := xcap0
  unfold maxLen at xcap
  have hB1 : Below w.heap.size w (w.alloc (.cells #[.int .i64 x.k, .slice x.ls.a x.ls.n x.ls.c] 51)) := (Below.refl w.heap.size w).alloc (Nat.le_refl _) _
  have hx1 := (hx.below hB1).hds
  cases h1 : inB x.k 0 2
  · go_enter Try.func75, Try.ntmps75
    go_wp2_with (go_at_call 55; refine calls_to (Within_any _ _ _ _) ?_)
    go_ret
    exact ⟨by simp [badOrder, h1], hB1⟩
  · go_enter Try.func75, Try.ntmps75
    go_wp2_with (go_at_call 55; refine calls_to (Within_any _ _ _ _) ?_)
    refine (anyL4 74 #[.pointer (some ⟨Bp, 0, none⟩)] (fun j => badLine p (x.ls.z j)) _ _ _ _ xle xcap0 x.ls.z hx1 (enters_of Try.func74 (by kernel_rfl) rfl) (fun i w1 _ h => badOrders1_any Bp p _ w1 les caps (Nat.lt_of_lt_of_le hBp (hB1.trans (h.mono hB1.size)).size) (((hB1.trans (h.mono hB1.size)).cell (p := ⟨Bp, 1, none⟩) hBp).trans c1))).mono ?_
    rintro e w1 ⟨rfl, hB2⟩
    go_wp2_with fail
    go_ret
    exact ⟨by simp [badOrder, h1], hB1.trans (hB2.mono hB1.size)⟩
set_option maxHeartbeats 1000000 in
theorem tooMany_any (s : St) (w : World) (hs : s.At w) :
    Calls Try.prog 34 #[s.val] w fun e w' => e = .returned (.bool (tooManyB s)) ∧ Below w.heap.size w w' := by
  unfold St.val
  have ocap0 := hs.os.cap
  have ole := hs.os.le
  have hB1 : Below w.heap.size w (w.alloc (.cells s.cells 31)) := (Below.refl w.heap.size w).alloc (Nat.le_refl _) _
  have ho1 := (hs.os.below hB1).ods
  unfold St.cells at hB1 ho1
  cases h1 : decide (4 < s.os.n)
  · have h1' : ¬ (4 : Int) < (s.os.n : Int) := by have := of_decide_eq_false h1; omega
    cases h2 : decide (8 < s.ms.n)
    · have h2' : ¬ (8 : Int) < (s.ms.n : Int) := by have := of_decide_eq_false h2; omega
      have H12 : Hid (decide (4 < s.os.n) = false ∧ decide (8 < s.ms.n) = false) := ⟨h1, h2⟩
      clear h1 h2
      go_enter Try.func34, Try.ntmps34
      go_wp2_with fail
      refine (anyO4 72 #[] (fun i => fewLines (s.os.z i)) _ _ _ _ ole ocap0 s.os.z ho1 (enters_of Try.func72 (by kernel_rfl) rfl) (fun i w1 _ _ => by rw [Array.append_empty]; exact tooMany1_any _ _)).mono ?_
      rintro e w1 ⟨rfl, hB2⟩
      go_wp2_with fail
      go_ret
      exact ⟨by simp [tooManyB, H12.out.1, H12.out.2], hB1.trans (hB2.mono hB1.size)⟩
    · have h2' : (8 : Int) < (s.ms.n : Int) := by have := of_decide_eq_true h2; omega
      have H12 : Hid (decide (8 < s.ms.n) = true) := h2
      clear h1 h2
      go_enter Try.func34, Try.ntmps34
      go_wp2_with fail
      go_ret
      exact ⟨by simp [tooManyB, H12.out], hB1⟩
  · have h1' : (4 : Int) < (s.os.n : Int) := by have := of_decide_eq_true h1; omega
    have H12 : Hid (decide (4 < s.os.n) = true) := h1
    clear h1
    go_enter Try.func34, Try.ntmps34
    go_wp2_with fail
    go_ret
    exact ⟨by simp [tooManyB, H12.out], hB1⟩
set_option maxHeartbeats 1000000 in
theorem badOrders_any (p : Pl) (s : St) (w : World) (hp : p.At w) (hs : s.At w) :
    Calls Try.prog 35 #[p.val, s.val] w fun e w' => e = .returned (.bool (badOrdersB p s)) ∧ Below w.heap.size w w' := by
  have X := boxes_new w p s 25 31
  have hB1 := two_below w (.cells #[.slice p.ab p.nb p.cb, .slice p.sa p.ns p.cs] 25) (.cells s.cells 31)
  unfold St.cells at X hB1
  have ocap0 := hs.os.cap
  have ole := hs.os.le
  unfold Pl.val St.val
  go_enter Try.func35, Try.ntmps35
  go_wp2_with fail
  obtain ⟨W, hW, hWB, hWc⟩ : ∃ W, (((w.alloc (.cells #[.slice p.ab p.nb p.cb, .slice p.sa p.ns p.cs] 25)).alloc (.cells #[.slice s.on.a s.on.n s.on.c, .slice s.os.a s.os.n s.os.c, .slice s.hs.a s.hs.n s.hs.c, .slice s.ms.a s.ms.n s.ms.c, .slice s.si.a s.si.n s.si.c, .slice s.so.a s.so.n s.so.c, .slice s.sf.a s.sf.n s.sf.c] 31)).alloc (.cells #[.func (.func 74) #[] #[.pointer (some ⟨w.heap.size, 0, none⟩)]] 93)) = W ∧ Below (w.heap.size + 2) ((w.alloc (.cells #[.slice p.ab p.nb p.cb, .slice p.sa p.ns p.cs] 25)).alloc (.cells #[.slice s.on.a s.on.n s.on.c, .slice s.os.a s.os.n s.os.c, .slice s.hs.a s.hs.n s.hs.c, .slice s.ms.a s.ms.n s.ms.c, .slice s.si.a s.si.n s.si.c, .slice s.so.a s.so.n s.so.c, .slice s.sf.a s.sf.n s.sf.c] 31)) W ∧ Blk W (w.heap.size + 1 + 1) 93 1 (fun j => (#[.func (.func 74) #[] #[.pointer (some ⟨w.heap.size, 0, none⟩)]] : Array Value).getD j default) :=
    ⟨_, rfl, (Below.refl _ _).alloc (by simp) _, Blk.mk' (by simp) rfl⟩
  rw [hW]
  have X2 := X.below (show Below _ _ W by simpa using hWB)
  have hB2 : Below w.heap.size w W := hB1.trans (hWB.mono (by omega))
  clear X hW
  have ho1 := (hs.os.below hB2).ods
  refine (anyO4 75 #[.pointer (some ⟨w.heap.size + 1 + 1, 0, none⟩)] (fun i => badOrder p (s.os.z i)) _ _ _ _ ole ocap0 s.os.z ho1 (enters_of Try.func75 (by kernel_rfl) rfl) (fun i w1 hi h => ?_)).mono ?_
  · obtain ⟨_, _, _, _, _, _, hl⟩ := (OdsAt.below ho1 h) i hi
    have X3 := X2.below h
    have hb := hWc.below h
    exact badOrders2_any (w.heap.size + 1 + 1) w.heap.size p _ w1 hl hp.les hp.caps X3.1.1 X3.1.2.2 hb.lt (hb.cell (j := 0) (by decide))
  · rintro e w1 ⟨rfl, hB3⟩
    go_wp2_with fail
    go_ret
    exact ⟨rfl, hB2.trans (hB3.mono hB2.size)⟩
end Go.Proofs.Ytbcacebifpagpac
namespace Go.Proofs.Ytbcacebifpagpac
open Go.RowKit Go.Shelf Go.Sort
set_option linter.unusedVariables false
set_option maxHeartbeats 1000000 in
theorem badMoves_any (p : Pl) (s : St) (w : World) (hp : p.At w) (hs : s.At w) :
    Calls Try.prog 37 #[p.val, s.val] w fun e w' => e = .returned (.bool (badMovesB p s)) ∧ Below w.heap.size w w' := by
  have X := boxes_new w p s 25 31
  have hB1 := two_below w (.cells #[.slice p.ab p.nb p.cb, .slice p.sa p.ns p.cs] 25) (.cells s.cells 31)
  have hm1 := (hs.ms.below hB1).hds
  unfold St.cells at X hB1 hm1
  have mcap0 := hs.ms.cap
  have mle := hs.ms.le
  unfold Pl.val St.val
  go_enter Try.func37, Try.ntmps37
  go_wp2_with fail
  refine (anyM4 79 #[.pointer (some ⟨w.heap.size, 0, none⟩)] (fun i => badMove p (s.ms.z i)) _ _ _ _ mle mcap0 s.ms.z hm1 (enters_of Try.func79 (by kernel_rfl) rfl) (fun i w1 hi h => ?_)).mono ?_
  · have X3 := X.below h
    exact badMoves1_any w.heap.size p _ w1 hp.les hp.caps hp.leb hp.capb X3.1.1 X3.1.2.1 X3.1.2.2
  · rintro e w1 ⟨rfl, hB3⟩
    go_wp2_with fail
    go_ret
    exact ⟨rfl, hB1.trans (hB3.mono hB1.size)⟩
set_option maxHeartbeats 2000000 in
theorem badSums_any (p : Pl) (s : St) (w : World) (hp : p.At w) (hs : s.At w) :
    Calls Try.prog 38 #[p.val, s.val] w fun e w' => e = .returned (.bool (badSumsB p s)) ∧ Below w.heap.size w w' := by
  have X := boxes_new w p s 25 31
  have hB1 := two_below w (.cells #[.slice p.ab p.nb p.cb, .slice p.sa p.ns p.cs] 25) (.cells s.cells 31)
  have eg := enters_of Try.func80 (by kernel_rfl) rfl
  unfold Pl.val St.val
  go_enter Try.func38, Try.ntmps38
  go_wp2_with fail
  obtain ⟨W, hW⟩ : ∃ W, ((w.alloc (.cells #[.slice p.ab p.nb p.cb, .slice p.sa p.ns p.cs] 25)).alloc (.cells s.cells 31)) = W := ⟨_, rfl⟩
  rw [hW] at X hB1
  unfold St.cells at hW
  rw [hW]
  clear hW
  refine (badSums1_any w.heap.size p s.si 0 W (hs.si.below hB1) hp.les hp.caps X.1.1 X.1.2.2).mono ?_
  rintro e w1 ⟨rfl, hB2⟩
  have X1 := X.below hB2
  have hC1 := hB1.trans (hB2.mono hB1.size)
  clear X hB1 hB2
  cases h1 : badSum p s.si 0
  · have Y1 := X1
    obtain ⟨-, hlt, -, -, -, -, -, e5, -⟩ := Y1
    go_wp2_with fail
    refine (badSums1_any w.heap.size p s.so 0 w1 (hs.so.below hC1) hp.les hp.caps X1.1.1 X1.1.2.2).mono ?_
    rintro e w2 ⟨rfl, hB2⟩
    have X2 := X1.below hB2
    have hC2 := hC1.trans (hB2.mono hC1.size)
    clear X1 hC1 hB2 e5 hlt
    cases h2 : badSum p s.so 0
    · have Y2 := X2
      obtain ⟨-, hlt, -, -, -, -, -, -, e6⟩ := Y2
      go_wp2_with fail
      refine (badSums1_any w.heap.size p s.sf (-1048576) w2 (hs.sf.below hC2) hp.les hp.caps X2.1.1 X2.1.2.2).mono ?_
      rintro e w3 ⟨rfl, hB2⟩
      go_wp2_with fail
      go_ret
      exact ⟨by simp [badSumsB, h1, h2], hC2.trans (hB2.mono hC2.size)⟩
    · go_wp2_with fail
      go_ret
      exact ⟨by simp [badSumsB, h2], hC2⟩
  · go_wp2_with fail
    go_ret
    exact ⟨by simp [badSumsB, h1], hC1⟩
set_option maxHeartbeats 2000000 in
theorem badHolds1_any (Bp Bs : Nat) (p : Pl) (s : St) (x : Hd) (w : World) (hp : p.At w) (hs : s.os.At w) (X : Boxes w Bp Bs p s) :
    Calls Try.prog 76 #[x.val, .pointer (some ⟨Bs, 0, none⟩), .pointer (some ⟨Bp, 0, none⟩)] w fun e w' => e = .returned (.bool (homeless p s x)) ∧ Below w.heap.size w w' := by
  obtain ⟨W, hW, hWB, hX⟩ : ∃ W, w.alloc (.cells #[.int .i64 x.o, .int .i64 x.l, .int .i64 x.b, .int .i64 x.n] 65) = W ∧ Below w.heap.size w W ∧ Blk W w.heap.size 65 4 (fun j => (#[.int .i64 x.o, .int .i64 x.l, .int .i64 x.b, .int .i64 x.n] : Array Value).getD j default) := ⟨_, rfl, (Below.refl w.heap.size w).alloc (Nat.le_refl _) _, Blk.mk' rfl rfl⟩
  have HW : Hid (w.alloc (.cells #[.int .i64 x.o, .int .i64 x.l, .int .i64 x.b, .int .i64 x.n] 65) = W) := hW
  have X1 := X.below hWB
  have os := hs.below hWB
  have ole := os.le
  have ocap0 := os.cap
  have hn0 : s.os.n ≤ maxLen := Nat.le_trans ole ocap0
  have hnb : p.nb ≤ maxLen := Nat.le_trans hp.leb hp.capb
  have pcap := hp.capb
  have ple := hp.leb
  have ocap := ocap0
  unfold maxLen at ocap pcap
  have r0 : ∀ d os, (grow (redrawn W d) os).cell? ⟨w.heap.size, 0, none⟩ = some (.int .i64 x.o) := fun d os => cell_regrown (hX.cell (j := 0) (by decide)) d os
  have r1 : ∀ d os, (grow (redrawn W d) os).cell? ⟨w.heap.size, 1, none⟩ = some (.int .i64 x.l) := fun d os => cell_regrown (hX.cell (j := 1) (by decide)) d os
  have r2 : ∀ d os, (grow (redrawn W d) os).cell? ⟨w.heap.size, 2, none⟩ = some (.int .i64 x.b) := fun d os => cell_regrown (hX.cell (j := 2) (by decide)) d os
  have r3 : ∀ d os, (grow (redrawn W d) os).cell? ⟨Bs, 1, none⟩ = some (.slice s.os.a s.os.n s.os.c) := fun d os => cell_regrown X1.2.2.2.1 d os
  have r4 : ∀ d os, (grow (redrawn W d) os).cell? ⟨Bp, 0, none⟩ = some (.slice p.ab p.nb p.cb) := fun d os => cell_regrown X1.1.2.1 d os
  clear hW
  unfold Hd.val
  cases h1 : inB x.o 0 ((s.os.n : Int) - 1)
  · go_enter Try.func76, Try.ntmps76
    go_wp2_with fail
    rw [HW.out]
    refine wp_region_quiet_below (by kernel_rfl) (by kernel_rfl) ?_
    repeat (go_big_quiet_step ((go_at_call 30; exact Calls.regrown_of ((Has_any _ _ _ (by assumption)).mono (fun _ _ h => ⟨h.1, h.2 ▸ Below.refl _ _⟩)))))
    refine wpQuiet_nil ?_
    intro _ hw'
    obtain ⟨⟨dq, osq⟩, hw''⟩ := hw'
    subst hw''
    go_wp2_with fail
    go_ret
    exact ⟨by simp [homeless, h1], hWB.trans ((below_regrown _ _ _).mono hWB.size)⟩
  · obtain ⟨m, hm⟩ := Int.eq_ofNat_of_zero_le (inB_true h1).1
    have hmn : m < s.os.n := by have := (inB_true h1).2; omega
    obtain ⟨b, o, hab, hb, -, z1, hl⟩ := os.ods m hmn
    have hln0 : (s.os.z m).ls.n ≤ maxLen := Nat.le_trans hl.le hl.cap
    have HA : Hid (homeless p s x = (!inB x.l 0 (((s.os.z m).ls.n : Int) - 1) || !inB x.b 0 ((p.nb : Int) - 1))) := by
      show homeless p s x = _
      unfold homeless
      rw [h1, hm, Int.toNat_natCast]
      rfl
    rw [hm] at r0 h1
    simp only [hab] at r3
    have r5 : ∀ d os, (grow (redrawn W d) os).cell? ⟨b, o + m * 2 + 1, none⟩ = some (.slice (s.os.z m).ls.a (s.os.z m).ls.n (s.os.z m).ls.c) := fun d os => cell_regrown z1 d os
    have m1 : (0 : Int) ≤ (m : Int) := by omega
    have m2 : (m : Int) < (s.os.n : Int) := by omega
    have HO : Hid (x.o = (m : Int)) := hm
    clear hm hab z1 os X1 X hX
    generalize (s.os.z m).ls = L at *
    cases h2 : inB x.l 0 ((L.n : Int) - 1)
    · go_enter Try.func76, Try.ntmps76
      go_wp2_with fail
      rw [HW.out, HO.out]
      refine wp_region_quiet_below (by kernel_rfl) (by kernel_rfl) ?_
      repeat (go_big_quiet_step ((go_at_call 30; exact Calls.regrown_of ((Has_any _ _ _ (by assumption)).mono (fun _ _ h => ⟨h.1, h.2 ▸ Below.refl _ _⟩)))))
      refine wpQuiet_nil ?_
      intro _ hw'
      obtain ⟨⟨dq, osq⟩, hw''⟩ := hw'
      subst hw''
      go_wp2_with fail
      go_ret
      exact ⟨by rw [HA.out, h2]; simp, hWB.trans ((below_regrown _ _ _).mono hWB.size)⟩
    · go_enter Try.func76, Try.ntmps76
      go_wp2_with fail
      rw [HW.out, HO.out]
      refine wp_region_quiet_below (by kernel_rfl) (by kernel_rfl) ?_
      repeat (go_big_quiet_step ((go_at_call 30; exact Calls.regrown_of ((Has_any _ _ _ (by assumption)).mono (fun _ _ h => ⟨h.1, h.2 ▸ Below.refl _ _⟩)))))
      refine wpQuiet_nil ?_
      intro _ hw'
      obtain ⟨⟨dq, osq⟩, hw''⟩ := hw'
      subst hw''
      go_wp2_with fail
      go_ret
      exact ⟨by rw [HA.out, h2]; simp, hWB.trans ((below_regrown _ _ _).mono hWB.size)⟩
end Go.Proofs.Ytbcacebifpagpac
namespace Go.Proofs.Ytbcacebifpagpac
open Go.RowKit Go.Shelf Go.Sort
set_option linter.unusedVariables false
set_option maxHeartbeats 2000000 in
theorem badHolds_any (p : Pl) (s : St) (w : World) (hp : p.At w) (hs : s.At w) :
    Calls Try.prog 36 #[p.val, s.val] w fun e w' => e = .returned (.bool (badHoldsB p s)) ∧ Below w.heap.size w w' := by
  have X := boxes_new w p s 25 31
  have hB1 := two_below w (.cells #[.slice p.ab p.nb p.cb, .slice p.sa p.ns p.cs] 25) (.cells s.cells 31)
  have mcap0 := hs.hs.cap
  have mle := hs.hs.le
  have hp1 := hp.below hB1
  have hs1 := hs.below hB1
  unfold Pl.val St.val
  go_enter Try.func36, Try.ntmps36
  go_wp2_with fail
  obtain ⟨W, hW⟩ : ∃ W, ((w.alloc (.cells #[.slice p.ab p.nb p.cb, .slice p.sa p.ns p.cs] 25)).alloc (.cells s.cells 31)) = W := ⟨_, rfl⟩
  rw [hW] at X hB1 hp1 hs1
  unfold St.cells at hW
  rw [hW]
  clear hW
  refine (holdsCheck_any s.hs W hs1.hs).mono ?_
  rintro e w1 ⟨rfl, hB2⟩
  have X1 := X.below hB2
  have hC1 := hB1.trans (hB2.mono hB1.size)
  have hp2 := hp1.below hB2
  have hs2 := hs1.below hB2
  clear X hB1 hB2 hp1 hs1
  by_cases h0 : checkH s.hs.n s.hs.z = 0
  · have Y1 := X1
    obtain ⟨-, hlt, -, -, e2, -⟩ := Y1
    go_wp2_with fail
    refine (anyH4 76 #[.pointer (some ⟨w.heap.size + 1, 0, none⟩), .pointer (some ⟨w.heap.size, 0, none⟩)] (fun i => homeless p s (s.hs.z i)) _ _ _ _ mle mcap0 s.hs.z hs2.hs.hds (enters_of Try.func76 (by kernel_rfl) rfl) (fun i w2 hi h => ?_)).mono ?_
    · exact badHolds1_any w.heap.size (w.heap.size + 1) p s _ w2 (hp2.below h) (hs2.os.below h) (X1.below h)
    · rintro e w2 ⟨rfl, hB3⟩
      go_wp2_with fail
      go_ret
      exact ⟨by simp [badHoldsB, h0], hC1.trans (hB3.mono hC1.size)⟩
  · go_wp2_with fail
    go_ret
    exact ⟨by simp [badHoldsB, h0], hC1⟩
set_option maxHeartbeats 400000 in
theorem lacks_any (x : Hd) (w : World) :
    Calls Try.prog 83 #[x.val] w fun e w' => e = .returned (.bool (lacksL x)) ∧ Below w.heap.size w w' := by
  unfold lacksL Hd.val
  go_enter Try.func83, Try.ntmps83
  go_wp2_with fail
  go_ret
  exact ⟨rfl, (Below.refl _ _).alloc (Nat.le_refl _) _⟩
set_option maxHeartbeats 1000000 in
theorem wrongLine_any (k : Int) (x : Hd) (kept : Int) (w : World) (h1 : 0 ≤ x.b ∧ x.b ≤ 200) (h2 : 0 ≤ x.n ∧ x.n ≤ 200) (h3 : 0 ≤ kept ∧ kept ≤ 14400) :
    Calls Try.prog 84 #[.int .i64 k, x.val, .int .i64 kept] w fun e w' => e = .returned (.bool (wrongL k x kept)) ∧ Below w.heap.size w w' := by
  unfold Hd.val
  by_cases hk : k = 0
  · have HK : Hid (wrongL k x kept = (!(x.b == 0) || !(x.n == 0) || !(kept == 0))) := by show wrongL k x kept = _; simp only [wrongL, if_pos hk]
    rw [HK.out]
    subst hk
    clear HK
    cases h4 : (x.b == 0)
    · go_enter Try.func84, Try.ntmps84
      go_wp2_with fail
      all_goals go_ret
      all_goals exact ⟨by first | rfl | simp_all, (Below.refl _ _).alloc (Nat.le_refl _) _⟩
    · cases h5 : (x.n == 0)
      · go_enter Try.func84, Try.ntmps84
        go_wp2_with fail
        all_goals go_ret
        all_goals exact ⟨by first | rfl | simp_all, (Below.refl _ _).alloc (Nat.le_refl _) _⟩
      · go_enter Try.func84, Try.ntmps84
        go_wp2_with fail
        all_goals go_ret
        all_goals exact ⟨by first | rfl | simp_all, (Below.refl _ _).alloc (Nat.le_refl _) _⟩
  · by_cases hk2 : k = 2
    · have HK : Hid (wrongL k x kept = (!(x.b + x.n == x.l) || !(kept == 0))) := by show wrongL k x kept = _; simp only [wrongL, if_neg hk, if_pos hk2]
      rw [HK.out]
      subst hk2
      clear HK hk
      cases h4 : (x.b + x.n == x.l)
      · go_enter Try.func84, Try.ntmps84
        go_wp2_with fail
        all_goals go_ret
        all_goals exact ⟨by first | rfl | simp_all, (Below.refl _ _).alloc (Nat.le_refl _) _⟩
      · go_enter Try.func84, Try.ntmps84
        go_wp2_with fail
        all_goals go_ret
        all_goals exact ⟨by first | rfl | simp_all, (Below.refl _ _).alloc (Nat.le_refl _) _⟩
    · have HK : Hid (wrongL k x kept = !(x.b + x.n + kept == x.l)) := by show wrongL k x kept = _; simp only [wrongL, if_neg hk, if_neg hk2]
      rw [HK.out]
      clear HK
      go_enter Try.func84, Try.ntmps84
      go_wp2_with fail
      all_goals go_ret
      all_goals exact ⟨rfl, (Below.refl _ _).alloc (Nat.le_refl _) _⟩
end Go.Proofs.Ytbcacebifpagpac
namespace Go.Proofs.Ytbcacebifpagpac
open Go.RowKit Go.Shelf Go.Sort
set_option linter.unusedVariables false
theorem goodAt {p : Pl} {s : St} {w : World} {k : Nat} (f : Formed p s) (hs : s.os.At w) (hk : k < s.hs.n) :
    ∃ (mo ml b1 o1 b2 o2 N C : Nat), (s.hs.z k).o = (mo : Int) ∧ (s.hs.z k).l = (ml : Int) ∧ mo < s.os.n ∧ ml < N ∧ N ≤ C ∧ C ≤ maxLen ∧ s.os.a = some ⟨b1, o1, none⟩ ∧ b1 < w.heap.size ∧ b2 < w.heap.size ∧
      w.cell? ⟨b1, o1 + mo * 2 + 1, none⟩ = some (.slice (some ⟨b2, o2, none⟩) N C) ∧ w.cell? ⟨b2, o2 + ml * 4, none⟩ = some (.int .i64 (goodH s (s.hs.z k))) := by
  obtain ⟨⟨a0, a1⟩, ⟨l0, l1⟩, -⟩ := homeless_no (f.home k hk)
  obtain ⟨mo, hmo⟩ := Int.eq_ofNat_of_zero_le a0
  obtain ⟨ml, hml⟩ := Int.eq_ofNat_of_zero_le l0
  have e1 : (s.hs.z k).o.toNat = mo := by omega
  have e2 : (s.hs.z k).l.toNat = ml := by omega
  have hg : goodH s (s.hs.z k) = ((s.os.z mo).ls.z ml).o := by unfold goodH; rw [e1, e2]
  rw [e1] at a1 l1
  rw [e2] at l1
  obtain ⟨b1, o1, ha, hb1, -, z1, hl⟩ := hs.ods mo a1
  obtain ⟨b2, o2, ha2, hb2, y0, -⟩ := hl.hds ml l1
  rw [ha2] at z1
  exact ⟨mo, ml, b1, o1, b2, o2, _, _, hmo, hml, a1, l1, hl.le, hl.cap, ha, hb1, hb2, z1, by rw [hg]; exact y0⟩
theorem heldTo_hit {s : St} {b g : Int} {k : Nat} (h1 : (s.hs.z k).b = b) (h2 : goodH s (s.hs.z k) = g) : heldTo s b g (k + 1) = heldTo s b g k + (s.hs.z k).n := by simp only [heldTo]; rw [if_pos ⟨h1, h2⟩]
theorem heldTo_miss {s : St} {b g : Int} {k : Nat} (h : ¬ ((s.hs.z k).b = b ∧ goodH s (s.hs.z k) = g)) : heldTo s b g (k + 1) = heldTo s b g k := by simp only [heldTo]; rw [if_neg h, Int.add_zero]
theorem fromTo_hit {s : St} {b g : Int} {k : Nat} (h1 : (s.ms.z k).l = b) (h2 : (s.ms.z k).o = g) : fromTo s b g (k + 1) = fromTo s b g k + (s.ms.z k).n := by simp only [fromTo]; rw [if_pos ⟨h1, h2⟩]
theorem fromTo_miss {s : St} {b g : Int} {k : Nat} (h : ¬ ((s.ms.z k).l = b ∧ (s.ms.z k).o = g)) : fromTo s b g (k + 1) = fromTo s b g k := by simp only [fromTo]; rw [if_neg h, Int.add_zero]
set_option maxHeartbeats 4000000 in
theorem avail_any (p : Pl) (s : St) (bin good : Nat) (w : World) (hs : s.At w) (f : Formed p s) (hbin : bin < p.nb) (hgood : good < p.ns) :
    Calls Try.prog 31 #[s.val, .int .i64 bin, .int .i64 good] w fun e w' => e = .returned (.int .i64 (availZ s bin good)) ∧ Below w.heap.size w w' := by
  obtain ⟨W0, hW0, hWB, hX⟩ : ∃ W0, w.alloc (.cells s.cells 31) = W0 ∧ Below w.heap.size w W0 ∧ Blk W0 w.heap.size 31 7 (fun j => s.cells.getD j default) := ⟨_, rfl, (Below.refl w.heap.size w).alloc (Nat.le_refl _) _, Blk.mk' rfl rfl⟩
  have hs0 := hs.below hWB
  have HC : Hid (∀ wk, Below W0.heap.size W0 wk → s.At wk ∧ wk.cell? ⟨w.heap.size, 0, none⟩ = some (.slice s.on.a s.on.n s.on.c) ∧ wk.cell? ⟨w.heap.size, 1, none⟩ = some (.slice s.os.a s.os.n s.os.c) ∧ wk.cell? ⟨w.heap.size, 2, none⟩ = some (.slice s.hs.a s.hs.n s.hs.c) ∧ wk.cell? ⟨w.heap.size, 3, none⟩ = some (.slice s.ms.a s.ms.n s.ms.c) ∧ w.heap.size < wk.heap.size) :=
    fun wk h => ⟨hs0.below h, (hX.below h).cell (j := 0) (by decide), (hX.below h).cell (j := 1) (by decide), (hX.below h).cell (j := 2) (by decide), (hX.below h).cell (j := 3) (by decide), (hX.below h).lt⟩
  have hon := f.sh.n
  obtain ⟨bo, oo, hoa, hbo, y0, hrow⟩ := hs.on.rows bin (by omega)
  have hrn := f.sh.len bin (by omega)
  have hnum := f.sh.num bin (by omega) good hgood
  obtain ⟨br, orr, hra, hbr, y1⟩ := hrow.ints good (by omega)
  have hrle := hrow.le
  have hrcap := hrow.cap
  have hole := hs0.on.le
  have hocap := hs0.on.cap
  have hhle := hs0.hs.le
  have hhcap := hs0.hs.cap
  have hmle := hs0.ms.le
  have hmcap := hs0.ms.cap
  have hosle := hs0.os.le
  have hoscap := hs0.os.cap
  unfold maxLen at hrcap hocap hhcap hmcap hoscap
  rw [hra] at y0
  have h72 := f.hs72
  have m8 := f.ms8
  have HB : Hid (∀ k, k ≤ s.hs.n → 0 ≤ heldTo s bin good k ∧ heldTo s bin good k ≤ 200 * k) := fun k hk => heldTo_bd fun j hj => f.holdN j (by omega)
  have MB : Hid (∀ k, k ≤ s.ms.n → 0 ≤ fromTo s bin good k ∧ fromTo s bin good k ≤ 200 * k) := fun k hk => fromTo_bd fun j hj => f.moveN j (by omega)
  have HW : Hid (w.alloc (.cells #[.slice (some ⟨bo, oo, none⟩) p.nb s.on.c, .slice s.os.a s.os.n s.os.c, .slice s.hs.a s.hs.n s.hs.c, .slice s.ms.a s.ms.n s.ms.c, .slice s.si.a s.si.n s.si.c, .slice s.so.a s.so.n s.so.c, .slice s.sf.a s.sf.n s.sf.c] 31) = W0) := by
    show _ = W0
    rw [← hW0, ← hoa, ← hon]
    rfl
  have HN : Hid (s.on.n = p.nb ∧ (s.on.r bin).n = p.ns ∧ (s.on.r bin).z good + 0 = (s.on.r bin).z good) := ⟨hon, hrn, Int.add_zero _⟩
  have HO : Hid (s.on.a = some ⟨bo, oo, none⟩) := hoa
  rw [hrn] at y0 hrle
  rw [hon] at hole
  have q0 : (0 : Int) ≤ (bin : Int) := by omega
  have q1 : (0 : Int) ≤ (good : Int) := by omega
  simp only [St.val, hoa, hon]
  clear hX hW0 hrow hon hrn hoa hra
  go_enter Try.func31, Try.ntmps31
  go_wp2_with fail
  rw [HW.out]
  go_loopw [7, 23] (fun u i wk => ∃ k : Nat, k ≤ s.hs.n ∧ i = .int .i64 k ∧ u = .int .i64 ((s.on.r bin).z good - heldTo s bin good k) ∧ Below W0.heap.size W0 wk) (fun _ i _ => s.hs.n - (intOf i).toNat)
  case atStart => exact ⟨0, Nat.zero_le _, rfl, by simp [heldTo], Below.refl _ _⟩
  case round =>
    obtain ⟨k, hk, rfl, rfl, hB⟩ := hrel
    have m1 := HB.out k hk
    obtain ⟨hsk, c0, c1, c2, c3, hlt0⟩ := HC.out wr hB
    by_cases hlt : k < s.hs.n
    · obtain ⟨b, q, hha, hb, z0, z1, z2, z3⟩ := hsk.hs.hds k hlt
      have m2 := f.holdN k hlt
      obtain ⟨mo, ml, b1, o1, b2, o2, N, C, hmo, hml, g1, g2, g3, g4, hosa, g5, g6, g7, g8⟩ := goodAt f hsk.os hlt
      have HG : Hid (s.hs.a = some ⟨b, q, none⟩ ∧ s.os.a = some ⟨b1, o1, none⟩ ∧ (s.hs.z k).o = (mo : Int) ∧ (s.hs.z k).l = (ml : Int)) := ⟨hha, hosa, hmo, hml⟩
      obtain ⟨W1, hW1, hB1, hY⟩ : ∃ W1, wr.alloc (.cells #[.int .i64 mo, .int .i64 ml, .int .i64 (s.hs.z k).b, .int .i64 (s.hs.z k).n] 65) = W1 ∧ Below W0.heap.size W0 W1 ∧ Blk W1 wr.heap.size 65 4 (fun j => (#[.int .i64 mo, .int .i64 ml, .int .i64 (s.hs.z k).b, .int .i64 (s.hs.z k).n] : Array Value).getD j default) := ⟨_, rfl, hB.alloc hB.size _, Blk.mk' rfl rfl⟩
      have hBa : Below wr.heap.size wr W1 := by rw [← hW1]; exact (Below.refl _ _).alloc (Nat.le_refl _) _
      have r0 : ∀ d os, (grow (redrawn W1 d) os).cell? ⟨wr.heap.size, 0, none⟩ = some (.int .i64 mo) := fun d os => cell_regrown (hY.cell (j := 0) (by decide)) d os
      have r1 : ∀ d os, (grow (redrawn W1 d) os).cell? ⟨wr.heap.size, 1, none⟩ = some (.int .i64 ml) := fun d os => cell_regrown (hY.cell (j := 1) (by decide)) d os
      have r2 : ∀ d os, (grow (redrawn W1 d) os).cell? ⟨wr.heap.size, 2, none⟩ = some (.int .i64 (s.hs.z k).b) := fun d os => cell_regrown (hY.cell (j := 2) (by decide)) d os
      have r3 : ∀ d os, (grow (redrawn W1 d) os).cell? ⟨wr.heap.size, 3, none⟩ = some (.int .i64 (s.hs.z k).n) := fun d os => cell_regrown (hY.cell (j := 3) (by decide)) d os
      rw [hosa] at c1
      rw [hmo] at z0
      rw [hml] at z1
      have r4 : ∀ d os, (grow (redrawn W1 d) os).cell? ⟨w.heap.size, 1, none⟩ = some (.slice (some ⟨b1, o1, none⟩) s.os.n s.os.c) := fun d os => cell_regrown ((hBa.cell (p := ⟨w.heap.size, 1, none⟩) hlt0).trans c1) d os
      have r5 : ∀ d os, (grow (redrawn W1 d) os).cell? ⟨b1, o1 + mo * 2 + 1, none⟩ = some (.slice (some ⟨b2, o2, none⟩) N C) := fun d os => cell_regrown ((hBa.cell (p := ⟨b1, o1 + mo * 2 + 1, none⟩) g5).trans g7) d os
      have r6 : ∀ d os, (grow (redrawn W1 d) os).cell? ⟨b2, o2 + ml * 4, none⟩ = some (.int .i64 (goodH s (s.hs.z k))) := fun d os => cell_regrown ((hBa.cell (p := ⟨b2, o2 + ml * 4, none⟩) g6).trans g8) d os
      have HV : Hid (wr.alloc (.cells #[.int .i64 mo, .int .i64 ml, .int .i64 (s.hs.z k).b, .int .i64 (s.hs.z k).n] 65) = W1) := hW1
      have q2 : (0 : Int) ≤ (mo : Int) := by omega
      have q3 : (0 : Int) ≤ (ml : Int) := by omega
      have q4 : (0 : Int) ≤ (k : Int) := by omega
      have H1 : Hid (((s.hs.z k).b = bin ∧ goodH s (s.hs.z k) = good → heldTo s bin good (k + 1) = heldTo s bin good k + (s.hs.z k).n) ∧ (¬ ((s.hs.z k).b = bin ∧ goodH s (s.hs.z k) = good) → heldTo s bin good (k + 1) = heldTo s bin good k)) := ⟨fun h => heldTo_hit h.1 h.2, heldTo_miss⟩
      rw [hha]
      unfold maxLen at g4
      clear hmo hml hosa hha hW1 c0 c1 c2 c3 hsk hBa
      generalize goodH s (s.hs.z k) = GD at *
      generalize heldTo s bin good k = U at *
      generalize (s.hs.z k).b = BB at *
      generalize (s.hs.z k).n = NN at *
      cases h1 : (BB == (bin : Int))
      · have hm := H1.out.2 (by simp at h1; omega)
        have HM : Hid (heldTo s bin good (k + 1) = U) := hm
        clear hm H1
        go_wp2_with fail
        rw [HV.out]
        refine wp_region_quiet_below (by kernel_rfl) (by kernel_rfl) ?_
        repeat (go_big_quiet_step (fail))
        refine wpQuiet_nil ?_
        intro _ hw'
        obtain ⟨⟨dq, osq⟩, hw''⟩ := hw'
        subst hw''
        have hC := hB1.trans ((below_regrown W1 dq osq).mono hB1.size)
        have hn3 := r3 dq osq
        have hlw : wr.heap.size < (grow (redrawn W1 dq) osq).heap.size := Nat.lt_of_lt_of_le hY.lt (below_regrown W1 dq osq).size
        clear r0 r1 r2 r3 r4 r5 r6 hY hB1 HV
        generalize grow (redrawn W1 dq) osq = wz at *
        go_wp2_with fail
        go_roundw
        case rel => exact ⟨k + 1, by omega, by go_num, by rw [HM.out], hC⟩
        case measure => simp [intOf]; omega
      · cases h2 : (GD == (good : Int))
        · have h1 := h2
          have hm := H1.out.2 (by simp at h1; omega)
          have HM : Hid (heldTo s bin good (k + 1) = U) := hm
          clear hm H1
          go_wp2_with fail
          rw [HV.out]
          refine wp_region_quiet_below (by kernel_rfl) (by kernel_rfl) ?_
          repeat (go_big_quiet_step (fail))
          refine wpQuiet_nil ?_
          intro _ hw'
          obtain ⟨⟨dq, osq⟩, hw''⟩ := hw'
          subst hw''
          have hC := hB1.trans ((below_regrown W1 dq osq).mono hB1.size)
          have hn3 := r3 dq osq
          have hlw : wr.heap.size < (grow (redrawn W1 dq) osq).heap.size := Nat.lt_of_lt_of_le hY.lt (below_regrown W1 dq osq).size
          clear r0 r1 r2 r3 r4 r5 r6 hY hB1 HV
          generalize grow (redrawn W1 dq) osq = wz at *
          go_wp2_with fail
          go_roundw
          case rel => exact ⟨k + 1, by omega, by go_num, by rw [HM.out], hC⟩
          case measure => simp [intOf]; omega
        · have hm := H1.out.1 ⟨by simpa using h1, by simpa using h2⟩
          have HM : Hid (heldTo s bin good (k + 1) = U + NN) := hm
          clear hm H1
          go_wp2_with fail
          rw [HV.out]
          refine wp_region_quiet_below (by kernel_rfl) (by kernel_rfl) ?_
          repeat (go_big_quiet_step (fail))
          refine wpQuiet_nil ?_
          intro _ hw'
          obtain ⟨⟨dq, osq⟩, hw''⟩ := hw'
          subst hw''
          have hC := hB1.trans ((below_regrown W1 dq osq).mono hB1.size)
          have hn3 := r3 dq osq
          have hlw : wr.heap.size < (grow (redrawn W1 dq) osq).heap.size := Nat.lt_of_lt_of_le hY.lt (below_regrown W1 dq osq).size
          clear r0 r1 r2 r3 r4 r5 r6 hY hB1 HV
          generalize grow (redrawn W1 dq) osq = wz at *
          go_wp2_with fail
          go_roundw
          case rel => exact ⟨k + 1, by omega, by go_num, by rw [HM.out, Int.sub_sub], hC⟩
          case measure => simp [intOf]; omega
    · have hkn : k = s.hs.n := by omega
      subst hkn
      generalize hHH : heldTo s bin good s.hs.n = HH at *
      have HHH : Hid (heldTo s bin good s.hs.n = HH) := hHH
      clear hHH hsk
      go_wp2_with fail
      go_loopw [7, 55] (fun u i wk => ∃ k : Nat, k ≤ s.ms.n ∧ i = .int .i64 k ∧ u = .int .i64 ((s.on.r bin).z good - HH - fromTo s bin good k) ∧ Below W0.heap.size W0 wk) (fun _ i _ => s.ms.n - (intOf i).toNat)
      case atStart => exact ⟨0, Nat.zero_le _, rfl, by simp [fromTo], hB⟩
      case round =>
        clear hB c0 c1 c2 c3 hlt0
        obtain ⟨k, hk, rfl, rfl, hB⟩ := hrel
        have m2 := MB.out k hk
        by_cases hlt2 : k < s.ms.n
        · obtain ⟨hsk, c0, c1, c2, c3, hlt0⟩ := HC.out wr hB
          obtain ⟨b, q, hma, hb, z0, z1, z2, z3⟩ := hsk.ms.hds k hlt2
          have m3 := f.moveN k hlt2
          have H1 : Hid (((s.ms.z k).l = bin ∧ (s.ms.z k).o = good → fromTo s bin good (k + 1) = fromTo s bin good k + (s.ms.z k).n) ∧ (¬ ((s.ms.z k).l = bin ∧ (s.ms.z k).o = good) → fromTo s bin good (k + 1) = fromTo s bin good k)) := ⟨fun h => fromTo_hit h.1 h.2, fromTo_miss⟩
          have q4 : (0 : Int) ≤ (k : Int) := by omega
          have hBa := fun o => hB.alloc (Nat.le_trans hB.size (Nat.le_refl _)) o
          have HBa : Hid (∀ o, Below W0.heap.size W0 (wr.alloc o)) := hBa
          rw [hma]
          clear hma c0 c1 c2 c3 hsk hBa
          generalize fromTo s bin good k = U at *
          generalize (s.ms.z k).l = BB at *
          generalize (s.ms.z k).n = NN at *
          generalize (s.ms.z k).o = GD at *
          cases h1 : (BB == (bin : Int))
          · have hm := H1.out.2 (by simp at h1; omega)
            have HM : Hid (fromTo s bin good (k + 1) = U) := hm
            clear hm H1
            go_wp2_with fail
            go_roundw
            case rel => exact ⟨k + 1, by omega, by go_num, by rw [HM.out], HBa.out _⟩
            case measure => simp [intOf]; omega
          · cases h2 : (GD == (good : Int))
            · have h1 := h2
              have hm := H1.out.2 (by simp at h1; omega)
              have HM : Hid (fromTo s bin good (k + 1) = U) := hm
              clear hm H1
              go_wp2_with fail
              go_roundw
              case rel => exact ⟨k + 1, by omega, by go_num, by rw [HM.out], HBa.out _⟩
              case measure => simp [intOf]; omega
            · have hm := H1.out.1 ⟨by simpa using h1, by simpa using h2⟩
              have HM : Hid (fromTo s bin good (k + 1) = U + NN) := hm
              clear hm H1
              go_wp2_with fail
              go_roundw
              case rel => exact ⟨k + 1, by omega, by go_num, by rw [HM.out, Int.sub_sub _ U], HBa.out _⟩
              case measure => simp [intOf]; omega
        · have hkn : k = s.ms.n := by omega
          subst hkn
          go_wp2_with fail
          go_ret
          exact ⟨by rw [← HHH.out]; rfl, hWB.trans (hB.mono hWB.size)⟩
end Go.Proofs.Ytbcacebifpagpac
namespace Go.Proofs.Ytbcacebifpagpac
open Go.RowKit Go.Shelf Go.Sort
set_option linter.unusedVariables false
set_option maxHeartbeats 4000000 in
theorem bound_any (p : Pl) (s : St) (bin good : Nat) (w : World) (hs : s.At w) (f : Formed p s) :
    Calls Try.prog 121 #[s.val, .int .i64 bin, .int .i64 good] w fun e w' => e = .returned (.int .i64 (heldTo s bin good s.hs.n + fromTo s bin good s.ms.n)) ∧ Below w.heap.size w w' := by
  obtain ⟨W0, hW0, hWB, hX⟩ : ∃ W0, w.alloc (.cells s.cells 31) = W0 ∧ Below w.heap.size w W0 ∧ Blk W0 w.heap.size 31 7 (fun j => s.cells.getD j default) := ⟨_, rfl, (Below.refl w.heap.size w).alloc (Nat.le_refl _) _, Blk.mk' rfl rfl⟩
  have hs0 := hs.below hWB
  have hsz0 : w.heap.size < W0.heap.size := hX.lt
  have HC : Hid (∀ wk, Below W0.heap.size W0 wk → s.At wk ∧ wk.cell? ⟨w.heap.size, 1, none⟩ = some (.slice s.os.a s.os.n s.os.c) ∧ wk.cell? ⟨w.heap.size, 2, none⟩ = some (.slice s.hs.a s.hs.n s.hs.c) ∧ wk.cell? ⟨w.heap.size, 3, none⟩ = some (.slice s.ms.a s.ms.n s.ms.c) ∧ w.heap.size < wk.heap.size) :=
    fun wk h => ⟨hs0.below h, (hX.below h).cell (j := 1) (by decide), (hX.below h).cell (j := 2) (by decide), (hX.below h).cell (j := 3) (by decide), (hX.below h).lt⟩
  have hhle := hs0.hs.le
  have hhcap := hs0.hs.cap
  have hmle := hs0.ms.le
  have hmcap := hs0.ms.cap
  have hosle := hs0.os.le
  have hoscap := hs0.os.cap
  unfold maxLen at hhcap hmcap hoscap
  have h72 := f.hs72
  have m8 := f.ms8
  have HB : Hid (∀ k, k ≤ s.hs.n → 0 ≤ heldTo s bin good k ∧ heldTo s bin good k ≤ 200 * k) := fun k hk => heldTo_bd fun j hj => f.holdN j (by omega)
  have MB : Hid (∀ k, k ≤ s.ms.n → 0 ≤ fromTo s bin good k ∧ fromTo s bin good k ≤ 200 * k) := fun k hk => fromTo_bd fun j hj => f.moveN j (by omega)
  have HW : Hid (w.alloc (.cells #[.slice s.on.a s.on.n s.on.c, .slice s.os.a s.os.n s.os.c, .slice s.hs.a s.hs.n s.hs.c, .slice s.ms.a s.ms.n s.ms.c, .slice s.si.a s.si.n s.si.c, .slice s.so.a s.so.n s.so.c, .slice s.sf.a s.sf.n s.sf.c] 31) = W0) := hW0
  simp only [St.val]
  clear hX hW0
  go_enter Try.func121, Try.ntmps121
  go_wp2_with fail
  rw [HW.out]
  go_loopw [7, 8] (fun u i wk => ∃ k : Nat, k ≤ s.hs.n ∧ i = .int .i64 k ∧ u = .int .i64 (heldTo s bin good k) ∧ Below W0.heap.size W0 wk) (fun _ i _ => s.hs.n - (intOf i).toNat)
  case atStart => exact ⟨0, Nat.zero_le _, rfl, by simp [heldTo], Below.refl _ _⟩
  case round =>
    obtain ⟨k, hk, rfl, rfl, hB⟩ := hrel
    have m1 := HB.out k hk
    obtain ⟨hsk, c1, c2, c3, hlt0⟩ := HC.out wr hB
    by_cases hlt : k < s.hs.n
    · obtain ⟨b, q, hha, hb, z0, z1, z2, z3⟩ := hsk.hs.hds k hlt
      have m2 := f.holdN k hlt
      obtain ⟨mo, ml, b1, o1, b2, o2, N, C, hmo, hml, g1, g2, g3, g4, hosa, g5, g6, g7, g8⟩ := goodAt f hsk.os hlt
      have HG : Hid (s.hs.a = some ⟨b, q, none⟩ ∧ s.os.a = some ⟨b1, o1, none⟩ ∧ (s.hs.z k).o = (mo : Int) ∧ (s.hs.z k).l = (ml : Int)) := ⟨hha, hosa, hmo, hml⟩
      obtain ⟨W1, hW1, hB1, hY⟩ : ∃ W1, wr.alloc (.cells #[.int .i64 mo, .int .i64 ml, .int .i64 (s.hs.z k).b, .int .i64 (s.hs.z k).n] 65) = W1 ∧ Below W0.heap.size W0 W1 ∧ Blk W1 wr.heap.size 65 4 (fun j => (#[.int .i64 mo, .int .i64 ml, .int .i64 (s.hs.z k).b, .int .i64 (s.hs.z k).n] : Array Value).getD j default) := ⟨_, rfl, hB.alloc hB.size _, Blk.mk' rfl rfl⟩
      have hBa : Below wr.heap.size wr W1 := by rw [← hW1]; exact (Below.refl _ _).alloc (Nat.le_refl _) _
      have r0 : ∀ d os, (grow (redrawn W1 d) os).cell? ⟨wr.heap.size, 0, none⟩ = some (.int .i64 mo) := fun d os => cell_regrown (hY.cell (j := 0) (by decide)) d os
      have r1 : ∀ d os, (grow (redrawn W1 d) os).cell? ⟨wr.heap.size, 1, none⟩ = some (.int .i64 ml) := fun d os => cell_regrown (hY.cell (j := 1) (by decide)) d os
      have r2 : ∀ d os, (grow (redrawn W1 d) os).cell? ⟨wr.heap.size, 2, none⟩ = some (.int .i64 (s.hs.z k).b) := fun d os => cell_regrown (hY.cell (j := 2) (by decide)) d os
      have r3 : ∀ d os, (grow (redrawn W1 d) os).cell? ⟨wr.heap.size, 3, none⟩ = some (.int .i64 (s.hs.z k).n) := fun d os => cell_regrown (hY.cell (j := 3) (by decide)) d os
      rw [hosa] at c1
      rw [hmo] at z0
      rw [hml] at z1
      have r4 : ∀ d os, (grow (redrawn W1 d) os).cell? ⟨w.heap.size, 1, none⟩ = some (.slice (some ⟨b1, o1, none⟩) s.os.n s.os.c) := fun d os => cell_regrown ((hBa.cell (p := ⟨w.heap.size, 1, none⟩) hlt0).trans c1) d os
      have r5 : ∀ d os, (grow (redrawn W1 d) os).cell? ⟨b1, o1 + mo * 2 + 1, none⟩ = some (.slice (some ⟨b2, o2, none⟩) N C) := fun d os => cell_regrown ((hBa.cell (p := ⟨b1, o1 + mo * 2 + 1, none⟩) g5).trans g7) d os
      have r6 : ∀ d os, (grow (redrawn W1 d) os).cell? ⟨b2, o2 + ml * 4, none⟩ = some (.int .i64 (goodH s (s.hs.z k))) := fun d os => cell_regrown ((hBa.cell (p := ⟨b2, o2 + ml * 4, none⟩) g6).trans g8) d os
      have HV : Hid (wr.alloc (.cells #[.int .i64 mo, .int .i64 ml, .int .i64 (s.hs.z k).b, .int .i64 (s.hs.z k).n] 65) = W1) := hW1
      have q2 : (0 : Int) ≤ (mo : Int) := by omega
      have q3 : (0 : Int) ≤ (ml : Int) := by omega
      have q4 : (0 : Int) ≤ (k : Int) := by omega
      have H1 : Hid (((s.hs.z k).b = bin ∧ goodH s (s.hs.z k) = good → heldTo s bin good (k + 1) = heldTo s bin good k + (s.hs.z k).n) ∧ (¬ ((s.hs.z k).b = bin ∧ goodH s (s.hs.z k) = good) → heldTo s bin good (k + 1) = heldTo s bin good k)) := ⟨fun h => heldTo_hit h.1 h.2, heldTo_miss⟩
      rw [hha] at c2
      unfold maxLen at g4
      clear hmo hml hosa hha hW1 c1 c3 hsk hBa
      generalize goodH s (s.hs.z k) = GD at *
      generalize heldTo s bin good k = U at *
      generalize (s.hs.z k).b = BB at *
      generalize (s.hs.z k).n = NN at *
      cases h1 : (BB == (bin : Int))
      · have hm := H1.out.2 (by simp at h1; omega)
        have HM : Hid (heldTo s bin good (k + 1) = U) := hm
        clear hm H1
        go_wp2_with fail
        rw [HV.out]
        refine wp_region_quiet_below (by kernel_rfl) (by kernel_rfl) ?_
        repeat (go_big_quiet_step (fail))
        refine wpQuiet_nil ?_
        intro _ hw'
        obtain ⟨⟨dq, osq⟩, hw''⟩ := hw'
        subst hw''
        have hC := hB1.trans ((below_regrown W1 dq osq).mono hB1.size)
        have hn3 := r3 dq osq
        have hlw : wr.heap.size < (grow (redrawn W1 dq) osq).heap.size := Nat.lt_of_lt_of_le hY.lt (below_regrown W1 dq osq).size
        clear r0 r1 r2 r3 r4 r5 r6 hY hB1 HV
        generalize grow (redrawn W1 dq) osq = wz at *
        go_wp2_with fail
        go_roundw
        case rel => exact ⟨k + 1, by omega, by go_num, by rw [HM.out], hC⟩
        case measure => simp [intOf]; omega
      · cases h2 : (GD == (good : Int))
        · have h1 := h2
          have hm := H1.out.2 (by simp at h1; omega)
          have HM : Hid (heldTo s bin good (k + 1) = U) := hm
          clear hm H1
          go_wp2_with fail
          rw [HV.out]
          refine wp_region_quiet_below (by kernel_rfl) (by kernel_rfl) ?_
          repeat (go_big_quiet_step (fail))
          refine wpQuiet_nil ?_
          intro _ hw'
          obtain ⟨⟨dq, osq⟩, hw''⟩ := hw'
          subst hw''
          have hC := hB1.trans ((below_regrown W1 dq osq).mono hB1.size)
          have hn3 := r3 dq osq
          have hlw : wr.heap.size < (grow (redrawn W1 dq) osq).heap.size := Nat.lt_of_lt_of_le hY.lt (below_regrown W1 dq osq).size
          clear r0 r1 r2 r3 r4 r5 r6 hY hB1 HV
          generalize grow (redrawn W1 dq) osq = wz at *
          go_wp2_with fail
          go_roundw
          case rel => exact ⟨k + 1, by omega, by go_num, by rw [HM.out], hC⟩
          case measure => simp [intOf]; omega
        · have hm := H1.out.1 ⟨by simpa using h1, by simpa using h2⟩
          have HM : Hid (heldTo s bin good (k + 1) = U + NN) := hm
          clear hm H1
          go_wp2_with fail
          rw [HV.out]
          refine wp_region_quiet_below (by kernel_rfl) (by kernel_rfl) ?_
          repeat (go_big_quiet_step (fail))
          refine wpQuiet_nil ?_
          intro _ hw'
          obtain ⟨⟨dq, osq⟩, hw''⟩ := hw'
          subst hw''
          have hC := hB1.trans ((below_regrown W1 dq osq).mono hB1.size)
          have hn3 := r3 dq osq
          have hlw : wr.heap.size < (grow (redrawn W1 dq) osq).heap.size := Nat.lt_of_lt_of_le hY.lt (below_regrown W1 dq osq).size
          clear r0 r1 r2 r3 r4 r5 r6 hY hB1 HV
          generalize grow (redrawn W1 dq) osq = wz at *
          go_wp2_with fail
          go_roundw
          case rel => exact ⟨k + 1, by omega, by go_num, by rw [HM.out], hC⟩
          case measure => simp [intOf]; omega
    · have hkn : k = s.hs.n := by omega
      subst hkn
      generalize hHH : heldTo s bin good s.hs.n = HH at *
      have HHH : Hid (heldTo s bin good s.hs.n = HH) := hHH
      clear hHH hsk
      go_wp2_with fail
      go_loopw [7, 10] (fun u i wk => ∃ k : Nat, k ≤ s.ms.n ∧ i = .int .i64 k ∧ u = .int .i64 (HH + fromTo s bin good k) ∧ Below W0.heap.size W0 wk) (fun _ i _ => s.ms.n - (intOf i).toNat)
      case atStart => exact ⟨0, Nat.zero_le _, rfl, by simp [fromTo], hB⟩
      case round =>
        clear hB c1 c2 c3 hlt0
        obtain ⟨k, hk, rfl, rfl, hB⟩ := hrel
        have m2 := MB.out k hk
        by_cases hlt2 : k < s.ms.n
        · obtain ⟨hsk, c1, c2, c3, hlt0⟩ := HC.out wr hB
          obtain ⟨b, q, hma, hb, z0, z1, z2, z3⟩ := hsk.ms.hds k hlt2
          have m3 := f.moveN k hlt2
          have H1 : Hid (((s.ms.z k).l = bin ∧ (s.ms.z k).o = good → fromTo s bin good (k + 1) = fromTo s bin good k + (s.ms.z k).n) ∧ (¬ ((s.ms.z k).l = bin ∧ (s.ms.z k).o = good) → fromTo s bin good (k + 1) = fromTo s bin good k)) := ⟨fun h => fromTo_hit h.1 h.2, fromTo_miss⟩
          have q4 : (0 : Int) ≤ (k : Int) := by omega
          have hBa := hB
          have HBa : Hid (Below W0.heap.size W0 wr) := hBa
          rw [hma] at c3
          clear hma c1 c2 hsk hBa
          generalize fromTo s bin good k = U at *
          generalize (s.ms.z k).l = BB at *
          generalize (s.ms.z k).n = NN at *
          generalize (s.ms.z k).o = GD at *
          cases h1 : (BB == (bin : Int))
          · have hm := H1.out.2 (by simp at h1; omega)
            have HM : Hid (fromTo s bin good (k + 1) = U) := hm
            clear hm H1
            go_wp2_with fail
            go_roundw
            case rel => exact ⟨k + 1, by omega, by go_num, by rw [HM.out], HBa.out⟩
            case measure => simp [intOf]; omega
          · cases h2 : (GD == (good : Int))
            · have h1 := h2
              have hm := H1.out.2 (by simp at h1; omega)
              have HM : Hid (fromTo s bin good (k + 1) = U) := hm
              clear hm H1
              go_wp2_with fail
              go_roundw
              case rel => exact ⟨k + 1, by omega, by go_num, by rw [HM.out], HBa.out⟩
              case measure => simp [intOf]; omega
            · have hm := H1.out.1 ⟨by simpa using h1, by simpa using h2⟩
              have HM : Hid (fromTo s bin good (k + 1) = U + NN) := hm
              clear hm H1
              go_wp2_with fail
              go_roundw
              case rel => exact ⟨k + 1, by omega, by go_num, by rw [HM.out, Int.add_assoc], HBa.out⟩
              case measure => simp [intOf]; omega
        · have hkn : k = s.ms.n := by omega
          subst hkn
          obtain ⟨hsk, c1, c2, c3, hlt0⟩ := HC.out wr hB
          clear hsk c1 c2
          go_wp2_with fail
          go_ret
          exact ⟨by rw [← HHH.out]; rfl, hWB.trans (hB.mono hWB.size)⟩
end Go.Proofs.Ytbcacebifpagpac
namespace Go.Proofs.Ytbcacebifpagpac
open Go.RowKit Go.Shelf Go.Sort
set_option linter.unusedVariables false
theorem sum_ok {p : Pl} {s : Sh} {g : Nat} (h0 : shelfE p s = 0) (hg : g < p.ns) : sumE p s (g : Int) = 0 ∧ sumV p s (g : Int) = sumTo (fun i => (s.r i).z g) s.n := by
  have h : sumE p s (g : Int) = 0 := by
    unfold sumE
    rw [h0, inB_mk ⟨by omega, by omega⟩]
    rfl
  exact ⟨h, by simp [sumV, h]⟩
theorem wrongGood_eq {p : Pl} {s : St} {g : Nat} : wrongGood p s g = (!(sumTo (fun i => (s.on.r i).z g) s.on.n == s.si.z g - s.so.z g + s.sf.z g) || anyB p.nb (fun b => decide (availZ s b g < 0))) := rfl
set_option maxHeartbeats 4000000 in
theorem wrongGoods_any (p : Pl) (s : St) (w : World) (hp : p.At w) (hs : s.At w) (f : Formed p s) :
    Calls Try.prog 39 #[p.val, s.val] w fun e w' => e = .returned (.bool (wrongGoodsB p s)) ∧ Below w.heap.size w w' := by
  obtain ⟨W0, hW, hWB, X0⟩ : ∃ W, ((w.alloc (.cells #[.slice p.ab p.nb p.cb, .slice p.sa p.ns p.cs] 25)).alloc (.cells s.cells 31)) = W ∧ Below w.heap.size w W ∧ Boxes W w.heap.size (w.heap.size + 1) p s := ⟨_, rfl, two_below _ _ _, boxes_new w p s _ _⟩
  have HC : Hid (∀ wk, Below W0.heap.size W0 wk → Boxes wk w.heap.size (w.heap.size + 1) p s ∧ p.At wk ∧ s.At wk) := fun wk h => ⟨X0.below h, (hp.below hWB).below h, (hs.below hWB).below h⟩
  have HW : Hid ((w.alloc (.cells #[.slice p.ab p.nb p.cb, .slice p.sa p.ns p.cs] 25)).alloc (.cells #[.slice s.on.a s.on.n s.on.c, .slice s.os.a s.os.n s.os.c, .slice s.hs.a s.hs.n s.hs.c, .slice s.ms.a s.ms.n s.ms.c, .slice s.si.a s.si.n s.si.c, .slice s.so.a s.so.n s.so.c, .slice s.sf.a s.sf.n s.sf.c] 31) = W0) := hW
  have ns3 := f.sh.pl.ns3
  have nb6 := f.sh.pl.nb6
  have HF : Hid (Formed p s) := f
  have HSB : Hid (∀ g, g < p.ns → 0 ≤ sumTo (fun i => (s.on.r i).z g) s.on.n ∧ sumTo (fun i => (s.on.r i).z g) s.on.n ≤ 1200) := fun g hg => by
    have := sumTo_bd (z := fun i => (s.on.r i).z g) (n := s.on.n) (fun j hj => f.sh.num j hj g hg) s.on.n (Nat.le_refl _)
    have := f.sh.n
    omega
  clear hW X0 f
  unfold Pl.val St.val
  go_enter Try.func39, Try.ntmps39
  go_wp2_with fail
  rw [HW.out]
  go_loopw [12] (fun i wk => ∃ g : Nat, g ≤ p.ns ∧ i = .int .i64 g ∧ (∀ j, j < g → wrongGood p s j = false) ∧ Below W0.heap.size W0 wk) (fun i _ => p.ns - (intOf i).toNat)
  case atStart => exact ⟨0, Nat.zero_le _, rfl, fun j hj => absurd hj (Nat.not_lt_zero _), Below.refl _ _⟩
  case round =>
    obtain ⟨g, hg, rfl, hno, hB⟩ := hrel
    have HN : Hid (∀ j, j < g → wrongGood p s j = false) := hno
    clear hno
    by_cases hlt : g < p.ns
    · obtain ⟨X, hpk, hsk⟩ := HC.out wr hB
      obtain ⟨⟨hl1, d0, d1⟩, hl2, c0, -⟩ := X
      obtain ⟨hs0, hsv⟩ := sum_ok HF.out.sh0 hlt
      go_wp2_with fail
      refine (Sum_any p s.on g wr hpk hsk.on).mono ?_
      rintro e w1 ⟨rfl, hB1⟩
      rw [hs0, hsv]
      clear hs0 hsv hl1 hl2 d0 d1 c0 hpk hsk
      have hC := hB.trans (hB1.mono hB.size)
      clear hB1
      obtain ⟨X, hpk, hsk⟩ := HC.out w1 hC
      obtain ⟨-, hl2, -, -, -, -, e4, e5, e6⟩ := X
      obtain ⟨b1, o1, a1, g1, y1⟩ := hsk.si.ints g (by rw [HF.out.sin]; exact hlt)
      obtain ⟨b2, o2, a2, g2, y2⟩ := hsk.so.ints g (by rw [HF.out.son]; exact hlt)
      obtain ⟨b3, o3, a3, g3, y3⟩ := hsk.sf.ints g (by rw [HF.out.sfn]; exact hlt)
      have u1 := HF.out.sib g hlt
      have u2 := HF.out.sob g hlt
      have u3 := HF.out.sfb g hlt
      have u4 := HSB.out g hlt
      rw [a1, HF.out.sin] at e4
      rw [a2, HF.out.son] at e5
      rw [a3, HF.out.sfn] at e6
      have v1 := hsk.si.le
      have v2 := hsk.so.le
      have v3 := hsk.sf.le
      have v4 := hsk.si.cap
      have v5 := hsk.so.cap
      have v6 := hsk.sf.cap
      rw [HF.out.sin] at v1
      rw [HF.out.son] at v2
      rw [HF.out.sfn] at v3
      unfold maxLen at v4 v5 v6
      have r1 : ∀ d os, (grow (redrawn w1 d) os).cell? ⟨w.heap.size + 1, 4, none⟩ = some (.slice (some ⟨b1, o1, none⟩) p.ns s.si.c) := fun d os => cell_regrown e4 d os
      have r2 : ∀ d os, (grow (redrawn w1 d) os).cell? ⟨w.heap.size + 1, 5, none⟩ = some (.slice (some ⟨b2, o2, none⟩) p.ns s.so.c) := fun d os => cell_regrown e5 d os
      have r3 : ∀ d os, (grow (redrawn w1 d) os).cell? ⟨w.heap.size + 1, 6, none⟩ = some (.slice (some ⟨b3, o3, none⟩) p.ns s.sf.c) := fun d os => cell_regrown e6 d os
      have r4 : ∀ d os, (grow (redrawn w1 d) os).cell? ⟨b1, o1 + g, none⟩ = some (.int .i64 (s.si.z g)) := fun d os => cell_regrown y1 d os
      have r5 : ∀ d os, (grow (redrawn w1 d) os).cell? ⟨b2, o2 + g, none⟩ = some (.int .i64 (s.so.z g)) := fun d os => cell_regrown y2 d os
      have r6 : ∀ d os, (grow (redrawn w1 d) os).cell? ⟨b3, o3 + g, none⟩ = some (.int .i64 (s.sf.z g)) := fun d os => cell_regrown y3 d os
      have q1 : (0 : Int) ≤ (g : Int) := by omega
      have HE : Hid (wrongGood p s g = (!(sumTo (fun i => (s.on.r i).z g) s.on.n == s.si.z g - s.so.z g + s.sf.z g) || anyB p.nb (fun b => decide (availZ s b g < 0)))) := wrongGood_eq
      clear e4 e5 e6 y1 y2 y3 a1 a2 a3 hpk hsk hB
      generalize sumTo (fun i => (s.on.r i).z g) s.on.n = A at *
      generalize s.si.z g = I1 at *
      generalize s.so.z g = I2 at *
      generalize s.sf.z g = I3 at *
      go_wp2_with fail
      refine wp_region_quiet_below (by kernel_rfl) (by kernel_rfl) ?_
      repeat (go_big_quiet_step (fail))
      refine wpQuiet_nil ?_
      intro _ hw'
      obtain ⟨⟨dq, osq⟩, hw''⟩ := hw'
      subst hw''
      have hD := hC.trans ((below_regrown w1 dq osq).mono hC.size)
      clear r1 r2 r3 r4 r5 r6 hC
      generalize grow (redrawn w1 dq) osq = wz at *
      cases h1 : (A == I1 - I2 + I3)
      · have HT : Hid (wrongGood p s g = true) := by show wrongGood p s g = true; rw [HE.out, h1]; rfl
        have h1' : (A != I1 - I2 + I3) = true := by simp [bne, h1]
        rw [h1']
        clear h1 h1' HE
        go_wp2_with fail
        go_ret
        exact ⟨by rw [wrongGoodsB, anyB_yes hlt HT.out]; rfl, hWB.trans (hD.mono hWB.size)⟩
      · have h1' : (A != I1 - I2 + I3) = false := by simp [bne, h1]
        have HT : Hid (wrongGood p s g = anyB p.nb (fun b => decide (availZ s b g < 0))) := by show wrongGood p s g = _; rw [HE.out, h1]; rfl
        rw [h1']
        clear h1 h1' HE
        obtain ⟨X, hpk, hsk⟩ := HC.out wz hD
        obtain ⟨⟨hl1, d0, d1⟩, hl2, c0, c1, c2, c3, c4, c5, c6⟩ := X
        clear c0 c1 c2 c3 c4 c5 c6 d1 hpk hsk
        have pl1 := hp.leb
        have pl2 := hp.capb
        unfold maxLen at pl2
        go_wp2_with fail
        go_loopw [45] (fun i wk => ∃ b : Nat, b ≤ p.nb ∧ i = .int .i64 b ∧ (∀ j, j < b → decide (availZ s j g < 0) = false) ∧ Below W0.heap.size W0 wk) (fun i _ => p.nb - (intOf i).toNat)
        case atStart => exact ⟨0, Nat.zero_le _, rfl, fun j hj => absurd hj (Nat.not_lt_zero _), hD⟩
        case round =>
          clear hD hl1 hl2 d0
          obtain ⟨b, hb, rfl, hno, hB⟩ := hrel
          have HM : Hid (∀ j, j < b → decide (availZ s j g < 0) = false) := hno
          clear hno
          by_cases hlb : b < p.nb
          · obtain ⟨X, hpk, hsk⟩ := HC.out wr hB
            obtain ⟨-, hl2, c0, c1, c2, c3, c4, c5, c6⟩ := X
            go_wp2_with fail
            refine (avail_any p s b g wr hsk HF.out hlb hlt).mono ?_
            rintro e w2 ⟨rfl, hB2⟩
            clear hl2 c0 c1 c2 c3 c4 c5 c6 hpk hsk
            have hC := hB.trans (hB2.mono hB.size)
            clear hB2
            cases ha : decide (availZ s b g < 0)
            · have HA : Hid (decide (availZ s b g < 0) = false) := ha
              have ha' : ¬ availZ s b g < 0 := of_decide_eq_false ha
              generalize availZ s b g = AV at ha' ⊢
              clear ha
              go_wp2_with fail
              go_roundw
              case rel =>
                refine ⟨b + 1, by omega, by go_num, ?_, hC⟩
                intro j hj
                by_cases hjk : j = b
                · rw [hjk]; exact HA.out
                · exact HM.out j (by omega)
              case measure => simp [intOf]; omega
            · have HA : Hid (wrongGood p s g = true) := by show wrongGood p s g = true; rw [HT.out]; exact anyB_yes hlb ha
              have ha' : availZ s b g < 0 := of_decide_eq_true ha
              generalize availZ s b g = AV at ha' ⊢
              clear ha
              go_wp2_with fail
              go_ret
              exact ⟨by rw [wrongGoodsB, anyB_yes hlt HA.out]; rfl, hWB.trans (hC.mono hWB.size)⟩
          · have HA : Hid (wrongGood p s g = false) := by show wrongGood p s g = false; rw [HT.out]; exact anyB_no fun j hj => HM.out j (by omega)
            go_wp2_with fail
            go_roundw
            case rel =>
              refine ⟨g + 1, by omega, by go_num, ?_, hB⟩
              intro j hj
              by_cases hjk : j = g
              · rw [hjk]; exact HA.out
              · exact HN.out j (by omega)
            case measure => simp [intOf]; omega
    · go_wp2_with fail
      go_ret
      exact ⟨by rw [wrongGoodsB, anyB_no fun j hj => HN.out j (by omega)]; rfl, hWB.trans (hB.mono hWB.size)⟩
theorem kept_ok {s : Hs} {o l : Int} (h : anyB s.n (badH s.z) = false) : (if checkH s.n s.z = 0 then keptS s.z o l s.n else 0) = keptS s.z o l s.n ∧ checkH s.n s.z = 0 := by
  have : checkH s.n s.z = 0 := by simp [checkH, h]
  exact ⟨if_pos this, this⟩
theorem wrongOrder_eq {s : St} {i : Nat} : wrongOrder s i = (((s.os.z i).k == 1 && !anyB (s.os.z i).ls.n (fun j => lacksL ((s.os.z i).ls.z j))) || anyB (s.os.z i).ls.n (fun j => wrongL (s.os.z i).k ((s.os.z i).ls.z j) (keptS s.hs.z i j s.hs.n))) := rfl
set_option maxHeartbeats 4000000 in
theorem wrongOrders_any (p : Pl) (s : St) (w : World) (hs : s.At w) (f : Formed p s) :
    Calls Try.prog 40 #[s.val] w fun e w' => e = .returned (.bool (wrongOrdersB s)) ∧ Below w.heap.size w w' := by
  obtain ⟨W0, hW0, hWB, hX⟩ : ∃ W0, w.alloc (.cells s.cells 31) = W0 ∧ Below w.heap.size w W0 ∧ Blk W0 w.heap.size 31 7 (fun j => s.cells.getD j default) := ⟨_, rfl, (Below.refl w.heap.size w).alloc (Nat.le_refl _) _, Blk.mk' rfl rfl⟩
  have hs0 := hs.below hWB
  have HC : Hid (∀ wk, Below W0.heap.size W0 wk → s.At wk ∧ wk.cell? ⟨w.heap.size, 2, none⟩ = some (.slice s.hs.a s.hs.n s.hs.c) ∧ w.heap.size < wk.heap.size) :=
    fun wk h => ⟨hs0.below h, (hX.below h).cell (j := 2) (by decide), (hX.below h).lt⟩
  have HW : Hid (w.alloc (.cells #[.slice s.on.a s.on.n s.on.c, .slice s.os.a s.os.n s.os.c, .slice s.hs.a s.hs.n s.hs.c, .slice s.ms.a s.ms.n s.ms.c, .slice s.si.a s.si.n s.si.c, .slice s.so.a s.so.n s.so.c, .slice s.sf.a s.sf.n s.sf.c] 31) = W0) := hW0
  have os4 := f.os4
  have osle := hs.os.le
  have oscap := hs.os.cap
  have h72 := f.hs72
  have HF : Hid (Formed p s) := f
  unfold maxLen at oscap
  clear hW0 hX hs0 f
  unfold St.val
  go_enter Try.func40, Try.ntmps40
  go_wp2_with fail
  rw [HW.out]
  go_loopw [12] (fun i wk => ∃ k : Nat, k ≤ s.os.n ∧ i = .int .i64 k ∧ (∀ j, j < k → wrongOrder s j = false) ∧ Below W0.heap.size W0 wk) (fun i _ => s.os.n - (intOf i).toNat)
  case atStart => exact ⟨0, Nat.zero_le _, rfl, fun j hj => absurd hj (Nat.not_lt_zero _), Below.refl _ _⟩
  case round =>
    obtain ⟨i, hi, rfl, hno, hB⟩ := hrel
    have HN : Hid (∀ j, j < i → wrongOrder s j = false) := hno
    clear hno
    by_cases hlt : i < s.os.n
    · obtain ⟨hsk, c2, hl0⟩ := HC.out wr hB
      obtain ⟨b, o, hoa, hb, z0, z1, hl⟩ := hsk.os.ods i hlt
      have q1 : (0 : Int) ≤ (i : Int) := by omega
      have HE : Hid (wrongOrder s i = (((s.os.z i).k == 1 && !anyB (s.os.z i).ls.n (fun j => lacksL ((s.os.z i).ls.z j))) || anyB (s.os.z i).ls.n (fun j => wrongL (s.os.z i).k ((s.os.z i).ls.z j) (keptS s.hs.z i j s.hs.n)))) := wrongOrder_eq
      have HL : Hid (∀ j, j < (s.os.z i).ls.n → (0 ≤ ((s.os.z i).ls.z j).b ∧ ((s.os.z i).ls.z j).b ≤ 200) ∧ (0 ≤ ((s.os.z i).ls.z j).n ∧ ((s.os.z i).ls.z j).n ≤ 200) ∧ 0 ≤ keptS s.hs.z i j s.hs.n ∧ keptS s.hs.z i j s.hs.n ≤ 14400) := fun j hj => by
        have a := badLine_no (HF.out.line i hlt j hj)
        have c := keptS_bd (z := s.hs.z) (i : Int) (j : Int) s.hs.n HF.out.holdN
        omega
      have n3 := (HF.out.lns i hlt).2
      have HB : Hid (b < wr.heap.size) := hb
      rw [hoa]
      clear hoa hsk c2
      generalize (s.os.z i).k = KD at *
      generalize (s.os.z i).ls = LS at *
      obtain ⟨W1, hW1, hB1, hY⟩ : ∃ W1, wr.alloc (.cells #[.int .i64 KD, .slice LS.a LS.n LS.c] 51) = W1 ∧ Below W0.heap.size W0 W1 ∧ Blk W1 wr.heap.size 51 2 (fun j => (#[.int .i64 KD, .slice LS.a LS.n LS.c] : Array Value).getD j default) := ⟨_, rfl, hB.alloc hB.size _, Blk.mk' rfl rfl⟩
      have HV : Hid (wr.alloc (.cells #[.int .i64 KD, .slice LS.a LS.n LS.c] 51) = W1) := hW1
      have hl1 : LS.At W1 := by rw [← hW1]; exact hl.below ((Below.refl _ _).alloc (Nat.le_refl _) _)
      clear hW1
      cases h1 : (KD == 1)
      · have HE2 : Hid (wrongOrder s i = anyB LS.n (fun j => wrongL KD (LS.z j) (keptS s.hs.z i j s.hs.n))) := by show wrongOrder s i = _; rw [HE.out, h1]; rfl
        clear HE
        go_wp2_with fail
        rw [HV.out]
        have hBW := hB1
        have hlW := hl1
        have hYW := hY
        clear hB1 hl1 hY HV
        obtain ⟨W2, rfl⟩ : ∃ W2, W2 = W1 := ⟨_, rfl⟩
        obtain ⟨B4, hB4⟩ : ∃ B4, wr.heap.size = B4 := ⟨_, rfl⟩
        rw [hB4] at hYW ⊢
        have HD : Hid (∀ wk, Below W2.heap.size W2 wk → LS.At wk ∧ wk.cell? ⟨B4, 0, none⟩ = some (.int .i64 KD) ∧ B4 < wk.heap.size ∧ Below W0.heap.size W0 wk) := fun wk h => ⟨hlW.below h, (hYW.below h).cell (j := 0) (by decide), (hYW.below h).lt, hBW.trans (h.mono hBW.size)⟩
        clear hlW hYW hl hB hl0 z0 z1 hB4 HB hb
        go_loopw [29] (fun i0 wk => ∃ k : Nat, k ≤ LS.n ∧ i0 = .int .i64 k ∧ (∀ j, j < k → wrongL KD (LS.z j) (keptS s.hs.z i j s.hs.n) = false) ∧ Below W2.heap.size W2 wk) (fun i0 _ => LS.n - (intOf i0).toNat)
        case atStart => exact ⟨0, Nat.zero_le _, rfl, fun j hj => absurd hj (Nat.not_lt_zero _), Below.refl _ _⟩
        case round =>
          obtain ⟨j, hj, rfl, hno, hBr⟩ := hrel
          have HM : Hid (∀ j', j' < j → wrongL KD (LS.z j') (keptS s.hs.z i j' s.hs.n) = false) := hno
          clear hno
          by_cases hlj : j < LS.n
          · obtain ⟨hlk, d0, hl2, hBk⟩ := HD.out wr hBr
            obtain ⟨hsk, c2, hl0⟩ := HC.out wr hBk
            obtain ⟨b', o', hla, hb', y0, y1, y2, y3⟩ := hlk.hds j hlj
            have q2 : (0 : Int) ≤ (j : Int) := by omega
            obtain ⟨k1, k2, k3⟩ := HL.out j hlj
            have HT : Hid (wrongL KD (LS.z j) (keptS s.hs.z i j s.hs.n) = true → wrongOrder s i = true) := fun h => by rw [HE2.out]; exact anyB_yes hlj h
            have HU : Hid (wrongL KD (LS.z j) (keptS s.hs.z i j s.hs.n) = false → ∀ j', j' < j + 1 → wrongL KD (LS.z j') (keptS s.hs.z i j' s.hs.n) = false) := fun h j' hj' => by
              by_cases hjk : j' = j
              · rw [hjk]; exact h
              · exact HM.out j' (by omega)
            have hKO := kept_ok (s := s.hs) (o := i) (l := j) HF.out.hold
            have hBn := (Below.refl wr.heap.size wr).alloc (Nat.le_refl _) (.cells #[.int .i64 (LS.z j).o, .int .i64 (LS.z j).l, .int .i64 (LS.z j).b, .int .i64 (LS.z j).n] 53)
            have hYn := Blk.new wr #[.int .i64 (LS.z j).o, .int .i64 (LS.z j).l, .int .i64 (LS.z j).b, .int .i64 (LS.z j).n] 53
            have HKO : Hid ((if checkH s.hs.n s.hs.z = 0 then keptS s.hs.z i j s.hs.n else 0) = keptS s.hs.z i j s.hs.n ∧ checkH s.hs.n s.hs.z = 0) := hKO
            rw [hla]
            clear hla hlk HM hKO
            generalize LS.z j = LZ at *
            go_wp2_with fail
            refine (Kept_any s.hs i j _ (hsk.hs.below hBn)).mono ?_
            rintro e w3 ⟨rfl, hB3⟩
            rw [HKO.out.1, HKO.out.2]
            generalize keptS s.hs.z i j s.hs.n = KP at *
            have hB4 := hBn.trans (hB3.mono hBn.size)
            have hY3 := hYn.below hB3
            have d0 := (hB4.cell (p := ⟨B4, 0, none⟩) hl2).trans d0
            have hl2 := Nat.lt_of_lt_of_le hl2 hB4.size
            have t0 : w3.cell? ⟨wr.heap.size, 0, none⟩ = some (.int .i64 LZ.o) := hY3.cell (j := 0) (by simp)
            have t1 : w3.cell? ⟨wr.heap.size, 1, none⟩ = some (.int .i64 LZ.l) := hY3.cell (j := 1) (by simp)
            have t2 : w3.cell? ⟨wr.heap.size, 2, none⟩ = some (.int .i64 LZ.b) := hY3.cell (j := 2) (by simp)
            have t3 : w3.cell? ⟨wr.heap.size, 3, none⟩ = some (.int .i64 LZ.n) := hY3.cell (j := 3) (by simp)
            have hlt3 := hY3.lt
            have hB5 := hBr.trans (hB4.mono hBr.size)
            have hB6 := hBk.trans (hB4.mono hBk.size)
            clear hB3 hYn hBn hY3 hB4 hsk c2 y0 y1 y2 y3 hBr hBk HKO
            go_wp2_with fail
            refine (wrongLine_any KD LZ KP w3 k1 k2 k3).mono ?_
            rintro e w5 ⟨rfl, hB7⟩
            have hB8 := hB5.trans (hB7.mono hB5.size)
            have hB9 := hB6.trans (hB7.mono hB6.size)
            clear hB7 hB5 hB6 t0 t1 t2 t3 d0
            cases hw : wrongL KD LZ KP
            · have HX := HU.out hw
              have HX2 : Hid _ := HX
              clear hw HX HU HT
              go_wp2_with fail
              go_roundw
              case rel => exact ⟨j + 1, by omega, by go_num, HX2.out, hB8⟩
              case measure => simp [intOf]; omega
            · have HX := HT.out hw
              have HX2 : Hid (wrongOrder s i = true) := HX
              clear hw HX HU HT
              go_wp2_with fail
              go_ret
              exact ⟨by rw [wrongOrdersB, anyB_yes hlt HX2.out]; rfl, hWB.trans (hB9.mono hWB.size)⟩
          · have HA : Hid (wrongOrder s i = false) := by show wrongOrder s i = false; rw [HE2.out]; exact anyB_no fun j' hj' => HM.out j' (by omega)
            have hBk := (HD.out wr hBr).2.2.2
            go_wp2_with fail
            go_roundw
            case rel =>
              refine ⟨i + 1, by omega, by go_num, ?_, hBk⟩
              intro j' hj'
              by_cases hjk : j' = i
              · rw [hjk]; exact HA.out
              · exact HN.out j' (by omega)
            case measure => simp [intOf]; omega
      · have lle1 := hl1.le
        have lcap0 := hl1.cap
        have lcap := lcap0
        unfold maxLen at lcap
        go_wp2_with fail
        rw [HV.out]
        refine (anyL4 83 #[] (fun j => lacksL (LS.z j)) _ _ _ _ lle1 lcap0 LS.z hl1.hds (enters_of Try.func83 (by kernel_rfl) rfl) (fun i w1 _ _ => by rw [Array.append_empty]; exact lacks_any _ _)).mono ?_
        rintro e W2 ⟨rfl, hBl⟩
        have hB12 := hB1.trans (hBl.mono hB1.size)
        have hl12 := hl1.below hBl
        have hY2 := hY.below hBl
        have d1 := hY2.cell (j := 1) (by simp)
        have d1' : W2.cell? ⟨wr.heap.size, 1, none⟩ = some (.slice LS.a LS.n LS.c) := d1
        have hlW2 := hY2.lt
        clear d1 hBl
        cases h2 : anyB LS.n (fun j => lacksL (LS.z j))
        · have HX2 : Hid (wrongOrder s i = true) := by show wrongOrder s i = true; rw [HE.out, h1, h2]; rfl
          clear h2
          go_wp2_with fail
          go_ret
          exact ⟨by rw [wrongOrdersB, anyB_yes hlt HX2.out]; rfl, hWB.trans (hB12.mono hWB.size)⟩
        · have HE2 : Hid (wrongOrder s i = anyB LS.n (fun j => wrongL KD (LS.z j) (keptS s.hs.z i j s.hs.n))) := by show wrongOrder s i = _; rw [HE.out, h1, h2]; rfl
          clear HE h2
          go_wp2_with fail
          clear d1' hlW2
          have hBW := hB12
          have hlW := hl12
          have hYW := hY2
          clear hB1 hl1 hY HV hB12 hl12 hY2
          obtain ⟨B4, hB4⟩ : ∃ B4, wr.heap.size = B4 := ⟨_, rfl⟩
          rw [hB4] at hYW ⊢
          have HD : Hid (∀ wk, Below W2.heap.size W2 wk → LS.At wk ∧ wk.cell? ⟨B4, 0, none⟩ = some (.int .i64 KD) ∧ B4 < wk.heap.size ∧ Below W0.heap.size W0 wk) := fun wk h => ⟨hlW.below h, (hYW.below h).cell (j := 0) (by decide), (hYW.below h).lt, hBW.trans (h.mono hBW.size)⟩
          clear hlW hYW hl hB hl0 z0 z1 hB4 HB hb
          go_loopw [29] (fun i0 wk => ∃ k : Nat, k ≤ LS.n ∧ i0 = .int .i64 k ∧ (∀ j, j < k → wrongL KD (LS.z j) (keptS s.hs.z i j s.hs.n) = false) ∧ Below W2.heap.size W2 wk) (fun i0 _ => LS.n - (intOf i0).toNat)
          case atStart => exact ⟨0, Nat.zero_le _, rfl, fun j hj => absurd hj (Nat.not_lt_zero _), Below.refl _ _⟩
          case round =>
            obtain ⟨j, hj, rfl, hno, hBr⟩ := hrel
            have HM : Hid (∀ j', j' < j → wrongL KD (LS.z j') (keptS s.hs.z i j' s.hs.n) = false) := hno
            clear hno
            by_cases hlj : j < LS.n
            · obtain ⟨hlk, d0, hl2, hBk⟩ := HD.out wr hBr
              obtain ⟨hsk, c2, hl0⟩ := HC.out wr hBk
              obtain ⟨b', o', hla, hb', y0, y1, y2, y3⟩ := hlk.hds j hlj
              have q2 : (0 : Int) ≤ (j : Int) := by omega
              obtain ⟨k1, k2, k3⟩ := HL.out j hlj
              have HT : Hid (wrongL KD (LS.z j) (keptS s.hs.z i j s.hs.n) = true → wrongOrder s i = true) := fun h => by rw [HE2.out]; exact anyB_yes hlj h
              have HU : Hid (wrongL KD (LS.z j) (keptS s.hs.z i j s.hs.n) = false → ∀ j', j' < j + 1 → wrongL KD (LS.z j') (keptS s.hs.z i j' s.hs.n) = false) := fun h j' hj' => by
                by_cases hjk : j' = j
                · rw [hjk]; exact h
                · exact HM.out j' (by omega)
              have hKO := kept_ok (s := s.hs) (o := i) (l := j) HF.out.hold
              have hBn := (Below.refl wr.heap.size wr).alloc (Nat.le_refl _) (.cells #[.int .i64 (LS.z j).o, .int .i64 (LS.z j).l, .int .i64 (LS.z j).b, .int .i64 (LS.z j).n] 53)
              have hYn := Blk.new wr #[.int .i64 (LS.z j).o, .int .i64 (LS.z j).l, .int .i64 (LS.z j).b, .int .i64 (LS.z j).n] 53
              have HKO : Hid ((if checkH s.hs.n s.hs.z = 0 then keptS s.hs.z i j s.hs.n else 0) = keptS s.hs.z i j s.hs.n ∧ checkH s.hs.n s.hs.z = 0) := hKO
              rw [hla]
              clear hla hlk HM hKO
              generalize LS.z j = LZ at *
              go_wp2_with fail
              refine (Kept_any s.hs i j _ (hsk.hs.below hBn)).mono ?_
              rintro e w3 ⟨rfl, hB3⟩
              rw [HKO.out.1, HKO.out.2]
              generalize keptS s.hs.z i j s.hs.n = KP at *
              have hB4 := hBn.trans (hB3.mono hBn.size)
              have hY3 := hYn.below hB3
              have d0 := (hB4.cell (p := ⟨B4, 0, none⟩) hl2).trans d0
              have hl2 := Nat.lt_of_lt_of_le hl2 hB4.size
              have t0 : w3.cell? ⟨wr.heap.size, 0, none⟩ = some (.int .i64 LZ.o) := hY3.cell (j := 0) (by simp)
              have t1 : w3.cell? ⟨wr.heap.size, 1, none⟩ = some (.int .i64 LZ.l) := hY3.cell (j := 1) (by simp)
              have t2 : w3.cell? ⟨wr.heap.size, 2, none⟩ = some (.int .i64 LZ.b) := hY3.cell (j := 2) (by simp)
              have t3 : w3.cell? ⟨wr.heap.size, 3, none⟩ = some (.int .i64 LZ.n) := hY3.cell (j := 3) (by simp)
              have hlt3 := hY3.lt
              have hB5 := hBr.trans (hB4.mono hBr.size)
              have hB6 := hBk.trans (hB4.mono hBk.size)
              clear hB3 hYn hBn hY3 hB4 hsk c2 y0 y1 y2 y3 hBr hBk HKO
              go_wp2_with fail
              refine (wrongLine_any KD LZ KP w3 k1 k2 k3).mono ?_
              rintro e w5 ⟨rfl, hB7⟩
              have hB8 := hB5.trans (hB7.mono hB5.size)
              have hB9 := hB6.trans (hB7.mono hB6.size)
              clear hB7 hB5 hB6 t0 t1 t2 t3 d0
              cases hw : wrongL KD LZ KP
              · have HX := HU.out hw
                have HX2 : Hid _ := HX
                clear hw HX HU HT
                go_wp2_with fail
                go_roundw
                case rel => exact ⟨j + 1, by omega, by go_num, HX2.out, hB8⟩
                case measure => simp [intOf]; omega
              · have HX := HT.out hw
                have HX2 : Hid (wrongOrder s i = true) := HX
                clear hw HX HU HT
                go_wp2_with fail
                go_ret
                exact ⟨by rw [wrongOrdersB, anyB_yes hlt HX2.out]; rfl, hWB.trans (hB9.mono hWB.size)⟩
            · have HA : Hid (wrongOrder s i = false) := by show wrongOrder s i = false; rw [HE2.out]; exact anyB_no fun j' hj' => HM.out j' (by omega)
              have hBk := (HD.out wr hBr).2.2.2
              go_wp2_with fail
              go_roundw
              case rel =>
                refine ⟨i + 1, by omega, by go_num, ?_, hBk⟩
                intro j' hj'
                by_cases hjk : j' = i
                · rw [hjk]; exact HA.out
                · exact HN.out j' (by omega)
              case measure => simp [intOf]; omega
    · go_wp2_with fail
      go_ret
      exact ⟨by rw [wrongOrdersB, anyB_no fun j hj => HN.out j (by omega)]; rfl, hWB.trans (hB.mono hWB.size)⟩
end Go.Proofs.Ytbcacebifpagpac
namespace Go.Proofs.Ytbcacebifpagpac
open Go.RowKit Go.Shelf Go.Sort
set_option linter.unusedVariables false
def summedB (p : Pl) (s : St) : Bool := !(wrongGoodsB p s || wrongOrdersB s)
theorem sB_good {p : Pl} {s : St} {g : Nat} (hg : g < p.ns) (h : wrongGood p s g = true) : summedB p s = false := by
  have : wrongGoodsB p s = true := anyB_yes hg h
  simp [summedB, this]
theorem sB_order {p : Pl} {s : St} {i : Nat} (hi : i < s.os.n) (h : wrongOrder s i = true) : summedB p s = false := by
  have : wrongOrdersB s = true := anyB_yes hi h
  simp [summedB, this]
theorem sB_yes {p : Pl} {s : St} (h1 : ∀ g, g < p.ns → wrongGood p s g = false) (h2 : ∀ i, i < s.os.n → wrongOrder s i = false) : summedB p s = true := by
  have e1 : wrongGoodsB p s = false := anyB_no h1
  have e2 : wrongOrdersB s = false := anyB_no h2
  simp [summedB, e1, e2]
theorem wg_sum {p : Pl} {s : St} {g : Nat} (h : ¬ sumTo (fun i => (s.on.r i).z g) s.on.n = s.si.z g - s.so.z g + s.sf.z g) : wrongGood p s g = true := by
  rw [wrongGood_eq]
  have : (sumTo (fun i => (s.on.r i).z g) s.on.n == s.si.z g - s.so.z g + s.sf.z g) = false := by simpa using h
  rw [this]; rfl
theorem wg_bound {p : Pl} {s : St} {g b : Nat} (hb : b < p.nb) (h : (s.on.r b).z g < heldTo s b g s.hs.n + fromTo s b g s.ms.n) : wrongGood p s g = true := by
  rw [wrongGood_eq, anyB_yes hb (decide_eq_true (by unfold availZ; omega)), Bool.or_true]
theorem wg_no {p : Pl} {s : St} {g : Nat} (h : sumTo (fun i => (s.on.r i).z g) s.on.n = s.si.z g - s.so.z g + s.sf.z g) (h2 : ∀ b, b < p.nb → decide ((s.on.r b).z g < heldTo s b g s.hs.n + fromTo s b g s.ms.n) = false) : wrongGood p s g = false := by
  rw [wrongGood_eq, h, anyB_no fun b hb => ?_]
  · simp
  · have := of_decide_eq_false (h2 b hb)
    exact decide_eq_false (by unfold availZ; omega)
def noLack (ls : Nat → Hd) (n : Nat) : Bool := !anyB n (fun j => lacksL (ls j))
theorem noLack_succ (ls : Nat → Hd) (n : Nat) : noLack ls (n + 1) = (noLack ls n && ((ls n).b == (ls n).l)) := by
  unfold noLack
  rw [anyB_succ]
  simp [lacksL]
theorem noLack_step {ls : Nat → Hd} {n : Nat} {b c : Bool} (h : noLack ls n = b) (h2 : ((ls n).b == (ls n).l) = c) : noLack ls (n + 1) = (b && c) := by rw [noLack_succ, h, h2]
theorem all_succ3 {k : Nat} {f : Nat → Bool} {b : Bool} (h : ∀ j, j < k → f j = b) (hk : f k = b) : ∀ j, j < k + 1 → f j = b := fun j hj => by
  by_cases hjk : j = k
  · rw [hjk]; exact hk
  · exact h j (by omega)
theorem wL0 {x : Hd} {kept : Int} (h1 : 0 ≤ x.b ∧ x.b ≤ 200) (h2 : 0 ≤ x.n ∧ x.n ≤ 200) (h3 : 0 ≤ kept ∧ kept ≤ 14400) : wrongL 0 x kept = !(x.b + x.n + kept == 0) := by
  unfold wrongL
  rw [if_pos rfl, Bool.eq_iff_iff]
  simp only [Bool.or_eq_true, Bool.not_eq_true', beq_eq_false_iff_ne, ne_eq]
  omega
theorem wL1 {x : Hd} {kept : Int} : wrongL 1 x kept = !(x.b + x.n + kept == x.l) := by
  unfold wrongL
  rw [if_neg (by decide), if_neg (by decide)]
theorem wL2 {x : Hd} {kept : Int} : wrongL 2 x kept = (!(x.b + x.n + kept == x.l) || !(kept == 0)) := by
  unfold wrongL
  rw [if_neg (by decide), if_pos rfl, Bool.eq_iff_iff]
  simp only [Bool.or_eq_true, Bool.not_eq_true', beq_eq_false_iff_ne, ne_eq]
  omega
theorem below_of_regrown {W w' : World} (h : ∃ p : Regrown, w' = grow (redrawn W p.d) p.os) : Below W.heap.size W w' := by
  obtain ⟨p, rfl⟩ := h
  exact below_regrown _ _ _
theorem line_stored {A w : World} {B : Nat} {e : TypeId} {f : Nat → Value} (hY : Blk w B e 4 f) (hX : Below A.heap.size A w) (hB : A.heap.size ≤ B) (x : Hd) :
    ∃ W, (((w.setCell ⟨B, 0, none⟩ (.int .i64 x.o)).setCell ⟨B, 1, none⟩ (.int .i64 x.l)).setCell ⟨B, 2, none⟩ (.int .i64 x.b)).setCell ⟨B, 3, none⟩ (.int .i64 x.n) = W ∧ Below A.heap.size A W ∧
      Blk W B e 4 (fun j => (#[.int .i64 x.o, .int .i64 x.l, .int .i64 x.b, .int .i64 x.n] : Array Value).getD j default) :=
  ⟨_, rfl, (((hX.setCell (p := ⟨B, 0, none⟩) hB _).setCell (p := ⟨B, 1, none⟩) hB _).setCell (p := ⟨B, 2, none⟩) hB _).setCell (p := ⟨B, 3, none⟩) hB _,
    ((((hY.set 0 _).set 1 _).set 2 _).set 3 _).congr (fun j hj => by match j, hj with | 0, _ => rfl | 1, _ => rfl | 2, _ => rfl | 3, _ => rfl)⟩
set_option maxRecDepth 100000 in
set_option maxHeartbeats 4000000 in
theorem summed_any (p : Pl) (s : St) (w : World) (hp : p.At w) (hs : s.At w) (f : Formed p s) :
    Calls Try.prog 99 #[p.val, s.val] w fun e w' => e = .returned (.bool (summedB p s)) ∧ Below w.heap.size w w' := by
  obtain ⟨W0, hW, hWB, X0⟩ : ∃ W, ((w.alloc (.cells #[.slice p.ab p.nb p.cb, .slice p.sa p.ns p.cs] 25)).alloc (.cells s.cells 31)) = W ∧ Below w.heap.size w W ∧ Boxes W w.heap.size (w.heap.size + 1) p s := ⟨_, rfl, two_below _ _ _, boxes_new w p s _ _⟩
  have HC : Hid (∀ wk, Below W0.heap.size W0 wk → Boxes wk w.heap.size (w.heap.size + 1) p s ∧ p.At wk ∧ s.At wk ∧ Below w.heap.size w wk) := fun wk h => ⟨X0.below h, (hp.below hWB).below h, (hs.below hWB).below h, hWB.trans (h.mono hWB.size)⟩
  have HW : Hid ((w.alloc (.cells #[.slice p.ab p.nb p.cb, .slice p.sa p.ns p.cs] 25)).alloc (.cells #[.slice s.on.a s.on.n s.on.c, .slice s.os.a s.os.n s.os.c, .slice s.hs.a s.hs.n s.hs.c, .slice s.ms.a s.ms.n s.ms.c, .slice s.si.a s.si.n s.si.c, .slice s.so.a s.so.n s.so.c, .slice s.sf.a s.sf.n s.sf.c] 31) = W0) := hW
  have leb := hp.leb
  have capb := hp.capb
  have les := hp.les
  have caps := hp.caps
  have ole := hs.os.le
  have ocap := hs.os.cap
  unfold maxLen at capb caps ocap
  have os4 := f.os4
  have h72 := f.hs72
  have ms8 := f.ms8
  have ns3 := f.sh.pl.ns3
  have nb6 := f.sh.pl.nb6
  have HF : Hid (Formed p s) := f
  clear hW X0 hp hs f
  unfold Pl.val St.val
  go_enter Try.func99, Try.ntmps99
  go_wp2_with fail
  rw [HW.out]
  go_loopw [5] (fun i wk => ∃ k : Nat, k ≤ p.ns ∧ i = .int .i64 k ∧ (∀ j, j < k → wrongGood p s j = false) ∧ Below W0.heap.size W0 wk) (fun i _ => p.ns - (intOf i).toNat)
  case atStart => exact ⟨0, Nat.zero_le _, rfl, fun j hj => absurd hj (Nat.not_lt_zero _), Below.refl _ _⟩
  case round =>
    obtain ⟨g, hg, rfl, hno, hB⟩ := hrel
    have HN : Hid (∀ j, j < g → wrongGood p s j = false) := hno
    clear hno
    obtain ⟨X, hpk, hsk, hBw⟩ := HC.out wr hB
    obtain ⟨⟨l1, d0, d1⟩, l2, c0, c1, c2, c3, c4, c5, c6⟩ := X
    by_cases hlt : g < p.ns
    · have qg : (0 : Int) ≤ (g : Int) := by omega
      have F := HF.out
      obtain ⟨b1, o1, e1, g1, z1⟩ := hsk.si.ints g (by rw [F.sin]; exact hlt)
      obtain ⟨b2, o2, e2, g2, z2⟩ := hsk.so.ints g (by rw [F.son]; exact hlt)
      obtain ⟨b3, o3, e3, g3, z3⟩ := hsk.sf.ints g (by rw [F.sfn]; exact hlt)
      have v1 := hsk.si.le
      have v2 := hsk.so.le
      have v3 := hsk.sf.le
      have v4 := hsk.si.cap
      have v5 := hsk.so.cap
      have v6 := hsk.sf.cap
      have u1 := F.sib g hlt
      have u2 := F.sob g hlt
      have u3 := F.sfb g hlt
      unfold maxLen at v4 v5 v6
      have HON : Hid (s.on.At wr) := hsk.on
      rw [e1, F.sin] at c4
      rw [e2, F.son] at c5
      rw [e3, F.sfn] at c6
      rw [F.sin] at v1
      rw [F.son] at v2
      rw [F.sfn] at v3
      have r0 : ∀ d os, (grow (redrawn wr d) os).cell? ⟨w.heap.size + 1, 0, none⟩ = some (.slice s.on.a s.on.n s.on.c) := fun d os => cell_regrown c0 d os
      have r4 : ∀ d os, (grow (redrawn wr d) os).cell? ⟨w.heap.size + 1, 4, none⟩ = some (.slice (some ⟨b1, o1, none⟩) p.ns s.si.c) := fun d os => cell_regrown c4 d os
      have r5 : ∀ d os, (grow (redrawn wr d) os).cell? ⟨w.heap.size + 1, 5, none⟩ = some (.slice (some ⟨b2, o2, none⟩) p.ns s.so.c) := fun d os => cell_regrown c5 d os
      have r6 : ∀ d os, (grow (redrawn wr d) os).cell? ⟨w.heap.size + 1, 6, none⟩ = some (.slice (some ⟨b3, o3, none⟩) p.ns s.sf.c) := fun d os => cell_regrown c6 d os
      have r7 : ∀ d os, (grow (redrawn wr d) os).cell? ⟨b1, o1 + g, none⟩ = some (.int .i64 (s.si.z g)) := fun d os => cell_regrown z1 d os
      have r8 : ∀ d os, (grow (redrawn wr d) os).cell? ⟨b2, o2 + g, none⟩ = some (.int .i64 (s.so.z g)) := fun d os => cell_regrown z2 d os
      have r9 : ∀ d os, (grow (redrawn wr d) os).cell? ⟨b3, o3 + g, none⟩ = some (.int .i64 (s.sf.z g)) := fun d os => cell_regrown z3 d os
      have HT1 : Hid (¬ sumTo (fun i => (s.on.r i).z g) s.on.n = s.si.z g - s.so.z g + s.sf.z g → summedB p s = false) := fun h => sB_good hlt (wg_sum h)
      have HT2 : Hid (∀ b, b < p.nb → (s.on.r b).z g < heldTo s b g s.hs.n + fromTo s b g s.ms.n → summedB p s = false) := fun b hb h => sB_good hlt (wg_bound hb h)
      have HT3 : Hid (sumTo (fun i => (s.on.r i).z g) s.on.n = s.si.z g - s.so.z g + s.sf.z g → (∀ b, b < p.nb → decide ((s.on.r b).z g < heldTo s b g s.hs.n + fromTo s b g s.ms.n) = false) → wrongGood p s g = false) := fun h h2 => wg_no h h2
      have hsum : Hid (∀ wk, s.on.At wk → Calls Try.prog 120 #[s.on.val, .int .i64 g] wk fun e w' => e = .returned (.int .i64 (sumTo (fun i => (s.on.r i).z g) s.on.n)) ∧ Below wk.heap.size wk w') := fun wk h => SumOf_any p s.on g wk h F.sh hlt
      unfold Sh.val at hsum
      clear e1 e2 e3 hsk hpk c0 c1 c2 c3 c4 c5 c6 z1 z2 z3 d0 F
      generalize sumTo (fun i => (s.on.r i).z g) s.on.n = SM at *
      generalize s.si.z g = I1 at *
      generalize s.so.z g = I2 at *
      generalize s.sf.z g = I3 at *
      go_wp2_with fail
      refine wp_region_quiet_below (by kernel_rfl) (by kernel_rfl) ?_
      repeat (go_big_quiet_step ((go_at_call 120; exact Calls.regrown_of (hsum.out _ (HON.out.below (below_regrown _ _ _))))))
      refine wpQuiet_nil ?_
      intro _ hw'
      obtain ⟨⟨dq, osq⟩, hw''⟩ := hw'
      subst hw''
      have hB1 := hB.trans ((below_regrown wr dq osq).mono hB.size)
      clear r0 r4 r5 r6 r7 r8 r9 HON hsum hB hBw l1 l2 d1 g1 g2 g3 v1 v2 v3 v4 v5 v6
      generalize grow (redrawn wr dq) osq = wz at *
      obtain ⟨X, hpk, hsk, hBw⟩ := HC.out wz hB1
      obtain ⟨⟨l1, d0, d1⟩, l2, c0, c1, c2, c3, c4, c5, c6⟩ := X
      by_cases heq : SM = I1 - I2 + I3
      · have he : (SM != I1 - I2 + I3) = false := by simp [heq]
        have HEQ : Hid (SM = I1 - I2 + I3) := heq
        rw [he]
        clear heq he hpk hsk c0 c1 c2 c3 c4 c5 c6 hBw
        go_wp2_with fail
        clear d0 d1 l1 l2
        go_loopw [6] (fun i wk => ∃ k : Nat, k ≤ p.nb ∧ i = .int .i64 k ∧ (∀ b, b < k → decide ((s.on.r b).z g < heldTo s b g s.hs.n + fromTo s b g s.ms.n) = false) ∧ Below W0.heap.size W0 wk) (fun i _ => p.nb - (intOf i).toNat)
        case atStart => exact ⟨0, Nat.zero_le _, rfl, fun j hj => absurd hj (Nat.not_lt_zero _), hB1⟩
        case round =>
          clear hB1
          obtain ⟨b, hb, rfl, hno, hB⟩ := hrel
          have HM : Hid (∀ b', b' < b → decide ((s.on.r b').z g < heldTo s b' g s.hs.n + fromTo s b' g s.ms.n) = false) := hno
          clear hno
          obtain ⟨X, hpk, hsk, hBw⟩ := HC.out wr hB
          obtain ⟨⟨l1, d0, d1⟩, l2, c0, c1, c2, c3, c4, c5, c6⟩ := X
          by_cases hlb : b < p.nb
          · have qb : (0 : Int) ≤ (b : Int) := by omega
            have F := HF.out
            have hbn : b < s.on.n := by rw [F.sh.n]; exact hlb
            obtain ⟨bo, oo, hoa, hbo, y0, hrow⟩ := hsk.on.rows b hbn
            have rn := F.sh.len b hbn
            obtain ⟨br, orr, hra, hbr, y1⟩ := hrow.ints g (by rw [rn]; exact hlt)
            have v1 := hrow.le
            have v2 := hrow.cap
            have v3 := hsk.on.le
            have v4 := hsk.on.cap
            unfold maxLen at v2 v4
            have hx := heldTo_bd (s := s) (b := b) (g := g) F.holdN
            have hy := fromTo_bd (s := s) (b := b) (g := g) F.moveN
            have hz := F.sh.num b hbn g hlt
            rw [hra, rn] at y0
            rw [rn] at v1
            rw [hoa] at c0
            have HSA : Hid (s.At wr ∧ s.on.a = some ⟨bo, oo, none⟩) := ⟨hsk, hoa⟩
            have r0 : ∀ d os, (grow (redrawn wr d) os).cell? ⟨w.heap.size + 1, 0, none⟩ = some (.slice (some ⟨bo, oo, none⟩) s.on.n s.on.c) := fun d os => cell_regrown c0 d os
            have r1 : ∀ d os, (grow (redrawn wr d) os).cell? ⟨w.heap.size + 1, 1, none⟩ = some (.slice s.os.a s.os.n s.os.c) := fun d os => cell_regrown c1 d os
            have r2 : ∀ d os, (grow (redrawn wr d) os).cell? ⟨w.heap.size + 1, 2, none⟩ = some (.slice s.hs.a s.hs.n s.hs.c) := fun d os => cell_regrown c2 d os
            have r3 : ∀ d os, (grow (redrawn wr d) os).cell? ⟨w.heap.size + 1, 3, none⟩ = some (.slice s.ms.a s.ms.n s.ms.c) := fun d os => cell_regrown c3 d os
            have r4 : ∀ d os, (grow (redrawn wr d) os).cell? ⟨w.heap.size + 1, 4, none⟩ = some (.slice s.si.a s.si.n s.si.c) := fun d os => cell_regrown c4 d os
            have r5 : ∀ d os, (grow (redrawn wr d) os).cell? ⟨w.heap.size + 1, 5, none⟩ = some (.slice s.so.a s.so.n s.so.c) := fun d os => cell_regrown c5 d os
            have r6 : ∀ d os, (grow (redrawn wr d) os).cell? ⟨w.heap.size + 1, 6, none⟩ = some (.slice s.sf.a s.sf.n s.sf.c) := fun d os => cell_regrown c6 d os
            have r7 : ∀ d os, (grow (redrawn wr d) os).cell? ⟨bo, oo + b, none⟩ = some (.slice (some ⟨br, orr, none⟩) p.ns (s.on.r b).c) := fun d os => cell_regrown y0 d os
            have r8 : ∀ d os, (grow (redrawn wr d) os).cell? ⟨br, orr + g, none⟩ = some (.int .i64 ((s.on.r b).z g)) := fun d os => cell_regrown y1 d os
            have hbd : Hid (∀ wk, s.At wk → Calls Try.prog 121 #[.agg #[.slice (some ⟨bo, oo, none⟩) s.on.n s.on.c, .slice s.os.a s.os.n s.os.c, .slice s.hs.a s.hs.n s.hs.c, .slice s.ms.a s.ms.n s.ms.c, .slice s.si.a s.si.n s.si.c, .slice s.so.a s.so.n s.so.c, .slice s.sf.a s.sf.n s.sf.c], .int .i64 b, .int .i64 g] wk fun e w' => e = .returned (.int .i64 (heldTo s b g s.hs.n + fromTo s b g s.ms.n)) ∧ Below wk.heap.size wk w') := fun wk h => by
              have := bound_any p s b g wk h HF.out
              rw [St.val, HSA.out.2] at this
              exact this
            have HT4 : Hid (((s.on.r b).z g < heldTo s b g s.hs.n + fromTo s b g s.ms.n → summedB p s = false) ∧ (¬ (s.on.r b).z g < heldTo s b g s.hs.n + fromTo s b g s.ms.n → ∀ b', b' < b + 1 → decide ((s.on.r b').z g < heldTo s b' g s.hs.n + fromTo s b' g s.ms.n) = false)) := ⟨HT2.out b hlb, fun h => all_succ3 HM.out (decide_eq_false h)⟩
            clear hoa hra hrow rn F hsk hpk c0 c1 c2 c3 c4 c5 c6 y0 y1 HM d1
            generalize heldTo s b g s.hs.n + fromTo s b g s.ms.n = BD at *
            generalize (s.on.r b).z g = ON at *
            generalize (s.on.r b).c = RC at *
            by_cases hq : ON < BD
            · have HX : Hid (summedB p s = false) := HT4.out.1 hq
              go_wp2_with fail
              refine wp_region_quiet_below (by kernel_rfl) (by kernel_rfl) ?_
              repeat (go_big_quiet_step ((go_at_call 121; exact Calls.regrown_of (hbd.out _ (HSA.out.1.below (below_regrown _ _ _))))))
              refine wpQuiet_nil ?_
              intro _ hw'
              obtain ⟨⟨dq, osq⟩, hw''⟩ := hw'
              subst hw''
              go_wp2_with fail
              go_ret
              exact ⟨by rw [HX.out]; rfl, hBw.trans ((below_regrown _ _ _).mono hBw.size)⟩
            · have HX := HT4.out.2 hq
              have HX2 : Hid _ := HX
              clear HX
              go_wp2_with fail
              refine wp_region_quiet_below (by kernel_rfl) (by kernel_rfl) ?_
              repeat (go_big_quiet_step ((go_at_call 121; exact Calls.regrown_of (hbd.out _ (HSA.out.1.below (below_regrown _ _ _))))))
              refine wpQuiet_nil ?_
              intro _ hw'
              obtain ⟨⟨dq, osq⟩, hw''⟩ := hw'
              subst hw''
              go_wp2_with fail
              go_roundw
              case rel => exact ⟨b + 1, by omega, by go_num, HX2.out, hB.trans ((below_regrown _ _ _).mono hB.size)⟩
              case measure => simp [intOf]; omega
          · have HA : Hid (wrongGood p s g = false) := HT3.out HEQ.out fun b' hb' => HM.out b' (by omega)
            clear hsk hpk c0 c1 c2 c3 c4 c5 c6 HM
            go_wp2_with fail
            go_roundw
            case rel => exact ⟨g + 1, by omega, by go_num, all_succ3 HN.out HA.out, hB⟩
            case measure => simp [intOf]; omega
      · have he : (SM != I1 - I2 + I3) = true := by simp [heq]
        have HX : Hid (summedB p s = false) := HT1.out heq
        rw [he]
        clear heq he hpk hsk c0 c1 c2 c3 c4 c5 c6 d0 d1 l1 l2
        go_wp2_with fail
        go_ret
        exact ⟨by rw [HX.out]; rfl, hBw⟩
    · have HN2 : Hid (∀ j, j < p.ns → wrongGood p s j = false) := fun j hj => HN.out j (by omega)
      clear HN hsk hpk c0 c1 c2 c3 c4 c5 c6 hBw
      go_wp2_with fail
      clear d0 d1 l1 l2 hlt hg
      go_loopw [7] (fun i wk => ∃ k : Nat, k ≤ s.os.n ∧ i = .int .i64 k ∧ (∀ j, j < k → wrongOrder s j = false) ∧ Below W0.heap.size W0 wk) (fun i _ => s.os.n - (intOf i).toNat)
      case atStart => exact ⟨0, Nat.zero_le _, rfl, fun j hj => absurd hj (Nat.not_lt_zero _), hB⟩
      case round =>
        clear hB
        obtain ⟨i, hi, rfl, hno, hB⟩ := hrel
        have HN : Hid (∀ j, j < i → wrongOrder s j = false) := hno
        clear hno
        obtain ⟨X, hpk, hsk, hBw⟩ := HC.out wr hB
        obtain ⟨⟨l1, d0, d1⟩, l2, c0, c1, c2, c3, c4, c5, c6⟩ := X
        by_cases hlt : i < s.os.n
        · obtain ⟨b, o, hoa, hb, z0, z1, hl⟩ := hsk.os.ods i hlt
          have qi : (0 : Int) ≤ (i : Int) := by omega
          have HL : Hid (∀ wk, Below W0.heap.size W0 wk → wk.cell? ⟨b, o + i * 2, none⟩ = some (.int .i64 (s.os.z i).k) ∧ wk.cell? ⟨b, o + i * 2 + 1, none⟩ = some (.slice (s.os.z i).ls.a (s.os.z i).ls.n (s.os.z i).ls.c) ∧ (s.os.z i).ls.At wk ∧ wk.cell? ⟨w.heap.size + 1, 1, none⟩ = some (.slice (some ⟨b, o, none⟩) s.os.n s.os.c) ∧ w.heap.size + 1 < wk.heap.size ∧ b < wk.heap.size ∧ Below w.heap.size w wk ∧ s.hs.At wk ∧ wk.cell? ⟨w.heap.size + 1, 2, none⟩ = some (.slice s.hs.a s.hs.n s.hs.c)) := fun wk h => by
            obtain ⟨X, -, hsw, hBx⟩ := HC.out wk h
            obtain ⟨-, m2, -, f1, f2, -⟩ := X
            obtain ⟨b', o', hoa', hb', x0, x1, hl'⟩ := hsw.os.ods i hlt
            rw [hoa] at hoa' f1
            simp only [Option.some.injEq, Addr.mk.injEq, and_true] at hoa'
            obtain ⟨rfl, rfl⟩ := hoa'
            exact ⟨x0, x1, hl', f1, m2, hb', hBx, hsw.hs, f2⟩
          have lle := hl.le
          have lcap := hl.cap
          have l3 := HF.out.lns i hlt
          have kd := HF.out.kind i hlt
          unfold maxLen at lcap
          have HE : Hid (wrongOrder s i = (((s.os.z i).k == 1 && noLack (s.os.z i).ls.z (s.os.z i).ls.n) || anyB (s.os.z i).ls.n (fun j => wrongL (s.os.z i).k ((s.os.z i).ls.z j) (keptS s.hs.z i j s.hs.n)))) := wrongOrder_eq
          have HLB : Hid (∀ j, j < (s.os.z i).ls.n → (0 ≤ ((s.os.z i).ls.z j).b ∧ ((s.os.z i).ls.z j).b ≤ 200) ∧ (0 ≤ ((s.os.z i).ls.z j).n ∧ ((s.os.z i).ls.z j).n ≤ 200) ∧ 0 ≤ keptS s.hs.z i j s.hs.n ∧ keptS s.hs.z i j s.hs.n ≤ 14400) := fun j hj => by
            have a := badLine_no (HF.out.line i hlt j hj)
            have c := keptS_bd (z := s.hs.z) (i : Int) (j : Int) s.hs.n HF.out.holdN
            omega
          clear hoa hl hsk hpk c0 c2 c3 c4 c5 c6 z0 z1 d0 d1 hBw hb
          generalize (s.os.z i).k = KD at *
          generalize (s.os.z i).ls = LS at *
          go_wp2_with fail
          clear c1 l1 l2
          go_loopw [8, 9] (fun u i0 wk => ∃ k : Nat, k ≤ LS.n ∧ i0 = .int .i64 k ∧ u = .bool (noLack LS.z k) ∧ Below W0.heap.size W0 wk) (fun _ i0 _ => LS.n - (intOf i0).toNat)
          case atStart => exact ⟨0, Nat.zero_le _, rfl, rfl, hB⟩
          case round =>
            clear hB
            obtain ⟨j, hj, rfl, rfl, hB⟩ := hrel
            obtain ⟨z0, z1, hlk, c1, l2, hb, hBw, -, -⟩ := HL.out wr hB
            by_cases hlj : j < LS.n
            · obtain ⟨b2, o2, hla, hb2, y0, y1, y2, y3⟩ := hlk.hds j hlj
              have qj : (0 : Int) ≤ (j : Int) := by omega
              rw [hla] at z1
              have r0 : ∀ d os, (grow (redrawn wr d) os).cell? ⟨w.heap.size + 1, 1, none⟩ = some (.slice (some ⟨b, o, none⟩) s.os.n s.os.c) := fun d os => cell_regrown c1 d os
              have r1 : ∀ d os, (grow (redrawn wr d) os).cell? ⟨b, o + i * 2 + 1, none⟩ = some (.slice (some ⟨b2, o2, none⟩) LS.n LS.c) := fun d os => cell_regrown z1 d os
              have r2 : ∀ d os, (grow (redrawn wr d) os).cell? ⟨b2, o2 + j * 4 + 1, none⟩ = some (.int .i64 (LS.z j).l) := fun d os => cell_regrown y1 d os
              have r3 : ∀ d os, (grow (redrawn wr d) os).cell? ⟨b2, o2 + j * 4 + 2, none⟩ = some (.int .i64 (LS.z j).b) := fun d os => cell_regrown y2 d os
              have HS1 : Hid (∀ b c, noLack LS.z j = b → ((LS.z j).b == (LS.z j).l) = c → noLack LS.z (j + 1) = (b && c)) := fun _ _ h1 h2 => noLack_step h1 h2
              clear hla hlk y0 y1 y2 y3
              generalize (LS.z j).l = WN at *
              generalize (LS.z j).b = GT at *
              cases h1 : noLack LS.z j
              · have HX : Hid (noLack LS.z (j + 1) = false) := HS1.out _ _ h1 rfl
                clear HS1 h1
                go_wp2_with fail
                refine wp_region_quiet_below (by kernel_rfl) (by kernel_rfl) ?_
                repeat (go_big_quiet_step (fail))
                refine wpQuiet_nil ?_
                intro _ hw'
                obtain ⟨⟨dq, osq⟩, hw''⟩ := hw'
                subst hw''
                clear r0 r1 r2 r3
                go_wp2_with fail
                go_roundw
                case rel => exact ⟨j + 1, by omega, by go_num, by rw [HX.out], hB.trans ((below_regrown _ _ _).mono hB.size)⟩
                case measure => simp [intOf]; omega
              · cases h2 : (GT == WN)
                · have HX : Hid (noLack LS.z (j + 1) = false) := HS1.out _ _ h1 h2
                  clear HS1 h1
                  go_wp2_with fail
                  refine wp_region_quiet_below (by kernel_rfl) (by kernel_rfl) ?_
                  repeat (go_big_quiet_step (fail))
                  refine wpQuiet_nil ?_
                  intro _ hw'
                  obtain ⟨⟨dq, osq⟩, hw''⟩ := hw'
                  subst hw''
                  clear r0 r1 r2 r3
                  go_wp2_with fail
                  go_roundw
                  case rel => exact ⟨j + 1, by omega, by go_num, by rw [HX.out], hB.trans ((below_regrown _ _ _).mono hB.size)⟩
                  case measure => simp [intOf]; omega
                · have HX : Hid (noLack LS.z (j + 1) = true) := HS1.out _ _ h1 h2
                  clear HS1 h1
                  go_wp2_with fail
                  refine wp_region_quiet_below (by kernel_rfl) (by kernel_rfl) ?_
                  repeat (go_big_quiet_step (fail))
                  refine wpQuiet_nil ?_
                  intro _ hw'
                  obtain ⟨⟨dq, osq⟩, hw''⟩ := hw'
                  subst hw''
                  clear r0 r1 r2 r3
                  go_wp2_with fail
                  go_roundw
                  case rel => exact ⟨j + 1, by omega, by go_num, by rw [HX.out], hB.trans ((below_regrown _ _ _).mono hB.size)⟩
                  case measure => simp [intOf]; omega
            · have hjn : j = LS.n := by omega
              subst hjn
              cases hN : noLack LS.z LS.n
              · have HE2 : Hid (wrongOrder s i = anyB LS.n (fun j => wrongL KD (LS.z j) (keptS s.hs.z i j s.hs.n))) := by show wrongOrder s i = _; rw [HE.out, hN, Bool.and_false, Bool.false_or]
                clear hN HE
                go_wp2_with fail
                clear z0 z1 hlk c1 l2 hb hBw
                go_loopw [10] (fun i0 wk => ∃ k : Nat, k ≤ LS.n ∧ i0 = .int .i64 k ∧ (∀ j, j < k → wrongL KD (LS.z j) (keptS s.hs.z i j s.hs.n) = false) ∧ Below W0.heap.size W0 wk) (fun i0 _ => LS.n - (intOf i0).toNat)
                case atStart => exact ⟨0, Nat.zero_le _, rfl, fun j hj => absurd hj (Nat.not_lt_zero _), hB⟩
                case round =>
                  clear hB
                  obtain ⟨j, hj, rfl, hno, hB⟩ := hrel
                  have HM : Hid (∀ j', j' < j → wrongL KD (LS.z j') (keptS s.hs.z i j' s.hs.n) = false) := hno
                  clear hno
                  obtain ⟨z0, z1, hlk, c1, l2, hb, hBw, hhs, c2⟩ := HL.out wr hB
                  by_cases hlj : j < LS.n
                  · obtain ⟨b2, o2, hla, hb2, y0, y1, y2, y3⟩ := hlk.hds j hlj
                    have qj : (0 : Int) ≤ (j : Int) := by omega
                    obtain ⟨k1, k2, k3⟩ := HLB.out j hlj
                    have HT : Hid (wrongL KD (LS.z j) (keptS s.hs.z i j s.hs.n) = true → summedB p s = false) := fun h => sB_order hlt (by rw [HE2.out]; exact anyB_yes hlj h)
                    have HU : Hid (wrongL KD (LS.z j) (keptS s.hs.z i j s.hs.n) = false → ∀ j', j' < j + 1 → wrongL KD (LS.z j') (keptS s.hs.z i j' s.hs.n) = false) := fun h => all_succ3 HM.out h
                    rw [hla] at z1
                    have HKA : Hid (∀ wk, Below wr.heap.size wr wk → Calls Try.prog 122 #[.slice s.hs.a s.hs.n s.hs.c, .int .i64 i, .int .i64 j] wk fun e w' => e = .returned (.int .i64 (keptS s.hs.z i j s.hs.n)) ∧ w' = wk) := fun wk h => KeptOf_any s.hs i j wk (hhs.below h) HF.out.hold
                    have r0 : ∀ d os, (grow (redrawn wr d) os).cell? ⟨w.heap.size + 1, 1, none⟩ = some (.slice (some ⟨b, o, none⟩) s.os.n s.os.c) := fun d os => cell_regrown c1 d os
                    have r1 : ∀ d os, (grow (redrawn wr d) os).cell? ⟨b, o + i * 2 + 1, none⟩ = some (.slice (some ⟨b2, o2, none⟩) LS.n LS.c) := fun d os => cell_regrown z1 d os
                    have r2 : ∀ d os, (grow (redrawn wr d) os).cell? ⟨b2, o2 + j * 4, none⟩ = some (.int .i64 (LS.z j).o) := fun d os => cell_regrown y0 d os
                    have r3 : ∀ d os, (grow (redrawn wr d) os).cell? ⟨b2, o2 + j * 4 + 1, none⟩ = some (.int .i64 (LS.z j).l) := fun d os => cell_regrown y1 d os
                    have r4 : ∀ d os, (grow (redrawn wr d) os).cell? ⟨b2, o2 + j * 4 + 2, none⟩ = some (.int .i64 (LS.z j).b) := fun d os => cell_regrown y2 d os
                    have r5 : ∀ d os, (grow (redrawn wr d) os).cell? ⟨b2, o2 + j * 4 + 3, none⟩ = some (.int .i64 (LS.z j).n) := fun d os => cell_regrown y3 d os
                    have r6 : ∀ d os, (grow (redrawn wr d) os).cell? ⟨w.heap.size + 1, 2, none⟩ = some (.slice s.hs.a s.hs.n s.hs.c) := fun d os => cell_regrown c2 d os
                    clear hla hlk y0 y1 y2 y3 hhs c2 z0 HM hBw
                    generalize keptS s.hs.z i j s.hs.n = KP at *
                    generalize LS.z j = LZ at *
                    go_wp2_with fail
                    refine wp_region_made5 (fun w' => ∃ p : Regrown, w' = grow (redrawn wr p.d) p.os) (List.range 13) [13, 14] [(false, 15), (true, 16)] (by kernel_rfl) (by kernel_rfl) (by kernel_rfl) (by kernel_rfl) (by kernel_rfl) (by kernel_rfl) (by kernel_rfl) (by kernel_rfl) (by kernel_rfl) (regrown_of_below ((Below.refl _ _).drew)) ?_
                    rw [show List.range 13 = [0, 1, 2, 3, 4, 5, 6, 7, 8, 9, 10, 11, 12] from rfl]
                    simp only [picks, List.drop_succ_cons, List.drop_zero, List.take_succ_cons, List.take_zero, List.cons_append, List.nil_append]
                    repeat (go_big_quiet_step (fail))
                    refine wpQuiet_nil ?_
                    refine ⟨fun j v gg wk => match j with | 13 => v = .int .i64 KP ∧ gg = [] | 14 => ∃ B, v = .pointer (some ⟨B, 0, none⟩) ∧ gg = [B] ∧ wr.heap.size ≤ B ∧ Blk wk B 53 4 (fun _ => .int .i64 0) | _ => True, List.forall_mem_cons.2 ⟨?m13, List.forall_mem_cons.2 ⟨?m14, List.forall_mem_nil _⟩⟩, List.forall_mem_cons.2 ⟨?l13, List.forall_mem_cons.2 ⟨?l14, List.forall_mem_nil _⟩⟩, List.forall_mem_cons.2 ⟨?s13, List.forall_mem_cons.2 ⟨?s14, List.forall_mem_nil _⟩⟩, ?done⟩
                    case m13 => intro v g w w' _ h; exact h
                    case m14 => intro v g w w' hB h; obtain ⟨B, h1, h0, h2, h3⟩ := h; exact ⟨B, h1, h0, h2, h3.below hB⟩
                    case l13 => intro v g w h; rw [(show v = .int .i64 KP ∧ g = [] from h).2]; intro x hx; cases hx
                    case l14 => intro v g w h; obtain ⟨B, h1, h0, h2, h3⟩ := h; rw [h0]; intro x hx; rw [List.mem_singleton] at hx; rw [hx]; exact h3.lt
                    case s13 =>
                      intro V G wk K hS hd hK
                      obtain ⟨pp, rfl⟩ := hS
                      refine wpOp_list 13 rfl ?_
                      simp only [putAll, dstOf, List.getElem?_toArray, List.getElem?_cons_succ, List.getElem?_cons_zero, Act.put, List.setIfInBounds_toArray, List.set_cons_succ, List.set_cons_zero] at hK ⊢
                      go_wp2_with fail
                      refine (HKA.out _ (below_regrown _ _ _)).mono ?_
                      rintro e w' ⟨rfl, rfl⟩
                      go_wp2_with fail
                      exact hK _ [] _ ⟨pp, rfl⟩ (Below.refl _ _) (fun x hx => (by cases hx)) ⟨rfl, rfl⟩
                    case s14 =>
                      intro V G wk K hS hd hK
                      have hX := below_of_regrown hS
                      refine wpOp_list 14 rfl ?_
                      simp only [putAll, dstOf, List.getElem?_toArray, List.getElem?_cons_succ, List.getElem?_cons_zero, Act.put, List.setIfInBounds_toArray, List.set_cons_succ, List.set_cons_zero] at hK ⊢
                      go_wp2_with fail
                      exact hK _ [wk.heap.size] _ (regrown_of_below (hX.alloc hX.size _)) ((Below.refl _ _).alloc (Nat.le_refl _) _) (fun x hx => (by rw [List.mem_singleton] at hx; omega)) ⟨wk.heap.size, rfl, rfl, hX.size, (Blk.mk' (cur := #[.int .i64 0, .int .i64 0, .int .i64 0, .int .i64 0]) rfl rfl).congr (fun j hj => by match j, hj with | 0, _ => rfl | 1, _ => rfl | 2, _ => rfl | 3, _ => rfl)⟩
                    case done =>
                      intro V G wk hS hD hA
                      have h13 := (show V 13 = .int .i64 KP ∧ G 13 = [] from hD 13 (by simp)).1
                      have h14 : ∃ B, V 14 = .pointer (some ⟨B, 0, none⟩) ∧ G 14 = [B] ∧ wr.heap.size ≤ B ∧ Blk wk B 53 4 (fun _ => .int .i64 0) := hD 14 (by simp)
                      obtain ⟨B4, h14, -, hB4, hY⟩ := h14
                      have hX := below_of_regrown hS
                      clear hS hD hA r0 r1 r2 r3 r4 r5 r6
                      have hl4 := hY.lt
                      have f0 := hY.frozen 0
                      have f1 := hY.frozen 1
                      have f2 := hY.frozen 2
                      have f3 := hY.frozen 3
                      have e0 := hY.cell (j := 0) (by decide)
                      have e1 := hY.cell (j := 1) (by decide)
                      have e2 := hY.cell (j := 2) (by decide)
                      have e3 := hY.cell (j := 3) (by decide)
                      simp only [putAll, dstOf, List.getElem?_toArray, List.getElem?_cons_succ, List.getElem?_cons_zero, Act.put, List.setIfInBounds_toArray, List.set_cons_succ, List.set_cons_zero, h13, h14]
                      refine wpSeq_one 15 rfl ?_
                      go_wp2_with fail
                      obtain ⟨W5, hW5, hX5, hY5⟩ := line_stored hY hX hB4 LZ
                      rw [hW5]
                      refine ⟨Late.no (regrown_of_below hX5), ?_⟩
                      refine wpSeq_one 16 rfl ?_
                      go_wp2_with fail
                      refine ⟨Late.yes, ?_⟩
                      refine NoPanic.normal ?_
                      have hB5 := hB.trans (hX5.mono hB.size)
                      have t0 : W5.cell? ⟨B4, 0, none⟩ = some (.int .i64 LZ.o) := hY5.cell (j := 0) (by simp)
                      have t1 : W5.cell? ⟨B4, 1, none⟩ = some (.int .i64 LZ.l) := hY5.cell (j := 1) (by simp)
                      have t2 : W5.cell? ⟨B4, 2, none⟩ = some (.int .i64 LZ.b) := hY5.cell (j := 2) (by simp)
                      have t3 : W5.cell? ⟨B4, 3, none⟩ = some (.int .i64 LZ.n) := hY5.cell (j := 3) (by simp)
                      have hl5 := hY5.lt
                      clear hX5 hW5 hY5 hX hY f0 f1 f2 f3 e0 e1 e2 e3 h13 h14 hl4 hB4 z1 c1 l2 hb hb2 hB
                      obtain ⟨z0, z1, hlk, c1, l2, hb, hBw, hhs, c2⟩ := HL.out W5 hB5
                      clear hlk hhs c2 z1
                      have hkd : KD = 0 ∨ KD = 1 ∨ KD = 2 := by omega
                      have HK0 : Hid (∀ b, KD = 0 → (LZ.b + LZ.n + KP == 0) = b → wrongL KD LZ KP = !b) := fun b h h2 => by rw [h, wL0 k1 k2 k3, h2]
                      have HK1 : Hid (∀ b, KD = 1 → (LZ.b + LZ.n + KP == LZ.l) = b → wrongL KD LZ KP = !b) := fun b h h2 => by rw [h, wL1, h2]
                      have HK2 : Hid (∀ b c, KD = 2 → (LZ.b + LZ.n + KP == LZ.l) = b → (KP == 0) = c → wrongL KD LZ KP = (!b || !c)) := fun b c h h2 h3 => by rw [h, wL2, h2, h3]
                      generalize wrongL KD LZ KP = WL at *
                      rcases hkd with hkd | hkd | hkd
                      · cases h2 : (LZ.b + LZ.n + KP == 0)
                        · have HX : Hid (summedB p s = false) := HT.out (HK0.out _ hkd h2)
                          have n2 : (LZ.b + LZ.n + KP != 0) = true := by rw [bne, h2]; rfl
                          rw [hkd] at z0
                          clear HK0 HK1 HK2 HT HU hkd
                          go_wp2_with fail
                          go_ret
                          exact ⟨by rw [HX.out]; rfl, hBw⟩
                        · have HX := HU.out (HK0.out _ hkd h2)
                          have n2 : (LZ.b + LZ.n + KP != 0) = false := by rw [bne, h2]; rfl
                          have HX2 : Hid _ := HX
                          rw [hkd] at z0
                          clear HK0 HK1 HK2 HT HU hkd HX
                          go_wp2_with fail
                          go_roundw
                          case rel => exact ⟨j + 1, by omega, by go_num, HX2.out, hB5⟩
                          case measure => simp [intOf]; omega
                      · cases h2 : (LZ.b + LZ.n + KP == LZ.l)
                        · have HX : Hid (summedB p s = false) := HT.out (HK1.out _ hkd h2)
                          have n2 : (LZ.b + LZ.n + KP != LZ.l) = true := by rw [bne, h2]; rfl
                          rw [hkd] at z0
                          clear HK0 HK1 HK2 HT HU hkd
                          go_wp2_with fail
                          go_ret
                          exact ⟨by rw [HX.out]; rfl, hBw⟩
                        · have HX := HU.out (HK1.out _ hkd h2)
                          have n2 : (LZ.b + LZ.n + KP != LZ.l) = false := by rw [bne, h2]; rfl
                          have HX2 : Hid _ := HX
                          rw [hkd] at z0
                          clear HK0 HK1 HK2 HT HU hkd HX
                          go_wp2_with fail
                          go_roundw
                          case rel => exact ⟨j + 1, by omega, by go_num, HX2.out, hB5⟩
                          case measure => simp [intOf]; omega
                      · cases h2 : (LZ.b + LZ.n + KP == LZ.l)
                        · have HX : Hid (summedB p s = false) := HT.out (HK2.out _ _ hkd h2 rfl)
                          have n2 : (LZ.b + LZ.n + KP != LZ.l) = true := by rw [bne, h2]; rfl
                          rw [hkd] at z0
                          clear HK0 HK1 HK2 HT HU hkd
                          go_wp2_with fail
                          go_ret
                          exact ⟨by rw [HX.out]; rfl, hBw⟩
                        · cases h3 : (KP == 0)
                          · have HX : Hid (summedB p s = false) := HT.out (HK2.out _ _ hkd h2 h3)
                            have n2 : (LZ.b + LZ.n + KP != LZ.l) = false := by rw [bne, h2]; rfl
                            have n3 : (KP != 0) = true := by rw [bne, h3]; rfl
                            rw [hkd] at z0
                            clear HK0 HK1 HK2 HT HU hkd
                            go_wp2_with fail
                            go_ret
                            exact ⟨by rw [HX.out]; rfl, hBw⟩
                          · have HX := HU.out (HK2.out _ _ hkd h2 h3)
                            have n2 : (LZ.b + LZ.n + KP != LZ.l) = false := by rw [bne, h2]; rfl
                            have n3 : (KP != 0) = false := by rw [bne, h3]; rfl
                            have HX2 : Hid _ := HX
                            rw [hkd] at z0
                            clear HK0 HK1 HK2 HT HU hkd HX
                            go_wp2_with fail
                            go_roundw
                            case rel => exact ⟨j + 1, by omega, by go_num, HX2.out, hB5⟩
                            case measure => simp [intOf]; omega
                  · have HA : Hid (wrongOrder s i = false) := by show wrongOrder s i = false; rw [HE2.out]; exact anyB_no fun j' hj' => HM.out j' (by omega)
                    clear z0 hhs c2 hBw hlk
                    go_wp2_with fail
                    go_roundw
                    case rel => exact ⟨i + 1, by omega, by go_num, all_succ3 HN.out HA.out, hB⟩
                    case measure => simp [intOf]; omega
              · cases hk1 : (KD == 1)
                · have HE2 : Hid (wrongOrder s i = anyB LS.n (fun j => wrongL KD (LS.z j) (keptS s.hs.z i j s.hs.n))) := by show wrongOrder s i = _; rw [HE.out, hk1, Bool.false_and, Bool.false_or]
                  clear hN HE
                  go_wp2_with fail
                  clear hk1
                  clear z0 z1 hlk c1 l2 hb hBw
                  go_loopw [10] (fun i0 wk => ∃ k : Nat, k ≤ LS.n ∧ i0 = .int .i64 k ∧ (∀ j, j < k → wrongL KD (LS.z j) (keptS s.hs.z i j s.hs.n) = false) ∧ Below W0.heap.size W0 wk) (fun i0 _ => LS.n - (intOf i0).toNat)
                  case atStart => exact ⟨0, Nat.zero_le _, rfl, fun j hj => absurd hj (Nat.not_lt_zero _), hB⟩
                  case round =>
                    clear hB
                    obtain ⟨j, hj, rfl, hno, hB⟩ := hrel
                    have HM : Hid (∀ j', j' < j → wrongL KD (LS.z j') (keptS s.hs.z i j' s.hs.n) = false) := hno
                    clear hno
                    obtain ⟨z0, z1, hlk, c1, l2, hb, hBw, hhs, c2⟩ := HL.out wr hB
                    by_cases hlj : j < LS.n
                    · obtain ⟨b2, o2, hla, hb2, y0, y1, y2, y3⟩ := hlk.hds j hlj
                      have qj : (0 : Int) ≤ (j : Int) := by omega
                      obtain ⟨k1, k2, k3⟩ := HLB.out j hlj
                      have HT : Hid (wrongL KD (LS.z j) (keptS s.hs.z i j s.hs.n) = true → summedB p s = false) := fun h => sB_order hlt (by rw [HE2.out]; exact anyB_yes hlj h)
                      have HU : Hid (wrongL KD (LS.z j) (keptS s.hs.z i j s.hs.n) = false → ∀ j', j' < j + 1 → wrongL KD (LS.z j') (keptS s.hs.z i j' s.hs.n) = false) := fun h => all_succ3 HM.out h
                      rw [hla] at z1
                      have HKA : Hid (∀ wk, Below wr.heap.size wr wk → Calls Try.prog 122 #[.slice s.hs.a s.hs.n s.hs.c, .int .i64 i, .int .i64 j] wk fun e w' => e = .returned (.int .i64 (keptS s.hs.z i j s.hs.n)) ∧ w' = wk) := fun wk h => KeptOf_any s.hs i j wk (hhs.below h) HF.out.hold
                      have r0 : ∀ d os, (grow (redrawn wr d) os).cell? ⟨w.heap.size + 1, 1, none⟩ = some (.slice (some ⟨b, o, none⟩) s.os.n s.os.c) := fun d os => cell_regrown c1 d os
                      have r1 : ∀ d os, (grow (redrawn wr d) os).cell? ⟨b, o + i * 2 + 1, none⟩ = some (.slice (some ⟨b2, o2, none⟩) LS.n LS.c) := fun d os => cell_regrown z1 d os
                      have r2 : ∀ d os, (grow (redrawn wr d) os).cell? ⟨b2, o2 + j * 4, none⟩ = some (.int .i64 (LS.z j).o) := fun d os => cell_regrown y0 d os
                      have r3 : ∀ d os, (grow (redrawn wr d) os).cell? ⟨b2, o2 + j * 4 + 1, none⟩ = some (.int .i64 (LS.z j).l) := fun d os => cell_regrown y1 d os
                      have r4 : ∀ d os, (grow (redrawn wr d) os).cell? ⟨b2, o2 + j * 4 + 2, none⟩ = some (.int .i64 (LS.z j).b) := fun d os => cell_regrown y2 d os
                      have r5 : ∀ d os, (grow (redrawn wr d) os).cell? ⟨b2, o2 + j * 4 + 3, none⟩ = some (.int .i64 (LS.z j).n) := fun d os => cell_regrown y3 d os
                      have r6 : ∀ d os, (grow (redrawn wr d) os).cell? ⟨w.heap.size + 1, 2, none⟩ = some (.slice s.hs.a s.hs.n s.hs.c) := fun d os => cell_regrown c2 d os
                      clear hla hlk y0 y1 y2 y3 hhs c2 z0 HM hBw
                      generalize keptS s.hs.z i j s.hs.n = KP at *
                      generalize LS.z j = LZ at *
                      go_wp2_with fail
                      refine wp_region_made5 (fun w' => ∃ p : Regrown, w' = grow (redrawn wr p.d) p.os) (List.range 13) [13, 14] [(false, 15), (true, 16)] (by kernel_rfl) (by kernel_rfl) (by kernel_rfl) (by kernel_rfl) (by kernel_rfl) (by kernel_rfl) (by kernel_rfl) (by kernel_rfl) (by kernel_rfl) (regrown_of_below ((Below.refl _ _).drew)) ?_
                      rw [show List.range 13 = [0, 1, 2, 3, 4, 5, 6, 7, 8, 9, 10, 11, 12] from rfl]
                      simp only [picks, List.drop_succ_cons, List.drop_zero, List.take_succ_cons, List.take_zero, List.cons_append, List.nil_append]
                      repeat (go_big_quiet_step (fail))
                      refine wpQuiet_nil ?_
                      refine ⟨fun j v gg wk => match j with | 13 => v = .int .i64 KP ∧ gg = [] | 14 => ∃ B, v = .pointer (some ⟨B, 0, none⟩) ∧ gg = [B] ∧ wr.heap.size ≤ B ∧ Blk wk B 53 4 (fun _ => .int .i64 0) | _ => True, List.forall_mem_cons.2 ⟨?m13, List.forall_mem_cons.2 ⟨?m14, List.forall_mem_nil _⟩⟩, List.forall_mem_cons.2 ⟨?l13, List.forall_mem_cons.2 ⟨?l14, List.forall_mem_nil _⟩⟩, List.forall_mem_cons.2 ⟨?s13, List.forall_mem_cons.2 ⟨?s14, List.forall_mem_nil _⟩⟩, ?done⟩
                      case m13 => intro v g w w' _ h; exact h
                      case m14 => intro v g w w' hB h; obtain ⟨B, h1, h0, h2, h3⟩ := h; exact ⟨B, h1, h0, h2, h3.below hB⟩
                      case l13 => intro v g w h; rw [(show v = .int .i64 KP ∧ g = [] from h).2]; intro x hx; cases hx
                      case l14 => intro v g w h; obtain ⟨B, h1, h0, h2, h3⟩ := h; rw [h0]; intro x hx; rw [List.mem_singleton] at hx; rw [hx]; exact h3.lt
                      case s13 =>
                        intro V G wk K hS hd hK
                        obtain ⟨pp, rfl⟩ := hS
                        refine wpOp_list 13 rfl ?_
                        simp only [putAll, dstOf, List.getElem?_toArray, List.getElem?_cons_succ, List.getElem?_cons_zero, Act.put, List.setIfInBounds_toArray, List.set_cons_succ, List.set_cons_zero] at hK ⊢
                        go_wp2_with fail
                        refine (HKA.out _ (below_regrown _ _ _)).mono ?_
                        rintro e w' ⟨rfl, rfl⟩
                        go_wp2_with fail
                        exact hK _ [] _ ⟨pp, rfl⟩ (Below.refl _ _) (fun x hx => (by cases hx)) ⟨rfl, rfl⟩
                      case s14 =>
                        intro V G wk K hS hd hK
                        have hX := below_of_regrown hS
                        refine wpOp_list 14 rfl ?_
                        simp only [putAll, dstOf, List.getElem?_toArray, List.getElem?_cons_succ, List.getElem?_cons_zero, Act.put, List.setIfInBounds_toArray, List.set_cons_succ, List.set_cons_zero] at hK ⊢
                        go_wp2_with fail
                        exact hK _ [wk.heap.size] _ (regrown_of_below (hX.alloc hX.size _)) ((Below.refl _ _).alloc (Nat.le_refl _) _) (fun x hx => (by rw [List.mem_singleton] at hx; omega)) ⟨wk.heap.size, rfl, rfl, hX.size, (Blk.mk' (cur := #[.int .i64 0, .int .i64 0, .int .i64 0, .int .i64 0]) rfl rfl).congr (fun j hj => by match j, hj with | 0, _ => rfl | 1, _ => rfl | 2, _ => rfl | 3, _ => rfl)⟩
                      case done =>
                        intro V G wk hS hD hA
                        have h13 := (show V 13 = .int .i64 KP ∧ G 13 = [] from hD 13 (by simp)).1
                        have h14 : ∃ B, V 14 = .pointer (some ⟨B, 0, none⟩) ∧ G 14 = [B] ∧ wr.heap.size ≤ B ∧ Blk wk B 53 4 (fun _ => .int .i64 0) := hD 14 (by simp)
                        obtain ⟨B4, h14, -, hB4, hY⟩ := h14
                        have hX := below_of_regrown hS
                        clear hS hD hA r0 r1 r2 r3 r4 r5 r6
                        have hl4 := hY.lt
                        have f0 := hY.frozen 0
                        have f1 := hY.frozen 1
                        have f2 := hY.frozen 2
                        have f3 := hY.frozen 3
                        have e0 := hY.cell (j := 0) (by decide)
                        have e1 := hY.cell (j := 1) (by decide)
                        have e2 := hY.cell (j := 2) (by decide)
                        have e3 := hY.cell (j := 3) (by decide)
                        simp only [putAll, dstOf, List.getElem?_toArray, List.getElem?_cons_succ, List.getElem?_cons_zero, Act.put, List.setIfInBounds_toArray, List.set_cons_succ, List.set_cons_zero, h13, h14]
                        refine wpSeq_one 15 rfl ?_
                        go_wp2_with fail
                        obtain ⟨W5, hW5, hX5, hY5⟩ := line_stored hY hX hB4 LZ
                        rw [hW5]
                        refine ⟨Late.no (regrown_of_below hX5), ?_⟩
                        refine wpSeq_one 16 rfl ?_
                        go_wp2_with fail
                        refine ⟨Late.yes, ?_⟩
                        refine NoPanic.normal ?_
                        have hB5 := hB.trans (hX5.mono hB.size)
                        have t0 : W5.cell? ⟨B4, 0, none⟩ = some (.int .i64 LZ.o) := hY5.cell (j := 0) (by simp)
                        have t1 : W5.cell? ⟨B4, 1, none⟩ = some (.int .i64 LZ.l) := hY5.cell (j := 1) (by simp)
                        have t2 : W5.cell? ⟨B4, 2, none⟩ = some (.int .i64 LZ.b) := hY5.cell (j := 2) (by simp)
                        have t3 : W5.cell? ⟨B4, 3, none⟩ = some (.int .i64 LZ.n) := hY5.cell (j := 3) (by simp)
                        have hl5 := hY5.lt
                        clear hX5 hW5 hY5 hX hY f0 f1 f2 f3 e0 e1 e2 e3 h13 h14 hl4 hB4 z1 c1 l2 hb hb2 hB
                        obtain ⟨z0, z1, hlk, c1, l2, hb, hBw, hhs, c2⟩ := HL.out W5 hB5
                        clear hlk hhs c2 z1
                        have hkd : KD = 0 ∨ KD = 1 ∨ KD = 2 := by omega
                        have HK0 : Hid (∀ b, KD = 0 → (LZ.b + LZ.n + KP == 0) = b → wrongL KD LZ KP = !b) := fun b h h2 => by rw [h, wL0 k1 k2 k3, h2]
                        have HK1 : Hid (∀ b, KD = 1 → (LZ.b + LZ.n + KP == LZ.l) = b → wrongL KD LZ KP = !b) := fun b h h2 => by rw [h, wL1, h2]
                        have HK2 : Hid (∀ b c, KD = 2 → (LZ.b + LZ.n + KP == LZ.l) = b → (KP == 0) = c → wrongL KD LZ KP = (!b || !c)) := fun b c h h2 h3 => by rw [h, wL2, h2, h3]
                        generalize wrongL KD LZ KP = WL at *
                        rcases hkd with hkd | hkd | hkd
                        · cases h2 : (LZ.b + LZ.n + KP == 0)
                          · have HX : Hid (summedB p s = false) := HT.out (HK0.out _ hkd h2)
                            have n2 : (LZ.b + LZ.n + KP != 0) = true := by rw [bne, h2]; rfl
                            rw [hkd] at z0
                            clear HK0 HK1 HK2 HT HU hkd
                            go_wp2_with fail
                            go_ret
                            exact ⟨by rw [HX.out]; rfl, hBw⟩
                          · have HX := HU.out (HK0.out _ hkd h2)
                            have n2 : (LZ.b + LZ.n + KP != 0) = false := by rw [bne, h2]; rfl
                            have HX2 : Hid _ := HX
                            rw [hkd] at z0
                            clear HK0 HK1 HK2 HT HU hkd HX
                            go_wp2_with fail
                            go_roundw
                            case rel => exact ⟨j + 1, by omega, by go_num, HX2.out, hB5⟩
                            case measure => simp [intOf]; omega
                        · cases h2 : (LZ.b + LZ.n + KP == LZ.l)
                          · have HX : Hid (summedB p s = false) := HT.out (HK1.out _ hkd h2)
                            have n2 : (LZ.b + LZ.n + KP != LZ.l) = true := by rw [bne, h2]; rfl
                            rw [hkd] at z0
                            clear HK0 HK1 HK2 HT HU hkd
                            go_wp2_with fail
                            go_ret
                            exact ⟨by rw [HX.out]; rfl, hBw⟩
                          · have HX := HU.out (HK1.out _ hkd h2)
                            have n2 : (LZ.b + LZ.n + KP != LZ.l) = false := by rw [bne, h2]; rfl
                            have HX2 : Hid _ := HX
                            rw [hkd] at z0
                            clear HK0 HK1 HK2 HT HU hkd HX
                            go_wp2_with fail
                            go_roundw
                            case rel => exact ⟨j + 1, by omega, by go_num, HX2.out, hB5⟩
                            case measure => simp [intOf]; omega
                        · cases h2 : (LZ.b + LZ.n + KP == LZ.l)
                          · have HX : Hid (summedB p s = false) := HT.out (HK2.out _ _ hkd h2 rfl)
                            have n2 : (LZ.b + LZ.n + KP != LZ.l) = true := by rw [bne, h2]; rfl
                            rw [hkd] at z0
                            clear HK0 HK1 HK2 HT HU hkd
                            go_wp2_with fail
                            go_ret
                            exact ⟨by rw [HX.out]; rfl, hBw⟩
                          · cases h3 : (KP == 0)
                            · have HX : Hid (summedB p s = false) := HT.out (HK2.out _ _ hkd h2 h3)
                              have n2 : (LZ.b + LZ.n + KP != LZ.l) = false := by rw [bne, h2]; rfl
                              have n3 : (KP != 0) = true := by rw [bne, h3]; rfl
                              rw [hkd] at z0
                              clear HK0 HK1 HK2 HT HU hkd
                              go_wp2_with fail
                              go_ret
                              exact ⟨by rw [HX.out]; rfl, hBw⟩
                            · have HX := HU.out (HK2.out _ _ hkd h2 h3)
                              have n2 : (LZ.b + LZ.n + KP != LZ.l) = false := by rw [bne, h2]; rfl
                              have n3 : (KP != 0) = false := by rw [bne, h3]; rfl
                              have HX2 : Hid _ := HX
                              rw [hkd] at z0
                              clear HK0 HK1 HK2 HT HU hkd HX
                              go_wp2_with fail
                              go_roundw
                              case rel => exact ⟨j + 1, by omega, by go_num, HX2.out, hB5⟩
                              case measure => simp [intOf]; omega
                    · have HA : Hid (wrongOrder s i = false) := by show wrongOrder s i = false; rw [HE2.out]; exact anyB_no fun j' hj' => HM.out j' (by omega)
                      clear z0 hhs c2 hBw hlk
                      go_wp2_with fail
                      go_roundw
                      case rel => exact ⟨i + 1, by omega, by go_num, all_succ3 HN.out HA.out, hB⟩
                      case measure => simp [intOf]; omega
                · have HX : Hid (summedB p s = false) := sB_order hlt (by rw [HE.out, hN, hk1]; rfl)
                  clear HE
                  go_wp2_with fail
                  go_ret
                  exact ⟨by rw [HX.out]; rfl, hBw⟩
        · have HX : Hid (summedB p s = true) := sB_yes HN2.out fun j hj => HN.out j (by omega)
          clear hsk hpk c0 c2 c3 c4 c5 c6 d0 d1
          go_wp2_with fail
          go_ret
          exact ⟨by rw [HX.out]; rfl, hBw⟩
end Go.Proofs.Ytbcacebifpagpac
namespace Go.Proofs.Ytbcacebifpagpac
open Go.RowKit Go.Shelf Go.Sort
set_option linter.unusedVariables false
structure SameT (s t : St) : Prop where
  on : s.on.n = t.on.n ∧ ∀ i, i < s.on.n → (s.on.r i).n = (t.on.r i).n ∧ ∀ j, j < (s.on.r i).n → (s.on.r i).z j = (t.on.r i).z j
  os : s.os.n = t.os.n ∧ ∀ i, i < s.os.n → (s.os.z i).k = (t.os.z i).k ∧ (s.os.z i).ls.n = (t.os.z i).ls.n ∧ ∀ j, j < (s.os.z i).ls.n → (s.os.z i).ls.z j = (t.os.z i).ls.z j
  hs : s.hs.n = t.hs.n ∧ ∀ j, j < s.hs.n → s.hs.z j = t.hs.z j
  ms : s.ms.n = t.ms.n ∧ ∀ j, j < s.ms.n → s.ms.z j = t.ms.z j
  si : s.si.n = t.si.n ∧ ∀ j, j < s.si.n → s.si.z j = t.si.z j
  so : s.so.n = t.so.n ∧ ∀ j, j < s.so.n → s.so.z j = t.so.z j
  sf : s.sf.n = t.sf.n ∧ ∀ j, j < s.sf.n → s.sf.z j = t.sf.z j
def Boxed (w : World) (B : Nat) (s : St) : Prop :=
  B < w.heap.size ∧ w.cell? ⟨B, 0, none⟩ = some (.slice s.on.a s.on.n s.on.c) ∧ w.cell? ⟨B, 1, none⟩ = some (.slice s.os.a s.os.n s.os.c) ∧ w.cell? ⟨B, 2, none⟩ = some (.slice s.hs.a s.hs.n s.hs.c) ∧
    w.cell? ⟨B, 3, none⟩ = some (.slice s.ms.a s.ms.n s.ms.c) ∧ w.cell? ⟨B, 4, none⟩ = some (.slice s.si.a s.si.n s.si.c) ∧ w.cell? ⟨B, 5, none⟩ = some (.slice s.so.a s.so.n s.so.c) ∧ w.cell? ⟨B, 6, none⟩ = some (.slice s.sf.a s.sf.n s.sf.c)
theorem Boxed.of {w : World} {B : Nat} {e : TypeId} {s : St} (h : Blk w B e 7 (fun j => s.cells.getD j default)) : Boxed w B s :=
  ⟨h.lt, h.cell (j := 0) (by decide), h.cell (j := 1) (by decide), h.cell (j := 2) (by decide), h.cell (j := 3) (by decide), h.cell (j := 4) (by decide), h.cell (j := 5) (by decide), h.cell (j := 6) (by decide)⟩
theorem order_stored {A w : World} {B : Nat} {e : TypeId} {f : Nat → Value} (hY : Blk w B e 2 f) (hX : Below A.heap.size A w) (hB : A.heap.size ≤ B) (k : Int) (v : Value) :
    ∃ W, (w.setCell ⟨B, 0, none⟩ (.int .i64 k)).setCell ⟨B, 1, none⟩ v = W ∧ Below A.heap.size A W ∧ Blk W B e 2 (fun j => (#[.int .i64 k, v] : Array Value).getD j default) ∧ ∀ g t n f', g ≠ B → Blk w g t n f' → Blk W g t n f' :=
  ⟨_, rfl, (hX.setCell (p := ⟨B, 0, none⟩) hB _).setCell (p := ⟨B, 1, none⟩) hB _, ((hY.set 0 _).set 1 _).congr (fun j hj => by match j, hj with | 0, _ => rfl | 1, _ => rfl),
    fun g t n f' hne h => (h.other (a := ⟨B, 0, none⟩) hne _).other (a := ⟨B, 1, none⟩) hne _⟩
set_option maxRecDepth 100000 in
set_option maxHeartbeats 4000000 in
theorem SameStates_yes (s t : St) (w : World) (hs : s.At w) (ht : t.At w) (h : SameT s t) (ho4 : s.os.n ≤ 1000) (hm8 : s.ms.n ≤ 1000) (hl3 : ∀ i, i < s.os.n → (s.os.z i).ls.n ≤ 1000) :
    Calls Try.prog 18 #[s.val, t.val] w fun e w' => e = .returned (.bool true) ∧ Below w.heap.size w w' := by
  obtain ⟨W0, hW, hWB, X0, Y0⟩ : ∃ W, ((w.alloc (.cells s.cells 31)).alloc (.cells t.cells 31)) = W ∧ Below w.heap.size w W ∧ Blk W w.heap.size 31 7 (fun j => s.cells.getD j default) ∧ Blk W (w.heap.size + 1) 31 7 (fun j => t.cells.getD j default) :=
    ⟨_, rfl, two_below _ _ _, (Blk.mk' rfl rfl).alloc _, Blk.mk' (by simp) rfl⟩
  have HC : Hid (∀ wk, Below W0.heap.size W0 wk → Boxed wk w.heap.size s ∧ Boxed wk (w.heap.size + 1) t ∧ s.At wk ∧ t.At wk ∧ Below w.heap.size w wk) := fun wk h => ⟨Boxed.of (X0.below h), Boxed.of (Y0.below h), (hs.below hWB).below h, (ht.below hWB).below h, hWB.trans (h.mono hWB.size)⟩
  have HW : Hid ((w.alloc (.cells #[.slice s.on.a s.on.n s.on.c, .slice s.os.a s.os.n s.os.c, .slice s.hs.a s.hs.n s.hs.c, .slice s.ms.a s.ms.n s.ms.c, .slice s.si.a s.si.n s.si.c, .slice s.so.a s.so.n s.so.c, .slice s.sf.a s.sf.n s.sf.c] 31)).alloc (.cells #[.slice t.on.a t.on.n t.on.c, .slice t.os.a t.os.n t.os.c, .slice t.hs.a t.hs.n t.hs.c, .slice t.ms.a t.ms.n t.ms.c, .slice t.si.a t.si.n t.si.c, .slice t.so.a t.so.n t.so.c, .slice t.sf.a t.sf.n t.sf.c] 31) = W0) := hW
  have HS : Hid (SameT s t) := h
  have ole := hs.os.le
  have ocap := hs.os.cap
  have mle := hs.ms.le
  have mcap := hs.ms.cap
  have ole2 := ht.os.le
  have ocap2 := ht.os.cap
  have mle2 := ht.ms.le
  have mcap2 := ht.ms.cap
  unfold maxLen at ocap mcap ocap2 mcap2
  have n1 : ((s.os.n : Int) != (t.os.n : Int)) = false := by rw [h.os.1]; simp
  have n2 : ((s.ms.n : Int) != (t.ms.n : Int)) = false := by rw [h.ms.1]; simp
  have HL3 : Hid (∀ i, i < s.os.n → (s.os.z i).ls.n ≤ 1000) := hl3
  clear hW X0 Y0 hs ht h hl3
  unfold St.val
  go_enter Try.func18, Try.ntmps18
  go_wp2_with fail
  rw [HW.out]
  obtain ⟨X, Y, hsk, htk, hBw⟩ := HC.out W0 (Below.refl _ _)
  refine (SameRows_yes s.on t.on W0 hsk.on htk.on HS.out.on.1 HS.out.on.2).mono ?_
  rintro e w1 ⟨rfl, hB⟩
  clear X Y hsk htk hBw HW
  obtain ⟨⟨l1, c0, c1, c2, c3, c4, c5, c6⟩, ⟨l2, d0, d1, d2, d3, d4, d5, d6⟩, hsk, htk, hBw⟩ := HC.out w1 hB
  go_wp2_with fail
  refine (SameHolds_yes s.hs t.hs w1 hsk.hs htk.hs HS.out.hs.1 HS.out.hs.2).mono ?_
  rintro e w2 ⟨rfl, hB2⟩
  have hB := hB.trans (hB2.mono hB.size)
  clear l1 c0 c1 c2 c3 c4 c5 c6 l2 d0 d1 d2 d3 d4 d5 d6 hsk htk hBw hB2
  obtain ⟨⟨l1, c0, c1, c2, c3, c4, c5, c6⟩, ⟨l2, d0, d1, d2, d3, d4, d5, d6⟩, hsk, htk, hBw⟩ := HC.out w2 hB
  go_wp2_with fail
  refine (SameInts_yes s.si t.si w2 hsk.si htk.si HS.out.si.1 HS.out.si.2).mono ?_
  rintro e w3 ⟨rfl, hB2⟩
  have hB := hB.trans (hB2.mono hB.size)
  clear l1 c0 c1 c2 c3 c4 c5 c6 l2 d0 d1 d2 d3 d4 d5 d6 hsk htk hBw hB2
  obtain ⟨⟨l1, c0, c1, c2, c3, c4, c5, c6⟩, ⟨l2, d0, d1, d2, d3, d4, d5, d6⟩, hsk, htk, hBw⟩ := HC.out w3 hB
  go_wp2_with fail
  refine (SameInts_yes s.so t.so w3 hsk.so htk.so HS.out.so.1 HS.out.so.2).mono ?_
  rintro e w4 ⟨rfl, hB2⟩
  have hB := hB.trans (hB2.mono hB.size)
  clear l1 c0 c1 c2 c3 c4 c5 c6 l2 d0 d1 d2 d3 d4 d5 d6 hsk htk hBw hB2
  obtain ⟨⟨l1, c0, c1, c2, c3, c4, c5, c6⟩, ⟨l2, d0, d1, d2, d3, d4, d5, d6⟩, hsk, htk, hBw⟩ := HC.out w4 hB
  go_wp2_with fail
  refine (SameInts_yes s.sf t.sf w4 hsk.sf htk.sf HS.out.sf.1 HS.out.sf.2).mono ?_
  rintro e w5 ⟨rfl, hB2⟩
  have hB := hB.trans (hB2.mono hB.size)
  clear l1 c0 c1 c2 c3 c4 c5 c6 l2 d0 d1 d2 d3 d4 d5 d6 hsk htk hBw hB2
  go_wp2_with fail
  go_loopw [5] (fun i wk => ∃ k : Nat, k ≤ s.os.n ∧ i = .int .i64 k ∧ Below W0.heap.size W0 wk) (fun i _ => s.os.n - (intOf i).toNat)
  case atStart => exact ⟨0, Nat.zero_le _, rfl, hB⟩
  case round =>
    clear hB
    obtain ⟨i, hi, rfl, hB⟩ := hrel
    obtain ⟨⟨l1, c0, c1, c2, c3, c4, c5, c6⟩, ⟨l2, d0, d1, d2, d3, d4, d5, d6⟩, hsk, htk, hBw⟩ := HC.out wr hB
    by_cases hlt : i < s.os.n
    · have hlt2 : i < t.os.n := by rw [← HS.out.os.1]; exact hlt
      have qi : (0 : Int) ≤ (i : Int) := by omega
      obtain ⟨b1, o1, hoa, hb1, y0, y1, hl⟩ := hsk.os.ods i hlt
      obtain ⟨b2, o2, hob, hb2, x0, x1, hm⟩ := htk.os.ods i hlt2
      obtain ⟨e1, e2, e3⟩ := HS.out.os.2 i hlt
      have hn3 := HL3.out i hlt
      rw [hoa] at c1
      rw [hob] at d1
      have r0 : ∀ d os, (grow (redrawn wr d) os).cell? ⟨w.heap.size, 1, none⟩ = some (.slice (some ⟨b1, o1, none⟩) s.os.n s.os.c) := fun d os => cell_regrown c1 d os
      have r1 : ∀ d os, (grow (redrawn wr d) os).cell? ⟨w.heap.size + 1, 1, none⟩ = some (.slice (some ⟨b2, o2, none⟩) t.os.n t.os.c) := fun d os => cell_regrown d1 d os
      have r2 : ∀ d os, (grow (redrawn wr d) os).cell? ⟨b1, o1 + i * 2, none⟩ = some (.int .i64 (s.os.z i).k) := fun d os => cell_regrown y0 d os
      have r3 : ∀ d os, (grow (redrawn wr d) os).cell? ⟨b1, o1 + i * 2 + 1, none⟩ = some (.slice (s.os.z i).ls.a (s.os.z i).ls.n (s.os.z i).ls.c) := fun d os => cell_regrown y1 d os
      rw [← e1] at x0
      have r4 : ∀ d os, (grow (redrawn wr d) os).cell? ⟨b2, o2 + i * 2, none⟩ = some (.int .i64 (s.os.z i).k) := fun d os => cell_regrown x0 d os
      have r5 : ∀ d os, (grow (redrawn wr d) os).cell? ⟨b2, o2 + i * 2 + 1, none⟩ = some (.slice (t.os.z i).ls.a (t.os.z i).ls.n (t.os.z i).ls.c) := fun d os => cell_regrown x1 d os
      have HLM : Hid ((s.os.z i).ls.At wr ∧ (t.os.z i).ls.At wr) := ⟨hl, hm⟩
      have HE : Hid ((s.os.z i).ls.n = (t.os.z i).ls.n ∧ ∀ j, j < (s.os.z i).ls.n → (s.os.z i).ls.z j = (t.os.z i).ls.z j) := ⟨e2, e3⟩
      clear hoa hob hl hm e1 e2 e3 c0 c2 c3 c4 c5 c6 d0 d2 d3 d4 d5 d6 hsk htk y0 y1 x0 x1 d1
      generalize (s.os.z i).k = KD at *
      generalize (s.os.z i).ls = LS at *
      generalize (t.os.z i).ls = LT at *
      go_wp2_with fail
      refine wp_region_made5 (fun w' => ∃ p : Regrown, w' = grow (redrawn wr p.d) p.os) (List.range 10) [10, 11] [(false, 12), (true, 13)] (by kernel_rfl) (by kernel_rfl) (by kernel_rfl) (by kernel_rfl) (by kernel_rfl) (by kernel_rfl) (by kernel_rfl) (by kernel_rfl) (by kernel_rfl) (regrown_of_below ((Below.refl _ _).drew)) ?_
      rw [show List.range 10 = [0, 1, 2, 3, 4, 5, 6, 7, 8, 9] from rfl]
      simp only [picks, List.drop_succ_cons, List.drop_zero, List.take_succ_cons, List.take_zero, List.cons_append, List.nil_append]
      repeat (go_big_quiet_step (fail))
      refine wpQuiet_nil ?_
      refine ⟨fun j v g wk => ∃ B, g = [B] ∧ v = .pointer (some ⟨B, 0, none⟩) ∧ wr.heap.size ≤ B ∧ Blk wk B 51 2 (fun j => (#[.int .i64 0, .slice .none 0 0] : Array Value).getD j default), List.forall_mem_cons.2 ⟨?zm, List.forall_mem_cons.2 ⟨?zm2, List.forall_mem_nil _⟩⟩, List.forall_mem_cons.2 ⟨?zl, List.forall_mem_cons.2 ⟨?zl2, List.forall_mem_nil _⟩⟩, List.forall_mem_cons.2 ⟨?zs10, List.forall_mem_cons.2 ⟨?zs11, List.forall_mem_nil _⟩⟩, ?zdone⟩
      case zm | zm2 => intro v g w w' hB h; obtain ⟨B, h0, h1, h2, h3⟩ := h; exact ⟨B, h0, h1, h2, h3.below hB⟩
      case zl | zl2 => intro v g w h; obtain ⟨B, rfl, h1, h2, h3⟩ := h; intro x hx; rw [List.mem_singleton] at hx; subst hx; exact h3.lt
      case zs10 =>
        intro V G wk K hS hd hK
        have hX := below_of_regrown hS
        refine wpOp_list 10 rfl ?_
        simp only [putAll, dstOf, List.getElem?_toArray, List.getElem?_cons_succ, List.getElem?_cons_zero, Act.put, List.setIfInBounds_toArray, List.set_cons_succ, List.set_cons_zero] at hK ⊢
        go_wp2_with fail
        exact hK _ [wk.heap.size] _ (regrown_of_below (hX.alloc hX.size _)) ((Below.refl _ _).alloc (Nat.le_refl _) _) (fun x hx => by rw [List.mem_singleton] at hx; omega) ⟨wk.heap.size, rfl, rfl, hX.size, Blk.mk' rfl rfl⟩
      case zs11 =>
        intro V G wk K hS hd hK
        have hX := below_of_regrown hS
        refine wpOp_list 11 rfl ?_
        simp only [putAll, dstOf, List.getElem?_toArray, List.getElem?_cons_succ, List.getElem?_cons_zero, Act.put, List.setIfInBounds_toArray, List.set_cons_succ, List.set_cons_zero] at hK ⊢
        go_wp2_with fail
        exact hK _ [wk.heap.size] _ (regrown_of_below (hX.alloc hX.size _)) ((Below.refl _ _).alloc (Nat.le_refl _) _) (fun x hx => by rw [List.mem_singleton] at hx; omega) ⟨wk.heap.size, rfl, rfl, hX.size, Blk.mk' rfl rfl⟩
      case zdone =>
        intro V G wk hS hD hA
        obtain ⟨B6, g6, h6, m6, k6⟩ := hD 10 (by simp)
        obtain ⟨B7, g7, h7, m7, k7⟩ := hD 11 (by simp)
        have hne : B6 ≠ B7 := fun e => hA 10 (by simp) 11 (by simp) (by decide) B6 (by rw [g6]; simp) (by rw [g7, e]; simp)
        have hX := below_of_regrown hS
        clear hS hD hA g6 g7 r0 r1 r2 r3 r4 r5
        have f0 := k6.frozen 0
        have f1 := k6.frozen 1
        have e0 := k6.cell (j := 0) (by decide)
        have e1 := k6.cell (j := 1) (by decide)
        have hl6 := k6.lt
        simp only [putAll, dstOf, List.getElem?_toArray, List.getElem?_cons_succ, List.getElem?_cons_zero, Act.put, List.setIfInBounds_toArray, List.set_cons_succ, List.set_cons_zero, h6, h7]
        refine wpSeq_one 12 rfl ?_
        go_wp2_with fail
        obtain ⟨W5, hW5, hX5, hY5, keep⟩ := order_stored k6 hX m6 KD (.slice LS.a LS.n LS.c)
        have k7 := keep _ _ _ _ hne.symm k7
        rw [hW5]
        refine ⟨Late.no (regrown_of_below hX5), ?_⟩
        clear hW5 hX k6 keep f0 f1 e0 e1 hl6 h6 h7
        have f0 := k7.frozen 0
        have f1 := k7.frozen 1
        have e0 := k7.cell (j := 0) (by decide)
        have e1 := k7.cell (j := 1) (by decide)
        have hl6 := k7.lt
        refine wpSeq_one 13 rfl ?_
        go_wp2_with fail
        obtain ⟨W6, hW6, hX6, hY7, keep⟩ := order_stored k7 hX5 m7 KD (.slice LT.a LT.n LT.c)
        have hY6 := keep _ _ _ _ hne hY5
        rw [hW6]
        refine ⟨Late.yes, ?_⟩
        refine NoPanic.normal ?_
        have hB6 := hB.trans (hX6.mono hB.size)
        have HLL : Hid (LS.At W6 ∧ LT.At W6) := ⟨HLM.out.1.below hX6, HLM.out.2.below hX6⟩
        clear hW6 hX5 hX6 k7 keep f0 f1 e0 e1 hl6 hY5 HLM hB m6 m7
        have HD : Hid (∀ wk, Below W6.heap.size W6 wk → (wk.cell? ⟨B6, 0, none⟩ = some (.int .i64 KD) ∧ wk.cell? ⟨B6, 1, none⟩ = some (.slice LS.a LS.n LS.c) ∧ B6 < wk.heap.size) ∧ (wk.cell? ⟨B7, 0, none⟩ = some (.int .i64 KD) ∧ wk.cell? ⟨B7, 1, none⟩ = some (.slice LT.a LT.n LT.c) ∧ B7 < wk.heap.size) ∧ LS.At wk ∧ LT.At wk ∧ Below W0.heap.size W0 wk) :=
          fun wk h => ⟨⟨(hY6.below h).cell (j := 0) (by decide), (hY6.below h).cell (j := 1) (by decide), (hY6.below h).lt⟩, ⟨(hY7.below h).cell (j := 0) (by decide), (hY7.below h).cell (j := 1) (by decide), (hY7.below h).lt⟩, HLL.out.1.below h, HLL.out.2.below h, hB6.trans (h.mono hB6.size)⟩
        clear hY6 hY7 HLL
        obtain ⟨⟨p0, p1, p2⟩, ⟨q0, q1, q2⟩, hls, hlt', hBz⟩ := HD.out W6 (Below.refl _ _)
        have lle := hls.le
        have lcap := hls.cap
        have mle3 := hlt'.le
        have mcap3 := hlt'.cap
        unfold maxLen at lcap mcap3
        have n3 : ((LS.n : Int) != (LT.n : Int)) = false := by rw [HE.out.1]; simp
        clear hls hlt' hBz
        go_wp2_with fail
        clear p0 p1 p2 q0 q1 q2
        go_loopw [8] (fun i0 wk => ∃ k : Nat, k ≤ LS.n ∧ i0 = .int .i64 k ∧ Below W6.heap.size W6 wk) (fun i0 _ => LS.n - (intOf i0).toNat)
        case atStart => exact ⟨0, Nat.zero_le _, rfl, Below.refl _ _⟩
        case round =>
          obtain ⟨j, hj, rfl, hB⟩ := hrel
          obtain ⟨⟨p0, p1, p2⟩, ⟨q0, q1, q2⟩, hls, hlt', hBz⟩ := HD.out wr hB
          by_cases hlj : j < LS.n
          · have hlj2 : j < LT.n := by rw [← HE.out.1]; exact hlj
            have qj : (0 : Int) ≤ (j : Int) := by omega
            obtain ⟨b3, o3, hla, hb3, y0, y1, y2, y3⟩ := hls.hds j hlj
            obtain ⟨b4, o4, hlb, hb4, x0, x1, x2, x3⟩ := hlt'.hds j hlj2
            rw [← HE.out.2 j hlj] at x0 x1 x2 x3
            rw [hla] at p1
            rw [hlb] at q1
            generalize LS.z j = Z at *
            clear hla hlb hls hlt' p0 q0
            go_wp2_with fail
            go_quiet (fail)
            go_wp2_with fail
            go_roundw
            case rel => exact ⟨j + 1, by omega, by go_num, below_drewN hB _⟩
            case measure => simp [intOf]; omega
          · clear hls hlt'
            go_wp2_with fail
            go_roundw
            case rel => exact ⟨i + 1, by omega, by go_num, hBz⟩
            case measure => simp [intOf]; omega
    · go_wp2_with fail
      clear l1 c0 c1 c2 c3 c4 c5 c6 l2 d0 d1 d2 d3 d4 d5 d6 hsk htk hBw hi hlt
      go_loopw [9] (fun i0 wk => ∃ k : Nat, k ≤ s.ms.n ∧ i0 = .int .i64 k ∧ Below W0.heap.size W0 wk) (fun i0 _ => s.ms.n - (intOf i0).toNat)
      case atStart => exact ⟨0, Nat.zero_le _, rfl, hB⟩
      case round =>
        clear hB
        obtain ⟨j, hj, rfl, hB⟩ := hrel
        obtain ⟨⟨l1, c0, c1, c2, c3, c4, c5, c6⟩, ⟨l2, d0, d1, d2, d3, d4, d5, d6⟩, hsk, htk, hBw⟩ := HC.out wr hB
        by_cases hlj : j < s.ms.n
        · have hlj2 : j < t.ms.n := by rw [← HS.out.ms.1]; exact hlj
          have qj : (0 : Int) ≤ (j : Int) := by omega
          obtain ⟨b3, o3, hla, hb3, y0, y1, y2, y3⟩ := hsk.ms.hds j hlj
          obtain ⟨b4, o4, hlb, hb4, x0, x1, x2, x3⟩ := htk.ms.hds j hlj2
          rw [← HS.out.ms.2 j hlj] at x0 x1 x2 x3
          rw [hla] at c3
          rw [hlb] at d3
          generalize s.ms.z j = Z at *
          clear hla hlb hsk htk c0 c1 c2 c4 c5 c6 d0 d1 d2 d4 d5 d6
          go_wp2_with fail
          go_quiet (fail)
          go_wp2_with fail
          go_roundw
          case rel => exact ⟨j + 1, by omega, by go_num, below_drewN hB _⟩
          case measure => simp [intOf]; omega
        · clear hsk htk
          go_wp2_with fail
          go_ret
          exact ⟨rfl, hBw⟩
end Go.Proofs.Ytbcacebifpagpac
namespace Go.Proofs.Ytbcacebifpagpac
open Go.RowKit Go.Shelf Go.Sort
set_option linter.unusedVariables false
theorem stateE_shelf {p : Pl} {s : St} (h : ¬ shelfE p s.on = 0) : stateE p s = shelfE p s.on := by unfold stateE; rw [if_neg h]
theorem stateE_many {p : Pl} {s : St} (h : shelfE p s.on = 0) (h1 : tooManyB s = true) : stateE p s = 2 := by unfold stateE; rw [if_pos h, if_pos h1]
theorem stateE_form {p : Pl} {s : St} (h : shelfE p s.on = 0) (h1 : tooManyB s = false) (h2 : badOrdersB p s = true ∨ badHoldsB p s = true ∨ badMovesB p s = true ∨ badSumsB p s = true) : stateE p s = 1 := by
  unfold stateE
  rw [if_pos h, h1, if_neg (by decide), if_pos (by rcases h2 with h2 | h2 | h2 | h2 <;> simp [h2])]
theorem stateE_sum {p : Pl} {s : St} (h : shelfE p s.on = 0) (h1 : tooManyB s = false) (h2 : badOrdersB p s = false) (h3 : badHoldsB p s = false) (h4 : badMovesB p s = false) (h5 : badSumsB p s = false) : stateE p s = if wrongGoodsB p s || wrongOrdersB s then 7 else 0 := by
  unfold stateE
  rw [if_pos h, h1, if_neg (by decide), h2, h3, h4, h5, if_neg (by decide)]
set_option maxHeartbeats 4000000 in
theorem stateCheck_any (p : Pl) (s : St) (w : World) (hp : p.At w) (hs : s.At w) :
    Calls Try.prog 14 #[p.val, s.val] w fun e w' => e = .returned (.int .i64 (stateE p s)) ∧ Below w.heap.size w w' := by
  obtain ⟨W0, hW, hWB, X0⟩ : ∃ W, ((w.alloc (.cells #[.slice p.ab p.nb p.cb, .slice p.sa p.ns p.cs] 25)).alloc (.cells s.cells 31)) = W ∧ Below w.heap.size w W ∧ Boxes W w.heap.size (w.heap.size + 1) p s := ⟨_, rfl, two_below _ _ _, boxes_new w p s _ _⟩
  have HC : Hid (∀ wk, Below W0.heap.size W0 wk → Boxes wk w.heap.size (w.heap.size + 1) p s ∧ p.At wk ∧ s.At wk ∧ Below w.heap.size w wk) := fun wk h => ⟨X0.below h, (hp.below hWB).below h, (hs.below hWB).below h, hWB.trans (h.mono hWB.size)⟩
  have HW : Hid ((w.alloc (.cells #[.slice p.ab p.nb p.cb, .slice p.sa p.ns p.cs] 25)).alloc (.cells #[.slice s.on.a s.on.n s.on.c, .slice s.os.a s.os.n s.os.c, .slice s.hs.a s.hs.n s.hs.c, .slice s.ms.a s.ms.n s.ms.c, .slice s.si.a s.si.n s.si.c, .slice s.so.a s.so.n s.so.c, .slice s.sf.a s.sf.n s.sf.c] 31) = W0) := hW
  clear hW X0
  unfold Pl.val St.val
  go_enter Try.func14, Try.ntmps14
  go_wp2_with fail
  rw [HW.out]
  have hB : Below W0.heap.size W0 W0 := Below.refl _ _
  obtain ⟨X, hpk, hsk, hBw⟩ := HC.out W0 hB
  refine (shelfCheck_any p s.on W0 hpk hsk.on).mono ?_
  rintro e w1 ⟨rfl, hB1⟩
  have hB := hB.trans (hB1.mono hB.size)
  clear hB1 X hpk hsk hBw
  obtain ⟨X, hpk, hsk, hBw⟩ := HC.out w1 hB
  by_cases h0 : shelfE p s.on = 0
  · have E1 : Hid (shelfE p s.on = 0) := h0
    rw [h0]
    clear h0
    obtain ⟨⟨l1, d0, d1⟩, l2, c0, c1, c2, c3, c4, c5, c6⟩ := X
    go_wp2_with fail
    refine (tooMany_any s _ hsk).mono ?_
    rintro e w2 ⟨rfl, hB1⟩
    have hBn := hB.trans (hB1.mono hB.size)
    clear l1 d0 d1 l2 c0 c1 c2 c3 c4 c5 c6 hpk hsk hBw hB hB1
    have hB := hBn
    clear hBn
    obtain ⟨X, hpk, hsk, hBw⟩ := HC.out w2 hB
    cases hh2 : tooManyB s
    · have E2 : Hid (tooManyB s = false) := hh2
      clear hh2
      obtain ⟨⟨l1, d0, d1⟩, l2, c0, c1, c2, c3, c4, c5, c6⟩ := X
      go_wp2_with fail
      refine (badOrders_any p s _ hpk hsk).mono ?_
      rintro e w3 ⟨rfl, hB1⟩
      have hBn := hB.trans (hB1.mono hB.size)
      clear l1 d0 d1 l2 c0 c1 c2 c3 c4 c5 c6 hpk hsk hBw hB hB1
      have hB := hBn
      clear hBn
      obtain ⟨X, hpk, hsk, hBw⟩ := HC.out w3 hB
      cases hh3 : badOrdersB p s
      · have E3 : Hid (badOrdersB p s = false) := hh3
        clear hh3
        obtain ⟨⟨l1, d0, d1⟩, l2, c0, c1, c2, c3, c4, c5, c6⟩ := X
        go_wp2_with fail
        refine (badHolds_any p s _ hpk hsk).mono ?_
        rintro e w4 ⟨rfl, hB1⟩
        have hBn := hB.trans (hB1.mono hB.size)
        clear l1 d0 d1 l2 c0 c1 c2 c3 c4 c5 c6 hpk hsk hBw hB hB1
        have hB := hBn
        clear hBn
        obtain ⟨X, hpk, hsk, hBw⟩ := HC.out w4 hB
        cases hh4 : badHoldsB p s
        · have E4 : Hid (badHoldsB p s = false) := hh4
          clear hh4
          obtain ⟨⟨l1, d0, d1⟩, l2, c0, c1, c2, c3, c4, c5, c6⟩ := X
          go_wp2_with fail
          refine (badMoves_any p s _ hpk hsk).mono ?_
          rintro e w5 ⟨rfl, hB1⟩
          have hBn := hB.trans (hB1.mono hB.size)
          clear l1 d0 d1 l2 c0 c1 c2 c3 c4 c5 c6 hpk hsk hBw hB hB1
          have hB := hBn
          clear hBn
          obtain ⟨X, hpk, hsk, hBw⟩ := HC.out w5 hB
          cases hh5 : badMovesB p s
          · have E5 : Hid (badMovesB p s = false) := hh5
            clear hh5
            obtain ⟨⟨l1, d0, d1⟩, l2, c0, c1, c2, c3, c4, c5, c6⟩ := X
            go_wp2_with fail
            refine (badSums_any p s _ hpk hsk).mono ?_
            rintro e w6 ⟨rfl, hB1⟩
            have hBn := hB.trans (hB1.mono hB.size)
            clear l1 d0 d1 l2 c0 c1 c2 c3 c4 c5 c6 hpk hsk hBw hB hB1
            have hB := hBn
            clear hBn
            obtain ⟨X, hpk, hsk, hBw⟩ := HC.out w6 hB
            cases hh6 : badSumsB p s
            · have E6 : Hid (badSumsB p s = false) := hh6
              clear hh6
              have HF : Formed p s := formed E1.out E2.out E3.out E4.out E5.out E6.out
              obtain ⟨⟨l1, d0, d1⟩, l2, c0, c1, c2, c3, c4, c5, c6⟩ := X
              go_wp2_with fail
              refine (wrongGoods_any p s _ hpk hsk HF).mono ?_
              rintro e w7 ⟨rfl, hB1⟩
              have hBn := hB.trans (hB1.mono hB.size)
              clear l1 d0 d1 l2 c0 c1 c2 c3 c4 c5 c6 hpk hsk hBw hB hB1
              have hB := hBn
              clear hBn
              obtain ⟨X, hpk, hsk, hBw⟩ := HC.out w7 hB
              cases hh7 : wrongGoodsB p s
              · have E7 : Hid (wrongGoodsB p s = false) := hh7
                clear hh7
                obtain ⟨⟨l1, d0, d1⟩, l2, c0, c1, c2, c3, c4, c5, c6⟩ := X
                go_wp2_with fail
                refine (wrongOrders_any p s _ hsk HF).mono ?_
                rintro e w8 ⟨rfl, hB1⟩
                have hBn := hB.trans (hB1.mono hB.size)
                clear l1 d0 d1 l2 c0 c1 c2 c3 c4 c5 c6 hpk hsk hBw hB hB1
                have hB := hBn
                clear hBn
                obtain ⟨X, hpk, hsk, hBw⟩ := HC.out w8 hB
                cases hh8 : wrongOrdersB s
                · have E8 : Hid (wrongOrdersB s = false) := hh8
                  clear hh8
                  go_wp2_with fail
                  go_ret
                  exact ⟨by rw [stateE_sum E1.out E2.out E3.out E4.out E5.out E6.out, E7.out, E8.out]; rfl, hBw⟩
                · have E8 : Hid (wrongOrdersB s = true) := hh8
                  clear hh8
                  go_wp2_with fail
                  go_ret
                  exact ⟨by rw [stateE_sum E1.out E2.out E3.out E4.out E5.out E6.out, E8.out, Bool.or_true]; rfl, hBw⟩
              · have E7 : Hid (wrongGoodsB p s = true) := hh7
                clear hh7
                go_wp2_with fail
                go_ret
                exact ⟨by rw [stateE_sum E1.out E2.out E3.out E4.out E5.out E6.out, E7.out]; rfl, hBw⟩
            · have E6 : Hid (badSumsB p s = true) := hh6
              clear hh6
              go_wp2_with fail
              go_ret
              exact ⟨by rw [stateE_form E1.out E2.out (.inr (.inr (.inr E6.out)))]; rfl, hBw⟩
          · have E5 : Hid (badMovesB p s = true) := hh5
            clear hh5
            go_wp2_with fail
            go_ret
            exact ⟨by rw [stateE_form E1.out E2.out (.inr (.inr (.inl E5.out)))]; rfl, hBw⟩
        · have E4 : Hid (badHoldsB p s = true) := hh4
          clear hh4
          go_wp2_with fail
          go_ret
          exact ⟨by rw [stateE_form E1.out E2.out (.inr (.inl E4.out))]; rfl, hBw⟩
      · have E3 : Hid (badOrdersB p s = true) := hh3
        clear hh3
        go_wp2_with fail
        go_ret
        exact ⟨by rw [stateE_form E1.out E2.out (.inl E3.out)]; rfl, hBw⟩
    · have E2 : Hid (tooManyB s = true) := hh2
      clear hh2
      go_wp2_with fail
      go_ret
      exact ⟨by rw [stateE_many E1.out E2.out]; rfl, hBw⟩
  · have HE : Hid (stateE p s = shelfE p s.on) := stateE_shelf h0
    go_wp2_with fail
    go_ret
    exact ⟨by rw [HE.out]; rfl, hBw⟩
end Go.Proofs.Ytbcacebifpagpac
namespace Go.Proofs.Ytbcacebifpagpac
open Go.RowKit Go.Shelf Go.Sort
set_option linter.unusedVariables false
def availE (p : Pl) (s : St) (bin good : Int) : Int := if stateE p s = 0 then (if inB bin 0 ((p.nb : Int) - 1) && inB good 0 ((p.ns : Int) - 1) then 0 else 3) else stateE p s
def availV (p : Pl) (s : St) (bin good : Int) : Int := if availE p s bin good = 0 then availZ s bin.toNat good.toNat else 0
set_option maxHeartbeats 4000000 in
theorem Avail_any (p : Pl) (s : St) (bin good : Int) (w : World) (hp : p.At w) (hs : s.At w) :
    Calls Try.prog 12 #[p.val, s.val, .int .i64 bin, .int .i64 good] w fun e w' => e = .returned (.tuple #[.int .i64 (availV p s bin good), .int .i64 (availE p s bin good)]) ∧ Below w.heap.size w w' := by
  obtain ⟨W0, hW, hWB, X0⟩ : ∃ W, ((w.alloc (.cells #[.slice p.ab p.nb p.cb, .slice p.sa p.ns p.cs] 25)).alloc (.cells s.cells 31)) = W ∧ Below w.heap.size w W ∧ Boxes W w.heap.size (w.heap.size + 1) p s := ⟨_, rfl, two_below _ _ _, boxes_new w p s _ _⟩
  have HC : Hid (∀ wk, Below W0.heap.size W0 wk → Boxes wk w.heap.size (w.heap.size + 1) p s ∧ p.At wk ∧ s.At wk ∧ Below w.heap.size w wk) := fun wk h => ⟨X0.below h, (hp.below hWB).below h, (hs.below hWB).below h, hWB.trans (h.mono hWB.size)⟩
  have HW : Hid ((w.alloc (.cells #[.slice p.ab p.nb p.cb, .slice p.sa p.ns p.cs] 25)).alloc (.cells #[.slice s.on.a s.on.n s.on.c, .slice s.os.a s.os.n s.os.c, .slice s.hs.a s.hs.n s.hs.c, .slice s.ms.a s.ms.n s.ms.c, .slice s.si.a s.si.n s.si.c, .slice s.so.a s.so.n s.so.c, .slice s.sf.a s.sf.n s.sf.c] 31) = W0) := hW
  have hnb : p.nb ≤ maxLen := Nat.le_trans hp.leb hp.capb
  have hns : p.ns ≤ maxLen := Nat.le_trans hp.les hp.caps
  clear hW X0
  unfold Pl.val St.val
  go_enter Try.func12, Try.ntmps12
  go_wp2_with fail
  rw [HW.out]
  obtain ⟨X, hpk, hsk, hBw⟩ := HC.out W0 (Below.refl _ _)
  refine (stateCheck_any p s W0 hpk hsk).mono ?_
  rintro e w1 ⟨rfl, hB⟩
  clear X hpk hsk hBw
  obtain ⟨X, hpk, hsk, hBw⟩ := HC.out w1 hB
  obtain ⟨⟨l1, d0, d1⟩, l2, c0, c1, c2, c3, c4, c5, c6⟩ := X
  by_cases h0 : stateE p s = 0
  · have HR : Hid (RightT p s) := rightT h0
    have H0 : Hid (stateE p s = 0) := h0
    rw [h0]
    clear h0
    cases h1 : inB bin 0 ((p.nb : Int) - 1)
    · have HE : Hid (availE p s bin good = 3 ∧ availV p s bin good = 0) := by
        have e : availE p s bin good = 3 := by unfold availE; rw [if_pos H0.out, h1]; rfl
        exact ⟨e, by unfold availV; rw [e]; rfl⟩
      go_wp2_with (go_at_call 30; refine calls_to (Has_any _ _ _ (by assumption)) ?_)
      go_ret2
      exact ⟨by rw [HE.out.1, HE.out.2]; rfl, hBw⟩
    · cases h2 : inB good 0 ((p.ns : Int) - 1)
      · have HE : Hid (availE p s bin good = 3 ∧ availV p s bin good = 0) := by
          have e : availE p s bin good = 3 := by unfold availE; rw [if_pos H0.out, h2, Bool.and_false]; rfl
          exact ⟨e, by unfold availV; rw [e]; rfl⟩
        go_wp2_with (go_at_call 30; refine calls_to (Has_any _ _ _ (by assumption)) ?_)
        go_ret2
        exact ⟨by rw [HE.out.1, HE.out.2]; rfl, hBw⟩
      · have HE : Hid (availE p s bin good = 0 ∧ availV p s bin good = availZ s bin.toNat good.toNat) := by
          have e : availE p s bin good = 0 := by unfold availE; rw [if_pos H0.out, h1, h2]; rfl
          exact ⟨e, by unfold availV; rw [e]; rfl⟩
        obtain ⟨b, hb⟩ := Int.eq_ofNat_of_zero_le (inB_true h1).1
        obtain ⟨g, hg⟩ := Int.eq_ofNat_of_zero_le (inB_true h2).1
        have hbn : b < p.nb := by have := (inB_true h1).2; omega
        have hgn : g < p.ns := by have := (inB_true h2).2; omega
        subst hb hg
        go_wp2_with (go_at_call 30; refine calls_to (Has_any _ _ _ (by assumption)) ?_)
        refine (avail_any p s b g w1 hsk HR.out.fm hbn hgn).mono ?_
        rintro e w2 ⟨rfl, hB2⟩
        go_wp2_with fail
        go_ret2
        exact ⟨by rw [HE.out.1, HE.out.2]; rfl, hBw.trans (hB2.mono hBw.size)⟩
  · have HE : Hid (availE p s bin good = stateE p s ∧ availV p s bin good = 0) := by
      have e : availE p s bin good = stateE p s := by unfold availE; rw [if_neg h0]
      exact ⟨e, by unfold availV; rw [e, if_neg h0]⟩
    go_wp2_with fail
    go_ret2
    exact ⟨by rw [HE.out.1, HE.out.2]; rfl, hBw⟩
end Go.Proofs.Ytbcacebifpagpac
namespace Go.Proofs.Ytbcacebifpagpac
open Go.RowKit
set_option linter.unusedVariables false
theorem pos_exists {z : Nat → Hd} {h : Hd} (hf : fineH h = true) : ∀ n, anyB n (badH z) = false → ∃ i, PosH n z h i
  | 0, _ => ⟨0, Nat.le_refl _, fun q hq => absurd hq (Nat.not_lt_zero _), fun q _ hq => absurd hq (Nat.not_lt_zero _)⟩
  | n + 1, hr => by
    obtain ⟨i, hp⟩ := pos_exists hf n (right_pred hr)
    have hle := hp.le
    by_cases hi : i = n
    · by_cases hc : cmpH (z n) h < 0
      · exact ⟨n + 1, Nat.le_refl _, fun q hq => by
          by_cases hqn : q = n
          · subst hqn; exact hc
          · exact hp.lo q (by omega), fun q h1 h2 => by omega⟩
      · refine ⟨n, by omega, fun q hq => hp.lo q (by omega), fun q h1 h2 => ?_⟩
        have : q = n := by omega
        subst this; omega
    · refine ⟨i, by omega, hp.lo, fun q h1 h2 => ?_⟩
      by_cases hqn : q = n
      · subst hqn
        have a := hp.hi i (Nat.le_refl _) (by omega)
        have k1 := (cmp_key (right_fine hr i (by omega)) hf).1
        have k2 := (cmp_key (right_fine hr q (by omega)) hf).1
        have k3 := right_lt hr i q (by omega) (by omega)
        omega
      · exact hp.hi q h1 (by omega)
theorem pos_key {n : Nat} {z : Nat → Hd} {h : Hd} (hr : anyB n (badH z) = false) (hf : fineH h = true) :
    addPos n z h ≤ n ∧ (∀ j, j < addPos n z h → keyH (z j) < keyH h) ∧ (∀ j, addPos n z h ≤ j → j < n → keyH h ≤ keyH (z j)) := by
  obtain ⟨i, hp⟩ := pos_exists hf n hr
  rw [addPos_eq hp]
  have hle := hp.le
  refine ⟨hp.le, fun j hj => ?_, fun j hj hjn => ?_⟩
  · have := hp.lo j hj
    have := (cmp_key (right_fine hr j (by omega)) hf).1
    omega
  · have := hp.hi j hj hjn
    have := (cmp_key (right_fine hr j hjn) hf).1
    omega
theorem key_match {x y : Hd} (hx : fineH x = true) (hy : fineH y = true) (h : keyH x = keyH y) : matchH x y.o y.l y.b = true := by
  have a := fineH_true hx
  have b := fineH_true hy
  unfold keyH at h
  have h1 : x.o = y.o := by omega
  have h2 : x.l = y.l := by omega
  have h3 : x.b = y.b := by omega
  simp [matchH, h1, h2, h3]
theorem right_mk {n : Nat} {z : Nat → Hd} (hf : ∀ i, i < n → fineH (z i) = true) (hs : ∀ i, i + 1 < n → keyH (z i) < keyH (z (i + 1))) : anyB n (badH z) = false := by
  rw [← bad_eq]
  refine anyB_no fun j hj => ?_
  unfold badK
  rw [hf j hj]
  by_cases h0 : 0 < j
  · have := hs (j - 1) (by omega)
    rw [show j - 1 + 1 = j by omega] at this
    simp only [Bool.not_true, Bool.false_or, Bool.and_eq_false_imp, decide_eq_true_eq, decide_eq_false_iff_not]
    intro _
    omega
  · simp [h0]
theorem kept_at {n k : Nat} {z : Nat → Hd} {o l b : Int} (hr : anyB n (badH z) = false) (hk : k < n) (hm : matchH (z k) o l b = true) : keptV n z o l b = (z k).n ∧ dropI n z o l b = k := by
  have lo : ∀ j, j < k → matchH (z j) o l b = false := fun j hj => by
    cases hq : matchH (z j) o l b
    · rfl
    · have := matchH_key hq hm
      have := right_lt hr j k hj hk
      omega
  exact ⟨keptV_some hk lo hm, dropI_some hk lo hm⟩
theorem kept_no {n : Nat} {z : Nat → Hd} {o l b : Int} (hr : anyB n (badH z) = false) (h0 : keptV n z o l b = 0) : ∀ j, j < n → matchH (z j) o l b = false := by
  rcases keptV_cases n z o l b with h | ⟨k, hkn, h1, h2⟩
  · exact h
  · rw [keptV_some hkn h1 h2] at h0
    have := (fineH_true (right_fine hr k hkn)).2.2.2
    omega
theorem insZ_lt {z : Nat → Hd} {i j : Nat} {h : Hd} (hj : j < i) : insZ z i h j = z j := by unfold insZ; rw [if_pos hj]
theorem insZ_eq {z : Nat → Hd} {i : Nat} {h : Hd} : insZ z i h i = h := by unfold insZ; rw [if_neg (by omega), if_pos rfl]
theorem insZ_gt {z : Nat → Hd} {i j : Nat} {h : Hd} (hj : i < j) : insZ z i h j = z (j - 1) := by unfold insZ; rw [if_neg (by omega), if_neg (by omega)]
theorem setZ_eq {z : Nat → Hd} {i : Nat} {h : Hd} : setZ z i h i = h := if_pos rfl
theorem setZ_ne {z : Nat → Hd} {i j : Nat} {h : Hd} (hj : ¬ j = i) : setZ z i h j = z j := if_neg hj
theorem match_same {x y : Hd} {o l b : Int} (h1 : matchH x y.o y.l y.b = true) : matchH x o l b = matchH y o l b := by
  have a := matchH_true h1
  unfold matchH
  rw [a.1, a.2.1, a.2.2]
theorem add_ins {n : Nat} {z : Nat → Hd} {h : Hd} (hr : anyB n (badH z) = false) (hf : fineH h = true) (h0 : keptV n z h.o h.l h.b = 0) :
    anyB (n + 1) (badH (insZ z (addPos n z h) h)) = false ∧ (∀ o l b, keptV (n + 1) (insZ z (addPos n z h) h) o l b = keptV n z o l b + if matchH h o l b then h.n else 0) ∧
      dropI (n + 1) (insZ z (addPos n z h) h) h.o h.l h.b = addPos n z h := by
  obtain ⟨p1, p2, p3⟩ := pos_key hr hf
  have no := kept_no hr h0
  generalize addPos n z h = p at p1 p2 p3 ⊢
  have hs : ∀ j, p ≤ j → j < n → keyH h < keyH (z j) := fun j hj hjn => by
    have a := p3 j hj hjn
    have b : ¬ keyH (z j) = keyH h := fun e => by
      have := key_match (right_fine hr j hjn) hf e
      rw [no j hjn] at this
      cases this
    omega
  have hR : anyB (n + 1) (badH (insZ z p h)) = false := by
    refine right_mk (fun i hi => ?_) (fun i hi => ?_)
    · rcases Nat.lt_trichotomy i p with hip | hip | hip
      · rw [insZ_lt hip]; exact right_fine hr i (by omega)
      · subst hip; rw [insZ_eq]; exact hf
      · rw [insZ_gt hip]; exact right_fine hr (i - 1) (by omega)
    · rcases Nat.lt_trichotomy i p with hip | hip | hip
      · rw [insZ_lt hip]
        by_cases hq : i + 1 = p
        · subst hq; rw [insZ_eq]; exact p2 i (by omega)
        · rw [insZ_lt (by omega)]; exact right_step hr i (by omega)
      · subst hip
        rw [insZ_eq, insZ_gt (by omega)]
        exact hs _ (by omega) (by omega)
      · rw [insZ_gt hip, insZ_gt (by omega)]
        have := right_step hr (i - 1) (by omega)
        rw [show i - 1 + 1 = i + 1 - 1 by omega] at this
        exact this
  have hat := kept_at (o := h.o) (l := h.l) (b := h.b) hR (show p < n + 1 by omega) (by rw [insZ_eq]; simp [matchH])
  refine ⟨hR, fun o l b => ?_, hat.2⟩
  cases hm : matchH h o l b
  · simp only [Bool.false_eq_true, if_false, Int.add_zero]
    rcases keptV_cases n z o l b with hn | ⟨k, hk, h1, h2⟩
    · rw [keptV_none hn]
      refine keptV_none fun j hj => ?_
      rcases Nat.lt_trichotomy j p with hip | hip | hip
      · rw [insZ_lt hip]; exact hn j (by omega)
      · subst hip; rw [insZ_eq]; exact hm
      · rw [insZ_gt hip]; exact hn (j - 1) (by omega)
    · rw [keptV_some hk h1 h2]
      by_cases hkp : k < p
      · have := (kept_at (o := o) (l := l) (b := b) hR (show k < n + 1 by omega) (by rw [insZ_lt hkp]; exact h2)).1
        rw [this, insZ_lt hkp]
      · have e : insZ z p h (k + 1) = z k := by rw [insZ_gt (by omega), Nat.add_sub_cancel]
        have := (kept_at (o := o) (l := l) (b := b) hR (show k + 1 < n + 1 by omega) (by rw [e]; exact h2)).1
        rw [this, e]
  · have a := matchH_true hm
    rw [← a.1, ← a.2.1, ← a.2.2, h0, hat.1, insZ_eq]
    simp
theorem add_set {n : Nat} {z : Nat → Hd} {h : Hd} (hr : anyB n (badH z) = false) (hf : fineH h = true) (h0 : ¬ keptV n z h.o h.l h.b = 0) (h2 : keptV n z h.o h.l h.b + h.n ≤ 200) :
    anyB n (badH (setZ z (addPos n z h) ⟨h.o, h.l, h.b, keptV n z h.o h.l h.b + h.n⟩)) = false ∧ (∀ o l b, keptV n (setZ z (addPos n z h) ⟨h.o, h.l, h.b, keptV n z h.o h.l h.b + h.n⟩) o l b = keptV n z o l b + if matchH h o l b then h.n else 0) ∧
      dropI n (setZ z (addPos n z h) ⟨h.o, h.l, h.b, keptV n z h.o h.l h.b + h.n⟩) h.o h.l h.b = addPos n z h ∧ addPos n z h < n ∧ matchH (z (addPos n z h)) h.o h.l h.b = true ∧ dropI n z h.o h.l h.b = addPos n z h := by
  obtain ⟨p1, p2, p3⟩ := pos_key hr hf
  obtain ⟨q1, q2, q3, q4, q5⟩ := kept_pos hr h0
  have hkey : keyH (z (dropI n z h.o h.l h.b)) = keyH h := match_key (n := h.n) q2
  have hp : dropI n z h.o h.l h.b = addPos n z h := by
    rcases Nat.lt_trichotomy (dropI n z h.o h.l h.b) (addPos n z h) with c | c | c
    · have := p2 _ c; omega
    · exact c
    · have := q4 _ c
      have := p3 _ (Nat.le_refl _) (by omega)
      omega
  rw [hp] at q1 q2 q3 q4 q5 hkey ⊢
  generalize addPos n z h = p at p1 p2 p3 q1 q2 q3 q4 q5 hkey hp ⊢
  generalize hK : keptV n z h.o h.l h.b = K at h0 h2 q3 ⊢
  have hfz := fineH_true (right_fine hr p q1)
  have hfh := fineH_true hf
  have hkn : keyH ⟨h.o, h.l, h.b, K + h.n⟩ = keyH (z p) := by rw [hkey]; rfl
  have hR : anyB n (badH (setZ z p ⟨h.o, h.l, h.b, K + h.n⟩)) = false := by
    refine right_mk (fun i hi => ?_) (fun i hi => ?_)
    · by_cases hip : i = p
      · subst hip; rw [setZ_eq]
        simp only [fineH, Bool.and_eq_true]
        exact ⟨⟨⟨inB_mk (by omega), inB_mk (by omega)⟩, inB_mk (by omega)⟩, inB_mk (by show 1 ≤ K + h.n ∧ K + h.n ≤ 200; omega)⟩
      · rw [setZ_ne hip]; exact right_fine hr i hi
    · have hst := right_step hr i hi
      by_cases hip : i = p
      · subst hip; rw [setZ_eq, setZ_ne (by omega), hkn]; exact hst
      · rw [setZ_ne hip]
        by_cases hiq : i + 1 = p
        · rw [hiq, setZ_eq, hkn, ← hiq]; exact hst
        · rw [setZ_ne hiq]; exact hst
  have hat := kept_at (o := h.o) (l := h.l) (b := h.b) hR q1 (by rw [setZ_eq]; simp [matchH])
  refine ⟨hR, fun o l b => ?_, hat.2, q1, q2, rfl⟩
  cases hm : matchH h o l b
  · simp only [Bool.false_eq_true, if_false, Int.add_zero]
    have hzp : matchH (z p) o l b = false := by rw [match_same q2]; exact hm
    rcases keptV_cases n z o l b with hn | ⟨k, hk, h1, h3⟩
    · rw [keptV_none hn]
      refine keptV_none fun j hj => ?_
      by_cases hip : j = p
      · subst hip; rw [setZ_eq]; exact hm
      · rw [setZ_ne hip]; exact hn j hj
    · rw [keptV_some hk h1 h3]
      have hkp : ¬ k = p := fun e => by subst e; rw [hzp] at h3; cases h3
      have := (kept_at (o := o) (l := l) (b := b) hR hk (by rw [setZ_ne hkp]; exact h3)).1
      rw [this, setZ_ne hkp]
  · have a := matchH_true hm
    rw [← a.1, ← a.2.1, ← a.2.2, hK, hat.1, setZ_eq]
    simp
end Go.Proofs.Ytbcacebifpagpac
namespace Go.Proofs.Ytbcacebifpagpac
open Go.RowKit
set_option linter.unusedVariables false
theorem ext_half {n m : Nat} {z y : Nat → Hd} (hr : anyB n (badH z) = false) (hq : anyB m (badH y) = false) (hk : ∀ o l b, keptV n z o l b = keptV m y o l b) (j : Nat)
    (ih : ∀ i, i < j → i < m → i < n ∧ z i = y i) (hj : j < n) : j < m ∧ keyH (y j) ≤ keyH (z j) := by
  have a := (kept_at hr hj (matchH_self (z j))).1
  have f := (fineH_true (right_fine hr j hj)).2.2.2
  rw [hk] at a
  obtain ⟨q1, q2, q3, q4, q5⟩ := kept_pos (o := (z j).o) (l := (z j).l) (b := (z j).b) hq (by omega)
  generalize dropI m y (z j).o (z j).l (z j).b = k at q1 q2 q3 q4 q5
  have hkey : keyH (y k) = keyH (z j) := match_key (n := (z j).n) q2
  have hjk : j ≤ k := by
    rcases Nat.lt_or_ge k j with c | c
    · obtain ⟨_, e⟩ := ih k c q1
      have := right_lt hr k j c hj
      rw [e] at this
      omega
    · exact c
  refine ⟨by omega, ?_⟩
  by_cases e : j = k
  · rw [e] at hkey ⊢; omega
  · have := q4 j (by omega); omega
theorem ext_at {n m : Nat} {z y : Nat → Hd} (hr : anyB n (badH z) = false) (hq : anyB m (badH y) = false) (hk : ∀ o l b, keptV n z o l b = keptV m y o l b) :
    ∀ k j, j < k → (j < n → j < m ∧ z j = y j) ∧ (j < m → j < n ∧ z j = y j) := by
  intro k
  induction k with
  | zero => intro j hj; omega
  | succ k ih =>
    intro j hj
    by_cases hjk : j < k
    · exact ih j hjk
    · have e : j = k := by omega
      subst e
      have both : j < n → j < m → z j = y j := fun h1 h2 => by
        have a := (ext_half hr hq hk j (fun i hi him => (ih i hi).2 him) h1).2
        have b := (ext_half hq hr (fun o l b => (hk o l b).symm) j (fun i hi him => ⟨((ih i hi).1 him).1, ((ih i hi).1 him).2.symm⟩) h2).2
        have hm := key_match (right_fine hr j h1) (right_fine hq j h2) (by omega)
        have k1 := (kept_at hr h1 hm).1
        have k2 := (kept_at hq h2 (matchH_self (y j))).1
        rw [hk, k2] at k1
        have c := matchH_true hm
        cases hz : z j
        cases hy : y j
        rw [hz, hy] at c k1
        simp only at c k1
        simp [c, k1]
      exact ⟨fun h => ⟨(ext_half hr hq hk j (fun i hi him => (ih i hi).2 him) h).1, both h (ext_half hr hq hk j (fun i hi him => (ih i hi).2 him) h).1⟩,
        fun h => ⟨(ext_half hq hr (fun o l b => (hk o l b).symm) j (fun i hi him => ⟨((ih i hi).1 him).1, ((ih i hi).1 him).2.symm⟩) h).1, both (ext_half hq hr (fun o l b => (hk o l b).symm) j (fun i hi him => ⟨((ih i hi).1 him).1, ((ih i hi).1 him).2.symm⟩) h).1 h⟩⟩
theorem right_ext {n m : Nat} {z y : Nat → Hd} (hr : anyB n (badH z) = false) (hq : anyB m (badH y) = false) (hk : ∀ o l b, keptV n z o l b = keptV m y o l b) : n = m ∧ ∀ j, j < n → z j = y j := by
  have h := ext_at hr hq hk
  refine ⟨?_, fun j hj => ((h (j + 1) j (by omega)).1 hj).2⟩
  rcases Nat.lt_trichotomy n m with c | c | c
  · have := ((h (n + 1) n (by omega)).2 c).1; omega
  · exact c
  · have := ((h (m + 1) m (by omega)).1 c).1; omega
theorem add_both {n : Nat} {z : Nat → Hd} {h : Hd} (hr : anyB n (badH z) = false) (hf : fineH h = true) (h2 : keptV n z h.o h.l h.b + h.n ≤ 200) :
    anyB (addLen n z h) (badH (addZ n z h)) = false ∧ ∀ o l b, keptV (addLen n z h) (addZ n z h) o l b = keptV n z o l b + if matchH h o l b then h.n else 0 := by
  by_cases h0 : keptV n z h.o h.l h.b = 0
  · have e1 : addLen n z h = n + 1 := if_pos h0
    have e2 : addZ n z h = insZ z (addPos n z h) h := if_pos h0
    rw [e1, e2]
    obtain ⟨a, b, _⟩ := add_ins hr hf h0
    exact ⟨a, b⟩
  · have e1 : addLen n z h = n := if_neg h0
    have e2 : addZ n z h = setZ z (addPos n z h) ⟨h.o, h.l, h.b, keptV n z h.o h.l h.b + h.n⟩ := if_neg h0
    rw [e1, e2]
    obtain ⟨a, b, _⟩ := add_set hr hf h0 h2
    exact ⟨a, b⟩
theorem addE_zero {n : Nat} {z : Nat → Hd} {h : Hd} (e : addE n z h = 0) : anyB n (badH z) = false ∧ fineH h = true ∧ keptV n z h.o h.l h.b + h.n ≤ 200 := by
  unfold addE at e
  by_cases h0 : checkH n z = 0
  · rw [if_pos h0] at e
    cases hf : fineH h
    · rw [hf] at e; simp at e
    · rw [hf] at e
      simp only [if_true] at e
      by_cases h2 : 200 < keptV n z h.o h.l h.b + h.n
      · rw [if_pos h2] at e; omega
      · exact ⟨checkH_zero h0, rfl, by omega⟩
  · rw [if_neg h0] at e; exact absurd e h0
theorem checkH_right {n : Nat} {z : Nat → Hd} (h : anyB n (badH z) = false) : checkH n z = 0 := by unfold checkH; rw [h]; rfl
theorem addE_of {n : Nat} {z : Nat → Hd} {h : Hd} (hr : anyB n (badH z) = false) (hf : fineH h = true) : addE n z h = if 200 < keptV n z h.o h.l h.b + h.n then 3 else 0 := by
  unfold addE
  rw [checkH_right hr, hf]
  rfl
theorem badH_congr {z y : Nat → Hd} {n : Nat} (h : ∀ j, j < n → z j = y j) : anyB n (badH z) = anyB n (badH y) := by
  have e : ∀ j, j < n → badH z j = badH y j := fun j hj => by
    unfold badH
    rw [h j hj]
    by_cases h0 : 0 < j
    · rw [h (j - 1) (by omega)]
    · simp [h0]
  cases hq : anyB n (badH y)
  · exact anyB_no fun j hj => by rw [e j hj]; exact anyB_false hq j hj
  · cases hz : anyB n (badH z)
    · have : anyB n (badH y) = false := anyB_no fun j hj => by rw [← e j hj]; exact anyB_false hz j hj
      rw [this] at hq; cases hq
    · rfl
theorem keptV_congr {z y : Nat → Hd} {n : Nat} (h : ∀ j, j < n → z j = y j) (o l b : Int) : keptV n z o l b = keptV n y o l b := by
  rcases keptV_cases n y o l b with hn | ⟨k, hk, h1, h2⟩
  · rw [keptV_none hn, keptV_none fun j hj => by rw [h j hj]; exact hn j hj]
  · rw [keptV_some hk h1 h2, keptV_some hk (fun j hj => by rw [h j (by omega)]; exact h1 j hj) (by rw [h k hk]; exact h2), h k hk]
theorem keptS_congr {z y : Nat → Hd} (o l : Int) : ∀ {n : Nat}, (∀ j, j < n → z j = y j) → keptS z o l n = keptS y o l n
  | 0, _ => rfl
  | n + 1, h => by
    simp only [keptS]
    rw [keptS_congr o l (n := n) fun j hj => h j (by omega), h n (by omega)]
theorem AddOK.right {n : Nat} {z : Nat → Hd} {h : Hd} {x : Hs} (hx : AddOK n z h x) (e : addE n z h = 0) :
    anyB x.n (badH x.z) = false ∧ ∀ o l b, keptV x.n x.z o l b = keptV n z o l b + if matchH h o l b then h.n else 0 := by
  obtain ⟨a, b, c⟩ := addE_zero e
  obtain ⟨r, k⟩ := add_both a b c
  have hn : x.n = addLen n z h := by have := hx.1; rw [if_pos e] at this; exact this
  have hz := hx.2
  rw [hn] at hz ⊢
  exact ⟨by rw [badH_congr hz]; exact r, fun o l b => by rw [keptV_congr hz]; exact k o l b⟩
theorem AddOK.none {n : Nat} {z : Nat → Hd} {h : Hd} {x : Hs} (hx : AddOK n z h x) (e : ¬ addE n z h = 0) : x.n = 0 := by
  have := hx.1; rw [if_neg e] at this; exact this
end Go.Proofs.Ytbcacebifpagpac
namespace Go.Proofs.Ytbcacebifpagpac
open Go.RowKit
set_option linter.unusedVariables false
theorem homeless_mk {p : Pl} {s : St} {h : Hd} (h1 : 0 ≤ h.o ∧ h.o.toNat < s.os.n) (h2 : 0 ≤ h.l ∧ h.l.toNat < (s.os.z h.o.toNat).ls.n) (h3 : 0 ≤ h.b ∧ h.b < p.nb) : homeless p s h = false := by
  unfold homeless
  rw [inB_mk (by omega), inB_mk (by omega), inB_mk (by omega)]
  rfl
theorem heldTo_eq {x s : St} {b g : Int} : ∀ {k : Nat}, (∀ j, j < k → x.hs.z j = s.hs.z j) → (∀ j, j < k → goodH x (s.hs.z j) = goodH s (s.hs.z j)) → heldTo x b g k = heldTo s b g k
  | 0, _, _ => rfl
  | k + 1, h1, h2 => by
    simp only [heldTo]
    rw [heldTo_eq (k := k) (fun j hj => h1 j (by omega)) (fun j hj => h2 j (by omega)), h1 k (by omega), h2 k (by omega)]
theorem fromTo_eq {x s : St} {b g : Int} : ∀ {k : Nat}, (∀ j, j < k → x.ms.z j = s.ms.z j) → fromTo x b g k = fromTo s b g k
  | 0, _ => rfl
  | k + 1, h1 => by
    simp only [fromTo]
    rw [fromTo_eq (k := k) (fun j hj => h1 j (by omega)), h1 k (by omega)]
section
variable {p : Pl} {x t : St}
theorem SameT.held (h : SameT x t) (f : Formed p t) (b g : Int) : heldTo x b g x.hs.n = heldTo t b g t.hs.n := by
  rw [h.hs.1]
  refine heldTo_eq (fun j hj => h.hs.2 j (by rw [h.hs.1]; exact hj)) (fun j hj => ?_)
  obtain ⟨h1, h2, -⟩ := homeless_no (f.home j hj)
  unfold goodH
  have o := h.os.2 (t.hs.z j).o.toNat (by rw [h.os.1]; exact h1.2)
  rw [o.2.2 (t.hs.z j).l.toNat (by rw [o.2.1]; exact h2.2)]
theorem SameT.from (h : SameT x t) (b g : Int) : fromTo x b g x.ms.n = fromTo t b g t.ms.n := by
  rw [h.ms.1]
  exact fromTo_eq fun j hj => h.ms.2 j (by rw [h.ms.1]; exact hj)
theorem SameT.num (h : SameT x t) (f : Formed p t) {b g : Nat} (hb : b < p.nb) (hg : g < p.ns) : (x.on.r b).z g = (t.on.r b).z g := by
  have hb' : b < t.on.n := by rw [f.sh.n]; exact hb
  have r := h.on.2 b (by rw [h.on.1]; exact hb')
  exact r.2 g (by rw [r.1, f.sh.len b hb']; exact hg)
theorem SameT.avail (h : SameT x t) (f : Formed p t) {b g : Nat} (hb : b < p.nb) (hg : g < p.ns) : availZ x b g = availZ t b g := by
  unfold availZ
  rw [h.num f hb hg, h.held f, h.from]
theorem SameT.formed (h : SameT x t) (f : Formed p t) : Formed p x := by
  have hp := (rightS f.sh0).1
  have hs : RightS p x.on := ⟨f.sh.pl, h.on.1.trans f.sh.n, fun i hi => (h.on.2 i hi).1.trans (f.sh.len i (by rw [← h.on.1]; exact hi)), fun i hi j hj => by
    have hi' : i < t.on.n := by rw [← h.on.1]; exact hi
    rw [h.num f (by rw [← f.sh.n]; exact hi') hj]
    exact f.sh.num i hi' j hj⟩
  have o : ∀ i, i < x.os.n → i < t.os.n := fun i hi => by rw [← h.os.1]; exact hi
  refine ⟨hs, shelfE_mk hp hs, by rw [h.os.1]; exact f.os4, by rw [h.ms.1]; exact f.ms8, fun i hi => by rw [(h.os.2 i hi).2.1]; exact f.lns i (o i hi), fun i hi => by rw [(h.os.2 i hi).1]; exact f.kind i (o i hi), fun i hi j hj => ?_, ?_, fun i hi => ?_, fun i hi => ?_, h.si.1.trans f.sin, h.so.1.trans f.son, h.sf.1.trans f.sfn, fun j hj => ?_, fun j hj => ?_, fun j hj => ?_⟩
  · rw [(h.os.2 i hi).2.2 j hj]
    exact f.line i (o i hi) j (by rw [← (h.os.2 i hi).2.1]; exact hj)
  · rw [h.hs.1, badH_congr fun j hj => h.hs.2 j (by rw [h.hs.1]; exact hj)]
    exact f.hold
  · have hi' : i < t.hs.n := by rw [← h.hs.1]; exact hi
    obtain ⟨h1, h2, h3⟩ := homeless_no (f.home i hi')
    rw [h.hs.2 i hi]
    have h1' : (t.hs.z i).o.toNat < x.os.n := by rw [h.os.1]; exact h1.2
    exact homeless_mk ⟨h1.1, h1'⟩ ⟨h2.1, by rw [(h.os.2 _ h1').2.1]; exact h2.2⟩ h3
  · rw [h.ms.2 i hi]
    exact f.move i (by rw [← h.ms.1]; exact hi)
  · rw [h.si.2 j (by rw [h.si.1, f.sin]; exact hj)]; exact f.sib j hj
  · rw [h.so.2 j (by rw [h.so.1, f.son]; exact hj)]; exact f.sob j hj
  · rw [h.sf.2 j (by rw [h.sf.1, f.sfn]; exact hj)]; exact f.sfb j hj
theorem SameT.right (h : SameT x t) (r : RightT p t) : RightT p x := by
  have f := r.fm
  refine ⟨h.formed f, fun g hg => ?_, fun i hi => ?_⟩
  · have := r.goods g hg
    rw [wrongGood_eq] at this ⊢
    rw [← this]
    congr 1
    · have e : sumTo (fun i => (x.on.r i).z g) x.on.n = sumTo (fun i => (t.on.r i).z g) t.on.n := by
        rw [h.on.1]
        exact sumTo_congr fun i hi => h.num f (by rw [← f.sh.n]; exact hi) hg
      rw [e, h.si.2 g (by rw [h.si.1, f.sin]; exact hg), h.so.2 g (by rw [h.so.1, f.son]; exact hg), h.sf.2 g (by rw [h.sf.1, f.sfn]; exact hg)]
    · exact anyB_congr fun b hb => by rw [h.avail f hb hg]
  · have hi' : i < t.os.n := by rw [← h.os.1]; exact hi
    have := r.orders i hi'
    rw [← this]
    obtain ⟨e1, e2, e3⟩ := h.os.2 i hi
    unfold wrongOrder
    rw [e1, e2]
    congr 1
    · congr 2
      exact anyB_congr fun j hj => by rw [e3 j (by rw [e2]; exact hj)]
    · refine anyB_congr fun j hj => ?_
      rw [e3 j (by rw [e2]; exact hj), h.hs.1, keptS_congr _ _ fun j hj => h.hs.2 j (by rw [h.hs.1]; exact hj)]
end
end Go.Proofs.Ytbcacebifpagpac
namespace Go.Proofs.Ytbcacebifpagpac
open Go.RowKit Go.Shelf
set_option linter.unusedVariables false
def frL (p : Pl) (f : Bool) (k : Nat) : List Int := ((List.range k).filter (fun i => (p.zb i).front == f)).map Int.ofNat
theorem frL_hit {p : Pl} {f : Bool} {k : Nat} (h : (p.zb k).front = f) : frL p f (k + 1) = frL p f k ++ [(k : Int)] := by simp [frL, List.range_succ, h]
theorem frL_miss {p : Pl} {f : Bool} {k : Nat} (h : ¬ (p.zb k).front = f) : frL p f (k + 1) = frL p f k := by simp [frL, List.range_succ, h]
theorem frL_len (p : Pl) (f : Bool) (k : Nat) : (frL p f k).length ≤ k := by
  unfold frL
  rw [List.length_map]
  exact Nat.le_trans (List.length_filter_le _ _) (by simp)
def wayL (p : Pl) : List Int := frL p true p.nb ++ frL p false p.nb
theorem Rw.ofOwns {w : World} {base : Nat} {v : Value} {xs : List Int} (h : w.ownsRow base 3 1 v xs.length (xs.map (Value.int .i64))) : ∃ r : Rw, v = r.val ∧ r.At w ∧ r.n = xs.length ∧ ∀ j, j < r.n → r.z j = xs.getD j 0 := by
  by_cases hv : v = .slice Option.none 0 0
  · subst hv
    have h0 : xs.length = 0 := by
      rcases h.2 with ⟨_, h0⟩ | ⟨g2, cap2, cur2, e, _⟩
      · exact h0
      · cases e
    exact ⟨⟨Option.none, 0, 0, fun _ => 0⟩, rfl, ⟨Nat.le_refl _, Nat.zero_le _, fun i hi => absurd hi (Nat.not_lt_zero _)⟩, h0.symm, fun j hj => absurd hj (Nat.not_lt_zero _)⟩
  · obtain ⟨g, c, rfl, h1, h2, h3, h4⟩ := Blk.ofOwns h hv
    rw [Nat.mul_one] at h4
    refine ⟨⟨some ⟨g, 0, Option.none⟩, xs.length, c, fun j => xs.getD j 0⟩, rfl, ⟨h1, h2, fun i hi => ?_⟩, rfl, fun j _ => rfl⟩
    have hi' : i < xs.length := hi
    refine ⟨g, 0, rfl, h4.lt, ?_⟩
    have := h4.cell (j := i) hi'
    rw [Nat.zero_add, this]
    simp [List.getD, hi']
set_option maxRecDepth 100000 in
set_option maxHeartbeats 2000000 in
theorem WayOfOwn_any (p : Pl) (w : World) (hp : p.At w) (hn : p.nb ≤ 6) :
    Calls Try.prog 100 #[p.val] w fun e w' => ∃ v, e = .returned v ∧ w'.ownsRow w.heap.size 3 1 v (wayL p).length ((wayL p).map (Value.int .i64)) ∧ Below w.heap.size w w' := by
  have leb := hp.leb
  have capb := hp.capb
  unfold maxLen at capb
  have F : ∃ W0, w.alloc (.cells #[.slice p.ab p.nb p.cb, .slice p.sa p.ns p.cs] 25) = W0 ∧ Below w.heap.size w W0 ∧ W0.heap.size = w.heap.size + 1 ∧ ∀ w1, Below W0.heap.size W0 w1 → w1.cell? ⟨w.heap.size, 0, Option.none⟩ = some (.slice p.ab p.nb p.cb) ∧ w.heap.size < w1.heap.size :=
    ⟨_, rfl, (Below.refl w.heap.size w).alloc (Nat.le_refl _) _, by simp, fun w1 h => ⟨(h.cell (p := ⟨w.heap.size, 0, Option.none⟩) (by simp)).trans (by simp), by have := h.size; simp at this; omega⟩⟩
  obtain ⟨W0, hW, hB0, hsz0, hcell⟩ := F
  have HW : Hid (w.alloc (.cells #[.slice p.ab p.nb p.cb, .slice p.sa p.ns p.cs] 25) = W0) := hW
  have HC : Hid (∀ w1, Below W0.heap.size W0 w1 → w1.cell? ⟨w.heap.size, 0, Option.none⟩ = some (.slice p.ab p.nb p.cb) ∧ w.heap.size < w1.heap.size) := hcell
  have HP : Hid (∀ w1, Below W0.heap.size W0 w1 → p.At w1) := fun w1 h => (hp.below hB0).below h
  have HZ : Hid (W0.heap.size = w.heap.size + 1) := hsz0
  clear hW hcell hsz0
  obtain ⟨i1, hj, hy0, hy1, hy2⟩ := info_parts infoInt
  simp only [Pl.val]
  go_enter Try.func100, Try.ntmps100
  go_wp2_with fail
  rw [HW.out]
  go_loopw [3, 4] (fun v i wk => ∃ k : Nat, k ≤ p.nb ∧ i = .int .i64 k ∧ wk.ownsRow W0.heap.size 3 1 v (frL p true k).length ((frL p true k).map (Value.int .i64)) ∧ Below W0.heap.size W0 wk) (fun _ i _ => p.nb - (intOf i).toNat)
  case atStart => exact ⟨0, Nat.zero_le _, rfl, World.ownsRow_nil _ _ _ _, Below.refl _ _⟩
  case round =>
    obtain ⟨k, hk, rfl, ho, hB⟩ := hrel
    obtain ⟨c0, hlt0⟩ := HC.out _ hB
    have HO : Hid (wr.ownsRow W0.heap.size 3 1 u3 (frL p true k).length ((frL p true k).map (Value.int .i64))) := ho
    clear ho
    by_cases hlt : k < p.nb
    · obtain ⟨b, o, hab, hb, z0, z1, z2, z3⟩ := (HP.out _ hB).bins k hlt
      rw [hab] at c0
      clear hab
      have m1 : (0 : Int) ≤ (k : Int) := by omega
      cases hf : (p.zb k).front
      · rw [hf] at z0
        go_wp2_with fail
        go_roundw
        case rel => exact ⟨k + 1, by omega, by go_num, by rw [frL_miss (by rw [hf]; decide)]; exact HO.out, hB⟩
        case measure => simp [intOf]; omega
      · rw [hf] at z0
        have hfl := frL_len p true k
        go_wp2_with (at_builtin; refine wpList_append_own _ rfl (.tmp 19) (.tmp 21) 23 rfl W0.heap.size 3 i1 (.int .i64 0) 1 8 Try.underlying23 hj hy0 hy1 hy2 rfl (by decide) _ _ _ rfl (HO.out.alloc _) ⟨wr.heap.size, 0, Option.none⟩ 1 1 [.int .i64 k] rfl rfl ?c1 ?c2 ?c3 ?c4 ?c5 ?_)
        case c1 =>
          intro j u hj
          match j, hj with
          | 0, hj => simp at hj; subst hj; simp [Addr.add]
        case c2 => intro u hu; simp at hu; subst hu; rfl
        case c3 => unfold maxLen; omega
        case c4 => omega
        case c5 => have := hB.size; simp; omega
        intro v2 w2 hown2 hgrow2 hnil2
        have hlt2 := HO.out.lt
        have hB2 : Below W0.heap.size W0 w2 := (hB.alloc (by have := hB.size; omega) _).grown hgrow2 (by have := hB.size; simp; omega) (fun q hq => (hlt2 q hq).1)
        have HN : Hid (w2.ownsRow W0.heap.size 3 1 v2 (frL p true (k + 1)).length ((frL p true (k + 1)).map (Value.int .i64))) := by
          show w2.ownsRow W0.heap.size 3 1 v2 (frL p true (k + 1)).length ((frL p true (k + 1)).map (Value.int .i64))
          rw [frL_hit hf]
          simpa using hown2
        clear hown2 hgrow2 hnil2 hlt2
        go_wp2_with fail
        go_roundw
        case rel => exact ⟨k + 1, by omega, by go_num, HN.out, hB2⟩
        case measure => simp [intOf]; omega
    · have hkn : k = p.nb := by omega
      subst hkn
      go_wp2_with fail
      go_loopw [3, 5] (fun v i wk => ∃ k : Nat, k ≤ p.nb ∧ i = .int .i64 k ∧ wk.ownsRow W0.heap.size 3 1 v (frL p true p.nb ++ frL p false k).length ((frL p true p.nb ++ frL p false k).map (Value.int .i64)) ∧ Below W0.heap.size W0 wk) (fun _ i _ => p.nb - (intOf i).toNat)
      case atStart => exact ⟨0, Nat.zero_le _, rfl, by simpa [frL] using HO.out, hB⟩
      case round =>
        clear HO hB c0 hlt0 hk hlt
        obtain ⟨k, hk, rfl, ho, hB⟩ := hrel
        obtain ⟨c0, hlt0⟩ := HC.out _ hB
        have HO : Hid (wr.ownsRow W0.heap.size 3 1 u3 (frL p true p.nb ++ frL p false k).length ((frL p true p.nb ++ frL p false k).map (Value.int .i64))) := ho
        clear ho
        by_cases hlt : k < p.nb
        · obtain ⟨b, o, hab, hb, z0, z1, z2, z3⟩ := (HP.out _ hB).bins k hlt
          rw [hab] at c0
          clear hab
          have m1 : (0 : Int) ≤ (k : Int) := by omega
          cases hf : (p.zb k).front
          · rw [hf] at z0
            have hfl := frL_len p false k
            have hfl2 := frL_len p true p.nb
            go_wp2_with (at_builtin; refine wpList_append_own _ rfl (.tmp 37) (.tmp 39) 23 rfl W0.heap.size 3 i1 (.int .i64 0) 1 8 Try.underlying23 hj hy0 hy1 hy2 rfl (by decide) _ _ _ rfl (HO.out.alloc _) ⟨wr.heap.size, 0, Option.none⟩ 1 1 [.int .i64 k] rfl rfl ?c1 ?c2 ?c3 ?c4 ?c5 ?_)
            case c1 =>
              intro j u hj
              match j, hj with
              | 0, hj => simp at hj; subst hj; simp [Addr.add]
            case c2 => intro u hu; simp at hu; subst hu; rfl
            case c3 => rw [List.length_append]; unfold maxLen; omega
            case c4 => rw [List.length_append]; omega
            case c5 => have := hB.size; simp; omega
            intro v2 w2 hown2 hgrow2 hnil2
            have hlt2 := HO.out.lt
            have hB2 : Below W0.heap.size W0 w2 := (hB.alloc (by have := hB.size; omega) _).grown hgrow2 (by have := hB.size; simp; omega) (fun q hq => (hlt2 q hq).1)
            have HN : Hid (w2.ownsRow W0.heap.size 3 1 v2 (frL p true p.nb ++ frL p false (k + 1)).length ((frL p true p.nb ++ frL p false (k + 1)).map (Value.int .i64))) := by
              show w2.ownsRow W0.heap.size 3 1 v2 (frL p true p.nb ++ frL p false (k + 1)).length ((frL p true p.nb ++ frL p false (k + 1)).map (Value.int .i64))
              rw [frL_hit hf]
              simpa [Nat.add_assoc] using hown2
            clear hown2 hgrow2 hnil2 hlt2
            go_wp2_with fail
            go_roundw
            case rel => exact ⟨k + 1, by omega, by go_num, HN.out, hB2⟩
            case measure => simp [intOf]; omega
          · rw [hf] at z0
            go_wp2_with fail
            go_roundw
            case rel => exact ⟨k + 1, by omega, by go_num, by rw [frL_miss (by rw [hf]; decide)]; exact HO.out, hB⟩
            case measure => simp [intOf]; omega
        · go_wp2_with fail
          go_ret
          have hkn : k = p.nb := by omega
          subst hkn
          exact ⟨_, rfl, ⟨HO.out.1, HO.out.2.imp_right fun ⟨g, cap, cur, h1, h2, h3⟩ => ⟨g, cap, cur, h1, Nat.le_trans hB0.size h2, h3⟩⟩, hB0.trans (hB.mono hB0.size)⟩
end Go.Proofs.Ytbcacebifpagpac
namespace Go.Proofs.Ytbcacebifpagpac
open Go.RowKit
set_option linter.unusedVariables false
def wayB (p : Pl) (x : Int) : Bool := (p.zb x.toNat).front
theorem frL_mem {p : Pl} {f : Bool} {k : Nat} {x : Int} (h : x ∈ frL p f k) : 0 ≤ x ∧ x < k ∧ wayB p x = f := by
  simp only [frL, List.mem_map, List.mem_filter, List.mem_range, beq_iff_eq] at h
  obtain ⟨i, ⟨hi, hf⟩, rfl⟩ := h
  exact ⟨Int.natCast_nonneg _, by simp only [Int.ofNat_eq_natCast]; omega, hf⟩
theorem frL_pw (p : Pl) (f : Bool) : ∀ k, (frL p f k).Pairwise (· < ·)
  | 0 => by simp [frL]
  | k + 1 => by
    by_cases h : (p.zb k).front = f
    · rw [frL_hit h, List.pairwise_append]
      refine ⟨frL_pw p f k, List.pairwise_singleton _ _, fun x hx y hy => ?_⟩
      rw [List.mem_singleton] at hy
      have := (frL_mem hx).2.1
      omega
    · rw [frL_miss h]; exact frL_pw p f k
theorem frL_two (p : Pl) : ∀ k, (frL p true k).length + (frL p false k).length = k
  | 0 => by simp [frL]
  | k + 1 => by
    have ih := frL_two p k
    cases h : (p.zb k).front
    · rw [frL_hit h, frL_miss (by rw [h]; decide), List.length_append, List.length_singleton]; omega
    · rw [frL_hit h, frL_miss (by rw [h]; decide), List.length_append, List.length_singleton]; omega
theorem way_len (p : Pl) : (wayL p).length = p.nb := by
  unfold wayL
  rw [List.length_append, frL_two]
theorem way_mem {p : Pl} {x : Int} (h : x ∈ wayL p) : 0 ≤ x ∧ x < p.nb := by
  unfold wayL at h
  rw [List.mem_append] at h
  rcases h with h | h
  · exact ⟨(frL_mem h).1, (frL_mem h).2.1⟩
  · exact ⟨(frL_mem h).1, (frL_mem h).2.1⟩
theorem way_pw (p : Pl) : (wayL p).Pairwise (fun x y => ¬ x = y ∧ (wayB p y = true → wayB p x = true) ∧ (wayB p x = wayB p y → x < y)) := by
  unfold wayL
  rw [List.pairwise_append]
  refine ⟨?_, ?_, fun x hx y hy => ?_⟩
  · refine List.Pairwise.imp_of_mem ?_ (frL_pw p true p.nb)
    intro x y hx hy h
    exact ⟨by omega, fun _ => (frL_mem hx).2.2, fun _ => h⟩
  · refine List.Pairwise.imp_of_mem ?_ (frL_pw p false p.nb)
    intro x y hx hy h
    refine ⟨by omega, fun e => ?_, fun _ => h⟩
    rw [(frL_mem hy).2.2] at e; cases e
  · have a := (frL_mem hx).2.2
    have b := (frL_mem hy).2.2
    refine ⟨fun e => ?_, fun e => a, fun e => ?_⟩
    · rw [e, b] at a; cases a
    · rw [a, b] at e; cases e
def wayR (p : Pl) : List Int := if planE p = 0 then wayL p else []
theorem wayR_yes {p : Pl} (h : planE p = 0) : wayR p = wayL p := if_pos h
theorem wayR_no {p : Pl} (h : ¬ planE p = 0) : wayR p = [] := if_neg h
theorem owns_low {A A' : Nat} {w : World} {e : TypeId} {size : Nat} {v : Value} {n : Nat} {xs : List Value} (h : w.ownsRow A e size v n xs) (hA : A' ≤ A) : w.ownsRow A' e size v n xs :=
  ⟨h.1, h.2.imp_right fun ⟨g, cap, cur, h1, h2, h3⟩ => ⟨g, cap, cur, h1, Nat.le_trans hA h2, h3⟩⟩
end Go.Proofs.Ytbcacebifpagpac
namespace Go.Proofs.Ytbcacebifpagpac
open Go.RowKit Go.Shelf
set_option linter.unusedVariables false
def Cloned (A : Nat) (e : TypeId) (s : Hs) (w' : World) (s' : Hs) : Prop := s'.n = s.n ∧ (∀ j, j < s.n → s'.z j = s.z j) ∧ OwnH A e w' s' ∧ Room A w' e 4 s'.a s'.c
theorem OwnH.ofOwns {w : World} {base : Nat} {e : TypeId} {v : Value} {n : Nat} {z : Nat → Hd} (h : w.ownsRow base e 4 v n (flatH n z)) (hn : v ≠ .slice none 0 0) : ∃ s : Hs, v = s.val ∧ s.n = n ∧ s.z = z ∧ OwnH base e w s ∧ Room base w e 4 s.a s.c := by
  obtain ⟨g, c, rfl, h1, h2, h3, h4⟩ := Blk.ofOwns h hn
  exact ⟨⟨some ⟨g, 0, none⟩, n, c, z⟩, rfl, rfl, rfl, ⟨h1, h2, (fun e => by cases e), fun _ => ⟨g, rfl, h3, h4⟩⟩, Room.ofOwns h (Nat.le_refl _)⟩
theorem infoHoldC : (Try.prog.info? 65).map (fun i => (i.zero, i.size, i.bytes)) = some (some (.agg #[.int .i64 0, .int .i64 0, .int .i64 0, .int .i64 0]), 4, 32) := by kernel_rfl
set_option maxRecDepth 100000 in
set_option maxHeartbeats 1000000 in
theorem CloneHold_any (s : Hs) (w : World) (hs : s.At w) (hn : s.n ≤ 1000) :
    Calls Try.prog 90 #[s.val] w fun e w' => ∃ s' : Hs, e = .returned s'.val ∧ Cloned w.heap.size 65 s w' s' ∧ Below w.heap.size w w' := by
  obtain ⟨sle, scap, sh, snil⟩ := hs
  obtain ⟨sa, sn, sc, sz⟩ := s
  dsimp only at sle scap sh snil hn
  simp only [Hs.val]
  obtain ⟨i0, hi, hz0, hz1, hz2⟩ := info_parts infoHoldC
  have q22 : ∀ (w : World) (a : Option Addr) (n c n' c' : Nat), (binOp .eql 28 (.slice a n c) (.slice none n' c')).run Try.prog w = .ok (.bool a.isNone) w := fun w a n c n' c' => Lib.run_eql_slice_nil w _ _ a n c n' c' Try.underlying28
  cases sa with
  | none =>
    have hc0 := snil rfl
    subst hc0
    have hn0 : sn = 0 := by omega
    subst hn0
    go_enter Try.func90, Try.ntmps90
    go_wp2
    go_ret
    exact ⟨⟨none, 0, 0, sz⟩, rfl, ⟨rfl, fun j hj => rfl, ⟨Nat.le_refl _, Nat.zero_le _, fun _ => rfl, fun h => absurd h (Nat.lt_irrefl _)⟩, Or.inl rfl⟩, Below.refl _ _⟩
  | some ad =>
    have hnews : ∀ j u, (flatH sn sz)[j]? = some u → w.cell? (ad.add j) = some u ∧ (ad.add j).block < w.heap.size := fun j u hj => by
      have hlen := (List.getElem?_eq_some_iff.1 hj).1
      rw [flatH_len] at hlen
      obtain ⟨b, o, he, hb, -⟩ := sh 0 (by omega)
      simp only [Option.some.injEq] at he
      subst he
      exact ⟨HdsAt.news sh j u hj, by rw [Go.WideShapes.add_plain]; exact hb⟩
    have HN : Hid (∀ j u, (flatH sn sz)[j]? = some u → w.cell? (ad.add j) = some u ∧ (ad.add j).block < w.heap.size) := hnews
    clear hnews sh snil
    go_enter Try.func90, Try.ntmps90
    go_wp2_with (at_builtin; refine wpList_append_own _ rfl _ _ 28 rfl w.heap.size 65 i0 (.agg #[.int .i64 0, .int .i64 0, .int .i64 0, .int .i64 0]) 4 32 Try.underlying28 hi hz0 hz1 hz2 rfl (by decide) _ _ _ rfl (World.ownsRow_made w #[] 0 (Nat.le_refl _) (Nat.zero_le _) rfl) ad sn sc (flatH sn sz) rfl ?qc1 ?qc2 ?qc3 ?qc4 ?qc5 ?qc6 ?_)
    case qc1 => rw [flatH_len]
    case qc2 =>
      intro j u hj
      have := HN.out j u hj
      rw [((Below.refl w.heap.size w).alloc (Nat.le_refl _) _).cell (p := ad.add j) this.2]
      exact this.1
    case qc3 => exact flatH_one sn sz
    case qc4 => unfold maxLen; omega
    case qc5 => omega
    case qc6 => simp
    intro v' w1 hown hgrow hnil
    have hB : Below w.heap.size w w1 := ((Below.refl _ w).alloc (Nat.le_refl _) _).grown hgrow (by simp) (by intro k hk; simp [Value.ownBlock] at hk; omega)
    obtain ⟨s', rfl, e1, e2, e3⟩ := OwnH.ofOwns hown hnil
    clear hown hgrow hnil
    have HR : Hid (s'.n = sn ∧ s'.z = sz ∧ OwnH w.heap.size 65 w1 s' ∧ Room w.heap.size w1 65 4 s'.a s'.c) := ⟨e1, e2, e3⟩
    clear e1 e2 e3
    simp only [Hs.val]
    go_wp2
    go_ret
    exact ⟨s', rfl, ⟨HR.out.1, fun j _ => by rw [HR.out.2.1], HR.out.2.2⟩, hB⟩
theorem infoMoveC : (Try.prog.info? 70).map (fun i => (i.zero, i.size, i.bytes)) = some (some (.agg #[.int .i64 0, .int .i64 0, .int .i64 0, .int .i64 0]), 4, 32) := by kernel_rfl
set_option maxRecDepth 100000 in
set_option maxHeartbeats 1000000 in
theorem CloneMove_any (s : Hs) (w : World) (hs : s.At w) (hn : s.n ≤ 1000) :
    Calls Try.prog 91 #[s.val] w fun e w' => ∃ s' : Hs, e = .returned s'.val ∧ Cloned w.heap.size 70 s w' s' ∧ Below w.heap.size w w' := by
  obtain ⟨sle, scap, sh, snil⟩ := hs
  obtain ⟨sa, sn, sc, sz⟩ := s
  dsimp only at sle scap sh snil hn
  simp only [Hs.val]
  obtain ⟨i0, hi, hz0, hz1, hz2⟩ := info_parts infoMoveC
  have q22 : ∀ (w : World) (a : Option Addr) (n c n' c' : Nat), (binOp .eql 29 (.slice a n c) (.slice none n' c')).run Try.prog w = .ok (.bool a.isNone) w := fun w a n c n' c' => Lib.run_eql_slice_nil w _ _ a n c n' c' Try.underlying29
  cases sa with
  | none =>
    have hc0 := snil rfl
    subst hc0
    have hn0 : sn = 0 := by omega
    subst hn0
    go_enter Try.func91, Try.ntmps91
    go_wp2
    go_ret
    exact ⟨⟨none, 0, 0, sz⟩, rfl, ⟨rfl, fun j hj => rfl, ⟨Nat.le_refl _, Nat.zero_le _, fun _ => rfl, fun h => absurd h (Nat.lt_irrefl _)⟩, Or.inl rfl⟩, Below.refl _ _⟩
  | some ad =>
    have hnews : ∀ j u, (flatH sn sz)[j]? = some u → w.cell? (ad.add j) = some u ∧ (ad.add j).block < w.heap.size := fun j u hj => by
      have hlen := (List.getElem?_eq_some_iff.1 hj).1
      rw [flatH_len] at hlen
      obtain ⟨b, o, he, hb, -⟩ := sh 0 (by omega)
      simp only [Option.some.injEq] at he
      subst he
      exact ⟨HdsAt.news sh j u hj, by rw [Go.WideShapes.add_plain]; exact hb⟩
    have HN : Hid (∀ j u, (flatH sn sz)[j]? = some u → w.cell? (ad.add j) = some u ∧ (ad.add j).block < w.heap.size) := hnews
    clear hnews sh snil
    go_enter Try.func91, Try.ntmps91
    go_wp2_with (at_builtin; refine wpList_append_own _ rfl _ _ 29 rfl w.heap.size 70 i0 (.agg #[.int .i64 0, .int .i64 0, .int .i64 0, .int .i64 0]) 4 32 Try.underlying29 hi hz0 hz1 hz2 rfl (by decide) _ _ _ rfl (World.ownsRow_made w #[] 0 (Nat.le_refl _) (Nat.zero_le _) rfl) ad sn sc (flatH sn sz) rfl ?qc1 ?qc2 ?qc3 ?qc4 ?qc5 ?qc6 ?_)
    case qc1 => rw [flatH_len]
    case qc2 =>
      intro j u hj
      have := HN.out j u hj
      rw [((Below.refl w.heap.size w).alloc (Nat.le_refl _) _).cell (p := ad.add j) this.2]
      exact this.1
    case qc3 => exact flatH_one sn sz
    case qc4 => unfold maxLen; omega
    case qc5 => omega
    case qc6 => simp
    intro v' w1 hown hgrow hnil
    have hB : Below w.heap.size w w1 := ((Below.refl _ w).alloc (Nat.le_refl _) _).grown hgrow (by simp) (by intro k hk; simp [Value.ownBlock] at hk; omega)
    obtain ⟨s', rfl, e1, e2, e3⟩ := OwnH.ofOwns hown hnil
    clear hown hgrow hnil
    have HR : Hid (s'.n = sn ∧ s'.z = sz ∧ OwnH w.heap.size 70 w1 s' ∧ Room w.heap.size w1 70 4 s'.a s'.c) := ⟨e1, e2, e3⟩
    clear e1 e2 e3
    simp only [Hs.val]
    go_wp2
    go_ret
    exact ⟨s', rfl, ⟨HR.out.1, fun j _ => by rw [HR.out.2.1], HR.out.2.2⟩, hB⟩
theorem infoLineC : (Try.prog.info? 53).map (fun i => (i.zero, i.size, i.bytes)) = some (some (.agg #[.int .i64 0, .int .i64 0, .int .i64 0, .int .i64 0]), 4, 32) := by kernel_rfl
set_option maxRecDepth 100000 in
set_option maxHeartbeats 1000000 in
theorem CloneLine_any (s : Hs) (w : World) (hs : s.At w) (hn : s.n ≤ 1000) :
    Calls Try.prog 64 #[s.val] w fun e w' => ∃ s' : Hs, e = .returned s'.val ∧ Cloned w.heap.size 53 s w' s' ∧ Below w.heap.size w w' := by
  obtain ⟨sle, scap, sh, snil⟩ := hs
  obtain ⟨sa, sn, sc, sz⟩ := s
  dsimp only at sle scap sh snil hn
  simp only [Hs.val]
  obtain ⟨i0, hi, hz0, hz1, hz2⟩ := info_parts infoLineC
  have q22 : ∀ (w : World) (a : Option Addr) (n c n' c' : Nat), (binOp .eql 49 (.slice a n c) (.slice none n' c')).run Try.prog w = .ok (.bool a.isNone) w := fun w a n c n' c' => Lib.run_eql_slice_nil w _ _ a n c n' c' Try.underlying49
  cases sa with
  | none =>
    have hc0 := snil rfl
    subst hc0
    have hn0 : sn = 0 := by omega
    subst hn0
    go_enter Try.func64, Try.ntmps64
    go_wp2
    go_ret
    exact ⟨⟨none, 0, 0, sz⟩, rfl, ⟨rfl, fun j hj => rfl, ⟨Nat.le_refl _, Nat.zero_le _, fun _ => rfl, fun h => absurd h (Nat.lt_irrefl _)⟩, Or.inl rfl⟩, Below.refl _ _⟩
  | some ad =>
    have hnews : ∀ j u, (flatH sn sz)[j]? = some u → w.cell? (ad.add j) = some u ∧ (ad.add j).block < w.heap.size := fun j u hj => by
      have hlen := (List.getElem?_eq_some_iff.1 hj).1
      rw [flatH_len] at hlen
      obtain ⟨b, o, he, hb, -⟩ := sh 0 (by omega)
      simp only [Option.some.injEq] at he
      subst he
      exact ⟨HdsAt.news sh j u hj, by rw [Go.WideShapes.add_plain]; exact hb⟩
    have HN : Hid (∀ j u, (flatH sn sz)[j]? = some u → w.cell? (ad.add j) = some u ∧ (ad.add j).block < w.heap.size) := hnews
    clear hnews sh snil
    go_enter Try.func64, Try.ntmps64
    go_wp2_with (at_builtin; refine wpList_append_own _ rfl _ _ 49 rfl w.heap.size 53 i0 (.agg #[.int .i64 0, .int .i64 0, .int .i64 0, .int .i64 0]) 4 32 Try.underlying49 hi hz0 hz1 hz2 rfl (by decide) _ _ _ rfl (World.ownsRow_made w #[] 0 (Nat.le_refl _) (Nat.zero_le _) rfl) ad sn sc (flatH sn sz) rfl ?qc1 ?qc2 ?qc3 ?qc4 ?qc5 ?qc6 ?_)
    case qc1 => rw [flatH_len]
    case qc2 =>
      intro j u hj
      have := HN.out j u hj
      rw [((Below.refl w.heap.size w).alloc (Nat.le_refl _) _).cell (p := ad.add j) this.2]
      exact this.1
    case qc3 => exact flatH_one sn sz
    case qc4 => unfold maxLen; omega
    case qc5 => omega
    case qc6 => simp
    intro v' w1 hown hgrow hnil
    have hB : Below w.heap.size w w1 := ((Below.refl _ w).alloc (Nat.le_refl _) _).grown hgrow (by simp) (by intro k hk; simp [Value.ownBlock] at hk; omega)
    obtain ⟨s', rfl, e1, e2, e3⟩ := OwnH.ofOwns hown hnil
    clear hown hgrow hnil
    have HR : Hid (s'.n = sn ∧ s'.z = sz ∧ OwnH w.heap.size 53 w1 s' ∧ Room w.heap.size w1 53 4 s'.a s'.c) := ⟨e1, e2, e3⟩
    clear e1 e2 e3
    simp only [Hs.val]
    go_wp2
    go_ret
    exact ⟨s', rfl, ⟨HR.out.1, fun j _ => by rw [HR.out.2.1], HR.out.2.2⟩, hB⟩
end Go.Proofs.Ytbcacebifpagpac
namespace Go.Proofs.Ytbcacebifpagpac
open Go.RowKit Go.Shelf
set_option linter.unusedVariables false
def odCells (x : Od) : List Value := [.int .i64 x.k, .slice x.ls.a x.ls.n x.ls.c]
def flatO : Nat → (Nat → Od) → List Value
  | 0, _ => []
  | n + 1, z => flatO n z ++ odCells (z n)
theorem flatO_len : ∀ (n : Nat) (z : Nat → Od), (flatO n z).length = n * 2
  | 0, _ => rfl
  | n + 1, z => by rw [flatO, List.length_append, flatO_len n z]; simp [odCells]; omega
theorem flatO_get : ∀ (n : Nat) (z : Nat → Od) (i c : Nat), i < n → c < 2 → (flatO n z)[i * 2 + c]? = (odCells (z i))[c]?
  | 0, _, i, c, hi, _ => absurd hi (Nat.not_lt_zero _)
  | n + 1, z, i, c, hi, hc => by
    rw [flatO]
    by_cases h : i = n
    · subst h
      rw [List.getElem?_append_right (by rw [flatO_len]; omega), flatO_len]
      congr 1
      omega
    · rw [List.getElem?_append_left (by rw [flatO_len]; omega)]
      exact flatO_get n z i c (by omega) hc
theorem flatO_at {n : Nat} {z : Nat → Od} {i c : Nat} (hi : i < n) (hc : c < 2) : (flatO n z).getD (i * 2 + c) default = (odCells (z i)).getD c default := by
  simp only [List.getD, flatO_get n z i c hi hc]
theorem flatO_one : ∀ (n : Nat) (z : Nat → Od), ∀ u ∈ flatO n z, u.oneCell' = true
  | 0, _, u, hu => by simp [flatO] at hu
  | n + 1, z, u, hu => by
    rw [flatO, List.mem_append] at hu
    rcases hu with hu | hu
    · exact flatO_one n z u hu
    · simp only [odCells, List.mem_cons, List.not_mem_nil, or_false] at hu
      rcases hu with rfl | rfl <;> rfl
theorem OdsAt.news {w : World} {b o n : Nat} {z : Nat → Od} (h : OdsAt w (some ⟨b, o, none⟩) n z) : ∀ j u, (flatO n z)[j]? = some u → w.cell? ((⟨b, o, none⟩ : Addr).add j) = some u := by
  intro j u hj
  have hlen := (List.getElem?_eq_some_iff.1 hj).1
  rw [flatO_len] at hlen
  obtain ⟨b', o', he, hb, h0, h1, -⟩ := h (j / 2) (by omega)
  simp only [Option.some.injEq, Addr.mk.injEq, and_true] at he
  obtain ⟨rfl, rfl⟩ := he
  rw [Go.WideShapes.add_plain]
  have hd : j = j / 2 * 2 + j % 2 := by omega
  rw [hd, flatO_get n z (j / 2) (j % 2) (by omega) (by omega)] at hj
  have h2 : j % 2 = 0 ∨ j % 2 = 1 := by omega
  rcases h2 with h2 | h2
  · rw [h2] at hj; simp [odCells] at hj; rw [← hj, ← h0]; congr 2; omega
  · rw [h2] at hj; simp [odCells] at hj; rw [← hj, ← h1]; congr 2; omega
theorem infoOrderC : (Try.prog.info? 51).map (fun i => (i.zero, i.size, i.bytes)) = some (some (.agg #[.int .i64 0, .slice none 0 0]), 2, 32) := by kernel_rfl
def ClonedO (s : Os) (A : Nat) (w' : World) (a' : Option Addr) (c' : Nat) : Prop := s.n ≤ c' ∧ c' ≤ maxLen ∧ (0 < s.n → ∃ g, a' = some ⟨g, 0, none⟩ ∧ A ≤ g ∧ Blk w' g 51 (s.n * 2) (fun j => (flatO s.n s.z).getD j default)) ∧ Room A w' 51 2 a' c'
set_option maxRecDepth 100000 in
set_option maxHeartbeats 1000000 in
theorem CloneOrder_any (s : Os) (w : World) (hs : s.At w) (hn : s.n ≤ 1000) :
    Calls Try.prog 114 #[s.val] w fun e w' => ∃ a' c', e = .returned (.slice a' s.n c') ∧ ClonedO s w.heap.size w' a' c' ∧ Below w.heap.size w w' := by
  obtain ⟨sle, scap, sh⟩ := hs
  obtain ⟨sa, sn, sc, sz⟩ := s
  dsimp only at sle scap sh hn
  simp only [Os.val]
  obtain ⟨i0, hi, hz0, hz1, hz2⟩ := info_parts infoOrderC
  have q22 : ∀ (w : World) (a : Option Addr) (n c n' c' : Nat), (binOp .eql 27 (.slice a n c) (.slice none n' c')).run Try.prog w = .ok (.bool a.isNone) w := fun w a n c n' c' => Lib.run_eql_slice_nil w _ _ a n c n' c' Try.underlying27
  cases sa with
  | none =>
    have hn0 : sn = 0 := by
      rcases Nat.eq_zero_or_pos sn with h | h
      · exact h
      · obtain ⟨b, o, he, _⟩ := sh 0 h
        cases he
    subst hn0
    go_enter Try.func114, Try.ntmps114
    go_wp2
    go_ret
    exact ⟨none, 0, rfl, ⟨Nat.le_refl _, Nat.zero_le _, fun h => absurd h (Nat.lt_irrefl _), Or.inl rfl⟩, Below.refl _ _⟩
  | some ad =>
    have HN : Hid (∀ j u, (flatO sn sz)[j]? = some u → w.cell? (ad.add j) = some u ∧ (ad.add j).block < w.heap.size) := fun j u hj => by
      have hlen := (List.getElem?_eq_some_iff.1 hj).1
      rw [flatO_len] at hlen
      obtain ⟨b, o, he, hb, -⟩ := sh 0 (by omega)
      simp only [Option.some.injEq] at he
      subst he
      exact ⟨OdsAt.news sh j u hj, by rw [Go.WideShapes.add_plain]; exact hb⟩
    clear sh
    go_enter Try.func114, Try.ntmps114
    go_wp2_with (at_builtin; refine wpList_append_own _ rfl _ _ 27 rfl w.heap.size 51 i0 (.agg #[.int .i64 0, .slice none 0 0]) 2 32 Try.underlying27 hi hz0 hz1 hz2 rfl (by decide) _ _ _ rfl (World.ownsRow_made w #[] 0 (Nat.le_refl _) (Nat.zero_le _) rfl) ad sn sc (flatO sn sz) rfl ?qc1 ?qc2 ?qc3 ?qc4 ?qc5 ?qc6 ?_)
    case qc1 => rw [flatO_len]
    case qc2 =>
      intro j u hj
      have := HN.out j u hj
      rw [((Below.refl w.heap.size w).alloc (Nat.le_refl _) _).cell (p := ad.add j) this.2]
      exact this.1
    case qc3 => exact flatO_one sn sz
    case qc4 => unfold maxLen; omega
    case qc5 => omega
    case qc6 => simp
    intro v' w1 hown hgrow hnil
    have hB : Below w.heap.size w w1 := ((Below.refl _ w).alloc (Nat.le_refl _) _).grown hgrow (by simp) (by intro k hk; simp [Value.ownBlock] at hk; omega)
    obtain ⟨g, c', rfl, h1, h2, h3, h4⟩ := Blk.ofOwns hown hnil
    have hroom := Room.ofOwns hown (Nat.le_refl _)
    clear hown hgrow hnil
    have HR : Hid (ClonedO ⟨some ad, sn, sc, sz⟩ w.heap.size w1 (some ⟨g, 0, none⟩) c') := ⟨h1, h2, fun _ => ⟨g, rfl, h3, h4⟩, hroom⟩
    clear h4 hroom
    go_wp2
    go_ret
    exact ⟨some ⟨g, 0, none⟩, c', rfl, HR.out, hB⟩
structure OwnO (A : Nat) (w : World) (s : Os) : Prop where
  le : s.n ≤ s.c
  cap : s.c ≤ maxLen
  list : 0 < s.n → ∃ g, s.a = some ⟨g, 0, none⟩ ∧ A ≤ g ∧ Blk w g 51 (s.n * 2) (fun j => (flatO s.n s.z).getD j default)
  lines : ∀ i, i < s.n → ∃ B, (s.z i).ls.a = some ⟨B, 0, none⟩ ∧ A ≤ B ∧ (s.z i).ls.n ≤ (s.z i).ls.c ∧ (s.z i).ls.c ≤ maxLen ∧ Blk w B 53 ((s.z i).ls.n * 4) (fun j => (flatH (s.z i).ls.n (s.z i).ls.z).getD j default)
  apart : ∀ i j, i < j → j < s.n → (s.z i).ls.a ≠ (s.z j).ls.a
  room : Room A w 51 2 s.a s.c
theorem OwnO.at {A : Nat} {w : World} {s : Os} (h : OwnO A w s) : s.At w := by
  refine ⟨h.le, h.cap, fun i hi => ?_⟩
  obtain ⟨g, ha, hA, hb⟩ := h.list (by omega)
  obtain ⟨B, hl, hA2, l1, l2, hb2⟩ := h.lines i hi
  have c0 := hb.cell (j := i * 2) (by omega)
  have c1 := hb.cell (j := i * 2 + 1) (by omega)
  have e0 := flatO_at (z := s.z) hi (show 0 < 2 by decide)
  have e1 := flatO_at (z := s.z) hi (show 1 < 2 by decide)
  rw [Nat.add_zero] at e0
  rw [e0] at c0
  rw [e1] at c1
  refine ⟨g, 0, ha, hb.lt, by rw [Nat.zero_add]; exact c0, by rw [Nat.zero_add]; exact c1, ?_⟩
  exact OwnH.at (A := A) (e := 53) ⟨l1, l2, (fun e => by rw [hl] at e; cases e), fun _ => ⟨B, hl, hA2, hb2⟩⟩
def SameO (s t : Os) : Prop := s.n = t.n ∧ ∀ i, i < s.n → (s.z i).k = (t.z i).k ∧ (s.z i).ls.n = (t.z i).ls.n ∧ ∀ j, j < (s.z i).ls.n → (s.z i).ls.z j = (t.z i).ls.z j
def mixO (s : Os) (k : Nat) (B C : Nat → Nat) (i : Nat) : Od := if i < k then ⟨(s.z i).k, ⟨some ⟨B i, 0, none⟩, (s.z i).ls.n, C i, (s.z i).ls.z⟩⟩ else s.z i
def CopL (s : Os) (A : Nat) (a' : Option Addr) (c' k : Nat) (wk : World) : Prop := Room A wk 51 2 a' c' ∧ ∃ B C : Nat → Nat, (0 < s.n → ∃ g, a' = some ⟨g, 0, none⟩ ∧ A ≤ g ∧ Blk wk g 51 (s.n * 2) (fun j => (flatO s.n (mixO s k B C)).getD j default)) ∧
  (∀ i, i < k → A ≤ B i ∧ (s.z i).ls.n ≤ C i ∧ C i ≤ maxLen ∧ Blk wk (B i) 53 ((s.z i).ls.n * 4) (fun j => (flatH (s.z i).ls.n (s.z i).ls.z).getD j default)) ∧ (∀ i j, i < j → j < k → B i < B j)
theorem flatO_congr : ∀ {n : Nat} {z z' : Nat → Od}, (∀ i, i < n → odCells (z i) = odCells (z' i)) → flatO n z = flatO n z'
  | 0, _, _, _ => rfl
  | n + 1, z, z', h => by rw [flatO, flatO, flatO_congr (n := n) fun i hi => h i (by omega), h n (by omega)]
theorem mix_step {s : Os} {k : Nat} {B C : Nat → Nat} {gB cB : Nat} (hk : k < s.n) (j : Nat) (hj : j < s.n * 2) :
    (if j = k * 2 + 1 then Value.slice (some ⟨gB, 0, none⟩) (s.z k).ls.n cB else (flatO s.n (mixO s k B C)).getD j default) = (flatO s.n (mixO s (k + 1) (fun i => if i = k then gB else B i) (fun i => if i = k then cB else C i))).getD j default := by
  have hd : j = j / 2 * 2 + j % 2 := by omega
  have h2 : j % 2 = 0 ∨ j % 2 = 1 := by omega
  have hi : j / 2 < s.n := by omega
  have e1 := flatO_at (z := mixO s k B C) hi (show j % 2 < 2 by omega)
  have e2 := flatO_at (z := mixO s (k + 1) (fun i => if i = k then gB else B i) (fun i => if i = k then cB else C i)) hi (show j % 2 < 2 by omega)
  rw [← hd] at e1 e2
  rw [e1, e2]
  by_cases hjk : j / 2 = k
  · have m1 : mixO s k B C (j / 2) = s.z k := by unfold mixO; rw [if_neg (by omega), hjk]
    have m2 : mixO s (k + 1) (fun i => if i = k then gB else B i) (fun i => if i = k then cB else C i) (j / 2) = ⟨(s.z k).k, ⟨some ⟨gB, 0, none⟩, (s.z k).ls.n, cB, (s.z k).ls.z⟩⟩ := by unfold mixO; rw [if_pos (by omega)]; simp [hjk]
    rw [m1, m2]
    rcases h2 with h2 | h2
    · rw [if_neg (by omega), h2]; rfl
    · rw [if_pos (by omega), h2]; rfl
  · rw [if_neg (by omega)]
    have m : mixO s k B C (j / 2) = mixO s (k + 1) (fun i => if i = k then gB else B i) (fun i => if i = k then cB else C i) (j / 2) := by
      unfold mixO
      by_cases hlt : j / 2 < k
      · rw [if_pos hlt, if_pos (by omega)]; simp [hjk]
      · rw [if_neg hlt, if_neg (by omega)]
    rw [m]
set_option maxRecDepth 100000 in
set_option maxHeartbeats 2000000 in
theorem copyOrders_any (s : Os) (w : World) (hs : s.At w) (hn : s.n ≤ 1000) (hl : ∀ i, i < s.n → 1 ≤ (s.z i).ls.n ∧ (s.z i).ls.n ≤ 3) :
    Calls Try.prog 89 #[s.val] w fun e w' => ∃ s' : Os, e = .returned s'.val ∧ SameO s' s ∧ OwnO w.heap.size w' s' ∧ Below w.heap.size w w' := by
  have HS : Hid (s.At w) := hs
  have HL : Hid (∀ i, i < s.n → 1 ≤ (s.z i).ls.n ∧ (s.z i).ls.n ≤ 3) := hl
  have sle := hs.le
  have scap := hs.cap
  unfold maxLen at scap
  clear hs hl
  simp only [Os.val]
  go_enter Try.func89, Try.ntmps89
  go_wp2_with fail
  refine (CloneOrder_any s w HS.out hn).mono ?_
  rintro e w1 ⟨a', c', rfl, hcl, hB1⟩
  have HCL : Hid (ClonedO s w.heap.size w1 a' c') := hcl
  clear hcl
  have c1 := HCL.out.1
  have c2 := HCL.out.2.1
  unfold maxLen at c2
  go_wp2_with fail
  go_loopw [10] (fun i wk => ∃ k : Nat, k ≤ s.n ∧ i = .int .i64 k ∧ Hid (CopL s w.heap.size a' c' k wk) ∧ Below w.heap.size w wk) (fun i _ => s.n - (intOf i).toNat)
  case atStart =>
    refine ⟨0, Nat.zero_le _, rfl, ⟨HCL.out.2.2.2, fun _ => 0, fun _ => 0, fun h => ?_, fun i hi => absurd hi (Nat.not_lt_zero _), fun i j _ hj => absurd hj (Nat.not_lt_zero _)⟩, hB1⟩
    obtain ⟨g, e1, e2, e3⟩ := HCL.out.2.2.1 h
    exact ⟨g, e1, e2, e3.congr (fun j hj => by rw [flatO_congr (z' := mixO s 0 (fun _ => 0) (fun _ => 0)) fun i hi => by unfold mixO; rw [if_neg (by omega)]])⟩
  case round =>
    clear hB1
    obtain ⟨k, hk, rfl, HG, hB⟩ := hrel
    by_cases hlt : k < s.n
    · obtain ⟨b, o, hoa, hb, z0, z1, hlk⟩ := (HS.out.below hB).ods k hlt
      have qk : (0 : Int) ≤ (k : Int) := by omega
      obtain ⟨hroom, B, C, hgl, hrow, hinc⟩ := HG.out
      have HRM : Hid (Room w.heap.size wr 51 2 a' c') := hroom
      obtain ⟨g, ha', hA, gb⟩ := hgl (by omega)
      have HR : Hid ((∀ i, i < k → w.heap.size ≤ B i ∧ (s.z i).ls.n ≤ C i ∧ C i ≤ maxLen ∧ Blk wr (B i) 53 ((s.z i).ls.n * 4) (fun j => (flatH (s.z i).ls.n (s.z i).ls.z).getD j default)) ∧ (∀ i j, i < j → j < k → B i < B j) ∧ a' = some ⟨g, 0, none⟩) := ⟨hrow, hinc, ha'⟩
      have HGB : Hid (Blk wr g 51 (s.n * 2) (fun j => (flatO s.n (mixO s k B C)).getD j default)) := gb
      have hn3 := HL.out k hlt
      have hBa := (Below.refl wr.heap.size wr).alloc (Nat.le_refl _) (.cells #[.int .i64 (s.z k).k, .slice (s.z k).ls.a (s.z k).ls.n (s.z k).ls.c] 51)
      have hlk2 := hlk.below hBa
      rw [hoa, ha']
      clear hoa ha' hgl hrow hinc gb HG hlk hroom
      go_wp2_with fail
      refine (CloneLine_any (s.z k).ls _ hlk2 (by omega)).mono ?_
      rintro e w2 ⟨s', rfl, hcl, hB2⟩
      obtain ⟨sa', sn', sc', sz'⟩ := s'
      obtain ⟨e1, e2, ⟨o1, o2, o3, o4⟩, -⟩ := hcl
      dsimp only at e1 e2 o1 o2 o3 o4
      subst e1
      obtain ⟨gB, e3, hgB, kB⟩ := o4 (by omega)
      subst e3
      have kB2 : Blk w2 gB 53 ((s.z k).ls.n * 4) (fun j => (flatH (s.z k).ls.n (s.z k).ls.z).getD j default) := kB.congr (fun j hj => by rw [flatH_congr e2])
      have hB12 := hBa.trans (hB2.mono hBa.size)
      have gb2 := HGB.out.below hB12
      have hsz := hBa.size
      have hf := gb2.frozen (k * 2 + 1)
      have hc := gb2.cell (j := k * 2 + 1) (by omega)
      rw [flatO_at (z := mixO s k B C) hlt (show 1 < 2 by decide)] at hc
      have hm : mixO s k B C k = s.z k := by unfold mixO; rw [if_neg (by omega)]
      rw [hm] at hc
      have hc2 : w2.cell? ⟨g, k * 2 + 1, none⟩ = some (.slice (s.z k).ls.a (s.z k).ls.n (s.z k).ls.c) := hc
      have hlg := gb2.lt
      have hBw2 := hB.trans (hB12.mono hB.size)
      have KB := gb2.set (k * 2 + 1) (.slice (some ⟨gB, 0, none⟩) (s.z k).ls.n sc')
      have HN : Hid (CopL s w.heap.size (some ⟨g, 0, none⟩) c' (k + 1) (w2.setCell ⟨g, k * 2 + 1, none⟩ (.slice (some ⟨gB, 0, none⟩) (s.z k).ls.n sc')) ∧ Below w.heap.size w (w2.setCell ⟨g, k * 2 + 1, none⟩ (.slice (some ⟨gB, 0, none⟩) (s.z k).ls.n sc'))) := by
        refine ⟨⟨(by have h := (HRM.out.below hB12).set g (k * 2 + 1) (.slice (some ⟨gB, 0, none⟩) (s.z k).ls.n sc'); rw [HR.out.2.2] at h; exact h), fun i => if i = k then gB else B i, fun i => if i = k then sc' else C i, fun _ => ⟨g, rfl, hA, KB.congr (fun j hj => mix_step hlt j hj)⟩, fun i hi => ?_, fun i j hij hj => ?_⟩, hBw2.setCell (p := ⟨g, k * 2 + 1, none⟩) hA _⟩
        · dsimp only
          by_cases hik : i = k
          · subst hik
            rw [if_pos rfl, if_pos rfl]
            exact ⟨by have := hB.size; omega, o1, o2, kB2.other (a := ⟨g, i * 2 + 1, none⟩) (Blk.ne2 kB2 gb2 (by decide)) _⟩
          · rw [if_neg hik, if_neg hik]
            obtain ⟨r1, r2, r3, r4⟩ := HR.out.1 i (by omega)
            have r5 := r4.below hB12
            exact ⟨r1, r2, r3, r5.other (a := ⟨g, k * 2 + 1, none⟩) (Blk.ne2 r5 gb2 (by decide)) _⟩
        · dsimp only
          by_cases hjk : j = k
          · subst hjk
            rw [if_neg (by omega), if_pos rfl]
            have := (HR.out.1 i hij).2.2.2.lt
            omega
          · rw [if_neg (by omega), if_neg hjk]
            exact HR.out.2.1 i j hij (by omega)
      clear KB kB kB2 gb2 hc hm hB12 HGB hB2 hlk2 hBw2
      simp only [Hs.val]
      go_wp2_with fail
      go_roundw
      case rel => exact ⟨k + 1, by omega, by go_num, HN.out.1, HN.out.2⟩
      case measure => simp [intOf]; omega
    · have hkn : k = s.n := by omega
      subst hkn
      go_wp2_with fail
      go_ret
      obtain ⟨hroom, B, C, hgl, hrow, hinc⟩ := HG.out
      refine ⟨⟨a', s.n, c', mixO s s.n B C⟩, rfl, ⟨rfl, fun i hi => ?_⟩, ⟨c1, HCL.out.2.1, hgl, fun i hi => ?_, fun i j hij hj => ?_, hroom⟩, hB⟩
      · have hi' : i < s.n := hi
        have m : mixO s s.n B C i = ⟨(s.z i).k, ⟨some ⟨B i, 0, none⟩, (s.z i).ls.n, C i, (s.z i).ls.z⟩⟩ := by unfold mixO; rw [if_pos hi']
        show (mixO s s.n B C i).k = _ ∧ (mixO s s.n B C i).ls.n = _ ∧ _
        rw [m]
        exact ⟨rfl, rfl, fun j _ => by show (mixO s s.n B C i).ls.z j = _; rw [m]⟩
      · have hi' : i < s.n := hi
        have m : mixO s s.n B C i = ⟨(s.z i).k, ⟨some ⟨B i, 0, none⟩, (s.z i).ls.n, C i, (s.z i).ls.z⟩⟩ := by unfold mixO; rw [if_pos hi']
        show ∃ B', (mixO s s.n B C i).ls.a = _ ∧ _ ∧ (mixO s s.n B C i).ls.n ≤ (mixO s s.n B C i).ls.c ∧ (mixO s s.n B C i).ls.c ≤ maxLen ∧ Blk _ B' _ ((mixO s s.n B C i).ls.n * 4) (fun j => (flatH (mixO s s.n B C i).ls.n (mixO s s.n B C i).ls.z).getD j default)
        rw [m]
        obtain ⟨r1, r2, r3, r4⟩ := hrow i hi'
        exact ⟨B i, rfl, r1, r2, r3, r4⟩
      · have hj' : j < s.n := hj
        show (mixO s s.n B C i).ls.a ≠ (mixO s s.n B C j).ls.a
        unfold mixO
        rw [if_pos (by omega), if_pos hj']
        have := hinc i j hij hj'
        simp only [ne_eq, Option.some.injEq, Addr.mk.injEq, and_true]
        omega
end Go.Proofs.Ytbcacebifpagpac
namespace Go.Proofs.Ytbcacebifpagpac
open Go.RowKit Go.Shelf Go.Sort
set_option linter.unusedVariables false
def NoneS (s : St) : Prop := s.on.n = 0 ∧ s.os.n = 0 ∧ s.hs.n = 0 ∧ s.ms.n = 0 ∧ s.si.n = 0 ∧ s.so.n = 0 ∧ s.sf.n = 0
def noneS : St := ⟨⟨none, 0, 0, fun _ => ⟨none, 0, 0, fun _ => 0⟩⟩, ⟨none, 0, 0, fun _ => ⟨0, ⟨none, 0, 0, fun _ => ⟨0, 0, 0, 0⟩⟩⟩⟩, ⟨none, 0, 0, fun _ => ⟨0, 0, 0, 0⟩⟩, ⟨none, 0, 0, fun _ => ⟨0, 0, 0, 0⟩⟩, ⟨none, 0, 0, fun _ => 0⟩, ⟨none, 0, 0, fun _ => 0⟩, ⟨none, 0, 0, fun _ => 0⟩⟩
theorem Rw.none (w : World) : Rw.At w ⟨.none, 0, 0, fun _ => 0⟩ := ⟨Nat.le_refl _, Nat.zero_le _, fun i hi => absurd hi (Nat.not_lt_zero _)⟩
theorem Hs.none (w : World) : Hs.At w ⟨.none, 0, 0, fun _ => ⟨0, 0, 0, 0⟩⟩ := ⟨Nat.le_refl _, Nat.zero_le _, fun i hi => absurd hi (Nat.not_lt_zero _), fun _ => rfl⟩
theorem noneS_at (w : World) : noneS.At w :=
  ⟨⟨Nat.le_refl _, Nat.zero_le _, fun i hi => absurd hi (Nat.not_lt_zero _)⟩, ⟨Nat.le_refl _, Nat.zero_le _, fun i hi => absurd hi (Nat.not_lt_zero _)⟩, Hs.none w, Hs.none w, Rw.none w, Rw.none w, Rw.none w⟩
def set7 (w : World) (b : Nat) (v0 v1 v2 v3 v4 v5 v6 : Value) : World :=
  ((((((w.setCell ⟨b, 0, none⟩ v0).setCell ⟨b, 1, none⟩ v1).setCell ⟨b, 2, none⟩ v2).setCell ⟨b, 3, none⟩ v3).setCell ⟨b, 4, none⟩ v4).setCell ⟨b, 5, none⟩ v5).setCell ⟨b, 6, none⟩ v6
theorem set7_blk {w : World} {b : Nat} {e : TypeId} {f : Nat → Value} (h : Blk w b e 7 f) (v0 v1 v2 v3 v4 v5 v6 : Value) : Blk (set7 w b v0 v1 v2 v3 v4 v5 v6) b e 7 (fun j => (#[v0, v1, v2, v3, v4, v5, v6] : Array Value).getD j default) :=
  (((((((h.set 0 v0).set 1 v1).set 2 v2).set 3 v3).set 4 v4).set 5 v5).set 6 v6).congr fun j hj => by match j, hj with | 0, _ => rfl | 1, _ => rfl | 2, _ => rfl | 3, _ => rfl | 4, _ => rfl | 5, _ => rfl | 6, _ => rfl
theorem set7_below {n : Nat} {A w : World} {b : Nat} (h : Below n A w) (hb : n ≤ b) (v0 v1 v2 v3 v4 v5 v6 : Value) : Below n A (set7 w b v0 v1 v2 v3 v4 v5 v6) :=
  ((((((h.setCell (p := ⟨b, 0, none⟩) hb v0).setCell (p := ⟨b, 1, none⟩) hb v1).setCell (p := ⟨b, 2, none⟩) hb v2).setCell (p := ⟨b, 3, none⟩) hb v3).setCell (p := ⟨b, 4, none⟩) hb v4).setCell (p := ⟨b, 5, none⟩) hb v5).setCell (p := ⟨b, 6, none⟩) hb v6
theorem box_cells {w : World} {b : Nat} {e : TypeId} {v0 v1 v2 v3 v4 v5 v6 : Value} (h : Blk w b e 7 (fun j => (#[v0, v1, v2, v3, v4, v5, v6] : Array Value).getD j default)) :
    w.cell? ⟨b, 0, none⟩ = some v0 ∧ w.cell? ⟨b, 1, none⟩ = some v1 ∧ w.cell? ⟨b, 2, none⟩ = some v2 ∧ w.cell? ⟨b, 3, none⟩ = some v3 ∧ w.cell? ⟨b, 4, none⟩ = some v4 ∧ w.cell? ⟨b, 5, none⟩ = some v5 ∧ w.cell? ⟨b, 6, none⟩ = some v6 :=
  ⟨h.cell (j := 0) (by decide), h.cell (j := 1) (by decide), h.cell (j := 2) (by decide), h.cell (j := 3) (by decide), h.cell (j := 4) (by decide), h.cell (j := 5) (by decide), h.cell (j := 6) (by decide)⟩
end Go.Proofs.Ytbcacebifpagpac
namespace Go.Proofs.Ytbcacebifpagpac
open Go.RowKit Go.Shelf Go.Sort
set_option linter.unusedVariables false
def OwnI (A : Nat) (w : World) (r : Rw) : Prop := ∃ g, r.a = some ⟨g, 0, none⟩ ∧ A ≤ g ∧ r.n ≤ r.c ∧ r.c ≤ maxLen ∧ Blk w g 3 r.n (fun j => .int .i64 (r.z j))
theorem OwnI.at {A : Nat} {w : World} {r : Rw} (h : OwnI A w r) : r.At w := by
  obtain ⟨g, ha, _, h1, h2, hb⟩ := h
  exact ⟨h1, h2, fun i hi => ⟨g, 0, ha, hb.lt, by rw [Nat.zero_add]; exact hb.cell hi⟩⟩
theorem OwnI.below {A : Nat} {w w' : World} {r : Rw} (h : OwnI A w r) (hB : Below w.heap.size w w') : OwnI A w' r := by
  obtain ⟨g, ha, h0, h1, h2, hb⟩ := h
  exact ⟨g, ha, h0, h1, h2, hb.below hB⟩
structure OwnS (A : Nat) (w : World) (s : St) : Prop where
  on : ∃ g, s.on.a = some ⟨g, 0, none⟩ ∧ A ≤ g ∧ s.on.n ≤ s.on.c ∧ s.on.c ≤ maxLen ∧ Blk w g 23 s.on.n (fun i => .slice (s.on.r i).a (s.on.r i).n (s.on.r i).c)
  rows : ∀ i, i < s.on.n → OwnI A w (s.on.r i)
  rapart : ∀ i j, i < j → j < s.on.n → (s.on.r i).a ≠ (s.on.r j).a
  os : OwnO A w s.os
  hs : OwnH A 65 w s.hs
  ms : OwnH A 70 w s.ms
  msr : Room A w 70 4 s.ms.a s.ms.c
  si : OwnI A w s.si
  so : OwnI A w s.so
  sf : OwnI A w s.sf
  aio : s.si.a ≠ s.so.a
  aif : s.si.a ≠ s.sf.a
  aof : s.so.a ≠ s.sf.a
  ari : ∀ i, i < s.on.n → (s.on.r i).a ≠ s.si.a ∧ (s.on.r i).a ≠ s.so.a ∧ (s.on.r i).a ≠ s.sf.a
theorem OwnS.at {A : Nat} {w : World} {s : St} (h : OwnS A w s) : s.At w := by
  obtain ⟨g, ha, _, h1, h2, hb⟩ := h.on
  exact ⟨⟨h1, h2, fun i hi => ⟨g, 0, ha, hb.lt, by rw [Nat.zero_add]; exact hb.cell hi, (h.rows i hi).at⟩⟩, h.os.at, h.hs.at, h.ms.at, h.si.at, h.so.at, h.sf.at⟩
theorem OwnI.other {A : Nat} {t : TypeId} {w : World} {r : Rw} {q n : Nat} {f : Nat → Value} (h : OwnI A w r) (hq : Blk w q t n f) (hne : 3 ≠ t) (j : Nat) (u : Value) : OwnI A (w.setCell ⟨q, j, none⟩ u) r := by
  obtain ⟨g, ha, h0, h1, h2, hb⟩ := h
  exact ⟨g, ha, h0, h1, h2, hb.other (a := ⟨q, j, none⟩) (Blk.ne2 hb hq hne) u⟩
theorem OwnO.other {A : Nat} {t : TypeId} {w : World} {s : Os} {q n : Nat} {f : Nat → Value} (h : OwnO A w s) (hq : Blk w q t n f) (h1 : 51 ≠ t) (h2 : 53 ≠ t) (j : Nat) (u : Value) : OwnO A (w.setCell ⟨q, j, none⟩ u) s := by
  refine ⟨h.le, h.cap, fun hn => ?_, fun i hi => ?_, h.apart, h.room.set q j u⟩
  · obtain ⟨g, a, b, c⟩ := h.list hn
    exact ⟨g, a, b, c.other (a := ⟨q, j, none⟩) (Blk.ne2 c hq h1) u⟩
  · obtain ⟨B, a, b, c, d, e⟩ := h.lines i hi
    exact ⟨B, a, b, c, d, e.other (a := ⟨q, j, none⟩) (Blk.ne2 e hq h2) u⟩
theorem OwnS.box {A : Nat} {w : World} {s : St} {q n : Nat} {f : Nat → Value} (h : OwnS A w s) (hq : Blk w q 31 n f) (j : Nat) (u : Value) : OwnS A (w.setCell ⟨q, j, none⟩ u) s := by
  refine ⟨?_, fun i hi => (h.rows i hi).other hq (by decide) j u, h.rapart, h.os.other hq (by decide) (by decide) j u, h.hs.other hq (by decide) j u, h.ms.other hq (by decide) j u, h.msr.set q j u, h.si.other hq (by decide) j u, h.so.other hq (by decide) j u, h.sf.other hq (by decide) j u, h.aio, h.aif, h.aof, h.ari⟩
  obtain ⟨g, ha, h0, h1, h2, hb⟩ := h.on
  exact ⟨g, ha, h0, h1, h2, hb.other (a := ⟨q, j, none⟩) (Blk.ne2 hb hq (by decide)) u⟩
theorem OwnS.set7 {A : Nat} {w : World} {s : St} {b : Nat} {f : Nat → Value} (h : OwnS A w s) (hq : Blk w b 31 7 f) (v0 v1 v2 v3 v4 v5 v6 : Value) : OwnS A (Go.Proofs.Ytbcacebifpagpac.set7 w b v0 v1 v2 v3 v4 v5 v6) s :=
  ((((((h.box hq 0 v0).box (hq.set 0 v0) 1 v1).box ((hq.set 0 v0).set 1 v1) 2 v2).box (((hq.set 0 v0).set 1 v1).set 2 v2) 3 v3).box ((((hq.set 0 v0).set 1 v1).set 2 v2).set 3 v3) 4 v4).box (((((hq.set 0 v0).set 1 v1).set 2 v2).set 3 v3).set 4 v4) 5 v5).box ((((((hq.set 0 v0).set 1 v1).set 2 v2).set 3 v3).set 4 v4).set 5 v5) 6 v6
def DRows (A : Nat) (s : St) (v : Value) (g : List Nat) (wk : World) : Prop := ∃ (g0 : Nat) (G C : Nat → Nat), v = .slice (some ⟨g0, 0, none⟩) s.on.n s.on.n ∧ A ≤ g0 ∧ Blk wk g0 23 s.on.n (fun i => .slice (some ⟨G i, 0, none⟩) (s.on.r i).n (C i)) ∧
  (∀ i, i < s.on.n → A ≤ G i ∧ (s.on.r i).n ≤ C i ∧ C i ≤ maxLen ∧ Blk wk (G i) 3 (s.on.r i).n (fun j => .int .i64 ((s.on.r i).z j))) ∧ (∀ i j, i < j → j < s.on.n → G i < G j) ∧ g = (List.range s.on.n).map G
theorem DRows.below {A : Nat} {s : St} {v : Value} {g : List Nat} {w w' : World} (h : DRows A s v g w) (hB : Below w.heap.size w w') : DRows A s v g w' := by
  obtain ⟨g0, G, C, h1, h2, h3, h4, h5, h6⟩ := h
  exact ⟨g0, G, C, h1, h2, h3.below hB, fun i hi => ⟨(h4 i hi).1, (h4 i hi).2.1, (h4 i hi).2.2.1, (h4 i hi).2.2.2.below hB⟩, h5, h6⟩
theorem DRows.lt {A : Nat} {s : St} {v : Value} {g : List Nat} {w : World} (h : DRows A s v g w) : ∀ x ∈ g, x < w.heap.size := by
  obtain ⟨g0, G, C, h1, h2, h3, h4, h5, rfl⟩ := h
  intro x hx
  obtain ⟨i, hi, rfl⟩ := List.mem_map.1 hx
  exact (h4 i (List.mem_range.1 hi)).2.2.2.lt
def DInts (A : Nat) (r : Rw) (v : Value) (g : List Nat) (wk : World) : Prop := ∃ B c, g = [B] ∧ v = .slice (some ⟨B, 0, none⟩) r.n c ∧ A ≤ B ∧ r.n ≤ c ∧ c ≤ maxLen ∧ Blk wk B 3 r.n (fun j => .int .i64 (r.z j))
theorem DInts.below {A : Nat} {r : Rw} {v : Value} {g : List Nat} {w w' : World} (h : DInts A r v g w) (hB : Below w.heap.size w w') : DInts A r v g w' := by
  obtain ⟨B, c, h1, h2, h3, h4, h5, h6⟩ := h
  exact ⟨B, c, h1, h2, h3, h4, h5, h6.below hB⟩
theorem DInts.lt {A : Nat} {r : Rw} {v : Value} {g : List Nat} {w : World} (h : DInts A r v g w) : ∀ x ∈ g, x < w.heap.size := by
  obtain ⟨B, c, rfl, h2, h3, h4, h5, h6⟩ := h
  intro x hx
  rw [List.mem_singleton] at hx
  subst hx
  exact h6.lt
def DHs (A : Nat) (e : TypeId) (s : Hs) (v : Value) (g : List Nat) (wk : World) : Prop := ∃ s' : Hs, g = [] ∧ v = .slice s'.a s'.n s'.c ∧ Cloned A e s wk s'
theorem DHs.below {A : Nat} {e : TypeId} {s : Hs} {v : Value} {g : List Nat} {w w' : World} (h : DHs A e s v g w) (hB : Below w.heap.size w w') : DHs A e s v g w' := by
  obtain ⟨s', h1, h2, h3, h4, h5, h6⟩ := h
  exact ⟨s', h1, h2, h3, h4, h5.below hB, h6.below hB⟩
theorem OwnO.below {A : Nat} {w w' : World} {s : Os} (h : OwnO A w s) (hB : Below w.heap.size w w') : OwnO A w' s := by
  refine ⟨h.le, h.cap, fun hn => ?_, fun i hi => ?_, h.apart, h.room.below hB⟩
  · obtain ⟨g, a, b, c⟩ := h.list hn
    exact ⟨g, a, b, c.below hB⟩
  · obtain ⟨B, a, b, c, d, e⟩ := h.lines i hi
    exact ⟨B, a, b, c, d, e.below hB⟩
theorem OwnO.mono {A A' : Nat} {w : World} {s : Os} (h : OwnO A w s) (hA : A' ≤ A) : OwnO A' w s := by
  refine ⟨h.le, h.cap, fun hn => ?_, fun i hi => ?_, h.apart, h.room.mono hA⟩
  · obtain ⟨g, a, b, c⟩ := h.list hn
    exact ⟨g, a, by omega, c⟩
  · obtain ⟨B, a, b, c⟩ := h.lines i hi
    exact ⟨B, a, by omega, c⟩
def DOs (A : Nat) (s : Os) (v : Value) (g : List Nat) (wk : World) : Prop := ∃ s' : Os, g = [] ∧ v = .slice s'.a s'.n s'.c ∧ SameO s' s ∧ OwnO A wk s'
theorem DOs.below {A : Nat} {s : Os} {v : Value} {g : List Nat} {w w' : World} (h : DOs A s v g w) (hB : Below w.heap.size w w') : DOs A s v g w' := by
  obtain ⟨s', h1, h2, h3, h4⟩ := h
  exact ⟨s', h1, h2, h3, h4.below hB⟩
set_option maxRecDepth 100000 in
set_option maxHeartbeats 4000000 in
theorem copyState_any (p : Pl) (s : St) (w : World) (hs : s.At w) (f : Formed p s) :
    Calls Try.prog 45 #[s.val] w fun e w' => ∃ s' : St, e = .returned s'.val ∧ SameT s' s ∧ OwnS w.heap.size w' s' ∧ Below w.heap.size w w' := by
  obtain ⟨W0, hW, hWB, X0, Z0⟩ : ∃ W, ((w.alloc (.cells s.cells 31)).alloc (.cells #[.slice .none 0 0, .slice .none 0 0, .slice .none 0 0, .slice .none 0 0, .slice .none 0 0, .slice .none 0 0, .slice .none 0 0] 31)) = W ∧ Below w.heap.size w W ∧ Blk W w.heap.size 31 7 (fun j => s.cells.getD j default) ∧ Blk W (w.heap.size + 1) 31 7 (fun _ => .slice .none 0 0) :=
    ⟨_, rfl, two_below _ _ _, (Blk.mk' rfl rfl).alloc _, (Blk.mk' (cur := #[.slice .none 0 0, .slice .none 0 0, .slice .none 0 0, .slice .none 0 0, .slice .none 0 0, .slice .none 0 0, .slice .none 0 0]) (by simp) rfl).congr (fun j hj => by match j, hj with | 0, _ => rfl | 1, _ => rfl | 2, _ => rfl | 3, _ => rfl | 4, _ => rfl | 5, _ => rfl | 6, _ => rfl)⟩
  have HW : Hid ((w.alloc (.cells #[.slice s.on.a s.on.n s.on.c, .slice s.os.a s.os.n s.os.c, .slice s.hs.a s.hs.n s.hs.c, .slice s.ms.a s.ms.n s.ms.c, .slice s.si.a s.si.n s.si.c, .slice s.so.a s.so.n s.so.c, .slice s.sf.a s.sf.n s.sf.c] 31)).alloc (.cells #[.slice .none 0 0, .slice .none 0 0, .slice .none 0 0, .slice .none 0 0, .slice .none 0 0, .slice .none 0 0, .slice .none 0 0] 31) = W0) := hW
  have HS : Hid (s.At W0) := hs.below hWB
  have HF : Hid (Formed p s) := f
  have HZ : Hid (Blk W0 (w.heap.size + 1) 31 7 (fun _ => .slice .none 0 0)) := Z0
  have hsz0 := hWB.size
  obtain ⟨l1, c0, c1, c2, c3, c4, c5, c6⟩ := Boxed.of X0
  have r0 : ∀ d os, (grow (redrawn W0 d) os).cell? ⟨w.heap.size, 0, none⟩ = some (.slice s.on.a s.on.n s.on.c) := fun d os => cell_regrown c0 d os
  have r1 : ∀ d os, (grow (redrawn W0 d) os).cell? ⟨w.heap.size, 1, none⟩ = some (.slice s.os.a s.os.n s.os.c) := fun d os => cell_regrown c1 d os
  have r2 : ∀ d os, (grow (redrawn W0 d) os).cell? ⟨w.heap.size, 2, none⟩ = some (.slice s.hs.a s.hs.n s.hs.c) := fun d os => cell_regrown c2 d os
  have r3 : ∀ d os, (grow (redrawn W0 d) os).cell? ⟨w.heap.size, 3, none⟩ = some (.slice s.ms.a s.ms.n s.ms.c) := fun d os => cell_regrown c3 d os
  have r4 : ∀ d os, (grow (redrawn W0 d) os).cell? ⟨w.heap.size, 4, none⟩ = some (.slice s.si.a s.si.n s.si.c) := fun d os => cell_regrown c4 d os
  have r5 : ∀ d os, (grow (redrawn W0 d) os).cell? ⟨w.heap.size, 5, none⟩ = some (.slice s.so.a s.so.n s.so.c) := fun d os => cell_regrown c5 d os
  have r6 : ∀ d os, (grow (redrawn W0 d) os).cell? ⟨w.heap.size, 6, none⟩ = some (.slice s.sf.a s.sf.n s.sf.c) := fun d os => cell_regrown c6 d os
  clear hW X0 Z0 hs f c0 c1 c2 c3 c4 c5 c6
  unfold St.val
  go_enter Try.func45, Try.ntmps45
  go_wp2_with fail
  rw [HW.out]
  refine wp_region_made5 (fun w' => ∃ p : Regrown, w' = grow (redrawn W0 p.d) p.os) [0, 1, 3, 4, 6, 7, 9, 10, 12, 13, 15, 16, 18, 19] [2, 5, 8, 11, 14, 17, 20] [(false, 21), (true, 22)] (by kernel_rfl) (by kernel_rfl) (by kernel_rfl) (by kernel_rfl) (by kernel_rfl) (by kernel_rfl) (by kernel_rfl) (by kernel_rfl) (by kernel_rfl) (regrown_of_below ((Below.refl _ _).drew)) ?_
  simp only [picks, List.drop_succ_cons, List.drop_zero, List.take_succ_cons, List.take_zero, List.cons_append, List.nil_append]
  repeat (go_big_quiet_step (fail))
  refine wpQuiet_nil ?_
  clear r0 r1 r2 r3 r4 r5 r6
  refine ⟨fun j v g wk => match j with | 2 => DRows w.heap.size s v g wk | 5 => DOs w.heap.size s.os v g wk | 8 => DHs w.heap.size 65 s.hs v g wk | 11 => DHs w.heap.size 70 s.ms v g wk | 14 => DInts w.heap.size s.si v g wk | 17 => DInts w.heap.size s.so v g wk | 20 => DInts w.heap.size s.sf v g wk | _ => True,
    List.forall_mem_cons.2 ⟨fun v g w w' hB h => DRows.below h hB, List.forall_mem_cons.2 ⟨fun v g w w' hB h => DOs.below h hB, List.forall_mem_cons.2 ⟨fun v g w w' hB h => DHs.below h hB, List.forall_mem_cons.2 ⟨fun v g w w' hB h => DHs.below h hB, List.forall_mem_cons.2 ⟨fun v g w w' hB h => DInts.below h hB, List.forall_mem_cons.2 ⟨fun v g w w' hB h => DInts.below h hB, List.forall_mem_cons.2 ⟨fun v g w w' hB h => DInts.below h hB, List.forall_mem_nil _⟩⟩⟩⟩⟩⟩⟩,
    List.forall_mem_cons.2 ⟨fun v g w h => DRows.lt h, List.forall_mem_cons.2 ⟨fun v g w h => by obtain ⟨_, h1, _⟩ := h; rw [h1]; intro x hx; simp at hx, List.forall_mem_cons.2 ⟨fun v g w h => by obtain ⟨_, h1, _⟩ := h; rw [h1]; intro x hx; simp at hx, List.forall_mem_cons.2 ⟨fun v g w h => by obtain ⟨_, h1, _⟩ := h; rw [h1]; intro x hx; simp at hx, List.forall_mem_cons.2 ⟨fun v g w h => DInts.lt h, List.forall_mem_cons.2 ⟨fun v g w h => DInts.lt h, List.forall_mem_cons.2 ⟨fun v g w h => DInts.lt h, List.forall_mem_nil _⟩⟩⟩⟩⟩⟩⟩,
    List.forall_mem_cons.2 ⟨?zs2, List.forall_mem_cons.2 ⟨?zs5, List.forall_mem_cons.2 ⟨?zs8, List.forall_mem_cons.2 ⟨?zs11, List.forall_mem_cons.2 ⟨?zs14, List.forall_mem_cons.2 ⟨?zs17, List.forall_mem_cons.2 ⟨?zs20, List.forall_mem_nil _⟩⟩⟩⟩⟩⟩⟩, ?zdone⟩
  case zs2 =>
    intro V G wk K hS hd hK
    have hX := below_of_regrown hS
    refine wpOp_list 2 rfl ?_
    simp only [putAll, dstOf, List.getElem?_toArray, List.getElem?_cons_succ, List.getElem?_cons_zero, Act.put, List.setIfInBounds_toArray, List.set_cons_succ, List.set_cons_zero] at hK ⊢
    go_wp2_with fail
    refine (copyRows_any s.on wk (HS.out.on.below hX) (by rw [HF.out.sh.n]; exact HF.out.sh.pl.nb6) (fun i hi => by rw [HF.out.sh.len i hi]; exact ⟨HF.out.sh.pl.ns1, HF.out.sh.pl.ns3⟩)).mono ?_
    rintro e w2 ⟨g0, Gr, Cr, rfl, a1, a2, a3, a4, hB2⟩
    go_wp2_with fail
    have q := hX.size
    refine hK _ ((List.range s.on.n).map Gr) _ (regrown_of_below (hX.trans (hB2.mono hX.size))) hB2 (fun x hx => ?_) ⟨g0, Gr, Cr, rfl, by omega, a2, fun i hi => ⟨by have := (a3 i hi).1; omega, (a3 i hi).2⟩, a4, rfl⟩
    obtain ⟨i, hi, rfl⟩ := List.mem_map.1 hx
    have := (a3 i (List.mem_range.1 hi)).1
    omega
  case zs5 =>
    intro V G wk K hS hd hK
    have hX := below_of_regrown hS
    refine wpOp_list 5 rfl ?_
    simp only [putAll, dstOf, List.getElem?_toArray, List.getElem?_cons_succ, List.getElem?_cons_zero, Act.put, List.setIfInBounds_toArray, List.set_cons_succ, List.set_cons_zero] at hK ⊢
    go_wp2_with fail
    refine (copyOrders_any s.os wk (HS.out.os.below hX) (by have := HF.out.os4; omega) HF.out.lns).mono ?_
    rintro e w2 ⟨s', rfl, a1, a2, hB2⟩
    have q := hX.size
    have HR : Hid (SameO s' s.os ∧ OwnO w.heap.size w2 s') := ⟨a1, a2.mono (by omega)⟩
    clear a1 a2
    simp only [Os.val]
    go_wp2_with fail
    exact hK _ [] _ (regrown_of_below (hX.trans (hB2.mono hX.size))) hB2 (fun x hx => by simp at hx) ⟨s', rfl, rfl, HR.out.1, HR.out.2⟩
  case zs8 =>
    intro V G wk K hS hd hK
    have hX := below_of_regrown hS
    refine wpOp_list 8 rfl ?_
    simp only [putAll, dstOf, List.getElem?_toArray, List.getElem?_cons_succ, List.getElem?_cons_zero, Act.put, List.setIfInBounds_toArray, List.set_cons_succ, List.set_cons_zero] at hK ⊢
    go_wp2_with fail
    refine (CloneHold_any s.hs wk (HS.out.hs.below hX) (by have := HF.out.hs72; omega)).mono ?_
    rintro e w2 ⟨s', rfl, hc, hB2⟩
    have q := hX.size
    have HR : Hid (Cloned w.heap.size 65 s.hs w2 s') := ⟨hc.1, hc.2.1, hc.2.2.1.mono (by omega), hc.2.2.2.mono (by omega)⟩
    clear hc
    simp only [Hs.val]
    go_wp2_with fail
    exact hK _ [] _ (regrown_of_below (hX.trans (hB2.mono hX.size))) hB2 (fun x hx => by simp at hx) ⟨s', rfl, rfl, HR.out⟩
  case zs11 =>
    intro V G wk K hS hd hK
    have hX := below_of_regrown hS
    refine wpOp_list 11 rfl ?_
    simp only [putAll, dstOf, List.getElem?_toArray, List.getElem?_cons_succ, List.getElem?_cons_zero, Act.put, List.setIfInBounds_toArray, List.set_cons_succ, List.set_cons_zero] at hK ⊢
    go_wp2_with fail
    refine (CloneMove_any s.ms wk (HS.out.ms.below hX) (by have := HF.out.ms8; omega)).mono ?_
    rintro e w2 ⟨s', rfl, hc, hB2⟩
    have q := hX.size
    have HR : Hid (Cloned w.heap.size 70 s.ms w2 s') := ⟨hc.1, hc.2.1, hc.2.2.1.mono (by omega), hc.2.2.2.mono (by omega)⟩
    clear hc
    simp only [Hs.val]
    go_wp2_with fail
    exact hK _ [] _ (regrown_of_below (hX.trans (hB2.mono hX.size))) hB2 (fun x hx => by simp at hx) ⟨s', rfl, rfl, HR.out⟩
  case zs14 =>
    intro V G wk K hS hd hK
    have hX := below_of_regrown hS
    have hn1 := HF.out.sh.pl.ns1
    have hn3 := HF.out.sh.pl.ns3
    have HCI : Hid (Calls Try.prog 92 #[.slice s.si.a s.si.n s.si.c] wk fun e w' => ∃ g c', e = .returned (.slice (some ⟨g, 0, none⟩) s.si.n c') ∧ s.si.n ≤ c' ∧ c' ≤ maxLen ∧ wk.heap.size ≤ g ∧ Blk w' g 3 s.si.n (fun j => .int .i64 (s.si.z j)) ∧ Below wk.heap.size wk w') := by
      have hr := HS.out.si.below hX
      obtain ⟨b, o, ha, -, -⟩ := hr.ints 0 (by rw [HF.out.sin]; omega)
      have hi := hr.ints
      have hz : s.si.n = p.ns := HF.out.sin
      rw [ha] at hi
      have := Clone_any b o s.si.n s.si.c s.si.z wk (by omega) (by omega) hi
      rw [← ha] at this
      exact this
    refine wpOp_list 14 rfl ?_
    simp only [putAll, dstOf, List.getElem?_toArray, List.getElem?_cons_succ, List.getElem?_cons_zero, Act.put, List.setIfInBounds_toArray, List.set_cons_succ, List.set_cons_zero] at hK ⊢
    go_wp2_with fail
    refine HCI.out.mono ?_
    rintro e w2 ⟨g, c', rfl, a1, a2, a3, a4, hB2⟩
    have q := hX.size
    go_wp2_with fail
    exact hK _ [g] _ (regrown_of_below (hX.trans (hB2.mono hX.size))) hB2 (fun x hx => by rw [List.mem_singleton] at hx; omega) ⟨g, c', rfl, rfl, by omega, a1, a2, a4⟩
  case zs17 =>
    intro V G wk K hS hd hK
    have hX := below_of_regrown hS
    have hn1 := HF.out.sh.pl.ns1
    have hn3 := HF.out.sh.pl.ns3
    have HCI : Hid (Calls Try.prog 92 #[.slice s.so.a s.so.n s.so.c] wk fun e w' => ∃ g c', e = .returned (.slice (some ⟨g, 0, none⟩) s.so.n c') ∧ s.so.n ≤ c' ∧ c' ≤ maxLen ∧ wk.heap.size ≤ g ∧ Blk w' g 3 s.so.n (fun j => .int .i64 (s.so.z j)) ∧ Below wk.heap.size wk w') := by
      have hr := HS.out.so.below hX
      obtain ⟨b, o, ha, -, -⟩ := hr.ints 0 (by rw [HF.out.son]; omega)
      have hi := hr.ints
      have hz : s.so.n = p.ns := HF.out.son
      rw [ha] at hi
      have := Clone_any b o s.so.n s.so.c s.so.z wk (by omega) (by omega) hi
      rw [← ha] at this
      exact this
    refine wpOp_list 17 rfl ?_
    simp only [putAll, dstOf, List.getElem?_toArray, List.getElem?_cons_succ, List.getElem?_cons_zero, Act.put, List.setIfInBounds_toArray, List.set_cons_succ, List.set_cons_zero] at hK ⊢
    go_wp2_with fail
    refine HCI.out.mono ?_
    rintro e w2 ⟨g, c', rfl, a1, a2, a3, a4, hB2⟩
    have q := hX.size
    go_wp2_with fail
    exact hK _ [g] _ (regrown_of_below (hX.trans (hB2.mono hX.size))) hB2 (fun x hx => by rw [List.mem_singleton] at hx; omega) ⟨g, c', rfl, rfl, by omega, a1, a2, a4⟩
  case zs20 =>
    intro V G wk K hS hd hK
    have hX := below_of_regrown hS
    have hn1 := HF.out.sh.pl.ns1
    have hn3 := HF.out.sh.pl.ns3
    have HCI : Hid (Calls Try.prog 92 #[.slice s.sf.a s.sf.n s.sf.c] wk fun e w' => ∃ g c', e = .returned (.slice (some ⟨g, 0, none⟩) s.sf.n c') ∧ s.sf.n ≤ c' ∧ c' ≤ maxLen ∧ wk.heap.size ≤ g ∧ Blk w' g 3 s.sf.n (fun j => .int .i64 (s.sf.z j)) ∧ Below wk.heap.size wk w') := by
      have hr := HS.out.sf.below hX
      obtain ⟨b, o, ha, -, -⟩ := hr.ints 0 (by rw [HF.out.sfn]; omega)
      have hi := hr.ints
      have hz : s.sf.n = p.ns := HF.out.sfn
      rw [ha] at hi
      have := Clone_any b o s.sf.n s.sf.c s.sf.z wk (by omega) (by omega) hi
      rw [← ha] at this
      exact this
    refine wpOp_list 20 rfl ?_
    simp only [putAll, dstOf, List.getElem?_toArray, List.getElem?_cons_succ, List.getElem?_cons_zero, Act.put, List.setIfInBounds_toArray, List.set_cons_succ, List.set_cons_zero] at hK ⊢
    go_wp2_with fail
    refine HCI.out.mono ?_
    rintro e w2 ⟨g, c', rfl, a1, a2, a3, a4, hB2⟩
    have q := hX.size
    go_wp2_with fail
    exact hK _ [g] _ (regrown_of_below (hX.trans (hB2.mono hX.size))) hB2 (fun x hx => by rw [List.mem_singleton] at hx; omega) ⟨g, c', rfl, rfl, by omega, a1, a2, a4⟩
  case zdone =>
    intro V G wk hS hD hA
    obtain ⟨g0, Gr, Cr, v2, a1, a2, a3, a4, gg2⟩ : DRows w.heap.size s (V 2) (G 2) wk := hD 2 (by simp)
    obtain ⟨o', -, v5, b1, b2⟩ : DOs w.heap.size s.os (V 5) (G 5) wk := hD 5 (by simp)
    obtain ⟨h', -, v8, d1, d2, d3, -⟩ : DHs w.heap.size 65 s.hs (V 8) (G 8) wk := hD 8 (by simp)
    obtain ⟨m', -, v11, f1, f2, f3, f4⟩ : DHs w.heap.size 70 s.ms (V 11) (G 11) wk := hD 11 (by simp)
    obtain ⟨B1, k1, gg14, v14, i1, i2, i3, i4⟩ : DInts w.heap.size s.si (V 14) (G 14) wk := hD 14 (by simp)
    obtain ⟨B2, k2, gg17, v17, j1, j2, j3, j4⟩ : DInts w.heap.size s.so (V 17) (G 17) wk := hD 17 (by simp)
    obtain ⟨B3, k3, gg20, v20, l2, l3, l4, l5⟩ : DInts w.heap.size s.sf (V 20) (G 20) wk := hD 20 (by simp)
    have n12 : B1 ≠ B2 := fun e => hA 14 (by simp) 17 (by simp) (by decide) B1 (by rw [gg14]; simp) (by rw [gg17, e]; simp)
    have n13 : B1 ≠ B3 := fun e => hA 14 (by simp) 20 (by simp) (by decide) B1 (by rw [gg14]; simp) (by rw [gg20, e]; simp)
    have n23 : B2 ≠ B3 := fun e => hA 17 (by simp) 20 (by simp) (by decide) B2 (by rw [gg17]; simp) (by rw [gg20, e]; simp)
    have nr : ∀ i, i < s.on.n → Gr i ≠ B1 ∧ Gr i ≠ B2 ∧ Gr i ≠ B3 := fun i hi => by
      have hm : Gr i ∈ G 2 := by rw [gg2]; exact List.mem_map.2 ⟨i, List.mem_range.2 hi, rfl⟩
      exact ⟨fun e => hA 2 (by simp) 14 (by simp) (by decide) _ hm (by rw [gg14, e]; simp), fun e => hA 2 (by simp) 17 (by simp) (by decide) _ hm (by rw [gg17, e]; simp), fun e => hA 2 (by simp) 20 (by simp) (by decide) _ hm (by rw [gg20, e]; simp)⟩
    have hX := below_of_regrown hS
    have hz := HZ.out.below hX
    clear hD hA gg2 gg14 gg17 gg20
    have HR : Hid (OwnS w.heap.size wk ⟨⟨some ⟨g0, 0, none⟩, s.on.n, s.on.n, fun i => ⟨some ⟨Gr i, 0, none⟩, (s.on.r i).n, Cr i, (s.on.r i).z⟩⟩, o', h', m', ⟨some ⟨B1, 0, none⟩, s.si.n, k1, s.si.z⟩, ⟨some ⟨B2, 0, none⟩, s.so.n, k2, s.so.z⟩, ⟨some ⟨B3, 0, none⟩, s.sf.n, k3, s.sf.z⟩⟩) := by
      refine ⟨⟨g0, rfl, a1, Nat.le_refl _, ?_, a2⟩, fun i hi => ⟨Gr i, rfl, (a3 i hi).1, (a3 i hi).2.1, (a3 i hi).2.2.1, (a3 i hi).2.2.2⟩, fun i j hij hj => ?_, b2, d3, f3, f4, ⟨B1, rfl, i1, i2, i3, i4⟩, ⟨B2, rfl, j1, j2, j3, j4⟩, ⟨B3, rfl, l2, l3, l4, l5⟩, ?_, ?_, ?_, fun i hi => ?_⟩
      · show s.on.n ≤ maxLen
        have := HF.out.sh.n
        have := HF.out.sh.pl.nb6
        unfold maxLen
        omega
      · have := a4 i j hij hj
        simp only [ne_eq, Option.some.injEq, Addr.mk.injEq, and_true]
        omega
      · intro e; simp only [Option.some.injEq, Addr.mk.injEq, and_true] at e; exact n12 e
      · intro e; simp only [Option.some.injEq, Addr.mk.injEq, and_true] at e; exact n13 e
      · intro e; simp only [Option.some.injEq, Addr.mk.injEq, and_true] at e; exact n23 e
      · obtain ⟨x1, x2, x3⟩ := nr i hi
        exact ⟨fun e => by simp only [Option.some.injEq, Addr.mk.injEq, and_true] at e; exact x1 e, fun e => by simp only [Option.some.injEq, Addr.mk.injEq, and_true] at e; exact x2 e, fun e => by simp only [Option.some.injEq, Addr.mk.injEq, and_true] at e; exact x3 e⟩
    have HC : Hid (SameT ⟨⟨some ⟨g0, 0, none⟩, s.on.n, s.on.n, fun i => ⟨some ⟨Gr i, 0, none⟩, (s.on.r i).n, Cr i, (s.on.r i).z⟩⟩, o', h', m', ⟨some ⟨B1, 0, none⟩, s.si.n, k1, s.si.z⟩, ⟨some ⟨B2, 0, none⟩, s.so.n, k2, s.so.z⟩, ⟨some ⟨B3, 0, none⟩, s.sf.n, k3, s.sf.z⟩⟩ s) :=
      ⟨⟨rfl, fun i hi => ⟨rfl, fun j hj => rfl⟩⟩, b1, ⟨d1, fun j hj => d2 j (by rw [← d1]; exact hj)⟩, ⟨f1, fun j hj => f2 j (by rw [← f1]; exact hj)⟩, ⟨rfl, fun j hj => rfl⟩, ⟨rfl, fun j hj => rfl⟩, ⟨rfl, fun j hj => rfl⟩⟩
    clear a1 a2 a3 a4 b1 b2 d1 d2 d3 f1 f2 f3 f4 i1 i2 i3 i4 j1 j2 j3 j4 l2 l3 l4 l5 n12 n13 n23 nr
    have HZ2 : Hid (Blk wk (w.heap.size + 1) 31 7 (fun _ => .slice .none 0 0)) := hz
    have zl := hz.lt
    have zf0 := hz.frozen 0
    have zc0 := hz.cell (j := 0) (by decide)
    have zf1 := hz.frozen 1
    have zc1 := hz.cell (j := 1) (by decide)
    have zf2 := hz.frozen 2
    have zc2 := hz.cell (j := 2) (by decide)
    have zf3 := hz.frozen 3
    have zc3 := hz.cell (j := 3) (by decide)
    have zf4 := hz.frozen 4
    have zc4 := hz.cell (j := 4) (by decide)
    have zf5 := hz.frozen 5
    have zc5 := hz.cell (j := 5) (by decide)
    have zf6 := hz.frozen 6
    have zc6 := hz.cell (j := 6) (by decide)
    clear hz
    simp only [putAll, dstOf, List.getElem?_toArray, List.getElem?_cons_succ, List.getElem?_cons_zero, Act.put, List.setIfInBounds_toArray, List.set_cons_succ, List.set_cons_zero, v2, v5, v8, v11, v14, v17, v20]
    refine wpSeq_one 21 rfl ?_
    go_wp2_with fail
    refine ⟨Late.no hS, ?_⟩
    refine wpSeq_one 22 rfl ?_
    go_wp2_with fail
    refine ⟨Late.yes, ?_⟩
    refine NoPanic.normal ?_
    have KZ := set7_blk HZ2.out (.slice (some ⟨g0, 0, none⟩) s.on.n s.on.n) (.slice o'.a o'.n o'.c) (.slice h'.a h'.n h'.c) (.slice m'.a m'.n m'.c) (.slice (some ⟨B1, 0, none⟩) s.si.n k1) (.slice (some ⟨B2, 0, none⟩) s.so.n k2) (.slice (some ⟨B3, 0, none⟩) s.sf.n k3)
    have hbz := set7_below (b := w.heap.size + 1) (hWB.trans (hX.mono hWB.size)) (by omega) (.slice (some ⟨g0, 0, none⟩) s.on.n s.on.n) (.slice o'.a o'.n o'.c) (.slice h'.a h'.n h'.c) (.slice m'.a m'.n m'.c) (.slice (some ⟨B1, 0, none⟩) s.si.n k1) (.slice (some ⟨B2, 0, none⟩) s.so.n k2) (.slice (some ⟨B3, 0, none⟩) s.sf.n k3)
    have HR2 := OwnS.set7 HR.out HZ2.out (.slice (some ⟨g0, 0, none⟩) s.on.n s.on.n) (.slice o'.a o'.n o'.c) (.slice h'.a h'.n h'.c) (.slice m'.a m'.n m'.c) (.slice (some ⟨B1, 0, none⟩) s.si.n k1) (.slice (some ⟨B2, 0, none⟩) s.so.n k2) (.slice (some ⟨B3, 0, none⟩) s.sf.n k3)
    unfold set7 at KZ hbz HR2
    generalize (((((((wk.setCell { block := w.heap.size + 1, off := 0 } (Value.slice (some { block := g0, off := 0 }) s.on.n s.on.n)).setCell { block := w.heap.size + 1, off := 1 } (Value.slice o'.a o'.n o'.c)).setCell { block := w.heap.size + 1, off := 2 } (Value.slice h'.a h'.n h'.c)).setCell { block := w.heap.size + 1, off := 3 } (Value.slice m'.a m'.n m'.c)).setCell { block := w.heap.size + 1, off := 4 } (Value.slice (some { block := B1, off := 0 }) s.si.n k1)).setCell { block := w.heap.size + 1, off := 5 } (Value.slice (some { block := B2, off := 0 }) s.so.n k2)).setCell { block := w.heap.size + 1, off := 6 } (Value.slice (some { block := B3, off := 0 }) s.sf.n k3)) = WY at *
    clear hX zl zf0 zc0 zf1 zc1 zf2 zc2 zf3 zc3 zf4 zc4 zf5 zc5 zf6 zc6 v2 v5 v8 v11 v14 v17 v20 hS
    obtain ⟨c0, c1, c2, c3, c4, c5, c6⟩ := box_cells KZ
    have HQ : Hid (OwnS w.heap.size WY ⟨⟨some ⟨g0, 0, none⟩, s.on.n, s.on.n, fun i => ⟨some ⟨Gr i, 0, none⟩, (s.on.r i).n, Cr i, (s.on.r i).z⟩⟩, o', h', m', ⟨some ⟨B1, 0, none⟩, s.si.n, k1, s.si.z⟩, ⟨some ⟨B2, 0, none⟩, s.so.n, k2, s.so.z⟩, ⟨some ⟨B3, 0, none⟩, s.sf.n, k3, s.sf.z⟩⟩) := HR2
    clear HR2
    go_wp2_with fail
    refine bodyPost_ret (v := (⟨⟨some ⟨g0, 0, none⟩, s.on.n, s.on.n, fun i => ⟨some ⟨Gr i, 0, none⟩, (s.on.r i).n, Cr i, (s.on.r i).z⟩⟩, o', h', m', ⟨some ⟨B1, 0, none⟩, s.si.n, k1, s.si.z⟩, ⟨some ⟨B2, 0, none⟩, s.so.n, k2, s.so.z⟩, ⟨some ⟨B3, 0, none⟩, s.sf.n, k3, s.sf.z⟩⟩ : St).val) (by simp [results, Try.results45, go_sem, St.val, c0, c1, c2, c3, c4, c5, c6]) rfl ?_
    exact ⟨_, rfl, HC.out, HQ.out, hbz⟩
theorem OwnS.mono {A A' : Nat} {w : World} {s : St} (h : OwnS A w s) (hA : A' ≤ A) : OwnS A' w s := by
  have i : ∀ {r : Rw}, OwnI A w r → OwnI A' w r := fun ⟨g, a, b, c⟩ => ⟨g, a, Nat.le_trans hA b, c⟩
  refine ⟨?_, fun j hj => i (h.rows j hj), h.rapart, h.os.mono hA, h.hs.mono hA, h.ms.mono hA, h.msr.mono hA, i h.si, i h.so, i h.sf, h.aio, h.aif, h.aof, h.ari⟩
  obtain ⟨g, a, b, c⟩ := h.on
  exact ⟨g, a, Nat.le_trans hA b, c⟩
end Go.Proofs.Ytbcacebifpagpac
namespace Go.Proofs.Ytbcacebifpagpac
open Go.RowKit Go.Shelf Go.Sort
set_option linter.unusedVariables false
set_option maxHeartbeats 4000000 in
theorem AvailOf_any (p : Pl) (s : St) (bin good : Nat) (w : World) (hs : s.At w) (f : Formed p s) (hbin : bin < p.nb) (hgood : good < p.ns) :
    Calls Try.prog 101 #[s.val, .int .i64 bin, .int .i64 good] w fun e w' => e = .returned (.int .i64 (availZ s bin good)) ∧ Below w.heap.size w w' := by
  obtain ⟨W0, hW0, hWB, hX⟩ : ∃ W0, w.alloc (.cells s.cells 31) = W0 ∧ Below w.heap.size w W0 ∧ Blk W0 w.heap.size 31 7 (fun j => s.cells.getD j default) := ⟨_, rfl, (Below.refl w.heap.size w).alloc (Nat.le_refl _) _, Blk.mk' rfl rfl⟩
  have hs0 := hs.below hWB
  have hon : bin < s.on.n := by rw [f.sh.n]; exact hbin
  obtain ⟨bo, oo, hoa, hbo, y0, hrow⟩ := hs0.on.rows bin hon
  have hrn := f.sh.len bin hon
  have hnum := f.sh.num bin hon good hgood
  obtain ⟨br, orr, hra, hbr, y1⟩ := hrow.ints good (by omega)
  have hrle := hrow.le
  have hrcap := hrow.cap
  have hole := hs0.on.le
  have hocap := hs0.on.cap
  unfold maxLen at hrcap hocap
  rw [hra, hrn] at y0
  rw [hrn] at hrle
  have h72 := f.hs72
  have m8 := f.ms8
  have HB := heldTo_bd (s := s) (b := bin) (g := good) f.holdN
  have MB := fromTo_bd (s := s) (b := bin) (g := good) f.moveN
  have c0 : W0.cell? ⟨w.heap.size, 0, none⟩ = some (.slice s.on.a s.on.n s.on.c) := hX.cell (j := 0) (by decide)
  rw [hoa] at c0
  have HSA : Hid (s.At W0 ∧ s.on.a = some ⟨bo, oo, none⟩) := ⟨hs0, hoa⟩
  have r0 : ∀ d os, (grow (redrawn W0 d) os).cell? ⟨w.heap.size, 0, none⟩ = some (.slice (some ⟨bo, oo, none⟩) s.on.n s.on.c) := fun d os => cell_regrown c0 d os
  have r1 : ∀ d os, (grow (redrawn W0 d) os).cell? ⟨w.heap.size, 1, none⟩ = some (.slice s.os.a s.os.n s.os.c) := fun d os => cell_regrown (hX.cell (j := 1) (by decide)) d os
  have r2 : ∀ d os, (grow (redrawn W0 d) os).cell? ⟨w.heap.size, 2, none⟩ = some (.slice s.hs.a s.hs.n s.hs.c) := fun d os => cell_regrown (hX.cell (j := 2) (by decide)) d os
  have r3 : ∀ d os, (grow (redrawn W0 d) os).cell? ⟨w.heap.size, 3, none⟩ = some (.slice s.ms.a s.ms.n s.ms.c) := fun d os => cell_regrown (hX.cell (j := 3) (by decide)) d os
  have r4 : ∀ d os, (grow (redrawn W0 d) os).cell? ⟨w.heap.size, 4, none⟩ = some (.slice s.si.a s.si.n s.si.c) := fun d os => cell_regrown (hX.cell (j := 4) (by decide)) d os
  have r5 : ∀ d os, (grow (redrawn W0 d) os).cell? ⟨w.heap.size, 5, none⟩ = some (.slice s.so.a s.so.n s.so.c) := fun d os => cell_regrown (hX.cell (j := 5) (by decide)) d os
  have r6 : ∀ d os, (grow (redrawn W0 d) os).cell? ⟨w.heap.size, 6, none⟩ = some (.slice s.sf.a s.sf.n s.sf.c) := fun d os => cell_regrown (hX.cell (j := 6) (by decide)) d os
  have r7 : ∀ d os, (grow (redrawn W0 d) os).cell? ⟨bo, oo + bin, none⟩ = some (.slice (some ⟨br, orr, none⟩) p.ns (s.on.r bin).c) := fun d os => cell_regrown y0 d os
  have r8 : ∀ d os, (grow (redrawn W0 d) os).cell? ⟨br, orr + good, none⟩ = some (.int .i64 ((s.on.r bin).z good)) := fun d os => cell_regrown y1 d os
  have hbd : Hid (∀ wk, s.At wk → Calls Try.prog 121 #[.agg #[.slice (some ⟨bo, oo, none⟩) s.on.n s.on.c, .slice s.os.a s.os.n s.os.c, .slice s.hs.a s.hs.n s.hs.c, .slice s.ms.a s.ms.n s.ms.c, .slice s.si.a s.si.n s.si.c, .slice s.so.a s.so.n s.so.c, .slice s.sf.a s.sf.n s.sf.c], .int .i64 bin, .int .i64 good] wk fun e w' => e = .returned (.int .i64 (heldTo s bin good s.hs.n + fromTo s bin good s.ms.n)) ∧ Below wk.heap.size wk w') := fun wk h => by
    have := bound_any p s bin good wk h f
    rw [St.val, HSA.out.2] at this
    exact this
  have HE : Hid (availZ s bin good = (s.on.r bin).z good - (heldTo s bin good s.hs.n + fromTo s bin good s.ms.n)) := by show availZ s bin good = _; unfold availZ; omega
  have HW : Hid (w.alloc (.cells #[.slice (some ⟨bo, oo, none⟩) s.on.n s.on.c, .slice s.os.a s.os.n s.os.c, .slice s.hs.a s.hs.n s.hs.c, .slice s.ms.a s.ms.n s.ms.c, .slice s.si.a s.si.n s.si.c, .slice s.so.a s.so.n s.so.c, .slice s.sf.a s.sf.n s.sf.c] 31) = W0) := by show _ = W0; rw [← hW0, St.cells, hoa]
  have q1 : (0 : Int) ≤ (bin : Int) := by omega
  have q2 : (0 : Int) ≤ (good : Int) := by omega
  simp only [St.val, hoa]
  clear hX hW0 hrow hrn hoa hra hs0 c0 y0 y1 f hs
  generalize availZ s bin good = AV at *
  have hbs : 0 ≤ heldTo s bin good s.hs.n + fromTo s bin good s.ms.n ∧ heldTo s bin good s.hs.n + fromTo s bin good s.ms.n ≤ 16000 := by omega
  clear HB MB
  generalize heldTo s bin good s.hs.n + fromTo s bin good s.ms.n = BD at *
  generalize (s.on.r bin).z good = ON at *
  generalize (s.on.r bin).c = RC at *
  go_enter Try.func101, Try.ntmps101
  go_wp2_with fail
  rw [HW.out]
  refine wp_region_quiet_below (by kernel_rfl) (by kernel_rfl) ?_
  repeat (go_big_quiet_step ((go_at_call 121; exact Calls.regrown_of (hbd.out _ (HSA.out.1.below (below_regrown _ _ _))))))
  refine wpQuiet_nil ?_
  intro _ hw'
  obtain ⟨⟨dq, osq⟩, hw''⟩ := hw'
  subst hw''
  go_wp2_with fail
  go_ret
  exact ⟨by rw [HE.out]; rfl, hWB.trans ((below_regrown _ _ _).mono hWB.size)⟩
end Go.Proofs.Ytbcacebifpagpac
namespace Go.Proofs.Ytbcacebifpagpac
open Go.RowKit
set_option linter.unusedVariables false
theorem SameT.symm {s t : St} (h : SameT s t) : SameT t s := by
  refine ⟨⟨h.on.1.symm, fun i hi => ?_⟩, ⟨h.os.1.symm, fun i hi => ?_⟩, ⟨h.hs.1.symm, fun j hj => (h.hs.2 j (by rw [h.hs.1]; exact hj)).symm⟩, ⟨h.ms.1.symm, fun j hj => (h.ms.2 j (by rw [h.ms.1]; exact hj)).symm⟩, ⟨h.si.1.symm, fun j hj => (h.si.2 j (by rw [h.si.1]; exact hj)).symm⟩, ⟨h.so.1.symm, fun j hj => (h.so.2 j (by rw [h.so.1]; exact hj)).symm⟩, ⟨h.sf.1.symm, fun j hj => (h.sf.2 j (by rw [h.sf.1]; exact hj)).symm⟩⟩
  · have x := h.on.2 i (by rw [h.on.1]; exact hi)
    exact ⟨x.1.symm, fun j hj => (x.2 j (by rw [x.1]; exact hj)).symm⟩
  · have x := h.os.2 i (by rw [h.os.1]; exact hi)
    exact ⟨x.1.symm, x.2.1.symm, fun j hj => (x.2.2 j (by rw [x.2.1]; exact hj)).symm⟩
theorem SameT.trans {s t u : St} (h : SameT s t) (k : SameT t u) : SameT s u := by
  refine ⟨⟨h.on.1.trans k.on.1, fun i hi => ?_⟩, ⟨h.os.1.trans k.os.1, fun i hi => ?_⟩, ⟨h.hs.1.trans k.hs.1, fun j hj => (h.hs.2 j hj).trans (k.hs.2 j (by rw [← h.hs.1]; exact hj))⟩, ⟨h.ms.1.trans k.ms.1, fun j hj => (h.ms.2 j hj).trans (k.ms.2 j (by rw [← h.ms.1]; exact hj))⟩, ⟨h.si.1.trans k.si.1, fun j hj => (h.si.2 j hj).trans (k.si.2 j (by rw [← h.si.1]; exact hj))⟩, ⟨h.so.1.trans k.so.1, fun j hj => (h.so.2 j hj).trans (k.so.2 j (by rw [← h.so.1]; exact hj))⟩, ⟨h.sf.1.trans k.sf.1, fun j hj => (h.sf.2 j hj).trans (k.sf.2 j (by rw [← h.sf.1]; exact hj))⟩⟩
  · have x := h.on.2 i hi
    have y := k.on.2 i (by rw [← h.on.1]; exact hi)
    exact ⟨x.1.trans y.1, fun j hj => (x.2 j hj).trans (y.2 j (by rw [← x.1]; exact hj))⟩
  · have x := h.os.2 i hi
    have y := k.os.2 i (by rw [← h.os.1]; exact hi)
    exact ⟨x.1.trans y.1, x.2.1.trans y.2.1, fun j hj => (x.2.2 j hj).trans (y.2.2 j (by rw [← x.2.1]; exact hj))⟩
def setRw (r : Rw) (j : Nat) (x : Int) : Rw := ⟨r.a, r.n, r.c, fun i => if i = j then x else r.z i⟩
theorem OwnI.set {A : Nat} {w : World} {r : Rw} {G : Nat} (h : OwnI A w r) (ha : r.a = some ⟨G, 0, none⟩) (j : Nat) (x : Int) : OwnI A (w.setCell ⟨G, j, none⟩ (.int .i64 x)) (setRw r j x) := by
  obtain ⟨g, ha', h0, h1, h2, hb⟩ := h
  rw [ha] at ha'
  simp only [Option.some.injEq, Addr.mk.injEq, and_true] at ha'
  subst ha'
  refine ⟨G, ha, h0, h1, h2, (hb.set j (.int .i64 x)).congr fun i hi => ?_⟩
  show (if i = j then _ else _) = Value.int .i64 (if i = j then x else r.z i)
  by_cases hij : i = j <;> simp [hij]
theorem OwnI.apart {A : Nat} {w : World} {r : Rw} {G : Nat} (h : OwnI A w r) (ha : r.a ≠ some ⟨G, 0, none⟩) (j : Nat) (u : Value) : OwnI A (w.setCell ⟨G, j, none⟩ u) r := by
  obtain ⟨g, ha', h0, h1, h2, hb⟩ := h
  refine ⟨g, ha', h0, h1, h2, hb.other (a := ⟨G, j, none⟩) (fun e => ha ?_) u⟩
  rw [ha', show g = G from e]
def ActOK (E : Int) (t s' : St) : Prop := (E = 0 → SameT s' t) ∧ (¬ E = 0 → NoneS s')
end Go.Proofs.Ytbcacebifpagpac
namespace Go.Proofs.Ytbcacebifpagpac
open Go.RowKit
set_option linter.unusedVariables false
structure Tk where
  left : Int
  took : Int → Int
def Tk.step (av : Int → Int) (t : Tk) (b : Int) : Tk := ⟨t.left - min t.left (av b), fun x => t.took x + if x = b then min t.left (av b) else 0⟩
def Tk.go (av : Int → Int) (n : Int) (l : List Int) : Tk := l.foldl (Tk.step av) ⟨n, fun _ => 0⟩
theorem Tk.go_more (av : Int → Int) (n : Int) (l : List Int) (b : Int) : Tk.go av n (l ++ [b]) = (Tk.go av n l).step av b := by
  unfold Tk.go
  rw [List.foldl_append]
  rfl
structure TkOK (av : Int → Int) (n : Int) (l : List Int) (t : Tk) : Prop where
  left0 : 0 ≤ t.left
  leftn : t.left ≤ n
  took0 : ∀ x, 0 ≤ t.took x
  tookn : ∀ x, t.took x ≤ n - t.left
  had : ∀ x, x ∈ l → t.took x ≤ av x
  other : ∀ x, x ∉ l → t.took x = 0
  all : 0 < t.left → ∀ x, x ∈ l → t.took x = av x
  sum : sumTo (fun b => t.took b) 6 = n - t.left
theorem tkOK {av : Int → Int} {n : Int} (hn : 0 ≤ n) : ∀ {l : List Int}, l.Pairwise (fun x y => ¬ x = y) → (∀ x, x ∈ l → 0 ≤ av x) → (∀ x, x ∈ l → 0 ≤ x ∧ x < 6) → TkOK av n l (Tk.go av n l) := by
  suffices H : ∀ (k : Nat) (l : List Int), l.length = k → l.Pairwise (fun x y => ¬ x = y) → (∀ x, x ∈ l → 0 ≤ av x) → (∀ x, x ∈ l → 0 ≤ x ∧ x < 6) → TkOK av n l (Tk.go av n l) from fun {l} => H l.length l rfl
  intro k
  induction k with
  | zero =>
    intro l hl _ _ _
    obtain rfl := List.eq_nil_of_length_eq_zero hl
    exact ⟨hn, Int.le_refl _, fun _ => Int.le_refl _, fun _ => by show (0 : Int) ≤ n - n; omega, fun x h => by simp at h, fun _ _ => rfl, fun _ x h => by simp at h, by show (0 : Int) + 0 + 0 + 0 + 0 + 0 + 0 = n - n; omega⟩
  | succ m ih =>
    intro l0 hl0 hd ha hin
    obtain ⟨l, b, rfl⟩ : ∃ l b, l0 = l ++ [b] := ⟨l0.dropLast, l0.getLast (by intro e; rw [e] at hl0; simp at hl0), (List.dropLast_concat_getLast _).symm⟩
    have hlm : l.length = m := by simpa using hl0
    rw [List.pairwise_append] at hd
    have hb : b ∉ l := fun hm => hd.2.2 b hm b (by simp) rfl
    have k := ih l hlm hd.1 (fun x hx => ha x (by simp [hx])) (fun x hx => hin x (by simp [hx]))
    have hb6 := hin b (by simp)
    have hab := ha b (by simp)
    rw [Tk.go_more]
    generalize Tk.go av n l = t at k
    have h0 := k.left0
    have hln := k.leftn
    have hmin : 0 ≤ min t.left (av b) ∧ min t.left (av b) ≤ t.left ∧ min t.left (av b) ≤ av b := by omega
    have hob := k.other b hb
    refine ⟨?_, ?_, fun x => ?_, fun x => ?_, fun x hx => ?_, fun x hx => ?_, fun hl x hx => ?_, ?_⟩
    · show 0 ≤ t.left - min t.left (av b); omega
    · show t.left - min t.left (av b) ≤ n; omega
    · have := k.took0 x
      show 0 ≤ t.took x + if x = b then min t.left (av b) else 0
      split <;> omega
    · have := k.tookn x
      show (t.took x + if x = b then min t.left (av b) else 0) ≤ n - (t.left - min t.left (av b))
      split <;> omega
    · show (t.took x + if x = b then min t.left (av b) else 0) ≤ av x
      by_cases hxb : x = b
      · subst hxb; rw [if_pos rfl]; omega
      · rw [if_neg hxb]
        have : x ∈ l := by simpa [hxb] using hx
        have := k.had x this
        omega
    · show (t.took x + if x = b then min t.left (av b) else 0) = 0
      have hxb : ¬ x = b := fun e => hx (by simp [e])
      have hxl : x ∉ l := fun e => hx (by simp [e])
      rw [if_neg hxb, k.other x hxl]
      rfl
    · have hl' : 0 < t.left - min t.left (av b) := hl
      show (t.took x + if x = b then min t.left (av b) else 0) = av x
      by_cases hxb : x = b
      · subst hxb; rw [if_pos rfl]; omega
      · rw [if_neg hxb]
        have : x ∈ l := by simpa [hxb] using hx
        have := k.all (by omega) x this
        omega
    · show sumTo (fun x => t.took x + if (x : Int) = b then min t.left (av b) else 0) 6 = n - (t.left - min t.left (av b))
      have e := k.sum
      rw [sumTo_put (z := fun x => t.took x) (m := b.toNat) (n := min t.left (av b)) (by omega) fun i hi => by
        by_cases hib : i = b.toNat
        · have : ((i : Nat) : Int) = b := by omega
          rw [if_pos this, if_pos hib]
        · have : ¬ ((i : Nat) : Int) = b := by omega
          rw [if_neg this, if_neg hib, Int.add_zero], e]
      omega
def wayT (p : Pl) (but : Int) : List Int := (wayL p).filter (fun b => !(b == but))
theorem wayT_mem {p : Pl} {but x : Int} : x ∈ wayT p but ↔ x ∈ wayL p ∧ ¬ x = but := by
  unfold wayT
  rw [List.mem_filter]
  simp
theorem wayT_apart (p : Pl) (but : Int) : (wayT p but).Pairwise (fun x y => ¬ x = y) := ((way_pw p).imp fun h => h.1).filter _
end Go.Proofs.Ytbcacebifpagpac
namespace Go.Proofs.Ytbcacebifpagpac
open Go.RowKit
set_option linter.unusedVariables false
theorem made_aux6 {P : Program} {ops : Array Oper} {Q : Exit → Act → World → Prop} {S : World → Prop} {T : Nat → Bool} {rem : List Nat} {L : Array Bool} {a1 : Act} {D : Nat → Value → List Nat → World → Prop} {fuel : Nat} (hB : madeB5 ops rem L = true) (hT : ∀ r ∈ rem, T r = false)
    (mono : ∀ j ∈ rem, ∀ v g w w', Below w.heap.size w w' → D j v g w → D j v g w') (lt : ∀ j ∈ rem, ∀ v g w, D j v g w → ∀ x ∈ g, x < w.heap.size)
    (step : ∀ i ∈ rem, ∀ (V : Nat → Value) (G : Nat → List Nat) (w : World) (K : Act → World → Prop), S w → (∀ d ∈ depsOf ops i, d ∈ rem → D d (V d) (G d) w) → (∀ d ∈ depsOf ops i, ∀ k ∈ depsOf ops i, d ∈ rem → k ∈ rem → d ≠ k → ∀ x ∈ G d, x ∉ G k) →
      (∀ v g w', S w' → Below w.heap.size w w' → (∀ x ∈ g, w.heap.size ≤ x) → D i v g w' → K ((putAll ops rem V a1).put (dstOf ops i) v) w') → wpOp P ops Q i K (putAll ops rem V a1) w)
    (done : ∀ (V : Nat → Value) (G : Nat → List Nat) (w : World), S w → (∀ j ∈ rem, D j (V j) (G j) w) → (∀ j ∈ rem, ∀ k ∈ rem, j ≠ k → ∀ x ∈ G j, x ∉ G k) → wpAnyT P ops Q S T fuel (mark L rem) (putAll ops rem V a1) w) :
    ∀ (m : Nat) (listed : Array Bool) (V : Nat → Value) (G : Nat → List Nat) (w : World), (rem.filter (fun r => !listed.getD r true)).length = m → listed.size = ops.size → (∀ j, j ∉ rem → listed[j]? = L[j]?) → Closed ops listed → S w → (∀ j ∈ rem, listed.getD j true = true → D j (V j) (G j) w) →
      (∀ j ∈ rem, ∀ k ∈ rem, listed.getD j true = true → listed.getD k true = true → j ≠ k → ∀ x ∈ G j, x ∉ G k) → wpAnyT P ops Q S T (m + fuel) listed (putAll ops rem V a1) w := by
  simp only [madeB5, Bool.and_eq_true, decide_eq_true_eq] at hB
  obtain ⟨⟨⟨⟨hoth, htopo⟩, hrem⟩, hLs⟩, hnd⟩ := hB
  have hrem' : ∀ r ∈ rem, r < ops.size ∧ L.getD r true = false := fun r hr => by
    have := List.all_eq_true.1 hrem r hr
    simpa using this
  intro m
  induction m with
  | zero =>
    intro listed V G w hm hsz hag hcl hS hD hA
    have hall : ∀ r ∈ rem, listed.getD r true = true := fun r hr => by
      cases hq : listed.getD r true
      · have : r ∈ rem.filter (fun r => !listed.getD r true) := List.mem_filter.2 ⟨hr, by simp [hq]⟩
        rw [List.length_eq_zero_iff.1 hm] at this
        simp at this
      · rfl
    have hl : listed = mark L rem := by
      apply Array.ext_getElem?
      intro j
      by_cases hj : j < L.size
      · rw [mark_get rem L j hj]
        by_cases hjr : j ∈ rem
        · rw [if_pos hjr]
          have h1 := hall j hjr
          have h2 : j < listed.size := by omega
          simp only [Array.getD, h2, dif_pos] at h1
          simp [h2]
          exact h1
        · rw [if_neg hjr]; exact hag j hjr
      · rw [Array.getElem?_eq_none (by omega), Array.getElem?_eq_none (by rw [mark_size]; omega)]
    rw [Nat.zero_add, hl]
    exact done V G w hS (fun j hj => hD j hj (hall j hj)) fun j hj k hk => hA j hj k hk (hall j hj) (hall k hk)
  | succ m ih =>
    intro listed V G w hm hsz hag hcl hS hD hA
    have hex : ∃ r ∈ rem, listed.getD r true = false := by
      have hne : rem.filter (fun r => !listed.getD r true) ≠ [] := fun e => by rw [e] at hm; simp at hm
      obtain ⟨x, hx⟩ := List.exists_mem_of_ne_nil _ hne
      have := List.mem_filter.1 hx
      exact ⟨x, this.1, by simpa using this.2⟩
    have hLl : ∀ d, L.getD d false = true → listed.getD d false = true := fun d hd => by
      by_cases hdr : d ∈ rem
      · have h1 := (hrem' d hdr).2
        have h2 : d < L.size := by have := (hrem' d hdr).1; omega
        simp only [Array.getD, h2, dif_pos] at h1 hd
        rw [h1] at hd; cases hd
      · have h1 := hag d hdr
        by_cases h2 : d < L.size
        · have h3 : d < listed.size := by omega
          simp only [Array.getD, h2, h3, dif_pos] at hd ⊢
          simp only [Array.getElem?_eq_getElem h2, Array.getElem?_eq_getElem h3, Option.some.injEq] at h1
          rw [Array.getInternal_eq_getElem] at hd ⊢
          rw [h1]; exact hd
        · simp [Array.getD, h2] at hd
    obtain ⟨r0, hr0, hr0r⟩ := topo_ready hsz [] rem htopo hLl (fun d hd => by simp at hd) (fun r hr => (hrem' r hr).1) hex
    rw [Nat.add_right_comm]
    refine ⟨fun h0 => absurd (h0 ▸ hr0r) (by simp), fun i hi => ?_⟩
    obtain ⟨hli, o, ho, hdep⟩ := mem_ready.1 hi
    have hdeps : ∀ d ∈ depsOf ops i, listed.getD d false = true := fun d hd => by
      unfold depsOf at hd
      rw [ho] at hd
      obtain ⟨e, he, rfl⟩ := List.mem_map.1 hd
      have := List.mem_filter.1 he
      exact hdep e (by simpa using this.1) this.2
    have hdt : ∀ d, listed.getD d false = true → listed.getD d true = true := fun d hd => by
      by_cases h2 : d < listed.size
      · simpa [Array.getD, h2] using hd
      · simp [Array.getD, h2]
    have hir : i ∈ rem := by
      cases hc : rem.contains i
      · exfalso
        have hlt : i < ops.size := (Array.getElem?_eq_some_iff.1 ho).1
        have hnr : i ∉ rem := fun h => by
          have := List.contains_iff_mem.2 h
          rw [this] at hc; cases hc
        have h1 := List.all_eq_true.1 hoth i (List.mem_range.2 hlt)
        have hLi : L.getD i true = false := by
          have h2 := hag i hnr
          have h3 : i < L.size := by omega
          have h4 : i < listed.size := by omega
          simp only [Array.getElem?_eq_getElem h3, Array.getElem?_eq_getElem h4, Option.some.injEq] at h2
          simp only [Array.getD, h3, h4, dif_pos] at hli ⊢
          rw [Array.getInternal_eq_getElem] at hli ⊢
          rw [← h2]; exact hli
        rw [hLi, hc] at h1
        simp only [Bool.false_or] at h1
        obtain ⟨q, hq, hq2⟩ := hex
        have h5 := List.all_eq_true.1 h1 q hq
        have h6 := hdt q (reach_listed hcl _ i q (ready_deps hi) h5)
        rw [hq2] at h6; cases h6
      · exact List.contains_iff_mem.1 hc
    refine step i hir V G w _ hS (fun d hd hdr => hD d hdr (hdt d (hdeps d hd))) (fun d hd k hk hdr hkr => hA d hdr k hkr (hdt d (hdeps d hd)) (hdt k (hdeps k hk))) (fun v g w' hS' hBel hfr hDi => ?_)
    refine ⟨fun _ => hS', ?_⟩
    rw [putAll_put hnd hir]
    have hin : i < listed.size := by rw [hsz]; exact (hrem' i hir).1
    have gset : ∀ j, (listed.setIfInBounds i true).getD j true = if j = i then true else listed.getD j true := fun j => by
      by_cases hj : j = i
      · subst hj; simp [Array.getD, hin]
      · rw [if_neg hj, getD_set_ne true (fun e => hj e.symm)]
    refine ih (listed.setIfInBounds i true) (upd V i v) (fun j => if j = i then g else G j) w' ?_ (by simpa using hsz) (fun j hj => ?_) (hcl.set hi) hS' (fun j hj hlj => ?_) (fun j hj k hk hlj hlk hjk x hx => ?_)
    · have hnodup : rem.Nodup := by
        exact (List.pairwise_map.1 hnd).imp (fun h e => h (by rw [e]))
      have e1 : (rem.filter (fun r => !listed.getD r true)) = rem.filter (fun r => !listed.getD r true) := rfl
      have hcount : (rem.filter (fun r => !(listed.setIfInBounds i true).getD r true)) = (rem.filter (fun r => !listed.getD r true)).erase i := by
        have e2 : rem.filter (fun r => !(listed.setIfInBounds i true).getD r true) = (rem.filter (fun r => !listed.getD r true)).filter (fun r => r != i) := by
          rw [List.filter_filter]
          refine List.filter_congr fun x hx => ?_
          rw [gset x]
          by_cases hxi : x = i <;> simp [hxi]
        rw [e2, ← List.Nodup.erase_eq_filter (hnodup.filter _)]
      rw [hcount, List.length_erase_of_mem (List.mem_filter.2 ⟨hir, by simp [hli]⟩), hm]
      rfl
    · rw [Array.getElem?_setIfInBounds, if_neg (fun e : i = j => hj (by rw [← e]; exact hir))]
      exact hag j hj
    · unfold upd
      by_cases hji : j = i
      · subst hji; rw [if_pos rfl, if_pos rfl]; exact hDi
      · rw [if_neg hji, if_neg hji]
        rw [gset j, if_neg hji] at hlj
        exact mono j hj _ _ _ _ hBel (hD j hj hlj)
    · by_cases hji : j = i
      · have hki : ¬ k = i := fun e => hjk (hji.trans e.symm)
        rw [if_pos hji] at hx
        rw [if_neg hki]
        rw [gset k, if_neg hki] at hlk
        intro hx2
        have h1 := hfr x hx
        have h2 := lt k hk _ _ _ (hD k hk hlk) x hx2
        omega
      · rw [if_neg hji] at hx
        rw [gset j, if_neg hji] at hlj
        by_cases hki : k = i
        · rw [if_pos hki]
          intro hx2
          have h1 := hfr x hx2
          have h2 := lt j hj _ _ _ (hD j hj hlj) x hx
          omega
        · rw [if_neg hki]
          rw [gset k, if_neg hki] at hlk
          exact hA j hj k hk hlj hlk hjk x hx
def Made6 (P : Program) (ops : Array Oper) (Q : Exit → Act → World → Prop) (S : World → Prop) (rem : List Nat) (ord : List (Bool × Nat)) (a1 : Act) : Prop :=
  ∃ D : Nat → Value → List Nat → World → Prop, (∀ j ∈ rem, ∀ v g w w', Below w.heap.size w w' → D j v g w → D j v g w') ∧ (∀ j ∈ rem, ∀ v g w, D j v g w → ∀ x ∈ g, x < w.heap.size) ∧
    (∀ i ∈ rem, ∀ (V : Nat → Value) (G : Nat → List Nat) (w : World) (K : Act → World → Prop), S w → (∀ d ∈ depsOf ops i, d ∈ rem → D d (V d) (G d) w) → (∀ d ∈ depsOf ops i, ∀ k ∈ depsOf ops i, d ∈ rem → k ∈ rem → d ≠ k → ∀ x ∈ G d, x ∉ G k) →
      (∀ v g w', S w' → Below w.heap.size w w' → (∀ x ∈ g, w.heap.size ≤ x) → D i v g w' → K ((putAll ops rem V a1).put (dstOf ops i) v) w') → wpOp P ops (NoPanic Q) i K (putAll ops rem V a1) w) ∧
    (∀ (V : Nat → Value) (G : Nat → List Nat) (w : World), S w → (∀ j ∈ rem, D j (V j) (G j) w) → (∀ j ∈ rem, ∀ k ∈ rem, j ≠ k → ∀ x ∈ G j, x ∉ G k) → wpSeq P ops (NoPanic Q) S ord (putAll ops rem V a1) w)
def tailsB6 (ops : Array Oper) (ks rem : List Nat) (ord : List (Bool × Nat)) : Bool :=
  ks.all (fun k => !ord.contains (true, k) && ord.all (fun x => !x.1 || reach ops ops.size x.2 k)) && rem.all (fun r => !ord.contains (true, r)) && ord.all (fun x => x.1 || !ord.contains (true, x.2))
theorem wp_region_made6 {P : Program} {l : List Oper} {Q : Exit → Act → World → Prop} {id : Nat} {a : Act} {w : World} (S : World → Prop) (ks rem : List Nat) (ord : List (Bool × Nat))
    (hm : P.follows .mixedOrders = true) (hs : Region.noSelect l.toArray = true) (hF : firstsB l.toArray ks (Array.replicate l.length false) = true) (hks : ks.all (fun k => decide (k < l.length)) = true) (hv : ((picks l ks).all vKind4) = true)
    (hM : madeB5 l.toArray rem (mark (Array.replicate l.length false) ks) = true) (hTB : tailsB6 l.toArray ks rem ord = true) (hB : seqB l.toArray ord (mark (mark (Array.replicate l.length false) ks) rem) = true) (hl : ks.length + (rem.length + ord.length) = l.length)
    (hS : S w.drew) (h : wpQuiet P l.toArray S (Made6 P l.toArray Q S rem ord) (picks l ks) a) : (Code.region id l.toArray true).wp P Q a w := by
  refine wp_region_noPanic (wp_region_any hm ?_)
  have hM' := hM
  simp only [madeB5, Bool.and_eq_true, decide_eq_true_eq] at hM'
  simp only [tailsB6, Bool.and_eq_true] at hTB
  have hT : ∀ j, (ord.contains (true, j)) = true → (true, j) ∈ ord := fun j h => by simpa using h
  have key := wpAnyT_firsts (Q := NoPanic Q) (T := fun i => ord.contains (true, i)) (N := l.toArray.size) (fuel := rem.length + ord.length) (w := w.drew) hs hS (fun c a a' w h => (h : False).elim) ks (picks l ks) _ a hF (fun k hk => ?_) (Closed.none _ _) (picks_ok hks) hv h (fun a1 hK hcl => ?_)
  · have := wpAny_of_T _ _ _ _ key
    rw [hl] at this
    simpa using this
  · have h1 := List.all_eq_true.1 hTB.1.1 k hk
    simp only [Bool.and_eq_true] at h1
    refine ⟨by simpa using h1.1, fun j hj => ?_⟩
    have h2 := List.all_eq_true.1 h1.2 (true, j) (hT j hj)
    simpa using h2
  · obtain ⟨D, mono, lt, step, done⟩ := hK
    have hall : (rem.filter (fun r => !(mark (Array.replicate l.length false) ks).getD r true)) = rem := by
      rw [List.filter_eq_self]
      intro r hr
      have := List.all_eq_true.1 hM'.1.1.2 r hr
      simp only [Bool.and_eq_true] at this
      exact this.2
    have hun : ∀ j ∈ rem, (mark (Array.replicate l.length false) ks).getD j true = true → False := fun j hj hlj => by
      have := List.all_eq_true.1 hM'.1.1.2 j hj
      simp only [Bool.and_eq_true, hlj] at this
      simp at this
    obtain ⟨V0, hV0⟩ : ∃ V0, putAll l.toArray rem V0 a1 = a1 := ⟨_, putAll_self a1 rem⟩
    have := made_aux6 (P := P) (Q := NoPanic Q) (S := S) (T := fun i => ord.contains (true, i)) (a1 := a1) (fuel := ord.length) hM (fun r hr => by have := List.all_eq_true.1 hTB.1.2 r hr; simpa using this) mono lt step
      (fun V G w' hS' hD hA => wpAnyT_seq ord _ _ w' hB (fun t i hti => by
        cases t with
        | true => simpa using hti
        | false =>
          have := List.all_eq_true.1 hTB.2 (false, i) hti
          simpa using this) (done V G w' hS' hD hA))
      rem.length (mark (Array.replicate l.length false) ks) V0 (fun _ => []) w.drew (by rw [hall]) hM'.1.2 (fun _ _ => rfl) hcl hS (fun j hj hlj => (hun j hj hlj).elim) (fun j hj k hk hlj _ _ => (hun j hj hlj).elim)
    rw [hV0] at this
    exact this
end Go.Proofs.Ytbcacebifpagpac
namespace Go.Proofs.Ytbcacebifpagpac
open Go.RowKit Go.Shelf Go.Sort
set_option linter.unusedVariables false
theorem wp_append_empty {P : Program} (w : World) {ops : Array Oper} {rest : List Oper} {o : Oper} {a : Act} {Q : Exit → Act → World → Prop} (hg : o.guard = none) (s x : Operand) (t : TypeId)
    (hop : o.op = Op.call { callee := Callee.builtin Builtin.append, args := #[s, x], argTypes := #[t, t] }) (e : TypeId) (i : TypeInfo) (z : Value) (size bytes : Nat) (h1 : P.underlying t = some (.slice e)) (h2 : P.info? e = some i) (h3 : i.zero = some z) (h4 : i.size = size) (h5 : i.bytes = bytes)
    (h6 : z.cells.size = size) (h7 : 0 < size) (g : Nat) (hs : a.eval s = .slice (some ⟨g, 0, none⟩) 0 0) (xa : Option Addr) (m c : Nat) (news : List Value) (hx : a.eval x = .slice xa m c) (hn : news.length = m * size)
    (hc : ∀ ad, xa = some ad → ∀ j u, news[j]? = some u → w.cell? (ad.add j) = some u) (h1c : ∀ u ∈ news, u.oneCell' = true) (hnone : xa = none → m = 0) (b1 : m ≤ maxLen) (b2 : m * bytes ≤ 140737488355328)
    (hK0 : m = 0 → wpList P ops Q rest (a.put o.dst (.slice (some ⟨g, 0, none⟩) 0 0)) w) (hK : 0 < m → ∀ v' w', w'.ownsRow w.heap.size e size v' m news → w.grownBy w' none → wpList P ops Q rest (a.put o.dst v') w') :
    wpList P ops Q (o :: rest) a w := by
  rcases Nat.eq_zero_or_pos m with h0 | h0
  · subst h0
    have hnil : news = [] := List.eq_nil_of_length_eq_zero (by simpa using hn)
    subst hnil
    have hsrc : Src P i.size t (.slice xa 0 c) 0 [] w := by
      cases xa with
      | none => exact Src.ofNil w h1 c
      | some ad => exact Src.ofSlice w h1 ad 0 c [] (by simp) (fun j u hj => by simp at hj) (fun u hu => by cases hu)
    have hrun := run_append_nothing (P := P) w t t o.type e i h1 h2 (some ⟨g, 0, none⟩) 0 0 (Nat.le_refl _) _ hsrc
    refine wpList_plain hg fun K hK' => ?_
    unfold Oper.wp
    simp [execOp, hop, resolve, invoke, builtin, hs, hx, hrun, Result.andThen]
    exact hK' _ _ (hK0 rfl)
  · cases xa with
    | none => exact absurd (hnone rfl) (by omega)
    | some ad =>
      refine wpList_append_grows w hg s x t hop e i z size bytes h1 h2 h3 h4 h5 h6 h7 (some ⟨g, 0, none⟩) 0 0 [] hs (fun h => by cases h) (by simp) (fun b _ j u hj => by simp at hj) ad m c news hx hn (hc ad rfl) h1c (by omega) (by omega) (by rw [Nat.zero_add]; exact b2) (fun v' w' h1 h2 => ?_)
      rw [Nat.zero_add, List.nil_append] at h1
      exact hK h0 v' w' h1 h2
end Go.Proofs.Ytbcacebifpagpac
namespace Go.Proofs.Ytbcacebifpagpac
open Go.RowKit Go.Shelf Go.Sort
set_option linter.unusedVariables false
def ZeroAt (A n : Nat) (v : Value) (g : List Nat) (wk : World) : Prop := ∃ B, g = [B] ∧ v = .slice (some ⟨B, 0, none⟩) n n ∧ A ≤ B ∧ Blk wk B 3 n (fun _ => .int .i64 0)
theorem ZeroAt.below {A n : Nat} {v : Value} {g : List Nat} {w w' : World} (h : ZeroAt A n v g w) (hB : Below w.heap.size w w') : ZeroAt A n v g w' := by
  obtain ⟨B, h0, h1, h2, h3⟩ := h
  exact ⟨B, h0, h1, h2, h3.below hB⟩
theorem ZeroAt.lt {A n : Nat} {v : Value} {g : List Nat} {w : World} (h : ZeroAt A n v g w) : ∀ x ∈ g, x < w.heap.size := by
  obtain ⟨B, rfl, h1, h2, h3⟩ := h
  intro x hx
  rw [List.mem_singleton] at hx
  subst hx
  exact h3.lt
def BoxAt (A : Nat) (v : Value) (g : List Nat) (wk : World) : Prop := ∃ B, g = [B] ∧ v = .pointer (some ⟨B, 0, none⟩) ∧ A ≤ B ∧ Blk wk B 31 7 (fun _ => .slice .none 0 0)
theorem BoxAt.below {A : Nat} {v : Value} {g : List Nat} {w w' : World} (h : BoxAt A v g w) (hB : Below w.heap.size w w') : BoxAt A v g w' := by
  obtain ⟨B, h0, h1, h2, h3⟩ := h
  exact ⟨B, h0, h1, h2, h3.below hB⟩
theorem BoxAt.lt {A : Nat} {v : Value} {g : List Nat} {w : World} (h : BoxAt A v g w) : ∀ x ∈ g, x < w.heap.size := by
  obtain ⟨B, rfl, h1, h2, h3⟩ := h
  intro x hx
  rw [List.mem_singleton] at hx
  subst hx
  exact h3.lt
def SumsAt (A n : Nat) (v : Value) (g : List Nat) (wk : World) : Prop := ∃ B1 B2 B3, g = [] ∧ v = .agg #[.slice .none 0 0, .slice .none 0 0, .slice .none 0 0, .slice .none 0 0, .slice (some ⟨B1, 0, none⟩) n n, .slice (some ⟨B2, 0, none⟩) n n, .slice (some ⟨B3, 0, none⟩) n n] ∧
  (A ≤ B1 ∧ Blk wk B1 3 n (fun _ => .int .i64 0)) ∧ (A ≤ B2 ∧ Blk wk B2 3 n (fun _ => .int .i64 0)) ∧ (A ≤ B3 ∧ Blk wk B3 3 n (fun _ => .int .i64 0))
theorem SumsAt.below {A n : Nat} {v : Value} {g : List Nat} {w w' : World} (h : SumsAt A n v g w) (hB : Below w.heap.size w w') : SumsAt A n v g w' := by
  obtain ⟨B1, B2, B3, h0, h1, ⟨a1, a2⟩, ⟨b1, b2⟩, ⟨c1, c2⟩⟩ := h
  exact ⟨B1, B2, B3, h0, h1, ⟨a1, a2.below hB⟩, ⟨b1, b2.below hB⟩, ⟨c1, c2.below hB⟩⟩
def OneAt (A n : Nat) (v : Value) (g : List Nat) (wk : World) : Prop := ∃ B R, g = [B] ∧ v = .slice (some ⟨B, 0, none⟩) 1 1 ∧ A ≤ B ∧ Blk wk B 23 1 (fun _ => .slice (some ⟨R, 0, none⟩) n n) ∧ A ≤ R ∧ Blk wk R 3 n (fun _ => .int .i64 0)
theorem OneAt.below {A n : Nat} {v : Value} {g : List Nat} {w w' : World} (h : OneAt A n v g w) (hB : Below w.heap.size w w') : OneAt A n v g w' := by
  obtain ⟨B, R, h0, h1, h2, h3, h4, h5⟩ := h
  exact ⟨B, R, h0, h1, h2, h3.below hB, h4, h5.below hB⟩
theorem OneAt.lt {A n : Nat} {v : Value} {g : List Nat} {w : World} (h : OneAt A n v g w) : ∀ x ∈ g, x < w.heap.size := by
  obtain ⟨B, R, rfl, h1, h2, h3, h4, h5⟩ := h
  intro x hx
  rw [List.mem_singleton] at hx
  subst hx
  exact h3.lt
def Fr (n : Nat) (w : World) (s : St) : Prop := ∀ w'' : World, w.heap.size ≤ w''.heap.size → (∀ g, n ≤ g → g < w.heap.size → w''.heap[g]? = w.heap[g]?) → s.At w''
theorem Fr.at {n : Nat} {w : World} {s : St} (h : Fr n w s) : s.At w := h w (Nat.le_refl _) (fun _ _ _ => rfl)
theorem Fr.below {n : Nat} {w w' : World} {s : St} (h : Fr n w s) (hB : Below w.heap.size w w') : Fr n w' s := fun w'' hz hs => h w'' (Nat.le_trans hB.size hz) fun g h1 h2 => (hs g h1 (Nat.lt_of_lt_of_le h2 hB.size)).trans (hB.block g h2)
theorem Fr.set {n : Nat} {w : World} {s : St} (h : Fr n w s) {q : Nat} (hq : q < n) (j : Nat) (u : Value) : Fr n (w.setCell ⟨q, j, none⟩ u) s := fun w'' hz hs => h w'' (by simpa using hz) fun g h1 h2 => (hs g h1 (by simpa using h2)).trans (Below.heap_setCell w ⟨q, j, none⟩ u g (by show g ≠ q; omega))
theorem grown_keep {w w2 : World} {base : Nat} {e : TypeId} {size : Nat} {v : Value} {n : Nat} {xs : List Value} (ho : w.ownsRow base e size v n xs) (hg : w.grownBy w2 v.ownBlock) {q : Nat} {t : TypeId} {m : Nat} {f : Nat → Value} (hb : Blk w q t m f) (hne : t ≠ e) : Blk w2 q t m f := by
  refine hb.grown hg ?_
  intro hq
  rcases ho.2 with ⟨rfl, _⟩ | ⟨g2, cap2, cur2, rfl, _, hh2, hrest⟩
  · simp [Value.ownBlock] at hq
  · simp only [Value.ownBlock, Option.some.injEq] at hq
    subst hq
    obtain ⟨c3, hc3, _⟩ := hb
    rw [hc3] at hh2
    cases hh2
    exact hne rfl
theorem owns_set {w : World} {base : Nat} {e : TypeId} {size : Nat} {v : Value} {n : Nat} {xs : List Value} (ho : w.ownsRow base e size v n xs) {q : Nat} {t : TypeId} {m : Nat} {f : Nat → Value} (hb : Blk w q t m f) (hne : t ≠ e) (j : Nat) (u : Value) : (w.setCell ⟨q, j, none⟩ u).ownsRow base e size v n xs := by
  refine ⟨ho.1, ?_⟩
  rcases ho.2 with h | ⟨g2, cap2, cur2, rfl, hb2, hh2, hrest⟩
  · exact .inl h
  · refine .inr ⟨g2, cap2, cur2, rfl, hb2, ?_, hrest⟩
    rw [Below.heap_setCell w ⟨q, j, none⟩ u g2 ?_]
    · exact hh2
    · intro hq
      obtain ⟨c3, hc3, _⟩ := hb
      rw [hq, hc3] at hh2
      cases hh2
      exact hne rfl
end Go.Proofs.Ytbcacebifpagpac

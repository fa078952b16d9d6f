/- Texts that were built one behind the other, joined; what AllocTakes does not reach is left out. -/
import Derived.Test.YtbcacebifpagpacK3AllocTakes
import Derived.Lib.QuietBelow
import Derived.Test.YtbcacebifpagpacRows
import Derived.ProofKit
import Derived.OpenShut
import Derived.Lib.SmallJoins
import Derived.Deep.Slices
namespace Go.Proofs.Ytbcacebifpagpac
open Go.RowKit Go.Shelf Go.Sort
set_option linter.unusedVariables false
structure BusyC (w : World) (g : Nat) : Prop where
  b0 : Blk w (g) 3 2 (fun j => (#[.int .i64 9, .int .i64 0] : Array Value).getD j default)
  b1 : Blk w (g + 1) 3 2 (fun j => (#[.int .i64 3, .int .i64 0] : Array Value).getD j default)
  b2 : Blk w (g + 2) 3 2 (fun j => (#[.int .i64 0, .int .i64 6] : Array Value).getD j default)
  b3 : Blk w (g + 3) 23 3 (fun j => (#[.slice (some ⟨g, 0, none⟩) 2 2, .slice (some ⟨g + 1, 0, none⟩) 2 2, .slice (some ⟨g + 2, 0, none⟩) 2 2] : Array Value).getD j default)
  b4 : Blk w (g + 4) 53 8 (fun j => (#[.int .i64 0, .int .i64 6, .int .i64 1, .int .i64 2, .int .i64 1, .int .i64 9, .int .i64 0, .int .i64 3] : Array Value).getD j default)
  b5 : Blk w (g + 5) 53 4 (fun j => (#[.int .i64 0, .int .i64 4, .int .i64 0, .int .i64 0] : Array Value).getD j default)
  b6 : Blk w (g + 6) 51 4 (fun j => (#[.int .i64 1, .slice (some ⟨g + 4, 0, none⟩) 2 2, .int .i64 0, .slice (some ⟨g + 5, 0, none⟩) 1 1] : Array Value).getD j default)
  b7 : Blk w (g + 7) 65 12 (fun j => (#[.int .i64 0, .int .i64 0, .int .i64 0, .int .i64 2, .int .i64 0, .int .i64 0, .int .i64 1, .int .i64 3, .int .i64 0, .int .i64 1, .int .i64 2, .int .i64 6] : Array Value).getD j default)
  b8 : Blk w (g + 8) 70 4 (fun j => (#[.int .i64 0, .int .i64 0, .int .i64 1, .int .i64 5] : Array Value).getD j default)
  b9 : Blk w (g + 9) 3 2 (fun j => (#[.int .i64 13, .int .i64 6] : Array Value).getD j default)
  b10 : Blk w (g + 10) 3 2 (fun j => (#[.int .i64 1, .int .i64 0] : Array Value).getD j default)
  b11 : Blk w (g + 11) 3 2 (fun j => (#[.int .i64 0, .int .i64 0] : Array Value).getD j default)
theorem BusyC.below {w w' : World} {g : Nat} (h : BusyC w g) (hB : Below w.heap.size w w') : BusyC w' g := ⟨h.b0.below hB, h.b1.below hB, h.b2.below hB, h.b3.below hB, h.b4.below hB, h.b5.below hB, h.b6.below hB, h.b7.below hB, h.b8.below hB, h.b9.below hB, h.b10.below hB, h.b11.below hB⟩
def blC : Nat → Hd
  | 0 => ⟨0, 6, 1, 2⟩
  | _ => ⟨1, 9, 0, 3⟩
def bhC : Nat → Hd
  | 0 => ⟨0, 0, 1, 3⟩
  | _ => ⟨0, 1, 2, 6⟩
def bosC (g : Nat) : Nat → Od
  | 0 => ⟨1, ⟨some ⟨g + 4, 0, none⟩, 2, 2, blC⟩⟩
  | _ => ⟨0, ⟨some ⟨g + 5, 0, none⟩, 1, 1, fun _ => ⟨0, 4, 0, 0⟩⟩⟩
def busyC (g : Nat) : St := ⟨⟨some ⟨g + 3, 0, none⟩, 3, 3, bon g⟩, ⟨some ⟨g + 6, 0, none⟩, 2, 2, bosC g⟩, ⟨some ⟨g + 7, 4, none⟩, 2, 2, bhC⟩, ⟨some ⟨g + 8, 0, none⟩, 1, 1, fun _ => ⟨0, 0, 1, 5⟩⟩, ⟨some ⟨g + 9, 0, none⟩, 2, 2, bzi⟩, ⟨some ⟨g + 10, 0, none⟩, 2, 2, bzo⟩, ⟨some ⟨g + 11, 0, none⟩, 2, 2, fun _ => 0⟩⟩
theorem busyCAt {w : World} {g : Nat} (h : BusyC w g) : (busyC g).At w := by
  refine ⟨⟨Nat.le_refl _, le_max (n := 3) (by decide), fun i hi => ?_⟩, ⟨Nat.le_refl _, le_max (n := 2) (by decide), fun i hi => ?_⟩, ⟨Nat.le_refl _, le_max (n := 2) (by decide), fun i hi => ?_, fun e => by cases e⟩, ⟨Nat.le_refl _, le_max (n := 1) (by decide), fun i hi => ?_, fun e => by cases e⟩, two_at h.b9 rfl rfl, two_at h.b10 rfl rfl, two_at h.b11 rfl rfl⟩
  · have hi' : i < 3 := hi
    refine ⟨g + 3, 0, rfl, h.b3.lt, ?_⟩
    match i, hi' with
    | 0, _ => exact ⟨h.b3.cell (j := 0) (by decide), two_at h.b0 rfl rfl⟩
    | 1, _ => exact ⟨h.b3.cell (j := 1) (by decide), two_at h.b1 rfl rfl⟩
    | 2, _ => exact ⟨h.b3.cell (j := 2) (by decide), two_at h.b2 rfl rfl⟩
  · have hi' : i < 2 := hi
    refine ⟨g + 6, 0, rfl, h.b6.lt, ?_⟩
    match i, hi' with
    | 0, _ =>
      refine ⟨h.b6.cell (j := 0) (by decide), h.b6.cell (j := 1) (by decide), Nat.le_refl _, le_max (n := 2) (by decide), fun j hj => ?_, fun e => by cases e⟩
      have hj' : j < 2 := hj
      refine ⟨g + 4, 0, rfl, h.b4.lt, ?_⟩
      match j, hj' with
      | 0, _ => exact ⟨h.b4.cell (j := 0) (by decide), h.b4.cell (j := 1) (by decide), h.b4.cell (j := 2) (by decide), h.b4.cell (j := 3) (by decide)⟩
      | 1, _ => exact ⟨h.b4.cell (j := 4) (by decide), h.b4.cell (j := 5) (by decide), h.b4.cell (j := 6) (by decide), h.b4.cell (j := 7) (by decide)⟩
    | 1, _ =>
      refine ⟨h.b6.cell (j := 2) (by decide), h.b6.cell (j := 3) (by decide), Nat.le_refl _, le_max (n := 1) (by decide), fun j hj => ?_, fun e => by cases e⟩
      have hj' : j < 1 := hj
      refine ⟨g + 5, 0, rfl, h.b5.lt, ?_⟩
      match j, hj' with
      | 0, _ => exact ⟨h.b5.cell (j := 0) (by decide), h.b5.cell (j := 1) (by decide), h.b5.cell (j := 2) (by decide), h.b5.cell (j := 3) (by decide)⟩
  · have hi' : i < 2 := hi
    refine ⟨g + 7, 4, rfl, h.b7.lt, ?_⟩
    match i, hi' with
    | 0, _ => exact ⟨h.b7.cell (j := 4) (by decide), h.b7.cell (j := 5) (by decide), h.b7.cell (j := 6) (by decide), h.b7.cell (j := 7) (by decide)⟩
    | 1, _ => exact ⟨h.b7.cell (j := 8) (by decide), h.b7.cell (j := 9) (by decide), h.b7.cell (j := 10) (by decide), h.b7.cell (j := 11) (by decide)⟩
  · have hi' : i < 1 := hi
    refine ⟨g + 8, 0, rfl, h.b8.lt, ?_⟩
    match i, hi' with
    | 0, _ => exact ⟨h.b8.cell (j := 0) (by decide), h.b8.cell (j := 1) (by decide), h.b8.cell (j := 2) (by decide), h.b8.cell (j := 3) (by decide)⟩
theorem BusyB.toC {w : World} {g : Nat} (h : BusyB w g 2 0) : BusyC (w.setCell ⟨g + 4, 3, none⟩ (.int .i64 2)) g :=
  ⟨h.b0.other (by simp) _, h.b1.other (by simp) _, h.b2.other (by simp) _, h.b3.other (by simp) _, (h.b4.set 3 _).congr (fun j hj => by match j, hj with | 0, _ => rfl | 1, _ => rfl | 2, _ => rfl | 3, _ => rfl | 4, _ => rfl | 5, _ => rfl | 6, _ => rfl | 7, _ => rfl), h.b5.other (by simp) _, h.b6.other (by simp) _, h.b7.other (by simp) _, h.b8.other (by simp) _, h.b9.other (by simp) _, h.b10.other (by simp) _, h.b11.other (by simp) _⟩
theorem busyC1 (g1 g2 g : Nat) : allocE (yardP g1 g2) (busyC g) 0 0 2 (-1) = 0 ∧ allocL (yardP g1 g2) (busyC g) 0 0 2 (-1) = 0 := ⟨by rfl, by rfl⟩
theorem busyC2 (g1 g2 g : Nat) : allocE (yardP g1 g2) (busyC g) 0 0 2 0 = 0 ∧ allocL (yardP g1 g2) (busyC g) 0 0 2 0 = 2 := ⟨by rfl, by rfl⟩
theorem busyC3 (g1 g2 g : Nat) : allocE (yardP g1 g2) (busyC g) 1 0 0 (-1) = 6 ∧ allocL (yardP g1 g2) (busyC g) 1 0 0 (-1) = 0 := ⟨by rfl, by rfl⟩
theorem busyC_tk (g1 g2 g : Nat) : tkOf (yardP g1 g2) (busyC g) (lineAt (busyC g) 0 0).o 2 (-1) = ⟨0, fun x => 0 + (if x = 1 then 0 else 0) + (if x = 0 then 2 else 0) + (if x = 2 then 0 else 0)⟩ := by rfl
theorem busyC_kept (a b c : Int) : keptV 3 (bhs 2) a b c = keptV 2 bhC a b c + if a = 0 ∧ b = 0 then (0 + (if c = 1 then 0 else 0) + (if c = 0 then 2 else 0) + (if c = 2 then 0 else 0) : Int) else 0 := by
  have e3 : List.range 3 = [0, 1, 2] := rfl
  have e2 : List.range 2 = [0, 1] := rfl
  unfold keptV
  rw [e3, e2]
  simp only [List.find?_cons, List.find?_nil, matchH, bhs, bhC]
  by_cases ha : a = 0
  · subst ha
    by_cases hb : b = 0
    · subst hb
      by_cases hc0 : c = 0
      · subst hc0; rfl
      · by_cases hc1 : c = 1
        · subst hc1; rfl
        · have h0 : ((0 : Int) == c) = false := by simpa using fun e : (0 : Int) = c => hc0 e.symm
          have h1 : ((1 : Int) == c) = false := by simpa using fun e : (1 : Int) = c => hc1 e.symm
          simp [h0, h1, hc0, hc1]
    · have h0 : ((0 : Int) == b) = false := by simpa using fun e : (0 : Int) = b => hb e.symm
      cases h1 : ((1 : Int) == b && (2 : Int) == c) <;> simp [h0, hb, h1]
  · have h0 : ((0 : Int) == a) = false := by simpa using fun e : (0 : Int) = a => ha e.symm
    simp [h0, ha]
theorem busyC_back {g1 g2 g g' : Nat} {x : St} (h : Took (busyC g) 0 0 2 (tkOf (yardP g1 g2) (busyC g) (lineAt (busyC g) 0 0).o 2 (-1)) x) : SameT x (busyS g' 2 0) := by
  rw [busyC_tk] at h
  refine (h.same (y := busyS g' 2 0) ⟨⟨rfl, fun i hi => ?_⟩, ⟨rfl, fun i hi => ?_⟩, by rfl, fun a b c => busyC_kept a b c, ⟨rfl, fun j hj => rfl⟩, ⟨rfl, fun j hj => rfl⟩, ⟨rfl, fun j hj => rfl⟩, ⟨rfl, fun j hj => rfl⟩⟩)
  · have hi' : i < 3 := hi
    match i, hi' with
    | 0, _ => exact ⟨rfl, fun _ _ => rfl⟩
    | 1, _ => exact ⟨rfl, fun _ _ => rfl⟩
    | 2, _ => exact ⟨rfl, fun _ _ => rfl⟩
  · have hi' : i < 2 := hi
    match i, hi' with
    | 0, _ =>
      refine ⟨rfl, rfl, fun j hj => ?_⟩
      have hj' : j < 2 := hj
      match j, hj' with
      | 0, _ => rfl
      | 1, _ => rfl
    | 1, _ =>
      refine ⟨rfl, rfl, fun j hj => ?_⟩
      have hj' : j < 1 := hj
      match j, hj' with
      | 0, _ => rfl
structure CallI (R : St → World → Prop) (L E : Int) (W : World) (dn : Nat → Bool) (V : Nat → Value) (w : World) : Prop where
  bel : Below W.heap.size W w
  c3 : dn 3 = true → dn 2 = true
  c4 : dn 4 = true → dn 2 = true
  c8 : dn 8 = true → dn 2 = true ∧ dn 7 = true
  yd : dn 0 = true → ∃ g1 g2, V 0 = (yardP g1 g2).val ∧ Blk w g1 42 12 yardF ∧ Blk w g2 3 2 yardG
  box : dn 7 = true → ∃ B, V 7 = .pointer (some ⟨B, 0, none⟩) ∧ W.heap.size ≤ B ∧ ∃ f, Blk w B 31 7 f
  got : dn 2 = true → ∃ x, R x w ∧ V 2 = .tuple #[.agg #[.slice x.on.a x.on.n x.on.c, .slice x.os.a x.os.n x.os.c, .slice x.hs.a x.hs.n x.hs.c, .slice x.ms.a x.ms.n x.ms.c, .slice x.si.a x.si.n x.si.c, .slice x.so.a x.so.n x.so.c, .slice x.sf.a x.sf.n x.sf.c], .int .i64 L, .int .i64 E] ∧ (dn 3 = true → V 3 = .tuple #[.agg #[.slice x.on.a x.on.n x.on.c, .slice x.os.a x.os.n x.os.c, .slice x.hs.a x.hs.n x.hs.c, .slice x.ms.a x.ms.n x.ms.c, .slice x.si.a x.si.n x.si.c, .slice x.so.a x.so.n x.so.c, .slice x.sf.a x.sf.n x.sf.c], .int .i64 L, .int .i64 E]) ∧ (dn 4 = true → V 4 = .agg #[.slice x.on.a x.on.n x.on.c, .slice x.os.a x.os.n x.os.c, .slice x.hs.a x.hs.n x.hs.c, .slice x.ms.a x.ms.n x.ms.c, .slice x.si.a x.si.n x.si.c, .slice x.so.a x.so.n x.so.c, .slice x.sf.a x.sf.n x.sf.c]) ∧ (dn 8 = true → ∀ B, V 7 = .pointer (some ⟨B, 0, none⟩) → Blk w B 31 7 (fun j => x.cells.getD j default))
  n5 : dn 5 = true → V 5 = .int .i64 L
  n6 : dn 6 = true → V 6 = .int .i64 E
  n9 : dn 9 = true → V 9 = .int .i64 L
  n10 : dn 10 = true → V 10 = .int .i64 E
set_option maxRecDepth 100000 in
set_option maxHeartbeats 8000000 in
theorem allocBegun_any (w : World) :
    Calls Try.prog 17 #[] w fun e w' => e = .returned (.bool true) ∧ Below w.heap.size w w' := by
  go_enter Try.func17, Try.ntmps17
  go_wp2_with fail
  refine (busy_any _).mono ?_
  rintro e w1 ⟨gx, rfl, hgt, bb, hB⟩
  simp only [busyS, St.val]
  have f4 := bb.b4.frozen 3
  have c4 := bb.b4.cell (j := 3) (by decide)
  have l4 := bb.b4.lt
  have c6 := bb.b6.cell (j := 1) (by decide)
  have l6 := bb.b6.lt
  obtain ⟨W1, hW, hWB, K1, bc⟩ : ∃ W, ((w1.setCell ⟨gx + 4, 3, none⟩ (.int .i64 2)).alloc (.cells #[.slice (some ⟨gx + 3, 0, none⟩) 3 3, .slice (some ⟨gx + 6, 0, none⟩) 2 2, .slice (some ⟨gx + 7, 4, none⟩) 2 2, .slice (some ⟨gx + 8, 0, none⟩) 1 1, .slice (some ⟨gx + 9, 0, none⟩) 2 2, .slice (some ⟨gx + 10, 0, none⟩) 2 2, .slice (some ⟨gx + 11, 0, none⟩) 2 2] 31)) = W ∧ Below w.heap.size w W ∧ Blk W w1.heap.size 31 7 (fun j => (busyC gx).cells.getD j default) ∧ BusyC W gx :=
    ⟨_, rfl, (hB.setCell (p := ⟨gx + 4, 3, none⟩) (by show w.heap.size ≤ gx + 4; omega) _).alloc (by simpa using hB.size) _, Blk.mk' (by simp) rfl, bb.toC.below ((Below.refl _ _).alloc (Nat.le_refl _) _)⟩
  have HW : Hid ((w1.setCell ⟨gx + 4, 3, none⟩ (.int .i64 2)).alloc (.cells #[.slice (some ⟨gx + 3, 0, none⟩) 3 3, .slice (some ⟨gx + 6, 0, none⟩) 2 2, .slice (some ⟨gx + 7, 4, none⟩) 2 2, .slice (some ⟨gx + 8, 0, none⟩) 1 1, .slice (some ⟨gx + 9, 0, none⟩) 2 2, .slice (some ⟨gx + 10, 0, none⟩) 2 2, .slice (some ⟨gx + 11, 0, none⟩) 2 2] 31) = W1) := hW
  have HXA : Hid (∀ wk, Below W1.heap.size W1 wk → (busyC gx).At wk) := fun wk h => busyCAt (bc.below h)
  have HK1 : Hid (∀ wk, Below W1.heap.size W1 wk → Blk wk w1.heap.size 31 7 (fun j => (busyC gx).cells.getD j default)) := fun wk h => K1.below h
  have HWB : Hid (Below w.heap.size w W1) := hWB
  clear hW bb hgt bc
  go_wp2_with fail
  rw [HW.out]
  clear f4 c4 l4 c6 l6 HW hB hWB
  generalize w1.heap.size = B1 at *
  clear w1
  have HB1 : Hid (Below W1.heap.size W1 W1) := Below.refl _ _
  have rs0 : ∀ d os, (grow (redrawn W1 d) os).cell? ⟨B1, 0, none⟩ = some (.slice (some ⟨gx + 3, 0, none⟩) 3 3) := fun d os => cell_regrown (K1.cell (j := 0) (by decide)) d os
  have rs1 : ∀ d os, (grow (redrawn W1 d) os).cell? ⟨B1, 1, none⟩ = some (.slice (some ⟨gx + 6, 0, none⟩) 2 2) := fun d os => cell_regrown (K1.cell (j := 1) (by decide)) d os
  have rs2 : ∀ d os, (grow (redrawn W1 d) os).cell? ⟨B1, 2, none⟩ = some (.slice (some ⟨gx + 7, 4, none⟩) 2 2) := fun d os => cell_regrown (K1.cell (j := 2) (by decide)) d os
  have rs3 : ∀ d os, (grow (redrawn W1 d) os).cell? ⟨B1, 3, none⟩ = some (.slice (some ⟨gx + 8, 0, none⟩) 1 1) := fun d os => cell_regrown (K1.cell (j := 3) (by decide)) d os
  have rs4 : ∀ d os, (grow (redrawn W1 d) os).cell? ⟨B1, 4, none⟩ = some (.slice (some ⟨gx + 9, 0, none⟩) 2 2) := fun d os => cell_regrown (K1.cell (j := 4) (by decide)) d os
  have rs5 : ∀ d os, (grow (redrawn W1 d) os).cell? ⟨B1, 5, none⟩ = some (.slice (some ⟨gx + 10, 0, none⟩) 2 2) := fun d os => cell_regrown (K1.cell (j := 5) (by decide)) d os
  have rs6 : ∀ d os, (grow (redrawn W1 d) os).cell? ⟨B1, 6, none⟩ = some (.slice (some ⟨gx + 11, 0, none⟩) 2 2) := fun d os => cell_regrown (K1.cell (j := 6) (by decide)) d os
  have xl := K1.lt
  clear K1
  have HTA : Hid (∀ g1 g2 wk, (yardP g1 g2).At wk → (busyC gx).At wk → Calls Try.prog 15 #[(yardP g1 g2).val, (busyC gx).val, .int .i64 0, .int .i64 0, .int .i64 2, .int .i64 (-1)] wk fun e w' => ∃ x : St, e = .returned (.tuple #[x.val, .int .i64 0, .int .i64 0]) ∧ (fun x w => OwnS 0 w x ∧ ∀ g', SameT x (busyS g' 2 0)) x w' ∧ Below wk.heap.size wk w') := fun g1 g2 wk h1 h2 => by
    have h := Take_any (yardP g1 g2) (busyC gx) 0 0 2 (-1) wk h1 h2
    have e1 := (busyC1 g1 g2 gx).1
    rw [(busyC1 g1 g2 gx).2] at h
    refine h.mono fun e w' => ?_
    rintro ⟨x, rfl, h2, h3, h4, h5⟩
    rw [e1]
    exact ⟨x, rfl, ⟨(h4 e1).mono (Nat.zero_le _), fun g' => busyC_back (h3.1 e1)⟩, h5⟩
  have HRB : Hid (∀ (x : St) (wk wj : World), Below wk.heap.size wk wj → (fun x w => OwnS 0 w x ∧ ∀ g', SameT x (busyS g' 2 0)) x wk → (fun x w => OwnS 0 w x ∧ ∀ g', SameT x (busyS g' 2 0)) x wj) := fun x wk wj h hr => ⟨OwnS.below hr.1 h, hr.2⟩
  have HRS : Hid (∀ (x : St) (wk : World) (B : Nat) (f : Nat → Value), Blk wk B 31 7 f → ∀ v0 v1 v2 v3 v4 v5 v6, (fun x w => OwnS 0 w x ∧ ∀ g', SameT x (busyS g' 2 0)) x wk → (fun x w => OwnS 0 w x ∧ ∀ g', SameT x (busyS g' 2 0)) x (set7 wk B v0 v1 v2 v3 v4 v5 v6)) := fun x wk B f hb v0 v1 v2 v3 v4 v5 v6 hr => ⟨OwnS.set7 hr.1 hb v0 v1 v2 v3 v4 v5 v6, hr.2⟩
  refine wp_region_made7 (fun w' => ∃ p : Regrown, w' = grow (redrawn W1 p.d) p.os) [1] [0, 2, 3, 4, 5, 6, 7, 8, 9, 10] (by kernel_rfl) (by kernel_rfl) (by kernel_rfl) (by kernel_rfl) (by kernel_rfl) (by kernel_rfl) (by kernel_rfl) (by kernel_rfl) (regrown_of_below ((Below.refl _ _).drew)) ?_
  simp only [picks, List.drop_succ_cons, List.drop_zero, List.take_succ_cons, List.take_zero, List.cons_append, List.nil_append]
  repeat (go_big_quiet_step (fail))
  refine wpQuiet_nil ?_
  clear rs0 rs1 rs2 rs3 rs4 rs5 rs6 xl
  refine ⟨CallI (fun x w => OwnS 0 w x ∧ ∀ g', SameT x (busyS g' 2 0)) 0 0 W1, fun dn V w hS hd => ?zinit, List.forall_mem_cons.2 ⟨?zp0, List.forall_mem_cons.2 ⟨?zp2, List.forall_mem_cons.2 ⟨?zp3, List.forall_mem_cons.2 ⟨?zp4, List.forall_mem_cons.2 ⟨?zp5, List.forall_mem_cons.2 ⟨?zp6, List.forall_mem_cons.2 ⟨?zp7, List.forall_mem_cons.2 ⟨?zp8, List.forall_mem_cons.2 ⟨?zp9, List.forall_mem_cons.2 ⟨?zp10, List.forall_mem_nil _⟩⟩⟩⟩⟩⟩⟩⟩⟩⟩, ?zdone⟩
  case zinit =>
    have f : ∀ j, j ∈ [0, 2, 3, 4, 5, 6, 7, 8, 9, 10] → ¬ dn j = true := fun j hj h => by rw [hd j hj] at h; cases h
    exact ⟨below_of_regrown hS, fun h => absurd h (f 3 (by simp)), fun h => absurd h (f 4 (by simp)), fun h => absurd h (f 8 (by simp)), fun h => absurd h (f 0 (by simp)), fun h => absurd h (f 7 (by simp)), fun h => absurd h (f 2 (by simp)), fun h => absurd h (f 5 (by simp)), fun h => absurd h (f 6 (by simp)), fun h => absurd h (f 9 (by simp)), fun h => absurd h (f 10 (by simp))⟩
  case zp0 =>
    intro dn V wk K hS hn hd hI hK
    have HII : Hid (CallI (fun x w => OwnS 0 w x ∧ ∀ g', SameT x (busyS g' 2 0)) 0 0 W1 dn V wk) := hI
    have q := hI.bel.size
    clear hI
    refine wpOp_list 0 rfl ?_
    simp only [putAll, dstOf, List.getElem?_toArray, List.getElem?_cons_succ, List.getElem?_cons_zero, Act.put, List.setIfInBounds_toArray, List.set_cons_succ, List.set_cons_zero] at hK ⊢
    go_wp2_with fail
    refine (yard_any _).mono ?_
    rintro e wj ⟨g1, g2, rfl, -, -, k1, k2, hB2⟩
    go_wp2_with fail
    have hI := HII.out
    refine hK _ _ (regrown_of_below (hI.bel.trans (hB2.mono q))) ⟨hI.bel.trans (hB2.mono q), hI.c3, hI.c4, hI.c8, fun _ => ⟨g1, g2, rfl, k1, k2⟩, fun h7 => ?_, fun h2 => ?_, hI.n5, hI.n6, hI.n9, hI.n10⟩
    · obtain ⟨B, b1, b2, f, b3⟩ := hI.box h7
      exact ⟨B, b1, b2, f, b3.below hB2⟩
    · obtain ⟨x, a1, a2, a3, a4, a5⟩ := hI.got h2
      exact ⟨x, HRB.out x wk wj hB2 a1, a2, a3, a4, fun h8 B hb => (a5 h8 B hb).below hB2⟩
  case zp2 =>
    intro dn V wk K hS hn hd hI hK
    obtain ⟨g1, g2, hv0, k1, k2⟩ := hI.yd (hd 0 (List.contains_iff_mem.1 (by kernel_rfl)) (by simp))
    have HII : Hid (CallI (fun x w => OwnS 0 w x ∧ ∀ g', SameT x (busyS g' 2 0)) 0 0 W1 dn V wk) := hI
    have q := hI.bel.size
    clear hI
    have f3 : ¬ dn 3 = true := fun h => by rw [HII.out.c3 h] at hn; cases hn
    have f4 : ¬ dn 4 = true := fun h => by rw [HII.out.c4 h] at hn; cases hn
    have f8 : ¬ dn 8 = true := fun h => by rw [(HII.out.c8 h).1] at hn; cases hn
    refine wpOp_list 2 rfl ?_
    simp only [putAll, dstOf, List.getElem?_toArray, List.getElem?_cons_succ, List.getElem?_cons_zero, Act.put, List.setIfInBounds_toArray, List.set_cons_succ, List.set_cons_zero, hv0] at hK ⊢
    go_wp2_with fail
    refine (HTA.out g1 g2 wk (yardAt k1 k2) (HXA.out wk (HB1.out.trans (HII.out.bel.mono HB1.out.size)))).mono ?_
    rintro e wj ⟨x, rfl, hR, hB2⟩
    have HR : Hid ((fun x w => OwnS 0 w x ∧ ∀ g', SameT x (busyS g' 2 0)) x wj) := hR
    clear hR k1 k2
    simp only [St.val]
    go_wp2_with fail
    have hI := HII.out
    refine hK _ _ (regrown_of_below (hI.bel.trans (hB2.mono q))) ⟨hI.bel.trans (hB2.mono q), fun _ => rfl, fun _ => rfl, fun h => absurd h f8, fun h0 => ?_, fun h7 => ?_, fun _ => ⟨x, HR.out, rfl, fun h => absurd h f3, fun h => absurd h f4, fun h => absurd h f8⟩, hI.n5, hI.n6, hI.n9, hI.n10⟩
    · obtain ⟨g1, g2, b0, b1, b2⟩ := hI.yd h0
      exact ⟨g1, g2, b0, b1.below hB2, b2.below hB2⟩
    · obtain ⟨B, b1, b2, f, b3⟩ := hI.box h7
      exact ⟨B, b1, b2, f, b3.below hB2⟩
  case zp3 =>
    intro dn V wk K hS hn hd hI hK
    have h2 : dn 2 = true := hd 2 (List.contains_iff_mem.1 (by kernel_rfl)) (by simp)
    obtain ⟨x, a1, a2, a3, a4, a5⟩ := hI.got h2
    have HII : Hid (CallI (fun x w => OwnS 0 w x ∧ ∀ g', SameT x (busyS g' 2 0)) 0 0 W1 dn V wk) := hI
    have HR : Hid ((fun x w => OwnS 0 w x ∧ ∀ g', SameT x (busyS g' 2 0)) x wk ∧ V 2 = .tuple #[.agg #[.slice x.on.a x.on.n x.on.c, .slice x.os.a x.os.n x.os.c, .slice x.hs.a x.hs.n x.hs.c, .slice x.ms.a x.ms.n x.ms.c, .slice x.si.a x.si.n x.si.c, .slice x.so.a x.so.n x.so.c, .slice x.sf.a x.sf.n x.sf.c], .int .i64 0, .int .i64 0] ∧ (dn 4 = true → V 4 = .agg #[.slice x.on.a x.on.n x.on.c, .slice x.os.a x.os.n x.os.c, .slice x.hs.a x.hs.n x.hs.c, .slice x.ms.a x.ms.n x.ms.c, .slice x.si.a x.si.n x.si.c, .slice x.so.a x.so.n x.so.c, .slice x.sf.a x.sf.n x.sf.c]) ∧ (dn 8 = true → ∀ B, V 7 = .pointer (some ⟨B, 0, none⟩) → Blk wk B 31 7 (fun j => x.cells.getD j default))) := ⟨a1, a2, a4, a5⟩
    clear hI a1 a3 a4 a5
    refine wpOp_list 3 rfl ?_
    simp only [putAll, dstOf, List.getElem?_toArray, List.getElem?_cons_succ, List.getElem?_cons_zero, Act.put, List.setIfInBounds_toArray, List.set_cons_succ, List.set_cons_zero, a2] at hK ⊢
    go_wp2_with fail
    have hI := HII.out
    exact hK _ _ hS ⟨hI.bel, fun _ => h2, hI.c4, hI.c8, hI.yd, hI.box, fun _ => ⟨x, HR.out.1, HR.out.2.1, fun _ => rfl, HR.out.2.2.1, HR.out.2.2.2⟩, hI.n5, hI.n6, hI.n9, hI.n10⟩
  case zp4 =>
    intro dn V wk K hS hn hd hI hK
    have h3 : dn 3 = true := hd 3 (List.contains_iff_mem.1 (by kernel_rfl)) (by simp)
    have h2 := hI.c3 h3
    obtain ⟨x, a1, a2, a3, a4, a5⟩ := hI.got h2
    have a3' := a3 h3
    have HII : Hid (CallI (fun x w => OwnS 0 w x ∧ ∀ g', SameT x (busyS g' 2 0)) 0 0 W1 dn V wk) := hI
    have HR : Hid ((fun x w => OwnS 0 w x ∧ ∀ g', SameT x (busyS g' 2 0)) x wk ∧ V 2 = .tuple #[.agg #[.slice x.on.a x.on.n x.on.c, .slice x.os.a x.os.n x.os.c, .slice x.hs.a x.hs.n x.hs.c, .slice x.ms.a x.ms.n x.ms.c, .slice x.si.a x.si.n x.si.c, .slice x.so.a x.so.n x.so.c, .slice x.sf.a x.sf.n x.sf.c], .int .i64 0, .int .i64 0] ∧ (dn 3 = true → V 3 = .tuple #[.agg #[.slice x.on.a x.on.n x.on.c, .slice x.os.a x.os.n x.os.c, .slice x.hs.a x.hs.n x.hs.c, .slice x.ms.a x.ms.n x.ms.c, .slice x.si.a x.si.n x.si.c, .slice x.so.a x.so.n x.so.c, .slice x.sf.a x.sf.n x.sf.c], .int .i64 0, .int .i64 0]) ∧ (dn 8 = true → ∀ B, V 7 = .pointer (some ⟨B, 0, none⟩) → Blk wk B 31 7 (fun j => x.cells.getD j default))) := ⟨a1, a2, a3, a5⟩
    clear hI a1 a2 a3 a4 a5
    refine wpOp_list 4 rfl ?_
    simp only [putAll, dstOf, List.getElem?_toArray, List.getElem?_cons_succ, List.getElem?_cons_zero, Act.put, List.setIfInBounds_toArray, List.set_cons_succ, List.set_cons_zero, a3'] at hK ⊢
    go_wp2_with fail
    have hI := HII.out
    exact hK _ _ hS ⟨hI.bel, hI.c3, fun _ => h2, hI.c8, hI.yd, hI.box, fun _ => ⟨x, HR.out.1, HR.out.2.1, HR.out.2.2.1, fun _ => rfl, HR.out.2.2.2⟩, hI.n5, hI.n6, hI.n9, hI.n10⟩
  case zp5 =>
    intro dn V wk K hS hn hd hI hK
    have h3 : dn 3 = true := hd 3 (List.contains_iff_mem.1 (by kernel_rfl)) (by simp)
    obtain ⟨x, a1, a2, a3, a4, a5⟩ := hI.got (hI.c3 h3)
    have a3' := a3 h3
    have HII : Hid (CallI (fun x w => OwnS 0 w x ∧ ∀ g', SameT x (busyS g' 2 0)) 0 0 W1 dn V wk) := hI
    clear hI a1 a2 a3 a4 a5
    refine wpOp_list 5 rfl ?_
    simp only [putAll, dstOf, List.getElem?_toArray, List.getElem?_cons_succ, List.getElem?_cons_zero, Act.put, List.setIfInBounds_toArray, List.set_cons_succ, List.set_cons_zero, a3'] at hK ⊢
    go_wp2_with fail
    have hI := HII.out
    exact hK _ _ hS ⟨hI.bel, hI.c3, hI.c4, hI.c8, hI.yd, hI.box, hI.got, fun _ => rfl, hI.n6, hI.n9, hI.n10⟩
  case zp6 =>
    intro dn V wk K hS hn hd hI hK
    have h3 : dn 3 = true := hd 3 (List.contains_iff_mem.1 (by kernel_rfl)) (by simp)
    obtain ⟨x, a1, a2, a3, a4, a5⟩ := hI.got (hI.c3 h3)
    have a3' := a3 h3
    have HII : Hid (CallI (fun x w => OwnS 0 w x ∧ ∀ g', SameT x (busyS g' 2 0)) 0 0 W1 dn V wk) := hI
    clear hI a1 a2 a3 a4 a5
    refine wpOp_list 6 rfl ?_
    simp only [putAll, dstOf, List.getElem?_toArray, List.getElem?_cons_succ, List.getElem?_cons_zero, Act.put, List.setIfInBounds_toArray, List.set_cons_succ, List.set_cons_zero, a3'] at hK ⊢
    go_wp2_with fail
    have hI := HII.out
    exact hK _ _ hS ⟨hI.bel, hI.c3, hI.c4, hI.c8, hI.yd, hI.box, hI.got, hI.n5, fun _ => rfl, hI.n9, hI.n10⟩
  case zp7 =>
    intro dn V wk K hS hn hd hI hK
    have HII : Hid (CallI (fun x w => OwnS 0 w x ∧ ∀ g', SameT x (busyS g' 2 0)) 0 0 W1 dn V wk) := hI
    have q := hI.bel.size
    clear hI
    refine wpOp_list 7 rfl ?_
    simp only [putAll, dstOf, List.getElem?_toArray, List.getElem?_cons_succ, List.getElem?_cons_zero, Act.put, List.setIfInBounds_toArray, List.set_cons_succ, List.set_cons_zero] at hK ⊢
    go_wp2_with fail
    have hI := HII.out
    have hBa := (Below.refl wk.heap.size wk).alloc (Nat.le_refl _) (.cells #[.slice .none 0 0, .slice .none 0 0, .slice .none 0 0, .slice .none 0 0, .slice .none 0 0, .slice .none 0 0, .slice .none 0 0] 31)
    have f8 : ¬ dn 8 = true := fun h => by rw [(hI.c8 h).2] at hn; cases hn
    refine hK _ _ (regrown_of_below (hI.bel.trans (hBa.mono q))) ⟨hI.bel.trans (hBa.mono q), hI.c3, hI.c4, fun h => absurd h f8, fun h0 => ?_, fun _ => ⟨wk.heap.size, rfl, q, _, Blk.mk' rfl rfl⟩, fun h2 => ?_, hI.n5, hI.n6, hI.n9, hI.n10⟩
    · obtain ⟨g1, g2, b0, b1, b2⟩ := hI.yd h0
      exact ⟨g1, g2, b0, b1.below hBa, b2.below hBa⟩
    · obtain ⟨x, a1, a2, a3, a4, a5⟩ := hI.got h2
      exact ⟨x, HRB.out x wk _ hBa a1, a2, a3, a4, fun h => absurd h f8⟩
  case zp8 =>
    intro dn V wk K hS hn hd hI hK
    have h7 : dn 7 = true := hd 7 (List.contains_iff_mem.1 (by kernel_rfl)) (by simp)
    have h4 : dn 4 = true := hd 4 (List.contains_iff_mem.1 (by kernel_rfl)) (by simp)
    have h2 := hI.c4 h4
    obtain ⟨B, hv7, hBW, f, hbk⟩ := hI.box h7
    obtain ⟨x, a1, a2, a3, a4, a5⟩ := hI.got h2
    have a4' := a4 h4
    have HII : Hid (CallI (fun x w => OwnS 0 w x ∧ ∀ g', SameT x (busyS g' 2 0)) 0 0 W1 dn V wk) := hI
    have HR : Hid ((fun x w => OwnS 0 w x ∧ ∀ g', SameT x (busyS g' 2 0)) x wk ∧ V 2 = .tuple #[.agg #[.slice x.on.a x.on.n x.on.c, .slice x.os.a x.os.n x.os.c, .slice x.hs.a x.hs.n x.hs.c, .slice x.ms.a x.ms.n x.ms.c, .slice x.si.a x.si.n x.si.c, .slice x.so.a x.so.n x.so.c, .slice x.sf.a x.sf.n x.sf.c], .int .i64 0, .int .i64 0] ∧ (dn 3 = true → V 3 = .tuple #[.agg #[.slice x.on.a x.on.n x.on.c, .slice x.os.a x.os.n x.os.c, .slice x.hs.a x.hs.n x.hs.c, .slice x.ms.a x.ms.n x.ms.c, .slice x.si.a x.si.n x.si.c, .slice x.so.a x.so.n x.so.c, .slice x.sf.a x.sf.n x.sf.c], .int .i64 0, .int .i64 0]) ∧ Blk wk B 31 7 f ∧ V 7 = .pointer (some ⟨B, 0, none⟩)) := ⟨a1, a2, a3, hbk, hv7⟩
    have hz := hbk
    have zl := hz.lt
    have zf0 := hz.frozen 0
    have zc0 := hz.cell (j := 0) (by decide)
    have zf1 := hz.frozen 1
    have zc1 := hz.cell (j := 1) (by decide)
    have zf2 := hz.frozen 2
    have zc2 := hz.cell (j := 2) (by decide)
    have zf3 := hz.frozen 3
    have zc3 := hz.cell (j := 3) (by decide)
    have zf4 := hz.frozen 4
    have zc4 := hz.cell (j := 4) (by decide)
    have zf5 := hz.frozen 5
    have zc5 := hz.cell (j := 5) (by decide)
    have zf6 := hz.frozen 6
    have zc6 := hz.cell (j := 6) (by decide)
    clear hI a1 a2 a3 a4 a5 hz hbk
    refine wpOp_list 8 rfl ?_
    simp only [putAll, dstOf, List.getElem?_toArray, List.getElem?_cons_succ, List.getElem?_cons_zero, Act.put, List.setIfInBounds_toArray, List.set_cons_succ, List.set_cons_zero, a4', hv7] at hK ⊢
    go_wp2_with fail
    have hI := HII.out
    have KZ := set7_blk HR.out.2.2.2.1 (.slice x.on.a x.on.n x.on.c) (.slice x.os.a x.os.n x.os.c) (.slice x.hs.a x.hs.n x.hs.c) (.slice x.ms.a x.ms.n x.ms.c) (.slice x.si.a x.si.n x.si.c) (.slice x.so.a x.so.n x.so.c) (.slice x.sf.a x.sf.n x.sf.c)
    have hbz := set7_below (b := B) hI.bel hBW (.slice x.on.a x.on.n x.on.c) (.slice x.os.a x.os.n x.os.c) (.slice x.hs.a x.hs.n x.hs.c) (.slice x.ms.a x.ms.n x.ms.c) (.slice x.si.a x.si.n x.si.c) (.slice x.so.a x.so.n x.so.c) (.slice x.sf.a x.sf.n x.sf.c)
    have hRz := HRS.out x wk B f HR.out.2.2.2.1 (.slice x.on.a x.on.n x.on.c) (.slice x.os.a x.os.n x.os.c) (.slice x.hs.a x.hs.n x.hs.c) (.slice x.ms.a x.ms.n x.ms.c) (.slice x.si.a x.si.n x.si.c) (.slice x.so.a x.so.n x.so.c) (.slice x.sf.a x.sf.n x.sf.c) HR.out.1
    unfold set7 at KZ hbz hRz
    refine hK undef _ (regrown_of_below hbz) ⟨hbz, hI.c3, hI.c4, fun _ => ⟨h2, h7⟩, fun h0 => ?_, fun _ => ⟨B, HR.out.2.2.2.2, hBW, _, KZ⟩, fun _ => ⟨x, hRz, HR.out.2.1, HR.out.2.2.1, fun _ => a4', fun _ B' hB' => ?_⟩, hI.n5, hI.n6, hI.n9, hI.n10⟩
    · obtain ⟨g1, g2, b0, b1, b2⟩ := hI.yd h0
      have s7 : ∀ (q : Nat) (t : TypeId) (m : Nat) (z : Nat → Value), t ≠ 31 → Blk wk q t m z → Blk (set7 wk B (.slice x.on.a x.on.n x.on.c) (.slice x.os.a x.os.n x.os.c) (.slice x.hs.a x.hs.n x.hs.c) (.slice x.ms.a x.ms.n x.ms.c) (.slice x.si.a x.si.n x.si.c) (.slice x.so.a x.so.n x.so.c) (.slice x.sf.a x.sf.n x.sf.c)) q t m z := fun q t m z ht hb => by
        have hne := Blk.ne2 hb HR.out.2.2.2.1 ht
        unfold set7
        exact ((((((hb.other (a := ⟨B, 0, none⟩) hne _).other (a := ⟨B, 1, none⟩) hne _).other (a := ⟨B, 2, none⟩) hne _).other (a := ⟨B, 3, none⟩) hne _).other (a := ⟨B, 4, none⟩) hne _).other (a := ⟨B, 5, none⟩) hne _).other (a := ⟨B, 6, none⟩) hne _
      unfold set7 at s7
      exact ⟨g1, g2, b0, s7 _ _ _ _ (by decide) b1, s7 _ _ _ _ (by decide) b2⟩
    · have e : V 7 = .pointer (some ⟨B', 0, none⟩) := hB'
      rw [HR.out.2.2.2.2] at e
      simp only [Value.pointer.injEq, Option.some.injEq, Addr.mk.injEq, and_true] at e
      subst e
      exact KZ.congr (fun j hj => by match j, hj with | 0, _ => rfl | 1, _ => rfl | 2, _ => rfl | 3, _ => rfl | 4, _ => rfl | 5, _ => rfl | 6, _ => rfl)
  case zp9 =>
    intro dn V wk K hS hn hd hI hK
    have a4' := hI.n5 (hd 5 (List.contains_iff_mem.1 (by kernel_rfl)) (by simp))
    have HII : Hid (CallI (fun x w => OwnS 0 w x ∧ ∀ g', SameT x (busyS g' 2 0)) 0 0 W1 dn V wk) := hI
    clear hI
    refine wpOp_list 9 rfl ?_
    simp only [putAll, dstOf, List.getElem?_toArray, List.getElem?_cons_succ, List.getElem?_cons_zero, Act.put, List.setIfInBounds_toArray, List.set_cons_succ, List.set_cons_zero, a4'] at hK ⊢
    go_wp2_with fail
    have hI := HII.out
    exact hK _ _ hS ⟨hI.bel, hI.c3, hI.c4, hI.c8, hI.yd, hI.box, hI.got, hI.n5, hI.n6, fun _ => rfl, hI.n10⟩
  case zp10 =>
    intro dn V wk K hS hn hd hI hK
    have a4' := hI.n6 (hd 6 (List.contains_iff_mem.1 (by kernel_rfl)) (by simp))
    have HII : Hid (CallI (fun x w => OwnS 0 w x ∧ ∀ g', SameT x (busyS g' 2 0)) 0 0 W1 dn V wk) := hI
    clear hI
    refine wpOp_list 10 rfl ?_
    simp only [putAll, dstOf, List.getElem?_toArray, List.getElem?_cons_succ, List.getElem?_cons_zero, Act.put, List.setIfInBounds_toArray, List.set_cons_succ, List.set_cons_zero, a4'] at hK ⊢
    go_wp2_with fail
    have hI := HII.out
    exact hK _ _ hS ⟨hI.bel, hI.c3, hI.c4, hI.c8, hI.yd, hI.box, hI.got, hI.n5, hI.n6, hI.n9, fun _ => rfl⟩
  case zdone =>
    intro dn V wk hS hd hI
    refine NoPanic.normal ?_
    obtain ⟨B, hv7, hBW, f, hbk⟩ := hI.box (hd 7 (by simp))
    obtain ⟨x, hR, a2, a3, a4, a5⟩ := hI.got (hd 2 (by simp))
    have hv9 := hI.n9 (hd 9 (by simp))
    have hv10 := hI.n10 (hd 10 (by simp))
    have KX := a5 (hd 8 (by simp)) B hv7
    have hBel := hI.bel
    clear hI a2 a3 a4 a5 hbk hd hS
    simp only [putAll, dstOf, List.getElem?_toArray, List.getElem?_cons_succ, List.getElem?_cons_zero, Act.put, List.setIfInBounds_toArray, List.set_cons_succ, List.set_cons_zero, hv7, hv9, hv10]
    have HB1 : Hid (Below W1.heap.size W1 wk) := HB1.out.trans (hBel.mono HB1.out.size)
    have HX1 : Hid (OwnS 0 wk x ∧ Blk wk B 31 7 (fun j => x.cells.getD j default)) := ⟨hR.1, KX⟩
    have HSX : Hid (∀ g', SameT x (busyS g' 2 0)) := hR.2
    have K1 := HK1.out wk HB1.out
    clear KX hR hv7 hv9 hv10 HRB HRS HTA
    have rs0 : ∀ d os, (grow (redrawn wk d) os).cell? ⟨B1, 0, none⟩ = some (.slice (some ⟨gx + 3, 0, none⟩) 3 3) := fun d os => cell_regrown (K1.cell (j := 0) (by decide)) d os
    have rs1 : ∀ d os, (grow (redrawn wk d) os).cell? ⟨B1, 1, none⟩ = some (.slice (some ⟨gx + 6, 0, none⟩) 2 2) := fun d os => cell_regrown (K1.cell (j := 1) (by decide)) d os
    have rs2 : ∀ d os, (grow (redrawn wk d) os).cell? ⟨B1, 2, none⟩ = some (.slice (some ⟨gx + 7, 4, none⟩) 2 2) := fun d os => cell_regrown (K1.cell (j := 2) (by decide)) d os
    have rs3 : ∀ d os, (grow (redrawn wk d) os).cell? ⟨B1, 3, none⟩ = some (.slice (some ⟨gx + 8, 0, none⟩) 1 1) := fun d os => cell_regrown (K1.cell (j := 3) (by decide)) d os
    have rs4 : ∀ d os, (grow (redrawn wk d) os).cell? ⟨B1, 4, none⟩ = some (.slice (some ⟨gx + 9, 0, none⟩) 2 2) := fun d os => cell_regrown (K1.cell (j := 4) (by decide)) d os
    have rs5 : ∀ d os, (grow (redrawn wk d) os).cell? ⟨B1, 5, none⟩ = some (.slice (some ⟨gx + 10, 0, none⟩) 2 2) := fun d os => cell_regrown (K1.cell (j := 5) (by decide)) d os
    have rs6 : ∀ d os, (grow (redrawn wk d) os).cell? ⟨B1, 6, none⟩ = some (.slice (some ⟨gx + 11, 0, none⟩) 2 2) := fun d os => cell_regrown (K1.cell (j := 6) (by decide)) d os
    have xl := K1.lt
    clear K1
    have HTB : Hid (∀ g1 g2 wk, (yardP g1 g2).At wk → (busyC gx).At wk → Calls Try.prog 15 #[(yardP g1 g2).val, (busyC gx).val, .int .i64 0, .int .i64 0, .int .i64 2, .int .i64 0] wk fun e w' => ∃ x : St, e = .returned (.tuple #[x.val, .int .i64 2, .int .i64 0]) ∧ (fun _ _ => True) x w' ∧ Below wk.heap.size wk w') := fun g1 g2 wk h1 h2 => by
      have h := Take_any (yardP g1 g2) (busyC gx) 0 0 2 0 wk h1 h2
      have e1 := (busyC2 g1 g2 gx).1
      rw [(busyC2 g1 g2 gx).2] at h
      refine h.mono fun e w' => ?_
      rintro ⟨x, rfl, h2, h3, h4, h5⟩
      rw [e1]
      exact ⟨x, rfl, trivial, h5⟩
    have HRB : Hid (∀ (x : St) (wk wj : World), Below wk.heap.size wk wj → (fun _ _ => True) x wk → (fun _ _ => True) x wj) := fun _ _ _ _ _ => trivial
    have HRS : Hid (∀ (x : St) (wk : World) (B : Nat) (f : Nat → Value), Blk wk B 31 7 f → ∀ v0 v1 v2 v3 v4 v5 v6, (fun _ _ => True) x wk → (fun _ _ => True) x (set7 wk B v0 v1 v2 v3 v4 v5 v6)) := fun _ _ _ _ _ _ _ _ _ _ _ _ _ => trivial
    go_wp2_with fail
    generalize hgp : wk = wp at *
    clear hgp
    generalize hgb : B = B2 at *
    clear hgb
    generalize hgx : x = x1 at *
    clear hgx
    refine wp_region_made7 (fun w' => ∃ p : Regrown, w' = grow (redrawn wp p.d) p.os) [1] [0, 2, 3, 4, 5, 6, 7, 8, 9, 10] (by kernel_rfl) (by kernel_rfl) (by kernel_rfl) (by kernel_rfl) (by kernel_rfl) (by kernel_rfl) (by kernel_rfl) (by kernel_rfl) (regrown_of_below ((Below.refl _ _).drew)) ?_
    simp only [picks, List.drop_succ_cons, List.drop_zero, List.take_succ_cons, List.take_zero, List.cons_append, List.nil_append]
    repeat (go_big_quiet_step (fail))
    refine wpQuiet_nil ?_
    clear rs0 rs1 rs2 rs3 rs4 rs5 rs6 xl
    refine ⟨CallI (fun _ _ => True) 2 0 wp, fun dn V w hS hd => ?zinit, List.forall_mem_cons.2 ⟨?zp0, List.forall_mem_cons.2 ⟨?zp2, List.forall_mem_cons.2 ⟨?zp3, List.forall_mem_cons.2 ⟨?zp4, List.forall_mem_cons.2 ⟨?zp5, List.forall_mem_cons.2 ⟨?zp6, List.forall_mem_cons.2 ⟨?zp7, List.forall_mem_cons.2 ⟨?zp8, List.forall_mem_cons.2 ⟨?zp9, List.forall_mem_cons.2 ⟨?zp10, List.forall_mem_nil _⟩⟩⟩⟩⟩⟩⟩⟩⟩⟩, ?zdone⟩
    case zinit =>
      have f : ∀ j, j ∈ [0, 2, 3, 4, 5, 6, 7, 8, 9, 10] → ¬ dn j = true := fun j hj h => by rw [hd j hj] at h; cases h
      exact ⟨below_of_regrown hS, fun h => absurd h (f 3 (by simp)), fun h => absurd h (f 4 (by simp)), fun h => absurd h (f 8 (by simp)), fun h => absurd h (f 0 (by simp)), fun h => absurd h (f 7 (by simp)), fun h => absurd h (f 2 (by simp)), fun h => absurd h (f 5 (by simp)), fun h => absurd h (f 6 (by simp)), fun h => absurd h (f 9 (by simp)), fun h => absurd h (f 10 (by simp))⟩
    case zp0 =>
      intro dn V wk K hS hn hd hI hK
      have HII : Hid (CallI (fun _ _ => True) 2 0 wp dn V wk) := hI
      have q := hI.bel.size
      clear hI
      refine wpOp_list 0 rfl ?_
      simp only [putAll, dstOf, List.getElem?_toArray, List.getElem?_cons_succ, List.getElem?_cons_zero, Act.put, List.setIfInBounds_toArray, List.set_cons_succ, List.set_cons_zero] at hK ⊢
      go_wp2_with fail
      refine (yard_any _).mono ?_
      rintro e wj ⟨g1, g2, rfl, -, -, k1, k2, hB2⟩
      go_wp2_with fail
      have hI := HII.out
      refine hK _ _ (regrown_of_below (hI.bel.trans (hB2.mono q))) ⟨hI.bel.trans (hB2.mono q), hI.c3, hI.c4, hI.c8, fun _ => ⟨g1, g2, rfl, k1, k2⟩, fun h7 => ?_, fun h2 => ?_, hI.n5, hI.n6, hI.n9, hI.n10⟩
      · obtain ⟨B, b1, b2, f, b3⟩ := hI.box h7
        exact ⟨B, b1, b2, f, b3.below hB2⟩
      · obtain ⟨x, a1, a2, a3, a4, a5⟩ := hI.got h2
        exact ⟨x, HRB.out x wk wj hB2 a1, a2, a3, a4, fun h8 B hb => (a5 h8 B hb).below hB2⟩
    case zp2 =>
      intro dn V wk K hS hn hd hI hK
      obtain ⟨g1, g2, hv0, k1, k2⟩ := hI.yd (hd 0 (List.contains_iff_mem.1 (by kernel_rfl)) (by simp))
      have HII : Hid (CallI (fun _ _ => True) 2 0 wp dn V wk) := hI
      have q := hI.bel.size
      clear hI
      have f3 : ¬ dn 3 = true := fun h => by rw [HII.out.c3 h] at hn; cases hn
      have f4 : ¬ dn 4 = true := fun h => by rw [HII.out.c4 h] at hn; cases hn
      have f8 : ¬ dn 8 = true := fun h => by rw [(HII.out.c8 h).1] at hn; cases hn
      refine wpOp_list 2 rfl ?_
      simp only [putAll, dstOf, List.getElem?_toArray, List.getElem?_cons_succ, List.getElem?_cons_zero, Act.put, List.setIfInBounds_toArray, List.set_cons_succ, List.set_cons_zero, hv0] at hK ⊢
      go_wp2_with fail
      refine (HTB.out g1 g2 wk (yardAt k1 k2) (HXA.out wk (HB1.out.trans (HII.out.bel.mono HB1.out.size)))).mono ?_
      rintro e wj ⟨x, rfl, hR, hB2⟩
      have HR : Hid ((fun _ _ => True) x wj) := hR
      clear hR k1 k2
      simp only [St.val]
      go_wp2_with fail
      have hI := HII.out
      refine hK _ _ (regrown_of_below (hI.bel.trans (hB2.mono q))) ⟨hI.bel.trans (hB2.mono q), fun _ => rfl, fun _ => rfl, fun h => absurd h f8, fun h0 => ?_, fun h7 => ?_, fun _ => ⟨x, HR.out, rfl, fun h => absurd h f3, fun h => absurd h f4, fun h => absurd h f8⟩, hI.n5, hI.n6, hI.n9, hI.n10⟩
      · obtain ⟨g1, g2, b0, b1, b2⟩ := hI.yd h0
        exact ⟨g1, g2, b0, b1.below hB2, b2.below hB2⟩
      · obtain ⟨B, b1, b2, f, b3⟩ := hI.box h7
        exact ⟨B, b1, b2, f, b3.below hB2⟩
    case zp3 =>
      intro dn V wk K hS hn hd hI hK
      have h2 : dn 2 = true := hd 2 (List.contains_iff_mem.1 (by kernel_rfl)) (by simp)
      obtain ⟨x, a1, a2, a3, a4, a5⟩ := hI.got h2
      have HII : Hid (CallI (fun _ _ => True) 2 0 wp dn V wk) := hI
      have HR : Hid ((fun _ _ => True) x wk ∧ V 2 = .tuple #[.agg #[.slice x.on.a x.on.n x.on.c, .slice x.os.a x.os.n x.os.c, .slice x.hs.a x.hs.n x.hs.c, .slice x.ms.a x.ms.n x.ms.c, .slice x.si.a x.si.n x.si.c, .slice x.so.a x.so.n x.so.c, .slice x.sf.a x.sf.n x.sf.c], .int .i64 2, .int .i64 0] ∧ (dn 4 = true → V 4 = .agg #[.slice x.on.a x.on.n x.on.c, .slice x.os.a x.os.n x.os.c, .slice x.hs.a x.hs.n x.hs.c, .slice x.ms.a x.ms.n x.ms.c, .slice x.si.a x.si.n x.si.c, .slice x.so.a x.so.n x.so.c, .slice x.sf.a x.sf.n x.sf.c]) ∧ (dn 8 = true → ∀ B, V 7 = .pointer (some ⟨B, 0, none⟩) → Blk wk B 31 7 (fun j => x.cells.getD j default))) := ⟨a1, a2, a4, a5⟩
      clear hI a1 a3 a4 a5
      refine wpOp_list 3 rfl ?_
      simp only [putAll, dstOf, List.getElem?_toArray, List.getElem?_cons_succ, List.getElem?_cons_zero, Act.put, List.setIfInBounds_toArray, List.set_cons_succ, List.set_cons_zero, a2] at hK ⊢
      go_wp2_with fail
      have hI := HII.out
      exact hK _ _ hS ⟨hI.bel, fun _ => h2, hI.c4, hI.c8, hI.yd, hI.box, fun _ => ⟨x, HR.out.1, HR.out.2.1, fun _ => rfl, HR.out.2.2.1, HR.out.2.2.2⟩, hI.n5, hI.n6, hI.n9, hI.n10⟩
    case zp4 =>
      intro dn V wk K hS hn hd hI hK
      have h3 : dn 3 = true := hd 3 (List.contains_iff_mem.1 (by kernel_rfl)) (by simp)
      have h2 := hI.c3 h3
      obtain ⟨x, a1, a2, a3, a4, a5⟩ := hI.got h2
      have a3' := a3 h3
      have HII : Hid (CallI (fun _ _ => True) 2 0 wp dn V wk) := hI
      have HR : Hid ((fun _ _ => True) x wk ∧ V 2 = .tuple #[.agg #[.slice x.on.a x.on.n x.on.c, .slice x.os.a x.os.n x.os.c, .slice x.hs.a x.hs.n x.hs.c, .slice x.ms.a x.ms.n x.ms.c, .slice x.si.a x.si.n x.si.c, .slice x.so.a x.so.n x.so.c, .slice x.sf.a x.sf.n x.sf.c], .int .i64 2, .int .i64 0] ∧ (dn 3 = true → V 3 = .tuple #[.agg #[.slice x.on.a x.on.n x.on.c, .slice x.os.a x.os.n x.os.c, .slice x.hs.a x.hs.n x.hs.c, .slice x.ms.a x.ms.n x.ms.c, .slice x.si.a x.si.n x.si.c, .slice x.so.a x.so.n x.so.c, .slice x.sf.a x.sf.n x.sf.c], .int .i64 2, .int .i64 0]) ∧ (dn 8 = true → ∀ B, V 7 = .pointer (some ⟨B, 0, none⟩) → Blk wk B 31 7 (fun j => x.cells.getD j default))) := ⟨a1, a2, a3, a5⟩
      clear hI a1 a2 a3 a4 a5
      refine wpOp_list 4 rfl ?_
      simp only [putAll, dstOf, List.getElem?_toArray, List.getElem?_cons_succ, List.getElem?_cons_zero, Act.put, List.setIfInBounds_toArray, List.set_cons_succ, List.set_cons_zero, a3'] at hK ⊢
      go_wp2_with fail
      have hI := HII.out
      exact hK _ _ hS ⟨hI.bel, hI.c3, fun _ => h2, hI.c8, hI.yd, hI.box, fun _ => ⟨x, HR.out.1, HR.out.2.1, HR.out.2.2.1, fun _ => rfl, HR.out.2.2.2⟩, hI.n5, hI.n6, hI.n9, hI.n10⟩
    case zp5 =>
      intro dn V wk K hS hn hd hI hK
      have h3 : dn 3 = true := hd 3 (List.contains_iff_mem.1 (by kernel_rfl)) (by simp)
      obtain ⟨x, a1, a2, a3, a4, a5⟩ := hI.got (hI.c3 h3)
      have a3' := a3 h3
      have HII : Hid (CallI (fun _ _ => True) 2 0 wp dn V wk) := hI
      clear hI a1 a2 a3 a4 a5
      refine wpOp_list 5 rfl ?_
      simp only [putAll, dstOf, List.getElem?_toArray, List.getElem?_cons_succ, List.getElem?_cons_zero, Act.put, List.setIfInBounds_toArray, List.set_cons_succ, List.set_cons_zero, a3'] at hK ⊢
      go_wp2_with fail
      have hI := HII.out
      exact hK _ _ hS ⟨hI.bel, hI.c3, hI.c4, hI.c8, hI.yd, hI.box, hI.got, fun _ => rfl, hI.n6, hI.n9, hI.n10⟩
    case zp6 =>
      intro dn V wk K hS hn hd hI hK
      have h3 : dn 3 = true := hd 3 (List.contains_iff_mem.1 (by kernel_rfl)) (by simp)
      obtain ⟨x, a1, a2, a3, a4, a5⟩ := hI.got (hI.c3 h3)
      have a3' := a3 h3
      have HII : Hid (CallI (fun _ _ => True) 2 0 wp dn V wk) := hI
      clear hI a1 a2 a3 a4 a5
      refine wpOp_list 6 rfl ?_
      simp only [putAll, dstOf, List.getElem?_toArray, List.getElem?_cons_succ, List.getElem?_cons_zero, Act.put, List.setIfInBounds_toArray, List.set_cons_succ, List.set_cons_zero, a3'] at hK ⊢
      go_wp2_with fail
      have hI := HII.out
      exact hK _ _ hS ⟨hI.bel, hI.c3, hI.c4, hI.c8, hI.yd, hI.box, hI.got, hI.n5, fun _ => rfl, hI.n9, hI.n10⟩
    case zp7 =>
      intro dn V wk K hS hn hd hI hK
      have HII : Hid (CallI (fun _ _ => True) 2 0 wp dn V wk) := hI
      have q := hI.bel.size
      clear hI
      refine wpOp_list 7 rfl ?_
      simp only [putAll, dstOf, List.getElem?_toArray, List.getElem?_cons_succ, List.getElem?_cons_zero, Act.put, List.setIfInBounds_toArray, List.set_cons_succ, List.set_cons_zero] at hK ⊢
      go_wp2_with fail
      have hI := HII.out
      have hBa := (Below.refl wk.heap.size wk).alloc (Nat.le_refl _) (.cells #[.slice .none 0 0, .slice .none 0 0, .slice .none 0 0, .slice .none 0 0, .slice .none 0 0, .slice .none 0 0, .slice .none 0 0] 31)
      have f8 : ¬ dn 8 = true := fun h => by rw [(hI.c8 h).2] at hn; cases hn
      refine hK _ _ (regrown_of_below (hI.bel.trans (hBa.mono q))) ⟨hI.bel.trans (hBa.mono q), hI.c3, hI.c4, fun h => absurd h f8, fun h0 => ?_, fun _ => ⟨wk.heap.size, rfl, q, _, Blk.mk' rfl rfl⟩, fun h2 => ?_, hI.n5, hI.n6, hI.n9, hI.n10⟩
      · obtain ⟨g1, g2, b0, b1, b2⟩ := hI.yd h0
        exact ⟨g1, g2, b0, b1.below hBa, b2.below hBa⟩
      · obtain ⟨x, a1, a2, a3, a4, a5⟩ := hI.got h2
        exact ⟨x, HRB.out x wk _ hBa a1, a2, a3, a4, fun h => absurd h f8⟩
    case zp8 =>
      intro dn V wk K hS hn hd hI hK
      have h7 : dn 7 = true := hd 7 (List.contains_iff_mem.1 (by kernel_rfl)) (by simp)
      have h4 : dn 4 = true := hd 4 (List.contains_iff_mem.1 (by kernel_rfl)) (by simp)
      have h2 := hI.c4 h4
      obtain ⟨B, hv7, hBW, f, hbk⟩ := hI.box h7
      obtain ⟨x, a1, a2, a3, a4, a5⟩ := hI.got h2
      have a4' := a4 h4
      have HII : Hid (CallI (fun _ _ => True) 2 0 wp dn V wk) := hI
      have HR : Hid ((fun _ _ => True) x wk ∧ V 2 = .tuple #[.agg #[.slice x.on.a x.on.n x.on.c, .slice x.os.a x.os.n x.os.c, .slice x.hs.a x.hs.n x.hs.c, .slice x.ms.a x.ms.n x.ms.c, .slice x.si.a x.si.n x.si.c, .slice x.so.a x.so.n x.so.c, .slice x.sf.a x.sf.n x.sf.c], .int .i64 2, .int .i64 0] ∧ (dn 3 = true → V 3 = .tuple #[.agg #[.slice x.on.a x.on.n x.on.c, .slice x.os.a x.os.n x.os.c, .slice x.hs.a x.hs.n x.hs.c, .slice x.ms.a x.ms.n x.ms.c, .slice x.si.a x.si.n x.si.c, .slice x.so.a x.so.n x.so.c, .slice x.sf.a x.sf.n x.sf.c], .int .i64 2, .int .i64 0]) ∧ Blk wk B 31 7 f ∧ V 7 = .pointer (some ⟨B, 0, none⟩)) := ⟨a1, a2, a3, hbk, hv7⟩
      have hz := hbk
      have zl := hz.lt
      have zf0 := hz.frozen 0
      have zc0 := hz.cell (j := 0) (by decide)
      have zf1 := hz.frozen 1
      have zc1 := hz.cell (j := 1) (by decide)
      have zf2 := hz.frozen 2
      have zc2 := hz.cell (j := 2) (by decide)
      have zf3 := hz.frozen 3
      have zc3 := hz.cell (j := 3) (by decide)
      have zf4 := hz.frozen 4
      have zc4 := hz.cell (j := 4) (by decide)
      have zf5 := hz.frozen 5
      have zc5 := hz.cell (j := 5) (by decide)
      have zf6 := hz.frozen 6
      have zc6 := hz.cell (j := 6) (by decide)
      clear hI a1 a2 a3 a4 a5 hz hbk
      refine wpOp_list 8 rfl ?_
      simp only [putAll, dstOf, List.getElem?_toArray, List.getElem?_cons_succ, List.getElem?_cons_zero, Act.put, List.setIfInBounds_toArray, List.set_cons_succ, List.set_cons_zero, a4', hv7] at hK ⊢
      go_wp2_with fail
      have hI := HII.out
      have KZ := set7_blk HR.out.2.2.2.1 (.slice x.on.a x.on.n x.on.c) (.slice x.os.a x.os.n x.os.c) (.slice x.hs.a x.hs.n x.hs.c) (.slice x.ms.a x.ms.n x.ms.c) (.slice x.si.a x.si.n x.si.c) (.slice x.so.a x.so.n x.so.c) (.slice x.sf.a x.sf.n x.sf.c)
      have hbz := set7_below (b := B) hI.bel hBW (.slice x.on.a x.on.n x.on.c) (.slice x.os.a x.os.n x.os.c) (.slice x.hs.a x.hs.n x.hs.c) (.slice x.ms.a x.ms.n x.ms.c) (.slice x.si.a x.si.n x.si.c) (.slice x.so.a x.so.n x.so.c) (.slice x.sf.a x.sf.n x.sf.c)
      have hRz := HRS.out x wk B f HR.out.2.2.2.1 (.slice x.on.a x.on.n x.on.c) (.slice x.os.a x.os.n x.os.c) (.slice x.hs.a x.hs.n x.hs.c) (.slice x.ms.a x.ms.n x.ms.c) (.slice x.si.a x.si.n x.si.c) (.slice x.so.a x.so.n x.so.c) (.slice x.sf.a x.sf.n x.sf.c) HR.out.1
      unfold set7 at KZ hbz hRz
      refine hK undef _ (regrown_of_below hbz) ⟨hbz, hI.c3, hI.c4, fun _ => ⟨h2, h7⟩, fun h0 => ?_, fun _ => ⟨B, HR.out.2.2.2.2, hBW, _, KZ⟩, fun _ => ⟨x, hRz, HR.out.2.1, HR.out.2.2.1, fun _ => a4', fun _ B' hB' => ?_⟩, hI.n5, hI.n6, hI.n9, hI.n10⟩
      · obtain ⟨g1, g2, b0, b1, b2⟩ := hI.yd h0
        have s7 : ∀ (q : Nat) (t : TypeId) (m : Nat) (z : Nat → Value), t ≠ 31 → Blk wk q t m z → Blk (set7 wk B (.slice x.on.a x.on.n x.on.c) (.slice x.os.a x.os.n x.os.c) (.slice x.hs.a x.hs.n x.hs.c) (.slice x.ms.a x.ms.n x.ms.c) (.slice x.si.a x.si.n x.si.c) (.slice x.so.a x.so.n x.so.c) (.slice x.sf.a x.sf.n x.sf.c)) q t m z := fun q t m z ht hb => by
          have hne := Blk.ne2 hb HR.out.2.2.2.1 ht
          unfold set7
          exact ((((((hb.other (a := ⟨B, 0, none⟩) hne _).other (a := ⟨B, 1, none⟩) hne _).other (a := ⟨B, 2, none⟩) hne _).other (a := ⟨B, 3, none⟩) hne _).other (a := ⟨B, 4, none⟩) hne _).other (a := ⟨B, 5, none⟩) hne _).other (a := ⟨B, 6, none⟩) hne _
        unfold set7 at s7
        exact ⟨g1, g2, b0, s7 _ _ _ _ (by decide) b1, s7 _ _ _ _ (by decide) b2⟩
      · have e : V 7 = .pointer (some ⟨B', 0, none⟩) := hB'
        rw [HR.out.2.2.2.2] at e
        simp only [Value.pointer.injEq, Option.some.injEq, Addr.mk.injEq, and_true] at e
        subst e
        exact KZ.congr (fun j hj => by match j, hj with | 0, _ => rfl | 1, _ => rfl | 2, _ => rfl | 3, _ => rfl | 4, _ => rfl | 5, _ => rfl | 6, _ => rfl)
    case zp9 =>
      intro dn V wk K hS hn hd hI hK
      have a4' := hI.n5 (hd 5 (List.contains_iff_mem.1 (by kernel_rfl)) (by simp))
      have HII : Hid (CallI (fun _ _ => True) 2 0 wp dn V wk) := hI
      clear hI
      refine wpOp_list 9 rfl ?_
      simp only [putAll, dstOf, List.getElem?_toArray, List.getElem?_cons_succ, List.getElem?_cons_zero, Act.put, List.setIfInBounds_toArray, List.set_cons_succ, List.set_cons_zero, a4'] at hK ⊢
      go_wp2_with fail
      have hI := HII.out
      exact hK _ _ hS ⟨hI.bel, hI.c3, hI.c4, hI.c8, hI.yd, hI.box, hI.got, hI.n5, hI.n6, fun _ => rfl, hI.n10⟩
    case zp10 =>
      intro dn V wk K hS hn hd hI hK
      have a4' := hI.n6 (hd 6 (List.contains_iff_mem.1 (by kernel_rfl)) (by simp))
      have HII : Hid (CallI (fun _ _ => True) 2 0 wp dn V wk) := hI
      clear hI
      refine wpOp_list 10 rfl ?_
      simp only [putAll, dstOf, List.getElem?_toArray, List.getElem?_cons_succ, List.getElem?_cons_zero, Act.put, List.setIfInBounds_toArray, List.set_cons_succ, List.set_cons_zero, a4'] at hK ⊢
      go_wp2_with fail
      have hI := HII.out
      exact hK _ _ hS ⟨hI.bel, hI.c3, hI.c4, hI.c8, hI.yd, hI.box, hI.got, hI.n5, hI.n6, hI.n9, fun _ => rfl⟩
    case zdone =>
      intro dn V wk hS hd hI
      refine NoPanic.normal ?_
      obtain ⟨B, hv7, hBW, f, hbk⟩ := hI.box (hd 7 (by simp))
      obtain ⟨x, hR, a2, a3, a4, a5⟩ := hI.got (hd 2 (by simp))
      have hv9 := hI.n9 (hd 9 (by simp))
      have hv10 := hI.n10 (hd 10 (by simp))
      have KX := a5 (hd 8 (by simp)) B hv7
      have hBel := hI.bel
      clear hI a2 a3 a4 a5 hbk hd hS
      simp only [putAll, dstOf, List.getElem?_toArray, List.getElem?_cons_succ, List.getElem?_cons_zero, Act.put, List.setIfInBounds_toArray, List.set_cons_succ, List.set_cons_zero, hv7, hv9, hv10]
      have HB1 : Hid (Below W1.heap.size W1 wk) := HB1.out.trans (hBel.mono HB1.out.size)
      have HX1 : Hid (OwnS 0 wk x1 ∧ Blk wk B2 31 7 (fun j => x1.cells.getD j default)) := ⟨OwnS.below HX1.out.1 hBel, HX1.out.2.below hBel⟩
      have K1 := HK1.out wk HB1.out
      clear KX hR hv7 hv9 hv10 HRB HRS HTB
      have rs0 : ∀ d os, (grow (redrawn wk d) os).cell? ⟨B1, 0, none⟩ = some (.slice (some ⟨gx + 3, 0, none⟩) 3 3) := fun d os => cell_regrown (K1.cell (j := 0) (by decide)) d os
      have rs1 : ∀ d os, (grow (redrawn wk d) os).cell? ⟨B1, 1, none⟩ = some (.slice (some ⟨gx + 6, 0, none⟩) 2 2) := fun d os => cell_regrown (K1.cell (j := 1) (by decide)) d os
      have rs2 : ∀ d os, (grow (redrawn wk d) os).cell? ⟨B1, 2, none⟩ = some (.slice (some ⟨gx + 7, 4, none⟩) 2 2) := fun d os => cell_regrown (K1.cell (j := 2) (by decide)) d os
      have rs3 : ∀ d os, (grow (redrawn wk d) os).cell? ⟨B1, 3, none⟩ = some (.slice (some ⟨gx + 8, 0, none⟩) 1 1) := fun d os => cell_regrown (K1.cell (j := 3) (by decide)) d os
      have rs4 : ∀ d os, (grow (redrawn wk d) os).cell? ⟨B1, 4, none⟩ = some (.slice (some ⟨gx + 9, 0, none⟩) 2 2) := fun d os => cell_regrown (K1.cell (j := 4) (by decide)) d os
      have rs5 : ∀ d os, (grow (redrawn wk d) os).cell? ⟨B1, 5, none⟩ = some (.slice (some ⟨gx + 10, 0, none⟩) 2 2) := fun d os => cell_regrown (K1.cell (j := 5) (by decide)) d os
      have rs6 : ∀ d os, (grow (redrawn wk d) os).cell? ⟨B1, 6, none⟩ = some (.slice (some ⟨gx + 11, 0, none⟩) 2 2) := fun d os => cell_regrown (K1.cell (j := 6) (by decide)) d os
      have xl := K1.lt
      clear K1
      have HTC : Hid (∀ g1 g2 wk, (yardP g1 g2).At wk → (busyC gx).At wk → Calls Try.prog 15 #[(yardP g1 g2).val, (busyC gx).val, .int .i64 1, .int .i64 0, .int .i64 0, .int .i64 (-1)] wk fun e w' => ∃ x : St, e = .returned (.tuple #[x.val, .int .i64 0, .int .i64 6]) ∧ (fun _ _ => True) x w' ∧ Below wk.heap.size wk w') := fun g1 g2 wk h1 h2 => by
        have h := Take_any (yardP g1 g2) (busyC gx) 1 0 0 (-1) wk h1 h2
        have e1 := (busyC3 g1 g2 gx).1
        rw [(busyC3 g1 g2 gx).2] at h
        refine h.mono fun e w' => ?_
        rintro ⟨x, rfl, h2, h3, h4, h5⟩
        rw [e1]
        exact ⟨x, rfl, trivial, h5⟩
      have HRB : Hid (∀ (x : St) (wk wj : World), Below wk.heap.size wk wj → (fun _ _ => True) x wk → (fun _ _ => True) x wj) := fun _ _ _ _ _ => trivial
      have HRS : Hid (∀ (x : St) (wk : World) (B : Nat) (f : Nat → Value), Blk wk B 31 7 f → ∀ v0 v1 v2 v3 v4 v5 v6, (fun _ _ => True) x wk → (fun _ _ => True) x (set7 wk B v0 v1 v2 v3 v4 v5 v6)) := fun _ _ _ _ _ _ _ _ _ _ _ _ _ => trivial
      go_wp2_with fail
      generalize hgq : wk = wq at *
      clear hgq
      refine wp_region_made7 (fun w' => ∃ p : Regrown, w' = grow (redrawn wq p.d) p.os) [1] [0, 2, 3, 4, 5, 6, 7, 8, 9, 10] (by kernel_rfl) (by kernel_rfl) (by kernel_rfl) (by kernel_rfl) (by kernel_rfl) (by kernel_rfl) (by kernel_rfl) (by kernel_rfl) (regrown_of_below ((Below.refl _ _).drew)) ?_
      simp only [picks, List.drop_succ_cons, List.drop_zero, List.take_succ_cons, List.take_zero, List.cons_append, List.nil_append]
      repeat (go_big_quiet_step (fail))
      refine wpQuiet_nil ?_
      clear rs0 rs1 rs2 rs3 rs4 rs5 rs6 xl
      refine ⟨CallI (fun _ _ => True) 0 6 wq, fun dn V w hS hd => ?zinit, List.forall_mem_cons.2 ⟨?zp0, List.forall_mem_cons.2 ⟨?zp2, List.forall_mem_cons.2 ⟨?zp3, List.forall_mem_cons.2 ⟨?zp4, List.forall_mem_cons.2 ⟨?zp5, List.forall_mem_cons.2 ⟨?zp6, List.forall_mem_cons.2 ⟨?zp7, List.forall_mem_cons.2 ⟨?zp8, List.forall_mem_cons.2 ⟨?zp9, List.forall_mem_cons.2 ⟨?zp10, List.forall_mem_nil _⟩⟩⟩⟩⟩⟩⟩⟩⟩⟩, ?zdone⟩
      case zinit =>
        have f : ∀ j, j ∈ [0, 2, 3, 4, 5, 6, 7, 8, 9, 10] → ¬ dn j = true := fun j hj h => by rw [hd j hj] at h; cases h
        exact ⟨below_of_regrown hS, fun h => absurd h (f 3 (by simp)), fun h => absurd h (f 4 (by simp)), fun h => absurd h (f 8 (by simp)), fun h => absurd h (f 0 (by simp)), fun h => absurd h (f 7 (by simp)), fun h => absurd h (f 2 (by simp)), fun h => absurd h (f 5 (by simp)), fun h => absurd h (f 6 (by simp)), fun h => absurd h (f 9 (by simp)), fun h => absurd h (f 10 (by simp))⟩
      case zp0 =>
        intro dn V wk K hS hn hd hI hK
        have HII : Hid (CallI (fun _ _ => True) 0 6 wq dn V wk) := hI
        have q := hI.bel.size
        clear hI
        refine wpOp_list 0 rfl ?_
        simp only [putAll, dstOf, List.getElem?_toArray, List.getElem?_cons_succ, List.getElem?_cons_zero, Act.put, List.setIfInBounds_toArray, List.set_cons_succ, List.set_cons_zero] at hK ⊢
        go_wp2_with fail
        refine (yard_any _).mono ?_
        rintro e wj ⟨g1, g2, rfl, -, -, k1, k2, hB2⟩
        go_wp2_with fail
        have hI := HII.out
        refine hK _ _ (regrown_of_below (hI.bel.trans (hB2.mono q))) ⟨hI.bel.trans (hB2.mono q), hI.c3, hI.c4, hI.c8, fun _ => ⟨g1, g2, rfl, k1, k2⟩, fun h7 => ?_, fun h2 => ?_, hI.n5, hI.n6, hI.n9, hI.n10⟩
        · obtain ⟨B, b1, b2, f, b3⟩ := hI.box h7
          exact ⟨B, b1, b2, f, b3.below hB2⟩
        · obtain ⟨x, a1, a2, a3, a4, a5⟩ := hI.got h2
          exact ⟨x, HRB.out x wk wj hB2 a1, a2, a3, a4, fun h8 B hb => (a5 h8 B hb).below hB2⟩
      case zp2 =>
        intro dn V wk K hS hn hd hI hK
        obtain ⟨g1, g2, hv0, k1, k2⟩ := hI.yd (hd 0 (List.contains_iff_mem.1 (by kernel_rfl)) (by simp))
        have HII : Hid (CallI (fun _ _ => True) 0 6 wq dn V wk) := hI
        have q := hI.bel.size
        clear hI
        have f3 : ¬ dn 3 = true := fun h => by rw [HII.out.c3 h] at hn; cases hn
        have f4 : ¬ dn 4 = true := fun h => by rw [HII.out.c4 h] at hn; cases hn
        have f8 : ¬ dn 8 = true := fun h => by rw [(HII.out.c8 h).1] at hn; cases hn
        refine wpOp_list 2 rfl ?_
        simp only [putAll, dstOf, List.getElem?_toArray, List.getElem?_cons_succ, List.getElem?_cons_zero, Act.put, List.setIfInBounds_toArray, List.set_cons_succ, List.set_cons_zero, hv0] at hK ⊢
        go_wp2_with fail
        refine (HTC.out g1 g2 wk (yardAt k1 k2) (HXA.out wk (HB1.out.trans (HII.out.bel.mono HB1.out.size)))).mono ?_
        rintro e wj ⟨x, rfl, hR, hB2⟩
        have HR : Hid ((fun _ _ => True) x wj) := hR
        clear hR k1 k2
        simp only [St.val]
        go_wp2_with fail
        have hI := HII.out
        refine hK _ _ (regrown_of_below (hI.bel.trans (hB2.mono q))) ⟨hI.bel.trans (hB2.mono q), fun _ => rfl, fun _ => rfl, fun h => absurd h f8, fun h0 => ?_, fun h7 => ?_, fun _ => ⟨x, HR.out, rfl, fun h => absurd h f3, fun h => absurd h f4, fun h => absurd h f8⟩, hI.n5, hI.n6, hI.n9, hI.n10⟩
        · obtain ⟨g1, g2, b0, b1, b2⟩ := hI.yd h0
          exact ⟨g1, g2, b0, b1.below hB2, b2.below hB2⟩
        · obtain ⟨B, b1, b2, f, b3⟩ := hI.box h7
          exact ⟨B, b1, b2, f, b3.below hB2⟩
      case zp3 =>
        intro dn V wk K hS hn hd hI hK
        have h2 : dn 2 = true := hd 2 (List.contains_iff_mem.1 (by kernel_rfl)) (by simp)
        obtain ⟨x, a1, a2, a3, a4, a5⟩ := hI.got h2
        have HII : Hid (CallI (fun _ _ => True) 0 6 wq dn V wk) := hI
        have HR : Hid ((fun _ _ => True) x wk ∧ V 2 = .tuple #[.agg #[.slice x.on.a x.on.n x.on.c, .slice x.os.a x.os.n x.os.c, .slice x.hs.a x.hs.n x.hs.c, .slice x.ms.a x.ms.n x.ms.c, .slice x.si.a x.si.n x.si.c, .slice x.so.a x.so.n x.so.c, .slice x.sf.a x.sf.n x.sf.c], .int .i64 0, .int .i64 6] ∧ (dn 4 = true → V 4 = .agg #[.slice x.on.a x.on.n x.on.c, .slice x.os.a x.os.n x.os.c, .slice x.hs.a x.hs.n x.hs.c, .slice x.ms.a x.ms.n x.ms.c, .slice x.si.a x.si.n x.si.c, .slice x.so.a x.so.n x.so.c, .slice x.sf.a x.sf.n x.sf.c]) ∧ (dn 8 = true → ∀ B, V 7 = .pointer (some ⟨B, 0, none⟩) → Blk wk B 31 7 (fun j => x.cells.getD j default))) := ⟨a1, a2, a4, a5⟩
        clear hI a1 a3 a4 a5
        refine wpOp_list 3 rfl ?_
        simp only [putAll, dstOf, List.getElem?_toArray, List.getElem?_cons_succ, List.getElem?_cons_zero, Act.put, List.setIfInBounds_toArray, List.set_cons_succ, List.set_cons_zero, a2] at hK ⊢
        go_wp2_with fail
        have hI := HII.out
        exact hK _ _ hS ⟨hI.bel, fun _ => h2, hI.c4, hI.c8, hI.yd, hI.box, fun _ => ⟨x, HR.out.1, HR.out.2.1, fun _ => rfl, HR.out.2.2.1, HR.out.2.2.2⟩, hI.n5, hI.n6, hI.n9, hI.n10⟩
      case zp4 =>
        intro dn V wk K hS hn hd hI hK
        have h3 : dn 3 = true := hd 3 (List.contains_iff_mem.1 (by kernel_rfl)) (by simp)
        have h2 := hI.c3 h3
        obtain ⟨x, a1, a2, a3, a4, a5⟩ := hI.got h2
        have a3' := a3 h3
        have HII : Hid (CallI (fun _ _ => True) 0 6 wq dn V wk) := hI
        have HR : Hid ((fun _ _ => True) x wk ∧ V 2 = .tuple #[.agg #[.slice x.on.a x.on.n x.on.c, .slice x.os.a x.os.n x.os.c, .slice x.hs.a x.hs.n x.hs.c, .slice x.ms.a x.ms.n x.ms.c, .slice x.si.a x.si.n x.si.c, .slice x.so.a x.so.n x.so.c, .slice x.sf.a x.sf.n x.sf.c], .int .i64 0, .int .i64 6] ∧ (dn 3 = true → V 3 = .tuple #[.agg #[.slice x.on.a x.on.n x.on.c, .slice x.os.a x.os.n x.os.c, .slice x.hs.a x.hs.n x.hs.c, .slice x.ms.a x.ms.n x.ms.c, .slice x.si.a x.si.n x.si.c, .slice x.so.a x.so.n x.so.c, .slice x.sf.a x.sf.n x.sf.c], .int .i64 0, .int .i64 6]) ∧ (dn 8 = true → ∀ B, V 7 = .pointer (some ⟨B, 0, none⟩) → Blk wk B 31 7 (fun j => x.cells.getD j default))) := ⟨a1, a2, a3, a5⟩
        clear hI a1 a2 a3 a4 a5
        refine wpOp_list 4 rfl ?_
        simp only [putAll, dstOf, List.getElem?_toArray, List.getElem?_cons_succ, List.getElem?_cons_zero, Act.put, List.setIfInBounds_toArray, List.set_cons_succ, List.set_cons_zero, a3'] at hK ⊢
        go_wp2_with fail
        have hI := HII.out
        exact hK _ _ hS ⟨hI.bel, hI.c3, fun _ => h2, hI.c8, hI.yd, hI.box, fun _ => ⟨x, HR.out.1, HR.out.2.1, HR.out.2.2.1, fun _ => rfl, HR.out.2.2.2⟩, hI.n5, hI.n6, hI.n9, hI.n10⟩
      case zp5 =>
        intro dn V wk K hS hn hd hI hK
        have h3 : dn 3 = true := hd 3 (List.contains_iff_mem.1 (by kernel_rfl)) (by simp)
        obtain ⟨x, a1, a2, a3, a4, a5⟩ := hI.got (hI.c3 h3)
        have a3' := a3 h3
        have HII : Hid (CallI (fun _ _ => True) 0 6 wq dn V wk) := hI
        clear hI a1 a2 a3 a4 a5
        refine wpOp_list 5 rfl ?_
        simp only [putAll, dstOf, List.getElem?_toArray, List.getElem?_cons_succ, List.getElem?_cons_zero, Act.put, List.setIfInBounds_toArray, List.set_cons_succ, List.set_cons_zero, a3'] at hK ⊢
        go_wp2_with fail
        have hI := HII.out
        exact hK _ _ hS ⟨hI.bel, hI.c3, hI.c4, hI.c8, hI.yd, hI.box, hI.got, fun _ => rfl, hI.n6, hI.n9, hI.n10⟩
      case zp6 =>
        intro dn V wk K hS hn hd hI hK
        have h3 : dn 3 = true := hd 3 (List.contains_iff_mem.1 (by kernel_rfl)) (by simp)
        obtain ⟨x, a1, a2, a3, a4, a5⟩ := hI.got (hI.c3 h3)
        have a3' := a3 h3
        have HII : Hid (CallI (fun _ _ => True) 0 6 wq dn V wk) := hI
        clear hI a1 a2 a3 a4 a5
        refine wpOp_list 6 rfl ?_
        simp only [putAll, dstOf, List.getElem?_toArray, List.getElem?_cons_succ, List.getElem?_cons_zero, Act.put, List.setIfInBounds_toArray, List.set_cons_succ, List.set_cons_zero, a3'] at hK ⊢
        go_wp2_with fail
        have hI := HII.out
        exact hK _ _ hS ⟨hI.bel, hI.c3, hI.c4, hI.c8, hI.yd, hI.box, hI.got, hI.n5, fun _ => rfl, hI.n9, hI.n10⟩
      case zp7 =>
        intro dn V wk K hS hn hd hI hK
        have HII : Hid (CallI (fun _ _ => True) 0 6 wq dn V wk) := hI
        have q := hI.bel.size
        clear hI
        refine wpOp_list 7 rfl ?_
        simp only [putAll, dstOf, List.getElem?_toArray, List.getElem?_cons_succ, List.getElem?_cons_zero, Act.put, List.setIfInBounds_toArray, List.set_cons_succ, List.set_cons_zero] at hK ⊢
        go_wp2_with fail
        have hI := HII.out
        have hBa := (Below.refl wk.heap.size wk).alloc (Nat.le_refl _) (.cells #[.slice .none 0 0, .slice .none 0 0, .slice .none 0 0, .slice .none 0 0, .slice .none 0 0, .slice .none 0 0, .slice .none 0 0] 31)
        have f8 : ¬ dn 8 = true := fun h => by rw [(hI.c8 h).2] at hn; cases hn
        refine hK _ _ (regrown_of_below (hI.bel.trans (hBa.mono q))) ⟨hI.bel.trans (hBa.mono q), hI.c3, hI.c4, fun h => absurd h f8, fun h0 => ?_, fun _ => ⟨wk.heap.size, rfl, q, _, Blk.mk' rfl rfl⟩, fun h2 => ?_, hI.n5, hI.n6, hI.n9, hI.n10⟩
        · obtain ⟨g1, g2, b0, b1, b2⟩ := hI.yd h0
          exact ⟨g1, g2, b0, b1.below hBa, b2.below hBa⟩
        · obtain ⟨x, a1, a2, a3, a4, a5⟩ := hI.got h2
          exact ⟨x, HRB.out x wk _ hBa a1, a2, a3, a4, fun h => absurd h f8⟩
      case zp8 =>
        intro dn V wk K hS hn hd hI hK
        have h7 : dn 7 = true := hd 7 (List.contains_iff_mem.1 (by kernel_rfl)) (by simp)
        have h4 : dn 4 = true := hd 4 (List.contains_iff_mem.1 (by kernel_rfl)) (by simp)
        have h2 := hI.c4 h4
        obtain ⟨B, hv7, hBW, f, hbk⟩ := hI.box h7
        obtain ⟨x, a1, a2, a3, a4, a5⟩ := hI.got h2
        have a4' := a4 h4
        have HII : Hid (CallI (fun _ _ => True) 0 6 wq dn V wk) := hI
        have HR : Hid ((fun _ _ => True) x wk ∧ V 2 = .tuple #[.agg #[.slice x.on.a x.on.n x.on.c, .slice x.os.a x.os.n x.os.c, .slice x.hs.a x.hs.n x.hs.c, .slice x.ms.a x.ms.n x.ms.c, .slice x.si.a x.si.n x.si.c, .slice x.so.a x.so.n x.so.c, .slice x.sf.a x.sf.n x.sf.c], .int .i64 0, .int .i64 6] ∧ (dn 3 = true → V 3 = .tuple #[.agg #[.slice x.on.a x.on.n x.on.c, .slice x.os.a x.os.n x.os.c, .slice x.hs.a x.hs.n x.hs.c, .slice x.ms.a x.ms.n x.ms.c, .slice x.si.a x.si.n x.si.c, .slice x.so.a x.so.n x.so.c, .slice x.sf.a x.sf.n x.sf.c], .int .i64 0, .int .i64 6]) ∧ Blk wk B 31 7 f ∧ V 7 = .pointer (some ⟨B, 0, none⟩)) := ⟨a1, a2, a3, hbk, hv7⟩
        have hz := hbk
        have zl := hz.lt
        have zf0 := hz.frozen 0
        have zc0 := hz.cell (j := 0) (by decide)
        have zf1 := hz.frozen 1
        have zc1 := hz.cell (j := 1) (by decide)
        have zf2 := hz.frozen 2
        have zc2 := hz.cell (j := 2) (by decide)
        have zf3 := hz.frozen 3
        have zc3 := hz.cell (j := 3) (by decide)
        have zf4 := hz.frozen 4
        have zc4 := hz.cell (j := 4) (by decide)
        have zf5 := hz.frozen 5
        have zc5 := hz.cell (j := 5) (by decide)
        have zf6 := hz.frozen 6
        have zc6 := hz.cell (j := 6) (by decide)
        clear hI a1 a2 a3 a4 a5 hz hbk
        refine wpOp_list 8 rfl ?_
        simp only [putAll, dstOf, List.getElem?_toArray, List.getElem?_cons_succ, List.getElem?_cons_zero, Act.put, List.setIfInBounds_toArray, List.set_cons_succ, List.set_cons_zero, a4', hv7] at hK ⊢
        go_wp2_with fail
        have hI := HII.out
        have KZ := set7_blk HR.out.2.2.2.1 (.slice x.on.a x.on.n x.on.c) (.slice x.os.a x.os.n x.os.c) (.slice x.hs.a x.hs.n x.hs.c) (.slice x.ms.a x.ms.n x.ms.c) (.slice x.si.a x.si.n x.si.c) (.slice x.so.a x.so.n x.so.c) (.slice x.sf.a x.sf.n x.sf.c)
        have hbz := set7_below (b := B) hI.bel hBW (.slice x.on.a x.on.n x.on.c) (.slice x.os.a x.os.n x.os.c) (.slice x.hs.a x.hs.n x.hs.c) (.slice x.ms.a x.ms.n x.ms.c) (.slice x.si.a x.si.n x.si.c) (.slice x.so.a x.so.n x.so.c) (.slice x.sf.a x.sf.n x.sf.c)
        have hRz := HRS.out x wk B f HR.out.2.2.2.1 (.slice x.on.a x.on.n x.on.c) (.slice x.os.a x.os.n x.os.c) (.slice x.hs.a x.hs.n x.hs.c) (.slice x.ms.a x.ms.n x.ms.c) (.slice x.si.a x.si.n x.si.c) (.slice x.so.a x.so.n x.so.c) (.slice x.sf.a x.sf.n x.sf.c) HR.out.1
        unfold set7 at KZ hbz hRz
        refine hK undef _ (regrown_of_below hbz) ⟨hbz, hI.c3, hI.c4, fun _ => ⟨h2, h7⟩, fun h0 => ?_, fun _ => ⟨B, HR.out.2.2.2.2, hBW, _, KZ⟩, fun _ => ⟨x, hRz, HR.out.2.1, HR.out.2.2.1, fun _ => a4', fun _ B' hB' => ?_⟩, hI.n5, hI.n6, hI.n9, hI.n10⟩
        · obtain ⟨g1, g2, b0, b1, b2⟩ := hI.yd h0
          have s7 : ∀ (q : Nat) (t : TypeId) (m : Nat) (z : Nat → Value), t ≠ 31 → Blk wk q t m z → Blk (set7 wk B (.slice x.on.a x.on.n x.on.c) (.slice x.os.a x.os.n x.os.c) (.slice x.hs.a x.hs.n x.hs.c) (.slice x.ms.a x.ms.n x.ms.c) (.slice x.si.a x.si.n x.si.c) (.slice x.so.a x.so.n x.so.c) (.slice x.sf.a x.sf.n x.sf.c)) q t m z := fun q t m z ht hb => by
            have hne := Blk.ne2 hb HR.out.2.2.2.1 ht
            unfold set7
            exact ((((((hb.other (a := ⟨B, 0, none⟩) hne _).other (a := ⟨B, 1, none⟩) hne _).other (a := ⟨B, 2, none⟩) hne _).other (a := ⟨B, 3, none⟩) hne _).other (a := ⟨B, 4, none⟩) hne _).other (a := ⟨B, 5, none⟩) hne _).other (a := ⟨B, 6, none⟩) hne _
          unfold set7 at s7
          exact ⟨g1, g2, b0, s7 _ _ _ _ (by decide) b1, s7 _ _ _ _ (by decide) b2⟩
        · have e : V 7 = .pointer (some ⟨B', 0, none⟩) := hB'
          rw [HR.out.2.2.2.2] at e
          simp only [Value.pointer.injEq, Option.some.injEq, Addr.mk.injEq, and_true] at e
          subst e
          exact KZ.congr (fun j hj => by match j, hj with | 0, _ => rfl | 1, _ => rfl | 2, _ => rfl | 3, _ => rfl | 4, _ => rfl | 5, _ => rfl | 6, _ => rfl)
      case zp9 =>
        intro dn V wk K hS hn hd hI hK
        have a4' := hI.n5 (hd 5 (List.contains_iff_mem.1 (by kernel_rfl)) (by simp))
        have HII : Hid (CallI (fun _ _ => True) 0 6 wq dn V wk) := hI
        clear hI
        refine wpOp_list 9 rfl ?_
        simp only [putAll, dstOf, List.getElem?_toArray, List.getElem?_cons_succ, List.getElem?_cons_zero, Act.put, List.setIfInBounds_toArray, List.set_cons_succ, List.set_cons_zero, a4'] at hK ⊢
        go_wp2_with fail
        have hI := HII.out
        exact hK _ _ hS ⟨hI.bel, hI.c3, hI.c4, hI.c8, hI.yd, hI.box, hI.got, hI.n5, hI.n6, fun _ => rfl, hI.n10⟩
      case zp10 =>
        intro dn V wk K hS hn hd hI hK
        have a4' := hI.n6 (hd 6 (List.contains_iff_mem.1 (by kernel_rfl)) (by simp))
        have HII : Hid (CallI (fun _ _ => True) 0 6 wq dn V wk) := hI
        clear hI
        refine wpOp_list 10 rfl ?_
        simp only [putAll, dstOf, List.getElem?_toArray, List.getElem?_cons_succ, List.getElem?_cons_zero, Act.put, List.setIfInBounds_toArray, List.set_cons_succ, List.set_cons_zero, a4'] at hK ⊢
        go_wp2_with fail
        have hI := HII.out
        exact hK _ _ hS ⟨hI.bel, hI.c3, hI.c4, hI.c8, hI.yd, hI.box, hI.got, hI.n5, hI.n6, hI.n9, fun _ => rfl⟩
      case zdone =>
        intro dn V wk hS hd hI
        refine NoPanic.normal ?_
        obtain ⟨B, hv7, hBW, f, hbk⟩ := hI.box (hd 7 (by simp))
        obtain ⟨x, hR, a2, a3, a4, a5⟩ := hI.got (hd 2 (by simp))
        have hv9 := hI.n9 (hd 9 (by simp))
        have hv10 := hI.n10 (hd 10 (by simp))
        have KX := a5 (hd 8 (by simp)) B hv7
        have hBel := hI.bel
        clear hI a2 a3 a4 a5 hbk hd hS
        simp only [putAll, dstOf, List.getElem?_toArray, List.getElem?_cons_succ, List.getElem?_cons_zero, Act.put, List.setIfInBounds_toArray, List.set_cons_succ, List.set_cons_zero, hv7, hv9, hv10]
        have HX2 : Hid (OwnS 0 wk x1 ∧ Blk wk B2 31 7 (fun j => x1.cells.getD j default)) := ⟨OwnS.below HX1.out.1 hBel, HX1.out.2.below hBel⟩
        have HBZ := HB1.out.trans (hBel.mono HB1.out.size)
        have HBZ' : Hid (Below w.heap.size w wk) := HWB.out.trans (HBZ.mono HWB.out.size)
        clear KX hR hv7 hv9 hv10 HRB HRS HTC HX1 HB1 HBZ
        obtain ⟨m1, p0, p1, p2, p3, p4, p5, p6⟩ := Boxed.of HX2.out.2
        have rq0 : ∀ d os, (grow (redrawn wk d) os).cell? ⟨B2, 0, none⟩ = some (.slice x1.on.a x1.on.n x1.on.c) := fun d os => cell_regrown p0 d os
        have rq1 : ∀ d os, (grow (redrawn wk d) os).cell? ⟨B2, 1, none⟩ = some (.slice x1.os.a x1.os.n x1.os.c) := fun d os => cell_regrown p1 d os
        have rq2 : ∀ d os, (grow (redrawn wk d) os).cell? ⟨B2, 2, none⟩ = some (.slice x1.hs.a x1.hs.n x1.hs.c) := fun d os => cell_regrown p2 d os
        have rq3 : ∀ d os, (grow (redrawn wk d) os).cell? ⟨B2, 3, none⟩ = some (.slice x1.ms.a x1.ms.n x1.ms.c) := fun d os => cell_regrown p3 d os
        have rq4 : ∀ d os, (grow (redrawn wk d) os).cell? ⟨B2, 4, none⟩ = some (.slice x1.si.a x1.si.n x1.si.c) := fun d os => cell_regrown p4 d os
        have rq5 : ∀ d os, (grow (redrawn wk d) os).cell? ⟨B2, 5, none⟩ = some (.slice x1.so.a x1.so.n x1.so.c) := fun d os => cell_regrown p5 d os
        have rq6 : ∀ d os, (grow (redrawn wk d) os).cell? ⟨B2, 6, none⟩ = some (.slice x1.sf.a x1.sf.n x1.sf.c) := fun d os => cell_regrown p6 d os
        have hX : Below wk.heap.size wk wk.drew := (Below.refl _ _).drew
        clear p0 p1 p2 p3 p4 p5 p6
        go_wp2_with fail
        refine wp_region_ordS (fun w' => ∃ p : Regrown, w' = grow (redrawn wk p.d) p.os) ((List.range' 0 19).map (fun i => (false, i)) ++ [(true, 19), (false, 20), (false, 21), (false, 22), (false, 23)]) (by kernel_rfl) (by kernel_rfl) (by kernel_rfl) (by kernel_rfl) (regrown_of_below hX) ?_
        refine wpOrdS_one 0 (by decide) ?_
        simp only [List.drop_zero, List.take_succ_cons, List.take_zero]
        go_wp2_with fail
        refine ⟨regrown_of_below hX, ?_⟩
        refine wpOrdS_one 1 (by decide) ?_
        simp only [List.drop_succ_cons, List.drop_zero, List.take_succ_cons, List.take_zero]
        go_wp2_with fail
        refine ⟨regrown_of_below hX, ?_⟩
        refine wpOrdS_one 2 (by decide) ?_
        simp only [List.drop_succ_cons, List.drop_zero, List.take_succ_cons, List.take_zero]
        go_wp2_with fail
        refine ⟨regrown_of_below hX, ?_⟩
        refine wpOrdS_one 3 (by decide) ?_
        simp only [List.drop_succ_cons, List.drop_zero, List.take_succ_cons, List.take_zero]
        go_wp2_with fail
        refine ⟨regrown_of_below hX, ?_⟩
        refine wpOrdS_one 4 (by decide) ?_
        simp only [List.drop_succ_cons, List.drop_zero, List.take_succ_cons, List.take_zero]
        go_wp2_with fail
        refine ⟨regrown_of_below hX, ?_⟩
        refine wpOrdS_one 5 (by decide) ?_
        simp only [List.drop_succ_cons, List.drop_zero, List.take_succ_cons, List.take_zero]
        go_wp2_with fail
        refine ⟨regrown_of_below hX, ?_⟩
        refine wpOrdS_one 6 (by decide) ?_
        simp only [List.drop_succ_cons, List.drop_zero, List.take_succ_cons, List.take_zero]
        go_wp2_with fail
        refine ⟨regrown_of_below hX, ?_⟩
        refine wpOrdS_one 7 (by decide) ?_
        simp only [List.drop_succ_cons, List.drop_zero, List.take_succ_cons, List.take_zero]
        go_wp2_with fail
        refine ⟨regrown_of_below hX, ?_⟩
        refine wpOrdS_one 8 (by decide) ?_
        simp only [List.drop_succ_cons, List.drop_zero, List.take_succ_cons, List.take_zero]
        go_wp2_with fail
        refine ⟨regrown_of_below hX, ?_⟩
        refine wpOrdS_one 9 (by decide) ?_
        simp only [List.drop_succ_cons, List.drop_zero, List.take_succ_cons, List.take_zero]
        go_wp2_with fail
        refine ⟨regrown_of_below hX, ?_⟩
        refine wpOrdS_one 10 (by decide) ?_
        simp only [List.drop_succ_cons, List.drop_zero, List.take_succ_cons, List.take_zero]
        go_wp2_with fail
        refine ⟨regrown_of_below hX, ?_⟩
        refine wpOrdS_one 11 (by decide) ?_
        simp only [List.drop_succ_cons, List.drop_zero, List.take_succ_cons, List.take_zero]
        go_wp2_with fail
        refine ⟨regrown_of_below hX, ?_⟩
        refine wpOrdS_one 12 (by decide) ?_
        simp only [List.drop_succ_cons, List.drop_zero, List.take_succ_cons, List.take_zero]
        go_wp2_with fail
        refine ⟨regrown_of_below hX, ?_⟩
        refine wpOrdS_one 13 (by decide) ?_
        simp only [List.drop_succ_cons, List.drop_zero, List.take_succ_cons, List.take_zero]
        go_wp2_with fail
        refine ⟨regrown_of_below hX, ?_⟩
        refine wpOrdS_one 14 (by decide) ?_
        simp only [List.drop_succ_cons, List.drop_zero, List.take_succ_cons, List.take_zero]
        go_wp2_with fail
        refine ⟨regrown_of_below hX, ?_⟩
        refine wpOrdS_one 15 (by decide) ?_
        simp only [List.drop_succ_cons, List.drop_zero, List.take_succ_cons, List.take_zero]
        go_wp2_with fail
        refine ⟨regrown_of_below hX, ?_⟩
        refine wpOrdS_one 16 (by decide) ?_
        simp only [List.drop_succ_cons, List.drop_zero, List.take_succ_cons, List.take_zero]
        go_wp2_with fail
        refine ⟨regrown_of_below hX, ?_⟩
        refine wpOrdS_one 17 (by decide) ?_
        simp only [List.drop_succ_cons, List.drop_zero, List.take_succ_cons, List.take_zero]
        go_wp2_with fail
        refine ⟨regrown_of_below hX, ?_⟩
        refine wpOrdS_one 18 (by decide) ?_
        simp only [List.drop_succ_cons, List.drop_zero, List.take_succ_cons, List.take_zero]
        go_wp2_with fail
        refine ⟨regrown_of_below hX, ?_⟩
        refine wpOrdS_first 19 rfl rfl ?_
        go_big_quiet_step (fail)
        refine wpQuiet_nil ?_
        refine wpOrdS_one 20 (by decide) ?_
        simp only [List.drop_succ_cons, List.drop_zero, List.take_succ_cons, List.take_zero]
        go_wp2_with fail
        refine (busy_any _).mono ?_
        rintro e wb ⟨gz, rfl, -, bz, hB⟩
        have hX := hX.trans (hB.mono hX.size)
        clear hB
        simp only [busyS, St.val]
        go_wp2_with fail
        refine ⟨regrown_of_below hX, ?_⟩
        refine wpOrdS_one 21 (by decide) ?_
        simp only [List.drop_succ_cons, List.drop_zero, List.take_succ_cons, List.take_zero]
        go_wp2_with fail
        refine (SameStates_yes x1 (busyS gz 2 0) wb (OwnS.below HX2.out.1 hX).at (busyAt bz) (HSX.out gz) (by have h : x1.os.n = 2 := (HSX.out gz).os.1; omega) (by have h : x1.ms.n = 1 := (HSX.out gz).ms.1; omega) (fun i hi => by
          have h : (x1.os.z i).ls.n = ((busyS gz 2 0).os.z i).ls.n := ((HSX.out gz).os.2 i hi).2.1
          have hn : x1.os.n = 2 := (HSX.out gz).os.1
          rw [h]
          have hi' : i < 2 := by omega
          match i, hi' with
          | 0, _ => show 2 ≤ 1000; omega
          | 1, _ => show 1 ≤ 1000; omega)).mono ?_
        rintro e wc ⟨rfl, hB⟩
        have hX := hX.trans (hB.mono hX.size)
        clear hB
        go_wp2_with fail
        refine ⟨regrown_of_below hX, ?_⟩
        refine wpOrdS_one 22 (by decide) ?_
        simp only [List.drop_succ_cons, List.drop_zero, List.take_succ_cons, List.take_zero]
        go_wp2_with fail
        refine ⟨regrown_of_below hX, ?_⟩
        refine wpOrdS_one 23 (by decide) ?_
        simp only [List.drop_succ_cons, List.drop_zero, List.take_succ_cons, List.take_zero]
        go_wp2_with fail
        refine ⟨regrown_of_below hX, ?_⟩
        refine NoPanic.normal ?_
        go_wp2_with fail
        go_ret
        exact ⟨rfl, HBZ'.out.trans (hX.mono HBZ'.out.size)⟩
end Go.Proofs.Ytbcacebifpagpac
namespace Go.Proofs.Ytbcacebifpagpac
open Go.RowKit
set_option linter.unusedVariables false
structure TakeIn (p : Pl) (s : St) (o l : Nat) (n : Int) : Prop where
  fm : Formed p s
  av : ∀ b, b < p.nb → 0 ≤ availZ s b ((s.os.z o).ls.z l).o.toNat
  on : o < s.os.n
  ln : l < (s.os.z o).ls.n
  n0 : 0 ≤ n
  bk : n ≤ ((s.os.z o).ls.z l).n
  sum : ((s.os.z o).ls.z l).n + keptS s.hs.z o l s.hs.n ≤ 200
def avT (s : St) (o l : Nat) (b : Int) : Int := availZ s b.toNat ((s.os.z o).ls.z l).o.toNat
theorem AllocIn.toTake {p : Pl} {s : St} {order line n but : Int} (h : AllocIn p s order line n but) : TakeIn p s order.toNat line.toNat n := by
  have r := rightT h.st
  have hg := h.good
  unfold lineAt at hg
  obtain ⟨a1, a2, a3⟩ := line_sum r h.on h.ln h.kd
  exact ⟨r.fm, fun b hb => (goods_no (r.goods _ (by omega))).2 b hb, h.on, h.ln, h.n0, h.bk, by omega⟩
section
variable {p : Pl} {s x : St} {o l : Nat} {n : Int} {L : List Int} {t : Tk}
theorem TakeIn.good (h : TakeIn p s o l n) : 0 ≤ ((s.os.z o).ls.z l).o ∧ ((s.os.z o).ls.z l).o < p.ns := (badLine_no (h.fm.line _ h.on _ h.ln)).1
theorem TakeIn.tk (h : TakeIn p s o l n) (hL : L.Pairwise (fun x y => ¬ x = y)) (hm : ∀ x, x ∈ L → 0 ≤ x ∧ x < p.nb) : TkOK (avT s o l) n L (Tk.go (avT s o l) n L) := by
  refine tkOK h.n0 hL (fun x hx => ?_) (fun x hx => ?_)
  · have := hm x hx
    exact h.av _ (by omega)
  · have := hm x hx
    have := h.fm.sh.pl.nb6
    omega
theorem TakeIn.inBins (hm : ∀ x, x ∈ L → 0 ≤ x ∧ x < p.nb) (k : TkOK (avT s o l) n L t) : ∀ b, ¬ t.took b = 0 → 0 ≤ b ∧ b < p.nb := fun b hb => by
  apply Classical.byContradiction
  intro hc
  exact hb (k.other b fun hbl => hc (hm b hbl))
theorem TakeIn.formed (h : TakeIn p s o l n) (hm : ∀ x, x ∈ L → 0 ≤ x ∧ x < p.nb) (k : TkOK (avT s o l) n L t) (T : Took s o l n t x) : Formed p x := by
  have h0 := k.left0
  have h1 := k.leftn
  have h2 := h.bk
  exact T.formed h.fm h.on h.ln (TakeIn.inBins hm k) (by omega) (by omega)
theorem TakeIn.availAt (h : TakeIn p s o l n) (hm : ∀ x, x ∈ L → 0 ≤ x ∧ x < p.nb) (k : TkOK (avT s o l) n L t) (T : Took s o l n t x) {b : Nat} (hb : b < p.nb) (hbL : ((b : Nat) : Int) ∉ L) : availZ x b ((s.os.z o).ls.z l).o.toNat = avT s o l b := by
  have hg := h.good
  rw [T.avail h.fm (h.formed hm k T) h.on h.ln hb (by omega), k.other b hbL]
  unfold avT
  rw [show ((b : Nat) : Int).toNat = b from rfl]
  split <;> omega
theorem TakeIn.addE (h : TakeIn p s o l n) (hm : ∀ x, x ∈ L → 0 ≤ x ∧ x < p.nb) (k : TkOK (avT s o l) n L t) (T : Took s o l n t x) {b : Int} (hb : 0 ≤ b ∧ b < p.nb) {m : Int} (hm0 : 0 < m) (hm1 : m ≤ t.left) :
    fineH (tookH o l b m) = true ∧ keptV x.hs.n x.hs.z o l b + m ≤ 200 ∧ Go.Proofs.Ytbcacebifpagpac.addE x.hs.n x.hs.z (tookH o l b m) = 0 := by
  have fx := h.formed hm k T
  have nb6 := fx.sh.pl.nb6
  have os4 := h.fm.os4
  have ls3 := (h.fm.lns _ h.on).2
  have ho := h.on
  have hl := h.ln
  have e := T.keptS h.fm k.sum o l
  rw [if_pos ⟨rfl, rfl⟩] at e
  have hs := h.sum
  have hbk := h.bk
  have hln := k.leftn
  obtain ⟨b', rfl⟩ := Int.eq_ofNat_of_zero_le hb.1
  have hkl := kept_le T.right o l (b := b') (by omega)
  have hk0 := (keptS_bd (z := s.hs.z) o l s.hs.n fun j hj => (fineH_true (right_fine h.fm.hold j hj)).2.2.2).1
  have hf : fineH (tookH o l b' m) = true := by
    unfold fineH tookH
    rw [inB_mk (by dsimp only; omega), inB_mk (by dsimp only; omega), inB_mk (by dsimp only; omega), inB_mk (by dsimp only; omega)]
    rfl
  refine ⟨hf, by omega, ?_⟩
  rw [addE_of T.right hf, if_neg]
  show ¬ 200 < keptV x.hs.n x.hs.z o l b' + m
  omega
end
end Go.Proofs.Ytbcacebifpagpac
namespace Go.Proofs.Ytbcacebifpagpac
open Go.RowKit Go.Shelf
set_option linter.unusedVariables false
theorem Hs.At.congr {w : World} {s : Hs} {z' : Nat → Hd} {n : Nat} (h : s.At w) (hn : s.n = n) (hz : ∀ j, j < s.n → s.z j = z' j) : Hs.At w ⟨s.a, n, s.c, z'⟩ := by
  subst hn
  refine ⟨h.le, h.cap, fun i hi => ?_, h.nilc⟩
  have := h.hds i hi
  rw [hz i hi] at this
  exact this
end Go.Proofs.Ytbcacebifpagpac
namespace Go.Proofs.Ytbcacebifpagpac
open Go.RowKit Go.Shelf Go.Sort
set_option linter.unusedVariables false
theorem with_addO (s : Hs) (h : Hd) (w : World) (hs : s.At w) (hr : anyB s.n (badH s.z) = false) (hf : fineH h = true) :
    Calls Try.prog 102 #[s.val, .int .i64 h.o, .int .i64 h.l, .int .i64 h.b, .int .i64 (keptV s.n s.z h.o h.l h.b + h.n)] w fun e w' => ∃ s' : Hs, e = .returned s'.val ∧ OwnH w.heap.size 65 w' s' ∧ s'.n = addLen s.n s.z h ∧ s'.z = addZ s.n s.z h ∧ Below w.heap.size w w' := by
  obtain ⟨p1, p2, p3⟩ := pos_key hr hf
  have hfh := fineH_true hf
  by_cases h0 : keptV s.n s.z h.o h.l h.b = 0
  · have no := kept_no hr h0
    have hst : ∀ j, addPos s.n s.z h ≤ j → j < s.n → keyH h < keyH (s.z j) := fun j hj hjn => by
      have a := p3 j hj hjn
      have b : ¬ keyH (s.z j) = keyH h := fun e => by
        have := key_match (right_fine hr j hjn) hf e
        rw [no j hjn] at this
        cases this
      omega
    rw [h0, Int.zero_add]
    have e1 : addLen s.n s.z h = s.n + 1 := if_pos h0
    have e2 : addZ s.n s.z h = insZ s.z (addPos s.n s.z h) h := if_pos h0
    rw [e1, e2]
    exact with_insO s h (addPos s.n s.z h) w hs hr (rng_of hf) p1 (fun hlt => hst _ (Nat.le_refl _) hlt) (by omega) p2 (fun j hj hjn => hst j (by omega) hjn)
  · obtain ⟨q1, q2, q3, q4, q5⟩ := kept_pos hr h0
    have hkey : keyH (s.z (dropI s.n s.z h.o h.l h.b)) = keyH h := match_key (n := h.n) q2
    have hp : dropI s.n s.z h.o h.l h.b = addPos s.n s.z h := by
      rcases Nat.lt_trichotomy (dropI s.n s.z h.o h.l h.b) (addPos s.n s.z h) with c | c | c
      · have := p2 _ c; omega
      · exact c
      · have := q4 _ c
        have := p3 _ (Nat.le_refl _) (by omega)
        omega
    rw [hp] at q1 q2 q3 q4 q5 hkey
    have hz := fineH_true (right_fine hr _ q1)
    have e1 : addLen s.n s.z h = s.n := if_neg h0
    have e2 : addZ s.n s.z h = setZ s.z (addPos s.n s.z h) ⟨h.o, h.l, h.b, keptV s.n s.z h.o h.l h.b + h.n⟩ := if_neg h0
    rw [e1, e2]
    exact with_setO s ⟨h.o, h.l, h.b, keptV s.n s.z h.o h.l h.b + h.n⟩ (addPos s.n s.z h) w hs hr ⟨hfh.1, hfh.2.1, hfh.2.2.1⟩ q1 hkey (by show ¬ keptV s.n s.z h.o h.l h.b + h.n = 0; omega) (fun j hj => by have := q4 j hj; rw [hkey] at this; exact this) (fun j hj hjn => by have := q5 j hj hjn; rw [hkey] at this; exact this)
theorem keptAt_b (s : Hs) (o l b : Int) (w : World) (hs : s.At w) :
    Calls Try.prog 103 #[s.val, .int .i64 o, .int .i64 l, .int .i64 b] w fun e w' => e = .returned (.int .i64 (keptV s.n s.z o l b)) ∧ Below w.heap.size w w' :=
  (keptAt_any s o l b w hs).mono fun e w' h => ⟨h.1, by rw [h.2]; exact Below.refl _ _⟩
end Go.Proofs.Ytbcacebifpagpac
namespace Go.Proofs.Ytbcacebifpagpac
open Go.RowKit Go.Shelf Go.Sort
set_option linter.unusedVariables false
def wayK (p : Pl) (but : Int) (k : Nat) : List Int := ((wayL p).take k).filter (fun b => !(b == but))
theorem wayK_succ {p : Pl} {but : Int} {k : Nat} (hk : k < (wayL p).length) : wayK p but (k + 1) = wayK p but k ++ if (wayL p).getD k 0 = but then [] else [(wayL p).getD k 0] := by
  unfold wayK
  rw [List.take_add_one, List.getElem?_eq_getElem hk, List.filter_append]
  have e : (wayL p).getD k 0 = (wayL p)[k] := by simp [List.getD, List.getElem?_eq_getElem hk]
  rw [e]
  congr 1
  by_cases h : (wayL p)[k] = but <;> simp [h]
theorem wayK_all (p : Pl) (but : Int) : wayK p but (wayL p).length = wayT p but := by unfold wayK wayT; rw [List.take_length]
theorem wayK_apart (p : Pl) (but : Int) (k : Nat) : (wayK p but k).Pairwise (fun x y => ¬ x = y) := (((way_pw p).imp fun h => h.1).sublist (List.take_sublist _ _)).filter _
theorem wayK_mem {p : Pl} {but x : Int} {k : Nat} (h : x ∈ wayK p but k) : x ∈ (wayL p).take k := (List.mem_filter.1 h).1
theorem wayK_in {p : Pl} {but x : Int} {k : Nat} (h : x ∈ wayK p but k) : 0 ≤ x ∧ x < p.nb := way_mem (List.mem_of_mem_take (wayK_mem h))
theorem wayK_new {p : Pl} {but : Int} {k : Nat} (hk : k < (wayL p).length) : (wayL p).getD k 0 ∉ wayK p but k := fun h => by
  have h1 := wayK_mem h
  have e : (wayL p).getD k 0 = (wayL p)[k] := by simp [List.getD, List.getElem?_eq_getElem hk]
  rw [e] at h1
  obtain ⟨j, hj, hj2⟩ := List.mem_iff_getElem.1 h1
  rw [List.length_take] at hj
  rw [List.getElem_take] at hj2
  have hp := List.pairwise_iff_getElem.1 (way_pw p) j k (by omega) hk (by omega)
  exact hp.1 hj2
def TakeJ (s : St) (o l : Nat) (n : Int) (t : Tk) (F : List Int) (A BX BL g : Nat) (wk : World) : Prop :=
  ∃ x : St, Took s o l n t x ∧ OwnS A wk x ∧ Blk wk BX 31 7 (fun j => x.cells.getD j default) ∧ Blk wk g 3 F.length (fun j => .int .i64 (F.getD j 0)) ∧ (x.os.z o).ls.a = some ⟨BL, 0, none⟩ ∧ Blk wk (BX + 1) 31 7 (fun _ => .slice .none 0 0)
def KeepL (w wk : World) : Prop := ∀ (q : Nat) (t : TypeId) (m : Nat) (f : Nat → Value), t ≠ 53 → Blk w q t m f → Blk wk q t m f
theorem KeepL.below {w wk wj : World} (h : KeepL w wk) (hB : Below wk.heap.size wk wj) : KeepL w wj := fun q t m f ht hb => (h q t m f ht hb).below hB
theorem KeepL.refl (w : World) : KeepL w w := fun _ _ _ _ _ h => h
theorem KeepL.setNew {w wk : World} (h : KeepL w wk) {B : Nat} (hB : w.heap.size ≤ B) (j : Nat) (u : Value) : KeepL w (wk.setCell ⟨B, j, none⟩ u) := fun q t m f ht hb => (h q t m f ht hb).other (a := ⟨B, j, none⟩) (by have := hb.lt; show q ≠ B; omega) u
theorem KeepL.setLine {w wk : World} (h : KeepL w wk) {B n : Nat} {z : Nat → Value} (hB : Blk wk B 53 n z) (j : Nat) (u : Value) : KeepL w (wk.setCell ⟨B, j, none⟩ u) := fun q t m f ht hb => (h q t m f ht hb).other (a := ⟨B, j, none⟩) (Blk.ne2 (h q t m f ht hb) hB ht) u
def DWith (A : Nat) (x : Hs) (h : Hd) (v : Value) (g : List Nat) (wk : World) : Prop := ∃ y : Hs, g = [] ∧ v = .slice y.a y.n y.c ∧ OwnH A 65 wk y ∧ y.n = addLen x.n x.z h ∧ y.z = addZ x.n x.z h
theorem DWith.below {A : Nat} {x : Hs} {h : Hd} {v : Value} {g : List Nat} {w w' : World} (k : DWith A x h v g w) (hB : Below w.heap.size w w') : DWith A x h v g w' := by
  obtain ⟨y, h1, h2, h3, h4⟩ := k
  exact ⟨y, h1, h2, h3.below hB, h4⟩
set_option maxRecDepth 100000 in
set_option maxHeartbeats 8000000 in
theorem take_any (p : Pl) (s : St) (o l A : Nat) (n but : Int) (w : World) (hp : p.At w) (hO : OwnS A w s) (hA : A ≤ w.heap.size) (hI : TakeIn p s o l n) :
    Calls Try.prog 50 #[p.val, s.val, .int .i64 (o : Int), .int .i64 (l : Int), .int .i64 n, .int .i64 but] w fun e w' => ∃ x : St, e = .returned (.tuple #[x.val, .int .i64 (Tk.go (avT s o l) n (wayT p but)).left]) ∧ Took s o l n (Tk.go (avT s o l) n (wayT p but)) x ∧ OwnS A w' x ∧ Below A w w' ∧ KeepL w w' := by
  obtain ⟨W0, hW, hWB, X0, Z0⟩ : ∃ W, (((w.alloc (.cells #[.slice p.ab p.nb p.cb, .slice p.sa p.ns p.cs] 25)).alloc (.cells s.cells 31)).alloc (.cells #[.slice .none 0 0, .slice .none 0 0, .slice .none 0 0, .slice .none 0 0, .slice .none 0 0, .slice .none 0 0, .slice .none 0 0] 31)) = W ∧ Below w.heap.size w W ∧ Blk W (w.heap.size + 1) 31 7 (fun j => s.cells.getD j default) ∧ Blk W (w.heap.size + 1 + 1) 31 7 (fun _ => .slice .none 0 0) :=
    ⟨_, rfl, (two_below _ _ _).alloc (by simp; omega) _, (Blk.mk' (by simp) rfl).alloc _, (Blk.mk' (cur := #[.slice .none 0 0, .slice .none 0 0, .slice .none 0 0, .slice .none 0 0, .slice .none 0 0, .slice .none 0 0, .slice .none 0 0]) (by simp) rfl).congr (fun j hj => by match j, hj with | 0, _ => rfl | 1, _ => rfl | 2, _ => rfl | 3, _ => rfl | 4, _ => rfl | 5, _ => rfl | 6, _ => rfl)⟩
  have HW : Hid (((w.alloc (.cells #[.slice p.ab p.nb p.cb, .slice p.sa p.ns p.cs] 25)).alloc (.cells #[.slice s.on.a s.on.n s.on.c, .slice s.os.a s.os.n s.os.c, .slice s.hs.a s.hs.n s.hs.c, .slice s.ms.a s.ms.n s.ms.c, .slice s.si.a s.si.n s.si.c, .slice s.so.a s.so.n s.so.c, .slice s.sf.a s.sf.n s.sf.c] 31)).alloc (.cells #[.slice .none 0 0, .slice .none 0 0, .slice .none 0 0, .slice .none 0 0, .slice .none 0 0, .slice .none 0 0, .slice .none 0 0] 31) = W0) := hW
  have HI : Hid (TakeIn p s o l n) := hI
  have HP : Hid (p.At W0) := hp.below hWB
  have leb := hp.leb
  have capb := hp.capb
  have nb1 := hI.fm.sh.pl.nb1
  have nb6 := hI.fm.sh.pl.nb6
  have ho := hI.on
  have hl := hI.ln
  unfold maxLen at capb
  have HX0 : Hid (OwnS A W0 s ∧ Blk W0 (w.heap.size + 1) 31 7 (fun j => s.cells.getD j default) ∧ Blk W0 (w.heap.size + 1 + 1) 31 7 (fun _ => .slice .none 0 0) ∧ Below A w W0) := ⟨OwnS.below hO hWB, X0, Z0, hWB.mono hA⟩
  clear hW X0 Z0 hp hO hI
  unfold Pl.val St.val
  go_enter Try.func50, Try.ntmps50
  go_wp2_with fail
  rw [HW.out]
  refine (WayOfOwn_any p W0 HP.out nb6).mono ?_
  rintro e w1 ⟨v, rfl, hown, hB1⟩
  have HWL : Hid ((wayL p).length = p.nb) := way_len p
  have hv : v ≠ .slice none 0 0 := by
    rintro rfl
    rcases hown.2 with ⟨_, h0⟩ | ⟨g2, cap2, cur2, h, _⟩
    · have := HWL.out; omega
    · cases h
  obtain ⟨g, c, rfl, hc1, hc2, hg, hk⟩ := Blk.ofOwns hown hv
  have hk2 : Blk w1 g 3 (wayL p).length (fun j => .int .i64 ((wayL p).getD j 0)) := by
    have h := hk.less (m := (wayL p).length) (by omega)
    refine h.congr fun j hj => ?_
    simp [List.getD, List.getElem?_eq_getElem hj]
  obtain ⟨hO0, X0, Z0, hA0⟩ := HX0.out
  have hO1 := OwnS.below hO0 hB1
  have X1 := X0.below hB1
  have Z1 := Z0.below hB1
  have hA1 := hA0.trans (hB1.mono (Nat.le_trans hA hWB.size))
  obtain ⟨gO, BL, f1, f2, f3, f4, f5, f6, f7, f8, f9, f10, f11, f12, f13, f14⟩ := hO1.lineCell ho hl
  have HINV : Hid (TakeJ s o l n (Tk.go (avT s o l) n (wayK p but 0)) (wayL p) A (w.heap.size + 1) BL g w1) := ⟨s, Took.start HI.out.fm.hold ⟨⟨rfl, fun _ _ => ⟨rfl, fun _ _ => rfl⟩⟩, ⟨rfl, fun _ _ => ⟨rfl, rfl, fun _ _ => rfl⟩⟩, ⟨rfl, fun _ _ => rfl⟩, ⟨rfl, fun _ _ => rfl⟩, ⟨rfl, fun _ _ => rfl⟩, ⟨rfl, fun _ _ => rfl⟩, ⟨rfl, fun _ _ => rfl⟩⟩, hO1, X1, hk2, f5, Z1⟩
  have HKP : Hid (KeepL w w1) := ((KeepL.refl w).below hWB).below hB1
  have HBA : Hid (Below A w w1 ∧ A ≤ BL ∧ w.heap.size + 1 < W0.heap.size ∧ W0.heap.size ≤ g) := ⟨hA1, f6, X0.lt, hg⟩
  have s1 : w1.cell? ⟨w.heap.size + 1, 1, none⟩ = some (.slice s.os.a s.os.n s.os.c) := X1.cell (j := 1) (by decide)
  have s2 := X1.lt
  have v1 := hO1.os.le
  have v2 := hO1.os.cap
  rw [f1] at s1
  unfold maxLen at v2 f9 hc2
  have qo : (0 : Int) ≤ (o : Int) := by omega
  have ql : (0 : Int) ≤ (l : Int) := by omega
  have hgd := HI.out.good
  obtain ⟨gd, hgv⟩ := Int.eq_ofNat_of_zero_le hgd.1
  have HGV : Hid (((s.os.z o).ls.z l).o = (gd : Int)) := hgv
  have hgdn : gd < p.ns := by omega
  rw [hgv] at f11
  clear hown hv hk hk2 hO0 X0 Z0 hA0 hO1 X1 Z1 hA1 f1 f2 f5 f6 f10 f12 f13 f14 HX0 HW HP hB1 hgd hgv hg
  go_wp2_with fail
  clear s1 s2 f3 f4 f7 f8 f9 f11 v1 v2
  go_loopw [4, 16] (fun nv kv wk => ∃ k : Nat, k ≤ (wayL p).length ∧ kv = .int .i64 k ∧ nv = .int .i64 (Tk.go (avT s o l) n (wayK p but k)).left ∧ Hid (TakeJ s o l n (Tk.go (avT s o l) n (wayK p but k)) (wayL p) A (w.heap.size + 1) BL g wk) ∧ Hid (Below A w wk) ∧ Hid (KeepL w wk)) (fun _ kv _ => (wayL p).length - (intOf kv).toNat)
  case atStart => exact ⟨0, Nat.zero_le _, rfl, rfl, HINV, HBA.out.1, HKP⟩
  case round =>
    clear HINV HKP
    obtain ⟨k, hk, rfl, rfl, HV, HBk, HKP⟩ := hrel
    have HTK : Hid (TkOK (avT s o l) n (wayK p but k) (Tk.go (avT s o l) n (wayK p but k))) := HI.out.tk (wayK_apart p but k) (fun x hx => wayK_in hx)
    have HSTEP : Hid (k < (wayL p).length → Tk.go (avT s o l) n (wayK p but (k + 1)) = if (wayL p).getD k 0 = but then Tk.go (avT s o l) n (wayK p but k) else (Tk.go (avT s o l) n (wayK p but k)).step (avT s o l) ((wayL p).getD k 0)) := fun h => by
      rw [wayK_succ h]
      by_cases hb : (wayL p).getD k 0 = but
      · rw [if_pos hb, if_pos hb, List.append_nil]
      · rw [if_neg hb, if_neg hb, Tk.go_more]
    have HEND : Hid (k = (wayL p).length → Tk.go (avT s o l) n (wayK p but k) = Tk.go (avT s o l) n (wayT p but)) := fun h => by rw [h, wayK_all]
    obtain ⟨x, hx⟩ := HV.out
    have HX : Hid (Took s o l n (Tk.go (avT s o l) n (wayK p but k)) x ∧ OwnS A wr x ∧ Blk wr (w.heap.size + 1) 31 7 (fun j => x.cells.getD j default) ∧ Blk wr g 3 (wayL p).length (fun j => .int .i64 ((wayL p).getD j 0)) ∧ (x.os.z o).ls.a = some ⟨BL, 0, none⟩ ∧ Blk wr (w.heap.size + 1 + 1) 31 7 (fun _ => .slice .none 0 0)) := hx
    obtain ⟨T, hTd⟩ : ∃ T, Tk.go (avT s o l) n (wayK p but k) = T := ⟨_, rfl⟩
    rw [hTd] at HTK HSTEP HEND HX ⊢
    clear hx HV hTd
    have tl0 := HTK.out.left0
    have tln := HTK.out.leftn
    have nbk := HI.out.bk
    by_cases hlt : k < (wayL p).length
    · have HS1 : Hid _ := HSTEP.out hlt
      obtain ⟨hbm0, hbm1⟩ := way_mem (List.mem_iff_getElem.2 ⟨k, hlt, rfl⟩ : (wayL p)[k] ∈ wayL p)
      have hbe : (wayL p).getD k 0 = (wayL p)[k] := by simp [List.getD, List.getElem?_eq_getElem hlt]
      have z0 := HX.out.2.2.2.1.cell (j := k) hlt
      have z1 := HX.out.2.2.2.1.lt
      rw [← hbe] at hbm0 hbm1
      obtain ⟨bv, hbv⟩ := Int.eq_ofNat_of_zero_le hbm0
      have HBV : Hid ((wayL p).getD k 0 = (bv : Int)) := hbv
      rw [hbv] at z0 hbm1
      have hbvn : bv < p.nb := by omega
      have hnew := wayK_new (but := but) hlt
      rw [hbv] at hnew
      have HFX : Hid (Formed p x) := HI.out.formed (fun x hx => wayK_in hx) HTK.out HX.out.1
      have HAX : Hid (availZ x bv gd = avT s o l bv) := by
        have h := HI.out.availAt (fun x hx => wayK_in hx) HTK.out HX.out.1 hbvn hnew
        rw [HGV.out] at h
        exact h
      have avb : -20000 ≤ avT s o l bv ∧ avT s o l bv ≤ 200 := by
        have f := HI.out.fm
        have h1 := f.sh.num bv (by rw [f.sh.n]; exact hbvn) gd hgdn
        have h2 := heldTo_bd (s := s) (b := bv) (g := gd) f.holdN
        have h3 := fromTo_bd (s := s) (b := bv) (g := gd) f.moveN
        have h4 := f.hs72
        have h5 := f.ms8
        unfold avT
        rw [HGV.out]
        show -20000 ≤ availZ s bv gd ∧ availZ s bv gd ≤ 200
        unfold availZ
        omega
      have HAVE : Hid (avT s o l ((wayL p).getD k 0) = avT s o l bv) := by show avT s o l ((wayL p).getD k 0) = _; rw [hbv]
      generalize hAVd : avT s o l (bv : Int) = AV at *
      clear hAVd hnew hbm0 hbm1 hbe
      have q0 : (0 : Int) ≤ (k : Int) := by omega
      obtain ⟨N, hN⟩ : ∃ N, T.left = N := ⟨_, rfl⟩
      have HN : Hid (T.left = N) := hN
      rw [hN] at tl0 tln ⊢
      clear hN
      have HMZ : Hid (∀ m, min N AV = m → min T.left (avT s o l ((wayL p).getD k 0)) = m) := fun m h => by rw [HAVE.out, HN.out]; exact h
      rw [hbv] at HS1
      clear hbv HSTEP HEND
      have hNb : N ≤ 200 := by
        have := HI.out.sum
        have := (keptS_bd (z := s.hs.z) o l s.hs.n fun j hj => (fineH_true (right_fine HI.out.fm.hold j hj)).2.2.2).1
        omega
      by_cases hbut : (bv : Int) = but
      · have hbd : ((bv : Int) == but) = true := by simpa using hbut
        have HNX : Hid (Tk.go (avT s o l) n (wayK p but (k + 1)) = T) := by
          show Tk.go (avT s o l) n (wayK p but (k + 1)) = T
          rw [HS1.out, if_pos hbut]
        clear hbut
        go_wp2_with fail
        go_roundw
        case rel => exact ⟨k + 1, by omega, by go_num, by rw [HNX.out, HN.out], by rw [HNX.out]; exact ⟨x, HX.out⟩, HBk, HKP⟩
        case measure => simp [intOf]; omega
      · have hbd : ((bv : Int) == but) = false := by simpa using hbut
        have HS2 : Hid (Tk.go (avT s o l) n (wayK p but (k + 1)) = T.step (avT s o l) (bv : Int)) := by
          show Tk.go (avT s o l) n (wayK p but (k + 1)) = _
          rw [HS1.out, if_neg hbut]
        clear hbut HS1
        have KX := HX.out.2.2.1
        obtain ⟨m1, p0, p1, p2, p3, p4, p5, p6⟩ := Boxed.of KX
        have HAL : Hid (Calls Try.prog 101 #[x.val, .int .i64 (bv : Int), .int .i64 (gd : Int)] wr fun e w' => e = .returned (.int .i64 AV) ∧ Below wr.heap.size wr w') := by
          have h := AvailOf_any p x bv gd wr HX.out.2.1.at HFX.out hbvn hgdn
          rw [HAX.out] at h
          exact h
        clear KX
        go_wp2_with fail
        refine HAL.out.mono ?_
        rintro e w9 ⟨rfl, hB9⟩
        clear m1 p0 p1 p2 p3 p4 p5 p6 HAL z0 z1
        have HBk9 : Hid (Below A w w9) := HBk.out.trans (hB9.mono (Nat.le_trans hA HBk.out.size))
        have HX9 : Hid (Took s o l n T x ∧ OwnS A w9 x ∧ Blk w9 (w.heap.size + 1) 31 7 (fun j => x.cells.getD j default) ∧ Blk w9 g 3 (wayL p).length (fun j => .int .i64 ((wayL p).getD j 0)) ∧ (x.os.z o).ls.a = some ⟨BL, 0, none⟩ ∧ Blk w9 (w.heap.size + 1 + 1) 31 7 (fun _ => .slice .none 0 0)) := ⟨HX.out.1, OwnS.below HX.out.2.1 hB9, HX.out.2.2.1.below hB9, HX.out.2.2.2.1.below hB9, HX.out.2.2.2.2.1, HX.out.2.2.2.2.2.below hB9⟩
        have HKP9 : Hid (KeepL w w9) := HKP.out.below hB9
        clear HX HBk hB9 HKP
        by_cases hm0 : min N AV ≤ 0
        · have hm1 : min N AV = 0 := by
            have := HI.out.av bv hbvn
            have e : avT s o l (bv : Int) = availZ s bv ((s.os.z o).ls.z l).o.toNat := rfl
            have := HAVE.out
            rw [HBV.out, e] at this
            omega
          have g1 : ¬ 0 < min N AV := by omega
          have g2 : decide (0 < min N AV) = false := decide_eq_false g1
          have HNX : Hid (TakeJ s o l n (Tk.go (avT s o l) n (wayK p but (k + 1))) (wayL p) A (w.heap.size + 1) BL g w9 ∧ (Tk.go (avT s o l) n (wayK p but (k + 1))).left = N) := by
            have e0 : min T.left (avT s o l (bv : Int)) = 0 := by have h := HMZ.out 0 hm1; rw [HBV.out] at h; exact h
            refine ⟨⟨x, ?_, HX9.out.2⟩, ?_⟩
            · rw [HS2.out]
              exact HX9.out.1.stepZero e0
            · rw [HS2.out]
              show T.left - min T.left _ = N
              rw [e0, HN.out]
              omega
          clear hm0
          go_wp2_with fail
          go_roundw
          case rel => exact ⟨k + 1, by omega, by go_num, by rw [HNX.out.2], HNX.out.1, HBk9, HKP9⟩
          case measure => simp [intOf]; omega
        · obtain ⟨MV, hMV⟩ : ∃ MV, min N AV = MV := ⟨_, rfl⟩
          have HM1 : Hid (min N AV = MV) := hMV
          have mv0 : 0 < MV := by omega
          have mv1 : MV ≤ N := by omega
          have g2 : decide (0 < MV) = true := decide_eq_true mv0
          have HAE : Hid (fineH (tookH o l bv MV) = true ∧ keptV x.hs.n x.hs.z o l bv + MV ≤ 200 ∧ addE x.hs.n x.hs.z (tookH o l bv MV) = 0) := HI.out.addE (fun x hx => wayK_in hx) HTK.out HX9.out.1 (b := (bv : Int)) ⟨by omega, by omega⟩ mv0 (by rw [HN.out]; exact mv1)
          have kv0 := (keptV_bd (fun j hj => (fineH_true (right_fine HX9.out.1.right j hj)).2.2.2) (o : Int) (l : Int) (bv : Int)).1
          have kv1 := HAE.out.2.1
          obtain ⟨KV, hKV⟩ : ∃ KV, keptV x.hs.n x.hs.z o l bv = KV := ⟨_, rfl⟩
          have HKV : Hid (keptV x.hs.n x.hs.z o l bv = KV) := hKV
          rw [hKV] at kv0 kv1
          clear hKV
          have KX := HX9.out.2.2.1
          have y2 : ∀ d os, (grow (redrawn w9 d) os).cell? ⟨w.heap.size + 1, 2, none⟩ = some (.slice x.hs.a x.hs.n x.hs.c) := fun d os => cell_regrown (KX.cell (j := 2) (by decide)) d os
          have y3 := KX.lt
          clear KX hm0
          go_wp2_with fail
          clear hMV
          refine wp_region_made6 (fun w' => ∃ p : Regrown, w' = grow (redrawn w9 p.d) p.os) [0, 1, 2, 3, 4, 5, 6, 7, 8, 9, 11] [10, 12, 13] [(true, 14), (true, 15)] (by kernel_rfl) (by kernel_rfl) (by kernel_rfl) (by kernel_rfl) (by kernel_rfl) (by kernel_rfl) (by kernel_rfl) (by kernel_rfl) (by kernel_rfl) (regrown_of_below ((Below.refl _ _).drew)) ?_
          simp only [picks, List.drop_succ_cons, List.drop_zero, List.take_succ_cons, List.take_zero, List.cons_append, List.nil_append]
          repeat (go_big_quiet_step (fail))
          refine wpQuiet_nil ?_
          clear y2
          refine ⟨fun j v g wk => match j with | 10 => g = [] ∧ v = .int .i64 KV | 12 => g = [] ∧ v = .int .i64 (KV + MV) | 13 => DWith w9.heap.size x.hs (tookH o l bv MV) v g wk | _ => True,
            List.forall_mem_cons.2 ⟨fun v g w w' hB h => h, List.forall_mem_cons.2 ⟨fun v g w w' hB h => h, List.forall_mem_cons.2 ⟨fun v g w w' hB h => DWith.below h hB, List.forall_mem_nil _⟩⟩⟩,
            List.forall_mem_cons.2 ⟨fun v g w h => by rw [h.1]; intro x hx; simp at hx, List.forall_mem_cons.2 ⟨fun v g w h => by rw [h.1]; intro x hx; simp at hx, List.forall_mem_cons.2 ⟨fun v g w h => by obtain ⟨_, h1, _⟩ := h; rw [h1]; intro x hx; simp at hx, List.forall_mem_nil _⟩⟩⟩,
            List.forall_mem_cons.2 ⟨?zt3, List.forall_mem_cons.2 ⟨?zt4, List.forall_mem_cons.2 ⟨?zt5, List.forall_mem_nil _⟩⟩⟩, ?ztdone⟩
          case zt3 =>
            intro V G wk K hS hd hA hK
            have hX := below_of_regrown hS
            refine wpOp_list 10 rfl ?_
            simp only [putAll, dstOf, List.getElem?_toArray, List.getElem?_cons_succ, List.getElem?_cons_zero, Act.put, List.setIfInBounds_toArray, List.set_cons_succ, List.set_cons_zero] at hK ⊢
            have HKA : Hid (Calls Try.prog 103 #[.slice x.hs.a x.hs.n x.hs.c, .int .i64 (o : Int), .int .i64 (l : Int), .int .i64 (bv : Int)] wk fun e w' => e = .returned (.int .i64 KV) ∧ Below wk.heap.size wk w') := by
              have h := keptAt_b x.hs o l bv wk (HX9.out.2.1.hs.at.below hX)
              rw [HKV.out] at h
              exact h
            go_wp2_with fail
            refine HKA.out.mono ?_
            rintro e w2 ⟨rfl, hB2⟩
            go_wp2_with fail
            exact hK _ [] _ (regrown_of_below (hX.trans (hB2.mono hX.size))) hB2 (fun x hx => by simp at hx) ⟨rfl, rfl⟩
          case zt4 =>
            intro V G wk K hS hd hA hK
            obtain ⟨-, h10⟩ : (G 10 = [] ∧ V 10 = .int .i64 KV) := hd 10 (List.contains_iff_mem.1 (by kernel_rfl)) (by simp)
            refine wpOp_list 12 rfl ?_
            simp only [putAll, dstOf, List.getElem?_toArray, List.getElem?_cons_succ, List.getElem?_cons_zero, Act.put, List.setIfInBounds_toArray, List.set_cons_succ, List.set_cons_zero, h10] at hK ⊢
            go_wp2_with fail
            exact hK _ [] _ hS (Below.refl _ _) (fun x hx => by simp at hx) ⟨rfl, rfl⟩
          case zt5 =>
            intro V G wk K hS hd hA hK
            have hX := below_of_regrown hS
            have q := hX.size
            obtain ⟨-, h12⟩ : (G 12 = [] ∧ V 12 = .int .i64 (KV + MV)) := hd 12 (List.contains_iff_mem.1 (by kernel_rfl)) (by simp)
            refine wpOp_list 13 rfl ?_
            simp only [putAll, dstOf, List.getElem?_toArray, List.getElem?_cons_succ, List.getElem?_cons_zero, Act.put, List.setIfInBounds_toArray, List.set_cons_succ, List.set_cons_zero, h12] at hK ⊢
            have HWI : Hid (Calls Try.prog 102 #[.slice x.hs.a x.hs.n x.hs.c, .int .i64 (o : Int), .int .i64 (l : Int), .int .i64 (bv : Int), .int .i64 (KV + MV)] wk fun e w' => ∃ s' : Hs, e = .returned s'.val ∧ OwnH wk.heap.size 65 w' s' ∧ s'.n = addLen x.hs.n x.hs.z (tookH o l bv MV) ∧ s'.z = addZ x.hs.n x.hs.z (tookH o l bv MV) ∧ Below wk.heap.size wk w') := by
              have h := with_addO x.hs (tookH o l bv MV) wk (HX9.out.2.1.hs.at.below hX) HX9.out.1.right HAE.out.1
              rw [show keptV x.hs.n x.hs.z (tookH o l bv MV).o (tookH o l bv MV).l (tookH o l bv MV).b = KV from HKV.out] at h
              exact h
            go_wp2_with fail
            refine HWI.out.mono ?_
            rintro e w2 ⟨y, rfl, h1, h2, h3, hB2⟩
            have HR : Hid (OwnH w9.heap.size 65 w2 y ∧ y.n = addLen x.hs.n x.hs.z (tookH o l bv MV) ∧ y.z = addZ x.hs.n x.hs.z (tookH o l bv MV)) := ⟨h1.mono (by omega), h2, h3⟩
            clear h1 h2 h3
            simp only [Hs.val]
            go_wp2_with fail
            exact hK _ [] _ (regrown_of_below (hX.trans (hB2.mono hX.size))) hB2 (fun x hx => by simp at hx) ⟨y, rfl, rfl, HR.out⟩
          case ztdone =>
            intro V G' wk hS hD hA2
            obtain ⟨y, -, h13, yown, yn, yz⟩ : DWith w9.heap.size x.hs (tookH o l bv MV) (V 13) (G' 13) wk := hD 13 (by simp)
            have hX := below_of_regrown hS
            have yok : AddOK x.hs.n x.hs.z (tookH o l bv MV) y := ⟨by rw [if_pos HAE.out.2.2]; exact yn, fun j _ => by rw [yz]⟩
            have q9 := HBk9.out.size
            have qa := hX.size
            obtain ⟨b1, b2, b3, b4⟩ := HBA.out
            have hOa := OwnS.below HX9.out.2.1 hX
            have KA := HX9.out.2.2.1.below hX
            have FA := HX9.out.2.2.2.1.below hX
            have ZA := HX9.out.2.2.2.2.2.below hX
            have hBka := HBk9.out.trans (hX.mono (Nat.le_trans hA HBk9.out.size))
            have ho1 : o < x.os.n := by rw [HX9.out.1.os.1]; exact ho
            have hOb := (hOa.withHolds (yown.mono (by omega))).box KA 2 (.slice y.a y.n y.c)
            have KB := KA.set 2 (.slice y.a y.n y.c)
            have FB := FA.other (a := ⟨w.heap.size + 1, 2, none⟩) (Blk.ne2 FA KA (by decide)) (.slice y.a y.n y.c)
            have ZB := ZA.other (a := ⟨w.heap.size + 1, 2, none⟩) (by show w.heap.size + 1 + 1 ≠ w.heap.size + 1; omega) (.slice y.a y.n y.c)
            have hBb := hBka.setCell (p := ⟨w.heap.size + 1, 2, none⟩) (by show A ≤ w.heap.size + 1; omega) (.slice y.a y.n y.c)
            have hl1 : l < (x.os.z o).ls.n := by rw [(HX9.out.1.os.2 o ho1).2.1]; exact hl
            have hTn := HX9.out.1.stepAdd (av := avT s o l) (order := o) (line := l) (b := (bv : Int)) (m := MV) ho hl (by have h := HMZ.out MV HM1.out; rw [HBV.out] at h; exact h) HAE.out.2.2 yok
            have kpb := (HKP9.out.below hX).setNew (B := w.heap.size + 1) (by omega) 2 (.slice y.a y.n y.c)
            have z1 := KA.lt
            have z2 := KA.frozen 2
            have z3 := KA.cell (j := 2) (by decide)
            obtain ⟨WS, hWS⟩ : ∃ WS, wk.setCell ⟨w.heap.size + 1, 2, none⟩ (.slice y.a y.n y.c) = WS := ⟨_, rfl⟩
            have HWS : Hid (wk.setCell ⟨w.heap.size + 1, 2, none⟩ (.slice y.a y.n y.c) = WS) := hWS
            rw [hWS] at hOb KB FB ZB hBb kpb
            have HKPS : Hid (KeepL w WS) := kpb
            have HS9 : Hid (OwnS A WS (withHolds x y) ∧ Blk WS (w.heap.size + 1) 31 7 (fun i => if i = 2 then .slice y.a y.n y.c else x.cells.getD i default) ∧ Blk WS g 3 (wayL p).length (fun j => .int .i64 ((wayL p).getD j 0)) ∧ Blk WS (w.heap.size + 1 + 1) 31 7 (fun _ => .slice .none 0 0) ∧ Below A w WS ∧ Took s o l n (T.step (avT s o l) bv) (withHolds (setLine x o l 3 (((x.os.z o).ls.z l).n - MV)) y)) := ⟨hOb, KB, FB, ZB, hBb, hTn⟩
            have hXO : Hid (o < x.os.n ∧ l < (x.os.z o).ls.n ∧ (x.os.z o).ls.a = some ⟨BL, 0, none⟩ ∧ A ≤ BL) := ⟨ho1, hl1, HX9.out.2.2.2.2.1, b2⟩
            have HBXX : Hid (((x.os.z o).ls.z l).n = ((s.os.z o).ls.z l).n - (n - T.left)) := by
              show ((x.os.z o).ls.z l).n = _
              rw [(HX9.out.1.os.2 o ho1).2.2 l hl1, if_pos ⟨rfl, rfl⟩]
              rfl
            clear kpb HKP9 hS hD hA2 hX hOa KA FA ZA hBka hOb KB FB ZB hBb hTn yown yn yz yok hWS ho1 hl1 HX9 HBk9
            simp only [putAll, dstOf, List.getElem?_toArray, List.getElem?_cons_succ, List.getElem?_cons_zero, Act.put, List.setIfInBounds_toArray, List.set_cons_succ, List.set_cons_zero, h13]
            refine wpSeq_one 14 rfl ?_
            go_wp2_with fail
            refine ⟨Late.yes, ?_⟩
            refine wpSeq_one 15 rfl ?_
            go_wp2_with fail
            refine ⟨Late.yes, ?_⟩
            refine NoPanic.normal ?_
            rw [HWS.out]
            clear z1 z2 z3 HWS h13 b1 b2 b3 b4 q9 qa
            obtain ⟨ho1, hl1, hla1, hAB⟩ := hXO.out
            obtain ⟨gO, BL', f1, f2, f3, f4, f5, f6, f7, f8, f9, f10, f11, f12, f13, f14⟩ := HS9.out.1.lineCell (o := o) (l := l) ho1 hl1
            have f5' : (x.os.z o).ls.a = some ⟨BL', 0, none⟩ := f5
            rw [hla1] at f5'
            simp only [Option.some.injEq, Addr.mk.injEq, and_true] at f5'
            subst f5'
            have HF5 : Hid (((withHolds x y).os.z o).ls.a = some ⟨BL, 0, none⟩) := f5
            have s1 : WS.cell? ⟨w.heap.size + 1, 1, none⟩ = some (.slice x.os.a x.os.n x.os.c) := HS9.out.2.1.cell (j := 1) (by decide)
            have f1' : x.os.a = some ⟨gO, 0, none⟩ := f1
            rw [f1'] at s1
            have f4' : WS.cell? ⟨gO, o * 2 + 1, none⟩ = some (.slice (some ⟨BL, 0, none⟩) (x.os.z o).ls.n (x.os.z o).ls.c) := f4
            have f14' : WS.cell? ⟨BL, l * 4 + 3, none⟩ = some (.int .i64 ((x.os.z o).ls.z l).n) := f14
            obtain ⟨BK, hBK⟩ : ∃ BK, ((x.os.z o).ls.z l).n = BK := ⟨_, rfl⟩
            have HBK : Hid (((x.os.z o).ls.z l).n = BK) := hBK
            have bkb : -1000 ≤ BK ∧ BK ≤ 1000 := by
              rw [← hBK, HBXX.out]
              have := badLine_no (HI.out.fm.line o ho l hl)
              have := HN.out
              omega
            rw [hBK] at f14'
            have v1 : x.os.n ≤ x.os.c := HS9.out.1.os.le
            have v2 : x.os.c ≤ maxLen := HS9.out.1.os.cap
            have v3 : (x.os.z o).ls.n ≤ (x.os.z o).ls.c := f8
            have v4 : (x.os.z o).ls.c ≤ maxLen := f9
            unfold maxLen at v2 v4
            have t1 : ∀ d os, (grow (redrawn WS d) os).cell? ⟨w.heap.size + 1, 1, none⟩ = some (.slice (some ⟨gO, 0, none⟩) x.os.n x.os.c) := fun d os => cell_regrown s1 d os
            have t2 : ∀ d os, (grow (redrawn WS d) os).cell? ⟨gO, o * 2 + 1, none⟩ = some (.slice (some ⟨BL, 0, none⟩) (x.os.z o).ls.n (x.os.z o).ls.c) := fun d os => cell_regrown f4' d os
            have t3 : ∀ d os, (grow (redrawn WS d) os).cell? ⟨BL, l * 4 + 3, none⟩ = some (.int .i64 BK) := fun d os => cell_regrown f14' d os
            clear hBK f1 f2 f3 f4 f5 f6 f7 f8 f9 f10 f11 f12 f13 f14 s1 f1' f4' f14' hla1 hXO HBXX
            go_wp2_with fail
            refine wp_region_made5 (fun w' => ∃ p : Regrown, w' = grow (redrawn WS p.d) p.os) (List.range 21) [] [(true, 21)] (by kernel_rfl) (by kernel_rfl) (by kernel_rfl) (by kernel_rfl) (by kernel_rfl) (by kernel_rfl) (by kernel_rfl) (by kernel_rfl) (by kernel_rfl) (regrown_of_below ((Below.refl _ _).drew)) ?_
            rw [show List.range 21 = [0, 1, 2, 3, 4, 5, 6, 7, 8, 9, 10, 11, 12, 13, 14, 15, 16, 17, 18, 19, 20] from rfl]
            simp only [picks, List.drop_succ_cons, List.drop_zero, List.take_succ_cons, List.take_zero, List.cons_append, List.nil_append]
            repeat (go_big_quiet_step (fail))
            refine wpQuiet_nil ?_
            clear t1 t2 t3
            refine ⟨fun _ _ _ _ => True, List.forall_mem_nil _, List.forall_mem_nil _, List.forall_mem_nil _, fun V G wj hS _ _ => ?_⟩
            have hX := below_of_regrown hS
            have hOj := OwnS.below HS9.out.1 hX
            have Kj := HS9.out.2.1.below hX
            have Fj := HS9.out.2.2.1.below hX
            have Zj := HS9.out.2.2.2.1.below hX
            have hBj := HS9.out.2.2.2.2.1.trans (hX.mono (Nat.le_trans hA HS9.out.2.2.2.2.1.size))
            obtain ⟨B', hla', -, -, -, hlb⟩ := hOj.os.lines o ho1
            rw [HF5.out] at hla'
            simp only [Option.some.injEq, Addr.mk.injEq, and_true] at hla'
            subst hla'
            have zl := hlb.lt
            have zf := hlb.frozen (l * 4 + 3)
            obtain ⟨gq, Bq, -, -, -, -, g5, -, -, -, -, -, -, -, -, zc⟩ := hOj.lineCell (o := o) (l := l) ho1 hl1
            rw [HF5.out] at g5
            simp only [Option.some.injEq, Addr.mk.injEq, and_true] at g5
            subst g5
            have hOc := hOj.setLine (o := o) ho1 HF5.out l 3 (by decide) (BK - MV)
            have KC := Kj.other (a := ⟨BL, l * 4 + 3, none⟩) (Blk.ne2 Kj hlb (by decide)) (.int .i64 (BK - MV))
            have FC := Fj.other (a := ⟨BL, l * 4 + 3, none⟩) (Blk.ne2 Fj hlb (by decide)) (.int .i64 (BK - MV))
            have ZC := Zj.other (a := ⟨BL, l * 4 + 3, none⟩) (Blk.ne2 Zj hlb (by decide)) (.int .i64 (BK - MV))
            have kpc := (HKPS.out.below hX).setLine hlb (l * 4 + 3) (.int .i64 (BK - MV))
            have hBc := hBj.setCell (p := ⟨BL, l * 4 + 3, none⟩) (by show A ≤ BL; omega) (.int .i64 (BK - MV))
            have HNX : Hid (TakeJ s o l n (Tk.go (avT s o l) n (wayK p but (k + 1))) (wayL p) A (w.heap.size + 1) BL g (wj.setCell ⟨BL, l * 4 + 3, none⟩ (.int .i64 (BK - MV))) ∧ (Tk.go (avT s o l) n (wayK p but (k + 1))).left = N - MV ∧ Below A w (wj.setCell ⟨BL, l * 4 + 3, none⟩ (.int .i64 (BK - MV))) ∧ KeepL w (wj.setCell ⟨BL, l * 4 + 3, none⟩ (.int .i64 (BK - MV)))) := by
              refine ⟨⟨withHolds (setLine x o l 3 (BK - MV)) y, ?_, hOc, KC.congr (fun j hj => by match j, hj with | 0, _ => rfl | 1, _ => rfl | 2, _ => rfl | 3, _ => rfl | 4, _ => rfl | 5, _ => rfl | 6, _ => rfl), FC, ?_, ZC⟩, ?_, hBc, kpc⟩
              · rw [HS2.out]
                have h := HS9.out.2.2.2.2.2
                rw [HBK.out] at h
                exact h
              · exact ((setLine_n (s := x) (o := o) (l := l) (c := 3) (v := BK - MV) o).2.1).trans HF5.out
              · rw [HS2.out]
                show T.left - min T.left _ = N - MV
                have h := HMZ.out MV HM1.out
                rw [HBV.out] at h
                rw [h, HN.out]
            clear hOj Kj Fj Zj hBj hlb hOc KC FC ZC hBc kpc HKPS hX hS HS9
            have zc' : wj.cell? ⟨BL, l * 4 + 3, none⟩ = some (.int .i64 ((x.os.z o).ls.z l).n) := zc
            rw [HBK.out] at zc'
            clear zc
            simp only [putAll]
            refine wpSeq_one 21 rfl ?_
            go_wp2_with fail
            refine ⟨Late.yes, ?_⟩
            refine NoPanic.normal ?_
            go_wp2_with fail
            go_roundw
            case rel => exact ⟨k + 1, by omega, by go_num, by rw [HNX.out.2.1], HNX.out.1, HNX.out.2.2.1, HNX.out.2.2.2⟩
            case measure => simp [intOf]; omega
    · have hkn : k = (wayL p).length := by omega
      have HT : Hid (T = Tk.go (avT s o l) n (wayT p but)) := HEND.out hkn
      clear HEND HSTEP
      have KX := HX.out.2.2.1
      obtain ⟨m1, p0, p1, p2, p3, p4, p5, p6⟩ := Boxed.of KX
      have hz := HX.out.2.2.2.2.2
      have zl := hz.lt
      have zf0 := hz.frozen 0
      have zc0 := hz.cell (j := 0) (by decide)
      have zf1 := hz.frozen 1
      have zc1 := hz.cell (j := 1) (by decide)
      have zf2 := hz.frozen 2
      have zc2 := hz.cell (j := 2) (by decide)
      have zf3 := hz.frozen 3
      have zc3 := hz.cell (j := 3) (by decide)
      have zf4 := hz.frozen 4
      have zc4 := hz.cell (j := 4) (by decide)
      have zf5 := hz.frozen 5
      have zc5 := hz.cell (j := 5) (by decide)
      have zf6 := hz.frozen 6
      have zc6 := hz.cell (j := 6) (by decide)
      clear KX hz
      go_wp2_with fail
      have KZ := set7_blk HX.out.2.2.2.2.2 (.slice x.on.a x.on.n x.on.c) (.slice x.os.a x.os.n x.os.c) (.slice x.hs.a x.hs.n x.hs.c) (.slice x.ms.a x.ms.n x.ms.c) (.slice x.si.a x.si.n x.si.c) (.slice x.so.a x.so.n x.so.c) (.slice x.sf.a x.sf.n x.sf.c)
      have hbz := set7_below (b := w.heap.size + 1 + 1) HBk.out (by omega) (.slice x.on.a x.on.n x.on.c) (.slice x.os.a x.os.n x.os.c) (.slice x.hs.a x.hs.n x.hs.c) (.slice x.ms.a x.ms.n x.ms.c) (.slice x.si.a x.si.n x.si.c) (.slice x.so.a x.so.n x.so.c) (.slice x.sf.a x.sf.n x.sf.c)
      have hOz := OwnS.set7 HX.out.2.1 HX.out.2.2.2.2.2 (.slice x.on.a x.on.n x.on.c) (.slice x.os.a x.os.n x.os.c) (.slice x.hs.a x.hs.n x.hs.c) (.slice x.ms.a x.ms.n x.ms.c) (.slice x.si.a x.si.n x.si.c) (.slice x.so.a x.so.n x.so.c) (.slice x.sf.a x.sf.n x.sf.c)
      unfold set7 at KZ hbz hOz
      obtain ⟨c0', c1', c2', c3', c4', c5', c6'⟩ := box_cells KZ
      refine bodyPost_ret (v := .tuple #[x.val, .int .i64 T.left]) (by simp [results, Try.results50, go_sem, St.val, c0', c1', c2', c3', c4', c5', c6']) rfl ?_
      rw [← HT.out]
      refine ⟨x, rfl, HX.out.1, hOz, hbz, ?_⟩
      exact ((((((HKP.out.setNew (by omega) 0 _).setNew (by omega) 1 _).setNew (by omega) 2 _).setNew (by omega) 3 _).setNew (by omega) 4 _).setNew (by omega) 5 _).setNew (by omega) 6 _
end Go.Proofs.Ytbcacebifpagpac
namespace Go.Proofs.Ytbcacebifpagpac
open Go.RowKit
set_option linter.unusedVariables false
theorem Tk.go_congr {av av' : Int → Int} {n : Int} : ∀ {L : List Int} {t : Tk}, (∀ b, b ∈ L → av b = av' b) → L.foldl (Tk.step av) t = L.foldl (Tk.step av') t
  | [], _, _ => rfl
  | b :: L, t, h => by
    rw [List.foldl_cons, List.foldl_cons, show Tk.step av t b = Tk.step av' t b by unfold Tk.step; rw [h b (by simp)]]
    exact Tk.go_congr (n := n) fun c hc => h c (by simp [hc])
theorem TakeIn.same {p : Pl} {x s : St} {o l : Nat} {n : Int} (h : TakeIn p s o l n) (k : SameT x s) : TakeIn p x o l n := by
  have ho : o < x.os.n := by rw [k.os.1]; exact h.on
  have e := k.os.2 o ho
  have hl : l < (x.os.z o).ls.n := by rw [e.2.1]; exact h.ln
  have e3 := e.2.2 l hl
  have hg := h.good
  refine ⟨k.formed h.fm, fun b hb => ?_, ho, hl, h.n0, by rw [e3]; exact h.bk, ?_⟩
  · rw [e3, k.avail h.fm hb (by omega)]
    exact h.av b hb
  · rw [e3, k.hs.1, keptS_congr _ _ fun j hj => k.hs.2 j (by rw [k.hs.1]; exact hj)]
    exact h.sum
theorem Took.base {x0 s x : St} {o l : Nat} {n : Int} {t : Tk} (k : SameT x0 s) (h : Took x0 o l n t x) : Took s o l n t x := by
  have r := k
  refine ⟨⟨h.on.1.trans k.on.1, fun i hi => ?_⟩, ⟨h.os.1.trans k.os.1, fun i hi => ?_⟩, h.right, fun a b c => ?_, ⟨h.ms.1.trans k.ms.1, fun j hj => (h.ms.2 j hj).trans (k.ms.2 j (by rw [← h.ms.1]; exact hj))⟩, ⟨h.si.1.trans k.si.1, fun j hj => (h.si.2 j hj).trans (k.si.2 j (by rw [← h.si.1]; exact hj))⟩, ⟨h.so.1.trans k.so.1, fun j hj => (h.so.2 j hj).trans (k.so.2 j (by rw [← h.so.1]; exact hj))⟩, ⟨h.sf.1.trans k.sf.1, fun j hj => (h.sf.2 j hj).trans (k.sf.2 j (by rw [← h.sf.1]; exact hj))⟩⟩
  · have a := h.on.2 i hi
    have b := k.on.2 i (by rw [← h.on.1]; exact hi)
    exact ⟨a.1.trans b.1, fun j hj => (a.2 j hj).trans (b.2 j (by rw [← a.1]; exact hj))⟩
  · have a := h.os.2 i hi
    have b := k.os.2 i (by rw [← h.os.1]; exact hi)
    refine ⟨a.1.trans b.1, a.2.1.trans b.2.1, fun j hj => ?_⟩
    rw [a.2.2 j hj, b.2.2 j (by rw [← a.2.1]; exact hj)]
  · rw [h.kept, k.hs.1, keptV_congr fun j hj => k.hs.2 j (by rw [k.hs.1]; exact hj)]
theorem tk_same {p : Pl} {x s : St} {o l : Nat} {n but : Int} (h : TakeIn p s o l n) (k : SameT x s) : Tk.go (avT x o l) n (wayT p but) = Tk.go (avT s o l) n (wayT p but) := by
  unfold Tk.go
  refine Tk.go_congr (n := n) fun b hb => ?_
  have ho : o < x.os.n := by rw [k.os.1]; exact h.on
  have e := k.os.2 o ho
  have hl : l < (x.os.z o).ls.n := by rw [e.2.1]; exact h.ln
  have hg := h.good
  have hw := way_mem (wayT_mem.1 hb).1
  unfold avT
  rw [e.2.2 l hl]
  exact k.avail h.fm (by omega) (by omega)
end Go.Proofs.Ytbcacebifpagpac
namespace Go.Proofs.Ytbcacebifpagpac
open Go.RowKit Go.Shelf Go.Sort
set_option linter.unusedVariables false
structure TakeOfI (p : Pl) (s : St) (o l : Nat) (n but : Int) (W : World) (dn : Nat → Bool) (V : Nat → Value) (w : World) : Prop where
  bel : Below W.heap.size W w
  c8 : dn 8 = true → dn 7 = true
  c9 : dn 9 = true → dn 7 = true
  c10 : dn 10 = true → dn 7 = true
  c12 : dn 12 = true → dn 7 = true ∧ dn 11 = true
  c13 : dn 13 = true → dn 7 = true
  box : dn 11 = true → ∃ B, V 11 = .pointer (some ⟨B, 0, none⟩) ∧ W.heap.size ≤ B ∧ ∃ f, Blk w B 31 7 f
  own : dn 2 = true → dn 7 = false → ∃ x A, V 2 = .agg #[.slice x.on.a x.on.n x.on.c, .slice x.os.a x.os.n x.os.c, .slice x.hs.a x.hs.n x.hs.c, .slice x.ms.a x.ms.n x.ms.c, .slice x.si.a x.si.n x.si.c, .slice x.so.a x.so.n x.so.c, .slice x.sf.a x.sf.n x.sf.c] ∧ SameT x s ∧ OwnS A w x ∧ W.heap.size ≤ A ∧ A ≤ w.heap.size
  took : dn 7 = true → ∃ x, Took s o l n (Tk.go (avT s o l) n (wayT p but)) x ∧ OwnS W.heap.size w x ∧ V 7 = .tuple #[.agg #[.slice x.on.a x.on.n x.on.c, .slice x.os.a x.os.n x.os.c, .slice x.hs.a x.hs.n x.hs.c, .slice x.ms.a x.ms.n x.ms.c, .slice x.si.a x.si.n x.si.c, .slice x.so.a x.so.n x.so.c, .slice x.sf.a x.sf.n x.sf.c], .int .i64 (Tk.go (avT s o l) n (wayT p but)).left] ∧ (dn 8 = true → V 8 = .tuple #[.agg #[.slice x.on.a x.on.n x.on.c, .slice x.os.a x.os.n x.os.c, .slice x.hs.a x.hs.n x.hs.c, .slice x.ms.a x.ms.n x.ms.c, .slice x.si.a x.si.n x.si.c, .slice x.so.a x.so.n x.so.c, .slice x.sf.a x.sf.n x.sf.c], .int .i64 (Tk.go (avT s o l) n (wayT p but)).left]) ∧ (dn 9 = true → V 9 = .agg #[.slice x.on.a x.on.n x.on.c, .slice x.os.a x.os.n x.os.c, .slice x.hs.a x.hs.n x.hs.c, .slice x.ms.a x.ms.n x.ms.c, .slice x.si.a x.si.n x.si.c, .slice x.so.a x.so.n x.so.c, .slice x.sf.a x.sf.n x.sf.c]) ∧ (dn 12 = true → ∀ B, V 11 = .pointer (some ⟨B, 0, none⟩) → Blk w B 31 7 (fun j => x.cells.getD j default))
  num : dn 10 = true → V 10 = .int .i64 (Tk.go (avT s o l) n (wayT p but)).left
  last : dn 13 = true → V 13 = .int .i64 (Tk.go (avT s o l) n (wayT p but)).left
theorem TakeOfI.box' {p : Pl} {s : St} {o l : Nat} {n but : Int} {W : World} {dn : Nat → Bool} {V : Nat → Value} {w w' : World} (h : TakeOfI p s o l n but W dn V w) (hk : KeepL w w') : dn 11 = true → ∃ B, V 11 = .pointer (some ⟨B, 0, none⟩) ∧ W.heap.size ≤ B ∧ ∃ f, Blk w' B 31 7 f := fun h11 => by
  obtain ⟨B, a, b, f, c⟩ := h.box h11
  exact ⟨B, a, b, f, hk _ _ _ _ (by decide) c⟩
theorem TakeOfI.own' {p : Pl} {s : St} {o l : Nat} {n but : Int} {W : World} {dn : Nat → Bool} {V : Nat → Value} {w w' : World} (h : TakeOfI p s o l n but W dn V w) (hB : Below w.heap.size w w') : dn 2 = true → dn 7 = false → ∃ x A, V 2 = .agg #[.slice x.on.a x.on.n x.on.c, .slice x.os.a x.os.n x.os.c, .slice x.hs.a x.hs.n x.hs.c, .slice x.ms.a x.ms.n x.ms.c, .slice x.si.a x.si.n x.si.c, .slice x.so.a x.so.n x.so.c, .slice x.sf.a x.sf.n x.sf.c] ∧ SameT x s ∧ OwnS A w' x ∧ W.heap.size ≤ A ∧ A ≤ w'.heap.size := fun h2 h7 => by
  obtain ⟨x, A, a, b, c, d, e⟩ := h.own h2 h7
  exact ⟨x, A, a, b, OwnS.below c hB, d, Nat.le_trans e hB.size⟩
set_option maxRecDepth 100000 in
set_option maxHeartbeats 8000000 in
theorem TakeOf_any (p : Pl) (s : St) (order line n but : Int) (w : World) (hp : p.At w) (hs : s.At w) :
    Calls Try.prog 16 #[p.val, s.val, .int .i64 order, .int .i64 line, .int .i64 n, .int .i64 but] w fun e w' => ∃ x : St, e = .returned (.tuple #[x.val, .int .i64 (allocL p s order line n but), .int .i64 (allocE p s order line n but)]) ∧ x.At w' ∧ AllocOK p s order line n but x ∧ Below w.heap.size w w' := by
  obtain ⟨W0, hW, hWB, X0, Z0⟩ : ∃ W, (((w.alloc (.cells #[.slice p.ab p.nb p.cb, .slice p.sa p.ns p.cs] 25)).alloc (.cells s.cells 31)).alloc (.cells #[.slice .none 0 0, .slice .none 0 0, .slice .none 0 0, .slice .none 0 0, .slice .none 0 0, .slice .none 0 0, .slice .none 0 0] 31)) = W ∧ Below w.heap.size w W ∧ Boxes W w.heap.size (w.heap.size + 1) p s ∧ Blk W (w.heap.size + 2) 31 7 (fun _ => .slice .none 0 0) :=
    ⟨_, rfl, (two_below _ _ _).alloc (by simp; omega) _, (boxes_new w p s _ _).below ((Below.refl _ _).alloc (Nat.le_refl _) _), (Blk.mk' (cur := #[.slice .none 0 0, .slice .none 0 0, .slice .none 0 0, .slice .none 0 0, .slice .none 0 0, .slice .none 0 0, .slice .none 0 0]) (by simp) rfl).congr (fun j hj => by match j, hj with | 0, _ => rfl | 1, _ => rfl | 2, _ => rfl | 3, _ => rfl | 4, _ => rfl | 5, _ => rfl | 6, _ => rfl)⟩
  have HC : Hid (∀ wk, Below W0.heap.size W0 wk → Boxes wk w.heap.size (w.heap.size + 1) p s ∧ p.At wk ∧ s.At wk ∧ Below w.heap.size w wk ∧ Blk wk (w.heap.size + 2) 31 7 (fun _ => .slice .none 0 0)) := fun wk h => ⟨X0.below h, (hp.below hWB).below h, (hs.below hWB).below h, hWB.trans (h.mono hWB.size), Z0.below h⟩
  have HW : Hid (((w.alloc (.cells #[.slice p.ab p.nb p.cb, .slice p.sa p.ns p.cs] 25)).alloc (.cells #[.slice s.on.a s.on.n s.on.c, .slice s.os.a s.os.n s.os.c, .slice s.hs.a s.hs.n s.hs.c, .slice s.ms.a s.ms.n s.ms.c, .slice s.si.a s.si.n s.si.c, .slice s.so.a s.so.n s.so.c, .slice s.sf.a s.sf.n s.sf.c] 31)).alloc (.cells #[.slice .none 0 0, .slice .none 0 0, .slice .none 0 0, .slice .none 0 0, .slice .none 0 0, .slice .none 0 0, .slice .none 0 0] 31) = W0) := hW
  have leb := hp.leb
  have capb0 := hp.capb
  have les := hp.les
  have caps0 := hp.caps
  have capb := capb0
  have caps := caps0
  have zlt0 := Z0.lt
  unfold maxLen at capb caps
  clear hW X0 Z0 hp hs
  unfold Pl.val St.val
  go_enter Try.func16, Try.ntmps16
  go_wp2_with fail
  rw [HW.out]
  obtain ⟨X, hpk, hsk, hBw, hz⟩ := HC.out W0 (Below.refl _ _)
  refine (refCheckState_any p s W0 hpk hsk).mono ?_
  rintro e w1 ⟨rfl, hB⟩
  clear X hpk hsk hBw hz HW
  obtain ⟨⟨⟨l1, d0, d1⟩, l2, c0, c1, c2, c3, c4, c5, c6⟩, hpk, hsk, hBw, hz⟩ := HC.out w1 hB
  by_cases h0 : stateE p s = 0
  · have H0 : Hid (stateE p s = 0) := h0
    have HF : Hid (Formed p s) := (rightT h0).fm
    rw [h0]
    clear h0
    have os4 := HF.out.os4
    have HR : Hid (∀ a b c d e, inB order 0 ((s.os.n : Int) - 1) = a → inB line 0 (((s.os.z order.toNat).ls.n : Int) - 1) = b → inB n 0 200 = c → (but != -1) = d → inB but 0 ((p.nb : Int) - 1) = e → allocR p s order line n but = (!a || !b || !c || (d && !e))) := fun a b c d e e1 e2 e3 e4 e5 => by unfold allocR missL; rw [e1, e2, e3, e4, e5]
    cases m1 : inB order 0 ((s.os.n : Int) - 1)
    · have HX : Hid (allocE p s order line n but = 3 ∧ allocL p s order line n but = 0) := by
        have e : allocE p s order line n but = 3 := allocE_range H0.out (by rw [HR.out _ _ _ _ _ m1 rfl rfl rfl rfl]; rfl)
        exact ⟨e, by unfold allocL; rw [if_neg (by rw [e]; decide)]⟩
      clear hpk hsk HR
      have zl := hz.lt
      have zf0 := hz.frozen 0
      have zc0 := hz.cell (j := 0) (by decide)
      have zf1 := hz.frozen 1
      have zc1 := hz.cell (j := 1) (by decide)
      have zf2 := hz.frozen 2
      have zc2 := hz.cell (j := 2) (by decide)
      have zf3 := hz.frozen 3
      have zc3 := hz.cell (j := 3) (by decide)
      have zf4 := hz.frozen 4
      have zc4 := hz.cell (j := 4) (by decide)
      have zf5 := hz.frozen 5
      have zc5 := hz.cell (j := 5) (by decide)
      have zf6 := hz.frozen 6
      have zc6 := hz.cell (j := 6) (by decide)
      go_wp2_with (go_at_call 48; refine calls_to (within_any _ _ _ _) ?_)
      have KZ := set7_blk hz (.slice .none 0 0) (.slice .none 0 0) (.slice .none 0 0) (.slice .none 0 0) (.slice .none 0 0) (.slice .none 0 0) (.slice .none 0 0)
      have hbz := set7_below (b := w.heap.size + 2) hBw (by omega) (.slice .none 0 0) (.slice .none 0 0) (.slice .none 0 0) (.slice .none 0 0) (.slice .none 0 0) (.slice .none 0 0) (.slice .none 0 0)
      unfold set7 at KZ hbz
      obtain ⟨c0', c1', c2', c3', c4', c5', c6'⟩ := box_cells KZ
      refine bodyPost_ret (v := .tuple #[noneS.val, .int .i64 0, .int .i64 3]) (by simp [results, Try.results16, go_sem, noneS, St.val, c0', c1', c2', c3', c4', c5', c6']) rfl ?_
      exact ⟨noneS, by rw [HX.out.1, HX.out.2]; rfl, noneS_at _, ⟨fun h => absurd h (by rw [HX.out.1]; decide), fun _ => ⟨rfl, rfl, rfl, rfl, rfl, rfl, rfl⟩⟩, hbz⟩
    obtain ⟨o, rfl⟩ := Int.eq_ofNat_of_zero_le (inB_true m1).1
    have ho : o < s.os.n := by have := (inB_true m1).2; omega
    have ls3 := HF.out.lns o ho
    have qo : (0 : Int) ≤ (o : Int) := by omega
    have qo2 : (o : Int) < (s.os.n : Int) := by omega
    cases m2 : inB line 0 (((s.os.z o).ls.n : Int) - 1)
    · have HX : Hid (allocE p s o line n but = 3 ∧ allocL p s o line n but = 0) := by
        have e : allocE p s o line n but = 3 := allocE_range H0.out (by rw [HR.out _ _ _ _ _ m1 m2 rfl rfl rfl]; rfl)
        exact ⟨e, by unfold allocL; rw [if_neg (by rw [e]; decide)]⟩
      obtain ⟨bo, oo, hoa, hbo, z0, z1, hlk⟩ := hsk.os.ods o ho
      have v1 := hsk.os.le
      have v2 := hsk.os.cap
      have v3 := hlk.le
      have v4 := hlk.cap
      unfold maxLen at v2 v4
      rw [hoa] at c1
      clear hoa hlk hpk hsk
      clear HR
      have zl := hz.lt
      have zf0 := hz.frozen 0
      have zc0 := hz.cell (j := 0) (by decide)
      have zf1 := hz.frozen 1
      have zc1 := hz.cell (j := 1) (by decide)
      have zf2 := hz.frozen 2
      have zc2 := hz.cell (j := 2) (by decide)
      have zf3 := hz.frozen 3
      have zc3 := hz.cell (j := 3) (by decide)
      have zf4 := hz.frozen 4
      have zc4 := hz.cell (j := 4) (by decide)
      have zf5 := hz.frozen 5
      have zc5 := hz.cell (j := 5) (by decide)
      have zf6 := hz.frozen 6
      have zc6 := hz.cell (j := 6) (by decide)
      go_wp2_with (go_at_call 48; refine calls_to (within_any _ _ _ _) ?_)
      have KZ := set7_blk hz (.slice .none 0 0) (.slice .none 0 0) (.slice .none 0 0) (.slice .none 0 0) (.slice .none 0 0) (.slice .none 0 0) (.slice .none 0 0)
      have hbz := set7_below (b := w.heap.size + 2) hBw (by omega) (.slice .none 0 0) (.slice .none 0 0) (.slice .none 0 0) (.slice .none 0 0) (.slice .none 0 0) (.slice .none 0 0) (.slice .none 0 0)
      unfold set7 at KZ hbz
      obtain ⟨c0', c1', c2', c3', c4', c5', c6'⟩ := box_cells KZ
      refine bodyPost_ret (v := .tuple #[noneS.val, .int .i64 0, .int .i64 3]) (by simp [results, Try.results16, go_sem, noneS, St.val, c0', c1', c2', c3', c4', c5', c6']) rfl ?_
      exact ⟨noneS, by rw [HX.out.1, HX.out.2]; rfl, noneS_at _, ⟨fun h => absurd h (by rw [HX.out.1]; decide), fun _ => ⟨rfl, rfl, rfl, rfl, rfl, rfl, rfl⟩⟩, hbz⟩
    obtain ⟨l, rfl⟩ := Int.eq_ofNat_of_zero_le (inB_true m2).1
    have hl : l < (s.os.z o).ls.n := by have := (inB_true m2).2; omega
    have ql : (0 : Int) ≤ (l : Int) := by omega
    have ql2 : (l : Int) < ((s.os.z o).ls.n : Int) := by omega
    cases m3 : inB n 0 200
    · have HX : Hid (allocE p s o l n but = 3 ∧ allocL p s o l n but = 0) := by
        have e : allocE p s o l n but = 3 := allocE_range H0.out (by rw [HR.out _ _ _ _ _ m1 m2 m3 rfl rfl]; rfl)
        exact ⟨e, by unfold allocL; rw [if_neg (by rw [e]; decide)]⟩
      obtain ⟨bo, oo, hoa, hbo, z0, z1, hlk⟩ := hsk.os.ods o ho
      have v1 := hsk.os.le
      have v2 := hsk.os.cap
      have v3 := hlk.le
      have v4 := hlk.cap
      unfold maxLen at v2 v4
      rw [hoa] at c1
      clear hoa hlk hpk hsk
      clear HR
      have zl := hz.lt
      have zf0 := hz.frozen 0
      have zc0 := hz.cell (j := 0) (by decide)
      have zf1 := hz.frozen 1
      have zc1 := hz.cell (j := 1) (by decide)
      have zf2 := hz.frozen 2
      have zc2 := hz.cell (j := 2) (by decide)
      have zf3 := hz.frozen 3
      have zc3 := hz.cell (j := 3) (by decide)
      have zf4 := hz.frozen 4
      have zc4 := hz.cell (j := 4) (by decide)
      have zf5 := hz.frozen 5
      have zc5 := hz.cell (j := 5) (by decide)
      have zf6 := hz.frozen 6
      have zc6 := hz.cell (j := 6) (by decide)
      go_wp2_with (go_at_call 48; refine calls_to (within_any _ _ _ _) ?_)
      have KZ := set7_blk hz (.slice .none 0 0) (.slice .none 0 0) (.slice .none 0 0) (.slice .none 0 0) (.slice .none 0 0) (.slice .none 0 0) (.slice .none 0 0)
      have hbz := set7_below (b := w.heap.size + 2) hBw (by omega) (.slice .none 0 0) (.slice .none 0 0) (.slice .none 0 0) (.slice .none 0 0) (.slice .none 0 0) (.slice .none 0 0) (.slice .none 0 0)
      unfold set7 at KZ hbz
      obtain ⟨c0', c1', c2', c3', c4', c5', c6'⟩ := box_cells KZ
      refine bodyPost_ret (v := .tuple #[noneS.val, .int .i64 0, .int .i64 3]) (by simp [results, Try.results16, go_sem, noneS, St.val, c0', c1', c2', c3', c4', c5', c6']) rfl ?_
      exact ⟨noneS, by rw [HX.out.1, HX.out.2]; rfl, noneS_at _, ⟨fun h => absurd h (by rw [HX.out.1]; decide), fun _ => ⟨rfl, rfl, rfl, rfl, rfl, rfl, rfl⟩⟩, hbz⟩
    cases m4 : (but != -1)
    · have HA : Hid (allocR p s o l n but = false) := by show allocR p s o l n but = false; rw [HR.out _ _ _ _ _ m1 m2 m3 m4 rfl]; rfl
      clear HR
      have HPK : Hid (p.At w1 ∧ s.At w1) := ⟨hpk, hsk⟩
      obtain ⟨bo, oo, hoa, hbo, z0, z1, hlk⟩ := hsk.os.ods o ho
      obtain ⟨bl, ol, hla, hbl, y0, y1, y2, y3⟩ := hlk.hds l hl
      have v1 := hsk.os.le
      have v2 := hsk.os.cap
      have v3 := hlk.le
      have v4 := hlk.cap
      unfold maxLen at v2 v4
      have HT6 : Hid (¬ (s.os.z o).k = 1 → allocE p s o l n but = 6) := fun h => allocE_done H0.out HA.out h
      have HT3 : Hid ((s.os.z o).k = 1 → ((s.os.z o).ls.z l).n < n → allocE p s o l n but = 3) := fun h h' => allocE_back H0.out HA.out h h'
      have HT0 : Hid ((s.os.z o).k = 1 → ¬ ((s.os.z o).ls.z l).n < n → allocE p s o l n but = 0) := fun h h' => allocE_ok H0.out HA.out h h'
      have C0 : Hid (w1.cell? ⟨w.heap.size + 1, 0, none⟩ = some (.slice s.on.a s.on.n s.on.c)) := c0
      have C1 : Hid (w1.cell? ⟨w.heap.size + 1, 1, none⟩ = some (.slice s.os.a s.os.n s.os.c)) := c1
      have C2 : Hid (w1.cell? ⟨w.heap.size + 1, 2, none⟩ = some (.slice s.hs.a s.hs.n s.hs.c)) := c2
      have C3 : Hid (w1.cell? ⟨w.heap.size + 1, 3, none⟩ = some (.slice s.ms.a s.ms.n s.ms.c)) := c3
      have C4 : Hid (w1.cell? ⟨w.heap.size + 1, 4, none⟩ = some (.slice s.si.a s.si.n s.si.c)) := c4
      have C5 : Hid (w1.cell? ⟨w.heap.size + 1, 5, none⟩ = some (.slice s.so.a s.so.n s.so.c)) := c5
      have C6 : Hid (w1.cell? ⟨w.heap.size + 1, 6, none⟩ = some (.slice s.sf.a s.sf.n s.sf.c)) := c6
      have HOA : Hid (s.os.a = some ⟨bo, oo, none⟩) := hoa
      rw [hoa] at c1
      rw [hla] at z1
      clear hoa hla hlk y0 y1 y2 c0 c2 c3 c4 c5 c6 hpk hsk
      have HLN : Hid ((s.os.z o).ls.n = (s.os.z o).ls.n) := rfl
      generalize (s.os.z o).k = KD at *
      generalize ((s.os.z o).ls.z l).n = LB at *
      by_cases g1 : KD = 1
      · have g2 : (KD != 1) = false := by rw [g1]; rfl
        cases g3 : decide (LB < n)
        · have g4 : ¬ LB < n := of_decide_eq_false g3
          have HE : Hid (allocE p s o l n but = 0) := HT0.out g1 g4
          have HIN : Hid (AllocIn p s o l n but) := allocIn HE.out
          have HTI : Hid (TakeIn p s o l n) := HIN.out.toTake
          have HTKE : Hid (tkOf p s (lineAt s o l).o n but = Tk.go (avT s o l) n (wayT p but)) := rfl
          have HPS : Hid (p.At w1 ∧ s.At w1) := HPK
          clear HT0 HT3 HT6
          have r0 : ∀ d os, (grow (redrawn w1 d) os).cell? ⟨w.heap.size, 0, none⟩ = some (.slice p.ab p.nb p.cb) := fun d os => cell_regrown d0 d os
          have r1 : ∀ d os, (grow (redrawn w1 d) os).cell? ⟨w.heap.size, 1, none⟩ = some (.slice p.sa p.ns p.cs) := fun d os => cell_regrown d1 d os
          have rs0 : ∀ d os, (grow (redrawn w1 d) os).cell? ⟨w.heap.size + 1, 0, none⟩ = some (.slice s.on.a s.on.n s.on.c) := fun d os => cell_regrown C0.out d os
          have rs1 : ∀ d os, (grow (redrawn w1 d) os).cell? ⟨w.heap.size + 1, 1, none⟩ = some (.slice s.os.a s.os.n s.os.c) := fun d os => cell_regrown C1.out d os
          have rs2 : ∀ d os, (grow (redrawn w1 d) os).cell? ⟨w.heap.size + 1, 2, none⟩ = some (.slice s.hs.a s.hs.n s.hs.c) := fun d os => cell_regrown C2.out d os
          have rs3 : ∀ d os, (grow (redrawn w1 d) os).cell? ⟨w.heap.size + 1, 3, none⟩ = some (.slice s.ms.a s.ms.n s.ms.c) := fun d os => cell_regrown C3.out d os
          have rs4 : ∀ d os, (grow (redrawn w1 d) os).cell? ⟨w.heap.size + 1, 4, none⟩ = some (.slice s.si.a s.si.n s.si.c) := fun d os => cell_regrown C4.out d os
          have rs5 : ∀ d os, (grow (redrawn w1 d) os).cell? ⟨w.heap.size + 1, 5, none⟩ = some (.slice s.so.a s.so.n s.so.c) := fun d os => cell_regrown C5.out d os
          have rs6 : ∀ d os, (grow (redrawn w1 d) os).cell? ⟨w.heap.size + 1, 6, none⟩ = some (.slice s.sf.a s.sf.n s.sf.c) := fun d os => cell_regrown C6.out d os
          have HBX : Hid (Below W0.heap.size W0 w1) := hB
          clear hB hz hBw
          go_wp2_with (go_at_call 48; refine calls_to (within_any _ _ _ _) ?_)
          clear z0 z1 y3 hbo hbl d0 d1 c1 l1 l2 g1 g2 g3 g4 C0 C1 C2 C3 C4 C5 C6
          refine wp_region_made7 (fun w' => ∃ p : Regrown, w' = grow (redrawn w1 p.d) p.os) [0, 1, 3, 4, 5, 6] [2, 7, 8, 9, 10, 11, 12, 13] (by kernel_rfl) (by kernel_rfl) (by kernel_rfl) (by kernel_rfl) (by kernel_rfl) (by kernel_rfl) (by kernel_rfl) (by kernel_rfl) (regrown_of_below ((Below.refl _ _).drew)) ?_
          simp only [picks, List.drop_succ_cons, List.drop_zero, List.take_succ_cons, List.take_zero, List.cons_append, List.nil_append]
          repeat (go_big_quiet_step (fail))
          refine wpQuiet_nil ?_
          clear r0 r1 rs0 rs1 rs2 rs3 rs4 rs5 rs6
          refine ⟨TakeOfI p s o l n but w1, fun dn V w hS hd => ?zinit, List.forall_mem_cons.2 ⟨?zp2, List.forall_mem_cons.2 ⟨?zp7, List.forall_mem_cons.2 ⟨?zp8, List.forall_mem_cons.2 ⟨?zp9, List.forall_mem_cons.2 ⟨?zp10, List.forall_mem_cons.2 ⟨?zp11, List.forall_mem_cons.2 ⟨?zp12, List.forall_mem_cons.2 ⟨?zp13, List.forall_mem_nil _⟩⟩⟩⟩⟩⟩⟩⟩, ?zdone⟩
          case zinit =>
            have f : ∀ j, j ∈ [2, 7, 8, 9, 10, 11, 12, 13] → ¬ dn j = true := fun j hj h => by rw [hd j hj] at h; cases h
            exact ⟨below_of_regrown hS, fun h => absurd h (f 8 (by simp)), fun h => absurd h (f 9 (by simp)), fun h => absurd h (f 10 (by simp)), fun h => absurd h (f 12 (by simp)), fun h => absurd h (f 13 (by simp)), fun h => absurd h (f 11 (by simp)), fun h => absurd h (f 2 (by simp)), fun h => absurd h (f 7 (by simp)), fun h => absurd h (f 10 (by simp)), fun h => absurd h (f 13 (by simp))⟩
          case zp2 =>
            intro dn V wk K hS hn hd hI hK
            have HII : Hid (TakeOfI p s o l n but w1 dn V wk) := hI
            have q := hI.bel.size
            clear hI
            refine wpOp_list 2 rfl ?_
            simp only [putAll, dstOf, List.getElem?_toArray, List.getElem?_cons_succ, List.getElem?_cons_zero, Act.put, List.setIfInBounds_toArray, List.set_cons_succ, List.set_cons_zero] at hK ⊢
            go_wp2_with fail
            refine Calls.mono (OwnState_any p s wk (HPS.out.2.below HII.out.bel) HTI.out.fm) ?_
            rintro e wj ⟨x0, rfl, hsame, hown, hB2⟩
            have HR : Hid (SameT x0 s ∧ OwnS wk.heap.size wj x0) := ⟨hsame, hown⟩
            clear hsame hown
            simp only [St.val]
            go_wp2_with fail
            have hI := HII.out
            refine hK _ _ (regrown_of_below (hI.bel.trans (hB2.mono q))) ⟨hI.bel.trans (hB2.mono q), hI.c8, hI.c9, hI.c10, hI.c12, hI.c13, hI.box' ((KeepL.refl _).below hB2), fun _ _ => ⟨x0, wk.heap.size, rfl, HR.out.1, HR.out.2, q, hB2.size⟩, fun h7 => ?_, hI.num, hI.last⟩
            obtain ⟨x, a1, a2, a3, a4, a5, a6⟩ := hI.took h7
            exact ⟨x, a1, OwnS.below a2 hB2, a3, a4, a5, fun h12 B hBv => (a6 h12 B hBv).below hB2⟩
          case zp7 =>
            intro dn V wk K hS hn hd hI hK
            obtain ⟨x0, A, hv2, hsame, hown, hA1, hA2⟩ := hI.own (hd 2 (List.contains_iff_mem.1 (by kernel_rfl)) (by simp)) hn
            have HII : Hid (TakeOfI p s o l n but w1 dn V wk) := hI
            have HX0 : Hid (SameT x0 s ∧ OwnS A wk x0) := ⟨hsame, hown⟩
            have q := hI.bel.size
            clear hI hsame hown
            refine wpOp_list 7 rfl ?_
            simp only [putAll, dstOf, List.getElem?_toArray, List.getElem?_cons_succ, List.getElem?_cons_zero, Act.put, List.setIfInBounds_toArray, List.set_cons_succ, List.set_cons_zero, hv2] at hK ⊢
            have HTA : Hid (Calls Try.prog 50 #[p.val, x0.val, .int .i64 (o : Int), .int .i64 (l : Int), .int .i64 n, .int .i64 but] wk fun e w' => ∃ x : St, e = .returned (.tuple #[x.val, .int .i64 (Tk.go (avT s o l) n (wayT p but)).left]) ∧ Took s o l n (Tk.go (avT s o l) n (wayT p but)) x ∧ OwnS A w' x ∧ Below A wk w' ∧ KeepL wk w') := by
              have h := take_any p x0 o l A n but wk (HPS.out.1.below HII.out.bel) HX0.out.2 hA2 (HTI.out.same HX0.out.1)
              rw [tk_same HTI.out HX0.out.1] at h
              refine h.mono fun e w' => ?_
              rintro ⟨x, h1, h2, h3, h4, h5⟩
              exact ⟨x, h1, h2.base HX0.out.1, h3, h4, h5⟩
            go_wp2_with fail
            refine HTA.out.mono ?_
            rintro e wj ⟨x, rfl, hT, hO, hB2, hKL⟩
            have HR : Hid (Took s o l n (Tk.go (avT s o l) n (wayT p but)) x ∧ OwnS w1.heap.size wj x ∧ Below w1.heap.size w1 wj ∧ KeepL wk wj) := ⟨hT, hO.mono hA1, HII.out.bel.trans (hB2.mono hA1), hKL⟩
            clear hT hO hB2 hKL HTA
            simp only [St.val]
            go_wp2_with fail
            have hI := HII.out
            have f8 : ¬ dn 8 = true := fun h => by rw [hI.c8 h] at hn; cases hn
            have f9 : ¬ dn 9 = true := fun h => by rw [hI.c9 h] at hn; cases hn
            have f12 : ¬ dn 12 = true := fun h => by rw [(hI.c12 h).1] at hn; cases hn
            refine hK _ _ (regrown_of_below HR.out.2.2.1) ⟨HR.out.2.2.1, fun _ => rfl, fun _ => rfl, fun _ => rfl, fun h => absurd h f12, fun _ => rfl, hI.box' HR.out.2.2.2, (fun _ h => by cases h), fun _ => ⟨x, HR.out.1, HR.out.2.1, rfl, fun h => absurd h f8, fun h => absurd h f9, fun h => absurd h f12⟩, hI.num, hI.last⟩
          case zp8 =>
            intro dn V wk K hS hn hd hI hK
            have h7 : dn 7 = true := hd 7 (List.contains_iff_mem.1 (by kernel_rfl)) (by simp)
            obtain ⟨x, a1, a2, a3, a4, a5, a6⟩ := hI.took h7
            have HII : Hid (TakeOfI p s o l n but w1 dn V wk) := hI
            have HR : Hid (Took s o l n (Tk.go (avT s o l) n (wayT p but)) x ∧ OwnS w1.heap.size wk x ∧ V 7 = .tuple #[.agg #[.slice x.on.a x.on.n x.on.c, .slice x.os.a x.os.n x.os.c, .slice x.hs.a x.hs.n x.hs.c, .slice x.ms.a x.ms.n x.ms.c, .slice x.si.a x.si.n x.si.c, .slice x.so.a x.so.n x.so.c, .slice x.sf.a x.sf.n x.sf.c], .int .i64 (Tk.go (avT s o l) n (wayT p but)).left] ∧ (dn 9 = true → V 9 = .agg #[.slice x.on.a x.on.n x.on.c, .slice x.os.a x.os.n x.os.c, .slice x.hs.a x.hs.n x.hs.c, .slice x.ms.a x.ms.n x.ms.c, .slice x.si.a x.si.n x.si.c, .slice x.so.a x.so.n x.so.c, .slice x.sf.a x.sf.n x.sf.c]) ∧ (dn 12 = true → ∀ B, V 11 = .pointer (some ⟨B, 0, none⟩) → Blk wk B 31 7 (fun j => x.cells.getD j default))) := ⟨a1, a2, a3, a5, a6⟩
            clear hI a1 a2 a4 a5 a6
            refine wpOp_list 8 rfl ?_
            simp only [putAll, dstOf, List.getElem?_toArray, List.getElem?_cons_succ, List.getElem?_cons_zero, Act.put, List.setIfInBounds_toArray, List.set_cons_succ, List.set_cons_zero, a3] at hK ⊢
            go_wp2_with fail
            have hI := HII.out
            exact hK _ _ hS ⟨hI.bel, fun _ => h7, hI.c9, hI.c10, hI.c12, hI.c13, hI.box, hI.own, fun _ => ⟨x, HR.out.1, HR.out.2.1, HR.out.2.2.1, fun _ => rfl, HR.out.2.2.2.1, HR.out.2.2.2.2⟩, hI.num, hI.last⟩
          case zp9 =>
            intro dn V wk K hS hn hd hI hK
            have h8 : dn 8 = true := hd 8 (List.contains_iff_mem.1 (by kernel_rfl)) (by simp)
            have h7 := hI.c8 h8
            obtain ⟨x, a1, a2, a3, a4, a5, a6⟩ := hI.took h7
            have a4' := a4 h8
            have HII : Hid (TakeOfI p s o l n but w1 dn V wk) := hI
            have HR : Hid (Took s o l n (Tk.go (avT s o l) n (wayT p but)) x ∧ OwnS w1.heap.size wk x ∧ V 7 = .tuple #[.agg #[.slice x.on.a x.on.n x.on.c, .slice x.os.a x.os.n x.os.c, .slice x.hs.a x.hs.n x.hs.c, .slice x.ms.a x.ms.n x.ms.c, .slice x.si.a x.si.n x.si.c, .slice x.so.a x.so.n x.so.c, .slice x.sf.a x.sf.n x.sf.c], .int .i64 (Tk.go (avT s o l) n (wayT p but)).left] ∧ (dn 8 = true → V 8 = .tuple #[.agg #[.slice x.on.a x.on.n x.on.c, .slice x.os.a x.os.n x.os.c, .slice x.hs.a x.hs.n x.hs.c, .slice x.ms.a x.ms.n x.ms.c, .slice x.si.a x.si.n x.si.c, .slice x.so.a x.so.n x.so.c, .slice x.sf.a x.sf.n x.sf.c], .int .i64 (Tk.go (avT s o l) n (wayT p but)).left]) ∧ (dn 12 = true → ∀ B, V 11 = .pointer (some ⟨B, 0, none⟩) → Blk wk B 31 7 (fun j => x.cells.getD j default))) := ⟨a1, a2, a3, a4, a6⟩
            clear hI a1 a2 a3 a4 a5 a6
            refine wpOp_list 9 rfl ?_
            simp only [putAll, dstOf, List.getElem?_toArray, List.getElem?_cons_succ, List.getElem?_cons_zero, Act.put, List.setIfInBounds_toArray, List.set_cons_succ, List.set_cons_zero, a4'] at hK ⊢
            go_wp2_with fail
            have hI := HII.out
            exact hK _ _ hS ⟨hI.bel, hI.c8, fun _ => h7, hI.c10, hI.c12, hI.c13, hI.box, hI.own, fun _ => ⟨x, HR.out.1, HR.out.2.1, HR.out.2.2.1, HR.out.2.2.2.1, fun _ => rfl, HR.out.2.2.2.2⟩, hI.num, hI.last⟩
          case zp10 =>
            intro dn V wk K hS hn hd hI hK
            have h8 : dn 8 = true := hd 8 (List.contains_iff_mem.1 (by kernel_rfl)) (by simp)
            have h7 := hI.c8 h8
            obtain ⟨x, a1, a2, a3, a4, a5, a6⟩ := hI.took h7
            have a4' := a4 h8
            have HII : Hid (TakeOfI p s o l n but w1 dn V wk) := hI
            clear hI a1 a2 a3 a4 a5 a6
            refine wpOp_list 10 rfl ?_
            simp only [putAll, dstOf, List.getElem?_toArray, List.getElem?_cons_succ, List.getElem?_cons_zero, Act.put, List.setIfInBounds_toArray, List.set_cons_succ, List.set_cons_zero, a4'] at hK ⊢
            go_wp2_with fail
            have hI := HII.out
            exact hK _ _ hS ⟨hI.bel, hI.c8, hI.c9, fun _ => h7, hI.c12, hI.c13, hI.box, hI.own, hI.took, fun _ => rfl, hI.last⟩
          case zp11 =>
            intro dn V wk K hS hn hd hI hK
            have HII : Hid (TakeOfI p s o l n but w1 dn V wk) := hI
            have q := hI.bel.size
            clear hI
            refine wpOp_list 11 rfl ?_
            simp only [putAll, dstOf, List.getElem?_toArray, List.getElem?_cons_succ, List.getElem?_cons_zero, Act.put, List.setIfInBounds_toArray, List.set_cons_succ, List.set_cons_zero] at hK ⊢
            go_wp2_with fail
            have hI := HII.out
            have hBa := (Below.refl wk.heap.size wk).alloc (Nat.le_refl _) (.cells #[.slice .none 0 0, .slice .none 0 0, .slice .none 0 0, .slice .none 0 0, .slice .none 0 0, .slice .none 0 0, .slice .none 0 0] 31)
            have f12 : ¬ dn 12 = true := fun h => by rw [(hI.c12 h).2] at hn; cases hn
            refine hK _ _ (regrown_of_below (hI.bel.trans (hBa.mono q))) ⟨hI.bel.trans (hBa.mono q), hI.c8, hI.c9, hI.c10, fun h => absurd h f12, hI.c13, fun _ => ⟨wk.heap.size, rfl, q, _, Blk.mk' rfl rfl⟩, hI.own' hBa, fun h7 => ?_, hI.num, hI.last⟩
            obtain ⟨x, a1, a2, a3, a4, a5, a6⟩ := hI.took h7
            exact ⟨x, a1, OwnS.below a2 hBa, a3, a4, a5, fun h => absurd h f12⟩
          case zp12 =>
            intro dn V wk K hS hn hd hI hK
            have h11 : dn 11 = true := hd 11 (List.contains_iff_mem.1 (by kernel_rfl)) (by simp)
            have h9 : dn 9 = true := hd 9 (List.contains_iff_mem.1 (by kernel_rfl)) (by simp)
            have h7 := hI.c9 h9
            obtain ⟨B, hv11, hBW, f, hbk⟩ := hI.box h11
            obtain ⟨x, a1, a2, a3, a4, a5, a6⟩ := hI.took h7
            have a5' := a5 h9
            have HII : Hid (TakeOfI p s o l n but w1 dn V wk) := hI
            have HR : Hid (Took s o l n (Tk.go (avT s o l) n (wayT p but)) x ∧ OwnS w1.heap.size wk x ∧ V 7 = .tuple #[.agg #[.slice x.on.a x.on.n x.on.c, .slice x.os.a x.os.n x.os.c, .slice x.hs.a x.hs.n x.hs.c, .slice x.ms.a x.ms.n x.ms.c, .slice x.si.a x.si.n x.si.c, .slice x.so.a x.so.n x.so.c, .slice x.sf.a x.sf.n x.sf.c], .int .i64 (Tk.go (avT s o l) n (wayT p but)).left] ∧ (dn 8 = true → V 8 = .tuple #[.agg #[.slice x.on.a x.on.n x.on.c, .slice x.os.a x.os.n x.os.c, .slice x.hs.a x.hs.n x.hs.c, .slice x.ms.a x.ms.n x.ms.c, .slice x.si.a x.si.n x.si.c, .slice x.so.a x.so.n x.so.c, .slice x.sf.a x.sf.n x.sf.c], .int .i64 (Tk.go (avT s o l) n (wayT p but)).left]) ∧ Blk wk B 31 7 f ∧ V 11 = .pointer (some ⟨B, 0, none⟩)) := ⟨a1, a2, a3, a4, hbk, hv11⟩
            have hz := hbk
            have zl := hz.lt
            have zf0 := hz.frozen 0
            have zc0 := hz.cell (j := 0) (by decide)
            have zf1 := hz.frozen 1
            have zc1 := hz.cell (j := 1) (by decide)
            have zf2 := hz.frozen 2
            have zc2 := hz.cell (j := 2) (by decide)
            have zf3 := hz.frozen 3
            have zc3 := hz.cell (j := 3) (by decide)
            have zf4 := hz.frozen 4
            have zc4 := hz.cell (j := 4) (by decide)
            have zf5 := hz.frozen 5
            have zc5 := hz.cell (j := 5) (by decide)
            have zf6 := hz.frozen 6
            have zc6 := hz.cell (j := 6) (by decide)
            clear hI a1 a2 a3 a4 a5 a6 hz hbk
            refine wpOp_list 12 rfl ?_
            simp only [putAll, dstOf, List.getElem?_toArray, List.getElem?_cons_succ, List.getElem?_cons_zero, Act.put, List.setIfInBounds_toArray, List.set_cons_succ, List.set_cons_zero, a5', hv11] at hK ⊢
            go_wp2_with fail
            have hI := HII.out
            have KZ := set7_blk HR.out.2.2.2.2.1 (.slice x.on.a x.on.n x.on.c) (.slice x.os.a x.os.n x.os.c) (.slice x.hs.a x.hs.n x.hs.c) (.slice x.ms.a x.ms.n x.ms.c) (.slice x.si.a x.si.n x.si.c) (.slice x.so.a x.so.n x.so.c) (.slice x.sf.a x.sf.n x.sf.c)
            have hbz := set7_below (b := B) hI.bel hBW (.slice x.on.a x.on.n x.on.c) (.slice x.os.a x.os.n x.os.c) (.slice x.hs.a x.hs.n x.hs.c) (.slice x.ms.a x.ms.n x.ms.c) (.slice x.si.a x.si.n x.si.c) (.slice x.so.a x.so.n x.so.c) (.slice x.sf.a x.sf.n x.sf.c)
            have hOz := OwnS.set7 HR.out.2.1 HR.out.2.2.2.2.1 (.slice x.on.a x.on.n x.on.c) (.slice x.os.a x.os.n x.os.c) (.slice x.hs.a x.hs.n x.hs.c) (.slice x.ms.a x.ms.n x.ms.c) (.slice x.si.a x.si.n x.si.c) (.slice x.so.a x.so.n x.so.c) (.slice x.sf.a x.sf.n x.sf.c)
            unfold set7 at KZ hbz hOz
            refine hK undef _ (regrown_of_below hbz) ⟨hbz, hI.c8, hI.c9, hI.c10, fun _ => ⟨h7, h11⟩, hI.c13, fun _ => ⟨B, HR.out.2.2.2.2.2, hBW, _, KZ⟩, fun h2 h7' => ?_, fun _ => ⟨x, HR.out.1, hOz, HR.out.2.2.1, HR.out.2.2.2.1, fun _ => a5', fun _ B' hB' => ?_⟩, hI.num, hI.last⟩
            · have e : dn 7 = false := h7'
              rw [h7] at e
              cases e
            · have e : V 11 = .pointer (some ⟨B', 0, none⟩) := hB'
              rw [HR.out.2.2.2.2.2] at e
              simp only [Value.pointer.injEq, Option.some.injEq, Addr.mk.injEq, and_true] at e
              subst e
              exact KZ.congr (fun j hj => by match j, hj with | 0, _ => rfl | 1, _ => rfl | 2, _ => rfl | 3, _ => rfl | 4, _ => rfl | 5, _ => rfl | 6, _ => rfl)
          case zp13 =>
            intro dn V wk K hS hn hd hI hK
            have h10 : dn 10 = true := hd 10 (List.contains_iff_mem.1 (by kernel_rfl)) (by simp)
            have h7 := hI.c10 h10
            have a4' := hI.num h10
            have HII : Hid (TakeOfI p s o l n but w1 dn V wk) := hI
            clear hI
            refine wpOp_list 13 rfl ?_
            simp only [putAll, dstOf, List.getElem?_toArray, List.getElem?_cons_succ, List.getElem?_cons_zero, Act.put, List.setIfInBounds_toArray, List.set_cons_succ, List.set_cons_zero, a4'] at hK ⊢
            go_wp2_with fail
            have hI := HII.out
            exact hK _ _ hS ⟨hI.bel, hI.c8, hI.c9, hI.c10, hI.c12, fun _ => h7, hI.box, hI.own, hI.took, hI.num, fun _ => rfl⟩
          case zdone =>
            intro dn V wk hS hd hI
            refine NoPanic.normal ?_
            obtain ⟨B, hv11, hBW, f, hbk⟩ := hI.box (hd 11 (by simp))
            obtain ⟨x, a1, a2, a3, a4, a5, a6⟩ := hI.took (hd 7 (by simp))
            have hv13 := hI.last (hd 13 (by simp))
            have KX := a6 (hd 12 (by simp)) B hv11
            have hBk := HBX.out.trans (hI.bel.mono HBX.out.size)
            obtain ⟨-, -, -, hBw, hz⟩ := HC.out wk hBk
            have HZ : Hid (Below w.heap.size w wk ∧ Blk wk (w.heap.size + 2) 31 7 (fun _ => .slice .none 0 0) ∧ Took s o l n (Tk.go (avT s o l) n (wayT p but)) x ∧ OwnS w1.heap.size wk x) := ⟨hBw, hz, a1, a2⟩
            obtain ⟨m1, p0, p1, p2, p3, p4, p5, p6⟩ := Boxed.of KX
            have zl := hz.lt
            have zf0 := hz.frozen 0
            have zc0 := hz.cell (j := 0) (by decide)
            have zf1 := hz.frozen 1
            have zc1 := hz.cell (j := 1) (by decide)
            have zf2 := hz.frozen 2
            have zc2 := hz.cell (j := 2) (by decide)
            have zf3 := hz.frozen 3
            have zc3 := hz.cell (j := 3) (by decide)
            have zf4 := hz.frozen 4
            have zc4 := hz.cell (j := 4) (by decide)
            have zf5 := hz.frozen 5
            have zc5 := hz.cell (j := 5) (by decide)
            have zf6 := hz.frozen 6
            have zc6 := hz.cell (j := 6) (by decide)
            clear KX hBw hz hI a1 a2 a3 a4 a5 a6 hbk hd hS hBk
            simp only [putAll, dstOf, List.getElem?_toArray, List.getElem?_cons_succ, List.getElem?_cons_zero, Act.put, List.setIfInBounds_toArray, List.set_cons_succ, List.set_cons_zero, hv11, hv13]
            go_wp2_with fail
            have KZ := set7_blk HZ.out.2.1 (.slice x.on.a x.on.n x.on.c) (.slice x.os.a x.os.n x.os.c) (.slice x.hs.a x.hs.n x.hs.c) (.slice x.ms.a x.ms.n x.ms.c) (.slice x.si.a x.si.n x.si.c) (.slice x.so.a x.so.n x.so.c) (.slice x.sf.a x.sf.n x.sf.c)
            have hbz := set7_below (b := w.heap.size + 2) HZ.out.1 (by omega) (.slice x.on.a x.on.n x.on.c) (.slice x.os.a x.os.n x.os.c) (.slice x.hs.a x.hs.n x.hs.c) (.slice x.ms.a x.ms.n x.ms.c) (.slice x.si.a x.si.n x.si.c) (.slice x.so.a x.so.n x.so.c) (.slice x.sf.a x.sf.n x.sf.c)
            have hOz := OwnS.set7 HZ.out.2.2.2 HZ.out.2.1 (.slice x.on.a x.on.n x.on.c) (.slice x.os.a x.os.n x.os.c) (.slice x.hs.a x.hs.n x.hs.c) (.slice x.ms.a x.ms.n x.ms.c) (.slice x.si.a x.si.n x.si.c) (.slice x.so.a x.so.n x.so.c) (.slice x.sf.a x.sf.n x.sf.c)
            unfold set7 at KZ hbz hOz
            obtain ⟨c0', c1', c2', c3', c4', c5', c6'⟩ := box_cells KZ
            refine bodyPost_ret (v := .tuple #[x.val, .int .i64 (Tk.go (avT s o l) n (wayT p but)).left, .int .i64 0]) (by simp [results, Try.results16, go_sem, St.val, c0', c1', c2', c3', c4', c5', c6']) rfl ?_
            have HL : allocL p s o l n but = (Tk.go (avT s o l) n (wayT p but)).left := by rw [← HTKE.out]; exact if_pos HE.out
            exact ⟨x, by rw [HL, HE.out]; rfl, hOz.at, ⟨fun _ => HZ.out.2.2.1, fun h => absurd HE.out h⟩, hbz⟩
        · have g4 : LB < n := of_decide_eq_true g3
          have HX : Hid (allocE p s o l n but = 3 ∧ allocL p s o l n but = 0) := by
            have e : allocE p s o l n but = 3 := HT3.out g1 g4
            exact ⟨e, by unfold allocL; rw [if_neg (by rw [e]; decide)]⟩
          clear HT0 HT3 HT6 HPK C0 C1 C2 C3 C4 C5 C6
          have zl := hz.lt
          have zf0 := hz.frozen 0
          have zc0 := hz.cell (j := 0) (by decide)
          have zf1 := hz.frozen 1
          have zc1 := hz.cell (j := 1) (by decide)
          have zf2 := hz.frozen 2
          have zc2 := hz.cell (j := 2) (by decide)
          have zf3 := hz.frozen 3
          have zc3 := hz.cell (j := 3) (by decide)
          have zf4 := hz.frozen 4
          have zc4 := hz.cell (j := 4) (by decide)
          have zf5 := hz.frozen 5
          have zc5 := hz.cell (j := 5) (by decide)
          have zf6 := hz.frozen 6
          have zc6 := hz.cell (j := 6) (by decide)
          go_wp2_with (go_at_call 48; refine calls_to (within_any _ _ _ _) ?_)
          have KZ := set7_blk hz (.slice .none 0 0) (.slice .none 0 0) (.slice .none 0 0) (.slice .none 0 0) (.slice .none 0 0) (.slice .none 0 0) (.slice .none 0 0)
          have hbz := set7_below (b := w.heap.size + 2) hBw (by omega) (.slice .none 0 0) (.slice .none 0 0) (.slice .none 0 0) (.slice .none 0 0) (.slice .none 0 0) (.slice .none 0 0) (.slice .none 0 0)
          unfold set7 at KZ hbz
          obtain ⟨c0', c1', c2', c3', c4', c5', c6'⟩ := box_cells KZ
          refine bodyPost_ret (v := .tuple #[noneS.val, .int .i64 0, .int .i64 3]) (by simp [results, Try.results16, go_sem, noneS, St.val, c0', c1', c2', c3', c4', c5', c6']) rfl ?_
          exact ⟨noneS, by rw [HX.out.1, HX.out.2]; rfl, noneS_at _, ⟨fun h => absurd h (by rw [HX.out.1]; decide), fun _ => ⟨rfl, rfl, rfl, rfl, rfl, rfl, rfl⟩⟩, hbz⟩
      · have g2 : (KD != 1) = true := by simpa using g1
        have HX : Hid (allocE p s o l n but = 6 ∧ allocL p s o l n but = 0) := by
          have e : allocE p s o l n but = 6 := HT6.out g1
          exact ⟨e, by unfold allocL; rw [if_neg (by rw [e]; decide)]⟩
        clear HT0 HT3 HT6 HPK C0 C1 C2 C3 C4 C5 C6
        have zl := hz.lt
        have zf0 := hz.frozen 0
        have zc0 := hz.cell (j := 0) (by decide)
        have zf1 := hz.frozen 1
        have zc1 := hz.cell (j := 1) (by decide)
        have zf2 := hz.frozen 2
        have zc2 := hz.cell (j := 2) (by decide)
        have zf3 := hz.frozen 3
        have zc3 := hz.cell (j := 3) (by decide)
        have zf4 := hz.frozen 4
        have zc4 := hz.cell (j := 4) (by decide)
        have zf5 := hz.frozen 5
        have zc5 := hz.cell (j := 5) (by decide)
        have zf6 := hz.frozen 6
        have zc6 := hz.cell (j := 6) (by decide)
        go_wp2_with (go_at_call 48; refine calls_to (within_any _ _ _ _) ?_)
        have KZ := set7_blk hz (.slice .none 0 0) (.slice .none 0 0) (.slice .none 0 0) (.slice .none 0 0) (.slice .none 0 0) (.slice .none 0 0) (.slice .none 0 0)
        have hbz := set7_below (b := w.heap.size + 2) hBw (by omega) (.slice .none 0 0) (.slice .none 0 0) (.slice .none 0 0) (.slice .none 0 0) (.slice .none 0 0) (.slice .none 0 0) (.slice .none 0 0)
        unfold set7 at KZ hbz
        obtain ⟨c0', c1', c2', c3', c4', c5', c6'⟩ := box_cells KZ
        refine bodyPost_ret (v := .tuple #[noneS.val, .int .i64 0, .int .i64 6]) (by simp [results, Try.results16, go_sem, noneS, St.val, c0', c1', c2', c3', c4', c5', c6']) rfl ?_
        exact ⟨noneS, by rw [HX.out.1, HX.out.2]; rfl, noneS_at _, ⟨fun h => absurd h (by rw [HX.out.1]; decide), fun _ => ⟨rfl, rfl, rfl, rfl, rfl, rfl, rfl⟩⟩, hbz⟩
    obtain ⟨bo, oo, hoa, hbo, z0, z1, hlk⟩ := hsk.os.ods o ho
    have v1 := hsk.os.le
    have v2 := hsk.os.cap
    have v3 := hlk.le
    have v4 := hlk.cap
    unfold maxLen at v2 v4
    rw [hoa] at c1
    clear hoa hlk hpk hsk hBw hz
    go_wp2_with (go_at_call 48; refine calls_to (within_any _ _ _ _) ?_)
    refine (isBin_any p but w1 leb capb0).mono ?_
    rintro e w2 ⟨rfl, hB2⟩
    have hB3 := hB.trans (hB2.mono hB.size)
    clear l1 d0 d1 l2 c0 c1 c2 c3 c4 c5 c6 hB2 hB hbo z0 z1 v1 v2 v3 v4
    obtain ⟨⟨⟨l1, d0, d1⟩, l2, c0, c1, c2, c3, c4, c5, c6⟩, hpk, hsk, hBw, hz⟩ := HC.out w2 hB3
    cases m5 : inB but 0 ((p.nb : Int) - 1)
    · have HX : Hid (allocE p s o l n but = 3 ∧ allocL p s o l n but = 0) := by
        have e : allocE p s o l n but = 3 := allocE_range H0.out (by rw [HR.out _ _ _ _ _ m1 m2 m3 m4 m5]; rfl)
        exact ⟨e, by unfold allocL; rw [if_neg (by rw [e]; decide)]⟩
      clear hpk hsk HR
      have zl := hz.lt
      have zf0 := hz.frozen 0
      have zc0 := hz.cell (j := 0) (by decide)
      have zf1 := hz.frozen 1
      have zc1 := hz.cell (j := 1) (by decide)
      have zf2 := hz.frozen 2
      have zc2 := hz.cell (j := 2) (by decide)
      have zf3 := hz.frozen 3
      have zc3 := hz.cell (j := 3) (by decide)
      have zf4 := hz.frozen 4
      have zc4 := hz.cell (j := 4) (by decide)
      have zf5 := hz.frozen 5
      have zc5 := hz.cell (j := 5) (by decide)
      have zf6 := hz.frozen 6
      have zc6 := hz.cell (j := 6) (by decide)
      go_wp2_with fail
      have KZ := set7_blk hz (.slice .none 0 0) (.slice .none 0 0) (.slice .none 0 0) (.slice .none 0 0) (.slice .none 0 0) (.slice .none 0 0) (.slice .none 0 0)
      have hbz := set7_below (b := w.heap.size + 2) hBw (by omega) (.slice .none 0 0) (.slice .none 0 0) (.slice .none 0 0) (.slice .none 0 0) (.slice .none 0 0) (.slice .none 0 0) (.slice .none 0 0)
      unfold set7 at KZ hbz
      obtain ⟨c0', c1', c2', c3', c4', c5', c6'⟩ := box_cells KZ
      refine bodyPost_ret (v := .tuple #[noneS.val, .int .i64 0, .int .i64 3]) (by simp [results, Try.results16, go_sem, noneS, St.val, c0', c1', c2', c3', c4', c5', c6']) rfl ?_
      exact ⟨noneS, by rw [HX.out.1, HX.out.2]; rfl, noneS_at _, ⟨fun h => absurd h (by rw [HX.out.1]; decide), fun _ => ⟨rfl, rfl, rfl, rfl, rfl, rfl, rfl⟩⟩, hbz⟩
    have HA : Hid (allocR p s o l n but = false) := by show allocR p s o l n but = false; rw [HR.out _ _ _ _ _ m1 m2 m3 m4 m5]; rfl
    clear HR
    have HPK : Hid (p.At w2 ∧ s.At w2) := ⟨hpk, hsk⟩
    obtain ⟨bo, oo, hoa, hbo, z0, z1, hlk⟩ := hsk.os.ods o ho
    obtain ⟨bl, ol, hla, hbl, y0, y1, y2, y3⟩ := hlk.hds l hl
    have v1 := hsk.os.le
    have v2 := hsk.os.cap
    have v3 := hlk.le
    have v4 := hlk.cap
    unfold maxLen at v2 v4
    have HT6 : Hid (¬ (s.os.z o).k = 1 → allocE p s o l n but = 6) := fun h => allocE_done H0.out HA.out h
    have HT3 : Hid ((s.os.z o).k = 1 → ((s.os.z o).ls.z l).n < n → allocE p s o l n but = 3) := fun h h' => allocE_back H0.out HA.out h h'
    have HT0 : Hid ((s.os.z o).k = 1 → ¬ ((s.os.z o).ls.z l).n < n → allocE p s o l n but = 0) := fun h h' => allocE_ok H0.out HA.out h h'
    have C0 : Hid (w2.cell? ⟨w.heap.size + 1, 0, none⟩ = some (.slice s.on.a s.on.n s.on.c)) := c0
    have C1 : Hid (w2.cell? ⟨w.heap.size + 1, 1, none⟩ = some (.slice s.os.a s.os.n s.os.c)) := c1
    have C2 : Hid (w2.cell? ⟨w.heap.size + 1, 2, none⟩ = some (.slice s.hs.a s.hs.n s.hs.c)) := c2
    have C3 : Hid (w2.cell? ⟨w.heap.size + 1, 3, none⟩ = some (.slice s.ms.a s.ms.n s.ms.c)) := c3
    have C4 : Hid (w2.cell? ⟨w.heap.size + 1, 4, none⟩ = some (.slice s.si.a s.si.n s.si.c)) := c4
    have C5 : Hid (w2.cell? ⟨w.heap.size + 1, 5, none⟩ = some (.slice s.so.a s.so.n s.so.c)) := c5
    have C6 : Hid (w2.cell? ⟨w.heap.size + 1, 6, none⟩ = some (.slice s.sf.a s.sf.n s.sf.c)) := c6
    have HOA : Hid (s.os.a = some ⟨bo, oo, none⟩) := hoa
    rw [hoa] at c1
    rw [hla] at z1
    clear hoa hla hlk y0 y1 y2 c0 c2 c3 c4 c5 c6 hpk hsk
    have HLN : Hid ((s.os.z o).ls.n = (s.os.z o).ls.n) := rfl
    generalize (s.os.z o).k = KD at *
    generalize ((s.os.z o).ls.z l).n = LB at *
    by_cases g1 : KD = 1
    · have g2 : (KD != 1) = false := by rw [g1]; rfl
      cases g3 : decide (LB < n)
      · have g4 : ¬ LB < n := of_decide_eq_false g3
        have HE : Hid (allocE p s o l n but = 0) := HT0.out g1 g4
        have HIN : Hid (AllocIn p s o l n but) := allocIn HE.out
        have HTI : Hid (TakeIn p s o l n) := HIN.out.toTake
        have HTKE : Hid (tkOf p s (lineAt s o l).o n but = Tk.go (avT s o l) n (wayT p but)) := rfl
        have HPS : Hid (p.At w2 ∧ s.At w2) := HPK
        clear HT0 HT3 HT6
        have r0 : ∀ d os, (grow (redrawn w2 d) os).cell? ⟨w.heap.size, 0, none⟩ = some (.slice p.ab p.nb p.cb) := fun d os => cell_regrown d0 d os
        have r1 : ∀ d os, (grow (redrawn w2 d) os).cell? ⟨w.heap.size, 1, none⟩ = some (.slice p.sa p.ns p.cs) := fun d os => cell_regrown d1 d os
        have rs0 : ∀ d os, (grow (redrawn w2 d) os).cell? ⟨w.heap.size + 1, 0, none⟩ = some (.slice s.on.a s.on.n s.on.c) := fun d os => cell_regrown C0.out d os
        have rs1 : ∀ d os, (grow (redrawn w2 d) os).cell? ⟨w.heap.size + 1, 1, none⟩ = some (.slice s.os.a s.os.n s.os.c) := fun d os => cell_regrown C1.out d os
        have rs2 : ∀ d os, (grow (redrawn w2 d) os).cell? ⟨w.heap.size + 1, 2, none⟩ = some (.slice s.hs.a s.hs.n s.hs.c) := fun d os => cell_regrown C2.out d os
        have rs3 : ∀ d os, (grow (redrawn w2 d) os).cell? ⟨w.heap.size + 1, 3, none⟩ = some (.slice s.ms.a s.ms.n s.ms.c) := fun d os => cell_regrown C3.out d os
        have rs4 : ∀ d os, (grow (redrawn w2 d) os).cell? ⟨w.heap.size + 1, 4, none⟩ = some (.slice s.si.a s.si.n s.si.c) := fun d os => cell_regrown C4.out d os
        have rs5 : ∀ d os, (grow (redrawn w2 d) os).cell? ⟨w.heap.size + 1, 5, none⟩ = some (.slice s.so.a s.so.n s.so.c) := fun d os => cell_regrown C5.out d os
        have rs6 : ∀ d os, (grow (redrawn w2 d) os).cell? ⟨w.heap.size + 1, 6, none⟩ = some (.slice s.sf.a s.sf.n s.sf.c) := fun d os => cell_regrown C6.out d os
        have HBX : Hid (Below W0.heap.size W0 w2) := hB3
        clear hB3 hz hBw
        go_wp2_with fail
        clear z0 z1 y3 hbo hbl d0 d1 c1 l1 l2 g1 g2 g3 g4 C0 C1 C2 C3 C4 C5 C6
        refine wp_region_made7 (fun w' => ∃ p : Regrown, w' = grow (redrawn w2 p.d) p.os) [0, 1, 3, 4, 5, 6] [2, 7, 8, 9, 10, 11, 12, 13] (by kernel_rfl) (by kernel_rfl) (by kernel_rfl) (by kernel_rfl) (by kernel_rfl) (by kernel_rfl) (by kernel_rfl) (by kernel_rfl) (regrown_of_below ((Below.refl _ _).drew)) ?_
        simp only [picks, List.drop_succ_cons, List.drop_zero, List.take_succ_cons, List.take_zero, List.cons_append, List.nil_append]
        repeat (go_big_quiet_step (fail))
        refine wpQuiet_nil ?_
        clear r0 r1 rs0 rs1 rs2 rs3 rs4 rs5 rs6
        refine ⟨TakeOfI p s o l n but w2, fun dn V w hS hd => ?zinit, List.forall_mem_cons.2 ⟨?zp2, List.forall_mem_cons.2 ⟨?zp7, List.forall_mem_cons.2 ⟨?zp8, List.forall_mem_cons.2 ⟨?zp9, List.forall_mem_cons.2 ⟨?zp10, List.forall_mem_cons.2 ⟨?zp11, List.forall_mem_cons.2 ⟨?zp12, List.forall_mem_cons.2 ⟨?zp13, List.forall_mem_nil _⟩⟩⟩⟩⟩⟩⟩⟩, ?zdone⟩
        case zinit =>
          have f : ∀ j, j ∈ [2, 7, 8, 9, 10, 11, 12, 13] → ¬ dn j = true := fun j hj h => by rw [hd j hj] at h; cases h
          exact ⟨below_of_regrown hS, fun h => absurd h (f 8 (by simp)), fun h => absurd h (f 9 (by simp)), fun h => absurd h (f 10 (by simp)), fun h => absurd h (f 12 (by simp)), fun h => absurd h (f 13 (by simp)), fun h => absurd h (f 11 (by simp)), fun h => absurd h (f 2 (by simp)), fun h => absurd h (f 7 (by simp)), fun h => absurd h (f 10 (by simp)), fun h => absurd h (f 13 (by simp))⟩
        case zp2 =>
          intro dn V wk K hS hn hd hI hK
          have HII : Hid (TakeOfI p s o l n but w2 dn V wk) := hI
          have q := hI.bel.size
          clear hI
          refine wpOp_list 2 rfl ?_
          simp only [putAll, dstOf, List.getElem?_toArray, List.getElem?_cons_succ, List.getElem?_cons_zero, Act.put, List.setIfInBounds_toArray, List.set_cons_succ, List.set_cons_zero] at hK ⊢
          go_wp2_with fail
          refine Calls.mono (OwnState_any p s wk (HPS.out.2.below HII.out.bel) HTI.out.fm) ?_
          rintro e wj ⟨x0, rfl, hsame, hown, hB2⟩
          have HR : Hid (SameT x0 s ∧ OwnS wk.heap.size wj x0) := ⟨hsame, hown⟩
          clear hsame hown
          simp only [St.val]
          go_wp2_with fail
          have hI := HII.out
          refine hK _ _ (regrown_of_below (hI.bel.trans (hB2.mono q))) ⟨hI.bel.trans (hB2.mono q), hI.c8, hI.c9, hI.c10, hI.c12, hI.c13, hI.box' ((KeepL.refl _).below hB2), fun _ _ => ⟨x0, wk.heap.size, rfl, HR.out.1, HR.out.2, q, hB2.size⟩, fun h7 => ?_, hI.num, hI.last⟩
          obtain ⟨x, a1, a2, a3, a4, a5, a6⟩ := hI.took h7
          exact ⟨x, a1, OwnS.below a2 hB2, a3, a4, a5, fun h12 B hBv => (a6 h12 B hBv).below hB2⟩
        case zp7 =>
          intro dn V wk K hS hn hd hI hK
          obtain ⟨x0, A, hv2, hsame, hown, hA1, hA2⟩ := hI.own (hd 2 (List.contains_iff_mem.1 (by kernel_rfl)) (by simp)) hn
          have HII : Hid (TakeOfI p s o l n but w2 dn V wk) := hI
          have HX0 : Hid (SameT x0 s ∧ OwnS A wk x0) := ⟨hsame, hown⟩
          have q := hI.bel.size
          clear hI hsame hown
          refine wpOp_list 7 rfl ?_
          simp only [putAll, dstOf, List.getElem?_toArray, List.getElem?_cons_succ, List.getElem?_cons_zero, Act.put, List.setIfInBounds_toArray, List.set_cons_succ, List.set_cons_zero, hv2] at hK ⊢
          have HTA : Hid (Calls Try.prog 50 #[p.val, x0.val, .int .i64 (o : Int), .int .i64 (l : Int), .int .i64 n, .int .i64 but] wk fun e w' => ∃ x : St, e = .returned (.tuple #[x.val, .int .i64 (Tk.go (avT s o l) n (wayT p but)).left]) ∧ Took s o l n (Tk.go (avT s o l) n (wayT p but)) x ∧ OwnS A w' x ∧ Below A wk w' ∧ KeepL wk w') := by
            have h := take_any p x0 o l A n but wk (HPS.out.1.below HII.out.bel) HX0.out.2 hA2 (HTI.out.same HX0.out.1)
            rw [tk_same HTI.out HX0.out.1] at h
            refine h.mono fun e w' => ?_
            rintro ⟨x, h1, h2, h3, h4, h5⟩
            exact ⟨x, h1, h2.base HX0.out.1, h3, h4, h5⟩
          go_wp2_with fail
          refine HTA.out.mono ?_
          rintro e wj ⟨x, rfl, hT, hO, hB2, hKL⟩
          have HR : Hid (Took s o l n (Tk.go (avT s o l) n (wayT p but)) x ∧ OwnS w2.heap.size wj x ∧ Below w2.heap.size w2 wj ∧ KeepL wk wj) := ⟨hT, hO.mono hA1, HII.out.bel.trans (hB2.mono hA1), hKL⟩
          clear hT hO hB2 hKL HTA
          simp only [St.val]
          go_wp2_with fail
          have hI := HII.out
          have f8 : ¬ dn 8 = true := fun h => by rw [hI.c8 h] at hn; cases hn
          have f9 : ¬ dn 9 = true := fun h => by rw [hI.c9 h] at hn; cases hn
          have f12 : ¬ dn 12 = true := fun h => by rw [(hI.c12 h).1] at hn; cases hn
          refine hK _ _ (regrown_of_below HR.out.2.2.1) ⟨HR.out.2.2.1, fun _ => rfl, fun _ => rfl, fun _ => rfl, fun h => absurd h f12, fun _ => rfl, hI.box' HR.out.2.2.2, (fun _ h => by cases h), fun _ => ⟨x, HR.out.1, HR.out.2.1, rfl, fun h => absurd h f8, fun h => absurd h f9, fun h => absurd h f12⟩, hI.num, hI.last⟩
        case zp8 =>
          intro dn V wk K hS hn hd hI hK
          have h7 : dn 7 = true := hd 7 (List.contains_iff_mem.1 (by kernel_rfl)) (by simp)
          obtain ⟨x, a1, a2, a3, a4, a5, a6⟩ := hI.took h7
          have HII : Hid (TakeOfI p s o l n but w2 dn V wk) := hI
          have HR : Hid (Took s o l n (Tk.go (avT s o l) n (wayT p but)) x ∧ OwnS w2.heap.size wk x ∧ V 7 = .tuple #[.agg #[.slice x.on.a x.on.n x.on.c, .slice x.os.a x.os.n x.os.c, .slice x.hs.a x.hs.n x.hs.c, .slice x.ms.a x.ms.n x.ms.c, .slice x.si.a x.si.n x.si.c, .slice x.so.a x.so.n x.so.c, .slice x.sf.a x.sf.n x.sf.c], .int .i64 (Tk.go (avT s o l) n (wayT p but)).left] ∧ (dn 9 = true → V 9 = .agg #[.slice x.on.a x.on.n x.on.c, .slice x.os.a x.os.n x.os.c, .slice x.hs.a x.hs.n x.hs.c, .slice x.ms.a x.ms.n x.ms.c, .slice x.si.a x.si.n x.si.c, .slice x.so.a x.so.n x.so.c, .slice x.sf.a x.sf.n x.sf.c]) ∧ (dn 12 = true → ∀ B, V 11 = .pointer (some ⟨B, 0, none⟩) → Blk wk B 31 7 (fun j => x.cells.getD j default))) := ⟨a1, a2, a3, a5, a6⟩
          clear hI a1 a2 a4 a5 a6
          refine wpOp_list 8 rfl ?_
          simp only [putAll, dstOf, List.getElem?_toArray, List.getElem?_cons_succ, List.getElem?_cons_zero, Act.put, List.setIfInBounds_toArray, List.set_cons_succ, List.set_cons_zero, a3] at hK ⊢
          go_wp2_with fail
          have hI := HII.out
          exact hK _ _ hS ⟨hI.bel, fun _ => h7, hI.c9, hI.c10, hI.c12, hI.c13, hI.box, hI.own, fun _ => ⟨x, HR.out.1, HR.out.2.1, HR.out.2.2.1, fun _ => rfl, HR.out.2.2.2.1, HR.out.2.2.2.2⟩, hI.num, hI.last⟩
        case zp9 =>
          intro dn V wk K hS hn hd hI hK
          have h8 : dn 8 = true := hd 8 (List.contains_iff_mem.1 (by kernel_rfl)) (by simp)
          have h7 := hI.c8 h8
          obtain ⟨x, a1, a2, a3, a4, a5, a6⟩ := hI.took h7
          have a4' := a4 h8
          have HII : Hid (TakeOfI p s o l n but w2 dn V wk) := hI
          have HR : Hid (Took s o l n (Tk.go (avT s o l) n (wayT p but)) x ∧ OwnS w2.heap.size wk x ∧ V 7 = .tuple #[.agg #[.slice x.on.a x.on.n x.on.c, .slice x.os.a x.os.n x.os.c, .slice x.hs.a x.hs.n x.hs.c, .slice x.ms.a x.ms.n x.ms.c, .slice x.si.a x.si.n x.si.c, .slice x.so.a x.so.n x.so.c, .slice x.sf.a x.sf.n x.sf.c], .int .i64 (Tk.go (avT s o l) n (wayT p but)).left] ∧ (dn 8 = true → V 8 = .tuple #[.agg #[.slice x.on.a x.on.n x.on.c, .slice x.os.a x.os.n x.os.c, .slice x.hs.a x.hs.n x.hs.c, .slice x.ms.a x.ms.n x.ms.c, .slice x.si.a x.si.n x.si.c, .slice x.so.a x.so.n x.so.c, .slice x.sf.a x.sf.n x.sf.c], .int .i64 (Tk.go (avT s o l) n (wayT p but)).left]) ∧ (dn 12 = true → ∀ B, V 11 = .pointer (some ⟨B, 0, none⟩) → Blk wk B 31 7 (fun j => x.cells.getD j default))) := ⟨a1, a2, a3, a4, a6⟩
          clear hI a1 a2 a3 a4 a5 a6
          refine wpOp_list 9 rfl ?_
          simp only [putAll, dstOf, List.getElem?_toArray, List.getElem?_cons_succ, List.getElem?_cons_zero, Act.put, List.setIfInBounds_toArray, List.set_cons_succ, List.set_cons_zero, a4'] at hK ⊢
          go_wp2_with fail
          have hI := HII.out
          exact hK _ _ hS ⟨hI.bel, hI.c8, fun _ => h7, hI.c10, hI.c12, hI.c13, hI.box, hI.own, fun _ => ⟨x, HR.out.1, HR.out.2.1, HR.out.2.2.1, HR.out.2.2.2.1, fun _ => rfl, HR.out.2.2.2.2⟩, hI.num, hI.last⟩
        case zp10 =>
          intro dn V wk K hS hn hd hI hK
          have h8 : dn 8 = true := hd 8 (List.contains_iff_mem.1 (by kernel_rfl)) (by simp)
          have h7 := hI.c8 h8
          obtain ⟨x, a1, a2, a3, a4, a5, a6⟩ := hI.took h7
          have a4' := a4 h8
          have HII : Hid (TakeOfI p s o l n but w2 dn V wk) := hI
          clear hI a1 a2 a3 a4 a5 a6
          refine wpOp_list 10 rfl ?_
          simp only [putAll, dstOf, List.getElem?_toArray, List.getElem?_cons_succ, List.getElem?_cons_zero, Act.put, List.setIfInBounds_toArray, List.set_cons_succ, List.set_cons_zero, a4'] at hK ⊢
          go_wp2_with fail
          have hI := HII.out
          exact hK _ _ hS ⟨hI.bel, hI.c8, hI.c9, fun _ => h7, hI.c12, hI.c13, hI.box, hI.own, hI.took, fun _ => rfl, hI.last⟩
        case zp11 =>
          intro dn V wk K hS hn hd hI hK
          have HII : Hid (TakeOfI p s o l n but w2 dn V wk) := hI
          have q := hI.bel.size
          clear hI
          refine wpOp_list 11 rfl ?_
          simp only [putAll, dstOf, List.getElem?_toArray, List.getElem?_cons_succ, List.getElem?_cons_zero, Act.put, List.setIfInBounds_toArray, List.set_cons_succ, List.set_cons_zero] at hK ⊢
          go_wp2_with fail
          have hI := HII.out
          have hBa := (Below.refl wk.heap.size wk).alloc (Nat.le_refl _) (.cells #[.slice .none 0 0, .slice .none 0 0, .slice .none 0 0, .slice .none 0 0, .slice .none 0 0, .slice .none 0 0, .slice .none 0 0] 31)
          have f12 : ¬ dn 12 = true := fun h => by rw [(hI.c12 h).2] at hn; cases hn
          refine hK _ _ (regrown_of_below (hI.bel.trans (hBa.mono q))) ⟨hI.bel.trans (hBa.mono q), hI.c8, hI.c9, hI.c10, fun h => absurd h f12, hI.c13, fun _ => ⟨wk.heap.size, rfl, q, _, Blk.mk' rfl rfl⟩, hI.own' hBa, fun h7 => ?_, hI.num, hI.last⟩
          obtain ⟨x, a1, a2, a3, a4, a5, a6⟩ := hI.took h7
          exact ⟨x, a1, OwnS.below a2 hBa, a3, a4, a5, fun h => absurd h f12⟩
        case zp12 =>
          intro dn V wk K hS hn hd hI hK
          have h11 : dn 11 = true := hd 11 (List.contains_iff_mem.1 (by kernel_rfl)) (by simp)
          have h9 : dn 9 = true := hd 9 (List.contains_iff_mem.1 (by kernel_rfl)) (by simp)
          have h7 := hI.c9 h9
          obtain ⟨B, hv11, hBW, f, hbk⟩ := hI.box h11
          obtain ⟨x, a1, a2, a3, a4, a5, a6⟩ := hI.took h7
          have a5' := a5 h9
          have HII : Hid (TakeOfI p s o l n but w2 dn V wk) := hI
          have HR : Hid (Took s o l n (Tk.go (avT s o l) n (wayT p but)) x ∧ OwnS w2.heap.size wk x ∧ V 7 = .tuple #[.agg #[.slice x.on.a x.on.n x.on.c, .slice x.os.a x.os.n x.os.c, .slice x.hs.a x.hs.n x.hs.c, .slice x.ms.a x.ms.n x.ms.c, .slice x.si.a x.si.n x.si.c, .slice x.so.a x.so.n x.so.c, .slice x.sf.a x.sf.n x.sf.c], .int .i64 (Tk.go (avT s o l) n (wayT p but)).left] ∧ (dn 8 = true → V 8 = .tuple #[.agg #[.slice x.on.a x.on.n x.on.c, .slice x.os.a x.os.n x.os.c, .slice x.hs.a x.hs.n x.hs.c, .slice x.ms.a x.ms.n x.ms.c, .slice x.si.a x.si.n x.si.c, .slice x.so.a x.so.n x.so.c, .slice x.sf.a x.sf.n x.sf.c], .int .i64 (Tk.go (avT s o l) n (wayT p but)).left]) ∧ Blk wk B 31 7 f ∧ V 11 = .pointer (some ⟨B, 0, none⟩)) := ⟨a1, a2, a3, a4, hbk, hv11⟩
          have hz := hbk
          have zl := hz.lt
          have zf0 := hz.frozen 0
          have zc0 := hz.cell (j := 0) (by decide)
          have zf1 := hz.frozen 1
          have zc1 := hz.cell (j := 1) (by decide)
          have zf2 := hz.frozen 2
          have zc2 := hz.cell (j := 2) (by decide)
          have zf3 := hz.frozen 3
          have zc3 := hz.cell (j := 3) (by decide)
          have zf4 := hz.frozen 4
          have zc4 := hz.cell (j := 4) (by decide)
          have zf5 := hz.frozen 5
          have zc5 := hz.cell (j := 5) (by decide)
          have zf6 := hz.frozen 6
          have zc6 := hz.cell (j := 6) (by decide)
          clear hI a1 a2 a3 a4 a5 a6 hz hbk
          refine wpOp_list 12 rfl ?_
          simp only [putAll, dstOf, List.getElem?_toArray, List.getElem?_cons_succ, List.getElem?_cons_zero, Act.put, List.setIfInBounds_toArray, List.set_cons_succ, List.set_cons_zero, a5', hv11] at hK ⊢
          go_wp2_with fail
          have hI := HII.out
          have KZ := set7_blk HR.out.2.2.2.2.1 (.slice x.on.a x.on.n x.on.c) (.slice x.os.a x.os.n x.os.c) (.slice x.hs.a x.hs.n x.hs.c) (.slice x.ms.a x.ms.n x.ms.c) (.slice x.si.a x.si.n x.si.c) (.slice x.so.a x.so.n x.so.c) (.slice x.sf.a x.sf.n x.sf.c)
          have hbz := set7_below (b := B) hI.bel hBW (.slice x.on.a x.on.n x.on.c) (.slice x.os.a x.os.n x.os.c) (.slice x.hs.a x.hs.n x.hs.c) (.slice x.ms.a x.ms.n x.ms.c) (.slice x.si.a x.si.n x.si.c) (.slice x.so.a x.so.n x.so.c) (.slice x.sf.a x.sf.n x.sf.c)
          have hOz := OwnS.set7 HR.out.2.1 HR.out.2.2.2.2.1 (.slice x.on.a x.on.n x.on.c) (.slice x.os.a x.os.n x.os.c) (.slice x.hs.a x.hs.n x.hs.c) (.slice x.ms.a x.ms.n x.ms.c) (.slice x.si.a x.si.n x.si.c) (.slice x.so.a x.so.n x.so.c) (.slice x.sf.a x.sf.n x.sf.c)
          unfold set7 at KZ hbz hOz
          refine hK undef _ (regrown_of_below hbz) ⟨hbz, hI.c8, hI.c9, hI.c10, fun _ => ⟨h7, h11⟩, hI.c13, fun _ => ⟨B, HR.out.2.2.2.2.2, hBW, _, KZ⟩, fun h2 h7' => ?_, fun _ => ⟨x, HR.out.1, hOz, HR.out.2.2.1, HR.out.2.2.2.1, fun _ => a5', fun _ B' hB' => ?_⟩, hI.num, hI.last⟩
          · have e : dn 7 = false := h7'
            rw [h7] at e
            cases e
          · have e : V 11 = .pointer (some ⟨B', 0, none⟩) := hB'
            rw [HR.out.2.2.2.2.2] at e
            simp only [Value.pointer.injEq, Option.some.injEq, Addr.mk.injEq, and_true] at e
            subst e
            exact KZ.congr (fun j hj => by match j, hj with | 0, _ => rfl | 1, _ => rfl | 2, _ => rfl | 3, _ => rfl | 4, _ => rfl | 5, _ => rfl | 6, _ => rfl)
        case zp13 =>
          intro dn V wk K hS hn hd hI hK
          have h10 : dn 10 = true := hd 10 (List.contains_iff_mem.1 (by kernel_rfl)) (by simp)
          have h7 := hI.c10 h10
          have a4' := hI.num h10
          have HII : Hid (TakeOfI p s o l n but w2 dn V wk) := hI
          clear hI
          refine wpOp_list 13 rfl ?_
          simp only [putAll, dstOf, List.getElem?_toArray, List.getElem?_cons_succ, List.getElem?_cons_zero, Act.put, List.setIfInBounds_toArray, List.set_cons_succ, List.set_cons_zero, a4'] at hK ⊢
          go_wp2_with fail
          have hI := HII.out
          exact hK _ _ hS ⟨hI.bel, hI.c8, hI.c9, hI.c10, hI.c12, fun _ => h7, hI.box, hI.own, hI.took, hI.num, fun _ => rfl⟩
        case zdone =>
          intro dn V wk hS hd hI
          refine NoPanic.normal ?_
          obtain ⟨B, hv11, hBW, f, hbk⟩ := hI.box (hd 11 (by simp))
          obtain ⟨x, a1, a2, a3, a4, a5, a6⟩ := hI.took (hd 7 (by simp))
          have hv13 := hI.last (hd 13 (by simp))
          have KX := a6 (hd 12 (by simp)) B hv11
          have hBk := HBX.out.trans (hI.bel.mono HBX.out.size)
          obtain ⟨-, -, -, hBw, hz⟩ := HC.out wk hBk
          have HZ : Hid (Below w.heap.size w wk ∧ Blk wk (w.heap.size + 2) 31 7 (fun _ => .slice .none 0 0) ∧ Took s o l n (Tk.go (avT s o l) n (wayT p but)) x ∧ OwnS w2.heap.size wk x) := ⟨hBw, hz, a1, a2⟩
          obtain ⟨m1, p0, p1, p2, p3, p4, p5, p6⟩ := Boxed.of KX
          have zl := hz.lt
          have zf0 := hz.frozen 0
          have zc0 := hz.cell (j := 0) (by decide)
          have zf1 := hz.frozen 1
          have zc1 := hz.cell (j := 1) (by decide)
          have zf2 := hz.frozen 2
          have zc2 := hz.cell (j := 2) (by decide)
          have zf3 := hz.frozen 3
          have zc3 := hz.cell (j := 3) (by decide)
          have zf4 := hz.frozen 4
          have zc4 := hz.cell (j := 4) (by decide)
          have zf5 := hz.frozen 5
          have zc5 := hz.cell (j := 5) (by decide)
          have zf6 := hz.frozen 6
          have zc6 := hz.cell (j := 6) (by decide)
          clear KX hBw hz hI a1 a2 a3 a4 a5 a6 hbk hd hS hBk
          simp only [putAll, dstOf, List.getElem?_toArray, List.getElem?_cons_succ, List.getElem?_cons_zero, Act.put, List.setIfInBounds_toArray, List.set_cons_succ, List.set_cons_zero, hv11, hv13]
          go_wp2_with fail
          have KZ := set7_blk HZ.out.2.1 (.slice x.on.a x.on.n x.on.c) (.slice x.os.a x.os.n x.os.c) (.slice x.hs.a x.hs.n x.hs.c) (.slice x.ms.a x.ms.n x.ms.c) (.slice x.si.a x.si.n x.si.c) (.slice x.so.a x.so.n x.so.c) (.slice x.sf.a x.sf.n x.sf.c)
          have hbz := set7_below (b := w.heap.size + 2) HZ.out.1 (by omega) (.slice x.on.a x.on.n x.on.c) (.slice x.os.a x.os.n x.os.c) (.slice x.hs.a x.hs.n x.hs.c) (.slice x.ms.a x.ms.n x.ms.c) (.slice x.si.a x.si.n x.si.c) (.slice x.so.a x.so.n x.so.c) (.slice x.sf.a x.sf.n x.sf.c)
          have hOz := OwnS.set7 HZ.out.2.2.2 HZ.out.2.1 (.slice x.on.a x.on.n x.on.c) (.slice x.os.a x.os.n x.os.c) (.slice x.hs.a x.hs.n x.hs.c) (.slice x.ms.a x.ms.n x.ms.c) (.slice x.si.a x.si.n x.si.c) (.slice x.so.a x.so.n x.so.c) (.slice x.sf.a x.sf.n x.sf.c)
          unfold set7 at KZ hbz hOz
          obtain ⟨c0', c1', c2', c3', c4', c5', c6'⟩ := box_cells KZ
          refine bodyPost_ret (v := .tuple #[x.val, .int .i64 (Tk.go (avT s o l) n (wayT p but)).left, .int .i64 0]) (by simp [results, Try.results16, go_sem, St.val, c0', c1', c2', c3', c4', c5', c6']) rfl ?_
          have HL : allocL p s o l n but = (Tk.go (avT s o l) n (wayT p but)).left := by rw [← HTKE.out]; exact if_pos HE.out
          exact ⟨x, by rw [HL, HE.out]; rfl, hOz.at, ⟨fun _ => HZ.out.2.2.1, fun h => absurd HE.out h⟩, hbz⟩
      · have g4 : LB < n := of_decide_eq_true g3
        have HX : Hid (allocE p s o l n but = 3 ∧ allocL p s o l n but = 0) := by
          have e : allocE p s o l n but = 3 := HT3.out g1 g4
          exact ⟨e, by unfold allocL; rw [if_neg (by rw [e]; decide)]⟩
        clear HT0 HT3 HT6 HPK C0 C1 C2 C3 C4 C5 C6
        have zl := hz.lt
        have zf0 := hz.frozen 0
        have zc0 := hz.cell (j := 0) (by decide)
        have zf1 := hz.frozen 1
        have zc1 := hz.cell (j := 1) (by decide)
        have zf2 := hz.frozen 2
        have zc2 := hz.cell (j := 2) (by decide)
        have zf3 := hz.frozen 3
        have zc3 := hz.cell (j := 3) (by decide)
        have zf4 := hz.frozen 4
        have zc4 := hz.cell (j := 4) (by decide)
        have zf5 := hz.frozen 5
        have zc5 := hz.cell (j := 5) (by decide)
        have zf6 := hz.frozen 6
        have zc6 := hz.cell (j := 6) (by decide)
        go_wp2_with fail
        have KZ := set7_blk hz (.slice .none 0 0) (.slice .none 0 0) (.slice .none 0 0) (.slice .none 0 0) (.slice .none 0 0) (.slice .none 0 0) (.slice .none 0 0)
        have hbz := set7_below (b := w.heap.size + 2) hBw (by omega) (.slice .none 0 0) (.slice .none 0 0) (.slice .none 0 0) (.slice .none 0 0) (.slice .none 0 0) (.slice .none 0 0) (.slice .none 0 0)
        unfold set7 at KZ hbz
        obtain ⟨c0', c1', c2', c3', c4', c5', c6'⟩ := box_cells KZ
        refine bodyPost_ret (v := .tuple #[noneS.val, .int .i64 0, .int .i64 3]) (by simp [results, Try.results16, go_sem, noneS, St.val, c0', c1', c2', c3', c4', c5', c6']) rfl ?_
        exact ⟨noneS, by rw [HX.out.1, HX.out.2]; rfl, noneS_at _, ⟨fun h => absurd h (by rw [HX.out.1]; decide), fun _ => ⟨rfl, rfl, rfl, rfl, rfl, rfl, rfl⟩⟩, hbz⟩
    · have g2 : (KD != 1) = true := by simpa using g1
      have HX : Hid (allocE p s o l n but = 6 ∧ allocL p s o l n but = 0) := by
        have e : allocE p s o l n but = 6 := HT6.out g1
        exact ⟨e, by unfold allocL; rw [if_neg (by rw [e]; decide)]⟩
      clear HT0 HT3 HT6 HPK C0 C1 C2 C3 C4 C5 C6
      have zl := hz.lt
      have zf0 := hz.frozen 0
      have zc0 := hz.cell (j := 0) (by decide)
      have zf1 := hz.frozen 1
      have zc1 := hz.cell (j := 1) (by decide)
      have zf2 := hz.frozen 2
      have zc2 := hz.cell (j := 2) (by decide)
      have zf3 := hz.frozen 3
      have zc3 := hz.cell (j := 3) (by decide)
      have zf4 := hz.frozen 4
      have zc4 := hz.cell (j := 4) (by decide)
      have zf5 := hz.frozen 5
      have zc5 := hz.cell (j := 5) (by decide)
      have zf6 := hz.frozen 6
      have zc6 := hz.cell (j := 6) (by decide)
      go_wp2_with fail
      have KZ := set7_blk hz (.slice .none 0 0) (.slice .none 0 0) (.slice .none 0 0) (.slice .none 0 0) (.slice .none 0 0) (.slice .none 0 0) (.slice .none 0 0)
      have hbz := set7_below (b := w.heap.size + 2) hBw (by omega) (.slice .none 0 0) (.slice .none 0 0) (.slice .none 0 0) (.slice .none 0 0) (.slice .none 0 0) (.slice .none 0 0) (.slice .none 0 0)
      unfold set7 at KZ hbz
      obtain ⟨c0', c1', c2', c3', c4', c5', c6'⟩ := box_cells KZ
      refine bodyPost_ret (v := .tuple #[noneS.val, .int .i64 0, .int .i64 6]) (by simp [results, Try.results16, go_sem, noneS, St.val, c0', c1', c2', c3', c4', c5', c6']) rfl ?_
      exact ⟨noneS, by rw [HX.out.1, HX.out.2]; rfl, noneS_at _, ⟨fun h => absurd h (by rw [HX.out.1]; decide), fun _ => ⟨rfl, rfl, rfl, rfl, rfl, rfl, rfl⟩⟩, hbz⟩
  · have HX : Hid (allocE p s order line n but = stateE p s ∧ allocL p s order line n but = 0) := by
      have e : allocE p s order line n but = stateE p s := allocE_state h0
      exact ⟨e, by unfold allocL; rw [if_neg (by rw [e]; exact h0)]⟩
    clear hpk hsk c0 c1 c2 c3 c4 c5 c6
    have zl := hz.lt
    have zf0 := hz.frozen 0
    have zc0 := hz.cell (j := 0) (by decide)
    have zf1 := hz.frozen 1
    have zc1 := hz.cell (j := 1) (by decide)
    have zf2 := hz.frozen 2
    have zc2 := hz.cell (j := 2) (by decide)
    have zf3 := hz.frozen 3
    have zc3 := hz.cell (j := 3) (by decide)
    have zf4 := hz.frozen 4
    have zc4 := hz.cell (j := 4) (by decide)
    have zf5 := hz.frozen 5
    have zc5 := hz.cell (j := 5) (by decide)
    have zf6 := hz.frozen 6
    have zc6 := hz.cell (j := 6) (by decide)
    go_wp2_with fail
    have KZ := set7_blk hz (.slice .none 0 0) (.slice .none 0 0) (.slice .none 0 0) (.slice .none 0 0) (.slice .none 0 0) (.slice .none 0 0) (.slice .none 0 0)
    have hbz := set7_below (b := w.heap.size + 2) hBw (by omega) (.slice .none 0 0) (.slice .none 0 0) (.slice .none 0 0) (.slice .none 0 0) (.slice .none 0 0) (.slice .none 0 0) (.slice .none 0 0)
    unfold set7 at KZ hbz
    obtain ⟨c0', c1', c2', c3', c4', c5', c6'⟩ := box_cells KZ
    refine bodyPost_ret (v := .tuple #[noneS.val, .int .i64 0, .int .i64 (stateE p s)]) (by simp [results, Try.results16, go_sem, noneS, St.val, c0', c1', c2', c3', c4', c5', c6']) rfl ?_
    exact ⟨noneS, by rw [HX.out.1, HX.out.2]; rfl, noneS_at _, ⟨fun h => absurd h (by rw [HX.out.1]; exact h0), fun _ => ⟨rfl, rfl, rfl, rfl, rfl, rfl, rfl⟩⟩, hbz⟩
end Go.Proofs.Ytbcacebifpagpac
namespace Go.Proofs.Ytbcacebifpagpac
open Go.RowKit
set_option linter.unusedVariables false
theorem AllocOK.same {p : Pl} {s x y : St} {order line n but : Int} (a : AllocOK p s order line n but x) (b : AllocOK p s order line n but y) : SameT x y := by
  by_cases h : allocE p s order line n but = 0
  · exact (a.1 h).same (b.1 h)
  · exact none_same2 (a.2 h) (b.2 h)
theorem AllocOK.bound {p : Pl} {s x : St} {order line n but : Int} (a : AllocOK p s order line n but x) : x.os.n ≤ 1000 ∧ x.ms.n ≤ 1000 ∧ ∀ i, i < x.os.n → (x.os.z i).ls.n ≤ 1000 := by
  by_cases h : allocE p s order line n but = 0
  · have f := (rightT (allocIn h).st).fm
    have T := a.1 h
    have o4 := f.os4
    have m8 := f.ms8
    have e1 := T.os.1
    have e2 := T.ms.1
    refine ⟨by omega, by omega, fun i hi => ?_⟩
    rw [(T.os.2 i hi).2.1]
    have := f.lns i (by omega)
    omega
  · obtain ⟨a1, a2, a3, a4, a5, a6, a7⟩ := a.2 h
    exact ⟨by omega, by omega, fun i hi => absurd hi (by omega)⟩
end Go.Proofs.Ytbcacebifpagpac
namespace Go.Proofs.Ytbcacebifpagpac
open Go.RowKit Go.Shelf Go.Sort
set_option linter.unusedVariables false
set_option maxRecDepth 100000 in
set_option maxHeartbeats 8000000 in
theorem AllocTakes_walk (p : Pl) (s : St) (order line n but : Int) (w : World) (hp : p.At w) (hs : s.At w) :
    Calls Try.prog 4 #[p.val, s.val, .int .i64 order, .int .i64 line, .int .i64 n, .int .i64 but] w fun e w' => e = .returned (.bool true) ∧ Below w.heap.size w w' := by
  obtain ⟨W0, hW, hWB, X0⟩ : ∃ W, ((w.alloc (.cells #[.slice p.ab p.nb p.cb, .slice p.sa p.ns p.cs] 25)).alloc (.cells s.cells 31)) = W ∧ Below w.heap.size w W ∧ Boxes W w.heap.size (w.heap.size + 1) p s := ⟨_, rfl, two_below _ _ _, boxes_new w p s _ _⟩
  have HC : Hid (∀ wk, Below W0.heap.size W0 wk → Boxes wk w.heap.size (w.heap.size + 1) p s ∧ p.At wk ∧ s.At wk ∧ Below w.heap.size w wk) := fun wk h => ⟨X0.below h, (hp.below hWB).below h, (hs.below hWB).below h, hWB.trans (h.mono hWB.size)⟩
  have HW : Hid ((w.alloc (.cells #[.slice p.ab p.nb p.cb, .slice p.sa p.ns p.cs] 25)).alloc (.cells #[.slice s.on.a s.on.n s.on.c, .slice s.os.a s.os.n s.os.c, .slice s.hs.a s.hs.n s.hs.c, .slice s.ms.a s.ms.n s.ms.c, .slice s.si.a s.si.n s.si.c, .slice s.so.a s.so.n s.so.c, .slice s.sf.a s.sf.n s.sf.c] 31) = W0) := hW
  clear hW X0 hp hs
  unfold Pl.val St.val
  go_enter Try.func4, Try.ntmps4
  go_wp2_with fail
  rw [HW.out]
  obtain ⟨X, hpk, hsk, hBw⟩ := HC.out W0 (Below.refl _ _)
  refine (Take_any p s order line n but W0 hpk hsk).mono ?_
  rintro e w1 ⟨x, rfl, xat, xok, xown, hB⟩
  clear X hpk hsk hBw HW
  obtain ⟨⟨⟨l1, d0, d1⟩, l2, c0, c1, c2, c3, c4, c5, c6⟩, hpk, hsk, hBw⟩ := HC.out w1 hB
  obtain ⟨W2, hW, hWB2, K1⟩ : ∃ W, w1.alloc (.cells #[.slice x.on.a x.on.n x.on.c, .slice x.os.a x.os.n x.os.c, .slice x.hs.a x.hs.n x.hs.c, .slice x.ms.a x.ms.n x.ms.c, .slice x.si.a x.si.n x.si.c, .slice x.so.a x.so.n x.so.c, .slice x.sf.a x.sf.n x.sf.c] 31) = W ∧ Below w1.heap.size w1 W ∧ Blk W w1.heap.size 31 7 (fun j => x.cells.getD j default) := ⟨_, rfl, (Below.refl _ _).alloc (Nat.le_refl _) _, Blk.mk' rfl rfl⟩
  have HW : Hid (w1.alloc (.cells #[.slice x.on.a x.on.n x.on.c, .slice x.os.a x.os.n x.os.c, .slice x.hs.a x.hs.n x.hs.c, .slice x.ms.a x.ms.n x.ms.c, .slice x.si.a x.si.n x.si.c, .slice x.so.a x.so.n x.so.c, .slice x.sf.a x.sf.n x.sf.c] 31) = W2) := hW
  have HSM : Hid (∀ y, AllocOK p s order line n but y → SameT x y) := fun y h => AllocOK.same xok h
  have HBD : Hid (x.os.n ≤ 1000 ∧ x.ms.n ≤ 1000 ∧ ∀ i, i < x.os.n → (x.os.z i).ls.n ≤ 1000) := AllocOK.bound xok
  have xat := xat.below hWB2
  have hB2 := hB.trans (hWB2.mono hB.size)
  simp only [St.val]
  clear hW
  go_wp2_with fail
  rw [HW.out]
  clear l1 d0 d1 l2 c0 c1 c2 c3 c4 c5 c6 hpk hsk hBw HW hWB2 hB xok xown
  generalize w1.heap.size = B1 at *
  obtain ⟨X, hpk, hsk, hBw⟩ := HC.out W2 hB2
  refine (TakeOf_any p s order line n but W2 hpk hsk).mono ?_
  rintro e w3 ⟨y, rfl, yat, yok, hB3⟩
  have xat := xat.below hB3
  have K1 := K1.below hB3
  have hB3 := hB2.trans (hB3.mono hB2.size)
  clear X hpk hsk hBw hB2
  obtain ⟨W4, hW, hWB4, K2⟩ : ∃ W, w3.alloc (.cells #[.slice y.on.a y.on.n y.on.c, .slice y.os.a y.os.n y.os.c, .slice y.hs.a y.hs.n y.hs.c, .slice y.ms.a y.ms.n y.ms.c, .slice y.si.a y.si.n y.si.c, .slice y.so.a y.so.n y.so.c, .slice y.sf.a y.sf.n y.sf.c] 31) = W ∧ Below w3.heap.size w3 W ∧ Blk W w3.heap.size 31 7 (fun j => y.cells.getD j default) := ⟨_, rfl, (Below.refl _ _).alloc (Nat.le_refl _) _, Blk.mk' rfl rfl⟩
  have HW : Hid (w3.alloc (.cells #[.slice y.on.a y.on.n y.on.c, .slice y.os.a y.os.n y.os.c, .slice y.hs.a y.hs.n y.hs.c, .slice y.ms.a y.ms.n y.ms.c, .slice y.si.a y.si.n y.si.c, .slice y.so.a y.so.n y.so.c, .slice y.sf.a y.sf.n y.sf.c] 31) = W4) := hW
  have HS : Hid (SameT x y) := HSM.out y yok
  have xat := xat.below hWB4
  have yat := yat.below hWB4
  have K1 := K1.below hWB4
  have hB4 := hB3.trans (hWB4.mono hB3.size)
  simp only [St.val]
  clear hW
  go_wp2_with fail
  rw [HW.out]
  clear HW hWB4 hB3 yok
  generalize w3.heap.size = B2 at *
  refine (allocBegun_any W4).mono ?_
  rintro e w5 ⟨rfl, hB5⟩
  have xat := xat.below hB5
  have yat := yat.below hB5
  have K1 := K1.below hB5
  have K2 := K2.below hB5
  have hB5 := hB4.trans (hB5.mono hB4.size)
  clear hB4
  obtain ⟨m1, p0, p1, p2, p3, p4, p5, p6⟩ := Boxed.of K1
  obtain ⟨m2, t0, t1, t2, t3, t4, t5, t6⟩ := Boxed.of K2
  clear K1 K2
  have HXY : Hid (x.At w5 ∧ y.At w5) := ⟨xat, yat⟩
  clear xat yat
  go_wp2_with fail
  refine (SameStates_yes x y w5 HXY.out.1 HXY.out.2 HS.out HBD.out.1 HBD.out.2.1 HBD.out.2.2).mono ?_
  rintro e w6 ⟨rfl, hB6⟩
  have hB6 := hB5.trans (hB6.mono hB5.size)
  clear m1 p0 p1 p2 p3 p4 p5 p6 m2 t0 t1 t2 t3 t4 t5 t6
  go_wp2_with fail
  go_ret
  exact ⟨by simp, (HC.out w6 hB6).2.2.2⟩
end Go.Proofs.Ytbcacebifpagpac
namespace Go.Proofs.Ytbcacebifpagpac
open Go.ChangeShapes Go.WideShapes Go.ChangeAt Go.RowKit Go.Joins Go.Deep
set_option linter.unusedVariables false
set_option maxRecDepth 100000
theorem own : ownKnob Try.prog.godebug = none := by kernel_rfl
theorem laidOut : laidOutB Try.prog = true := by kernel_rfl
theorem cellsInt : Try.prog.cellsOf 3 = 1 := by kernel_rfl
theorem cellsInts : Try.prog.cellsOf 23 = 1 := by kernel_rfl
theorem cellsBin : Try.prog.cellsOf 42 = 4 := by kernel_rfl
theorem cellsPlan : Try.prog.cellsOf 25 = 2 := by kernel_rfl
theorem cellsBool : Try.prog.cellsOf 4 = 1 := by kernel_rfl
section
variable {H : Type} {enc : TypeId × Value → H} {w : World} {held : Bool} {spare : Nat → Bool}
theorem addrOf {a : Addr} {i : Nat} {v : Value} (h : w.cell? (a.add i) = some v) (h0 : ∃ v0, w.cell? a = some v0) : ∃ b o, a = ⟨b, o, none⟩ ∧ b < w.heap.size ∧ w.cell? ⟨b, o + i, none⟩ = some v := by
  obtain ⟨b, off, spot⟩ := a
  obtain ⟨v0, h0⟩ := h0
  have hspot : spot = none := World.cell?_spot h0
  subst hspot
  refine ⟨b, off, rfl, World.block_lt_of_cell? w _ h0, ?_⟩
  rw [← Go.WideShapes.add_plain]
  exact h
theorem readInts {fuel : Nat} {cs : List Value} {x : DataW H × List MemPlace} (h : DataW.trod enc Try.prog w 0 spare held fuel 23 cs = some x) : ∃ r : Rw, cs = [r.val] ∧ r.At w := by
  rcases open_slice1 Try.underlying23 cellsInt h with ⟨rfl, _⟩ | ⟨a, len, cap, m, n, V, D, Pl, rfl, hb, hl, hm, hmm, _, hx⟩
  · exact ⟨⟨none, 0, 0, fun _ => 0⟩, rfl, Nat.le_refl _, Nat.zero_le _, fun i hi => absurd hi (Nat.not_lt_zero _)⟩
  · have hlm : len ≤ m := by rw [hmm]; split <;> omega
    obtain ⟨z, hz⟩ := choose_lt (α := Int) (n := len) (p := fun i y => V i = .int .i64 y) (fun i hi => by
      obtain ⟨y, hy, _⟩ := DataW.trod_int Try.underlying3 (hx i (by omega)).2
      simp only [List.cons.injEq, and_true] at hy
      exact ⟨y, hy⟩)
    refine ⟨⟨some a, len, cap, z⟩, rfl, hl, hm, fun i hi => ?_⟩
    have hi' : i < len := hi
    have h0 : ∃ v0, w.cell? a = some v0 := ⟨_, by have := (hx 0 (by omega)).1; simpa [Addr.add] using this⟩
    obtain ⟨b, o, rfl, hb', hc⟩ := addrOf (hx i (by omega)).1 h0
    exact ⟨b, o, rfl, hb', by rw [hc, hz i hi']⟩
theorem readRows {fuel : Nat} {cs : List Value} {x : DataW H × List MemPlace} (h : DataW.trod enc Try.prog w 0 spare held fuel 26 cs = some x) : ∃ s : Sh, cs = [s.val] ∧ s.At w := by
  rcases open_slice1 Try.underlying26 cellsInts h with ⟨rfl, _⟩ | ⟨a, len, cap, m, n, V, D, Pl, rfl, hb, hl, hm, hmm, _, hx⟩
  · exact ⟨⟨none, 0, 0, fun _ => ⟨none, 0, 0, fun _ => 0⟩⟩, rfl, Nat.le_refl _, Nat.zero_le _, fun i hi => absurd hi (Nat.not_lt_zero _)⟩
  · have hlm : len ≤ m := by rw [hmm]; split <;> omega
    haveI : Inhabited Rw := ⟨⟨none, 0, 0, fun _ => 0⟩⟩
    obtain ⟨z, hz⟩ := choose_lt (α := Rw) (n := len) (p := fun i y => V i = y.val ∧ y.At w) (fun i hi => by
      obtain ⟨y, hy, hat⟩ := readInts (hx i (by omega)).2
      simp only [List.cons.injEq, and_true] at hy
      exact ⟨y, hy, hat⟩)
    refine ⟨⟨some a, len, cap, z⟩, rfl, hl, hm, fun i hi => ?_⟩
    have hi' : i < len := hi
    have h0 : ∃ v0, w.cell? a = some v0 := ⟨_, by have := (hx 0 (by omega)).1; simpa [Addr.add] using this⟩
    obtain ⟨b, o, rfl, hb', hc⟩ := addrOf (hx i (by omega)).1 h0
    exact ⟨b, o, rfl, hb', by rw [hc, (hz i hi').1]; rfl, (hz i hi').2⟩
theorem readBin {fuel : Nat} {c0 c1 c2 c3 : Value} {x : DataW H × List MemPlace} (h : DataW.trod enc Try.prog w 0 spare held fuel 42 [c0, c1, c2, c3] = some x) : ∃ y : Bin, c0 = .bool y.front ∧ c1 = .int .i64 y.room ∧ c2 = .int .i64 y.low ∧ c3 = .int .i64 y.high := by
  obtain ⟨y0, y1, y2, y3, n, hx, hl, h0, h1, h2, h3⟩ := trod_struct4 Try.underlying42 h
  simp only [cellsBool, cellsInt, List.drop_succ_cons, List.drop_zero, List.take_succ_cons, List.take_zero] at h0 h1 h2 h3
  obtain ⟨b, e0, _⟩ := DataW.trod_bool Try.underlying4 h0
  obtain ⟨n1, e1, _⟩ := DataW.trod_int Try.underlying3 h1
  obtain ⟨n2, e2, _⟩ := DataW.trod_int Try.underlying3 h2
  obtain ⟨n3, e3, _⟩ := DataW.trod_int Try.underlying3 h3
  simp only [List.cons.injEq, and_true] at e0 e1 e2 e3
  exact ⟨⟨b, n1, n2, n3⟩, e0, e1, e2, e3⟩
theorem cells4 {base : Nat} {a : Addr} {cs : List Value} (h : w.cells? base a 4 = some cs) : ∃ c0 c1 c2 c3, cs = [c0, c1, c2, c3] ∧ w.cell? a = some c0 ∧ w.cell? (a.add 1) = some c1 ∧ w.cell? (a.add 2) = some c2 ∧ w.cell? (a.add 3) = some c3 := by
  obtain ⟨_, hlen, hc⟩ := World.cells?_some h
  match cs, hlen with
  | [c0, c1, c2, c3], _ =>
    refine ⟨c0, c1, c2, c3, rfl, ?_, ?_, ?_, ?_⟩
    · simpa [Addr.add] using hc 0 (by decide)
    · simpa using hc 1 (by decide)
    · simpa using hc 2 (by decide)
    · simpa using hc 3 (by decide)
theorem readBins {fuel : Nat} {cs : List Value} {x : DataW H × List MemPlace} (h : DataW.trod enc Try.prog w 0 spare held fuel 22 cs = some x) : ∃ a n c z, cs = [.slice a n c] ∧ n ≤ c ∧ c ≤ maxLen ∧ BinsAt w a n z := by
  rcases open_slice Try.underlying22 h with ⟨rfl, _⟩ | ⟨a, len, cap, m, n, D, Pl, rfl, hb, hl, hm, hmm, _, hx⟩
  · exact ⟨none, 0, 0, fun _ => ⟨false, 0, 0, 0⟩, rfl, Nat.le_refl _, Nat.zero_le _, fun i hi => absurd hi (Nat.not_lt_zero _)⟩
  · have hlm : len ≤ m := by rw [hmm]; split <;> omega
    rw [cellsBin] at hx
    haveI : Inhabited Bin := ⟨⟨false, 0, 0, 0⟩⟩
    obtain ⟨z, hz⟩ := choose_lt (α := Bin) (n := len) (p := fun i y => w.cell? (a.add (i * 4)) = some (.bool y.front) ∧ w.cell? (a.add (i * 4 + 1)) = some (.int .i64 y.room) ∧ w.cell? (a.add (i * 4 + 2)) = some (.int .i64 y.low) ∧ w.cell? (a.add (i * 4 + 3)) = some (.int .i64 y.high)) (fun i hi => by
      obtain ⟨cs', hc, ht⟩ := hx i (by omega)
      obtain ⟨c0, c1, c2, c3, rfl, k0, k1, k2, k3⟩ := cells4 hc
      obtain ⟨y, rfl, rfl, rfl, rfl⟩ := readBin ht
      rw [add_add] at k1 k2 k3
      exact ⟨y, k0, k1, k2, k3⟩)
    refine ⟨some a, len, cap, z, rfl, hl, hm, fun i hi => ?_⟩
    have h0 : ∃ v0, w.cell? a = some v0 := ⟨_, by have := (hz 0 (by omega)).1; simpa [Addr.add] using this⟩
    obtain ⟨k0, k1, k2, k3⟩ := hz i hi
    obtain ⟨b, o, rfl, hb', e0⟩ := addrOf k0 h0
    rw [Go.WideShapes.add_plain] at k1 k2 k3
    exact ⟨b, o, rfl, hb', e0, by rw [Nat.add_assoc]; exact k1, by rw [Nat.add_assoc]; exact k2, by rw [Nat.add_assoc]; exact k3⟩
theorem openPlan {r : Reach} {b0 : Nat} {v : Value} {d : DataW H} {ps : List MemPlace} (hv : Value.okWide Try.prog w r b0 25 v) (h : DataW.Trod enc Try.prog w 0 spare held 25 v d ps) : ∃ p : Pl, v = p.val ∧ p.At w := by
  obtain ⟨c0, c1, y0, y1, m, rfl, rfl, rfl, hy0, hy1⟩ := open_agg2 Try.underlying25 (by kernel_rfl) cellsPlan hv h
  obtain ⟨a, n, c, z, e0, h1, h2, h3⟩ := readBins hy0
  obtain ⟨rr, e1, hr⟩ := readInts hy1
  simp only [List.cons.injEq, and_true] at e0 e1
  subst e0 e1
  exact ⟨⟨a, n, c, z, rr.a, rr.n, rr.c, rr.z⟩, rfl, h1, h2, h3, hr.le, hr.cap, hr.ints⟩
end
end Go.Proofs.Ytbcacebifpagpac
namespace Go.Proofs.Ytbcacebifpagpac
open Go.ChangeShapes Go.WideShapes Go.ChangeAt Go.RowKit Go.Joins Go.Deep
set_option linter.unusedVariables false
set_option maxRecDepth 100000
namespace HoldsFrames
theorem own : ownKnob Try.prog.godebug = none := by kernel_rfl
theorem laidOut : laidOutB Try.prog = true := by kernel_rfl
theorem cellsInt : Try.prog.cellsOf 3 = 1 := by kernel_rfl
theorem cellsHold : Try.prog.cellsOf 65 = 4 := by kernel_rfl
section
variable {H : Type} {enc : TypeId × Value → H} {w : World} {held : Bool} {spare : Nat → Bool}
theorem addrOf {a : Addr} {i : Nat} {v : Value} (h : w.cell? (a.add i) = some v) (h0 : ∃ v0, w.cell? a = some v0) : ∃ b o, a = ⟨b, o, none⟩ ∧ b < w.heap.size ∧ w.cell? ⟨b, o + i, none⟩ = some v := by
  obtain ⟨b, off, spot⟩ := a
  obtain ⟨v0, h0⟩ := h0
  have hspot : spot = none := World.cell?_spot h0
  subst hspot
  refine ⟨b, off, rfl, World.block_lt_of_cell? w _ h0, ?_⟩
  rw [← Go.WideShapes.add_plain]
  exact h
theorem cells4 {base : Nat} {a : Addr} {cs : List Value} (h : w.cells? base a 4 = some cs) : ∃ c0 c1 c2 c3, cs = [c0, c1, c2, c3] ∧ w.cell? a = some c0 ∧ w.cell? (a.add 1) = some c1 ∧ w.cell? (a.add 2) = some c2 ∧ w.cell? (a.add 3) = some c3 := by
  obtain ⟨_, hlen, hc⟩ := World.cells?_some h
  match cs, hlen with
  | [c0, c1, c2, c3], _ =>
    refine ⟨c0, c1, c2, c3, rfl, ?_, ?_, ?_, ?_⟩
    · simpa [Addr.add] using hc 0 (by decide)
    · simpa using hc 1 (by decide)
    · simpa using hc 2 (by decide)
    · simpa using hc 3 (by decide)
theorem readHold {fuel : Nat} {c0 c1 c2 c3 : Value} {x : DataW H × List MemPlace} (h : DataW.trod enc Try.prog w 0 spare held fuel 65 [c0, c1, c2, c3] = some x) : ∃ y : Hd, c0 = .int .i64 y.o ∧ c1 = .int .i64 y.l ∧ c2 = .int .i64 y.b ∧ c3 = .int .i64 y.n := by
  obtain ⟨y0, y1, y2, y3, n, hx, hl, h0, h1, h2, h3⟩ := trod_struct4 Try.underlying65 h
  simp only [cellsInt, List.drop_succ_cons, List.drop_zero, List.take_succ_cons, List.take_zero] at h0 h1 h2 h3
  obtain ⟨n0, e0, _⟩ := DataW.trod_int Try.underlying3 h0
  obtain ⟨n1, e1, _⟩ := DataW.trod_int Try.underlying3 h1
  obtain ⟨n2, e2, _⟩ := DataW.trod_int Try.underlying3 h2
  obtain ⟨n3, e3, _⟩ := DataW.trod_int Try.underlying3 h3
  simp only [List.cons.injEq, and_true] at e0 e1 e2 e3
  exact ⟨⟨n0, n1, n2, n3⟩, e0, e1, e2, e3⟩
theorem readHolds {fuel : Nat} {cs : List Value} {x : DataW H × List MemPlace} (h : DataW.trod enc Try.prog w 0 spare held fuel 28 cs = some x) : ∃ s : Hs, cs = [s.val] ∧ s.At w := by
  rcases open_slice Try.underlying28 h with ⟨rfl, _⟩ | ⟨a, len, cap, m, n, D, Pl, rfl, hb, hl, hm, hmm, _, hx⟩
  · exact ⟨⟨none, 0, 0, fun _ => ⟨0, 0, 0, 0⟩⟩, rfl, Nat.le_refl _, Nat.zero_le _, fun i hi => absurd hi (Nat.not_lt_zero _), fun _ => rfl⟩
  · have hlm : len ≤ m := by rw [hmm]; split <;> omega
    rw [cellsHold] at hx
    haveI : Inhabited Hd := ⟨⟨0, 0, 0, 0⟩⟩
    obtain ⟨z, hz⟩ := choose_lt (α := Hd) (n := len) (p := fun i y => w.cell? (a.add (i * 4)) = some (.int .i64 y.o) ∧ w.cell? (a.add (i * 4 + 1)) = some (.int .i64 y.l) ∧ w.cell? (a.add (i * 4 + 2)) = some (.int .i64 y.b) ∧ w.cell? (a.add (i * 4 + 3)) = some (.int .i64 y.n)) (fun i hi => by
      obtain ⟨cs', hc, ht⟩ := hx i (by omega)
      obtain ⟨c0, c1, c2, c3, rfl, k0, k1, k2, k3⟩ := cells4 hc
      obtain ⟨y, rfl, rfl, rfl, rfl⟩ := readHold ht
      rw [add_add] at k1 k2 k3
      exact ⟨y, k0, k1, k2, k3⟩)
    refine ⟨⟨some a, len, cap, z⟩, rfl, hl, hm, fun i hi => ?_, fun h => by cases h⟩
    have hi' : i < len := hi
    have h0 : ∃ v0, w.cell? a = some v0 := ⟨_, by have := (hz 0 (by omega)).1; simpa [Addr.add] using this⟩
    obtain ⟨k0, k1, k2, k3⟩ := hz i hi'
    obtain ⟨b, o, rfl, hb', e0⟩ := addrOf k0 h0
    rw [Go.WideShapes.add_plain] at k1 k2 k3
    exact ⟨b, o, rfl, hb', e0, by rw [Nat.add_assoc]; exact k1, by rw [Nat.add_assoc]; exact k2, by rw [Nat.add_assoc]; exact k3⟩
end
end HoldsFrames
end Go.Proofs.Ytbcacebifpagpac
namespace Go.Proofs.Ytbcacebifpagpac
open Go.ChangeShapes Go.WideShapes Go.ChangeAt Go.RowKit Go.Joins Go.Deep
set_option linter.unusedVariables false
set_option maxRecDepth 100000
theorem cellsLine : Try.prog.cellsOf 53 = 4 := by kernel_rfl
theorem cellsMove : Try.prog.cellsOf 70 = 4 := by kernel_rfl
theorem cellsOrder : Try.prog.cellsOf 51 = 2 := by kernel_rfl
theorem cellsState : Try.prog.cellsOf 31 = 7 := by kernel_rfl
theorem cellsLines : Try.prog.cellsOf 49 = 1 := by kernel_rfl
theorem cellsMoves : Try.prog.cellsOf 29 = 1 := by kernel_rfl
theorem cellsOrders : Try.prog.cellsOf 27 = 1 := by kernel_rfl
theorem cellsHolds : Try.prog.cellsOf 28 = 1 := by kernel_rfl
theorem cellsRows : Try.prog.cellsOf 26 = 1 := by kernel_rfl
section
variable {H : Type} {enc : TypeId × Value → H} {w : World} {held : Bool} {spare : Nat → Bool}
theorem readLine {fuel : Nat} {c0 c1 c2 c3 : Value} {x : DataW H × List MemPlace} (h : DataW.trod enc Try.prog w 0 spare held fuel 53 [c0, c1, c2, c3] = some x) : ∃ y : Hd, c0 = .int .i64 y.o ∧ c1 = .int .i64 y.l ∧ c2 = .int .i64 y.b ∧ c3 = .int .i64 y.n := by
  obtain ⟨y0, y1, y2, y3, n, hx, hl, h0, h1, h2, h3⟩ := trod_struct4 Try.underlying53 h
  simp only [cellsInt, List.drop_succ_cons, List.drop_zero, List.take_succ_cons, List.take_zero] at h0 h1 h2 h3
  obtain ⟨n0, e0, _⟩ := DataW.trod_int Try.underlying3 h0
  obtain ⟨n1, e1, _⟩ := DataW.trod_int Try.underlying3 h1
  obtain ⟨n2, e2, _⟩ := DataW.trod_int Try.underlying3 h2
  obtain ⟨n3, e3, _⟩ := DataW.trod_int Try.underlying3 h3
  simp only [List.cons.injEq, and_true] at e0 e1 e2 e3
  exact ⟨⟨n0, n1, n2, n3⟩, e0, e1, e2, e3⟩
theorem readLines {fuel : Nat} {cs : List Value} {x : DataW H × List MemPlace} (h : DataW.trod enc Try.prog w 0 spare held fuel 49 cs = some x) : ∃ s : Hs, cs = [s.val] ∧ s.At w := by
  rcases open_slice Try.underlying49 h with ⟨rfl, _⟩ | ⟨a, len, cap, m, n, D, Pl, rfl, hb, hl, hm, hmm, _, hx⟩
  · exact ⟨⟨none, 0, 0, fun _ => ⟨0, 0, 0, 0⟩⟩, rfl, Nat.le_refl _, Nat.zero_le _, fun i hi => absurd hi (Nat.not_lt_zero _), fun _ => rfl⟩
  · have hlm : len ≤ m := by rw [hmm]; split <;> omega
    rw [cellsLine] at hx
    haveI : Inhabited Hd := ⟨⟨0, 0, 0, 0⟩⟩
    obtain ⟨z, hz⟩ := choose_lt (α := Hd) (n := len) (p := fun i y => w.cell? (a.add (i * 4)) = some (.int .i64 y.o) ∧ w.cell? (a.add (i * 4 + 1)) = some (.int .i64 y.l) ∧ w.cell? (a.add (i * 4 + 2)) = some (.int .i64 y.b) ∧ w.cell? (a.add (i * 4 + 3)) = some (.int .i64 y.n)) (fun i hi => by
      obtain ⟨cs', hc, ht⟩ := hx i (by omega)
      obtain ⟨c0, c1, c2, c3, rfl, k0, k1, k2, k3⟩ := cells4 hc
      obtain ⟨y, rfl, rfl, rfl, rfl⟩ := readLine ht
      rw [add_add] at k1 k2 k3
      exact ⟨y, k0, k1, k2, k3⟩)
    refine ⟨⟨some a, len, cap, z⟩, rfl, hl, hm, fun i hi => ?_, fun h => by cases h⟩
    have hi' : i < len := hi
    have h0 : ∃ v0, w.cell? a = some v0 := ⟨_, by have := (hz 0 (by omega)).1; simpa [Addr.add] using this⟩
    obtain ⟨k0, k1, k2, k3⟩ := hz i hi'
    obtain ⟨b, o, rfl, hb', e0⟩ := addrOf k0 h0
    rw [Go.WideShapes.add_plain] at k1 k2 k3
    exact ⟨b, o, rfl, hb', e0, by rw [Nat.add_assoc]; exact k1, by rw [Nat.add_assoc]; exact k2, by rw [Nat.add_assoc]; exact k3⟩
theorem readMove {fuel : Nat} {c0 c1 c2 c3 : Value} {x : DataW H × List MemPlace} (h : DataW.trod enc Try.prog w 0 spare held fuel 70 [c0, c1, c2, c3] = some x) : ∃ y : Hd, c0 = .int .i64 y.o ∧ c1 = .int .i64 y.l ∧ c2 = .int .i64 y.b ∧ c3 = .int .i64 y.n := by
  obtain ⟨y0, y1, y2, y3, n, hx, hl, h0, h1, h2, h3⟩ := trod_struct4 Try.underlying70 h
  simp only [cellsInt, List.drop_succ_cons, List.drop_zero, List.take_succ_cons, List.take_zero] at h0 h1 h2 h3
  obtain ⟨n0, e0, _⟩ := DataW.trod_int Try.underlying3 h0
  obtain ⟨n1, e1, _⟩ := DataW.trod_int Try.underlying3 h1
  obtain ⟨n2, e2, _⟩ := DataW.trod_int Try.underlying3 h2
  obtain ⟨n3, e3, _⟩ := DataW.trod_int Try.underlying3 h3
  simp only [List.cons.injEq, and_true] at e0 e1 e2 e3
  exact ⟨⟨n0, n1, n2, n3⟩, e0, e1, e2, e3⟩
theorem readMoves {fuel : Nat} {cs : List Value} {x : DataW H × List MemPlace} (h : DataW.trod enc Try.prog w 0 spare held fuel 29 cs = some x) : ∃ s : Hs, cs = [s.val] ∧ s.At w := by
  rcases open_slice Try.underlying29 h with ⟨rfl, _⟩ | ⟨a, len, cap, m, n, D, Pl, rfl, hb, hl, hm, hmm, _, hx⟩
  · exact ⟨⟨none, 0, 0, fun _ => ⟨0, 0, 0, 0⟩⟩, rfl, Nat.le_refl _, Nat.zero_le _, fun i hi => absurd hi (Nat.not_lt_zero _), fun _ => rfl⟩
  · have hlm : len ≤ m := by rw [hmm]; split <;> omega
    rw [cellsMove] at hx
    haveI : Inhabited Hd := ⟨⟨0, 0, 0, 0⟩⟩
    obtain ⟨z, hz⟩ := choose_lt (α := Hd) (n := len) (p := fun i y => w.cell? (a.add (i * 4)) = some (.int .i64 y.o) ∧ w.cell? (a.add (i * 4 + 1)) = some (.int .i64 y.l) ∧ w.cell? (a.add (i * 4 + 2)) = some (.int .i64 y.b) ∧ w.cell? (a.add (i * 4 + 3)) = some (.int .i64 y.n)) (fun i hi => by
      obtain ⟨cs', hc, ht⟩ := hx i (by omega)
      obtain ⟨c0, c1, c2, c3, rfl, k0, k1, k2, k3⟩ := cells4 hc
      obtain ⟨y, rfl, rfl, rfl, rfl⟩ := readMove ht
      rw [add_add] at k1 k2 k3
      exact ⟨y, k0, k1, k2, k3⟩)
    refine ⟨⟨some a, len, cap, z⟩, rfl, hl, hm, fun i hi => ?_, fun h => by cases h⟩
    have hi' : i < len := hi
    have h0 : ∃ v0, w.cell? a = some v0 := ⟨_, by have := (hz 0 (by omega)).1; simpa [Addr.add] using this⟩
    obtain ⟨k0, k1, k2, k3⟩ := hz i hi'
    obtain ⟨b, o, rfl, hb', e0⟩ := addrOf k0 h0
    rw [Go.WideShapes.add_plain] at k1 k2 k3
    exact ⟨b, o, rfl, hb', e0, by rw [Nat.add_assoc]; exact k1, by rw [Nat.add_assoc]; exact k2, by rw [Nat.add_assoc]; exact k3⟩
theorem cells2 {base : Nat} {a : Addr} {cs : List Value} (h : w.cells? base a 2 = some cs) : ∃ c0 c1, cs = [c0, c1] ∧ w.cell? a = some c0 ∧ w.cell? (a.add 1) = some c1 := by
  obtain ⟨_, hlen, hc⟩ := World.cells?_some h
  match cs, hlen with
  | [c0, c1], _ =>
    refine ⟨c0, c1, rfl, ?_, ?_⟩
    · simpa [Addr.add] using hc 0 (by decide)
    · simpa using hc 1 (by decide)
theorem readOrder {fuel : Nat} {c0 c1 : Value} {x : DataW H × List MemPlace} (h : DataW.trod enc Try.prog w 0 spare held fuel 51 [c0, c1] = some x) : ∃ y : Od, c0 = .int .i64 y.k ∧ c1 = .slice y.ls.a y.ls.n y.ls.c ∧ y.ls.At w := by
  obtain ⟨y0, y1, n, hx, hl, h0, h1⟩ := trod_struct2 Try.underlying51 h
  simp only [cellsInt, cellsLines, List.drop_succ_cons, List.drop_zero, List.take_succ_cons, List.take_zero] at h0 h1
  obtain ⟨n0, e0, _⟩ := DataW.trod_int Try.underlying3 h0
  obtain ⟨s, e1, hs⟩ := readLines h1
  simp only [List.cons.injEq, and_true] at e0 e1
  exact ⟨⟨n0, s⟩, e0, e1, hs⟩
theorem readOrders {fuel : Nat} {cs : List Value} {x : DataW H × List MemPlace} (h : DataW.trod enc Try.prog w 0 spare held fuel 27 cs = some x) : ∃ s : Go.Proofs.Ytbcacebifpagpac.Os, cs = [s.val] ∧ s.At w := by
  rcases open_slice Try.underlying27 h with ⟨rfl, _⟩ | ⟨a, len, cap, m, n, D, Pl, rfl, hb, hl, hm, hmm, _, hx⟩
  · exact ⟨⟨none, 0, 0, fun _ => ⟨0, ⟨none, 0, 0, fun _ => ⟨0, 0, 0, 0⟩⟩⟩⟩, rfl, Nat.le_refl _, Nat.zero_le _, fun i hi => absurd hi (Nat.not_lt_zero _)⟩
  · have hlm : len ≤ m := by rw [hmm]; split <;> omega
    rw [cellsOrder] at hx
    haveI : Inhabited Od := ⟨⟨0, ⟨none, 0, 0, fun _ => ⟨0, 0, 0, 0⟩⟩⟩⟩
    obtain ⟨z, hz⟩ := choose_lt (α := Od) (n := len) (p := fun i y => w.cell? (a.add (i * 2)) = some (.int .i64 y.k) ∧ w.cell? (a.add (i * 2 + 1)) = some (.slice y.ls.a y.ls.n y.ls.c) ∧ y.ls.At w) (fun i hi => by
      obtain ⟨cs', hc, ht⟩ := hx i (by omega)
      obtain ⟨c0, c1, rfl, k0, k1⟩ := cells2 hc
      obtain ⟨y, rfl, rfl, hy⟩ := readOrder ht
      rw [add_add] at k1
      exact ⟨y, k0, k1, hy⟩)
    refine ⟨⟨some a, len, cap, z⟩, rfl, hl, hm, fun i hi => ?_⟩
    have hi' : i < len := hi
    have h0 : ∃ v0, w.cell? a = some v0 := ⟨_, by have := (hz 0 (by omega)).1; simpa [Addr.add] using this⟩
    obtain ⟨k0, k1, hy⟩ := hz i hi'
    obtain ⟨b, o, rfl, hb', e0⟩ := addrOf k0 h0
    rw [Go.WideShapes.add_plain] at k1
    exact ⟨b, o, rfl, hb', e0, by rw [Nat.add_assoc]; exact k1, hy⟩
theorem array7 {α : Type} {cs : Array α} (h : cs.size = 7) : ∃ c0 c1 c2 c3 c4 c5 c6, cs = #[c0, c1, c2, c3, c4, c5, c6] := by
  obtain ⟨l⟩ := cs
  match l, h with
  | [c0, c1, c2, c3, c4, c5, c6], _ => exact ⟨c0, c1, c2, c3, c4, c5, c6, rfl⟩
theorem openState {r : Reach} {b0 : Nat} {v : Value} {d : DataW H} {ps : List MemPlace} (hv : Value.okWide Try.prog w r b0 31 v) (h : DataW.Trod enc Try.prog w 0 spare held 31 v d ps) : ∃ s : St, v = s.val ∧ s.At w := by
  obtain ⟨cs, rfl, hsz⟩ := okWide_struct Try.underlying31 hv
  obtain ⟨c0, c1, c2, c3, c4, c5, c6, rfl⟩ := array7 (hsz.trans cellsState)
  obtain ⟨fuel, hf⟩ := h
  obtain ⟨xs, n, _, hx, hl, hlen, hg⟩ := DataW.trod_struct Try.underlying31 hf
  match xs, hlen with
  | [y0, y1, y2, y3, y4, y5, y6], _ =>
    have k0 := hg 0 _ rfl
    have k1 := hg 1 _ rfl
    have k2 := hg 2 _ rfl
    have k3 := hg 3 _ rfl
    have k4 := hg 4 _ rfl
    have k5 := hg 5 _ rfl
    have k6 := hg 6 _ rfl
    simp [cellsRows, cellsOrders, cellsHolds, cellsMoves, cellsInts, Value.cells] at k0 k1 k2 k3 k4 k5 k6
    obtain ⟨on, e0, h0⟩ := readRows k0
    obtain ⟨os, e1, h1⟩ := readOrders k1
    obtain ⟨hs, e2, h2⟩ := HoldsFrames.readHolds k2
    obtain ⟨ms, e3, h3⟩ := readMoves k3
    obtain ⟨si, e4, h4⟩ := readInts k4
    obtain ⟨so, e5, h5⟩ := readInts k5
    obtain ⟨sf, e6, h6⟩ := readInts k6
    simp only [List.cons.injEq, and_true] at e0 e1 e2 e3 e4 e5 e6
    subst e0 e1 e2 e3 e4 e5 e6
    exact ⟨⟨on, os, hs, ms, si, so, sf⟩, rfl, h0, h1, h2, h3, h4, h5, h6⟩
end
end Go.Proofs.Ytbcacebifpagpac

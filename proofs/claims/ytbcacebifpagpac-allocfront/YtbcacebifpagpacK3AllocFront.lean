/- Texts that were built one behind the other, joined; what AllocFront does not reach is left out. -/
import Derived.Test.YtbcacebifpagpacK2AllocFront
import Derived.Test.YtbcacebifpagpacRows
import Derived.ProofKit
import Derived.OpenShut
import Derived.Lib.SmallJoins
import Derived.Deep.Slices
namespace Go.Proofs.Ytbcacebifpagpac
open Go.RowKit Go.Shelf Go.Sort
set_option linter.unusedVariables false
structure BusyC (w : World) (g : Nat) : Prop where
  b0 : Blk w (g) 3 2 (fun j => (#[.int .i64 9, .int .i64 0] : Array Value).getD j default)
  b1 : Blk w (g + 1) 3 2 (fun j => (#[.int .i64 3, .int .i64 0] : Array Value).getD j default)
  b2 : Blk w (g + 2) 3 2 (fun j => (#[.int .i64 0, .int .i64 6] : Array Value).getD j default)
  b3 : Blk w (g + 3) 23 3 (fun j => (#[.slice (some ⟨g, 0, none⟩) 2 2, .slice (some ⟨g + 1, 0, none⟩) 2 2, .slice (some ⟨g + 2, 0, none⟩) 2 2] : Array Value).getD j default)
  b4 : Blk w (g + 4) 53 8 (fun j => (#[.int .i64 0, .int .i64 6, .int .i64 1, .int .i64 2, .int .i64 1, .int .i64 9, .int .i64 0, .int .i64 3] : Array Value).getD j default)
  b5 : Blk w (g + 5) 53 4 (fun j => (#[.int .i64 0, .int .i64 4, .int .i64 0, .int .i64 0] : Array Value).getD j default)
  b6 : Blk w (g + 6) 51 4 (fun j => (#[.int .i64 1, .slice (some ⟨g + 4, 0, none⟩) 2 2, .int .i64 0, .slice (some ⟨g + 5, 0, none⟩) 1 1] : Array Value).getD j default)
  b7 : Blk w (g + 7) 65 12 (fun j => (#[.int .i64 0, .int .i64 0, .int .i64 0, .int .i64 2, .int .i64 0, .int .i64 0, .int .i64 1, .int .i64 3, .int .i64 0, .int .i64 1, .int .i64 2, .int .i64 6] : Array Value).getD j default)
  b8 : Blk w (g + 8) 70 4 (fun j => (#[.int .i64 0, .int .i64 0, .int .i64 1, .int .i64 5] : Array Value).getD j default)
  b9 : Blk w (g + 9) 3 2 (fun j => (#[.int .i64 13, .int .i64 6] : Array Value).getD j default)
  b10 : Blk w (g + 10) 3 2 (fun j => (#[.int .i64 1, .int .i64 0] : Array Value).getD j default)
  b11 : Blk w (g + 11) 3 2 (fun j => (#[.int .i64 0, .int .i64 0] : Array Value).getD j default)
theorem BusyC.below {w w' : World} {g : Nat} (h : BusyC w g) (hB : Below w.heap.size w w') : BusyC w' g := ⟨h.b0.below hB, h.b1.below hB, h.b2.below hB, h.b3.below hB, h.b4.below hB, h.b5.below hB, h.b6.below hB, h.b7.below hB, h.b8.below hB, h.b9.below hB, h.b10.below hB, h.b11.below hB⟩
def blC : Nat → Hd
  | 0 => ⟨0, 6, 1, 2⟩
  | _ => ⟨1, 9, 0, 3⟩
def bhC : Nat → Hd
  | 0 => ⟨0, 0, 1, 3⟩
  | _ => ⟨0, 1, 2, 6⟩
def bosC (g : Nat) : Nat → Od
  | 0 => ⟨1, ⟨some ⟨g + 4, 0, none⟩, 2, 2, blC⟩⟩
  | _ => ⟨0, ⟨some ⟨g + 5, 0, none⟩, 1, 1, fun _ => ⟨0, 4, 0, 0⟩⟩⟩
def busyC (g : Nat) : St := ⟨⟨some ⟨g + 3, 0, none⟩, 3, 3, bon g⟩, ⟨some ⟨g + 6, 0, none⟩, 2, 2, bosC g⟩, ⟨some ⟨g + 7, 4, none⟩, 2, 2, bhC⟩, ⟨some ⟨g + 8, 0, none⟩, 1, 1, fun _ => ⟨0, 0, 1, 5⟩⟩, ⟨some ⟨g + 9, 0, none⟩, 2, 2, bzi⟩, ⟨some ⟨g + 10, 0, none⟩, 2, 2, bzo⟩, ⟨some ⟨g + 11, 0, none⟩, 2, 2, fun _ => 0⟩⟩
theorem busyCAt {w : World} {g : Nat} (h : BusyC w g) : (busyC g).At w := by
  refine ⟨⟨Nat.le_refl _, le_max (n := 3) (by decide), fun i hi => ?_⟩, ⟨Nat.le_refl _, le_max (n := 2) (by decide), fun i hi => ?_⟩, ⟨Nat.le_refl _, le_max (n := 2) (by decide), fun i hi => ?_, fun e => by cases e⟩, ⟨Nat.le_refl _, le_max (n := 1) (by decide), fun i hi => ?_, fun e => by cases e⟩, two_at h.b9 rfl rfl, two_at h.b10 rfl rfl, two_at h.b11 rfl rfl⟩
  · have hi' : i < 3 := hi
    refine ⟨g + 3, 0, rfl, h.b3.lt, ?_⟩
    match i, hi' with
    | 0, _ => exact ⟨h.b3.cell (j := 0) (by decide), two_at h.b0 rfl rfl⟩
    | 1, _ => exact ⟨h.b3.cell (j := 1) (by decide), two_at h.b1 rfl rfl⟩
    | 2, _ => exact ⟨h.b3.cell (j := 2) (by decide), two_at h.b2 rfl rfl⟩
  · have hi' : i < 2 := hi
    refine ⟨g + 6, 0, rfl, h.b6.lt, ?_⟩
    match i, hi' with
    | 0, _ =>
      refine ⟨h.b6.cell (j := 0) (by decide), h.b6.cell (j := 1) (by decide), Nat.le_refl _, le_max (n := 2) (by decide), fun j hj => ?_, fun e => by cases e⟩
      have hj' : j < 2 := hj
      refine ⟨g + 4, 0, rfl, h.b4.lt, ?_⟩
      match j, hj' with
      | 0, _ => exact ⟨h.b4.cell (j := 0) (by decide), h.b4.cell (j := 1) (by decide), h.b4.cell (j := 2) (by decide), h.b4.cell (j := 3) (by decide)⟩
      | 1, _ => exact ⟨h.b4.cell (j := 4) (by decide), h.b4.cell (j := 5) (by decide), h.b4.cell (j := 6) (by decide), h.b4.cell (j := 7) (by decide)⟩
    | 1, _ =>
      refine ⟨h.b6.cell (j := 2) (by decide), h.b6.cell (j := 3) (by decide), Nat.le_refl _, le_max (n := 1) (by decide), fun j hj => ?_, fun e => by cases e⟩
      have hj' : j < 1 := hj
      refine ⟨g + 5, 0, rfl, h.b5.lt, ?_⟩
      match j, hj' with
      | 0, _ => exact ⟨h.b5.cell (j := 0) (by decide), h.b5.cell (j := 1) (by decide), h.b5.cell (j := 2) (by decide), h.b5.cell (j := 3) (by decide)⟩
  · have hi' : i < 2 := hi
    refine ⟨g + 7, 4, rfl, h.b7.lt, ?_⟩
    match i, hi' with
    | 0, _ => exact ⟨h.b7.cell (j := 4) (by decide), h.b7.cell (j := 5) (by decide), h.b7.cell (j := 6) (by decide), h.b7.cell (j := 7) (by decide)⟩
    | 1, _ => exact ⟨h.b7.cell (j := 8) (by decide), h.b7.cell (j := 9) (by decide), h.b7.cell (j := 10) (by decide), h.b7.cell (j := 11) (by decide)⟩
  · have hi' : i < 1 := hi
    refine ⟨g + 8, 0, rfl, h.b8.lt, ?_⟩
    match i, hi' with
    | 0, _ => exact ⟨h.b8.cell (j := 0) (by decide), h.b8.cell (j := 1) (by decide), h.b8.cell (j := 2) (by decide), h.b8.cell (j := 3) (by decide)⟩
theorem BusyB.toC {w : World} {g : Nat} (h : BusyB w g 2 0) : BusyC (w.setCell ⟨g + 4, 3, none⟩ (.int .i64 2)) g :=
  ⟨h.b0.other (by simp) _, h.b1.other (by simp) _, h.b2.other (by simp) _, h.b3.other (by simp) _, (h.b4.set 3 _).congr (fun j hj => by match j, hj with | 0, _ => rfl | 1, _ => rfl | 2, _ => rfl | 3, _ => rfl | 4, _ => rfl | 5, _ => rfl | 6, _ => rfl | 7, _ => rfl), h.b5.other (by simp) _, h.b6.other (by simp) _, h.b7.other (by simp) _, h.b8.other (by simp) _, h.b9.other (by simp) _, h.b10.other (by simp) _, h.b11.other (by simp) _⟩
theorem busyC1 (g1 g2 g : Nat) : allocE (yardP g1 g2) (busyC g) 0 0 2 (-1) = 0 ∧ allocL (yardP g1 g2) (busyC g) 0 0 2 (-1) = 0 := ⟨by rfl, by rfl⟩
theorem busyC2 (g1 g2 g : Nat) : allocE (yardP g1 g2) (busyC g) 0 0 2 0 = 0 ∧ allocL (yardP g1 g2) (busyC g) 0 0 2 0 = 2 := ⟨by rfl, by rfl⟩
theorem busyC3 (g1 g2 g : Nat) : allocE (yardP g1 g2) (busyC g) 1 0 0 (-1) = 6 ∧ allocL (yardP g1 g2) (busyC g) 1 0 0 (-1) = 0 := ⟨by rfl, by rfl⟩
theorem busyC_tk (g1 g2 g : Nat) : tkOf (yardP g1 g2) (busyC g) (lineAt (busyC g) 0 0).o 2 (-1) = ⟨0, fun x => 0 + (if x = 1 then 0 else 0) + (if x = 0 then 2 else 0) + (if x = 2 then 0 else 0)⟩ := by rfl
theorem busyC_kept (a b c : Int) : keptV 3 (bhs 2) a b c = keptV 2 bhC a b c + if a = 0 ∧ b = 0 then (0 + (if c = 1 then 0 else 0) + (if c = 0 then 2 else 0) + (if c = 2 then 0 else 0) : Int) else 0 := by
  have e3 : List.range 3 = [0, 1, 2] := rfl
  have e2 : List.range 2 = [0, 1] := rfl
  unfold keptV
  rw [e3, e2]
  simp only [List.find?_cons, List.find?_nil, matchH, bhs, bhC]
  by_cases ha : a = 0
  · subst ha
    by_cases hb : b = 0
    · subst hb
      by_cases hc0 : c = 0
      · subst hc0; rfl
      · by_cases hc1 : c = 1
        · subst hc1; rfl
        · have h0 : ((0 : Int) == c) = false := by simpa using fun e : (0 : Int) = c => hc0 e.symm
          have h1 : ((1 : Int) == c) = false := by simpa using fun e : (1 : Int) = c => hc1 e.symm
          simp [h0, h1, hc0, hc1]
    · have h0 : ((0 : Int) == b) = false := by simpa using fun e : (0 : Int) = b => hb e.symm
      cases h1 : ((1 : Int) == b && (2 : Int) == c) <;> simp [h0, hb, h1]
  · have h0 : ((0 : Int) == a) = false := by simpa using fun e : (0 : Int) = a => ha e.symm
    simp [h0, ha]
theorem busyC_back {g1 g2 g g' : Nat} {x : St} (h : Took (busyC g) 0 0 2 (tkOf (yardP g1 g2) (busyC g) (lineAt (busyC g) 0 0).o 2 (-1)) x) : SameT x (busyS g' 2 0) := by
  rw [busyC_tk] at h
  refine (h.same (y := busyS g' 2 0) ⟨⟨rfl, fun i hi => ?_⟩, ⟨rfl, fun i hi => ?_⟩, by rfl, fun a b c => busyC_kept a b c, ⟨rfl, fun j hj => rfl⟩, ⟨rfl, fun j hj => rfl⟩, ⟨rfl, fun j hj => rfl⟩, ⟨rfl, fun j hj => rfl⟩⟩)
  · have hi' : i < 3 := hi
    match i, hi' with
    | 0, _ => exact ⟨rfl, fun _ _ => rfl⟩
    | 1, _ => exact ⟨rfl, fun _ _ => rfl⟩
    | 2, _ => exact ⟨rfl, fun _ _ => rfl⟩
  · have hi' : i < 2 := hi
    match i, hi' with
    | 0, _ =>
      refine ⟨rfl, rfl, fun j hj => ?_⟩
      have hj' : j < 2 := hj
      match j, hj' with
      | 0, _ => rfl
      | 1, _ => rfl
    | 1, _ =>
      refine ⟨rfl, rfl, fun j hj => ?_⟩
      have hj' : j < 1 := hj
      match j, hj' with
      | 0, _ => rfl
structure CallI (R : St → World → Prop) (L E : Int) (W : World) (dn : Nat → Bool) (V : Nat → Value) (w : World) : Prop where
  bel : Below W.heap.size W w
  c3 : dn 3 = true → dn 2 = true
  c4 : dn 4 = true → dn 2 = true
  c8 : dn 8 = true → dn 2 = true ∧ dn 7 = true
  yd : dn 0 = true → ∃ g1 g2, V 0 = (yardP g1 g2).val ∧ Blk w g1 42 12 yardF ∧ Blk w g2 3 2 yardG
  box : dn 7 = true → ∃ B, V 7 = .pointer (some ⟨B, 0, none⟩) ∧ W.heap.size ≤ B ∧ ∃ f, Blk w B 31 7 f
  got : dn 2 = true → ∃ x, R x w ∧ V 2 = .tuple #[.agg #[.slice x.on.a x.on.n x.on.c, .slice x.os.a x.os.n x.os.c, .slice x.hs.a x.hs.n x.hs.c, .slice x.ms.a x.ms.n x.ms.c, .slice x.si.a x.si.n x.si.c, .slice x.so.a x.so.n x.so.c, .slice x.sf.a x.sf.n x.sf.c], .int .i64 L, .int .i64 E] ∧ (dn 3 = true → V 3 = .tuple #[.agg #[.slice x.on.a x.on.n x.on.c, .slice x.os.a x.os.n x.os.c, .slice x.hs.a x.hs.n x.hs.c, .slice x.ms.a x.ms.n x.ms.c, .slice x.si.a x.si.n x.si.c, .slice x.so.a x.so.n x.so.c, .slice x.sf.a x.sf.n x.sf.c], .int .i64 L, .int .i64 E]) ∧ (dn 4 = true → V 4 = .agg #[.slice x.on.a x.on.n x.on.c, .slice x.os.a x.os.n x.os.c, .slice x.hs.a x.hs.n x.hs.c, .slice x.ms.a x.ms.n x.ms.c, .slice x.si.a x.si.n x.si.c, .slice x.so.a x.so.n x.so.c, .slice x.sf.a x.sf.n x.sf.c]) ∧ (dn 8 = true → ∀ B, V 7 = .pointer (some ⟨B, 0, none⟩) → Blk w B 31 7 (fun j => x.cells.getD j default))
  n5 : dn 5 = true → V 5 = .int .i64 L
  n6 : dn 6 = true → V 6 = .int .i64 E
  n9 : dn 9 = true → V 9 = .int .i64 L
  n10 : dn 10 = true → V 10 = .int .i64 E
set_option maxRecDepth 100000 in
set_option maxHeartbeats 8000000 in
theorem allocBegun_any (w : World) :
    Calls Try.prog 17 #[] w fun e w' => e = .returned (.bool true) ∧ Below w.heap.size w w' := by
  go_enter Try.func17, Try.ntmps17
  go_wp2_with fail
  refine (busy_any _).mono ?_
  rintro e w1 ⟨gx, rfl, hgt, bb, hB⟩
  simp only [busyS, St.val]
  have f4 := bb.b4.frozen 3
  have c4 := bb.b4.cell (j := 3) (by decide)
  have l4 := bb.b4.lt
  have c6 := bb.b6.cell (j := 1) (by decide)
  have l6 := bb.b6.lt
  obtain ⟨W1, hW, hWB, K1, bc⟩ : ∃ W, ((w1.setCell ⟨gx + 4, 3, none⟩ (.int .i64 2)).alloc (.cells #[.slice (some ⟨gx + 3, 0, none⟩) 3 3, .slice (some ⟨gx + 6, 0, none⟩) 2 2, .slice (some ⟨gx + 7, 4, none⟩) 2 2, .slice (some ⟨gx + 8, 0, none⟩) 1 1, .slice (some ⟨gx + 9, 0, none⟩) 2 2, .slice (some ⟨gx + 10, 0, none⟩) 2 2, .slice (some ⟨gx + 11, 0, none⟩) 2 2] 31)) = W ∧ Below w.heap.size w W ∧ Blk W w1.heap.size 31 7 (fun j => (busyC gx).cells.getD j default) ∧ BusyC W gx :=
    ⟨_, rfl, (hB.setCell (p := ⟨gx + 4, 3, none⟩) (by show w.heap.size ≤ gx + 4; omega) _).alloc (by simpa using hB.size) _, Blk.mk' (by simp) rfl, bb.toC.below ((Below.refl _ _).alloc (Nat.le_refl _) _)⟩
  have HW : Hid ((w1.setCell ⟨gx + 4, 3, none⟩ (.int .i64 2)).alloc (.cells #[.slice (some ⟨gx + 3, 0, none⟩) 3 3, .slice (some ⟨gx + 6, 0, none⟩) 2 2, .slice (some ⟨gx + 7, 4, none⟩) 2 2, .slice (some ⟨gx + 8, 0, none⟩) 1 1, .slice (some ⟨gx + 9, 0, none⟩) 2 2, .slice (some ⟨gx + 10, 0, none⟩) 2 2, .slice (some ⟨gx + 11, 0, none⟩) 2 2] 31) = W1) := hW
  have HXA : Hid (∀ wk, Below W1.heap.size W1 wk → (busyC gx).At wk) := fun wk h => busyCAt (bc.below h)
  have HK1 : Hid (∀ wk, Below W1.heap.size W1 wk → Blk wk w1.heap.size 31 7 (fun j => (busyC gx).cells.getD j default)) := fun wk h => K1.below h
  have HWB : Hid (Below w.heap.size w W1) := hWB
  clear hW bb hgt bc
  go_wp2_with fail
  rw [HW.out]
  clear f4 c4 l4 c6 l6 HW hB hWB
  generalize w1.heap.size = B1 at *
  clear w1
  have HB1 : Hid (Below W1.heap.size W1 W1) := Below.refl _ _
  have rs0 : ∀ d os, (grow (redrawn W1 d) os).cell? ⟨B1, 0, none⟩ = some (.slice (some ⟨gx + 3, 0, none⟩) 3 3) := fun d os => cell_regrown (K1.cell (j := 0) (by decide)) d os
  have rs1 : ∀ d os, (grow (redrawn W1 d) os).cell? ⟨B1, 1, none⟩ = some (.slice (some ⟨gx + 6, 0, none⟩) 2 2) := fun d os => cell_regrown (K1.cell (j := 1) (by decide)) d os
  have rs2 : ∀ d os, (grow (redrawn W1 d) os).cell? ⟨B1, 2, none⟩ = some (.slice (some ⟨gx + 7, 4, none⟩) 2 2) := fun d os => cell_regrown (K1.cell (j := 2) (by decide)) d os
  have rs3 : ∀ d os, (grow (redrawn W1 d) os).cell? ⟨B1, 3, none⟩ = some (.slice (some ⟨gx + 8, 0, none⟩) 1 1) := fun d os => cell_regrown (K1.cell (j := 3) (by decide)) d os
  have rs4 : ∀ d os, (grow (redrawn W1 d) os).cell? ⟨B1, 4, none⟩ = some (.slice (some ⟨gx + 9, 0, none⟩) 2 2) := fun d os => cell_regrown (K1.cell (j := 4) (by decide)) d os
  have rs5 : ∀ d os, (grow (redrawn W1 d) os).cell? ⟨B1, 5, none⟩ = some (.slice (some ⟨gx + 10, 0, none⟩) 2 2) := fun d os => cell_regrown (K1.cell (j := 5) (by decide)) d os
  have rs6 : ∀ d os, (grow (redrawn W1 d) os).cell? ⟨B1, 6, none⟩ = some (.slice (some ⟨gx + 11, 0, none⟩) 2 2) := fun d os => cell_regrown (K1.cell (j := 6) (by decide)) d os
  have xl := K1.lt
  clear K1
  have HTA : Hid (∀ g1 g2 wk, (yardP g1 g2).At wk → (busyC gx).At wk → Calls Try.prog 15 #[(yardP g1 g2).val, (busyC gx).val, .int .i64 0, .int .i64 0, .int .i64 2, .int .i64 (-1)] wk fun e w' => ∃ x : St, e = .returned (.tuple #[x.val, .int .i64 0, .int .i64 0]) ∧ (fun x w => OwnS 0 w x ∧ ∀ g', SameT x (busyS g' 2 0)) x w' ∧ Below wk.heap.size wk w') := fun g1 g2 wk h1 h2 => by
    have h := Take_any (yardP g1 g2) (busyC gx) 0 0 2 (-1) wk h1 h2
    have e1 := (busyC1 g1 g2 gx).1
    rw [(busyC1 g1 g2 gx).2] at h
    refine h.mono fun e w' => ?_
    rintro ⟨x, rfl, h2, h3, h4, h5⟩
    rw [e1]
    exact ⟨x, rfl, ⟨(h4 e1).mono (Nat.zero_le _), fun g' => busyC_back (h3.1 e1)⟩, h5⟩
  have HRB : Hid (∀ (x : St) (wk wj : World), Below wk.heap.size wk wj → (fun x w => OwnS 0 w x ∧ ∀ g', SameT x (busyS g' 2 0)) x wk → (fun x w => OwnS 0 w x ∧ ∀ g', SameT x (busyS g' 2 0)) x wj) := fun x wk wj h hr => ⟨OwnS.below hr.1 h, hr.2⟩
  have HRS : Hid (∀ (x : St) (wk : World) (B : Nat) (f : Nat → Value), Blk wk B 31 7 f → ∀ v0 v1 v2 v3 v4 v5 v6, (fun x w => OwnS 0 w x ∧ ∀ g', SameT x (busyS g' 2 0)) x wk → (fun x w => OwnS 0 w x ∧ ∀ g', SameT x (busyS g' 2 0)) x (set7 wk B v0 v1 v2 v3 v4 v5 v6)) := fun x wk B f hb v0 v1 v2 v3 v4 v5 v6 hr => ⟨OwnS.set7 hr.1 hb v0 v1 v2 v3 v4 v5 v6, hr.2⟩
  refine wp_region_made7 (fun w' => ∃ p : Regrown, w' = grow (redrawn W1 p.d) p.os) [1] [0, 2, 3, 4, 5, 6, 7, 8, 9, 10] (by kernel_rfl) (by kernel_rfl) (by kernel_rfl) (by kernel_rfl) (by kernel_rfl) (by kernel_rfl) (by kernel_rfl) (by kernel_rfl) (regrown_of_below ((Below.refl _ _).drew)) ?_
  simp only [picks, List.drop_succ_cons, List.drop_zero, List.take_succ_cons, List.take_zero, List.cons_append, List.nil_append]
  repeat (go_big_quiet_step (fail))
  refine wpQuiet_nil ?_
  clear rs0 rs1 rs2 rs3 rs4 rs5 rs6 xl
  refine ⟨CallI (fun x w => OwnS 0 w x ∧ ∀ g', SameT x (busyS g' 2 0)) 0 0 W1, fun dn V w hS hd => ?zinit, List.forall_mem_cons.2 ⟨?zp0, List.forall_mem_cons.2 ⟨?zp2, List.forall_mem_cons.2 ⟨?zp3, List.forall_mem_cons.2 ⟨?zp4, List.forall_mem_cons.2 ⟨?zp5, List.forall_mem_cons.2 ⟨?zp6, List.forall_mem_cons.2 ⟨?zp7, List.forall_mem_cons.2 ⟨?zp8, List.forall_mem_cons.2 ⟨?zp9, List.forall_mem_cons.2 ⟨?zp10, List.forall_mem_nil _⟩⟩⟩⟩⟩⟩⟩⟩⟩⟩, ?zdone⟩
  case zinit =>
    have f : ∀ j, j ∈ [0, 2, 3, 4, 5, 6, 7, 8, 9, 10] → ¬ dn j = true := fun j hj h => by rw [hd j hj] at h; cases h
    exact ⟨below_of_regrown hS, fun h => absurd h (f 3 (by simp)), fun h => absurd h (f 4 (by simp)), fun h => absurd h (f 8 (by simp)), fun h => absurd h (f 0 (by simp)), fun h => absurd h (f 7 (by simp)), fun h => absurd h (f 2 (by simp)), fun h => absurd h (f 5 (by simp)), fun h => absurd h (f 6 (by simp)), fun h => absurd h (f 9 (by simp)), fun h => absurd h (f 10 (by simp))⟩
  case zp0 =>
    intro dn V wk K hS hn hd hI hK
    have HII : Hid (CallI (fun x w => OwnS 0 w x ∧ ∀ g', SameT x (busyS g' 2 0)) 0 0 W1 dn V wk) := hI
    have q := hI.bel.size
    clear hI
    refine wpOp_list 0 rfl ?_
    simp only [putAll, dstOf, List.getElem?_toArray, List.getElem?_cons_succ, List.getElem?_cons_zero, Act.put, List.setIfInBounds_toArray, List.set_cons_succ, List.set_cons_zero] at hK ⊢
    go_wp2_with fail
    refine (yard_any _).mono ?_
    rintro e wj ⟨g1, g2, rfl, -, -, k1, k2, hB2⟩
    go_wp2_with fail
    have hI := HII.out
    refine hK _ _ (regrown_of_below (hI.bel.trans (hB2.mono q))) ⟨hI.bel.trans (hB2.mono q), hI.c3, hI.c4, hI.c8, fun _ => ⟨g1, g2, rfl, k1, k2⟩, fun h7 => ?_, fun h2 => ?_, hI.n5, hI.n6, hI.n9, hI.n10⟩
    · obtain ⟨B, b1, b2, f, b3⟩ := hI.box h7
      exact ⟨B, b1, b2, f, b3.below hB2⟩
    · obtain ⟨x, a1, a2, a3, a4, a5⟩ := hI.got h2
      exact ⟨x, HRB.out x wk wj hB2 a1, a2, a3, a4, fun h8 B hb => (a5 h8 B hb).below hB2⟩
  case zp2 =>
    intro dn V wk K hS hn hd hI hK
    obtain ⟨g1, g2, hv0, k1, k2⟩ := hI.yd (hd 0 (List.contains_iff_mem.1 (by kernel_rfl)) (by simp))
    have HII : Hid (CallI (fun x w => OwnS 0 w x ∧ ∀ g', SameT x (busyS g' 2 0)) 0 0 W1 dn V wk) := hI
    have q := hI.bel.size
    clear hI
    have f3 : ¬ dn 3 = true := fun h => by rw [HII.out.c3 h] at hn; cases hn
    have f4 : ¬ dn 4 = true := fun h => by rw [HII.out.c4 h] at hn; cases hn
    have f8 : ¬ dn 8 = true := fun h => by rw [(HII.out.c8 h).1] at hn; cases hn
    refine wpOp_list 2 rfl ?_
    simp only [putAll, dstOf, List.getElem?_toArray, List.getElem?_cons_succ, List.getElem?_cons_zero, Act.put, List.setIfInBounds_toArray, List.set_cons_succ, List.set_cons_zero, hv0] at hK ⊢
    go_wp2_with fail
    refine (HTA.out g1 g2 wk (yardAt k1 k2) (HXA.out wk (HB1.out.trans (HII.out.bel.mono HB1.out.size)))).mono ?_
    rintro e wj ⟨x, rfl, hR, hB2⟩
    have HR : Hid ((fun x w => OwnS 0 w x ∧ ∀ g', SameT x (busyS g' 2 0)) x wj) := hR
    clear hR k1 k2
    simp only [St.val]
    go_wp2_with fail
    have hI := HII.out
    refine hK _ _ (regrown_of_below (hI.bel.trans (hB2.mono q))) ⟨hI.bel.trans (hB2.mono q), fun _ => rfl, fun _ => rfl, fun h => absurd h f8, fun h0 => ?_, fun h7 => ?_, fun _ => ⟨x, HR.out, rfl, fun h => absurd h f3, fun h => absurd h f4, fun h => absurd h f8⟩, hI.n5, hI.n6, hI.n9, hI.n10⟩
    · obtain ⟨g1, g2, b0, b1, b2⟩ := hI.yd h0
      exact ⟨g1, g2, b0, b1.below hB2, b2.below hB2⟩
    · obtain ⟨B, b1, b2, f, b3⟩ := hI.box h7
      exact ⟨B, b1, b2, f, b3.below hB2⟩
  case zp3 =>
    intro dn V wk K hS hn hd hI hK
    have h2 : dn 2 = true := hd 2 (List.contains_iff_mem.1 (by kernel_rfl)) (by simp)
    obtain ⟨x, a1, a2, a3, a4, a5⟩ := hI.got h2
    have HII : Hid (CallI (fun x w => OwnS 0 w x ∧ ∀ g', SameT x (busyS g' 2 0)) 0 0 W1 dn V wk) := hI
    have HR : Hid ((fun x w => OwnS 0 w x ∧ ∀ g', SameT x (busyS g' 2 0)) x wk ∧ V 2 = .tuple #[.agg #[.slice x.on.a x.on.n x.on.c, .slice x.os.a x.os.n x.os.c, .slice x.hs.a x.hs.n x.hs.c, .slice x.ms.a x.ms.n x.ms.c, .slice x.si.a x.si.n x.si.c, .slice x.so.a x.so.n x.so.c, .slice x.sf.a x.sf.n x.sf.c], .int .i64 0, .int .i64 0] ∧ (dn 4 = true → V 4 = .agg #[.slice x.on.a x.on.n x.on.c, .slice x.os.a x.os.n x.os.c, .slice x.hs.a x.hs.n x.hs.c, .slice x.ms.a x.ms.n x.ms.c, .slice x.si.a x.si.n x.si.c, .slice x.so.a x.so.n x.so.c, .slice x.sf.a x.sf.n x.sf.c]) ∧ (dn 8 = true → ∀ B, V 7 = .pointer (some ⟨B, 0, none⟩) → Blk wk B 31 7 (fun j => x.cells.getD j default))) := ⟨a1, a2, a4, a5⟩
    clear hI a1 a3 a4 a5
    refine wpOp_list 3 rfl ?_
    simp only [putAll, dstOf, List.getElem?_toArray, List.getElem?_cons_succ, List.getElem?_cons_zero, Act.put, List.setIfInBounds_toArray, List.set_cons_succ, List.set_cons_zero, a2] at hK ⊢
    go_wp2_with fail
    have hI := HII.out
    exact hK _ _ hS ⟨hI.bel, fun _ => h2, hI.c4, hI.c8, hI.yd, hI.box, fun _ => ⟨x, HR.out.1, HR.out.2.1, fun _ => rfl, HR.out.2.2.1, HR.out.2.2.2⟩, hI.n5, hI.n6, hI.n9, hI.n10⟩
  case zp4 =>
    intro dn V wk K hS hn hd hI hK
    have h3 : dn 3 = true := hd 3 (List.contains_iff_mem.1 (by kernel_rfl)) (by simp)
    have h2 := hI.c3 h3
    obtain ⟨x, a1, a2, a3, a4, a5⟩ := hI.got h2
    have a3' := a3 h3
    have HII : Hid (CallI (fun x w => OwnS 0 w x ∧ ∀ g', SameT x (busyS g' 2 0)) 0 0 W1 dn V wk) := hI
    have HR : Hid ((fun x w => OwnS 0 w x ∧ ∀ g', SameT x (busyS g' 2 0)) x wk ∧ V 2 = .tuple #[.agg #[.slice x.on.a x.on.n x.on.c, .slice x.os.a x.os.n x.os.c, .slice x.hs.a x.hs.n x.hs.c, .slice x.ms.a x.ms.n x.ms.c, .slice x.si.a x.si.n x.si.c, .slice x.so.a x.so.n x.so.c, .slice x.sf.a x.sf.n x.sf.c], .int .i64 0, .int .i64 0] ∧ (dn 3 = true → V 3 = .tuple #[.agg #[.slice x.on.a x.on.n x.on.c, .slice x.os.a x.os.n x.os.c, .slice x.hs.a x.hs.n x.hs.c, .slice x.ms.a x.ms.n x.ms.c, .slice x.si.a x.si.n x.si.c, .slice x.so.a x.so.n x.so.c, .slice x.sf.a x.sf.n x.sf.c], .int .i64 0, .int .i64 0]) ∧ (dn 8 = true → ∀ B, V 7 = .pointer (some ⟨B, 0, none⟩) → Blk wk B 31 7 (fun j => x.cells.getD j default))) := ⟨a1, a2, a3, a5⟩
    clear hI a1 a2 a3 a4 a5
    refine wpOp_list 4 rfl ?_
    simp only [putAll, dstOf, List.getElem?_toArray, List.getElem?_cons_succ, List.getElem?_cons_zero, Act.put, List.setIfInBounds_toArray, List.set_cons_succ, List.set_cons_zero, a3'] at hK ⊢
    go_wp2_with fail
    have hI := HII.out
    exact hK _ _ hS ⟨hI.bel, hI.c3, fun _ => h2, hI.c8, hI.yd, hI.box, fun _ => ⟨x, HR.out.1, HR.out.2.1, HR.out.2.2.1, fun _ => rfl, HR.out.2.2.2⟩, hI.n5, hI.n6, hI.n9, hI.n10⟩
  case zp5 =>
    intro dn V wk K hS hn hd hI hK
    have h3 : dn 3 = true := hd 3 (List.contains_iff_mem.1 (by kernel_rfl)) (by simp)
    obtain ⟨x, a1, a2, a3, a4, a5⟩ := hI.got (hI.c3 h3)
    have a3' := a3 h3
    have HII : Hid (CallI (fun x w => OwnS 0 w x ∧ ∀ g', SameT x (busyS g' 2 0)) 0 0 W1 dn V wk) := hI
    clear hI a1 a2 a3 a4 a5
    refine wpOp_list 5 rfl ?_
    simp only [putAll, dstOf, List.getElem?_toArray, List.getElem?_cons_succ, List.getElem?_cons_zero, Act.put, List.setIfInBounds_toArray, List.set_cons_succ, List.set_cons_zero, a3'] at hK ⊢
    go_wp2_with fail
    have hI := HII.out
    exact hK _ _ hS ⟨hI.bel, hI.c3, hI.c4, hI.c8, hI.yd, hI.box, hI.got, fun _ => rfl, hI.n6, hI.n9, hI.n10⟩
  case zp6 =>
    intro dn V wk K hS hn hd hI hK
    have h3 : dn 3 = true := hd 3 (List.contains_iff_mem.1 (by kernel_rfl)) (by simp)
    obtain ⟨x, a1, a2, a3, a4, a5⟩ := hI.got (hI.c3 h3)
    have a3' := a3 h3
    have HII : Hid (CallI (fun x w => OwnS 0 w x ∧ ∀ g', SameT x (busyS g' 2 0)) 0 0 W1 dn V wk) := hI
    clear hI a1 a2 a3 a4 a5
    refine wpOp_list 6 rfl ?_
    simp only [putAll, dstOf, List.getElem?_toArray, List.getElem?_cons_succ, List.getElem?_cons_zero, Act.put, List.setIfInBounds_toArray, List.set_cons_succ, List.set_cons_zero, a3'] at hK ⊢
    go_wp2_with fail
    have hI := HII.out
    exact hK _ _ hS ⟨hI.bel, hI.c3, hI.c4, hI.c8, hI.yd, hI.box, hI.got, hI.n5, fun _ => rfl, hI.n9, hI.n10⟩
  case zp7 =>
    intro dn V wk K hS hn hd hI hK
    have HII : Hid (CallI (fun x w => OwnS 0 w x ∧ ∀ g', SameT x (busyS g' 2 0)) 0 0 W1 dn V wk) := hI
    have q := hI.bel.size
    clear hI
    refine wpOp_list 7 rfl ?_
    simp only [putAll, dstOf, List.getElem?_toArray, List.getElem?_cons_succ, List.getElem?_cons_zero, Act.put, List.setIfInBounds_toArray, List.set_cons_succ, List.set_cons_zero] at hK ⊢
    go_wp2_with fail
    have hI := HII.out
    have hBa := (Below.refl wk.heap.size wk).alloc (Nat.le_refl _) (.cells #[.slice .none 0 0, .slice .none 0 0, .slice .none 0 0, .slice .none 0 0, .slice .none 0 0, .slice .none 0 0, .slice .none 0 0] 31)
    have f8 : ¬ dn 8 = true := fun h => by rw [(hI.c8 h).2] at hn; cases hn
    refine hK _ _ (regrown_of_below (hI.bel.trans (hBa.mono q))) ⟨hI.bel.trans (hBa.mono q), hI.c3, hI.c4, fun h => absurd h f8, fun h0 => ?_, fun _ => ⟨wk.heap.size, rfl, q, _, Blk.mk' rfl rfl⟩, fun h2 => ?_, hI.n5, hI.n6, hI.n9, hI.n10⟩
    · obtain ⟨g1, g2, b0, b1, b2⟩ := hI.yd h0
      exact ⟨g1, g2, b0, b1.below hBa, b2.below hBa⟩
    · obtain ⟨x, a1, a2, a3, a4, a5⟩ := hI.got h2
      exact ⟨x, HRB.out x wk _ hBa a1, a2, a3, a4, fun h => absurd h f8⟩
  case zp8 =>
    intro dn V wk K hS hn hd hI hK
    have h7 : dn 7 = true := hd 7 (List.contains_iff_mem.1 (by kernel_rfl)) (by simp)
    have h4 : dn 4 = true := hd 4 (List.contains_iff_mem.1 (by kernel_rfl)) (by simp)
    have h2 := hI.c4 h4
    obtain ⟨B, hv7, hBW, f, hbk⟩ := hI.box h7
    obtain ⟨x, a1, a2, a3, a4, a5⟩ := hI.got h2
    have a4' := a4 h4
    have HII : Hid (CallI (fun x w => OwnS 0 w x ∧ ∀ g', SameT x (busyS g' 2 0)) 0 0 W1 dn V wk) := hI
    have HR : Hid ((fun x w => OwnS 0 w x ∧ ∀ g', SameT x (busyS g' 2 0)) x wk ∧ V 2 = .tuple #[.agg #[.slice x.on.a x.on.n x.on.c, .slice x.os.a x.os.n x.os.c, .slice x.hs.a x.hs.n x.hs.c, .slice x.ms.a x.ms.n x.ms.c, .slice x.si.a x.si.n x.si.c, .slice x.so.a x.so.n x.so.c, .slice x.sf.a x.sf.n x.sf.c], .int .i64 0, .int .i64 0] ∧ (dn 3 = true → V 3 = .tuple #[.agg #[.slice x.on.a x.on.n x.on.c, .slice x.os.a x.os.n x.os.c, .slice x.hs.a x.hs.n x.hs.c, .slice x.ms.a x.ms.n x.ms.c, .slice x.si.a x.si.n x.si.c, .slice x.so.a x.so.n x.so.c, .slice x.sf.a x.sf.n x.sf.c], .int .i64 0, .int .i64 0]) ∧ Blk wk B 31 7 f ∧ V 7 = .pointer (some ⟨B, 0, none⟩)) := ⟨a1, a2, a3, hbk, hv7⟩
    have hz := hbk
    have zl := hz.lt
    have zf0 := hz.frozen 0
    have zc0 := hz.cell (j := 0) (by decide)
    have zf1 := hz.frozen 1
    have zc1 := hz.cell (j := 1) (by decide)
    have zf2 := hz.frozen 2
    have zc2 := hz.cell (j := 2) (by decide)
    have zf3 := hz.frozen 3
    have zc3 := hz.cell (j := 3) (by decide)
    have zf4 := hz.frozen 4
    have zc4 := hz.cell (j := 4) (by decide)
    have zf5 := hz.frozen 5
    have zc5 := hz.cell (j := 5) (by decide)
    have zf6 := hz.frozen 6
    have zc6 := hz.cell (j := 6) (by decide)
    clear hI a1 a2 a3 a4 a5 hz hbk
    refine wpOp_list 8 rfl ?_
    simp only [putAll, dstOf, List.getElem?_toArray, List.getElem?_cons_succ, List.getElem?_cons_zero, Act.put, List.setIfInBounds_toArray, List.set_cons_succ, List.set_cons_zero, a4', hv7] at hK ⊢
    go_wp2_with fail
    have hI := HII.out
    have KZ := set7_blk HR.out.2.2.2.1 (.slice x.on.a x.on.n x.on.c) (.slice x.os.a x.os.n x.os.c) (.slice x.hs.a x.hs.n x.hs.c) (.slice x.ms.a x.ms.n x.ms.c) (.slice x.si.a x.si.n x.si.c) (.slice x.so.a x.so.n x.so.c) (.slice x.sf.a x.sf.n x.sf.c)
    have hbz := set7_below (b := B) hI.bel hBW (.slice x.on.a x.on.n x.on.c) (.slice x.os.a x.os.n x.os.c) (.slice x.hs.a x.hs.n x.hs.c) (.slice x.ms.a x.ms.n x.ms.c) (.slice x.si.a x.si.n x.si.c) (.slice x.so.a x.so.n x.so.c) (.slice x.sf.a x.sf.n x.sf.c)
    have hRz := HRS.out x wk B f HR.out.2.2.2.1 (.slice x.on.a x.on.n x.on.c) (.slice x.os.a x.os.n x.os.c) (.slice x.hs.a x.hs.n x.hs.c) (.slice x.ms.a x.ms.n x.ms.c) (.slice x.si.a x.si.n x.si.c) (.slice x.so.a x.so.n x.so.c) (.slice x.sf.a x.sf.n x.sf.c) HR.out.1
    unfold set7 at KZ hbz hRz
    refine hK undef _ (regrown_of_below hbz) ⟨hbz, hI.c3, hI.c4, fun _ => ⟨h2, h7⟩, fun h0 => ?_, fun _ => ⟨B, HR.out.2.2.2.2, hBW, _, KZ⟩, fun _ => ⟨x, hRz, HR.out.2.1, HR.out.2.2.1, fun _ => a4', fun _ B' hB' => ?_⟩, hI.n5, hI.n6, hI.n9, hI.n10⟩
    · obtain ⟨g1, g2, b0, b1, b2⟩ := hI.yd h0
      have s7 : ∀ (q : Nat) (t : TypeId) (m : Nat) (z : Nat → Value), t ≠ 31 → Blk wk q t m z → Blk (set7 wk B (.slice x.on.a x.on.n x.on.c) (.slice x.os.a x.os.n x.os.c) (.slice x.hs.a x.hs.n x.hs.c) (.slice x.ms.a x.ms.n x.ms.c) (.slice x.si.a x.si.n x.si.c) (.slice x.so.a x.so.n x.so.c) (.slice x.sf.a x.sf.n x.sf.c)) q t m z := fun q t m z ht hb => by
        have hne := Blk.ne2 hb HR.out.2.2.2.1 ht
        unfold set7
        exact ((((((hb.other (a := ⟨B, 0, none⟩) hne _).other (a := ⟨B, 1, none⟩) hne _).other (a := ⟨B, 2, none⟩) hne _).other (a := ⟨B, 3, none⟩) hne _).other (a := ⟨B, 4, none⟩) hne _).other (a := ⟨B, 5, none⟩) hne _).other (a := ⟨B, 6, none⟩) hne _
      unfold set7 at s7
      exact ⟨g1, g2, b0, s7 _ _ _ _ (by decide) b1, s7 _ _ _ _ (by decide) b2⟩
    · have e : V 7 = .pointer (some ⟨B', 0, none⟩) := hB'
      rw [HR.out.2.2.2.2] at e
      simp only [Value.pointer.injEq, Option.some.injEq, Addr.mk.injEq, and_true] at e
      subst e
      exact KZ.congr (fun j hj => by match j, hj with | 0, _ => rfl | 1, _ => rfl | 2, _ => rfl | 3, _ => rfl | 4, _ => rfl | 5, _ => rfl | 6, _ => rfl)
  case zp9 =>
    intro dn V wk K hS hn hd hI hK
    have a4' := hI.n5 (hd 5 (List.contains_iff_mem.1 (by kernel_rfl)) (by simp))
    have HII : Hid (CallI (fun x w => OwnS 0 w x ∧ ∀ g', SameT x (busyS g' 2 0)) 0 0 W1 dn V wk) := hI
    clear hI
    refine wpOp_list 9 rfl ?_
    simp only [putAll, dstOf, List.getElem?_toArray, List.getElem?_cons_succ, List.getElem?_cons_zero, Act.put, List.setIfInBounds_toArray, List.set_cons_succ, List.set_cons_zero, a4'] at hK ⊢
    go_wp2_with fail
    have hI := HII.out
    exact hK _ _ hS ⟨hI.bel, hI.c3, hI.c4, hI.c8, hI.yd, hI.box, hI.got, hI.n5, hI.n6, fun _ => rfl, hI.n10⟩
  case zp10 =>
    intro dn V wk K hS hn hd hI hK
    have a4' := hI.n6 (hd 6 (List.contains_iff_mem.1 (by kernel_rfl)) (by simp))
    have HII : Hid (CallI (fun x w => OwnS 0 w x ∧ ∀ g', SameT x (busyS g' 2 0)) 0 0 W1 dn V wk) := hI
    clear hI
    refine wpOp_list 10 rfl ?_
    simp only [putAll, dstOf, List.getElem?_toArray, List.getElem?_cons_succ, List.getElem?_cons_zero, Act.put, List.setIfInBounds_toArray, List.set_cons_succ, List.set_cons_zero, a4'] at hK ⊢
    go_wp2_with fail
    have hI := HII.out
    exact hK _ _ hS ⟨hI.bel, hI.c3, hI.c4, hI.c8, hI.yd, hI.box, hI.got, hI.n5, hI.n6, hI.n9, fun _ => rfl⟩
  case zdone =>
    intro dn V wk hS hd hI
    refine NoPanic.normal ?_
    obtain ⟨B, hv7, hBW, f, hbk⟩ := hI.box (hd 7 (by simp))
    obtain ⟨x, hR, a2, a3, a4, a5⟩ := hI.got (hd 2 (by simp))
    have hv9 := hI.n9 (hd 9 (by simp))
    have hv10 := hI.n10 (hd 10 (by simp))
    have KX := a5 (hd 8 (by simp)) B hv7
    have hBel := hI.bel
    clear hI a2 a3 a4 a5 hbk hd hS
    simp only [putAll, dstOf, List.getElem?_toArray, List.getElem?_cons_succ, List.getElem?_cons_zero, Act.put, List.setIfInBounds_toArray, List.set_cons_succ, List.set_cons_zero, hv7, hv9, hv10]
    have HB1 : Hid (Below W1.heap.size W1 wk) := HB1.out.trans (hBel.mono HB1.out.size)
    have HX1 : Hid (OwnS 0 wk x ∧ Blk wk B 31 7 (fun j => x.cells.getD j default)) := ⟨hR.1, KX⟩
    have HSX : Hid (∀ g', SameT x (busyS g' 2 0)) := hR.2
    have K1 := HK1.out wk HB1.out
    clear KX hR hv7 hv9 hv10 HRB HRS HTA
    have rs0 : ∀ d os, (grow (redrawn wk d) os).cell? ⟨B1, 0, none⟩ = some (.slice (some ⟨gx + 3, 0, none⟩) 3 3) := fun d os => cell_regrown (K1.cell (j := 0) (by decide)) d os
    have rs1 : ∀ d os, (grow (redrawn wk d) os).cell? ⟨B1, 1, none⟩ = some (.slice (some ⟨gx + 6, 0, none⟩) 2 2) := fun d os => cell_regrown (K1.cell (j := 1) (by decide)) d os
    have rs2 : ∀ d os, (grow (redrawn wk d) os).cell? ⟨B1, 2, none⟩ = some (.slice (some ⟨gx + 7, 4, none⟩) 2 2) := fun d os => cell_regrown (K1.cell (j := 2) (by decide)) d os
    have rs3 : ∀ d os, (grow (redrawn wk d) os).cell? ⟨B1, 3, none⟩ = some (.slice (some ⟨gx + 8, 0, none⟩) 1 1) := fun d os => cell_regrown (K1.cell (j := 3) (by decide)) d os
    have rs4 : ∀ d os, (grow (redrawn wk d) os).cell? ⟨B1, 4, none⟩ = some (.slice (some ⟨gx + 9, 0, none⟩) 2 2) := fun d os => cell_regrown (K1.cell (j := 4) (by decide)) d os
    have rs5 : ∀ d os, (grow (redrawn wk d) os).cell? ⟨B1, 5, none⟩ = some (.slice (some ⟨gx + 10, 0, none⟩) 2 2) := fun d os => cell_regrown (K1.cell (j := 5) (by decide)) d os
    have rs6 : ∀ d os, (grow (redrawn wk d) os).cell? ⟨B1, 6, none⟩ = some (.slice (some ⟨gx + 11, 0, none⟩) 2 2) := fun d os => cell_regrown (K1.cell (j := 6) (by decide)) d os
    have xl := K1.lt
    clear K1
    have HTB : Hid (∀ g1 g2 wk, (yardP g1 g2).At wk → (busyC gx).At wk → Calls Try.prog 15 #[(yardP g1 g2).val, (busyC gx).val, .int .i64 0, .int .i64 0, .int .i64 2, .int .i64 0] wk fun e w' => ∃ x : St, e = .returned (.tuple #[x.val, .int .i64 2, .int .i64 0]) ∧ (fun _ _ => True) x w' ∧ Below wk.heap.size wk w') := fun g1 g2 wk h1 h2 => by
      have h := Take_any (yardP g1 g2) (busyC gx) 0 0 2 0 wk h1 h2
      have e1 := (busyC2 g1 g2 gx).1
      rw [(busyC2 g1 g2 gx).2] at h
      refine h.mono fun e w' => ?_
      rintro ⟨x, rfl, h2, h3, h4, h5⟩
      rw [e1]
      exact ⟨x, rfl, trivial, h5⟩
    have HRB : Hid (∀ (x : St) (wk wj : World), Below wk.heap.size wk wj → (fun _ _ => True) x wk → (fun _ _ => True) x wj) := fun _ _ _ _ _ => trivial
    have HRS : Hid (∀ (x : St) (wk : World) (B : Nat) (f : Nat → Value), Blk wk B 31 7 f → ∀ v0 v1 v2 v3 v4 v5 v6, (fun _ _ => True) x wk → (fun _ _ => True) x (set7 wk B v0 v1 v2 v3 v4 v5 v6)) := fun _ _ _ _ _ _ _ _ _ _ _ _ _ => trivial
    go_wp2_with fail
    generalize hgp : wk = wp at *
    clear hgp
    generalize hgb : B = B2 at *
    clear hgb
    generalize hgx : x = x1 at *
    clear hgx
    refine wp_region_made7 (fun w' => ∃ p : Regrown, w' = grow (redrawn wp p.d) p.os) [1] [0, 2, 3, 4, 5, 6, 7, 8, 9, 10] (by kernel_rfl) (by kernel_rfl) (by kernel_rfl) (by kernel_rfl) (by kernel_rfl) (by kernel_rfl) (by kernel_rfl) (by kernel_rfl) (regrown_of_below ((Below.refl _ _).drew)) ?_
    simp only [picks, List.drop_succ_cons, List.drop_zero, List.take_succ_cons, List.take_zero, List.cons_append, List.nil_append]
    repeat (go_big_quiet_step (fail))
    refine wpQuiet_nil ?_
    clear rs0 rs1 rs2 rs3 rs4 rs5 rs6 xl
    refine ⟨CallI (fun _ _ => True) 2 0 wp, fun dn V w hS hd => ?zinit, List.forall_mem_cons.2 ⟨?zp0, List.forall_mem_cons.2 ⟨?zp2, List.forall_mem_cons.2 ⟨?zp3, List.forall_mem_cons.2 ⟨?zp4, List.forall_mem_cons.2 ⟨?zp5, List.forall_mem_cons.2 ⟨?zp6, List.forall_mem_cons.2 ⟨?zp7, List.forall_mem_cons.2 ⟨?zp8, List.forall_mem_cons.2 ⟨?zp9, List.forall_mem_cons.2 ⟨?zp10, List.forall_mem_nil _⟩⟩⟩⟩⟩⟩⟩⟩⟩⟩, ?zdone⟩
    case zinit =>
      have f : ∀ j, j ∈ [0, 2, 3, 4, 5, 6, 7, 8, 9, 10] → ¬ dn j = true := fun j hj h => by rw [hd j hj] at h; cases h
      exact ⟨below_of_regrown hS, fun h => absurd h (f 3 (by simp)), fun h => absurd h (f 4 (by simp)), fun h => absurd h (f 8 (by simp)), fun h => absurd h (f 0 (by simp)), fun h => absurd h (f 7 (by simp)), fun h => absurd h (f 2 (by simp)), fun h => absurd h (f 5 (by simp)), fun h => absurd h (f 6 (by simp)), fun h => absurd h (f 9 (by simp)), fun h => absurd h (f 10 (by simp))⟩
    case zp0 =>
      intro dn V wk K hS hn hd hI hK
      have HII : Hid (CallI (fun _ _ => True) 2 0 wp dn V wk) := hI
      have q := hI.bel.size
      clear hI
      refine wpOp_list 0 rfl ?_
      simp only [putAll, dstOf, List.getElem?_toArray, List.getElem?_cons_succ, List.getElem?_cons_zero, Act.put, List.setIfInBounds_toArray, List.set_cons_succ, List.set_cons_zero] at hK ⊢
      go_wp2_with fail
      refine (yard_any _).mono ?_
      rintro e wj ⟨g1, g2, rfl, -, -, k1, k2, hB2⟩
      go_wp2_with fail
      have hI := HII.out
      refine hK _ _ (regrown_of_below (hI.bel.trans (hB2.mono q))) ⟨hI.bel.trans (hB2.mono q), hI.c3, hI.c4, hI.c8, fun _ => ⟨g1, g2, rfl, k1, k2⟩, fun h7 => ?_, fun h2 => ?_, hI.n5, hI.n6, hI.n9, hI.n10⟩
      · obtain ⟨B, b1, b2, f, b3⟩ := hI.box h7
        exact ⟨B, b1, b2, f, b3.below hB2⟩
      · obtain ⟨x, a1, a2, a3, a4, a5⟩ := hI.got h2
        exact ⟨x, HRB.out x wk wj hB2 a1, a2, a3, a4, fun h8 B hb => (a5 h8 B hb).below hB2⟩
    case zp2 =>
      intro dn V wk K hS hn hd hI hK
      obtain ⟨g1, g2, hv0, k1, k2⟩ := hI.yd (hd 0 (List.contains_iff_mem.1 (by kernel_rfl)) (by simp))
      have HII : Hid (CallI (fun _ _ => True) 2 0 wp dn V wk) := hI
      have q := hI.bel.size
      clear hI
      have f3 : ¬ dn 3 = true := fun h => by rw [HII.out.c3 h] at hn; cases hn
      have f4 : ¬ dn 4 = true := fun h => by rw [HII.out.c4 h] at hn; cases hn
      have f8 : ¬ dn 8 = true := fun h => by rw [(HII.out.c8 h).1] at hn; cases hn
      refine wpOp_list 2 rfl ?_
      simp only [putAll, dstOf, List.getElem?_toArray, List.getElem?_cons_succ, List.getElem?_cons_zero, Act.put, List.setIfInBounds_toArray, List.set_cons_succ, List.set_cons_zero, hv0] at hK ⊢
      go_wp2_with fail
      refine (HTB.out g1 g2 wk (yardAt k1 k2) (HXA.out wk (HB1.out.trans (HII.out.bel.mono HB1.out.size)))).mono ?_
      rintro e wj ⟨x, rfl, hR, hB2⟩
      have HR : Hid ((fun _ _ => True) x wj) := hR
      clear hR k1 k2
      simp only [St.val]
      go_wp2_with fail
      have hI := HII.out
      refine hK _ _ (regrown_of_below (hI.bel.trans (hB2.mono q))) ⟨hI.bel.trans (hB2.mono q), fun _ => rfl, fun _ => rfl, fun h => absurd h f8, fun h0 => ?_, fun h7 => ?_, fun _ => ⟨x, HR.out, rfl, fun h => absurd h f3, fun h => absurd h f4, fun h => absurd h f8⟩, hI.n5, hI.n6, hI.n9, hI.n10⟩
      · obtain ⟨g1, g2, b0, b1, b2⟩ := hI.yd h0
        exact ⟨g1, g2, b0, b1.below hB2, b2.below hB2⟩
      · obtain ⟨B, b1, b2, f, b3⟩ := hI.box h7
        exact ⟨B, b1, b2, f, b3.below hB2⟩
    case zp3 =>
      intro dn V wk K hS hn hd hI hK
      have h2 : dn 2 = true := hd 2 (List.contains_iff_mem.1 (by kernel_rfl)) (by simp)
      obtain ⟨x, a1, a2, a3, a4, a5⟩ := hI.got h2
      have HII : Hid (CallI (fun _ _ => True) 2 0 wp dn V wk) := hI
      have HR : Hid ((fun _ _ => True) x wk ∧ V 2 = .tuple #[.agg #[.slice x.on.a x.on.n x.on.c, .slice x.os.a x.os.n x.os.c, .slice x.hs.a x.hs.n x.hs.c, .slice x.ms.a x.ms.n x.ms.c, .slice x.si.a x.si.n x.si.c, .slice x.so.a x.so.n x.so.c, .slice x.sf.a x.sf.n x.sf.c], .int .i64 2, .int .i64 0] ∧ (dn 4 = true → V 4 = .agg #[.slice x.on.a x.on.n x.on.c, .slice x.os.a x.os.n x.os.c, .slice x.hs.a x.hs.n x.hs.c, .slice x.ms.a x.ms.n x.ms.c, .slice x.si.a x.si.n x.si.c, .slice x.so.a x.so.n x.so.c, .slice x.sf.a x.sf.n x.sf.c]) ∧ (dn 8 = true → ∀ B, V 7 = .pointer (some ⟨B, 0, none⟩) → Blk wk B 31 7 (fun j => x.cells.getD j default))) := ⟨a1, a2, a4, a5⟩
      clear hI a1 a3 a4 a5
      refine wpOp_list 3 rfl ?_
      simp only [putAll, dstOf, List.getElem?_toArray, List.getElem?_cons_succ, List.getElem?_cons_zero, Act.put, List.setIfInBounds_toArray, List.set_cons_succ, List.set_cons_zero, a2] at hK ⊢
      go_wp2_with fail
      have hI := HII.out
      exact hK _ _ hS ⟨hI.bel, fun _ => h2, hI.c4, hI.c8, hI.yd, hI.box, fun _ => ⟨x, HR.out.1, HR.out.2.1, fun _ => rfl, HR.out.2.2.1, HR.out.2.2.2⟩, hI.n5, hI.n6, hI.n9, hI.n10⟩
    case zp4 =>
      intro dn V wk K hS hn hd hI hK
      have h3 : dn 3 = true := hd 3 (List.contains_iff_mem.1 (by kernel_rfl)) (by simp)
      have h2 := hI.c3 h3
      obtain ⟨x, a1, a2, a3, a4, a5⟩ := hI.got h2
      have a3' := a3 h3
      have HII : Hid (CallI (fun _ _ => True) 2 0 wp dn V wk) := hI
      have HR : Hid ((fun _ _ => True) x wk ∧ V 2 = .tuple #[.agg #[.slice x.on.a x.on.n x.on.c, .slice x.os.a x.os.n x.os.c, .slice x.hs.a x.hs.n x.hs.c, .slice x.ms.a x.ms.n x.ms.c, .slice x.si.a x.si.n x.si.c, .slice x.so.a x.so.n x.so.c, .slice x.sf.a x.sf.n x.sf.c], .int .i64 2, .int .i64 0] ∧ (dn 3 = true → V 3 = .tuple #[.agg #[.slice x.on.a x.on.n x.on.c, .slice x.os.a x.os.n x.os.c, .slice x.hs.a x.hs.n x.hs.c, .slice x.ms.a x.ms.n x.ms.c, .slice x.si.a x.si.n x.si.c, .slice x.so.a x.so.n x.so.c, .slice x.sf.a x.sf.n x.sf.c], .int .i64 2, .int .i64 0]) ∧ (dn 8 = true → ∀ B, V 7 = .pointer (some ⟨B, 0, none⟩) → Blk wk B 31 7 (fun j => x.cells.getD j default))) := ⟨a1, a2, a3, a5⟩
      clear hI a1 a2 a3 a4 a5
      refine wpOp_list 4 rfl ?_
      simp only [putAll, dstOf, List.getElem?_toArray, List.getElem?_cons_succ, List.getElem?_cons_zero, Act.put, List.setIfInBounds_toArray, List.set_cons_succ, List.set_cons_zero, a3'] at hK ⊢
      go_wp2_with fail
      have hI := HII.out
      exact hK _ _ hS ⟨hI.bel, hI.c3, fun _ => h2, hI.c8, hI.yd, hI.box, fun _ => ⟨x, HR.out.1, HR.out.2.1, HR.out.2.2.1, fun _ => rfl, HR.out.2.2.2⟩, hI.n5, hI.n6, hI.n9, hI.n10⟩
    case zp5 =>
      intro dn V wk K hS hn hd hI hK
      have h3 : dn 3 = true := hd 3 (List.contains_iff_mem.1 (by kernel_rfl)) (by simp)
      obtain ⟨x, a1, a2, a3, a4, a5⟩ := hI.got (hI.c3 h3)
      have a3' := a3 h3
      have HII : Hid (CallI (fun _ _ => True) 2 0 wp dn V wk) := hI
      clear hI a1 a2 a3 a4 a5
      refine wpOp_list 5 rfl ?_
      simp only [putAll, dstOf, List.getElem?_toArray, List.getElem?_cons_succ, List.getElem?_cons_zero, Act.put, List.setIfInBounds_toArray, List.set_cons_succ, List.set_cons_zero, a3'] at hK ⊢
      go_wp2_with fail
      have hI := HII.out
      exact hK _ _ hS ⟨hI.bel, hI.c3, hI.c4, hI.c8, hI.yd, hI.box, hI.got, fun _ => rfl, hI.n6, hI.n9, hI.n10⟩
    case zp6 =>
      intro dn V wk K hS hn hd hI hK
      have h3 : dn 3 = true := hd 3 (List.contains_iff_mem.1 (by kernel_rfl)) (by simp)
      obtain ⟨x, a1, a2, a3, a4, a5⟩ := hI.got (hI.c3 h3)
      have a3' := a3 h3
      have HII : Hid (CallI (fun _ _ => True) 2 0 wp dn V wk) := hI
      clear hI a1 a2 a3 a4 a5
      refine wpOp_list 6 rfl ?_
      simp only [putAll, dstOf, List.getElem?_toArray, List.getElem?_cons_succ, List.getElem?_cons_zero, Act.put, List.setIfInBounds_toArray, List.set_cons_succ, List.set_cons_zero, a3'] at hK ⊢
      go_wp2_with fail
      have hI := HII.out
      exact hK _ _ hS ⟨hI.bel, hI.c3, hI.c4, hI.c8, hI.yd, hI.box, hI.got, hI.n5, fun _ => rfl, hI.n9, hI.n10⟩
    case zp7 =>
      intro dn V wk K hS hn hd hI hK
      have HII : Hid (CallI (fun _ _ => True) 2 0 wp dn V wk) := hI
      have q := hI.bel.size
      clear hI
      refine wpOp_list 7 rfl ?_
      simp only [putAll, dstOf, List.getElem?_toArray, List.getElem?_cons_succ, List.getElem?_cons_zero, Act.put, List.setIfInBounds_toArray, List.set_cons_succ, List.set_cons_zero] at hK ⊢
      go_wp2_with fail
      have hI := HII.out
      have hBa := (Below.refl wk.heap.size wk).alloc (Nat.le_refl _) (.cells #[.slice .none 0 0, .slice .none 0 0, .slice .none 0 0, .slice .none 0 0, .slice .none 0 0, .slice .none 0 0, .slice .none 0 0] 31)
      have f8 : ¬ dn 8 = true := fun h => by rw [(hI.c8 h).2] at hn; cases hn
      refine hK _ _ (regrown_of_below (hI.bel.trans (hBa.mono q))) ⟨hI.bel.trans (hBa.mono q), hI.c3, hI.c4, fun h => absurd h f8, fun h0 => ?_, fun _ => ⟨wk.heap.size, rfl, q, _, Blk.mk' rfl rfl⟩, fun h2 => ?_, hI.n5, hI.n6, hI.n9, hI.n10⟩
      · obtain ⟨g1, g2, b0, b1, b2⟩ := hI.yd h0
        exact ⟨g1, g2, b0, b1.below hBa, b2.below hBa⟩
      · obtain ⟨x, a1, a2, a3, a4, a5⟩ := hI.got h2
        exact ⟨x, HRB.out x wk _ hBa a1, a2, a3, a4, fun h => absurd h f8⟩
    case zp8 =>
      intro dn V wk K hS hn hd hI hK
      have h7 : dn 7 = true := hd 7 (List.contains_iff_mem.1 (by kernel_rfl)) (by simp)
      have h4 : dn 4 = true := hd 4 (List.contains_iff_mem.1 (by kernel_rfl)) (by simp)
      have h2 := hI.c4 h4
      obtain ⟨B, hv7, hBW, f, hbk⟩ := hI.box h7
      obtain ⟨x, a1, a2, a3, a4, a5⟩ := hI.got h2
      have a4' := a4 h4
      have HII : Hid (CallI (fun _ _ => True) 2 0 wp dn V wk) := hI
      have HR : Hid ((fun _ _ => True) x wk ∧ V 2 = .tuple #[.agg #[.slice x.on.a x.on.n x.on.c, .slice x.os.a x.os.n x.os.c, .slice x.hs.a x.hs.n x.hs.c, .slice x.ms.a x.ms.n x.ms.c, .slice x.si.a x.si.n x.si.c, .slice x.so.a x.so.n x.so.c, .slice x.sf.a x.sf.n x.sf.c], .int .i64 2, .int .i64 0] ∧ (dn 3 = true → V 3 = .tuple #[.agg #[.slice x.on.a x.on.n x.on.c, .slice x.os.a x.os.n x.os.c, .slice x.hs.a x.hs.n x.hs.c, .slice x.ms.a x.ms.n x.ms.c, .slice x.si.a x.si.n x.si.c, .slice x.so.a x.so.n x.so.c, .slice x.sf.a x.sf.n x.sf.c], .int .i64 2, .int .i64 0]) ∧ Blk wk B 31 7 f ∧ V 7 = .pointer (some ⟨B, 0, none⟩)) := ⟨a1, a2, a3, hbk, hv7⟩
      have hz := hbk
      have zl := hz.lt
      have zf0 := hz.frozen 0
      have zc0 := hz.cell (j := 0) (by decide)
      have zf1 := hz.frozen 1
      have zc1 := hz.cell (j := 1) (by decide)
      have zf2 := hz.frozen 2
      have zc2 := hz.cell (j := 2) (by decide)
      have zf3 := hz.frozen 3
      have zc3 := hz.cell (j := 3) (by decide)
      have zf4 := hz.frozen 4
      have zc4 := hz.cell (j := 4) (by decide)
      have zf5 := hz.frozen 5
      have zc5 := hz.cell (j := 5) (by decide)
      have zf6 := hz.frozen 6
      have zc6 := hz.cell (j := 6) (by decide)
      clear hI a1 a2 a3 a4 a5 hz hbk
      refine wpOp_list 8 rfl ?_
      simp only [putAll, dstOf, List.getElem?_toArray, List.getElem?_cons_succ, List.getElem?_cons_zero, Act.put, List.setIfInBounds_toArray, List.set_cons_succ, List.set_cons_zero, a4', hv7] at hK ⊢
      go_wp2_with fail
      have hI := HII.out
      have KZ := set7_blk HR.out.2.2.2.1 (.slice x.on.a x.on.n x.on.c) (.slice x.os.a x.os.n x.os.c) (.slice x.hs.a x.hs.n x.hs.c) (.slice x.ms.a x.ms.n x.ms.c) (.slice x.si.a x.si.n x.si.c) (.slice x.so.a x.so.n x.so.c) (.slice x.sf.a x.sf.n x.sf.c)
      have hbz := set7_below (b := B) hI.bel hBW (.slice x.on.a x.on.n x.on.c) (.slice x.os.a x.os.n x.os.c) (.slice x.hs.a x.hs.n x.hs.c) (.slice x.ms.a x.ms.n x.ms.c) (.slice x.si.a x.si.n x.si.c) (.slice x.so.a x.so.n x.so.c) (.slice x.sf.a x.sf.n x.sf.c)
      have hRz := HRS.out x wk B f HR.out.2.2.2.1 (.slice x.on.a x.on.n x.on.c) (.slice x.os.a x.os.n x.os.c) (.slice x.hs.a x.hs.n x.hs.c) (.slice x.ms.a x.ms.n x.ms.c) (.slice x.si.a x.si.n x.si.c) (.slice x.so.a x.so.n x.so.c) (.slice x.sf.a x.sf.n x.sf.c) HR.out.1
      unfold set7 at KZ hbz hRz
      refine hK undef _ (regrown_of_below hbz) ⟨hbz, hI.c3, hI.c4, fun _ => ⟨h2, h7⟩, fun h0 => ?_, fun _ => ⟨B, HR.out.2.2.2.2, hBW, _, KZ⟩, fun _ => ⟨x, hRz, HR.out.2.1, HR.out.2.2.1, fun _ => a4', fun _ B' hB' => ?_⟩, hI.n5, hI.n6, hI.n9, hI.n10⟩
      · obtain ⟨g1, g2, b0, b1, b2⟩ := hI.yd h0
        have s7 : ∀ (q : Nat) (t : TypeId) (m : Nat) (z : Nat → Value), t ≠ 31 → Blk wk q t m z → Blk (set7 wk B (.slice x.on.a x.on.n x.on.c) (.slice x.os.a x.os.n x.os.c) (.slice x.hs.a x.hs.n x.hs.c) (.slice x.ms.a x.ms.n x.ms.c) (.slice x.si.a x.si.n x.si.c) (.slice x.so.a x.so.n x.so.c) (.slice x.sf.a x.sf.n x.sf.c)) q t m z := fun q t m z ht hb => by
          have hne := Blk.ne2 hb HR.out.2.2.2.1 ht
          unfold set7
          exact ((((((hb.other (a := ⟨B, 0, none⟩) hne _).other (a := ⟨B, 1, none⟩) hne _).other (a := ⟨B, 2, none⟩) hne _).other (a := ⟨B, 3, none⟩) hne _).other (a := ⟨B, 4, none⟩) hne _).other (a := ⟨B, 5, none⟩) hne _).other (a := ⟨B, 6, none⟩) hne _
        unfold set7 at s7
        exact ⟨g1, g2, b0, s7 _ _ _ _ (by decide) b1, s7 _ _ _ _ (by decide) b2⟩
      · have e : V 7 = .pointer (some ⟨B', 0, none⟩) := hB'
        rw [HR.out.2.2.2.2] at e
        simp only [Value.pointer.injEq, Option.some.injEq, Addr.mk.injEq, and_true] at e
        subst e
        exact KZ.congr (fun j hj => by match j, hj with | 0, _ => rfl | 1, _ => rfl | 2, _ => rfl | 3, _ => rfl | 4, _ => rfl | 5, _ => rfl | 6, _ => rfl)
    case zp9 =>
      intro dn V wk K hS hn hd hI hK
      have a4' := hI.n5 (hd 5 (List.contains_iff_mem.1 (by kernel_rfl)) (by simp))
      have HII : Hid (CallI (fun _ _ => True) 2 0 wp dn V wk) := hI
      clear hI
      refine wpOp_list 9 rfl ?_
      simp only [putAll, dstOf, List.getElem?_toArray, List.getElem?_cons_succ, List.getElem?_cons_zero, Act.put, List.setIfInBounds_toArray, List.set_cons_succ, List.set_cons_zero, a4'] at hK ⊢
      go_wp2_with fail
      have hI := HII.out
      exact hK _ _ hS ⟨hI.bel, hI.c3, hI.c4, hI.c8, hI.yd, hI.box, hI.got, hI.n5, hI.n6, fun _ => rfl, hI.n10⟩
    case zp10 =>
      intro dn V wk K hS hn hd hI hK
      have a4' := hI.n6 (hd 6 (List.contains_iff_mem.1 (by kernel_rfl)) (by simp))
      have HII : Hid (CallI (fun _ _ => True) 2 0 wp dn V wk) := hI
      clear hI
      refine wpOp_list 10 rfl ?_
      simp only [putAll, dstOf, List.getElem?_toArray, List.getElem?_cons_succ, List.getElem?_cons_zero, Act.put, List.setIfInBounds_toArray, List.set_cons_succ, List.set_cons_zero, a4'] at hK ⊢
      go_wp2_with fail
      have hI := HII.out
      exact hK _ _ hS ⟨hI.bel, hI.c3, hI.c4, hI.c8, hI.yd, hI.box, hI.got, hI.n5, hI.n6, hI.n9, fun _ => rfl⟩
    case zdone =>
      intro dn V wk hS hd hI
      refine NoPanic.normal ?_
      obtain ⟨B, hv7, hBW, f, hbk⟩ := hI.box (hd 7 (by simp))
      obtain ⟨x, hR, a2, a3, a4, a5⟩ := hI.got (hd 2 (by simp))
      have hv9 := hI.n9 (hd 9 (by simp))
      have hv10 := hI.n10 (hd 10 (by simp))
      have KX := a5 (hd 8 (by simp)) B hv7
      have hBel := hI.bel
      clear hI a2 a3 a4 a5 hbk hd hS
      simp only [putAll, dstOf, List.getElem?_toArray, List.getElem?_cons_succ, List.getElem?_cons_zero, Act.put, List.setIfInBounds_toArray, List.set_cons_succ, List.set_cons_zero, hv7, hv9, hv10]
      have HB1 : Hid (Below W1.heap.size W1 wk) := HB1.out.trans (hBel.mono HB1.out.size)
      have HX1 : Hid (OwnS 0 wk x1 ∧ Blk wk B2 31 7 (fun j => x1.cells.getD j default)) := ⟨OwnS.below HX1.out.1 hBel, HX1.out.2.below hBel⟩
      have K1 := HK1.out wk HB1.out
      clear KX hR hv7 hv9 hv10 HRB HRS HTB
      have rs0 : ∀ d os, (grow (redrawn wk d) os).cell? ⟨B1, 0, none⟩ = some (.slice (some ⟨gx + 3, 0, none⟩) 3 3) := fun d os => cell_regrown (K1.cell (j := 0) (by decide)) d os
      have rs1 : ∀ d os, (grow (redrawn wk d) os).cell? ⟨B1, 1, none⟩ = some (.slice (some ⟨gx + 6, 0, none⟩) 2 2) := fun d os => cell_regrown (K1.cell (j := 1) (by decide)) d os
      have rs2 : ∀ d os, (grow (redrawn wk d) os).cell? ⟨B1, 2, none⟩ = some (.slice (some ⟨gx + 7, 4, none⟩) 2 2) := fun d os => cell_regrown (K1.cell (j := 2) (by decide)) d os
      have rs3 : ∀ d os, (grow (redrawn wk d) os).cell? ⟨B1, 3, none⟩ = some (.slice (some ⟨gx + 8, 0, none⟩) 1 1) := fun d os => cell_regrown (K1.cell (j := 3) (by decide)) d os
      have rs4 : ∀ d os, (grow (redrawn wk d) os).cell? ⟨B1, 4, none⟩ = some (.slice (some ⟨gx + 9, 0, none⟩) 2 2) := fun d os => cell_regrown (K1.cell (j := 4) (by decide)) d os
      have rs5 : ∀ d os, (grow (redrawn wk d) os).cell? ⟨B1, 5, none⟩ = some (.slice (some ⟨gx + 10, 0, none⟩) 2 2) := fun d os => cell_regrown (K1.cell (j := 5) (by decide)) d os
      have rs6 : ∀ d os, (grow (redrawn wk d) os).cell? ⟨B1, 6, none⟩ = some (.slice (some ⟨gx + 11, 0, none⟩) 2 2) := fun d os => cell_regrown (K1.cell (j := 6) (by decide)) d os
      have xl := K1.lt
      clear K1
      have HTC : Hid (∀ g1 g2 wk, (yardP g1 g2).At wk → (busyC gx).At wk → Calls Try.prog 15 #[(yardP g1 g2).val, (busyC gx).val, .int .i64 1, .int .i64 0, .int .i64 0, .int .i64 (-1)] wk fun e w' => ∃ x : St, e = .returned (.tuple #[x.val, .int .i64 0, .int .i64 6]) ∧ (fun _ _ => True) x w' ∧ Below wk.heap.size wk w') := fun g1 g2 wk h1 h2 => by
        have h := Take_any (yardP g1 g2) (busyC gx) 1 0 0 (-1) wk h1 h2
        have e1 := (busyC3 g1 g2 gx).1
        rw [(busyC3 g1 g2 gx).2] at h
        refine h.mono fun e w' => ?_
        rintro ⟨x, rfl, h2, h3, h4, h5⟩
        rw [e1]
        exact ⟨x, rfl, trivial, h5⟩
      have HRB : Hid (∀ (x : St) (wk wj : World), Below wk.heap.size wk wj → (fun _ _ => True) x wk → (fun _ _ => True) x wj) := fun _ _ _ _ _ => trivial
      have HRS : Hid (∀ (x : St) (wk : World) (B : Nat) (f : Nat → Value), Blk wk B 31 7 f → ∀ v0 v1 v2 v3 v4 v5 v6, (fun _ _ => True) x wk → (fun _ _ => True) x (set7 wk B v0 v1 v2 v3 v4 v5 v6)) := fun _ _ _ _ _ _ _ _ _ _ _ _ _ => trivial
      go_wp2_with fail
      generalize hgq : wk = wq at *
      clear hgq
      refine wp_region_made7 (fun w' => ∃ p : Regrown, w' = grow (redrawn wq p.d) p.os) [1] [0, 2, 3, 4, 5, 6, 7, 8, 9, 10] (by kernel_rfl) (by kernel_rfl) (by kernel_rfl) (by kernel_rfl) (by kernel_rfl) (by kernel_rfl) (by kernel_rfl) (by kernel_rfl) (regrown_of_below ((Below.refl _ _).drew)) ?_
      simp only [picks, List.drop_succ_cons, List.drop_zero, List.take_succ_cons, List.take_zero, List.cons_append, List.nil_append]
      repeat (go_big_quiet_step (fail))
      refine wpQuiet_nil ?_
      clear rs0 rs1 rs2 rs3 rs4 rs5 rs6 xl
      refine ⟨CallI (fun _ _ => True) 0 6 wq, fun dn V w hS hd => ?zinit, List.forall_mem_cons.2 ⟨?zp0, List.forall_mem_cons.2 ⟨?zp2, List.forall_mem_cons.2 ⟨?zp3, List.forall_mem_cons.2 ⟨?zp4, List.forall_mem_cons.2 ⟨?zp5, List.forall_mem_cons.2 ⟨?zp6, List.forall_mem_cons.2 ⟨?zp7, List.forall_mem_cons.2 ⟨?zp8, List.forall_mem_cons.2 ⟨?zp9, List.forall_mem_cons.2 ⟨?zp10, List.forall_mem_nil _⟩⟩⟩⟩⟩⟩⟩⟩⟩⟩, ?zdone⟩
      case zinit =>
        have f : ∀ j, j ∈ [0, 2, 3, 4, 5, 6, 7, 8, 9, 10] → ¬ dn j = true := fun j hj h => by rw [hd j hj] at h; cases h
        exact ⟨below_of_regrown hS, fun h => absurd h (f 3 (by simp)), fun h => absurd h (f 4 (by simp)), fun h => absurd h (f 8 (by simp)), fun h => absurd h (f 0 (by simp)), fun h => absurd h (f 7 (by simp)), fun h => absurd h (f 2 (by simp)), fun h => absurd h (f 5 (by simp)), fun h => absurd h (f 6 (by simp)), fun h => absurd h (f 9 (by simp)), fun h => absurd h (f 10 (by simp))⟩
      case zp0 =>
        intro dn V wk K hS hn hd hI hK
        have HII : Hid (CallI (fun _ _ => True) 0 6 wq dn V wk) := hI
        have q := hI.bel.size
        clear hI
        refine wpOp_list 0 rfl ?_
        simp only [putAll, dstOf, List.getElem?_toArray, List.getElem?_cons_succ, List.getElem?_cons_zero, Act.put, List.setIfInBounds_toArray, List.set_cons_succ, List.set_cons_zero] at hK ⊢
        go_wp2_with fail
        refine (yard_any _).mono ?_
        rintro e wj ⟨g1, g2, rfl, -, -, k1, k2, hB2⟩
        go_wp2_with fail
        have hI := HII.out
        refine hK _ _ (regrown_of_below (hI.bel.trans (hB2.mono q))) ⟨hI.bel.trans (hB2.mono q), hI.c3, hI.c4, hI.c8, fun _ => ⟨g1, g2, rfl, k1, k2⟩, fun h7 => ?_, fun h2 => ?_, hI.n5, hI.n6, hI.n9, hI.n10⟩
        · obtain ⟨B, b1, b2, f, b3⟩ := hI.box h7
          exact ⟨B, b1, b2, f, b3.below hB2⟩
        · obtain ⟨x, a1, a2, a3, a4, a5⟩ := hI.got h2
          exact ⟨x, HRB.out x wk wj hB2 a1, a2, a3, a4, fun h8 B hb => (a5 h8 B hb).below hB2⟩
      case zp2 =>
        intro dn V wk K hS hn hd hI hK
        obtain ⟨g1, g2, hv0, k1, k2⟩ := hI.yd (hd 0 (List.contains_iff_mem.1 (by kernel_rfl)) (by simp))
        have HII : Hid (CallI (fun _ _ => True) 0 6 wq dn V wk) := hI
        have q := hI.bel.size
        clear hI
        have f3 : ¬ dn 3 = true := fun h => by rw [HII.out.c3 h] at hn; cases hn
        have f4 : ¬ dn 4 = true := fun h => by rw [HII.out.c4 h] at hn; cases hn
        have f8 : ¬ dn 8 = true := fun h => by rw [(HII.out.c8 h).1] at hn; cases hn
        refine wpOp_list 2 rfl ?_
        simp only [putAll, dstOf, List.getElem?_toArray, List.getElem?_cons_succ, List.getElem?_cons_zero, Act.put, List.setIfInBounds_toArray, List.set_cons_succ, List.set_cons_zero, hv0] at hK ⊢
        go_wp2_with fail
        refine (HTC.out g1 g2 wk (yardAt k1 k2) (HXA.out wk (HB1.out.trans (HII.out.bel.mono HB1.out.size)))).mono ?_
        rintro e wj ⟨x, rfl, hR, hB2⟩
        have HR : Hid ((fun _ _ => True) x wj) := hR
        clear hR k1 k2
        simp only [St.val]
        go_wp2_with fail
        have hI := HII.out
        refine hK _ _ (regrown_of_below (hI.bel.trans (hB2.mono q))) ⟨hI.bel.trans (hB2.mono q), fun _ => rfl, fun _ => rfl, fun h => absurd h f8, fun h0 => ?_, fun h7 => ?_, fun _ => ⟨x, HR.out, rfl, fun h => absurd h f3, fun h => absurd h f4, fun h => absurd h f8⟩, hI.n5, hI.n6, hI.n9, hI.n10⟩
        · obtain ⟨g1, g2, b0, b1, b2⟩ := hI.yd h0
          exact ⟨g1, g2, b0, b1.below hB2, b2.below hB2⟩
        · obtain ⟨B, b1, b2, f, b3⟩ := hI.box h7
          exact ⟨B, b1, b2, f, b3.below hB2⟩
      case zp3 =>
        intro dn V wk K hS hn hd hI hK
        have h2 : dn 2 = true := hd 2 (List.contains_iff_mem.1 (by kernel_rfl)) (by simp)
        obtain ⟨x, a1, a2, a3, a4, a5⟩ := hI.got h2
        have HII : Hid (CallI (fun _ _ => True) 0 6 wq dn V wk) := hI
        have HR : Hid ((fun _ _ => True) x wk ∧ V 2 = .tuple #[.agg #[.slice x.on.a x.on.n x.on.c, .slice x.os.a x.os.n x.os.c, .slice x.hs.a x.hs.n x.hs.c, .slice x.ms.a x.ms.n x.ms.c, .slice x.si.a x.si.n x.si.c, .slice x.so.a x.so.n x.so.c, .slice x.sf.a x.sf.n x.sf.c], .int .i64 0, .int .i64 6] ∧ (dn 4 = true → V 4 = .agg #[.slice x.on.a x.on.n x.on.c, .slice x.os.a x.os.n x.os.c, .slice x.hs.a x.hs.n x.hs.c, .slice x.ms.a x.ms.n x.ms.c, .slice x.si.a x.si.n x.si.c, .slice x.so.a x.so.n x.so.c, .slice x.sf.a x.sf.n x.sf.c]) ∧ (dn 8 = true → ∀ B, V 7 = .pointer (some ⟨B, 0, none⟩) → Blk wk B 31 7 (fun j => x.cells.getD j default))) := ⟨a1, a2, a4, a5⟩
        clear hI a1 a3 a4 a5
        refine wpOp_list 3 rfl ?_
        simp only [putAll, dstOf, List.getElem?_toArray, List.getElem?_cons_succ, List.getElem?_cons_zero, Act.put, List.setIfInBounds_toArray, List.set_cons_succ, List.set_cons_zero, a2] at hK ⊢
        go_wp2_with fail
        have hI := HII.out
        exact hK _ _ hS ⟨hI.bel, fun _ => h2, hI.c4, hI.c8, hI.yd, hI.box, fun _ => ⟨x, HR.out.1, HR.out.2.1, fun _ => rfl, HR.out.2.2.1, HR.out.2.2.2⟩, hI.n5, hI.n6, hI.n9, hI.n10⟩
      case zp4 =>
        intro dn V wk K hS hn hd hI hK
        have h3 : dn 3 = true := hd 3 (List.contains_iff_mem.1 (by kernel_rfl)) (by simp)
        have h2 := hI.c3 h3
        obtain ⟨x, a1, a2, a3, a4, a5⟩ := hI.got h2
        have a3' := a3 h3
        have HII : Hid (CallI (fun _ _ => True) 0 6 wq dn V wk) := hI
        have HR : Hid ((fun _ _ => True) x wk ∧ V 2 = .tuple #[.agg #[.slice x.on.a x.on.n x.on.c, .slice x.os.a x.os.n x.os.c, .slice x.hs.a x.hs.n x.hs.c, .slice x.ms.a x.ms.n x.ms.c, .slice x.si.a x.si.n x.si.c, .slice x.so.a x.so.n x.so.c, .slice x.sf.a x.sf.n x.sf.c], .int .i64 0, .int .i64 6] ∧ (dn 3 = true → V 3 = .tuple #[.agg #[.slice x.on.a x.on.n x.on.c, .slice x.os.a x.os.n x.os.c, .slice x.hs.a x.hs.n x.hs.c, .slice x.ms.a x.ms.n x.ms.c, .slice x.si.a x.si.n x.si.c, .slice x.so.a x.so.n x.so.c, .slice x.sf.a x.sf.n x.sf.c], .int .i64 0, .int .i64 6]) ∧ (dn 8 = true → ∀ B, V 7 = .pointer (some ⟨B, 0, none⟩) → Blk wk B 31 7 (fun j => x.cells.getD j default))) := ⟨a1, a2, a3, a5⟩
        clear hI a1 a2 a3 a4 a5
        refine wpOp_list 4 rfl ?_
        simp only [putAll, dstOf, List.getElem?_toArray, List.getElem?_cons_succ, List.getElem?_cons_zero, Act.put, List.setIfInBounds_toArray, List.set_cons_succ, List.set_cons_zero, a3'] at hK ⊢
        go_wp2_with fail
        have hI := HII.out
        exact hK _ _ hS ⟨hI.bel, hI.c3, fun _ => h2, hI.c8, hI.yd, hI.box, fun _ => ⟨x, HR.out.1, HR.out.2.1, HR.out.2.2.1, fun _ => rfl, HR.out.2.2.2⟩, hI.n5, hI.n6, hI.n9, hI.n10⟩
      case zp5 =>
        intro dn V wk K hS hn hd hI hK
        have h3 : dn 3 = true := hd 3 (List.contains_iff_mem.1 (by kernel_rfl)) (by simp)
        obtain ⟨x, a1, a2, a3, a4, a5⟩ := hI.got (hI.c3 h3)
        have a3' := a3 h3
        have HII : Hid (CallI (fun _ _ => True) 0 6 wq dn V wk) := hI
        clear hI a1 a2 a3 a4 a5
        refine wpOp_list 5 rfl ?_
        simp only [putAll, dstOf, List.getElem?_toArray, List.getElem?_cons_succ, List.getElem?_cons_zero, Act.put, List.setIfInBounds_toArray, List.set_cons_succ, List.set_cons_zero, a3'] at hK ⊢
        go_wp2_with fail
        have hI := HII.out
        exact hK _ _ hS ⟨hI.bel, hI.c3, hI.c4, hI.c8, hI.yd, hI.box, hI.got, fun _ => rfl, hI.n6, hI.n9, hI.n10⟩
      case zp6 =>
        intro dn V wk K hS hn hd hI hK
        have h3 : dn 3 = true := hd 3 (List.contains_iff_mem.1 (by kernel_rfl)) (by simp)
        obtain ⟨x, a1, a2, a3, a4, a5⟩ := hI.got (hI.c3 h3)
        have a3' := a3 h3
        have HII : Hid (CallI (fun _ _ => True) 0 6 wq dn V wk) := hI
        clear hI a1 a2 a3 a4 a5
        refine wpOp_list 6 rfl ?_
        simp only [putAll, dstOf, List.getElem?_toArray, List.getElem?_cons_succ, List.getElem?_cons_zero, Act.put, List.setIfInBounds_toArray, List.set_cons_succ, List.set_cons_zero, a3'] at hK ⊢
        go_wp2_with fail
        have hI := HII.out
        exact hK _ _ hS ⟨hI.bel, hI.c3, hI.c4, hI.c8, hI.yd, hI.box, hI.got, hI.n5, fun _ => rfl, hI.n9, hI.n10⟩
      case zp7 =>
        intro dn V wk K hS hn hd hI hK
        have HII : Hid (CallI (fun _ _ => True) 0 6 wq dn V wk) := hI
        have q := hI.bel.size
        clear hI
        refine wpOp_list 7 rfl ?_
        simp only [putAll, dstOf, List.getElem?_toArray, List.getElem?_cons_succ, List.getElem?_cons_zero, Act.put, List.setIfInBounds_toArray, List.set_cons_succ, List.set_cons_zero] at hK ⊢
        go_wp2_with fail
        have hI := HII.out
        have hBa := (Below.refl wk.heap.size wk).alloc (Nat.le_refl _) (.cells #[.slice .none 0 0, .slice .none 0 0, .slice .none 0 0, .slice .none 0 0, .slice .none 0 0, .slice .none 0 0, .slice .none 0 0] 31)
        have f8 : ¬ dn 8 = true := fun h => by rw [(hI.c8 h).2] at hn; cases hn
        refine hK _ _ (regrown_of_below (hI.bel.trans (hBa.mono q))) ⟨hI.bel.trans (hBa.mono q), hI.c3, hI.c4, fun h => absurd h f8, fun h0 => ?_, fun _ => ⟨wk.heap.size, rfl, q, _, Blk.mk' rfl rfl⟩, fun h2 => ?_, hI.n5, hI.n6, hI.n9, hI.n10⟩
        · obtain ⟨g1, g2, b0, b1, b2⟩ := hI.yd h0
          exact ⟨g1, g2, b0, b1.below hBa, b2.below hBa⟩
        · obtain ⟨x, a1, a2, a3, a4, a5⟩ := hI.got h2
          exact ⟨x, HRB.out x wk _ hBa a1, a2, a3, a4, fun h => absurd h f8⟩
      case zp8 =>
        intro dn V wk K hS hn hd hI hK
        have h7 : dn 7 = true := hd 7 (List.contains_iff_mem.1 (by kernel_rfl)) (by simp)
        have h4 : dn 4 = true := hd 4 (List.contains_iff_mem.1 (by kernel_rfl)) (by simp)
        have h2 := hI.c4 h4
        obtain ⟨B, hv7, hBW, f, hbk⟩ := hI.box h7
        obtain ⟨x, a1, a2, a3, a4, a5⟩ := hI.got h2
        have a4' := a4 h4
        have HII : Hid (CallI (fun _ _ => True) 0 6 wq dn V wk) := hI
        have HR : Hid ((fun _ _ => True) x wk ∧ V 2 = .tuple #[.agg #[.slice x.on.a x.on.n x.on.c, .slice x.os.a x.os.n x.os.c, .slice x.hs.a x.hs.n x.hs.c, .slice x.ms.a x.ms.n x.ms.c, .slice x.si.a x.si.n x.si.c, .slice x.so.a x.so.n x.so.c, .slice x.sf.a x.sf.n x.sf.c], .int .i64 0, .int .i64 6] ∧ (dn 3 = true → V 3 = .tuple #[.agg #[.slice x.on.a x.on.n x.on.c, .slice x.os.a x.os.n x.os.c, .slice x.hs.a x.hs.n x.hs.c, .slice x.ms.a x.ms.n x.ms.c, .slice x.si.a x.si.n x.si.c, .slice x.so.a x.so.n x.so.c, .slice x.sf.a x.sf.n x.sf.c], .int .i64 0, .int .i64 6]) ∧ Blk wk B 31 7 f ∧ V 7 = .pointer (some ⟨B, 0, none⟩)) := ⟨a1, a2, a3, hbk, hv7⟩
        have hz := hbk
        have zl := hz.lt
        have zf0 := hz.frozen 0
        have zc0 := hz.cell (j := 0) (by decide)
        have zf1 := hz.frozen 1
        have zc1 := hz.cell (j := 1) (by decide)
        have zf2 := hz.frozen 2
        have zc2 := hz.cell (j := 2) (by decide)
        have zf3 := hz.frozen 3
        have zc3 := hz.cell (j := 3) (by decide)
        have zf4 := hz.frozen 4
        have zc4 := hz.cell (j := 4) (by decide)
        have zf5 := hz.frozen 5
        have zc5 := hz.cell (j := 5) (by decide)
        have zf6 := hz.frozen 6
        have zc6 := hz.cell (j := 6) (by decide)
        clear hI a1 a2 a3 a4 a5 hz hbk
        refine wpOp_list 8 rfl ?_
        simp only [putAll, dstOf, List.getElem?_toArray, List.getElem?_cons_succ, List.getElem?_cons_zero, Act.put, List.setIfInBounds_toArray, List.set_cons_succ, List.set_cons_zero, a4', hv7] at hK ⊢
        go_wp2_with fail
        have hI := HII.out
        have KZ := set7_blk HR.out.2.2.2.1 (.slice x.on.a x.on.n x.on.c) (.slice x.os.a x.os.n x.os.c) (.slice x.hs.a x.hs.n x.hs.c) (.slice x.ms.a x.ms.n x.ms.c) (.slice x.si.a x.si.n x.si.c) (.slice x.so.a x.so.n x.so.c) (.slice x.sf.a x.sf.n x.sf.c)
        have hbz := set7_below (b := B) hI.bel hBW (.slice x.on.a x.on.n x.on.c) (.slice x.os.a x.os.n x.os.c) (.slice x.hs.a x.hs.n x.hs.c) (.slice x.ms.a x.ms.n x.ms.c) (.slice x.si.a x.si.n x.si.c) (.slice x.so.a x.so.n x.so.c) (.slice x.sf.a x.sf.n x.sf.c)
        have hRz := HRS.out x wk B f HR.out.2.2.2.1 (.slice x.on.a x.on.n x.on.c) (.slice x.os.a x.os.n x.os.c) (.slice x.hs.a x.hs.n x.hs.c) (.slice x.ms.a x.ms.n x.ms.c) (.slice x.si.a x.si.n x.si.c) (.slice x.so.a x.so.n x.so.c) (.slice x.sf.a x.sf.n x.sf.c) HR.out.1
        unfold set7 at KZ hbz hRz
        refine hK undef _ (regrown_of_below hbz) ⟨hbz, hI.c3, hI.c4, fun _ => ⟨h2, h7⟩, fun h0 => ?_, fun _ => ⟨B, HR.out.2.2.2.2, hBW, _, KZ⟩, fun _ => ⟨x, hRz, HR.out.2.1, HR.out.2.2.1, fun _ => a4', fun _ B' hB' => ?_⟩, hI.n5, hI.n6, hI.n9, hI.n10⟩
        · obtain ⟨g1, g2, b0, b1, b2⟩ := hI.yd h0
          have s7 : ∀ (q : Nat) (t : TypeId) (m : Nat) (z : Nat → Value), t ≠ 31 → Blk wk q t m z → Blk (set7 wk B (.slice x.on.a x.on.n x.on.c) (.slice x.os.a x.os.n x.os.c) (.slice x.hs.a x.hs.n x.hs.c) (.slice x.ms.a x.ms.n x.ms.c) (.slice x.si.a x.si.n x.si.c) (.slice x.so.a x.so.n x.so.c) (.slice x.sf.a x.sf.n x.sf.c)) q t m z := fun q t m z ht hb => by
            have hne := Blk.ne2 hb HR.out.2.2.2.1 ht
            unfold set7
            exact ((((((hb.other (a := ⟨B, 0, none⟩) hne _).other (a := ⟨B, 1, none⟩) hne _).other (a := ⟨B, 2, none⟩) hne _).other (a := ⟨B, 3, none⟩) hne _).other (a := ⟨B, 4, none⟩) hne _).other (a := ⟨B, 5, none⟩) hne _).other (a := ⟨B, 6, none⟩) hne _
          unfold set7 at s7
          exact ⟨g1, g2, b0, s7 _ _ _ _ (by decide) b1, s7 _ _ _ _ (by decide) b2⟩
        · have e : V 7 = .pointer (some ⟨B', 0, none⟩) := hB'
          rw [HR.out.2.2.2.2] at e
          simp only [Value.pointer.injEq, Option.some.injEq, Addr.mk.injEq, and_true] at e
          subst e
          exact KZ.congr (fun j hj => by match j, hj with | 0, _ => rfl | 1, _ => rfl | 2, _ => rfl | 3, _ => rfl | 4, _ => rfl | 5, _ => rfl | 6, _ => rfl)
      case zp9 =>
        intro dn V wk K hS hn hd hI hK
        have a4' := hI.n5 (hd 5 (List.contains_iff_mem.1 (by kernel_rfl)) (by simp))
        have HII : Hid (CallI (fun _ _ => True) 0 6 wq dn V wk) := hI
        clear hI
        refine wpOp_list 9 rfl ?_
        simp only [putAll, dstOf, List.getElem?_toArray, List.getElem?_cons_succ, List.getElem?_cons_zero, Act.put, List.setIfInBounds_toArray, List.set_cons_succ, List.set_cons_zero, a4'] at hK ⊢
        go_wp2_with fail
        have hI := HII.out
        exact hK _ _ hS ⟨hI.bel, hI.c3, hI.c4, hI.c8, hI.yd, hI.box, hI.got, hI.n5, hI.n6, fun _ => rfl, hI.n10⟩
      case zp10 =>
        intro dn V wk K hS hn hd hI hK
        have a4' := hI.n6 (hd 6 (List.contains_iff_mem.1 (by kernel_rfl)) (by simp))
        have HII : Hid (CallI (fun _ _ => True) 0 6 wq dn V wk) := hI
        clear hI
        refine wpOp_list 10 rfl ?_
        simp only [putAll, dstOf, List.getElem?_toArray, List.getElem?_cons_succ, List.getElem?_cons_zero, Act.put, List.setIfInBounds_toArray, List.set_cons_succ, List.set_cons_zero, a4'] at hK ⊢
        go_wp2_with fail
        have hI := HII.out
        exact hK _ _ hS ⟨hI.bel, hI.c3, hI.c4, hI.c8, hI.yd, hI.box, hI.got, hI.n5, hI.n6, hI.n9, fun _ => rfl⟩
      case zdone =>
        intro dn V wk hS hd hI
        refine NoPanic.normal ?_
        obtain ⟨B, hv7, hBW, f, hbk⟩ := hI.box (hd 7 (by simp))
        obtain ⟨x, hR, a2, a3, a4, a5⟩ := hI.got (hd 2 (by simp))
        have hv9 := hI.n9 (hd 9 (by simp))
        have hv10 := hI.n10 (hd 10 (by simp))
        have KX := a5 (hd 8 (by simp)) B hv7
        have hBel := hI.bel
        clear hI a2 a3 a4 a5 hbk hd hS
        simp only [putAll, dstOf, List.getElem?_toArray, List.getElem?_cons_succ, List.getElem?_cons_zero, Act.put, List.setIfInBounds_toArray, List.set_cons_succ, List.set_cons_zero, hv7, hv9, hv10]
        have HX2 : Hid (OwnS 0 wk x1 ∧ Blk wk B2 31 7 (fun j => x1.cells.getD j default)) := ⟨OwnS.below HX1.out.1 hBel, HX1.out.2.below hBel⟩
        have HBZ := HB1.out.trans (hBel.mono HB1.out.size)
        have HBZ' : Hid (Below w.heap.size w wk) := HWB.out.trans (HBZ.mono HWB.out.size)
        clear KX hR hv7 hv9 hv10 HRB HRS HTC HX1 HB1 HBZ
        obtain ⟨m1, p0, p1, p2, p3, p4, p5, p6⟩ := Boxed.of HX2.out.2
        have rq0 : ∀ d os, (grow (redrawn wk d) os).cell? ⟨B2, 0, none⟩ = some (.slice x1.on.a x1.on.n x1.on.c) := fun d os => cell_regrown p0 d os
        have rq1 : ∀ d os, (grow (redrawn wk d) os).cell? ⟨B2, 1, none⟩ = some (.slice x1.os.a x1.os.n x1.os.c) := fun d os => cell_regrown p1 d os
        have rq2 : ∀ d os, (grow (redrawn wk d) os).cell? ⟨B2, 2, none⟩ = some (.slice x1.hs.a x1.hs.n x1.hs.c) := fun d os => cell_regrown p2 d os
        have rq3 : ∀ d os, (grow (redrawn wk d) os).cell? ⟨B2, 3, none⟩ = some (.slice x1.ms.a x1.ms.n x1.ms.c) := fun d os => cell_regrown p3 d os
        have rq4 : ∀ d os, (grow (redrawn wk d) os).cell? ⟨B2, 4, none⟩ = some (.slice x1.si.a x1.si.n x1.si.c) := fun d os => cell_regrown p4 d os
        have rq5 : ∀ d os, (grow (redrawn wk d) os).cell? ⟨B2, 5, none⟩ = some (.slice x1.so.a x1.so.n x1.so.c) := fun d os => cell_regrown p5 d os
        have rq6 : ∀ d os, (grow (redrawn wk d) os).cell? ⟨B2, 6, none⟩ = some (.slice x1.sf.a x1.sf.n x1.sf.c) := fun d os => cell_regrown p6 d os
        have hX : Below wk.heap.size wk wk.drew := (Below.refl _ _).drew
        clear p0 p1 p2 p3 p4 p5 p6
        go_wp2_with fail
        refine wp_region_ordS (fun w' => ∃ p : Regrown, w' = grow (redrawn wk p.d) p.os) ((List.range' 0 19).map (fun i => (false, i)) ++ [(true, 19), (false, 20), (false, 21), (false, 22), (false, 23)]) (by kernel_rfl) (by kernel_rfl) (by kernel_rfl) (by kernel_rfl) (regrown_of_below hX) ?_
        refine wpOrdS_one 0 (by decide) ?_
        simp only [List.drop_zero, List.take_succ_cons, List.take_zero]
        go_wp2_with fail
        refine ⟨regrown_of_below hX, ?_⟩
        refine wpOrdS_one 1 (by decide) ?_
        simp only [List.drop_succ_cons, List.drop_zero, List.take_succ_cons, List.take_zero]
        go_wp2_with fail
        refine ⟨regrown_of_below hX, ?_⟩
        refine wpOrdS_one 2 (by decide) ?_
        simp only [List.drop_succ_cons, List.drop_zero, List.take_succ_cons, List.take_zero]
        go_wp2_with fail
        refine ⟨regrown_of_below hX, ?_⟩
        refine wpOrdS_one 3 (by decide) ?_
        simp only [List.drop_succ_cons, List.drop_zero, List.take_succ_cons, List.take_zero]
        go_wp2_with fail
        refine ⟨regrown_of_below hX, ?_⟩
        refine wpOrdS_one 4 (by decide) ?_
        simp only [List.drop_succ_cons, List.drop_zero, List.take_succ_cons, List.take_zero]
        go_wp2_with fail
        refine ⟨regrown_of_below hX, ?_⟩
        refine wpOrdS_one 5 (by decide) ?_
        simp only [List.drop_succ_cons, List.drop_zero, List.take_succ_cons, List.take_zero]
        go_wp2_with fail
        refine ⟨regrown_of_below hX, ?_⟩
        refine wpOrdS_one 6 (by decide) ?_
        simp only [List.drop_succ_cons, List.drop_zero, List.take_succ_cons, List.take_zero]
        go_wp2_with fail
        refine ⟨regrown_of_below hX, ?_⟩
        refine wpOrdS_one 7 (by decide) ?_
        simp only [List.drop_succ_cons, List.drop_zero, List.take_succ_cons, List.take_zero]
        go_wp2_with fail
        refine ⟨regrown_of_below hX, ?_⟩
        refine wpOrdS_one 8 (by decide) ?_
        simp only [List.drop_succ_cons, List.drop_zero, List.take_succ_cons, List.take_zero]
        go_wp2_with fail
        refine ⟨regrown_of_below hX, ?_⟩
        refine wpOrdS_one 9 (by decide) ?_
        simp only [List.drop_succ_cons, List.drop_zero, List.take_succ_cons, List.take_zero]
        go_wp2_with fail
        refine ⟨regrown_of_below hX, ?_⟩
        refine wpOrdS_one 10 (by decide) ?_
        simp only [List.drop_succ_cons, List.drop_zero, List.take_succ_cons, List.take_zero]
        go_wp2_with fail
        refine ⟨regrown_of_below hX, ?_⟩
        refine wpOrdS_one 11 (by decide) ?_
        simp only [List.drop_succ_cons, List.drop_zero, List.take_succ_cons, List.take_zero]
        go_wp2_with fail
        refine ⟨regrown_of_below hX, ?_⟩
        refine wpOrdS_one 12 (by decide) ?_
        simp only [List.drop_succ_cons, List.drop_zero, List.take_succ_cons, List.take_zero]
        go_wp2_with fail
        refine ⟨regrown_of_below hX, ?_⟩
        refine wpOrdS_one 13 (by decide) ?_
        simp only [List.drop_succ_cons, List.drop_zero, List.take_succ_cons, List.take_zero]
        go_wp2_with fail
        refine ⟨regrown_of_below hX, ?_⟩
        refine wpOrdS_one 14 (by decide) ?_
        simp only [List.drop_succ_cons, List.drop_zero, List.take_succ_cons, List.take_zero]
        go_wp2_with fail
        refine ⟨regrown_of_below hX, ?_⟩
        refine wpOrdS_one 15 (by decide) ?_
        simp only [List.drop_succ_cons, List.drop_zero, List.take_succ_cons, List.take_zero]
        go_wp2_with fail
        refine ⟨regrown_of_below hX, ?_⟩
        refine wpOrdS_one 16 (by decide) ?_
        simp only [List.drop_succ_cons, List.drop_zero, List.take_succ_cons, List.take_zero]
        go_wp2_with fail
        refine ⟨regrown_of_below hX, ?_⟩
        refine wpOrdS_one 17 (by decide) ?_
        simp only [List.drop_succ_cons, List.drop_zero, List.take_succ_cons, List.take_zero]
        go_wp2_with fail
        refine ⟨regrown_of_below hX, ?_⟩
        refine wpOrdS_one 18 (by decide) ?_
        simp only [List.drop_succ_cons, List.drop_zero, List.take_succ_cons, List.take_zero]
        go_wp2_with fail
        refine ⟨regrown_of_below hX, ?_⟩
        refine wpOrdS_first 19 rfl rfl ?_
        go_big_quiet_step (fail)
        refine wpQuiet_nil ?_
        refine wpOrdS_one 20 (by decide) ?_
        simp only [List.drop_succ_cons, List.drop_zero, List.take_succ_cons, List.take_zero]
        go_wp2_with fail
        refine (busy_any _).mono ?_
        rintro e wb ⟨gz, rfl, -, bz, hB⟩
        have hX := hX.trans (hB.mono hX.size)
        clear hB
        simp only [busyS, St.val]
        go_wp2_with fail
        refine ⟨regrown_of_below hX, ?_⟩
        refine wpOrdS_one 21 (by decide) ?_
        simp only [List.drop_succ_cons, List.drop_zero, List.take_succ_cons, List.take_zero]
        go_wp2_with fail
        refine (SameStates_yes x1 (busyS gz 2 0) wb (OwnS.below HX2.out.1 hX).at (busyAt bz) (HSX.out gz) (by have h : x1.os.n = 2 := (HSX.out gz).os.1; omega) (by have h : x1.ms.n = 1 := (HSX.out gz).ms.1; omega) (fun i hi => by
          have h : (x1.os.z i).ls.n = ((busyS gz 2 0).os.z i).ls.n := ((HSX.out gz).os.2 i hi).2.1
          have hn : x1.os.n = 2 := (HSX.out gz).os.1
          rw [h]
          have hi' : i < 2 := by omega
          match i, hi' with
          | 0, _ => show 2 ≤ 1000; omega
          | 1, _ => show 1 ≤ 1000; omega)).mono ?_
        rintro e wc ⟨rfl, hB⟩
        have hX := hX.trans (hB.mono hX.size)
        clear hB
        go_wp2_with fail
        refine ⟨regrown_of_below hX, ?_⟩
        refine wpOrdS_one 22 (by decide) ?_
        simp only [List.drop_succ_cons, List.drop_zero, List.take_succ_cons, List.take_zero]
        go_wp2_with fail
        refine ⟨regrown_of_below hX, ?_⟩
        refine wpOrdS_one 23 (by decide) ?_
        simp only [List.drop_succ_cons, List.drop_zero, List.take_succ_cons, List.take_zero]
        go_wp2_with fail
        refine ⟨regrown_of_below hX, ?_⟩
        refine NoPanic.normal ?_
        go_wp2_with fail
        go_ret
        exact ⟨rfl, HBZ'.out.trans (hX.mono HBZ'.out.size)⟩
end Go.Proofs.Ytbcacebifpagpac
namespace Go.Proofs.Ytbcacebifpagpac
open Go.RowKit
set_option linter.unusedVariables false
structure TakeIn (p : Pl) (s : St) (o l : Nat) (n : Int) : Prop where
  fm : Formed p s
  av : ∀ b, b < p.nb → 0 ≤ availZ s b ((s.os.z o).ls.z l).o.toNat
  on : o < s.os.n
  ln : l < (s.os.z o).ls.n
  n0 : 0 ≤ n
  bk : n ≤ ((s.os.z o).ls.z l).n
  sum : ((s.os.z o).ls.z l).n + keptS s.hs.z o l s.hs.n ≤ 200
def avT (s : St) (o l : Nat) (b : Int) : Int := availZ s b.toNat ((s.os.z o).ls.z l).o.toNat
section
variable {p : Pl} {s x : St} {o l : Nat} {n : Int} {L : List Int} {t : Tk}
theorem TakeIn.good (h : TakeIn p s o l n) : 0 ≤ ((s.os.z o).ls.z l).o ∧ ((s.os.z o).ls.z l).o < p.ns := (badLine_no (h.fm.line _ h.on _ h.ln)).1
theorem TakeIn.tk (h : TakeIn p s o l n) (hL : L.Pairwise (fun x y => ¬ x = y)) (hm : ∀ x, x ∈ L → 0 ≤ x ∧ x < p.nb) : TkOK (avT s o l) n L (Tk.go (avT s o l) n L) := by
  refine tkOK h.n0 hL (fun x hx => ?_) (fun x hx => ?_)
  · have := hm x hx
    exact h.av _ (by omega)
  · have := hm x hx
    have := h.fm.sh.pl.nb6
    omega
end
end Go.Proofs.Ytbcacebifpagpac
namespace Go.Proofs.Ytbcacebifpagpac
open Go.RowKit
set_option linter.unusedVariables false
theorem frL_has {p : Pl} {f : Bool} {b : Nat} : ∀ {k : Nat}, b < k → (p.zb b).front = f → ((b : Nat) : Int) ∈ frL p f k
  | k + 1, hb, hf => by
    by_cases hbk : b = k
    · subst hbk
      rw [frL_hit hf]
      simp
    · have h := frL_has (k := k) (by omega) hf
      by_cases hk : (p.zb k).front = f
      · rw [frL_hit hk]; simp [h]
      · rw [frL_miss hk]; exact h
theorem way_has {p : Pl} {b : Nat} (hb : b < p.nb) : ((b : Nat) : Int) ∈ wayL p := by
  unfold wayL
  rw [List.mem_append]
  cases hf : (p.zb b).front
  · exact Or.inr (frL_has hb hf)
  · exact Or.inl (frL_has hb hf)
theorem Took.trans {s y z : St} {o l : Nat} {k m : Int} {t1 t2 : Tk} (a : Took s o l k t1 y) (b : Took y o l m t2 z) : Took s o l (k + m) ⟨t1.left + t2.left, fun c => t1.took c + t2.took c⟩ z := by
  refine ⟨⟨b.on.1.trans a.on.1, fun i hi => ?_⟩, ⟨b.os.1.trans a.os.1, fun i hi => ?_⟩, b.right, fun e f g => ?_, ⟨b.ms.1.trans a.ms.1, fun j hj => (b.ms.2 j hj).trans (a.ms.2 j (by rw [← b.ms.1]; exact hj))⟩, ⟨b.si.1.trans a.si.1, fun j hj => (b.si.2 j hj).trans (a.si.2 j (by rw [← b.si.1]; exact hj))⟩, ⟨b.so.1.trans a.so.1, fun j hj => (b.so.2 j hj).trans (a.so.2 j (by rw [← b.so.1]; exact hj))⟩, ⟨b.sf.1.trans a.sf.1, fun j hj => (b.sf.2 j hj).trans (a.sf.2 j (by rw [← b.sf.1]; exact hj))⟩⟩
  · have x := b.on.2 i hi
    have y' := a.on.2 i (by rw [← b.on.1]; exact hi)
    exact ⟨x.1.trans y'.1, fun j hj => (x.2 j hj).trans (y'.2 j (by rw [← x.1]; exact hj))⟩
  · have x := b.os.2 i hi
    have y' := a.os.2 i (by rw [← b.os.1]; exact hi)
    refine ⟨x.1.trans y'.1, x.2.1.trans y'.2.1, fun j hj => ?_⟩
    rw [x.2.2 j hj, y'.2.2 j (by rw [← x.2.1]; exact hj)]
    by_cases hij : i = o ∧ j = l
    · rw [if_pos hij, if_pos hij, if_pos hij]
      unfold lessL
      congr 1
      show _ - (k - t1.left) - (m - t2.left) = _ - (k + m - (t1.left + t2.left))
      omega
    · rw [if_neg hij, if_neg hij, if_neg hij]
  · rw [b.kept, a.kept]
    show _ = _ + if _ then t1.took g + t2.took g else 0
    by_cases hef : e = o ∧ f = l
    · rw [if_pos hef, if_pos hef, if_pos hef]; omega
    · rw [if_neg hef, if_neg hef, if_neg hef]; omega
theorem go_stays {av : Int → Int} {n : Int} {b : Int} : ∀ {r l : List Int}, b ∉ r → (Tk.go av n (l ++ r)).took b = (Tk.go av n l).took b
  | [], l, _ => by rw [List.append_nil]
  | c :: r, l, hb => by
    have e : l ++ c :: r = (l ++ [c]) ++ r := by simp
    rw [e, go_stays (r := r) (l := l ++ [c]) (fun h => hb (by simp [h])), Tk.go_more]
    show (Tk.go av n l).took b + (if b = c then _ else 0) = _
    rw [if_neg (fun e => hb (by simp [e]))]
    omega
section
variable {p : Pl} {s x y z : St} {order line n but k : Int}
theorem AllocIn.less (h : AllocIn p s order line n but) (hk : 0 ≤ k ∧ k ≤ n) : allocE p s order line k but = 0 := by
  have h1 : allocR p s order line k but = false := by
    unfold allocR missL
    have h2 := h.n2
    have on := h.on
    have o0 := h.o0
    have ln := h.ln
    have l0 := h.l0
    rw [inB_mk (by omega), inB_mk (by omega), inB_mk (by omega)]
    rcases h.bt with e | e
    · rw [e]; rfl
    · rw [inB_mk (by omega)]; simp
  exact allocE_ok h.st h1 h.kd (by have := h.bk; omega)
theorem AllocIn.rightX (h : AllocIn p s order line n but) (hx : AllocOK p s order line n but x) : RightT p x :=
  (hx.1 (h.less ⟨h.n0, Int.le_refl _⟩)).rightAt h (fun x hx => h.way x hx) (h.tk (wayT_apart p but) (fun x hx => h.way x hx))
theorem AllocIn.none (h : AllocIn p s order line n but) (hx : AllocOK p s order line n but x) (hl : 0 < allocL p s order line n but) {b : Nat} (hb : b < p.nb) (hbut : ¬ ((b : Nat) : Int) = but) : availZ x b (lineAt s order line).o.toNat = 0 := by
  have e := h.less ⟨h.n0, Int.le_refl _⟩
  have T := hx.1 e
  have r := h.rightX hx
  have k := h.tk (wayT_apart p but) (fun x hx => h.way x hx)
  unfold allocL at hl
  rw [if_pos e] at hl
  have hg := h.good
  have hm : ((b : Nat) : Int) ∈ wayT p but := wayT_mem.2 ⟨way_has hb, hbut⟩
  have ha := k.all hl b hm
  rw [T.avail (rightT h.st).fm r.fm h.on h.ln hb (by omega), if_pos (by unfold lineAt; unfold lineAt at hg; omega)]
  show _ - (tkOf p s (lineAt s order line).o n but).took b = 0
  have ha' : (tkOf p s (lineAt s order line).o n but).took b = availZ s b (lineAt s order line).o.toNat := ha
  rw [ha']
  omega
end
end Go.Proofs.Ytbcacebifpagpac
namespace Go.Proofs.Ytbcacebifpagpac
open Go.RowKit
set_option linter.unusedVariables false
theorem go_empty {av : Int → Int} {n : Int} : ∀ {r l : List Int}, (Tk.go av n l).left = 0 → (∀ x, x ∈ r → 0 ≤ av x) → ∀ b, (Tk.go av n (l ++ r)).took b = (Tk.go av n l).took b
  | [], l, _, _, b => by rw [List.append_nil]
  | c :: r, l, h0, ha, b => by
    have e : l ++ c :: r = (l ++ [c]) ++ r := by simp
    have hc := ha c (by simp)
    have hm : min (Tk.go av n l).left (av c) = 0 := by rw [h0]; omega
    rw [e, go_empty (r := r) (l := l ++ [c]) (by
      rw [Tk.go_more]
      show (Tk.go av n l).left - min (Tk.go av n l).left (av c) = 0
      rw [hm, h0]
      rfl) (fun x hx => ha x (by simp [hx])), Tk.go_more]
    show (Tk.go av n l).took b + (if b = c then min (Tk.go av n l).left (av c) else 0) = _
    rw [hm]
    split <;> omega
theorem wayT_all (p : Pl) : wayT p (-1) = wayL p := by
  unfold wayT
  rw [List.filter_eq_self]
  intro b hb
  have := way_mem hb
  simp
  omega
section
variable {p : Pl} {s x : St} {order line n : Int}
theorem AllocIn.front (h : AllocIn p s order line n (-1)) (hx : AllocOK p s order line n (-1) x) : ∃ A : Bool, ∀ b, b < p.nb → (0 ≤ availZ x b (lineAt s order line).o.toNat ∧ availZ x b (lineAt s order line).o.toNat ≤ availZ s b (lineAt s order line).o.toNat ∧ availZ s b (lineAt s order line).o.toNat ≤ 200) ∧ (A = true → (p.zb b).front = true → availZ x b (lineAt s order line).o.toNat = 0) ∧ (A = false → (p.zb b).front = false → availZ x b (lineAt s order line).o.toNat = availZ s b (lineAt s order line).o.toNat) := by
  have e := h.less ⟨h.n0, Int.le_refl _⟩
  have T := hx.1 e
  have r := h.rightX hx
  have rs := rightT h.st
  have hg := h.good
  have k := h.tk (wayT_apart p (-1)) (fun x hx => h.way x hx)
  have kf := h.tk (l := frL p true p.nb) ((frL_pw p true p.nb).imp fun h => by omega) (fun x hx => by have := frL_mem hx; omega)
  have hT : tkOf p s (lineAt s order line).o n (-1) = Tk.go (fun b => availZ s b.toNat (lineAt s order line).o.toNat) n (frL p true p.nb ++ frL p false p.nb) := by unfold tkOf; rw [wayT_all]; rfl
  have hav : ∀ b, b < p.nb → availZ x b (lineAt s order line).o.toNat = availZ s b (lineAt s order line).o.toNat - (tkOf p s (lineAt s order line).o n (-1)).took b := fun b hb => by
    rw [T.avail rs.fm r.fm h.on h.ln hb (by omega), if_pos (by unfold lineAt; unfold lineAt at hg; omega)]
  refine ⟨decide (0 < (Tk.go (fun b => availZ s b.toNat (lineAt s order line).o.toNat) n (frL p true p.nb)).left), fun b hb => ?_⟩
  have b1 := avail_bdA rs hb (g := (lineAt s order line).o.toNat) (by omega)
  have b2 := avail_bdA r hb (g := (lineAt s order line).o.toNat) (by omega)
  have b3 : 0 ≤ (tkOf p s (lineAt s order line).o n (-1)).took b := k.took0 b
  have b4 := hav b hb
  refine ⟨⟨b2.1, by omega, b1.2⟩, fun hA hf => ?_, fun hA hf => ?_⟩
  · have hA := of_decide_eq_true hA
    have hm : ((b : Nat) : Int) ∈ frL p true p.nb := frL_has hb hf
    have hnot : ((b : Nat) : Int) ∉ frL p false p.nb := fun hm2 => by
      have := (frL_mem hm2).2.2
      rw [(frL_mem hm).2.2] at this
      exact absurd this (by decide)
    have ha : _ = availZ s b (lineAt s order line).o.toNat := kf.all hA b hm
    rw [b4, hT, go_stays hnot, ha]
    omega
  · have hA := of_decide_eq_false hA
    have h0 := kf.left0
    have hm : ((b : Nat) : Int) ∈ frL p false p.nb := frL_has hb hf
    have hnot : ((b : Nat) : Int) ∉ frL p true p.nb := fun hm2 => by
      have := (frL_mem hm2).2.2
      rw [(frL_mem hm).2.2] at this
      exact absurd this (by decide)
    rw [b4, hT, go_empty (by omega) (fun y hy => by
      have := frL_mem hy
      exact (avail_bdA rs (b := y.toNat) (by omega) (g := (lineAt s order line).o.toNat) (by omega)).1), kf.other b hnot]
    omega
theorem AllocIn.others (h : AllocIn p s order line n (-1)) (hx : AllocOK p s order line n (-1) x) (a b : Nat) (hab : ¬ (((a : Nat) : Int) = order ∧ ((b : Nat) : Int) = line)) : keptS x.hs.z a b x.hs.n = keptS s.hs.z a b s.hs.n := by
  have e := h.less ⟨h.n0, Int.le_refl _⟩
  have T := hx.1 e
  have k := h.tk (wayT_apart p (-1)) (fun x hx => h.way x hx)
  have o0 := h.o0
  have l0 := h.l0
  rw [T.keptS (rightT h.st).fm k.sum, if_neg (by omega)]
  omega
end
end Go.Proofs.Ytbcacebifpagpac
namespace Go.Proofs.Ytbcacebifpagpac
open Go.RowKit Go.Shelf Go.Sort
set_option linter.unusedVariables false
theorem Kept_rightA (s : Hs) (o l : Int) (w : World) (hs : s.At w) (hr : anyB s.n (badH s.z) = false) :
    Calls Try.prog 20 #[s.val, .int .i64 o, .int .i64 l] w fun e w' => e = .returned (.tuple #[.int .i64 (keptS s.z o l s.n), .int .i64 0]) ∧ Below w.heap.size w w' := by
  have h := Kept_any s o l w hs
  rw [checkH_right hr, if_pos rfl] at h
  exact h
theorem keptS_rightA {s : Hs} (o l : Int) (hr : anyB s.n (badH s.z) = false) : 0 ≤ keptS s.z o l s.n ∧ keptS s.z o l s.n ≤ 14400 := by
  have a := keptS_bd (z := s.z) o l s.n fun j hj => (fineH_true (right_fine hr j hj)).2.2.2
  have b := right_len hr
  omega
set_option maxRecDepth 100000 in
set_option maxHeartbeats 8000000 in
theorem AllocFront_walk (p : Pl) (s : St) (order line n : Int) (w : World) (hp : p.At w) (hs : s.At w) :
    Calls Try.prog 6 #[p.val, s.val, .int .i64 order, .int .i64 line, .int .i64 n] w fun e w' => e = .returned (.bool true) ∧ Below w.heap.size w w' := by
  obtain ⟨W0, hW, hWB, X0⟩ : ∃ W, ((w.alloc (.cells #[.slice p.ab p.nb p.cb, .slice p.sa p.ns p.cs] 25)).alloc (.cells s.cells 31)) = W ∧ Below w.heap.size w W ∧ Boxes W w.heap.size (w.heap.size + 1) p s := ⟨_, rfl, two_below _ _ _, boxes_new w p s _ _⟩
  have HC : Hid (∀ wk, Below W0.heap.size W0 wk → Boxes wk w.heap.size (w.heap.size + 1) p s ∧ p.At wk ∧ s.At wk ∧ Below w.heap.size w wk) := fun wk h => ⟨X0.below h, (hp.below hWB).below h, (hs.below hWB).below h, hWB.trans (h.mono hWB.size)⟩
  have HW : Hid ((w.alloc (.cells #[.slice p.ab p.nb p.cb, .slice p.sa p.ns p.cs] 25)).alloc (.cells #[.slice s.on.a s.on.n s.on.c, .slice s.os.a s.os.n s.os.c, .slice s.hs.a s.hs.n s.hs.c, .slice s.ms.a s.ms.n s.ms.c, .slice s.si.a s.si.n s.si.c, .slice s.so.a s.so.n s.so.c, .slice s.sf.a s.sf.n s.sf.c] 31) = W0) := hW
  have leb := hp.leb
  have capb := hp.capb
  unfold maxLen at capb
  clear hW X0 hp hs
  unfold Pl.val St.val
  go_enter Try.func6, Try.ntmps6
  go_wp2_with fail
  rw [HW.out]
  obtain ⟨X, hpk, hsk, hBw⟩ := HC.out W0 (Below.refl _ _)
  refine (Take_any p s order line n (-1) W0 hpk hsk).mono ?_
  rintro e w1 ⟨x, rfl, xat, xok, xown, hB⟩
  clear X hpk hsk hBw HW
  obtain ⟨W2, hW, hWB, K1⟩ : ∃ W, w1.alloc (.cells #[.slice x.on.a x.on.n x.on.c, .slice x.os.a x.os.n x.os.c, .slice x.hs.a x.hs.n x.hs.c, .slice x.ms.a x.ms.n x.ms.c, .slice x.si.a x.si.n x.si.c, .slice x.so.a x.so.n x.so.c, .slice x.sf.a x.sf.n x.sf.c] 31) = W ∧ Below w1.heap.size w1 W ∧ Blk W w1.heap.size 31 7 (fun j => x.cells.getD j default) := ⟨_, rfl, (Below.refl _ _).alloc (Nat.le_refl _) _, Blk.mk' rfl rfl⟩
  have HW : Hid (w1.alloc (.cells #[.slice x.on.a x.on.n x.on.c, .slice x.os.a x.os.n x.os.c, .slice x.hs.a x.hs.n x.hs.c, .slice x.ms.a x.ms.n x.ms.c, .slice x.si.a x.si.n x.si.c, .slice x.so.a x.so.n x.so.c, .slice x.sf.a x.sf.n x.sf.c] 31) = W2) := hW
  have hB2 := hB.trans (hWB.mono hB.size)
  have xat := xat.below hWB
  have HXOK : Hid (AllocOK p s order line n (-1) x) := xok
  clear hWB hB hW xown xok
  by_cases hE : allocE p s order line n (-1) = 0
  · have HI : Hid (AllocIn p s order line n (-1)) := allocIn hE
    have HRX : Hid (stateE p x = 0 ∧ stateE p s = 0) := ⟨stateE_of (HI.out.rightX HXOK.out), HI.out.st⟩
    have HHR : Hid (anyB x.hs.n (badH x.hs.z) = false ∧ anyB s.hs.n (badH s.hs.z) = false) := ⟨(HI.out.rightX HXOK.out).fm.hold, (rightT HI.out.st).fm.hold⟩
    rw [hE]
    clear hE
    obtain ⟨o, rfl⟩ := Int.eq_ofNat_of_zero_le HI.out.o0
    obtain ⟨l, rfl⟩ := Int.eq_ofNat_of_zero_le HI.out.l0
    have ho : o < s.os.n := HI.out.on
    have hl : l < (s.os.z o).ls.n := HI.out.ln
    have hgd := HI.out.good
    obtain ⟨gd, hgv⟩ := Int.eq_ofNat_of_zero_le hgd.1
    have HGV : Hid (((s.os.z o).ls.z l).o = (gd : Int)) := hgv
    have hgdn : gd < p.ns := by omega
    have hLG : (lineAt s o l).o.toNat = gd := by rw [hgv]; rfl
    obtain ⟨A, hA⟩ := HI.out.front HXOK.out
    rw [hLG] at hA
    have HA : Hid _ := hA
    have HOT : Hid (∀ a b : Nat, ¬ (((a : Nat) : Int) = o ∧ ((b : Nat) : Int) = l) → keptS x.hs.z a b x.hs.n = keptS s.hs.z a b s.hs.n) := fun a b h => HI.out.others HXOK.out a b h
    have nb6 : p.nb ≤ 6 := (rightT HI.out.st).fm.sh.pl.nb6
    have os4 : s.os.n ≤ 4 := (rightT HI.out.st).fm.os4
    clear hgd hgv hLG hA
    generalize allocL p s o l n (-1) = LF at *
    obtain ⟨⟨⟨l1, d0, d1⟩, l2, c0, c1, c2, c3, c4, c5, c6⟩, hpk, hsk, hBw⟩ := HC.out W2 hB2
    obtain ⟨bo, oo, hoa, hbo, z0, z1, hlk⟩ := hsk.os.ods o ho
    obtain ⟨bl, ol, hla, hbl, y0, y1, y2, y3⟩ := hlk.hds l hl
    rw [HGV.out] at y0
    have v1 := hsk.os.le
    have v2 := hsk.os.cap
    have v3 := hlk.le
    have v4 := hlk.cap
    unfold maxLen at v2 v4
    rw [hoa] at c1
    rw [hla] at z1
    have q0 : (0 : Int) ≤ (o : Int) := by omega
    have q1 : (o : Int) < (s.os.n : Int) := by omega
    have q2 : (0 : Int) ≤ (l : Int) := by omega
    have q3 : (l : Int) < ((s.os.z o).ls.n : Int) := by omega
    have u3 : ¬ (o : Int) < 0 := by omega
    have u4 : ¬ (s.os.n : Int) ≤ (o : Int) := by omega
    have u5 : ¬ s.os.n ≤ o := by omega
    have u6 : ¬ (l : Int) < 0 := by omega
    have u7 : ¬ ((s.os.z o).ls.n : Int) ≤ (l : Int) := by omega
    have u8 : ¬ (s.os.z o).ls.n ≤ l := by omega
    have w3' : decide ((o : Int) < 0) = false := decide_eq_false u3
    have w4' : decide ((s.os.n : Int) ≤ (o : Int)) = false := decide_eq_false u4
    have w5' : decide (s.os.n ≤ o) = false := decide_eq_false u5
    have w6' : decide ((l : Int) < 0) = false := decide_eq_false u6
    have w7' : decide (((s.os.z o).ls.n : Int) ≤ (l : Int)) = false := decide_eq_false u7
    have w8' : decide ((s.os.z o).ls.n ≤ l) = false := decide_eq_false u8
    have HXA : Hid (x.At W2 ∧ Blk W2 w1.heap.size 31 7 (fun j => x.cells.getD j default)) := ⟨xat, K1⟩
    clear hoa hla hlk y1 y2 y3 hpk hsk xat K1
    rw [← HW.out] at l1 d0 d1 l2 c0 c1 c2 c3 c4 c5 c6 hbo z0 z1 hbl y0
    simp only [St.val]
    go_wp2_with fail
    rw [HW.out]
    clear l1 d0 d1 l2 c0 c1 c2 c3 c4 c5 c6 hbo z0 z1 hbl y0 v1 v2 v3 v4 u3 u4 u5 u6 u7 u8 w3' w4' w5' w6' w7' w8' hBw q0 q1 q2 q3 HW
    generalize w1.heap.size = B1 at *
    go_loopw [15, 16, 17] (fun lv mv kv wk => ∃ (k : Nat) (L M : Int), k ≤ p.nb ∧ kv = .int .i64 k ∧ lv = .int .i64 L ∧ mv = .int .i64 M ∧ (0 ≤ L ∧ L ≤ 200 * k) ∧ (0 ≤ M ∧ M ≤ 200 * k) ∧ Hid ((A = true → L = 0) ∧ (A = false → M = 0)) ∧ Hid (x.At wk ∧ Blk wk B1 31 7 (fun j => x.cells.getD j default)) ∧ Hid (Below W0.heap.size W0 wk)) (fun _ _ kv _ => p.nb - (intOf kv).toNat)
    case atStart => exact ⟨0, 0, 0, Nat.zero_le _, rfl, rfl, rfl, by omega, by omega, ⟨fun _ => rfl, fun _ => rfl⟩, HXA, hB2⟩
    case round =>
      clear HXA hB2
      obtain ⟨k, L, M, hk, rfl, rfl, rfl, hL, hM, HLM, HXA, HBk⟩ := hrel
      obtain ⟨⟨⟨l1, d0, d1⟩, l2, c0, c1, c2, c3, c4, c5, c6⟩, hpk, hsk, hBw⟩ := HC.out wr HBk.out
      by_cases hlt : k < p.nb
      · have HV1 : Hid (∀ wk, p.At wk → s.At wk → Calls Try.prog 12 #[p.val, s.val, .int .i64 (k : Int), .int .i64 (gd : Int)] wk fun e w' => e = .returned (.tuple #[.int .i64 (availZ s k gd), .int .i64 0]) ∧ Below wk.heap.size wk w') := fun wk h1 h2 => by
          have h := Avail_any p s k gd wk h1 h2
          rw [(avail_okA HRX.out.2 hlt hgdn).1, (avail_okA HRX.out.2 hlt hgdn).2] at h
          exact h
        have HV2 : Hid (∀ wk, p.At wk → x.At wk → Calls Try.prog 12 #[p.val, x.val, .int .i64 (k : Int), .int .i64 (gd : Int)] wk fun e w' => e = .returned (.tuple #[.int .i64 (availZ x k gd), .int .i64 0]) ∧ Below wk.heap.size wk w') := fun wk h1 h2 => by
          have h := Avail_any p x k gd wk h1 h2
          rw [(avail_okA HRX.out.1 hlt hgdn).1, (avail_okA HRX.out.1 hlt hgdn).2] at h
          exact h
        obtain ⟨a1, a2, a3⟩ := HA.out k hlt
        have HA2 : Hid ((A = true → (p.zb k).front = true → availZ x k gd = 0) ∧ (A = false → (p.zb k).front = false → availZ x k gd = availZ s k gd)) := ⟨a2, a3⟩
        clear a2 a3
        generalize availZ s k gd = AS at *
        generalize availZ x k gd = AX at *
        have HPS : Hid (p.At wr ∧ s.At wr) := ⟨hpk, hsk⟩
        have q0 : (0 : Int) ≤ (k : Int) := by omega
        clear hpk hsk
        go_wp2_with fail
        refine (HV1.out wr HPS.out.1 HPS.out.2).mono ?_
        clear HPS
        rintro e w5 ⟨rfl, hB5⟩
        have HXA : Hid (x.At w5 ∧ Blk w5 B1 31 7 (fun j => x.cells.getD j default)) := ⟨HXA.out.1.below hB5, HXA.out.2.below hB5⟩
        have HBk : Hid (Below W0.heap.size W0 w5) := HBk.out.trans (hB5.mono HBk.out.size)
        clear hB5
        clear l1 d0 d1 l2 c0 c1 c2 c3 c4 c5 c6 hBw
        obtain ⟨⟨⟨l1, d0, d1⟩, l2, c0, c1, c2, c3, c4, c5, c6⟩, hpk, hsk, hBw⟩ := HC.out w5 HBk.out
        obtain ⟨m1, p0, p1, p2, p3, p4, p5, p6⟩ := Boxed.of HXA.out.2
        have HPX : Hid (p.At w5 ∧ x.At w5) := ⟨hpk, HXA.out.1⟩
        clear hpk hsk
        go_wp2_with fail
        refine (HV2.out w5 HPX.out.1 HPX.out.2).mono ?_
        clear HPX
        rintro e w6 ⟨rfl, hB6⟩
        have HXA : Hid (x.At w6 ∧ Blk w6 B1 31 7 (fun j => x.cells.getD j default)) := ⟨HXA.out.1.below hB6, HXA.out.2.below hB6⟩
        have HBk : Hid (Below W0.heap.size W0 w6) := HBk.out.trans (hB6.mono HBk.out.size)
        clear hB6
        clear l1 d0 d1 l2 c0 c1 c2 c3 c4 c5 c6 hBw
        clear m1 p0 p1 p2 p3 p4 p5 p6
        obtain ⟨⟨⟨l1, d0, d1⟩, l2, c0, c1, c2, c3, c4, c5, c6⟩, hpk, hsk, hBw⟩ := HC.out w6 HBk.out
        obtain ⟨bb, bo, hab, hbb, z0, z1, z2, z3⟩ := hpk.bins k hlt
        rw [hab] at d0
        clear hab hpk hsk HV1 HV2
        have u1 : ¬ AS < AX := by omega
        have u2 : decide (AS < AX) = false := decide_eq_false u1
        cases hf : (p.zb k).front
        · rw [hf] at z0
          have hm : A = false → AX = AS := fun h => HA2.out.2 h hf
          have HM2 : Hid ((A = true → L = 0) ∧ (A = false → M + AS - AX = 0)) := ⟨HLM.out.1, fun h => by have h1 := HLM.out.2 h; have h2 := hm h; omega⟩
          clear HA2 hm HLM
          go_wp2_with fail
          go_roundw
          case rel => exact ⟨k + 1, L, M + AS - AX, by omega, by go_num, rfl, by go_num, by omega, by omega, HM2, HXA, HBk⟩
          case measure => simp [intOf]; omega
        · rw [hf] at z0
          have hm : A = true → AX = 0 := fun h => HA2.out.1 h hf
          have HM2 : Hid ((A = true → L + AX = 0) ∧ (A = false → M = 0)) := ⟨fun h => by have h1 := HLM.out.1 h; have h2 := hm h; omega, HLM.out.2⟩
          clear HA2 hm HLM
          go_wp2_with fail
          go_roundw
          case rel => exact ⟨k + 1, L + AX, M, by omega, by go_num, by go_num, rfl, by omega, by omega, HM2, HXA, HBk⟩
          case measure => simp [intOf]; omega
      · have HZ : Hid (L = 0 ∨ ¬ L = 0 ∧ M = 0) := by
          by_cases h : L = 0
          · exact Or.inl h
          · refine Or.inr ⟨h, HLM.out.2 ?_⟩
            cases hA : A
            · rfl
            · exact absurd (HLM.out.1 hA) h
        clear HLM HA HI HXOK HRX HGV
        clear hpk hsk
        go_wp2_with fail
        clear l1 d0 d1 l2 c0 c1 c2 c3 c4 c5 c6 hBw
        go_loopw [22] (fun ov wk => ∃ i : Nat, i ≤ s.os.n ∧ ov = .int .i64 i ∧ Hid (x.At wk ∧ Blk wk B1 31 7 (fun j => x.cells.getD j default)) ∧ Hid (Below W0.heap.size W0 wk)) (fun ov _ => s.os.n - (intOf ov).toNat)
        case atStart => exact ⟨0, Nat.zero_le _, rfl, HXA, HBk⟩
        case round =>
          clear HXA HBk
          obtain ⟨i, hi, rfl, HXA, HBk⟩ := hrel
          obtain ⟨⟨⟨l1, d0, d1⟩, l2, c0, c1, c2, c3, c4, c5, c6⟩, hpk, hsk, hBw⟩ := HC.out wr HBk.out
          by_cases hlti : i < s.os.n
          · clear hpk hsk
            have q0 : (0 : Int) ≤ (i : Int) := by omega
            go_wp2_with fail
            clear l1 d0 d1 l2 c0 c1 c2 c3 c4 c5 c6 hBw
            go_loopw [23] (fun kv wk => ∃ j : Nat, j ≤ (s.os.z i).ls.n ∧ kv = .int .i64 j ∧ Hid (x.At wk ∧ Blk wk B1 31 7 (fun j => x.cells.getD j default)) ∧ Hid (Below W0.heap.size W0 wk)) (fun kv _ => (s.os.z i).ls.n - (intOf kv).toNat)
            case atStart => exact ⟨0, Nat.zero_le _, rfl, HXA, HBk⟩
            case round =>
              clear HXA HBk
              obtain ⟨j, hj, rfl, HXA, HBk⟩ := hrel
              obtain ⟨⟨⟨l1, d0, d1⟩, l2, c0, c1, c2, c3, c4, c5, c6⟩, hpk, hsk, hBw⟩ := HC.out wr HBk.out
              obtain ⟨bo, oo, hoa, hbo, z0, z1, hlk⟩ := hsk.os.ods i hlti
              have v3 := hlk.le
              have v4 := hlk.cap
              unfold maxLen at v4
              rw [hoa] at c1
              clear hoa hlk
              by_cases hltj : j < (s.os.z i).ls.n
              · have q1 : (0 : Int) ≤ (j : Int) := by omega
                have hKS := keptS_rightA (s := s.hs) (i : Int) (j : Int) HHR.out.2
                have hKX := keptS_rightA (s := x.hs) (i : Int) (j : Int) HHR.out.1
                have HV1 : Hid (∀ wk, s.hs.At wk → Calls Try.prog 20 #[.slice s.hs.a s.hs.n s.hs.c, .int .i64 (i : Int), .int .i64 (j : Int)] wk fun e w' => e = .returned (.tuple #[.int .i64 (keptS s.hs.z i j s.hs.n), .int .i64 0]) ∧ Below wk.heap.size wk w') := fun wk h => Kept_rightA s.hs i j wk h HHR.out.2
                have HV2 : Hid (∀ wk, x.hs.At wk → Calls Try.prog 20 #[.slice x.hs.a x.hs.n x.hs.c, .int .i64 (i : Int), .int .i64 (j : Int)] wk fun e w' => e = .returned (.tuple #[.int .i64 (keptS x.hs.z i j x.hs.n), .int .i64 0]) ∧ Below wk.heap.size wk w') := fun wk h => Kept_rightA x.hs i j wk h HHR.out.1
                have HO2 : Hid (¬ (((i : Nat) : Int) = o ∧ ((j : Nat) : Int) = l) → keptS x.hs.z i j x.hs.n = keptS s.hs.z i j s.hs.n) := HOT.out i j
                generalize keptS s.hs.z i j s.hs.n = KS at *
                generalize keptS x.hs.z i j x.hs.n = KX at *
                have HPS : Hid (s.hs.At wr) := hsk.hs
                clear hpk hsk
                go_wp2_with fail
                clear hbo z0 z1
                refine (HV1.out wr HPS.out).mono ?_
                clear HPS
                rintro e w5 ⟨rfl, hB5⟩
                have HXA : Hid (x.At w5 ∧ Blk w5 B1 31 7 (fun j => x.cells.getD j default)) := ⟨HXA.out.1.below hB5, HXA.out.2.below hB5⟩
                have HBk : Hid (Below W0.heap.size W0 w5) := HBk.out.trans (hB5.mono HBk.out.size)
                clear hB5
                clear l1 d0 d1 l2 c0 c1 c2 c3 c4 c5 c6 hBw
                obtain ⟨⟨⟨l1, d0, d1⟩, l2, c0, c1, c2, c3, c4, c5, c6⟩, hpk, hsk, hBw⟩ := HC.out w5 HBk.out
                obtain ⟨m1, p0, p1, p2, p3, p4, p5, p6⟩ := Boxed.of HXA.out.2
                have HPX : Hid (x.hs.At w5) := HXA.out.1.hs
                clear hpk hsk
                go_wp2_with fail
                refine (HV2.out w5 HPX.out).mono ?_
                clear HPX
                rintro e w6 ⟨rfl, hB6⟩
                have HXA : Hid (x.At w6 ∧ Blk w6 B1 31 7 (fun j => x.cells.getD j default)) := ⟨HXA.out.1.below hB6, HXA.out.2.below hB6⟩
                have HBk : Hid (Below W0.heap.size W0 w6) := HBk.out.trans (hB6.mono HBk.out.size)
                clear hB6
                clear l1 d0 d1 l2 c0 c1 c2 c3 c4 c5 c6 hBw
                clear m1 p0 p1 p2 p3 p4 p5 p6
                obtain ⟨⟨⟨l1, d0, d1⟩, l2, c0, c1, c2, c3, c4, c5, c6⟩, hpk, hsk, hBw⟩ := HC.out w6 HBk.out
                clear hpk hsk HV1 HV2
                by_cases he : i = o
                · have g1 : (((i : Nat) : Int) != (o : Int)) = false := by simp [he]
                  have g2 : (i != o) = false := by simp [he]
                  by_cases hl2 : j = l
                  · have g3 : (((j : Nat) : Int) != (l : Int)) = false := by simp [hl2]
                    have g4 : (j != l) = false := by simp [hl2]
                    clear he hl2 HO2
                    go_wp2_with fail
                    go_roundw
                    case rel => exact ⟨j + 1, by omega, by go_num, HXA, HBk⟩
                    case measure => simp [intOf]; omega
                  · have g3 : (((j : Nat) : Int) != (l : Int)) = true := by simp; omega
                    have g4 : (j != l) = true := by simpa using hl2
                    have g5 : KX = KS := HO2.out (by omega)
                    subst g5
                    clear he hl2 HO2
                    go_wp2_with fail
                    go_roundw
                    case rel => exact ⟨j + 1, by omega, by go_num, HXA, HBk⟩
                    case measure => simp [intOf]; omega
                · have g1 : (((i : Nat) : Int) != (o : Int)) = true := by simp; omega
                  have g2 : (i != o) = true := by simpa using he
                  have g5 : KX = KS := HO2.out (by omega)
                  subst g5
                  clear he HO2
                  go_wp2_with fail
                  go_roundw
                  case rel => exact ⟨j + 1, by omega, by go_num, HXA, HBk⟩
                  case measure => simp [intOf]; omega
              · clear hpk hsk
                go_wp2_with fail
                go_roundw
                case rel => exact ⟨i + 1, by omega, by go_num, HXA, HBk⟩
                case measure => simp [intOf]; omega
          · clear hpk hsk
            have hin : i = s.os.n := by omega
            go_wp2_with fail
            refine (allocBegun_any wr).mono ?_
            rintro e wb ⟨rfl, hBb⟩
            have hBb := HBk.out.trans (hBb.mono HBk.out.size)
            clear l1 d0 d1 l2 c0 c1 c2 c3 c4 c5 c6 hBw
            rcases HZ.out with h0 | ⟨h0, h1⟩
            · subst h0
              go_wp2_with fail
              go_ret
              exact ⟨by simp, (HC.out wb hBb).2.2.2⟩
            · have g1 : (L == 0) = false := by simpa using h0
              subst h1
              go_wp2_with fail
              go_ret
              exact ⟨by simp, (HC.out wb hBb).2.2.2⟩
  · have g0 : (allocE p s order line n (-1) != 0) = true := by simpa using hE
    clear xat K1 HXOK hE
    simp only [St.val]
    generalize allocE p s order line n (-1) = EE at *
    generalize allocL p s order line n (-1) = LL at *
    go_wp2_with fail
    rw [HW.out]
    refine (allocBegun_any W2).mono ?_
    rintro e w3 ⟨rfl, hB3⟩
    have hB3 := hB2.trans (hB3.mono hB2.size)
    go_wp2_with fail
    go_ret
    exact ⟨rfl, (HC.out w3 hB3).2.2.2⟩
end Go.Proofs.Ytbcacebifpagpac
namespace Go.Proofs.Ytbcacebifpagpac
open Go.ChangeShapes Go.WideShapes Go.ChangeAt Go.RowKit Go.Joins Go.Deep
set_option linter.unusedVariables false
set_option maxRecDepth 100000
theorem own : ownKnob Try.prog.godebug = none := by kernel_rfl
theorem laidOut : laidOutB Try.prog = true := by kernel_rfl
theorem cellsInt : Try.prog.cellsOf 3 = 1 := by kernel_rfl
theorem cellsInts : Try.prog.cellsOf 23 = 1 := by kernel_rfl
theorem cellsBin : Try.prog.cellsOf 42 = 4 := by kernel_rfl
theorem cellsPlan : Try.prog.cellsOf 25 = 2 := by kernel_rfl
theorem cellsBool : Try.prog.cellsOf 4 = 1 := by kernel_rfl
section
variable {H : Type} {enc : TypeId × Value → H} {w : World} {held : Bool} {spare : Nat → Bool}
theorem addrOf {a : Addr} {i : Nat} {v : Value} (h : w.cell? (a.add i) = some v) (h0 : ∃ v0, w.cell? a = some v0) : ∃ b o, a = ⟨b, o, none⟩ ∧ b < w.heap.size ∧ w.cell? ⟨b, o + i, none⟩ = some v := by
  obtain ⟨b, off, spot⟩ := a
  obtain ⟨v0, h0⟩ := h0
  have hspot : spot = none := World.cell?_spot h0
  subst hspot
  refine ⟨b, off, rfl, World.block_lt_of_cell? w _ h0, ?_⟩
  rw [← Go.WideShapes.add_plain]
  exact h
theorem readInts {fuel : Nat} {cs : List Value} {x : DataW H × List MemPlace} (h : DataW.trod enc Try.prog w 0 spare held fuel 23 cs = some x) : ∃ r : Rw, cs = [r.val] ∧ r.At w := by
  rcases open_slice1 Try.underlying23 cellsInt h with ⟨rfl, _⟩ | ⟨a, len, cap, m, n, V, D, Pl, rfl, hb, hl, hm, hmm, _, hx⟩
  · exact ⟨⟨none, 0, 0, fun _ => 0⟩, rfl, Nat.le_refl _, Nat.zero_le _, fun i hi => absurd hi (Nat.not_lt_zero _)⟩
  · have hlm : len ≤ m := by rw [hmm]; split <;> omega
    obtain ⟨z, hz⟩ := choose_lt (α := Int) (n := len) (p := fun i y => V i = .int .i64 y) (fun i hi => by
      obtain ⟨y, hy, _⟩ := DataW.trod_int Try.underlying3 (hx i (by omega)).2
      simp only [List.cons.injEq, and_true] at hy
      exact ⟨y, hy⟩)
    refine ⟨⟨some a, len, cap, z⟩, rfl, hl, hm, fun i hi => ?_⟩
    have hi' : i < len := hi
    have h0 : ∃ v0, w.cell? a = some v0 := ⟨_, by have := (hx 0 (by omega)).1; simpa [Addr.add] using this⟩
    obtain ⟨b, o, rfl, hb', hc⟩ := addrOf (hx i (by omega)).1 h0
    exact ⟨b, o, rfl, hb', by rw [hc, hz i hi']⟩
theorem readRows {fuel : Nat} {cs : List Value} {x : DataW H × List MemPlace} (h : DataW.trod enc Try.prog w 0 spare held fuel 26 cs = some x) : ∃ s : Sh, cs = [s.val] ∧ s.At w := by
  rcases open_slice1 Try.underlying26 cellsInts h with ⟨rfl, _⟩ | ⟨a, len, cap, m, n, V, D, Pl, rfl, hb, hl, hm, hmm, _, hx⟩
  · exact ⟨⟨none, 0, 0, fun _ => ⟨none, 0, 0, fun _ => 0⟩⟩, rfl, Nat.le_refl _, Nat.zero_le _, fun i hi => absurd hi (Nat.not_lt_zero _)⟩
  · have hlm : len ≤ m := by rw [hmm]; split <;> omega
    haveI : Inhabited Rw := ⟨⟨none, 0, 0, fun _ => 0⟩⟩
    obtain ⟨z, hz⟩ := choose_lt (α := Rw) (n := len) (p := fun i y => V i = y.val ∧ y.At w) (fun i hi => by
      obtain ⟨y, hy, hat⟩ := readInts (hx i (by omega)).2
      simp only [List.cons.injEq, and_true] at hy
      exact ⟨y, hy, hat⟩)
    refine ⟨⟨some a, len, cap, z⟩, rfl, hl, hm, fun i hi => ?_⟩
    have hi' : i < len := hi
    have h0 : ∃ v0, w.cell? a = some v0 := ⟨_, by have := (hx 0 (by omega)).1; simpa [Addr.add] using this⟩
    obtain ⟨b, o, rfl, hb', hc⟩ := addrOf (hx i (by omega)).1 h0
    exact ⟨b, o, rfl, hb', by rw [hc, (hz i hi').1]; rfl, (hz i hi').2⟩
theorem readBin {fuel : Nat} {c0 c1 c2 c3 : Value} {x : DataW H × List MemPlace} (h : DataW.trod enc Try.prog w 0 spare held fuel 42 [c0, c1, c2, c3] = some x) : ∃ y : Bin, c0 = .bool y.front ∧ c1 = .int .i64 y.room ∧ c2 = .int .i64 y.low ∧ c3 = .int .i64 y.high := by
  obtain ⟨y0, y1, y2, y3, n, hx, hl, h0, h1, h2, h3⟩ := trod_struct4 Try.underlying42 h
  simp only [cellsBool, cellsInt, List.drop_succ_cons, List.drop_zero, List.take_succ_cons, List.take_zero] at h0 h1 h2 h3
  obtain ⟨b, e0, _⟩ := DataW.trod_bool Try.underlying4 h0
  obtain ⟨n1, e1, _⟩ := DataW.trod_int Try.underlying3 h1
  obtain ⟨n2, e2, _⟩ := DataW.trod_int Try.underlying3 h2
  obtain ⟨n3, e3, _⟩ := DataW.trod_int Try.underlying3 h3
  simp only [List.cons.injEq, and_true] at e0 e1 e2 e3
  exact ⟨⟨b, n1, n2, n3⟩, e0, e1, e2, e3⟩
theorem cells4 {base : Nat} {a : Addr} {cs : List Value} (h : w.cells? base a 4 = some cs) : ∃ c0 c1 c2 c3, cs = [c0, c1, c2, c3] ∧ w.cell? a = some c0 ∧ w.cell? (a.add 1) = some c1 ∧ w.cell? (a.add 2) = some c2 ∧ w.cell? (a.add 3) = some c3 := by
  obtain ⟨_, hlen, hc⟩ := World.cells?_some h
  match cs, hlen with
  | [c0, c1, c2, c3], _ =>
    refine ⟨c0, c1, c2, c3, rfl, ?_, ?_, ?_, ?_⟩
    · simpa [Addr.add] using hc 0 (by decide)
    · simpa using hc 1 (by decide)
    · simpa using hc 2 (by decide)
    · simpa using hc 3 (by decide)
theorem readBins {fuel : Nat} {cs : List Value} {x : DataW H × List MemPlace} (h : DataW.trod enc Try.prog w 0 spare held fuel 22 cs = some x) : ∃ a n c z, cs = [.slice a n c] ∧ n ≤ c ∧ c ≤ maxLen ∧ BinsAt w a n z := by
  rcases open_slice Try.underlying22 h with ⟨rfl, _⟩ | ⟨a, len, cap, m, n, D, Pl, rfl, hb, hl, hm, hmm, _, hx⟩
  · exact ⟨none, 0, 0, fun _ => ⟨false, 0, 0, 0⟩, rfl, Nat.le_refl _, Nat.zero_le _, fun i hi => absurd hi (Nat.not_lt_zero _)⟩
  · have hlm : len ≤ m := by rw [hmm]; split <;> omega
    rw [cellsBin] at hx
    haveI : Inhabited Bin := ⟨⟨false, 0, 0, 0⟩⟩
    obtain ⟨z, hz⟩ := choose_lt (α := Bin) (n := len) (p := fun i y => w.cell? (a.add (i * 4)) = some (.bool y.front) ∧ w.cell? (a.add (i * 4 + 1)) = some (.int .i64 y.room) ∧ w.cell? (a.add (i * 4 + 2)) = some (.int .i64 y.low) ∧ w.cell? (a.add (i * 4 + 3)) = some (.int .i64 y.high)) (fun i hi => by
      obtain ⟨cs', hc, ht⟩ := hx i (by omega)
      obtain ⟨c0, c1, c2, c3, rfl, k0, k1, k2, k3⟩ := cells4 hc
      obtain ⟨y, rfl, rfl, rfl, rfl⟩ := readBin ht
      rw [add_add] at k1 k2 k3
      exact ⟨y, k0, k1, k2, k3⟩)
    refine ⟨some a, len, cap, z, rfl, hl, hm, fun i hi => ?_⟩
    have h0 : ∃ v0, w.cell? a = some v0 := ⟨_, by have := (hz 0 (by omega)).1; simpa [Addr.add] using this⟩
    obtain ⟨k0, k1, k2, k3⟩ := hz i hi
    obtain ⟨b, o, rfl, hb', e0⟩ := addrOf k0 h0
    rw [Go.WideShapes.add_plain] at k1 k2 k3
    exact ⟨b, o, rfl, hb', e0, by rw [Nat.add_assoc]; exact k1, by rw [Nat.add_assoc]; exact k2, by rw [Nat.add_assoc]; exact k3⟩
theorem openPlan {r : Reach} {b0 : Nat} {v : Value} {d : DataW H} {ps : List MemPlace} (hv : Value.okWide Try.prog w r b0 25 v) (h : DataW.Trod enc Try.prog w 0 spare held 25 v d ps) : ∃ p : Pl, v = p.val ∧ p.At w := by
  obtain ⟨c0, c1, y0, y1, m, rfl, rfl, rfl, hy0, hy1⟩ := open_agg2 Try.underlying25 (by kernel_rfl) cellsPlan hv h
  obtain ⟨a, n, c, z, e0, h1, h2, h3⟩ := readBins hy0
  obtain ⟨rr, e1, hr⟩ := readInts hy1
  simp only [List.cons.injEq, and_true] at e0 e1
  subst e0 e1
  exact ⟨⟨a, n, c, z, rr.a, rr.n, rr.c, rr.z⟩, rfl, h1, h2, h3, hr.le, hr.cap, hr.ints⟩
end
end Go.Proofs.Ytbcacebifpagpac
namespace Go.Proofs.Ytbcacebifpagpac
open Go.ChangeShapes Go.WideShapes Go.ChangeAt Go.RowKit Go.Joins Go.Deep
set_option linter.unusedVariables false
set_option maxRecDepth 100000
namespace HoldsFrames
theorem own : ownKnob Try.prog.godebug = none := by kernel_rfl
theorem laidOut : laidOutB Try.prog = true := by kernel_rfl
theorem cellsInt : Try.prog.cellsOf 3 = 1 := by kernel_rfl
theorem cellsHold : Try.prog.cellsOf 65 = 4 := by kernel_rfl
section
variable {H : Type} {enc : TypeId × Value → H} {w : World} {held : Bool} {spare : Nat → Bool}
theorem addrOf {a : Addr} {i : Nat} {v : Value} (h : w.cell? (a.add i) = some v) (h0 : ∃ v0, w.cell? a = some v0) : ∃ b o, a = ⟨b, o, none⟩ ∧ b < w.heap.size ∧ w.cell? ⟨b, o + i, none⟩ = some v := by
  obtain ⟨b, off, spot⟩ := a
  obtain ⟨v0, h0⟩ := h0
  have hspot : spot = none := World.cell?_spot h0
  subst hspot
  refine ⟨b, off, rfl, World.block_lt_of_cell? w _ h0, ?_⟩
  rw [← Go.WideShapes.add_plain]
  exact h
theorem cells4 {base : Nat} {a : Addr} {cs : List Value} (h : w.cells? base a 4 = some cs) : ∃ c0 c1 c2 c3, cs = [c0, c1, c2, c3] ∧ w.cell? a = some c0 ∧ w.cell? (a.add 1) = some c1 ∧ w.cell? (a.add 2) = some c2 ∧ w.cell? (a.add 3) = some c3 := by
  obtain ⟨_, hlen, hc⟩ := World.cells?_some h
  match cs, hlen with
  | [c0, c1, c2, c3], _ =>
    refine ⟨c0, c1, c2, c3, rfl, ?_, ?_, ?_, ?_⟩
    · simpa [Addr.add] using hc 0 (by decide)
    · simpa using hc 1 (by decide)
    · simpa using hc 2 (by decide)
    · simpa using hc 3 (by decide)
theorem readHold {fuel : Nat} {c0 c1 c2 c3 : Value} {x : DataW H × List MemPlace} (h : DataW.trod enc Try.prog w 0 spare held fuel 65 [c0, c1, c2, c3] = some x) : ∃ y : Hd, c0 = .int .i64 y.o ∧ c1 = .int .i64 y.l ∧ c2 = .int .i64 y.b ∧ c3 = .int .i64 y.n := by
  obtain ⟨y0, y1, y2, y3, n, hx, hl, h0, h1, h2, h3⟩ := trod_struct4 Try.underlying65 h
  simp only [cellsInt, List.drop_succ_cons, List.drop_zero, List.take_succ_cons, List.take_zero] at h0 h1 h2 h3
  obtain ⟨n0, e0, _⟩ := DataW.trod_int Try.underlying3 h0
  obtain ⟨n1, e1, _⟩ := DataW.trod_int Try.underlying3 h1
  obtain ⟨n2, e2, _⟩ := DataW.trod_int Try.underlying3 h2
  obtain ⟨n3, e3, _⟩ := DataW.trod_int Try.underlying3 h3
  simp only [List.cons.injEq, and_true] at e0 e1 e2 e3
  exact ⟨⟨n0, n1, n2, n3⟩, e0, e1, e2, e3⟩
theorem readHolds {fuel : Nat} {cs : List Value} {x : DataW H × List MemPlace} (h : DataW.trod enc Try.prog w 0 spare held fuel 28 cs = some x) : ∃ s : Hs, cs = [s.val] ∧ s.At w := by
  rcases open_slice Try.underlying28 h with ⟨rfl, _⟩ | ⟨a, len, cap, m, n, D, Pl, rfl, hb, hl, hm, hmm, _, hx⟩
  · exact ⟨⟨none, 0, 0, fun _ => ⟨0, 0, 0, 0⟩⟩, rfl, Nat.le_refl _, Nat.zero_le _, fun i hi => absurd hi (Nat.not_lt_zero _), fun _ => rfl⟩
  · have hlm : len ≤ m := by rw [hmm]; split <;> omega
    rw [cellsHold] at hx
    haveI : Inhabited Hd := ⟨⟨0, 0, 0, 0⟩⟩
    obtain ⟨z, hz⟩ := choose_lt (α := Hd) (n := len) (p := fun i y => w.cell? (a.add (i * 4)) = some (.int .i64 y.o) ∧ w.cell? (a.add (i * 4 + 1)) = some (.int .i64 y.l) ∧ w.cell? (a.add (i * 4 + 2)) = some (.int .i64 y.b) ∧ w.cell? (a.add (i * 4 + 3)) = some (.int .i64 y.n)) (fun i hi => by
      obtain ⟨cs', hc, ht⟩ := hx i (by omega)
      obtain ⟨c0, c1, c2, c3, rfl, k0, k1, k2, k3⟩ := cells4 hc
      obtain ⟨y, rfl, rfl, rfl, rfl⟩ := readHold ht
      rw [add_add] at k1 k2 k3
      exact ⟨y, k0, k1, k2, k3⟩)
    refine ⟨⟨some a, len, cap, z⟩, rfl, hl, hm, fun i hi => ?_, fun h => by cases h⟩
    have hi' : i < len := hi
    have h0 : ∃ v0, w.cell? a = some v0 := ⟨_, by have := (hz 0 (by omega)).1; simpa [Addr.add] using this⟩
    obtain ⟨k0, k1, k2, k3⟩ := hz i hi'
    obtain ⟨b, o, rfl, hb', e0⟩ := addrOf k0 h0
    rw [Go.WideShapes.add_plain] at k1 k2 k3
    exact ⟨b, o, rfl, hb', e0, by rw [Nat.add_assoc]; exact k1, by rw [Nat.add_assoc]; exact k2, by rw [Nat.add_assoc]; exact k3⟩
end
end HoldsFrames
end Go.Proofs.Ytbcacebifpagpac
namespace Go.Proofs.Ytbcacebifpagpac
open Go.ChangeShapes Go.WideShapes Go.ChangeAt Go.RowKit Go.Joins Go.Deep
set_option linter.unusedVariables false
set_option maxRecDepth 100000
theorem cellsLine : Try.prog.cellsOf 53 = 4 := by kernel_rfl
theorem cellsMove : Try.prog.cellsOf 70 = 4 := by kernel_rfl
theorem cellsOrder : Try.prog.cellsOf 51 = 2 := by kernel_rfl
theorem cellsState : Try.prog.cellsOf 31 = 7 := by kernel_rfl
theorem cellsLines : Try.prog.cellsOf 49 = 1 := by kernel_rfl
theorem cellsMoves : Try.prog.cellsOf 29 = 1 := by kernel_rfl
theorem cellsOrders : Try.prog.cellsOf 27 = 1 := by kernel_rfl
theorem cellsHolds : Try.prog.cellsOf 28 = 1 := by kernel_rfl
theorem cellsRows : Try.prog.cellsOf 26 = 1 := by kernel_rfl
section
variable {H : Type} {enc : TypeId × Value → H} {w : World} {held : Bool} {spare : Nat → Bool}
theorem readLine {fuel : Nat} {c0 c1 c2 c3 : Value} {x : DataW H × List MemPlace} (h : DataW.trod enc Try.prog w 0 spare held fuel 53 [c0, c1, c2, c3] = some x) : ∃ y : Hd, c0 = .int .i64 y.o ∧ c1 = .int .i64 y.l ∧ c2 = .int .i64 y.b ∧ c3 = .int .i64 y.n := by
  obtain ⟨y0, y1, y2, y3, n, hx, hl, h0, h1, h2, h3⟩ := trod_struct4 Try.underlying53 h
  simp only [cellsInt, List.drop_succ_cons, List.drop_zero, List.take_succ_cons, List.take_zero] at h0 h1 h2 h3
  obtain ⟨n0, e0, _⟩ := DataW.trod_int Try.underlying3 h0
  obtain ⟨n1, e1, _⟩ := DataW.trod_int Try.underlying3 h1
  obtain ⟨n2, e2, _⟩ := DataW.trod_int Try.underlying3 h2
  obtain ⟨n3, e3, _⟩ := DataW.trod_int Try.underlying3 h3
  simp only [List.cons.injEq, and_true] at e0 e1 e2 e3
  exact ⟨⟨n0, n1, n2, n3⟩, e0, e1, e2, e3⟩
theorem readLines {fuel : Nat} {cs : List Value} {x : DataW H × List MemPlace} (h : DataW.trod enc Try.prog w 0 spare held fuel 49 cs = some x) : ∃ s : Hs, cs = [s.val] ∧ s.At w := by
  rcases open_slice Try.underlying49 h with ⟨rfl, _⟩ | ⟨a, len, cap, m, n, D, Pl, rfl, hb, hl, hm, hmm, _, hx⟩
  · exact ⟨⟨none, 0, 0, fun _ => ⟨0, 0, 0, 0⟩⟩, rfl, Nat.le_refl _, Nat.zero_le _, fun i hi => absurd hi (Nat.not_lt_zero _), fun _ => rfl⟩
  · have hlm : len ≤ m := by rw [hmm]; split <;> omega
    rw [cellsLine] at hx
    haveI : Inhabited Hd := ⟨⟨0, 0, 0, 0⟩⟩
    obtain ⟨z, hz⟩ := choose_lt (α := Hd) (n := len) (p := fun i y => w.cell? (a.add (i * 4)) = some (.int .i64 y.o) ∧ w.cell? (a.add (i * 4 + 1)) = some (.int .i64 y.l) ∧ w.cell? (a.add (i * 4 + 2)) = some (.int .i64 y.b) ∧ w.cell? (a.add (i * 4 + 3)) = some (.int .i64 y.n)) (fun i hi => by
      obtain ⟨cs', hc, ht⟩ := hx i (by omega)
      obtain ⟨c0, c1, c2, c3, rfl, k0, k1, k2, k3⟩ := cells4 hc
      obtain ⟨y, rfl, rfl, rfl, rfl⟩ := readLine ht
      rw [add_add] at k1 k2 k3
      exact ⟨y, k0, k1, k2, k3⟩)
    refine ⟨⟨some a, len, cap, z⟩, rfl, hl, hm, fun i hi => ?_, fun h => by cases h⟩
    have hi' : i < len := hi
    have h0 : ∃ v0, w.cell? a = some v0 := ⟨_, by have := (hz 0 (by omega)).1; simpa [Addr.add] using this⟩
    obtain ⟨k0, k1, k2, k3⟩ := hz i hi'
    obtain ⟨b, o, rfl, hb', e0⟩ := addrOf k0 h0
    rw [Go.WideShapes.add_plain] at k1 k2 k3
    exact ⟨b, o, rfl, hb', e0, by rw [Nat.add_assoc]; exact k1, by rw [Nat.add_assoc]; exact k2, by rw [Nat.add_assoc]; exact k3⟩
theorem readMove {fuel : Nat} {c0 c1 c2 c3 : Value} {x : DataW H × List MemPlace} (h : DataW.trod enc Try.prog w 0 spare held fuel 70 [c0, c1, c2, c3] = some x) : ∃ y : Hd, c0 = .int .i64 y.o ∧ c1 = .int .i64 y.l ∧ c2 = .int .i64 y.b ∧ c3 = .int .i64 y.n := by
  obtain ⟨y0, y1, y2, y3, n, hx, hl, h0, h1, h2, h3⟩ := trod_struct4 Try.underlying70 h
  simp only [cellsInt, List.drop_succ_cons, List.drop_zero, List.take_succ_cons, List.take_zero] at h0 h1 h2 h3
  obtain ⟨n0, e0, _⟩ := DataW.trod_int Try.underlying3 h0
  obtain ⟨n1, e1, _⟩ := DataW.trod_int Try.underlying3 h1
  obtain ⟨n2, e2, _⟩ := DataW.trod_int Try.underlying3 h2
  obtain ⟨n3, e3, _⟩ := DataW.trod_int Try.underlying3 h3
  simp only [List.cons.injEq, and_true] at e0 e1 e2 e3
  exact ⟨⟨n0, n1, n2, n3⟩, e0, e1, e2, e3⟩
theorem readMoves {fuel : Nat} {cs : List Value} {x : DataW H × List MemPlace} (h : DataW.trod enc Try.prog w 0 spare held fuel 29 cs = some x) : ∃ s : Hs, cs = [s.val] ∧ s.At w := by
  rcases open_slice Try.underlying29 h with ⟨rfl, _⟩ | ⟨a, len, cap, m, n, D, Pl, rfl, hb, hl, hm, hmm, _, hx⟩
  · exact ⟨⟨none, 0, 0, fun _ => ⟨0, 0, 0, 0⟩⟩, rfl, Nat.le_refl _, Nat.zero_le _, fun i hi => absurd hi (Nat.not_lt_zero _), fun _ => rfl⟩
  · have hlm : len ≤ m := by rw [hmm]; split <;> omega
    rw [cellsMove] at hx
    haveI : Inhabited Hd := ⟨⟨0, 0, 0, 0⟩⟩
    obtain ⟨z, hz⟩ := choose_lt (α := Hd) (n := len) (p := fun i y => w.cell? (a.add (i * 4)) = some (.int .i64 y.o) ∧ w.cell? (a.add (i * 4 + 1)) = some (.int .i64 y.l) ∧ w.cell? (a.add (i * 4 + 2)) = some (.int .i64 y.b) ∧ w.cell? (a.add (i * 4 + 3)) = some (.int .i64 y.n)) (fun i hi => by
      obtain ⟨cs', hc, ht⟩ := hx i (by omega)
      obtain ⟨c0, c1, c2, c3, rfl, k0, k1, k2, k3⟩ := cells4 hc
      obtain ⟨y, rfl, rfl, rfl, rfl⟩ := readMove ht
      rw [add_add] at k1 k2 k3
      exact ⟨y, k0, k1, k2, k3⟩)
    refine ⟨⟨some a, len, cap, z⟩, rfl, hl, hm, fun i hi => ?_, fun h => by cases h⟩
    have hi' : i < len := hi
    have h0 : ∃ v0, w.cell? a = some v0 := ⟨_, by have := (hz 0 (by omega)).1; simpa [Addr.add] using this⟩
    obtain ⟨k0, k1, k2, k3⟩ := hz i hi'
    obtain ⟨b, o, rfl, hb', e0⟩ := addrOf k0 h0
    rw [Go.WideShapes.add_plain] at k1 k2 k3
    exact ⟨b, o, rfl, hb', e0, by rw [Nat.add_assoc]; exact k1, by rw [Nat.add_assoc]; exact k2, by rw [Nat.add_assoc]; exact k3⟩
theorem cells2 {base : Nat} {a : Addr} {cs : List Value} (h : w.cells? base a 2 = some cs) : ∃ c0 c1, cs = [c0, c1] ∧ w.cell? a = some c0 ∧ w.cell? (a.add 1) = some c1 := by
  obtain ⟨_, hlen, hc⟩ := World.cells?_some h
  match cs, hlen with
  | [c0, c1], _ =>
    refine ⟨c0, c1, rfl, ?_, ?_⟩
    · simpa [Addr.add] using hc 0 (by decide)
    · simpa using hc 1 (by decide)
theorem readOrder {fuel : Nat} {c0 c1 : Value} {x : DataW H × List MemPlace} (h : DataW.trod enc Try.prog w 0 spare held fuel 51 [c0, c1] = some x) : ∃ y : Od, c0 = .int .i64 y.k ∧ c1 = .slice y.ls.a y.ls.n y.ls.c ∧ y.ls.At w := by
  obtain ⟨y0, y1, n, hx, hl, h0, h1⟩ := trod_struct2 Try.underlying51 h
  simp only [cellsInt, cellsLines, List.drop_succ_cons, List.drop_zero, List.take_succ_cons, List.take_zero] at h0 h1
  obtain ⟨n0, e0, _⟩ := DataW.trod_int Try.underlying3 h0
  obtain ⟨s, e1, hs⟩ := readLines h1
  simp only [List.cons.injEq, and_true] at e0 e1
  exact ⟨⟨n0, s⟩, e0, e1, hs⟩
theorem readOrders {fuel : Nat} {cs : List Value} {x : DataW H × List MemPlace} (h : DataW.trod enc Try.prog w 0 spare held fuel 27 cs = some x) : ∃ s : Go.Proofs.Ytbcacebifpagpac.Os, cs = [s.val] ∧ s.At w := by
  rcases open_slice Try.underlying27 h with ⟨rfl, _⟩ | ⟨a, len, cap, m, n, D, Pl, rfl, hb, hl, hm, hmm, _, hx⟩
  · exact ⟨⟨none, 0, 0, fun _ => ⟨0, ⟨none, 0, 0, fun _ => ⟨0, 0, 0, 0⟩⟩⟩⟩, rfl, Nat.le_refl _, Nat.zero_le _, fun i hi => absurd hi (Nat.not_lt_zero _)⟩
  · have hlm : len ≤ m := by rw [hmm]; split <;> omega
    rw [cellsOrder] at hx
    haveI : Inhabited Od := ⟨⟨0, ⟨none, 0, 0, fun _ => ⟨0, 0, 0, 0⟩⟩⟩⟩
    obtain ⟨z, hz⟩ := choose_lt (α := Od) (n := len) (p := fun i y => w.cell? (a.add (i * 2)) = some (.int .i64 y.k) ∧ w.cell? (a.add (i * 2 + 1)) = some (.slice y.ls.a y.ls.n y.ls.c) ∧ y.ls.At w) (fun i hi => by
      obtain ⟨cs', hc, ht⟩ := hx i (by omega)
      obtain ⟨c0, c1, rfl, k0, k1⟩ := cells2 hc
      obtain ⟨y, rfl, rfl, hy⟩ := readOrder ht
      rw [add_add] at k1
      exact ⟨y, k0, k1, hy⟩)
    refine ⟨⟨some a, len, cap, z⟩, rfl, hl, hm, fun i hi => ?_⟩
    have hi' : i < len := hi
    have h0 : ∃ v0, w.cell? a = some v0 := ⟨_, by have := (hz 0 (by omega)).1; simpa [Addr.add] using this⟩
    obtain ⟨k0, k1, hy⟩ := hz i hi'
    obtain ⟨b, o, rfl, hb', e0⟩ := addrOf k0 h0
    rw [Go.WideShapes.add_plain] at k1
    exact ⟨b, o, rfl, hb', e0, by rw [Nat.add_assoc]; exact k1, hy⟩
theorem array7 {α : Type} {cs : Array α} (h : cs.size = 7) : ∃ c0 c1 c2 c3 c4 c5 c6, cs = #[c0, c1, c2, c3, c4, c5, c6] := by
  obtain ⟨l⟩ := cs
  match l, h with
  | [c0, c1, c2, c3, c4, c5, c6], _ => exact ⟨c0, c1, c2, c3, c4, c5, c6, rfl⟩
theorem openState {r : Reach} {b0 : Nat} {v : Value} {d : DataW H} {ps : List MemPlace} (hv : Value.okWide Try.prog w r b0 31 v) (h : DataW.Trod enc Try.prog w 0 spare held 31 v d ps) : ∃ s : St, v = s.val ∧ s.At w := by
  obtain ⟨cs, rfl, hsz⟩ := okWide_struct Try.underlying31 hv
  obtain ⟨c0, c1, c2, c3, c4, c5, c6, rfl⟩ := array7 (hsz.trans cellsState)
  obtain ⟨fuel, hf⟩ := h
  obtain ⟨xs, n, _, hx, hl, hlen, hg⟩ := DataW.trod_struct Try.underlying31 hf
  match xs, hlen with
  | [y0, y1, y2, y3, y4, y5, y6], _ =>
    have k0 := hg 0 _ rfl
    have k1 := hg 1 _ rfl
    have k2 := hg 2 _ rfl
    have k3 := hg 3 _ rfl
    have k4 := hg 4 _ rfl
    have k5 := hg 5 _ rfl
    have k6 := hg 6 _ rfl
    simp [cellsRows, cellsOrders, cellsHolds, cellsMoves, cellsInts, Value.cells] at k0 k1 k2 k3 k4 k5 k6
    obtain ⟨on, e0, h0⟩ := readRows k0
    obtain ⟨os, e1, h1⟩ := readOrders k1
    obtain ⟨hs, e2, h2⟩ := HoldsFrames.readHolds k2
    obtain ⟨ms, e3, h3⟩ := readMoves k3
    obtain ⟨si, e4, h4⟩ := readInts k4
    obtain ⟨so, e5, h5⟩ := readInts k5
    obtain ⟨sf, e6, h6⟩ := readInts k6
    simp only [List.cons.injEq, and_true] at e0 e1 e2 e3 e4 e5 e6
    subst e0 e1 e2 e3 e4 e5 e6
    exact ⟨⟨on, os, hs, ms, si, so, sf⟩, rfl, h0, h1, h2, h3, h4, h5, h6⟩
end
end Go.Proofs.Ytbcacebifpagpac

/- Texts that were built one behind the other, joined; what AllocTrue does not reach is left out. -/
import Derived.Test.YtbcacebifpagpacK2AllocTrue
import Derived.Test.YtbcacebifpagpacRows
import Derived.ProofKit
import Derived.OpenShut
import Derived.Lib.SmallJoins
import Derived.Deep.Slices
namespace Go.Proofs.Ytbcacebifpagpac
open Go.RowKit Go.Shelf Go.Sort
set_option linter.unusedVariables false
structure BusyC (w : World) (g : Nat) : Prop where
  b0 : Blk w (g) 3 2 (fun j => (#[.int .i64 9, .int .i64 0] : Array Value).getD j default)
  b1 : Blk w (g + 1) 3 2 (fun j => (#[.int .i64 3, .int .i64 0] : Array Value).getD j default)
  b2 : Blk w (g + 2) 3 2 (fun j => (#[.int .i64 0, .int .i64 6] : Array Value).getD j default)
  b3 : Blk w (g + 3) 23 3 (fun j => (#[.slice (some ⟨g, 0, none⟩) 2 2, .slice (some ⟨g + 1, 0, none⟩) 2 2, .slice (some ⟨g + 2, 0, none⟩) 2 2] : Array Value).getD j default)
  b4 : Blk w (g + 4) 53 8 (fun j => (#[.int .i64 0, .int .i64 6, .int .i64 1, .int .i64 2, .int .i64 1, .int .i64 9, .int .i64 0, .int .i64 3] : Array Value).getD j default)
  b5 : Blk w (g + 5) 53 4 (fun j => (#[.int .i64 0, .int .i64 4, .int .i64 0, .int .i64 0] : Array Value).getD j default)
  b6 : Blk w (g + 6) 51 4 (fun j => (#[.int .i64 1, .slice (some ⟨g + 4, 0, none⟩) 2 2, .int .i64 0, .slice (some ⟨g + 5, 0, none⟩) 1 1] : Array Value).getD j default)
  b7 : Blk w (g + 7) 65 12 (fun j => (#[.int .i64 0, .int .i64 0, .int .i64 0, .int .i64 2, .int .i64 0, .int .i64 0, .int .i64 1, .int .i64 3, .int .i64 0, .int .i64 1, .int .i64 2, .int .i64 6] : Array Value).getD j default)
  b8 : Blk w (g + 8) 70 4 (fun j => (#[.int .i64 0, .int .i64 0, .int .i64 1, .int .i64 5] : Array Value).getD j default)
  b9 : Blk w (g + 9) 3 2 (fun j => (#[.int .i64 13, .int .i64 6] : Array Value).getD j default)
  b10 : Blk w (g + 10) 3 2 (fun j => (#[.int .i64 1, .int .i64 0] : Array Value).getD j default)
  b11 : Blk w (g + 11) 3 2 (fun j => (#[.int .i64 0, .int .i64 0] : Array Value).getD j default)
theorem BusyC.below {w w' : World} {g : Nat} (h : BusyC w g) (hB : Below w.heap.size w w') : BusyC w' g := ⟨h.b0.below hB, h.b1.below hB, h.b2.below hB, h.b3.below hB, h.b4.below hB, h.b5.below hB, h.b6.below hB, h.b7.below hB, h.b8.below hB, h.b9.below hB, h.b10.below hB, h.b11.below hB⟩
def blC : Nat → Hd
  | 0 => ⟨0, 6, 1, 2⟩
  | _ => ⟨1, 9, 0, 3⟩
def bhC : Nat → Hd
  | 0 => ⟨0, 0, 1, 3⟩
  | _ => ⟨0, 1, 2, 6⟩
def bosC (g : Nat) : Nat → Od
  | 0 => ⟨1, ⟨some ⟨g + 4, 0, none⟩, 2, 2, blC⟩⟩
  | _ => ⟨0, ⟨some ⟨g + 5, 0, none⟩, 1, 1, fun _ => ⟨0, 4, 0, 0⟩⟩⟩
def busyC (g : Nat) : St := ⟨⟨some ⟨g + 3, 0, none⟩, 3, 3, bon g⟩, ⟨some ⟨g + 6, 0, none⟩, 2, 2, bosC g⟩, ⟨some ⟨g + 7, 4, none⟩, 2, 2, bhC⟩, ⟨some ⟨g + 8, 0, none⟩, 1, 1, fun _ => ⟨0, 0, 1, 5⟩⟩, ⟨some ⟨g + 9, 0, none⟩, 2, 2, bzi⟩, ⟨some ⟨g + 10, 0, none⟩, 2, 2, bzo⟩, ⟨some ⟨g + 11, 0, none⟩, 2, 2, fun _ => 0⟩⟩
theorem busyCAt {w : World} {g : Nat} (h : BusyC w g) : (busyC g).At w := by
  refine ⟨⟨Nat.le_refl _, le_max (n := 3) (by decide), fun i hi => ?_⟩, ⟨Nat.le_refl _, le_max (n := 2) (by decide), fun i hi => ?_⟩, ⟨Nat.le_refl _, le_max (n := 2) (by decide), fun i hi => ?_, fun e => by cases e⟩, ⟨Nat.le_refl _, le_max (n := 1) (by decide), fun i hi => ?_, fun e => by cases e⟩, two_at h.b9 rfl rfl, two_at h.b10 rfl rfl, two_at h.b11 rfl rfl⟩
  · have hi' : i < 3 := hi
    refine ⟨g + 3, 0, rfl, h.b3.lt, ?_⟩
    match i, hi' with
    | 0, _ => exact ⟨h.b3.cell (j := 0) (by decide), two_at h.b0 rfl rfl⟩
    | 1, _ => exact ⟨h.b3.cell (j := 1) (by decide), two_at h.b1 rfl rfl⟩
    | 2, _ => exact ⟨h.b3.cell (j := 2) (by decide), two_at h.b2 rfl rfl⟩
  · have hi' : i < 2 := hi
    refine ⟨g + 6, 0, rfl, h.b6.lt, ?_⟩
    match i, hi' with
    | 0, _ =>
      refine ⟨h.b6.cell (j := 0) (by decide), h.b6.cell (j := 1) (by decide), Nat.le_refl _, le_max (n := 2) (by decide), fun j hj => ?_, fun e => by cases e⟩
      have hj' : j < 2 := hj
      refine ⟨g + 4, 0, rfl, h.b4.lt, ?_⟩
      match j, hj' with
      | 0, _ => exact ⟨h.b4.cell (j := 0) (by decide), h.b4.cell (j := 1) (by decide), h.b4.cell (j := 2) (by decide), h.b4.cell (j := 3) (by decide)⟩
      | 1, _ => exact ⟨h.b4.cell (j := 4) (by decide), h.b4.cell (j := 5) (by decide), h.b4.cell (j := 6) (by decide), h.b4.cell (j := 7) (by decide)⟩
    | 1, _ =>
      refine ⟨h.b6.cell (j := 2) (by decide), h.b6.cell (j := 3) (by decide), Nat.le_refl _, le_max (n := 1) (by decide), fun j hj => ?_, fun e => by cases e⟩
      have hj' : j < 1 := hj
      refine ⟨g + 5, 0, rfl, h.b5.lt, ?_⟩
      match j, hj' with
      | 0, _ => exact ⟨h.b5.cell (j := 0) (by decide), h.b5.cell (j := 1) (by decide), h.b5.cell (j := 2) (by decide), h.b5.cell (j := 3) (by decide)⟩
  · have hi' : i < 2 := hi
    refine ⟨g + 7, 4, rfl, h.b7.lt, ?_⟩
    match i, hi' with
    | 0, _ => exact ⟨h.b7.cell (j := 4) (by decide), h.b7.cell (j := 5) (by decide), h.b7.cell (j := 6) (by decide), h.b7.cell (j := 7) (by decide)⟩
    | 1, _ => exact ⟨h.b7.cell (j := 8) (by decide), h.b7.cell (j := 9) (by decide), h.b7.cell (j := 10) (by decide), h.b7.cell (j := 11) (by decide)⟩
  · have hi' : i < 1 := hi
    refine ⟨g + 8, 0, rfl, h.b8.lt, ?_⟩
    match i, hi' with
    | 0, _ => exact ⟨h.b8.cell (j := 0) (by decide), h.b8.cell (j := 1) (by decide), h.b8.cell (j := 2) (by decide), h.b8.cell (j := 3) (by decide)⟩
theorem BusyB.toC {w : World} {g : Nat} (h : BusyB w g 2 0) : BusyC (w.setCell ⟨g + 4, 3, none⟩ (.int .i64 2)) g :=
  ⟨h.b0.other (by simp) _, h.b1.other (by simp) _, h.b2.other (by simp) _, h.b3.other (by simp) _, (h.b4.set 3 _).congr (fun j hj => by match j, hj with | 0, _ => rfl | 1, _ => rfl | 2, _ => rfl | 3, _ => rfl | 4, _ => rfl | 5, _ => rfl | 6, _ => rfl | 7, _ => rfl), h.b5.other (by simp) _, h.b6.other (by simp) _, h.b7.other (by simp) _, h.b8.other (by simp) _, h.b9.other (by simp) _, h.b10.other (by simp) _, h.b11.other (by simp) _⟩
theorem busyC1 (g1 g2 g : Nat) : allocE (yardP g1 g2) (busyC g) 0 0 2 (-1) = 0 ∧ allocL (yardP g1 g2) (busyC g) 0 0 2 (-1) = 0 := ⟨by rfl, by rfl⟩
theorem busyC2 (g1 g2 g : Nat) : allocE (yardP g1 g2) (busyC g) 0 0 2 0 = 0 ∧ allocL (yardP g1 g2) (busyC g) 0 0 2 0 = 2 := ⟨by rfl, by rfl⟩
theorem busyC3 (g1 g2 g : Nat) : allocE (yardP g1 g2) (busyC g) 1 0 0 (-1) = 6 ∧ allocL (yardP g1 g2) (busyC g) 1 0 0 (-1) = 0 := ⟨by rfl, by rfl⟩
theorem busyC_tk (g1 g2 g : Nat) : tkOf (yardP g1 g2) (busyC g) (lineAt (busyC g) 0 0).o 2 (-1) = ⟨0, fun x => 0 + (if x = 1 then 0 else 0) + (if x = 0 then 2 else 0) + (if x = 2 then 0 else 0)⟩ := by rfl
theorem busyC_kept (a b c : Int) : keptV 3 (bhs 2) a b c = keptV 2 bhC a b c + if a = 0 ∧ b = 0 then (0 + (if c = 1 then 0 else 0) + (if c = 0 then 2 else 0) + (if c = 2 then 0 else 0) : Int) else 0 := by
  have e3 : List.range 3 = [0, 1, 2] := rfl
  have e2 : List.range 2 = [0, 1] := rfl
  unfold keptV
  rw [e3, e2]
  simp only [List.find?_cons, List.find?_nil, matchH, bhs, bhC]
  by_cases ha : a = 0
  · subst ha
    by_cases hb : b = 0
    · subst hb
      by_cases hc0 : c = 0
      · subst hc0; rfl
      · by_cases hc1 : c = 1
        · subst hc1; rfl
        · have h0 : ((0 : Int) == c) = false := by simpa using fun e : (0 : Int) = c => hc0 e.symm
          have h1 : ((1 : Int) == c) = false := by simpa using fun e : (1 : Int) = c => hc1 e.symm
          simp [h0, h1, hc0, hc1]
    · have h0 : ((0 : Int) == b) = false := by simpa using fun e : (0 : Int) = b => hb e.symm
      cases h1 : ((1 : Int) == b && (2 : Int) == c) <;> simp [h0, hb, h1]
  · have h0 : ((0 : Int) == a) = false := by simpa using fun e : (0 : Int) = a => ha e.symm
    simp [h0, ha]
theorem busyC_back {g1 g2 g g' : Nat} {x : St} (h : Took (busyC g) 0 0 2 (tkOf (yardP g1 g2) (busyC g) (lineAt (busyC g) 0 0).o 2 (-1)) x) : SameT x (busyS g' 2 0) := by
  rw [busyC_tk] at h
  refine (h.same (y := busyS g' 2 0) ⟨⟨rfl, fun i hi => ?_⟩, ⟨rfl, fun i hi => ?_⟩, by rfl, fun a b c => busyC_kept a b c, ⟨rfl, fun j hj => rfl⟩, ⟨rfl, fun j hj => rfl⟩, ⟨rfl, fun j hj => rfl⟩, ⟨rfl, fun j hj => rfl⟩⟩)
  · have hi' : i < 3 := hi
    match i, hi' with
    | 0, _ => exact ⟨rfl, fun _ _ => rfl⟩
    | 1, _ => exact ⟨rfl, fun _ _ => rfl⟩
    | 2, _ => exact ⟨rfl, fun _ _ => rfl⟩
  · have hi' : i < 2 := hi
    match i, hi' with
    | 0, _ =>
      refine ⟨rfl, rfl, fun j hj => ?_⟩
      have hj' : j < 2 := hj
      match j, hj' with
      | 0, _ => rfl
      | 1, _ => rfl
    | 1, _ =>
      refine ⟨rfl, rfl, fun j hj => ?_⟩
      have hj' : j < 1 := hj
      match j, hj' with
      | 0, _ => rfl
structure CallI (R : St → World → Prop) (L E : Int) (W : World) (dn : Nat → Bool) (V : Nat → Value) (w : World) : Prop where
  bel : Below W.heap.size W w
  c3 : dn 3 = true → dn 2 = true
  c4 : dn 4 = true → dn 2 = true
  c8 : dn 8 = true → dn 2 = true ∧ dn 7 = true
  yd : dn 0 = true → ∃ g1 g2, V 0 = (yardP g1 g2).val ∧ Blk w g1 42 12 yardF ∧ Blk w g2 3 2 yardG
  box : dn 7 = true → ∃ B, V 7 = .pointer (some ⟨B, 0, none⟩) ∧ W.heap.size ≤ B ∧ ∃ f, Blk w B 31 7 f
  got : dn 2 = true → ∃ x, R x w ∧ V 2 = .tuple #[.agg #[.slice x.on.a x.on.n x.on.c, .slice x.os.a x.os.n x.os.c, .slice x.hs.a x.hs.n x.hs.c, .slice x.ms.a x.ms.n x.ms.c, .slice x.si.a x.si.n x.si.c, .slice x.so.a x.so.n x.so.c, .slice x.sf.a x.sf.n x.sf.c], .int .i64 L, .int .i64 E] ∧ (dn 3 = true → V 3 = .tuple #[.agg #[.slice x.on.a x.on.n x.on.c, .slice x.os.a x.os.n x.os.c, .slice x.hs.a x.hs.n x.hs.c, .slice x.ms.a x.ms.n x.ms.c, .slice x.si.a x.si.n x.si.c, .slice x.so.a x.so.n x.so.c, .slice x.sf.a x.sf.n x.sf.c], .int .i64 L, .int .i64 E]) ∧ (dn 4 = true → V 4 = .agg #[.slice x.on.a x.on.n x.on.c, .slice x.os.a x.os.n x.os.c, .slice x.hs.a x.hs.n x.hs.c, .slice x.ms.a x.ms.n x.ms.c, .slice x.si.a x.si.n x.si.c, .slice x.so.a x.so.n x.so.c, .slice x.sf.a x.sf.n x.sf.c]) ∧ (dn 8 = true → ∀ B, V 7 = .pointer (some ⟨B, 0, none⟩) → Blk w B 31 7 (fun j => x.cells.getD j default))
  n5 : dn 5 = true → V 5 = .int .i64 L
  n6 : dn 6 = true → V 6 = .int .i64 E
  n9 : dn 9 = true → V 9 = .int .i64 L
  n10 : dn 10 = true → V 10 = .int .i64 E
set_option maxRecDepth 100000 in
set_option maxHeartbeats 8000000 in
theorem allocBegun_any (w : World) :
    Calls Try.prog 17 #[] w fun e w' => e = .returned (.bool true) ∧ Below w.heap.size w w' := by
  go_enter Try.func17, Try.ntmps17
  go_wp2_with fail
  refine (busy_any _).mono ?_
  rintro e w1 ⟨gx, rfl, hgt, bb, hB⟩
  simp only [busyS, St.val]
  have f4 := bb.b4.frozen 3
  have c4 := bb.b4.cell (j := 3) (by decide)
  have l4 := bb.b4.lt
  have c6 := bb.b6.cell (j := 1) (by decide)
  have l6 := bb.b6.lt
  obtain ⟨W1, hW, hWB, K1, bc⟩ : ∃ W, ((w1.setCell ⟨gx + 4, 3, none⟩ (.int .i64 2)).alloc (.cells #[.slice (some ⟨gx + 3, 0, none⟩) 3 3, .slice (some ⟨gx + 6, 0, none⟩) 2 2, .slice (some ⟨gx + 7, 4, none⟩) 2 2, .slice (some ⟨gx + 8, 0, none⟩) 1 1, .slice (some ⟨gx + 9, 0, none⟩) 2 2, .slice (some ⟨gx + 10, 0, none⟩) 2 2, .slice (some ⟨gx + 11, 0, none⟩) 2 2] 31)) = W ∧ Below w.heap.size w W ∧ Blk W w1.heap.size 31 7 (fun j => (busyC gx).cells.getD j default) ∧ BusyC W gx :=
    ⟨_, rfl, (hB.setCell (p := ⟨gx + 4, 3, none⟩) (by show w.heap.size ≤ gx + 4; omega) _).alloc (by simpa using hB.size) _, Blk.mk' (by simp) rfl, bb.toC.below ((Below.refl _ _).alloc (Nat.le_refl _) _)⟩
  have HW : Hid ((w1.setCell ⟨gx + 4, 3, none⟩ (.int .i64 2)).alloc (.cells #[.slice (some ⟨gx + 3, 0, none⟩) 3 3, .slice (some ⟨gx + 6, 0, none⟩) 2 2, .slice (some ⟨gx + 7, 4, none⟩) 2 2, .slice (some ⟨gx + 8, 0, none⟩) 1 1, .slice (some ⟨gx + 9, 0, none⟩) 2 2, .slice (some ⟨gx + 10, 0, none⟩) 2 2, .slice (some ⟨gx + 11, 0, none⟩) 2 2] 31) = W1) := hW
  have HXA : Hid (∀ wk, Below W1.heap.size W1 wk → (busyC gx).At wk) := fun wk h => busyCAt (bc.below h)
  have HK1 : Hid (∀ wk, Below W1.heap.size W1 wk → Blk wk w1.heap.size 31 7 (fun j => (busyC gx).cells.getD j default)) := fun wk h => K1.below h
  have HWB : Hid (Below w.heap.size w W1) := hWB
  clear hW bb hgt bc
  go_wp2_with fail
  rw [HW.out]
  clear f4 c4 l4 c6 l6 HW hB hWB
  generalize w1.heap.size = B1 at *
  clear w1
  have HB1 : Hid (Below W1.heap.size W1 W1) := Below.refl _ _
  have rs0 : ∀ d os, (grow (redrawn W1 d) os).cell? ⟨B1, 0, none⟩ = some (.slice (some ⟨gx + 3, 0, none⟩) 3 3) := fun d os => cell_regrown (K1.cell (j := 0) (by decide)) d os
  have rs1 : ∀ d os, (grow (redrawn W1 d) os).cell? ⟨B1, 1, none⟩ = some (.slice (some ⟨gx + 6, 0, none⟩) 2 2) := fun d os => cell_regrown (K1.cell (j := 1) (by decide)) d os
  have rs2 : ∀ d os, (grow (redrawn W1 d) os).cell? ⟨B1, 2, none⟩ = some (.slice (some ⟨gx + 7, 4, none⟩) 2 2) := fun d os => cell_regrown (K1.cell (j := 2) (by decide)) d os
  have rs3 : ∀ d os, (grow (redrawn W1 d) os).cell? ⟨B1, 3, none⟩ = some (.slice (some ⟨gx + 8, 0, none⟩) 1 1) := fun d os => cell_regrown (K1.cell (j := 3) (by decide)) d os
  have rs4 : ∀ d os, (grow (redrawn W1 d) os).cell? ⟨B1, 4, none⟩ = some (.slice (some ⟨gx + 9, 0, none⟩) 2 2) := fun d os => cell_regrown (K1.cell (j := 4) (by decide)) d os
  have rs5 : ∀ d os, (grow (redrawn W1 d) os).cell? ⟨B1, 5, none⟩ = some (.slice (some ⟨gx + 10, 0, none⟩) 2 2) := fun d os => cell_regrown (K1.cell (j := 5) (by decide)) d os
  have rs6 : ∀ d os, (grow (redrawn W1 d) os).cell? ⟨B1, 6, none⟩ = some (.slice (some ⟨gx + 11, 0, none⟩) 2 2) := fun d os => cell_regrown (K1.cell (j := 6) (by decide)) d os
  have xl := K1.lt
  clear K1
  have HTA : Hid (∀ g1 g2 wk, (yardP g1 g2).At wk → (busyC gx).At wk → Calls Try.prog 15 #[(yardP g1 g2).val, (busyC gx).val, .int .i64 0, .int .i64 0, .int .i64 2, .int .i64 (-1)] wk fun e w' => ∃ x : St, e = .returned (.tuple #[x.val, .int .i64 0, .int .i64 0]) ∧ (fun x w => OwnS 0 w x ∧ ∀ g', SameT x (busyS g' 2 0)) x w' ∧ Below wk.heap.size wk w') := fun g1 g2 wk h1 h2 => by
    have h := Take_any (yardP g1 g2) (busyC gx) 0 0 2 (-1) wk h1 h2
    have e1 := (busyC1 g1 g2 gx).1
    rw [(busyC1 g1 g2 gx).2] at h
    refine h.mono fun e w' => ?_
    rintro ⟨x, rfl, h2, h3, h4, h5⟩
    rw [e1]
    exact ⟨x, rfl, ⟨(h4 e1).mono (Nat.zero_le _), fun g' => busyC_back (h3.1 e1)⟩, h5⟩
  have HRB : Hid (∀ (x : St) (wk wj : World), Below wk.heap.size wk wj → (fun x w => OwnS 0 w x ∧ ∀ g', SameT x (busyS g' 2 0)) x wk → (fun x w => OwnS 0 w x ∧ ∀ g', SameT x (busyS g' 2 0)) x wj) := fun x wk wj h hr => ⟨OwnS.below hr.1 h, hr.2⟩
  have HRS : Hid (∀ (x : St) (wk : World) (B : Nat) (f : Nat → Value), Blk wk B 31 7 f → ∀ v0 v1 v2 v3 v4 v5 v6, (fun x w => OwnS 0 w x ∧ ∀ g', SameT x (busyS g' 2 0)) x wk → (fun x w => OwnS 0 w x ∧ ∀ g', SameT x (busyS g' 2 0)) x (set7 wk B v0 v1 v2 v3 v4 v5 v6)) := fun x wk B f hb v0 v1 v2 v3 v4 v5 v6 hr => ⟨OwnS.set7 hr.1 hb v0 v1 v2 v3 v4 v5 v6, hr.2⟩
  refine wp_region_made7 (fun w' => ∃ p : Regrown, w' = grow (redrawn W1 p.d) p.os) [1] [0, 2, 3, 4, 5, 6, 7, 8, 9, 10] (by kernel_rfl) (by kernel_rfl) (by kernel_rfl) (by kernel_rfl) (by kernel_rfl) (by kernel_rfl) (by kernel_rfl) (by kernel_rfl) (regrown_of_below ((Below.refl _ _).drew)) ?_
  simp only [picks, List.drop_succ_cons, List.drop_zero, List.take_succ_cons, List.take_zero, List.cons_append, List.nil_append]
  repeat (go_big_quiet_step (fail))
  refine wpQuiet_nil ?_
  clear rs0 rs1 rs2 rs3 rs4 rs5 rs6 xl
  refine ⟨CallI (fun x w => OwnS 0 w x ∧ ∀ g', SameT x (busyS g' 2 0)) 0 0 W1, fun dn V w hS hd => ?zinit, List.forall_mem_cons.2 ⟨?zp0, List.forall_mem_cons.2 ⟨?zp2, List.forall_mem_cons.2 ⟨?zp3, List.forall_mem_cons.2 ⟨?zp4, List.forall_mem_cons.2 ⟨?zp5, List.forall_mem_cons.2 ⟨?zp6, List.forall_mem_cons.2 ⟨?zp7, List.forall_mem_cons.2 ⟨?zp8, List.forall_mem_cons.2 ⟨?zp9, List.forall_mem_cons.2 ⟨?zp10, List.forall_mem_nil _⟩⟩⟩⟩⟩⟩⟩⟩⟩⟩, ?zdone⟩
  case zinit =>
    have f : ∀ j, j ∈ [0, 2, 3, 4, 5, 6, 7, 8, 9, 10] → ¬ dn j = true := fun j hj h => by rw [hd j hj] at h; cases h
    exact ⟨below_of_regrown hS, fun h => absurd h (f 3 (by simp)), fun h => absurd h (f 4 (by simp)), fun h => absurd h (f 8 (by simp)), fun h => absurd h (f 0 (by simp)), fun h => absurd h (f 7 (by simp)), fun h => absurd h (f 2 (by simp)), fun h => absurd h (f 5 (by simp)), fun h => absurd h (f 6 (by simp)), fun h => absurd h (f 9 (by simp)), fun h => absurd h (f 10 (by simp))⟩
  case zp0 =>
    intro dn V wk K hS hn hd hI hK
    have HII : Hid (CallI (fun x w => OwnS 0 w x ∧ ∀ g', SameT x (busyS g' 2 0)) 0 0 W1 dn V wk) := hI
    have q := hI.bel.size
    clear hI
    refine wpOp_list 0 rfl ?_
    simp only [putAll, dstOf, List.getElem?_toArray, List.getElem?_cons_succ, List.getElem?_cons_zero, Act.put, List.setIfInBounds_toArray, List.set_cons_succ, List.set_cons_zero] at hK ⊢
    go_wp2_with fail
    refine (yard_any _).mono ?_
    rintro e wj ⟨g1, g2, rfl, -, -, k1, k2, hB2⟩
    go_wp2_with fail
    have hI := HII.out
    refine hK _ _ (regrown_of_below (hI.bel.trans (hB2.mono q))) ⟨hI.bel.trans (hB2.mono q), hI.c3, hI.c4, hI.c8, fun _ => ⟨g1, g2, rfl, k1, k2⟩, fun h7 => ?_, fun h2 => ?_, hI.n5, hI.n6, hI.n9, hI.n10⟩
    · obtain ⟨B, b1, b2, f, b3⟩ := hI.box h7
      exact ⟨B, b1, b2, f, b3.below hB2⟩
    · obtain ⟨x, a1, a2, a3, a4, a5⟩ := hI.got h2
      exact ⟨x, HRB.out x wk wj hB2 a1, a2, a3, a4, fun h8 B hb => (a5 h8 B hb).below hB2⟩
  case zp2 =>
    intro dn V wk K hS hn hd hI hK
    obtain ⟨g1, g2, hv0, k1, k2⟩ := hI.yd (hd 0 (List.contains_iff_mem.1 (by kernel_rfl)) (by simp))
    have HII : Hid (CallI (fun x w => OwnS 0 w x ∧ ∀ g', SameT x (busyS g' 2 0)) 0 0 W1 dn V wk) := hI
    have q := hI.bel.size
    clear hI
    have f3 : ¬ dn 3 = true := fun h => by rw [HII.out.c3 h] at hn; cases hn
    have f4 : ¬ dn 4 = true := fun h => by rw [HII.out.c4 h] at hn; cases hn
    have f8 : ¬ dn 8 = true := fun h => by rw [(HII.out.c8 h).1] at hn; cases hn
    refine wpOp_list 2 rfl ?_
    simp only [putAll, dstOf, List.getElem?_toArray, List.getElem?_cons_succ, List.getElem?_cons_zero, Act.put, List.setIfInBounds_toArray, List.set_cons_succ, List.set_cons_zero, hv0] at hK ⊢
    go_wp2_with fail
    refine (HTA.out g1 g2 wk (yardAt k1 k2) (HXA.out wk (HB1.out.trans (HII.out.bel.mono HB1.out.size)))).mono ?_
    rintro e wj ⟨x, rfl, hR, hB2⟩
    have HR : Hid ((fun x w => OwnS 0 w x ∧ ∀ g', SameT x (busyS g' 2 0)) x wj) := hR
    clear hR k1 k2
    simp only [St.val]
    go_wp2_with fail
    have hI := HII.out
    refine hK _ _ (regrown_of_below (hI.bel.trans (hB2.mono q))) ⟨hI.bel.trans (hB2.mono q), fun _ => rfl, fun _ => rfl, fun h => absurd h f8, fun h0 => ?_, fun h7 => ?_, fun _ => ⟨x, HR.out, rfl, fun h => absurd h f3, fun h => absurd h f4, fun h => absurd h f8⟩, hI.n5, hI.n6, hI.n9, hI.n10⟩
    · obtain ⟨g1, g2, b0, b1, b2⟩ := hI.yd h0
      exact ⟨g1, g2, b0, b1.below hB2, b2.below hB2⟩
    · obtain ⟨B, b1, b2, f, b3⟩ := hI.box h7
      exact ⟨B, b1, b2, f, b3.below hB2⟩
  case zp3 =>
    intro dn V wk K hS hn hd hI hK
    have h2 : dn 2 = true := hd 2 (List.contains_iff_mem.1 (by kernel_rfl)) (by simp)
    obtain ⟨x, a1, a2, a3, a4, a5⟩ := hI.got h2
    have HII : Hid (CallI (fun x w => OwnS 0 w x ∧ ∀ g', SameT x (busyS g' 2 0)) 0 0 W1 dn V wk) := hI
    have HR : Hid ((fun x w => OwnS 0 w x ∧ ∀ g', SameT x (busyS g' 2 0)) x wk ∧ V 2 = .tuple #[.agg #[.slice x.on.a x.on.n x.on.c, .slice x.os.a x.os.n x.os.c, .slice x.hs.a x.hs.n x.hs.c, .slice x.ms.a x.ms.n x.ms.c, .slice x.si.a x.si.n x.si.c, .slice x.so.a x.so.n x.so.c, .slice x.sf.a x.sf.n x.sf.c], .int .i64 0, .int .i64 0] ∧ (dn 4 = true → V 4 = .agg #[.slice x.on.a x.on.n x.on.c, .slice x.os.a x.os.n x.os.c, .slice x.hs.a x.hs.n x.hs.c, .slice x.ms.a x.ms.n x.ms.c, .slice x.si.a x.si.n x.si.c, .slice x.so.a x.so.n x.so.c, .slice x.sf.a x.sf.n x.sf.c]) ∧ (dn 8 = true → ∀ B, V 7 = .pointer (some ⟨B, 0, none⟩) → Blk wk B 31 7 (fun j => x.cells.getD j default))) := ⟨a1, a2, a4, a5⟩
    clear hI a1 a3 a4 a5
    refine wpOp_list 3 rfl ?_
    simp only [putAll, dstOf, List.getElem?_toArray, List.getElem?_cons_succ, List.getElem?_cons_zero, Act.put, List.setIfInBounds_toArray, List.set_cons_succ, List.set_cons_zero, a2] at hK ⊢
    go_wp2_with fail
    have hI := HII.out
    exact hK _ _ hS ⟨hI.bel, fun _ => h2, hI.c4, hI.c8, hI.yd, hI.box, fun _ => ⟨x, HR.out.1, HR.out.2.1, fun _ => rfl, HR.out.2.2.1, HR.out.2.2.2⟩, hI.n5, hI.n6, hI.n9, hI.n10⟩
  case zp4 =>
    intro dn V wk K hS hn hd hI hK
    have h3 : dn 3 = true := hd 3 (List.contains_iff_mem.1 (by kernel_rfl)) (by simp)
    have h2 := hI.c3 h3
    obtain ⟨x, a1, a2, a3, a4, a5⟩ := hI.got h2
    have a3' := a3 h3
    have HII : Hid (CallI (fun x w => OwnS 0 w x ∧ ∀ g', SameT x (busyS g' 2 0)) 0 0 W1 dn V wk) := hI
    have HR : Hid ((fun x w => OwnS 0 w x ∧ ∀ g', SameT x (busyS g' 2 0)) x wk ∧ V 2 = .tuple #[.agg #[.slice x.on.a x.on.n x.on.c, .slice x.os.a x.os.n x.os.c, .slice x.hs.a x.hs.n x.hs.c, .slice x.ms.a x.ms.n x.ms.c, .slice x.si.a x.si.n x.si.c, .slice x.so.a x.so.n x.so.c, .slice x.sf.a x.sf.n x.sf.c], .int .i64 0, .int .i64 0] ∧ (dn 3 = true → V 3 = .tuple #[.agg #[.slice x.on.a x.on.n x.on.c, .slice x.os.a x.os.n x.os.c, .slice x.hs.a x.hs.n x.hs.c, .slice x.ms.a x.ms.n x.ms.c, .slice x.si.a x.si.n x.si.c, .slice x.so.a x.so.n x.so.c, .slice x.sf.a x.sf.n x.sf.c], .int .i64 0, .int .i64 0]) ∧ (dn 8 = true → ∀ B, V 7 = .pointer (some ⟨B, 0, none⟩) → Blk wk B 31 7 (fun j => x.cells.getD j default))) := ⟨a1, a2, a3, a5⟩
    clear hI a1 a2 a3 a4 a5
    refine wpOp_list 4 rfl ?_
    simp only [putAll, dstOf, List.getElem?_toArray, List.getElem?_cons_succ, List.getElem?_cons_zero, Act.put, List.setIfInBounds_toArray, List.set_cons_succ, List.set_cons_zero, a3'] at hK ⊢
    go_wp2_with fail
    have hI := HII.out
    exact hK _ _ hS ⟨hI.bel, hI.c3, fun _ => h2, hI.c8, hI.yd, hI.box, fun _ => ⟨x, HR.out.1, HR.out.2.1, HR.out.2.2.1, fun _ => rfl, HR.out.2.2.2⟩, hI.n5, hI.n6, hI.n9, hI.n10⟩
  case zp5 =>
    intro dn V wk K hS hn hd hI hK
    have h3 : dn 3 = true := hd 3 (List.contains_iff_mem.1 (by kernel_rfl)) (by simp)
    obtain ⟨x, a1, a2, a3, a4, a5⟩ := hI.got (hI.c3 h3)
    have a3' := a3 h3
    have HII : Hid (CallI (fun x w => OwnS 0 w x ∧ ∀ g', SameT x (busyS g' 2 0)) 0 0 W1 dn V wk) := hI
    clear hI a1 a2 a3 a4 a5
    refine wpOp_list 5 rfl ?_
    simp only [putAll, dstOf, List.getElem?_toArray, List.getElem?_cons_succ, List.getElem?_cons_zero, Act.put, List.setIfInBounds_toArray, List.set_cons_succ, List.set_cons_zero, a3'] at hK ⊢
    go_wp2_with fail
    have hI := HII.out
    exact hK _ _ hS ⟨hI.bel, hI.c3, hI.c4, hI.c8, hI.yd, hI.box, hI.got, fun _ => rfl, hI.n6, hI.n9, hI.n10⟩
  case zp6 =>
    intro dn V wk K hS hn hd hI hK
    have h3 : dn 3 = true := hd 3 (List.contains_iff_mem.1 (by kernel_rfl)) (by simp)
    obtain ⟨x, a1, a2, a3, a4, a5⟩ := hI.got (hI.c3 h3)
    have a3' := a3 h3
    have HII : Hid (CallI (fun x w => OwnS 0 w x ∧ ∀ g', SameT x (busyS g' 2 0)) 0 0 W1 dn V wk) := hI
    clear hI a1 a2 a3 a4 a5
    refine wpOp_list 6 rfl ?_
    simp only [putAll, dstOf, List.getElem?_toArray, List.getElem?_cons_succ, List.getElem?_cons_zero, Act.put, List.setIfInBounds_toArray, List.set_cons_succ, List.set_cons_zero, a3'] at hK ⊢
    go_wp2_with fail
    have hI := HII.out
    exact hK _ _ hS ⟨hI.bel, hI.c3, hI.c4, hI.c8, hI.yd, hI.box, hI.got, hI.n5, fun _ => rfl, hI.n9, hI.n10⟩
  case zp7 =>
    intro dn V wk K hS hn hd hI hK
    have HII : Hid (CallI (fun x w => OwnS 0 w x ∧ ∀ g', SameT x (busyS g' 2 0)) 0 0 W1 dn V wk) := hI
    have q := hI.bel.size
    clear hI
    refine wpOp_list 7 rfl ?_
    simp only [putAll, dstOf, List.getElem?_toArray, List.getElem?_cons_succ, List.getElem?_cons_zero, Act.put, List.setIfInBounds_toArray, List.set_cons_succ, List.set_cons_zero] at hK ⊢
    go_wp2_with fail
    have hI := HII.out
    have hBa := (Below.refl wk.heap.size wk).alloc (Nat.le_refl _) (.cells #[.slice .none 0 0, .slice .none 0 0, .slice .none 0 0, .slice .none 0 0, .slice .none 0 0, .slice .none 0 0, .slice .none 0 0] 31)
    have f8 : ¬ dn 8 = true := fun h => by rw [(hI.c8 h).2] at hn; cases hn
    refine hK _ _ (regrown_of_below (hI.bel.trans (hBa.mono q))) ⟨hI.bel.trans (hBa.mono q), hI.c3, hI.c4, fun h => absurd h f8, fun h0 => ?_, fun _ => ⟨wk.heap.size, rfl, q, _, Blk.mk' rfl rfl⟩, fun h2 => ?_, hI.n5, hI.n6, hI.n9, hI.n10⟩
    · obtain ⟨g1, g2, b0, b1, b2⟩ := hI.yd h0
      exact ⟨g1, g2, b0, b1.below hBa, b2.below hBa⟩
    · obtain ⟨x, a1, a2, a3, a4, a5⟩ := hI.got h2
      exact ⟨x, HRB.out x wk _ hBa a1, a2, a3, a4, fun h => absurd h f8⟩
  case zp8 =>
    intro dn V wk K hS hn hd hI hK
    have h7 : dn 7 = true := hd 7 (List.contains_iff_mem.1 (by kernel_rfl)) (by simp)
    have h4 : dn 4 = true := hd 4 (List.contains_iff_mem.1 (by kernel_rfl)) (by simp)
    have h2 := hI.c4 h4
    obtain ⟨B, hv7, hBW, f, hbk⟩ := hI.box h7
    obtain ⟨x, a1, a2, a3, a4, a5⟩ := hI.got h2
    have a4' := a4 h4
    have HII : Hid (CallI (fun x w => OwnS 0 w x ∧ ∀ g', SameT x (busyS g' 2 0)) 0 0 W1 dn V wk) := hI
    have HR : Hid ((fun x w => OwnS 0 w x ∧ ∀ g', SameT x (busyS g' 2 0)) x wk ∧ V 2 = .tuple #[.agg #[.slice x.on.a x.on.n x.on.c, .slice x.os.a x.os.n x.os.c, .slice x.hs.a x.hs.n x.hs.c, .slice x.ms.a x.ms.n x.ms.c, .slice x.si.a x.si.n x.si.c, .slice x.so.a x.so.n x.so.c, .slice x.sf.a x.sf.n x.sf.c], .int .i64 0, .int .i64 0] ∧ (dn 3 = true → V 3 = .tuple #[.agg #[.slice x.on.a x.on.n x.on.c, .slice x.os.a x.os.n x.os.c, .slice x.hs.a x.hs.n x.hs.c, .slice x.ms.a x.ms.n x.ms.c, .slice x.si.a x.si.n x.si.c, .slice x.so.a x.so.n x.so.c, .slice x.sf.a x.sf.n x.sf.c], .int .i64 0, .int .i64 0]) ∧ Blk wk B 31 7 f ∧ V 7 = .pointer (some ⟨B, 0, none⟩)) := ⟨a1, a2, a3, hbk, hv7⟩
    have hz := hbk
    have zl := hz.lt
    have zf0 := hz.frozen 0
    have zc0 := hz.cell (j := 0) (by decide)
    have zf1 := hz.frozen 1
    have zc1 := hz.cell (j := 1) (by decide)
    have zf2 := hz.frozen 2
    have zc2 := hz.cell (j := 2) (by decide)
    have zf3 := hz.frozen 3
    have zc3 := hz.cell (j := 3) (by decide)
    have zf4 := hz.frozen 4
    have zc4 := hz.cell (j := 4) (by decide)
    have zf5 := hz.frozen 5
    have zc5 := hz.cell (j := 5) (by decide)
    have zf6 := hz.frozen 6
    have zc6 := hz.cell (j := 6) (by decide)
    clear hI a1 a2 a3 a4 a5 hz hbk
    refine wpOp_list 8 rfl ?_
    simp only [putAll, dstOf, List.getElem?_toArray, List.getElem?_cons_succ, List.getElem?_cons_zero, Act.put, List.setIfInBounds_toArray, List.set_cons_succ, List.set_cons_zero, a4', hv7] at hK ⊢
    go_wp2_with fail
    have hI := HII.out
    have KZ := set7_blk HR.out.2.2.2.1 (.slice x.on.a x.on.n x.on.c) (.slice x.os.a x.os.n x.os.c) (.slice x.hs.a x.hs.n x.hs.c) (.slice x.ms.a x.ms.n x.ms.c) (.slice x.si.a x.si.n x.si.c) (.slice x.so.a x.so.n x.so.c) (.slice x.sf.a x.sf.n x.sf.c)
    have hbz := set7_below (b := B) hI.bel hBW (.slice x.on.a x.on.n x.on.c) (.slice x.os.a x.os.n x.os.c) (.slice x.hs.a x.hs.n x.hs.c) (.slice x.ms.a x.ms.n x.ms.c) (.slice x.si.a x.si.n x.si.c) (.slice x.so.a x.so.n x.so.c) (.slice x.sf.a x.sf.n x.sf.c)
    have hRz := HRS.out x wk B f HR.out.2.2.2.1 (.slice x.on.a x.on.n x.on.c) (.slice x.os.a x.os.n x.os.c) (.slice x.hs.a x.hs.n x.hs.c) (.slice x.ms.a x.ms.n x.ms.c) (.slice x.si.a x.si.n x.si.c) (.slice x.so.a x.so.n x.so.c) (.slice x.sf.a x.sf.n x.sf.c) HR.out.1
    unfold set7 at KZ hbz hRz
    refine hK undef _ (regrown_of_below hbz) ⟨hbz, hI.c3, hI.c4, fun _ => ⟨h2, h7⟩, fun h0 => ?_, fun _ => ⟨B, HR.out.2.2.2.2, hBW, _, KZ⟩, fun _ => ⟨x, hRz, HR.out.2.1, HR.out.2.2.1, fun _ => a4', fun _ B' hB' => ?_⟩, hI.n5, hI.n6, hI.n9, hI.n10⟩
    · obtain ⟨g1, g2, b0, b1, b2⟩ := hI.yd h0
      have s7 : ∀ (q : Nat) (t : TypeId) (m : Nat) (z : Nat → Value), t ≠ 31 → Blk wk q t m z → Blk (set7 wk B (.slice x.on.a x.on.n x.on.c) (.slice x.os.a x.os.n x.os.c) (.slice x.hs.a x.hs.n x.hs.c) (.slice x.ms.a x.ms.n x.ms.c) (.slice x.si.a x.si.n x.si.c) (.slice x.so.a x.so.n x.so.c) (.slice x.sf.a x.sf.n x.sf.c)) q t m z := fun q t m z ht hb => by
        have hne := Blk.ne2 hb HR.out.2.2.2.1 ht
        unfold set7
        exact ((((((hb.other (a := ⟨B, 0, none⟩) hne _).other (a := ⟨B, 1, none⟩) hne _).other (a := ⟨B, 2, none⟩) hne _).other (a := ⟨B, 3, none⟩) hne _).other (a := ⟨B, 4, none⟩) hne _).other (a := ⟨B, 5, none⟩) hne _).other (a := ⟨B, 6, none⟩) hne _
      unfold set7 at s7
      exact ⟨g1, g2, b0, s7 _ _ _ _ (by decide) b1, s7 _ _ _ _ (by decide) b2⟩
    · have e : V 7 = .pointer (some ⟨B', 0, none⟩) := hB'
      rw [HR.out.2.2.2.2] at e
      simp only [Value.pointer.injEq, Option.some.injEq, Addr.mk.injEq, and_true] at e
      subst e
      exact KZ.congr (fun j hj => by match j, hj with | 0, _ => rfl | 1, _ => rfl | 2, _ => rfl | 3, _ => rfl | 4, _ => rfl | 5, _ => rfl | 6, _ => rfl)
  case zp9 =>
    intro dn V wk K hS hn hd hI hK
    have a4' := hI.n5 (hd 5 (List.contains_iff_mem.1 (by kernel_rfl)) (by simp))
    have HII : Hid (CallI (fun x w => OwnS 0 w x ∧ ∀ g', SameT x (busyS g' 2 0)) 0 0 W1 dn V wk) := hI
    clear hI
    refine wpOp_list 9 rfl ?_
    simp only [putAll, dstOf, List.getElem?_toArray, List.getElem?_cons_succ, List.getElem?_cons_zero, Act.put, List.setIfInBounds_toArray, List.set_cons_succ, List.set_cons_zero, a4'] at hK ⊢
    go_wp2_with fail
    have hI := HII.out
    exact hK _ _ hS ⟨hI.bel, hI.c3, hI.c4, hI.c8, hI.yd, hI.box, hI.got, hI.n5, hI.n6, fun _ => rfl, hI.n10⟩
  case zp10 =>
    intro dn V wk K hS hn hd hI hK
    have a4' := hI.n6 (hd 6 (List.contains_iff_mem.1 (by kernel_rfl)) (by simp))
    have HII : Hid (CallI (fun x w => OwnS 0 w x ∧ ∀ g', SameT x (busyS g' 2 0)) 0 0 W1 dn V wk) := hI
    clear hI
    refine wpOp_list 10 rfl ?_
    simp only [putAll, dstOf, List.getElem?_toArray, List.getElem?_cons_succ, List.getElem?_cons_zero, Act.put, List.setIfInBounds_toArray, List.set_cons_succ, List.set_cons_zero, a4'] at hK ⊢
    go_wp2_with fail
    have hI := HII.out
    exact hK _ _ hS ⟨hI.bel, hI.c3, hI.c4, hI.c8, hI.yd, hI.box, hI.got, hI.n5, hI.n6, hI.n9, fun _ => rfl⟩
  case zdone =>
    intro dn V wk hS hd hI
    refine NoPanic.normal ?_
    obtain ⟨B, hv7, hBW, f, hbk⟩ := hI.box (hd 7 (by simp))
    obtain ⟨x, hR, a2, a3, a4, a5⟩ := hI.got (hd 2 (by simp))
    have hv9 := hI.n9 (hd 9 (by simp))
    have hv10 := hI.n10 (hd 10 (by simp))
    have KX := a5 (hd 8 (by simp)) B hv7
    have hBel := hI.bel
    clear hI a2 a3 a4 a5 hbk hd hS
    simp only [putAll, dstOf, List.getElem?_toArray, List.getElem?_cons_succ, List.getElem?_cons_zero, Act.put, List.setIfInBounds_toArray, List.set_cons_succ, List.set_cons_zero, hv7, hv9, hv10]
    have HB1 : Hid (Below W1.heap.size W1 wk) := HB1.out.trans (hBel.mono HB1.out.size)
    have HX1 : Hid (OwnS 0 wk x ∧ Blk wk B 31 7 (fun j => x.cells.getD j default)) := ⟨hR.1, KX⟩
    have HSX : Hid (∀ g', SameT x (busyS g' 2 0)) := hR.2
    have K1 := HK1.out wk HB1.out
    clear KX hR hv7 hv9 hv10 HRB HRS HTA
    have rs0 : ∀ d os, (grow (redrawn wk d) os).cell? ⟨B1, 0, none⟩ = some (.slice (some ⟨gx + 3, 0, none⟩) 3 3) := fun d os => cell_regrown (K1.cell (j := 0) (by decide)) d os
    have rs1 : ∀ d os, (grow (redrawn wk d) os).cell? ⟨B1, 1, none⟩ = some (.slice (some ⟨gx + 6, 0, none⟩) 2 2) := fun d os => cell_regrown (K1.cell (j := 1) (by decide)) d os
    have rs2 : ∀ d os, (grow (redrawn wk d) os).cell? ⟨B1, 2, none⟩ = some (.slice (some ⟨gx + 7, 4, none⟩) 2 2) := fun d os => cell_regrown (K1.cell (j := 2) (by decide)) d os
    have rs3 : ∀ d os, (grow (redrawn wk d) os).cell? ⟨B1, 3, none⟩ = some (.slice (some ⟨gx + 8, 0, none⟩) 1 1) := fun d os => cell_regrown (K1.cell (j := 3) (by decide)) d os
    have rs4 : ∀ d os, (grow (redrawn wk d) os).cell? ⟨B1, 4, none⟩ = some (.slice (some ⟨gx + 9, 0, none⟩) 2 2) := fun d os => cell_regrown (K1.cell (j := 4) (by decide)) d os
    have rs5 : ∀ d os, (grow (redrawn wk d) os).cell? ⟨B1, 5, none⟩ = some (.slice (some ⟨gx + 10, 0, none⟩) 2 2) := fun d os => cell_regrown (K1.cell (j := 5) (by decide)) d os
    have rs6 : ∀ d os, (grow (redrawn wk d) os).cell? ⟨B1, 6, none⟩ = some (.slice (some ⟨gx + 11, 0, none⟩) 2 2) := fun d os => cell_regrown (K1.cell (j := 6) (by decide)) d os
    have xl := K1.lt
    clear K1
    have HTB : Hid (∀ g1 g2 wk, (yardP g1 g2).At wk → (busyC gx).At wk → Calls Try.prog 15 #[(yardP g1 g2).val, (busyC gx).val, .int .i64 0, .int .i64 0, .int .i64 2, .int .i64 0] wk fun e w' => ∃ x : St, e = .returned (.tuple #[x.val, .int .i64 2, .int .i64 0]) ∧ (fun _ _ => True) x w' ∧ Below wk.heap.size wk w') := fun g1 g2 wk h1 h2 => by
      have h := Take_any (yardP g1 g2) (busyC gx) 0 0 2 0 wk h1 h2
      have e1 := (busyC2 g1 g2 gx).1
      rw [(busyC2 g1 g2 gx).2] at h
      refine h.mono fun e w' => ?_
      rintro ⟨x, rfl, h2, h3, h4, h5⟩
      rw [e1]
      exact ⟨x, rfl, trivial, h5⟩
    have HRB : Hid (∀ (x : St) (wk wj : World), Below wk.heap.size wk wj → (fun _ _ => True) x wk → (fun _ _ => True) x wj) := fun _ _ _ _ _ => trivial
    have HRS : Hid (∀ (x : St) (wk : World) (B : Nat) (f : Nat → Value), Blk wk B 31 7 f → ∀ v0 v1 v2 v3 v4 v5 v6, (fun _ _ => True) x wk → (fun _ _ => True) x (set7 wk B v0 v1 v2 v3 v4 v5 v6)) := fun _ _ _ _ _ _ _ _ _ _ _ _ _ => trivial
    go_wp2_with fail
    generalize hgp : wk = wp at *
    clear hgp
    generalize hgb : B = B2 at *
    clear hgb
    generalize hgx : x = x1 at *
    clear hgx
    refine wp_region_made7 (fun w' => ∃ p : Regrown, w' = grow (redrawn wp p.d) p.os) [1] [0, 2, 3, 4, 5, 6, 7, 8, 9, 10] (by kernel_rfl) (by kernel_rfl) (by kernel_rfl) (by kernel_rfl) (by kernel_rfl) (by kernel_rfl) (by kernel_rfl) (by kernel_rfl) (regrown_of_below ((Below.refl _ _).drew)) ?_
    simp only [picks, List.drop_succ_cons, List.drop_zero, List.take_succ_cons, List.take_zero, List.cons_append, List.nil_append]
    repeat (go_big_quiet_step (fail))
    refine wpQuiet_nil ?_
    clear rs0 rs1 rs2 rs3 rs4 rs5 rs6 xl
    refine ⟨CallI (fun _ _ => True) 2 0 wp, fun dn V w hS hd => ?zinit, List.forall_mem_cons.2 ⟨?zp0, List.forall_mem_cons.2 ⟨?zp2, List.forall_mem_cons.2 ⟨?zp3, List.forall_mem_cons.2 ⟨?zp4, List.forall_mem_cons.2 ⟨?zp5, List.forall_mem_cons.2 ⟨?zp6, List.forall_mem_cons.2 ⟨?zp7, List.forall_mem_cons.2 ⟨?zp8, List.forall_mem_cons.2 ⟨?zp9, List.forall_mem_cons.2 ⟨?zp10, List.forall_mem_nil _⟩⟩⟩⟩⟩⟩⟩⟩⟩⟩, ?zdone⟩
    case zinit =>
      have f : ∀ j, j ∈ [0, 2, 3, 4, 5, 6, 7, 8, 9, 10] → ¬ dn j = true := fun j hj h => by rw [hd j hj] at h; cases h
      exact ⟨below_of_regrown hS, fun h => absurd h (f 3 (by simp)), fun h => absurd h (f 4 (by simp)), fun h => absurd h (f 8 (by simp)), fun h => absurd h (f 0 (by simp)), fun h => absurd h (f 7 (by simp)), fun h => absurd h (f 2 (by simp)), fun h => absurd h (f 5 (by simp)), fun h => absurd h (f 6 (by simp)), fun h => absurd h (f 9 (by simp)), fun h => absurd h (f 10 (by simp))⟩
    case zp0 =>
      intro dn V wk K hS hn hd hI hK
      have HII : Hid (CallI (fun _ _ => True) 2 0 wp dn V wk) := hI
      have q := hI.bel.size
      clear hI
      refine wpOp_list 0 rfl ?_
      simp only [putAll, dstOf, List.getElem?_toArray, List.getElem?_cons_succ, List.getElem?_cons_zero, Act.put, List.setIfInBounds_toArray, List.set_cons_succ, List.set_cons_zero] at hK ⊢
      go_wp2_with fail
      refine (yard_any _).mono ?_
      rintro e wj ⟨g1, g2, rfl, -, -, k1, k2, hB2⟩
      go_wp2_with fail
      have hI := HII.out
      refine hK _ _ (regrown_of_below (hI.bel.trans (hB2.mono q))) ⟨hI.bel.trans (hB2.mono q), hI.c3, hI.c4, hI.c8, fun _ => ⟨g1, g2, rfl, k1, k2⟩, fun h7 => ?_, fun h2 => ?_, hI.n5, hI.n6, hI.n9, hI.n10⟩
      · obtain ⟨B, b1, b2, f, b3⟩ := hI.box h7
        exact ⟨B, b1, b2, f, b3.below hB2⟩
      · obtain ⟨x, a1, a2, a3, a4, a5⟩ := hI.got h2
        exact ⟨x, HRB.out x wk wj hB2 a1, a2, a3, a4, fun h8 B hb => (a5 h8 B hb).below hB2⟩
    case zp2 =>
      intro dn V wk K hS hn hd hI hK
      obtain ⟨g1, g2, hv0, k1, k2⟩ := hI.yd (hd 0 (List.contains_iff_mem.1 (by kernel_rfl)) (by simp))
      have HII : Hid (CallI (fun _ _ => True) 2 0 wp dn V wk) := hI
      have q := hI.bel.size
      clear hI
      have f3 : ¬ dn 3 = true := fun h => by rw [HII.out.c3 h] at hn; cases hn
      have f4 : ¬ dn 4 = true := fun h => by rw [HII.out.c4 h] at hn; cases hn
      have f8 : ¬ dn 8 = true := fun h => by rw [(HII.out.c8 h).1] at hn; cases hn
      refine wpOp_list 2 rfl ?_
      simp only [putAll, dstOf, List.getElem?_toArray, List.getElem?_cons_succ, List.getElem?_cons_zero, Act.put, List.setIfInBounds_toArray, List.set_cons_succ, List.set_cons_zero, hv0] at hK ⊢
      go_wp2_with fail
      refine (HTB.out g1 g2 wk (yardAt k1 k2) (HXA.out wk (HB1.out.trans (HII.out.bel.mono HB1.out.size)))).mono ?_
      rintro e wj ⟨x, rfl, hR, hB2⟩
      have HR : Hid ((fun _ _ => True) x wj) := hR
      clear hR k1 k2
      simp only [St.val]
      go_wp2_with fail
      have hI := HII.out
      refine hK _ _ (regrown_of_below (hI.bel.trans (hB2.mono q))) ⟨hI.bel.trans (hB2.mono q), fun _ => rfl, fun _ => rfl, fun h => absurd h f8, fun h0 => ?_, fun h7 => ?_, fun _ => ⟨x, HR.out, rfl, fun h => absurd h f3, fun h => absurd h f4, fun h => absurd h f8⟩, hI.n5, hI.n6, hI.n9, hI.n10⟩
      · obtain ⟨g1, g2, b0, b1, b2⟩ := hI.yd h0
        exact ⟨g1, g2, b0, b1.below hB2, b2.below hB2⟩
      · obtain ⟨B, b1, b2, f, b3⟩ := hI.box h7
        exact ⟨B, b1, b2, f, b3.below hB2⟩
    case zp3 =>
      intro dn V wk K hS hn hd hI hK
      have h2 : dn 2 = true := hd 2 (List.contains_iff_mem.1 (by kernel_rfl)) (by simp)
      obtain ⟨x, a1, a2, a3, a4, a5⟩ := hI.got h2
      have HII : Hid (CallI (fun _ _ => True) 2 0 wp dn V wk) := hI
      have HR : Hid ((fun _ _ => True) x wk ∧ V 2 = .tuple #[.agg #[.slice x.on.a x.on.n x.on.c, .slice x.os.a x.os.n x.os.c, .slice x.hs.a x.hs.n x.hs.c, .slice x.ms.a x.ms.n x.ms.c, .slice x.si.a x.si.n x.si.c, .slice x.so.a x.so.n x.so.c, .slice x.sf.a x.sf.n x.sf.c], .int .i64 2, .int .i64 0] ∧ (dn 4 = true → V 4 = .agg #[.slice x.on.a x.on.n x.on.c, .slice x.os.a x.os.n x.os.c, .slice x.hs.a x.hs.n x.hs.c, .slice x.ms.a x.ms.n x.ms.c, .slice x.si.a x.si.n x.si.c, .slice x.so.a x.so.n x.so.c, .slice x.sf.a x.sf.n x.sf.c]) ∧ (dn 8 = true → ∀ B, V 7 = .pointer (some ⟨B, 0, none⟩) → Blk wk B 31 7 (fun j => x.cells.getD j default))) := ⟨a1, a2, a4, a5⟩
      clear hI a1 a3 a4 a5
      refine wpOp_list 3 rfl ?_
      simp only [putAll, dstOf, List.getElem?_toArray, List.getElem?_cons_succ, List.getElem?_cons_zero, Act.put, List.setIfInBounds_toArray, List.set_cons_succ, List.set_cons_zero, a2] at hK ⊢
      go_wp2_with fail
      have hI := HII.out
      exact hK _ _ hS ⟨hI.bel, fun _ => h2, hI.c4, hI.c8, hI.yd, hI.box, fun _ => ⟨x, HR.out.1, HR.out.2.1, fun _ => rfl, HR.out.2.2.1, HR.out.2.2.2⟩, hI.n5, hI.n6, hI.n9, hI.n10⟩
    case zp4 =>
      intro dn V wk K hS hn hd hI hK
      have h3 : dn 3 = true := hd 3 (List.contains_iff_mem.1 (by kernel_rfl)) (by simp)
      have h2 := hI.c3 h3
      obtain ⟨x, a1, a2, a3, a4, a5⟩ := hI.got h2
      have a3' := a3 h3
      have HII : Hid (CallI (fun _ _ => True) 2 0 wp dn V wk) := hI
      have HR : Hid ((fun _ _ => True) x wk ∧ V 2 = .tuple #[.agg #[.slice x.on.a x.on.n x.on.c, .slice x.os.a x.os.n x.os.c, .slice x.hs.a x.hs.n x.hs.c, .slice x.ms.a x.ms.n x.ms.c, .slice x.si.a x.si.n x.si.c, .slice x.so.a x.so.n x.so.c, .slice x.sf.a x.sf.n x.sf.c], .int .i64 2, .int .i64 0] ∧ (dn 3 = true → V 3 = .tuple #[.agg #[.slice x.on.a x.on.n x.on.c, .slice x.os.a x.os.n x.os.c, .slice x.hs.a x.hs.n x.hs.c, .slice x.ms.a x.ms.n x.ms.c, .slice x.si.a x.si.n x.si.c, .slice x.so.a x.so.n x.so.c, .slice x.sf.a x.sf.n x.sf.c], .int .i64 2, .int .i64 0]) ∧ (dn 8 = true → ∀ B, V 7 = .pointer (some ⟨B, 0, none⟩) → Blk wk B 31 7 (fun j => x.cells.getD j default))) := ⟨a1, a2, a3, a5⟩
      clear hI a1 a2 a3 a4 a5
      refine wpOp_list 4 rfl ?_
      simp only [putAll, dstOf, List.getElem?_toArray, List.getElem?_cons_succ, List.getElem?_cons_zero, Act.put, List.setIfInBounds_toArray, List.set_cons_succ, List.set_cons_zero, a3'] at hK ⊢
      go_wp2_with fail
      have hI := HII.out
      exact hK _ _ hS ⟨hI.bel, hI.c3, fun _ => h2, hI.c8, hI.yd, hI.box, fun _ => ⟨x, HR.out.1, HR.out.2.1, HR.out.2.2.1, fun _ => rfl, HR.out.2.2.2⟩, hI.n5, hI.n6, hI.n9, hI.n10⟩
    case zp5 =>
      intro dn V wk K hS hn hd hI hK
      have h3 : dn 3 = true := hd 3 (List.contains_iff_mem.1 (by kernel_rfl)) (by simp)
      obtain ⟨x, a1, a2, a3, a4, a5⟩ := hI.got (hI.c3 h3)
      have a3' := a3 h3
      have HII : Hid (CallI (fun _ _ => True) 2 0 wp dn V wk) := hI
      clear hI a1 a2 a3 a4 a5
      refine wpOp_list 5 rfl ?_
      simp only [putAll, dstOf, List.getElem?_toArray, List.getElem?_cons_succ, List.getElem?_cons_zero, Act.put, List.setIfInBounds_toArray, List.set_cons_succ, List.set_cons_zero, a3'] at hK ⊢
      go_wp2_with fail
      have hI := HII.out
      exact hK _ _ hS ⟨hI.bel, hI.c3, hI.c4, hI.c8, hI.yd, hI.box, hI.got, fun _ => rfl, hI.n6, hI.n9, hI.n10⟩
    case zp6 =>
      intro dn V wk K hS hn hd hI hK
      have h3 : dn 3 = true := hd 3 (List.contains_iff_mem.1 (by kernel_rfl)) (by simp)
      obtain ⟨x, a1, a2, a3, a4, a5⟩ := hI.got (hI.c3 h3)
      have a3' := a3 h3
      have HII : Hid (CallI (fun _ _ => True) 2 0 wp dn V wk) := hI
      clear hI a1 a2 a3 a4 a5
      refine wpOp_list 6 rfl ?_
      simp only [putAll, dstOf, List.getElem?_toArray, List.getElem?_cons_succ, List.getElem?_cons_zero, Act.put, List.setIfInBounds_toArray, List.set_cons_succ, List.set_cons_zero, a3'] at hK ⊢
      go_wp2_with fail
      have hI := HII.out
      exact hK _ _ hS ⟨hI.bel, hI.c3, hI.c4, hI.c8, hI.yd, hI.box, hI.got, hI.n5, fun _ => rfl, hI.n9, hI.n10⟩
    case zp7 =>
      intro dn V wk K hS hn hd hI hK
      have HII : Hid (CallI (fun _ _ => True) 2 0 wp dn V wk) := hI
      have q := hI.bel.size
      clear hI
      refine wpOp_list 7 rfl ?_
      simp only [putAll, dstOf, List.getElem?_toArray, List.getElem?_cons_succ, List.getElem?_cons_zero, Act.put, List.setIfInBounds_toArray, List.set_cons_succ, List.set_cons_zero] at hK ⊢
      go_wp2_with fail
      have hI := HII.out
      have hBa := (Below.refl wk.heap.size wk).alloc (Nat.le_refl _) (.cells #[.slice .none 0 0, .slice .none 0 0, .slice .none 0 0, .slice .none 0 0, .slice .none 0 0, .slice .none 0 0, .slice .none 0 0] 31)
      have f8 : ¬ dn 8 = true := fun h => by rw [(hI.c8 h).2] at hn; cases hn
      refine hK _ _ (regrown_of_below (hI.bel.trans (hBa.mono q))) ⟨hI.bel.trans (hBa.mono q), hI.c3, hI.c4, fun h => absurd h f8, fun h0 => ?_, fun _ => ⟨wk.heap.size, rfl, q, _, Blk.mk' rfl rfl⟩, fun h2 => ?_, hI.n5, hI.n6, hI.n9, hI.n10⟩
      · obtain ⟨g1, g2, b0, b1, b2⟩ := hI.yd h0
        exact ⟨g1, g2, b0, b1.below hBa, b2.below hBa⟩
      · obtain ⟨x, a1, a2, a3, a4, a5⟩ := hI.got h2
        exact ⟨x, HRB.out x wk _ hBa a1, a2, a3, a4, fun h => absurd h f8⟩
    case zp8 =>
      intro dn V wk K hS hn hd hI hK
      have h7 : dn 7 = true := hd 7 (List.contains_iff_mem.1 (by kernel_rfl)) (by simp)
      have h4 : dn 4 = true := hd 4 (List.contains_iff_mem.1 (by kernel_rfl)) (by simp)
      have h2 := hI.c4 h4
      obtain ⟨B, hv7, hBW, f, hbk⟩ := hI.box h7
      obtain ⟨x, a1, a2, a3, a4, a5⟩ := hI.got h2
      have a4' := a4 h4
      have HII : Hid (CallI (fun _ _ => True) 2 0 wp dn V wk) := hI
      have HR : Hid ((fun _ _ => True) x wk ∧ V 2 = .tuple #[.agg #[.slice x.on.a x.on.n x.on.c, .slice x.os.a x.os.n x.os.c, .slice x.hs.a x.hs.n x.hs.c, .slice x.ms.a x.ms.n x.ms.c, .slice x.si.a x.si.n x.si.c, .slice x.so.a x.so.n x.so.c, .slice x.sf.a x.sf.n x.sf.c], .int .i64 2, .int .i64 0] ∧ (dn 3 = true → V 3 = .tuple #[.agg #[.slice x.on.a x.on.n x.on.c, .slice x.os.a x.os.n x.os.c, .slice x.hs.a x.hs.n x.hs.c, .slice x.ms.a x.ms.n x.ms.c, .slice x.si.a x.si.n x.si.c, .slice x.so.a x.so.n x.so.c, .slice x.sf.a x.sf.n x.sf.c], .int .i64 2, .int .i64 0]) ∧ Blk wk B 31 7 f ∧ V 7 = .pointer (some ⟨B, 0, none⟩)) := ⟨a1, a2, a3, hbk, hv7⟩
      have hz := hbk
      have zl := hz.lt
      have zf0 := hz.frozen 0
      have zc0 := hz.cell (j := 0) (by decide)
      have zf1 := hz.frozen 1
      have zc1 := hz.cell (j := 1) (by decide)
      have zf2 := hz.frozen 2
      have zc2 := hz.cell (j := 2) (by decide)
      have zf3 := hz.frozen 3
      have zc3 := hz.cell (j := 3) (by decide)
      have zf4 := hz.frozen 4
      have zc4 := hz.cell (j := 4) (by decide)
      have zf5 := hz.frozen 5
      have zc5 := hz.cell (j := 5) (by decide)
      have zf6 := hz.frozen 6
      have zc6 := hz.cell (j := 6) (by decide)
      clear hI a1 a2 a3 a4 a5 hz hbk
      refine wpOp_list 8 rfl ?_
      simp only [putAll, dstOf, List.getElem?_toArray, List.getElem?_cons_succ, List.getElem?_cons_zero, Act.put, List.setIfInBounds_toArray, List.set_cons_succ, List.set_cons_zero, a4', hv7] at hK ⊢
      go_wp2_with fail
      have hI := HII.out
      have KZ := set7_blk HR.out.2.2.2.1 (.slice x.on.a x.on.n x.on.c) (.slice x.os.a x.os.n x.os.c) (.slice x.hs.a x.hs.n x.hs.c) (.slice x.ms.a x.ms.n x.ms.c) (.slice x.si.a x.si.n x.si.c) (.slice x.so.a x.so.n x.so.c) (.slice x.sf.a x.sf.n x.sf.c)
      have hbz := set7_below (b := B) hI.bel hBW (.slice x.on.a x.on.n x.on.c) (.slice x.os.a x.os.n x.os.c) (.slice x.hs.a x.hs.n x.hs.c) (.slice x.ms.a x.ms.n x.ms.c) (.slice x.si.a x.si.n x.si.c) (.slice x.so.a x.so.n x.so.c) (.slice x.sf.a x.sf.n x.sf.c)
      have hRz := HRS.out x wk B f HR.out.2.2.2.1 (.slice x.on.a x.on.n x.on.c) (.slice x.os.a x.os.n x.os.c) (.slice x.hs.a x.hs.n x.hs.c) (.slice x.ms.a x.ms.n x.ms.c) (.slice x.si.a x.si.n x.si.c) (.slice x.so.a x.so.n x.so.c) (.slice x.sf.a x.sf.n x.sf.c) HR.out.1
      unfold set7 at KZ hbz hRz
      refine hK undef _ (regrown_of_below hbz) ⟨hbz, hI.c3, hI.c4, fun _ => ⟨h2, h7⟩, fun h0 => ?_, fun _ => ⟨B, HR.out.2.2.2.2, hBW, _, KZ⟩, fun _ => ⟨x, hRz, HR.out.2.1, HR.out.2.2.1, fun _ => a4', fun _ B' hB' => ?_⟩, hI.n5, hI.n6, hI.n9, hI.n10⟩
      · obtain ⟨g1, g2, b0, b1, b2⟩ := hI.yd h0
        have s7 : ∀ (q : Nat) (t : TypeId) (m : Nat) (z : Nat → Value), t ≠ 31 → Blk wk q t m z → Blk (set7 wk B (.slice x.on.a x.on.n x.on.c) (.slice x.os.a x.os.n x.os.c) (.slice x.hs.a x.hs.n x.hs.c) (.slice x.ms.a x.ms.n x.ms.c) (.slice x.si.a x.si.n x.si.c) (.slice x.so.a x.so.n x.so.c) (.slice x.sf.a x.sf.n x.sf.c)) q t m z := fun q t m z ht hb => by
          have hne := Blk.ne2 hb HR.out.2.2.2.1 ht
          unfold set7
          exact ((((((hb.other (a := ⟨B, 0, none⟩) hne _).other (a := ⟨B, 1, none⟩) hne _).other (a := ⟨B, 2, none⟩) hne _).other (a := ⟨B, 3, none⟩) hne _).other (a := ⟨B, 4, none⟩) hne _).other (a := ⟨B, 5, none⟩) hne _).other (a := ⟨B, 6, none⟩) hne _
        unfold set7 at s7
        exact ⟨g1, g2, b0, s7 _ _ _ _ (by decide) b1, s7 _ _ _ _ (by decide) b2⟩
      · have e : V 7 = .pointer (some ⟨B', 0, none⟩) := hB'
        rw [HR.out.2.2.2.2] at e
        simp only [Value.pointer.injEq, Option.some.injEq, Addr.mk.injEq, and_true] at e
        subst e
        exact KZ.congr (fun j hj => by match j, hj with | 0, _ => rfl | 1, _ => rfl | 2, _ => rfl | 3, _ => rfl | 4, _ => rfl | 5, _ => rfl | 6, _ => rfl)
    case zp9 =>
      intro dn V wk K hS hn hd hI hK
      have a4' := hI.n5 (hd 5 (List.contains_iff_mem.1 (by kernel_rfl)) (by simp))
      have HII : Hid (CallI (fun _ _ => True) 2 0 wp dn V wk) := hI
      clear hI
      refine wpOp_list 9 rfl ?_
      simp only [putAll, dstOf, List.getElem?_toArray, List.getElem?_cons_succ, List.getElem?_cons_zero, Act.put, List.setIfInBounds_toArray, List.set_cons_succ, List.set_cons_zero, a4'] at hK ⊢
      go_wp2_with fail
      have hI := HII.out
      exact hK _ _ hS ⟨hI.bel, hI.c3, hI.c4, hI.c8, hI.yd, hI.box, hI.got, hI.n5, hI.n6, fun _ => rfl, hI.n10⟩
    case zp10 =>
      intro dn V wk K hS hn hd hI hK
      have a4' := hI.n6 (hd 6 (List.contains_iff_mem.1 (by kernel_rfl)) (by simp))
      have HII : Hid (CallI (fun _ _ => True) 2 0 wp dn V wk) := hI
      clear hI
      refine wpOp_list 10 rfl ?_
      simp only [putAll, dstOf, List.getElem?_toArray, List.getElem?_cons_succ, List.getElem?_cons_zero, Act.put, List.setIfInBounds_toArray, List.set_cons_succ, List.set_cons_zero, a4'] at hK ⊢
      go_wp2_with fail
      have hI := HII.out
      exact hK _ _ hS ⟨hI.bel, hI.c3, hI.c4, hI.c8, hI.yd, hI.box, hI.got, hI.n5, hI.n6, hI.n9, fun _ => rfl⟩
    case zdone =>
      intro dn V wk hS hd hI
      refine NoPanic.normal ?_
      obtain ⟨B, hv7, hBW, f, hbk⟩ := hI.box (hd 7 (by simp))
      obtain ⟨x, hR, a2, a3, a4, a5⟩ := hI.got (hd 2 (by simp))
      have hv9 := hI.n9 (hd 9 (by simp))
      have hv10 := hI.n10 (hd 10 (by simp))
      have KX := a5 (hd 8 (by simp)) B hv7
      have hBel := hI.bel
      clear hI a2 a3 a4 a5 hbk hd hS
      simp only [putAll, dstOf, List.getElem?_toArray, List.getElem?_cons_succ, List.getElem?_cons_zero, Act.put, List.setIfInBounds_toArray, List.set_cons_succ, List.set_cons_zero, hv7, hv9, hv10]
      have HB1 : Hid (Below W1.heap.size W1 wk) := HB1.out.trans (hBel.mono HB1.out.size)
      have HX1 : Hid (OwnS 0 wk x1 ∧ Blk wk B2 31 7 (fun j => x1.cells.getD j default)) := ⟨OwnS.below HX1.out.1 hBel, HX1.out.2.below hBel⟩
      have K1 := HK1.out wk HB1.out
      clear KX hR hv7 hv9 hv10 HRB HRS HTB
      have rs0 : ∀ d os, (grow (redrawn wk d) os).cell? ⟨B1, 0, none⟩ = some (.slice (some ⟨gx + 3, 0, none⟩) 3 3) := fun d os => cell_regrown (K1.cell (j := 0) (by decide)) d os
      have rs1 : ∀ d os, (grow (redrawn wk d) os).cell? ⟨B1, 1, none⟩ = some (.slice (some ⟨gx + 6, 0, none⟩) 2 2) := fun d os => cell_regrown (K1.cell (j := 1) (by decide)) d os
      have rs2 : ∀ d os, (grow (redrawn wk d) os).cell? ⟨B1, 2, none⟩ = some (.slice (some ⟨gx + 7, 4, none⟩) 2 2) := fun d os => cell_regrown (K1.cell (j := 2) (by decide)) d os
      have rs3 : ∀ d os, (grow (redrawn wk d) os).cell? ⟨B1, 3, none⟩ = some (.slice (some ⟨gx + 8, 0, none⟩) 1 1) := fun d os => cell_regrown (K1.cell (j := 3) (by decide)) d os
      have rs4 : ∀ d os, (grow (redrawn wk d) os).cell? ⟨B1, 4, none⟩ = some (.slice (some ⟨gx + 9, 0, none⟩) 2 2) := fun d os => cell_regrown (K1.cell (j := 4) (by decide)) d os
      have rs5 : ∀ d os, (grow (redrawn wk d) os).cell? ⟨B1, 5, none⟩ = some (.slice (some ⟨gx + 10, 0, none⟩) 2 2) := fun d os => cell_regrown (K1.cell (j := 5) (by decide)) d os
      have rs6 : ∀ d os, (grow (redrawn wk d) os).cell? ⟨B1, 6, none⟩ = some (.slice (some ⟨gx + 11, 0, none⟩) 2 2) := fun d os => cell_regrown (K1.cell (j := 6) (by decide)) d os
      have xl := K1.lt
      clear K1
      have HTC : Hid (∀ g1 g2 wk, (yardP g1 g2).At wk → (busyC gx).At wk → Calls Try.prog 15 #[(yardP g1 g2).val, (busyC gx).val, .int .i64 1, .int .i64 0, .int .i64 0, .int .i64 (-1)] wk fun e w' => ∃ x : St, e = .returned (.tuple #[x.val, .int .i64 0, .int .i64 6]) ∧ (fun _ _ => True) x w' ∧ Below wk.heap.size wk w') := fun g1 g2 wk h1 h2 => by
        have h := Take_any (yardP g1 g2) (busyC gx) 1 0 0 (-1) wk h1 h2
        have e1 := (busyC3 g1 g2 gx).1
        rw [(busyC3 g1 g2 gx).2] at h
        refine h.mono fun e w' => ?_
        rintro ⟨x, rfl, h2, h3, h4, h5⟩
        rw [e1]
        exact ⟨x, rfl, trivial, h5⟩
      have HRB : Hid (∀ (x : St) (wk wj : World), Below wk.heap.size wk wj → (fun _ _ => True) x wk → (fun _ _ => True) x wj) := fun _ _ _ _ _ => trivial
      have HRS : Hid (∀ (x : St) (wk : World) (B : Nat) (f : Nat → Value), Blk wk B 31 7 f → ∀ v0 v1 v2 v3 v4 v5 v6, (fun _ _ => True) x wk → (fun _ _ => True) x (set7 wk B v0 v1 v2 v3 v4 v5 v6)) := fun _ _ _ _ _ _ _ _ _ _ _ _ _ => trivial
      go_wp2_with fail
      generalize hgq : wk = wq at *
      clear hgq
      refine wp_region_made7 (fun w' => ∃ p : Regrown, w' = grow (redrawn wq p.d) p.os) [1] [0, 2, 3, 4, 5, 6, 7, 8, 9, 10] (by kernel_rfl) (by kernel_rfl) (by kernel_rfl) (by kernel_rfl) (by kernel_rfl) (by kernel_rfl) (by kernel_rfl) (by kernel_rfl) (regrown_of_below ((Below.refl _ _).drew)) ?_
      simp only [picks, List.drop_succ_cons, List.drop_zero, List.take_succ_cons, List.take_zero, List.cons_append, List.nil_append]
      repeat (go_big_quiet_step (fail))
      refine wpQuiet_nil ?_
      clear rs0 rs1 rs2 rs3 rs4 rs5 rs6 xl
      refine ⟨CallI (fun _ _ => True) 0 6 wq, fun dn V w hS hd => ?zinit, List.forall_mem_cons.2 ⟨?zp0, List.forall_mem_cons.2 ⟨?zp2, List.forall_mem_cons.2 ⟨?zp3, List.forall_mem_cons.2 ⟨?zp4, List.forall_mem_cons.2 ⟨?zp5, List.forall_mem_cons.2 ⟨?zp6, List.forall_mem_cons.2 ⟨?zp7, List.forall_mem_cons.2 ⟨?zp8, List.forall_mem_cons.2 ⟨?zp9, List.forall_mem_cons.2 ⟨?zp10, List.forall_mem_nil _⟩⟩⟩⟩⟩⟩⟩⟩⟩⟩, ?zdone⟩
      case zinit =>
        have f : ∀ j, j ∈ [0, 2, 3, 4, 5, 6, 7, 8, 9, 10] → ¬ dn j = true := fun j hj h => by rw [hd j hj] at h; cases h
        exact ⟨below_of_regrown hS, fun h => absurd h (f 3 (by simp)), fun h => absurd h (f 4 (by simp)), fun h => absurd h (f 8 (by simp)), fun h => absurd h (f 0 (by simp)), fun h => absurd h (f 7 (by simp)), fun h => absurd h (f 2 (by simp)), fun h => absurd h (f 5 (by simp)), fun h => absurd h (f 6 (by simp)), fun h => absurd h (f 9 (by simp)), fun h => absurd h (f 10 (by simp))⟩
      case zp0 =>
        intro dn V wk K hS hn hd hI hK
        have HII : Hid (CallI (fun _ _ => True) 0 6 wq dn V wk) := hI
        have q := hI.bel.size
        clear hI
        refine wpOp_list 0 rfl ?_
        simp only [putAll, dstOf, List.getElem?_toArray, List.getElem?_cons_succ, List.getElem?_cons_zero, Act.put, List.setIfInBounds_toArray, List.set_cons_succ, List.set_cons_zero] at hK ⊢
        go_wp2_with fail
        refine (yard_any _).mono ?_
        rintro e wj ⟨g1, g2, rfl, -, -, k1, k2, hB2⟩
        go_wp2_with fail
        have hI := HII.out
        refine hK _ _ (regrown_of_below (hI.bel.trans (hB2.mono q))) ⟨hI.bel.trans (hB2.mono q), hI.c3, hI.c4, hI.c8, fun _ => ⟨g1, g2, rfl, k1, k2⟩, fun h7 => ?_, fun h2 => ?_, hI.n5, hI.n6, hI.n9, hI.n10⟩
        · obtain ⟨B, b1, b2, f, b3⟩ := hI.box h7
          exact ⟨B, b1, b2, f, b3.below hB2⟩
        · obtain ⟨x, a1, a2, a3, a4, a5⟩ := hI.got h2
          exact ⟨x, HRB.out x wk wj hB2 a1, a2, a3, a4, fun h8 B hb => (a5 h8 B hb).below hB2⟩
      case zp2 =>
        intro dn V wk K hS hn hd hI hK
        obtain ⟨g1, g2, hv0, k1, k2⟩ := hI.yd (hd 0 (List.contains_iff_mem.1 (by kernel_rfl)) (by simp))
        have HII : Hid (CallI (fun _ _ => True) 0 6 wq dn V wk) := hI
        have q := hI.bel.size
        clear hI
        have f3 : ¬ dn 3 = true := fun h => by rw [HII.out.c3 h] at hn; cases hn
        have f4 : ¬ dn 4 = true := fun h => by rw [HII.out.c4 h] at hn; cases hn
        have f8 : ¬ dn 8 = true := fun h => by rw [(HII.out.c8 h).1] at hn; cases hn
        refine wpOp_list 2 rfl ?_
        simp only [putAll, dstOf, List.getElem?_toArray, List.getElem?_cons_succ, List.getElem?_cons_zero, Act.put, List.setIfInBounds_toArray, List.set_cons_succ, List.set_cons_zero, hv0] at hK ⊢
        go_wp2_with fail
        refine (HTC.out g1 g2 wk (yardAt k1 k2) (HXA.out wk (HB1.out.trans (HII.out.bel.mono HB1.out.size)))).mono ?_
        rintro e wj ⟨x, rfl, hR, hB2⟩
        have HR : Hid ((fun _ _ => True) x wj) := hR
        clear hR k1 k2
        simp only [St.val]
        go_wp2_with fail
        have hI := HII.out
        refine hK _ _ (regrown_of_below (hI.bel.trans (hB2.mono q))) ⟨hI.bel.trans (hB2.mono q), fun _ => rfl, fun _ => rfl, fun h => absurd h f8, fun h0 => ?_, fun h7 => ?_, fun _ => ⟨x, HR.out, rfl, fun h => absurd h f3, fun h => absurd h f4, fun h => absurd h f8⟩, hI.n5, hI.n6, hI.n9, hI.n10⟩
        · obtain ⟨g1, g2, b0, b1, b2⟩ := hI.yd h0
          exact ⟨g1, g2, b0, b1.below hB2, b2.below hB2⟩
        · obtain ⟨B, b1, b2, f, b3⟩ := hI.box h7
          exact ⟨B, b1, b2, f, b3.below hB2⟩
      case zp3 =>
        intro dn V wk K hS hn hd hI hK
        have h2 : dn 2 = true := hd 2 (List.contains_iff_mem.1 (by kernel_rfl)) (by simp)
        obtain ⟨x, a1, a2, a3, a4, a5⟩ := hI.got h2
        have HII : Hid (CallI (fun _ _ => True) 0 6 wq dn V wk) := hI
        have HR : Hid ((fun _ _ => True) x wk ∧ V 2 = .tuple #[.agg #[.slice x.on.a x.on.n x.on.c, .slice x.os.a x.os.n x.os.c, .slice x.hs.a x.hs.n x.hs.c, .slice x.ms.a x.ms.n x.ms.c, .slice x.si.a x.si.n x.si.c, .slice x.so.a x.so.n x.so.c, .slice x.sf.a x.sf.n x.sf.c], .int .i64 0, .int .i64 6] ∧ (dn 4 = true → V 4 = .agg #[.slice x.on.a x.on.n x.on.c, .slice x.os.a x.os.n x.os.c, .slice x.hs.a x.hs.n x.hs.c, .slice x.ms.a x.ms.n x.ms.c, .slice x.si.a x.si.n x.si.c, .slice x.so.a x.so.n x.so.c, .slice x.sf.a x.sf.n x.sf.c]) ∧ (dn 8 = true → ∀ B, V 7 = .pointer (some ⟨B, 0, none⟩) → Blk wk B 31 7 (fun j => x.cells.getD j default))) := ⟨a1, a2, a4, a5⟩
        clear hI a1 a3 a4 a5
        refine wpOp_list 3 rfl ?_
        simp only [putAll, dstOf, List.getElem?_toArray, List.getElem?_cons_succ, List.getElem?_cons_zero, Act.put, List.setIfInBounds_toArray, List.set_cons_succ, List.set_cons_zero, a2] at hK ⊢
        go_wp2_with fail
        have hI := HII.out
        exact hK _ _ hS ⟨hI.bel, fun _ => h2, hI.c4, hI.c8, hI.yd, hI.box, fun _ => ⟨x, HR.out.1, HR.out.2.1, fun _ => rfl, HR.out.2.2.1, HR.out.2.2.2⟩, hI.n5, hI.n6, hI.n9, hI.n10⟩
      case zp4 =>
        intro dn V wk K hS hn hd hI hK
        have h3 : dn 3 = true := hd 3 (List.contains_iff_mem.1 (by kernel_rfl)) (by simp)
        have h2 := hI.c3 h3
        obtain ⟨x, a1, a2, a3, a4, a5⟩ := hI.got h2
        have a3' := a3 h3
        have HII : Hid (CallI (fun _ _ => True) 0 6 wq dn V wk) := hI
        have HR : Hid ((fun _ _ => True) x wk ∧ V 2 = .tuple #[.agg #[.slice x.on.a x.on.n x.on.c, .slice x.os.a x.os.n x.os.c, .slice x.hs.a x.hs.n x.hs.c, .slice x.ms.a x.ms.n x.ms.c, .slice x.si.a x.si.n x.si.c, .slice x.so.a x.so.n x.so.c, .slice x.sf.a x.sf.n x.sf.c], .int .i64 0, .int .i64 6] ∧ (dn 3 = true → V 3 = .tuple #[.agg #[.slice x.on.a x.on.n x.on.c, .slice x.os.a x.os.n x.os.c, .slice x.hs.a x.hs.n x.hs.c, .slice x.ms.a x.ms.n x.ms.c, .slice x.si.a x.si.n x.si.c, .slice x.so.a x.so.n x.so.c, .slice x.sf.a x.sf.n x.sf.c], .int .i64 0, .int .i64 6]) ∧ (dn 8 = true → ∀ B, V 7 = .pointer (some ⟨B, 0, none⟩) → Blk wk B 31 7 (fun j => x.cells.getD j default))) := ⟨a1, a2, a3, a5⟩
        clear hI a1 a2 a3 a4 a5
        refine wpOp_list 4 rfl ?_
        simp only [putAll, dstOf, List.getElem?_toArray, List.getElem?_cons_succ, List.getElem?_cons_zero, Act.put, List.setIfInBounds_toArray, List.set_cons_succ, List.set_cons_zero, a3'] at hK ⊢
        go_wp2_with fail
        have hI := HII.out
        exact hK _ _ hS ⟨hI.bel, hI.c3, fun _ => h2, hI.c8, hI.yd, hI.box, fun _ => ⟨x, HR.out.1, HR.out.2.1, HR.out.2.2.1, fun _ => rfl, HR.out.2.2.2⟩, hI.n5, hI.n6, hI.n9, hI.n10⟩
      case zp5 =>
        intro dn V wk K hS hn hd hI hK
        have h3 : dn 3 = true := hd 3 (List.contains_iff_mem.1 (by kernel_rfl)) (by simp)
        obtain ⟨x, a1, a2, a3, a4, a5⟩ := hI.got (hI.c3 h3)
        have a3' := a3 h3
        have HII : Hid (CallI (fun _ _ => True) 0 6 wq dn V wk) := hI
        clear hI a1 a2 a3 a4 a5
        refine wpOp_list 5 rfl ?_
        simp only [putAll, dstOf, List.getElem?_toArray, List.getElem?_cons_succ, List.getElem?_cons_zero, Act.put, List.setIfInBounds_toArray, List.set_cons_succ, List.set_cons_zero, a3'] at hK ⊢
        go_wp2_with fail
        have hI := HII.out
        exact hK _ _ hS ⟨hI.bel, hI.c3, hI.c4, hI.c8, hI.yd, hI.box, hI.got, fun _ => rfl, hI.n6, hI.n9, hI.n10⟩
      case zp6 =>
        intro dn V wk K hS hn hd hI hK
        have h3 : dn 3 = true := hd 3 (List.contains_iff_mem.1 (by kernel_rfl)) (by simp)
        obtain ⟨x, a1, a2, a3, a4, a5⟩ := hI.got (hI.c3 h3)
        have a3' := a3 h3
        have HII : Hid (CallI (fun _ _ => True) 0 6 wq dn V wk) := hI
        clear hI a1 a2 a3 a4 a5
        refine wpOp_list 6 rfl ?_
        simp only [putAll, dstOf, List.getElem?_toArray, List.getElem?_cons_succ, List.getElem?_cons_zero, Act.put, List.setIfInBounds_toArray, List.set_cons_succ, List.set_cons_zero, a3'] at hK ⊢
        go_wp2_with fail
        have hI := HII.out
        exact hK _ _ hS ⟨hI.bel, hI.c3, hI.c4, hI.c8, hI.yd, hI.box, hI.got, hI.n5, fun _ => rfl, hI.n9, hI.n10⟩
      case zp7 =>
        intro dn V wk K hS hn hd hI hK
        have HII : Hid (CallI (fun _ _ => True) 0 6 wq dn V wk) := hI
        have q := hI.bel.size
        clear hI
        refine wpOp_list 7 rfl ?_
        simp only [putAll, dstOf, List.getElem?_toArray, List.getElem?_cons_succ, List.getElem?_cons_zero, Act.put, List.setIfInBounds_toArray, List.set_cons_succ, List.set_cons_zero] at hK ⊢
        go_wp2_with fail
        have hI := HII.out
        have hBa := (Below.refl wk.heap.size wk).alloc (Nat.le_refl _) (.cells #[.slice .none 0 0, .slice .none 0 0, .slice .none 0 0, .slice .none 0 0, .slice .none 0 0, .slice .none 0 0, .slice .none 0 0] 31)
        have f8 : ¬ dn 8 = true := fun h => by rw [(hI.c8 h).2] at hn; cases hn
        refine hK _ _ (regrown_of_below (hI.bel.trans (hBa.mono q))) ⟨hI.bel.trans (hBa.mono q), hI.c3, hI.c4, fun h => absurd h f8, fun h0 => ?_, fun _ => ⟨wk.heap.size, rfl, q, _, Blk.mk' rfl rfl⟩, fun h2 => ?_, hI.n5, hI.n6, hI.n9, hI.n10⟩
        · obtain ⟨g1, g2, b0, b1, b2⟩ := hI.yd h0
          exact ⟨g1, g2, b0, b1.below hBa, b2.below hBa⟩
        · obtain ⟨x, a1, a2, a3, a4, a5⟩ := hI.got h2
          exact ⟨x, HRB.out x wk _ hBa a1, a2, a3, a4, fun h => absurd h f8⟩
      case zp8 =>
        intro dn V wk K hS hn hd hI hK
        have h7 : dn 7 = true := hd 7 (List.contains_iff_mem.1 (by kernel_rfl)) (by simp)
        have h4 : dn 4 = true := hd 4 (List.contains_iff_mem.1 (by kernel_rfl)) (by simp)
        have h2 := hI.c4 h4
        obtain ⟨B, hv7, hBW, f, hbk⟩ := hI.box h7
        obtain ⟨x, a1, a2, a3, a4, a5⟩ := hI.got h2
        have a4' := a4 h4
        have HII : Hid (CallI (fun _ _ => True) 0 6 wq dn V wk) := hI
        have HR : Hid ((fun _ _ => True) x wk ∧ V 2 = .tuple #[.agg #[.slice x.on.a x.on.n x.on.c, .slice x.os.a x.os.n x.os.c, .slice x.hs.a x.hs.n x.hs.c, .slice x.ms.a x.ms.n x.ms.c, .slice x.si.a x.si.n x.si.c, .slice x.so.a x.so.n x.so.c, .slice x.sf.a x.sf.n x.sf.c], .int .i64 0, .int .i64 6] ∧ (dn 3 = true → V 3 = .tuple #[.agg #[.slice x.on.a x.on.n x.on.c, .slice x.os.a x.os.n x.os.c, .slice x.hs.a x.hs.n x.hs.c, .slice x.ms.a x.ms.n x.ms.c, .slice x.si.a x.si.n x.si.c, .slice x.so.a x.so.n x.so.c, .slice x.sf.a x.sf.n x.sf.c], .int .i64 0, .int .i64 6]) ∧ Blk wk B 31 7 f ∧ V 7 = .pointer (some ⟨B, 0, none⟩)) := ⟨a1, a2, a3, hbk, hv7⟩
        have hz := hbk
        have zl := hz.lt
        have zf0 := hz.frozen 0
        have zc0 := hz.cell (j := 0) (by decide)
        have zf1 := hz.frozen 1
        have zc1 := hz.cell (j := 1) (by decide)
        have zf2 := hz.frozen 2
        have zc2 := hz.cell (j := 2) (by decide)
        have zf3 := hz.frozen 3
        have zc3 := hz.cell (j := 3) (by decide)
        have zf4 := hz.frozen 4
        have zc4 := hz.cell (j := 4) (by decide)
        have zf5 := hz.frozen 5
        have zc5 := hz.cell (j := 5) (by decide)
        have zf6 := hz.frozen 6
        have zc6 := hz.cell (j := 6) (by decide)
        clear hI a1 a2 a3 a4 a5 hz hbk
        refine wpOp_list 8 rfl ?_
        simp only [putAll, dstOf, List.getElem?_toArray, List.getElem?_cons_succ, List.getElem?_cons_zero, Act.put, List.setIfInBounds_toArray, List.set_cons_succ, List.set_cons_zero, a4', hv7] at hK ⊢
        go_wp2_with fail
        have hI := HII.out
        have KZ := set7_blk HR.out.2.2.2.1 (.slice x.on.a x.on.n x.on.c) (.slice x.os.a x.os.n x.os.c) (.slice x.hs.a x.hs.n x.hs.c) (.slice x.ms.a x.ms.n x.ms.c) (.slice x.si.a x.si.n x.si.c) (.slice x.so.a x.so.n x.so.c) (.slice x.sf.a x.sf.n x.sf.c)
        have hbz := set7_below (b := B) hI.bel hBW (.slice x.on.a x.on.n x.on.c) (.slice x.os.a x.os.n x.os.c) (.slice x.hs.a x.hs.n x.hs.c) (.slice x.ms.a x.ms.n x.ms.c) (.slice x.si.a x.si.n x.si.c) (.slice x.so.a x.so.n x.so.c) (.slice x.sf.a x.sf.n x.sf.c)
        have hRz := HRS.out x wk B f HR.out.2.2.2.1 (.slice x.on.a x.on.n x.on.c) (.slice x.os.a x.os.n x.os.c) (.slice x.hs.a x.hs.n x.hs.c) (.slice x.ms.a x.ms.n x.ms.c) (.slice x.si.a x.si.n x.si.c) (.slice x.so.a x.so.n x.so.c) (.slice x.sf.a x.sf.n x.sf.c) HR.out.1
        unfold set7 at KZ hbz hRz
        refine hK undef _ (regrown_of_below hbz) ⟨hbz, hI.c3, hI.c4, fun _ => ⟨h2, h7⟩, fun h0 => ?_, fun _ => ⟨B, HR.out.2.2.2.2, hBW, _, KZ⟩, fun _ => ⟨x, hRz, HR.out.2.1, HR.out.2.2.1, fun _ => a4', fun _ B' hB' => ?_⟩, hI.n5, hI.n6, hI.n9, hI.n10⟩
        · obtain ⟨g1, g2, b0, b1, b2⟩ := hI.yd h0
          have s7 : ∀ (q : Nat) (t : TypeId) (m : Nat) (z : Nat → Value), t ≠ 31 → Blk wk q t m z → Blk (set7 wk B (.slice x.on.a x.on.n x.on.c) (.slice x.os.a x.os.n x.os.c) (.slice x.hs.a x.hs.n x.hs.c) (.slice x.ms.a x.ms.n x.ms.c) (.slice x.si.a x.si.n x.si.c) (.slice x.so.a x.so.n x.so.c) (.slice x.sf.a x.sf.n x.sf.c)) q t m z := fun q t m z ht hb => by
            have hne := Blk.ne2 hb HR.out.2.2.2.1 ht
            unfold set7
            exact ((((((hb.other (a := ⟨B, 0, none⟩) hne _).other (a := ⟨B, 1, none⟩) hne _).other (a := ⟨B, 2, none⟩) hne _).other (a := ⟨B, 3, none⟩) hne _).other (a := ⟨B, 4, none⟩) hne _).other (a := ⟨B, 5, none⟩) hne _).other (a := ⟨B, 6, none⟩) hne _
          unfold set7 at s7
          exact ⟨g1, g2, b0, s7 _ _ _ _ (by decide) b1, s7 _ _ _ _ (by decide) b2⟩
        · have e : V 7 = .pointer (some ⟨B', 0, none⟩) := hB'
          rw [HR.out.2.2.2.2] at e
          simp only [Value.pointer.injEq, Option.some.injEq, Addr.mk.injEq, and_true] at e
          subst e
          exact KZ.congr (fun j hj => by match j, hj with | 0, _ => rfl | 1, _ => rfl | 2, _ => rfl | 3, _ => rfl | 4, _ => rfl | 5, _ => rfl | 6, _ => rfl)
      case zp9 =>
        intro dn V wk K hS hn hd hI hK
        have a4' := hI.n5 (hd 5 (List.contains_iff_mem.1 (by kernel_rfl)) (by simp))
        have HII : Hid (CallI (fun _ _ => True) 0 6 wq dn V wk) := hI
        clear hI
        refine wpOp_list 9 rfl ?_
        simp only [putAll, dstOf, List.getElem?_toArray, List.getElem?_cons_succ, List.getElem?_cons_zero, Act.put, List.setIfInBounds_toArray, List.set_cons_succ, List.set_cons_zero, a4'] at hK ⊢
        go_wp2_with fail
        have hI := HII.out
        exact hK _ _ hS ⟨hI.bel, hI.c3, hI.c4, hI.c8, hI.yd, hI.box, hI.got, hI.n5, hI.n6, fun _ => rfl, hI.n10⟩
      case zp10 =>
        intro dn V wk K hS hn hd hI hK
        have a4' := hI.n6 (hd 6 (List.contains_iff_mem.1 (by kernel_rfl)) (by simp))
        have HII : Hid (CallI (fun _ _ => True) 0 6 wq dn V wk) := hI
        clear hI
        refine wpOp_list 10 rfl ?_
        simp only [putAll, dstOf, List.getElem?_toArray, List.getElem?_cons_succ, List.getElem?_cons_zero, Act.put, List.setIfInBounds_toArray, List.set_cons_succ, List.set_cons_zero, a4'] at hK ⊢
        go_wp2_with fail
        have hI := HII.out
        exact hK _ _ hS ⟨hI.bel, hI.c3, hI.c4, hI.c8, hI.yd, hI.box, hI.got, hI.n5, hI.n6, hI.n9, fun _ => rfl⟩
      case zdone =>
        intro dn V wk hS hd hI
        refine NoPanic.normal ?_
        obtain ⟨B, hv7, hBW, f, hbk⟩ := hI.box (hd 7 (by simp))
        obtain ⟨x, hR, a2, a3, a4, a5⟩ := hI.got (hd 2 (by simp))
        have hv9 := hI.n9 (hd 9 (by simp))
        have hv10 := hI.n10 (hd 10 (by simp))
        have KX := a5 (hd 8 (by simp)) B hv7
        have hBel := hI.bel
        clear hI a2 a3 a4 a5 hbk hd hS
        simp only [putAll, dstOf, List.getElem?_toArray, List.getElem?_cons_succ, List.getElem?_cons_zero, Act.put, List.setIfInBounds_toArray, List.set_cons_succ, List.set_cons_zero, hv7, hv9, hv10]
        have HX2 : Hid (OwnS 0 wk x1 ∧ Blk wk B2 31 7 (fun j => x1.cells.getD j default)) := ⟨OwnS.below HX1.out.1 hBel, HX1.out.2.below hBel⟩
        have HBZ := HB1.out.trans (hBel.mono HB1.out.size)
        have HBZ' : Hid (Below w.heap.size w wk) := HWB.out.trans (HBZ.mono HWB.out.size)
        clear KX hR hv7 hv9 hv10 HRB HRS HTC HX1 HB1 HBZ
        obtain ⟨m1, p0, p1, p2, p3, p4, p5, p6⟩ := Boxed.of HX2.out.2
        have rq0 : ∀ d os, (grow (redrawn wk d) os).cell? ⟨B2, 0, none⟩ = some (.slice x1.on.a x1.on.n x1.on.c) := fun d os => cell_regrown p0 d os
        have rq1 : ∀ d os, (grow (redrawn wk d) os).cell? ⟨B2, 1, none⟩ = some (.slice x1.os.a x1.os.n x1.os.c) := fun d os => cell_regrown p1 d os
        have rq2 : ∀ d os, (grow (redrawn wk d) os).cell? ⟨B2, 2, none⟩ = some (.slice x1.hs.a x1.hs.n x1.hs.c) := fun d os => cell_regrown p2 d os
        have rq3 : ∀ d os, (grow (redrawn wk d) os).cell? ⟨B2, 3, none⟩ = some (.slice x1.ms.a x1.ms.n x1.ms.c) := fun d os => cell_regrown p3 d os
        have rq4 : ∀ d os, (grow (redrawn wk d) os).cell? ⟨B2, 4, none⟩ = some (.slice x1.si.a x1.si.n x1.si.c) := fun d os => cell_regrown p4 d os
        have rq5 : ∀ d os, (grow (redrawn wk d) os).cell? ⟨B2, 5, none⟩ = some (.slice x1.so.a x1.so.n x1.so.c) := fun d os => cell_regrown p5 d os
        have rq6 : ∀ d os, (grow (redrawn wk d) os).cell? ⟨B2, 6, none⟩ = some (.slice x1.sf.a x1.sf.n x1.sf.c) := fun d os => cell_regrown p6 d os
        have hX : Below wk.heap.size wk wk.drew := (Below.refl _ _).drew
        clear p0 p1 p2 p3 p4 p5 p6
        go_wp2_with fail
        refine wp_region_ordS (fun w' => ∃ p : Regrown, w' = grow (redrawn wk p.d) p.os) ((List.range' 0 19).map (fun i => (false, i)) ++ [(true, 19), (false, 20), (false, 21), (false, 22), (false, 23)]) (by kernel_rfl) (by kernel_rfl) (by kernel_rfl) (by kernel_rfl) (regrown_of_below hX) ?_
        refine wpOrdS_one 0 (by decide) ?_
        simp only [List.drop_zero, List.take_succ_cons, List.take_zero]
        go_wp2_with fail
        refine ⟨regrown_of_below hX, ?_⟩
        refine wpOrdS_one 1 (by decide) ?_
        simp only [List.drop_succ_cons, List.drop_zero, List.take_succ_cons, List.take_zero]
        go_wp2_with fail
        refine ⟨regrown_of_below hX, ?_⟩
        refine wpOrdS_one 2 (by decide) ?_
        simp only [List.drop_succ_cons, List.drop_zero, List.take_succ_cons, List.take_zero]
        go_wp2_with fail
        refine ⟨regrown_of_below hX, ?_⟩
        refine wpOrdS_one 3 (by decide) ?_
        simp only [List.drop_succ_cons, List.drop_zero, List.take_succ_cons, List.take_zero]
        go_wp2_with fail
        refine ⟨regrown_of_below hX, ?_⟩
        refine wpOrdS_one 4 (by decide) ?_
        simp only [List.drop_succ_cons, List.drop_zero, List.take_succ_cons, List.take_zero]
        go_wp2_with fail
        refine ⟨regrown_of_below hX, ?_⟩
        refine wpOrdS_one 5 (by decide) ?_
        simp only [List.drop_succ_cons, List.drop_zero, List.take_succ_cons, List.take_zero]
        go_wp2_with fail
        refine ⟨regrown_of_below hX, ?_⟩
        refine wpOrdS_one 6 (by decide) ?_
        simp only [List.drop_succ_cons, List.drop_zero, List.take_succ_cons, List.take_zero]
        go_wp2_with fail
        refine ⟨regrown_of_below hX, ?_⟩
        refine wpOrdS_one 7 (by decide) ?_
        simp only [List.drop_succ_cons, List.drop_zero, List.take_succ_cons, List.take_zero]
        go_wp2_with fail
        refine ⟨regrown_of_below hX, ?_⟩
        refine wpOrdS_one 8 (by decide) ?_
        simp only [List.drop_succ_cons, List.drop_zero, List.take_succ_cons, List.take_zero]
        go_wp2_with fail
        refine ⟨regrown_of_below hX, ?_⟩
        refine wpOrdS_one 9 (by decide) ?_
        simp only [List.drop_succ_cons, List.drop_zero, List.take_succ_cons, List.take_zero]
        go_wp2_with fail
        refine ⟨regrown_of_below hX, ?_⟩
        refine wpOrdS_one 10 (by decide) ?_
        simp only [List.drop_succ_cons, List.drop_zero, List.take_succ_cons, List.take_zero]
        go_wp2_with fail
        refine ⟨regrown_of_below hX, ?_⟩
        refine wpOrdS_one 11 (by decide) ?_
        simp only [List.drop_succ_cons, List.drop_zero, List.take_succ_cons, List.take_zero]
        go_wp2_with fail
        refine ⟨regrown_of_below hX, ?_⟩
        refine wpOrdS_one 12 (by decide) ?_
        simp only [List.drop_succ_cons, List.drop_zero, List.take_succ_cons, List.take_zero]
        go_wp2_with fail
        refine ⟨regrown_of_below hX, ?_⟩
        refine wpOrdS_one 13 (by decide) ?_
        simp only [List.drop_succ_cons, List.drop_zero, List.take_succ_cons, List.take_zero]
        go_wp2_with fail
        refine ⟨regrown_of_below hX, ?_⟩
        refine wpOrdS_one 14 (by decide) ?_
        simp only [List.drop_succ_cons, List.drop_zero, List.take_succ_cons, List.take_zero]
        go_wp2_with fail
        refine ⟨regrown_of_below hX, ?_⟩
        refine wpOrdS_one 15 (by decide) ?_
        simp only [List.drop_succ_cons, List.drop_zero, List.take_succ_cons, List.take_zero]
        go_wp2_with fail
        refine ⟨regrown_of_below hX, ?_⟩
        refine wpOrdS_one 16 (by decide) ?_
        simp only [List.drop_succ_cons, List.drop_zero, List.take_succ_cons, List.take_zero]
        go_wp2_with fail
        refine ⟨regrown_of_below hX, ?_⟩
        refine wpOrdS_one 17 (by decide) ?_
        simp only [List.drop_succ_cons, List.drop_zero, List.take_succ_cons, List.take_zero]
        go_wp2_with fail
        refine ⟨regrown_of_below hX, ?_⟩
        refine wpOrdS_one 18 (by decide) ?_
        simp only [List.drop_succ_cons, List.drop_zero, List.take_succ_cons, List.take_zero]
        go_wp2_with fail
        refine ⟨regrown_of_below hX, ?_⟩
        refine wpOrdS_first 19 rfl rfl ?_
        go_big_quiet_step (fail)
        refine wpQuiet_nil ?_
        refine wpOrdS_one 20 (by decide) ?_
        simp only [List.drop_succ_cons, List.drop_zero, List.take_succ_cons, List.take_zero]
        go_wp2_with fail
        refine (busy_any _).mono ?_
        rintro e wb ⟨gz, rfl, -, bz, hB⟩
        have hX := hX.trans (hB.mono hX.size)
        clear hB
        simp only [busyS, St.val]
        go_wp2_with fail
        refine ⟨regrown_of_below hX, ?_⟩
        refine wpOrdS_one 21 (by decide) ?_
        simp only [List.drop_succ_cons, List.drop_zero, List.take_succ_cons, List.take_zero]
        go_wp2_with fail
        refine (SameStates_yes x1 (busyS gz 2 0) wb (OwnS.below HX2.out.1 hX).at (busyAt bz) (HSX.out gz) (by have h : x1.os.n = 2 := (HSX.out gz).os.1; omega) (by have h : x1.ms.n = 1 := (HSX.out gz).ms.1; omega) (fun i hi => by
          have h : (x1.os.z i).ls.n = ((busyS gz 2 0).os.z i).ls.n := ((HSX.out gz).os.2 i hi).2.1
          have hn : x1.os.n = 2 := (HSX.out gz).os.1
          rw [h]
          have hi' : i < 2 := by omega
          match i, hi' with
          | 0, _ => show 2 ≤ 1000; omega
          | 1, _ => show 1 ≤ 1000; omega)).mono ?_
        rintro e wc ⟨rfl, hB⟩
        have hX := hX.trans (hB.mono hX.size)
        clear hB
        go_wp2_with fail
        refine ⟨regrown_of_below hX, ?_⟩
        refine wpOrdS_one 22 (by decide) ?_
        simp only [List.drop_succ_cons, List.drop_zero, List.take_succ_cons, List.take_zero]
        go_wp2_with fail
        refine ⟨regrown_of_below hX, ?_⟩
        refine wpOrdS_one 23 (by decide) ?_
        simp only [List.drop_succ_cons, List.drop_zero, List.take_succ_cons, List.take_zero]
        go_wp2_with fail
        refine ⟨regrown_of_below hX, ?_⟩
        refine NoPanic.normal ?_
        go_wp2_with fail
        go_ret
        exact ⟨rfl, HBZ'.out.trans (hX.mono HBZ'.out.size)⟩
end Go.Proofs.Ytbcacebifpagpac
namespace Go.Proofs.Ytbcacebifpagpac
open Go.RowKit
set_option linter.unusedVariables false
theorem AllocOK.same {p : Pl} {s x y : St} {order line n but : Int} (a : AllocOK p s order line n but x) (b : AllocOK p s order line n but y) : SameT x y := by
  by_cases h : allocE p s order line n but = 0
  · exact (a.1 h).same (b.1 h)
  · exact none_same2 (a.2 h) (b.2 h)
theorem AllocOK.bound {p : Pl} {s x : St} {order line n but : Int} (a : AllocOK p s order line n but x) : x.os.n ≤ 1000 ∧ x.ms.n ≤ 1000 ∧ ∀ i, i < x.os.n → (x.os.z i).ls.n ≤ 1000 := by
  by_cases h : allocE p s order line n but = 0
  · have f := (rightT (allocIn h).st).fm
    have T := a.1 h
    have o4 := f.os4
    have m8 := f.ms8
    have e1 := T.os.1
    have e2 := T.ms.1
    refine ⟨by omega, by omega, fun i hi => ?_⟩
    rw [(T.os.2 i hi).2.1]
    have := f.lns i (by omega)
    omega
  · obtain ⟨a1, a2, a3, a4, a5, a6, a7⟩ := a.2 h
    exact ⟨by omega, by omega, fun i hi => absurd hi (by omega)⟩
end Go.Proofs.Ytbcacebifpagpac
namespace Go.Proofs.Ytbcacebifpagpac
open Go.RowKit
set_option linter.unusedVariables false
structure TakeIn (p : Pl) (s : St) (o l : Nat) (n : Int) : Prop where
  fm : Formed p s
  av : ∀ b, b < p.nb → 0 ≤ availZ s b ((s.os.z o).ls.z l).o.toNat
  on : o < s.os.n
  ln : l < (s.os.z o).ls.n
  n0 : 0 ≤ n
  bk : n ≤ ((s.os.z o).ls.z l).n
  sum : ((s.os.z o).ls.z l).n + keptS s.hs.z o l s.hs.n ≤ 200
def avT (s : St) (o l : Nat) (b : Int) : Int := availZ s b.toNat ((s.os.z o).ls.z l).o.toNat
section
variable {p : Pl} {s x : St} {o l : Nat} {n : Int} {L : List Int} {t : Tk}
theorem TakeIn.good (h : TakeIn p s o l n) : 0 ≤ ((s.os.z o).ls.z l).o ∧ ((s.os.z o).ls.z l).o < p.ns := (badLine_no (h.fm.line _ h.on _ h.ln)).1
theorem TakeIn.tk (h : TakeIn p s o l n) (hL : L.Pairwise (fun x y => ¬ x = y)) (hm : ∀ x, x ∈ L → 0 ≤ x ∧ x < p.nb) : TkOK (avT s o l) n L (Tk.go (avT s o l) n L) := by
  refine tkOK h.n0 hL (fun x hx => ?_) (fun x hx => ?_)
  · have := hm x hx
    exact h.av _ (by omega)
  · have := hm x hx
    have := h.fm.sh.pl.nb6
    omega
end
end Go.Proofs.Ytbcacebifpagpac
namespace Go.Proofs.Ytbcacebifpagpac
open Go.RowKit
set_option linter.unusedVariables false
theorem frL_has {p : Pl} {f : Bool} {b : Nat} : ∀ {k : Nat}, b < k → (p.zb b).front = f → ((b : Nat) : Int) ∈ frL p f k
  | k + 1, hb, hf => by
    by_cases hbk : b = k
    · subst hbk
      rw [frL_hit hf]
      simp
    · have h := frL_has (k := k) (by omega) hf
      by_cases hk : (p.zb k).front = f
      · rw [frL_hit hk]; simp [h]
      · rw [frL_miss hk]; exact h
theorem way_has {p : Pl} {b : Nat} (hb : b < p.nb) : ((b : Nat) : Int) ∈ wayL p := by
  unfold wayL
  rw [List.mem_append]
  cases hf : (p.zb b).front
  · exact Or.inr (frL_has hb hf)
  · exact Or.inl (frL_has hb hf)
theorem Took.trans {s y z : St} {o l : Nat} {k m : Int} {t1 t2 : Tk} (a : Took s o l k t1 y) (b : Took y o l m t2 z) : Took s o l (k + m) ⟨t1.left + t2.left, fun c => t1.took c + t2.took c⟩ z := by
  refine ⟨⟨b.on.1.trans a.on.1, fun i hi => ?_⟩, ⟨b.os.1.trans a.os.1, fun i hi => ?_⟩, b.right, fun e f g => ?_, ⟨b.ms.1.trans a.ms.1, fun j hj => (b.ms.2 j hj).trans (a.ms.2 j (by rw [← b.ms.1]; exact hj))⟩, ⟨b.si.1.trans a.si.1, fun j hj => (b.si.2 j hj).trans (a.si.2 j (by rw [← b.si.1]; exact hj))⟩, ⟨b.so.1.trans a.so.1, fun j hj => (b.so.2 j hj).trans (a.so.2 j (by rw [← b.so.1]; exact hj))⟩, ⟨b.sf.1.trans a.sf.1, fun j hj => (b.sf.2 j hj).trans (a.sf.2 j (by rw [← b.sf.1]; exact hj))⟩⟩
  · have x := b.on.2 i hi
    have y' := a.on.2 i (by rw [← b.on.1]; exact hi)
    exact ⟨x.1.trans y'.1, fun j hj => (x.2 j hj).trans (y'.2 j (by rw [← x.1]; exact hj))⟩
  · have x := b.os.2 i hi
    have y' := a.os.2 i (by rw [← b.os.1]; exact hi)
    refine ⟨x.1.trans y'.1, x.2.1.trans y'.2.1, fun j hj => ?_⟩
    rw [x.2.2 j hj, y'.2.2 j (by rw [← x.2.1]; exact hj)]
    by_cases hij : i = o ∧ j = l
    · rw [if_pos hij, if_pos hij, if_pos hij]
      unfold lessL
      congr 1
      show _ - (k - t1.left) - (m - t2.left) = _ - (k + m - (t1.left + t2.left))
      omega
    · rw [if_neg hij, if_neg hij, if_neg hij]
  · rw [b.kept, a.kept]
    show _ = _ + if _ then t1.took g + t2.took g else 0
    by_cases hef : e = o ∧ f = l
    · rw [if_pos hef, if_pos hef, if_pos hef]; omega
    · rw [if_neg hef, if_neg hef, if_neg hef]; omega
theorem go_stays {av : Int → Int} {n : Int} {b : Int} : ∀ {r l : List Int}, b ∉ r → (Tk.go av n (l ++ r)).took b = (Tk.go av n l).took b
  | [], l, _ => by rw [List.append_nil]
  | c :: r, l, hb => by
    have e : l ++ c :: r = (l ++ [c]) ++ r := by simp
    rw [e, go_stays (r := r) (l := l ++ [c]) (fun h => hb (by simp [h])), Tk.go_more]
    show (Tk.go av n l).took b + (if b = c then _ else 0) = _
    rw [if_neg (fun e => hb (by simp [e]))]
    omega
theorem two_parts {av av' : Int → Int} {k m : Int} {F : List Int} (hF : F.Pairwise (fun x y => ¬ x = y)) (hav : ∀ b, b ∈ F → 0 ≤ av b) (h6 : ∀ b, b ∈ F → 0 ≤ b ∧ b < 6) (hk : 0 ≤ k) (hm : 0 ≤ m) (hav' : ∀ b, b ∈ F → av' b = av b - (Tk.go av k F).took b) :
    ∀ j, j ≤ F.length → (Tk.go av (k + m) (F.take j)).left = (Tk.go av k (F.take j)).left + (Tk.go av' m (F.take j)).left ∧ ∀ x, (Tk.go av (k + m) (F.take j)).took x = (Tk.go av k (F.take j)).took x + (Tk.go av' m (F.take j)).took x
  | 0, _ => by
    rw [List.take_zero]
    exact ⟨rfl, fun x => rfl⟩
  | j + 1, hj => by
    obtain ⟨h1, h2⟩ := two_parts hF hav h6 hk hm hav' j (by omega)
    have hlt : j < F.length := by omega
    have e : F.take (j + 1) = F.take j ++ [F[j]] := by rw [List.take_add_one, List.getElem?_eq_getElem hlt]; rfl
    have hb : F[j] ∈ F := List.getElem_mem hlt
    have hsub : (F.take j).Pairwise (fun x y => ¬ x = y) := hF.sublist (List.take_sublist _ _)
    have hnot : F[j] ∉ F.take j := fun h => by
      obtain ⟨q, hq, hq2⟩ := List.mem_iff_getElem.1 h
      rw [List.length_take] at hq
      rw [List.getElem_take] at hq2
      exact List.pairwise_iff_getElem.1 hF q j (by omega) hlt (by omega) hq2
    have hrest : F[j] ∉ F.drop (j + 1) := fun h => by
      obtain ⟨q, hq, hq2⟩ := List.mem_iff_getElem.1 h
      rw [List.length_drop] at hq
      rw [List.getElem_drop] at hq2
      exact List.pairwise_iff_getElem.1 hF j (j + 1 + q) hlt (by omega) (by omega) hq2.symm
    have k1 := tkOK (av := av) hk hsub (fun b hb => hav b (List.mem_of_mem_take hb)) (fun b hb => h6 b (List.mem_of_mem_take hb))
    have a1 : av' F[j] = av F[j] - min (Tk.go av k (F.take j)).left (av F[j]) := by
      rw [hav' _ hb]
      have s := go_stays (av := av) (n := k) (b := F[j]) (r := F.drop (j + 1)) (l := F.take (j + 1)) hrest
      rw [List.take_append_drop] at s
      rw [s, e, Tk.go_more]
      show _ - ((Tk.go av k (F.take j)).took F[j] + if F[j] = F[j] then min (Tk.go av k (F.take j)).left (av F[j]) else 0) = _
      rw [if_pos rfl, k1.other _ hnot]
      omega
    have hl0 := k1.left0
    have hv := hav _ hb
    have e0 : min (Tk.go av (k + m) (F.take j)).left (av F[j]) = min (Tk.go av k (F.take j)).left (av F[j]) + min (Tk.go av' m (F.take j)).left (av' F[j]) := by
      have hm0 : 0 ≤ (Tk.go av' m (F.take j)).left := by
        have k2 := tkOK (av := av') hm hsub (fun b hb' => by
          have hbF := List.mem_of_mem_take hb'
          rw [hav' b hbF]
          have := (tkOK (av := av) hk hF hav h6).had b hbF
          omega) (fun b hb => h6 b (List.mem_of_mem_take hb))
        exact k2.left0
      rw [h1, a1]
      omega
    rw [e, Tk.go_more, Tk.go_more, Tk.go_more]
    refine ⟨?_, fun x => ?_⟩
    · show (Tk.go av (k + m) (F.take j)).left - min _ _ = (Tk.go av k (F.take j)).left - min _ _ + ((Tk.go av' m (F.take j)).left - min _ _)
      rw [e0, h1]
      omega
    · show (Tk.go av (k + m) (F.take j)).took x + (if x = F[j] then min _ _ else 0) = (Tk.go av k (F.take j)).took x + (if x = F[j] then min _ _ else 0) + ((Tk.go av' m (F.take j)).took x + (if x = F[j] then min _ _ else 0))
      rw [h2 x]
      by_cases hx : x = F[j]
      · rw [if_pos hx, if_pos hx, if_pos hx, e0]; omega
      · rw [if_neg hx, if_neg hx, if_neg hx]; omega
section
variable {p : Pl} {s x y z : St} {order line n but k : Int}
theorem AllocIn.less (h : AllocIn p s order line n but) (hk : 0 ≤ k ∧ k ≤ n) : allocE p s order line k but = 0 := by
  have h1 : allocR p s order line k but = false := by
    unfold allocR missL
    have h2 := h.n2
    have on := h.on
    have o0 := h.o0
    have ln := h.ln
    have l0 := h.l0
    rw [inB_mk (by omega), inB_mk (by omega), inB_mk (by omega)]
    rcases h.bt with e | e
    · rw [e]; rfl
    · rw [inB_mk (by omega)]; simp
  exact allocE_ok h.st h1 h.kd (by have := h.bk; omega)
theorem AllocIn.leftB (h : AllocIn p s order line n but) : 0 ≤ allocL p s order line n but ∧ allocL p s order line n but ≤ n := by
  have e := h.less ⟨h.n0, Int.le_refl _⟩
  have k := h.tk (wayT_apart p but) (fun x hx => h.way x hx)
  unfold allocL
  rw [if_pos e]
  exact ⟨k.left0, k.leftn⟩
theorem AllocIn.rightX (h : AllocIn p s order line n but) (hx : AllocOK p s order line n but x) : RightT p x :=
  (hx.1 (h.less ⟨h.n0, Int.le_refl _⟩)).rightAt h (fun x hx => h.way x hx) (h.tk (wayT_apart p but) (fun x hx => h.way x hx))
theorem AllocIn.none (h : AllocIn p s order line n but) (hx : AllocOK p s order line n but x) (hl : 0 < allocL p s order line n but) {b : Nat} (hb : b < p.nb) (hbut : ¬ ((b : Nat) : Int) = but) : availZ x b (lineAt s order line).o.toNat = 0 := by
  have e := h.less ⟨h.n0, Int.le_refl _⟩
  have T := hx.1 e
  have r := h.rightX hx
  have k := h.tk (wayT_apart p but) (fun x hx => h.way x hx)
  unfold allocL at hl
  rw [if_pos e] at hl
  have hg := h.good
  have hm : ((b : Nat) : Int) ∈ wayT p but := wayT_mem.2 ⟨way_has hb, hbut⟩
  have ha := k.all hl b hm
  rw [T.avail (rightT h.st).fm r.fm h.on h.ln hb (by omega), if_pos (by unfold lineAt; unfold lineAt at hg; omega)]
  show _ - (tkOf p s (lineAt s order line).o n but).took b = 0
  have ha' : (tkOf p s (lineAt s order line).o n but).took b = availZ s b (lineAt s order line).o.toNat := ha
  rw [ha']
  omega
theorem AllocIn.second (h : AllocIn p s order line n but) (hk : 0 ≤ k ∧ k ≤ n) (hy : AllocOK p s order line k but y) : AllocIn p y order line (n - k) but ∧ (lineAt y order line).o = (lineAt s order line).o := by
  have e := h.less hk
  have h' := allocIn e
  have T := hy.1 e
  have r := h'.rightX hy
  have hl := h'.leftB
  have ho : order.toNat < y.os.n := by rw [T.os.1]; exact h.on
  have eo := T.os.2 _ ho
  have hln : line.toNat < (y.os.z order.toNat).ls.n := by rw [eo.2.1]; exact h.ln
  have e3 := eo.2.2 _ hln
  rw [if_pos ⟨rfl, rfl⟩] at e3
  have hL : allocL p s order line k but = (tkOf p s (lineAt s order line).o k but).left := if_pos e
  refine ⟨⟨stateE_of r, h.o0, ho, h.l0, hln, by omega, by have := h.n2; omega, h.bt, by rw [eo.1]; exact h.kd, ?_⟩, ?_⟩
  · unfold lineAt
    rw [e3]
    have := h.bk
    unfold lineAt at this
    show n - k ≤ ((s.os.z order.toNat).ls.z line.toNat).n - (k - (tkOf p s (lineAt s order line).o k but).left)
    omega
  · unfold lineAt
    rw [e3]
    rfl
theorem AllocIn.parts (h : AllocIn p s order line n but) (hk : 0 ≤ k ∧ k ≤ n) (hx : AllocOK p s order line n but x) (hy : AllocOK p s order line k but y) (hz : AllocOK p y order line (n - k) but z) :
    allocL p s order line k but + allocL p y order line (n - k) but = allocL p s order line n but ∧ SameT z x := by
  have e := h.less hk
  have e0 := h.less ⟨h.n0, Int.le_refl _⟩
  obtain ⟨h2, hgo⟩ := h.second hk hy
  have e2 := h2.less ⟨h2.n0, Int.le_refl _⟩
  have h1 := allocIn e
  have T1 := hy.1 e
  have T2 := hz.1 e2
  have T := hx.1 e0
  have r := h1.rightX hy
  have hg := h.good
  have hb6 : ∀ b, b ∈ wayT p but → 0 ≤ b ∧ b < 6 := fun b hb => by have := h.way b hb; have := (rightT h.st).fm.sh.pl.nb6; omega
  have tp := two_parts (av := fun b => availZ s b.toNat (lineAt s order line).o.toNat) (av' := fun b => availZ y b.toNat (lineAt y order line).o.toNat) (k := k) (m := n - k) (wayT_apart p but) (fun b hb => by
      have := h.way b hb
      exact (goods_no ((rightT h.st).goods _ (by omega))).2 _ (by omega)) hb6 hk.1 (by omega) (fun b hb => by
      have hw := h.way b hb
      show availZ y b.toNat (lineAt y order line).o.toNat = _
      rw [hgo, T1.avail (rightT h.st).fm r.fm h.on h.ln (b := b.toNat) (by omega) (by omega), if_pos (by unfold lineAt; unfold lineAt at hg; omega)]
      have : ((b.toNat : Nat) : Int) = b := by omega
      rw [this]
      rfl) (wayT p but).length (Nat.le_refl _)
  rw [List.take_length, show k + (n - k) = n by omega] at tp
  obtain ⟨tl, tt⟩ := tp
  have L1 : allocL p s order line k but = (tkOf p s (lineAt s order line).o k but).left := if_pos e
  have L2 : allocL p y order line (n - k) but = (tkOf p y (lineAt y order line).o (n - k) but).left := if_pos e2
  have L : allocL p s order line n but = (tkOf p s (lineAt s order line).o n but).left := if_pos e0
  refine ⟨by rw [L1, L2, L]; exact tl.symm, ?_⟩
  have T3 := T1.trans T2
  rw [show k + (n - k) = n by omega] at T3
  exact (T3.congr (t' := tkOf p s (lineAt s order line).o n but) tl tt).same T
end
end Go.Proofs.Ytbcacebifpagpac
namespace Go.Proofs.Ytbcacebifpagpac
open Go.RowKit
set_option linter.unusedVariables false
def chooseN (c : Int) (n : Nat) : Nat := ((if c < 0 then -(c + 1) else c) % (n : Int)).toNat
theorem chooseN_pos {c : Int} {n : Nat} (h : ¬ c < 0) (hn : 1 ≤ n) : c % (n : Int) = ((chooseN c n : Nat) : Int) := by
  unfold chooseN
  rw [if_neg h]
  have := Int.emod_nonneg c (b := (n : Int)) (by omega)
  omega
theorem chooseN_neg {c : Int} {n : Nat} (h : c < 0) (hn : 1 ≤ n) : (-(c + 1)) % (n : Int) = ((chooseN c n : Nat) : Int) := by
  unfold chooseN
  rw [if_pos h]
  have := Int.emod_nonneg (-(c + 1)) (b := (n : Int)) (by omega)
  omega
theorem chooseN_lt (c : Int) {n : Nat} (hn : 1 ≤ n) : chooseN c n < n := by
  by_cases h : c < 0
  · have := chooseN_neg h hn
    have := Int.emod_lt_of_pos (-(c + 1)) (b := (n : Int)) (by omega)
    omega
  · have := chooseN_pos h hn
    have := Int.emod_lt_of_pos c (b := (n : Int)) (by omega)
    omega
theorem choose_any (c : Int) (n : Nat) (w : World) (hc : -9223372036854775808 ≤ c ∧ c ≤ 9223372036854775807) (hn : 1 ≤ n) (hm : n ≤ 1000) :
    Calls Try.prog 11 #[.int .i64 c, .int .i64 n] w fun e w' => e = .returned (.int .i64 (chooseN c n : Nat)) ∧ w' = w := by
  by_cases h : c < 0
  · have h1 := chooseN_neg h hn
    have q : (0 : Int) ≤ -(c + 1) := by omega
    have hz : ¬ (n : Int) = 0 := by omega
    go_enter Try.func11, Try.ntmps11
    go_wp2
    go_ret
    exact ⟨by rw [← h1, ← Int.tmod_eq_emod_of_nonneg q, Int.neg_tmod]; rfl, rfl⟩
  · have h1 := chooseN_pos h hn
    have hz : ¬ (n : Int) = 0 := by omega
    have q : (0 : Int) ≤ c := by omega
    go_enter Try.func11, Try.ntmps11
    go_wp2
    go_ret
    exact ⟨by simp [← h1], rfl⟩
theorem choose_b (c : Int) (n : Nat) (w : World) (hc : -9223372036854775808 ≤ c ∧ c ≤ 9223372036854775807) (hn : 1 ≤ n) (hm : n ≤ 1000) :
    Calls Try.prog 11 #[.int .i64 c, .int .i64 n] w fun e w' => e = .returned (.int .i64 (chooseN c n : Nat)) ∧ Below w.heap.size w w' :=
  (choose_any c n w hc hn hm).mono (by rintro e w' ⟨rfl, rfl⟩; exact ⟨rfl, Below.refl _ _⟩)
end Go.Proofs.Ytbcacebifpagpac
namespace Go.Proofs.Ytbcacebifpagpac
open Go.RowKit Go.Shelf Go.Sort
set_option linter.unusedVariables false
set_option maxRecDepth 100000 in
set_option maxHeartbeats 8000000 in
theorem AllocTrue_walk (p : Pl) (s : St) (order line n but part : Int) (w : World) (hp : p.At w) (hs : s.At w) (hpart : -9223372036854775808 ≤ part ∧ part ≤ 9223372036854775807) :
    Calls Try.prog 5 #[p.val, s.val, .int .i64 order, .int .i64 line, .int .i64 n, .int .i64 but, .int .i64 part] w fun e w' => e = .returned (.bool true) ∧ Below w.heap.size w w' := by
  obtain ⟨W0, hW, hWB, X0⟩ : ∃ W, ((w.alloc (.cells #[.slice p.ab p.nb p.cb, .slice p.sa p.ns p.cs] 25)).alloc (.cells s.cells 31)) = W ∧ Below w.heap.size w W ∧ Boxes W w.heap.size (w.heap.size + 1) p s := ⟨_, rfl, two_below _ _ _, boxes_new w p s _ _⟩
  have HC : Hid (∀ wk, Below W0.heap.size W0 wk → Boxes wk w.heap.size (w.heap.size + 1) p s ∧ p.At wk ∧ s.At wk ∧ Below w.heap.size w wk) := fun wk h => ⟨X0.below h, (hp.below hWB).below h, (hs.below hWB).below h, hWB.trans (h.mono hWB.size)⟩
  have HW : Hid ((w.alloc (.cells #[.slice p.ab p.nb p.cb, .slice p.sa p.ns p.cs] 25)).alloc (.cells #[.slice s.on.a s.on.n s.on.c, .slice s.os.a s.os.n s.os.c, .slice s.hs.a s.hs.n s.hs.c, .slice s.ms.a s.ms.n s.ms.c, .slice s.si.a s.si.n s.si.c, .slice s.so.a s.so.n s.so.c, .slice s.sf.a s.sf.n s.sf.c] 31) = W0) := hW
  have leb := hp.leb
  have capb := hp.capb
  unfold maxLen at capb
  have HPT : Hid (-9223372036854775808 ≤ part ∧ part ≤ 9223372036854775807) := hpart
  clear hW X0 hp hs hpart
  unfold Pl.val St.val
  go_enter Try.func5, Try.ntmps5
  go_wp2_with fail
  rw [HW.out]
  obtain ⟨X, hpk, hsk, hBw⟩ := HC.out W0 (Below.refl _ _)
  refine (Take_any p s order line n but W0 hpk hsk).mono ?_
  rintro e w1 ⟨x, rfl, xat, xok, xown, hB⟩
  clear X hpk hsk hBw HW
  obtain ⟨W2, hW, hWB, K1⟩ : ∃ W, w1.alloc (.cells #[.slice x.on.a x.on.n x.on.c, .slice x.os.a x.os.n x.os.c, .slice x.hs.a x.hs.n x.hs.c, .slice x.ms.a x.ms.n x.ms.c, .slice x.si.a x.si.n x.si.c, .slice x.so.a x.so.n x.so.c, .slice x.sf.a x.sf.n x.sf.c] 31) = W ∧ Below w1.heap.size w1 W ∧ Blk W w1.heap.size 31 7 (fun j => x.cells.getD j default) := ⟨_, rfl, (Below.refl _ _).alloc (Nat.le_refl _) _, Blk.mk' rfl rfl⟩
  have HW : Hid (w1.alloc (.cells #[.slice x.on.a x.on.n x.on.c, .slice x.os.a x.os.n x.os.c, .slice x.hs.a x.hs.n x.hs.c, .slice x.ms.a x.ms.n x.ms.c, .slice x.si.a x.si.n x.si.c, .slice x.so.a x.so.n x.so.c, .slice x.sf.a x.sf.n x.sf.c] 31) = W2) := hW
  have hB2 := hB.trans (hWB.mono hB.size)
  have xat := xat.below hWB
  have HXOK : Hid (AllocOK p s order line n but x) := xok
  clear hWB hB hW xown xok
  by_cases hE : allocE p s order line n but = 0
  · have HI : Hid (AllocIn p s order line n but) := allocIn hE
    have lb := HI.out.leftB
    have HRX : Hid (stateE p x = 0) := stateE_of (HI.out.rightX HXOK.out)
    have HTX := HXOK.out.1 hE
    have HSR : Hid (x.on.n = s.on.n ∧ ∀ i, i < x.on.n → (x.on.r i).n = (s.on.r i).n ∧ ∀ j, j < (x.on.r i).n → (x.on.r i).z j = (s.on.r i).z j) := HTX.on
    rw [hE]
    clear hE HTX
    obtain ⟨o, rfl⟩ := Int.eq_ofNat_of_zero_le HI.out.o0
    obtain ⟨l, rfl⟩ := Int.eq_ofNat_of_zero_le HI.out.l0
    obtain ⟨nn, rfl⟩ := Int.eq_ofNat_of_zero_le HI.out.n0
    have n2 := HI.out.n2
    have ho : o < s.os.n := HI.out.on
    have hl : l < (s.os.z o).ls.n := HI.out.ln
    have HNO : Hid (0 < allocL p s o l nn but → ∀ b : Nat, b < p.nb → ¬ ((b : Nat) : Int) = but → availZ x b (lineAt s o l).o.toNat = 0) := fun h b hb hne => HI.out.none HXOK.out h hb hne
    have hgd := HI.out.good
    obtain ⟨gd, hgv⟩ := Int.eq_ofNat_of_zero_le hgd.1
    have HGV : Hid (((s.os.z o).ls.z l).o = (gd : Int)) := hgv
    have hgdn : gd < p.ns := by omega
    have HLG : Hid ((lineAt s o l).o.toNat = gd) := by show (lineAt s o l).o.toNat = gd; rw [hgv]; rfl
    clear hgd hgv
    obtain ⟨LF, hLF⟩ : ∃ LF, allocL p s o l nn but = LF := ⟨_, rfl⟩
    have HLF : Hid (allocL p s o l nn but = LF) := hLF
    rw [hLF] at lb HNO ⊢
    clear hLF
    have nb6 : p.nb ≤ 6 := (rightT HI.out.st).fm.sh.pl.nb6
    obtain ⟨⟨⟨l1, d0, d1⟩, l2, c0, c1, c2, c3, c4, c5, c6⟩, hpk, hsk, hBw⟩ := HC.out W2 hB2
    have l1e := l1
    have l2e := l2
    have d0e := d0
    have d1e := d1
    have c0e := c0
    have c1e := c1
    have c2e := c2
    have c3e := c3
    have c4e := c4
    have c5e := c5
    have c6e := c6
    rw [← HW.out] at l1e l2e d0e d1e c0e c1e c2e c3e c4e c5e c6e
    have HAT : Hid (p.At W2 ∧ x.At W2) := ⟨hpk, xat⟩
    clear hpk hsk
    simp only [St.val]
    go_wp2_with fail
    rw [HW.out]
    clear l1e l2e d0e d1e c0e c1e c2e c3e c4e c5e c6e HW
    clear l1 d0 d1 l2 c0 c1 c2 c3 c4 c5 c6 hBw
    generalize w1.heap.size = B1 at *
    refine (stateCheck_any p x W2 HAT.out.1 HAT.out.2).mono ?_
    rintro e w3 ⟨rfl, hB3⟩
    have xat := xat.below hB3
    have K1 := K1.below hB3
    have hB3 := hB2.trans (hB3.mono hB2.size)
    clear HAT hB2
    rw [HRX.out]
    obtain ⟨⟨⟨l1, d0, d1⟩, l2, c0, c1, c2, c3, c4, c5, c6⟩, hpk, hsk, hBw⟩ := HC.out w3 hB3
    obtain ⟨m1, p0, p1, p2, p3, p4, p5, p6⟩ := Boxed.of K1
    have HAT : Hid (x.on.At w3 ∧ s.on.At w3) := ⟨xat.on, hsk.on⟩
    clear hpk hsk
    go_wp2_with fail
    refine (SameRows_yes x.on s.on w3 HAT.out.1 HAT.out.2 HSR.out.1 HSR.out.2).mono ?_
    rintro e w4 ⟨rfl, hB4⟩
    have xat := xat.below hB4
    have K1 := K1.below hB4
    have hB4 := hB3.trans (hB4.mono hB3.size)
    clear HAT hB3
    clear m1 p0 p1 p2 p3 p4 p5 p6
    clear l1 d0 d1 l2 c0 c1 c2 c3 c4 c5 c6 hBw
    obtain ⟨⟨⟨l1, d0, d1⟩, l2, c0, c1, c2, c3, c4, c5, c6⟩, hpk, hsk, hBw⟩ := HC.out w4 hB4
    obtain ⟨bo, oo, hoa, hbo, z0, z1, hlk⟩ := hsk.os.ods o ho
    obtain ⟨bl, ol, hla, hbl, y0, y1, y2, y3⟩ := hlk.hds l hl
    rw [HGV.out] at y0
    have v1 := hsk.os.le
    have v2 := hsk.os.cap
    have v3 := hlk.le
    have v4 := hlk.cap
    unfold maxLen at v2 v4
    rw [hoa] at c1
    rw [hla] at z1
    have q0 : (0 : Int) ≤ (o : Int) := by omega
    have q1 : (o : Int) < (s.os.n : Int) := by omega
    have q2 : (0 : Int) ≤ (l : Int) := by omega
    have q3 : (l : Int) < ((s.os.z o).ls.n : Int) := by omega
    have u1 : ¬ LF < 0 := by omega
    have u2 : ¬ (nn : Int) < LF := by omega
    have u3 : ¬ (o : Int) < 0 := by omega
    have u4 : ¬ (s.os.n : Int) ≤ (o : Int) := by omega
    have u5 : ¬ s.os.n ≤ o := by omega
    have u6 : ¬ (l : Int) < 0 := by omega
    have u7 : ¬ ((s.os.z o).ls.n : Int) ≤ (l : Int) := by omega
    have u8 : ¬ (s.os.z o).ls.n ≤ l := by omega
    have w1' : decide (LF < 0) = false := decide_eq_false u1
    have w2' : decide ((nn : Int) < LF) = false := decide_eq_false u2
    have w3' : decide ((o : Int) < 0) = false := decide_eq_false u3
    have w4' : decide ((s.os.n : Int) ≤ (o : Int)) = false := decide_eq_false u4
    have w5' : decide (s.os.n ≤ o) = false := decide_eq_false u5
    have w6' : decide ((l : Int) < 0) = false := decide_eq_false u6
    have w7' : decide (((s.os.z o).ls.n : Int) ≤ (l : Int)) = false := decide_eq_false u7
    have w8' : decide ((s.os.z o).ls.n ≤ l) = false := decide_eq_false u8
    have HXA : Hid (x.At w4 ∧ Blk w4 B1 31 7 (fun j => x.cells.getD j default)) := ⟨xat, K1⟩
    clear hoa hla hlk y1 y2 y3 hpk hsk xat K1
    go_wp2_with fail
    clear hbo z0 z1 hbl y0 v1 v2 v3 v4 u1 u2 u3 u4 u5 u6 u7 u8 w1' w2' w3' w4' w5' w6' w7' w8'
    clear l1 d0 d1 l2 c0 c1 c2 c3 c4 c5 c6 hBw
    go_loopw [19] (fun kv wk => ∃ k : Nat, k ≤ p.nb ∧ kv = .int .i64 k ∧ Hid (x.At wk ∧ Blk wk B1 31 7 (fun j => x.cells.getD j default)) ∧ Hid (Below W0.heap.size W0 wk)) (fun kv _ => p.nb - (intOf kv).toNat)
    case atStart => exact ⟨0, Nat.zero_le _, rfl, HXA, hB4⟩
    case round =>
      clear HXA hB4
      obtain ⟨k, hk, rfl, HXA, HBk⟩ := hrel
      obtain ⟨⟨⟨l1, d0, d1⟩, l2, c0, c1, c2, c3, c4, c5, c6⟩, hpk, hsk, hBw⟩ := HC.out wr HBk.out
      by_cases hgo : k < p.nb ∧ 0 < LF
      · obtain ⟨hlt, hL0⟩ := hgo
        have g1 : decide (0 < LF) = true := decide_eq_true hL0
        have q0 : (0 : Int) ≤ (k : Int) := by omega
        have K1 := HXA.out.2
        have HAV : Hid (Calls Try.prog 12 #[p.val, x.val, .int .i64 (k : Int), .int .i64 (gd : Int)] wr fun e w' => e = .returned (.tuple #[.int .i64 (availZ x k gd), .int .i64 0]) ∧ Below wr.heap.size wr w') := by
          have h := Avail_any p x k gd wr hpk HXA.out.1
          rw [(avail_okA HRX.out hlt hgdn).1, (avail_okA HRX.out hlt hgdn).2] at h
          exact h
        have HZZ : Hid (¬ ((k : Nat) : Int) = but → availZ x k gd = 0) := fun h => by have h2 := HNO.out hL0 k hlt h; rw [HLG.out] at h2; exact h2
        obtain ⟨m1, p0, p1, p2, p3, p4, p5, p6⟩ := Boxed.of K1
        clear hpk hsk K1
        go_wp2_with fail
        refine HAV.out.mono ?_
        rintro e w5 ⟨rfl, hB5⟩
        have HXA5 : Hid (x.At w5 ∧ Blk w5 B1 31 7 (fun j => x.cells.getD j default)) := ⟨HXA.out.1.below hB5, HXA.out.2.below hB5⟩
        have HBk5 : Hid (Below W0.heap.size W0 w5) := HBk.out.trans (hB5.mono HBk.out.size)
        clear HXA HBk hB5 HAV
        clear m1 p0 p1 p2 p3 p4 p5 p6
        clear l1 d0 d1 l2 c0 c1 c2 c3 c4 c5 c6 hBw
        by_cases hbut : ((k : Nat) : Int) = but
        · have g2 : (((k : Nat) : Int) != but) = false := by simpa using hbut
          clear hbut
          generalize availZ x k gd = AV at *
          go_wp2_with fail
          go_roundw
          case rel => exact ⟨k + 1, by omega, by go_num, HXA5, HBk5⟩
          case measure => simp [intOf]; omega
        · have g2 : (((k : Nat) : Int) != but) = true := by simpa using hbut
          rw [HZZ.out hbut]
          clear hbut
          go_wp2_with fail
          go_roundw
          case rel => exact ⟨k + 1, by omega, by go_num, HXA5, HBk5⟩
          case measure => simp [intOf]; omega
      · by_cases hlt : k < p.nb
        · have hL0 : ¬ 0 < LF := fun h => hgo ⟨hlt, h⟩
          have g1 : decide (0 < LF) = false := decide_eq_false hL0
          clear hpk hsk hgo
          -- the two parts
          have HCH := choose_b part (nn + 1) wr HPT.out (by omega) (by omega)
          rw [show (((nn + 1 : Nat)) : Int) = (nn : Int) + 1 by omega] at HCH
          have HCH2 : Hid _ := HCH
          have kl := chooseN_lt part (n := nn + 1) (by omega)
          obtain ⟨KC, hKC⟩ : ∃ KC, chooseN part (nn + 1) = KC := ⟨_, rfl⟩
          rw [hKC] at kl
          have HKC : Hid (chooseN part (nn + 1) = KC) := hKC
          clear HCH hKC
          go_wp2_with fail
          refine Calls.mono HCH2.out ?_
          rintro e w6 ⟨rfl, hB6⟩
          rw [HKC.out]
          have HXA : Hid (x.At w6 ∧ Blk w6 B1 31 7 (fun j => x.cells.getD j default)) := ⟨HXA.out.1.below hB6, HXA.out.2.below hB6⟩
          have hB6 := HBk.out.trans (hB6.mono HBk.out.size)
          clear HCH2 HBk
          clear l1 d0 d1 l2 c0 c1 c2 c3 c4 c5 c6 hBw
          obtain ⟨⟨⟨l1, d0, d1⟩, l2, c0, c1, c2, c3, c4, c5, c6⟩, hpk, hsk, hBw⟩ := HC.out w6 hB6
          have HAT : Hid (p.At w6 ∧ s.At w6) := ⟨hpk, hsk⟩
          clear hpk hsk
          go_wp2_with fail
          refine (Take_any p s o l KC but w6 HAT.out.1 HAT.out.2).mono ?_
          rintro e w7 ⟨y, rfl, yat, yok, yown, hB7⟩
          clear HAT yown
          have HXA : Hid (x.At w7 ∧ Blk w7 B1 31 7 (fun j => x.cells.getD j default)) := ⟨HXA.out.1.below hB7, HXA.out.2.below hB7⟩
          have hB7 := hB6.trans (hB7.mono hB6.size)
          clear hB6
          clear l1 d0 d1 l2 c0 c1 c2 c3 c4 c5 c6 hBw
          have hKCn : (0 : Int) ≤ (KC : Int) ∧ (KC : Int) ≤ (nn : Int) := by omega
          have HE2 : Hid (allocE p s o l KC but = 0) := HI.out.less hKCn
          have HI2 : Hid (AllocIn p y o l ((nn : Int) - KC) but) := (HI.out.second hKCn yok).1
          have HYOK : Hid (AllocOK p s o l KC but y) := yok
          have lb2 := (allocIn HE2.out).leftB
          rw [HE2.out]
          clear yok
          obtain ⟨W8, hW, hWB, K2⟩ : ∃ W, w7.alloc (.cells #[.slice y.on.a y.on.n y.on.c, .slice y.os.a y.os.n y.os.c, .slice y.hs.a y.hs.n y.hs.c, .slice y.ms.a y.ms.n y.ms.c, .slice y.si.a y.si.n y.si.c, .slice y.so.a y.so.n y.so.c, .slice y.sf.a y.sf.n y.sf.c] 31) = W ∧ Below w7.heap.size w7 W ∧ Blk W w7.heap.size 31 7 (fun j => y.cells.getD j default) := ⟨_, rfl, (Below.refl _ _).alloc (Nat.le_refl _) _, Blk.mk' rfl rfl⟩
          have HW : Hid (w7.alloc (.cells #[.slice y.on.a y.on.n y.on.c, .slice y.os.a y.os.n y.os.c, .slice y.hs.a y.hs.n y.hs.c, .slice y.ms.a y.ms.n y.ms.c, .slice y.si.a y.si.n y.si.c, .slice y.so.a y.so.n y.so.c, .slice y.sf.a y.sf.n y.sf.c] 31) = W8) := hW
          have hB8 := hB7.trans (hWB.mono hB7.size)
          have yat := yat.below hWB
          have HXA : Hid (x.At W8 ∧ Blk W8 B1 31 7 (fun j => x.cells.getD j default)) := ⟨HXA.out.1.below hWB, HXA.out.2.below hWB⟩
          clear hWB hB7 hW
          obtain ⟨⟨⟨l1, d0, d1⟩, l2, c0, c1, c2, c3, c4, c5, c6⟩, hpk, hsk, hBw⟩ := HC.out W8 hB8
          have l1e := l1
          have l2e := l2
          have d0e := d0
          have d1e := d1
          have c0e := c0
          have c1e := c1
          have c2e := c2
          have c3e := c3
          have c4e := c4
          have c5e := c5
          have c6e := c6
          rw [← HW.out] at l1e l2e d0e d1e c0e c1e c2e c3e c4e c5e c6e
          have HAT : Hid (p.At W8 ∧ y.At W8) := ⟨hpk, yat⟩
          clear hpk hsk
          obtain ⟨L2, hL2⟩ : ∃ L2, allocL p s o l KC but = L2 := ⟨_, rfl⟩
          have HL2 : Hid (allocL p s o l KC but = L2) := hL2
          rw [hL2] at lb2 ⊢
          clear hL2
          simp only [St.val]
          go_wp2_with fail
          rw [HW.out]
          clear l1e l2e d0e d1e c0e c1e c2e c3e c4e c5e c6e HW
          clear l1 d0 d1 l2 c0 c1 c2 c3 c4 c5 c6 hBw
          generalize w7.heap.size = B2 at *
          refine (Take_any p y o l ((nn : Int) - KC) but W8 HAT.out.1 HAT.out.2).mono ?_
          rintro e w9 ⟨z, rfl, zat, zok, zown, hB9⟩
          clear HAT zown
          have HXA : Hid (x.At w9 ∧ Blk w9 B1 31 7 (fun j => x.cells.getD j default)) := ⟨HXA.out.1.below hB9, HXA.out.2.below hB9⟩
          have hB9 := hB8.trans (hB9.mono hB8.size)
          have HE3 : Hid (allocE p y o l ((nn : Int) - KC) but = 0) := HI2.out.less ⟨HI2.out.n0, Int.le_refl _⟩
          have lb3 := HI2.out.leftB
          have HPP : Hid (allocL p s o l KC but + allocL p y o l ((nn : Int) - KC) but = allocL p s o l nn but ∧ SameT z x) := HI.out.parts hKCn HXOK.out HYOK.out zok
          have HBD : Hid (z.os.n ≤ 1000 ∧ z.ms.n ≤ 1000 ∧ ∀ i, i < z.os.n → (z.os.z i).ls.n ≤ 1000) := AllocOK.bound zok
          rw [HE3.out]
          obtain ⟨L3, hL3⟩ : ∃ L3, allocL p y o l ((nn : Int) - KC) but = L3 := ⟨_, rfl⟩
          have HL3 : Hid (allocL p y o l ((nn : Int) - KC) but = L3) := hL3
          rw [hL3] at lb3 ⊢
          clear hL3 zok hB8 K2 yat
          have hsum : L2 + L3 = LF := by have h := HPP.out.1; rw [HL2.out, HL3.out, HLF.out] at h; exact h
          obtain ⟨Wa, hW, hWB, K3⟩ : ∃ W, w9.alloc (.cells #[.slice z.on.a z.on.n z.on.c, .slice z.os.a z.os.n z.os.c, .slice z.hs.a z.hs.n z.hs.c, .slice z.ms.a z.ms.n z.ms.c, .slice z.si.a z.si.n z.si.c, .slice z.so.a z.so.n z.so.c, .slice z.sf.a z.sf.n z.sf.c] 31) = W ∧ Below w9.heap.size w9 W ∧ Blk W w9.heap.size 31 7 (fun j => z.cells.getD j default) := ⟨_, rfl, (Below.refl _ _).alloc (Nat.le_refl _) _, Blk.mk' rfl rfl⟩
          have HW : Hid (w9.alloc (.cells #[.slice z.on.a z.on.n z.on.c, .slice z.os.a z.os.n z.os.c, .slice z.hs.a z.hs.n z.hs.c, .slice z.ms.a z.ms.n z.ms.c, .slice z.si.a z.si.n z.si.c, .slice z.so.a z.so.n z.so.c, .slice z.sf.a z.sf.n z.sf.c] 31) = Wa) := hW
          have hBa := hB9.trans (hWB.mono hB9.size)
          have zat := zat.below hWB
          have HXA : Hid (x.At Wa ∧ Blk Wa B1 31 7 (fun j => x.cells.getD j default)) := ⟨HXA.out.1.below hWB, HXA.out.2.below hWB⟩
          clear hWB hB9 hW
          simp only [St.val]
          go_wp2_with fail
          rw [HW.out]
          clear HW
          generalize w9.heap.size = B3 at *
          refine (allocBegun_any Wa).mono ?_
          rintro e wb ⟨rfl, hBb⟩
          have K3 := K3.below hBb
          have HZX : Hid (z.At wb ∧ x.At wb) := ⟨zat.below hBb, HXA.out.1.below hBb⟩
          have K1 := HXA.out.2.below hBb
          have hBb := hBa.trans (hBb.mono hBa.size)
          obtain ⟨m1, p0, p1, p2, p3, p4, p5, p6⟩ := Boxed.of K1
          obtain ⟨m2, t0, t1, t2, t3, t4, t5, t6⟩ := Boxed.of K3
          clear K1 K3 zat HXA hBa
          go_wp2_with fail
          refine (SameStates_yes z x wb HZX.out.1 HZX.out.2 HPP.out.2 HBD.out.1 HBD.out.2.1 HBD.out.2.2).mono ?_
          rintro e wc ⟨rfl, hBc⟩
          have hBc := hBb.trans (hBc.mono hBb.size)
          clear m1 p0 p1 p2 p3 p4 p5 p6 m2 t0 t1 t2 t3 t4 t5 t6
          go_wp2_with fail
          go_ret
          exact ⟨by simp, (HC.out wc hBc).2.2.2⟩
        · have hkn : k = p.nb := by omega
          clear hpk hsk hgo
          -- the two parts
          have HCH := choose_b part (nn + 1) wr HPT.out (by omega) (by omega)
          rw [show (((nn + 1 : Nat)) : Int) = (nn : Int) + 1 by omega] at HCH
          have HCH2 : Hid _ := HCH
          have kl := chooseN_lt part (n := nn + 1) (by omega)
          obtain ⟨KC, hKC⟩ : ∃ KC, chooseN part (nn + 1) = KC := ⟨_, rfl⟩
          rw [hKC] at kl
          have HKC : Hid (chooseN part (nn + 1) = KC) := hKC
          clear HCH hKC
          go_wp2_with fail
          refine Calls.mono HCH2.out ?_
          rintro e w6 ⟨rfl, hB6⟩
          rw [HKC.out]
          have HXA : Hid (x.At w6 ∧ Blk w6 B1 31 7 (fun j => x.cells.getD j default)) := ⟨HXA.out.1.below hB6, HXA.out.2.below hB6⟩
          have hB6 := HBk.out.trans (hB6.mono HBk.out.size)
          clear HCH2 HBk
          clear l1 d0 d1 l2 c0 c1 c2 c3 c4 c5 c6 hBw
          obtain ⟨⟨⟨l1, d0, d1⟩, l2, c0, c1, c2, c3, c4, c5, c6⟩, hpk, hsk, hBw⟩ := HC.out w6 hB6
          have HAT : Hid (p.At w6 ∧ s.At w6) := ⟨hpk, hsk⟩
          clear hpk hsk
          go_wp2_with fail
          refine (Take_any p s o l KC but w6 HAT.out.1 HAT.out.2).mono ?_
          rintro e w7 ⟨y, rfl, yat, yok, yown, hB7⟩
          clear HAT yown
          have HXA : Hid (x.At w7 ∧ Blk w7 B1 31 7 (fun j => x.cells.getD j default)) := ⟨HXA.out.1.below hB7, HXA.out.2.below hB7⟩
          have hB7 := hB6.trans (hB7.mono hB6.size)
          clear hB6
          clear l1 d0 d1 l2 c0 c1 c2 c3 c4 c5 c6 hBw
          have hKCn : (0 : Int) ≤ (KC : Int) ∧ (KC : Int) ≤ (nn : Int) := by omega
          have HE2 : Hid (allocE p s o l KC but = 0) := HI.out.less hKCn
          have HI2 : Hid (AllocIn p y o l ((nn : Int) - KC) but) := (HI.out.second hKCn yok).1
          have HYOK : Hid (AllocOK p s o l KC but y) := yok
          have lb2 := (allocIn HE2.out).leftB
          rw [HE2.out]
          clear yok
          obtain ⟨W8, hW, hWB, K2⟩ : ∃ W, w7.alloc (.cells #[.slice y.on.a y.on.n y.on.c, .slice y.os.a y.os.n y.os.c, .slice y.hs.a y.hs.n y.hs.c, .slice y.ms.a y.ms.n y.ms.c, .slice y.si.a y.si.n y.si.c, .slice y.so.a y.so.n y.so.c, .slice y.sf.a y.sf.n y.sf.c] 31) = W ∧ Below w7.heap.size w7 W ∧ Blk W w7.heap.size 31 7 (fun j => y.cells.getD j default) := ⟨_, rfl, (Below.refl _ _).alloc (Nat.le_refl _) _, Blk.mk' rfl rfl⟩
          have HW : Hid (w7.alloc (.cells #[.slice y.on.a y.on.n y.on.c, .slice y.os.a y.os.n y.os.c, .slice y.hs.a y.hs.n y.hs.c, .slice y.ms.a y.ms.n y.ms.c, .slice y.si.a y.si.n y.si.c, .slice y.so.a y.so.n y.so.c, .slice y.sf.a y.sf.n y.sf.c] 31) = W8) := hW
          have hB8 := hB7.trans (hWB.mono hB7.size)
          have yat := yat.below hWB
          have HXA : Hid (x.At W8 ∧ Blk W8 B1 31 7 (fun j => x.cells.getD j default)) := ⟨HXA.out.1.below hWB, HXA.out.2.below hWB⟩
          clear hWB hB7 hW
          obtain ⟨⟨⟨l1, d0, d1⟩, l2, c0, c1, c2, c3, c4, c5, c6⟩, hpk, hsk, hBw⟩ := HC.out W8 hB8
          have l1e := l1
          have l2e := l2
          have d0e := d0
          have d1e := d1
          have c0e := c0
          have c1e := c1
          have c2e := c2
          have c3e := c3
          have c4e := c4
          have c5e := c5
          have c6e := c6
          rw [← HW.out] at l1e l2e d0e d1e c0e c1e c2e c3e c4e c5e c6e
          have HAT : Hid (p.At W8 ∧ y.At W8) := ⟨hpk, yat⟩
          clear hpk hsk
          obtain ⟨L2, hL2⟩ : ∃ L2, allocL p s o l KC but = L2 := ⟨_, rfl⟩
          have HL2 : Hid (allocL p s o l KC but = L2) := hL2
          rw [hL2] at lb2 ⊢
          clear hL2
          simp only [St.val]
          go_wp2_with fail
          rw [HW.out]
          clear l1e l2e d0e d1e c0e c1e c2e c3e c4e c5e c6e HW
          clear l1 d0 d1 l2 c0 c1 c2 c3 c4 c5 c6 hBw
          generalize w7.heap.size = B2 at *
          refine (Take_any p y o l ((nn : Int) - KC) but W8 HAT.out.1 HAT.out.2).mono ?_
          rintro e w9 ⟨z, rfl, zat, zok, zown, hB9⟩
          clear HAT zown
          have HXA : Hid (x.At w9 ∧ Blk w9 B1 31 7 (fun j => x.cells.getD j default)) := ⟨HXA.out.1.below hB9, HXA.out.2.below hB9⟩
          have hB9 := hB8.trans (hB9.mono hB8.size)
          have HE3 : Hid (allocE p y o l ((nn : Int) - KC) but = 0) := HI2.out.less ⟨HI2.out.n0, Int.le_refl _⟩
          have lb3 := HI2.out.leftB
          have HPP : Hid (allocL p s o l KC but + allocL p y o l ((nn : Int) - KC) but = allocL p s o l nn but ∧ SameT z x) := HI.out.parts hKCn HXOK.out HYOK.out zok
          have HBD : Hid (z.os.n ≤ 1000 ∧ z.ms.n ≤ 1000 ∧ ∀ i, i < z.os.n → (z.os.z i).ls.n ≤ 1000) := AllocOK.bound zok
          rw [HE3.out]
          obtain ⟨L3, hL3⟩ : ∃ L3, allocL p y o l ((nn : Int) - KC) but = L3 := ⟨_, rfl⟩
          have HL3 : Hid (allocL p y o l ((nn : Int) - KC) but = L3) := hL3
          rw [hL3] at lb3 ⊢
          clear hL3 zok hB8 K2 yat
          have hsum : L2 + L3 = LF := by have h := HPP.out.1; rw [HL2.out, HL3.out, HLF.out] at h; exact h
          obtain ⟨Wa, hW, hWB, K3⟩ : ∃ W, w9.alloc (.cells #[.slice z.on.a z.on.n z.on.c, .slice z.os.a z.os.n z.os.c, .slice z.hs.a z.hs.n z.hs.c, .slice z.ms.a z.ms.n z.ms.c, .slice z.si.a z.si.n z.si.c, .slice z.so.a z.so.n z.so.c, .slice z.sf.a z.sf.n z.sf.c] 31) = W ∧ Below w9.heap.size w9 W ∧ Blk W w9.heap.size 31 7 (fun j => z.cells.getD j default) := ⟨_, rfl, (Below.refl _ _).alloc (Nat.le_refl _) _, Blk.mk' rfl rfl⟩
          have HW : Hid (w9.alloc (.cells #[.slice z.on.a z.on.n z.on.c, .slice z.os.a z.os.n z.os.c, .slice z.hs.a z.hs.n z.hs.c, .slice z.ms.a z.ms.n z.ms.c, .slice z.si.a z.si.n z.si.c, .slice z.so.a z.so.n z.so.c, .slice z.sf.a z.sf.n z.sf.c] 31) = Wa) := hW
          have hBa := hB9.trans (hWB.mono hB9.size)
          have zat := zat.below hWB
          have HXA : Hid (x.At Wa ∧ Blk Wa B1 31 7 (fun j => x.cells.getD j default)) := ⟨HXA.out.1.below hWB, HXA.out.2.below hWB⟩
          clear hWB hB9 hW
          simp only [St.val]
          go_wp2_with fail
          rw [HW.out]
          clear HW
          generalize w9.heap.size = B3 at *
          refine (allocBegun_any Wa).mono ?_
          rintro e wb ⟨rfl, hBb⟩
          have K3 := K3.below hBb
          have HZX : Hid (z.At wb ∧ x.At wb) := ⟨zat.below hBb, HXA.out.1.below hBb⟩
          have K1 := HXA.out.2.below hBb
          have hBb := hBa.trans (hBb.mono hBa.size)
          obtain ⟨m1, p0, p1, p2, p3, p4, p5, p6⟩ := Boxed.of K1
          obtain ⟨m2, t0, t1, t2, t3, t4, t5, t6⟩ := Boxed.of K3
          clear K1 K3 zat HXA hBa
          go_wp2_with fail
          refine (SameStates_yes z x wb HZX.out.1 HZX.out.2 HPP.out.2 HBD.out.1 HBD.out.2.1 HBD.out.2.2).mono ?_
          rintro e wc ⟨rfl, hBc⟩
          have hBc := hBb.trans (hBc.mono hBb.size)
          clear m1 p0 p1 p2 p3 p4 p5 p6 m2 t0 t1 t2 t3 t4 t5 t6
          go_wp2_with fail
          go_ret
          exact ⟨by simp, (HC.out wc hBc).2.2.2⟩
  · have g0 : (allocE p s order line n but != 0) = true := by simpa using hE
    clear xat K1 HXOK hE
    simp only [St.val]
    generalize allocE p s order line n but = EE at *
    generalize allocL p s order line n but = LL at *
    go_wp2_with fail
    rw [HW.out]
    refine (allocBegun_any W2).mono ?_
    rintro e w3 ⟨rfl, hB3⟩
    have hB3 := hB2.trans (hB3.mono hB2.size)
    go_wp2_with fail
    go_ret
    exact ⟨rfl, (HC.out w3 hB3).2.2.2⟩
end Go.Proofs.Ytbcacebifpagpac
namespace Go.Proofs.Ytbcacebifpagpac
open Go.ChangeShapes Go.WideShapes Go.ChangeAt Go.RowKit Go.Joins Go.Deep
set_option linter.unusedVariables false
set_option maxRecDepth 100000
theorem own : ownKnob Try.prog.godebug = none := by kernel_rfl
theorem laidOut : laidOutB Try.prog = true := by kernel_rfl
theorem cellsInt : Try.prog.cellsOf 3 = 1 := by kernel_rfl
theorem cellsInts : Try.prog.cellsOf 23 = 1 := by kernel_rfl
theorem cellsBin : Try.prog.cellsOf 42 = 4 := by kernel_rfl
theorem cellsPlan : Try.prog.cellsOf 25 = 2 := by kernel_rfl
theorem cellsBool : Try.prog.cellsOf 4 = 1 := by kernel_rfl
section
variable {H : Type} {enc : TypeId × Value → H} {w : World} {held : Bool} {spare : Nat → Bool}
theorem addrOf {a : Addr} {i : Nat} {v : Value} (h : w.cell? (a.add i) = some v) (h0 : ∃ v0, w.cell? a = some v0) : ∃ b o, a = ⟨b, o, none⟩ ∧ b < w.heap.size ∧ w.cell? ⟨b, o + i, none⟩ = some v := by
  obtain ⟨b, off, spot⟩ := a
  obtain ⟨v0, h0⟩ := h0
  have hspot : spot = none := World.cell?_spot h0
  subst hspot
  refine ⟨b, off, rfl, World.block_lt_of_cell? w _ h0, ?_⟩
  rw [← Go.WideShapes.add_plain]
  exact h
theorem readInts {fuel : Nat} {cs : List Value} {x : DataW H × List MemPlace} (h : DataW.trod enc Try.prog w 0 spare held fuel 23 cs = some x) : ∃ r : Rw, cs = [r.val] ∧ r.At w := by
  rcases open_slice1 Try.underlying23 cellsInt h with ⟨rfl, _⟩ | ⟨a, len, cap, m, n, V, D, Pl, rfl, hb, hl, hm, hmm, _, hx⟩
  · exact ⟨⟨none, 0, 0, fun _ => 0⟩, rfl, Nat.le_refl _, Nat.zero_le _, fun i hi => absurd hi (Nat.not_lt_zero _)⟩
  · have hlm : len ≤ m := by rw [hmm]; split <;> omega
    obtain ⟨z, hz⟩ := choose_lt (α := Int) (n := len) (p := fun i y => V i = .int .i64 y) (fun i hi => by
      obtain ⟨y, hy, _⟩ := DataW.trod_int Try.underlying3 (hx i (by omega)).2
      simp only [List.cons.injEq, and_true] at hy
      exact ⟨y, hy⟩)
    refine ⟨⟨some a, len, cap, z⟩, rfl, hl, hm, fun i hi => ?_⟩
    have hi' : i < len := hi
    have h0 : ∃ v0, w.cell? a = some v0 := ⟨_, by have := (hx 0 (by omega)).1; simpa [Addr.add] using this⟩
    obtain ⟨b, o, rfl, hb', hc⟩ := addrOf (hx i (by omega)).1 h0
    exact ⟨b, o, rfl, hb', by rw [hc, hz i hi']⟩
theorem readRows {fuel : Nat} {cs : List Value} {x : DataW H × List MemPlace} (h : DataW.trod enc Try.prog w 0 spare held fuel 26 cs = some x) : ∃ s : Sh, cs = [s.val] ∧ s.At w := by
  rcases open_slice1 Try.underlying26 cellsInts h with ⟨rfl, _⟩ | ⟨a, len, cap, m, n, V, D, Pl, rfl, hb, hl, hm, hmm, _, hx⟩
  · exact ⟨⟨none, 0, 0, fun _ => ⟨none, 0, 0, fun _ => 0⟩⟩, rfl, Nat.le_refl _, Nat.zero_le _, fun i hi => absurd hi (Nat.not_lt_zero _)⟩
  · have hlm : len ≤ m := by rw [hmm]; split <;> omega
    haveI : Inhabited Rw := ⟨⟨none, 0, 0, fun _ => 0⟩⟩
    obtain ⟨z, hz⟩ := choose_lt (α := Rw) (n := len) (p := fun i y => V i = y.val ∧ y.At w) (fun i hi => by
      obtain ⟨y, hy, hat⟩ := readInts (hx i (by omega)).2
      simp only [List.cons.injEq, and_true] at hy
      exact ⟨y, hy, hat⟩)
    refine ⟨⟨some a, len, cap, z⟩, rfl, hl, hm, fun i hi => ?_⟩
    have hi' : i < len := hi
    have h0 : ∃ v0, w.cell? a = some v0 := ⟨_, by have := (hx 0 (by omega)).1; simpa [Addr.add] using this⟩
    obtain ⟨b, o, rfl, hb', hc⟩ := addrOf (hx i (by omega)).1 h0
    exact ⟨b, o, rfl, hb', by rw [hc, (hz i hi').1]; rfl, (hz i hi').2⟩
theorem readBin {fuel : Nat} {c0 c1 c2 c3 : Value} {x : DataW H × List MemPlace} (h : DataW.trod enc Try.prog w 0 spare held fuel 42 [c0, c1, c2, c3] = some x) : ∃ y : Bin, c0 = .bool y.front ∧ c1 = .int .i64 y.room ∧ c2 = .int .i64 y.low ∧ c3 = .int .i64 y.high := by
  obtain ⟨y0, y1, y2, y3, n, hx, hl, h0, h1, h2, h3⟩ := trod_struct4 Try.underlying42 h
  simp only [cellsBool, cellsInt, List.drop_succ_cons, List.drop_zero, List.take_succ_cons, List.take_zero] at h0 h1 h2 h3
  obtain ⟨b, e0, _⟩ := DataW.trod_bool Try.underlying4 h0
  obtain ⟨n1, e1, _⟩ := DataW.trod_int Try.underlying3 h1
  obtain ⟨n2, e2, _⟩ := DataW.trod_int Try.underlying3 h2
  obtain ⟨n3, e3, _⟩ := DataW.trod_int Try.underlying3 h3
  simp only [List.cons.injEq, and_true] at e0 e1 e2 e3
  exact ⟨⟨b, n1, n2, n3⟩, e0, e1, e2, e3⟩
theorem cells4 {base : Nat} {a : Addr} {cs : List Value} (h : w.cells? base a 4 = some cs) : ∃ c0 c1 c2 c3, cs = [c0, c1, c2, c3] ∧ w.cell? a = some c0 ∧ w.cell? (a.add 1) = some c1 ∧ w.cell? (a.add 2) = some c2 ∧ w.cell? (a.add 3) = some c3 := by
  obtain ⟨_, hlen, hc⟩ := World.cells?_some h
  match cs, hlen with
  | [c0, c1, c2, c3], _ =>
    refine ⟨c0, c1, c2, c3, rfl, ?_, ?_, ?_, ?_⟩
    · simpa [Addr.add] using hc 0 (by decide)
    · simpa using hc 1 (by decide)
    · simpa using hc 2 (by decide)
    · simpa using hc 3 (by decide)
theorem readBins {fuel : Nat} {cs : List Value} {x : DataW H × List MemPlace} (h : DataW.trod enc Try.prog w 0 spare held fuel 22 cs = some x) : ∃ a n c z, cs = [.slice a n c] ∧ n ≤ c ∧ c ≤ maxLen ∧ BinsAt w a n z := by
  rcases open_slice Try.underlying22 h with ⟨rfl, _⟩ | ⟨a, len, cap, m, n, D, Pl, rfl, hb, hl, hm, hmm, _, hx⟩
  · exact ⟨none, 0, 0, fun _ => ⟨false, 0, 0, 0⟩, rfl, Nat.le_refl _, Nat.zero_le _, fun i hi => absurd hi (Nat.not_lt_zero _)⟩
  · have hlm : len ≤ m := by rw [hmm]; split <;> omega
    rw [cellsBin] at hx
    haveI : Inhabited Bin := ⟨⟨false, 0, 0, 0⟩⟩
    obtain ⟨z, hz⟩ := choose_lt (α := Bin) (n := len) (p := fun i y => w.cell? (a.add (i * 4)) = some (.bool y.front) ∧ w.cell? (a.add (i * 4 + 1)) = some (.int .i64 y.room) ∧ w.cell? (a.add (i * 4 + 2)) = some (.int .i64 y.low) ∧ w.cell? (a.add (i * 4 + 3)) = some (.int .i64 y.high)) (fun i hi => by
      obtain ⟨cs', hc, ht⟩ := hx i (by omega)
      obtain ⟨c0, c1, c2, c3, rfl, k0, k1, k2, k3⟩ := cells4 hc
      obtain ⟨y, rfl, rfl, rfl, rfl⟩ := readBin ht
      rw [add_add] at k1 k2 k3
      exact ⟨y, k0, k1, k2, k3⟩)
    refine ⟨some a, len, cap, z, rfl, hl, hm, fun i hi => ?_⟩
    have h0 : ∃ v0, w.cell? a = some v0 := ⟨_, by have := (hz 0 (by omega)).1; simpa [Addr.add] using this⟩
    obtain ⟨k0, k1, k2, k3⟩ := hz i hi
    obtain ⟨b, o, rfl, hb', e0⟩ := addrOf k0 h0
    rw [Go.WideShapes.add_plain] at k1 k2 k3
    exact ⟨b, o, rfl, hb', e0, by rw [Nat.add_assoc]; exact k1, by rw [Nat.add_assoc]; exact k2, by rw [Nat.add_assoc]; exact k3⟩
theorem openPlan {r : Reach} {b0 : Nat} {v : Value} {d : DataW H} {ps : List MemPlace} (hv : Value.okWide Try.prog w r b0 25 v) (h : DataW.Trod enc Try.prog w 0 spare held 25 v d ps) : ∃ p : Pl, v = p.val ∧ p.At w := by
  obtain ⟨c0, c1, y0, y1, m, rfl, rfl, rfl, hy0, hy1⟩ := open_agg2 Try.underlying25 (by kernel_rfl) cellsPlan hv h
  obtain ⟨a, n, c, z, e0, h1, h2, h3⟩ := readBins hy0
  obtain ⟨rr, e1, hr⟩ := readInts hy1
  simp only [List.cons.injEq, and_true] at e0 e1
  subst e0 e1
  exact ⟨⟨a, n, c, z, rr.a, rr.n, rr.c, rr.z⟩, rfl, h1, h2, h3, hr.le, hr.cap, hr.ints⟩
end
end Go.Proofs.Ytbcacebifpagpac
namespace Go.Proofs.Ytbcacebifpagpac
open Go.ChangeShapes Go.WideShapes Go.ChangeAt Go.RowKit Go.Joins Go.Deep
set_option linter.unusedVariables false
set_option maxRecDepth 100000
namespace HoldsFrames
theorem own : ownKnob Try.prog.godebug = none := by kernel_rfl
theorem laidOut : laidOutB Try.prog = true := by kernel_rfl
theorem cellsInt : Try.prog.cellsOf 3 = 1 := by kernel_rfl
theorem cellsHold : Try.prog.cellsOf 65 = 4 := by kernel_rfl
section
variable {H : Type} {enc : TypeId × Value → H} {w : World} {held : Bool} {spare : Nat → Bool}
theorem addrOf {a : Addr} {i : Nat} {v : Value} (h : w.cell? (a.add i) = some v) (h0 : ∃ v0, w.cell? a = some v0) : ∃ b o, a = ⟨b, o, none⟩ ∧ b < w.heap.size ∧ w.cell? ⟨b, o + i, none⟩ = some v := by
  obtain ⟨b, off, spot⟩ := a
  obtain ⟨v0, h0⟩ := h0
  have hspot : spot = none := World.cell?_spot h0
  subst hspot
  refine ⟨b, off, rfl, World.block_lt_of_cell? w _ h0, ?_⟩
  rw [← Go.WideShapes.add_plain]
  exact h
theorem cells4 {base : Nat} {a : Addr} {cs : List Value} (h : w.cells? base a 4 = some cs) : ∃ c0 c1 c2 c3, cs = [c0, c1, c2, c3] ∧ w.cell? a = some c0 ∧ w.cell? (a.add 1) = some c1 ∧ w.cell? (a.add 2) = some c2 ∧ w.cell? (a.add 3) = some c3 := by
  obtain ⟨_, hlen, hc⟩ := World.cells?_some h
  match cs, hlen with
  | [c0, c1, c2, c3], _ =>
    refine ⟨c0, c1, c2, c3, rfl, ?_, ?_, ?_, ?_⟩
    · simpa [Addr.add] using hc 0 (by decide)
    · simpa using hc 1 (by decide)
    · simpa using hc 2 (by decide)
    · simpa using hc 3 (by decide)
theorem readHold {fuel : Nat} {c0 c1 c2 c3 : Value} {x : DataW H × List MemPlace} (h : DataW.trod enc Try.prog w 0 spare held fuel 65 [c0, c1, c2, c3] = some x) : ∃ y : Hd, c0 = .int .i64 y.o ∧ c1 = .int .i64 y.l ∧ c2 = .int .i64 y.b ∧ c3 = .int .i64 y.n := by
  obtain ⟨y0, y1, y2, y3, n, hx, hl, h0, h1, h2, h3⟩ := trod_struct4 Try.underlying65 h
  simp only [cellsInt, List.drop_succ_cons, List.drop_zero, List.take_succ_cons, List.take_zero] at h0 h1 h2 h3
  obtain ⟨n0, e0, _⟩ := DataW.trod_int Try.underlying3 h0
  obtain ⟨n1, e1, _⟩ := DataW.trod_int Try.underlying3 h1
  obtain ⟨n2, e2, _⟩ := DataW.trod_int Try.underlying3 h2
  obtain ⟨n3, e3, _⟩ := DataW.trod_int Try.underlying3 h3
  simp only [List.cons.injEq, and_true] at e0 e1 e2 e3
  exact ⟨⟨n0, n1, n2, n3⟩, e0, e1, e2, e3⟩
theorem readHolds {fuel : Nat} {cs : List Value} {x : DataW H × List MemPlace} (h : DataW.trod enc Try.prog w 0 spare held fuel 28 cs = some x) : ∃ s : Hs, cs = [s.val] ∧ s.At w := by
  rcases open_slice Try.underlying28 h with ⟨rfl, _⟩ | ⟨a, len, cap, m, n, D, Pl, rfl, hb, hl, hm, hmm, _, hx⟩
  · exact ⟨⟨none, 0, 0, fun _ => ⟨0, 0, 0, 0⟩⟩, rfl, Nat.le_refl _, Nat.zero_le _, fun i hi => absurd hi (Nat.not_lt_zero _), fun _ => rfl⟩
  · have hlm : len ≤ m := by rw [hmm]; split <;> omega
    rw [cellsHold] at hx
    haveI : Inhabited Hd := ⟨⟨0, 0, 0, 0⟩⟩
    obtain ⟨z, hz⟩ := choose_lt (α := Hd) (n := len) (p := fun i y => w.cell? (a.add (i * 4)) = some (.int .i64 y.o) ∧ w.cell? (a.add (i * 4 + 1)) = some (.int .i64 y.l) ∧ w.cell? (a.add (i * 4 + 2)) = some (.int .i64 y.b) ∧ w.cell? (a.add (i * 4 + 3)) = some (.int .i64 y.n)) (fun i hi => by
      obtain ⟨cs', hc, ht⟩ := hx i (by omega)
      obtain ⟨c0, c1, c2, c3, rfl, k0, k1, k2, k3⟩ := cells4 hc
      obtain ⟨y, rfl, rfl, rfl, rfl⟩ := readHold ht
      rw [add_add] at k1 k2 k3
      exact ⟨y, k0, k1, k2, k3⟩)
    refine ⟨⟨some a, len, cap, z⟩, rfl, hl, hm, fun i hi => ?_, fun h => by cases h⟩
    have hi' : i < len := hi
    have h0 : ∃ v0, w.cell? a = some v0 := ⟨_, by have := (hz 0 (by omega)).1; simpa [Addr.add] using this⟩
    obtain ⟨k0, k1, k2, k3⟩ := hz i hi'
    obtain ⟨b, o, rfl, hb', e0⟩ := addrOf k0 h0
    rw [Go.WideShapes.add_plain] at k1 k2 k3
    exact ⟨b, o, rfl, hb', e0, by rw [Nat.add_assoc]; exact k1, by rw [Nat.add_assoc]; exact k2, by rw [Nat.add_assoc]; exact k3⟩
end
end HoldsFrames
end Go.Proofs.Ytbcacebifpagpac
namespace Go.Proofs.Ytbcacebifpagpac
open Go.ChangeShapes Go.WideShapes Go.ChangeAt Go.RowKit Go.Joins Go.Deep
set_option linter.unusedVariables false
set_option maxRecDepth 100000
theorem cellsLine : Try.prog.cellsOf 53 = 4 := by kernel_rfl
theorem cellsMove : Try.prog.cellsOf 70 = 4 := by kernel_rfl
theorem cellsOrder : Try.prog.cellsOf 51 = 2 := by kernel_rfl
theorem cellsState : Try.prog.cellsOf 31 = 7 := by kernel_rfl
theorem cellsLines : Try.prog.cellsOf 49 = 1 := by kernel_rfl
theorem cellsMoves : Try.prog.cellsOf 29 = 1 := by kernel_rfl
theorem cellsOrders : Try.prog.cellsOf 27 = 1 := by kernel_rfl
theorem cellsHolds : Try.prog.cellsOf 28 = 1 := by kernel_rfl
theorem cellsRows : Try.prog.cellsOf 26 = 1 := by kernel_rfl
section
variable {H : Type} {enc : TypeId × Value → H} {w : World} {held : Bool} {spare : Nat → Bool}
theorem readLine {fuel : Nat} {c0 c1 c2 c3 : Value} {x : DataW H × List MemPlace} (h : DataW.trod enc Try.prog w 0 spare held fuel 53 [c0, c1, c2, c3] = some x) : ∃ y : Hd, c0 = .int .i64 y.o ∧ c1 = .int .i64 y.l ∧ c2 = .int .i64 y.b ∧ c3 = .int .i64 y.n := by
  obtain ⟨y0, y1, y2, y3, n, hx, hl, h0, h1, h2, h3⟩ := trod_struct4 Try.underlying53 h
  simp only [cellsInt, List.drop_succ_cons, List.drop_zero, List.take_succ_cons, List.take_zero] at h0 h1 h2 h3
  obtain ⟨n0, e0, _⟩ := DataW.trod_int Try.underlying3 h0
  obtain ⟨n1, e1, _⟩ := DataW.trod_int Try.underlying3 h1
  obtain ⟨n2, e2, _⟩ := DataW.trod_int Try.underlying3 h2
  obtain ⟨n3, e3, _⟩ := DataW.trod_int Try.underlying3 h3
  simp only [List.cons.injEq, and_true] at e0 e1 e2 e3
  exact ⟨⟨n0, n1, n2, n3⟩, e0, e1, e2, e3⟩
theorem readLines {fuel : Nat} {cs : List Value} {x : DataW H × List MemPlace} (h : DataW.trod enc Try.prog w 0 spare held fuel 49 cs = some x) : ∃ s : Hs, cs = [s.val] ∧ s.At w := by
  rcases open_slice Try.underlying49 h with ⟨rfl, _⟩ | ⟨a, len, cap, m, n, D, Pl, rfl, hb, hl, hm, hmm, _, hx⟩
  · exact ⟨⟨none, 0, 0, fun _ => ⟨0, 0, 0, 0⟩⟩, rfl, Nat.le_refl _, Nat.zero_le _, fun i hi => absurd hi (Nat.not_lt_zero _), fun _ => rfl⟩
  · have hlm : len ≤ m := by rw [hmm]; split <;> omega
    rw [cellsLine] at hx
    haveI : Inhabited Hd := ⟨⟨0, 0, 0, 0⟩⟩
    obtain ⟨z, hz⟩ := choose_lt (α := Hd) (n := len) (p := fun i y => w.cell? (a.add (i * 4)) = some (.int .i64 y.o) ∧ w.cell? (a.add (i * 4 + 1)) = some (.int .i64 y.l) ∧ w.cell? (a.add (i * 4 + 2)) = some (.int .i64 y.b) ∧ w.cell? (a.add (i * 4 + 3)) = some (.int .i64 y.n)) (fun i hi => by
      obtain ⟨cs', hc, ht⟩ := hx i (by omega)
      obtain ⟨c0, c1, c2, c3, rfl, k0, k1, k2, k3⟩ := cells4 hc
      obtain ⟨y, rfl, rfl, rfl, rfl⟩ := readLine ht
      rw [add_add] at k1 k2 k3
      exact ⟨y, k0, k1, k2, k3⟩)
    refine ⟨⟨some a, len, cap, z⟩, rfl, hl, hm, fun i hi => ?_, fun h => by cases h⟩
    have hi' : i < len := hi
    have h0 : ∃ v0, w.cell? a = some v0 := ⟨_, by have := (hz 0 (by omega)).1; simpa [Addr.add] using this⟩
    obtain ⟨k0, k1, k2, k3⟩ := hz i hi'
    obtain ⟨b, o, rfl, hb', e0⟩ := addrOf k0 h0
    rw [Go.WideShapes.add_plain] at k1 k2 k3
    exact ⟨b, o, rfl, hb', e0, by rw [Nat.add_assoc]; exact k1, by rw [Nat.add_assoc]; exact k2, by rw [Nat.add_assoc]; exact k3⟩
theorem readMove {fuel : Nat} {c0 c1 c2 c3 : Value} {x : DataW H × List MemPlace} (h : DataW.trod enc Try.prog w 0 spare held fuel 70 [c0, c1, c2, c3] = some x) : ∃ y : Hd, c0 = .int .i64 y.o ∧ c1 = .int .i64 y.l ∧ c2 = .int .i64 y.b ∧ c3 = .int .i64 y.n := by
  obtain ⟨y0, y1, y2, y3, n, hx, hl, h0, h1, h2, h3⟩ := trod_struct4 Try.underlying70 h
  simp only [cellsInt, List.drop_succ_cons, List.drop_zero, List.take_succ_cons, List.take_zero] at h0 h1 h2 h3
  obtain ⟨n0, e0, _⟩ := DataW.trod_int Try.underlying3 h0
  obtain ⟨n1, e1, _⟩ := DataW.trod_int Try.underlying3 h1
  obtain ⟨n2, e2, _⟩ := DataW.trod_int Try.underlying3 h2
  obtain ⟨n3, e3, _⟩ := DataW.trod_int Try.underlying3 h3
  simp only [List.cons.injEq, and_true] at e0 e1 e2 e3
  exact ⟨⟨n0, n1, n2, n3⟩, e0, e1, e2, e3⟩
theorem readMoves {fuel : Nat} {cs : List Value} {x : DataW H × List MemPlace} (h : DataW.trod enc Try.prog w 0 spare held fuel 29 cs = some x) : ∃ s : Hs, cs = [s.val] ∧ s.At w := by
  rcases open_slice Try.underlying29 h with ⟨rfl, _⟩ | ⟨a, len, cap, m, n, D, Pl, rfl, hb, hl, hm, hmm, _, hx⟩
  · exact ⟨⟨none, 0, 0, fun _ => ⟨0, 0, 0, 0⟩⟩, rfl, Nat.le_refl _, Nat.zero_le _, fun i hi => absurd hi (Nat.not_lt_zero _), fun _ => rfl⟩
  · have hlm : len ≤ m := by rw [hmm]; split <;> omega
    rw [cellsMove] at hx
    haveI : Inhabited Hd := ⟨⟨0, 0, 0, 0⟩⟩
    obtain ⟨z, hz⟩ := choose_lt (α := Hd) (n := len) (p := fun i y => w.cell? (a.add (i * 4)) = some (.int .i64 y.o) ∧ w.cell? (a.add (i * 4 + 1)) = some (.int .i64 y.l) ∧ w.cell? (a.add (i * 4 + 2)) = some (.int .i64 y.b) ∧ w.cell? (a.add (i * 4 + 3)) = some (.int .i64 y.n)) (fun i hi => by
      obtain ⟨cs', hc, ht⟩ := hx i (by omega)
      obtain ⟨c0, c1, c2, c3, rfl, k0, k1, k2, k3⟩ := cells4 hc
      obtain ⟨y, rfl, rfl, rfl, rfl⟩ := readMove ht
      rw [add_add] at k1 k2 k3
      exact ⟨y, k0, k1, k2, k3⟩)
    refine ⟨⟨some a, len, cap, z⟩, rfl, hl, hm, fun i hi => ?_, fun h => by cases h⟩
    have hi' : i < len := hi
    have h0 : ∃ v0, w.cell? a = some v0 := ⟨_, by have := (hz 0 (by omega)).1; simpa [Addr.add] using this⟩
    obtain ⟨k0, k1, k2, k3⟩ := hz i hi'
    obtain ⟨b, o, rfl, hb', e0⟩ := addrOf k0 h0
    rw [Go.WideShapes.add_plain] at k1 k2 k3
    exact ⟨b, o, rfl, hb', e0, by rw [Nat.add_assoc]; exact k1, by rw [Nat.add_assoc]; exact k2, by rw [Nat.add_assoc]; exact k3⟩
theorem cells2 {base : Nat} {a : Addr} {cs : List Value} (h : w.cells? base a 2 = some cs) : ∃ c0 c1, cs = [c0, c1] ∧ w.cell? a = some c0 ∧ w.cell? (a.add 1) = some c1 := by
  obtain ⟨_, hlen, hc⟩ := World.cells?_some h
  match cs, hlen with
  | [c0, c1], _ =>
    refine ⟨c0, c1, rfl, ?_, ?_⟩
    · simpa [Addr.add] using hc 0 (by decide)
    · simpa using hc 1 (by decide)
theorem readOrder {fuel : Nat} {c0 c1 : Value} {x : DataW H × List MemPlace} (h : DataW.trod enc Try.prog w 0 spare held fuel 51 [c0, c1] = some x) : ∃ y : Od, c0 = .int .i64 y.k ∧ c1 = .slice y.ls.a y.ls.n y.ls.c ∧ y.ls.At w := by
  obtain ⟨y0, y1, n, hx, hl, h0, h1⟩ := trod_struct2 Try.underlying51 h
  simp only [cellsInt, cellsLines, List.drop_succ_cons, List.drop_zero, List.take_succ_cons, List.take_zero] at h0 h1
  obtain ⟨n0, e0, _⟩ := DataW.trod_int Try.underlying3 h0
  obtain ⟨s, e1, hs⟩ := readLines h1
  simp only [List.cons.injEq, and_true] at e0 e1
  exact ⟨⟨n0, s⟩, e0, e1, hs⟩
theorem readOrders {fuel : Nat} {cs : List Value} {x : DataW H × List MemPlace} (h : DataW.trod enc Try.prog w 0 spare held fuel 27 cs = some x) : ∃ s : Go.Proofs.Ytbcacebifpagpac.Os, cs = [s.val] ∧ s.At w := by
  rcases open_slice Try.underlying27 h with ⟨rfl, _⟩ | ⟨a, len, cap, m, n, D, Pl, rfl, hb, hl, hm, hmm, _, hx⟩
  · exact ⟨⟨none, 0, 0, fun _ => ⟨0, ⟨none, 0, 0, fun _ => ⟨0, 0, 0, 0⟩⟩⟩⟩, rfl, Nat.le_refl _, Nat.zero_le _, fun i hi => absurd hi (Nat.not_lt_zero _)⟩
  · have hlm : len ≤ m := by rw [hmm]; split <;> omega
    rw [cellsOrder] at hx
    haveI : Inhabited Od := ⟨⟨0, ⟨none, 0, 0, fun _ => ⟨0, 0, 0, 0⟩⟩⟩⟩
    obtain ⟨z, hz⟩ := choose_lt (α := Od) (n := len) (p := fun i y => w.cell? (a.add (i * 2)) = some (.int .i64 y.k) ∧ w.cell? (a.add (i * 2 + 1)) = some (.slice y.ls.a y.ls.n y.ls.c) ∧ y.ls.At w) (fun i hi => by
      obtain ⟨cs', hc, ht⟩ := hx i (by omega)
      obtain ⟨c0, c1, rfl, k0, k1⟩ := cells2 hc
      obtain ⟨y, rfl, rfl, hy⟩ := readOrder ht
      rw [add_add] at k1
      exact ⟨y, k0, k1, hy⟩)
    refine ⟨⟨some a, len, cap, z⟩, rfl, hl, hm, fun i hi => ?_⟩
    have hi' : i < len := hi
    have h0 : ∃ v0, w.cell? a = some v0 := ⟨_, by have := (hz 0 (by omega)).1; simpa [Addr.add] using this⟩
    obtain ⟨k0, k1, hy⟩ := hz i hi'
    obtain ⟨b, o, rfl, hb', e0⟩ := addrOf k0 h0
    rw [Go.WideShapes.add_plain] at k1
    exact ⟨b, o, rfl, hb', e0, by rw [Nat.add_assoc]; exact k1, hy⟩
theorem array7 {α : Type} {cs : Array α} (h : cs.size = 7) : ∃ c0 c1 c2 c3 c4 c5 c6, cs = #[c0, c1, c2, c3, c4, c5, c6] := by
  obtain ⟨l⟩ := cs
  match l, h with
  | [c0, c1, c2, c3, c4, c5, c6], _ => exact ⟨c0, c1, c2, c3, c4, c5, c6, rfl⟩
theorem openState {r : Reach} {b0 : Nat} {v : Value} {d : DataW H} {ps : List MemPlace} (hv : Value.okWide Try.prog w r b0 31 v) (h : DataW.Trod enc Try.prog w 0 spare held 31 v d ps) : ∃ s : St, v = s.val ∧ s.At w := by
  obtain ⟨cs, rfl, hsz⟩ := okWide_struct Try.underlying31 hv
  obtain ⟨c0, c1, c2, c3, c4, c5, c6, rfl⟩ := array7 (hsz.trans cellsState)
  obtain ⟨fuel, hf⟩ := h
  obtain ⟨xs, n, _, hx, hl, hlen, hg⟩ := DataW.trod_struct Try.underlying31 hf
  match xs, hlen with
  | [y0, y1, y2, y3, y4, y5, y6], _ =>
    have k0 := hg 0 _ rfl
    have k1 := hg 1 _ rfl
    have k2 := hg 2 _ rfl
    have k3 := hg 3 _ rfl
    have k4 := hg 4 _ rfl
    have k5 := hg 5 _ rfl
    have k6 := hg 6 _ rfl
    simp [cellsRows, cellsOrders, cellsHolds, cellsMoves, cellsInts, Value.cells] at k0 k1 k2 k3 k4 k5 k6
    obtain ⟨on, e0, h0⟩ := readRows k0
    obtain ⟨os, e1, h1⟩ := readOrders k1
    obtain ⟨hs, e2, h2⟩ := HoldsFrames.readHolds k2
    obtain ⟨ms, e3, h3⟩ := readMoves k3
    obtain ⟨si, e4, h4⟩ := readInts k4
    obtain ⟨so, e5, h5⟩ := readInts k5
    obtain ⟨sf, e6, h6⟩ := readInts k6
    simp only [List.cons.injEq, and_true] at e0 e1 e2 e3 e4 e5 e6
    subst e0 e1 e2 e3 e4 e5 e6
    exact ⟨⟨on, os, hs, ms, si, so, sf⟩, rfl, h0, h1, h2, h3, h4, h5, h6⟩
end
end Go.Proofs.Ytbcacebifpagpac

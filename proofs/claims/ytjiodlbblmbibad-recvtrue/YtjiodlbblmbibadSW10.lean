/- Begin. -/
import Derived.Test.YtjiodlbblmbibadSW9
import Derived.Maps.AppendAt
namespace Go.Proofs.Ytjiodlbblmbibad
open Go.RowKit Go.Shelf Go.Sort
set_option linter.unusedVariables false

/-- What Begin answers. -/
def BegunS (p : Pl) (s : St) : Prop := s.on.n = p.nb ∧ (∀ i, i < p.nb → (s.on.r i).n = p.ns ∧ ∀ j, j < p.ns → (s.on.r i).z j = 0) ∧ s.os.n = 0 ∧ s.hs.n = 0 ∧ s.ms.n = 0 ∧
  (s.si.n = p.ns ∧ ∀ j, j < p.ns → s.si.z j = 0) ∧ (s.so.n = p.ns ∧ ∀ j, j < p.ns → s.so.z j = 0) ∧ (s.sf.n = p.ns ∧ ∀ j, j < p.ns → s.sf.z j = 0)
def NoneS (s : St) : Prop := s.on.n = 0 ∧ s.os.n = 0 ∧ s.hs.n = 0 ∧ s.ms.n = 0 ∧ s.si.n = 0 ∧ s.so.n = 0 ∧ s.sf.n = 0
def BeginOK (p : Pl) (s : St) : Prop := (planE p = 0 → BegunS p s) ∧ (¬ planE p = 0 → NoneS s)
def noneS : St := ⟨⟨none, 0, 0, fun _ => ⟨none, 0, 0, fun _ => 0⟩⟩, ⟨none, 0, 0, fun _ => ⟨0, ⟨none, 0, 0, fun _ => ⟨0, 0, 0, 0⟩⟩⟩⟩, ⟨none, 0, 0, fun _ => ⟨0, 0, 0, 0⟩⟩, ⟨none, 0, 0, fun _ => ⟨0, 0, 0, 0⟩⟩, ⟨none, 0, 0, fun _ => 0⟩, ⟨none, 0, 0, fun _ => 0⟩, ⟨none, 0, 0, fun _ => 0⟩⟩
theorem Rw.none (w : World) : Rw.At w ⟨.none, 0, 0, fun _ => 0⟩ := ⟨Nat.le_refl _, Nat.zero_le _, fun i hi => absurd hi (Nat.not_lt_zero _)⟩
theorem Hs.none (w : World) : Hs.At w ⟨.none, 0, 0, fun _ => ⟨0, 0, 0, 0⟩⟩ := ⟨Nat.le_refl _, Nat.zero_le _, fun i hi => absurd hi (Nat.not_lt_zero _), fun _ => rfl⟩
theorem noneS_at (w : World) : noneS.At w :=
  ⟨⟨Nat.le_refl _, Nat.zero_le _, fun i hi => absurd hi (Nat.not_lt_zero _)⟩, ⟨Nat.le_refl _, Nat.zero_le _, fun i hi => absurd hi (Nat.not_lt_zero _)⟩, Hs.none w, Hs.none w, Rw.none w, Rw.none w, Rw.none w⟩

theorem madeI {j n : Nat} (hj : j < n) : (madeCells (Value.int .i64 0).cells n).toList.getD j default = .int .i64 0 := by
  simp [madeCells, Value.cells, hj, Nat.mod_one]
theorem madeS {j n : Nat} (hj : j < n) : (madeCells (Value.slice .none 0 0).cells n).toList.getD j default = .slice .none 0 0 := by
  simp [madeCells, Value.cells, hj, Nat.mod_one]
theorem infoI2 : (Try.prog.info? 3).map (fun i => (i.zero, i.size, i.bytes)) = some (some (.int .i64 0), 1, 8) := by kernel_rfl
theorem infoS2 : (Try.prog.info? 23).map (fun i => (i.zero, i.size, i.bytes)) = some (some (.slice .none 0 0), 1, 24) := by kernel_rfl

/-- A row of noughts. -/
theorem zeroRw {w : World} {g n : Nat} {e : TypeId} (h : Blk w g e n (fun _ => .int .i64 0)) (hn : n ≤ 3) : Rw.At w ⟨some ⟨g, 0, .none⟩, n, n, fun _ => 0⟩ :=
  ⟨Nat.le_refl _, by show n ≤ maxLen; unfold maxLen; omega, fun i hi => ⟨g, 0, rfl, h.lt, by rw [Nat.zero_add]; exact h.cell hi⟩⟩

/-- A state that is stored into a box. -/
def set7 (w : World) (b : Nat) (v0 v1 v2 v3 v4 v5 v6 : Value) : World :=
  ((((((w.setCell ⟨b, 0, none⟩ v0).setCell ⟨b, 1, none⟩ v1).setCell ⟨b, 2, none⟩ v2).setCell ⟨b, 3, none⟩ v3).setCell ⟨b, 4, none⟩ v4).setCell ⟨b, 5, none⟩ v5).setCell ⟨b, 6, none⟩ v6
theorem set7_blk {w : World} {b : Nat} {e : TypeId} {f : Nat → Value} (h : Blk w b e 7 f) (v0 v1 v2 v3 v4 v5 v6 : Value) : Blk (set7 w b v0 v1 v2 v3 v4 v5 v6) b e 7 (fun j => (#[v0, v1, v2, v3, v4, v5, v6] : Array Value).getD j default) :=
  (((((((h.set 0 v0).set 1 v1).set 2 v2).set 3 v3).set 4 v4).set 5 v5).set 6 v6).congr fun j hj => by match j, hj with | 0, _ => rfl | 1, _ => rfl | 2, _ => rfl | 3, _ => rfl | 4, _ => rfl | 5, _ => rfl | 6, _ => rfl
theorem set7_other {w : World} {b g : Nat} {e : TypeId} {n : Nat} {f : Nat → Value} (h : Blk w g e n f) (hne : g ≠ b) (v0 v1 v2 v3 v4 v5 v6 : Value) : Blk (set7 w b v0 v1 v2 v3 v4 v5 v6) g e n f :=
  ((((((h.other (a := ⟨b, 0, none⟩) hne v0).other (a := ⟨b, 1, none⟩) hne v1).other (a := ⟨b, 2, none⟩) hne v2).other (a := ⟨b, 3, none⟩) hne v3).other (a := ⟨b, 4, none⟩) hne v4).other (a := ⟨b, 5, none⟩) hne v5).other (a := ⟨b, 6, none⟩) hne v6
theorem set7_below {n : Nat} {A w : World} {b : Nat} (h : Below n A w) (hb : n ≤ b) (v0 v1 v2 v3 v4 v5 v6 : Value) : Below n A (set7 w b v0 v1 v2 v3 v4 v5 v6) :=
  ((((((h.setCell (p := ⟨b, 0, none⟩) hb v0).setCell (p := ⟨b, 1, none⟩) hb v1).setCell (p := ⟨b, 2, none⟩) hb v2).setCell (p := ⟨b, 3, none⟩) hb v3).setCell (p := ⟨b, 4, none⟩) hb v4).setCell (p := ⟨b, 5, none⟩) hb v5).setCell (p := ⟨b, 6, none⟩) hb v6
/-- A box that holds a state, read as a result. -/
theorem box_cells {w : World} {b : Nat} {e : TypeId} {v0 v1 v2 v3 v4 v5 v6 : Value} (h : Blk w b e 7 (fun j => (#[v0, v1, v2, v3, v4, v5, v6] : Array Value).getD j default)) :
    w.cell? ⟨b, 0, none⟩ = some v0 ∧ w.cell? ⟨b, 1, none⟩ = some v1 ∧ w.cell? ⟨b, 2, none⟩ = some v2 ∧ w.cell? ⟨b, 3, none⟩ = some v3 ∧ w.cell? ⟨b, 4, none⟩ = some v4 ∧ w.cell? ⟨b, 5, none⟩ = some v5 ∧ w.cell? ⟨b, 6, none⟩ = some v6 :=
  ⟨h.cell (j := 0) (by decide), h.cell (j := 1) (by decide), h.cell (j := 2) (by decide), h.cell (j := 3) (by decide), h.cell (j := 4) (by decide), h.cell (j := 5) (by decide), h.cell (j := 6) (by decide)⟩

end Go.Proofs.Ytjiodlbblmbibad

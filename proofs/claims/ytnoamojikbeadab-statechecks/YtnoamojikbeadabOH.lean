/- Arguments, opened: holds, a hold. -/
import Derived.Test.YtnoamojikbeadabRows
import Derived.Test.YtnoamojikbeadabH
import Derived.ProofKit
import Derived.OpenShut
import Derived.Lib.SmallJoins
import Derived.Deep.Slices
namespace Go.Proofs.Ytnoamojikbeadab
open Go.ChangeShapes Go.WideShapes Go.ChangeAt Go.RowKit Go.Joins Go.Deep
set_option linter.unusedVariables false
set_option maxRecDepth 100000

namespace HoldsFrames
theorem own : ownKnob Try.prog.godebug = none := by kernel_rfl
theorem laidOut : laidOutB Try.prog = true := by kernel_rfl
theorem cellsInt : Try.prog.cellsOf 3 = 1 := by kernel_rfl
theorem cellsHold : Try.prog.cellsOf 24 = 4 := by kernel_rfl

section
variable {H : Type} {enc : TypeId × Value → H} {w : World} {held : Bool} {spare : Nat → Bool}

theorem addrOf {a : Addr} {i : Nat} {v : Value} (h : w.cell? (a.add i) = some v) (h0 : ∃ v0, w.cell? a = some v0) : ∃ b o, a = ⟨b, o, none⟩ ∧ b < w.heap.size ∧ w.cell? ⟨b, o + i, none⟩ = some v := by
  obtain ⟨b, off, spot⟩ := a
  obtain ⟨v0, h0⟩ := h0
  have hspot : spot = none := World.cell?_spot h0
  subst hspot
  refine ⟨b, off, rfl, World.block_lt_of_cell? w _ h0, ?_⟩
  rw [← Go.WideShapes.add_plain]
  exact h

theorem cells4 {base : Nat} {a : Addr} {cs : List Value} (h : w.cells? base a 4 = some cs) : ∃ c0 c1 c2 c3, cs = [c0, c1, c2, c3] ∧ w.cell? a = some c0 ∧ w.cell? (a.add 1) = some c1 ∧ w.cell? (a.add 2) = some c2 ∧ w.cell? (a.add 3) = some c3 := by
  obtain ⟨_, hlen, hc⟩ := World.cells?_some h
  match cs, hlen with
  | [c0, c1, c2, c3], _ =>
    refine ⟨c0, c1, c2, c3, rfl, ?_, ?_, ?_, ?_⟩
    · simpa [Addr.add] using hc 0 (by decide)
    · simpa using hc 1 (by decide)
    · simpa using hc 2 (by decide)
    · simpa using hc 3 (by decide)

theorem readHold {fuel : Nat} {c0 c1 c2 c3 : Value} {x : DataW H × List MemPlace} (h : DataW.trod enc Try.prog w 0 spare held fuel 24 [c0, c1, c2, c3] = some x) : ∃ y : Hd, c0 = .int .i64 y.o ∧ c1 = .int .i64 y.l ∧ c2 = .int .i64 y.b ∧ c3 = .int .i64 y.n := by
  obtain ⟨y0, y1, y2, y3, n, hx, hl, h0, h1, h2, h3⟩ := trod_struct4 Try.underlying24 h
  simp only [cellsInt, List.drop_succ_cons, List.drop_zero, List.take_succ_cons, List.take_zero] at h0 h1 h2 h3
  obtain ⟨n0, e0, _⟩ := DataW.trod_int Try.underlying3 h0
  obtain ⟨n1, e1, _⟩ := DataW.trod_int Try.underlying3 h1
  obtain ⟨n2, e2, _⟩ := DataW.trod_int Try.underlying3 h2
  obtain ⟨n3, e3, _⟩ := DataW.trod_int Try.underlying3 h3
  simp only [List.cons.injEq, and_true] at e0 e1 e2 e3
  exact ⟨⟨n0, n1, n2, n3⟩, e0, e1, e2, e3⟩

theorem readHolds {fuel : Nat} {cs : List Value} {x : DataW H × List MemPlace} (h : DataW.trod enc Try.prog w 0 spare held fuel 22 cs = some x) : ∃ s : Hs, cs = [s.val] ∧ s.At w := by
  rcases open_slice Try.underlying22 h with ⟨rfl, _⟩ | ⟨a, len, cap, m, n, D, Pl, rfl, hb, hl, hm, hmm, _, hx⟩
  · exact ⟨⟨none, 0, 0, fun _ => ⟨0, 0, 0, 0⟩⟩, rfl, Nat.le_refl _, Nat.zero_le _, fun i hi => absurd hi (Nat.not_lt_zero _), fun _ => rfl⟩
  · have hlm : len ≤ m := by rw [hmm]; split <;> omega
    rw [cellsHold] at hx
    haveI : Inhabited Hd := ⟨⟨0, 0, 0, 0⟩⟩
    obtain ⟨z, hz⟩ := choose_lt (α := Hd) (n := len) (p := fun i y => w.cell? (a.add (i * 4)) = some (.int .i64 y.o) ∧ w.cell? (a.add (i * 4 + 1)) = some (.int .i64 y.l) ∧ w.cell? (a.add (i * 4 + 2)) = some (.int .i64 y.b) ∧ w.cell? (a.add (i * 4 + 3)) = some (.int .i64 y.n)) (fun i hi => by
      obtain ⟨cs', hc, ht⟩ := hx i (by omega)
      obtain ⟨c0, c1, c2, c3, rfl, k0, k1, k2, k3⟩ := cells4 hc
      obtain ⟨y, rfl, rfl, rfl, rfl⟩ := readHold ht
      rw [add_add] at k1 k2 k3
      exact ⟨y, k0, k1, k2, k3⟩)
    refine ⟨⟨some a, len, cap, z⟩, rfl, hl, hm, fun i hi => ?_, fun h => by cases h⟩
    have hi' : i < len := hi
    have h0 : ∃ v0, w.cell? a = some v0 := ⟨_, by have := (hz 0 (by omega)).1; simpa [Addr.add] using this⟩
    obtain ⟨k0, k1, k2, k3⟩ := hz i hi'
    obtain ⟨b, o, rfl, hb', e0⟩ := addrOf k0 h0
    rw [Go.WideShapes.add_plain] at k1 k2 k3
    exact ⟨b, o, rfl, hb', e0, by rw [Nat.add_assoc]; exact k1, by rw [Nat.add_assoc]; exact k2, by rw [Nat.add_assoc]; exact k3⟩

theorem openHolds {r : Reach} {b0 : Nat} {v : Value} {d : DataW H} {ps : List MemPlace} (hv : Value.okWide Try.prog w r b0 22 v) (h : DataW.Trod enc Try.prog w 0 spare held 22 v d ps) : ∃ s : Hs, v = s.val ∧ s.At w := by
  obtain ⟨a0, len, cap, rfl⟩ := okWide_slice Try.underlying22 hv
  obtain ⟨fuel, hf⟩ := h
  obtain ⟨s, e, hs⟩ := readHolds hf
  simp only [Value.cells, List.cons.injEq, and_true] at e
  exact ⟨s, e, hs⟩

theorem openHold {r : Reach} {b0 : Nat} {v : Value} {d : DataW H} {ps : List MemPlace} (hv : Value.okWide Try.prog w r b0 24 v) (h : DataW.Trod enc Try.prog w 0 spare held 24 v d ps) : ∃ x : Hd, v = x.val := by
  obtain ⟨c0, c1, c2, c3, y0, y1, y2, y3, m, rfl, rfl, rfl, hy0, hy1, hy2, hy3⟩ := open_agg4 Try.underlying24 (by kernel_rfl) cellsHold hv h
  obtain ⟨n0, e0, _⟩ := DataW.trod_int Try.underlying3 hy0
  obtain ⟨n1, e1, _⟩ := DataW.trod_int Try.underlying3 hy1
  obtain ⟨n2, e2, _⟩ := DataW.trod_int Try.underlying3 hy2
  obtain ⟨n3, e3, _⟩ := DataW.trod_int Try.underlying3 hy3
  simp only [List.cons.injEq, and_true] at e0 e1 e2 e3
  subst e0 e1 e2 e3
  exact ⟨⟨n0, n1, n2, n3⟩, rfl⟩

end
end HoldsFrames
end Go.Proofs.Ytnoamojikbeadab

/- HoldsAdds: the walk. -/
import Derived.Test.YtmgmhhjnepjipabHW13
namespace Go.Proofs.Ytmgmhhjnepjipab
open Go.RowKit Go.Shelf
set_option linter.unusedVariables false

theorem AddOK.same {n : Nat} {z : Nat → Hd} {h : Hd} {x y : Hs} (hx : AddOK n z h x) (hy : AddOK n z h y) : x.n = y.n ∧ ∀ j, j < x.n → x.z j = y.z j := by
  have e : x.n = y.n := hx.1.trans hy.1.symm
  exact ⟨e, fun j hj => (hx.2 j hj).trans (hy.2 j (by rw [← e]; exact hj)).symm⟩

/-- A hold that was put by keeps its cells. -/
def boxed (w : World) (g : Nat) (h : Hd) : Prop :=
  w.cell? ⟨g, 0, none⟩ = some (.int .i64 h.o) ∧ w.cell? ⟨g, 1, none⟩ = some (.int .i64 h.l) ∧ w.cell? ⟨g, 2, none⟩ = some (.int .i64 h.b) ∧ w.cell? ⟨g, 3, none⟩ = some (.int .i64 h.n) ∧ g < w.heap.size
theorem boxed.below {w w' : World} {g : Nat} {h : Hd} (hb : boxed w g h) (hB : Below w.heap.size w w') : boxed w' g h :=
  have lt := hb.2.2.2.2
  ⟨(hB.cell (p := ⟨g, 0, none⟩) lt).trans hb.1, (hB.cell (p := ⟨g, 1, none⟩) lt).trans hb.2.1, (hB.cell (p := ⟨g, 2, none⟩) lt).trans hb.2.2.1, (hB.cell (p := ⟨g, 3, none⟩) lt).trans hb.2.2.2.1, Nat.lt_of_lt_of_le lt hB.size⟩
theorem boxed.mk' {w : World} {h : Hd} {t : TypeId} : boxed (w.alloc (.cells #[.int .i64 h.o, .int .i64 h.l, .int .i64 h.b, .int .i64 h.n] t)) w.heap.size h :=
  ⟨by simp, by simp, by simp, by simp, by simp⟩

set_option maxHeartbeats 1000000 in
theorem HoldsAdds_walk (s : Hs) (h : Hd) (w : World) (hs : s.At w) :
    Calls Try.prog 3 #[s.val, h.val] w fun e w' => e = .returned (.bool true) ∧ Below w.heap.size w w' := by
  have HV : Hid (∀ x : Hs, x.val = .slice x.a x.n x.c) := fun _ => rfl
  have F : ∃ W0, w.alloc (.cells #[.int .i64 h.o, .int .i64 h.l, .int .i64 h.b, .int .i64 h.n] 24) = W0 ∧ Below w.heap.size w W0 ∧ boxed W0 w.heap.size h := ⟨_, rfl, (Below.refl _ _).alloc (Nat.le_refl _) _, boxed.mk'⟩
  obtain ⟨W0, hW, hB0, hbx⟩ := F
  have HW : Hid (w.alloc (.cells #[.int .i64 h.o, .int .i64 h.l, .int .i64 h.b, .int .i64 h.n] 24) = W0) := hW
  clear hW
  have HX : Hid (boxed W0 w.heap.size h) := hbx
  rw [HV.out s]
  simp only [Hd.val]
  go_enter Try.func3, Try.ntmps3
  go_wp2_with fail
  rw [HW.out]
  refine (Add_any s h W0 (hs.below hB0)).mono ?_
  rintro e w1 ⟨x, rfl, xat, xok, hB1⟩
  rw [HV.out x]
  have hC1 := hB0.trans (hB1.mono hB0.size)
  obtain ⟨c0, c1, c2, c3, hsz⟩ := HX.out.below hB1
  go_wp2_with fail
  refine (AddOf_any s h w1 (hs.below hC1)).mono ?_
  rintro e w2 ⟨y, rfl, yat, yok, hB2⟩
  rw [HV.out y]
  have hC2 := hC1.trans (hB2.mono hC1.size)
  have HS : Hid (x.n = y.n ∧ ∀ j, j < x.n → x.z j = y.z j) := xok.same yok
  have xat2 := xat.below hB2
  clear xok yok xat c0 c1 c2 c3 hsz
  generalize addE s.n s.z h = AE
  go_wp2_with fail
  refine (holdsBegun_any w2).mono ?_
  rintro e w3 ⟨rfl, hB3⟩
  have hC3 := hC2.trans (hB3.mono hC2.size)
  go_wp2_with fail
  refine (SameHolds_yes x y w3 (xat2.below hB3) (yat.below hB3) HS.out.1 HS.out.2).mono ?_
  rintro e w4 ⟨rfl, hB4⟩
  go_wp2_with fail
  go_ret
  exact ⟨rfl, hC3.trans (hB4.mono hC3.size)⟩

end Go.Proofs.Ytmgmhhjnepjipab

/- HoldsTells: the walk. -/
import Derived.Test.YtmgmhhjnepjipaaHW12
namespace Go.Proofs.Ytmgmhhjnepjipaa
open Go.RowKit Go.Shelf
set_option linter.unusedVariables false

theorem DropOK.same {n : Nat} {z : Nat → Hd} {o l b : Int} {x y : Hs} (hx : DropOK n z o l b x) (hy : DropOK n z o l b y) : x.n = y.n ∧ ∀ j, j < x.n → x.z j = y.z j := by
  have e : x.n = y.n := hx.1.trans hy.1.symm
  exact ⟨e, fun j hj => (hx.2 j hj).trans (hy.2 j (by rw [← e]; exact hj)).symm⟩

def keptK (s : Hs) (o l : Int) : Int := if checkH s.n s.z = 0 then keptS s.z o l s.n else 0
theorem keptK_of {s : Hs} {o l : Int} (h : checkH s.n s.z = 0) : keptK s o l = keptS s.z o l s.n := if_pos h
theorem keptK_not {s : Hs} {o l : Int} (h : ¬ checkH s.n s.z = 0) : keptK s o l = 0 := if_neg h
theorem Kept_law (s : Hs) (o l : Int) (w : World) (hs : s.At w) :
    Calls Try.prog 27 #[s.val, .int .i64 o, .int .i64 l] w fun e w' => e = .returned (.tuple #[.int .i64 (keptK s o l), .int .i64 (checkH s.n s.z)]) ∧ Below w.heap.size w w' := Kept_any s o l w hs

set_option maxHeartbeats 2000000 in
theorem HoldsTells_walk (s : Hs) (o l b : Int) (w : World) (hs : s.At w) :
    Calls Try.prog 8 #[s.val, .int .i64 o, .int .i64 l, .int .i64 b] w fun e w' => e = .returned (.bool true) ∧ Below w.heap.size w w' := by
  have HV : Hid (∀ x : Hs, x.val = .slice x.a x.n x.c) := fun _ => rfl
  rw [HV.out s]
  go_enter Try.func8, Try.ntmps8
  go_wp2_with fail
  refine (Drop_any s o l b w hs).mono ?_
  rintro e w1 ⟨x, rfl, xat, xok, hB1⟩
  rw [HV.out x]
  go_wp2_with fail
  refine (Kept_law s o l w1 (hs.below hB1)).mono ?_
  rintro e w2 ⟨rfl, hB2⟩
  have hC2 := hB1.trans (hB2.mono hB1.size)
  go_wp2_with fail
  refine (DropOf_any s o l b w2 (hs.below hC2)).mono ?_
  rintro e w3 ⟨y, rfl, yat, yok, hB3⟩
  rw [HV.out y]
  have hC3 := hC2.trans (hB3.mono hC2.size)
  have HS : Hid (x.n = y.n ∧ ∀ j, j < x.n → x.z j = y.z j) := xok.same yok
  have xat3 := xat.below (hB2.trans (hB3.mono hB2.size))
  clear xok yok xat
  go_wp2_with fail
  refine (CheckHolds_any s w3 (hs.below hC3)).mono ?_
  rintro e w4 ⟨rfl, hB4⟩
  have hC4 := hC3.trans (hB4.mono hC3.size)
  have xat4 := xat3.below hB4
  have yat4 := yat.below hB4
  clear xat3 yat
  have HK : Hid (checkH s.n s.z = 0 → keptK s o l = keptS s.z o l s.n) := keptK_of
  have HK0 : Hid (¬ checkH s.n s.z = 0 → keptK s o l = 0) := keptK_not
  have HR : Hid (checkH s.n s.z = 0 → anyB s.n (badH s.z) = false) := checkH_zero
  generalize keptK s o l = KK at HK HK0 ⊢
  generalize dropN s.n s.z o l b = DN
  generalize dropE s.n s.z o l b = DE
  have HC : ∀ w, s.At w → Calls Try.prog 32 #[s.val] w fun e w' => e = .returned (.int .i64 (checkH s.n s.z)) ∧ Below w.heap.size w w' := holdsCheck_any s
  generalize checkH s.n s.z = CH at HK HK0 HR HC ⊢
  by_cases hc : CH = 0
  · subst hc
    go_wp2_with fail
    refine calls_to (KeptOf_any s o l w4 (hs.below hC4) (HR.out (by trivial))) ?_
    rw [← HK.out (by trivial)]
    go_wp2_with fail
    refine (holdsBegun_any w4).mono ?_
    rintro e w5 ⟨rfl, hB5⟩
    have hC5 := hC4.trans (hB5.mono hC4.size)
    go_wp2_with fail
    refine (HC w5 (hs.below hC5)).mono ?_
    rintro e w6 ⟨rfl, hB6⟩
    have hC6 := hC5.trans (hB6.mono hC5.size)
    go_wp2_with fail
    refine (SameHolds_yes x y w6 (xat4.below (hB5.trans (hB6.mono hB5.size))) (yat4.below (hB5.trans (hB6.mono hB5.size))) HS.out.1 HS.out.2).mono ?_
    rintro e w7 ⟨rfl, hB7⟩
    have hC7 := hC6.trans (hB7.mono hC6.size)
    go_wp2_with fail
    go_ret
    exact ⟨rfl, hC7⟩
  · have k0 := HK0.out hc
    subst k0
    go_wp2_with fail
    refine (holdsBegun_any w4).mono ?_
    rintro e w5 ⟨rfl, hB5⟩
    have hC5 := hC4.trans (hB5.mono hC4.size)
    go_wp2_with fail
    refine (HC w5 (hs.below hC5)).mono ?_
    rintro e w6 ⟨rfl, hB6⟩
    have hC6 := hC5.trans (hB6.mono hC5.size)
    go_wp2_with fail
    refine (SameHolds_yes x y w6 (xat4.below (hB5.trans (hB6.mono hB5.size))) (yat4.below (hB5.trans (hB6.mono hB5.size))) HS.out.1 HS.out.2).mono ?_
    rintro e w7 ⟨rfl, hB7⟩
    have hC7 := hC6.trans (hB7.mono hC6.size)
    go_wp2_with fail
    go_ret
    exact ⟨rfl, hC7⟩

end Go.Proofs.Ytmgmhhjnepjipaa

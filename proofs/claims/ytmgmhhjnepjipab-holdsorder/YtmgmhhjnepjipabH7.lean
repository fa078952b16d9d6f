/- Holds: what is added and dropped again. No walk. -/
import Derived.Test.YtmgmhhjnepjipabH6
namespace Go.Proofs.Ytmgmhhjnepjipab
open Go.RowKit
set_option linter.unusedVariables false

theorem dropE_of {n : Nat} {z : Nat → Hd} {o l b : Int} (hr : anyB n (badH z) = false) : dropE n z o l b = if keptV n z o l b = 0 then 4 else 0 := by
  unfold dropE; rw [if_pos (checkH_right hr)]
theorem dropN_of {n : Nat} {z : Nat → Hd} {o l b : Int} (hr : anyB n (badH z) = false) : dropN n z o l b = keptV n z o l b := by
  unfold dropN; rw [if_pos (checkH_right hr)]

theorem add_drop {n : Nat} {z : Nat → Hd} {h : Hd} {x : Hs} (hx : AddOK n z h x) (e : addE n z h = 0) :
    dropE x.n x.z h.o h.l h.b = 0 ∧ dropN x.n x.z h.o h.l h.b = keptV n z h.o h.l h.b + h.n ∧
    ∀ b : Hs, DropOK x.n x.z h.o h.l h.b b → (keptV n z h.o h.l h.b = 0 → b.n = n ∧ ∀ j, j < b.n → b.z j = z j) ∧ (¬ keptV n z h.o h.l h.b = 0 → ∀ c : Hs, DropOK n z h.o h.l h.b c → b.n = c.n ∧ ∀ j, j < b.n → b.z j = c.z j) := by
  obtain ⟨r0, hf, h2⟩ := addE_zero e
  obtain ⟨rx, kx⟩ := hx.right e
  have fh := fineH_true hf
  have hk : keptV x.n x.z h.o h.l h.b = keptV n z h.o h.l h.b + h.n := by rw [kx, matchH_self h]; rfl
  have hbd := keptV_bd (fun j hj => (fineH_true (right_fine r0 j hj)).2.2.2) h.o h.l h.b
  have hE : dropE x.n x.z h.o h.l h.b = 0 := by rw [dropE_of rx, if_neg (by omega)]
  have hn : x.n = addLen n z h := by have := hx.1; rw [if_pos e] at this; exact this
  have hz := hx.2
  obtain ⟨p1, p2, p3⟩ := pos_key r0 hf
  refine ⟨hE, by rw [dropN_of rx, hk], fun b hb => ⟨fun h0 => ?_, fun h0 c hc => ?_⟩⟩
  · have e1 : addLen n z h = n + 1 := if_pos h0
    have e2 : addZ n z h = insZ z (addPos n z h) h := if_pos h0
    rw [e1] at hn
    rw [e2] at hz
    have hp : dropI x.n x.z h.o h.l h.b = addPos n z h := (kept_at rx (show addPos n z h < x.n by omega) (by rw [hz _ (by omega), insZ_eq]; exact matchH_self h)).2
    have bn : b.n = n := by have := hb.1; rw [if_pos hE] at this; omega
    refine ⟨bn, fun j hj => ?_⟩
    rw [hb.2 j hj, hp]
    unfold dropZ
    by_cases hjp : j < addPos n z h
    · rw [if_pos hjp, hz j (by omega), insZ_lt hjp]
    · rw [if_neg hjp, hz (j + 1) (by omega), insZ_gt (by omega), Nat.add_sub_cancel]
  · have e1 : addLen n z h = n := if_neg h0
    have e2 : addZ n z h = setZ z (addPos n z h) ⟨h.o, h.l, h.b, keptV n z h.o h.l h.b + h.n⟩ := if_neg h0
    obtain ⟨_, _, _, q1, q2, q3⟩ := add_set r0 hf h0 h2
    rw [e1] at hn
    rw [e2] at hz
    have hp : dropI x.n x.z h.o h.l h.b = addPos n z h := (kept_at rx (show addPos n z h < x.n by omega) (by rw [hz _ (by omega), setZ_eq]; simp [matchH])).2
    have bn : b.n = n - 1 := by have := hb.1; rw [if_pos hE] at this; omega
    have hE' : dropE n z h.o h.l h.b = 0 := by rw [dropE_of r0, if_neg h0]
    have cn : c.n = n - 1 := by have := hc.1; rw [if_pos hE'] at this; omega
    refine ⟨by omega, fun j hj => ?_⟩
    rw [hb.2 j hj, hc.2 j (by omega), hp, q3]
    unfold dropZ
    by_cases hjp : j < addPos n z h
    · rw [if_pos hjp, if_pos hjp, hz j (by omega), setZ_ne (by omega)]
    · rw [if_neg hjp, if_neg hjp, hz (j + 1) (by omega), setZ_ne (by omega)]

end Go.Proofs.Ytmgmhhjnepjipab

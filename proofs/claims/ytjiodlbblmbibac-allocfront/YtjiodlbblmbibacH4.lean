/- Holds: adding, as functions. No walk. -/
import Derived.Test.YtjiodlbblmbibacH3
namespace Go.Proofs.Ytjiodlbblmbibac
open Go.RowKit
set_option linter.unusedVariables false

def addPos (n : Nat) (z : Nat → Hd) (h : Hd) : Nat := ((List.range n).find? (fun i => decide (0 ≤ cmpH (z i) h))).getD n
def addE (n : Nat) (z : Nat → Hd) (h : Hd) : Int := if checkH n z = 0 then (if fineH h then (if 200 < keptV n z h.o h.l h.b + h.n then 3 else 0) else 1) else checkH n z
def insZ (z : Nat → Hd) (i : Nat) (h : Hd) (j : Nat) : Hd := if j < i then z j else if j = i then h else z (j - 1)
def setZ (z : Nat → Hd) (i : Nat) (h : Hd) (j : Nat) : Hd := if j = i then h else z j
def addZ (n : Nat) (z : Nat → Hd) (h : Hd) : Nat → Hd := if keptV n z h.o h.l h.b = 0 then insZ z (addPos n z h) h else setZ z (addPos n z h) ⟨h.o, h.l, h.b, keptV n z h.o h.l h.b + h.n⟩
def addLen (n : Nat) (z : Nat → Hd) (h : Hd) : Nat := if keptV n z h.o h.l h.b = 0 then n + 1 else n
/-- What comes of adding. -/
def AddOK (n : Nat) (z : Nat → Hd) (h : Hd) (s' : Hs) : Prop :=
  s'.n = (if addE n z h = 0 then addLen n z h else 0) ∧ ∀ j, j < s'.n → s'.z j = addZ n z h j

theorem addPos_eq {n : Nat} {z : Nat → Hd} {h : Hd} {i : Nat} (hp : PosH n z h i) : addPos n z h = i := by
  unfold addPos
  by_cases hi : i < n
  · have e : List.range n = List.range i ++ (i :: (List.range (n - i - 1)).map (fun q => i + 1 + q)) := by
      have := @List.range_add i (n - i)
      rw [show i + (n - i) = n by omega] at this
      rw [this, show n - i = (n - i - 1) + 1 by omega, List.range_succ_eq_map]
      simp [Function.comp_def]
      intro q hq
      omega
    rw [e, List.find?_append]
    have h0 : (List.range i).find? (fun q => decide (0 ≤ cmpH (z q) h)) = none := by
      rw [List.find?_eq_none]
      intro x hx
      have := hp.lo x (List.mem_range.1 hx)
      simp; omega
    rw [h0, List.find?_cons]
    have := hp.hi i (Nat.le_refl _) hi
    simp [this]
  · have hin : i = n := by have := hp.le; omega
    subst hin
    have h0 : (List.range i).find? (fun q => decide (0 ≤ cmpH (z q) h)) = none := by
      rw [List.find?_eq_none]
      intro x hx
      have := hp.lo x (List.mem_range.1 hx)
      simp; omega
    rw [h0]
    rfl

theorem flatH_ins (n : Nat) (z : Nat → Hd) (i : Nat) (h : Hd) (hi : i ≤ n) : flatH (n + 1) (insZ z i h) = flatH i z ++ flatH 1 (fun _ => h) ++ flatH (n - i) (fun j => z (i + j)) := by
  rw [show n + 1 = (i + 1) + (n - i) by omega, flatH_append, flatH_append (insZ z i h) i 1]
  congr 1
  · congr 1
    · exact flatH_congr fun j hj => by unfold insZ; rw [if_pos hj]
    · exact flatH_congr fun j hj => by
        have : j = 0 := by omega
        subst this
        simp [insZ]
  · exact flatH_congr fun j hj => by
      show insZ z i h (i + 1 + j) = _
      unfold insZ
      rw [if_neg (by omega), if_neg (by omega), show i + 1 + j - 1 = i + j by omega]

theorem flatH_set (n : Nat) (z : Nat → Hd) (i : Nat) (h : Hd) (hi : i < n) : flatH n (setZ z i h) = flatH i z ++ flatH 1 (fun _ => h) ++ flatH (n - (i + 1)) (fun j => z (i + 1 + j)) := by
  rw [show flatH n (setZ z i h) = flatH ((i + 1) + (n - (i + 1))) (setZ z i h) by rw [show (i + 1) + (n - (i + 1)) = n by omega], flatH_append, flatH_append (setZ z i h) i 1]
  congr 1
  · congr 1
    · exact flatH_congr fun j hj => by unfold setZ; rw [if_neg (by omega)]
    · exact flatH_congr fun j hj => by
        have : j = 0 := by omega
        subst this
        simp [setZ]
  · exact flatH_congr fun j hj => by
      show setZ z i h (i + 1 + j) = _
      unfold setZ
      rw [if_neg (by omega)]

theorem Hs.one {w : World} {g : Nat} {h : Hd} {e : TypeId} (hb : Blk w g e 4 (fun j => (#[.int .i64 h.o, .int .i64 h.l, .int .i64 h.b, .int .i64 h.n] : Array Value).getD j default)) : Hs.At w ⟨some ⟨g, 0, none⟩, 1, 1, fun _ => h⟩ := by
  refine ⟨Nat.le_refl _, by show 1 ≤ maxLen; unfold maxLen; omega, fun i hi => ?_, fun h => by cases h⟩
  have hi0 : i = 0 := by have : i < 1 := hi; omega
  subst hi0
  exact ⟨g, 0, rfl, hb.lt, hb.cell (j := 0) (by decide), hb.cell (j := 1) (by decide), hb.cell (j := 2) (by decide), hb.cell (j := 3) (by decide)⟩

end Go.Proofs.Ytjiodlbblmbibac

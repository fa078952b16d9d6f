/- States: plain words; what lies in memory; what Check comes to. No walk. Lines and moves are four numbers each, as holds are: Hd, Hs (a line: o good, l want, b got, n back; a move: o good, l from, b to, n pieces). -/
import Derived.Test.YtjiodlbblmbibacH2
namespace Go.Proofs.Ytjiodlbblmbibac
open Go.RowKit
set_option linter.unusedVariables false

structure Od where
  k : Int
  ls : Hs
def Od.val (x : Od) : Value := .agg #[.int .i64 x.k, .slice x.ls.a x.ls.n x.ls.c]
def OdsAt (w : World) (a : Option Addr) (n : Nat) (z : Nat → Od) : Prop :=
  ∀ i, i < n → ∃ b o, a = some ⟨b, o, none⟩ ∧ b < w.heap.size ∧ w.cell? ⟨b, o + i * 2, none⟩ = some (.int .i64 (z i).k) ∧
    w.cell? ⟨b, o + i * 2 + 1, none⟩ = some (.slice (z i).ls.a (z i).ls.n (z i).ls.c) ∧ (z i).ls.At w
theorem OdsAt.below {w w' : World} {a : Option Addr} {n : Nat} {z : Nat → Od} (h : OdsAt w a n z) (hB : Below w.heap.size w w') : OdsAt w' a n z := by
  intro i hi
  obtain ⟨b, o, ha, hb, h0, h1, h2⟩ := h i hi
  exact ⟨b, o, ha, Nat.lt_of_lt_of_le hb hB.size, (hB.cell (p := ⟨b, o + i * 2, none⟩) hb).trans h0, (hB.cell (p := ⟨b, o + i * 2 + 1, none⟩) hb).trans h1, h2.below hB⟩

structure Os where
  a : Option Addr
  n : Nat
  c : Nat
  z : Nat → Od
def Os.val (s : Os) : Value := .slice s.a s.n s.c
structure Os.At (w : World) (s : Os) : Prop where
  le : s.n ≤ s.c
  cap : s.c ≤ maxLen
  ods : OdsAt w s.a s.n s.z
theorem Os.At.below {w w' : World} {s : Os} (h : s.At w) (hB : Below w.heap.size w w') : s.At w' := ⟨h.le, h.cap, h.ods.below hB⟩

structure St where
  on : Sh
  os : Os
  hs : Hs
  ms : Hs
  si : Rw
  so : Rw
  sf : Rw
def St.cells (s : St) : Array Value := #[.slice s.on.a s.on.n s.on.c, .slice s.os.a s.os.n s.os.c, .slice s.hs.a s.hs.n s.hs.c, .slice s.ms.a s.ms.n s.ms.c, .slice s.si.a s.si.n s.si.c, .slice s.so.a s.so.n s.so.c, .slice s.sf.a s.sf.n s.sf.c]
def St.val (s : St) : Value := .agg #[.slice s.on.a s.on.n s.on.c, .slice s.os.a s.os.n s.os.c, .slice s.hs.a s.hs.n s.hs.c, .slice s.ms.a s.ms.n s.ms.c, .slice s.si.a s.si.n s.si.c, .slice s.so.a s.so.n s.so.c, .slice s.sf.a s.sf.n s.sf.c]
structure St.At (w : World) (s : St) : Prop where
  on : s.on.At w
  os : s.os.At w
  hs : s.hs.At w
  ms : s.ms.At w
  si : s.si.At w
  so : s.so.At w
  sf : s.sf.At w
theorem St.At.below {w w' : World} {s : St} (h : s.At w) (hB : Below w.heap.size w w') : s.At w' := ⟨h.on.below hB, h.os.below hB, h.hs.below hB, h.ms.below hB, h.si.below hB, h.so.below hB, h.sf.below hB⟩

/-- What Check asks, part by part. -/
def fewLines (o : Od) : Bool := !inB o.ls.n 1 3
def tooManyB (s : St) : Bool := decide (4 < s.os.n) || decide (8 < s.ms.n) || anyB s.os.n (fun i => fewLines (s.os.z i))
def badLine (p : Pl) (x : Hd) : Bool := !inB x.o 0 ((p.ns : Int) - 1) || !inB x.l 1 200 || !inB x.b 0 x.l || !inB x.n 0 x.l
def badOrder (p : Pl) (o : Od) : Bool := !inB o.k 0 2 || anyB o.ls.n (fun j => badLine p (o.ls.z j))
def badOrdersB (p : Pl) (s : St) : Bool := anyB s.os.n (fun i => badOrder p (s.os.z i))
def homeless (p : Pl) (s : St) (h : Hd) : Bool := !inB h.o 0 ((s.os.n : Int) - 1) || !inB h.l 0 (((s.os.z h.o.toNat).ls.n : Int) - 1) || !inB h.b 0 ((p.nb : Int) - 1)
def badHoldsB (p : Pl) (s : St) : Bool := !(checkH s.hs.n s.hs.z == 0) || anyB s.hs.n (fun i => homeless p s (s.hs.z i))
def badMove (p : Pl) (m : Hd) : Bool := !inB m.o 0 ((p.ns : Int) - 1) || !inB m.l 0 ((p.nb : Int) - 1) || !inB m.b 0 ((p.nb : Int) - 1) || (m.l == m.b) || !inB m.n 1 200
def badMovesB (p : Pl) (s : St) : Bool := anyB s.ms.n (fun i => badMove p (s.ms.z i))
def badSum (p : Pl) (l : Rw) (low : Int) : Bool := ((l.n : Int) != (p.ns : Int)) || anyB l.n (fun i => !inB (l.z i) low 1048576)
def badSumsB (p : Pl) (s : St) : Bool := badSum p s.si 0 || badSum p s.so 0 || badSum p s.sf (-1048576)

/-- The good of the line that a hold is for. -/
def goodH (s : St) (h : Hd) : Int := ((s.os.z h.o.toNat).ls.z h.l.toNat).o
def heldTo (s : St) (b g : Int) : Nat → Int
  | 0 => 0
  | k + 1 => heldTo s b g k + (if (s.hs.z k).b = b ∧ goodH s (s.hs.z k) = g then (s.hs.z k).n else 0)
def fromTo (s : St) (b g : Int) : Nat → Int
  | 0 => 0
  | k + 1 => fromTo s b g k + (if (s.ms.z k).l = b ∧ (s.ms.z k).o = g then (s.ms.z k).n else 0)
def availZ (s : St) (b g : Nat) : Int := (s.on.r b).z g - heldTo s b g s.hs.n - fromTo s b g s.ms.n
def wrongGood (p : Pl) (s : St) (g : Nat) : Bool := !(sumTo (fun i => (s.on.r i).z g) s.on.n == s.si.z g - s.so.z g + s.sf.z g) || anyB p.nb (fun b => decide (availZ s b g < 0))
def wrongGoodsB (p : Pl) (s : St) : Bool := anyB p.ns (wrongGood p s)
def lacksL (x : Hd) : Bool := !(x.b == x.l)
def wrongL (k : Int) (x : Hd) (kept : Int) : Bool := if k = 0 then !(x.b == 0) || !(x.n == 0) || !(kept == 0) else if k = 2 then !(x.b + x.n == x.l) || !(kept == 0) else !(x.b + x.n + kept == x.l)
def wrongOrder (s : St) (i : Nat) : Bool := ((s.os.z i).k == 1 && !anyB (s.os.z i).ls.n (fun j => lacksL ((s.os.z i).ls.z j))) || anyB (s.os.z i).ls.n (fun j => wrongL (s.os.z i).k ((s.os.z i).ls.z j) (keptS s.hs.z i j s.hs.n))
def wrongOrdersB (s : St) : Bool := anyB s.os.n (wrongOrder s)

def stateE (p : Pl) (s : St) : Int :=
  if shelfE p s.on = 0 then (if tooManyB s then 2 else if badOrdersB p s || badHoldsB p s || badMovesB p s || badSumsB p s then 1 else if wrongGoodsB p s || wrongOrdersB s then 7 else 0) else shelfE p s.on

/-- What is known where nothing is too many, and all is formed. -/
structure Formed (p : Pl) (s : St) : Prop where
  sh : RightS p s.on
  sh0 : shelfE p s.on = 0
  os4 : s.os.n ≤ 4
  ms8 : s.ms.n ≤ 8
  lns : ∀ i, i < s.os.n → 1 ≤ (s.os.z i).ls.n ∧ (s.os.z i).ls.n ≤ 3
  kind : ∀ i, i < s.os.n → 0 ≤ (s.os.z i).k ∧ (s.os.z i).k ≤ 2
  line : ∀ i, i < s.os.n → ∀ j, j < (s.os.z i).ls.n → badLine p ((s.os.z i).ls.z j) = false
  hold : anyB s.hs.n (badH s.hs.z) = false
  home : ∀ i, i < s.hs.n → homeless p s (s.hs.z i) = false
  move : ∀ i, i < s.ms.n → badMove p (s.ms.z i) = false
  sin : s.si.n = p.ns
  son : s.so.n = p.ns
  sfn : s.sf.n = p.ns
  sib : ∀ j, j < p.ns → 0 ≤ s.si.z j ∧ s.si.z j ≤ 1048576
  sob : ∀ j, j < p.ns → 0 ≤ s.so.z j ∧ s.so.z j ≤ 1048576
  sfb : ∀ j, j < p.ns → -1048576 ≤ s.sf.z j ∧ s.sf.z j ≤ 1048576

theorem badSum_no {p : Pl} {l : Rw} {low : Int} (h : badSum p l low = false) : l.n = p.ns ∧ ∀ j, j < p.ns → low ≤ l.z j ∧ l.z j ≤ 1048576 := by
  unfold badSum at h
  rw [Bool.or_eq_false_iff] at h
  have hn : l.n = p.ns := by have h' : (l.n : Int) = (p.ns : Int) := (by simpa using h.1); omega
  refine ⟨hn, fun j hj => ?_⟩
  have := anyB_false h.2 j (by omega)
  simp only [Bool.not_eq_false'] at this
  exact inB_true this

theorem formed {p : Pl} {s : St} (h0 : shelfE p s.on = 0) (h1 : tooManyB s = false) (h2 : badOrdersB p s = false) (h3 : badHoldsB p s = false) (h4 : badMovesB p s = false) (h5 : badSumsB p s = false) : Formed p s := by
  unfold tooManyB at h1
  unfold badHoldsB at h3
  unfold badSumsB at h5
  simp only [Bool.or_eq_false_iff, decide_eq_false_iff_not] at h1 h3 h5
  obtain ⟨a, b⟩ := badSum_no h5.1.1
  obtain ⟨c, d⟩ := badSum_no h5.1.2
  obtain ⟨e, f⟩ := badSum_no h5.2
  have ho : ∀ i, i < s.os.n → badOrder p (s.os.z i) = false := anyB_false h2
  refine ⟨(rightS h0).2, h0, by omega, by omega, fun i hi => ?_, fun i hi => ?_, fun i hi j hj => ?_, ?_, anyB_false h3.2, anyB_false h4, a, c, e, b, d, f⟩
  · have := anyB_false h1.2 i hi
    simp only [fewLines, Bool.not_eq_false'] at this
    have := inB_true this
    omega
  · have := ho i hi
    simp only [badOrder, Bool.or_eq_false_iff, Bool.not_eq_false'] at this
    exact inB_true this.1
  · have := ho i hi
    simp only [badOrder, Bool.or_eq_false_iff] at this
    exact anyB_false this.2 j hj
  · have h' := h3.1
    cases hq : anyB s.hs.n (badH s.hs.z)
    · rfl
    · simp [checkH, hq] at h'

theorem homeless_no {p : Pl} {s : St} {h : Hd} (e : homeless p s h = false) : (0 ≤ h.o ∧ h.o.toNat < s.os.n) ∧ (0 ≤ h.l ∧ h.l.toNat < (s.os.z h.o.toNat).ls.n) ∧ 0 ≤ h.b ∧ h.b < p.nb := by
  simp only [homeless, Bool.or_eq_false_iff, Bool.not_eq_false'] at e
  obtain ⟨⟨a, b⟩, c⟩ := e
  have := inB_true a
  have := inB_true b
  have := inB_true c
  omega
theorem badMove_no {p : Pl} {m : Hd} (e : badMove p m = false) : (0 ≤ m.o ∧ m.o < p.ns) ∧ (0 ≤ m.l ∧ m.l < p.nb) ∧ (0 ≤ m.b ∧ m.b < p.nb) ∧ ¬ m.l = m.b ∧ 1 ≤ m.n ∧ m.n ≤ 200 := by
  simp only [badMove, Bool.or_eq_false_iff, Bool.not_eq_false', beq_eq_false_iff_ne, ne_eq] at e
  obtain ⟨⟨⟨⟨a, b⟩, c⟩, d⟩, f⟩ := e
  have := inB_true a
  have := inB_true b
  have := inB_true c
  have := inB_true f
  omega
theorem badLine_no {p : Pl} {x : Hd} (e : badLine p x = false) : (0 ≤ x.o ∧ x.o < p.ns) ∧ (1 ≤ x.l ∧ x.l ≤ 200) ∧ (0 ≤ x.b ∧ x.b ≤ x.l) ∧ 0 ≤ x.n ∧ x.n ≤ x.l := by
  simp only [badLine, Bool.or_eq_false_iff, Bool.not_eq_false'] at e
  obtain ⟨⟨⟨a, b⟩, c⟩, d⟩ := e
  have := inB_true a
  have := inB_true b
  have := inB_true c
  have := inB_true d
  omega

theorem heldTo_bd {s : St} {b g : Int} : ∀ {n : Nat}, (∀ j, j < n → 1 ≤ (s.hs.z j).n ∧ (s.hs.z j).n ≤ 200) → 0 ≤ heldTo s b g n ∧ heldTo s b g n ≤ 200 * n
  | 0, _ => by simp [heldTo]
  | n + 1, h => by
    have ih := heldTo_bd (b := b) (g := g) (n := n) fun j hj => h j (by omega)
    have := h n (by omega)
    simp only [heldTo]
    split <;> omega
theorem fromTo_bd {s : St} {b g : Int} : ∀ {n : Nat}, (∀ j, j < n → 1 ≤ (s.ms.z j).n ∧ (s.ms.z j).n ≤ 200) → 0 ≤ fromTo s b g n ∧ fromTo s b g n ≤ 200 * n
  | 0, _ => by simp [fromTo]
  | n + 1, h => by
    have ih := fromTo_bd (b := b) (g := g) (n := n) fun j hj => h j (by omega)
    have := h n (by omega)
    simp only [fromTo]
    split <;> omega
theorem Formed.holdN {p : Pl} {s : St} (f : Formed p s) : ∀ j, j < s.hs.n → 1 ≤ (s.hs.z j).n ∧ (s.hs.z j).n ≤ 200 := fun j hj => (fineH_true (right_fine f.hold j hj)).2.2.2
theorem Formed.moveN {p : Pl} {s : St} (f : Formed p s) : ∀ j, j < s.ms.n → 1 ≤ (s.ms.z j).n ∧ (s.ms.z j).n ≤ 200 := fun j hj => (badMove_no (f.move j hj)).2.2.2.2
theorem Formed.hs72 {p : Pl} {s : St} (f : Formed p s) : s.hs.n ≤ 72 := right_len f.hold

/-- What is known of a right state. -/
structure RightT (p : Pl) (s : St) : Prop where
  fm : Formed p s
  goods : ∀ g, g < p.ns → wrongGood p s g = false
  orders : ∀ i, i < s.os.n → wrongOrder s i = false
theorem rightT {p : Pl} {s : St} (h : stateE p s = 0) : RightT p s := by
  unfold stateE at h
  by_cases h0 : shelfE p s.on = 0
  · rw [if_pos h0] at h
    cases h1 : tooManyB s
    · rw [h1] at h
      cases h2 : (badOrdersB p s || badHoldsB p s || badMovesB p s || badSumsB p s)
      · rw [h2] at h
        cases h3 : (wrongGoodsB p s || wrongOrdersB s)
        · simp only [Bool.or_eq_false_iff] at h2 h3
          exact ⟨formed h0 h1 h2.1.1.1 h2.1.1.2 h2.1.2 h2.2, anyB_false h3.1, anyB_false h3.2⟩
        · rw [h3] at h; simp at h
      · rw [h2] at h; simp at h
    · rw [h1] at h; simp at h
  · rw [if_neg h0] at h; exact absurd h h0

end Go.Proofs.Ytjiodlbblmbibac

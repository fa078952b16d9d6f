/- Texts that were built one behind the other, joined; what BookDone does not reach is left out. -/
import Derived.Test.YtbcacebifpagpafK2BookDone
import Derived.RangeFuncBox
import Derived.RangeFuncLeaves
import Derived.Shelf.Abstract
import Derived.WalkKit
import Derived.OwnWalkIn
import Derived.TacticsInMore
import Derived.LoopNIn
import Derived.LoopIn
import Derived.Maps.AppendAt
import Derived.RangeFuncNested
import Derived.KernelRfl
import Derived.Test.YtbcacebifpagpafRows
import Derived.ProofKit
import Derived.OpenShut
import Derived.Lib.SmallJoins
import Derived.Deep.Slices
namespace Go.Proofs.Ytbcacebifpagpaf
open Go.RowKit
set_option linter.unusedVariables false
section
variable {p : Pl} {s x : St} {o l b : Nat} {n : Int}
theorem kindS_lines (s : St) (o : Nat) (v : Int) (i : Nat) : ((kindS s o v).os.z i).ls = (s.os.z i).ls := by
  by_cases h : i = o
  · subst h
    rw [kindS_at]
  · unfold kindS
    exact congrArg Od.ls (if_neg h)
structure PickEnd (p : Pl) (s x : St) (o l b : Nat) (n : Int) : Prop where
  r : RightT p x
  osn : x.os.n = s.os.n
  lns : ∀ i, i < s.os.n → (x.os.z i).ls.n = (s.os.z i).ls.n
  other : ∀ i, i < s.os.n → ∀ j, j < (s.os.z i).ls.n → ¬ (i = o ∧ j = l) → (x.os.z i).ls.z j = (s.os.z i).ls.z j ∧ keptS x.hs.z i j x.hs.n = keptS s.hs.z i j s.hs.n
  mine : ((x.os.z o).ls.z l).b = ((s.os.z o).ls.z l).b + n ∧ ((x.os.z o).ls.z l).o = ((s.os.z o).ls.z l).o
  closed : ((x.os.z o).k == 2) = !anyB (x.os.z o).ls.n (fun j => lacksL ((x.os.z o).ls.z j))
  kind : (x.os.z o).k = 1 ∨ (x.os.z o).k = 2
  gone : keptV x.hs.n x.hs.z o l b = 0
  short : ((s.os.z o).ls.z l).n < ((x.os.z o).ls.z l).n → ∀ c : Nat, c < p.nb → ¬ c = b → availZ x c (lineGood s o l) = 0
theorem SameT.keptV (h : SameT x s) (a b c : Int) : Go.Proofs.Ytbcacebifpagpaf.keptV x.hs.n x.hs.z a b c = Go.Proofs.Ytbcacebifpagpaf.keptV s.hs.n s.hs.z a b c := by
  rw [h.hs.1]
  exact keptV_congr (fun j hj => h.hs.2 j (by rw [h.hs.1]; exact hj)) a b c
theorem PickEnd.same {y : St} (h : PickEnd p s y o l b n) (e : SameT x y) (ho : o < s.os.n) (hl : l < (s.os.z o).ls.n) (hg : lineGood s o l < p.ns) : PickEnd p s x o l b n := by
  have od : ∀ i, i < s.os.n → i < x.os.n := fun i hi => by rw [e.os.1, h.osn]; exact hi
  have eo := e.os.2 o (od o ho)
  have ln : ∀ i, i < s.os.n → ∀ j, j < (s.os.z i).ls.n → (x.os.z i).ls.z j = (y.os.z i).ls.z j := fun i hi j hj => e.line (by rw [h.osn]; exact hi) (by rw [h.lns i hi]; exact hj)
  refine ⟨e.right h.r, e.os.1.trans h.osn, fun i hi => (e.os.2 i (od i hi)).2.1.trans (h.lns i hi), fun i hi j hj hn => ?_, ?_, ?_, ?_, ?_, fun hs c hc hcb => ?_⟩
  · rw [ln i hi j hj, e.kept]
    exact h.other i hi j hj hn
  · rw [ln o ho l hl]
    exact h.mine
  · rw [eo.1, h.closed, eo.2.1]
    exact congrArg not (anyB_congr fun j hj => by rw [ln o ho j (by rw [← h.lns o ho]; exact hj)])
  · rw [eo.1]
    exact h.kind
  · rw [e.keptV]
    exact h.gone
  · rw [ln o ho l hl] at hs
    rw [e.avail h.r.fm hc hg]
    exact h.short hs c hc hcb
theorem PickIn.ends (h : PickIn p s o l b n) : PickEnd p s (pickT p s o l b n) o l b n := by
  have hr := pick_right h
  have hd := h.hd
  have bd := hd.bd
  have nh := h.nh
  have ex : ((s.os.z o).ls.z l).o = (lineGood s o l : Int) := hd.good.1
  have kd := h.hd.drop.2 o l b
  rw [if_pos ⟨rfl, rfl, rfl⟩] at kd
  unfold pickT at hr ⊢
  cases hg : gotAll (pickS s o l b n) o
  · rw [hg, if_neg (by decide)] at hr
    rw [if_neg (by decide)]
    have I := h.stepIn hg
    have T : Step p b (pickS s o l b n) o l (heldAt s o l b - n) (takeT p b (pickS s o l b n) o l (heldAt s o l b - n)) := takeT_step h.takeIn
    generalize takeT p b (pickS s o l b n) o l (heldAt s o l b - n) = y at *
    have k := I.tk
    have A := (Along.self (but := b) I.r (SameT.self _)).step I T
    have T' : Took (pickS s o l b n) o l (heldAt s o l b - n) (Tk.go (avT (pickS s o l b n) o l) (heldAt s o l b - n) (wayT p b)) y := T
    generalize Tk.go (avT (pickS s o l b n) o l) (heldAt s o l b - n) (wayT p b) = t at k T'
    have on : (pickS s o l b n).os.n = s.os.n := rfl
    have hk : ∀ i, i < s.os.n → (y.os.z i).k = (s.os.z i).k ∧ (y.os.z i).ls.n = (s.os.z i).ls.n := fun i hi => by
      have e := A.kind i hi
      have f := pickS_k s o l b n i
      exact ⟨e.1.trans f.1, e.2.trans f.2⟩
    have hin : ∀ i, i < s.os.n → ∀ j, j < (s.os.z i).ls.n → j < ((pickS s o l b n).os.z i).ls.n := fun i hi j hj => by rw [(pickS_k s o l b n i).2]; exact hj
    have l0 := k.left0
    have l1 := k.leftn
    refine ⟨hr, T'.os.1, fun i hi => (hk i hi).2, fun i hi j hj hn => ?_, ?_, ?_, Or.inl ((hk o hd.on).1.trans hd.kind), ?_, fun hs c hc hcb => ?_⟩
    · rw [T'.line hi (hin i hi j hj), if_neg hn, pickS_line, if_neg hn, T'.keptS I.r.fm k.sum, if_neg (fun e => hn ⟨by omega, by omega⟩), hd.keptS, if_neg (fun e => hn ⟨by omega, by omega⟩)]
      exact ⟨rfl, by omega⟩
    · rw [T'.line hd.on (hin o hd.on l hd.ln), if_pos ⟨rfl, rfl⟩, pickS_line, if_pos ⟨rfl, rfl⟩]
      exact ⟨rfl, rfl⟩
    · rw [(hk o hd.on).1, hd.kind]
      unfold gotAll at hg
      rw [(hk o hd.on).2, ← (pickS_k s o l b n o).2]
      have e : anyB ((pickS s o l b n).os.z o).ls.n (fun j => lacksL ((y.os.z o).ls.z j)) = anyB ((pickS s o l b n).os.z o).ls.n (fun j => lacksL (((pickS s o l b n).os.z o).ls.z j)) := anyB_congr fun j hj => by
        have e := A.line o hd.on j hj
        unfold lacksL
        rw [e.2.1, e.2.2]
      rw [e, hg]
      rfl
    · rw [T'.kept, if_pos ⟨rfl, rfl⟩, k.other _ (fun hm => (wayT_mem.1 hm).2 rfl)]
      have e : (pickS s o l b n).hs = dropHs s.hs o l b := rfl
      rw [e, kd]
      rfl
    · rw [T'.line hd.on (hin o hd.on l hd.ln), if_pos ⟨rfl, rfl⟩, pickS_line, if_pos ⟨rfl, rfl⟩] at hs
      have hs' : ((s.os.z o).ls.z l).n < ((s.os.z o).ls.z l).n + (heldAt s o l b - n) - (heldAt s o l b - n - t.left) := hs
      have hm : ((c : Nat) : Int) ∈ wayT p b := wayT_mem.2 ⟨way_has hc, fun e => hcb (by omega)⟩
      have ha := k.all (by omega) c hm
      have lg : (((pickS s o l b n).os.z o).ls.z l).o = (lineGood s o l : Int) := by rw [pickS_line, if_pos ⟨rfl, rfl⟩]; exact ex
      rw [T'.avail I.r.fm hr.fm I.on I.ln hc hd.good.2, if_pos lg, ha]
      unfold avT
      rw [lg]
      exact Int.sub_self _
  · rw [hg, if_pos rfl] at hr
    rw [if_pos rfl]
    have a0 := h.all0 hg
    have hl := kindS_lines (pickS s o l b n) o 2
    refine ⟨hr, rfl, fun i hi => by rw [hl, (pickS_k s o l b n i).2], fun i hi j hj hn => ?_, ?_, ?_, Or.inr (by rw [kindS_at]), kd, fun hs c hc hcb => ?_⟩
    · rw [hl, pickS_line, if_neg hn]
      have e := hd.keptS n i j
      rw [if_neg (fun e => hn ⟨by omega, by omega⟩)] at e
      exact ⟨rfl, e.trans (by omega)⟩
    · rw [hl, pickS_line, if_pos ⟨rfl, rfl⟩]
      exact ⟨rfl, rfl⟩
    · rw [hl, kindS_at]
      unfold gotAll at hg
      rw [hg]
      rfl
    · rw [hl, pickS_line, if_pos ⟨rfl, rfl⟩] at hs
      have hs' : ((s.os.z o).ls.z l).n < ((s.os.z o).ls.z l).n + (heldAt s o l b - n) := hs
      omega
theorem PickEnd.sum (h : PickEnd p s x o l b n) (ho : o < x.os.n) (hl : l < (x.os.z o).ls.n) : ((x.os.z o).ls.z l).b + ((x.os.z o).ls.z l).n + keptS x.hs.z o l x.hs.n = ((x.os.z o).ls.z l).l := by
  rcases h.kind with k | k
  · exact (line_sum h.r ho hl k).1
  · have w := h.r.orders o ho
    unfold wrongOrder at w
    rw [Bool.or_eq_false_iff] at w
    have wl : wrongL (x.os.z o).k ((x.os.z o).ls.z l) (keptS x.hs.z o l x.hs.n) = false := anyB_false w.2 l hl
    unfold wrongL at wl
    rw [k, if_neg (by decide), if_pos rfl] at wl
    simp only [Bool.or_eq_false_iff, Bool.not_eq_false', beq_iff_eq] at wl
    omega
end
end Go.Proofs.Ytbcacebifpagpaf
namespace Go.Proofs.Ytbcacebifpagpaf
open Go.RowKit
set_option linter.unusedVariables false
def addT (x ln : Hd) (kept : Int) (g : Nat) : Hd := if ln.o = (g : Int) then ⟨x.o, x.l + kept, x.b + ln.n, x.n + ln.b⟩ else x
def lineT (s : St) (i g : Nat) : Nat → Hd → Hd
  | 0, x => x
  | j + 1, x => addT (lineT s i g j x) ((s.os.z i).ls.z j) (keptS s.hs.z i j s.hs.n) g
def ordT (s : St) (g : Nat) : Nat → Hd
  | 0 => ⟨sumTo (fun i => (s.on.r i).z g) s.on.n, 0, 0, 0⟩
  | i + 1 => lineT s i g (s.os.z i).ls.n (ordT s g i)
def totT (s : St) (g : Nat) : Hd := ordT s g s.os.n
def openN (s : St) : Nat → Nat
  | 0 => 0
  | i + 1 => openN s i + (if (s.os.z i).k = 2 then 0 else 1)
theorem openN_le (s : St) : ∀ k, openN s k ≤ k
  | 0 => Nat.le_refl _
  | k + 1 => by
    have := openN_le s k
    simp only [openN]
    split <;> omega
def TotLe (x : Hd) (B : Int) : Prop := (0 ≤ x.l ∧ x.l ≤ B) ∧ (0 ≤ x.b ∧ x.b ≤ B) ∧ 0 ≤ x.n ∧ x.n ≤ B
theorem addT_le {x ln : Hd} {kept B : Int} {g : Nat} (h : TotLe x B) (h1 : 0 ≤ kept ∧ kept ≤ 14400) (h2 : 0 ≤ ln.n ∧ ln.n ≤ 200) (h3 : 0 ≤ ln.b ∧ ln.b ≤ 200) : TotLe (addT x ln kept g) (B + 14400) := by
  unfold TotLe at h ⊢
  unfold addT
  split
  · show (0 ≤ x.l + kept ∧ x.l + kept ≤ B + 14400) ∧ (0 ≤ x.b + ln.n ∧ x.b + ln.n ≤ B + 14400) ∧ 0 ≤ x.n + ln.b ∧ x.n + ln.b ≤ B + 14400
    omega
  · omega
theorem lineT_le {p : Pl} {s : St} (f : Formed p s) {i g : Nat} (hi : i < s.os.n) {x : Hd} {B : Int} (h : TotLe x B) : ∀ {j : Nat}, j ≤ (s.os.z i).ls.n → TotLe (lineT s i g j x) (B + 14400 * j)
  | 0, _ => by rw [show B + 14400 * ((0 : Nat) : Int) = B by omega]; exact h
  | j + 1, hj => by
    have ih := lineT_le f (g := g) hi h (j := j) (by omega)
    obtain ⟨-, ⟨l1, l2⟩, ⟨b1, b2⟩, n1, n2⟩ := badLine_no (f.line i hi j (by omega))
    have k := keptS_bd (z := s.hs.z) i j s.hs.n fun q hq => (fineH_true (right_fine f.hold q hq)).2.2.2
    have h72 := f.hs72
    have := addT_le (g := g) ih (kept := keptS s.hs.z i j s.hs.n) (ln := (s.os.z i).ls.z j) (by omega) (by omega) (by omega)
    rw [show B + 14400 * ((j + 1 : Nat) : Int) = B + 14400 * (j : Int) + 14400 by omega]
    exact this
theorem ordT_le {p : Pl} {s : St} (f : Formed p s) {g : Nat} : ∀ {i : Nat}, i ≤ s.os.n → TotLe (ordT s g i) (43200 * i)
  | 0, _ => ⟨⟨Int.le_refl _, Int.le_refl _⟩, ⟨Int.le_refl _, Int.le_refl _⟩, Int.le_refl _, Int.le_refl _⟩
  | i + 1, hi => by
    have ih := ordT_le f (g := g) (i := i) (by omega)
    have a := lineT_le f (i := i) (g := g) (by omega) ih (j := (s.os.z i).ls.n) (Nat.le_refl _)
    have l3 := (f.lns i (by omega)).2
    unfold TotLe at a ⊢
    simp only [ordT]
    omega
end Go.Proofs.Ytbcacebifpagpaf
namespace Go.Proofs.Ytbcacebifpagpaf
open Go.RowKit
set_option linter.unusedVariables false
theorem Step.none {p : Pl} {but : Int} {y x : St} {i j : Nat} {n : Int} (h : TakeIn p y i j n) (h0 : ∀ c : Nat, c < p.nb → ¬ ((c : Nat) : Int) = but → availZ y c ((y.os.z i).ls.z j).o.toNat = 0) (T : Step p but y i j n x) : SameT x y := by
  have k := h.tkw (but := but)
  have tz : ∀ c, (Tk.go (avT y i j) n (wayT p but)).took c = 0 := fun c => by
    by_cases hm : c ∈ wayT p but
    · have w := StepIn.way _ hm
      have u := h0 c.toNat (by omega) (by rw [show ((c.toNat : Nat) : Int) = c by omega]; exact (wayT_mem.1 hm).2)
      have v := k.had _ hm
      have t0 := k.took0 c
      have e2 : avT y i j c = 0 := u
      rw [e2] at v
      omega
    · exact k.other _ hm
  have sz := k.sum
  rw [sumTo_zero fun c hc => tz c] at sz
  exact Took.same T (Took.congr (Took.start (n := n) h.fm.hold (SameT.self y)) (show (Tk.go (avT y i j) n (wayT p but)).left = n by omega) tz)
section
variable {p : Pl} {s x z : St}
theorem Released.kind (r : RightT p s) (h : Released p s x) {i : Nat} (hi : i < x.os.n) : ¬ (x.os.z i).k = 0 ∧ (x.os.z i).ls.n = (s.os.z i).ls.n := by
  have P := h.pos r
  have hs : i < s.os.n := by have := P.al.osn; exact this ▸ hi
  have k := P.al.kind i hs
  refine ⟨fun e => ?_, k.2.trans (relM_eq s i).symm⟩
  rw [k.1] at e
  have e' : (relOd s.os.n i (s.os.z i)).k = 0 := e
  unfold relOd at e'
  by_cases c : i < s.os.n ∧ (s.os.z i).k = 0
  · rw [if_pos c] at e'; cases e'
  · rw [if_neg c] at e'; exact c ⟨hs, e'⟩
theorem Released.none (r : RightT p s) (h : Released p s x) {i j : Nat} (hi : i < x.os.n) (hj : j < (x.os.z i).ls.n) (hk : (x.os.z i).k = 1) (hb : 0 < ((x.os.z i).ls.z j).n) {c : Nat} (hc : c < p.nb) : availZ x c ((x.os.z i).ls.z j).o.toNat = 0 := by
  have P := h.pos r
  have hs : i < s.os.n := by have := P.al.osn; exact this ▸ hi
  have k := P.al.kind i hs
  have hj' : j < ((relO s s.os.n).os.z i).ls.n := by rw [← k.2]; exact hj
  have q : relQ s i j = (((relO s s.os.n).os.z i).ls.z j).n := if_pos (k.1.symm.trans hk)
  rw [(P.al.line i hs j hj').1]
  exact P.none i j hs hj' (Or.inl hs) q hb c hc (by omega)
theorem relO_again (r : RightT p s) (h : Released p s x) : relO x x.os.n = x := by
  unfold relO
  have e : (fun i => relOd x.os.n i (x.os.z i)) = x.os.z := funext fun i => if_neg (fun e => (h.kind r e.1).1 e.2)
  rw [e]
theorem Released.again (r : RightT p s) (h : Released p s x) (k : Released p x z) : SameT x z := by
  have rx := (h.pos r).al.r
  have e := relO_again r h
  have Q := rel_qin rx
  have hm : ∀ a, a < (relO x x.os.n).os.n → relM x a = ((relO x x.os.n).os.z a).ls.n := fun a _ => relM_eq x a
  have row : ∀ i, i < x.os.n → ∀ y, SameT y x → Pos p (-1) (relQ x) (relO x x.os.n) i 0 y → ∀ j, j ≤ (x.os.z i).ls.n → ∀ y', TkRow p (-1) (relQ x) i y j y' → SameT y' x := fun i hi y hy P j => by
    induction j with
    | zero =>
      intro _ y' h'
      have h2 : y' = y := h'
      rw [h2]
      exact hy
    | succ j ih =>
      intro hj y' ⟨u, hu, T⟩
      have su := ih (by omega) u hu
      have I := (TkRow.pos Q P hi (by rw [← relM_eq]; show j ≤ (x.os.z i).ls.n; omega) hu).stepIn Q hi (by rw [← relM_eq]; exact hj)
      have hju : j < (x.os.z i).ls.n := by omega
      by_cases h0 : relQ x i j = 0
      · rw [h0] at I T
        exact (Step.zero I.tki T).trans su
      · have hq : relQ x i j = ((x.os.z i).ls.z j).n ∧ (x.os.z i).k = 1 := by
          unfold relQ at h0 ⊢
          rw [e] at h0 ⊢
          by_cases c : (x.os.z i).k = 1
          · rw [if_pos c]; exact ⟨rfl, c⟩
          · rw [if_neg c] at h0; exact absurd rfl h0
        have q0 := I.n0
        refine (Step.none I.tki (fun c hc _ => ?_) T).trans su
        have gg := (badLine_no (rx.fm.line i hi j hju)).1
        rw [su.line hi hju, su.avail rx.fm hc (by omega)]
        exact h.none r hi hju hq.2 (by omega) hc
  have all : ∀ i, i ≤ x.os.n → ∀ y, TkAll p (-1) (relQ x) (relM x) (relO x x.os.n) i y → SameT y x := fun i => by
    induction i with
    | zero =>
      intro _ y hy
      have hy' : SameT y (relO x x.os.n) := hy
      rw [e] at hy'
      exact hy'
    | succ i ih =>
      intro hi y ⟨u, hu, hr⟩
      exact row i (by omega) u (ih (by omega) u hu) (TkAll.pos Q hm (Nat.le_of_succ_le hi) hu) (relM x i) (Nat.le_refl _) y hr
  exact (all x.os.n (Nat.le_refl _) z k).symm
theorem Released.first (r : RightT p s) (h : Released p s x) {a b a' b' : Nat} (ha : a < a') (ha' : a' < s.os.n) (hb : b < (s.os.z a).ls.n) (hb' : b' < (s.os.z a').ls.n) (hk : (x.os.z a).k = 1) (hn : ¬ ((x.os.z a).ls.z b).n = 0) (hg : ((x.os.z a).ls.z b).o = ((x.os.z a').ls.z b').o) : keptS x.hs.z a' b' x.hs.n = keptS s.hs.z a' b' s.hs.n := by
  have P := h.pos r
  have hs : a < s.os.n := by omega
  have k := P.al.kind a hs
  have hb1 : b < ((relO s s.os.n).os.z a).ls.n := by rw [← relM_eq]; exact hb
  have hb2 : b' < ((relO s s.os.n).os.z a').ls.n := by rw [← relM_eq]; exact hb'
  have q : relQ s a b = (((relO s s.os.n).os.z a).ls.z b).n := if_pos (k.1.symm.trans hk)
  have n0 := (right_line P.al.r (by rw [P.al.osn]; exact hs) (by rw [k.2]; exact hb1)).1
  rw [(P.al.line a hs b hb1).1, (P.al.line a' ha' b' hb2).1] at hg
  exact P.first a b hs hb1 a' b' ha' hb2 (Or.inl ha) (Or.inl ha') q (by omega) hg
end
end Go.Proofs.Ytbcacebifpagpaf
namespace Go.Proofs.Ytbcacebifpagpaf
open Go.RowKit
set_option linter.unusedVariables false
structure DoneIn (p : Pl) (t : St) : Prop where
  r : RightT p t
  kd : ∀ i, i < t.os.n → ¬ (t.os.z i).k = 0
theorem first_held {p : Pl} {t : St} (h : 0 < t.hs.n) : heldAt t (t.hs.z 0).o (t.hs.z 0).l (t.hs.z 0).b = (t.hs.z 0).n :=
  keptV_some (k := 0) h (fun j hj => absurd hj (Nat.not_lt_zero _)) (matchH_self _)
theorem first_pick {p : Pl} {t : St} (r : RightT p t) (h : 0 < t.hs.n) : pickE p t (t.hs.z 0).o (t.hs.z 0).l (t.hs.z 0).b (t.hs.z 0).n = 0 ∨ pickE p t (t.hs.z 0).o (t.hs.z 0).l (t.hs.z 0).b (t.hs.z 0).n = 2 := by
  have e := first_held (p := p) h
  have n1 := r.fm.holdN 0 h
  have h1 : ¬ heldAt t (t.hs.z 0).o (t.hs.z 0).l (t.hs.z 0).b = 0 := by rw [e]; omega
  have h2 : inB (t.hs.z 0).n 0 (heldAt t (t.hs.z 0).o (t.hs.z 0).l (t.hs.z 0).b) = true := by rw [e]; exact inB_mk (by omega)
  by_cases h3 : 1048576 < t.so.z (lineGood t (t.hs.z 0).o.toNat (t.hs.z 0).l.toNat) + (t.hs.z 0).n
  · exact Or.inr (pickE_many (stateE_of r) h1 h2 h3)
  · exact Or.inl (pickE_ok (stateE_of r) h1 h2 h3)
theorem takeF_zero {s0 : St} {o l : Nat} : ∀ (L : List Int) (x : St), (∀ c, c ∈ L → 0 ≤ avT s0 o l c) → takeF s0 o l L 0 x = x
  | [], _, _ => rfl
  | b :: L, x, h => by
    have h0 := h b (List.mem_cons_self ..)
    have e : min 0 (avT s0 o l b) = 0 := by omega
    simp only [takeF]
    rw [e, Int.sub_zero, takeB, if_neg (by omega)]
    exact takeF_zero L x fun c hc => h c (List.mem_cons_of_mem _ hc)
theorem pick_whole {p : Pl} {t : St} {o l b : Nat} {n : Int} (h : PickIn p t o l b n) (hn : heldAt t o l b = n) : pickT p t o l b n = if gotAll (pickS t o l b n) o then kindS (pickS t o l b n) o 2 else pickS t o l b n := by
  unfold pickT
  split
  · rfl
  · unfold takeT
    rw [hn, Int.sub_self]
    refine takeF_zero _ _ fun c hc => ?_
    have hw := (wayT_mem.1 hc).1
    have hm : 0 ≤ c ∧ c < p.nb := by
      obtain ⟨i, hi, rfl⟩ := List.getElem_of_mem hw
      have k := way_in (p := p) hi
      rw [show (wayL p).getD i 0 = (wayL p)[i] by simp [List.getD, List.getElem?_eq_getElem hi]] at k
      exact k
    exact h.takeIn.av c.toNat (by omega)
theorem pick_done {p : Pl} {t x : St} (d : DoneIn p t) (h : 0 < t.hs.n) (e : pickE p t (t.hs.z 0).o (t.hs.z 0).l (t.hs.z 0).b (t.hs.z 0).n = 0)
    (hx : SameT x (pickT p t (t.hs.z 0).o.toNat (t.hs.z 0).l.toNat (t.hs.z 0).b.toNat (t.hs.z 0).n)) : DoneIn p x ∧ x.hs.n + 1 = t.hs.n := by
  have hh := first_held (p := p) h
  obtain ⟨-, o, l, b, e1, e2, e3, hi⟩ := pickIn e
  rw [e1, e2, e3] at hx hh
  simp only [Int.toNat_natCast] at hx
  have hw := pick_whole hi hh
  have R : RightT p (pickT p t o l b (t.hs.z 0).n) := hi.ends.r
  have K : ∀ i, ((pickT p t o l b (t.hs.z 0).n).os.z i).k = (t.os.z i).k ∨ ((pickT p t o l b (t.hs.z 0).n).os.z i).k = 2 := fun i => by
    rw [hw]
    split
    · by_cases hio : i = o
      · right
        rw [hio, kindS_at]
      · left
        rw [show (kindS (pickS t o l b (t.hs.z 0).n) o 2).os.z i = (pickS t o l b (t.hs.z 0).n).os.z i from if_neg hio]
        exact (pickS_k t o l b _ i).1
    · exact Or.inl (pickS_k t o l b _ i).1
  have N : (pickT p t o l b (t.hs.z 0).n).hs.n = t.hs.n - 1 := by
    rw [hw]
    split <;> rfl
  refine ⟨⟨hx.right R, fun i hi' => ?_⟩, by rw [hx.hs.1, N]; omega⟩
  rw [(hx.os.2 i hi').1]
  have hit : i < t.os.n := by rw [← hi.ends.osn, ← hx.os.1]; exact hi'
  rcases K i with k | k
  · rw [k]; exact d.kd i hit
  · rw [k]; decide
def backTo (z : Nat → Hd) : Nat → Int
  | 0 => 0
  | k + 1 => backTo z k + (z k).n
theorem backTo_bd {z : Nat → Hd} : ∀ {k : Nat}, (∀ j, j < k → 0 ≤ (z j).n ∧ (z j).n ≤ 200) → 0 ≤ backTo z k ∧ backTo z k ≤ 200 * k
  | 0, _ => by simp [backTo]
  | k + 1, h => by
    have ih := backTo_bd (z := z) (k := k) fun j hj => h j (by omega)
    have := h k (by omega)
    simp only [backTo]
    omega
theorem backTo_ge {z : Nat → Hd} : ∀ {k : Nat}, (∀ j, j < k → 0 ≤ (z j).n ∧ (z j).n ≤ 200) → ∀ {j : Nat}, j < k → (z j).n ≤ backTo z k
  | k + 1, h, j, hj => by
    have b := (backTo_bd (z := z) (k := k) fun q hq => h q (by omega)).1
    have := h k (by omega)
    simp only [backTo]
    by_cases e : j = k
    · rw [e]; omega
    · have ih := backTo_ge (z := z) (k := k) (fun q hq => h q (by omega)) (j := j) (by omega)
      omega
theorem done_lack {p : Pl} {t : St} (d : DoneIn p t) (h : t.hs.n = 0) {i : Nat} (hi : i < t.os.n) (hk : ¬ (t.os.z i).k = 2) : ¬ backTo (t.os.z i).ls.z (t.os.z i).ls.n = 0 := by
  have k1 : (t.os.z i).k = 1 := by
    have := d.r.fm.kind i hi
    have := d.kd i hi
    omega
  have w := d.r.orders i hi
  unfold wrongOrder at w
  rw [k1, Bool.or_eq_false_iff] at w
  have w1 : anyB (t.os.z i).ls.n (fun j => lacksL ((t.os.z i).ls.z j)) = true := by simpa using w.1
  obtain ⟨j, hj, lk⟩ := anyB_true w1
  have w2 := anyB_false w.2 j hj
  have hz : keptS t.hs.z i j t.hs.n = 0 := by rw [h]; rfl
  rw [hz, wL1] at w2
  have lk' : ¬ ((t.os.z i).ls.z j).b = ((t.os.z i).ls.z j).l := by simpa [lacksL] using lk
  have s : ((t.os.z i).ls.z j).b + ((t.os.z i).ls.z j).n + 0 = ((t.os.z i).ls.z j).l := by simpa using w2
  have bd : ∀ q, q < (t.os.z i).ls.n → 0 ≤ ((t.os.z i).ls.z q).n ∧ ((t.os.z i).ls.z q).n ≤ 200 := fun q hq => by
    obtain ⟨-, ⟨l1, l2⟩, ⟨b1, b2⟩, n1, n2⟩ := badLine_no (d.r.fm.line i hi q hq)
    omega
  have g := backTo_ge bd hj
  have := bd j hj
  omega
theorem released_done {p : Pl} {s x : St} (r : RightT p s) (h : Released p s x) : DoneIn p x := ⟨(h.pos r).al.r, fun i hi => (h.kind r hi).1⟩
end Go.Proofs.Ytbcacebifpagpaf
namespace Go.Proofs.Ytbcacebifpagpaf
open Go.RowKit
set_option linter.unusedVariables false
def vKind3 (o : Oper) : Bool := vKind2 o || match o.op with
  | .extract .. => true
  | .build .. => true
  | .field .. => true
  | .index .. => true
  | .unOp .. => true
  | _ => false
theorem vKind3_spec {P : Program} {o : Oper} {ρ : Operand → Value} {w w' : World} {n : Next} (hv : vKind3 o = true) (h : (execOp ρ o).run P w = .ok n w') : ∃ v, n = .value v := by
  unfold vKind3 at hv
  rw [Bool.or_eq_true] at hv
  rcases hv with hv | hv
  · exact vKind2_spec hv h
  · unfold execOp at h
    split at hv
    all_goals first
      | (cases hv; done)
      | (rename_i hx; rw [hx] at h; exact valued h)
theorem wpAnyT_firsts3 {P : Program} {l : List Oper} {Q : Exit → Act → World → Prop} {S : World → Prop} {T : Nat → Bool} {N : Nat} {K : Act → Prop} {w : World} {fuel : Nat} (hs : Region.noSelect l.toArray = true) (hS : S w) (hQ : ∀ c a a' w, Q (.panic c) a w → Q (.panic c) a' w) :
    ∀ (ks : List Nat) (os : List Oper) (listed : Array Bool) (a : Act), firstsB l.toArray ks listed = true → (∀ k ∈ ks, T k = false ∧ ∀ j, T j = true → reach l.toArray N j k = true) → Closed l.toArray listed → ks.map (fun k => l[k]?) = os.map some → (os.all vKind3) = true →
      wpQuiet P l.toArray S K os a → (∀ a, K a → Closed l.toArray (mark listed ks) → wpAnyT P l.toArray Q S T fuel (mark listed ks) a w) → wpAnyT P l.toArray Q S T (ks.length + fuel) listed a w
  | [], [], listed, a, _, _, hc, _, _, h, hK => by rw [List.length_nil, Nat.zero_add]; exact hK a h hc
  | k :: ks, o :: os, listed, a, hB, hTk, hc, hk, hv, h, hK => by
    simp only [List.map_cons, List.cons.injEq] at hk
    simp only [List.all_cons, Bool.and_eq_true] at hv
    simp only [firstsB, Bool.and_eq_true] at hB
    rw [List.length_cons, Nat.add_right_comm]
    have hready : k ∈ Region.ready .any l.toArray listed := by simpa using hB.1.1
    have go : ∀ v, YieldsIf P l.toArray S o v a → wpAnyT P l.toArray Q S T (ks.length + fuel) (listed.setIfInBounds k true) (a.put o.dst v) w → wpAnyT P l.toArray Q S T (ks.length + fuel + 1) listed a w :=
      fun v hy h' => wpAnyT_first (N := N) (by simpa using hk.1) (Region.noSelect_spec hs) (fun c a w hq => hQ _ _ _ _ hq) (hTk k (by simp)).2 (hTk k (by simp)).1 _ listed a w (Region.free_spec (by simpa using hk.1) hB.1.2) hready hc hy hS h'
    have again := fun (a : Act) (hq : wpQuiet P l.toArray S K os a) => wpAnyT_firsts3 (N := N) (T := T) (fuel := fuel) hs hS hQ ks os _ a hB.2 (fun k' hk' => hTk k' (by simp [hk'])) (hc.set hready) hk.2 hv.2 hq hK
    unfold wpQuiet at h
    split at h
    · rename_i hw
      obtain ⟨v, h1, h2⟩ := h
      refine go v (.inl ⟨hw, fun w' hS => ?_⟩) (again _ h2)
      have := h1 w' hS
      unfold Oper.quietAt at this
      cases hr : (execOp a.eval o).run P w' with
      | ok n w2 =>
        rw [hr] at this
        obtain ⟨u, rfl⟩ := vKind3_spec hv.1 hr
        simp only [Oper.quietUpon] at this
        rw [this.1, this.2]
      | halt x w2 => rw [hr] at this; exact this.elim
    · rename_i hw
      exact go undef (.inr ⟨by simpa using hw, rfl⟩) (again _ h)
  | [], _ :: _, _, _, _, _, _, hk, _, _, _ => by simp at hk
  | _ :: _, [], _, _, _, _, _, hk, _, _, _ => by simp at hk
def laterOf (n : Nat) (listed : Array Bool) : List Nat := (List.range n).filter (fun i => !listed.getD i true)
def phB (ops : Array Oper) : List (Bool × List Nat × Option Nat) → Array Bool → Bool
  | [], listed => Region.ready .any ops listed == []
  | (t, ks, c) :: r, listed => firstsB ops ks listed && ks.all (fun k => decide (k < ops.size)) && ks.all (fun k => !(laterOf ops.size (mark listed ks)).contains k) && (!t || ks.all (fun k => (laterOf ops.size (mark listed ks)).all (fun j => reach ops ops.size j k))) &&
      (match c with | some c => (Region.ready .any ops (mark listed ks) == [c]) && phB ops r ((mark listed ks).setIfInBounds c true) | none => phB ops r (mark listed ks))
def phN : List (Bool × List Nat × Option Nat) → Nat
  | [] => 0
  | (_, ks, some _) :: r => ks.length + (phN r + 1)
  | (_, ks, none) :: r => ks.length + phN r
def wpPh (P : Program) (l : List Oper) (Q : Exit → Act → World → Prop) : List (Bool × List Nat × Option Nat) → Act → World → Prop
  | [], a, w => Q .normal a w
  | (t, ks, some c) :: r, a, w => ∃ S : World → Prop, S w ∧ (t = false → ∀ w', S w') ∧ wpQuiet P l.toArray S (fun a1 => wpOp P l.toArray Q c (fun a2 w2 => wpPh P l Q r a2 w2) a1 w) (picks l ks) a
  | (t, ks, none) :: r, a, w => ∃ S : World → Prop, S w ∧ (t = false → ∀ w', S w') ∧ wpQuiet P l.toArray S (fun a1 => wpPh P l Q r a1 w) (picks l ks) a
theorem wpAnyT_of_any {P : Program} {ops : Array Oper} {Q : Exit → Act → World → Prop} {S : World → Prop} {T : Nat → Bool} : ∀ (fuel : Nat) (listed : Array Bool) (a : Act) (w : World), (∀ i, listed.getD i true = false → i < ops.size → T i = true ∨ ∀ w, S w) → wpAny P .any ops Q fuel listed a w → wpAnyT P ops Q S T fuel listed a w
  | 0, _, _, _, _, h => h
  | fuel + 1, listed, a, w, hT, h => ⟨h.1, fun i hi => wpOp_mono (fun a' w' h' => ⟨fun hTi => by
      obtain ⟨h1, o, h2, _⟩ := mem_ready.1 hi
      rcases hT i h1 (Array.getElem?_eq_some_iff.1 h2).1 with e | e
      · rw [e] at hTi; cases hTi
      · exact e w', wpAnyT_of_any fuel _ a' w' (fun j hj hjs => hT j (by
      by_cases e : i = j
      · subst e
        exact (mem_ready.1 hi).1
      · rw [getD_set_ne true e] at hj; exact hj) hjs) h'⟩) (h.2 i hi)⟩
theorem wpAny_ph {P : Program} {l : List Oper} {Q : Exit → Act → World → Prop} (hs : Region.noSelect l.toArray = true) (hQ : ∀ c a a' w, Q (.panic c) a w → Q (.panic c) a' w) : ∀ (ph : List (Bool × List Nat × Option Nat)) (listed : Array Bool) (a : Act) (w : World),
      phB l.toArray ph listed = true → (ph.all (fun x => (picks l x.2.1).all vKind3)) = true → Closed l.toArray listed → wpPh P l Q ph a w → wpAny P .any l.toArray Q (phN ph) listed a w
  | [], listed, a, w, hB, _, _, h => ⟨by simpa [phB] using hB, h⟩
  | (t, ks, c) :: r, listed, a, w, hB, hv, hcl, h => by
    simp only [phB, Bool.and_eq_true] at hB
    obtain ⟨⟨⟨⟨b1, b2⟩, b3⟩, b4⟩, b5⟩ := hB
    simp only [List.all_cons, Bool.and_eq_true] at hv
    have key := fun (S : World → Prop) (K : Act → Prop) (f : Nat) (hS : S w) (hST : t = false → ∀ w', S w') (hq : wpQuiet P l.toArray S K (picks l ks) a) (hK : ∀ a1, K a1 → Closed l.toArray (mark listed ks) → wpAny P .any l.toArray Q f (mark listed ks) a1 w) => wpAny_of_T _ _ _ _ (wpAnyT_firsts3 (P := P) (Q := Q) (S := S) (T := fun i => t && (laterOf l.toArray.size (mark listed ks)).contains i) (N := l.toArray.size) (fuel := f) (w := w) hs hS hQ ks (picks l ks) listed a b1
      (fun k hk => ⟨by
        have := List.all_eq_true.1 b3 k hk
        rw [Bool.not_eq_true'] at this
        rw [this, Bool.and_false], fun j hj => by
        rw [Bool.and_eq_true] at hj
        have b4' := b4
        rw [hj.1] at b4'
        simp only [Bool.not_true, Bool.false_or] at b4'
        exact List.all_eq_true.1 (List.all_eq_true.1 b4' k hk) j (by simpa using hj.2)⟩)
      hcl (picks_ok (by simpa using b2)) hv.1 hq (fun a1 h1 hcl1 => by
        refine wpAnyT_of_any _ _ _ _ (fun i hi his => ?_) (hK a1 h1 hcl1)
        cases t with
        | false => exact Or.inr (hST rfl)
        | true =>
          left
          have : i ∈ laterOf l.toArray.size (mark listed ks) := by
            unfold laterOf
            rw [List.mem_filter, List.mem_range]
            exact ⟨his, by rw [hi]; rfl⟩
          simpa using this))
    cases c with
    | none =>
      obtain ⟨S, hS, hST, hq⟩ := h
      exact key S _ (phN r) hS hST hq fun a1 h1 hcl1 => wpAny_ph hs hQ r _ a1 w b5 hv.2 hcl1 h1
    | some c =>
      obtain ⟨S, hS, hST, hq⟩ := h
      simp only [Bool.and_eq_true] at b5
      have hready : Region.ready .any l.toArray (mark listed ks) = [c] := by simpa using b5.1
      refine key S _ (phN r + 1) hS hST hq fun a1 h1 hcl1 => ?_
      refine ⟨fun e => (by rw [hready] at e; cases e), fun i hi => ?_⟩
      have hic : i = c := by rw [hready] at hi; simpa using hi
      subst hic
      exact wpOp_mono (fun a2 w2 h2 => wpAny_ph hs hQ r _ a2 w2 b5.2 hv.2 (hcl1.set hi) h2) h1
theorem wp_region_ph {P : Program} {l : List Oper} {Q : Exit → Act → World → Prop} {id : Nat} {a : Act} {w : World} (ph : List (Bool × List Nat × Option Nat))
    (hm : P.follows .mixedOrders = true) (hs : Region.noSelect l.toArray = true) (hB : phB l.toArray ph (Array.replicate l.length false) = true) (hv : (ph.all (fun x => (picks l x.2.1).all vKind3)) = true) (hl : phN ph = l.length)
    (h : wpPh P l (NoPanic Q) ph a w.drew) : (Code.region id l.toArray true).wp P Q a w := by
  refine wp_region_noPanic (wp_region_any hm ?_)
  have := wpAny_ph (Q := NoPanic Q) hs (fun c a a' w h => (h : False).elim) ph _ a w.drew hB hv (Closed.none _ _) h
  rw [hl] at this
  simpa using this
theorem wpOp_one {P : Program} {l : List Oper} {Q : Exit → Act → World → Prop} {K : Act → World → Prop} (k : Nat) {o : Oper} {a : Act} {w : World} (hk : l[k]? = some o)
    (h : wpList P l.toArray (Exit.then K Q) [o] a w) : wpOp P l.toArray Q k K a w := wpOp_list k hk h
end Go.Proofs.Ytbcacebifpagpaf
namespace Go.Proofs.Ytbcacebifpagpaf
open Go.RowKit Go.Shelf
set_option linter.unusedVariables false
theorem Blk.setF {w : World} {g : Nat} {e : TypeId} {n : Nat} {c : Nat → Hd} (h : Blk w g e n (hc c)) (i f : Nat) (hf : f < 4) (v : Int) : Blk (w.setCell ⟨g, i * 4 + f, none⟩ (.int .i64 v)) g e n (hc fun j => if j = i then setHd (c j) f v else c j) := by
  refine (h.set (i * 4 + f) _).congr fun q hq => ?_
  unfold hc
  dsimp only
  by_cases hi : q / 4 = i
  · rw [if_pos hi]
    have hm4 : q % 4 = 0 ∨ q % 4 = 1 ∨ q % 4 = 2 ∨ q % 4 = 3 := by omega
    have hf4 : f = 0 ∨ f = 1 ∨ f = 2 ∨ f = 3 := by omega
    by_cases hq' : q = i * 4 + f
    · rw [if_pos hq']
      have : q % 4 = f := by omega
      rw [this]
      rcases hf4 with rfl | rfl | rfl | rfl <;> rfl
    · rw [if_neg hq']
      rcases hf4 with rfl | rfl | rfl | rfl <;> rcases hm4 with hm | hm | hm | hm <;> first | (exfalso; omega) | (rw [hm]; rfl)
  · rw [if_neg hi, if_neg (by omega)]
theorem Blk.cong4 {w : World} {g : Nat} {e : TypeId} {n : Nat} {c c' : Nat → Hd} (h : Blk w g e (n * 4) (hc c)) (hz : ∀ j, j < n → c j = c' j) : Blk w g e (n * 4) (hc c') := h.congr fun q hq => by
  unfold hc
  rw [hz (q / 4) (by omega)]
theorem Sum_rightW (p : Pl) (s : St) (g : Nat) (w : World) (hp : p.At w) (hs : s.At w) (h : RightT p s) (hg : g < p.ns) :
    Calls Try.prog 29 #[.agg #[.slice p.ab p.nb p.cb, .slice p.sa p.ns p.cs], .slice s.on.a s.on.n s.on.c, .int .i64 (g : Int)] w fun e w' => e = .returned (.tuple #[.int .i64 (sumTo (fun i => (s.on.r i).z g) s.on.n), .int .i64 0]) ∧ Below w.heap.size w w' := by
  have k := Sum_any p s.on g w hp hs.on
  rw [(sum_ok h.fm.sh0 hg).1, (sum_ok h.fm.sh0 hg).2] at k
  exact k
theorem infoTot : (Try.prog.info? 50).map (fun i => (i.zero, i.size, i.bytes)) = some (some (.agg #[.int .i64 0, .int .i64 0, .int .i64 0, .int .i64 0]), 4, 32) := by kernel_rfl
theorem made4 {j n : Nat} (hj : j < n * 4) : (madeCells (Value.agg #[.int .i64 0, .int .i64 0, .int .i64 0, .int .i64 0]).cells (n * 4)).toList.getD j default = hc (fun _ => hd0) j := by
  have h4 : j % 4 < 4 := by omega
  unfold hc hd0
  rw [show (Value.agg #[.int .i64 0, .int .i64 0, .int .i64 0, .int .i64 0]).cells = #[.int .i64 0, .int .i64 0, .int .i64 0, .int .i64 0] from rfl]
  simp [madeCells, hj]
  generalize j % 4 = k at h4
  match k, h4 with
  | 0, _ => rfl
  | 1, _ => rfl
  | 2, _ => rfl
  | 3, _ => rfl
end Go.Proofs.Ytbcacebifpagpaf
namespace Go.Proofs.Ytbcacebifpagpaf
open Go.RowKit Go.Shelf Go.Sort
set_option linter.unusedVariables false
set_option maxRecDepth 100000 in
set_option maxHeartbeats 2000000 in
theorem allocCheck1_any (B1 B2 B3 : Nat) (s : St) (order line : Int) (w : World) (hs : s.os.At w) (h1 : B1 < w.heap.size) (h2 : B2 < w.heap.size) (h3 : B3 < w.heap.size) (c1 : w.cell? ⟨B1, 1, none⟩ = some (.slice s.os.a s.os.n s.os.c)) (c2 : w.cell? ⟨B2, 0, none⟩ = some (.int .i64 order)) (c3 : w.cell? ⟨B3, 0, none⟩ = some (.int .i64 line)) :
    Calls Try.prog 101 #[.pointer (some ⟨B1, 0, none⟩), .pointer (some ⟨B2, 0, none⟩), .pointer (some ⟨B3, 0, none⟩)] w fun e w' => e = .returned (.bool (missL s order line)) ∧ Below w.heap.size w w' := by
  have ole := hs.le
  have ocap0 := hs.cap
  have ocap := ocap0
  unfold maxLen at ocap
  have hon : s.os.n ≤ maxLen := Nat.le_trans ole ocap0
  have r1 : ∀ d os, (grow (redrawn w d) os).cell? ⟨B1, 1, none⟩ = some (.slice s.os.a s.os.n s.os.c) := fun d os => cell_regrown c1 d os
  have r2 : ∀ d os, (grow (redrawn w d) os).cell? ⟨B2, 0, none⟩ = some (.int .i64 order) := fun d os => cell_regrown c2 d os
  have r3 : ∀ d os, (grow (redrawn w d) os).cell? ⟨B3, 0, none⟩ = some (.int .i64 line) := fun d os => cell_regrown c3 d os
  clear c1 c2 c3
  cases k1 : inB order 0 ((s.os.n : Int) - 1)
  · have HM : Hid (missL s order line = true) := by show missL s order line = true; unfold missL; rw [k1]; rfl
    clear hs
    go_enter Try.func101, Try.ntmps101
    go_wp2_with fail
    refine wp_region_quiet_below (by kernel_rfl) (by kernel_rfl) ?_
    repeat (go_big_quiet_step ((go_at_call 19; exact Calls.regrown_of ((Has_any _ _ _ (by assumption)).mono (fun _ _ h => ⟨h.1, h.2 ▸ Below.refl _ _⟩)))))
    refine wpQuiet_nil ?_
    intro _ hw'
    obtain ⟨⟨dq, osq⟩, hw''⟩ := hw'
    subst hw''
    go_wp2_with fail
    go_ret
    exact ⟨by rw [HM.out]; rfl, below_regrown _ _ _⟩
  · obtain ⟨m, rfl⟩ := Int.eq_ofNat_of_zero_le (inB_true k1).1
    have hm : m < s.os.n := by have := (inB_true k1).2; omega
    obtain ⟨b, o, hoa, hb, z0, z1, hl⟩ := hs.ods m hm
    have HM : Hid (missL s (m : Int) line = !(inB line 0 (((s.os.z m).ls.n : Int) - 1))) := by show missL s (m : Int) line = _; unfold missL; rw [k1]; rfl
    have lcap := hl.cap
    have lle := hl.le
    have hln : (s.os.z m).ls.n ≤ maxLen := Nat.le_trans lle lcap
    have r5 : ∀ d os, (grow (redrawn w d) os).cell? ⟨b, o + m * 2 + 1, none⟩ = some (.slice (s.os.z m).ls.a (s.os.z m).ls.n (s.os.z m).ls.c) := fun d os => cell_regrown z1 d os
    have m1 : (0 : Int) ≤ (m : Int) := by omega
    have m2 : (m : Int) < (s.os.n : Int) := by omega
    rw [hoa] at r1
    unfold maxLen at lcap
    clear z0 z1 hl hs hoa
    generalize (s.os.z m).ls.n = LN at *
    generalize (s.os.z m).ls.c = LC at *
    generalize (s.os.z m).ls.a = LA at *
    cases k2 : inB line 0 ((LN : Int) - 1)
    all_goals
      go_enter Try.func101, Try.ntmps101
      go_wp2_with fail
      refine wp_region_quiet_below (by kernel_rfl) (by kernel_rfl) ?_
      repeat (go_big_quiet_step ((go_at_call 19; exact Calls.regrown_of ((Has_any _ _ _ (by assumption)).mono (fun _ _ h => ⟨h.1, h.2 ▸ Below.refl _ _⟩)))))
      refine wpQuiet_nil ?_
      intro _ hw'
      obtain ⟨⟨dq, osq⟩, hw''⟩ := hw'
      subst hw''
      go_wp2_with fail
      go_ret
      exact ⟨by rw [HM.out, k2]; simp, below_regrown _ _ _⟩
set_option maxRecDepth 100000 in
set_option maxHeartbeats 4000000 in
theorem allocCheck_any (p : Pl) (s : St) (order line n but : Int) (w : World) (hp : p.At w) (hs : s.At w) :
    Calls Try.prog 66 #[p.val, s.val, .int .i64 order, .int .i64 line, .int .i64 n, .int .i64 but] w fun e w' => e = .returned (.int .i64 (allocE p s order line n but)) ∧ Below w.heap.size w w' := by
  obtain ⟨W0, hW, hWB, X0, K2, K3⟩ : ∃ W, ((((w.alloc (.cells #[.slice p.ab p.nb p.cb, .slice p.sa p.ns p.cs] 25)).alloc (.cells s.cells 31)).alloc (.cells #[.int .i64 order] 3)).alloc (.cells #[.int .i64 line] 3)) = W ∧ Below w.heap.size w W ∧ Boxes W w.heap.size (w.heap.size + 1) p s ∧ Blk W (w.heap.size + 2) 3 1 (fun _ => .int .i64 order) ∧ Blk W (w.heap.size + 3) 3 1 (fun _ => .int .i64 line) :=
    ⟨_, rfl, ((two_below _ _ _).alloc (by simp; omega) _).alloc (by simp; omega) _, ((boxes_new w p s _ _).below ((Below.refl _ _).alloc (Nat.le_refl _) _)).below ((Below.refl _ _).alloc (Nat.le_refl _) _), ((Blk.mk' (cur := #[.int .i64 order]) (by simp) rfl).congr (fun j hj => by match j, hj with | 0, _ => rfl)).alloc _, (Blk.mk' (cur := #[.int .i64 line]) (by simp) rfl).congr (fun j hj => by match j, hj with | 0, _ => rfl)⟩
  have HC : Hid (∀ wk, Below W0.heap.size W0 wk → Boxes wk w.heap.size (w.heap.size + 1) p s ∧ p.At wk ∧ s.At wk ∧ Below w.heap.size w wk ∧ Blk wk (w.heap.size + 2) 3 1 (fun _ => .int .i64 order) ∧ Blk wk (w.heap.size + 3) 3 1 (fun _ => .int .i64 line)) := fun wk h => ⟨X0.below h, (hp.below hWB).below h, (hs.below hWB).below h, hWB.trans (h.mono hWB.size), K2.below h, K3.below h⟩
  have HW : Hid ((((w.alloc (.cells #[.slice p.ab p.nb p.cb, .slice p.sa p.ns p.cs] 25)).alloc (.cells #[.slice s.on.a s.on.n s.on.c, .slice s.os.a s.os.n s.os.c, .slice s.hs.a s.hs.n s.hs.c, .slice s.ms.a s.ms.n s.ms.c, .slice s.si.a s.si.n s.si.c, .slice s.so.a s.so.n s.so.c, .slice s.sf.a s.sf.n s.sf.c] 31)).alloc (.cells #[.int .i64 order] 3)).alloc (.cells #[.int .i64 line] 3) = W0) := hW
  have leb := hp.leb
  have capb0 := hp.capb
  have capb := capb0
  unfold maxLen at capb
  have hnb : p.nb ≤ maxLen := Nat.le_trans leb capb0
  clear hW X0 K2 K3 hp hs
  unfold Pl.val St.val
  go_enter Try.func66, Try.ntmps66
  go_wp2_with fail
  rw [HW.out]
  obtain ⟨X, hpk, hsk, hBw, -, -⟩ := HC.out W0 (Below.refl _ _)
  refine (stateCheck_any p s W0 hpk hsk).mono ?_
  rintro e w1 ⟨rfl, hB⟩
  clear X hpk hsk hBw HW
  obtain ⟨⟨⟨l1, d0, d1⟩, l2, c0, c1, c2, c3, c4, c5, c6⟩, hpk, hsk, hBw, k2, k3⟩ := HC.out w1 hB
  have HBW : Hid (Below w.heap.size w w1) := hBw
  clear hBw
  by_cases h0 : stateE p s = 0
  · have H0 : Hid (stateE p s = 0) := h0
    have HF : Hid (Formed p s) := (rightT h0).fm
    rw [h0]
    clear h0
    have HCL : Hid (Calls Try.prog 101 #[.pointer (some ⟨w.heap.size + 1, 0, none⟩), .pointer (some ⟨w.heap.size + 1 + 1, 0, none⟩), .pointer (some ⟨w.heap.size + 1 + 1 + 1, 0, none⟩)] w1 fun e w' => e = .returned (.bool (missL s order line)) ∧ Below w1.heap.size w1 w') := allocCheck1_any (w.heap.size + 1) (w.heap.size + 2) (w.heap.size + 3) s order line w1 hsk.os l2 k2.lt k3.lt c1 (k2.cell (j := 0) (by decide)) (k3.cell (j := 0) (by decide))
    have eg := enters_of Try.func101 (by kernel_rfl) rfl
    clear hpk hsk k2 k3 c0 c1 c2 c3 c4 c5 c6 d1
    go_wp2_with fail
    refine HCL.out.mono ?_
    rintro e w2 ⟨rfl, hB2⟩
    have hB3 := hB.trans (hB2.mono hB.size)
    clear l1 d0 l2 hB2 HCL HBW hB eg
    obtain ⟨⟨⟨l1, d0, d1⟩, l2, c0, c1, c2, c3, c4, c5, c6⟩, hpk, hsk, hBw, k2, k3⟩ := HC.out w2 hB3
    have HBW : Hid (Below w.heap.size w w2) := hBw
    clear hBw
    have HR : Hid (∀ a b c d, missL s order line = a → inB n 0 200 = b → (but != -1) = c → inB but 0 ((p.nb : Int) - 1) = d → allocR p s order line n but = (a || !b || (c && !d))) := fun a b c d e1 e2 e3 e4 => by unfold allocR; rw [e1, e2, e3, e4]
    cases m1 : missL s order line
    · have hml := m1
      cases m2 : inB n 0 200
      · have HX : Hid (allocE p s order line n but = 3) := allocE_range H0.out (by rw [HR.out _ _ _ _ m1 m2 rfl rfl]; rfl)
        clear hpk hsk k2 k3 c0 c1 c2 c3 c4 c5 c6 m1 hml
        go_wp2_with (go_at_call 21; refine calls_to (Within_any _ _ _ _) ?_)
        go_ret
        exact ⟨by rw [HX.out]; rfl, HBW.out⟩
      · cases m3 : (but != -1)
        · have HA : Hid (allocR p s order line n but = false) := by show allocR p s order line n but = false; rw [HR.out _ _ _ _ m1 m2 m3 rfl]; rfl
          have hbx := m3
          obtain ⟨a, b, -, -⟩ := allocR_no HA.out
          obtain ⟨o, rfl⟩ := Int.eq_ofNat_of_zero_le a.1
          obtain ⟨l, rfl⟩ := Int.eq_ofNat_of_zero_le b.1
          have ho : o < s.os.n := a.2
          have hl : l < (s.os.z o).ls.n := b.2
          obtain ⟨bo, oo, hoa, hbo, z0, z1, hlk⟩ := hsk.os.ods o ho
          obtain ⟨bl, ol, hla, hbl, y0, y1, y2, y3⟩ := hlk.hds l hl
          have u0 := k2.cell (j := 0) (by decide)
          have u1 := k3.cell (j := 0) (by decide)
          have u2 := k2.lt
          have u3 := k3.lt
          have q0 : (0 : Int) ≤ (o : Int) := by omega
          have q1 : (o : Int) < (s.os.n : Int) := by omega
          have q2 : (0 : Int) ≤ (l : Int) := by omega
          have q3 : (l : Int) < ((s.os.z o).ls.n : Int) := by omega
          have v1 := hsk.os.le
          have v2 := hsk.os.cap
          have v3 := hlk.le
          have v4 := hlk.cap
          unfold maxLen at v2 v4
          have HT6 : Hid (¬ (s.os.z o).k = 1 → allocE p s o l n but = 6) := fun h => allocE_done H0.out HA.out h
          have HT3 : Hid ((s.os.z o).k = 1 → ((s.os.z o).ls.z l).n < n → allocE p s o l n but = 3) := fun h h' => allocE_back H0.out HA.out h h'
          have HT0 : Hid ((s.os.z o).k = 1 → ¬ ((s.os.z o).ls.z l).n < n → allocE p s o l n but = 0) := fun h h' => allocE_ok H0.out HA.out h h'
          rw [hoa] at c1
          rw [hla] at z1
          clear hpk hsk k2 k3 c0 c2 c3 c4 c5 c6 m1 hoa hla hlk y0 y1 y2 a b HR
          generalize (s.os.z o).k = KD at *
          generalize ((s.os.z o).ls.z l).n = LB at *
          generalize (s.os.z o).ls.n = LN at *
          generalize (s.os.z o).ls.c = LC at *
          by_cases g1 : KD = 1
          · have g2 : (KD != 1) = false := by rw [g1]; rfl
            have t1 : ∀ d os, (grow (redrawn w2 d) os).cell? ⟨w.heap.size + 1, 1, none⟩ = some (.slice (some ⟨bo, oo, none⟩) s.os.n s.os.c) := fun d os => cell_regrown c1 d os
            have t2 : ∀ d os, (grow (redrawn w2 d) os).cell? ⟨w.heap.size + 2, 0, none⟩ = some (.int .i64 (o : Int)) := fun d os => cell_regrown u0 d os
            have t3 : ∀ d os, (grow (redrawn w2 d) os).cell? ⟨w.heap.size + 3, 0, none⟩ = some (.int .i64 (l : Int)) := fun d os => cell_regrown u1 d os
            have t4 : ∀ d os, (grow (redrawn w2 d) os).cell? ⟨bo, oo + o * 2 + 1, none⟩ = some (.slice (some ⟨bl, ol, none⟩) LN LC) := fun d os => cell_regrown z1 d os
            have t5 : ∀ d os, (grow (redrawn w2 d) os).cell? ⟨bl, ol + l * 4 + 3, none⟩ = some (.int .i64 LB) := fun d os => cell_regrown y3 d os
            have HTA : Hid (LB < n → allocE p s o l n but = 3) := HT3.out g1
            have HTB : Hid (¬ LB < n → allocE p s o l n but = 0) := HT0.out g1
            clear HT6 HT3 HT0 g1
            cases g3 : decide (LB < n)
            · have HX : Hid (allocE p s o l n but = 0) := HTB.out (of_decide_eq_false g3)
              have g4 : ¬ LB < n := of_decide_eq_false g3
              clear HTA HTB
              go_wp2_with (first | (go_at_call 21; refine calls_to (Within_any _ _ _ _) ?_) | (go_at_call 19; refine calls_to (Has_any _ _ _ hnb) ?_))
              refine wp_region_quiet_below (by kernel_rfl) (by kernel_rfl) ?_
              repeat (go_big_quiet_step (fail))
              refine wpQuiet_nil ?_
              intro _ hw'
              obtain ⟨⟨dq, osq⟩, hw''⟩ := hw'
              subst hw''
              go_wp2_with fail
              go_ret
              exact ⟨by rw [HX.out]; rfl, HBW.out.trans ((below_regrown _ _ _).mono HBW.out.size)⟩
            · have HX : Hid (allocE p s o l n but = 3) := HTA.out (of_decide_eq_true g3)
              have g4 : LB < n := of_decide_eq_true g3
              clear HTA HTB
              go_wp2_with (first | (go_at_call 21; refine calls_to (Within_any _ _ _ _) ?_) | (go_at_call 19; refine calls_to (Has_any _ _ _ hnb) ?_))
              refine wp_region_quiet_below (by kernel_rfl) (by kernel_rfl) ?_
              repeat (go_big_quiet_step (fail))
              refine wpQuiet_nil ?_
              intro _ hw'
              obtain ⟨⟨dq, osq⟩, hw''⟩ := hw'
              subst hw''
              go_wp2_with fail
              go_ret
              exact ⟨by rw [HX.out]; rfl, HBW.out.trans ((below_regrown _ _ _).mono HBW.out.size)⟩
          · have HX : Hid (allocE p s o l n but = 6) := HT6.out g1
            have g2 : (KD != 1) = true := by simpa using g1
            clear HT6 HT3 HT0 g1
            go_wp2_with (first | (go_at_call 21; refine calls_to (Within_any _ _ _ _) ?_) | (go_at_call 19; refine calls_to (Has_any _ _ _ hnb) ?_))
            go_ret
            exact ⟨by rw [HX.out]; rfl, HBW.out⟩
        · cases m4 : inB but 0 ((p.nb : Int) - 1)
          · have HX : Hid (allocE p s order line n but = 3) := allocE_range H0.out (by rw [HR.out _ _ _ _ m1 m2 m3 m4]; rfl)
            clear hpk hsk k2 k3 c0 c1 c2 c3 c4 c5 c6 m1 hml
            go_wp2_with (first | (go_at_call 21; refine calls_to (Within_any _ _ _ _) ?_) | (go_at_call 19; refine calls_to (Has_any _ _ _ hnb) ?_))
            go_ret
            exact ⟨by rw [HX.out]; rfl, HBW.out⟩
          · have HA : Hid (allocR p s order line n but = false) := by show allocR p s order line n but = false; rw [HR.out _ _ _ _ m1 m2 m3 m4]; rfl
            obtain ⟨a, b, -, -⟩ := allocR_no HA.out
            obtain ⟨o, rfl⟩ := Int.eq_ofNat_of_zero_le a.1
            obtain ⟨l, rfl⟩ := Int.eq_ofNat_of_zero_le b.1
            have ho : o < s.os.n := a.2
            have hl : l < (s.os.z o).ls.n := b.2
            obtain ⟨bo, oo, hoa, hbo, z0, z1, hlk⟩ := hsk.os.ods o ho
            obtain ⟨bl, ol, hla, hbl, y0, y1, y2, y3⟩ := hlk.hds l hl
            have u0 := k2.cell (j := 0) (by decide)
            have u1 := k3.cell (j := 0) (by decide)
            have u2 := k2.lt
            have u3 := k3.lt
            have q0 : (0 : Int) ≤ (o : Int) := by omega
            have q1 : (o : Int) < (s.os.n : Int) := by omega
            have q2 : (0 : Int) ≤ (l : Int) := by omega
            have q3 : (l : Int) < ((s.os.z o).ls.n : Int) := by omega
            have v1 := hsk.os.le
            have v2 := hsk.os.cap
            have v3 := hlk.le
            have v4 := hlk.cap
            unfold maxLen at v2 v4
            have HT6 : Hid (¬ (s.os.z o).k = 1 → allocE p s o l n but = 6) := fun h => allocE_done H0.out HA.out h
            have HT3 : Hid ((s.os.z o).k = 1 → ((s.os.z o).ls.z l).n < n → allocE p s o l n but = 3) := fun h h' => allocE_back H0.out HA.out h h'
            have HT0 : Hid ((s.os.z o).k = 1 → ¬ ((s.os.z o).ls.z l).n < n → allocE p s o l n but = 0) := fun h h' => allocE_ok H0.out HA.out h h'
            rw [hoa] at c1
            rw [hla] at z1
            clear hpk hsk k2 k3 c0 c2 c3 c4 c5 c6 m1 hoa hla hlk y0 y1 y2 a b HR
            generalize (s.os.z o).k = KD at *
            generalize ((s.os.z o).ls.z l).n = LB at *
            generalize (s.os.z o).ls.n = LN at *
            generalize (s.os.z o).ls.c = LC at *
            by_cases g1 : KD = 1
            · have g2 : (KD != 1) = false := by rw [g1]; rfl
              have t1 : ∀ d os, (grow (redrawn w2 d) os).cell? ⟨w.heap.size + 1, 1, none⟩ = some (.slice (some ⟨bo, oo, none⟩) s.os.n s.os.c) := fun d os => cell_regrown c1 d os
              have t2 : ∀ d os, (grow (redrawn w2 d) os).cell? ⟨w.heap.size + 2, 0, none⟩ = some (.int .i64 (o : Int)) := fun d os => cell_regrown u0 d os
              have t3 : ∀ d os, (grow (redrawn w2 d) os).cell? ⟨w.heap.size + 3, 0, none⟩ = some (.int .i64 (l : Int)) := fun d os => cell_regrown u1 d os
              have t4 : ∀ d os, (grow (redrawn w2 d) os).cell? ⟨bo, oo + o * 2 + 1, none⟩ = some (.slice (some ⟨bl, ol, none⟩) LN LC) := fun d os => cell_regrown z1 d os
              have t5 : ∀ d os, (grow (redrawn w2 d) os).cell? ⟨bl, ol + l * 4 + 3, none⟩ = some (.int .i64 LB) := fun d os => cell_regrown y3 d os
              have HTA : Hid (LB < n → allocE p s o l n but = 3) := HT3.out g1
              have HTB : Hid (¬ LB < n → allocE p s o l n but = 0) := HT0.out g1
              clear HT6 HT3 HT0 g1
              cases g3 : decide (LB < n)
              · have HX : Hid (allocE p s o l n but = 0) := HTB.out (of_decide_eq_false g3)
                have g4 : ¬ LB < n := of_decide_eq_false g3
                clear HTA HTB
                go_wp2_with (first | (go_at_call 21; refine calls_to (Within_any _ _ _ _) ?_) | (go_at_call 19; refine calls_to (Has_any _ _ _ hnb) ?_))
                refine wp_region_quiet_below (by kernel_rfl) (by kernel_rfl) ?_
                repeat (go_big_quiet_step (fail))
                refine wpQuiet_nil ?_
                intro _ hw'
                obtain ⟨⟨dq, osq⟩, hw''⟩ := hw'
                subst hw''
                go_wp2_with fail
                go_ret
                exact ⟨by rw [HX.out]; rfl, HBW.out.trans ((below_regrown _ _ _).mono HBW.out.size)⟩
              · have HX : Hid (allocE p s o l n but = 3) := HTA.out (of_decide_eq_true g3)
                have g4 : LB < n := of_decide_eq_true g3
                clear HTA HTB
                go_wp2_with (first | (go_at_call 21; refine calls_to (Within_any _ _ _ _) ?_) | (go_at_call 19; refine calls_to (Has_any _ _ _ hnb) ?_))
                refine wp_region_quiet_below (by kernel_rfl) (by kernel_rfl) ?_
                repeat (go_big_quiet_step (fail))
                refine wpQuiet_nil ?_
                intro _ hw'
                obtain ⟨⟨dq, osq⟩, hw''⟩ := hw'
                subst hw''
                go_wp2_with fail
                go_ret
                exact ⟨by rw [HX.out]; rfl, HBW.out.trans ((below_regrown _ _ _).mono HBW.out.size)⟩
            · have HX : Hid (allocE p s o l n but = 6) := HT6.out g1
              have g2 : (KD != 1) = true := by simpa using g1
              clear HT6 HT3 HT0 g1
              go_wp2_with (first | (go_at_call 21; refine calls_to (Within_any _ _ _ _) ?_) | (go_at_call 19; refine calls_to (Has_any _ _ _ hnb) ?_))
              go_ret
              exact ⟨by rw [HX.out]; rfl, HBW.out⟩
    · have HX : Hid (allocE p s order line n but = 3) := allocE_range H0.out (by rw [HR.out _ _ _ _ m1 rfl rfl rfl]; rfl)
      clear hpk hsk k2 k3 c0 c1 c2 c3 c4 c5 c6 m1
      go_wp2_with fail
      go_ret
      exact ⟨by rw [HX.out]; rfl, HBW.out⟩
  · have HX : Hid (allocE p s order line n but = stateE p s) := allocE_state h0
    clear hpk hsk k2 k3 c0 c1 c2 c3 c4 c5 c6
    go_wp2_with fail
    go_ret
    exact ⟨by rw [HX.out]; rfl, HBW.out⟩
end Go.Proofs.Ytbcacebifpagpaf
namespace Go.Proofs.Ytbcacebifpagpaf
open Go.RowKit Go.Shelf
set_option linter.unusedVariables false
attribute [local go_sem] Oper.semAt_some
theorem frL_prefix (p : Pl) (f : Bool) {k m : Nat} (h : k ≤ m) : frL p f k <+: frL p f m := by
  induction m with
  | zero => rw [show k = 0 by omega]; exact List.prefix_refl _
  | succ m ih =>
    by_cases hk : k = m + 1
    · rw [hk]; exact List.prefix_refl _
    · refine (ih (by omega)).trans ?_
      by_cases hf : (p.zb m).front = f
      · rw [frL_hit hf]; exact List.prefix_append _ _
      · rw [frL_miss hf]; exact List.prefix_refl _
def keepsB (n₀ Bf : Nat) (A B : World) : Prop := Below n₀ A B ∧ (∀ v, A.cell? ⟨Bf, 0, none⟩ = some v → B.cell? ⟨Bf, 0, none⟩ = some v)
set_option maxRecDepth 100000 in
set_option maxHeartbeats 2000000 in
theorem binsOf1_in (F : Fence) (n : Nat) (h6 : F.fn 113) (hro : F.round = none) (hn : 1 ≤ n) (l Bp Bf n₀ : Nat) (p : Pl) (f : Bool) (J Jx : List Int → World → Prop)
    (hY : ∀ pre x W, J pre W → pre.length < p.nb → YieldAt F (n - 1) Try.prog l #[.int .i64 x] W fun e W' =>
      (e = .returned (.bool true) ∧ J (pre ++ [x]) W' ∧ keepsB n₀ Bf W W') ∨ (e = .returned (.bool false) ∧ Jx (pre ++ [x]) W'))
    (W : World) (hJ : AbidesFrom W.heap.size J) (hn₀ : n₀ ≤ W.heap.size) (hBp : W.cell? ⟨Bp, 0, none⟩ = some (.slice p.ab p.nb p.cb)) (hBf : W.cell? ⟨Bf, 0, none⟩ = some (.bool f)) (hle : p.nb ≤ p.cb) (hcap : p.cb ≤ maxLen)
    (hL : ∀ W', Below n₀ W W' → BinsAt W' p.ab p.nb p.zb) (h0 : J [] W) :
    CallsIn F n Try.prog 113 #[.func (.yield l) #[] #[], .pointer (some ⟨Bp, 0, none⟩), .pointer (some ⟨Bf, 0, none⟩)] W fun e W' => (∃ v, e = .returned v) ∧
      ((∃ ys, ys = frL p f p.nb ∧ J ys W') ∨ (∃ pre, pre <+: frL p f p.nb ∧ Jx pre W')) := by
  unfold maxLen at hcap
  have hS : Hid (∀ wr, Below n₀ W wr → W.heap.size ≤ wr.heap.size) := fun wr h => h.size
  have HJA : Hid (∀ pre A o, J pre A → J pre (A.alloc o)) := fun pre A o h => hJ pre A (A.alloc o) none h (World.grownBy_alloc A o none) (fun r e => by cases e)
  refine callsIn_of_wp Try.func113 rfl h6 ?_ hro
  simp only [Try.ntmps113, List.size_toArray, List.length_cons, List.length_nil, Nat.reduceAdd, Nat.reduceSub, Array.replicate_succ, Array.replicate_zero, List.push_toArray, List.append_toArray, List.nil_append, List.cons_append]
  gi_wp2
  gi_loopw [9] (fun i wr => ∃ k : Nat, k ≤ p.nb ∧ i = .int .i64 k ∧ J (frL p f k) wr ∧ Below n₀ W wr ∧ wr.cell? ⟨Bf, 0, none⟩ = some (.bool f)) (fun i _ => p.nb - (intOf i).toNat)
  case atStart => exact ⟨0, Nat.zero_le _, rfl, h0, Below.refl _ _, hBf⟩
  case round =>
    obtain ⟨k, hk, rfl, hJs, hB, hcf⟩ := hrel
    by_cases hlt : k < p.nb
    · obtain ⟨b, o, hab, hb, z0, z1, z2, z3⟩ := hL _ hB k hlt
      have m1 : (0 : Int) ≤ (k : Int) := by omega
      have hltf : Bf < wr.heap.size := World.block_lt_of_cell? wr _ hcf
      have hfl := frL_len p f k
      rw [hab]
      clear hab
      by_cases hf : (p.zb k).front = f
      · rw [hf] at z0
        have hJa := HJA.out _ wr (.cells #[.bool f, .int .i64 (p.zb k).room, .int .i64 (p.zb k).low, .int .i64 (p.zb k).high] 105) hJs
        obtain ⟨fn, tmps, assign, body, hy, hR⟩ := hY (frL p f k) k _ hJa (by omega)
        gi_wp2
        refine hR.mono ?_
        rintro e W3 (⟨rfl, hJ3, hk3⟩ | ⟨rfl, hJx3⟩)
        · have hB3 : Below n₀ W W3 := (hB.alloc (Nat.le_trans hn₀ (hS.out wr hB)) _).trans hk3.1
          have hc3 : W3.cell? ⟨Bf, 0, none⟩ = some (.bool f) := hk3.2 _ ((((Below.refl wr.heap.size wr).alloc (Nat.le_refl _) _).cell (p := ⟨Bf, 0, none⟩) hltf).trans hcf)
          rw [← frL_hit hf] at hJ3
          clear hk3 hR
          gi_wp2
          go_roundw
          case rel => exact ⟨k + 1, by omega, by go_num, hJ3, hB3, hc3⟩
          case measure => simp [intOf]; omega
        · rw [← frL_hit hf] at hJx3
          gi_wp2
          refine bodyPost_ret (results_none rfl _ _ _) rfl ?_
          exact ⟨⟨_, rfl⟩, .inr ⟨frL p f (k + 1), frL_prefix p f (by omega), hJx3⟩⟩
      · have hJa := HJA.out _ wr (.cells #[.bool (p.zb k).front, .int .i64 (p.zb k).room, .int .i64 (p.zb k).low, .int .i64 (p.zb k).high] 105) hJs
        rw [← frL_miss hf] at hJa
        have hBa := hB.alloc (Nat.le_trans hn₀ (hS.out wr hB)) (.cells #[.bool (p.zb k).front, .int .i64 (p.zb k).room, .int .i64 (p.zb k).low, .int .i64 (p.zb k).high] 105)
        have hca := (((Below.refl wr.heap.size wr).alloc (Nat.le_refl _) (.cells #[.bool (p.zb k).front, .int .i64 (p.zb k).room, .int .i64 (p.zb k).low, .int .i64 (p.zb k).high] 105)).cell (p := ⟨Bf, 0, none⟩) hltf).trans hcf
        have HA : Hid (J (frL p f (k + 1)) (wr.alloc (.cells #[.bool (p.zb k).front, .int .i64 (p.zb k).room, .int .i64 (p.zb k).low, .int .i64 (p.zb k).high] 105)) ∧ Below n₀ W (wr.alloc (.cells #[.bool (p.zb k).front, .int .i64 (p.zb k).room, .int .i64 (p.zb k).low, .int .i64 (p.zb k).high] 105)) ∧ (wr.alloc (.cells #[.bool (p.zb k).front, .int .i64 (p.zb k).room, .int .i64 (p.zb k).low, .int .i64 (p.zb k).high] 105)).cell? ⟨Bf, 0, none⟩ = some (.bool f)) := ⟨hJa, hBa, hca⟩
        clear hJa hBa hca
        gi_wp2
        refine ⟨fun _ h => (by cases h), ?_⟩
        gi_wp2
        go_roundw
        case rel => exact ⟨k + 1, by omega, by go_num, HA.out.1, HA.out.2.1, HA.out.2.2⟩
        case measure => simp [intOf]; omega
    · gi_wp2
      go_end0
      have hkn : k = p.nb := by omega
      subst hkn
      exact ⟨⟨_, rfl⟩, .inl ⟨_, rfl, hJs⟩⟩
end Go.Proofs.Ytbcacebifpagpaf
namespace Go.Proofs.Ytbcacebifpagpaf
open Go.RowKit Go.Shelf
set_option linter.unusedVariables false
attribute [local go_sem] Oper.semAt_some
theorem keepsB_t {n₀ Bf : Nat} {A B C : World} (h : keepsB n₀ Bf A B) (k : keepsB n₀ Bf B C) : keepsB n₀ Bf A C := ⟨h.1.trans k.1, fun v hv => k.2 v (h.2 v hv)⟩
theorem keepsB_b {n₀ Bf : Nat} {w : World} (hn : n₀ ≤ w.heap.size) (hb : Bf < w.heap.size) (W : World) (l : Nat) (o o' : Obj) (hl : w.heap.size ≤ l) (h : W.heap[l]? = some o) (h1 : o.isCells = false) (h2 : o.isWalk = false) : keepsB n₀ Bf W (W.putObj l o') :=
  ⟨belowK_b hn W l o o' hl h h1 h2, fun v hv => ((belowK_b (Nat.le_refl _) W l o o' hl h h1 h2).cell (p := ⟨Bf, 0, none⟩) hb).trans hv⟩
set_option maxRecDepth 100000 in
set_option maxHeartbeats 1000000 in
theorem binsOf_in (F : Fence) (n : Nat) (h5 : F.fn 102) (hro : F.round = none) (p : Pl) (f : Bool) (w : World) :
    CallsIn F n Try.prog 102 #[p.val, .bool f] w fun e w' => e = .returned (.func (.func 113) #[] #[.pointer (some ⟨w.heap.size, 0, none⟩), .pointer (some ⟨w.heap.size + 1, 0, none⟩)]) ∧ w' = (w.alloc (.cells #[.slice p.ab p.nb p.cb, .slice p.sa p.ns p.cs] 25)).alloc (.cells #[.bool f] 4) := by
  unfold Pl.val
  refine callsIn_of_wp Try.func102 rfl h5 ?_ hro
  simp only [Try.ntmps102, List.size_toArray, List.length_cons, List.length_nil, Nat.reduceAdd, Nat.reduceSub, Array.replicate_succ, Array.replicate_zero, List.push_toArray, List.append_toArray, List.nil_append, List.cons_append]
  gi_wp2
  go_ret
  exact ⟨rfl, rfl⟩
theorem binsOf_stops (F : Fence) (n : Nat) (h6 : F.fn 113) (hro : F.round = none) (hn : 1 ≤ n) (Bp Bf n₀ : Nat) (p : Pl) (f : Bool) (w : World) (hBp : Bp < w.heap.size) (hBf : Bf < w.heap.size) (hn₀ : n₀ ≤ w.heap.size)
    (hcp : w.cell? ⟨Bp, 0, none⟩ = some (.slice p.ab p.nb p.cb)) (hcf : w.cell? ⟨Bf, 0, none⟩ = some (.bool f)) (hle : p.nb ≤ p.cb) (hcap : p.cb ≤ maxLen) (hL : ∀ W', Below n₀ w W' → BinsAt W' p.ab p.nb p.zb) :
    SeqStopsK F n Try.prog 113 #[.pointer (some ⟨Bp, 0, none⟩), .pointer (some ⟨Bf, 0, none⟩)] (fun x : Int => #[Value.int .i64 x]) (keepsB n₀ Bf) (fun ys => ys = frL p f p.nb) (fun pre => pre <+: frL p f p.nb) p.nb w := fun l J Jx W hW hJ _ hY h0 =>
  binsOf1_in F n h6 hro hn l Bp Bf n₀ p f J Jx hY W hJ (Nat.le_trans hn₀ hW.size) ((hW.cell (p := ⟨Bp, 0, none⟩) hBp).trans hcp) ((hW.cell (p := ⟨Bf, 0, none⟩) hBf).trans hcf) hle hcap (fun W' h => hL W' ((hW.mono hn₀).trans h)) h0
end Go.Proofs.Ytbcacebifpagpaf
namespace Go.Proofs.Ytbcacebifpagpaf
open Go.RowKit Go.Shelf
set_option linter.unusedVariables false
attribute [local go_sem] Oper.semAt_some
set_option maxRecDepth 100000 in
set_option maxHeartbeats 2000000 in
theorem WayOwn_any (p : Pl) (w : World) (hp : p.At w) :
    Calls Try.prog 67 #[p.val] w fun e w' => ∃ v, e = .returned (.tuple #[v, .int .i64 (planE p)]) ∧ w'.ownsRow w.heap.size 3 1 v (wayR p).length ((wayR p).map (Value.int .i64)) ∧ Below w.heap.size w w' := by
  have leb := hp.leb
  have capb0 := hp.capb
  have capb := capb0
  unfold maxLen at capb
  have hB0 : Below w.heap.size w (w.alloc (.cells #[.slice p.ab p.nb p.cb, .slice p.sa p.ns p.cs] 25)) := (Below.refl w.heap.size w).alloc (Nat.le_refl _) _
  obtain ⟨i1, hj, hy0, hy1, hy2⟩ := info_parts infoInt
  refine (callsIn_wide (n := 5)).1 ?_
  refine callsIn_of_wp_marks Try.func67 rfl trivial ?_ rfl
  simp only [Pl.val, Try.ntmps67, List.size_toArray, List.length_cons, List.length_nil, Nat.reduceAdd, Nat.reduceSub, Array.replicate_succ, Array.replicate_zero, List.push_toArray, List.append_toArray, List.nil_append, List.cons_append]
  by_cases h0 : planE p = 0
  · have HC : Calls Try.prog 76 #[p.val] (w.alloc (.cells #[.slice p.ab p.nb p.cb, .slice p.sa p.ns p.cs] 25)) fun e w' => e = .returned (.int .i64 0) ∧ Below (w.heap.size + 1) (w.alloc (.cells #[.slice p.ab p.nb p.cb, .slice p.sa p.ns p.cs] 25)) w' := by
      have := planCheck_any p _ (hp.below hB0)
      rw [h0, World.size_alloc] at this
      exact this
    have R := rightP h0
    have hnb := R.nb6
    have H0 : Hid (planE p = 0) := h0
    clear h0 R
    gi_wp2_with (first
      | (refine ⟨trivial, ?_⟩; gi_at_call 76; refine (callsIn_wide.2 HC).mono ?_; rintro e w1 ⟨rfl, hB⟩; have hsz := hB.size; have c0 : w1.cell? ⟨w.heap.size, 0, none⟩ = some (.slice p.ab p.nb p.cb) := (hB.cell (p := ⟨w.heap.size, 0, none⟩) (by simp)).trans (by simp); rw [World.size_alloc] at hsz)
      | (gi_at_make; refine wpListIn_make_own _ rfl _ _ 23 rfl (w.heap.size + 1) 3 i1 (.int .i64 0) 1 Try.underlying23 hj hy0 hy1 .i64 .i64 _ p.nb rfl rfl rfl (by rw [hy2]; omega) (by unfold maxLen; omega) (by omega) ?_; intro w2 hown2 hgrow2; have hB2 : Below (w.heap.size + 1) (w.alloc (.cells #[.slice p.ab p.nb p.cb, .slice p.sa p.ns p.cs] 25)) w2 := hB.grown hgrow2 (by omega) (by intro k hk; cases hk); have hsz2 := hB2.size; rw [World.size_alloc] at hsz2; have c0 : w2.cell? ⟨w.heap.size, 0, none⟩ = some (.slice p.ab p.nb p.cb) := (hB2.cell (p := ⟨w.heap.size, 0, none⟩) (by simp)).trans (by simp); have c1 : w2.cell? ⟨w.heap.size, 1, none⟩ = some (.slice p.sa p.ns p.cs) := (hB2.cell (p := ⟨w.heap.size, 1, none⟩) (by simp)).trans (by simp); have hlt2 : w.heap.size < w2.heap.size := by omega)
      | (refine ⟨trivial, ?_⟩; gi_at_call 102; refine (binsOf_in Fence.wide _ trivial rfl p true _).mono ?_; rintro e w' ⟨rfl, rfl⟩))
    obtain ⟨W3, hW3, s3, bO, hrow0, bF, cP, hB3⟩ : ∃ W3, ((w2.alloc (.cells #[(.slice (some ⟨w1.heap.size, 0, none⟩) 0 p.nb)] 23)).alloc (.cells #[.slice p.ab p.nb p.cb, .slice p.sa p.ns p.cs] 25)).alloc (.cells #[.bool true] 4) = W3 ∧ W3.heap.size = w2.heap.size + 3 ∧ _root_.Go.Boxed W3 w2.heap.size 23 (.slice (some ⟨w1.heap.size, 0, none⟩) 0 p.nb) ∧ W3.ownsRow (w.heap.size + 1) 3 1 (.slice (some ⟨w1.heap.size, 0, none⟩) 0 p.nb) 0 [] ∧ _root_.Go.Boxed W3 (w2.heap.size + 1 + 1) 4 (.bool true) ∧ W3.cell? ⟨w2.heap.size + 1, 0, none⟩ = some (.slice p.ab p.nb p.cb) ∧ Below (w.heap.size + 1) (w.alloc (.cells #[.slice p.ab p.nb p.cb, .slice p.sa p.ns p.cs] 25)) W3 := by
      refine ⟨_, rfl, by simp, ((_root_.Go.Boxed.new w2 23 _).alloc _).alloc _, ((hown2.alloc _).alloc _).alloc _, ?_, ?_, ((hB2.alloc hsz2 _).alloc (by simp; omega) _).alloc (by simp; omega) _⟩
      · have := _root_.Go.Boxed.new ((w2.alloc (.cells #[(.slice (some ⟨w1.heap.size, 0, none⟩) 0 p.nb)] 23)).alloc (.cells #[.slice p.ab p.nb p.cb, .slice p.sa p.ns p.cs] 25)) 4 (.bool true)
        rwa [World.size_alloc, World.size_alloc] at this
      · have := ((Blk.new (w2.alloc (.cells #[(.slice (some ⟨w1.heap.size, 0, none⟩) 0 p.nb)] 23)) #[.slice p.ab p.nb p.cb, .slice p.sa p.ns p.cs] 25).alloc (.cells #[.bool true] 4)).cell (j := 0) (by simp)
        rwa [World.size_alloc] at this
    have HP : Hid (∀ W', Below (w.heap.size + 1) (w.alloc (.cells #[.slice p.ab p.nb p.cb, .slice p.sa p.ns p.cs] 25)) W' → BinsAt W' p.ab p.nb p.zb) := fun W' h => (hp.bins.below hB0).below (by rw [World.size_alloc]; exact h)
    rw [hW3]
    clear hB c0 c1 hown2 hgrow2 hW3
    refine wpIn_rangeFunc_ownG rfl (by decide) (gf := 113) (lb := #[.pointer (some ⟨w2.heap.size + 1, 0, none⟩), .pointer (some ⟨w2.heap.size + 1 + 1, 0, none⟩)]) rfl trivial (enters_of Try.func113 (by kernel_rfl) rfl)
      (binsOf_stops Fence.wide _ trivial rfl (by decide) (w2.heap.size + 1) (w2.heap.size + 1 + 1) (w.heap.size + 1) p true W3 (by omega) (by omega) (by omega) cP bF.cell leb capb0 (fun W' h => HP.out W' (hB3.trans h))) keepsB_t (keepsB_b (by omega) (by omega)) (Below.refl _ _) (fun _ => rfl)
      (fun pre W => (∃ v, _root_.Go.Boxed W w2.heap.size 23 v ∧ W.ownsRow (w.heap.size + 1) 3 1 v pre.length (pre.map (Value.int .i64)) ∧ True) ∧ _root_.Go.Boxed W (w2.heap.size + 1 + 1) 4 (.bool true) ∧ Below (w.heap.size + 1) (w.alloc (.cells #[.slice p.ab p.nb p.cb, .slice p.sa p.ns p.cs] 25)) W)
      (fun _ _ _ => False)
      (OwnFrom.and (Own.from (holdsRow_own (w.heap.size + 1) w2.heap.size 23 3 1 (fun pre : List Int => pre.length) (fun pre => pre.map (Value.int .i64)) (fun _ _ => True)) _) (OwnFrom.and (Own.from (boxed_own _ _ _) _) (ownFrom_below (by simp) (by omega))))
      (fun _ _ _ _ _ hs _ _ => hs)
      ⟨⟨_, bO, hrow0, trivial⟩, bF, hB3⟩
      (fun x => { tmps := #[.agg #[.slice p.ab p.nb p.cb, .slice p.sa p.ns p.cs], .pointer (some ⟨w.heap.size, 0, none⟩), .slice none 0 0, .int .i64 0, .int .i64 0, .pointer (some ⟨w2.heap.size, 0, none⟩), .int .i64 x, undef, .agg #[.slice p.ab p.nb p.cb, .slice p.sa p.ns p.cs], .int .i64 0, .int .i64 0, .bool false, undef, .pointer (some ⟨w.heap.size, 0, none⟩), .slice p.ab p.nb p.cb, .int .i64 p.nb, (.slice (some ⟨w1.heap.size, 0, none⟩) 0 p.nb), .agg #[.slice p.ab p.nb p.cb, .slice p.sa p.ns p.cs], .func (.func 113) #[] #[.pointer (some ⟨w2.heap.size + 1, 0, none⟩), .pointer (some ⟨w2.heap.size + 1 + 1, 0, none⟩)], .int .i64 x, undef, undef, undef, undef, undef, undef, undef, undef, undef, undef, undef, undef], defers := [] }) ?assign ?body ?done ?stop
    case assign =>
      intro l x W K hK
      gi_wp2
      exact hK
    case body =>
      rintro l pre x W ⟨⟨v, hv, hrow, -⟩, hbf, hBB⟩ hlt
      have hc := hv.cell
      gi_wp2_with (gi_at_builtin; refine wpListIn_append_own _ rfl _ _ 23 rfl (w.heap.size + 1) 3 i1 (.int .i64 0) 1 8 Try.underlying23 hj hy0 hy1 hy2 rfl (by decide) _ _ _ rfl (hrow.alloc _) ⟨W.heap.size, 0, none⟩ 1 1 [.int .i64 x] rfl rfl (cell_one_new _ _ _) (by simp [Value.oneCell']) (by unfold maxLen; omega) (by omega) (by have := hBB.size; simp at this ⊢; omega) ?_; intro v' w5 hown' hgrow _; obtain ⟨g', cap', rfl⟩ := ownsRow_succ hown'; obtain ⟨hv1, hv2, hr2, hk2, hb2⟩ := hv.appended (by decide) hrow (by have := hBB.size; simpa using this) hsz2 hown' hgrow; have hc1 := hv1.cell; have hf1 := hv1.frozen; have hF5 := (hbf.alloc _).kept hgrow (hbf.not_row (by decide) hrow))
      refine ⟨hk2.from _, ⟨hb2, fun u hu => ?_⟩, ⟨_, hv2, by simpa using hr2, trivial⟩, hF5.other (by omega) _, hBB.trans hb2⟩
      rw [hbf.cell] at hu
      cases hu
      exact (hF5.other (by omega) _).cell
    case done =>
      rintro D ys W4 hD rfl ⟨⟨v, hv, hrow, -⟩, -, hBB⟩ hK
      have c0 : W4.cell? ⟨w.heap.size, 0, none⟩ = some (.slice p.ab p.nb p.cb) := (hBB.cell (p := ⟨w.heap.size, 0, none⟩) (by simp)).trans (by simp)
      have c1 : W4.cell? ⟨w.heap.size, 1, none⟩ = some (.slice p.sa p.ns p.cs) := (hBB.cell (p := ⟨w.heap.size, 1, none⟩) (by simp)).trans (by simp)
      have hsz4 : w.heap.size < W4.heap.size := by have := hBB.size; simp at this; omega
      gi_wp2_with (refine ⟨trivial, ?_⟩; gi_at_call 102; refine (binsOf_in Fence.wide _ trivial rfl p false _).mono ?_; rintro e w' ⟨rfl, rfl⟩)
      have hsB := hv.lt
      obtain ⟨W5, hW5, s5, bO, hrow5, bF, cP, hB5, hK5⟩ : ∃ W5, (W4.alloc (.cells #[.slice p.ab p.nb p.cb, .slice p.sa p.ns p.cs] 25)).alloc (.cells #[.bool false] 4) = W5 ∧ W5.heap.size = W4.heap.size + 2 ∧ _root_.Go.Boxed W5 w2.heap.size 23 v ∧ W5.ownsRow (w.heap.size + 1) 3 1 v (frL p true p.nb).length ((frL p true p.nb).map (Value.int .i64)) ∧ _root_.Go.Boxed W5 (W4.heap.size + 1) 4 (.bool false) ∧ W5.cell? ⟨W4.heap.size, 0, none⟩ = some (.slice p.ab p.nb p.cb) ∧ Below (w.heap.size + 1) (w.alloc (.cells #[.slice p.ab p.nb p.cb, .slice p.sa p.ns p.cs] 25)) W5 ∧ W5.heap[D]? = some (.deferred (some [])) := by
        refine ⟨_, rfl, by simp, (hv.alloc _).alloc _, (hrow.alloc _).alloc _, ?_, ?_, (hBB.alloc (by omega) _).alloc (by simp; omega) _, ?_⟩
        · have := _root_.Go.Boxed.new (W4.alloc (.cells #[.slice p.ab p.nb p.cb, .slice p.sa p.ns p.cs] 25)) 4 (.bool false)
          rwa [World.size_alloc] at this
        · exact ((Blk.new W4 #[.slice p.ab p.nb p.cb, .slice p.sa p.ns p.cs] 25).alloc (.cells #[.bool false] 4)).cell (j := 0) (by simp)
        · have hD4 := (Array.getElem?_eq_some_iff.1 hK).1
          exact ((((Below.refl W4.heap.size W4).alloc (Nat.le_refl _) _).alloc (by simp) _).block D hD4).trans hK
      have hD4 := (Array.getElem?_eq_some_iff.1 hK).1
      have hfl := frL_two p p.nb
      rw [hW5]
      clear hv hrow hBB hK c0 c1 hW5 hB3
      refine wpIn_rangeFunc_ownG rfl (by decide) (gf := 113) (lb := #[.pointer (some ⟨W4.heap.size, 0, none⟩), .pointer (some ⟨W4.heap.size + 1, 0, none⟩)]) rfl trivial (enters_of Try.func113 (by kernel_rfl) rfl)
        (binsOf_stops Fence.wide _ trivial rfl (by decide) W4.heap.size (W4.heap.size + 1) (w.heap.size + 1) p false W5 (by omega) (by omega) (by omega) cP bF.cell leb capb0 (fun W' h => HP.out W' (hB5.trans h))) keepsB_t (keepsB_b (by omega) (by omega)) (Below.refl _ _) (fun _ => rfl)
        (fun pre W => (∃ v, _root_.Go.Boxed W w2.heap.size 23 v ∧ W.ownsRow (w.heap.size + 1) 3 1 v (frL p true p.nb ++ pre).length ((frL p true p.nb ++ pre).map (Value.int .i64)) ∧ True) ∧ _root_.Go.Boxed W (W4.heap.size + 1) 4 (.bool false) ∧ Below (w.heap.size + 1) (w.alloc (.cells #[.slice p.ab p.nb p.cb, .slice p.sa p.ns p.cs] 25)) W ∧ W.heap[D]? = some (.deferred (some [])))
        (fun _ _ _ => False)
        (OwnFrom.and (Own.from (holdsRow_own (w.heap.size + 1) w2.heap.size 23 3 1 (fun pre : List Int => (frL p true p.nb ++ pre).length) (fun pre => (frL p true p.nb ++ pre).map (Value.int .i64)) (fun _ _ => True)) _) (OwnFrom.and (Own.from (boxed_own _ _ _) _) (OwnFrom.and (ownFrom_below (by simp) (by omega)) (fun s A B row hs hg hr => (hg.block D (Array.getElem?_eq_some_iff.1 hs).1 (fun e => by have := (hr D e.symm).1; omega)).trans hs))))
        (fun _ _ _ _ _ hs _ _ => hs)
        ⟨⟨_, bO, by simpa using hrow5, trivial⟩, bF, hB5, hK5⟩
        (fun x => { tmps := #[.agg #[.slice p.ab p.nb p.cb, .slice p.sa p.ns p.cs], .pointer (some ⟨w.heap.size, 0, none⟩), .slice none 0 0, .int .i64 0, .int .i64 0, .pointer (some ⟨w2.heap.size, 0, none⟩), undef, .int .i64 x, .agg #[.slice p.ab p.nb p.cb, .slice p.sa p.ns p.cs], .int .i64 0, .int .i64 0, .bool false, undef, .pointer (some ⟨w.heap.size, 0, none⟩), .slice p.ab p.nb p.cb, .int .i64 p.nb, (.slice (some ⟨w1.heap.size, 0, none⟩) 0 p.nb), .agg #[.slice p.ab p.nb p.cb, .slice p.sa p.ns p.cs], .func (.func 113) #[] #[.pointer (some ⟨w2.heap.size + 1, 0, none⟩), .pointer (some ⟨w2.heap.size + 1 + 1, 0, none⟩)], undef, undef, undef, undef, undef, .agg #[.slice p.ab p.nb p.cb, .slice p.sa p.ns p.cs], .func (.func 113) #[] #[.pointer (some ⟨W4.heap.size, 0, none⟩), .pointer (some ⟨W4.heap.size + 1, 0, none⟩)], .int .i64 x, undef, undef, undef, undef, undef], defers := [] }) ?assign2 ?body2 ?done2 ?stop2
      case assign2 =>
        intro l x W K hK
        gi_wp2
        exact hK
      case body2 =>
        rintro l pre x W ⟨⟨v, hv, hrow, -⟩, hbf, hBB, hKD⟩ hlt
        have hc := hv.cell
        have hll : (frL p true p.nb ++ pre).length ≤ 2 * p.nb := by rw [List.length_append]; omega
        gi_wp2_with (gi_at_builtin; refine wpListIn_append_own _ rfl _ _ 23 rfl (w.heap.size + 1) 3 i1 (.int .i64 0) 1 8 Try.underlying23 hj hy0 hy1 hy2 rfl (by decide) _ _ _ rfl (hrow.alloc _) ⟨W.heap.size, 0, none⟩ 1 1 [.int .i64 x] rfl rfl (cell_one_new _ _ _) (by simp [Value.oneCell']) (by unfold maxLen; omega) (by omega) (by have := hBB.size; simp at this ⊢; omega) ?_; intro v' w5 hown' hgrow _; obtain ⟨g', cap', rfl⟩ := ownsRow_succ hown'; obtain ⟨hv1, hv2, hr2, hk2, hb2⟩ := hv.appended (by decide) hrow (by have := hBB.size; simpa using this) hsz2 hown' hgrow; have hc1 := hv1.cell; have hf1 := hv1.frozen; have hF5 := (hbf.alloc _).kept hgrow (hbf.not_row (by decide) hrow))
        simp only [List.length_append] at hv2 hr2 hk2 hb2
        refine ⟨hk2.from _, ⟨hb2, fun u hu => ?_⟩, ⟨_, hv2, by simpa [Nat.add_assoc] using hr2, trivial⟩, hF5.other (by omega) _, hBB.trans hb2, hk2.same D _ hKD rfl⟩
        rw [hbf.cell] at hu
        cases hu
        exact (hF5.other (by omega) _).cell
      case done2 =>
        rintro D2 ys W hD2 rfl ⟨⟨v, hv, hrow, -⟩, -, hBB, hK1⟩ hK2
        have hc := hv.cell
        gi_wp2
        refine ⟨by simp, .inl ⟨_, _, rfl, run_takeDeferred hK2, ?_⟩⟩
        have hne : D ≠ D2 := by omega
        have hK1' : (W.putObj D2 (.deferred none)).heap[D]? = some (.deferred (some [])) := ((grownBy_putObj' W D2 (.deferred none)).block D (Array.getElem?_eq_some_iff.1 hK1).1 (fun e => hne (by cases e; rfl))).trans hK1
        refine ⟨by simp, .inl ⟨_, _, rfl, run_takeDeferred hK1', ?_⟩⟩
        have hr2 := ownsRow_putObj (ownsRow_putObj hrow (.deferred none) hK2 rfl) (.deferred none) hK1' rfl
        have hb1 : Below (w.heap.size + 1) (w.alloc (.cells #[.slice p.ab p.nb p.cb, .slice p.sa p.ns p.cs] 25)) (W.putObj D2 (.deferred none)) := hBB.trans (belowK_b (w := W5) (by omega) W D2 _ _ hD2 hK2 rfl rfl)
        have hb2 := hb1.trans (belowK_b (w := W3) (by omega) (W.putObj D2 (.deferred none)) D _ (.deferred none) hD hK1' rfl rfl)
        rw [H0.out, wayR_yes H0.out]
        exact ⟨_, results_tmp2 rfl _ _ _, _, rfl, owns_low hr2 (Nat.le_succ _), hB0.trans (hb2.mono (by omega))⟩
      case stop2 =>
        rintro D c pre W _ _ h _
        exact h.elim
    case stop =>
      rintro D c pre W _ _ h _
      exact h.elim
  · gi_wp2_with (refine ⟨trivial, ?_⟩; gi_at_call 76; refine (callsIn_wide.2 (planCheck_any p _ (hp.below hB0))).mono ?_; rintro e w1 ⟨rfl, hB⟩)
    rw [wayR_no h0]
    exact ⟨_, results_tmp2 rfl _ _ _, _, rfl, World.ownsRow_nil _ _ _ _, hB0.trans (hB.mono (by simp))⟩
end Go.Proofs.Ytbcacebifpagpaf
namespace Go.Proofs.Ytbcacebifpagpaf
open Go.RowKit Go.Shelf Go.Sort
set_option linter.unusedVariables false
theorem Take1_any (B : Nat) (x but : Int) (w : World) (hB : B < w.heap.size) (c : w.cell? ⟨B, 0, none⟩ = some (.int .i64 but)) :
    Calls Try.prog 69 #[.int .i64 x, .pointer (some ⟨B, 0, none⟩)] w fun e w' => e = .returned (.bool (x == but)) ∧ Below w.heap.size w w' := by
  go_enter Try.func69, Try.ntmps69
  go_wp2_with fail
  go_ret
  exact ⟨rfl, Below.refl _ _⟩
def TakeInv (s : St) (o l : Nat) (n : Int) (av : Int → Int) (F : List Int) (A BX BL g k : Nat) (wk : World) : Prop :=
  ∃ x : St, Took s o l n (Tk.go av n (F.take k)) x ∧ OwnS A wk x ∧ Blk wk BX 31 7 (fun j => x.cells.getD j default) ∧ Blk wk g 3 F.length (fun j => .int .i64 (F.getD j 0)) ∧ (x.os.z o).ls.a = some ⟨BL, 0, none⟩
theorem take_more {F : List Int} {k : Nat} (hk : k < F.length) : F.take (k + 1) = F.take k ++ [F.getD k 0] := by
  rw [List.take_add_one]
  simp [List.getD, List.getElem?_eq_getElem hk]
theorem getD_mem {F : List Int} {k : Nat} (hk : k < F.length) : F.getD k 0 ∈ F := by
  simp [List.getD, List.getElem?_eq_getElem hk]
theorem avail_okA {p : Pl} {s : St} {b g : Nat} (h : stateE p s = 0) (hb : b < p.nb) (hg : g < p.ns) : availE p s b g = 0 ∧ availV p s b g = availZ s b g := by
  have e : availE p s b g = 0 := by unfold availE; rw [if_pos h, inB_mk (by omega), inB_mk (by omega)]; rfl
  exact ⟨e, by unfold availV; rw [if_pos e]; rfl⟩
theorem avail_bdA {p : Pl} {s : St} {b g : Nat} (r : RightT p s) (hb : b < p.nb) (hg : g < p.ns) : 0 ≤ availZ s b g ∧ availZ s b g ≤ 200 := by
  have f := r.fm
  refine ⟨(goods_no (r.goods g hg)).2 b hb, ?_⟩
  have h1 := f.sh.num b (by rw [f.sh.n]; exact hb) g hg
  have h2 := (heldTo_bd (s := s) (b := b) (g := g) f.holdN).1
  have h3 := (fromTo_bd (s := s) (b := b) (g := g) f.moveN).1
  unfold availZ
  omega
set_option maxRecDepth 100000 in
set_option maxHeartbeats 8000000 in
theorem Take_any (p : Pl) (s : St) (order line n but : Int) (w : World) (hp : p.At w) (hs : s.At w) :
    Calls Try.prog 38 #[p.val, s.val, .int .i64 order, .int .i64 line, .int .i64 n, .int .i64 but] w fun e w' => ∃ x : St, e = .returned (.tuple #[x.val, .int .i64 (allocL p s order line n but), .int .i64 (allocE p s order line n but)]) ∧ x.At w' ∧ AllocOK p s order line n but x ∧ (allocE p s order line n but = 0 → OwnS w.heap.size w' x) ∧ Below w.heap.size w w' := by
  obtain ⟨W0, hW, hWB, X0, K0, Z0⟩ : ∃ W, ((((w.alloc (.cells #[.slice p.ab p.nb p.cb, .slice p.sa p.ns p.cs] 25)).alloc (.cells s.cells 31)).alloc (.cells #[.int .i64 but] 3)).alloc (.cells #[.slice .none 0 0, .slice .none 0 0, .slice .none 0 0, .slice .none 0 0, .slice .none 0 0, .slice .none 0 0, .slice .none 0 0] 31)) = W ∧ Below w.heap.size w W ∧ Boxes W w.heap.size (w.heap.size + 1) p s ∧ Blk W (w.heap.size + 2) 3 1 (fun _ => .int .i64 but) ∧ Blk W (w.heap.size + 3) 31 7 (fun _ => .slice .none 0 0) :=
    ⟨_, rfl, ((two_below _ _ _).alloc (by simp; omega) _).alloc (by simp; omega) _, ((boxes_new w p s _ _).below ((Below.refl _ _).alloc (Nat.le_refl _) _)).below ((Below.refl _ _).alloc (Nat.le_refl _) _), ((Blk.mk' (cur := #[.int .i64 but]) (by simp) rfl).congr (fun j hj => by match j, hj with | 0, _ => rfl)).alloc _, (Blk.mk' (cur := #[.slice .none 0 0, .slice .none 0 0, .slice .none 0 0, .slice .none 0 0, .slice .none 0 0, .slice .none 0 0, .slice .none 0 0]) (by simp) rfl).congr (fun j hj => by match j, hj with | 0, _ => rfl | 1, _ => rfl | 2, _ => rfl | 3, _ => rfl | 4, _ => rfl | 5, _ => rfl | 6, _ => rfl)⟩
  have HC : Hid (∀ wk, Below W0.heap.size W0 wk → Boxes wk w.heap.size (w.heap.size + 1) p s ∧ p.At wk ∧ s.At wk ∧ Below w.heap.size w wk ∧ Blk wk (w.heap.size + 3) 31 7 (fun _ => .slice .none 0 0) ∧ Blk wk (w.heap.size + 2) 3 1 (fun _ => .int .i64 but)) := fun wk h => ⟨X0.below h, (hp.below hWB).below h, (hs.below hWB).below h, hWB.trans (h.mono hWB.size), Z0.below h, K0.below h⟩
  have HW : Hid ((((w.alloc (.cells #[.slice p.ab p.nb p.cb, .slice p.sa p.ns p.cs] 25)).alloc (.cells #[.slice s.on.a s.on.n s.on.c, .slice s.os.a s.os.n s.os.c, .slice s.hs.a s.hs.n s.hs.c, .slice s.ms.a s.ms.n s.ms.c, .slice s.si.a s.si.n s.si.c, .slice s.so.a s.so.n s.so.c, .slice s.sf.a s.sf.n s.sf.c] 31)).alloc (.cells #[.int .i64 but] 3)).alloc (.cells #[.slice .none 0 0, .slice .none 0 0, .slice .none 0 0, .slice .none 0 0, .slice .none 0 0, .slice .none 0 0, .slice .none 0 0] 31) = W0) := hW
  have leb := hp.leb
  have capb0 := hp.capb
  have capb := capb0
  have les := hp.les
  have caps := hp.caps
  have zlt0 := Z0.lt
  unfold maxLen at capb caps
  clear hW X0 Z0 K0 hp hs
  unfold Pl.val St.val
  go_enter Try.func38, Try.ntmps38
  go_wp2_with fail
  rw [HW.out]
  obtain ⟨X, hpk, hsk, hBw, hz, kb⟩ := HC.out W0 (Below.refl _ _)
  refine (allocCheck_any p s order line n but W0 hpk hsk).mono ?_
  rintro e w1 ⟨rfl, hB⟩
  clear X hpk hsk hBw hz kb HW
  obtain ⟨⟨⟨l1, d0, d1⟩, l2, c0, c1, c2, c3, c4, c5, c6⟩, hpk, hsk, hBw, hz, kb⟩ := HC.out w1 hB
  by_cases hE : allocE p s order line n but = 0
  · have HE : Hid (allocE p s order line n but = 0) := hE
    have HI : Hid (AllocIn p s order line n but) := allocIn hE
    rw [hE]
    clear hE
    have HRT : Hid (RightT p s) := rightT HI.out.st
    have HP0 : Hid (planE p = 0) := (rightS HRT.out.fm.sh0).1
    obtain ⟨o, rfl⟩ := Int.eq_ofNat_of_zero_le HI.out.o0
    obtain ⟨l, rfl⟩ := Int.eq_ofNat_of_zero_le HI.out.l0
    have ho : o < s.os.n := HI.out.on
    have hl : l < (s.os.z o).ls.n := HI.out.ln
    have nb1 := HRT.out.fm.sh.pl.nb1
    have nb6 := HRT.out.fm.sh.pl.nb6
    have HPK : Hid (p.At w1) := hpk
    clear hpk hsk c0 c1 c2 c3 c4 c5 c6 hBw hz
    go_wp2_with fail
    refine (WayOwn_any p w1 HPK.out).mono ?_
    rintro e w2 ⟨v, rfl, hown, hB2⟩
    clear l1 d0 d1 l2 HPK
    rw [wayR_yes HP0.out] at hown
    have HWL : Hid ((wayL p).length = p.nb) := way_len p
    have hv : v ≠ .slice none 0 0 := by
      rintro rfl
      rcases hown.2 with ⟨_, h0⟩ | ⟨g2, cap2, cur2, h, _⟩
      · have := HWL.out; omega
      · cases h
    obtain ⟨g, c, rfl, hc1, hc2, hg, hk⟩ := Blk.ofOwns hown hv
    have hk2 : Blk w2 g 3 (wayL p).length (fun j => .int .i64 ((wayL p).getD j 0)) := by
      have h := hk.less (m := (wayL p).length) (by omega)
      refine h.congr fun j hj => ?_
      simp [List.getD, List.getElem?_eq_getElem hj]
    have HDF : Hid (Calls Try.prog 68 #[.slice (some ⟨g, 0, none⟩) (wayL p).length c, .func (.func 69) #[] #[.pointer (some ⟨w.heap.size + 1 + 1, 0, none⟩)]] w2 fun e w' => e = .returned (.slice (some ⟨g, 0, none⟩) (wayT p but).length c) ∧ Blk w' g 3 (wayT p but).length (fun j => .int .i64 ((wayT p but).getD j 0)) ∧ Below w1.heap.size w2 w') :=
      DelI_any 69 #[.pointer (some ⟨w.heap.size + 1 + 1, 0, none⟩)] (fun x => x == but) w1.heap.size g c (wayL p) w2 hg hB2.size hc1 hc2 hk2 (enters_of Try.func69 (by kernel_rfl) rfl) (fun x wz hz => by
        have hlt := kb.lt
        exact Take1_any (w.heap.size + 1 + 1) x but wz (Nat.lt_of_lt_of_le hlt (Nat.le_trans hB2.size hz.size)) ((hz.cell (p := ⟨w.heap.size + 2, 0, none⟩) hlt).trans ((hB2.cell (p := ⟨w.heap.size + 2, 0, none⟩) hlt).trans (kb.cell (j := 0) (by decide)))))
    rw [HP0.out]
    clear hown hv hk hk2
    go_wp2_with fail
    refine HDF.out.mono ?_
    rintro e w3 ⟨rfl, hk3, hB3⟩
    have hB13 := hB2.trans hB3
    have hB' := hB.trans (hB13.mono hB.size)
    have q13 := hB13.size
    have glt := hk3.lt
    have HK3 : Hid (Blk w3 g 3 (wayT p but).length (fun j => .int .i64 ((wayT p but).getD j 0))) := hk3
    have hF6 : (wayT p but).length ≤ 6 := by
      have := HWL.out
      have := List.length_filter_le (fun b => !(b == but)) (wayL p)
      unfold wayT
      omega
    have hFc : (wayT p but).length ≤ c := by
      have := List.length_filter_le (fun b => !(b == but)) (wayL p)
      unfold wayT
      omega
    clear HDF hk3 kb hB2 hB3 hB13 hB
    obtain ⟨⟨⟨l1, d0, d1⟩, l2, c0, c1, c2, c3, c4, c5, c6⟩, hpk, hsk, hBw, hz, kb⟩ := HC.out w3 hB'
    have HCS : Hid _ := copyState_any p s w3 hsk HRT.out.fm
    clear hpk hsk hBw hz kb
    go_wp2_with fail
    refine Calls.mono HCS.out ?_
    rintro e w4 ⟨x0, rfl, hsame, hown, hB4⟩
    clear HCS l1 d0 d1 l2 c0 c1 c2 c3 c4 c5 c6
    have q4 := hB4.size
    obtain ⟨W5, hW5, hWB5, K5⟩ : ∃ W, w4.alloc (.cells #[.slice x0.on.a x0.on.n x0.on.c, .slice x0.os.a x0.os.n x0.os.c, .slice x0.hs.a x0.hs.n x0.hs.c, .slice x0.ms.a x0.ms.n x0.ms.c, .slice x0.si.a x0.si.n x0.si.c, .slice x0.so.a x0.so.n x0.so.c, .slice x0.sf.a x0.sf.n x0.sf.c] 31) = W ∧ Below w4.heap.size w4 W ∧ Blk W w4.heap.size 31 7 (fun j => x0.cells.getD j default) := ⟨_, rfl, (Below.refl _ _).alloc (Nat.le_refl _) _, Blk.mk' rfl rfl⟩
    have HW5 : Hid (w4.alloc (.cells #[.slice x0.on.a x0.on.n x0.on.c, .slice x0.os.a x0.os.n x0.os.c, .slice x0.hs.a x0.hs.n x0.hs.c, .slice x0.ms.a x0.ms.n x0.ms.c, .slice x0.si.a x0.si.n x0.si.c, .slice x0.so.a x0.so.n x0.so.c, .slice x0.sf.a x0.sf.n x0.sf.c] 31) = W5) := hW5
    have hB35 := hB4.trans (hWB5.mono hB4.size)
    have hB5 := hB'.trans (hB35.mono hB'.size)
    have hown5 := OwnS.below hown hWB5
    have hkF := HK3.out.below hB35
    have ho0 : o < x0.os.n := by rw [hsame.os.1]; exact ho
    have e0 := hsame.os.2 o ho0
    have hl0 : l < (x0.os.z o).ls.n := by rw [e0.2.1]; exact hl
    obtain ⟨gO, BL, f1, f2, f3, f4, f5, f6, f7, f8, f9, f10, f11, f12, f13, f14⟩ := hown5.lineCell ho0 hl0
    have s1 : W5.cell? ⟨w4.heap.size, 1, none⟩ = some (.slice x0.os.a x0.os.n x0.os.c) := K5.cell (j := 1) (by decide)
    have s2 := K5.lt
    have v1 := hown5.os.le
    have v2 := hown5.os.cap
    rw [f1] at s1
    have HINV : Hid (TakeInv s o l n (fun b => availZ s b.toNat (lineAt s o l).o.toNat) (wayT p but) w3.heap.size w4.heap.size BL g 0 W5) := ⟨x0, by rw [List.take_zero]; exact Took.start HRT.out.fm.hold hsame, hown5, K5, hkF, f5⟩
    have qo : (0 : Int) ≤ (o : Int) := by omega
    have ql : (0 : Int) ≤ (l : Int) := by omega
    have HB5 : Hid (Below W0.heap.size W0 W5 ∧ W0.heap.size ≤ w3.heap.size ∧ w3.heap.size ≤ w4.heap.size ∧ g < w3.heap.size ∧ w3.heap.size ≤ BL) := ⟨hB5, hB'.size, q4, glt, f6⟩
    rw [← HW5.out] at s1 s2 f3 f4 f7
    unfold maxLen at v2 f9
    clear hW5 hown hown5 hkF K5 hB4 hWB5 hB35 hB5 f1 f2 f5 f6 f10 f11 f12 f13 f14 e0 hsame HK3
    simp only [St.val]
    go_wp2_with fail
    rw [HW5.out]
    clear s1 s2 f3 f4 f7 HW5 hB' q4 q13 glt v1 v2 f8 f9
    generalize x0.os.n = XN at *
    go_loopw [4, 56] (fun nv kv wk => ∃ k : Nat, k ≤ (wayT p but).length ∧ kv = .int .i64 k ∧ nv = .int .i64 (Tk.go (fun b => availZ s b.toNat (lineAt s o l).o.toNat) n ((wayT p but).take k)).left ∧ Hid (TakeInv s o l n (fun b => availZ s b.toNat (lineAt s o l).o.toNat) (wayT p but) w3.heap.size w4.heap.size BL g k wk) ∧ Hid (Below W0.heap.size W0 wk)) (fun _ kv _ => (wayT p but).length - (intOf kv).toNat)
    case atStart => exact ⟨0, Nat.zero_le _, rfl, rfl, HINV, HB5.out.1⟩
    case round =>
      clear HINV
      obtain ⟨k, hk, rfl, rfl, HV, HBk⟩ := hrel
      have HTK : Hid (TkOK (fun b => availZ s b.toNat (lineAt s o l).o.toNat) n ((wayT p but).take k) (Tk.go (fun b => availZ s b.toNat (lineAt s o l).o.toNat) n ((wayT p but).take k))) := HI.out.tk ((wayT_apart p but).sublist (List.take_sublist _ _)) (fun x hx => HI.out.way x (List.mem_of_mem_take hx))
      have H31EP : Hid (k < (wayT p but).length → Tk.go (fun b => availZ s b.toNat (lineAt s o l).o.toNat) n ((wayT p but).take (k + 1)) = (Tk.go (fun b => availZ s b.toNat (lineAt s o l).o.toNat) n ((wayT p but).take k)).step (fun b => availZ s b.toNat (lineAt s o l).o.toNat) ((wayT p but).getD k 0)) := fun h => by rw [take_more h, Tk.go_more]
      have HEND : Hid (k = (wayT p but).length → Tk.go (fun b => availZ s b.toNat (lineAt s o l).o.toNat) n ((wayT p but).take k) = tkOf p s (lineAt s o l).o n but) := fun h => by rw [h, List.take_length]; rfl
      obtain ⟨x, hT, hO, hK, hF, hla⟩ := HV.out
      have HX : Hid (Took s o l n (Tk.go (fun b => availZ s b.toNat (lineAt s o l).o.toNat) n ((wayT p but).take k)) x ∧ OwnS w3.heap.size wr x ∧ Blk wr w4.heap.size 31 7 (fun j => x.cells.getD j default) ∧ Blk wr g 3 (wayT p but).length (fun j => .int .i64 ((wayT p but).getD j 0)) ∧ (x.os.z o).ls.a = some ⟨BL, 0, none⟩) := ⟨hT, hO, hK, hF, hla⟩
      obtain ⟨T, hTd⟩ : ∃ T, Tk.go (fun b => availZ s b.toNat (lineAt s o l).o.toNat) n ((wayT p but).take k) = T := ⟨_, rfl⟩
      rw [hTd] at HTK H31EP HEND HX ⊢
      clear hT hO hK hF hla HV hTd
      have tl0 := HTK.out.left0
      have tln := HTK.out.leftn
      have nn2 := HI.out.n2
      by_cases hlt : k < (wayT p but).length
      · have HS1 : Hid _ := H31EP.out hlt
        obtain ⟨hbm0, hbm1⟩ := HI.out.way _ (getD_mem hlt)
        have z0 := HX.out.2.2.2.1.cell (j := k) hlt
        have z1 := HX.out.2.2.2.1.lt
        obtain ⟨bv, hbv⟩ := Int.eq_ofNat_of_zero_le hbm0
        have HBV : Hid ((wayT p but).getD k 0 = (bv : Int)) := hbv
        rw [hbv] at z0 hbm1
        have hbvn : bv < p.nb := by omega
        have hgd := HI.out.good
        obtain ⟨gd, hgv⟩ := Int.eq_ofNat_of_zero_le hgd.1
        have HGV : Hid ((lineAt s o l).o = (gd : Int)) := hgv
        have hgdn : gd < p.ns := by omega
        have HAVL : Hid (∀ w', p.At w' → s.At w' → Calls Try.prog 6 #[p.val, s.val, .int .i64 (bv : Int), .int .i64 (gd : Int)] w' fun e w'' => e = .returned (.tuple #[.int .i64 (availZ s bv gd), .int .i64 0]) ∧ Below w'.heap.size w' w'') := fun w' h1 h2 => by
          have h := Avail_any p s bv gd w' h1 h2
          rw [(avail_okA HI.out.st hbvn hgdn).1, (avail_okA HI.out.st hbvn hgdn).2] at h
          exact h
        have avb := avail_bdA HRT.out hbvn hgdn
        have HAV : Hid ((fun b : Int => availZ s b.toNat (lineAt s o l).o.toNat) ((wayT p but).getD k 0) = availZ s bv gd) := by
          show availZ s ((wayT p but).getD k 0).toNat (lineAt s o l).o.toNat = _
          rw [hbv, hgv]
          rfl
        generalize hAVd : availZ s bv gd = AV at *
        clear hAVd
        have ho1 : o < x.os.n := by rw [HX.out.1.os.1]; exact ho
        have ex := HX.out.1.os.2 o ho1
        have hl1 : l < (x.os.z o).ls.n := by rw [ex.2.1]; exact hl
        obtain ⟨gO, BL', f1, f2, f3, f4, f5, f6, f7, f8, f9, f10, f11, f12, f13, f14⟩ := HX.out.2.1.lineCell ho1 hl1
        rw [HX.out.2.2.2.2] at f5
        simp only [Option.some.injEq, Addr.mk.injEq, and_true] at f5
        subst f5
        have hgx : ((x.os.z o).ls.z l).o = (gd : Int) := by
          rw [ex.2.2 l hl1, if_pos ⟨rfl, rfl⟩]
          exact hgv
        have hbx : ((x.os.z o).ls.z l).n = (lineAt s o l).n - (n - T.left) := by
          rw [ex.2.2 l hl1, if_pos ⟨rfl, rfl⟩]
          rfl
        have HBX : Hid (((x.os.z o).ls.z l).n = (lineAt s o l).n - (n - T.left)) := hbx
        have hbl := badLine_no (HRT.out.fm.line o ho l hl)
        have hbk0 : -1000 ≤ ((x.os.z o).ls.z l).n ∧ ((x.os.z o).ls.z l).n ≤ 1000 := by
          rw [hbx]
          have h1 : (lineAt s o l).n = ((s.os.z o).ls.z l).n := rfl
          rw [h1]
          omega
        rw [hgx] at f11
        obtain ⟨⟨⟨l1, d0, d1⟩, l2, c0, c1, c2, c3, c4, c5, c6⟩, hpk, hsk, hBw, hz, kb⟩ := HC.out wr HBk.out
        have HPS : Hid (p.At wr ∧ s.At wr) := ⟨hpk, hsk⟩
        have r0 : ∀ d os, (grow (redrawn wr d) os).cell? ⟨w.heap.size, 0, none⟩ = some (.slice p.ab p.nb p.cb) := fun d os => cell_regrown d0 d os
        have r1 : ∀ d os, (grow (redrawn wr d) os).cell? ⟨w.heap.size, 1, none⟩ = some (.slice p.sa p.ns p.cs) := fun d os => cell_regrown d1 d os
        have rs0 : ∀ d os, (grow (redrawn wr d) os).cell? ⟨w.heap.size + 1, 0, none⟩ = some (.slice s.on.a s.on.n s.on.c) := fun d os => cell_regrown c0 d os
        have rs1 : ∀ d os, (grow (redrawn wr d) os).cell? ⟨w.heap.size + 1, 1, none⟩ = some (.slice s.os.a s.os.n s.os.c) := fun d os => cell_regrown c1 d os
        have rs2 : ∀ d os, (grow (redrawn wr d) os).cell? ⟨w.heap.size + 1, 2, none⟩ = some (.slice s.hs.a s.hs.n s.hs.c) := fun d os => cell_regrown c2 d os
        have rs3 : ∀ d os, (grow (redrawn wr d) os).cell? ⟨w.heap.size + 1, 3, none⟩ = some (.slice s.ms.a s.ms.n s.ms.c) := fun d os => cell_regrown c3 d os
        have rs4 : ∀ d os, (grow (redrawn wr d) os).cell? ⟨w.heap.size + 1, 4, none⟩ = some (.slice s.si.a s.si.n s.si.c) := fun d os => cell_regrown c4 d os
        have rs5 : ∀ d os, (grow (redrawn wr d) os).cell? ⟨w.heap.size + 1, 5, none⟩ = some (.slice s.so.a s.so.n s.so.c) := fun d os => cell_regrown c5 d os
        have rs6 : ∀ d os, (grow (redrawn wr d) os).cell? ⟨w.heap.size + 1, 6, none⟩ = some (.slice s.sf.a s.sf.n s.sf.c) := fun d os => cell_regrown c6 d os
        have rl : ∀ d os, (grow (redrawn wr d) os).cell? ⟨BL, l * 4, none⟩ = some (.int .i64 (gd : Int)) := fun d os => cell_regrown f11 d os
        clear hbv hgv hgd hpk hsk hBw hz kb d0 d1 c0 c1 c2 c3 c4 c5 c6 l1 l2 f1 f2 f3 f4 f6 f8 f9 f10 f11 f12 f13 f14 ex hgx hbx hbl HEND hbm0 hbm1
        obtain ⟨BK, hBK⟩ : ∃ BK, ((x.os.z o).ls.z l).n = BK := ⟨_, rfl⟩
        have HBK : Hid (((x.os.z o).ls.z l).n = BK) := hBK
        rw [hBK] at hbk0
        clear hBK
        obtain ⟨N, hN⟩ : ∃ N, T.left = N := ⟨_, rfl⟩
        have HN : Hid (T.left = N) := hN
        rw [hN] at tl0 tln ⊢
        clear hN
        have q0 : (0 : Int) ≤ (k : Int) := by omega
        have HMZ : Hid (∀ m, min N AV = m → min T.left ((fun b : Int => availZ s b.toNat (lineAt s o l).o.toNat) ((wayT p but).getD k 0)) = m) := fun m h => by rw [HAV.out, HN.out]; exact h
        go_wp2_with fail
        refine wp_region_quiet_below (by kernel_rfl) (by kernel_rfl) ?_
        repeat (go_big_quiet_step ((go_at_call 6; exact Calls.regrown_of (HAVL.out _ (HPS.out.1.below (below_regrown _ _ _)) (HPS.out.2.below (below_regrown _ _ _))))))
        refine wpQuiet_nil ?_
        intro w9 hw9
        have hB9 : Below wr.heap.size wr w9 := by obtain ⟨⟨dq, osq⟩, hw''⟩ := hw9; subst hw''; exact below_regrown _ _ _
        clear hw9 r0 r1 rs0 rs1 rs2 rs3 rs4 rs5 rs6 rl HPS z0 z1 HAVL
        have HBk9 : Hid (Below W0.heap.size W0 w9) := HBk.out.trans (hB9.mono HBk.out.size)
        have HX9 : Hid (Took s o l n T x ∧ OwnS w3.heap.size w9 x ∧ Blk w9 w4.heap.size 31 7 (fun j => x.cells.getD j default) ∧ Blk w9 g 3 (wayT p but).length (fun j => .int .i64 ((wayT p but).getD j 0)) ∧ (x.os.z o).ls.a = some ⟨BL, 0, none⟩) := ⟨HX.out.1, OwnS.below HX.out.2.1 hB9, HX.out.2.2.1.below hB9, HX.out.2.2.2.1.below hB9, HX.out.2.2.2.2⟩
        clear hB9 HX HBk f7
        by_cases hm0 : min AV N = 0
        · have hm1 : min N AV = 0 := by omega
          have HNX : Hid (TakeInv s o l n (fun b => availZ s b.toNat (lineAt s o l).o.toNat) (wayT p but) w3.heap.size w4.heap.size BL g (k + 1) w9 ∧ (Tk.go (fun b => availZ s b.toNat (lineAt s o l).o.toNat) n ((wayT p but).take (k + 1))).left = N) := by
            refine ⟨⟨x, ?_, HX9.out.2⟩, ?_⟩
            · rw [HS1.out]
              exact HX9.out.1.stepZero (HMZ.out 0 hm1)
            · rw [HS1.out]
              show T.left - min T.left _ = N
              rw [HMZ.out 0 hm1, HN.out]
              omega
          go_wp2_with fail
          go_roundw
          case rel => exact ⟨k + 1, by omega, by go_num, by rw [HNX.out.2], HNX.out.1, HBk9⟩
          case measure => simp [intOf]; omega
        · obtain ⟨MV, hMV⟩ : ∃ MV, min AV N = MV := ⟨_, rfl⟩
          have HMV : Hid (min AV N = MV) := hMV
          have mv0 : 0 < MV := by omega
          have mv1 : MV ≤ N := by omega
          have mvd : (MV == 0) = false := by simp; omega
          have HM1 : Hid (min N AV = MV) := by show min N AV = MV; omega
          have HAE : Hid (addE x.hs.n x.hs.z (tookH o l bv MV) = 0) := by
            have h := HX9.out.1.addE (p := p) (order := o) (line := l) (but := but) HI.out (fun x hx => HI.out.way x (List.mem_of_mem_take hx)) HTK.out (b := (bv : Int)) ⟨by omega, by omega⟩ mv0 (by rw [HN.out]; exact mv1)
            exact h
          have KX := HX9.out.2.2.1
          have y2 : w9.cell? ⟨w4.heap.size, 2, none⟩ = some (.slice x.hs.a x.hs.n x.hs.c) := KX.cell (j := 2) (by decide)
          have y3 := KX.lt
          have HAD : Hid (Calls Try.prog 70 #[.slice x.hs.a x.hs.n x.hs.c, .agg #[.int .i64 (o : Int), .int .i64 (l : Int), .int .i64 (bv : Int), .int .i64 MV]] w9 fun e w' => ∃ s' : Hs, e = .returned (.tuple #[s'.val, .int .i64 0]) ∧ OwnH w9.heap.size 54 w' s' ∧ AddOK x.hs.n x.hs.z (tookH o l bv MV) s' ∧ Below w9.heap.size w9 w') := by
            have h := AddOwn_any x.hs (tookH o l bv MV) w9 HX9.out.2.1.hs.at
            rw [HAE.out] at h
            exact h
          clear KX hm0 HMV
          go_wp2_with fail
          refine HAD.out.mono ?_
          rintro e wa ⟨y, rfl, yown, yok, hBa⟩
          clear y2 y3 HAD hMV
          have q9 := HBk9.out.size
          have qa := hBa.size
          obtain ⟨b1, b2, b3, b4, b5⟩ := HB5.out
          have hOa := OwnS.below HX9.out.2.1 hBa
          have KA := HX9.out.2.2.1.below hBa
          have FA := HX9.out.2.2.2.1.below hBa
          have hBka := HBk9.out.trans (hBa.mono HBk9.out.size)
          have hlt9 := HX9.out.2.2.1.lt
          have ho1 : o < x.os.n := by rw [HX9.out.1.os.1]; exact ho
          have hOb := (hOa.withHolds (yown.mono (by omega))).box KA 2 (.slice y.a y.n y.c)
          have KB := KA.set 2 (.slice y.a y.n y.c)
          have FB := FA.other (a := ⟨w4.heap.size, 2, none⟩) (Blk.ne2 FA KA (by decide)) (.slice y.a y.n y.c)
          have hBb := hBka.setCell (p := ⟨w4.heap.size, 2, none⟩) (by show W0.heap.size ≤ w4.heap.size; omega) (.slice y.a y.n y.c)
          have hl1 : l < (x.os.z o).ls.n := by rw [(HX9.out.1.os.2 o ho1).2.1]; exact hl
          obtain ⟨gO, BL', f1, f2, f3, f4, f5, f6, f7, f8, f9, f10, f11, f12, f13, f14⟩ := hOb.lineCell (o := o) (l := l) ho1 hl1
          have f5' : (x.os.z o).ls.a = some ⟨BL', 0, none⟩ := f5
          rw [HX9.out.2.2.2.2] at f5'
          simp only [Option.some.injEq, Addr.mk.injEq, and_true] at f5'
          subst f5'
          have f14' : (wa.setCell ⟨w4.heap.size, 2, none⟩ (.slice y.a y.n y.c)).cell? ⟨BL, l * 4 + 3, none⟩ = some (.int .i64 ((x.os.z o).ls.z l).n) := f14
          rw [HBK.out] at f14'
          have g14 := f10 (l * 4 + 3)
          obtain ⟨B', hla', -, -, -, hlb⟩ := hOb.os.lines o ho1
          rw [f5] at hla'
          simp only [Option.some.injEq, Addr.mk.injEq, and_true] at hla'
          subst hla'
          have hOc := hOb.setLine (o := o) ho1 f5 l 3 (by decide) (BK - MV)
          have KC := KB.other (a := ⟨BL, l * 4 + 3, none⟩) (Blk.ne2 KB hlb (by decide)) (.int .i64 (BK - MV))
          have FC := FB.other (a := ⟨BL, l * 4 + 3, none⟩) (Blk.ne2 FB hlb (by decide)) (.int .i64 (BK - MV))
          have hBc := hBb.setCell (p := ⟨BL, l * 4 + 3, none⟩) (by show W0.heap.size ≤ BL; omega) (.int .i64 (BK - MV))
          have hTn := HX9.out.1.stepAdd (av := fun b => availZ s b.toNat (lineAt s o l).o.toNat) (order := o) (line := l) (b := (wayT p but).getD k 0) (m := MV) ho hl (HMZ.out MV HM1.out) (by rw [HBV.out]; exact HAE.out) (by rw [HBV.out]; exact yok)
          have HNX : Hid (TakeInv s o l n (fun b => availZ s b.toNat (lineAt s o l).o.toNat) (wayT p but) w3.heap.size w4.heap.size BL g (k + 1) ((wa.setCell ⟨w4.heap.size, 2, none⟩ (.slice y.a y.n y.c)).setCell ⟨BL, l * 4 + 3, none⟩ (.int .i64 (BK - MV))) ∧ (Tk.go (fun b => availZ s b.toNat (lineAt s o l).o.toNat) n ((wayT p but).take (k + 1))).left = N - MV ∧ Below W0.heap.size W0 ((wa.setCell ⟨w4.heap.size, 2, none⟩ (.slice y.a y.n y.c)).setCell ⟨BL, l * 4 + 3, none⟩ (.int .i64 (BK - MV)))) := by
            refine ⟨⟨withHolds (setLine x o l 3 (BK - MV)) y, ?_, hOc, KC.congr (fun j hj => by match j, hj with | 0, _ => rfl | 1, _ => rfl | 2, _ => rfl | 3, _ => rfl | 4, _ => rfl | 5, _ => rfl | 6, _ => rfl), FC, ?_⟩, ?_, hBc⟩
            · rw [HS1.out]
              have h := hTn
              rw [show ((x.os.z ((o : Nat) : Int).toNat).ls.z ((l : Nat) : Int).toNat).n = BK from HBK.out] at h
              exact h
            · exact ((setLine_n (s := x) (o := o) (l := l) (c := 3) (v := BK - MV) o).2.1).trans HX9.out.2.2.2.2
            · rw [HS1.out]
              show T.left - min T.left _ = N - MV
              rw [HMZ.out MV HM1.out, HN.out]
          have z1 := KA.lt
          have z2 := KA.frozen 2
          have z3 := KA.cell (j := 2) (by decide)
          clear hOa KA FA hBka hOb KB FB hBb f1 f2 f3 f4 f5 f6 f8 f9 f10 f11 f12 f13 f14 hlb hOc KC FC hBc hTn yown yok hBa HX9 HBk9 HTK HS1
          simp only [Hs.val]
          go_wp2_with fail
          go_roundw
          case rel => exact ⟨k + 1, by omega, by go_num, by rw [HNX.out.2.1], HNX.out.1, HNX.out.2.2⟩
          case measure => simp [intOf]; omega
      · have hkn : k = (wayT p but).length := by omega
        have HT : Hid (T = tkOf p s (lineAt s o l).o n but) := HEND.out hkn
        clear HEND
        have KX := HX.out.2.2.1
        obtain ⟨m1, p0, p1, p2, p3, p4, p5, p6⟩ := Boxed.of KX
        obtain ⟨-, -, -, hBw, hz, -⟩ := HC.out wr HBk.out
        have HZ : Hid (Below w.heap.size w wr ∧ Blk wr (w.heap.size + 3) 31 7 (fun _ => .slice .none 0 0)) := ⟨hBw, hz⟩
        have zl := hz.lt
        have zf0 := hz.frozen 0
        have zc0 := hz.cell (j := 0) (by decide)
        have zf1 := hz.frozen 1
        have zc1 := hz.cell (j := 1) (by decide)
        have zf2 := hz.frozen 2
        have zc2 := hz.cell (j := 2) (by decide)
        have zf3 := hz.frozen 3
        have zc3 := hz.cell (j := 3) (by decide)
        have zf4 := hz.frozen 4
        have zc4 := hz.cell (j := 4) (by decide)
        have zf5 := hz.frozen 5
        have zc5 := hz.cell (j := 5) (by decide)
        have zf6 := hz.frozen 6
        have zc6 := hz.cell (j := 6) (by decide)
        clear KX hBw hz
        go_wp2_with fail
        have KZ := set7_blk HZ.out.2 (.slice x.on.a x.on.n x.on.c) (.slice x.os.a x.os.n x.os.c) (.slice x.hs.a x.hs.n x.hs.c) (.slice x.ms.a x.ms.n x.ms.c) (.slice x.si.a x.si.n x.si.c) (.slice x.so.a x.so.n x.so.c) (.slice x.sf.a x.sf.n x.sf.c)
        have hbz := set7_below (b := w.heap.size + 3) HZ.out.1 (by omega) (.slice x.on.a x.on.n x.on.c) (.slice x.os.a x.os.n x.os.c) (.slice x.hs.a x.hs.n x.hs.c) (.slice x.ms.a x.ms.n x.ms.c) (.slice x.si.a x.si.n x.si.c) (.slice x.so.a x.so.n x.so.c) (.slice x.sf.a x.sf.n x.sf.c)
        have hOz := OwnS.set7 HX.out.2.1 HZ.out.2 (.slice x.on.a x.on.n x.on.c) (.slice x.os.a x.os.n x.os.c) (.slice x.hs.a x.hs.n x.hs.c) (.slice x.ms.a x.ms.n x.ms.c) (.slice x.si.a x.si.n x.si.c) (.slice x.so.a x.so.n x.so.c) (.slice x.sf.a x.sf.n x.sf.c)
        unfold set7 at KZ hbz hOz
        obtain ⟨c0', c1', c2', c3', c4', c5', c6'⟩ := box_cells KZ
        refine bodyPost_ret (v := .tuple #[x.val, .int .i64 T.left, .int .i64 0]) (by simp [results, Try.results38, go_sem, St.val, c0', c1', c2', c3', c4', c5', c6']) rfl ?_
        have HL : allocL p s o l n but = T.left := by rw [HT.out]; exact if_pos HE.out
        refine ⟨x, by rw [HL, HE.out]; rfl, hOz.at, ⟨fun _ => ?_, fun h => absurd HE.out h⟩, fun _ => hOz.mono ?_, hbz⟩
        · rw [← HT.out]; exact HX.out.1
        · have := (HC.out _ HB5.out.1).2.2.2.1.size
          have := HB5.out.2.1
          omega
  · have HX : Hid (allocL p s order line n but = 0) := if_neg hE
    clear c0 c1 c2 c3 c4 c5 c6 hpk hsk kb
    have zl := hz.lt
    have zf0 := hz.frozen 0
    have zc0 := hz.cell (j := 0) (by decide)
    have zf1 := hz.frozen 1
    have zc1 := hz.cell (j := 1) (by decide)
    have zf2 := hz.frozen 2
    have zc2 := hz.cell (j := 2) (by decide)
    have zf3 := hz.frozen 3
    have zc3 := hz.cell (j := 3) (by decide)
    have zf4 := hz.frozen 4
    have zc4 := hz.cell (j := 4) (by decide)
    have zf5 := hz.frozen 5
    have zc5 := hz.cell (j := 5) (by decide)
    have zf6 := hz.frozen 6
    have zc6 := hz.cell (j := 6) (by decide)
    go_wp2_with fail
    have KZ := set7_blk hz (.slice .none 0 0) (.slice .none 0 0) (.slice .none 0 0) (.slice .none 0 0) (.slice .none 0 0) (.slice .none 0 0) (.slice .none 0 0)
    have hbz := set7_below (b := w.heap.size + 3) hBw (by omega) (.slice .none 0 0) (.slice .none 0 0) (.slice .none 0 0) (.slice .none 0 0) (.slice .none 0 0) (.slice .none 0 0) (.slice .none 0 0)
    unfold set7 at KZ hbz
    obtain ⟨c0', c1', c2', c3', c4', c5', c6'⟩ := box_cells KZ
    refine bodyPost_ret (v := .tuple #[noneS.val, .int .i64 0, .int .i64 (allocE p s order line n but)]) (by simp [results, Try.results38, go_sem, noneS, St.val, c0', c1', c2', c3', c4', c5', c6']) rfl ?_
    exact ⟨noneS, by rw [HX.out]; rfl, noneS_at _, ⟨fun h => absurd h hE, fun _ => ⟨rfl, rfl, rfl, rfl, rfl, rfl, rfl⟩⟩, fun h => absurd h hE, hbz⟩
end Go.Proofs.Ytbcacebifpagpaf
namespace Go.Proofs.Ytbcacebifpagpaf
open Go.RowKit Go.Shelf Go.Sort
set_option linter.unusedVariables false
theorem Kept_rightW (s : Hs) (o l : Int) (w : World) (hs : s.At w) (hr : anyB s.n (badH s.z) = false) :
    Calls Try.prog 30 #[.slice s.a s.n s.c, .int .i64 o, .int .i64 l] w fun e w' => e = .returned (.tuple #[.int .i64 (keptS s.z o l s.n), .int .i64 0]) ∧ Below w.heap.size w w' := by
  have h := Kept_any s o l w hs
  have e : checkH s.n s.z = 0 := checkH_right hr
  rw [if_pos e, e] at h
  exact h
theorem Check_rightW (p : Pl) (s : St) (w : World) (hp : p.At w) (hs : s.At w) (h : stateE p s = 0) :
    Calls Try.prog 18 #[.agg #[.slice p.ab p.nb p.cb, .slice p.sa p.ns p.cs], .agg #[.slice s.on.a s.on.n s.on.c, .slice s.os.a s.os.n s.os.c, .slice s.hs.a s.hs.n s.hs.c, .slice s.ms.a s.ms.n s.ms.c, .slice s.si.a s.si.n s.si.c, .slice s.so.a s.so.n s.so.c, .slice s.sf.a s.sf.n s.sf.c]] w fun e w' => e = .returned (.int .i64 0) ∧ Below w.heap.size w w' := by
  have k := stateCheck_any p s w hp hs
  rw [h] at k
  exact k
end Go.Proofs.Ytbcacebifpagpaf
namespace Go.Proofs.Ytbcacebifpagpaf
open Go.RowKit Go.Shelf Go.Sort
set_option linter.unusedVariables false
set_option maxRecDepth 100000 in
set_option maxHeartbeats 8000000 in
theorem Totals_any (p : Pl) (s : St) (w : World) (hp : p.At w) (hs : s.At w) :
    Calls Try.prog 10 #[p.val, s.val] w fun e w' => ∃ h : Hs, e = .returned (.tuple #[.slice h.a h.n h.c, .int .i64 (stateE p s)]) ∧ h.At w' ∧ (stateE p s = 0 → h.n = p.ns ∧ ∀ g, g < p.ns → h.z g = totT s g) ∧ (¬ stateE p s = 0 → h.n = 0) ∧ Below w.heap.size w w' := by
  obtain ⟨W0, hW, hWB, X0⟩ : ∃ W, ((w.alloc (.cells #[.slice p.ab p.nb p.cb, .slice p.sa p.ns p.cs] 25)).alloc (.cells s.cells 31)) = W ∧ Below w.heap.size w W ∧ Boxes W w.heap.size (w.heap.size + 1) p s := ⟨_, rfl, two_below _ _ _, boxes_new w p s _ _⟩
  have HC : Hid (∀ wk, Below W0.heap.size W0 wk → Boxes wk w.heap.size (w.heap.size + 1) p s ∧ p.At wk ∧ s.At wk ∧ Below w.heap.size w wk) := fun wk h => ⟨X0.below h, (hp.below hWB).below h, (hs.below hWB).below h, hWB.trans (h.mono hWB.size)⟩
  have HW : Hid ((w.alloc (.cells #[.slice p.ab p.nb p.cb, .slice p.sa p.ns p.cs] 25)).alloc (.cells #[.slice s.on.a s.on.n s.on.c, .slice s.os.a s.os.n s.os.c, .slice s.hs.a s.hs.n s.hs.c, .slice s.ms.a s.ms.n s.ms.c, .slice s.si.a s.si.n s.si.c, .slice s.so.a s.so.n s.so.c, .slice s.sf.a s.sf.n s.sf.c] 31) = W0) := hW
  have osl := hs.os.le
  have osc := hs.os.cap
  unfold maxLen at osc
  clear hW X0 hp hs
  unfold Pl.val St.val
  go_enter Try.func10, Try.ntmps10
  go_wp2_with fail
  rw [HW.out]
  refine (stateCheck_any p s W0 (HC.out W0 (Below.refl _ _)).2.1 (HC.out W0 (Below.refl _ _)).2.2.1).mono ?_
  rintro e w1 ⟨rfl, hB⟩
  clear HW
  obtain ⟨⟨⟨l1, d0, d1⟩, l2, c0, c1, c2, c3, c4, c5, c6⟩, -, -, hBw⟩ := HC.out w1 hB
  by_cases h0 : stateE p s = 0
  · have HR : Hid (RightT p s) := rightT h0
    have H0 : Hid (stateE p s = 0) := h0
    have ns3 := HR.out.fm.sh.pl.ns3
    have ns1 := HR.out.fm.sh.pl.ns1
    have os4 := HR.out.fm.os4
    obtain ⟨iT, hT, hT0, hT1, hT2⟩ := info_parts infoTot
    rw [h0]
    have hA1 : W0.heap.size ≤ w1.heap.size := hB.size
    clear h0 hBw
    go_wp2_with (at_make; refine wpList_make_full _ rfl _ _ 42 rfl w1.heap.size 50 iT (.agg #[.int .i64 0, .int .i64 0, .int .i64 0, .int .i64 0]) 4 Try.underlying42 hT hT0 hT1 .i64 .i64 _ _ p.ns rfl rfl rfl rfl (by rw [hT2]; omega) (by unfold maxLen; omega) (Nat.le_refl _) ?_; intro w2 hown hgrow)
    have HB2 : Hid (Below W0.heap.size W0 w2) := hB.grown hgrow hB.size (by intro k hk; cases hk)
    obtain ⟨BT, c', hv, _, _, hBT, hblk⟩ := Blk.ofOwns hown (by simp)
    simp only [Value.slice.injEq, Option.some.injEq, Addr.mk.injEq, and_true] at hv
    obtain ⟨hv, -, -⟩ := hv
    have HK2 : Hid (Blk w2 BT 50 (p.ns * 4) (hc (fun g => if g < 0 then (⟨sumTo (fun i => (s.on.r i).z g) s.on.n, 0, 0, 0⟩ : Hd) else hd0))) := (hblk.congr (fun j hj => made4 hj)).cong4 (fun j _ => by rw [if_neg (by omega)])
    rw [hv]
    have hA2 : W0.heap.size ≤ BT := by omega
    clear hown hgrow hblk hv hB hBT l1 d0 d1 l2 c0 c1 c2 c3 c4 c5 c6
    go_loopw [28] (fun kv wk => ∃ k : Nat, k ≤ p.ns ∧ kv = .int .i64 k ∧ Hid (Blk wk BT 50 (p.ns * 4) (hc (fun g => if g < k then (⟨sumTo (fun i => (s.on.r i).z g) s.on.n, 0, 0, 0⟩ : Hd) else hd0))) ∧ Hid (Below W0.heap.size W0 wk)) (fun kv _ => p.ns - (intOf kv).toNat)
    case atStart => exact ⟨0, Nat.zero_le _, rfl, HK2, HB2⟩
    case round =>
      clear HK2 HB2
      obtain ⟨k, hk, rfl, HK, HB⟩ := hrel
      obtain ⟨⟨⟨l1, d0, d1⟩, l2, c0, c1, c2, c3, c4, c5, c6⟩, hpk, hsk, -⟩ := HC.out wr HB.out
      by_cases hlt : k < p.ns
      · have q0 : (0 : Int) ≤ (k : Int) := by omega
        have q1 : (k : Int) < (p.ns : Int) := by omega
        have HCS : Hid (Calls Try.prog 29 #[.agg #[.slice p.ab p.nb p.cb, .slice p.sa p.ns p.cs], .slice s.on.a s.on.n s.on.c, .int .i64 (k : Int)] wr fun e w' => e = .returned (.tuple #[.int .i64 (sumTo (fun i => (s.on.r i).z k) s.on.n), .int .i64 0]) ∧ Below wr.heap.size wr w') := Sum_rightW p s k wr hpk hsk HR.out hlt
        clear hpk hsk
        go_wp2_with fail
        refine Calls.mono HCS.out ?_
        rintro e w3 ⟨rfl, hB3⟩
        have HK3 : Hid (Blk w3 BT 50 (p.ns * 4) (hc (fun g => if g < k then (⟨sumTo (fun i => (s.on.r i).z g) s.on.n, 0, 0, 0⟩ : Hd) else hd0))) := HK.out.below hB3
        have HB3 : Hid (Below W0.heap.size W0 w3) := HB.out.trans (hB3.mono HB.out.size)
        have z1 := HK3.out.lt
        have z2 := HK3.out.frozen (k * 4)
        have z3 := HK3.out.cell (j := k * 4) (by omega)
        have HK4 : Hid (Blk (w3.setCell ⟨BT, k * 4, none⟩ (.int .i64 (sumTo (fun i => (s.on.r i).z k) s.on.n))) BT 50 (p.ns * 4) (hc (fun g => if g < (k + 1) then (⟨sumTo (fun i => (s.on.r i).z g) s.on.n, 0, 0, 0⟩ : Hd) else hd0))) := (HK3.out.setF k 0 (by decide) (sumTo (fun i => (s.on.r i).z k) s.on.n)).cong4 (fun j _ => by
          by_cases hj : j = k
          · rw [if_pos hj, if_neg (by omega), if_pos (by omega), hj]; rfl
          · rw [if_neg hj]
            by_cases hj2 : j < k
            · rw [if_pos hj2, if_pos (by omega)]
            · rw [if_neg hj2, if_neg (by omega)])
        have HB4 : Hid (Below W0.heap.size W0 (w3.setCell ⟨BT, k * 4, none⟩ (.int .i64 (sumTo (fun i => (s.on.r i).z k) s.on.n)))) := HB3.out.setCell (p := ⟨BT, k * 4, none⟩) hA2 _
        generalize sumTo (fun i => (s.on.r i).z k) s.on.n = SM at *
        clear hB3 HK3 HB3 HCS l1 d0 d1 l2 c0 c1 c2 c3 c4 c5 c6 HK HB
        go_wp2_with fail
        go_roundw
        case rel => exact ⟨k + 1, by omega, by go_num, HK4, HB4⟩
        case measure => simp [intOf]; omega
      · have q1 : (p.ns : Int) ≤ (k : Int) := by omega
        have HK5 : Hid (Blk wr BT 50 (p.ns * 4) (hc (fun g => ordT s g 0))) := HK.out.cong4 (fun j hj => by rw [if_pos (by omega)]; rfl)
        clear hpk hsk HK
        go_wp2_with fail
        have HBX : Hid (Below W0.heap.size W0 wr) := HB.out
        clear l1 d0 d1 l2 c0 c1 c2 c3 c4 c5 c6 HB
        go_loopw [47] (fun iv wk => ∃ i : Nat, i ≤ s.os.n ∧ iv = .int .i64 i ∧ Hid (Blk wk BT 50 (p.ns * 4) (hc (fun g => ordT s g i))) ∧ Hid (Below W0.heap.size W0 wk)) (fun iv _ => s.os.n - (intOf iv).toNat)
        case atStart => exact ⟨0, Nat.zero_le _, rfl, HK5, HBX⟩
        case round =>
          clear HK5 HBX
          obtain ⟨i, hi, rfl, HK, HB⟩ := hrel
          obtain ⟨-, -, hsk, hBw⟩ := HC.out wr HB.out
          by_cases hil : i < s.os.n
          · have q2 : (0 : Int) ≤ (i : Int) := by omega
            have q3 : (i : Int) < (s.os.n : Int) := by omega
            obtain ⟨bo, oo, hoa, hbo, z0, z1, hlk⟩ := hsk.os.ods i hil
            have ln3 := (HR.out.fm.lns i hil).2
            have HLE : Hid (Hs.At wr (s.os.z i).ls) := hlk
            have lle := hlk.le
            have lcp := hlk.cap
            unfold maxLen at lcp
            obtain ⟨W4, hW4, hWB4⟩ : ∃ W, wr.alloc (.cells #[.int .i64 (s.os.z i).k, .slice (s.os.z i).ls.a (s.os.z i).ls.n (s.os.z i).ls.c] 58) = W ∧ Below wr.heap.size wr W := ⟨_, rfl, (Below.refl _ _).alloc (Nat.le_refl _) _⟩
            have HW4 : Hid (wr.alloc (.cells #[.int .i64 (s.os.z i).k, .slice (s.os.z i).ls.a (s.os.z i).ls.n (s.os.z i).ls.c] 58) = W4) := hW4
            have HK4 : Hid (Blk W4 BT 50 (p.ns * 4) (hc (fun g => lineT s i g 0 (ordT s g i)))) := HK.out.below hWB4
            have HB4 : Hid (Below W0.heap.size W0 W4) := HB.out.trans (hWB4.mono HB.out.size)
            have HOA : Hid (s.os.a = some ⟨bo, oo, none⟩) := hoa
            rw [hoa]
            clear hoa hW4 hWB4 hsk hlk
            go_wp2_with fail
            rw [HW4.out]
            clear hbo z0 z1 HW4 HK HB hBw
            generalize wr.heap.size = BO at *
            go_loopw [55] (fun jv wk => ∃ j : Nat, j ≤ (s.os.z i).ls.n ∧ jv = .int .i64 j ∧ Hid (Blk wk BT 50 (p.ns * 4) (hc (fun g => lineT s i g j (ordT s g i)))) ∧ Hid (Below W0.heap.size W0 wk)) (fun jv _ => (s.os.z i).ls.n - (intOf jv).toNat)
            case atStart => exact ⟨0, Nat.zero_le _, rfl, HK4, HB4⟩
            case round =>
              clear HK4 HB4
              obtain ⟨j, hj, rfl, HK, HB⟩ := hrel
              obtain ⟨⟨⟨l1, d0, d1⟩, l2, c0, c1, c2, c3, c4, c5, c6⟩, -, hsk, -⟩ := HC.out wr HB.out
              by_cases hjl : j < (s.os.z i).ls.n
              · have q4 : (0 : Int) ≤ (j : Int) := by omega
                have q5 : (j : Int) < ((s.os.z i).ls.n : Int) := by omega
                obtain ⟨_, _, _, _, _, _, hlk⟩ := hsk.os.ods i hil
                obtain ⟨bl, ol, hla, hbl, y0, y1, y2, y3⟩ := hlk.hds j hjl
                obtain ⟨⟨zo1, zo2⟩, ⟨zl1, zl2⟩, ⟨zb1, zb2⟩, zn1, zn2⟩ := badLine_no (HR.out.fm.line i hil j hjl)
                obtain ⟨ZL, hZL⟩ : ∃ Z, (s.os.z i).ls.z j = Z := ⟨_, rfl⟩
                have HZL : Hid ((s.os.z i).ls.z j = ZL) := hZL
                rw [hZL] at y0 y1 y2 y3 zo1 zo2 zl1 zl2 zb1 zb2 zn1 zn2
                obtain ⟨gd, hgd⟩ : ∃ gd : Nat, ZL.o = gd := ⟨ZL.o.toNat, by omega⟩
                have HGD : Hid (ZL.o = (gd : Int)) := hgd
                have hgn : gd < p.ns := by omega
                rw [hgd] at y0
                have HKE : Hid (Hs.At wr s.hs) := hsk.hs
                obtain ⟨W6, hW6, hWB6, K6⟩ : ∃ W, wr.alloc (.cells #[.int .i64 (gd : Int), .int .i64 ZL.l, .int .i64 ZL.b, .int .i64 ZL.n] 60) = W ∧ Below wr.heap.size wr W ∧ Blk W wr.heap.size 60 4 (fun q => (#[.int .i64 (gd : Int), .int .i64 ZL.l, .int .i64 ZL.b, .int .i64 ZL.n] : Array Value).getD q default) := ⟨_, rfl, (Below.refl _ _).alloc (Nat.le_refl _) _, Blk.mk' rfl rfl⟩
                have HW6 : Hid (wr.alloc (.cells #[.int .i64 (gd : Int), .int .i64 ZL.l, .int .i64 ZL.b, .int .i64 ZL.n] 60) = W6) := hW6
                have HL6 : Hid (Blk W6 wr.heap.size 60 4 (fun q => (#[.int .i64 (gd : Int), .int .i64 ZL.l, .int .i64 ZL.b, .int .i64 ZL.n] : Array Value).getD q default)) := K6
                have HK6 : Hid (Blk W6 BT 50 (p.ns * 4) (hc (fun g => lineT s i g j (ordT s g i)))) := HK.out.below hWB6
                have HB6 : Hid (Below W0.heap.size W0 W6) := HB.out.trans (hWB6.mono HB.out.size)
                have HH6 : Hid (Hs.At W6 s.hs) := HKE.out.below hWB6
                rw [hla]
                have HLA : Hid ((s.os.z i).ls.a = some ⟨bl, ol, none⟩) := hla
                clear hla hlk hsk hZL hgd hW6 hWB6 K6 HKE
                go_wp2_with fail
                rw [HW6.out]
                clear hbl y0 y1 y2 y3 HW6 HK HB l1 d0 d1 l2 c0 c1 c2 c3 c4 c5 c6
                generalize wr.heap.size = BL at *
                refine Calls.mono (Kept_rightW s.hs i j W6 HH6.out HR.out.fm.hold) ?_
                rintro e w7 ⟨rfl, hB7⟩
                have HK7 : Hid (Blk w7 BT 50 (p.ns * 4) (hc (fun g => lineT s i g j (ordT s g i)))) := HK6.out.below hB7
                have HL7 : Hid (Blk w7 BL 60 4 (fun q => (#[.int .i64 (gd : Int), .int .i64 ZL.l, .int .i64 ZL.b, .int .i64 ZL.n] : Array Value).getD q default)) := HL6.out.below hB7
                have HB7 : Hid (Below W0.heap.size W0 w7) := HB6.out.trans (hB7.mono HB6.out.size)
                clear hB7 HK6 HL6 HB6 HH6
                have kb := keptS_bd (z := s.hs.z) i j s.hs.n fun q hq => (fineH_true (right_fine HR.out.fm.hold q hq)).2.2.2
                have h72 := HR.out.fm.hs72
                have HTL : Hid (TotLe (lineT s i gd j (ordT s gd i)) (43200 * i + 14400 * j)) := lineT_le HR.out.fm hil (ordT_le HR.out.fm (by omega)) hj
                have HAD : Hid (∀ g, addT (lineT s i g j (ordT s g i)) ZL (keptS s.hs.z i j s.hs.n) g = lineT s i g (j + 1) (ordT s g i)) := fun g => by show _ = addT _ ((s.os.z i).ls.z j) _ g; rw [HZL.out]
                generalize keptS s.hs.z i j s.hs.n = KP at *
                obtain ⟨T0, hT0⟩ : ∃ T, lineT s i gd j (ordT s gd i) = T := ⟨_, rfl⟩
                have HT0 : Hid (lineT s i gd j (ordT s gd i) = T0) := hT0
                rw [hT0] at HTL
                obtain ⟨⟨tl1, tl2⟩, ⟨tb1, tb2⟩, tn1, tn2⟩ := HTL.out
                clear hT0 HTL
                have z1 := HK7.out.lt
                have z2 := HK7.out.frozen (gd * 4 + 1)
                have z3 : w7.cell? ⟨BT, gd * 4 + 1, none⟩ = some (.int .i64 T0.l) := by
                  rw [HK7.out.cell (j := gd * 4 + 1) (by omega), (hc_at _ gd).2.1, HT0.out]
                have z4 : w7.cell? ⟨BL, 0, none⟩ = some (.int .i64 (gd : Int)) := HL7.out.cell (j := 0) (by decide)
                have z5 := HL7.out.lt
                have g0 : (0 : Int) ≤ (gd : Int) := by omega
                have g1 : (gd : Int) < (p.ns : Int) := by omega
                have HK8 : Hid (Blk (w7.setCell ⟨BT, gd * 4 + 1, none⟩ (.int .i64 (T0.l + KP))) BT 50 (p.ns * 4) (hc (fun g => if g = gd then setHd (lineT s i g j (ordT s g i)) 1 (T0.l + KP) else lineT s i g j (ordT s g i)))) := HK7.out.setF gd 1 (by decide) (T0.l + KP)
                have HL8 : Hid (Blk (w7.setCell ⟨BT, gd * 4 + 1, none⟩ (.int .i64 (T0.l + KP))) BL 60 4 (fun q => (#[.int .i64 (gd : Int), .int .i64 ZL.l, .int .i64 ZL.b, .int .i64 ZL.n] : Array Value).getD q default)) := HL7.out.other (a := ⟨BT, gd * 4 + 1, none⟩) (Blk.ne2 HL7.out HK7.out (by decide)) _
                have HB8 : Hid (Below W0.heap.size W0 (w7.setCell ⟨BT, gd * 4 + 1, none⟩ (.int .i64 (T0.l + KP)))) := HB7.out.setCell (p := ⟨BT, gd * 4 + 1, none⟩) hA2 _
                clear HK7 HL7 HB7
                go_wp2_with fail
                clear z1 z2 z3 z4 z5
                generalize (w7.setCell ⟨BT, gd * 4 + 1, none⟩ (.int .i64 (T0.l + KP))) = W8 at *
                have u1 : W8.cell? ⟨BT, gd * 4 + 2, none⟩ = some (.int .i64 T0.b) := by
                  rw [HK8.out.cell (j := gd * 4 + 2) (by omega), (hc_at _ gd).2.2.1, if_pos rfl, HT0.out]
                  rfl
                have u2 : W8.cell? ⟨BL, 3, none⟩ = some (.int .i64 ZL.n) := HL8.out.cell (j := 3) (by decide)
                have u3 := HK8.out.lt
                have u4 := HL8.out.lt
                have ru1 := fun d os => cell_regrown u1 d os
                have ru2 := fun d os => cell_regrown u2 d os
                clear u1 u2
                refine wp_region_ph [(true, [0, 1, 2, 3, 4, 5, 6, 7, 8], some 9)] (by kernel_rfl) (by kernel_rfl) (by kernel_rfl) (by kernel_rfl) (by kernel_rfl) ?_
                refine ⟨fun w' => ∃ p : Regrown, w' = grow (redrawn W8 p.d) p.os, regrown_of_below ((Below.refl _ _).drew), fun h => (by cases h), ?_⟩
                simp only [picks, List.drop_succ_cons, List.drop_zero, List.take_succ_cons, List.take_zero, List.cons_append, List.nil_append]
                repeat (go_big_quiet_step (fail))
                refine wpQuiet_nil ?_
                clear ru1 ru2 u3 u4
                have hBd : Below W8.heap.size W8 W8.drew := (Below.refl _ _).drew
                generalize W8.drew = wj at *
                have HKj : Hid (Blk wj BT 50 (p.ns * 4) (hc (fun g => if g = gd then setHd (lineT s i g j (ordT s g i)) 1 (T0.l + KP) else lineT s i g j (ordT s g i)))) := HK8.out.below hBd
                have HLj : Hid (Blk wj BL 60 4 (fun q => (#[.int .i64 (gd : Int), .int .i64 ZL.l, .int .i64 ZL.b, .int .i64 ZL.n] : Array Value).getD q default)) := HL8.out.below hBd
                have HBj : Hid (Below W0.heap.size W0 wj) := HB8.out.trans (hBd.mono HB8.out.size)
                have b1 := HKj.out.lt
                have b2 := HKj.out.frozen (gd * 4 + 2)
                have b3 := HKj.out.cell (j := gd * 4 + 2) (by omega)
                have HK9 : Hid (Blk (wj.setCell ⟨BT, gd * 4 + 2, none⟩ (.int .i64 (T0.b + ZL.n))) BT 50 (p.ns * 4) (hc (fun g => if g = gd then setHd (setHd (lineT s i g j (ordT s g i)) 1 (T0.l + KP)) 2 (T0.b + ZL.n) else lineT s i g j (ordT s g i)))) := (HKj.out.setF gd 2 (by decide) (T0.b + ZL.n)).cong4 (fun q _ => by
                  by_cases hq : q = gd
                  · rw [if_pos hq, if_pos hq, if_pos hq]
                  · rw [if_neg hq, if_neg hq, if_neg hq])
                have HL9 : Hid (Blk (wj.setCell ⟨BT, gd * 4 + 2, none⟩ (.int .i64 (T0.b + ZL.n))) BL 60 4 (fun q => (#[.int .i64 (gd : Int), .int .i64 ZL.l, .int .i64 ZL.b, .int .i64 ZL.n] : Array Value).getD q default)) := HLj.out.other (a := ⟨BT, gd * 4 + 2, none⟩) (Blk.ne2 HLj.out HKj.out (by decide)) _
                have HB9 : Hid (Below W0.heap.size W0 (wj.setCell ⟨BT, gd * 4 + 2, none⟩ (.int .i64 (T0.b + ZL.n)))) := HBj.out.setCell (p := ⟨BT, gd * 4 + 2, none⟩) hA2 _
                clear hBd HKj HLj HBj HK8 HL8 HB8
                refine wpOp_one 9 rfl ?_
                go_wp2_with fail
                refine NoPanic.normal ?_
                clear b1 b2 b3
                generalize wj.setCell ⟨BT, gd * 4 + 2, none⟩ (.int .i64 (T0.b + ZL.n)) = W9 at *
                go_wp2_with fail
                have u1 : W9.cell? ⟨BT, gd * 4 + 3, none⟩ = some (.int .i64 T0.n) := by
                  rw [HK9.out.cell (j := gd * 4 + 3) (by omega), (hc_at _ gd).2.2.2, if_pos rfl, HT0.out]
                  rfl
                have u2 : W9.cell? ⟨BL, 2, none⟩ = some (.int .i64 ZL.b) := HL9.out.cell (j := 2) (by decide)
                have u3 := HK9.out.lt
                have u4 := HL9.out.lt
                have ru1 := fun d os => cell_regrown u1 d os
                have ru2 := fun d os => cell_regrown u2 d os
                clear u1 u2
                refine wp_region_ph [(true, [0, 1, 2, 3, 4, 5, 6, 7, 8], some 9)] (by kernel_rfl) (by kernel_rfl) (by kernel_rfl) (by kernel_rfl) (by kernel_rfl) ?_
                refine ⟨fun w' => ∃ p : Regrown, w' = grow (redrawn W9 p.d) p.os, regrown_of_below ((Below.refl _ _).drew), fun h => (by cases h), ?_⟩
                simp only [picks, List.drop_succ_cons, List.drop_zero, List.take_succ_cons, List.take_zero, List.cons_append, List.nil_append]
                repeat (go_big_quiet_step (fail))
                refine wpQuiet_nil ?_
                clear ru1 ru2 u3 u4
                have hBd : Below W9.heap.size W9 W9.drew := (Below.refl _ _).drew
                generalize W9.drew = wj at *
                have HKj : Hid (Blk wj BT 50 (p.ns * 4) (hc (fun g => if g = gd then setHd (setHd (lineT s i g j (ordT s g i)) 1 (T0.l + KP)) 2 (T0.b + ZL.n) else lineT s i g j (ordT s g i)))) := HK9.out.below hBd
                have HLj : Hid (Blk wj BL 60 4 (fun q => (#[.int .i64 (gd : Int), .int .i64 ZL.l, .int .i64 ZL.b, .int .i64 ZL.n] : Array Value).getD q default)) := HL9.out.below hBd
                have HBj : Hid (Below W0.heap.size W0 wj) := HB9.out.trans (hBd.mono HB9.out.size)
                have b1 := HKj.out.lt
                have b2 := HKj.out.frozen (gd * 4 + 3)
                have b3 := HKj.out.cell (j := gd * 4 + 3) (by omega)
                have HK10 : Hid (Blk (wj.setCell ⟨BT, gd * 4 + 3, none⟩ (.int .i64 (T0.n + ZL.b))) BT 50 (p.ns * 4) (hc (fun g => lineT s i g (j + 1) (ordT s g i)))) := (HKj.out.setF gd 3 (by decide) (T0.n + ZL.b)).cong4 (fun q _ => by
                  rw [← HAD.out q]
                  unfold addT
                  by_cases hq : q = gd
                  · rw [if_pos hq, if_pos hq, if_pos (by rw [HGD.out]; omega), hq, HT0.out]
                    rfl
                  · rw [if_neg hq, if_neg hq, if_neg (by rw [HGD.out]; omega)])
                have HL10 : Hid (Blk (wj.setCell ⟨BT, gd * 4 + 3, none⟩ (.int .i64 (T0.n + ZL.b))) BL 60 4 (fun q => (#[.int .i64 (gd : Int), .int .i64 ZL.l, .int .i64 ZL.b, .int .i64 ZL.n] : Array Value).getD q default)) := HLj.out.other (a := ⟨BT, gd * 4 + 3, none⟩) (Blk.ne2 HLj.out HKj.out (by decide)) _
                have HB10 : Hid (Below W0.heap.size W0 (wj.setCell ⟨BT, gd * 4 + 3, none⟩ (.int .i64 (T0.n + ZL.b)))) := HBj.out.setCell (p := ⟨BT, gd * 4 + 3, none⟩) hA2 _
                clear hBd HKj HLj HBj HK9 HL9 HB9
                refine wpOp_one 9 rfl ?_
                go_wp2_with fail
                refine NoPanic.normal ?_
                clear b1 b2 b3
                generalize wj.setCell ⟨BT, gd * 4 + 3, none⟩ (.int .i64 (T0.n + ZL.b)) = W10 at *
                go_wp2_with fail
                go_roundw
                case rel => exact ⟨j + 1, by omega, by go_num, HK10, HB10⟩
                case measure => simp [intOf]; omega
              · have q5 : ((s.os.z i).ls.n : Int) ≤ (j : Int) := by omega
                have hjn : j = (s.os.z i).ls.n := by omega
                have HKN : Hid (Blk wr BT 50 (p.ns * 4) (hc (fun g => ordT s g (i + 1)))) := HK.out.cong4 (fun q _ => by rw [hjn]; rfl)
                clear hsk l1 d0 d1 l2 c0 c1 c2 c3 c4 c5 c6 HK hjn
                go_wp2_with fail
                go_roundw
                case rel => exact ⟨i + 1, by omega, by go_num, HKN, HB⟩
                case measure => simp [intOf]; omega
          · have q3 : (s.os.n : Int) ≤ (i : Int) := by omega
            have hin : i = s.os.n := by omega
            have HKE : Hid (Blk wr BT 50 (p.ns * 4) (hc (fun g => totT s g))) := HK.out.cong4 (fun j _ => by rw [hin]; rfl)
            clear hsk
            go_wp2_with fail
            refine bodyPost_ret (results_tmp2 rfl _ _ _) rfl ?_
            refine ⟨⟨some ⟨BT, 0, none⟩, p.ns, p.ns, fun g => totT s g⟩, by rw [H0.out]; rfl, ⟨Nat.le_refl _, by show p.ns ≤ maxLen; unfold maxLen; omega, HKE.out.hds, fun e => by cases e⟩, fun _ => ⟨rfl, fun _ _ => rfl⟩, fun h => absurd H0.out h, hBw⟩
  · have g0 : (stateE p s != 0) = true := by simpa using h0
    have H0 : Hid (¬ stateE p s = 0) := h0
    clear h0
    go_wp2_with fail
    refine bodyPost_ret (results_tmp2 rfl _ _ _) rfl ?_
    exact ⟨⟨none, 0, 0, fun _ => hd0⟩, rfl, ⟨Nat.le_refl _, Nat.zero_le _, fun i hi => absurd hi (Nat.not_lt_zero _), fun _ => rfl⟩, fun h => absurd h H0.out, fun _ => rfl, hBw⟩
end Go.Proofs.Ytbcacebifpagpaf
namespace Go.Proofs.Ytbcacebifpagpaf
open Go.RowKit Go.Shelf Go.Sort
set_option linter.unusedVariables false
def openV (p : Pl) (s : St) : Int := if stateE p s = 0 then (openN s s.os.n : Nat) else 0
theorem openN_hit {s : St} {i : Nat} (h : (s.os.z i).k = 2) : openN s (i + 1) = openN s i := by simp only [openN]; rw [if_pos h, Nat.add_zero]
theorem openN_miss {s : St} {i : Nat} (h : ¬ (s.os.z i).k = 2) : openN s (i + 1) = openN s i + 1 := by simp only [openN]; rw [if_neg h]
set_option maxRecDepth 100000 in
set_option maxHeartbeats 4000000 in
theorem Open_any (p : Pl) (s : St) (w : World) (hp : p.At w) (hs : s.At w) :
    Calls Try.prog 11 #[p.val, s.val] w fun e w' => e = .returned (.tuple #[.int .i64 (openV p s), .int .i64 (stateE p s)]) ∧ Below w.heap.size w w' := by
  obtain ⟨W0, hW, hWB, X0⟩ : ∃ W, ((w.alloc (.cells #[.slice p.ab p.nb p.cb, .slice p.sa p.ns p.cs] 25)).alloc (.cells s.cells 31)) = W ∧ Below w.heap.size w W ∧ Boxes W w.heap.size (w.heap.size + 1) p s := ⟨_, rfl, two_below _ _ _, boxes_new w p s _ _⟩
  have HC : Hid (∀ wk, Below W0.heap.size W0 wk → Boxes wk w.heap.size (w.heap.size + 1) p s ∧ p.At wk ∧ s.At wk ∧ Below w.heap.size w wk) := fun wk h => ⟨X0.below h, (hp.below hWB).below h, (hs.below hWB).below h, hWB.trans (h.mono hWB.size)⟩
  have HW : Hid ((w.alloc (.cells #[.slice p.ab p.nb p.cb, .slice p.sa p.ns p.cs] 25)).alloc (.cells #[.slice s.on.a s.on.n s.on.c, .slice s.os.a s.os.n s.os.c, .slice s.hs.a s.hs.n s.hs.c, .slice s.ms.a s.ms.n s.ms.c, .slice s.si.a s.si.n s.si.c, .slice s.so.a s.so.n s.so.c, .slice s.sf.a s.sf.n s.sf.c] 31) = W0) := hW
  have osl := hs.os.le
  have osc := hs.os.cap
  unfold maxLen at osc
  clear hW X0 hp hs
  unfold Pl.val St.val
  go_enter Try.func11, Try.ntmps11
  go_wp2_with fail
  rw [HW.out]
  refine (stateCheck_any p s W0 (HC.out W0 (Below.refl _ _)).2.1 (HC.out W0 (Below.refl _ _)).2.2.1).mono ?_
  rintro e w1 ⟨rfl, hB⟩
  clear HW
  obtain ⟨⟨⟨l1, d0, d1⟩, l2, c0, c1, c2, c3, c4, c5, c6⟩, -, -, hBw⟩ := HC.out w1 hB
  by_cases h0 : stateE p s = 0
  · have HR : Hid (RightT p s) := rightT h0
    have HV : Hid (openV p s = (openN s s.os.n : Nat) ∧ stateE p s = 0) := ⟨by unfold openV; rw [if_pos h0], h0⟩
    have os4 := HR.out.fm.os4
    have HB1 : Hid (Below W0.heap.size W0 w1) := hB
    rw [h0]
    clear h0 hBw hB
    go_wp2_with fail
    clear l1 d0 d1 l2 c0 c1 c2 c3 c4 c5 c6
    go_loopw [7, 19] (fun ov iv wk => ∃ i : Nat, i ≤ s.os.n ∧ iv = .int .i64 i ∧ ov = .int .i64 (openN s i : Nat) ∧ Hid (Below W0.heap.size W0 wk)) (fun _ iv _ => s.os.n - (intOf iv).toNat)
    case atStart => exact ⟨0, Nat.zero_le _, rfl, rfl, HB1⟩
    case round =>
      clear HB1
      obtain ⟨i, hi, rfl, rfl, HB⟩ := hrel
      have on := openN_le s i
      obtain ⟨-, -, hsk, hBw⟩ := HC.out wr HB.out
      by_cases hil : i < s.os.n
      · have q2 : (0 : Int) ≤ (i : Int) := by omega
        have q3 : (i : Int) < (s.os.n : Int) := by omega
        obtain ⟨bo, oo, hoa, hbo, z0, z1, hlk⟩ := hsk.os.ods i hil
        have HB4 : Hid (Below W0.heap.size W0 (wr.alloc (.cells #[.int .i64 (s.os.z i).k, .slice (s.os.z i).ls.a (s.os.z i).ls.n (s.os.z i).ls.c] 58))) := HB.out.alloc HB.out.size _
        by_cases hk : (s.os.z i).k = 2
        · have HO := openN_hit hk
          have HO2 : Hid (openN s (i + 1) = openN s i) := HO
          have hk' : ((s.os.z i).k != 2) = false := by rw [hk]; rfl
          rw [hoa]
          clear hoa HO hlk hk hsk hBw
          generalize (s.os.z i).k = KD at *
          go_wp2_with fail
          go_roundw
          case rel => exact ⟨i + 1, by omega, by go_num, by rw [HO2.out], HB4⟩
          case measure => simp [intOf]; omega
        · have HO := openN_miss hk
          have HO2 : Hid (openN s (i + 1) = openN s i + 1) := HO
          have hk' : ((s.os.z i).k != 2) = true := by simpa using hk
          rw [hoa]
          clear hoa HO hlk hk hsk hBw
          generalize (s.os.z i).k = KD at *
          go_wp2_with fail
          go_roundw
          case rel => exact ⟨i + 1, by omega, by go_num, by rw [HO2.out]; go_num, HB4⟩
          case measure => simp [intOf]; omega
      · have q3 : (s.os.n : Int) ≤ (i : Int) := by omega
        have hin : i = s.os.n := by omega
        have HIN : Hid (i = s.os.n) := hin
        clear hsk hin
        go_wp2_with fail
        go_ret2
        exact ⟨by rw [HV.out.1, HV.out.2, HIN.out]; rfl, hBw⟩
  · have g0 : (stateE p s != 0) = true := by simpa using h0
    have HV : Hid (openV p s = 0) := by show openV p s = 0; unfold openV; rw [if_neg h0]
    clear h0
    go_wp2_with fail
    go_ret2
    exact ⟨by rw [HV.out]; rfl, hBw⟩
end Go.Proofs.Ytbcacebifpagpaf
namespace Go.Proofs.Ytbcacebifpagpaf
open Go.RowKit Go.Shelf Go.Sort
set_option linter.unusedVariables false
theorem totBusy (g1 g2 g : Nat) : totT (busyS g 2 0) 0 = ⟨12, 5, 0, 1⟩ ∧ totT (busyS g 2 0) 1 = ⟨6, 6, 3, 0⟩ ∧ openV (yardP g1 g2) (busyS g 2 0) = 2 := ⟨by kernel_rfl, by kernel_rfl, by kernel_rfl⟩
set_option maxRecDepth 100000 in
set_option maxHeartbeats 4000000 in
theorem bookBegun_any (w : World) :
    Calls Try.prog 15 #[] w fun e w' => e = .returned (.bool true) ∧ Below w.heap.size w w' := by
  go_enter Try.func15, Try.ntmps15
  go_wp2_with fail
  refine (yard_any _).mono ?_
  rintro e wa ⟨g1, g2, rfl, -, -, k1, k2, hA⟩
  go_wp2_with fail
  refine (busy_any _).mono ?_
  rintro e wb ⟨g, rfl, -, bb, hB⟩
  have hD := hA.trans (hB.mono hA.size)
  have HAT : Hid ((yardP g1 g2).At wb ∧ (busyS g 2 0).At wb) := ⟨yardAt (k1.below hB) (k2.below hB), busyAt bb⟩
  clear hA hB k1 k2 bb
  simp only [busyS, St.val]
  go_wp2_with fail
  refine (Totals_any (yardP g1 g2) (busyS g 2 0) wb HAT.out.1 HAT.out.2).mono ?_
  rintro e w1 ⟨h, rfl, hat, hok, -, hB⟩
  have hE := hD.trans (hB.mono hD.size)
  have HT : Hid (h.n = 2 ∧ h.z 0 = ⟨12, 5, 0, 1⟩ ∧ h.z 1 = ⟨6, 6, 3, 0⟩) := by
    obtain ⟨a, b⟩ := hok (busyE g1 g2 g).1
    exact ⟨a, (b 0 (show 0 < 2 by decide)).trans (totBusy g1 g2 g).1, (b 1 (show 1 < 2 by decide)).trans (totBusy g1 g2 g).2.1⟩
  have HE : Hid (Below w.heap.size w w1) := hE
  have HH : Hid (h.At w1) := hat
  rw [(busyE g1 g2 g).1]
  clear hD hB HAT hok hat hE
  go_wp2_with fail
  refine (yard_any _).mono ?_
  rintro e wa ⟨g1, g2, rfl, -, -, k1, k2, hA⟩
  go_wp2_with fail
  refine (busy_any _).mono ?_
  rintro e wb ⟨g, rfl, -, bb, hB⟩
  have hD := hA.trans (hB.mono hA.size)
  have HAT : Hid ((yardP g1 g2).At wb ∧ (busyS g 2 0).At wb) := ⟨yardAt (k1.below hB) (k2.below hB), busyAt bb⟩
  clear hA hB k1 k2 bb
  simp only [busyS, St.val]
  go_wp2_with fail
  refine (Open_any (yardP g1 g2) (busyS g 2 0) wb HAT.out.1 HAT.out.2).mono ?_
  rintro e w2 ⟨rfl, hB⟩
  have hE := hD.trans (hB.mono hD.size)
  rw [(busyE g1 g2 g).1, (totBusy g1 g2 g).2.2]
  have hF := HE.out.trans (hE.mono HE.out.size)
  have hat := HH.out.below hE
  obtain ⟨hn, h0, h1⟩ := HT.out
  obtain ⟨b5, o5, ha5, hb5, y50, y51, y52, y53⟩ := hat.hds 0 (by omega)
  obtain ⟨b6, o6, ha6, hb6, y60, y61, y62, y63⟩ := hat.hds 1 (by omega)
  rw [ha5] at ha6
  simp only [Option.some.injEq, Addr.mk.injEq, and_true] at ha6
  obtain ⟨rfl, rfl⟩ := ha6
  rw [h0] at y50 y51 y52 y53
  rw [h1] at y60 y61 y62 y63
  have hle := hat.le
  have hcap := hat.cap
  unfold maxLen at hcap
  dsimp only at y50 y51 y52 y53 y60 y61 y62 y63
  rw [hn] at hle
  rw [ha5, hn]
  clear hD hB HAT HE HH HT hE hat hn h0 h1 ha5 hb6
  simp only [Nat.zero_mul, Nat.add_zero] at y50 y51 y52 y53
  go_wp2_with fail
  go_ret
  exact ⟨by simp, hF⟩
end Go.Proofs.Ytbcacebifpagpaf
namespace Go.Proofs.Ytbcacebifpagpaf
open Go.RowKit Go.Shelf Go.Sort
set_option linter.unusedVariables false
structure RelI (p : Pl) (s y0 : St) (A B7 : Nat) (W0 : World) (cur : St) (wk : World) : Prop where
  own0 : OwnS A wk y0
  own : OwnS A wk cur
  box : Blk wk B7 31 7 (fun j => cur.cells.getD j default)
  bel : Below W0.heap.size W0 wk
  le : A ≤ wk.heap.size
theorem RelI.below {p : Pl} {s y0 cur : St} {A B7 : Nat} {W0 wk wj : World} (h : RelI p s y0 A B7 W0 cur wk) (hB : Below wk.heap.size wk wj) : RelI p s y0 A B7 W0 cur wj :=
  ⟨h.own0.below hB, h.own.below hB, h.box.below hB, h.bel.trans (hB.mono h.bel.size), Nat.le_trans h.le hB.size⟩
def RelA (p : Pl) (s : St) (i : Nat) (cur : St) : Prop := TkAll p (-1) (relQ s) (relM s) (relO s s.os.n) i cur
def RelB (p : Pl) (s : St) (i j : Nat) (cur : St) : Prop := ∃ y, RelA p s i y ∧ TkRow p (-1) (relQ s) i y j cur
theorem RelB.next {p : Pl} {s cur : St} {i : Nat} (h : RelB p s i (s.os.z i).ls.n cur) : RelA p s (i + 1) cur := h
theorem RelA.row {p : Pl} {s cur : St} {i : Nat} (h : RelA p s i cur) : RelB p s i 0 cur := ⟨cur, h, rfl⟩
theorem RelA.skip {p : Pl} {s cur : St} {i : Nat} (r : RightT p s) (h : RelA p s i cur) (hi : i < s.os.n) (hk : ¬ ((relO s s.os.n).os.z i).k = 1) : RelA p s (i + 1) cur :=
  ⟨cur, h, TkRow.skip (rel_qin r) (TkAll.pos (rel_qin r) (fun a _ => relM_eq s a) (Nat.le_of_lt hi) h) hi (Nat.le_of_eq (relM_eq s i)) fun b _ => if_neg hk⟩
theorem RelB.pos {p : Pl} {s cur : St} {i j : Nat} (r : RightT p s) (h : RelB p s i j cur) (hi : i < s.os.n) (hj : j ≤ (s.os.z i).ls.n) : Pos p (-1) (relQ s) (relO s s.os.n) i j cur := by
  obtain ⟨y, h1, h2⟩ := h
  exact TkRow.pos (rel_qin r) (TkAll.pos (rel_qin r) (fun a _ => relM_eq s a) (Nat.le_of_lt hi) h1) hi (by rw [← relM_eq]; exact hj) h2
theorem RelB.stepIn {p : Pl} {s cur : St} {i j : Nat} (r : RightT p s) (h : RelB p s i j cur) (hi : i < s.os.n) (hj : j < (s.os.z i).ls.n) : StepIn p (-1) cur i j (relQ s i j) :=
  (h.pos r hi (Nat.le_of_lt hj)).stepIn (rel_qin r) hi (by rw [← relM_eq]; exact hj)
theorem RelB.step {p : Pl} {s cur x : St} {i j : Nat} (h : RelB p s i j cur) (T : Step p (-1) cur i j (relQ s i j) x) : RelB p s i (j + 1) x := by
  obtain ⟨y, h1, h2⟩ := h
  exact ⟨y, h1, cur, h2, T⟩
set_option maxRecDepth 100000 in
set_option maxHeartbeats 8000000 in
theorem Release_any (p : Pl) (s : St) (w : World) (hp : p.At w) (hs : s.At w) :
    Calls Try.prog 16 #[p.val, s.val] w fun e w' => ∃ x : St, e = .returned (.tuple #[x.val, .int .i64 (stateE p s)]) ∧ x.At w' ∧ RelOK p s x ∧ (stateE p s = 0 → OwnS w.heap.size w' x) ∧ Below w.heap.size w w' := by
  obtain ⟨W0, hW, hWB, X0, Z0⟩ : ∃ W, (((w.alloc (.cells #[.slice p.ab p.nb p.cb, .slice p.sa p.ns p.cs] 25)).alloc (.cells s.cells 31)).alloc (.cells #[.slice .none 0 0, .slice .none 0 0, .slice .none 0 0, .slice .none 0 0, .slice .none 0 0, .slice .none 0 0, .slice .none 0 0] 31)) = W ∧ Below w.heap.size w W ∧ Boxes W w.heap.size (w.heap.size + 1) p s ∧ Blk W (w.heap.size + 2) 31 7 (fun _ => .slice .none 0 0) :=
    ⟨_, rfl, (two_below _ _ _).alloc (by simp; omega) _, (boxes_new w p s _ _).below ((Below.refl _ _).alloc (Nat.le_refl _) _), (Blk.mk' (cur := #[.slice .none 0 0, .slice .none 0 0, .slice .none 0 0, .slice .none 0 0, .slice .none 0 0, .slice .none 0 0, .slice .none 0 0]) (by simp) rfl).congr (fun j hj => by match j, hj with | 0, _ => rfl | 1, _ => rfl | 2, _ => rfl | 3, _ => rfl | 4, _ => rfl | 5, _ => rfl | 6, _ => rfl)⟩
  have HC : Hid (∀ wk, Below W0.heap.size W0 wk → Boxes wk w.heap.size (w.heap.size + 1) p s ∧ p.At wk ∧ s.At wk ∧ Below w.heap.size w wk ∧ Blk wk (w.heap.size + 2) 31 7 (fun _ => .slice .none 0 0)) := fun wk h => ⟨X0.below h, (hp.below hWB).below h, (hs.below hWB).below h, hWB.trans (h.mono hWB.size), Z0.below h⟩
  have HW : Hid (((w.alloc (.cells #[.slice p.ab p.nb p.cb, .slice p.sa p.ns p.cs] 25)).alloc (.cells #[.slice s.on.a s.on.n s.on.c, .slice s.os.a s.os.n s.os.c, .slice s.hs.a s.hs.n s.hs.c, .slice s.ms.a s.ms.n s.ms.c, .slice s.si.a s.si.n s.si.c, .slice s.so.a s.so.n s.so.c, .slice s.sf.a s.sf.n s.sf.c] 31)).alloc (.cells #[.slice .none 0 0, .slice .none 0 0, .slice .none 0 0, .slice .none 0 0, .slice .none 0 0, .slice .none 0 0, .slice .none 0 0] 31) = W0) := hW
  have leb := hp.leb
  have capb0 := hp.capb
  have les := hp.les
  have caps0 := hp.caps
  have capb := capb0
  have caps := caps0
  have zlt0 := Z0.lt
  unfold maxLen at capb caps
  clear hW X0 Z0 hp hs
  unfold Pl.val St.val
  go_enter Try.func16, Try.ntmps16
  go_wp2_with fail
  rw [HW.out]
  obtain ⟨X, hpk, hsk, hBw, hz⟩ := HC.out W0 (Below.refl _ _)
  refine (stateCheck_any p s W0 hpk hsk).mono ?_
  rintro e w1 ⟨rfl, hB⟩
  clear X hpk hsk hBw hz HW
  obtain ⟨⟨⟨l1, d0, d1⟩, l2, c0, c1, c2, c3, c4, c5, c6⟩, hpk, hsk, hBw, hz⟩ := HC.out w1 hB
  by_cases h0 : stateE p s = 0
  · have H0 : Hid (stateE p s = 0) := h0
    have HR : Hid (RightT p s) := rightT h0
    rw [h0]
    clear h0
    have HCS : Hid (Calls Try.prog 22 #[s.val] w1 fun e w' => ∃ s' : St, e = .returned s'.val ∧ SameT s' s ∧ OwnS w1.heap.size w' s' ∧ Below w1.heap.size w1 w') := copyState_any p s w1 hsk HR.out.fm
    clear hpk hsk hBw hz
    go_wp2_with fail
    refine Calls.mono HCS.out ?_
    rintro e w4 ⟨x0, rfl, hsame, hown, hB4⟩
    clear HCS l1 d0 d1 l2 c0 c1 c2 c3 c4 c5 c6
    obtain ⟨W5, hW5, hWB5, K5⟩ : ∃ W, w4.alloc (.cells #[.slice x0.on.a x0.on.n x0.on.c, .slice x0.os.a x0.os.n x0.os.c, .slice x0.hs.a x0.hs.n x0.hs.c, .slice x0.ms.a x0.ms.n x0.ms.c, .slice x0.si.a x0.si.n x0.si.c, .slice x0.so.a x0.so.n x0.so.c, .slice x0.sf.a x0.sf.n x0.sf.c] 31) = W ∧ Below w4.heap.size w4 W ∧ Blk W w4.heap.size 31 7 (fun j => x0.cells.getD j default) := ⟨_, rfl, (Below.refl _ _).alloc (Nat.le_refl _) _, Blk.mk' rfl rfl⟩
    have HW5 : Hid (w4.alloc (.cells #[.slice x0.on.a x0.on.n x0.on.c, .slice x0.os.a x0.os.n x0.os.c, .slice x0.hs.a x0.hs.n x0.hs.c, .slice x0.ms.a x0.ms.n x0.ms.c, .slice x0.si.a x0.si.n x0.si.c, .slice x0.so.a x0.so.n x0.so.c, .slice x0.sf.a x0.sf.n x0.sf.c] 31) = W5) := hW5
    have hB15 := hB4.trans (hWB5.mono hB4.size)
    have hB5 := hB.trans (hB15.mono hB.size)
    have HO5 : Hid (OwnS w1.heap.size W5 (relO x0 0)) := by show OwnS w1.heap.size W5 (relO x0 0); rw [relO_zero]; exact OwnS.below hown hWB5
    have HS0 : Hid (SameT x0 s) := hsame
    have s1 := K5.cell (j := 1) (by decide)
    have s1' : W5.cell? ⟨w4.heap.size, 1, none⟩ = some (.slice x0.os.a x0.os.n x0.os.c) := s1
    have s2 := K5.lt
    have HK5 : Hid (Blk W5 w4.heap.size 31 7 (fun j => x0.cells.getD j default)) := K5
    have HB5 : Hid (Below W0.heap.size W0 W5) := hB5
    have A1 : W0.heap.size ≤ w1.heap.size := hB.size
    have A2 : w1.heap.size ≤ w4.heap.size := hB4.size
    have A3 : w1.heap.size ≤ W5.heap.size := hB15.size
    have A27 : w1.heap.size ≤ w4.heap.size := hB4.size
    have ol : x0.os.n ≤ x0.os.c := (OwnS.below hown hWB5).os.le
    have oc : x0.os.c ≤ maxLen := (OwnS.below hown hWB5).os.cap
    unfold maxLen at oc
    have on4 : x0.os.n ≤ 4 := by rw [hsame.os.1]; exact HR.out.fm.os4
    rw [← HW5.out] at s1' s2
    clear hW5 hown K5 hB4 hWB5 hB15 hB5 hsame hB s1
    simp only [St.val]
    go_wp2_with fail
    rw [HW5.out]
    clear s1' s2 HW5
    generalize w4.heap.size = B7 at *
    go_loopw [25] (fun kv wk => ∃ k : Nat, k ≤ x0.os.n ∧ kv = .int .i64 k ∧ Hid (OwnS w1.heap.size wk (relO x0 k)) ∧ Hid (Blk wk B7 31 7 (fun j => x0.cells.getD j default)) ∧ Hid (Below W0.heap.size W0 wk) ∧ Hid (w1.heap.size ≤ wk.heap.size)) (fun kv _ => x0.os.n - (intOf kv).toNat)
    case atStart => exact ⟨0, Nat.zero_le _, rfl, HO5, HK5, HB5, A3⟩
    case round =>
      clear HO5 HK5 HB5 A3
      obtain ⟨k, hk, rfl, HOk, HKk, HBk, HSk⟩ := hrel
      by_cases hlt : k < x0.os.n
      · have q0 : (0 : Int) ≤ (k : Int) := by omega
        have q1 : (k : Int) < (x0.os.n : Int) := by omega
        obtain ⟨gO, g1, g2, g3⟩ := HOk.out.os.list (by show 0 < x0.os.n; omega)
        have g1' : x0.os.a = some ⟨gO, 0, none⟩ := g1
        have HG : Hid ((relO x0 k).os.a = some ⟨gO, 0, none⟩) := g1
        have u1 : wr.cell? ⟨B7, 1, none⟩ = some (.slice x0.os.a x0.os.n x0.os.c) := HKk.out.cell (j := 1) (by decide)
        rw [g1'] at u1
        have u2 := HKk.out.lt
        have u3 := g3.lt
        have HBD : Hid (∀ j, j < ((relO x0 k).os.z k).ls.n → (0 ≤ (((relO x0 k).os.z k).ls.z j).l ∧ (((relO x0 k).os.z k).ls.z j).l ≤ 200) ∧ 0 ≤ (((relO x0 k).os.z k).ls.z j).b ∧ (((relO x0 k).os.z k).ls.z j).b ≤ 200) := by
          show ∀ j, j < (relOd k k (x0.os.z k)).ls.n → (0 ≤ ((relOd k k (x0.os.z k)).ls.z j).l ∧ ((relOd k k (x0.os.z k)).ls.z j).l ≤ 200) ∧ 0 ≤ ((relOd k k (x0.os.z k)).ls.z j).b ∧ ((relOd k k (x0.os.z k)).ls.z j).b ≤ 200
          rw [relOd_later _ (Nat.le_refl _)]
          intro j hj
          have e := HS0.out.os.2 k hlt
          have hl := badLine_no (HR.out.fm.line k (by rw [← HS0.out.os.1]; exact hlt) j (by rw [← e.2.1]; exact hj))
          rw [e.2.2 j hj]
          omega
        clear g1 g1' g3
        go_wp2_with fail
        refine (release_any (relO x0 k) k w1.heap.size gO wr HSk.out HOk.out hlt HG.out HBD.out).mono ?_
        rintro e w6 ⟨y, rfl, y0, y1, hO6, hB6, hK6⟩
        have HN : Hid (OwnS w1.heap.size w6 (relO x0 (k + 1)) ∧ Blk w6 B7 31 7 (fun j => x0.cells.getD j default) ∧ Below W0.heap.size W0 w6 ∧ w1.heap.size ≤ w6.heap.size) := by
          refine ⟨?_, hK6 _ _ _ _ (by decide) (by decide) HKk.out, HBk.out.trans (hB6.mono A1), Nat.le_trans HSk.out hB6.size⟩
          have e : ((relO x0 k).os.z k).k = (x0.os.z k).k := by show (relOd k k (x0.os.z k)).k = _; rw [relOd_later _ (Nat.le_refl _)]
          by_cases c : (x0.os.z k).k = 0
          · rw [← relO_hit c, ← y0 (by rw [e]; exact c)]; exact hO6
          · rw [← relO_miss c, ← y1 (by rw [e]; exact c)]; exact hO6
        clear y0 y1 hO6 hB6 hK6 HOk HKk HBk HSk u1 u2 u3 HBD HG
        go_wp2_with fail
        go_roundw
        case rel => exact ⟨k + 1, by omega, by go_num, HN.out.1, HN.out.2.1, HN.out.2.2.1, HN.out.2.2.2⟩
        case measure => simp [intOf]; omega
      · have hkn : k = x0.os.n := by omega
        subst hkn
        obtain ⟨y0, ya, yn, yc, HI, HYS⟩ : ∃ y : St, x0.os.a = y.os.a ∧ x0.os.n = y.os.n ∧ x0.os.c = y.os.c ∧ Hid (RelI p s y w1.heap.size B7 W0 y wr) ∧ Hid (SameT y (relO s s.os.n)) := ⟨relO x0 x0.os.n, rfl, rfl, rfl, ⟨HOk.out, HOk.out, HKk.out, HBk.out, HSk.out⟩, by have h := relO_same HS0.out x0.os.n; rw [HS0.out.os.1] at h ⊢; exact h⟩
        have u1 : wr.cell? ⟨B7, 1, none⟩ = some (.slice x0.os.a x0.os.n x0.os.c) := HKk.out.cell (j := 1) (by decide)
        have u2 := HKk.out.lt
        go_wp2_with fail
        rw [ya, yn, yc]
        rw [yn, yc] at ol
        rw [yc] at oc
        rw [yn] at on4
        clear u1 u2 ya yn yc HOk HKk HBk HSk HS0 hk hlt
        go_loopw [37] (fun kv wk => ∃ (i : Nat) (cur : St), i ≤ y0.os.n ∧ kv = .int .i64 i ∧ Hid (RelI p s y0 w1.heap.size B7 W0 cur wk) ∧ Hid (RelA p s i cur)) (fun kv _ => y0.os.n - (intOf kv).toNat)
        case atStart => exact ⟨0, y0, Nat.zero_le _, rfl, HI, HYS.out⟩
        case round =>
          clear HI
          obtain ⟨i, cur, hi, rfl, HI, HA⟩ := hrel
          by_cases hlt : i < y0.os.n
          · have q0 : (0 : Int) ≤ (i : Int) := by omega
            have q1 : (i : Int) < (y0.os.n : Int) := by omega
            obtain ⟨bo, oo, hoa, hbo, z0, z1, hlk⟩ := HI.out.own0.at.os.ods i hlt
            have eo := HYS.out.os.2 i hlt
            have his : i < s.os.n := by have := HYS.out.os.1; show i < s.os.n; exact this ▸ hlt
            have HEN : Hid ((y0.os.z i).ls.n = (s.os.z i).ls.n) := eo.2.1.trans (relM_eq s i).symm
            have HEK : Hid ((y0.os.z i).k = ((relO s s.os.n).os.z i).k) := eo.1
            have HEL : Hid (∀ j, j < (y0.os.z i).ls.n → ((y0.os.z i).ls.z j).n = (((relO s s.os.n).os.z i).ls.z j).n) := fun j hj => by rw [eo.2.2 j hj]
            have ll := hlk.le
            have lc := hlk.cap
            unfold maxLen at lc
            have ln3 : (y0.os.z i).ls.n ≤ 3 := by rw [HEN.out]; exact (HR.out.fm.lns i his).2
            rw [hoa]
            clear hoa eo
            obtain ⟨W, hW, hWB⟩ : ∃ W, wr.alloc (.cells #[.int .i64 (y0.os.z i).k, .slice (y0.os.z i).ls.a (y0.os.z i).ls.n (y0.os.z i).ls.c] 58) = W ∧ Below wr.heap.size wr W := ⟨_, rfl, (Below.refl _ _).alloc (Nat.le_refl _) _⟩
            have HW : Hid (wr.alloc (.cells #[.int .i64 (y0.os.z i).k, .slice (y0.os.z i).ls.a (y0.os.z i).ls.n (y0.os.z i).ls.c] 58) = W) := hW
            have HIW : Hid (RelI p s y0 w1.heap.size B7 W0 cur W) := HI.out.below hWB
            have HLK : Hid ((y0.os.z i).ls.At W) := hlk.below hWB
            clear hW hlk
            by_cases hk : (y0.os.z i).k = 1
            · have HK1 : Hid (((relO s s.os.n).os.z i).k = 1) := by rw [← HEK.out]; exact hk
              rw [hk] at z0 HW
              clear hk HEK
              go_wp2_with fail
              rw [HW.out]
              clear z0 z1 hbo HW q0 q1
              go_loopw [48] (fun jv wk => ∃ (j : Nat) (cr : St), j ≤ (y0.os.z i).ls.n ∧ jv = .int .i64 j ∧ Hid (RelI p s y0 w1.heap.size B7 W0 cr wk) ∧ Hid ((y0.os.z i).ls.At wk) ∧ Hid (RelB p s i j cr)) (fun jv _ => (y0.os.z i).ls.n - (intOf jv).toNat)
              case atStart => exact ⟨0, cur, Nat.zero_le _, rfl, HIW, HLK, HA.out.row⟩
              case round =>
                clear HIW HLK HI HA
                obtain ⟨j, cr, hj, rfl, HI, HLK, HB⟩ := hrel
                by_cases hjl : j < (y0.os.z i).ls.n
                · have q2 : (0 : Int) ≤ (j : Int) := by omega
                  have q3 : (j : Int) < ((y0.os.z i).ls.n : Int) := by omega
                  obtain ⟨bl, ob, hla, hbl, y1, y2, y3, y4⟩ := HLK.out.hds j hjl
                  rw [hla]
                  have hjs : j < (s.os.z i).ls.n := by rw [← HEN.out]; exact hjl
                  have HQ : Hid (relQ s i j = ((y0.os.z i).ls.z j).n) := by show relQ s i j = _; rw [HEL.out j hjl]; exact if_pos HK1.out
                  have HSI : Hid (StepIn p (-1) cr i j ((y0.os.z i).ls.z j).n) := by show StepIn _ _ _ _ _ _; rw [← HQ.out]; exact HB.out.stepIn HR.out his hjs
                  have HK2 : Hid ((cr.os.z i).k = 1) := ((HB.out.pos HR.out his (Nat.le_of_lt hjs)).al.kind i his).1.trans HK1.out
                  have HE0 : Hid (allocE p cr i j ((y0.os.z i).ls.z j).n (-1) = 0) := by have I := HSI.out.allocIn HK2.out; exact I.less ⟨I.n0, Int.le_refl _⟩
                  have HST : Hid (∀ x, Step p (-1) cr i j ((y0.os.z i).ls.z j).n x → RelB p s i (j + 1) x) := fun x T => HB.out.step (by rw [HQ.out]; exact T)
                  clear hla HSI HK2 HB
                  generalize (y0.os.z i).ls.z j = Z at *
                  obtain ⟨W2, hW2, hWB2⟩ : ∃ W, wr.alloc (.cells #[.int .i64 Z.o, .int .i64 Z.l, .int .i64 Z.b, .int .i64 Z.n] 60) = W ∧ Below wr.heap.size wr W := ⟨_, rfl, (Below.refl _ _).alloc (Nat.le_refl _) _⟩
                  have HW2 : Hid (wr.alloc (.cells #[.int .i64 Z.o, .int .i64 Z.l, .int .i64 Z.b, .int .i64 Z.n] 60) = W2) := hW2
                  have HI2 : Hid (RelI p s y0 w1.heap.size B7 W0 cr W2) := HI.out.below hWB2
                  have HLK2 : Hid ((y0.os.z i).ls.At W2) := HLK.out.below hWB2
                  obtain ⟨⟨⟨l1, d0, d1⟩, l2, c0, c1, c2, c3, c4, c5, c6⟩, hpk, hsk, hBw, hz⟩ := HC.out W2 HI2.out.bel
                  obtain ⟨m1, p0, p1, p2, p3, p4, p5, p6⟩ := Boxed.of HI2.out.box
                  have HPK : Hid (p.At W2) := hpk
                  clear hW2 hWB2 hpk hsk hBw hz l2 c0 c1 c2 c3 c4 c5 c6 HI HLK
                  rw [← HW2.out] at l1 d0 d1 m1 p0 p1 p2 p3 p4 p5 p6
                  go_wp2_with fail
                  rw [HW2.out]
                  clear HW2 l1 d0 d1 m1 p0 p1 p2 p3 p4 p5 p6 hbl y1 y2 y3 y4
                  refine (Take_any p cr i j Z.n (-1) W2 HPK.out HI2.out.own.at).mono ?_
                  rintro e w8 ⟨x, rfl, xat, xok, xown, hB8⟩
                  have HT : Hid (RelB p s i (j + 1) x) := HST.out x (xok.1 HE0.out)
                  have HOX : Hid (OwnS w1.heap.size w8 x) := (xown HE0.out).mono HI2.out.le
                  have HI8 : Hid (RelI p s y0 w1.heap.size B7 W0 cr w8) := HI2.out.below hB8
                  have HLK8 : Hid ((y0.os.z i).ls.At w8) := HLK2.out.below hB8
                  have hb8 := HI8.out.box
                  have zl := hb8.lt
                  have zf0 := hb8.frozen 0
                  have zc0 := hb8.cell (j := 0) (by decide)
                  have zf1 := hb8.frozen 1
                  have zc1 := hb8.cell (j := 1) (by decide)
                  have zf2 := hb8.frozen 2
                  have zc2 := hb8.cell (j := 2) (by decide)
                  have zf3 := hb8.frozen 3
                  have zc3 := hb8.cell (j := 3) (by decide)
                  have zf4 := hb8.frozen 4
                  have zc4 := hb8.cell (j := 4) (by decide)
                  have zf5 := hb8.frozen 5
                  have zc5 := hb8.cell (j := 5) (by decide)
                  have zf6 := hb8.frozen 6
                  have zc6 := hb8.cell (j := 6) (by decide)
                  clear hb8 xat xok xown hB8 HST HI2 HLK2 HPK
                  generalize allocL p cr i j Z.n (-1) = LL at *
                  generalize allocE p cr i j Z.n (-1) = EE at *
                  simp only [St.val]
                  go_wp2_with fail
                  have HN : Hid (RelI p s y0 w1.heap.size B7 W0 x (set7 w8 B7 (.slice x.on.a x.on.n x.on.c) (.slice x.os.a x.os.n x.os.c) (.slice x.hs.a x.hs.n x.hs.c) (.slice x.ms.a x.ms.n x.ms.c) (.slice x.si.a x.si.n x.si.c) (.slice x.so.a x.so.n x.so.c) (.slice x.sf.a x.sf.n x.sf.c)) ∧ (y0.os.z i).ls.At (set7 w8 B7 (.slice x.on.a x.on.n x.on.c) (.slice x.os.a x.os.n x.os.c) (.slice x.hs.a x.hs.n x.hs.c) (.slice x.ms.a x.ms.n x.ms.c) (.slice x.si.a x.si.n x.si.c) (.slice x.so.a x.so.n x.so.c) (.slice x.sf.a x.sf.n x.sf.c))) := by
                    have K := set7_blk HI8.out.box (.slice x.on.a x.on.n x.on.c) (.slice x.os.a x.os.n x.os.c) (.slice x.hs.a x.hs.n x.hs.c) (.slice x.ms.a x.ms.n x.ms.c) (.slice x.si.a x.si.n x.si.c) (.slice x.so.a x.so.n x.so.c) (.slice x.sf.a x.sf.n x.sf.c)
                    have hb := set7_below (b := B7) HI8.out.bel (Nat.le_trans A1 A27) (.slice x.on.a x.on.n x.on.c) (.slice x.os.a x.os.n x.os.c) (.slice x.hs.a x.hs.n x.hs.c) (.slice x.ms.a x.ms.n x.ms.c) (.slice x.si.a x.si.n x.si.c) (.slice x.so.a x.so.n x.so.c) (.slice x.sf.a x.sf.n x.sf.c)
                    refine ⟨⟨OwnS.set7 HI8.out.own0 HI8.out.box (.slice x.on.a x.on.n x.on.c) (.slice x.os.a x.os.n x.os.c) (.slice x.hs.a x.hs.n x.hs.c) (.slice x.ms.a x.ms.n x.ms.c) (.slice x.si.a x.si.n x.si.c) (.slice x.so.a x.so.n x.so.c) (.slice x.sf.a x.sf.n x.sf.c), OwnS.set7 HOX.out HI8.out.box (.slice x.on.a x.on.n x.on.c) (.slice x.os.a x.os.n x.os.c) (.slice x.hs.a x.hs.n x.hs.c) (.slice x.ms.a x.ms.n x.ms.c) (.slice x.si.a x.si.n x.si.c) (.slice x.so.a x.so.n x.so.c) (.slice x.sf.a x.sf.n x.sf.c), K.congr (fun j hj => by match j, hj with | 0, _ => rfl | 1, _ => rfl | 2, _ => rfl | 3, _ => rfl | 4, _ => rfl | 5, _ => rfl | 6, _ => rfl), hb, ?_⟩, ?_⟩
                    · have := HI8.out.le
                      simpa [set7] using this
                    · exact ((OwnS.set7 HI8.out.own0 HI8.out.box (.slice x.on.a x.on.n x.on.c) (.slice x.os.a x.os.n x.os.c) (.slice x.hs.a x.hs.n x.hs.c) (.slice x.ms.a x.ms.n x.ms.c) (.slice x.si.a x.si.n x.si.c) (.slice x.so.a x.so.n x.so.c) (.slice x.sf.a x.sf.n x.sf.c)).at.os.ods i hlt).choose_spec.choose_spec.2.2.2.2
                  unfold set7 at HN
                  go_roundw
                  case rel => exact ⟨j + 1, x, by omega, by go_num, HN.out.1, HN.out.2, HT⟩
                  case measure => simp [intOf]; omega
                · have hjn : j = (y0.os.z i).ls.n := by omega
                  subst hjn
                  have HN : Hid (RelA p s (i + 1) cr) := by have h := HB.out; rw [HEN.out] at h; exact h.next
                  go_wp2_with fail
                  go_roundw
                  case rel => exact ⟨i + 1, cr, by omega, by go_num, HI, HN⟩
                  case measure => simp [intOf]; omega
            · have HN : Hid (RelA p s (i + 1) cur) := HA.out.skip HR.out his (by rw [← HEK.out]; exact hk)
              have hk' : ((y0.os.z i).k != 1) = true := by simpa using hk
              clear hk HEK
              generalize (y0.os.z i).k = KK at *
              go_wp2_with fail
              rw [HW.out]
              go_roundw
              case rel => exact ⟨i + 1, cur, by omega, by go_num, HIW, HN⟩
              case measure => simp [intOf]; omega
          · have hin : i = y0.os.n := by omega
            have HRL : Hid (Released p s cur) := by have h := HA.out; rw [hin, HYS.out.os.1] at h; exact h
            obtain ⟨m1, p0, p1, p2, p3, p4, p5, p6⟩ := Boxed.of HI.out.box
            obtain ⟨-, -, -, hBw, hz⟩ := HC.out wr HI.out.bel
            have HZ : Hid (Below w.heap.size w wr ∧ Blk wr (w.heap.size + 2) 31 7 (fun _ => .slice .none 0 0)) := ⟨hBw, hz⟩
            have zl := hz.lt
            have zf0 := hz.frozen 0
            have zc0 := hz.cell (j := 0) (by decide)
            have zf1 := hz.frozen 1
            have zc1 := hz.cell (j := 1) (by decide)
            have zf2 := hz.frozen 2
            have zc2 := hz.cell (j := 2) (by decide)
            have zf3 := hz.frozen 3
            have zc3 := hz.cell (j := 3) (by decide)
            have zf4 := hz.frozen 4
            have zc4 := hz.cell (j := 4) (by decide)
            have zf5 := hz.frozen 5
            have zc5 := hz.cell (j := 5) (by decide)
            have zf6 := hz.frozen 6
            have zc6 := hz.cell (j := 6) (by decide)
            have hlow := (HC.out _ (Below.refl _ _)).2.2.2.1.size
            clear hBw hz
            go_wp2_with fail
            have KZ := set7_blk HZ.out.2 (.slice cur.on.a cur.on.n cur.on.c) (.slice cur.os.a cur.os.n cur.os.c) (.slice cur.hs.a cur.hs.n cur.hs.c) (.slice cur.ms.a cur.ms.n cur.ms.c) (.slice cur.si.a cur.si.n cur.si.c) (.slice cur.so.a cur.so.n cur.so.c) (.slice cur.sf.a cur.sf.n cur.sf.c)
            have hbz := set7_below (b := w.heap.size + 2) HZ.out.1 (by omega) (.slice cur.on.a cur.on.n cur.on.c) (.slice cur.os.a cur.os.n cur.os.c) (.slice cur.hs.a cur.hs.n cur.hs.c) (.slice cur.ms.a cur.ms.n cur.ms.c) (.slice cur.si.a cur.si.n cur.si.c) (.slice cur.so.a cur.so.n cur.so.c) (.slice cur.sf.a cur.sf.n cur.sf.c)
            have hOz := OwnS.set7 HI.out.own HZ.out.2 (.slice cur.on.a cur.on.n cur.on.c) (.slice cur.os.a cur.os.n cur.os.c) (.slice cur.hs.a cur.hs.n cur.hs.c) (.slice cur.ms.a cur.ms.n cur.ms.c) (.slice cur.si.a cur.si.n cur.si.c) (.slice cur.so.a cur.so.n cur.so.c) (.slice cur.sf.a cur.sf.n cur.sf.c)
            unfold set7 at KZ hbz hOz
            obtain ⟨c0', c1', c2', c3', c4', c5', c6'⟩ := box_cells KZ
            refine bodyPost_ret (v := .tuple #[cur.val, .int .i64 0]) (by simp [results, Try.results16, go_sem, St.val, c0', c1', c2', c3', c4', c5', c6']) rfl ?_
            exact ⟨cur, by rw [H0.out]; rfl, hOz.at, ⟨fun _ => HRL.out, fun h => absurd H0.out h⟩, fun _ => hOz.mono (by omega), hbz⟩
  · have HNE : Hid (¬ stateE p s = 0) := h0
    have g0 : (stateE p s != 0) = true := by simpa using h0
    clear h0 hpk hsk
    have zl := hz.lt
    have zf0 := hz.frozen 0
    have zc0 := hz.cell (j := 0) (by decide)
    have zf1 := hz.frozen 1
    have zc1 := hz.cell (j := 1) (by decide)
    have zf2 := hz.frozen 2
    have zc2 := hz.cell (j := 2) (by decide)
    have zf3 := hz.frozen 3
    have zc3 := hz.cell (j := 3) (by decide)
    have zf4 := hz.frozen 4
    have zc4 := hz.cell (j := 4) (by decide)
    have zf5 := hz.frozen 5
    have zc5 := hz.cell (j := 5) (by decide)
    have zf6 := hz.frozen 6
    have zc6 := hz.cell (j := 6) (by decide)
    go_wp2_with fail
    have KZ := set7_blk hz (.slice .none 0 0) (.slice .none 0 0) (.slice .none 0 0) (.slice .none 0 0) (.slice .none 0 0) (.slice .none 0 0) (.slice .none 0 0)
    have hbz := set7_below (b := w.heap.size + 2) hBw (by omega) (.slice .none 0 0) (.slice .none 0 0) (.slice .none 0 0) (.slice .none 0 0) (.slice .none 0 0) (.slice .none 0 0) (.slice .none 0 0)
    unfold set7 at KZ hbz
    obtain ⟨c0', c1', c2', c3', c4', c5', c6'⟩ := box_cells KZ
    refine bodyPost_ret (v := .tuple #[noneS.val, .int .i64 (stateE p s)]) (by simp [results, Try.results16, go_sem, noneS, St.val, c0', c1', c2', c3', c4', c5', c6']) rfl ?_
    exact ⟨noneS, rfl, noneS_at _, ⟨fun h => absurd h HNE.out, fun _ => ⟨rfl, rfl, rfl, rfl, rfl, rfl, rfl⟩⟩, fun h => absurd h HNE.out, hbz⟩
end Go.Proofs.Ytbcacebifpagpaf
namespace Go.Proofs.Ytbcacebifpagpaf
open Go.RowKit Go.Shelf Go.Sort
set_option linter.unusedVariables false
theorem allGot1_any (x : Hd) (w : World) :
    Calls Try.prog 75 #[x.val] w fun e w' => e = .returned (.bool (lacksL x)) ∧ Below w.heap.size w w' := by
  have hB2 := (Below.refl w.heap.size w).alloc (Nat.le_refl _) (.cells #[.int .i64 x.o, .int .i64 x.l, .int .i64 x.b, .int .i64 x.n] 60)
  unfold Hd.val
  go_enter Try.func75, Try.ntmps75
  go_wp2_with fail
  go_ret
  exact ⟨rfl, hB2⟩
set_option maxRecDepth 100000 in
theorem allGot_any (h : Hs) (w : World) (hh : h.At w) :
    Calls Try.prog 40 #[.slice h.a h.n h.c] w fun e w' => e = .returned (.bool (!anyB h.n (fun j => lacksL (h.z j)))) ∧ Below w.heap.size w w' := by
  go_enter Try.func40, Try.ntmps40
  go_wp2_with fail
  refine (anyL4 75 #[] (fun j => lacksL (h.z j)) _ _ _ _ hh.le hh.cap h.z hh.hds (enters_of Try.func75 (by kernel_rfl) rfl) (fun i w1 _ _ => allGot1_any (h.z i) w1)).mono ?_
  rintro e w1 ⟨rfl, hB⟩
  go_wp2_with fail
  go_ret
  exact ⟨rfl, hB⟩
set_option maxRecDepth 100000 in
set_option maxHeartbeats 8000000 in
theorem Pick_any (p : Pl) (s : St) (order line bin n : Int) (w : World) (hp : p.At w) (hs : s.At w) :
    Calls Try.prog 17 #[p.val, s.val, .int .i64 order, .int .i64 line, .int .i64 bin, .int .i64 n] w fun e w' => ∃ x : St, e = .returned (.tuple #[x.val, .int .i64 (pickE p s order line bin n)]) ∧ x.At w' ∧ ActOK (pickE p s order line bin n) (pickT p s order.toNat line.toNat bin.toNat n) x ∧ (pickE p s order line bin n = 0 → OwnS w.heap.size w' x) ∧ Below w.heap.size w w' := by
  obtain ⟨W0, hW, hWB, X0, Z0⟩ : ∃ W, (((w.alloc (.cells #[.slice p.ab p.nb p.cb, .slice p.sa p.ns p.cs] 25)).alloc (.cells s.cells 31)).alloc (.cells #[.slice .none 0 0, .slice .none 0 0, .slice .none 0 0, .slice .none 0 0, .slice .none 0 0, .slice .none 0 0, .slice .none 0 0] 31)) = W ∧ Below w.heap.size w W ∧ Boxes W w.heap.size (w.heap.size + 1) p s ∧ Blk W (w.heap.size + 2) 31 7 (fun _ => .slice .none 0 0) :=
    ⟨_, rfl, (two_below _ _ _).alloc (by simp; omega) _, (boxes_new w p s _ _).below ((Below.refl _ _).alloc (Nat.le_refl _) _), (Blk.mk' (cur := #[.slice .none 0 0, .slice .none 0 0, .slice .none 0 0, .slice .none 0 0, .slice .none 0 0, .slice .none 0 0, .slice .none 0 0]) (by simp) rfl).congr (fun j hj => by match j, hj with | 0, _ => rfl | 1, _ => rfl | 2, _ => rfl | 3, _ => rfl | 4, _ => rfl | 5, _ => rfl | 6, _ => rfl)⟩
  have HC : Hid (∀ wk, Below W0.heap.size W0 wk → Boxes wk w.heap.size (w.heap.size + 1) p s ∧ p.At wk ∧ s.At wk ∧ Below w.heap.size w wk ∧ Blk wk (w.heap.size + 2) 31 7 (fun _ => .slice .none 0 0)) := fun wk h => ⟨X0.below h, (hp.below hWB).below h, (hs.below hWB).below h, hWB.trans (h.mono hWB.size), Z0.below h⟩
  have HW : Hid (((w.alloc (.cells #[.slice p.ab p.nb p.cb, .slice p.sa p.ns p.cs] 25)).alloc (.cells #[.slice s.on.a s.on.n s.on.c, .slice s.os.a s.os.n s.os.c, .slice s.hs.a s.hs.n s.hs.c, .slice s.ms.a s.ms.n s.ms.c, .slice s.si.a s.si.n s.si.c, .slice s.so.a s.so.n s.so.c, .slice s.sf.a s.sf.n s.sf.c] 31)).alloc (.cells #[.slice .none 0 0, .slice .none 0 0, .slice .none 0 0, .slice .none 0 0, .slice .none 0 0, .slice .none 0 0, .slice .none 0 0] 31) = W0) := hW
  have leb := hp.leb
  have capb0 := hp.capb
  have les := hp.les
  have caps0 := hp.caps
  have capb := capb0
  have caps := caps0
  have zlt0 := Z0.lt
  unfold maxLen at capb caps
  have osl := hs.os.le
  have osc := hs.os.cap
  unfold maxLen at osc
  clear hW X0 Z0 hp hs
  unfold Pl.val St.val
  go_enter Try.func17, Try.ntmps17
  go_wp2_with fail
  rw [HW.out]
  obtain ⟨X, hpk, hsk, hBw, hz⟩ := HC.out W0 (Below.refl _ _)
  refine (stateCheck_any p s W0 hpk hsk).mono ?_
  rintro e w1 ⟨rfl, hB⟩
  clear X hpk hsk hBw hz HW
  obtain ⟨⟨⟨l1, d0, d1⟩, l2, c0, c1, c2, c3, c4, c5, c6⟩, hpk, hsk, hBw, hz⟩ := HC.out w1 hB
  by_cases h0 : stateE p s = 0
  · have H0 : Hid (stateE p s = 0) := h0
    have HR : Hid (RightT p s) := rightT h0
    rw [h0]
    clear h0
    have HSH : Hid (s.hs.At w1) := hsk.hs
    clear hpk hsk hBw hz
    go_wp2_with fail
    refine (DropOwn_any s.hs order line bin w1 HSH.out).mono ?_
    rintro e w2 ⟨hd, rfl, hdo, hdk, hB2⟩
    clear HSH l1 d0 d1 l2 c0 c1 c2 c3 c4 c5 c6
    rw [dropE_of HR.out.fm.hold, dropN_of HR.out.fm.hold]
    have hB02 := hB.trans (hB2.mono hB.size)
    have A1 : W0.heap.size ≤ w1.heap.size := hB.size
    have A2 : w1.heap.size ≤ w2.heap.size := hB2.size
    have HDO : Hid (OwnH w1.heap.size 54 w2 hd) := hdo
    have HDK : Hid (DropOK s.hs.n s.hs.z order line bin hd) := hdk
    obtain ⟨⟨⟨l1, d0, d1⟩, l2, c0, c1, c2, c3, c4, c5, c6⟩, hpk, hsk, hBw, hz⟩ := HC.out w2 hB02
    clear hdo hdk hB2 hB
    by_cases h1 : keptV s.hs.n s.hs.z order line bin = 0
    · have HX : Hid (pickE p s order line bin n = 4) := pickE_none H0.out h1
      have HNE : Hid (¬ pickE p s order line bin n = 0) := by show ¬ _; rw [HX.out]; decide
      rw [if_pos h1]
      generalize keptV s.hs.n s.hs.z order line bin = KV at *
      simp only [Hs.val]
      clear hpk hsk
      have zl := hz.lt
      have zf0 := hz.frozen 0
      have zc0 := hz.cell (j := 0) (by decide)
      have zf1 := hz.frozen 1
      have zc1 := hz.cell (j := 1) (by decide)
      have zf2 := hz.frozen 2
      have zc2 := hz.cell (j := 2) (by decide)
      have zf3 := hz.frozen 3
      have zc3 := hz.cell (j := 3) (by decide)
      have zf4 := hz.frozen 4
      have zc4 := hz.cell (j := 4) (by decide)
      have zf5 := hz.frozen 5
      have zc5 := hz.cell (j := 5) (by decide)
      have zf6 := hz.frozen 6
      have zc6 := hz.cell (j := 6) (by decide)
      go_wp2_with fail
      have KZ := set7_blk hz (.slice .none 0 0) (.slice .none 0 0) (.slice .none 0 0) (.slice .none 0 0) (.slice .none 0 0) (.slice .none 0 0) (.slice .none 0 0)
      have hbz := set7_below (b := w.heap.size + 2) hBw (by omega) (.slice .none 0 0) (.slice .none 0 0) (.slice .none 0 0) (.slice .none 0 0) (.slice .none 0 0) (.slice .none 0 0) (.slice .none 0 0)
      unfold set7 at KZ hbz
      obtain ⟨c0', c1', c2', c3', c4', c5', c6'⟩ := box_cells KZ
      refine bodyPost_ret (v := .tuple #[noneS.val, .int .i64 4]) (by simp [results, Try.results17, go_sem, noneS, St.val, c0', c1', c2', c3', c4', c5', c6']) rfl ?_
      exact ⟨noneS, by rw [HX.out]; rfl, noneS_at _, ⟨fun h => absurd h (HNE.out), fun _ => ⟨rfl, rfl, rfl, rfl, rfl, rfl, rfl⟩⟩, fun h => absurd h (HNE.out), hbz⟩
    · rw [if_neg h1]
      cases h2 : inB n 0 (keptV s.hs.n s.hs.z order line bin)
      · have HX : Hid (pickE p s order line bin n = 3) := pickE_range H0.out h1 h2
        have HNE : Hid (¬ pickE p s order line bin n = 0) := by show ¬ _; rw [HX.out]; decide
        clear h1
        generalize keptV s.hs.n s.hs.z order line bin = KV at *
        simp only [Hs.val]
        clear hpk hsk
        have zl := hz.lt
        have zf0 := hz.frozen 0
        have zc0 := hz.cell (j := 0) (by decide)
        have zf1 := hz.frozen 1
        have zc1 := hz.cell (j := 1) (by decide)
        have zf2 := hz.frozen 2
        have zc2 := hz.cell (j := 2) (by decide)
        have zf3 := hz.frozen 3
        have zc3 := hz.cell (j := 3) (by decide)
        have zf4 := hz.frozen 4
        have zc4 := hz.cell (j := 4) (by decide)
        have zf5 := hz.frozen 5
        have zc5 := hz.cell (j := 5) (by decide)
        have zf6 := hz.frozen 6
        have zc6 := hz.cell (j := 6) (by decide)
        go_wp2_with (go_at_call 21; refine calls_to (Within_any _ _ _ _) ?_)
        have KZ := set7_blk hz (.slice .none 0 0) (.slice .none 0 0) (.slice .none 0 0) (.slice .none 0 0) (.slice .none 0 0) (.slice .none 0 0) (.slice .none 0 0)
        have hbz := set7_below (b := w.heap.size + 2) hBw (by omega) (.slice .none 0 0) (.slice .none 0 0) (.slice .none 0 0) (.slice .none 0 0) (.slice .none 0 0) (.slice .none 0 0) (.slice .none 0 0)
        unfold set7 at KZ hbz
        obtain ⟨c0', c1', c2', c3', c4', c5', c6'⟩ := box_cells KZ
        refine bodyPost_ret (v := .tuple #[noneS.val, .int .i64 3]) (by simp [results, Try.results17, go_sem, noneS, St.val, c0', c1', c2', c3', c4', c5', c6']) rfl ?_
        exact ⟨noneS, by rw [HX.out]; rfl, noneS_at _, ⟨fun h => absurd h (HNE.out), fun _ => ⟨rfl, rfl, rfl, rfl, rfl, rfl, rfl⟩⟩, fun h => absurd h (HNE.out), hbz⟩
      · obtain ⟨o, l, b, rfl, rfl, rfl, hi⟩ := holdIn HR.out h1
        have HI : Hid (HoldIn p s o l b) := hi
        have gd := HI.out.good
        have bd := HI.out.bd
        have nn := inB_true h2
        have ho := HI.out.on
        have hl := HI.out.ln
        have hb := HI.out.bn
        obtain ⟨g, hg⟩ : ∃ g, lineGood s o l = g := ⟨_, rfl⟩
        have HG : Hid (lineGood s o l = g) := hg
        rw [hg] at gd
        have gl := gd.2
        obtain ⟨bo, oo, hoa, hbo, z0, z1, hlk⟩ := hsk.os.ods o ho
        obtain ⟨bl, ol, hla, hbl, y0, y1, y2, y3⟩ := hlk.hds l hl
        have ll := hlk.le
        have lc := hlk.cap
        unfold maxLen at lc
        have son := HR.out.fm.son
        obtain ⟨bs, os, hsa, hbs, x0c⟩ := hsk.so.ints g (by omega)
        have sol := hsk.so.le
        have soc := hsk.so.cap
        unfold maxLen at soc
        have HSA : Hid (s.so.a = some ⟨bs, os, none⟩) := hsa
        have HOA : Hid (s.os.a = some ⟨bo, oo, none⟩) := hoa
        rw [gd.1] at y0
        rw [hoa] at c1
        rw [hla] at z1
        rw [hsa] at c5
        have q0 : (0 : Int) ≤ (o : Int) := by omega
        have q1 : (o : Int) < (s.os.n : Int) := by omega
        have q2 : (0 : Int) ≤ (l : Int) := by omega
        have q3 : (l : Int) < ((s.os.z o).ls.n : Int) := by omega
        have q4 : (0 : Int) ≤ (g : Int) := by omega
        have sg : g < s.so.n := by omega
        have q5 : (g : Int) < (s.so.n : Int) := by omega
        have sob := HR.out.fm.sob g gl
        have HKV : Hid (heldAt s o l b = keptV s.hs.n s.hs.z o l b) := rfl
        have H1 : Hid (¬ heldAt s o l b = 0) := h1
        have H2 : Hid (inB n 0 (heldAt s o l b) = true) := h2
        have bd' : 1 ≤ keptV s.hs.n s.hs.z o l b ∧ keptV s.hs.n s.hs.z o l b ≤ 200 := ⟨bd.1, bd.2.1⟩
        clear hoa hla hlk hsa y1 y2 y3 z0 gd bd hi hg h1 son
        simp only [Hs.val]
        by_cases h3 : 1048576 < s.so.z g + n
        · have HX : Hid (pickE p s o l b n = 2) := pickE_many H0.out H1.out H2.out (by show 1048576 < s.so.z (lineGood s o l) + n; rw [HG.out]; exact h3)
          have HNE : Hid (¬ pickE p s o l b n = 0) := by show ¬ _; rw [HX.out]; decide
          have h3' : 1048576 - s.so.z g < n := by omega
          generalize keptV s.hs.n s.hs.z o l b = KV at *
          clear h3
          clear hpk hsk
          have zl := hz.lt
          have zf0 := hz.frozen 0
          have zc0 := hz.cell (j := 0) (by decide)
          have zf1 := hz.frozen 1
          have zc1 := hz.cell (j := 1) (by decide)
          have zf2 := hz.frozen 2
          have zc2 := hz.cell (j := 2) (by decide)
          have zf3 := hz.frozen 3
          have zc3 := hz.cell (j := 3) (by decide)
          have zf4 := hz.frozen 4
          have zc4 := hz.cell (j := 4) (by decide)
          have zf5 := hz.frozen 5
          have zc5 := hz.cell (j := 5) (by decide)
          have zf6 := hz.frozen 6
          have zc6 := hz.cell (j := 6) (by decide)
          go_wp2_with (go_at_call 21; refine calls_to (Within_any _ _ _ _) ?_)
          have KZ := set7_blk hz (.slice .none 0 0) (.slice .none 0 0) (.slice .none 0 0) (.slice .none 0 0) (.slice .none 0 0) (.slice .none 0 0) (.slice .none 0 0)
          have hbz := set7_below (b := w.heap.size + 2) hBw (by omega) (.slice .none 0 0) (.slice .none 0 0) (.slice .none 0 0) (.slice .none 0 0) (.slice .none 0 0) (.slice .none 0 0) (.slice .none 0 0)
          unfold set7 at KZ hbz
          obtain ⟨c0', c1', c2', c3', c4', c5', c6'⟩ := box_cells KZ
          refine bodyPost_ret (v := .tuple #[noneS.val, .int .i64 2]) (by simp [results, Try.results17, go_sem, noneS, St.val, c0', c1', c2', c3', c4', c5', c6']) rfl ?_
          exact ⟨noneS, by rw [HX.out]; rfl, noneS_at _, ⟨fun h => absurd h (HNE.out), fun _ => ⟨rfl, rfl, rfl, rfl, rfl, rfl, rfl⟩⟩, fun h => absurd h (HNE.out), hbz⟩
        · have HX : Hid (pickE p s o l b n = 0) := pickE_ok H0.out H1.out H2.out (by show ¬ 1048576 < s.so.z (lineGood s o l) + n; rw [HG.out]; exact h3)
          have HPI : Hid (PickIn p s o l b n) := by
            have h := pickIn HX.out
            obtain ⟨-, o', l', b', e1, e2, e3, h⟩ := h
            have e1' : o' = o := by omega
            have e2' : l' = l := by omega
            have e3' : b' = b := by omega
            rw [e1', e2', e3'] at h
            exact h
          have h3' : ¬ 1048576 - s.so.z g < n := by omega
          have HDN : Hid (hd.n = (dropHs s.hs o l b).n ∧ ∀ j, j < hd.n → hd.z j = (dropHs s.hs o l b).z j) := by
            have k := HDK.out
            unfold DropOK at k
            rw [dropE_of HR.out.fm.hold, if_neg (show ¬ keptV s.hs.n s.hs.z o l b = 0 from H1.out), if_pos rfl] at k
            exact k
          have HCS : Hid (Calls Try.prog 22 #[s.val] w2 fun e w' => ∃ s' : St, e = .returned s'.val ∧ SameT s' s ∧ OwnS w2.heap.size w' s' ∧ Below w2.heap.size w2 w') := copyState_any p s w2 hsk HR.out.fm
          obtain ⟨K, hK⟩ : ∃ K, keptV s.hs.n s.hs.z o l b = K := ⟨_, rfl⟩
          have HK : Hid (heldAt s o l b = K) := hK
          rw [hK] at bd' h2 nn ⊢
          clear hpk hsk hBw hz hK h3 HKV
          go_wp2_with (go_at_call 21; refine calls_to (Within_any _ _ _ _) ?_)
          rw [← HOA.out, ← HSA.out]
          refine Calls.mono HCS.out ?_
          rintro e w4 ⟨x0, rfl, hsame, hown, hB4⟩
          clear HCS l1 d0 d1 l2 c0 c1 c2 c3 c4 c5 c6 z1 hbo hbl hbs y0 x0c h2 h3' HOA HSA
          have x0n : o < x0.os.n := by rw [hsame.os.1]; exact ho
          have xk := hsame.os.2 o x0n
          have x0l : l < (x0.os.z o).ls.n := by rw [xk.2.1]; exact hl
          have x0b : b < x0.on.n := by rw [hsame.on.1, HR.out.fm.sh.n]; exact hb
          have x0g : g < (x0.on.r b).n := by rw [(hsame.on.2 b x0b).1, HR.out.fm.sh.len b (by rw [HR.out.fm.sh.n]; exact hb)]; exact gl
          have x0s : g < x0.so.n := by rw [hsame.so.1]; exact sg
          have HS0 : Hid (SameT x0 s) := hsame
          have HXV : Hid ((0 ≤ (x0.on.r b).z g ∧ (x0.on.r b).z g ≤ 200) ∧ (0 ≤ x0.so.z g ∧ x0.so.z g ≤ 1048576) ∧ (0 ≤ ((x0.os.z o).ls.z l).b ∧ ((x0.os.z o).ls.z l).b ≤ 200) ∧ 0 ≤ ((x0.os.z o).ls.z l).n ∧ ((x0.os.z o).ls.z l).n ≤ 200) := by
            have f := HR.out.fm
            have bl := badLine_no (f.line o ho l hl)
            refine ⟨?_, ?_, ?_⟩
            · rw [hsame.num f hb gl]; exact f.sh.num b (by rw [f.sh.n]; exact hb) g gl
            · rw [hsame.so.2 g x0s]; exact f.sob g gl
            · rw [hsame.line ho hl]; omega
          have v0 := HXV.out
          obtain ⟨W5, hW5, hWB5, K5⟩ : ∃ W, w4.alloc (.cells #[.slice x0.on.a x0.on.n x0.on.c, .slice x0.os.a x0.os.n x0.os.c, .slice hd.a hd.n hd.c, .slice x0.ms.a x0.ms.n x0.ms.c, .slice x0.si.a x0.si.n x0.si.c, .slice x0.so.a x0.so.n x0.so.c, .slice x0.sf.a x0.sf.n x0.sf.c] 31) = W ∧ Below w4.heap.size w4 W ∧ Blk W w4.heap.size 31 7 (fun j => (withHolds x0 hd).cells.getD j default) := ⟨_, rfl, (Below.refl _ _).alloc (Nat.le_refl _) _, Blk.mk' rfl rfl⟩
          have HW5 : Hid (w4.alloc (.cells #[.slice x0.on.a x0.on.n x0.on.c, .slice x0.os.a x0.os.n x0.os.c, .slice hd.a hd.n hd.c, .slice x0.ms.a x0.ms.n x0.ms.c, .slice x0.si.a x0.si.n x0.si.c, .slice x0.so.a x0.so.n x0.so.c, .slice x0.sf.a x0.sf.n x0.sf.c] 31) = W5) := hW5
          have hB25 := hB4.trans (hWB5.mono hB4.size)
          have hB5 := hB02.trans (hB25.mono hB02.size)
          have A3 : w2.heap.size ≤ w4.heap.size := hB4.size
          have HK5 : Hid (RelK w1.heap.size w4.heap.size W0 (withHolds x0 hd) W5) := ⟨((OwnS.below hown hWB5).mono A2).withHolds (HDO.out.below hB25), K5, hB5, by have := hB25.size; omega⟩
          clear hW5 hown K5 hB4 hWB5 hB25 hB5 hsame hB02 xk HXV
          -- what lies there
          obtain ⟨g0, G, a1, a2, a3, a4, a5, a6, a7, a8, a9, a10, a11, a12⟩ := HK5.out.own.onCell x0b x0g
          have u0 : W5.cell? ⟨w4.heap.size, 0, none⟩ = some (.slice x0.on.a x0.on.n x0.on.c) := HK5.out.box.cell (j := 0) (by decide)
          have u00 := HK5.out.box.lt
          have a1' : x0.on.a = some ⟨g0, 0, none⟩ := a1
          have a3' : W5.cell? ⟨g0, b, none⟩ = some (.slice (some ⟨G, 0, none⟩) (x0.on.r b).n (x0.on.r b).c) := a3
          have a7' : (x0.on.r b).n ≤ (x0.on.r b).c := a7
          have a8' : (x0.on.r b).c ≤ maxLen := a8
          have a9' : W5.cell? ⟨G, g, none⟩ = some (.int .i64 ((x0.on.r b).z g)) := a9
          have a11' : x0.on.n ≤ x0.on.c := a11
          have a12' : x0.on.c ≤ maxLen := a12
          have a10g := a10 g
          rw [a1'] at u0
          unfold maxLen at a8' a12'
          have r0 : (0 : Int) ≤ (b : Int) := by omega
          have r1 : (b : Int) < (x0.on.n : Int) := by omega
          have r2 : (g : Int) < ((x0.on.r b).n : Int) := by omega
          have hO6 := HK5.out.own.setOn (b := b) x0b a4 g ((x0.on.r b).z g - n)
          have GB : Blk W5 G 3 (x0.on.r b).n (fun j => .int .i64 ((x0.on.r b).z j)) := by
            obtain ⟨Gq, b1, b2, b3, b4, b5⟩ := HK5.out.own.rows b x0b
            rw [a4] at b1
            simp only [Option.some.injEq, Addr.mk.injEq, and_true] at b1
            subst b1
            exact b5
          have HK6 : Hid (RelK w1.heap.size w4.heap.size W0 (setOn (withHolds x0 hd) b g ((x0.on.r b).z g - n)) (W5.setCell ⟨G, g, none⟩ (.int .i64 ((x0.on.r b).z g - n)))) := ⟨hO6, HK5.out.box.other (a := ⟨G, g, none⟩) (Blk.ne2 HK5.out.box GB (by decide)) _, HK5.out.bel.setCell (p := ⟨G, g, none⟩) (by show W0.heap.size ≤ G; omega) _, by have := HK5.out.le; simpa using this⟩
          clear a1 a1' a3 a4 a5 a7 a8 a9 a10 a11 a12 hO6 GB
          -- what went
          obtain ⟨GS, e1, e2, e3, e4, e5, e6, e7⟩ := HK6.out.own.so.cellAt (g := g) x0s
          have e1' : x0.so.a = some ⟨GS, 0, none⟩ := e1
          have u5 : (W5.setCell ⟨G, g, none⟩ (.int .i64 ((x0.on.r b).z g - n))).cell? ⟨w4.heap.size, 5, none⟩ = some (.slice x0.so.a x0.so.n x0.so.c) := HK6.out.box.cell (j := 5) (by decide)
          have u01 := HK6.out.box.lt
          rw [e1'] at u5
          have e4' : x0.so.n ≤ x0.so.c := e4
          have e5' : x0.so.c ≤ maxLen := e5
          have e6' : (W5.setCell ⟨G, g, none⟩ (.int .i64 ((x0.on.r b).z g - n))).cell? ⟨GS, g, none⟩ = some (.int .i64 (x0.so.z g)) := e6
          unfold maxLen at e5'
          have e7g := e7 g
          have r3 : (g : Int) < (x0.so.n : Int) := by omega
          have GB : Blk (W5.setCell ⟨G, g, none⟩ (.int .i64 ((x0.on.r b).z g - n))) GS 3 x0.so.n (fun j => .int .i64 (x0.so.z j)) := by
            obtain ⟨Gq, b1, b2, b3, b4, b5⟩ := HK6.out.own.so
            have b1' : x0.so.a = some ⟨Gq, 0, none⟩ := b1
            rw [e1'] at b1'
            simp only [Option.some.injEq, Addr.mk.injEq, and_true] at b1'
            subst b1'
            exact b5
          have HK7 : Hid (RelK w1.heap.size w4.heap.size W0 (setOut (setOn (withHolds x0 hd) b g ((x0.on.r b).z g - n)) g (x0.so.z g + n)) ((W5.setCell ⟨G, g, none⟩ (.int .i64 ((x0.on.r b).z g - n))).setCell ⟨GS, g, none⟩ (.int .i64 (x0.so.z g + n)))) := ⟨HK6.out.own.setOut e1 g _, HK6.out.box.other (a := ⟨GS, g, none⟩) (Blk.ne2 HK6.out.box GB (by decide)) _, HK6.out.bel.setCell (p := ⟨GS, g, none⟩) (by show W0.heap.size ≤ GS; omega) _, by have := HK6.out.le; simpa using this⟩
          clear e1 e1' e2 e4 e5 e6 e7 GB HK6
          -- the line
          obtain ⟨gO, BL, f1, f2, f3, f4, f5, f6, f7, f8, f9, f10, f11, f12, f13, f14⟩ := HK7.out.own.lineCell (o := o) (l := l) x0n x0l
          have f1' : x0.os.a = some ⟨gO, 0, none⟩ := f1
          have u1 : ((W5.setCell ⟨G, g, none⟩ (.int .i64 ((x0.on.r b).z g - n))).setCell ⟨GS, g, none⟩ (.int .i64 (x0.so.z g + n))).cell? ⟨w4.heap.size, 1, none⟩ = some (.slice x0.os.a x0.os.n x0.os.c) := HK7.out.box.cell (j := 1) (by decide)
          have u02 := HK7.out.box.lt
          rw [f1'] at u1
          have HF1 : Hid (x0.os.a = some ⟨gO, 0, none⟩) := f1'
          have HF5 : Hid ((x0.os.z o).ls.a = some ⟨BL, 0, none⟩) := f5
          have f4' : ((W5.setCell ⟨G, g, none⟩ (.int .i64 ((x0.on.r b).z g - n))).setCell ⟨GS, g, none⟩ (.int .i64 (x0.so.z g + n))).cell? ⟨gO, o * 2 + 1, none⟩ = some (.slice (some ⟨BL, 0, none⟩) (x0.os.z o).ls.n (x0.os.z o).ls.c) := f4
          have f8' : (x0.os.z o).ls.n ≤ (x0.os.z o).ls.c := f8
          have f9' : (x0.os.z o).ls.c ≤ maxLen := f9
          have f13' : ((W5.setCell ⟨G, g, none⟩ (.int .i64 ((x0.on.r b).z g - n))).setCell ⟨GS, g, none⟩ (.int .i64 (x0.so.z g + n))).cell? ⟨BL, l * 4 + 2, none⟩ = some (.int .i64 ((x0.os.z o).ls.z l).b) := f13
          have ol1 : x0.os.n ≤ x0.os.c := HK7.out.own.os.le
          have oc1 : x0.os.c ≤ maxLen := HK7.out.own.os.cap
          unfold maxLen at f9' oc1
          have f10a := f10 (l * 4 + 2)
          have r4 : (o : Int) < (x0.os.n : Int) := by omega
          have r5 : (l : Int) < ((x0.os.z o).ls.n : Int) := by omega
          obtain ⟨Bq, hla', hAB, -, -, hlb⟩ := HK7.out.own.os.lines o x0n
          have hla2 : (x0.os.z o).ls.a = some ⟨Bq, 0, none⟩ := hla'
          rw [HF5.out] at hla2
          simp only [Option.some.injEq, Addr.mk.injEq, and_true] at hla2
          subst hla2
          have HK8 : Hid (RelK w1.heap.size w4.heap.size W0 (setLine (setOut (setOn (withHolds x0 hd) b g ((x0.on.r b).z g - n)) g (x0.so.z g + n)) o l 2 (((x0.os.z o).ls.z l).b + n)) (((W5.setCell ⟨G, g, none⟩ (.int .i64 ((x0.on.r b).z g - n))).setCell ⟨GS, g, none⟩ (.int .i64 (x0.so.z g + n))).setCell ⟨BL, l * 4 + 2, none⟩ (.int .i64 (((x0.os.z o).ls.z l).b + n)))) := ⟨HK7.out.own.setLine (o := o) x0n HF5.out l 2 (by decide) _, HK7.out.box.other (a := ⟨BL, l * 4 + 2, none⟩) (Blk.ne2 HK7.out.box hlb (by decide)) _, HK7.out.bel.setCell (p := ⟨BL, l * 4 + 2, none⟩) (by show W0.heap.size ≤ BL; omega) _, by have := HK7.out.le; simpa using this⟩
          clear f1 f1' f2 f4 f5 f6 f8 f9 f10 f11 f12 f13 f14 hla' hlb HK7
          have hl8 : l < ((setLine (setOut (setOn (withHolds x0 hd) b g ((x0.on.r b).z g - n)) g (x0.so.z g + n)) o l 2 (((x0.os.z o).ls.z l).b + n)).os.z o).ls.n := by rw [(setLine_n o).1]; exact x0l
          obtain ⟨gO2, BL2, f1, f2, g3, f4, f5, f6, g7, f8, f9, f10, f11, f12, f13, f14⟩ := HK8.out.own.lineCell (o := o) (l := l) x0n hl8
          have f1' : x0.os.a = some ⟨gO2, 0, none⟩ := f1
          rw [HF1.out] at f1'
          simp only [Option.some.injEq, Addr.mk.injEq, and_true] at f1'
          subst f1'
          rw [(setLine_n o).2.1] at f5
          have f5' : (x0.os.z o).ls.a = some ⟨BL2, 0, none⟩ := f5
          rw [HF5.out] at f5'
          simp only [Option.some.injEq, Addr.mk.injEq, and_true] at f5'
          subst f5'
          rw [(setLine_n o).1, (setLine_n o).2.2] at f4
          have g4' : (((W5.setCell ⟨G, g, none⟩ (.int .i64 ((x0.on.r b).z g - n))).setCell ⟨GS, g, none⟩ (.int .i64 (x0.so.z g + n))).setCell ⟨BL, l * 4 + 2, none⟩ (.int .i64 (((x0.os.z o).ls.z l).b + n))).cell? ⟨gO, o * 2 + 1, none⟩ = some (.slice (some ⟨BL, 0, none⟩) (x0.os.z o).ls.n (x0.os.z o).ls.c) := f4
          rw [setLine_at, if_pos ⟨rfl, rfl⟩] at f14
          have f14' : (((W5.setCell ⟨G, g, none⟩ (.int .i64 ((x0.on.r b).z g - n))).setCell ⟨GS, g, none⟩ (.int .i64 (x0.so.z g + n))).setCell ⟨BL, l * 4 + 2, none⟩ (.int .i64 (((x0.os.z o).ls.z l).b + n))).cell? ⟨BL, l * 4 + 3, none⟩ = some (.int .i64 ((x0.os.z o).ls.z l).n) := f14
          have g10a := f10 (l * 4 + 3)
          have HF5b : Hid (((setLine (setOut (setOn (withHolds x0 hd) b g ((x0.on.r b).z g - n)) g (x0.so.z g + n)) o l 2 (((x0.os.z o).ls.z l).b + n)).os.z o).ls.a = some ⟨BL, 0, none⟩) := by show _ = _; rw [(setLine_n o).2.1]; exact HF5.out
          obtain ⟨Bq, hla', hAB, -, -, hlb⟩ := HK8.out.own.os.lines o x0n
          have hla2 := hla'
          rw [HF5b.out] at hla2
          simp only [Option.some.injEq, Addr.mk.injEq, and_true] at hla2
          subst hla2
          have HK9 : Hid (RelK w1.heap.size w4.heap.size W0 (pickW x0 hd o l b g n K) ((((W5.setCell ⟨G, g, none⟩ (.int .i64 ((x0.on.r b).z g - n))).setCell ⟨GS, g, none⟩ (.int .i64 (x0.so.z g + n))).setCell ⟨BL, l * 4 + 2, none⟩ (.int .i64 (((x0.os.z o).ls.z l).b + n))).setCell ⟨BL, l * 4 + 3, none⟩ (.int .i64 (((x0.os.z o).ls.z l).n + (K - n))))) := ⟨HK8.out.own.setLine (o := o) x0n HF5b.out l 3 (by decide) _, HK8.out.box.other (a := ⟨BL, l * 4 + 3, none⟩) (Blk.ne2 HK8.out.box hlb (by decide)) _, HK8.out.bel.setCell (p := ⟨BL, l * 4 + 3, none⟩) (by show W0.heap.size ≤ BL; omega) _, by have := HK8.out.le; simpa using this⟩
          clear f1 f2 f4 f5 f6 f8 f9 f10 f11 f12 f13 f14 hla' hlb HK8
          have HSM : Hid (SameT (pickW x0 hd o l b g n K) (pickS s o l b n)) := by have h := pickW_same (n := n) HS0.out HI.out HDN.out.1 HDN.out.2; rw [HG.out, HK.out] at h; exact h
          have yk : ((pickW x0 hd o l b g n K).os.z o).ls.n = (x0.os.z o).ls.n ∧ ((pickW x0 hd o l b g n K).os.z o).ls.a = (x0.os.z o).ls.a ∧ ((pickW x0 hd o l b g n K).os.z o).ls.c = (x0.os.z o).ls.c := by
            unfold pickW
            rw [(setLine_n o).1, (setLine_n o).1, (setLine_n o).2.1, (setLine_n o).2.1, (setLine_n o).2.2, (setLine_n o).2.2]
            exact ⟨rfl, rfl, rfl⟩
          have HYK : Hid (((pickW x0 hd o l b g n K).os.z o).ls.n = (x0.os.z o).ls.n ∧ ((pickW x0 hd o l b g n K).os.z o).ls.a = (x0.os.z o).ls.a ∧ ((pickW x0 hd o l b g n K).os.z o).ls.c = (x0.os.z o).ls.c) := yk
          obtain ⟨gq, h1, h2', h3, h4, h5, h6⟩ := HK9.out.own.orderCells (o := o) x0n
          have h1' : x0.os.a = some ⟨gq, 0, none⟩ := h1
          rw [HF1.out] at h1'
          simp only [Option.some.injEq, Addr.mk.injEq, and_true] at h1'
          subst h1'
          rw [yk.1, yk.2.1, yk.2.2, HF5.out] at h5
          have HYL : Hid (Hs.At ((((W5.setCell ⟨G, g, none⟩ (.int .i64 ((x0.on.r b).z g - n))).setCell ⟨GS, g, none⟩ (.int .i64 (x0.so.z g + n))).setCell ⟨BL, l * 4 + 2, none⟩ (.int .i64 (((x0.os.z o).ls.z l).b + n))).setCell ⟨BL, l * 4 + 3, none⟩ (.int .i64 (((x0.os.z o).ls.z l).n + (K - n)))) ((pickW x0 hd o l b g n K).os.z o).ls) := by
            obtain ⟨_, _, _, _, _, _, h⟩ := HK9.out.own.at.os.ods o x0n
            exact h
          have HAG : Hid (Calls Try.prog 40 #[.slice (some ⟨BL, 0, none⟩) (x0.os.z o).ls.n (x0.os.z o).ls.c] ((((W5.setCell ⟨G, g, none⟩ (.int .i64 ((x0.on.r b).z g - n))).setCell ⟨GS, g, none⟩ (.int .i64 (x0.so.z g + n))).setCell ⟨BL, l * 4 + 2, none⟩ (.int .i64 (((x0.os.z o).ls.z l).b + n))).setCell ⟨BL, l * 4 + 3, none⟩ (.int .i64 (((x0.os.z o).ls.z l).n + (K - n)))) fun e w' => e = .returned (.bool (gotAll (pickW x0 hd o l b g n K) o)) ∧ Below ((((W5.setCell ⟨G, g, none⟩ (.int .i64 ((x0.on.r b).z g - n))).setCell ⟨GS, g, none⟩ (.int .i64 (x0.so.z g + n))).setCell ⟨BL, l * 4 + 2, none⟩ (.int .i64 (((x0.os.z o).ls.z l).b + n))).setCell ⟨BL, l * 4 + 3, none⟩ (.int .i64 (((x0.os.z o).ls.z l).n + (K - n)))).heap.size ((((W5.setCell ⟨G, g, none⟩ (.int .i64 ((x0.on.r b).z g - n))).setCell ⟨GS, g, none⟩ (.int .i64 (x0.so.z g + n))).setCell ⟨BL, l * 4 + 2, none⟩ (.int .i64 (((x0.os.z o).ls.z l).b + n))).setCell ⟨BL, l * 4 + 3, none⟩ (.int .i64 (((x0.os.z o).ls.z l).n + (K - n)))) w') := by
            have h := allGot_any ((pickW x0 hd o l b g n K).os.z o).ls ((((W5.setCell ⟨G, g, none⟩ (.int .i64 ((x0.on.r b).z g - n))).setCell ⟨GS, g, none⟩ (.int .i64 (x0.so.z g + n))).setCell ⟨BL, l * 4 + 2, none⟩ (.int .i64 (((x0.os.z o).ls.z l).b + n))).setCell ⟨BL, l * 4 + 3, none⟩ (.int .i64 (((x0.os.z o).ls.z l).n + (K - n)))) HYL.out
            rw [HYK.out.1, HYK.out.2.1, HYK.out.2.2, HF5.out] at h
            have e : gotAll (pickW x0 hd o l b g n K) o = !anyB (x0.os.z o).ls.n (fun j => lacksL (((pickW x0 hd o l b g n K).os.z o).ls.z j)) := by unfold gotAll; rw [HYK.out.1]
            rw [e]
            exact h
          clear yk h1 h2' h4 h6 HYL
          rw [← HW5.out] at u0 u00 a2 a3' a6 a9' a10g u5 u01 e3 e6' e7g u1 u02 f3 f4' f7 f13' f10a g3 g4' g7 f14' g10a h3 h5
          simp only [St.val]
          go_wp2_with fail
          rw [HW5.out]
          clear u0 u00 a2 a3' a6 a9' a10g u5 u01 e3 e6' e7g u1 u02 f3 f4' f7 f13' f10a g3 g4' g7 f14' g10a h3 h5 HW5 HK5
          refine Calls.mono HAG.out ?_
          rintro e wx ⟨rfl, hBx⟩
          have HKx : Hid (RelK w1.heap.size w4.heap.size W0 (pickW x0 hd o l b g n K) wx) := HK9.out.below hBx
          clear HAG HK9 hBx
          generalize w4.heap.size = B7 at *
          have HGA : Hid (gotAll (pickW x0 hd o l b g n K) o = gotAll (pickS s o l b n) o) := gotAll_same HSM.out ho
          obtain ⟨y, hy⟩ : ∃ y, pickW x0 hd o l b g n K = y := ⟨_, rfl⟩
          have yo : y.os.a = x0.os.a ∧ y.os.n = x0.os.n ∧ y.os.c = x0.os.c := by rw [← hy]; exact ⟨rfl, rfl, rfl⟩
          have HYO : Hid (y.os.a = some ⟨gO, 0, none⟩) := by show y.os.a = _; rw [yo.1]; exact HF1.out
          have yon : o < y.os.n := by rw [yo.2.1]; exact x0n
          rw [hy] at HKx HSM HGA ⊢
          clear hy yo HYK
          cases hga : gotAll y o
          · have HGF : Hid (gotAll (pickS s o l b n) o = false) := HGA.out.symm.trans hga
            have HST : Hid (StepIn p b y o l (K - n)) := by have h := (HPI.out.stepIn HGF.out).same HSM.out; rw [HK.out] at h; exact h
            have HK1 : Hid ((y.os.z o).k = 1) := (HSM.out.os.2 o yon).1.trans ((pickS_k s o l b n o).1.trans HI.out.kind)
            have HE0 : Hid (allocE p y o l (K - n) b = 0) := by have I := HST.out.allocIn HK1.out; exact I.less ⟨I.n0, Int.le_refl _⟩
            clear hga
            obtain ⟨⟨⟨l1, d0, d1⟩, l2, c0, c1, c2, c3, c4, c5, c6⟩, hpk, hsk, hBw, hz⟩ := HC.out wx HKx.out.bel
            obtain ⟨m1, p0, p1, p2, p3, p4, p5, p6⟩ := Boxed.of HKx.out.box
            have HPK : Hid (p.At wx) := hpk
            clear hpk hsk hBw hz l2 c0 c1 c2 c3 c4 c5 c6
            go_wp2_with fail
            clear l1 d0 d1 m1 p0 p1 p2 p3 p4 p5 p6
            refine (Take_any p y o l (K - n) b wx HPK.out HKx.out.own.at).mono ?_
            rintro e wt ⟨x, rfl, xat, xok, xown, hBt⟩
            have HT : Hid (Step p b y o l (K - n) x) := xok.1 HE0.out
            have HOX : Hid (OwnS w1.heap.size wt x) := (xown HE0.out).mono HKx.out.le
            have HKt : Hid (RelK w1.heap.size B7 W0 y wt) := HKx.out.below hBt
            have hb8 := HKt.out.box
            have bl0 := hb8.lt
            have bf0 := hb8.frozen 0
            have bc0 := hb8.cell (j := 0) (by decide)
            have bf1 := hb8.frozen 1
            have bc1 := hb8.cell (j := 1) (by decide)
            have bf2 := hb8.frozen 2
            have bc2 := hb8.cell (j := 2) (by decide)
            have bf3 := hb8.frozen 3
            have bc3 := hb8.cell (j := 3) (by decide)
            have bf4 := hb8.frozen 4
            have bc4 := hb8.cell (j := 4) (by decide)
            have bf5 := hb8.frozen 5
            have bc5 := hb8.cell (j := 5) (by decide)
            have bf6 := hb8.frozen 6
            have bc6 := hb8.cell (j := 6) (by decide)
            rw [HE0.out]
            clear xat xok xown hBt HPK hb8
            generalize allocL p y o l (K - n) b = LL at *
            obtain ⟨-, -, -, hBw, hz⟩ := HC.out wt HKt.out.bel
            have HZ : Hid (Below w.heap.size w wt ∧ Blk wt (w.heap.size + 2) 31 7 (fun _ => .slice .none 0 0)) := ⟨hBw, hz⟩
            have hlow := (HC.out _ (Below.refl _ _)).2.2.2.1.size
            have bne : B7 ≠ w.heap.size + 2 := by have := HKt.out.box.lt; omega
            have KX := set7_blk HKt.out.box (.slice x.on.a x.on.n x.on.c) (.slice x.os.a x.os.n x.os.c) (.slice x.hs.a x.hs.n x.hs.c) (.slice x.ms.a x.ms.n x.ms.c) (.slice x.si.a x.si.n x.si.c) (.slice x.so.a x.so.n x.so.c) (.slice x.sf.a x.sf.n x.sf.c)
            have hzB := set7_other hz (fun e => bne e.symm) (.slice x.on.a x.on.n x.on.c) (.slice x.os.a x.os.n x.os.c) (.slice x.hs.a x.hs.n x.hs.c) (.slice x.ms.a x.ms.n x.ms.c) (.slice x.si.a x.si.n x.si.c) (.slice x.so.a x.so.n x.so.c) (.slice x.sf.a x.sf.n x.sf.c)
            obtain ⟨x0', x1', x2', x3', x4', x5', x6'⟩ := box_cells KX
            have xm := KX.lt
            have zl := hzB.lt
            have zf0 := hzB.frozen 0
            have zc0 := hzB.cell (j := 0) (by decide)
            have zf1 := hzB.frozen 1
            have zc1 := hzB.cell (j := 1) (by decide)
            have zf2 := hzB.frozen 2
            have zc2 := hzB.cell (j := 2) (by decide)
            have zf3 := hzB.frozen 3
            have zc3 := hzB.cell (j := 3) (by decide)
            have zf4 := hzB.frozen 4
            have zc4 := hzB.cell (j := 4) (by decide)
            have zf5 := hzB.frozen 5
            have zc5 := hzB.cell (j := 5) (by decide)
            have zf6 := hzB.frozen 6
            have zc6 := hzB.cell (j := 6) (by decide)
            have HBS : Hid (Below W0.heap.size W0 (set7 wt B7 (.slice x.on.a x.on.n x.on.c) (.slice x.os.a x.os.n x.os.c) (.slice x.hs.a x.hs.n x.hs.c) (.slice x.ms.a x.ms.n x.ms.c) (.slice x.si.a x.si.n x.si.c) (.slice x.so.a x.so.n x.so.c) (.slice x.sf.a x.sf.n x.sf.c))) := set7_below (b := B7) HKt.out.bel (by omega) (.slice x.on.a x.on.n x.on.c) (.slice x.os.a x.os.n x.os.c) (.slice x.hs.a x.hs.n x.hs.c) (.slice x.ms.a x.ms.n x.ms.c) (.slice x.si.a x.si.n x.si.c) (.slice x.so.a x.so.n x.so.c) (.slice x.sf.a x.sf.n x.sf.c)
            have HOS : Hid (OwnS w1.heap.size (set7 wt B7 (.slice x.on.a x.on.n x.on.c) (.slice x.os.a x.os.n x.os.c) (.slice x.hs.a x.hs.n x.hs.c) (.slice x.ms.a x.ms.n x.ms.c) (.slice x.si.a x.si.n x.si.c) (.slice x.so.a x.so.n x.so.c) (.slice x.sf.a x.sf.n x.sf.c)) x) := OwnS.set7 HOX.out HKt.out.box (.slice x.on.a x.on.n x.on.c) (.slice x.os.a x.os.n x.os.c) (.slice x.hs.a x.hs.n x.hs.c) (.slice x.ms.a x.ms.n x.ms.c) (.slice x.si.a x.si.n x.si.c) (.slice x.so.a x.so.n x.so.c) (.slice x.sf.a x.sf.n x.sf.c)
            have HZB : Hid (Blk (set7 wt B7 (.slice x.on.a x.on.n x.on.c) (.slice x.os.a x.os.n x.os.c) (.slice x.hs.a x.hs.n x.hs.c) (.slice x.ms.a x.ms.n x.ms.c) (.slice x.si.a x.si.n x.si.c) (.slice x.so.a x.so.n x.so.c) (.slice x.sf.a x.sf.n x.sf.c)) (w.heap.size + 2) 31 7 (fun _ => .slice .none 0 0)) := hzB
            have HTS : Hid (SameT x (pickT p s o l b n)) := by
              unfold pickT
              rw [HGF.out, if_neg (by decide)]
              have tk := takeT_step (but := (b : Int)) HPI.out.takeIn
              have T' := HT.out
              rw [← HK.out] at T'
              exact Step.same HPI.out.takeIn HSM.out tk T'
            clear hBw hz KX hzB
            unfold set7 at x0' x1' x2' x3' x4' x5' x6' xm zl zf0 zf1 zf2 zf3 zf4 zf5 zf6 zc0 zc1 zc2 zc3 zc4 zc5 zc6
            simp only [St.val]
            go_wp2_with fail
            have KZ := set7_blk HZB.out (.slice x.on.a x.on.n x.on.c) (.slice x.os.a x.os.n x.os.c) (.slice x.hs.a x.hs.n x.hs.c) (.slice x.ms.a x.ms.n x.ms.c) (.slice x.si.a x.si.n x.si.c) (.slice x.so.a x.so.n x.so.c) (.slice x.sf.a x.sf.n x.sf.c)
            have hbz := set7_below (b := w.heap.size + 2) ((HC.out _ HBS.out).2.2.2.1) (by omega) (.slice x.on.a x.on.n x.on.c) (.slice x.os.a x.os.n x.os.c) (.slice x.hs.a x.hs.n x.hs.c) (.slice x.ms.a x.ms.n x.ms.c) (.slice x.si.a x.si.n x.si.c) (.slice x.so.a x.so.n x.so.c) (.slice x.sf.a x.sf.n x.sf.c)
            have hOz := OwnS.set7 HOS.out HZB.out (.slice x.on.a x.on.n x.on.c) (.slice x.os.a x.os.n x.os.c) (.slice x.hs.a x.hs.n x.hs.c) (.slice x.ms.a x.ms.n x.ms.c) (.slice x.si.a x.si.n x.si.c) (.slice x.so.a x.so.n x.so.c) (.slice x.sf.a x.sf.n x.sf.c)
            unfold set7 at KZ hbz hOz
            obtain ⟨c0', c1', c2', c3', c4', c5', c6'⟩ := box_cells KZ
            refine bodyPost_ret (v := .tuple #[x.val, .int .i64 0]) (by simp [results, Try.results17, go_sem, St.val, c0', c1', c2', c3', c4', c5', c6']) rfl ?_
            exact ⟨x, by rw [HX.out]; rfl, hOz.at, ⟨fun _ => HTS.out, fun h => absurd HX.out h⟩, fun _ => hOz.mono (by omega), hbz⟩
          · have HGT : Hid (gotAll (pickS s o l b n) o = true) := HGA.out.symm.trans hga
            clear hga
            obtain ⟨gq, h1, h2', h3, h4, h5, h6⟩ := HKx.out.own.orderCells (o := o) yon
            rw [HYO.out] at h1
            simp only [Option.some.injEq, Addr.mk.injEq, and_true] at h1
            subst h1
            have h6k := h6 (o * 2)
            obtain ⟨gq, b1, b2, b3⟩ := HKx.out.own.os.list (by omega)
            rw [HYO.out] at b1
            simp only [Option.some.injEq, Addr.mk.injEq, and_true] at b1
            subst b1
            have bneo : gO ≠ B7 := Blk.ne2 b3 HKx.out.box (by decide)
            have HKk : Hid (RelK w1.heap.size B7 W0 (kindS y o 2) (wx.setCell ⟨gO, o * 2, none⟩ (.int .i64 2))) := ⟨HKx.out.own.kind (o := o) yon HYO.out 2, HKx.out.box.other (a := ⟨gO, o * 2, none⟩) bneo.symm _, HKx.out.bel.setCell (p := ⟨gO, o * 2, none⟩) (by show W0.heap.size ≤ gO; omega) _, by have := HKx.out.le; simpa using this⟩
            have HTS : Hid (SameT (kindS y o 2) (pickT p s o l b n)) := by
              unfold pickT
              rw [HGT.out, if_pos rfl]
              exact kindS_same HSM.out o 2
            generalize kindS y o 2 = x at HKk HTS
            obtain ⟨m1, p0, p1, p2, p3, p4, p5, p6⟩ := Boxed.of HKk.out.box
            obtain ⟨-, -, -, hBw, hz⟩ := HC.out _ HKk.out.bel
            have HZ : Hid (Below w.heap.size w (wx.setCell ⟨gO, o * 2, none⟩ (.int .i64 2)) ∧ Blk (wx.setCell ⟨gO, o * 2, none⟩ (.int .i64 2)) (w.heap.size + 2) 31 7 (fun _ => .slice .none 0 0)) := ⟨hBw, hz⟩
            have zl := hz.lt
            have zf0 := hz.frozen 0
            have zc0 := hz.cell (j := 0) (by decide)
            have zf1 := hz.frozen 1
            have zc1 := hz.cell (j := 1) (by decide)
            have zf2 := hz.frozen 2
            have zc2 := hz.cell (j := 2) (by decide)
            have zf3 := hz.frozen 3
            have zc3 := hz.cell (j := 3) (by decide)
            have zf4 := hz.frozen 4
            have zc4 := hz.cell (j := 4) (by decide)
            have zf5 := hz.frozen 5
            have zc5 := hz.cell (j := 5) (by decide)
            have zf6 := hz.frozen 6
            have zc6 := hz.cell (j := 6) (by decide)
            have hlow := (HC.out _ (Below.refl _ _)).2.2.2.1.size
            clear h2' h5 h6 b2 b3 hBw hz HKx
            generalize (y.os.z o).k = KK at *
            go_wp2_with fail
            have KZ := set7_blk HZ.out.2 (.slice x.on.a x.on.n x.on.c) (.slice x.os.a x.os.n x.os.c) (.slice x.hs.a x.hs.n x.hs.c) (.slice x.ms.a x.ms.n x.ms.c) (.slice x.si.a x.si.n x.si.c) (.slice x.so.a x.so.n x.so.c) (.slice x.sf.a x.sf.n x.sf.c)
            have hbz := set7_below (b := w.heap.size + 2) HZ.out.1 (by omega) (.slice x.on.a x.on.n x.on.c) (.slice x.os.a x.os.n x.os.c) (.slice x.hs.a x.hs.n x.hs.c) (.slice x.ms.a x.ms.n x.ms.c) (.slice x.si.a x.si.n x.si.c) (.slice x.so.a x.so.n x.so.c) (.slice x.sf.a x.sf.n x.sf.c)
            have hOz := OwnS.set7 HKk.out.own HZ.out.2 (.slice x.on.a x.on.n x.on.c) (.slice x.os.a x.os.n x.os.c) (.slice x.hs.a x.hs.n x.hs.c) (.slice x.ms.a x.ms.n x.ms.c) (.slice x.si.a x.si.n x.si.c) (.slice x.so.a x.so.n x.so.c) (.slice x.sf.a x.sf.n x.sf.c)
            unfold set7 at KZ hbz hOz
            obtain ⟨c0', c1', c2', c3', c4', c5', c6'⟩ := box_cells KZ
            refine bodyPost_ret (v := .tuple #[x.val, .int .i64 0]) (by simp [results, Try.results17, go_sem, St.val, c0', c1', c2', c3', c4', c5', c6']) rfl ?_
            exact ⟨x, by rw [HX.out]; rfl, hOz.at, ⟨fun _ => HTS.out, fun h => absurd HX.out h⟩, fun _ => hOz.mono (by omega), hbz⟩
  · have HX : Hid (pickE p s order line bin n = stateE p s) := pickE_state h0
    have HNE : Hid (¬ pickE p s order line bin n = 0) := by show ¬ _; rw [pickE_state h0]; exact h0
    have g0 : (stateE p s != 0) = true := by simpa using h0
    clear h0
    clear hpk hsk
    have zl := hz.lt
    have zf0 := hz.frozen 0
    have zc0 := hz.cell (j := 0) (by decide)
    have zf1 := hz.frozen 1
    have zc1 := hz.cell (j := 1) (by decide)
    have zf2 := hz.frozen 2
    have zc2 := hz.cell (j := 2) (by decide)
    have zf3 := hz.frozen 3
    have zc3 := hz.cell (j := 3) (by decide)
    have zf4 := hz.frozen 4
    have zc4 := hz.cell (j := 4) (by decide)
    have zf5 := hz.frozen 5
    have zc5 := hz.cell (j := 5) (by decide)
    have zf6 := hz.frozen 6
    have zc6 := hz.cell (j := 6) (by decide)
    go_wp2_with fail
    have KZ := set7_blk hz (.slice .none 0 0) (.slice .none 0 0) (.slice .none 0 0) (.slice .none 0 0) (.slice .none 0 0) (.slice .none 0 0) (.slice .none 0 0)
    have hbz := set7_below (b := w.heap.size + 2) hBw (by omega) (.slice .none 0 0) (.slice .none 0 0) (.slice .none 0 0) (.slice .none 0 0) (.slice .none 0 0) (.slice .none 0 0) (.slice .none 0 0)
    unfold set7 at KZ hbz
    obtain ⟨c0', c1', c2', c3', c4', c5', c6'⟩ := box_cells KZ
    refine bodyPost_ret (v := .tuple #[noneS.val, .int .i64 (stateE p s)]) (by simp [results, Try.results17, go_sem, noneS, St.val, c0', c1', c2', c3', c4', c5', c6']) rfl ?_
    exact ⟨noneS, by rw [HX.out]; rfl, noneS_at _, ⟨fun h => absurd h (HNE.out), fun _ => ⟨rfl, rfl, rfl, rfl, rfl, rfl, rfl⟩⟩, fun h => absurd h (HNE.out), hbz⟩
end Go.Proofs.Ytbcacebifpagpaf
namespace Go.Proofs.Ytbcacebifpagpaf
open Go.RowKit Go.Shelf Go.Sort
set_option linter.unusedVariables false
set_option maxRecDepth 100000 in
set_option maxHeartbeats 8000000 in
theorem BookDone_walk (p : Pl) (s : St)  (w : World) (hp : p.At w) (hs : s.At w) :
    Calls Try.prog 5 #[p.val, s.val] w fun e w' => e = .returned (.bool true) ∧ Below w.heap.size w w' := by
  obtain ⟨W0, hW, hWB, X0⟩ : ∃ W, ((w.alloc (.cells #[.slice p.ab p.nb p.cb, .slice p.sa p.ns p.cs] 25)).alloc (.cells s.cells 31)) = W ∧ Below w.heap.size w W ∧ Boxes W w.heap.size (w.heap.size + 1) p s := ⟨_, rfl, two_below _ _ _, boxes_new w p s _ _⟩
  have HC : Hid (∀ wk, Below W0.heap.size W0 wk → Boxes wk w.heap.size (w.heap.size + 1) p s ∧ p.At wk ∧ s.At wk ∧ Below w.heap.size w wk) := fun wk h => ⟨X0.below h, (hp.below hWB).below h, (hs.below hWB).below h, hWB.trans (h.mono hWB.size)⟩
  have HW : Hid ((w.alloc (.cells #[.slice p.ab p.nb p.cb, .slice p.sa p.ns p.cs] 25)).alloc (.cells #[.slice s.on.a s.on.n s.on.c, .slice s.os.a s.os.n s.os.c, .slice s.hs.a s.hs.n s.hs.c, .slice s.ms.a s.ms.n s.ms.c, .slice s.si.a s.si.n s.si.c, .slice s.so.a s.so.n s.so.c, .slice s.sf.a s.sf.n s.sf.c] 31) = W0) := hW
  have HB : Hid (Below W0.heap.size W0 W0) := Below.refl _ _
  have leb := hp.leb
  have capb0 := hp.capb
  have capb := capb0
  unfold maxLen at capb
  clear hW X0 hp hs
  unfold Pl.val St.val
  go_enter Try.func5, Try.ntmps5
  go_wp2_with fail
  rw [HW.out]
  clear HW
  refine Calls.mono (Release_any p s W0 (HC.out W0 HB.out).2.1 (HC.out W0 HB.out).2.2.1) ?_
  rintro e w1 ⟨x, rfl, xat, xok, -, hB⟩
  have HXOK : Hid (RelOK p s x) := xok
  have HW01 : Hid (W0.heap.size ≤ w1.heap.size) := hB.size
  clear xok
  have HB : Hid (Below W0.heap.size W0 w1) := HB.out.trans (hB.mono HB.out.size)
  clear hB
  obtain ⟨W2, hW, hWB, K1⟩ : ∃ W, w1.alloc (.cells #[.slice x.on.a x.on.n x.on.c, .slice x.os.a x.os.n x.os.c, .slice x.hs.a x.hs.n x.hs.c, .slice x.ms.a x.ms.n x.ms.c, .slice x.si.a x.si.n x.si.c, .slice x.so.a x.so.n x.so.c, .slice x.sf.a x.sf.n x.sf.c] 31) = W ∧ Below w1.heap.size w1 W ∧ Blk W w1.heap.size 31 7 (fun j => x.cells.getD j default) := ⟨_, rfl, (Below.refl _ _).alloc (Nat.le_refl _) _, Blk.mk' rfl rfl⟩
  have HW : Hid (w1.alloc (.cells #[.slice x.on.a x.on.n x.on.c, .slice x.os.a x.os.n x.os.c, .slice x.hs.a x.hs.n x.hs.c, .slice x.ms.a x.ms.n x.ms.c, .slice x.si.a x.si.n x.si.c, .slice x.so.a x.so.n x.so.c, .slice x.sf.a x.sf.n x.sf.c] 31) = W2) := hW
  have Hx : Hid (x.At W2 ∧ Blk W2 w1.heap.size 31 7 (fun j => x.cells.getD j default)) := ⟨xat.below hWB, K1⟩
  clear hW K1 xat
  have HB : Hid (Below W0.heap.size W0 W2) := HB.out.trans (hWB.mono HB.out.size)
  clear hWB
  by_cases h0 : stateE p s = 0
  · have HD : Hid (DoneIn p x) := released_done (rightT h0) (HXOK.out.1 h0)
    have h72 : 0 + x.hs.n ≤ 72 := by have := HD.out.r.fm.hs72; omega
    have hbx : W0.heap.size ≤ w1.heap.size := HW01.out
    rw [h0]
    clear h0 HXOK
    obtain ⟨xm, xc0, xc1, xc2, xc3, xc4, xc5, xc6⟩ := Boxed.of Hx.out.2
    rw [← HW.out] at xm xc0 xc1 xc2 xc3 xc4 xc5 xc6
    simp only [St.val]
    go_wp2_with fail
    rw [HW.out]
    clear HW
    generalize w1.heap.size = Bx at *
    clear xm xc0 xc1 xc2 xc3 xc4 xc5 xc6
    go_loopw [7] (fun nv wk => ∃ (m : Nat) (x : St), nv = .int .i64 m ∧ m + x.hs.n ≤ 72 ∧ Hid (DoneIn p x) ∧ Hid (x.At wk ∧ Blk wk Bx 31 7 (fun j => x.cells.getD j default)) ∧ Hid (Below W0.heap.size W0 wk)) (fun nv _ => 73 - (intOf nv).toNat)
    case atStart => exact ⟨0, x, rfl, h72, HD, Hx, HB⟩
    case round =>
      clear HD Hx HB h72
      obtain ⟨m, x, rfl, h72, HD, Hx, HB⟩ := hrel
      have os4 := HD.out.r.fm.os4
      have hsl := Hx.out.1.hs.le
      have hsc := Hx.out.1.hs.cap
      unfold maxLen at hsc
      have osl := Hx.out.1.os.le
      have osc := Hx.out.1.os.cap
      unfold maxLen at osc
      by_cases hx0 : 0 < x.hs.n
      · obtain ⟨⟨⟨l1, d0, d1⟩, l2, c0, c1, c2, c3, c4, c5, c6⟩, -, -, -⟩ := HC.out wr HB.out
        obtain ⟨xm, xc0, xc1, xc2, xc3, xc4, xc5, xc6⟩ := Boxed.of Hx.out.2
        have q0 : (0 : Int) < (x.hs.n : Int) := by omega
        obtain ⟨b5, o5, ha5, hb5, y50, y51, y52, y53⟩ := Hx.out.1.hs.hds 0 hx0
        obtain ⟨Z, hZ⟩ : ∃ Z, x.hs.z 0 = Z := ⟨_, rfl⟩
        have HZ : Hid (x.hs.z 0 = Z) := hZ
        have HP : Hid (pickE p x Z.o Z.l Z.b Z.n = 0 ∨ pickE p x Z.o Z.l Z.b Z.n = 2) := by have h := first_pick HD.out.r hx0; rw [hZ] at h; exact h
        rw [hZ] at y50 y51 y52 y53
        simp only [Nat.zero_mul, Nat.add_zero] at y50 y51 y52 y53
        have HA5 : Hid (x.hs.a = some ⟨b5, o5, none⟩) := ha5
        rw [ha5] at xc2
        clear hZ ha5
        obtain ⟨W3, hW, hWB, K1⟩ : ∃ W, wr.alloc (.cells #[.int .i64 Z.o, .int .i64 Z.l, .int .i64 Z.b, .int .i64 Z.n] 54) = W ∧ Below wr.heap.size wr W ∧ Blk W wr.heap.size 54 4 (fun j => (#[.int .i64 Z.o, .int .i64 Z.l, .int .i64 Z.b, .int .i64 Z.n] : Array Value).getD j default) := ⟨_, rfl, (Below.refl _ _).alloc (Nat.le_refl _) _, Blk.mk' rfl rfl⟩
        have HW : Hid (wr.alloc (.cells #[.int .i64 Z.o, .int .i64 Z.l, .int .i64 Z.b, .int .i64 Z.n] 54) = W3) := hW
        have HLB : Hid (Blk W3 wr.heap.size 54 4 (fun j => (#[.int .i64 Z.o, .int .i64 Z.l, .int .i64 Z.b, .int .i64 Z.n] : Array Value).getD j default)) := K1
        clear hW K1
        have Hx : Hid (x.At W3 ∧ Blk W3 Bx 31 7 (fun j => x.cells.getD j default)) := ⟨Hx.out.1.below hWB, Hx.out.2.below hWB⟩
        have HB : Hid (Below W0.heap.size W0 W3) := HB.out.trans (hWB.mono HB.out.size)
        clear hWB
        go_wp2_with fail
        rw [HW.out, ← HA5.out]
        clear HW hb5 y50 y51 y52 y53 l1 d0 d1 l2 c0 c1 c2 c3 c4 c5 c6 xm xc0 xc1 xc2 xc3 xc4 xc5 xc6
        refine Calls.mono (Pick_any p x Z.o Z.l Z.b Z.n W3 (HC.out W3 HB.out).2.1 Hx.out.1) ?_
        rintro e w4 ⟨u, rfl, uat, uok, uown, hB⟩
        have HUOK : Hid (ActOK (pickE p x Z.o Z.l Z.b Z.n) (pickT p x Z.o.toNat Z.l.toNat Z.b.toNat Z.n) u) := uok
        have HUO : Hid (pickE p x Z.o Z.l Z.b Z.n = 0 → OwnS W3.heap.size w4 u) := uown
        have uhl := uat.hs.le
        have uhc := uat.hs.cap
        unfold maxLen at uhc
        clear uok uown HLB
        have Hx : Hid (x.At w4 ∧ Blk w4 Bx 31 7 (fun j => x.cells.getD j default)) := ⟨Hx.out.1.below hB, Hx.out.2.below hB⟩
        have HB : Hid (Below W0.heap.size W0 w4) := HB.out.trans (hB.mono HB.out.size)
        clear hB
        obtain ⟨W5, hW, hWB, K1⟩ : ∃ W, w4.alloc (.cells #[.slice u.on.a u.on.n u.on.c, .slice u.os.a u.os.n u.os.c, .slice u.hs.a u.hs.n u.hs.c, .slice u.ms.a u.ms.n u.ms.c, .slice u.si.a u.si.n u.si.c, .slice u.so.a u.so.n u.so.c, .slice u.sf.a u.sf.n u.sf.c] 31) = W ∧ Below w4.heap.size w4 W ∧ Blk W w4.heap.size 31 7 (fun j => u.cells.getD j default) := ⟨_, rfl, (Below.refl _ _).alloc (Nat.le_refl _) _, Blk.mk' rfl rfl⟩
        have HW : Hid (w4.alloc (.cells #[.slice u.on.a u.on.n u.on.c, .slice u.os.a u.os.n u.os.c, .slice u.hs.a u.hs.n u.hs.c, .slice u.ms.a u.ms.n u.ms.c, .slice u.si.a u.si.n u.si.c, .slice u.so.a u.so.n u.so.c, .slice u.sf.a u.sf.n u.sf.c] 31) = W5) := hW
        have Hu : Hid (u.At W5 ∧ Blk W5 w4.heap.size 31 7 (fun j => u.cells.getD j default)) := ⟨uat.below hWB, K1⟩
        clear hW K1 uat
        have Hx : Hid (x.At W5 ∧ Blk W5 Bx 31 7 (fun j => x.cells.getD j default)) := ⟨Hx.out.1.below hWB, Hx.out.2.below hWB⟩
        have HB : Hid (Below W0.heap.size W0 W5) := HB.out.trans (hWB.mono HB.out.size)
        clear hWB
        have hB45 : Below w4.heap.size w4 W5 := by rw [← HW.out]; exact (Below.refl _ _).alloc (Nat.le_refl _) _
        by_cases e0 : pickE p x Z.o Z.l Z.b Z.n = 0
        · have HPD : Hid (DoneIn p u ∧ u.hs.n + 1 = x.hs.n) := by
            have h := pick_done (x := u) HD.out hx0 (by rw [HZ.out]; exact e0) (by rw [HZ.out]; exact HUOK.out.1 e0)
            exact h
          have HOU : Hid (OwnS W3.heap.size W5 u) := (HUO.out e0).below hB45
          have un := HPD.out.2
          have u1 : ((u.hs.n : Int) != (x.hs.n : Int) - 1) = false := by rw [← un]; simp
          have u2 : decide ((72 : Int) < (m : Int)) = false := decide_eq_false (by omega)
          have u3 : (m : Int) ≤ 72 := by omega
          rw [e0]
          clear un e0 HUOK HUO HP HZ
          obtain ⟨⟨⟨l1, d0, d1⟩, l2, c0, c1, c2, c3, c4, c5, c6⟩, -, -, -⟩ := HC.out W5 HB.out
          obtain ⟨xm, xc0, xc1, xc2, xc3, xc4, xc5, xc6⟩ := Boxed.of Hx.out.2
          obtain ⟨um, uc0, uc1, uc2, uc3, uc4, uc5, uc6⟩ := Boxed.of Hu.out.2
          rw [← HW.out] at l1 d0 d1 l2 c0 c1 c2 c3 c4 c5 c6 xm xc0 xc1 xc2 xc3 xc4 xc5 xc6 um uc0 uc1 uc2 uc3 uc4 uc5 uc6
          have hbx2 := Hx.out.2
          have KX := set7_blk Hx.out.2 (.slice u.on.a u.on.n u.on.c) (.slice u.os.a u.os.n u.os.c) (.slice u.hs.a u.hs.n u.hs.c) (.slice u.ms.a u.ms.n u.ms.c) (.slice u.si.a u.si.n u.si.c) (.slice u.so.a u.so.n u.so.c) (.slice u.sf.a u.sf.n u.sf.c)
          have hoz := OwnS.set7 HOU.out Hx.out.2 (.slice u.on.a u.on.n u.on.c) (.slice u.os.a u.os.n u.os.c) (.slice u.hs.a u.hs.n u.hs.c) (.slice u.ms.a u.ms.n u.ms.c) (.slice u.si.a u.si.n u.si.c) (.slice u.so.a u.so.n u.so.c) (.slice u.sf.a u.sf.n u.sf.c)
          have hbz := set7_below (b := Bx) HB.out hbx (.slice u.on.a u.on.n u.on.c) (.slice u.os.a u.os.n u.os.c) (.slice u.hs.a u.hs.n u.hs.c) (.slice u.ms.a u.ms.n u.ms.c) (.slice u.si.a u.si.n u.si.c) (.slice u.so.a u.so.n u.so.c) (.slice u.sf.a u.sf.n u.sf.c)
          have HKX : Hid (u.At (set7 W5 Bx (.slice u.on.a u.on.n u.on.c) (.slice u.os.a u.os.n u.os.c) (.slice u.hs.a u.hs.n u.hs.c) (.slice u.ms.a u.ms.n u.ms.c) (.slice u.si.a u.si.n u.si.c) (.slice u.so.a u.so.n u.so.c) (.slice u.sf.a u.sf.n u.sf.c)) ∧ Blk (set7 W5 Bx (.slice u.on.a u.on.n u.on.c) (.slice u.os.a u.os.n u.os.c) (.slice u.hs.a u.hs.n u.hs.c) (.slice u.ms.a u.ms.n u.ms.c) (.slice u.si.a u.si.n u.si.c) (.slice u.so.a u.so.n u.so.c) (.slice u.sf.a u.sf.n u.sf.c)) Bx 31 7 (fun j => u.cells.getD j default)) := ⟨hoz.at, KX⟩
          have HBZ : Hid (Below W0.heap.size W0 (set7 W5 Bx (.slice u.on.a u.on.n u.on.c) (.slice u.os.a u.os.n u.os.c) (.slice u.hs.a u.hs.n u.hs.c) (.slice u.ms.a u.ms.n u.ms.c) (.slice u.si.a u.si.n u.si.c) (.slice u.so.a u.so.n u.so.c) (.slice u.sf.a u.sf.n u.sf.c))) := hbz
          have xf0 := hbx2.frozen 0
          have xf1 := hbx2.frozen 1
          have xf2 := hbx2.frozen 2
          have xf3 := hbx2.frozen 3
          have xf4 := hbx2.frozen 4
          have xf5 := hbx2.frozen 5
          have xf6 := hbx2.frozen 6
          rw [← HW.out] at xf0 xf1 xf2 xf3 xf4 xf5 xf6
          clear hbx2 KX hoz hbz HOU
          simp only [St.val]
          go_wp2_with fail
          unfold set7 at HKX HBZ
          rw [← HW.out] at HKX HBZ
          go_roundw
          case rel => exact ⟨m + 1, u, by go_num, by have := HPD.out.2; omega, (⟨HPD.out.1.r, HPD.out.1.kd⟩ : DoneIn p u), HKX, HBZ⟩
          case measure => simp [intOf]; omega
        · have e2 : pickE p x Z.o Z.l Z.b Z.n = 2 := HP.out.resolve_left e0
          rw [e2]
          clear e0 e2 HUOK HUO HP
          simp only [St.val]
          go_wp2_with fail
          rw [HW.out]
          clear HW
          generalize w4.heap.size = Bu at *
          refine Calls.mono (bookBegun_any W5) ?_
          rintro e w8 ⟨rfl, hB⟩
          have Hx : Hid (x.At w8 ∧ Blk w8 Bx 31 7 (fun j => x.cells.getD j default)) := ⟨Hx.out.1.below hB, Hx.out.2.below hB⟩
          have Hu : Hid (u.At w8 ∧ Blk w8 Bu 31 7 (fun j => u.cells.getD j default)) := ⟨Hu.out.1.below hB, Hu.out.2.below hB⟩
          have HB : Hid (Below W0.heap.size W0 w8) := HB.out.trans (hB.mono HB.out.size)
          clear hB
          go_wp2_with fail
          go_ret
          exact ⟨rfl, (HC.out w8 HB.out).2.2.2⟩
      · have hx1 : x.hs.n = 0 := by omega
        have HX0 : Hid (x.hs.n = 0) := hx1
        have HLK : Hid (∀ i, i < x.os.n → ¬ (x.os.z i).k = 2 → ¬ backTo (x.os.z i).ls.z (x.os.z i).ls.n = 0) := fun i hi hk => done_lack HD.out HX0.out hi hk
        have q0 : (x.hs.n : Int) ≤ 0 := by omega
        have HEX : Hid (stateE p x = 0) := stateE_of HD.out.r
        have HOV : Hid (openV p x = (openN x x.os.n : Nat)) := by show openV p x = _; unfold openV; rw [if_pos HEX.out]
        clear hx1 hx0
        obtain ⟨⟨⟨l1, d0, d1⟩, l2, c0, c1, c2, c3, c4, c5, c6⟩, -, -, -⟩ := HC.out wr HB.out
        obtain ⟨xm, xc0, xc1, xc2, xc3, xc4, xc5, xc6⟩ := Boxed.of Hx.out.2
        go_wp2_with fail
        clear l1 d0 d1 l2 c0 c1 c2 c3 c4 c5 c6 xm xc0 xc1 xc2 xc3 xc4 xc5 xc6
        refine Calls.mono (Open_any p x wr (HC.out wr HB.out).2.1 Hx.out.1) ?_
        rintro e w4 ⟨rfl, hB⟩
        have Hx : Hid (x.At w4 ∧ Blk w4 Bx 31 7 (fun j => x.cells.getD j default)) := ⟨Hx.out.1.below hB, Hx.out.2.below hB⟩
        have HB : Hid (Below W0.heap.size W0 w4) := HB.out.trans (hB.mono HB.out.size)
        clear hB
        rw [HOV.out, HEX.out]
        go_wp2_with fail
        go_loopw [13, 14] (fun lv iv wk => ∃ i : Nat, i ≤ x.os.n ∧ iv = .int .i64 i ∧ lv = .int .i64 (openN x i : Nat) ∧ Hid (x.At wk ∧ Blk wk Bx 31 7 (fun j => x.cells.getD j default)) ∧ Hid (Below W0.heap.size W0 wk)) (fun lv iv _ => x.os.n - (intOf iv).toNat)
        case atStart => exact ⟨0, Nat.zero_le _, rfl, rfl, Hx, HB⟩
        case round =>
          clear Hx HB
          obtain ⟨i, hi, rfl, rfl, Hx, HB⟩ := hrel
          have on := openN_le x i
          by_cases hil : i < x.os.n
          · have q2 : (0 : Int) ≤ (i : Int) := by omega
            have q3 : (i : Int) < (x.os.n : Int) := by omega
            have ln3 := (HD.out.r.fm.lns i hil).2
            obtain ⟨xm, xc0, xc1, xc2, xc3, xc4, xc5, xc6⟩ := Boxed.of Hx.out.2
            go_wp2_with fail
            clear xm xc0 xc1 xc2 xc3 xc4 xc5 xc6
            go_loopw [15, 16] (fun bv jv wk => ∃ j : Nat, j ≤ (x.os.z i).ls.n ∧ jv = .int .i64 j ∧ bv = .int .i64 (backTo (x.os.z i).ls.z j) ∧ Hid (x.At wk ∧ Blk wk Bx 31 7 (fun j => x.cells.getD j default)) ∧ Hid (Below W0.heap.size W0 wk)) (fun bv jv _ => (x.os.z i).ls.n - (intOf jv).toNat)
            case atStart => exact ⟨0, Nat.zero_le _, rfl, rfl, Hx, HB⟩
            case round =>
              clear Hx HB
              obtain ⟨j, hj, rfl, rfl, Hx, HB⟩ := hrel
              obtain ⟨xm, xc0, xc1, xc2, xc3, xc4, xc5, xc6⟩ := Boxed.of Hx.out.2
              obtain ⟨bo, oo, hoa, hbo, z0, z1, hlk⟩ := Hx.out.1.os.ods i hil
              have lle := hlk.le
              have lcp := hlk.cap
              unfold maxLen at lcp
              rw [hoa] at xc1
              clear hoa
              have HBB : Hid (∀ q, q < (x.os.z i).ls.n → 0 ≤ ((x.os.z i).ls.z q).n ∧ ((x.os.z i).ls.z q).n ≤ 200) := fun q hq => by
                obtain ⟨-, ⟨l1, l2⟩, ⟨b1, b2⟩, n1, n2⟩ := badLine_no (HD.out.r.fm.line i hil q hq)
                omega
              have bb := backTo_bd (z := (x.os.z i).ls.z) (k := j) fun q hq => HBB.out q (by omega)
              by_cases hjl : j < (x.os.z i).ls.n
              · have q4 : (0 : Int) ≤ (j : Int) := by omega
                have q5 : (j : Int) < ((x.os.z i).ls.n : Int) := by omega
                obtain ⟨bl, ol, hla, hbl, y0, y1, y2, y3⟩ := hlk.hds j hjl
                have nb := HBB.out j hjl
                rw [hla] at z1
                have HNX : Hid (backTo (x.os.z i).ls.z (j + 1) = backTo (x.os.z i).ls.z j + ((x.os.z i).ls.z j).n) := rfl
                clear hla hlk
                generalize ((x.os.z i).ls.z j).n = NB at *
                generalize backTo (x.os.z i).ls.z j = BK at *
                go_wp2_with fail
                clear hbo z0 z1 hbl y0 y1 y2 y3 xm xc0 xc1 xc2 xc3 xc4 xc5 xc6
                go_roundw
                case rel => exact ⟨j + 1, by omega, by go_num, by rw [HNX.out], Hx, HB⟩
                case measure => simp [intOf]; omega
              · have q5 : ((x.os.z i).ls.n : Int) ≤ (j : Int) := by omega
                have hlk2 := HLK.out i hil
                rw [show (x.os.z i).ls.n = j by omega] at hlk2
                clear hlk
                have HOH : Hid ((x.os.z i).k = 2 → openN x (i + 1) = openN x i) := fun h => openN_hit h
                have HOM : Hid (¬ (x.os.z i).k = 2 → openN x (i + 1) = openN x i + 1) := fun h => openN_miss h
                generalize (x.os.z i).k = KD at *
                generalize backTo (x.os.z i).ls.z j = BK at *
                by_cases hk : KD = 2
                · have hk' : (KD != 2) = false := by rw [hk]; rfl
                  have HON : Hid (openN x (i + 1) = openN x i) := HOH.out hk
                  clear hk hlk2 HOH HOM
                  go_wp2_with fail
                  clear hbo z0 z1 xm xc0 xc1 xc2 xc3 xc4 xc5 xc6
                  go_roundw
                  case rel => exact ⟨i + 1, by omega, by go_num, by rw [HON.out], Hx, HB⟩
                  case measure => simp [intOf]; omega
                · have hk' : (KD != 2) = true := by simpa using hk
                  have HON : Hid (openN x (i + 1) = openN x i + 1) := HOM.out hk
                  have bz : (BK == 0) = false := by simpa using hlk2 hk
                  clear hk hlk2 HOH HOM
                  go_wp2_with fail
                  clear hbo z0 z1 xm xc0 xc1 xc2 xc3 xc4 xc5 xc6
                  go_roundw
                  case rel => exact ⟨i + 1, by omega, by go_num, by rw [HON.out]; go_num, Hx, HB⟩
                  case measure => simp [intOf]; omega
          · have q3 : (x.os.n : Int) ≤ (i : Int) := by omega
            have HIN : Hid (openN x i = openN x x.os.n) := by show openN x i = _; rw [show i = x.os.n by omega]
            obtain ⟨xm, xc0, xc1, xc2, xc3, xc4, xc5, xc6⟩ := Boxed.of Hx.out.2
            go_wp2_with fail
            clear xm xc0 xc1 xc2 xc3 xc4 xc5 xc6
            refine Calls.mono (bookBegun_any wr) ?_
            rintro e w6 ⟨rfl, hB⟩
            have Hx : Hid (x.At w6 ∧ Blk w6 Bx 31 7 (fun j => x.cells.getD j default)) := ⟨Hx.out.1.below hB, Hx.out.2.below hB⟩
            have HB : Hid (Below W0.heap.size W0 w6) := HB.out.trans (hB.mono HB.out.size)
            clear hB
            obtain ⟨⟨⟨l1, d0, d1⟩, l2, c0, c1, c2, c3, c4, c5, c6⟩, -, -, -⟩ := HC.out w6 HB.out
            obtain ⟨xm, xc0, xc1, xc2, xc3, xc4, xc5, xc6⟩ := Boxed.of Hx.out.2
            go_wp2_with fail
            clear l1 d0 d1 l2 c0 c1 c2 c3 c4 c5 c6 xm xc0 xc1 xc2 xc3 xc4 xc5 xc6
            refine Calls.mono (Check_rightW p x w6 (HC.out w6 HB.out).2.1 Hx.out.1 HEX.out) ?_
            rintro e w7 ⟨rfl, hB⟩
            have Hx : Hid (x.At w7 ∧ Blk w7 Bx 31 7 (fun j => x.cells.getD j default)) := ⟨Hx.out.1.below hB, Hx.out.2.below hB⟩
            have HB : Hid (Below W0.heap.size W0 w7) := HB.out.trans (hB.mono HB.out.size)
            clear hB
            rw [HIN.out]
            go_wp2_with fail
            go_ret
            exact ⟨by simp, (HC.out w7 HB.out).2.2.2⟩
  · have g0 : (stateE p s != 0) = true := by simpa using h0
    clear h0 HXOK
    generalize stateE p s = EE at *
    simp only [St.val]
    go_wp2_with fail
    rw [HW.out]
    clear HW
    generalize w1.heap.size = Bx at *
    refine Calls.mono (bookBegun_any W2) ?_
    rintro e w3 ⟨rfl, hB⟩
    have Hx : Hid (x.At w3 ∧ Blk w3 Bx 31 7 (fun j => x.cells.getD j default)) := ⟨Hx.out.1.below hB, Hx.out.2.below hB⟩
    have HB : Hid (Below W0.heap.size W0 w3) := HB.out.trans (hB.mono HB.out.size)
    clear hB
    go_wp2_with fail
    go_ret
    exact ⟨rfl, (HC.out w3 HB.out).2.2.2⟩
end Go.Proofs.Ytbcacebifpagpaf
namespace Go.Proofs.Ytbcacebifpagpaf
open Go.ChangeShapes Go.WideShapes Go.ChangeAt Go.RowKit Go.Joins Go.Deep
set_option linter.unusedVariables false
set_option maxRecDepth 100000
theorem own : ownKnob Try.prog.godebug = none := by kernel_rfl
theorem laidOut : laidOutB Try.prog = true := by kernel_rfl
theorem cellsInt : Try.prog.cellsOf 3 = 1 := by kernel_rfl
theorem cellsInts : Try.prog.cellsOf 23 = 1 := by kernel_rfl
theorem cellsBin : Try.prog.cellsOf 105 = 4 := by kernel_rfl
theorem cellsPlan : Try.prog.cellsOf 25 = 2 := by kernel_rfl
theorem cellsBool : Try.prog.cellsOf 4 = 1 := by kernel_rfl
section
variable {H : Type} {enc : TypeId × Value → H} {w : World} {held : Bool} {spare : Nat → Bool}
theorem addrOf {a : Addr} {i : Nat} {v : Value} (h : w.cell? (a.add i) = some v) (h0 : ∃ v0, w.cell? a = some v0) : ∃ b o, a = ⟨b, o, none⟩ ∧ b < w.heap.size ∧ w.cell? ⟨b, o + i, none⟩ = some v := by
  obtain ⟨b, off, spot⟩ := a
  obtain ⟨v0, h0⟩ := h0
  have hspot : spot = none := World.cell?_spot h0
  subst hspot
  refine ⟨b, off, rfl, World.block_lt_of_cell? w _ h0, ?_⟩
  rw [← Go.WideShapes.add_plain]
  exact h
theorem readInts {fuel : Nat} {cs : List Value} {x : DataW H × List MemPlace} (h : DataW.trod enc Try.prog w 0 spare held fuel 23 cs = some x) : ∃ r : Rw, cs = [r.val] ∧ r.At w := by
  rcases open_slice1 Try.underlying23 cellsInt h with ⟨rfl, _⟩ | ⟨a, len, cap, m, n, V, D, Pl, rfl, hb, hl, hm, hmm, _, hx⟩
  · exact ⟨⟨none, 0, 0, fun _ => 0⟩, rfl, Nat.le_refl _, Nat.zero_le _, fun i hi => absurd hi (Nat.not_lt_zero _)⟩
  · have hlm : len ≤ m := by rw [hmm]; split <;> omega
    obtain ⟨z, hz⟩ := choose_lt (α := Int) (n := len) (p := fun i y => V i = .int .i64 y) (fun i hi => by
      obtain ⟨y, hy, _⟩ := DataW.trod_int Try.underlying3 (hx i (by omega)).2
      simp only [List.cons.injEq, and_true] at hy
      exact ⟨y, hy⟩)
    refine ⟨⟨some a, len, cap, z⟩, rfl, hl, hm, fun i hi => ?_⟩
    have hi' : i < len := hi
    have h0 : ∃ v0, w.cell? a = some v0 := ⟨_, by have := (hx 0 (by omega)).1; simpa [Addr.add] using this⟩
    obtain ⟨b, o, rfl, hb', hc⟩ := addrOf (hx i (by omega)).1 h0
    exact ⟨b, o, rfl, hb', by rw [hc, hz i hi']⟩
theorem readRows {fuel : Nat} {cs : List Value} {x : DataW H × List MemPlace} (h : DataW.trod enc Try.prog w 0 spare held fuel 26 cs = some x) : ∃ s : Sh, cs = [s.val] ∧ s.At w := by
  rcases open_slice1 Try.underlying26 cellsInts h with ⟨rfl, _⟩ | ⟨a, len, cap, m, n, V, D, Pl, rfl, hb, hl, hm, hmm, _, hx⟩
  · exact ⟨⟨none, 0, 0, fun _ => ⟨none, 0, 0, fun _ => 0⟩⟩, rfl, Nat.le_refl _, Nat.zero_le _, fun i hi => absurd hi (Nat.not_lt_zero _)⟩
  · have hlm : len ≤ m := by rw [hmm]; split <;> omega
    haveI : Inhabited Rw := ⟨⟨none, 0, 0, fun _ => 0⟩⟩
    obtain ⟨z, hz⟩ := choose_lt (α := Rw) (n := len) (p := fun i y => V i = y.val ∧ y.At w) (fun i hi => by
      obtain ⟨y, hy, hat⟩ := readInts (hx i (by omega)).2
      simp only [List.cons.injEq, and_true] at hy
      exact ⟨y, hy, hat⟩)
    refine ⟨⟨some a, len, cap, z⟩, rfl, hl, hm, fun i hi => ?_⟩
    have hi' : i < len := hi
    have h0 : ∃ v0, w.cell? a = some v0 := ⟨_, by have := (hx 0 (by omega)).1; simpa [Addr.add] using this⟩
    obtain ⟨b, o, rfl, hb', hc⟩ := addrOf (hx i (by omega)).1 h0
    exact ⟨b, o, rfl, hb', by rw [hc, (hz i hi').1]; rfl, (hz i hi').2⟩
theorem readBin {fuel : Nat} {c0 c1 c2 c3 : Value} {x : DataW H × List MemPlace} (h : DataW.trod enc Try.prog w 0 spare held fuel 105 [c0, c1, c2, c3] = some x) : ∃ y : Bin, c0 = .bool y.front ∧ c1 = .int .i64 y.room ∧ c2 = .int .i64 y.low ∧ c3 = .int .i64 y.high := by
  obtain ⟨y0, y1, y2, y3, n, hx, hl, h0, h1, h2, h3⟩ := trod_struct4 Try.underlying105 h
  simp only [cellsBool, cellsInt, List.drop_succ_cons, List.drop_zero, List.take_succ_cons, List.take_zero] at h0 h1 h2 h3
  obtain ⟨b, e0, _⟩ := DataW.trod_bool Try.underlying4 h0
  obtain ⟨n1, e1, _⟩ := DataW.trod_int Try.underlying3 h1
  obtain ⟨n2, e2, _⟩ := DataW.trod_int Try.underlying3 h2
  obtain ⟨n3, e3, _⟩ := DataW.trod_int Try.underlying3 h3
  simp only [List.cons.injEq, and_true] at e0 e1 e2 e3
  exact ⟨⟨b, n1, n2, n3⟩, e0, e1, e2, e3⟩
theorem cells4 {base : Nat} {a : Addr} {cs : List Value} (h : w.cells? base a 4 = some cs) : ∃ c0 c1 c2 c3, cs = [c0, c1, c2, c3] ∧ w.cell? a = some c0 ∧ w.cell? (a.add 1) = some c1 ∧ w.cell? (a.add 2) = some c2 ∧ w.cell? (a.add 3) = some c3 := by
  obtain ⟨_, hlen, hc⟩ := World.cells?_some h
  match cs, hlen with
  | [c0, c1, c2, c3], _ =>
    refine ⟨c0, c1, c2, c3, rfl, ?_, ?_, ?_, ?_⟩
    · simpa [Addr.add] using hc 0 (by decide)
    · simpa using hc 1 (by decide)
    · simpa using hc 2 (by decide)
    · simpa using hc 3 (by decide)
theorem readBins {fuel : Nat} {cs : List Value} {x : DataW H × List MemPlace} (h : DataW.trod enc Try.prog w 0 spare held fuel 22 cs = some x) : ∃ a n c z, cs = [.slice a n c] ∧ n ≤ c ∧ c ≤ maxLen ∧ BinsAt w a n z := by
  rcases open_slice Try.underlying22 h with ⟨rfl, _⟩ | ⟨a, len, cap, m, n, D, Pl, rfl, hb, hl, hm, hmm, _, hx⟩
  · exact ⟨none, 0, 0, fun _ => ⟨false, 0, 0, 0⟩, rfl, Nat.le_refl _, Nat.zero_le _, fun i hi => absurd hi (Nat.not_lt_zero _)⟩
  · have hlm : len ≤ m := by rw [hmm]; split <;> omega
    rw [cellsBin] at hx
    haveI : Inhabited Bin := ⟨⟨false, 0, 0, 0⟩⟩
    obtain ⟨z, hz⟩ := choose_lt (α := Bin) (n := len) (p := fun i y => w.cell? (a.add (i * 4)) = some (.bool y.front) ∧ w.cell? (a.add (i * 4 + 1)) = some (.int .i64 y.room) ∧ w.cell? (a.add (i * 4 + 2)) = some (.int .i64 y.low) ∧ w.cell? (a.add (i * 4 + 3)) = some (.int .i64 y.high)) (fun i hi => by
      obtain ⟨cs', hc, ht⟩ := hx i (by omega)
      obtain ⟨c0, c1, c2, c3, rfl, k0, k1, k2, k3⟩ := cells4 hc
      obtain ⟨y, rfl, rfl, rfl, rfl⟩ := readBin ht
      rw [add_add] at k1 k2 k3
      exact ⟨y, k0, k1, k2, k3⟩)
    refine ⟨some a, len, cap, z, rfl, hl, hm, fun i hi => ?_⟩
    have h0 : ∃ v0, w.cell? a = some v0 := ⟨_, by have := (hz 0 (by omega)).1; simpa [Addr.add] using this⟩
    obtain ⟨k0, k1, k2, k3⟩ := hz i hi
    obtain ⟨b, o, rfl, hb', e0⟩ := addrOf k0 h0
    rw [Go.WideShapes.add_plain] at k1 k2 k3
    exact ⟨b, o, rfl, hb', e0, by rw [Nat.add_assoc]; exact k1, by rw [Nat.add_assoc]; exact k2, by rw [Nat.add_assoc]; exact k3⟩
theorem openPlan {r : Reach} {b0 : Nat} {v : Value} {d : DataW H} {ps : List MemPlace} (hv : Value.okWide Try.prog w r b0 25 v) (h : DataW.Trod enc Try.prog w 0 spare held 25 v d ps) : ∃ p : Pl, v = p.val ∧ p.At w := by
  obtain ⟨c0, c1, y0, y1, m, rfl, rfl, rfl, hy0, hy1⟩ := open_agg2 Try.underlying25 (by kernel_rfl) cellsPlan hv h
  obtain ⟨a, n, c, z, e0, h1, h2, h3⟩ := readBins hy0
  obtain ⟨rr, e1, hr⟩ := readInts hy1
  simp only [List.cons.injEq, and_true] at e0 e1
  subst e0 e1
  exact ⟨⟨a, n, c, z, rr.a, rr.n, rr.c, rr.z⟩, rfl, h1, h2, h3, hr.le, hr.cap, hr.ints⟩
end
end Go.Proofs.Ytbcacebifpagpaf
namespace Go.Proofs.Ytbcacebifpagpaf
open Go.ChangeShapes Go.WideShapes Go.ChangeAt Go.RowKit Go.Joins Go.Deep
set_option linter.unusedVariables false
set_option maxRecDepth 100000
namespace HoldsFrames
theorem own : ownKnob Try.prog.godebug = none := by kernel_rfl
theorem laidOut : laidOutB Try.prog = true := by kernel_rfl
theorem cellsInt : Try.prog.cellsOf 3 = 1 := by kernel_rfl
theorem cellsHold : Try.prog.cellsOf 54 = 4 := by kernel_rfl
section
variable {H : Type} {enc : TypeId × Value → H} {w : World} {held : Bool} {spare : Nat → Bool}
theorem addrOf {a : Addr} {i : Nat} {v : Value} (h : w.cell? (a.add i) = some v) (h0 : ∃ v0, w.cell? a = some v0) : ∃ b o, a = ⟨b, o, none⟩ ∧ b < w.heap.size ∧ w.cell? ⟨b, o + i, none⟩ = some v := by
  obtain ⟨b, off, spot⟩ := a
  obtain ⟨v0, h0⟩ := h0
  have hspot : spot = none := World.cell?_spot h0
  subst hspot
  refine ⟨b, off, rfl, World.block_lt_of_cell? w _ h0, ?_⟩
  rw [← Go.WideShapes.add_plain]
  exact h
theorem cells4 {base : Nat} {a : Addr} {cs : List Value} (h : w.cells? base a 4 = some cs) : ∃ c0 c1 c2 c3, cs = [c0, c1, c2, c3] ∧ w.cell? a = some c0 ∧ w.cell? (a.add 1) = some c1 ∧ w.cell? (a.add 2) = some c2 ∧ w.cell? (a.add 3) = some c3 := by
  obtain ⟨_, hlen, hc⟩ := World.cells?_some h
  match cs, hlen with
  | [c0, c1, c2, c3], _ =>
    refine ⟨c0, c1, c2, c3, rfl, ?_, ?_, ?_, ?_⟩
    · simpa [Addr.add] using hc 0 (by decide)
    · simpa using hc 1 (by decide)
    · simpa using hc 2 (by decide)
    · simpa using hc 3 (by decide)
theorem readHold {fuel : Nat} {c0 c1 c2 c3 : Value} {x : DataW H × List MemPlace} (h : DataW.trod enc Try.prog w 0 spare held fuel 54 [c0, c1, c2, c3] = some x) : ∃ y : Hd, c0 = .int .i64 y.o ∧ c1 = .int .i64 y.l ∧ c2 = .int .i64 y.b ∧ c3 = .int .i64 y.n := by
  obtain ⟨y0, y1, y2, y3, n, hx, hl, h0, h1, h2, h3⟩ := trod_struct4 Try.underlying54 h
  simp only [cellsInt, List.drop_succ_cons, List.drop_zero, List.take_succ_cons, List.take_zero] at h0 h1 h2 h3
  obtain ⟨n0, e0, _⟩ := DataW.trod_int Try.underlying3 h0
  obtain ⟨n1, e1, _⟩ := DataW.trod_int Try.underlying3 h1
  obtain ⟨n2, e2, _⟩ := DataW.trod_int Try.underlying3 h2
  obtain ⟨n3, e3, _⟩ := DataW.trod_int Try.underlying3 h3
  simp only [List.cons.injEq, and_true] at e0 e1 e2 e3
  exact ⟨⟨n0, n1, n2, n3⟩, e0, e1, e2, e3⟩
theorem readHolds {fuel : Nat} {cs : List Value} {x : DataW H × List MemPlace} (h : DataW.trod enc Try.prog w 0 spare held fuel 28 cs = some x) : ∃ s : Hs, cs = [s.val] ∧ s.At w := by
  rcases open_slice Try.underlying28 h with ⟨rfl, _⟩ | ⟨a, len, cap, m, n, D, Pl, rfl, hb, hl, hm, hmm, _, hx⟩
  · exact ⟨⟨none, 0, 0, fun _ => ⟨0, 0, 0, 0⟩⟩, rfl, Nat.le_refl _, Nat.zero_le _, fun i hi => absurd hi (Nat.not_lt_zero _), fun _ => rfl⟩
  · have hlm : len ≤ m := by rw [hmm]; split <;> omega
    rw [cellsHold] at hx
    haveI : Inhabited Hd := ⟨⟨0, 0, 0, 0⟩⟩
    obtain ⟨z, hz⟩ := choose_lt (α := Hd) (n := len) (p := fun i y => w.cell? (a.add (i * 4)) = some (.int .i64 y.o) ∧ w.cell? (a.add (i * 4 + 1)) = some (.int .i64 y.l) ∧ w.cell? (a.add (i * 4 + 2)) = some (.int .i64 y.b) ∧ w.cell? (a.add (i * 4 + 3)) = some (.int .i64 y.n)) (fun i hi => by
      obtain ⟨cs', hc, ht⟩ := hx i (by omega)
      obtain ⟨c0, c1, c2, c3, rfl, k0, k1, k2, k3⟩ := cells4 hc
      obtain ⟨y, rfl, rfl, rfl, rfl⟩ := readHold ht
      rw [add_add] at k1 k2 k3
      exact ⟨y, k0, k1, k2, k3⟩)
    refine ⟨⟨some a, len, cap, z⟩, rfl, hl, hm, fun i hi => ?_, fun h => by cases h⟩
    have hi' : i < len := hi
    have h0 : ∃ v0, w.cell? a = some v0 := ⟨_, by have := (hz 0 (by omega)).1; simpa [Addr.add] using this⟩
    obtain ⟨k0, k1, k2, k3⟩ := hz i hi'
    obtain ⟨b, o, rfl, hb', e0⟩ := addrOf k0 h0
    rw [Go.WideShapes.add_plain] at k1 k2 k3
    exact ⟨b, o, rfl, hb', e0, by rw [Nat.add_assoc]; exact k1, by rw [Nat.add_assoc]; exact k2, by rw [Nat.add_assoc]; exact k3⟩
end
end HoldsFrames
end Go.Proofs.Ytbcacebifpagpaf
namespace Go.Proofs.Ytbcacebifpagpaf
open Go.ChangeShapes Go.WideShapes Go.ChangeAt Go.RowKit Go.Joins Go.Deep
set_option linter.unusedVariables false
set_option maxRecDepth 100000
theorem cellsLine : Try.prog.cellsOf 60 = 4 := by kernel_rfl
theorem cellsMove : Try.prog.cellsOf 40 = 4 := by kernel_rfl
theorem cellsOrder : Try.prog.cellsOf 58 = 2 := by kernel_rfl
theorem cellsState : Try.prog.cellsOf 31 = 7 := by kernel_rfl
theorem cellsLines : Try.prog.cellsOf 56 = 1 := by kernel_rfl
theorem cellsMoves : Try.prog.cellsOf 29 = 1 := by kernel_rfl
theorem cellsOrders : Try.prog.cellsOf 27 = 1 := by kernel_rfl
theorem cellsHolds : Try.prog.cellsOf 28 = 1 := by kernel_rfl
theorem cellsRows : Try.prog.cellsOf 26 = 1 := by kernel_rfl
section
variable {H : Type} {enc : TypeId × Value → H} {w : World} {held : Bool} {spare : Nat → Bool}
theorem readLine {fuel : Nat} {c0 c1 c2 c3 : Value} {x : DataW H × List MemPlace} (h : DataW.trod enc Try.prog w 0 spare held fuel 60 [c0, c1, c2, c3] = some x) : ∃ y : Hd, c0 = .int .i64 y.o ∧ c1 = .int .i64 y.l ∧ c2 = .int .i64 y.b ∧ c3 = .int .i64 y.n := by
  obtain ⟨y0, y1, y2, y3, n, hx, hl, h0, h1, h2, h3⟩ := trod_struct4 Try.underlying60 h
  simp only [cellsInt, List.drop_succ_cons, List.drop_zero, List.take_succ_cons, List.take_zero] at h0 h1 h2 h3
  obtain ⟨n0, e0, _⟩ := DataW.trod_int Try.underlying3 h0
  obtain ⟨n1, e1, _⟩ := DataW.trod_int Try.underlying3 h1
  obtain ⟨n2, e2, _⟩ := DataW.trod_int Try.underlying3 h2
  obtain ⟨n3, e3, _⟩ := DataW.trod_int Try.underlying3 h3
  simp only [List.cons.injEq, and_true] at e0 e1 e2 e3
  exact ⟨⟨n0, n1, n2, n3⟩, e0, e1, e2, e3⟩
theorem readLines {fuel : Nat} {cs : List Value} {x : DataW H × List MemPlace} (h : DataW.trod enc Try.prog w 0 spare held fuel 56 cs = some x) : ∃ s : Hs, cs = [s.val] ∧ s.At w := by
  rcases open_slice Try.underlying56 h with ⟨rfl, _⟩ | ⟨a, len, cap, m, n, D, Pl, rfl, hb, hl, hm, hmm, _, hx⟩
  · exact ⟨⟨none, 0, 0, fun _ => ⟨0, 0, 0, 0⟩⟩, rfl, Nat.le_refl _, Nat.zero_le _, fun i hi => absurd hi (Nat.not_lt_zero _), fun _ => rfl⟩
  · have hlm : len ≤ m := by rw [hmm]; split <;> omega
    rw [cellsLine] at hx
    haveI : Inhabited Hd := ⟨⟨0, 0, 0, 0⟩⟩
    obtain ⟨z, hz⟩ := choose_lt (α := Hd) (n := len) (p := fun i y => w.cell? (a.add (i * 4)) = some (.int .i64 y.o) ∧ w.cell? (a.add (i * 4 + 1)) = some (.int .i64 y.l) ∧ w.cell? (a.add (i * 4 + 2)) = some (.int .i64 y.b) ∧ w.cell? (a.add (i * 4 + 3)) = some (.int .i64 y.n)) (fun i hi => by
      obtain ⟨cs', hc, ht⟩ := hx i (by omega)
      obtain ⟨c0, c1, c2, c3, rfl, k0, k1, k2, k3⟩ := cells4 hc
      obtain ⟨y, rfl, rfl, rfl, rfl⟩ := readLine ht
      rw [add_add] at k1 k2 k3
      exact ⟨y, k0, k1, k2, k3⟩)
    refine ⟨⟨some a, len, cap, z⟩, rfl, hl, hm, fun i hi => ?_, fun h => by cases h⟩
    have hi' : i < len := hi
    have h0 : ∃ v0, w.cell? a = some v0 := ⟨_, by have := (hz 0 (by omega)).1; simpa [Addr.add] using this⟩
    obtain ⟨k0, k1, k2, k3⟩ := hz i hi'
    obtain ⟨b, o, rfl, hb', e0⟩ := addrOf k0 h0
    rw [Go.WideShapes.add_plain] at k1 k2 k3
    exact ⟨b, o, rfl, hb', e0, by rw [Nat.add_assoc]; exact k1, by rw [Nat.add_assoc]; exact k2, by rw [Nat.add_assoc]; exact k3⟩
theorem readMove {fuel : Nat} {c0 c1 c2 c3 : Value} {x : DataW H × List MemPlace} (h : DataW.trod enc Try.prog w 0 spare held fuel 40 [c0, c1, c2, c3] = some x) : ∃ y : Hd, c0 = .int .i64 y.o ∧ c1 = .int .i64 y.l ∧ c2 = .int .i64 y.b ∧ c3 = .int .i64 y.n := by
  obtain ⟨y0, y1, y2, y3, n, hx, hl, h0, h1, h2, h3⟩ := trod_struct4 Try.underlying40 h
  simp only [cellsInt, List.drop_succ_cons, List.drop_zero, List.take_succ_cons, List.take_zero] at h0 h1 h2 h3
  obtain ⟨n0, e0, _⟩ := DataW.trod_int Try.underlying3 h0
  obtain ⟨n1, e1, _⟩ := DataW.trod_int Try.underlying3 h1
  obtain ⟨n2, e2, _⟩ := DataW.trod_int Try.underlying3 h2
  obtain ⟨n3, e3, _⟩ := DataW.trod_int Try.underlying3 h3
  simp only [List.cons.injEq, and_true] at e0 e1 e2 e3
  exact ⟨⟨n0, n1, n2, n3⟩, e0, e1, e2, e3⟩
theorem readMoves {fuel : Nat} {cs : List Value} {x : DataW H × List MemPlace} (h : DataW.trod enc Try.prog w 0 spare held fuel 29 cs = some x) : ∃ s : Hs, cs = [s.val] ∧ s.At w := by
  rcases open_slice Try.underlying29 h with ⟨rfl, _⟩ | ⟨a, len, cap, m, n, D, Pl, rfl, hb, hl, hm, hmm, _, hx⟩
  · exact ⟨⟨none, 0, 0, fun _ => ⟨0, 0, 0, 0⟩⟩, rfl, Nat.le_refl _, Nat.zero_le _, fun i hi => absurd hi (Nat.not_lt_zero _), fun _ => rfl⟩
  · have hlm : len ≤ m := by rw [hmm]; split <;> omega
    rw [cellsMove] at hx
    haveI : Inhabited Hd := ⟨⟨0, 0, 0, 0⟩⟩
    obtain ⟨z, hz⟩ := choose_lt (α := Hd) (n := len) (p := fun i y => w.cell? (a.add (i * 4)) = some (.int .i64 y.o) ∧ w.cell? (a.add (i * 4 + 1)) = some (.int .i64 y.l) ∧ w.cell? (a.add (i * 4 + 2)) = some (.int .i64 y.b) ∧ w.cell? (a.add (i * 4 + 3)) = some (.int .i64 y.n)) (fun i hi => by
      obtain ⟨cs', hc, ht⟩ := hx i (by omega)
      obtain ⟨c0, c1, c2, c3, rfl, k0, k1, k2, k3⟩ := cells4 hc
      obtain ⟨y, rfl, rfl, rfl, rfl⟩ := readMove ht
      rw [add_add] at k1 k2 k3
      exact ⟨y, k0, k1, k2, k3⟩)
    refine ⟨⟨some a, len, cap, z⟩, rfl, hl, hm, fun i hi => ?_, fun h => by cases h⟩
    have hi' : i < len := hi
    have h0 : ∃ v0, w.cell? a = some v0 := ⟨_, by have := (hz 0 (by omega)).1; simpa [Addr.add] using this⟩
    obtain ⟨k0, k1, k2, k3⟩ := hz i hi'
    obtain ⟨b, o, rfl, hb', e0⟩ := addrOf k0 h0
    rw [Go.WideShapes.add_plain] at k1 k2 k3
    exact ⟨b, o, rfl, hb', e0, by rw [Nat.add_assoc]; exact k1, by rw [Nat.add_assoc]; exact k2, by rw [Nat.add_assoc]; exact k3⟩
theorem cells2 {base : Nat} {a : Addr} {cs : List Value} (h : w.cells? base a 2 = some cs) : ∃ c0 c1, cs = [c0, c1] ∧ w.cell? a = some c0 ∧ w.cell? (a.add 1) = some c1 := by
  obtain ⟨_, hlen, hc⟩ := World.cells?_some h
  match cs, hlen with
  | [c0, c1], _ =>
    refine ⟨c0, c1, rfl, ?_, ?_⟩
    · simpa [Addr.add] using hc 0 (by decide)
    · simpa using hc 1 (by decide)
theorem readOrder {fuel : Nat} {c0 c1 : Value} {x : DataW H × List MemPlace} (h : DataW.trod enc Try.prog w 0 spare held fuel 58 [c0, c1] = some x) : ∃ y : Od, c0 = .int .i64 y.k ∧ c1 = .slice y.ls.a y.ls.n y.ls.c ∧ y.ls.At w := by
  obtain ⟨y0, y1, n, hx, hl, h0, h1⟩ := trod_struct2 Try.underlying58 h
  simp only [cellsInt, cellsLines, List.drop_succ_cons, List.drop_zero, List.take_succ_cons, List.take_zero] at h0 h1
  obtain ⟨n0, e0, _⟩ := DataW.trod_int Try.underlying3 h0
  obtain ⟨s, e1, hs⟩ := readLines h1
  simp only [List.cons.injEq, and_true] at e0 e1
  exact ⟨⟨n0, s⟩, e0, e1, hs⟩
theorem readOrders {fuel : Nat} {cs : List Value} {x : DataW H × List MemPlace} (h : DataW.trod enc Try.prog w 0 spare held fuel 27 cs = some x) : ∃ s : Go.Proofs.Ytbcacebifpagpaf.Os, cs = [s.val] ∧ s.At w := by
  rcases open_slice Try.underlying27 h with ⟨rfl, _⟩ | ⟨a, len, cap, m, n, D, Pl, rfl, hb, hl, hm, hmm, _, hx⟩
  · exact ⟨⟨none, 0, 0, fun _ => ⟨0, ⟨none, 0, 0, fun _ => ⟨0, 0, 0, 0⟩⟩⟩⟩, rfl, Nat.le_refl _, Nat.zero_le _, fun i hi => absurd hi (Nat.not_lt_zero _)⟩
  · have hlm : len ≤ m := by rw [hmm]; split <;> omega
    rw [cellsOrder] at hx
    haveI : Inhabited Od := ⟨⟨0, ⟨none, 0, 0, fun _ => ⟨0, 0, 0, 0⟩⟩⟩⟩
    obtain ⟨z, hz⟩ := choose_lt (α := Od) (n := len) (p := fun i y => w.cell? (a.add (i * 2)) = some (.int .i64 y.k) ∧ w.cell? (a.add (i * 2 + 1)) = some (.slice y.ls.a y.ls.n y.ls.c) ∧ y.ls.At w) (fun i hi => by
      obtain ⟨cs', hc, ht⟩ := hx i (by omega)
      obtain ⟨c0, c1, rfl, k0, k1⟩ := cells2 hc
      obtain ⟨y, rfl, rfl, hy⟩ := readOrder ht
      rw [add_add] at k1
      exact ⟨y, k0, k1, hy⟩)
    refine ⟨⟨some a, len, cap, z⟩, rfl, hl, hm, fun i hi => ?_⟩
    have hi' : i < len := hi
    have h0 : ∃ v0, w.cell? a = some v0 := ⟨_, by have := (hz 0 (by omega)).1; simpa [Addr.add] using this⟩
    obtain ⟨k0, k1, hy⟩ := hz i hi'
    obtain ⟨b, o, rfl, hb', e0⟩ := addrOf k0 h0
    rw [Go.WideShapes.add_plain] at k1
    exact ⟨b, o, rfl, hb', e0, by rw [Nat.add_assoc]; exact k1, hy⟩
theorem array7 {α : Type} {cs : Array α} (h : cs.size = 7) : ∃ c0 c1 c2 c3 c4 c5 c6, cs = #[c0, c1, c2, c3, c4, c5, c6] := by
  obtain ⟨l⟩ := cs
  match l, h with
  | [c0, c1, c2, c3, c4, c5, c6], _ => exact ⟨c0, c1, c2, c3, c4, c5, c6, rfl⟩
theorem openState {r : Reach} {b0 : Nat} {v : Value} {d : DataW H} {ps : List MemPlace} (hv : Value.okWide Try.prog w r b0 31 v) (h : DataW.Trod enc Try.prog w 0 spare held 31 v d ps) : ∃ s : St, v = s.val ∧ s.At w := by
  obtain ⟨cs, rfl, hsz⟩ := okWide_struct Try.underlying31 hv
  obtain ⟨c0, c1, c2, c3, c4, c5, c6, rfl⟩ := array7 (hsz.trans cellsState)
  obtain ⟨fuel, hf⟩ := h
  obtain ⟨xs, n, _, hx, hl, hlen, hg⟩ := DataW.trod_struct Try.underlying31 hf
  match xs, hlen with
  | [y0, y1, y2, y3, y4, y5, y6], _ =>
    have k0 := hg 0 _ rfl
    have k1 := hg 1 _ rfl
    have k2 := hg 2 _ rfl
    have k3 := hg 3 _ rfl
    have k4 := hg 4 _ rfl
    have k5 := hg 5 _ rfl
    have k6 := hg 6 _ rfl
    simp [cellsRows, cellsOrders, cellsHolds, cellsMoves, cellsInts, Value.cells] at k0 k1 k2 k3 k4 k5 k6
    obtain ⟨on, e0, h0⟩ := readRows k0
    obtain ⟨os, e1, h1⟩ := readOrders k1
    obtain ⟨hs, e2, h2⟩ := HoldsFrames.readHolds k2
    obtain ⟨ms, e3, h3⟩ := readMoves k3
    obtain ⟨si, e4, h4⟩ := readInts k4
    obtain ⟨so, e5, h5⟩ := readInts k5
    obtain ⟨sf, e6, h6⟩ := readInts k6
    simp only [List.cons.injEq, and_true] at e0 e1 e2 e3 e4 e5 e6
    subst e0 e1 e2 e3 e4 e5 e6
    exact ⟨⟨on, os, hs, ms, si, so, sf⟩, rfl, h0, h1, h2, h3, h4, h5, h6⟩
end
end Go.Proofs.Ytbcacebifpagpaf

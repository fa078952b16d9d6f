/- What is received: plain words; numbers set in a state of the call's own. No walk. -/
import Derived.Test.YtjiodlbblmbibacCS
import Derived.Test.YtjiodlbblmbibacRS5
namespace Go.Proofs.Ytjiodlbblmbibac
open Go.RowKit
set_option linter.unusedVariables false

theorem SameT.symm {s t : St} (h : SameT s t) : SameT t s := by
  refine ⟨⟨h.on.1.symm, fun i hi => ?_⟩, ⟨h.os.1.symm, fun i hi => ?_⟩, ⟨h.hs.1.symm, fun j hj => (h.hs.2 j (by rw [h.hs.1]; exact hj)).symm⟩, ⟨h.ms.1.symm, fun j hj => (h.ms.2 j (by rw [h.ms.1]; exact hj)).symm⟩, ⟨h.si.1.symm, fun j hj => (h.si.2 j (by rw [h.si.1]; exact hj)).symm⟩, ⟨h.so.1.symm, fun j hj => (h.so.2 j (by rw [h.so.1]; exact hj)).symm⟩, ⟨h.sf.1.symm, fun j hj => (h.sf.2 j (by rw [h.sf.1]; exact hj)).symm⟩⟩
  · have x := h.on.2 i (by rw [h.on.1]; exact hi)
    exact ⟨x.1.symm, fun j hj => (x.2 j (by rw [x.1]; exact hj)).symm⟩
  · have x := h.os.2 i (by rw [h.os.1]; exact hi)
    exact ⟨x.1.symm, x.2.1.symm, fun j hj => (x.2.2 j (by rw [x.2.1]; exact hj)).symm⟩
theorem SameT.trans {s t u : St} (h : SameT s t) (k : SameT t u) : SameT s u := by
  refine ⟨⟨h.on.1.trans k.on.1, fun i hi => ?_⟩, ⟨h.os.1.trans k.os.1, fun i hi => ?_⟩, ⟨h.hs.1.trans k.hs.1, fun j hj => (h.hs.2 j hj).trans (k.hs.2 j (by rw [← h.hs.1]; exact hj))⟩, ⟨h.ms.1.trans k.ms.1, fun j hj => (h.ms.2 j hj).trans (k.ms.2 j (by rw [← h.ms.1]; exact hj))⟩, ⟨h.si.1.trans k.si.1, fun j hj => (h.si.2 j hj).trans (k.si.2 j (by rw [← h.si.1]; exact hj))⟩, ⟨h.so.1.trans k.so.1, fun j hj => (h.so.2 j hj).trans (k.so.2 j (by rw [← h.so.1]; exact hj))⟩, ⟨h.sf.1.trans k.sf.1, fun j hj => (h.sf.2 j hj).trans (k.sf.2 j (by rw [← h.sf.1]; exact hj))⟩⟩
  · have x := h.on.2 i hi
    have y := k.on.2 i (by rw [← h.on.1]; exact hi)
    exact ⟨x.1.trans y.1, fun j hj => (x.2 j hj).trans (y.2 j (by rw [← x.1]; exact hj))⟩
  · have x := h.os.2 i hi
    have y := k.os.2 i (by rw [← h.os.1]; exact hi)
    exact ⟨x.1.trans y.1, x.2.1.trans y.2.1, fun j hj => (x.2.2 j hj).trans (y.2.2 j (by rw [← x.2.1]; exact hj))⟩

def setRw (r : Rw) (j : Nat) (x : Int) : Rw := ⟨r.a, r.n, r.c, fun i => if i = j then x else r.z i⟩
def setOn (s : St) (b g : Nat) (x : Int) : St := ⟨⟨s.on.a, s.on.n, s.on.c, fun i => if i = b then setRw (s.on.r i) g x else s.on.r i⟩, s.os, s.hs, s.ms, s.si, s.so, s.sf⟩
def setIn (s : St) (g : Nat) (x : Int) : St := ⟨s.on, s.os, s.hs, s.ms, setRw s.si g x, s.so, s.sf⟩
theorem OwnI.set {A : Nat} {w : World} {r : Rw} {G : Nat} (h : OwnI A w r) (ha : r.a = some ⟨G, 0, none⟩) (j : Nat) (x : Int) : OwnI A (w.setCell ⟨G, j, none⟩ (.int .i64 x)) (setRw r j x) := by
  obtain ⟨g, ha', h0, h1, h2, hb⟩ := h
  rw [ha] at ha'
  simp only [Option.some.injEq, Addr.mk.injEq, and_true] at ha'
  subst ha'
  refine ⟨G, ha, h0, h1, h2, (hb.set j (.int .i64 x)).congr fun i hi => ?_⟩
  show (if i = j then _ else _) = Value.int .i64 (if i = j then x else r.z i)
  by_cases hij : i = j <;> simp [hij]
theorem OwnI.apart {A : Nat} {w : World} {r : Rw} {G : Nat} (h : OwnI A w r) (ha : r.a ≠ some ⟨G, 0, none⟩) (j : Nat) (u : Value) : OwnI A (w.setCell ⟨G, j, none⟩ u) r := by
  obtain ⟨g, ha', h0, h1, h2, hb⟩ := h
  refine ⟨g, ha', h0, h1, h2, hb.other (a := ⟨G, j, none⟩) (fun e => ha ?_) u⟩
  rw [ha', show g = G from e]
theorem row_a {s : St} {b g : Nat} {x : Int} (i : Nat) : (if i = b then setRw (s.on.r i) g x else s.on.r i).a = (s.on.r i).a := by
  by_cases h : i = b <;> simp [h, setRw]
theorem OwnS.setOn {A : Nat} {w : World} {s : St} {b G : Nat} (h : OwnS A w s) (hb : b < s.on.n) (ha : (s.on.r b).a = some ⟨G, 0, none⟩) (g : Nat) (x : Int) : OwnS A (w.setCell ⟨G, g, none⟩ (.int .i64 x)) (Go.Proofs.Ytjiodlbblmbibac.setOn s b g x) := by
  obtain ⟨Gb, hGb, _, _, _, hblk⟩ := h.rows b hb
  rw [ha] at hGb
  simp only [Option.some.injEq, Addr.mk.injEq, and_true] at hGb
  subst hGb
  have q := h.ari b hb
  rw [ha] at q
  refine ⟨?_, fun i hi => ?_, fun i j hij hj => ?_, h.os.other hblk (by decide) (by decide) g _, h.hs.other hblk (by decide) g _, h.ms.other hblk (by decide) g _, h.msr.set _ _ _, h.si.apart (fun e => q.1 e.symm) g _, h.so.apart (fun e => q.2.1 e.symm) g _, h.sf.apart (fun e => q.2.2 e.symm) g _, h.aio, h.aif, h.aof, fun i hi => ?_⟩
  · obtain ⟨g0, ha0, h0, h1, h2, hb0⟩ := h.on
    refine ⟨g0, ha0, h0, h1, h2, (hb0.other (a := ⟨G, g, none⟩) (Blk.ne2 hb0 hblk (by decide)) _).congr fun i hi => ?_⟩
    show _ = Value.slice (if i = b then setRw (s.on.r i) g x else s.on.r i).a (if i = b then setRw (s.on.r i) g x else s.on.r i).n (if i = b then setRw (s.on.r i) g x else s.on.r i).c
    by_cases hib : i = b <;> simp [hib, setRw]
  · show OwnI A _ (if i = b then setRw (s.on.r i) g x else s.on.r i)
    by_cases hib : i = b
    · subst hib
      rw [if_pos rfl]
      exact (h.rows i hi).set ha g x
    · rw [if_neg hib]
      refine (h.rows i hi).apart (fun e => ?_) g _
      rcases Nat.lt_or_gt_of_ne hib with hlt | hgt
      · exact h.rapart i b hlt hb (e.trans ha.symm)
      · exact h.rapart b i hgt hi (ha.trans e.symm)
  · show (if i = b then setRw (s.on.r i) g x else s.on.r i).a ≠ (if j = b then setRw (s.on.r j) g x else s.on.r j).a
    rw [row_a, row_a]
    exact h.rapart i j hij hj
  · show (if i = b then setRw (s.on.r i) g x else s.on.r i).a ≠ _ ∧ (if i = b then setRw (s.on.r i) g x else s.on.r i).a ≠ _ ∧ (if i = b then setRw (s.on.r i) g x else s.on.r i).a ≠ _
    rw [row_a]
    exact h.ari i hi
theorem OwnS.setIn {A : Nat} {w : World} {s : St} {G : Nat} (h : OwnS A w s) (ha : s.si.a = some ⟨G, 0, none⟩) (g : Nat) (x : Int) : OwnS A (w.setCell ⟨G, g, none⟩ (.int .i64 x)) (Go.Proofs.Ytjiodlbblmbibac.setIn s g x) := by
  obtain ⟨Gb, hGb, _, _, _, hblk⟩ := h.si
  rw [ha] at hGb
  simp only [Option.some.injEq, Addr.mk.injEq, and_true] at hGb
  subst hGb
  refine ⟨?_, fun i hi => (h.rows i hi).apart (fun e => (h.ari i hi).1 (e.trans ha.symm)) g _, h.rapart, h.os.other hblk (by decide) (by decide) g _, h.hs.other hblk (by decide) g _, h.ms.other hblk (by decide) g _, h.msr.set _ _ _, h.si.set ha g x, h.so.apart (fun e => h.aio (ha.trans e.symm)) g _, h.sf.apart (fun e => h.aif (ha.trans e.symm)) g _, h.aio, h.aif, h.aof, h.ari⟩
  obtain ⟨g0, ha0, h0, h1, h2, hb0⟩ := h.on
  exact ⟨g0, ha0, h0, h1, h2, hb0.other (a := ⟨G, g, none⟩) (Blk.ne2 hb0 hblk (by decide)) _⟩

/-- What lies in a bin, with what is to come; the errors of receiving; what comes of it. -/
def lyingZ (s : St) (b g : Nat) : Int := (s.on.r b).z g + comingTo s b g s.ms.n
def recvE (p : Pl) (s : St) (bin good n : Int) : Int :=
  if stateE p s = 0 then (if inB bin 0 ((p.nb : Int) - 1) && inB good 0 ((p.ns : Int) - 1) && inB n 1 200 then (if freeZ p s bin.toNat < n * p.zs good.toNat then 5 else if 200 < lyingZ s bin.toNat good.toNat + n ∨ 1048576 < s.si.z good.toNat + n then 2 else 0) else 3) else stateE p s
def recvT (s : St) (b g : Nat) (n : Int) : St := setIn (setOn s b g ((s.on.r b).z g + n)) g (s.si.z g + n)
/-- What an act answers: the state that comes, or none. -/
def ActOK (E : Int) (t s' : St) : Prop := (E = 0 → SameT s' t) ∧ (¬ E = 0 → NoneS s')

theorem setOn_same {s t : St} (h : SameT s t) (b g : Nat) (x : Int) : SameT (setOn s b g x) (setOn t b g x) := by
  refine ⟨⟨h.on.1, fun i hi => ?_⟩, h.os, h.hs, h.ms, h.si, h.so, h.sf⟩
  have y := h.on.2 i hi
  show (if i = b then setRw (s.on.r i) g x else s.on.r i).n = (if i = b then setRw (t.on.r i) g x else t.on.r i).n ∧ ∀ j, j < (if i = b then setRw (s.on.r i) g x else s.on.r i).n → (if i = b then setRw (s.on.r i) g x else s.on.r i).z j = (if i = b then setRw (t.on.r i) g x else t.on.r i).z j
  by_cases hib : i = b
  · rw [if_pos hib, if_pos hib]
    refine ⟨y.1, fun j hj => ?_⟩
    show (if j = g then x else (s.on.r i).z j) = if j = g then x else (t.on.r i).z j
    rw [y.2 j hj]
  · rw [if_neg hib, if_neg hib]
    exact y
theorem setIn_same {s t : St} (h : SameT s t) (g : Nat) (x : Int) : SameT (setIn s g x) (setIn t g x) := by
  refine ⟨h.on, h.os, h.hs, h.ms, ⟨h.si.1, fun j hj => ?_⟩, h.so, h.sf⟩
  show (if j = g then x else s.si.z j) = if j = g then x else t.si.z j
  rw [h.si.2 j hj]

end Go.Proofs.Ytjiodlbblmbibac

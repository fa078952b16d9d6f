/- Texts that were built one behind the other, joined; what FillTells does not reach is left out. -/
import Derived.Test.YtbcacebifpagpaeK2FillTells
import Derived.Lib.SliceRun
import Derived.RangeFuncNested
import Derived.OwnWalkIn
import Derived.ArgAppend
import Derived.RangeFuncBox
import Derived.RangeFuncLeaves
import Derived.Shelf.Abstract
import Derived.WalkKit
import Derived.TacticsInMore
import Derived.LoopNIn
import Derived.LoopIn
import Derived.Maps.AppendAt
import Derived.Lib.QuietBelowIn
import Derived.Sort.BigQuietIn
namespace Go.Proofs.Ytbcacebifpagpae
open Go.RowKit
set_option linter.unusedVariables false
def setHd (x : Hd) (c : Nat) (v : Int) : Hd := if c = 0 then ⟨v, x.l, x.b, x.n⟩ else if c = 1 then ⟨x.o, v, x.b, x.n⟩ else if c = 2 then ⟨x.o, x.l, v, x.n⟩ else ⟨x.o, x.l, x.b, v⟩
def setLn (h : Hs) (j c : Nat) (v : Int) : Hs := ⟨h.a, h.n, h.c, fun i => if i = j then setHd (h.z i) c v else h.z i⟩
def setOd (os : Os) (o l c : Nat) (v : Int) : Os := ⟨os.a, os.n, os.c, fun i => if i = o then ⟨(os.z i).k, setLn (os.z i).ls l c v⟩ else os.z i⟩
def setLine (s : St) (o l c : Nat) (v : Int) : St := ⟨s.on, setOd s.os o l c v, s.hs, s.ms, s.si, s.so, s.sf⟩
def withHolds (s : St) (h : Hs) : St := ⟨s.on, s.os, h, s.ms, s.si, s.so, s.sf⟩
theorem flatH_at {n : Nat} {z : Nat → Hd} {i c : Nat} (hi : i < n) (hc : c < 4) : (flatH n z).getD (i * 4 + c) default = (hdCells (z i)).getD c default := by
  simp only [List.getD, flatH_get n z i c hi hc]
theorem setLn_flat {h : Hs} {j c : Nat} {v : Int} (hc : c < 4) (q : Nat) (hq : q < h.n * 4) :
    (if q = j * 4 + c then Value.int .i64 v else (flatH h.n h.z).getD q default) = (flatH h.n (setLn h j c v).z).getD q default := by
  have hd : q = q / 4 * 4 + q % 4 := by omega
  have hi : q / 4 < h.n := by omega
  have hm : q % 4 < 4 := by omega
  have e1 := flatH_at (z := h.z) hi hm
  have e2 := flatH_at (z := (setLn h j c v).z) hi hm
  rw [← hd] at e1 e2
  rw [e1, e2]
  show _ = (hdCells (if q / 4 = j then setHd (h.z (q / 4)) c v else h.z (q / 4))).getD (q % 4) default
  by_cases hj : q / 4 = j
  · rw [if_pos hj]
    by_cases hqc : q = j * 4 + c
    · rw [if_pos hqc]
      have : q % 4 = c := by omega
      rw [this]
      have hc4 : c = 0 ∨ c = 1 ∨ c = 2 ∨ c = 3 := by omega
      rcases hc4 with rfl | rfl | rfl | rfl <;> rfl
    · rw [if_neg hqc]
      have hc4 : c = 0 ∨ c = 1 ∨ c = 2 ∨ c = 3 := by omega
      have hm4 : q % 4 = 0 ∨ q % 4 = 1 ∨ q % 4 = 2 ∨ q % 4 = 3 := by omega
      rcases hc4 with rfl | rfl | rfl | rfl <;> rcases hm4 with hm | hm | hm | hm <;> first | (exfalso; omega) | (rw [hm]; rfl)
  · rw [if_neg hj, if_neg (by omega)]
theorem OwnO.setLine {A : Nat} {w : World} {s : Os} {o B : Nat} (h : OwnO A w s) (ho : o < s.n) (ha : (s.z o).ls.a = some ⟨B, 0, none⟩) (l c : Nat) (hc : c < 4) (v : Int) : OwnO A (w.setCell ⟨B, l * 4 + c, none⟩ (.int .i64 v)) (setOd s o l c v) := by
  obtain ⟨B', ha', hA, h1, h2, hb⟩ := h.lines o ho
  rw [ha] at ha'
  simp only [Option.some.injEq, Addr.mk.injEq, and_true] at ha'
  subst ha'
  have hz : ∀ i, (setOd s o l c v).z i = if i = o then ⟨(s.z i).k, setLn (s.z i).ls l c v⟩ else s.z i := fun _ => rfl
  have hcells : ∀ i, odCells ((setOd s o l c v).z i) = odCells (s.z i) := fun i => by
    rw [hz]
    by_cases hio : i = o
    · rw [if_pos hio]; rfl
    · rw [if_neg hio]
  have hla : ∀ i, ((setOd s o l c v).z i).ls.a = (s.z i).ls.a := fun i => by
    rw [hz]
    by_cases hio : i = o
    · rw [if_pos hio]; rfl
    · rw [if_neg hio]
  refine ⟨h.le, h.cap, fun hn => ?_, fun i hi => ?_, fun i j hij hj => by rw [hla, hla]; exact h.apart i j hij hj, h.room.set _ _ _⟩
  · obtain ⟨g, a1, a2, a3⟩ := h.list hn
    refine ⟨g, a1, a2, (a3.other (a := ⟨B, l * 4 + c, none⟩) (Blk.ne2 a3 hb (by decide)) _).congr fun j hj => ?_⟩
    show _ = (flatO s.n (setOd s o l c v).z).getD j default
    rw [flatO_congr fun i _ => hcells i]
  · rw [hz]
    by_cases hio : i = o
    · subst hio
      rw [if_pos rfl]
      exact ⟨B, ha, hA, h1, h2, (hb.set (l * 4 + c) (.int .i64 v)).congr fun q hq => setLn_flat hc q hq⟩
    · rw [if_neg hio]
      obtain ⟨C, a1, a2, a3, a4, a5⟩ := h.lines i hi
      refine ⟨C, a1, a2, a3, a4, a5.other (a := ⟨B, l * 4 + c, none⟩) (fun e => ?_) _⟩
      have e' : C = B := e
      subst e'
      rcases Nat.lt_or_gt_of_ne hio with hlt | hgt
      · exact h.apart i o hlt ho (a1.trans ha.symm)
      · exact h.apart o i hgt hi (ha.trans a1.symm)
theorem OwnS.setLine {A : Nat} {w : World} {s : St} {o B : Nat} (h : OwnS A w s) (ho : o < s.os.n) (ha : (s.os.z o).ls.a = some ⟨B, 0, none⟩) (l c : Nat) (hc : c < 4) (v : Int) : OwnS A (w.setCell ⟨B, l * 4 + c, none⟩ (.int .i64 v)) (Go.Proofs.Ytbcacebifpagpae.setLine s o l c v) := by
  obtain ⟨B', ha', -, -, -, hb⟩ := h.os.lines o ho
  rw [ha] at ha'
  simp only [Option.some.injEq, Addr.mk.injEq, and_true] at ha'
  subst ha'
  refine ⟨?_, fun i hi => (h.rows i hi).other hb (by decide) _ _, h.rapart, h.os.setLine ho ha l c hc v, h.hs.other hb (by decide) _ _, h.ms.other hb (by decide) _ _, h.msr.set _ _ _, h.si.other hb (by decide) _ _, h.so.other hb (by decide) _ _, h.sf.other hb (by decide) _ _, h.aio, h.aif, h.aof, h.ari⟩
  obtain ⟨g, a0, a1, a2, a3, a4⟩ := h.on
  exact ⟨g, a0, a1, a2, a3, a4.other (a := ⟨B, l * 4 + c, none⟩) (Blk.ne2 a4 hb (by decide)) _⟩
theorem OwnS.withHolds {A : Nat} {w : World} {s : St} {h : Hs} (k : OwnS A w s) (hh : OwnH A 70 w h) : OwnS A w (Go.Proofs.Ytbcacebifpagpae.withHolds s h) :=
  ⟨k.on, k.rows, k.rapart, k.os, hh, k.ms, k.msr, k.si, k.so, k.sf, k.aio, k.aif, k.aof, k.ari⟩
theorem setLine_at {s : St} {o l c : Nat} {v : Int} (i j : Nat) : ((Go.Proofs.Ytbcacebifpagpae.setLine s o l c v).os.z i).ls.z j = if i = o ∧ j = l then setHd ((s.os.z i).ls.z j) c v else (s.os.z i).ls.z j := by
  show (if i = o then (⟨(s.os.z i).k, setLn (s.os.z i).ls l c v⟩ : Od) else s.os.z i).ls.z j = _
  by_cases hi : i = o
  · rw [if_pos hi]
    show (if j = l then setHd ((s.os.z i).ls.z j) c v else (s.os.z i).ls.z j) = _
    by_cases hj : j = l
    · rw [if_pos hj, if_pos ⟨hi, hj⟩]
    · rw [if_neg hj, if_neg (fun e => hj e.2)]
  · rw [if_neg hi, if_neg (fun e => hi e.1)]
theorem setLine_k {s : St} {o l c : Nat} {v : Int} (i : Nat) : ((Go.Proofs.Ytbcacebifpagpae.setLine s o l c v).os.z i).k = (s.os.z i).k := by
  show (if i = o then (⟨(s.os.z i).k, setLn (s.os.z i).ls l c v⟩ : Od) else s.os.z i).k = _
  by_cases hi : i = o
  · rw [if_pos hi]
  · rw [if_neg hi]
theorem setLine_n {s : St} {o l c : Nat} {v : Int} (i : Nat) : ((Go.Proofs.Ytbcacebifpagpae.setLine s o l c v).os.z i).ls.n = (s.os.z i).ls.n ∧ ((Go.Proofs.Ytbcacebifpagpae.setLine s o l c v).os.z i).ls.a = (s.os.z i).ls.a ∧ ((Go.Proofs.Ytbcacebifpagpae.setLine s o l c v).os.z i).ls.c = (s.os.z i).ls.c := by
  show (if i = o then (⟨(s.os.z i).k, setLn (s.os.z i).ls l c v⟩ : Od) else s.os.z i).ls.n = _ ∧ (if i = o then (⟨(s.os.z i).k, setLn (s.os.z i).ls l c v⟩ : Od) else s.os.z i).ls.a = _ ∧ (if i = o then (⟨(s.os.z i).k, setLn (s.os.z i).ls l c v⟩ : Od) else s.os.z i).ls.c = _
  by_cases hi : i = o
  · rw [if_pos hi]; exact ⟨rfl, rfl, rfl⟩
  · rw [if_neg hi]; exact ⟨rfl, rfl, rfl⟩
end Go.Proofs.Ytbcacebifpagpae
namespace Go.Proofs.Ytbcacebifpagpae
open Go.RowKit Go.Shelf Go.Sort
set_option linter.unusedVariables false
def lackH (x : Hd) : Hd := ⟨x.o, x.l, x.b, x.l - x.b⟩
def lackL (h : Hs) (k : Nat) : Hs := ⟨h.a, h.n, h.c, fun j => if j < k then lackH (h.z j) else h.z j⟩
def KeepO (w wk : World) : Prop := ∀ (q : Nat) (t : TypeId) (m : Nat) (f : Nat → Value), t ≠ 40 → t ≠ 38 → Blk w q t m f → Blk wk q t m f
theorem KeepO.below {w wk wj : World} (h : KeepO w wk) (hB : Below wk.heap.size wk wj) : KeepO w wj := fun q t m f ht h2 hb => (h q t m f ht h2 hb).below hB
theorem KeepO.refl (w : World) : KeepO w w := fun _ _ _ _ _ _ h => h
theorem KeepO.trans {w wk wj : World} (h : KeepO w wk) (k : KeepO wk wj) : KeepO w wj := fun q t m f ht h2 hb => k q t m f ht h2 (h q t m f ht h2 hb)
theorem KeepO.setLine {w wk : World} (h : KeepO w wk) {B n : Nat} {z : Nat → Value} (hB : Blk wk B 40 n z) (j : Nat) (u : Value) : KeepO w (wk.setCell ⟨B, j, none⟩ u) := fun q t m f ht h2 hb => (h q t m f ht h2 hb).other (a := ⟨B, j, none⟩) (Blk.ne2 (h q t m f ht h2 hb) hB ht) u
end Go.Proofs.Ytbcacebifpagpae
namespace Go.Proofs.Ytbcacebifpagpae
open Go.RowKit Go.Shelf
set_option linter.unusedVariables false
theorem Blk.setCells {g : Nat} {e : TypeId} {n : Nat} {f : Nat → Value} : ∀ (vs : List Value) (o : Nat) (w : World), Blk w g e n f → n ≤ o → Blk (w.setCells g o vs) g e n f
  | [], _, _, h, _ => h
  | v :: r, o, w, h, hn => by
    rw [World.setCells]
    exact Blk.setCells r (o + 1) _ ((h.set o v).congr fun j hj => by rw [if_neg (by omega)]) (by omega)
theorem below_cells {B g : Nat} (hg : B ≤ g) {a : World} : ∀ (vs : List Value) (o : Nat) (w : World), Below B a w → Below B a (w.setCells g o vs)
  | [], _, _, h => h
  | v :: r, o, w, h => by
    rw [World.setCells]
    exact below_cells hg r (o + 1) _ (h.setCell (p := ⟨g, o, none⟩) hg v)
theorem Blk.less {w : World} {g : Nat} {e : TypeId} {n m : Nat} {f : Nat → Value} (h : Blk w g e n f) (hm : m ≤ n) : Blk w g e m f := by
  obtain ⟨cur, h1, h2, h3⟩ := h
  exact ⟨cur, h1, by omega, fun j hj => h3 j (by omega)⟩
end Go.Proofs.Ytbcacebifpagpae
namespace Go.Proofs.Ytbcacebifpagpae
open Go.RowKit Go.Shelf
set_option linter.unusedVariables false
def hc (c : Nat → Hd) (q : Nat) : Value := (hdCells (c (q / 4))).getD (q % 4) default
theorem hc_at (c : Nat → Hd) (i : Nat) : hc c (i * 4) = .int .i64 (c i).o ∧ hc c (i * 4 + 1) = .int .i64 (c i).l ∧ hc c (i * 4 + 2) = .int .i64 (c i).b ∧ hc c (i * 4 + 3) = .int .i64 (c i).n := by
  unfold hc
  refine ⟨?_, ?_, ?_, ?_⟩
  · rw [show i * 4 / 4 = i by omega, show i * 4 % 4 = 0 by omega]; rfl
  · rw [show (i * 4 + 1) / 4 = i by omega, show (i * 4 + 1) % 4 = 1 by omega]; rfl
  · rw [show (i * 4 + 2) / 4 = i by omega, show (i * 4 + 2) % 4 = 2 by omega]; rfl
  · rw [show (i * 4 + 3) / 4 = i by omega, show (i * 4 + 3) % 4 = 3 by omega]; rfl
theorem hc_flat {n : Nat} {z : Nat → Hd} {q : Nat} (hq : q < n * 4) : (flatH n z).getD q default = hc z q := by
  have h := flatH_get n z (q / 4) (q % 4) (by omega) (by omega)
  rw [show q / 4 * 4 + q % 4 = q by omega] at h
  unfold hc
  simp only [List.getD]
  rw [h]
theorem Blk.hds {w : World} {g : Nat} {e : TypeId} {n : Nat} {c : Nat → Hd} (h : Blk w g e (n * 4) (hc c)) : HdsAt w (some ⟨g, 0, none⟩) n c := fun i hi => by
  have a := hc_at c i
  refine ⟨g, 0, rfl, h.lt, ?_, ?_, ?_, ?_⟩
  · rw [Nat.zero_add]; exact (h.cell (by omega)).trans (by rw [a.1])
  · rw [Nat.zero_add]; exact (h.cell (by omega)).trans (by rw [a.2.1])
  · rw [Nat.zero_add]; exact (h.cell (by omega)).trans (by rw [a.2.2.1])
  · rw [Nat.zero_add]; exact (h.cell (by omega)).trans (by rw [a.2.2.2])
def KeepG (g : Nat) (w w' : World) : Prop := w.heap.size ≤ w'.heap.size ∧ ∀ q, q < w.heap.size → q ≠ g → w'.heap[q]? = w.heap[q]?
theorem KeepG.refl (g : Nat) (w : World) : KeepG g w w := ⟨Nat.le_refl _, fun _ _ _ => rfl⟩
theorem KeepG.below {g : Nat} {w wk wj : World} (h : KeepG g w wk) (hB : Below wk.heap.size wk wj) : KeepG g w wj := ⟨Nat.le_trans h.1 hB.size, fun q hq hne => (hB.block q (Nat.lt_of_lt_of_le hq h.1)).trans (h.2 q hq hne)⟩
theorem KeepG.set {g : Nat} {w wk : World} (h : KeepG g w wk) (j : Nat) (u : Value) : KeepG g w (wk.setCell ⟨g, j, none⟩ u) := ⟨by simpa using h.1, fun q hq hne => (Below.heap_setCell wk ⟨g, j, none⟩ u q hne).trans (h.2 q hq hne)⟩
theorem KeepG.cells {g : Nat} {w : World} : ∀ (vs : List Value) (o : Nat) (wk : World), KeepG g w wk → KeepG g w (wk.setCells g o vs)
  | [], _, _, h => h
  | v :: r, o, wk, h => by
    rw [World.setCells]
    exact KeepG.cells r (o + 1) _ (h.set o v)
theorem KeepG.blk {g : Nat} {w w' : World} (h : KeepG g w w') {q : Nat} {t : TypeId} {m : Nat} {f : Nat → Value} (hb : Blk w q t m f) (hne : q ≠ g) : Blk w' q t m f := by
  have hlt := hb.lt
  obtain ⟨cur, h1, h2⟩ := hb
  exact ⟨cur, (h.2 q hlt hne).trans h1, h2⟩
end Go.Proofs.Ytbcacebifpagpae
namespace Go.Proofs.Ytbcacebifpagpae
open Go.RowKit Go.Shelf Go.Sort
set_option linter.unusedVariables false
def kindO (os : Os) (o : Nat) (v : Int) : Os := ⟨os.a, os.n, os.c, fun i => if i = o then ⟨v, (os.z i).ls⟩ else os.z i⟩
def kindS (s : St) (o : Nat) (v : Int) : St := ⟨s.on, kindO s.os o v, s.hs, s.ms, s.si, s.so, s.sf⟩
theorem kindO_ls (os : Os) (o : Nat) (v : Int) (i : Nat) : ((kindO os o v).z i).ls = (os.z i).ls := by
  show (if i = o then (⟨v, (os.z i).ls⟩ : Od) else os.z i).ls = _
  by_cases h : i = o
  · rw [if_pos h]
  · rw [if_neg h]
theorem OwnO.kind {A : Nat} {w : World} {s : Os} {o g : Nat} (h : OwnO A w s) (ho : o < s.n) (ha : s.a = some ⟨g, 0, none⟩) (v : Int) : OwnO A (w.setCell ⟨g, o * 2, none⟩ (.int .i64 v)) (kindO s o v) := by
  obtain ⟨g', ha', hA, hb⟩ := h.list (by omega)
  rw [ha] at ha'
  simp only [Option.some.injEq, Addr.mk.injEq, and_true] at ha'
  subst ha'
  refine ⟨h.le, h.cap, fun hn => ⟨g, ha, hA, (hb.set (o * 2) (.int .i64 v)).congr fun q hq => ?_⟩, fun i hi => ?_, fun i j hij hj => by rw [kindO_ls, kindO_ls]; exact h.apart i j hij hj, h.room.set _ _ _⟩
  · have hd : q = q / 2 * 2 + q % 2 := by omega
    have hi : q / 2 < s.n := by omega
    have hm : q % 2 < 2 := by omega
    have e1 := flatO_at (z := s.z) hi hm
    have e2 := flatO_at (z := (kindO s o v).z) hi hm
    rw [← hd] at e1 e2
    show (if q = o * 2 then Value.int .i64 v else (flatO s.n s.z).getD q default) = (flatO s.n (kindO s o v).z).getD q default
    rw [e1, e2]
    show _ = (odCells (if q / 2 = o then (⟨v, (s.z (q / 2)).ls⟩ : Od) else s.z (q / 2))).getD (q % 2) default
    by_cases hj : q / 2 = o
    · rw [if_pos hj]
      have hm2 : q % 2 = 0 ∨ q % 2 = 1 := by omega
      rcases hm2 with hm2 | hm2
      · rw [if_pos (by omega), hm2]; rfl
      · rw [if_neg (by omega), hm2]; rfl
    · rw [if_neg hj, if_neg (by omega)]
  · rw [kindO_ls]
    obtain ⟨C, a1, a2, a3, a4, a5⟩ := h.lines i hi
    exact ⟨C, a1, a2, a3, a4, a5.other (a := ⟨g, o * 2, none⟩) (Blk.ne2 a5 hb (by decide)) _⟩
theorem OwnS.kind {A : Nat} {w : World} {s : St} {o g : Nat} (h : OwnS A w s) (ho : o < s.os.n) (ha : s.os.a = some ⟨g, 0, none⟩) (v : Int) : OwnS A (w.setCell ⟨g, o * 2, none⟩ (.int .i64 v)) (kindS s o v) := by
  obtain ⟨g', ha', hA, hb⟩ := h.os.list (by omega)
  rw [ha] at ha'
  simp only [Option.some.injEq, Addr.mk.injEq, and_true] at ha'
  subst ha'
  refine ⟨?_, fun i hi => (h.rows i hi).other hb (by decide) _ _, h.rapart, h.os.kind ho ha v, h.hs.other hb (by decide) _ _, h.ms.other hb (by decide) _ _, h.msr.set _ _ _, h.si.other hb (by decide) _ _, h.so.other hb (by decide) _ _, h.sf.other hb (by decide) _ _, h.aio, h.aif, h.aof, h.ari⟩
  obtain ⟨q, a0, a1, a2, a3, a4⟩ := h.on
  exact ⟨q, a0, a1, a2, a3, a4.other (a := ⟨g, o * 2, none⟩) (Blk.ne2 a4 hb (by decide)) _⟩
end Go.Proofs.Ytbcacebifpagpae
namespace Go.Proofs.Ytbcacebifpagpae
open Go.RowKit
set_option linter.unusedVariables false
theorem pos_exists {z : Nat → Hd} {h : Hd} (hf : fineH h = true) : ∀ n, anyB n (badH z) = false → ∃ i, PosH n z h i
  | 0, _ => ⟨0, Nat.le_refl _, fun q hq => absurd hq (Nat.not_lt_zero _), fun q _ hq => absurd hq (Nat.not_lt_zero _)⟩
  | n + 1, hr => by
    obtain ⟨i, hp⟩ := pos_exists hf n (right_pred hr)
    have hle := hp.le
    by_cases hi : i = n
    · by_cases hc : cmpH (z n) h < 0
      · exact ⟨n + 1, Nat.le_refl _, fun q hq => by
          by_cases hqn : q = n
          · subst hqn; exact hc
          · exact hp.lo q (by omega), fun q h1 h2 => by omega⟩
      · refine ⟨n, by omega, fun q hq => hp.lo q (by omega), fun q h1 h2 => ?_⟩
        have : q = n := by omega
        subst this; omega
    · refine ⟨i, by omega, hp.lo, fun q h1 h2 => ?_⟩
      by_cases hqn : q = n
      · subst hqn
        have a := hp.hi i (Nat.le_refl _) (by omega)
        have k1 := (cmp_key (right_fine hr i (by omega)) hf).1
        have k2 := (cmp_key (right_fine hr q (by omega)) hf).1
        have k3 := right_lt hr i q (by omega) (by omega)
        omega
      · exact hp.hi q h1 (by omega)
theorem pos_key {n : Nat} {z : Nat → Hd} {h : Hd} (hr : anyB n (badH z) = false) (hf : fineH h = true) :
    addPos n z h ≤ n ∧ (∀ j, j < addPos n z h → keyH (z j) < keyH h) ∧ (∀ j, addPos n z h ≤ j → j < n → keyH h ≤ keyH (z j)) := by
  obtain ⟨i, hp⟩ := pos_exists hf n hr
  rw [addPos_eq hp]
  have hle := hp.le
  refine ⟨hp.le, fun j hj => ?_, fun j hj hjn => ?_⟩
  · have := hp.lo j hj
    have := (cmp_key (right_fine hr j (by omega)) hf).1
    omega
  · have := hp.hi j hj hjn
    have := (cmp_key (right_fine hr j hjn) hf).1
    omega
theorem key_match {x y : Hd} (hx : fineH x = true) (hy : fineH y = true) (h : keyH x = keyH y) : matchH x y.o y.l y.b = true := by
  have a := fineH_true hx
  have b := fineH_true hy
  unfold keyH at h
  have h1 : x.o = y.o := by omega
  have h2 : x.l = y.l := by omega
  have h3 : x.b = y.b := by omega
  simp [matchH, h1, h2, h3]
theorem right_mk {n : Nat} {z : Nat → Hd} (hf : ∀ i, i < n → fineH (z i) = true) (hs : ∀ i, i + 1 < n → keyH (z i) < keyH (z (i + 1))) : anyB n (badH z) = false := by
  rw [← bad_eq]
  refine anyB_no fun j hj => ?_
  unfold badK
  rw [hf j hj]
  by_cases h0 : 0 < j
  · have := hs (j - 1) (by omega)
    rw [show j - 1 + 1 = j by omega] at this
    simp only [Bool.not_true, Bool.false_or, Bool.and_eq_false_imp, decide_eq_true_eq, decide_eq_false_iff_not]
    intro _
    omega
  · simp [h0]
theorem kept_at {n k : Nat} {z : Nat → Hd} {o l b : Int} (hr : anyB n (badH z) = false) (hk : k < n) (hm : matchH (z k) o l b = true) : keptV n z o l b = (z k).n ∧ dropI n z o l b = k := by
  have lo : ∀ j, j < k → matchH (z j) o l b = false := fun j hj => by
    cases hq : matchH (z j) o l b
    · rfl
    · have := matchH_key hq hm
      have := right_lt hr j k hj hk
      omega
  exact ⟨keptV_some hk lo hm, dropI_some hk lo hm⟩
theorem kept_no {n : Nat} {z : Nat → Hd} {o l b : Int} (hr : anyB n (badH z) = false) (h0 : keptV n z o l b = 0) : ∀ j, j < n → matchH (z j) o l b = false := by
  rcases keptV_cases n z o l b with h | ⟨k, hkn, h1, h2⟩
  · exact h
  · rw [keptV_some hkn h1 h2] at h0
    have := (fineH_true (right_fine hr k hkn)).2.2.2
    omega
theorem insZ_lt {z : Nat → Hd} {i j : Nat} {h : Hd} (hj : j < i) : insZ z i h j = z j := by unfold insZ; rw [if_pos hj]
theorem insZ_eq {z : Nat → Hd} {i : Nat} {h : Hd} : insZ z i h i = h := by unfold insZ; rw [if_neg (by omega), if_pos rfl]
theorem insZ_gt {z : Nat → Hd} {i j : Nat} {h : Hd} (hj : i < j) : insZ z i h j = z (j - 1) := by unfold insZ; rw [if_neg (by omega), if_neg (by omega)]
theorem setZ_eq {z : Nat → Hd} {i : Nat} {h : Hd} : setZ z i h i = h := if_pos rfl
theorem setZ_ne {z : Nat → Hd} {i j : Nat} {h : Hd} (hj : ¬ j = i) : setZ z i h j = z j := if_neg hj
theorem match_same {x y : Hd} {o l b : Int} (h1 : matchH x y.o y.l y.b = true) : matchH x o l b = matchH y o l b := by
  have a := matchH_true h1
  unfold matchH
  rw [a.1, a.2.1, a.2.2]
theorem add_ins {n : Nat} {z : Nat → Hd} {h : Hd} (hr : anyB n (badH z) = false) (hf : fineH h = true) (h0 : keptV n z h.o h.l h.b = 0) :
    anyB (n + 1) (badH (insZ z (addPos n z h) h)) = false ∧ (∀ o l b, keptV (n + 1) (insZ z (addPos n z h) h) o l b = keptV n z o l b + if matchH h o l b then h.n else 0) ∧
      dropI (n + 1) (insZ z (addPos n z h) h) h.o h.l h.b = addPos n z h := by
  obtain ⟨p1, p2, p3⟩ := pos_key hr hf
  have no := kept_no hr h0
  generalize addPos n z h = p at p1 p2 p3 ⊢
  have hs : ∀ j, p ≤ j → j < n → keyH h < keyH (z j) := fun j hj hjn => by
    have a := p3 j hj hjn
    have b : ¬ keyH (z j) = keyH h := fun e => by
      have := key_match (right_fine hr j hjn) hf e
      rw [no j hjn] at this
      cases this
    omega
  have hR : anyB (n + 1) (badH (insZ z p h)) = false := by
    refine right_mk (fun i hi => ?_) (fun i hi => ?_)
    · rcases Nat.lt_trichotomy i p with hip | hip | hip
      · rw [insZ_lt hip]; exact right_fine hr i (by omega)
      · subst hip; rw [insZ_eq]; exact hf
      · rw [insZ_gt hip]; exact right_fine hr (i - 1) (by omega)
    · rcases Nat.lt_trichotomy i p with hip | hip | hip
      · rw [insZ_lt hip]
        by_cases hq : i + 1 = p
        · subst hq; rw [insZ_eq]; exact p2 i (by omega)
        · rw [insZ_lt (by omega)]; exact right_step hr i (by omega)
      · subst hip
        rw [insZ_eq, insZ_gt (by omega)]
        exact hs _ (by omega) (by omega)
      · rw [insZ_gt hip, insZ_gt (by omega)]
        have := right_step hr (i - 1) (by omega)
        rw [show i - 1 + 1 = i + 1 - 1 by omega] at this
        exact this
  have hat := kept_at (o := h.o) (l := h.l) (b := h.b) hR (show p < n + 1 by omega) (by rw [insZ_eq]; simp [matchH])
  refine ⟨hR, fun o l b => ?_, hat.2⟩
  cases hm : matchH h o l b
  · simp only [Bool.false_eq_true, if_false, Int.add_zero]
    rcases keptV_cases n z o l b with hn | ⟨k, hk, h1, h2⟩
    · rw [keptV_none hn]
      refine keptV_none fun j hj => ?_
      rcases Nat.lt_trichotomy j p with hip | hip | hip
      · rw [insZ_lt hip]; exact hn j (by omega)
      · subst hip; rw [insZ_eq]; exact hm
      · rw [insZ_gt hip]; exact hn (j - 1) (by omega)
    · rw [keptV_some hk h1 h2]
      by_cases hkp : k < p
      · have := (kept_at (o := o) (l := l) (b := b) hR (show k < n + 1 by omega) (by rw [insZ_lt hkp]; exact h2)).1
        rw [this, insZ_lt hkp]
      · have e : insZ z p h (k + 1) = z k := by rw [insZ_gt (by omega), Nat.add_sub_cancel]
        have := (kept_at (o := o) (l := l) (b := b) hR (show k + 1 < n + 1 by omega) (by rw [e]; exact h2)).1
        rw [this, e]
  · have a := matchH_true hm
    rw [← a.1, ← a.2.1, ← a.2.2, h0, hat.1, insZ_eq]
    simp
theorem add_set {n : Nat} {z : Nat → Hd} {h : Hd} (hr : anyB n (badH z) = false) (hf : fineH h = true) (h0 : ¬ keptV n z h.o h.l h.b = 0) (h2 : keptV n z h.o h.l h.b + h.n ≤ 200) :
    anyB n (badH (setZ z (addPos n z h) ⟨h.o, h.l, h.b, keptV n z h.o h.l h.b + h.n⟩)) = false ∧ (∀ o l b, keptV n (setZ z (addPos n z h) ⟨h.o, h.l, h.b, keptV n z h.o h.l h.b + h.n⟩) o l b = keptV n z o l b + if matchH h o l b then h.n else 0) ∧
      dropI n (setZ z (addPos n z h) ⟨h.o, h.l, h.b, keptV n z h.o h.l h.b + h.n⟩) h.o h.l h.b = addPos n z h ∧ addPos n z h < n ∧ matchH (z (addPos n z h)) h.o h.l h.b = true ∧ dropI n z h.o h.l h.b = addPos n z h := by
  obtain ⟨p1, p2, p3⟩ := pos_key hr hf
  obtain ⟨q1, q2, q3, q4, q5⟩ := kept_pos hr h0
  have hkey : keyH (z (dropI n z h.o h.l h.b)) = keyH h := match_key (n := h.n) q2
  have hp : dropI n z h.o h.l h.b = addPos n z h := by
    rcases Nat.lt_trichotomy (dropI n z h.o h.l h.b) (addPos n z h) with c | c | c
    · have := p2 _ c; omega
    · exact c
    · have := q4 _ c
      have := p3 _ (Nat.le_refl _) (by omega)
      omega
  rw [hp] at q1 q2 q3 q4 q5 hkey ⊢
  generalize addPos n z h = p at p1 p2 p3 q1 q2 q3 q4 q5 hkey hp ⊢
  generalize hK : keptV n z h.o h.l h.b = K at h0 h2 q3 ⊢
  have hfz := fineH_true (right_fine hr p q1)
  have hfh := fineH_true hf
  have hkn : keyH ⟨h.o, h.l, h.b, K + h.n⟩ = keyH (z p) := by rw [hkey]; rfl
  have hR : anyB n (badH (setZ z p ⟨h.o, h.l, h.b, K + h.n⟩)) = false := by
    refine right_mk (fun i hi => ?_) (fun i hi => ?_)
    · by_cases hip : i = p
      · subst hip; rw [setZ_eq]
        simp only [fineH, Bool.and_eq_true]
        exact ⟨⟨⟨inB_mk (by omega), inB_mk (by omega)⟩, inB_mk (by omega)⟩, inB_mk (by show 1 ≤ K + h.n ∧ K + h.n ≤ 200; omega)⟩
      · rw [setZ_ne hip]; exact right_fine hr i hi
    · have hst := right_step hr i hi
      by_cases hip : i = p
      · subst hip; rw [setZ_eq, setZ_ne (by omega), hkn]; exact hst
      · rw [setZ_ne hip]
        by_cases hiq : i + 1 = p
        · rw [hiq, setZ_eq, hkn, ← hiq]; exact hst
        · rw [setZ_ne hiq]; exact hst
  have hat := kept_at (o := h.o) (l := h.l) (b := h.b) hR q1 (by rw [setZ_eq]; simp [matchH])
  refine ⟨hR, fun o l b => ?_, hat.2, q1, q2, rfl⟩
  cases hm : matchH h o l b
  · simp only [Bool.false_eq_true, if_false, Int.add_zero]
    have hzp : matchH (z p) o l b = false := by rw [match_same q2]; exact hm
    rcases keptV_cases n z o l b with hn | ⟨k, hk, h1, h3⟩
    · rw [keptV_none hn]
      refine keptV_none fun j hj => ?_
      by_cases hip : j = p
      · subst hip; rw [setZ_eq]; exact hm
      · rw [setZ_ne hip]; exact hn j hj
    · rw [keptV_some hk h1 h3]
      have hkp : ¬ k = p := fun e => by subst e; rw [hzp] at h3; cases h3
      have := (kept_at (o := o) (l := l) (b := b) hR hk (by rw [setZ_ne hkp]; exact h3)).1
      rw [this, setZ_ne hkp]
  · have a := matchH_true hm
    rw [← a.1, ← a.2.1, ← a.2.2, hK, hat.1, setZ_eq]
    simp
end Go.Proofs.Ytbcacebifpagpae
namespace Go.Proofs.Ytbcacebifpagpae
open Go.RowKit
set_option linter.unusedVariables false
theorem drop_right {n p : Nat} {z : Nat → Hd} (hr : anyB n (badH z) = false) (hp : p < n) : anyB (n - 1) (badH (dropZ z p)) = false := by
  refine right_mk (fun i hi => ?_) fun i hi => ?_
  · unfold dropZ
    split
    · exact right_fine hr i (by omega)
    · exact right_fine hr (i + 1) (by omega)
  · unfold dropZ
    by_cases h1 : i + 1 < p
    · rw [if_pos (by omega), if_pos h1]
      exact right_lt hr _ _ (by omega) (by omega)
    · rw [if_neg h1]
      split
      · exact right_lt hr _ _ (by omega) (by omega)
      · exact right_lt hr _ _ (by omega) (by omega)
theorem drop_kept {n p : Nat} {z : Nat → Hd} (hr : anyB n (badH z) = false) (hp : p < n) (o l b : Int) : keptV (n - 1) (dropZ z p) o l b = if matchH (z p) o l b then 0 else keptV n z o l b := by
  have ry := drop_right hr hp
  cases hm : matchH (z p) o l b
  · rw [if_neg (by decide)]
    rcases keptV_cases n z o l b with h | ⟨k, hk, h1, h2⟩
    · rw [keptV_none h, keptV_none fun j hj => ?_]
      unfold dropZ
      split
      · exact h j (by omega)
      · exact h (j + 1) (by omega)
    · have hkp : ¬ k = p := fun e => by rw [e, hm] at h2; exact absurd h2 (by decide)
      rw [(kept_at hr hk h2).1]
      by_cases hlt : k < p
      · have e : dropZ z p k = z k := if_pos hlt
        rw [(kept_at ry (k := k) (by omega) (by rw [e]; exact h2)).1, e]
      · have e : dropZ z p (k - 1) = z k := by
          unfold dropZ
          rw [if_neg (by omega), show k - 1 + 1 = k by omega]
        rw [(kept_at ry (k := k - 1) (by omega) (by rw [e]; exact h2)).1, e]
  · rw [if_pos rfl]
    refine keptV_none fun j hj => ?_
    cases hq : matchH (dropZ z p j) o l b
    · rfl
    · have e := matchH_key hq hm
      unfold dropZ at e
      split at e
      · have := right_lt hr j p (by omega) hp
        omega
      · have := right_lt hr p (j + 1) (by omega) (by omega)
        omega
end Go.Proofs.Ytbcacebifpagpae
namespace Go.Proofs.Ytbcacebifpagpae
open Go.RowKit Go.Shelf Go.Sort
set_option linter.unusedVariables false
def formedB (p : Pl) (s : St) : Bool := !(badOrdersB p s || badHoldsB p s || badMovesB p s || badSumsB p s)
theorem fB_order {p : Pl} {s : St} {i : Nat} (hi : i < s.os.n) (h : badOrder p (s.os.z i) = true) : formedB p s = false := by
  have : badOrdersB p s = true := anyB_yes hi h
  simp [formedB, this]
theorem fB_check {p : Pl} {s : St} (h : ¬ checkH s.hs.n s.hs.z = 0) : formedB p s = false := by
  have : badHoldsB p s = true := by simp [badHoldsB, h]
  simp [formedB, this]
theorem fB_home {p : Pl} {s : St} {i : Nat} (hi : i < s.hs.n) (h : homeless p s (s.hs.z i) = true) : formedB p s = false := by
  have : badHoldsB p s = true := by unfold badHoldsB; rw [anyB_yes hi h, Bool.or_true]
  simp [formedB, this]
theorem fB_move {p : Pl} {s : St} {i : Nat} (hi : i < s.ms.n) (h : badMove p (s.ms.z i) = true) : formedB p s = false := by
  have : badMovesB p s = true := anyB_yes hi h
  simp [formedB, this]
theorem fB_len1 {p : Pl} {s : St} (h : ¬ s.si.n = p.ns) : formedB p s = false := by
  have : badSumsB p s = true := by
    have h1 : ((s.si.n : Int) != (p.ns : Int)) = true := by simp; omega
    simp [badSumsB, badSum, h1]
  simp [formedB, this]
theorem fB_len2 {p : Pl} {s : St} (h : ¬ s.so.n = p.ns) : formedB p s = false := by
  have : badSumsB p s = true := by
    have h1 : ((s.so.n : Int) != (p.ns : Int)) = true := by simp; omega
    simp [badSumsB, badSum, h1]
  simp [formedB, this]
theorem fB_len3 {p : Pl} {s : St} (h : ¬ s.sf.n = p.ns) : formedB p s = false := by
  have : badSumsB p s = true := by
    have h1 : ((s.sf.n : Int) != (p.ns : Int)) = true := by simp; omega
    simp [badSumsB, badSum, h1]
  simp [formedB, this]
theorem badSum_yes {p : Pl} {l : Rw} {low : Int} {g : Nat} (hn : l.n = p.ns) (hg : g < p.ns) (h : inB (l.z g) low 1048576 = false) : badSum p l low = true := by
  unfold badSum
  rw [anyB_yes (k := g) (by omega) (by rw [h]; rfl), Bool.or_true]
theorem badSum_mk {p : Pl} {l : Rw} {low : Int} (hn : l.n = p.ns) (h : ∀ g, g < p.ns → inB (l.z g) low 1048576 = true) : badSum p l low = false := by
  unfold badSum
  rw [anyB_no fun j hj => by rw [h j (by omega)]; rfl, hn]
  simp
theorem fB_sum {p : Pl} {s : St} (h : badSum p s.si 0 = true ∨ badSum p s.so 0 = true ∨ badSum p s.sf (-1048576) = true) : formedB p s = false := by
  have : badSumsB p s = true := by
    unfold badSumsB
    rcases h with h | h | h <;> rw [h] <;> simp
  simp [formedB, this]
def sumOK (s : St) (g : Nat) : Bool := inB (s.si.z g) 0 1048576 && inB (s.so.z g) 0 1048576 && inB (s.sf.z g) (-1048576) 1048576
theorem fB_yes {p : Pl} {s : St} (h1 : ∀ i, i < s.os.n → badOrder p (s.os.z i) = false) (h2 : checkH s.hs.n s.hs.z = 0) (h3 : ∀ i, i < s.hs.n → homeless p s (s.hs.z i) = false) (h4 : ∀ i, i < s.ms.n → badMove p (s.ms.z i) = false)
    (h5 : s.si.n = p.ns ∧ s.so.n = p.ns ∧ s.sf.n = p.ns) (h6 : ∀ g, g < p.ns → sumOK s g = true) : formedB p s = true := by
  have e1 : badOrdersB p s = false := anyB_no h1
  have e2 : badHoldsB p s = false := by unfold badHoldsB; rw [h2, anyB_no h3]; rfl
  have e3 : badMovesB p s = false := anyB_no h4
  have e4 : badSumsB p s = false := by
    have h : ∀ g, g < p.ns → (inB (s.si.z g) 0 1048576 = true ∧ inB (s.so.z g) 0 1048576 = true) ∧ inB (s.sf.z g) (-1048576) 1048576 = true := fun g hg => by
      have := h6 g hg
      simpa [sumOK] using this
    unfold badSumsB
    rw [badSum_mk h5.1 fun g hg => (h g hg).1.1, badSum_mk h5.2.1 fun g hg => (h g hg).1.2, badSum_mk h5.2.2 fun g hg => (h g hg).2]
    rfl
  unfold formedB
  rw [e1, e2, e3, e4]
  rfl
theorem checkH_zero' {n : Nat} {z : Nat → Hd} (h : checkH n z = 0) : anyB n (badH z) = false := by
  cases h' : anyB n (badH z)
  · rfl
  · simp [checkH, h'] at h
theorem all_succ {k : Nat} {f : Nat → Bool} {b : Bool} (h : ∀ j, j < k → f j = b) (hk : f k = b) : ∀ j, j < k + 1 → f j = b := fun j hj => by
  by_cases hjk : j = k
  · rw [hjk]; exact hk
  · exact h j (by omega)
set_option maxRecDepth 100000 in
set_option maxHeartbeats 8000000 in
theorem formed_any (p : Pl) (s : St) (w : World) (hp : p.At w) (hs : s.At w) (h0 : shelfE p s.on = 0) (h1 : tooManyB s = false) :
    Calls Try.prog 81 #[p.val, s.val] w fun e w' => e = .returned (.bool (formedB p s)) ∧ Below w.heap.size w w' := by
  obtain ⟨W0, hW, hWB, X0⟩ : ∃ W, ((w.alloc (.cells #[.slice p.ab p.nb p.cb, .slice p.sa p.ns p.cs] 25)).alloc (.cells s.cells 31)) = W ∧ Below w.heap.size w W ∧ Boxes W w.heap.size (w.heap.size + 1) p s := ⟨_, rfl, two_below _ _ _, boxes_new w p s _ _⟩
  have HC : Hid (∀ wk, Below W0.heap.size W0 wk → Boxes wk w.heap.size (w.heap.size + 1) p s ∧ p.At wk ∧ s.At wk ∧ Below w.heap.size w wk) := fun wk h => ⟨X0.below h, (hp.below hWB).below h, (hs.below hWB).below h, hWB.trans (h.mono hWB.size)⟩
  have HW : Hid ((w.alloc (.cells #[.slice p.ab p.nb p.cb, .slice p.sa p.ns p.cs] 25)).alloc (.cells #[.slice s.on.a s.on.n s.on.c, .slice s.os.a s.os.n s.os.c, .slice s.hs.a s.hs.n s.hs.c, .slice s.ms.a s.ms.n s.ms.c, .slice s.si.a s.si.n s.si.c, .slice s.so.a s.so.n s.so.c, .slice s.sf.a s.sf.n s.sf.c] 31) = W0) := hW
  have HT : Hid (s.os.n ≤ 4 ∧ s.ms.n ≤ 8 ∧ (∀ i, i < s.os.n → 1 ≤ (s.os.z i).ls.n ∧ (s.os.z i).ls.n ≤ 3)) := by
    unfold tooManyB at h1
    simp only [Bool.or_eq_false_iff, decide_eq_false_iff_not] at h1
    refine ⟨by omega, by omega, fun i hi => ?_⟩
    have := anyB_false h1.2 i hi
    simp only [fewLines, Bool.not_eq_false'] at this
    have := inB_true this
    omega
  have HR : Hid (RightS p s.on) := (rightS h0).2
  have leb := hp.leb
  have capb0 := hp.capb
  have les := hp.les
  have caps0 := hp.caps
  have capb := capb0
  have caps := caps0
  have ole := hs.os.le
  have ocap := hs.os.cap
  have hle := hs.hs.le
  have hcap := hs.hs.cap
  have mle := hs.ms.le
  have mcap := hs.ms.cap
  unfold maxLen at capb caps ocap hcap mcap
  have os4 := HT.out.1
  have ms8 := HT.out.2.1
  have ns3 := HR.out.pl.ns3
  clear hW X0 h0 h1 hp hs
  unfold Pl.val St.val
  go_enter Try.func81, Try.ntmps81
  go_wp2_with fail
  rw [HW.out]
  go_loopw [5] (fun i wk => ∃ k : Nat, k ≤ s.os.n ∧ i = .int .i64 k ∧ (∀ j, j < k → badOrder p (s.os.z j) = false) ∧ Below W0.heap.size W0 wk) (fun i _ => s.os.n - (intOf i).toNat)
  case atStart => exact ⟨0, Nat.zero_le _, rfl, fun j hj => absurd hj (Nat.not_lt_zero _), Below.refl _ _⟩
  case round =>
    obtain ⟨i, hi, rfl, hno, hB⟩ := hrel
    have HN : Hid (∀ j, j < i → badOrder p (s.os.z j) = false) := hno
    clear hno
    obtain ⟨X, hpk, hsk, hBw⟩ := HC.out wr hB
    obtain ⟨⟨l1, d0, d1⟩, l2, c0, c1, c2, c3, c4, c5, c6⟩ := X
    by_cases hlt : i < s.os.n
    · obtain ⟨b, o, hoa, hb, z0, z1, hl⟩ := hsk.os.ods i hlt
      have q1 : (0 : Int) ≤ (i : Int) := by omega
      have hl3 := (HT.out.2.2 i hlt)
      have lle := hl.le
      have lcap := hl.cap
      unfold maxLen at lcap
      have HO : Hid (s.os.a = some ⟨b, o, none⟩) := hoa
      have HE : Hid (badOrder p (s.os.z i) = (!inB (s.os.z i).k 0 2 || anyB (s.os.z i).ls.n (fun j => badLine p ((s.os.z i).ls.z j)))) := rfl
      rw [hoa] at c1
      clear hoa hl hsk c0 c2 c3 c4 c5 c6 hpk
      cases hk : inB (s.os.z i).k 0 2
      · have HX : Hid (formedB p s = false) := fB_order hlt (by rw [HE.out, hk]; rfl)
        generalize (s.os.z i).k = KD at *
        go_wp2_with (go_at_call 45; refine calls_to (within_any _ _ _ _) ?_)
        go_ret
        exact ⟨by rw [HX.out]; rfl, hBw⟩
      · have HE2 : Hid (badOrder p (s.os.z i) = anyB (s.os.z i).ls.n (fun j => badLine p ((s.os.z i).ls.z j))) := by show badOrder p (s.os.z i) = _; rw [HE.out, hk]; rfl
        clear HE
        generalize (s.os.z i).k = KD at *
        go_wp2_with (go_at_call 45; refine calls_to (within_any _ _ _ _) ?_)
        clear hk z0 hBw z1 c1 d0 d1 l1 l2 hb
        go_loopw [6] (fun i0 wk => ∃ k : Nat, k ≤ (s.os.z i).ls.n ∧ i0 = .int .i64 k ∧ (∀ j, j < k → badLine p ((s.os.z i).ls.z j) = false) ∧ Below W0.heap.size W0 wk) (fun i0 _ => (s.os.z i).ls.n - (intOf i0).toNat)
        case atStart => exact ⟨0, Nat.zero_le _, rfl, fun j hj => absurd hj (Nat.not_lt_zero _), hB⟩
        case round =>
          clear hB
          obtain ⟨j, hj, rfl, hno, hB⟩ := hrel
          have HM : Hid (∀ j', j' < j → badLine p ((s.os.z i).ls.z j') = false) := hno
          clear hno
          obtain ⟨X, hpk, hsk, hBw⟩ := HC.out wr hB
          obtain ⟨⟨l1, d0, d1⟩, l2, c0, c1, c2, c3, c4, c5, c6⟩ := X
          obtain ⟨b', o', hoa, hb, z0, z1, hl⟩ := hsk.os.ods i hlt
          rw [HO.out] at hoa c1
          simp only [Option.some.injEq, Addr.mk.injEq, and_true] at hoa
          obtain ⟨rfl, rfl⟩ := hoa
          by_cases hlj : j < (s.os.z i).ls.n
          · obtain ⟨b2, o2, hla, hb2, y0, y1, y2, y3⟩ := hl.hds j hlj
            have q2 : (0 : Int) ≤ (j : Int) := by omega
            have HT1 : Hid (badLine p ((s.os.z i).ls.z j) = true → formedB p s = false) := fun h => fB_order hlt (by rw [HE2.out]; exact anyB_yes hlj h)
            have HT2 : Hid (badLine p ((s.os.z i).ls.z j) = false → ∀ j', j' < j + 1 → badLine p ((s.os.z i).ls.z j') = false) := fun h => all_succ HM.out h
            have HBL : Hid (badLine p ((s.os.z i).ls.z j) = (!inB ((s.os.z i).ls.z j).o 0 ((p.ns : Int) - 1) || !inB ((s.os.z i).ls.z j).l 1 200 || !inB ((s.os.z i).ls.z j).b 0 ((s.os.z i).ls.z j).l || !inB ((s.os.z i).ls.z j).n 0 ((s.os.z i).ls.z j).l)) := rfl
            rw [hla] at z1
            clear hla hl hsk hpk c0 c2 c3 c4 c5 c6 z0 HM
            generalize badLine p ((s.os.z i).ls.z j) = BL at *
            generalize (s.os.z i).ls.z j = LZ at *
            obtain ⟨W1, hW1, hBn, hYn⟩ : ∃ W1, wr.alloc (.cells #[.int .i64 LZ.o, .int .i64 LZ.l, .int .i64 LZ.b, .int .i64 LZ.n] 40) = W1 ∧ Below W0.heap.size W0 W1 ∧ Blk W1 wr.heap.size 40 4 (fun j => (#[.int .i64 LZ.o, .int .i64 LZ.l, .int .i64 LZ.b, .int .i64 LZ.n] : Array Value).getD j default) := ⟨_, rfl, hB.alloc hB.size _, Blk.mk' rfl rfl⟩
            obtain ⟨B4, hB4⟩ : ∃ B4, wr.heap.size = B4 := ⟨_, rfl⟩
            rw [hB4] at hYn
            have HV : Hid (wr.alloc (.cells #[.int .i64 LZ.o, .int .i64 LZ.l, .int .i64 LZ.b, .int .i64 LZ.n] 40) = W1 ∧ wr.heap.size = B4) := ⟨hW1, hB4⟩
            obtain ⟨X, hpk, hsk, hBw1⟩ := HC.out W1 hBn
            have HX1 : Hid (Boxes W1 w.heap.size (w.heap.size + 1) p s) := X
            clear hW1 hB4 X hpk hsk
            have HY : Hid (∀ wk, Below W1.heap.size W1 wk → (wk.cell? ⟨B4, 1, none⟩ = some (.int .i64 LZ.l) ∧ wk.cell? ⟨B4, 2, none⟩ = some (.int .i64 LZ.b) ∧ wk.cell? ⟨B4, 3, none⟩ = some (.int .i64 LZ.n) ∧ B4 < wk.heap.size) ∧ Below W0.heap.size W0 wk ∧ Below w.heap.size w wk) :=
              fun wk h => ⟨⟨(hYn.below h).cell (j := 1) (by decide), (hYn.below h).cell (j := 2) (by decide), (hYn.below h).cell (j := 3) (by decide), (hYn.below h).lt⟩, hBn.trans (h.mono hBn.size), hBw1.trans (h.mono hBw1.size)⟩
            clear hYn hBn hBw1 hBw
            go_wp2_with fail
            rw [HV.out.1]
            refine (isGood_any p LZ.o W1 les caps0).mono ?_
            rintro e w2 ⟨rfl, hB2⟩
            rw [HV.out.2]
            obtain ⟨⟨t1, t2, t3, l4⟩, hBz, hBw⟩ := HY.out w2 hB2
            clear hB2 HY HV HX1 y0 y1 y2 y3 z1 c1 d0 d1 l1 l2 hb hb2 hB
            cases k1 : inB LZ.o 0 ((p.ns : Int) - 1)
            · have HX : Hid (formedB p s = false) := HT1.out (by rw [HBL.out, k1]; rfl)
              clear HBL HT1 HT2 k1
              go_wp2_with fail
              go_ret
              exact ⟨by rw [HX.out]; rfl, hBw⟩
            · cases k2 : inB LZ.l 1 200
              · have HX : Hid (formedB p s = false) := HT1.out (by rw [HBL.out, k1, k2]; rfl)
                clear HBL HT1 HT2 k1
                go_wp2_with (go_at_call 45; refine calls_to (within_any _ _ _ _) ?_)
                go_ret
                exact ⟨by rw [HX.out]; rfl, hBw⟩
              · cases k3 : inB LZ.b 0 LZ.l
                · have HX : Hid (formedB p s = false) := HT1.out (by rw [HBL.out, k1, k2, k3]; rfl)
                  clear HBL HT1 HT2 k1
                  go_wp2_with (go_at_call 45; refine calls_to (within_any _ _ _ _) ?_)
                  go_ret
                  exact ⟨by rw [HX.out]; rfl, hBw⟩
                · cases k4 : inB LZ.n 0 LZ.l
                  · have HX : Hid (formedB p s = false) := HT1.out (by rw [HBL.out, k1, k2, k3, k4]; rfl)
                    clear HBL HT1 HT2 k1
                    go_wp2_with (go_at_call 45; refine calls_to (within_any _ _ _ _) ?_)
                    go_ret
                    exact ⟨by rw [HX.out]; rfl, hBw⟩
                  · have HX := HT2.out (by rw [HBL.out, k1, k2, k3, k4]; rfl)
                    have HX2 : Hid _ := HX
                    clear HBL HT1 HT2 k1 HX
                    go_wp2_with (go_at_call 45; refine calls_to (within_any _ _ _ _) ?_)
                    go_roundw
                    case rel => exact ⟨j + 1, by omega, by go_num, HX2.out, hBz⟩
                    case measure => simp [intOf]; omega
          · have HA : Hid (badOrder p (s.os.z i) = false) := by show badOrder p (s.os.z i) = false; rw [HE2.out]; exact anyB_no fun j' hj' => HM.out j' (by omega)
            clear c0 c2 c3 c4 c5 c6 hpk hsk hl
            go_wp2_with fail
            go_roundw
            case rel => exact ⟨i + 1, by omega, by go_num, all_succ HN.out HA.out, hB⟩
            case measure => simp [intOf]; omega
    · have HN2 : Hid (∀ j, j < s.os.n → badOrder p (s.os.z j) = false) := fun j hj => HN.out j (by omega)
      clear HN
      have HHS : Hid (s.hs.At wr) := hsk.hs
      clear hsk hpk c0 c3 c4 c5 c6 hBw d0 d1
      go_wp2_with fail
      refine (CheckHolds_any s.hs wr HHS.out).mono ?_
      rintro e w2 ⟨rfl, hB2⟩
      have hB := hB.trans (hB2.mono hB.size)
      clear hB2 HHS c1 c2 l1 l2 hlt hi
      by_cases h0 : checkH s.hs.n s.hs.z = 0
      · have H0 : Hid (checkH s.hs.n s.hs.z = 0) := h0
        have h72 : s.hs.n ≤ 72 := right_len (checkH_zero' h0)
        rw [h0]
        clear h0
        go_wp2_with fail
        go_loopw [8] (fun i wk => ∃ k : Nat, k ≤ s.hs.n ∧ i = .int .i64 k ∧ (∀ j, j < k → homeless p s (s.hs.z j) = false) ∧ Below W0.heap.size W0 wk) (fun i _ => s.hs.n - (intOf i).toNat)
        case atStart => exact ⟨0, Nat.zero_le _, rfl, fun j hj => absurd hj (Nat.not_lt_zero _), hB⟩
        case round =>
          clear hB
          obtain ⟨k, hk, rfl, hno, hB⟩ := hrel
          have HM : Hid (∀ j, j < k → homeless p s (s.hs.z j) = false) := hno
          clear hno
          obtain ⟨X, hpk, hsk, hBw⟩ := HC.out wr hB
          obtain ⟨⟨l1, d0, d1⟩, l2, c0, c1, c2, c3, c4, c5, c6⟩ := X
          by_cases hlt : k < s.hs.n
          · obtain ⟨b, q, hha, hb, z0, z1, z2, z3⟩ := hsk.hs.hds k hlt
            have hfine := fineH_true (right_fine (checkH_zero' H0.out) k hlt)
            obtain ⟨mo, hmo⟩ := Int.eq_ofNat_of_zero_le hfine.1.1
            obtain ⟨ml, hml⟩ := Int.eq_ofNat_of_zero_le hfine.2.1.1
            have q4 : (0 : Int) ≤ (k : Int) := by omega
            have q2 : (0 : Int) ≤ (mo : Int) := by omega
            have q3 : (0 : Int) ≤ (ml : Int) := by omega
            have HT1 : Hid (homeless p s (s.hs.z k) = true → formedB p s = false) := fun h => fB_home hlt h
            have HT2 : Hid (homeless p s (s.hs.z k) = false → ∀ j', j' < k + 1 → homeless p s (s.hs.z j') = false) := fun h => all_succ HM.out h
            have HBL : Hid (homeless p s (s.hs.z k) = (!inB mo 0 ((s.os.n : Int) - 1) || !inB ml 0 (((s.os.z mo).ls.n : Int) - 1) || !inB (s.hs.z k).b 0 ((p.nb : Int) - 1))) := by
              show homeless p s (s.hs.z k) = _
              unfold homeless
              rw [hmo, hml]
              rfl
            rw [hmo] at z0
            rw [hml] at z1
            rw [hha] at c2
            clear hmo hml hfine HM hha
            generalize homeless p s (s.hs.z k) = BL at *
            generalize (s.hs.z k).b = HB at *
            generalize (s.hs.z k).n = HNn at *
            obtain ⟨W1, hW1, hBn, hYn, hBa⟩ : ∃ W1, wr.alloc (.cells #[.int .i64 mo, .int .i64 ml, .int .i64 HB, .int .i64 HNn] 70) = W1 ∧ Below W0.heap.size W0 W1 ∧ Blk W1 wr.heap.size 70 4 (fun j => (#[.int .i64 mo, .int .i64 ml, .int .i64 HB, .int .i64 HNn] : Array Value).getD j default) ∧ Below wr.heap.size wr W1 := ⟨_, rfl, hB.alloc hB.size _, Blk.mk' rfl rfl, (Below.refl _ _).alloc (Nat.le_refl _) _⟩
            have HV : Hid (wr.alloc (.cells #[.int .i64 mo, .int .i64 ml, .int .i64 HB, .int .i64 HNn] 70) = W1) := hW1
            obtain ⟨X, hpk1, hsk1, hBw1⟩ := HC.out W1 hBn
            obtain ⟨⟨m1, e0, e1⟩, m2, f0, f1, f2, f3, f4, f5, f6⟩ := X
            have r0 : ∀ d os, (grow (redrawn W1 d) os).cell? ⟨wr.heap.size, 0, none⟩ = some (.int .i64 mo) := fun d os => cell_regrown (hYn.cell (j := 0) (by decide)) d os
            have r1 : ∀ d os, (grow (redrawn W1 d) os).cell? ⟨wr.heap.size, 1, none⟩ = some (.int .i64 ml) := fun d os => cell_regrown (hYn.cell (j := 1) (by decide)) d os
            have r2 : ∀ d os, (grow (redrawn W1 d) os).cell? ⟨wr.heap.size, 2, none⟩ = some (.int .i64 HB) := fun d os => cell_regrown (hYn.cell (j := 2) (by decide)) d os
            have r3 : ∀ d os, (grow (redrawn W1 d) os).cell? ⟨w.heap.size, 0, none⟩ = some (.slice p.ab p.nb p.cb) := fun d os => cell_regrown e0 d os
            have r4 : ∀ d os, (grow (redrawn W1 d) os).cell? ⟨w.heap.size, 1, none⟩ = some (.slice p.sa p.ns p.cs) := fun d os => cell_regrown e1 d os
            clear e0 e1 f0 f2 f3 f4 f5 f6 hpk1 hW1
            by_cases g1 : mo < s.os.n
            · obtain ⟨b1, o1, hoa, hb1, -, y1, hl⟩ := hsk1.os.ods mo g1
              have lle := hl.le
              have lcap := hl.cap
              have l3 := HT.out.2.2 mo g1
              unfold maxLen at lcap
              rw [hoa] at f1
              have r5 : ∀ d os, (grow (redrawn W1 d) os).cell? ⟨w.heap.size + 1, 1, none⟩ = some (.slice (some ⟨b1, o1, none⟩) s.os.n s.os.c) := fun d os => cell_regrown f1 d os
              have r6 : ∀ d os, (grow (redrawn W1 d) os).cell? ⟨b1, o1 + mo * 2 + 1, none⟩ = some (.slice (s.os.z mo).ls.a (s.os.z mo).ls.n (s.os.z mo).ls.c) := fun d os => cell_regrown y1 d os
              have g1' : ¬ (s.os.n : Int) ≤ (mo : Int) := by omega
              have g1d : decide ((s.os.n : Int) ≤ (mo : Int)) = false := decide_eq_false g1'
              have g1n : ¬ s.os.n ≤ mo := by omega
              have g1e : decide (s.os.n ≤ mo) = false := decide_eq_false g1n
              have k1 : inB mo 0 ((s.os.n : Int) - 1) = true := inB_mk (by omega)
              clear hoa hl hsk1 f1 y1
              generalize (s.os.z mo).ls.n = LN at *
              generalize (s.os.z mo).ls.a = LA at *
              generalize (s.os.z mo).ls.c = LC at *
              by_cases g2 : ml < LN
              · have g2' : ¬ (LN : Int) ≤ (ml : Int) := by omega
                have g2d : decide ((LN : Int) ≤ (ml : Int)) = false := decide_eq_false g2'
                have g2n : ¬ LN ≤ ml := by omega
                have g2e : decide (LN ≤ ml) = false := decide_eq_false g2n
                have k2 : inB ml 0 ((LN : Int) - 1) = true := inB_mk (by omega)
                cases k3 : inB HB 0 ((p.nb : Int) - 1)
                · have HX : Hid (formedB p s = false) := HT1.out (by rw [HBL.out, k1, k2, k3]; rfl)
                  clear HBL HT1 HT2 k1 k2
                  go_wp2_with fail
                  rw [HV.out]
                  refine wp_region_quiet_below (by kernel_rfl) (by kernel_rfl) ?_
                  repeat (go_big_quiet_step ((go_at_call 117; exact Calls.regrown_of (isBin_any p HB _ leb capb0))))
                  refine wpQuiet_nil ?_
                  intro _ hw'
                  obtain ⟨⟨dq, osq⟩, hw''⟩ := hw'
                  subst hw''
                  rw [k3]
                  go_wp2_with fail
                  go_ret
                  exact ⟨by rw [HX.out]; rfl, hBw1.trans ((below_regrown _ _ _).mono hBw1.size)⟩
                · have HX := HT2.out (by rw [HBL.out, k1, k2, k3]; rfl)
                  have HX2 : Hid _ := HX
                  clear HBL HT1 HT2 k1 k2 HX
                  go_wp2_with fail
                  rw [HV.out]
                  refine wp_region_quiet_below (by kernel_rfl) (by kernel_rfl) ?_
                  repeat (go_big_quiet_step ((go_at_call 117; exact Calls.regrown_of (isBin_any p HB _ leb capb0))))
                  refine wpQuiet_nil ?_
                  intro _ hw'
                  obtain ⟨⟨dq, osq⟩, hw''⟩ := hw'
                  subst hw''
                  rw [k3]
                  go_wp2_with fail
                  go_roundw
                  case rel => exact ⟨k + 1, by omega, by go_num, HX2.out, hBn.trans ((below_regrown _ _ _).mono hBn.size)⟩
                  case measure => simp [intOf]; omega
              · have g2' : (LN : Int) ≤ (ml : Int) := by omega
                have g2d : decide ((LN : Int) ≤ (ml : Int)) = true := decide_eq_true g2'
                have g2n : LN ≤ ml := by omega
                have g2e : decide (LN ≤ ml) = true := decide_eq_true g2n
                have k2 : inB ml 0 ((LN : Int) - 1) = false := inB_no (by omega)
                have HX : Hid (formedB p s = false) := HT1.out (by rw [HBL.out, k1, k2]; rfl)
                clear HBL HT1 HT2 k1 k2
                go_wp2_with fail
                rw [HV.out]
                refine wp_region_quiet_below (by kernel_rfl) (by kernel_rfl) ?_
                repeat (go_big_quiet_step (fail))
                refine wpQuiet_nil ?_
                intro _ hw'
                obtain ⟨⟨dq, osq⟩, hw''⟩ := hw'
                subst hw''
                go_wp2_with fail
                go_ret
                exact ⟨by rw [HX.out]; rfl, hBw1.trans ((below_regrown _ _ _).mono hBw1.size)⟩
            · have g1' : (s.os.n : Int) ≤ (mo : Int) := by omega
              have g1d : decide ((s.os.n : Int) ≤ (mo : Int)) = true := decide_eq_true g1'
              have k1 : inB mo 0 ((s.os.n : Int) - 1) = false := inB_no (by omega)
              have r5 : ∀ d os, (grow (redrawn W1 d) os).cell? ⟨w.heap.size + 1, 1, none⟩ = some (.slice s.os.a s.os.n s.os.c) := fun d os => cell_regrown f1 d os
              have HX : Hid (formedB p s = false) := HT1.out (by rw [HBL.out, k1]; rfl)
              clear HBL HT1 HT2 k1 f1 hsk1
              go_wp2_with fail
              rw [HV.out]
              refine wp_region_quiet_below (by kernel_rfl) (by kernel_rfl) ?_
              repeat (go_big_quiet_step (fail))
              refine wpQuiet_nil ?_
              intro _ hw'
              obtain ⟨⟨dq, osq⟩, hw''⟩ := hw'
              subst hw''
              go_wp2_with fail
              go_ret
              exact ⟨by rw [HX.out]; rfl, hBw1.trans ((below_regrown _ _ _).mono hBw1.size)⟩
          · have HN3 : Hid (∀ j, j < s.hs.n → homeless p s (s.hs.z j) = false) := fun j hj => HM.out j (by omega)
            clear HM
            go_wp2_with fail
            clear hsk hpk c0 c1 c2 c3 c4 c5 c6 d0 d1 hBw l1 l2 hlt hk
            go_loopw [10] (fun i wk => ∃ k : Nat, k ≤ s.ms.n ∧ i = .int .i64 k ∧ (∀ j, j < k → badMove p (s.ms.z j) = false) ∧ Below W0.heap.size W0 wk) (fun i _ => s.ms.n - (intOf i).toNat)
            case atStart => exact ⟨0, Nat.zero_le _, rfl, fun j hj => absurd hj (Nat.not_lt_zero _), hB⟩
            case round =>
              clear hB
              obtain ⟨k, hk, rfl, hno, hB⟩ := hrel
              have HM : Hid (∀ j, j < k → badMove p (s.ms.z j) = false) := hno
              clear hno
              obtain ⟨X, hpk, hsk, hBw⟩ := HC.out wr hB
              obtain ⟨⟨l1, d0, d1⟩, l2, c0, c1, c2, c3, c4, c5, c6⟩ := X
              by_cases hlt : k < s.ms.n
              · obtain ⟨b, q, hma, hb, z0, z1, z2, z3⟩ := hsk.ms.hds k hlt
                have q4 : (0 : Int) ≤ (k : Int) := by omega
                have HT1 : Hid (badMove p (s.ms.z k) = true → formedB p s = false) := fun h => fB_move hlt h
                have HT2 : Hid (badMove p (s.ms.z k) = false → ∀ j', j' < k + 1 → badMove p (s.ms.z j') = false) := fun h => all_succ HM.out h
                have HBL : Hid (badMove p (s.ms.z k) = (!inB (s.ms.z k).o 0 ((p.ns : Int) - 1) || !inB (s.ms.z k).l 0 ((p.nb : Int) - 1) || !inB (s.ms.z k).b 0 ((p.nb : Int) - 1) || ((s.ms.z k).l == (s.ms.z k).b) || !inB (s.ms.z k).n 1 200)) := rfl
                rw [hma] at c3
                clear hma hsk hpk c0 c1 c2 c4 c5 c6 HM
                generalize badMove p (s.ms.z k) = BL at *
                generalize s.ms.z k = LZ at *
                obtain ⟨W1, hW1, hBn, hYn⟩ : ∃ W1, wr.alloc (.cells #[.int .i64 LZ.o, .int .i64 LZ.l, .int .i64 LZ.b, .int .i64 LZ.n] 55) = W1 ∧ Below W0.heap.size W0 W1 ∧ Blk W1 wr.heap.size 55 4 (fun j => (#[.int .i64 LZ.o, .int .i64 LZ.l, .int .i64 LZ.b, .int .i64 LZ.n] : Array Value).getD j default) := ⟨_, rfl, hB.alloc hB.size _, Blk.mk' rfl rfl⟩
                obtain ⟨B4, hB4⟩ : ∃ B4, wr.heap.size = B4 := ⟨_, rfl⟩
                rw [hB4] at hYn
                have HV : Hid (wr.alloc (.cells #[.int .i64 LZ.o, .int .i64 LZ.l, .int .i64 LZ.b, .int .i64 LZ.n] 55) = W1 ∧ wr.heap.size = B4) := ⟨hW1, hB4⟩
                have HY : Hid (∀ wk, Below W1.heap.size W1 wk → (wk.cell? ⟨B4, 1, none⟩ = some (.int .i64 LZ.l) ∧ wk.cell? ⟨B4, 2, none⟩ = some (.int .i64 LZ.b) ∧ wk.cell? ⟨B4, 3, none⟩ = some (.int .i64 LZ.n) ∧ B4 < wk.heap.size) ∧ (w.heap.size < wk.heap.size ∧ wk.cell? ⟨w.heap.size, 0, none⟩ = some (.slice p.ab p.nb p.cb) ∧ wk.cell? ⟨w.heap.size, 1, none⟩ = some (.slice p.sa p.ns p.cs)) ∧ Below W0.heap.size W0 wk ∧ Below w.heap.size w wk) :=
                  fun wk h => ⟨⟨(hYn.below h).cell (j := 1) (by decide), (hYn.below h).cell (j := 2) (by decide), (hYn.below h).cell (j := 3) (by decide), (hYn.below h).lt⟩, (HC.out wk (hBn.trans (h.mono hBn.size))).1.1, hBn.trans (h.mono hBn.size), (HC.out wk (hBn.trans (h.mono hBn.size))).2.2.2⟩
                clear hYn hBn hBw hW1 hB4
                go_wp2_with fail
                rw [HV.out.1]
                refine (isGood_any p LZ.o W1 les caps0).mono ?_
                rintro e w2 ⟨rfl, hB2⟩
                rw [HV.out.2]
                clear d0 d1 l1 l2 hb hB z0 z1 z2 z3 c3 HV
                obtain ⟨⟨t1, t2, t3, l4⟩, ⟨l1, d0, d1⟩, hBz, hBw⟩ := HY.out w2 hB2
                cases k1 : inB LZ.o 0 ((p.ns : Int) - 1)
                · have HX : Hid (formedB p s = false) := HT1.out (by rw [HBL.out, k1]; rfl)
                  clear HBL HT1 HT2 k1
                  go_wp2_with fail
                  go_ret
                  exact ⟨by rw [HX.out]; rfl, hBw⟩
                · go_wp2_with fail
                  refine (isBin_any p LZ.l w2 leb capb0).mono ?_
                  rintro e w3 ⟨rfl, hB3⟩
                  have hB3 := hB2.trans (hB3.mono hB2.size)
                  clear hB2 t1 t2 t3 l4 l1 d0 d1 hBz hBw
                  obtain ⟨⟨t1, t2, t3, l4⟩, ⟨l1, d0, d1⟩, hBz, hBw⟩ := HY.out w3 hB3
                  cases k2 : inB LZ.l 0 ((p.nb : Int) - 1)
                  · have HX : Hid (formedB p s = false) := HT1.out (by rw [HBL.out, k1, k2]; rfl)
                    clear HBL HT1 HT2 k1 k2
                    go_wp2_with fail
                    go_ret
                    exact ⟨by rw [HX.out]; rfl, hBw⟩
                  · go_wp2_with fail
                    refine (isBin_any p LZ.b w3 leb capb0).mono ?_
                    rintro e w4 ⟨rfl, hB4⟩
                    have hB4 := hB3.trans (hB4.mono hB3.size)
                    clear hB3 t1 t2 t3 l4 l1 d0 d1 hBz hBw
                    obtain ⟨⟨t1, t2, t3, l4⟩, ⟨l1, d0, d1⟩, hBz, hBw⟩ := HY.out w4 hB4
                    cases k3 : inB LZ.b 0 ((p.nb : Int) - 1)
                    · have HX : Hid (formedB p s = false) := HT1.out (by rw [HBL.out, k1, k2, k3]; rfl)
                      clear HBL HT1 HT2 k1 k2 k3
                      go_wp2_with fail
                      go_ret
                      exact ⟨by rw [HX.out]; rfl, hBw⟩
                    · cases k4 : (LZ.l == LZ.b)
                      · cases k5 : inB LZ.n 1 200
                        · have HX : Hid (formedB p s = false) := HT1.out (by rw [HBL.out, k1, k2, k3, k4, k5]; rfl)
                          clear HBL HT1 HT2 k1 k2 k3
                          go_wp2_with (go_at_call 45; refine calls_to (within_any _ _ _ _) ?_)
                          go_ret
                          exact ⟨by rw [HX.out]; rfl, hBw⟩
                        · have HX := HT2.out (by rw [HBL.out, k1, k2, k3, k4, k5]; rfl)
                          have HX2 : Hid _ := HX
                          clear HBL HT1 HT2 k1 k2 k3 HX
                          go_wp2_with (go_at_call 45; refine calls_to (within_any _ _ _ _) ?_)
                          go_roundw
                          case rel => exact ⟨k + 1, by omega, by go_num, HX2.out, hBz⟩
                          case measure => simp [intOf]; omega
                      · have HX : Hid (formedB p s = false) := HT1.out (by rw [HBL.out, k1, k2, k3, k4]; rfl)
                        clear HBL HT1 HT2 k1 k2 k3
                        go_wp2_with fail
                        go_ret
                        exact ⟨by rw [HX.out]; rfl, hBw⟩
              · have HN4 : Hid (∀ j, j < s.ms.n → badMove p (s.ms.z j) = false) := fun j hj => HM.out j (by omega)
                clear HM
                by_cases n1 : s.si.n = p.ns
                · by_cases n2 : s.so.n = p.ns
                  · by_cases n3 : s.sf.n = p.ns
                    · have HLN : Hid (s.si.n = p.ns ∧ s.so.n = p.ns ∧ s.sf.n = p.ns) := ⟨n1, n2, n3⟩
                      have q1 := hsk.si.le
                      have q2 := hsk.si.cap
                      have q3 := hsk.so.le
                      have q4 := hsk.so.cap
                      have q5 := hsk.sf.le
                      have q6 := hsk.sf.cap
                      unfold maxLen at q2 q4 q6
                      rw [n1] at c4 q1
                      rw [n2] at c5 q3
                      rw [n3] at c6 q5
                      clear n1 n2 n3 hsk hpk c0 c1 c2 hBw
                      go_wp2_with fail
                      clear c3 c4 c5 c6 d0 d1 l1 l2 hlt hk
                      go_loopw [12] (fun i wk => ∃ k : Nat, k ≤ p.ns ∧ i = .int .i64 k ∧ (∀ j, j < k → sumOK s j = true) ∧ Below W0.heap.size W0 wk) (fun i _ => p.ns - (intOf i).toNat)
                      case atStart => exact ⟨0, Nat.zero_le _, rfl, fun j hj => absurd hj (Nat.not_lt_zero _), hB⟩
                      case round =>
                        clear hB
                        obtain ⟨g, hg, rfl, hno, hB⟩ := hrel
                        have HM : Hid (∀ j, j < g → sumOK s j = true) := hno
                        clear hno
                        obtain ⟨X, hpk, hsk, hBw⟩ := HC.out wr hB
                        obtain ⟨⟨l1, d0, d1⟩, l2, c0, c1, c2, c3, c4, c5, c6⟩ := X
                        by_cases hlt : g < p.ns
                        · obtain ⟨b1, o1, e1, g1, z1⟩ := hsk.si.ints g (by rw [HLN.out.1]; exact hlt)
                          obtain ⟨b2, o2, e2, g2, z2⟩ := hsk.so.ints g (by rw [HLN.out.2.1]; exact hlt)
                          obtain ⟨b3, o3, e3, g3, z3⟩ := hsk.sf.ints g (by rw [HLN.out.2.2]; exact hlt)
                          have qq : (0 : Int) ≤ (g : Int) := by omega
                          rw [e1, HLN.out.1] at c4
                          rw [e2, HLN.out.2.1] at c5
                          rw [e3, HLN.out.2.2] at c6
                          have HT1 : Hid (inB (s.si.z g) 0 1048576 = false → formedB p s = false) := fun h => fB_sum (.inl (badSum_yes HLN.out.1 hlt h))
                          have HT2 : Hid (inB (s.so.z g) 0 1048576 = false → formedB p s = false) := fun h => fB_sum (.inr (.inl (badSum_yes HLN.out.2.1 hlt h)))
                          have HT3 : Hid (inB (s.sf.z g) (-1048576) 1048576 = false → formedB p s = false) := fun h => fB_sum (.inr (.inr (badSum_yes HLN.out.2.2 hlt h)))
                          have HT4 : Hid (inB (s.si.z g) 0 1048576 = true → inB (s.so.z g) 0 1048576 = true → inB (s.sf.z g) (-1048576) 1048576 = true → ∀ j', j' < g + 1 → sumOK s j' = true) := fun h1 h2 h3 => all_succ HM.out (by unfold sumOK; rw [h1, h2, h3]; rfl)
                          clear e1 e2 e3 hsk hpk c0 c1 c2 c3 HM
                          generalize s.si.z g = I1 at *
                          generalize s.so.z g = I2 at *
                          generalize s.sf.z g = I3 at *
                          cases k1 : inB I1 0 1048576
                          · have HX : Hid (formedB p s = false) := HT1.out k1
                            clear HT1 HT2 HT3 HT4
                            go_wp2_with (go_at_call 45; refine calls_to (within_any _ _ _ _) ?_)
                            go_ret
                            exact ⟨by rw [HX.out]; rfl, hBw⟩
                          · cases k2 : inB I2 0 1048576
                            · have HX : Hid (formedB p s = false) := HT2.out k2
                              clear HT1 HT2 HT3 HT4
                              go_wp2_with (go_at_call 45; refine calls_to (within_any _ _ _ _) ?_)
                              go_ret
                              exact ⟨by rw [HX.out]; rfl, hBw⟩
                            · cases k3 : inB I3 (-1048576) 1048576
                              · have HX : Hid (formedB p s = false) := HT3.out k3
                                clear HT1 HT2 HT3 HT4
                                go_wp2_with (go_at_call 45; refine calls_to (within_any _ _ _ _) ?_)
                                go_ret
                                exact ⟨by rw [HX.out]; rfl, hBw⟩
                              · have HX := HT4.out k1 k2 k3
                                have HX2 : Hid _ := HX
                                clear HT1 HT2 HT3 HT4 HX
                                go_wp2_with (go_at_call 45; refine calls_to (within_any _ _ _ _) ?_)
                                go_roundw
                                case rel => exact ⟨g + 1, by omega, by go_num, HX2.out, hB⟩
                                case measure => simp [intOf]; omega
                        · have HX : Hid (formedB p s = true) := fB_yes HN2.out H0.out HN3.out HN4.out HLN.out (fun j hj => HM.out j (by omega))
                          clear hsk hpk c0 c1 c2 c3 c4 c5 c6 HM
                          go_wp2_with fail
                          go_ret
                          exact ⟨by rw [HX.out]; rfl, hBw⟩
                    · have HX : Hid (formedB p s = false) := fB_len3 n3
                      have m1 : ((s.si.n : Int) != (p.ns : Int)) = false := by simp [n1]
                      have m2 : ((s.so.n : Int) != (p.ns : Int)) = false := by simp [n2]
                      have m3 : ((s.sf.n : Int) != (p.ns : Int)) = true := by simp; omega
                      clear hsk hpk c0 c1 c2 n1 n2
                      go_wp2_with fail
                      go_ret
                      exact ⟨by rw [HX.out]; rfl, hBw⟩
                  · have HX : Hid (formedB p s = false) := fB_len2 n2
                    have m1 : ((s.si.n : Int) != (p.ns : Int)) = false := by simp [n1]
                    have m2 : ((s.so.n : Int) != (p.ns : Int)) = true := by simp; omega
                    clear hsk hpk c0 c1 c2 c6 n1
                    go_wp2_with fail
                    go_ret
                    exact ⟨by rw [HX.out]; rfl, hBw⟩
                · have HX : Hid (formedB p s = false) := fB_len1 n1
                  have m1 : ((s.si.n : Int) != (p.ns : Int)) = true := by simp; omega
                  clear hsk hpk c0 c1 c2 c5 c6
                  go_wp2_with fail
                  go_ret
                  exact ⟨by rw [HX.out]; rfl, hBw⟩
      · have HX : Hid (formedB p s = false) := fB_check h0
        obtain ⟨X, hpk, hsk, hBw⟩ := HC.out w2 hB
        clear X hpk hsk
        go_wp2_with fail
        go_ret
        exact ⟨by rw [HX.out]; rfl, hBw⟩
end Go.Proofs.Ytbcacebifpagpae
namespace Go.Proofs.Ytbcacebifpagpae
open Go.RowKit Go.Shelf Go.Sort
set_option linter.unusedVariables false
theorem tm_orders {s : St} (h : 4 < s.os.n) : tooManyB s = true := by
  have : decide (4 < s.os.n) = true := decide_eq_true h
  simp [tooManyB, this]
theorem tm_moves {s : St} (h : 8 < s.ms.n) : tooManyB s = true := by
  have : decide (8 < s.ms.n) = true := decide_eq_true h
  simp [tooManyB, this]
theorem tm_lines {s : St} {i : Nat} (hi : i < s.os.n) (h : inB (s.os.z i).ls.n 1 3 = false) : tooManyB s = true := by
  have : anyB s.os.n (fun i => fewLines (s.os.z i)) = true := anyB_yes hi (by unfold fewLines; rw [h]; rfl)
  simp [tooManyB, this]
theorem tm_no {s : St} (h1 : ¬ 4 < s.os.n) (h2 : ¬ 8 < s.ms.n) (h3 : ∀ i, i < s.os.n → inB (s.os.z i).ls.n 1 3 = true) : tooManyB s = false := by
  have e1 : decide (4 < s.os.n) = false := decide_eq_false h1
  have e2 : decide (8 < s.ms.n) = false := decide_eq_false h2
  have e3 : anyB s.os.n (fun i => fewLines (s.os.z i)) = false := anyB_no fun i hi => by unfold fewLines; rw [h3 i hi]; rfl
  unfold tooManyB
  rw [e1, e2, e3]
  rfl
theorem sE_shelf {p : Pl} {s : St} (h : ¬ shelfE p s.on = 0) : stateE p s = shelfE p s.on := by unfold stateE; rw [if_neg h]
theorem sE_many {p : Pl} {s : St} (h : shelfE p s.on = 0) (h1 : tooManyB s = true) : stateE p s = 2 := by unfold stateE; rw [if_pos h, h1]; rfl
theorem sE_form {p : Pl} {s : St} (h : shelfE p s.on = 0) (h1 : tooManyB s = false) (h2 : formedB p s = false) : stateE p s = 1 := by
  have e : (badOrdersB p s || badHoldsB p s || badMovesB p s || badSumsB p s) = true := by
    cases hq : (badOrdersB p s || badHoldsB p s || badMovesB p s || badSumsB p s)
    · rw [formedB, hq] at h2; cases h2
    · rfl
  unfold stateE; rw [if_pos h, h1, e]; rfl
theorem formedB_yes {p : Pl} {s : St} (h : shelfE p s.on = 0) (h1 : tooManyB s = false) (h2 : formedB p s = true) : Formed p s := by
  have e : (badOrdersB p s || badHoldsB p s || badMovesB p s || badSumsB p s) = false := by
    cases hq : (badOrdersB p s || badHoldsB p s || badMovesB p s || badSumsB p s)
    · rfl
    · rw [formedB, hq] at h2; cases h2
  simp only [Bool.or_eq_false_iff] at e
  exact formed h h1 e.1.1.1 e.1.1.2 e.1.2 e.2
theorem sE_sum {p : Pl} {s : St} (h : shelfE p s.on = 0) (h1 : tooManyB s = false) (h2 : formedB p s = true) : stateE p s = if summedB p s then 0 else 7 := by
  have e : (badOrdersB p s || badHoldsB p s || badMovesB p s || badSumsB p s) = false := by
    cases hq : (badOrdersB p s || badHoldsB p s || badMovesB p s || badSumsB p s)
    · rfl
    · rw [formedB, hq] at h2; cases h2
  unfold stateE summedB
  rw [if_pos h, h1, e]
  cases (wrongGoodsB p s || wrongOrdersB s) <;> rfl
set_option maxRecDepth 100000 in
set_option maxHeartbeats 4000000 in
theorem refCheckState_any (p : Pl) (s : St) (w : World) (hp : p.At w) (hs : s.At w) :
    Calls Try.prog 40 #[p.val, s.val] w fun e w' => e = .returned (.int .i64 (stateE p s)) ∧ Below w.heap.size w w' := by
  obtain ⟨W0, hW, hWB, X0⟩ : ∃ W, ((w.alloc (.cells #[.slice p.ab p.nb p.cb, .slice p.sa p.ns p.cs] 25)).alloc (.cells s.cells 31)) = W ∧ Below w.heap.size w W ∧ Boxes W w.heap.size (w.heap.size + 1) p s := ⟨_, rfl, two_below _ _ _, boxes_new w p s _ _⟩
  have HC : Hid (∀ wk, Below W0.heap.size W0 wk → Boxes wk w.heap.size (w.heap.size + 1) p s ∧ p.At wk ∧ s.At wk ∧ Below w.heap.size w wk) := fun wk h => ⟨X0.below h, (hp.below hWB).below h, (hs.below hWB).below h, hWB.trans (h.mono hWB.size)⟩
  have HW : Hid ((w.alloc (.cells #[.slice p.ab p.nb p.cb, .slice p.sa p.ns p.cs] 25)).alloc (.cells #[.slice s.on.a s.on.n s.on.c, .slice s.os.a s.os.n s.os.c, .slice s.hs.a s.hs.n s.hs.c, .slice s.ms.a s.ms.n s.ms.c, .slice s.si.a s.si.n s.si.c, .slice s.so.a s.so.n s.so.c, .slice s.sf.a s.sf.n s.sf.c] 31) = W0) := hW
  have ole := hs.os.le
  have ocap := hs.os.cap
  have mle := hs.ms.le
  have mcap := hs.ms.cap
  unfold maxLen at ocap mcap
  clear hW X0 hp hs
  unfold Pl.val St.val
  go_enter Try.func40, Try.ntmps40
  go_wp2_with fail
  rw [HW.out]
  obtain ⟨X, hpk, hsk, hBw⟩ := HC.out W0 (Below.refl _ _)
  refine (refCheckShelf_any p s.on W0 hpk hsk.on).mono ?_
  rintro e w1 ⟨rfl, hB⟩
  clear X hpk hsk hBw HW
  obtain ⟨X, hpk, hsk, hBw⟩ := HC.out w1 hB
  obtain ⟨⟨l1, d0, d1⟩, l2, c0, c1, c2, c3, c4, c5, c6⟩ := X
  by_cases h0 : shelfE p s.on = 0
  · have H0 : Hid (shelfE p s.on = 0) := h0
    rw [h0]
    clear h0 hpk hsk
    by_cases n1 : 4 < s.os.n
    · have HX : Hid (stateE p s = 2) := sE_many H0.out (tm_orders n1)
      have n1' : (4 : Int) < (s.os.n : Int) := by omega
      go_wp2_with fail
      go_ret
      exact ⟨by rw [HX.out]; rfl, hBw⟩
    · by_cases n2 : 8 < s.ms.n
      · have HX : Hid (stateE p s = 2) := sE_many H0.out (tm_moves n2)
        have n1' : ¬ (4 : Int) < (s.os.n : Int) := by omega
        have n2' : (8 : Int) < (s.ms.n : Int) := by omega
        go_wp2_with fail
        go_ret
        exact ⟨by rw [HX.out]; rfl, hBw⟩
      · have n1' : ¬ (4 : Int) < (s.os.n : Int) := by omega
        have n2' : ¬ (8 : Int) < (s.ms.n : Int) := by omega
        go_wp2_with fail
        clear c0 c1 c2 c3 c4 c5 c6 d0 d1 l1 l2 hBw
        go_loopw [6] (fun i wk => ∃ k : Nat, k ≤ s.os.n ∧ i = .int .i64 k ∧ (∀ j, j < k → inB (s.os.z j).ls.n 1 3 = true) ∧ Below W0.heap.size W0 wk) (fun i _ => s.os.n - (intOf i).toNat)
        case atStart => exact ⟨0, Nat.zero_le _, rfl, fun j hj => absurd hj (Nat.not_lt_zero _), hB⟩
        case round =>
          clear hB
          obtain ⟨i, hi, rfl, hno, hB⟩ := hrel
          have HN : Hid (∀ j, j < i → inB (s.os.z j).ls.n 1 3 = true) := hno
          clear hno
          obtain ⟨X, hpk, hsk, hBw⟩ := HC.out wr hB
          obtain ⟨⟨l1, d0, d1⟩, l2, c0, c1, c2, c3, c4, c5, c6⟩ := X
          by_cases hlt : i < s.os.n
          · obtain ⟨b, o, hoa, hb, z0, z1, hl⟩ := hsk.os.ods i hlt
            have qi : (0 : Int) ≤ (i : Int) := by omega
            have HT1 : Hid (inB (s.os.z i).ls.n 1 3 = false → stateE p s = 2) := fun h => sE_many H0.out (tm_lines hlt h)
            have HT2 : Hid (inB (s.os.z i).ls.n 1 3 = true → ∀ j, j < i + 1 → inB (s.os.z j).ls.n 1 3 = true) := fun h => all_succ (f := fun j => inB (s.os.z j).ls.n 1 3) HN.out h
            rw [hoa] at c1
            clear hoa hl hpk hsk c0 c2 c3 c4 c5 c6 d0 d1 z0
            generalize (s.os.z i).ls = LS at *
            cases k1 : inB LS.n 1 3
            · have HX : Hid (stateE p s = 2) := HT1.out k1
              clear HT1 HT2
              go_wp2_with (go_at_call 45; refine calls_to (within_any _ _ _ _) ?_)
              go_ret
              exact ⟨by rw [HX.out]; rfl, hBw⟩
            · have HX := HT2.out k1
              have HX2 : Hid _ := HX
              clear HT1 HT2 HX
              go_wp2_with (go_at_call 45; refine calls_to (within_any _ _ _ _) ?_)
              go_roundw
              case rel => exact ⟨i + 1, by omega, by go_num, HX2.out, hB⟩
              case measure => simp [intOf]; omega
          · have HTM : Hid (tooManyB s = false) := tm_no n1 n2 fun j hj => HN.out j (by omega)
            go_wp2_with fail
            refine (formed_any p s wr hpk hsk H0.out HTM.out).mono ?_
            rintro e w2 ⟨rfl, hB2⟩
            have hB := hB.trans (hB2.mono hB.size)
            clear hpk hsk hBw l1 d0 d1 l2 c0 c1 c2 c3 c4 c5 c6 hB2
            obtain ⟨X, hpk, hsk, hBw⟩ := HC.out w2 hB
            obtain ⟨⟨l1, d0, d1⟩, l2, c0, c1, c2, c3, c4, c5, c6⟩ := X
            cases k2 : formedB p s
            · have HX : Hid (stateE p s = 1) := sE_form H0.out HTM.out k2
              clear hpk hsk
              go_wp2_with fail
              go_ret
              exact ⟨by rw [HX.out]; rfl, hBw⟩
            · have HFO : Hid (Formed p s) := formedB_yes H0.out HTM.out k2
              have HE : Hid (stateE p s = if summedB p s then 0 else 7) := sE_sum H0.out HTM.out k2
              clear k2
              go_wp2_with fail
              refine (summed_any p s w2 hpk hsk HFO.out).mono ?_
              rintro e w3 ⟨rfl, hB3⟩
              have hBw := hBw.trans (hB3.mono hBw.size)
              clear hpk hsk l1 d0 d1 l2 c0 c1 c2 c3 c4 c5 c6 hB3
              cases k3 : summedB p s
              · have HX : Hid (stateE p s = 7) := by show stateE p s = 7; rw [HE.out, k3]; rfl
                clear HE
                go_wp2_with fail
                go_ret
                exact ⟨by rw [HX.out]; rfl, hBw⟩
              · have HX : Hid (stateE p s = 0) := by show stateE p s = 0; rw [HE.out, k3]; rfl
                clear HE
                go_wp2_with fail
                go_ret
                exact ⟨by rw [HX.out]; rfl, hBw⟩
  · have HX : Hid (stateE p s = shelfE p s.on) := sE_shelf h0
    clear hpk hsk
    go_wp2_with fail
    go_ret
    exact ⟨by rw [HX.out]; rfl, hBw⟩
end Go.Proofs.Ytbcacebifpagpae
namespace Go.Proofs.Ytbcacebifpagpae
open Go.RowKit Go.Shelf Go.Sort
set_option linter.unusedVariables false
set_option maxHeartbeats 4000000 in
theorem Lying_any (p : Pl) (s : St) (bin good : Nat) (w : World) (hs : s.At w) (f : Formed p s) (hbin : bin < p.nb) (hgood : good < p.ns) :
    Calls Try.prog 37 #[s.val, .int .i64 bin, .int .i64 good] w fun e w' => e = .returned (.int .i64 (lyingZ s bin good)) ∧ Below w.heap.size w w' := by
  obtain ⟨W0, hW0, hWB, hX⟩ : ∃ W0, w.alloc (.cells s.cells 31) = W0 ∧ Below w.heap.size w W0 ∧ Blk W0 w.heap.size 31 7 (fun j => s.cells.getD j default) := ⟨_, rfl, (Below.refl w.heap.size w).alloc (Nat.le_refl _) _, Blk.mk' rfl rfl⟩
  have hs0 := hs.below hWB
  have hon : bin < s.on.n := by rw [f.sh.n]; exact hbin
  obtain ⟨bo, oo, hoa, hbo, y0, hrow⟩ := hs0.on.rows bin hon
  have hrn := f.sh.len bin hon
  have hnum := f.sh.num bin hon good hgood
  obtain ⟨br, orr, hra, hbr, y1⟩ := hrow.ints good (by omega)
  have hrle := hrow.le
  have hrcap := hrow.cap
  have hole := hs0.on.le
  have hocap := hs0.on.cap
  unfold maxLen at hrcap hocap
  rw [hra, hrn] at y0
  rw [hrn] at hrle
  have c0 : W0.cell? ⟨w.heap.size, 0, none⟩ = some (.slice s.on.a s.on.n s.on.c) := hX.cell (j := 0) (by decide)
  rw [hoa] at c0
  have l0 := hX.lt
  have HOA : Hid (s.on.a = some ⟨bo, oo, none⟩) := hoa
  have b0 : (0 : Int) ≤ (bin : Int) := by omega
  have g0 : (0 : Int) ≤ (good : Int) := by omega
  have HLY : Hid (∀ k, k = s.ms.n → lyingZ s bin good = (s.on.r bin).z good + comingTo s bin good k) := fun k hk => by subst hk; rfl
  have HC : Hid (∀ wk, Below W0.heap.size W0 wk → s.At wk ∧ wk.cell? ⟨w.heap.size, 3, none⟩ = some (.slice s.ms.a s.ms.n s.ms.c) ∧ w.heap.size < wk.heap.size) :=
    fun wk h => ⟨hs0.below h, (hX.below h).cell (j := 3) (by decide), (hX.below h).lt⟩
  have hmle := hs0.ms.le
  have hmcap := hs0.ms.cap
  unfold maxLen at hmcap
  have m8 := f.ms8
  have MB : Hid (∀ k, k ≤ s.ms.n → 0 ≤ comingTo s bin good k ∧ comingTo s bin good k ≤ 200 * k) := fun k hk => comingTo_bd fun j hj => f.moveN j (by omega)
  have HW : Hid (w.alloc (.cells #[.slice (some ⟨bo, oo, none⟩) s.on.n s.on.c, .slice s.os.a s.os.n s.os.c, .slice s.hs.a s.hs.n s.hs.c, .slice s.ms.a s.ms.n s.ms.c, .slice s.si.a s.si.n s.si.c, .slice s.so.a s.so.n s.so.c, .slice s.sf.a s.sf.n s.sf.c] 31) = W0) := by show _ = W0; rw [← hW0, St.cells, hoa]
  have y0e := y0
  have y1e := y1
  have hboe := hbo
  have hbre := hbr
  rw [← HW.out] at y0e y1e hboe hbre
  simp only [St.val, hoa]
  clear hX hW0 hrow hs hs0
  clear hoa hra c0 l0 y0 y1 hbo hbr hrn
  generalize (s.on.r bin).z good = ON at *
  go_enter Try.func37, Try.ntmps37
  go_wp2_with fail
  rw [HW.out]
  clear y0e y1e hboe hbre
  go_loopw [7, 21] (fun u i wk => ∃ k : Nat, k ≤ s.ms.n ∧ i = .int .i64 k ∧ u = .int .i64 (ON + comingTo s bin good k) ∧ Below W0.heap.size W0 wk) (fun _ i _ => s.ms.n - (intOf i).toNat)
  case atStart => exact ⟨0, Nat.zero_le _, rfl, by simp [comingTo], Below.refl _ _⟩
  case round =>
    obtain ⟨k, hk, rfl, rfl, hB⟩ := hrel
    have m2 := MB.out k hk
    obtain ⟨hsk, c3, hlt0⟩ := HC.out wr hB
    by_cases hlt2 : k < s.ms.n
    · obtain ⟨b, q, hma, hb, z0, z1, z2, z3⟩ := hsk.ms.hds k hlt2
      have m3 := f.moveN k hlt2
      have H1 : Hid (((s.ms.z k).b = bin ∧ (s.ms.z k).o = good → comingTo s bin good (k + 1) = comingTo s bin good k + (s.ms.z k).n) ∧ (¬ ((s.ms.z k).b = bin ∧ (s.ms.z k).o = good) → comingTo s bin good (k + 1) = comingTo s bin good k)) := ⟨fun h => comingTo_hit h.1 h.2, comingTo_miss⟩
      have q4 : (0 : Int) ≤ (k : Int) := by omega
      rw [hma]
      obtain ⟨W1, hW1, hB1⟩ : ∃ W1, wr.alloc (.cells #[.int .i64 (s.ms.z k).o, .int .i64 (s.ms.z k).l, .int .i64 (s.ms.z k).b, .int .i64 (s.ms.z k).n] 55) = W1 ∧ Below W0.heap.size W0 W1 := ⟨_, rfl, hB.alloc hB.size _⟩
      have HV : Hid (wr.alloc (.cells #[.int .i64 (s.ms.z k).o, .int .i64 (s.ms.z k).l, .int .i64 (s.ms.z k).b, .int .i64 (s.ms.z k).n] 55) = W1) := hW1
      clear hma hsk hW1 c3 hlt0
      generalize comingTo s bin good k = U at *
      generalize (s.ms.z k).b = BB at *
      generalize (s.ms.z k).n = NN at *
      generalize (s.ms.z k).l = LL at *
      generalize (s.ms.z k).o = GD at *
      cases h1 : (BB == (bin : Int))
      · have hm := H1.out.2 (by simp at h1; omega)
        have HM : Hid (comingTo s bin good (k + 1) = U) := hm
        clear hm H1
        go_wp2_with fail
        rw [HV.out]
        go_roundw
        case rel => exact ⟨k + 1, by omega, by go_num, by rw [HM.out], hB1⟩
        case measure => simp [intOf]; omega
      · cases h2 : (GD == (good : Int))
        · have hm := H1.out.2 (by simp at h2; omega)
          have HM : Hid (comingTo s bin good (k + 1) = U) := hm
          clear hm H1
          go_wp2_with fail
          rw [HV.out]
          go_roundw
          case rel => exact ⟨k + 1, by omega, by go_num, by rw [HM.out], hB1⟩
          case measure => simp [intOf]; omega
        · have hm := H1.out.1 ⟨by simpa using h1, by simpa using h2⟩
          have HM : Hid (comingTo s bin good (k + 1) = U + NN) := hm
          clear hm H1
          go_wp2_with fail
          rw [HV.out]
          go_roundw
          case rel => exact ⟨k + 1, by omega, by go_num, by rw [HM.out]; congr 1; omega, hB1⟩
          case measure => simp [intOf]; omega
    · have hkn : k = s.ms.n := by omega
      subst hkn
      go_wp2_with fail
      go_ret
      exact ⟨by rw [HLY.out _ rfl]; rfl, hWB.trans (hB.mono hWB.size)⟩
end Go.Proofs.Ytbcacebifpagpae
namespace Go.Proofs.Ytbcacebifpagpae
open Go.RowKit Go.Shelf Go.Sort
set_option linter.unusedVariables false
theorem OwnS.mono {A A' : Nat} {w : World} {s : St} (h : OwnS A w s) (hA : A' ≤ A) : OwnS A' w s := by
  have i : ∀ {r : Rw}, OwnI A w r → OwnI A' w r := fun ⟨g, a, b, c⟩ => ⟨g, a, Nat.le_trans hA b, c⟩
  refine ⟨?_, fun j hj => i (h.rows j hj), h.rapart, h.os.mono hA, h.hs.mono hA, h.ms.mono hA, h.msr.mono hA, i h.si, i h.so, i h.sf, h.aio, h.aif, h.aof, h.ari⟩
  obtain ⟨g, a, b, c⟩ := h.on
  exact ⟨g, a, Nat.le_trans hA b, c⟩
theorem OwnS.orders {A B : Nat} {w w' : World} {s : St} {os : Os} (h : OwnS A w s) (hg : Grew B 38 w w') (ho : OwnO A w' os) : OwnS A w' ⟨s.on, os, s.hs, s.ms, s.si, s.so, s.sf⟩ := by
  refine ⟨?_, fun i hi => (h.rows i hi).grew hg (by decide), h.rapart, ho, h.hs.grew hg (by decide), h.ms.grew hg (by decide), h.msr.grew hg (by decide), h.si.grew hg (by decide), h.so.grew hg (by decide), h.sf.grew hg (by decide), h.aio, h.aif, h.aof, h.ari⟩
  obtain ⟨g, a, b, c, d, e⟩ := h.on
  exact ⟨g, a, b, c, d, hg.blk e (by decide)⟩
end Go.Proofs.Ytbcacebifpagpae
namespace Go.Proofs.Ytbcacebifpagpae
open Go.RowKit
set_option linter.unusedVariables false
def withMoves (s : St) (h : Hs) : St := ⟨s.on, s.os, s.hs, h, s.si, s.so, s.sf⟩
theorem OwnO.grew {A B : Nat} {w w2 : World} {s : Os} {e : TypeId} (h : OwnO A w s) (hg : Grew B e w w2) (h1 : 38 ≠ e) (h2 : 40 ≠ e) : OwnO A w2 s := by
  refine ⟨h.le, h.cap, fun hn => ?_, fun i hi => ?_, h.apart, h.room.grew hg h1⟩
  · obtain ⟨q, a1, a2, a3⟩ := h.list hn
    exact ⟨q, a1, a2, hg.blk a3 h1⟩
  · obtain ⟨C, a1, a2, a3, a4, a5⟩ := h.lines i hi
    exact ⟨C, a1, a2, a3, a4, hg.blk a5 h2⟩
theorem OwnS.moreM {A : Nat} {w w2 : World} {s : St} {h : Hs} (k : OwnS A w s) (hg : Grew A 55 w w2) (hh : OwnH A 55 w2 h) (hr : Room A w2 55 4 h.a h.c) : OwnS A w2 (withMoves s h) := by
  refine ⟨?_, fun i hi => (k.rows i hi).grew hg (by decide), k.rapart, k.os.grew hg (by decide) (by decide), k.hs.grew hg (by decide), hh, hr, k.si.grew hg (by decide), k.so.grew hg (by decide), k.sf.grew hg (by decide), k.aio, k.aif, k.aof, k.ari⟩
  obtain ⟨q, a0, a1, a2, a3, a4⟩ := k.on
  exact ⟨q, a0, a1, a2, a3, hg.blk a4 (by decide)⟩
end Go.Proofs.Ytbcacebifpagpae
namespace Go.Proofs.Ytbcacebifpagpae
open Go.RowKit
set_option linter.unusedVariables false
theorem ext_half {n m : Nat} {z y : Nat → Hd} (hr : anyB n (badH z) = false) (hq : anyB m (badH y) = false) (hk : ∀ o l b, keptV n z o l b = keptV m y o l b) (j : Nat)
    (ih : ∀ i, i < j → i < m → i < n ∧ z i = y i) (hj : j < n) : j < m ∧ keyH (y j) ≤ keyH (z j) := by
  have a := (kept_at hr hj (matchH_self (z j))).1
  have f := (fineH_true (right_fine hr j hj)).2.2.2
  rw [hk] at a
  obtain ⟨q1, q2, q3, q4, q5⟩ := kept_pos (o := (z j).o) (l := (z j).l) (b := (z j).b) hq (by omega)
  generalize dropI m y (z j).o (z j).l (z j).b = k at q1 q2 q3 q4 q5
  have hkey : keyH (y k) = keyH (z j) := match_key (n := (z j).n) q2
  have hjk : j ≤ k := by
    rcases Nat.lt_or_ge k j with c | c
    · obtain ⟨_, e⟩ := ih k c q1
      have := right_lt hr k j c hj
      rw [e] at this
      omega
    · exact c
  refine ⟨by omega, ?_⟩
  by_cases e : j = k
  · rw [e] at hkey ⊢; omega
  · have := q4 j (by omega); omega
theorem ext_at {n m : Nat} {z y : Nat → Hd} (hr : anyB n (badH z) = false) (hq : anyB m (badH y) = false) (hk : ∀ o l b, keptV n z o l b = keptV m y o l b) :
    ∀ k j, j < k → (j < n → j < m ∧ z j = y j) ∧ (j < m → j < n ∧ z j = y j) := by
  intro k
  induction k with
  | zero => intro j hj; omega
  | succ k ih =>
    intro j hj
    by_cases hjk : j < k
    · exact ih j hjk
    · have e : j = k := by omega
      subst e
      have both : j < n → j < m → z j = y j := fun h1 h2 => by
        have a := (ext_half hr hq hk j (fun i hi him => (ih i hi).2 him) h1).2
        have b := (ext_half hq hr (fun o l b => (hk o l b).symm) j (fun i hi him => ⟨((ih i hi).1 him).1, ((ih i hi).1 him).2.symm⟩) h2).2
        have hm := key_match (right_fine hr j h1) (right_fine hq j h2) (by omega)
        have k1 := (kept_at hr h1 hm).1
        have k2 := (kept_at hq h2 (matchH_self (y j))).1
        rw [hk, k2] at k1
        have c := matchH_true hm
        cases hz : z j
        cases hy : y j
        rw [hz, hy] at c k1
        simp only at c k1
        simp [c, k1]
      exact ⟨fun h => ⟨(ext_half hr hq hk j (fun i hi him => (ih i hi).2 him) h).1, both h (ext_half hr hq hk j (fun i hi him => (ih i hi).2 him) h).1⟩,
        fun h => ⟨(ext_half hq hr (fun o l b => (hk o l b).symm) j (fun i hi him => ⟨((ih i hi).1 him).1, ((ih i hi).1 him).2.symm⟩) h).1, both (ext_half hq hr (fun o l b => (hk o l b).symm) j (fun i hi him => ⟨((ih i hi).1 him).1, ((ih i hi).1 him).2.symm⟩) h).1 h⟩⟩
theorem right_ext {n m : Nat} {z y : Nat → Hd} (hr : anyB n (badH z) = false) (hq : anyB m (badH y) = false) (hk : ∀ o l b, keptV n z o l b = keptV m y o l b) : n = m ∧ ∀ j, j < n → z j = y j := by
  have h := ext_at hr hq hk
  refine ⟨?_, fun j hj => ((h (j + 1) j (by omega)).1 hj).2⟩
  rcases Nat.lt_trichotomy n m with c | c | c
  · have := ((h (n + 1) n (by omega)).2 c).1; omega
  · exact c
  · have := ((h (m + 1) m (by omega)).1 c).1; omega
theorem add_both {n : Nat} {z : Nat → Hd} {h : Hd} (hr : anyB n (badH z) = false) (hf : fineH h = true) (h2 : keptV n z h.o h.l h.b + h.n ≤ 200) :
    anyB (addLen n z h) (badH (addZ n z h)) = false ∧ ∀ o l b, keptV (addLen n z h) (addZ n z h) o l b = keptV n z o l b + if matchH h o l b then h.n else 0 := by
  by_cases h0 : keptV n z h.o h.l h.b = 0
  · have e1 : addLen n z h = n + 1 := if_pos h0
    have e2 : addZ n z h = insZ z (addPos n z h) h := if_pos h0
    rw [e1, e2]
    obtain ⟨a, b, _⟩ := add_ins hr hf h0
    exact ⟨a, b⟩
  · have e1 : addLen n z h = n := if_neg h0
    have e2 : addZ n z h = setZ z (addPos n z h) ⟨h.o, h.l, h.b, keptV n z h.o h.l h.b + h.n⟩ := if_neg h0
    rw [e1, e2]
    obtain ⟨a, b, _⟩ := add_set hr hf h0 h2
    exact ⟨a, b⟩
theorem addE_zero {n : Nat} {z : Nat → Hd} {h : Hd} (e : addE n z h = 0) : anyB n (badH z) = false ∧ fineH h = true ∧ keptV n z h.o h.l h.b + h.n ≤ 200 := by
  unfold addE at e
  by_cases h0 : checkH n z = 0
  · rw [if_pos h0] at e
    cases hf : fineH h
    · rw [hf] at e; simp at e
    · rw [hf] at e
      simp only [if_true] at e
      by_cases h2 : 200 < keptV n z h.o h.l h.b + h.n
      · rw [if_pos h2] at e; omega
      · exact ⟨checkH_zero h0, rfl, by omega⟩
  · rw [if_neg h0] at e; exact absurd e h0
theorem checkH_right {n : Nat} {z : Nat → Hd} (h : anyB n (badH z) = false) : checkH n z = 0 := by unfold checkH; rw [h]; rfl
theorem badH_congr {z y : Nat → Hd} {n : Nat} (h : ∀ j, j < n → z j = y j) : anyB n (badH z) = anyB n (badH y) := by
  have e : ∀ j, j < n → badH z j = badH y j := fun j hj => by
    unfold badH
    rw [h j hj]
    by_cases h0 : 0 < j
    · rw [h (j - 1) (by omega)]
    · simp [h0]
  cases hq : anyB n (badH y)
  · exact anyB_no fun j hj => by rw [e j hj]; exact anyB_false hq j hj
  · cases hz : anyB n (badH z)
    · have : anyB n (badH y) = false := anyB_no fun j hj => by rw [← e j hj]; exact anyB_false hz j hj
      rw [this] at hq; cases hq
    · rfl
theorem keptV_congr {z y : Nat → Hd} {n : Nat} (h : ∀ j, j < n → z j = y j) (o l b : Int) : keptV n z o l b = keptV n y o l b := by
  rcases keptV_cases n y o l b with hn | ⟨k, hk, h1, h2⟩
  · rw [keptV_none hn, keptV_none fun j hj => by rw [h j hj]; exact hn j hj]
  · rw [keptV_some hk h1 h2, keptV_some hk (fun j hj => by rw [h j (by omega)]; exact h1 j hj) (by rw [h k hk]; exact h2), h k hk]
theorem keptS_congr {z y : Nat → Hd} (o l : Int) : ∀ {n : Nat}, (∀ j, j < n → z j = y j) → keptS z o l n = keptS y o l n
  | 0, _ => rfl
  | n + 1, h => by
    simp only [keptS]
    rw [keptS_congr o l (n := n) fun j hj => h j (by omega), h n (by omega)]
theorem AddOK.right {n : Nat} {z : Nat → Hd} {h : Hd} {x : Hs} (hx : AddOK n z h x) (e : addE n z h = 0) :
    anyB x.n (badH x.z) = false ∧ ∀ o l b, keptV x.n x.z o l b = keptV n z o l b + if matchH h o l b then h.n else 0 := by
  obtain ⟨a, b, c⟩ := addE_zero e
  obtain ⟨r, k⟩ := add_both a b c
  have hn : x.n = addLen n z h := by have := hx.1; rw [if_pos e] at this; exact this
  have hz := hx.2
  rw [hn] at hz ⊢
  exact ⟨by rw [badH_congr hz]; exact r, fun o l b => by rw [keptV_congr hz]; exact k o l b⟩
theorem AddOK.none {n : Nat} {z : Nat → Hd} {h : Hd} {x : Hs} (hx : AddOK n z h x) (e : ¬ addE n z h = 0) : x.n = 0 := by
  have := hx.1; rw [if_neg e] at this; exact this
end Go.Proofs.Ytbcacebifpagpae
namespace Go.Proofs.Ytbcacebifpagpae
open Go.RowKit
set_option linter.unusedVariables false
theorem stateE_of {p : Pl} {s : St} (r : RightT p s) : stateE p s = 0 := by
  have f := r.fm
  have e1 : tooManyB s = false := by
    unfold tooManyB
    have h1 : decide (4 < s.os.n) = false := decide_eq_false (by have := f.os4; omega)
    have h2 : decide (8 < s.ms.n) = false := decide_eq_false (by have := f.ms8; omega)
    have h3 : anyB s.os.n (fun i => fewLines (s.os.z i)) = false := anyB_no fun i hi => by
      unfold fewLines
      rw [inB_mk (by have := f.lns i hi; omega)]
      rfl
    rw [h1, h2, h3]
    rfl
  have e2 : badOrdersB p s = false := anyB_no fun i hi => by
    unfold badOrder
    rw [inB_mk (f.kind i hi), anyB_no fun j hj => f.line i hi j hj]
    rfl
  have e3 : badHoldsB p s = false := by
    unfold badHoldsB
    rw [checkH_right f.hold, anyB_no f.home]
    rfl
  have e4 : badMovesB p s = false := anyB_no f.move
  have k : ∀ {r : Rw} {low : Int}, r.n = p.ns → (∀ j, j < p.ns → low ≤ r.z j ∧ r.z j ≤ 1048576) → badSum p r low = false := fun {r low} h1 h2 => by
    unfold badSum
    rw [Bool.or_eq_false_iff]
    refine ⟨by simp [h1], anyB_no fun j hj => ?_⟩
    rw [inB_mk (h2 j (by omega))]
    rfl
  have e5 : badSumsB p s = false := by
    unfold badSumsB
    rw [k f.sin f.sib, k f.son f.sob, k f.sfn f.sfb]
    rfl
  rw [stateE_sum f.sh0 e1 e2 e3 e4 e5, show wrongGoodsB p s = false from anyB_no r.goods, show wrongOrdersB s = false from anyB_no r.orders]
  rfl
theorem homeless_mk {p : Pl} {s : St} {h : Hd} (h1 : 0 ≤ h.o ∧ h.o.toNat < s.os.n) (h2 : 0 ≤ h.l ∧ h.l.toNat < (s.os.z h.o.toNat).ls.n) (h3 : 0 ≤ h.b ∧ h.b < p.nb) : homeless p s h = false := by
  unfold homeless
  rw [inB_mk (by omega), inB_mk (by omega), inB_mk (by omega)]
  rfl
theorem heldTo_eq {x s : St} {b g : Int} : ∀ {k : Nat}, (∀ j, j < k → x.hs.z j = s.hs.z j) → (∀ j, j < k → goodH x (s.hs.z j) = goodH s (s.hs.z j)) → heldTo x b g k = heldTo s b g k
  | 0, _, _ => rfl
  | k + 1, h1, h2 => by
    simp only [heldTo]
    rw [heldTo_eq (k := k) (fun j hj => h1 j (by omega)) (fun j hj => h2 j (by omega)), h1 k (by omega), h2 k (by omega)]
theorem fromTo_eq {x s : St} {b g : Int} : ∀ {k : Nat}, (∀ j, j < k → x.ms.z j = s.ms.z j) → fromTo x b g k = fromTo s b g k
  | 0, _ => rfl
  | k + 1, h1 => by
    simp only [fromTo]
    rw [fromTo_eq (k := k) (fun j hj => h1 j (by omega)), h1 k (by omega)]
theorem takeTo_eq {p : Pl} {x s : St} {b : Int} : ∀ {k : Nat}, (∀ j, j < k → x.ms.z j = s.ms.z j) → takeTo p x b k = takeTo p s b k
  | 0, _ => rfl
  | k + 1, h1 => by
    simp only [takeTo]
    rw [takeTo_eq (k := k) (fun j hj => h1 j (by omega)), h1 k (by omega)]
section
variable {p : Pl} {x t : St}
theorem SameT.held (h : SameT x t) (f : Formed p t) (b g : Int) : heldTo x b g x.hs.n = heldTo t b g t.hs.n := by
  rw [h.hs.1]
  refine heldTo_eq (fun j hj => h.hs.2 j (by rw [h.hs.1]; exact hj)) (fun j hj => ?_)
  obtain ⟨h1, h2, -⟩ := homeless_no (f.home j hj)
  unfold goodH
  have o := h.os.2 (t.hs.z j).o.toNat (by rw [h.os.1]; exact h1.2)
  rw [o.2.2 (t.hs.z j).l.toNat (by rw [o.2.1]; exact h2.2)]
theorem SameT.from (h : SameT x t) (b g : Int) : fromTo x b g x.ms.n = fromTo t b g t.ms.n := by
  rw [h.ms.1]
  exact fromTo_eq fun j hj => h.ms.2 j (by rw [h.ms.1]; exact hj)
theorem SameT.num (h : SameT x t) (f : Formed p t) {b g : Nat} (hb : b < p.nb) (hg : g < p.ns) : (x.on.r b).z g = (t.on.r b).z g := by
  have hb' : b < t.on.n := by rw [f.sh.n]; exact hb
  have r := h.on.2 b (by rw [h.on.1]; exact hb')
  exact r.2 g (by rw [r.1, f.sh.len b hb']; exact hg)
theorem SameT.avail (h : SameT x t) (f : Formed p t) {b g : Nat} (hb : b < p.nb) (hg : g < p.ns) : availZ x b g = availZ t b g := by
  unfold availZ
  rw [h.num f hb hg, h.held f, h.from]
theorem SameT.free (h : SameT x t) (f : Formed p t) {b : Nat} (hb : b < p.nb) : freeZ p x b = freeZ p t b := by
  unfold freeZ
  have e : usedTo (x.on.r b).z p.zs p.ns = usedTo (t.on.r b).z p.zs p.ns := usedTo_congr fun j hj => h.num f hb hj
  rw [e, h.ms.1, takeTo_eq fun j hj => h.ms.2 j (by rw [h.ms.1]; exact hj)]
theorem SameT.formed (h : SameT x t) (f : Formed p t) : Formed p x := by
  have hp := (rightS f.sh0).1
  have hs : RightS p x.on := ⟨f.sh.pl, h.on.1.trans f.sh.n, fun i hi => (h.on.2 i hi).1.trans (f.sh.len i (by rw [← h.on.1]; exact hi)), fun i hi j hj => by
    have hi' : i < t.on.n := by rw [← h.on.1]; exact hi
    rw [h.num f (by rw [← f.sh.n]; exact hi') hj]
    exact f.sh.num i hi' j hj⟩
  have o : ∀ i, i < x.os.n → i < t.os.n := fun i hi => by rw [← h.os.1]; exact hi
  refine ⟨hs, shelfE_mk hp hs, by rw [h.os.1]; exact f.os4, by rw [h.ms.1]; exact f.ms8, fun i hi => by rw [(h.os.2 i hi).2.1]; exact f.lns i (o i hi), fun i hi => by rw [(h.os.2 i hi).1]; exact f.kind i (o i hi), fun i hi j hj => ?_, ?_, fun i hi => ?_, fun i hi => ?_, h.si.1.trans f.sin, h.so.1.trans f.son, h.sf.1.trans f.sfn, fun j hj => ?_, fun j hj => ?_, fun j hj => ?_⟩
  · rw [(h.os.2 i hi).2.2 j hj]
    exact f.line i (o i hi) j (by rw [← (h.os.2 i hi).2.1]; exact hj)
  · rw [h.hs.1, badH_congr fun j hj => h.hs.2 j (by rw [h.hs.1]; exact hj)]
    exact f.hold
  · have hi' : i < t.hs.n := by rw [← h.hs.1]; exact hi
    obtain ⟨h1, h2, h3⟩ := homeless_no (f.home i hi')
    rw [h.hs.2 i hi]
    have h1' : (t.hs.z i).o.toNat < x.os.n := by rw [h.os.1]; exact h1.2
    exact homeless_mk ⟨h1.1, h1'⟩ ⟨h2.1, by rw [(h.os.2 _ h1').2.1]; exact h2.2⟩ h3
  · rw [h.ms.2 i hi]
    exact f.move i (by rw [← h.ms.1]; exact hi)
  · rw [h.si.2 j (by rw [h.si.1, f.sin]; exact hj)]; exact f.sib j hj
  · rw [h.so.2 j (by rw [h.so.1, f.son]; exact hj)]; exact f.sob j hj
  · rw [h.sf.2 j (by rw [h.sf.1, f.sfn]; exact hj)]; exact f.sfb j hj
theorem SameT.right (h : SameT x t) (r : RightT p t) : RightT p x := by
  have f := r.fm
  refine ⟨h.formed f, fun g hg => ?_, fun i hi => ?_⟩
  · have := r.goods g hg
    rw [wrongGood_eq] at this ⊢
    rw [← this]
    congr 1
    · have e : sumTo (fun i => (x.on.r i).z g) x.on.n = sumTo (fun i => (t.on.r i).z g) t.on.n := by
        rw [h.on.1]
        exact sumTo_congr fun i hi => h.num f (by rw [← f.sh.n]; exact hi) hg
      rw [e, h.si.2 g (by rw [h.si.1, f.sin]; exact hg), h.so.2 g (by rw [h.so.1, f.son]; exact hg), h.sf.2 g (by rw [h.sf.1, f.sfn]; exact hg)]
    · exact anyB_congr fun b hb => by rw [h.avail f hb hg]
  · have hi' : i < t.os.n := by rw [← h.os.1]; exact hi
    have := r.orders i hi'
    rw [← this]
    obtain ⟨e1, e2, e3⟩ := h.os.2 i hi
    unfold wrongOrder
    rw [e1, e2]
    congr 1
    · congr 2
      exact anyB_congr fun j hj => by rw [e3 j (by rw [e2]; exact hj)]
    · refine anyB_congr fun j hj => ?_
      rw [e3 j (by rw [e2]; exact hj), h.hs.1, keptS_congr _ _ fun j hj => h.hs.2 j (by rw [h.hs.1]; exact hj)]
end
end Go.Proofs.Ytbcacebifpagpae
namespace Go.Proofs.Ytbcacebifpagpae
open Go.RowKit Go.Shelf
set_option linter.unusedVariables false
def frL (p : Pl) (f : Bool) (k : Nat) : List Int := ((List.range k).filter (fun i => (p.zb i).front == f)).map Int.ofNat
theorem frL_hit {p : Pl} {f : Bool} {k : Nat} (h : (p.zb k).front = f) : frL p f (k + 1) = frL p f k ++ [(k : Int)] := by simp [frL, List.range_succ, h]
theorem frL_miss {p : Pl} {f : Bool} {k : Nat} (h : ¬ (p.zb k).front = f) : frL p f (k + 1) = frL p f k := by simp [frL, List.range_succ, h]
def wayL (p : Pl) : List Int := frL p true p.nb ++ frL p false p.nb
theorem Rw.ofOwns {w : World} {base : Nat} {v : Value} {xs : List Int} (h : w.ownsRow base 3 1 v xs.length (xs.map (Value.int .i64))) : ∃ r : Rw, v = r.val ∧ r.At w ∧ r.n = xs.length ∧ ∀ j, j < r.n → r.z j = xs.getD j 0 := by
  by_cases hv : v = .slice Option.none 0 0
  · subst hv
    have h0 : xs.length = 0 := by
      rcases h.2 with ⟨_, h0⟩ | ⟨g2, cap2, cur2, e, _⟩
      · exact h0
      · cases e
    exact ⟨⟨Option.none, 0, 0, fun _ => 0⟩, rfl, ⟨Nat.le_refl _, Nat.zero_le _, fun i hi => absurd hi (Nat.not_lt_zero _)⟩, h0.symm, fun j hj => absurd hj (Nat.not_lt_zero _)⟩
  · obtain ⟨g, c, rfl, h1, h2, h3, h4⟩ := Blk.ofOwns h hv
    rw [Nat.mul_one] at h4
    refine ⟨⟨some ⟨g, 0, Option.none⟩, xs.length, c, fun j => xs.getD j 0⟩, rfl, ⟨h1, h2, fun i hi => ?_⟩, rfl, fun j _ => rfl⟩
    have hi' : i < xs.length := hi
    refine ⟨g, 0, rfl, h4.lt, ?_⟩
    have := h4.cell (j := i) hi'
    rw [Nat.zero_add, this]
    simp [List.getD, hi']
end Go.Proofs.Ytbcacebifpagpae
namespace Go.Proofs.Ytbcacebifpagpae
open Go.RowKit
set_option linter.unusedVariables false
def wayB (p : Pl) (x : Int) : Bool := (p.zb x.toNat).front
theorem frL_mem {p : Pl} {f : Bool} {k : Nat} {x : Int} (h : x ∈ frL p f k) : 0 ≤ x ∧ x < k ∧ wayB p x = f := by
  simp only [frL, List.mem_map, List.mem_filter, List.mem_range, beq_iff_eq] at h
  obtain ⟨i, ⟨hi, hf⟩, rfl⟩ := h
  exact ⟨Int.natCast_nonneg _, by simp only [Int.ofNat_eq_natCast]; omega, hf⟩
theorem frL_pw (p : Pl) (f : Bool) : ∀ k, (frL p f k).Pairwise (· < ·)
  | 0 => by simp [frL]
  | k + 1 => by
    by_cases h : (p.zb k).front = f
    · rw [frL_hit h, List.pairwise_append]
      refine ⟨frL_pw p f k, List.pairwise_singleton _ _, fun x hx y hy => ?_⟩
      rw [List.mem_singleton] at hy
      have := (frL_mem hx).2.1
      omega
    · rw [frL_miss h]; exact frL_pw p f k
theorem way_mem {p : Pl} {x : Int} (h : x ∈ wayL p) : 0 ≤ x ∧ x < p.nb := by
  unfold wayL at h
  rw [List.mem_append] at h
  rcases h with h | h
  · exact ⟨(frL_mem h).1, (frL_mem h).2.1⟩
  · exact ⟨(frL_mem h).1, (frL_mem h).2.1⟩
theorem way_pw (p : Pl) : (wayL p).Pairwise (fun x y => ¬ x = y ∧ (wayB p y = true → wayB p x = true) ∧ (wayB p x = wayB p y → x < y)) := by
  unfold wayL
  rw [List.pairwise_append]
  refine ⟨?_, ?_, fun x hx y hy => ?_⟩
  · refine List.Pairwise.imp_of_mem ?_ (frL_pw p true p.nb)
    intro x y hx hy h
    exact ⟨by omega, fun _ => (frL_mem hx).2.2, fun _ => h⟩
  · refine List.Pairwise.imp_of_mem ?_ (frL_pw p false p.nb)
    intro x y hx hy h
    refine ⟨by omega, fun e => ?_, fun _ => h⟩
    rw [(frL_mem hy).2.2] at e; cases e
  · have a := (frL_mem hx).2.2
    have b := (frL_mem hy).2.2
    refine ⟨fun e => ?_, fun e => a, fun e => ?_⟩
    · rw [e, b] at a; cases a
    · rw [a, b] at e; cases e
end Go.Proofs.Ytbcacebifpagpae
namespace Go.Proofs.Ytbcacebifpagpae
open Go.RowKit
set_option linter.unusedVariables false
structure Tk where
  left : Int
  took : Int → Int
def Tk.step (av : Int → Int) (t : Tk) (b : Int) : Tk := ⟨t.left - min t.left (av b), fun x => t.took x + if x = b then min t.left (av b) else 0⟩
def Tk.go (av : Int → Int) (n : Int) (l : List Int) : Tk := l.foldl (Tk.step av) ⟨n, fun _ => 0⟩
theorem Tk.go_more (av : Int → Int) (n : Int) (l : List Int) (b : Int) : Tk.go av n (l ++ [b]) = (Tk.go av n l).step av b := by
  unfold Tk.go
  rw [List.foldl_append]
  rfl
structure TkOK (av : Int → Int) (n : Int) (l : List Int) (t : Tk) : Prop where
  left0 : 0 ≤ t.left
  leftn : t.left ≤ n
  took0 : ∀ x, 0 ≤ t.took x
  tookn : ∀ x, t.took x ≤ n - t.left
  had : ∀ x, x ∈ l → t.took x ≤ av x
  other : ∀ x, x ∉ l → t.took x = 0
  all : 0 < t.left → ∀ x, x ∈ l → t.took x = av x
  sum : sumTo (fun b => t.took b) 6 = n - t.left
theorem tkOK {av : Int → Int} {n : Int} (hn : 0 ≤ n) : ∀ {l : List Int}, l.Pairwise (fun x y => ¬ x = y) → (∀ x, x ∈ l → 0 ≤ av x) → (∀ x, x ∈ l → 0 ≤ x ∧ x < 6) → TkOK av n l (Tk.go av n l) := by
  suffices H : ∀ (k : Nat) (l : List Int), l.length = k → l.Pairwise (fun x y => ¬ x = y) → (∀ x, x ∈ l → 0 ≤ av x) → (∀ x, x ∈ l → 0 ≤ x ∧ x < 6) → TkOK av n l (Tk.go av n l) from fun {l} => H l.length l rfl
  intro k
  induction k with
  | zero =>
    intro l hl _ _ _
    obtain rfl := List.eq_nil_of_length_eq_zero hl
    exact ⟨hn, Int.le_refl _, fun _ => Int.le_refl _, fun _ => by show (0 : Int) ≤ n - n; omega, fun x h => by simp at h, fun _ _ => rfl, fun _ x h => by simp at h, by show (0 : Int) + 0 + 0 + 0 + 0 + 0 + 0 = n - n; omega⟩
  | succ m ih =>
    intro l0 hl0 hd ha hin
    obtain ⟨l, b, rfl⟩ : ∃ l b, l0 = l ++ [b] := ⟨l0.dropLast, l0.getLast (by intro e; rw [e] at hl0; simp at hl0), (List.dropLast_concat_getLast _).symm⟩
    have hlm : l.length = m := by simpa using hl0
    rw [List.pairwise_append] at hd
    have hb : b ∉ l := fun hm => hd.2.2 b hm b (by simp) rfl
    have k := ih l hlm hd.1 (fun x hx => ha x (by simp [hx])) (fun x hx => hin x (by simp [hx]))
    have hb6 := hin b (by simp)
    have hab := ha b (by simp)
    rw [Tk.go_more]
    generalize Tk.go av n l = t at k
    have h0 := k.left0
    have hln := k.leftn
    have hmin : 0 ≤ min t.left (av b) ∧ min t.left (av b) ≤ t.left ∧ min t.left (av b) ≤ av b := by omega
    have hob := k.other b hb
    refine ⟨?_, ?_, fun x => ?_, fun x => ?_, fun x hx => ?_, fun x hx => ?_, fun hl x hx => ?_, ?_⟩
    · show 0 ≤ t.left - min t.left (av b); omega
    · show t.left - min t.left (av b) ≤ n; omega
    · have := k.took0 x
      show 0 ≤ t.took x + if x = b then min t.left (av b) else 0
      split <;> omega
    · have := k.tookn x
      show (t.took x + if x = b then min t.left (av b) else 0) ≤ n - (t.left - min t.left (av b))
      split <;> omega
    · show (t.took x + if x = b then min t.left (av b) else 0) ≤ av x
      by_cases hxb : x = b
      · subst hxb; rw [if_pos rfl]; omega
      · rw [if_neg hxb]
        have : x ∈ l := by simpa [hxb] using hx
        have := k.had x this
        omega
    · show (t.took x + if x = b then min t.left (av b) else 0) = 0
      have hxb : ¬ x = b := fun e => hx (by simp [e])
      have hxl : x ∉ l := fun e => hx (by simp [e])
      rw [if_neg hxb, k.other x hxl]
      rfl
    · have hl' : 0 < t.left - min t.left (av b) := hl
      show (t.took x + if x = b then min t.left (av b) else 0) = av x
      by_cases hxb : x = b
      · subst hxb; rw [if_pos rfl]; omega
      · rw [if_neg hxb]
        have : x ∈ l := by simpa [hxb] using hx
        have := k.all (by omega) x this
        omega
    · show sumTo (fun x => t.took x + if (x : Int) = b then min t.left (av b) else 0) 6 = n - (t.left - min t.left (av b))
      have e := k.sum
      rw [sumTo_put (z := fun x => t.took x) (m := b.toNat) (n := min t.left (av b)) (by omega) fun i hi => by
        by_cases hib : i = b.toNat
        · have : ((i : Nat) : Int) = b := by omega
          rw [if_pos this, if_pos hib]
        · have : ¬ ((i : Nat) : Int) = b := by omega
          rw [if_neg this, if_neg hib, Int.add_zero], e]
      omega
def wayT (p : Pl) (but : Int) : List Int := (wayL p).filter (fun b => !(b == but))
theorem wayT_mem {p : Pl} {but x : Int} : x ∈ wayT p but ↔ x ∈ wayL p ∧ ¬ x = but := by
  unfold wayT
  rw [List.mem_filter]
  simp
theorem wayT_apart (p : Pl) (but : Int) : (wayT p but).Pairwise (fun x y => ¬ x = y) := ((way_pw p).imp fun h => h.1).filter _
end Go.Proofs.Ytbcacebifpagpae
namespace Go.Proofs.Ytbcacebifpagpae
open Go.RowKit Go.Shelf Go.Sort
set_option linter.unusedVariables false
structure BusyB (w : World) (g : Nat) (a k : Int) : Prop where
  b0 : Blk w (g) 3 2 (fun j => (#[.int .i64 9, .int .i64 0] : Array Value).getD j default)
  b1 : Blk w (g + 1) 3 2 (fun j => (#[.int .i64 3, .int .i64 0] : Array Value).getD j default)
  b2 : Blk w (g + 2) 3 2 (fun j => (#[.int .i64 0, .int .i64 6] : Array Value).getD j default)
  b3 : Blk w (g + 3) 23 3 (fun j => (#[.slice (some ⟨g, 0, none⟩) 2 2, .slice (some ⟨g + 1, 0, none⟩) 2 2, .slice (some ⟨g + 2, 0, none⟩) 2 2] : Array Value).getD j default)
  b4 : Blk w (g + 4) 40 8 (fun j => (#[.int .i64 0, .int .i64 6, .int .i64 1, .int .i64 0, .int .i64 1, .int .i64 9, .int .i64 0, .int .i64 3] : Array Value).getD j default)
  b5 : Blk w (g + 5) 40 4 (fun j => (#[.int .i64 0, .int .i64 4, .int .i64 0, .int .i64 0] : Array Value).getD j default)
  b6 : Blk w (g + 6) 38 4 (fun j => (#[.int .i64 1, .slice (some ⟨g + 4, 0, none⟩) 2 2, .int .i64 k, .slice (some ⟨g + 5, 0, none⟩) 1 1] : Array Value).getD j default)
  b7 : Blk w (g + 7) 70 12 (fun j => (#[.int .i64 0, .int .i64 0, .int .i64 0, .int .i64 a, .int .i64 0, .int .i64 0, .int .i64 1, .int .i64 3, .int .i64 0, .int .i64 1, .int .i64 2, .int .i64 6] : Array Value).getD j default)
  b8 : Blk w (g + 8) 55 4 (fun j => (#[.int .i64 0, .int .i64 0, .int .i64 1, .int .i64 5] : Array Value).getD j default)
  b9 : Blk w (g + 9) 3 2 (fun j => (#[.int .i64 13, .int .i64 6] : Array Value).getD j default)
  b10 : Blk w (g + 10) 3 2 (fun j => (#[.int .i64 1, .int .i64 0] : Array Value).getD j default)
  b11 : Blk w (g + 11) 3 2 (fun j => (#[.int .i64 0, .int .i64 0] : Array Value).getD j default)
theorem BusyB.below {w w' : World} {g : Nat} {a k : Int} (h : BusyB w g a k) (hB : Below w.heap.size w w') : BusyB w' g a k := ⟨h.b0.below hB, h.b1.below hB, h.b2.below hB, h.b3.below hB, h.b4.below hB, h.b5.below hB, h.b6.below hB, h.b7.below hB, h.b8.below hB, h.b9.below hB, h.b10.below hB, h.b11.below hB⟩
def bz0 : Nat → Int
  | 0 => 9
  | _ => 0
def bz1 : Nat → Int
  | 0 => 3
  | _ => 0
def bz2 : Nat → Int
  | 0 => 0
  | _ => 6
def bzi : Nat → Int
  | 0 => 13
  | _ => 6
def bzo : Nat → Int
  | 0 => 1
  | _ => 0
def bl0 : Nat → Hd
  | 0 => ⟨0, 6, 1, 0⟩
  | _ => ⟨1, 9, 0, 3⟩
def bhs (a : Int) : Nat → Hd
  | 0 => ⟨0, 0, 0, a⟩
  | 1 => ⟨0, 0, 1, 3⟩
  | _ => ⟨0, 1, 2, 6⟩
def bon (g : Nat) : Nat → Rw
  | 0 => ⟨some ⟨g, 0, none⟩, 2, 2, bz0⟩
  | 1 => ⟨some ⟨g + 1, 0, none⟩, 2, 2, bz1⟩
  | _ => ⟨some ⟨g + 2, 0, none⟩, 2, 2, bz2⟩
def bos (g : Nat) (k : Int) : Nat → Od
  | 0 => ⟨1, ⟨some ⟨g + 4, 0, none⟩, 2, 2, bl0⟩⟩
  | _ => ⟨k, ⟨some ⟨g + 5, 0, none⟩, 1, 1, fun _ => ⟨0, 4, 0, 0⟩⟩⟩
def busyS (g : Nat) (a k : Int) : St := ⟨⟨some ⟨g + 3, 0, none⟩, 3, 3, bon g⟩, ⟨some ⟨g + 6, 0, none⟩, 2, 2, bos g k⟩, ⟨some ⟨g + 7, 0, none⟩, 3, 3, bhs a⟩, ⟨some ⟨g + 8, 0, none⟩, 1, 1, fun _ => ⟨0, 0, 1, 5⟩⟩, ⟨some ⟨g + 9, 0, none⟩, 2, 2, bzi⟩, ⟨some ⟨g + 10, 0, none⟩, 2, 2, bzo⟩, ⟨some ⟨g + 11, 0, none⟩, 2, 2, fun _ => 0⟩⟩
theorem le_max {n : Nat} (h : n ≤ 100) : n ≤ maxLen := by unfold maxLen; omega
theorem two_at {w : World} {g : Nat} {e : TypeId} {x y : Int} {z : Nat → Int} (h : Blk w g e 2 (fun j => (#[.int .i64 x, .int .i64 y] : Array Value).getD j default)) (h0 : z 0 = x) (h1 : z 1 = y) : Rw.At w ⟨some ⟨g, 0, none⟩, 2, 2, z⟩ := by
  refine ⟨Nat.le_refl _, le_max (n := 2) (by decide), fun i hi => ?_⟩
  have hi' : i < 2 := hi
  refine ⟨g, 0, rfl, h.lt, ?_⟩
  match i, hi' with
  | 0, _ => show w.cell? ⟨g, 0 + 0, none⟩ = some (.int .i64 (z 0)); rw [h0]; exact h.cell (j := 0) (by decide)
  | 1, _ => show w.cell? ⟨g, 0 + 1, none⟩ = some (.int .i64 (z 1)); rw [h1]; exact h.cell (j := 1) (by decide)
theorem busyAt {w : World} {g : Nat} {a k : Int} (h : BusyB w g a k) : (busyS g a k).At w := by
  refine ⟨⟨Nat.le_refl _, le_max (n := 3) (by decide), fun i hi => ?_⟩, ⟨Nat.le_refl _, le_max (n := 2) (by decide), fun i hi => ?_⟩, ⟨Nat.le_refl _, le_max (n := 3) (by decide), fun i hi => ?_, fun e => by cases e⟩, ⟨Nat.le_refl _, le_max (n := 1) (by decide), fun i hi => ?_, fun e => by cases e⟩, two_at h.b9 rfl rfl, two_at h.b10 rfl rfl, two_at h.b11 rfl rfl⟩
  · have hi' : i < 3 := hi
    refine ⟨g + 3, 0, rfl, h.b3.lt, ?_⟩
    match i, hi' with
    | 0, _ => exact ⟨h.b3.cell (j := 0) (by decide), two_at h.b0 rfl rfl⟩
    | 1, _ => exact ⟨h.b3.cell (j := 1) (by decide), two_at h.b1 rfl rfl⟩
    | 2, _ => exact ⟨h.b3.cell (j := 2) (by decide), two_at h.b2 rfl rfl⟩
  · have hi' : i < 2 := hi
    refine ⟨g + 6, 0, rfl, h.b6.lt, ?_⟩
    match i, hi' with
    | 0, _ =>
      refine ⟨h.b6.cell (j := 0) (by decide), h.b6.cell (j := 1) (by decide), Nat.le_refl _, le_max (n := 2) (by decide), fun j hj => ?_, fun e => by cases e⟩
      have hj' : j < 2 := hj
      refine ⟨g + 4, 0, rfl, h.b4.lt, ?_⟩
      match j, hj' with
      | 0, _ => exact ⟨h.b4.cell (j := 0) (by decide), h.b4.cell (j := 1) (by decide), h.b4.cell (j := 2) (by decide), h.b4.cell (j := 3) (by decide)⟩
      | 1, _ => exact ⟨h.b4.cell (j := 4) (by decide), h.b4.cell (j := 5) (by decide), h.b4.cell (j := 6) (by decide), h.b4.cell (j := 7) (by decide)⟩
    | 1, _ =>
      refine ⟨h.b6.cell (j := 2) (by decide), h.b6.cell (j := 3) (by decide), Nat.le_refl _, le_max (n := 1) (by decide), fun j hj => ?_, fun e => by cases e⟩
      have hj' : j < 1 := hj
      refine ⟨g + 5, 0, rfl, h.b5.lt, ?_⟩
      match j, hj' with
      | 0, _ => exact ⟨h.b5.cell (j := 0) (by decide), h.b5.cell (j := 1) (by decide), h.b5.cell (j := 2) (by decide), h.b5.cell (j := 3) (by decide)⟩
  · have hi' : i < 3 := hi
    refine ⟨g + 7, 0, rfl, h.b7.lt, ?_⟩
    match i, hi' with
    | 0, _ => exact ⟨h.b7.cell (j := 0) (by decide), h.b7.cell (j := 1) (by decide), h.b7.cell (j := 2) (by decide), h.b7.cell (j := 3) (by decide)⟩
    | 1, _ => exact ⟨h.b7.cell (j := 4) (by decide), h.b7.cell (j := 5) (by decide), h.b7.cell (j := 6) (by decide), h.b7.cell (j := 7) (by decide)⟩
    | 2, _ => exact ⟨h.b7.cell (j := 8) (by decide), h.b7.cell (j := 9) (by decide), h.b7.cell (j := 10) (by decide), h.b7.cell (j := 11) (by decide)⟩
  · have hi' : i < 1 := hi
    refine ⟨g + 8, 0, rfl, h.b8.lt, ?_⟩
    match i, hi' with
    | 0, _ => exact ⟨h.b8.cell (j := 0) (by decide), h.b8.cell (j := 1) (by decide), h.b8.cell (j := 2) (by decide), h.b8.cell (j := 3) (by decide)⟩
theorem busyE (g1 g2 g : Nat) : stateE (yardP g1 g2) (busyS g 2 0) = 0 ∧ stateE (yardP g1 g2) (busyS g 5 0) = 7 ∧ stateE (yardP g1 g2) (busyS g 2 3) = 1 := ⟨by rfl, by rfl, by rfl⟩
set_option maxRecDepth 100000 in
set_option maxHeartbeats 4000000 in
theorem busy_any (w : World) :
    Calls Try.prog 29 #[] w fun e w' => ∃ g, e = .returned (busyS g 2 0).val ∧ w.heap.size < g ∧ BusyB w' g 2 0 ∧ Below w.heap.size w w' := by
  go_enter Try.func29, Try.ntmps29
  go_wp2
  refine bodyPost_ret (v := (busyS (w.heap.size + 1) 2 0).val) (by simp [results, Try.results29, go_sem, busyS, St.val]) rfl ?_
  refine ⟨w.heap.size + 1, rfl, by omega, ⟨Blk.alloc (Blk.alloc (Blk.alloc (Blk.alloc (Blk.alloc (Blk.alloc (Blk.alloc (Blk.alloc (Blk.alloc (Blk.alloc (Blk.alloc (Blk.mk' (by simp <;> omega) rfl) _) _) _) _) _) _) _) _) _) _) _, Blk.alloc (Blk.alloc (Blk.alloc (Blk.alloc (Blk.alloc (Blk.alloc (Blk.alloc (Blk.alloc (Blk.alloc (Blk.alloc (Blk.mk' (by simp <;> omega) rfl) _) _) _) _) _) _) _) _) _) _, Blk.alloc (Blk.alloc (Blk.alloc (Blk.alloc (Blk.alloc (Blk.alloc (Blk.alloc (Blk.alloc (Blk.alloc (Blk.mk' (by simp <;> omega) rfl) _) _) _) _) _) _) _) _) _, Blk.alloc (Blk.alloc (Blk.alloc (Blk.alloc (Blk.alloc (Blk.alloc (Blk.alloc (Blk.alloc (Blk.mk' (by simp <;> omega) rfl) _) _) _) _) _) _) _) _, Blk.alloc (Blk.alloc (Blk.alloc (Blk.alloc (Blk.alloc (Blk.alloc (Blk.alloc (Blk.mk' (by simp <;> omega) rfl) _) _) _) _) _) _) _, Blk.alloc (Blk.alloc (Blk.alloc (Blk.alloc (Blk.alloc (Blk.alloc (Blk.mk' (by simp <;> omega) rfl) _) _) _) _) _) _, Blk.alloc (Blk.alloc (Blk.alloc (Blk.alloc (Blk.alloc (Blk.mk' (by simp <;> omega) rfl) _) _) _) _) _, Blk.alloc (Blk.alloc (Blk.alloc (Blk.alloc (Blk.mk' (by simp <;> omega) rfl) _) _) _) _, Blk.alloc (Blk.alloc (Blk.alloc (Blk.mk' (by simp <;> omega) rfl) _) _) _, Blk.alloc (Blk.alloc (Blk.mk' (by simp <;> omega) rfl) _) _, Blk.alloc (Blk.mk' (by simp <;> omega) rfl) _, Blk.mk' (by simp <;> omega) rfl⟩, ?_⟩
  exact (((((((((((((Below.refl _ _).alloc (Nat.le_refl _) _).alloc (by simp <;> omega) _).alloc (by simp <;> omega) _).alloc (by simp <;> omega) _).alloc (by simp <;> omega) _).alloc (by simp <;> omega) _).alloc (by simp <;> omega) _).alloc (by simp <;> omega) _).alloc (by simp <;> omega) _).alloc (by simp <;> omega) _).alloc (by simp <;> omega) _).alloc (by simp <;> omega) _).alloc (by simp <;> omega) _
end Go.Proofs.Ytbcacebifpagpae
namespace Go.Proofs.Ytbcacebifpagpae
open Go.RowKit
set_option linter.unusedVariables false
theorem sumTo_zero {z : Nat → Int} : ∀ {n : Nat}, (∀ j, j < n → z j = 0) → sumTo z n = 0
  | 0, _ => rfl
  | n + 1, h => by simp only [sumTo]; rw [sumTo_zero (n := n) fun j hj => h j (by omega), h n (by omega)]; rfl
end Go.Proofs.Ytbcacebifpagpae
namespace Go.Proofs.Ytbcacebifpagpae
open Go.RowKit
set_option linter.unusedVariables false
theorem goods_no {p : Pl} {s : St} {g : Nat} (h : wrongGood p s g = false) : sumTo (fun i => (s.on.r i).z g) s.on.n = s.si.z g - s.so.z g + s.sf.z g ∧ ∀ b, b < p.nb → 0 ≤ availZ s b g := by
  rw [wrongGood_eq, Bool.or_eq_false_iff] at h
  refine ⟨by simpa using h.1, fun b hb => ?_⟩
  have := anyB_false h.2 b hb
  simpa using this
theorem goods_mk {p : Pl} {s : St} {g : Nat} (h1 : sumTo (fun i => (s.on.r i).z g) s.on.n = s.si.z g - s.so.z g + s.sf.z g) (h2 : ∀ b, b < p.nb → 0 ≤ availZ s b g) : wrongGood p s g = false := by
  rw [wrongGood_eq, Bool.or_eq_false_iff]
  exact ⟨by simp [h1], anyB_no fun b hb => by have := h2 b hb; simpa using this⟩
section
variable {p : Pl} {s : St} {b g : Nat} {n : Int}
end
section
variable {p : Pl} {s : St} {l : Hs}
end
end Go.Proofs.Ytbcacebifpagpae
namespace Go.Proofs.Ytbcacebifpagpae
open Go.RowKit
set_option linter.unusedVariables false
theorem sumTo_at {z z' : Nat → Int} {m : Nat} {n : Int} {k : Nat} (hm : m < k) (h : ∀ i, i < k → z' i = z i + if i = m then n else 0) : sumTo z' k = sumTo z k + n :=
  sumTo_put hm fun i hi => by rw [h i hi]; by_cases e : i = m <;> simp [e]
theorem sumTo_same {z z' : Nat → Int} {k : Nat} (h : ∀ i, i < k → z' i = z i) : sumTo z' k = sumTo z k := sumTo_congr h
def lineHeld (x : St) (b g : Int) (k : Nat) (o l : Nat) : Int := if ((x.os.z o).ls.z l).o = g then keptV k x.hs.z o l b else 0
def heldSum (x : St) (b g : Int) (k : Nat) : Int := sumTo (fun o => sumTo (fun l => lineHeld x b g k o l) (x.os.z o).ls.n) x.os.n
theorem heldTo_sum {p : Pl} {x : St} (b g : Int) : ∀ k, (∀ j, j < k → homeless p x (x.hs.z j) = false) → anyB k (badH x.hs.z) = false → heldTo x b g k = heldSum x b g k
  | 0, _, _ => by
    unfold heldSum
    rw [sumTo_zero fun o _ => sumTo_zero fun l _ => by unfold lineHeld keptV; simp]
    rfl
  | k + 1, h, hr => by
    simp only [heldTo]
    rw [heldTo_sum b g k (fun j hj => h j (by omega)) (right_pred hr)]
    obtain ⟨h1, h2, h3⟩ := homeless_no (h k (by omega))
    have key : ∀ o l, lineHeld x b g (k + 1) o l = lineHeld x b g k o l + if o = (x.hs.z k).o.toNat ∧ l = (x.hs.z k).l.toNat then (if (x.hs.z k).b = b ∧ goodH x (x.hs.z k) = g then (x.hs.z k).n else 0) else 0 := fun o l => by
      unfold lineHeld
      rw [keptV_succ hr]
      by_cases hol : o = (x.hs.z k).o.toNat ∧ l = (x.hs.z k).l.toNat
      · rw [if_pos hol]
        obtain ⟨rfl, rfl⟩ := hol
        have e1 : (((x.hs.z k).o.toNat : Nat) : Int) = (x.hs.z k).o := by omega
        have e2 : (((x.hs.z k).l.toNat : Nat) : Int) = (x.hs.z k).l := by omega
        rw [e1, e2]
        by_cases hg : goodH x (x.hs.z k) = g
        · have hg' : ((x.os.z (x.hs.z k).o.toNat).ls.z (x.hs.z k).l.toNat).o = g := hg
          rw [if_pos hg', if_pos hg']
          by_cases hb : (x.hs.z k).b = b
          · have hm : matchH (x.hs.z k) (x.hs.z k).o (x.hs.z k).l b = true := by rw [← hb]; exact matchH_self _
            have e3 : (if (x.hs.z k).b = b ∧ goodH x (x.hs.z k) = g then (x.hs.z k).n else 0) = (x.hs.z k).n := if_pos ⟨hb, hg⟩
            rw [hm, e3, if_pos rfl]
          · have hm : matchH (x.hs.z k) (x.hs.z k).o (x.hs.z k).l b = false := by
              cases hm : matchH (x.hs.z k) (x.hs.z k).o (x.hs.z k).l b
              · rfl
              · exact absurd (matchH_true hm).2.2 hb
            have e3 : (if (x.hs.z k).b = b ∧ goodH x (x.hs.z k) = g then (x.hs.z k).n else 0) = 0 := if_neg (fun e => hb e.1)
            rw [hm, e3]
            simp
        · have hg' : ¬ ((x.os.z (x.hs.z k).o.toNat).ls.z (x.hs.z k).l.toNat).o = g := hg
          rw [if_neg hg', if_neg hg', if_neg (fun e => hg e.2)]
          rfl
      · rw [if_neg hol]
        have : matchH (x.hs.z k) o l b = false := by
          cases hm : matchH (x.hs.z k) o l b
          · rfl
          · have := matchH_true hm
            exact absurd ⟨by omega, by omega⟩ hol
        rw [this]
        simp
    unfold heldSum
    refine (sumTo_at h1.2 fun o ho => ?_).symm
    by_cases hoo : o = (x.hs.z k).o.toNat
    · rw [if_pos hoo]
      subst hoo
      exact sumTo_at h2.2 fun l hl => by
        rw [key]
        by_cases hll : l = (x.hs.z k).l.toNat
        · rw [if_pos ⟨rfl, hll⟩, if_pos hll]
        · rw [if_neg (fun e => hll e.2), if_neg hll]
    · rw [if_neg hoo, Int.add_zero]
      exact sumTo_same fun l hl => by rw [key, if_neg (fun e => hoo e.1)]; omega
def lessL (x : Hd) (n : Int) : Hd := ⟨x.o, x.l, x.b, x.n - n⟩
structure Took (s : St) (o l : Nat) (n : Int) (t : Tk) (x : St) : Prop where
  on : x.on.n = s.on.n ∧ ∀ i, i < x.on.n → (x.on.r i).n = (s.on.r i).n ∧ ∀ j, j < (x.on.r i).n → (x.on.r i).z j = (s.on.r i).z j
  os : x.os.n = s.os.n ∧ ∀ i, i < x.os.n → (x.os.z i).k = (s.os.z i).k ∧ (x.os.z i).ls.n = (s.os.z i).ls.n ∧ ∀ j, j < (x.os.z i).ls.n → (x.os.z i).ls.z j = if i = o ∧ j = l then lessL ((s.os.z i).ls.z j) (n - t.left) else (s.os.z i).ls.z j
  right : anyB x.hs.n (badH x.hs.z) = false
  kept : ∀ a b c : Int, keptV x.hs.n x.hs.z a b c = keptV s.hs.n s.hs.z a b c + if a = o ∧ b = l then t.took c else 0
  ms : x.ms.n = s.ms.n ∧ ∀ j, j < x.ms.n → x.ms.z j = s.ms.z j
  si : x.si.n = s.si.n ∧ ∀ j, j < x.si.n → x.si.z j = s.si.z j
  so : x.so.n = s.so.n ∧ ∀ j, j < x.so.n → x.so.z j = s.so.z j
  sf : x.sf.n = s.sf.n ∧ ∀ j, j < x.sf.n → x.sf.z j = s.sf.z j
theorem Took.same {s : St} {o l : Nat} {n : Int} {t : Tk} {x y : St} (h : Took s o l n t x) (k : Took s o l n t y) : SameT x y := by
  have ho : ∀ i, i < x.os.n → i < y.os.n := fun i hi => by rw [k.os.1, ← h.os.1]; exact hi
  refine ⟨⟨h.on.1.trans k.on.1.symm, fun i hi => ?_⟩, ⟨h.os.1.trans k.os.1.symm, fun i hi => ?_⟩, right_ext h.right k.right fun a b c => (h.kept a b c).trans (k.kept a b c).symm, ⟨h.ms.1.trans k.ms.1.symm, fun j hj => (h.ms.2 j hj).trans (k.ms.2 j (by rw [k.ms.1, ← h.ms.1]; exact hj)).symm⟩, ⟨h.si.1.trans k.si.1.symm, fun j hj => (h.si.2 j hj).trans (k.si.2 j (by rw [k.si.1, ← h.si.1]; exact hj)).symm⟩, ⟨h.so.1.trans k.so.1.symm, fun j hj => (h.so.2 j hj).trans (k.so.2 j (by rw [k.so.1, ← h.so.1]; exact hj)).symm⟩, ⟨h.sf.1.trans k.sf.1.symm, fun j hj => (h.sf.2 j hj).trans (k.sf.2 j (by rw [k.sf.1, ← h.sf.1]; exact hj)).symm⟩⟩
  · have a := h.on.2 i hi
    have b := k.on.2 i (by rw [k.on.1, ← h.on.1]; exact hi)
    exact ⟨a.1.trans b.1.symm, fun j hj => (a.2 j hj).trans (b.2 j (by rw [b.1, ← a.1]; exact hj)).symm⟩
  · have a := h.os.2 i hi
    have b := k.os.2 i (ho i hi)
    exact ⟨a.1.trans b.1.symm, a.2.1.trans b.2.1.symm, fun j hj => (a.2.2 j hj).trans (b.2.2 j (by rw [b.2.1, ← a.2.1]; exact hj)).symm⟩
section
variable {p : Pl} {s x : St} {o l : Nat} {n : Int} {t : Tk}
theorem Took.line (h : Took s o l n t x) {i j : Nat} (hi : i < s.os.n) (hj : j < (s.os.z i).ls.n) : (x.os.z i).ls.z j = if i = o ∧ j = l then lessL ((s.os.z i).ls.z j) (n - t.left) else (s.os.z i).ls.z j := by
  have a := h.os.2 i (by rw [h.os.1]; exact hi)
  exact a.2.2 j (by rw [a.2.1]; exact hj)
theorem Took.good (h : Took s o l n t x) {i j : Nat} (hi : i < s.os.n) (hj : j < (s.os.z i).ls.n) : ((x.os.z i).ls.z j).o = ((s.os.z i).ls.z j).o := by
  rw [h.line hi hj]
  split <;> rfl
theorem Took.keptS (h : Took s o l n t x) (f : Formed p s) (hsum : sumTo (fun b => t.took b) 6 = n - t.left) (a b : Int) : Go.Proofs.Ytbcacebifpagpae.keptS x.hs.z a b x.hs.n = Go.Proofs.Ytbcacebifpagpae.keptS s.hs.z a b s.hs.n + if a = o ∧ b = l then n - t.left else 0 := by
  rw [← kept_eq x.hs.z a b _ h.right, ← kept_eq s.hs.z a b _ f.hold]
  by_cases hab : a = o ∧ b = l
  · rw [if_pos hab, ← hsum]
    have : ∀ m, sumTo (fun c => keptV x.hs.n x.hs.z a b c) m = sumTo (fun c => keptV s.hs.n s.hs.z a b c) m + sumTo (fun c => t.took c) m := fun m => by
      induction m with
      | zero => rfl
      | succ m ih => simp only [sumTo]; rw [ih, h.kept, if_pos hab]; omega
    exact this 6
  · rw [if_neg hab, Int.add_zero]
    exact sumTo_same fun c _ => by rw [h.kept, if_neg hab]; omega
theorem Took.home (h : Took s o l n t x) (f : Formed p s) (ho : o < s.os.n) (hl : l < (s.os.z o).ls.n) (hin : ∀ b, ¬ t.took b = 0 → 0 ≤ b ∧ b < p.nb) : ∀ i, i < x.hs.n → homeless p x (x.hs.z i) = false := by
  intro i hi
  have fx := fineH_true (right_fine h.right i hi)
  have e := (kept_at h.right hi (matchH_self (x.hs.z i))).1
  rw [h.kept] at e
  have lens : ∀ a, a < s.os.n → (x.os.z a).ls.n = (s.os.z a).ls.n := fun a ha => (h.os.2 a (by rw [h.os.1]; exact ha)).2.1
  by_cases h0 : keptV s.hs.n s.hs.z (x.hs.z i).o (x.hs.z i).l (x.hs.z i).b = 0
  · by_cases hol : (x.hs.z i).o = o ∧ (x.hs.z i).l = l
    · rw [if_pos hol, h0] at e
      have hb := hin (x.hs.z i).b (by omega)
      have eo : (x.hs.z i).o.toNat = o := by omega
      have el : (x.hs.z i).l.toNat = l := by omega
      refine homeless_mk ⟨by omega, by rw [h.os.1]; omega⟩ ⟨by omega, ?_⟩ hb
      rw [eo, el, lens o ho]
      exact hl
    · rw [if_neg hol, h0] at e
      omega
  · obtain ⟨q1, q2, -⟩ := kept_pos f.hold h0
    obtain ⟨a1, a2, a3⟩ := homeless_no (f.home _ q1)
    obtain ⟨m1, m2, m3⟩ := matchH_true q2
    rw [m1, m2] at a2
    rw [m1] at a1
    rw [m3] at a3
    exact homeless_mk ⟨a1.1, by rw [h.os.1]; exact a1.2⟩ ⟨a2.1, by rw [lens _ a1.2]; exact a2.2⟩ a3
theorem Took.num (h : Took s o l n t x) (f : Formed p s) {b g : Nat} (hb : b < p.nb) (hg : g < p.ns) : (x.on.r b).z g = (s.on.r b).z g := by
  have hb' : b < s.on.n := by rw [f.sh.n]; exact hb
  have r := h.on.2 b (by rw [h.on.1]; exact hb')
  exact r.2 g (by rw [r.1, f.sh.len b hb']; exact hg)
theorem Took.formed (h : Took s o l n t x) (f : Formed p s) (ho : o < s.os.n) (hl : l < (s.os.z o).ls.n) (hin : ∀ b, ¬ t.took b = 0 → 0 ≤ b ∧ b < p.nb) (h0 : 0 ≤ n - t.left) (h1 : n - t.left ≤ ((s.os.z o).ls.z l).n) : Formed p x := by
  have hp := (rightS f.sh0).1
  have hs : RightS p x.on := ⟨f.sh.pl, h.on.1.trans f.sh.n, fun i hi => (h.on.2 i hi).1.trans (f.sh.len i (by rw [← h.on.1]; exact hi)), fun i hi j hj => by
    have hi' : i < s.on.n := by rw [← h.on.1]; exact hi
    rw [h.num f (by rw [← f.sh.n]; exact hi') hj]
    exact f.sh.num i hi' j hj⟩
  have oo : ∀ i, i < x.os.n → i < s.os.n := fun i hi => by rw [← h.os.1]; exact hi
  refine ⟨hs, shelfE_mk hp hs, by rw [h.os.1]; exact f.os4, by rw [h.ms.1]; exact f.ms8, fun i hi => by rw [(h.os.2 i hi).2.1]; exact f.lns i (oo i hi), fun i hi => by rw [(h.os.2 i hi).1]; exact f.kind i (oo i hi), fun i hi j hj => ?_, h.right, h.home f ho hl hin, fun i hi => ?_, h.si.1.trans f.sin, h.so.1.trans f.son, h.sf.1.trans f.sfn, fun j hj => ?_, fun j hj => ?_, fun j hj => ?_⟩
  · have hj' : j < (s.os.z i).ls.n := by rw [← (h.os.2 i hi).2.1]; exact hj
    rw [(h.os.2 i hi).2.2 j hj]
    by_cases hij : i = o ∧ j = l
    · rw [if_pos hij]
      obtain ⟨rfl, rfl⟩ := hij
      obtain ⟨b1, b2, b3, b4⟩ := badLine_no (f.line i (oo i hi) j hj')
      unfold badLine lessL
      rw [inB_mk (by show _ ∧ _; dsimp only; omega), inB_mk (by show _ ∧ _; dsimp only; omega), inB_mk (by show _ ∧ _; dsimp only; omega), inB_mk (by show _ ∧ _; dsimp only; omega)]
      rfl
    · rw [if_neg hij]
      exact f.line i (oo i hi) j hj'
  · rw [h.ms.2 i hi]
    exact f.move i (by rw [← h.ms.1]; exact hi)
  · rw [h.si.2 j (by rw [h.si.1, f.sin]; exact hj)]; exact f.sib j hj
  · rw [h.so.2 j (by rw [h.so.1, f.son]; exact hj)]; exact f.sob j hj
  · rw [h.sf.2 j (by rw [h.sf.1, f.sfn]; exact hj)]; exact f.sfb j hj
theorem Took.held (h : Took s o l n t x) (f : Formed p s) (fx : Formed p x) (ho : o < s.os.n) (hl : l < (s.os.z o).ls.n) (b g : Int) : heldTo x b g x.hs.n = heldTo s b g s.hs.n + if ((s.os.z o).ls.z l).o = g then t.took b else 0 := by
  rw [heldTo_sum b g _ fx.home fx.hold, heldTo_sum b g _ f.home f.hold]
  have lens : ∀ a, a < s.os.n → (x.os.z a).ls.n = (s.os.z a).ls.n := fun a ha => (h.os.2 a (by rw [h.os.1]; exact ha)).2.1
  have key : ∀ i, i < s.os.n → ∀ j, j < (s.os.z i).ls.n → lineHeld x b g x.hs.n i j = lineHeld s b g s.hs.n i j + if i = o ∧ j = l then (if ((s.os.z o).ls.z l).o = g then t.took b else 0) else 0 := fun i hi j hj => by
    unfold lineHeld
    rw [h.good hi hj, h.kept]
    by_cases hij : i = o ∧ j = l
    · have e1 : (if ((i : Nat) : Int) = o ∧ ((j : Nat) : Int) = l then t.took b else 0) = t.took b := if_pos (by omega)
      rw [e1, if_pos hij]
      obtain ⟨rfl, rfl⟩ := hij
      by_cases hg : ((s.os.z i).ls.z j).o = g <;> simp [hg]
    · have e1 : (if ((i : Nat) : Int) = o ∧ ((j : Nat) : Int) = l then t.took b else 0) = 0 := if_neg (by omega)
      rw [e1, if_neg hij]
      by_cases hg : ((s.os.z i).ls.z j).o = g <;> simp [hg]
  unfold heldSum
  rw [h.os.1]
  refine sumTo_at ho fun i hi => ?_
  rw [lens i hi]
  by_cases hio : i = o
  · subst hio
    rw [if_pos rfl]
    exact sumTo_at hl fun j hj => by
      rw [key i hi j hj]
      by_cases hjl : j = l
      · rw [if_pos ⟨rfl, hjl⟩, if_pos hjl]
      · rw [if_neg (fun e => hjl e.2), if_neg hjl]
  · rw [if_neg hio, Int.add_zero]
    exact sumTo_same fun j hj => by rw [key i hi j hj, if_neg (fun e => hio e.1), Int.add_zero]
theorem Took.avail (h : Took s o l n t x) (f : Formed p s) (fx : Formed p x) (ho : o < s.os.n) (hl : l < (s.os.z o).ls.n) {b g : Nat} (hb : b < p.nb) (hg : g < p.ns) : availZ x b g = availZ s b g - if ((s.os.z o).ls.z l).o = g then t.took b else 0 := by
  unfold availZ
  rw [h.num f hb hg, h.held f fx ho hl, h.ms.1, fromTo_eq fun j hj => h.ms.2 j (by rw [h.ms.1]; exact hj)]
  omega
theorem Took.isRight (h : Took s o l n t x) (r : RightT p s) (ho : o < s.os.n) (hl : l < (s.os.z o).ls.n) (hk : (s.os.z o).k = 1) (hin : ∀ b, ¬ t.took b = 0 → 0 ≤ b ∧ b < p.nb) (h0 : 0 ≤ n - t.left) (h1 : n - t.left ≤ ((s.os.z o).ls.z l).n)
    (hav : ∀ b : Nat, b < p.nb → t.took b ≤ availZ s b ((s.os.z o).ls.z l).o.toNat) (ht0 : ∀ b, 0 ≤ t.took b) (hsum : sumTo (fun b => t.took b) 6 = n - t.left) : RightT p x := by
  have f := r.fm
  have fx := h.formed f ho hl hin h0 h1
  refine ⟨fx, fun g hg => ?_, fun i hi => ?_⟩
  · obtain ⟨a1, a2⟩ := goods_no (r.goods g hg)
    refine goods_mk ?_ fun b hb => ?_
    · have e : sumTo (fun i => (x.on.r i).z g) x.on.n = sumTo (fun i => (s.on.r i).z g) s.on.n := by
        rw [h.on.1]
        exact sumTo_congr fun i hi => h.num f (by rw [← f.sh.n]; exact hi) hg
      rw [e, a1, h.si.2 g (by rw [h.si.1, f.sin]; exact hg), h.so.2 g (by rw [h.so.1, f.son]; exact hg), h.sf.2 g (by rw [h.sf.1, f.sfn]; exact hg)]
    · rw [h.avail f fx ho hl hb hg]
      have a3 := a2 b hb
      by_cases hgg : ((s.os.z o).ls.z l).o = g
      · rw [if_pos hgg]
        have := hav b hb
        rw [hgg] at this
        have e : ((g : Nat) : Int).toNat = g := rfl
        rw [e] at this
        omega
      · rw [if_neg hgg]; omega
  · have hi' : i < s.os.n := by rw [← h.os.1]; exact hi
    have w := r.orders i hi'
    obtain ⟨e1, e2, e3⟩ := h.os.2 i hi
    have e4 := fun j hj => h.line (i := i) (j := j) hi' hj
    unfold wrongOrder at w ⊢
    rw [Bool.or_eq_false_iff] at w ⊢
    rw [e1, e2]
    refine ⟨?_, anyB_no fun j hj => ?_⟩
    · rw [← w.1]
      congr 2
      refine anyB_congr fun j hj => ?_
      rw [e4 j hj]
      split <;> rfl
    · have wj := anyB_false w.2 j hj
      rw [h.keptS f hsum, e4 j hj]
      by_cases hij : i = o ∧ j = l
      · obtain ⟨rfl, rfl⟩ := hij
        rw [if_pos ⟨rfl, rfl⟩, if_pos ⟨rfl, rfl⟩]
        rw [hk] at wj ⊢
        unfold wrongL at wj ⊢
        simp only [lessL] at wj ⊢
        rw [if_neg (by decide), if_neg (by decide)] at wj ⊢
        simp only [Bool.not_eq_false', beq_iff_eq] at wj ⊢
        omega
      · rw [if_neg hij, if_neg (fun e => hij ⟨by omega, by omega⟩), Int.add_zero]
        exact wj
end
end Go.Proofs.Ytbcacebifpagpae
namespace Go.Proofs.Ytbcacebifpagpae
open Go.RowKit
set_option linter.unusedVariables false
def missL (s : St) (order line : Int) : Bool := !(inB order 0 ((s.os.n : Int) - 1)) || !(inB line 0 (((s.os.z order.toNat).ls.n : Int) - 1))
def allocR (p : Pl) (s : St) (order line n but : Int) : Bool := missL s order line || !(inB n 0 200) || ((but != -1) && !(inB but 0 ((p.nb : Int) - 1)))
def lineAt (s : St) (order line : Int) : Hd := (s.os.z order.toNat).ls.z line.toNat
def allocE (p : Pl) (s : St) (order line n but : Int) : Int :=
  if stateE p s = 0 then (if allocR p s order line n but then 3 else if (s.os.z order.toNat).k = 1 then (if (lineAt s order line).n < n then 3 else 0) else 6) else stateE p s
def tkOf (p : Pl) (s : St) (good : Int) (n but : Int) : Tk := Tk.go (fun b => availZ s b.toNat good.toNat) n (wayT p but)
def allocL (p : Pl) (s : St) (order line n but : Int) : Int := if allocE p s order line n but = 0 then (tkOf p s (lineAt s order line).o n but).left else 0
def AllocOK (p : Pl) (s : St) (order line n but : Int) (x : St) : Prop := (allocE p s order line n but = 0 → Took s order.toNat line.toNat n (tkOf p s (lineAt s order line).o n but) x) ∧ (¬ allocE p s order line n but = 0 → NoneS x)
section
variable {p : Pl} {s : St} {order line n but : Int}
theorem allocE_state (h : ¬ stateE p s = 0) : allocE p s order line n but = stateE p s := by unfold allocE; rw [if_neg h]
theorem allocE_range (h : stateE p s = 0) (h1 : allocR p s order line n but = true) : allocE p s order line n but = 3 := by unfold allocE; rw [if_pos h, if_pos h1]
theorem allocE_done (h : stateE p s = 0) (h1 : allocR p s order line n but = false) (h2 : ¬ (s.os.z order.toNat).k = 1) : allocE p s order line n but = 6 := by unfold allocE; rw [if_pos h, h1, if_neg h2]; rfl
theorem allocE_back (h : stateE p s = 0) (h1 : allocR p s order line n but = false) (h2 : (s.os.z order.toNat).k = 1) (h3 : (lineAt s order line).n < n) : allocE p s order line n but = 3 := by unfold allocE; rw [if_pos h, h1, if_pos h2, if_pos h3]; rfl
theorem allocE_ok (h : stateE p s = 0) (h1 : allocR p s order line n but = false) (h2 : (s.os.z order.toNat).k = 1) (h3 : ¬ (lineAt s order line).n < n) : allocE p s order line n but = 0 := by unfold allocE; rw [if_pos h, h1, if_pos h2, if_neg h3]; rfl
theorem allocR_no (h : allocR p s order line n but = false) : (0 ≤ order ∧ order.toNat < s.os.n) ∧ (0 ≤ line ∧ line.toNat < (s.os.z order.toNat).ls.n) ∧ (0 ≤ n ∧ n ≤ 200) ∧ (but = -1 ∨ 0 ≤ but ∧ but < p.nb) := by
  simp only [allocR, missL, Bool.or_eq_false_iff, Bool.not_eq_false', Bool.and_eq_false_iff, bne_eq_false_iff_eq] at h
  obtain ⟨⟨⟨a, b⟩, c⟩, d⟩ := h
  have a := inB_true a
  have b := inB_true b
  have c := inB_true c
  refine ⟨by omega, by omega, c, ?_⟩
  rcases d with d | d
  · exact Or.inl d
  · have := inB_true d; exact Or.inr (by omega)
structure AllocIn (p : Pl) (s : St) (order line n but : Int) : Prop where
  st : stateE p s = 0
  o0 : 0 ≤ order
  on : order.toNat < s.os.n
  l0 : 0 ≤ line
  ln : line.toNat < (s.os.z order.toNat).ls.n
  n0 : 0 ≤ n
  n2 : n ≤ 200
  bt : but = -1 ∨ 0 ≤ but ∧ but < p.nb
  kd : (s.os.z order.toNat).k = 1
  bk : n ≤ (lineAt s order line).n
theorem allocIn (h : allocE p s order line n but = 0) : AllocIn p s order line n but := by
  by_cases h0 : stateE p s = 0
  · cases h1 : allocR p s order line n but
    · obtain ⟨a, b, c, d⟩ := allocR_no h1
      by_cases h2 : (s.os.z order.toNat).k = 1
      · by_cases h3 : (lineAt s order line).n < n
        · rw [allocE_back h0 h1 h2 h3] at h; exact absurd h (by decide)
        · exact ⟨h0, a.1, a.2, b.1, b.2, c.1, c.2, d, h2, by omega⟩
      · rw [allocE_done h0 h1 h2] at h; exact absurd h (by decide)
    · rw [allocE_range h0 h1] at h; exact absurd h (by decide)
  · rw [allocE_state h0] at h; exact absurd h h0
theorem AllocIn.good (h : AllocIn p s order line n but) : 0 ≤ (lineAt s order line).o ∧ (lineAt s order line).o < p.ns := (badLine_no ((rightT h.st).fm.line _ h.on _ h.ln)).1
theorem AllocIn.way (h : AllocIn p s order line n but) : ∀ x, x ∈ wayT p but → 0 ≤ x ∧ x < p.nb := fun x hx => way_mem (wayT_mem.1 hx).1
theorem AllocIn.tk (h : AllocIn p s order line n but) {l : List Int} (hl : l.Pairwise (fun x y => ¬ x = y)) (hm : ∀ x, x ∈ l → 0 ≤ x ∧ x < p.nb) : TkOK (fun b => availZ s b.toNat (lineAt s order line).o.toNat) n l (Tk.go (fun b => availZ s b.toNat (lineAt s order line).o.toNat) n l) := by
  have r := rightT h.st
  have hg := h.good
  refine tkOK h.n0 hl (fun x hx => ?_) (fun x hx => ?_)
  · have := hm x hx
    exact (goods_no (r.goods _ (by omega))).2 _ (by omega)
  · have := hm x hx
    have := r.fm.sh.pl.nb6
    omega
theorem Took.rightAt {x : St} {l : List Int} {t : Tk} (h : AllocIn p s order line n but) (hm : ∀ x, x ∈ l → 0 ≤ x ∧ x < p.nb) (k : TkOK (fun b => availZ s b.toNat (lineAt s order line).o.toNat) n l t) (T : Took s order.toNat line.toNat n t x) : RightT p x := by
  have r := rightT h.st
  have hb := h.bk
  have hl0 := k.left0
  have hl1 := k.leftn
  refine T.isRight r h.on h.ln h.kd (fun b hb => ?_) (by omega) (by unfold lineAt at hb; omega) (fun b hb => ?_) k.took0 k.sum
  · apply Classical.byContradiction
    intro hc
    refine hb (k.other b fun hbl => hc ?_)
    exact hm b hbl
  · by_cases hbl : ((b : Nat) : Int) ∈ l
    · exact k.had b hbl
    · rw [k.other b hbl]
      have hg := h.good
      exact (goods_no (r.goods _ (by unfold lineAt at hg; omega))).2 b hb
end
end Go.Proofs.Ytbcacebifpagpae
namespace Go.Proofs.Ytbcacebifpagpae
open Go.RowKit
set_option linter.unusedVariables false
theorem sumTo_ge {z : Nat → Int} {m : Nat} : ∀ {k : Nat}, m < k → (∀ i, i < k → 0 ≤ z i) → z m ≤ sumTo z k
  | k + 1, hm, h => by
    simp only [sumTo]
    have h0 : 0 ≤ sumTo z k := by
      have : ∀ q, q ≤ k → 0 ≤ sumTo z q := fun q => by
        induction q with
        | zero => intro _; exact Int.le_refl _
        | succ q ih => intro hq; simp only [sumTo]; have := ih (by omega); have := h q (by omega); omega
      exact this k (Nat.le_refl _)
    by_cases hmk : m = k
    · subst hmk; omega
    · have := sumTo_ge (z := z) (m := m) (k := k) (by omega) (fun i hi => h i (by omega))
      have := h k (by omega)
      omega
theorem kept_le {n : Nat} {z : Nat → Hd} (hr : anyB n (badH z) = false) (o l : Int) {b : Nat} (hb : b < 6) : keptV n z o l b ≤ keptS z o l n := by
  rw [← kept_eq z o l n hr]
  exact sumTo_ge (z := fun b => keptV n z o l b) hb fun i _ => (keptV_bd (fun j hj => (fineH_true (right_fine hr j hj)).2.2.2) o l i).1
theorem line_sum {p : Pl} {x : St} (r : RightT p x) {i j : Nat} (hi : i < x.os.n) (hj : j < (x.os.z i).ls.n) (hk : (x.os.z i).k = 1) : ((x.os.z i).ls.z j).b + ((x.os.z i).ls.z j).n + keptS x.hs.z i j x.hs.n = ((x.os.z i).ls.z j).l ∧ ((x.os.z i).ls.z j).l ≤ 200 ∧ 0 ≤ ((x.os.z i).ls.z j).b := by
  have w := r.orders i hi
  unfold wrongOrder at w
  rw [Bool.or_eq_false_iff] at w
  have wj := anyB_false w.2 j hj
  rw [hk] at wj
  unfold wrongL at wj
  rw [if_neg (by decide), if_neg (by decide)] at wj
  simp only [Bool.not_eq_false', beq_iff_eq] at wj
  have b := badLine_no (r.fm.line i hi j hj)
  exact ⟨wj, by omega, by omega⟩
theorem Took.congr {s x : St} {o l : Nat} {n : Int} {t t' : Tk} (h : Took s o l n t x) (h1 : t'.left = t.left) (h2 : ∀ c, t'.took c = t.took c) : Took s o l n t' x :=
  ⟨h.on, ⟨h.os.1, fun i hi => ⟨(h.os.2 i hi).1, (h.os.2 i hi).2.1, fun j hj => by rw [h1]; exact (h.os.2 i hi).2.2 j hj⟩⟩, h.right, fun a b c => by rw [h2]; exact h.kept a b c, h.ms, h.si, h.so, h.sf⟩
theorem Took.start {s : St} {o l : Nat} {n : Int} (hr : anyB s.hs.n (badH s.hs.z) = false) {x : St} (hx : SameT x s) : Took s o l n ⟨n, fun _ => 0⟩ x := by
  refine ⟨hx.on, ⟨hx.os.1, fun i hi => ⟨(hx.os.2 i hi).1, (hx.os.2 i hi).2.1, fun j hj => ?_⟩⟩, ?_, fun a b c => ?_, hx.ms, hx.si, hx.so, hx.sf⟩
  · rw [(hx.os.2 i hi).2.2 j hj]
    by_cases hij : i = o ∧ j = l
    · rw [if_pos hij]
      show _ = (⟨_, _, _, _ - (n - n)⟩ : Hd)
      rw [Int.sub_self, Int.sub_zero]
    · rw [if_neg hij]
  · rw [hx.hs.1, badH_congr fun j hj => hx.hs.2 j (by rw [hx.hs.1]; exact hj)]
    exact hr
  · rw [hx.hs.1, keptV_congr fun j hj => hx.hs.2 j (by rw [hx.hs.1]; exact hj)]
    show _ = _ + if _ then (0 : Int) else 0
    split <;> omega
section
variable {p : Pl} {s x : St} {order line n but : Int} {l : List Int} {t : Tk} {b : Int}
end
end Go.Proofs.Ytbcacebifpagpae
namespace Go.Proofs.Ytbcacebifpagpae
open Go.RowKit
set_option linter.unusedVariables false
structure TakeIn (p : Pl) (s : St) (o l : Nat) (n : Int) : Prop where
  fm : Formed p s
  av : ∀ b, b < p.nb → 0 ≤ availZ s b ((s.os.z o).ls.z l).o.toNat
  on : o < s.os.n
  ln : l < (s.os.z o).ls.n
  n0 : 0 ≤ n
  bk : n ≤ ((s.os.z o).ls.z l).n
  sum : ((s.os.z o).ls.z l).n + keptS s.hs.z o l s.hs.n ≤ 200
def avT (s : St) (o l : Nat) (b : Int) : Int := availZ s b.toNat ((s.os.z o).ls.z l).o.toNat
section
variable {p : Pl} {s x : St} {o l : Nat} {n : Int} {L : List Int} {t : Tk}
theorem TakeIn.good (h : TakeIn p s o l n) : 0 ≤ ((s.os.z o).ls.z l).o ∧ ((s.os.z o).ls.z l).o < p.ns := (badLine_no (h.fm.line _ h.on _ h.ln)).1
theorem TakeIn.tk (h : TakeIn p s o l n) (hL : L.Pairwise (fun x y => ¬ x = y)) (hm : ∀ x, x ∈ L → 0 ≤ x ∧ x < p.nb) : TkOK (avT s o l) n L (Tk.go (avT s o l) n L) := by
  refine tkOK h.n0 hL (fun x hx => ?_) (fun x hx => ?_)
  · have := hm x hx
    exact h.av _ (by omega)
  · have := hm x hx
    have := h.fm.sh.pl.nb6
    omega
theorem TakeIn.inBins (hm : ∀ x, x ∈ L → 0 ≤ x ∧ x < p.nb) (k : TkOK (avT s o l) n L t) : ∀ b, ¬ t.took b = 0 → 0 ≤ b ∧ b < p.nb := fun b hb => by
  apply Classical.byContradiction
  intro hc
  exact hb (k.other b fun hbl => hc (hm b hbl))
theorem TakeIn.formed (h : TakeIn p s o l n) (hm : ∀ x, x ∈ L → 0 ≤ x ∧ x < p.nb) (k : TkOK (avT s o l) n L t) (T : Took s o l n t x) : Formed p x := by
  have h0 := k.left0
  have h1 := k.leftn
  have h2 := h.bk
  exact T.formed h.fm h.on h.ln (TakeIn.inBins hm k) (by omega) (by omega)
end
end Go.Proofs.Ytbcacebifpagpae
namespace Go.Proofs.Ytbcacebifpagpae
open Go.RowKit
set_option linter.unusedVariables false
theorem Tk.go_congr {av av' : Int → Int} {n : Int} : ∀ {L : List Int} {t : Tk}, (∀ b, b ∈ L → av b = av' b) → L.foldl (Tk.step av) t = L.foldl (Tk.step av') t
  | [], _, _ => rfl
  | b :: L, t, h => by
    rw [List.foldl_cons, List.foldl_cons, show Tk.step av t b = Tk.step av' t b by unfold Tk.step; rw [h b (by simp)]]
    exact Tk.go_congr (n := n) fun c hc => h c (by simp [hc])
theorem TakeIn.same {p : Pl} {x s : St} {o l : Nat} {n : Int} (h : TakeIn p s o l n) (k : SameT x s) : TakeIn p x o l n := by
  have ho : o < x.os.n := by rw [k.os.1]; exact h.on
  have e := k.os.2 o ho
  have hl : l < (x.os.z o).ls.n := by rw [e.2.1]; exact h.ln
  have e3 := e.2.2 l hl
  have hg := h.good
  refine ⟨k.formed h.fm, fun b hb => ?_, ho, hl, h.n0, by rw [e3]; exact h.bk, ?_⟩
  · rw [e3, k.avail h.fm hb (by omega)]
    exact h.av b hb
  · rw [e3, k.hs.1, keptS_congr _ _ fun j hj => k.hs.2 j (by rw [k.hs.1]; exact hj)]
    exact h.sum
theorem Took.base {x0 s x : St} {o l : Nat} {n : Int} {t : Tk} (k : SameT x0 s) (h : Took x0 o l n t x) : Took s o l n t x := by
  have r := k
  refine ⟨⟨h.on.1.trans k.on.1, fun i hi => ?_⟩, ⟨h.os.1.trans k.os.1, fun i hi => ?_⟩, h.right, fun a b c => ?_, ⟨h.ms.1.trans k.ms.1, fun j hj => (h.ms.2 j hj).trans (k.ms.2 j (by rw [← h.ms.1]; exact hj))⟩, ⟨h.si.1.trans k.si.1, fun j hj => (h.si.2 j hj).trans (k.si.2 j (by rw [← h.si.1]; exact hj))⟩, ⟨h.so.1.trans k.so.1, fun j hj => (h.so.2 j hj).trans (k.so.2 j (by rw [← h.so.1]; exact hj))⟩, ⟨h.sf.1.trans k.sf.1, fun j hj => (h.sf.2 j hj).trans (k.sf.2 j (by rw [← h.sf.1]; exact hj))⟩⟩
  · have a := h.on.2 i hi
    have b := k.on.2 i (by rw [← h.on.1]; exact hi)
    exact ⟨a.1.trans b.1, fun j hj => (a.2 j hj).trans (b.2 j (by rw [← a.1]; exact hj))⟩
  · have a := h.os.2 i hi
    have b := k.os.2 i (by rw [← h.os.1]; exact hi)
    refine ⟨a.1.trans b.1, a.2.1.trans b.2.1, fun j hj => ?_⟩
    rw [a.2.2 j hj, b.2.2 j (by rw [← a.2.1]; exact hj)]
  · rw [h.kept, k.hs.1, keptV_congr fun j hj => k.hs.2 j (by rw [k.hs.1]; exact hj)]
theorem tk_same {p : Pl} {x s : St} {o l : Nat} {n but : Int} (h : TakeIn p s o l n) (k : SameT x s) : Tk.go (avT x o l) n (wayT p but) = Tk.go (avT s o l) n (wayT p but) := by
  unfold Tk.go
  refine Tk.go_congr (n := n) fun b hb => ?_
  have ho : o < x.os.n := by rw [k.os.1]; exact h.on
  have e := k.os.2 o ho
  have hl : l < (x.os.z o).ls.n := by rw [e.2.1]; exact h.ln
  have hg := h.good
  have hw := way_mem (wayT_mem.1 hb).1
  unfold avT
  rw [e.2.2 l hl]
  exact k.avail h.fm (by omega) (by omega)
end Go.Proofs.Ytbcacebifpagpae
namespace Go.Proofs.Ytbcacebifpagpae
open Go.RowKit Go.Shelf Go.Sort
set_option linter.unusedVariables false
theorem none_same2 {s t : St} (a : NoneS s) (b : NoneS t) : SameT s t := by
  obtain ⟨a1, a2, a3, a4, a5, a6, a7⟩ := a
  obtain ⟨b1, b2, b3, b4, b5, b6, b7⟩ := b
  exact ⟨⟨by omega, fun i hi => absurd hi (by omega)⟩, ⟨by omega, fun i hi => absurd hi (by omega)⟩, ⟨by omega, fun j hj => absurd hj (by omega)⟩, ⟨by omega, fun j hj => absurd hj (by omega)⟩, ⟨by omega, fun j hj => absurd hj (by omega)⟩, ⟨by omega, fun j hj => absurd hj (by omega)⟩, ⟨by omega, fun j hj => absurd hj (by omega)⟩⟩
theorem ActOK.same {E : Int} {t x y : St} (a : ActOK E t x) (b : ActOK E t y) : SameT x y := by
  by_cases h : E = 0
  · exact (a.1 h).trans (b.1 h).symm
  · exact none_same2 (a.2 h) (b.2 h)
theorem ActOK.bound {E : Int} {p : Pl} {s t x : St} (h : ActOK E t x) (f : E = 0 → t.os.n ≤ 1000 ∧ t.ms.n ≤ 1000 ∧ ∀ i, i < t.os.n → (t.os.z i).ls.n ≤ 1000) : x.os.n ≤ 1000 ∧ x.ms.n ≤ 1000 ∧ ∀ i, i < x.os.n → (x.os.z i).ls.n ≤ 1000 := by
  by_cases hE : E = 0
  · obtain ⟨f1, f2, f3⟩ := f hE
    have a := h.1 hE
    have e1 : x.os.n = t.os.n := a.os.1
    have e2 : x.ms.n = t.ms.n := a.ms.1
    refine ⟨by omega, by omega, fun i hi => ?_⟩
    have e3 : (x.os.z i).ls.n = (t.os.z i).ls.n := (a.os.2 i hi).2.1
    have := f3 i (by omega)
    omega
  · obtain ⟨a1, a2, a3, a4, a5, a6, a7⟩ := h.2 hE
    exact ⟨by omega, by omega, fun i hi => absurd hi (by omega)⟩
end Go.Proofs.Ytbcacebifpagpae
namespace Go.Proofs.Ytbcacebifpagpae
open Go.RowKit
set_option linter.unusedVariables false
theorem AllocOK.same {p : Pl} {s x y : St} {order line n but : Int} (a : AllocOK p s order line n but x) (b : AllocOK p s order line n but y) : SameT x y := by
  by_cases h : allocE p s order line n but = 0
  · exact (a.1 h).same (b.1 h)
  · exact none_same2 (a.2 h) (b.2 h)
theorem AllocOK.bound {p : Pl} {s x : St} {order line n but : Int} (a : AllocOK p s order line n but x) : x.os.n ≤ 1000 ∧ x.ms.n ≤ 1000 ∧ ∀ i, i < x.os.n → (x.os.z i).ls.n ≤ 1000 := by
  by_cases h : allocE p s order line n but = 0
  · have f := (rightT (allocIn h).st).fm
    have T := a.1 h
    have o4 := f.os4
    have m8 := f.ms8
    have e1 := T.os.1
    have e2 := T.ms.1
    refine ⟨by omega, by omega, fun i hi => ?_⟩
    rw [(T.os.2 i hi).2.1]
    have := f.lns i (by omega)
    omega
  · obtain ⟨a1, a2, a3, a4, a5, a6, a7⟩ := a.2 h
    exact ⟨by omega, by omega, fun i hi => absurd hi (by omega)⟩
end Go.Proofs.Ytbcacebifpagpae
namespace Go.Proofs.Ytbcacebifpagpae
open Go.RowKit
set_option linter.unusedVariables false
theorem frL_has {p : Pl} {f : Bool} {b : Nat} : ∀ {k : Nat}, b < k → (p.zb b).front = f → ((b : Nat) : Int) ∈ frL p f k
  | k + 1, hb, hf => by
    by_cases hbk : b = k
    · subst hbk
      rw [frL_hit hf]
      simp
    · have h := frL_has (k := k) (by omega) hf
      by_cases hk : (p.zb k).front = f
      · rw [frL_hit hk]; simp [h]
      · rw [frL_miss hk]; exact h
theorem way_has {p : Pl} {b : Nat} (hb : b < p.nb) : ((b : Nat) : Int) ∈ wayL p := by
  unfold wayL
  rw [List.mem_append]
  cases hf : (p.zb b).front
  · exact Or.inr (frL_has hb hf)
  · exact Or.inl (frL_has hb hf)
theorem Took.trans {s y z : St} {o l : Nat} {k m : Int} {t1 t2 : Tk} (a : Took s o l k t1 y) (b : Took y o l m t2 z) : Took s o l (k + m) ⟨t1.left + t2.left, fun c => t1.took c + t2.took c⟩ z := by
  refine ⟨⟨b.on.1.trans a.on.1, fun i hi => ?_⟩, ⟨b.os.1.trans a.os.1, fun i hi => ?_⟩, b.right, fun e f g => ?_, ⟨b.ms.1.trans a.ms.1, fun j hj => (b.ms.2 j hj).trans (a.ms.2 j (by rw [← b.ms.1]; exact hj))⟩, ⟨b.si.1.trans a.si.1, fun j hj => (b.si.2 j hj).trans (a.si.2 j (by rw [← b.si.1]; exact hj))⟩, ⟨b.so.1.trans a.so.1, fun j hj => (b.so.2 j hj).trans (a.so.2 j (by rw [← b.so.1]; exact hj))⟩, ⟨b.sf.1.trans a.sf.1, fun j hj => (b.sf.2 j hj).trans (a.sf.2 j (by rw [← b.sf.1]; exact hj))⟩⟩
  · have x := b.on.2 i hi
    have y' := a.on.2 i (by rw [← b.on.1]; exact hi)
    exact ⟨x.1.trans y'.1, fun j hj => (x.2 j hj).trans (y'.2 j (by rw [← x.1]; exact hj))⟩
  · have x := b.os.2 i hi
    have y' := a.os.2 i (by rw [← b.os.1]; exact hi)
    refine ⟨x.1.trans y'.1, x.2.1.trans y'.2.1, fun j hj => ?_⟩
    rw [x.2.2 j hj, y'.2.2 j (by rw [← x.2.1]; exact hj)]
    by_cases hij : i = o ∧ j = l
    · rw [if_pos hij, if_pos hij, if_pos hij]
      unfold lessL
      congr 1
      show _ - (k - t1.left) - (m - t2.left) = _ - (k + m - (t1.left + t2.left))
      omega
    · rw [if_neg hij, if_neg hij, if_neg hij]
  · rw [b.kept, a.kept]
    show _ = _ + if _ then t1.took g + t2.took g else 0
    by_cases hef : e = o ∧ f = l
    · rw [if_pos hef, if_pos hef, if_pos hef]; omega
    · rw [if_neg hef, if_neg hef, if_neg hef]; omega
section
variable {p : Pl} {s x y z : St} {order line n but k : Int}
theorem AllocIn.less (h : AllocIn p s order line n but) (hk : 0 ≤ k ∧ k ≤ n) : allocE p s order line k but = 0 := by
  have h1 : allocR p s order line k but = false := by
    unfold allocR missL
    have h2 := h.n2
    have on := h.on
    have o0 := h.o0
    have ln := h.ln
    have l0 := h.l0
    rw [inB_mk (by omega), inB_mk (by omega), inB_mk (by omega)]
    rcases h.bt with e | e
    · rw [e]; rfl
    · rw [inB_mk (by omega)]; simp
  exact allocE_ok h.st h1 h.kd (by have := h.bk; omega)
theorem AllocIn.rightX (h : AllocIn p s order line n but) (hx : AllocOK p s order line n but x) : RightT p x :=
  (hx.1 (h.less ⟨h.n0, Int.le_refl _⟩)).rightAt h (fun x hx => h.way x hx) (h.tk (wayT_apart p but) (fun x hx => h.way x hx))
theorem AllocIn.none (h : AllocIn p s order line n but) (hx : AllocOK p s order line n but x) (hl : 0 < allocL p s order line n but) {b : Nat} (hb : b < p.nb) (hbut : ¬ ((b : Nat) : Int) = but) : availZ x b (lineAt s order line).o.toNat = 0 := by
  have e := h.less ⟨h.n0, Int.le_refl _⟩
  have T := hx.1 e
  have r := h.rightX hx
  have k := h.tk (wayT_apart p but) (fun x hx => h.way x hx)
  unfold allocL at hl
  rw [if_pos e] at hl
  have hg := h.good
  have hm : ((b : Nat) : Int) ∈ wayT p but := wayT_mem.2 ⟨way_has hb, hbut⟩
  have ha := k.all hl b hm
  rw [T.avail (rightT h.st).fm r.fm h.on h.ln hb (by omega), if_pos (by unfold lineAt; unfold lineAt at hg; omega)]
  show _ - (tkOf p s (lineAt s order line).o n but).took b = 0
  have ha' : (tkOf p s (lineAt s order line).o n but).took b = availZ s b (lineAt s order line).o.toNat := ha
  rw [ha']
  omega
end
end Go.Proofs.Ytbcacebifpagpae
namespace Go.Proofs.Ytbcacebifpagpae
open Go.RowKit
set_option linter.unusedVariables false
theorem SameT.self (s : St) : SameT s s := ⟨⟨rfl, fun _ _ => ⟨rfl, fun _ _ => rfl⟩⟩, ⟨rfl, fun _ _ => ⟨rfl, rfl, fun _ _ => rfl⟩⟩, ⟨rfl, fun _ _ => rfl⟩, ⟨rfl, fun _ _ => rfl⟩, ⟨rfl, fun _ _ => rfl⟩, ⟨rfl, fun _ _ => rfl⟩, ⟨rfl, fun _ _ => rfl⟩⟩
theorem right_line {p : Pl} {s : St} (r : RightT p s) {o l : Nat} (ho : o < s.os.n) (hl : l < (s.os.z o).ls.n) : 0 ≤ ((s.os.z o).ls.z l).n ∧ ((s.os.z o).ls.z l).n + keptS s.hs.z o l s.hs.n ≤ 200 ∧ 0 ≤ keptS s.hs.z o l s.hs.n := by
  have w := r.orders o ho
  unfold wrongOrder at w
  rw [Bool.or_eq_false_iff] at w
  have wl : wrongL (s.os.z o).k ((s.os.z o).ls.z l) (keptS s.hs.z o l s.hs.n) = false := anyB_false w.2 l hl
  obtain ⟨b1, b2, b3, b4⟩ := badLine_no (r.fm.line o ho l hl)
  have k0 := (keptS_bd (z := s.hs.z) o l s.hs.n fun j hj => (fineH_true (right_fine r.fm.hold j hj)).2.2.2).1
  unfold wrongL at wl
  by_cases h0 : (s.os.z o).k = 0
  · rw [if_pos h0] at wl
    simp only [Bool.or_eq_false_iff, Bool.not_eq_false', beq_iff_eq] at wl
    omega
  · rw [if_neg h0] at wl
    by_cases h2 : (s.os.z o).k = 2
    · rw [if_pos h2] at wl
      simp only [Bool.or_eq_false_iff, Bool.not_eq_false', beq_iff_eq] at wl
      omega
    · rw [if_neg h2] at wl
      simp only [Bool.not_eq_false', beq_iff_eq] at wl
      omega
theorem RightT.takeIn {p : Pl} {s : St} (r : RightT p s) {o l : Nat} (ho : o < s.os.n) (hl : l < (s.os.z o).ls.n) {n : Int} (h0 : 0 ≤ n) (hb : n ≤ ((s.os.z o).ls.z l).n) : TakeIn p s o l n := by
  have q := right_line r ho hl
  have hg := (badLine_no (r.fm.line o ho l hl)).1
  exact ⟨r.fm, fun b hb => (goods_no (r.goods _ (by omega))).2 b hb, ho, hl, h0, hb, q.2.1⟩
def Step (p : Pl) (but : Int) (y : St) (i j : Nat) (n : Int) (x : St) : Prop := Took y i j n (Tk.go (avT y i j) n (wayT p but)) x
structure StepIn (p : Pl) (but : Int) (y : St) (i j : Nat) (n : Int) : Prop where
  r : RightT p y
  on : i < y.os.n
  ln : j < (y.os.z i).ls.n
  n0 : 0 ≤ n
  kd : n = 0 ∨ (y.os.z i).k = 1 ∧ n ≤ ((y.os.z i).ls.z j).n
  bt : but = -1 ∨ 0 ≤ but ∧ but < p.nb
section
variable {p : Pl} {but : Int} {s y x : St} {i j : Nat} {n : Int}
theorem StepIn.bk (h : StepIn p but y i j n) : n ≤ ((y.os.z i).ls.z j).n := by
  have q := right_line h.r h.on h.ln
  rcases h.kd with e | e
  · omega
  · exact e.2
theorem StepIn.tki (h : StepIn p but y i j n) : TakeIn p y i j n := h.r.takeIn h.on h.ln h.n0 h.bk
theorem StepIn.way (x : Int) (hx : x ∈ wayT p but) : 0 ≤ x ∧ x < p.nb := way_mem (wayT_mem.1 hx).1
theorem StepIn.tk (h : StepIn p but y i j n) : TkOK (avT y i j) n (wayT p but) (Tk.go (avT y i j) n (wayT p but)) := h.tki.tk (wayT_apart p but) StepIn.way
theorem TakeIn.tkw {but : Int} (h : TakeIn p y i j n) : TkOK (avT y i j) n (wayT p but) (Tk.go (avT y i j) n (wayT p but)) := h.tk (wayT_apart p but) StepIn.way
theorem TakeIn.none {but : Int} (h : TakeIn p y i j 0) : (Tk.go (avT y i j) 0 (wayT p but)).left = 0 ∧ ∀ c, (Tk.go (avT y i j) 0 (wayT p but)).took c = 0 := by
  have k := h.tkw (but := but)
  have h0 := k.left0
  have h1 := k.leftn
  refine ⟨by omega, fun c => ?_⟩
  have h2 := k.took0 c
  have h3 := k.tookn c
  omega
theorem Step.zero (h : TakeIn p y i j 0) (T : Step p but y i j 0 x) : SameT x y := Took.same T (Took.congr (Took.start (n := 0) h.fm.hold (SameT.self y)) h.none.1 h.none.2)
theorem Step.skip (h : TakeIn p y i j 0) : Step p but y i j 0 y := Took.congr (Took.start (n := 0) h.fm.hold (SameT.self y)) h.none.1 h.none.2
theorem StepIn.allocIn (h : StepIn p but y i j n) (hk : (y.os.z i).k = 1) : AllocIn p y i j n but := by
  have q := right_line h.r h.on h.ln
  have b := h.bk
  have o := h.on
  have l := h.ln
  exact ⟨stateE_of h.r, by omega, o, by omega, l, h.n0, by omega, h.bt, hk, b⟩
theorem Step.right (h : StepIn p but y i j n) (T : Step p but y i j n x) : RightT p x := by
  rcases h.kd with e | e
  · subst e
    exact (Step.zero h.tki T).right h.r
  · have I := h.allocIn e.1
    exact Took.rightAt (order := i) (line := j) I (fun x hx => I.way x hx) (I.tk (wayT_apart p but) (fun x hx => I.way x hx)) T
theorem Step.same {y' x' : St} (h : TakeIn p y i j n) (e : SameT y' y) (T : Step p but y i j n x) (T' : Step p but y' i j n x') : SameT x' x := by
  unfold Step at T'
  rw [tk_same h e] at T'
  exact (Took.base e T').same T
structure Along (p : Pl) (but : Int) (s x : St) : Prop where
  r : RightT p x
  osn : x.os.n = s.os.n
  kind : ∀ i, i < s.os.n → (x.os.z i).k = (s.os.z i).k ∧ (x.os.z i).ls.n = (s.os.z i).ls.n
  line : ∀ i, i < s.os.n → ∀ j, j < (s.os.z i).ls.n → ((x.os.z i).ls.z j).o = ((s.os.z i).ls.z j).o ∧ ((x.os.z i).ls.z j).l = ((s.os.z i).ls.z j).l ∧ ((x.os.z i).ls.z j).b = ((s.os.z i).ls.z j).b
  sum : ∀ i, i < s.os.n → ∀ j, j < (s.os.z i).ls.n → ((x.os.z i).ls.z j).n + keptS x.hs.z i j x.hs.n = ((s.os.z i).ls.z j).n + keptS s.hs.z i j s.hs.n ∧ ((x.os.z i).ls.z j).n ≤ ((s.os.z i).ls.z j).n
  on : x.on.n = s.on.n ∧ ∀ i, i < x.on.n → (x.on.r i).n = (s.on.r i).n ∧ ∀ j, j < (x.on.r i).n → (x.on.r i).z j = (s.on.r i).z j
  ms : x.ms.n = s.ms.n ∧ ∀ j, j < x.ms.n → x.ms.z j = s.ms.z j
  si : x.si.n = s.si.n ∧ ∀ j, j < x.si.n → x.si.z j = s.si.z j
  so : x.so.n = s.so.n ∧ ∀ j, j < x.so.n → x.so.z j = s.so.z j
  sf : x.sf.n = s.sf.n ∧ ∀ j, j < x.sf.n → x.sf.z j = s.sf.z j
  av : ∀ b g, b < p.nb → g < p.ns → availZ x b g ≤ availZ s b g ∧ (((b : Nat) : Int) = but → availZ x b g = availZ s b g)
theorem SameT.kept (h : SameT x s) (a b : Int) : keptS x.hs.z a b x.hs.n = keptS s.hs.z a b s.hs.n := by
  rw [h.hs.1, keptS_congr _ _ fun j hj => h.hs.2 j (by rw [h.hs.1]; exact hj)]
theorem SameT.line (h : SameT x s) {i j : Nat} (hi : i < s.os.n) (hj : j < (s.os.z i).ls.n) : (x.os.z i).ls.z j = (s.os.z i).ls.z j := by
  have e := h.os.2 i (by rw [h.os.1]; exact hi)
  exact e.2.2 j (by rw [e.2.1]; exact hj)
theorem Along.self (r : RightT p s) (h : SameT x s) : Along p but s x := by
  refine ⟨h.right r, h.os.1, fun i hi => ?_, fun i hi j hj => ?_, fun i hi j hj => ?_, h.on, h.ms, h.si, h.so, h.sf, fun b g hb hg => ?_⟩
  · have e := h.os.2 i (by rw [h.os.1]; exact hi)
    exact ⟨e.1, e.2.1⟩
  · rw [h.line hi hj]
    exact ⟨rfl, rfl, rfl⟩
  · rw [h.line hi hj, h.kept]
    exact ⟨rfl, Int.le_refl _⟩
  · rw [h.avail r.fm hb hg]
    exact ⟨Int.le_refl _, fun _ => rfl⟩
theorem Along.step (A : Along p but s y) (h : StepIn p but y i j n) (T : Step p but y i j n x) : Along p but s x := by
  have k := h.tk
  have rx := Step.right h T
  have T' : Took y i j n (Tk.go (avT y i j) n (wayT p but)) x := T
  generalize Tk.go (avT y i j) n (wayT p but) = t at k T'
  have h0 := k.left0
  have h1 := k.leftn
  refine ⟨rx, T'.os.1.trans A.osn, fun a ha => ?_, fun a ha b hb => ?_, fun a ha b hb => ?_, ⟨T'.on.1.trans A.on.1, fun a ha => ?_⟩, ⟨T'.ms.1.trans A.ms.1, fun c hc => (T'.ms.2 c hc).trans (A.ms.2 c (by rw [← T'.ms.1]; exact hc))⟩, ⟨T'.si.1.trans A.si.1, fun c hc => (T'.si.2 c hc).trans (A.si.2 c (by rw [← T'.si.1]; exact hc))⟩, ⟨T'.so.1.trans A.so.1, fun c hc => (T'.so.2 c hc).trans (A.so.2 c (by rw [← T'.so.1]; exact hc))⟩, ⟨T'.sf.1.trans A.sf.1, fun c hc => (T'.sf.2 c hc).trans (A.sf.2 c (by rw [← T'.sf.1]; exact hc))⟩, fun b g hb hg => ?_⟩
  · have e := T'.os.2 a (by rw [T'.os.1, A.osn]; exact ha)
    have f := A.kind a ha
    exact ⟨e.1.trans f.1, e.2.1.trans f.2⟩
  · have f := A.kind a ha
    have g := A.line a ha b hb
    rw [T'.line (by rw [A.osn]; exact ha) (by rw [f.2]; exact hb)]
    by_cases c : a = i ∧ b = j
    · rw [if_pos c]; exact g
    · rw [if_neg c]; exact g
  · have f := A.kind a ha
    have g := A.sum a ha b hb
    rw [T'.line (by rw [A.osn]; exact ha) (by rw [f.2]; exact hb), T'.keptS h.r.fm k.sum]
    by_cases c : a = i ∧ b = j
    · rw [if_pos c, if_pos ⟨by omega, by omega⟩]
      show ((y.os.z a).ls.z b).n - (n - t.left) + _ = _ ∧ ((y.os.z a).ls.z b).n - (n - t.left) ≤ _
      omega
    · rw [if_neg c, if_neg (fun e => c ⟨by omega, by omega⟩)]
      omega
  · have e := T'.on.2 a ha
    have f := A.on.2 a (by rw [← T'.on.1]; exact ha)
    exact ⟨e.1.trans f.1, fun c hc => (e.2 c hc).trans (f.2 c (by rw [← e.1]; exact hc))⟩
  · have e := T'.avail h.r.fm rx.fm h.on h.ln hb hg
    have f := A.av b g hb hg
    have t0 := k.took0 b
    refine ⟨by rw [e]; split <;> omega, fun hbt => ?_⟩
    have hn : ((b : Nat) : Int) ∉ wayT p but := fun hm => (wayT_mem.1 hm).2 hbt
    rw [e, k.other _ hn, f.2 hbt]
    split <;> omega
end
def before (a b i j : Nat) : Prop := a < i ∨ a = i ∧ b < j
structure Pos (p : Pl) (but : Int) (q : Nat → Nat → Int) (s : St) (i j : Nat) (x : St) : Prop where
  al : Along p but s x
  later : ∀ a b, a < s.os.n → b < (s.os.z a).ls.n → ¬ before a b i j → (x.os.z a).ls.z b = (s.os.z a).ls.z b ∧ keptS x.hs.z a b x.hs.n = keptS s.hs.z a b s.hs.n
  none : ∀ a b, a < s.os.n → b < (s.os.z a).ls.n → before a b i j → q a b = ((s.os.z a).ls.z b).n → 0 < ((x.os.z a).ls.z b).n → ∀ c : Nat, c < p.nb → ¬ ((c : Nat) : Int) = but → availZ x c ((s.os.z a).ls.z b).o.toNat = 0
  first : ∀ a b, a < s.os.n → b < (s.os.z a).ls.n → ∀ a' b', a' < s.os.n → b' < (s.os.z a').ls.n → before a b a' b' → before a' b' i j → q a b = ((s.os.z a).ls.z b).n → 0 < ((x.os.z a).ls.z b).n → ((s.os.z a).ls.z b).o = ((s.os.z a').ls.z b').o → keptS x.hs.z a' b' x.hs.n = keptS s.hs.z a' b' s.hs.n
structure QIn (p : Pl) (but : Int) (q : Nat → Nat → Int) (s : St) : Prop where
  r : RightT p s
  q0 : ∀ a b, a < s.os.n → b < (s.os.z a).ls.n → 0 ≤ q a b ∧ (q a b = 0 ∨ (s.os.z a).k = 1 ∧ q a b ≤ ((s.os.z a).ls.z b).n)
  bt : but = -1 ∨ 0 ≤ but ∧ but < p.nb
def TkRow (p : Pl) (but : Int) (q : Nat → Nat → Int) (i : Nat) (s : St) : Nat → St → Prop
  | 0, x => x = s
  | j + 1, x => ∃ y, TkRow p but q i s j y ∧ Step p but y i j (q i j) x
def TkAll (p : Pl) (but : Int) (q : Nat → Nat → Int) (m : Nat → Nat) (s : St) : Nat → St → Prop
  | 0, x => SameT x s
  | i + 1, x => ∃ y, TkAll p but q m s i y ∧ TkRow p but q i y (m i) x
section
variable {p : Pl} {but : Int} {q : Nat → Nat → Int} {s y x : St} {i j : Nat}
theorem Pos.stepIn (Q : QIn p but q s) (P : Pos p but q s i j y) (hi : i < s.os.n) (hj : j < (s.os.z i).ls.n) : StepIn p but y i j (q i j) := by
  have k := P.al.kind i hi
  have l := P.later i j hi hj (fun e => by unfold before at e; omega)
  have e := Q.q0 i j hi hj
  refine ⟨P.al.r, by rw [P.al.osn]; exact hi, by rw [k.2]; exact hj, e.1, ?_, Q.bt⟩
  rw [k.1, l.1]
  exact e.2
theorem Pos.start (Q : QIn p but q s) (h : SameT x s) : Pos p but q s 0 0 x :=
  ⟨Along.self Q.r h, fun a b ha hb _ => ⟨h.line ha hb, h.kept _ _⟩, fun a b _ _ hb => by unfold before at hb; omega, fun _ _ _ _ a' b' _ _ _ hb => by unfold before at hb; omega⟩
theorem Pos.next (P : Pos p but q s i j x) (hj : (s.os.z i).ls.n ≤ j) : Pos p but q s (i + 1) 0 x := by
  have key : ∀ a b, b < (s.os.z a).ls.n → before a b (i + 1) 0 → before a b i j := fun a b hb h => by
    unfold before at h ⊢
    rcases h with h | h
    · by_cases e : a = i
      · subst e
        exact Or.inr ⟨rfl, by omega⟩
      · exact Or.inl (by omega)
    · omega
  refine ⟨P.al, fun a b ha hb h => P.later a b ha hb (fun e => h ?_), fun a b ha hb h => P.none a b ha hb (key a b hb h), fun a b ha hb a' b' ha' hb' h h' => P.first a b ha hb a' b' ha' hb' h (key a' b' hb' h')⟩
  unfold before at e ⊢
  omega
theorem Pos.step (Q : QIn p but q s) (P : Pos p but q s i j y) (hi : i < s.os.n) (hj : j < (s.os.z i).ls.n) (T : Step p but y i j (q i j) x) : Pos p but q s i (j + 1) x := by
  have I := P.stepIn Q hi hj
  have k := I.tk
  have rx := Step.right I T
  have A := P.al.step I T
  have T' : Took y i j (q i j) (Tk.go (avT y i j) (q i j) (wayT p but)) x := T
  generalize ht : Tk.go (avT y i j) (q i j) (wayT p but) = t at k T'
  have L := P.later i j hi hj (fun e => by unfold before at e; omega)
  have yln : ∀ a, a < s.os.n → ∀ b, b < (s.os.z a).ls.n → a < y.os.n ∧ b < (y.os.z a).ls.n := fun a ha b hb => ⟨by rw [P.al.osn]; exact ha, by rw [(P.al.kind a ha).2]; exact hb⟩
  have other : ∀ a, a < s.os.n → ∀ b, b < (s.os.z a).ls.n → ¬ (a = i ∧ b = j) → (x.os.z a).ls.z b = (y.os.z a).ls.z b ∧ keptS x.hs.z a b x.hs.n = keptS y.hs.z a b y.hs.n := fun a ha b hb hne => by
    have e := yln a ha b hb
    refine ⟨by rw [T'.line e.1 e.2, if_neg hne], ?_⟩
    rw [T'.keptS I.r.fm k.sum, if_neg (fun e => hne ⟨by omega, by omega⟩), Int.add_zero]
  have prev : ∀ a b, before a b i (j + 1) → ¬ (a = i ∧ b = j) → before a b i j := fun a b h hne => by
    unfold before at h ⊢
    omega
  have hl0 := k.left0
  have hg := I.tki.good
  have goodE : ((y.os.z i).ls.z j).o = ((s.os.z i).ls.z j).o := by rw [L.1]
  refine ⟨A, fun a b ha hb h => ?_, fun a b ha hb h hq hn c hc hcb => ?_, fun a b ha hb a' b' ha' hb' h h' hq hn hgd => ?_⟩
  · have hne : ¬ (a = i ∧ b = j) := fun e => h (by unfold before; omega)
    have e := other a ha b hb hne
    have f := P.later a b ha hb (fun e => h (by unfold before at e ⊢; omega))
    exact ⟨e.1.trans f.1, e.2.trans f.2⟩
  · by_cases hne : a = i ∧ b = j
    · obtain ⟨rfl, rfl⟩ := hne
      have e := T'.line (yln a ha b hb).1 (yln a ha b hb).2
      rw [if_pos ⟨rfl, rfl⟩] at e
      have hx : ((x.os.z a).ls.z b).n = ((y.os.z a).ls.z b).n - (q a b - t.left) := by rw [e]; rfl
      rw [hx, L.1, ← hq] at hn
      have hm : ((c : Nat) : Int) ∈ wayT p but := wayT_mem.2 ⟨way_has hc, hcb⟩
      have ha' := k.all (by omega) c hm
      rw [← goodE, T'.avail I.r.fm rx.fm I.on I.ln hc (by omega), if_pos (by omega), ha']
      unfold avT
      show availZ y c _ - availZ y c _ = 0
      omega
    · have e := other a ha b hb hne
      rw [e.1] at hn
      have f := P.none a b ha hb (prev a b h hne) hq hn c hc hcb
      have gg := (badLine_no (Q.r.fm.line a ha b hb)).1
      have u := T'.avail I.r.fm rx.fm I.on I.ln hc (g := ((s.os.z a).ls.z b).o.toNat) (by omega)
      have t0 := k.took0 c
      have v := (goods_no (rx.goods ((s.os.z a).ls.z b).o.toNat (by omega))).2 c hc
      rw [f] at u
      split at u <;> omega
  · have nab : ¬ (a = i ∧ b = j) := fun e => by unfold before at h h'; omega
    have eab := other a ha b hb nab
    rw [eab.1] at hn
    by_cases hne : a' = i ∧ b' = j
    · obtain ⟨rfl, rfl⟩ := hne
      have f := P.none a b ha hb h hq hn
      have tz : ∀ c : Nat, c < 6 → t.took c = 0 := fun c hc => by
        by_cases hm : ((c : Nat) : Int) ∈ wayT p but
        · have w := StepIn.way _ hm
          have u := f c (by omega) (wayT_mem.1 hm).2
          have v := k.had _ hm
          have t0 := k.took0 c
          have e2 : avT y a' b' c = availZ y c ((s.os.z a).ls.z b).o.toNat := by
            unfold avT
            rw [goodE, hgd]
            rfl
          rw [e2, u] at v
          omega
        · exact k.other _ hm
      have sz := k.sum
      rw [sumTo_zero fun c hc => tz c hc] at sz
      rw [T'.keptS I.r.fm k.sum, if_pos ⟨rfl, rfl⟩, L.2]
      omega
    · have e := other a' ha' b' hb' hne
      rw [e.2]
      exact P.first a b ha hb a' b' ha' hb' h (prev a' b' h' hne) hq hn hgd
theorem TkRow.pos (Q : QIn p but q s) (P : Pos p but q s i 0 y) (hi : i < s.os.n) : ∀ {j : Nat} {x : St}, j ≤ (s.os.z i).ls.n → TkRow p but q i y j x → Pos p but q s i j x
  | 0, x, _, h => by
    have h' : x = y := h
    rw [h']
    exact P
  | j + 1, x, hj, h => by
    obtain ⟨z, hz, T⟩ := h
    exact (TkRow.pos Q P hi (by omega) hz).step Q hi (by omega) T
theorem TkAll.pos {m : Nat → Nat} (Q : QIn p but q s) (hm : ∀ a, a < s.os.n → m a = (s.os.z a).ls.n) : ∀ {i : Nat} {x : St}, i ≤ s.os.n → TkAll p but q m s i x → Pos p but q s i 0 x
  | 0, x, _, h => Pos.start Q h
  | i + 1, x, hi, h => by
    obtain ⟨z, hz, T⟩ := h
    have P := TkAll.pos Q hm (i := i) (by omega) hz
    rw [hm i (by omega)] at T
    exact (TkRow.pos Q P (by omega) (Nat.le_refl _) T).next (Nat.le_refl _)
theorem TkRow.skip (Q : QIn p but q s) (P : Pos p but q s i 0 y) (hi : i < s.os.n) : ∀ {j : Nat}, j ≤ (s.os.z i).ls.n → (∀ b, b < j → q i b = 0) → TkRow p but q i y j y
  | 0, _, _ => rfl
  | j + 1, hj, h0 => by
    have T := TkRow.skip Q P hi (j := j) (by omega) fun b hb => h0 b (by omega)
    refine ⟨y, T, ?_⟩
    have I := (TkRow.pos Q P hi (by omega) T).stepIn Q hi (by omega)
    rw [h0 j (by omega)] at I ⊢
    exact Step.skip I.tki
theorem TkRow.same {y' : St} (Q : QIn p but q s) (P : Pos p but q s i 0 y) (e : SameT y' y) (hi : i < s.os.n) : ∀ {j : Nat} {x x' : St}, j ≤ (s.os.z i).ls.n → TkRow p but q i y j x → TkRow p but q i y' j x' → SameT x' x
  | 0, x, x', _, h, h' => by
    have h1 : x = y := h
    have h2 : x' = y' := h'
    rw [h1, h2]
    exact e
  | j + 1, x, x', hj, ⟨z, hz, T⟩, ⟨z', hz', T'⟩ => by
    have f := TkRow.same Q P e hi (j := j) (by omega) hz hz'
    exact Step.same ((TkRow.pos Q P hi (by omega) hz).stepIn Q hi (by omega)).tki f T T'
theorem TkAll.same {m : Nat → Nat} (Q : QIn p but q s) (hm : ∀ a, a < s.os.n → m a = (s.os.z a).ls.n) : ∀ {i : Nat} {x x' : St}, i ≤ s.os.n → TkAll p but q m s i x → TkAll p but q m s i x' → SameT x' x
  | 0, x, x', _, h, h' => SameT.trans h' (SameT.symm h)
  | i + 1, x, x', hi, ⟨z, hz, T⟩, ⟨z', hz', T'⟩ => by
    have f := TkAll.same Q hm (i := i) (by omega) hz hz'
    exact TkRow.same Q (TkAll.pos Q hm (by omega) hz) f (by omega) (by rw [hm i (by omega)]; exact Nat.le_refl _) T T'
theorem TkRow.base {q' : Nat → Nat → Int} (hq : ∀ b, b < (s.os.z i).ls.n → q' i b = q i b) : ∀ {j : Nat} {x : St}, j ≤ (s.os.z i).ls.n → TkRow p but q' i y j x → TkRow p but q i y j x
  | 0, x, _, h => h
  | j + 1, x, hj, ⟨z, hz, T⟩ => ⟨z, TkRow.base hq (by omega) hz, by rw [← hq j (by omega)]; exact T⟩
theorem TkAll.base {s' : St} {q' : Nat → Nat → Int} {m m' : Nat → Nat} (e : SameT s' s) (hm : ∀ a, a < s.os.n → m a = (s.os.z a).ls.n) (hm' : ∀ a, a < s.os.n → m' a = m a) (hq : ∀ a b, a < s.os.n → b < (s.os.z a).ls.n → q' a b = q a b) : ∀ {i : Nat} {x : St}, i ≤ s.os.n → TkAll p but q' m' s' i x → TkAll p but q m s i x
  | 0, x, _, h => SameT.trans h e
  | i + 1, x, hi, ⟨z, hz, T⟩ => ⟨z, TkAll.base e hm hm' hq (by omega) hz, by
      rw [hm' i (by omega)] at T
      exact TkRow.base (s := s) (fun b hb => hq i b (by omega) hb) (by rw [hm i (by omega)]; exact Nat.le_refl _) T⟩
end
end Go.Proofs.Ytbcacebifpagpae
namespace Go.Proofs.Ytbcacebifpagpae
open Go.RowKit
set_option linter.unusedVariables false
def relOd (k : Nat) (i : Nat) (o : Od) : Od := if i < k ∧ o.k = 0 then ⟨1, lackL o.ls o.ls.n⟩ else o
def relO (s : St) (k : Nat) : St := ⟨s.on, ⟨s.os.a, s.os.n, s.os.c, fun i => relOd k i (s.os.z i)⟩, s.hs, s.ms, s.si, s.so, s.sf⟩
theorem relOd_n (k i : Nat) (o : Od) : (relOd k i o).ls.n = o.ls.n := by
  unfold relOd
  split <;> rfl
theorem relOd_line (k i : Nat) (o : Od) (j : Nat) : ((relOd k i o).ls.z j).o = (o.ls.z j).o ∧ ((relOd k i o).ls.z j).l = (o.ls.z j).l ∧ ((relOd k i o).ls.z j).b = (o.ls.z j).b := by
  unfold relOd
  split
  · show ((if j < o.ls.n then lackH (o.ls.z j) else o.ls.z j).o = _) ∧ ((if j < o.ls.n then lackH (o.ls.z j) else o.ls.z j).l = _) ∧ ((if j < o.ls.n then lackH (o.ls.z j) else o.ls.z j).b = _)
    split <;> exact ⟨rfl, rfl, rfl⟩
  · exact ⟨rfl, rfl, rfl⟩
theorem rel_line {p : Pl} {s : St} (r : RightT p s) {k i j : Nat} (hi : i < s.os.n) (hj : j < (s.os.z i).ls.n) (c : i < k ∧ (s.os.z i).k = 0) : (relOd k i (s.os.z i)).k = 1 ∧ ((s.os.z i).ls.z j).b = 0 ∧ ((s.os.z i).ls.z j).n = 0 ∧ keptS s.hs.z i j s.hs.n = 0 ∧ ((relOd k i (s.os.z i)).ls.z j).n = ((s.os.z i).ls.z j).l := by
  have w := r.orders i hi
  unfold wrongOrder at w
  rw [Bool.or_eq_false_iff] at w
  have wl : wrongL (s.os.z i).k ((s.os.z i).ls.z j) (keptS s.hs.z i j s.hs.n) = false := anyB_false w.2 j hj
  unfold wrongL at wl
  rw [if_pos c.2] at wl
  simp only [Bool.or_eq_false_iff, Bool.not_eq_false', beq_iff_eq] at wl
  unfold relOd
  rw [if_pos c]
  refine ⟨rfl, wl.1.1, wl.1.2, wl.2, ?_⟩
  show (if j < (s.os.z i).ls.n then lackH ((s.os.z i).ls.z j) else (s.os.z i).ls.z j).n = _
  rw [if_pos hj]
  show ((s.os.z i).ls.z j).l - ((s.os.z i).ls.z j).b = _
  omega
theorem rel_formed {p : Pl} {s : St} (r : RightT p s) (k : Nat) : Formed p (relO s k) := by
  have f := r.fm
  refine ⟨f.sh, f.sh0, f.os4, f.ms8, fun i hi => ?_, fun i hi => ?_, fun i hi j hj => ?_, f.hold, fun i hi => ?_, f.move, f.sin, f.son, f.sfn, f.sib, f.sob, f.sfb⟩
  · show 1 ≤ (relOd k i (s.os.z i)).ls.n ∧ (relOd k i (s.os.z i)).ls.n ≤ 3
    rw [relOd_n]
    exact f.lns i hi
  · show 0 ≤ (relOd k i (s.os.z i)).k ∧ (relOd k i (s.os.z i)).k ≤ 2
    unfold relOd
    split
    · exact ⟨(by decide : (0 : Int) ≤ 1), (by decide : (1 : Int) ≤ 2)⟩
    · exact f.kind i hi
  · show badLine p ((relOd k i (s.os.z i)).ls.z j) = false
    have hj' : j < (s.os.z i).ls.n := by rw [← relOd_n k i]; exact hj
    by_cases c : i < k ∧ (s.os.z i).k = 0
    · have e := rel_line r hi hj' c
      have g := relOd_line k i (s.os.z i) j
      obtain ⟨b1, b2, b3, b4⟩ := badLine_no (f.line i hi j hj')
      unfold badLine
      rw [inB_mk (by omega), inB_mk (by omega), inB_mk (by omega), inB_mk (by omega)]
      rfl
    · unfold relOd
      rw [if_neg c]
      exact f.line i hi j hj'
  · have h := homeless_no (f.home i hi)
    refine homeless_mk h.1 ⟨h.2.1.1, ?_⟩ h.2.2
    show _ < (relOd k _ (s.os.z _)).ls.n
    rw [relOd_n]
    exact h.2.1.2
theorem rel_avail (s : St) (k b g : Nat) : availZ (relO s k) b g = availZ s b g := by
  unfold availZ
  rw [heldTo_eq (x := relO s k) (s := s) (fun j _ => rfl) (fun j _ => (relOd_line k _ _ _).1)]
  rw [fromTo_eq (x := relO s k) (s := s) (fun j _ => rfl)]
  rfl
theorem rel_right {p : Pl} {s : St} (r : RightT p s) (k : Nat) : RightT p (relO s k) := by
  refine ⟨rel_formed r k, fun g hg => ?_, fun i hi => ?_⟩
  · obtain ⟨a1, a2⟩ := goods_no (r.goods g hg)
    exact goods_mk a1 fun b hb => by rw [rel_avail]; exact a2 b hb
  · have hi' : i < s.os.n := hi
    by_cases c : i < k ∧ (s.os.z i).k = 0
    · have l1 := (r.fm.lns i hi').1
      have e0 := rel_line r hi' (j := 0) (by omega) c
      unfold wrongOrder
      rw [Bool.or_eq_false_iff]
      constructor
      · have : anyB ((relO s k).os.z i).ls.n (fun j => lacksL (((relO s k).os.z i).ls.z j)) = true := by
          refine anyB_yes (k := 0) ?_ ?_
          · show 0 < (relOd k i (s.os.z i)).ls.n
            rw [relOd_n]
            omega
          · show lacksL ((relOd k i (s.os.z i)).ls.z 0) = true
            have g := relOd_line k i (s.os.z i) 0
            obtain ⟨b1, b2, b3, b4⟩ := badLine_no (r.fm.line i hi' 0 (by omega))
            unfold lacksL
            rw [Bool.not_eq_true', beq_eq_false_iff_ne]
            omega
        rw [this]
        simp
      · refine anyB_no fun j hj => ?_
        have hj' : j < (s.os.z i).ls.n := by rw [← relOd_n k i]; exact hj
        have e := rel_line r hi' hj' c
        have g := relOd_line k i (s.os.z i) j
        show wrongL (relOd k i (s.os.z i)).k ((relOd k i (s.os.z i)).ls.z j) (keptS s.hs.z i j s.hs.n) = false
        unfold wrongL
        rw [e.1, if_neg (by decide), if_neg (by decide), Bool.not_eq_false', beq_iff_eq]
        omega
    · have e : (relO s k).os.z i = s.os.z i := if_neg c
      have w := r.orders i hi'
      unfold wrongOrder at w ⊢
      rw [e]
      exact w
def relQ (s : St) (a b : Nat) : Int := if ((relO s s.os.n).os.z a).k = 1 then (((relO s s.os.n).os.z a).ls.z b).n else 0
def relM (s : St) (a : Nat) : Nat := (s.os.z a).ls.n
def Released (p : Pl) (s x : St) : Prop := TkAll p (-1) (relQ s) (relM s) (relO s s.os.n) s.os.n x
def RelOK (p : Pl) (s x : St) : Prop := (stateE p s = 0 → Released p s x) ∧ (¬ stateE p s = 0 → NoneS x)
theorem rel_qin {p : Pl} {s : St} (r : RightT p s) : QIn p (-1) (relQ s) (relO s s.os.n) := by
  have rr := rel_right r s.os.n
  refine ⟨rr, fun a b ha hb => ?_, Or.inl rfl⟩
  unfold relQ
  have q := right_line rr ha hb
  by_cases h : ((relO s s.os.n).os.z a).k = 1
  · rw [if_pos h]
    exact ⟨q.1, Or.inr ⟨h, Int.le_refl _⟩⟩
  · rw [if_neg h]
    exact ⟨Int.le_refl _, Or.inl rfl⟩
theorem relM_eq (s : St) (a : Nat) : relM s a = ((relO s s.os.n).os.z a).ls.n := (relOd_n _ _ _).symm
theorem Released.same {p : Pl} {s x y : St} (r : RightT p s) (h : Released p s x) (k : Released p s y) : SameT x y := TkAll.same (rel_qin r) (fun a _ => relM_eq s a) (Nat.le_refl _) k h
theorem RelOK.same {p : Pl} {s x y : St} (a : RelOK p s x) (b : RelOK p s y) : SameT x y := by
  by_cases h : stateE p s = 0
  · exact (a.1 h).same (rightT h) (b.1 h)
  · exact none_same2 (a.2 h) (b.2 h)
theorem RightT.bound {p : Pl} {s : St} (r : RightT p s) : s.os.n ≤ 1000 ∧ s.ms.n ≤ 1000 ∧ ∀ i, i < s.os.n → (s.os.z i).ls.n ≤ 1000 :=
  ⟨Nat.le_trans r.fm.os4 (by decide), Nat.le_trans r.fm.ms8 (by decide), fun i hi => Nat.le_trans (r.fm.lns i hi).2 (by decide)⟩
end Go.Proofs.Ytbcacebifpagpae
namespace Go.Proofs.Ytbcacebifpagpae
open Go.RowKit
set_option linter.unusedVariables false
def setOut (s : St) (g : Nat) (x : Int) : St := ⟨s.on, s.os, s.hs, s.ms, s.si, setRw s.so g x, s.sf⟩
def lineGood (s : St) (o l : Nat) : Nat := ((s.os.z o).ls.z l).o.toNat
def heldAt (s : St) (o l b : Int) : Int := keptV s.hs.n s.hs.z o l b
section
variable {p : Pl} {s : St} {order line bin n : Int}
end
structure HoldIn (p : Pl) (s : St) (o l b : Nat) : Prop where
  r : RightT p s
  kp : ¬ heldAt s o l b = 0
  on : o < s.os.n
  ln : l < (s.os.z o).ls.n
  bn : b < p.nb
section
variable {p : Pl} {s : St} {o l b : Nat}
theorem HoldIn.bd (h : HoldIn p s o l b) : 1 ≤ heldAt s o l b ∧ heldAt s o l b ≤ 200 ∧ heldAt s o l b ≤ keptS s.hs.z o l s.hs.n := by
  obtain ⟨q1, q2, q3⟩ := kept_pos h.r.fm.hold h.kp
  have e := (kept_at h.r.fm.hold q1 q2).1
  have f := (fineH_true (right_fine h.r.fm.hold _ q1)).2.2.2
  have nb6 := h.r.fm.sh.pl.nb6
  have b6 := h.bn
  have k := kept_le h.r.fm.hold (o : Int) (l : Int) (b := b) (by omega)
  unfold heldAt
  omega
theorem HoldIn.kind (h : HoldIn p s o l b) : (s.os.z o).k = 1 := by
  have w := h.r.orders o h.on
  unfold wrongOrder at w
  rw [Bool.or_eq_false_iff] at w
  have wl : wrongL (s.os.z o).k ((s.os.z o).ls.z l) (keptS s.hs.z o l s.hs.n) = false := anyB_false w.2 l h.ln
  have bd := h.bd
  have kd := h.r.fm.kind o h.on
  unfold wrongL at wl
  by_cases h0 : (s.os.z o).k = 0
  · rw [if_pos h0] at wl
    simp only [Bool.or_eq_false_iff, Bool.not_eq_false', beq_iff_eq] at wl
    omega
  · rw [if_neg h0] at wl
    by_cases h2 : (s.os.z o).k = 2
    · rw [if_pos h2] at wl
      simp only [Bool.or_eq_false_iff, Bool.not_eq_false', beq_iff_eq] at wl
      omega
    · omega
theorem HoldIn.good (h : HoldIn p s o l b) : ((s.os.z o).ls.z l).o = (lineGood s o l : Int) ∧ lineGood s o l < p.ns := by
  have g := (badLine_no (h.r.fm.line o h.on l h.ln)).1
  unfold lineGood
  omega
theorem HoldIn.sum (h : HoldIn p s o l b) : ((s.os.z o).ls.z l).b + ((s.os.z o).ls.z l).n + keptS s.hs.z o l s.hs.n = ((s.os.z o).ls.z l).l ∧ ((s.os.z o).ls.z l).l ≤ 200 ∧ 0 ≤ ((s.os.z o).ls.z l).b := line_sum h.r h.on h.ln h.kind
theorem held_ge {p : Pl} {s : St} (f : Formed p s) {o l : Nat} (ho : o < s.os.n) (hl : l < (s.os.z o).ls.n) (b : Int) : keptV s.hs.n s.hs.z o l b ≤ heldTo s b ((s.os.z o).ls.z l).o s.hs.n := by
  rw [heldTo_sum b _ _ f.home f.hold]
  unfold heldSum
  have nn : ∀ i j, 0 ≤ lineHeld s b ((s.os.z o).ls.z l).o s.hs.n i j := fun i j => by
    unfold lineHeld
    have := (keptV_bd (fun j hj => (fineH_true (right_fine f.hold j hj)).2.2.2) (i : Int) (j : Int) b).1
    split <;> omega
  have e1 : lineHeld s b ((s.os.z o).ls.z l).o s.hs.n o l = keptV s.hs.n s.hs.z o l b := if_pos rfl
  have h1 := sumTo_ge (z := fun j => lineHeld s b ((s.os.z o).ls.z l).o s.hs.n o j) hl (fun j _ => nn o j)
  have h2 := sumTo_ge (z := fun i => sumTo (fun j => lineHeld s b ((s.os.z o).ls.z l).o s.hs.n i j) (s.os.z i).ls.n) ho (fun i _ => by
    have : ∀ k, 0 ≤ sumTo (fun j => lineHeld s b ((s.os.z o).ls.z l).o s.hs.n i j) k := fun k => by
      induction k with
      | zero => exact Int.le_refl _
      | succ k ih => simp only [sumTo]; have := nn i k; omega
    exact this _)
  omega
theorem HoldIn.there (h : HoldIn p s o l b) : heldAt s o l b ≤ (s.on.r b).z (lineGood s o l) ∧ (s.on.r b).z (lineGood s o l) ≤ 200 ∧ heldAt s o l b + availZ s b (lineGood s o l) ≤ (s.on.r b).z (lineGood s o l) := by
  have g := h.good
  have a := (goods_no (h.r.goods _ g.2)).2 b h.bn
  have k := held_ge h.r.fm h.on h.ln b
  rw [g.1] at k
  have ft := (fromTo_bd (s := s) (b := b) (g := (lineGood s o l : Int)) (n := s.ms.n) h.r.fm.moveN).1
  have nm := h.r.fm.sh.num b (by rw [h.r.fm.sh.n]; exact h.bn) (lineGood s o l) g.2
  unfold availZ at a ⊢
  unfold heldAt
  omega
end
def dropHs (h : Hs) (o l b : Int) : Hs := ⟨h.a, h.n - 1, h.c, dropZ h.z (dropI h.n h.z o l b)⟩
def pickS (s : St) (o l b : Nat) (n : Int) : St := setLine (setLine (setOut (setOn (withHolds s (dropHs s.hs o l b)) b (lineGood s o l) ((s.on.r b).z (lineGood s o l) - n)) (lineGood s o l) (s.so.z (lineGood s o l) + n)) o l 2 (((s.os.z o).ls.z l).b + n)) o l 3 (((s.os.z o).ls.z l).n + (heldAt s o l b - n))
def gotAll (s : St) (o : Nat) : Bool := !anyB (s.os.z o).ls.n (fun j => lacksL ((s.os.z o).ls.z j))
section
variable {p : Pl} {s : St} {o l b : Nat} {n : Int}
theorem pickS_line (s : St) (o l b : Nat) (n : Int) (i j : Nat) : ((pickS s o l b n).os.z i).ls.z j = if i = o ∧ j = l then ⟨((s.os.z o).ls.z l).o, ((s.os.z o).ls.z l).l, ((s.os.z o).ls.z l).b + n, ((s.os.z o).ls.z l).n + (heldAt s o l b - n)⟩ else (s.os.z i).ls.z j := by
  unfold pickS
  rw [setLine_at, setLine_at]
  by_cases h : i = o ∧ j = l
  · rw [if_pos h, if_pos h, if_pos h]
    obtain ⟨rfl, rfl⟩ := h
    rfl
  · rw [if_neg h, if_neg h, if_neg h]
    rfl
theorem pickS_k (s : St) (o l b : Nat) (n : Int) (i : Nat) : ((pickS s o l b n).os.z i).k = (s.os.z i).k ∧ ((pickS s o l b n).os.z i).ls.n = (s.os.z i).ls.n := by
  unfold pickS
  rw [setLine_k, setLine_k, (setLine_n i).1, (setLine_n i).1]
  exact ⟨rfl, rfl⟩
theorem pickS_on (s : St) (o l b : Nat) (n : Int) (i : Nat) : ((pickS s o l b n).on.r i).n = (s.on.r i).n ∧ ∀ j, ((pickS s o l b n).on.r i).z j = if i = b ∧ j = lineGood s o l then (s.on.r i).z j - n else (s.on.r i).z j := by
  show (if i = b then setRw (s.on.r i) (lineGood s o l) _ else s.on.r i).n = _ ∧ ∀ j, (if i = b then setRw (s.on.r i) (lineGood s o l) _ else s.on.r i).z j = _
  by_cases h : i = b
  · subst h
    rw [if_pos rfl]
    refine ⟨rfl, fun j => ?_⟩
    show (if j = lineGood s o l then _ else (s.on.r i).z j) = _
    by_cases hj : j = lineGood s o l
    · rw [if_pos hj, if_pos ⟨rfl, hj⟩, hj]
    · rw [if_neg hj, if_neg (fun e => hj e.2)]
  · rw [if_neg h]
    exact ⟨rfl, fun j => by rw [if_neg (fun e => h e.1)]⟩
theorem HoldIn.drop (h : HoldIn p s o l b) : anyB (dropHs s.hs o l b).n (badH (dropHs s.hs o l b).z) = false ∧ ∀ x y z : Int, keptV (dropHs s.hs o l b).n (dropHs s.hs o l b).z x y z = if x = o ∧ y = l ∧ z = b then 0 else keptV s.hs.n s.hs.z x y z := by
  obtain ⟨q1, q2, q3⟩ := kept_pos h.r.fm.hold h.kp
  have e := (kept_at h.r.fm.hold q1 q2).2
  have e' : dropI s.hs.n s.hs.z o l b < s.hs.n := by rw [e]; exact q1
  refine ⟨drop_right h.r.fm.hold e', fun x y z => ?_⟩
  have k := drop_kept h.r.fm.hold e' x y z
  show keptV (s.hs.n - 1) (dropZ s.hs.z (dropI s.hs.n s.hs.z o l b)) x y z = _
  rw [k]
  have m := matchH_true q2
  by_cases c : x = o ∧ y = l ∧ z = b
  · have : matchH (s.hs.z (dropI s.hs.n s.hs.z o l b)) x y z = true := by rw [c.1, c.2.1, c.2.2]; exact q2
    rw [this, if_pos c]
    rfl
  · rw [if_neg c]
    cases hm : matchH (s.hs.z (dropI s.hs.n s.hs.z o l b)) x y z
    · rfl
    · exact absurd ⟨(matchH_true hm).1.symm.trans m.1, (matchH_true hm).2.1.symm.trans m.2.1, (matchH_true hm).2.2.symm.trans m.2.2⟩ c
theorem HoldIn.keptS (h : HoldIn p s o l b) (n : Int) (x y : Int) : Go.Proofs.Ytbcacebifpagpae.keptS (pickS s o l b n).hs.z x y (pickS s o l b n).hs.n = Go.Proofs.Ytbcacebifpagpae.keptS s.hs.z x y s.hs.n - if x = o ∧ y = l then heldAt s o l b else 0 := by
  have d := h.drop
  have nb6 := h.r.fm.sh.pl.nb6
  have hb := h.bn
  show Go.Proofs.Ytbcacebifpagpae.keptS (dropHs s.hs o l b).z x y (dropHs s.hs o l b).n = _
  rw [← kept_eq _ x y _ d.1, ← kept_eq _ x y _ h.r.fm.hold]
  by_cases c : x = o ∧ y = l
  · rw [if_pos c]
    have e := sumTo_at (z := fun z => keptV s.hs.n s.hs.z x y z) (z' := fun z => keptV (dropHs s.hs o l b).n (dropHs s.hs o l b).z x y z) (m := b) (n := -heldAt s o l b) (k := 6) (by omega) (fun i hi => by
      rw [d.2]
      by_cases hi2 : i = b
      · rw [if_pos ⟨c.1, c.2, by omega⟩, if_pos hi2, hi2, c.1, c.2]
        unfold heldAt
        omega
      · rw [if_neg (fun e => hi2 (by omega)), if_neg hi2, Int.add_zero])
    rw [e]
    omega
  · rw [if_neg c, Int.sub_zero]
    exact sumTo_same fun i _ => by rw [d.2, if_neg (fun e => c ⟨e.1, e.2.1⟩)]
structure PickIn (p : Pl) (s : St) (o l b : Nat) (n : Int) : Prop where
  hd : HoldIn p s o l b
  n0 : 0 ≤ n
  nh : n ≤ heldAt s o l b
  om : s.so.z (lineGood s o l) + n ≤ 1048576
theorem PickIn.formed (h : PickIn p s o l b n) : Formed p (pickS s o l b n) := by
  have f := h.hd.r.fm
  have d := h.hd.drop
  have g := h.hd.good
  have th := h.hd.there
  have sm := h.hd.sum
  have bd := h.hd.bd
  have n0 := h.n0
  have nh := h.nh
  have om := h.om
  have rs : RightS p (pickS s o l b n).on := ⟨f.sh.pl, f.sh.n, fun i hi => (pickS_on s o l b n i).1.trans (f.sh.len i hi), fun i hi j hj => by
    rw [(pickS_on s o l b n i).2 j]
    have nm := f.sh.num i hi j hj
    by_cases c : i = b ∧ j = lineGood s o l
    · rw [if_pos c]
      obtain ⟨rfl, rfl⟩ := c
      omega
    · rw [if_neg c]; exact nm⟩
  refine ⟨rs, shelfE_mk (rightS f.sh0).1 rs, f.os4, f.ms8, fun i hi => by rw [(pickS_k s o l b n i).2]; exact f.lns i hi, fun i hi => by rw [(pickS_k s o l b n i).1]; exact f.kind i hi, fun i hi j hj => ?_, d.1, fun i hi => ?_, f.move, f.sin, f.son, f.sfn, f.sib, fun j hj => ?_, f.sfb⟩
  · have hj' : j < (s.os.z i).ls.n := by rw [← (pickS_k s o l b n i).2]; exact hj
    rw [pickS_line]
    by_cases c : i = o ∧ j = l
    · rw [if_pos c]
      obtain ⟨b1, b2, b3, b4⟩ := badLine_no (f.line o h.hd.on l h.hd.ln)
      unfold badLine
      rw [inB_mk (by dsimp only; omega), inB_mk (by dsimp only; omega), inB_mk (by dsimp only; omega), inB_mk (by dsimp only; omega)]
      rfl
    · rw [if_neg c]
      exact f.line i hi j hj'
  · have hx : anyB (pickS s o l b n).hs.n (badH (pickS s o l b n).hs.z) = false := d.1
    have e := (kept_at hx hi (matchH_self _)).1
    have fn := (fineH_true (right_fine hx i hi)).2.2.2
    have d2 : keptV (pickS s o l b n).hs.n (pickS s o l b n).hs.z ((pickS s o l b n).hs.z i).o ((pickS s o l b n).hs.z i).l ((pickS s o l b n).hs.z i).b = _ := d.2 _ _ _
    rw [d2] at e
    split at e
    · omega
    · obtain ⟨q1, q2, -⟩ := kept_pos f.hold (o := ((pickS s o l b n).hs.z i).o) (l := ((pickS s o l b n).hs.z i).l) (b := ((pickS s o l b n).hs.z i).b) (by omega)
      obtain ⟨m1, m2, m3⟩ := matchH_true q2
      obtain ⟨a1, a2, a3⟩ := homeless_no (f.home _ q1)
      rw [m1] at a1 a2
      rw [m2] at a2
      rw [m3] at a3
      refine homeless_mk a1 ⟨a2.1, ?_⟩ a3
      rw [(pickS_k s o l b n _).2]
      exact a2.2
  · have sb := f.sob j hj
    show 0 ≤ (if j = lineGood s o l then s.so.z (lineGood s o l) + n else s.so.z j) ∧ (if j = lineGood s o l then s.so.z (lineGood s o l) + n else s.so.z j) ≤ 1048576
    by_cases c : j = lineGood s o l
    · rw [if_pos c]
      rw [c] at sb
      omega
    · rw [if_neg c]; exact sb
theorem PickIn.held (h : PickIn p s o l b n) (c g : Nat) : heldTo (pickS s o l b n) c g (pickS s o l b n).hs.n = heldTo s c g s.hs.n - if c = b ∧ g = lineGood s o l then heldAt s o l b else 0 := by
  have f := h.hd.r.fm
  have fx := h.formed
  have d := h.hd.drop
  have gd := h.hd.good
  rw [heldTo_sum (c : Int) (g : Int) _ fx.home fx.hold, heldTo_sum (c : Int) (g : Int) _ f.home f.hold]
  have key : ∀ i j, lineHeld (pickS s o l b n) c g (pickS s o l b n).hs.n i j = lineHeld s c g s.hs.n i j + if i = o ∧ j = l then -(if c = b ∧ g = lineGood s o l then heldAt s o l b else 0) else 0 := fun i j => by
    unfold lineHeld
    have e : keptV (pickS s o l b n).hs.n (pickS s o l b n).hs.z (i : Int) (j : Int) (c : Int) = _ := d.2 i j c
    rw [e]
    have eg : (((pickS s o l b n).os.z i).ls.z j).o = ((s.os.z i).ls.z j).o := by
      rw [pickS_line]
      by_cases q : i = o ∧ j = l
      · rw [if_pos q, q.1, q.2]
      · rw [if_neg q]
    rw [eg]
    by_cases q : i = o ∧ j = l
    · rw [if_pos q]
      obtain ⟨rfl, rfl⟩ := q
      rw [gd.1]
      by_cases hg : g = lineGood s i j
      · subst hg
        rw [if_pos rfl, if_pos rfl]
        by_cases hc : c = b
        · subst hc
          rw [if_pos ⟨rfl, rfl, rfl⟩, if_pos ⟨rfl, rfl⟩]
          unfold heldAt
          omega
        · rw [if_neg (fun e => hc (by omega)), if_neg (fun e => hc e.1)]
          omega
      · rw [if_neg (fun e => hg (by omega)), if_neg (fun e => hg (by omega)), if_neg (fun e => hg e.2)]
        rfl
    · have e3 : (if (i : Int) = o ∧ (j : Int) = l ∧ (c : Int) = b then 0 else keptV s.hs.n s.hs.z (i : Int) (j : Int) (c : Int)) = keptV s.hs.n s.hs.z (i : Int) (j : Int) (c : Int) := if_neg (fun e => q ⟨by omega, by omega⟩)
      rw [if_neg q, e3, Int.add_zero]
  unfold heldSum
  have hn : (pickS s o l b n).os.n = s.os.n := rfl
  rw [hn]
  have := sumTo_at (z := fun i => sumTo (fun j => lineHeld s c g s.hs.n i j) (s.os.z i).ls.n) (z' := fun i => sumTo (fun j => lineHeld (pickS s o l b n) c g (pickS s o l b n).hs.n i j) ((pickS s o l b n).os.z i).ls.n) (m := o) (n := -(if c = b ∧ g = lineGood s o l then heldAt s o l b else 0)) (k := s.os.n) h.hd.on (fun i hi => by
    rw [(pickS_k s o l b n i).2]
    by_cases q : i = o
    · rw [if_pos q]
      subst q
      exact sumTo_at h.hd.ln fun j hj => by
        rw [key]
        by_cases q2 : j = l
        · rw [if_pos ⟨rfl, q2⟩, if_pos q2]
        · rw [if_neg (fun e => q2 e.2), if_neg q2]
    · rw [if_neg q, Int.add_zero]
      exact sumTo_same fun j hj => by rw [key, if_neg (fun e => q e.1), Int.add_zero])
  rw [this]
  omega
theorem PickIn.avail (h : PickIn p s o l b n) (c g : Nat) : availZ (pickS s o l b n) c g = availZ s c g + if c = b ∧ g = lineGood s o l then heldAt s o l b - n else 0 := by
  unfold availZ
  rw [h.held, (pickS_on s o l b n c).2 g]
  have e : fromTo (pickS s o l b n) c g (pickS s o l b n).ms.n = fromTo s c g s.ms.n := fromTo_eq (x := pickS s o l b n) (s := s) (fun j _ => rfl)
  rw [e]
  by_cases q : c = b ∧ g = lineGood s o l
  · rw [if_pos q, if_pos q, if_pos q]; omega
  · rw [if_neg q, if_neg q, if_neg q]; omega
theorem PickIn.goods (h : PickIn p s o l b n) (g : Nat) (hg : g < p.ns) : sumTo (fun i => ((pickS s o l b n).on.r i).z g) (pickS s o l b n).on.n = (pickS s o l b n).si.z g - (pickS s o l b n).so.z g + (pickS s o l b n).sf.z g ∧ ∀ c, c < p.nb → 0 ≤ availZ (pickS s o l b n) c g := by
  obtain ⟨a1, a2⟩ := goods_no (h.hd.r.goods g hg)
  have n0 := h.n0
  have nh := h.nh
  refine ⟨?_, fun c hc => ?_⟩
  · show sumTo _ s.on.n = s.si.z g - (if g = lineGood s o l then s.so.z (lineGood s o l) + n else s.so.z g) + s.sf.z g
    by_cases q : g = lineGood s o l
    · rw [if_pos q]
      have e := sumTo_at (z := fun i => (s.on.r i).z g) (z' := fun i => ((pickS s o l b n).on.r i).z g) (m := b) (n := -n) (k := s.on.n) (by rw [h.hd.r.fm.sh.n]; exact h.hd.bn) (fun i hi => by
        rw [(pickS_on s o l b n i).2 g]
        by_cases c : i = b
        · rw [if_pos ⟨c, q⟩, if_pos c]; omega
        · rw [if_neg (fun e => c e.1), if_neg c, Int.add_zero])
      rw [e, a1, q]
      omega
    · rw [if_neg q, ← a1]
      exact sumTo_same fun i hi => by rw [(pickS_on s o l b n i).2 g, if_neg (fun e => q e.2)]
  · rw [h.avail]
    have := a2 c hc
    split <;> omega
theorem PickIn.lineOK (h : PickIn p s o l b n) {i j : Nat} (hi : i < s.os.n) (hj : j < (s.os.z i).ls.n) : wrongL (s.os.z i).k (((pickS s o l b n).os.z i).ls.z j) (Go.Proofs.Ytbcacebifpagpae.keptS (pickS s o l b n).hs.z i j (pickS s o l b n).hs.n) = false := by
  have w := h.hd.r.orders i hi
  unfold wrongOrder at w
  rw [Bool.or_eq_false_iff] at w
  have wl : wrongL (s.os.z i).k ((s.os.z i).ls.z j) (Go.Proofs.Ytbcacebifpagpae.keptS s.hs.z i j s.hs.n) = false := anyB_false w.2 j hj
  rw [h.hd.keptS, pickS_line]
  by_cases c : i = o ∧ j = l
  · rw [if_pos c, if_pos ⟨by omega, by omega⟩]
    obtain ⟨rfl, rfl⟩ := c
    have sm := h.hd.sum
    unfold wrongL
    rw [h.hd.kind, if_neg (by decide), if_neg (by decide), Bool.not_eq_false', beq_iff_eq]
    dsimp only
    omega
  · rw [if_neg c, if_neg (fun e => c ⟨by omega, by omega⟩), Int.sub_zero]
    exact wl
theorem PickIn.right (h : PickIn p s o l b n) (hg : gotAll (pickS s o l b n) o = false) : RightT p (pickS s o l b n) := by
  refine ⟨h.formed, fun g hg => goods_mk (h.goods g hg).1 (h.goods g hg).2, fun i hi => ?_⟩
  have w := h.hd.r.orders i hi
  unfold wrongOrder at w ⊢
  rw [Bool.or_eq_false_iff] at w ⊢
  rw [(pickS_k s o l b n i).1]
  refine ⟨?_, anyB_no fun j hj => h.lineOK hi (by rw [← (pickS_k s o l b n i).2]; exact hj)⟩
  by_cases c : i = o
  · subst c
    unfold gotAll at hg
    rw [hg, Bool.and_false]
  · rw [← w.1]
    congr 2
    rw [(pickS_k s o l b n i).2]
    refine anyB_congr fun j hj => ?_
    rw [pickS_line, if_neg (fun e => c e.1)]
end
end Go.Proofs.Ytbcacebifpagpae
namespace Go.Proofs.Ytbcacebifpagpae
open Go.RowKit
set_option linter.unusedVariables false
structure RelK (A B7 : Nat) (W0 : World) (cur : St) (wk : World) : Prop where
  own : OwnS A wk cur
  box : Blk wk B7 31 7 (fun j => cur.cells.getD j default)
  bel : Below W0.heap.size W0 wk
  le : A ≤ wk.heap.size
theorem RelK.below {A B7 : Nat} {W0 wk wj : World} {cur : St} (h : RelK A B7 W0 cur wk) (hB : Below wk.heap.size wk wj) : RelK A B7 W0 cur wj :=
  ⟨h.own.below hB, h.box.below hB, h.bel.trans (hB.mono h.bel.size), Nat.le_trans h.le hB.size⟩
end Go.Proofs.Ytbcacebifpagpae
namespace Go.Proofs.Ytbcacebifpagpae
open Go.RowKit
set_option linter.unusedVariables false
theorem OwnS.onCell {A : Nat} {w : World} {s : St} {b g : Nat} (h : OwnS A w s) (hb : b < s.on.n) (hg : g < (s.on.r b).n) : ∃ g0 G, s.on.a = some ⟨g0, 0, none⟩ ∧ g0 < w.heap.size ∧ w.cell? ⟨g0, b, none⟩ = some (.slice (some ⟨G, 0, none⟩) (s.on.r b).n (s.on.r b).c) ∧ (s.on.r b).a = some ⟨G, 0, none⟩ ∧ A ≤ G ∧ G < w.heap.size ∧ (s.on.r b).n ≤ (s.on.r b).c ∧ (s.on.r b).c ≤ maxLen ∧ w.cell? ⟨G, g, none⟩ = some (.int .i64 ((s.on.r b).z g)) ∧ (∀ j, w.frozen? ⟨G, j, none⟩ = false) ∧ s.on.n ≤ s.on.c ∧ s.on.c ≤ maxLen := by
  obtain ⟨g0, a1, a2, a3, a4, a5⟩ := h.on
  obtain ⟨G, b1, b2, b3, b4, b5⟩ := h.rows b hb
  have c := a5.cell (j := b) hb
  rw [b1] at c
  exact ⟨g0, G, a1, a5.lt, c, b1, b2, b5.lt, b3, b4, b5.cell hg, fun j => b5.frozen j, a3, a4⟩
theorem StepIn.same {p : Pl} {but : Int} {y y' : St} {i j : Nat} {n : Int} (h : StepIn p but y i j n) (e : SameT y' y) : StepIn p but y' i j n := by
  have ho : i < y'.os.n := by rw [e.os.1]; exact h.on
  have k := e.os.2 i ho
  refine ⟨e.right h.r, ho, by rw [k.2.1]; exact h.ln, h.n0, ?_, h.bt⟩
  rw [k.1, e.line h.on h.ln]
  exact h.kd
end Go.Proofs.Ytbcacebifpagpae
namespace Go.Proofs.Ytbcacebifpagpae
open Go.RowKit
set_option linter.unusedVariables false
abbrev BinX (p : Pl) (f : Bool) := { k : Nat // k < p.nb ∧ (p.zb k).front = f }
def frX (p : Pl) (f : Bool) : Nat → List (BinX p f)
  | 0 => []
  | k + 1 => frX p f k ++ (if h : k < p.nb ∧ (p.zb k).front = f then [⟨k, h⟩] else [])
theorem frX_hit {p : Pl} {f : Bool} {k : Nat} (h : k < p.nb ∧ (p.zb k).front = f) : frX p f (k + 1) = frX p f k ++ [⟨k, h⟩] := by
  simp only [frX]; rw [dif_pos h]
theorem frX_miss {p : Pl} {f : Bool} {k : Nat} (h : ¬ (p.zb k).front = f) : frX p f (k + 1) = frX p f k := by
  simp only [frX]; rw [dif_neg (fun e => h e.2), List.append_nil]
theorem frX_len (p : Pl) (f : Bool) (k : Nat) : (frX p f k).length ≤ k := by
  induction k with
  | zero => exact Nat.le_refl _
  | succ k ih =>
    by_cases h : k < p.nb ∧ (p.zb k).front = f
    · rw [frX_hit h, List.length_append]; simp; omega
    · simp only [frX]; rw [dif_neg h, List.append_nil]; omega
theorem frX_prefix (p : Pl) (f : Bool) {k m : Nat} (h : k ≤ m) : frX p f k <+: frX p f m := by
  induction m with
  | zero => rw [show k = 0 by omega]; exact List.prefix_refl _
  | succ m ih =>
    by_cases hk : k = m + 1
    · rw [hk]; exact List.prefix_refl _
    · exact (ih (by omega)).trans (List.prefix_append _ _)
def addMove (s : St) (m : Hd) : St := withMoves s ⟨s.ms.a, s.ms.n + 1, s.ms.c, fun i => if i = s.ms.n then m else s.ms.z i⟩
def fillN (p : Pl) (s : St) (b g f : Nat) : Int := min (min ((p.zb b).high - lyingZ s b g) (availZ s f g)) ((freeZ p s b).tdiv (p.zs g))
def fillOne (p : Pl) (b g f : Nat) (s : St) : St := if s.ms.n < 8 ∧ 1 ≤ fillN p s b g f then addMove s ⟨g, f, b, fillN p s b g f⟩ else s
def fillF (p : Pl) (b g : Nat) (L : List (BinX p false)) (s : St) : St := L.foldl (fun y f => fillOne p b g f.1 y) s
def fillG (p : Pl) (b : Nat) : Nat → St → St
  | 0, s => s
  | g + 1, s => if (p.zb b).low ≤ lyingZ (fillG p b g s) b g then fillG p b g s else fillF p b g (frX p false p.nb) (fillG p b g s)
def fillB (p : Pl) (L : List (BinX p true)) (s : St) : St := L.foldl (fun y b => fillG p b.1 p.ns y) s
def fillT (p : Pl) (s : St) : St := fillB p (frX p true p.nb) s
theorem fillF_snoc (p : Pl) (b g : Nat) (L : List (BinX p false)) (f : BinX p false) (s : St) : fillF p b g (L ++ [f]) s = fillOne p b g f.1 (fillF p b g L s) := by
  unfold fillF; rw [List.foldl_append]; rfl
theorem fillB_snoc (p : Pl) (L : List (BinX p true)) (b : BinX p true) (s : St) : fillB p (L ++ [b]) s = fillG p b.1 p.ns (fillB p L s) := by
  unfold fillB; rw [List.foldl_append]; rfl
theorem fillG_low {p : Pl} {b g : Nat} {s : St} (h : (p.zb b).low ≤ lyingZ (fillG p b g s) b g) : fillG p b (g + 1) s = fillG p b g s := by
  simp only [fillG]; rw [if_pos h]
theorem fillG_go {p : Pl} {b g : Nat} {s : St} (h : ¬ (p.zb b).low ≤ lyingZ (fillG p b g s) b g) : fillG p b (g + 1) s = fillF p b g (frX p false p.nb) (fillG p b g s) := by
  simp only [fillG]; rw [if_neg h]
theorem fillOne_full {p : Pl} {b g f : Nat} {s : St} (h : 8 ≤ s.ms.n) : fillOne p b g f s = s := if_neg (by omega)
theorem fillF_full {p : Pl} {b g : Nat} {s : St} (h : 8 ≤ s.ms.n) : ∀ L, fillF p b g L s = s
  | [] => rfl
  | f :: L => by
    have : fillF p b g (f :: L) s = fillF p b g L (fillOne p b g f.1 s) := rfl
    rw [this, fillOne_full h]
    exact fillF_full h L
theorem fillG_full {p : Pl} {b : Nat} {s : St} (h : 8 ≤ s.ms.n) : ∀ g, fillG p b g s = s
  | 0 => rfl
  | g + 1 => by
    have ih := fillG_full (p := p) (b := b) h g
    simp only [fillG]
    rw [ih, fillF_full h]
    split <;> rfl
theorem fillB_full {p : Pl} {s : St} (h : 8 ≤ s.ms.n) : ∀ L, fillB p L s = s
  | [] => rfl
  | b :: L => by
    have : fillB p (b :: L) s = fillB p L (fillG p b.1 p.ns s) := rfl
    rw [this, fillG_full h]
    exact fillB_full h L
theorem fillF_end {p : Pl} {b g : Nat} {s y : St} {L M : List (BinX p false)} (hL : L <+: M) (e : fillF p b g L s = y) (h : 8 ≤ y.ms.n) : fillF p b g M s = y := by
  obtain ⟨R, rfl⟩ := hL
  have : fillF p b g (L ++ R) s = fillF p b g R (fillF p b g L s) := List.foldl_append
  rw [this, e, fillF_full h]
theorem fillG_end {p : Pl} {b : Nat} {s y : St} {k : Nat} (e : fillG p b k s = y) (h : 8 ≤ y.ms.n) : ∀ {m : Nat}, k ≤ m → fillG p b m s = y
  | 0, hm => by rw [show k = 0 by omega] at e; exact e
  | m + 1, hm => by
    by_cases hk : k = m + 1
    · rw [← hk]; exact e
    · have ih := fillG_end e h (m := m) (by omega)
      simp only [fillG]
      rw [ih, fillF_full h]
      split <;> rfl
theorem fillB_end {p : Pl} {s y : St} {L M : List (BinX p true)} (hL : L <+: M) (e : fillB p L s = y) (h : 8 ≤ y.ms.n) : fillB p M s = y := by
  obtain ⟨R, rfl⟩ := hL
  have : fillB p (L ++ R) s = fillB p R (fillB p L s) := List.foldl_append
  rw [this, e, fillB_full h]
section
variable {p : Pl} {s y : St} {m : Hd} {b g f : Nat}
theorem addMove_at (s : St) (m : Hd) {j : Nat} (h : j < s.ms.n) : (addMove s m).ms.z j = s.ms.z j := if_neg (by omega)
theorem addMove_last (s : St) (m : Hd) : (addMove s m).ms.z s.ms.n = m := if_pos rfl
theorem addMove_from (s : St) (m : Hd) (b g : Int) : fromTo (addMove s m) b g (addMove s m).ms.n = fromTo s b g s.ms.n + if m.l = b ∧ m.o = g then m.n else 0 := by
  show fromTo (addMove s m) b g (s.ms.n + 1) = _
  simp only [fromTo]
  rw [addMove_last, fromTo_eq (x := addMove s m) (s := s) (k := s.ms.n) fun j hj => addMove_at s m hj]
theorem addMove_held (s : St) (m : Hd) (b g : Int) (k : Nat) : heldTo (addMove s m) b g k = heldTo s b g k := heldTo_eq (fun j hj => rfl) (fun j hj => rfl)
theorem addMove_avail (s : St) (m : Hd) (b g : Nat) : availZ (addMove s m) b g = availZ s b g - if m.l = (b : Int) ∧ m.o = (g : Int) then m.n else 0 := by
  unfold availZ
  rw [addMove_from]
  rw [show heldTo (addMove s m) b g (addMove s m).hs.n = heldTo s b g s.hs.n from addMove_held s m b g s.hs.n]
  rw [show ((addMove s m).on.r b).z g = (s.on.r b).z g from rfl]
  omega
theorem comingTo_eq {x s : St} {b g : Int} : ∀ {k : Nat}, (∀ j, j < k → x.ms.z j = s.ms.z j) → comingTo x b g k = comingTo s b g k
  | 0, _ => rfl
  | k + 1, h => by
    simp only [comingTo]
    rw [comingTo_eq (k := k) fun j hj => h j (by omega), h k (by omega)]
theorem addMove_lying (s : St) (m : Hd) (b g : Nat) : lyingZ (addMove s m) b g = lyingZ s b g + if m.b = (b : Int) ∧ m.o = (g : Int) then m.n else 0 := by
  unfold lyingZ
  have : comingTo (addMove s m) b g (addMove s m).ms.n = comingTo s b g s.ms.n + if m.b = (b : Int) ∧ m.o = (g : Int) then m.n else 0 := by
    show comingTo (addMove s m) b g (s.ms.n + 1) = _
    simp only [comingTo]
    rw [addMove_last, comingTo_eq (x := addMove s m) (s := s) (k := s.ms.n) fun j hj => addMove_at s m hj]
  rw [this, show ((addMove s m).on.r b).z g = (s.on.r b).z g from rfl, Int.add_assoc]
theorem addMove_free (p : Pl) (s : St) (m : Hd) (b : Nat) : freeZ p (addMove s m) b = freeZ p s b - if m.b = (b : Int) then m.n * p.zs m.o.toNat else 0 := by
  unfold freeZ
  have : takeTo p (addMove s m) b (addMove s m).ms.n = takeTo p s b s.ms.n + if m.b = (b : Int) then m.n * p.zs m.o.toNat else 0 := by
    show takeTo p (addMove s m) b (s.ms.n + 1) = _
    simp only [takeTo]
    rw [addMove_last, takeTo_eq (x := addMove s m) (s := s) (k := s.ms.n) fun j hj => addMove_at s m hj]
  rw [this, show (addMove s m).on = s.on from rfl]
  omega
theorem badMove_mk (h1 : 0 ≤ m.o ∧ m.o < p.ns) (h2 : 0 ≤ m.l ∧ m.l < p.nb) (h3 : 0 ≤ m.b ∧ m.b < p.nb) (h4 : ¬ m.l = m.b) (h5 : 1 ≤ m.n ∧ m.n ≤ 200) : badMove p m = false := by
  unfold badMove
  rw [inB_mk (by omega), inB_mk (by omega), inB_mk (by omega), inB_mk (by omega)]
  simpa using h4
theorem addMove_right (r : RightT p s) (hm : s.ms.n < 8) (hg : g < p.ns) (hf : f < p.nb) (hb : b < p.nb) (hne : ¬ f = b) {n : Int} (h1 : 1 ≤ n) (h2 : n ≤ 200) (h3 : n ≤ availZ s f g) : RightT p (addMove s ⟨g, f, b, n⟩) := by
  have F := r.fm
  refine ⟨⟨F.sh, F.sh0, F.os4, by show s.ms.n + 1 ≤ 8; omega, F.lns, F.kind, F.line, F.hold, F.home, fun i hi => ?_, F.sin, F.son, F.sfn, F.sib, F.sob, F.sfb⟩, fun j hj => ?_, r.orders⟩
  · have hi' : i < s.ms.n + 1 := hi
    by_cases h : i = s.ms.n
    · rw [h, addMove_last]
      refine badMove_mk ⟨?_, ?_⟩ ⟨?_, ?_⟩ ⟨?_, ?_⟩ ?_ ⟨h1, h2⟩ <;> simp <;> omega
    · rw [addMove_at s _ (by omega)]
      exact F.move i (by omega)
  · obtain ⟨a1, a2⟩ := goods_no (r.goods j hj)
    refine goods_mk a1 fun i hi => ?_
    rw [addMove_avail]
    have := a2 i hi
    by_cases h : (f : Int) = (i : Int) ∧ (g : Int) = (j : Int)
    · rw [if_pos h]
      have e1 : f = i := by omega
      have e2 : g = j := by omega
      subst e1 e2
      show 0 ≤ availZ s f g - n
      omega
    · rw [if_neg h]; omega
theorem addMove_same {x y : St} (h : SameT x y) (m : Hd) {k : Hs} (hn : k.n = x.ms.n + 1) (hz : ∀ j, j < x.ms.n → k.z j = x.ms.z j) (hl : k.z x.ms.n = m) : SameT (withMoves x k) (addMove y m) := by
  refine ⟨h.on, h.os, h.hs, ⟨?_, fun j hj => ?_⟩, h.si, h.so, h.sf⟩
  · show k.n = y.ms.n + 1
    rw [hn, h.ms.1]
  · have hj' : j < x.ms.n + 1 := by rw [← hn]; exact hj
    show k.z j = if j = y.ms.n then m else y.ms.z j
    rw [← h.ms.1]
    by_cases e : j = x.ms.n
    · rw [if_pos e, e]; exact hl
    · rw [if_neg e, hz j (by omega)]
      exact h.ms.2 j (by omega)
structure FillEnd (p : Pl) (s y : St) : Prop where
  r : RightT p y
  eq : y = withMoves s y.ms
  ge : s.ms.n ≤ y.ms.n
  pre : ∀ k, k < s.ms.n → y.ms.z k = s.ms.z k
  new : ∀ k, s.ms.n ≤ k → k < y.ms.n → ∃ b g f : Nat, (y.ms.z k).o = g ∧ (y.ms.z k).l = f ∧ (y.ms.z k).b = b ∧ f < p.nb ∧ b < p.nb ∧ g < p.ns ∧ (p.zb f).front = false ∧ (p.zb b).front = true ∧ lyingZ y b g ≤ (p.zb b).high
  free : ∀ b, b < p.nb → freeZ p y b ≤ freeZ p s b ∧ (freeZ p y b < 0 → freeZ p y b = freeZ p s b)
theorem FillEnd.refl (r : RightT p s) : FillEnd p s s := ⟨r, rfl, Nat.le_refl _, fun _ _ => rfl, fun k h1 h2 => absurd h2 (by omega), fun b hb => ⟨Int.le_refl _, fun _ => rfl⟩⟩
theorem tdiv_le {a z n : Int} (hz : 1 ≤ z) (hn : 1 ≤ n) (h : n ≤ a.tdiv z) : n * z ≤ a := by
  by_cases ha : 0 ≤ a
  · rw [Int.tdiv_eq_ediv_of_nonneg ha] at h
    exact Int.le_trans (Int.mul_le_mul_of_nonneg_right h (by omega)) (Int.ediv_mul_le a (by omega))
  · have h1 : a.tdiv z = - ((-a).tdiv z) := by rw [Int.neg_tdiv]; omega
    have h2 : 0 ≤ (-a).tdiv z := Int.tdiv_nonneg (by omega) (by omega)
    omega
theorem fillN_le (p : Pl) (s : St) (b g f : Nat) : fillN p s b g f ≤ (p.zb b).high - lyingZ s b g ∧ fillN p s b g f ≤ availZ s f g ∧ fillN p s b g f ≤ (freeZ p s b).tdiv (p.zs g) := by
  unfold fillN
  omega
theorem fillN_bd (r : RightT p s) (hg : g < p.ns) (hb : b < p.nb) : fillN p s b g f ≤ 200 := by
  have F := r.fm
  have h1 := (fillN_le p s b g f).1
  have h2 : 0 ≤ lyingZ s b g := by
    unfold lyingZ
    have := (F.sh.num b (by rw [F.sh.n]; exact hb) g hg).1
    have := (comingTo_bd (s := s) (b := b) (g := g) F.moveN).1
    omega
  have h3 := F.sh.pl.bins b hb
  rw [badBin_eq] at h3
  simp only [Bool.or_eq_false_iff, Bool.not_eq_false'] at h3
  have := inB_true h3.1.2
  omega
theorem FillEnd.step (h : FillEnd p s y) (hb : b < p.nb) (hbf : (p.zb b).front = true) (hg : g < p.ns) (hf : f < p.nb) (hff : (p.zb f).front = false) : FillEnd p s (fillOne p b g f y) := by
  unfold fillOne
  by_cases c : y.ms.n < 8 ∧ 1 ≤ fillN p y b g f
  · rw [if_pos c]
    have le := fillN_le p y b g f
    have hne : ¬ f = b := fun e => by rw [e, hbf] at hff; cases hff
    have bd := fillN_bd (f := f) h.r hg hb
    obtain ⟨c1, c2⟩ := c
    generalize fillN p y b g f = n at *
    refine ⟨addMove_right h.r c1 hg hf hb hne c2 bd le.2.1, ?_, by show s.ms.n ≤ y.ms.n + 1; have := h.ge; omega, fun k hk => ?_, fun k k1 k2 => ?_, fun c hc => ?_⟩
    · rw [addMove]; conv => lhs; rw [h.eq]
      rfl
    · rw [addMove_at y _ (by have := h.ge; omega)]; exact h.pre k hk
    · have k2' : k < y.ms.n + 1 := k2
      by_cases e : k = y.ms.n
      · rw [e, addMove_last]
        refine ⟨b, g, f, rfl, rfl, rfl, hf, hb, hg, hff, hbf, ?_⟩
        rw [addMove_lying, if_pos ⟨rfl, rfl⟩]
        have := le.1
        show lyingZ y b g + n ≤ _
        omega
      · rw [addMove_at y _ (by omega)]
        obtain ⟨b', g', f', q1, q2, q3, q4, q5, q6, q7, q8, q9⟩ := h.new k k1 (by omega)
        refine ⟨b', g', f', q1, q2, q3, q4, q5, q6, q7, q8, ?_⟩
        rw [addMove_lying]
        by_cases e2 : (b : Int) = (b' : Int) ∧ (g : Int) = (g' : Int)
        · rw [if_pos e2]
          have e3 : b = b' := by omega
          have e4 : g = g' := by omega
          subst e3 e4
          have := le.1
          show lyingZ y b g + n ≤ _
          omega
        · rw [if_neg e2]; omega
    · rw [addMove_free]
      obtain ⟨u1, u2⟩ := h.free c hc
      by_cases e : (b : Int) = (c : Int)
      · rw [if_pos e]
        have e3 : b = c := by omega
        subst e3
        have hz := (h.r.fm.sh.pl.sizes g hg).1
        have := tdiv_le hz c2 le.2.2
        have h0 : 0 ≤ n * p.zs g := Int.mul_nonneg (by omega) (by omega)
        show freeZ p y b - n * p.zs (g : Int).toNat ≤ _ ∧ (freeZ p y b - n * p.zs (g : Int).toNat < 0 → _)
        rw [Int.toNat_natCast]
        omega
      · rw [if_neg e, Int.sub_zero]; exact ⟨u1, u2⟩
  · rw [if_neg c]; exact h
theorem FillEnd.F (h : FillEnd p s y) (hb : b < p.nb) (hbf : (p.zb b).front = true) (hg : g < p.ns) : ∀ (L : List (BinX p false)), FillEnd p s (fillF p b g L y) := by
  intro L
  induction L generalizing y with
  | nil => exact h
  | cons f L ih => exact ih (h.step hb hbf hg f.2.1 f.2.2)
theorem FillEnd.G (h : FillEnd p s y) (hb : b < p.nb) (hbf : (p.zb b).front = true) : ∀ {g : Nat}, g ≤ p.ns → FillEnd p s (fillG p b g y)
  | 0, _ => h
  | g + 1, hg => by
    have ih := FillEnd.G h hb hbf (g := g) (by omega)
    simp only [fillG]
    split
    · exact ih
    · exact ih.F hb hbf (by omega) _
theorem FillEnd.B (h : FillEnd p s y) : ∀ (L : List (BinX p true)), FillEnd p s (fillB p L y) := by
  intro L
  induction L generalizing y with
  | nil => exact h
  | cons b L ih => exact ih (h.G b.2.1 b.2.2 (Nat.le_refl _))
theorem fill_ends (r : RightT p s) : FillEnd p s (fillT p s) := (FillEnd.refl r).B _
end
theorem SameT.lying {x t : St} {p : Pl} (h : SameT x t) (f : Formed p t) {b g : Nat} (hb : b < p.nb) (hg : g < p.ns) : lyingZ x b g = lyingZ t b g := by
  unfold lyingZ
  rw [h.num f hb hg, h.ms.1, comingTo_eq (x := x) (s := t) fun j hj => h.ms.2 j (by rw [h.ms.1]; exact hj)]
theorem fillN_same {p : Pl} {x t : St} (h : SameT x t) (F : Formed p t) {b g f : Nat} (hb : b < p.nb) (hg : g < p.ns) (hf : f < p.nb) : fillN p x b g f = fillN p t b g f := by
  unfold fillN
  rw [h.lying F hb hg, h.avail F hf hg, h.free F hb]
end Go.Proofs.Ytbcacebifpagpae
namespace Go.Proofs.Ytbcacebifpagpae
open Go.RowKit
set_option linter.unusedVariables false
def delM (h : Hs) (k : Nat) : Hs := ⟨h.a, h.n - 1, h.c, fun i => if i < k then h.z i else h.z (i + 1)⟩
def movedE (p : Pl) (s : St) (k n : Int) : Int :=
  if stateE p s = 0 then (if inB k 0 ((s.ms.n : Int) - 1) then (if inB n 0 (s.ms.z k.toNat).n then (if 200 < (s.on.r (s.ms.z k.toNat).b.toNat).z (s.ms.z k.toNat).o.toNat + n then 2 else 0) else 3) else 4) else stateE p s
def movedW (s : St) (h : Hs) (f b g : Nat) (n : Int) : St := setOn (setOn (withMoves s h) f g ((s.on.r f).z g - n)) b g ((s.on.r b).z g + n)
def movedT (s : St) (k : Nat) (n : Int) : St := movedW s (delM s.ms k) (s.ms.z k).l.toNat (s.ms.z k).b.toNat (s.ms.z k).o.toNat n
section
variable {p : Pl} {s x : St} {k : Nat} {n : Int}
theorem movedE_state {k : Int} (h : ¬ stateE p s = 0) : movedE p s k n = stateE p s := by unfold movedE; rw [if_neg h]
theorem movedE_none {k : Int} (h : stateE p s = 0) (h1 : inB k 0 ((s.ms.n : Int) - 1) = false) : movedE p s k n = 4 := by unfold movedE; rw [if_pos h, h1]; rfl
theorem movedE_range {k : Int} (h : stateE p s = 0) (h1 : inB k 0 ((s.ms.n : Int) - 1) = true) (h2 : inB n 0 (s.ms.z k.toNat).n = false) : movedE p s k n = 3 := by unfold movedE; rw [if_pos h, h1, h2]; rfl
theorem movedE_many {k : Int} (h : stateE p s = 0) (h1 : inB k 0 ((s.ms.n : Int) - 1) = true) (h2 : inB n 0 (s.ms.z k.toNat).n = true) (h3 : 200 < (s.on.r (s.ms.z k.toNat).b.toNat).z (s.ms.z k.toNat).o.toNat + n) : movedE p s k n = 2 := by unfold movedE; rw [if_pos h, h1, h2, if_pos h3]; rfl
theorem movedE_ok {k : Int} (h : stateE p s = 0) (h1 : inB k 0 ((s.ms.n : Int) - 1) = true) (h2 : inB n 0 (s.ms.z k.toNat).n = true) (h3 : ¬ 200 < (s.on.r (s.ms.z k.toNat).b.toNat).z (s.ms.z k.toNat).o.toNat + n) : movedE p s k n = 0 := by unfold movedE; rw [if_pos h, h1, h2, if_neg h3]; rfl
structure MovedIn (p : Pl) (s : St) (k f b g : Nat) (N n : Int) : Prop where
  r : RightT p s
  kn : k < s.ms.n
  m : s.ms.z k = ⟨g, f, b, N⟩
  fn : f < p.nb
  bn : b < p.nb
  gn : g < p.ns
  ne : ¬ f = b
  n0 : 0 ≤ n
  nN : n ≤ N
  N1 : 1 ≤ N
  N2 : N ≤ 200
  to : (s.on.r b).z g + n ≤ 200
theorem movedIn {k : Int} (h : movedE p s k n = 0) : stateE p s = 0 ∧ ∃ (i f b g : Nat) (N : Int), k = i ∧ MovedIn p s i f b g N n := by
  by_cases h0 : stateE p s = 0
  · refine ⟨h0, ?_⟩
    cases h1 : inB k 0 ((s.ms.n : Int) - 1)
    · rw [movedE_none h0 h1] at h; cases h
    · cases h2 : inB n 0 (s.ms.z k.toNat).n
      · rw [movedE_range h0 h1 h2] at h; cases h
      · by_cases h3 : 200 < (s.on.r (s.ms.z k.toNat).b.toNat).z (s.ms.z k.toNat).o.toNat + n
        · rw [movedE_many h0 h1 h2 h3] at h; cases h
        · have r := rightT h0
          have q1 := inB_true h1
          have q2 := inB_true h2
          have hk : k.toNat < s.ms.n := by omega
          obtain ⟨u1, u2, u3, u4, u5, u6⟩ := badMove_no (r.fm.move k.toNat hk)
          refine ⟨k.toNat, (s.ms.z k.toNat).l.toNat, (s.ms.z k.toNat).b.toNat, (s.ms.z k.toNat).o.toNat, (s.ms.z k.toNat).n, by omega, r, hk, ?_, by omega, by omega, by omega, by omega, q2.1, q2.2, u5, u6, by omega⟩
          rw [Int.toNat_of_nonneg u1.1, Int.toNat_of_nonneg u2.1, Int.toNat_of_nonneg u3.1]
  · rw [movedE_state h0] at h; exact absurd h h0
end
section
variable {p : Pl} {s x : St} {k f b g : Nat} {N n : Int}
theorem MovedIn.T (h : MovedIn p s k f b g N n) : movedT s k n = movedW s (delM s.ms k) f b g n := by
  unfold movedT
  rw [h.m]
  simp only [Int.toNat_natCast]
theorem setOn_num (s : St) (b g : Nat) (v : Int) (i j : Nat) : ((setOn s b g v).on.r i).z j = if i = b ∧ j = g then v else (s.on.r i).z j := by
  show (if i = b then setRw (s.on.r i) g v else s.on.r i).z j = _
  by_cases hi : i = b
  · rw [if_pos hi]
    show (if j = g then v else (s.on.r i).z j) = _
    by_cases hj : j = g
    · rw [if_pos hj, if_pos ⟨hi, hj⟩]
    · rw [if_neg hj, if_neg (fun e => hj e.2)]
  · rw [if_neg hi, if_neg (fun e => hi e.1)]
theorem setOn_len (s : St) (b g : Nat) (v : Int) (i : Nat) : ((setOn s b g v).on.r i).n = (s.on.r i).n := by
  show (if i = b then setRw (s.on.r i) g v else s.on.r i).n = _
  by_cases hi : i = b
  · rw [if_pos hi]; rfl
  · rw [if_neg hi]
theorem moved_num (h : MovedIn p s k f b g N n) (i j : Nat) : ((movedT s k n).on.r i).z j = (s.on.r i).z j + if j = g then (if i = b then n else if i = f then -n else 0) else 0 := by
  have hne := h.ne
  rw [h.T, movedW, setOn_num, setOn_num, show (withMoves s (delM s.ms k)).on = s.on from rfl]
  by_cases hj : j = g
  · subst hj
    by_cases hb : i = b
    · subst hb; simp
    · by_cases hf : i = f
      · subst hf; simp [hb]; omega
      · simp [hb, hf]
  · simp [hj]
theorem moved_len (h : MovedIn p s k f b g N n) (i : Nat) : ((movedT s k n).on.r i).n = (s.on.r i).n := by
  rw [h.T, movedW, setOn_len, setOn_len]; rfl
theorem moved_ms (h : MovedIn p s k f b g N n) : (movedT s k n).ms = delM s.ms k := rfl
theorem del_from {b g : Int} {x s : St} (hz : ∀ i, x.ms.z i = if i < k then s.ms.z i else s.ms.z (i + 1)) : ∀ m, (m ≤ k → fromTo x b g m = fromTo s b g m) ∧ (k ≤ m → fromTo x b g m + (if (s.ms.z k).l = b ∧ (s.ms.z k).o = g then (s.ms.z k).n else 0) = fromTo s b g (m + 1))
  | 0 => ⟨fun _ => rfl, fun h => by
    rw [show k = 0 by omega]
    simp [fromTo]⟩
  | m + 1 => by
    obtain ⟨h1, h2⟩ := del_from (b := b) (g := g) hz m
    refine ⟨fun h => ?_, fun h => ?_⟩
    · have e0 : x.ms.z m = s.ms.z m := by rw [hz m]; exact if_pos (by omega)
      simp only [fromTo]
      rw [h1 (by omega), e0]
    · by_cases e : k = m + 1
      · have : fromTo x b g (m + 1) = fromTo s b g (m + 1) := by
          have e0 : x.ms.z m = s.ms.z m := by rw [hz m]; exact if_pos (by omega)
          simp only [fromTo]
          rw [h1 (by omega), e0]
        rw [this, e]
        simp only [fromTo]
      · have a := h2 (by omega)
        have e1 : fromTo x b g (m + 1) = fromTo x b g m + (if (s.ms.z (m + 1)).l = b ∧ (s.ms.z (m + 1)).o = g then (s.ms.z (m + 1)).n else 0) := by
          have e0 : x.ms.z m = s.ms.z (m + 1) := by rw [hz m]; exact if_neg (by omega)
          simp only [fromTo]
          rw [e0]
        have e2 : fromTo s b g (m + 1 + 1) = fromTo s b g (m + 1) + (if (s.ms.z (m + 1)).l = b ∧ (s.ms.z (m + 1)).o = g then (s.ms.z (m + 1)).n else 0) := rfl
        rw [e1, e2, ← a]
        omega
theorem moved_from (h : MovedIn p s k f b g N n) (c j : Nat) : fromTo (movedT s k n) c j (movedT s k n).ms.n + (if f = c ∧ g = j then N else 0) = fromTo s c j s.ms.n := by
  have hk := h.kn
  have := (del_from (b := (c : Int)) (g := (j : Int)) (x := movedT s k n) (s := s) (k := k) (fun i => by rw [moved_ms h]; rfl) (s.ms.n - 1)).2 (by omega)
  rw [show s.ms.n - 1 + 1 = s.ms.n by omega, h.m] at this
  rw [moved_ms h]
  show fromTo (movedT s k n) c j (s.ms.n - 1) + _ = _
  rw [← this]
  congr 1
  by_cases e : f = c ∧ g = j
  · rw [if_pos e, if_pos (by simp [e.1, e.2])]
  · rw [if_neg e, if_neg (by simp; omega)]
theorem moved_held (h : MovedIn p s k f b g N n) (c j : Int) : heldTo (movedT s k n) c j (movedT s k n).hs.n = heldTo s c j s.hs.n := heldTo_eq (x := movedT s k n) (s := s) (fun _ _ => rfl) (fun _ _ => rfl)
theorem moved_avail (h : MovedIn p s k f b g N n) (c j : Nat) : availZ (movedT s k n) c j = availZ s c j + if j = g then (if c = b then n else if c = f then N - n else 0) else 0 := by
  unfold availZ
  have a := moved_from h c j
  have hne := h.ne
  rw [moved_held h, moved_num h, ← a]
  by_cases hj : j = g
  · subst hj
    by_cases hb : c = b
    · subst hb; simp [hne]; omega
    · by_cases hf : c = f
      · subst hf; simp [hb]; omega
      · have hf' : ¬ f = c := fun e => hf e.symm
        simp [hb, hf, hf']
  · have hj' : ¬ g = j := fun e => hj e.symm
    simp [hj, hj']
theorem fromTo_ge {s : St} {b g : Int} : ∀ {m : Nat}, (∀ j, j < m → 1 ≤ (s.ms.z j).n ∧ (s.ms.z j).n ≤ 200) → ∀ {k : Nat}, k < m → (s.ms.z k).l = b → (s.ms.z k).o = g → (s.ms.z k).n ≤ fromTo s b g m
  | m + 1, h, k, hk, h1, h2 => by
    have bd := (fromTo_bd (s := s) (b := b) (g := g) (n := m) fun j hj => h j (by omega)).1
    by_cases e : k = m
    · subst e
      rw [fromTo_hit h1 h2]
      omega
    · have ih := fromTo_ge (b := b) (g := g) (m := m) (fun j hj => h j (by omega)) (k := k) (by omega) h1 h2
      have := (h m (by omega)).1
      simp only [fromTo]
      split <;> omega
theorem moved_right (h : MovedIn p s k f b g N n) : RightT p (movedT s k n) := by
  have r := h.r
  have F := r.fm
  have hf := h.fn
  have hb := h.bn
  have hg := h.gn
  have n0 := h.n0
  have nN := h.nN
  have to := h.to
  have hne := h.ne
  have on : N ≤ (s.on.r f).z g := by
    have a := (goods_no (r.goods g hg)).2 f hf
    have b1 := (heldTo_bd (s := s) (b := f) (g := g) F.holdN).1
    have c := fromTo_ge (s := s) (b := f) (g := g) F.moveN h.kn (by rw [h.m]) (by rw [h.m])
    rw [h.m] at c
    unfold availZ at a
    have c' : N ≤ fromTo s f g s.ms.n := c
    omega
  have hs : RightS p (movedT s k n).on := by
    refine ⟨F.sh.pl, F.sh.n, fun i hi => by rw [moved_len h]; exact F.sh.len i hi, fun i hi j hj => ?_⟩
    have q := F.sh.num i hi j hj
    rw [moved_num h]
    by_cases ej : j = g
    · subst ej
      by_cases eb : i = b
      · subst eb; simp; omega
      · by_cases ef : i = f
        · subst ef; simp [eb]; omega
        · simp [eb, ef]; omega
    · simp [ej]; omega
  refine ⟨⟨hs, shelfE_mk (rightS F.sh0).1 hs, F.os4, by show s.ms.n - 1 ≤ 8; have := F.ms8; omega, F.lns, F.kind, F.line, F.hold, F.home, fun i hi => ?_, F.sin, F.son, F.sfn, F.sib, F.sob, F.sfb⟩, fun j hj => ?_, r.orders⟩
  · have hi' : i < s.ms.n - 1 := hi
    rw [moved_ms h]
    show badMove p (if i < k then s.ms.z i else s.ms.z (i + 1)) = false
    split
    · exact F.move i (by omega)
    · exact F.move (i + 1) (by omega)
  · obtain ⟨a1, a2⟩ := goods_no (r.goods j hj)
    refine goods_mk ?_ fun i hi => ?_
    · show sumTo (fun i => ((movedT s k n).on.r i).z j) s.on.n = s.si.z j - s.so.z j + s.sf.z j
      rw [← a1]
      by_cases ej : j = g
      · have e1 := sumTo_at (z := fun i => (s.on.r i).z j) (z' := fun i => (s.on.r i).z j + if i = f then -n else 0) (m := f) (n := -n) (k := s.on.n) (by rw [F.sh.n]; exact hf) fun i _ => rfl
        have e2 := sumTo_at (z := fun i => (s.on.r i).z j + if i = f then -n else 0) (z' := fun i => ((movedT s k n).on.r i).z j) (m := b) (n := n) (k := s.on.n) (by rw [F.sh.n]; exact hb) fun i _ => by
          rw [moved_num h, if_pos ej]
          by_cases eb : i = b
          · have hne' : ¬ i = f := by omega
            simp [eb] <;> omega
          · simp [eb]
        omega
      · exact sumTo_congr fun i _ => by rw [moved_num h, if_neg ej, Int.add_zero]
    · rw [moved_avail h]
      have := a2 i hi
      by_cases ej : j = g
      · rw [if_pos ej]
        split
        · omega
        · split <;> omega
      · rw [if_neg ej]; omega
theorem moved_bound {k n : Int} (h : movedE p s k n = 0) : (movedT s k.toNat n).os.n ≤ 1000 ∧ (movedT s k.toNat n).ms.n ≤ 1000 ∧ ∀ i, i < (movedT s k.toNat n).os.n → ((movedT s k.toNat n).os.z i).ls.n ≤ 1000 := by
  obtain ⟨-, i, f, b, g, N, rfl, hi⟩ := movedIn h
  have F := (moved_right hi).fm
  rw [Int.toNat_natCast]
  exact ⟨by have := F.os4; omega, by have := F.ms8; omega, fun j hj => by have := (F.lns j hj).2; omega⟩
theorem withMoves_same {x t : St} (h : SameT x t) {k k' : Hs} (hn : k.n = k'.n) (hz : ∀ j, j < k.n → k.z j = k'.z j) : SameT (withMoves x k) (withMoves t k') := ⟨h.on, h.os, h.hs, ⟨hn, hz⟩, h.si, h.so, h.sf⟩
theorem movedW_same (h : MovedIn p s k f b g N n) (e : SameT x s) {q : Hs} (hn : q.n = s.ms.n - 1) (hz : ∀ j, j < q.n → q.z j = (delM s.ms k).z j) : SameT (movedW x q f b g n) (movedT s k n) := by
  rw [h.T]
  unfold movedW
  rw [e.num h.r.fm h.fn h.gn, e.num h.r.fm h.bn h.gn]
  exact setOn_same (setOn_same (withMoves_same e hn hz) _ _ _) _ _ _
end
end Go.Proofs.Ytbcacebifpagpae
namespace Go.Proofs.Ytbcacebifpagpae
open Go.RowKit
set_option linter.unusedVariables false
def vKind3 (o : Oper) : Bool := vKind2 o || match o.op with
  | .extract .. => true
  | .build .. => true
  | .field .. => true
  | .index .. => true
  | .unOp .. => true
  | _ => false
theorem vKind3_spec {P : Program} {o : Oper} {ρ : Operand → Value} {w w' : World} {n : Next} (hv : vKind3 o = true) (h : (execOp ρ o).run P w = .ok n w') : ∃ v, n = .value v := by
  unfold vKind3 at hv
  rw [Bool.or_eq_true] at hv
  rcases hv with hv | hv
  · exact vKind2_spec hv h
  · unfold execOp at h
    split at hv
    all_goals first
      | (cases hv; done)
      | (rename_i hx; rw [hx] at h; exact valued h)
theorem wpAnyT_firsts3 {P : Program} {l : List Oper} {Q : Exit → Act → World → Prop} {S : World → Prop} {T : Nat → Bool} {N : Nat} {K : Act → Prop} {w : World} {fuel : Nat} (hs : Region.noSelect l.toArray = true) (hS : S w) (hQ : ∀ c a a' w, Q (.panic c) a w → Q (.panic c) a' w) :
    ∀ (ks : List Nat) (os : List Oper) (listed : Array Bool) (a : Act), firstsB l.toArray ks listed = true → (∀ k ∈ ks, T k = false ∧ ∀ j, T j = true → reach l.toArray N j k = true) → Closed l.toArray listed → ks.map (fun k => l[k]?) = os.map some → (os.all vKind3) = true →
      wpQuiet P l.toArray S K os a → (∀ a, K a → Closed l.toArray (mark listed ks) → wpAnyT P l.toArray Q S T fuel (mark listed ks) a w) → wpAnyT P l.toArray Q S T (ks.length + fuel) listed a w
  | [], [], listed, a, _, _, hc, _, _, h, hK => by rw [List.length_nil, Nat.zero_add]; exact hK a h hc
  | k :: ks, o :: os, listed, a, hB, hTk, hc, hk, hv, h, hK => by
    simp only [List.map_cons, List.cons.injEq] at hk
    simp only [List.all_cons, Bool.and_eq_true] at hv
    simp only [firstsB, Bool.and_eq_true] at hB
    rw [List.length_cons, Nat.add_right_comm]
    have hready : k ∈ Region.ready .any l.toArray listed := by simpa using hB.1.1
    have go : ∀ v, YieldsIf P l.toArray S o v a → wpAnyT P l.toArray Q S T (ks.length + fuel) (listed.setIfInBounds k true) (a.put o.dst v) w → wpAnyT P l.toArray Q S T (ks.length + fuel + 1) listed a w :=
      fun v hy h' => wpAnyT_first (N := N) (by simpa using hk.1) (Region.noSelect_spec hs) (fun c a w hq => hQ _ _ _ _ hq) (hTk k (by simp)).2 (hTk k (by simp)).1 _ listed a w (Region.free_spec (by simpa using hk.1) hB.1.2) hready hc hy hS h'
    have again := fun (a : Act) (hq : wpQuiet P l.toArray S K os a) => wpAnyT_firsts3 (N := N) (T := T) (fuel := fuel) hs hS hQ ks os _ a hB.2 (fun k' hk' => hTk k' (by simp [hk'])) (hc.set hready) hk.2 hv.2 hq hK
    unfold wpQuiet at h
    split at h
    · rename_i hw
      obtain ⟨v, h1, h2⟩ := h
      refine go v (.inl ⟨hw, fun w' hS => ?_⟩) (again _ h2)
      have := h1 w' hS
      unfold Oper.quietAt at this
      cases hr : (execOp a.eval o).run P w' with
      | ok n w2 =>
        rw [hr] at this
        obtain ⟨u, rfl⟩ := vKind3_spec hv.1 hr
        simp only [Oper.quietUpon] at this
        rw [this.1, this.2]
      | halt x w2 => rw [hr] at this; exact this.elim
    · rename_i hw
      exact go undef (.inr ⟨by simpa using hw, rfl⟩) (again _ h)
  | [], _ :: _, _, _, _, _, _, hk, _, _, _ => by simp at hk
  | _ :: _, [], _, _, _, _, _, hk, _, _, _ => by simp at hk
def laterOf (n : Nat) (listed : Array Bool) : List Nat := (List.range n).filter (fun i => !listed.getD i true)
def phB (ops : Array Oper) : List (Bool × List Nat × Option Nat) → Array Bool → Bool
  | [], listed => Region.ready .any ops listed == []
  | (t, ks, c) :: r, listed => firstsB ops ks listed && ks.all (fun k => decide (k < ops.size)) && ks.all (fun k => !(laterOf ops.size (mark listed ks)).contains k) && (!t || ks.all (fun k => (laterOf ops.size (mark listed ks)).all (fun j => reach ops ops.size j k))) &&
      (match c with | some c => (Region.ready .any ops (mark listed ks) == [c]) && phB ops r ((mark listed ks).setIfInBounds c true) | none => phB ops r (mark listed ks))
def phN : List (Bool × List Nat × Option Nat) → Nat
  | [] => 0
  | (_, ks, some _) :: r => ks.length + (phN r + 1)
  | (_, ks, none) :: r => ks.length + phN r
def wpPh (P : Program) (l : List Oper) (Q : Exit → Act → World → Prop) : List (Bool × List Nat × Option Nat) → Act → World → Prop
  | [], a, w => Q .normal a w
  | (t, ks, some c) :: r, a, w => ∃ S : World → Prop, S w ∧ (t = false → ∀ w', S w') ∧ wpQuiet P l.toArray S (fun a1 => wpOp P l.toArray Q c (fun a2 w2 => wpPh P l Q r a2 w2) a1 w) (picks l ks) a
  | (t, ks, none) :: r, a, w => ∃ S : World → Prop, S w ∧ (t = false → ∀ w', S w') ∧ wpQuiet P l.toArray S (fun a1 => wpPh P l Q r a1 w) (picks l ks) a
theorem wpAnyT_of_any {P : Program} {ops : Array Oper} {Q : Exit → Act → World → Prop} {S : World → Prop} {T : Nat → Bool} : ∀ (fuel : Nat) (listed : Array Bool) (a : Act) (w : World), (∀ i, listed.getD i true = false → i < ops.size → T i = true ∨ ∀ w, S w) → wpAny P .any ops Q fuel listed a w → wpAnyT P ops Q S T fuel listed a w
  | 0, _, _, _, _, h => h
  | fuel + 1, listed, a, w, hT, h => ⟨h.1, fun i hi => wpOp_mono (fun a' w' h' => ⟨fun hTi => by
      obtain ⟨h1, o, h2, _⟩ := mem_ready.1 hi
      rcases hT i h1 (Array.getElem?_eq_some_iff.1 h2).1 with e | e
      · rw [e] at hTi; cases hTi
      · exact e w', wpAnyT_of_any fuel _ a' w' (fun j hj hjs => hT j (by
      by_cases e : i = j
      · subst e
        exact (mem_ready.1 hi).1
      · rw [getD_set_ne true e] at hj; exact hj) hjs) h'⟩) (h.2 i hi)⟩
theorem wpAny_ph {P : Program} {l : List Oper} {Q : Exit → Act → World → Prop} (hs : Region.noSelect l.toArray = true) (hQ : ∀ c a a' w, Q (.panic c) a w → Q (.panic c) a' w) : ∀ (ph : List (Bool × List Nat × Option Nat)) (listed : Array Bool) (a : Act) (w : World),
      phB l.toArray ph listed = true → (ph.all (fun x => (picks l x.2.1).all vKind3)) = true → Closed l.toArray listed → wpPh P l Q ph a w → wpAny P .any l.toArray Q (phN ph) listed a w
  | [], listed, a, w, hB, _, _, h => ⟨by simpa [phB] using hB, h⟩
  | (t, ks, c) :: r, listed, a, w, hB, hv, hcl, h => by
    simp only [phB, Bool.and_eq_true] at hB
    obtain ⟨⟨⟨⟨b1, b2⟩, b3⟩, b4⟩, b5⟩ := hB
    simp only [List.all_cons, Bool.and_eq_true] at hv
    have key := fun (S : World → Prop) (K : Act → Prop) (f : Nat) (hS : S w) (hST : t = false → ∀ w', S w') (hq : wpQuiet P l.toArray S K (picks l ks) a) (hK : ∀ a1, K a1 → Closed l.toArray (mark listed ks) → wpAny P .any l.toArray Q f (mark listed ks) a1 w) => wpAny_of_T _ _ _ _ (wpAnyT_firsts3 (P := P) (Q := Q) (S := S) (T := fun i => t && (laterOf l.toArray.size (mark listed ks)).contains i) (N := l.toArray.size) (fuel := f) (w := w) hs hS hQ ks (picks l ks) listed a b1
      (fun k hk => ⟨by
        have := List.all_eq_true.1 b3 k hk
        rw [Bool.not_eq_true'] at this
        rw [this, Bool.and_false], fun j hj => by
        rw [Bool.and_eq_true] at hj
        have b4' := b4
        rw [hj.1] at b4'
        simp only [Bool.not_true, Bool.false_or] at b4'
        exact List.all_eq_true.1 (List.all_eq_true.1 b4' k hk) j (by simpa using hj.2)⟩)
      hcl (picks_ok (by simpa using b2)) hv.1 hq (fun a1 h1 hcl1 => by
        refine wpAnyT_of_any _ _ _ _ (fun i hi his => ?_) (hK a1 h1 hcl1)
        cases t with
        | false => exact Or.inr (hST rfl)
        | true =>
          left
          have : i ∈ laterOf l.toArray.size (mark listed ks) := by
            unfold laterOf
            rw [List.mem_filter, List.mem_range]
            exact ⟨his, by rw [hi]; rfl⟩
          simpa using this))
    cases c with
    | none =>
      obtain ⟨S, hS, hST, hq⟩ := h
      exact key S _ (phN r) hS hST hq fun a1 h1 hcl1 => wpAny_ph hs hQ r _ a1 w b5 hv.2 hcl1 h1
    | some c =>
      obtain ⟨S, hS, hST, hq⟩ := h
      simp only [Bool.and_eq_true] at b5
      have hready : Region.ready .any l.toArray (mark listed ks) = [c] := by simpa using b5.1
      refine key S _ (phN r + 1) hS hST hq fun a1 h1 hcl1 => ?_
      refine ⟨fun e => (by rw [hready] at e; cases e), fun i hi => ?_⟩
      have hic : i = c := by rw [hready] at hi; simpa using hi
      subst hic
      exact wpOp_mono (fun a2 w2 h2 => wpAny_ph hs hQ r _ a2 w2 b5.2 hv.2 (hcl1.set hi) h2) h1
theorem wp_region_ph {P : Program} {l : List Oper} {Q : Exit → Act → World → Prop} {id : Nat} {a : Act} {w : World} (ph : List (Bool × List Nat × Option Nat))
    (hm : P.follows .mixedOrders = true) (hs : Region.noSelect l.toArray = true) (hB : phB l.toArray ph (Array.replicate l.length false) = true) (hv : (ph.all (fun x => (picks l x.2.1).all vKind3)) = true) (hl : phN ph = l.length)
    (h : wpPh P l (NoPanic Q) ph a w.drew) : (Code.region id l.toArray true).wp P Q a w := by
  refine wp_region_noPanic (wp_region_any hm ?_)
  have := wpAny_ph (Q := NoPanic Q) hs (fun c a a' w h => (h : False).elim) ph _ a w.drew hB hv (Closed.none _ _) h
  rw [hl] at this
  simpa using this
theorem wpOp_one {P : Program} {l : List Oper} {Q : Exit → Act → World → Prop} {K : Act → World → Prop} (k : Nat) {o : Oper} {a : Act} {w : World} (hk : l[k]? = some o)
    (h : wpList P l.toArray (Exit.then K Q) [o] a w) : wpOp P l.toArray Q k K a w := wpOp_list k hk h
end Go.Proofs.Ytbcacebifpagpae
namespace Go.Proofs.Ytbcacebifpagpae
open Go.RowKit
set_option linter.unusedVariables false
def CellsKept (A B : World) : Prop := A.heap.size ≤ B.heap.size ∧ ∀ (g : Nat) (cur : Array Value) (e : TypeId) (z : Nat × Nat), A.heap[g]? = some (.cells cur e z) → B.heap[g]? = A.heap[g]?
theorem CellsKept.of {A B : World} {row : Option Nat} (hg : A.grownBy B row) (hr : ∀ r, row = some r → ∃ o : Obj, A.heap[r]? = some o ∧ o.isCells = false) : CellsKept A B :=
  ⟨hg.size, fun g cur e z h => hg.block g (Array.getElem?_eq_some_iff.1 h).1 (fun k => by
    obtain ⟨o, ho, hc⟩ := hr g k.symm
    rw [h] at ho
    cases ho
    cases hc)⟩
theorem Blk.ck {A B : World} {g : Nat} {e : TypeId} {n : Nat} {f : Nat → Value} (h : Blk A g e n f) (k : CellsKept A B) : Blk B g e n f := by
  obtain ⟨cur, hc, hr⟩ := h
  exact Blk.same ⟨cur, hc, hr⟩ (k.2 g cur e (0, 0) hc)
theorem OwnI.ck {M : Nat} {A B : World} {r : Rw} (h : OwnI M A r) (k : CellsKept A B) : OwnI M B r := by
  obtain ⟨g, ha, h0, h1, h2, hb⟩ := h
  exact ⟨g, ha, h0, h1, h2, hb.ck k⟩
theorem Room.ck {M : Nat} {A B : World} {e : TypeId} {size : Nat} {a : Option Addr} {c : Nat} (h : Room M A e size a c) (k : CellsKept A B) : Room M B e size a c :=
  h.same fun g cur hg => k.2 g cur e (0, 0) hg
theorem OwnO.ck {M : Nat} {A B : World} {s : Os} (h : OwnO M A s) (k : CellsKept A B) : OwnO M B s := by
  refine ⟨h.le, h.cap, fun hn => ?_, fun i hi => ?_, h.apart, h.room.ck k⟩
  · obtain ⟨g, a, b, c⟩ := h.list hn
    exact ⟨g, a, b, c.ck k⟩
  · obtain ⟨C, a, b, c, d, e⟩ := h.lines i hi
    exact ⟨C, a, b, c, d, e.ck k⟩
theorem OwnH.ck {M : Nat} {e : TypeId} {A B : World} {s : Hs} (h : OwnH M e A s) (k : CellsKept A B) : OwnH M e B s := by
  obtain ⟨h1, h2, h3, h4⟩ := h
  refine ⟨h1, h2, h3, fun hn => ?_⟩
  obtain ⟨g, ha, hA, hb⟩ := h4 hn
  exact ⟨g, ha, hA, hb.ck k⟩
theorem OwnS.ck {M : Nat} {A B : World} {s : St} (h : OwnS M A s) (k : CellsKept A B) : OwnS M B s := by
  refine ⟨?_, fun i hi => (h.rows i hi).ck k, h.rapart, h.os.ck k, h.hs.ck k, h.ms.ck k, h.msr.ck k, h.si.ck k, h.so.ck k, h.sf.ck k, h.aio, h.aif, h.aof, h.ari⟩
  obtain ⟨g, ha, h0, h1, h2, hb⟩ := h.on
  exact ⟨g, ha, h0, h1, h2, hb.ck k⟩
theorem OwnS.low {M M' : Nat} {A : World} {s : St} (h : OwnS M A s) (hM : M' ≤ M) : OwnS M' A s := by
  refine ⟨?_, fun i hi => ?_, h.rapart, h.os.mono hM, h.hs.mono hM, h.ms.mono hM, h.msr.mono hM, ?_, ?_, ?_, h.aio, h.aif, h.aof, h.ari⟩
  · obtain ⟨g, ha, h0, h1⟩ := h.on
    exact ⟨g, ha, Nat.le_trans hM h0, h1⟩
  · obtain ⟨g, ha, h0, h1⟩ := h.rows i hi
    exact ⟨g, ha, Nat.le_trans hM h0, h1⟩
  · obtain ⟨g, ha, h0, h1⟩ := h.si
    exact ⟨g, ha, Nat.le_trans hM h0, h1⟩
  · obtain ⟨g, ha, h0, h1⟩ := h.so
    exact ⟨g, ha, Nat.le_trans hM h0, h1⟩
  · obtain ⟨g, ha, h0, h1⟩ := h.sf
    exact ⟨g, ha, Nat.le_trans hM h0, h1⟩
theorem CellsKept.below {A B : World} (h : Below A.heap.size A B) : CellsKept A B := ⟨h.size, fun g cur e z hg => h.block g (Array.getElem?_eq_some_iff.1 hg).1⟩
theorem wpListIn_append_grows {F : Fence} {nF : Nat} {P : Program} (w : World) {ops : Array Oper} {rest : List Oper} {o : Oper} {a : Act} {Q : Exit → Act → World → Prop}
    (hg : o.guard = none) (s x : Operand) (t : TypeId) (hop : o.op = Op.call { callee := Callee.builtin Builtin.append, args := #[s, x], argTypes := #[t, t] })
    (e : TypeId) (i : TypeInfo) (z : Value) (size bytes : Nat) (h1 : P.underlying t = some (.slice e)) (h2 : P.info? e = some i) (h3 : i.zero = some z) (h4 : i.size = size) (h5 : i.bytes = bytes) (h6 : z.cells.size = size) (h7 : 0 < size)
    (ao : Option Addr) (n cap : Nat) (olds : List Value) (hs : a.eval s = .slice ao n cap) (hnone : ao = none → n = 0 ∧ cap = 0) (hlo : olds.length = n * size) (holds : ∀ b, ao = some b → ∀ j u, olds[j]? = some u → w.cell? (b.add j) = some u)
    (ad : Addr) (m c : Nat) (news : List Value) (hx : a.eval x = .slice (some ad) m c) (hn : news.length = m * size) (hc : ∀ j u, news[j]? = some u → w.cell? (ad.add j) = some u) (h1c : ∀ u ∈ news, u.oneCell' = true)
    (hfull : cap < n + m) (b1 : n + m ≤ maxLen) (b2 : (n + m) * bytes ≤ 140737488355328)
    (hK : ∀ v' w', w'.ownsRow w.heap.size e size v' (n + m) (olds ++ news) → w.grownBy w' none → wpListIn F nF P ops Q rest (a.put o.dst v') w') :
    wpListIn F nF P ops Q (o :: rest) a w := by
  refine wpListIn_plain hg fun K hK' => ?_
  cases ao with
  | some b =>
    obtain ⟨v', w', hrun, r1, r2⟩ := run_append_arg_grows (P := P) w t o.type e i z size bytes h1 h2 h3 h4 h5 h6 h7 b n cap olds hlo (holds b rfl) ad m c news hn hc hfull b1 b2
    unfold Oper.wpIn
    refine ⟨?_, ?_⟩
    · simp [Oper.about, hop, resolve, Target.leads, Sem.run_pure]
    · rw [Oper.semAt_plain F _ _ (by rw [hop]; intro c hc'; cases hc')]
      simp [execOp, hop, resolve, invoke, builtin, hs, hx, hrun, Result.andThen]
      exact hK' _ _ (hK v' w' r1 r2)
  | none =>
    obtain ⟨rfl, rfl⟩ := hnone rfl
    obtain rfl : olds = [] := List.eq_nil_of_length_eq_zero (by simpa using hlo)
    obtain ⟨v', w', hrun, r1, r2, _⟩ := run_append_own (P := P) w w.heap.size t o.type e i z size bytes h1 h2 h3 h4 h5 h6 h7 (.slice none 0 0) 0 [] (World.ownsRow_nil w _ e size) ad m c news hn hc h1c b1 b2 (Nat.le_refl _)
    unfold Oper.wpIn
    refine ⟨?_, ?_⟩
    · simp [Oper.about, hop, resolve, Target.leads, Sem.run_pure]
    · rw [Oper.semAt_plain F _ _ (by rw [hop]; intro c hc'; cases hc')]
      simp [execOp, hop, resolve, invoke, builtin, hs, hx, hrun, Result.andThen]
      exact hK' _ _ (hK v' w' r1 r2)
theorem wpListIn_append_room {F : Fence} {nF : Nat} {P : Program} (w : World) {ops : Array Oper} {rest : List Oper} {o : Oper} {a : Act} {Q : Exit → Act → World → Prop}
    (hg : o.guard = none) (s x : Operand) (t : TypeId) (hop : o.op = Op.call { callee := Callee.builtin Builtin.append, args := #[s, x], argTypes := #[t, t] })
    (A : Nat) (e : TypeId) (i : TypeInfo) (z : Value) (size bytes : Nat) (h1 : P.underlying t = some (.slice e)) (h2 : P.info? e = some i) (h3 : i.zero = some z) (h4 : i.size = size) (h5 : i.bytes = bytes) (h6 : z.cells.size = size) (h7 : 0 < size)
    (ao : Option Addr) (n c : Nat) (xs : List Value) (hs : a.eval s = .slice ao n c) (hroom : Room A w e size ao c) (hle : n ≤ c) (hcap : c ≤ maxLen) (hlo : xs.length = n * size) (hblk : 0 < n → ∃ g, ao = some ⟨g, 0, none⟩ ∧ A ≤ g ∧ Blk w g e (n * size) (fun j => xs.getD j default))
    (ad : Addr) (m c' : Nat) (news : List Value) (hx : a.eval x = .slice (some ad) m c') (hn : news.length = m * size) (hc : ∀ j u, news[j]? = some u → w.cell? (ad.add j) = some u) (h1c : ∀ u ∈ news, u.oneCell' = true)
    (hm : 0 < m) (b1 : n + m ≤ maxLen) (b2 : (n + m) * bytes ≤ 140737488355328) (hA : A ≤ w.heap.size)
    (hK : ∀ v' w', w'.ownsRow A e size v' (n + m) (xs ++ news) → Grew A e w w' → wpListIn F nF P ops Q rest (a.put o.dst v') w') :
    wpListIn F nF P ops Q (o :: rest) a w := by
  rcases hroom with h0 | ⟨g, cur, ha, hA', hgc, hsz⟩
  · subst h0
    have hn0 : n = 0 := by omega
    subst hn0
    obtain rfl : xs = [] := List.eq_nil_of_length_eq_zero (by simpa using hlo)
    refine wpListIn_append_grows w hg s x t hop e i z size bytes h1 h2 h3 h4 h5 h6 h7 ao 0 0 [] hs (fun _ => ⟨rfl, rfl⟩) (by simp) (fun b _ j u hj => by simp at hj) ad m c' news hx hn hc h1c (by omega) b1 b2 fun v' w' r1 r2 => ?_
    exact hK v' w' (owns_mono r1 hA) ⟨none, r2, fun k hk => by cases hk⟩
  · subst ha
    have hown := owns_of (w := w) (e := e) hA' hgc hsz hle hcap hlo (fun h => by
      obtain ⟨g', e1, _, hb⟩ := hblk h
      simp only [Option.some.injEq, Addr.mk.injEq, and_true] at e1
      subst e1
      exact hb)
    refine wpListIn_append_own w hg s x t hop A e i z size bytes h1 h2 h3 h4 h5 h6 h7 _ n xs hs hown ad m c' news hx hn hc h1c b1 b2 hA fun v' w' r1 r2 _ => ?_
    refine hK v' w' r1 ⟨_, r2, fun k hk => ?_⟩
    simp only [Value.ownBlock, Option.some.injEq] at hk
    subst hk
    exact ⟨hA', cur, hgc⟩
theorem Grew.keeps {A : Nat} {e : TypeId} {w w' : World} (h : Grew A e w w') : KeepsOthers w w' := by
  obtain ⟨row, hg, hr⟩ := h
  refine ⟨hg.size, fun k o hk ho => ?_⟩
  refine (hg.block k (Array.getElem?_eq_some_iff.1 hk).1 fun e' => ?_).trans hk
  obtain ⟨_, cur, hc⟩ := hr k e'.symm
  rw [hk] at hc
  cases hc
  cases ho
theorem OwnS.addM {A : Nat} {w w2 : World} {s : St} {m : Hd} {v : Value} (h : OwnS A w s) (ho : w2.ownsRow A 55 4 v (s.ms.n + 1) (flatH s.ms.n s.ms.z ++ hdCells m)) (hg : Grew A 55 w w2) :
    ∃ k : Hs, v = .slice k.a k.n k.c ∧ OwnS A w2 (withMoves s k) ∧ k.n = s.ms.n + 1 ∧ (∀ j, j < s.ms.n → k.z j = s.ms.z j) ∧ k.z s.ms.n = m := by
  have e1 : flatH s.ms.n s.ms.z ++ hdCells m = flatH (s.ms.n + 1) (fun i => if i = s.ms.n then m else s.ms.z i) := by
    rw [flatH_succ, if_pos rfl, flatH_congr (z' := fun i => if i = s.ms.n then m else s.ms.z i) fun i hi => by rw [if_neg (by omega)]]
  have ho' := ho
  rw [e1] at ho'
  obtain ⟨k, rfl, ok, kn, kz⟩ := OwnH.ofRow ho' (Nat.le_refl _)
  refine ⟨k, rfl, h.moreM hg ok ?_, kn, fun j hj => by rw [kz]; exact if_neg (by omega), by rw [kz]; exact if_pos rfl⟩
  exact Room.ofOwns (a := k.a) (n := k.n) (c := k.c) ho (Nat.le_refl _)
end Go.Proofs.Ytbcacebifpagpae
namespace Go.Proofs.Ytbcacebifpagpae
open Go.RowKit Go.Shelf Go.Sort
set_option linter.unusedVariables false
theorem OwnI.keepM {A g n : Nat} {w w' : World} {r : Rw} {f : Nat → Value} (h : OwnI A w r) (hg : Blk w g 55 n f) (K : KeepG g w w') : OwnI A w' r := by
  obtain ⟨q, ha, h0, h1, h2, hb⟩ := h
  exact ⟨q, ha, h0, h1, h2, K.blk hb (Blk.ne2 hb hg (by decide))⟩
theorem OwnH.keepM {A g n : Nat} {t : TypeId} {w w' : World} {s : Hs} {f : Nat → Value} (h : OwnH A t w s) (hg : Blk w g 55 n f) (hne : t ≠ 55) (K : KeepG g w w') : OwnH A t w' s := by
  obtain ⟨h1, h2, h3, h4⟩ := h
  refine ⟨h1, h2, h3, fun hn => ?_⟩
  obtain ⟨q, ha, hA, hb⟩ := h4 hn
  exact ⟨q, ha, hA, K.blk hb (Blk.ne2 hb hg hne)⟩
theorem OwnO.keepM {A g n : Nat} {w w' : World} {s : Os} {f : Nat → Value} (h : OwnO A w s) (hg : Blk w g 55 n f) (K : KeepG g w w') : OwnO A w' s := by
  refine ⟨h.le, h.cap, fun hn => ?_, fun i hi => ?_, h.apart, ?_⟩
  · obtain ⟨q, a1, a2, a3⟩ := h.list hn
    exact ⟨q, a1, a2, K.blk a3 (Blk.ne2 a3 hg (by decide))⟩
  · obtain ⟨C, a1, a2, a3, a4, a5⟩ := h.lines i hi
    exact ⟨C, a1, a2, a3, a4, K.blk a5 (Blk.ne2 a5 hg (by decide))⟩
  · refine h.room.same fun q cur hq => K.2 q (Array.getElem?_eq_some_iff.1 hq).1 fun e => ?_
    obtain ⟨c2, h1, _⟩ := hg
    rw [e, h1] at hq
    cases hq
theorem OwnS.keepM {A g n : Nat} {w w' : World} {s : St} {h : Hs} {f : Nat → Value} (k : OwnS A w s) (hg : Blk w g 55 n f) (K : KeepG g w w') (hh : OwnH A 55 w' h) (hr : Room A w' 55 4 h.a h.c) : OwnS A w' (Go.Proofs.Ytbcacebifpagpae.withMoves s h) := by
  refine ⟨?_, fun i hi => (k.rows i hi).keepM hg K, k.rapart, k.os.keepM hg K, k.hs.keepM hg (by decide) K, hh, hr, k.si.keepM hg K, k.so.keepM hg K, k.sf.keepM hg K, k.aio, k.aif, k.aof, k.ari⟩
  obtain ⟨q, a0, a1, a2, a3, a4⟩ := k.on
  exact ⟨q, a0, a1, a2, a3, K.blk a4 (Blk.ne2 a4 hg (by decide))⟩
theorem run_clear4M (w : World) (ty : TypeId) (b o n c : Nat) (hn : 0 < n) (hc : ∀ j, j < n * 4 → (w.cell? ⟨b, o + j, none⟩).isSome = true) (hf : ∀ j, j < n * 4 → w.frozen? ⟨b, o + j, none⟩ = false) :
    (Builtin.clear_ #[29] ty #[.slice (some ⟨b, o, none⟩) n c]).run Try.prog w = .ok (.tuple #[]) (w.setCells b o (List.replicate (n * 4) (.int .i64 0))) := by
  have hzc : (Builtin.zeroCells (Value.agg #[.int .i64 0, .int .i64 0, .int .i64 0, .int .i64 0]).cells n).toList = List.replicate (n * 4) (.int .i64 0) := by
    rw [show (Value.agg #[.int .i64 0, .int .i64 0, .int .i64 0, .int .i64 0]).cells = #[.int .i64 0, .int .i64 0, .int .i64 0, .int .i64 0] from rfl]
    apply List.ext_getElem
    · simp [Builtin.zeroCells]
    · intro i h1 h2
      have h4 : i % 4 < 4 := by omega
      simp [Builtin.zeroCells]
      generalize i % 4 = k at h4
      match k, h4 with
      | 0, _ => rfl
      | 1, _ => rfl
      | 2, _ => rfl
      | 3, _ => rfl
  have hst := run_storeCells_cells (P := Try.prog) b o (List.replicate (n * 4) (.int .i64 0)) 0 w (by simpa using hc) (by simpa using hf) (by intro v hv'; rw [List.eq_of_mem_replicate hv']; rfl)
  simp only [Nat.add_zero] at hst
  obtain ⟨m, rfl⟩ : ∃ m, n = m + 1 := ⟨n - 1, by omega⟩
  simp only [Builtin.clear_]
  simp [hzc, hst]
theorem infoMove : (Try.prog.info? 55).map (fun i => (i.zero, i.size, i.bytes)) = some (some (.agg #[.int .i64 0, .int .i64 0, .int .i64 0, .int .i64 0]), 4, 32) := by kernel_rfl
theorem cells_size {g : Nat} {e : TypeId} {m : Nat} : ∀ (vs : List Value) (o : Nat) (w : World), (∃ cur, w.heap[g]? = some (.cells cur e (0, 0)) ∧ cur.size = m) → ∃ cur, (w.setCells g o vs).heap[g]? = some (.cells cur e (0, 0)) ∧ cur.size = m
  | [], _, _, h => h
  | v :: r, o, w, h => by
    rw [World.setCells]
    refine cells_size r (o + 1) _ ?_
    obtain ⟨cur, h1, h2⟩ := h
    exact ⟨cur.setIfInBounds o v, by simp [World.setCell, Array.getElem?_modify, h1], by simpa using h2⟩
theorem addr_add (g q j : Nat) : (⟨g, q, none⟩ : Addr).add j = ⟨g, q + j, none⟩ := by
  unfold Addr.add
  split <;> simp_all
set_option maxRecDepth 100000 in
set_option maxHeartbeats 2000000 in
theorem DelM_row (A g n c k : Nat) (z : Nat → Hd) (w : World) (hA : A ≤ g) (hA2 : A ≤ w.heap.size) (hn : n ≤ c) (hcap : c ≤ maxLen) (hk : k < n) (cur : Array Value) (hgc : w.heap[g]? = some (.cells cur 55 (0, 0))) (hsz : cur.size = c * 4) (hb : Blk w g 55 (n * 4) (fun j => (flatH n z).getD j default)) :
    Calls Try.prog 39 #[.slice (some ⟨g, 0, none⟩) n c, .int .i64 (k : Int), .int .i64 ((k : Int) + 1)] w fun e w' => e = .returned (.slice (some ⟨g, 0, none⟩) (n - 1) c) ∧ Blk w' g 55 ((n - 1) * 4) (fun j => (flatH (n - 1) (dropZ z k)).getD j default) ∧ (∃ cur', w'.heap[g]? = some (.cells cur' 55 (0, 0)) ∧ cur'.size = c * 4) ∧ Below A w w' ∧ KeepG g w w' := by
  have hcap0 := hcap
  unfold maxLen at hcap
  obtain ⟨iM, hM, hM0, hM1, hM2⟩ := info_parts infoMove
  have HB : Hid (Blk w g 55 (n * 4) (fun j => (flatH n z).getD j default) ∧ w.heap[g]? = some (.cells cur 55 (0, 0)) ∧ cur.size = c * 4) := ⟨hb, hgc, hsz⟩
  clear hb hgc hsz
  have k0 : (0 : Int) ≤ (k : Int) := by omega
  have k1 : (k : Int) + 1 ≤ (n : Int) := by omega
  have k2 : ((k : Int) + 1).toNat = k + 1 := by omega
  have k3 : ((k : Int) == (k : Int) + 1) = false := beq_eq_false_iff_ne.2 (by omega)
  go_enter Try.func39, Try.ntmps39
  go_wp2_with fail
  have HWD : Hid (Below w.heap.size w w.drew ∧ w.drew.heap = w.heap) := ⟨(Below.refl _ _).drew, rfl⟩
  refine wp_region_ph [(true, [0, 1, 2, 3, 4, 5], some 6), (false, [7], none)] (by kernel_rfl) (by kernel_rfl) (by kernel_rfl) (by kernel_rfl) (by kernel_rfl) ?_
  refine ⟨fun w' => ∃ p : Regrown, w' = grow (redrawn w p.d) p.os, regrown_of_below ((Below.refl _ _).drew), fun h => (by cases h), ?_⟩
  simp only [picks, List.drop_succ_cons, List.drop_zero, List.take_succ_cons, List.take_zero, List.cons_append, List.nil_append]
  have HOW : Hid (∀ c', c' = c → w.drew.ownsRow A 55 4 (.slice (some ⟨g, 0, none⟩) k c') k (flatH k z)) := fun c' hc' => by
    subst hc'
    refine owns_of (w := w.drew) (cur := cur) hA HB.out.2.1 HB.out.2.2 (by omega) hcap0 (flatH_len _ _) fun h => ?_
    have hb : Blk w.drew g 55 (n * 4) (fun j => (flatH n z).getD j default) := HB.out.1.below HWD.out.1
    refine (hb.less (by omega)).congr fun j hj => ?_
    rw [hc_flat (by omega), hc_flat (by omega)]
  have HNW : Hid (∀ j u, (flatH (n - (k + 1)) (fun j => z (k + 1 + j)))[j]? = some u → w.drew.cell? ⟨g, (k + 1) * 4 + j, none⟩ = some u) := fun j u hj => by
    have hl : j < (n - (k + 1)) * 4 := by
      have := (List.getElem?_eq_some_iff.1 hj).1
      rw [flatH_len] at this
      exact this
    have hb : Blk w.drew g 55 (n * 4) (fun j => (flatH n z).getD j default) := HB.out.1.below HWD.out.1
    have h1 := hb.cell (j := (k + 1) * 4 + j) (by omega)
    rw [h1, hc_flat (by omega)]
    have h2 : (flatH (n - (k + 1)) (fun j => z (k + 1 + j))).getD j default = u := by simp [List.getD, hj]
    rw [← h2, hc_flat hl]
    unfold hc
    rw [show ((k + 1) * 4 + j) / 4 = k + 1 + j / 4 by omega, show ((k + 1) * 4 + j) % 4 = j % 4 by omega]
  have HEN : Hid (∀ w', w'.ownsRow A 55 4 (.slice (some ⟨g, 0, none⟩) (n - 1) c) (n - 1) (flatH k z ++ flatH (n - (k + 1)) (fun j => z (k + 1 + j))) → w.drew.grownBy w' (some g) → 
      (∀ ty, (Builtin.clear_ #[29] ty #[.slice (some ⟨g, (n - 1) * 4, none⟩) 1 (c - (n - 1))]).run Try.prog w' = .ok (.tuple #[]) (w'.setCells g ((n - 1) * 4) (List.replicate (1 * 4) (.int .i64 0)))) ∧
      ∀ w2, w2 = w'.setCells g ((n - 1) * 4) (List.replicate (1 * 4) (.int .i64 0)) → Blk w2 g 55 ((n - 1) * 4) (fun j => (flatH (n - 1) (dropZ z k)).getD j default) ∧ (∃ cur', w2.heap[g]? = some (.cells cur' 55 (0, 0)) ∧ cur'.size = c * 4) ∧ Below A w w2 ∧ KeepG g w w2) := fun w' ho hg => by
    obtain ⟨_, ⟨h, _⟩ | ⟨g', c', cur', h, hA', hg', h1, h2, h3, h4⟩⟩ := ho
    · cases h
    · simp only [Value.slice.injEq, Option.some.injEq, Addr.mk.injEq, and_true, true_and] at h
      obtain ⟨rfl, rfl⟩ := h
      have hlt : (n - 1) * 4 + 4 ≤ cur'.size := by rw [h3]; omega
      have hB4 : Blk w' g 55 cur'.size (fun j => cur'.getD j default) := ⟨cur', hg', Nat.le_refl _, fun j hj => by simp [Array.getD, hj]⟩
      have hb : Blk w' g 55 ((n - 1) * 4) (fun j => (flatH (n - 1) (dropZ z k)).getD j default) := by
        refine ⟨cur', hg', by omega, fun j hj => ?_⟩
        rw [flatH_drop n z k hk, ← h4]
        have e : (cur'.toList.take ((n - 1) * 4))[j]? = cur'[j]? := by rw [List.getElem?_take, if_pos hj]; simp
        have e2 : j < cur'.size := by omega
        simp only [List.getD, e]
        simp [e2]
      have hkg : KeepG g w w' := ⟨by have := hg.size; exact this, fun q hq hne => hg.block q hq (fun e => hne (by cases e; rfl))⟩
      have hbl : Below A w w' := (HWD.out.1.mono hA2).grown hg hA2 (fun q e => by cases e; exact hA)
      refine ⟨fun ty => run_clear4M w' ty g ((n - 1) * 4) 1 (c - (n - 1)) (by omega) (fun j hj => by rw [hB4.cell (by omega)]; rfl) (fun j _ => hB4.frozen _), fun w2 e => ?_⟩
      subst e
      exact ⟨Blk.setCells _ _ _ hb (Nat.le_refl _), cells_size _ _ _ ⟨cur', hg', h3⟩, below_cells hA _ _ _ hbl, hkg.cells _ _ _⟩
  clear hA hcap0 HWD HB
  by_cases hc1 : c = k + 1
  · subst hc1
    obtain rfl : n = k + 1 := by omega
    repeat (go_big_quiet_step (fail))
    refine wpQuiet_nil ?_
    generalize w.drew = wj at *
    refine wpOp_one 6 rfl ?_
    (refine wpList_append_fits_any wj rfl (.tmp 22) (.tmp 25) 29 rfl A 55 iM 4 Try.underlying29 hM hM1 g k (k + 1) (flatH k z) rfl (HOW.out (k + 1) rfl) (some ⟨g, 0, none⟩) 0 0 [] rfl rfl (fun e => by cases e) (fun ad e j u hj => by cases hj) (fun u hu => by cases hu) (by omega) ?_)
    intro w2 ho hg2
    rw [show k + 0 = k + 1 - 1 by omega] at ho ⊢
    obtain ⟨hcl, hend⟩ := HEN.out w2 (by rw [show k + 1 - (k + 1) = 0 by omega]; exact ho) hg2
    have HEND : Hid _ := hend
    have hcl2 : ∀ ty, (Builtin.clear_ #[29] ty #[.slice (some ⟨g, k * 4, none⟩) 1 1]).run Try.prog w2 = .ok (.tuple #[]) (w2.setCells g (k * 4) (List.replicate (1 * 4) (.int .i64 0))) := fun ty => by
      have h := hcl ty
      rw [show k + 1 - 1 = k by omega, show k + 1 - k = 1 by omega] at h
      exact h
    clear hcl
    clear ho hg2 HEN HOW HNW hend
    simp only [Act.put, List.setIfInBounds_toArray, List.set_cons_succ, List.set_cons_zero]
    refine (?_ : wpList _ _ _ [] _ _)
    go_wp2_with fail
    refine ⟨fun _ => True, trivial, fun _ _ => trivial, ?_⟩
    simp only [picks, List.drop_succ_cons, List.drop_zero, List.take_succ_cons, List.take_zero, List.cons_append, List.nil_append]
    repeat (go_big_quiet_step (fail))
    refine wpQuiet_nil ?_
    refine NoPanic.normal ?_
    have hz1 : ¬ k + 1 = k + 1 - 1 := by omega
    have hz2 : (k + 1 - 1) ≤ k + 1 := by omega
    have hz3 : k + 1 - (k + 1 - 1) = 1 := by omega
    go_wp2_with fail
    go_ret
    exact ⟨rfl, HEND.out _ rfl⟩
  · repeat (go_big_quiet_step (fail))
    refine wpQuiet_nil ?_
    generalize w.drew = wj at *
    refine wpOp_one 6 rfl ?_
    (refine wpList_append_fits_any wj rfl (.tmp 22) (.tmp 25) 29 rfl A 55 iM 4 Try.underlying29 hM hM1 g k c (flatH k z) rfl (HOW.out c rfl) (some ⟨g, (k + 1) * 4, none⟩) (n - (k + 1)) (c - (k + 1)) (flatH (n - (k + 1)) (fun j => z (k + 1 + j))) rfl (flatH_len _ _) (fun e => by cases e) (fun ad e j u hj => by cases e; rw [addr_add]; exact HNW.out j u hj) (flatH_one _ _) (by omega) ?_)
    intro w2 ho hg2
    rw [show k + (n - (k + 1)) = n - 1 by omega] at ho ⊢
    obtain ⟨hcl, hend⟩ := HEN.out w2 ho hg2
    have HEND : Hid _ := hend
    clear ho hg2 HEN HOW HNW hend
    simp only [Act.put, List.setIfInBounds_toArray, List.set_cons_succ, List.set_cons_zero]
    refine (?_ : wpList _ _ _ [] _ _)
    go_wp2_with fail
    refine ⟨fun _ => True, trivial, fun _ _ => trivial, ?_⟩
    simp only [picks, List.drop_succ_cons, List.drop_zero, List.take_succ_cons, List.take_zero, List.cons_append, List.nil_append]
    repeat (go_big_quiet_step (fail))
    refine wpQuiet_nil ?_
    refine NoPanic.normal ?_
    have hz1 : ¬ c = n - 1 := by omega
    have hz2 : (n - 1) ≤ n := by omega
    have hz3 : n - (n - 1) = 1 := by omega
    go_wp2_with fail
    go_ret
    exact ⟨rfl, HEND.out _ rfl⟩
theorem DelM_any (A : Nat) (s : St) (k : Nat) (w : World) (hA2 : A ≤ w.heap.size) (hO : OwnS A w s) (hk : k < s.ms.n) :
    Calls Try.prog 39 #[.slice s.ms.a s.ms.n s.ms.c, .int .i64 (k : Int), .int .i64 ((k : Int) + 1)] w fun e w' => e = .returned (.slice s.ms.a (s.ms.n - 1) s.ms.c) ∧ OwnS A w' (withMoves s (delM s.ms k)) ∧ Below A w w' ∧ (∀ q t m g, t ≠ 55 → Blk w q t m g → Blk w' q t m g) := by
  obtain ⟨h1, h2, h3, h4⟩ := hO.ms
  obtain ⟨g, ha, hA, hb⟩ := h4 (by omega)
  rcases hO.msr with h0 | ⟨g', cur, ha', hA', hgc, hsz⟩
  · omega
  · rw [ha] at ha'
    simp only [Option.some.injEq, Addr.mk.injEq, and_true] at ha'
    subst ha'
    have hD := DelM_row A g s.ms.n s.ms.c k s.ms.z w hA hA2 h1 h2 hk cur hgc hsz hb
    rw [ha]
    refine hD.mono ?_
    rintro e w1 ⟨rfl, hb3, ⟨cur', hg', hs'⟩, hB, hK⟩
    refine ⟨rfl, hO.keepM hb hK ⟨by show s.ms.n - 1 ≤ s.ms.c; omega, h2, h3, fun _ => ⟨g, ha, hA, hb3⟩⟩ (Or.inr ⟨g, cur', ha, hA, hg', hs'⟩), hB, fun q t m f' hne hbq => hK.blk hbq (Blk.ne2 hbq hb hne)⟩
end Go.Proofs.Ytbcacebifpagpae
namespace Go.Proofs.Ytbcacebifpagpae
open Go.RowKit
set_option linter.unusedVariables false
theorem owns_block {A : Nat} {w : World} {e : TypeId} {size : Nat} {v : Value} {n : Nat} {xs : List Value} (h : w.ownsRow A e size v n xs) {k : Nat} (e' : v.ownBlock = some k) : A ≤ k := by
  obtain ⟨_, ⟨rfl, _⟩ | ⟨g, cap, cur, rfl, hb, _⟩⟩ := h
  · cases e'
  · simp only [Value.ownBlock, Option.some.injEq] at e'
    omega
theorem OwnS.withM {A : Nat} {w : World} {s : St} {h : Hs} (k : OwnS A w s) (hh : OwnH A 55 w h) (hr : Room A w 55 4 h.a h.c) : OwnS A w (withMoves s h) :=
  ⟨k.on, k.rows, k.rapart, k.os, k.hs, hh, hr, k.si, k.so, k.sf, k.aio, k.aif, k.aof, k.ari⟩
theorem HdsAt.flat {w : World} {n b o : Nat} {z : Nat → Hd} (h : HdsAt w (some ⟨b, o, none⟩) n z) {q m : Nat} (hm : q + m ≤ n) {j : Nat} {u : Value} (hj : (flatH m (fun x => z (q + x)))[j]? = some u) : w.cell? ⟨b, o + q * 4 + j, none⟩ = some u := by
  have hl : j < m * 4 := by
    have := (List.getElem?_eq_some_iff.1 hj).1
    rw [flatH_len] at this
    exact this
  obtain ⟨i, c, rfl, hc⟩ : ∃ i c, j = i * 4 + c ∧ c < 4 := ⟨j / 4, j % 4, by omega, by omega⟩
  rw [flatH_get m _ i c (by omega) hc] at hj
  obtain ⟨b', o', e, _, h0, h1, h2, h3⟩ := h (q + i) (by omega)
  simp only [Option.some.injEq, Addr.mk.injEq, and_true] at e
  obtain ⟨rfl, rfl⟩ := e
  have e1 : o + q * 4 + (i * 4 + c) = o + (q + i) * 4 + c := by omega
  rw [e1, ← hj]
  match c, hc with
  | 0, _ => exact h0
  | 1, _ => exact h1
  | 2, _ => exact h2
  | 3, _ => exact h3
theorem OwnS.rowBlk {A : Nat} {w : World} {s : St} (h : OwnS A w s) {b G : Nat} (hb : b < s.on.n) (ha : (s.on.r b).a = some ⟨G, 0, none⟩) : A ≤ G ∧ Blk w G 3 (s.on.r b).n (fun j => .int .i64 ((s.on.r b).z j)) := by
  obtain ⟨Gq, b1, b2, b3, b4, b5⟩ := h.rows b hb
  rw [ha] at b1
  simp only [Option.some.injEq, Addr.mk.injEq, and_true] at b1
  subst b1
  exact ⟨b2, b5⟩
theorem RelK.setOn {A B7 : Nat} {W0 wk : World} {cur : St} (h : RelK A B7 W0 cur wk) (hA : W0.heap.size ≤ A) {b G : Nat} (hb : b < cur.on.n) (ha : (cur.on.r b).a = some ⟨G, 0, none⟩) (g : Nat) (v : Int) : RelK A B7 W0 (Go.Proofs.Ytbcacebifpagpae.setOn cur b g v) (wk.setCell ⟨G, g, none⟩ (.int .i64 v)) := by
  obtain ⟨h1, h2⟩ := h.own.rowBlk hb ha
  exact ⟨h.own.setOn hb ha g v, h.box.other (a := ⟨G, g, none⟩) (Blk.ne2 h.box h2 (by decide)) _, h.bel.setCell (p := ⟨G, g, none⟩) (by show W0.heap.size ≤ G; omega) _, by have := h.le; simpa using this⟩
theorem RelK.moves {A B7 : Nat} {W0 wk : World} {cur : St} (h : RelK A B7 W0 cur wk) (hA : W0.heap.size ≤ A) (hB : A ≤ B7) {wj : World} {m : Hs} (ho : OwnS A wj (withMoves cur m)) (hb : Below A wk wj) (hk : ∀ q t n g, t ≠ 55 → Blk wk q t n g → Blk wj q t n g) : RelK A B7 W0 (withMoves cur m) (wj.setCell ⟨B7, 3, none⟩ (.slice m.a m.n m.c)) := by
  have hbox := hk _ _ _ _ (by decide) h.box
  refine ⟨ho.box hbox 3 _, (hbox.set 3 _).congr fun j hj => ?_, (h.bel.trans (hb.mono hA)).setCell (p := ⟨B7, 3, none⟩) (by show W0.heap.size ≤ B7; omega) _, by have := hb.size; have := h.le; simp; omega⟩
  match j, hj with
  | 0, _ => rfl
  | 1, _ => rfl
  | 2, _ => rfl
  | 3, _ => rfl
  | 4, _ => rfl
  | 5, _ => rfl
  | 6, _ => rfl
theorem RelK.more {A B7 : Nat} {W0 wk w2 : World} {x : St} {m : Hd} {v : Value} (h : RelK A B7 W0 x wk) (hA : W0.heap.size ≤ A) (hB : A ≤ B7) (ho : w2.ownsRow A 55 4 v (x.ms.n + 1) (flatH x.ms.n x.ms.z ++ hdCells m)) (hg : Grew A 55 wk w2) :
    ∃ k : Hs, v = .slice k.a k.n k.c ∧ RelK A B7 W0 (withMoves x k) (w2.setCell ⟨B7, 3, none⟩ (.slice k.a k.n k.c)) ∧ k.n = x.ms.n + 1 ∧ (∀ j, j < x.ms.n → k.z j = x.ms.z j) ∧ k.z x.ms.n = m ∧ Blk w2 B7 31 7 (fun j => x.cells.getD j default) := by
  obtain ⟨k, rfl, ok, kn, kz, kl⟩ := h.own.addM ho hg
  have hbox := hg.blk h.box (by decide)
  refine ⟨k, rfl, ⟨ok.box hbox 3 _, (hbox.set 3 _).congr fun j hj => ?_, (hg.below h.bel hA h.bel.size).setCell (p := ⟨B7, 3, none⟩) (by show W0.heap.size ≤ B7; omega) _, ?_⟩, kn, kz, kl, hbox⟩
  · match j, hj with
    | 0, _ => rfl
    | 1, _ => rfl
    | 2, _ => rfl
    | 3, _ => rfl
    | 4, _ => rfl
    | 5, _ => rfl
    | 6, _ => rfl
  · have h3 := (hg.below (Below.refl A wk) (Nat.le_refl _) h.le).size
    have := h.le
    simp
    omega
theorem news4 (w : World) (Z : Hd) (e : TypeId) : ∀ j u, (hdCells Z)[j]? = some u → (w.alloc (.cells #[.int .i64 Z.o, .int .i64 Z.l, .int .i64 Z.b, .int .i64 Z.n] e)).cell? ((⟨w.heap.size, 0, none⟩ : Addr).add j) = some u := by
  intro j u hj
  rw [addr_add, Nat.zero_add]
  have K := Blk.new w #[.int .i64 Z.o, .int .i64 Z.l, .int .i64 Z.b, .int .i64 Z.n] e
  have hl : j < 4 := (List.getElem?_eq_some_iff.1 hj).1
  rw [K.cell (j := j) hl, ← hj]
  match j, hl with
  | 0, _ => rfl
  | 1, _ => rfl
  | 2, _ => rfl
  | 3, _ => rfl
end Go.Proofs.Ytbcacebifpagpae
namespace Go.Proofs.Ytbcacebifpagpae
open Go.RowKit Go.Shelf
set_option linter.unusedVariables false
attribute [local go_sem] Oper.semAt_some
def keepsB (n₀ Bf : Nat) (A B : World) : Prop := Below n₀ A B ∧ (∀ v, A.cell? ⟨Bf, 0, none⟩ = some v → B.cell? ⟨Bf, 0, none⟩ = some v)
end Go.Proofs.Ytbcacebifpagpae
namespace Go.Proofs.Ytbcacebifpagpae
open Go.RowKit Go.Shelf
set_option linter.unusedVariables false
attribute [local go_sem] Oper.semAt_some
theorem keepsB_t {n₀ Bf : Nat} {A B C : World} (h : keepsB n₀ Bf A B) (k : keepsB n₀ Bf B C) : keepsB n₀ Bf A C := ⟨h.1.trans k.1, fun v hv => k.2 v (h.2 v hv)⟩
theorem keepsB_b {n₀ Bf : Nat} {w : World} (hn : n₀ ≤ w.heap.size) (hb : Bf < w.heap.size) (W : World) (l : Nat) (o o' : Obj) (hl : w.heap.size ≤ l) (h : W.heap[l]? = some o) (h1 : o.isCells = false) (h2 : o.isWalk = false) : keepsB n₀ Bf W (W.putObj l o') :=
  ⟨belowK_b hn W l o o' hl h h1 h2, fun v hv => ((belowK_b (Nat.le_refl _) W l o o' hl h h1 h2).cell (p := ⟨Bf, 0, none⟩) hb).trans hv⟩
set_option maxRecDepth 100000 in
set_option maxHeartbeats 1000000 in
theorem binsOf_in (F : Fence) (n : Nat) (h5 : F.fn 36) (hro : F.round = none) (p : Pl) (f : Bool) (w : World) :
    CallsIn F n Try.prog 36 #[p.val, .bool f] w fun e w' => e = .returned (.func (.func 79) #[] #[.pointer (some ⟨w.heap.size, 0, none⟩), .pointer (some ⟨w.heap.size + 1, 0, none⟩)]) ∧ w' = (w.alloc (.cells #[.slice p.ab p.nb p.cb, .slice p.sa p.ns p.cs] 25)).alloc (.cells #[.bool f] 4) := by
  unfold Pl.val
  refine callsIn_of_wp Try.func36 rfl h5 ?_ hro
  simp only [Try.ntmps36, List.size_toArray, List.length_cons, List.length_nil, Nat.reduceAdd, Nat.reduceSub, Array.replicate_succ, Array.replicate_zero, List.push_toArray, List.append_toArray, List.nil_append, List.cons_append]
  gi_wp2
  go_ret
  exact ⟨rfl, rfl⟩
end Go.Proofs.Ytbcacebifpagpae
namespace Go.Proofs.Ytbcacebifpagpae
open Go.RowKit Go.Shelf
set_option linter.unusedVariables false
attribute [local go_sem] Oper.semAt_some
set_option maxRecDepth 100000 in
set_option maxHeartbeats 2000000 in
theorem binsX1_in (F : Fence) (n : Nat) (h6 : F.fn 79) (hro : F.round = none) (hn : 1 ≤ n) (l Bp Bf n₀ : Nat) (p : Pl) (f : Bool) (J Jx : List (BinX p f) → World → Prop)
    (hY : ∀ pre x W, J pre W → pre.length < p.nb → YieldAt F (n - 1) Try.prog l #[.int .i64 (x.1 : Int)] W fun e W' =>
      (e = .returned (.bool true) ∧ J (pre ++ [x]) W' ∧ keepsB n₀ Bf W W') ∨ (e = .returned (.bool false) ∧ Jx (pre ++ [x]) W'))
    (W : World) (hJ : AbidesFrom W.heap.size J) (hn₀ : n₀ ≤ W.heap.size) (hBp : W.cell? ⟨Bp, 0, none⟩ = some (.slice p.ab p.nb p.cb)) (hBf : W.cell? ⟨Bf, 0, none⟩ = some (.bool f)) (hle : p.nb ≤ p.cb) (hcap : p.cb ≤ maxLen)
    (hL : ∀ W', Below n₀ W W' → BinsAt W' p.ab p.nb p.zb) (h0 : J [] W) :
    CallsIn F n Try.prog 79 #[.func (.yield l) #[] #[], .pointer (some ⟨Bp, 0, none⟩), .pointer (some ⟨Bf, 0, none⟩)] W fun e W' => (∃ v, e = .returned v) ∧
      ((∃ ys, ys = frX p f p.nb ∧ J ys W') ∨ (∃ pre, pre <+: frX p f p.nb ∧ Jx pre W')) := by
  unfold maxLen at hcap
  have hS : Hid (∀ wr, Below n₀ W wr → W.heap.size ≤ wr.heap.size) := fun wr h => h.size
  have HJA : Hid (∀ pre A o, J pre A → J pre (A.alloc o)) := fun pre A o h => hJ pre A (A.alloc o) none h (World.grownBy_alloc A o none) (fun r e => by cases e)
  refine callsIn_of_wp Try.func79 rfl h6 ?_ hro
  simp only [Try.ntmps79, List.size_toArray, List.length_cons, List.length_nil, Nat.reduceAdd, Nat.reduceSub, Array.replicate_succ, Array.replicate_zero, List.push_toArray, List.append_toArray, List.nil_append, List.cons_append]
  gi_wp2
  gi_loopw [9] (fun i wr => ∃ k : Nat, k ≤ p.nb ∧ i = .int .i64 k ∧ J (frX p f k) wr ∧ Below n₀ W wr ∧ wr.cell? ⟨Bf, 0, none⟩ = some (.bool f)) (fun i _ => p.nb - (intOf i).toNat)
  case atStart => exact ⟨0, Nat.zero_le _, rfl, h0, Below.refl _ _, hBf⟩
  case round =>
    obtain ⟨k, hk, rfl, hJs, hB, hcf⟩ := hrel
    by_cases hlt : k < p.nb
    · obtain ⟨b, o, hab, hb, z0, z1, z2, z3⟩ := hL _ hB k hlt
      have m1 : (0 : Int) ≤ (k : Int) := by omega
      have hltf : Bf < wr.heap.size := World.block_lt_of_cell? wr _ hcf
      have hfl := frX_len p f k
      rw [hab]
      clear hab
      by_cases hf : (p.zb k).front = f
      · rw [hf] at z0
        have hJa := HJA.out _ wr (.cells #[.bool f, .int .i64 (p.zb k).room, .int .i64 (p.zb k).low, .int .i64 (p.zb k).high] 58) hJs
        obtain ⟨fn, tmps, assign, body, hy, hR⟩ := hY (frX p f k) ⟨k, hlt, hf⟩ _ hJa (by omega)
        gi_wp2
        refine hR.mono ?_
        rintro e W3 (⟨rfl, hJ3, hk3⟩ | ⟨rfl, hJx3⟩)
        · have hB3 : Below n₀ W W3 := (hB.alloc (Nat.le_trans hn₀ (hS.out wr hB)) _).trans hk3.1
          have hc3 : W3.cell? ⟨Bf, 0, none⟩ = some (.bool f) := hk3.2 _ ((((Below.refl wr.heap.size wr).alloc (Nat.le_refl _) _).cell (p := ⟨Bf, 0, none⟩) hltf).trans hcf)
          rw [← frX_hit ⟨hlt, hf⟩] at hJ3
          clear hk3 hR
          gi_wp2
          go_roundw
          case rel => exact ⟨k + 1, by omega, by go_num, hJ3, hB3, hc3⟩
          case measure => simp [intOf]; omega
        · rw [← frX_hit ⟨hlt, hf⟩] at hJx3
          gi_wp2
          refine bodyPost_ret (results_none rfl _ _ _) rfl ?_
          exact ⟨⟨_, rfl⟩, .inr ⟨frX p f (k + 1), frX_prefix p f (by omega), hJx3⟩⟩
      · have hJa := HJA.out _ wr (.cells #[.bool (p.zb k).front, .int .i64 (p.zb k).room, .int .i64 (p.zb k).low, .int .i64 (p.zb k).high] 58) hJs
        rw [← frX_miss hf] at hJa
        have hBa := hB.alloc (Nat.le_trans hn₀ (hS.out wr hB)) (.cells #[.bool (p.zb k).front, .int .i64 (p.zb k).room, .int .i64 (p.zb k).low, .int .i64 (p.zb k).high] 58)
        have hca := (((Below.refl wr.heap.size wr).alloc (Nat.le_refl _) (.cells #[.bool (p.zb k).front, .int .i64 (p.zb k).room, .int .i64 (p.zb k).low, .int .i64 (p.zb k).high] 58)).cell (p := ⟨Bf, 0, none⟩) hltf).trans hcf
        have HA : Hid (J (frX p f (k + 1)) (wr.alloc (.cells #[.bool (p.zb k).front, .int .i64 (p.zb k).room, .int .i64 (p.zb k).low, .int .i64 (p.zb k).high] 58)) ∧ Below n₀ W (wr.alloc (.cells #[.bool (p.zb k).front, .int .i64 (p.zb k).room, .int .i64 (p.zb k).low, .int .i64 (p.zb k).high] 58)) ∧ (wr.alloc (.cells #[.bool (p.zb k).front, .int .i64 (p.zb k).room, .int .i64 (p.zb k).low, .int .i64 (p.zb k).high] 58)).cell? ⟨Bf, 0, none⟩ = some (.bool f)) := ⟨hJa, hBa, hca⟩
        clear hJa hBa hca
        gi_wp2
        refine ⟨fun _ h => (by cases h), ?_⟩
        gi_wp2
        go_roundw
        case rel => exact ⟨k + 1, by omega, by go_num, HA.out.1, HA.out.2.1, HA.out.2.2⟩
        case measure => simp [intOf]; omega
    · gi_wp2
      go_end0
      have hkn : k = p.nb := by omega
      subst hkn
      exact ⟨⟨_, rfl⟩, .inl ⟨_, rfl, hJs⟩⟩
theorem binsX_stops (F : Fence) (n : Nat) (h6 : F.fn 79) (hro : F.round = none) (hn : 1 ≤ n) (Bp Bf n₀ : Nat) (p : Pl) (f : Bool) (w : World) (hBp : Bp < w.heap.size) (hBf : Bf < w.heap.size) (hn₀ : n₀ ≤ w.heap.size)
    (hcp : w.cell? ⟨Bp, 0, none⟩ = some (.slice p.ab p.nb p.cb)) (hcf : w.cell? ⟨Bf, 0, none⟩ = some (.bool f)) (hle : p.nb ≤ p.cb) (hcap : p.cb ≤ maxLen) (hL : ∀ W', Below n₀ w W' → BinsAt W' p.ab p.nb p.zb) :
    SeqStopsK F n Try.prog 79 #[.pointer (some ⟨Bp, 0, none⟩), .pointer (some ⟨Bf, 0, none⟩)] (fun x : BinX p f => #[Value.int .i64 (x.1 : Int)]) (keepsB n₀ Bf) (fun ys => ys = frX p f p.nb) (fun pre => pre <+: frX p f p.nb) p.nb w := fun l J Jx W hW hJ _ hY h0 =>
  binsX1_in F n h6 hro hn l Bp Bf n₀ p f J Jx hY W hJ (Nat.le_trans hn₀ hW.size) ((hW.cell (p := ⟨Bp, 0, none⟩) hBp).trans hcp) ((hW.cell (p := ⟨Bf, 0, none⟩) hBf).trans hcf) hle hcap (fun W' h => hL W' ((hW.mono hn₀).trans h)) h0
end Go.Proofs.Ytbcacebifpagpae
namespace Go.Proofs.Ytbcacebifpagpae
open Go Go.Sort Go.RowKit
set_option linter.unusedVariables false
def noDefer (l : List Oper) : Bool := l.all fun o => match o.op with | .defer _ => false | _ => true
theorem noDefer_at {l : List Oper} (h : noDefer l = true) {i : Nat} {o : Oper} (ho : l.toArray[i]? = some o) : ∀ c, o.op ≠ .defer c := by
  intro c e
  have hm : o ∈ l := by
    rw [List.getElem?_toArray] at ho
    exact List.mem_of_getElem? ho
  have := List.all_eq_true.1 h o hm
  rw [e] at this
  cases this
section
variable {F : Fence} {n : Nat} {P : Program} {C : World → Prop} {md : Region.Mode}
theorem wpIn_of_quietR {o : Oper} {a : Act} {K : Act → Prop} {K' : Act → World → Prop} {Q' : Exit → Act → World → Prop} {w : World} (hro : ∀ c, o.op ≠ .defer c) (hw : C w) (h : ∀ a w', C w' → K a → K' a w')
    (ha : o.askedIn F P a C) (hh : o.quietIn F n P a C K) : o.wpIn F n P a w K' Q' := by
  obtain ⟨v, h1, h2⟩ := hh
  have h3 := h1 w hw
  unfold Oper.quietAtIn at h3
  unfold Oper.wpIn
  refine ⟨ha w hw, ?_⟩
  rw [Oper.semAt_plain F _ _ hro]
  generalize (execOp a.eval o).run P w = r at *
  cases r with
  | ok x w' =>
    cases x <;> simp only [Oper.quietUponIn] at h3 <;> simp only [Oper.uponIn]
    case value u =>
      obtain ⟨e1, e2⟩ := h3
      rw [e1, e2]
      exact h _ _ hw h2
    case skip =>
      obtain ⟨e1, e2⟩ := h3
      rw [e1, ← e2]
      exact h _ _ hw h2
    case enter f args =>
      obtain ⟨e1, hd, hc⟩ := h3
      rw [e1]
      exact ⟨hd, hc.mono fun e w'' ⟨he, hw''⟩ => by subst he; exact h _ _ hw'' h2⟩
  | halt x w' => simp only [Oper.quietUponIn] at h3
variable {l : List Oper}
theorem wpOpIn_of_qOpInR {i : Nat} {a : Act} {K : Act → Prop} {K' : Act → World → Prop} {Q' : Exit → Act → World → Prop} {w : World} (hro : noDefer l = true) (hC : C w) (h : ∀ a w', C w' → K a → K' a w')
    (hh : qOpIn F n P l.toArray C i K a) : wpOpIn F n P l.toArray Q' i K' a w := by
  unfold qOpIn at hh
  unfold wpOpIn
  split
  · rename_i ho; simp only [ho] at hh; exact h _ _ hC hh
  · rename_i o ho
    simp only [ho] at hh
    obtain ⟨ha, hh⟩ := hh
    split
    · rename_i hw; simp only [hw, if_true] at hh; exact wpIn_of_quietR (noDefer_at hro ho) hC h ha hh
    · rename_i hw; simp only [hw] at hh; exact ⟨ha w hC, h _ _ hC hh⟩
theorem wpAnyIn_of_quietR {Q : Act → Prop} {Q' : Exit → Act → World → Prop} (hro : noDefer l = true) (hQ : ∀ a w, C w → Q a → Q' .normal a w) : ∀ (fuel : Nat) (listed : Array Bool) (a : Act) (w : World), C w →
    wpAnyQIn F n P md l.toArray C Q fuel listed a → wpAnyIn F n P md l.toArray Q' fuel listed a w
  | 0, _, _, _, hw, h => ⟨h.1, hQ _ _ hw h.2⟩
  | fuel + 1, _, _, _, hw, h => ⟨fun h0 => hQ _ _ hw (h.1 h0), fun i hi => wpOpIn_of_qOpInR hro hw (fun a' w' hw' => wpAnyIn_of_quietR hro hQ fuel _ a' w' hw') (h.2 i hi)⟩
theorem wpIn_region_quietR {id : Nat} {Q : Exit → Act → World → Prop} {a : Act} {w : World} (hro : noDefer l = true) (hm : P.follows .mixedOrders = true) (hB : Region.lexB .any l.toArray = true) (hC : C { w with drawn := w.drawn + 1 })
    (h : wpQuietIn F n P l.toArray C (fun a' => ∀ w', C w' → Q .normal a' w') l a) : (Code.region id l.toArray true).wpIn F n P Q a w := by
  simp only [Region.lexB, Bool.and_eq_true] at hB
  refine wpIn_region_any hm (wpAnyIn_of_quietR (Q := fun a' => ∀ w', C w' → Q .normal a' w') hro (fun _ w' hw' h => h w' hw') _ _ _ _ hC ?_)
  have := wpAnyQIn_lex (F := F) (n := n) (C := C) (md := .any) hB.1 l 0 (Array.replicate l.toArray.size false) a (by simp) (by simpa using hB.2) h
  simpa using this
theorem wpIn_region_quiet_belowR {id : Nat} {Q : Exit → Act → World → Prop} {a : Act} {w : World} (hro : noDefer l = true) (hm : P.follows .mixedOrders = true) (hB : Region.lexB .any l.toArray = true)
    (h : wpQuietIn F n P l.toArray (fun w' => ∃ p : Regrown, w' = grow (redrawn w p.d) p.os) (fun a' => ∀ w', (∃ p : Regrown, w' = grow (redrawn w p.d) p.os) → Q .normal a' w') l a) : (Code.region id l.toArray true).wpIn F n P Q a w :=
  wpIn_region_quietR (C := fun w' => ∃ p : Regrown, w' = grow (redrawn w p.d) p.os) hro hm hB ⟨⟨w.drawn + 1, #[]⟩, by rw [grow_empty]; rfl⟩ h
end
end Go.Proofs.Ytbcacebifpagpae
namespace Go.Proofs.Ytbcacebifpagpae
open Go.RowKit Go.Shelf Go.Sort
set_option linter.unusedVariables false
theorem avail_okA {p : Pl} {s : St} {b g : Nat} (h : stateE p s = 0) (hb : b < p.nb) (hg : g < p.ns) : availE p s b g = 0 ∧ availV p s b g = availZ s b g := by
  have e : availE p s b g = 0 := by unfold availE; rw [if_pos h, inB_mk (by omega), inB_mk (by omega)]; rfl
  exact ⟨e, by unfold availV; rw [if_pos e]; rfl⟩
end Go.Proofs.Ytbcacebifpagpae
namespace Go.Proofs.Ytbcacebifpagpae
open Go.RowKit Go.Shelf Go.Sort
set_option linter.unusedVariables false
theorem Avail_rightW (p : Pl) (s : St) (b g : Nat) (w : World) (hp : p.At w) (hs : s.At w) (h : stateE p s = 0) (hb : b < p.nb) (hg : g < p.ns) :
    Calls Try.prog 12 #[.agg #[.slice p.ab p.nb p.cb, .slice p.sa p.ns p.cs], .agg #[.slice s.on.a s.on.n s.on.c, .slice s.os.a s.os.n s.os.c, .slice s.hs.a s.hs.n s.hs.c, .slice s.ms.a s.ms.n s.ms.c, .slice s.si.a s.si.n s.si.c, .slice s.so.a s.so.n s.so.c, .slice s.sf.a s.sf.n s.sf.c], .int .i64 (b : Int), .int .i64 (g : Int)] w fun e w' => e = .returned (.tuple #[.int .i64 (availZ s b g), .int .i64 0]) ∧ Below w.heap.size w w' := by
  have k := Avail_any p s b g w hp hs
  rw [(avail_okA h hb hg).1, (avail_okA h hb hg).2] at k
  exact k
end Go.Proofs.Ytbcacebifpagpae
namespace Go.Proofs.Ytbcacebifpagpae
open Go.RowKit Go.Shelf Go.Sort
set_option linter.unusedVariables false
theorem free_okF {p : Pl} {s : St} {b : Nat} (h : stateE p s = 0) (hb : b < p.nb) : freeE p s b = 0 ∧ freeV p s b = freeZ p s b := by
  have f := (rightT h).fm
  have hu : usedE p s.on b = 0 := by unfold usedE; rw [f.sh0]; simp only [beq_self_eq_true, if_true]; rw [inB_mk (by have := f.sh.n; omega)]; rfl
  have e : freeE p s b = 0 := by unfold freeE; rw [if_pos h, hu]
  exact ⟨e, by unfold freeV; rw [if_pos e]; rfl⟩
theorem Free_rightW (p : Pl) (s : St) (b : Nat) (w : World) (hp : p.At w) (hs : s.At w) (h : stateE p s = 0) (hb : b < p.nb) :
    Calls Try.prog 20 #[p.val, s.val, .int .i64 (b : Int)] w fun e w' => e = .returned (.tuple #[.int .i64 (freeZ p s b), .int .i64 0]) ∧ Below w.heap.size w w' := by
  have k := Free_any p s b w hp hs
  rw [(free_okF h hb).1, (free_okF h hb).2] at k
  exact k
theorem lying_bdF {p : Pl} {s : St} (F : Formed p s) {b g : Nat} (hb : b < p.nb) (hg : g < p.ns) : 0 ≤ lyingZ s b g ∧ lyingZ s b g ≤ 1800 := by
  have h1 := F.sh.num b (by rw [F.sh.n]; exact hb) g hg
  have h2 := comingTo_bd (s := s) (b := b) (g := g) F.moveN
  have h3 := F.ms8
  unfold lyingZ
  omega
theorem free_bdF {p : Pl} {s : St} (F : Formed p s) {b : Nat} (hb : b < p.nb) : -30000 ≤ freeZ p s b ∧ freeZ p s b ≤ 1000 := by
  have hbn : b < s.on.n := by rw [F.sh.n]; exact hb
  have h1 := usedTo_bd (z := (s.on.r b).z) (zs := p.zs) (n := p.ns) (fun j hj => ⟨F.sh.num b hbn j hj, F.sh.pl.sizes j hj⟩) p.ns (Nat.le_refl _)
  have h2 := takeTo_bd F b s.ms.n (Nat.le_refl _)
  have h3 := F.ms8
  have h4 := F.sh.pl.ns3
  have h5 := F.sh.pl.bins b hb
  rw [badBin_eq] at h5
  simp only [Bool.or_eq_false_iff, Bool.not_eq_false'] at h5
  have := inB_true h5.1.1
  unfold freeZ
  omega
theorem high_bdF {p : Pl} (r : RightP p) {b : Nat} (hb : b < p.nb) : (0 ≤ (p.zb b).high ∧ (p.zb b).high ≤ 200) ∧ 0 ≤ (p.zb b).low ∧ (p.zb b).low ≤ 200 := by
  have h5 := r.bins b hb
  rw [badBin_eq] at h5
  simp only [Bool.or_eq_false_iff, Bool.not_eq_false'] at h5
  have := inB_true h5.1.2
  have := inB_true h5.2
  omega
theorem avail_bdF {p : Pl} {s : St} (r : RightT p s) {b g : Nat} (hb : b < p.nb) (hg : g < p.ns) : 0 ≤ availZ s b g ∧ availZ s b g ≤ 200 := by
  have F := r.fm
  have h0 := (goods_no (r.goods g hg)).2 b hb
  have h1 := F.sh.num b (by rw [F.sh.n]; exact hb) g hg
  have h2 := heldTo_bd (s := s) (b := b) (g := g) F.holdN
  have h3 := fromTo_bd (s := s) (b := b) (g := g) F.moveN
  refine ⟨h0, ?_⟩
  unfold availZ
  omega
set_option maxRecDepth 100000 in
set_option maxHeartbeats 4000000 in
theorem atMost_any (p : Pl) (s : St) (g f b : Nat) (n : Int) (w : World) (hp : p.At w) (hs : s.At w) (r : RightT p s) (hg : g < p.ns) (hf : f < p.nb) (hb : b < p.nb) :
    Calls Try.prog 38 #[p.val, s.val, .agg #[.int .i64 g, .int .i64 f, .int .i64 b, .int .i64 n]] w fun e w' => e = .returned (.int .i64 (fillN p s b g f)) ∧ Below w.heap.size w w' := by
  obtain ⟨W0, hW, hWB, X0, K0⟩ : ∃ W, (((w.alloc (.cells #[.slice p.ab p.nb p.cb, .slice p.sa p.ns p.cs] 25)).alloc (.cells s.cells 31)).alloc (.cells #[.int .i64 g, .int .i64 f, .int .i64 b, .int .i64 n] 55)) = W ∧ Below w.heap.size w W ∧ Boxes W w.heap.size (w.heap.size + 1) p s ∧ Blk W (w.heap.size + 1 + 1) 55 4 (fun j => (#[.int .i64 g, .int .i64 f, .int .i64 b, .int .i64 n] : Array Value).getD j default) :=
    ⟨_, rfl, (two_below _ _ _).alloc (by simp; omega) _, (boxes_new w p s _ _).below ((Below.refl _ _).alloc (Nat.le_refl _) _), Blk.mk' (cur := #[.int .i64 g, .int .i64 f, .int .i64 b, .int .i64 n]) (by simp) rfl⟩
  have HC : Hid (∀ wk, Below W0.heap.size W0 wk → Boxes wk w.heap.size (w.heap.size + 1) p s ∧ p.At wk ∧ s.At wk ∧ Below w.heap.size w wk ∧ Blk wk (w.heap.size + 1 + 1) 55 4 (fun j => (#[.int .i64 g, .int .i64 f, .int .i64 b, .int .i64 n] : Array Value).getD j default)) := fun wk h => ⟨X0.below h, (hp.below hWB).below h, (hs.below hWB).below h, hWB.trans (h.mono hWB.size), K0.below h⟩
  have HW : Hid (((w.alloc (.cells #[.slice p.ab p.nb p.cb, .slice p.sa p.ns p.cs] 25)).alloc (.cells #[.slice s.on.a s.on.n s.on.c, .slice s.os.a s.os.n s.os.c, .slice s.hs.a s.hs.n s.hs.c, .slice s.ms.a s.ms.n s.ms.c, .slice s.si.a s.si.n s.si.c, .slice s.so.a s.so.n s.so.c, .slice s.sf.a s.sf.n s.sf.c] 31)).alloc (.cells #[.int .i64 g, .int .i64 f, .int .i64 b, .int .i64 n] 55) = W0) := hW
  have leb := hp.leb
  have capb := hp.capb
  have les := hp.les
  have caps := hp.caps
  unfold maxLen at capb caps
  have HR : Hid (RightT p s) := r
  have g0 : (0 : Int) ≤ (g : Int) := by omega
  have b0 : (0 : Int) ≤ (b : Int) := by omega
  have g1 : (g : Int) < (p.ns : Int) := by omega
  have b1 : (b : Int) < (p.nb : Int) := by omega
  clear hW X0 hp hs r
  unfold Pl.val St.val
  go_enter Try.func38, Try.ntmps38
  go_wp2_with fail
  rw [HW.out]
  clear HW
  have hB0 : Below W0.heap.size W0 W0 := Below.refl _ _
  obtain ⟨⟨⟨l1, d0, d1⟩, l2, c0, c1, c2, c3, c4, c5, c6⟩, hpk, hsk, hBw, hk⟩ := HC.out W0 hB0
  obtain ⟨bb, ob, hab, hbb, z0, z1, z2, z3⟩ := hpk.bins b hb
  have m0 : W0.cell? ⟨w.heap.size + 1 + 1, 0, none⟩ = some (.int .i64 g) := hk.cell (j := 0) (by decide)
  have m2 : W0.cell? ⟨w.heap.size + 1 + 1, 2, none⟩ = some (.int .i64 b) := hk.cell (j := 2) (by decide)
  have ml := hk.lt
  rw [hab] at d0
  have HLY : Hid (∀ wk, s.At wk → Calls Try.prog 37 #[.agg #[.slice s.on.a s.on.n s.on.c, .slice s.os.a s.os.n s.os.c, .slice s.hs.a s.hs.n s.hs.c, .slice s.ms.a s.ms.n s.ms.c, .slice s.si.a s.si.n s.si.c, .slice s.so.a s.so.n s.so.c, .slice s.sf.a s.sf.n s.sf.c], .int .i64 b, .int .i64 g] wk fun e w' => e = .returned (.int .i64 (lyingZ s b g)) ∧ Below wk.heap.size wk w') := fun wk h => Lying_any p s b g wk h HR.out.fm hb hg
  have HSA : Hid (s.At W0) := hsk
  have hi := high_bdF HR.out.fm.sh.pl hb
  have ly := lying_bdF HR.out.fm hb hg
  have HN : Hid (fillN p s b g f = min (min ((p.zb b).high - lyingZ s b g) (availZ s f g)) ((freeZ p s b).tdiv (p.zs g))) := rfl
  have av := avail_bdF HR.out hf hg
  have fr := free_bdF HR.out.fm hb
  have sz := HR.out.fm.sh.pl.sizes g hg
  have rd0 := fun d os => cell_regrown d0 d os
  have rz3 := fun d os => cell_regrown z3 d os
  have rm0 := fun d os => cell_regrown m0 d os
  have rm2 := fun d os => cell_regrown m2 d os
  have rc0 := fun d os => cell_regrown c0 d os
  have rc1 := fun d os => cell_regrown c1 d os
  have rc2 := fun d os => cell_regrown c2 d os
  have rc3 := fun d os => cell_regrown c3 d os
  have rc4 := fun d os => cell_regrown c4 d os
  have rc5 := fun d os => cell_regrown c5 d os
  have rc6 := fun d os => cell_regrown c6 d os
  generalize lyingZ s b g = LY at *
  generalize (p.zb b).high = HI at *
  clear hab hpk hsk hBw hk d0 d1 c0 c1 c2 c3 c4 c5 c6 z0 z1 z2 z3 m0 m2 hB0
  refine wp_region_quiet_below (by kernel_rfl) (by kernel_rfl) ?_
  repeat (go_big_quiet_step ((go_at_call 37; exact Calls.regrown_of (HLY.out _ (HSA.out.below (below_regrown _ _ _))))))
  refine wpQuiet_nil ?_
  intro w1 hw1
  have hB := below_of_regrown hw1
  clear rd0 rz3 rm0 rm2 rc0 rc1 rc2 rc3 rc4 rc5 rc6 HLY HSA hw1 l1 l2 ml hbb
  obtain ⟨⟨⟨l1, d0, d1⟩, l2, c0, c1, c2, c3, c4, c5, c6⟩, hpk, hsk, hBw, hk⟩ := HC.out w1 hB
  have m0 : w1.cell? ⟨w.heap.size + 1 + 1, 0, none⟩ = some (.int .i64 g) := hk.cell (j := 0) (by decide)
  have m1 : w1.cell? ⟨w.heap.size + 1 + 1, 1, none⟩ = some (.int .i64 f) := hk.cell (j := 1) (by decide)
  have ml := hk.lt
  clear hpk hsk hBw hk
  go_wp2_with fail
  refine Calls.mono (Avail_rightW p s f g w1 (HC.out w1 hB).2.1 (HC.out w1 hB).2.2.1 (stateE_of HR.out) hf hg) ?_
  rintro e w2 ⟨rfl, hB2⟩
  have hB := hB.trans (hB2.mono hB.size)
  clear l1 d0 d1 l2 c0 c1 c2 c3 c4 c5 c6 m0 m1 ml hB2
  generalize availZ s f g = AV at *
  obtain ⟨⟨⟨l1, d0, d1⟩, l2, c0, c1, c2, c3, c4, c5, c6⟩, hpk, hsk, hBw, hk⟩ := HC.out w2 hB
  have m2 : w2.cell? ⟨w.heap.size + 1 + 1, 2, none⟩ = some (.int .i64 b) := hk.cell (j := 2) (by decide)
  have ml := hk.lt
  clear hpk hsk hBw hk
  go_wp2_with fail
  refine Calls.mono (Free_rightW p s b w2 (HC.out w2 hB).2.1 (HC.out w2 hB).2.2.1 (stateE_of HR.out) hb) ?_
  rintro e w3 ⟨rfl, hB2⟩
  have hB := hB.trans (hB2.mono hB.size)
  clear l1 d0 d1 l2 c0 c1 c2 c3 c4 c5 c6 m2 ml hB2
  generalize freeZ p s b = FR at *
  obtain ⟨⟨⟨l1, d0, d1⟩, l2, c0, c1, c2, c3, c4, c5, c6⟩, hpk, hsk, hBw, hk⟩ := HC.out w3 hB
  have m0 : w3.cell? ⟨w.heap.size + 1 + 1, 0, none⟩ = some (.int .i64 g) := hk.cell (j := 0) (by decide)
  have ml := hk.lt
  obtain ⟨bs, os, has, hbs, y0⟩ := hpk.sizes g hg
  rw [has] at d1
  clear hpk hsk hk has
  generalize p.zs g = ZS at *
  by_cases q1 : AV < HI - LY
  all_goals (
    go_wp2_with fail
    all_goals (
      go_ret
      refine ⟨?_, hBw⟩
      rw [HN.out]
      generalize FR.tdiv ZS = QQ at *
      refine congrArg (fun z => Ending.returned (Value.int .i64 z)) ?_
      omega))
end Go.Proofs.Ytbcacebifpagpae

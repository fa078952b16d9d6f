/- Texts that were built one behind the other, joined; what CountMore does not reach is left out. -/
import Derived.Test.YtbcacebifpagpafK1CountMore
import Derived.Maps.AppendAt
import Derived.ArgAppend
import Derived.Deep.Upon
import Derived.Lib.SliceRun
namespace Go.Proofs.Ytbcacebifpagpaf
open Go.RowKit
set_option linter.unusedVariables false
theorem ext_half {n m : Nat} {z y : Nat → Hd} (hr : anyB n (badH z) = false) (hq : anyB m (badH y) = false) (hk : ∀ o l b, keptV n z o l b = keptV m y o l b) (j : Nat)
    (ih : ∀ i, i < j → i < m → i < n ∧ z i = y i) (hj : j < n) : j < m ∧ keyH (y j) ≤ keyH (z j) := by
  have a := (kept_at hr hj (matchH_self (z j))).1
  have f := (fineH_true (right_fine hr j hj)).2.2.2
  rw [hk] at a
  obtain ⟨q1, q2, q3, q4, q5⟩ := kept_pos (o := (z j).o) (l := (z j).l) (b := (z j).b) hq (by omega)
  generalize dropI m y (z j).o (z j).l (z j).b = k at q1 q2 q3 q4 q5
  have hkey : keyH (y k) = keyH (z j) := match_key (n := (z j).n) q2
  have hjk : j ≤ k := by
    rcases Nat.lt_or_ge k j with c | c
    · obtain ⟨_, e⟩ := ih k c q1
      have := right_lt hr k j c hj
      rw [e] at this
      omega
    · exact c
  refine ⟨by omega, ?_⟩
  by_cases e : j = k
  · rw [e] at hkey ⊢; omega
  · have := q4 j (by omega); omega
theorem ext_at {n m : Nat} {z y : Nat → Hd} (hr : anyB n (badH z) = false) (hq : anyB m (badH y) = false) (hk : ∀ o l b, keptV n z o l b = keptV m y o l b) :
    ∀ k j, j < k → (j < n → j < m ∧ z j = y j) ∧ (j < m → j < n ∧ z j = y j) := by
  intro k
  induction k with
  | zero => intro j hj; omega
  | succ k ih =>
    intro j hj
    by_cases hjk : j < k
    · exact ih j hjk
    · have e : j = k := by omega
      subst e
      have both : j < n → j < m → z j = y j := fun h1 h2 => by
        have a := (ext_half hr hq hk j (fun i hi him => (ih i hi).2 him) h1).2
        have b := (ext_half hq hr (fun o l b => (hk o l b).symm) j (fun i hi him => ⟨((ih i hi).1 him).1, ((ih i hi).1 him).2.symm⟩) h2).2
        have hm := key_match (right_fine hr j h1) (right_fine hq j h2) (by omega)
        have k1 := (kept_at hr h1 hm).1
        have k2 := (kept_at hq h2 (matchH_self (y j))).1
        rw [hk, k2] at k1
        have c := matchH_true hm
        cases hz : z j
        cases hy : y j
        rw [hz, hy] at c k1
        simp only at c k1
        simp [c, k1]
      exact ⟨fun h => ⟨(ext_half hr hq hk j (fun i hi him => (ih i hi).2 him) h).1, both h (ext_half hr hq hk j (fun i hi him => (ih i hi).2 him) h).1⟩,
        fun h => ⟨(ext_half hq hr (fun o l b => (hk o l b).symm) j (fun i hi him => ⟨((ih i hi).1 him).1, ((ih i hi).1 him).2.symm⟩) h).1, both (ext_half hq hr (fun o l b => (hk o l b).symm) j (fun i hi him => ⟨((ih i hi).1 him).1, ((ih i hi).1 him).2.symm⟩) h).1 h⟩⟩
theorem right_ext {n m : Nat} {z y : Nat → Hd} (hr : anyB n (badH z) = false) (hq : anyB m (badH y) = false) (hk : ∀ o l b, keptV n z o l b = keptV m y o l b) : n = m ∧ ∀ j, j < n → z j = y j := by
  have h := ext_at hr hq hk
  refine ⟨?_, fun j hj => ((h (j + 1) j (by omega)).1 hj).2⟩
  rcases Nat.lt_trichotomy n m with c | c | c
  · have := ((h (n + 1) n (by omega)).2 c).1; omega
  · exact c
  · have := ((h (m + 1) m (by omega)).1 c).1; omega
theorem add_both {n : Nat} {z : Nat → Hd} {h : Hd} (hr : anyB n (badH z) = false) (hf : fineH h = true) (h2 : keptV n z h.o h.l h.b + h.n ≤ 200) :
    anyB (addLen n z h) (badH (addZ n z h)) = false ∧ ∀ o l b, keptV (addLen n z h) (addZ n z h) o l b = keptV n z o l b + if matchH h o l b then h.n else 0 := by
  by_cases h0 : keptV n z h.o h.l h.b = 0
  · have e1 : addLen n z h = n + 1 := if_pos h0
    have e2 : addZ n z h = insZ z (addPos n z h) h := if_pos h0
    rw [e1, e2]
    obtain ⟨a, b, _⟩ := add_ins hr hf h0
    exact ⟨a, b⟩
  · have e1 : addLen n z h = n := if_neg h0
    have e2 : addZ n z h = setZ z (addPos n z h) ⟨h.o, h.l, h.b, keptV n z h.o h.l h.b + h.n⟩ := if_neg h0
    rw [e1, e2]
    obtain ⟨a, b, _⟩ := add_set hr hf h0 h2
    exact ⟨a, b⟩
theorem addE_zero {n : Nat} {z : Nat → Hd} {h : Hd} (e : addE n z h = 0) : anyB n (badH z) = false ∧ fineH h = true ∧ keptV n z h.o h.l h.b + h.n ≤ 200 := by
  unfold addE at e
  by_cases h0 : checkH n z = 0
  · rw [if_pos h0] at e
    cases hf : fineH h
    · rw [hf] at e; simp at e
    · rw [hf] at e
      simp only [if_true] at e
      by_cases h2 : 200 < keptV n z h.o h.l h.b + h.n
      · rw [if_pos h2] at e; omega
      · exact ⟨checkH_zero h0, rfl, by omega⟩
  · rw [if_neg h0] at e; exact absurd e h0
theorem checkH_right {n : Nat} {z : Nat → Hd} (h : anyB n (badH z) = false) : checkH n z = 0 := by unfold checkH; rw [h]; rfl
theorem addE_of {n : Nat} {z : Nat → Hd} {h : Hd} (hr : anyB n (badH z) = false) (hf : fineH h = true) : addE n z h = if 200 < keptV n z h.o h.l h.b + h.n then 3 else 0 := by
  unfold addE
  rw [checkH_right hr, hf]
  rfl
theorem badH_congr {z y : Nat → Hd} {n : Nat} (h : ∀ j, j < n → z j = y j) : anyB n (badH z) = anyB n (badH y) := by
  have e : ∀ j, j < n → badH z j = badH y j := fun j hj => by
    unfold badH
    rw [h j hj]
    by_cases h0 : 0 < j
    · rw [h (j - 1) (by omega)]
    · simp [h0]
  cases hq : anyB n (badH y)
  · exact anyB_no fun j hj => by rw [e j hj]; exact anyB_false hq j hj
  · cases hz : anyB n (badH z)
    · have : anyB n (badH y) = false := anyB_no fun j hj => by rw [← e j hj]; exact anyB_false hz j hj
      rw [this] at hq; cases hq
    · rfl
theorem keptV_congr {z y : Nat → Hd} {n : Nat} (h : ∀ j, j < n → z j = y j) (o l b : Int) : keptV n z o l b = keptV n y o l b := by
  rcases keptV_cases n y o l b with hn | ⟨k, hk, h1, h2⟩
  · rw [keptV_none hn, keptV_none fun j hj => by rw [h j hj]; exact hn j hj]
  · rw [keptV_some hk h1 h2, keptV_some hk (fun j hj => by rw [h j (by omega)]; exact h1 j hj) (by rw [h k hk]; exact h2), h k hk]
theorem keptS_congr {z y : Nat → Hd} (o l : Int) : ∀ {n : Nat}, (∀ j, j < n → z j = y j) → keptS z o l n = keptS y o l n
  | 0, _ => rfl
  | n + 1, h => by
    simp only [keptS]
    rw [keptS_congr o l (n := n) fun j hj => h j (by omega), h n (by omega)]
theorem AddOK.right {n : Nat} {z : Nat → Hd} {h : Hd} {x : Hs} (hx : AddOK n z h x) (e : addE n z h = 0) :
    anyB x.n (badH x.z) = false ∧ ∀ o l b, keptV x.n x.z o l b = keptV n z o l b + if matchH h o l b then h.n else 0 := by
  obtain ⟨a, b, c⟩ := addE_zero e
  obtain ⟨r, k⟩ := add_both a b c
  have hn : x.n = addLen n z h := by have := hx.1; rw [if_pos e] at this; exact this
  have hz := hx.2
  rw [hn] at hz ⊢
  exact ⟨by rw [badH_congr hz]; exact r, fun o l b => by rw [keptV_congr hz]; exact k o l b⟩
theorem AddOK.none {n : Nat} {z : Nat → Hd} {h : Hd} {x : Hs} (hx : AddOK n z h x) (e : ¬ addE n z h = 0) : x.n = 0 := by
  have := hx.1; rw [if_neg e] at this; exact this
end Go.Proofs.Ytbcacebifpagpaf
namespace Go.Proofs.Ytbcacebifpagpaf
open Go.RowKit
set_option linter.unusedVariables false
theorem stateE_of {p : Pl} {s : St} (r : RightT p s) : stateE p s = 0 := by
  have f := r.fm
  have e1 : tooManyB s = false := by
    unfold tooManyB
    have h1 : decide (4 < s.os.n) = false := decide_eq_false (by have := f.os4; omega)
    have h2 : decide (8 < s.ms.n) = false := decide_eq_false (by have := f.ms8; omega)
    have h3 : anyB s.os.n (fun i => fewLines (s.os.z i)) = false := anyB_no fun i hi => by
      unfold fewLines
      rw [inB_mk (by have := f.lns i hi; omega)]
      rfl
    rw [h1, h2, h3]
    rfl
  have e2 : badOrdersB p s = false := anyB_no fun i hi => by
    unfold badOrder
    rw [inB_mk (f.kind i hi), anyB_no fun j hj => f.line i hi j hj]
    rfl
  have e3 : badHoldsB p s = false := by
    unfold badHoldsB
    rw [checkH_right f.hold, anyB_no f.home]
    rfl
  have e4 : badMovesB p s = false := anyB_no f.move
  have k : ∀ {r : Rw} {low : Int}, r.n = p.ns → (∀ j, j < p.ns → low ≤ r.z j ∧ r.z j ≤ 1048576) → badSum p r low = false := fun {r low} h1 h2 => by
    unfold badSum
    rw [Bool.or_eq_false_iff]
    refine ⟨by simp [h1], anyB_no fun j hj => ?_⟩
    rw [inB_mk (h2 j (by omega))]
    rfl
  have e5 : badSumsB p s = false := by
    unfold badSumsB
    rw [k f.sin f.sib, k f.son f.sob, k f.sfn f.sfb]
    rfl
  rw [stateE_sum f.sh0 e1 e2 e3 e4 e5, show wrongGoodsB p s = false from anyB_no r.goods, show wrongOrdersB s = false from anyB_no r.orders]
  rfl
theorem homeless_mk {p : Pl} {s : St} {h : Hd} (h1 : 0 ≤ h.o ∧ h.o.toNat < s.os.n) (h2 : 0 ≤ h.l ∧ h.l.toNat < (s.os.z h.o.toNat).ls.n) (h3 : 0 ≤ h.b ∧ h.b < p.nb) : homeless p s h = false := by
  unfold homeless
  rw [inB_mk (by omega), inB_mk (by omega), inB_mk (by omega)]
  rfl
theorem heldTo_eq {x s : St} {b g : Int} : ∀ {k : Nat}, (∀ j, j < k → x.hs.z j = s.hs.z j) → (∀ j, j < k → goodH x (s.hs.z j) = goodH s (s.hs.z j)) → heldTo x b g k = heldTo s b g k
  | 0, _, _ => rfl
  | k + 1, h1, h2 => by
    simp only [heldTo]
    rw [heldTo_eq (k := k) (fun j hj => h1 j (by omega)) (fun j hj => h2 j (by omega)), h1 k (by omega), h2 k (by omega)]
theorem fromTo_eq {x s : St} {b g : Int} : ∀ {k : Nat}, (∀ j, j < k → x.ms.z j = s.ms.z j) → fromTo x b g k = fromTo s b g k
  | 0, _ => rfl
  | k + 1, h1 => by
    simp only [fromTo]
    rw [fromTo_eq (k := k) (fun j hj => h1 j (by omega)), h1 k (by omega)]
theorem takeTo_eq {p : Pl} {x s : St} {b : Int} : ∀ {k : Nat}, (∀ j, j < k → x.ms.z j = s.ms.z j) → takeTo p x b k = takeTo p s b k
  | 0, _ => rfl
  | k + 1, h1 => by
    simp only [takeTo]
    rw [takeTo_eq (k := k) (fun j hj => h1 j (by omega)), h1 k (by omega)]
section
variable {p : Pl} {x t : St}
theorem SameT.held (h : SameT x t) (f : Formed p t) (b g : Int) : heldTo x b g x.hs.n = heldTo t b g t.hs.n := by
  rw [h.hs.1]
  refine heldTo_eq (fun j hj => h.hs.2 j (by rw [h.hs.1]; exact hj)) (fun j hj => ?_)
  obtain ⟨h1, h2, -⟩ := homeless_no (f.home j hj)
  unfold goodH
  have o := h.os.2 (t.hs.z j).o.toNat (by rw [h.os.1]; exact h1.2)
  rw [o.2.2 (t.hs.z j).l.toNat (by rw [o.2.1]; exact h2.2)]
theorem SameT.from (h : SameT x t) (b g : Int) : fromTo x b g x.ms.n = fromTo t b g t.ms.n := by
  rw [h.ms.1]
  exact fromTo_eq fun j hj => h.ms.2 j (by rw [h.ms.1]; exact hj)
theorem SameT.num (h : SameT x t) (f : Formed p t) {b g : Nat} (hb : b < p.nb) (hg : g < p.ns) : (x.on.r b).z g = (t.on.r b).z g := by
  have hb' : b < t.on.n := by rw [f.sh.n]; exact hb
  have r := h.on.2 b (by rw [h.on.1]; exact hb')
  exact r.2 g (by rw [r.1, f.sh.len b hb']; exact hg)
theorem SameT.avail (h : SameT x t) (f : Formed p t) {b g : Nat} (hb : b < p.nb) (hg : g < p.ns) : availZ x b g = availZ t b g := by
  unfold availZ
  rw [h.num f hb hg, h.held f, h.from]
theorem SameT.free (h : SameT x t) (f : Formed p t) {b : Nat} (hb : b < p.nb) : freeZ p x b = freeZ p t b := by
  unfold freeZ
  have e : usedTo (x.on.r b).z p.zs p.ns = usedTo (t.on.r b).z p.zs p.ns := usedTo_congr fun j hj => h.num f hb hj
  rw [e, h.ms.1, takeTo_eq fun j hj => h.ms.2 j (by rw [h.ms.1]; exact hj)]
theorem SameT.formed (h : SameT x t) (f : Formed p t) : Formed p x := by
  have hp := (rightS f.sh0).1
  have hs : RightS p x.on := ⟨f.sh.pl, h.on.1.trans f.sh.n, fun i hi => (h.on.2 i hi).1.trans (f.sh.len i (by rw [← h.on.1]; exact hi)), fun i hi j hj => by
    have hi' : i < t.on.n := by rw [← h.on.1]; exact hi
    rw [h.num f (by rw [← f.sh.n]; exact hi') hj]
    exact f.sh.num i hi' j hj⟩
  have o : ∀ i, i < x.os.n → i < t.os.n := fun i hi => by rw [← h.os.1]; exact hi
  refine ⟨hs, shelfE_mk hp hs, by rw [h.os.1]; exact f.os4, by rw [h.ms.1]; exact f.ms8, fun i hi => by rw [(h.os.2 i hi).2.1]; exact f.lns i (o i hi), fun i hi => by rw [(h.os.2 i hi).1]; exact f.kind i (o i hi), fun i hi j hj => ?_, ?_, fun i hi => ?_, fun i hi => ?_, h.si.1.trans f.sin, h.so.1.trans f.son, h.sf.1.trans f.sfn, fun j hj => ?_, fun j hj => ?_, fun j hj => ?_⟩
  · rw [(h.os.2 i hi).2.2 j hj]
    exact f.line i (o i hi) j (by rw [← (h.os.2 i hi).2.1]; exact hj)
  · rw [h.hs.1, badH_congr fun j hj => h.hs.2 j (by rw [h.hs.1]; exact hj)]
    exact f.hold
  · have hi' : i < t.hs.n := by rw [← h.hs.1]; exact hi
    obtain ⟨h1, h2, h3⟩ := homeless_no (f.home i hi')
    rw [h.hs.2 i hi]
    have h1' : (t.hs.z i).o.toNat < x.os.n := by rw [h.os.1]; exact h1.2
    exact homeless_mk ⟨h1.1, h1'⟩ ⟨h2.1, by rw [(h.os.2 _ h1').2.1]; exact h2.2⟩ h3
  · rw [h.ms.2 i hi]
    exact f.move i (by rw [← h.ms.1]; exact hi)
  · rw [h.si.2 j (by rw [h.si.1, f.sin]; exact hj)]; exact f.sib j hj
  · rw [h.so.2 j (by rw [h.so.1, f.son]; exact hj)]; exact f.sob j hj
  · rw [h.sf.2 j (by rw [h.sf.1, f.sfn]; exact hj)]; exact f.sfb j hj
theorem SameT.right (h : SameT x t) (r : RightT p t) : RightT p x := by
  have f := r.fm
  refine ⟨h.formed f, fun g hg => ?_, fun i hi => ?_⟩
  · have := r.goods g hg
    rw [wrongGood_eq] at this ⊢
    rw [← this]
    congr 1
    · have e : sumTo (fun i => (x.on.r i).z g) x.on.n = sumTo (fun i => (t.on.r i).z g) t.on.n := by
        rw [h.on.1]
        exact sumTo_congr fun i hi => h.num f (by rw [← f.sh.n]; exact hi) hg
      rw [e, h.si.2 g (by rw [h.si.1, f.sin]; exact hg), h.so.2 g (by rw [h.so.1, f.son]; exact hg), h.sf.2 g (by rw [h.sf.1, f.sfn]; exact hg)]
    · exact anyB_congr fun b hb => by rw [h.avail f hb hg]
  · have hi' : i < t.os.n := by rw [← h.os.1]; exact hi
    have := r.orders i hi'
    rw [← this]
    obtain ⟨e1, e2, e3⟩ := h.os.2 i hi
    unfold wrongOrder
    rw [e1, e2]
    congr 1
    · congr 2
      exact anyB_congr fun j hj => by rw [e3 j (by rw [e2]; exact hj)]
    · refine anyB_congr fun j hj => ?_
      rw [e3 j (by rw [e2]; exact hj), h.hs.1, keptS_congr _ _ fun j hj => h.hs.2 j (by rw [h.hs.1]; exact hj)]
end
end Go.Proofs.Ytbcacebifpagpaf
namespace Go.Proofs.Ytbcacebifpagpaf
open Go.RowKit Go.Shelf
set_option linter.unusedVariables false
def frL (p : Pl) (f : Bool) (k : Nat) : List Int := ((List.range k).filter (fun i => (p.zb i).front == f)).map Int.ofNat
theorem frL_hit {p : Pl} {f : Bool} {k : Nat} (h : (p.zb k).front = f) : frL p f (k + 1) = frL p f k ++ [(k : Int)] := by simp [frL, List.range_succ, h]
theorem frL_miss {p : Pl} {f : Bool} {k : Nat} (h : ¬ (p.zb k).front = f) : frL p f (k + 1) = frL p f k := by simp [frL, List.range_succ, h]
theorem frL_len (p : Pl) (f : Bool) (k : Nat) : (frL p f k).length ≤ k := by
  unfold frL
  rw [List.length_map]
  exact Nat.le_trans (List.length_filter_le _ _) (by simp)
def wayL (p : Pl) : List Int := frL p true p.nb ++ frL p false p.nb
theorem Rw.ofOwns {w : World} {base : Nat} {v : Value} {xs : List Int} (h : w.ownsRow base 3 1 v xs.length (xs.map (Value.int .i64))) : ∃ r : Rw, v = r.val ∧ r.At w ∧ r.n = xs.length ∧ ∀ j, j < r.n → r.z j = xs.getD j 0 := by
  by_cases hv : v = .slice Option.none 0 0
  · subst hv
    have h0 : xs.length = 0 := by
      rcases h.2 with ⟨_, h0⟩ | ⟨g2, cap2, cur2, e, _⟩
      · exact h0
      · cases e
    exact ⟨⟨Option.none, 0, 0, fun _ => 0⟩, rfl, ⟨Nat.le_refl _, Nat.zero_le _, fun i hi => absurd hi (Nat.not_lt_zero _)⟩, h0.symm, fun j hj => absurd hj (Nat.not_lt_zero _)⟩
  · obtain ⟨g, c, rfl, h1, h2, h3, h4⟩ := Blk.ofOwns h hv
    rw [Nat.mul_one] at h4
    refine ⟨⟨some ⟨g, 0, Option.none⟩, xs.length, c, fun j => xs.getD j 0⟩, rfl, ⟨h1, h2, fun i hi => ?_⟩, rfl, fun j _ => rfl⟩
    have hi' : i < xs.length := hi
    refine ⟨g, 0, rfl, h4.lt, ?_⟩
    have := h4.cell (j := i) hi'
    rw [Nat.zero_add, this]
    simp [List.getD, hi']
end Go.Proofs.Ytbcacebifpagpaf
namespace Go.Proofs.Ytbcacebifpagpaf
open Go.RowKit
set_option linter.unusedVariables false
def wayB (p : Pl) (x : Int) : Bool := (p.zb x.toNat).front
theorem frL_mem {p : Pl} {f : Bool} {k : Nat} {x : Int} (h : x ∈ frL p f k) : 0 ≤ x ∧ x < k ∧ wayB p x = f := by
  simp only [frL, List.mem_map, List.mem_filter, List.mem_range, beq_iff_eq] at h
  obtain ⟨i, ⟨hi, hf⟩, rfl⟩ := h
  exact ⟨Int.natCast_nonneg _, by simp only [Int.ofNat_eq_natCast]; omega, hf⟩
theorem frL_pw (p : Pl) (f : Bool) : ∀ k, (frL p f k).Pairwise (· < ·)
  | 0 => by simp [frL]
  | k + 1 => by
    by_cases h : (p.zb k).front = f
    · rw [frL_hit h, List.pairwise_append]
      refine ⟨frL_pw p f k, List.pairwise_singleton _ _, fun x hx y hy => ?_⟩
      rw [List.mem_singleton] at hy
      have := (frL_mem hx).2.1
      omega
    · rw [frL_miss h]; exact frL_pw p f k
theorem frL_two (p : Pl) : ∀ k, (frL p true k).length + (frL p false k).length = k
  | 0 => by simp [frL]
  | k + 1 => by
    have ih := frL_two p k
    cases h : (p.zb k).front
    · rw [frL_hit h, frL_miss (by rw [h]; decide), List.length_append, List.length_singleton]; omega
    · rw [frL_hit h, frL_miss (by rw [h]; decide), List.length_append, List.length_singleton]; omega
theorem way_len (p : Pl) : (wayL p).length = p.nb := by
  unfold wayL
  rw [List.length_append, frL_two]
theorem way_mem {p : Pl} {x : Int} (h : x ∈ wayL p) : 0 ≤ x ∧ x < p.nb := by
  unfold wayL at h
  rw [List.mem_append] at h
  rcases h with h | h
  · exact ⟨(frL_mem h).1, (frL_mem h).2.1⟩
  · exact ⟨(frL_mem h).1, (frL_mem h).2.1⟩
theorem way_pw (p : Pl) : (wayL p).Pairwise (fun x y => ¬ x = y ∧ (wayB p y = true → wayB p x = true) ∧ (wayB p x = wayB p y → x < y)) := by
  unfold wayL
  rw [List.pairwise_append]
  refine ⟨?_, ?_, fun x hx y hy => ?_⟩
  · refine List.Pairwise.imp_of_mem ?_ (frL_pw p true p.nb)
    intro x y hx hy h
    exact ⟨by omega, fun _ => (frL_mem hx).2.2, fun _ => h⟩
  · refine List.Pairwise.imp_of_mem ?_ (frL_pw p false p.nb)
    intro x y hx hy h
    refine ⟨by omega, fun e => ?_, fun _ => h⟩
    rw [(frL_mem hy).2.2] at e; cases e
  · have a := (frL_mem hx).2.2
    have b := (frL_mem hy).2.2
    refine ⟨fun e => ?_, fun e => a, fun e => ?_⟩
    · rw [e, b] at a; cases a
    · rw [a, b] at e; cases e
def wayR (p : Pl) : List Int := if planE p = 0 then wayL p else []
theorem wayR_yes {p : Pl} (h : planE p = 0) : wayR p = wayL p := if_pos h
theorem wayR_no {p : Pl} (h : ¬ planE p = 0) : wayR p = [] := if_neg h
theorem owns_low {A A' : Nat} {w : World} {e : TypeId} {size : Nat} {v : Value} {n : Nat} {xs : List Value} (h : w.ownsRow A e size v n xs) (hA : A' ≤ A) : w.ownsRow A' e size v n xs :=
  ⟨h.1, h.2.imp_right fun ⟨g, cap, cur, h1, h2, h3⟩ => ⟨g, cap, cur, h1, Nat.le_trans hA h2, h3⟩⟩
end Go.Proofs.Ytbcacebifpagpaf
namespace Go.Proofs.Ytbcacebifpagpaf
open Go.RowKit Go.Shelf
set_option linter.unusedVariables false
def Cloned (A : Nat) (e : TypeId) (s : Hs) (w' : World) (s' : Hs) : Prop := s'.n = s.n ∧ (∀ j, j < s.n → s'.z j = s.z j) ∧ OwnH A e w' s' ∧ Room A w' e 4 s'.a s'.c
theorem OwnH.ofOwns {w : World} {base : Nat} {e : TypeId} {v : Value} {n : Nat} {z : Nat → Hd} (h : w.ownsRow base e 4 v n (flatH n z)) (hn : v ≠ .slice none 0 0) : ∃ s : Hs, v = s.val ∧ s.n = n ∧ s.z = z ∧ OwnH base e w s ∧ Room base w e 4 s.a s.c := by
  obtain ⟨g, c, rfl, h1, h2, h3, h4⟩ := Blk.ofOwns h hn
  exact ⟨⟨some ⟨g, 0, none⟩, n, c, z⟩, rfl, rfl, rfl, ⟨h1, h2, (fun e => by cases e), fun _ => ⟨g, rfl, h3, h4⟩⟩, Room.ofOwns h (Nat.le_refl _)⟩
theorem infoHoldC : (Try.prog.info? 54).map (fun i => (i.zero, i.size, i.bytes)) = some (some (.agg #[.int .i64 0, .int .i64 0, .int .i64 0, .int .i64 0]), 4, 32) := by kernel_rfl
set_option maxRecDepth 100000 in
set_option maxHeartbeats 1000000 in
theorem CloneHold_any (s : Hs) (w : World) (hs : s.At w) (hn : s.n ≤ 1000) :
    Calls Try.prog 51 #[s.val] w fun e w' => ∃ s' : Hs, e = .returned s'.val ∧ Cloned w.heap.size 54 s w' s' ∧ Below w.heap.size w w' := by
  obtain ⟨sle, scap, sh, snil⟩ := hs
  obtain ⟨sa, sn, sc, sz⟩ := s
  dsimp only at sle scap sh snil hn
  simp only [Hs.val]
  obtain ⟨i0, hi, hz0, hz1, hz2⟩ := info_parts infoHoldC
  have q22 : ∀ (w : World) (a : Option Addr) (n c n' c' : Nat), (binOp .eql 28 (.slice a n c) (.slice none n' c')).run Try.prog w = .ok (.bool a.isNone) w := fun w a n c n' c' => Lib.run_eql_slice_nil w _ _ a n c n' c' Try.underlying28
  cases sa with
  | none =>
    have hc0 := snil rfl
    subst hc0
    have hn0 : sn = 0 := by omega
    subst hn0
    go_enter Try.func51, Try.ntmps51
    go_wp2
    go_ret
    exact ⟨⟨none, 0, 0, sz⟩, rfl, ⟨rfl, fun j hj => rfl, ⟨Nat.le_refl _, Nat.zero_le _, fun _ => rfl, fun h => absurd h (Nat.lt_irrefl _)⟩, Or.inl rfl⟩, Below.refl _ _⟩
  | some ad =>
    have hnews : ∀ j u, (flatH sn sz)[j]? = some u → w.cell? (ad.add j) = some u ∧ (ad.add j).block < w.heap.size := fun j u hj => by
      have hlen := (List.getElem?_eq_some_iff.1 hj).1
      rw [flatH_len] at hlen
      obtain ⟨b, o, he, hb, -⟩ := sh 0 (by omega)
      simp only [Option.some.injEq] at he
      subst he
      exact ⟨HdsAt.news sh j u hj, by rw [Go.WideShapes.add_plain]; exact hb⟩
    have HN : Hid (∀ j u, (flatH sn sz)[j]? = some u → w.cell? (ad.add j) = some u ∧ (ad.add j).block < w.heap.size) := hnews
    clear hnews sh snil
    go_enter Try.func51, Try.ntmps51
    go_wp2_with (at_builtin; refine wpList_append_own _ rfl _ _ 28 rfl w.heap.size 54 i0 (.agg #[.int .i64 0, .int .i64 0, .int .i64 0, .int .i64 0]) 4 32 Try.underlying28 hi hz0 hz1 hz2 rfl (by decide) _ _ _ rfl (World.ownsRow_made w #[] 0 (Nat.le_refl _) (Nat.zero_le _) rfl) ad sn sc (flatH sn sz) rfl ?qc1 ?qc2 ?qc3 ?qc4 ?qc5 ?qc6 ?_)
    case qc1 => rw [flatH_len]
    case qc2 =>
      intro j u hj
      have := HN.out j u hj
      rw [((Below.refl w.heap.size w).alloc (Nat.le_refl _) _).cell (p := ad.add j) this.2]
      exact this.1
    case qc3 => exact flatH_one sn sz
    case qc4 => unfold maxLen; omega
    case qc5 => omega
    case qc6 => simp
    intro v' w1 hown hgrow hnil
    have hB : Below w.heap.size w w1 := ((Below.refl _ w).alloc (Nat.le_refl _) _).grown hgrow (by simp) (by intro k hk; simp [Value.ownBlock] at hk; omega)
    obtain ⟨s', rfl, e1, e2, e3⟩ := OwnH.ofOwns hown hnil
    clear hown hgrow hnil
    have HR : Hid (s'.n = sn ∧ s'.z = sz ∧ OwnH w.heap.size 54 w1 s' ∧ Room w.heap.size w1 54 4 s'.a s'.c) := ⟨e1, e2, e3⟩
    clear e1 e2 e3
    simp only [Hs.val]
    go_wp2
    go_ret
    exact ⟨s', rfl, ⟨HR.out.1, fun j _ => by rw [HR.out.2.1], HR.out.2.2⟩, hB⟩
theorem infoMoveC : (Try.prog.info? 40).map (fun i => (i.zero, i.size, i.bytes)) = some (some (.agg #[.int .i64 0, .int .i64 0, .int .i64 0, .int .i64 0]), 4, 32) := by kernel_rfl
set_option maxRecDepth 100000 in
set_option maxHeartbeats 1000000 in
theorem CloneMove_any (s : Hs) (w : World) (hs : s.At w) (hn : s.n ≤ 1000) :
    Calls Try.prog 52 #[s.val] w fun e w' => ∃ s' : Hs, e = .returned s'.val ∧ Cloned w.heap.size 40 s w' s' ∧ Below w.heap.size w w' := by
  obtain ⟨sle, scap, sh, snil⟩ := hs
  obtain ⟨sa, sn, sc, sz⟩ := s
  dsimp only at sle scap sh snil hn
  simp only [Hs.val]
  obtain ⟨i0, hi, hz0, hz1, hz2⟩ := info_parts infoMoveC
  have q22 : ∀ (w : World) (a : Option Addr) (n c n' c' : Nat), (binOp .eql 29 (.slice a n c) (.slice none n' c')).run Try.prog w = .ok (.bool a.isNone) w := fun w a n c n' c' => Lib.run_eql_slice_nil w _ _ a n c n' c' Try.underlying29
  cases sa with
  | none =>
    have hc0 := snil rfl
    subst hc0
    have hn0 : sn = 0 := by omega
    subst hn0
    go_enter Try.func52, Try.ntmps52
    go_wp2
    go_ret
    exact ⟨⟨none, 0, 0, sz⟩, rfl, ⟨rfl, fun j hj => rfl, ⟨Nat.le_refl _, Nat.zero_le _, fun _ => rfl, fun h => absurd h (Nat.lt_irrefl _)⟩, Or.inl rfl⟩, Below.refl _ _⟩
  | some ad =>
    have hnews : ∀ j u, (flatH sn sz)[j]? = some u → w.cell? (ad.add j) = some u ∧ (ad.add j).block < w.heap.size := fun j u hj => by
      have hlen := (List.getElem?_eq_some_iff.1 hj).1
      rw [flatH_len] at hlen
      obtain ⟨b, o, he, hb, -⟩ := sh 0 (by omega)
      simp only [Option.some.injEq] at he
      subst he
      exact ⟨HdsAt.news sh j u hj, by rw [Go.WideShapes.add_plain]; exact hb⟩
    have HN : Hid (∀ j u, (flatH sn sz)[j]? = some u → w.cell? (ad.add j) = some u ∧ (ad.add j).block < w.heap.size) := hnews
    clear hnews sh snil
    go_enter Try.func52, Try.ntmps52
    go_wp2_with (at_builtin; refine wpList_append_own _ rfl _ _ 29 rfl w.heap.size 40 i0 (.agg #[.int .i64 0, .int .i64 0, .int .i64 0, .int .i64 0]) 4 32 Try.underlying29 hi hz0 hz1 hz2 rfl (by decide) _ _ _ rfl (World.ownsRow_made w #[] 0 (Nat.le_refl _) (Nat.zero_le _) rfl) ad sn sc (flatH sn sz) rfl ?qc1 ?qc2 ?qc3 ?qc4 ?qc5 ?qc6 ?_)
    case qc1 => rw [flatH_len]
    case qc2 =>
      intro j u hj
      have := HN.out j u hj
      rw [((Below.refl w.heap.size w).alloc (Nat.le_refl _) _).cell (p := ad.add j) this.2]
      exact this.1
    case qc3 => exact flatH_one sn sz
    case qc4 => unfold maxLen; omega
    case qc5 => omega
    case qc6 => simp
    intro v' w1 hown hgrow hnil
    have hB : Below w.heap.size w w1 := ((Below.refl _ w).alloc (Nat.le_refl _) _).grown hgrow (by simp) (by intro k hk; simp [Value.ownBlock] at hk; omega)
    obtain ⟨s', rfl, e1, e2, e3⟩ := OwnH.ofOwns hown hnil
    clear hown hgrow hnil
    have HR : Hid (s'.n = sn ∧ s'.z = sz ∧ OwnH w.heap.size 40 w1 s' ∧ Room w.heap.size w1 40 4 s'.a s'.c) := ⟨e1, e2, e3⟩
    clear e1 e2 e3
    simp only [Hs.val]
    go_wp2
    go_ret
    exact ⟨s', rfl, ⟨HR.out.1, fun j _ => by rw [HR.out.2.1], HR.out.2.2⟩, hB⟩
theorem infoLineC : (Try.prog.info? 60).map (fun i => (i.zero, i.size, i.bytes)) = some (some (.agg #[.int .i64 0, .int .i64 0, .int .i64 0, .int .i64 0]), 4, 32) := by kernel_rfl
set_option maxRecDepth 100000 in
set_option maxHeartbeats 1000000 in
theorem CloneLine_any (s : Hs) (w : World) (hs : s.At w) (hn : s.n ≤ 1000) :
    Calls Try.prog 94 #[s.val] w fun e w' => ∃ s' : Hs, e = .returned s'.val ∧ Cloned w.heap.size 60 s w' s' ∧ Below w.heap.size w w' := by
  obtain ⟨sle, scap, sh, snil⟩ := hs
  obtain ⟨sa, sn, sc, sz⟩ := s
  dsimp only at sle scap sh snil hn
  simp only [Hs.val]
  obtain ⟨i0, hi, hz0, hz1, hz2⟩ := info_parts infoLineC
  have q22 : ∀ (w : World) (a : Option Addr) (n c n' c' : Nat), (binOp .eql 56 (.slice a n c) (.slice none n' c')).run Try.prog w = .ok (.bool a.isNone) w := fun w a n c n' c' => Lib.run_eql_slice_nil w _ _ a n c n' c' Try.underlying56
  cases sa with
  | none =>
    have hc0 := snil rfl
    subst hc0
    have hn0 : sn = 0 := by omega
    subst hn0
    go_enter Try.func94, Try.ntmps94
    go_wp2
    go_ret
    exact ⟨⟨none, 0, 0, sz⟩, rfl, ⟨rfl, fun j hj => rfl, ⟨Nat.le_refl _, Nat.zero_le _, fun _ => rfl, fun h => absurd h (Nat.lt_irrefl _)⟩, Or.inl rfl⟩, Below.refl _ _⟩
  | some ad =>
    have hnews : ∀ j u, (flatH sn sz)[j]? = some u → w.cell? (ad.add j) = some u ∧ (ad.add j).block < w.heap.size := fun j u hj => by
      have hlen := (List.getElem?_eq_some_iff.1 hj).1
      rw [flatH_len] at hlen
      obtain ⟨b, o, he, hb, -⟩ := sh 0 (by omega)
      simp only [Option.some.injEq] at he
      subst he
      exact ⟨HdsAt.news sh j u hj, by rw [Go.WideShapes.add_plain]; exact hb⟩
    have HN : Hid (∀ j u, (flatH sn sz)[j]? = some u → w.cell? (ad.add j) = some u ∧ (ad.add j).block < w.heap.size) := hnews
    clear hnews sh snil
    go_enter Try.func94, Try.ntmps94
    go_wp2_with (at_builtin; refine wpList_append_own _ rfl _ _ 56 rfl w.heap.size 60 i0 (.agg #[.int .i64 0, .int .i64 0, .int .i64 0, .int .i64 0]) 4 32 Try.underlying56 hi hz0 hz1 hz2 rfl (by decide) _ _ _ rfl (World.ownsRow_made w #[] 0 (Nat.le_refl _) (Nat.zero_le _) rfl) ad sn sc (flatH sn sz) rfl ?qc1 ?qc2 ?qc3 ?qc4 ?qc5 ?qc6 ?_)
    case qc1 => rw [flatH_len]
    case qc2 =>
      intro j u hj
      have := HN.out j u hj
      rw [((Below.refl w.heap.size w).alloc (Nat.le_refl _) _).cell (p := ad.add j) this.2]
      exact this.1
    case qc3 => exact flatH_one sn sz
    case qc4 => unfold maxLen; omega
    case qc5 => omega
    case qc6 => simp
    intro v' w1 hown hgrow hnil
    have hB : Below w.heap.size w w1 := ((Below.refl _ w).alloc (Nat.le_refl _) _).grown hgrow (by simp) (by intro k hk; simp [Value.ownBlock] at hk; omega)
    obtain ⟨s', rfl, e1, e2, e3⟩ := OwnH.ofOwns hown hnil
    clear hown hgrow hnil
    have HR : Hid (s'.n = sn ∧ s'.z = sz ∧ OwnH w.heap.size 60 w1 s' ∧ Room w.heap.size w1 60 4 s'.a s'.c) := ⟨e1, e2, e3⟩
    clear e1 e2 e3
    simp only [Hs.val]
    go_wp2
    go_ret
    exact ⟨s', rfl, ⟨HR.out.1, fun j _ => by rw [HR.out.2.1], HR.out.2.2⟩, hB⟩
end Go.Proofs.Ytbcacebifpagpaf
namespace Go.Proofs.Ytbcacebifpagpaf
open Go.RowKit Go.Shelf
set_option linter.unusedVariables false
def odCells (x : Od) : List Value := [.int .i64 x.k, .slice x.ls.a x.ls.n x.ls.c]
def flatO : Nat → (Nat → Od) → List Value
  | 0, _ => []
  | n + 1, z => flatO n z ++ odCells (z n)
theorem flatO_len : ∀ (n : Nat) (z : Nat → Od), (flatO n z).length = n * 2
  | 0, _ => rfl
  | n + 1, z => by rw [flatO, List.length_append, flatO_len n z]; simp [odCells]; omega
theorem flatO_get : ∀ (n : Nat) (z : Nat → Od) (i c : Nat), i < n → c < 2 → (flatO n z)[i * 2 + c]? = (odCells (z i))[c]?
  | 0, _, i, c, hi, _ => absurd hi (Nat.not_lt_zero _)
  | n + 1, z, i, c, hi, hc => by
    rw [flatO]
    by_cases h : i = n
    · subst h
      rw [List.getElem?_append_right (by rw [flatO_len]; omega), flatO_len]
      congr 1
      omega
    · rw [List.getElem?_append_left (by rw [flatO_len]; omega)]
      exact flatO_get n z i c (by omega) hc
theorem flatO_at {n : Nat} {z : Nat → Od} {i c : Nat} (hi : i < n) (hc : c < 2) : (flatO n z).getD (i * 2 + c) default = (odCells (z i)).getD c default := by
  simp only [List.getD, flatO_get n z i c hi hc]
theorem flatO_one : ∀ (n : Nat) (z : Nat → Od), ∀ u ∈ flatO n z, u.oneCell' = true
  | 0, _, u, hu => by simp [flatO] at hu
  | n + 1, z, u, hu => by
    rw [flatO, List.mem_append] at hu
    rcases hu with hu | hu
    · exact flatO_one n z u hu
    · simp only [odCells, List.mem_cons, List.not_mem_nil, or_false] at hu
      rcases hu with rfl | rfl <;> rfl
theorem OdsAt.news {w : World} {b o n : Nat} {z : Nat → Od} (h : OdsAt w (some ⟨b, o, none⟩) n z) : ∀ j u, (flatO n z)[j]? = some u → w.cell? ((⟨b, o, none⟩ : Addr).add j) = some u := by
  intro j u hj
  have hlen := (List.getElem?_eq_some_iff.1 hj).1
  rw [flatO_len] at hlen
  obtain ⟨b', o', he, hb, h0, h1, -⟩ := h (j / 2) (by omega)
  simp only [Option.some.injEq, Addr.mk.injEq, and_true] at he
  obtain ⟨rfl, rfl⟩ := he
  rw [Go.WideShapes.add_plain]
  have hd : j = j / 2 * 2 + j % 2 := by omega
  rw [hd, flatO_get n z (j / 2) (j % 2) (by omega) (by omega)] at hj
  have h2 : j % 2 = 0 ∨ j % 2 = 1 := by omega
  rcases h2 with h2 | h2
  · rw [h2] at hj; simp [odCells] at hj; rw [← hj, ← h0]; congr 2; omega
  · rw [h2] at hj; simp [odCells] at hj; rw [← hj, ← h1]; congr 2; omega
theorem infoOrderC : (Try.prog.info? 58).map (fun i => (i.zero, i.size, i.bytes)) = some (some (.agg #[.int .i64 0, .slice none 0 0]), 2, 32) := by kernel_rfl
def ClonedO (s : Os) (A : Nat) (w' : World) (a' : Option Addr) (c' : Nat) : Prop := s.n ≤ c' ∧ c' ≤ maxLen ∧ (0 < s.n → ∃ g, a' = some ⟨g, 0, none⟩ ∧ A ≤ g ∧ Blk w' g 58 (s.n * 2) (fun j => (flatO s.n s.z).getD j default)) ∧ Room A w' 58 2 a' c'
set_option maxRecDepth 100000 in
set_option maxHeartbeats 1000000 in
theorem CloneOrder_any (s : Os) (w : World) (hs : s.At w) (hn : s.n ≤ 1000) :
    Calls Try.prog 93 #[s.val] w fun e w' => ∃ a' c', e = .returned (.slice a' s.n c') ∧ ClonedO s w.heap.size w' a' c' ∧ Below w.heap.size w w' := by
  obtain ⟨sle, scap, sh⟩ := hs
  obtain ⟨sa, sn, sc, sz⟩ := s
  dsimp only at sle scap sh hn
  simp only [Os.val]
  obtain ⟨i0, hi, hz0, hz1, hz2⟩ := info_parts infoOrderC
  have q22 : ∀ (w : World) (a : Option Addr) (n c n' c' : Nat), (binOp .eql 27 (.slice a n c) (.slice none n' c')).run Try.prog w = .ok (.bool a.isNone) w := fun w a n c n' c' => Lib.run_eql_slice_nil w _ _ a n c n' c' Try.underlying27
  cases sa with
  | none =>
    have hn0 : sn = 0 := by
      rcases Nat.eq_zero_or_pos sn with h | h
      · exact h
      · obtain ⟨b, o, he, _⟩ := sh 0 h
        cases he
    subst hn0
    go_enter Try.func93, Try.ntmps93
    go_wp2
    go_ret
    exact ⟨none, 0, rfl, ⟨Nat.le_refl _, Nat.zero_le _, fun h => absurd h (Nat.lt_irrefl _), Or.inl rfl⟩, Below.refl _ _⟩
  | some ad =>
    have HN : Hid (∀ j u, (flatO sn sz)[j]? = some u → w.cell? (ad.add j) = some u ∧ (ad.add j).block < w.heap.size) := fun j u hj => by
      have hlen := (List.getElem?_eq_some_iff.1 hj).1
      rw [flatO_len] at hlen
      obtain ⟨b, o, he, hb, -⟩ := sh 0 (by omega)
      simp only [Option.some.injEq] at he
      subst he
      exact ⟨OdsAt.news sh j u hj, by rw [Go.WideShapes.add_plain]; exact hb⟩
    clear sh
    go_enter Try.func93, Try.ntmps93
    go_wp2_with (at_builtin; refine wpList_append_own _ rfl _ _ 27 rfl w.heap.size 58 i0 (.agg #[.int .i64 0, .slice none 0 0]) 2 32 Try.underlying27 hi hz0 hz1 hz2 rfl (by decide) _ _ _ rfl (World.ownsRow_made w #[] 0 (Nat.le_refl _) (Nat.zero_le _) rfl) ad sn sc (flatO sn sz) rfl ?qc1 ?qc2 ?qc3 ?qc4 ?qc5 ?qc6 ?_)
    case qc1 => rw [flatO_len]
    case qc2 =>
      intro j u hj
      have := HN.out j u hj
      rw [((Below.refl w.heap.size w).alloc (Nat.le_refl _) _).cell (p := ad.add j) this.2]
      exact this.1
    case qc3 => exact flatO_one sn sz
    case qc4 => unfold maxLen; omega
    case qc5 => omega
    case qc6 => simp
    intro v' w1 hown hgrow hnil
    have hB : Below w.heap.size w w1 := ((Below.refl _ w).alloc (Nat.le_refl _) _).grown hgrow (by simp) (by intro k hk; simp [Value.ownBlock] at hk; omega)
    obtain ⟨g, c', rfl, h1, h2, h3, h4⟩ := Blk.ofOwns hown hnil
    have hroom := Room.ofOwns hown (Nat.le_refl _)
    clear hown hgrow hnil
    have HR : Hid (ClonedO ⟨some ad, sn, sc, sz⟩ w.heap.size w1 (some ⟨g, 0, none⟩) c') := ⟨h1, h2, fun _ => ⟨g, rfl, h3, h4⟩, hroom⟩
    clear h4 hroom
    go_wp2
    go_ret
    exact ⟨some ⟨g, 0, none⟩, c', rfl, HR.out, hB⟩
structure OwnO (A : Nat) (w : World) (s : Os) : Prop where
  le : s.n ≤ s.c
  cap : s.c ≤ maxLen
  list : 0 < s.n → ∃ g, s.a = some ⟨g, 0, none⟩ ∧ A ≤ g ∧ Blk w g 58 (s.n * 2) (fun j => (flatO s.n s.z).getD j default)
  lines : ∀ i, i < s.n → ∃ B, (s.z i).ls.a = some ⟨B, 0, none⟩ ∧ A ≤ B ∧ (s.z i).ls.n ≤ (s.z i).ls.c ∧ (s.z i).ls.c ≤ maxLen ∧ Blk w B 60 ((s.z i).ls.n * 4) (fun j => (flatH (s.z i).ls.n (s.z i).ls.z).getD j default)
  apart : ∀ i j, i < j → j < s.n → (s.z i).ls.a ≠ (s.z j).ls.a
  room : Room A w 58 2 s.a s.c
theorem OwnO.at {A : Nat} {w : World} {s : Os} (h : OwnO A w s) : s.At w := by
  refine ⟨h.le, h.cap, fun i hi => ?_⟩
  obtain ⟨g, ha, hA, hb⟩ := h.list (by omega)
  obtain ⟨B, hl, hA2, l1, l2, hb2⟩ := h.lines i hi
  have c0 := hb.cell (j := i * 2) (by omega)
  have c1 := hb.cell (j := i * 2 + 1) (by omega)
  have e0 := flatO_at (z := s.z) hi (show 0 < 2 by decide)
  have e1 := flatO_at (z := s.z) hi (show 1 < 2 by decide)
  rw [Nat.add_zero] at e0
  rw [e0] at c0
  rw [e1] at c1
  refine ⟨g, 0, ha, hb.lt, by rw [Nat.zero_add]; exact c0, by rw [Nat.zero_add]; exact c1, ?_⟩
  exact OwnH.at (A := A) (e := 60) ⟨l1, l2, (fun e => by rw [hl] at e; cases e), fun _ => ⟨B, hl, hA2, hb2⟩⟩
def SameO (s t : Os) : Prop := s.n = t.n ∧ ∀ i, i < s.n → (s.z i).k = (t.z i).k ∧ (s.z i).ls.n = (t.z i).ls.n ∧ ∀ j, j < (s.z i).ls.n → (s.z i).ls.z j = (t.z i).ls.z j
def mixO (s : Os) (k : Nat) (B C : Nat → Nat) (i : Nat) : Od := if i < k then ⟨(s.z i).k, ⟨some ⟨B i, 0, none⟩, (s.z i).ls.n, C i, (s.z i).ls.z⟩⟩ else s.z i
def CopL (s : Os) (A : Nat) (a' : Option Addr) (c' k : Nat) (wk : World) : Prop := Room A wk 58 2 a' c' ∧ ∃ B C : Nat → Nat, (0 < s.n → ∃ g, a' = some ⟨g, 0, none⟩ ∧ A ≤ g ∧ Blk wk g 58 (s.n * 2) (fun j => (flatO s.n (mixO s k B C)).getD j default)) ∧
  (∀ i, i < k → A ≤ B i ∧ (s.z i).ls.n ≤ C i ∧ C i ≤ maxLen ∧ Blk wk (B i) 60 ((s.z i).ls.n * 4) (fun j => (flatH (s.z i).ls.n (s.z i).ls.z).getD j default)) ∧ (∀ i j, i < j → j < k → B i < B j)
theorem flatO_congr : ∀ {n : Nat} {z z' : Nat → Od}, (∀ i, i < n → odCells (z i) = odCells (z' i)) → flatO n z = flatO n z'
  | 0, _, _, _ => rfl
  | n + 1, z, z', h => by rw [flatO, flatO, flatO_congr (n := n) fun i hi => h i (by omega), h n (by omega)]
theorem mix_step {s : Os} {k : Nat} {B C : Nat → Nat} {gB cB : Nat} (hk : k < s.n) (j : Nat) (hj : j < s.n * 2) :
    (if j = k * 2 + 1 then Value.slice (some ⟨gB, 0, none⟩) (s.z k).ls.n cB else (flatO s.n (mixO s k B C)).getD j default) = (flatO s.n (mixO s (k + 1) (fun i => if i = k then gB else B i) (fun i => if i = k then cB else C i))).getD j default := by
  have hd : j = j / 2 * 2 + j % 2 := by omega
  have h2 : j % 2 = 0 ∨ j % 2 = 1 := by omega
  have hi : j / 2 < s.n := by omega
  have e1 := flatO_at (z := mixO s k B C) hi (show j % 2 < 2 by omega)
  have e2 := flatO_at (z := mixO s (k + 1) (fun i => if i = k then gB else B i) (fun i => if i = k then cB else C i)) hi (show j % 2 < 2 by omega)
  rw [← hd] at e1 e2
  rw [e1, e2]
  by_cases hjk : j / 2 = k
  · have m1 : mixO s k B C (j / 2) = s.z k := by unfold mixO; rw [if_neg (by omega), hjk]
    have m2 : mixO s (k + 1) (fun i => if i = k then gB else B i) (fun i => if i = k then cB else C i) (j / 2) = ⟨(s.z k).k, ⟨some ⟨gB, 0, none⟩, (s.z k).ls.n, cB, (s.z k).ls.z⟩⟩ := by unfold mixO; rw [if_pos (by omega)]; simp [hjk]
    rw [m1, m2]
    rcases h2 with h2 | h2
    · rw [if_neg (by omega), h2]; rfl
    · rw [if_pos (by omega), h2]; rfl
  · rw [if_neg (by omega)]
    have m : mixO s k B C (j / 2) = mixO s (k + 1) (fun i => if i = k then gB else B i) (fun i => if i = k then cB else C i) (j / 2) := by
      unfold mixO
      by_cases hlt : j / 2 < k
      · rw [if_pos hlt, if_pos (by omega)]; simp [hjk]
      · rw [if_neg hlt, if_neg (by omega)]
    rw [m]
set_option maxRecDepth 100000 in
set_option maxHeartbeats 2000000 in
theorem copyOrders_any (s : Os) (w : World) (hs : s.At w) (hn : s.n ≤ 1000) (hl : ∀ i, i < s.n → 1 ≤ (s.z i).ls.n ∧ (s.z i).ls.n ≤ 3) :
    Calls Try.prog 50 #[s.val] w fun e w' => ∃ s' : Os, e = .returned s'.val ∧ SameO s' s ∧ OwnO w.heap.size w' s' ∧ Below w.heap.size w w' := by
  have HS : Hid (s.At w) := hs
  have HL : Hid (∀ i, i < s.n → 1 ≤ (s.z i).ls.n ∧ (s.z i).ls.n ≤ 3) := hl
  have sle := hs.le
  have scap := hs.cap
  unfold maxLen at scap
  clear hs hl
  simp only [Os.val]
  go_enter Try.func50, Try.ntmps50
  go_wp2_with fail
  refine (CloneOrder_any s w HS.out hn).mono ?_
  rintro e w1 ⟨a', c', rfl, hcl, hB1⟩
  have HCL : Hid (ClonedO s w.heap.size w1 a' c') := hcl
  clear hcl
  have c1 := HCL.out.1
  have c2 := HCL.out.2.1
  unfold maxLen at c2
  go_wp2_with fail
  go_loopw [10] (fun i wk => ∃ k : Nat, k ≤ s.n ∧ i = .int .i64 k ∧ Hid (CopL s w.heap.size a' c' k wk) ∧ Below w.heap.size w wk) (fun i _ => s.n - (intOf i).toNat)
  case atStart =>
    refine ⟨0, Nat.zero_le _, rfl, ⟨HCL.out.2.2.2, fun _ => 0, fun _ => 0, fun h => ?_, fun i hi => absurd hi (Nat.not_lt_zero _), fun i j _ hj => absurd hj (Nat.not_lt_zero _)⟩, hB1⟩
    obtain ⟨g, e1, e2, e3⟩ := HCL.out.2.2.1 h
    exact ⟨g, e1, e2, e3.congr (fun j hj => by rw [flatO_congr (z' := mixO s 0 (fun _ => 0) (fun _ => 0)) fun i hi => by unfold mixO; rw [if_neg (by omega)]])⟩
  case round =>
    clear hB1
    obtain ⟨k, hk, rfl, HG, hB⟩ := hrel
    by_cases hlt : k < s.n
    · obtain ⟨b, o, hoa, hb, z0, z1, hlk⟩ := (HS.out.below hB).ods k hlt
      have qk : (0 : Int) ≤ (k : Int) := by omega
      obtain ⟨hroom, B, C, hgl, hrow, hinc⟩ := HG.out
      have HRM : Hid (Room w.heap.size wr 58 2 a' c') := hroom
      obtain ⟨g, ha', hA, gb⟩ := hgl (by omega)
      have HR : Hid ((∀ i, i < k → w.heap.size ≤ B i ∧ (s.z i).ls.n ≤ C i ∧ C i ≤ maxLen ∧ Blk wr (B i) 60 ((s.z i).ls.n * 4) (fun j => (flatH (s.z i).ls.n (s.z i).ls.z).getD j default)) ∧ (∀ i j, i < j → j < k → B i < B j) ∧ a' = some ⟨g, 0, none⟩) := ⟨hrow, hinc, ha'⟩
      have HGB : Hid (Blk wr g 58 (s.n * 2) (fun j => (flatO s.n (mixO s k B C)).getD j default)) := gb
      have hn3 := HL.out k hlt
      have hBa := (Below.refl wr.heap.size wr).alloc (Nat.le_refl _) (.cells #[.int .i64 (s.z k).k, .slice (s.z k).ls.a (s.z k).ls.n (s.z k).ls.c] 58)
      have hlk2 := hlk.below hBa
      rw [hoa, ha']
      clear hoa ha' hgl hrow hinc gb HG hlk hroom
      go_wp2_with fail
      refine (CloneLine_any (s.z k).ls _ hlk2 (by omega)).mono ?_
      rintro e w2 ⟨s', rfl, hcl, hB2⟩
      obtain ⟨sa', sn', sc', sz'⟩ := s'
      obtain ⟨e1, e2, ⟨o1, o2, o3, o4⟩, -⟩ := hcl
      dsimp only at e1 e2 o1 o2 o3 o4
      subst e1
      obtain ⟨gB, e3, hgB, kB⟩ := o4 (by omega)
      subst e3
      have kB2 : Blk w2 gB 60 ((s.z k).ls.n * 4) (fun j => (flatH (s.z k).ls.n (s.z k).ls.z).getD j default) := kB.congr (fun j hj => by rw [flatH_congr e2])
      have hB12 := hBa.trans (hB2.mono hBa.size)
      have gb2 := HGB.out.below hB12
      have hsz := hBa.size
      have hf := gb2.frozen (k * 2 + 1)
      have hc := gb2.cell (j := k * 2 + 1) (by omega)
      rw [flatO_at (z := mixO s k B C) hlt (show 1 < 2 by decide)] at hc
      have hm : mixO s k B C k = s.z k := by unfold mixO; rw [if_neg (by omega)]
      rw [hm] at hc
      have hc2 : w2.cell? ⟨g, k * 2 + 1, none⟩ = some (.slice (s.z k).ls.a (s.z k).ls.n (s.z k).ls.c) := hc
      have hlg := gb2.lt
      have hBw2 := hB.trans (hB12.mono hB.size)
      have KB := gb2.set (k * 2 + 1) (.slice (some ⟨gB, 0, none⟩) (s.z k).ls.n sc')
      have HN : Hid (CopL s w.heap.size (some ⟨g, 0, none⟩) c' (k + 1) (w2.setCell ⟨g, k * 2 + 1, none⟩ (.slice (some ⟨gB, 0, none⟩) (s.z k).ls.n sc')) ∧ Below w.heap.size w (w2.setCell ⟨g, k * 2 + 1, none⟩ (.slice (some ⟨gB, 0, none⟩) (s.z k).ls.n sc'))) := by
        refine ⟨⟨(by have h := (HRM.out.below hB12).set g (k * 2 + 1) (.slice (some ⟨gB, 0, none⟩) (s.z k).ls.n sc'); rw [HR.out.2.2] at h; exact h), fun i => if i = k then gB else B i, fun i => if i = k then sc' else C i, fun _ => ⟨g, rfl, hA, KB.congr (fun j hj => mix_step hlt j hj)⟩, fun i hi => ?_, fun i j hij hj => ?_⟩, hBw2.setCell (p := ⟨g, k * 2 + 1, none⟩) hA _⟩
        · dsimp only
          by_cases hik : i = k
          · subst hik
            rw [if_pos rfl, if_pos rfl]
            exact ⟨by have := hB.size; omega, o1, o2, kB2.other (a := ⟨g, i * 2 + 1, none⟩) (Blk.ne2 kB2 gb2 (by decide)) _⟩
          · rw [if_neg hik, if_neg hik]
            obtain ⟨r1, r2, r3, r4⟩ := HR.out.1 i (by omega)
            have r5 := r4.below hB12
            exact ⟨r1, r2, r3, r5.other (a := ⟨g, k * 2 + 1, none⟩) (Blk.ne2 r5 gb2 (by decide)) _⟩
        · dsimp only
          by_cases hjk : j = k
          · subst hjk
            rw [if_neg (by omega), if_pos rfl]
            have := (HR.out.1 i hij).2.2.2.lt
            omega
          · rw [if_neg (by omega), if_neg hjk]
            exact HR.out.2.1 i j hij (by omega)
      clear KB kB kB2 gb2 hc hm hB12 HGB hB2 hlk2 hBw2
      simp only [Hs.val]
      go_wp2_with fail
      go_roundw
      case rel => exact ⟨k + 1, by omega, by go_num, HN.out.1, HN.out.2⟩
      case measure => simp [intOf]; omega
    · have hkn : k = s.n := by omega
      subst hkn
      go_wp2_with fail
      go_ret
      obtain ⟨hroom, B, C, hgl, hrow, hinc⟩ := HG.out
      refine ⟨⟨a', s.n, c', mixO s s.n B C⟩, rfl, ⟨rfl, fun i hi => ?_⟩, ⟨c1, HCL.out.2.1, hgl, fun i hi => ?_, fun i j hij hj => ?_, hroom⟩, hB⟩
      · have hi' : i < s.n := hi
        have m : mixO s s.n B C i = ⟨(s.z i).k, ⟨some ⟨B i, 0, none⟩, (s.z i).ls.n, C i, (s.z i).ls.z⟩⟩ := by unfold mixO; rw [if_pos hi']
        show (mixO s s.n B C i).k = _ ∧ (mixO s s.n B C i).ls.n = _ ∧ _
        rw [m]
        exact ⟨rfl, rfl, fun j _ => by show (mixO s s.n B C i).ls.z j = _; rw [m]⟩
      · have hi' : i < s.n := hi
        have m : mixO s s.n B C i = ⟨(s.z i).k, ⟨some ⟨B i, 0, none⟩, (s.z i).ls.n, C i, (s.z i).ls.z⟩⟩ := by unfold mixO; rw [if_pos hi']
        show ∃ B', (mixO s s.n B C i).ls.a = _ ∧ _ ∧ (mixO s s.n B C i).ls.n ≤ (mixO s s.n B C i).ls.c ∧ (mixO s s.n B C i).ls.c ≤ maxLen ∧ Blk _ B' _ ((mixO s s.n B C i).ls.n * 4) (fun j => (flatH (mixO s s.n B C i).ls.n (mixO s s.n B C i).ls.z).getD j default)
        rw [m]
        obtain ⟨r1, r2, r3, r4⟩ := hrow i hi'
        exact ⟨B i, rfl, r1, r2, r3, r4⟩
      · have hj' : j < s.n := hj
        show (mixO s s.n B C i).ls.a ≠ (mixO s s.n B C j).ls.a
        unfold mixO
        rw [if_pos (by omega), if_pos hj']
        have := hinc i j hij hj'
        simp only [ne_eq, Option.some.injEq, Addr.mk.injEq, and_true]
        omega
end Go.Proofs.Ytbcacebifpagpaf
namespace Go.Proofs.Ytbcacebifpagpaf
open Go.RowKit Go.Shelf Go.Sort
set_option linter.unusedVariables false
def NoneS (s : St) : Prop := s.on.n = 0 ∧ s.os.n = 0 ∧ s.hs.n = 0 ∧ s.ms.n = 0 ∧ s.si.n = 0 ∧ s.so.n = 0 ∧ s.sf.n = 0
def noneS : St := ⟨⟨none, 0, 0, fun _ => ⟨none, 0, 0, fun _ => 0⟩⟩, ⟨none, 0, 0, fun _ => ⟨0, ⟨none, 0, 0, fun _ => ⟨0, 0, 0, 0⟩⟩⟩⟩, ⟨none, 0, 0, fun _ => ⟨0, 0, 0, 0⟩⟩, ⟨none, 0, 0, fun _ => ⟨0, 0, 0, 0⟩⟩, ⟨none, 0, 0, fun _ => 0⟩, ⟨none, 0, 0, fun _ => 0⟩, ⟨none, 0, 0, fun _ => 0⟩⟩
theorem Rw.none (w : World) : Rw.At w ⟨.none, 0, 0, fun _ => 0⟩ := ⟨Nat.le_refl _, Nat.zero_le _, fun i hi => absurd hi (Nat.not_lt_zero _)⟩
theorem Hs.none (w : World) : Hs.At w ⟨.none, 0, 0, fun _ => ⟨0, 0, 0, 0⟩⟩ := ⟨Nat.le_refl _, Nat.zero_le _, fun i hi => absurd hi (Nat.not_lt_zero _), fun _ => rfl⟩
theorem noneS_at (w : World) : noneS.At w :=
  ⟨⟨Nat.le_refl _, Nat.zero_le _, fun i hi => absurd hi (Nat.not_lt_zero _)⟩, ⟨Nat.le_refl _, Nat.zero_le _, fun i hi => absurd hi (Nat.not_lt_zero _)⟩, Hs.none w, Hs.none w, Rw.none w, Rw.none w, Rw.none w⟩
def set7 (w : World) (b : Nat) (v0 v1 v2 v3 v4 v5 v6 : Value) : World :=
  ((((((w.setCell ⟨b, 0, none⟩ v0).setCell ⟨b, 1, none⟩ v1).setCell ⟨b, 2, none⟩ v2).setCell ⟨b, 3, none⟩ v3).setCell ⟨b, 4, none⟩ v4).setCell ⟨b, 5, none⟩ v5).setCell ⟨b, 6, none⟩ v6
theorem set7_blk {w : World} {b : Nat} {e : TypeId} {f : Nat → Value} (h : Blk w b e 7 f) (v0 v1 v2 v3 v4 v5 v6 : Value) : Blk (set7 w b v0 v1 v2 v3 v4 v5 v6) b e 7 (fun j => (#[v0, v1, v2, v3, v4, v5, v6] : Array Value).getD j default) :=
  (((((((h.set 0 v0).set 1 v1).set 2 v2).set 3 v3).set 4 v4).set 5 v5).set 6 v6).congr fun j hj => by match j, hj with | 0, _ => rfl | 1, _ => rfl | 2, _ => rfl | 3, _ => rfl | 4, _ => rfl | 5, _ => rfl | 6, _ => rfl
theorem set7_below {n : Nat} {A w : World} {b : Nat} (h : Below n A w) (hb : n ≤ b) (v0 v1 v2 v3 v4 v5 v6 : Value) : Below n A (set7 w b v0 v1 v2 v3 v4 v5 v6) :=
  ((((((h.setCell (p := ⟨b, 0, none⟩) hb v0).setCell (p := ⟨b, 1, none⟩) hb v1).setCell (p := ⟨b, 2, none⟩) hb v2).setCell (p := ⟨b, 3, none⟩) hb v3).setCell (p := ⟨b, 4, none⟩) hb v4).setCell (p := ⟨b, 5, none⟩) hb v5).setCell (p := ⟨b, 6, none⟩) hb v6
theorem box_cells {w : World} {b : Nat} {e : TypeId} {v0 v1 v2 v3 v4 v5 v6 : Value} (h : Blk w b e 7 (fun j => (#[v0, v1, v2, v3, v4, v5, v6] : Array Value).getD j default)) :
    w.cell? ⟨b, 0, none⟩ = some v0 ∧ w.cell? ⟨b, 1, none⟩ = some v1 ∧ w.cell? ⟨b, 2, none⟩ = some v2 ∧ w.cell? ⟨b, 3, none⟩ = some v3 ∧ w.cell? ⟨b, 4, none⟩ = some v4 ∧ w.cell? ⟨b, 5, none⟩ = some v5 ∧ w.cell? ⟨b, 6, none⟩ = some v6 :=
  ⟨h.cell (j := 0) (by decide), h.cell (j := 1) (by decide), h.cell (j := 2) (by decide), h.cell (j := 3) (by decide), h.cell (j := 4) (by decide), h.cell (j := 5) (by decide), h.cell (j := 6) (by decide)⟩
end Go.Proofs.Ytbcacebifpagpaf
namespace Go.Proofs.Ytbcacebifpagpaf
open Go.RowKit
set_option linter.unusedVariables false
def wpAnyT (P : Program) (ops : Array Oper) (Q : Exit → Act → World → Prop) (S : World → Prop) (T : Nat → Bool) : Nat → Array Bool → Act → World → Prop
  | 0, listed, a, w => Region.ready .any ops listed = [] ∧ Q .normal a w
  | fuel + 1, listed, a, w => (Region.ready .any ops listed = [] → Q .normal a w) ∧
      ∀ i ∈ Region.ready .any ops listed, wpOp P ops Q i (fun a' w' => (T i = false → S w') ∧ wpAnyT P ops Q S T fuel (listed.setIfInBounds i true) a' w') a w
theorem wpAny_of_T {P : Program} {ops : Array Oper} {Q : Exit → Act → World → Prop} {S : World → Prop} {T : Nat → Bool} : ∀ (fuel : Nat) (listed : Array Bool) (a : Act) (w : World), wpAnyT P ops Q S T fuel listed a w → wpAny P .any ops Q fuel listed a w
  | 0, _, _, _, h => h
  | fuel + 1, _, _, _, h => ⟨h.1, fun i hi => wpOp_mono (fun a' w' h' => wpAny_of_T fuel _ a' w' h'.2) (h.2 i hi)⟩
def Closed (ops : Array Oper) (listed : Array Bool) : Prop := ∀ j, listed.getD j false = true → ∀ d ∈ depsOf ops j, listed.getD d false = true
def reach (ops : Array Oper) : Nat → Nat → Nat → Bool
  | 0, _, _ => false
  | f + 1, j, i => (depsOf ops j).any (fun d => d == i || reach ops f d i)
theorem reach_listed {ops : Array Oper} {listed : Array Bool} (hc : Closed ops listed) : ∀ (f j i : Nat), (∀ d ∈ depsOf ops j, listed.getD d false = true) → reach ops f j i = true → listed.getD i false = true
  | 0, _, _, _, h => by simp [reach] at h
  | f + 1, j, i, hd, h => by
    unfold reach at h
    obtain ⟨d, hd1, hd2⟩ := List.any_eq_true.1 h
    simp only [Bool.or_eq_true, beq_iff_eq] at hd2
    rcases hd2 with rfl | hd2
    · exact hd d hd1
    · exact reach_listed hc f d i (hc d (hd d hd1)) hd2
theorem ready_deps {ops : Array Oper} {listed : Array Bool} {j : Nat} (h : j ∈ Region.ready .any ops listed) : ∀ d ∈ depsOf ops j, listed.getD d false = true := fun d hd => by
  obtain ⟨_, o, ho, hdep⟩ := mem_ready.1 h
  unfold depsOf at hd
  rw [ho] at hd
  obtain ⟨e, he, rfl⟩ := List.mem_map.1 hd
  have := List.mem_filter.1 he
  exact hdep e (by simpa using this.1) this.2
theorem getD_mono {listed : Array Bool} {i d : Nat} (h : listed.getD d false = true) : (listed.setIfInBounds i true).getD d false = true := by
  by_cases hid : i = d
  · subst hid
    by_cases hl : i < listed.size
    · simp [Array.getD, hl]
    · simp [Array.getD, hl] at h
  · rw [getD_set_ne false hid]; exact h
theorem Closed.set {ops : Array Oper} {listed : Array Bool} (hc : Closed ops listed) {i : Nat} (hi : i ∈ Region.ready .any ops listed) : Closed ops (listed.setIfInBounds i true) := fun j hj d hd => by
  by_cases hij : i = j
  · subst hij; exact getD_mono (ready_deps hi d hd)
  · rw [getD_set_ne false hij] at hj
    exact getD_mono (hc j hj d hd)
theorem Closed.none (ops : Array Oper) (n : Nat) : Closed ops (Array.replicate n false) := fun j hj => by
  by_cases hl : j < n <;> simp [Array.getD, hl] at hj
theorem wpAnyT_first {P : Program} {ops : Array Oper} {Q : Exit → Act → World → Prop} {S : World → Prop} {T : Nat → Bool} {N : Nat} {i : Nat} {oi : Oper} {v : Value} (hi : ops[i]? = some oi) (hsel : ∀ (j : Nat) (o : Oper) cs b, ops[j]? = some o → o.op ≠ .select cs b)
    (hQ : ∀ c a w, Q (.panic c) (a.put oi.dst v) w → Q (.panic c) a w) (hT : ∀ j, T j = true → reach ops N j i = true) (hTi : T i = false) :
    ∀ (fuel : Nat) (listed : Array Bool) (a : Act) (w : World),
      (∀ j oj, ops[j]? = some oj → j ≠ i → listed.getD j true = false → (∀ e ∈ oj.after, Region.binds .any e = true → e.on ≠ i) → oi.apart ops oj = true) →
      i ∈ Region.ready .any ops listed → Closed ops listed → YieldsIf P ops S oi v a → S w →
      wpAnyT P ops Q S T fuel (listed.setIfInBounds i true) (a.put oi.dst v) w → wpAnyT P ops Q S T (fuel + 1) listed a w := by
  intro fuel
  induction fuel with
  | zero =>
    intro listed a w _ hr _ hy hS H
    refine ⟨fun h => (by rw [h] at hr; cases hr), fun j hj => ?_⟩
    by_cases hji : j = i
    · subst hji; exact hy.wpOp hi hS ⟨fun _ => hS, H⟩
    · have := ready_mono hj hji
      rw [H.1] at this
      cases this
  | succ fuel ih =>
    intro listed a w hfree hr hc hy hS H
    refine ⟨fun h => (by rw [h] at hr; cases hr), fun j hj => ?_⟩
    by_cases hji : j = i
    · subst hji; exact hy.wpOp hi hS ⟨fun _ => hS, H⟩
    · have h1 := H.2 j (ready_mono hj hji)
      obtain ⟨hjun, oj, hoj, hall⟩ := mem_ready.1 hj
      have hiun : ¬ listed.getD i false = true := fun h1 => by
        have h0 := (mem_ready.1 hr).1
        rcases Nat.lt_or_ge i listed.size with h' | h'
        · simp [h'] at h0 h1; rw [h0] at h1; cases h1
        · simp [Array.getElem?_eq_none h'] at h1
      have hnot : ∀ e ∈ oj.after, Region.binds .any e = true → e.on ≠ i := fun e he hb heq => by
        have h1 := hall e he hb
        rw [heq] at h1
        exact hiun h1
      have hTj : T j = false := by
        cases hq : T j
        · rfl
        · exact absurd (reach_listed hc N j i (ready_deps hj) (hT j hq)) hiun
      have h2 := wpOp_putIf hoj (hfree j oj hoj hji hjun hnot) (fun cs b => hsel i oi cs b hi) (fun cs b => hsel j oj cs b hoj) hQ hy h1
      have hfree' : ∀ k ok, ops[k]? = some ok → k ≠ i → (listed.setIfInBounds j true).getD k true = false →
          (∀ e ∈ ok.after, Region.binds .any e = true → e.on ≠ i) → oi.apart ops ok = true := fun k ok hk hki hun hno => by
        refine hfree k ok hk hki ?_ hno
        by_cases hjk : j = k
        · subst hjk; exact hjun
        · rw [getD_set_ne true hjk] at hun; exact hun
      refine wpOp_mono (fun a' w' h3 => ⟨h3.2.1, ih (listed.setIfInBounds j true) a' w' hfree' (ready_mono hr (Ne.symm hji)) (hc.set hj) h3.1 (h3.2.1 hTj) ?_⟩) h2
      rw [Array.setIfInBounds_comm _ _ hji]
      exact h3.2.2
theorem wpAnyT_firsts {P : Program} {l : List Oper} {Q : Exit → Act → World → Prop} {S : World → Prop} {T : Nat → Bool} {N : Nat} {K : Act → Prop} {w : World} {fuel : Nat} (hs : Region.noSelect l.toArray = true) (hS : S w) (hQ : ∀ c a a' w, Q (.panic c) a w → Q (.panic c) a' w) :
    ∀ (ks : List Nat) (os : List Oper) (listed : Array Bool) (a : Act), firstsB l.toArray ks listed = true → (∀ k ∈ ks, T k = false ∧ ∀ j, T j = true → reach l.toArray N j k = true) → Closed l.toArray listed → ks.map (fun k => l[k]?) = os.map some → (os.all vKind2) = true →
      wpQuiet P l.toArray S K os a → (∀ a, K a → Closed l.toArray (mark listed ks) → wpAnyT P l.toArray Q S T fuel (mark listed ks) a w) → wpAnyT P l.toArray Q S T (ks.length + fuel) listed a w
  | [], [], listed, a, _, _, hc, _, _, h, hK => by rw [List.length_nil, Nat.zero_add]; exact hK a h hc
  | k :: ks, o :: os, listed, a, hB, hTk, hc, hk, hv, h, hK => by
    simp only [List.map_cons, List.cons.injEq] at hk
    simp only [List.all_cons, Bool.and_eq_true] at hv
    simp only [firstsB, Bool.and_eq_true] at hB
    rw [List.length_cons, Nat.add_right_comm]
    have hready : k ∈ Region.ready .any l.toArray listed := by simpa using hB.1.1
    have go : ∀ v, YieldsIf P l.toArray S o v a → wpAnyT P l.toArray Q S T (ks.length + fuel) (listed.setIfInBounds k true) (a.put o.dst v) w → wpAnyT P l.toArray Q S T (ks.length + fuel + 1) listed a w :=
      fun v hy h' => wpAnyT_first (N := N) (by simpa using hk.1) (Region.noSelect_spec hs) (fun c a w hq => hQ _ _ _ _ hq) (hTk k (by simp)).2 (hTk k (by simp)).1 _ listed a w (Region.free_spec (by simpa using hk.1) hB.1.2) hready hc hy hS h'
    have again := fun (a : Act) (hq : wpQuiet P l.toArray S K os a) => wpAnyT_firsts (N := N) (T := T) (fuel := fuel) hs hS hQ ks os _ a hB.2 (fun k' hk' => hTk k' (by simp [hk'])) (hc.set hready) hk.2 hv.2 hq hK
    unfold wpQuiet at h
    split at h
    · rename_i hw
      obtain ⟨v, h1, h2⟩ := h
      refine go v (.inl ⟨hw, fun w' hS => ?_⟩) (again _ h2)
      have := h1 w' hS
      unfold Oper.quietAt at this
      cases hr : (execOp a.eval o).run P w' with
      | ok n w2 =>
        rw [hr] at this
        obtain ⟨u, rfl⟩ := vKind2_spec hv.1 hr
        simp only [Oper.quietUpon] at this
        rw [this.1, this.2]
      | halt x w2 => rw [hr] at this; exact this.elim
    · rename_i hw
      exact go undef (.inr ⟨by simpa using hw, rfl⟩) (again _ h)
  | [], _ :: _, _, _, _, _, _, hk, _, _, _ => by simp at hk
  | _ :: _, [], _, _, _, _, _, hk, _, _, _ => by simp at hk
def Late (t : Bool) (S : World → Prop) (w : World) : Prop := t = false → S w
theorem Late.yes {S : World → Prop} {w : World} : Late true S w := fun h => by cases h
theorem Late.no {S : World → Prop} {w : World} (h : S w) : Late false S w := fun _ => h
def wpSeq (P : Program) (ops : Array Oper) (Q : Exit → Act → World → Prop) (S : World → Prop) : List (Bool × Nat) → Act → World → Prop
  | [], a, w => Q .normal a w
  | (t, i) :: r, a, w => wpOp P ops Q i (fun a' w' => Late t S w' ∧ wpSeq P ops Q S r a' w') a w
def seqB (ops : Array Oper) : List (Bool × Nat) → Array Bool → Bool
  | [], listed => Region.ready .any ops listed == []
  | (t, i) :: r, listed => Region.ready .any ops listed == [i] && seqB ops r (listed.setIfInBounds i true)
theorem wpAnyT_seq {P : Program} {ops : Array Oper} {Q : Exit → Act → World → Prop} {S : World → Prop} {T : Nat → Bool} : ∀ (ord : List (Bool × Nat)) (listed : Array Bool) (a : Act) (w : World),
      seqB ops ord listed = true → (∀ t i, (t, i) ∈ ord → T i = t) → wpSeq P ops Q S ord a w → wpAnyT P ops Q S T ord.length listed a w
  | [], listed, a, w, hB, _, h => ⟨by simpa [seqB] using hB, h⟩
  | (t, i) :: r, listed, a, w, hB, hT, h => by
    simp only [seqB, Bool.and_eq_true, beq_iff_eq] at hB
    refine ⟨fun h0 => absurd (hB.1.symm.trans h0) (by simp), fun j hj => ?_⟩
    rw [hB.1, List.mem_singleton] at hj
    subst hj
    refine wpOp_mono (fun a' w' h' => ⟨?_, wpAnyT_seq r _ a' w' hB.2 (fun t i hti => hT t i (by simp [hti])) h'.2⟩) h
    rw [hT t j (by simp)]
    exact h'.1
theorem wpSeq_one {P : Program} {l : List Oper} {Q : Exit → Act → World → Prop} {S : World → Prop} {r : List (Bool × Nat)} {t : Bool} (k : Nat) {o : Oper} {a : Act} {w : World} (hk : l[k]? = some o)
    (h : wpList P l.toArray (Exit.then (fun a' w' => Late t S w' ∧ wpSeq P l.toArray Q S r a' w') Q) [o] a w) : wpSeq P l.toArray Q S ((t, k) :: r) a w :=
  wpOp_list k hk h
def madeB5 (ops : Array Oper) (rem : List Nat) (L : Array Bool) : Bool :=
  (List.range ops.size).all (fun i => L.getD i true || rem.contains i || rem.all (fun r => reach ops ops.size i r)) &&
  topoB ops L [] rem && rem.all (fun r => decide (r < ops.size) && !L.getD r true) && decide (L.size = ops.size) && decide ((rem.map (dstOf ops)).Nodup)
theorem made_aux5 {P : Program} {ops : Array Oper} {Q : Exit → Act → World → Prop} {S : World → Prop} {T : Nat → Bool} {rem : List Nat} {L : Array Bool} {a1 : Act} {D : Nat → Value → List Nat → World → Prop} {fuel : Nat} (hB : madeB5 ops rem L = true) (hT : ∀ r ∈ rem, T r = false)
    (mono : ∀ j ∈ rem, ∀ v g w w', Below w.heap.size w w' → D j v g w → D j v g w') (lt : ∀ j ∈ rem, ∀ v g w, D j v g w → ∀ x ∈ g, x < w.heap.size)
    (step : ∀ i ∈ rem, ∀ (V : Nat → Value) (G : Nat → List Nat) (w : World) (K : Act → World → Prop), S w → (∀ d ∈ depsOf ops i, d ∈ rem → D d (V d) (G d) w) →
      (∀ v g w', S w' → Below w.heap.size w w' → (∀ x ∈ g, w.heap.size ≤ x) → D i v g w' → K ((putAll ops rem V a1).put (dstOf ops i) v) w') → wpOp P ops Q i K (putAll ops rem V a1) w)
    (done : ∀ (V : Nat → Value) (G : Nat → List Nat) (w : World), S w → (∀ j ∈ rem, D j (V j) (G j) w) → (∀ j ∈ rem, ∀ k ∈ rem, j ≠ k → ∀ x ∈ G j, x ∉ G k) → wpAnyT P ops Q S T fuel (mark L rem) (putAll ops rem V a1) w) :
    ∀ (m : Nat) (listed : Array Bool) (V : Nat → Value) (G : Nat → List Nat) (w : World), (rem.filter (fun r => !listed.getD r true)).length = m → listed.size = ops.size → (∀ j, j ∉ rem → listed[j]? = L[j]?) → Closed ops listed → S w → (∀ j ∈ rem, listed.getD j true = true → D j (V j) (G j) w) →
      (∀ j ∈ rem, ∀ k ∈ rem, listed.getD j true = true → listed.getD k true = true → j ≠ k → ∀ x ∈ G j, x ∉ G k) → wpAnyT P ops Q S T (m + fuel) listed (putAll ops rem V a1) w := by
  simp only [madeB5, Bool.and_eq_true, decide_eq_true_eq] at hB
  obtain ⟨⟨⟨⟨hoth, htopo⟩, hrem⟩, hLs⟩, hnd⟩ := hB
  have hrem' : ∀ r ∈ rem, r < ops.size ∧ L.getD r true = false := fun r hr => by
    have := List.all_eq_true.1 hrem r hr
    simpa using this
  intro m
  induction m with
  | zero =>
    intro listed V G w hm hsz hag hcl hS hD hA
    have hall : ∀ r ∈ rem, listed.getD r true = true := fun r hr => by
      cases hq : listed.getD r true
      · have : r ∈ rem.filter (fun r => !listed.getD r true) := List.mem_filter.2 ⟨hr, by simp [hq]⟩
        rw [List.length_eq_zero_iff.1 hm] at this
        simp at this
      · rfl
    have hl : listed = mark L rem := by
      apply Array.ext_getElem?
      intro j
      by_cases hj : j < L.size
      · rw [mark_get rem L j hj]
        by_cases hjr : j ∈ rem
        · rw [if_pos hjr]
          have h1 := hall j hjr
          have h2 : j < listed.size := by omega
          simp only [Array.getD, h2, dif_pos] at h1
          simp [h2]
          exact h1
        · rw [if_neg hjr]; exact hag j hjr
      · rw [Array.getElem?_eq_none (by omega), Array.getElem?_eq_none (by rw [mark_size]; omega)]
    rw [Nat.zero_add, hl]
    exact done V G w hS (fun j hj => hD j hj (hall j hj)) fun j hj k hk => hA j hj k hk (hall j hj) (hall k hk)
  | succ m ih =>
    intro listed V G w hm hsz hag hcl hS hD hA
    have hex : ∃ r ∈ rem, listed.getD r true = false := by
      have hne : rem.filter (fun r => !listed.getD r true) ≠ [] := fun e => by rw [e] at hm; simp at hm
      obtain ⟨x, hx⟩ := List.exists_mem_of_ne_nil _ hne
      have := List.mem_filter.1 hx
      exact ⟨x, this.1, by simpa using this.2⟩
    have hLl : ∀ d, L.getD d false = true → listed.getD d false = true := fun d hd => by
      by_cases hdr : d ∈ rem
      · have h1 := (hrem' d hdr).2
        have h2 : d < L.size := by have := (hrem' d hdr).1; omega
        simp only [Array.getD, h2, dif_pos] at h1 hd
        rw [h1] at hd; cases hd
      · have h1 := hag d hdr
        by_cases h2 : d < L.size
        · have h3 : d < listed.size := by omega
          simp only [Array.getD, h2, h3, dif_pos] at hd ⊢
          simp only [Array.getElem?_eq_getElem h2, Array.getElem?_eq_getElem h3, Option.some.injEq] at h1
          rw [Array.getInternal_eq_getElem] at hd ⊢
          rw [h1]; exact hd
        · simp [Array.getD, h2] at hd
    obtain ⟨r0, hr0, hr0r⟩ := topo_ready hsz [] rem htopo hLl (fun d hd => by simp at hd) (fun r hr => (hrem' r hr).1) hex
    rw [Nat.add_right_comm]
    refine ⟨fun h0 => absurd (h0 ▸ hr0r) (by simp), fun i hi => ?_⟩
    obtain ⟨hli, o, ho, hdep⟩ := mem_ready.1 hi
    have hdeps : ∀ d ∈ depsOf ops i, listed.getD d false = true := fun d hd => by
      unfold depsOf at hd
      rw [ho] at hd
      obtain ⟨e, he, rfl⟩ := List.mem_map.1 hd
      have := List.mem_filter.1 he
      exact hdep e (by simpa using this.1) this.2
    have hdt : ∀ d, listed.getD d false = true → listed.getD d true = true := fun d hd => by
      by_cases h2 : d < listed.size
      · simpa [Array.getD, h2] using hd
      · simp [Array.getD, h2]
    have hir : i ∈ rem := by
      cases hc : rem.contains i
      · exfalso
        have hlt : i < ops.size := (Array.getElem?_eq_some_iff.1 ho).1
        have hnr : i ∉ rem := fun h => by
          have := List.contains_iff_mem.2 h
          rw [this] at hc; cases hc
        have h1 := List.all_eq_true.1 hoth i (List.mem_range.2 hlt)
        have hLi : L.getD i true = false := by
          have h2 := hag i hnr
          have h3 : i < L.size := by omega
          have h4 : i < listed.size := by omega
          simp only [Array.getElem?_eq_getElem h3, Array.getElem?_eq_getElem h4, Option.some.injEq] at h2
          simp only [Array.getD, h3, h4, dif_pos] at hli ⊢
          rw [Array.getInternal_eq_getElem] at hli ⊢
          rw [← h2]; exact hli
        rw [hLi, hc] at h1
        simp only [Bool.false_or] at h1
        obtain ⟨q, hq, hq2⟩ := hex
        have h5 := List.all_eq_true.1 h1 q hq
        have h6 := hdt q (reach_listed hcl _ i q (ready_deps hi) h5)
        rw [hq2] at h6; cases h6
      · exact List.contains_iff_mem.1 hc
    refine step i hir V G w _ hS (fun d hd hdr => hD d hdr (hdt d (hdeps d hd))) (fun v g w' hS' hBel hfr hDi => ?_)
    refine ⟨fun _ => hS', ?_⟩
    rw [putAll_put hnd hir]
    have hin : i < listed.size := by rw [hsz]; exact (hrem' i hir).1
    have gset : ∀ j, (listed.setIfInBounds i true).getD j true = if j = i then true else listed.getD j true := fun j => by
      by_cases hj : j = i
      · subst hj; simp [Array.getD, hin]
      · rw [if_neg hj, getD_set_ne true (fun e => hj e.symm)]
    refine ih (listed.setIfInBounds i true) (upd V i v) (fun j => if j = i then g else G j) w' ?_ (by simpa using hsz) (fun j hj => ?_) (hcl.set hi) hS' (fun j hj hlj => ?_) (fun j hj k hk hlj hlk hjk x hx => ?_)
    · have hnodup : rem.Nodup := by
        exact (List.pairwise_map.1 hnd).imp (fun h e => h (by rw [e]))
      have e1 : (rem.filter (fun r => !listed.getD r true)) = rem.filter (fun r => !listed.getD r true) := rfl
      have hcount : (rem.filter (fun r => !(listed.setIfInBounds i true).getD r true)) = (rem.filter (fun r => !listed.getD r true)).erase i := by
        have e2 : rem.filter (fun r => !(listed.setIfInBounds i true).getD r true) = (rem.filter (fun r => !listed.getD r true)).filter (fun r => r != i) := by
          rw [List.filter_filter]
          refine List.filter_congr fun x hx => ?_
          rw [gset x]
          by_cases hxi : x = i <;> simp [hxi]
        rw [e2, ← List.Nodup.erase_eq_filter (hnodup.filter _)]
      rw [hcount, List.length_erase_of_mem (List.mem_filter.2 ⟨hir, by simp [hli]⟩), hm]
      rfl
    · rw [Array.getElem?_setIfInBounds, if_neg (fun e : i = j => hj (by rw [← e]; exact hir))]
      exact hag j hj
    · unfold upd
      by_cases hji : j = i
      · subst hji; rw [if_pos rfl, if_pos rfl]; exact hDi
      · rw [if_neg hji, if_neg hji]
        rw [gset j, if_neg hji] at hlj
        exact mono j hj _ _ _ _ hBel (hD j hj hlj)
    · by_cases hji : j = i
      · have hki : ¬ k = i := fun e => hjk (hji.trans e.symm)
        rw [if_pos hji] at hx
        rw [if_neg hki]
        rw [gset k, if_neg hki] at hlk
        intro hx2
        have h1 := hfr x hx
        have h2 := lt k hk _ _ _ (hD k hk hlk) x hx2
        omega
      · rw [if_neg hji] at hx
        rw [gset j, if_neg hji] at hlj
        by_cases hki : k = i
        · rw [if_pos hki]
          intro hx2
          have h1 := hfr x hx2
          have h2 := lt j hj _ _ _ (hD j hj hlj) x hx
          omega
        · rw [if_neg hki]
          rw [gset k, if_neg hki] at hlk
          exact hA j hj k hk hlj hlk hjk x hx
def Made5 (P : Program) (ops : Array Oper) (Q : Exit → Act → World → Prop) (S : World → Prop) (rem : List Nat) (ord : List (Bool × Nat)) (a1 : Act) : Prop :=
  ∃ D : Nat → Value → List Nat → World → Prop, (∀ j ∈ rem, ∀ v g w w', Below w.heap.size w w' → D j v g w → D j v g w') ∧ (∀ j ∈ rem, ∀ v g w, D j v g w → ∀ x ∈ g, x < w.heap.size) ∧
    (∀ i ∈ rem, ∀ (V : Nat → Value) (G : Nat → List Nat) (w : World) (K : Act → World → Prop), S w → (∀ d ∈ depsOf ops i, d ∈ rem → D d (V d) (G d) w) →
      (∀ v g w', S w' → Below w.heap.size w w' → (∀ x ∈ g, w.heap.size ≤ x) → D i v g w' → K ((putAll ops rem V a1).put (dstOf ops i) v) w') → wpOp P ops (NoPanic Q) i K (putAll ops rem V a1) w) ∧
    (∀ (V : Nat → Value) (G : Nat → List Nat) (w : World), S w → (∀ j ∈ rem, D j (V j) (G j) w) → (∀ j ∈ rem, ∀ k ∈ rem, j ≠ k → ∀ x ∈ G j, x ∉ G k) → wpSeq P ops (NoPanic Q) S ord (putAll ops rem V a1) w)
def tailsB (ops : Array Oper) (ks rem : List Nat) (ord : List (Bool × Nat)) : Bool :=
  ks.all (fun k => !ord.contains (true, k) && ord.all (fun x => !x.1 || reach ops ops.size x.2 k)) && rem.all (fun r => !ord.contains (true, r)) && ord.all (fun x => x.1 || !ord.contains (true, x.2))
theorem wp_region_made5 {P : Program} {l : List Oper} {Q : Exit → Act → World → Prop} {id : Nat} {a : Act} {w : World} (S : World → Prop) (ks rem : List Nat) (ord : List (Bool × Nat))
    (hm : P.follows .mixedOrders = true) (hs : Region.noSelect l.toArray = true) (hF : firstsB l.toArray ks (Array.replicate l.length false) = true) (hks : ks.all (fun k => decide (k < l.length)) = true) (hv : ((picks l ks).all vKind2) = true)
    (hM : madeB5 l.toArray rem (mark (Array.replicate l.length false) ks) = true) (hTB : tailsB l.toArray ks rem ord = true) (hB : seqB l.toArray ord (mark (mark (Array.replicate l.length false) ks) rem) = true) (hl : ks.length + (rem.length + ord.length) = l.length)
    (hS : S w.drew) (h : wpQuiet P l.toArray S (Made5 P l.toArray Q S rem ord) (picks l ks) a) : (Code.region id l.toArray true).wp P Q a w := by
  refine wp_region_noPanic (wp_region_any hm ?_)
  have hM' := hM
  simp only [madeB5, Bool.and_eq_true, decide_eq_true_eq] at hM'
  simp only [tailsB, Bool.and_eq_true] at hTB
  have hT : ∀ j, (ord.contains (true, j)) = true → (true, j) ∈ ord := fun j h => by simpa using h
  have key := wpAnyT_firsts (Q := NoPanic Q) (T := fun i => ord.contains (true, i)) (N := l.toArray.size) (fuel := rem.length + ord.length) (w := w.drew) hs hS (fun c a a' w h => (h : False).elim) ks (picks l ks) _ a hF (fun k hk => ?_) (Closed.none _ _) (picks_ok hks) hv h (fun a1 hK hcl => ?_)
  · have := wpAny_of_T _ _ _ _ key
    rw [hl] at this
    simpa using this
  · have h1 := List.all_eq_true.1 hTB.1.1 k hk
    simp only [Bool.and_eq_true] at h1
    refine ⟨by simpa using h1.1, fun j hj => ?_⟩
    have h2 := List.all_eq_true.1 h1.2 (true, j) (hT j hj)
    simpa using h2
  · obtain ⟨D, mono, lt, step, done⟩ := hK
    have hall : (rem.filter (fun r => !(mark (Array.replicate l.length false) ks).getD r true)) = rem := by
      rw [List.filter_eq_self]
      intro r hr
      have := List.all_eq_true.1 hM'.1.1.2 r hr
      simp only [Bool.and_eq_true] at this
      exact this.2
    have hun : ∀ j ∈ rem, (mark (Array.replicate l.length false) ks).getD j true = true → False := fun j hj hlj => by
      have := List.all_eq_true.1 hM'.1.1.2 j hj
      simp only [Bool.and_eq_true, hlj] at this
      simp at this
    obtain ⟨V0, hV0⟩ : ∃ V0, putAll l.toArray rem V0 a1 = a1 := ⟨_, putAll_self a1 rem⟩
    have := made_aux5 (P := P) (Q := NoPanic Q) (S := S) (T := fun i => ord.contains (true, i)) (a1 := a1) (fuel := ord.length) hM (fun r hr => by have := List.all_eq_true.1 hTB.1.2 r hr; simpa using this) mono lt step
      (fun V G w' hS' hD hA => wpAnyT_seq ord _ _ w' hB (fun t i hti => by
        cases t with
        | true => simpa using hti
        | false =>
          have := List.all_eq_true.1 hTB.2 (false, i) hti
          simpa using this) (done V G w' hS' hD hA))
      rem.length (mark (Array.replicate l.length false) ks) V0 (fun _ => []) w.drew (by rw [hall]) hM'.1.2 (fun _ _ => rfl) hcl hS (fun j hj hlj => (hun j hj hlj).elim) (fun j hj k hk hlj _ _ => (hun j hj hlj).elim)
    rw [hV0] at this
    exact this
end Go.Proofs.Ytbcacebifpagpaf
namespace Go.Proofs.Ytbcacebifpagpaf
open Go.RowKit Go.Shelf Go.Sort
set_option linter.unusedVariables false
def OwnI (A : Nat) (w : World) (r : Rw) : Prop := ∃ g, r.a = some ⟨g, 0, none⟩ ∧ A ≤ g ∧ r.n ≤ r.c ∧ r.c ≤ maxLen ∧ Blk w g 3 r.n (fun j => .int .i64 (r.z j))
theorem OwnI.at {A : Nat} {w : World} {r : Rw} (h : OwnI A w r) : r.At w := by
  obtain ⟨g, ha, _, h1, h2, hb⟩ := h
  exact ⟨h1, h2, fun i hi => ⟨g, 0, ha, hb.lt, by rw [Nat.zero_add]; exact hb.cell hi⟩⟩
theorem OwnI.below {A : Nat} {w w' : World} {r : Rw} (h : OwnI A w r) (hB : Below w.heap.size w w') : OwnI A w' r := by
  obtain ⟨g, ha, h0, h1, h2, hb⟩ := h
  exact ⟨g, ha, h0, h1, h2, hb.below hB⟩
structure OwnS (A : Nat) (w : World) (s : St) : Prop where
  on : ∃ g, s.on.a = some ⟨g, 0, none⟩ ∧ A ≤ g ∧ s.on.n ≤ s.on.c ∧ s.on.c ≤ maxLen ∧ Blk w g 23 s.on.n (fun i => .slice (s.on.r i).a (s.on.r i).n (s.on.r i).c)
  rows : ∀ i, i < s.on.n → OwnI A w (s.on.r i)
  rapart : ∀ i j, i < j → j < s.on.n → (s.on.r i).a ≠ (s.on.r j).a
  os : OwnO A w s.os
  hs : OwnH A 54 w s.hs
  ms : OwnH A 40 w s.ms
  msr : Room A w 40 4 s.ms.a s.ms.c
  si : OwnI A w s.si
  so : OwnI A w s.so
  sf : OwnI A w s.sf
  aio : s.si.a ≠ s.so.a
  aif : s.si.a ≠ s.sf.a
  aof : s.so.a ≠ s.sf.a
  ari : ∀ i, i < s.on.n → (s.on.r i).a ≠ s.si.a ∧ (s.on.r i).a ≠ s.so.a ∧ (s.on.r i).a ≠ s.sf.a
theorem OwnS.at {A : Nat} {w : World} {s : St} (h : OwnS A w s) : s.At w := by
  obtain ⟨g, ha, _, h1, h2, hb⟩ := h.on
  exact ⟨⟨h1, h2, fun i hi => ⟨g, 0, ha, hb.lt, by rw [Nat.zero_add]; exact hb.cell hi, (h.rows i hi).at⟩⟩, h.os.at, h.hs.at, h.ms.at, h.si.at, h.so.at, h.sf.at⟩
theorem OwnI.other {A : Nat} {t : TypeId} {w : World} {r : Rw} {q n : Nat} {f : Nat → Value} (h : OwnI A w r) (hq : Blk w q t n f) (hne : 3 ≠ t) (j : Nat) (u : Value) : OwnI A (w.setCell ⟨q, j, none⟩ u) r := by
  obtain ⟨g, ha, h0, h1, h2, hb⟩ := h
  exact ⟨g, ha, h0, h1, h2, hb.other (a := ⟨q, j, none⟩) (Blk.ne2 hb hq hne) u⟩
theorem OwnO.other {A : Nat} {t : TypeId} {w : World} {s : Os} {q n : Nat} {f : Nat → Value} (h : OwnO A w s) (hq : Blk w q t n f) (h1 : 58 ≠ t) (h2 : 60 ≠ t) (j : Nat) (u : Value) : OwnO A (w.setCell ⟨q, j, none⟩ u) s := by
  refine ⟨h.le, h.cap, fun hn => ?_, fun i hi => ?_, h.apart, h.room.set q j u⟩
  · obtain ⟨g, a, b, c⟩ := h.list hn
    exact ⟨g, a, b, c.other (a := ⟨q, j, none⟩) (Blk.ne2 c hq h1) u⟩
  · obtain ⟨B, a, b, c, d, e⟩ := h.lines i hi
    exact ⟨B, a, b, c, d, e.other (a := ⟨q, j, none⟩) (Blk.ne2 e hq h2) u⟩
theorem OwnS.box {A : Nat} {w : World} {s : St} {q n : Nat} {f : Nat → Value} (h : OwnS A w s) (hq : Blk w q 31 n f) (j : Nat) (u : Value) : OwnS A (w.setCell ⟨q, j, none⟩ u) s := by
  refine ⟨?_, fun i hi => (h.rows i hi).other hq (by decide) j u, h.rapart, h.os.other hq (by decide) (by decide) j u, h.hs.other hq (by decide) j u, h.ms.other hq (by decide) j u, h.msr.set q j u, h.si.other hq (by decide) j u, h.so.other hq (by decide) j u, h.sf.other hq (by decide) j u, h.aio, h.aif, h.aof, h.ari⟩
  obtain ⟨g, ha, h0, h1, h2, hb⟩ := h.on
  exact ⟨g, ha, h0, h1, h2, hb.other (a := ⟨q, j, none⟩) (Blk.ne2 hb hq (by decide)) u⟩
theorem OwnS.set7 {A : Nat} {w : World} {s : St} {b : Nat} {f : Nat → Value} (h : OwnS A w s) (hq : Blk w b 31 7 f) (v0 v1 v2 v3 v4 v5 v6 : Value) : OwnS A (Go.Proofs.Ytbcacebifpagpaf.set7 w b v0 v1 v2 v3 v4 v5 v6) s :=
  ((((((h.box hq 0 v0).box (hq.set 0 v0) 1 v1).box ((hq.set 0 v0).set 1 v1) 2 v2).box (((hq.set 0 v0).set 1 v1).set 2 v2) 3 v3).box ((((hq.set 0 v0).set 1 v1).set 2 v2).set 3 v3) 4 v4).box (((((hq.set 0 v0).set 1 v1).set 2 v2).set 3 v3).set 4 v4) 5 v5).box ((((((hq.set 0 v0).set 1 v1).set 2 v2).set 3 v3).set 4 v4).set 5 v5) 6 v6
def DRows (A : Nat) (s : St) (v : Value) (g : List Nat) (wk : World) : Prop := ∃ (g0 : Nat) (G C : Nat → Nat), v = .slice (some ⟨g0, 0, none⟩) s.on.n s.on.n ∧ A ≤ g0 ∧ Blk wk g0 23 s.on.n (fun i => .slice (some ⟨G i, 0, none⟩) (s.on.r i).n (C i)) ∧
  (∀ i, i < s.on.n → A ≤ G i ∧ (s.on.r i).n ≤ C i ∧ C i ≤ maxLen ∧ Blk wk (G i) 3 (s.on.r i).n (fun j => .int .i64 ((s.on.r i).z j))) ∧ (∀ i j, i < j → j < s.on.n → G i < G j) ∧ g = (List.range s.on.n).map G
theorem DRows.below {A : Nat} {s : St} {v : Value} {g : List Nat} {w w' : World} (h : DRows A s v g w) (hB : Below w.heap.size w w') : DRows A s v g w' := by
  obtain ⟨g0, G, C, h1, h2, h3, h4, h5, h6⟩ := h
  exact ⟨g0, G, C, h1, h2, h3.below hB, fun i hi => ⟨(h4 i hi).1, (h4 i hi).2.1, (h4 i hi).2.2.1, (h4 i hi).2.2.2.below hB⟩, h5, h6⟩
theorem DRows.lt {A : Nat} {s : St} {v : Value} {g : List Nat} {w : World} (h : DRows A s v g w) : ∀ x ∈ g, x < w.heap.size := by
  obtain ⟨g0, G, C, h1, h2, h3, h4, h5, rfl⟩ := h
  intro x hx
  obtain ⟨i, hi, rfl⟩ := List.mem_map.1 hx
  exact (h4 i (List.mem_range.1 hi)).2.2.2.lt
def DInts (A : Nat) (r : Rw) (v : Value) (g : List Nat) (wk : World) : Prop := ∃ B c, g = [B] ∧ v = .slice (some ⟨B, 0, none⟩) r.n c ∧ A ≤ B ∧ r.n ≤ c ∧ c ≤ maxLen ∧ Blk wk B 3 r.n (fun j => .int .i64 (r.z j))
theorem DInts.below {A : Nat} {r : Rw} {v : Value} {g : List Nat} {w w' : World} (h : DInts A r v g w) (hB : Below w.heap.size w w') : DInts A r v g w' := by
  obtain ⟨B, c, h1, h2, h3, h4, h5, h6⟩ := h
  exact ⟨B, c, h1, h2, h3, h4, h5, h6.below hB⟩
theorem DInts.lt {A : Nat} {r : Rw} {v : Value} {g : List Nat} {w : World} (h : DInts A r v g w) : ∀ x ∈ g, x < w.heap.size := by
  obtain ⟨B, c, rfl, h2, h3, h4, h5, h6⟩ := h
  intro x hx
  rw [List.mem_singleton] at hx
  subst hx
  exact h6.lt
def DHs (A : Nat) (e : TypeId) (s : Hs) (v : Value) (g : List Nat) (wk : World) : Prop := ∃ s' : Hs, g = [] ∧ v = .slice s'.a s'.n s'.c ∧ Cloned A e s wk s'
theorem DHs.below {A : Nat} {e : TypeId} {s : Hs} {v : Value} {g : List Nat} {w w' : World} (h : DHs A e s v g w) (hB : Below w.heap.size w w') : DHs A e s v g w' := by
  obtain ⟨s', h1, h2, h3, h4, h5, h6⟩ := h
  exact ⟨s', h1, h2, h3, h4, h5.below hB, h6.below hB⟩
theorem OwnO.below {A : Nat} {w w' : World} {s : Os} (h : OwnO A w s) (hB : Below w.heap.size w w') : OwnO A w' s := by
  refine ⟨h.le, h.cap, fun hn => ?_, fun i hi => ?_, h.apart, h.room.below hB⟩
  · obtain ⟨g, a, b, c⟩ := h.list hn
    exact ⟨g, a, b, c.below hB⟩
  · obtain ⟨B, a, b, c, d, e⟩ := h.lines i hi
    exact ⟨B, a, b, c, d, e.below hB⟩
theorem OwnO.mono {A A' : Nat} {w : World} {s : Os} (h : OwnO A w s) (hA : A' ≤ A) : OwnO A' w s := by
  refine ⟨h.le, h.cap, fun hn => ?_, fun i hi => ?_, h.apart, h.room.mono hA⟩
  · obtain ⟨g, a, b, c⟩ := h.list hn
    exact ⟨g, a, by omega, c⟩
  · obtain ⟨B, a, b, c⟩ := h.lines i hi
    exact ⟨B, a, by omega, c⟩
def DOs (A : Nat) (s : Os) (v : Value) (g : List Nat) (wk : World) : Prop := ∃ s' : Os, g = [] ∧ v = .slice s'.a s'.n s'.c ∧ SameO s' s ∧ OwnO A wk s'
theorem DOs.below {A : Nat} {s : Os} {v : Value} {g : List Nat} {w w' : World} (h : DOs A s v g w) (hB : Below w.heap.size w w') : DOs A s v g w' := by
  obtain ⟨s', h1, h2, h3, h4⟩ := h
  exact ⟨s', h1, h2, h3, h4.below hB⟩
set_option maxRecDepth 100000 in
set_option maxHeartbeats 4000000 in
theorem copyState_any (p : Pl) (s : St) (w : World) (hs : s.At w) (f : Formed p s) :
    Calls Try.prog 22 #[s.val] w fun e w' => ∃ s' : St, e = .returned s'.val ∧ SameT s' s ∧ OwnS w.heap.size w' s' ∧ Below w.heap.size w w' := by
  obtain ⟨W0, hW, hWB, X0, Z0⟩ : ∃ W, ((w.alloc (.cells s.cells 31)).alloc (.cells #[.slice .none 0 0, .slice .none 0 0, .slice .none 0 0, .slice .none 0 0, .slice .none 0 0, .slice .none 0 0, .slice .none 0 0] 31)) = W ∧ Below w.heap.size w W ∧ Blk W w.heap.size 31 7 (fun j => s.cells.getD j default) ∧ Blk W (w.heap.size + 1) 31 7 (fun _ => .slice .none 0 0) :=
    ⟨_, rfl, two_below _ _ _, (Blk.mk' rfl rfl).alloc _, (Blk.mk' (cur := #[.slice .none 0 0, .slice .none 0 0, .slice .none 0 0, .slice .none 0 0, .slice .none 0 0, .slice .none 0 0, .slice .none 0 0]) (by simp) rfl).congr (fun j hj => by match j, hj with | 0, _ => rfl | 1, _ => rfl | 2, _ => rfl | 3, _ => rfl | 4, _ => rfl | 5, _ => rfl | 6, _ => rfl)⟩
  have HW : Hid ((w.alloc (.cells #[.slice s.on.a s.on.n s.on.c, .slice s.os.a s.os.n s.os.c, .slice s.hs.a s.hs.n s.hs.c, .slice s.ms.a s.ms.n s.ms.c, .slice s.si.a s.si.n s.si.c, .slice s.so.a s.so.n s.so.c, .slice s.sf.a s.sf.n s.sf.c] 31)).alloc (.cells #[.slice .none 0 0, .slice .none 0 0, .slice .none 0 0, .slice .none 0 0, .slice .none 0 0, .slice .none 0 0, .slice .none 0 0] 31) = W0) := hW
  have HS : Hid (s.At W0) := hs.below hWB
  have HF : Hid (Formed p s) := f
  have HZ : Hid (Blk W0 (w.heap.size + 1) 31 7 (fun _ => .slice .none 0 0)) := Z0
  have hsz0 := hWB.size
  obtain ⟨l1, c0, c1, c2, c3, c4, c5, c6⟩ := Boxed.of X0
  have r0 : ∀ d os, (grow (redrawn W0 d) os).cell? ⟨w.heap.size, 0, none⟩ = some (.slice s.on.a s.on.n s.on.c) := fun d os => cell_regrown c0 d os
  have r1 : ∀ d os, (grow (redrawn W0 d) os).cell? ⟨w.heap.size, 1, none⟩ = some (.slice s.os.a s.os.n s.os.c) := fun d os => cell_regrown c1 d os
  have r2 : ∀ d os, (grow (redrawn W0 d) os).cell? ⟨w.heap.size, 2, none⟩ = some (.slice s.hs.a s.hs.n s.hs.c) := fun d os => cell_regrown c2 d os
  have r3 : ∀ d os, (grow (redrawn W0 d) os).cell? ⟨w.heap.size, 3, none⟩ = some (.slice s.ms.a s.ms.n s.ms.c) := fun d os => cell_regrown c3 d os
  have r4 : ∀ d os, (grow (redrawn W0 d) os).cell? ⟨w.heap.size, 4, none⟩ = some (.slice s.si.a s.si.n s.si.c) := fun d os => cell_regrown c4 d os
  have r5 : ∀ d os, (grow (redrawn W0 d) os).cell? ⟨w.heap.size, 5, none⟩ = some (.slice s.so.a s.so.n s.so.c) := fun d os => cell_regrown c5 d os
  have r6 : ∀ d os, (grow (redrawn W0 d) os).cell? ⟨w.heap.size, 6, none⟩ = some (.slice s.sf.a s.sf.n s.sf.c) := fun d os => cell_regrown c6 d os
  clear hW X0 Z0 hs f c0 c1 c2 c3 c4 c5 c6
  unfold St.val
  go_enter Try.func22, Try.ntmps22
  go_wp2_with fail
  rw [HW.out]
  refine wp_region_made5 (fun w' => ∃ p : Regrown, w' = grow (redrawn W0 p.d) p.os) [0, 1, 3, 4, 6, 7, 9, 10, 12, 13, 15, 16, 18, 19] [2, 5, 8, 11, 14, 17, 20] [(false, 21), (true, 22)] (by kernel_rfl) (by kernel_rfl) (by kernel_rfl) (by kernel_rfl) (by kernel_rfl) (by kernel_rfl) (by kernel_rfl) (by kernel_rfl) (by kernel_rfl) (regrown_of_below ((Below.refl _ _).drew)) ?_
  simp only [picks, List.drop_succ_cons, List.drop_zero, List.take_succ_cons, List.take_zero, List.cons_append, List.nil_append]
  repeat (go_big_quiet_step (fail))
  refine wpQuiet_nil ?_
  clear r0 r1 r2 r3 r4 r5 r6
  refine ⟨fun j v g wk => match j with | 2 => DRows w.heap.size s v g wk | 5 => DOs w.heap.size s.os v g wk | 8 => DHs w.heap.size 54 s.hs v g wk | 11 => DHs w.heap.size 40 s.ms v g wk | 14 => DInts w.heap.size s.si v g wk | 17 => DInts w.heap.size s.so v g wk | 20 => DInts w.heap.size s.sf v g wk | _ => True,
    List.forall_mem_cons.2 ⟨fun v g w w' hB h => DRows.below h hB, List.forall_mem_cons.2 ⟨fun v g w w' hB h => DOs.below h hB, List.forall_mem_cons.2 ⟨fun v g w w' hB h => DHs.below h hB, List.forall_mem_cons.2 ⟨fun v g w w' hB h => DHs.below h hB, List.forall_mem_cons.2 ⟨fun v g w w' hB h => DInts.below h hB, List.forall_mem_cons.2 ⟨fun v g w w' hB h => DInts.below h hB, List.forall_mem_cons.2 ⟨fun v g w w' hB h => DInts.below h hB, List.forall_mem_nil _⟩⟩⟩⟩⟩⟩⟩,
    List.forall_mem_cons.2 ⟨fun v g w h => DRows.lt h, List.forall_mem_cons.2 ⟨fun v g w h => by obtain ⟨_, h1, _⟩ := h; rw [h1]; intro x hx; simp at hx, List.forall_mem_cons.2 ⟨fun v g w h => by obtain ⟨_, h1, _⟩ := h; rw [h1]; intro x hx; simp at hx, List.forall_mem_cons.2 ⟨fun v g w h => by obtain ⟨_, h1, _⟩ := h; rw [h1]; intro x hx; simp at hx, List.forall_mem_cons.2 ⟨fun v g w h => DInts.lt h, List.forall_mem_cons.2 ⟨fun v g w h => DInts.lt h, List.forall_mem_cons.2 ⟨fun v g w h => DInts.lt h, List.forall_mem_nil _⟩⟩⟩⟩⟩⟩⟩,
    List.forall_mem_cons.2 ⟨?zs2, List.forall_mem_cons.2 ⟨?zs5, List.forall_mem_cons.2 ⟨?zs8, List.forall_mem_cons.2 ⟨?zs11, List.forall_mem_cons.2 ⟨?zs14, List.forall_mem_cons.2 ⟨?zs17, List.forall_mem_cons.2 ⟨?zs20, List.forall_mem_nil _⟩⟩⟩⟩⟩⟩⟩, ?zdone⟩
  case zs2 =>
    intro V G wk K hS hd hK
    have hX := below_of_regrown hS
    refine wpOp_list 2 rfl ?_
    simp only [putAll, dstOf, List.getElem?_toArray, List.getElem?_cons_succ, List.getElem?_cons_zero, Act.put, List.setIfInBounds_toArray, List.set_cons_succ, List.set_cons_zero] at hK ⊢
    go_wp2_with fail
    refine (copyRows_any s.on wk (HS.out.on.below hX) (by rw [HF.out.sh.n]; exact HF.out.sh.pl.nb6) (fun i hi => by rw [HF.out.sh.len i hi]; exact ⟨HF.out.sh.pl.ns1, HF.out.sh.pl.ns3⟩)).mono ?_
    rintro e w2 ⟨g0, Gr, Cr, rfl, a1, a2, a3, a4, hB2⟩
    go_wp2_with fail
    have q := hX.size
    refine hK _ ((List.range s.on.n).map Gr) _ (regrown_of_below (hX.trans (hB2.mono hX.size))) hB2 (fun x hx => ?_) ⟨g0, Gr, Cr, rfl, by omega, a2, fun i hi => ⟨by have := (a3 i hi).1; omega, (a3 i hi).2⟩, a4, rfl⟩
    obtain ⟨i, hi, rfl⟩ := List.mem_map.1 hx
    have := (a3 i (List.mem_range.1 hi)).1
    omega
  case zs5 =>
    intro V G wk K hS hd hK
    have hX := below_of_regrown hS
    refine wpOp_list 5 rfl ?_
    simp only [putAll, dstOf, List.getElem?_toArray, List.getElem?_cons_succ, List.getElem?_cons_zero, Act.put, List.setIfInBounds_toArray, List.set_cons_succ, List.set_cons_zero] at hK ⊢
    go_wp2_with fail
    refine (copyOrders_any s.os wk (HS.out.os.below hX) (by have := HF.out.os4; omega) HF.out.lns).mono ?_
    rintro e w2 ⟨s', rfl, a1, a2, hB2⟩
    have q := hX.size
    have HR : Hid (SameO s' s.os ∧ OwnO w.heap.size w2 s') := ⟨a1, a2.mono (by omega)⟩
    clear a1 a2
    simp only [Os.val]
    go_wp2_with fail
    exact hK _ [] _ (regrown_of_below (hX.trans (hB2.mono hX.size))) hB2 (fun x hx => by simp at hx) ⟨s', rfl, rfl, HR.out.1, HR.out.2⟩
  case zs8 =>
    intro V G wk K hS hd hK
    have hX := below_of_regrown hS
    refine wpOp_list 8 rfl ?_
    simp only [putAll, dstOf, List.getElem?_toArray, List.getElem?_cons_succ, List.getElem?_cons_zero, Act.put, List.setIfInBounds_toArray, List.set_cons_succ, List.set_cons_zero] at hK ⊢
    go_wp2_with fail
    refine (CloneHold_any s.hs wk (HS.out.hs.below hX) (by have := HF.out.hs72; omega)).mono ?_
    rintro e w2 ⟨s', rfl, hc, hB2⟩
    have q := hX.size
    have HR : Hid (Cloned w.heap.size 54 s.hs w2 s') := ⟨hc.1, hc.2.1, hc.2.2.1.mono (by omega), hc.2.2.2.mono (by omega)⟩
    clear hc
    simp only [Hs.val]
    go_wp2_with fail
    exact hK _ [] _ (regrown_of_below (hX.trans (hB2.mono hX.size))) hB2 (fun x hx => by simp at hx) ⟨s', rfl, rfl, HR.out⟩
  case zs11 =>
    intro V G wk K hS hd hK
    have hX := below_of_regrown hS
    refine wpOp_list 11 rfl ?_
    simp only [putAll, dstOf, List.getElem?_toArray, List.getElem?_cons_succ, List.getElem?_cons_zero, Act.put, List.setIfInBounds_toArray, List.set_cons_succ, List.set_cons_zero] at hK ⊢
    go_wp2_with fail
    refine (CloneMove_any s.ms wk (HS.out.ms.below hX) (by have := HF.out.ms8; omega)).mono ?_
    rintro e w2 ⟨s', rfl, hc, hB2⟩
    have q := hX.size
    have HR : Hid (Cloned w.heap.size 40 s.ms w2 s') := ⟨hc.1, hc.2.1, hc.2.2.1.mono (by omega), hc.2.2.2.mono (by omega)⟩
    clear hc
    simp only [Hs.val]
    go_wp2_with fail
    exact hK _ [] _ (regrown_of_below (hX.trans (hB2.mono hX.size))) hB2 (fun x hx => by simp at hx) ⟨s', rfl, rfl, HR.out⟩
  case zs14 =>
    intro V G wk K hS hd hK
    have hX := below_of_regrown hS
    have hn1 := HF.out.sh.pl.ns1
    have hn3 := HF.out.sh.pl.ns3
    have HCI : Hid (Calls Try.prog 53 #[.slice s.si.a s.si.n s.si.c] wk fun e w' => ∃ g c', e = .returned (.slice (some ⟨g, 0, none⟩) s.si.n c') ∧ s.si.n ≤ c' ∧ c' ≤ maxLen ∧ wk.heap.size ≤ g ∧ Blk w' g 3 s.si.n (fun j => .int .i64 (s.si.z j)) ∧ Below wk.heap.size wk w') := by
      have hr := HS.out.si.below hX
      obtain ⟨b, o, ha, -, -⟩ := hr.ints 0 (by rw [HF.out.sin]; omega)
      have hi := hr.ints
      have hz : s.si.n = p.ns := HF.out.sin
      rw [ha] at hi
      have := Clone_any b o s.si.n s.si.c s.si.z wk (by omega) (by omega) hi
      rw [← ha] at this
      exact this
    refine wpOp_list 14 rfl ?_
    simp only [putAll, dstOf, List.getElem?_toArray, List.getElem?_cons_succ, List.getElem?_cons_zero, Act.put, List.setIfInBounds_toArray, List.set_cons_succ, List.set_cons_zero] at hK ⊢
    go_wp2_with fail
    refine HCI.out.mono ?_
    rintro e w2 ⟨g, c', rfl, a1, a2, a3, a4, hB2⟩
    have q := hX.size
    go_wp2_with fail
    exact hK _ [g] _ (regrown_of_below (hX.trans (hB2.mono hX.size))) hB2 (fun x hx => by rw [List.mem_singleton] at hx; omega) ⟨g, c', rfl, rfl, by omega, a1, a2, a4⟩
  case zs17 =>
    intro V G wk K hS hd hK
    have hX := below_of_regrown hS
    have hn1 := HF.out.sh.pl.ns1
    have hn3 := HF.out.sh.pl.ns3
    have HCI : Hid (Calls Try.prog 53 #[.slice s.so.a s.so.n s.so.c] wk fun e w' => ∃ g c', e = .returned (.slice (some ⟨g, 0, none⟩) s.so.n c') ∧ s.so.n ≤ c' ∧ c' ≤ maxLen ∧ wk.heap.size ≤ g ∧ Blk w' g 3 s.so.n (fun j => .int .i64 (s.so.z j)) ∧ Below wk.heap.size wk w') := by
      have hr := HS.out.so.below hX
      obtain ⟨b, o, ha, -, -⟩ := hr.ints 0 (by rw [HF.out.son]; omega)
      have hi := hr.ints
      have hz : s.so.n = p.ns := HF.out.son
      rw [ha] at hi
      have := Clone_any b o s.so.n s.so.c s.so.z wk (by omega) (by omega) hi
      rw [← ha] at this
      exact this
    refine wpOp_list 17 rfl ?_
    simp only [putAll, dstOf, List.getElem?_toArray, List.getElem?_cons_succ, List.getElem?_cons_zero, Act.put, List.setIfInBounds_toArray, List.set_cons_succ, List.set_cons_zero] at hK ⊢
    go_wp2_with fail
    refine HCI.out.mono ?_
    rintro e w2 ⟨g, c', rfl, a1, a2, a3, a4, hB2⟩
    have q := hX.size
    go_wp2_with fail
    exact hK _ [g] _ (regrown_of_below (hX.trans (hB2.mono hX.size))) hB2 (fun x hx => by rw [List.mem_singleton] at hx; omega) ⟨g, c', rfl, rfl, by omega, a1, a2, a4⟩
  case zs20 =>
    intro V G wk K hS hd hK
    have hX := below_of_regrown hS
    have hn1 := HF.out.sh.pl.ns1
    have hn3 := HF.out.sh.pl.ns3
    have HCI : Hid (Calls Try.prog 53 #[.slice s.sf.a s.sf.n s.sf.c] wk fun e w' => ∃ g c', e = .returned (.slice (some ⟨g, 0, none⟩) s.sf.n c') ∧ s.sf.n ≤ c' ∧ c' ≤ maxLen ∧ wk.heap.size ≤ g ∧ Blk w' g 3 s.sf.n (fun j => .int .i64 (s.sf.z j)) ∧ Below wk.heap.size wk w') := by
      have hr := HS.out.sf.below hX
      obtain ⟨b, o, ha, -, -⟩ := hr.ints 0 (by rw [HF.out.sfn]; omega)
      have hi := hr.ints
      have hz : s.sf.n = p.ns := HF.out.sfn
      rw [ha] at hi
      have := Clone_any b o s.sf.n s.sf.c s.sf.z wk (by omega) (by omega) hi
      rw [← ha] at this
      exact this
    refine wpOp_list 20 rfl ?_
    simp only [putAll, dstOf, List.getElem?_toArray, List.getElem?_cons_succ, List.getElem?_cons_zero, Act.put, List.setIfInBounds_toArray, List.set_cons_succ, List.set_cons_zero] at hK ⊢
    go_wp2_with fail
    refine HCI.out.mono ?_
    rintro e w2 ⟨g, c', rfl, a1, a2, a3, a4, hB2⟩
    have q := hX.size
    go_wp2_with fail
    exact hK _ [g] _ (regrown_of_below (hX.trans (hB2.mono hX.size))) hB2 (fun x hx => by rw [List.mem_singleton] at hx; omega) ⟨g, c', rfl, rfl, by omega, a1, a2, a4⟩
  case zdone =>
    intro V G wk hS hD hA
    obtain ⟨g0, Gr, Cr, v2, a1, a2, a3, a4, gg2⟩ : DRows w.heap.size s (V 2) (G 2) wk := hD 2 (by simp)
    obtain ⟨o', -, v5, b1, b2⟩ : DOs w.heap.size s.os (V 5) (G 5) wk := hD 5 (by simp)
    obtain ⟨h', -, v8, d1, d2, d3, -⟩ : DHs w.heap.size 54 s.hs (V 8) (G 8) wk := hD 8 (by simp)
    obtain ⟨m', -, v11, f1, f2, f3, f4⟩ : DHs w.heap.size 40 s.ms (V 11) (G 11) wk := hD 11 (by simp)
    obtain ⟨B1, k1, gg14, v14, i1, i2, i3, i4⟩ : DInts w.heap.size s.si (V 14) (G 14) wk := hD 14 (by simp)
    obtain ⟨B2, k2, gg17, v17, j1, j2, j3, j4⟩ : DInts w.heap.size s.so (V 17) (G 17) wk := hD 17 (by simp)
    obtain ⟨B3, k3, gg20, v20, l2, l3, l4, l5⟩ : DInts w.heap.size s.sf (V 20) (G 20) wk := hD 20 (by simp)
    have n12 : B1 ≠ B2 := fun e => hA 14 (by simp) 17 (by simp) (by decide) B1 (by rw [gg14]; simp) (by rw [gg17, e]; simp)
    have n13 : B1 ≠ B3 := fun e => hA 14 (by simp) 20 (by simp) (by decide) B1 (by rw [gg14]; simp) (by rw [gg20, e]; simp)
    have n23 : B2 ≠ B3 := fun e => hA 17 (by simp) 20 (by simp) (by decide) B2 (by rw [gg17]; simp) (by rw [gg20, e]; simp)
    have nr : ∀ i, i < s.on.n → Gr i ≠ B1 ∧ Gr i ≠ B2 ∧ Gr i ≠ B3 := fun i hi => by
      have hm : Gr i ∈ G 2 := by rw [gg2]; exact List.mem_map.2 ⟨i, List.mem_range.2 hi, rfl⟩
      exact ⟨fun e => hA 2 (by simp) 14 (by simp) (by decide) _ hm (by rw [gg14, e]; simp), fun e => hA 2 (by simp) 17 (by simp) (by decide) _ hm (by rw [gg17, e]; simp), fun e => hA 2 (by simp) 20 (by simp) (by decide) _ hm (by rw [gg20, e]; simp)⟩
    have hX := below_of_regrown hS
    have hz := HZ.out.below hX
    clear hD hA gg2 gg14 gg17 gg20
    have HR : Hid (OwnS w.heap.size wk ⟨⟨some ⟨g0, 0, none⟩, s.on.n, s.on.n, fun i => ⟨some ⟨Gr i, 0, none⟩, (s.on.r i).n, Cr i, (s.on.r i).z⟩⟩, o', h', m', ⟨some ⟨B1, 0, none⟩, s.si.n, k1, s.si.z⟩, ⟨some ⟨B2, 0, none⟩, s.so.n, k2, s.so.z⟩, ⟨some ⟨B3, 0, none⟩, s.sf.n, k3, s.sf.z⟩⟩) := by
      refine ⟨⟨g0, rfl, a1, Nat.le_refl _, ?_, a2⟩, fun i hi => ⟨Gr i, rfl, (a3 i hi).1, (a3 i hi).2.1, (a3 i hi).2.2.1, (a3 i hi).2.2.2⟩, fun i j hij hj => ?_, b2, d3, f3, f4, ⟨B1, rfl, i1, i2, i3, i4⟩, ⟨B2, rfl, j1, j2, j3, j4⟩, ⟨B3, rfl, l2, l3, l4, l5⟩, ?_, ?_, ?_, fun i hi => ?_⟩
      · show s.on.n ≤ maxLen
        have := HF.out.sh.n
        have := HF.out.sh.pl.nb6
        unfold maxLen
        omega
      · have := a4 i j hij hj
        simp only [ne_eq, Option.some.injEq, Addr.mk.injEq, and_true]
        omega
      · intro e; simp only [Option.some.injEq, Addr.mk.injEq, and_true] at e; exact n12 e
      · intro e; simp only [Option.some.injEq, Addr.mk.injEq, and_true] at e; exact n13 e
      · intro e; simp only [Option.some.injEq, Addr.mk.injEq, and_true] at e; exact n23 e
      · obtain ⟨x1, x2, x3⟩ := nr i hi
        exact ⟨fun e => by simp only [Option.some.injEq, Addr.mk.injEq, and_true] at e; exact x1 e, fun e => by simp only [Option.some.injEq, Addr.mk.injEq, and_true] at e; exact x2 e, fun e => by simp only [Option.some.injEq, Addr.mk.injEq, and_true] at e; exact x3 e⟩
    have HC : Hid (SameT ⟨⟨some ⟨g0, 0, none⟩, s.on.n, s.on.n, fun i => ⟨some ⟨Gr i, 0, none⟩, (s.on.r i).n, Cr i, (s.on.r i).z⟩⟩, o', h', m', ⟨some ⟨B1, 0, none⟩, s.si.n, k1, s.si.z⟩, ⟨some ⟨B2, 0, none⟩, s.so.n, k2, s.so.z⟩, ⟨some ⟨B3, 0, none⟩, s.sf.n, k3, s.sf.z⟩⟩ s) :=
      ⟨⟨rfl, fun i hi => ⟨rfl, fun j hj => rfl⟩⟩, b1, ⟨d1, fun j hj => d2 j (by rw [← d1]; exact hj)⟩, ⟨f1, fun j hj => f2 j (by rw [← f1]; exact hj)⟩, ⟨rfl, fun j hj => rfl⟩, ⟨rfl, fun j hj => rfl⟩, ⟨rfl, fun j hj => rfl⟩⟩
    clear a1 a2 a3 a4 b1 b2 d1 d2 d3 f1 f2 f3 f4 i1 i2 i3 i4 j1 j2 j3 j4 l2 l3 l4 l5 n12 n13 n23 nr
    have HZ2 : Hid (Blk wk (w.heap.size + 1) 31 7 (fun _ => .slice .none 0 0)) := hz
    have zl := hz.lt
    have zf0 := hz.frozen 0
    have zc0 := hz.cell (j := 0) (by decide)
    have zf1 := hz.frozen 1
    have zc1 := hz.cell (j := 1) (by decide)
    have zf2 := hz.frozen 2
    have zc2 := hz.cell (j := 2) (by decide)
    have zf3 := hz.frozen 3
    have zc3 := hz.cell (j := 3) (by decide)
    have zf4 := hz.frozen 4
    have zc4 := hz.cell (j := 4) (by decide)
    have zf5 := hz.frozen 5
    have zc5 := hz.cell (j := 5) (by decide)
    have zf6 := hz.frozen 6
    have zc6 := hz.cell (j := 6) (by decide)
    clear hz
    simp only [putAll, dstOf, List.getElem?_toArray, List.getElem?_cons_succ, List.getElem?_cons_zero, Act.put, List.setIfInBounds_toArray, List.set_cons_succ, List.set_cons_zero, v2, v5, v8, v11, v14, v17, v20]
    refine wpSeq_one 21 rfl ?_
    go_wp2_with fail
    refine ⟨Late.no hS, ?_⟩
    refine wpSeq_one 22 rfl ?_
    go_wp2_with fail
    refine ⟨Late.yes, ?_⟩
    refine NoPanic.normal ?_
    have KZ := set7_blk HZ2.out (.slice (some ⟨g0, 0, none⟩) s.on.n s.on.n) (.slice o'.a o'.n o'.c) (.slice h'.a h'.n h'.c) (.slice m'.a m'.n m'.c) (.slice (some ⟨B1, 0, none⟩) s.si.n k1) (.slice (some ⟨B2, 0, none⟩) s.so.n k2) (.slice (some ⟨B3, 0, none⟩) s.sf.n k3)
    have hbz := set7_below (b := w.heap.size + 1) (hWB.trans (hX.mono hWB.size)) (by omega) (.slice (some ⟨g0, 0, none⟩) s.on.n s.on.n) (.slice o'.a o'.n o'.c) (.slice h'.a h'.n h'.c) (.slice m'.a m'.n m'.c) (.slice (some ⟨B1, 0, none⟩) s.si.n k1) (.slice (some ⟨B2, 0, none⟩) s.so.n k2) (.slice (some ⟨B3, 0, none⟩) s.sf.n k3)
    have HR2 := OwnS.set7 HR.out HZ2.out (.slice (some ⟨g0, 0, none⟩) s.on.n s.on.n) (.slice o'.a o'.n o'.c) (.slice h'.a h'.n h'.c) (.slice m'.a m'.n m'.c) (.slice (some ⟨B1, 0, none⟩) s.si.n k1) (.slice (some ⟨B2, 0, none⟩) s.so.n k2) (.slice (some ⟨B3, 0, none⟩) s.sf.n k3)
    unfold set7 at KZ hbz HR2
    generalize (((((((wk.setCell { block := w.heap.size + 1, off := 0 } (Value.slice (some { block := g0, off := 0 }) s.on.n s.on.n)).setCell { block := w.heap.size + 1, off := 1 } (Value.slice o'.a o'.n o'.c)).setCell { block := w.heap.size + 1, off := 2 } (Value.slice h'.a h'.n h'.c)).setCell { block := w.heap.size + 1, off := 3 } (Value.slice m'.a m'.n m'.c)).setCell { block := w.heap.size + 1, off := 4 } (Value.slice (some { block := B1, off := 0 }) s.si.n k1)).setCell { block := w.heap.size + 1, off := 5 } (Value.slice (some { block := B2, off := 0 }) s.so.n k2)).setCell { block := w.heap.size + 1, off := 6 } (Value.slice (some { block := B3, off := 0 }) s.sf.n k3)) = WY at *
    clear hX zl zf0 zc0 zf1 zc1 zf2 zc2 zf3 zc3 zf4 zc4 zf5 zc5 zf6 zc6 v2 v5 v8 v11 v14 v17 v20 hS
    obtain ⟨c0, c1, c2, c3, c4, c5, c6⟩ := box_cells KZ
    have HQ : Hid (OwnS w.heap.size WY ⟨⟨some ⟨g0, 0, none⟩, s.on.n, s.on.n, fun i => ⟨some ⟨Gr i, 0, none⟩, (s.on.r i).n, Cr i, (s.on.r i).z⟩⟩, o', h', m', ⟨some ⟨B1, 0, none⟩, s.si.n, k1, s.si.z⟩, ⟨some ⟨B2, 0, none⟩, s.so.n, k2, s.so.z⟩, ⟨some ⟨B3, 0, none⟩, s.sf.n, k3, s.sf.z⟩⟩) := HR2
    clear HR2
    go_wp2_with fail
    refine bodyPost_ret (v := (⟨⟨some ⟨g0, 0, none⟩, s.on.n, s.on.n, fun i => ⟨some ⟨Gr i, 0, none⟩, (s.on.r i).n, Cr i, (s.on.r i).z⟩⟩, o', h', m', ⟨some ⟨B1, 0, none⟩, s.si.n, k1, s.si.z⟩, ⟨some ⟨B2, 0, none⟩, s.so.n, k2, s.so.z⟩, ⟨some ⟨B3, 0, none⟩, s.sf.n, k3, s.sf.z⟩⟩ : St).val) (by simp [results, Try.results22, go_sem, St.val, c0, c1, c2, c3, c4, c5, c6]) rfl ?_
    exact ⟨_, rfl, HC.out, HQ.out, hbz⟩
theorem OwnS.mono {A A' : Nat} {w : World} {s : St} (h : OwnS A w s) (hA : A' ≤ A) : OwnS A' w s := by
  have i : ∀ {r : Rw}, OwnI A w r → OwnI A' w r := fun ⟨g, a, b, c⟩ => ⟨g, a, Nat.le_trans hA b, c⟩
  refine ⟨?_, fun j hj => i (h.rows j hj), h.rapart, h.os.mono hA, h.hs.mono hA, h.ms.mono hA, h.msr.mono hA, i h.si, i h.so, i h.sf, h.aio, h.aif, h.aof, h.ari⟩
  obtain ⟨g, a, b, c⟩ := h.on
  exact ⟨g, a, Nat.le_trans hA b, c⟩
end Go.Proofs.Ytbcacebifpagpaf
namespace Go.Proofs.Ytbcacebifpagpaf
open Go.RowKit Go.Shelf Go.Sort
set_option linter.unusedVariables false
def comingTo (s : St) (b g : Int) : Nat → Int
  | 0 => 0
  | k + 1 => comingTo s b g k + (if (s.ms.z k).b = b ∧ (s.ms.z k).o = g then (s.ms.z k).n else 0)
theorem comingTo_bd {s : St} {b g : Int} : ∀ {n : Nat}, (∀ j, j < n → 1 ≤ (s.ms.z j).n ∧ (s.ms.z j).n ≤ 200) → 0 ≤ comingTo s b g n ∧ comingTo s b g n ≤ 200 * n
  | 0, _ => by simp [comingTo]
  | n + 1, h => by
    have ih := comingTo_bd (b := b) (g := g) (n := n) fun j hj => h j (by omega)
    have := h n (by omega)
    simp only [comingTo]
    split <;> omega
end Go.Proofs.Ytbcacebifpagpaf
namespace Go.Proofs.Ytbcacebifpagpaf
open Go.RowKit
set_option linter.unusedVariables false
theorem SameT.symm {s t : St} (h : SameT s t) : SameT t s := by
  refine ⟨⟨h.on.1.symm, fun i hi => ?_⟩, ⟨h.os.1.symm, fun i hi => ?_⟩, ⟨h.hs.1.symm, fun j hj => (h.hs.2 j (by rw [h.hs.1]; exact hj)).symm⟩, ⟨h.ms.1.symm, fun j hj => (h.ms.2 j (by rw [h.ms.1]; exact hj)).symm⟩, ⟨h.si.1.symm, fun j hj => (h.si.2 j (by rw [h.si.1]; exact hj)).symm⟩, ⟨h.so.1.symm, fun j hj => (h.so.2 j (by rw [h.so.1]; exact hj)).symm⟩, ⟨h.sf.1.symm, fun j hj => (h.sf.2 j (by rw [h.sf.1]; exact hj)).symm⟩⟩
  · have x := h.on.2 i (by rw [h.on.1]; exact hi)
    exact ⟨x.1.symm, fun j hj => (x.2 j (by rw [x.1]; exact hj)).symm⟩
  · have x := h.os.2 i (by rw [h.os.1]; exact hi)
    exact ⟨x.1.symm, x.2.1.symm, fun j hj => (x.2.2 j (by rw [x.2.1]; exact hj)).symm⟩
theorem SameT.trans {s t u : St} (h : SameT s t) (k : SameT t u) : SameT s u := by
  refine ⟨⟨h.on.1.trans k.on.1, fun i hi => ?_⟩, ⟨h.os.1.trans k.os.1, fun i hi => ?_⟩, ⟨h.hs.1.trans k.hs.1, fun j hj => (h.hs.2 j hj).trans (k.hs.2 j (by rw [← h.hs.1]; exact hj))⟩, ⟨h.ms.1.trans k.ms.1, fun j hj => (h.ms.2 j hj).trans (k.ms.2 j (by rw [← h.ms.1]; exact hj))⟩, ⟨h.si.1.trans k.si.1, fun j hj => (h.si.2 j hj).trans (k.si.2 j (by rw [← h.si.1]; exact hj))⟩, ⟨h.so.1.trans k.so.1, fun j hj => (h.so.2 j hj).trans (k.so.2 j (by rw [← h.so.1]; exact hj))⟩, ⟨h.sf.1.trans k.sf.1, fun j hj => (h.sf.2 j hj).trans (k.sf.2 j (by rw [← h.sf.1]; exact hj))⟩⟩
  · have x := h.on.2 i hi
    have y := k.on.2 i (by rw [← h.on.1]; exact hi)
    exact ⟨x.1.trans y.1, fun j hj => (x.2 j hj).trans (y.2 j (by rw [← x.1]; exact hj))⟩
  · have x := h.os.2 i hi
    have y := k.os.2 i (by rw [← h.os.1]; exact hi)
    exact ⟨x.1.trans y.1, x.2.1.trans y.2.1, fun j hj => (x.2.2 j hj).trans (y.2.2 j (by rw [← x.2.1]; exact hj))⟩
def setRw (r : Rw) (j : Nat) (x : Int) : Rw := ⟨r.a, r.n, r.c, fun i => if i = j then x else r.z i⟩
def setOn (s : St) (b g : Nat) (x : Int) : St := ⟨⟨s.on.a, s.on.n, s.on.c, fun i => if i = b then setRw (s.on.r i) g x else s.on.r i⟩, s.os, s.hs, s.ms, s.si, s.so, s.sf⟩
theorem OwnI.set {A : Nat} {w : World} {r : Rw} {G : Nat} (h : OwnI A w r) (ha : r.a = some ⟨G, 0, none⟩) (j : Nat) (x : Int) : OwnI A (w.setCell ⟨G, j, none⟩ (.int .i64 x)) (setRw r j x) := by
  obtain ⟨g, ha', h0, h1, h2, hb⟩ := h
  rw [ha] at ha'
  simp only [Option.some.injEq, Addr.mk.injEq, and_true] at ha'
  subst ha'
  refine ⟨G, ha, h0, h1, h2, (hb.set j (.int .i64 x)).congr fun i hi => ?_⟩
  show (if i = j then _ else _) = Value.int .i64 (if i = j then x else r.z i)
  by_cases hij : i = j <;> simp [hij]
theorem OwnI.apart {A : Nat} {w : World} {r : Rw} {G : Nat} (h : OwnI A w r) (ha : r.a ≠ some ⟨G, 0, none⟩) (j : Nat) (u : Value) : OwnI A (w.setCell ⟨G, j, none⟩ u) r := by
  obtain ⟨g, ha', h0, h1, h2, hb⟩ := h
  refine ⟨g, ha', h0, h1, h2, hb.other (a := ⟨G, j, none⟩) (fun e => ha ?_) u⟩
  rw [ha', show g = G from e]
theorem row_a {s : St} {b g : Nat} {x : Int} (i : Nat) : (if i = b then setRw (s.on.r i) g x else s.on.r i).a = (s.on.r i).a := by
  by_cases h : i = b <;> simp [h, setRw]
theorem OwnS.setOn {A : Nat} {w : World} {s : St} {b G : Nat} (h : OwnS A w s) (hb : b < s.on.n) (ha : (s.on.r b).a = some ⟨G, 0, none⟩) (g : Nat) (x : Int) : OwnS A (w.setCell ⟨G, g, none⟩ (.int .i64 x)) (Go.Proofs.Ytbcacebifpagpaf.setOn s b g x) := by
  obtain ⟨Gb, hGb, _, _, _, hblk⟩ := h.rows b hb
  rw [ha] at hGb
  simp only [Option.some.injEq, Addr.mk.injEq, and_true] at hGb
  subst hGb
  have q := h.ari b hb
  rw [ha] at q
  refine ⟨?_, fun i hi => ?_, fun i j hij hj => ?_, h.os.other hblk (by decide) (by decide) g _, h.hs.other hblk (by decide) g _, h.ms.other hblk (by decide) g _, h.msr.set _ _ _, h.si.apart (fun e => q.1 e.symm) g _, h.so.apart (fun e => q.2.1 e.symm) g _, h.sf.apart (fun e => q.2.2 e.symm) g _, h.aio, h.aif, h.aof, fun i hi => ?_⟩
  · obtain ⟨g0, ha0, h0, h1, h2, hb0⟩ := h.on
    refine ⟨g0, ha0, h0, h1, h2, (hb0.other (a := ⟨G, g, none⟩) (Blk.ne2 hb0 hblk (by decide)) _).congr fun i hi => ?_⟩
    show _ = Value.slice (if i = b then setRw (s.on.r i) g x else s.on.r i).a (if i = b then setRw (s.on.r i) g x else s.on.r i).n (if i = b then setRw (s.on.r i) g x else s.on.r i).c
    by_cases hib : i = b <;> simp [hib, setRw]
  · show OwnI A _ (if i = b then setRw (s.on.r i) g x else s.on.r i)
    by_cases hib : i = b
    · subst hib
      rw [if_pos rfl]
      exact (h.rows i hi).set ha g x
    · rw [if_neg hib]
      refine (h.rows i hi).apart (fun e => ?_) g _
      rcases Nat.lt_or_gt_of_ne hib with hlt | hgt
      · exact h.rapart i b hlt hb (e.trans ha.symm)
      · exact h.rapart b i hgt hi (ha.trans e.symm)
  · show (if i = b then setRw (s.on.r i) g x else s.on.r i).a ≠ (if j = b then setRw (s.on.r j) g x else s.on.r j).a
    rw [row_a, row_a]
    exact h.rapart i j hij hj
  · show (if i = b then setRw (s.on.r i) g x else s.on.r i).a ≠ _ ∧ (if i = b then setRw (s.on.r i) g x else s.on.r i).a ≠ _ ∧ (if i = b then setRw (s.on.r i) g x else s.on.r i).a ≠ _
    rw [row_a]
    exact h.ari i hi
def lyingZ (s : St) (b g : Nat) : Int := (s.on.r b).z g + comingTo s b g s.ms.n
def ActOK (E : Int) (t s' : St) : Prop := (E = 0 → SameT s' t) ∧ (¬ E = 0 → NoneS s')
end Go.Proofs.Ytbcacebifpagpaf
namespace Go.Proofs.Ytbcacebifpagpaf
open Go.RowKit
set_option linter.unusedVariables false
structure Tk where
  left : Int
  took : Int → Int
def Tk.step (av : Int → Int) (t : Tk) (b : Int) : Tk := ⟨t.left - min t.left (av b), fun x => t.took x + if x = b then min t.left (av b) else 0⟩
def Tk.go (av : Int → Int) (n : Int) (l : List Int) : Tk := l.foldl (Tk.step av) ⟨n, fun _ => 0⟩
theorem Tk.go_more (av : Int → Int) (n : Int) (l : List Int) (b : Int) : Tk.go av n (l ++ [b]) = (Tk.go av n l).step av b := by
  unfold Tk.go
  rw [List.foldl_append]
  rfl
structure TkOK (av : Int → Int) (n : Int) (l : List Int) (t : Tk) : Prop where
  left0 : 0 ≤ t.left
  leftn : t.left ≤ n
  took0 : ∀ x, 0 ≤ t.took x
  tookn : ∀ x, t.took x ≤ n - t.left
  had : ∀ x, x ∈ l → t.took x ≤ av x
  other : ∀ x, x ∉ l → t.took x = 0
  all : 0 < t.left → ∀ x, x ∈ l → t.took x = av x
  sum : sumTo (fun b => t.took b) 6 = n - t.left
theorem tkOK {av : Int → Int} {n : Int} (hn : 0 ≤ n) : ∀ {l : List Int}, l.Pairwise (fun x y => ¬ x = y) → (∀ x, x ∈ l → 0 ≤ av x) → (∀ x, x ∈ l → 0 ≤ x ∧ x < 6) → TkOK av n l (Tk.go av n l) := by
  suffices H : ∀ (k : Nat) (l : List Int), l.length = k → l.Pairwise (fun x y => ¬ x = y) → (∀ x, x ∈ l → 0 ≤ av x) → (∀ x, x ∈ l → 0 ≤ x ∧ x < 6) → TkOK av n l (Tk.go av n l) from fun {l} => H l.length l rfl
  intro k
  induction k with
  | zero =>
    intro l hl _ _ _
    obtain rfl := List.eq_nil_of_length_eq_zero hl
    exact ⟨hn, Int.le_refl _, fun _ => Int.le_refl _, fun _ => by show (0 : Int) ≤ n - n; omega, fun x h => by simp at h, fun _ _ => rfl, fun _ x h => by simp at h, by show (0 : Int) + 0 + 0 + 0 + 0 + 0 + 0 = n - n; omega⟩
  | succ m ih =>
    intro l0 hl0 hd ha hin
    obtain ⟨l, b, rfl⟩ : ∃ l b, l0 = l ++ [b] := ⟨l0.dropLast, l0.getLast (by intro e; rw [e] at hl0; simp at hl0), (List.dropLast_concat_getLast _).symm⟩
    have hlm : l.length = m := by simpa using hl0
    rw [List.pairwise_append] at hd
    have hb : b ∉ l := fun hm => hd.2.2 b hm b (by simp) rfl
    have k := ih l hlm hd.1 (fun x hx => ha x (by simp [hx])) (fun x hx => hin x (by simp [hx]))
    have hb6 := hin b (by simp)
    have hab := ha b (by simp)
    rw [Tk.go_more]
    generalize Tk.go av n l = t at k
    have h0 := k.left0
    have hln := k.leftn
    have hmin : 0 ≤ min t.left (av b) ∧ min t.left (av b) ≤ t.left ∧ min t.left (av b) ≤ av b := by omega
    have hob := k.other b hb
    refine ⟨?_, ?_, fun x => ?_, fun x => ?_, fun x hx => ?_, fun x hx => ?_, fun hl x hx => ?_, ?_⟩
    · show 0 ≤ t.left - min t.left (av b); omega
    · show t.left - min t.left (av b) ≤ n; omega
    · have := k.took0 x
      show 0 ≤ t.took x + if x = b then min t.left (av b) else 0
      split <;> omega
    · have := k.tookn x
      show (t.took x + if x = b then min t.left (av b) else 0) ≤ n - (t.left - min t.left (av b))
      split <;> omega
    · show (t.took x + if x = b then min t.left (av b) else 0) ≤ av x
      by_cases hxb : x = b
      · subst hxb; rw [if_pos rfl]; omega
      · rw [if_neg hxb]
        have : x ∈ l := by simpa [hxb] using hx
        have := k.had x this
        omega
    · show (t.took x + if x = b then min t.left (av b) else 0) = 0
      have hxb : ¬ x = b := fun e => hx (by simp [e])
      have hxl : x ∉ l := fun e => hx (by simp [e])
      rw [if_neg hxb, k.other x hxl]
      rfl
    · have hl' : 0 < t.left - min t.left (av b) := hl
      show (t.took x + if x = b then min t.left (av b) else 0) = av x
      by_cases hxb : x = b
      · subst hxb; rw [if_pos rfl]; omega
      · rw [if_neg hxb]
        have : x ∈ l := by simpa [hxb] using hx
        have := k.all (by omega) x this
        omega
    · show sumTo (fun x => t.took x + if (x : Int) = b then min t.left (av b) else 0) 6 = n - (t.left - min t.left (av b))
      have e := k.sum
      rw [sumTo_put (z := fun x => t.took x) (m := b.toNat) (n := min t.left (av b)) (by omega) fun i hi => by
        by_cases hib : i = b.toNat
        · have : ((i : Nat) : Int) = b := by omega
          rw [if_pos this, if_pos hib]
        · have : ¬ ((i : Nat) : Int) = b := by omega
          rw [if_neg this, if_neg hib, Int.add_zero], e]
      omega
def wayT (p : Pl) (but : Int) : List Int := (wayL p).filter (fun b => !(b == but))
theorem wayT_mem {p : Pl} {but x : Int} : x ∈ wayT p but ↔ x ∈ wayL p ∧ ¬ x = but := by
  unfold wayT
  rw [List.mem_filter]
  simp
theorem wayT_apart (p : Pl) (but : Int) : (wayT p but).Pairwise (fun x y => ¬ x = y) := ((way_pw p).imp fun h => h.1).filter _
end Go.Proofs.Ytbcacebifpagpaf
namespace Go.Proofs.Ytbcacebifpagpaf
open Go.RowKit Go.Shelf Go.Sort
set_option linter.unusedVariables false
def ZeroAt (A n : Nat) (v : Value) (g : List Nat) (wk : World) : Prop := ∃ B, g = [B] ∧ v = .slice (some ⟨B, 0, none⟩) n n ∧ A ≤ B ∧ Blk wk B 3 n (fun _ => .int .i64 0)
theorem ZeroAt.below {A n : Nat} {v : Value} {g : List Nat} {w w' : World} (h : ZeroAt A n v g w) (hB : Below w.heap.size w w') : ZeroAt A n v g w' := by
  obtain ⟨B, h0, h1, h2, h3⟩ := h
  exact ⟨B, h0, h1, h2, h3.below hB⟩
theorem ZeroAt.lt {A n : Nat} {v : Value} {g : List Nat} {w : World} (h : ZeroAt A n v g w) : ∀ x ∈ g, x < w.heap.size := by
  obtain ⟨B, rfl, h1, h2, h3⟩ := h
  intro x hx
  rw [List.mem_singleton] at hx
  subst hx
  exact h3.lt
def BoxAt (A : Nat) (v : Value) (g : List Nat) (wk : World) : Prop := ∃ B, g = [B] ∧ v = .pointer (some ⟨B, 0, none⟩) ∧ A ≤ B ∧ Blk wk B 31 7 (fun _ => .slice .none 0 0)
theorem BoxAt.below {A : Nat} {v : Value} {g : List Nat} {w w' : World} (h : BoxAt A v g w) (hB : Below w.heap.size w w') : BoxAt A v g w' := by
  obtain ⟨B, h0, h1, h2, h3⟩ := h
  exact ⟨B, h0, h1, h2, h3.below hB⟩
theorem BoxAt.lt {A : Nat} {v : Value} {g : List Nat} {w : World} (h : BoxAt A v g w) : ∀ x ∈ g, x < w.heap.size := by
  obtain ⟨B, rfl, h1, h2, h3⟩ := h
  intro x hx
  rw [List.mem_singleton] at hx
  subst hx
  exact h3.lt
def SumsAt (A n : Nat) (v : Value) (g : List Nat) (wk : World) : Prop := ∃ B1 B2 B3, g = [] ∧ v = .agg #[.slice .none 0 0, .slice .none 0 0, .slice .none 0 0, .slice .none 0 0, .slice (some ⟨B1, 0, none⟩) n n, .slice (some ⟨B2, 0, none⟩) n n, .slice (some ⟨B3, 0, none⟩) n n] ∧
  (A ≤ B1 ∧ Blk wk B1 3 n (fun _ => .int .i64 0)) ∧ (A ≤ B2 ∧ Blk wk B2 3 n (fun _ => .int .i64 0)) ∧ (A ≤ B3 ∧ Blk wk B3 3 n (fun _ => .int .i64 0))
theorem SumsAt.below {A n : Nat} {v : Value} {g : List Nat} {w w' : World} (h : SumsAt A n v g w) (hB : Below w.heap.size w w') : SumsAt A n v g w' := by
  obtain ⟨B1, B2, B3, h0, h1, ⟨a1, a2⟩, ⟨b1, b2⟩, ⟨c1, c2⟩⟩ := h
  exact ⟨B1, B2, B3, h0, h1, ⟨a1, a2.below hB⟩, ⟨b1, b2.below hB⟩, ⟨c1, c2.below hB⟩⟩
def OneAt (A n : Nat) (v : Value) (g : List Nat) (wk : World) : Prop := ∃ B R, g = [B] ∧ v = .slice (some ⟨B, 0, none⟩) 1 1 ∧ A ≤ B ∧ Blk wk B 23 1 (fun _ => .slice (some ⟨R, 0, none⟩) n n) ∧ A ≤ R ∧ Blk wk R 3 n (fun _ => .int .i64 0)
theorem OneAt.below {A n : Nat} {v : Value} {g : List Nat} {w w' : World} (h : OneAt A n v g w) (hB : Below w.heap.size w w') : OneAt A n v g w' := by
  obtain ⟨B, R, h0, h1, h2, h3, h4, h5⟩ := h
  exact ⟨B, R, h0, h1, h2, h3.below hB, h4, h5.below hB⟩
theorem OneAt.lt {A n : Nat} {v : Value} {g : List Nat} {w : World} (h : OneAt A n v g w) : ∀ x ∈ g, x < w.heap.size := by
  obtain ⟨B, R, rfl, h1, h2, h3, h4, h5⟩ := h
  intro x hx
  rw [List.mem_singleton] at hx
  subst hx
  exact h3.lt
def Fr (n : Nat) (w : World) (s : St) : Prop := ∀ w'' : World, w.heap.size ≤ w''.heap.size → (∀ g, n ≤ g → g < w.heap.size → w''.heap[g]? = w.heap[g]?) → s.At w''
theorem Fr.at {n : Nat} {w : World} {s : St} (h : Fr n w s) : s.At w := h w (Nat.le_refl _) (fun _ _ _ => rfl)
theorem Fr.below {n : Nat} {w w' : World} {s : St} (h : Fr n w s) (hB : Below w.heap.size w w') : Fr n w' s := fun w'' hz hs => h w'' (Nat.le_trans hB.size hz) fun g h1 h2 => (hs g h1 (Nat.lt_of_lt_of_le h2 hB.size)).trans (hB.block g h2)
theorem Fr.set {n : Nat} {w : World} {s : St} (h : Fr n w s) {q : Nat} (hq : q < n) (j : Nat) (u : Value) : Fr n (w.setCell ⟨q, j, none⟩ u) s := fun w'' hz hs => h w'' (by simpa using hz) fun g h1 h2 => (hs g h1 (by simpa using h2)).trans (Below.heap_setCell w ⟨q, j, none⟩ u g (by show g ≠ q; omega))
end Go.Proofs.Ytbcacebifpagpaf
namespace Go.Proofs.Ytbcacebifpagpaf
open Go.RowKit Go.Shelf Go.Sort
set_option linter.unusedVariables false
def DOn (A : Nat) (s : St) (v : Value) (g : List Nat) (wk : World) : Prop := ∃ (g0 c0 : Nat) (G C : Nat → Nat), v = .slice (some ⟨g0, 0, none⟩) s.on.n c0 ∧ A ≤ g0 ∧ s.on.n ≤ c0 ∧ c0 ≤ maxLen ∧ Blk wk g0 23 s.on.n (fun i => .slice (some ⟨G i, 0, none⟩) (s.on.r i).n (C i)) ∧
  (∀ i, i < s.on.n → A ≤ G i ∧ (s.on.r i).n ≤ C i ∧ C i ≤ maxLen ∧ Blk wk (G i) 3 (s.on.r i).n (fun j => .int .i64 ((s.on.r i).z j))) ∧ (∀ i j, i < j → j < s.on.n → G i < G j) ∧ g = (List.range s.on.n).map G
theorem DOn.below {A : Nat} {s : St} {v : Value} {g : List Nat} {w w' : World} (h : DOn A s v g w) (hB : Below w.heap.size w w') : DOn A s v g w' := by
  obtain ⟨g0, c0, G, C, h1, h2, h2', h2'', h3, h4, h5, h6⟩ := h
  exact ⟨g0, c0, G, C, h1, h2, h2', h2'', h3.below hB, fun i hi => ⟨(h4 i hi).1, (h4 i hi).2.1, (h4 i hi).2.2.1, (h4 i hi).2.2.2.below hB⟩, h5, h6⟩
theorem DOn.lt {A : Nat} {s : St} {v : Value} {g : List Nat} {w : World} (h : DOn A s v g w) : ∀ x ∈ g, x < w.heap.size := by
  obtain ⟨g0, c0, G, C, h1, h2, h2', h2'', h3, h4, h5, rfl⟩ := h
  intro x hx
  obtain ⟨i, hi, rfl⟩ := List.mem_map.1 hx
  exact (h4 i (List.mem_range.1 hi)).2.2.2.lt
def DAgg (A : Nat) (s : St) (v : Value) (g : List Nat) (wk : World) : Prop := g = [] ∧ ∃ x2 g2 x6 g6 x10 g10 x14 g14 x18 g18 x22 g22, v = .agg #[x2, .slice .none 0 0, x6, x10, x14, x18, x22] ∧ DOn A s x2 g2 wk ∧ DHs A 54 s.hs x6 g6 wk ∧ DHs A 40 s.ms x10 g10 wk ∧
  DInts A s.si x14 g14 wk ∧ DInts A s.so x18 g18 wk ∧ DInts A s.sf x22 g22 wk ∧ (∀ x ∈ g2, x ∉ g14) ∧ (∀ x ∈ g2, x ∉ g18) ∧ (∀ x ∈ g2, x ∉ g22) ∧ (∀ x ∈ g14, x ∉ g18) ∧ (∀ x ∈ g14, x ∉ g22) ∧ (∀ x ∈ g18, x ∉ g22)
theorem DAgg.below {A : Nat} {s : St} {v : Value} {g : List Nat} {w w' : World} (h : DAgg A s v g w) (hB : Below w.heap.size w w') : DAgg A s v g w' := by
  obtain ⟨h0, x2, g2, x6, g6, x10, g10, x14, g14, x18, g18, x22, g22, h1, a, b, c, d, e, f, r⟩ := h
  exact ⟨h0, x2, g2, x6, g6, x10, g10, x14, g14, x18, g18, x22, g22, h1, a.below hB, b.below hB, c.below hB, d.below hB, e.below hB, f.below hB, r⟩
theorem OwnS.below {A : Nat} {w w' : World} {s : St} (h : OwnS A w s) (hB : Below w.heap.size w w') : OwnS A w' s := by
  refine ⟨?_, fun i hi => (h.rows i hi).below hB, h.rapart, h.os.below hB, h.hs.below hB, h.ms.below hB, h.msr.below hB, h.si.below hB, h.so.below hB, h.sf.below hB, h.aio, h.aif, h.aof, h.ari⟩
  obtain ⟨g, ha, h0, h1, h2, hb⟩ := h.on
  exact ⟨g, ha, h0, h1, h2, hb.below hB⟩
def D16 (A : Nat) (x : Od) (v : Value) (g : List Nat) (wk : World) : Prop := ∃ s' : Hs, g = [] ∧ v = .agg #[.int .i64 x.k, .slice s'.a s'.n s'.c] ∧ Cloned A 60 x.ls wk s'
theorem D16.below {A : Nat} {x : Od} {v : Value} {g : List Nat} {w w' : World} (h : D16 A x v g w) (hB : Below w.heap.size w w') : D16 A x v g w' := by
  obtain ⟨s', h1, h2, h3, h4, h5, h6⟩ := h
  exact ⟨s', h1, h2, h3, h4, h5.below hB, h6.below hB⟩
def D17 (A : Nat) (x : Od) (v : Value) (g : List Nat) (wk : World) : Prop := ∃ (B : Nat) (s' : Hs), g = [] ∧ v = .slice (some ⟨B, 0, none⟩) 1 1 ∧ A ≤ B ∧ Blk wk B 58 2 (fun j => (#[.int .i64 x.k, .slice s'.a s'.n s'.c] : Array Value).getD j default) ∧ Cloned A 60 x.ls wk s'
theorem D17.below {A : Nat} {x : Od} {v : Value} {g : List Nat} {w w' : World} (h : D17 A x v g w) (hB : Below w.heap.size w w') : D17 A x v g w' := by
  obtain ⟨B, s', h1, h2, h3, h4, h5, h6, h7, h8⟩ := h
  exact ⟨B, s', h1, h2, h3, h4.below hB, h5, h6, h7.below hB, h8.below hB⟩
end Go.Proofs.Ytbcacebifpagpaf
namespace Go.Proofs.Ytbcacebifpagpaf
open Go.RowKit Go.Shelf
set_option linter.unusedVariables false
structure OwnR (A : Nat) (w : World) (s : Sh) : Prop where
  on : ∃ g, s.a = some ⟨g, 0, none⟩ ∧ A ≤ g ∧ s.n ≤ s.c ∧ s.c ≤ maxLen ∧ Blk w g 23 s.n (fun i => .slice (s.r i).a (s.r i).n (s.r i).c)
  rows : ∀ i, i < s.n → OwnI A w (s.r i)
  rapart : ∀ i j, i < j → j < s.n → (s.r i).a ≠ (s.r j).a
set_option maxHeartbeats 1000000 in
theorem PutOwn_any (p : Pl) (s : Sh) (bin good n : Int) (w : World) (hp : p.At w) (hs : s.At w) (hput : putE p s bin good n = 0) :
    Calls Try.prog 23 #[p.val, s.val, .int .i64 bin, .int .i64 good, .int .i64 n] w fun e w' => ∃ s' : Sh, e = .returned (.tuple #[s'.val, .int .i64 0]) ∧ OwnR w.heap.size w' s' ∧ s'.n = s.n ∧ (∀ i, i < s.n → (s'.r i).n = (s.r i).n ∧ ∀ j, j < (s.r i).n → (s'.r i).z j = putZ s bin good n i j) ∧ Below w.heap.size w w' := by
  have hB0 : Below w.heap.size w (w.alloc (.cells #[.slice p.ab p.nb p.cb, .slice p.sa p.ns p.cs] 25)) := (Below.refl w.heap.size w).alloc (Nat.le_refl _) _
  simp only [Pl.val, Sh.val]
  have sle := hs.le
  have scap0 := hs.cap
  have scap := scap0
  unfold maxLen at scap
  have hn0 : s.n ≤ maxLen := Nat.le_trans sle scap0
  have les := hp.les
  have caps0 := hp.caps
  have hn1 : p.ns ≤ maxLen := Nat.le_trans les caps0
  have caps := caps0
  unfold maxLen at caps
  go_enter Try.func23, Try.ntmps23
  go_wp2_with fail
  refine (shelfCheck_any p s _ (hp.below hB0) (hs.below hB0)).mono ?_
  rintro e w1 ⟨rfl, hB⟩
  have hBw := hB0.trans (hB.mono (by simp))
  have hsz : w.heap.size < w1.heap.size := by have := hB.size; simp at this; omega
  have c1 : w1.cell? ⟨w.heap.size, 1, none⟩ = some (.slice p.sa p.ns p.cs) := (hB.cell (p := ⟨w.heap.size, 1, none⟩) (by simp)).trans (by simp)
  have h0 : shelfE p s = 0 := by
    apply Classical.byContradiction
    intro h0
    have hE : shelfErr p s bin good = shelfE p s := by simp [shelfErr, h0]
    simp [putE, hE, h0] at hput
  have hE := shelfErr_eq (bin := bin) (good := good) h0
  have h1 : inB bin 0 ((s.n : Int) - 1) = true := by
    cases h1 : inB bin 0 ((s.n : Int) - 1)
    · simp [putE, hE, h1] at hput
    · rfl
  have h2 : inB good 0 ((p.ns : Int) - 1) = true := by
    cases h2 : inB good 0 ((p.ns : Int) - 1)
    · simp [putE, hE, h1, h2] at hput
    · rfl
  have hE0 : shelfErr p s bin good = 0 := by simp [hE, h1, h2]
  clear hE
  obtain ⟨m, rfl⟩ := Int.eq_ofNat_of_zero_le (inB_true h1).1
  obtain ⟨q, rfl⟩ := Int.eq_ofNat_of_zero_le (inB_true h2).1
  have hm : m < s.n := by have := (inB_true h1).2; omega
  have hq : q < p.ns := by have := (inB_true h2).2; omega
  obtain ⟨pl, hn, hlen, hnum⟩ := (rightS h0).2
  have hz := hnum m hm q hq
  have hl := hlen m hm
  have h6 := pl.nb6
  rw [← hn] at h6
  have hr3 : Hid (∀ i, i < s.n → 1 ≤ (s.r i).n ∧ (s.r i).n ≤ 3) := fun i hi => by rw [hlen i hi]; exact ⟨pl.ns1, pl.ns3⟩
  have hs1 := hs.below hBw
  have m1 : (0 : Int) ≤ (m : Int) := by omega
  have m2 : (0 : Int) ≤ (q : Int) := by omega
  obtain ⟨b, o, ha, hb, z0, hat⟩ := hs1.rows m hm
  obtain ⟨b1, o1, ha1, hb1, y0⟩ := hat.ints q (by omega)
  rw [ha1] at z0
  have hql : q < (s.r m).n := by omega
  have rle := hat.le
  have rcap := hat.cap
  unfold maxLen at rcap
  have h3 : inB n (-((s.r m).z q)) (200 - (s.r m).z q) = true := by
    cases h3 : inB n (-((s.r m).z q)) (200 - (s.r m).z q)
    · simp [putE, hE0, h3] at hput
    · rfl
  clear hput
  clear pl hn hlen hnum ha1 hat hE0 hl
  obtain ⟨s0, sn, sc, sr⟩ := s
  dsimp only at *
  subst ha
  go_wp2_with (first | (go_at_call_of 19 (Value.int .i64 (m : Int)); refine calls_to (Has_any _ _ _ hn0) ?_) | (go_at_call_of 19 (Value.int .i64 (q : Int)); refine calls_to (Has_any _ _ _ hn1) ?_) | (go_at_call 21; refine calls_to (Within_any _ _ _ _) ?_))
  refine (copyRows_any ⟨some ⟨b, o, none⟩, sn, sc, sr⟩ w1 hs1 h6 hr3.out).mono ?_
  rintro e w2 ⟨g, G, C, rfl, hg, gb, gr, gm, hB2⟩
  dsimp only at gb gr gm ⊢
  obtain ⟨g1, g2, g3, g4⟩ := gr m hm
  have d0 := gb.cell hm
  have d1 := g4.cell hql
  have d2 := g4.frozen q
  have hnn := inB_true h3
  unfold maxLen at g3
  have hB3 := hBw.trans (hB2.mono hBw.size)
  have hge : w.heap.size ≤ G m := by have := hBw.size; omega
  have st := hB3.setCell (p := ⟨G m, q, none⟩) hge (.int .i64 ((sr m).z q + n))
  have HH : Hid _ := And.intro gb (And.intro gr gm)
  clear gb gr gm c1 y0 z0
  go_wp2_with fail
  go_ret2
  obtain ⟨gb, gr, gm⟩ := HH.out
  refine ⟨⟨some ⟨g, 0, none⟩, sn, sn, fun i => ⟨some ⟨G i, 0, none⟩, (sr i).n, C i, fun j => putZ ⟨some ⟨b, o, none⟩, sn, sc, sr⟩ m q n i j⟩⟩, rfl, ⟨⟨g, rfl, ?_, Nat.le_refl _, hn0, ?_⟩, ?_, ?_⟩, rfl, fun i hi => ⟨rfl, fun j hj => rfl⟩, st⟩
  · have := hBw.size; omega
  · exact gb.other (a := ⟨G m, q, none⟩) (by show g ≠ G m; omega) (.int .i64 ((sr m).z q + n))
  · intro i hi
    have gi := gr i hi
    refine ⟨G i, rfl, ?_, gi.2.1, gi.2.2.1, ?_⟩
    · have := hBw.size; omega
    · by_cases him : i = m
      · subst him
        refine (gi.2.2.2.set q (.int .i64 ((sr i).z q + n))).congr fun j hj => ?_
        by_cases hjq : j = q
        · subst hjq; simp [putZ]
        · simp [putZ, hjq]
      · have hGne : G i ≠ G m := by
          rcases Nat.lt_or_gt_of_ne him with h | h
          · have := gm i m h hm; omega
          · have := gm m i h hi; omega
        refine (gi.2.2.2.other (a := ⟨G m, q, none⟩) hGne (.int .i64 ((sr m).z q + n))).congr fun j hj => ?_
        simp [putZ, him]
  · intro i j hij hj h
    have := gm i j hij hj
    simp only [Option.some.injEq, Addr.mk.injEq, and_true] at h
    omega
end Go.Proofs.Ytbcacebifpagpaf
namespace Go.Proofs.Ytbcacebifpagpaf
open Go.RowKit Go.Shelf Go.Sort
set_option linter.unusedVariables false
theorem OwnS.swap {A B : Nat} {w0 w : World} {o : St} {r : Sh} (h : OwnS A w0 o) (hB : Below w0.heap.size w0 w) (hR : OwnR B w r) (hw : w0.heap.size ≤ B) (hA : A ≤ B) : OwnS A w ⟨r, o.os, o.hs, o.ms, o.si, o.so, o.sf⟩ := by
  have k := OwnS.below h hB
  obtain ⟨G1, a1, -, -, -, k1⟩ := h.si
  obtain ⟨G2, a2, -, -, -, k2⟩ := h.so
  obtain ⟨G3, a3, -, -, -, k3⟩ := h.sf
  have l1 := k1.lt
  have l2 := k2.lt
  have l3 := k3.lt
  refine ⟨?_, fun i hi => ?_, hR.rapart, k.os, k.hs, k.ms, k.msr, k.si, k.so, k.sf, k.aio, k.aif, k.aof, fun i hi => ?_⟩
  · obtain ⟨g, h1, h2, h3⟩ := hR.on
    exact ⟨g, h1, by omega, h3⟩
  · obtain ⟨g, h1, h2, h3⟩ := hR.rows i hi
    exact ⟨g, h1, by omega, h3⟩
  · obtain ⟨g, h1, h2, h3⟩ := hR.rows i hi
    show (r.r i).a ≠ o.si.a ∧ (r.r i).a ≠ o.so.a ∧ (r.r i).a ≠ o.sf.a
    rw [h1, a1, a2, a3]
    simp only [ne_eq, Option.some.injEq, Addr.mk.injEq, and_true]
    omega
end Go.Proofs.Ytbcacebifpagpaf
namespace Go.Proofs.Ytbcacebifpagpaf
open Go.RowKit Go.Shelf
set_option linter.unusedVariables false
def Grew (A : Nat) (e : TypeId) (w w' : World) : Prop := ∃ row, w.grownBy w' row ∧ ∀ k, row = some k → A ≤ k ∧ ∃ cur, w.heap[k]? = some (.cells cur e (0, 0))
theorem Grew.blk {A : Nat} {e : TypeId} {w w' : World} (h : Grew A e w w') {q : Nat} {t : TypeId} {m : Nat} {f : Nat → Value} (hb : Blk w q t m f) (hne : t ≠ e) : Blk w' q t m f := by
  obtain ⟨row, hg, hr⟩ := h
  refine hb.grown hg fun hq => ?_
  obtain ⟨_, c2, hc2⟩ := hr q hq.symm
  obtain ⟨c3, hc3, _⟩ := hb
  rw [hc3] at hc2
  cases hc2
  exact hne rfl
theorem Grew.low {A : Nat} {e : TypeId} {w w' : World} (h : Grew A e w w') {q : Nat} {t : TypeId} {m : Nat} {f : Nat → Value} (hb : Blk w q t m f) (hq : q < A) : Blk w' q t m f := by
  obtain ⟨row, hg, hr⟩ := h
  exact hb.grown hg fun hq' => by have := (hr q hq'.symm).1; omega
theorem Grew.below {A A' : Nat} {e : TypeId} {w0 w w' : World} (h : Grew A e w w') (hB : Below A' w0 w) (hA : A' ≤ A) (hs : A' ≤ w.heap.size) : Below A' w0 w' := by
  obtain ⟨row, hg, hr⟩ := h
  exact hB.grown hg hs fun k hk => by have := (hr k hk).1; omega
theorem Room.grew {A B : Nat} {t : TypeId} {w w2 : World} {sz c : Nat} {a : Option Addr} {e : TypeId} (h : Room A w t sz a c) (hg : Grew B e w w2) (hne : t ≠ e) : Room A w2 t sz a c := by
  obtain ⟨row, hg, hr⟩ := hg
  refine h.same fun g cur hgc => hg.block g (Array.getElem?_eq_some_iff.1 hgc).1 fun hq => ?_
  obtain ⟨_, c2, hc2⟩ := hr g hq.symm
  rw [hgc] at hc2
  cases hc2
  exact hne rfl
theorem OwnI.grew {A B : Nat} {w w2 : World} {r : Rw} {e : TypeId} (h : OwnI A w r) (hg : Grew B e w w2) (hne : 3 ≠ e) : OwnI A w2 r := by
  obtain ⟨g, ha, h0, h1, h2, hb⟩ := h
  exact ⟨g, ha, h0, h1, h2, hg.blk hb hne⟩
theorem OwnH.grew {A B : Nat} {t : TypeId} {w w2 : World} {s : Hs} {e : TypeId} (h : OwnH A t w s) (hg : Grew B e w w2) (hne : t ≠ e) : OwnH A t w2 s := by
  obtain ⟨h1, h2, h3, h4⟩ := h
  refine ⟨h1, h2, h3, fun hn => ?_⟩
  obtain ⟨g, ha, hA, hb⟩ := h4 hn
  exact ⟨g, ha, hA, hg.blk hb hne⟩
def moreO (s : Os) (x : Od) (i : Nat) : Od := if i = s.n then x else s.z i
theorem flatO_more (s : Os) (x : Od) : flatO s.n s.z ++ odCells x = flatO (s.n + 1) (moreO s x) := by
  rw [flatO, flatO_congr (z' := moreO s x) fun i hi => by unfold moreO; rw [if_neg (by omega)]]
  congr 1
  unfold moreO
  rw [if_pos rfl]
theorem OwnO.more {A : Nat} {w w' : World} {s : Os} {x : Od} {v : Value} (h : OwnO A w s) (ho : w'.ownsRow A 58 2 v (s.n + 1) (flatO s.n s.z ++ odCells x)) (hg : Grew A 58 w w')
    {B : Nat} (ha : x.ls.a = some ⟨B, 0, none⟩) (hB : A ≤ B) (hl : x.ls.n ≤ x.ls.c) (hc : x.ls.c ≤ maxLen) (hk : Blk w B 60 (x.ls.n * 4) (fun j => (flatH x.ls.n x.ls.z).getD j default)) (hap : ∀ i, i < s.n → (s.z i).ls.a ≠ x.ls.a) :
    ∃ va vc, v = .slice va (s.n + 1) vc ∧ OwnO A w' ⟨va, s.n + 1, vc, moreO s x⟩ := by
  have hv : v ≠ .slice none 0 0 := by
    rintro rfl
    rcases ho.2 with ⟨_, h0⟩ | ⟨g2, cap2, cur2, h, _⟩
    · omega
    · cases h
  have ho' := ho
  rw [flatO_more] at ho'
  obtain ⟨g, c, rfl, h1, h2, h3, h4⟩ := Blk.ofOwns ho' hv
  refine ⟨some ⟨g, 0, none⟩, c, rfl, h1, h2, fun _ => ⟨g, rfl, h3, h4⟩, fun i hi => ?_, fun i j hij hj => ?_, Room.ofOwns ho (Nat.le_refl _)⟩
  · show ∃ B, (moreO s x i).ls.a = _ ∧ A ≤ B ∧ (moreO s x i).ls.n ≤ (moreO s x i).ls.c ∧ (moreO s x i).ls.c ≤ maxLen ∧ Blk w' B 60 ((moreO s x i).ls.n * 4) (fun j => (flatH (moreO s x i).ls.n (moreO s x i).ls.z).getD j default)
    have hi' : i < s.n + 1 := hi
    unfold moreO
    by_cases hin : i = s.n
    · rw [if_pos hin]
      exact ⟨B, ha, hB, hl, hc, hg.blk hk (by decide)⟩
    · rw [if_neg hin]
      obtain ⟨B', a1, a2, a3, a4, a5⟩ := h.lines i (by omega)
      exact ⟨B', a1, a2, a3, a4, hg.blk a5 (by decide)⟩
  · have hj' : j < s.n + 1 := hj
    show (moreO s x i).ls.a ≠ (moreO s x j).ls.a
    unfold moreO
    rw [if_neg (by omega)]
    by_cases hjn : j = s.n
    · rw [if_pos hjn]
      exact hap i (by omega)
    · rw [if_neg hjn]
      exact h.apart i j hij (by omega)
end Go.Proofs.Ytbcacebifpagpaf
namespace Go.Proofs.Ytbcacebifpagpaf
open Go.RowKit Go.Shelf Go.Sort
set_option linter.unusedVariables false
theorem OwnS.orders {A B : Nat} {w w' : World} {s : St} {os : Os} (h : OwnS A w s) (hg : Grew B 58 w w') (ho : OwnO A w' os) : OwnS A w' ⟨s.on, os, s.hs, s.ms, s.si, s.so, s.sf⟩ := by
  refine ⟨?_, fun i hi => (h.rows i hi).grew hg (by decide), h.rapart, ho, h.hs.grew hg (by decide), h.ms.grew hg (by decide), h.msr.grew hg (by decide), h.si.grew hg (by decide), h.so.grew hg (by decide), h.sf.grew hg (by decide), h.aio, h.aif, h.aof, h.ari⟩
  obtain ⟨g, a, b, c, d, e⟩ := h.on
  exact ⟨g, a, b, c, d, hg.blk e (by decide)⟩
end Go.Proofs.Ytbcacebifpagpaf
namespace Go.Proofs.Ytbcacebifpagpaf
open Go.RowKit Go.Shelf Go.Sort
set_option linter.unusedVariables false
structure BusyB (w : World) (g : Nat) (a k : Int) : Prop where
  b0 : Blk w (g) 3 2 (fun j => (#[.int .i64 9, .int .i64 0] : Array Value).getD j default)
  b1 : Blk w (g + 1) 3 2 (fun j => (#[.int .i64 3, .int .i64 0] : Array Value).getD j default)
  b2 : Blk w (g + 2) 3 2 (fun j => (#[.int .i64 0, .int .i64 6] : Array Value).getD j default)
  b3 : Blk w (g + 3) 23 3 (fun j => (#[.slice (some ⟨g, 0, none⟩) 2 2, .slice (some ⟨g + 1, 0, none⟩) 2 2, .slice (some ⟨g + 2, 0, none⟩) 2 2] : Array Value).getD j default)
  b4 : Blk w (g + 4) 60 8 (fun j => (#[.int .i64 0, .int .i64 6, .int .i64 1, .int .i64 0, .int .i64 1, .int .i64 9, .int .i64 0, .int .i64 3] : Array Value).getD j default)
  b5 : Blk w (g + 5) 60 4 (fun j => (#[.int .i64 0, .int .i64 4, .int .i64 0, .int .i64 0] : Array Value).getD j default)
  b6 : Blk w (g + 6) 58 4 (fun j => (#[.int .i64 1, .slice (some ⟨g + 4, 0, none⟩) 2 2, .int .i64 k, .slice (some ⟨g + 5, 0, none⟩) 1 1] : Array Value).getD j default)
  b7 : Blk w (g + 7) 54 12 (fun j => (#[.int .i64 0, .int .i64 0, .int .i64 0, .int .i64 a, .int .i64 0, .int .i64 0, .int .i64 1, .int .i64 3, .int .i64 0, .int .i64 1, .int .i64 2, .int .i64 6] : Array Value).getD j default)
  b8 : Blk w (g + 8) 40 4 (fun j => (#[.int .i64 0, .int .i64 0, .int .i64 1, .int .i64 5] : Array Value).getD j default)
  b9 : Blk w (g + 9) 3 2 (fun j => (#[.int .i64 13, .int .i64 6] : Array Value).getD j default)
  b10 : Blk w (g + 10) 3 2 (fun j => (#[.int .i64 1, .int .i64 0] : Array Value).getD j default)
  b11 : Blk w (g + 11) 3 2 (fun j => (#[.int .i64 0, .int .i64 0] : Array Value).getD j default)
theorem BusyB.below {w w' : World} {g : Nat} {a k : Int} (h : BusyB w g a k) (hB : Below w.heap.size w w') : BusyB w' g a k := ⟨h.b0.below hB, h.b1.below hB, h.b2.below hB, h.b3.below hB, h.b4.below hB, h.b5.below hB, h.b6.below hB, h.b7.below hB, h.b8.below hB, h.b9.below hB, h.b10.below hB, h.b11.below hB⟩
def bz0 : Nat → Int
  | 0 => 9
  | _ => 0
def bz1 : Nat → Int
  | 0 => 3
  | _ => 0
def bz2 : Nat → Int
  | 0 => 0
  | _ => 6
def bzi : Nat → Int
  | 0 => 13
  | _ => 6
def bzo : Nat → Int
  | 0 => 1
  | _ => 0
def bl0 : Nat → Hd
  | 0 => ⟨0, 6, 1, 0⟩
  | _ => ⟨1, 9, 0, 3⟩
def bhs (a : Int) : Nat → Hd
  | 0 => ⟨0, 0, 0, a⟩
  | 1 => ⟨0, 0, 1, 3⟩
  | _ => ⟨0, 1, 2, 6⟩
def bon (g : Nat) : Nat → Rw
  | 0 => ⟨some ⟨g, 0, none⟩, 2, 2, bz0⟩
  | 1 => ⟨some ⟨g + 1, 0, none⟩, 2, 2, bz1⟩
  | _ => ⟨some ⟨g + 2, 0, none⟩, 2, 2, bz2⟩
def bos (g : Nat) (k : Int) : Nat → Od
  | 0 => ⟨1, ⟨some ⟨g + 4, 0, none⟩, 2, 2, bl0⟩⟩
  | _ => ⟨k, ⟨some ⟨g + 5, 0, none⟩, 1, 1, fun _ => ⟨0, 4, 0, 0⟩⟩⟩
def busyS (g : Nat) (a k : Int) : St := ⟨⟨some ⟨g + 3, 0, none⟩, 3, 3, bon g⟩, ⟨some ⟨g + 6, 0, none⟩, 2, 2, bos g k⟩, ⟨some ⟨g + 7, 0, none⟩, 3, 3, bhs a⟩, ⟨some ⟨g + 8, 0, none⟩, 1, 1, fun _ => ⟨0, 0, 1, 5⟩⟩, ⟨some ⟨g + 9, 0, none⟩, 2, 2, bzi⟩, ⟨some ⟨g + 10, 0, none⟩, 2, 2, bzo⟩, ⟨some ⟨g + 11, 0, none⟩, 2, 2, fun _ => 0⟩⟩
theorem le_max {n : Nat} (h : n ≤ 100) : n ≤ maxLen := by unfold maxLen; omega
theorem two_at {w : World} {g : Nat} {e : TypeId} {x y : Int} {z : Nat → Int} (h : Blk w g e 2 (fun j => (#[.int .i64 x, .int .i64 y] : Array Value).getD j default)) (h0 : z 0 = x) (h1 : z 1 = y) : Rw.At w ⟨some ⟨g, 0, none⟩, 2, 2, z⟩ := by
  refine ⟨Nat.le_refl _, le_max (n := 2) (by decide), fun i hi => ?_⟩
  have hi' : i < 2 := hi
  refine ⟨g, 0, rfl, h.lt, ?_⟩
  match i, hi' with
  | 0, _ => show w.cell? ⟨g, 0 + 0, none⟩ = some (.int .i64 (z 0)); rw [h0]; exact h.cell (j := 0) (by decide)
  | 1, _ => show w.cell? ⟨g, 0 + 1, none⟩ = some (.int .i64 (z 1)); rw [h1]; exact h.cell (j := 1) (by decide)
theorem busyAt {w : World} {g : Nat} {a k : Int} (h : BusyB w g a k) : (busyS g a k).At w := by
  refine ⟨⟨Nat.le_refl _, le_max (n := 3) (by decide), fun i hi => ?_⟩, ⟨Nat.le_refl _, le_max (n := 2) (by decide), fun i hi => ?_⟩, ⟨Nat.le_refl _, le_max (n := 3) (by decide), fun i hi => ?_, fun e => by cases e⟩, ⟨Nat.le_refl _, le_max (n := 1) (by decide), fun i hi => ?_, fun e => by cases e⟩, two_at h.b9 rfl rfl, two_at h.b10 rfl rfl, two_at h.b11 rfl rfl⟩
  · have hi' : i < 3 := hi
    refine ⟨g + 3, 0, rfl, h.b3.lt, ?_⟩
    match i, hi' with
    | 0, _ => exact ⟨h.b3.cell (j := 0) (by decide), two_at h.b0 rfl rfl⟩
    | 1, _ => exact ⟨h.b3.cell (j := 1) (by decide), two_at h.b1 rfl rfl⟩
    | 2, _ => exact ⟨h.b3.cell (j := 2) (by decide), two_at h.b2 rfl rfl⟩
  · have hi' : i < 2 := hi
    refine ⟨g + 6, 0, rfl, h.b6.lt, ?_⟩
    match i, hi' with
    | 0, _ =>
      refine ⟨h.b6.cell (j := 0) (by decide), h.b6.cell (j := 1) (by decide), Nat.le_refl _, le_max (n := 2) (by decide), fun j hj => ?_, fun e => by cases e⟩
      have hj' : j < 2 := hj
      refine ⟨g + 4, 0, rfl, h.b4.lt, ?_⟩
      match j, hj' with
      | 0, _ => exact ⟨h.b4.cell (j := 0) (by decide), h.b4.cell (j := 1) (by decide), h.b4.cell (j := 2) (by decide), h.b4.cell (j := 3) (by decide)⟩
      | 1, _ => exact ⟨h.b4.cell (j := 4) (by decide), h.b4.cell (j := 5) (by decide), h.b4.cell (j := 6) (by decide), h.b4.cell (j := 7) (by decide)⟩
    | 1, _ =>
      refine ⟨h.b6.cell (j := 2) (by decide), h.b6.cell (j := 3) (by decide), Nat.le_refl _, le_max (n := 1) (by decide), fun j hj => ?_, fun e => by cases e⟩
      have hj' : j < 1 := hj
      refine ⟨g + 5, 0, rfl, h.b5.lt, ?_⟩
      match j, hj' with
      | 0, _ => exact ⟨h.b5.cell (j := 0) (by decide), h.b5.cell (j := 1) (by decide), h.b5.cell (j := 2) (by decide), h.b5.cell (j := 3) (by decide)⟩
  · have hi' : i < 3 := hi
    refine ⟨g + 7, 0, rfl, h.b7.lt, ?_⟩
    match i, hi' with
    | 0, _ => exact ⟨h.b7.cell (j := 0) (by decide), h.b7.cell (j := 1) (by decide), h.b7.cell (j := 2) (by decide), h.b7.cell (j := 3) (by decide)⟩
    | 1, _ => exact ⟨h.b7.cell (j := 4) (by decide), h.b7.cell (j := 5) (by decide), h.b7.cell (j := 6) (by decide), h.b7.cell (j := 7) (by decide)⟩
    | 2, _ => exact ⟨h.b7.cell (j := 8) (by decide), h.b7.cell (j := 9) (by decide), h.b7.cell (j := 10) (by decide), h.b7.cell (j := 11) (by decide)⟩
  · have hi' : i < 1 := hi
    refine ⟨g + 8, 0, rfl, h.b8.lt, ?_⟩
    match i, hi' with
    | 0, _ => exact ⟨h.b8.cell (j := 0) (by decide), h.b8.cell (j := 1) (by decide), h.b8.cell (j := 2) (by decide), h.b8.cell (j := 3) (by decide)⟩
set_option maxRecDepth 100000 in
set_option maxHeartbeats 4000000 in
theorem busy_any (w : World) :
    Calls Try.prog 28 #[] w fun e w' => ∃ g, e = .returned (busyS g 2 0).val ∧ w.heap.size < g ∧ BusyB w' g 2 0 ∧ Below w.heap.size w w' := by
  go_enter Try.func28, Try.ntmps28
  go_wp2
  refine bodyPost_ret (v := (busyS (w.heap.size + 1) 2 0).val) (by simp [results, Try.results28, go_sem, busyS, St.val]) rfl ?_
  refine ⟨w.heap.size + 1, rfl, by omega, ⟨Blk.alloc (Blk.alloc (Blk.alloc (Blk.alloc (Blk.alloc (Blk.alloc (Blk.alloc (Blk.alloc (Blk.alloc (Blk.alloc (Blk.alloc (Blk.mk' (by simp <;> omega) rfl) _) _) _) _) _) _) _) _) _) _) _, Blk.alloc (Blk.alloc (Blk.alloc (Blk.alloc (Blk.alloc (Blk.alloc (Blk.alloc (Blk.alloc (Blk.alloc (Blk.alloc (Blk.mk' (by simp <;> omega) rfl) _) _) _) _) _) _) _) _) _) _, Blk.alloc (Blk.alloc (Blk.alloc (Blk.alloc (Blk.alloc (Blk.alloc (Blk.alloc (Blk.alloc (Blk.alloc (Blk.mk' (by simp <;> omega) rfl) _) _) _) _) _) _) _) _) _, Blk.alloc (Blk.alloc (Blk.alloc (Blk.alloc (Blk.alloc (Blk.alloc (Blk.alloc (Blk.alloc (Blk.mk' (by simp <;> omega) rfl) _) _) _) _) _) _) _) _, Blk.alloc (Blk.alloc (Blk.alloc (Blk.alloc (Blk.alloc (Blk.alloc (Blk.alloc (Blk.mk' (by simp <;> omega) rfl) _) _) _) _) _) _) _, Blk.alloc (Blk.alloc (Blk.alloc (Blk.alloc (Blk.alloc (Blk.alloc (Blk.mk' (by simp <;> omega) rfl) _) _) _) _) _) _, Blk.alloc (Blk.alloc (Blk.alloc (Blk.alloc (Blk.alloc (Blk.mk' (by simp <;> omega) rfl) _) _) _) _) _, Blk.alloc (Blk.alloc (Blk.alloc (Blk.alloc (Blk.mk' (by simp <;> omega) rfl) _) _) _) _, Blk.alloc (Blk.alloc (Blk.alloc (Blk.mk' (by simp <;> omega) rfl) _) _) _, Blk.alloc (Blk.alloc (Blk.mk' (by simp <;> omega) rfl) _) _, Blk.alloc (Blk.mk' (by simp <;> omega) rfl) _, Blk.mk' (by simp <;> omega) rfl⟩, ?_⟩
  exact (((((((((((((Below.refl _ _).alloc (Nat.le_refl _) _).alloc (by simp <;> omega) _).alloc (by simp <;> omega) _).alloc (by simp <;> omega) _).alloc (by simp <;> omega) _).alloc (by simp <;> omega) _).alloc (by simp <;> omega) _).alloc (by simp <;> omega) _).alloc (by simp <;> omega) _).alloc (by simp <;> omega) _).alloc (by simp <;> omega) _).alloc (by simp <;> omega) _).alloc (by simp <;> omega) _
end Go.Proofs.Ytbcacebifpagpaf
namespace Go.Proofs.Ytbcacebifpagpaf
open Go.RowKit
set_option linter.unusedVariables false
theorem sumTo_zero {z : Nat → Int} : ∀ {n : Nat}, (∀ j, j < n → z j = 0) → sumTo z n = 0
  | 0, _ => rfl
  | n + 1, h => by simp only [sumTo]; rw [sumTo_zero (n := n) fun j hj => h j (by omega), h n (by omega)]; rfl
end Go.Proofs.Ytbcacebifpagpaf
namespace Go.Proofs.Ytbcacebifpagpaf
open Go.RowKit
set_option linter.unusedVariables false
theorem goods_no {p : Pl} {s : St} {g : Nat} (h : wrongGood p s g = false) : sumTo (fun i => (s.on.r i).z g) s.on.n = s.si.z g - s.so.z g + s.sf.z g ∧ ∀ b, b < p.nb → 0 ≤ availZ s b g := by
  rw [wrongGood_eq, Bool.or_eq_false_iff] at h
  refine ⟨by simpa using h.1, fun b hb => ?_⟩
  have := anyB_false h.2 b hb
  simpa using this
theorem goods_mk {p : Pl} {s : St} {g : Nat} (h1 : sumTo (fun i => (s.on.r i).z g) s.on.n = s.si.z g - s.so.z g + s.sf.z g) (h2 : ∀ b, b < p.nb → 0 ≤ availZ s b g) : wrongGood p s g = false := by
  rw [wrongGood_eq, Bool.or_eq_false_iff]
  exact ⟨by simp [h1], anyB_no fun b hb => by have := h2 b hb; simpa using this⟩
section
variable {p : Pl} {s : St} {b g : Nat} {n : Int}
end
section
variable {p : Pl} {s : St} {l : Hs}
end
end Go.Proofs.Ytbcacebifpagpaf
namespace Go.Proofs.Ytbcacebifpagpaf
open Go.RowKit
set_option linter.unusedVariables false
theorem sumTo_at {z z' : Nat → Int} {m : Nat} {n : Int} {k : Nat} (hm : m < k) (h : ∀ i, i < k → z' i = z i + if i = m then n else 0) : sumTo z' k = sumTo z k + n :=
  sumTo_put hm fun i hi => by rw [h i hi]; by_cases e : i = m <;> simp [e]
theorem sumTo_same {z z' : Nat → Int} {k : Nat} (h : ∀ i, i < k → z' i = z i) : sumTo z' k = sumTo z k := sumTo_congr h
def lineHeld (x : St) (b g : Int) (k : Nat) (o l : Nat) : Int := if ((x.os.z o).ls.z l).o = g then keptV k x.hs.z o l b else 0
def heldSum (x : St) (b g : Int) (k : Nat) : Int := sumTo (fun o => sumTo (fun l => lineHeld x b g k o l) (x.os.z o).ls.n) x.os.n
theorem heldTo_sum {p : Pl} {x : St} (b g : Int) : ∀ k, (∀ j, j < k → homeless p x (x.hs.z j) = false) → anyB k (badH x.hs.z) = false → heldTo x b g k = heldSum x b g k
  | 0, _, _ => by
    unfold heldSum
    rw [sumTo_zero fun o _ => sumTo_zero fun l _ => by unfold lineHeld keptV; simp]
    rfl
  | k + 1, h, hr => by
    simp only [heldTo]
    rw [heldTo_sum b g k (fun j hj => h j (by omega)) (right_pred hr)]
    obtain ⟨h1, h2, h3⟩ := homeless_no (h k (by omega))
    have key : ∀ o l, lineHeld x b g (k + 1) o l = lineHeld x b g k o l + if o = (x.hs.z k).o.toNat ∧ l = (x.hs.z k).l.toNat then (if (x.hs.z k).b = b ∧ goodH x (x.hs.z k) = g then (x.hs.z k).n else 0) else 0 := fun o l => by
      unfold lineHeld
      rw [keptV_succ hr]
      by_cases hol : o = (x.hs.z k).o.toNat ∧ l = (x.hs.z k).l.toNat
      · rw [if_pos hol]
        obtain ⟨rfl, rfl⟩ := hol
        have e1 : (((x.hs.z k).o.toNat : Nat) : Int) = (x.hs.z k).o := by omega
        have e2 : (((x.hs.z k).l.toNat : Nat) : Int) = (x.hs.z k).l := by omega
        rw [e1, e2]
        by_cases hg : goodH x (x.hs.z k) = g
        · have hg' : ((x.os.z (x.hs.z k).o.toNat).ls.z (x.hs.z k).l.toNat).o = g := hg
          rw [if_pos hg', if_pos hg']
          by_cases hb : (x.hs.z k).b = b
          · have hm : matchH (x.hs.z k) (x.hs.z k).o (x.hs.z k).l b = true := by rw [← hb]; exact matchH_self _
            have e3 : (if (x.hs.z k).b = b ∧ goodH x (x.hs.z k) = g then (x.hs.z k).n else 0) = (x.hs.z k).n := if_pos ⟨hb, hg⟩
            rw [hm, e3, if_pos rfl]
          · have hm : matchH (x.hs.z k) (x.hs.z k).o (x.hs.z k).l b = false := by
              cases hm : matchH (x.hs.z k) (x.hs.z k).o (x.hs.z k).l b
              · rfl
              · exact absurd (matchH_true hm).2.2 hb
            have e3 : (if (x.hs.z k).b = b ∧ goodH x (x.hs.z k) = g then (x.hs.z k).n else 0) = 0 := if_neg (fun e => hb e.1)
            rw [hm, e3]
            simp
        · have hg' : ¬ ((x.os.z (x.hs.z k).o.toNat).ls.z (x.hs.z k).l.toNat).o = g := hg
          rw [if_neg hg', if_neg hg', if_neg (fun e => hg e.2)]
          rfl
      · rw [if_neg hol]
        have : matchH (x.hs.z k) o l b = false := by
          cases hm : matchH (x.hs.z k) o l b
          · rfl
          · have := matchH_true hm
            exact absurd ⟨by omega, by omega⟩ hol
        rw [this]
        simp
    unfold heldSum
    refine (sumTo_at h1.2 fun o ho => ?_).symm
    by_cases hoo : o = (x.hs.z k).o.toNat
    · rw [if_pos hoo]
      subst hoo
      exact sumTo_at h2.2 fun l hl => by
        rw [key]
        by_cases hll : l = (x.hs.z k).l.toNat
        · rw [if_pos ⟨rfl, hll⟩, if_pos hll]
        · rw [if_neg (fun e => hll e.2), if_neg hll]
    · rw [if_neg hoo, Int.add_zero]
      exact sumTo_same fun l hl => by rw [key, if_neg (fun e => hoo e.1)]; omega
def lessL (x : Hd) (n : Int) : Hd := ⟨x.o, x.l, x.b, x.n - n⟩
structure Took (s : St) (o l : Nat) (n : Int) (t : Tk) (x : St) : Prop where
  on : x.on.n = s.on.n ∧ ∀ i, i < x.on.n → (x.on.r i).n = (s.on.r i).n ∧ ∀ j, j < (x.on.r i).n → (x.on.r i).z j = (s.on.r i).z j
  os : x.os.n = s.os.n ∧ ∀ i, i < x.os.n → (x.os.z i).k = (s.os.z i).k ∧ (x.os.z i).ls.n = (s.os.z i).ls.n ∧ ∀ j, j < (x.os.z i).ls.n → (x.os.z i).ls.z j = if i = o ∧ j = l then lessL ((s.os.z i).ls.z j) (n - t.left) else (s.os.z i).ls.z j
  right : anyB x.hs.n (badH x.hs.z) = false
  kept : ∀ a b c : Int, keptV x.hs.n x.hs.z a b c = keptV s.hs.n s.hs.z a b c + if a = o ∧ b = l then t.took c else 0
  ms : x.ms.n = s.ms.n ∧ ∀ j, j < x.ms.n → x.ms.z j = s.ms.z j
  si : x.si.n = s.si.n ∧ ∀ j, j < x.si.n → x.si.z j = s.si.z j
  so : x.so.n = s.so.n ∧ ∀ j, j < x.so.n → x.so.z j = s.so.z j
  sf : x.sf.n = s.sf.n ∧ ∀ j, j < x.sf.n → x.sf.z j = s.sf.z j
theorem Took.same {s : St} {o l : Nat} {n : Int} {t : Tk} {x y : St} (h : Took s o l n t x) (k : Took s o l n t y) : SameT x y := by
  have ho : ∀ i, i < x.os.n → i < y.os.n := fun i hi => by rw [k.os.1, ← h.os.1]; exact hi
  refine ⟨⟨h.on.1.trans k.on.1.symm, fun i hi => ?_⟩, ⟨h.os.1.trans k.os.1.symm, fun i hi => ?_⟩, right_ext h.right k.right fun a b c => (h.kept a b c).trans (k.kept a b c).symm, ⟨h.ms.1.trans k.ms.1.symm, fun j hj => (h.ms.2 j hj).trans (k.ms.2 j (by rw [k.ms.1, ← h.ms.1]; exact hj)).symm⟩, ⟨h.si.1.trans k.si.1.symm, fun j hj => (h.si.2 j hj).trans (k.si.2 j (by rw [k.si.1, ← h.si.1]; exact hj)).symm⟩, ⟨h.so.1.trans k.so.1.symm, fun j hj => (h.so.2 j hj).trans (k.so.2 j (by rw [k.so.1, ← h.so.1]; exact hj)).symm⟩, ⟨h.sf.1.trans k.sf.1.symm, fun j hj => (h.sf.2 j hj).trans (k.sf.2 j (by rw [k.sf.1, ← h.sf.1]; exact hj)).symm⟩⟩
  · have a := h.on.2 i hi
    have b := k.on.2 i (by rw [k.on.1, ← h.on.1]; exact hi)
    exact ⟨a.1.trans b.1.symm, fun j hj => (a.2 j hj).trans (b.2 j (by rw [b.1, ← a.1]; exact hj)).symm⟩
  · have a := h.os.2 i hi
    have b := k.os.2 i (ho i hi)
    exact ⟨a.1.trans b.1.symm, a.2.1.trans b.2.1.symm, fun j hj => (a.2.2 j hj).trans (b.2.2 j (by rw [b.2.1, ← a.2.1]; exact hj)).symm⟩
section
variable {p : Pl} {s x : St} {o l : Nat} {n : Int} {t : Tk}
theorem Took.line (h : Took s o l n t x) {i j : Nat} (hi : i < s.os.n) (hj : j < (s.os.z i).ls.n) : (x.os.z i).ls.z j = if i = o ∧ j = l then lessL ((s.os.z i).ls.z j) (n - t.left) else (s.os.z i).ls.z j := by
  have a := h.os.2 i (by rw [h.os.1]; exact hi)
  exact a.2.2 j (by rw [a.2.1]; exact hj)
theorem Took.good (h : Took s o l n t x) {i j : Nat} (hi : i < s.os.n) (hj : j < (s.os.z i).ls.n) : ((x.os.z i).ls.z j).o = ((s.os.z i).ls.z j).o := by
  rw [h.line hi hj]
  split <;> rfl
theorem Took.keptS (h : Took s o l n t x) (f : Formed p s) (hsum : sumTo (fun b => t.took b) 6 = n - t.left) (a b : Int) : Go.Proofs.Ytbcacebifpagpaf.keptS x.hs.z a b x.hs.n = Go.Proofs.Ytbcacebifpagpaf.keptS s.hs.z a b s.hs.n + if a = o ∧ b = l then n - t.left else 0 := by
  rw [← kept_eq x.hs.z a b _ h.right, ← kept_eq s.hs.z a b _ f.hold]
  by_cases hab : a = o ∧ b = l
  · rw [if_pos hab, ← hsum]
    have : ∀ m, sumTo (fun c => keptV x.hs.n x.hs.z a b c) m = sumTo (fun c => keptV s.hs.n s.hs.z a b c) m + sumTo (fun c => t.took c) m := fun m => by
      induction m with
      | zero => rfl
      | succ m ih => simp only [sumTo]; rw [ih, h.kept, if_pos hab]; omega
    exact this 6
  · rw [if_neg hab, Int.add_zero]
    exact sumTo_same fun c _ => by rw [h.kept, if_neg hab]; omega
theorem Took.home (h : Took s o l n t x) (f : Formed p s) (ho : o < s.os.n) (hl : l < (s.os.z o).ls.n) (hin : ∀ b, ¬ t.took b = 0 → 0 ≤ b ∧ b < p.nb) : ∀ i, i < x.hs.n → homeless p x (x.hs.z i) = false := by
  intro i hi
  have fx := fineH_true (right_fine h.right i hi)
  have e := (kept_at h.right hi (matchH_self (x.hs.z i))).1
  rw [h.kept] at e
  have lens : ∀ a, a < s.os.n → (x.os.z a).ls.n = (s.os.z a).ls.n := fun a ha => (h.os.2 a (by rw [h.os.1]; exact ha)).2.1
  by_cases h0 : keptV s.hs.n s.hs.z (x.hs.z i).o (x.hs.z i).l (x.hs.z i).b = 0
  · by_cases hol : (x.hs.z i).o = o ∧ (x.hs.z i).l = l
    · rw [if_pos hol, h0] at e
      have hb := hin (x.hs.z i).b (by omega)
      have eo : (x.hs.z i).o.toNat = o := by omega
      have el : (x.hs.z i).l.toNat = l := by omega
      refine homeless_mk ⟨by omega, by rw [h.os.1]; omega⟩ ⟨by omega, ?_⟩ hb
      rw [eo, el, lens o ho]
      exact hl
    · rw [if_neg hol, h0] at e
      omega
  · obtain ⟨q1, q2, -⟩ := kept_pos f.hold h0
    obtain ⟨a1, a2, a3⟩ := homeless_no (f.home _ q1)
    obtain ⟨m1, m2, m3⟩ := matchH_true q2
    rw [m1, m2] at a2
    rw [m1] at a1
    rw [m3] at a3
    exact homeless_mk ⟨a1.1, by rw [h.os.1]; exact a1.2⟩ ⟨a2.1, by rw [lens _ a1.2]; exact a2.2⟩ a3
theorem Took.num (h : Took s o l n t x) (f : Formed p s) {b g : Nat} (hb : b < p.nb) (hg : g < p.ns) : (x.on.r b).z g = (s.on.r b).z g := by
  have hb' : b < s.on.n := by rw [f.sh.n]; exact hb
  have r := h.on.2 b (by rw [h.on.1]; exact hb')
  exact r.2 g (by rw [r.1, f.sh.len b hb']; exact hg)
theorem Took.formed (h : Took s o l n t x) (f : Formed p s) (ho : o < s.os.n) (hl : l < (s.os.z o).ls.n) (hin : ∀ b, ¬ t.took b = 0 → 0 ≤ b ∧ b < p.nb) (h0 : 0 ≤ n - t.left) (h1 : n - t.left ≤ ((s.os.z o).ls.z l).n) : Formed p x := by
  have hp := (rightS f.sh0).1
  have hs : RightS p x.on := ⟨f.sh.pl, h.on.1.trans f.sh.n, fun i hi => (h.on.2 i hi).1.trans (f.sh.len i (by rw [← h.on.1]; exact hi)), fun i hi j hj => by
    have hi' : i < s.on.n := by rw [← h.on.1]; exact hi
    rw [h.num f (by rw [← f.sh.n]; exact hi') hj]
    exact f.sh.num i hi' j hj⟩
  have oo : ∀ i, i < x.os.n → i < s.os.n := fun i hi => by rw [← h.os.1]; exact hi
  refine ⟨hs, shelfE_mk hp hs, by rw [h.os.1]; exact f.os4, by rw [h.ms.1]; exact f.ms8, fun i hi => by rw [(h.os.2 i hi).2.1]; exact f.lns i (oo i hi), fun i hi => by rw [(h.os.2 i hi).1]; exact f.kind i (oo i hi), fun i hi j hj => ?_, h.right, h.home f ho hl hin, fun i hi => ?_, h.si.1.trans f.sin, h.so.1.trans f.son, h.sf.1.trans f.sfn, fun j hj => ?_, fun j hj => ?_, fun j hj => ?_⟩
  · have hj' : j < (s.os.z i).ls.n := by rw [← (h.os.2 i hi).2.1]; exact hj
    rw [(h.os.2 i hi).2.2 j hj]
    by_cases hij : i = o ∧ j = l
    · rw [if_pos hij]
      obtain ⟨rfl, rfl⟩ := hij
      obtain ⟨b1, b2, b3, b4⟩ := badLine_no (f.line i (oo i hi) j hj')
      unfold badLine lessL
      rw [inB_mk (by show _ ∧ _; dsimp only; omega), inB_mk (by show _ ∧ _; dsimp only; omega), inB_mk (by show _ ∧ _; dsimp only; omega), inB_mk (by show _ ∧ _; dsimp only; omega)]
      rfl
    · rw [if_neg hij]
      exact f.line i (oo i hi) j hj'
  · rw [h.ms.2 i hi]
    exact f.move i (by rw [← h.ms.1]; exact hi)
  · rw [h.si.2 j (by rw [h.si.1, f.sin]; exact hj)]; exact f.sib j hj
  · rw [h.so.2 j (by rw [h.so.1, f.son]; exact hj)]; exact f.sob j hj
  · rw [h.sf.2 j (by rw [h.sf.1, f.sfn]; exact hj)]; exact f.sfb j hj
theorem Took.held (h : Took s o l n t x) (f : Formed p s) (fx : Formed p x) (ho : o < s.os.n) (hl : l < (s.os.z o).ls.n) (b g : Int) : heldTo x b g x.hs.n = heldTo s b g s.hs.n + if ((s.os.z o).ls.z l).o = g then t.took b else 0 := by
  rw [heldTo_sum b g _ fx.home fx.hold, heldTo_sum b g _ f.home f.hold]
  have lens : ∀ a, a < s.os.n → (x.os.z a).ls.n = (s.os.z a).ls.n := fun a ha => (h.os.2 a (by rw [h.os.1]; exact ha)).2.1
  have key : ∀ i, i < s.os.n → ∀ j, j < (s.os.z i).ls.n → lineHeld x b g x.hs.n i j = lineHeld s b g s.hs.n i j + if i = o ∧ j = l then (if ((s.os.z o).ls.z l).o = g then t.took b else 0) else 0 := fun i hi j hj => by
    unfold lineHeld
    rw [h.good hi hj, h.kept]
    by_cases hij : i = o ∧ j = l
    · have e1 : (if ((i : Nat) : Int) = o ∧ ((j : Nat) : Int) = l then t.took b else 0) = t.took b := if_pos (by omega)
      rw [e1, if_pos hij]
      obtain ⟨rfl, rfl⟩ := hij
      by_cases hg : ((s.os.z i).ls.z j).o = g <;> simp [hg]
    · have e1 : (if ((i : Nat) : Int) = o ∧ ((j : Nat) : Int) = l then t.took b else 0) = 0 := if_neg (by omega)
      rw [e1, if_neg hij]
      by_cases hg : ((s.os.z i).ls.z j).o = g <;> simp [hg]
  unfold heldSum
  rw [h.os.1]
  refine sumTo_at ho fun i hi => ?_
  rw [lens i hi]
  by_cases hio : i = o
  · subst hio
    rw [if_pos rfl]
    exact sumTo_at hl fun j hj => by
      rw [key i hi j hj]
      by_cases hjl : j = l
      · rw [if_pos ⟨rfl, hjl⟩, if_pos hjl]
      · rw [if_neg (fun e => hjl e.2), if_neg hjl]
  · rw [if_neg hio, Int.add_zero]
    exact sumTo_same fun j hj => by rw [key i hi j hj, if_neg (fun e => hio e.1), Int.add_zero]
theorem Took.avail (h : Took s o l n t x) (f : Formed p s) (fx : Formed p x) (ho : o < s.os.n) (hl : l < (s.os.z o).ls.n) {b g : Nat} (hb : b < p.nb) (hg : g < p.ns) : availZ x b g = availZ s b g - if ((s.os.z o).ls.z l).o = g then t.took b else 0 := by
  unfold availZ
  rw [h.num f hb hg, h.held f fx ho hl, h.ms.1, fromTo_eq fun j hj => h.ms.2 j (by rw [h.ms.1]; exact hj)]
  omega
theorem Took.isRight (h : Took s o l n t x) (r : RightT p s) (ho : o < s.os.n) (hl : l < (s.os.z o).ls.n) (hk : (s.os.z o).k = 1) (hin : ∀ b, ¬ t.took b = 0 → 0 ≤ b ∧ b < p.nb) (h0 : 0 ≤ n - t.left) (h1 : n - t.left ≤ ((s.os.z o).ls.z l).n)
    (hav : ∀ b : Nat, b < p.nb → t.took b ≤ availZ s b ((s.os.z o).ls.z l).o.toNat) (ht0 : ∀ b, 0 ≤ t.took b) (hsum : sumTo (fun b => t.took b) 6 = n - t.left) : RightT p x := by
  have f := r.fm
  have fx := h.formed f ho hl hin h0 h1
  refine ⟨fx, fun g hg => ?_, fun i hi => ?_⟩
  · obtain ⟨a1, a2⟩ := goods_no (r.goods g hg)
    refine goods_mk ?_ fun b hb => ?_
    · have e : sumTo (fun i => (x.on.r i).z g) x.on.n = sumTo (fun i => (s.on.r i).z g) s.on.n := by
        rw [h.on.1]
        exact sumTo_congr fun i hi => h.num f (by rw [← f.sh.n]; exact hi) hg
      rw [e, a1, h.si.2 g (by rw [h.si.1, f.sin]; exact hg), h.so.2 g (by rw [h.so.1, f.son]; exact hg), h.sf.2 g (by rw [h.sf.1, f.sfn]; exact hg)]
    · rw [h.avail f fx ho hl hb hg]
      have a3 := a2 b hb
      by_cases hgg : ((s.os.z o).ls.z l).o = g
      · rw [if_pos hgg]
        have := hav b hb
        rw [hgg] at this
        have e : ((g : Nat) : Int).toNat = g := rfl
        rw [e] at this
        omega
      · rw [if_neg hgg]; omega
  · have hi' : i < s.os.n := by rw [← h.os.1]; exact hi
    have w := r.orders i hi'
    obtain ⟨e1, e2, e3⟩ := h.os.2 i hi
    have e4 := fun j hj => h.line (i := i) (j := j) hi' hj
    unfold wrongOrder at w ⊢
    rw [Bool.or_eq_false_iff] at w ⊢
    rw [e1, e2]
    refine ⟨?_, anyB_no fun j hj => ?_⟩
    · rw [← w.1]
      congr 2
      refine anyB_congr fun j hj => ?_
      rw [e4 j hj]
      split <;> rfl
    · have wj := anyB_false w.2 j hj
      rw [h.keptS f hsum, e4 j hj]
      by_cases hij : i = o ∧ j = l
      · obtain ⟨rfl, rfl⟩ := hij
        rw [if_pos ⟨rfl, rfl⟩, if_pos ⟨rfl, rfl⟩]
        rw [hk] at wj ⊢
        unfold wrongL at wj ⊢
        simp only [lessL] at wj ⊢
        rw [if_neg (by decide), if_neg (by decide)] at wj ⊢
        simp only [Bool.not_eq_false', beq_iff_eq] at wj ⊢
        omega
      · rw [if_neg hij, if_neg (fun e => hij ⟨by omega, by omega⟩), Int.add_zero]
        exact wj
end
end Go.Proofs.Ytbcacebifpagpaf
namespace Go.Proofs.Ytbcacebifpagpaf
open Go.RowKit
set_option linter.unusedVariables false
def missL (s : St) (order line : Int) : Bool := !(inB order 0 ((s.os.n : Int) - 1)) || !(inB line 0 (((s.os.z order.toNat).ls.n : Int) - 1))
def allocR (p : Pl) (s : St) (order line n but : Int) : Bool := missL s order line || !(inB n 0 200) || ((but != -1) && !(inB but 0 ((p.nb : Int) - 1)))
def lineAt (s : St) (order line : Int) : Hd := (s.os.z order.toNat).ls.z line.toNat
def allocE (p : Pl) (s : St) (order line n but : Int) : Int :=
  if stateE p s = 0 then (if allocR p s order line n but then 3 else if (s.os.z order.toNat).k = 1 then (if (lineAt s order line).n < n then 3 else 0) else 6) else stateE p s
def tkOf (p : Pl) (s : St) (good : Int) (n but : Int) : Tk := Tk.go (fun b => availZ s b.toNat good.toNat) n (wayT p but)
def allocL (p : Pl) (s : St) (order line n but : Int) : Int := if allocE p s order line n but = 0 then (tkOf p s (lineAt s order line).o n but).left else 0
def AllocOK (p : Pl) (s : St) (order line n but : Int) (x : St) : Prop := (allocE p s order line n but = 0 → Took s order.toNat line.toNat n (tkOf p s (lineAt s order line).o n but) x) ∧ (¬ allocE p s order line n but = 0 → NoneS x)
section
variable {p : Pl} {s : St} {order line n but : Int}
theorem allocE_state (h : ¬ stateE p s = 0) : allocE p s order line n but = stateE p s := by unfold allocE; rw [if_neg h]
theorem allocE_range (h : stateE p s = 0) (h1 : allocR p s order line n but = true) : allocE p s order line n but = 3 := by unfold allocE; rw [if_pos h, if_pos h1]
theorem allocE_done (h : stateE p s = 0) (h1 : allocR p s order line n but = false) (h2 : ¬ (s.os.z order.toNat).k = 1) : allocE p s order line n but = 6 := by unfold allocE; rw [if_pos h, h1, if_neg h2]; rfl
theorem allocE_back (h : stateE p s = 0) (h1 : allocR p s order line n but = false) (h2 : (s.os.z order.toNat).k = 1) (h3 : (lineAt s order line).n < n) : allocE p s order line n but = 3 := by unfold allocE; rw [if_pos h, h1, if_pos h2, if_pos h3]; rfl
theorem allocE_ok (h : stateE p s = 0) (h1 : allocR p s order line n but = false) (h2 : (s.os.z order.toNat).k = 1) (h3 : ¬ (lineAt s order line).n < n) : allocE p s order line n but = 0 := by unfold allocE; rw [if_pos h, h1, if_pos h2, if_neg h3]; rfl
theorem allocR_no (h : allocR p s order line n but = false) : (0 ≤ order ∧ order.toNat < s.os.n) ∧ (0 ≤ line ∧ line.toNat < (s.os.z order.toNat).ls.n) ∧ (0 ≤ n ∧ n ≤ 200) ∧ (but = -1 ∨ 0 ≤ but ∧ but < p.nb) := by
  simp only [allocR, missL, Bool.or_eq_false_iff, Bool.not_eq_false', Bool.and_eq_false_iff, bne_eq_false_iff_eq] at h
  obtain ⟨⟨⟨a, b⟩, c⟩, d⟩ := h
  have a := inB_true a
  have b := inB_true b
  have c := inB_true c
  refine ⟨by omega, by omega, c, ?_⟩
  rcases d with d | d
  · exact Or.inl d
  · have := inB_true d; exact Or.inr (by omega)
structure AllocIn (p : Pl) (s : St) (order line n but : Int) : Prop where
  st : stateE p s = 0
  o0 : 0 ≤ order
  on : order.toNat < s.os.n
  l0 : 0 ≤ line
  ln : line.toNat < (s.os.z order.toNat).ls.n
  n0 : 0 ≤ n
  n2 : n ≤ 200
  bt : but = -1 ∨ 0 ≤ but ∧ but < p.nb
  kd : (s.os.z order.toNat).k = 1
  bk : n ≤ (lineAt s order line).n
theorem allocIn (h : allocE p s order line n but = 0) : AllocIn p s order line n but := by
  by_cases h0 : stateE p s = 0
  · cases h1 : allocR p s order line n but
    · obtain ⟨a, b, c, d⟩ := allocR_no h1
      by_cases h2 : (s.os.z order.toNat).k = 1
      · by_cases h3 : (lineAt s order line).n < n
        · rw [allocE_back h0 h1 h2 h3] at h; exact absurd h (by decide)
        · exact ⟨h0, a.1, a.2, b.1, b.2, c.1, c.2, d, h2, by omega⟩
      · rw [allocE_done h0 h1 h2] at h; exact absurd h (by decide)
    · rw [allocE_range h0 h1] at h; exact absurd h (by decide)
  · rw [allocE_state h0] at h; exact absurd h h0
theorem AllocIn.good (h : AllocIn p s order line n but) : 0 ≤ (lineAt s order line).o ∧ (lineAt s order line).o < p.ns := (badLine_no ((rightT h.st).fm.line _ h.on _ h.ln)).1
theorem AllocIn.way (h : AllocIn p s order line n but) : ∀ x, x ∈ wayT p but → 0 ≤ x ∧ x < p.nb := fun x hx => way_mem (wayT_mem.1 hx).1
theorem AllocIn.tk (h : AllocIn p s order line n but) {l : List Int} (hl : l.Pairwise (fun x y => ¬ x = y)) (hm : ∀ x, x ∈ l → 0 ≤ x ∧ x < p.nb) : TkOK (fun b => availZ s b.toNat (lineAt s order line).o.toNat) n l (Tk.go (fun b => availZ s b.toNat (lineAt s order line).o.toNat) n l) := by
  have r := rightT h.st
  have hg := h.good
  refine tkOK h.n0 hl (fun x hx => ?_) (fun x hx => ?_)
  · have := hm x hx
    exact (goods_no (r.goods _ (by omega))).2 _ (by omega)
  · have := hm x hx
    have := r.fm.sh.pl.nb6
    omega
theorem Took.rightAt {x : St} {l : List Int} {t : Tk} (h : AllocIn p s order line n but) (hm : ∀ x, x ∈ l → 0 ≤ x ∧ x < p.nb) (k : TkOK (fun b => availZ s b.toNat (lineAt s order line).o.toNat) n l t) (T : Took s order.toNat line.toNat n t x) : RightT p x := by
  have r := rightT h.st
  have hb := h.bk
  have hl0 := k.left0
  have hl1 := k.leftn
  refine T.isRight r h.on h.ln h.kd (fun b hb => ?_) (by omega) (by unfold lineAt at hb; omega) (fun b hb => ?_) k.took0 k.sum
  · apply Classical.byContradiction
    intro hc
    refine hb (k.other b fun hbl => hc ?_)
    exact hm b hbl
  · by_cases hbl : ((b : Nat) : Int) ∈ l
    · exact k.had b hbl
    · rw [k.other b hbl]
      have hg := h.good
      exact (goods_no (r.goods _ (by unfold lineAt at hg; omega))).2 b hb
end
end Go.Proofs.Ytbcacebifpagpaf
namespace Go.Proofs.Ytbcacebifpagpaf
open Go.RowKit
set_option linter.unusedVariables false
def setHd (x : Hd) (c : Nat) (v : Int) : Hd := if c = 0 then ⟨v, x.l, x.b, x.n⟩ else if c = 1 then ⟨x.o, v, x.b, x.n⟩ else if c = 2 then ⟨x.o, x.l, v, x.n⟩ else ⟨x.o, x.l, x.b, v⟩
def setLn (h : Hs) (j c : Nat) (v : Int) : Hs := ⟨h.a, h.n, h.c, fun i => if i = j then setHd (h.z i) c v else h.z i⟩
def setOd (os : Os) (o l c : Nat) (v : Int) : Os := ⟨os.a, os.n, os.c, fun i => if i = o then ⟨(os.z i).k, setLn (os.z i).ls l c v⟩ else os.z i⟩
def setLine (s : St) (o l c : Nat) (v : Int) : St := ⟨s.on, setOd s.os o l c v, s.hs, s.ms, s.si, s.so, s.sf⟩
def withHolds (s : St) (h : Hs) : St := ⟨s.on, s.os, h, s.ms, s.si, s.so, s.sf⟩
theorem flatH_at {n : Nat} {z : Nat → Hd} {i c : Nat} (hi : i < n) (hc : c < 4) : (flatH n z).getD (i * 4 + c) default = (hdCells (z i)).getD c default := by
  simp only [List.getD, flatH_get n z i c hi hc]
theorem setLn_flat {h : Hs} {j c : Nat} {v : Int} (hc : c < 4) (q : Nat) (hq : q < h.n * 4) :
    (if q = j * 4 + c then Value.int .i64 v else (flatH h.n h.z).getD q default) = (flatH h.n (setLn h j c v).z).getD q default := by
  have hd : q = q / 4 * 4 + q % 4 := by omega
  have hi : q / 4 < h.n := by omega
  have hm : q % 4 < 4 := by omega
  have e1 := flatH_at (z := h.z) hi hm
  have e2 := flatH_at (z := (setLn h j c v).z) hi hm
  rw [← hd] at e1 e2
  rw [e1, e2]
  show _ = (hdCells (if q / 4 = j then setHd (h.z (q / 4)) c v else h.z (q / 4))).getD (q % 4) default
  by_cases hj : q / 4 = j
  · rw [if_pos hj]
    by_cases hqc : q = j * 4 + c
    · rw [if_pos hqc]
      have : q % 4 = c := by omega
      rw [this]
      have hc4 : c = 0 ∨ c = 1 ∨ c = 2 ∨ c = 3 := by omega
      rcases hc4 with rfl | rfl | rfl | rfl <;> rfl
    · rw [if_neg hqc]
      have hc4 : c = 0 ∨ c = 1 ∨ c = 2 ∨ c = 3 := by omega
      have hm4 : q % 4 = 0 ∨ q % 4 = 1 ∨ q % 4 = 2 ∨ q % 4 = 3 := by omega
      rcases hc4 with rfl | rfl | rfl | rfl <;> rcases hm4 with hm | hm | hm | hm <;> first | (exfalso; omega) | (rw [hm]; rfl)
  · rw [if_neg hj, if_neg (by omega)]
theorem OwnO.setLine {A : Nat} {w : World} {s : Os} {o B : Nat} (h : OwnO A w s) (ho : o < s.n) (ha : (s.z o).ls.a = some ⟨B, 0, none⟩) (l c : Nat) (hc : c < 4) (v : Int) : OwnO A (w.setCell ⟨B, l * 4 + c, none⟩ (.int .i64 v)) (setOd s o l c v) := by
  obtain ⟨B', ha', hA, h1, h2, hb⟩ := h.lines o ho
  rw [ha] at ha'
  simp only [Option.some.injEq, Addr.mk.injEq, and_true] at ha'
  subst ha'
  have hz : ∀ i, (setOd s o l c v).z i = if i = o then ⟨(s.z i).k, setLn (s.z i).ls l c v⟩ else s.z i := fun _ => rfl
  have hcells : ∀ i, odCells ((setOd s o l c v).z i) = odCells (s.z i) := fun i => by
    rw [hz]
    by_cases hio : i = o
    · rw [if_pos hio]; rfl
    · rw [if_neg hio]
  have hla : ∀ i, ((setOd s o l c v).z i).ls.a = (s.z i).ls.a := fun i => by
    rw [hz]
    by_cases hio : i = o
    · rw [if_pos hio]; rfl
    · rw [if_neg hio]
  refine ⟨h.le, h.cap, fun hn => ?_, fun i hi => ?_, fun i j hij hj => by rw [hla, hla]; exact h.apart i j hij hj, h.room.set _ _ _⟩
  · obtain ⟨g, a1, a2, a3⟩ := h.list hn
    refine ⟨g, a1, a2, (a3.other (a := ⟨B, l * 4 + c, none⟩) (Blk.ne2 a3 hb (by decide)) _).congr fun j hj => ?_⟩
    show _ = (flatO s.n (setOd s o l c v).z).getD j default
    rw [flatO_congr fun i _ => hcells i]
  · rw [hz]
    by_cases hio : i = o
    · subst hio
      rw [if_pos rfl]
      exact ⟨B, ha, hA, h1, h2, (hb.set (l * 4 + c) (.int .i64 v)).congr fun q hq => setLn_flat hc q hq⟩
    · rw [if_neg hio]
      obtain ⟨C, a1, a2, a3, a4, a5⟩ := h.lines i hi
      refine ⟨C, a1, a2, a3, a4, a5.other (a := ⟨B, l * 4 + c, none⟩) (fun e => ?_) _⟩
      have e' : C = B := e
      subst e'
      rcases Nat.lt_or_gt_of_ne hio with hlt | hgt
      · exact h.apart i o hlt ho (a1.trans ha.symm)
      · exact h.apart o i hgt hi (ha.trans a1.symm)
theorem OwnS.setLine {A : Nat} {w : World} {s : St} {o B : Nat} (h : OwnS A w s) (ho : o < s.os.n) (ha : (s.os.z o).ls.a = some ⟨B, 0, none⟩) (l c : Nat) (hc : c < 4) (v : Int) : OwnS A (w.setCell ⟨B, l * 4 + c, none⟩ (.int .i64 v)) (Go.Proofs.Ytbcacebifpagpaf.setLine s o l c v) := by
  obtain ⟨B', ha', -, -, -, hb⟩ := h.os.lines o ho
  rw [ha] at ha'
  simp only [Option.some.injEq, Addr.mk.injEq, and_true] at ha'
  subst ha'
  refine ⟨?_, fun i hi => (h.rows i hi).other hb (by decide) _ _, h.rapart, h.os.setLine ho ha l c hc v, h.hs.other hb (by decide) _ _, h.ms.other hb (by decide) _ _, h.msr.set _ _ _, h.si.other hb (by decide) _ _, h.so.other hb (by decide) _ _, h.sf.other hb (by decide) _ _, h.aio, h.aif, h.aof, h.ari⟩
  obtain ⟨g, a0, a1, a2, a3, a4⟩ := h.on
  exact ⟨g, a0, a1, a2, a3, a4.other (a := ⟨B, l * 4 + c, none⟩) (Blk.ne2 a4 hb (by decide)) _⟩
theorem OwnS.withHolds {A : Nat} {w : World} {s : St} {h : Hs} (k : OwnS A w s) (hh : OwnH A 54 w h) : OwnS A w (Go.Proofs.Ytbcacebifpagpaf.withHolds s h) :=
  ⟨k.on, k.rows, k.rapart, k.os, hh, k.ms, k.msr, k.si, k.so, k.sf, k.aio, k.aif, k.aof, k.ari⟩
theorem OwnS.lineCell {A : Nat} {w : World} {s : St} {o l : Nat} (h : OwnS A w s) (ho : o < s.os.n) (hl : l < (s.os.z o).ls.n) : ∃ g B, s.os.a = some ⟨g, 0, none⟩ ∧ A ≤ g ∧ g < w.heap.size ∧ w.cell? ⟨g, o * 2 + 1, none⟩ = some (.slice (some ⟨B, 0, none⟩) (s.os.z o).ls.n (s.os.z o).ls.c) ∧ (s.os.z o).ls.a = some ⟨B, 0, none⟩ ∧ A ≤ B ∧ B < w.heap.size ∧ (s.os.z o).ls.n ≤ (s.os.z o).ls.c ∧ (s.os.z o).ls.c ≤ maxLen ∧ (∀ j, w.frozen? ⟨B, j, none⟩ = false) ∧
    w.cell? ⟨B, l * 4, none⟩ = some (.int .i64 ((s.os.z o).ls.z l).o) ∧ w.cell? ⟨B, l * 4 + 1, none⟩ = some (.int .i64 ((s.os.z o).ls.z l).l) ∧ w.cell? ⟨B, l * 4 + 2, none⟩ = some (.int .i64 ((s.os.z o).ls.z l).b) ∧ w.cell? ⟨B, l * 4 + 3, none⟩ = some (.int .i64 ((s.os.z o).ls.z l).n) := by
  obtain ⟨g, g1, g2, g3⟩ := h.os.list (by omega)
  obtain ⟨B, b1, b2, b3, b4, b5⟩ := h.os.lines o ho
  have c0 := g3.cell (j := o * 2 + 1) (by omega)
  rw [flatO_at (z := s.os.z) ho (show 1 < 2 by decide)] at c0
  have c1 : w.cell? ⟨g, o * 2 + 1, none⟩ = some (.slice (s.os.z o).ls.a (s.os.z o).ls.n (s.os.z o).ls.c) := c0
  rw [b1] at c1
  have d : ∀ c, c < 4 → w.cell? ⟨B, l * 4 + c, none⟩ = some ((hdCells ((s.os.z o).ls.z l)).getD c default) := fun c hc => by
    rw [← flatH_at (z := (s.os.z o).ls.z) hl hc]
    exact b5.cell (by omega)
  exact ⟨g, B, g1, g2, g3.lt, c1, b1, b2, b5.lt, b3, b4, fun j => b5.frozen j, d 0 (by decide), d 1 (by decide), d 2 (by decide), d 3 (by decide)⟩
theorem setLine_at {s : St} {o l c : Nat} {v : Int} (i j : Nat) : ((Go.Proofs.Ytbcacebifpagpaf.setLine s o l c v).os.z i).ls.z j = if i = o ∧ j = l then setHd ((s.os.z i).ls.z j) c v else (s.os.z i).ls.z j := by
  show (if i = o then (⟨(s.os.z i).k, setLn (s.os.z i).ls l c v⟩ : Od) else s.os.z i).ls.z j = _
  by_cases hi : i = o
  · rw [if_pos hi]
    show (if j = l then setHd ((s.os.z i).ls.z j) c v else (s.os.z i).ls.z j) = _
    by_cases hj : j = l
    · rw [if_pos hj, if_pos ⟨hi, hj⟩]
    · rw [if_neg hj, if_neg (fun e => hj e.2)]
  · rw [if_neg hi, if_neg (fun e => hi e.1)]
theorem setLine_k {s : St} {o l c : Nat} {v : Int} (i : Nat) : ((Go.Proofs.Ytbcacebifpagpaf.setLine s o l c v).os.z i).k = (s.os.z i).k := by
  show (if i = o then (⟨(s.os.z i).k, setLn (s.os.z i).ls l c v⟩ : Od) else s.os.z i).k = _
  by_cases hi : i = o
  · rw [if_pos hi]
  · rw [if_neg hi]
theorem setLine_n {s : St} {o l c : Nat} {v : Int} (i : Nat) : ((Go.Proofs.Ytbcacebifpagpaf.setLine s o l c v).os.z i).ls.n = (s.os.z i).ls.n ∧ ((Go.Proofs.Ytbcacebifpagpaf.setLine s o l c v).os.z i).ls.a = (s.os.z i).ls.a ∧ ((Go.Proofs.Ytbcacebifpagpaf.setLine s o l c v).os.z i).ls.c = (s.os.z i).ls.c := by
  show (if i = o then (⟨(s.os.z i).k, setLn (s.os.z i).ls l c v⟩ : Od) else s.os.z i).ls.n = _ ∧ (if i = o then (⟨(s.os.z i).k, setLn (s.os.z i).ls l c v⟩ : Od) else s.os.z i).ls.a = _ ∧ (if i = o then (⟨(s.os.z i).k, setLn (s.os.z i).ls l c v⟩ : Od) else s.os.z i).ls.c = _
  by_cases hi : i = o
  · rw [if_pos hi]; exact ⟨rfl, rfl, rfl⟩
  · rw [if_neg hi]; exact ⟨rfl, rfl, rfl⟩
end Go.Proofs.Ytbcacebifpagpaf
namespace Go.Proofs.Ytbcacebifpagpaf
open Go.RowKit
set_option linter.unusedVariables false
theorem sumTo_ge {z : Nat → Int} {m : Nat} : ∀ {k : Nat}, m < k → (∀ i, i < k → 0 ≤ z i) → z m ≤ sumTo z k
  | k + 1, hm, h => by
    simp only [sumTo]
    have h0 : 0 ≤ sumTo z k := by
      have : ∀ q, q ≤ k → 0 ≤ sumTo z q := fun q => by
        induction q with
        | zero => intro _; exact Int.le_refl _
        | succ q ih => intro hq; simp only [sumTo]; have := ih (by omega); have := h q (by omega); omega
      exact this k (Nat.le_refl _)
    by_cases hmk : m = k
    · subst hmk; omega
    · have := sumTo_ge (z := z) (m := m) (k := k) (by omega) (fun i hi => h i (by omega))
      have := h k (by omega)
      omega
theorem kept_le {n : Nat} {z : Nat → Hd} (hr : anyB n (badH z) = false) (o l : Int) {b : Nat} (hb : b < 6) : keptV n z o l b ≤ keptS z o l n := by
  rw [← kept_eq z o l n hr]
  exact sumTo_ge (z := fun b => keptV n z o l b) hb fun i _ => (keptV_bd (fun j hj => (fineH_true (right_fine hr j hj)).2.2.2) o l i).1
theorem line_sum {p : Pl} {x : St} (r : RightT p x) {i j : Nat} (hi : i < x.os.n) (hj : j < (x.os.z i).ls.n) (hk : (x.os.z i).k = 1) : ((x.os.z i).ls.z j).b + ((x.os.z i).ls.z j).n + keptS x.hs.z i j x.hs.n = ((x.os.z i).ls.z j).l ∧ ((x.os.z i).ls.z j).l ≤ 200 ∧ 0 ≤ ((x.os.z i).ls.z j).b := by
  have w := r.orders i hi
  unfold wrongOrder at w
  rw [Bool.or_eq_false_iff] at w
  have wj := anyB_false w.2 j hj
  rw [hk] at wj
  unfold wrongL at wj
  rw [if_neg (by decide), if_neg (by decide)] at wj
  simp only [Bool.not_eq_false', beq_iff_eq] at wj
  have b := badLine_no (r.fm.line i hi j hj)
  exact ⟨wj, by omega, by omega⟩
theorem Took.congr {s x : St} {o l : Nat} {n : Int} {t t' : Tk} (h : Took s o l n t x) (h1 : t'.left = t.left) (h2 : ∀ c, t'.took c = t.took c) : Took s o l n t' x :=
  ⟨h.on, ⟨h.os.1, fun i hi => ⟨(h.os.2 i hi).1, (h.os.2 i hi).2.1, fun j hj => by rw [h1]; exact (h.os.2 i hi).2.2 j hj⟩⟩, h.right, fun a b c => by rw [h2]; exact h.kept a b c, h.ms, h.si, h.so, h.sf⟩
theorem Took.stepZero {s x : St} {o l : Nat} {n : Int} {t : Tk} {av : Int → Int} {b : Int} (h : Took s o l n t x) (h0 : min t.left (av b) = 0) : Took s o l n (t.step av b) x :=
  h.congr (by show t.left - min t.left (av b) = t.left; omega) fun c => by
    show (t.took c + if c = b then min t.left (av b) else 0) = t.took c
    rw [h0]
    split <;> omega
def tookH (o l : Nat) (b m : Int) : Hd := ⟨o, l, b, m⟩
theorem Took.start {s : St} {o l : Nat} {n : Int} (hr : anyB s.hs.n (badH s.hs.z) = false) {x : St} (hx : SameT x s) : Took s o l n ⟨n, fun _ => 0⟩ x := by
  refine ⟨hx.on, ⟨hx.os.1, fun i hi => ⟨(hx.os.2 i hi).1, (hx.os.2 i hi).2.1, fun j hj => ?_⟩⟩, ?_, fun a b c => ?_, hx.ms, hx.si, hx.so, hx.sf⟩
  · rw [(hx.os.2 i hi).2.2 j hj]
    by_cases hij : i = o ∧ j = l
    · rw [if_pos hij]
      show _ = (⟨_, _, _, _ - (n - n)⟩ : Hd)
      rw [Int.sub_self, Int.sub_zero]
    · rw [if_neg hij]
  · rw [hx.hs.1, badH_congr fun j hj => hx.hs.2 j (by rw [hx.hs.1]; exact hj)]
    exact hr
  · rw [hx.hs.1, keptV_congr fun j hj => hx.hs.2 j (by rw [hx.hs.1]; exact hj)]
    show _ = _ + if _ then (0 : Int) else 0
    split <;> omega
section
variable {p : Pl} {s x : St} {order line n but : Int} {l : List Int} {t : Tk} {b : Int}
theorem Took.addE (h : AllocIn p s order line n but) (hm : ∀ x, x ∈ l → 0 ≤ x ∧ x < p.nb) (k : TkOK (fun b => availZ s b.toNat (lineAt s order line).o.toNat) n l t) (T : Took s order.toNat line.toNat n t x) (hb : 0 ≤ b ∧ b < p.nb) {m : Int} (hm0 : 0 < m) (hm1 : m ≤ t.left) :
    Go.Proofs.Ytbcacebifpagpaf.addE x.hs.n x.hs.z (tookH order.toNat line.toNat b m) = 0 := by
  have r := T.rightAt h hm k
  have nb6 := r.fm.sh.pl.nb6
  have ho : order.toNat < x.os.n := by rw [T.os.1]; exact h.on
  have e := T.os.2 order.toNat ho
  have hl : line.toNat < (x.os.z order.toNat).ls.n := by rw [e.2.1]; exact h.ln
  obtain ⟨a1, a2, a3⟩ := line_sum r ho hl (by rw [e.1]; exact h.kd)
  have e3 := e.2.2 line.toNat hl
  rw [if_pos ⟨rfl, rfl⟩] at e3
  have e4 : ((x.os.z order.toNat).ls.z line.toNat).n = (lineAt s order line).n - (n - t.left) := by rw [e3]; rfl
  have hbk := h.bk
  have hln := k.leftn
  obtain ⟨b', rfl⟩ := Int.eq_ofNat_of_zero_le hb.1
  have hkl := kept_le T.right order.toNat line.toNat (b := b') (by omega)
  have os4 := r.fm.os4
  have ls3 := (r.fm.lns _ ho).2
  have hf : fineH (tookH order.toNat line.toNat b' m) = true := by
    unfold fineH tookH
    have hk0 := (keptS_bd (z := x.hs.z) (order.toNat : Nat) (line.toNat : Nat) x.hs.n fun j hj => (fineH_true (right_fine T.right j hj)).2.2.2).1
    rw [inB_mk (by dsimp only; omega), inB_mk (by dsimp only; omega), inB_mk (by dsimp only; omega), inB_mk (by dsimp only; omega)]
    rfl
  rw [addE_of T.right hf, if_neg]
  show ¬ 200 < keptV x.hs.n x.hs.z (order.toNat : Nat) (line.toNat : Nat) b' + m
  omega
theorem Took.stepAdd {y : Hs} {av : Int → Int} (T : Took s order.toNat line.toNat n t x) (ho : order.toNat < s.os.n) (hl : line.toNat < (s.os.z order.toNat).ls.n) {m : Int} (hm : min t.left (av b) = m) (he : Go.Proofs.Ytbcacebifpagpaf.addE x.hs.n x.hs.z (tookH order.toNat line.toNat b m) = 0) (hy : AddOK x.hs.n x.hs.z (tookH order.toNat line.toNat b m) y) :
    Took s order.toNat line.toNat n (t.step av b) (withHolds (setLine x order.toNat line.toNat 3 (((x.os.z order.toNat).ls.z line.toNat).n - m)) y) := by
  obtain ⟨hr, hk⟩ := hy.right he
  refine ⟨T.on, ⟨T.os.1, fun i hi => ?_⟩, hr, fun a c d => ?_, T.ms, T.si, T.so, T.sf⟩
  · have hi' : i < x.os.n := hi
    have e := T.os.2 i hi'
    have n1 := (setLine_n (s := x) (o := order.toNat) (l := line.toNat) (c := 3) (v := ((x.os.z order.toNat).ls.z line.toNat).n - m) i).1
    refine ⟨(setLine_k i).trans e.1, n1.trans e.2.1, fun j hj => ?_⟩
    have hj' : j < (x.os.z i).ls.n := by rw [← n1]; exact hj
    show ((setLine x order.toNat line.toNat 3 (((x.os.z order.toNat).ls.z line.toNat).n - m)).os.z i).ls.z j = _
    rw [setLine_at, e.2.2 j hj']
    by_cases hij : i = order.toNat ∧ j = line.toNat
    · rw [if_pos hij, if_pos hij, if_pos hij]
      obtain ⟨rfl, rfl⟩ := hij
      have e3 := e.2.2 line.toNat hj'
      rw [if_pos ⟨rfl, rfl⟩] at e3
      rw [e3]
      show (⟨_, _, _, _ - (n - t.left) - m⟩ : Hd) = ⟨_, _, _, _ - (n - (t.left - min t.left (av b)))⟩
      rw [hm]
      congr 1
      omega
    · rw [if_neg hij, if_neg hij, if_neg hij]
  · show keptV y.n y.z a c d = _
    rw [hk, T.kept]
    show _ = _ + if _ then t.took d + (if d = b then min t.left (av b) else 0) else 0
    rw [hm]
    by_cases hac : a = order.toNat ∧ c = line.toNat
    · rw [if_pos hac, if_pos hac]
      by_cases hd : d = b
      · have : matchH (tookH order.toNat line.toNat b m) a c d = true := by
          unfold matchH tookH
          simp [hac, hd]
        rw [this, if_pos hd, if_pos rfl]
        show _ + m = _
        omega
      · have : matchH (tookH order.toNat line.toNat b m) a c d = false := by
          cases hq : matchH (tookH order.toNat line.toNat b m) a c d
          · rfl
          · exact absurd (matchH_true hq).2.2.symm hd
        rw [this, if_neg hd]
        simp
    · have : matchH (tookH order.toNat line.toNat b m) a c d = false := by
        cases hq : matchH (tookH order.toNat line.toNat b m) a c d
        · rfl
        · have := matchH_true hq
          exact absurd ⟨this.1.symm, this.2.1.symm⟩ hac
      rw [this, if_neg hac, if_neg hac]
      simp
end
end Go.Proofs.Ytbcacebifpagpaf
namespace Go.Proofs.Ytbcacebifpagpaf
open Go.RowKit
set_option linter.unusedVariables false
structure TakeIn (p : Pl) (s : St) (o l : Nat) (n : Int) : Prop where
  fm : Formed p s
  av : ∀ b, b < p.nb → 0 ≤ availZ s b ((s.os.z o).ls.z l).o.toNat
  on : o < s.os.n
  ln : l < (s.os.z o).ls.n
  n0 : 0 ≤ n
  bk : n ≤ ((s.os.z o).ls.z l).n
  sum : ((s.os.z o).ls.z l).n + keptS s.hs.z o l s.hs.n ≤ 200
def avT (s : St) (o l : Nat) (b : Int) : Int := availZ s b.toNat ((s.os.z o).ls.z l).o.toNat
section
variable {p : Pl} {s x : St} {o l : Nat} {n : Int} {L : List Int} {t : Tk}
theorem TakeIn.good (h : TakeIn p s o l n) : 0 ≤ ((s.os.z o).ls.z l).o ∧ ((s.os.z o).ls.z l).o < p.ns := (badLine_no (h.fm.line _ h.on _ h.ln)).1
theorem TakeIn.tk (h : TakeIn p s o l n) (hL : L.Pairwise (fun x y => ¬ x = y)) (hm : ∀ x, x ∈ L → 0 ≤ x ∧ x < p.nb) : TkOK (avT s o l) n L (Tk.go (avT s o l) n L) := by
  refine tkOK h.n0 hL (fun x hx => ?_) (fun x hx => ?_)
  · have := hm x hx
    exact h.av _ (by omega)
  · have := hm x hx
    have := h.fm.sh.pl.nb6
    omega
theorem TakeIn.inBins (hm : ∀ x, x ∈ L → 0 ≤ x ∧ x < p.nb) (k : TkOK (avT s o l) n L t) : ∀ b, ¬ t.took b = 0 → 0 ≤ b ∧ b < p.nb := fun b hb => by
  apply Classical.byContradiction
  intro hc
  exact hb (k.other b fun hbl => hc (hm b hbl))
theorem TakeIn.formed (h : TakeIn p s o l n) (hm : ∀ x, x ∈ L → 0 ≤ x ∧ x < p.nb) (k : TkOK (avT s o l) n L t) (T : Took s o l n t x) : Formed p x := by
  have h0 := k.left0
  have h1 := k.leftn
  have h2 := h.bk
  exact T.formed h.fm h.on h.ln (TakeIn.inBins hm k) (by omega) (by omega)
theorem TakeIn.addE (h : TakeIn p s o l n) (hm : ∀ x, x ∈ L → 0 ≤ x ∧ x < p.nb) (k : TkOK (avT s o l) n L t) (T : Took s o l n t x) {b : Int} (hb : 0 ≤ b ∧ b < p.nb) {m : Int} (hm0 : 0 < m) (hm1 : m ≤ t.left) :
    fineH (tookH o l b m) = true ∧ keptV x.hs.n x.hs.z o l b + m ≤ 200 ∧ Go.Proofs.Ytbcacebifpagpaf.addE x.hs.n x.hs.z (tookH o l b m) = 0 := by
  have fx := h.formed hm k T
  have nb6 := fx.sh.pl.nb6
  have os4 := h.fm.os4
  have ls3 := (h.fm.lns _ h.on).2
  have ho := h.on
  have hl := h.ln
  have e := T.keptS h.fm k.sum o l
  rw [if_pos ⟨rfl, rfl⟩] at e
  have hs := h.sum
  have hbk := h.bk
  have hln := k.leftn
  obtain ⟨b', rfl⟩ := Int.eq_ofNat_of_zero_le hb.1
  have hkl := kept_le T.right o l (b := b') (by omega)
  have hk0 := (keptS_bd (z := s.hs.z) o l s.hs.n fun j hj => (fineH_true (right_fine h.fm.hold j hj)).2.2.2).1
  have hf : fineH (tookH o l b' m) = true := by
    unfold fineH tookH
    rw [inB_mk (by dsimp only; omega), inB_mk (by dsimp only; omega), inB_mk (by dsimp only; omega), inB_mk (by dsimp only; omega)]
    rfl
  refine ⟨hf, by omega, ?_⟩
  rw [addE_of T.right hf, if_neg]
  show ¬ 200 < keptV x.hs.n x.hs.z o l b' + m
  omega
end
end Go.Proofs.Ytbcacebifpagpaf
namespace Go.Proofs.Ytbcacebifpagpaf
open Go.RowKit
set_option linter.unusedVariables false
theorem Tk.go_congr {av av' : Int → Int} {n : Int} : ∀ {L : List Int} {t : Tk}, (∀ b, b ∈ L → av b = av' b) → L.foldl (Tk.step av) t = L.foldl (Tk.step av') t
  | [], _, _ => rfl
  | b :: L, t, h => by
    rw [List.foldl_cons, List.foldl_cons, show Tk.step av t b = Tk.step av' t b by unfold Tk.step; rw [h b (by simp)]]
    exact Tk.go_congr (n := n) fun c hc => h c (by simp [hc])
theorem TakeIn.same {p : Pl} {x s : St} {o l : Nat} {n : Int} (h : TakeIn p s o l n) (k : SameT x s) : TakeIn p x o l n := by
  have ho : o < x.os.n := by rw [k.os.1]; exact h.on
  have e := k.os.2 o ho
  have hl : l < (x.os.z o).ls.n := by rw [e.2.1]; exact h.ln
  have e3 := e.2.2 l hl
  have hg := h.good
  refine ⟨k.formed h.fm, fun b hb => ?_, ho, hl, h.n0, by rw [e3]; exact h.bk, ?_⟩
  · rw [e3, k.avail h.fm hb (by omega)]
    exact h.av b hb
  · rw [e3, k.hs.1, keptS_congr _ _ fun j hj => k.hs.2 j (by rw [k.hs.1]; exact hj)]
    exact h.sum
theorem Took.base {x0 s x : St} {o l : Nat} {n : Int} {t : Tk} (k : SameT x0 s) (h : Took x0 o l n t x) : Took s o l n t x := by
  have r := k
  refine ⟨⟨h.on.1.trans k.on.1, fun i hi => ?_⟩, ⟨h.os.1.trans k.os.1, fun i hi => ?_⟩, h.right, fun a b c => ?_, ⟨h.ms.1.trans k.ms.1, fun j hj => (h.ms.2 j hj).trans (k.ms.2 j (by rw [← h.ms.1]; exact hj))⟩, ⟨h.si.1.trans k.si.1, fun j hj => (h.si.2 j hj).trans (k.si.2 j (by rw [← h.si.1]; exact hj))⟩, ⟨h.so.1.trans k.so.1, fun j hj => (h.so.2 j hj).trans (k.so.2 j (by rw [← h.so.1]; exact hj))⟩, ⟨h.sf.1.trans k.sf.1, fun j hj => (h.sf.2 j hj).trans (k.sf.2 j (by rw [← h.sf.1]; exact hj))⟩⟩
  · have a := h.on.2 i hi
    have b := k.on.2 i (by rw [← h.on.1]; exact hi)
    exact ⟨a.1.trans b.1, fun j hj => (a.2 j hj).trans (b.2 j (by rw [← a.1]; exact hj))⟩
  · have a := h.os.2 i hi
    have b := k.os.2 i (by rw [← h.os.1]; exact hi)
    refine ⟨a.1.trans b.1, a.2.1.trans b.2.1, fun j hj => ?_⟩
    rw [a.2.2 j hj, b.2.2 j (by rw [← a.2.1]; exact hj)]
  · rw [h.kept, k.hs.1, keptV_congr fun j hj => k.hs.2 j (by rw [k.hs.1]; exact hj)]
theorem tk_same {p : Pl} {x s : St} {o l : Nat} {n but : Int} (h : TakeIn p s o l n) (k : SameT x s) : Tk.go (avT x o l) n (wayT p but) = Tk.go (avT s o l) n (wayT p but) := by
  unfold Tk.go
  refine Tk.go_congr (n := n) fun b hb => ?_
  have ho : o < x.os.n := by rw [k.os.1]; exact h.on
  have e := k.os.2 o ho
  have hl : l < (x.os.z o).ls.n := by rw [e.2.1]; exact h.ln
  have hg := h.good
  have hw := way_mem (wayT_mem.1 hb).1
  unfold avT
  rw [e.2.2 l hl]
  exact k.avail h.fm (by omega) (by omega)
end Go.Proofs.Ytbcacebifpagpaf
namespace Go.Proofs.Ytbcacebifpagpaf
open Go.RowKit Go.Shelf Go.Sort
set_option linter.unusedVariables false
theorem none_same2 {s t : St} (a : NoneS s) (b : NoneS t) : SameT s t := by
  obtain ⟨a1, a2, a3, a4, a5, a6, a7⟩ := a
  obtain ⟨b1, b2, b3, b4, b5, b6, b7⟩ := b
  exact ⟨⟨by omega, fun i hi => absurd hi (by omega)⟩, ⟨by omega, fun i hi => absurd hi (by omega)⟩, ⟨by omega, fun j hj => absurd hj (by omega)⟩, ⟨by omega, fun j hj => absurd hj (by omega)⟩, ⟨by omega, fun j hj => absurd hj (by omega)⟩, ⟨by omega, fun j hj => absurd hj (by omega)⟩, ⟨by omega, fun j hj => absurd hj (by omega)⟩⟩
theorem ActOK.same {E : Int} {t x y : St} (a : ActOK E t x) (b : ActOK E t y) : SameT x y := by
  by_cases h : E = 0
  · exact (a.1 h).trans (b.1 h).symm
  · exact none_same2 (a.2 h) (b.2 h)
theorem ActOK.bound {E : Int} {p : Pl} {s t x : St} (h : ActOK E t x) (f : E = 0 → t.os.n ≤ 1000 ∧ t.ms.n ≤ 1000 ∧ ∀ i, i < t.os.n → (t.os.z i).ls.n ≤ 1000) : x.os.n ≤ 1000 ∧ x.ms.n ≤ 1000 ∧ ∀ i, i < x.os.n → (x.os.z i).ls.n ≤ 1000 := by
  by_cases hE : E = 0
  · obtain ⟨f1, f2, f3⟩ := f hE
    have a := h.1 hE
    have e1 : x.os.n = t.os.n := a.os.1
    have e2 : x.ms.n = t.ms.n := a.ms.1
    refine ⟨by omega, by omega, fun i hi => ?_⟩
    have e3 : (x.os.z i).ls.n = (t.os.z i).ls.n := (a.os.2 i hi).2.1
    have := f3 i (by omega)
    omega
  · obtain ⟨a1, a2, a3, a4, a5, a6, a7⟩ := h.2 hE
    exact ⟨by omega, by omega, fun i hi => absurd hi (by omega)⟩
end Go.Proofs.Ytbcacebifpagpaf
namespace Go.Proofs.Ytbcacebifpagpaf
open Go.RowKit
set_option linter.unusedVariables false
theorem AllocOK.same {p : Pl} {s x y : St} {order line n but : Int} (a : AllocOK p s order line n but x) (b : AllocOK p s order line n but y) : SameT x y := by
  by_cases h : allocE p s order line n but = 0
  · exact (a.1 h).same (b.1 h)
  · exact none_same2 (a.2 h) (b.2 h)
theorem AllocOK.bound {p : Pl} {s x : St} {order line n but : Int} (a : AllocOK p s order line n but x) : x.os.n ≤ 1000 ∧ x.ms.n ≤ 1000 ∧ ∀ i, i < x.os.n → (x.os.z i).ls.n ≤ 1000 := by
  by_cases h : allocE p s order line n but = 0
  · have f := (rightT (allocIn h).st).fm
    have T := a.1 h
    have o4 := f.os4
    have m8 := f.ms8
    have e1 := T.os.1
    have e2 := T.ms.1
    refine ⟨by omega, by omega, fun i hi => ?_⟩
    rw [(T.os.2 i hi).2.1]
    have := f.lns i (by omega)
    omega
  · obtain ⟨a1, a2, a3, a4, a5, a6, a7⟩ := a.2 h
    exact ⟨by omega, by omega, fun i hi => absurd hi (by omega)⟩
end Go.Proofs.Ytbcacebifpagpaf
namespace Go.Proofs.Ytbcacebifpagpaf
open Go.RowKit
set_option linter.unusedVariables false
theorem frL_has {p : Pl} {f : Bool} {b : Nat} : ∀ {k : Nat}, b < k → (p.zb b).front = f → ((b : Nat) : Int) ∈ frL p f k
  | k + 1, hb, hf => by
    by_cases hbk : b = k
    · subst hbk
      rw [frL_hit hf]
      simp
    · have h := frL_has (k := k) (by omega) hf
      by_cases hk : (p.zb k).front = f
      · rw [frL_hit hk]; simp [h]
      · rw [frL_miss hk]; exact h
theorem way_has {p : Pl} {b : Nat} (hb : b < p.nb) : ((b : Nat) : Int) ∈ wayL p := by
  unfold wayL
  rw [List.mem_append]
  cases hf : (p.zb b).front
  · exact Or.inr (frL_has hb hf)
  · exact Or.inl (frL_has hb hf)
theorem Took.trans {s y z : St} {o l : Nat} {k m : Int} {t1 t2 : Tk} (a : Took s o l k t1 y) (b : Took y o l m t2 z) : Took s o l (k + m) ⟨t1.left + t2.left, fun c => t1.took c + t2.took c⟩ z := by
  refine ⟨⟨b.on.1.trans a.on.1, fun i hi => ?_⟩, ⟨b.os.1.trans a.os.1, fun i hi => ?_⟩, b.right, fun e f g => ?_, ⟨b.ms.1.trans a.ms.1, fun j hj => (b.ms.2 j hj).trans (a.ms.2 j (by rw [← b.ms.1]; exact hj))⟩, ⟨b.si.1.trans a.si.1, fun j hj => (b.si.2 j hj).trans (a.si.2 j (by rw [← b.si.1]; exact hj))⟩, ⟨b.so.1.trans a.so.1, fun j hj => (b.so.2 j hj).trans (a.so.2 j (by rw [← b.so.1]; exact hj))⟩, ⟨b.sf.1.trans a.sf.1, fun j hj => (b.sf.2 j hj).trans (a.sf.2 j (by rw [← b.sf.1]; exact hj))⟩⟩
  · have x := b.on.2 i hi
    have y' := a.on.2 i (by rw [← b.on.1]; exact hi)
    exact ⟨x.1.trans y'.1, fun j hj => (x.2 j hj).trans (y'.2 j (by rw [← x.1]; exact hj))⟩
  · have x := b.os.2 i hi
    have y' := a.os.2 i (by rw [← b.os.1]; exact hi)
    refine ⟨x.1.trans y'.1, x.2.1.trans y'.2.1, fun j hj => ?_⟩
    rw [x.2.2 j hj, y'.2.2 j (by rw [← x.2.1]; exact hj)]
    by_cases hij : i = o ∧ j = l
    · rw [if_pos hij, if_pos hij, if_pos hij]
      unfold lessL
      congr 1
      show _ - (k - t1.left) - (m - t2.left) = _ - (k + m - (t1.left + t2.left))
      omega
    · rw [if_neg hij, if_neg hij, if_neg hij]
  · rw [b.kept, a.kept]
    show _ = _ + if _ then t1.took g + t2.took g else 0
    by_cases hef : e = o ∧ f = l
    · rw [if_pos hef, if_pos hef, if_pos hef]; omega
    · rw [if_neg hef, if_neg hef, if_neg hef]; omega
section
variable {p : Pl} {s x y z : St} {order line n but k : Int}
theorem AllocIn.less (h : AllocIn p s order line n but) (hk : 0 ≤ k ∧ k ≤ n) : allocE p s order line k but = 0 := by
  have h1 : allocR p s order line k but = false := by
    unfold allocR missL
    have h2 := h.n2
    have on := h.on
    have o0 := h.o0
    have ln := h.ln
    have l0 := h.l0
    rw [inB_mk (by omega), inB_mk (by omega), inB_mk (by omega)]
    rcases h.bt with e | e
    · rw [e]; rfl
    · rw [inB_mk (by omega)]; simp
  exact allocE_ok h.st h1 h.kd (by have := h.bk; omega)
theorem AllocIn.rightX (h : AllocIn p s order line n but) (hx : AllocOK p s order line n but x) : RightT p x :=
  (hx.1 (h.less ⟨h.n0, Int.le_refl _⟩)).rightAt h (fun x hx => h.way x hx) (h.tk (wayT_apart p but) (fun x hx => h.way x hx))
theorem AllocIn.none (h : AllocIn p s order line n but) (hx : AllocOK p s order line n but x) (hl : 0 < allocL p s order line n but) {b : Nat} (hb : b < p.nb) (hbut : ¬ ((b : Nat) : Int) = but) : availZ x b (lineAt s order line).o.toNat = 0 := by
  have e := h.less ⟨h.n0, Int.le_refl _⟩
  have T := hx.1 e
  have r := h.rightX hx
  have k := h.tk (wayT_apart p but) (fun x hx => h.way x hx)
  unfold allocL at hl
  rw [if_pos e] at hl
  have hg := h.good
  have hm : ((b : Nat) : Int) ∈ wayT p but := wayT_mem.2 ⟨way_has hb, hbut⟩
  have ha := k.all hl b hm
  rw [T.avail (rightT h.st).fm r.fm h.on h.ln hb (by omega), if_pos (by unfold lineAt; unfold lineAt at hg; omega)]
  show _ - (tkOf p s (lineAt s order line).o n but).took b = 0
  have ha' : (tkOf p s (lineAt s order line).o n but).took b = availZ s b (lineAt s order line).o.toNat := ha
  rw [ha']
  omega
end
end Go.Proofs.Ytbcacebifpagpaf
namespace Go.Proofs.Ytbcacebifpagpaf
open Go.RowKit
set_option linter.unusedVariables false
theorem SameT.self (s : St) : SameT s s := ⟨⟨rfl, fun _ _ => ⟨rfl, fun _ _ => rfl⟩⟩, ⟨rfl, fun _ _ => ⟨rfl, rfl, fun _ _ => rfl⟩⟩, ⟨rfl, fun _ _ => rfl⟩, ⟨rfl, fun _ _ => rfl⟩, ⟨rfl, fun _ _ => rfl⟩, ⟨rfl, fun _ _ => rfl⟩, ⟨rfl, fun _ _ => rfl⟩⟩
theorem right_line {p : Pl} {s : St} (r : RightT p s) {o l : Nat} (ho : o < s.os.n) (hl : l < (s.os.z o).ls.n) : 0 ≤ ((s.os.z o).ls.z l).n ∧ ((s.os.z o).ls.z l).n + keptS s.hs.z o l s.hs.n ≤ 200 ∧ 0 ≤ keptS s.hs.z o l s.hs.n := by
  have w := r.orders o ho
  unfold wrongOrder at w
  rw [Bool.or_eq_false_iff] at w
  have wl : wrongL (s.os.z o).k ((s.os.z o).ls.z l) (keptS s.hs.z o l s.hs.n) = false := anyB_false w.2 l hl
  obtain ⟨b1, b2, b3, b4⟩ := badLine_no (r.fm.line o ho l hl)
  have k0 := (keptS_bd (z := s.hs.z) o l s.hs.n fun j hj => (fineH_true (right_fine r.fm.hold j hj)).2.2.2).1
  unfold wrongL at wl
  by_cases h0 : (s.os.z o).k = 0
  · rw [if_pos h0] at wl
    simp only [Bool.or_eq_false_iff, Bool.not_eq_false', beq_iff_eq] at wl
    omega
  · rw [if_neg h0] at wl
    by_cases h2 : (s.os.z o).k = 2
    · rw [if_pos h2] at wl
      simp only [Bool.or_eq_false_iff, Bool.not_eq_false', beq_iff_eq] at wl
      omega
    · rw [if_neg h2] at wl
      simp only [Bool.not_eq_false', beq_iff_eq] at wl
      omega
theorem RightT.takeIn {p : Pl} {s : St} (r : RightT p s) {o l : Nat} (ho : o < s.os.n) (hl : l < (s.os.z o).ls.n) {n : Int} (h0 : 0 ≤ n) (hb : n ≤ ((s.os.z o).ls.z l).n) : TakeIn p s o l n := by
  have q := right_line r ho hl
  have hg := (badLine_no (r.fm.line o ho l hl)).1
  exact ⟨r.fm, fun b hb => (goods_no (r.goods _ (by omega))).2 b hb, ho, hl, h0, hb, q.2.1⟩
def Step (p : Pl) (but : Int) (y : St) (i j : Nat) (n : Int) (x : St) : Prop := Took y i j n (Tk.go (avT y i j) n (wayT p but)) x
structure StepIn (p : Pl) (but : Int) (y : St) (i j : Nat) (n : Int) : Prop where
  r : RightT p y
  on : i < y.os.n
  ln : j < (y.os.z i).ls.n
  n0 : 0 ≤ n
  kd : n = 0 ∨ (y.os.z i).k = 1 ∧ n ≤ ((y.os.z i).ls.z j).n
  bt : but = -1 ∨ 0 ≤ but ∧ but < p.nb
section
variable {p : Pl} {but : Int} {s y x : St} {i j : Nat} {n : Int}
theorem StepIn.bk (h : StepIn p but y i j n) : n ≤ ((y.os.z i).ls.z j).n := by
  have q := right_line h.r h.on h.ln
  rcases h.kd with e | e
  · omega
  · exact e.2
theorem StepIn.tki (h : StepIn p but y i j n) : TakeIn p y i j n := h.r.takeIn h.on h.ln h.n0 h.bk
theorem StepIn.way (x : Int) (hx : x ∈ wayT p but) : 0 ≤ x ∧ x < p.nb := way_mem (wayT_mem.1 hx).1
theorem StepIn.tk (h : StepIn p but y i j n) : TkOK (avT y i j) n (wayT p but) (Tk.go (avT y i j) n (wayT p but)) := h.tki.tk (wayT_apart p but) StepIn.way
theorem TakeIn.tkw {but : Int} (h : TakeIn p y i j n) : TkOK (avT y i j) n (wayT p but) (Tk.go (avT y i j) n (wayT p but)) := h.tk (wayT_apart p but) StepIn.way
theorem TakeIn.none {but : Int} (h : TakeIn p y i j 0) : (Tk.go (avT y i j) 0 (wayT p but)).left = 0 ∧ ∀ c, (Tk.go (avT y i j) 0 (wayT p but)).took c = 0 := by
  have k := h.tkw (but := but)
  have h0 := k.left0
  have h1 := k.leftn
  refine ⟨by omega, fun c => ?_⟩
  have h2 := k.took0 c
  have h3 := k.tookn c
  omega
theorem Step.zero (h : TakeIn p y i j 0) (T : Step p but y i j 0 x) : SameT x y := Took.same T (Took.congr (Took.start (n := 0) h.fm.hold (SameT.self y)) h.none.1 h.none.2)
theorem Step.skip (h : TakeIn p y i j 0) : Step p but y i j 0 y := Took.congr (Took.start (n := 0) h.fm.hold (SameT.self y)) h.none.1 h.none.2
theorem StepIn.allocIn (h : StepIn p but y i j n) (hk : (y.os.z i).k = 1) : AllocIn p y i j n but := by
  have q := right_line h.r h.on h.ln
  have b := h.bk
  have o := h.on
  have l := h.ln
  exact ⟨stateE_of h.r, by omega, o, by omega, l, h.n0, by omega, h.bt, hk, b⟩
theorem Step.right (h : StepIn p but y i j n) (T : Step p but y i j n x) : RightT p x := by
  rcases h.kd with e | e
  · subst e
    exact (Step.zero h.tki T).right h.r
  · have I := h.allocIn e.1
    exact Took.rightAt (order := i) (line := j) I (fun x hx => I.way x hx) (I.tk (wayT_apart p but) (fun x hx => I.way x hx)) T
theorem Step.same {y' x' : St} (h : TakeIn p y i j n) (e : SameT y' y) (T : Step p but y i j n x) (T' : Step p but y' i j n x') : SameT x' x := by
  unfold Step at T'
  rw [tk_same h e] at T'
  exact (Took.base e T').same T
structure Along (p : Pl) (but : Int) (s x : St) : Prop where
  r : RightT p x
  osn : x.os.n = s.os.n
  kind : ∀ i, i < s.os.n → (x.os.z i).k = (s.os.z i).k ∧ (x.os.z i).ls.n = (s.os.z i).ls.n
  line : ∀ i, i < s.os.n → ∀ j, j < (s.os.z i).ls.n → ((x.os.z i).ls.z j).o = ((s.os.z i).ls.z j).o ∧ ((x.os.z i).ls.z j).l = ((s.os.z i).ls.z j).l ∧ ((x.os.z i).ls.z j).b = ((s.os.z i).ls.z j).b
  sum : ∀ i, i < s.os.n → ∀ j, j < (s.os.z i).ls.n → ((x.os.z i).ls.z j).n + keptS x.hs.z i j x.hs.n = ((s.os.z i).ls.z j).n + keptS s.hs.z i j s.hs.n ∧ ((x.os.z i).ls.z j).n ≤ ((s.os.z i).ls.z j).n
  on : x.on.n = s.on.n ∧ ∀ i, i < x.on.n → (x.on.r i).n = (s.on.r i).n ∧ ∀ j, j < (x.on.r i).n → (x.on.r i).z j = (s.on.r i).z j
  ms : x.ms.n = s.ms.n ∧ ∀ j, j < x.ms.n → x.ms.z j = s.ms.z j
  si : x.si.n = s.si.n ∧ ∀ j, j < x.si.n → x.si.z j = s.si.z j
  so : x.so.n = s.so.n ∧ ∀ j, j < x.so.n → x.so.z j = s.so.z j
  sf : x.sf.n = s.sf.n ∧ ∀ j, j < x.sf.n → x.sf.z j = s.sf.z j
  av : ∀ b g, b < p.nb → g < p.ns → availZ x b g ≤ availZ s b g ∧ (((b : Nat) : Int) = but → availZ x b g = availZ s b g)
theorem SameT.kept (h : SameT x s) (a b : Int) : keptS x.hs.z a b x.hs.n = keptS s.hs.z a b s.hs.n := by
  rw [h.hs.1, keptS_congr _ _ fun j hj => h.hs.2 j (by rw [h.hs.1]; exact hj)]
theorem SameT.line (h : SameT x s) {i j : Nat} (hi : i < s.os.n) (hj : j < (s.os.z i).ls.n) : (x.os.z i).ls.z j = (s.os.z i).ls.z j := by
  have e := h.os.2 i (by rw [h.os.1]; exact hi)
  exact e.2.2 j (by rw [e.2.1]; exact hj)
theorem Along.self (r : RightT p s) (h : SameT x s) : Along p but s x := by
  refine ⟨h.right r, h.os.1, fun i hi => ?_, fun i hi j hj => ?_, fun i hi j hj => ?_, h.on, h.ms, h.si, h.so, h.sf, fun b g hb hg => ?_⟩
  · have e := h.os.2 i (by rw [h.os.1]; exact hi)
    exact ⟨e.1, e.2.1⟩
  · rw [h.line hi hj]
    exact ⟨rfl, rfl, rfl⟩
  · rw [h.line hi hj, h.kept]
    exact ⟨rfl, Int.le_refl _⟩
  · rw [h.avail r.fm hb hg]
    exact ⟨Int.le_refl _, fun _ => rfl⟩
theorem Along.step (A : Along p but s y) (h : StepIn p but y i j n) (T : Step p but y i j n x) : Along p but s x := by
  have k := h.tk
  have rx := Step.right h T
  have T' : Took y i j n (Tk.go (avT y i j) n (wayT p but)) x := T
  generalize Tk.go (avT y i j) n (wayT p but) = t at k T'
  have h0 := k.left0
  have h1 := k.leftn
  refine ⟨rx, T'.os.1.trans A.osn, fun a ha => ?_, fun a ha b hb => ?_, fun a ha b hb => ?_, ⟨T'.on.1.trans A.on.1, fun a ha => ?_⟩, ⟨T'.ms.1.trans A.ms.1, fun c hc => (T'.ms.2 c hc).trans (A.ms.2 c (by rw [← T'.ms.1]; exact hc))⟩, ⟨T'.si.1.trans A.si.1, fun c hc => (T'.si.2 c hc).trans (A.si.2 c (by rw [← T'.si.1]; exact hc))⟩, ⟨T'.so.1.trans A.so.1, fun c hc => (T'.so.2 c hc).trans (A.so.2 c (by rw [← T'.so.1]; exact hc))⟩, ⟨T'.sf.1.trans A.sf.1, fun c hc => (T'.sf.2 c hc).trans (A.sf.2 c (by rw [← T'.sf.1]; exact hc))⟩, fun b g hb hg => ?_⟩
  · have e := T'.os.2 a (by rw [T'.os.1, A.osn]; exact ha)
    have f := A.kind a ha
    exact ⟨e.1.trans f.1, e.2.1.trans f.2⟩
  · have f := A.kind a ha
    have g := A.line a ha b hb
    rw [T'.line (by rw [A.osn]; exact ha) (by rw [f.2]; exact hb)]
    by_cases c : a = i ∧ b = j
    · rw [if_pos c]; exact g
    · rw [if_neg c]; exact g
  · have f := A.kind a ha
    have g := A.sum a ha b hb
    rw [T'.line (by rw [A.osn]; exact ha) (by rw [f.2]; exact hb), T'.keptS h.r.fm k.sum]
    by_cases c : a = i ∧ b = j
    · rw [if_pos c, if_pos ⟨by omega, by omega⟩]
      show ((y.os.z a).ls.z b).n - (n - t.left) + _ = _ ∧ ((y.os.z a).ls.z b).n - (n - t.left) ≤ _
      omega
    · rw [if_neg c, if_neg (fun e => c ⟨by omega, by omega⟩)]
      omega
  · have e := T'.on.2 a ha
    have f := A.on.2 a (by rw [← T'.on.1]; exact ha)
    exact ⟨e.1.trans f.1, fun c hc => (e.2 c hc).trans (f.2 c (by rw [← e.1]; exact hc))⟩
  · have e := T'.avail h.r.fm rx.fm h.on h.ln hb hg
    have f := A.av b g hb hg
    have t0 := k.took0 b
    refine ⟨by rw [e]; split <;> omega, fun hbt => ?_⟩
    have hn : ((b : Nat) : Int) ∉ wayT p but := fun hm => (wayT_mem.1 hm).2 hbt
    rw [e, k.other _ hn, f.2 hbt]
    split <;> omega
end
def before (a b i j : Nat) : Prop := a < i ∨ a = i ∧ b < j
structure Pos (p : Pl) (but : Int) (q : Nat → Nat → Int) (s : St) (i j : Nat) (x : St) : Prop where
  al : Along p but s x
  later : ∀ a b, a < s.os.n → b < (s.os.z a).ls.n → ¬ before a b i j → (x.os.z a).ls.z b = (s.os.z a).ls.z b ∧ keptS x.hs.z a b x.hs.n = keptS s.hs.z a b s.hs.n
  none : ∀ a b, a < s.os.n → b < (s.os.z a).ls.n → before a b i j → q a b = ((s.os.z a).ls.z b).n → 0 < ((x.os.z a).ls.z b).n → ∀ c : Nat, c < p.nb → ¬ ((c : Nat) : Int) = but → availZ x c ((s.os.z a).ls.z b).o.toNat = 0
  first : ∀ a b, a < s.os.n → b < (s.os.z a).ls.n → ∀ a' b', a' < s.os.n → b' < (s.os.z a').ls.n → before a b a' b' → before a' b' i j → q a b = ((s.os.z a).ls.z b).n → 0 < ((x.os.z a).ls.z b).n → ((s.os.z a).ls.z b).o = ((s.os.z a').ls.z b').o → keptS x.hs.z a' b' x.hs.n = keptS s.hs.z a' b' s.hs.n
structure QIn (p : Pl) (but : Int) (q : Nat → Nat → Int) (s : St) : Prop where
  r : RightT p s
  q0 : ∀ a b, a < s.os.n → b < (s.os.z a).ls.n → 0 ≤ q a b ∧ (q a b = 0 ∨ (s.os.z a).k = 1 ∧ q a b ≤ ((s.os.z a).ls.z b).n)
  bt : but = -1 ∨ 0 ≤ but ∧ but < p.nb
def TkRow (p : Pl) (but : Int) (q : Nat → Nat → Int) (i : Nat) (s : St) : Nat → St → Prop
  | 0, x => x = s
  | j + 1, x => ∃ y, TkRow p but q i s j y ∧ Step p but y i j (q i j) x
def TkAll (p : Pl) (but : Int) (q : Nat → Nat → Int) (m : Nat → Nat) (s : St) : Nat → St → Prop
  | 0, x => SameT x s
  | i + 1, x => ∃ y, TkAll p but q m s i y ∧ TkRow p but q i y (m i) x
section
variable {p : Pl} {but : Int} {q : Nat → Nat → Int} {s y x : St} {i j : Nat}
theorem Pos.stepIn (Q : QIn p but q s) (P : Pos p but q s i j y) (hi : i < s.os.n) (hj : j < (s.os.z i).ls.n) : StepIn p but y i j (q i j) := by
  have k := P.al.kind i hi
  have l := P.later i j hi hj (fun e => by unfold before at e; omega)
  have e := Q.q0 i j hi hj
  refine ⟨P.al.r, by rw [P.al.osn]; exact hi, by rw [k.2]; exact hj, e.1, ?_, Q.bt⟩
  rw [k.1, l.1]
  exact e.2
theorem Pos.start (Q : QIn p but q s) (h : SameT x s) : Pos p but q s 0 0 x :=
  ⟨Along.self Q.r h, fun a b ha hb _ => ⟨h.line ha hb, h.kept _ _⟩, fun a b _ _ hb => by unfold before at hb; omega, fun _ _ _ _ a' b' _ _ _ hb => by unfold before at hb; omega⟩
theorem Pos.next (P : Pos p but q s i j x) (hj : (s.os.z i).ls.n ≤ j) : Pos p but q s (i + 1) 0 x := by
  have key : ∀ a b, b < (s.os.z a).ls.n → before a b (i + 1) 0 → before a b i j := fun a b hb h => by
    unfold before at h ⊢
    rcases h with h | h
    · by_cases e : a = i
      · subst e
        exact Or.inr ⟨rfl, by omega⟩
      · exact Or.inl (by omega)
    · omega
  refine ⟨P.al, fun a b ha hb h => P.later a b ha hb (fun e => h ?_), fun a b ha hb h => P.none a b ha hb (key a b hb h), fun a b ha hb a' b' ha' hb' h h' => P.first a b ha hb a' b' ha' hb' h (key a' b' hb' h')⟩
  unfold before at e ⊢
  omega
theorem Pos.step (Q : QIn p but q s) (P : Pos p but q s i j y) (hi : i < s.os.n) (hj : j < (s.os.z i).ls.n) (T : Step p but y i j (q i j) x) : Pos p but q s i (j + 1) x := by
  have I := P.stepIn Q hi hj
  have k := I.tk
  have rx := Step.right I T
  have A := P.al.step I T
  have T' : Took y i j (q i j) (Tk.go (avT y i j) (q i j) (wayT p but)) x := T
  generalize ht : Tk.go (avT y i j) (q i j) (wayT p but) = t at k T'
  have L := P.later i j hi hj (fun e => by unfold before at e; omega)
  have yln : ∀ a, a < s.os.n → ∀ b, b < (s.os.z a).ls.n → a < y.os.n ∧ b < (y.os.z a).ls.n := fun a ha b hb => ⟨by rw [P.al.osn]; exact ha, by rw [(P.al.kind a ha).2]; exact hb⟩
  have other : ∀ a, a < s.os.n → ∀ b, b < (s.os.z a).ls.n → ¬ (a = i ∧ b = j) → (x.os.z a).ls.z b = (y.os.z a).ls.z b ∧ keptS x.hs.z a b x.hs.n = keptS y.hs.z a b y.hs.n := fun a ha b hb hne => by
    have e := yln a ha b hb
    refine ⟨by rw [T'.line e.1 e.2, if_neg hne], ?_⟩
    rw [T'.keptS I.r.fm k.sum, if_neg (fun e => hne ⟨by omega, by omega⟩), Int.add_zero]
  have prev : ∀ a b, before a b i (j + 1) → ¬ (a = i ∧ b = j) → before a b i j := fun a b h hne => by
    unfold before at h ⊢
    omega
  have hl0 := k.left0
  have hg := I.tki.good
  have goodE : ((y.os.z i).ls.z j).o = ((s.os.z i).ls.z j).o := by rw [L.1]
  refine ⟨A, fun a b ha hb h => ?_, fun a b ha hb h hq hn c hc hcb => ?_, fun a b ha hb a' b' ha' hb' h h' hq hn hgd => ?_⟩
  · have hne : ¬ (a = i ∧ b = j) := fun e => h (by unfold before; omega)
    have e := other a ha b hb hne
    have f := P.later a b ha hb (fun e => h (by unfold before at e ⊢; omega))
    exact ⟨e.1.trans f.1, e.2.trans f.2⟩
  · by_cases hne : a = i ∧ b = j
    · obtain ⟨rfl, rfl⟩ := hne
      have e := T'.line (yln a ha b hb).1 (yln a ha b hb).2
      rw [if_pos ⟨rfl, rfl⟩] at e
      have hx : ((x.os.z a).ls.z b).n = ((y.os.z a).ls.z b).n - (q a b - t.left) := by rw [e]; rfl
      rw [hx, L.1, ← hq] at hn
      have hm : ((c : Nat) : Int) ∈ wayT p but := wayT_mem.2 ⟨way_has hc, hcb⟩
      have ha' := k.all (by omega) c hm
      rw [← goodE, T'.avail I.r.fm rx.fm I.on I.ln hc (by omega), if_pos (by omega), ha']
      unfold avT
      show availZ y c _ - availZ y c _ = 0
      omega
    · have e := other a ha b hb hne
      rw [e.1] at hn
      have f := P.none a b ha hb (prev a b h hne) hq hn c hc hcb
      have gg := (badLine_no (Q.r.fm.line a ha b hb)).1
      have u := T'.avail I.r.fm rx.fm I.on I.ln hc (g := ((s.os.z a).ls.z b).o.toNat) (by omega)
      have t0 := k.took0 c
      have v := (goods_no (rx.goods ((s.os.z a).ls.z b).o.toNat (by omega))).2 c hc
      rw [f] at u
      split at u <;> omega
  · have nab : ¬ (a = i ∧ b = j) := fun e => by unfold before at h h'; omega
    have eab := other a ha b hb nab
    rw [eab.1] at hn
    by_cases hne : a' = i ∧ b' = j
    · obtain ⟨rfl, rfl⟩ := hne
      have f := P.none a b ha hb h hq hn
      have tz : ∀ c : Nat, c < 6 → t.took c = 0 := fun c hc => by
        by_cases hm : ((c : Nat) : Int) ∈ wayT p but
        · have w := StepIn.way _ hm
          have u := f c (by omega) (wayT_mem.1 hm).2
          have v := k.had _ hm
          have t0 := k.took0 c
          have e2 : avT y a' b' c = availZ y c ((s.os.z a).ls.z b).o.toNat := by
            unfold avT
            rw [goodE, hgd]
            rfl
          rw [e2, u] at v
          omega
        · exact k.other _ hm
      have sz := k.sum
      rw [sumTo_zero fun c hc => tz c hc] at sz
      rw [T'.keptS I.r.fm k.sum, if_pos ⟨rfl, rfl⟩, L.2]
      omega
    · have e := other a' ha' b' hb' hne
      rw [e.2]
      exact P.first a b ha hb a' b' ha' hb' h (prev a' b' h' hne) hq hn hgd
theorem TkRow.pos (Q : QIn p but q s) (P : Pos p but q s i 0 y) (hi : i < s.os.n) : ∀ {j : Nat} {x : St}, j ≤ (s.os.z i).ls.n → TkRow p but q i y j x → Pos p but q s i j x
  | 0, x, _, h => by
    have h' : x = y := h
    rw [h']
    exact P
  | j + 1, x, hj, h => by
    obtain ⟨z, hz, T⟩ := h
    exact (TkRow.pos Q P hi (by omega) hz).step Q hi (by omega) T
theorem TkAll.pos {m : Nat → Nat} (Q : QIn p but q s) (hm : ∀ a, a < s.os.n → m a = (s.os.z a).ls.n) : ∀ {i : Nat} {x : St}, i ≤ s.os.n → TkAll p but q m s i x → Pos p but q s i 0 x
  | 0, x, _, h => Pos.start Q h
  | i + 1, x, hi, h => by
    obtain ⟨z, hz, T⟩ := h
    have P := TkAll.pos Q hm (i := i) (by omega) hz
    rw [hm i (by omega)] at T
    exact (TkRow.pos Q P (by omega) (Nat.le_refl _) T).next (Nat.le_refl _)
theorem TkRow.skip (Q : QIn p but q s) (P : Pos p but q s i 0 y) (hi : i < s.os.n) : ∀ {j : Nat}, j ≤ (s.os.z i).ls.n → (∀ b, b < j → q i b = 0) → TkRow p but q i y j y
  | 0, _, _ => rfl
  | j + 1, hj, h0 => by
    have T := TkRow.skip Q P hi (j := j) (by omega) fun b hb => h0 b (by omega)
    refine ⟨y, T, ?_⟩
    have I := (TkRow.pos Q P hi (by omega) T).stepIn Q hi (by omega)
    rw [h0 j (by omega)] at I ⊢
    exact Step.skip I.tki
theorem TkRow.same {y' : St} (Q : QIn p but q s) (P : Pos p but q s i 0 y) (e : SameT y' y) (hi : i < s.os.n) : ∀ {j : Nat} {x x' : St}, j ≤ (s.os.z i).ls.n → TkRow p but q i y j x → TkRow p but q i y' j x' → SameT x' x
  | 0, x, x', _, h, h' => by
    have h1 : x = y := h
    have h2 : x' = y' := h'
    rw [h1, h2]
    exact e
  | j + 1, x, x', hj, ⟨z, hz, T⟩, ⟨z', hz', T'⟩ => by
    have f := TkRow.same Q P e hi (j := j) (by omega) hz hz'
    exact Step.same ((TkRow.pos Q P hi (by omega) hz).stepIn Q hi (by omega)).tki f T T'
theorem TkAll.same {m : Nat → Nat} (Q : QIn p but q s) (hm : ∀ a, a < s.os.n → m a = (s.os.z a).ls.n) : ∀ {i : Nat} {x x' : St}, i ≤ s.os.n → TkAll p but q m s i x → TkAll p but q m s i x' → SameT x' x
  | 0, x, x', _, h, h' => SameT.trans h' (SameT.symm h)
  | i + 1, x, x', hi, ⟨z, hz, T⟩, ⟨z', hz', T'⟩ => by
    have f := TkAll.same Q hm (i := i) (by omega) hz hz'
    exact TkRow.same Q (TkAll.pos Q hm (by omega) hz) f (by omega) (by rw [hm i (by omega)]; exact Nat.le_refl _) T T'
theorem TkRow.base {q' : Nat → Nat → Int} (hq : ∀ b, b < (s.os.z i).ls.n → q' i b = q i b) : ∀ {j : Nat} {x : St}, j ≤ (s.os.z i).ls.n → TkRow p but q' i y j x → TkRow p but q i y j x
  | 0, x, _, h => h
  | j + 1, x, hj, ⟨z, hz, T⟩ => ⟨z, TkRow.base hq (by omega) hz, by rw [← hq j (by omega)]; exact T⟩
theorem TkAll.base {s' : St} {q' : Nat → Nat → Int} {m m' : Nat → Nat} (e : SameT s' s) (hm : ∀ a, a < s.os.n → m a = (s.os.z a).ls.n) (hm' : ∀ a, a < s.os.n → m' a = m a) (hq : ∀ a b, a < s.os.n → b < (s.os.z a).ls.n → q' a b = q a b) : ∀ {i : Nat} {x : St}, i ≤ s.os.n → TkAll p but q' m' s' i x → TkAll p but q m s i x
  | 0, x, _, h => SameT.trans h e
  | i + 1, x, hi, ⟨z, hz, T⟩ => ⟨z, TkAll.base e hm hm' hq (by omega) hz, by
      rw [hm' i (by omega)] at T
      exact TkRow.base (s := s) (fun b hb => hq i b (by omega) hb) (by rw [hm i (by omega)]; exact Nat.le_refl _) T⟩
end
end Go.Proofs.Ytbcacebifpagpaf
namespace Go.Proofs.Ytbcacebifpagpaf
open Go.RowKit
set_option linter.unusedVariables false
def putH (h : Hs) (x : Hd) : Hs := ⟨h.a, addLen h.n h.z x, h.c, addZ h.n h.z x⟩
def takeB (s : St) (o l : Nat) (m b : Int) : St := if 0 < m then withHolds (setLine s o l 3 (((s.os.z o).ls.z l).n - m)) (putH s.hs (tookH o l b m)) else s
def takeF (s0 : St) (o l : Nat) : List Int → Int → St → St
  | [], _, x => x
  | b :: L, n, x => takeF s0 o l L (n - min n (avT s0 o l b)) (takeB x o l (min n (avT s0 o l b)) b)
def takeT (p : Pl) (but : Int) (s : St) (o l : Nat) (n : Int) : St := takeF s o l (wayT p but) n s
theorem takeF_took {p : Pl} {s : St} {o l : Nat} {n : Int} (h : TakeIn p s o l n) : ∀ (L2 L1 : List Int) (x : St), (∀ c, c ∈ L1 ++ L2 → 0 ≤ c ∧ c < p.nb) → (L1 ++ L2).Pairwise (fun x y => ¬ x = y) → Took s o l n (Tk.go (avT s o l) n L1) x → Took s o l n (Tk.go (avT s o l) n (L1 ++ L2)) (takeF s o l L2 (Tk.go (avT s o l) n L1).left x)
  | [], L1, x, _, _, T => by rw [List.append_nil]; exact T
  | b :: L, L1, x, hc, hp, T => by
    have e : L1 ++ b :: L = (L1 ++ [b]) ++ L := by simp
    have hb := hc b (by simp)
    have k := h.tk (L := L1) (List.pairwise_append.1 hp).1 (fun c hc' => hc c (by simp [hc']))
    have h0 := k.left0
    have hav : 0 ≤ avT s o l b := h.av _ (by omega)
    have T2 : Took s o l n (Tk.go (avT s o l) n (L1 ++ [b])) (takeB x o l (min (Tk.go (avT s o l) n L1).left (avT s o l b)) b) := by
      rw [Tk.go_more]
      unfold takeB
      by_cases hm : 0 < min (Tk.go (avT s o l) n L1).left (avT s o l b)
      · rw [if_pos hm]
        have he := (h.addE (fun c hc' => hc c (by simp [hc'])) k T hb hm (Int.min_le_left _ _)).2.2
        exact T.stepAdd (order := o) (line := l) (y := putH x.hs (tookH o l b (min (Tk.go (avT s o l) n L1).left (avT s o l b)))) h.on h.ln rfl he ⟨(if_pos he).symm, fun _ _ => rfl⟩
      · rw [if_neg hm]
        exact T.stepZero (by omega)
    have R := takeF_took h L (L1 ++ [b]) _ (by rw [← e]; exact hc) (by rw [← e]; exact hp) T2
    rw [e]
    have el : (Tk.go (avT s o l) n (L1 ++ [b])).left = (Tk.go (avT s o l) n L1).left - min (Tk.go (avT s o l) n L1).left (avT s o l b) := by rw [Tk.go_more]; rfl
    rw [el] at R
    exact R
theorem takeT_step {p : Pl} {s : St} {o l : Nat} {n but : Int} (h : TakeIn p s o l n) : Step p but s o l n (takeT p but s o l n) :=
  takeF_took h (wayT p but) [] s (fun c hc => StepIn.way c hc) (wayT_apart p but) (Took.start (n := n) h.fm.hold (SameT.self s))
def rowT (p : Pl) (but : Int) (q : Nat → Nat → Int) (i : Nat) : Nat → St → St
  | 0, s => s
  | j + 1, s => takeT p but (rowT p but q i j s) i j (q i j)
def allT (p : Pl) (but : Int) (q : Nat → Nat → Int) (m : Nat → Nat) : Nat → St → St
  | 0, s => s
  | i + 1, s => rowT p but q i (m i) (allT p but q m i s)
section
variable {p : Pl} {but : Int} {q : Nat → Nat → Int} {s y : St} {i : Nat}
theorem rowT_row (Q : QIn p but q s) (P : Pos p but q s i 0 y) (hi : i < s.os.n) : ∀ {j : Nat}, j ≤ (s.os.z i).ls.n → TkRow p but q i y j (rowT p but q i j y)
  | 0, _ => rfl
  | j + 1, hj => by
    have T := rowT_row Q P hi (j := j) (by omega)
    exact ⟨_, T, takeT_step ((TkRow.pos Q P hi (by omega) T).stepIn Q hi (by omega)).tki⟩
theorem allT_all {m : Nat → Nat} (Q : QIn p but q s) (hm : ∀ a, a < s.os.n → m a = (s.os.z a).ls.n) : ∀ {i : Nat}, i ≤ s.os.n → TkAll p but q m s i (allT p but q m i s)
  | 0, _ => SameT.self s
  | i + 1, hi => by
    have T := allT_all Q hm (i := i) (by omega)
    exact ⟨_, T, by
      rw [show m i = (s.os.z i).ls.n from hm i (by omega)]
      show TkRow p but q i _ _ (rowT p but q i (m i) _)
      rw [hm i (by omega)]
      exact rowT_row Q (TkAll.pos Q hm (by omega) T) (by omega) (Nat.le_refl _)⟩
end
end Go.Proofs.Ytbcacebifpagpaf
namespace Go.Proofs.Ytbcacebifpagpaf
open Go.RowKit Go.Shelf Go.Sort
set_option linter.unusedVariables false
def lackH (x : Hd) : Hd := ⟨x.o, x.l, x.b, x.l - x.b⟩
def lackL (h : Hs) (k : Nat) : Hs := ⟨h.a, h.n, h.c, fun j => if j < k then lackH (h.z j) else h.z j⟩
def KeepO (w wk : World) : Prop := ∀ (q : Nat) (t : TypeId) (m : Nat) (f : Nat → Value), t ≠ 60 → t ≠ 58 → Blk w q t m f → Blk wk q t m f
theorem KeepO.below {w wk wj : World} (h : KeepO w wk) (hB : Below wk.heap.size wk wj) : KeepO w wj := fun q t m f ht h2 hb => (h q t m f ht h2 hb).below hB
theorem KeepO.refl (w : World) : KeepO w w := fun _ _ _ _ _ _ h => h
theorem KeepO.trans {w wk wj : World} (h : KeepO w wk) (k : KeepO wk wj) : KeepO w wj := fun q t m f ht h2 hb => k q t m f ht h2 (h q t m f ht h2 hb)
theorem KeepO.setLine {w wk : World} (h : KeepO w wk) {B n : Nat} {z : Nat → Value} (hB : Blk wk B 60 n z) (j : Nat) (u : Value) : KeepO w (wk.setCell ⟨B, j, none⟩ u) := fun q t m f ht h2 hb => (h q t m f ht h2 hb).other (a := ⟨B, j, none⟩) (Blk.ne2 (h q t m f ht h2 hb) hB ht) u
end Go.Proofs.Ytbcacebifpagpaf
namespace Go.Proofs.Ytbcacebifpagpaf
open Go.RowKit Go.Shelf
set_option linter.unusedVariables false
theorem zeroInt (w : World) : (zeroValue 3).run Try.prog w = .ok (.int .i64 0) w := by kernel_rfl
theorem Blk.setCells {g : Nat} {e : TypeId} {n : Nat} {f : Nat → Value} : ∀ (vs : List Value) (o : Nat) (w : World), Blk w g e n f → n ≤ o → Blk (w.setCells g o vs) g e n f
  | [], _, _, h, _ => h
  | v :: r, o, w, h, hn => by
    rw [World.setCells]
    exact Blk.setCells r (o + 1) _ ((h.set o v).congr fun j hj => by rw [if_neg (by omega)]) (by omega)
theorem below_cells {B g : Nat} (hg : B ≤ g) {a : World} : ∀ (vs : List Value) (o : Nat) (w : World), Below B a w → Below B a (w.setCells g o vs)
  | [], _, _, h => h
  | v :: r, o, w, h => by
    rw [World.setCells]
    exact below_cells hg r (o + 1) _ (h.setCell (p := ⟨g, o, none⟩) hg v)
theorem Blk.less {w : World} {g : Nat} {e : TypeId} {n m : Nat} {f : Nat → Value} (h : Blk w g e n f) (hm : m ≤ n) : Blk w g e m f := by
  obtain ⟨cur, h1, h2, h3⟩ := h
  exact ⟨cur, h1, by omega, fun j hj => h3 j (by omega)⟩
set_option maxHeartbeats 400000 in
theorem idxI2 (f : Nat) (caps : Array Value) (bad : Nat → Bool) (A : Nat) (a : Option Addr) (n c : Nat) (w : World) (hA : A ≤ w.heap.size) (hn : n ≤ c) (hc : c ≤ maxLen) (z : Nat → Int) (hz : IntsAt w a n z)
    (eg : ∀ args w, (callFunc f args).run Try.prog w = .ok (.enter f args) w)
    (hf : Hid (∀ i w1, i < n → Below A w w1 → Calls Try.prog f (#[.int .i64 (z i)] ++ caps) w1 fun e w' => e = .returned (.bool (bad i)) ∧ Below w1.heap.size w1 w')) :
    Calls Try.prog 103 #[.slice a n c, .func (.func f) #[] caps] w fun e w' => ((e = .returned (.int .i64 (-1)) ∧ ∀ j, j < n → bad j = false) ∨ ∃ k, k < n ∧ e = .returned (.int .i64 (k : Nat)) ∧ bad k = true ∧ ∀ j, j < k → bad j = false) ∧ Below w.heap.size w w' := by
  unfold maxLen at hc
  go_enter Try.func103, Try.ntmps103
  go_wp2_with fail
  go_loopw [8] (fun i w1 => ∃ k : Nat, k ≤ n ∧ i = .int .i64 k ∧ (∀ j, j < k → bad j = false) ∧ Below w.heap.size w w1) (fun i _ => n - (intOf i).toNat)
  case atStart => exact ⟨0, Nat.zero_le _, rfl, fun j hj => absurd hj (Nat.not_lt_zero _), Below.refl _ _⟩
  case round =>
    obtain ⟨k, hk, rfl, hno, hB⟩ := hrel
    have HN : Hid (∀ j, j < k → bad j = false) := hno
    clear hno
    by_cases hlt : k < n
    · obtain ⟨b, o, rfl, _, hcell⟩ := (hz.below hB) k hlt
      clear hz
      go_wp2_with fail
      refine (hf.out k wr hlt (hB.mono hA)).mono ?_
      rintro e w1 ⟨rfl, hB1⟩
      have hB2 := hB.trans (hB1.mono hB.size)
      cases hbad : bad k
      · go_wp2_with fail
        go_roundw
        case rel =>
          refine ⟨k + 1, by omega, by go_num, ?_, hB2⟩
          intro j hj
          by_cases hjk : j = k
          · rw [hjk, hbad]
          · exact HN.out j (by omega)
        case measure => simp [intOf]; omega
      · go_wp2_with fail
        go_ret
        exact ⟨Or.inr ⟨k, hlt, rfl, hbad, HN.out⟩, hB2⟩
    · go_wp2_with fail
      go_ret
      have hkn : k = n := by omega
      subst hkn
      exact ⟨Or.inl ⟨rfl, HN.out⟩, hB⟩
def stay (bad : Int → Bool) (xs : List Int) (k : Nat) : List Int := (xs.take k).filter (fun x => !bad x)
theorem stay_all (bad : Int → Bool) (xs : List Int) : stay bad xs xs.length = xs.filter (fun x => !bad x) := by unfold stay; rw [List.take_length]
theorem stay_succ {bad : Int → Bool} {xs : List Int} {k : Nat} (hk : k < xs.length) : stay bad xs (k + 1) = stay bad xs k ++ if bad (xs.getD k 0) then [] else [xs.getD k 0] := by
  unfold stay
  have e : xs.getD k 0 = xs[k] := by simp [List.getD, List.getElem?_eq_getElem hk]
  rw [List.take_add_one, List.getElem?_eq_getElem hk, List.filter_append, e]
  congr 1
  cases h : bad xs[k] <;> simp [h]
theorem stay_full {bad : Int → Bool} {xs : List Int} : ∀ {k : Nat}, k ≤ xs.length → (∀ j, j < k → bad (xs.getD j 0) = false) → stay bad xs k = xs.take k
  | 0, _, _ => by simp [stay]
  | k + 1, hk, h => by
    rw [stay_succ (by omega), stay_full (k := k) (by omega) (fun j hj => h j (by omega)), h k (by omega), List.take_add_one]
    simp [List.getD, List.getElem?_eq_getElem (show k < xs.length by omega)]
def DelAt (g : Nat) (bad : Int → Bool) (xs : List Int) (k : Nat) (wk : World) : Prop := ∃ c : Nat → Value, Blk wk g 3 xs.length c ∧ (∀ q, q < (stay bad xs k).length → c q = .int .i64 ((stay bad xs k).getD q 0)) ∧ ∀ q, k ≤ q → q < xs.length → c q = .int .i64 (xs.getD q 0)
set_option maxRecDepth 100000 in
set_option maxHeartbeats 2000000 in
theorem DelI_any (f : Nat) (caps : Array Value) (bad : Int → Bool) (A g cap : Nat) (xs : List Int) (w : World) (hA : A ≤ g) (hA2 : A ≤ w.heap.size) (hn : xs.length ≤ cap) (hcap : cap ≤ maxLen) (hb : Blk w g 3 xs.length (fun j => .int .i64 (xs.getD j 0)))
    (eg : ∀ args w, (callFunc f args).run Try.prog w = .ok (.enter f args) w)
    (hf : Hid (∀ (x : Int) w1, Below A w w1 → Calls Try.prog f (#[.int .i64 x] ++ caps) w1 fun e w' => e = .returned (.bool (bad x)) ∧ Below w1.heap.size w1 w')) :
    Calls Try.prog 68 #[.slice (some ⟨g, 0, none⟩) xs.length cap, .func (.func f) #[] caps] w fun e w' => e = .returned (.slice (some ⟨g, 0, none⟩) (xs.filter (fun x => !bad x)).length cap) ∧ Blk w' g 3 (xs.filter (fun x => !bad x)).length (fun j => .int .i64 ((xs.filter (fun x => !bad x)).getD j 0)) ∧ Below A w w' := by
  have hcap0 := hcap
  unfold maxLen at hcap
  have HBK : Hid (Blk w g 3 xs.length (fun j => .int .i64 (xs.getD j 0))) := hb
  have hz : IntsAt w (some ⟨g, 0, none⟩) xs.length (fun j => xs.getD j 0) := hb.ints
  clear hb
  go_enter Try.func68, Try.ntmps68
  go_wp2_with fail
  refine (idxI2 f caps (fun j => bad (xs.getD j 0)) A _ _ _ w hA2 hn hcap0 _ hz eg (fun i w1 _ h => hf.out _ w1 h)).mono ?_
  rintro e w1 ⟨h, hB1⟩
  clear hz
  have hBA := hB1.mono hA2
  rcases h with ⟨rfl, hno⟩ | ⟨k0, hk0, rfl, hbad, hno⟩
  · have hfil : xs.filter (fun x => !bad x) = xs := by
      have := stay_full (bad := bad) (Nat.le_refl xs.length) hno
      rw [stay_all, List.take_length] at this
      exact this
    have HF : Hid (xs.filter (fun x => !bad x) = xs) := hfil
    clear hfil hno
    go_wp2_with fail
    go_ret
    rw [HF.out]
    exact ⟨rfl, HBK.out.below hB1, hBA⟩
  · have hs0 : stay bad xs (k0 + 1) = xs.take k0 := by rw [stay_succ hk0, stay_full (by omega) hno, hbad]; simp
    have hl0 : (stay bad xs (k0 + 1)).length = k0 := by rw [hs0, List.length_take]; omega
    have H0 : Hid (DelAt g bad xs (k0 + 1) w1) := ⟨_, HBK.out.below hB1, fun q hq => by
      rw [hl0] at hq
      rw [hs0]
      simp only [List.getD, List.getElem?_take, if_pos hq], fun q _ _ => rfl⟩
    have HL0 : Hid ((stay bad xs (k0 + 1)).length = k0) := hl0
    clear hs0 hl0 hbad hno HBK
    go_wp2_with fail
    go_loopw [5, 6] (fun i j wk => ∃ k : Nat, k ≤ xs.length ∧ j = .int .i64 k ∧ i = .int .i64 ((stay bad xs k).length : Nat) ∧ (stay bad xs k).length < k ∧ Hid (DelAt g bad xs k wk) ∧ Below A w wk) (fun _ j _ => xs.length - (intOf j).toNat)
    case atStart => exact ⟨k0 + 1, by omega, by go_num, by rw [HL0.out], by rw [HL0.out]; omega, H0, hBA⟩
    case round =>
      clear H0 HL0 hBA hB1
      obtain ⟨k, hk, rfl, rfl, hlen, HD, hB⟩ := hrel
      by_cases hlt : k < xs.length
      · obtain ⟨c, hc1, hc2, hc3⟩ := HD.out
        have HB : Hid (Blk wr g 3 xs.length c ∧ (∀ q, q < (stay bad xs k).length → c q = .int .i64 ((stay bad xs k).getD q 0)) ∧ ∀ q, k ≤ q → q < xs.length → c q = .int .i64 (xs.getD q 0)) := ⟨hc1, hc2, hc3⟩
        have z0 : wr.cell? ⟨g, k, none⟩ = some (.int .i64 (xs.getD k 0)) := (hc1.cell hlt).trans (by rw [hc3 k (Nat.le_refl _) hlt])
        have z1 := hc1.lt
        have HS : Hid (stay bad xs (k + 1) = stay bad xs k ++ if bad (xs.getD k 0) then [] else [xs.getD k 0]) := stay_succ hlt
        have HX : Hid (xs.getD k 0 = xs.getD k 0) := rfl
        clear hc1 hc2 hc3 HD
        obtain ⟨X, hX⟩ : ∃ X, xs.getD k 0 = X := ⟨_, rfl⟩
        have HXE : Hid (xs.getD k 0 = X) := hX
        rw [hX] at z0
        clear hX HX
        obtain ⟨I, hI⟩ : ∃ I, (stay bad xs k).length = I := ⟨_, rfl⟩
        have HIE : Hid ((stay bad xs k).length = I) := hI
        rw [hI] at hlen ⊢
        clear hI
        go_wp2_with fail
        refine (hf.out X wr hB).mono ?_
        rintro e w2 ⟨rfl, hB2⟩
        have hB3 := hB.trans (hB2.mono (Nat.le_trans hA2 hB.size))
        have kb := HB.out.1.below hB2
        cases hbd : bad X
        · have y1 := kb.frozen I
          have y2 := kb.cell (j := I) (by omega)
          have y3 := kb.lt
          have KB := kb.set I (.int .i64 X)
          have HN : Hid (DelAt g bad xs (k + 1) (w2.setCell ⟨g, I, none⟩ (.int .i64 X)) ∧ Below A w (w2.setCell ⟨g, I, none⟩ (.int .i64 X)) ∧ (stay bad xs (k + 1)).length = I + 1) := by
            have e1 : stay bad xs (k + 1) = stay bad xs k ++ [X] := by rw [HS.out, HXE.out, hbd]; rfl
            have e2 : (stay bad xs (k + 1)).length = I + 1 := by rw [e1, List.length_append, HIE.out]; rfl
            refine ⟨⟨_, KB, fun q hq => ?_, fun q hq hq2 => ?_⟩, hB3.setCell (p := ⟨g, I, none⟩) hA _, e2⟩
            · rw [e2] at hq
              show (if q = I then Value.int .i64 X else c q) = _
              rw [e1]
              by_cases hqi : q = I
              · rw [if_pos hqi]
                simp only [List.getD]
                rw [List.getElem?_append_right (by rw [HIE.out]; omega), HIE.out, hqi]
                simp
              · rw [if_neg hqi, HB.out.2.1 q (by rw [HIE.out]; omega)]
                simp only [List.getD]
                rw [List.getElem?_append_left (by rw [HIE.out]; omega)]
            · show (if q = I then Value.int .i64 X else c q) = _
              rw [if_neg (by omega), HB.out.2.2 q (by omega) hq2]
          clear kb KB HB HS
          go_wp2_with fail
          go_roundw
          case rel => exact ⟨_, _, _, _, _, _, _, _, _, _, _, _, _, _, _, _, _, _, _, _, _, _, _, ⟨k + 1, by omega, by go_num, by rw [HN.out.2.2]; go_num, by rw [HN.out.2.2]; omega, HN.out.1, HN.out.2.1⟩, rfl⟩
          case measure => simp [intOf]; omega
        · have HN : Hid (DelAt g bad xs (k + 1) w2 ∧ (stay bad xs (k + 1)).length = I) := by
            have e1 : stay bad xs (k + 1) = stay bad xs k := by rw [HS.out, HXE.out, hbd]; simp
            rw [e1]
            exact ⟨⟨c, kb, by rw [e1]; exact HB.out.2.1, fun q hq hq2 => HB.out.2.2 q (by omega) hq2⟩, HIE.out⟩
          clear kb HB HS
          go_wp2_with fail
          go_roundw
          case rel => exact ⟨_, _, _, _, _, _, _, _, _, _, _, _, _, _, _, _, _, _, _, _, _, _, _, ⟨k + 1, by omega, by go_num, by rw [HN.out.2], by rw [HN.out.2]; omega, HN.out.1, hB3⟩, rfl⟩
          case measure => simp [intOf]; omega
      · have hkn : k = xs.length := by omega
        subst hkn
        obtain ⟨c, hc1, hc2, hc3⟩ := HD.out
        have HIE : Hid (stay bad xs xs.length = xs.filter (fun x => !bad x)) := stay_all bad xs
        rw [stay_all] at hlen hc2 ⊢
        obtain ⟨I, hI⟩ : ∃ I, (xs.filter (fun x => !bad x)).length = I := ⟨_, rfl⟩
        have HI : Hid ((xs.filter (fun x => !bad x)).length = I) := hI
        rw [hI] at hlen hc2 ⊢
        clear hI
        obtain ⟨N, hN⟩ : ∃ N, xs.length = N := ⟨_, rfl⟩
        have HNE : Hid (xs.length = N) := hN
        rw [hN] at hlen hn hc1 ⊢
        clear hN hc3 hlt hk HD
        have hci : ¬ cap = I := by omega
        have hcl : ∀ ty, (Builtin.clear_ #[23] ty #[.slice (some ⟨g, I, none⟩) (N - I) (cap - I)]).run Try.prog wr = .ok (.tuple #[]) (wr.setCells g I (List.replicate (N - I) (.int .i64 0))) := fun ty =>
          Lib.run_clear_slice wr 23 3 ty (.int .i64 0) Try.underlying23 zeroInt rfl rfl g I (N - I) (cap - I) (by omega) (fun j hj => by rw [hc1.cell (by omega)]; rfl) (fun j _ => hc1.frozen _)
        have HEND : Hid (Blk (wr.setCells g I (List.replicate (N - I) (.int .i64 0))) g 3 I (fun j => .int .i64 ((xs.filter (fun x => !bad x)).getD j 0)) ∧ Below A w (wr.setCells g I (List.replicate (N - I) (.int .i64 0)))) :=
          ⟨Blk.setCells _ _ _ ((hc1.less (by omega)).congr fun j hj => hc2 j hj) (Nat.le_refl _), below_cells hA _ _ _ hB⟩
        clear hc1 hc2
        go_wp2_with fail
        go_ret
        rw [HI.out]
        exact ⟨rfl, HEND.out⟩
end Go.Proofs.Ytbcacebifpagpaf
namespace Go.Proofs.Ytbcacebifpagpaf
open Go.RowKit Go.Shelf
set_option linter.unusedVariables false
def hd0 : Hd := ⟨0, 0, 0, 0⟩
def hc (c : Nat → Hd) (q : Nat) : Value := (hdCells (c (q / 4))).getD (q % 4) default
theorem hc_at (c : Nat → Hd) (i : Nat) : hc c (i * 4) = .int .i64 (c i).o ∧ hc c (i * 4 + 1) = .int .i64 (c i).l ∧ hc c (i * 4 + 2) = .int .i64 (c i).b ∧ hc c (i * 4 + 3) = .int .i64 (c i).n := by
  unfold hc
  refine ⟨?_, ?_, ?_, ?_⟩
  · rw [show i * 4 / 4 = i by omega, show i * 4 % 4 = 0 by omega]; rfl
  · rw [show (i * 4 + 1) / 4 = i by omega, show (i * 4 + 1) % 4 = 1 by omega]; rfl
  · rw [show (i * 4 + 2) / 4 = i by omega, show (i * 4 + 2) % 4 = 2 by omega]; rfl
  · rw [show (i * 4 + 3) / 4 = i by omega, show (i * 4 + 3) % 4 = 3 by omega]; rfl
theorem hc_flat {n : Nat} {z : Nat → Hd} {q : Nat} (hq : q < n * 4) : (flatH n z).getD q default = hc z q := by
  have h := flatH_get n z (q / 4) (q % 4) (by omega) (by omega)
  rw [show q / 4 * 4 + q % 4 = q by omega] at h
  unfold hc
  simp only [List.getD]
  rw [h]
def set4 (w : World) (g i : Nat) (x : Hd) : World := (((w.setCell ⟨g, i * 4, none⟩ (.int .i64 x.o)).setCell ⟨g, i * 4 + 1, none⟩ (.int .i64 x.l)).setCell ⟨g, i * 4 + 2, none⟩ (.int .i64 x.b)).setCell ⟨g, i * 4 + 3, none⟩ (.int .i64 x.n)
theorem Blk.set4 {w : World} {g : Nat} {e : TypeId} {n : Nat} {c : Nat → Hd} (h : Blk w g e n (hc c)) (i : Nat) (x : Hd) : Blk (set4 w g i x) g e n (hc fun j => if j = i then x else c j) := by
  unfold Go.Proofs.Ytbcacebifpagpaf.set4
  refine ((((h.set _ _).set _ _).set _ _).set _ _).congr fun q hq => ?_
  have ha := hc_at (fun j => if j = i then x else c j) i
  simp only [if_pos] at ha
  by_cases h3 : q = i * 4 + 3
  · rw [if_pos h3, h3, ha.2.2.2]
  · rw [if_neg h3]
    by_cases h2 : q = i * 4 + 2
    · rw [if_pos h2, h2, ha.2.2.1]
    · rw [if_neg h2]
      by_cases h1 : q = i * 4 + 1
      · rw [if_pos h1, h1, ha.2.1]
      · rw [if_neg h1]
        by_cases h0 : q = i * 4
        · rw [if_pos h0, h0, ha.1]
        · rw [if_neg h0]
          unfold hc
          dsimp only
          rw [if_neg (by omega)]
theorem below_set4 {A g : Nat} (hg : A ≤ g) {a w : World} (h : Below A a w) (i : Nat) (x : Hd) : Below A a (set4 w g i x) := by
  unfold set4
  exact (((h.setCell (p := ⟨g, i * 4, none⟩) hg _).setCell (p := ⟨g, i * 4 + 1, none⟩) hg _).setCell (p := ⟨g, i * 4 + 2, none⟩) hg _).setCell (p := ⟨g, i * 4 + 3, none⟩) hg _
theorem Blk.hds {w : World} {g : Nat} {e : TypeId} {n : Nat} {c : Nat → Hd} (h : Blk w g e (n * 4) (hc c)) : HdsAt w (some ⟨g, 0, none⟩) n c := fun i hi => by
  have a := hc_at c i
  refine ⟨g, 0, rfl, h.lt, ?_, ?_, ?_, ?_⟩
  · rw [Nat.zero_add]; exact (h.cell (by omega)).trans (by rw [a.1])
  · rw [Nat.zero_add]; exact (h.cell (by omega)).trans (by rw [a.2.1])
  · rw [Nat.zero_add]; exact (h.cell (by omega)).trans (by rw [a.2.2.1])
  · rw [Nat.zero_add]; exact (h.cell (by omega)).trans (by rw [a.2.2.2])
theorem run_clear4 (w : World) (ty : TypeId) (b o n c : Nat) (hn : 0 < n) (hc : ∀ j, j < n * 4 → (w.cell? ⟨b, o + j, none⟩).isSome = true) (hf : ∀ j, j < n * 4 → w.frozen? ⟨b, o + j, none⟩ = false) :
    (Builtin.clear_ #[28] ty #[.slice (some ⟨b, o, none⟩) n c]).run Try.prog w = .ok (.tuple #[]) (w.setCells b o (List.replicate (n * 4) (.int .i64 0))) := by
  have hzc : (Builtin.zeroCells (Value.agg #[.int .i64 0, .int .i64 0, .int .i64 0, .int .i64 0]).cells n).toList = List.replicate (n * 4) (.int .i64 0) := by
    rw [show (Value.agg #[.int .i64 0, .int .i64 0, .int .i64 0, .int .i64 0]).cells = #[.int .i64 0, .int .i64 0, .int .i64 0, .int .i64 0] from rfl]
    apply List.ext_getElem
    · simp [Builtin.zeroCells]
    · intro i h1 h2
      have h4 : i % 4 < 4 := by omega
      simp [Builtin.zeroCells]
      generalize i % 4 = k at h4
      match k, h4 with
      | 0, _ => rfl
      | 1, _ => rfl
      | 2, _ => rfl
      | 3, _ => rfl
  have hst := run_storeCells_cells (P := Try.prog) b o (List.replicate (n * 4) (.int .i64 0)) 0 w (by simpa using hc) (by simpa using hf) (by intro v hv'; rw [List.eq_of_mem_replicate hv']; rfl)
  simp only [Nat.add_zero] at hst
  obtain ⟨m, rfl⟩ : ∃ m, n = m + 1 := ⟨n - 1, by omega⟩
  simp only [Builtin.clear_]
  simp [hzc, hst]
def KeepG (g : Nat) (w w' : World) : Prop := w.heap.size ≤ w'.heap.size ∧ ∀ q, q < w.heap.size → q ≠ g → w'.heap[q]? = w.heap[q]?
theorem KeepG.refl (g : Nat) (w : World) : KeepG g w w := ⟨Nat.le_refl _, fun _ _ _ => rfl⟩
theorem KeepG.below {g : Nat} {w wk wj : World} (h : KeepG g w wk) (hB : Below wk.heap.size wk wj) : KeepG g w wj := ⟨Nat.le_trans h.1 hB.size, fun q hq hne => (hB.block q (Nat.lt_of_lt_of_le hq h.1)).trans (h.2 q hq hne)⟩
theorem KeepG.set {g : Nat} {w wk : World} (h : KeepG g w wk) (j : Nat) (u : Value) : KeepG g w (wk.setCell ⟨g, j, none⟩ u) := ⟨by simpa using h.1, fun q hq hne => (Below.heap_setCell wk ⟨g, j, none⟩ u q hne).trans (h.2 q hq hne)⟩
theorem KeepG.cells {g : Nat} {w : World} : ∀ (vs : List Value) (o : Nat) (wk : World), KeepG g w wk → KeepG g w (wk.setCells g o vs)
  | [], _, _, h => h
  | v :: r, o, wk, h => by
    rw [World.setCells]
    exact KeepG.cells r (o + 1) _ (h.set o v)
theorem KeepG.set4 {g : Nat} {w wk : World} (h : KeepG g w wk) (i : Nat) (x : Hd) : KeepG g w (Go.Proofs.Ytbcacebifpagpaf.set4 wk g i x) := by
  unfold Go.Proofs.Ytbcacebifpagpaf.set4
  exact (((h.set _ _).set _ _).set _ _).set _ _
theorem KeepG.blk {g : Nat} {w w' : World} (h : KeepG g w w') {q : Nat} {t : TypeId} {m : Nat} {f : Nat → Value} (hb : Blk w q t m f) (hne : q ≠ g) : Blk w' q t m f := by
  have hlt := hb.lt
  obtain ⟨cur, h1, h2⟩ := hb
  exact ⟨cur, (h.2 q hlt hne).trans h1, h2⟩
set_option maxHeartbeats 400000 in
theorem idxH2 (f : Nat) (caps : Array Value) (bad : Hd → Bool) (A : Nat) (a : Option Addr) (n c : Nat) (w : World) (hA : A ≤ w.heap.size) (hn : n ≤ c) (hc : c ≤ maxLen) (z : Nat → Hd) (hz : HdsAt w a n z)
    (eg : ∀ args w, (callFunc f args).run Try.prog w = .ok (.enter f args) w)
    (hf : Hid (∀ (x : Hd) w1, Below A w w1 → Calls Try.prog f (#[x.val] ++ caps) w1 fun e w' => e = .returned (.bool (bad x)) ∧ Below w1.heap.size w1 w')) :
    Calls Try.prog 95 #[.slice a n c, .func (.func f) #[] caps] w fun e w' => ((e = .returned (.int .i64 (-1)) ∧ ∀ j, j < n → bad (z j) = false) ∨ ∃ k, k < n ∧ e = .returned (.int .i64 (k : Nat)) ∧ bad (z k) = true ∧ ∀ j, j < k → bad (z j) = false) ∧ Below w.heap.size w w' := by
  unfold maxLen at hc
  go_enter Try.func95, Try.ntmps95
  go_wp2_with fail
  go_loopw [8] (fun i w1 => ∃ k : Nat, k ≤ n ∧ i = .int .i64 k ∧ Hid (∀ j, j < k → bad (z j) = false) ∧ Below w.heap.size w w1) (fun i _ => n - (intOf i).toNat)
  case atStart => exact ⟨0, Nat.zero_le _, rfl, fun j hj => absurd hj (Nat.not_lt_zero _), Below.refl _ _⟩
  case round =>
    obtain ⟨k, hk, rfl, HN, hB⟩ := hrel
    by_cases hlt : k < n
    · obtain ⟨b, o, rfl, _, hcell0, hcell1, hcell2, hcell3⟩ := (hz.below hB) k hlt
      clear hz
      have HE : Hid (∀ j, j < k + 1 → bad (z k) = false → bad (z j) = false) := fun j hj h => by
        by_cases hjk : j = k
        · rw [hjk]; exact h
        · exact HN.out j (by omega)
      go_wp2_with fail
      refine (hf.out (z k) wr (hB.mono hA)).mono ?_
      rintro e w1 ⟨rfl, hB1⟩
      have hB2 := hB.trans (hB1.mono hB.size)
      cases hbad : bad (z k)
      · have HN2 : Hid (∀ j, j < k + 1 → bad (z j) = false) := fun j hj => HE.out j hj hbad
        clear HE HN
        go_wp2_with fail
        go_roundw
        case rel => exact ⟨k + 1, by omega, by go_num, HN2, hB2⟩
        case measure => simp [intOf]; omega
      · go_wp2_with fail
        go_ret
        exact ⟨Or.inr ⟨k, hlt, rfl, hbad, HN.out⟩, hB2⟩
    · go_wp2_with fail
      go_ret
      have hkn : k = n := by omega
      subst hkn
      exact ⟨Or.inl ⟨rfl, HN.out⟩, hB⟩
def stayH (bad : Hd → Bool) (xs : List Hd) (k : Nat) : List Hd := (xs.take k).filter (fun x => !bad x)
theorem stayH_all (bad : Hd → Bool) (xs : List Hd) : stayH bad xs xs.length = xs.filter (fun x => !bad x) := by unfold stayH; rw [List.take_length]
theorem stayH_succ {bad : Hd → Bool} {xs : List Hd} {k : Nat} (hk : k < xs.length) : stayH bad xs (k + 1) = stayH bad xs k ++ if bad (xs.getD k hd0) then [] else [xs.getD k hd0] := by
  unfold stayH
  have e : xs.getD k hd0 = xs[k] := by simp [List.getD, List.getElem?_eq_getElem hk]
  rw [List.take_add_one, List.getElem?_eq_getElem hk, List.filter_append, e]
  congr 1
  cases h : bad xs[k] <;> simp [h]
theorem stayH_full {bad : Hd → Bool} {xs : List Hd} : ∀ {k : Nat}, k ≤ xs.length → (∀ j, j < k → bad (xs.getD j hd0) = false) → stayH bad xs k = xs.take k
  | 0, _, _ => by simp [stayH]
  | k + 1, hk, h => by
    rw [stayH_succ (by omega), stayH_full (k := k) (by omega) (fun j hj => h j (by omega)), h k (by omega), List.take_add_one]
    simp [List.getD, List.getElem?_eq_getElem (show k < xs.length by omega)]
def DelAtH (g : Nat) (bad : Hd → Bool) (xs : List Hd) (k : Nat) (wk : World) : Prop := ∃ c : Nat → Hd, Blk wk g 54 (xs.length * 4) (hc c) ∧ (∀ q, q < (stayH bad xs k).length → c q = (stayH bad xs k).getD q hd0) ∧ ∀ q, k ≤ q → q < xs.length → c q = xs.getD q hd0
set_option maxRecDepth 100000 in
set_option maxHeartbeats 2000000 in
theorem DelH_any (f : Nat) (caps : Array Value) (bad : Hd → Bool) (A g cap : Nat) (xs : List Hd) (w : World) (hA : A ≤ g) (hA2 : A ≤ w.heap.size) (hn : xs.length ≤ cap) (hcap : cap ≤ maxLen) (hb : Blk w g 54 (xs.length * 4) (hc fun j => xs.getD j hd0))
    (eg : ∀ args w, (callFunc f args).run Try.prog w = .ok (.enter f args) w)
    (hf : Hid (∀ (x : Hd) w1, Below A w w1 → Calls Try.prog f (#[x.val] ++ caps) w1 fun e w' => e = .returned (.bool (bad x)) ∧ Below w1.heap.size w1 w')) :
    Calls Try.prog 54 #[.slice (some ⟨g, 0, none⟩) xs.length cap, .func (.func f) #[] caps] w fun e w' => e = .returned (.slice (some ⟨g, 0, none⟩) (xs.filter (fun x => !bad x)).length cap) ∧ Blk w' g 54 ((xs.filter (fun x => !bad x)).length * 4) (hc fun j => (xs.filter (fun x => !bad x)).getD j hd0) ∧ Below A w w' ∧ KeepG g w w' := by
  have hcap0 := hcap
  unfold maxLen at hcap
  have HBK : Hid (Blk w g 54 (xs.length * 4) (hc fun j => xs.getD j hd0)) := hb
  have hz : HdsAt w (some ⟨g, 0, none⟩) xs.length (fun j => xs.getD j hd0) := hb.hds
  clear hb
  go_enter Try.func54, Try.ntmps54
  go_wp2_with fail
  refine (idxH2 f caps bad A _ _ _ w hA2 hn hcap0 _ hz eg hf).mono ?_
  rintro e w1 ⟨h, hB1⟩
  clear hz
  have hBA := hB1.mono hA2
  rcases h with ⟨rfl, hno⟩ | ⟨k0, hk0, rfl, hbad, hno⟩
  · have hfil : xs.filter (fun x => !bad x) = xs := by
      have := stayH_full (bad := bad) (Nat.le_refl xs.length) hno
      rw [stayH_all, List.take_length] at this
      exact this
    have HF : Hid (xs.filter (fun x => !bad x) = xs) := hfil
    clear hfil hno
    go_wp2_with fail
    go_ret
    rw [HF.out]
    exact ⟨rfl, HBK.out.below hB1, hBA, (KeepG.refl g w).below hB1⟩
  · have hs0 : stayH bad xs (k0 + 1) = xs.take k0 := by rw [stayH_succ hk0, stayH_full (by omega) hno, hbad]; simp
    have hl0 : (stayH bad xs (k0 + 1)).length = k0 := by rw [hs0, List.length_take]; omega
    have H0 : Hid (DelAtH g bad xs (k0 + 1) w1) := ⟨_, HBK.out.below hB1, fun q hq => by
      rw [hl0] at hq
      rw [hs0]
      simp only [List.getD, List.getElem?_take, if_pos hq], fun q _ _ => rfl⟩
    have HL0 : Hid ((stayH bad xs (k0 + 1)).length = k0) := hl0
    clear hs0 hl0 hbad hno HBK
    go_wp2_with fail
    go_loopw [5, 6] (fun i j wk => ∃ k : Nat, k ≤ xs.length ∧ j = .int .i64 k ∧ i = .int .i64 ((stayH bad xs k).length : Nat) ∧ (stayH bad xs k).length < k ∧ Hid (DelAtH g bad xs k wk) ∧ Below A w wk ∧ Hid (KeepG g w wk)) (fun _ j _ => xs.length - (intOf j).toNat)
    case atStart => exact ⟨k0 + 1, by omega, by go_num, by rw [HL0.out], by rw [HL0.out]; omega, H0, hBA, (KeepG.refl g w).below hB1⟩
    case round =>
      clear H0 HL0 hBA hB1
      obtain ⟨k, hk, rfl, rfl, hlen, HD, hB, HKG⟩ := hrel
      by_cases hlt : k < xs.length
      · obtain ⟨c, hc1, hc2, hc3⟩ := HD.out
        have HB : Hid (Blk wr g 54 (xs.length * 4) (hc c) ∧ (∀ q, q < (stayH bad xs k).length → c q = (stayH bad xs k).getD q hd0) ∧ ∀ q, k ≤ q → q < xs.length → c q = xs.getD q hd0) := ⟨hc1, hc2, hc3⟩
        have HS : Hid (stayH bad xs (k + 1) = stayH bad xs k ++ if bad (xs.getD k hd0) then [] else [xs.getD k hd0]) := stayH_succ hlt
        obtain ⟨X, hX⟩ : ∃ X, xs.getD k hd0 = X := ⟨_, rfl⟩
        have HXE : Hid (xs.getD k hd0 = X) := hX
        have hcx : c k = X := by rw [hc3 k (Nat.le_refl _) hlt, hX]
        have ha := hc_at c k
        rw [hcx] at ha
        have z0 : wr.cell? ⟨g, k * 4, none⟩ = some (.int .i64 X.o) := (hc1.cell (by omega)).trans (by rw [ha.1])
        have z1 : wr.cell? ⟨g, k * 4 + 1, none⟩ = some (.int .i64 X.l) := (hc1.cell (by omega)).trans (by rw [ha.2.1])
        have z2 : wr.cell? ⟨g, k * 4 + 2, none⟩ = some (.int .i64 X.b) := (hc1.cell (by omega)).trans (by rw [ha.2.2.1])
        have z3 : wr.cell? ⟨g, k * 4 + 3, none⟩ = some (.int .i64 X.n) := (hc1.cell (by omega)).trans (by rw [ha.2.2.2])
        have zl := hc1.lt
        clear hc1 hc2 hc3 HD hX hcx ha
        obtain ⟨I, hI⟩ : ∃ I, (stayH bad xs k).length = I := ⟨_, rfl⟩
        have HIE : Hid ((stayH bad xs k).length = I) := hI
        rw [hI] at hlen ⊢
        clear hI
        obtain ⟨W, hW, hWB, KX⟩ : ∃ W, wr.alloc (.cells #[.int .i64 X.o, .int .i64 X.l, .int .i64 X.b, .int .i64 X.n] 54) = W ∧ Below wr.heap.size wr W ∧ Blk W wr.heap.size 54 4 (fun j => (#[.int .i64 X.o, .int .i64 X.l, .int .i64 X.b, .int .i64 X.n] : Array Value).getD j default) := ⟨_, rfl, (Below.refl _ _).alloc (Nat.le_refl _) _, Blk.mk' rfl rfl⟩
        have HW : Hid (wr.alloc (.cells #[.int .i64 X.o, .int .i64 X.l, .int .i64 X.b, .int .i64 X.n] 54) = W) := hW
        have hBW := hB.trans (hWB.mono (Nat.le_trans hA2 hB.size))
        have HB : Hid (Blk W g 54 (xs.length * 4) (hc c) ∧ (∀ q, q < (stayH bad xs k).length → c q = (stayH bad xs k).getD q hd0) ∧ ∀ q, k ≤ q → q < xs.length → c q = xs.getD q hd0) := ⟨HB.out.1.below hWB, HB.out.2⟩
        have HKG : Hid (KeepG g w W) := HKG.out.below hWB
        clear hW hWB
        go_wp2_with fail
        rw [HW.out]
        refine (hf.out X W hBW).mono ?_
        rintro e w2 ⟨rfl, hB2⟩
        have hB3 := hBW.trans (hB2.mono (Nat.le_trans hA2 hBW.size))
        have HKG : Hid (KeepG g w w2) := HKG.out.below hB2
        have kb := HB.out.1.below hB2
        have KX2 := KX.below hB2
        have xl := KX2.lt
        have x0 : w2.cell? ⟨wr.heap.size, 0, none⟩ = some (.int .i64 X.o) := KX2.cell (j := 0) (by decide)
        have x1 : w2.cell? ⟨wr.heap.size, 1, none⟩ = some (.int .i64 X.l) := KX2.cell (j := 1) (by decide)
        have x2 : w2.cell? ⟨wr.heap.size, 2, none⟩ = some (.int .i64 X.b) := KX2.cell (j := 2) (by decide)
        have x3 : w2.cell? ⟨wr.heap.size, 3, none⟩ = some (.int .i64 X.n) := KX2.cell (j := 3) (by decide)
        clear z0 z1 z2 z3 zl KX KX2 HW hB hBW hB2
        generalize wr.heap.size = BX at *
        cases hbd : bad X
        · have y0 := kb.cell (j := I * 4) (by omega)
          have y1 := kb.cell (j := I * 4 + 1) (by omega)
          have y2 := kb.cell (j := I * 4 + 2) (by omega)
          have y3 := kb.cell (j := I * 4 + 3) (by omega)
          have f0 := kb.frozen (I * 4)
          have f1 := kb.frozen (I * 4 + 1)
          have f2 := kb.frozen (I * 4 + 2)
          have f3 := kb.frozen (I * 4 + 3)
          have yl := kb.lt
          generalize hc c (I * 4) = V0 at y0
          generalize hc c (I * 4 + 1) = V1 at y1
          generalize hc c (I * 4 + 2) = V2 at y2
          generalize hc c (I * 4 + 3) = V3 at y3
          have KB := kb.set4 I X
          have HN : Hid (DelAtH g bad xs (k + 1) (set4 w2 g I X) ∧ Below A w (set4 w2 g I X) ∧ (stayH bad xs (k + 1)).length = I + 1 ∧ KeepG g w (set4 w2 g I X)) := by
            have e1 : stayH bad xs (k + 1) = stayH bad xs k ++ [X] := by rw [HS.out, HXE.out, hbd]; rfl
            have e2 : (stayH bad xs (k + 1)).length = I + 1 := by rw [e1, List.length_append, HIE.out]; rfl
            refine ⟨⟨_, KB, fun q hq => ?_, fun q hq hq2 => ?_⟩, below_set4 hA hB3 I X, e2, HKG.out.set4 I X⟩
            · rw [e2] at hq
              show (if q = I then X else c q) = _
              rw [e1]
              by_cases hqi : q = I
              · rw [if_pos hqi]
                simp only [List.getD]
                rw [List.getElem?_append_right (by rw [HIE.out]; omega), HIE.out, hqi]
                simp
              · rw [if_neg hqi, HB.out.2.1 q (by rw [HIE.out]; omega)]
                simp only [List.getD]
                rw [List.getElem?_append_left (by rw [HIE.out]; omega)]
            · show (if q = I then X else c q) = _
              rw [if_neg (by omega), HB.out.2.2 q (by omega) hq2]
          clear kb KB HB HS
          go_wp2_with fail
          go_roundw
          case rel => exact ⟨_, _, _, _, _, _, _, _, _, _, _, _, _, _, _, _, _, _, _, _, _, _, _, ⟨k + 1, by omega, by go_num, by rw [HN.out.2.2.1]; go_num, by rw [HN.out.2.2.1]; omega, HN.out.1, HN.out.2.1, HN.out.2.2.2⟩, rfl⟩
          case measure => simp [intOf]; omega
        · have HN : Hid (DelAtH g bad xs (k + 1) w2 ∧ (stayH bad xs (k + 1)).length = I) := by
            have e1 : stayH bad xs (k + 1) = stayH bad xs k := by rw [HS.out, HXE.out, hbd]; simp
            rw [e1]
            exact ⟨⟨c, kb, by rw [e1]; exact HB.out.2.1, fun q hq hq2 => HB.out.2.2 q (by omega) hq2⟩, HIE.out⟩
          clear kb HB HS
          go_wp2_with fail
          go_roundw
          case rel => exact ⟨_, _, _, _, _, _, _, _, _, _, _, _, _, _, _, _, _, _, _, _, _, _, _, ⟨k + 1, by omega, by go_num, by rw [HN.out.2], by rw [HN.out.2]; omega, HN.out.1, hB3, HKG⟩, rfl⟩
          case measure => simp [intOf]; omega
      · have hkn : k = xs.length := by omega
        subst hkn
        obtain ⟨c, hc1, hc2, hc3⟩ := HD.out
        rw [stayH_all] at hlen hc2 ⊢
        obtain ⟨I, hI⟩ : ∃ I, (xs.filter (fun x => !bad x)).length = I := ⟨_, rfl⟩
        have HI : Hid ((xs.filter (fun x => !bad x)).length = I) := hI
        rw [hI] at hlen hc2 ⊢
        clear hI
        obtain ⟨N, hN⟩ : ∃ N, xs.length = N := ⟨_, rfl⟩
        have HNE : Hid (xs.length = N) := hN
        rw [hN] at hlen hn hc1 ⊢
        clear hN hc3 hlt hk HD
        have hci : ¬ cap = I := by omega
        have hcl : ∀ ty, (Builtin.clear_ #[28] ty #[.slice (some ⟨g, I * 4, none⟩) (N - I) (cap - I)]).run Try.prog wr = .ok (.tuple #[]) (wr.setCells g (I * 4) (List.replicate ((N - I) * 4) (.int .i64 0))) := fun ty =>
          run_clear4 wr ty g (I * 4) (N - I) (cap - I) (by omega) (fun j hj => by rw [hc1.cell (by omega)]; rfl) (fun j _ => hc1.frozen _)
        have HEND : Hid (Blk (wr.setCells g (I * 4) (List.replicate ((N - I) * 4) (.int .i64 0))) g 54 (I * 4) (hc fun j => (xs.filter (fun x => !bad x)).getD j hd0) ∧ Below A w (wr.setCells g (I * 4) (List.replicate ((N - I) * 4) (.int .i64 0))) ∧ KeepG g w (wr.setCells g (I * 4) (List.replicate ((N - I) * 4) (.int .i64 0)))) :=
          ⟨Blk.setCells _ _ _ ((hc1.less (by omega)).congr fun j hj => by unfold hc; rw [hc2 (j / 4) (by omega)]) (Nat.le_refl _), below_cells hA _ _ _ hB, HKG.out.cells _ _ _⟩
        clear hc1 hc2
        go_wp2_with fail
        go_ret
        rw [HI.out]
        exact ⟨rfl, HEND.out⟩
end Go.Proofs.Ytbcacebifpagpaf
namespace Go.Proofs.Ytbcacebifpagpaf
open Go.RowKit Go.Shelf Go.Sort
set_option linter.unusedVariables false
def kindO (os : Os) (o : Nat) (v : Int) : Os := ⟨os.a, os.n, os.c, fun i => if i = o then ⟨v, (os.z i).ls⟩ else os.z i⟩
def kindS (s : St) (o : Nat) (v : Int) : St := ⟨s.on, kindO s.os o v, s.hs, s.ms, s.si, s.so, s.sf⟩
theorem kindO_ls (os : Os) (o : Nat) (v : Int) (i : Nat) : ((kindO os o v).z i).ls = (os.z i).ls := by
  show (if i = o then (⟨v, (os.z i).ls⟩ : Od) else os.z i).ls = _
  by_cases h : i = o
  · rw [if_pos h]
  · rw [if_neg h]
theorem OwnO.kind {A : Nat} {w : World} {s : Os} {o g : Nat} (h : OwnO A w s) (ho : o < s.n) (ha : s.a = some ⟨g, 0, none⟩) (v : Int) : OwnO A (w.setCell ⟨g, o * 2, none⟩ (.int .i64 v)) (kindO s o v) := by
  obtain ⟨g', ha', hA, hb⟩ := h.list (by omega)
  rw [ha] at ha'
  simp only [Option.some.injEq, Addr.mk.injEq, and_true] at ha'
  subst ha'
  refine ⟨h.le, h.cap, fun hn => ⟨g, ha, hA, (hb.set (o * 2) (.int .i64 v)).congr fun q hq => ?_⟩, fun i hi => ?_, fun i j hij hj => by rw [kindO_ls, kindO_ls]; exact h.apart i j hij hj, h.room.set _ _ _⟩
  · have hd : q = q / 2 * 2 + q % 2 := by omega
    have hi : q / 2 < s.n := by omega
    have hm : q % 2 < 2 := by omega
    have e1 := flatO_at (z := s.z) hi hm
    have e2 := flatO_at (z := (kindO s o v).z) hi hm
    rw [← hd] at e1 e2
    show (if q = o * 2 then Value.int .i64 v else (flatO s.n s.z).getD q default) = (flatO s.n (kindO s o v).z).getD q default
    rw [e1, e2]
    show _ = (odCells (if q / 2 = o then (⟨v, (s.z (q / 2)).ls⟩ : Od) else s.z (q / 2))).getD (q % 2) default
    by_cases hj : q / 2 = o
    · rw [if_pos hj]
      have hm2 : q % 2 = 0 ∨ q % 2 = 1 := by omega
      rcases hm2 with hm2 | hm2
      · rw [if_pos (by omega), hm2]; rfl
      · rw [if_neg (by omega), hm2]; rfl
    · rw [if_neg hj, if_neg (by omega)]
  · rw [kindO_ls]
    obtain ⟨C, a1, a2, a3, a4, a5⟩ := h.lines i hi
    exact ⟨C, a1, a2, a3, a4, a5.other (a := ⟨g, o * 2, none⟩) (Blk.ne2 a5 hb (by decide)) _⟩
theorem OwnS.kind {A : Nat} {w : World} {s : St} {o g : Nat} (h : OwnS A w s) (ho : o < s.os.n) (ha : s.os.a = some ⟨g, 0, none⟩) (v : Int) : OwnS A (w.setCell ⟨g, o * 2, none⟩ (.int .i64 v)) (kindS s o v) := by
  obtain ⟨g', ha', hA, hb⟩ := h.os.list (by omega)
  rw [ha] at ha'
  simp only [Option.some.injEq, Addr.mk.injEq, and_true] at ha'
  subst ha'
  refine ⟨?_, fun i hi => (h.rows i hi).other hb (by decide) _ _, h.rapart, h.os.kind ho ha v, h.hs.other hb (by decide) _ _, h.ms.other hb (by decide) _ _, h.msr.set _ _ _, h.si.other hb (by decide) _ _, h.so.other hb (by decide) _ _, h.sf.other hb (by decide) _ _, h.aio, h.aif, h.aof, h.ari⟩
  obtain ⟨q, a0, a1, a2, a3, a4⟩ := h.on
  exact ⟨q, a0, a1, a2, a3, a4.other (a := ⟨g, o * 2, none⟩) (Blk.ne2 a4 hb (by decide)) _⟩
end Go.Proofs.Ytbcacebifpagpaf
namespace Go.Proofs.Ytbcacebifpagpaf
open Go.RowKit Go.Shelf Go.Sort
set_option linter.unusedVariables false
def listH (h : Hs) : List Hd := (List.range h.n).map h.z
theorem listH_len (h : Hs) : (listH h).length = h.n := by simp [listH]
theorem listH_at {h : Hs} {j : Nat} (hj : j < h.n) : (listH h).getD j hd0 = h.z j := by
  unfold listH
  simp [List.getD, hj]
def dropH (h : Hs) (bad : Hd → Bool) : Hs := ⟨h.a, ((listH h).filter (fun x => !bad x)).length, h.c, fun j => ((listH h).filter (fun x => !bad x)).getD j hd0⟩
theorem dropH_le (h : Hs) (bad : Hd → Bool) : (dropH h bad).n ≤ h.n := by
  have := List.length_filter_le (fun x => !bad x) (listH h)
  rw [listH_len] at this
  exact this
theorem OwnI.keepG {A g n : Nat} {w w' : World} {r : Rw} {f : Nat → Value} (h : OwnI A w r) (hg : Blk w g 54 n f) (K : KeepG g w w') : OwnI A w' r := by
  obtain ⟨q, ha, h0, h1, h2, hb⟩ := h
  exact ⟨q, ha, h0, h1, h2, K.blk hb (Blk.ne2 hb hg (by decide))⟩
theorem OwnH.keepG {A g n : Nat} {t : TypeId} {w w' : World} {s : Hs} {f : Nat → Value} (h : OwnH A t w s) (hg : Blk w g 54 n f) (hne : t ≠ 54) (K : KeepG g w w') : OwnH A t w' s := by
  obtain ⟨h1, h2, h3, h4⟩ := h
  refine ⟨h1, h2, h3, fun hn => ?_⟩
  obtain ⟨q, ha, hA, hb⟩ := h4 hn
  exact ⟨q, ha, hA, K.blk hb (Blk.ne2 hb hg hne)⟩
theorem Room.keepG {A g n : Nat} {t : TypeId} {w w' : World} {sz c : Nat} {a : Option Addr} {f : Nat → Value} (h : Room A w t sz a c) (hg : Blk w g 54 n f) (hne : t ≠ 54) (K : KeepG g w w') : Room A w' t sz a c := by
  refine h.same fun q cur hq => K.2 q (Array.getElem?_eq_some_iff.1 hq).1 fun e => ?_
  obtain ⟨c2, h1, _⟩ := hg
  rw [e, h1] at hq
  cases hq
  exact hne rfl
theorem OwnO.keepG {A g n : Nat} {w w' : World} {s : Os} {f : Nat → Value} (h : OwnO A w s) (hg : Blk w g 54 n f) (K : KeepG g w w') : OwnO A w' s := by
  refine ⟨h.le, h.cap, fun hn => ?_, fun i hi => ?_, h.apart, h.room.keepG hg (by decide) K⟩
  · obtain ⟨q, a1, a2, a3⟩ := h.list hn
    exact ⟨q, a1, a2, K.blk a3 (Blk.ne2 a3 hg (by decide))⟩
  · obtain ⟨C, a1, a2, a3, a4, a5⟩ := h.lines i hi
    exact ⟨C, a1, a2, a3, a4, K.blk a5 (Blk.ne2 a5 hg (by decide))⟩
theorem OwnS.keepG {A g n : Nat} {w w' : World} {s : St} {h : Hs} {f : Nat → Value} (k : OwnS A w s) (hg : Blk w g 54 n f) (K : KeepG g w w') (hh : OwnH A 54 w' h) : OwnS A w' (Go.Proofs.Ytbcacebifpagpaf.withHolds s h) := by
  refine ⟨?_, fun i hi => (k.rows i hi).keepG hg K, k.rapart, k.os.keepG hg K, hh, k.ms.keepG hg (by decide) K, k.msr.keepG hg (by decide) K, k.si.keepG hg K, k.so.keepG hg K, k.sf.keepG hg K, k.aio, k.aif, k.aof, k.ari⟩
  obtain ⟨q, a0, a1, a2, a3, a4⟩ := k.on
  exact ⟨q, a0, a1, a2, a3, K.blk a4 (Blk.ne2 a4 hg (by decide))⟩
set_option maxRecDepth 100000 in
set_option maxHeartbeats 1000000 in
theorem DelH_nil (f : Nat) (caps : Array Value) (bad : Hd → Bool) (a : Option Addr) (cap : Nat) (w : World) (hcap : cap ≤ maxLen)
    (eg : ∀ args w, (callFunc f args).run Try.prog w = .ok (.enter f args) w)
    (hf : Hid (∀ (x : Hd) w1, Below w.heap.size w w1 → Calls Try.prog f (#[x.val] ++ caps) w1 fun e w' => e = .returned (.bool (bad x)) ∧ Below w1.heap.size w1 w')) :
    Calls Try.prog 54 #[.slice a (0 : Nat) cap, .func (.func f) #[] caps] w fun e w' => e = .returned (.slice a (0 : Nat) cap) ∧ Below w.heap.size w w' := by
  have hcap0 := hcap
  unfold maxLen at hcap
  go_enter Try.func54, Try.ntmps54
  go_wp2_with fail
  refine (idxH2 f caps bad w.heap.size a 0 cap w (Nat.le_refl _) (Nat.zero_le _) hcap0 (fun _ => hd0) (fun i hi => absurd hi (Nat.not_lt_zero _)) eg hf).mono ?_
  rintro e w1 ⟨h, hB1⟩
  rcases h with ⟨rfl, -⟩ | ⟨k0, hk0, -⟩
  · go_wp2_with fail
    go_ret
    exact ⟨rfl, hB1⟩
  · exact absurd hk0 (Nat.not_lt_zero _)
end Go.Proofs.Ytbcacebifpagpaf
namespace Go.Proofs.Ytbcacebifpagpaf
open Go.RowKit
set_option linter.unusedVariables false
theorem listOf_len (n : Nat) (L : List Hd) (h : n = L.length) : (List.range n).map (fun j => L.getD j hd0) = L := by
  subst h
  apply List.ext_getElem
  · simp
  · intro i h1 h2
    simp [List.getD, h2]
theorem dropH_list (h : Hs) (bad : Hd → Bool) : listH (dropH h bad) = (listH h).filter (fun x => !bad x) := listOf_len _ _ rfl
theorem dropH_right' {h : Hs} {bad : Hd → Bool} (hk : ∀ i j, i < j → j < h.n → keyH (h.z i) < keyH (h.z j)) (hf : ∀ i, i < h.n → bad (h.z i) = false → fineH (h.z i) = true) : anyB (dropH h bad).n (badH (dropH h bad).z) = false := by
  have pw : (listH h).Pairwise (fun x y => keyH x < keyH y) := by
    rw [List.pairwise_iff_getElem]
    intro i j hi hj hij
    have hj' : j < h.n := by rw [listH_len] at hj; exact hj
    have e1 : (listH h)[i] = h.z i := by simp [listH]
    have e2 : (listH h)[j] = h.z j := by simp [listH]
    rw [e1, e2]
    exact hk i j hij hj'
  have pf := pw.filter (fun x => !bad x)
  have at' : ∀ i (hi : i < ((listH h).filter (fun x => !bad x)).length), (dropH h bad).z i = ((listH h).filter (fun x => !bad x))[i] := fun i hi => by
    show ((listH h).filter (fun x => !bad x)).getD i hd0 = _
    rw [List.getD_eq_getElem?_getD, List.getElem?_eq_getElem hi]
    rfl
  refine right_mk (fun i hi => ?_) fun i hi => ?_
  · rw [at' i hi]
    have hm := List.getElem_mem hi
    rw [List.mem_filter] at hm
    obtain ⟨h1, h2⟩ := hm
    obtain ⟨k, k1, k2⟩ : ∃ k, k ∈ List.range h.n ∧ h.z k = ((listH h).filter (fun x => !bad x))[i] := List.mem_map.1 h1
    have h2' : bad (((listH h).filter (fun x => !bad x))[i]) = false := by simpa using h2
    rw [← k2] at h2' ⊢
    exact hf k (List.mem_range.1 k1) h2'
  · have hi' : i + 1 < ((listH h).filter (fun x => !bad x)).length := hi
    rw [at' i (by omega), at' (i + 1) hi']
    rw [List.pairwise_iff_getElem] at pf
    exact pf i (i + 1) (by omega) hi' (by omega)
theorem drop_right {n p : Nat} {z : Nat → Hd} (hr : anyB n (badH z) = false) (hp : p < n) : anyB (n - 1) (badH (dropZ z p)) = false := by
  refine right_mk (fun i hi => ?_) fun i hi => ?_
  · unfold dropZ
    split
    · exact right_fine hr i (by omega)
    · exact right_fine hr (i + 1) (by omega)
  · unfold dropZ
    by_cases h1 : i + 1 < p
    · rw [if_pos (by omega), if_pos h1]
      exact right_lt hr _ _ (by omega) (by omega)
    · rw [if_neg h1]
      split
      · exact right_lt hr _ _ (by omega) (by omega)
      · exact right_lt hr _ _ (by omega) (by omega)
theorem drop_kept {n p : Nat} {z : Nat → Hd} (hr : anyB n (badH z) = false) (hp : p < n) (o l b : Int) : keptV (n - 1) (dropZ z p) o l b = if matchH (z p) o l b then 0 else keptV n z o l b := by
  have ry := drop_right hr hp
  cases hm : matchH (z p) o l b
  · rw [if_neg (by decide)]
    rcases keptV_cases n z o l b with h | ⟨k, hk, h1, h2⟩
    · rw [keptV_none h, keptV_none fun j hj => ?_]
      unfold dropZ
      split
      · exact h j (by omega)
      · exact h (j + 1) (by omega)
    · have hkp : ¬ k = p := fun e => by rw [e, hm] at h2; exact absurd h2 (by decide)
      rw [(kept_at hr hk h2).1]
      by_cases hlt : k < p
      · have e : dropZ z p k = z k := if_pos hlt
        rw [(kept_at ry (k := k) (by omega) (by rw [e]; exact h2)).1, e]
      · have e : dropZ z p (k - 1) = z k := by
          unfold dropZ
          rw [if_neg (by omega), show k - 1 + 1 = k by omega]
        rw [(kept_at ry (k := k - 1) (by omega) (by rw [e]; exact h2)).1, e]
  · rw [if_pos rfl]
    refine keptV_none fun j hj => ?_
    cases hq : matchH (dropZ z p j) o l b
    · rfl
    · have e := matchH_key hq hm
      unfold dropZ at e
      split at e
      · have := right_lt hr j p (by omega) hp
        omega
      · have := right_lt hr p (j + 1) (by omega) (by omega)
        omega
end Go.Proofs.Ytbcacebifpagpaf
namespace Go.Proofs.Ytbcacebifpagpaf
open Go.RowKit
set_option linter.unusedVariables false
def relOd (k : Nat) (i : Nat) (o : Od) : Od := if i < k ∧ o.k = 0 then ⟨1, lackL o.ls o.ls.n⟩ else o
def relO (s : St) (k : Nat) : St := ⟨s.on, ⟨s.os.a, s.os.n, s.os.c, fun i => relOd k i (s.os.z i)⟩, s.hs, s.ms, s.si, s.so, s.sf⟩
theorem relOd_n (k i : Nat) (o : Od) : (relOd k i o).ls.n = o.ls.n := by
  unfold relOd
  split <;> rfl
theorem relOd_line (k i : Nat) (o : Od) (j : Nat) : ((relOd k i o).ls.z j).o = (o.ls.z j).o ∧ ((relOd k i o).ls.z j).l = (o.ls.z j).l ∧ ((relOd k i o).ls.z j).b = (o.ls.z j).b := by
  unfold relOd
  split
  · show ((if j < o.ls.n then lackH (o.ls.z j) else o.ls.z j).o = _) ∧ ((if j < o.ls.n then lackH (o.ls.z j) else o.ls.z j).l = _) ∧ ((if j < o.ls.n then lackH (o.ls.z j) else o.ls.z j).b = _)
    split <;> exact ⟨rfl, rfl, rfl⟩
  · exact ⟨rfl, rfl, rfl⟩
theorem rel_line {p : Pl} {s : St} (r : RightT p s) {k i j : Nat} (hi : i < s.os.n) (hj : j < (s.os.z i).ls.n) (c : i < k ∧ (s.os.z i).k = 0) : (relOd k i (s.os.z i)).k = 1 ∧ ((s.os.z i).ls.z j).b = 0 ∧ ((s.os.z i).ls.z j).n = 0 ∧ keptS s.hs.z i j s.hs.n = 0 ∧ ((relOd k i (s.os.z i)).ls.z j).n = ((s.os.z i).ls.z j).l := by
  have w := r.orders i hi
  unfold wrongOrder at w
  rw [Bool.or_eq_false_iff] at w
  have wl : wrongL (s.os.z i).k ((s.os.z i).ls.z j) (keptS s.hs.z i j s.hs.n) = false := anyB_false w.2 j hj
  unfold wrongL at wl
  rw [if_pos c.2] at wl
  simp only [Bool.or_eq_false_iff, Bool.not_eq_false', beq_iff_eq] at wl
  unfold relOd
  rw [if_pos c]
  refine ⟨rfl, wl.1.1, wl.1.2, wl.2, ?_⟩
  show (if j < (s.os.z i).ls.n then lackH ((s.os.z i).ls.z j) else (s.os.z i).ls.z j).n = _
  rw [if_pos hj]
  show ((s.os.z i).ls.z j).l - ((s.os.z i).ls.z j).b = _
  omega
theorem rel_formed {p : Pl} {s : St} (r : RightT p s) (k : Nat) : Formed p (relO s k) := by
  have f := r.fm
  refine ⟨f.sh, f.sh0, f.os4, f.ms8, fun i hi => ?_, fun i hi => ?_, fun i hi j hj => ?_, f.hold, fun i hi => ?_, f.move, f.sin, f.son, f.sfn, f.sib, f.sob, f.sfb⟩
  · show 1 ≤ (relOd k i (s.os.z i)).ls.n ∧ (relOd k i (s.os.z i)).ls.n ≤ 3
    rw [relOd_n]
    exact f.lns i hi
  · show 0 ≤ (relOd k i (s.os.z i)).k ∧ (relOd k i (s.os.z i)).k ≤ 2
    unfold relOd
    split
    · exact ⟨(by decide : (0 : Int) ≤ 1), (by decide : (1 : Int) ≤ 2)⟩
    · exact f.kind i hi
  · show badLine p ((relOd k i (s.os.z i)).ls.z j) = false
    have hj' : j < (s.os.z i).ls.n := by rw [← relOd_n k i]; exact hj
    by_cases c : i < k ∧ (s.os.z i).k = 0
    · have e := rel_line r hi hj' c
      have g := relOd_line k i (s.os.z i) j
      obtain ⟨b1, b2, b3, b4⟩ := badLine_no (f.line i hi j hj')
      unfold badLine
      rw [inB_mk (by omega), inB_mk (by omega), inB_mk (by omega), inB_mk (by omega)]
      rfl
    · unfold relOd
      rw [if_neg c]
      exact f.line i hi j hj'
  · have h := homeless_no (f.home i hi)
    refine homeless_mk h.1 ⟨h.2.1.1, ?_⟩ h.2.2
    show _ < (relOd k _ (s.os.z _)).ls.n
    rw [relOd_n]
    exact h.2.1.2
theorem rel_avail (s : St) (k b g : Nat) : availZ (relO s k) b g = availZ s b g := by
  unfold availZ
  rw [heldTo_eq (x := relO s k) (s := s) (fun j _ => rfl) (fun j _ => (relOd_line k _ _ _).1)]
  rw [fromTo_eq (x := relO s k) (s := s) (fun j _ => rfl)]
  rfl
theorem rel_right {p : Pl} {s : St} (r : RightT p s) (k : Nat) : RightT p (relO s k) := by
  refine ⟨rel_formed r k, fun g hg => ?_, fun i hi => ?_⟩
  · obtain ⟨a1, a2⟩ := goods_no (r.goods g hg)
    exact goods_mk a1 fun b hb => by rw [rel_avail]; exact a2 b hb
  · have hi' : i < s.os.n := hi
    by_cases c : i < k ∧ (s.os.z i).k = 0
    · have l1 := (r.fm.lns i hi').1
      have e0 := rel_line r hi' (j := 0) (by omega) c
      unfold wrongOrder
      rw [Bool.or_eq_false_iff]
      constructor
      · have : anyB ((relO s k).os.z i).ls.n (fun j => lacksL (((relO s k).os.z i).ls.z j)) = true := by
          refine anyB_yes (k := 0) ?_ ?_
          · show 0 < (relOd k i (s.os.z i)).ls.n
            rw [relOd_n]
            omega
          · show lacksL ((relOd k i (s.os.z i)).ls.z 0) = true
            have g := relOd_line k i (s.os.z i) 0
            obtain ⟨b1, b2, b3, b4⟩ := badLine_no (r.fm.line i hi' 0 (by omega))
            unfold lacksL
            rw [Bool.not_eq_true', beq_eq_false_iff_ne]
            omega
        rw [this]
        simp
      · refine anyB_no fun j hj => ?_
        have hj' : j < (s.os.z i).ls.n := by rw [← relOd_n k i]; exact hj
        have e := rel_line r hi' hj' c
        have g := relOd_line k i (s.os.z i) j
        show wrongL (relOd k i (s.os.z i)).k ((relOd k i (s.os.z i)).ls.z j) (keptS s.hs.z i j s.hs.n) = false
        unfold wrongL
        rw [e.1, if_neg (by decide), if_neg (by decide), Bool.not_eq_false', beq_iff_eq]
        omega
    · have e : (relO s k).os.z i = s.os.z i := if_neg c
      have w := r.orders i hi'
      unfold wrongOrder at w ⊢
      rw [e]
      exact w
def relQ (s : St) (a b : Nat) : Int := if ((relO s s.os.n).os.z a).k = 1 then (((relO s s.os.n).os.z a).ls.z b).n else 0
def relM (s : St) (a : Nat) : Nat := (s.os.z a).ls.n
def Released (p : Pl) (s x : St) : Prop := TkAll p (-1) (relQ s) (relM s) (relO s s.os.n) s.os.n x
def RelOK (p : Pl) (s x : St) : Prop := (stateE p s = 0 → Released p s x) ∧ (¬ stateE p s = 0 → NoneS x)
theorem rel_qin {p : Pl} {s : St} (r : RightT p s) : QIn p (-1) (relQ s) (relO s s.os.n) := by
  have rr := rel_right r s.os.n
  refine ⟨rr, fun a b ha hb => ?_, Or.inl rfl⟩
  unfold relQ
  have q := right_line rr ha hb
  by_cases h : ((relO s s.os.n).os.z a).k = 1
  · rw [if_pos h]
    exact ⟨q.1, Or.inr ⟨h, Int.le_refl _⟩⟩
  · rw [if_neg h]
    exact ⟨Int.le_refl _, Or.inl rfl⟩
theorem relM_eq (s : St) (a : Nat) : relM s a = ((relO s s.os.n).os.z a).ls.n := (relOd_n _ _ _).symm
theorem Released.pos {p : Pl} {s x : St} (r : RightT p s) (h : Released p s x) : Pos p (-1) (relQ s) (relO s s.os.n) s.os.n 0 x := TkAll.pos (rel_qin r) (fun a _ => relM_eq s a) (Nat.le_refl _) h
theorem Released.same {p : Pl} {s x y : St} (r : RightT p s) (h : Released p s x) (k : Released p s y) : SameT x y := TkAll.same (rel_qin r) (fun a _ => relM_eq s a) (Nat.le_refl _) k h
theorem RelOK.same {p : Pl} {s x y : St} (a : RelOK p s x) (b : RelOK p s y) : SameT x y := by
  by_cases h : stateE p s = 0
  · exact (a.1 h).same (rightT h) (b.1 h)
  · exact none_same2 (a.2 h) (b.2 h)
theorem RightT.bound {p : Pl} {s : St} (r : RightT p s) : s.os.n ≤ 1000 ∧ s.ms.n ≤ 1000 ∧ ∀ i, i < s.os.n → (s.os.z i).ls.n ≤ 1000 :=
  ⟨Nat.le_trans r.fm.os4 (by decide), Nat.le_trans r.fm.ms8 (by decide), fun i hi => Nat.le_trans (r.fm.lns i hi).2 (by decide)⟩
end Go.Proofs.Ytbcacebifpagpaf
namespace Go.Proofs.Ytbcacebifpagpaf
open Go.RowKit
set_option linter.unusedVariables false
def revL (z : Nat → Hd) : Nat → List Hd
  | 0 => []
  | k + 1 => z k :: revL z k
def lessN (z : Nat → Hd) (i : Nat) (d : Int) (j : Nat) : Hd := if j = i then lessL (z j) d else z j
def cutI (f : Hd → Bool) : Nat → Int → (Nat → Hd) → Nat → Hd
  | 0, _, z => z
  | i + 1, m, z => if f (z i) then cutI f i (m - min m (z i).n) (lessN z i (min m (z i).n)) else cutI f i m z
def cutL (f : Hd → Bool) : Int → List Hd → List Hd
  | _, [] => []
  | m, h :: R => if f h then lessL h (min m h.n) :: cutL f (m - min m h.n) R else h :: cutL f m R
def cutQ (f : Hd → Bool) : Int → List Hd → Int → Int → Int
  | _, [], _, _ => 0
  | m, h :: R, o, l => if f h then (if h.o = o ∧ h.l = l then min m h.n else 0) + cutQ f (m - min m h.n) R o l else cutQ f m R o l
def leftL (f : Hd → Bool) : Int → List Hd → Int
  | m, [] => m
  | m, h :: R => if f h then leftL f (m - min m h.n) R else leftL f m R
def sumB (P : Hd → Bool) : List Hd → Int
  | [] => 0
  | h :: R => sumB P R + if P h then h.n else 0
def goneH (x : Hd) : Bool := x.n == 0
def flt (L : List Hd) : List Hd := L.filter (fun x => !goneH x)
theorem revL_list (z : Nat → Hd) : ∀ n, revL z n = ((List.range n).map z).reverse
  | 0 => rfl
  | n + 1 => by rw [List.range_succ, List.map_append, List.reverse_append, ← revL_list z n]; rfl
theorem revL_len (z : Nat → Hd) : ∀ n, (revL z n).length = n
  | 0 => rfl
  | n + 1 => by show (revL z n).length + 1 = _; rw [revL_len z n]
theorem revL_congr {z z' : Nat → Hd} : ∀ {n : Nat}, (∀ j, j < n → z j = z' j) → revL z n = revL z' n
  | 0, _ => rfl
  | n + 1, h => by show z n :: revL z n = z' n :: revL z' n; rw [h n (by omega), revL_congr fun j hj => h j (by omega)]
theorem revL_at {z z' : Nat → Hd} : ∀ {n : Nat}, revL z n = revL z' n → ∀ j, j < n → z j = z' j
  | 0, _, j, hj => absurd hj (by omega)
  | n + 1, h, j, hj => by
    have h' : z n :: revL z n = z' n :: revL z' n := h
    rw [List.cons.injEq] at h'
    by_cases e : j = n
    · rw [e]; exact h'.1
    · exact revL_at h'.2 j (by omega)
theorem revL_inj {z z' : Nat → Hd} {n n' : Nat} (h : revL z n = revL z' n') : n = n' ∧ ∀ j, j < n → z j = z' j := by
  have e : n = n' := by rw [← revL_len z n, h, revL_len]
  subst e
  exact ⟨rfl, revL_at h⟩
theorem revL_mem {z : Nat → Hd} : ∀ {n : Nat} {x : Hd}, x ∈ revL z n → ∃ j, j < n ∧ z j = x
  | 0, x, h => by cases h
  | n + 1, x, h => by
    rcases List.mem_cons.1 h with e | e
    · exact ⟨n, by omega, e.symm⟩
    · obtain ⟨j, hj, e⟩ := revL_mem e
      exact ⟨j, by omega, e⟩
theorem revL_has {z : Nat → Hd} : ∀ {n j : Nat}, j < n → z j ∈ revL z n
  | n + 1, j, h => by
    by_cases e : j = n
    · rw [e]; exact List.mem_cons_self
    · exact List.mem_cons_of_mem _ (revL_has (by omega))
theorem cutI_ge (f : Hd → Bool) : ∀ (i : Nat) (m : Int) (z : Nat → Hd) (k : Nat), i ≤ k → cutI f i m z k = z k
  | 0, _, _, _, _ => rfl
  | i + 1, m, z, k, h => by
    show (if f (z i) then cutI f i (m - min m (z i).n) (lessN z i (min m (z i).n)) else cutI f i m z) k = z k
    split
    · rw [cutI_ge f i _ _ k (by omega)]
      exact if_neg (by omega)
    · exact cutI_ge f i _ _ k (by omega)
theorem cutI_rev (f : Hd → Bool) : ∀ (i : Nat) (m : Int) (z : Nat → Hd), revL (cutI f i m z) i = cutL f m (revL z i)
  | 0, _, _ => rfl
  | i + 1, m, z => by
    show cutI f (i + 1) m z i :: revL (cutI f (i + 1) m z) i = if f (z i) then _ else _
    have e : cutI f (i + 1) m z = if f (z i) then cutI f i (m - min m (z i).n) (lessN z i (min m (z i).n)) else cutI f i m z := rfl
    rw [e]
    by_cases h : f (z i) = true
    · rw [if_pos h, if_pos h, cutI_rev f i, cutI_ge f i _ _ i (Nat.le_refl _)]
      have e1 : lessN z i (min m (z i).n) i = lessL (z i) (min m (z i).n) := if_pos rfl
      rw [e1, revL_congr (z := lessN z i (min m (z i).n)) (z' := z) fun j hj => if_neg (by omega)]
    · rw [if_neg h, if_neg h, cutI_rev f i, cutI_ge f i _ _ i (Nat.le_refl _)]
theorem lessL_zero (x : Hd) : lessL x 0 = x := by unfold lessL; rw [Int.sub_zero]
theorem cutI_zero (f : Hd → Bool) : ∀ (i : Nat) (z : Nat → Hd), (∀ j, j < i → 0 ≤ (z j).n) → cutI f i 0 z = z
  | 0, _, _ => rfl
  | i + 1, z, h => by
    show (if f (z i) then cutI f i (0 - min 0 (z i).n) (lessN z i (min 0 (z i).n)) else cutI f i 0 z) = z
    have h0 : min 0 (z i).n = 0 := Int.min_eq_left (h i (by omega))
    have e : lessN z i 0 = z := by
      funext j
      unfold lessN
      rw [lessL_zero]
      split <;> rfl
    rw [h0, e, Int.sub_zero, cutI_zero f i z fun j hj => h j (by omega)]
    split <;> rfl
theorem cutI_key (f : Hd → Bool) : ∀ (i : Nat) (m : Int) (z : Nat → Hd), 0 ≤ m → (∀ j, j < i → 0 ≤ (z j).n) → ∀ k, ((cutI f i m z k).o = (z k).o ∧ (cutI f i m z k).l = (z k).l ∧ (cutI f i m z k).b = (z k).b) ∧ (k < i → 0 ≤ (cutI f i m z k).n) ∧ (cutI f i m z k).n ≤ (z k).n
  | 0, _, _, _, _, _ => ⟨⟨rfl, rfl, rfl⟩, fun h => absurd h (by omega), Int.le_refl _⟩
  | i + 1, m, z, hm, hz, k => by
    have e : cutI f (i + 1) m z = if f (z i) then cutI f i (m - min m (z i).n) (lessN z i (min m (z i).n)) else cutI f i m z := rfl
    rw [e]
    have hi := hz i (by omega)
    by_cases h : f (z i) = true
    · rw [if_pos h]
      have hl : ∀ j, ¬ j = i → lessN z i (min m (z i).n) j = z j := fun j hj => if_neg hj
      have hs : lessN z i (min m (z i).n) i = lessL (z i) (min m (z i).n) := if_pos rfl
      have r := cutI_key f i (m - min m (z i).n) (lessN z i (min m (z i).n)) (by omega) (fun j hj => by rw [hl j (by omega)]; exact hz j (by omega)) k
      by_cases hk : k = i
      · subst hk
        rw [cutI_ge f k _ _ k (Nat.le_refl _), hs]
        refine ⟨⟨rfl, rfl, rfl⟩, fun _ => ?_, ?_⟩
        · show 0 ≤ (z k).n - min m (z k).n
          omega
        · show (z k).n - min m (z k).n ≤ (z k).n
          omega
      · rw [hl k hk] at r
        exact ⟨r.1, fun h' => r.2.1 (by omega), r.2.2⟩
    · rw [if_neg h]
      have r := cutI_key f i m z hm (fun j hj => hz j (by omega)) k
      by_cases hk : k = i
      · subst hk
        rw [cutI_ge f k _ _ k (Nat.le_refl _)]
        exact ⟨⟨rfl, rfl, rfl⟩, fun _ => hi, Int.le_refl _⟩
      · exact ⟨r.1, fun h' => r.2.1 (by omega), r.2.2⟩
def Blind (f : Hd → Bool) : Prop := ∀ h d, f (lessL h d) = f h
def Pos0 (R : List Hd) : Prop := ∀ h, h ∈ R → 0 ≤ h.n
theorem Pos0.tail {h : Hd} {R : List Hd} (p : Pos0 (h :: R)) : Pos0 R := fun x hx => p x (List.mem_cons_of_mem _ hx)
theorem Pos0.head {h : Hd} {R : List Hd} (p : Pos0 (h :: R)) : 0 ≤ h.n := p h List.mem_cons_self
theorem sumB_nn {P : Hd → Bool} : ∀ {R : List Hd}, Pos0 R → 0 ≤ sumB P R
  | [], _ => Int.le_refl _
  | h :: R, p => by
    have := sumB_nn (P := P) p.tail
    have := p.head
    show 0 ≤ sumB P R + if P h then h.n else 0
    split <;> omega
theorem sumB_flt (P : Hd → Bool) : ∀ (R : List Hd), sumB P (flt R) = sumB P R
  | [] => rfl
  | h :: R => by
    have ih := sumB_flt P R
    unfold flt at ih ⊢
    rw [List.filter_cons]
    cases hg : goneH h
    · rw [if_pos (show (!false) = true from rfl)]
      show sumB P _ + _ = sumB P R + _
      rw [ih]
    · rw [if_neg (by decide), ih]
      have h0 : h.n = 0 := by unfold goneH at hg; simpa using hg
      show _ = sumB P R + if P h then h.n else 0
      rw [h0]
      split <;> omega
theorem sumB_cut {f : Hd → Bool} (hb : Blind f) : ∀ {R : List Hd} {m : Int}, Pos0 R → 0 ≤ m → sumB f (cutL f m R) = sumB f R - min m (sumB f R) ∧ leftL f m R = m - min m (sumB f R)
  | [], m, _, hm => by
    show (0 : Int) = 0 - min m 0 ∧ m = m - min m 0
    omega
  | h :: R, m, p, hm => by
    have hh := p.head
    have sn := sumB_nn (P := f) p.tail
    by_cases c : f h = true
    · have e : cutL f m (h :: R) = lessL h (min m h.n) :: cutL f (m - min m h.n) R := if_pos c
      have e2 : leftL f m (h :: R) = leftL f (m - min m h.n) R := if_pos c
      have e3 : sumB f (h :: R) = sumB f R + h.n := by show _ + (if f h then _ else _) = _; rw [if_pos c]
      have ih := sumB_cut hb (R := R) (m := m - min m h.n) p.tail (by omega)
      rw [e, e2, e3, ih.2]
      have e4 : sumB f (lessL h (min m h.n) :: cutL f (m - min m h.n) R) = sumB f (cutL f (m - min m h.n) R) + (h.n - min m h.n) := by show _ + (if f _ then _ else _) = _; rw [hb, if_pos c]; rfl
      rw [e4, ih.1]
      omega
    · have e : cutL f m (h :: R) = h :: cutL f m R := if_neg c
      have e2 : leftL f m (h :: R) = leftL f m R := if_neg c
      have e3 : sumB f (h :: R) = sumB f R := by show _ + (if f h then _ else _) = _; rw [if_neg c, Int.add_zero]
      have ih := sumB_cut hb (R := R) (m := m) p.tail hm
      have e4 : sumB f (h :: cutL f m R) = sumB f (cutL f m R) := by show _ + (if f h then _ else _) = _; rw [if_neg c, Int.add_zero]
      rw [e, e2, e3, e4]
      exact ih
theorem sumB_other {f P : Hd → Bool} (hd : ∀ h, P h = true → f h = false) (hP : Blind P) : ∀ (R : List Hd) (m : Int), sumB P (cutL f m R) = sumB P R
  | [], _ => rfl
  | h :: R, m => by
    by_cases c : f h = true
    · have e : cutL f m (h :: R) = lessL h (min m h.n) :: cutL f (m - min m h.n) R := if_pos c
      have hp : P h = false := by
        cases hp : P h
        · rfl
        · rw [hd h hp] at c; cases c
      rw [e]
      show sumB P _ + (if P (lessL h _) then _ else _) = sumB P R + if P h then _ else _
      rw [hP, hp, sumB_other hd hP R]
      rfl
    · have e : cutL f m (h :: R) = h :: cutL f m R := if_neg c
      rw [e]
      show sumB P _ + _ = sumB P R + _
      rw [sumB_other hd hP R]
def forL (o l : Int) (h : Hd) : Bool := (h.o == o) && (h.l == l)
theorem forL_iff {o l : Int} {h : Hd} : forL o l h = true ↔ h.o = o ∧ h.l = l := by unfold forL; simp
theorem sumB_line (f : Hd → Bool) (o l : Int) : ∀ (R : List Hd) (m : Int), sumB (forL o l) (cutL f m R) = sumB (forL o l) R - cutQ f m R o l
  | [], _ => rfl
  | h :: R, m => by
    by_cases c : f h = true
    · have e : cutL f m (h :: R) = lessL h (min m h.n) :: cutL f (m - min m h.n) R := if_pos c
      have e2 : cutQ f m (h :: R) o l = (if h.o = o ∧ h.l = l then min m h.n else 0) + cutQ f (m - min m h.n) R o l := if_pos c
      rw [e, e2]
      show sumB _ _ + (if forL o l (lessL h _) then h.n - min m h.n else 0) = sumB _ R + (if forL o l h then h.n else 0) - _
      rw [sumB_line f o l R]
      have e3 : forL o l (lessL h (min m h.n)) = forL o l h := rfl
      rw [e3]
      by_cases k : h.o = o ∧ h.l = l
      · rw [if_pos (forL_iff.2 k), if_pos (forL_iff.2 k), if_pos k]; omega
      · rw [if_neg (fun e => k (forL_iff.1 e)), if_neg (fun e => k (forL_iff.1 e)), if_neg k]; omega
    · have e : cutL f m (h :: R) = h :: cutL f m R := if_neg c
      have e2 : cutQ f m (h :: R) o l = cutQ f m R o l := if_neg c
      rw [e, e2]
      show sumB _ _ + _ = sumB _ R + _ - _
      rw [sumB_line f o l R]
      omega
theorem cutQ_nn (f : Hd → Bool) (o l : Int) : ∀ {R : List Hd} {m : Int}, Pos0 R → 0 ≤ m → 0 ≤ cutQ f m R o l
  | [], _, _, _ => Int.le_refl _
  | h :: R, m, p, hm => by
    have hh := p.head
    show 0 ≤ if f h then _ else _
    split
    · have := cutQ_nn f o l (R := R) (m := m - min m h.n) p.tail (by omega)
      split <;> omega
    · exact cutQ_nn f o l p.tail hm
theorem cutQ_zero (f : Hd → Bool) (o l : Int) : ∀ {R : List Hd}, Pos0 R → cutQ f 0 R o l = 0
  | [], _ => rfl
  | h :: R, p => by
    have h0 : min 0 h.n = 0 := Int.min_eq_left p.head
    show (if f h then (if h.o = o ∧ h.l = l then min 0 h.n else 0) + cutQ f (0 - min 0 h.n) R o l else cutQ f 0 R o l) = 0
    rw [h0, Int.sub_zero, cutQ_zero f o l p.tail]
    split
    · split <;> rfl
    · rfl
theorem cutL_zero (f : Hd → Bool) : ∀ {R : List Hd}, Pos0 R → cutL f 0 R = R
  | [], _ => rfl
  | h :: R, p => by
    have h0 : min 0 h.n = 0 := Int.min_eq_left p.head
    show (if f h then lessL h (min 0 h.n) :: cutL f (0 - min 0 h.n) R else h :: cutL f 0 R) = h :: R
    rw [h0, Int.sub_zero, cutL_zero f p.tail, lessL_zero]
    split <;> rfl
theorem cutL_pos (f : Hd → Bool) : ∀ {R : List Hd} {m : Int}, Pos0 R → 0 ≤ m → Pos0 (cutL f m R)
  | [], _, _, _ => fun x hx => by cases hx
  | h :: R, m, p, hm => by
    have hh := p.head
    by_cases c : f h = true
    · have e : cutL f m (h :: R) = lessL h (min m h.n) :: cutL f (m - min m h.n) R := if_pos c
      rw [e]
      intro x hx
      rcases List.mem_cons.1 hx with rfl | hx
      · show 0 ≤ h.n - min m h.n
        omega
      · exact cutL_pos f p.tail (by omega) x hx
    · have e : cutL f m (h :: R) = h :: cutL f m R := if_neg c
      rw [e]
      intro x hx
      rcases List.mem_cons.1 hx with rfl | hx
      · exact hh
      · exact cutL_pos f p.tail hm x hx
theorem flt_all {R : List Hd} (h : ∀ x, x ∈ R → 1 ≤ x.n) : flt R = R := by
  unfold flt
  rw [List.filter_eq_self]
  intro x hx
  have := h x hx
  unfold goneH
  simp
  omega
end Go.Proofs.Ytbcacebifpagpaf
namespace Go.Proofs.Ytbcacebifpagpaf
open Go.RowKit
set_option linter.unusedVariables false
def withMoves (s : St) (h : Hs) : St := ⟨s.on, s.os, s.hs, h, s.si, s.so, s.sf⟩
theorem OwnO.grew {A B : Nat} {w w2 : World} {s : Os} {e : TypeId} (h : OwnO A w s) (hg : Grew B e w w2) (h1 : 58 ≠ e) (h2 : 60 ≠ e) : OwnO A w2 s := by
  refine ⟨h.le, h.cap, fun hn => ?_, fun i hi => ?_, h.apart, h.room.grew hg h1⟩
  · obtain ⟨q, a1, a2, a3⟩ := h.list hn
    exact ⟨q, a1, a2, hg.blk a3 h1⟩
  · obtain ⟨C, a1, a2, a3, a4, a5⟩ := h.lines i hi
    exact ⟨C, a1, a2, a3, a4, hg.blk a5 h2⟩
theorem OwnS.moreM {A : Nat} {w w2 : World} {s : St} {h : Hs} (k : OwnS A w s) (hg : Grew A 40 w w2) (hh : OwnH A 40 w2 h) (hr : Room A w2 40 4 h.a h.c) : OwnS A w2 (withMoves s h) := by
  refine ⟨?_, fun i hi => (k.rows i hi).grew hg (by decide), k.rapart, k.os.grew hg (by decide) (by decide), k.hs.grew hg (by decide), hh, hr, k.si.grew hg (by decide), k.so.grew hg (by decide), k.sf.grew hg (by decide), k.aio, k.aif, k.aof, k.ari⟩
  obtain ⟨q, a0, a1, a2, a3, a4⟩ := k.on
  exact ⟨q, a0, a1, a2, a3, hg.blk a4 (by decide)⟩
end Go.Proofs.Ytbcacebifpagpaf

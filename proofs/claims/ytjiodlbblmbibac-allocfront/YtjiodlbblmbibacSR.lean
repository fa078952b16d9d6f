/- Right states, told whole; what is the same is right alike. No walk. -/
import Derived.Test.YtjiodlbblmbibacRS6
import Derived.Test.YtjiodlbblmbibacSW9
import Derived.Test.YtjiodlbblmbibacM2
import Derived.Test.YtjiodlbblmbibacH6
namespace Go.Proofs.Ytjiodlbblmbibac
open Go.RowKit
set_option linter.unusedVariables false

theorem stateE_of {p : Pl} {s : St} (r : RightT p s) : stateE p s = 0 := by
  have f := r.fm
  have e1 : tooManyB s = false := by
    unfold tooManyB
    have h1 : decide (4 < s.os.n) = false := decide_eq_false (by have := f.os4; omega)
    have h2 : decide (8 < s.ms.n) = false := decide_eq_false (by have := f.ms8; omega)
    have h3 : anyB s.os.n (fun i => fewLines (s.os.z i)) = false := anyB_no fun i hi => by
      unfold fewLines
      rw [inB_mk (by have := f.lns i hi; omega)]
      rfl
    rw [h1, h2, h3]
    rfl
  have e2 : badOrdersB p s = false := anyB_no fun i hi => by
    unfold badOrder
    rw [inB_mk (f.kind i hi), anyB_no fun j hj => f.line i hi j hj]
    rfl
  have e3 : badHoldsB p s = false := by
    unfold badHoldsB
    rw [checkH_right f.hold, anyB_no f.home]
    rfl
  have e4 : badMovesB p s = false := anyB_no f.move
  have k : ∀ {r : Rw} {low : Int}, r.n = p.ns → (∀ j, j < p.ns → low ≤ r.z j ∧ r.z j ≤ 1048576) → badSum p r low = false := fun {r low} h1 h2 => by
    unfold badSum
    rw [Bool.or_eq_false_iff]
    refine ⟨by simp [h1], anyB_no fun j hj => ?_⟩
    rw [inB_mk (h2 j (by omega))]
    rfl
  have e5 : badSumsB p s = false := by
    unfold badSumsB
    rw [k f.sin f.sib, k f.son f.sob, k f.sfn f.sfb]
    rfl
  rw [stateE_sum f.sh0 e1 e2 e3 e4 e5, show wrongGoodsB p s = false from anyB_no r.goods, show wrongOrdersB s = false from anyB_no r.orders]
  rfl

theorem homeless_mk {p : Pl} {s : St} {h : Hd} (h1 : 0 ≤ h.o ∧ h.o.toNat < s.os.n) (h2 : 0 ≤ h.l ∧ h.l.toNat < (s.os.z h.o.toNat).ls.n) (h3 : 0 ≤ h.b ∧ h.b < p.nb) : homeless p s h = false := by
  unfold homeless
  rw [inB_mk (by omega), inB_mk (by omega), inB_mk (by omega)]
  rfl

/-- What is held and to move hangs on nothing but holds, orders and moves. -/
theorem heldTo_eq {x s : St} {b g : Int} : ∀ {k : Nat}, (∀ j, j < k → x.hs.z j = s.hs.z j) → (∀ j, j < k → goodH x (s.hs.z j) = goodH s (s.hs.z j)) → heldTo x b g k = heldTo s b g k
  | 0, _, _ => rfl
  | k + 1, h1, h2 => by
    simp only [heldTo]
    rw [heldTo_eq (k := k) (fun j hj => h1 j (by omega)) (fun j hj => h2 j (by omega)), h1 k (by omega), h2 k (by omega)]
theorem fromTo_eq {x s : St} {b g : Int} : ∀ {k : Nat}, (∀ j, j < k → x.ms.z j = s.ms.z j) → fromTo x b g k = fromTo s b g k
  | 0, _ => rfl
  | k + 1, h1 => by
    simp only [fromTo]
    rw [fromTo_eq (k := k) (fun j hj => h1 j (by omega)), h1 k (by omega)]
theorem takeTo_eq {p : Pl} {x s : St} {b : Int} : ∀ {k : Nat}, (∀ j, j < k → x.ms.z j = s.ms.z j) → takeTo p x b k = takeTo p s b k
  | 0, _ => rfl
  | k + 1, h1 => by
    simp only [takeTo]
    rw [takeTo_eq (k := k) (fun j hj => h1 j (by omega)), h1 k (by omega)]

section
variable {p : Pl} {x t : St}
theorem SameT.held (h : SameT x t) (f : Formed p t) (b g : Int) : heldTo x b g x.hs.n = heldTo t b g t.hs.n := by
  rw [h.hs.1]
  refine heldTo_eq (fun j hj => h.hs.2 j (by rw [h.hs.1]; exact hj)) (fun j hj => ?_)
  obtain ⟨h1, h2, -⟩ := homeless_no (f.home j hj)
  unfold goodH
  have o := h.os.2 (t.hs.z j).o.toNat (by rw [h.os.1]; exact h1.2)
  rw [o.2.2 (t.hs.z j).l.toNat (by rw [o.2.1]; exact h2.2)]
theorem SameT.from (h : SameT x t) (b g : Int) : fromTo x b g x.ms.n = fromTo t b g t.ms.n := by
  rw [h.ms.1]
  exact fromTo_eq fun j hj => h.ms.2 j (by rw [h.ms.1]; exact hj)
theorem SameT.num (h : SameT x t) (f : Formed p t) {b g : Nat} (hb : b < p.nb) (hg : g < p.ns) : (x.on.r b).z g = (t.on.r b).z g := by
  have hb' : b < t.on.n := by rw [f.sh.n]; exact hb
  have r := h.on.2 b (by rw [h.on.1]; exact hb')
  exact r.2 g (by rw [r.1, f.sh.len b hb']; exact hg)
theorem SameT.avail (h : SameT x t) (f : Formed p t) {b g : Nat} (hb : b < p.nb) (hg : g < p.ns) : availZ x b g = availZ t b g := by
  unfold availZ
  rw [h.num f hb hg, h.held f, h.from]
theorem SameT.free (h : SameT x t) (f : Formed p t) {b : Nat} (hb : b < p.nb) : freeZ p x b = freeZ p t b := by
  unfold freeZ
  have e : usedTo (x.on.r b).z p.zs p.ns = usedTo (t.on.r b).z p.zs p.ns := usedTo_congr fun j hj => h.num f hb hj
  rw [e, h.ms.1, takeTo_eq fun j hj => h.ms.2 j (by rw [h.ms.1]; exact hj)]
theorem SameT.formed (h : SameT x t) (f : Formed p t) : Formed p x := by
  have hp := (rightS f.sh0).1
  have hs : RightS p x.on := ⟨f.sh.pl, h.on.1.trans f.sh.n, fun i hi => (h.on.2 i hi).1.trans (f.sh.len i (by rw [← h.on.1]; exact hi)), fun i hi j hj => by
    have hi' : i < t.on.n := by rw [← h.on.1]; exact hi
    rw [h.num f (by rw [← f.sh.n]; exact hi') hj]
    exact f.sh.num i hi' j hj⟩
  have o : ∀ i, i < x.os.n → i < t.os.n := fun i hi => by rw [← h.os.1]; exact hi
  refine ⟨hs, shelfE_mk hp hs, by rw [h.os.1]; exact f.os4, by rw [h.ms.1]; exact f.ms8, fun i hi => by rw [(h.os.2 i hi).2.1]; exact f.lns i (o i hi), fun i hi => by rw [(h.os.2 i hi).1]; exact f.kind i (o i hi), fun i hi j hj => ?_, ?_, fun i hi => ?_, fun i hi => ?_, h.si.1.trans f.sin, h.so.1.trans f.son, h.sf.1.trans f.sfn, fun j hj => ?_, fun j hj => ?_, fun j hj => ?_⟩
  · rw [(h.os.2 i hi).2.2 j hj]
    exact f.line i (o i hi) j (by rw [← (h.os.2 i hi).2.1]; exact hj)
  · rw [h.hs.1, badH_congr fun j hj => h.hs.2 j (by rw [h.hs.1]; exact hj)]
    exact f.hold
  · have hi' : i < t.hs.n := by rw [← h.hs.1]; exact hi
    obtain ⟨h1, h2, h3⟩ := homeless_no (f.home i hi')
    rw [h.hs.2 i hi]
    have h1' : (t.hs.z i).o.toNat < x.os.n := by rw [h.os.1]; exact h1.2
    exact homeless_mk ⟨h1.1, h1'⟩ ⟨h2.1, by rw [(h.os.2 _ h1').2.1]; exact h2.2⟩ h3
  · rw [h.ms.2 i hi]
    exact f.move i (by rw [← h.ms.1]; exact hi)
  · rw [h.si.2 j (by rw [h.si.1, f.sin]; exact hj)]; exact f.sib j hj
  · rw [h.so.2 j (by rw [h.so.1, f.son]; exact hj)]; exact f.sob j hj
  · rw [h.sf.2 j (by rw [h.sf.1, f.sfn]; exact hj)]; exact f.sfb j hj
theorem SameT.right (h : SameT x t) (r : RightT p t) : RightT p x := by
  have f := r.fm
  refine ⟨h.formed f, fun g hg => ?_, fun i hi => ?_⟩
  · have := r.goods g hg
    rw [wrongGood_eq] at this ⊢
    rw [← this]
    congr 1
    · have e : sumTo (fun i => (x.on.r i).z g) x.on.n = sumTo (fun i => (t.on.r i).z g) t.on.n := by
        rw [h.on.1]
        exact sumTo_congr fun i hi => h.num f (by rw [← f.sh.n]; exact hi) hg
      rw [e, h.si.2 g (by rw [h.si.1, f.sin]; exact hg), h.so.2 g (by rw [h.so.1, f.son]; exact hg), h.sf.2 g (by rw [h.sf.1, f.sfn]; exact hg)]
    · exact anyB_congr fun b hb => by rw [h.avail f hb hg]
  · have hi' : i < t.os.n := by rw [← h.os.1]; exact hi
    have := r.orders i hi'
    rw [← this]
    obtain ⟨e1, e2, e3⟩ := h.os.2 i hi
    unfold wrongOrder
    rw [e1, e2]
    congr 1
    · congr 2
      exact anyB_congr fun j hj => by rw [e3 j (by rw [e2]; exact hj)]
    · refine anyB_congr fun j hj => ?_
      rw [e3 j (by rw [e2]; exact hj), h.hs.1, keptS_congr _ _ fun j hj => h.hs.2 j (by rw [h.hs.1]; exact hj)]
end

end Go.Proofs.Ytjiodlbblmbibac

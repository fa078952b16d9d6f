/- Texts that were built one behind the other, joined; what CountCounts does not reach is left out. -/
import Derived.Test.YtbcacebifpagpaeGreatK3CountCounts
import Derived.Test.YtbcacebifpagpaeGreatChecked
import Derived.WideKeyEntry
import Derived.DeepKeys5
import Derived.KernelRfl
import Derived.Below
import Derived.RangeFuncNested
import Derived.OwnWalkIn
import Derived.ArgAppend
import Derived.RangeFuncBox
import Derived.RangeFuncLeaves
import Derived.Shelf.Abstract
import Derived.WalkKit
import Derived.TacticsInMore
import Derived.LoopNIn
import Derived.LoopIn
import Derived.Maps.AppendAt
namespace Go.Proofs.YtbcacebifpagpaeGreat
open Go.RowKit Go.Shelf
set_option linter.unusedVariables false
def hd0 : Hd := ⟨0, 0, 0, 0⟩
def hc (c : Nat → Hd) (q : Nat) : Value := (hdCells (c (q / 4))).getD (q % 4) default
theorem hc_at (c : Nat → Hd) (i : Nat) : hc c (i * 4) = .int .i64 (c i).o ∧ hc c (i * 4 + 1) = .int .i64 (c i).l ∧ hc c (i * 4 + 2) = .int .i64 (c i).b ∧ hc c (i * 4 + 3) = .int .i64 (c i).n := by
  unfold hc
  refine ⟨?_, ?_, ?_, ?_⟩
  · rw [show i * 4 / 4 = i by omega, show i * 4 % 4 = 0 by omega]; rfl
  · rw [show (i * 4 + 1) / 4 = i by omega, show (i * 4 + 1) % 4 = 1 by omega]; rfl
  · rw [show (i * 4 + 2) / 4 = i by omega, show (i * 4 + 2) % 4 = 2 by omega]; rfl
  · rw [show (i * 4 + 3) / 4 = i by omega, show (i * 4 + 3) % 4 = 3 by omega]; rfl
theorem hc_flat {n : Nat} {z : Nat → Hd} {q : Nat} (hq : q < n * 4) : (flatH n z).getD q default = hc z q := by
  have h := flatH_get n z (q / 4) (q % 4) (by omega) (by omega)
  rw [show q / 4 * 4 + q % 4 = q by omega] at h
  unfold hc
  simp only [List.getD]
  rw [h]
def set4 (w : World) (g i : Nat) (x : Hd) : World := (((w.setCell ⟨g, i * 4, none⟩ (.int .i64 x.o)).setCell ⟨g, i * 4 + 1, none⟩ (.int .i64 x.l)).setCell ⟨g, i * 4 + 2, none⟩ (.int .i64 x.b)).setCell ⟨g, i * 4 + 3, none⟩ (.int .i64 x.n)
theorem Blk.set4 {w : World} {g : Nat} {e : TypeId} {n : Nat} {c : Nat → Hd} (h : Blk w g e n (hc c)) (i : Nat) (x : Hd) : Blk (set4 w g i x) g e n (hc fun j => if j = i then x else c j) := by
  unfold Go.Proofs.YtbcacebifpagpaeGreat.set4
  refine ((((h.set _ _).set _ _).set _ _).set _ _).congr fun q hq => ?_
  have ha := hc_at (fun j => if j = i then x else c j) i
  simp only [if_pos] at ha
  by_cases h3 : q = i * 4 + 3
  · rw [if_pos h3, h3, ha.2.2.2]
  · rw [if_neg h3]
    by_cases h2 : q = i * 4 + 2
    · rw [if_pos h2, h2, ha.2.2.1]
    · rw [if_neg h2]
      by_cases h1 : q = i * 4 + 1
      · rw [if_pos h1, h1, ha.2.1]
      · rw [if_neg h1]
        by_cases h0 : q = i * 4
        · rw [if_pos h0, h0, ha.1]
        · rw [if_neg h0]
          unfold hc
          dsimp only
          rw [if_neg (by omega)]
theorem below_set4 {A g : Nat} (hg : A ≤ g) {a w : World} (h : Below A a w) (i : Nat) (x : Hd) : Below A a (set4 w g i x) := by
  unfold set4
  exact (((h.setCell (p := ⟨g, i * 4, none⟩) hg _).setCell (p := ⟨g, i * 4 + 1, none⟩) hg _).setCell (p := ⟨g, i * 4 + 2, none⟩) hg _).setCell (p := ⟨g, i * 4 + 3, none⟩) hg _
theorem Blk.hds {w : World} {g : Nat} {e : TypeId} {n : Nat} {c : Nat → Hd} (h : Blk w g e (n * 4) (hc c)) : HdsAt w (some ⟨g, 0, none⟩) n c := fun i hi => by
  have a := hc_at c i
  refine ⟨g, 0, rfl, h.lt, ?_, ?_, ?_, ?_⟩
  · rw [Nat.zero_add]; exact (h.cell (by omega)).trans (by rw [a.1])
  · rw [Nat.zero_add]; exact (h.cell (by omega)).trans (by rw [a.2.1])
  · rw [Nat.zero_add]; exact (h.cell (by omega)).trans (by rw [a.2.2.1])
  · rw [Nat.zero_add]; exact (h.cell (by omega)).trans (by rw [a.2.2.2])
theorem run_clear4 (w : World) (ty : TypeId) (b o n c : Nat) (hn : 0 < n) (hc : ∀ j, j < n * 4 → (w.cell? ⟨b, o + j, none⟩).isSome = true) (hf : ∀ j, j < n * 4 → w.frozen? ⟨b, o + j, none⟩ = false) :
    (Builtin.clear_ #[28] ty #[.slice (some ⟨b, o, none⟩) n c]).run Tryz.prog w = .ok (.tuple #[]) (w.setCells b o (List.replicate (n * 4) (.int .i64 0))) := by
  have hzc : (Builtin.zeroCells (Value.agg #[.int .i64 0, .int .i64 0, .int .i64 0, .int .i64 0]).cells n).toList = List.replicate (n * 4) (.int .i64 0) := by
    rw [show (Value.agg #[.int .i64 0, .int .i64 0, .int .i64 0, .int .i64 0]).cells = #[.int .i64 0, .int .i64 0, .int .i64 0, .int .i64 0] from rfl]
    apply List.ext_getElem
    · simp [Builtin.zeroCells]
    · intro i h1 h2
      have h4 : i % 4 < 4 := by omega
      simp [Builtin.zeroCells]
      generalize i % 4 = k at h4
      match k, h4 with
      | 0, _ => rfl
      | 1, _ => rfl
      | 2, _ => rfl
      | 3, _ => rfl
  have hst := run_storeCells_cells (P := Tryz.prog) b o (List.replicate (n * 4) (.int .i64 0)) 0 w (by simpa using hc) (by simpa using hf) (by intro v hv'; rw [List.eq_of_mem_replicate hv']; rfl)
  simp only [Nat.add_zero] at hst
  obtain ⟨m, rfl⟩ : ∃ m, n = m + 1 := ⟨n - 1, by omega⟩
  simp only [Builtin.clear_]
  simp [hzc, hst]
def KeepG (g : Nat) (w w' : World) : Prop := w.heap.size ≤ w'.heap.size ∧ ∀ q, q < w.heap.size → q ≠ g → w'.heap[q]? = w.heap[q]?
theorem KeepG.refl (g : Nat) (w : World) : KeepG g w w := ⟨Nat.le_refl _, fun _ _ _ => rfl⟩
theorem KeepG.below {g : Nat} {w wk wj : World} (h : KeepG g w wk) (hB : Below wk.heap.size wk wj) : KeepG g w wj := ⟨Nat.le_trans h.1 hB.size, fun q hq hne => (hB.block q (Nat.lt_of_lt_of_le hq h.1)).trans (h.2 q hq hne)⟩
theorem KeepG.set {g : Nat} {w wk : World} (h : KeepG g w wk) (j : Nat) (u : Value) : KeepG g w (wk.setCell ⟨g, j, none⟩ u) := ⟨by simpa using h.1, fun q hq hne => (Below.heap_setCell wk ⟨g, j, none⟩ u q hne).trans (h.2 q hq hne)⟩
theorem KeepG.cells {g : Nat} {w : World} : ∀ (vs : List Value) (o : Nat) (wk : World), KeepG g w wk → KeepG g w (wk.setCells g o vs)
  | [], _, _, h => h
  | v :: r, o, wk, h => by
    rw [World.setCells]
    exact KeepG.cells r (o + 1) _ (h.set o v)
theorem KeepG.set4 {g : Nat} {w wk : World} (h : KeepG g w wk) (i : Nat) (x : Hd) : KeepG g w (Go.Proofs.YtbcacebifpagpaeGreat.set4 wk g i x) := by
  unfold Go.Proofs.YtbcacebifpagpaeGreat.set4
  exact (((h.set _ _).set _ _).set _ _).set _ _
theorem KeepG.blk {g : Nat} {w w' : World} (h : KeepG g w w') {q : Nat} {t : TypeId} {m : Nat} {f : Nat → Value} (hb : Blk w q t m f) (hne : q ≠ g) : Blk w' q t m f := by
  have hlt := hb.lt
  obtain ⟨cur, h1, h2⟩ := hb
  exact ⟨cur, (h.2 q hlt hne).trans h1, h2⟩
set_option maxHeartbeats 400000 in
theorem idxH2 (f : Nat) (caps : Array Value) (bad : Hd → Bool) (A : Nat) (a : Option Addr) (n c : Nat) (w : World) (hA : A ≤ w.heap.size) (hn : n ≤ c) (hc : c ≤ maxLen) (z : Nat → Hd) (hz : HdsAt w a n z)
    (eg : ∀ args w, (callFunc f args).run Tryz.prog w = .ok (.enter f args) w)
    (hf : Hid (∀ (x : Hd) w1, Below A w w1 → Calls Tryz.prog f (#[x.val] ++ caps) w1 fun e w' => e = .returned (.bool (bad x)) ∧ Below w1.heap.size w1 w')) :
    Calls Tryz.prog 66 #[.slice a n c, .func (.func f) #[] caps] w fun e w' => ((e = .returned (.int .i64 (-1)) ∧ ∀ j, j < n → bad (z j) = false) ∨ ∃ k, k < n ∧ e = .returned (.int .i64 (k : Nat)) ∧ bad (z k) = true ∧ ∀ j, j < k → bad (z j) = false) ∧ Below w.heap.size w w' := by
  unfold maxLen at hc
  go_enter Tryz.func66, Tryz.ntmps66
  go_wp2_with fail
  go_loopw [8] (fun i w1 => ∃ k : Nat, k ≤ n ∧ i = .int .i64 k ∧ Hid (∀ j, j < k → bad (z j) = false) ∧ Below w.heap.size w w1) (fun i _ => n - (intOf i).toNat)
  case atStart => exact ⟨0, Nat.zero_le _, rfl, fun j hj => absurd hj (Nat.not_lt_zero _), Below.refl _ _⟩
  case round =>
    obtain ⟨k, hk, rfl, HN, hB⟩ := hrel
    by_cases hlt : k < n
    · obtain ⟨b, o, rfl, _, hcell0, hcell1, hcell2, hcell3⟩ := (hz.below hB) k hlt
      clear hz
      have HE : Hid (∀ j, j < k + 1 → bad (z k) = false → bad (z j) = false) := fun j hj h => by
        by_cases hjk : j = k
        · rw [hjk]; exact h
        · exact HN.out j (by omega)
      go_wp2_with fail
      refine (hf.out (z k) wr (hB.mono hA)).mono ?_
      rintro e w1 ⟨rfl, hB1⟩
      have hB2 := hB.trans (hB1.mono hB.size)
      cases hbad : bad (z k)
      · have HN2 : Hid (∀ j, j < k + 1 → bad (z j) = false) := fun j hj => HE.out j hj hbad
        clear HE HN
        go_wp2_with fail
        go_roundw
        case rel => exact ⟨k + 1, by omega, by go_num, HN2, hB2⟩
        case measure => simp [intOf]; omega
      · go_wp2_with fail
        go_ret
        exact ⟨Or.inr ⟨k, hlt, rfl, hbad, HN.out⟩, hB2⟩
    · go_wp2_with fail
      go_ret
      have hkn : k = n := by omega
      subst hkn
      exact ⟨Or.inl ⟨rfl, HN.out⟩, hB⟩
def stayH (bad : Hd → Bool) (xs : List Hd) (k : Nat) : List Hd := (xs.take k).filter (fun x => !bad x)
theorem stayH_all (bad : Hd → Bool) (xs : List Hd) : stayH bad xs xs.length = xs.filter (fun x => !bad x) := by unfold stayH; rw [List.take_length]
theorem stayH_succ {bad : Hd → Bool} {xs : List Hd} {k : Nat} (hk : k < xs.length) : stayH bad xs (k + 1) = stayH bad xs k ++ if bad (xs.getD k hd0) then [] else [xs.getD k hd0] := by
  unfold stayH
  have e : xs.getD k hd0 = xs[k] := by simp [List.getD, List.getElem?_eq_getElem hk]
  rw [List.take_add_one, List.getElem?_eq_getElem hk, List.filter_append, e]
  congr 1
  cases h : bad xs[k] <;> simp [h]
theorem stayH_full {bad : Hd → Bool} {xs : List Hd} : ∀ {k : Nat}, k ≤ xs.length → (∀ j, j < k → bad (xs.getD j hd0) = false) → stayH bad xs k = xs.take k
  | 0, _, _ => by simp [stayH]
  | k + 1, hk, h => by
    rw [stayH_succ (by omega), stayH_full (k := k) (by omega) (fun j hj => h j (by omega)), h k (by omega), List.take_add_one]
    simp [List.getD, List.getElem?_eq_getElem (show k < xs.length by omega)]
def DelAtH (g : Nat) (bad : Hd → Bool) (xs : List Hd) (k : Nat) (wk : World) : Prop := ∃ c : Nat → Hd, Blk wk g 58 (xs.length * 4) (hc c) ∧ (∀ q, q < (stayH bad xs k).length → c q = (stayH bad xs k).getD q hd0) ∧ ∀ q, k ≤ q → q < xs.length → c q = xs.getD q hd0
set_option maxRecDepth 100000 in
set_option maxHeartbeats 2000000 in
theorem DelH_any (f : Nat) (caps : Array Value) (bad : Hd → Bool) (A g cap : Nat) (xs : List Hd) (w : World) (hA : A ≤ g) (hA2 : A ≤ w.heap.size) (hn : xs.length ≤ cap) (hcap : cap ≤ maxLen) (hb : Blk w g 58 (xs.length * 4) (hc fun j => xs.getD j hd0))
    (eg : ∀ args w, (callFunc f args).run Tryz.prog w = .ok (.enter f args) w)
    (hf : Hid (∀ (x : Hd) w1, Below A w w1 → Calls Tryz.prog f (#[x.val] ++ caps) w1 fun e w' => e = .returned (.bool (bad x)) ∧ Below w1.heap.size w1 w')) :
    Calls Tryz.prog 39 #[.slice (some ⟨g, 0, none⟩) xs.length cap, .func (.func f) #[] caps] w fun e w' => e = .returned (.slice (some ⟨g, 0, none⟩) (xs.filter (fun x => !bad x)).length cap) ∧ Blk w' g 58 ((xs.filter (fun x => !bad x)).length * 4) (hc fun j => (xs.filter (fun x => !bad x)).getD j hd0) ∧ Below A w w' ∧ KeepG g w w' := by
  have hcap0 := hcap
  unfold maxLen at hcap
  have HBK : Hid (Blk w g 58 (xs.length * 4) (hc fun j => xs.getD j hd0)) := hb
  have hz : HdsAt w (some ⟨g, 0, none⟩) xs.length (fun j => xs.getD j hd0) := hb.hds
  clear hb
  go_enter Tryz.func39, Tryz.ntmps39
  go_wp2_with fail
  refine (idxH2 f caps bad A _ _ _ w hA2 hn hcap0 _ hz eg hf).mono ?_
  rintro e w1 ⟨h, hB1⟩
  clear hz
  have hBA := hB1.mono hA2
  rcases h with ⟨rfl, hno⟩ | ⟨k0, hk0, rfl, hbad, hno⟩
  · have hfil : xs.filter (fun x => !bad x) = xs := by
      have := stayH_full (bad := bad) (Nat.le_refl xs.length) hno
      rw [stayH_all, List.take_length] at this
      exact this
    have HF : Hid (xs.filter (fun x => !bad x) = xs) := hfil
    clear hfil hno
    go_wp2_with fail
    go_ret
    rw [HF.out]
    exact ⟨rfl, HBK.out.below hB1, hBA, (KeepG.refl g w).below hB1⟩
  · have hs0 : stayH bad xs (k0 + 1) = xs.take k0 := by rw [stayH_succ hk0, stayH_full (by omega) hno, hbad]; simp
    have hl0 : (stayH bad xs (k0 + 1)).length = k0 := by rw [hs0, List.length_take]; omega
    have H0 : Hid (DelAtH g bad xs (k0 + 1) w1) := ⟨_, HBK.out.below hB1, fun q hq => by
      rw [hl0] at hq
      rw [hs0]
      simp only [List.getD, List.getElem?_take, if_pos hq], fun q _ _ => rfl⟩
    have HL0 : Hid ((stayH bad xs (k0 + 1)).length = k0) := hl0
    clear hs0 hl0 hbad hno HBK
    go_wp2_with fail
    go_loopw [5, 6] (fun i j wk => ∃ k : Nat, k ≤ xs.length ∧ j = .int .i64 k ∧ i = .int .i64 ((stayH bad xs k).length : Nat) ∧ (stayH bad xs k).length < k ∧ Hid (DelAtH g bad xs k wk) ∧ Below A w wk ∧ Hid (KeepG g w wk)) (fun _ j _ => xs.length - (intOf j).toNat)
    case atStart => exact ⟨k0 + 1, by omega, by go_num, by rw [HL0.out], by rw [HL0.out]; omega, H0, hBA, (KeepG.refl g w).below hB1⟩
    case round =>
      clear H0 HL0 hBA hB1
      obtain ⟨k, hk, rfl, rfl, hlen, HD, hB, HKG⟩ := hrel
      by_cases hlt : k < xs.length
      · obtain ⟨c, hc1, hc2, hc3⟩ := HD.out
        have HB : Hid (Blk wr g 58 (xs.length * 4) (hc c) ∧ (∀ q, q < (stayH bad xs k).length → c q = (stayH bad xs k).getD q hd0) ∧ ∀ q, k ≤ q → q < xs.length → c q = xs.getD q hd0) := ⟨hc1, hc2, hc3⟩
        have HS : Hid (stayH bad xs (k + 1) = stayH bad xs k ++ if bad (xs.getD k hd0) then [] else [xs.getD k hd0]) := stayH_succ hlt
        obtain ⟨X, hX⟩ : ∃ X, xs.getD k hd0 = X := ⟨_, rfl⟩
        have HXE : Hid (xs.getD k hd0 = X) := hX
        have hcx : c k = X := by rw [hc3 k (Nat.le_refl _) hlt, hX]
        have ha := hc_at c k
        rw [hcx] at ha
        have z0 : wr.cell? ⟨g, k * 4, none⟩ = some (.int .i64 X.o) := (hc1.cell (by omega)).trans (by rw [ha.1])
        have z1 : wr.cell? ⟨g, k * 4 + 1, none⟩ = some (.int .i64 X.l) := (hc1.cell (by omega)).trans (by rw [ha.2.1])
        have z2 : wr.cell? ⟨g, k * 4 + 2, none⟩ = some (.int .i64 X.b) := (hc1.cell (by omega)).trans (by rw [ha.2.2.1])
        have z3 : wr.cell? ⟨g, k * 4 + 3, none⟩ = some (.int .i64 X.n) := (hc1.cell (by omega)).trans (by rw [ha.2.2.2])
        have zl := hc1.lt
        clear hc1 hc2 hc3 HD hX hcx ha
        obtain ⟨I, hI⟩ : ∃ I, (stayH bad xs k).length = I := ⟨_, rfl⟩
        have HIE : Hid ((stayH bad xs k).length = I) := hI
        rw [hI] at hlen ⊢
        clear hI
        obtain ⟨W, hW, hWB, KX⟩ : ∃ W, wr.alloc (.cells #[.int .i64 X.o, .int .i64 X.l, .int .i64 X.b, .int .i64 X.n] 58) = W ∧ Below wr.heap.size wr W ∧ Blk W wr.heap.size 58 4 (fun j => (#[.int .i64 X.o, .int .i64 X.l, .int .i64 X.b, .int .i64 X.n] : Array Value).getD j default) := ⟨_, rfl, (Below.refl _ _).alloc (Nat.le_refl _) _, Blk.mk' rfl rfl⟩
        have HW : Hid (wr.alloc (.cells #[.int .i64 X.o, .int .i64 X.l, .int .i64 X.b, .int .i64 X.n] 58) = W) := hW
        have hBW := hB.trans (hWB.mono (Nat.le_trans hA2 hB.size))
        have HB : Hid (Blk W g 58 (xs.length * 4) (hc c) ∧ (∀ q, q < (stayH bad xs k).length → c q = (stayH bad xs k).getD q hd0) ∧ ∀ q, k ≤ q → q < xs.length → c q = xs.getD q hd0) := ⟨HB.out.1.below hWB, HB.out.2⟩
        have HKG : Hid (KeepG g w W) := HKG.out.below hWB
        clear hW hWB
        go_wp2_with fail
        rw [HW.out]
        refine (hf.out X W hBW).mono ?_
        rintro e w2 ⟨rfl, hB2⟩
        have hB3 := hBW.trans (hB2.mono (Nat.le_trans hA2 hBW.size))
        have HKG : Hid (KeepG g w w2) := HKG.out.below hB2
        have kb := HB.out.1.below hB2
        have KX2 := KX.below hB2
        have xl := KX2.lt
        have x0 : w2.cell? ⟨wr.heap.size, 0, none⟩ = some (.int .i64 X.o) := KX2.cell (j := 0) (by decide)
        have x1 : w2.cell? ⟨wr.heap.size, 1, none⟩ = some (.int .i64 X.l) := KX2.cell (j := 1) (by decide)
        have x2 : w2.cell? ⟨wr.heap.size, 2, none⟩ = some (.int .i64 X.b) := KX2.cell (j := 2) (by decide)
        have x3 : w2.cell? ⟨wr.heap.size, 3, none⟩ = some (.int .i64 X.n) := KX2.cell (j := 3) (by decide)
        clear z0 z1 z2 z3 zl KX KX2 HW hB hBW hB2
        generalize wr.heap.size = BX at *
        cases hbd : bad X
        · have y0 := kb.cell (j := I * 4) (by omega)
          have y1 := kb.cell (j := I * 4 + 1) (by omega)
          have y2 := kb.cell (j := I * 4 + 2) (by omega)
          have y3 := kb.cell (j := I * 4 + 3) (by omega)
          have f0 := kb.frozen (I * 4)
          have f1 := kb.frozen (I * 4 + 1)
          have f2 := kb.frozen (I * 4 + 2)
          have f3 := kb.frozen (I * 4 + 3)
          have yl := kb.lt
          generalize hc c (I * 4) = V0 at y0
          generalize hc c (I * 4 + 1) = V1 at y1
          generalize hc c (I * 4 + 2) = V2 at y2
          generalize hc c (I * 4 + 3) = V3 at y3
          have KB := kb.set4 I X
          have HN : Hid (DelAtH g bad xs (k + 1) (set4 w2 g I X) ∧ Below A w (set4 w2 g I X) ∧ (stayH bad xs (k + 1)).length = I + 1 ∧ KeepG g w (set4 w2 g I X)) := by
            have e1 : stayH bad xs (k + 1) = stayH bad xs k ++ [X] := by rw [HS.out, HXE.out, hbd]; rfl
            have e2 : (stayH bad xs (k + 1)).length = I + 1 := by rw [e1, List.length_append, HIE.out]; rfl
            refine ⟨⟨_, KB, fun q hq => ?_, fun q hq hq2 => ?_⟩, below_set4 hA hB3 I X, e2, HKG.out.set4 I X⟩
            · rw [e2] at hq
              show (if q = I then X else c q) = _
              rw [e1]
              by_cases hqi : q = I
              · rw [if_pos hqi]
                simp only [List.getD]
                rw [List.getElem?_append_right (by rw [HIE.out]; omega), HIE.out, hqi]
                simp
              · rw [if_neg hqi, HB.out.2.1 q (by rw [HIE.out]; omega)]
                simp only [List.getD]
                rw [List.getElem?_append_left (by rw [HIE.out]; omega)]
            · show (if q = I then X else c q) = _
              rw [if_neg (by omega), HB.out.2.2 q (by omega) hq2]
          clear kb KB HB HS
          go_wp2_with fail
          go_roundw
          case rel => exact ⟨_, _, _, _, _, _, _, _, _, _, _, _, _, _, _, _, _, _, _, _, _, _, _, ⟨k + 1, by omega, by go_num, by rw [HN.out.2.2.1]; go_num, by rw [HN.out.2.2.1]; omega, HN.out.1, HN.out.2.1, HN.out.2.2.2⟩, rfl⟩
          case measure => simp [intOf]; omega
        · have HN : Hid (DelAtH g bad xs (k + 1) w2 ∧ (stayH bad xs (k + 1)).length = I) := by
            have e1 : stayH bad xs (k + 1) = stayH bad xs k := by rw [HS.out, HXE.out, hbd]; simp
            rw [e1]
            exact ⟨⟨c, kb, by rw [e1]; exact HB.out.2.1, fun q hq hq2 => HB.out.2.2 q (by omega) hq2⟩, HIE.out⟩
          clear kb HB HS
          go_wp2_with fail
          go_roundw
          case rel => exact ⟨_, _, _, _, _, _, _, _, _, _, _, _, _, _, _, _, _, _, _, _, _, _, _, ⟨k + 1, by omega, by go_num, by rw [HN.out.2], by rw [HN.out.2]; omega, HN.out.1, hB3, HKG⟩, rfl⟩
          case measure => simp [intOf]; omega
      · have hkn : k = xs.length := by omega
        subst hkn
        obtain ⟨c, hc1, hc2, hc3⟩ := HD.out
        rw [stayH_all] at hlen hc2 ⊢
        obtain ⟨I, hI⟩ : ∃ I, (xs.filter (fun x => !bad x)).length = I := ⟨_, rfl⟩
        have HI : Hid ((xs.filter (fun x => !bad x)).length = I) := hI
        rw [hI] at hlen hc2 ⊢
        clear hI
        obtain ⟨N, hN⟩ : ∃ N, xs.length = N := ⟨_, rfl⟩
        have HNE : Hid (xs.length = N) := hN
        rw [hN] at hlen hn hc1 ⊢
        clear hN hc3 hlt hk HD
        have hci : ¬ cap = I := by omega
        have hcl : ∀ ty, (Builtin.clear_ #[28] ty #[.slice (some ⟨g, I * 4, none⟩) (N - I) (cap - I)]).run Tryz.prog wr = .ok (.tuple #[]) (wr.setCells g (I * 4) (List.replicate ((N - I) * 4) (.int .i64 0))) := fun ty =>
          run_clear4 wr ty g (I * 4) (N - I) (cap - I) (by omega) (fun j hj => by rw [hc1.cell (by omega)]; rfl) (fun j _ => hc1.frozen _)
        have HEND : Hid (Blk (wr.setCells g (I * 4) (List.replicate ((N - I) * 4) (.int .i64 0))) g 58 (I * 4) (hc fun j => (xs.filter (fun x => !bad x)).getD j hd0) ∧ Below A w (wr.setCells g (I * 4) (List.replicate ((N - I) * 4) (.int .i64 0))) ∧ KeepG g w (wr.setCells g (I * 4) (List.replicate ((N - I) * 4) (.int .i64 0)))) :=
          ⟨Blk.setCells _ _ _ ((hc1.less (by omega)).congr fun j hj => by unfold hc; rw [hc2 (j / 4) (by omega)]) (Nat.le_refl _), below_cells hA _ _ _ hB, HKG.out.cells _ _ _⟩
        clear hc1 hc2
        go_wp2_with fail
        go_ret
        rw [HI.out]
        exact ⟨rfl, HEND.out⟩
end Go.Proofs.YtbcacebifpagpaeGreat
namespace Go.Proofs.YtbcacebifpagpaeGreat
open Go.RowKit Go.Shelf Go.Sort
set_option linter.unusedVariables false
def kindO (os : Os) (o : Nat) (v : Int) : Os := ⟨os.a, os.n, os.c, fun i => if i = o then ⟨v, (os.z i).ls⟩ else os.z i⟩
def kindS (s : St) (o : Nat) (v : Int) : St := ⟨s.on, kindO s.os o v, s.hs, s.ms, s.si, s.so, s.sf⟩
theorem kindO_ls (os : Os) (o : Nat) (v : Int) (i : Nat) : ((kindO os o v).z i).ls = (os.z i).ls := by
  show (if i = o then (⟨v, (os.z i).ls⟩ : Od) else os.z i).ls = _
  by_cases h : i = o
  · rw [if_pos h]
  · rw [if_neg h]
theorem OwnO.kind {A : Nat} {w : World} {s : Os} {o g : Nat} (h : OwnO A w s) (ho : o < s.n) (ha : s.a = some ⟨g, 0, none⟩) (v : Int) : OwnO A (w.setCell ⟨g, o * 2, none⟩ (.int .i64 v)) (kindO s o v) := by
  obtain ⟨g', ha', hA, hb⟩ := h.list (by omega)
  rw [ha] at ha'
  simp only [Option.some.injEq, Addr.mk.injEq, and_true] at ha'
  subst ha'
  refine ⟨h.le, h.cap, fun hn => ⟨g, ha, hA, (hb.set (o * 2) (.int .i64 v)).congr fun q hq => ?_⟩, fun i hi => ?_, fun i j hij hj => by rw [kindO_ls, kindO_ls]; exact h.apart i j hij hj, h.room.set _ _ _⟩
  · have hd : q = q / 2 * 2 + q % 2 := by omega
    have hi : q / 2 < s.n := by omega
    have hm : q % 2 < 2 := by omega
    have e1 := flatO_at (z := s.z) hi hm
    have e2 := flatO_at (z := (kindO s o v).z) hi hm
    rw [← hd] at e1 e2
    show (if q = o * 2 then Value.int .i64 v else (flatO s.n s.z).getD q default) = (flatO s.n (kindO s o v).z).getD q default
    rw [e1, e2]
    show _ = (odCells (if q / 2 = o then (⟨v, (s.z (q / 2)).ls⟩ : Od) else s.z (q / 2))).getD (q % 2) default
    by_cases hj : q / 2 = o
    · rw [if_pos hj]
      have hm2 : q % 2 = 0 ∨ q % 2 = 1 := by omega
      rcases hm2 with hm2 | hm2
      · rw [if_pos (by omega), hm2]; rfl
      · rw [if_neg (by omega), hm2]; rfl
    · rw [if_neg hj, if_neg (by omega)]
  · rw [kindO_ls]
    obtain ⟨C, a1, a2, a3, a4, a5⟩ := h.lines i hi
    exact ⟨C, a1, a2, a3, a4, a5.other (a := ⟨g, o * 2, none⟩) (Blk.ne2 a5 hb (by decide)) _⟩
theorem OwnS.kind {A : Nat} {w : World} {s : St} {o g : Nat} (h : OwnS A w s) (ho : o < s.os.n) (ha : s.os.a = some ⟨g, 0, none⟩) (v : Int) : OwnS A (w.setCell ⟨g, o * 2, none⟩ (.int .i64 v)) (kindS s o v) := by
  obtain ⟨g', ha', hA, hb⟩ := h.os.list (by omega)
  rw [ha] at ha'
  simp only [Option.some.injEq, Addr.mk.injEq, and_true] at ha'
  subst ha'
  refine ⟨?_, fun i hi => (h.rows i hi).other hb (by decide) _ _, h.rapart, h.os.kind ho ha v, h.hs.other hb (by decide) _ _, h.ms.other hb (by decide) _ _, h.msr.set _ _ _, h.si.other hb (by decide) _ _, h.so.other hb (by decide) _ _, h.sf.other hb (by decide) _ _, h.aio, h.aif, h.aof, h.ari⟩
  obtain ⟨q, a0, a1, a2, a3, a4⟩ := h.on
  exact ⟨q, a0, a1, a2, a3, a4.other (a := ⟨g, o * 2, none⟩) (Blk.ne2 a4 hb (by decide)) _⟩
end Go.Proofs.YtbcacebifpagpaeGreat
namespace Go.Proofs.YtbcacebifpagpaeGreat
open Go.RowKit Go.Shelf Go.Sort
set_option linter.unusedVariables false
def listH (h : Hs) : List Hd := (List.range h.n).map h.z
theorem listH_len (h : Hs) : (listH h).length = h.n := by simp [listH]
theorem listH_at {h : Hs} {j : Nat} (hj : j < h.n) : (listH h).getD j hd0 = h.z j := by
  unfold listH
  simp [List.getD, hj]
def dropH (h : Hs) (bad : Hd → Bool) : Hs := ⟨h.a, ((listH h).filter (fun x => !bad x)).length, h.c, fun j => ((listH h).filter (fun x => !bad x)).getD j hd0⟩
theorem dropH_le (h : Hs) (bad : Hd → Bool) : (dropH h bad).n ≤ h.n := by
  have := List.length_filter_le (fun x => !bad x) (listH h)
  rw [listH_len] at this
  exact this
theorem OwnI.keepG {A g n : Nat} {w w' : World} {r : Rw} {f : Nat → Value} (h : OwnI A w r) (hg : Blk w g 58 n f) (K : KeepG g w w') : OwnI A w' r := by
  obtain ⟨q, ha, h0, h1, h2, hb⟩ := h
  exact ⟨q, ha, h0, h1, h2, K.blk hb (Blk.ne2 hb hg (by decide))⟩
theorem OwnH.keepG {A g n : Nat} {t : TypeId} {w w' : World} {s : Hs} {f : Nat → Value} (h : OwnH A t w s) (hg : Blk w g 58 n f) (hne : t ≠ 58) (K : KeepG g w w') : OwnH A t w' s := by
  obtain ⟨h1, h2, h3, h4⟩ := h
  refine ⟨h1, h2, h3, fun hn => ?_⟩
  obtain ⟨q, ha, hA, hb⟩ := h4 hn
  exact ⟨q, ha, hA, K.blk hb (Blk.ne2 hb hg hne)⟩
theorem Room.keepG {A g n : Nat} {t : TypeId} {w w' : World} {sz c : Nat} {a : Option Addr} {f : Nat → Value} (h : Room A w t sz a c) (hg : Blk w g 58 n f) (hne : t ≠ 58) (K : KeepG g w w') : Room A w' t sz a c := by
  refine h.same fun q cur hq => K.2 q (Array.getElem?_eq_some_iff.1 hq).1 fun e => ?_
  obtain ⟨c2, h1, _⟩ := hg
  rw [e, h1] at hq
  cases hq
  exact hne rfl
theorem OwnO.keepG {A g n : Nat} {w w' : World} {s : Os} {f : Nat → Value} (h : OwnO A w s) (hg : Blk w g 58 n f) (K : KeepG g w w') : OwnO A w' s := by
  refine ⟨h.le, h.cap, fun hn => ?_, fun i hi => ?_, h.apart, h.room.keepG hg (by decide) K⟩
  · obtain ⟨q, a1, a2, a3⟩ := h.list hn
    exact ⟨q, a1, a2, K.blk a3 (Blk.ne2 a3 hg (by decide))⟩
  · obtain ⟨C, a1, a2, a3, a4, a5⟩ := h.lines i hi
    exact ⟨C, a1, a2, a3, a4, K.blk a5 (Blk.ne2 a5 hg (by decide))⟩
theorem OwnS.keepG {A g n : Nat} {w w' : World} {s : St} {h : Hs} {f : Nat → Value} (k : OwnS A w s) (hg : Blk w g 58 n f) (K : KeepG g w w') (hh : OwnH A 58 w' h) : OwnS A w' (Go.Proofs.YtbcacebifpagpaeGreat.withHolds s h) := by
  refine ⟨?_, fun i hi => (k.rows i hi).keepG hg K, k.rapart, k.os.keepG hg K, hh, k.ms.keepG hg (by decide) K, k.msr.keepG hg (by decide) K, k.si.keepG hg K, k.so.keepG hg K, k.sf.keepG hg K, k.aio, k.aif, k.aof, k.ari⟩
  obtain ⟨q, a0, a1, a2, a3, a4⟩ := k.on
  exact ⟨q, a0, a1, a2, a3, K.blk a4 (Blk.ne2 a4 hg (by decide))⟩
set_option maxRecDepth 100000 in
set_option maxHeartbeats 1000000 in
theorem DelH_nil (f : Nat) (caps : Array Value) (bad : Hd → Bool) (a : Option Addr) (cap : Nat) (w : World) (hcap : cap ≤ maxLen)
    (eg : ∀ args w, (callFunc f args).run Tryz.prog w = .ok (.enter f args) w)
    (hf : Hid (∀ (x : Hd) w1, Below w.heap.size w w1 → Calls Tryz.prog f (#[x.val] ++ caps) w1 fun e w' => e = .returned (.bool (bad x)) ∧ Below w1.heap.size w1 w')) :
    Calls Tryz.prog 39 #[.slice a (0 : Nat) cap, .func (.func f) #[] caps] w fun e w' => e = .returned (.slice a (0 : Nat) cap) ∧ Below w.heap.size w w' := by
  have hcap0 := hcap
  unfold maxLen at hcap
  go_enter Tryz.func39, Tryz.ntmps39
  go_wp2_with fail
  refine (idxH2 f caps bad w.heap.size a 0 cap w (Nat.le_refl _) (Nat.zero_le _) hcap0 (fun _ => hd0) (fun i hi => absurd hi (Nat.not_lt_zero _)) eg hf).mono ?_
  rintro e w1 ⟨h, hB1⟩
  rcases h with ⟨rfl, -⟩ | ⟨k0, hk0, -⟩
  · go_wp2_with fail
    go_ret
    exact ⟨rfl, hB1⟩
  · exact absurd hk0 (Nat.not_lt_zero _)
end Go.Proofs.YtbcacebifpagpaeGreat
namespace Go.Proofs.YtbcacebifpagpaeGreat
open Go.RowKit
set_option linter.unusedVariables false
theorem listOf_len (n : Nat) (L : List Hd) (h : n = L.length) : (List.range n).map (fun j => L.getD j hd0) = L := by
  subst h
  apply List.ext_getElem
  · simp
  · intro i h1 h2
    simp [List.getD, h2]
theorem dropH_list (h : Hs) (bad : Hd → Bool) : listH (dropH h bad) = (listH h).filter (fun x => !bad x) := listOf_len _ _ rfl
theorem dropH_right' {h : Hs} {bad : Hd → Bool} (hk : ∀ i j, i < j → j < h.n → keyH (h.z i) < keyH (h.z j)) (hf : ∀ i, i < h.n → bad (h.z i) = false → fineH (h.z i) = true) : anyB (dropH h bad).n (badH (dropH h bad).z) = false := by
  have pw : (listH h).Pairwise (fun x y => keyH x < keyH y) := by
    rw [List.pairwise_iff_getElem]
    intro i j hi hj hij
    have hj' : j < h.n := by rw [listH_len] at hj; exact hj
    have e1 : (listH h)[i] = h.z i := by simp [listH]
    have e2 : (listH h)[j] = h.z j := by simp [listH]
    rw [e1, e2]
    exact hk i j hij hj'
  have pf := pw.filter (fun x => !bad x)
  have at' : ∀ i (hi : i < ((listH h).filter (fun x => !bad x)).length), (dropH h bad).z i = ((listH h).filter (fun x => !bad x))[i] := fun i hi => by
    show ((listH h).filter (fun x => !bad x)).getD i hd0 = _
    rw [List.getD_eq_getElem?_getD, List.getElem?_eq_getElem hi]
    rfl
  refine right_mk (fun i hi => ?_) fun i hi => ?_
  · rw [at' i hi]
    have hm := List.getElem_mem hi
    rw [List.mem_filter] at hm
    obtain ⟨h1, h2⟩ := hm
    obtain ⟨k, k1, k2⟩ : ∃ k, k ∈ List.range h.n ∧ h.z k = ((listH h).filter (fun x => !bad x))[i] := List.mem_map.1 h1
    have h2' : bad (((listH h).filter (fun x => !bad x))[i]) = false := by simpa using h2
    rw [← k2] at h2' ⊢
    exact hf k (List.mem_range.1 k1) h2'
  · have hi' : i + 1 < ((listH h).filter (fun x => !bad x)).length := hi
    rw [at' i (by omega), at' (i + 1) hi']
    rw [List.pairwise_iff_getElem] at pf
    exact pf i (i + 1) (by omega) hi' (by omega)
theorem drop_right {n p : Nat} {z : Nat → Hd} (hr : anyB n (badH z) = false) (hp : p < n) : anyB (n - 1) (badH (dropZ z p)) = false := by
  refine right_mk (fun i hi => ?_) fun i hi => ?_
  · unfold dropZ
    split
    · exact right_fine hr i (by omega)
    · exact right_fine hr (i + 1) (by omega)
  · unfold dropZ
    by_cases h1 : i + 1 < p
    · rw [if_pos (by omega), if_pos h1]
      exact right_lt hr _ _ (by omega) (by omega)
    · rw [if_neg h1]
      split
      · exact right_lt hr _ _ (by omega) (by omega)
      · exact right_lt hr _ _ (by omega) (by omega)
theorem drop_kept {n p : Nat} {z : Nat → Hd} (hr : anyB n (badH z) = false) (hp : p < n) (o l b : Int) : keptV (n - 1) (dropZ z p) o l b = if matchH (z p) o l b then 0 else keptV n z o l b := by
  have ry := drop_right hr hp
  cases hm : matchH (z p) o l b
  · rw [if_neg (by decide)]
    rcases keptV_cases n z o l b with h | ⟨k, hk, h1, h2⟩
    · rw [keptV_none h, keptV_none fun j hj => ?_]
      unfold dropZ
      split
      · exact h j (by omega)
      · exact h (j + 1) (by omega)
    · have hkp : ¬ k = p := fun e => by rw [e, hm] at h2; exact absurd h2 (by decide)
      rw [(kept_at hr hk h2).1]
      by_cases hlt : k < p
      · have e : dropZ z p k = z k := if_pos hlt
        rw [(kept_at ry (k := k) (by omega) (by rw [e]; exact h2)).1, e]
      · have e : dropZ z p (k - 1) = z k := by
          unfold dropZ
          rw [if_neg (by omega), show k - 1 + 1 = k by omega]
        rw [(kept_at ry (k := k - 1) (by omega) (by rw [e]; exact h2)).1, e]
  · rw [if_pos rfl]
    refine keptV_none fun j hj => ?_
    cases hq : matchH (dropZ z p j) o l b
    · rfl
    · have e := matchH_key hq hm
      unfold dropZ at e
      split at e
      · have := right_lt hr j p (by omega) hp
        omega
      · have := right_lt hr p (j + 1) (by omega) (by omega)
        omega
end Go.Proofs.YtbcacebifpagpaeGreat
namespace Go.Proofs.YtbcacebifpagpaeGreat
open Go.RowKit
set_option linter.unusedVariables false
def relOd (k : Nat) (i : Nat) (o : Od) : Od := if i < k ∧ o.k = 0 then ⟨1, lackL o.ls o.ls.n⟩ else o
def relO (s : St) (k : Nat) : St := ⟨s.on, ⟨s.os.a, s.os.n, s.os.c, fun i => relOd k i (s.os.z i)⟩, s.hs, s.ms, s.si, s.so, s.sf⟩
theorem relOd_n (k i : Nat) (o : Od) : (relOd k i o).ls.n = o.ls.n := by
  unfold relOd
  split <;> rfl
theorem relOd_line (k i : Nat) (o : Od) (j : Nat) : ((relOd k i o).ls.z j).o = (o.ls.z j).o ∧ ((relOd k i o).ls.z j).l = (o.ls.z j).l ∧ ((relOd k i o).ls.z j).b = (o.ls.z j).b := by
  unfold relOd
  split
  · show ((if j < o.ls.n then lackH (o.ls.z j) else o.ls.z j).o = _) ∧ ((if j < o.ls.n then lackH (o.ls.z j) else o.ls.z j).l = _) ∧ ((if j < o.ls.n then lackH (o.ls.z j) else o.ls.z j).b = _)
    split <;> exact ⟨rfl, rfl, rfl⟩
  · exact ⟨rfl, rfl, rfl⟩
theorem rel_line {p : Pl} {s : St} (r : RightT p s) {k i j : Nat} (hi : i < s.os.n) (hj : j < (s.os.z i).ls.n) (c : i < k ∧ (s.os.z i).k = 0) : (relOd k i (s.os.z i)).k = 1 ∧ ((s.os.z i).ls.z j).b = 0 ∧ ((s.os.z i).ls.z j).n = 0 ∧ keptS s.hs.z i j s.hs.n = 0 ∧ ((relOd k i (s.os.z i)).ls.z j).n = ((s.os.z i).ls.z j).l := by
  have w := r.orders i hi
  unfold wrongOrder at w
  rw [Bool.or_eq_false_iff] at w
  have wl : wrongL (s.os.z i).k ((s.os.z i).ls.z j) (keptS s.hs.z i j s.hs.n) = false := anyB_false w.2 j hj
  unfold wrongL at wl
  rw [if_pos c.2] at wl
  simp only [Bool.or_eq_false_iff, Bool.not_eq_false', beq_iff_eq] at wl
  unfold relOd
  rw [if_pos c]
  refine ⟨rfl, wl.1.1, wl.1.2, wl.2, ?_⟩
  show (if j < (s.os.z i).ls.n then lackH ((s.os.z i).ls.z j) else (s.os.z i).ls.z j).n = _
  rw [if_pos hj]
  show ((s.os.z i).ls.z j).l - ((s.os.z i).ls.z j).b = _
  omega
theorem rel_formed {p : Pl} {s : St} (r : RightT p s) (k : Nat) : Formed p (relO s k) := by
  have f := r.fm
  refine ⟨f.sh, f.sh0, f.os4, f.ms8, fun i hi => ?_, fun i hi => ?_, fun i hi j hj => ?_, f.hold, fun i hi => ?_, f.move, f.sin, f.son, f.sfn, f.sib, f.sob, f.sfb⟩
  · show 1 ≤ (relOd k i (s.os.z i)).ls.n ∧ (relOd k i (s.os.z i)).ls.n ≤ 3
    rw [relOd_n]
    exact f.lns i hi
  · show 0 ≤ (relOd k i (s.os.z i)).k ∧ (relOd k i (s.os.z i)).k ≤ 2
    unfold relOd
    split
    · exact ⟨(by decide : (0 : Int) ≤ 1), (by decide : (1 : Int) ≤ 2)⟩
    · exact f.kind i hi
  · show badLine p ((relOd k i (s.os.z i)).ls.z j) = false
    have hj' : j < (s.os.z i).ls.n := by rw [← relOd_n k i]; exact hj
    by_cases c : i < k ∧ (s.os.z i).k = 0
    · have e := rel_line r hi hj' c
      have g := relOd_line k i (s.os.z i) j
      obtain ⟨b1, b2, b3, b4⟩ := badLine_no (f.line i hi j hj')
      unfold badLine
      rw [inB_mk (by omega), inB_mk (by omega), inB_mk (by omega), inB_mk (by omega)]
      rfl
    · unfold relOd
      rw [if_neg c]
      exact f.line i hi j hj'
  · have h := homeless_no (f.home i hi)
    refine homeless_mk h.1 ⟨h.2.1.1, ?_⟩ h.2.2
    show _ < (relOd k _ (s.os.z _)).ls.n
    rw [relOd_n]
    exact h.2.1.2
theorem rel_avail (s : St) (k b g : Nat) : availZ (relO s k) b g = availZ s b g := by
  unfold availZ
  rw [heldTo_eq (x := relO s k) (s := s) (fun j _ => rfl) (fun j _ => (relOd_line k _ _ _).1)]
  rw [fromTo_eq (x := relO s k) (s := s) (fun j _ => rfl)]
  rfl
theorem rel_right {p : Pl} {s : St} (r : RightT p s) (k : Nat) : RightT p (relO s k) := by
  refine ⟨rel_formed r k, fun g hg => ?_, fun i hi => ?_⟩
  · obtain ⟨a1, a2⟩ := goods_no (r.goods g hg)
    exact goods_mk a1 fun b hb => by rw [rel_avail]; exact a2 b hb
  · have hi' : i < s.os.n := hi
    by_cases c : i < k ∧ (s.os.z i).k = 0
    · have l1 := (r.fm.lns i hi').1
      have e0 := rel_line r hi' (j := 0) (by omega) c
      unfold wrongOrder
      rw [Bool.or_eq_false_iff]
      constructor
      · have : anyB ((relO s k).os.z i).ls.n (fun j => lacksL (((relO s k).os.z i).ls.z j)) = true := by
          refine anyB_yes (k := 0) ?_ ?_
          · show 0 < (relOd k i (s.os.z i)).ls.n
            rw [relOd_n]
            omega
          · show lacksL ((relOd k i (s.os.z i)).ls.z 0) = true
            have g := relOd_line k i (s.os.z i) 0
            obtain ⟨b1, b2, b3, b4⟩ := badLine_no (r.fm.line i hi' 0 (by omega))
            unfold lacksL
            rw [Bool.not_eq_true', beq_eq_false_iff_ne]
            omega
        rw [this]
        simp
      · refine anyB_no fun j hj => ?_
        have hj' : j < (s.os.z i).ls.n := by rw [← relOd_n k i]; exact hj
        have e := rel_line r hi' hj' c
        have g := relOd_line k i (s.os.z i) j
        show wrongL (relOd k i (s.os.z i)).k ((relOd k i (s.os.z i)).ls.z j) (keptS s.hs.z i j s.hs.n) = false
        unfold wrongL
        rw [e.1, if_neg (by decide), if_neg (by decide), Bool.not_eq_false', beq_iff_eq]
        omega
    · have e : (relO s k).os.z i = s.os.z i := if_neg c
      have w := r.orders i hi'
      unfold wrongOrder at w ⊢
      rw [e]
      exact w
def relQ (s : St) (a b : Nat) : Int := if ((relO s s.os.n).os.z a).k = 1 then (((relO s s.os.n).os.z a).ls.z b).n else 0
def relM (s : St) (a : Nat) : Nat := (s.os.z a).ls.n
def Released (p : Pl) (s x : St) : Prop := TkAll p (-1) (relQ s) (relM s) (relO s s.os.n) s.os.n x
def RelOK (p : Pl) (s x : St) : Prop := (stateE p s = 0 → Released p s x) ∧ (¬ stateE p s = 0 → NoneS x)
theorem rel_qin {p : Pl} {s : St} (r : RightT p s) : QIn p (-1) (relQ s) (relO s s.os.n) := by
  have rr := rel_right r s.os.n
  refine ⟨rr, fun a b ha hb => ?_, Or.inl rfl⟩
  unfold relQ
  have q := right_line rr ha hb
  by_cases h : ((relO s s.os.n).os.z a).k = 1
  · rw [if_pos h]
    exact ⟨q.1, Or.inr ⟨h, Int.le_refl _⟩⟩
  · rw [if_neg h]
    exact ⟨Int.le_refl _, Or.inl rfl⟩
theorem relM_eq (s : St) (a : Nat) : relM s a = ((relO s s.os.n).os.z a).ls.n := (relOd_n _ _ _).symm
theorem Released.pos {p : Pl} {s x : St} (r : RightT p s) (h : Released p s x) : Pos p (-1) (relQ s) (relO s s.os.n) s.os.n 0 x := TkAll.pos (rel_qin r) (fun a _ => relM_eq s a) (Nat.le_refl _) h
theorem Released.same {p : Pl} {s x y : St} (r : RightT p s) (h : Released p s x) (k : Released p s y) : SameT x y := TkAll.same (rel_qin r) (fun a _ => relM_eq s a) (Nat.le_refl _) k h
theorem RelOK.same {p : Pl} {s x y : St} (a : RelOK p s x) (b : RelOK p s y) : SameT x y := by
  by_cases h : stateE p s = 0
  · exact (a.1 h).same (rightT h) (b.1 h)
  · exact none_same2 (a.2 h) (b.2 h)
theorem RightT.bound {p : Pl} {s : St} (r : RightT p s) : s.os.n ≤ 1000 ∧ s.ms.n ≤ 1000 ∧ ∀ i, i < s.os.n → (s.os.z i).ls.n ≤ 1000 :=
  ⟨Nat.le_trans r.fm.os4 (by decide), Nat.le_trans r.fm.ms8 (by decide), fun i hi => Nat.le_trans (r.fm.lns i hi).2 (by decide)⟩
end Go.Proofs.YtbcacebifpagpaeGreat
namespace Go.Proofs.YtbcacebifpagpaeGreat
open Go.RowKit
set_option linter.unusedVariables false
def revL (z : Nat → Hd) : Nat → List Hd
  | 0 => []
  | k + 1 => z k :: revL z k
def lessN (z : Nat → Hd) (i : Nat) (d : Int) (j : Nat) : Hd := if j = i then lessL (z j) d else z j
def cutI (f : Hd → Bool) : Nat → Int → (Nat → Hd) → Nat → Hd
  | 0, _, z => z
  | i + 1, m, z => if f (z i) then cutI f i (m - min m (z i).n) (lessN z i (min m (z i).n)) else cutI f i m z
def cutL (f : Hd → Bool) : Int → List Hd → List Hd
  | _, [] => []
  | m, h :: R => if f h then lessL h (min m h.n) :: cutL f (m - min m h.n) R else h :: cutL f m R
def cutQ (f : Hd → Bool) : Int → List Hd → Int → Int → Int
  | _, [], _, _ => 0
  | m, h :: R, o, l => if f h then (if h.o = o ∧ h.l = l then min m h.n else 0) + cutQ f (m - min m h.n) R o l else cutQ f m R o l
def leftL (f : Hd → Bool) : Int → List Hd → Int
  | m, [] => m
  | m, h :: R => if f h then leftL f (m - min m h.n) R else leftL f m R
def sumB (P : Hd → Bool) : List Hd → Int
  | [] => 0
  | h :: R => sumB P R + if P h then h.n else 0
def goneH (x : Hd) : Bool := x.n == 0
def flt (L : List Hd) : List Hd := L.filter (fun x => !goneH x)
def oneL (f : Hd → Bool) : List Hd → List Hd
  | [] => []
  | h :: R => if f h then (if h.n = 1 then R else lessL h 1 :: R) else h :: oneL f R
def lastI (f : Hd → Bool) (z : Nat → Hd) : Nat → Option Nat
  | 0 => none
  | k + 1 => if f (z k) then some k else lastI f z k
theorem revL_list (z : Nat → Hd) : ∀ n, revL z n = ((List.range n).map z).reverse
  | 0 => rfl
  | n + 1 => by rw [List.range_succ, List.map_append, List.reverse_append, ← revL_list z n]; rfl
theorem revL_len (z : Nat → Hd) : ∀ n, (revL z n).length = n
  | 0 => rfl
  | n + 1 => by show (revL z n).length + 1 = _; rw [revL_len z n]
theorem revL_congr {z z' : Nat → Hd} : ∀ {n : Nat}, (∀ j, j < n → z j = z' j) → revL z n = revL z' n
  | 0, _ => rfl
  | n + 1, h => by show z n :: revL z n = z' n :: revL z' n; rw [h n (by omega), revL_congr fun j hj => h j (by omega)]
theorem revL_at {z z' : Nat → Hd} : ∀ {n : Nat}, revL z n = revL z' n → ∀ j, j < n → z j = z' j
  | 0, _, j, hj => absurd hj (by omega)
  | n + 1, h, j, hj => by
    have h' : z n :: revL z n = z' n :: revL z' n := h
    rw [List.cons.injEq] at h'
    by_cases e : j = n
    · rw [e]; exact h'.1
    · exact revL_at h'.2 j (by omega)
theorem revL_inj {z z' : Nat → Hd} {n n' : Nat} (h : revL z n = revL z' n') : n = n' ∧ ∀ j, j < n → z j = z' j := by
  have e : n = n' := by rw [← revL_len z n, h, revL_len]
  subst e
  exact ⟨rfl, revL_at h⟩
theorem revL_mem {z : Nat → Hd} : ∀ {n : Nat} {x : Hd}, x ∈ revL z n → ∃ j, j < n ∧ z j = x
  | 0, x, h => by cases h
  | n + 1, x, h => by
    rcases List.mem_cons.1 h with e | e
    · exact ⟨n, by omega, e.symm⟩
    · obtain ⟨j, hj, e⟩ := revL_mem e
      exact ⟨j, by omega, e⟩
theorem revL_has {z : Nat → Hd} : ∀ {n j : Nat}, j < n → z j ∈ revL z n
  | n + 1, j, h => by
    by_cases e : j = n
    · rw [e]; exact List.mem_cons_self
    · exact List.mem_cons_of_mem _ (revL_has (by omega))
theorem cutI_ge (f : Hd → Bool) : ∀ (i : Nat) (m : Int) (z : Nat → Hd) (k : Nat), i ≤ k → cutI f i m z k = z k
  | 0, _, _, _, _ => rfl
  | i + 1, m, z, k, h => by
    show (if f (z i) then cutI f i (m - min m (z i).n) (lessN z i (min m (z i).n)) else cutI f i m z) k = z k
    split
    · rw [cutI_ge f i _ _ k (by omega)]
      exact if_neg (by omega)
    · exact cutI_ge f i _ _ k (by omega)
theorem cutI_rev (f : Hd → Bool) : ∀ (i : Nat) (m : Int) (z : Nat → Hd), revL (cutI f i m z) i = cutL f m (revL z i)
  | 0, _, _ => rfl
  | i + 1, m, z => by
    show cutI f (i + 1) m z i :: revL (cutI f (i + 1) m z) i = if f (z i) then _ else _
    have e : cutI f (i + 1) m z = if f (z i) then cutI f i (m - min m (z i).n) (lessN z i (min m (z i).n)) else cutI f i m z := rfl
    rw [e]
    by_cases h : f (z i) = true
    · rw [if_pos h, if_pos h, cutI_rev f i, cutI_ge f i _ _ i (Nat.le_refl _)]
      have e1 : lessN z i (min m (z i).n) i = lessL (z i) (min m (z i).n) := if_pos rfl
      rw [e1, revL_congr (z := lessN z i (min m (z i).n)) (z' := z) fun j hj => if_neg (by omega)]
    · rw [if_neg h, if_neg h, cutI_rev f i, cutI_ge f i _ _ i (Nat.le_refl _)]
theorem lessL_zero (x : Hd) : lessL x 0 = x := by unfold lessL; rw [Int.sub_zero]
theorem cutI_zero (f : Hd → Bool) : ∀ (i : Nat) (z : Nat → Hd), (∀ j, j < i → 0 ≤ (z j).n) → cutI f i 0 z = z
  | 0, _, _ => rfl
  | i + 1, z, h => by
    show (if f (z i) then cutI f i (0 - min 0 (z i).n) (lessN z i (min 0 (z i).n)) else cutI f i 0 z) = z
    have h0 : min 0 (z i).n = 0 := Int.min_eq_left (h i (by omega))
    have e : lessN z i 0 = z := by
      funext j
      unfold lessN
      rw [lessL_zero]
      split <;> rfl
    rw [h0, e, Int.sub_zero, cutI_zero f i z fun j hj => h j (by omega)]
    split <;> rfl
theorem cutI_key (f : Hd → Bool) : ∀ (i : Nat) (m : Int) (z : Nat → Hd), 0 ≤ m → (∀ j, j < i → 0 ≤ (z j).n) → ∀ k, ((cutI f i m z k).o = (z k).o ∧ (cutI f i m z k).l = (z k).l ∧ (cutI f i m z k).b = (z k).b) ∧ (k < i → 0 ≤ (cutI f i m z k).n) ∧ (cutI f i m z k).n ≤ (z k).n
  | 0, _, _, _, _, _ => ⟨⟨rfl, rfl, rfl⟩, fun h => absurd h (by omega), Int.le_refl _⟩
  | i + 1, m, z, hm, hz, k => by
    have e : cutI f (i + 1) m z = if f (z i) then cutI f i (m - min m (z i).n) (lessN z i (min m (z i).n)) else cutI f i m z := rfl
    rw [e]
    have hi := hz i (by omega)
    by_cases h : f (z i) = true
    · rw [if_pos h]
      have hl : ∀ j, ¬ j = i → lessN z i (min m (z i).n) j = z j := fun j hj => if_neg hj
      have hs : lessN z i (min m (z i).n) i = lessL (z i) (min m (z i).n) := if_pos rfl
      have r := cutI_key f i (m - min m (z i).n) (lessN z i (min m (z i).n)) (by omega) (fun j hj => by rw [hl j (by omega)]; exact hz j (by omega)) k
      by_cases hk : k = i
      · subst hk
        rw [cutI_ge f k _ _ k (Nat.le_refl _), hs]
        refine ⟨⟨rfl, rfl, rfl⟩, fun _ => ?_, ?_⟩
        · show 0 ≤ (z k).n - min m (z k).n
          omega
        · show (z k).n - min m (z k).n ≤ (z k).n
          omega
      · rw [hl k hk] at r
        exact ⟨r.1, fun h' => r.2.1 (by omega), r.2.2⟩
    · rw [if_neg h]
      have r := cutI_key f i m z hm (fun j hj => hz j (by omega)) k
      by_cases hk : k = i
      · subst hk
        rw [cutI_ge f k _ _ k (Nat.le_refl _)]
        exact ⟨⟨rfl, rfl, rfl⟩, fun _ => hi, Int.le_refl _⟩
      · exact ⟨r.1, fun h' => r.2.1 (by omega), r.2.2⟩
def Blind (f : Hd → Bool) : Prop := ∀ h d, f (lessL h d) = f h
def Pos0 (R : List Hd) : Prop := ∀ h, h ∈ R → 0 ≤ h.n
theorem Pos0.tail {h : Hd} {R : List Hd} (p : Pos0 (h :: R)) : Pos0 R := fun x hx => p x (List.mem_cons_of_mem _ hx)
theorem Pos0.head {h : Hd} {R : List Hd} (p : Pos0 (h :: R)) : 0 ≤ h.n := p h List.mem_cons_self
theorem sumB_nn {P : Hd → Bool} : ∀ {R : List Hd}, Pos0 R → 0 ≤ sumB P R
  | [], _ => Int.le_refl _
  | h :: R, p => by
    have := sumB_nn (P := P) p.tail
    have := p.head
    show 0 ≤ sumB P R + if P h then h.n else 0
    split <;> omega
theorem sumB_flt (P : Hd → Bool) : ∀ (R : List Hd), sumB P (flt R) = sumB P R
  | [] => rfl
  | h :: R => by
    have ih := sumB_flt P R
    unfold flt at ih ⊢
    rw [List.filter_cons]
    cases hg : goneH h
    · rw [if_pos (show (!false) = true from rfl)]
      show sumB P _ + _ = sumB P R + _
      rw [ih]
    · rw [if_neg (by decide), ih]
      have h0 : h.n = 0 := by unfold goneH at hg; simpa using hg
      show _ = sumB P R + if P h then h.n else 0
      rw [h0]
      split <;> omega
theorem sumB_cut {f : Hd → Bool} (hb : Blind f) : ∀ {R : List Hd} {m : Int}, Pos0 R → 0 ≤ m → sumB f (cutL f m R) = sumB f R - min m (sumB f R) ∧ leftL f m R = m - min m (sumB f R)
  | [], m, _, hm => by
    show (0 : Int) = 0 - min m 0 ∧ m = m - min m 0
    omega
  | h :: R, m, p, hm => by
    have hh := p.head
    have sn := sumB_nn (P := f) p.tail
    by_cases c : f h = true
    · have e : cutL f m (h :: R) = lessL h (min m h.n) :: cutL f (m - min m h.n) R := if_pos c
      have e2 : leftL f m (h :: R) = leftL f (m - min m h.n) R := if_pos c
      have e3 : sumB f (h :: R) = sumB f R + h.n := by show _ + (if f h then _ else _) = _; rw [if_pos c]
      have ih := sumB_cut hb (R := R) (m := m - min m h.n) p.tail (by omega)
      rw [e, e2, e3, ih.2]
      have e4 : sumB f (lessL h (min m h.n) :: cutL f (m - min m h.n) R) = sumB f (cutL f (m - min m h.n) R) + (h.n - min m h.n) := by show _ + (if f _ then _ else _) = _; rw [hb, if_pos c]; rfl
      rw [e4, ih.1]
      omega
    · have e : cutL f m (h :: R) = h :: cutL f m R := if_neg c
      have e2 : leftL f m (h :: R) = leftL f m R := if_neg c
      have e3 : sumB f (h :: R) = sumB f R := by show _ + (if f h then _ else _) = _; rw [if_neg c, Int.add_zero]
      have ih := sumB_cut hb (R := R) (m := m) p.tail hm
      have e4 : sumB f (h :: cutL f m R) = sumB f (cutL f m R) := by show _ + (if f h then _ else _) = _; rw [if_neg c, Int.add_zero]
      rw [e, e2, e3, e4]
      exact ih
theorem sumB_other {f P : Hd → Bool} (hd : ∀ h, P h = true → f h = false) (hP : Blind P) : ∀ (R : List Hd) (m : Int), sumB P (cutL f m R) = sumB P R
  | [], _ => rfl
  | h :: R, m => by
    by_cases c : f h = true
    · have e : cutL f m (h :: R) = lessL h (min m h.n) :: cutL f (m - min m h.n) R := if_pos c
      have hp : P h = false := by
        cases hp : P h
        · rfl
        · rw [hd h hp] at c; cases c
      rw [e]
      show sumB P _ + (if P (lessL h _) then _ else _) = sumB P R + if P h then _ else _
      rw [hP, hp, sumB_other hd hP R]
      rfl
    · have e : cutL f m (h :: R) = h :: cutL f m R := if_neg c
      rw [e]
      show sumB P _ + _ = sumB P R + _
      rw [sumB_other hd hP R]
def forL (o l : Int) (h : Hd) : Bool := (h.o == o) && (h.l == l)
theorem forL_iff {o l : Int} {h : Hd} : forL o l h = true ↔ h.o = o ∧ h.l = l := by unfold forL; simp
theorem sumB_line (f : Hd → Bool) (o l : Int) : ∀ (R : List Hd) (m : Int), sumB (forL o l) (cutL f m R) = sumB (forL o l) R - cutQ f m R o l
  | [], _ => rfl
  | h :: R, m => by
    by_cases c : f h = true
    · have e : cutL f m (h :: R) = lessL h (min m h.n) :: cutL f (m - min m h.n) R := if_pos c
      have e2 : cutQ f m (h :: R) o l = (if h.o = o ∧ h.l = l then min m h.n else 0) + cutQ f (m - min m h.n) R o l := if_pos c
      rw [e, e2]
      show sumB _ _ + (if forL o l (lessL h _) then h.n - min m h.n else 0) = sumB _ R + (if forL o l h then h.n else 0) - _
      rw [sumB_line f o l R]
      have e3 : forL o l (lessL h (min m h.n)) = forL o l h := rfl
      rw [e3]
      by_cases k : h.o = o ∧ h.l = l
      · rw [if_pos (forL_iff.2 k), if_pos (forL_iff.2 k), if_pos k]; omega
      · rw [if_neg (fun e => k (forL_iff.1 e)), if_neg (fun e => k (forL_iff.1 e)), if_neg k]; omega
    · have e : cutL f m (h :: R) = h :: cutL f m R := if_neg c
      have e2 : cutQ f m (h :: R) o l = cutQ f m R o l := if_neg c
      rw [e, e2]
      show sumB _ _ + _ = sumB _ R + _ - _
      rw [sumB_line f o l R]
      omega
theorem cutQ_nn (f : Hd → Bool) (o l : Int) : ∀ {R : List Hd} {m : Int}, Pos0 R → 0 ≤ m → 0 ≤ cutQ f m R o l
  | [], _, _, _ => Int.le_refl _
  | h :: R, m, p, hm => by
    have hh := p.head
    show 0 ≤ if f h then _ else _
    split
    · have := cutQ_nn f o l (R := R) (m := m - min m h.n) p.tail (by omega)
      split <;> omega
    · exact cutQ_nn f o l p.tail hm
theorem cutQ_zero (f : Hd → Bool) (o l : Int) : ∀ {R : List Hd}, Pos0 R → cutQ f 0 R o l = 0
  | [], _ => rfl
  | h :: R, p => by
    have h0 : min 0 h.n = 0 := Int.min_eq_left p.head
    show (if f h then (if h.o = o ∧ h.l = l then min 0 h.n else 0) + cutQ f (0 - min 0 h.n) R o l else cutQ f 0 R o l) = 0
    rw [h0, Int.sub_zero, cutQ_zero f o l p.tail]
    split
    · split <;> rfl
    · rfl
theorem cutL_zero (f : Hd → Bool) : ∀ {R : List Hd}, Pos0 R → cutL f 0 R = R
  | [], _ => rfl
  | h :: R, p => by
    have h0 : min 0 h.n = 0 := Int.min_eq_left p.head
    show (if f h then lessL h (min 0 h.n) :: cutL f (0 - min 0 h.n) R else h :: cutL f 0 R) = h :: R
    rw [h0, Int.sub_zero, cutL_zero f p.tail, lessL_zero]
    split <;> rfl
theorem cutL_pos (f : Hd → Bool) : ∀ {R : List Hd} {m : Int}, Pos0 R → 0 ≤ m → Pos0 (cutL f m R)
  | [], _, _, _ => fun x hx => by cases hx
  | h :: R, m, p, hm => by
    have hh := p.head
    by_cases c : f h = true
    · have e : cutL f m (h :: R) = lessL h (min m h.n) :: cutL f (m - min m h.n) R := if_pos c
      rw [e]
      intro x hx
      rcases List.mem_cons.1 hx with rfl | hx
      · show 0 ≤ h.n - min m h.n
        omega
      · exact cutL_pos f p.tail (by omega) x hx
    · have e : cutL f m (h :: R) = h :: cutL f m R := if_neg c
      rw [e]
      intro x hx
      rcases List.mem_cons.1 hx with rfl | hx
      · exact hh
      · exact cutL_pos f p.tail hm x hx
theorem flt_all {R : List Hd} (h : ∀ x, x ∈ R → 1 ≤ x.n) : flt R = R := by
  unfold flt
  rw [List.filter_eq_self]
  intro x hx
  have := h x hx
  unfold goneH
  simp
  omega
theorem flt_cons_pos {h : Hd} {R : List Hd} (c : 1 ≤ h.n) : flt (h :: R) = h :: flt R := by
  unfold flt
  rw [List.filter_cons, if_pos]
  unfold goneH
  simp
  omega
theorem flt_cons_zero {h : Hd} {R : List Hd} (c : h.n = 0) : flt (h :: R) = flt R := by
  unfold flt
  rw [List.filter_cons, if_neg]
  unfold goneH
  simp [c]
theorem one_cut {f : Hd → Bool} (hb : Blind f) : ∀ {R : List Hd} {m : Int}, (∀ h, h ∈ R → 1 ≤ h.n) → 0 ≤ m → m + 1 ≤ sumB f R → oneL f (flt (cutL f m R)) = flt (cutL f (m + 1) R) ∧ ∃ h0, (flt (cutL f m R)).find? f = some h0 ∧ ∀ o l, cutQ f (m + 1) R o l = cutQ f m R o l + if h0.o = o ∧ h0.l = l then 1 else 0
  | [], m, _, _, hs => absurd hs (by show ¬ m + 1 ≤ 0; omega)
  | h :: R, m, p, hm, hs => by
    have h1 := p h List.mem_cons_self
    have pt : ∀ x, x ∈ R → 1 ≤ x.n := fun x hx => p x (List.mem_cons_of_mem _ hx)
    have p0 : Pos0 R := fun x hx => by have := pt x hx; omega
    by_cases c : f h = true
    · have e : ∀ k, cutL f k (h :: R) = lessL h (min k h.n) :: cutL f (k - min k h.n) R := fun k => if_pos c
      have eq : ∀ k o l, cutQ f k (h :: R) o l = (if h.o = o ∧ h.l = l then min k h.n else 0) + cutQ f (k - min k h.n) R o l := fun k o l => if_pos c
      have e3 : sumB f (h :: R) = sumB f R + h.n := by show _ + (if f h then _ else _) = _; rw [if_pos c]
      rw [e3] at hs
      by_cases k : m < h.n
      · have m1 : min m h.n = m := by omega
        have m2 : min (m + 1) h.n = m + 1 := by omega
        have e0 : flt (cutL f m (h :: R)) = lessL h m :: R := by
          rw [e, m1, Int.sub_self, cutL_zero f p0, flt_cons_pos (by show 1 ≤ h.n - m; omega), flt_all pt]
        refine ⟨?_, lessL h m, ?_, fun o l => ?_⟩
        · rw [e0, e, m2, Int.sub_self, cutL_zero f p0]
          show (if f (lessL h m) then (if (lessL h m).n = 1 then R else lessL (lessL h m) 1 :: R) else _) = _
          rw [hb, if_pos c]
          by_cases k1 : h.n - m = 1
          · rw [if_pos (show (lessL h m).n = 1 from k1), flt_cons_zero (by show h.n - (m + 1) = 0; omega), flt_all pt]
          · rw [if_neg (show ¬ (lessL h m).n = 1 from k1), flt_cons_pos (by show 1 ≤ h.n - (m + 1); omega), flt_all pt]
            have : lessL (lessL h m) 1 = lessL h (m + 1) := by unfold lessL; rw [show h.n - m - 1 = h.n - (m + 1) by omega]
            rw [this]
        · rw [e0, List.find?_cons, hb, c]
        · rw [eq, eq, m1, m2, Int.sub_self, Int.sub_self]
          show (if h.o = o ∧ h.l = l then m + 1 else 0) + _ = (if h.o = o ∧ h.l = l then m else 0) + _ + if h.o = o ∧ h.l = l then 1 else 0
          split <;> omega
      · have m1 : min m h.n = h.n := by omega
        have m2 : min (m + 1) h.n = h.n := by omega
        have ih := one_cut hb (R := R) (m := m - h.n) pt (by omega) (by omega)
        have e0 : ∀ k, min k h.n = h.n → flt (cutL f k (h :: R)) = flt (cutL f (k - h.n) R) := fun k hk => by
          rw [e, hk, flt_cons_zero (by show h.n - h.n = 0; omega)]
        rw [e0 m m1, e0 (m + 1) m2, show m + 1 - h.n = m - h.n + 1 by omega]
        refine ⟨ih.1, ?_⟩
        obtain ⟨h0, a1, a2⟩ := ih.2
        refine ⟨h0, a1, fun o l => ?_⟩
        rw [eq, eq, m1, m2, show m + 1 - h.n = m - h.n + 1 by omega, a2]
        omega
    · have e : ∀ k, cutL f k (h :: R) = h :: cutL f k R := fun k => if_neg c
      have eq : ∀ k o l, cutQ f k (h :: R) o l = cutQ f k R o l := fun k o l => if_neg c
      have e3 : sumB f (h :: R) = sumB f R := by show _ + (if f h then _ else _) = _; rw [if_neg c, Int.add_zero]
      rw [e3] at hs
      have ih := one_cut hb (R := R) (m := m) pt hm hs
      rw [e, e, flt_cons_pos h1, flt_cons_pos h1]
      refine ⟨?_, ?_⟩
      · show (if f h then _ else h :: oneL f _) = _
        rw [if_neg c, ih.1]
      · obtain ⟨h0, a1, a2⟩ := ih.2
        refine ⟨h0, ?_, fun o l => by rw [eq, eq, a2]⟩
        rw [List.find?_cons, show f h = false by simpa using c]
        exact a1
theorem last_find (f : Hd → Bool) (z : Nat → Hd) : ∀ n, (revL z n).find? f = (lastI f z n).map z
  | 0 => rfl
  | n + 1 => by
    show (z n :: revL z n).find? f = (if f (z n) then some n else lastI f z n).map z
    rw [List.find?_cons]
    cases h : f (z n)
    · rw [if_neg (by decide)]; exact last_find f z n
    · rw [if_pos rfl]; rfl
theorem last_lt {f : Hd → Bool} {z : Nat → Hd} : ∀ {n k : Nat}, lastI f z n = some k → k < n ∧ f (z k) = true
  | 0, k, h => by cases h
  | n + 1, k, h => by
    have h' : (if f (z n) then some n else lastI f z n) = some k := h
    by_cases c : f (z n) = true
    · rw [if_pos c] at h'
      cases h'
      exact ⟨by omega, c⟩
    · rw [if_neg c] at h'
      have := last_lt h'
      exact ⟨by omega, this.2⟩
theorem last_none {f : Hd → Bool} {z : Nat → Hd} : ∀ {n : Nat}, lastI f z n = none → ∀ k, k < n → f (z k) = false
  | 0, _, k, h => absurd h (by omega)
  | n + 1, h, k, hk => by
    have h' : (if f (z n) then some n else lastI f z n) = none := h
    by_cases c : f (z n) = true
    · rw [if_pos c] at h'; cases h'
    · rw [if_neg c] at h'
      by_cases e : k = n
      · rw [e]; simpa using c
      · exact last_none h' k (by omega)
theorem one_less {f : Hd → Bool} {z : Nat → Hd} : ∀ {n k : Nat}, lastI f z n = some k → ¬ (z k).n = 1 → revL (lessN z k 1) n = oneL f (revL z n)
  | 0, k, h, _ => by cases h
  | n + 1, k, h, hn => by
    have h' : (if f (z n) then some n else lastI f z n) = some k := h
    show lessN z k 1 n :: revL (lessN z k 1) n = if f (z n) then (if (z n).n = 1 then revL z n else lessL (z n) 1 :: revL z n) else z n :: oneL f (revL z n)
    by_cases c : f (z n) = true
    · rw [if_pos c] at h'
      cases h'
      rw [if_pos c, if_neg hn, revL_congr (z := lessN z n 1) (z' := z) fun j hj => if_neg (by omega)]
      have e : lessN z n 1 n = lessL (z n) 1 := if_pos rfl
      rw [e]
    · rw [if_neg c] at h' ⊢
      have := last_lt h'
      rw [one_less h' hn]
      have e : lessN z k 1 n = z n := if_neg (by omega)
      rw [e]
theorem one_drop {f : Hd → Bool} {z : Nat → Hd} : ∀ {n k : Nat}, lastI f z (n + 1) = some k → (z k).n = 1 → revL (dropZ z k) n = oneL f (revL z (n + 1))
  | n, k, h, hn => by
    have h' : (if f (z n) then some n else lastI f z n) = some k := h
    show revL (dropZ z k) n = if f (z n) then (if (z n).n = 1 then revL z n else lessL (z n) 1 :: revL z n) else z n :: oneL f (revL z n)
    by_cases c : f (z n) = true
    · rw [if_pos c] at h'
      cases h'
      rw [if_pos c, if_pos hn]
      exact revL_congr fun j hj => if_pos hj
    · rw [if_neg c] at h' ⊢
      have l := last_lt h'
      match n, h', l with
      | q + 1, h', l =>
        rw [← one_drop h' hn]
        show dropZ z k q :: revL (dropZ z k) q = _
        have e : dropZ z k q = z (q + 1) := if_neg (by omega)
        rw [e]
end Go.Proofs.YtbcacebifpagpaeGreat
namespace Go.Proofs.YtbcacebifpagpaeGreat
open Go.RowKit
set_option linter.unusedVariables false
def withMoves (s : St) (h : Hs) : St := ⟨s.on, s.os, s.hs, h, s.si, s.so, s.sf⟩
end Go.Proofs.YtbcacebifpagpaeGreat
namespace Go.Proofs.YtbcacebifpagpaeGreat
open Go.RowKit
set_option linter.unusedVariables false
def setOut (s : St) (g : Nat) (x : Int) : St := ⟨s.on, s.os, s.hs, s.ms, s.si, setRw s.so g x, s.sf⟩
def lineGood (s : St) (o l : Nat) : Nat := ((s.os.z o).ls.z l).o.toNat
def heldAt (s : St) (o l b : Int) : Int := keptV s.hs.n s.hs.z o l b
section
variable {p : Pl} {s : St} {order line bin n : Int}
end
structure HoldIn (p : Pl) (s : St) (o l b : Nat) : Prop where
  r : RightT p s
  kp : ¬ heldAt s o l b = 0
  on : o < s.os.n
  ln : l < (s.os.z o).ls.n
  bn : b < p.nb
section
variable {p : Pl} {s : St} {o l b : Nat}
theorem HoldIn.bd (h : HoldIn p s o l b) : 1 ≤ heldAt s o l b ∧ heldAt s o l b ≤ 200 ∧ heldAt s o l b ≤ keptS s.hs.z o l s.hs.n := by
  obtain ⟨q1, q2, q3⟩ := kept_pos h.r.fm.hold h.kp
  have e := (kept_at h.r.fm.hold q1 q2).1
  have f := (fineH_true (right_fine h.r.fm.hold _ q1)).2.2.2
  have nb6 := h.r.fm.sh.pl.nb6
  have b6 := h.bn
  have k := kept_le h.r.fm.hold (o : Int) (l : Int) (b := b) (by omega)
  unfold heldAt
  omega
theorem HoldIn.kind (h : HoldIn p s o l b) : (s.os.z o).k = 1 := by
  have w := h.r.orders o h.on
  unfold wrongOrder at w
  rw [Bool.or_eq_false_iff] at w
  have wl : wrongL (s.os.z o).k ((s.os.z o).ls.z l) (keptS s.hs.z o l s.hs.n) = false := anyB_false w.2 l h.ln
  have bd := h.bd
  have kd := h.r.fm.kind o h.on
  unfold wrongL at wl
  by_cases h0 : (s.os.z o).k = 0
  · rw [if_pos h0] at wl
    simp only [Bool.or_eq_false_iff, Bool.not_eq_false', beq_iff_eq] at wl
    omega
  · rw [if_neg h0] at wl
    by_cases h2 : (s.os.z o).k = 2
    · rw [if_pos h2] at wl
      simp only [Bool.or_eq_false_iff, Bool.not_eq_false', beq_iff_eq] at wl
      omega
    · omega
theorem HoldIn.good (h : HoldIn p s o l b) : ((s.os.z o).ls.z l).o = (lineGood s o l : Int) ∧ lineGood s o l < p.ns := by
  have g := (badLine_no (h.r.fm.line o h.on l h.ln)).1
  unfold lineGood
  omega
theorem HoldIn.sum (h : HoldIn p s o l b) : ((s.os.z o).ls.z l).b + ((s.os.z o).ls.z l).n + keptS s.hs.z o l s.hs.n = ((s.os.z o).ls.z l).l ∧ ((s.os.z o).ls.z l).l ≤ 200 ∧ 0 ≤ ((s.os.z o).ls.z l).b := line_sum h.r h.on h.ln h.kind
theorem held_ge {p : Pl} {s : St} (f : Formed p s) {o l : Nat} (ho : o < s.os.n) (hl : l < (s.os.z o).ls.n) (b : Int) : keptV s.hs.n s.hs.z o l b ≤ heldTo s b ((s.os.z o).ls.z l).o s.hs.n := by
  rw [heldTo_sum b _ _ f.home f.hold]
  unfold heldSum
  have nn : ∀ i j, 0 ≤ lineHeld s b ((s.os.z o).ls.z l).o s.hs.n i j := fun i j => by
    unfold lineHeld
    have := (keptV_bd (fun j hj => (fineH_true (right_fine f.hold j hj)).2.2.2) (i : Int) (j : Int) b).1
    split <;> omega
  have e1 : lineHeld s b ((s.os.z o).ls.z l).o s.hs.n o l = keptV s.hs.n s.hs.z o l b := if_pos rfl
  have h1 := sumTo_ge (z := fun j => lineHeld s b ((s.os.z o).ls.z l).o s.hs.n o j) hl (fun j _ => nn o j)
  have h2 := sumTo_ge (z := fun i => sumTo (fun j => lineHeld s b ((s.os.z o).ls.z l).o s.hs.n i j) (s.os.z i).ls.n) ho (fun i _ => by
    have : ∀ k, 0 ≤ sumTo (fun j => lineHeld s b ((s.os.z o).ls.z l).o s.hs.n i j) k := fun k => by
      induction k with
      | zero => exact Int.le_refl _
      | succ k ih => simp only [sumTo]; have := nn i k; omega
    exact this _)
  omega
theorem HoldIn.there (h : HoldIn p s o l b) : heldAt s o l b ≤ (s.on.r b).z (lineGood s o l) ∧ (s.on.r b).z (lineGood s o l) ≤ 200 ∧ heldAt s o l b + availZ s b (lineGood s o l) ≤ (s.on.r b).z (lineGood s o l) := by
  have g := h.good
  have a := (goods_no (h.r.goods _ g.2)).2 b h.bn
  have k := held_ge h.r.fm h.on h.ln b
  rw [g.1] at k
  have ft := (fromTo_bd (s := s) (b := b) (g := (lineGood s o l : Int)) (n := s.ms.n) h.r.fm.moveN).1
  have nm := h.r.fm.sh.num b (by rw [h.r.fm.sh.n]; exact h.bn) (lineGood s o l) g.2
  unfold availZ at a ⊢
  unfold heldAt
  omega
end
def dropHs (h : Hs) (o l b : Int) : Hs := ⟨h.a, h.n - 1, h.c, dropZ h.z (dropI h.n h.z o l b)⟩
def pickS (s : St) (o l b : Nat) (n : Int) : St := setLine (setLine (setOut (setOn (withHolds s (dropHs s.hs o l b)) b (lineGood s o l) ((s.on.r b).z (lineGood s o l) - n)) (lineGood s o l) (s.so.z (lineGood s o l) + n)) o l 2 (((s.os.z o).ls.z l).b + n)) o l 3 (((s.os.z o).ls.z l).n + (heldAt s o l b - n))
def gotAll (s : St) (o : Nat) : Bool := !anyB (s.os.z o).ls.n (fun j => lacksL ((s.os.z o).ls.z j))
section
variable {p : Pl} {s : St} {o l b : Nat} {n : Int}
theorem pickS_line (s : St) (o l b : Nat) (n : Int) (i j : Nat) : ((pickS s o l b n).os.z i).ls.z j = if i = o ∧ j = l then ⟨((s.os.z o).ls.z l).o, ((s.os.z o).ls.z l).l, ((s.os.z o).ls.z l).b + n, ((s.os.z o).ls.z l).n + (heldAt s o l b - n)⟩ else (s.os.z i).ls.z j := by
  unfold pickS
  rw [setLine_at, setLine_at]
  by_cases h : i = o ∧ j = l
  · rw [if_pos h, if_pos h, if_pos h]
    obtain ⟨rfl, rfl⟩ := h
    rfl
  · rw [if_neg h, if_neg h, if_neg h]
    rfl
theorem pickS_k (s : St) (o l b : Nat) (n : Int) (i : Nat) : ((pickS s o l b n).os.z i).k = (s.os.z i).k ∧ ((pickS s o l b n).os.z i).ls.n = (s.os.z i).ls.n := by
  unfold pickS
  rw [setLine_k, setLine_k, (setLine_n i).1, (setLine_n i).1]
  exact ⟨rfl, rfl⟩
theorem pickS_on (s : St) (o l b : Nat) (n : Int) (i : Nat) : ((pickS s o l b n).on.r i).n = (s.on.r i).n ∧ ∀ j, ((pickS s o l b n).on.r i).z j = if i = b ∧ j = lineGood s o l then (s.on.r i).z j - n else (s.on.r i).z j := by
  show (if i = b then setRw (s.on.r i) (lineGood s o l) _ else s.on.r i).n = _ ∧ ∀ j, (if i = b then setRw (s.on.r i) (lineGood s o l) _ else s.on.r i).z j = _
  by_cases h : i = b
  · subst h
    rw [if_pos rfl]
    refine ⟨rfl, fun j => ?_⟩
    show (if j = lineGood s o l then _ else (s.on.r i).z j) = _
    by_cases hj : j = lineGood s o l
    · rw [if_pos hj, if_pos ⟨rfl, hj⟩, hj]
    · rw [if_neg hj, if_neg (fun e => hj e.2)]
  · rw [if_neg h]
    exact ⟨rfl, fun j => by rw [if_neg (fun e => h e.1)]⟩
theorem HoldIn.drop (h : HoldIn p s o l b) : anyB (dropHs s.hs o l b).n (badH (dropHs s.hs o l b).z) = false ∧ ∀ x y z : Int, keptV (dropHs s.hs o l b).n (dropHs s.hs o l b).z x y z = if x = o ∧ y = l ∧ z = b then 0 else keptV s.hs.n s.hs.z x y z := by
  obtain ⟨q1, q2, q3⟩ := kept_pos h.r.fm.hold h.kp
  have e := (kept_at h.r.fm.hold q1 q2).2
  have e' : dropI s.hs.n s.hs.z o l b < s.hs.n := by rw [e]; exact q1
  refine ⟨drop_right h.r.fm.hold e', fun x y z => ?_⟩
  have k := drop_kept h.r.fm.hold e' x y z
  show keptV (s.hs.n - 1) (dropZ s.hs.z (dropI s.hs.n s.hs.z o l b)) x y z = _
  rw [k]
  have m := matchH_true q2
  by_cases c : x = o ∧ y = l ∧ z = b
  · have : matchH (s.hs.z (dropI s.hs.n s.hs.z o l b)) x y z = true := by rw [c.1, c.2.1, c.2.2]; exact q2
    rw [this, if_pos c]
    rfl
  · rw [if_neg c]
    cases hm : matchH (s.hs.z (dropI s.hs.n s.hs.z o l b)) x y z
    · rfl
    · exact absurd ⟨(matchH_true hm).1.symm.trans m.1, (matchH_true hm).2.1.symm.trans m.2.1, (matchH_true hm).2.2.symm.trans m.2.2⟩ c
theorem HoldIn.keptS (h : HoldIn p s o l b) (n : Int) (x y : Int) : Go.Proofs.YtbcacebifpagpaeGreat.keptS (pickS s o l b n).hs.z x y (pickS s o l b n).hs.n = Go.Proofs.YtbcacebifpagpaeGreat.keptS s.hs.z x y s.hs.n - if x = o ∧ y = l then heldAt s o l b else 0 := by
  have d := h.drop
  have nb6 := h.r.fm.sh.pl.nb6
  have hb := h.bn
  show Go.Proofs.YtbcacebifpagpaeGreat.keptS (dropHs s.hs o l b).z x y (dropHs s.hs o l b).n = _
  rw [← kept_eq _ x y _ d.1, ← kept_eq _ x y _ h.r.fm.hold]
  by_cases c : x = o ∧ y = l
  · rw [if_pos c]
    have e := sumTo_at (z := fun z => keptV s.hs.n s.hs.z x y z) (z' := fun z => keptV (dropHs s.hs o l b).n (dropHs s.hs o l b).z x y z) (m := b) (n := -heldAt s o l b) (k := 6) (by omega) (fun i hi => by
      rw [d.2]
      by_cases hi2 : i = b
      · rw [if_pos ⟨c.1, c.2, by omega⟩, if_pos hi2, hi2, c.1, c.2]
        unfold heldAt
        omega
      · rw [if_neg (fun e => hi2 (by omega)), if_neg hi2, Int.add_zero])
    rw [e]
    omega
  · rw [if_neg c, Int.sub_zero]
    exact sumTo_same fun i _ => by rw [d.2, if_neg (fun e => c ⟨e.1, e.2.1⟩)]
structure PickIn (p : Pl) (s : St) (o l b : Nat) (n : Int) : Prop where
  hd : HoldIn p s o l b
  n0 : 0 ≤ n
  nh : n ≤ heldAt s o l b
  om : s.so.z (lineGood s o l) + n ≤ 1048576
theorem PickIn.formed (h : PickIn p s o l b n) : Formed p (pickS s o l b n) := by
  have f := h.hd.r.fm
  have d := h.hd.drop
  have g := h.hd.good
  have th := h.hd.there
  have sm := h.hd.sum
  have bd := h.hd.bd
  have n0 := h.n0
  have nh := h.nh
  have om := h.om
  have rs : RightS p (pickS s o l b n).on := ⟨f.sh.pl, f.sh.n, fun i hi => (pickS_on s o l b n i).1.trans (f.sh.len i hi), fun i hi j hj => by
    rw [(pickS_on s o l b n i).2 j]
    have nm := f.sh.num i hi j hj
    by_cases c : i = b ∧ j = lineGood s o l
    · rw [if_pos c]
      obtain ⟨rfl, rfl⟩ := c
      omega
    · rw [if_neg c]; exact nm⟩
  refine ⟨rs, shelfE_mk (rightS f.sh0).1 rs, f.os4, f.ms8, fun i hi => by rw [(pickS_k s o l b n i).2]; exact f.lns i hi, fun i hi => by rw [(pickS_k s o l b n i).1]; exact f.kind i hi, fun i hi j hj => ?_, d.1, fun i hi => ?_, f.move, f.sin, f.son, f.sfn, f.sib, fun j hj => ?_, f.sfb⟩
  · have hj' : j < (s.os.z i).ls.n := by rw [← (pickS_k s o l b n i).2]; exact hj
    rw [pickS_line]
    by_cases c : i = o ∧ j = l
    · rw [if_pos c]
      obtain ⟨b1, b2, b3, b4⟩ := badLine_no (f.line o h.hd.on l h.hd.ln)
      unfold badLine
      rw [inB_mk (by dsimp only; omega), inB_mk (by dsimp only; omega), inB_mk (by dsimp only; omega), inB_mk (by dsimp only; omega)]
      rfl
    · rw [if_neg c]
      exact f.line i hi j hj'
  · have hx : anyB (pickS s o l b n).hs.n (badH (pickS s o l b n).hs.z) = false := d.1
    have e := (kept_at hx hi (matchH_self _)).1
    have fn := (fineH_true (right_fine hx i hi)).2.2.2
    have d2 : keptV (pickS s o l b n).hs.n (pickS s o l b n).hs.z ((pickS s o l b n).hs.z i).o ((pickS s o l b n).hs.z i).l ((pickS s o l b n).hs.z i).b = _ := d.2 _ _ _
    rw [d2] at e
    split at e
    · omega
    · obtain ⟨q1, q2, -⟩ := kept_pos f.hold (o := ((pickS s o l b n).hs.z i).o) (l := ((pickS s o l b n).hs.z i).l) (b := ((pickS s o l b n).hs.z i).b) (by omega)
      obtain ⟨m1, m2, m3⟩ := matchH_true q2
      obtain ⟨a1, a2, a3⟩ := homeless_no (f.home _ q1)
      rw [m1] at a1 a2
      rw [m2] at a2
      rw [m3] at a3
      refine homeless_mk a1 ⟨a2.1, ?_⟩ a3
      rw [(pickS_k s o l b n _).2]
      exact a2.2
  · have sb := f.sob j hj
    show 0 ≤ (if j = lineGood s o l then s.so.z (lineGood s o l) + n else s.so.z j) ∧ (if j = lineGood s o l then s.so.z (lineGood s o l) + n else s.so.z j) ≤ 1048576
    by_cases c : j = lineGood s o l
    · rw [if_pos c]
      rw [c] at sb
      omega
    · rw [if_neg c]; exact sb
theorem PickIn.held (h : PickIn p s o l b n) (c g : Nat) : heldTo (pickS s o l b n) c g (pickS s o l b n).hs.n = heldTo s c g s.hs.n - if c = b ∧ g = lineGood s o l then heldAt s o l b else 0 := by
  have f := h.hd.r.fm
  have fx := h.formed
  have d := h.hd.drop
  have gd := h.hd.good
  rw [heldTo_sum (c : Int) (g : Int) _ fx.home fx.hold, heldTo_sum (c : Int) (g : Int) _ f.home f.hold]
  have key : ∀ i j, lineHeld (pickS s o l b n) c g (pickS s o l b n).hs.n i j = lineHeld s c g s.hs.n i j + if i = o ∧ j = l then -(if c = b ∧ g = lineGood s o l then heldAt s o l b else 0) else 0 := fun i j => by
    unfold lineHeld
    have e : keptV (pickS s o l b n).hs.n (pickS s o l b n).hs.z (i : Int) (j : Int) (c : Int) = _ := d.2 i j c
    rw [e]
    have eg : (((pickS s o l b n).os.z i).ls.z j).o = ((s.os.z i).ls.z j).o := by
      rw [pickS_line]
      by_cases q : i = o ∧ j = l
      · rw [if_pos q, q.1, q.2]
      · rw [if_neg q]
    rw [eg]
    by_cases q : i = o ∧ j = l
    · rw [if_pos q]
      obtain ⟨rfl, rfl⟩ := q
      rw [gd.1]
      by_cases hg : g = lineGood s i j
      · subst hg
        rw [if_pos rfl, if_pos rfl]
        by_cases hc : c = b
        · subst hc
          rw [if_pos ⟨rfl, rfl, rfl⟩, if_pos ⟨rfl, rfl⟩]
          unfold heldAt
          omega
        · rw [if_neg (fun e => hc (by omega)), if_neg (fun e => hc e.1)]
          omega
      · rw [if_neg (fun e => hg (by omega)), if_neg (fun e => hg (by omega)), if_neg (fun e => hg e.2)]
        rfl
    · have e3 : (if (i : Int) = o ∧ (j : Int) = l ∧ (c : Int) = b then 0 else keptV s.hs.n s.hs.z (i : Int) (j : Int) (c : Int)) = keptV s.hs.n s.hs.z (i : Int) (j : Int) (c : Int) := if_neg (fun e => q ⟨by omega, by omega⟩)
      rw [if_neg q, e3, Int.add_zero]
  unfold heldSum
  have hn : (pickS s o l b n).os.n = s.os.n := rfl
  rw [hn]
  have := sumTo_at (z := fun i => sumTo (fun j => lineHeld s c g s.hs.n i j) (s.os.z i).ls.n) (z' := fun i => sumTo (fun j => lineHeld (pickS s o l b n) c g (pickS s o l b n).hs.n i j) ((pickS s o l b n).os.z i).ls.n) (m := o) (n := -(if c = b ∧ g = lineGood s o l then heldAt s o l b else 0)) (k := s.os.n) h.hd.on (fun i hi => by
    rw [(pickS_k s o l b n i).2]
    by_cases q : i = o
    · rw [if_pos q]
      subst q
      exact sumTo_at h.hd.ln fun j hj => by
        rw [key]
        by_cases q2 : j = l
        · rw [if_pos ⟨rfl, q2⟩, if_pos q2]
        · rw [if_neg (fun e => q2 e.2), if_neg q2]
    · rw [if_neg q, Int.add_zero]
      exact sumTo_same fun j hj => by rw [key, if_neg (fun e => q e.1), Int.add_zero])
  rw [this]
  omega
theorem PickIn.avail (h : PickIn p s o l b n) (c g : Nat) : availZ (pickS s o l b n) c g = availZ s c g + if c = b ∧ g = lineGood s o l then heldAt s o l b - n else 0 := by
  unfold availZ
  rw [h.held, (pickS_on s o l b n c).2 g]
  have e : fromTo (pickS s o l b n) c g (pickS s o l b n).ms.n = fromTo s c g s.ms.n := fromTo_eq (x := pickS s o l b n) (s := s) (fun j _ => rfl)
  rw [e]
  by_cases q : c = b ∧ g = lineGood s o l
  · rw [if_pos q, if_pos q, if_pos q]; omega
  · rw [if_neg q, if_neg q, if_neg q]; omega
theorem PickIn.goods (h : PickIn p s o l b n) (g : Nat) (hg : g < p.ns) : sumTo (fun i => ((pickS s o l b n).on.r i).z g) (pickS s o l b n).on.n = (pickS s o l b n).si.z g - (pickS s o l b n).so.z g + (pickS s o l b n).sf.z g ∧ ∀ c, c < p.nb → 0 ≤ availZ (pickS s o l b n) c g := by
  obtain ⟨a1, a2⟩ := goods_no (h.hd.r.goods g hg)
  have n0 := h.n0
  have nh := h.nh
  refine ⟨?_, fun c hc => ?_⟩
  · show sumTo _ s.on.n = s.si.z g - (if g = lineGood s o l then s.so.z (lineGood s o l) + n else s.so.z g) + s.sf.z g
    by_cases q : g = lineGood s o l
    · rw [if_pos q]
      have e := sumTo_at (z := fun i => (s.on.r i).z g) (z' := fun i => ((pickS s o l b n).on.r i).z g) (m := b) (n := -n) (k := s.on.n) (by rw [h.hd.r.fm.sh.n]; exact h.hd.bn) (fun i hi => by
        rw [(pickS_on s o l b n i).2 g]
        by_cases c : i = b
        · rw [if_pos ⟨c, q⟩, if_pos c]; omega
        · rw [if_neg (fun e => c e.1), if_neg c, Int.add_zero])
      rw [e, a1, q]
      omega
    · rw [if_neg q, ← a1]
      exact sumTo_same fun i hi => by rw [(pickS_on s o l b n i).2 g, if_neg (fun e => q e.2)]
  · rw [h.avail]
    have := a2 c hc
    split <;> omega
theorem PickIn.lineOK (h : PickIn p s o l b n) {i j : Nat} (hi : i < s.os.n) (hj : j < (s.os.z i).ls.n) : wrongL (s.os.z i).k (((pickS s o l b n).os.z i).ls.z j) (Go.Proofs.YtbcacebifpagpaeGreat.keptS (pickS s o l b n).hs.z i j (pickS s o l b n).hs.n) = false := by
  have w := h.hd.r.orders i hi
  unfold wrongOrder at w
  rw [Bool.or_eq_false_iff] at w
  have wl : wrongL (s.os.z i).k ((s.os.z i).ls.z j) (Go.Proofs.YtbcacebifpagpaeGreat.keptS s.hs.z i j s.hs.n) = false := anyB_false w.2 j hj
  rw [h.hd.keptS, pickS_line]
  by_cases c : i = o ∧ j = l
  · rw [if_pos c, if_pos ⟨by omega, by omega⟩]
    obtain ⟨rfl, rfl⟩ := c
    have sm := h.hd.sum
    unfold wrongL
    rw [h.hd.kind, if_neg (by decide), if_neg (by decide), Bool.not_eq_false', beq_iff_eq]
    dsimp only
    omega
  · rw [if_neg c, if_neg (fun e => c ⟨by omega, by omega⟩), Int.sub_zero]
    exact wl
theorem PickIn.right (h : PickIn p s o l b n) (hg : gotAll (pickS s o l b n) o = false) : RightT p (pickS s o l b n) := by
  refine ⟨h.formed, fun g hg => goods_mk (h.goods g hg).1 (h.goods g hg).2, fun i hi => ?_⟩
  have w := h.hd.r.orders i hi
  unfold wrongOrder at w ⊢
  rw [Bool.or_eq_false_iff] at w ⊢
  rw [(pickS_k s o l b n i).1]
  refine ⟨?_, anyB_no fun j hj => h.lineOK hi (by rw [← (pickS_k s o l b n i).2]; exact hj)⟩
  by_cases c : i = o
  · subst c
    unfold gotAll at hg
    rw [hg, Bool.and_false]
  · rw [← w.1]
    congr 2
    rw [(pickS_k s o l b n i).2]
    refine anyB_congr fun j hj => ?_
    rw [pickS_line, if_neg (fun e => c e.1)]
theorem PickIn.takeIn (h : PickIn p s o l b n) : TakeIn p (pickS s o l b n) o l (heldAt s o l b - n) := by
  have e := pickS_line s o l b n o l
  rw [if_pos ⟨rfl, rfl⟩] at e
  have bl := badLine_no (h.hd.r.fm.line o h.hd.on l h.hd.ln)
  have g := h.hd.good
  have n0 := h.n0
  have nh := h.nh
  have sm := h.hd.sum
  refine ⟨h.formed, fun c hc => ?_, h.hd.on, by rw [(pickS_k s o l b n o).2]; exact h.hd.ln, by omega, ?_, ?_⟩
  · rw [e]
    exact (h.goods _ (by dsimp only; omega)).2 c hc
  · rw [e]
    dsimp only
    omega
  · rw [e, h.hd.keptS, if_pos ⟨rfl, rfl⟩]
    dsimp only
    omega
theorem PickIn.stepIn (h : PickIn p s o l b n) (hg : gotAll (pickS s o l b n) o = false) : StepIn p b (pickS s o l b n) o l (heldAt s o l b - n) := by
  have t := h.takeIn
  have := h.hd.bn
  exact ⟨h.right hg, t.on, t.ln, t.n0, Or.inr ⟨by rw [(pickS_k s o l b n o).1]; exact h.hd.kind, t.bk⟩, Or.inr ⟨by omega, by omega⟩⟩
end
end Go.Proofs.YtbcacebifpagpaeGreat
namespace Go.Proofs.YtbcacebifpagpaeGreat
open Go.RowKit
set_option linter.unusedVariables false
theorem OwnS.orderCells {A : Nat} {w : World} {s : St} {o : Nat} (h : OwnS A w s) (ho : o < s.os.n) : ∃ g, s.os.a = some ⟨g, 0, none⟩ ∧ A ≤ g ∧ g < w.heap.size ∧ w.cell? ⟨g, o * 2, none⟩ = some (.int .i64 (s.os.z o).k) ∧ w.cell? ⟨g, o * 2 + 1, none⟩ = some (.slice (s.os.z o).ls.a (s.os.z o).ls.n (s.os.z o).ls.c) ∧ ∀ j, w.frozen? ⟨g, j, none⟩ = false := by
  obtain ⟨g, g1, g2, g3⟩ := h.os.list (by omega)
  have c0 := g3.cell (j := o * 2) (by omega)
  have e0 := flatO_at (z := s.os.z) ho (show 0 < 2 by decide)
  rw [Nat.add_zero] at e0
  rw [e0] at c0
  have c1 := g3.cell (j := o * 2 + 1) (by omega)
  rw [flatO_at (z := s.os.z) ho (show 1 < 2 by decide)] at c1
  exact ⟨g, g1, g2, g3.lt, c0, c1, fun j => g3.frozen j⟩
structure RelK (A B7 : Nat) (W0 : World) (cur : St) (wk : World) : Prop where
  own : OwnS A wk cur
  box : Blk wk B7 31 7 (fun j => cur.cells.getD j default)
  bel : Below W0.heap.size W0 wk
  le : A ≤ wk.heap.size
theorem RelK.below {A B7 : Nat} {W0 wk wj : World} {cur : St} (h : RelK A B7 W0 cur wk) (hB : Below wk.heap.size wk wj) : RelK A B7 W0 cur wj :=
  ⟨h.own.below hB, h.box.below hB, h.bel.trans (hB.mono h.bel.size), Nat.le_trans h.le hB.size⟩
end Go.Proofs.YtbcacebifpagpaeGreat
namespace Go.Proofs.YtbcacebifpagpaeGreat
open Go.RowKit
set_option linter.unusedVariables false
theorem OwnS.onCell {A : Nat} {w : World} {s : St} {b g : Nat} (h : OwnS A w s) (hb : b < s.on.n) (hg : g < (s.on.r b).n) : ∃ g0 G, s.on.a = some ⟨g0, 0, none⟩ ∧ g0 < w.heap.size ∧ w.cell? ⟨g0, b, none⟩ = some (.slice (some ⟨G, 0, none⟩) (s.on.r b).n (s.on.r b).c) ∧ (s.on.r b).a = some ⟨G, 0, none⟩ ∧ A ≤ G ∧ G < w.heap.size ∧ (s.on.r b).n ≤ (s.on.r b).c ∧ (s.on.r b).c ≤ maxLen ∧ w.cell? ⟨G, g, none⟩ = some (.int .i64 ((s.on.r b).z g)) ∧ (∀ j, w.frozen? ⟨G, j, none⟩ = false) ∧ s.on.n ≤ s.on.c ∧ s.on.c ≤ maxLen := by
  obtain ⟨g0, a1, a2, a3, a4, a5⟩ := h.on
  obtain ⟨G, b1, b2, b3, b4, b5⟩ := h.rows b hb
  have c := a5.cell (j := b) hb
  rw [b1] at c
  exact ⟨g0, G, a1, a5.lt, c, b1, b2, b5.lt, b3, b4, b5.cell hg, fun j => b5.frozen j, a3, a4⟩
theorem OwnI.cellAt {A : Nat} {w : World} {r : Rw} {g : Nat} (h : OwnI A w r) (hg : g < r.n) : ∃ G, r.a = some ⟨G, 0, none⟩ ∧ A ≤ G ∧ G < w.heap.size ∧ r.n ≤ r.c ∧ r.c ≤ maxLen ∧ w.cell? ⟨G, g, none⟩ = some (.int .i64 (r.z g)) ∧ ∀ j, w.frozen? ⟨G, j, none⟩ = false := by
  obtain ⟨G, b1, b2, b3, b4, b5⟩ := h
  exact ⟨G, b1, b2, b5.lt, b3, b4, b5.cell hg, fun j => b5.frozen j⟩
theorem StepIn.same {p : Pl} {but : Int} {y y' : St} {i j : Nat} {n : Int} (h : StepIn p but y i j n) (e : SameT y' y) : StepIn p but y' i j n := by
  have ho : i < y'.os.n := by rw [e.os.1]; exact h.on
  have k := e.os.2 i ho
  refine ⟨e.right h.r, ho, by rw [k.2.1]; exact h.ln, h.n0, ?_, h.bt⟩
  rw [k.1, e.line h.on h.ln]
  exact h.kd
end Go.Proofs.YtbcacebifpagpaeGreat
namespace Go.Proofs.YtbcacebifpagpaeGreat
open Go.RowKit
set_option linter.unusedVariables false
abbrev BinX (p : Pl) (f : Bool) := { k : Nat // k < p.nb ∧ (p.zb k).front = f }
def frX (p : Pl) (f : Bool) : Nat → List (BinX p f)
  | 0 => []
  | k + 1 => frX p f k ++ (if h : k < p.nb ∧ (p.zb k).front = f then [⟨k, h⟩] else [])
def addMove (s : St) (m : Hd) : St := withMoves s ⟨s.ms.a, s.ms.n + 1, s.ms.c, fun i => if i = s.ms.n then m else s.ms.z i⟩
def fillN (p : Pl) (s : St) (b g f : Nat) : Int := min (min ((p.zb b).high - lyingZ s b g) (availZ s f g)) ((freeZ p s b).tdiv (p.zs g))
def fillOne (p : Pl) (b g f : Nat) (s : St) : St := if s.ms.n < 8 ∧ 1 ≤ fillN p s b g f then addMove s ⟨g, f, b, fillN p s b g f⟩ else s
def fillF (p : Pl) (b g : Nat) (L : List (BinX p false)) (s : St) : St := L.foldl (fun y f => fillOne p b g f.1 y) s
def fillG (p : Pl) (b : Nat) : Nat → St → St
  | 0, s => s
  | g + 1, s => if (p.zb b).low ≤ lyingZ (fillG p b g s) b g then fillG p b g s else fillF p b g (frX p false p.nb) (fillG p b g s)
def fillB (p : Pl) (L : List (BinX p true)) (s : St) : St := L.foldl (fun y b => fillG p b.1 p.ns y) s
section
variable {p : Pl} {s y : St} {m : Hd} {b g f : Nat}
theorem addMove_at (s : St) (m : Hd) {j : Nat} (h : j < s.ms.n) : (addMove s m).ms.z j = s.ms.z j := if_neg (by omega)
theorem addMove_last (s : St) (m : Hd) : (addMove s m).ms.z s.ms.n = m := if_pos rfl
theorem addMove_from (s : St) (m : Hd) (b g : Int) : fromTo (addMove s m) b g (addMove s m).ms.n = fromTo s b g s.ms.n + if m.l = b ∧ m.o = g then m.n else 0 := by
  show fromTo (addMove s m) b g (s.ms.n + 1) = _
  simp only [fromTo]
  rw [addMove_last, fromTo_eq (x := addMove s m) (s := s) (k := s.ms.n) fun j hj => addMove_at s m hj]
theorem addMove_held (s : St) (m : Hd) (b g : Int) (k : Nat) : heldTo (addMove s m) b g k = heldTo s b g k := heldTo_eq (fun j hj => rfl) (fun j hj => rfl)
theorem addMove_avail (s : St) (m : Hd) (b g : Nat) : availZ (addMove s m) b g = availZ s b g - if m.l = (b : Int) ∧ m.o = (g : Int) then m.n else 0 := by
  unfold availZ
  rw [addMove_from]
  rw [show heldTo (addMove s m) b g (addMove s m).hs.n = heldTo s b g s.hs.n from addMove_held s m b g s.hs.n]
  rw [show ((addMove s m).on.r b).z g = (s.on.r b).z g from rfl]
  omega
theorem comingTo_eq {x s : St} {b g : Int} : ∀ {k : Nat}, (∀ j, j < k → x.ms.z j = s.ms.z j) → comingTo x b g k = comingTo s b g k
  | 0, _ => rfl
  | k + 1, h => by
    simp only [comingTo]
    rw [comingTo_eq (k := k) fun j hj => h j (by omega), h k (by omega)]
theorem addMove_lying (s : St) (m : Hd) (b g : Nat) : lyingZ (addMove s m) b g = lyingZ s b g + if m.b = (b : Int) ∧ m.o = (g : Int) then m.n else 0 := by
  unfold lyingZ
  have : comingTo (addMove s m) b g (addMove s m).ms.n = comingTo s b g s.ms.n + if m.b = (b : Int) ∧ m.o = (g : Int) then m.n else 0 := by
    show comingTo (addMove s m) b g (s.ms.n + 1) = _
    simp only [comingTo]
    rw [addMove_last, comingTo_eq (x := addMove s m) (s := s) (k := s.ms.n) fun j hj => addMove_at s m hj]
  rw [this, show ((addMove s m).on.r b).z g = (s.on.r b).z g from rfl, Int.add_assoc]
theorem addMove_free (p : Pl) (s : St) (m : Hd) (b : Nat) : freeZ p (addMove s m) b = freeZ p s b - if m.b = (b : Int) then m.n * p.zs m.o.toNat else 0 := by
  unfold freeZ
  have : takeTo p (addMove s m) b (addMove s m).ms.n = takeTo p s b s.ms.n + if m.b = (b : Int) then m.n * p.zs m.o.toNat else 0 := by
    show takeTo p (addMove s m) b (s.ms.n + 1) = _
    simp only [takeTo]
    rw [addMove_last, takeTo_eq (x := addMove s m) (s := s) (k := s.ms.n) fun j hj => addMove_at s m hj]
  rw [this, show (addMove s m).on = s.on from rfl]
  omega
theorem badMove_mk (h1 : 0 ≤ m.o ∧ m.o < p.ns) (h2 : 0 ≤ m.l ∧ m.l < p.nb) (h3 : 0 ≤ m.b ∧ m.b < p.nb) (h4 : ¬ m.l = m.b) (h5 : 1 ≤ m.n ∧ m.n ≤ 200) : badMove p m = false := by
  unfold badMove
  rw [inB_mk (by omega), inB_mk (by omega), inB_mk (by omega), inB_mk (by omega)]
  simpa using h4
theorem addMove_right (r : RightT p s) (hm : s.ms.n < 8) (hg : g < p.ns) (hf : f < p.nb) (hb : b < p.nb) (hne : ¬ f = b) {n : Int} (h1 : 1 ≤ n) (h2 : n ≤ 200) (h3 : n ≤ availZ s f g) : RightT p (addMove s ⟨g, f, b, n⟩) := by
  have F := r.fm
  refine ⟨⟨F.sh, F.sh0, F.os4, by show s.ms.n + 1 ≤ 8; omega, F.lns, F.kind, F.line, F.hold, F.home, fun i hi => ?_, F.sin, F.son, F.sfn, F.sib, F.sob, F.sfb⟩, fun j hj => ?_, r.orders⟩
  · have hi' : i < s.ms.n + 1 := hi
    by_cases h : i = s.ms.n
    · rw [h, addMove_last]
      refine badMove_mk ⟨?_, ?_⟩ ⟨?_, ?_⟩ ⟨?_, ?_⟩ ?_ ⟨h1, h2⟩ <;> simp <;> omega
    · rw [addMove_at s _ (by omega)]
      exact F.move i (by omega)
  · obtain ⟨a1, a2⟩ := goods_no (r.goods j hj)
    refine goods_mk a1 fun i hi => ?_
    rw [addMove_avail]
    have := a2 i hi
    by_cases h : (f : Int) = (i : Int) ∧ (g : Int) = (j : Int)
    · rw [if_pos h]
      have e1 : f = i := by omega
      have e2 : g = j := by omega
      subst e1 e2
      show 0 ≤ availZ s f g - n
      omega
    · rw [if_neg h]; omega
structure FillEnd (p : Pl) (s y : St) : Prop where
  r : RightT p y
  eq : y = withMoves s y.ms
  ge : s.ms.n ≤ y.ms.n
  pre : ∀ k, k < s.ms.n → y.ms.z k = s.ms.z k
  new : ∀ k, s.ms.n ≤ k → k < y.ms.n → ∃ b g f : Nat, (y.ms.z k).o = g ∧ (y.ms.z k).l = f ∧ (y.ms.z k).b = b ∧ f < p.nb ∧ b < p.nb ∧ g < p.ns ∧ (p.zb f).front = false ∧ (p.zb b).front = true ∧ lyingZ y b g ≤ (p.zb b).high
  free : ∀ b, b < p.nb → freeZ p y b ≤ freeZ p s b ∧ (freeZ p y b < 0 → freeZ p y b = freeZ p s b)
theorem FillEnd.refl (r : RightT p s) : FillEnd p s s := ⟨r, rfl, Nat.le_refl _, fun _ _ => rfl, fun k h1 h2 => absurd h2 (by omega), fun b hb => ⟨Int.le_refl _, fun _ => rfl⟩⟩
theorem tdiv_le {a z n : Int} (hz : 1 ≤ z) (hn : 1 ≤ n) (h : n ≤ a.tdiv z) : n * z ≤ a := by
  by_cases ha : 0 ≤ a
  · rw [Int.tdiv_eq_ediv_of_nonneg ha] at h
    exact Int.le_trans (Int.mul_le_mul_of_nonneg_right h (by omega)) (Int.ediv_mul_le a (by omega))
  · have h1 : a.tdiv z = - ((-a).tdiv z) := by rw [Int.neg_tdiv]; omega
    have h2 : 0 ≤ (-a).tdiv z := Int.tdiv_nonneg (by omega) (by omega)
    omega
theorem fillN_le (p : Pl) (s : St) (b g f : Nat) : fillN p s b g f ≤ (p.zb b).high - lyingZ s b g ∧ fillN p s b g f ≤ availZ s f g ∧ fillN p s b g f ≤ (freeZ p s b).tdiv (p.zs g) := by
  unfold fillN
  omega
theorem fillN_bd (r : RightT p s) (hg : g < p.ns) (hb : b < p.nb) : fillN p s b g f ≤ 200 := by
  have F := r.fm
  have h1 := (fillN_le p s b g f).1
  have h2 : 0 ≤ lyingZ s b g := by
    unfold lyingZ
    have := (F.sh.num b (by rw [F.sh.n]; exact hb) g hg).1
    have := (comingTo_bd (s := s) (b := b) (g := g) F.moveN).1
    omega
  have h3 := F.sh.pl.bins b hb
  rw [badBin_eq] at h3
  simp only [Bool.or_eq_false_iff, Bool.not_eq_false'] at h3
  have := inB_true h3.1.2
  omega
theorem FillEnd.step (h : FillEnd p s y) (hb : b < p.nb) (hbf : (p.zb b).front = true) (hg : g < p.ns) (hf : f < p.nb) (hff : (p.zb f).front = false) : FillEnd p s (fillOne p b g f y) := by
  unfold fillOne
  by_cases c : y.ms.n < 8 ∧ 1 ≤ fillN p y b g f
  · rw [if_pos c]
    have le := fillN_le p y b g f
    have hne : ¬ f = b := fun e => by rw [e, hbf] at hff; cases hff
    have bd := fillN_bd (f := f) h.r hg hb
    obtain ⟨c1, c2⟩ := c
    generalize fillN p y b g f = n at *
    refine ⟨addMove_right h.r c1 hg hf hb hne c2 bd le.2.1, ?_, by show s.ms.n ≤ y.ms.n + 1; have := h.ge; omega, fun k hk => ?_, fun k k1 k2 => ?_, fun c hc => ?_⟩
    · rw [addMove]; conv => lhs; rw [h.eq]
      rfl
    · rw [addMove_at y _ (by have := h.ge; omega)]; exact h.pre k hk
    · have k2' : k < y.ms.n + 1 := k2
      by_cases e : k = y.ms.n
      · rw [e, addMove_last]
        refine ⟨b, g, f, rfl, rfl, rfl, hf, hb, hg, hff, hbf, ?_⟩
        rw [addMove_lying, if_pos ⟨rfl, rfl⟩]
        have := le.1
        show lyingZ y b g + n ≤ _
        omega
      · rw [addMove_at y _ (by omega)]
        obtain ⟨b', g', f', q1, q2, q3, q4, q5, q6, q7, q8, q9⟩ := h.new k k1 (by omega)
        refine ⟨b', g', f', q1, q2, q3, q4, q5, q6, q7, q8, ?_⟩
        rw [addMove_lying]
        by_cases e2 : (b : Int) = (b' : Int) ∧ (g : Int) = (g' : Int)
        · rw [if_pos e2]
          have e3 : b = b' := by omega
          have e4 : g = g' := by omega
          subst e3 e4
          have := le.1
          show lyingZ y b g + n ≤ _
          omega
        · rw [if_neg e2]; omega
    · rw [addMove_free]
      obtain ⟨u1, u2⟩ := h.free c hc
      by_cases e : (b : Int) = (c : Int)
      · rw [if_pos e]
        have e3 : b = c := by omega
        subst e3
        have hz := (h.r.fm.sh.pl.sizes g hg).1
        have := tdiv_le hz c2 le.2.2
        have h0 : 0 ≤ n * p.zs g := Int.mul_nonneg (by omega) (by omega)
        show freeZ p y b - n * p.zs (g : Int).toNat ≤ _ ∧ (freeZ p y b - n * p.zs (g : Int).toNat < 0 → _)
        rw [Int.toNat_natCast]
        omega
      · rw [if_neg e, Int.sub_zero]; exact ⟨u1, u2⟩
  · rw [if_neg c]; exact h
theorem FillEnd.F (h : FillEnd p s y) (hb : b < p.nb) (hbf : (p.zb b).front = true) (hg : g < p.ns) : ∀ (L : List (BinX p false)), FillEnd p s (fillF p b g L y) := by
  intro L
  induction L generalizing y with
  | nil => exact h
  | cons f L ih => exact ih (h.step hb hbf hg f.2.1 f.2.2)
theorem FillEnd.G (h : FillEnd p s y) (hb : b < p.nb) (hbf : (p.zb b).front = true) : ∀ {g : Nat}, g ≤ p.ns → FillEnd p s (fillG p b g y)
  | 0, _ => h
  | g + 1, hg => by
    have ih := FillEnd.G h hb hbf (g := g) (by omega)
    simp only [fillG]
    split
    · exact ih
    · exact ih.F hb hbf (by omega) _
theorem FillEnd.B (h : FillEnd p s y) : ∀ (L : List (BinX p true)), FillEnd p s (fillB p L y) := by
  intro L
  induction L generalizing y with
  | nil => exact h
  | cons b L ih => exact ih (h.G b.2.1 b.2.2 (Nat.le_refl _))
end
end Go.Proofs.YtbcacebifpagpaeGreat
namespace Go.Proofs.YtbcacebifpagpaeGreat
open Go.RowKit
set_option linter.unusedVariables false
def delM (h : Hs) (k : Nat) : Hs := ⟨h.a, h.n - 1, h.c, fun i => if i < k then h.z i else h.z (i + 1)⟩
def movedW (s : St) (h : Hs) (f b g : Nat) (n : Int) : St := setOn (setOn (withMoves s h) f g ((s.on.r f).z g - n)) b g ((s.on.r b).z g + n)
def movedT (s : St) (k : Nat) (n : Int) : St := movedW s (delM s.ms k) (s.ms.z k).l.toNat (s.ms.z k).b.toNat (s.ms.z k).o.toNat n
section
variable {p : Pl} {s x : St} {k : Nat} {n : Int}
structure MovedIn (p : Pl) (s : St) (k f b g : Nat) (N n : Int) : Prop where
  r : RightT p s
  kn : k < s.ms.n
  m : s.ms.z k = ⟨g, f, b, N⟩
  fn : f < p.nb
  bn : b < p.nb
  gn : g < p.ns
  ne : ¬ f = b
  n0 : 0 ≤ n
  nN : n ≤ N
  N1 : 1 ≤ N
  N2 : N ≤ 200
  to : (s.on.r b).z g + n ≤ 200
end
section
variable {p : Pl} {s x : St} {k f b g : Nat} {N n : Int}
theorem MovedIn.T (h : MovedIn p s k f b g N n) : movedT s k n = movedW s (delM s.ms k) f b g n := by
  unfold movedT
  rw [h.m]
  simp only [Int.toNat_natCast]
theorem setOn_num (s : St) (b g : Nat) (v : Int) (i j : Nat) : ((setOn s b g v).on.r i).z j = if i = b ∧ j = g then v else (s.on.r i).z j := by
  show (if i = b then setRw (s.on.r i) g v else s.on.r i).z j = _
  by_cases hi : i = b
  · rw [if_pos hi]
    show (if j = g then v else (s.on.r i).z j) = _
    by_cases hj : j = g
    · rw [if_pos hj, if_pos ⟨hi, hj⟩]
    · rw [if_neg hj, if_neg (fun e => hj e.2)]
  · rw [if_neg hi, if_neg (fun e => hi e.1)]
theorem setOn_len (s : St) (b g : Nat) (v : Int) (i : Nat) : ((setOn s b g v).on.r i).n = (s.on.r i).n := by
  show (if i = b then setRw (s.on.r i) g v else s.on.r i).n = _
  by_cases hi : i = b
  · rw [if_pos hi]; rfl
  · rw [if_neg hi]
end
end Go.Proofs.YtbcacebifpagpaeGreat
namespace Go.Proofs.YtbcacebifpagpaeGreat
open Go.RowKit
set_option linter.unusedVariables false
def fromF (b g : Int) (m : Hd) : Bool := (m.l == b) && (m.o == g)
def heldF (s : St) (b g : Int) (h : Hd) : Bool := (h.b == b) && (goodH s h == g)
def cutH0 (f : Hd → Bool) (h : Hs) (m : Int) : Hs := ⟨h.a, h.n, h.c, cutI f h.n m h.z⟩
def cutHs (f : Hd → Bool) (h : Hs) (m : Int) : Hs := dropH (cutH0 f h m) goneH
def moveR (s : St) : List Hd := revL s.ms.z s.ms.n
def holdR (s : St) : List Hd := revL s.hs.z s.hs.n
def moreL (x : Hd) (d : Int) : Hd := ⟨x.o, x.l, x.b, x.n + d⟩
def backOs (os : Os) (q : Int → Int → Int) : Os := ⟨os.a, os.n, os.c, fun i => ⟨(os.z i).k, ⟨(os.z i).ls.a, (os.z i).ls.n, (os.z i).ls.c, fun j => moreL ((os.z i).ls.z j) (q i j)⟩⟩⟩
def leftM (s : St) (b g M : Int) : Int := leftL (fromF b g) M (moveR s)
def cutQs (s : St) (b g M : Int) : Int → Int → Int := cutQ (heldF s b g) (leftM s b g M) (holdR s)
def cutS (s : St) (b g M : Int) : St := ⟨s.on, backOs s.os (cutQs s b g M), cutHs (heldF s b g) s.hs (leftM s b g M), cutHs (fromF b g) s.ms M, s.si, s.so, s.sf⟩
def setFix (s : St) (g : Nat) (x : Int) : St := ⟨s.on, s.os, s.hs, s.ms, s.si, s.so, setRw s.sf g x⟩
def fixOn (s : St) (b g : Nat) (seen : Int) : St := setFix (setOn s b g seen) g (s.sf.z g + (seen - (s.on.r b).z g))
def boundZ (s : St) (b g : Nat) : Int := heldTo s b g s.hs.n + fromTo s b g s.ms.n
def missZ (s : St) (b g : Nat) (seen : Int) : Int := max 0 (boundZ s b g - seen)
def countS (s : St) (b g : Nat) (seen : Int) : St := fixOn (cutS s b g (missZ s b g seen)) b g seen
def countQ (s : St) (b g : Nat) (seen : Int) (i j : Nat) : Int := cutQs s b g (missZ s b g seen) i j
def countT (p : Pl) (s : St) (b g : Nat) (seen : Int) : St := allT p b (countQ s b g seen) (relM s) s.os.n (countS s b g seen)
def countE (p : Pl) (s : St) (bin good seen : Int) : Int :=
  if stateE p s = 0 then (if inB bin 0 ((p.nb : Int) - 1) && inB good 0 ((p.ns : Int) - 1) && inB seen 0 200 then (if inB (s.sf.z good.toNat + (seen - (s.on.r bin.toNat).z good.toNat)) (-1048576) 1048576 then 0 else 2) else 3) else stateE p s
theorem fromF_iff {b g : Int} {m : Hd} : fromF b g m = true ↔ m.l = b ∧ m.o = g := by unfold fromF; simp
theorem heldF_iff {s : St} {b g : Int} {h : Hd} : heldF s b g h = true ↔ h.b = b ∧ goodH s h = g := by unfold heldF; simp
theorem fromF_blind (b g : Int) : Blind (fromF b g) := fun _ _ => rfl
theorem heldF_blind (s : St) (b g : Int) : Blind (heldF s b g) := fun _ _ => rfl
theorem from_sum (s : St) (b g : Int) : ∀ n, fromTo s b g n = sumB (fromF b g) (revL s.ms.z n)
  | 0 => rfl
  | n + 1 => by
    show fromTo s b g n + _ = sumB (fromF b g) (revL s.ms.z n) + _
    rw [from_sum s b g n]
    by_cases c : (s.ms.z n).l = b ∧ (s.ms.z n).o = g
    · rw [if_pos c, if_pos (fromF_iff.2 c)]
    · rw [if_neg c, if_neg (fun e => c (fromF_iff.1 e))]
theorem held_sum (s : St) (b g : Int) : ∀ n, heldTo s b g n = sumB (heldF s b g) (revL s.hs.z n)
  | 0 => rfl
  | n + 1 => by
    show heldTo s b g n + _ = sumB (heldF s b g) (revL s.hs.z n) + _
    rw [held_sum s b g n]
    by_cases c : (s.hs.z n).b = b ∧ goodH s (s.hs.z n) = g
    · rw [if_pos c, if_pos (heldF_iff.2 c)]
    · rw [if_neg c, if_neg (fun e => c (heldF_iff.1 e))]
theorem keptS_rev (z : Nat → Hd) (o l : Int) : ∀ n, keptS z o l n = sumB (forL o l) (revL z n)
  | 0 => rfl
  | n + 1 => by
    show keptS z o l n + _ = sumB (forL o l) (revL z n) + _
    rw [keptS_rev z o l n]
    by_cases c : (z n).o = o ∧ (z n).l = l
    · rw [if_pos c, if_pos (forL_iff.2 c)]
    · rw [if_neg c, if_neg (fun e => c (forL_iff.1 e))]
theorem dropH_rev (h : Hs) (bad : Hd → Bool) : revL (dropH h bad).z (dropH h bad).n = (revL h.z h.n).filter (fun x => !bad x) := by
  rw [revL_list, revL_list, List.filter_reverse]
  congr 1
  exact dropH_list h bad
theorem dropH_mem {h : Hs} {bad : Hd → Bool} {i : Nat} (hi : i < (dropH h bad).n) : ∃ j, j < h.n ∧ (dropH h bad).z i = h.z j ∧ bad (h.z j) = false := by
  have hm : (dropH h bad).z i ∈ revL (dropH h bad).z (dropH h bad).n := revL_has hi
  rw [dropH_rev, List.mem_filter] at hm
  obtain ⟨j, hj, e⟩ := revL_mem hm.1
  exact ⟨j, hj, e.symm, by rw [e]; simpa using hm.2⟩
theorem cutHs_rev (f : Hd → Bool) (h : Hs) (m : Int) : revL (cutHs f h m).z (cutHs f h m).n = flt (cutL f m (revL h.z h.n)) := by
  unfold cutHs
  rw [dropH_rev]
  show (revL (cutI f h.n m h.z) h.n).filter _ = _
  rw [cutI_rev]
  rfl
theorem cutHs_mem {f : Hd → Bool} {h : Hs} {m : Int} (hm : 0 ≤ m) (hz : ∀ j, j < h.n → 0 ≤ (h.z j).n) {i : Nat} (hi : i < (cutHs f h m).n) : ∃ j, j < h.n ∧ ((cutHs f h m).z i).o = (h.z j).o ∧ ((cutHs f h m).z i).l = (h.z j).l ∧ ((cutHs f h m).z i).b = (h.z j).b ∧ 1 ≤ ((cutHs f h m).z i).n ∧ ((cutHs f h m).z i).n ≤ (h.z j).n := by
  obtain ⟨j, hj, e, g⟩ := dropH_mem hi
  have k := cutI_key f h.n m h.z hm hz j
  have e' : (cutHs f h m).z i = cutI f h.n m h.z j := e
  have g' : goneH (cutI f h.n m h.z j) = false := g
  rw [e']
  unfold goneH at g'
  have g2 : ¬ (cutI f h.n m h.z j).n = 0 := by simpa using g'
  have := k.2.1 hj
  exact ⟨j, hj, k.1.1, k.1.2.1, k.1.2.2, by omega, k.2.2⟩
theorem cutHs_right {f : Hd → Bool} {h : Hs} {m : Int} (hm : 0 ≤ m) (hr : anyB h.n (badH h.z) = false) : anyB (cutHs f h m).n (badH (cutHs f h m).z) = false := by
  have hz : ∀ j, j < h.n → 0 ≤ (h.z j).n := fun j hj => by have := (fineH_true (right_fine hr j hj)).2.2.2; omega
  have k := cutI_key f h.n m h.z hm hz
  refine dropH_right' (fun i j hij hj => ?_) fun i hi hb => ?_
  · have e : ∀ q, keyH ((cutH0 f h m).z q) = keyH (h.z q) := fun q => by
      show keyH (cutI f h.n m h.z q) = _
      unfold keyH
      rw [(k q).1.1, (k q).1.2.1, (k q).1.2.2]
    rw [e, e]
    exact right_lt hr i j hij hj
  · have q := k i
    have fn := fineH_true (right_fine hr i hi)
    have g2 : ¬ (cutI f h.n m h.z i).n = 0 := by
      have : goneH (cutI f h.n m h.z i) = false := hb
      unfold goneH at this
      simpa using this
    have := q.2.1 hi
    show fineH (cutI f h.n m h.z i) = true
    unfold fineH
    rw [q.1.1, q.1.2.1, q.1.2.2, inB_mk fn.1, inB_mk fn.2.1, inB_mk fn.2.2.1, inB_mk (by omega)]
    rfl
section
variable {p : Pl} {s : St} {b g M : Int}
theorem RightT.moves0 (r : RightT p s) : ∀ h, h ∈ moveR s → 1 ≤ h.n := fun h hh => by
  obtain ⟨j, hj, e⟩ := revL_mem hh
  have := r.fm.moveN j hj
  rw [← e]
  omega
theorem RightT.holds0 (r : RightT p s) : ∀ h, h ∈ holdR s → 1 ≤ h.n := fun h hh => by
  obtain ⟨j, hj, e⟩ := revL_mem hh
  have := r.fm.holdN j hj
  rw [← e]
  omega
theorem RightT.movesP (r : RightT p s) : Pos0 (moveR s) := fun h hh => by have := r.moves0 h hh; omega
theorem RightT.holdsP (r : RightT p s) : Pos0 (holdR s) := fun h hh => by have := r.holds0 h hh; omega
theorem leftM_eq (r : RightT p s) (hM : 0 ≤ M) : leftM s b g M = M - min M (fromTo s b g s.ms.n) ∧ 0 ≤ leftM s b g M := by
  have e := (sumB_cut (fromF_blind b g) r.movesP hM).2
  have k := sumB_nn (P := fromF b g) r.movesP
  have e2 : leftM s b g M = M - min M (sumB (fromF b g) (moveR s)) := e
  rw [from_sum]
  have e3 : sumB (fromF b g) (revL s.ms.z s.ms.n) = sumB (fromF b g) (moveR s) := rfl
  rw [e3]
  omega
theorem cut_kept (s : St) (b g M : Int) (o l : Int) : keptS (cutS s b g M).hs.z o l (cutS s b g M).hs.n = keptS s.hs.z o l s.hs.n - cutQs s b g M o l := by
  rw [keptS_rev, keptS_rev]
  show sumB _ (revL (cutHs (heldF s b g) s.hs (leftM s b g M)).z (cutHs (heldF s b g) s.hs (leftM s b g M)).n) = _
  rw [cutHs_rev, sumB_flt, sumB_line]
  rfl
theorem cutQs_bd (r : RightT p s) (hM : 0 ≤ M) (o l : Int) : 0 ≤ cutQs s b g M o l ∧ cutQs s b g M o l ≤ keptS s.hs.z o l s.hs.n := by
  have h1 := cutQ_nn (heldF s b g) o l r.holdsP (leftM_eq (b := b) (g := g) r hM).2
  refine ⟨h1, ?_⟩
  have e := cut_kept s b g M o l
  have h2 : 0 ≤ sumB (forL o l) (flt (cutL (heldF s b g) (leftM s b g M) (holdR s))) := by
    rw [sumB_flt]
    exact sumB_nn (cutL_pos _ r.holdsP (leftM_eq r hM).2)
  rw [keptS_rev] at e
  have e2 : sumB (forL o l) (revL (cutS s b g M).hs.z (cutS s b g M).hs.n) = sumB (forL o l) (flt (cutL (heldF s b g) (leftM s b g M) (holdR s))) := by
    show sumB _ (revL (cutHs (heldF s b g) s.hs (leftM s b g M)).z (cutHs (heldF s b g) s.hs (leftM s b g M)).n) = _
    rw [cutHs_rev]
    rfl
  omega
theorem cut_held (r : RightT p s) (hM : 0 ≤ M) (b' g' : Int) : heldTo (cutS s b g M) b' g' (cutS s b g M).hs.n = heldTo s b' g' s.hs.n - if b' = b ∧ g' = g then min (leftM s b g M) (heldTo s b g s.hs.n) else 0 := by
  rw [held_sum, held_sum]
  have e1 : heldF (cutS s b g M) b' g' = heldF s b' g' := rfl
  rw [e1]
  show sumB _ (revL (cutHs (heldF s b g) s.hs (leftM s b g M)).z (cutHs (heldF s b g) s.hs (leftM s b g M)).n) = _
  rw [cutHs_rev, sumB_flt]
  have eR : revL s.hs.z s.hs.n = holdR s := rfl
  rw [eR]
  by_cases c : b' = b ∧ g' = g
  · rw [if_pos c, c.1, c.2, (sumB_cut (heldF_blind s b g) r.holdsP (leftM_eq (b := b) (g := g) r hM).2).1, held_sum]
    rfl
  · rw [if_neg c, Int.sub_zero]
    exact sumB_other (fun h hp => by
      cases hf : heldF s b g h
      · rfl
      · have a := heldF_iff.1 hp
        have a' := heldF_iff.1 hf
        exact absurd ⟨a.1.symm.trans a'.1, a.2.symm.trans a'.2⟩ c) (heldF_blind s b' g') _ _
theorem cut_from (r : RightT p s) (hM : 0 ≤ M) (b' g' : Int) : fromTo (cutS s b g M) b' g' (cutS s b g M).ms.n = fromTo s b' g' s.ms.n - if b' = b ∧ g' = g then min M (fromTo s b g s.ms.n) else 0 := by
  rw [from_sum, from_sum]
  show sumB _ (revL (cutHs (fromF b g) s.ms M).z (cutHs (fromF b g) s.ms M).n) = _
  rw [cutHs_rev, sumB_flt]
  have eR : revL s.ms.z s.ms.n = moveR s := rfl
  rw [eR]
  by_cases c : b' = b ∧ g' = g
  · rw [if_pos c, c.1, c.2, (sumB_cut (fromF_blind b g) r.movesP hM).1, from_sum]
    rfl
  · rw [if_neg c, Int.sub_zero]
    exact sumB_other (fun h hp => by
      cases hf : fromF b g h
      · rfl
      · have a := fromF_iff.1 hp
        have a' := fromF_iff.1 hf
        exact absurd ⟨a.1.symm.trans a'.1, a.2.symm.trans a'.2⟩ c) (fromF_blind b' g') _ _
theorem line_kept (r : RightT p s) {i j : Nat} (hi : i < s.os.n) (hj : j < (s.os.z i).ls.n) : keptS s.hs.z i j s.hs.n = 0 ∨ (s.os.z i).k = 1 ∧ ((s.os.z i).ls.z j).b + ((s.os.z i).ls.z j).n + keptS s.hs.z i j s.hs.n = ((s.os.z i).ls.z j).l := by
  have w := r.orders i hi
  unfold wrongOrder at w
  rw [Bool.or_eq_false_iff] at w
  have wl : wrongL (s.os.z i).k ((s.os.z i).ls.z j) (keptS s.hs.z i j s.hs.n) = false := anyB_false w.2 j hj
  have kd := r.fm.kind i hi
  unfold wrongL at wl
  by_cases h0 : (s.os.z i).k = 0
  · rw [if_pos h0] at wl
    simp only [Bool.or_eq_false_iff, Bool.not_eq_false', beq_iff_eq] at wl
    exact Or.inl wl.2
  · rw [if_neg h0] at wl
    by_cases h2 : (s.os.z i).k = 2
    · rw [if_pos h2] at wl
      simp only [Bool.or_eq_false_iff, Bool.not_eq_false', beq_iff_eq] at wl
      exact Or.inl wl.2
    · rw [if_neg h2] at wl
      simp only [Bool.not_eq_false', beq_iff_eq] at wl
      exact Or.inr ⟨by omega, wl⟩
theorem cut_formed (r : RightT p s) (hM : 0 ≤ M) : Formed p (cutS s b g M) := by
  have f := r.fm
  have hz : ∀ j, j < s.hs.n → 0 ≤ (s.hs.z j).n := fun j hj => by have := f.holdN j hj; omega
  have mz : ∀ j, j < s.ms.n → 0 ≤ (s.ms.z j).n := fun j hj => by have := f.moveN j hj; omega
  have L0 := (leftM_eq (b := b) (g := g) r hM).2
  refine ⟨f.sh, f.sh0, f.os4, Nat.le_trans (dropH_le _ _) f.ms8, f.lns, f.kind, fun i hi j hj => ?_, cutHs_right L0 f.hold, fun i hi => ?_, fun i hi => ?_, f.sin, f.son, f.sfn, f.sib, f.sob, f.sfb⟩
  · obtain ⟨b1, b2, b3, b4⟩ := badLine_no (f.line i hi j hj)
    have q := cutQs_bd (b := b) (g := g) r hM i j
    have k := line_kept r hi hj
    show badLine p (moreL ((s.os.z i).ls.z j) (cutQs s b g M i j)) = false
    unfold badLine moreL
    rw [inB_mk (by dsimp only; omega), inB_mk (by dsimp only; omega), inB_mk (by dsimp only; omega), inB_mk (by dsimp only; omega)]
    rfl
  · obtain ⟨j, hj, e1, e2, e3, -, -⟩ := cutHs_mem L0 hz hi
    have h := homeless_no (f.home j hj)
    have e1' : ((cutS s b g M).hs.z i).o = (s.hs.z j).o := e1
    have e2' : ((cutS s b g M).hs.z i).l = (s.hs.z j).l := e2
    have e3' : ((cutS s b g M).hs.z i).b = (s.hs.z j).b := e3
    refine homeless_mk ?_ ?_ ?_
    · rw [e1']; exact h.1
    · rw [e1', e2']; exact h.2.1
    · rw [e3']; exact h.2.2
  · obtain ⟨j, hj, e1, e2, e3, e4, e5⟩ := cutHs_mem hM mz hi
    have h := badMove_no (f.move j hj)
    have e1' : ((cutS s b g M).ms.z i).o = (s.ms.z j).o := e1
    have e2' : ((cutS s b g M).ms.z i).l = (s.ms.z j).l := e2
    have e3' : ((cutS s b g M).ms.z i).b = (s.ms.z j).b := e3
    have e4' : 1 ≤ ((cutS s b g M).ms.z i).n := e4
    have e5' : ((cutS s b g M).ms.z i).n ≤ (s.ms.z j).n := e5
    generalize (cutS s b g M).ms.z i = X at *
    unfold badMove
    rw [e1', e2', e3', inB_mk (by omega), inB_mk (by omega), inB_mk (by omega), inB_mk (by omega)]
    simpa using h.2.2.2.1
theorem cut_orders (r : RightT p s) (hM : 0 ≤ M) (i : Nat) (hi : i < s.os.n) : wrongOrder (cutS s b g M) i = false := by
  have w := r.orders i hi
  unfold wrongOrder at w ⊢
  rw [Bool.or_eq_false_iff] at w ⊢
  refine ⟨w.1, anyB_no fun j hj => ?_⟩
  have wl : wrongL (s.os.z i).k ((s.os.z i).ls.z j) (keptS s.hs.z i j s.hs.n) = false := anyB_false w.2 j hj
  rw [cut_kept]
  show wrongL (s.os.z i).k (moreL ((s.os.z i).ls.z j) (cutQs s b g M i j)) _ = false
  have q := cutQs_bd (b := b) (g := g) r hM i j
  unfold wrongL moreL at *
  by_cases h0 : (s.os.z i).k = 0
  · rw [if_pos h0] at wl ⊢
    simp only [Bool.or_eq_false_iff, Bool.not_eq_false', beq_iff_eq] at wl ⊢
    omega
  · rw [if_neg h0] at wl ⊢
    by_cases h2 : (s.os.z i).k = 2
    · rw [if_pos h2] at wl ⊢
      simp only [Bool.or_eq_false_iff, Bool.not_eq_false', beq_iff_eq] at wl ⊢
      omega
    · rw [if_neg h2] at wl ⊢
      simp only [Bool.not_eq_false', beq_iff_eq] at wl ⊢
      omega
end
section
variable {p : Pl} {s : St} {b g : Nat} {M seen : Int}
theorem cut_avail (r : RightT p s) (hM : 0 ≤ M) (c k : Nat) : availZ (cutS s b g M) c k = availZ s c k + if c = b ∧ k = g then min M (boundZ s b g) else 0 := by
  have h1 := cut_held (b := b) (g := g) r hM c k
  have h2 := cut_from (b := b) (g := g) r hM c k
  have h3 := leftM_eq (b := b) (g := g) r hM
  have h4 := (heldTo_bd (s := s) (b := b) (g := g) (n := s.hs.n) r.fm.holdN).1
  have h5 := (fromTo_bd (s := s) (b := b) (g := g) (n := s.ms.n) r.fm.moveN).1
  unfold availZ boundZ
  rw [h1, h2]
  show (s.on.r c).z k - _ - _ = _
  by_cases e : c = b ∧ k = g
  · rw [if_pos e, if_pos (by omega), if_pos (by omega), h3.1]
    omega
  · rw [if_neg e, if_neg (fun e' => e (by omega)), if_neg (fun e' => e (by omega))]
    omega
theorem cut_right (r : RightT p s) (hM : 0 ≤ M) : RightT p (cutS s b g M) := by
  refine ⟨cut_formed r hM, fun k hk => ?_, fun i hi => cut_orders r hM i hi⟩
  obtain ⟨a1, a2⟩ := goods_no (r.goods k hk)
  refine goods_mk a1 fun c hc => ?_
  rw [cut_avail r hM]
  have := a2 c hc
  have h4 := (heldTo_bd (s := s) (b := b) (g := g) (n := s.hs.n) r.fm.holdN).1
  have h5 := (fromTo_bd (s := s) (b := b) (g := g) (n := s.ms.n) r.fm.moveN).1
  unfold boundZ
  split <;> omega
theorem fixOn_num (s : St) (b g : Nat) (seen : Int) (i j : Nat) : ((fixOn s b g seen).on.r i).z j = if i = b ∧ j = g then seen else (s.on.r i).z j := setOn_num s b g seen i j
theorem fixOn_avail (s : St) (b g : Nat) (seen : Int) (c k : Nat) : availZ (fixOn s b g seen) c k = availZ s c k + if c = b ∧ k = g then seen - (s.on.r b).z g else 0 := by
  have e1 : heldTo (fixOn s b g seen) c k (fixOn s b g seen).hs.n = heldTo s c k s.hs.n := heldTo_eq (x := fixOn s b g seen) (s := s) (fun _ _ => rfl) (fun _ _ => rfl)
  have e2 : fromTo (fixOn s b g seen) c k (fixOn s b g seen).ms.n = fromTo s c k s.ms.n := fromTo_eq (x := fixOn s b g seen) (s := s) (fun _ _ => rfl)
  unfold availZ
  rw [e1, e2, fixOn_num]
  by_cases e : c = b ∧ k = g
  · rw [if_pos e, if_pos e, e.1, e.2]; omega
  · rw [if_neg e, if_neg e]; omega
theorem fixOn_right (r : RightT p s) (hb : b < p.nb) (hg : g < p.ns) (h0 : 0 ≤ seen) (h1 : seen ≤ 200) (hf : -1048576 ≤ s.sf.z g + (seen - (s.on.r b).z g) ∧ s.sf.z g + (seen - (s.on.r b).z g) ≤ 1048576) (ha : 0 ≤ availZ s b g + (seen - (s.on.r b).z g)) : RightT p (fixOn s b g seen) := by
  have f := r.fm
  have rs : RightS p (fixOn s b g seen).on := ⟨f.sh.pl, f.sh.n, fun i hi => (setOn_len s b g seen i).trans (f.sh.len i hi), fun i hi j hj => by
    rw [fixOn_num]
    have nm := f.sh.num i hi j hj
    by_cases c : i = b ∧ j = g
    · rw [if_pos c]; omega
    · rw [if_neg c]; exact nm⟩
  refine ⟨⟨rs, shelfE_mk (rightS f.sh0).1 rs, f.os4, f.ms8, f.lns, f.kind, f.line, f.hold, f.home, f.move, f.sin, f.son, f.sfn, f.sib, f.sob, fun j hj => ?_⟩, fun k hk => ?_, r.orders⟩
  · show -1048576 ≤ (if j = g then _ else s.sf.z j) ∧ (if j = g then _ else s.sf.z j) ≤ 1048576
    have := f.sfb j hj
    split
    · exact hf
    · exact this
  · obtain ⟨a1, a2⟩ := goods_no (r.goods k hk)
    refine goods_mk ?_ fun c hc => ?_
    · show sumTo _ s.on.n = s.si.z k - s.so.z k + (if k = g then _ else s.sf.z k)
      by_cases q : k = g
      · rw [if_pos q]
        have e := sumTo_at (z := fun i => (s.on.r i).z k) (z' := fun i => ((fixOn s b g seen).on.r i).z k) (m := b) (n := seen - (s.on.r b).z g) (k := s.on.n) (by rw [f.sh.n]; exact hb) (fun i hi => by
          rw [fixOn_num]
          by_cases c : i = b
          · rw [if_pos ⟨c, q⟩, if_pos c, c, q]; omega
          · rw [if_neg (fun e => c e.1), if_neg c, Int.add_zero])
        rw [e, a1, q]
        show _ = _ - _ + (s.sf.z g + (seen - (s.on.r b).z g))
        omega
      · rw [if_neg q, ← a1]
        exact sumTo_same fun i hi => by rw [fixOn_num, if_neg (fun e => q e.2)]
    · rw [fixOn_avail]
      have := a2 c hc
      by_cases e : c = b ∧ k = g
      · rw [if_pos e, e.1, e.2]; exact ha
      · rw [if_neg e]; omega
structure CountIn (p : Pl) (s : St) (b g : Nat) (seen : Int) : Prop where
  r : RightT p s
  bn : b < p.nb
  gn : g < p.ns
  s0 : 0 ≤ seen
  s1 : seen ≤ 200
  fx : -1048576 ≤ s.sf.z g + (seen - (s.on.r b).z g) ∧ s.sf.z g + (seen - (s.on.r b).z g) ≤ 1048576
theorem countIn {bin good : Int} (h : countE p s bin good seen = 0) : stateE p s = 0 ∧ ∃ b g : Nat, bin = b ∧ good = g ∧ CountIn p s b g seen := by
  unfold countE at h
  by_cases h0 : stateE p s = 0
  · rw [if_pos h0] at h
    cases h1 : (inB bin 0 ((p.nb : Int) - 1) && inB good 0 ((p.ns : Int) - 1) && inB seen 0 200)
    · rw [h1, if_neg (by decide)] at h; exact absurd h (by decide)
    · rw [h1] at h
      simp only [Bool.and_eq_true] at h1
      have q1 := inB_true h1.1.1
      have q2 := inB_true h1.1.2
      have q3 := inB_true h1.2
      cases h2 : inB (s.sf.z good.toNat + (seen - (s.on.r bin.toNat).z good.toNat)) (-1048576) 1048576
      · rw [h2] at h; exact absurd h (by decide)
      · have q4 := inB_true h2
        obtain ⟨b, rfl⟩ := Int.eq_ofNat_of_zero_le q1.1
        obtain ⟨g, rfl⟩ := Int.eq_ofNat_of_zero_le q2.1
        exact ⟨h0, b, g, rfl, rfl, rightT h0, by omega, by omega, q3.1, q3.2, q4⟩
  · rw [if_neg h0] at h; exact absurd h h0
theorem CountIn.miss0 (h : CountIn p s b g seen) : 0 ≤ missZ s b g seen := by unfold missZ; omega
theorem CountIn.bound (h : CountIn p s b g seen) : 0 ≤ boundZ s b g ∧ boundZ s b g = (s.on.r b).z g - availZ s b g := by
  have h4 := (heldTo_bd (s := s) (b := b) (g := g) (n := s.hs.n) h.r.fm.holdN).1
  have h5 := (fromTo_bd (s := s) (b := b) (g := g) (n := s.ms.n) h.r.fm.moveN).1
  unfold boundZ availZ
  omega
theorem CountIn.cutAv (h : CountIn p s b g seen) : availZ (cutS s b g (missZ s b g seen)) b g = availZ s b g + missZ s b g seen := by
  rw [cut_avail h.r h.miss0, if_pos ⟨rfl, rfl⟩]
  have := h.bound
  have := h.s0
  unfold missZ
  omega
theorem CountIn.right (h : CountIn p s b g seen) : RightT p (countS s b g seen) := by
  refine fixOn_right (cut_right h.r h.miss0) h.bn h.gn h.s0 h.s1 h.fx ?_
  rw [h.cutAv]
  show 0 ≤ _ + (seen - (s.on.r b).z g)
  have := h.bound
  unfold missZ
  omega
theorem CountIn.av (h : CountIn p s b g seen) : availZ (countS s b g seen) b g = max (seen - boundZ s b g) 0 := by
  unfold countS
  rw [fixOn_avail, if_pos ⟨rfl, rfl⟩, h.cutAv]
  show _ + (seen - (s.on.r b).z g) = _
  have := h.bound
  unfold missZ
  omega
theorem CountIn.qin (h : CountIn p s b g seen) : QIn p b (countQ s b g seen) (countS s b g seen) := by
  refine ⟨h.right, fun i j hi hj => ?_, Or.inr ⟨by omega, by have := h.bn; omega⟩⟩
  have hi' : i < s.os.n := hi
  have hj' : j < (s.os.z i).ls.n := hj
  have q := cutQs_bd (b := b) (g := g) (M := missZ s b g seen) h.r h.miss0 i j
  refine ⟨q.1, ?_⟩
  have bl := (badLine_no (h.r.fm.line i hi' j hj')).2.2.2
  rcases line_kept h.r hi' hj' with k | k
  · exact Or.inl (by show cutQs s b g (missZ s b g seen) i j = 0; omega)
  · refine Or.inr ⟨k.1, ?_⟩
    show cutQs s b g (missZ s b g seen) i j ≤ ((s.os.z i).ls.z j).n + cutQs s b g (missZ s b g seen) i j
    omega
theorem CountIn.all (h : CountIn p s b g seen) : TkAll p b (countQ s b g seen) (relM s) (countS s b g seen) s.os.n (countT p s b g seen) := allT_all h.qin (fun _ _ => rfl) (Nat.le_refl s.os.n)
theorem CountIn.pos (h : CountIn p s b g seen) : Pos p b (countQ s b g seen) (countS s b g seen) s.os.n 0 (countT p s b g seen) := TkAll.pos h.qin (fun _ _ => rfl) (Nat.le_refl s.os.n) h.all
theorem count_right (h : CountIn p s b g seen) : RightT p (countT p s b g seen) := h.pos.al.r
end
end Go.Proofs.YtbcacebifpagpaeGreat
namespace Go.Proofs.YtbcacebifpagpaeGreat
open Go.RowKit Go.MapKept Go.ChangeMaps
set_option linter.unusedVariables false
def mkey (o l : Nat) : Value := .agg #[.int .i64 (o : Int), .int .i64 (l : Int)]
theorem mkey_inj {o l o' l' : Nat} (h : mkey o l = mkey o' l') : o = o' ∧ l = l' := by
  unfold mkey at h
  simp only [Value.agg.injEq] at h
  have h1 : (#[.int .i64 (o : Int), .int .i64 (l : Int)] : Array Value)[0]? = (#[.int .i64 (o' : Int), .int .i64 (l' : Int)] : Array Value)[0]? := by rw [h]
  have h2 : (#[.int .i64 (o : Int), .int .i64 (l : Int)] : Array Value)[1]? = (#[.int .i64 (o' : Int), .int .i64 (l' : Int)] : Array Value)[1]? := by rw [h]
  simp at h1 h2
  omega
set_option maxRecDepth 100000 in
theorem key_law : WideMaps.KeyLaw Tryz.prog 83 :=
  deep_law_gate (show laidOutB Tryz.prog = true by kernel_rfl) (of_decide_eq_true (by kernel_rfl)) (of_decide_eq_true (by kernel_rfl)) (by kernel_rfl) (by kernel_rfl)
set_option maxRecDepth 100000 in
theorem mkey_all : ((List.range 4).all fun o => (List.range 3).all fun l => (keyOf Tryz.prog 83 (mkey o l)).isSome) = true := by kernel_rfl
theorem mkey_of {o l : Nat} (ho : o < 4) (hl : l < 3) : ∃ k, keyOf Tryz.prog 83 (mkey o l) = some k :=
  Option.isSome_iff_exists.1 (List.all_eq_true.1 (List.all_eq_true.1 mkey_all o (List.mem_range.2 ho)) l (List.mem_range.2 hl))
theorem map_under : Tryz.prog.underlying 42 = some (.map 83 3) := by kernel_rfl
def MapQ (w : World) (r : Nat) (q : Int → Int → Int) : Prop := ∃ es clock, w.heap[r]? = some (.map es clock) ∧ Stamped es clock ∧ (∀ x, x ∈ es.toList → ∃ o l : Nat, o < 4 ∧ l < 3 ∧ x.key = mkey o l ∧ x.val = .int .i64 (q o l)) ∧ ∀ o l : Nat, o < 4 → l < 3 → (∀ x, x ∈ es.toList → x.key ≠ mkey o l) → q o l = 0
theorem MapQ.lt {w : World} {r : Nat} {q : Int → Int → Int} (h : MapQ w r q) : r < w.heap.size := by
  obtain ⟨es, c, h1, -⟩ := h
  exact (Array.getElem?_eq_some_iff.1 h1).1
theorem MapQ.same {w w' : World} {r : Nat} {q : Int → Int → Int} (h : MapQ w r q) (e : w'.heap[r]? = w.heap[r]?) : MapQ w' r q := by
  obtain ⟨es, c, h1, h2⟩ := h
  exact ⟨es, c, e.trans h1, h2⟩
theorem MapQ.below {w w' : World} {r : Nat} {q : Int → Int → Int} (h : MapQ w r q) (hB : Below w.heap.size w w') : MapQ w' r q := h.same (hB.block r h.lt)
theorem MapQ.set {w : World} {r : Nat} {q : Int → Int → Int} (h : MapQ w r q) {g j : Nat} (hne : r ≠ g) (u : Value) : MapQ (w.setCell ⟨g, j, none⟩ u) r q := h.same (Below.heap_setCell w ⟨g, j, none⟩ u r hne)
theorem MapQ.new (w : World) : MapQ (w.alloc (.map #[] 0)) w.heap.size (fun _ _ => 0) := by
  refine ⟨#[], 0, (heap_alloc w _).1, stamped_empty 0, fun x hx => by simp at hx, fun _ _ _ _ _ => rfl⟩
theorem MapQ.congr {w : World} {r : Nat} {q q' : Int → Int → Int} (h : MapQ w r q) (e : ∀ o l : Nat, o < 4 → l < 3 → q' o l = q o l) : MapQ w r q' := by
  obtain ⟨es, c, h1, h2, h3, h4⟩ := h
  refine ⟨es, c, h1, h2, fun x hx => ?_, fun o l ho hl hn => by rw [e o l ho hl]; exact h4 o l ho hl hn⟩
  obtain ⟨o, l, ho, hl, hk, hv⟩ := h3 x hx
  exact ⟨o, l, ho, hl, hk, by rw [e o l ho hl]; exact hv⟩
theorem MapQ.keys {es : Array MapEntry} {q : Int → Int → Int} (h3 : ∀ x, x ∈ es.toList → ∃ o l : Nat, o < 4 ∧ l < 3 ∧ x.key = mkey o l ∧ x.val = .int .i64 (q o l)) : ∀ e ∈ es.toList, ∃ l, keyOf Tryz.prog 83 e.key = some l := fun e he => by
  obtain ⟨o, l, ho, hl, hk, -⟩ := h3 e he
  rw [hk]
  exact mkey_of ho hl
theorem map_look {w : World} {r : Nat} {q : Int → Int → Int} (h : MapQ w r q) {o l : Nat} (ho : o < 4) (hl : l < 3) : (Instr.lookup 42 (.map (some r)) (mkey o l) false).run Tryz.prog w = .ok (.int .i64 (q o l)) w := by
  obtain ⟨es, c, h1, h2, h3, h4⟩ := h
  obtain ⟨k, hk⟩ := mkey_of ho hl
  rcases key_law.find w hk es.toList (MapQ.keys h3) with ⟨f1, f2⟩ | ⟨j, e, f1, f2, f3⟩
  · have h0 := h4 o l ho hl f2
    simp [Instr.lookup, run_underlying map_under, MapKept.run_getObj_map h1, key_law.check w _ hk, f1, Result.andThen, h0]
  · obtain ⟨o', l', -, -, hk', hv⟩ := h3 e (List.mem_of_getElem? f2)
    rw [f3] at hk'
    obtain ⟨rfl, rfl⟩ := mkey_inj hk'
    simp [Instr.lookup, run_underlying map_under, MapKept.run_getObj_map h1, key_law.check w _ hk, f1, Result.andThen, hv]
def setQ (q : Int → Int → Int) (o l : Nat) (v : Int) (a b : Int) : Int := if a = o ∧ b = l then v else q a b
structure KeepR (r : Nat) (w w' : World) : Prop where
  os : w'.os = w.os
  tape : w'.tape = w.tape
  output : w'.output = w.output
  size : w'.heap.size = w.heap.size
  block : ∀ k, k ≠ r → w'.heap[k]? = w.heap[k]?
theorem keepR_set {w : World} {r : Nat} {x : Obj} (o : Obj) (h : w.heap[r]? = some x) : KeepR r w (setBlock w r o) := ⟨rfl, rfl, rfl, by simp [setBlock], (heap_set h).2⟩
theorem KeepR.trans {r : Nat} {a b c : World} (h : KeepR r a b) (k : KeepR r b c) : KeepR r a c := ⟨k.os.trans h.os, k.tape.trans h.tape, k.output.trans h.output, k.size.trans h.size, fun q hq => (k.block q hq).trans (h.block q hq)⟩
theorem KeepR.below {A r : Nat} {a b c : World} (k : KeepR r b c) (h : Below A a b) (hr : A ≤ r) : Below A a c := ⟨k.os.trans h.os, k.tape.trans h.tape, k.output.trans h.output, by rw [k.size]; exact h.size, fun q hq => (k.block q (by omega)).trans (h.block q hq)⟩
theorem map_entry {w : World} {r : Nat} {q : Int → Int → Int} (h : MapQ w r q) {o l : Nat} (ho : o < 4) (hl : l < 3) :
    ∃ (v0 : Value) (st : Nat) (w1 : World), (Instr.mapEntry 42 (.map (some r)) (mkey o l)).run Tryz.prog w = .ok (.tuple #[v0, goInt st]) w1 ∧ KeepR r w w1 ∧ MapQ w1 r q ∧
      ∀ v : Int, ∃ w2, (Instr.entryStore 42 (.map (some r)) (goInt st) (.int .i64 v)).run Tryz.prog w1 = .ok () w2 ∧ MapQ w2 r (setQ q o l v) ∧ KeepR r w w2 := by
  obtain ⟨es, c, h1, h2, h3, h4⟩ := h
  obtain ⟨k, hk⟩ := mkey_of ho hl
  obtain ⟨s1, s2, s3⟩ := h2
  have hlt := (Array.getElem?_eq_some_iff.1 h1).1
  rcases key_law.find w hk es.toList (MapQ.keys h3) with ⟨f1, f2⟩ | ⟨j, e, f1, f2, f3⟩
  · refine ⟨.int .i64 0, c, setBlock w r (.map (es.push ⟨mkey o l, .int .i64 0, c⟩) (c + 1)), ?_, keepR_set _ h1, ⟨_, _, (heap_set h1).1, stamped_push ⟨s1, s2, s3⟩ f2, fun x hx => ?_, fun a b ha hb hn => h4 a b ha hb fun x hx => hn x (by rw [Array.toList_push]; simp [hx])⟩, fun v => ?_⟩
    · simp [Instr.mapEntry, run_underlying map_under, MapKept.run_getObj_map h1, key_law.check w false hk, f1, MapKept.run_setObj_map _ h1, Result.andThen, setBlock]
    · rw [Array.toList_push, List.mem_append, List.mem_singleton] at hx
      rcases hx with hx | rfl
      · exact h3 x hx
      · exact ⟨o, l, ho, hl, rfl, by rw [h4 o l ho hl f2]⟩
    · have hw1 : (setBlock w r (.map (es.push ⟨mkey o l, .int .i64 0, c⟩) (c + 1))).heap[r]? = some (.map (es.push ⟨mkey o l, .int .i64 0, c⟩) (c + 1)) := (heap_set h1).1
      have st1 : Stamped (es.push ⟨mkey o l, .int .i64 0, c⟩) (c + 1) := stamped_push ⟨s1, s2, s3⟩ f2
      have hidx : (es.push ⟨mkey o l, .int .i64 0, c⟩).findIdx? (fun e => ((e.born : Nat) : Int) == ((c : Nat) : Int)) = some es.size := by
        rw [WideElems.findIdx_arr]
        exact WideElems.findIdx_born (l := (es.push ⟨mkey o l, .int .i64 0, c⟩).toList) (j := es.size) (e0 := ⟨mkey o l, .int .i64 0, c⟩) st1.2.1 (by simp)
      have hmod : (es.push ⟨mkey o l, .int .i64 0, c⟩).modify es.size (fun e => { e with val := .int .i64 v }) = es.push ⟨mkey o l, .int .i64 v, c⟩ := by
        apply Array.ext'
        rw [Array.toList_modify, Array.toList_push, Array.toList_push, ← Array.length_toList, WideElems.modify_last]
      refine ⟨setBlock (setBlock w r (.map (es.push ⟨mkey o l, .int .i64 0, c⟩) (c + 1))) r (.map (es.push ⟨mkey o l, .int .i64 v, c⟩) (c + 1)), ?_, ⟨_, _, (heap_set hw1).1, stamped_push ⟨s1, s2, s3⟩ f2, fun x hx => ?_, fun a b ha hb hn => ?_⟩, (keepR_set _ h1).trans (keepR_set _ hw1)⟩
      · generalize setBlock w r (.map (es.push ⟨mkey o l, .int .i64 0, c⟩) (c + 1)) = W1 at hw1 ⊢
        simp [Instr.entryStore, MapKept.run_getObj_map hw1, asInt, asIntOf, goInt, hidx, hmod, MapKept.run_setObj_map _ hw1, Result.andThen, setBlock]
      · rw [Array.toList_push, List.mem_append, List.mem_singleton] at hx
        rcases hx with hx | rfl
        · obtain ⟨a, b, ha, hb, hk', hv⟩ := h3 x hx
          refine ⟨a, b, ha, hb, hk', ?_⟩
          have : ¬ ((a : Int) = o ∧ (b : Int) = l) := fun e => f2 x hx (by rw [hk', show a = o by omega, show b = l by omega])
          rw [hv]
          unfold setQ
          rw [if_neg this]
        · refine ⟨o, l, ho, hl, rfl, ?_⟩
          unfold setQ
          rw [if_pos ⟨rfl, rfl⟩]
      · have hne : ¬ ((a : Int) = o ∧ (b : Int) = l) := fun e => hn ⟨mkey o l, .int .i64 v, c⟩ (by rw [Array.toList_push]; simp) (by show mkey o l = mkey a b; rw [show a = o by omega, show b = l by omega])
        unfold setQ
        rw [if_neg hne]
        exact h4 a b ha hb fun x hx => hn x (by rw [Array.toList_push]; simp [hx])
  · have hj : es[j]? = some e := by simpa using f2
    have hsame : es.modify j (fun e => { e with key := mkey o l }) = es := by
      apply Array.ext'
      rw [Array.toList_modify, ChangeMaps.modify_eq_set _ _ _ _ f2]
      have : ({ e with key := mkey o l } : MapEntry) = e := by rw [← f3]
      rw [this]
      exact WideElems.set_self _ _ _ f2
    have hw1 : (setBlock w r (.map es c)).heap[r]? = some (.map es c) := (heap_set h1).1
    refine ⟨e.val, e.born, setBlock w r (.map es c), ?_, keepR_set _ h1, ⟨es, c, hw1, ⟨s1, s2, s3⟩, h3, h4⟩, fun v => ?_⟩
    · simp [Instr.mapEntry, run_underlying map_under, MapKept.run_getObj_map h1, key_law.check w false hk, f1, hj, f3, key_law.stays w hk, hsame, MapKept.run_setObj_map _ h1, Result.andThen, setBlock]
    · have hidx : es.findIdx? (fun x => ((x.born : Nat) : Int) == ((e.born : Nat) : Int)) = some j := by
        rw [WideElems.findIdx_arr]
        exact WideElems.findIdx_born s2 f2
      have ml : (es.modify j (fun e => { e with val := .int .i64 v })).toList = es.toList.set j { e with val := .int .i64 v } := by
        rw [Array.toList_modify, ChangeMaps.modify_eq_set _ _ _ _ f2]
      have mem : ∀ x, x ∈ (es.modify j (fun e => { e with val := .int .i64 v })).toList → x = { e with val := .int .i64 v } ∨ x ∈ es.toList ∧ x.key ≠ mkey o l := fun x hx => by
        rw [ml] at hx
        obtain ⟨i, hi, hx⟩ := List.mem_iff_getElem.1 hx
        rw [List.getElem_set] at hx
        by_cases hij : j = i
        · rw [if_pos hij] at hx
          exact Or.inl hx.symm
        · rw [if_neg hij] at hx
          have hi' : i < es.toList.length := by rw [List.length_set] at hi; exact hi
          have hj' : j < es.toList.length := (List.getElem?_eq_some_iff.1 f2).1
          refine Or.inr ⟨by rw [← hx]; exact List.getElem_mem hi', fun ek => ?_⟩
          have ej : es.toList[j] = e := (List.getElem?_eq_some_iff.1 f2).2
          rcases Nat.lt_or_gt_of_ne hij with h' | h'
          · exact (List.pairwise_iff_getElem.1 (List.pairwise_map.1 s3)) j i hj' hi' h' (by rw [ej, f3, hx, ek])
          · exact (List.pairwise_iff_getElem.1 (List.pairwise_map.1 s3)) i j hi' hj' h' (by rw [ej, f3, hx, ek])
      obtain ⟨o', l', -, -, hk', hv'⟩ := h3 e (List.mem_of_getElem? f2)
      have hin : ({ e with val := .int .i64 v } : MapEntry) ∈ (es.modify j (fun e => { e with val := .int .i64 v })).toList := by
        rw [ml]
        exact List.mem_iff_getElem.2 ⟨j, by rw [List.length_set]; exact (List.getElem?_eq_some_iff.1 f2).1, by simp⟩
      refine ⟨setBlock (setBlock w r (.map es c)) r (.map (es.modify j (fun e => { e with val := .int .i64 v })) c), ?_, ⟨_, _, (heap_set hw1).1, stamped_modify ⟨s1, s2, s3⟩ j _ (fun _ _ => rfl) (fun _ _ _ => rfl), fun x hx => ?_, fun a b ha hb hn => ?_⟩, (keepR_set _ h1).trans (keepR_set _ hw1)⟩
      · generalize setBlock w r (.map es c) = W1 at hw1 ⊢
        simp [Instr.entryStore, MapKept.run_getObj_map hw1, asInt, asIntOf, goInt, hidx, MapKept.run_setObj_map _ hw1, Result.andThen, setBlock]
      · rcases mem x hx with rfl | ⟨hx, hne⟩
        · refine ⟨o, l, ho, hl, f3, ?_⟩
          unfold setQ
          rw [if_pos ⟨rfl, rfl⟩]
        · obtain ⟨a, b, ha, hb, hk2, hv⟩ := h3 x hx
          refine ⟨a, b, ha, hb, hk2, ?_⟩
          have : ¬ ((a : Int) = o ∧ (b : Int) = l) := fun e => hne (by rw [hk2, show a = o by omega, show b = l by omega])
          rw [hv]
          unfold setQ
          rw [if_neg this]
      · have hne : ¬ ((a : Int) = o ∧ (b : Int) = l) := fun e' => hn _ hin (by show e.key = _; rw [f3, show a = o by omega, show b = l by omega])
        unfold setQ
        rw [if_neg hne]
        refine h4 a b ha hb fun x hx ek => ?_
        obtain ⟨i, hi, hxi⟩ := List.mem_iff_getElem.1 hx
        by_cases hij : j = i
        · subst hij
          have : x = e := by rw [← hxi]; exact (List.getElem?_eq_some_iff.1 f2).2
          rw [this, f3] at ek
          obtain ⟨rfl, rfl⟩ := mkey_inj ek
          exact hne ⟨rfl, rfl⟩
        · exact hn x (by
            rw [ml]
            exact List.mem_iff_getElem.2 ⟨i, by rw [List.length_set]; exact hi, by rw [List.getElem_set_ne hij]; exact hxi⟩) ek
end Go.Proofs.YtbcacebifpagpaeGreat
namespace Go.Proofs.YtbcacebifpagpaeGreat
open Go.RowKit
set_option linter.unusedVariables false
def CellsKept (A B : World) : Prop := A.heap.size ≤ B.heap.size ∧ ∀ (g : Nat) (cur : Array Value) (e : TypeId) (z : Nat × Nat), A.heap[g]? = some (.cells cur e z) → B.heap[g]? = A.heap[g]?
theorem CellsKept.of {A B : World} {row : Option Nat} (hg : A.grownBy B row) (hr : ∀ r, row = some r → ∃ o : Obj, A.heap[r]? = some o ∧ o.isCells = false) : CellsKept A B :=
  ⟨hg.size, fun g cur e z h => hg.block g (Array.getElem?_eq_some_iff.1 h).1 (fun k => by
    obtain ⟨o, ho, hc⟩ := hr g k.symm
    rw [h] at ho
    cases ho
    cases hc)⟩
theorem Blk.ck {A B : World} {g : Nat} {e : TypeId} {n : Nat} {f : Nat → Value} (h : Blk A g e n f) (k : CellsKept A B) : Blk B g e n f := by
  obtain ⟨cur, hc, hr⟩ := h
  exact Blk.same ⟨cur, hc, hr⟩ (k.2 g cur e (0, 0) hc)
theorem OwnI.ck {M : Nat} {A B : World} {r : Rw} (h : OwnI M A r) (k : CellsKept A B) : OwnI M B r := by
  obtain ⟨g, ha, h0, h1, h2, hb⟩ := h
  exact ⟨g, ha, h0, h1, h2, hb.ck k⟩
theorem Room.ck {M : Nat} {A B : World} {e : TypeId} {size : Nat} {a : Option Addr} {c : Nat} (h : Room M A e size a c) (k : CellsKept A B) : Room M B e size a c :=
  h.same fun g cur hg => k.2 g cur e (0, 0) hg
theorem OwnO.ck {M : Nat} {A B : World} {s : Os} (h : OwnO M A s) (k : CellsKept A B) : OwnO M B s := by
  refine ⟨h.le, h.cap, fun hn => ?_, fun i hi => ?_, h.apart, h.room.ck k⟩
  · obtain ⟨g, a, b, c⟩ := h.list hn
    exact ⟨g, a, b, c.ck k⟩
  · obtain ⟨C, a, b, c, d, e⟩ := h.lines i hi
    exact ⟨C, a, b, c, d, e.ck k⟩
theorem OwnH.ck {M : Nat} {e : TypeId} {A B : World} {s : Hs} (h : OwnH M e A s) (k : CellsKept A B) : OwnH M e B s := by
  obtain ⟨h1, h2, h3, h4⟩ := h
  refine ⟨h1, h2, h3, fun hn => ?_⟩
  obtain ⟨g, ha, hA, hb⟩ := h4 hn
  exact ⟨g, ha, hA, hb.ck k⟩
theorem OwnS.ck {M : Nat} {A B : World} {s : St} (h : OwnS M A s) (k : CellsKept A B) : OwnS M B s := by
  refine ⟨?_, fun i hi => (h.rows i hi).ck k, h.rapart, h.os.ck k, h.hs.ck k, h.ms.ck k, h.msr.ck k, h.si.ck k, h.so.ck k, h.sf.ck k, h.aio, h.aif, h.aof, h.ari⟩
  obtain ⟨g, ha, h0, h1, h2, hb⟩ := h.on
  exact ⟨g, ha, h0, h1, h2, hb.ck k⟩
theorem OwnS.low {M M' : Nat} {A : World} {s : St} (h : OwnS M A s) (hM : M' ≤ M) : OwnS M' A s := by
  refine ⟨?_, fun i hi => ?_, h.rapart, h.os.mono hM, h.hs.mono hM, h.ms.mono hM, h.msr.mono hM, ?_, ?_, ?_, h.aio, h.aif, h.aof, h.ari⟩
  · obtain ⟨g, ha, h0, h1⟩ := h.on
    exact ⟨g, ha, Nat.le_trans hM h0, h1⟩
  · obtain ⟨g, ha, h0, h1⟩ := h.rows i hi
    exact ⟨g, ha, Nat.le_trans hM h0, h1⟩
  · obtain ⟨g, ha, h0, h1⟩ := h.si
    exact ⟨g, ha, Nat.le_trans hM h0, h1⟩
  · obtain ⟨g, ha, h0, h1⟩ := h.so
    exact ⟨g, ha, Nat.le_trans hM h0, h1⟩
  · obtain ⟨g, ha, h0, h1⟩ := h.sf
    exact ⟨g, ha, Nat.le_trans hM h0, h1⟩
theorem CellsKept.below {A B : World} (h : Below A.heap.size A B) : CellsKept A B := ⟨h.size, fun g cur e z hg => h.block g (Array.getElem?_eq_some_iff.1 hg).1⟩
theorem Grew.keeps {A : Nat} {e : TypeId} {w w' : World} (h : Grew A e w w') : KeepsOthers w w' := by
  obtain ⟨row, hg, hr⟩ := h
  refine ⟨hg.size, fun k o hk ho => ?_⟩
  refine (hg.block k (Array.getElem?_eq_some_iff.1 hk).1 fun e' => ?_).trans hk
  obtain ⟨_, cur, hc⟩ := hr k e'.symm
  rw [hk] at hc
  cases hc
  cases ho
end Go.Proofs.YtbcacebifpagpaeGreat
namespace Go.Proofs.YtbcacebifpagpaeGreat
open Go.RowKit
set_option linter.unusedVariables false
def vKind3 (o : Oper) : Bool := vKind2 o || match o.op with
  | .extract .. => true
  | .build .. => true
  | .field .. => true
  | .index .. => true
  | .unOp .. => true
  | _ => false
theorem vKind3_spec {P : Program} {o : Oper} {ρ : Operand → Value} {w w' : World} {n : Next} (hv : vKind3 o = true) (h : (execOp ρ o).run P w = .ok n w') : ∃ v, n = .value v := by
  unfold vKind3 at hv
  rw [Bool.or_eq_true] at hv
  rcases hv with hv | hv
  · exact vKind2_spec hv h
  · unfold execOp at h
    split at hv
    all_goals first
      | (cases hv; done)
      | (rename_i hx; rw [hx] at h; exact valued h)
theorem wpAnyT_firsts3 {P : Program} {l : List Oper} {Q : Exit → Act → World → Prop} {S : World → Prop} {T : Nat → Bool} {N : Nat} {K : Act → Prop} {w : World} {fuel : Nat} (hs : Region.noSelect l.toArray = true) (hS : S w) (hQ : ∀ c a a' w, Q (.panic c) a w → Q (.panic c) a' w) :
    ∀ (ks : List Nat) (os : List Oper) (listed : Array Bool) (a : Act), firstsB l.toArray ks listed = true → (∀ k ∈ ks, T k = false ∧ ∀ j, T j = true → reach l.toArray N j k = true) → Closed l.toArray listed → ks.map (fun k => l[k]?) = os.map some → (os.all vKind3) = true →
      wpQuiet P l.toArray S K os a → (∀ a, K a → Closed l.toArray (mark listed ks) → wpAnyT P l.toArray Q S T fuel (mark listed ks) a w) → wpAnyT P l.toArray Q S T (ks.length + fuel) listed a w
  | [], [], listed, a, _, _, hc, _, _, h, hK => by rw [List.length_nil, Nat.zero_add]; exact hK a h hc
  | k :: ks, o :: os, listed, a, hB, hTk, hc, hk, hv, h, hK => by
    simp only [List.map_cons, List.cons.injEq] at hk
    simp only [List.all_cons, Bool.and_eq_true] at hv
    simp only [firstsB, Bool.and_eq_true] at hB
    rw [List.length_cons, Nat.add_right_comm]
    have hready : k ∈ Region.ready .any l.toArray listed := by simpa using hB.1.1
    have go : ∀ v, YieldsIf P l.toArray S o v a → wpAnyT P l.toArray Q S T (ks.length + fuel) (listed.setIfInBounds k true) (a.put o.dst v) w → wpAnyT P l.toArray Q S T (ks.length + fuel + 1) listed a w :=
      fun v hy h' => wpAnyT_first (N := N) (by simpa using hk.1) (Region.noSelect_spec hs) (fun c a w hq => hQ _ _ _ _ hq) (hTk k (by simp)).2 (hTk k (by simp)).1 _ listed a w (Region.free_spec (by simpa using hk.1) hB.1.2) hready hc hy hS h'
    have again := fun (a : Act) (hq : wpQuiet P l.toArray S K os a) => wpAnyT_firsts3 (N := N) (T := T) (fuel := fuel) hs hS hQ ks os _ a hB.2 (fun k' hk' => hTk k' (by simp [hk'])) (hc.set hready) hk.2 hv.2 hq hK
    unfold wpQuiet at h
    split at h
    · rename_i hw
      obtain ⟨v, h1, h2⟩ := h
      refine go v (.inl ⟨hw, fun w' hS => ?_⟩) (again _ h2)
      have := h1 w' hS
      unfold Oper.quietAt at this
      cases hr : (execOp a.eval o).run P w' with
      | ok n w2 =>
        rw [hr] at this
        obtain ⟨u, rfl⟩ := vKind3_spec hv.1 hr
        simp only [Oper.quietUpon] at this
        rw [this.1, this.2]
      | halt x w2 => rw [hr] at this; exact this.elim
    · rename_i hw
      exact go undef (.inr ⟨by simpa using hw, rfl⟩) (again _ h)
  | [], _ :: _, _, _, _, _, _, hk, _, _, _ => by simp at hk
  | _ :: _, [], _, _, _, _, _, hk, _, _, _ => by simp at hk
def laterOf (n : Nat) (listed : Array Bool) : List Nat := (List.range n).filter (fun i => !listed.getD i true)
def phB (ops : Array Oper) : List (Bool × List Nat × Option Nat) → Array Bool → Bool
  | [], listed => Region.ready .any ops listed == []
  | (t, ks, c) :: r, listed => firstsB ops ks listed && ks.all (fun k => decide (k < ops.size)) && ks.all (fun k => !(laterOf ops.size (mark listed ks)).contains k) && (!t || ks.all (fun k => (laterOf ops.size (mark listed ks)).all (fun j => reach ops ops.size j k))) &&
      (match c with | some c => (Region.ready .any ops (mark listed ks) == [c]) && phB ops r ((mark listed ks).setIfInBounds c true) | none => phB ops r (mark listed ks))
def phN : List (Bool × List Nat × Option Nat) → Nat
  | [] => 0
  | (_, ks, some _) :: r => ks.length + (phN r + 1)
  | (_, ks, none) :: r => ks.length + phN r
def wpPh (P : Program) (l : List Oper) (Q : Exit → Act → World → Prop) : List (Bool × List Nat × Option Nat) → Act → World → Prop
  | [], a, w => Q .normal a w
  | (t, ks, some c) :: r, a, w => ∃ S : World → Prop, S w ∧ (t = false → ∀ w', S w') ∧ wpQuiet P l.toArray S (fun a1 => wpOp P l.toArray Q c (fun a2 w2 => wpPh P l Q r a2 w2) a1 w) (picks l ks) a
  | (t, ks, none) :: r, a, w => ∃ S : World → Prop, S w ∧ (t = false → ∀ w', S w') ∧ wpQuiet P l.toArray S (fun a1 => wpPh P l Q r a1 w) (picks l ks) a
theorem wpAnyT_of_any {P : Program} {ops : Array Oper} {Q : Exit → Act → World → Prop} {S : World → Prop} {T : Nat → Bool} : ∀ (fuel : Nat) (listed : Array Bool) (a : Act) (w : World), (∀ i, listed.getD i true = false → i < ops.size → T i = true ∨ ∀ w, S w) → wpAny P .any ops Q fuel listed a w → wpAnyT P ops Q S T fuel listed a w
  | 0, _, _, _, _, h => h
  | fuel + 1, listed, a, w, hT, h => ⟨h.1, fun i hi => wpOp_mono (fun a' w' h' => ⟨fun hTi => by
      obtain ⟨h1, o, h2, _⟩ := mem_ready.1 hi
      rcases hT i h1 (Array.getElem?_eq_some_iff.1 h2).1 with e | e
      · rw [e] at hTi; cases hTi
      · exact e w', wpAnyT_of_any fuel _ a' w' (fun j hj hjs => hT j (by
      by_cases e : i = j
      · subst e
        exact (mem_ready.1 hi).1
      · rw [getD_set_ne true e] at hj; exact hj) hjs) h'⟩) (h.2 i hi)⟩
theorem wpAny_ph {P : Program} {l : List Oper} {Q : Exit → Act → World → Prop} (hs : Region.noSelect l.toArray = true) (hQ : ∀ c a a' w, Q (.panic c) a w → Q (.panic c) a' w) : ∀ (ph : List (Bool × List Nat × Option Nat)) (listed : Array Bool) (a : Act) (w : World),
      phB l.toArray ph listed = true → (ph.all (fun x => (picks l x.2.1).all vKind3)) = true → Closed l.toArray listed → wpPh P l Q ph a w → wpAny P .any l.toArray Q (phN ph) listed a w
  | [], listed, a, w, hB, _, _, h => ⟨by simpa [phB] using hB, h⟩
  | (t, ks, c) :: r, listed, a, w, hB, hv, hcl, h => by
    simp only [phB, Bool.and_eq_true] at hB
    obtain ⟨⟨⟨⟨b1, b2⟩, b3⟩, b4⟩, b5⟩ := hB
    simp only [List.all_cons, Bool.and_eq_true] at hv
    have key := fun (S : World → Prop) (K : Act → Prop) (f : Nat) (hS : S w) (hST : t = false → ∀ w', S w') (hq : wpQuiet P l.toArray S K (picks l ks) a) (hK : ∀ a1, K a1 → Closed l.toArray (mark listed ks) → wpAny P .any l.toArray Q f (mark listed ks) a1 w) => wpAny_of_T _ _ _ _ (wpAnyT_firsts3 (P := P) (Q := Q) (S := S) (T := fun i => t && (laterOf l.toArray.size (mark listed ks)).contains i) (N := l.toArray.size) (fuel := f) (w := w) hs hS hQ ks (picks l ks) listed a b1
      (fun k hk => ⟨by
        have := List.all_eq_true.1 b3 k hk
        rw [Bool.not_eq_true'] at this
        rw [this, Bool.and_false], fun j hj => by
        rw [Bool.and_eq_true] at hj
        have b4' := b4
        rw [hj.1] at b4'
        simp only [Bool.not_true, Bool.false_or] at b4'
        exact List.all_eq_true.1 (List.all_eq_true.1 b4' k hk) j (by simpa using hj.2)⟩)
      hcl (picks_ok (by simpa using b2)) hv.1 hq (fun a1 h1 hcl1 => by
        refine wpAnyT_of_any _ _ _ _ (fun i hi his => ?_) (hK a1 h1 hcl1)
        cases t with
        | false => exact Or.inr (hST rfl)
        | true =>
          left
          have : i ∈ laterOf l.toArray.size (mark listed ks) := by
            unfold laterOf
            rw [List.mem_filter, List.mem_range]
            exact ⟨his, by rw [hi]; rfl⟩
          simpa using this))
    cases c with
    | none =>
      obtain ⟨S, hS, hST, hq⟩ := h
      exact key S _ (phN r) hS hST hq fun a1 h1 hcl1 => wpAny_ph hs hQ r _ a1 w b5 hv.2 hcl1 h1
    | some c =>
      obtain ⟨S, hS, hST, hq⟩ := h
      simp only [Bool.and_eq_true] at b5
      have hready : Region.ready .any l.toArray (mark listed ks) = [c] := by simpa using b5.1
      refine key S _ (phN r + 1) hS hST hq fun a1 h1 hcl1 => ?_
      refine ⟨fun e => (by rw [hready] at e; cases e), fun i hi => ?_⟩
      have hic : i = c := by rw [hready] at hi; simpa using hi
      subst hic
      exact wpOp_mono (fun a2 w2 h2 => wpAny_ph hs hQ r _ a2 w2 b5.2 hv.2 (hcl1.set hi) h2) h1
theorem wp_region_ph {P : Program} {l : List Oper} {Q : Exit → Act → World → Prop} {id : Nat} {a : Act} {w : World} (ph : List (Bool × List Nat × Option Nat))
    (hm : P.follows .mixedOrders = true) (hs : Region.noSelect l.toArray = true) (hB : phB l.toArray ph (Array.replicate l.length false) = true) (hv : (ph.all (fun x => (picks l x.2.1).all vKind3)) = true) (hl : phN ph = l.length)
    (h : wpPh P l (NoPanic Q) ph a w.drew) : (Code.region id l.toArray true).wp P Q a w := by
  refine wp_region_noPanic (wp_region_any hm ?_)
  have := wpAny_ph (Q := NoPanic Q) hs (fun c a a' w h => (h : False).elim) ph _ a w.drew hB hv (Closed.none _ _) h
  rw [hl] at this
  simpa using this
theorem wpOp_one {P : Program} {l : List Oper} {Q : Exit → Act → World → Prop} {K : Act → World → Prop} (k : Nat) {o : Oper} {a : Act} {w : World} (hk : l[k]? = some o)
    (h : wpList P l.toArray (Exit.then K Q) [o] a w) : wpOp P l.toArray Q k K a w := wpOp_list k hk h
end Go.Proofs.YtbcacebifpagpaeGreat
namespace Go.Proofs.YtbcacebifpagpaeGreat
open Go.RowKit Go.Shelf Go.Sort
set_option linter.unusedVariables false
theorem OwnI.keepM {A g n : Nat} {w w' : World} {r : Rw} {f : Nat → Value} (h : OwnI A w r) (hg : Blk w g 56 n f) (K : KeepG g w w') : OwnI A w' r := by
  obtain ⟨q, ha, h0, h1, h2, hb⟩ := h
  exact ⟨q, ha, h0, h1, h2, K.blk hb (Blk.ne2 hb hg (by decide))⟩
theorem OwnH.keepM {A g n : Nat} {t : TypeId} {w w' : World} {s : Hs} {f : Nat → Value} (h : OwnH A t w s) (hg : Blk w g 56 n f) (hne : t ≠ 56) (K : KeepG g w w') : OwnH A t w' s := by
  obtain ⟨h1, h2, h3, h4⟩ := h
  refine ⟨h1, h2, h3, fun hn => ?_⟩
  obtain ⟨q, ha, hA, hb⟩ := h4 hn
  exact ⟨q, ha, hA, K.blk hb (Blk.ne2 hb hg hne)⟩
theorem OwnO.keepM {A g n : Nat} {w w' : World} {s : Os} {f : Nat → Value} (h : OwnO A w s) (hg : Blk w g 56 n f) (K : KeepG g w w') : OwnO A w' s := by
  refine ⟨h.le, h.cap, fun hn => ?_, fun i hi => ?_, h.apart, ?_⟩
  · obtain ⟨q, a1, a2, a3⟩ := h.list hn
    exact ⟨q, a1, a2, K.blk a3 (Blk.ne2 a3 hg (by decide))⟩
  · obtain ⟨C, a1, a2, a3, a4, a5⟩ := h.lines i hi
    exact ⟨C, a1, a2, a3, a4, K.blk a5 (Blk.ne2 a5 hg (by decide))⟩
  · refine h.room.same fun q cur hq => K.2 q (Array.getElem?_eq_some_iff.1 hq).1 fun e => ?_
    obtain ⟨c2, h1, _⟩ := hg
    rw [e, h1] at hq
    cases hq
theorem OwnS.keepM {A g n : Nat} {w w' : World} {s : St} {h : Hs} {f : Nat → Value} (k : OwnS A w s) (hg : Blk w g 56 n f) (K : KeepG g w w') (hh : OwnH A 56 w' h) (hr : Room A w' 56 4 h.a h.c) : OwnS A w' (Go.Proofs.YtbcacebifpagpaeGreat.withMoves s h) := by
  refine ⟨?_, fun i hi => (k.rows i hi).keepM hg K, k.rapart, k.os.keepM hg K, k.hs.keepM hg (by decide) K, hh, hr, k.si.keepM hg K, k.so.keepM hg K, k.sf.keepM hg K, k.aio, k.aif, k.aof, k.ari⟩
  obtain ⟨q, a0, a1, a2, a3, a4⟩ := k.on
  exact ⟨q, a0, a1, a2, a3, K.blk a4 (Blk.ne2 a4 hg (by decide))⟩
theorem run_clear4M (w : World) (ty : TypeId) (b o n c : Nat) (hn : 0 < n) (hc : ∀ j, j < n * 4 → (w.cell? ⟨b, o + j, none⟩).isSome = true) (hf : ∀ j, j < n * 4 → w.frozen? ⟨b, o + j, none⟩ = false) :
    (Builtin.clear_ #[29] ty #[.slice (some ⟨b, o, none⟩) n c]).run Tryz.prog w = .ok (.tuple #[]) (w.setCells b o (List.replicate (n * 4) (.int .i64 0))) := by
  have hzc : (Builtin.zeroCells (Value.agg #[.int .i64 0, .int .i64 0, .int .i64 0, .int .i64 0]).cells n).toList = List.replicate (n * 4) (.int .i64 0) := by
    rw [show (Value.agg #[.int .i64 0, .int .i64 0, .int .i64 0, .int .i64 0]).cells = #[.int .i64 0, .int .i64 0, .int .i64 0, .int .i64 0] from rfl]
    apply List.ext_getElem
    · simp [Builtin.zeroCells]
    · intro i h1 h2
      have h4 : i % 4 < 4 := by omega
      simp [Builtin.zeroCells]
      generalize i % 4 = k at h4
      match k, h4 with
      | 0, _ => rfl
      | 1, _ => rfl
      | 2, _ => rfl
      | 3, _ => rfl
  have hst := run_storeCells_cells (P := Tryz.prog) b o (List.replicate (n * 4) (.int .i64 0)) 0 w (by simpa using hc) (by simpa using hf) (by intro v hv'; rw [List.eq_of_mem_replicate hv']; rfl)
  simp only [Nat.add_zero] at hst
  obtain ⟨m, rfl⟩ : ∃ m, n = m + 1 := ⟨n - 1, by omega⟩
  simp only [Builtin.clear_]
  simp [hzc, hst]
theorem infoMove : (Tryz.prog.info? 56).map (fun i => (i.zero, i.size, i.bytes)) = some (some (.agg #[.int .i64 0, .int .i64 0, .int .i64 0, .int .i64 0]), 4, 32) := by kernel_rfl
theorem cells_size {g : Nat} {e : TypeId} {m : Nat} : ∀ (vs : List Value) (o : Nat) (w : World), (∃ cur, w.heap[g]? = some (.cells cur e (0, 0)) ∧ cur.size = m) → ∃ cur, (w.setCells g o vs).heap[g]? = some (.cells cur e (0, 0)) ∧ cur.size = m
  | [], _, _, h => h
  | v :: r, o, w, h => by
    rw [World.setCells]
    refine cells_size r (o + 1) _ ?_
    obtain ⟨cur, h1, h2⟩ := h
    exact ⟨cur.setIfInBounds o v, by simp [World.setCell, Array.getElem?_modify, h1], by simpa using h2⟩
theorem addr_add (g q j : Nat) : (⟨g, q, none⟩ : Addr).add j = ⟨g, q + j, none⟩ := by
  unfold Addr.add
  split <;> simp_all
end Go.Proofs.YtbcacebifpagpaeGreat
namespace Go.Proofs.YtbcacebifpagpaeGreat
open Go.RowKit Go.Shelf Go.Sort
set_option linter.unusedVariables false
def KeepS (g : Nat) (w w' : World) : Prop := KeepG g w w' ∧ ∀ (cur : Array Value) (e : TypeId), w.heap[g]? = some (.cells cur e (0, 0)) → ∃ cur', w'.heap[g]? = some (.cells cur' e (0, 0)) ∧ cur'.size = cur.size
theorem KeepS.refl (g : Nat) (w : World) : KeepS g w w := ⟨KeepG.refl g w, fun cur e h => ⟨cur, h, rfl⟩⟩
theorem KeepS.below {g : Nat} {w wk wj : World} (h : KeepS g w wk) (hB : Below wk.heap.size wk wj) : KeepS g w wj := ⟨h.1.below hB, fun cur e hc => by
  obtain ⟨c', h1, h2⟩ := h.2 cur e hc
  exact ⟨c', (hB.block g (Array.getElem?_eq_some_iff.1 h1).1).trans h1, h2⟩⟩
theorem KeepS.cells {g : Nat} {w : World} (vs : List Value) (o : Nat) (wk : World) (h : KeepS g w wk) : KeepS g w (wk.setCells g o vs) := ⟨KeepG.cells vs o wk h.1, fun cur e hc => by
  obtain ⟨c', h1, h2⟩ := h.2 cur e hc
  obtain ⟨c2, k1, k2⟩ := cells_size (m := cur.size) vs o wk ⟨c', h1, h2⟩
  exact ⟨c2, k1, k2⟩⟩
theorem KeepS.set {g : Nat} {w wk : World} (h : KeepS g w wk) (j : Nat) (u : Value) : KeepS g w (wk.setCell ⟨g, j, none⟩ u) := KeepS.cells [u] j wk h
theorem KeepS.set4 {g : Nat} {w wk : World} (h : KeepS g w wk) (i : Nat) (x : Hd) : KeepS g w (Go.Proofs.YtbcacebifpagpaeGreat.set4 wk g i x) := by
  unfold Go.Proofs.YtbcacebifpagpaeGreat.set4
  exact (((h.set _ _).set _ _).set _ _).set _ _
set_option maxHeartbeats 400000 in
theorem idxMv (f : Nat) (caps : Array Value) (bad : Hd → Bool) (A : Nat) (a : Option Addr) (n c : Nat) (w : World) (hA : A ≤ w.heap.size) (hn : n ≤ c) (hc : c ≤ maxLen) (z : Nat → Hd) (hz : HdsAt w a n z)
    (eg : ∀ args w, (callFunc f args).run Tryz.prog w = .ok (.enter f args) w)
    (hf : Hid (∀ (x : Hd) w1, Below A w w1 → Calls Tryz.prog f (#[x.val] ++ caps) w1 fun e w' => e = .returned (.bool (bad x)) ∧ Below w1.heap.size w1 w')) :
    Calls Tryz.prog 67 #[.slice a n c, .func (.func f) #[] caps] w fun e w' => ((e = .returned (.int .i64 (-1)) ∧ ∀ j, j < n → bad (z j) = false) ∨ ∃ k, k < n ∧ e = .returned (.int .i64 (k : Nat)) ∧ bad (z k) = true ∧ ∀ j, j < k → bad (z j) = false) ∧ Below w.heap.size w w' := by
  unfold maxLen at hc
  go_enter Tryz.func67, Tryz.ntmps67
  go_wp2_with fail
  go_loopw [8] (fun i w1 => ∃ k : Nat, k ≤ n ∧ i = .int .i64 k ∧ Hid (∀ j, j < k → bad (z j) = false) ∧ Below w.heap.size w w1) (fun i _ => n - (intOf i).toNat)
  case atStart => exact ⟨0, Nat.zero_le _, rfl, fun j hj => absurd hj (Nat.not_lt_zero _), Below.refl _ _⟩
  case round =>
    obtain ⟨k, hk, rfl, HN, hB⟩ := hrel
    by_cases hlt : k < n
    · obtain ⟨b, o, rfl, _, hcell0, hcell1, hcell2, hcell3⟩ := (hz.below hB) k hlt
      clear hz
      have HE : Hid (∀ j, j < k + 1 → bad (z k) = false → bad (z j) = false) := fun j hj h => by
        by_cases hjk : j = k
        · rw [hjk]; exact h
        · exact HN.out j (by omega)
      go_wp2_with fail
      refine (hf.out (z k) wr (hB.mono hA)).mono ?_
      rintro e w1 ⟨rfl, hB1⟩
      have hB2 := hB.trans (hB1.mono hB.size)
      cases hbad : bad (z k)
      · have HN2 : Hid (∀ j, j < k + 1 → bad (z j) = false) := fun j hj => HE.out j hj hbad
        clear HE HN
        go_wp2_with fail
        go_roundw
        case rel => exact ⟨k + 1, by omega, by go_num, HN2, hB2⟩
        case measure => simp [intOf]; omega
      · go_wp2_with fail
        go_ret
        exact ⟨Or.inr ⟨k, hlt, rfl, hbad, HN.out⟩, hB2⟩
    · go_wp2_with fail
      go_ret
      have hkn : k = n := by omega
      subst hkn
      exact ⟨Or.inl ⟨rfl, HN.out⟩, hB⟩
def DelAtMv (g : Nat) (bad : Hd → Bool) (xs : List Hd) (k : Nat) (wk : World) : Prop := ∃ c : Nat → Hd, Blk wk g 56 (xs.length * 4) (hc c) ∧ (∀ q, q < (stayH bad xs k).length → c q = (stayH bad xs k).getD q hd0) ∧ ∀ q, k ≤ q → q < xs.length → c q = xs.getD q hd0
set_option maxRecDepth 100000 in
set_option maxHeartbeats 2000000 in
theorem DelMv_any (f : Nat) (caps : Array Value) (bad : Hd → Bool) (A g cap : Nat) (xs : List Hd) (w : World) (hA : A ≤ g) (hA2 : A ≤ w.heap.size) (hn : xs.length ≤ cap) (hcap : cap ≤ maxLen) (hb : Blk w g 56 (xs.length * 4) (hc fun j => xs.getD j hd0))
    (eg : ∀ args w, (callFunc f args).run Tryz.prog w = .ok (.enter f args) w)
    (hf : Hid (∀ (x : Hd) w1, Below A w w1 → Calls Tryz.prog f (#[x.val] ++ caps) w1 fun e w' => e = .returned (.bool (bad x)) ∧ Below w1.heap.size w1 w')) :
    Calls Tryz.prog 41 #[.slice (some ⟨g, 0, none⟩) xs.length cap, .func (.func f) #[] caps] w fun e w' => e = .returned (.slice (some ⟨g, 0, none⟩) (xs.filter (fun x => !bad x)).length cap) ∧ Blk w' g 56 ((xs.filter (fun x => !bad x)).length * 4) (hc fun j => (xs.filter (fun x => !bad x)).getD j hd0) ∧ Below A w w' ∧ KeepS g w w' := by
  have hcap0 := hcap
  unfold maxLen at hcap
  have HBK : Hid (Blk w g 56 (xs.length * 4) (hc fun j => xs.getD j hd0)) := hb
  have hz : HdsAt w (some ⟨g, 0, none⟩) xs.length (fun j => xs.getD j hd0) := hb.hds
  clear hb
  go_enter Tryz.func41, Tryz.ntmps41
  go_wp2_with fail
  refine (idxMv f caps bad A _ _ _ w hA2 hn hcap0 _ hz eg hf).mono ?_
  rintro e w1 ⟨h, hB1⟩
  clear hz
  have hBA := hB1.mono hA2
  rcases h with ⟨rfl, hno⟩ | ⟨k0, hk0, rfl, hbad, hno⟩
  · have hfil : xs.filter (fun x => !bad x) = xs := by
      have := stayH_full (bad := bad) (Nat.le_refl xs.length) hno
      rw [stayH_all, List.take_length] at this
      exact this
    have HF : Hid (xs.filter (fun x => !bad x) = xs) := hfil
    clear hfil hno
    go_wp2_with fail
    go_ret
    rw [HF.out]
    exact ⟨rfl, HBK.out.below hB1, hBA, (KeepS.refl g w).below hB1⟩
  · have hs0 : stayH bad xs (k0 + 1) = xs.take k0 := by rw [stayH_succ hk0, stayH_full (by omega) hno, hbad]; simp
    have hl0 : (stayH bad xs (k0 + 1)).length = k0 := by rw [hs0, List.length_take]; omega
    have H0 : Hid (DelAtMv g bad xs (k0 + 1) w1) := ⟨_, HBK.out.below hB1, fun q hq => by
      rw [hl0] at hq
      rw [hs0]
      simp only [List.getD, List.getElem?_take, if_pos hq], fun q _ _ => rfl⟩
    have HL0 : Hid ((stayH bad xs (k0 + 1)).length = k0) := hl0
    clear hs0 hl0 hbad hno HBK
    go_wp2_with fail
    go_loopw [5, 6] (fun i j wk => ∃ k : Nat, k ≤ xs.length ∧ j = .int .i64 k ∧ i = .int .i64 ((stayH bad xs k).length : Nat) ∧ (stayH bad xs k).length < k ∧ Hid (DelAtMv g bad xs k wk) ∧ Below A w wk ∧ Hid (KeepS g w wk)) (fun _ j _ => xs.length - (intOf j).toNat)
    case atStart => exact ⟨k0 + 1, by omega, by go_num, by rw [HL0.out], by rw [HL0.out]; omega, H0, hBA, (KeepS.refl g w).below hB1⟩
    case round =>
      clear H0 HL0 hBA hB1
      obtain ⟨k, hk, rfl, rfl, hlen, HD, hB, HKG⟩ := hrel
      by_cases hlt : k < xs.length
      · obtain ⟨c, hc1, hc2, hc3⟩ := HD.out
        have HB : Hid (Blk wr g 56 (xs.length * 4) (hc c) ∧ (∀ q, q < (stayH bad xs k).length → c q = (stayH bad xs k).getD q hd0) ∧ ∀ q, k ≤ q → q < xs.length → c q = xs.getD q hd0) := ⟨hc1, hc2, hc3⟩
        have HS : Hid (stayH bad xs (k + 1) = stayH bad xs k ++ if bad (xs.getD k hd0) then [] else [xs.getD k hd0]) := stayH_succ hlt
        obtain ⟨X, hX⟩ : ∃ X, xs.getD k hd0 = X := ⟨_, rfl⟩
        have HXE : Hid (xs.getD k hd0 = X) := hX
        have hcx : c k = X := by rw [hc3 k (Nat.le_refl _) hlt, hX]
        have ha := hc_at c k
        rw [hcx] at ha
        have z0 : wr.cell? ⟨g, k * 4, none⟩ = some (.int .i64 X.o) := (hc1.cell (by omega)).trans (by rw [ha.1])
        have z1 : wr.cell? ⟨g, k * 4 + 1, none⟩ = some (.int .i64 X.l) := (hc1.cell (by omega)).trans (by rw [ha.2.1])
        have z2 : wr.cell? ⟨g, k * 4 + 2, none⟩ = some (.int .i64 X.b) := (hc1.cell (by omega)).trans (by rw [ha.2.2.1])
        have z3 : wr.cell? ⟨g, k * 4 + 3, none⟩ = some (.int .i64 X.n) := (hc1.cell (by omega)).trans (by rw [ha.2.2.2])
        have zl := hc1.lt
        clear hc1 hc2 hc3 HD hX hcx ha
        obtain ⟨I, hI⟩ : ∃ I, (stayH bad xs k).length = I := ⟨_, rfl⟩
        have HIE : Hid ((stayH bad xs k).length = I) := hI
        rw [hI] at hlen ⊢
        clear hI
        obtain ⟨W, hW, hWB, KX⟩ : ∃ W, wr.alloc (.cells #[.int .i64 X.o, .int .i64 X.l, .int .i64 X.b, .int .i64 X.n] 56) = W ∧ Below wr.heap.size wr W ∧ Blk W wr.heap.size 56 4 (fun j => (#[.int .i64 X.o, .int .i64 X.l, .int .i64 X.b, .int .i64 X.n] : Array Value).getD j default) := ⟨_, rfl, (Below.refl _ _).alloc (Nat.le_refl _) _, Blk.mk' rfl rfl⟩
        have HW : Hid (wr.alloc (.cells #[.int .i64 X.o, .int .i64 X.l, .int .i64 X.b, .int .i64 X.n] 56) = W) := hW
        have hBW := hB.trans (hWB.mono (Nat.le_trans hA2 hB.size))
        have HB : Hid (Blk W g 56 (xs.length * 4) (hc c) ∧ (∀ q, q < (stayH bad xs k).length → c q = (stayH bad xs k).getD q hd0) ∧ ∀ q, k ≤ q → q < xs.length → c q = xs.getD q hd0) := ⟨HB.out.1.below hWB, HB.out.2⟩
        have HKG : Hid (KeepS g w W) := HKG.out.below hWB
        clear hW hWB
        go_wp2_with fail
        rw [HW.out]
        refine (hf.out X W hBW).mono ?_
        rintro e w2 ⟨rfl, hB2⟩
        have hB3 := hBW.trans (hB2.mono (Nat.le_trans hA2 hBW.size))
        have HKG : Hid (KeepS g w w2) := HKG.out.below hB2
        have kb := HB.out.1.below hB2
        have KX2 := KX.below hB2
        have xl := KX2.lt
        have x0 : w2.cell? ⟨wr.heap.size, 0, none⟩ = some (.int .i64 X.o) := KX2.cell (j := 0) (by decide)
        have x1 : w2.cell? ⟨wr.heap.size, 1, none⟩ = some (.int .i64 X.l) := KX2.cell (j := 1) (by decide)
        have x2 : w2.cell? ⟨wr.heap.size, 2, none⟩ = some (.int .i64 X.b) := KX2.cell (j := 2) (by decide)
        have x3 : w2.cell? ⟨wr.heap.size, 3, none⟩ = some (.int .i64 X.n) := KX2.cell (j := 3) (by decide)
        clear z0 z1 z2 z3 zl KX KX2 HW hB hBW hB2
        generalize wr.heap.size = BX at *
        cases hbd : bad X
        · have y0 := kb.cell (j := I * 4) (by omega)
          have y1 := kb.cell (j := I * 4 + 1) (by omega)
          have y2 := kb.cell (j := I * 4 + 2) (by omega)
          have y3 := kb.cell (j := I * 4 + 3) (by omega)
          have f0 := kb.frozen (I * 4)
          have f1 := kb.frozen (I * 4 + 1)
          have f2 := kb.frozen (I * 4 + 2)
          have f3 := kb.frozen (I * 4 + 3)
          have yl := kb.lt
          generalize hc c (I * 4) = V0 at y0
          generalize hc c (I * 4 + 1) = V1 at y1
          generalize hc c (I * 4 + 2) = V2 at y2
          generalize hc c (I * 4 + 3) = V3 at y3
          have KB := kb.set4 I X
          have HN : Hid (DelAtMv g bad xs (k + 1) (set4 w2 g I X) ∧ Below A w (set4 w2 g I X) ∧ (stayH bad xs (k + 1)).length = I + 1 ∧ KeepS g w (set4 w2 g I X)) := by
            have e1 : stayH bad xs (k + 1) = stayH bad xs k ++ [X] := by rw [HS.out, HXE.out, hbd]; rfl
            have e2 : (stayH bad xs (k + 1)).length = I + 1 := by rw [e1, List.length_append, HIE.out]; rfl
            refine ⟨⟨_, KB, fun q hq => ?_, fun q hq hq2 => ?_⟩, below_set4 hA hB3 I X, e2, HKG.out.set4 I X⟩
            · rw [e2] at hq
              show (if q = I then X else c q) = _
              rw [e1]
              by_cases hqi : q = I
              · rw [if_pos hqi]
                simp only [List.getD]
                rw [List.getElem?_append_right (by rw [HIE.out]; omega), HIE.out, hqi]
                simp
              · rw [if_neg hqi, HB.out.2.1 q (by rw [HIE.out]; omega)]
                simp only [List.getD]
                rw [List.getElem?_append_left (by rw [HIE.out]; omega)]
            · show (if q = I then X else c q) = _
              rw [if_neg (by omega), HB.out.2.2 q (by omega) hq2]
          clear kb KB HB HS
          go_wp2_with fail
          go_roundw
          case rel => exact ⟨_, _, _, _, _, _, _, _, _, _, _, _, _, _, _, _, _, _, _, _, _, _, _, ⟨k + 1, by omega, by go_num, by rw [HN.out.2.2.1]; go_num, by rw [HN.out.2.2.1]; omega, HN.out.1, HN.out.2.1, HN.out.2.2.2⟩, rfl⟩
          case measure => simp [intOf]; omega
        · have HN : Hid (DelAtMv g bad xs (k + 1) w2 ∧ (stayH bad xs (k + 1)).length = I) := by
            have e1 : stayH bad xs (k + 1) = stayH bad xs k := by rw [HS.out, HXE.out, hbd]; simp
            rw [e1]
            exact ⟨⟨c, kb, by rw [e1]; exact HB.out.2.1, fun q hq hq2 => HB.out.2.2 q (by omega) hq2⟩, HIE.out⟩
          clear kb HB HS
          go_wp2_with fail
          go_roundw
          case rel => exact ⟨_, _, _, _, _, _, _, _, _, _, _, _, _, _, _, _, _, _, _, _, _, _, _, ⟨k + 1, by omega, by go_num, by rw [HN.out.2], by rw [HN.out.2]; omega, HN.out.1, hB3, HKG⟩, rfl⟩
          case measure => simp [intOf]; omega
      · have hkn : k = xs.length := by omega
        subst hkn
        obtain ⟨c, hc1, hc2, hc3⟩ := HD.out
        rw [stayH_all] at hlen hc2 ⊢
        obtain ⟨I, hI⟩ : ∃ I, (xs.filter (fun x => !bad x)).length = I := ⟨_, rfl⟩
        have HI : Hid ((xs.filter (fun x => !bad x)).length = I) := hI
        rw [hI] at hlen hc2 ⊢
        clear hI
        obtain ⟨N, hN⟩ : ∃ N, xs.length = N := ⟨_, rfl⟩
        have HNE : Hid (xs.length = N) := hN
        rw [hN] at hlen hn hc1 ⊢
        clear hN hc3 hlt hk HD
        have hci : ¬ cap = I := by omega
        have hcl : ∀ ty, (Builtin.clear_ #[29] ty #[.slice (some ⟨g, I * 4, none⟩) (N - I) (cap - I)]).run Tryz.prog wr = .ok (.tuple #[]) (wr.setCells g (I * 4) (List.replicate ((N - I) * 4) (.int .i64 0))) := fun ty =>
          run_clear4M wr ty g (I * 4) (N - I) (cap - I) (by omega) (fun j hj => by rw [hc1.cell (by omega)]; rfl) (fun j _ => hc1.frozen _)
        have HEND : Hid (Blk (wr.setCells g (I * 4) (List.replicate ((N - I) * 4) (.int .i64 0))) g 56 (I * 4) (hc fun j => (xs.filter (fun x => !bad x)).getD j hd0) ∧ Below A w (wr.setCells g (I * 4) (List.replicate ((N - I) * 4) (.int .i64 0))) ∧ KeepS g w (wr.setCells g (I * 4) (List.replicate ((N - I) * 4) (.int .i64 0)))) :=
          ⟨Blk.setCells _ _ _ ((hc1.less (by omega)).congr fun j hj => by unfold hc; rw [hc2 (j / 4) (by omega)]) (Nat.le_refl _), below_cells hA _ _ _ hB, HKG.out.cells _ _ _⟩
        clear hc1 hc2
        go_wp2_with fail
        go_ret
        rw [HI.out]
        exact ⟨rfl, HEND.out⟩
set_option maxRecDepth 100000 in
set_option maxHeartbeats 1000000 in
theorem DelMv_nil (f : Nat) (caps : Array Value) (bad : Hd → Bool) (a : Option Addr) (cap : Nat) (w : World) (hcap : cap ≤ maxLen)
    (eg : ∀ args w, (callFunc f args).run Tryz.prog w = .ok (.enter f args) w)
    (hf : Hid (∀ (x : Hd) w1, Below w.heap.size w w1 → Calls Tryz.prog f (#[x.val] ++ caps) w1 fun e w' => e = .returned (.bool (bad x)) ∧ Below w1.heap.size w1 w')) :
    Calls Tryz.prog 41 #[.slice a (0 : Nat) cap, .func (.func f) #[] caps] w fun e w' => e = .returned (.slice a (0 : Nat) cap) ∧ Below w.heap.size w w' := by
  have hcap0 := hcap
  unfold maxLen at hcap
  go_enter Tryz.func41, Tryz.ntmps41
  go_wp2_with fail
  refine (idxMv f caps bad w.heap.size a 0 cap w (Nat.le_refl _) (Nat.zero_le _) hcap0 (fun _ => hd0) (fun i hi => absurd hi (Nat.not_lt_zero _)) eg hf).mono ?_
  rintro e w1 ⟨h, hB1⟩
  rcases h with ⟨rfl, -⟩ | ⟨k0, hk0, -⟩
  · go_wp2_with fail
    go_ret
    exact ⟨rfl, hB1⟩
  · exact absurd hk0 (Nat.not_lt_zero _)
theorem keeps_bel {w w' : World} (hB : Below w.heap.size w w') : KeepsOthers w w' := ⟨hB.size, fun k o hk _ => (hB.block k (Array.getElem?_eq_some_iff.1 hk).1).trans hk⟩
theorem keeps_one {w w' : World} {g n : Nat} {t : TypeId} {f : Nat → Value} (hb : Blk w g t n f) (hK : KeepG g w w') : KeepsOthers w w' := ⟨hK.1, fun k o hk ho => (hK.2 k (Array.getElem?_eq_some_iff.1 hk).1 fun e => by
  obtain ⟨cur, h1, _⟩ := hb
  rw [e, h1] at hk
  cases hk
  cases ho).trans hk⟩
theorem DelS2_any (f : Nat) (caps : Array Value) (bad : Hd → Bool) (A : Nat) (s : St) (w : World) (hA2 : A ≤ w.heap.size) (hO : OwnS A w s)
    (eg : ∀ args w, (callFunc f args).run Tryz.prog w = .ok (.enter f args) w)
    (hf : ∀ (x : Hd) w1, Below A w w1 → Calls Tryz.prog f (#[x.val] ++ caps) w1 fun e w' => e = .returned (.bool (bad x)) ∧ Below w1.heap.size w1 w') :
    Calls Tryz.prog 39 #[.slice s.hs.a s.hs.n s.hs.c, .func (.func f) #[] caps] w fun e w' => e = .returned (.slice (dropH s.hs bad).a (dropH s.hs bad).n (dropH s.hs bad).c) ∧ OwnS A w' (withHolds s (dropH s.hs bad)) ∧ Below A w w' ∧ (∀ q t m g, t ≠ 58 → Blk w q t m g → Blk w' q t m g) ∧ KeepsOthers w w' := by
  obtain ⟨h1, h2, h3, h4⟩ := hO.hs
  by_cases hn : s.hs.n = 0
  · have hd : (dropH s.hs bad).n = 0 := by have := dropH_le s.hs bad; omega
    rw [hn, hd]
    refine (DelH_nil f caps bad s.hs.a s.hs.c w h2 eg (fun x w1 hB => hf x w1 (hB.mono hA2))).mono ?_
    rintro e w1 ⟨rfl, hB⟩
    exact ⟨rfl, (hO.below hB).withHolds ⟨by rw [hd]; exact Nat.zero_le _, h2, h3, fun h => absurd h (by omega)⟩, hB.mono hA2, fun q t m g _ hb => hb.below hB, keeps_bel hB⟩
  · obtain ⟨g, ha, hA, hb⟩ := h4 (by omega)
    have hb2 : Blk w g 58 ((listH s.hs).length * 4) (hc fun j => (listH s.hs).getD j hd0) := by
      rw [listH_len]
      refine hb.congr fun q hq => ?_
      rw [hc_flat hq]
      unfold hc
      dsimp only
      rw [listH_at (by omega)]
    have hD := DelH_any f caps bad A g s.hs.c (listH s.hs) w hA hA2 (by rw [listH_len]; exact h1) h2 hb2 eg hf
    rw [listH_len] at hD
    rw [ha]
    refine hD.mono ?_
    rintro e w1 ⟨rfl, hb3, hB, hK⟩
    have hl := dropH_le s.hs bad
    exact ⟨by show _ = Ending.returned (.slice s.hs.a _ _); rw [ha]; rfl, hO.keepG hb2 hK ⟨Nat.le_trans hl h1, h2, h3, fun _ => ⟨g, ha, hA, hb3.congr fun q hq => (hc_flat (z := (dropH s.hs bad).z) hq).symm⟩⟩, hB, fun q t m f' hne hbq => hK.blk hbq (Blk.ne2 hbq hb2 hne), keeps_one hb2 hK⟩
theorem Room.keepMv {A g : Nat} {w w' : World} {c : Nat} {a : Option Addr} (h : Room A w 56 4 a c) (K : KeepS g w w') : Room A w' 56 4 a c := by
  rcases h with h0 | ⟨q, cur, ha, hA, hgc, hsz⟩
  · exact Or.inl h0
  · by_cases e : q = g
    · subst e
      obtain ⟨cur', h1, h2⟩ := K.2 cur _ hgc
      exact Or.inr ⟨q, cur', ha, hA, h1, by rw [h2]; exact hsz⟩
    · exact Or.inr ⟨q, cur, ha, hA, (K.1.2 q (Array.getElem?_eq_some_iff.1 hgc).1 e).trans hgc, hsz⟩
theorem DelSM_any (f : Nat) (caps : Array Value) (bad : Hd → Bool) (A : Nat) (s : St) (w : World) (hA2 : A ≤ w.heap.size) (hO : OwnS A w s)
    (eg : ∀ args w, (callFunc f args).run Tryz.prog w = .ok (.enter f args) w)
    (hf : ∀ (x : Hd) w1, Below A w w1 → Calls Tryz.prog f (#[x.val] ++ caps) w1 fun e w' => e = .returned (.bool (bad x)) ∧ Below w1.heap.size w1 w') :
    Calls Tryz.prog 41 #[.slice s.ms.a s.ms.n s.ms.c, .func (.func f) #[] caps] w fun e w' => e = .returned (.slice (dropH s.ms bad).a (dropH s.ms bad).n (dropH s.ms bad).c) ∧ OwnS A w' (withMoves s (dropH s.ms bad)) ∧ Below A w w' ∧ (∀ q t m g, t ≠ 56 → Blk w q t m g → Blk w' q t m g) ∧ KeepsOthers w w' := by
  obtain ⟨h1, h2, h3, h4⟩ := hO.ms
  by_cases hn : s.ms.n = 0
  · have hd : (dropH s.ms bad).n = 0 := by have := dropH_le s.ms bad; omega
    rw [hn, hd]
    refine (DelMv_nil f caps bad s.ms.a s.ms.c w h2 eg (fun x w1 hB => hf x w1 (hB.mono hA2))).mono ?_
    rintro e w1 ⟨rfl, hB⟩
    have O := hO.below hB
    exact ⟨rfl, ⟨O.on, O.rows, O.rapart, O.os, O.hs, ⟨by show (dropH s.ms bad).n ≤ _; rw [hd]; exact Nat.zero_le _, h2, h3, fun h => absurd (show 0 < (dropH s.ms bad).n from h) (by omega)⟩, O.msr, O.si, O.so, O.sf, O.aio, O.aif, O.aof, O.ari⟩, hB.mono hA2, fun q t m g _ hb => hb.below hB, keeps_bel hB⟩
  · obtain ⟨g, ha, hA, hb⟩ := h4 (by omega)
    have hb2 : Blk w g 56 ((listH s.ms).length * 4) (hc fun j => (listH s.ms).getD j hd0) := by
      rw [listH_len]
      refine hb.congr fun q hq => ?_
      rw [hc_flat hq]
      unfold hc
      dsimp only
      rw [listH_at (by omega)]
    have hD := DelMv_any f caps bad A g s.ms.c (listH s.ms) w hA hA2 (by rw [listH_len]; exact h1) h2 hb2 eg hf
    rw [listH_len] at hD
    rw [ha]
    refine hD.mono ?_
    rintro e w1 ⟨rfl, hb3, hB, hK⟩
    have hl := dropH_le s.ms bad
    exact ⟨by show _ = Ending.returned (.slice s.ms.a _ _); rw [ha]; rfl, hO.keepM hb2 hK.1 ⟨Nat.le_trans hl h1, h2, h3, fun _ => ⟨g, ha, hA, hb3.congr fun q hq => (hc_flat (z := (dropH s.ms bad).z) hq).symm⟩⟩ (hO.msr.keepMv hK), hB, fun q t m f' hne hbq => hK.1.blk hbq (Blk.ne2 hbq hb2 hne), keeps_one hb2 hK.1⟩
end Go.Proofs.YtbcacebifpagpaeGreat
namespace Go.Proofs.YtbcacebifpagpaeGreat
open Go.RowKit
set_option linter.unusedVariables false
theorem owns_block {A : Nat} {w : World} {e : TypeId} {size : Nat} {v : Value} {n : Nat} {xs : List Value} (h : w.ownsRow A e size v n xs) {k : Nat} (e' : v.ownBlock = some k) : A ≤ k := by
  obtain ⟨_, ⟨rfl, _⟩ | ⟨g, cap, cur, rfl, hb, _⟩⟩ := h
  · cases e'
  · simp only [Value.ownBlock, Option.some.injEq] at e'
    omega
theorem OwnS.withM {A : Nat} {w : World} {s : St} {h : Hs} (k : OwnS A w s) (hh : OwnH A 56 w h) (hr : Room A w 56 4 h.a h.c) : OwnS A w (withMoves s h) :=
  ⟨k.on, k.rows, k.rapart, k.os, k.hs, hh, hr, k.si, k.so, k.sf, k.aio, k.aif, k.aof, k.ari⟩
theorem HdsAt.flat {w : World} {n b o : Nat} {z : Nat → Hd} (h : HdsAt w (some ⟨b, o, none⟩) n z) {q m : Nat} (hm : q + m ≤ n) {j : Nat} {u : Value} (hj : (flatH m (fun x => z (q + x)))[j]? = some u) : w.cell? ⟨b, o + q * 4 + j, none⟩ = some u := by
  have hl : j < m * 4 := by
    have := (List.getElem?_eq_some_iff.1 hj).1
    rw [flatH_len] at this
    exact this
  obtain ⟨i, c, rfl, hc⟩ : ∃ i c, j = i * 4 + c ∧ c < 4 := ⟨j / 4, j % 4, by omega, by omega⟩
  rw [flatH_get m _ i c (by omega) hc] at hj
  obtain ⟨b', o', e, _, h0, h1, h2, h3⟩ := h (q + i) (by omega)
  simp only [Option.some.injEq, Addr.mk.injEq, and_true] at e
  obtain ⟨rfl, rfl⟩ := e
  have e1 : o + q * 4 + (i * 4 + c) = o + (q + i) * 4 + c := by omega
  rw [e1, ← hj]
  match c, hc with
  | 0, _ => exact h0
  | 1, _ => exact h1
  | 2, _ => exact h2
  | 3, _ => exact h3
theorem OwnS.rowBlk {A : Nat} {w : World} {s : St} (h : OwnS A w s) {b G : Nat} (hb : b < s.on.n) (ha : (s.on.r b).a = some ⟨G, 0, none⟩) : A ≤ G ∧ Blk w G 3 (s.on.r b).n (fun j => .int .i64 ((s.on.r b).z j)) := by
  obtain ⟨Gq, b1, b2, b3, b4, b5⟩ := h.rows b hb
  rw [ha] at b1
  simp only [Option.some.injEq, Addr.mk.injEq, and_true] at b1
  subst b1
  exact ⟨b2, b5⟩
theorem RelK.setOn {A B7 : Nat} {W0 wk : World} {cur : St} (h : RelK A B7 W0 cur wk) (hA : W0.heap.size ≤ A) {b G : Nat} (hb : b < cur.on.n) (ha : (cur.on.r b).a = some ⟨G, 0, none⟩) (g : Nat) (v : Int) : RelK A B7 W0 (Go.Proofs.YtbcacebifpagpaeGreat.setOn cur b g v) (wk.setCell ⟨G, g, none⟩ (.int .i64 v)) := by
  obtain ⟨h1, h2⟩ := h.own.rowBlk hb ha
  exact ⟨h.own.setOn hb ha g v, h.box.other (a := ⟨G, g, none⟩) (Blk.ne2 h.box h2 (by decide)) _, h.bel.setCell (p := ⟨G, g, none⟩) (by show W0.heap.size ≤ G; omega) _, by have := h.le; simpa using this⟩
end Go.Proofs.YtbcacebifpagpaeGreat
namespace Go.Proofs.YtbcacebifpagpaeGreat
open Go.RowKit
set_option linter.unusedVariables false
def cutC (x : St) (b g : Int) (r : Nat) (j : Nat) : Value := (#[.slice x.on.a x.on.n x.on.c, .slice x.os.a x.os.n x.os.c, .slice x.hs.a x.hs.n x.hs.c, .slice x.ms.a x.ms.n x.ms.c, .slice x.si.a x.si.n x.si.c, .slice x.so.a x.so.n x.so.c, .slice x.sf.a x.sf.n x.sf.c, .int .i64 b, .int .i64 g, .map (some r)] : Array Value).getD j default
theorem OwnS.boxC {A : Nat} {w : World} {s : St} {q n : Nat} {f : Nat → Value} (h : OwnS A w s) (hq : Blk w q 44 n f) (j : Nat) (u : Value) : OwnS A (w.setCell ⟨q, j, none⟩ u) s := by
  refine ⟨?_, fun i hi => (h.rows i hi).other hq (by decide) j u, h.rapart, h.os.other hq (by decide) (by decide) j u, h.hs.other hq (by decide) j u, h.ms.other hq (by decide) j u, h.msr.set q j u, h.si.other hq (by decide) j u, h.so.other hq (by decide) j u, h.sf.other hq (by decide) j u, h.aio, h.aif, h.aof, h.ari⟩
  obtain ⟨g, ha, h0, h1, h2, hb⟩ := h.on
  exact ⟨g, ha, h0, h1, h2, hb.other (a := ⟨q, j, none⟩) (Blk.ne2 hb hq (by decide)) u⟩
theorem MapQ.keeps {w w' : World} {r : Nat} {q : Int → Int → Int} (h : MapQ w r q) (k : KeepsOthers w w') : MapQ w' r q := by
  obtain ⟨es, c, h1, h2⟩ := h
  exact ⟨es, c, k.same r _ h1 rfl, h2⟩
theorem Blk.keepR {r : Nat} {w w' : World} {g : Nat} {t : TypeId} {n : Nat} {f : Nat → Value} {q : Int → Int → Int} (h : Blk w g t n f) (m : MapQ w r q) (k : KeepR r w w') : Blk w' g t n f := by
  obtain ⟨cur, h1, h2⟩ := h
  refine Blk.same ⟨cur, h1, h2⟩ (k.block g fun e => ?_)
  obtain ⟨es, c, h3, -⟩ := m
  rw [e, h3] at h1
  cases h1
theorem KeepR.ck {r : Nat} {w w' : World} {q : Int → Int → Int} (m : MapQ w r q) (k : KeepR r w w') : CellsKept w w' := ⟨by rw [k.size]; exact Nat.le_refl _, fun g cur e z hg => k.block g fun e' => by
  obtain ⟨es, c, h3, -⟩ := m
  rw [e', h3] at hg
  cases hg⟩
structure CutI (A BC r : Nat) (W0 : World) (x : St) (b g : Int) (q : Int → Int → Int) (wk : World) : Prop where
  own : OwnS A wk x
  box : Blk wk BC 44 10 (cutC x b g r)
  map : MapQ wk r q
  bel : Below W0.heap.size W0 wk
  le : A ≤ wk.heap.size
  w0 : W0.heap.size ≤ A
  bc : A ≤ BC
  ra : A ≤ r
section
variable {A BC r : Nat} {W0 wk wj : World} {x : St} {b g : Int} {q : Int → Int → Int}
theorem CutI.below (h : CutI A BC r W0 x b g q wk) (hB : Below wk.heap.size wk wj) : CutI A BC r W0 x b g q wj :=
  ⟨OwnS.below h.own hB, h.box.below hB, h.map.below hB, h.bel.trans (hB.mono h.bel.size), Nat.le_trans h.le hB.size, h.w0, h.bc, h.ra⟩
theorem Blk.noMap {w : World} {g : Nat} {t : TypeId} {n : Nat} {f : Nat → Value} (h : Blk w g t n f) {r : Nat} {q : Int → Int → Int} (m : MapQ w r q) : r ≠ g := fun e => by
  obtain ⟨cur, h1, h2⟩ := h
  obtain ⟨es, c, h3, -⟩ := m
  rw [e, h1] at h3
  cases h3
def lessHs (h : Hs) (i : Nat) (d : Int) : Hs := ⟨h.a, h.n, h.c, lessN h.z i d⟩
theorem less_flat {h : Hs} {i : Nat} {d : Int} (q : Nat) (hq : q < h.n * 4) : (if q = i * 4 + 3 then Value.int .i64 ((h.z i).n - d) else (flatH h.n h.z).getD q default) = (flatH h.n (lessN h.z i d)).getD q default := by
  rw [setLn_flat (h := h) (j := i) (c := 3) (v := (h.z i).n - d) (by decide) q hq]
  have e : (setLn h i 3 ((h.z i).n - d)).z = lessN h.z i d := by
    funext k
    show (if k = i then setHd (h.z k) 3 ((h.z i).n - d) else h.z k) = if k = i then lessL (h.z k) d else h.z k
    by_cases c : k = i
    · rw [if_pos c, if_pos c, c]; rfl
    · rw [if_neg c, if_neg c]
  rw [e]
theorem OwnH.less {A : Nat} {t : TypeId} {w : World} {h : Hs} (k : OwnH A t w h) {i G : Nat} (hi : i < h.n) (ha : h.a = some ⟨G, 0, none⟩) (d : Int) : OwnH A t (w.setCell ⟨G, i * 4 + 3, none⟩ (.int .i64 ((h.z i).n - d))) (lessHs h i d) := by
  obtain ⟨h1, h2, h3, h4⟩ := k
  refine ⟨h1, h2, h3, fun hn => ?_⟩
  obtain ⟨G', ha', hA, hb⟩ := h4 (by omega)
  rw [ha] at ha'
  simp only [Option.some.injEq, Addr.mk.injEq, and_true] at ha'
  subst ha'
  exact ⟨G, ha, hA, (hb.set (i * 4 + 3) _).congr fun q hq => less_flat q hq⟩
theorem CutI.moveN (h : CutI A BC r W0 x b g q wk) {i G : Nat} (hi : i < x.ms.n) (ha : x.ms.a = some ⟨G, 0, none⟩) (d : Int) : CutI A BC r W0 (withMoves x (lessHs x.ms i d)) b g q (wk.setCell ⟨G, i * 4 + 3, none⟩ (.int .i64 ((x.ms.z i).n - d))) := by
  have hm := h.own.ms
  obtain ⟨h1, h2, h3, h4⟩ := h.own.ms
  obtain ⟨G', ha', hA, hb⟩ := h4 (by omega)
  rw [ha] at ha'
  simp only [Option.some.injEq, Addr.mk.injEq, and_true] at ha'
  subst ha'
  refine ⟨h.own.keepM hb ((KeepG.refl G wk).set _ _) (hm.less hi ha d) (h.own.msr.set G (i * 4 + 3) _), h.box.other (a := ⟨G, i * 4 + 3, none⟩) (Blk.ne2 h.box hb (by decide)) _, h.map.set (hb.noMap h.map) _, h.bel.setCell (p := ⟨G, i * 4 + 3, none⟩) (by show W0.heap.size ≤ G; have := h.w0; omega) _, by have := h.le; simpa using this, h.w0, h.bc, h.ra⟩
theorem CutI.holdN (h : CutI A BC r W0 x b g q wk) {i G : Nat} (hi : i < x.hs.n) (ha : x.hs.a = some ⟨G, 0, none⟩) (d : Int) : CutI A BC r W0 (withHolds x (lessHs x.hs i d)) b g q (wk.setCell ⟨G, i * 4 + 3, none⟩ (.int .i64 ((x.hs.z i).n - d))) := by
  have hm := h.own.hs
  obtain ⟨h1, h2, h3, h4⟩ := h.own.hs
  obtain ⟨G', ha', hA, hb⟩ := h4 (by omega)
  rw [ha] at ha'
  simp only [Option.some.injEq, Addr.mk.injEq, and_true] at ha'
  subst ha'
  refine ⟨h.own.keepG hb ((KeepG.refl G wk).set _ _) (hm.less hi ha d), h.box.other (a := ⟨G, i * 4 + 3, none⟩) (Blk.ne2 h.box hb (by decide)) _, h.map.set (hb.noMap h.map) _, h.bel.setCell (p := ⟨G, i * 4 + 3, none⟩) (by show W0.heap.size ≤ G; have := h.w0; omega) _, by have := h.le; simpa using this, h.w0, h.bc, h.ra⟩
theorem CutI.back (h : CutI A BC r W0 x b g q wk) {o B : Nat} (ho : o < x.os.n) (ha : (x.os.z o).ls.a = some ⟨B, 0, none⟩) (l : Nat) (v : Int) : CutI A BC r W0 (setLine x o l 3 v) b g q (wk.setCell ⟨B, l * 4 + 3, none⟩ (.int .i64 v)) := by
  obtain ⟨B', ha', hA, h1, h2, hb⟩ := h.own.os.lines o ho
  rw [ha] at ha'
  simp only [Option.some.injEq, Addr.mk.injEq, and_true] at ha'
  subst ha'
  refine ⟨h.own.setLine ho ha l 3 (by decide) v, h.box.other (a := ⟨B, l * 4 + 3, none⟩) (Blk.ne2 h.box hb (by decide)) _, h.map.set (hb.noMap h.map) _, h.bel.setCell (p := ⟨B, l * 4 + 3, none⟩) (by show W0.heap.size ≤ B; have := h.w0; omega) _, by have := h.le; simpa using this, h.w0, h.bc, h.ra⟩
theorem CutI.store (h : CutI A BC r W0 x b g q wk) {q' : Int → Int → Int} (m : MapQ wj r q') (k : KeepR r wk wj) : CutI A BC r W0 x b g q' wj :=
  ⟨h.own.ck (k.ck h.map), h.box.keepR h.map k, m, k.below h.bel (Nat.le_trans h.w0 h.ra), by rw [k.size]; exact h.le, h.w0, h.bc, h.ra⟩
theorem CutI.newMoves (h : CutI A BC r W0 x b g q wk) {m : Hs} (ho : OwnS A wj (withMoves x m)) (hb : Below A wk wj) (hk : ∀ q t n g, t ≠ 56 → Blk wk q t n g → Blk wj q t n g) (ho2 : KeepsOthers wk wj) : CutI A BC r W0 (withMoves x m) b g q (wj.setCell ⟨BC, 3, none⟩ (.slice m.a m.n m.c)) := by
  have hbox := hk _ _ _ _ (by decide) h.box
  have hmap := h.map.keeps ho2
  have b1 := h.w0
  have b2 := h.bc
  refine ⟨ho.boxC hbox 3 _, (hbox.set 3 _).congr fun j hj => ?_, hmap.set (hbox.noMap hmap) _, (h.bel.trans (hb.mono h.w0)).setCell (p := ⟨BC, 3, none⟩) (by show W0.heap.size ≤ BC; omega) _, by have := hb.size; have := h.le; simp; omega, h.w0, h.bc, h.ra⟩
  match j, hj with
  | 0, _ => rfl
  | 1, _ => rfl
  | 2, _ => rfl
  | 3, _ => rfl
  | 4, _ => rfl
  | 5, _ => rfl
  | 6, _ => rfl
  | 7, _ => rfl
  | 8, _ => rfl
  | 9, _ => rfl
theorem CutI.newHolds (h : CutI A BC r W0 x b g q wk) {m : Hs} (ho : OwnS A wj (withHolds x m)) (hb : Below A wk wj) (hk : ∀ q t n g, t ≠ 58 → Blk wk q t n g → Blk wj q t n g) (ho2 : KeepsOthers wk wj) : CutI A BC r W0 (withHolds x m) b g q (wj.setCell ⟨BC, 2, none⟩ (.slice m.a m.n m.c)) := by
  have hbox := hk _ _ _ _ (by decide) h.box
  have hmap := h.map.keeps ho2
  have b1 := h.w0
  have b2 := h.bc
  refine ⟨ho.boxC hbox 2 _, (hbox.set 2 _).congr fun j hj => ?_, hmap.set (hbox.noMap hmap) _, (h.bel.trans (hb.mono h.w0)).setCell (p := ⟨BC, 2, none⟩) (by show W0.heap.size ≤ BC; omega) _, by have := hb.size; have := h.le; simp; omega, h.w0, h.bc, h.ra⟩
  match j, hj with
  | 0, _ => rfl
  | 1, _ => rfl
  | 2, _ => rfl
  | 3, _ => rfl
  | 4, _ => rfl
  | 5, _ => rfl
  | 6, _ => rfl
  | 7, _ => rfl
  | 8, _ => rfl
  | 9, _ => rfl
theorem CutI.boxed (h : CutI A BC r W0 x b g q wk) : BC < wk.heap.size ∧ wk.cell? ⟨BC, 0, none⟩ = some (.slice x.on.a x.on.n x.on.c) ∧ wk.cell? ⟨BC, 1, none⟩ = some (.slice x.os.a x.os.n x.os.c) ∧ wk.cell? ⟨BC, 2, none⟩ = some (.slice x.hs.a x.hs.n x.hs.c) ∧ wk.cell? ⟨BC, 3, none⟩ = some (.slice x.ms.a x.ms.n x.ms.c) ∧ wk.cell? ⟨BC, 4, none⟩ = some (.slice x.si.a x.si.n x.si.c) ∧ wk.cell? ⟨BC, 5, none⟩ = some (.slice x.so.a x.so.n x.so.c) ∧ wk.cell? ⟨BC, 6, none⟩ = some (.slice x.sf.a x.sf.n x.sf.c) ∧ wk.cell? ⟨BC, 7, none⟩ = some (.int .i64 b) ∧ wk.cell? ⟨BC, 8, none⟩ = some (.int .i64 g) ∧ wk.cell? ⟨BC, 9, none⟩ = some (.map (some r)) :=
  ⟨h.box.lt, h.box.cell (j := 0) (by decide), h.box.cell (j := 1) (by decide), h.box.cell (j := 2) (by decide), h.box.cell (j := 3) (by decide), h.box.cell (j := 4) (by decide), h.box.cell (j := 5) (by decide), h.box.cell (j := 6) (by decide), h.box.cell (j := 7) (by decide), h.box.cell (j := 8) (by decide), h.box.cell (j := 9) (by decide)⟩
end
end Go.Proofs.YtbcacebifpagpaeGreat
namespace Go.Proofs.YtbcacebifpagpaeGreat
open Go.RowKit Go.Shelf Go.Sort
set_option linter.unusedVariables false
theorem cutMoves1_any (x : Hd) (w : World) :
    Calls Tryz.prog 42 #[x.val] w fun e w' => e = .returned (.bool (goneH x)) ∧ Below w.heap.size w w' := by
  unfold Hd.val goneH
  go_enter Tryz.func42, Tryz.ntmps42
  go_wp2_with fail
  go_ret
  exact ⟨rfl, (Below.refl _ _).alloc (Nat.le_refl _) _⟩
structure CutM (x : St) (b g : Nat) (n : Int) (i : Nat) (m : Int) (z : Nat → Hd) : Prop where
  rest : cutI (fromF b g) i (max 0 m) z = cutI (fromF b g) x.ms.n (max 0 n) x.ms.z
  left : leftL (fromF b g) (max 0 m) (revL z i) = leftL (fromF b g) (max 0 n) (moveR x)
  pos : ∀ j, j < x.ms.n → 0 ≤ (z j).n ∧ (z j).n ≤ 200
  le : m ≤ max 0 n ∧ (m = n ∨ 0 ≤ m)
theorem CutM.miss {x : St} {b g : Nat} {n m : Int} {i : Nat} {z : Nat → Hd} (h : CutM x b g n (i + 1) m z) (hf : ¬ ((z i).l = b ∧ (z i).o = g)) : CutM x b g n i m z := by
  have c : ¬ fromF b g (z i) = true := fun e => hf (fromF_iff.1 e)
  refine ⟨?_, ?_, h.pos, h.le⟩
  · rw [← h.rest]
    exact (if_neg c).symm
  · rw [← h.left]
    exact (if_neg c).symm
theorem CutM.hit {x : St} {b g : Nat} {n m : Int} {i : Nat} {z : Nat → Hd} (h : CutM x b g n (i + 1) m z) (hi : i < x.ms.n) (hm : 0 < m) (h1 : (z i).l = b) (h2 : (z i).o = g) : CutM x b g n i (m - min m (z i).n) (lessN z i (min m (z i).n)) := by
  have c : fromF b g (z i) = true := fromF_iff.2 ⟨h1, h2⟩
  have p := h.pos i hi
  have e0 : max 0 m = m := by omega
  have e1 : max 0 (m - min m (z i).n) = m - min m (z i).n := by omega
  refine ⟨?_, ?_, fun j hj => ?_, ?_⟩
  · rw [← h.rest, e0, e1]
    exact (if_pos c).symm
  · rw [← h.left, e0, e1, revL_congr (z := lessN z i (min m (z i).n)) (z' := z) fun j hj => if_neg (by omega)]
    exact (if_pos c).symm
  · unfold lessN
    have q := h.pos j hj
    by_cases e : j = i
    · rw [if_pos e, e]
      show 0 ≤ (z i).n - min m (z i).n ∧ (z i).n - min m (z i).n ≤ 200
      omega
    · rw [if_neg e]; exact q
  · have := h.le
    omega
theorem CutM.done {x : St} {b g : Nat} {n m : Int} {i : Nat} {z : Nat → Hd} (h : CutM x b g n i m z) (hi : i ≤ x.ms.n) (hd : i = 0 ∨ m ≤ 0) : z = cutI (fromF b g) x.ms.n (max 0 n) x.ms.z ∧ max 0 m = leftL (fromF b g) (max 0 n) (moveR x) := by
  rcases hd with rfl | hd
  · exact ⟨h.rest, h.left⟩
  · have e : max 0 m = 0 := by omega
    have r := h.rest
    have l := h.left
    rw [e] at r l
    rw [cutI_zero _ _ _ fun j hj => (h.pos j (by omega)).1] at r
    have l0 : leftL (fromF b g) 0 (revL z i) = 0 := by
      have k := (sumB_cut (fromF_blind b g) (R := revL z i) (m := 0) (fun y hy => by obtain ⟨j, hj, e⟩ := revL_mem hy; rw [← e]; exact (h.pos j (by omega)).1) (Int.le_refl _)).2
      have k2 := sumB_nn (P := fromF b g) (R := revL z i) (fun y hy => by obtain ⟨j, hj, e⟩ := revL_mem hy; rw [← e]; exact (h.pos j (by omega)).1)
      omega
    rw [e, ← l, l0]
    exact ⟨r, rfl⟩
set_option maxRecDepth 100000 in
set_option maxHeartbeats 2000000 in
theorem cutMoves_any (A BC r : Nat) (W0 : World) (x : St) (b g : Nat) (q : Int → Int → Int) (n : Int) (w : World) (h : CutI A BC r W0 x b g q w) (hm : ∀ j, j < x.ms.n → 0 ≤ (x.ms.z j).n ∧ (x.ms.z j).n ≤ 200) (hl : x.ms.n ≤ 8) (hn : -100000 ≤ n ∧ n ≤ 100000) :
    Calls Tryz.prog 13 #[.pointer (some ⟨BC, 0, none⟩), .int .i64 n] w fun e w' => ∃ v : Int, e = .returned (.int .i64 v) ∧ max 0 v = leftL (fromF b g) (max 0 n) (moveR x) ∧ (-100000 ≤ v ∧ v ≤ 100000) ∧ CutI A BC r W0 (withMoves x (cutHs (fromF b g) x.ms (max 0 n))) b g q w' := by
  have HI : Hid (CutI A BC r W0 x b g q w) := h
  have HM : Hid (CutM x b g n x.ms.n n x.ms.z) := ⟨rfl, rfl, hm, by omega, Or.inl rfl⟩
  obtain ⟨u, -, -, -, u3, -, -, -, -, -, -⟩ := h.boxed
  have mc := h.own.ms.2.1
  have ml := h.own.ms.1
  unfold maxLen at mc
  clear h hm
  go_enter Tryz.func13, Tryz.ntmps13
  go_wp2_with fail
  clear u u3
  go_loopw [1, 5] (fun nv iv wk => ∃ (i : Nat) (m : Int) (z : Nat → Hd), i ≤ x.ms.n ∧ iv = .int .i64 ((i : Int) - 1) ∧ nv = .int .i64 m ∧ Hid (CutI A BC r W0 (withMoves x ⟨x.ms.a, x.ms.n, x.ms.c, z⟩) b g q wk) ∧ Hid (CutM x b g n i m z)) (fun _ iv _ => (intOf iv + 1).toNat)
  case atStart => exact ⟨x.ms.n, n, x.ms.z, Nat.le_refl _, rfl, rfl, HI, HM⟩
  case round =>
    clear HI HM
    obtain ⟨i, m, z, hi, rfl, rfl, HI, HM⟩ := hrel
    have hle := HM.out.le
    by_cases hd : i = 0 ∨ m ≤ 0
    · have HD : Hid (z = cutI (fromF b g) x.ms.n (max 0 n) x.ms.z ∧ max 0 m = leftL (fromF b g) (max 0 n) (moveR x)) := HM.out.done hi hd
      obtain ⟨u, -, -, -, u3, -, -, -, -, -, -⟩ := HI.out.boxed
      have u3' : wr.cell? ⟨BC, 3, none⟩ = some (.slice x.ms.a x.ms.n x.ms.c) := u3
      have HDC : Hid (Calls Tryz.prog 41 #[.slice x.ms.a x.ms.n x.ms.c, .func (.func 42) #[] #[]] wr fun e w' => e = .returned (.slice x.ms.a (cutHs (fromF b g) x.ms (max 0 n)).n x.ms.c) ∧ OwnS A w' (withMoves x (cutHs (fromF b g) x.ms (max 0 n))) ∧ Below A wr w' ∧ (∀ q t m g, t ≠ 56 → Blk wr q t m g → Blk w' q t m g) ∧ KeepsOthers wr w') := by
        have hz := HD.out.1
        have hD := DelSM_any 42 #[] goneH A (withMoves x ⟨x.ms.a, x.ms.n, x.ms.c, z⟩) wr HI.out.le HI.out.own (enters_of Tryz.func42 (by kernel_rfl) rfl) (fun y wz _ => by rw [Array.append_empty]; exact cutMoves1_any y wz)
        rw [hz] at hD
        exact hD
      clear u3
      by_cases hi0 : i = 0
      · have q1 : ¬ (0 : Int) ≤ (i : Int) - 1 := by omega
        go_wp2_with fail
        refine HDC.out.mono ?_
        rintro e w2 ⟨rfl, hO2, hB2, hk2, ho2⟩
        have HN : Hid (CutI A BC r W0 (withMoves x (cutHs (fromF b g) x.ms (max 0 n))) b g q (w2.setCell ⟨BC, 3, none⟩ (.slice x.ms.a (cutHs (fromF b g) x.ms (max 0 n)).n x.ms.c))) := HI.out.newMoves (m := cutHs (fromF b g) x.ms (max 0 n)) hO2 hB2 hk2 ho2
        have bx := hk2 _ _ _ _ (by decide) HI.out.box
        have y1 := bx.lt
        have y2 := bx.frozen 3
        have y3 := bx.cell (j := 3) (by decide)
        clear hO2 hB2 hk2 ho2 bx HDC HI HM u u3'
        go_wp2_with fail
        go_ret
        exact ⟨m, rfl, HD.out.2, by omega, HN.out⟩
      · have hm0 : m ≤ 0 := by omega
        have q1 : (0 : Int) ≤ (i : Int) - 1 := by omega
        have q2 : ¬ 0 < m := by omega
        go_wp2_with fail
        refine HDC.out.mono ?_
        rintro e w2 ⟨rfl, hO2, hB2, hk2, ho2⟩
        have HN : Hid (CutI A BC r W0 (withMoves x (cutHs (fromF b g) x.ms (max 0 n))) b g q (w2.setCell ⟨BC, 3, none⟩ (.slice x.ms.a (cutHs (fromF b g) x.ms (max 0 n)).n x.ms.c))) := HI.out.newMoves (m := cutHs (fromF b g) x.ms (max 0 n)) hO2 hB2 hk2 ho2
        have bx := hk2 _ _ _ _ (by decide) HI.out.box
        have y1 := bx.lt
        have y2 := bx.frozen 3
        have y3 := bx.cell (j := 3) (by decide)
        clear hO2 hB2 hk2 ho2 bx HDC HI HM u u3'
        go_wp2_with fail
        go_ret
        exact ⟨m, rfl, HD.out.2, by omega, HN.out⟩
    · obtain ⟨k, rfl⟩ : ∃ k, i = k + 1 := ⟨i - 1, by omega⟩
      have hk : k < x.ms.n := by omega
      have q1 : (0 : Int) ≤ (k : Int) := by omega
      have q2 : 0 < m := by omega
      have q3 : (k : Int) < (x.ms.n : Int) := by omega
      have e1 : (((k + 1 : Nat) : Int) - 1) = (k : Int) := by omega
      rw [e1]
      obtain ⟨u, -, -, -, u3, -, -, -, u7, u8, -⟩ := HI.out.boxed
      obtain ⟨G, hG, hAG, hb⟩ := HI.out.own.ms.2.2.2 (show 0 < x.ms.n by omega)
      have HG : Hid (x.ms.a = some ⟨G, 0, none⟩) := hG
      have u3' : wr.cell? ⟨BC, 3, none⟩ = some (.slice (some ⟨G, 0, none⟩) x.ms.n x.ms.c) := by have h := u3; rw [hG] at h; exact h
      have z0 : wr.cell? ⟨G, k * 4, none⟩ = some (.int .i64 (z k).o) := (hb.cell (j := k * 4) (by show k * 4 < x.ms.n * 4; omega)).trans (congrArg some (flatH_at (z := z) (c := 0) hk (by decide)))
      have z1 : wr.cell? ⟨G, k * 4 + 1, none⟩ = some (.int .i64 (z k).l) := (hb.cell (j := k * 4 + 1) (by show _ < x.ms.n * 4; omega)).trans (congrArg some (flatH_at (z := z) (c := 1) hk (by decide)))
      have z3 : wr.cell? ⟨G, k * 4 + 3, none⟩ = some (.int .i64 (z k).n) := (hb.cell (j := k * 4 + 3) (by show _ < x.ms.n * 4; omega)).trans (congrArg some (flatH_at (z := z) (c := 3) hk (by decide)))
      have gl := hb.lt
      have zp := HM.out.pos k hk
      clear hb u3
      generalize hZL : (z k).l = ZL at *
      generalize hZO : (z k).o = ZO at *
      have HZ : Hid ((z k).l = ZL ∧ (z k).o = ZO) := ⟨hZL, hZO⟩
      clear hZL hZO hd e1 hG
      cases h1 : (ZL == (b : Int))
      · have HN : Hid (CutM x b g n k m z) := HM.out.miss (fun e => by rw [HZ.out.1] at e; simp at h1; omega)
        have h1' : (ZL != (b : Int)) = true := by simp at h1 ⊢; omega
        have r3 := fun d os => cell_regrown u3' d os
        have r7 := fun d os => cell_regrown u7 d os
        have r8 := fun d os => cell_regrown u8 d os
        have rz0 := fun d os => cell_regrown z0 d os
        have rz1 := fun d os => cell_regrown z1 d os
        go_wp2_with fail
        refine wp_region_quiet_below (by kernel_rfl) (by kernel_rfl) ?_
        repeat (go_big_quiet_step (fail))
        refine wpQuiet_nil ?_
        intro _ hw'
        obtain ⟨⟨dq, osq⟩, hw''⟩ := hw'
        subst hw''
        have rz3 := cell_regrown z3 dq osq
        have rgl := Nat.lt_of_lt_of_le gl (below_regrown wr dq osq).size
        have HIz : Hid (CutI A BC r W0 (withMoves x ⟨x.ms.a, x.ms.n, x.ms.c, z⟩) b g q (grow (redrawn wr dq) osq)) := HI.out.below (below_regrown wr dq osq)
        clear r3 r7 r8 rz0 rz1 u3' u7 u8 z0 z1 z3 HI gl u
        generalize grow (redrawn wr dq) osq = wz at *
        go_wp2_with fail
        go_roundw
        case rel => exact ⟨k, m, z, by omega, by go_num, rfl, HIz, HN⟩
        case measure => simp [intOf]
      · have h1' : (ZL != (b : Int)) = false := by simp at h1 ⊢; omega
        cases h2 : (ZO == (g : Int))
        · have HN : Hid (CutM x b g n k m z) := HM.out.miss (fun e => by rw [HZ.out.2] at e; simp at h2; omega)
          have h2' : (ZO != (g : Int)) = true := by simp at h2 ⊢; omega
          have r3 := fun d os => cell_regrown u3' d os
          have r7 := fun d os => cell_regrown u7 d os
          have r8 := fun d os => cell_regrown u8 d os
          have rz0 := fun d os => cell_regrown z0 d os
          have rz1 := fun d os => cell_regrown z1 d os
          go_wp2_with fail
          refine wp_region_quiet_below (by kernel_rfl) (by kernel_rfl) ?_
          repeat (go_big_quiet_step (fail))
          refine wpQuiet_nil ?_
          intro _ hw'
          obtain ⟨⟨dq, osq⟩, hw''⟩ := hw'
          subst hw''
          have rz3 := cell_regrown z3 dq osq
          have rgl := Nat.lt_of_lt_of_le gl (below_regrown wr dq osq).size
          have HIz : Hid (CutI A BC r W0 (withMoves x ⟨x.ms.a, x.ms.n, x.ms.c, z⟩) b g q (grow (redrawn wr dq) osq)) := HI.out.below (below_regrown wr dq osq)
          clear r3 r7 r8 rz0 rz1 u3' u7 u8 z0 z1 z3 HI gl u
          generalize grow (redrawn wr dq) osq = wz at *
          go_wp2_with fail
          go_roundw
          case rel => exact ⟨k, m, z, by omega, by go_num, rfl, HIz, HN⟩
          case measure => simp [intOf]
        · have h2' : (ZO != (g : Int)) = false := by simp at h2 ⊢; omega
          have HN : Hid (CutM x b g n k (m - min m (z k).n) (lessN z k (min m (z k).n))) := HM.out.hit hk q2 (by rw [HZ.out.1]; simpa using h1) (by rw [HZ.out.2]; simpa using h2)
          have r3 := fun d os => cell_regrown u3' d os
          have r7 := fun d os => cell_regrown u7 d os
          have r8 := fun d os => cell_regrown u8 d os
          have rz0 := fun d os => cell_regrown z0 d os
          have rz1 := fun d os => cell_regrown z1 d os
          go_wp2_with fail
          refine wp_region_quiet_below (by kernel_rfl) (by kernel_rfl) ?_
          repeat (go_big_quiet_step (fail))
          refine wpQuiet_nil ?_
          intro _ hw'
          obtain ⟨⟨dq, osq⟩, hw''⟩ := hw'
          subst hw''
          have rz3 := cell_regrown z3 dq osq
          have rgl := Nat.lt_of_lt_of_le gl (below_regrown wr dq osq).size
          have HIz : Hid (CutI A BC r W0 (withMoves x ⟨x.ms.a, x.ms.n, x.ms.c, z⟩) b g q (grow (redrawn wr dq) osq)) := HI.out.below (below_regrown wr dq osq)
          clear r3 r7 r8 rz0 rz1 u3' u7 u8 z0 z1 z3 HI gl u
          generalize grow (redrawn wr dq) osq = wz at *
          obtain ⟨h1m, h2m, h3m, h4m⟩ := HIz.out.own.ms
          obtain ⟨G', hG', hAG', hb'⟩ := h4m (show 0 < x.ms.n by omega)
          have eG : G = G' := by
            have e : x.ms.a = some ⟨G', 0, none⟩ := hG'
            rw [HG.out] at e
            simpa using e
          subst eG
          have fz := hb'.frozen (k * 4 + 3)
          have HIn : Hid (CutI A BC r W0 (withMoves x ⟨x.ms.a, x.ms.n, x.ms.c, lessN z k (min m (z k).n)⟩) b g q (wz.setCell ⟨G, k * 4 + 3, none⟩ (.int .i64 ((z k).n - min m (z k).n)))) := HIz.out.moveN (i := k) (G := G) hk HG.out (min m (z k).n)
          clear h1m h2m h3m h4m hG' hAG' hb' HIz
          generalize (z k).n = ZN at *
          go_wp2_with fail
          go_roundw
          case rel => exact ⟨k, m - min m ZN, lessN z k (min m ZN), by omega, by go_num, by go_num, HIn, HN⟩
          case measure => simp [intOf]
end Go.Proofs.YtbcacebifpagpaeGreat
namespace Go.Proofs.YtbcacebifpagpaeGreat
open Go.RowKit
set_option linter.unusedVariables false
def updB (dn : Nat → Bool) (i j : Nat) : Bool := if j = i then true else dn j
theorem updB_self (dn : Nat → Bool) (i : Nat) : updB dn i i = true := if_pos rfl
theorem updB_ne {dn : Nat → Bool} {i j : Nat} (h : ¬ j = i) : updB dn i j = dn j := if_neg h
theorem made_aux7 {P : Program} {ops : Array Oper} {Q : Exit → Act → World → Prop} {S : World → Prop} {T : Nat → Bool} {rem : List Nat} {L : Array Bool} {a1 : Act} {I : (Nat → Bool) → (Nat → Value) → World → Prop} {fuel : Nat} (hB : madeB5 ops rem L = true) (hT : ∀ r ∈ rem, T r = false)
    (step : ∀ i ∈ rem, ∀ (dn : Nat → Bool) (V : Nat → Value) (w : World) (K : Act → World → Prop), S w → dn i = false → (∀ d ∈ depsOf ops i, d ∈ rem → dn d = true) → I dn V w →
      (∀ v w', S w' → I (updB dn i) (upd V i v) w' → K ((putAll ops rem V a1).put (dstOf ops i) v) w') → wpOp P ops Q i K (putAll ops rem V a1) w)
    (done : ∀ (dn : Nat → Bool) (V : Nat → Value) (w : World), S w → (∀ j ∈ rem, dn j = true) → I dn V w → wpAnyT P ops Q S T fuel (mark L rem) (putAll ops rem V a1) w) :
    ∀ (m : Nat) (listed : Array Bool) (V : Nat → Value) (w : World), (rem.filter (fun r => !listed.getD r true)).length = m → listed.size = ops.size → (∀ j, j ∉ rem → listed[j]? = L[j]?) → Closed ops listed → S w → I (fun j => listed.getD j true) V w →
      wpAnyT P ops Q S T (m + fuel) listed (putAll ops rem V a1) w := by
  simp only [madeB5, Bool.and_eq_true, decide_eq_true_eq] at hB
  obtain ⟨⟨⟨⟨hoth, htopo⟩, hrem⟩, hLs⟩, hnd⟩ := hB
  have hrem' : ∀ r ∈ rem, r < ops.size ∧ L.getD r true = false := fun r hr => by
    have := List.all_eq_true.1 hrem r hr
    simpa using this
  intro m
  induction m with
  | zero =>
    intro listed V w hm hsz hag hcl hS hI
    have hall : ∀ r ∈ rem, listed.getD r true = true := fun r hr => by
      cases hq : listed.getD r true
      · have : r ∈ rem.filter (fun r => !listed.getD r true) := List.mem_filter.2 ⟨hr, by simp [hq]⟩
        rw [List.length_eq_zero_iff.1 hm] at this
        simp at this
      · rfl
    have hl : listed = mark L rem := by
      apply Array.ext_getElem?
      intro j
      by_cases hj : j < L.size
      · rw [mark_get rem L j hj]
        by_cases hjr : j ∈ rem
        · rw [if_pos hjr]
          have h1 := hall j hjr
          have h2 : j < listed.size := by omega
          simp only [Array.getD, h2, dif_pos] at h1
          simp [h2]
          exact h1
        · rw [if_neg hjr]; exact hag j hjr
      · rw [Array.getElem?_eq_none (by omega), Array.getElem?_eq_none (by rw [mark_size]; omega)]
    rw [Nat.zero_add]
    have h := done (fun j => listed.getD j true) V w hS hall hI
    rw [← hl] at h
    exact h
  | succ m ih =>
    intro listed V w hm hsz hag hcl hS hI
    have hex : ∃ r ∈ rem, listed.getD r true = false := by
      have hne : rem.filter (fun r => !listed.getD r true) ≠ [] := fun e => by rw [e] at hm; simp at hm
      obtain ⟨x, hx⟩ := List.exists_mem_of_ne_nil _ hne
      have := List.mem_filter.1 hx
      exact ⟨x, this.1, by simpa using this.2⟩
    have hLl : ∀ d, L.getD d false = true → listed.getD d false = true := fun d hd => by
      by_cases hdr : d ∈ rem
      · have h1 := (hrem' d hdr).2
        have h2 : d < L.size := by have := (hrem' d hdr).1; omega
        simp only [Array.getD, h2, dif_pos] at h1 hd
        rw [h1] at hd; cases hd
      · have h1 := hag d hdr
        by_cases h2 : d < L.size
        · have h3 : d < listed.size := by omega
          simp only [Array.getD, h2, h3, dif_pos] at hd ⊢
          simp only [Array.getElem?_eq_getElem h2, Array.getElem?_eq_getElem h3, Option.some.injEq] at h1
          rw [Array.getInternal_eq_getElem] at hd ⊢
          rw [h1]; exact hd
        · simp [Array.getD, h2] at hd
    obtain ⟨r0, hr0, hr0r⟩ := topo_ready hsz [] rem htopo hLl (fun d hd => by simp at hd) (fun r hr => (hrem' r hr).1) hex
    rw [Nat.add_right_comm]
    refine ⟨fun h0 => absurd (h0 ▸ hr0r) (by simp), fun i hi => ?_⟩
    obtain ⟨hli, o, ho, hdep⟩ := mem_ready.1 hi
    have hdeps : ∀ d ∈ depsOf ops i, listed.getD d false = true := fun d hd => by
      unfold depsOf at hd
      rw [ho] at hd
      obtain ⟨e, he, rfl⟩ := List.mem_map.1 hd
      have := List.mem_filter.1 he
      exact hdep e (by simpa using this.1) this.2
    have hdt : ∀ d, listed.getD d false = true → listed.getD d true = true := fun d hd => by
      by_cases h2 : d < listed.size
      · simpa [Array.getD, h2] using hd
      · simp [Array.getD, h2]
    have hir : i ∈ rem := by
      cases hc : rem.contains i
      · exfalso
        have hlt : i < ops.size := (Array.getElem?_eq_some_iff.1 ho).1
        have hnr : i ∉ rem := fun h => by
          have := List.contains_iff_mem.2 h
          rw [this] at hc; cases hc
        have h1 := List.all_eq_true.1 hoth i (List.mem_range.2 hlt)
        have hLi : L.getD i true = false := by
          have h2 := hag i hnr
          have h3 : i < L.size := by omega
          have h4 : i < listed.size := by omega
          simp only [Array.getElem?_eq_getElem h3, Array.getElem?_eq_getElem h4, Option.some.injEq] at h2
          simp only [Array.getD, h3, h4, dif_pos] at hli ⊢
          rw [Array.getInternal_eq_getElem] at hli ⊢
          rw [← h2]; exact hli
        rw [hLi, hc] at h1
        simp only [Bool.false_or] at h1
        obtain ⟨q, hq, hq2⟩ := hex
        have h5 := List.all_eq_true.1 h1 q hq
        have h6 := hdt q (reach_listed hcl _ i q (ready_deps hi) h5)
        rw [hq2] at h6; cases h6
      · exact List.contains_iff_mem.1 hc
    have hin : i < listed.size := by rw [hsz]; exact (hrem' i hir).1
    have hlit : listed.getD i true = false := hli
    refine step i hir (fun j => listed.getD j true) V w _ hS hlit (fun d hd hdr => hdt d (hdeps d hd)) hI (fun v w' hS' hI' => ?_)
    refine ⟨fun _ => hS', ?_⟩
    rw [putAll_put hnd hir]
    have gset : ∀ j, (listed.setIfInBounds i true).getD j true = if j = i then true else listed.getD j true := fun j => by
      by_cases hj : j = i
      · subst hj; simp [Array.getD, hin]
      · rw [if_neg hj, getD_set_ne true (fun e => hj e.symm)]
    refine ih (listed.setIfInBounds i true) (upd V i v) w' ?_ (by simpa using hsz) (fun j hj => ?_) (hcl.set hi) hS' ?_
    · have hnodup : rem.Nodup := by
        exact (List.pairwise_map.1 hnd).imp (fun h e => h (by rw [e]))
      have hcount : (rem.filter (fun r => !(listed.setIfInBounds i true).getD r true)) = (rem.filter (fun r => !listed.getD r true)).erase i := by
        have e2 : rem.filter (fun r => !(listed.setIfInBounds i true).getD r true) = (rem.filter (fun r => !listed.getD r true)).filter (fun r => r != i) := by
          rw [List.filter_filter]
          refine List.filter_congr fun x hx => ?_
          rw [gset x]
          by_cases hxi : x = i <;> simp [hxi]
        rw [e2, ← List.Nodup.erase_eq_filter (hnodup.filter _)]
      rw [hcount, List.length_erase_of_mem (List.mem_filter.2 ⟨hir, by simp [hli]⟩), hm]
      rfl
    · rw [Array.getElem?_setIfInBounds, if_neg (fun e : i = j => hj (by rw [← e]; exact hir))]
      exact hag j hj
    · have e : (fun j => (listed.setIfInBounds i true).getD j true) = updB (fun j => listed.getD j true) i := funext fun j => gset j
      rw [e]
      exact hI'
end Go.Proofs.YtbcacebifpagpaeGreat
namespace Go.Proofs.YtbcacebifpagpaeGreat
open Go.RowKit
set_option linter.unusedVariables false
theorem upd_at (V : Nat → Value) (i : Nat) (v : Value) : upd V i v i = v := if_pos rfl
theorem upd_ne (V : Nat → Value) {i j : Nat} (v : Value) (h : ¬ j = i) : upd V i v j = V j := if_neg h
theorem wp_region_all {P : Program} {l : List Oper} {Q : Exit → Act → World → Prop} {id : Nat} {a : Act} {w : World} (rem : List Nat)
    (hm : P.follows .mixedOrders = true) (hM : madeB5 l.toArray rem (Array.replicate l.length false) = true) (hB : seqB l.toArray [] (mark (Array.replicate l.length false) rem) = true) (hl : rem.length = l.length)
    (I : (Nat → Bool) → (Nat → Value) → World → Prop) (init : ∀ (dn : Nat → Bool) (V : Nat → Value), (∀ j ∈ rem, dn j = false) → I dn V w.drew)
    (step : ∀ i ∈ rem, ∀ (dn : Nat → Bool) (V : Nat → Value) (w : World) (K : Act → World → Prop), dn i = false → (∀ d ∈ depsOf l.toArray i, d ∈ rem → dn d = true) → I dn V w →
      (∀ v w', I (updB dn i) (upd V i v) w' → K ((putAll l.toArray rem V a).put (dstOf l.toArray i) v) w') → wpOp P l.toArray (NoPanic Q) i K (putAll l.toArray rem V a) w)
    (done : ∀ (dn : Nat → Bool) (V : Nat → Value) (w : World), (∀ j ∈ rem, dn j = true) → I dn V w → NoPanic Q .normal (putAll l.toArray rem V a) w) : (Code.region id l.toArray true).wp P Q a w := by
  refine wp_region_noPanic (wp_region_any hm ?_)
  have hM' := hM
  simp only [madeB5, Bool.and_eq_true, decide_eq_true_eq] at hM'
  have hall : (rem.filter (fun r => !(Array.replicate l.length false).getD r true)) = rem := by
    rw [List.filter_eq_self]
    intro r hr
    have := List.all_eq_true.1 hM'.1.1.2 r hr
    simp only [Bool.and_eq_true] at this
    exact this.2
  have hun : ∀ j ∈ rem, (Array.replicate l.length false).getD j true = false := fun j hj => by
    have := List.all_eq_true.1 hM'.1.1.2 j hj
    simp only [Bool.and_eq_true] at this
    simpa using this.2
  obtain ⟨V0, hV0⟩ : ∃ V0, putAll l.toArray rem V0 a = a := ⟨_, putAll_self a rem⟩
  have := made_aux7 (P := P) (Q := NoPanic Q) (S := fun _ => True) (T := fun _ => false) (a1 := a) (fuel := 0) (I := I) hM (fun _ _ => rfl) (fun i hi dn V w K _ h1 h2 h3 h4 => step i hi dn V w K h1 h2 h3 fun v w' h5 => h4 v w' trivial h5)
    (fun dn V w' hS' hd hI => wpAnyT_seq [] _ _ w' hB (fun t i hti => by simp at hti) (done dn V w' hd hI))
    rem.length (Array.replicate l.length false) V0 w.drew (by rw [hall]) hM'.1.2 (fun _ _ => rfl) (Closed.none _ _) trivial (init _ _ hun)
  rw [hV0] at this
  have k := wpAny_of_T _ _ _ _ this
  rw [hl] at k
  simpa using k
end Go.Proofs.YtbcacebifpagpaeGreat
namespace Go.Proofs.YtbcacebifpagpaeGreat
open Go.RowKit Go.Shelf Go.Sort
set_option linter.unusedVariables false
theorem cutHolds1_any (x : Hd) (w : World) :
    Calls Tryz.prog 40 #[x.val] w fun e w' => e = .returned (.bool (goneH x)) ∧ Below w.heap.size w w' := by
  unfold Hd.val goneH
  go_enter Tryz.func40, Tryz.ntmps40
  go_wp2_with fail
  go_ret
  exact ⟨rfl, (Below.refl _ _).alloc (Nat.le_refl _) _⟩
def backS (x : St) (q : Int → Int → Int) : St := ⟨x.on, backOs x.os q, x.hs, x.ms, x.si, x.so, x.sf⟩
theorem moreL_zero (x : Hd) : moreL x 0 = x := by unfold moreL; rw [Int.add_zero]
theorem backS_zero (x : St) : backS x (fun _ _ => 0) = x := by
  unfold backS backOs
  simp only [moreL_zero]
theorem back_set (x : St) (q : Int → Int → Int) (o l : Nat) (d : Int) : setLine (backS x q) o l 3 (((x.os.z o).ls.z l).n + q o l + d) = backS x (setQ q o l (q o l + d)) := by
  unfold setLine backS setOd backOs
  congr 2
  funext i
  by_cases hi : i = o
  · rw [if_pos hi]
    subst hi
    congr 2
    unfold setLn
    congr 1
    funext j
    dsimp only
    by_cases hj : j = l
    · rw [if_pos hj, hj]
      unfold setHd moreL setQ
      rw [if_neg (by decide), if_neg (by decide), if_neg (by decide), if_pos ⟨rfl, rfl⟩, Int.add_assoc]
    · rw [if_neg hj]
      unfold setQ
      rw [if_neg (fun e => hj (by omega))]
  · rw [if_neg hi]
    dsimp only
    congr 2
    funext j
    unfold setQ
    rw [if_neg (fun e => hi (by omega))]
structure CutH (x : St) (b g : Nat) (n : Int) (i : Nat) (m : Int) (z : Nat → Hd) (q : Int → Int → Int) : Prop where
  rest : cutI (heldF x b g) i (max 0 m) z = cutI (heldF x b g) x.hs.n (max 0 n) x.hs.z
  sum : ∀ o l, q o l + cutQ (heldF x b g) (max 0 m) (revL z i) o l = cutQ (heldF x b g) (max 0 n) (holdR x) o l
  q0 : ∀ o l, 0 ≤ q o l
  pos : ∀ j, j < x.hs.n → 0 ≤ (z j).n ∧ (z j).n ≤ 200
  key : ∀ j, j < x.hs.n → (z j).o = (x.hs.z j).o ∧ (z j).l = (x.hs.z j).l ∧ (z j).b = (x.hs.z j).b
  le : m ≤ max 0 n ∧ (m = n ∨ 0 ≤ m)
theorem CutH.revP {x : St} {b g : Nat} {n m : Int} {i : Nat} {z : Nat → Hd} {q : Int → Int → Int} (h : CutH x b g n i m z q) (hi : i ≤ x.hs.n) : Pos0 (revL z i) := fun y hy => by
  obtain ⟨j, hj, e⟩ := revL_mem hy
  rw [← e]
  exact (h.pos j (by omega)).1
theorem CutH.qle {x : St} {b g : Nat} {n m : Int} {i : Nat} {z : Nat → Hd} {q : Int → Int → Int} (h : CutH x b g n i m z q) (hi : i ≤ x.hs.n) (o l : Int) : q o l ≤ cutQ (heldF x b g) (max 0 n) (holdR x) o l := by
  have a := h.sum o l
  have c := cutQ_nn (heldF x b g) o l (m := max 0 m) (h.revP hi) (by omega)
  omega
theorem CutH.miss {x : St} {b g : Nat} {n m : Int} {i : Nat} {z : Nat → Hd} {q : Int → Int → Int} (h : CutH x b g n (i + 1) m z q) (hf : ¬ ((z i).b = b ∧ goodH x (z i) = g)) : CutH x b g n i m z q := by
  have c : ¬ heldF x b g (z i) = true := fun e => hf (heldF_iff.1 e)
  refine ⟨?_, fun o l => ?_, h.q0, h.pos, h.key, h.le⟩
  · rw [← h.rest]
    exact (if_neg c).symm
  · rw [← h.sum o l]
    congr 1
    exact (if_neg c).symm
theorem CutH.hit {x : St} {b g : Nat} {n m : Int} {i : Nat} {z : Nat → Hd} {q : Int → Int → Int} (h : CutH x b g n (i + 1) m z q) (hi : i < x.hs.n) (hm : 0 < m) (h1 : (z i).b = b) (h2 : goodH x (z i) = g) {o l : Nat} (ho : (z i).o = o) (hl : (z i).l = l) : CutH x b g n i (m - min m (z i).n) (lessN z i (min m (z i).n)) (setQ q o l (q o l + min m (z i).n)) := by
  have c : heldF x b g (z i) = true := heldF_iff.2 ⟨h1, h2⟩
  have p := h.pos i hi
  have e0 : max 0 m = m := by omega
  have e1 : max 0 (m - min m (z i).n) = m - min m (z i).n := by omega
  have le := h.le
  refine ⟨?_, fun a k => ?_, fun a k => ?_, fun j hj => ?_, fun j hj => ?_, by omega⟩
  · rw [← h.rest, e0, e1]
    exact (if_pos c).symm
  · have s := h.sum a k
    have ec : cutQ (heldF x b g) m (revL z (i + 1)) a k = (if (z i).o = a ∧ (z i).l = k then min m (z i).n else 0) + cutQ (heldF x b g) (m - min m (z i).n) (revL z i) a k := if_pos c
    rw [e0, ec, ho, hl] at s
    rw [e1, revL_congr (z := lessN z i (min m (z i).n)) (z' := z) fun j hj => if_neg (by omega)]
    unfold setQ
    by_cases e : a = o ∧ k = l
    · rw [if_pos ⟨e.1.symm, e.2.symm⟩] at s
      rw [if_pos e]
      rw [e.1, e.2] at s ⊢
      omega
    · rw [if_neg (fun e' => e ⟨e'.1.symm, e'.2.symm⟩)] at s
      rw [if_neg e]
      omega
  · have := h.q0 a k
    have := h.q0 o l
    unfold setQ
    split <;> omega
  · unfold lessN
    have w := h.pos j hj
    by_cases e : j = i
    · rw [if_pos e, e]
      show 0 ≤ (z i).n - min m (z i).n ∧ (z i).n - min m (z i).n ≤ 200
      omega
    · rw [if_neg e]; exact w
  · unfold lessN
    have w := h.key j hj
    by_cases e : j = i
    · rw [if_pos e]; exact w
    · rw [if_neg e]; exact w
theorem CutH.done {x : St} {b g : Nat} {n m : Int} {i : Nat} {z : Nat → Hd} {q : Int → Int → Int} (h : CutH x b g n i m z q) (hi : i ≤ x.hs.n) (hd : i = 0 ∨ m ≤ 0) : z = cutI (heldF x b g) x.hs.n (max 0 n) x.hs.z ∧ q = cutQ (heldF x b g) (max 0 n) (holdR x) := by
  rcases hd with rfl | hd
  · refine ⟨h.rest, ?_⟩
    funext o l
    rw [← h.sum o l]
    exact (Int.add_zero _).symm
  · have e : max 0 m = 0 := by omega
    have r := h.rest
    rw [e, cutI_zero _ _ _ fun j hj => (h.pos j (by omega)).1] at r
    refine ⟨r, ?_⟩
    funext o l
    rw [← h.sum o l, e, cutQ_zero _ _ _ (h.revP hi), Int.add_zero]
theorem holdFacts {A BC r : Nat} {W0 wk : World} {x : St} {b g : Nat} {q q' : Int → Int → Int} {z : Nat → Hd} {k o l G gO B : Nat} (h : CutI A BC r W0 (withHolds (backS x q) ⟨x.hs.a, x.hs.n, x.hs.c, z⟩) b g q' wk) (hk : k < x.hs.n) (ho : (z k).o = (o : Int)) (hl : (z k).l = (l : Int)) (on : o < x.os.n) (ln : l < (x.os.z o).ls.n) (hG : x.hs.a = some ⟨G, 0, none⟩) (hO : x.os.a = some ⟨gO, 0, none⟩) (hB : (x.os.z o).ls.a = some ⟨B, 0, none⟩) :
    BC < wk.heap.size ∧ wk.cell? ⟨BC, 1, none⟩ = some (.slice (some ⟨gO, 0, none⟩) x.os.n x.os.c) ∧ wk.cell? ⟨BC, 2, none⟩ = some (.slice (some ⟨G, 0, none⟩) x.hs.n x.hs.c) ∧ wk.cell? ⟨BC, 7, none⟩ = some (.int .i64 (b : Int)) ∧ wk.cell? ⟨BC, 8, none⟩ = some (.int .i64 (g : Int)) ∧ wk.cell? ⟨BC, 9, none⟩ = some (.map (some r)) ∧
    G < wk.heap.size ∧ wk.cell? ⟨G, k * 4, none⟩ = some (.int .i64 (o : Int)) ∧ wk.cell? ⟨G, k * 4 + 1, none⟩ = some (.int .i64 (l : Int)) ∧ wk.cell? ⟨G, k * 4 + 2, none⟩ = some (.int .i64 (z k).b) ∧ wk.cell? ⟨G, k * 4 + 3, none⟩ = some (.int .i64 (z k).n) ∧
    gO < wk.heap.size ∧ wk.cell? ⟨gO, o * 2 + 1, none⟩ = some (.slice (some ⟨B, 0, none⟩) (x.os.z o).ls.n (x.os.z o).ls.c) ∧ B < wk.heap.size ∧ wk.cell? ⟨B, l * 4, none⟩ = some (.int .i64 ((x.os.z o).ls.z l).o) ∧ wk.cell? ⟨B, l * 4 + 3, none⟩ = some (.int .i64 (((x.os.z o).ls.z l).n + q o l)) ∧ (∀ j, wk.frozen? ⟨G, j, none⟩ = false) ∧ (∀ j, wk.frozen? ⟨B, j, none⟩ = false) ∧ ¬ G = B := by
  obtain ⟨u, -, u1, u2, -, -, -, -, u7, u8, u9⟩ := h.boxed
  obtain ⟨G', hG', hAG, hb⟩ := h.own.hs.2.2.2 (show 0 < x.hs.n by omega)
  obtain ⟨gO', B', c1, c2, c3, c4, c5, c6, c7, c8, c9, c10, d0, d1, d2, d3⟩ := h.own.lineCell (o := o) (l := l) on ln
  have e1 : G = G' := by have e : x.hs.a = some ⟨G', 0, none⟩ := hG'; rw [hG] at e; simpa using e
  have e2 : gO = gO' := by have e : x.os.a = some ⟨gO', 0, none⟩ := c1; rw [hO] at e; simpa using e
  have e3 : B = B' := by have e : (x.os.z o).ls.a = some ⟨B', 0, none⟩ := c5; rw [hB] at e; simpa using e
  subst e1 e2 e3
  have u1' : wk.cell? ⟨BC, 1, none⟩ = some (.slice x.os.a x.os.n x.os.c) := u1
  have u2' : wk.cell? ⟨BC, 2, none⟩ = some (.slice x.hs.a x.hs.n x.hs.c) := u2
  rw [hO] at u1'
  rw [hG] at u2'
  have hbl := h.own.os.lines o on
  obtain ⟨B', b1, b2, b3, b4, b5⟩ := hbl
  have e3 : B = B' := by have e : (x.os.z o).ls.a = some ⟨B', 0, none⟩ := b1; rw [hB] at e; simpa using e
  subst e3
  exact ⟨u, u1', u2', u7, u8, u9, hb.lt, (hb.cell (j := k * 4) (by show k * 4 < x.hs.n * 4; omega)).trans (congrArg some ((flatH_at (z := z) (c := 0) hk (by decide)).trans (by rw [← ho]; rfl))), (hb.cell (j := k * 4 + 1) (by show _ < x.hs.n * 4; omega)).trans (congrArg some ((flatH_at (z := z) (c := 1) hk (by decide)).trans (by rw [← hl]; rfl))), (hb.cell (j := k * 4 + 2) (by show _ < x.hs.n * 4; omega)).trans (congrArg some (flatH_at (z := z) (c := 2) hk (by decide))), (hb.cell (j := k * 4 + 3) (by show _ < x.hs.n * 4; omega)).trans (congrArg some (flatH_at (z := z) (c := 3) hk (by decide))), c3, c4, c7, d0, d3, fun j => hb.frozen j, c10, Blk.ne2 hb b5 (by decide)⟩
def entV (BC r G k o l : Nat) (qv d : Int) (j : Nat) : Value := (#[.pointer (some ⟨BC, 0, none⟩), .pointer (some ⟨BC, 0, none⟩), .pointer (some ⟨BC, 9, none⟩), .map (some r), .pointer (some ⟨G, k * 4, none⟩), .pointer (some ⟨G, k * 4, none⟩), .pointer (some ⟨G, k * 4, none⟩), .int .i64 (o : Int), .pointer (some ⟨G, k * 4, none⟩), .pointer (some ⟨G, k * 4, none⟩), .pointer (some ⟨G, k * 4 + 1, none⟩), .int .i64 (l : Int), mkey o l, .int .i64 qv, .int .i64 d, .int .i64 (qv + d)] : Array Value).getD j default
structure EntI (A BC r : Nat) (W0 : World) (X : St) (b g : Nat) (q : Int → Int → Int) (o l G k : Nat) (d : Int) (dn : Nat → Bool) (V : Nat → Value) (w : World) : Prop where
  val : ∀ j, j < 16 → dn j = true → V j = entV BC r G k o l (q o l) d j
  cut : dn 18 = false → CutI A BC r W0 X b g q w
  fin : dn 18 = true → CutI A BC r W0 X b g (setQ q o l (q o l + d)) w
  ent : dn 16 = true → dn 18 = false → ∃ (v0 : Value) (st : Nat), V 16 = .tuple #[v0, goInt st] ∧ (dn 17 = true → V 17 = goInt st) ∧ ∀ v : Int, ∃ w2, (Instr.entryStore 42 (.map (some r)) (goInt st) (.int .i64 v)).run Tryz.prog w = .ok () w2 ∧ MapQ w2 r (setQ q o l v) ∧ KeepR r w w2
  c18 : dn 18 = true → dn 15 = true ∧ dn 17 = true
  c15 : dn 15 = true → dn 13 = true
  c17 : dn 17 = true → dn 16 = true
section
variable {A BC r : Nat} {W0 : World} {X : St} {b g : Nat} {q : Int → Int → Int} {o l G k : Nat} {d : Int} {dn : Nat → Bool} {V : Nat → Value} {w : World}
theorem EntI.any (h : EntI A BC r W0 X b g q o l G k d dn V w) : ∃ q', CutI A BC r W0 X b g q' w := by
  cases e : dn 18
  · exact ⟨_, h.cut e⟩
  · exact ⟨_, h.fin e⟩
theorem EntI.not13 (h : EntI A BC r W0 X b g q o l G k d dn V w) (e : dn 13 = false) : dn 18 = false := by
  cases e2 : dn 18
  · rfl
  · rw [h.c15 (h.c18 e2).1] at e; cases e
theorem EntI.not17 (h : EntI A BC r W0 X b g q o l G k d dn V w) (e : dn 17 = false) : dn 18 = false := by
  cases e2 : dn 18
  · rfl
  · rw [(h.c18 e2).2] at e; cases e
theorem EntI.not16 (h : EntI A BC r W0 X b g q o l G k d dn V w) (e : dn 16 = false) : dn 18 = false ∧ dn 17 = false := by
  have e17 : dn 17 = false := by
    cases e2 : dn 17
    · rfl
    · rw [h.c17 e2] at e; cases e
  exact ⟨h.not17 e17, e17⟩
theorem up {i j : Nat} (h : dn j = true) : updB dn i j = true := by
  by_cases e : j = i
  · rw [e]; exact updB_self dn i
  · rw [updB_ne e]; exact h
theorem EntI.put (h : EntI A BC r W0 X b g q o l G k d dn V w) {i : Nat} (hi : i < 16) {v : Value} (hv : v = entV BC r G k o l (q o l) d i) (h15 : i = 15 → dn 13 = true) : EntI A BC r W0 X b g q o l G k d (updB dn i) (upd V i v) w := by
  have n18 : updB dn i 18 = dn 18 := updB_ne (by omega)
  have n17 : updB dn i 17 = dn 17 := updB_ne (by omega)
  have n16 : updB dn i 16 = dn 16 := updB_ne (by omega)
  refine ⟨fun j hj hd => ?_, fun hd => h.cut (n18 ▸ hd), fun hd => h.fin (n18 ▸ hd), fun h1 h2 => ?_, fun h1 => ?_, fun h1 => ?_, fun h1 => ?_⟩
  · by_cases e : j = i
    · rw [e, upd_at]; exact hv
    · rw [upd_ne V v e]; rw [updB_ne e] at hd; exact h.val j hj hd
  · rw [n16] at h1
    rw [n18] at h2
    obtain ⟨v0, st, e1, e2, e3⟩ := h.ent h1 h2
    exact ⟨v0, st, by rw [upd_ne V v (by omega)]; exact e1, fun h3 => by rw [upd_ne V v (by omega)]; exact e2 (n17 ▸ h3), e3⟩
  · rw [n18] at h1
    exact ⟨up (h.c18 h1).1, up (h.c18 h1).2⟩
  · by_cases e : 15 = i
    · exact up (h15 e.symm)
    · rw [updB_ne e] at h1; exact up (h.c15 h1)
  · rw [n17] at h1
    exact up (h.c17 h1)
theorem EntI.entry (h : EntI A BC r W0 X b g q o l G k d dn V w) (hn : dn 16 = false) {v0 : Value} {st : Nat} {w1 : World} (m : MapQ w1 r q) (kr : KeepR r w w1) (hs : ∀ v : Int, ∃ w2, (Instr.entryStore 42 (.map (some r)) (goInt st) (.int .i64 v)).run Tryz.prog w1 = .ok () w2 ∧ MapQ w2 r (setQ q o l v) ∧ KeepR r w w2) : EntI A BC r W0 X b g q o l G k d (updB dn 16) (upd V 16 (.tuple #[v0, goInt st])) w1 := by
  obtain ⟨e18, e17⟩ := h.not16 hn
  have n18 : updB dn 16 18 = dn 18 := updB_ne (by omega)
  have n17 : updB dn 16 17 = dn 17 := updB_ne (by omega)
  refine ⟨fun j hj hd => ?_, fun hd => (h.cut e18).store m kr, fun hd => ?_, fun h1 h2 => ?_, fun h1 => ?_, fun h1 => ?_, fun h1 => ?_⟩
  · rw [upd_ne V _ (by omega)]; rw [updB_ne (by omega)] at hd; exact h.val j hj hd
  · rw [n18, e18] at hd; cases hd
  · refine ⟨v0, st, upd_at _ _ _, fun h3 => ?_, fun v => ?_⟩
    · rw [n17, e17] at h3; cases h3
    · obtain ⟨w2, a1, a2, a3⟩ := hs v
      exact ⟨w2, a1, a2, ⟨a3.os.trans kr.os.symm, a3.tape.trans kr.tape.symm, a3.output.trans kr.output.symm, a3.size.trans kr.size.symm, fun k' hk => (a3.block k' hk).trans (kr.block k' hk).symm⟩⟩
  · rw [n18, e18] at h1; cases h1
  · rw [updB_ne (by omega)] at h1; exact up (h.c15 h1)
  · exact updB_self dn 16
theorem EntI.extract (h : EntI A BC r W0 X b g q o l G k d dn V w) (hn : dn 17 = false) (d16 : dn 16 = true) {v0 : Value} {st : Nat} (hv : V 16 = .tuple #[v0, goInt st]) : EntI A BC r W0 X b g q o l G k d (updB dn 17) (upd V 17 (goInt st)) w := by
  have e18 := h.not17 hn
  have n18 : updB dn 17 18 = dn 18 := updB_ne (by omega)
  refine ⟨fun j hj hd => ?_, fun hd => h.cut e18, fun hd => ?_, fun h1 h2 => ?_, fun h1 => ?_, fun h1 => ?_, fun h1 => up d16⟩
  · rw [upd_ne V _ (by omega)]; rw [updB_ne (by omega)] at hd; exact h.val j hj hd
  · rw [n18, e18] at hd; cases hd
  · obtain ⟨v1, st1, a1, a2, a3⟩ := h.ent d16 e18
    have es : goInt st1 = goInt st := by
      have e := a1.symm.trans hv
      simp only [Value.tuple.injEq] at e
      have e2 : (#[v1, goInt st1] : Array Value)[1]? = (#[v0, goInt st] : Array Value)[1]? := by rw [e]
      simpa using e2
    refine ⟨v0, st, by rw [upd_ne V _ (by omega)]; exact hv, fun _ => upd_at _ _ _, fun v => ?_⟩
    rw [← es]
    exact a3 v
  · rw [n18, e18] at h1; cases h1
  · rw [updB_ne (by omega)] at h1; exact up (h.c15 h1)
theorem EntI.store (h : EntI A BC r W0 X b g q o l G k d dn V w) (hn : dn 18 = false) (d15 : dn 15 = true) (d17 : dn 17 = true) {w2 : World} (m : MapQ w2 r (setQ q o l (q o l + d))) (kr : KeepR r w w2) (v : Value) : EntI A BC r W0 X b g q o l G k d (updB dn 18) (upd V 18 v) w2 := by
  have n18 : updB dn 18 18 = true := updB_self dn 18
  refine ⟨fun j hj hd => ?_, fun hd => ?_, fun _ => (h.cut hn).store m kr, fun h1 h2 => ?_, fun _ => ⟨up d15, up d17⟩, fun h1 => ?_, fun h1 => ?_⟩
  · rw [upd_ne V _ (by omega)]; rw [updB_ne (by omega)] at hd; exact h.val j hj hd
  · rw [n18] at hd; cases hd
  · rw [n18] at h2; cases h2
  · rw [updB_ne (by omega)] at h1; exact up (h.c15 h1)
  · rw [updB_ne (by omega)] at h1; exact up (h.c17 h1)
end
set_option maxRecDepth 100000 in
set_option maxHeartbeats 8000000 in
theorem cutHolds_any (p : Pl) (A BC r : Nat) (W0 : World) (x : St) (b g : Nat) (n : Int) (w : World) (h : CutI A BC r W0 x b g (fun _ _ => 0) w) (f : Formed p x) (hn : -100000 ≤ n ∧ n ≤ 100000) (hq : ∀ o l, cutQ (heldF x b g) (max 0 n) (holdR x) o l ≤ 100000) :
    Calls Tryz.prog 12 #[.pointer (some ⟨BC, 0, none⟩), .int .i64 n] w fun e w' => e = .returned (.tuple #[]) ∧ CutI A BC r W0 (withHolds (backS x (cutQ (heldF x b g) (max 0 n) (holdR x))) (cutHs (heldF x b g) x.hs (max 0 n))) b g (cutQ (heldF x b g) (max 0 n) (holdR x)) w' := by
  have HI : Hid (CutI A BC r W0 (withHolds (backS x (fun _ _ => 0)) ⟨x.hs.a, x.hs.n, x.hs.c, x.hs.z⟩) b g (fun _ _ => 0) w) := by
    show CutI A BC r W0 (withHolds (backS x (fun _ _ => 0)) x.hs) b g (fun _ _ => 0) w
    rw [backS_zero]
    exact h
  have HM : Hid (CutH x b g n x.hs.n n x.hs.z (fun _ _ => 0)) := ⟨rfl, fun o l => Int.zero_add _, fun _ _ => Int.le_refl _, fun j hj => by have := f.holdN j hj; omega, fun _ _ => ⟨rfl, rfl, rfl⟩, by omega, Or.inl rfl⟩
  obtain ⟨u, -, -, u2, -, -, -, -, -, -, -⟩ := h.boxed
  have mc := h.own.hs.2.1
  have ml := h.own.hs.1
  unfold maxLen at mc
  have h72 := f.hs72
  have HF : Hid (Formed p x) := f
  have HQ : Hid (∀ o l, cutQ (heldF x b g) (max 0 n) (holdR x) o l ≤ 100000) := hq
  clear h f hq
  go_enter Tryz.func12, Tryz.ntmps12
  go_wp2_with fail
  clear u u2
  go_loopw [1, 4] (fun nv iv wk => ∃ (i : Nat) (m : Int) (z : Nat → Hd) (q : Int → Int → Int), i ≤ x.hs.n ∧ iv = .int .i64 ((i : Int) - 1) ∧ nv = .int .i64 m ∧ Hid (CutI A BC r W0 (withHolds (backS x q) ⟨x.hs.a, x.hs.n, x.hs.c, z⟩) b g q wk) ∧ Hid (CutH x b g n i m z q)) (fun _ iv _ => (intOf iv + 1).toNat)
  case atStart => exact ⟨x.hs.n, n, x.hs.z, fun _ _ => 0, Nat.le_refl _, rfl, rfl, HI, HM⟩
  case round =>
    clear HI HM
    obtain ⟨i, m, z, q, hi, rfl, rfl, HI, HM⟩ := hrel
    have hle := HM.out.le
    by_cases hd : i = 0 ∨ m ≤ 0
    · have HD : Hid (z = cutI (heldF x b g) x.hs.n (max 0 n) x.hs.z ∧ q = cutQ (heldF x b g) (max 0 n) (holdR x)) := HM.out.done hi hd
      obtain ⟨u, -, -, u2, -, -, -, -, -, -, -⟩ := HI.out.boxed
      have u2' : wr.cell? ⟨BC, 2, none⟩ = some (.slice x.hs.a x.hs.n x.hs.c) := u2
      have HDC : Hid (Calls Tryz.prog 39 #[.slice x.hs.a x.hs.n x.hs.c, .func (.func 40) #[] #[]] wr fun e w' => e = .returned (.slice x.hs.a (cutHs (heldF x b g) x.hs (max 0 n)).n x.hs.c) ∧ OwnS A w' (withHolds (backS x q) (cutHs (heldF x b g) x.hs (max 0 n))) ∧ Below A wr w' ∧ (∀ q t m g, t ≠ 58 → Blk wr q t m g → Blk w' q t m g) ∧ KeepsOthers wr w') := by
        have hz := HD.out.1
        have hD := DelS2_any 40 #[] goneH A (withHolds (backS x q) ⟨x.hs.a, x.hs.n, x.hs.c, z⟩) wr HI.out.le HI.out.own (enters_of Tryz.func40 (by kernel_rfl) rfl) (fun y wz _ => by rw [Array.append_empty]; exact cutHolds1_any y wz)
        rw [hz] at hD
        exact hD
      clear u2
      by_cases hi0 : i = 0
      · have q1 : ¬ (0 : Int) ≤ (i : Int) - 1 := by omega
        go_wp2_with fail
        refine HDC.out.mono ?_
        rintro e w2 ⟨rfl, hO2, hB2, hk2, ho2⟩
        have HN : Hid (CutI A BC r W0 (withHolds (backS x (cutQ (heldF x b g) (max 0 n) (holdR x))) (cutHs (heldF x b g) x.hs (max 0 n))) b g (cutQ (heldF x b g) (max 0 n) (holdR x)) (w2.setCell ⟨BC, 2, none⟩ (.slice x.hs.a (cutHs (heldF x b g) x.hs (max 0 n)).n x.hs.c))) := by
          have h := HI.out.newHolds (m := cutHs (heldF x b g) x.hs (max 0 n)) hO2 hB2 hk2 ho2
          rw [HD.out.2] at h
          exact h
        have bx := hk2 _ _ _ _ (by decide) HI.out.box
        have y1 := bx.lt
        have y2 := bx.frozen 2
        have y3 := bx.cell (j := 2) (by decide)
        clear hO2 hB2 hk2 ho2 bx HDC HI HM u u2'
        go_wp2_with fail
        go_end0
        exact ⟨rfl, HN.out⟩
      · have hm0 : m ≤ 0 := by omega
        have q1 : (0 : Int) ≤ (i : Int) - 1 := by omega
        have q2 : ¬ 0 < m := by omega
        go_wp2_with fail
        refine HDC.out.mono ?_
        rintro e w2 ⟨rfl, hO2, hB2, hk2, ho2⟩
        have HN : Hid (CutI A BC r W0 (withHolds (backS x (cutQ (heldF x b g) (max 0 n) (holdR x))) (cutHs (heldF x b g) x.hs (max 0 n))) b g (cutQ (heldF x b g) (max 0 n) (holdR x)) (w2.setCell ⟨BC, 2, none⟩ (.slice x.hs.a (cutHs (heldF x b g) x.hs (max 0 n)).n x.hs.c))) := by
          have h := HI.out.newHolds (m := cutHs (heldF x b g) x.hs (max 0 n)) hO2 hB2 hk2 ho2
          rw [HD.out.2] at h
          exact h
        have bx := hk2 _ _ _ _ (by decide) HI.out.box
        have y1 := bx.lt
        have y2 := bx.frozen 2
        have y3 := bx.cell (j := 2) (by decide)
        clear hO2 hB2 hk2 ho2 bx HDC HI HM u u2'
        go_wp2_with fail
        go_end0
        exact ⟨rfl, HN.out⟩
    · obtain ⟨k, rfl⟩ : ∃ k, i = k + 1 := ⟨i - 1, by omega⟩
      have hk : k < x.hs.n := by omega
      have q1 : (0 : Int) ≤ (k : Int) := by omega
      have q2 : 0 < m := by omega
      have q3 : (k : Int) < (x.hs.n : Int) := by omega
      have e1 : (((k + 1 : Nat) : Int) - 1) = (k : Int) := by omega
      rw [e1]
      obtain ⟨ky1, ky2, ky3⟩ := HM.out.key k hk
      obtain ⟨a1, a2, a3⟩ := homeless_no (HF.out.home k hk)
      obtain ⟨o, ho⟩ := Int.eq_ofNat_of_zero_le a1.1
      obtain ⟨l, hl⟩ := Int.eq_ofNat_of_zero_le a2.1
      rw [ho] at a1 a2
      rw [hl] at a2
      have on : o < x.os.n := a1.2
      have ln : l < (x.os.z o).ls.n := a2.2
      have o4 : o < 4 := by have := HF.out.os4; omega
      have l3 : l < 3 := by have := (HF.out.lns o on).2; omega
      have HO : Hid ((z k).o = (o : Int) ∧ (z k).l = (l : Int)) := ⟨ky1.trans ho, ky2.trans hl⟩
      have HGD : Hid (goodH x (z k) = ((x.os.z o).ls.z l).o) := by show goodH x (z k) = _; unfold goodH; rw [HO.out.1, HO.out.2]; rfl
      obtain ⟨G, hG, hAG, -⟩ := HI.out.own.hs.2.2.2 (show 0 < x.hs.n by omega)
      obtain ⟨gO, B, hO, -, -, -, hB, -, -, nc, cc, -⟩ := HI.out.own.lineCell (o := o) (l := l) on ln
      have HA : Hid (x.hs.a = some ⟨G, 0, none⟩ ∧ x.os.a = some ⟨gO, 0, none⟩ ∧ (x.os.z o).ls.a = some ⟨B, 0, none⟩) := ⟨hG, hO, hB⟩
      have nc' : (x.os.z o).ls.n ≤ (x.os.z o).ls.c := nc
      have cc' : (x.os.z o).ls.c ≤ maxLen := cc
      have oc : x.os.c ≤ maxLen := HI.out.own.os.cap
      have ocl : x.os.n ≤ x.os.c := HI.out.own.os.le
      unfold maxLen at cc' oc
      have zp := HM.out.pos k hk
      have bl0 := badLine_no (HF.out.line o on l ln)
      have qo := HM.out.q0 o l
      have qle := Int.le_trans (HM.out.qle hi o l) (HQ.out o l)
      have s0 : (0 : Int) ≤ (o : Int) := by omega
      have s1 : (o : Int) < (x.os.n : Int) := by omega
      have s2 : (0 : Int) ≤ (l : Int) := by omega
      have s3 : (l : Int) < ((x.os.z o).ls.n : Int) := by omega
      clear ky1 ky2 ky3 a1 a2 a3 ho hl hG hO hB nc cc hd e1 hAG
      obtain ⟨u, u1, u2, u7, u8, u9, gl, z0, z1, z2, z3, ol, c4, bl, d0, d3, fG, fB, ne⟩ := holdFacts HI.out hk HO.out.1 HO.out.2 on ln HA.out.1 HA.out.2.1 HA.out.2.2
      have e1 : (((k + 1 : Nat) : Int) - 1) = (k : Int) := by omega
      go_wp2_with fail
      clear u u1 u2 u7 u8 u9 gl z0 z1 z2 z3 ol c4 bl d0 d3 fG fB ne
      obtain ⟨u, u1, u2, u7, u8, u9, gl, z0, z1, z2, z3, ol, c4, bl, d0, d3, fG, fB, ne⟩ := holdFacts HI.out hk HO.out.1 HO.out.2 on ln HA.out.1 HA.out.2.1 HA.out.2.2
      clear fG fB ne z3 d3 u9
      have ru1 := fun d os => cell_regrown u1 d os
      have ru2 := fun d os => cell_regrown u2 d os
      have ru7 := fun d os => cell_regrown u7 d os
      have ru8 := fun d os => cell_regrown u8 d os
      have rz0 := fun d os => cell_regrown z0 d os
      have rz1 := fun d os => cell_regrown z1 d os
      have rz2 := fun d os => cell_regrown z2 d os
      have rc4 := fun d os => cell_regrown c4 d os
      have rd0 := fun d os => cell_regrown d0 d os
      refine wp_region_quiet_below (by kernel_rfl) (by kernel_rfl) ?_
      repeat (go_big_quiet_step (fail))
      refine wpQuiet_nil ?_
      intro _ hw'
      obtain ⟨⟨dq, osq⟩, hw''⟩ := hw'
      subst hw''
      have HIa : Hid (CutI A BC r W0 (withHolds (backS x q) ⟨x.hs.a, x.hs.n, x.hs.c, z⟩) b g q (grow (redrawn wr dq) osq)) := HI.out.below (below_regrown wr dq osq)
      clear ru1 ru2 ru7 ru8 rz0 rz1 rz2 rc4 rd0 u u1 u2 u7 u8 gl z0 z1 z2 ol c4 bl d0 HI
      generalize grow (redrawn wr dq) osq = wa at *
      generalize hZB : (z k).b = ZB at *
      generalize hZO : ((x.os.z o).ls.z l).o = ZO at *
      have HZ : Hid ((z k).b = ZB ∧ goodH x (z k) = ZO) := ⟨hZB, HGD.out⟩
      have HZ2 : Hid (((x.os.z o).ls.z l).o = ZO) := hZO
      clear hZB hZO
      cases h1 : (ZB == (b : Int))
      · have HN : Hid (CutH x b g n k m z q) := HM.out.miss (fun e => by rw [HZ.out.1] at e; simp at h1; omega)
        have h1' : (ZB != (b : Int)) = true := by simp at h1 ⊢; omega
        go_wp2_with fail
        obtain ⟨u, u1, u2, u7, u8, u9, gl, z0, z1, z2, z3, ol, c4, bl, d0, d3, fG, fB, ne⟩ := holdFacts HIa.out hk HO.out.1 HO.out.2 on ln HA.out.1 HA.out.2.1 HA.out.2.2
        clear fG fB ne z3 d3 u9
        rw [HZ.out.1] at z2
        rw [HZ2.out] at d0
        have ru1 := fun d os => cell_regrown u1 d os
        have ru2 := fun d os => cell_regrown u2 d os
        have ru7 := fun d os => cell_regrown u7 d os
        have ru8 := fun d os => cell_regrown u8 d os
        have rz0 := fun d os => cell_regrown z0 d os
        have rz1 := fun d os => cell_regrown z1 d os
        have rz2 := fun d os => cell_regrown z2 d os
        have rc4 := fun d os => cell_regrown c4 d os
        have rd0 := fun d os => cell_regrown d0 d os
        refine wp_region_quiet_below (by kernel_rfl) (by kernel_rfl) ?_
        repeat (go_big_quiet_step (fail))
        refine wpQuiet_nil ?_
        intro _ hw'
        obtain ⟨⟨dq, osq⟩, hw''⟩ := hw'
        subst hw''
        have HIz : Hid (CutI A BC r W0 (withHolds (backS x q) ⟨x.hs.a, x.hs.n, x.hs.c, z⟩) b g q (grow (redrawn wa dq) osq)) := HIa.out.below (below_regrown wa dq osq)
        clear ru1 ru2 ru7 ru8 rz0 rz1 rz2 rc4 rd0 u u1 u2 u7 u8 gl z0 z1 z2 ol c4 bl d0 HIa
        generalize grow (redrawn wa dq) osq = wz at *
        go_wp2_with fail
        go_roundw
        case rel => exact ⟨k, m, z, q, by omega, by go_num, rfl, HIz, HN⟩
        case measure => simp [intOf]
      · have h1' : (ZB != (b : Int)) = false := by simp at h1 ⊢; omega
        cases h2 : (ZO == (g : Int))
        · have HN : Hid (CutH x b g n k m z q) := HM.out.miss (fun e => by rw [HZ.out.2] at e; simp at h2; omega)
          have h2' : (ZO != (g : Int)) = true := by simp at h2 ⊢; omega
          go_wp2_with fail
          obtain ⟨u, u1, u2, u7, u8, u9, gl, z0, z1, z2, z3, ol, c4, bl, d0, d3, fG, fB, ne⟩ := holdFacts HIa.out hk HO.out.1 HO.out.2 on ln HA.out.1 HA.out.2.1 HA.out.2.2
          clear fG fB ne z3 d3 u9
          rw [HZ.out.1] at z2
          rw [HZ2.out] at d0
          have ru1 := fun d os => cell_regrown u1 d os
          have ru2 := fun d os => cell_regrown u2 d os
          have ru7 := fun d os => cell_regrown u7 d os
          have ru8 := fun d os => cell_regrown u8 d os
          have rz0 := fun d os => cell_regrown z0 d os
          have rz1 := fun d os => cell_regrown z1 d os
          have rz2 := fun d os => cell_regrown z2 d os
          have rc4 := fun d os => cell_regrown c4 d os
          have rd0 := fun d os => cell_regrown d0 d os
          refine wp_region_quiet_below (by kernel_rfl) (by kernel_rfl) ?_
          repeat (go_big_quiet_step (fail))
          refine wpQuiet_nil ?_
          intro _ hw'
          obtain ⟨⟨dq, osq⟩, hw''⟩ := hw'
          subst hw''
          have HIz : Hid (CutI A BC r W0 (withHolds (backS x q) ⟨x.hs.a, x.hs.n, x.hs.c, z⟩) b g q (grow (redrawn wa dq) osq)) := HIa.out.below (below_regrown wa dq osq)
          clear ru1 ru2 ru7 ru8 rz0 rz1 rz2 rc4 rd0 u u1 u2 u7 u8 gl z0 z1 z2 ol c4 bl d0 HIa
          generalize grow (redrawn wa dq) osq = wz at *
          go_wp2_with fail
          go_roundw
          case rel => exact ⟨k, m, z, q, by omega, by go_num, rfl, HIz, HN⟩
          case measure => simp [intOf]
        · have h2' : (ZO != (g : Int)) = false := by simp at h2 ⊢; omega
          have HN : Hid (CutH x b g n k (m - min m (z k).n) (lessN z k (min m (z k).n)) (setQ q o l (q o l + min m (z k).n))) := HM.out.hit hk q2 (by rw [HZ.out.1]; simpa using h1) (by rw [HZ.out.2]; simpa using h2) HO.out.1 HO.out.2
          go_wp2_with fail
          obtain ⟨u, u1, u2, u7, u8, u9, gl, z0, z1, z2, z3, ol, c4, bl, d0, d3, fG, fB, ne⟩ := holdFacts HIa.out hk HO.out.1 HO.out.2 on ln HA.out.1 HA.out.2.1 HA.out.2.2
          clear fG fB ne z3 d3 u9
          rw [HZ.out.1] at z2
          rw [HZ2.out] at d0
          have ru1 := fun d os => cell_regrown u1 d os
          have ru2 := fun d os => cell_regrown u2 d os
          have ru7 := fun d os => cell_regrown u7 d os
          have ru8 := fun d os => cell_regrown u8 d os
          have rz0 := fun d os => cell_regrown z0 d os
          have rz1 := fun d os => cell_regrown z1 d os
          have rz2 := fun d os => cell_regrown z2 d os
          have rc4 := fun d os => cell_regrown c4 d os
          have rd0 := fun d os => cell_regrown d0 d os
          refine wp_region_quiet_below (by kernel_rfl) (by kernel_rfl) ?_
          repeat (go_big_quiet_step (fail))
          refine wpQuiet_nil ?_
          intro _ hw'
          obtain ⟨⟨dq, osq⟩, hw''⟩ := hw'
          subst hw''
          have HIz : Hid (CutI A BC r W0 (withHolds (backS x q) ⟨x.hs.a, x.hs.n, x.hs.c, z⟩) b g q (grow (redrawn wa dq) osq)) := HIa.out.below (below_regrown wa dq osq)
          clear ru1 ru2 ru7 ru8 rz0 rz1 rz2 rc4 rd0 u u1 u2 u7 u8 gl z0 z1 z2 ol c4 bl d0 HIa
          generalize grow (redrawn wa dq) osq = wz at *
          obtain ⟨u, u1, u2, u7, u8, u9, gl, z0, z1, z2, z3, ol, c4, bl, d0, d3, fG, fB, ne⟩ := holdFacts HIz.out hk HO.out.1 HO.out.2 on ln HA.out.1 HA.out.2.1 HA.out.2.2
          have f1 := fG (k * 4 + 3)
          have f2 := fB (l * 4 + 3)
          have ne2 : ¬ B = G := fun e => ne e.symm
          have HI3 : Hid (CutI A BC r W0 (withHolds (backS x (setQ q o l (q o l + min m (z k).n))) ⟨x.hs.a, x.hs.n, x.hs.c, lessN z k (min m (z k).n)⟩) b g q ((wz.setCell ⟨G, k * 4 + 3, none⟩ (.int .i64 ((z k).n - min m (z k).n))).setCell ⟨B, l * 4 + 3, none⟩ (.int .i64 (((x.os.z o).ls.z l).n + q o l + min m (z k).n)))) := by
            have h1 := HIz.out.holdN (i := k) (G := G) hk HA.out.1 (min m (z k).n)
            have h2 := h1.back (o := o) (B := B) on HA.out.2.2 l (((x.os.z o).ls.z l).n + q o l + min m (z k).n)
            have e : setLine (withHolds (withHolds (backS x q) ⟨x.hs.a, x.hs.n, x.hs.c, z⟩) (lessHs ⟨x.hs.a, x.hs.n, x.hs.c, z⟩ k (min m (z k).n))) o l 3 (((x.os.z o).ls.z l).n + q o l + min m (z k).n) = withHolds (setLine (backS x q) o l 3 (((x.os.z o).ls.z l).n + q o l + min m (z k).n)) ⟨x.hs.a, x.hs.n, x.hs.c, lessN z k (min m (z k).n)⟩ := rfl
            rw [back_set] at e
            rw [← e]
            exact h2
          have HO3 : Hid ((lessN z k (min m (z k).n) k).o = (o : Int) ∧ (lessN z k (min m (z k).n) k).l = (l : Int)) := by
            have e : lessN z k (min m (z k).n) k = lessL (z k) (min m (z k).n) := if_pos rfl
            show (lessN z k (min m (z k).n) k).o = (o : Int) ∧ (lessN z k (min m (z k).n) k).l = (l : Int)
            rw [e]
            exact HO.out
          obtain ⟨X3, hX3⟩ : ∃ X3, withHolds (backS x (setQ q o l (q o l + min m (z k).n))) ⟨x.hs.a, x.hs.n, x.hs.c, lessN z k (min m (z k).n)⟩ = X3 := ⟨_, rfl⟩
          have HX3 : Hid (withHolds (backS x (setQ q o l (q o l + min m (z k).n))) ⟨x.hs.a, x.hs.n, x.hs.c, lessN z k (min m (z k).n)⟩ = X3) := hX3
          have HZC : Hid (∀ wk q', CutI A BC r W0 X3 b g q' wk → BC < wk.heap.size ∧ wk.cell? ⟨BC, 9, none⟩ = some (.map (some r)) ∧ G < wk.heap.size ∧ wk.cell? ⟨G, k * 4, none⟩ = some (.int .i64 (o : Int)) ∧ wk.cell? ⟨G, k * 4 + 1, none⟩ = some (.int .i64 (l : Int))) := fun wk q' hc => by
            rw [← hX3] at hc
            obtain ⟨u, u1, u2, u7, u8, u9, gl, z0, z1, -⟩ := holdFacts (z := lessN z k (min m (z k).n)) hc hk HO3.out.1 HO3.out.2 on ln HA.out.1 HA.out.2.1 HA.out.2.2
            exact ⟨u, u9, gl, z0, z1⟩
          rw [hX3] at HI3
          clear HIz fG fB HM HGD hX3 HO3
          have qB : -9223372036854775808 ≤ q o l + min m (z k).n ∧ q o l + min m (z k).n ≤ 9223372036854775807 := by omega
          obtain ⟨MM, hMM⟩ : ∃ MM, min m (z k).n = MM := ⟨_, rfl⟩
          rw [hMM] at HI3 HX3 HN qB
          have mmb : 0 ≤ MM ∧ MM ≤ 200 ∧ MM ≤ m ∧ MM ≤ (z k).n := by omega
          generalize (z k).n = ZN at *
          generalize ((x.os.z o).ls.z l).n = LN at *
          go_wp2_with fail
          obtain ⟨w3, hw3⟩ : ∃ w3, ((wz.setCell ⟨G, k * 4 + 3, none⟩ (.int .i64 (ZN - MM))).setCell ⟨B, l * 4 + 3, none⟩ (.int .i64 (LN + q o l + MM))) = w3 := ⟨_, rfl⟩
          rw [hw3] at HI3 ⊢
          clear hw3 u u1 u2 u7 u8 u9 gl z0 z1 z2 z3 ol c4 bl d0 d3 f1 f2 ne ne2
          have HI3n : Hid (CutI A BC r W0 X3 b g q w3.drew) := HI3.out.below ((Below.refl _ _).drew)
          refine wp_region_all [0, 1, 2, 3, 4, 5, 6, 7, 8, 9, 10, 11, 12, 13, 14, 15, 16, 17, 18] (by kernel_rfl) (by kernel_rfl) (by kernel_rfl) (by kernel_rfl) (EntI A BC r W0 X3 b g q o l G k MM) ?zei (List.forall_mem_cons.2 ⟨?ze0, List.forall_mem_cons.2 ⟨?ze1, List.forall_mem_cons.2 ⟨?ze2, List.forall_mem_cons.2 ⟨?ze3, List.forall_mem_cons.2 ⟨?ze4, List.forall_mem_cons.2 ⟨?ze5, List.forall_mem_cons.2 ⟨?ze6, List.forall_mem_cons.2 ⟨?ze7, List.forall_mem_cons.2 ⟨?ze8, List.forall_mem_cons.2 ⟨?ze9, List.forall_mem_cons.2 ⟨?ze10, List.forall_mem_cons.2 ⟨?ze11, List.forall_mem_cons.2 ⟨?ze12, List.forall_mem_cons.2 ⟨?ze13, List.forall_mem_cons.2 ⟨?ze14, List.forall_mem_cons.2 ⟨?ze15, List.forall_mem_cons.2 ⟨?ze16, List.forall_mem_cons.2 ⟨?ze17, List.forall_mem_cons.2 ⟨?ze18, List.forall_mem_nil _⟩⟩⟩⟩⟩⟩⟩⟩⟩⟩⟩⟩⟩⟩⟩⟩⟩⟩⟩) ?zed
          case zei =>
            intro dn V hd
            have f : ∀ j, j ∈ [0, 1, 2, 3, 4, 5, 6, 7, 8, 9, 10, 11, 12, 13, 14, 15, 16, 17, 18] → ¬ dn j = true := fun j hj h => by rw [hd j hj] at h; cases h
            exact ⟨fun j hj h => absurd h (f j (by simp only [List.mem_cons, List.not_mem_nil, or_false]; omega)), fun _ => HI3n.out, fun h => absurd h (f 18 (by simp)), fun h => absurd h (f 16 (by simp)), fun h => absurd h (f 18 (by simp)), fun h => absurd h (f 15 (by simp)), fun h => absurd h (f 17 (by simp))⟩
          case ze0 =>
            intro dn V wk K hn hd hI hK
            have HII : Hid (EntI A BC r W0 X3 b g q o l G k MM dn V wk) := hI
            clear hI
            refine wpOp_list 0 rfl ?_
            simp only [putAll, dstOf, List.getElem?_toArray, List.getElem?_cons_succ, List.getElem?_cons_zero, Act.put, List.setIfInBounds_toArray, List.set_cons_succ, List.set_cons_zero] at hK ⊢
            go_wp2_with fail
            exact HII.out.put (i := 0) (by decide) rfl (fun h => absurd h (by decide))
          case ze1 =>
            intro dn V wk K hn hd hI hK
            have d0 : dn 0 = true := hd 0 (List.contains_iff_mem.1 (by kernel_rfl)) (by simp)
            have e0 : V 0 = .pointer (some ⟨BC, 0, none⟩) := hI.val 0 (by decide) d0
            have HII : Hid (EntI A BC r W0 X3 b g q o l G k MM dn V wk) := hI
            clear hI
            refine wpOp_list 1 rfl ?_
            simp only [putAll, dstOf, List.getElem?_toArray, List.getElem?_cons_succ, List.getElem?_cons_zero, Act.put, List.setIfInBounds_toArray, List.set_cons_succ, List.set_cons_zero, e0] at hK ⊢
            go_wp2_with fail
            exact HII.out.put (i := 1) (by decide) rfl (fun h => absurd h (by decide))
          case ze2 =>
            intro dn V wk K hn hd hI hK
            have d1 : dn 1 = true := hd 1 (List.contains_iff_mem.1 (by kernel_rfl)) (by simp)
            have e1 : V 1 = .pointer (some ⟨BC, 0, none⟩) := hI.val 1 (by decide) d1
            have HII : Hid (EntI A BC r W0 X3 b g q o l G k MM dn V wk) := hI
            clear hI
            refine wpOp_list 2 rfl ?_
            simp only [putAll, dstOf, List.getElem?_toArray, List.getElem?_cons_succ, List.getElem?_cons_zero, Act.put, List.setIfInBounds_toArray, List.set_cons_succ, List.set_cons_zero, e1] at hK ⊢
            go_wp2_with fail
            exact HII.out.put (i := 2) (by decide) rfl (fun h => absurd h (by decide))
          case ze3 =>
            intro dn V wk K hn hd hI hK
            have d2 : dn 2 = true := hd 2 (List.contains_iff_mem.1 (by kernel_rfl)) (by simp)
            have e2 : V 2 = .pointer (some ⟨BC, 9, none⟩) := hI.val 2 (by decide) d2
            have HII : Hid (EntI A BC r W0 X3 b g q o l G k MM dn V wk) := hI
            obtain ⟨q', hq'⟩ := hI.any
            obtain ⟨y1, y2, y3, y4, y5⟩ := HZC.out wk q' hq'
            clear hq'
            clear hI
            refine wpOp_list 3 rfl ?_
            simp only [putAll, dstOf, List.getElem?_toArray, List.getElem?_cons_succ, List.getElem?_cons_zero, Act.put, List.setIfInBounds_toArray, List.set_cons_succ, List.set_cons_zero, e2] at hK ⊢
            go_wp2_with fail
            exact HII.out.put (i := 3) (by decide) rfl (fun h => absurd h (by decide))
          case ze4 =>
            intro dn V wk K hn hd hI hK
            have HII : Hid (EntI A BC r W0 X3 b g q o l G k MM dn V wk) := hI
            clear hI
            refine wpOp_list 4 rfl ?_
            simp only [putAll, dstOf, List.getElem?_toArray, List.getElem?_cons_succ, List.getElem?_cons_zero, Act.put, List.setIfInBounds_toArray, List.set_cons_succ, List.set_cons_zero] at hK ⊢
            go_wp2_with fail
            exact HII.out.put (i := 4) (by decide) rfl (fun h => absurd h (by decide))
          case ze5 =>
            intro dn V wk K hn hd hI hK
            have d4 : dn 4 = true := hd 4 (List.contains_iff_mem.1 (by kernel_rfl)) (by simp)
            have e4 : V 4 = .pointer (some ⟨G, k * 4, none⟩) := hI.val 4 (by decide) d4
            have HII : Hid (EntI A BC r W0 X3 b g q o l G k MM dn V wk) := hI
            clear hI
            refine wpOp_list 5 rfl ?_
            simp only [putAll, dstOf, List.getElem?_toArray, List.getElem?_cons_succ, List.getElem?_cons_zero, Act.put, List.setIfInBounds_toArray, List.set_cons_succ, List.set_cons_zero, e4] at hK ⊢
            go_wp2_with fail
            exact HII.out.put (i := 5) (by decide) rfl (fun h => absurd h (by decide))
          case ze6 =>
            intro dn V wk K hn hd hI hK
            have d5 : dn 5 = true := hd 5 (List.contains_iff_mem.1 (by kernel_rfl)) (by simp)
            have e5 : V 5 = .pointer (some ⟨G, k * 4, none⟩) := hI.val 5 (by decide) d5
            have HII : Hid (EntI A BC r W0 X3 b g q o l G k MM dn V wk) := hI
            clear hI
            refine wpOp_list 6 rfl ?_
            simp only [putAll, dstOf, List.getElem?_toArray, List.getElem?_cons_succ, List.getElem?_cons_zero, Act.put, List.setIfInBounds_toArray, List.set_cons_succ, List.set_cons_zero, e5] at hK ⊢
            go_wp2_with fail
            exact HII.out.put (i := 6) (by decide) rfl (fun h => absurd h (by decide))
          case ze7 =>
            intro dn V wk K hn hd hI hK
            have d6 : dn 6 = true := hd 6 (List.contains_iff_mem.1 (by kernel_rfl)) (by simp)
            have e6 : V 6 = .pointer (some ⟨G, k * 4, none⟩) := hI.val 6 (by decide) d6
            have HII : Hid (EntI A BC r W0 X3 b g q o l G k MM dn V wk) := hI
            obtain ⟨q', hq'⟩ := hI.any
            obtain ⟨y1, y2, y3, y4, y5⟩ := HZC.out wk q' hq'
            clear hq'
            clear hI
            refine wpOp_list 7 rfl ?_
            simp only [putAll, dstOf, List.getElem?_toArray, List.getElem?_cons_succ, List.getElem?_cons_zero, Act.put, List.setIfInBounds_toArray, List.set_cons_succ, List.set_cons_zero, e6] at hK ⊢
            go_wp2_with fail
            exact HII.out.put (i := 7) (by decide) rfl (fun h => absurd h (by decide))
          case ze8 =>
            intro dn V wk K hn hd hI hK
            have HII : Hid (EntI A BC r W0 X3 b g q o l G k MM dn V wk) := hI
            clear hI
            refine wpOp_list 8 rfl ?_
            simp only [putAll, dstOf, List.getElem?_toArray, List.getElem?_cons_succ, List.getElem?_cons_zero, Act.put, List.setIfInBounds_toArray, List.set_cons_succ, List.set_cons_zero] at hK ⊢
            go_wp2_with fail
            exact HII.out.put (i := 8) (by decide) rfl (fun h => absurd h (by decide))
          case ze9 =>
            intro dn V wk K hn hd hI hK
            have d8 : dn 8 = true := hd 8 (List.contains_iff_mem.1 (by kernel_rfl)) (by simp)
            have e8 : V 8 = .pointer (some ⟨G, k * 4, none⟩) := hI.val 8 (by decide) d8
            have HII : Hid (EntI A BC r W0 X3 b g q o l G k MM dn V wk) := hI
            clear hI
            refine wpOp_list 9 rfl ?_
            simp only [putAll, dstOf, List.getElem?_toArray, List.getElem?_cons_succ, List.getElem?_cons_zero, Act.put, List.setIfInBounds_toArray, List.set_cons_succ, List.set_cons_zero, e8] at hK ⊢
            go_wp2_with fail
            exact HII.out.put (i := 9) (by decide) rfl (fun h => absurd h (by decide))
          case ze10 =>
            intro dn V wk K hn hd hI hK
            have d9 : dn 9 = true := hd 9 (List.contains_iff_mem.1 (by kernel_rfl)) (by simp)
            have e9 : V 9 = .pointer (some ⟨G, k * 4, none⟩) := hI.val 9 (by decide) d9
            have HII : Hid (EntI A BC r W0 X3 b g q o l G k MM dn V wk) := hI
            clear hI
            refine wpOp_list 10 rfl ?_
            simp only [putAll, dstOf, List.getElem?_toArray, List.getElem?_cons_succ, List.getElem?_cons_zero, Act.put, List.setIfInBounds_toArray, List.set_cons_succ, List.set_cons_zero, e9] at hK ⊢
            go_wp2_with fail
            exact HII.out.put (i := 10) (by decide) rfl (fun h => absurd h (by decide))
          case ze11 =>
            intro dn V wk K hn hd hI hK
            have d10 : dn 10 = true := hd 10 (List.contains_iff_mem.1 (by kernel_rfl)) (by simp)
            have e10 : V 10 = .pointer (some ⟨G, k * 4 + 1, none⟩) := hI.val 10 (by decide) d10
            have HII : Hid (EntI A BC r W0 X3 b g q o l G k MM dn V wk) := hI
            obtain ⟨q', hq'⟩ := hI.any
            obtain ⟨y1, y2, y3, y4, y5⟩ := HZC.out wk q' hq'
            clear hq'
            clear hI
            refine wpOp_list 11 rfl ?_
            simp only [putAll, dstOf, List.getElem?_toArray, List.getElem?_cons_succ, List.getElem?_cons_zero, Act.put, List.setIfInBounds_toArray, List.set_cons_succ, List.set_cons_zero, e10] at hK ⊢
            go_wp2_with fail
            exact HII.out.put (i := 11) (by decide) rfl (fun h => absurd h (by decide))
          case ze12 =>
            intro dn V wk K hn hd hI hK
            have d7 : dn 7 = true := hd 7 (List.contains_iff_mem.1 (by kernel_rfl)) (by simp)
            have e7 : V 7 = .int .i64 (o : Int) := hI.val 7 (by decide) d7
            have d11 : dn 11 = true := hd 11 (List.contains_iff_mem.1 (by kernel_rfl)) (by simp)
            have e11 : V 11 = .int .i64 (l : Int) := hI.val 11 (by decide) d11
            have HII : Hid (EntI A BC r W0 X3 b g q o l G k MM dn V wk) := hI
            clear hI
            refine wpOp_list 12 rfl ?_
            simp only [putAll, dstOf, List.getElem?_toArray, List.getElem?_cons_succ, List.getElem?_cons_zero, Act.put, List.setIfInBounds_toArray, List.set_cons_succ, List.set_cons_zero, e7, e11] at hK ⊢
            go_wp2_with fail
            exact HII.out.put (i := 12) (by decide) rfl (fun h => absurd h (by decide))
          case ze13 =>
            intro dn V wk K hn hd hI hK
            have d3 : dn 3 = true := hd 3 (List.contains_iff_mem.1 (by kernel_rfl)) (by simp)
            have e3 : V 3 = .map (some r) := hI.val 3 (by decide) d3
            have d12 : dn 12 = true := hd 12 (List.contains_iff_mem.1 (by kernel_rfl)) (by simp)
            have e12 : V 12 = .agg #[.int .i64 (o : Int), .int .i64 (l : Int)] := hI.val 12 (by decide) d12
            have HII : Hid (EntI A BC r W0 X3 b g q o l G k MM dn V wk) := hI
            have lk := map_look (hI.cut (hI.not13 hn)).map o4 l3
            unfold mkey at lk
            clear hI
            refine wpOp_list 13 rfl ?_
            simp only [putAll, dstOf, List.getElem?_toArray, List.getElem?_cons_succ, List.getElem?_cons_zero, Act.put, List.setIfInBounds_toArray, List.set_cons_succ, List.set_cons_zero, e3, e12] at hK ⊢
            go_wp2_with fail
            exact HII.out.put (i := 13) (by decide) rfl (fun h => absurd h (by decide))
          case ze14 =>
            intro dn V wk K hn hd hI hK
            have HII : Hid (EntI A BC r W0 X3 b g q o l G k MM dn V wk) := hI
            clear hI
            refine wpOp_list 14 rfl ?_
            simp only [putAll, dstOf, List.getElem?_toArray, List.getElem?_cons_succ, List.getElem?_cons_zero, Act.put, List.setIfInBounds_toArray, List.set_cons_succ, List.set_cons_zero] at hK ⊢
            go_wp2_with fail
            exact HII.out.put (i := 14) (by decide) rfl (fun h => absurd h (by decide))
          case ze15 =>
            intro dn V wk K hn hd hI hK
            have d13 : dn 13 = true := hd 13 (List.contains_iff_mem.1 (by kernel_rfl)) (by simp)
            have e13 : V 13 = .int .i64 (q o l) := hI.val 13 (by decide) d13
            have d14 : dn 14 = true := hd 14 (List.contains_iff_mem.1 (by kernel_rfl)) (by simp)
            have e14 : V 14 = .int .i64 MM := hI.val 14 (by decide) d14
            have HII : Hid (EntI A BC r W0 X3 b g q o l G k MM dn V wk) := hI
            clear hI
            have HQB := qB
            refine wpOp_list 15 rfl ?_
            simp only [putAll, dstOf, List.getElem?_toArray, List.getElem?_cons_succ, List.getElem?_cons_zero, Act.put, List.setIfInBounds_toArray, List.set_cons_succ, List.set_cons_zero, e13, e14] at hK ⊢
            go_wp2_with fail
            exact HII.out.put (i := 15) (by decide) rfl (fun _ => d13)
          case ze16 =>
            intro dn V wk K hn hd hI hK
            have d3 : dn 3 = true := hd 3 (List.contains_iff_mem.1 (by kernel_rfl)) (by simp)
            have e3 : V 3 = .map (some r) := hI.val 3 (by decide) d3
            have d12 : dn 12 = true := hd 12 (List.contains_iff_mem.1 (by kernel_rfl)) (by simp)
            have e12 : V 12 = .agg #[.int .i64 (o : Int), .int .i64 (l : Int)] := hI.val 12 (by decide) d12
            have HII : Hid (EntI A BC r W0 X3 b g q o l G k MM dn V wk) := hI
            obtain ⟨v0, st, w1, me1, me2, me3, me4⟩ := map_entry (hI.cut (hI.not16 hn).1).map o4 l3
            unfold mkey at me1
            have HME : Hid (KeepR r wk w1 ∧ MapQ w1 r q ∧ ∀ v : Int, ∃ w2, (Instr.entryStore 42 (.map (some r)) (goInt st) (.int .i64 v)).run Tryz.prog w1 = .ok () w2 ∧ MapQ w2 r (setQ q o l v) ∧ KeepR r wk w2) := ⟨me2, me3, me4⟩
            clear me2 me3 me4
            clear hI
            refine wpOp_list 16 rfl ?_
            simp only [putAll, dstOf, List.getElem?_toArray, List.getElem?_cons_succ, List.getElem?_cons_zero, Act.put, List.setIfInBounds_toArray, List.set_cons_succ, List.set_cons_zero, e3, e12] at hK ⊢
            go_wp2_with fail
            exact HII.out.entry hn HME.out.2.1 HME.out.1 HME.out.2.2
          case ze17 =>
            intro dn V wk K hn hd hI hK
            have d16 : dn 16 = true := hd 16 (List.contains_iff_mem.1 (by kernel_rfl)) (by simp)
            have HII : Hid (EntI A BC r W0 X3 b g q o l G k MM dn V wk) := hI
            obtain ⟨v0, st, e16, -, -⟩ := hI.ent d16 (hI.not17 hn)
            have HE16 : Hid (V 16 = .tuple #[v0, goInt st]) := e16
            clear hI
            refine wpOp_list 17 rfl ?_
            simp only [putAll, dstOf, List.getElem?_toArray, List.getElem?_cons_succ, List.getElem?_cons_zero, Act.put, List.setIfInBounds_toArray, List.set_cons_succ, List.set_cons_zero, e16] at hK ⊢
            go_wp2_with fail
            exact HII.out.extract hn d16 HE16.out
          case ze18 =>
            intro dn V wk K hn hd hI hK
            have d3 : dn 3 = true := hd 3 (List.contains_iff_mem.1 (by kernel_rfl)) (by simp)
            have e3 : V 3 = .map (some r) := hI.val 3 (by decide) d3
            have d15 : dn 15 = true := hd 15 (List.contains_iff_mem.1 (by kernel_rfl)) (by simp)
            have e15 : V 15 = .int .i64 (q o l + MM) := hI.val 15 (by decide) d15
            have d17 : dn 17 = true := hd 17 (List.contains_iff_mem.1 (by kernel_rfl)) (by simp)
            have HII : Hid (EntI A BC r W0 X3 b g q o l G k MM dn V wk) := hI
            obtain ⟨v0, st, e16, e17, es⟩ := hI.ent (hI.c17 d17) hn
            have e17 := e17 d17
            obtain ⟨w2, es1, es2, es3⟩ := es (q o l + MM)
            have HES : Hid (MapQ w2 r (setQ q o l (q o l + MM)) ∧ KeepR r wk w2) := ⟨es2, es3⟩
            clear es es2 es3 e16
            unfold goInt at es1 e17
            clear hI
            refine wpOp_list 18 rfl ?_
            simp only [putAll, dstOf, List.getElem?_toArray, List.getElem?_cons_succ, List.getElem?_cons_zero, Act.put, List.setIfInBounds_toArray, List.set_cons_succ, List.set_cons_zero, e3, e15, e17] at hK ⊢
            go_wp2_with fail
            exact hK undef _ (HII.out.store hn d15 d17 HES.out.1 HES.out.2 undef)
          case zed =>
            intro dn V wk hd hI
            have HIN : Hid (CutI A BC r W0 X3 b g (setQ q o l (q o l + MM)) wk) := hI.fin (hd 18 (by simp))
            clear hI hd
            simp only [putAll, dstOf, List.getElem?_toArray, List.getElem?_cons_succ, List.getElem?_cons_zero, Act.put, List.setIfInBounds_toArray, List.set_cons_succ, List.set_cons_zero]
            refine NoPanic.normal ?_
            go_wp2_with fail
            go_roundw
            case rel => exact ⟨k, m - MM, lessN z k MM, setQ q o l (q o l + MM), by omega, by go_num, by go_num, by rw [HX3.out]; exact HIN, HN⟩
            case measure => simp [intOf]
end Go.Proofs.YtbcacebifpagpaeGreat
namespace Go.Proofs.YtbcacebifpagpaeGreat
open Go.RowKit Go.Shelf Go.Sort
set_option linter.unusedVariables false
set_option maxRecDepth 100000 in
set_option maxHeartbeats 2000000 in
theorem allocCheck1_any (B1 B2 B3 : Nat) (s : St) (order line : Int) (w : World) (hs : s.os.At w) (h1 : B1 < w.heap.size) (h2 : B2 < w.heap.size) (h3 : B3 < w.heap.size) (c1 : w.cell? ⟨B1, 1, none⟩ = some (.slice s.os.a s.os.n s.os.c)) (c2 : w.cell? ⟨B2, 0, none⟩ = some (.int .i64 order)) (c3 : w.cell? ⟨B3, 0, none⟩ = some (.int .i64 line)) :
    Calls Tryz.prog 98 #[.pointer (some ⟨B1, 0, none⟩), .pointer (some ⟨B2, 0, none⟩), .pointer (some ⟨B3, 0, none⟩)] w fun e w' => e = .returned (.bool (missL s order line)) ∧ Below w.heap.size w w' := by
  have ole := hs.le
  have ocap0 := hs.cap
  have ocap := ocap0
  unfold maxLen at ocap
  have hon : s.os.n ≤ maxLen := Nat.le_trans ole ocap0
  have r1 : ∀ d os, (grow (redrawn w d) os).cell? ⟨B1, 1, none⟩ = some (.slice s.os.a s.os.n s.os.c) := fun d os => cell_regrown c1 d os
  have r2 : ∀ d os, (grow (redrawn w d) os).cell? ⟨B2, 0, none⟩ = some (.int .i64 order) := fun d os => cell_regrown c2 d os
  have r3 : ∀ d os, (grow (redrawn w d) os).cell? ⟨B3, 0, none⟩ = some (.int .i64 line) := fun d os => cell_regrown c3 d os
  clear c1 c2 c3
  cases k1 : inB order 0 ((s.os.n : Int) - 1)
  · have HM : Hid (missL s order line = true) := by show missL s order line = true; unfold missL; rw [k1]; rfl
    clear hs
    go_enter Tryz.func98, Tryz.ntmps98
    go_wp2_with fail
    refine wp_region_quiet_below (by kernel_rfl) (by kernel_rfl) ?_
    repeat (go_big_quiet_step ((go_at_call 31; exact Calls.regrown_of ((Has_any _ _ _ (by assumption)).mono (fun _ _ h => ⟨h.1, h.2 ▸ Below.refl _ _⟩)))))
    refine wpQuiet_nil ?_
    intro _ hw'
    obtain ⟨⟨dq, osq⟩, hw''⟩ := hw'
    subst hw''
    go_wp2_with fail
    go_ret
    exact ⟨by rw [HM.out]; rfl, below_regrown _ _ _⟩
  · obtain ⟨m, rfl⟩ := Int.eq_ofNat_of_zero_le (inB_true k1).1
    have hm : m < s.os.n := by have := (inB_true k1).2; omega
    obtain ⟨b, o, hoa, hb, z0, z1, hl⟩ := hs.ods m hm
    have HM : Hid (missL s (m : Int) line = !(inB line 0 (((s.os.z m).ls.n : Int) - 1))) := by show missL s (m : Int) line = _; unfold missL; rw [k1]; rfl
    have lcap := hl.cap
    have lle := hl.le
    have hln : (s.os.z m).ls.n ≤ maxLen := Nat.le_trans lle lcap
    have r5 : ∀ d os, (grow (redrawn w d) os).cell? ⟨b, o + m * 2 + 1, none⟩ = some (.slice (s.os.z m).ls.a (s.os.z m).ls.n (s.os.z m).ls.c) := fun d os => cell_regrown z1 d os
    have m1 : (0 : Int) ≤ (m : Int) := by omega
    have m2 : (m : Int) < (s.os.n : Int) := by omega
    rw [hoa] at r1
    unfold maxLen at lcap
    clear z0 z1 hl hs hoa
    generalize (s.os.z m).ls.n = LN at *
    generalize (s.os.z m).ls.c = LC at *
    generalize (s.os.z m).ls.a = LA at *
    cases k2 : inB line 0 ((LN : Int) - 1)
    all_goals
      go_enter Tryz.func98, Tryz.ntmps98
      go_wp2_with fail
      refine wp_region_quiet_below (by kernel_rfl) (by kernel_rfl) ?_
      repeat (go_big_quiet_step ((go_at_call 31; exact Calls.regrown_of ((Has_any _ _ _ (by assumption)).mono (fun _ _ h => ⟨h.1, h.2 ▸ Below.refl _ _⟩)))))
      refine wpQuiet_nil ?_
      intro _ hw'
      obtain ⟨⟨dq, osq⟩, hw''⟩ := hw'
      subst hw''
      go_wp2_with fail
      go_ret
      exact ⟨by rw [HM.out, k2]; simp, below_regrown _ _ _⟩
set_option maxRecDepth 100000 in
set_option maxHeartbeats 4000000 in
theorem allocCheck_any (p : Pl) (s : St) (order line n but : Int) (w : World) (hp : p.At w) (hs : s.At w) :
    Calls Tryz.prog 68 #[p.val, s.val, .int .i64 order, .int .i64 line, .int .i64 n, .int .i64 but] w fun e w' => e = .returned (.int .i64 (allocE p s order line n but)) ∧ Below w.heap.size w w' := by
  obtain ⟨W0, hW, hWB, X0, K2, K3⟩ : ∃ W, ((((w.alloc (.cells #[.slice p.ab p.nb p.cb, .slice p.sa p.ns p.cs] 25)).alloc (.cells s.cells 31)).alloc (.cells #[.int .i64 order] 3)).alloc (.cells #[.int .i64 line] 3)) = W ∧ Below w.heap.size w W ∧ Boxes W w.heap.size (w.heap.size + 1) p s ∧ Blk W (w.heap.size + 2) 3 1 (fun _ => .int .i64 order) ∧ Blk W (w.heap.size + 3) 3 1 (fun _ => .int .i64 line) :=
    ⟨_, rfl, ((two_below _ _ _).alloc (by simp; omega) _).alloc (by simp; omega) _, ((boxes_new w p s _ _).below ((Below.refl _ _).alloc (Nat.le_refl _) _)).below ((Below.refl _ _).alloc (Nat.le_refl _) _), ((Blk.mk' (cur := #[.int .i64 order]) (by simp) rfl).congr (fun j hj => by match j, hj with | 0, _ => rfl)).alloc _, (Blk.mk' (cur := #[.int .i64 line]) (by simp) rfl).congr (fun j hj => by match j, hj with | 0, _ => rfl)⟩
  have HC : Hid (∀ wk, Below W0.heap.size W0 wk → Boxes wk w.heap.size (w.heap.size + 1) p s ∧ p.At wk ∧ s.At wk ∧ Below w.heap.size w wk ∧ Blk wk (w.heap.size + 2) 3 1 (fun _ => .int .i64 order) ∧ Blk wk (w.heap.size + 3) 3 1 (fun _ => .int .i64 line)) := fun wk h => ⟨X0.below h, (hp.below hWB).below h, (hs.below hWB).below h, hWB.trans (h.mono hWB.size), K2.below h, K3.below h⟩
  have HW : Hid ((((w.alloc (.cells #[.slice p.ab p.nb p.cb, .slice p.sa p.ns p.cs] 25)).alloc (.cells #[.slice s.on.a s.on.n s.on.c, .slice s.os.a s.os.n s.os.c, .slice s.hs.a s.hs.n s.hs.c, .slice s.ms.a s.ms.n s.ms.c, .slice s.si.a s.si.n s.si.c, .slice s.so.a s.so.n s.so.c, .slice s.sf.a s.sf.n s.sf.c] 31)).alloc (.cells #[.int .i64 order] 3)).alloc (.cells #[.int .i64 line] 3) = W0) := hW
  have leb := hp.leb
  have capb0 := hp.capb
  have capb := capb0
  unfold maxLen at capb
  have hnb : p.nb ≤ maxLen := Nat.le_trans leb capb0
  clear hW X0 K2 K3 hp hs
  unfold Pl.val St.val
  go_enter Tryz.func68, Tryz.ntmps68
  go_wp2_with fail
  rw [HW.out]
  obtain ⟨X, hpk, hsk, hBw, -, -⟩ := HC.out W0 (Below.refl _ _)
  refine (stateCheck_any p s W0 hpk hsk).mono ?_
  rintro e w1 ⟨rfl, hB⟩
  clear X hpk hsk hBw HW
  obtain ⟨⟨⟨l1, d0, d1⟩, l2, c0, c1, c2, c3, c4, c5, c6⟩, hpk, hsk, hBw, k2, k3⟩ := HC.out w1 hB
  have HBW : Hid (Below w.heap.size w w1) := hBw
  clear hBw
  by_cases h0 : stateE p s = 0
  · have H0 : Hid (stateE p s = 0) := h0
    have HF : Hid (Formed p s) := (rightT h0).fm
    rw [h0]
    clear h0
    have HCL : Hid (Calls Tryz.prog 98 #[.pointer (some ⟨w.heap.size + 1, 0, none⟩), .pointer (some ⟨w.heap.size + 1 + 1, 0, none⟩), .pointer (some ⟨w.heap.size + 1 + 1 + 1, 0, none⟩)] w1 fun e w' => e = .returned (.bool (missL s order line)) ∧ Below w1.heap.size w1 w') := allocCheck1_any (w.heap.size + 1) (w.heap.size + 2) (w.heap.size + 3) s order line w1 hsk.os l2 k2.lt k3.lt c1 (k2.cell (j := 0) (by decide)) (k3.cell (j := 0) (by decide))
    have eg := enters_of Tryz.func98 (by kernel_rfl) rfl
    clear hpk hsk k2 k3 c0 c1 c2 c3 c4 c5 c6 d1
    go_wp2_with fail
    refine HCL.out.mono ?_
    rintro e w2 ⟨rfl, hB2⟩
    have hB3 := hB.trans (hB2.mono hB.size)
    clear l1 d0 l2 hB2 HCL HBW hB eg
    obtain ⟨⟨⟨l1, d0, d1⟩, l2, c0, c1, c2, c3, c4, c5, c6⟩, hpk, hsk, hBw, k2, k3⟩ := HC.out w2 hB3
    have HBW : Hid (Below w.heap.size w w2) := hBw
    clear hBw
    have HR : Hid (∀ a b c d, missL s order line = a → inB n 0 200 = b → (but != -1) = c → inB but 0 ((p.nb : Int) - 1) = d → allocR p s order line n but = (a || !b || (c && !d))) := fun a b c d e1 e2 e3 e4 => by unfold allocR; rw [e1, e2, e3, e4]
    cases m1 : missL s order line
    · have hml := m1
      cases m2 : inB n 0 200
      · have HX : Hid (allocE p s order line n but = 3) := allocE_range H0.out (by rw [HR.out _ _ _ _ m1 m2 rfl rfl]; rfl)
        clear hpk hsk k2 k3 c0 c1 c2 c3 c4 c5 c6 m1 hml
        go_wp2_with (go_at_call 9; refine calls_to (Within_any _ _ _ _) ?_)
        go_ret
        exact ⟨by rw [HX.out]; rfl, HBW.out⟩
      · cases m3 : (but != -1)
        · have HA : Hid (allocR p s order line n but = false) := by show allocR p s order line n but = false; rw [HR.out _ _ _ _ m1 m2 m3 rfl]; rfl
          have hbx := m3
          obtain ⟨a, b, -, -⟩ := allocR_no HA.out
          obtain ⟨o, rfl⟩ := Int.eq_ofNat_of_zero_le a.1
          obtain ⟨l, rfl⟩ := Int.eq_ofNat_of_zero_le b.1
          have ho : o < s.os.n := a.2
          have hl : l < (s.os.z o).ls.n := b.2
          obtain ⟨bo, oo, hoa, hbo, z0, z1, hlk⟩ := hsk.os.ods o ho
          obtain ⟨bl, ol, hla, hbl, y0, y1, y2, y3⟩ := hlk.hds l hl
          have u0 := k2.cell (j := 0) (by decide)
          have u1 := k3.cell (j := 0) (by decide)
          have u2 := k2.lt
          have u3 := k3.lt
          have q0 : (0 : Int) ≤ (o : Int) := by omega
          have q1 : (o : Int) < (s.os.n : Int) := by omega
          have q2 : (0 : Int) ≤ (l : Int) := by omega
          have q3 : (l : Int) < ((s.os.z o).ls.n : Int) := by omega
          have v1 := hsk.os.le
          have v2 := hsk.os.cap
          have v3 := hlk.le
          have v4 := hlk.cap
          unfold maxLen at v2 v4
          have HT6 : Hid (¬ (s.os.z o).k = 1 → allocE p s o l n but = 6) := fun h => allocE_done H0.out HA.out h
          have HT3 : Hid ((s.os.z o).k = 1 → ((s.os.z o).ls.z l).n < n → allocE p s o l n but = 3) := fun h h' => allocE_back H0.out HA.out h h'
          have HT0 : Hid ((s.os.z o).k = 1 → ¬ ((s.os.z o).ls.z l).n < n → allocE p s o l n but = 0) := fun h h' => allocE_ok H0.out HA.out h h'
          rw [hoa] at c1
          rw [hla] at z1
          clear hpk hsk k2 k3 c0 c2 c3 c4 c5 c6 m1 hoa hla hlk y0 y1 y2 a b HR
          generalize (s.os.z o).k = KD at *
          generalize ((s.os.z o).ls.z l).n = LB at *
          generalize (s.os.z o).ls.n = LN at *
          generalize (s.os.z o).ls.c = LC at *
          by_cases g1 : KD = 1
          · have g2 : (KD != 1) = false := by rw [g1]; rfl
            have t1 : ∀ d os, (grow (redrawn w2 d) os).cell? ⟨w.heap.size + 1, 1, none⟩ = some (.slice (some ⟨bo, oo, none⟩) s.os.n s.os.c) := fun d os => cell_regrown c1 d os
            have t2 : ∀ d os, (grow (redrawn w2 d) os).cell? ⟨w.heap.size + 2, 0, none⟩ = some (.int .i64 (o : Int)) := fun d os => cell_regrown u0 d os
            have t3 : ∀ d os, (grow (redrawn w2 d) os).cell? ⟨w.heap.size + 3, 0, none⟩ = some (.int .i64 (l : Int)) := fun d os => cell_regrown u1 d os
            have t4 : ∀ d os, (grow (redrawn w2 d) os).cell? ⟨bo, oo + o * 2 + 1, none⟩ = some (.slice (some ⟨bl, ol, none⟩) LN LC) := fun d os => cell_regrown z1 d os
            have t5 : ∀ d os, (grow (redrawn w2 d) os).cell? ⟨bl, ol + l * 4 + 3, none⟩ = some (.int .i64 LB) := fun d os => cell_regrown y3 d os
            have HTA : Hid (LB < n → allocE p s o l n but = 3) := HT3.out g1
            have HTB : Hid (¬ LB < n → allocE p s o l n but = 0) := HT0.out g1
            clear HT6 HT3 HT0 g1
            cases g3 : decide (LB < n)
            · have HX : Hid (allocE p s o l n but = 0) := HTB.out (of_decide_eq_false g3)
              have g4 : ¬ LB < n := of_decide_eq_false g3
              clear HTA HTB
              go_wp2_with (first | (go_at_call 9; refine calls_to (Within_any _ _ _ _) ?_) | (go_at_call 31; refine calls_to (Has_any _ _ _ hnb) ?_))
              refine wp_region_quiet_below (by kernel_rfl) (by kernel_rfl) ?_
              repeat (go_big_quiet_step (fail))
              refine wpQuiet_nil ?_
              intro _ hw'
              obtain ⟨⟨dq, osq⟩, hw''⟩ := hw'
              subst hw''
              go_wp2_with fail
              go_ret
              exact ⟨by rw [HX.out]; rfl, HBW.out.trans ((below_regrown _ _ _).mono HBW.out.size)⟩
            · have HX : Hid (allocE p s o l n but = 3) := HTA.out (of_decide_eq_true g3)
              have g4 : LB < n := of_decide_eq_true g3
              clear HTA HTB
              go_wp2_with (first | (go_at_call 9; refine calls_to (Within_any _ _ _ _) ?_) | (go_at_call 31; refine calls_to (Has_any _ _ _ hnb) ?_))
              refine wp_region_quiet_below (by kernel_rfl) (by kernel_rfl) ?_
              repeat (go_big_quiet_step (fail))
              refine wpQuiet_nil ?_
              intro _ hw'
              obtain ⟨⟨dq, osq⟩, hw''⟩ := hw'
              subst hw''
              go_wp2_with fail
              go_ret
              exact ⟨by rw [HX.out]; rfl, HBW.out.trans ((below_regrown _ _ _).mono HBW.out.size)⟩
          · have HX : Hid (allocE p s o l n but = 6) := HT6.out g1
            have g2 : (KD != 1) = true := by simpa using g1
            clear HT6 HT3 HT0 g1
            go_wp2_with (first | (go_at_call 9; refine calls_to (Within_any _ _ _ _) ?_) | (go_at_call 31; refine calls_to (Has_any _ _ _ hnb) ?_))
            go_ret
            exact ⟨by rw [HX.out]; rfl, HBW.out⟩
        · cases m4 : inB but 0 ((p.nb : Int) - 1)
          · have HX : Hid (allocE p s order line n but = 3) := allocE_range H0.out (by rw [HR.out _ _ _ _ m1 m2 m3 m4]; rfl)
            clear hpk hsk k2 k3 c0 c1 c2 c3 c4 c5 c6 m1 hml
            go_wp2_with (first | (go_at_call 9; refine calls_to (Within_any _ _ _ _) ?_) | (go_at_call 31; refine calls_to (Has_any _ _ _ hnb) ?_))
            go_ret
            exact ⟨by rw [HX.out]; rfl, HBW.out⟩
          · have HA : Hid (allocR p s order line n but = false) := by show allocR p s order line n but = false; rw [HR.out _ _ _ _ m1 m2 m3 m4]; rfl
            obtain ⟨a, b, -, -⟩ := allocR_no HA.out
            obtain ⟨o, rfl⟩ := Int.eq_ofNat_of_zero_le a.1
            obtain ⟨l, rfl⟩ := Int.eq_ofNat_of_zero_le b.1
            have ho : o < s.os.n := a.2
            have hl : l < (s.os.z o).ls.n := b.2
            obtain ⟨bo, oo, hoa, hbo, z0, z1, hlk⟩ := hsk.os.ods o ho
            obtain ⟨bl, ol, hla, hbl, y0, y1, y2, y3⟩ := hlk.hds l hl
            have u0 := k2.cell (j := 0) (by decide)
            have u1 := k3.cell (j := 0) (by decide)
            have u2 := k2.lt
            have u3 := k3.lt
            have q0 : (0 : Int) ≤ (o : Int) := by omega
            have q1 : (o : Int) < (s.os.n : Int) := by omega
            have q2 : (0 : Int) ≤ (l : Int) := by omega
            have q3 : (l : Int) < ((s.os.z o).ls.n : Int) := by omega
            have v1 := hsk.os.le
            have v2 := hsk.os.cap
            have v3 := hlk.le
            have v4 := hlk.cap
            unfold maxLen at v2 v4
            have HT6 : Hid (¬ (s.os.z o).k = 1 → allocE p s o l n but = 6) := fun h => allocE_done H0.out HA.out h
            have HT3 : Hid ((s.os.z o).k = 1 → ((s.os.z o).ls.z l).n < n → allocE p s o l n but = 3) := fun h h' => allocE_back H0.out HA.out h h'
            have HT0 : Hid ((s.os.z o).k = 1 → ¬ ((s.os.z o).ls.z l).n < n → allocE p s o l n but = 0) := fun h h' => allocE_ok H0.out HA.out h h'
            rw [hoa] at c1
            rw [hla] at z1
            clear hpk hsk k2 k3 c0 c2 c3 c4 c5 c6 m1 hoa hla hlk y0 y1 y2 a b HR
            generalize (s.os.z o).k = KD at *
            generalize ((s.os.z o).ls.z l).n = LB at *
            generalize (s.os.z o).ls.n = LN at *
            generalize (s.os.z o).ls.c = LC at *
            by_cases g1 : KD = 1
            · have g2 : (KD != 1) = false := by rw [g1]; rfl
              have t1 : ∀ d os, (grow (redrawn w2 d) os).cell? ⟨w.heap.size + 1, 1, none⟩ = some (.slice (some ⟨bo, oo, none⟩) s.os.n s.os.c) := fun d os => cell_regrown c1 d os
              have t2 : ∀ d os, (grow (redrawn w2 d) os).cell? ⟨w.heap.size + 2, 0, none⟩ = some (.int .i64 (o : Int)) := fun d os => cell_regrown u0 d os
              have t3 : ∀ d os, (grow (redrawn w2 d) os).cell? ⟨w.heap.size + 3, 0, none⟩ = some (.int .i64 (l : Int)) := fun d os => cell_regrown u1 d os
              have t4 : ∀ d os, (grow (redrawn w2 d) os).cell? ⟨bo, oo + o * 2 + 1, none⟩ = some (.slice (some ⟨bl, ol, none⟩) LN LC) := fun d os => cell_regrown z1 d os
              have t5 : ∀ d os, (grow (redrawn w2 d) os).cell? ⟨bl, ol + l * 4 + 3, none⟩ = some (.int .i64 LB) := fun d os => cell_regrown y3 d os
              have HTA : Hid (LB < n → allocE p s o l n but = 3) := HT3.out g1
              have HTB : Hid (¬ LB < n → allocE p s o l n but = 0) := HT0.out g1
              clear HT6 HT3 HT0 g1
              cases g3 : decide (LB < n)
              · have HX : Hid (allocE p s o l n but = 0) := HTB.out (of_decide_eq_false g3)
                have g4 : ¬ LB < n := of_decide_eq_false g3
                clear HTA HTB
                go_wp2_with (first | (go_at_call 9; refine calls_to (Within_any _ _ _ _) ?_) | (go_at_call 31; refine calls_to (Has_any _ _ _ hnb) ?_))
                refine wp_region_quiet_below (by kernel_rfl) (by kernel_rfl) ?_
                repeat (go_big_quiet_step (fail))
                refine wpQuiet_nil ?_
                intro _ hw'
                obtain ⟨⟨dq, osq⟩, hw''⟩ := hw'
                subst hw''
                go_wp2_with fail
                go_ret
                exact ⟨by rw [HX.out]; rfl, HBW.out.trans ((below_regrown _ _ _).mono HBW.out.size)⟩
              · have HX : Hid (allocE p s o l n but = 3) := HTA.out (of_decide_eq_true g3)
                have g4 : LB < n := of_decide_eq_true g3
                clear HTA HTB
                go_wp2_with (first | (go_at_call 9; refine calls_to (Within_any _ _ _ _) ?_) | (go_at_call 31; refine calls_to (Has_any _ _ _ hnb) ?_))
                refine wp_region_quiet_below (by kernel_rfl) (by kernel_rfl) ?_
                repeat (go_big_quiet_step (fail))
                refine wpQuiet_nil ?_
                intro _ hw'
                obtain ⟨⟨dq, osq⟩, hw''⟩ := hw'
                subst hw''
                go_wp2_with fail
                go_ret
                exact ⟨by rw [HX.out]; rfl, HBW.out.trans ((below_regrown _ _ _).mono HBW.out.size)⟩
            · have HX : Hid (allocE p s o l n but = 6) := HT6.out g1
              have g2 : (KD != 1) = true := by simpa using g1
              clear HT6 HT3 HT0 g1
              go_wp2_with (first | (go_at_call 9; refine calls_to (Within_any _ _ _ _) ?_) | (go_at_call 31; refine calls_to (Has_any _ _ _ hnb) ?_))
              go_ret
              exact ⟨by rw [HX.out]; rfl, HBW.out⟩
    · have HX : Hid (allocE p s order line n but = 3) := allocE_range H0.out (by rw [HR.out _ _ _ _ m1 rfl rfl rfl]; rfl)
      clear hpk hsk k2 k3 c0 c1 c2 c3 c4 c5 c6 m1
      go_wp2_with fail
      go_ret
      exact ⟨by rw [HX.out]; rfl, HBW.out⟩
  · have HX : Hid (allocE p s order line n but = stateE p s) := allocE_state h0
    clear hpk hsk k2 k3 c0 c1 c2 c3 c4 c5 c6
    go_wp2_with fail
    go_ret
    exact ⟨by rw [HX.out]; rfl, HBW.out⟩
end Go.Proofs.YtbcacebifpagpaeGreat
namespace Go.Proofs.YtbcacebifpagpaeGreat
open Go.RowKit Go.Shelf
set_option linter.unusedVariables false
attribute [local go_sem] Oper.semAt_some
theorem frL_prefix (p : Pl) (f : Bool) {k m : Nat} (h : k ≤ m) : frL p f k <+: frL p f m := by
  induction m with
  | zero => rw [show k = 0 by omega]; exact List.prefix_refl _
  | succ m ih =>
    by_cases hk : k = m + 1
    · rw [hk]; exact List.prefix_refl _
    · refine (ih (by omega)).trans ?_
      by_cases hf : (p.zb m).front = f
      · rw [frL_hit hf]; exact List.prefix_append _ _
      · rw [frL_miss hf]; exact List.prefix_refl _
def keepsB (n₀ Bf : Nat) (A B : World) : Prop := Below n₀ A B ∧ (∀ v, A.cell? ⟨Bf, 0, none⟩ = some v → B.cell? ⟨Bf, 0, none⟩ = some v)
set_option maxRecDepth 100000 in
set_option maxHeartbeats 2000000 in
theorem binsOf1_in (F : Fence) (n : Nat) (h6 : F.fn 109) (hro : F.round = none) (hn : 1 ≤ n) (l Bp Bf n₀ : Nat) (p : Pl) (f : Bool) (J Jx : List Int → World → Prop)
    (hY : ∀ pre x W, J pre W → pre.length < p.nb → YieldAt F (n - 1) Tryz.prog l #[.int .i64 x] W fun e W' =>
      (e = .returned (.bool true) ∧ J (pre ++ [x]) W' ∧ keepsB n₀ Bf W W') ∨ (e = .returned (.bool false) ∧ Jx (pre ++ [x]) W'))
    (W : World) (hJ : AbidesFrom W.heap.size J) (hn₀ : n₀ ≤ W.heap.size) (hBp : W.cell? ⟨Bp, 0, none⟩ = some (.slice p.ab p.nb p.cb)) (hBf : W.cell? ⟨Bf, 0, none⟩ = some (.bool f)) (hle : p.nb ≤ p.cb) (hcap : p.cb ≤ maxLen)
    (hL : ∀ W', Below n₀ W W' → BinsAt W' p.ab p.nb p.zb) (h0 : J [] W) :
    CallsIn F n Tryz.prog 109 #[.func (.yield l) #[] #[], .pointer (some ⟨Bp, 0, none⟩), .pointer (some ⟨Bf, 0, none⟩)] W fun e W' => (∃ v, e = .returned v) ∧
      ((∃ ys, ys = frL p f p.nb ∧ J ys W') ∨ (∃ pre, pre <+: frL p f p.nb ∧ Jx pre W')) := by
  unfold maxLen at hcap
  have hS : Hid (∀ wr, Below n₀ W wr → W.heap.size ≤ wr.heap.size) := fun wr h => h.size
  have HJA : Hid (∀ pre A o, J pre A → J pre (A.alloc o)) := fun pre A o h => hJ pre A (A.alloc o) none h (World.grownBy_alloc A o none) (fun r e => by cases e)
  refine callsIn_of_wp Tryz.func109 rfl h6 ?_ hro
  simp only [Tryz.ntmps109, List.size_toArray, List.length_cons, List.length_nil, Nat.reduceAdd, Nat.reduceSub, Array.replicate_succ, Array.replicate_zero, List.push_toArray, List.append_toArray, List.nil_append, List.cons_append]
  gi_wp2
  gi_loopw [9] (fun i wr => ∃ k : Nat, k ≤ p.nb ∧ i = .int .i64 k ∧ J (frL p f k) wr ∧ Below n₀ W wr ∧ wr.cell? ⟨Bf, 0, none⟩ = some (.bool f)) (fun i _ => p.nb - (intOf i).toNat)
  case atStart => exact ⟨0, Nat.zero_le _, rfl, h0, Below.refl _ _, hBf⟩
  case round =>
    obtain ⟨k, hk, rfl, hJs, hB, hcf⟩ := hrel
    by_cases hlt : k < p.nb
    · obtain ⟨b, o, hab, hb, z0, z1, z2, z3⟩ := hL _ hB k hlt
      have m1 : (0 : Int) ≤ (k : Int) := by omega
      have hltf : Bf < wr.heap.size := World.block_lt_of_cell? wr _ hcf
      have hfl := frL_len p f k
      rw [hab]
      clear hab
      by_cases hf : (p.zb k).front = f
      · rw [hf] at z0
        have hJa := HJA.out _ wr (.cells #[.bool f, .int .i64 (p.zb k).room, .int .i64 (p.zb k).low, .int .i64 (p.zb k).high] 96) hJs
        obtain ⟨fn, tmps, assign, body, hy, hR⟩ := hY (frL p f k) k _ hJa (by omega)
        gi_wp2
        refine hR.mono ?_
        rintro e W3 (⟨rfl, hJ3, hk3⟩ | ⟨rfl, hJx3⟩)
        · have hB3 : Below n₀ W W3 := (hB.alloc (Nat.le_trans hn₀ (hS.out wr hB)) _).trans hk3.1
          have hc3 : W3.cell? ⟨Bf, 0, none⟩ = some (.bool f) := hk3.2 _ ((((Below.refl wr.heap.size wr).alloc (Nat.le_refl _) _).cell (p := ⟨Bf, 0, none⟩) hltf).trans hcf)
          rw [← frL_hit hf] at hJ3
          clear hk3 hR
          gi_wp2
          go_roundw
          case rel => exact ⟨k + 1, by omega, by go_num, hJ3, hB3, hc3⟩
          case measure => simp [intOf]; omega
        · rw [← frL_hit hf] at hJx3
          gi_wp2
          refine bodyPost_ret (results_none rfl _ _ _) rfl ?_
          exact ⟨⟨_, rfl⟩, .inr ⟨frL p f (k + 1), frL_prefix p f (by omega), hJx3⟩⟩
      · have hJa := HJA.out _ wr (.cells #[.bool (p.zb k).front, .int .i64 (p.zb k).room, .int .i64 (p.zb k).low, .int .i64 (p.zb k).high] 96) hJs
        rw [← frL_miss hf] at hJa
        have hBa := hB.alloc (Nat.le_trans hn₀ (hS.out wr hB)) (.cells #[.bool (p.zb k).front, .int .i64 (p.zb k).room, .int .i64 (p.zb k).low, .int .i64 (p.zb k).high] 96)
        have hca := (((Below.refl wr.heap.size wr).alloc (Nat.le_refl _) (.cells #[.bool (p.zb k).front, .int .i64 (p.zb k).room, .int .i64 (p.zb k).low, .int .i64 (p.zb k).high] 96)).cell (p := ⟨Bf, 0, none⟩) hltf).trans hcf
        have HA : Hid (J (frL p f (k + 1)) (wr.alloc (.cells #[.bool (p.zb k).front, .int .i64 (p.zb k).room, .int .i64 (p.zb k).low, .int .i64 (p.zb k).high] 96)) ∧ Below n₀ W (wr.alloc (.cells #[.bool (p.zb k).front, .int .i64 (p.zb k).room, .int .i64 (p.zb k).low, .int .i64 (p.zb k).high] 96)) ∧ (wr.alloc (.cells #[.bool (p.zb k).front, .int .i64 (p.zb k).room, .int .i64 (p.zb k).low, .int .i64 (p.zb k).high] 96)).cell? ⟨Bf, 0, none⟩ = some (.bool f)) := ⟨hJa, hBa, hca⟩
        clear hJa hBa hca
        gi_wp2
        refine ⟨fun _ h => (by cases h), ?_⟩
        gi_wp2
        go_roundw
        case rel => exact ⟨k + 1, by omega, by go_num, HA.out.1, HA.out.2.1, HA.out.2.2⟩
        case measure => simp [intOf]; omega
    · gi_wp2
      go_end0
      have hkn : k = p.nb := by omega
      subst hkn
      exact ⟨⟨_, rfl⟩, .inl ⟨_, rfl, hJs⟩⟩
end Go.Proofs.YtbcacebifpagpaeGreat
namespace Go.Proofs.YtbcacebifpagpaeGreat
open Go.RowKit Go.Shelf
set_option linter.unusedVariables false
attribute [local go_sem] Oper.semAt_some
theorem keepsB_t {n₀ Bf : Nat} {A B C : World} (h : keepsB n₀ Bf A B) (k : keepsB n₀ Bf B C) : keepsB n₀ Bf A C := ⟨h.1.trans k.1, fun v hv => k.2 v (h.2 v hv)⟩
theorem keepsB_b {n₀ Bf : Nat} {w : World} (hn : n₀ ≤ w.heap.size) (hb : Bf < w.heap.size) (W : World) (l : Nat) (o o' : Obj) (hl : w.heap.size ≤ l) (h : W.heap[l]? = some o) (h1 : o.isCells = false) (h2 : o.isWalk = false) : keepsB n₀ Bf W (W.putObj l o') :=
  ⟨belowK_b hn W l o o' hl h h1 h2, fun v hv => ((belowK_b (Nat.le_refl _) W l o o' hl h h1 h2).cell (p := ⟨Bf, 0, none⟩) hb).trans hv⟩
set_option maxRecDepth 100000 in
set_option maxHeartbeats 1000000 in
theorem binsOf_in (F : Fence) (n : Nat) (h5 : F.fn 99) (hro : F.round = none) (p : Pl) (f : Bool) (w : World) :
    CallsIn F n Tryz.prog 99 #[p.val, .bool f] w fun e w' => e = .returned (.func (.func 109) #[] #[.pointer (some ⟨w.heap.size, 0, none⟩), .pointer (some ⟨w.heap.size + 1, 0, none⟩)]) ∧ w' = (w.alloc (.cells #[.slice p.ab p.nb p.cb, .slice p.sa p.ns p.cs] 25)).alloc (.cells #[.bool f] 4) := by
  unfold Pl.val
  refine callsIn_of_wp Tryz.func99 rfl h5 ?_ hro
  simp only [Tryz.ntmps99, List.size_toArray, List.length_cons, List.length_nil, Nat.reduceAdd, Nat.reduceSub, Array.replicate_succ, Array.replicate_zero, List.push_toArray, List.append_toArray, List.nil_append, List.cons_append]
  gi_wp2
  go_ret
  exact ⟨rfl, rfl⟩
theorem binsOf_stops (F : Fence) (n : Nat) (h6 : F.fn 109) (hro : F.round = none) (hn : 1 ≤ n) (Bp Bf n₀ : Nat) (p : Pl) (f : Bool) (w : World) (hBp : Bp < w.heap.size) (hBf : Bf < w.heap.size) (hn₀ : n₀ ≤ w.heap.size)
    (hcp : w.cell? ⟨Bp, 0, none⟩ = some (.slice p.ab p.nb p.cb)) (hcf : w.cell? ⟨Bf, 0, none⟩ = some (.bool f)) (hle : p.nb ≤ p.cb) (hcap : p.cb ≤ maxLen) (hL : ∀ W', Below n₀ w W' → BinsAt W' p.ab p.nb p.zb) :
    SeqStopsK F n Tryz.prog 109 #[.pointer (some ⟨Bp, 0, none⟩), .pointer (some ⟨Bf, 0, none⟩)] (fun x : Int => #[Value.int .i64 x]) (keepsB n₀ Bf) (fun ys => ys = frL p f p.nb) (fun pre => pre <+: frL p f p.nb) p.nb w := fun l J Jx W hW hJ _ hY h0 =>
  binsOf1_in F n h6 hro hn l Bp Bf n₀ p f J Jx hY W hJ (Nat.le_trans hn₀ hW.size) ((hW.cell (p := ⟨Bp, 0, none⟩) hBp).trans hcp) ((hW.cell (p := ⟨Bf, 0, none⟩) hBf).trans hcf) hle hcap (fun W' h => hL W' ((hW.mono hn₀).trans h)) h0
end Go.Proofs.YtbcacebifpagpaeGreat

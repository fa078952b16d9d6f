/- Texts that were built one behind the other, joined; what WaveTells does not reach is left out. -/
import Derived.Test.YtbcacebifpagpadGreatK3WaveTells
import Derived.RangeFuncBox
import Derived.RangeFuncLeaves
import Derived.Shelf.Abstract
import Derived.WalkKit
import Derived.OwnWalkIn
import Derived.TacticsInMore
import Derived.LoopNIn
import Derived.LoopIn
import Derived.Maps.AppendAt
import Derived.RangeFuncNested
import Derived.KernelRfl
import Derived.Lib.QuietBelow
namespace Go.Proofs.YtbcacebifpagpadGreat
open Go.RowKit Go.Shelf
set_option linter.unusedVariables false
def hd0 : Hd := ⟨0, 0, 0, 0⟩
def hc (c : Nat → Hd) (q : Nat) : Value := (hdCells (c (q / 4))).getD (q % 4) default
theorem hc_at (c : Nat → Hd) (i : Nat) : hc c (i * 4) = .int .i64 (c i).o ∧ hc c (i * 4 + 1) = .int .i64 (c i).l ∧ hc c (i * 4 + 2) = .int .i64 (c i).b ∧ hc c (i * 4 + 3) = .int .i64 (c i).n := by
  unfold hc
  refine ⟨?_, ?_, ?_, ?_⟩
  · rw [show i * 4 / 4 = i by omega, show i * 4 % 4 = 0 by omega]; rfl
  · rw [show (i * 4 + 1) / 4 = i by omega, show (i * 4 + 1) % 4 = 1 by omega]; rfl
  · rw [show (i * 4 + 2) / 4 = i by omega, show (i * 4 + 2) % 4 = 2 by omega]; rfl
  · rw [show (i * 4 + 3) / 4 = i by omega, show (i * 4 + 3) % 4 = 3 by omega]; rfl
theorem hc_flat {n : Nat} {z : Nat → Hd} {q : Nat} (hq : q < n * 4) : (flatH n z).getD q default = hc z q := by
  have h := flatH_get n z (q / 4) (q % 4) (by omega) (by omega)
  rw [show q / 4 * 4 + q % 4 = q by omega] at h
  unfold hc
  simp only [List.getD]
  rw [h]
def set4 (w : World) (g i : Nat) (x : Hd) : World := (((w.setCell ⟨g, i * 4, none⟩ (.int .i64 x.o)).setCell ⟨g, i * 4 + 1, none⟩ (.int .i64 x.l)).setCell ⟨g, i * 4 + 2, none⟩ (.int .i64 x.b)).setCell ⟨g, i * 4 + 3, none⟩ (.int .i64 x.n)
theorem Blk.set4 {w : World} {g : Nat} {e : TypeId} {n : Nat} {c : Nat → Hd} (h : Blk w g e n (hc c)) (i : Nat) (x : Hd) : Blk (set4 w g i x) g e n (hc fun j => if j = i then x else c j) := by
  unfold Go.Proofs.YtbcacebifpagpadGreat.set4
  refine ((((h.set _ _).set _ _).set _ _).set _ _).congr fun q hq => ?_
  have ha := hc_at (fun j => if j = i then x else c j) i
  simp only [if_pos] at ha
  by_cases h3 : q = i * 4 + 3
  · rw [if_pos h3, h3, ha.2.2.2]
  · rw [if_neg h3]
    by_cases h2 : q = i * 4 + 2
    · rw [if_pos h2, h2, ha.2.2.1]
    · rw [if_neg h2]
      by_cases h1 : q = i * 4 + 1
      · rw [if_pos h1, h1, ha.2.1]
      · rw [if_neg h1]
        by_cases h0 : q = i * 4
        · rw [if_pos h0, h0, ha.1]
        · rw [if_neg h0]
          unfold hc
          dsimp only
          rw [if_neg (by omega)]
theorem below_set4 {A g : Nat} (hg : A ≤ g) {a w : World} (h : Below A a w) (i : Nat) (x : Hd) : Below A a (set4 w g i x) := by
  unfold set4
  exact (((h.setCell (p := ⟨g, i * 4, none⟩) hg _).setCell (p := ⟨g, i * 4 + 1, none⟩) hg _).setCell (p := ⟨g, i * 4 + 2, none⟩) hg _).setCell (p := ⟨g, i * 4 + 3, none⟩) hg _
theorem Blk.hds {w : World} {g : Nat} {e : TypeId} {n : Nat} {c : Nat → Hd} (h : Blk w g e (n * 4) (hc c)) : HdsAt w (some ⟨g, 0, none⟩) n c := fun i hi => by
  have a := hc_at c i
  refine ⟨g, 0, rfl, h.lt, ?_, ?_, ?_, ?_⟩
  · rw [Nat.zero_add]; exact (h.cell (by omega)).trans (by rw [a.1])
  · rw [Nat.zero_add]; exact (h.cell (by omega)).trans (by rw [a.2.1])
  · rw [Nat.zero_add]; exact (h.cell (by omega)).trans (by rw [a.2.2.1])
  · rw [Nat.zero_add]; exact (h.cell (by omega)).trans (by rw [a.2.2.2])
theorem run_clear4 (w : World) (ty : TypeId) (b o n c : Nat) (hn : 0 < n) (hc : ∀ j, j < n * 4 → (w.cell? ⟨b, o + j, none⟩).isSome = true) (hf : ∀ j, j < n * 4 → w.frozen? ⟨b, o + j, none⟩ = false) :
    (Builtin.clear_ #[28] ty #[.slice (some ⟨b, o, none⟩) n c]).run Tryz.prog w = .ok (.tuple #[]) (w.setCells b o (List.replicate (n * 4) (.int .i64 0))) := by
  have hzc : (Builtin.zeroCells (Value.agg #[.int .i64 0, .int .i64 0, .int .i64 0, .int .i64 0]).cells n).toList = List.replicate (n * 4) (.int .i64 0) := by
    rw [show (Value.agg #[.int .i64 0, .int .i64 0, .int .i64 0, .int .i64 0]).cells = #[.int .i64 0, .int .i64 0, .int .i64 0, .int .i64 0] from rfl]
    apply List.ext_getElem
    · simp [Builtin.zeroCells]
    · intro i h1 h2
      have h4 : i % 4 < 4 := by omega
      simp [Builtin.zeroCells]
      generalize i % 4 = k at h4
      match k, h4 with
      | 0, _ => rfl
      | 1, _ => rfl
      | 2, _ => rfl
      | 3, _ => rfl
  have hst := run_storeCells_cells (P := Tryz.prog) b o (List.replicate (n * 4) (.int .i64 0)) 0 w (by simpa using hc) (by simpa using hf) (by intro v hv'; rw [List.eq_of_mem_replicate hv']; rfl)
  simp only [Nat.add_zero] at hst
  obtain ⟨m, rfl⟩ : ∃ m, n = m + 1 := ⟨n - 1, by omega⟩
  simp only [Builtin.clear_]
  simp [hzc, hst]
def KeepG (g : Nat) (w w' : World) : Prop := w.heap.size ≤ w'.heap.size ∧ ∀ q, q < w.heap.size → q ≠ g → w'.heap[q]? = w.heap[q]?
theorem KeepG.refl (g : Nat) (w : World) : KeepG g w w := ⟨Nat.le_refl _, fun _ _ _ => rfl⟩
theorem KeepG.below {g : Nat} {w wk wj : World} (h : KeepG g w wk) (hB : Below wk.heap.size wk wj) : KeepG g w wj := ⟨Nat.le_trans h.1 hB.size, fun q hq hne => (hB.block q (Nat.lt_of_lt_of_le hq h.1)).trans (h.2 q hq hne)⟩
theorem KeepG.set {g : Nat} {w wk : World} (h : KeepG g w wk) (j : Nat) (u : Value) : KeepG g w (wk.setCell ⟨g, j, none⟩ u) := ⟨by simpa using h.1, fun q hq hne => (Below.heap_setCell wk ⟨g, j, none⟩ u q hne).trans (h.2 q hq hne)⟩
theorem KeepG.cells {g : Nat} {w : World} : ∀ (vs : List Value) (o : Nat) (wk : World), KeepG g w wk → KeepG g w (wk.setCells g o vs)
  | [], _, _, h => h
  | v :: r, o, wk, h => by
    rw [World.setCells]
    exact KeepG.cells r (o + 1) _ (h.set o v)
theorem KeepG.set4 {g : Nat} {w wk : World} (h : KeepG g w wk) (i : Nat) (x : Hd) : KeepG g w (Go.Proofs.YtbcacebifpagpadGreat.set4 wk g i x) := by
  unfold Go.Proofs.YtbcacebifpagpadGreat.set4
  exact (((h.set _ _).set _ _).set _ _).set _ _
theorem KeepG.blk {g : Nat} {w w' : World} (h : KeepG g w w') {q : Nat} {t : TypeId} {m : Nat} {f : Nat → Value} (hb : Blk w q t m f) (hne : q ≠ g) : Blk w' q t m f := by
  have hlt := hb.lt
  obtain ⟨cur, h1, h2⟩ := hb
  exact ⟨cur, (h.2 q hlt hne).trans h1, h2⟩
set_option maxHeartbeats 400000 in
theorem idxH2 (f : Nat) (caps : Array Value) (bad : Hd → Bool) (A : Nat) (a : Option Addr) (n c : Nat) (w : World) (hA : A ≤ w.heap.size) (hn : n ≤ c) (hc : c ≤ maxLen) (z : Nat → Hd) (hz : HdsAt w a n z)
    (eg : ∀ args w, (callFunc f args).run Tryz.prog w = .ok (.enter f args) w)
    (hf : Hid (∀ (x : Hd) w1, Below A w w1 → Calls Tryz.prog f (#[x.val] ++ caps) w1 fun e w' => e = .returned (.bool (bad x)) ∧ Below w1.heap.size w1 w')) :
    Calls Tryz.prog 55 #[.slice a n c, .func (.func f) #[] caps] w fun e w' => ((e = .returned (.int .i64 (-1)) ∧ ∀ j, j < n → bad (z j) = false) ∨ ∃ k, k < n ∧ e = .returned (.int .i64 (k : Nat)) ∧ bad (z k) = true ∧ ∀ j, j < k → bad (z j) = false) ∧ Below w.heap.size w w' := by
  unfold maxLen at hc
  go_enter Tryz.func55, Tryz.ntmps55
  go_wp2_with fail
  go_loopw [8] (fun i w1 => ∃ k : Nat, k ≤ n ∧ i = .int .i64 k ∧ Hid (∀ j, j < k → bad (z j) = false) ∧ Below w.heap.size w w1) (fun i _ => n - (intOf i).toNat)
  case atStart => exact ⟨0, Nat.zero_le _, rfl, fun j hj => absurd hj (Nat.not_lt_zero _), Below.refl _ _⟩
  case round =>
    obtain ⟨k, hk, rfl, HN, hB⟩ := hrel
    by_cases hlt : k < n
    · obtain ⟨b, o, rfl, _, hcell0, hcell1, hcell2, hcell3⟩ := (hz.below hB) k hlt
      clear hz
      have HE : Hid (∀ j, j < k + 1 → bad (z k) = false → bad (z j) = false) := fun j hj h => by
        by_cases hjk : j = k
        · rw [hjk]; exact h
        · exact HN.out j (by omega)
      go_wp2_with fail
      refine (hf.out (z k) wr (hB.mono hA)).mono ?_
      rintro e w1 ⟨rfl, hB1⟩
      have hB2 := hB.trans (hB1.mono hB.size)
      cases hbad : bad (z k)
      · have HN2 : Hid (∀ j, j < k + 1 → bad (z j) = false) := fun j hj => HE.out j hj hbad
        clear HE HN
        go_wp2_with fail
        go_roundw
        case rel => exact ⟨k + 1, by omega, by go_num, HN2, hB2⟩
        case measure => simp [intOf]; omega
      · go_wp2_with fail
        go_ret
        exact ⟨Or.inr ⟨k, hlt, rfl, hbad, HN.out⟩, hB2⟩
    · go_wp2_with fail
      go_ret
      have hkn : k = n := by omega
      subst hkn
      exact ⟨Or.inl ⟨rfl, HN.out⟩, hB⟩
def stayH (bad : Hd → Bool) (xs : List Hd) (k : Nat) : List Hd := (xs.take k).filter (fun x => !bad x)
theorem stayH_all (bad : Hd → Bool) (xs : List Hd) : stayH bad xs xs.length = xs.filter (fun x => !bad x) := by unfold stayH; rw [List.take_length]
theorem stayH_succ {bad : Hd → Bool} {xs : List Hd} {k : Nat} (hk : k < xs.length) : stayH bad xs (k + 1) = stayH bad xs k ++ if bad (xs.getD k hd0) then [] else [xs.getD k hd0] := by
  unfold stayH
  have e : xs.getD k hd0 = xs[k] := by simp [List.getD, List.getElem?_eq_getElem hk]
  rw [List.take_add_one, List.getElem?_eq_getElem hk, List.filter_append, e]
  congr 1
  cases h : bad xs[k] <;> simp [h]
theorem stayH_full {bad : Hd → Bool} {xs : List Hd} : ∀ {k : Nat}, k ≤ xs.length → (∀ j, j < k → bad (xs.getD j hd0) = false) → stayH bad xs k = xs.take k
  | 0, _, _ => by simp [stayH]
  | k + 1, hk, h => by
    rw [stayH_succ (by omega), stayH_full (k := k) (by omega) (fun j hj => h j (by omega)), h k (by omega), List.take_add_one]
    simp [List.getD, List.getElem?_eq_getElem (show k < xs.length by omega)]
def DelAtH (g : Nat) (bad : Hd → Bool) (xs : List Hd) (k : Nat) (wk : World) : Prop := ∃ c : Nat → Hd, Blk wk g 55 (xs.length * 4) (hc c) ∧ (∀ q, q < (stayH bad xs k).length → c q = (stayH bad xs k).getD q hd0) ∧ ∀ q, k ≤ q → q < xs.length → c q = xs.getD q hd0
set_option maxRecDepth 100000 in
set_option maxHeartbeats 2000000 in
theorem DelH_any (f : Nat) (caps : Array Value) (bad : Hd → Bool) (A g cap : Nat) (xs : List Hd) (w : World) (hA : A ≤ g) (hA2 : A ≤ w.heap.size) (hn : xs.length ≤ cap) (hcap : cap ≤ maxLen) (hb : Blk w g 55 (xs.length * 4) (hc fun j => xs.getD j hd0))
    (eg : ∀ args w, (callFunc f args).run Tryz.prog w = .ok (.enter f args) w)
    (hf : Hid (∀ (x : Hd) w1, Below A w w1 → Calls Tryz.prog f (#[x.val] ++ caps) w1 fun e w' => e = .returned (.bool (bad x)) ∧ Below w1.heap.size w1 w')) :
    Calls Tryz.prog 19 #[.slice (some ⟨g, 0, none⟩) xs.length cap, .func (.func f) #[] caps] w fun e w' => e = .returned (.slice (some ⟨g, 0, none⟩) (xs.filter (fun x => !bad x)).length cap) ∧ Blk w' g 55 ((xs.filter (fun x => !bad x)).length * 4) (hc fun j => (xs.filter (fun x => !bad x)).getD j hd0) ∧ Below A w w' ∧ KeepG g w w' := by
  have hcap0 := hcap
  unfold maxLen at hcap
  have HBK : Hid (Blk w g 55 (xs.length * 4) (hc fun j => xs.getD j hd0)) := hb
  have hz : HdsAt w (some ⟨g, 0, none⟩) xs.length (fun j => xs.getD j hd0) := hb.hds
  clear hb
  go_enter Tryz.func19, Tryz.ntmps19
  go_wp2_with fail
  refine (idxH2 f caps bad A _ _ _ w hA2 hn hcap0 _ hz eg hf).mono ?_
  rintro e w1 ⟨h, hB1⟩
  clear hz
  have hBA := hB1.mono hA2
  rcases h with ⟨rfl, hno⟩ | ⟨k0, hk0, rfl, hbad, hno⟩
  · have hfil : xs.filter (fun x => !bad x) = xs := by
      have := stayH_full (bad := bad) (Nat.le_refl xs.length) hno
      rw [stayH_all, List.take_length] at this
      exact this
    have HF : Hid (xs.filter (fun x => !bad x) = xs) := hfil
    clear hfil hno
    go_wp2_with fail
    go_ret
    rw [HF.out]
    exact ⟨rfl, HBK.out.below hB1, hBA, (KeepG.refl g w).below hB1⟩
  · have hs0 : stayH bad xs (k0 + 1) = xs.take k0 := by rw [stayH_succ hk0, stayH_full (by omega) hno, hbad]; simp
    have hl0 : (stayH bad xs (k0 + 1)).length = k0 := by rw [hs0, List.length_take]; omega
    have H0 : Hid (DelAtH g bad xs (k0 + 1) w1) := ⟨_, HBK.out.below hB1, fun q hq => by
      rw [hl0] at hq
      rw [hs0]
      simp only [List.getD, List.getElem?_take, if_pos hq], fun q _ _ => rfl⟩
    have HL0 : Hid ((stayH bad xs (k0 + 1)).length = k0) := hl0
    clear hs0 hl0 hbad hno HBK
    go_wp2_with fail
    go_loopw [5, 6] (fun i j wk => ∃ k : Nat, k ≤ xs.length ∧ j = .int .i64 k ∧ i = .int .i64 ((stayH bad xs k).length : Nat) ∧ (stayH bad xs k).length < k ∧ Hid (DelAtH g bad xs k wk) ∧ Below A w wk ∧ Hid (KeepG g w wk)) (fun _ j _ => xs.length - (intOf j).toNat)
    case atStart => exact ⟨k0 + 1, by omega, by go_num, by rw [HL0.out], by rw [HL0.out]; omega, H0, hBA, (KeepG.refl g w).below hB1⟩
    case round =>
      clear H0 HL0 hBA hB1
      obtain ⟨k, hk, rfl, rfl, hlen, HD, hB, HKG⟩ := hrel
      by_cases hlt : k < xs.length
      · obtain ⟨c, hc1, hc2, hc3⟩ := HD.out
        have HB : Hid (Blk wr g 55 (xs.length * 4) (hc c) ∧ (∀ q, q < (stayH bad xs k).length → c q = (stayH bad xs k).getD q hd0) ∧ ∀ q, k ≤ q → q < xs.length → c q = xs.getD q hd0) := ⟨hc1, hc2, hc3⟩
        have HS : Hid (stayH bad xs (k + 1) = stayH bad xs k ++ if bad (xs.getD k hd0) then [] else [xs.getD k hd0]) := stayH_succ hlt
        obtain ⟨X, hX⟩ : ∃ X, xs.getD k hd0 = X := ⟨_, rfl⟩
        have HXE : Hid (xs.getD k hd0 = X) := hX
        have hcx : c k = X := by rw [hc3 k (Nat.le_refl _) hlt, hX]
        have ha := hc_at c k
        rw [hcx] at ha
        have z0 : wr.cell? ⟨g, k * 4, none⟩ = some (.int .i64 X.o) := (hc1.cell (by omega)).trans (by rw [ha.1])
        have z1 : wr.cell? ⟨g, k * 4 + 1, none⟩ = some (.int .i64 X.l) := (hc1.cell (by omega)).trans (by rw [ha.2.1])
        have z2 : wr.cell? ⟨g, k * 4 + 2, none⟩ = some (.int .i64 X.b) := (hc1.cell (by omega)).trans (by rw [ha.2.2.1])
        have z3 : wr.cell? ⟨g, k * 4 + 3, none⟩ = some (.int .i64 X.n) := (hc1.cell (by omega)).trans (by rw [ha.2.2.2])
        have zl := hc1.lt
        clear hc1 hc2 hc3 HD hX hcx ha
        obtain ⟨I, hI⟩ : ∃ I, (stayH bad xs k).length = I := ⟨_, rfl⟩
        have HIE : Hid ((stayH bad xs k).length = I) := hI
        rw [hI] at hlen ⊢
        clear hI
        obtain ⟨W, hW, hWB, KX⟩ : ∃ W, wr.alloc (.cells #[.int .i64 X.o, .int .i64 X.l, .int .i64 X.b, .int .i64 X.n] 55) = W ∧ Below wr.heap.size wr W ∧ Blk W wr.heap.size 55 4 (fun j => (#[.int .i64 X.o, .int .i64 X.l, .int .i64 X.b, .int .i64 X.n] : Array Value).getD j default) := ⟨_, rfl, (Below.refl _ _).alloc (Nat.le_refl _) _, Blk.mk' rfl rfl⟩
        have HW : Hid (wr.alloc (.cells #[.int .i64 X.o, .int .i64 X.l, .int .i64 X.b, .int .i64 X.n] 55) = W) := hW
        have hBW := hB.trans (hWB.mono (Nat.le_trans hA2 hB.size))
        have HB : Hid (Blk W g 55 (xs.length * 4) (hc c) ∧ (∀ q, q < (stayH bad xs k).length → c q = (stayH bad xs k).getD q hd0) ∧ ∀ q, k ≤ q → q < xs.length → c q = xs.getD q hd0) := ⟨HB.out.1.below hWB, HB.out.2⟩
        have HKG : Hid (KeepG g w W) := HKG.out.below hWB
        clear hW hWB
        go_wp2_with fail
        rw [HW.out]
        refine (hf.out X W hBW).mono ?_
        rintro e w2 ⟨rfl, hB2⟩
        have hB3 := hBW.trans (hB2.mono (Nat.le_trans hA2 hBW.size))
        have HKG : Hid (KeepG g w w2) := HKG.out.below hB2
        have kb := HB.out.1.below hB2
        have KX2 := KX.below hB2
        have xl := KX2.lt
        have x0 : w2.cell? ⟨wr.heap.size, 0, none⟩ = some (.int .i64 X.o) := KX2.cell (j := 0) (by decide)
        have x1 : w2.cell? ⟨wr.heap.size, 1, none⟩ = some (.int .i64 X.l) := KX2.cell (j := 1) (by decide)
        have x2 : w2.cell? ⟨wr.heap.size, 2, none⟩ = some (.int .i64 X.b) := KX2.cell (j := 2) (by decide)
        have x3 : w2.cell? ⟨wr.heap.size, 3, none⟩ = some (.int .i64 X.n) := KX2.cell (j := 3) (by decide)
        clear z0 z1 z2 z3 zl KX KX2 HW hB hBW hB2
        generalize wr.heap.size = BX at *
        cases hbd : bad X
        · have y0 := kb.cell (j := I * 4) (by omega)
          have y1 := kb.cell (j := I * 4 + 1) (by omega)
          have y2 := kb.cell (j := I * 4 + 2) (by omega)
          have y3 := kb.cell (j := I * 4 + 3) (by omega)
          have f0 := kb.frozen (I * 4)
          have f1 := kb.frozen (I * 4 + 1)
          have f2 := kb.frozen (I * 4 + 2)
          have f3 := kb.frozen (I * 4 + 3)
          have yl := kb.lt
          generalize hc c (I * 4) = V0 at y0
          generalize hc c (I * 4 + 1) = V1 at y1
          generalize hc c (I * 4 + 2) = V2 at y2
          generalize hc c (I * 4 + 3) = V3 at y3
          have KB := kb.set4 I X
          have HN : Hid (DelAtH g bad xs (k + 1) (set4 w2 g I X) ∧ Below A w (set4 w2 g I X) ∧ (stayH bad xs (k + 1)).length = I + 1 ∧ KeepG g w (set4 w2 g I X)) := by
            have e1 : stayH bad xs (k + 1) = stayH bad xs k ++ [X] := by rw [HS.out, HXE.out, hbd]; rfl
            have e2 : (stayH bad xs (k + 1)).length = I + 1 := by rw [e1, List.length_append, HIE.out]; rfl
            refine ⟨⟨_, KB, fun q hq => ?_, fun q hq hq2 => ?_⟩, below_set4 hA hB3 I X, e2, HKG.out.set4 I X⟩
            · rw [e2] at hq
              show (if q = I then X else c q) = _
              rw [e1]
              by_cases hqi : q = I
              · rw [if_pos hqi]
                simp only [List.getD]
                rw [List.getElem?_append_right (by rw [HIE.out]; omega), HIE.out, hqi]
                simp
              · rw [if_neg hqi, HB.out.2.1 q (by rw [HIE.out]; omega)]
                simp only [List.getD]
                rw [List.getElem?_append_left (by rw [HIE.out]; omega)]
            · show (if q = I then X else c q) = _
              rw [if_neg (by omega), HB.out.2.2 q (by omega) hq2]
          clear kb KB HB HS
          go_wp2_with fail
          go_roundw
          case rel => exact ⟨_, _, _, _, _, _, _, _, _, _, _, _, _, _, _, _, _, _, _, _, _, _, _, ⟨k + 1, by omega, by go_num, by rw [HN.out.2.2.1]; go_num, by rw [HN.out.2.2.1]; omega, HN.out.1, HN.out.2.1, HN.out.2.2.2⟩, rfl⟩
          case measure => simp [intOf]; omega
        · have HN : Hid (DelAtH g bad xs (k + 1) w2 ∧ (stayH bad xs (k + 1)).length = I) := by
            have e1 : stayH bad xs (k + 1) = stayH bad xs k := by rw [HS.out, HXE.out, hbd]; simp
            rw [e1]
            exact ⟨⟨c, kb, by rw [e1]; exact HB.out.2.1, fun q hq hq2 => HB.out.2.2 q (by omega) hq2⟩, HIE.out⟩
          clear kb HB HS
          go_wp2_with fail
          go_roundw
          case rel => exact ⟨_, _, _, _, _, _, _, _, _, _, _, _, _, _, _, _, _, _, _, _, _, _, _, ⟨k + 1, by omega, by go_num, by rw [HN.out.2], by rw [HN.out.2]; omega, HN.out.1, hB3, HKG⟩, rfl⟩
          case measure => simp [intOf]; omega
      · have hkn : k = xs.length := by omega
        subst hkn
        obtain ⟨c, hc1, hc2, hc3⟩ := HD.out
        rw [stayH_all] at hlen hc2 ⊢
        obtain ⟨I, hI⟩ : ∃ I, (xs.filter (fun x => !bad x)).length = I := ⟨_, rfl⟩
        have HI : Hid ((xs.filter (fun x => !bad x)).length = I) := hI
        rw [hI] at hlen hc2 ⊢
        clear hI
        obtain ⟨N, hN⟩ : ∃ N, xs.length = N := ⟨_, rfl⟩
        have HNE : Hid (xs.length = N) := hN
        rw [hN] at hlen hn hc1 ⊢
        clear hN hc3 hlt hk HD
        have hci : ¬ cap = I := by omega
        have hcl : ∀ ty, (Builtin.clear_ #[28] ty #[.slice (some ⟨g, I * 4, none⟩) (N - I) (cap - I)]).run Tryz.prog wr = .ok (.tuple #[]) (wr.setCells g (I * 4) (List.replicate ((N - I) * 4) (.int .i64 0))) := fun ty =>
          run_clear4 wr ty g (I * 4) (N - I) (cap - I) (by omega) (fun j hj => by rw [hc1.cell (by omega)]; rfl) (fun j _ => hc1.frozen _)
        have HEND : Hid (Blk (wr.setCells g (I * 4) (List.replicate ((N - I) * 4) (.int .i64 0))) g 55 (I * 4) (hc fun j => (xs.filter (fun x => !bad x)).getD j hd0) ∧ Below A w (wr.setCells g (I * 4) (List.replicate ((N - I) * 4) (.int .i64 0))) ∧ KeepG g w (wr.setCells g (I * 4) (List.replicate ((N - I) * 4) (.int .i64 0)))) :=
          ⟨Blk.setCells _ _ _ ((hc1.less (by omega)).congr fun j hj => by unfold hc; rw [hc2 (j / 4) (by omega)]) (Nat.le_refl _), below_cells hA _ _ _ hB, HKG.out.cells _ _ _⟩
        clear hc1 hc2
        go_wp2_with fail
        go_ret
        rw [HI.out]
        exact ⟨rfl, HEND.out⟩
end Go.Proofs.YtbcacebifpagpadGreat
namespace Go.Proofs.YtbcacebifpagpadGreat
open Go.RowKit Go.Shelf Go.Sort
set_option linter.unusedVariables false
def kindO (os : Os) (o : Nat) (v : Int) : Os := ⟨os.a, os.n, os.c, fun i => if i = o then ⟨v, (os.z i).ls⟩ else os.z i⟩
def kindS (s : St) (o : Nat) (v : Int) : St := ⟨s.on, kindO s.os o v, s.hs, s.ms, s.si, s.so, s.sf⟩
theorem kindS_at (s : St) (o : Nat) (v : Int) : (kindS s o v).os.z o = ⟨v, (s.os.z o).ls⟩ := if_pos rfl
theorem kindO_ls (os : Os) (o : Nat) (v : Int) (i : Nat) : ((kindO os o v).z i).ls = (os.z i).ls := by
  show (if i = o then (⟨v, (os.z i).ls⟩ : Od) else os.z i).ls = _
  by_cases h : i = o
  · rw [if_pos h]
  · rw [if_neg h]
theorem OwnO.kind {A : Nat} {w : World} {s : Os} {o g : Nat} (h : OwnO A w s) (ho : o < s.n) (ha : s.a = some ⟨g, 0, none⟩) (v : Int) : OwnO A (w.setCell ⟨g, o * 2, none⟩ (.int .i64 v)) (kindO s o v) := by
  obtain ⟨g', ha', hA, hb⟩ := h.list (by omega)
  rw [ha] at ha'
  simp only [Option.some.injEq, Addr.mk.injEq, and_true] at ha'
  subst ha'
  refine ⟨h.le, h.cap, fun hn => ⟨g, ha, hA, (hb.set (o * 2) (.int .i64 v)).congr fun q hq => ?_⟩, fun i hi => ?_, fun i j hij hj => by rw [kindO_ls, kindO_ls]; exact h.apart i j hij hj, h.room.set _ _ _⟩
  · have hd : q = q / 2 * 2 + q % 2 := by omega
    have hi : q / 2 < s.n := by omega
    have hm : q % 2 < 2 := by omega
    have e1 := flatO_at (z := s.z) hi hm
    have e2 := flatO_at (z := (kindO s o v).z) hi hm
    rw [← hd] at e1 e2
    show (if q = o * 2 then Value.int .i64 v else (flatO s.n s.z).getD q default) = (flatO s.n (kindO s o v).z).getD q default
    rw [e1, e2]
    show _ = (odCells (if q / 2 = o then (⟨v, (s.z (q / 2)).ls⟩ : Od) else s.z (q / 2))).getD (q % 2) default
    by_cases hj : q / 2 = o
    · rw [if_pos hj]
      have hm2 : q % 2 = 0 ∨ q % 2 = 1 := by omega
      rcases hm2 with hm2 | hm2
      · rw [if_pos (by omega), hm2]; rfl
      · rw [if_neg (by omega), hm2]; rfl
    · rw [if_neg hj, if_neg (by omega)]
  · rw [kindO_ls]
    obtain ⟨C, a1, a2, a3, a4, a5⟩ := h.lines i hi
    exact ⟨C, a1, a2, a3, a4, a5.other (a := ⟨g, o * 2, none⟩) (Blk.ne2 a5 hb (by decide)) _⟩
theorem OwnS.kind {A : Nat} {w : World} {s : St} {o g : Nat} (h : OwnS A w s) (ho : o < s.os.n) (ha : s.os.a = some ⟨g, 0, none⟩) (v : Int) : OwnS A (w.setCell ⟨g, o * 2, none⟩ (.int .i64 v)) (kindS s o v) := by
  obtain ⟨g', ha', hA, hb⟩ := h.os.list (by omega)
  rw [ha] at ha'
  simp only [Option.some.injEq, Addr.mk.injEq, and_true] at ha'
  subst ha'
  refine ⟨?_, fun i hi => (h.rows i hi).other hb (by decide) _ _, h.rapart, h.os.kind ho ha v, h.hs.other hb (by decide) _ _, h.ms.other hb (by decide) _ _, h.msr.set _ _ _, h.si.other hb (by decide) _ _, h.so.other hb (by decide) _ _, h.sf.other hb (by decide) _ _, h.aio, h.aif, h.aof, h.ari⟩
  obtain ⟨q, a0, a1, a2, a3, a4⟩ := h.on
  exact ⟨q, a0, a1, a2, a3, a4.other (a := ⟨g, o * 2, none⟩) (Blk.ne2 a4 hb (by decide)) _⟩
def relS1 (s : St) (i : Nat) : St := lackS (kindS s i 1) i (s.os.z i).ls.n
set_option maxRecDepth 100000 in
set_option maxHeartbeats 2000000 in
theorem release_any (x : St) (i A gO : Nat) (w : World) (hA : A ≤ w.heap.size) (hO : OwnS A w x) (hi : i < x.os.n) (hga : x.os.a = some ⟨gO, 0, none⟩) (hbd : ∀ j, j < (x.os.z i).ls.n → (0 ≤ ((x.os.z i).ls.z j).l ∧ ((x.os.z i).ls.z j).l ≤ 200) ∧ 0 ≤ ((x.os.z i).ls.z j).b ∧ ((x.os.z i).ls.z j).b ≤ 200) :
    Calls Tryz.prog 16 #[.pointer (some ⟨gO, i * 2, none⟩)] w fun e w' => ∃ y : St, e = .returned (.tuple #[]) ∧ ((x.os.z i).k = 0 → y = relS1 x i) ∧ (¬ (x.os.z i).k = 0 → y = x) ∧ OwnS A w' y ∧ Below A w w' ∧ KeepO w w' := by
  obtain ⟨g, hg1, hg2, hg3⟩ := hO.os.list (by omega)
  have hgg : g = gO := by rw [hga] at hg1; simpa using hg1.symm
  subst hgg
  have c0 := hg3.cell (j := i * 2) (by omega)
  have e0 := flatO_at (z := x.os.z) hi (show 0 < 2 by decide)
  rw [Nat.add_zero] at e0
  rw [e0] at c0
  have c1 : w.cell? ⟨g, i * 2, none⟩ = some (.int .i64 (x.os.z i).k) := c0
  have gl := hg3.lt
  have gf := hg3.frozen (i * 2)
  have HO : Hid (OwnS A w x) := hO
  have HN : Hid (OwnS A (w.setCell ⟨g, i * 2, none⟩ (.int .i64 1)) (kindS x i 1) ∧ Below A w (w.setCell ⟨g, i * 2, none⟩ (.int .i64 1)) ∧ KeepO w (w.setCell ⟨g, i * 2, none⟩ (.int .i64 1)) ∧ w.heap.size ≤ (w.setCell ⟨g, i * 2, none⟩ (.int .i64 1)).heap.size) := by
    have hb := (Below.refl A w).setCell (p := ⟨g, i * 2, none⟩) hg2 (.int .i64 1)
    exact ⟨hO.kind hi hga 1, hb, (KeepO.refl w).setOrder hg3 _ _, hb.size⟩
  have HBD : Hid (∀ j, j < ((kindS x i 1).os.z i).ls.n → (0 ≤ (((kindS x i 1).os.z i).ls.z j).l ∧ (((kindS x i 1).os.z i).ls.z j).l ≤ 200) ∧ 0 ≤ (((kindS x i 1).os.z i).ls.z j).b ∧ (((kindS x i 1).os.z i).ls.z j).b ≤ 200) := by
    show ∀ j, j < ((kindS x i 1).os.z i).ls.n → _
    rw [kindS_at]
    exact hbd
  have HGA : Hid ((kindS x i 1).os.a = some ⟨g, 0, none⟩) := hga
  clear hO hg1 hg3 hga hbd c0 e0
  by_cases hk : (x.os.z i).k = 0
  · have hk0 : ((x.os.z i).k != 0) = false := by simpa using hk
    have HK : Hid ((x.os.z i).k = 0) := hk
    clear hk
    generalize (x.os.z i).k = KK at *
    go_enter Tryz.func16, Tryz.ntmps16
    go_wp2_with fail
    refine (lack_any (kindS x i 1) i A g _ (Nat.le_trans hA HN.out.2.2.2) HN.out.1 hi HGA.out HBD.out).mono ?_
    rintro e w2 ⟨rfl, ho2, hb2, hk2⟩
    have HE : Hid (OwnS A w2 (lackS (kindS x i 1) i ((kindS x i 1).os.z i).ls.n) ∧ Below A w w2 ∧ KeepO w w2) := ⟨ho2, HN.out.2.1.trans hb2, HN.out.2.2.1.trans hk2⟩
    clear ho2 hb2 hk2
    go_wp2_with fail
    first | go_end0 | refine bodyPost_ret (results_none rfl _ _ _) rfl ?_
    refine ⟨relS1 x i, rfl, fun _ => rfl, fun h => absurd HK.out h, ?_, HE.out.2⟩
    have h := HE.out.1
    rw [kindS_at] at h
    exact h
  · have hk0 : ((x.os.z i).k != 0) = true := by simpa using hk
    have HK : Hid (¬ (x.os.z i).k = 0) := hk
    clear hk
    generalize (x.os.z i).k = KK at *
    go_enter Tryz.func16, Tryz.ntmps16
    go_wp2_with fail
    first | go_end0 | refine bodyPost_ret (results_none rfl _ _ _) rfl ?_
    exact ⟨x, rfl, fun h => absurd h HK.out, fun _ => rfl, HO.out, Below.refl _ _, KeepO.refl _⟩
theorem Cancel1_any (B : Nat) (x : Hd) (order : Int) (w : World) (hB : B < w.heap.size) (c : w.cell? ⟨B, 0, none⟩ = some (.int .i64 order)) :
    Calls Tryz.prog 20 #[x.val, .pointer (some ⟨B, 0, none⟩)] w fun e w' => e = .returned (.bool (x.o == order)) ∧ Below w.heap.size w w' := by
  have hB2 := (Below.refl w.heap.size w).alloc (Nat.le_refl _) (.cells #[.int .i64 x.o, .int .i64 x.l, .int .i64 x.b, .int .i64 x.n] 55)
  unfold Hd.val
  go_enter Tryz.func20, Tryz.ntmps20
  go_wp2_with fail
  go_ret
  exact ⟨rfl, hB2⟩
end Go.Proofs.YtbcacebifpagpadGreat
namespace Go.Proofs.YtbcacebifpagpadGreat
open Go.RowKit
set_option linter.unusedVariables false
def relOd (k : Nat) (i : Nat) (o : Od) : Od := if i < k ∧ o.k = 0 then ⟨1, lackL o.ls o.ls.n⟩ else o
def relO (s : St) (k : Nat) : St := ⟨s.on, ⟨s.os.a, s.os.n, s.os.c, fun i => relOd k i (s.os.z i)⟩, s.hs, s.ms, s.si, s.so, s.sf⟩
theorem relOd_later {k i : Nat} (o : Od) (h : k ≤ i) : relOd k i o = o := if_neg (by omega)
theorem relO_zero (s : St) : relO s 0 = s := by
  unfold relO
  have e : (fun i => relOd 0 i (s.os.z i)) = s.os.z := funext fun i => relOd_later _ (Nat.zero_le _)
  rw [e]
theorem relOd_n (k i : Nat) (o : Od) : (relOd k i o).ls.n = o.ls.n := by
  unfold relOd
  split <;> rfl
theorem relO_hit {s : St} {k : Nat} (h : (s.os.z k).k = 0) : relS1 (relO s k) k = relO s (k + 1) := by
  unfold relS1 lackS kindS relO lackO kindO
  dsimp only
  congr 2
  funext a
  rw [relOd_n]
  by_cases ha : a = k
  · subst ha
    rw [if_pos rfl, if_pos rfl, relOd_later _ (Nat.le_refl _)]
    unfold relOd
    rw [if_pos ⟨by omega, h⟩]
  · rw [if_neg ha, if_neg ha]
    unfold relOd
    by_cases hk : a < k ∧ (s.os.z a).k = 0
    · rw [if_pos hk, if_pos ⟨by omega, hk.2⟩]
    · rw [if_neg hk, if_neg (fun e => hk ⟨by omega, e.2⟩)]
theorem relO_miss {s : St} {k : Nat} (h : ¬ (s.os.z k).k = 0) : relO s k = relO s (k + 1) := by
  unfold relO
  congr 2
  funext a
  unfold relOd
  by_cases hk : a < k ∧ (s.os.z a).k = 0
  · rw [if_pos hk, if_pos ⟨by omega, hk.2⟩]
  · rw [if_neg hk, if_neg (fun e => hk ⟨by
      have : ¬ a = k := fun e2 => h (by rw [← e2]; exact e.2)
      omega, e.2⟩)]
theorem relOd_line (k i : Nat) (o : Od) (j : Nat) : ((relOd k i o).ls.z j).o = (o.ls.z j).o ∧ ((relOd k i o).ls.z j).l = (o.ls.z j).l ∧ ((relOd k i o).ls.z j).b = (o.ls.z j).b := by
  unfold relOd
  split
  · show ((if j < o.ls.n then lackH (o.ls.z j) else o.ls.z j).o = _) ∧ ((if j < o.ls.n then lackH (o.ls.z j) else o.ls.z j).l = _) ∧ ((if j < o.ls.n then lackH (o.ls.z j) else o.ls.z j).b = _)
    split <;> exact ⟨rfl, rfl, rfl⟩
  · exact ⟨rfl, rfl, rfl⟩
theorem relOd_same {o o' : Od} (k i : Nat) (h : o'.k = o.k ∧ o'.ls.n = o.ls.n ∧ ∀ j, j < o'.ls.n → o'.ls.z j = o.ls.z j) : (relOd k i o').k = (relOd k i o).k ∧ (relOd k i o').ls.n = (relOd k i o).ls.n ∧ ∀ j, j < (relOd k i o').ls.n → (relOd k i o').ls.z j = (relOd k i o).ls.z j := by
  unfold relOd
  by_cases c : i < k ∧ o.k = 0
  · rw [if_pos c, if_pos ⟨c.1, h.1.trans c.2⟩]
    refine ⟨rfl, h.2.1, fun j hj => ?_⟩
    show (if j < o'.ls.n then lackH (o'.ls.z j) else o'.ls.z j) = if j < o.ls.n then lackH (o.ls.z j) else o.ls.z j
    have hj' : j < o'.ls.n := hj
    rw [if_pos hj', if_pos (by omega), h.2.2 j hj']
  · rw [if_neg c, if_neg (fun e => c ⟨e.1, h.1.symm.trans e.2⟩)]
    exact h
theorem relO_same {x s : St} (h : SameT x s) (k : Nat) : SameT (relO x k) (relO s k) :=
  ⟨h.on, ⟨h.os.1, fun i hi => relOd_same k i (h.os.2 i hi)⟩, h.hs, h.ms, h.si, h.so, h.sf⟩
theorem rel_line {p : Pl} {s : St} (r : RightT p s) {k i j : Nat} (hi : i < s.os.n) (hj : j < (s.os.z i).ls.n) (c : i < k ∧ (s.os.z i).k = 0) : (relOd k i (s.os.z i)).k = 1 ∧ ((s.os.z i).ls.z j).b = 0 ∧ ((s.os.z i).ls.z j).n = 0 ∧ keptS s.hs.z i j s.hs.n = 0 ∧ ((relOd k i (s.os.z i)).ls.z j).n = ((s.os.z i).ls.z j).l := by
  have w := r.orders i hi
  unfold wrongOrder at w
  rw [Bool.or_eq_false_iff] at w
  have wl : wrongL (s.os.z i).k ((s.os.z i).ls.z j) (keptS s.hs.z i j s.hs.n) = false := anyB_false w.2 j hj
  unfold wrongL at wl
  rw [if_pos c.2] at wl
  simp only [Bool.or_eq_false_iff, Bool.not_eq_false', beq_iff_eq] at wl
  unfold relOd
  rw [if_pos c]
  refine ⟨rfl, wl.1.1, wl.1.2, wl.2, ?_⟩
  show (if j < (s.os.z i).ls.n then lackH ((s.os.z i).ls.z j) else (s.os.z i).ls.z j).n = _
  rw [if_pos hj]
  show ((s.os.z i).ls.z j).l - ((s.os.z i).ls.z j).b = _
  omega
theorem rel_formed {p : Pl} {s : St} (r : RightT p s) (k : Nat) : Formed p (relO s k) := by
  have f := r.fm
  refine ⟨f.sh, f.sh0, f.os4, f.ms8, fun i hi => ?_, fun i hi => ?_, fun i hi j hj => ?_, f.hold, fun i hi => ?_, f.move, f.sin, f.son, f.sfn, f.sib, f.sob, f.sfb⟩
  · show 1 ≤ (relOd k i (s.os.z i)).ls.n ∧ (relOd k i (s.os.z i)).ls.n ≤ 3
    rw [relOd_n]
    exact f.lns i hi
  · show 0 ≤ (relOd k i (s.os.z i)).k ∧ (relOd k i (s.os.z i)).k ≤ 2
    unfold relOd
    split
    · exact ⟨(by decide : (0 : Int) ≤ 1), (by decide : (1 : Int) ≤ 2)⟩
    · exact f.kind i hi
  · show badLine p ((relOd k i (s.os.z i)).ls.z j) = false
    have hj' : j < (s.os.z i).ls.n := by rw [← relOd_n k i]; exact hj
    by_cases c : i < k ∧ (s.os.z i).k = 0
    · have e := rel_line r hi hj' c
      have g := relOd_line k i (s.os.z i) j
      obtain ⟨b1, b2, b3, b4⟩ := badLine_no (f.line i hi j hj')
      unfold badLine
      rw [inB_mk (by omega), inB_mk (by omega), inB_mk (by omega), inB_mk (by omega)]
      rfl
    · unfold relOd
      rw [if_neg c]
      exact f.line i hi j hj'
  · have h := homeless_no (f.home i hi)
    refine homeless_mk h.1 ⟨h.2.1.1, ?_⟩ h.2.2
    show _ < (relOd k _ (s.os.z _)).ls.n
    rw [relOd_n]
    exact h.2.1.2
theorem rel_avail (s : St) (k b g : Nat) : availZ (relO s k) b g = availZ s b g := by
  unfold availZ
  rw [heldTo_eq (x := relO s k) (s := s) (fun j _ => rfl) (fun j _ => (relOd_line k _ _ _).1)]
  rw [fromTo_eq (x := relO s k) (s := s) (fun j _ => rfl)]
  rfl
theorem rel_right {p : Pl} {s : St} (r : RightT p s) (k : Nat) : RightT p (relO s k) := by
  refine ⟨rel_formed r k, fun g hg => ?_, fun i hi => ?_⟩
  · obtain ⟨a1, a2⟩ := goods_no (r.goods g hg)
    exact goods_mk a1 fun b hb => by rw [rel_avail]; exact a2 b hb
  · have hi' : i < s.os.n := hi
    by_cases c : i < k ∧ (s.os.z i).k = 0
    · have l1 := (r.fm.lns i hi').1
      have e0 := rel_line r hi' (j := 0) (by omega) c
      unfold wrongOrder
      rw [Bool.or_eq_false_iff]
      constructor
      · have : anyB ((relO s k).os.z i).ls.n (fun j => lacksL (((relO s k).os.z i).ls.z j)) = true := by
          refine anyB_yes (k := 0) ?_ ?_
          · show 0 < (relOd k i (s.os.z i)).ls.n
            rw [relOd_n]
            omega
          · show lacksL ((relOd k i (s.os.z i)).ls.z 0) = true
            have g := relOd_line k i (s.os.z i) 0
            obtain ⟨b1, b2, b3, b4⟩ := badLine_no (r.fm.line i hi' 0 (by omega))
            unfold lacksL
            rw [Bool.not_eq_true', beq_eq_false_iff_ne]
            omega
        rw [this]
        simp
      · refine anyB_no fun j hj => ?_
        have hj' : j < (s.os.z i).ls.n := by rw [← relOd_n k i]; exact hj
        have e := rel_line r hi' hj' c
        have g := relOd_line k i (s.os.z i) j
        show wrongL (relOd k i (s.os.z i)).k ((relOd k i (s.os.z i)).ls.z j) (keptS s.hs.z i j s.hs.n) = false
        unfold wrongL
        rw [e.1, if_neg (by decide), if_neg (by decide), Bool.not_eq_false', beq_iff_eq]
        omega
    · have e : (relO s k).os.z i = s.os.z i := if_neg c
      have w := r.orders i hi'
      unfold wrongOrder at w ⊢
      rw [e]
      exact w
def relQ (s : St) (a b : Nat) : Int := if ((relO s s.os.n).os.z a).k = 1 then (((relO s s.os.n).os.z a).ls.z b).n else 0
def relM (s : St) (a : Nat) : Nat := (s.os.z a).ls.n
def Released (p : Pl) (s x : St) : Prop := TkAll p (-1) (relQ s) (relM s) (relO s s.os.n) s.os.n x
def RelOK (p : Pl) (s x : St) : Prop := (stateE p s = 0 → Released p s x) ∧ (¬ stateE p s = 0 → NoneS x)
theorem rel_qin {p : Pl} {s : St} (r : RightT p s) : QIn p (-1) (relQ s) (relO s s.os.n) := by
  have rr := rel_right r s.os.n
  refine ⟨rr, fun a b ha hb => ?_, Or.inl rfl⟩
  unfold relQ
  have q := right_line rr ha hb
  by_cases h : ((relO s s.os.n).os.z a).k = 1
  · rw [if_pos h]
    exact ⟨q.1, Or.inr ⟨h, Int.le_refl _⟩⟩
  · rw [if_neg h]
    exact ⟨Int.le_refl _, Or.inl rfl⟩
theorem relM_eq (s : St) (a : Nat) : relM s a = ((relO s s.os.n).os.z a).ls.n := (relOd_n _ _ _).symm
theorem Released.pos {p : Pl} {s x : St} (r : RightT p s) (h : Released p s x) : Pos p (-1) (relQ s) (relO s s.os.n) s.os.n 0 x := TkAll.pos (rel_qin r) (fun a _ => relM_eq s a) (Nat.le_refl _) h
theorem Released.same {p : Pl} {s x y : St} (r : RightT p s) (h : Released p s x) (k : Released p s y) : SameT x y := TkAll.same (rel_qin r) (fun a _ => relM_eq s a) (Nat.le_refl _) k h
theorem RelOK.same {p : Pl} {s x y : St} (a : RelOK p s x) (b : RelOK p s y) : SameT x y := by
  by_cases h : stateE p s = 0
  · exact (a.1 h).same (rightT h) (b.1 h)
  · exact none_same2 (a.2 h) (b.2 h)
def relT (p : Pl) (s : St) : St := allT p (-1) (relQ s) (relM s) s.os.n (relO s s.os.n)
theorem relT_rel {p : Pl} {s : St} (r : RightT p s) : Released p s (relT p s) := allT_all (rel_qin r) (fun a _ => relM_eq s a) (Nat.le_refl _)
theorem RelOK.act {p : Pl} {s x : St} (h : RelOK p s x) : ActOK (stateE p s) (relT p s) x := ⟨fun e => (h.1 e).same (rightT e) (relT_rel (rightT e)), h.2⟩
theorem RightT.bound {p : Pl} {s : St} (r : RightT p s) : s.os.n ≤ 1000 ∧ s.ms.n ≤ 1000 ∧ ∀ i, i < s.os.n → (s.os.z i).ls.n ≤ 1000 :=
  ⟨Nat.le_trans r.fm.os4 (by decide), Nat.le_trans r.fm.ms8 (by decide), fun i hi => Nat.le_trans (r.fm.lns i hi).2 (by decide)⟩
theorem relT_right {p : Pl} {s : St} (r : RightT p s) : RightT p (relT p s) := ((relT_rel r).pos r).al.r
theorem relT_bound {p : Pl} {s : St} (r : RightT p s) : (relT p s).os.n ≤ 1000 ∧ (relT p s).ms.n ≤ 1000 ∧ ∀ i, i < (relT p s).os.n → ((relT p s).os.z i).ls.n ≤ 1000 := (relT_right r).bound
end Go.Proofs.YtbcacebifpagpadGreat
namespace Go.Proofs.YtbcacebifpagpadGreat
open Go.RowKit Go.Shelf Go.Sort
set_option linter.unusedVariables false
def listH (h : Hs) : List Hd := (List.range h.n).map h.z
theorem listH_len (h : Hs) : (listH h).length = h.n := by simp [listH]
theorem listH_at {h : Hs} {j : Nat} (hj : j < h.n) : (listH h).getD j hd0 = h.z j := by
  unfold listH
  simp [List.getD, hj]
def dropH (h : Hs) (bad : Hd → Bool) : Hs := ⟨h.a, ((listH h).filter (fun x => !bad x)).length, h.c, fun j => ((listH h).filter (fun x => !bad x)).getD j hd0⟩
theorem dropH_le (h : Hs) (bad : Hd → Bool) : (dropH h bad).n ≤ h.n := by
  have := List.length_filter_le (fun x => !bad x) (listH h)
  rw [listH_len] at this
  exact this
theorem dropH_same {h k : Hs} (hn : h.n = k.n) (hz : ∀ j, j < h.n → h.z j = k.z j) (bad : Hd → Bool) : (dropH h bad).n = (dropH k bad).n ∧ (dropH h bad).z = (dropH k bad).z := by
  have e : listH h = listH k := by
    unfold listH
    rw [← hn]
    exact List.map_congr_left fun j hj => hz j (List.mem_range.1 hj)
  unfold dropH
  rw [e]
  exact ⟨rfl, rfl⟩
theorem OwnI.keepG {A g n : Nat} {w w' : World} {r : Rw} {f : Nat → Value} (h : OwnI A w r) (hg : Blk w g 55 n f) (K : KeepG g w w') : OwnI A w' r := by
  obtain ⟨q, ha, h0, h1, h2, hb⟩ := h
  exact ⟨q, ha, h0, h1, h2, K.blk hb (Blk.ne2 hb hg (by decide))⟩
theorem OwnH.keepG {A g n : Nat} {t : TypeId} {w w' : World} {s : Hs} {f : Nat → Value} (h : OwnH A t w s) (hg : Blk w g 55 n f) (hne : t ≠ 55) (K : KeepG g w w') : OwnH A t w' s := by
  obtain ⟨h1, h2, h3, h4⟩ := h
  refine ⟨h1, h2, h3, fun hn => ?_⟩
  obtain ⟨q, ha, hA, hb⟩ := h4 hn
  exact ⟨q, ha, hA, K.blk hb (Blk.ne2 hb hg hne)⟩
theorem Room.keepG {A g n : Nat} {t : TypeId} {w w' : World} {sz c : Nat} {a : Option Addr} {f : Nat → Value} (h : Room A w t sz a c) (hg : Blk w g 55 n f) (hne : t ≠ 55) (K : KeepG g w w') : Room A w' t sz a c := by
  refine h.same fun q cur hq => K.2 q (Array.getElem?_eq_some_iff.1 hq).1 fun e => ?_
  obtain ⟨c2, h1, _⟩ := hg
  rw [e, h1] at hq
  cases hq
  exact hne rfl
theorem OwnO.keepG {A g n : Nat} {w w' : World} {s : Os} {f : Nat → Value} (h : OwnO A w s) (hg : Blk w g 55 n f) (K : KeepG g w w') : OwnO A w' s := by
  refine ⟨h.le, h.cap, fun hn => ?_, fun i hi => ?_, h.apart, h.room.keepG hg (by decide) K⟩
  · obtain ⟨q, a1, a2, a3⟩ := h.list hn
    exact ⟨q, a1, a2, K.blk a3 (Blk.ne2 a3 hg (by decide))⟩
  · obtain ⟨C, a1, a2, a3, a4, a5⟩ := h.lines i hi
    exact ⟨C, a1, a2, a3, a4, K.blk a5 (Blk.ne2 a5 hg (by decide))⟩
theorem OwnS.keepG {A g n : Nat} {w w' : World} {s : St} {h : Hs} {f : Nat → Value} (k : OwnS A w s) (hg : Blk w g 55 n f) (K : KeepG g w w') (hh : OwnH A 55 w' h) : OwnS A w' (Go.Proofs.YtbcacebifpagpadGreat.withHolds s h) := by
  refine ⟨?_, fun i hi => (k.rows i hi).keepG hg K, k.rapart, k.os.keepG hg K, hh, k.ms.keepG hg (by decide) K, k.msr.keepG hg (by decide) K, k.si.keepG hg K, k.so.keepG hg K, k.sf.keepG hg K, k.aio, k.aif, k.aof, k.ari⟩
  obtain ⟨q, a0, a1, a2, a3, a4⟩ := k.on
  exact ⟨q, a0, a1, a2, a3, K.blk a4 (Blk.ne2 a4 hg (by decide))⟩
set_option maxRecDepth 100000 in
set_option maxHeartbeats 1000000 in
theorem DelH_nil (f : Nat) (caps : Array Value) (bad : Hd → Bool) (a : Option Addr) (cap : Nat) (w : World) (hcap : cap ≤ maxLen)
    (eg : ∀ args w, (callFunc f args).run Tryz.prog w = .ok (.enter f args) w)
    (hf : Hid (∀ (x : Hd) w1, Below w.heap.size w w1 → Calls Tryz.prog f (#[x.val] ++ caps) w1 fun e w' => e = .returned (.bool (bad x)) ∧ Below w1.heap.size w1 w')) :
    Calls Tryz.prog 19 #[.slice a (0 : Nat) cap, .func (.func f) #[] caps] w fun e w' => e = .returned (.slice a (0 : Nat) cap) ∧ Below w.heap.size w w' := by
  have hcap0 := hcap
  unfold maxLen at hcap
  go_enter Tryz.func19, Tryz.ntmps19
  go_wp2_with fail
  refine (idxH2 f caps bad w.heap.size a 0 cap w (Nat.le_refl _) (Nat.zero_le _) hcap0 (fun _ => hd0) (fun i hi => absurd hi (Nat.not_lt_zero _)) eg hf).mono ?_
  rintro e w1 ⟨h, hB1⟩
  rcases h with ⟨rfl, -⟩ | ⟨k0, hk0, -⟩
  · go_wp2_with fail
    go_ret
    exact ⟨rfl, hB1⟩
  · exact absurd hk0 (Nat.not_lt_zero _)
theorem DelS_any (f : Nat) (caps : Array Value) (bad : Hd → Bool) (A : Nat) (s : St) (w : World) (hA2 : A ≤ w.heap.size) (hO : OwnS A w s)
    (eg : ∀ args w, (callFunc f args).run Tryz.prog w = .ok (.enter f args) w)
    (hf : ∀ (x : Hd) w1, Below A w w1 → Calls Tryz.prog f (#[x.val] ++ caps) w1 fun e w' => e = .returned (.bool (bad x)) ∧ Below w1.heap.size w1 w') :
    Calls Tryz.prog 19 #[.slice s.hs.a s.hs.n s.hs.c, .func (.func f) #[] caps] w fun e w' => e = .returned (.slice (dropH s.hs bad).a (dropH s.hs bad).n (dropH s.hs bad).c) ∧ OwnS A w' (withHolds s (dropH s.hs bad)) ∧ Below A w w' ∧ (∀ q t m g, t ≠ 55 → Blk w q t m g → Blk w' q t m g) := by
  obtain ⟨h1, h2, h3, h4⟩ := hO.hs
  by_cases hn : s.hs.n = 0
  · have hd : (dropH s.hs bad).n = 0 := by have := dropH_le s.hs bad; omega
    rw [hn, hd]
    refine (DelH_nil f caps bad s.hs.a s.hs.c w h2 eg (fun x w1 hB => hf x w1 (hB.mono hA2))).mono ?_
    rintro e w1 ⟨rfl, hB⟩
    refine ⟨rfl, (hO.below hB).withHolds ⟨by rw [hd]; exact Nat.zero_le _, h2, h3, fun h => absurd h (by omega)⟩, hB.mono hA2, fun q t m g _ hb => hb.below hB⟩
  · obtain ⟨g, ha, hA, hb⟩ := h4 (by omega)
    have hb2 : Blk w g 55 ((listH s.hs).length * 4) (hc fun j => (listH s.hs).getD j hd0) := by
      rw [listH_len]
      refine hb.congr fun q hq => ?_
      rw [hc_flat hq]
      unfold hc
      dsimp only
      rw [listH_at (by omega)]
    have hD := DelH_any f caps bad A g s.hs.c (listH s.hs) w hA hA2 (by rw [listH_len]; exact h1) h2 hb2 eg hf
    rw [listH_len] at hD
    rw [ha]
    refine hD.mono ?_
    rintro e w1 ⟨rfl, hb3, hB, hK⟩
    have hl := dropH_le s.hs bad
    refine ⟨by show _ = Ending.returned (.slice s.hs.a _ _); rw [ha]; rfl, hO.keepG hb2 hK ⟨Nat.le_trans hl h1, h2, h3, fun _ => ⟨g, ha, hA, hb3.congr fun q hq => (hc_flat (z := (dropH s.hs bad).z) hq).symm⟩⟩, hB, fun q t m f' hne hbq => hK.blk hbq (Blk.ne2 hbq hb2 hne)⟩
end Go.Proofs.YtbcacebifpagpadGreat
namespace Go.Proofs.YtbcacebifpagpadGreat
open Go.RowKit Go.Shelf Go.Sort
set_option linter.unusedVariables false
set_option maxRecDepth 100000 in
set_option maxHeartbeats 2000000 in
theorem allocCheck1_any (B1 B2 B3 : Nat) (s : St) (order line : Int) (w : World) (hs : s.os.At w) (h1 : B1 < w.heap.size) (h2 : B2 < w.heap.size) (h3 : B3 < w.heap.size) (c1 : w.cell? ⟨B1, 1, none⟩ = some (.slice s.os.a s.os.n s.os.c)) (c2 : w.cell? ⟨B2, 0, none⟩ = some (.int .i64 order)) (c3 : w.cell? ⟨B3, 0, none⟩ = some (.int .i64 line)) :
    Calls Tryz.prog 91 #[.pointer (some ⟨B1, 0, none⟩), .pointer (some ⟨B2, 0, none⟩), .pointer (some ⟨B3, 0, none⟩)] w fun e w' => e = .returned (.bool (missL s order line)) ∧ Below w.heap.size w w' := by
  have ole := hs.le
  have ocap0 := hs.cap
  have ocap := ocap0
  unfold maxLen at ocap
  have hon : s.os.n ≤ maxLen := Nat.le_trans ole ocap0
  have r1 : ∀ d os, (grow (redrawn w d) os).cell? ⟨B1, 1, none⟩ = some (.slice s.os.a s.os.n s.os.c) := fun d os => cell_regrown c1 d os
  have r2 : ∀ d os, (grow (redrawn w d) os).cell? ⟨B2, 0, none⟩ = some (.int .i64 order) := fun d os => cell_regrown c2 d os
  have r3 : ∀ d os, (grow (redrawn w d) os).cell? ⟨B3, 0, none⟩ = some (.int .i64 line) := fun d os => cell_regrown c3 d os
  clear c1 c2 c3
  cases k1 : inB order 0 ((s.os.n : Int) - 1)
  · have HM : Hid (missL s order line = true) := by show missL s order line = true; unfold missL; rw [k1]; rfl
    clear hs
    go_enter Tryz.func91, Tryz.ntmps91
    go_wp2_with fail
    refine wp_region_quiet_below (by kernel_rfl) (by kernel_rfl) ?_
    repeat (go_big_quiet_step ((go_at_call 18; exact Calls.regrown_of ((Has_any _ _ _ (by assumption)).mono (fun _ _ h => ⟨h.1, h.2 ▸ Below.refl _ _⟩)))))
    refine wpQuiet_nil ?_
    intro _ hw'
    obtain ⟨⟨dq, osq⟩, hw''⟩ := hw'
    subst hw''
    go_wp2_with fail
    go_ret
    exact ⟨by rw [HM.out]; rfl, below_regrown _ _ _⟩
  · obtain ⟨m, rfl⟩ := Int.eq_ofNat_of_zero_le (inB_true k1).1
    have hm : m < s.os.n := by have := (inB_true k1).2; omega
    obtain ⟨b, o, hoa, hb, z0, z1, hl⟩ := hs.ods m hm
    have HM : Hid (missL s (m : Int) line = !(inB line 0 (((s.os.z m).ls.n : Int) - 1))) := by show missL s (m : Int) line = _; unfold missL; rw [k1]; rfl
    have lcap := hl.cap
    have lle := hl.le
    have hln : (s.os.z m).ls.n ≤ maxLen := Nat.le_trans lle lcap
    have r5 : ∀ d os, (grow (redrawn w d) os).cell? ⟨b, o + m * 2 + 1, none⟩ = some (.slice (s.os.z m).ls.a (s.os.z m).ls.n (s.os.z m).ls.c) := fun d os => cell_regrown z1 d os
    have m1 : (0 : Int) ≤ (m : Int) := by omega
    have m2 : (m : Int) < (s.os.n : Int) := by omega
    rw [hoa] at r1
    unfold maxLen at lcap
    clear z0 z1 hl hs hoa
    generalize (s.os.z m).ls.n = LN at *
    generalize (s.os.z m).ls.c = LC at *
    generalize (s.os.z m).ls.a = LA at *
    cases k2 : inB line 0 ((LN : Int) - 1)
    all_goals
      go_enter Tryz.func91, Tryz.ntmps91
      go_wp2_with fail
      refine wp_region_quiet_below (by kernel_rfl) (by kernel_rfl) ?_
      repeat (go_big_quiet_step ((go_at_call 18; exact Calls.regrown_of ((Has_any _ _ _ (by assumption)).mono (fun _ _ h => ⟨h.1, h.2 ▸ Below.refl _ _⟩)))))
      refine wpQuiet_nil ?_
      intro _ hw'
      obtain ⟨⟨dq, osq⟩, hw''⟩ := hw'
      subst hw''
      go_wp2_with fail
      go_ret
      exact ⟨by rw [HM.out, k2]; simp, below_regrown _ _ _⟩
set_option maxRecDepth 100000 in
set_option maxHeartbeats 4000000 in
theorem allocCheck_any (p : Pl) (s : St) (order line n but : Int) (w : World) (hp : p.At w) (hs : s.At w) :
    Calls Tryz.prog 49 #[p.val, s.val, .int .i64 order, .int .i64 line, .int .i64 n, .int .i64 but] w fun e w' => e = .returned (.int .i64 (allocE p s order line n but)) ∧ Below w.heap.size w w' := by
  obtain ⟨W0, hW, hWB, X0, K2, K3⟩ : ∃ W, ((((w.alloc (.cells #[.slice p.ab p.nb p.cb, .slice p.sa p.ns p.cs] 25)).alloc (.cells s.cells 31)).alloc (.cells #[.int .i64 order] 3)).alloc (.cells #[.int .i64 line] 3)) = W ∧ Below w.heap.size w W ∧ Boxes W w.heap.size (w.heap.size + 1) p s ∧ Blk W (w.heap.size + 2) 3 1 (fun _ => .int .i64 order) ∧ Blk W (w.heap.size + 3) 3 1 (fun _ => .int .i64 line) :=
    ⟨_, rfl, ((two_below _ _ _).alloc (by simp; omega) _).alloc (by simp; omega) _, ((boxes_new w p s _ _).below ((Below.refl _ _).alloc (Nat.le_refl _) _)).below ((Below.refl _ _).alloc (Nat.le_refl _) _), ((Blk.mk' (cur := #[.int .i64 order]) (by simp) rfl).congr (fun j hj => by match j, hj with | 0, _ => rfl)).alloc _, (Blk.mk' (cur := #[.int .i64 line]) (by simp) rfl).congr (fun j hj => by match j, hj with | 0, _ => rfl)⟩
  have HC : Hid (∀ wk, Below W0.heap.size W0 wk → Boxes wk w.heap.size (w.heap.size + 1) p s ∧ p.At wk ∧ s.At wk ∧ Below w.heap.size w wk ∧ Blk wk (w.heap.size + 2) 3 1 (fun _ => .int .i64 order) ∧ Blk wk (w.heap.size + 3) 3 1 (fun _ => .int .i64 line)) := fun wk h => ⟨X0.below h, (hp.below hWB).below h, (hs.below hWB).below h, hWB.trans (h.mono hWB.size), K2.below h, K3.below h⟩
  have HW : Hid ((((w.alloc (.cells #[.slice p.ab p.nb p.cb, .slice p.sa p.ns p.cs] 25)).alloc (.cells #[.slice s.on.a s.on.n s.on.c, .slice s.os.a s.os.n s.os.c, .slice s.hs.a s.hs.n s.hs.c, .slice s.ms.a s.ms.n s.ms.c, .slice s.si.a s.si.n s.si.c, .slice s.so.a s.so.n s.so.c, .slice s.sf.a s.sf.n s.sf.c] 31)).alloc (.cells #[.int .i64 order] 3)).alloc (.cells #[.int .i64 line] 3) = W0) := hW
  have leb := hp.leb
  have capb0 := hp.capb
  have capb := capb0
  unfold maxLen at capb
  have hnb : p.nb ≤ maxLen := Nat.le_trans leb capb0
  clear hW X0 K2 K3 hp hs
  unfold Pl.val St.val
  go_enter Tryz.func49, Tryz.ntmps49
  go_wp2_with fail
  rw [HW.out]
  obtain ⟨X, hpk, hsk, hBw, -, -⟩ := HC.out W0 (Below.refl _ _)
  refine (stateCheck_any p s W0 hpk hsk).mono ?_
  rintro e w1 ⟨rfl, hB⟩
  clear X hpk hsk hBw HW
  obtain ⟨⟨⟨l1, d0, d1⟩, l2, c0, c1, c2, c3, c4, c5, c6⟩, hpk, hsk, hBw, k2, k3⟩ := HC.out w1 hB
  have HBW : Hid (Below w.heap.size w w1) := hBw
  clear hBw
  by_cases h0 : stateE p s = 0
  · have H0 : Hid (stateE p s = 0) := h0
    have HF : Hid (Formed p s) := (rightT h0).fm
    rw [h0]
    clear h0
    have HCL : Hid (Calls Tryz.prog 91 #[.pointer (some ⟨w.heap.size + 1, 0, none⟩), .pointer (some ⟨w.heap.size + 1 + 1, 0, none⟩), .pointer (some ⟨w.heap.size + 1 + 1 + 1, 0, none⟩)] w1 fun e w' => e = .returned (.bool (missL s order line)) ∧ Below w1.heap.size w1 w') := allocCheck1_any (w.heap.size + 1) (w.heap.size + 2) (w.heap.size + 3) s order line w1 hsk.os l2 k2.lt k3.lt c1 (k2.cell (j := 0) (by decide)) (k3.cell (j := 0) (by decide))
    have eg := enters_of Tryz.func91 (by kernel_rfl) rfl
    clear hpk hsk k2 k3 c0 c1 c2 c3 c4 c5 c6 d1
    go_wp2_with fail
    refine HCL.out.mono ?_
    rintro e w2 ⟨rfl, hB2⟩
    have hB3 := hB.trans (hB2.mono hB.size)
    clear l1 d0 l2 hB2 HCL HBW hB eg
    obtain ⟨⟨⟨l1, d0, d1⟩, l2, c0, c1, c2, c3, c4, c5, c6⟩, hpk, hsk, hBw, k2, k3⟩ := HC.out w2 hB3
    have HBW : Hid (Below w.heap.size w w2) := hBw
    clear hBw
    have HR : Hid (∀ a b c d, missL s order line = a → inB n 0 200 = b → (but != -1) = c → inB but 0 ((p.nb : Int) - 1) = d → allocR p s order line n but = (a || !b || (c && !d))) := fun a b c d e1 e2 e3 e4 => by unfold allocR; rw [e1, e2, e3, e4]
    cases m1 : missL s order line
    · have hml := m1
      cases m2 : inB n 0 200
      · have HX : Hid (allocE p s order line n but = 3) := allocE_range H0.out (by rw [HR.out _ _ _ _ m1 m2 rfl rfl]; rfl)
        clear hpk hsk k2 k3 c0 c1 c2 c3 c4 c5 c6 m1 hml
        go_wp2_with (go_at_call 32; refine calls_to (Within_any _ _ _ _) ?_)
        go_ret
        exact ⟨by rw [HX.out]; rfl, HBW.out⟩
      · cases m3 : (but != -1)
        · have HA : Hid (allocR p s order line n but = false) := by show allocR p s order line n but = false; rw [HR.out _ _ _ _ m1 m2 m3 rfl]; rfl
          have hbx := m3
          obtain ⟨a, b, -, -⟩ := allocR_no HA.out
          obtain ⟨o, rfl⟩ := Int.eq_ofNat_of_zero_le a.1
          obtain ⟨l, rfl⟩ := Int.eq_ofNat_of_zero_le b.1
          have ho : o < s.os.n := a.2
          have hl : l < (s.os.z o).ls.n := b.2
          obtain ⟨bo, oo, hoa, hbo, z0, z1, hlk⟩ := hsk.os.ods o ho
          obtain ⟨bl, ol, hla, hbl, y0, y1, y2, y3⟩ := hlk.hds l hl
          have u0 := k2.cell (j := 0) (by decide)
          have u1 := k3.cell (j := 0) (by decide)
          have u2 := k2.lt
          have u3 := k3.lt
          have q0 : (0 : Int) ≤ (o : Int) := by omega
          have q1 : (o : Int) < (s.os.n : Int) := by omega
          have q2 : (0 : Int) ≤ (l : Int) := by omega
          have q3 : (l : Int) < ((s.os.z o).ls.n : Int) := by omega
          have v1 := hsk.os.le
          have v2 := hsk.os.cap
          have v3 := hlk.le
          have v4 := hlk.cap
          unfold maxLen at v2 v4
          have HT6 : Hid (¬ (s.os.z o).k = 1 → allocE p s o l n but = 6) := fun h => allocE_done H0.out HA.out h
          have HT3 : Hid ((s.os.z o).k = 1 → ((s.os.z o).ls.z l).n < n → allocE p s o l n but = 3) := fun h h' => allocE_back H0.out HA.out h h'
          have HT0 : Hid ((s.os.z o).k = 1 → ¬ ((s.os.z o).ls.z l).n < n → allocE p s o l n but = 0) := fun h h' => allocE_ok H0.out HA.out h h'
          rw [hoa] at c1
          rw [hla] at z1
          clear hpk hsk k2 k3 c0 c2 c3 c4 c5 c6 m1 hoa hla hlk y0 y1 y2 a b HR
          generalize (s.os.z o).k = KD at *
          generalize ((s.os.z o).ls.z l).n = LB at *
          generalize (s.os.z o).ls.n = LN at *
          generalize (s.os.z o).ls.c = LC at *
          by_cases g1 : KD = 1
          · have g2 : (KD != 1) = false := by rw [g1]; rfl
            have t1 : ∀ d os, (grow (redrawn w2 d) os).cell? ⟨w.heap.size + 1, 1, none⟩ = some (.slice (some ⟨bo, oo, none⟩) s.os.n s.os.c) := fun d os => cell_regrown c1 d os
            have t2 : ∀ d os, (grow (redrawn w2 d) os).cell? ⟨w.heap.size + 2, 0, none⟩ = some (.int .i64 (o : Int)) := fun d os => cell_regrown u0 d os
            have t3 : ∀ d os, (grow (redrawn w2 d) os).cell? ⟨w.heap.size + 3, 0, none⟩ = some (.int .i64 (l : Int)) := fun d os => cell_regrown u1 d os
            have t4 : ∀ d os, (grow (redrawn w2 d) os).cell? ⟨bo, oo + o * 2 + 1, none⟩ = some (.slice (some ⟨bl, ol, none⟩) LN LC) := fun d os => cell_regrown z1 d os
            have t5 : ∀ d os, (grow (redrawn w2 d) os).cell? ⟨bl, ol + l * 4 + 3, none⟩ = some (.int .i64 LB) := fun d os => cell_regrown y3 d os
            have HTA : Hid (LB < n → allocE p s o l n but = 3) := HT3.out g1
            have HTB : Hid (¬ LB < n → allocE p s o l n but = 0) := HT0.out g1
            clear HT6 HT3 HT0 g1
            cases g3 : decide (LB < n)
            · have HX : Hid (allocE p s o l n but = 0) := HTB.out (of_decide_eq_false g3)
              have g4 : ¬ LB < n := of_decide_eq_false g3
              clear HTA HTB
              go_wp2_with (first | (go_at_call 32; refine calls_to (Within_any _ _ _ _) ?_) | (go_at_call 18; refine calls_to (Has_any _ _ _ hnb) ?_))
              refine wp_region_quiet_below (by kernel_rfl) (by kernel_rfl) ?_
              repeat (go_big_quiet_step (fail))
              refine wpQuiet_nil ?_
              intro _ hw'
              obtain ⟨⟨dq, osq⟩, hw''⟩ := hw'
              subst hw''
              go_wp2_with fail
              go_ret
              exact ⟨by rw [HX.out]; rfl, HBW.out.trans ((below_regrown _ _ _).mono HBW.out.size)⟩
            · have HX : Hid (allocE p s o l n but = 3) := HTA.out (of_decide_eq_true g3)
              have g4 : LB < n := of_decide_eq_true g3
              clear HTA HTB
              go_wp2_with (first | (go_at_call 32; refine calls_to (Within_any _ _ _ _) ?_) | (go_at_call 18; refine calls_to (Has_any _ _ _ hnb) ?_))
              refine wp_region_quiet_below (by kernel_rfl) (by kernel_rfl) ?_
              repeat (go_big_quiet_step (fail))
              refine wpQuiet_nil ?_
              intro _ hw'
              obtain ⟨⟨dq, osq⟩, hw''⟩ := hw'
              subst hw''
              go_wp2_with fail
              go_ret
              exact ⟨by rw [HX.out]; rfl, HBW.out.trans ((below_regrown _ _ _).mono HBW.out.size)⟩
          · have HX : Hid (allocE p s o l n but = 6) := HT6.out g1
            have g2 : (KD != 1) = true := by simpa using g1
            clear HT6 HT3 HT0 g1
            go_wp2_with (first | (go_at_call 32; refine calls_to (Within_any _ _ _ _) ?_) | (go_at_call 18; refine calls_to (Has_any _ _ _ hnb) ?_))
            go_ret
            exact ⟨by rw [HX.out]; rfl, HBW.out⟩
        · cases m4 : inB but 0 ((p.nb : Int) - 1)
          · have HX : Hid (allocE p s order line n but = 3) := allocE_range H0.out (by rw [HR.out _ _ _ _ m1 m2 m3 m4]; rfl)
            clear hpk hsk k2 k3 c0 c1 c2 c3 c4 c5 c6 m1 hml
            go_wp2_with (first | (go_at_call 32; refine calls_to (Within_any _ _ _ _) ?_) | (go_at_call 18; refine calls_to (Has_any _ _ _ hnb) ?_))
            go_ret
            exact ⟨by rw [HX.out]; rfl, HBW.out⟩
          · have HA : Hid (allocR p s order line n but = false) := by show allocR p s order line n but = false; rw [HR.out _ _ _ _ m1 m2 m3 m4]; rfl
            obtain ⟨a, b, -, -⟩ := allocR_no HA.out
            obtain ⟨o, rfl⟩ := Int.eq_ofNat_of_zero_le a.1
            obtain ⟨l, rfl⟩ := Int.eq_ofNat_of_zero_le b.1
            have ho : o < s.os.n := a.2
            have hl : l < (s.os.z o).ls.n := b.2
            obtain ⟨bo, oo, hoa, hbo, z0, z1, hlk⟩ := hsk.os.ods o ho
            obtain ⟨bl, ol, hla, hbl, y0, y1, y2, y3⟩ := hlk.hds l hl
            have u0 := k2.cell (j := 0) (by decide)
            have u1 := k3.cell (j := 0) (by decide)
            have u2 := k2.lt
            have u3 := k3.lt
            have q0 : (0 : Int) ≤ (o : Int) := by omega
            have q1 : (o : Int) < (s.os.n : Int) := by omega
            have q2 : (0 : Int) ≤ (l : Int) := by omega
            have q3 : (l : Int) < ((s.os.z o).ls.n : Int) := by omega
            have v1 := hsk.os.le
            have v2 := hsk.os.cap
            have v3 := hlk.le
            have v4 := hlk.cap
            unfold maxLen at v2 v4
            have HT6 : Hid (¬ (s.os.z o).k = 1 → allocE p s o l n but = 6) := fun h => allocE_done H0.out HA.out h
            have HT3 : Hid ((s.os.z o).k = 1 → ((s.os.z o).ls.z l).n < n → allocE p s o l n but = 3) := fun h h' => allocE_back H0.out HA.out h h'
            have HT0 : Hid ((s.os.z o).k = 1 → ¬ ((s.os.z o).ls.z l).n < n → allocE p s o l n but = 0) := fun h h' => allocE_ok H0.out HA.out h h'
            rw [hoa] at c1
            rw [hla] at z1
            clear hpk hsk k2 k3 c0 c2 c3 c4 c5 c6 m1 hoa hla hlk y0 y1 y2 a b HR
            generalize (s.os.z o).k = KD at *
            generalize ((s.os.z o).ls.z l).n = LB at *
            generalize (s.os.z o).ls.n = LN at *
            generalize (s.os.z o).ls.c = LC at *
            by_cases g1 : KD = 1
            · have g2 : (KD != 1) = false := by rw [g1]; rfl
              have t1 : ∀ d os, (grow (redrawn w2 d) os).cell? ⟨w.heap.size + 1, 1, none⟩ = some (.slice (some ⟨bo, oo, none⟩) s.os.n s.os.c) := fun d os => cell_regrown c1 d os
              have t2 : ∀ d os, (grow (redrawn w2 d) os).cell? ⟨w.heap.size + 2, 0, none⟩ = some (.int .i64 (o : Int)) := fun d os => cell_regrown u0 d os
              have t3 : ∀ d os, (grow (redrawn w2 d) os).cell? ⟨w.heap.size + 3, 0, none⟩ = some (.int .i64 (l : Int)) := fun d os => cell_regrown u1 d os
              have t4 : ∀ d os, (grow (redrawn w2 d) os).cell? ⟨bo, oo + o * 2 + 1, none⟩ = some (.slice (some ⟨bl, ol, none⟩) LN LC) := fun d os => cell_regrown z1 d os
              have t5 : ∀ d os, (grow (redrawn w2 d) os).cell? ⟨bl, ol + l * 4 + 3, none⟩ = some (.int .i64 LB) := fun d os => cell_regrown y3 d os
              have HTA : Hid (LB < n → allocE p s o l n but = 3) := HT3.out g1
              have HTB : Hid (¬ LB < n → allocE p s o l n but = 0) := HT0.out g1
              clear HT6 HT3 HT0 g1
              cases g3 : decide (LB < n)
              · have HX : Hid (allocE p s o l n but = 0) := HTB.out (of_decide_eq_false g3)
                have g4 : ¬ LB < n := of_decide_eq_false g3
                clear HTA HTB
                go_wp2_with (first | (go_at_call 32; refine calls_to (Within_any _ _ _ _) ?_) | (go_at_call 18; refine calls_to (Has_any _ _ _ hnb) ?_))
                refine wp_region_quiet_below (by kernel_rfl) (by kernel_rfl) ?_
                repeat (go_big_quiet_step (fail))
                refine wpQuiet_nil ?_
                intro _ hw'
                obtain ⟨⟨dq, osq⟩, hw''⟩ := hw'
                subst hw''
                go_wp2_with fail
                go_ret
                exact ⟨by rw [HX.out]; rfl, HBW.out.trans ((below_regrown _ _ _).mono HBW.out.size)⟩
              · have HX : Hid (allocE p s o l n but = 3) := HTA.out (of_decide_eq_true g3)
                have g4 : LB < n := of_decide_eq_true g3
                clear HTA HTB
                go_wp2_with (first | (go_at_call 32; refine calls_to (Within_any _ _ _ _) ?_) | (go_at_call 18; refine calls_to (Has_any _ _ _ hnb) ?_))
                refine wp_region_quiet_below (by kernel_rfl) (by kernel_rfl) ?_
                repeat (go_big_quiet_step (fail))
                refine wpQuiet_nil ?_
                intro _ hw'
                obtain ⟨⟨dq, osq⟩, hw''⟩ := hw'
                subst hw''
                go_wp2_with fail
                go_ret
                exact ⟨by rw [HX.out]; rfl, HBW.out.trans ((below_regrown _ _ _).mono HBW.out.size)⟩
            · have HX : Hid (allocE p s o l n but = 6) := HT6.out g1
              have g2 : (KD != 1) = true := by simpa using g1
              clear HT6 HT3 HT0 g1
              go_wp2_with (first | (go_at_call 32; refine calls_to (Within_any _ _ _ _) ?_) | (go_at_call 18; refine calls_to (Has_any _ _ _ hnb) ?_))
              go_ret
              exact ⟨by rw [HX.out]; rfl, HBW.out⟩
    · have HX : Hid (allocE p s order line n but = 3) := allocE_range H0.out (by rw [HR.out _ _ _ _ m1 rfl rfl rfl]; rfl)
      clear hpk hsk k2 k3 c0 c1 c2 c3 c4 c5 c6 m1
      go_wp2_with fail
      go_ret
      exact ⟨by rw [HX.out]; rfl, HBW.out⟩
  · have HX : Hid (allocE p s order line n but = stateE p s) := allocE_state h0
    clear hpk hsk k2 k3 c0 c1 c2 c3 c4 c5 c6
    go_wp2_with fail
    go_ret
    exact ⟨by rw [HX.out]; rfl, HBW.out⟩
end Go.Proofs.YtbcacebifpagpadGreat
namespace Go.Proofs.YtbcacebifpagpadGreat
open Go.RowKit Go.Shelf
set_option linter.unusedVariables false
attribute [local go_sem] Oper.semAt_some
theorem frL_prefix (p : Pl) (f : Bool) {k m : Nat} (h : k ≤ m) : frL p f k <+: frL p f m := by
  induction m with
  | zero => rw [show k = 0 by omega]; exact List.prefix_refl _
  | succ m ih =>
    by_cases hk : k = m + 1
    · rw [hk]; exact List.prefix_refl _
    · refine (ih (by omega)).trans ?_
      by_cases hf : (p.zb m).front = f
      · rw [frL_hit hf]; exact List.prefix_append _ _
      · rw [frL_miss hf]; exact List.prefix_refl _
def keepsB (n₀ Bf : Nat) (A B : World) : Prop := Below n₀ A B ∧ (∀ v, A.cell? ⟨Bf, 0, none⟩ = some v → B.cell? ⟨Bf, 0, none⟩ = some v)
set_option maxRecDepth 100000 in
set_option maxHeartbeats 2000000 in
theorem binsOf1_in (F : Fence) (n : Nat) (h6 : F.fn 113) (hro : F.round = none) (hn : 1 ≤ n) (l Bp Bf n₀ : Nat) (p : Pl) (f : Bool) (J Jx : List Int → World → Prop)
    (hY : ∀ pre x W, J pre W → pre.length < p.nb → YieldAt F (n - 1) Tryz.prog l #[.int .i64 x] W fun e W' =>
      (e = .returned (.bool true) ∧ J (pre ++ [x]) W' ∧ keepsB n₀ Bf W W') ∨ (e = .returned (.bool false) ∧ Jx (pre ++ [x]) W'))
    (W : World) (hJ : AbidesFrom W.heap.size J) (hn₀ : n₀ ≤ W.heap.size) (hBp : W.cell? ⟨Bp, 0, none⟩ = some (.slice p.ab p.nb p.cb)) (hBf : W.cell? ⟨Bf, 0, none⟩ = some (.bool f)) (hle : p.nb ≤ p.cb) (hcap : p.cb ≤ maxLen)
    (hL : ∀ W', Below n₀ W W' → BinsAt W' p.ab p.nb p.zb) (h0 : J [] W) :
    CallsIn F n Tryz.prog 113 #[.func (.yield l) #[] #[], .pointer (some ⟨Bp, 0, none⟩), .pointer (some ⟨Bf, 0, none⟩)] W fun e W' => (∃ v, e = .returned v) ∧
      ((∃ ys, ys = frL p f p.nb ∧ J ys W') ∨ (∃ pre, pre <+: frL p f p.nb ∧ Jx pre W')) := by
  unfold maxLen at hcap
  have hS : Hid (∀ wr, Below n₀ W wr → W.heap.size ≤ wr.heap.size) := fun wr h => h.size
  have HJA : Hid (∀ pre A o, J pre A → J pre (A.alloc o)) := fun pre A o h => hJ pre A (A.alloc o) none h (World.grownBy_alloc A o none) (fun r e => by cases e)
  refine callsIn_of_wp Tryz.func113 rfl h6 ?_ hro
  simp only [Tryz.ntmps113, List.size_toArray, List.length_cons, List.length_nil, Nat.reduceAdd, Nat.reduceSub, Array.replicate_succ, Array.replicate_zero, List.push_toArray, List.append_toArray, List.nil_append, List.cons_append]
  gi_wp2
  gi_loopw [9] (fun i wr => ∃ k : Nat, k ≤ p.nb ∧ i = .int .i64 k ∧ J (frL p f k) wr ∧ Below n₀ W wr ∧ wr.cell? ⟨Bf, 0, none⟩ = some (.bool f)) (fun i _ => p.nb - (intOf i).toNat)
  case atStart => exact ⟨0, Nat.zero_le _, rfl, h0, Below.refl _ _, hBf⟩
  case round =>
    obtain ⟨k, hk, rfl, hJs, hB, hcf⟩ := hrel
    by_cases hlt : k < p.nb
    · obtain ⟨b, o, hab, hb, z0, z1, z2, z3⟩ := hL _ hB k hlt
      have m1 : (0 : Int) ≤ (k : Int) := by omega
      have hltf : Bf < wr.heap.size := World.block_lt_of_cell? wr _ hcf
      have hfl := frL_len p f k
      rw [hab]
      clear hab
      by_cases hf : (p.zb k).front = f
      · rw [hf] at z0
        have hJa := HJA.out _ wr (.cells #[.bool f, .int .i64 (p.zb k).room, .int .i64 (p.zb k).low, .int .i64 (p.zb k).high] 94) hJs
        obtain ⟨fn, tmps, assign, body, hy, hR⟩ := hY (frL p f k) k _ hJa (by omega)
        gi_wp2
        refine hR.mono ?_
        rintro e W3 (⟨rfl, hJ3, hk3⟩ | ⟨rfl, hJx3⟩)
        · have hB3 : Below n₀ W W3 := (hB.alloc (Nat.le_trans hn₀ (hS.out wr hB)) _).trans hk3.1
          have hc3 : W3.cell? ⟨Bf, 0, none⟩ = some (.bool f) := hk3.2 _ ((((Below.refl wr.heap.size wr).alloc (Nat.le_refl _) _).cell (p := ⟨Bf, 0, none⟩) hltf).trans hcf)
          rw [← frL_hit hf] at hJ3
          clear hk3 hR
          gi_wp2
          go_roundw
          case rel => exact ⟨k + 1, by omega, by go_num, hJ3, hB3, hc3⟩
          case measure => simp [intOf]; omega
        · rw [← frL_hit hf] at hJx3
          gi_wp2
          refine bodyPost_ret (results_none rfl _ _ _) rfl ?_
          exact ⟨⟨_, rfl⟩, .inr ⟨frL p f (k + 1), frL_prefix p f (by omega), hJx3⟩⟩
      · have hJa := HJA.out _ wr (.cells #[.bool (p.zb k).front, .int .i64 (p.zb k).room, .int .i64 (p.zb k).low, .int .i64 (p.zb k).high] 94) hJs
        rw [← frL_miss hf] at hJa
        have hBa := hB.alloc (Nat.le_trans hn₀ (hS.out wr hB)) (.cells #[.bool (p.zb k).front, .int .i64 (p.zb k).room, .int .i64 (p.zb k).low, .int .i64 (p.zb k).high] 94)
        have hca := (((Below.refl wr.heap.size wr).alloc (Nat.le_refl _) (.cells #[.bool (p.zb k).front, .int .i64 (p.zb k).room, .int .i64 (p.zb k).low, .int .i64 (p.zb k).high] 94)).cell (p := ⟨Bf, 0, none⟩) hltf).trans hcf
        have HA : Hid (J (frL p f (k + 1)) (wr.alloc (.cells #[.bool (p.zb k).front, .int .i64 (p.zb k).room, .int .i64 (p.zb k).low, .int .i64 (p.zb k).high] 94)) ∧ Below n₀ W (wr.alloc (.cells #[.bool (p.zb k).front, .int .i64 (p.zb k).room, .int .i64 (p.zb k).low, .int .i64 (p.zb k).high] 94)) ∧ (wr.alloc (.cells #[.bool (p.zb k).front, .int .i64 (p.zb k).room, .int .i64 (p.zb k).low, .int .i64 (p.zb k).high] 94)).cell? ⟨Bf, 0, none⟩ = some (.bool f)) := ⟨hJa, hBa, hca⟩
        clear hJa hBa hca
        gi_wp2
        refine ⟨fun _ h => (by cases h), ?_⟩
        gi_wp2
        go_roundw
        case rel => exact ⟨k + 1, by omega, by go_num, HA.out.1, HA.out.2.1, HA.out.2.2⟩
        case measure => simp [intOf]; omega
    · gi_wp2
      go_end0
      have hkn : k = p.nb := by omega
      subst hkn
      exact ⟨⟨_, rfl⟩, .inl ⟨_, rfl, hJs⟩⟩
end Go.Proofs.YtbcacebifpagpadGreat
namespace Go.Proofs.YtbcacebifpagpadGreat
open Go.RowKit Go.Shelf
set_option linter.unusedVariables false
attribute [local go_sem] Oper.semAt_some
theorem keepsB_t {n₀ Bf : Nat} {A B C : World} (h : keepsB n₀ Bf A B) (k : keepsB n₀ Bf B C) : keepsB n₀ Bf A C := ⟨h.1.trans k.1, fun v hv => k.2 v (h.2 v hv)⟩
theorem keepsB_b {n₀ Bf : Nat} {w : World} (hn : n₀ ≤ w.heap.size) (hb : Bf < w.heap.size) (W : World) (l : Nat) (o o' : Obj) (hl : w.heap.size ≤ l) (h : W.heap[l]? = some o) (h1 : o.isCells = false) (h2 : o.isWalk = false) : keepsB n₀ Bf W (W.putObj l o') :=
  ⟨belowK_b hn W l o o' hl h h1 h2, fun v hv => ((belowK_b (Nat.le_refl _) W l o o' hl h h1 h2).cell (p := ⟨Bf, 0, none⟩) hb).trans hv⟩
set_option maxRecDepth 100000 in
set_option maxHeartbeats 1000000 in
theorem binsOf_in (F : Fence) (n : Nat) (h5 : F.fn 92) (hro : F.round = none) (p : Pl) (f : Bool) (w : World) :
    CallsIn F n Tryz.prog 92 #[p.val, .bool f] w fun e w' => e = .returned (.func (.func 113) #[] #[.pointer (some ⟨w.heap.size, 0, none⟩), .pointer (some ⟨w.heap.size + 1, 0, none⟩)]) ∧ w' = (w.alloc (.cells #[.slice p.ab p.nb p.cb, .slice p.sa p.ns p.cs] 25)).alloc (.cells #[.bool f] 4) := by
  unfold Pl.val
  refine callsIn_of_wp Tryz.func92 rfl h5 ?_ hro
  simp only [Tryz.ntmps92, List.size_toArray, List.length_cons, List.length_nil, Nat.reduceAdd, Nat.reduceSub, Array.replicate_succ, Array.replicate_zero, List.push_toArray, List.append_toArray, List.nil_append, List.cons_append]
  gi_wp2
  go_ret
  exact ⟨rfl, rfl⟩
theorem binsOf_stops (F : Fence) (n : Nat) (h6 : F.fn 113) (hro : F.round = none) (hn : 1 ≤ n) (Bp Bf n₀ : Nat) (p : Pl) (f : Bool) (w : World) (hBp : Bp < w.heap.size) (hBf : Bf < w.heap.size) (hn₀ : n₀ ≤ w.heap.size)
    (hcp : w.cell? ⟨Bp, 0, none⟩ = some (.slice p.ab p.nb p.cb)) (hcf : w.cell? ⟨Bf, 0, none⟩ = some (.bool f)) (hle : p.nb ≤ p.cb) (hcap : p.cb ≤ maxLen) (hL : ∀ W', Below n₀ w W' → BinsAt W' p.ab p.nb p.zb) :
    SeqStopsK F n Tryz.prog 113 #[.pointer (some ⟨Bp, 0, none⟩), .pointer (some ⟨Bf, 0, none⟩)] (fun x : Int => #[Value.int .i64 x]) (keepsB n₀ Bf) (fun ys => ys = frL p f p.nb) (fun pre => pre <+: frL p f p.nb) p.nb w := fun l J Jx W hW hJ _ hY h0 =>
  binsOf1_in F n h6 hro hn l Bp Bf n₀ p f J Jx hY W hJ (Nat.le_trans hn₀ hW.size) ((hW.cell (p := ⟨Bp, 0, none⟩) hBp).trans hcp) ((hW.cell (p := ⟨Bf, 0, none⟩) hBf).trans hcf) hle hcap (fun W' h => hL W' ((hW.mono hn₀).trans h)) h0
end Go.Proofs.YtbcacebifpagpadGreat
namespace Go.Proofs.YtbcacebifpagpadGreat
open Go.RowKit Go.Shelf
set_option linter.unusedVariables false
attribute [local go_sem] Oper.semAt_some
set_option maxRecDepth 100000 in
set_option maxHeartbeats 2000000 in
theorem WayOwn_any (p : Pl) (w : World) (hp : p.At w) :
    Calls Tryz.prog 50 #[p.val] w fun e w' => ∃ v, e = .returned (.tuple #[v, .int .i64 (planE p)]) ∧ w'.ownsRow w.heap.size 3 1 v (wayR p).length ((wayR p).map (Value.int .i64)) ∧ Below w.heap.size w w' := by
  have leb := hp.leb
  have capb0 := hp.capb
  have capb := capb0
  unfold maxLen at capb
  have hB0 : Below w.heap.size w (w.alloc (.cells #[.slice p.ab p.nb p.cb, .slice p.sa p.ns p.cs] 25)) := (Below.refl w.heap.size w).alloc (Nat.le_refl _) _
  obtain ⟨i1, hj, hy0, hy1, hy2⟩ := info_parts infoInt
  refine (callsIn_wide (n := 5)).1 ?_
  refine callsIn_of_wp_marks Tryz.func50 rfl trivial ?_ rfl
  simp only [Pl.val, Tryz.ntmps50, List.size_toArray, List.length_cons, List.length_nil, Nat.reduceAdd, Nat.reduceSub, Array.replicate_succ, Array.replicate_zero, List.push_toArray, List.append_toArray, List.nil_append, List.cons_append]
  by_cases h0 : planE p = 0
  · have HC : Calls Tryz.prog 69 #[p.val] (w.alloc (.cells #[.slice p.ab p.nb p.cb, .slice p.sa p.ns p.cs] 25)) fun e w' => e = .returned (.int .i64 0) ∧ Below (w.heap.size + 1) (w.alloc (.cells #[.slice p.ab p.nb p.cb, .slice p.sa p.ns p.cs] 25)) w' := by
      have := planCheck_any p _ (hp.below hB0)
      rw [h0, World.size_alloc] at this
      exact this
    have R := rightP h0
    have hnb := R.nb6
    have H0 : Hid (planE p = 0) := h0
    clear h0 R
    gi_wp2_with (first
      | (refine ⟨trivial, ?_⟩; gi_at_call 69; refine (callsIn_wide.2 HC).mono ?_; rintro e w1 ⟨rfl, hB⟩; have hsz := hB.size; have c0 : w1.cell? ⟨w.heap.size, 0, none⟩ = some (.slice p.ab p.nb p.cb) := (hB.cell (p := ⟨w.heap.size, 0, none⟩) (by simp)).trans (by simp); rw [World.size_alloc] at hsz)
      | (gi_at_make; refine wpListIn_make_own _ rfl _ _ 23 rfl (w.heap.size + 1) 3 i1 (.int .i64 0) 1 Tryz.underlying23 hj hy0 hy1 .i64 .i64 _ p.nb rfl rfl rfl (by rw [hy2]; omega) (by unfold maxLen; omega) (by omega) ?_; intro w2 hown2 hgrow2; have hB2 : Below (w.heap.size + 1) (w.alloc (.cells #[.slice p.ab p.nb p.cb, .slice p.sa p.ns p.cs] 25)) w2 := hB.grown hgrow2 (by omega) (by intro k hk; cases hk); have hsz2 := hB2.size; rw [World.size_alloc] at hsz2; have c0 : w2.cell? ⟨w.heap.size, 0, none⟩ = some (.slice p.ab p.nb p.cb) := (hB2.cell (p := ⟨w.heap.size, 0, none⟩) (by simp)).trans (by simp); have c1 : w2.cell? ⟨w.heap.size, 1, none⟩ = some (.slice p.sa p.ns p.cs) := (hB2.cell (p := ⟨w.heap.size, 1, none⟩) (by simp)).trans (by simp); have hlt2 : w.heap.size < w2.heap.size := by omega)
      | (refine ⟨trivial, ?_⟩; gi_at_call 92; refine (binsOf_in Fence.wide _ trivial rfl p true _).mono ?_; rintro e w' ⟨rfl, rfl⟩))
    obtain ⟨W3, hW3, s3, bO, hrow0, bF, cP, hB3⟩ : ∃ W3, ((w2.alloc (.cells #[(.slice (some ⟨w1.heap.size, 0, none⟩) 0 p.nb)] 23)).alloc (.cells #[.slice p.ab p.nb p.cb, .slice p.sa p.ns p.cs] 25)).alloc (.cells #[.bool true] 4) = W3 ∧ W3.heap.size = w2.heap.size + 3 ∧ _root_.Go.Boxed W3 w2.heap.size 23 (.slice (some ⟨w1.heap.size, 0, none⟩) 0 p.nb) ∧ W3.ownsRow (w.heap.size + 1) 3 1 (.slice (some ⟨w1.heap.size, 0, none⟩) 0 p.nb) 0 [] ∧ _root_.Go.Boxed W3 (w2.heap.size + 1 + 1) 4 (.bool true) ∧ W3.cell? ⟨w2.heap.size + 1, 0, none⟩ = some (.slice p.ab p.nb p.cb) ∧ Below (w.heap.size + 1) (w.alloc (.cells #[.slice p.ab p.nb p.cb, .slice p.sa p.ns p.cs] 25)) W3 := by
      refine ⟨_, rfl, by simp, ((_root_.Go.Boxed.new w2 23 _).alloc _).alloc _, ((hown2.alloc _).alloc _).alloc _, ?_, ?_, ((hB2.alloc hsz2 _).alloc (by simp; omega) _).alloc (by simp; omega) _⟩
      · have := _root_.Go.Boxed.new ((w2.alloc (.cells #[(.slice (some ⟨w1.heap.size, 0, none⟩) 0 p.nb)] 23)).alloc (.cells #[.slice p.ab p.nb p.cb, .slice p.sa p.ns p.cs] 25)) 4 (.bool true)
        rwa [World.size_alloc, World.size_alloc] at this
      · have := ((Blk.new (w2.alloc (.cells #[(.slice (some ⟨w1.heap.size, 0, none⟩) 0 p.nb)] 23)) #[.slice p.ab p.nb p.cb, .slice p.sa p.ns p.cs] 25).alloc (.cells #[.bool true] 4)).cell (j := 0) (by simp)
        rwa [World.size_alloc] at this
    have HP : Hid (∀ W', Below (w.heap.size + 1) (w.alloc (.cells #[.slice p.ab p.nb p.cb, .slice p.sa p.ns p.cs] 25)) W' → BinsAt W' p.ab p.nb p.zb) := fun W' h => (hp.bins.below hB0).below (by rw [World.size_alloc]; exact h)
    rw [hW3]
    clear hB c0 c1 hown2 hgrow2 hW3
    refine wpIn_rangeFunc_ownG rfl (by decide) (gf := 113) (lb := #[.pointer (some ⟨w2.heap.size + 1, 0, none⟩), .pointer (some ⟨w2.heap.size + 1 + 1, 0, none⟩)]) rfl trivial (enters_of Tryz.func113 (by kernel_rfl) rfl)
      (binsOf_stops Fence.wide _ trivial rfl (by decide) (w2.heap.size + 1) (w2.heap.size + 1 + 1) (w.heap.size + 1) p true W3 (by omega) (by omega) (by omega) cP bF.cell leb capb0 (fun W' h => HP.out W' (hB3.trans h))) keepsB_t (keepsB_b (by omega) (by omega)) (Below.refl _ _) (fun _ => rfl)
      (fun pre W => (∃ v, _root_.Go.Boxed W w2.heap.size 23 v ∧ W.ownsRow (w.heap.size + 1) 3 1 v pre.length (pre.map (Value.int .i64)) ∧ True) ∧ _root_.Go.Boxed W (w2.heap.size + 1 + 1) 4 (.bool true) ∧ Below (w.heap.size + 1) (w.alloc (.cells #[.slice p.ab p.nb p.cb, .slice p.sa p.ns p.cs] 25)) W)
      (fun _ _ _ => False)
      (OwnFrom.and (Own.from (holdsRow_own (w.heap.size + 1) w2.heap.size 23 3 1 (fun pre : List Int => pre.length) (fun pre => pre.map (Value.int .i64)) (fun _ _ => True)) _) (OwnFrom.and (Own.from (boxed_own _ _ _) _) (ownFrom_below (by simp) (by omega))))
      (fun _ _ _ _ _ hs _ _ => hs)
      ⟨⟨_, bO, hrow0, trivial⟩, bF, hB3⟩
      (fun x => { tmps := #[.agg #[.slice p.ab p.nb p.cb, .slice p.sa p.ns p.cs], .pointer (some ⟨w.heap.size, 0, none⟩), .slice none 0 0, .int .i64 0, .int .i64 0, .pointer (some ⟨w2.heap.size, 0, none⟩), .int .i64 x, undef, .agg #[.slice p.ab p.nb p.cb, .slice p.sa p.ns p.cs], .int .i64 0, .int .i64 0, .bool false, undef, .pointer (some ⟨w.heap.size, 0, none⟩), .slice p.ab p.nb p.cb, .int .i64 p.nb, (.slice (some ⟨w1.heap.size, 0, none⟩) 0 p.nb), .agg #[.slice p.ab p.nb p.cb, .slice p.sa p.ns p.cs], .func (.func 113) #[] #[.pointer (some ⟨w2.heap.size + 1, 0, none⟩), .pointer (some ⟨w2.heap.size + 1 + 1, 0, none⟩)], .int .i64 x, undef, undef, undef, undef, undef, undef, undef, undef, undef, undef, undef, undef], defers := [] }) ?assign ?body ?done ?stop
    case assign =>
      intro l x W K hK
      gi_wp2
      exact hK
    case body =>
      rintro l pre x W ⟨⟨v, hv, hrow, -⟩, hbf, hBB⟩ hlt
      have hc := hv.cell
      gi_wp2_with (gi_at_builtin; refine wpListIn_append_own _ rfl _ _ 23 rfl (w.heap.size + 1) 3 i1 (.int .i64 0) 1 8 Tryz.underlying23 hj hy0 hy1 hy2 rfl (by decide) _ _ _ rfl (hrow.alloc _) ⟨W.heap.size, 0, none⟩ 1 1 [.int .i64 x] rfl rfl (cell_one_new _ _ _) (by simp [Value.oneCell']) (by unfold maxLen; omega) (by omega) (by have := hBB.size; simp at this ⊢; omega) ?_; intro v' w5 hown' hgrow _; obtain ⟨g', cap', rfl⟩ := ownsRow_succ hown'; obtain ⟨hv1, hv2, hr2, hk2, hb2⟩ := hv.appended (by decide) hrow (by have := hBB.size; simpa using this) hsz2 hown' hgrow; have hc1 := hv1.cell; have hf1 := hv1.frozen; have hF5 := (hbf.alloc _).kept hgrow (hbf.not_row (by decide) hrow))
      refine ⟨hk2.from _, ⟨hb2, fun u hu => ?_⟩, ⟨_, hv2, by simpa using hr2, trivial⟩, hF5.other (by omega) _, hBB.trans hb2⟩
      rw [hbf.cell] at hu
      cases hu
      exact (hF5.other (by omega) _).cell
    case done =>
      rintro D ys W4 hD rfl ⟨⟨v, hv, hrow, -⟩, -, hBB⟩ hK
      have c0 : W4.cell? ⟨w.heap.size, 0, none⟩ = some (.slice p.ab p.nb p.cb) := (hBB.cell (p := ⟨w.heap.size, 0, none⟩) (by simp)).trans (by simp)
      have c1 : W4.cell? ⟨w.heap.size, 1, none⟩ = some (.slice p.sa p.ns p.cs) := (hBB.cell (p := ⟨w.heap.size, 1, none⟩) (by simp)).trans (by simp)
      have hsz4 : w.heap.size < W4.heap.size := by have := hBB.size; simp at this; omega
      gi_wp2_with (refine ⟨trivial, ?_⟩; gi_at_call 92; refine (binsOf_in Fence.wide _ trivial rfl p false _).mono ?_; rintro e w' ⟨rfl, rfl⟩)
      have hsB := hv.lt
      obtain ⟨W5, hW5, s5, bO, hrow5, bF, cP, hB5, hK5⟩ : ∃ W5, (W4.alloc (.cells #[.slice p.ab p.nb p.cb, .slice p.sa p.ns p.cs] 25)).alloc (.cells #[.bool false] 4) = W5 ∧ W5.heap.size = W4.heap.size + 2 ∧ _root_.Go.Boxed W5 w2.heap.size 23 v ∧ W5.ownsRow (w.heap.size + 1) 3 1 v (frL p true p.nb).length ((frL p true p.nb).map (Value.int .i64)) ∧ _root_.Go.Boxed W5 (W4.heap.size + 1) 4 (.bool false) ∧ W5.cell? ⟨W4.heap.size, 0, none⟩ = some (.slice p.ab p.nb p.cb) ∧ Below (w.heap.size + 1) (w.alloc (.cells #[.slice p.ab p.nb p.cb, .slice p.sa p.ns p.cs] 25)) W5 ∧ W5.heap[D]? = some (.deferred (some [])) := by
        refine ⟨_, rfl, by simp, (hv.alloc _).alloc _, (hrow.alloc _).alloc _, ?_, ?_, (hBB.alloc (by omega) _).alloc (by simp; omega) _, ?_⟩
        · have := _root_.Go.Boxed.new (W4.alloc (.cells #[.slice p.ab p.nb p.cb, .slice p.sa p.ns p.cs] 25)) 4 (.bool false)
          rwa [World.size_alloc] at this
        · exact ((Blk.new W4 #[.slice p.ab p.nb p.cb, .slice p.sa p.ns p.cs] 25).alloc (.cells #[.bool false] 4)).cell (j := 0) (by simp)
        · have hD4 := (Array.getElem?_eq_some_iff.1 hK).1
          exact ((((Below.refl W4.heap.size W4).alloc (Nat.le_refl _) _).alloc (by simp) _).block D hD4).trans hK
      have hD4 := (Array.getElem?_eq_some_iff.1 hK).1
      have hfl := frL_two p p.nb
      rw [hW5]
      clear hv hrow hBB hK c0 c1 hW5 hB3
      refine wpIn_rangeFunc_ownG rfl (by decide) (gf := 113) (lb := #[.pointer (some ⟨W4.heap.size, 0, none⟩), .pointer (some ⟨W4.heap.size + 1, 0, none⟩)]) rfl trivial (enters_of Tryz.func113 (by kernel_rfl) rfl)
        (binsOf_stops Fence.wide _ trivial rfl (by decide) W4.heap.size (W4.heap.size + 1) (w.heap.size + 1) p false W5 (by omega) (by omega) (by omega) cP bF.cell leb capb0 (fun W' h => HP.out W' (hB5.trans h))) keepsB_t (keepsB_b (by omega) (by omega)) (Below.refl _ _) (fun _ => rfl)
        (fun pre W => (∃ v, _root_.Go.Boxed W w2.heap.size 23 v ∧ W.ownsRow (w.heap.size + 1) 3 1 v (frL p true p.nb ++ pre).length ((frL p true p.nb ++ pre).map (Value.int .i64)) ∧ True) ∧ _root_.Go.Boxed W (W4.heap.size + 1) 4 (.bool false) ∧ Below (w.heap.size + 1) (w.alloc (.cells #[.slice p.ab p.nb p.cb, .slice p.sa p.ns p.cs] 25)) W ∧ W.heap[D]? = some (.deferred (some [])))
        (fun _ _ _ => False)
        (OwnFrom.and (Own.from (holdsRow_own (w.heap.size + 1) w2.heap.size 23 3 1 (fun pre : List Int => (frL p true p.nb ++ pre).length) (fun pre => (frL p true p.nb ++ pre).map (Value.int .i64)) (fun _ _ => True)) _) (OwnFrom.and (Own.from (boxed_own _ _ _) _) (OwnFrom.and (ownFrom_below (by simp) (by omega)) (fun s A B row hs hg hr => (hg.block D (Array.getElem?_eq_some_iff.1 hs).1 (fun e => by have := (hr D e.symm).1; omega)).trans hs))))
        (fun _ _ _ _ _ hs _ _ => hs)
        ⟨⟨_, bO, by simpa using hrow5, trivial⟩, bF, hB5, hK5⟩
        (fun x => { tmps := #[.agg #[.slice p.ab p.nb p.cb, .slice p.sa p.ns p.cs], .pointer (some ⟨w.heap.size, 0, none⟩), .slice none 0 0, .int .i64 0, .int .i64 0, .pointer (some ⟨w2.heap.size, 0, none⟩), undef, .int .i64 x, .agg #[.slice p.ab p.nb p.cb, .slice p.sa p.ns p.cs], .int .i64 0, .int .i64 0, .bool false, undef, .pointer (some ⟨w.heap.size, 0, none⟩), .slice p.ab p.nb p.cb, .int .i64 p.nb, (.slice (some ⟨w1.heap.size, 0, none⟩) 0 p.nb), .agg #[.slice p.ab p.nb p.cb, .slice p.sa p.ns p.cs], .func (.func 113) #[] #[.pointer (some ⟨w2.heap.size + 1, 0, none⟩), .pointer (some ⟨w2.heap.size + 1 + 1, 0, none⟩)], undef, undef, undef, undef, undef, .agg #[.slice p.ab p.nb p.cb, .slice p.sa p.ns p.cs], .func (.func 113) #[] #[.pointer (some ⟨W4.heap.size, 0, none⟩), .pointer (some ⟨W4.heap.size + 1, 0, none⟩)], .int .i64 x, undef, undef, undef, undef, undef], defers := [] }) ?assign2 ?body2 ?done2 ?stop2
      case assign2 =>
        intro l x W K hK
        gi_wp2
        exact hK
      case body2 =>
        rintro l pre x W ⟨⟨v, hv, hrow, -⟩, hbf, hBB, hKD⟩ hlt
        have hc := hv.cell
        have hll : (frL p true p.nb ++ pre).length ≤ 2 * p.nb := by rw [List.length_append]; omega
        gi_wp2_with (gi_at_builtin; refine wpListIn_append_own _ rfl _ _ 23 rfl (w.heap.size + 1) 3 i1 (.int .i64 0) 1 8 Tryz.underlying23 hj hy0 hy1 hy2 rfl (by decide) _ _ _ rfl (hrow.alloc _) ⟨W.heap.size, 0, none⟩ 1 1 [.int .i64 x] rfl rfl (cell_one_new _ _ _) (by simp [Value.oneCell']) (by unfold maxLen; omega) (by omega) (by have := hBB.size; simp at this ⊢; omega) ?_; intro v' w5 hown' hgrow _; obtain ⟨g', cap', rfl⟩ := ownsRow_succ hown'; obtain ⟨hv1, hv2, hr2, hk2, hb2⟩ := hv.appended (by decide) hrow (by have := hBB.size; simpa using this) hsz2 hown' hgrow; have hc1 := hv1.cell; have hf1 := hv1.frozen; have hF5 := (hbf.alloc _).kept hgrow (hbf.not_row (by decide) hrow))
        simp only [List.length_append] at hv2 hr2 hk2 hb2
        refine ⟨hk2.from _, ⟨hb2, fun u hu => ?_⟩, ⟨_, hv2, by simpa [Nat.add_assoc] using hr2, trivial⟩, hF5.other (by omega) _, hBB.trans hb2, hk2.same D _ hKD rfl⟩
        rw [hbf.cell] at hu
        cases hu
        exact (hF5.other (by omega) _).cell
      case done2 =>
        rintro D2 ys W hD2 rfl ⟨⟨v, hv, hrow, -⟩, -, hBB, hK1⟩ hK2
        have hc := hv.cell
        gi_wp2
        refine ⟨by simp, .inl ⟨_, _, rfl, run_takeDeferred hK2, ?_⟩⟩
        have hne : D ≠ D2 := by omega
        have hK1' : (W.putObj D2 (.deferred none)).heap[D]? = some (.deferred (some [])) := ((grownBy_putObj' W D2 (.deferred none)).block D (Array.getElem?_eq_some_iff.1 hK1).1 (fun e => hne (by cases e; rfl))).trans hK1
        refine ⟨by simp, .inl ⟨_, _, rfl, run_takeDeferred hK1', ?_⟩⟩
        have hr2 := ownsRow_putObj (ownsRow_putObj hrow (.deferred none) hK2 rfl) (.deferred none) hK1' rfl
        have hb1 : Below (w.heap.size + 1) (w.alloc (.cells #[.slice p.ab p.nb p.cb, .slice p.sa p.ns p.cs] 25)) (W.putObj D2 (.deferred none)) := hBB.trans (belowK_b (w := W5) (by omega) W D2 _ _ hD2 hK2 rfl rfl)
        have hb2 := hb1.trans (belowK_b (w := W3) (by omega) (W.putObj D2 (.deferred none)) D _ (.deferred none) hD hK1' rfl rfl)
        rw [H0.out, wayR_yes H0.out]
        exact ⟨_, results_tmp2 rfl _ _ _, _, rfl, owns_low hr2 (Nat.le_succ _), hB0.trans (hb2.mono (by omega))⟩
      case stop2 =>
        rintro D c pre W _ _ h _
        exact h.elim
    case stop =>
      rintro D c pre W _ _ h _
      exact h.elim
  · gi_wp2_with (refine ⟨trivial, ?_⟩; gi_at_call 69; refine (callsIn_wide.2 (planCheck_any p _ (hp.below hB0))).mono ?_; rintro e w1 ⟨rfl, hB⟩)
    rw [wayR_no h0]
    exact ⟨_, results_tmp2 rfl _ _ _, _, rfl, World.ownsRow_nil _ _ _ _, hB0.trans (hB.mono (by simp))⟩
end Go.Proofs.YtbcacebifpagpadGreat
namespace Go.Proofs.YtbcacebifpagpadGreat
open Go.RowKit Go.Shelf Go.Sort
set_option linter.unusedVariables false
theorem Take1_any (B : Nat) (x but : Int) (w : World) (hB : B < w.heap.size) (c : w.cell? ⟨B, 0, none⟩ = some (.int .i64 but)) :
    Calls Tryz.prog 52 #[.int .i64 x, .pointer (some ⟨B, 0, none⟩)] w fun e w' => e = .returned (.bool (x == but)) ∧ Below w.heap.size w w' := by
  go_enter Tryz.func52, Tryz.ntmps52
  go_wp2_with fail
  go_ret
  exact ⟨rfl, Below.refl _ _⟩
def TakeInv (s : St) (o l : Nat) (n : Int) (av : Int → Int) (F : List Int) (A BX BL g k : Nat) (wk : World) : Prop :=
  ∃ x : St, Took s o l n (Tk.go av n (F.take k)) x ∧ OwnS A wk x ∧ Blk wk BX 31 7 (fun j => x.cells.getD j default) ∧ Blk wk g 3 F.length (fun j => .int .i64 (F.getD j 0)) ∧ (x.os.z o).ls.a = some ⟨BL, 0, none⟩
theorem take_more {F : List Int} {k : Nat} (hk : k < F.length) : F.take (k + 1) = F.take k ++ [F.getD k 0] := by
  rw [List.take_add_one]
  simp [List.getD, List.getElem?_eq_getElem hk]
theorem getD_mem {F : List Int} {k : Nat} (hk : k < F.length) : F.getD k 0 ∈ F := by
  simp [List.getD, List.getElem?_eq_getElem hk]
theorem avail_okA {p : Pl} {s : St} {b g : Nat} (h : stateE p s = 0) (hb : b < p.nb) (hg : g < p.ns) : availE p s b g = 0 ∧ availV p s b g = availZ s b g := by
  have e : availE p s b g = 0 := by unfold availE; rw [if_pos h, inB_mk (by omega), inB_mk (by omega)]; rfl
  exact ⟨e, by unfold availV; rw [if_pos e]; rfl⟩
theorem avail_bdA {p : Pl} {s : St} {b g : Nat} (r : RightT p s) (hb : b < p.nb) (hg : g < p.ns) : 0 ≤ availZ s b g ∧ availZ s b g ≤ 200 := by
  have f := r.fm
  refine ⟨(goods_no (r.goods g hg)).2 b hb, ?_⟩
  have h1 := f.sh.num b (by rw [f.sh.n]; exact hb) g hg
  have h2 := (heldTo_bd (s := s) (b := b) (g := g) f.holdN).1
  have h3 := (fromTo_bd (s := s) (b := b) (g := g) f.moveN).1
  unfold availZ
  omega
set_option maxRecDepth 100000 in
set_option maxHeartbeats 8000000 in
theorem Take_any (p : Pl) (s : St) (order line n but : Int) (w : World) (hp : p.At w) (hs : s.At w) :
    Calls Tryz.prog 17 #[p.val, s.val, .int .i64 order, .int .i64 line, .int .i64 n, .int .i64 but] w fun e w' => ∃ x : St, e = .returned (.tuple #[x.val, .int .i64 (allocL p s order line n but), .int .i64 (allocE p s order line n but)]) ∧ x.At w' ∧ AllocOK p s order line n but x ∧ (allocE p s order line n but = 0 → OwnS w.heap.size w' x) ∧ Below w.heap.size w w' := by
  obtain ⟨W0, hW, hWB, X0, K0, Z0⟩ : ∃ W, ((((w.alloc (.cells #[.slice p.ab p.nb p.cb, .slice p.sa p.ns p.cs] 25)).alloc (.cells s.cells 31)).alloc (.cells #[.int .i64 but] 3)).alloc (.cells #[.slice .none 0 0, .slice .none 0 0, .slice .none 0 0, .slice .none 0 0, .slice .none 0 0, .slice .none 0 0, .slice .none 0 0] 31)) = W ∧ Below w.heap.size w W ∧ Boxes W w.heap.size (w.heap.size + 1) p s ∧ Blk W (w.heap.size + 2) 3 1 (fun _ => .int .i64 but) ∧ Blk W (w.heap.size + 3) 31 7 (fun _ => .slice .none 0 0) :=
    ⟨_, rfl, ((two_below _ _ _).alloc (by simp; omega) _).alloc (by simp; omega) _, ((boxes_new w p s _ _).below ((Below.refl _ _).alloc (Nat.le_refl _) _)).below ((Below.refl _ _).alloc (Nat.le_refl _) _), ((Blk.mk' (cur := #[.int .i64 but]) (by simp) rfl).congr (fun j hj => by match j, hj with | 0, _ => rfl)).alloc _, (Blk.mk' (cur := #[.slice .none 0 0, .slice .none 0 0, .slice .none 0 0, .slice .none 0 0, .slice .none 0 0, .slice .none 0 0, .slice .none 0 0]) (by simp) rfl).congr (fun j hj => by match j, hj with | 0, _ => rfl | 1, _ => rfl | 2, _ => rfl | 3, _ => rfl | 4, _ => rfl | 5, _ => rfl | 6, _ => rfl)⟩
  have HC : Hid (∀ wk, Below W0.heap.size W0 wk → Boxes wk w.heap.size (w.heap.size + 1) p s ∧ p.At wk ∧ s.At wk ∧ Below w.heap.size w wk ∧ Blk wk (w.heap.size + 3) 31 7 (fun _ => .slice .none 0 0) ∧ Blk wk (w.heap.size + 2) 3 1 (fun _ => .int .i64 but)) := fun wk h => ⟨X0.below h, (hp.below hWB).below h, (hs.below hWB).below h, hWB.trans (h.mono hWB.size), Z0.below h, K0.below h⟩
  have HW : Hid ((((w.alloc (.cells #[.slice p.ab p.nb p.cb, .slice p.sa p.ns p.cs] 25)).alloc (.cells #[.slice s.on.a s.on.n s.on.c, .slice s.os.a s.os.n s.os.c, .slice s.hs.a s.hs.n s.hs.c, .slice s.ms.a s.ms.n s.ms.c, .slice s.si.a s.si.n s.si.c, .slice s.so.a s.so.n s.so.c, .slice s.sf.a s.sf.n s.sf.c] 31)).alloc (.cells #[.int .i64 but] 3)).alloc (.cells #[.slice .none 0 0, .slice .none 0 0, .slice .none 0 0, .slice .none 0 0, .slice .none 0 0, .slice .none 0 0, .slice .none 0 0] 31) = W0) := hW
  have leb := hp.leb
  have capb0 := hp.capb
  have capb := capb0
  have les := hp.les
  have caps := hp.caps
  have zlt0 := Z0.lt
  unfold maxLen at capb caps
  clear hW X0 Z0 K0 hp hs
  unfold Pl.val St.val
  go_enter Tryz.func17, Tryz.ntmps17
  go_wp2_with fail
  rw [HW.out]
  obtain ⟨X, hpk, hsk, hBw, hz, kb⟩ := HC.out W0 (Below.refl _ _)
  refine (allocCheck_any p s order line n but W0 hpk hsk).mono ?_
  rintro e w1 ⟨rfl, hB⟩
  clear X hpk hsk hBw hz kb HW
  obtain ⟨⟨⟨l1, d0, d1⟩, l2, c0, c1, c2, c3, c4, c5, c6⟩, hpk, hsk, hBw, hz, kb⟩ := HC.out w1 hB
  by_cases hE : allocE p s order line n but = 0
  · have HE : Hid (allocE p s order line n but = 0) := hE
    have HI : Hid (AllocIn p s order line n but) := allocIn hE
    rw [hE]
    clear hE
    have HRT : Hid (RightT p s) := rightT HI.out.st
    have HP0 : Hid (planE p = 0) := (rightS HRT.out.fm.sh0).1
    obtain ⟨o, rfl⟩ := Int.eq_ofNat_of_zero_le HI.out.o0
    obtain ⟨l, rfl⟩ := Int.eq_ofNat_of_zero_le HI.out.l0
    have ho : o < s.os.n := HI.out.on
    have hl : l < (s.os.z o).ls.n := HI.out.ln
    have nb1 := HRT.out.fm.sh.pl.nb1
    have nb6 := HRT.out.fm.sh.pl.nb6
    have HPK : Hid (p.At w1) := hpk
    clear hpk hsk c0 c1 c2 c3 c4 c5 c6 hBw hz
    go_wp2_with fail
    refine (WayOwn_any p w1 HPK.out).mono ?_
    rintro e w2 ⟨v, rfl, hown, hB2⟩
    clear l1 d0 d1 l2 HPK
    rw [wayR_yes HP0.out] at hown
    have HWL : Hid ((wayL p).length = p.nb) := way_len p
    have hv : v ≠ .slice none 0 0 := by
      rintro rfl
      rcases hown.2 with ⟨_, h0⟩ | ⟨g2, cap2, cur2, h, _⟩
      · have := HWL.out; omega
      · cases h
    obtain ⟨g, c, rfl, hc1, hc2, hg, hk⟩ := Blk.ofOwns hown hv
    have hk2 : Blk w2 g 3 (wayL p).length (fun j => .int .i64 ((wayL p).getD j 0)) := by
      have h := hk.less (m := (wayL p).length) (by omega)
      refine h.congr fun j hj => ?_
      simp [List.getD, List.getElem?_eq_getElem hj]
    have HDF : Hid (Calls Tryz.prog 51 #[.slice (some ⟨g, 0, none⟩) (wayL p).length c, .func (.func 52) #[] #[.pointer (some ⟨w.heap.size + 1 + 1, 0, none⟩)]] w2 fun e w' => e = .returned (.slice (some ⟨g, 0, none⟩) (wayT p but).length c) ∧ Blk w' g 3 (wayT p but).length (fun j => .int .i64 ((wayT p but).getD j 0)) ∧ Below w1.heap.size w2 w') :=
      DelI_any 52 #[.pointer (some ⟨w.heap.size + 1 + 1, 0, none⟩)] (fun x => x == but) w1.heap.size g c (wayL p) w2 hg hB2.size hc1 hc2 hk2 (enters_of Tryz.func52 (by kernel_rfl) rfl) (fun x wz hz => by
        have hlt := kb.lt
        exact Take1_any (w.heap.size + 1 + 1) x but wz (Nat.lt_of_lt_of_le hlt (Nat.le_trans hB2.size hz.size)) ((hz.cell (p := ⟨w.heap.size + 2, 0, none⟩) hlt).trans ((hB2.cell (p := ⟨w.heap.size + 2, 0, none⟩) hlt).trans (kb.cell (j := 0) (by decide)))))
    rw [HP0.out]
    clear hown hv hk hk2
    go_wp2_with fail
    refine HDF.out.mono ?_
    rintro e w3 ⟨rfl, hk3, hB3⟩
    have hB13 := hB2.trans hB3
    have hB' := hB.trans (hB13.mono hB.size)
    have q13 := hB13.size
    have glt := hk3.lt
    have HK3 : Hid (Blk w3 g 3 (wayT p but).length (fun j => .int .i64 ((wayT p but).getD j 0))) := hk3
    have hF6 : (wayT p but).length ≤ 6 := by
      have := HWL.out
      have := List.length_filter_le (fun b => !(b == but)) (wayL p)
      unfold wayT
      omega
    have hFc : (wayT p but).length ≤ c := by
      have := List.length_filter_le (fun b => !(b == but)) (wayL p)
      unfold wayT
      omega
    clear HDF hk3 kb hB2 hB3 hB13 hB
    obtain ⟨⟨⟨l1, d0, d1⟩, l2, c0, c1, c2, c3, c4, c5, c6⟩, hpk, hsk, hBw, hz, kb⟩ := HC.out w3 hB'
    have HCS : Hid _ := copyState_any p s w3 hsk HRT.out.fm
    clear hpk hsk hBw hz kb
    go_wp2_with fail
    refine Calls.mono HCS.out ?_
    rintro e w4 ⟨x0, rfl, hsame, hown, hB4⟩
    clear HCS l1 d0 d1 l2 c0 c1 c2 c3 c4 c5 c6
    have q4 := hB4.size
    obtain ⟨W5, hW5, hWB5, K5⟩ : ∃ W, w4.alloc (.cells #[.slice x0.on.a x0.on.n x0.on.c, .slice x0.os.a x0.os.n x0.os.c, .slice x0.hs.a x0.hs.n x0.hs.c, .slice x0.ms.a x0.ms.n x0.ms.c, .slice x0.si.a x0.si.n x0.si.c, .slice x0.so.a x0.so.n x0.so.c, .slice x0.sf.a x0.sf.n x0.sf.c] 31) = W ∧ Below w4.heap.size w4 W ∧ Blk W w4.heap.size 31 7 (fun j => x0.cells.getD j default) := ⟨_, rfl, (Below.refl _ _).alloc (Nat.le_refl _) _, Blk.mk' rfl rfl⟩
    have HW5 : Hid (w4.alloc (.cells #[.slice x0.on.a x0.on.n x0.on.c, .slice x0.os.a x0.os.n x0.os.c, .slice x0.hs.a x0.hs.n x0.hs.c, .slice x0.ms.a x0.ms.n x0.ms.c, .slice x0.si.a x0.si.n x0.si.c, .slice x0.so.a x0.so.n x0.so.c, .slice x0.sf.a x0.sf.n x0.sf.c] 31) = W5) := hW5
    have hB35 := hB4.trans (hWB5.mono hB4.size)
    have hB5 := hB'.trans (hB35.mono hB'.size)
    have hown5 := OwnS.below hown hWB5
    have hkF := HK3.out.below hB35
    have ho0 : o < x0.os.n := by rw [hsame.os.1]; exact ho
    have e0 := hsame.os.2 o ho0
    have hl0 : l < (x0.os.z o).ls.n := by rw [e0.2.1]; exact hl
    obtain ⟨gO, BL, f1, f2, f3, f4, f5, f6, f7, f8, f9, f10, f11, f12, f13, f14⟩ := hown5.lineCell ho0 hl0
    have s1 : W5.cell? ⟨w4.heap.size, 1, none⟩ = some (.slice x0.os.a x0.os.n x0.os.c) := K5.cell (j := 1) (by decide)
    have s2 := K5.lt
    have v1 := hown5.os.le
    have v2 := hown5.os.cap
    rw [f1] at s1
    have HINV : Hid (TakeInv s o l n (fun b => availZ s b.toNat (lineAt s o l).o.toNat) (wayT p but) w3.heap.size w4.heap.size BL g 0 W5) := ⟨x0, by rw [List.take_zero]; exact Took.start HRT.out.fm.hold hsame, hown5, K5, hkF, f5⟩
    have qo : (0 : Int) ≤ (o : Int) := by omega
    have ql : (0 : Int) ≤ (l : Int) := by omega
    have HB5 : Hid (Below W0.heap.size W0 W5 ∧ W0.heap.size ≤ w3.heap.size ∧ w3.heap.size ≤ w4.heap.size ∧ g < w3.heap.size ∧ w3.heap.size ≤ BL) := ⟨hB5, hB'.size, q4, glt, f6⟩
    rw [← HW5.out] at s1 s2 f3 f4 f7
    unfold maxLen at v2 f9
    clear hW5 hown hown5 hkF K5 hB4 hWB5 hB35 hB5 f1 f2 f5 f6 f10 f11 f12 f13 f14 e0 hsame HK3
    simp only [St.val]
    go_wp2_with fail
    rw [HW5.out]
    clear s1 s2 f3 f4 f7 HW5 hB' q4 q13 glt v1 v2 f8 f9
    generalize x0.os.n = XN at *
    go_loopw [4, 56] (fun nv kv wk => ∃ k : Nat, k ≤ (wayT p but).length ∧ kv = .int .i64 k ∧ nv = .int .i64 (Tk.go (fun b => availZ s b.toNat (lineAt s o l).o.toNat) n ((wayT p but).take k)).left ∧ Hid (TakeInv s o l n (fun b => availZ s b.toNat (lineAt s o l).o.toNat) (wayT p but) w3.heap.size w4.heap.size BL g k wk) ∧ Hid (Below W0.heap.size W0 wk)) (fun _ kv _ => (wayT p but).length - (intOf kv).toNat)
    case atStart => exact ⟨0, Nat.zero_le _, rfl, rfl, HINV, HB5.out.1⟩
    case round =>
      clear HINV
      obtain ⟨k, hk, rfl, rfl, HV, HBk⟩ := hrel
      have HTK : Hid (TkOK (fun b => availZ s b.toNat (lineAt s o l).o.toNat) n ((wayT p but).take k) (Tk.go (fun b => availZ s b.toNat (lineAt s o l).o.toNat) n ((wayT p but).take k))) := HI.out.tk ((wayT_apart p but).sublist (List.take_sublist _ _)) (fun x hx => HI.out.way x (List.mem_of_mem_take hx))
      have H31EP : Hid (k < (wayT p but).length → Tk.go (fun b => availZ s b.toNat (lineAt s o l).o.toNat) n ((wayT p but).take (k + 1)) = (Tk.go (fun b => availZ s b.toNat (lineAt s o l).o.toNat) n ((wayT p but).take k)).step (fun b => availZ s b.toNat (lineAt s o l).o.toNat) ((wayT p but).getD k 0)) := fun h => by rw [take_more h, Tk.go_more]
      have HEND : Hid (k = (wayT p but).length → Tk.go (fun b => availZ s b.toNat (lineAt s o l).o.toNat) n ((wayT p but).take k) = tkOf p s (lineAt s o l).o n but) := fun h => by rw [h, List.take_length]; rfl
      obtain ⟨x, hT, hO, hK, hF, hla⟩ := HV.out
      have HX : Hid (Took s o l n (Tk.go (fun b => availZ s b.toNat (lineAt s o l).o.toNat) n ((wayT p but).take k)) x ∧ OwnS w3.heap.size wr x ∧ Blk wr w4.heap.size 31 7 (fun j => x.cells.getD j default) ∧ Blk wr g 3 (wayT p but).length (fun j => .int .i64 ((wayT p but).getD j 0)) ∧ (x.os.z o).ls.a = some ⟨BL, 0, none⟩) := ⟨hT, hO, hK, hF, hla⟩
      obtain ⟨T, hTd⟩ : ∃ T, Tk.go (fun b => availZ s b.toNat (lineAt s o l).o.toNat) n ((wayT p but).take k) = T := ⟨_, rfl⟩
      rw [hTd] at HTK H31EP HEND HX ⊢
      clear hT hO hK hF hla HV hTd
      have tl0 := HTK.out.left0
      have tln := HTK.out.leftn
      have nn2 := HI.out.n2
      by_cases hlt : k < (wayT p but).length
      · have HS1 : Hid _ := H31EP.out hlt
        obtain ⟨hbm0, hbm1⟩ := HI.out.way _ (getD_mem hlt)
        have z0 := HX.out.2.2.2.1.cell (j := k) hlt
        have z1 := HX.out.2.2.2.1.lt
        obtain ⟨bv, hbv⟩ := Int.eq_ofNat_of_zero_le hbm0
        have HBV : Hid ((wayT p but).getD k 0 = (bv : Int)) := hbv
        rw [hbv] at z0 hbm1
        have hbvn : bv < p.nb := by omega
        have hgd := HI.out.good
        obtain ⟨gd, hgv⟩ := Int.eq_ofNat_of_zero_le hgd.1
        have HGV : Hid ((lineAt s o l).o = (gd : Int)) := hgv
        have hgdn : gd < p.ns := by omega
        have HAVL : Hid (∀ w', p.At w' → s.At w' → Calls Tryz.prog 53 #[p.val, s.val, .int .i64 (bv : Int), .int .i64 (gd : Int)] w' fun e w'' => e = .returned (.tuple #[.int .i64 (availZ s bv gd), .int .i64 0]) ∧ Below w'.heap.size w' w'') := fun w' h1 h2 => by
          have h := Avail_any p s bv gd w' h1 h2
          rw [(avail_okA HI.out.st hbvn hgdn).1, (avail_okA HI.out.st hbvn hgdn).2] at h
          exact h
        have avb := avail_bdA HRT.out hbvn hgdn
        have HAV : Hid ((fun b : Int => availZ s b.toNat (lineAt s o l).o.toNat) ((wayT p but).getD k 0) = availZ s bv gd) := by
          show availZ s ((wayT p but).getD k 0).toNat (lineAt s o l).o.toNat = _
          rw [hbv, hgv]
          rfl
        generalize hAVd : availZ s bv gd = AV at *
        clear hAVd
        have ho1 : o < x.os.n := by rw [HX.out.1.os.1]; exact ho
        have ex := HX.out.1.os.2 o ho1
        have hl1 : l < (x.os.z o).ls.n := by rw [ex.2.1]; exact hl
        obtain ⟨gO, BL', f1, f2, f3, f4, f5, f6, f7, f8, f9, f10, f11, f12, f13, f14⟩ := HX.out.2.1.lineCell ho1 hl1
        rw [HX.out.2.2.2.2] at f5
        simp only [Option.some.injEq, Addr.mk.injEq, and_true] at f5
        subst f5
        have hgx : ((x.os.z o).ls.z l).o = (gd : Int) := by
          rw [ex.2.2 l hl1, if_pos ⟨rfl, rfl⟩]
          exact hgv
        have hbx : ((x.os.z o).ls.z l).n = (lineAt s o l).n - (n - T.left) := by
          rw [ex.2.2 l hl1, if_pos ⟨rfl, rfl⟩]
          rfl
        have HBX : Hid (((x.os.z o).ls.z l).n = (lineAt s o l).n - (n - T.left)) := hbx
        have hbl := badLine_no (HRT.out.fm.line o ho l hl)
        have hbk0 : -1000 ≤ ((x.os.z o).ls.z l).n ∧ ((x.os.z o).ls.z l).n ≤ 1000 := by
          rw [hbx]
          have h1 : (lineAt s o l).n = ((s.os.z o).ls.z l).n := rfl
          rw [h1]
          omega
        rw [hgx] at f11
        obtain ⟨⟨⟨l1, d0, d1⟩, l2, c0, c1, c2, c3, c4, c5, c6⟩, hpk, hsk, hBw, hz, kb⟩ := HC.out wr HBk.out
        have HPS : Hid (p.At wr ∧ s.At wr) := ⟨hpk, hsk⟩
        have r0 : ∀ d os, (grow (redrawn wr d) os).cell? ⟨w.heap.size, 0, none⟩ = some (.slice p.ab p.nb p.cb) := fun d os => cell_regrown d0 d os
        have r1 : ∀ d os, (grow (redrawn wr d) os).cell? ⟨w.heap.size, 1, none⟩ = some (.slice p.sa p.ns p.cs) := fun d os => cell_regrown d1 d os
        have rs0 : ∀ d os, (grow (redrawn wr d) os).cell? ⟨w.heap.size + 1, 0, none⟩ = some (.slice s.on.a s.on.n s.on.c) := fun d os => cell_regrown c0 d os
        have rs1 : ∀ d os, (grow (redrawn wr d) os).cell? ⟨w.heap.size + 1, 1, none⟩ = some (.slice s.os.a s.os.n s.os.c) := fun d os => cell_regrown c1 d os
        have rs2 : ∀ d os, (grow (redrawn wr d) os).cell? ⟨w.heap.size + 1, 2, none⟩ = some (.slice s.hs.a s.hs.n s.hs.c) := fun d os => cell_regrown c2 d os
        have rs3 : ∀ d os, (grow (redrawn wr d) os).cell? ⟨w.heap.size + 1, 3, none⟩ = some (.slice s.ms.a s.ms.n s.ms.c) := fun d os => cell_regrown c3 d os
        have rs4 : ∀ d os, (grow (redrawn wr d) os).cell? ⟨w.heap.size + 1, 4, none⟩ = some (.slice s.si.a s.si.n s.si.c) := fun d os => cell_regrown c4 d os
        have rs5 : ∀ d os, (grow (redrawn wr d) os).cell? ⟨w.heap.size + 1, 5, none⟩ = some (.slice s.so.a s.so.n s.so.c) := fun d os => cell_regrown c5 d os
        have rs6 : ∀ d os, (grow (redrawn wr d) os).cell? ⟨w.heap.size + 1, 6, none⟩ = some (.slice s.sf.a s.sf.n s.sf.c) := fun d os => cell_regrown c6 d os
        have rl : ∀ d os, (grow (redrawn wr d) os).cell? ⟨BL, l * 4, none⟩ = some (.int .i64 (gd : Int)) := fun d os => cell_regrown f11 d os
        clear hbv hgv hgd hpk hsk hBw hz kb d0 d1 c0 c1 c2 c3 c4 c5 c6 l1 l2 f1 f2 f3 f4 f6 f8 f9 f10 f11 f12 f13 f14 ex hgx hbx hbl HEND hbm0 hbm1
        obtain ⟨BK, hBK⟩ : ∃ BK, ((x.os.z o).ls.z l).n = BK := ⟨_, rfl⟩
        have HBK : Hid (((x.os.z o).ls.z l).n = BK) := hBK
        rw [hBK] at hbk0
        clear hBK
        obtain ⟨N, hN⟩ : ∃ N, T.left = N := ⟨_, rfl⟩
        have HN : Hid (T.left = N) := hN
        rw [hN] at tl0 tln ⊢
        clear hN
        have q0 : (0 : Int) ≤ (k : Int) := by omega
        have HMZ : Hid (∀ m, min N AV = m → min T.left ((fun b : Int => availZ s b.toNat (lineAt s o l).o.toNat) ((wayT p but).getD k 0)) = m) := fun m h => by rw [HAV.out, HN.out]; exact h
        go_wp2_with fail
        refine wp_region_quiet_below (by kernel_rfl) (by kernel_rfl) ?_
        repeat (go_big_quiet_step ((go_at_call 53; exact Calls.regrown_of (HAVL.out _ (HPS.out.1.below (below_regrown _ _ _)) (HPS.out.2.below (below_regrown _ _ _))))))
        refine wpQuiet_nil ?_
        intro w9 hw9
        have hB9 : Below wr.heap.size wr w9 := by obtain ⟨⟨dq, osq⟩, hw''⟩ := hw9; subst hw''; exact below_regrown _ _ _
        clear hw9 r0 r1 rs0 rs1 rs2 rs3 rs4 rs5 rs6 rl HPS z0 z1 HAVL
        have HBk9 : Hid (Below W0.heap.size W0 w9) := HBk.out.trans (hB9.mono HBk.out.size)
        have HX9 : Hid (Took s o l n T x ∧ OwnS w3.heap.size w9 x ∧ Blk w9 w4.heap.size 31 7 (fun j => x.cells.getD j default) ∧ Blk w9 g 3 (wayT p but).length (fun j => .int .i64 ((wayT p but).getD j 0)) ∧ (x.os.z o).ls.a = some ⟨BL, 0, none⟩) := ⟨HX.out.1, OwnS.below HX.out.2.1 hB9, HX.out.2.2.1.below hB9, HX.out.2.2.2.1.below hB9, HX.out.2.2.2.2⟩
        clear hB9 HX HBk f7
        by_cases hm0 : min AV N = 0
        · have hm1 : min N AV = 0 := by omega
          have HNX : Hid (TakeInv s o l n (fun b => availZ s b.toNat (lineAt s o l).o.toNat) (wayT p but) w3.heap.size w4.heap.size BL g (k + 1) w9 ∧ (Tk.go (fun b => availZ s b.toNat (lineAt s o l).o.toNat) n ((wayT p but).take (k + 1))).left = N) := by
            refine ⟨⟨x, ?_, HX9.out.2⟩, ?_⟩
            · rw [HS1.out]
              exact HX9.out.1.stepZero (HMZ.out 0 hm1)
            · rw [HS1.out]
              show T.left - min T.left _ = N
              rw [HMZ.out 0 hm1, HN.out]
              omega
          go_wp2_with fail
          go_roundw
          case rel => exact ⟨k + 1, by omega, by go_num, by rw [HNX.out.2], HNX.out.1, HBk9⟩
          case measure => simp [intOf]; omega
        · obtain ⟨MV, hMV⟩ : ∃ MV, min AV N = MV := ⟨_, rfl⟩
          have HMV : Hid (min AV N = MV) := hMV
          have mv0 : 0 < MV := by omega
          have mv1 : MV ≤ N := by omega
          have mvd : (MV == 0) = false := by simp; omega
          have HM1 : Hid (min N AV = MV) := by show min N AV = MV; omega
          have HAE : Hid (addE x.hs.n x.hs.z (tookH o l bv MV) = 0) := by
            have h := HX9.out.1.addE (p := p) (order := o) (line := l) (but := but) HI.out (fun x hx => HI.out.way x (List.mem_of_mem_take hx)) HTK.out (b := (bv : Int)) ⟨by omega, by omega⟩ mv0 (by rw [HN.out]; exact mv1)
            exact h
          have KX := HX9.out.2.2.1
          have y2 : w9.cell? ⟨w4.heap.size, 2, none⟩ = some (.slice x.hs.a x.hs.n x.hs.c) := KX.cell (j := 2) (by decide)
          have y3 := KX.lt
          have HAD : Hid (Calls Tryz.prog 54 #[.slice x.hs.a x.hs.n x.hs.c, .agg #[.int .i64 (o : Int), .int .i64 (l : Int), .int .i64 (bv : Int), .int .i64 MV]] w9 fun e w' => ∃ s' : Hs, e = .returned (.tuple #[s'.val, .int .i64 0]) ∧ OwnH w9.heap.size 55 w' s' ∧ AddOK x.hs.n x.hs.z (tookH o l bv MV) s' ∧ Below w9.heap.size w9 w') := by
            have h := AddOwn_any x.hs (tookH o l bv MV) w9 HX9.out.2.1.hs.at
            rw [HAE.out] at h
            exact h
          clear KX hm0 HMV
          go_wp2_with fail
          refine HAD.out.mono ?_
          rintro e wa ⟨y, rfl, yown, yok, hBa⟩
          clear y2 y3 HAD hMV
          have q9 := HBk9.out.size
          have qa := hBa.size
          obtain ⟨b1, b2, b3, b4, b5⟩ := HB5.out
          have hOa := OwnS.below HX9.out.2.1 hBa
          have KA := HX9.out.2.2.1.below hBa
          have FA := HX9.out.2.2.2.1.below hBa
          have hBka := HBk9.out.trans (hBa.mono HBk9.out.size)
          have hlt9 := HX9.out.2.2.1.lt
          have ho1 : o < x.os.n := by rw [HX9.out.1.os.1]; exact ho
          have hOb := (hOa.withHolds (yown.mono (by omega))).box KA 2 (.slice y.a y.n y.c)
          have KB := KA.set 2 (.slice y.a y.n y.c)
          have FB := FA.other (a := ⟨w4.heap.size, 2, none⟩) (Blk.ne2 FA KA (by decide)) (.slice y.a y.n y.c)
          have hBb := hBka.setCell (p := ⟨w4.heap.size, 2, none⟩) (by show W0.heap.size ≤ w4.heap.size; omega) (.slice y.a y.n y.c)
          have hl1 : l < (x.os.z o).ls.n := by rw [(HX9.out.1.os.2 o ho1).2.1]; exact hl
          obtain ⟨gO, BL', f1, f2, f3, f4, f5, f6, f7, f8, f9, f10, f11, f12, f13, f14⟩ := hOb.lineCell (o := o) (l := l) ho1 hl1
          have f5' : (x.os.z o).ls.a = some ⟨BL', 0, none⟩ := f5
          rw [HX9.out.2.2.2.2] at f5'
          simp only [Option.some.injEq, Addr.mk.injEq, and_true] at f5'
          subst f5'
          have f14' : (wa.setCell ⟨w4.heap.size, 2, none⟩ (.slice y.a y.n y.c)).cell? ⟨BL, l * 4 + 3, none⟩ = some (.int .i64 ((x.os.z o).ls.z l).n) := f14
          rw [HBK.out] at f14'
          have g14 := f10 (l * 4 + 3)
          obtain ⟨B', hla', -, -, -, hlb⟩ := hOb.os.lines o ho1
          rw [f5] at hla'
          simp only [Option.some.injEq, Addr.mk.injEq, and_true] at hla'
          subst hla'
          have hOc := hOb.setLine (o := o) ho1 f5 l 3 (by decide) (BK - MV)
          have KC := KB.other (a := ⟨BL, l * 4 + 3, none⟩) (Blk.ne2 KB hlb (by decide)) (.int .i64 (BK - MV))
          have FC := FB.other (a := ⟨BL, l * 4 + 3, none⟩) (Blk.ne2 FB hlb (by decide)) (.int .i64 (BK - MV))
          have hBc := hBb.setCell (p := ⟨BL, l * 4 + 3, none⟩) (by show W0.heap.size ≤ BL; omega) (.int .i64 (BK - MV))
          have hTn := HX9.out.1.stepAdd (av := fun b => availZ s b.toNat (lineAt s o l).o.toNat) (order := o) (line := l) (b := (wayT p but).getD k 0) (m := MV) ho hl (HMZ.out MV HM1.out) (by rw [HBV.out]; exact HAE.out) (by rw [HBV.out]; exact yok)
          have HNX : Hid (TakeInv s o l n (fun b => availZ s b.toNat (lineAt s o l).o.toNat) (wayT p but) w3.heap.size w4.heap.size BL g (k + 1) ((wa.setCell ⟨w4.heap.size, 2, none⟩ (.slice y.a y.n y.c)).setCell ⟨BL, l * 4 + 3, none⟩ (.int .i64 (BK - MV))) ∧ (Tk.go (fun b => availZ s b.toNat (lineAt s o l).o.toNat) n ((wayT p but).take (k + 1))).left = N - MV ∧ Below W0.heap.size W0 ((wa.setCell ⟨w4.heap.size, 2, none⟩ (.slice y.a y.n y.c)).setCell ⟨BL, l * 4 + 3, none⟩ (.int .i64 (BK - MV)))) := by
            refine ⟨⟨withHolds (setLine x o l 3 (BK - MV)) y, ?_, hOc, KC.congr (fun j hj => by match j, hj with | 0, _ => rfl | 1, _ => rfl | 2, _ => rfl | 3, _ => rfl | 4, _ => rfl | 5, _ => rfl | 6, _ => rfl), FC, ?_⟩, ?_, hBc⟩
            · rw [HS1.out]
              have h := hTn
              rw [show ((x.os.z ((o : Nat) : Int).toNat).ls.z ((l : Nat) : Int).toNat).n = BK from HBK.out] at h
              exact h
            · exact ((setLine_n (s := x) (o := o) (l := l) (c := 3) (v := BK - MV) o).2.1).trans HX9.out.2.2.2.2
            · rw [HS1.out]
              show T.left - min T.left _ = N - MV
              rw [HMZ.out MV HM1.out, HN.out]
          have z1 := KA.lt
          have z2 := KA.frozen 2
          have z3 := KA.cell (j := 2) (by decide)
          clear hOa KA FA hBka hOb KB FB hBb f1 f2 f3 f4 f5 f6 f8 f9 f10 f11 f12 f13 f14 hlb hOc KC FC hBc hTn yown yok hBa HX9 HBk9 HTK HS1
          simp only [Hs.val]
          go_wp2_with fail
          go_roundw
          case rel => exact ⟨k + 1, by omega, by go_num, by rw [HNX.out.2.1], HNX.out.1, HNX.out.2.2⟩
          case measure => simp [intOf]; omega
      · have hkn : k = (wayT p but).length := by omega
        have HT : Hid (T = tkOf p s (lineAt s o l).o n but) := HEND.out hkn
        clear HEND
        have KX := HX.out.2.2.1
        obtain ⟨m1, p0, p1, p2, p3, p4, p5, p6⟩ := Boxed.of KX
        obtain ⟨-, -, -, hBw, hz, -⟩ := HC.out wr HBk.out
        have HZ : Hid (Below w.heap.size w wr ∧ Blk wr (w.heap.size + 3) 31 7 (fun _ => .slice .none 0 0)) := ⟨hBw, hz⟩
        have zl := hz.lt
        have zf0 := hz.frozen 0
        have zc0 := hz.cell (j := 0) (by decide)
        have zf1 := hz.frozen 1
        have zc1 := hz.cell (j := 1) (by decide)
        have zf2 := hz.frozen 2
        have zc2 := hz.cell (j := 2) (by decide)
        have zf3 := hz.frozen 3
        have zc3 := hz.cell (j := 3) (by decide)
        have zf4 := hz.frozen 4
        have zc4 := hz.cell (j := 4) (by decide)
        have zf5 := hz.frozen 5
        have zc5 := hz.cell (j := 5) (by decide)
        have zf6 := hz.frozen 6
        have zc6 := hz.cell (j := 6) (by decide)
        clear KX hBw hz
        go_wp2_with fail
        have KZ := set7_blk HZ.out.2 (.slice x.on.a x.on.n x.on.c) (.slice x.os.a x.os.n x.os.c) (.slice x.hs.a x.hs.n x.hs.c) (.slice x.ms.a x.ms.n x.ms.c) (.slice x.si.a x.si.n x.si.c) (.slice x.so.a x.so.n x.so.c) (.slice x.sf.a x.sf.n x.sf.c)
        have hbz := set7_below (b := w.heap.size + 3) HZ.out.1 (by omega) (.slice x.on.a x.on.n x.on.c) (.slice x.os.a x.os.n x.os.c) (.slice x.hs.a x.hs.n x.hs.c) (.slice x.ms.a x.ms.n x.ms.c) (.slice x.si.a x.si.n x.si.c) (.slice x.so.a x.so.n x.so.c) (.slice x.sf.a x.sf.n x.sf.c)
        have hOz := OwnS.set7 HX.out.2.1 HZ.out.2 (.slice x.on.a x.on.n x.on.c) (.slice x.os.a x.os.n x.os.c) (.slice x.hs.a x.hs.n x.hs.c) (.slice x.ms.a x.ms.n x.ms.c) (.slice x.si.a x.si.n x.si.c) (.slice x.so.a x.so.n x.so.c) (.slice x.sf.a x.sf.n x.sf.c)
        unfold set7 at KZ hbz hOz
        obtain ⟨c0', c1', c2', c3', c4', c5', c6'⟩ := box_cells KZ
        refine bodyPost_ret (v := .tuple #[x.val, .int .i64 T.left, .int .i64 0]) (by simp [results, Tryz.results17, go_sem, St.val, c0', c1', c2', c3', c4', c5', c6']) rfl ?_
        have HL : allocL p s o l n but = T.left := by rw [HT.out]; exact if_pos HE.out
        refine ⟨x, by rw [HL, HE.out]; rfl, hOz.at, ⟨fun _ => ?_, fun h => absurd HE.out h⟩, fun _ => hOz.mono ?_, hbz⟩
        · rw [← HT.out]; exact HX.out.1
        · have := (HC.out _ HB5.out.1).2.2.2.1.size
          have := HB5.out.2.1
          omega
  · have HX : Hid (allocL p s order line n but = 0) := if_neg hE
    clear c0 c1 c2 c3 c4 c5 c6 hpk hsk kb
    have zl := hz.lt
    have zf0 := hz.frozen 0
    have zc0 := hz.cell (j := 0) (by decide)
    have zf1 := hz.frozen 1
    have zc1 := hz.cell (j := 1) (by decide)
    have zf2 := hz.frozen 2
    have zc2 := hz.cell (j := 2) (by decide)
    have zf3 := hz.frozen 3
    have zc3 := hz.cell (j := 3) (by decide)
    have zf4 := hz.frozen 4
    have zc4 := hz.cell (j := 4) (by decide)
    have zf5 := hz.frozen 5
    have zc5 := hz.cell (j := 5) (by decide)
    have zf6 := hz.frozen 6
    have zc6 := hz.cell (j := 6) (by decide)
    go_wp2_with fail
    have KZ := set7_blk hz (.slice .none 0 0) (.slice .none 0 0) (.slice .none 0 0) (.slice .none 0 0) (.slice .none 0 0) (.slice .none 0 0) (.slice .none 0 0)
    have hbz := set7_below (b := w.heap.size + 3) hBw (by omega) (.slice .none 0 0) (.slice .none 0 0) (.slice .none 0 0) (.slice .none 0 0) (.slice .none 0 0) (.slice .none 0 0) (.slice .none 0 0)
    unfold set7 at KZ hbz
    obtain ⟨c0', c1', c2', c3', c4', c5', c6'⟩ := box_cells KZ
    refine bodyPost_ret (v := .tuple #[noneS.val, .int .i64 0, .int .i64 (allocE p s order line n but)]) (by simp [results, Tryz.results17, go_sem, noneS, St.val, c0', c1', c2', c3', c4', c5', c6']) rfl ?_
    exact ⟨noneS, by rw [HX.out]; rfl, noneS_at _, ⟨fun h => absurd h hE, fun _ => ⟨rfl, rfl, rfl, rfl, rfl, rfl, rfl⟩⟩, fun h => absurd h hE, hbz⟩
end Go.Proofs.YtbcacebifpagpadGreat
namespace Go.Proofs.YtbcacebifpagpadGreat
open Go.RowKit Go.Shelf Go.Sort
set_option linter.unusedVariables false
structure RelI (p : Pl) (s y0 : St) (A B7 : Nat) (W0 : World) (cur : St) (wk : World) : Prop where
  own0 : OwnS A wk y0
  own : OwnS A wk cur
  box : Blk wk B7 31 7 (fun j => cur.cells.getD j default)
  bel : Below W0.heap.size W0 wk
  le : A ≤ wk.heap.size
theorem RelI.below {p : Pl} {s y0 cur : St} {A B7 : Nat} {W0 wk wj : World} (h : RelI p s y0 A B7 W0 cur wk) (hB : Below wk.heap.size wk wj) : RelI p s y0 A B7 W0 cur wj :=
  ⟨h.own0.below hB, h.own.below hB, h.box.below hB, h.bel.trans (hB.mono h.bel.size), Nat.le_trans h.le hB.size⟩
def RelA (p : Pl) (s : St) (i : Nat) (cur : St) : Prop := TkAll p (-1) (relQ s) (relM s) (relO s s.os.n) i cur
def RelB (p : Pl) (s : St) (i j : Nat) (cur : St) : Prop := ∃ y, RelA p s i y ∧ TkRow p (-1) (relQ s) i y j cur
theorem RelB.next {p : Pl} {s cur : St} {i : Nat} (h : RelB p s i (s.os.z i).ls.n cur) : RelA p s (i + 1) cur := h
theorem RelA.row {p : Pl} {s cur : St} {i : Nat} (h : RelA p s i cur) : RelB p s i 0 cur := ⟨cur, h, rfl⟩
theorem RelA.skip {p : Pl} {s cur : St} {i : Nat} (r : RightT p s) (h : RelA p s i cur) (hi : i < s.os.n) (hk : ¬ ((relO s s.os.n).os.z i).k = 1) : RelA p s (i + 1) cur :=
  ⟨cur, h, TkRow.skip (rel_qin r) (TkAll.pos (rel_qin r) (fun a _ => relM_eq s a) (Nat.le_of_lt hi) h) hi (Nat.le_of_eq (relM_eq s i)) fun b _ => if_neg hk⟩
theorem RelB.pos {p : Pl} {s cur : St} {i j : Nat} (r : RightT p s) (h : RelB p s i j cur) (hi : i < s.os.n) (hj : j ≤ (s.os.z i).ls.n) : Pos p (-1) (relQ s) (relO s s.os.n) i j cur := by
  obtain ⟨y, h1, h2⟩ := h
  exact TkRow.pos (rel_qin r) (TkAll.pos (rel_qin r) (fun a _ => relM_eq s a) (Nat.le_of_lt hi) h1) hi (by rw [← relM_eq]; exact hj) h2
theorem RelB.stepIn {p : Pl} {s cur : St} {i j : Nat} (r : RightT p s) (h : RelB p s i j cur) (hi : i < s.os.n) (hj : j < (s.os.z i).ls.n) : StepIn p (-1) cur i j (relQ s i j) :=
  (h.pos r hi (Nat.le_of_lt hj)).stepIn (rel_qin r) hi (by rw [← relM_eq]; exact hj)
theorem RelB.step {p : Pl} {s cur x : St} {i j : Nat} (h : RelB p s i j cur) (T : Step p (-1) cur i j (relQ s i j) x) : RelB p s i (j + 1) x := by
  obtain ⟨y, h1, h2⟩ := h
  exact ⟨y, h1, cur, h2, T⟩
set_option maxRecDepth 100000 in
set_option maxHeartbeats 8000000 in
theorem Release_any (p : Pl) (s : St) (w : World) (hp : p.At w) (hs : s.At w) :
    Calls Tryz.prog 5 #[p.val, s.val] w fun e w' => ∃ x : St, e = .returned (.tuple #[x.val, .int .i64 (stateE p s)]) ∧ x.At w' ∧ RelOK p s x ∧ (stateE p s = 0 → OwnS w.heap.size w' x) ∧ Below w.heap.size w w' := by
  obtain ⟨W0, hW, hWB, X0, Z0⟩ : ∃ W, (((w.alloc (.cells #[.slice p.ab p.nb p.cb, .slice p.sa p.ns p.cs] 25)).alloc (.cells s.cells 31)).alloc (.cells #[.slice .none 0 0, .slice .none 0 0, .slice .none 0 0, .slice .none 0 0, .slice .none 0 0, .slice .none 0 0, .slice .none 0 0] 31)) = W ∧ Below w.heap.size w W ∧ Boxes W w.heap.size (w.heap.size + 1) p s ∧ Blk W (w.heap.size + 2) 31 7 (fun _ => .slice .none 0 0) :=
    ⟨_, rfl, (two_below _ _ _).alloc (by simp; omega) _, (boxes_new w p s _ _).below ((Below.refl _ _).alloc (Nat.le_refl _) _), (Blk.mk' (cur := #[.slice .none 0 0, .slice .none 0 0, .slice .none 0 0, .slice .none 0 0, .slice .none 0 0, .slice .none 0 0, .slice .none 0 0]) (by simp) rfl).congr (fun j hj => by match j, hj with | 0, _ => rfl | 1, _ => rfl | 2, _ => rfl | 3, _ => rfl | 4, _ => rfl | 5, _ => rfl | 6, _ => rfl)⟩
  have HC : Hid (∀ wk, Below W0.heap.size W0 wk → Boxes wk w.heap.size (w.heap.size + 1) p s ∧ p.At wk ∧ s.At wk ∧ Below w.heap.size w wk ∧ Blk wk (w.heap.size + 2) 31 7 (fun _ => .slice .none 0 0)) := fun wk h => ⟨X0.below h, (hp.below hWB).below h, (hs.below hWB).below h, hWB.trans (h.mono hWB.size), Z0.below h⟩
  have HW : Hid (((w.alloc (.cells #[.slice p.ab p.nb p.cb, .slice p.sa p.ns p.cs] 25)).alloc (.cells #[.slice s.on.a s.on.n s.on.c, .slice s.os.a s.os.n s.os.c, .slice s.hs.a s.hs.n s.hs.c, .slice s.ms.a s.ms.n s.ms.c, .slice s.si.a s.si.n s.si.c, .slice s.so.a s.so.n s.so.c, .slice s.sf.a s.sf.n s.sf.c] 31)).alloc (.cells #[.slice .none 0 0, .slice .none 0 0, .slice .none 0 0, .slice .none 0 0, .slice .none 0 0, .slice .none 0 0, .slice .none 0 0] 31) = W0) := hW
  have leb := hp.leb
  have capb0 := hp.capb
  have les := hp.les
  have caps0 := hp.caps
  have capb := capb0
  have caps := caps0
  have zlt0 := Z0.lt
  unfold maxLen at capb caps
  clear hW X0 Z0 hp hs
  unfold Pl.val St.val
  go_enter Tryz.func5, Tryz.ntmps5
  go_wp2_with fail
  rw [HW.out]
  obtain ⟨X, hpk, hsk, hBw, hz⟩ := HC.out W0 (Below.refl _ _)
  refine (stateCheck_any p s W0 hpk hsk).mono ?_
  rintro e w1 ⟨rfl, hB⟩
  clear X hpk hsk hBw hz HW
  obtain ⟨⟨⟨l1, d0, d1⟩, l2, c0, c1, c2, c3, c4, c5, c6⟩, hpk, hsk, hBw, hz⟩ := HC.out w1 hB
  by_cases h0 : stateE p s = 0
  · have H0 : Hid (stateE p s = 0) := h0
    have HR : Hid (RightT p s) := rightT h0
    rw [h0]
    clear h0
    have HCS : Hid (Calls Tryz.prog 15 #[s.val] w1 fun e w' => ∃ s' : St, e = .returned s'.val ∧ SameT s' s ∧ OwnS w1.heap.size w' s' ∧ Below w1.heap.size w1 w') := copyState_any p s w1 hsk HR.out.fm
    clear hpk hsk hBw hz
    go_wp2_with fail
    refine Calls.mono HCS.out ?_
    rintro e w4 ⟨x0, rfl, hsame, hown, hB4⟩
    clear HCS l1 d0 d1 l2 c0 c1 c2 c3 c4 c5 c6
    obtain ⟨W5, hW5, hWB5, K5⟩ : ∃ W, w4.alloc (.cells #[.slice x0.on.a x0.on.n x0.on.c, .slice x0.os.a x0.os.n x0.os.c, .slice x0.hs.a x0.hs.n x0.hs.c, .slice x0.ms.a x0.ms.n x0.ms.c, .slice x0.si.a x0.si.n x0.si.c, .slice x0.so.a x0.so.n x0.so.c, .slice x0.sf.a x0.sf.n x0.sf.c] 31) = W ∧ Below w4.heap.size w4 W ∧ Blk W w4.heap.size 31 7 (fun j => x0.cells.getD j default) := ⟨_, rfl, (Below.refl _ _).alloc (Nat.le_refl _) _, Blk.mk' rfl rfl⟩
    have HW5 : Hid (w4.alloc (.cells #[.slice x0.on.a x0.on.n x0.on.c, .slice x0.os.a x0.os.n x0.os.c, .slice x0.hs.a x0.hs.n x0.hs.c, .slice x0.ms.a x0.ms.n x0.ms.c, .slice x0.si.a x0.si.n x0.si.c, .slice x0.so.a x0.so.n x0.so.c, .slice x0.sf.a x0.sf.n x0.sf.c] 31) = W5) := hW5
    have hB15 := hB4.trans (hWB5.mono hB4.size)
    have hB5 := hB.trans (hB15.mono hB.size)
    have HO5 : Hid (OwnS w1.heap.size W5 (relO x0 0)) := by show OwnS w1.heap.size W5 (relO x0 0); rw [relO_zero]; exact OwnS.below hown hWB5
    have HS0 : Hid (SameT x0 s) := hsame
    have s1 := K5.cell (j := 1) (by decide)
    have s1' : W5.cell? ⟨w4.heap.size, 1, none⟩ = some (.slice x0.os.a x0.os.n x0.os.c) := s1
    have s2 := K5.lt
    have HK5 : Hid (Blk W5 w4.heap.size 31 7 (fun j => x0.cells.getD j default)) := K5
    have HB5 : Hid (Below W0.heap.size W0 W5) := hB5
    have A1 : W0.heap.size ≤ w1.heap.size := hB.size
    have A2 : w1.heap.size ≤ w4.heap.size := hB4.size
    have A3 : w1.heap.size ≤ W5.heap.size := hB15.size
    have A27 : w1.heap.size ≤ w4.heap.size := hB4.size
    have ol : x0.os.n ≤ x0.os.c := (OwnS.below hown hWB5).os.le
    have oc : x0.os.c ≤ maxLen := (OwnS.below hown hWB5).os.cap
    unfold maxLen at oc
    have on4 : x0.os.n ≤ 4 := by rw [hsame.os.1]; exact HR.out.fm.os4
    rw [← HW5.out] at s1' s2
    clear hW5 hown K5 hB4 hWB5 hB15 hB5 hsame hB s1
    simp only [St.val]
    go_wp2_with fail
    rw [HW5.out]
    clear s1' s2 HW5
    generalize w4.heap.size = B7 at *
    go_loopw [25] (fun kv wk => ∃ k : Nat, k ≤ x0.os.n ∧ kv = .int .i64 k ∧ Hid (OwnS w1.heap.size wk (relO x0 k)) ∧ Hid (Blk wk B7 31 7 (fun j => x0.cells.getD j default)) ∧ Hid (Below W0.heap.size W0 wk) ∧ Hid (w1.heap.size ≤ wk.heap.size)) (fun kv _ => x0.os.n - (intOf kv).toNat)
    case atStart => exact ⟨0, Nat.zero_le _, rfl, HO5, HK5, HB5, A3⟩
    case round =>
      clear HO5 HK5 HB5 A3
      obtain ⟨k, hk, rfl, HOk, HKk, HBk, HSk⟩ := hrel
      by_cases hlt : k < x0.os.n
      · have q0 : (0 : Int) ≤ (k : Int) := by omega
        have q1 : (k : Int) < (x0.os.n : Int) := by omega
        obtain ⟨gO, g1, g2, g3⟩ := HOk.out.os.list (by show 0 < x0.os.n; omega)
        have g1' : x0.os.a = some ⟨gO, 0, none⟩ := g1
        have HG : Hid ((relO x0 k).os.a = some ⟨gO, 0, none⟩) := g1
        have u1 : wr.cell? ⟨B7, 1, none⟩ = some (.slice x0.os.a x0.os.n x0.os.c) := HKk.out.cell (j := 1) (by decide)
        rw [g1'] at u1
        have u2 := HKk.out.lt
        have u3 := g3.lt
        have HBD : Hid (∀ j, j < ((relO x0 k).os.z k).ls.n → (0 ≤ (((relO x0 k).os.z k).ls.z j).l ∧ (((relO x0 k).os.z k).ls.z j).l ≤ 200) ∧ 0 ≤ (((relO x0 k).os.z k).ls.z j).b ∧ (((relO x0 k).os.z k).ls.z j).b ≤ 200) := by
          show ∀ j, j < (relOd k k (x0.os.z k)).ls.n → (0 ≤ ((relOd k k (x0.os.z k)).ls.z j).l ∧ ((relOd k k (x0.os.z k)).ls.z j).l ≤ 200) ∧ 0 ≤ ((relOd k k (x0.os.z k)).ls.z j).b ∧ ((relOd k k (x0.os.z k)).ls.z j).b ≤ 200
          rw [relOd_later _ (Nat.le_refl _)]
          intro j hj
          have e := HS0.out.os.2 k hlt
          have hl := badLine_no (HR.out.fm.line k (by rw [← HS0.out.os.1]; exact hlt) j (by rw [← e.2.1]; exact hj))
          rw [e.2.2 j hj]
          omega
        clear g1 g1' g3
        go_wp2_with fail
        refine (release_any (relO x0 k) k w1.heap.size gO wr HSk.out HOk.out hlt HG.out HBD.out).mono ?_
        rintro e w6 ⟨y, rfl, y0, y1, hO6, hB6, hK6⟩
        have HN : Hid (OwnS w1.heap.size w6 (relO x0 (k + 1)) ∧ Blk w6 B7 31 7 (fun j => x0.cells.getD j default) ∧ Below W0.heap.size W0 w6 ∧ w1.heap.size ≤ w6.heap.size) := by
          refine ⟨?_, hK6 _ _ _ _ (by decide) (by decide) HKk.out, HBk.out.trans (hB6.mono A1), Nat.le_trans HSk.out hB6.size⟩
          have e : ((relO x0 k).os.z k).k = (x0.os.z k).k := by show (relOd k k (x0.os.z k)).k = _; rw [relOd_later _ (Nat.le_refl _)]
          by_cases c : (x0.os.z k).k = 0
          · rw [← relO_hit c, ← y0 (by rw [e]; exact c)]; exact hO6
          · rw [← relO_miss c, ← y1 (by rw [e]; exact c)]; exact hO6
        clear y0 y1 hO6 hB6 hK6 HOk HKk HBk HSk u1 u2 u3 HBD HG
        go_wp2_with fail
        go_roundw
        case rel => exact ⟨k + 1, by omega, by go_num, HN.out.1, HN.out.2.1, HN.out.2.2.1, HN.out.2.2.2⟩
        case measure => simp [intOf]; omega
      · have hkn : k = x0.os.n := by omega
        subst hkn
        obtain ⟨y0, ya, yn, yc, HI, HYS⟩ : ∃ y : St, x0.os.a = y.os.a ∧ x0.os.n = y.os.n ∧ x0.os.c = y.os.c ∧ Hid (RelI p s y w1.heap.size B7 W0 y wr) ∧ Hid (SameT y (relO s s.os.n)) := ⟨relO x0 x0.os.n, rfl, rfl, rfl, ⟨HOk.out, HOk.out, HKk.out, HBk.out, HSk.out⟩, by have h := relO_same HS0.out x0.os.n; rw [HS0.out.os.1] at h ⊢; exact h⟩
        have u1 : wr.cell? ⟨B7, 1, none⟩ = some (.slice x0.os.a x0.os.n x0.os.c) := HKk.out.cell (j := 1) (by decide)
        have u2 := HKk.out.lt
        go_wp2_with fail
        rw [ya, yn, yc]
        rw [yn, yc] at ol
        rw [yc] at oc
        rw [yn] at on4
        clear u1 u2 ya yn yc HOk HKk HBk HSk HS0 hk hlt
        go_loopw [37] (fun kv wk => ∃ (i : Nat) (cur : St), i ≤ y0.os.n ∧ kv = .int .i64 i ∧ Hid (RelI p s y0 w1.heap.size B7 W0 cur wk) ∧ Hid (RelA p s i cur)) (fun kv _ => y0.os.n - (intOf kv).toNat)
        case atStart => exact ⟨0, y0, Nat.zero_le _, rfl, HI, HYS.out⟩
        case round =>
          clear HI
          obtain ⟨i, cur, hi, rfl, HI, HA⟩ := hrel
          by_cases hlt : i < y0.os.n
          · have q0 : (0 : Int) ≤ (i : Int) := by omega
            have q1 : (i : Int) < (y0.os.n : Int) := by omega
            obtain ⟨bo, oo, hoa, hbo, z0, z1, hlk⟩ := HI.out.own0.at.os.ods i hlt
            have eo := HYS.out.os.2 i hlt
            have his : i < s.os.n := by have := HYS.out.os.1; show i < s.os.n; exact this ▸ hlt
            have HEN : Hid ((y0.os.z i).ls.n = (s.os.z i).ls.n) := eo.2.1.trans (relM_eq s i).symm
            have HEK : Hid ((y0.os.z i).k = ((relO s s.os.n).os.z i).k) := eo.1
            have HEL : Hid (∀ j, j < (y0.os.z i).ls.n → ((y0.os.z i).ls.z j).n = (((relO s s.os.n).os.z i).ls.z j).n) := fun j hj => by rw [eo.2.2 j hj]
            have ll := hlk.le
            have lc := hlk.cap
            unfold maxLen at lc
            have ln3 : (y0.os.z i).ls.n ≤ 3 := by rw [HEN.out]; exact (HR.out.fm.lns i his).2
            rw [hoa]
            clear hoa eo
            obtain ⟨W, hW, hWB⟩ : ∃ W, wr.alloc (.cells #[.int .i64 (y0.os.z i).k, .slice (y0.os.z i).ls.a (y0.os.z i).ls.n (y0.os.z i).ls.c] 47) = W ∧ Below wr.heap.size wr W := ⟨_, rfl, (Below.refl _ _).alloc (Nat.le_refl _) _⟩
            have HW : Hid (wr.alloc (.cells #[.int .i64 (y0.os.z i).k, .slice (y0.os.z i).ls.a (y0.os.z i).ls.n (y0.os.z i).ls.c] 47) = W) := hW
            have HIW : Hid (RelI p s y0 w1.heap.size B7 W0 cur W) := HI.out.below hWB
            have HLK : Hid ((y0.os.z i).ls.At W) := hlk.below hWB
            clear hW hlk
            by_cases hk : (y0.os.z i).k = 1
            · have HK1 : Hid (((relO s s.os.n).os.z i).k = 1) := by rw [← HEK.out]; exact hk
              rw [hk] at z0 HW
              clear hk HEK
              go_wp2_with fail
              rw [HW.out]
              clear z0 z1 hbo HW q0 q1
              go_loopw [48] (fun jv wk => ∃ (j : Nat) (cr : St), j ≤ (y0.os.z i).ls.n ∧ jv = .int .i64 j ∧ Hid (RelI p s y0 w1.heap.size B7 W0 cr wk) ∧ Hid ((y0.os.z i).ls.At wk) ∧ Hid (RelB p s i j cr)) (fun jv _ => (y0.os.z i).ls.n - (intOf jv).toNat)
              case atStart => exact ⟨0, cur, Nat.zero_le _, rfl, HIW, HLK, HA.out.row⟩
              case round =>
                clear HIW HLK HI HA
                obtain ⟨j, cr, hj, rfl, HI, HLK, HB⟩ := hrel
                by_cases hjl : j < (y0.os.z i).ls.n
                · have q2 : (0 : Int) ≤ (j : Int) := by omega
                  have q3 : (j : Int) < ((y0.os.z i).ls.n : Int) := by omega
                  obtain ⟨bl, ob, hla, hbl, y1, y2, y3, y4⟩ := HLK.out.hds j hjl
                  rw [hla]
                  have hjs : j < (s.os.z i).ls.n := by rw [← HEN.out]; exact hjl
                  have HQ : Hid (relQ s i j = ((y0.os.z i).ls.z j).n) := by show relQ s i j = _; rw [HEL.out j hjl]; exact if_pos HK1.out
                  have HSI : Hid (StepIn p (-1) cr i j ((y0.os.z i).ls.z j).n) := by show StepIn _ _ _ _ _ _; rw [← HQ.out]; exact HB.out.stepIn HR.out his hjs
                  have HK2 : Hid ((cr.os.z i).k = 1) := ((HB.out.pos HR.out his (Nat.le_of_lt hjs)).al.kind i his).1.trans HK1.out
                  have HE0 : Hid (allocE p cr i j ((y0.os.z i).ls.z j).n (-1) = 0) := by have I := HSI.out.allocIn HK2.out; exact I.less ⟨I.n0, Int.le_refl _⟩
                  have HST : Hid (∀ x, Step p (-1) cr i j ((y0.os.z i).ls.z j).n x → RelB p s i (j + 1) x) := fun x T => HB.out.step (by rw [HQ.out]; exact T)
                  clear hla HSI HK2 HB
                  generalize (y0.os.z i).ls.z j = Z at *
                  obtain ⟨W2, hW2, hWB2⟩ : ∃ W, wr.alloc (.cells #[.int .i64 Z.o, .int .i64 Z.l, .int .i64 Z.b, .int .i64 Z.n] 49) = W ∧ Below wr.heap.size wr W := ⟨_, rfl, (Below.refl _ _).alloc (Nat.le_refl _) _⟩
                  have HW2 : Hid (wr.alloc (.cells #[.int .i64 Z.o, .int .i64 Z.l, .int .i64 Z.b, .int .i64 Z.n] 49) = W2) := hW2
                  have HI2 : Hid (RelI p s y0 w1.heap.size B7 W0 cr W2) := HI.out.below hWB2
                  have HLK2 : Hid ((y0.os.z i).ls.At W2) := HLK.out.below hWB2
                  obtain ⟨⟨⟨l1, d0, d1⟩, l2, c0, c1, c2, c3, c4, c5, c6⟩, hpk, hsk, hBw, hz⟩ := HC.out W2 HI2.out.bel
                  obtain ⟨m1, p0, p1, p2, p3, p4, p5, p6⟩ := Boxed.of HI2.out.box
                  have HPK : Hid (p.At W2) := hpk
                  clear hW2 hWB2 hpk hsk hBw hz l2 c0 c1 c2 c3 c4 c5 c6 HI HLK
                  rw [← HW2.out] at l1 d0 d1 m1 p0 p1 p2 p3 p4 p5 p6
                  go_wp2_with fail
                  rw [HW2.out]
                  clear HW2 l1 d0 d1 m1 p0 p1 p2 p3 p4 p5 p6 hbl y1 y2 y3 y4
                  refine (Take_any p cr i j Z.n (-1) W2 HPK.out HI2.out.own.at).mono ?_
                  rintro e w8 ⟨x, rfl, xat, xok, xown, hB8⟩
                  have HT : Hid (RelB p s i (j + 1) x) := HST.out x (xok.1 HE0.out)
                  have HOX : Hid (OwnS w1.heap.size w8 x) := (xown HE0.out).mono HI2.out.le
                  have HI8 : Hid (RelI p s y0 w1.heap.size B7 W0 cr w8) := HI2.out.below hB8
                  have HLK8 : Hid ((y0.os.z i).ls.At w8) := HLK2.out.below hB8
                  have hb8 := HI8.out.box
                  have zl := hb8.lt
                  have zf0 := hb8.frozen 0
                  have zc0 := hb8.cell (j := 0) (by decide)
                  have zf1 := hb8.frozen 1
                  have zc1 := hb8.cell (j := 1) (by decide)
                  have zf2 := hb8.frozen 2
                  have zc2 := hb8.cell (j := 2) (by decide)
                  have zf3 := hb8.frozen 3
                  have zc3 := hb8.cell (j := 3) (by decide)
                  have zf4 := hb8.frozen 4
                  have zc4 := hb8.cell (j := 4) (by decide)
                  have zf5 := hb8.frozen 5
                  have zc5 := hb8.cell (j := 5) (by decide)
                  have zf6 := hb8.frozen 6
                  have zc6 := hb8.cell (j := 6) (by decide)
                  clear hb8 xat xok xown hB8 HST HI2 HLK2 HPK
                  generalize allocL p cr i j Z.n (-1) = LL at *
                  generalize allocE p cr i j Z.n (-1) = EE at *
                  simp only [St.val]
                  go_wp2_with fail
                  have HN : Hid (RelI p s y0 w1.heap.size B7 W0 x (set7 w8 B7 (.slice x.on.a x.on.n x.on.c) (.slice x.os.a x.os.n x.os.c) (.slice x.hs.a x.hs.n x.hs.c) (.slice x.ms.a x.ms.n x.ms.c) (.slice x.si.a x.si.n x.si.c) (.slice x.so.a x.so.n x.so.c) (.slice x.sf.a x.sf.n x.sf.c)) ∧ (y0.os.z i).ls.At (set7 w8 B7 (.slice x.on.a x.on.n x.on.c) (.slice x.os.a x.os.n x.os.c) (.slice x.hs.a x.hs.n x.hs.c) (.slice x.ms.a x.ms.n x.ms.c) (.slice x.si.a x.si.n x.si.c) (.slice x.so.a x.so.n x.so.c) (.slice x.sf.a x.sf.n x.sf.c))) := by
                    have K := set7_blk HI8.out.box (.slice x.on.a x.on.n x.on.c) (.slice x.os.a x.os.n x.os.c) (.slice x.hs.a x.hs.n x.hs.c) (.slice x.ms.a x.ms.n x.ms.c) (.slice x.si.a x.si.n x.si.c) (.slice x.so.a x.so.n x.so.c) (.slice x.sf.a x.sf.n x.sf.c)
                    have hb := set7_below (b := B7) HI8.out.bel (Nat.le_trans A1 A27) (.slice x.on.a x.on.n x.on.c) (.slice x.os.a x.os.n x.os.c) (.slice x.hs.a x.hs.n x.hs.c) (.slice x.ms.a x.ms.n x.ms.c) (.slice x.si.a x.si.n x.si.c) (.slice x.so.a x.so.n x.so.c) (.slice x.sf.a x.sf.n x.sf.c)
                    refine ⟨⟨OwnS.set7 HI8.out.own0 HI8.out.box (.slice x.on.a x.on.n x.on.c) (.slice x.os.a x.os.n x.os.c) (.slice x.hs.a x.hs.n x.hs.c) (.slice x.ms.a x.ms.n x.ms.c) (.slice x.si.a x.si.n x.si.c) (.slice x.so.a x.so.n x.so.c) (.slice x.sf.a x.sf.n x.sf.c), OwnS.set7 HOX.out HI8.out.box (.slice x.on.a x.on.n x.on.c) (.slice x.os.a x.os.n x.os.c) (.slice x.hs.a x.hs.n x.hs.c) (.slice x.ms.a x.ms.n x.ms.c) (.slice x.si.a x.si.n x.si.c) (.slice x.so.a x.so.n x.so.c) (.slice x.sf.a x.sf.n x.sf.c), K.congr (fun j hj => by match j, hj with | 0, _ => rfl | 1, _ => rfl | 2, _ => rfl | 3, _ => rfl | 4, _ => rfl | 5, _ => rfl | 6, _ => rfl), hb, ?_⟩, ?_⟩
                    · have := HI8.out.le
                      simpa [set7] using this
                    · exact ((OwnS.set7 HI8.out.own0 HI8.out.box (.slice x.on.a x.on.n x.on.c) (.slice x.os.a x.os.n x.os.c) (.slice x.hs.a x.hs.n x.hs.c) (.slice x.ms.a x.ms.n x.ms.c) (.slice x.si.a x.si.n x.si.c) (.slice x.so.a x.so.n x.so.c) (.slice x.sf.a x.sf.n x.sf.c)).at.os.ods i hlt).choose_spec.choose_spec.2.2.2.2
                  unfold set7 at HN
                  go_roundw
                  case rel => exact ⟨j + 1, x, by omega, by go_num, HN.out.1, HN.out.2, HT⟩
                  case measure => simp [intOf]; omega
                · have hjn : j = (y0.os.z i).ls.n := by omega
                  subst hjn
                  have HN : Hid (RelA p s (i + 1) cr) := by have h := HB.out; rw [HEN.out] at h; exact h.next
                  go_wp2_with fail
                  go_roundw
                  case rel => exact ⟨i + 1, cr, by omega, by go_num, HI, HN⟩
                  case measure => simp [intOf]; omega
            · have HN : Hid (RelA p s (i + 1) cur) := HA.out.skip HR.out his (by rw [← HEK.out]; exact hk)
              have hk' : ((y0.os.z i).k != 1) = true := by simpa using hk
              clear hk HEK
              generalize (y0.os.z i).k = KK at *
              go_wp2_with fail
              rw [HW.out]
              go_roundw
              case rel => exact ⟨i + 1, cur, by omega, by go_num, HIW, HN⟩
              case measure => simp [intOf]; omega
          · have hin : i = y0.os.n := by omega
            have HRL : Hid (Released p s cur) := by have h := HA.out; rw [hin, HYS.out.os.1] at h; exact h
            obtain ⟨m1, p0, p1, p2, p3, p4, p5, p6⟩ := Boxed.of HI.out.box
            obtain ⟨-, -, -, hBw, hz⟩ := HC.out wr HI.out.bel
            have HZ : Hid (Below w.heap.size w wr ∧ Blk wr (w.heap.size + 2) 31 7 (fun _ => .slice .none 0 0)) := ⟨hBw, hz⟩
            have zl := hz.lt
            have zf0 := hz.frozen 0
            have zc0 := hz.cell (j := 0) (by decide)
            have zf1 := hz.frozen 1
            have zc1 := hz.cell (j := 1) (by decide)
            have zf2 := hz.frozen 2
            have zc2 := hz.cell (j := 2) (by decide)
            have zf3 := hz.frozen 3
            have zc3 := hz.cell (j := 3) (by decide)
            have zf4 := hz.frozen 4
            have zc4 := hz.cell (j := 4) (by decide)
            have zf5 := hz.frozen 5
            have zc5 := hz.cell (j := 5) (by decide)
            have zf6 := hz.frozen 6
            have zc6 := hz.cell (j := 6) (by decide)
            have hlow := (HC.out _ (Below.refl _ _)).2.2.2.1.size
            clear hBw hz
            go_wp2_with fail
            have KZ := set7_blk HZ.out.2 (.slice cur.on.a cur.on.n cur.on.c) (.slice cur.os.a cur.os.n cur.os.c) (.slice cur.hs.a cur.hs.n cur.hs.c) (.slice cur.ms.a cur.ms.n cur.ms.c) (.slice cur.si.a cur.si.n cur.si.c) (.slice cur.so.a cur.so.n cur.so.c) (.slice cur.sf.a cur.sf.n cur.sf.c)
            have hbz := set7_below (b := w.heap.size + 2) HZ.out.1 (by omega) (.slice cur.on.a cur.on.n cur.on.c) (.slice cur.os.a cur.os.n cur.os.c) (.slice cur.hs.a cur.hs.n cur.hs.c) (.slice cur.ms.a cur.ms.n cur.ms.c) (.slice cur.si.a cur.si.n cur.si.c) (.slice cur.so.a cur.so.n cur.so.c) (.slice cur.sf.a cur.sf.n cur.sf.c)
            have hOz := OwnS.set7 HI.out.own HZ.out.2 (.slice cur.on.a cur.on.n cur.on.c) (.slice cur.os.a cur.os.n cur.os.c) (.slice cur.hs.a cur.hs.n cur.hs.c) (.slice cur.ms.a cur.ms.n cur.ms.c) (.slice cur.si.a cur.si.n cur.si.c) (.slice cur.so.a cur.so.n cur.so.c) (.slice cur.sf.a cur.sf.n cur.sf.c)
            unfold set7 at KZ hbz hOz
            obtain ⟨c0', c1', c2', c3', c4', c5', c6'⟩ := box_cells KZ
            refine bodyPost_ret (v := .tuple #[cur.val, .int .i64 0]) (by simp [results, Tryz.results5, go_sem, St.val, c0', c1', c2', c3', c4', c5', c6']) rfl ?_
            exact ⟨cur, by rw [H0.out]; rfl, hOz.at, ⟨fun _ => HRL.out, fun h => absurd H0.out h⟩, fun _ => hOz.mono (by omega), hbz⟩
  · have HNE : Hid (¬ stateE p s = 0) := h0
    have g0 : (stateE p s != 0) = true := by simpa using h0
    clear h0 hpk hsk
    have zl := hz.lt
    have zf0 := hz.frozen 0
    have zc0 := hz.cell (j := 0) (by decide)
    have zf1 := hz.frozen 1
    have zc1 := hz.cell (j := 1) (by decide)
    have zf2 := hz.frozen 2
    have zc2 := hz.cell (j := 2) (by decide)
    have zf3 := hz.frozen 3
    have zc3 := hz.cell (j := 3) (by decide)
    have zf4 := hz.frozen 4
    have zc4 := hz.cell (j := 4) (by decide)
    have zf5 := hz.frozen 5
    have zc5 := hz.cell (j := 5) (by decide)
    have zf6 := hz.frozen 6
    have zc6 := hz.cell (j := 6) (by decide)
    go_wp2_with fail
    have KZ := set7_blk hz (.slice .none 0 0) (.slice .none 0 0) (.slice .none 0 0) (.slice .none 0 0) (.slice .none 0 0) (.slice .none 0 0) (.slice .none 0 0)
    have hbz := set7_below (b := w.heap.size + 2) hBw (by omega) (.slice .none 0 0) (.slice .none 0 0) (.slice .none 0 0) (.slice .none 0 0) (.slice .none 0 0) (.slice .none 0 0) (.slice .none 0 0)
    unfold set7 at KZ hbz
    obtain ⟨c0', c1', c2', c3', c4', c5', c6'⟩ := box_cells KZ
    refine bodyPost_ret (v := .tuple #[noneS.val, .int .i64 (stateE p s)]) (by simp [results, Tryz.results5, go_sem, noneS, St.val, c0', c1', c2', c3', c4', c5', c6']) rfl ?_
    exact ⟨noneS, rfl, noneS_at _, ⟨fun h => absurd h HNE.out, fun _ => ⟨rfl, rfl, rfl, rfl, rfl, rfl, rfl⟩⟩, fun h => absurd h HNE.out, hbz⟩
end Go.Proofs.YtbcacebifpagpadGreat
namespace Go.Proofs.YtbcacebifpagpadGreat
open Go.RowKit Go.Shelf Go.Sort
set_option linter.unusedVariables false
def cancelE (p : Pl) (s : St) (order : Int) : Int := if stateE p s = 0 then (if inB order 0 ((s.os.n : Int) - 1) then (if (s.os.z order.toNat).k = 2 then 6 else 0) else 4) else stateE p s
theorem cancelE_state {p : Pl} {s : St} {order : Int} (h : ¬ stateE p s = 0) : cancelE p s order = stateE p s := by unfold cancelE; rw [if_neg h]
theorem cancelE_none {p : Pl} {s : St} {order : Int} (h : stateE p s = 0) (h1 : inB order 0 ((s.os.n : Int) - 1) = false) : cancelE p s order = 4 := by unfold cancelE; rw [if_pos h, h1]; rfl
theorem cancelE_done {p : Pl} {s : St} {order : Int} (h : stateE p s = 0) (h1 : inB order 0 ((s.os.n : Int) - 1) = true) (h2 : (s.os.z order.toNat).k = 2) : cancelE p s order = 6 := by unfold cancelE; rw [if_pos h, h1, if_pos h2]; rfl
theorem cancelE_ok {p : Pl} {s : St} {order : Int} (h : stateE p s = 0) (h1 : inB order 0 ((s.os.n : Int) - 1) = true) (h2 : ¬ (s.os.z order.toNat).k = 2) : cancelE p s order = 0 := by unfold cancelE; rw [if_pos h, h1, if_neg h2]; rfl
def cancelT (s : St) (o : Nat) : St := lackS (kindS (withHolds s (dropH s.hs (fun x => x.o == (o : Int)))) o 2) o (s.os.z o).ls.n
theorem cancelT_os (s : St) (o i : Nat) : (cancelT s o).os.z i = if i = o then ⟨2, lackL (s.os.z i).ls (s.os.z o).ls.n⟩ else s.os.z i := by
  show (if i = o then (⟨(if i = o then (⟨2, (s.os.z i).ls⟩ : Od) else s.os.z i).k, lackL (if i = o then (⟨2, (s.os.z i).ls⟩ : Od) else s.os.z i).ls (s.os.z o).ls.n⟩ : Od) else (if i = o then (⟨2, (s.os.z i).ls⟩ : Od) else s.os.z i)) = _
  by_cases h : i = o
  · rw [if_pos h, if_pos h, if_pos h]
  · rw [if_neg h, if_neg h, if_neg h]
theorem cancel_same {x s : St} (h : SameT x s) {o : Nat} (ho : o < x.os.n) : SameT (cancelT x o) (cancelT s o) := by
  have eo := h.os.2 o ho
  have d := dropH_same h.hs.1 h.hs.2 (fun y => y.o == (o : Int))
  refine ⟨h.on, ⟨h.os.1, fun i hi => ?_⟩, ⟨d.1, fun j _ => by show (dropH x.hs _).z j = (dropH s.hs _).z j; rw [d.2]⟩, h.ms, h.si, h.so, h.sf⟩
  have e := h.os.2 i hi
  rw [cancelT_os, cancelT_os]
  by_cases hio : i = o
  · subst hio
    rw [if_pos rfl, if_pos rfl]
    refine ⟨rfl, e.2.1, fun j hj => ?_⟩
    show (if j < (x.os.z i).ls.n then lackH ((x.os.z i).ls.z j) else (x.os.z i).ls.z j) = if j < (s.os.z i).ls.n then lackH ((s.os.z i).ls.z j) else (s.os.z i).ls.z j
    have hj' : j < (x.os.z i).ls.n := hj
    rw [if_pos hj', if_pos (by omega), e.2.2 j hj']
  · rw [if_neg hio, if_neg hio]
    exact e
set_option maxRecDepth 100000 in
set_option maxHeartbeats 8000000 in
theorem Cancel_any (p : Pl) (s : St) (order : Int) (w : World) (hp : p.At w) (hs : s.At w) :
    Calls Tryz.prog 6 #[p.val, s.val, .int .i64 order] w fun e w' => ∃ x : St, e = .returned (.tuple #[x.val, .int .i64 (cancelE p s order)]) ∧ x.At w' ∧ ActOK (cancelE p s order) (cancelT s order.toNat) x ∧ (cancelE p s order = 0 → OwnS w.heap.size w' x) ∧ Below w.heap.size w w' := by
  obtain ⟨W0, hW, hWB, X0, K0, Z0⟩ : ∃ W, ((((w.alloc (.cells #[.slice p.ab p.nb p.cb, .slice p.sa p.ns p.cs] 25)).alloc (.cells s.cells 31)).alloc (.cells #[.int .i64 order] 3)).alloc (.cells #[.slice .none 0 0, .slice .none 0 0, .slice .none 0 0, .slice .none 0 0, .slice .none 0 0, .slice .none 0 0, .slice .none 0 0] 31)) = W ∧ Below w.heap.size w W ∧ Boxes W w.heap.size (w.heap.size + 1) p s ∧ Blk W (w.heap.size + 2) 3 1 (fun _ => .int .i64 order) ∧ Blk W (w.heap.size + 3) 31 7 (fun _ => .slice .none 0 0) :=
    ⟨_, rfl, ((two_below _ _ _).alloc (by simp; omega) _).alloc (by simp; omega) _, ((boxes_new w p s _ _).below ((Below.refl _ _).alloc (Nat.le_refl _) _)).below ((Below.refl _ _).alloc (Nat.le_refl _) _), ((Blk.mk' (cur := #[.int .i64 order]) (by simp) rfl).congr (fun j hj => by match j, hj with | 0, _ => rfl)).alloc _, (Blk.mk' (cur := #[.slice .none 0 0, .slice .none 0 0, .slice .none 0 0, .slice .none 0 0, .slice .none 0 0, .slice .none 0 0, .slice .none 0 0]) (by simp) rfl).congr (fun j hj => by match j, hj with | 0, _ => rfl | 1, _ => rfl | 2, _ => rfl | 3, _ => rfl | 4, _ => rfl | 5, _ => rfl | 6, _ => rfl)⟩
  have HC : Hid (∀ wk, Below W0.heap.size W0 wk → Boxes wk w.heap.size (w.heap.size + 1) p s ∧ p.At wk ∧ s.At wk ∧ Below w.heap.size w wk ∧ Blk wk (w.heap.size + 3) 31 7 (fun _ => .slice .none 0 0) ∧ Blk wk (w.heap.size + 2) 3 1 (fun _ => .int .i64 order)) := fun wk h => ⟨X0.below h, (hp.below hWB).below h, (hs.below hWB).below h, hWB.trans (h.mono hWB.size), Z0.below h, K0.below h⟩
  have HW : Hid ((((w.alloc (.cells #[.slice p.ab p.nb p.cb, .slice p.sa p.ns p.cs] 25)).alloc (.cells #[.slice s.on.a s.on.n s.on.c, .slice s.os.a s.os.n s.os.c, .slice s.hs.a s.hs.n s.hs.c, .slice s.ms.a s.ms.n s.ms.c, .slice s.si.a s.si.n s.si.c, .slice s.so.a s.so.n s.so.c, .slice s.sf.a s.sf.n s.sf.c] 31)).alloc (.cells #[.int .i64 order] 3)).alloc (.cells #[.slice .none 0 0, .slice .none 0 0, .slice .none 0 0, .slice .none 0 0, .slice .none 0 0, .slice .none 0 0, .slice .none 0 0] 31) = W0) := hW
  have zlt0 := Z0.lt
  have osl := hs.os.le
  have osc0 := hs.os.cap
  have osc := osc0
  have osn0 : s.os.n ≤ maxLen := Nat.le_trans osl osc0
  unfold maxLen at osc
  clear hW X0 Z0 K0 hp hs
  unfold Pl.val St.val
  go_enter Tryz.func6, Tryz.ntmps6
  go_wp2_with fail
  rw [HW.out]
  obtain ⟨X, hpk, hsk, hBw, hz, kb⟩ := HC.out W0 (Below.refl _ _)
  refine (stateCheck_any p s W0 hpk hsk).mono ?_
  rintro e w1 ⟨rfl, hB⟩
  clear X hpk hsk hBw hz kb HW
  obtain ⟨⟨⟨l1, d0, d1⟩, l2, c0, c1, c2, c3, c4, c5, c6⟩, hpk, hsk, hBw, hz, kb⟩ := HC.out w1 hB
  have b0 := kb.lt
  have b1 : w1.cell? ⟨w.heap.size + 2, 0, none⟩ = some (.int .i64 order) := kb.cell (j := 0) (by decide)
  by_cases h0 : stateE p s = 0
  · have H0 : Hid (stateE p s = 0) := h0
    have HF : Hid (Formed p s) := (rightT h0).fm
    rw [h0]
    clear h0
    cases k1 : inB order 0 ((s.os.n : Int) - 1)
    · have HX : Hid (cancelE p s order = 4) := cancelE_none H0.out k1
      have HNE : Hid (¬ cancelE p s order = 0) := by show ¬ _; rw [HX.out]; decide
      clear hpk hsk kb
      have zl := hz.lt
      have zf0 := hz.frozen 0
      have zc0 := hz.cell (j := 0) (by decide)
      have zf1 := hz.frozen 1
      have zc1 := hz.cell (j := 1) (by decide)
      have zf2 := hz.frozen 2
      have zc2 := hz.cell (j := 2) (by decide)
      have zf3 := hz.frozen 3
      have zc3 := hz.cell (j := 3) (by decide)
      have zf4 := hz.frozen 4
      have zc4 := hz.cell (j := 4) (by decide)
      have zf5 := hz.frozen 5
      have zc5 := hz.cell (j := 5) (by decide)
      have zf6 := hz.frozen 6
      have zc6 := hz.cell (j := 6) (by decide)
      go_wp2_with (go_at_call 18; refine calls_to (Has_any _ _ _ osn0) ?_)
      have KZ := set7_blk hz (.slice .none 0 0) (.slice .none 0 0) (.slice .none 0 0) (.slice .none 0 0) (.slice .none 0 0) (.slice .none 0 0) (.slice .none 0 0)
      have hbz := set7_below (b := w.heap.size + 3) hBw (by omega) (.slice .none 0 0) (.slice .none 0 0) (.slice .none 0 0) (.slice .none 0 0) (.slice .none 0 0) (.slice .none 0 0) (.slice .none 0 0)
      unfold set7 at KZ hbz
      obtain ⟨c0', c1', c2', c3', c4', c5', c6'⟩ := box_cells KZ
      refine bodyPost_ret (v := .tuple #[noneS.val, .int .i64 4]) (by simp [results, Tryz.results6, go_sem, noneS, St.val, c0', c1', c2', c3', c4', c5', c6']) rfl ?_
      exact ⟨noneS, by rw [HX.out]; rfl, noneS_at _, ⟨fun h => absurd h (HNE.out), fun _ => ⟨rfl, rfl, rfl, rfl, rfl, rfl, rfl⟩⟩, fun h => absurd h (HNE.out), hbz⟩
    · have hin := inB_true k1
      obtain ⟨o, rfl⟩ := Int.eq_ofNat_of_zero_le hin.1
      have ho : o < s.os.n := by omega
      have q0 : (0 : Int) ≤ (o : Int) := by omega
      obtain ⟨bo, oo, hoa, hbo, z0, z1, hlk⟩ := hsk.os.ods o ho
      have HOA : Hid (s.os.a = some ⟨bo, oo, none⟩) := hoa
      rw [hoa] at c1
      clear hoa z1 hlk
      by_cases k2 : (s.os.z o).k = 2
      · have HX : Hid (cancelE p s (o : Int) = 6) := cancelE_done H0.out k1 k2
        have HNE : Hid (¬ cancelE p s (o : Int) = 0) := by show ¬ _; rw [HX.out]; decide
        rw [k2] at z0
        clear k2
        clear hpk hsk kb
        have zl := hz.lt
        have zf0 := hz.frozen 0
        have zc0 := hz.cell (j := 0) (by decide)
        have zf1 := hz.frozen 1
        have zc1 := hz.cell (j := 1) (by decide)
        have zf2 := hz.frozen 2
        have zc2 := hz.cell (j := 2) (by decide)
        have zf3 := hz.frozen 3
        have zc3 := hz.cell (j := 3) (by decide)
        have zf4 := hz.frozen 4
        have zc4 := hz.cell (j := 4) (by decide)
        have zf5 := hz.frozen 5
        have zc5 := hz.cell (j := 5) (by decide)
        have zf6 := hz.frozen 6
        have zc6 := hz.cell (j := 6) (by decide)
        go_wp2_with (go_at_call 18; refine calls_to (Has_any _ _ _ osn0) ?_)
        have KZ := set7_blk hz (.slice .none 0 0) (.slice .none 0 0) (.slice .none 0 0) (.slice .none 0 0) (.slice .none 0 0) (.slice .none 0 0) (.slice .none 0 0)
        have hbz := set7_below (b := w.heap.size + 3) hBw (by omega) (.slice .none 0 0) (.slice .none 0 0) (.slice .none 0 0) (.slice .none 0 0) (.slice .none 0 0) (.slice .none 0 0) (.slice .none 0 0)
        unfold set7 at KZ hbz
        obtain ⟨c0', c1', c2', c3', c4', c5', c6'⟩ := box_cells KZ
        refine bodyPost_ret (v := .tuple #[noneS.val, .int .i64 6]) (by simp [results, Tryz.results6, go_sem, noneS, St.val, c0', c1', c2', c3', c4', c5', c6']) rfl ?_
        exact ⟨noneS, by rw [HX.out]; rfl, noneS_at _, ⟨fun h => absurd h (HNE.out), fun _ => ⟨rfl, rfl, rfl, rfl, rfl, rfl, rfl⟩⟩, fun h => absurd h (HNE.out), hbz⟩
      · have HX : Hid (cancelE p s (o : Int) = 0) := cancelE_ok H0.out k1 k2
        have g2 : ((s.os.z o).k == 2) = false := by simpa using k2
        clear k2
        generalize (s.os.z o).k = KK at *
        have HCS : Hid (Calls Tryz.prog 15 #[s.val] w1 fun e w' => ∃ s' : St, e = .returned s'.val ∧ SameT s' s ∧ OwnS w1.heap.size w' s' ∧ Below w1.heap.size w1 w') := copyState_any p s w1 hsk HF.out
        have HKB : Hid (Blk w1 (w.heap.size + 2) 3 1 (fun _ => .int .i64 (o : Int))) := kb
        clear hpk hsk hBw hz kb
        go_wp2_with (go_at_call 18; refine calls_to (Has_any _ _ _ osn0) ?_)
        rw [← HOA.out]
        refine Calls.mono HCS.out ?_
        rintro e w4 ⟨x0, rfl, hsame, hown, hB4⟩
        clear HCS l1 d0 d1 l2 c0 c1 c2 c3 c4 c5 c6 z0 hbo k1 g2 b0 b1 HOA
        obtain ⟨W5, hW5, hWB5, K5⟩ : ∃ W, w4.alloc (.cells #[.slice x0.on.a x0.on.n x0.on.c, .slice x0.os.a x0.os.n x0.os.c, .slice x0.hs.a x0.hs.n x0.hs.c, .slice x0.ms.a x0.ms.n x0.ms.c, .slice x0.si.a x0.si.n x0.si.c, .slice x0.so.a x0.so.n x0.so.c, .slice x0.sf.a x0.sf.n x0.sf.c] 31) = W ∧ Below w4.heap.size w4 W ∧ Blk W w4.heap.size 31 7 (fun j => x0.cells.getD j default) := ⟨_, rfl, (Below.refl _ _).alloc (Nat.le_refl _) _, Blk.mk' rfl rfl⟩
        have HW5 : Hid (w4.alloc (.cells #[.slice x0.on.a x0.on.n x0.on.c, .slice x0.os.a x0.os.n x0.os.c, .slice x0.hs.a x0.hs.n x0.hs.c, .slice x0.ms.a x0.ms.n x0.ms.c, .slice x0.si.a x0.si.n x0.si.c, .slice x0.so.a x0.so.n x0.so.c, .slice x0.sf.a x0.sf.n x0.sf.c] 31) = W5) := hW5
        have hB15 := hB4.trans (hWB5.mono hB4.size)
        have hB5 := hB.trans (hB15.mono hB.size)
        have hown5 := OwnS.below hown hWB5
        have ho0 : o < x0.os.n := by rw [hsame.os.1]; exact ho
        have HS0 : Hid (SameT x0 s) := hsame
        have s2 : W5.cell? ⟨w4.heap.size, 2, none⟩ = some (.slice x0.hs.a x0.hs.n x0.hs.c) := K5.cell (j := 2) (by decide)
        have s1 := K5.lt
        have HD : Hid (Calls Tryz.prog 19 #[.slice x0.hs.a x0.hs.n x0.hs.c, .func (.func 20) #[] #[.pointer (some ⟨w.heap.size + 1 + 1, 0, none⟩)]] W5 fun e w' => e = .returned (.slice (dropH x0.hs (fun x => x.o == (o : Int))).a (dropH x0.hs (fun x => x.o == (o : Int))).n (dropH x0.hs (fun x => x.o == (o : Int))).c) ∧ OwnS w1.heap.size w' (withHolds x0 (dropH x0.hs (fun x => x.o == (o : Int)))) ∧ Below w1.heap.size W5 w' ∧ (∀ q t m g, t ≠ 55 → Blk W5 q t m g → Blk w' q t m g)) :=
          DelS_any 20 #[.pointer (some ⟨w.heap.size + 1 + 1, 0, none⟩)] (fun x => x.o == (o : Int)) w1.heap.size x0 W5 hB15.size hown5 (enters_of Tryz.func20 (by kernel_rfl) rfl) (fun x wz hz => by
            have hlt := HKB.out.lt
            exact Cancel1_any (w.heap.size + 1 + 1) x o wz (Nat.lt_of_lt_of_le hlt (Nat.le_trans hB15.size hz.size)) ((hz.cell (p := ⟨w.heap.size + 2, 0, none⟩) hlt).trans ((hB15.cell (p := ⟨w.heap.size + 2, 0, none⟩) hlt).trans (HKB.out.cell (j := 0) (by decide)))))
        have HB5 : Hid (Below W0.heap.size W0 W5 ∧ W0.heap.size ≤ w1.heap.size ∧ w1.heap.size ≤ w4.heap.size ∧ w1.heap.size ≤ W5.heap.size) := ⟨hB5, hB.size, hB4.size, hB15.size⟩
        have HK5 : Hid (Blk W5 w4.heap.size 31 7 (fun j => x0.cells.getD j default)) := K5
        rw [← HW5.out] at s1 s2
        clear hW5 hown hown5 K5 hB4 hWB5 hB15 hB5 hsame hB
        simp only [St.val]
        go_wp2_with fail
        rw [HW5.out]
        clear s1 s2 HW5
        refine HD.out.mono ?_
        rintro e w6 ⟨rfl, hO6, hB6, hkeep⟩
        have HDP : Hid (∀ h : Hs, h = dropH x0.hs (fun x => x.o == (o : Int)) → h.a = x0.hs.a ∧ h.c = x0.hs.c) := fun h e => by rw [e]; exact ⟨rfl, rfl⟩
        obtain ⟨hD, hDe⟩ : ∃ hD, dropH x0.hs (fun x => x.o == (o : Int)) = hD := ⟨_, rfl⟩
        have HDE : Hid (dropH x0.hs (fun x => x.o == (o : Int)) = hD) := hDe
        rw [hDe] at hO6 ⊢
        clear HD hDe HDP
        obtain ⟨e1, e2, e3, e4⟩ := HB5.out
        have K6 := hkeep _ _ _ _ (by decide) HK5.out
        have hB06 := e1.trans (hB6.mono e2)
        have n1 := K6.lt
        have n2 := K6.frozen 2
        have n3 := K6.cell (j := 2) (by decide)
        have hO7 := hO6.box K6 2 (.slice hD.a hD.n hD.c)
        have K7 : Blk (w6.setCell ⟨w4.heap.size, 2, none⟩ (.slice hD.a hD.n hD.c)) w4.heap.size 31 7 (fun j => (withHolds x0 hD).cells.getD j default) := (K6.set 2 (.slice hD.a hD.n hD.c)).congr (fun j hj => by match j, hj with | 0, _ => rfl | 1, _ => rfl | 2, _ => rfl | 3, _ => rfl | 4, _ => rfl | 5, _ => rfl | 6, _ => rfl)
        have hB07 := hB06.setCell (p := ⟨w4.heap.size, 2, none⟩) (by show W0.heap.size ≤ w4.heap.size; omega) (.slice hD.a hD.n hD.c)
        have hs7 : w6.heap.size ≤ (w6.setCell ⟨w4.heap.size, 2, none⟩ (.slice hD.a hD.n hD.c)).heap.size := by simp
        have a6 := hB6.size
        obtain ⟨gO, g1, g2, g3⟩ := hO7.os.list (by show 0 < x0.os.n; omega)
        have g1' : x0.os.a = some ⟨gO, 0, none⟩ := g1
        have gne : ¬ gO = w4.heap.size := Blk.ne2 g3 K7 (by decide)
        have gne2 : ¬ w4.heap.size = gO := fun e => gne e.symm
        have u1 := (K7.cell (j := 1) (by decide))
        have u1' : (w6.setCell ⟨w4.heap.size, 2, none⟩ (.slice hD.a hD.n hD.c)).cell? ⟨w4.heap.size, 1, none⟩ = some (.slice x0.os.a x0.os.n x0.os.c) := u1
        rw [g1'] at u1'
        have u2 := g3.lt
        have u3 := g3.frozen (o * 2)
        have u4 := g3.cell (j := o * 2) (by show o * 2 < x0.os.n * 2; omega)
        generalize (flatO (withHolds x0 hD).os.n (withHolds x0 hD).os.z).getD (o * 2) default = VV at u4
        have k8 := hO7.kind (o := o) ho0 g1 2
        have K8 := K7.other (a := ⟨gO, o * 2, none⟩) gne2 (.int .i64 2)
        have hB08 := hB07.setCell (p := ⟨gO, o * 2, none⟩) (by show W0.heap.size ≤ gO; omega) (.int .i64 2)
        obtain ⟨⟨-, -⟩, -, -, hBx, -, kbx⟩ := HC.out _ hB07
        have u5 := kbx.cell (j := 0) (by decide)
        have u6 := kbx.lt
        have kne : ¬ w.heap.size + 2 = gO := by have := HKB.out.lt; omega
        have kne2 : ¬ gO = w.heap.size + 2 := fun e => kne e.symm
        have ko0 : o < (kindS (withHolds x0 hD) o 2).os.n := ho0
        have HBD : Hid (∀ j, j < ((kindS (withHolds x0 hD) o 2).os.z o).ls.n → (0 ≤ (((kindS (withHolds x0 hD) o 2).os.z o).ls.z j).l ∧ (((kindS (withHolds x0 hD) o 2).os.z o).ls.z j).l ≤ 200) ∧ 0 ≤ (((kindS (withHolds x0 hD) o 2).os.z o).ls.z j).b ∧ (((kindS (withHolds x0 hD) o 2).os.z o).ls.z j).b ≤ 200) := by
          show ∀ j, j < ((kindS (withHolds x0 hD) o 2).os.z o).ls.n → _
          rw [kindS_at]
          intro j hj
          have e := HS0.out.os.2 o ho0
          have hj' : j < (x0.os.z o).ls.n := hj
          have hl := badLine_no (HF.out.line o ho j (by omega))
          show (0 ≤ ((x0.os.z o).ls.z j).l ∧ ((x0.os.z o).ls.z j).l ≤ 200) ∧ 0 ≤ ((x0.os.z o).ls.z j).b ∧ ((x0.os.z o).ls.z j).b ≤ 200
          rw [e.2.2 j hj']
          omega
        have H8 : Hid (OwnS w1.heap.size ((w6.setCell ⟨w4.heap.size, 2, none⟩ (.slice hD.a hD.n hD.c)).setCell ⟨gO, o * 2, none⟩ (.int .i64 2)) (kindS (withHolds x0 hD) o 2) ∧ Blk ((w6.setCell ⟨w4.heap.size, 2, none⟩ (.slice hD.a hD.n hD.c)).setCell ⟨gO, o * 2, none⟩ (.int .i64 2)) w4.heap.size 31 7 (fun j => (withHolds x0 hD).cells.getD j default) ∧ Below W0.heap.size W0 ((w6.setCell ⟨w4.heap.size, 2, none⟩ (.slice hD.a hD.n hD.c)).setCell ⟨gO, o * 2, none⟩ (.int .i64 2)) ∧ w1.heap.size ≤ ((w6.setCell ⟨w4.heap.size, 2, none⟩ (.slice hD.a hD.n hD.c)).setCell ⟨gO, o * 2, none⟩ (.int .i64 2)).heap.size) := ⟨k8, K8, hB08, by simp; omega⟩
        have HG1 : Hid ((kindS (withHolds x0 hD) o 2).os.a = some ⟨gO, 0, none⟩) := g1
        have v1 : x0.os.n ≤ x0.os.c := hO7.os.le
        have v2 : x0.os.c ≤ maxLen := hO7.os.cap
        unfold maxLen at v2
        clear hO6 hB6 hkeep K6 hB06 hO7 K7 hB07 g1 g1' g3 u1 k8 K8 hB08 hBx kbx HK5
        go_wp2_with fail
        refine (lack_any (kindS (withHolds x0 hD) o 2) o w1.heap.size gO _ H8.out.2.2.2 H8.out.1 ko0 HG1.out HBD.out).mono ?_
        rintro e w9 ⟨rfl, hO9, hB9, hK9⟩
        have K9 := hK9 _ _ _ _ (by decide) (by decide) H8.out.2.1
        have hB09 := H8.out.2.2.1.trans (hB9.mono e2)
        clear n1 n2 n3 hs7 u1' u2 u3 u4 u5 u6 H8
        have HX9 : Hid (OwnS w1.heap.size w9 (lackS (kindS (withHolds x0 hD) o 2) o ((kindS (withHolds x0 hD) o 2).os.z o).ls.n)) := hO9
        have KC : Blk w9 w4.heap.size 31 7 (fun j => (cancelT x0 o).cells.getD j default) := K9.congr (fun j hj => by unfold cancelT; rw [HDE.out]; match j, hj with | 0, _ => rfl | 1, _ => rfl | 2, _ => rfl | 3, _ => rfl | 4, _ => rfl | 5, _ => rfl | 6, _ => rfl)
        have HO9 : Hid (OwnS w1.heap.size w9 (cancelT x0 o)) := by
          have h := HX9.out
          rw [kindS_at] at h
          show OwnS w1.heap.size w9 (cancelT x0 o)
          unfold cancelT
          rw [HDE.out]
          exact h
        have HTS : Hid (SameT (cancelT x0 o) (cancelT s o)) := cancel_same HS0.out ho0
        clear hO9 hB9 hK9 K9 HX9
        generalize cancelT x0 o = y at *
        obtain ⟨m1, p0, p1, p2, p3, p4, p5, p6⟩ := Boxed.of KC
        obtain ⟨-, -, -, hBw, hz, -⟩ := HC.out w9 hB09
        have HZ : Hid (Below w.heap.size w w9 ∧ Blk w9 (w.heap.size + 3) 31 7 (fun _ => .slice .none 0 0)) := ⟨hBw, hz⟩
        have zl := hz.lt
        have zf0 := hz.frozen 0
        have zc0 := hz.cell (j := 0) (by decide)
        have zf1 := hz.frozen 1
        have zc1 := hz.cell (j := 1) (by decide)
        have zf2 := hz.frozen 2
        have zc2 := hz.cell (j := 2) (by decide)
        have zf3 := hz.frozen 3
        have zc3 := hz.cell (j := 3) (by decide)
        have zf4 := hz.frozen 4
        have zc4 := hz.cell (j := 4) (by decide)
        have zf5 := hz.frozen 5
        have zc5 := hz.cell (j := 5) (by decide)
        have zf6 := hz.frozen 6
        have zc6 := hz.cell (j := 6) (by decide)
        have hlow := (HC.out _ HB5.out.1).2.2.2.1.size
        clear KC hBw hz
        go_wp2_with fail
        have KZ := set7_blk HZ.out.2 (.slice y.on.a y.on.n y.on.c) (.slice y.os.a y.os.n y.os.c) (.slice y.hs.a y.hs.n y.hs.c) (.slice y.ms.a y.ms.n y.ms.c) (.slice y.si.a y.si.n y.si.c) (.slice y.so.a y.so.n y.so.c) (.slice y.sf.a y.sf.n y.sf.c)
        have hbz := set7_below (b := w.heap.size + 3) HZ.out.1 (by omega) (.slice y.on.a y.on.n y.on.c) (.slice y.os.a y.os.n y.os.c) (.slice y.hs.a y.hs.n y.hs.c) (.slice y.ms.a y.ms.n y.ms.c) (.slice y.si.a y.si.n y.si.c) (.slice y.so.a y.so.n y.so.c) (.slice y.sf.a y.sf.n y.sf.c)
        have hOz := OwnS.set7 HO9.out HZ.out.2 (.slice y.on.a y.on.n y.on.c) (.slice y.os.a y.os.n y.os.c) (.slice y.hs.a y.hs.n y.hs.c) (.slice y.ms.a y.ms.n y.ms.c) (.slice y.si.a y.si.n y.si.c) (.slice y.so.a y.so.n y.so.c) (.slice y.sf.a y.sf.n y.sf.c)
        unfold set7 at KZ hbz hOz
        obtain ⟨c0', c1', c2', c3', c4', c5', c6'⟩ := box_cells KZ
        refine bodyPost_ret (v := .tuple #[y.val, .int .i64 0]) (by simp [results, Tryz.results6, go_sem, St.val, c0', c1', c2', c3', c4', c5', c6']) rfl ?_
        refine ⟨y, by rw [HX.out]; rfl, hOz.at, ⟨fun _ => HTS.out, fun h => absurd HX.out h⟩, fun _ => hOz.mono (by omega), hbz⟩
  · have HX : Hid (cancelE p s order = stateE p s) := cancelE_state h0
    have HNE : Hid (¬ cancelE p s order = 0) := by show ¬ _; rw [cancelE_state h0]; exact h0
    have g0 : (stateE p s != 0) = true := by simpa using h0
    clear h0
    clear hpk hsk kb
    have zl := hz.lt
    have zf0 := hz.frozen 0
    have zc0 := hz.cell (j := 0) (by decide)
    have zf1 := hz.frozen 1
    have zc1 := hz.cell (j := 1) (by decide)
    have zf2 := hz.frozen 2
    have zc2 := hz.cell (j := 2) (by decide)
    have zf3 := hz.frozen 3
    have zc3 := hz.cell (j := 3) (by decide)
    have zf4 := hz.frozen 4
    have zc4 := hz.cell (j := 4) (by decide)
    have zf5 := hz.frozen 5
    have zc5 := hz.cell (j := 5) (by decide)
    have zf6 := hz.frozen 6
    have zc6 := hz.cell (j := 6) (by decide)
    go_wp2_with fail
    have KZ := set7_blk hz (.slice .none 0 0) (.slice .none 0 0) (.slice .none 0 0) (.slice .none 0 0) (.slice .none 0 0) (.slice .none 0 0) (.slice .none 0 0)
    have hbz := set7_below (b := w.heap.size + 3) hBw (by omega) (.slice .none 0 0) (.slice .none 0 0) (.slice .none 0 0) (.slice .none 0 0) (.slice .none 0 0) (.slice .none 0 0) (.slice .none 0 0)
    unfold set7 at KZ hbz
    obtain ⟨c0', c1', c2', c3', c4', c5', c6'⟩ := box_cells KZ
    refine bodyPost_ret (v := .tuple #[noneS.val, .int .i64 (stateE p s)]) (by simp [results, Tryz.results6, go_sem, noneS, St.val, c0', c1', c2', c3', c4', c5', c6']) rfl ?_
    exact ⟨noneS, by rw [HX.out]; rfl, noneS_at _, ⟨fun h => absurd h (HNE.out), fun _ => ⟨rfl, rfl, rfl, rfl, rfl, rfl, rfl⟩⟩, fun h => absurd h (HNE.out), hbz⟩
end Go.Proofs.YtbcacebifpagpadGreat
namespace Go.Proofs.YtbcacebifpagpadGreat
open Go.RowKit
set_option linter.unusedVariables false
def updB (dn : Nat → Bool) (i j : Nat) : Bool := if j = i then true else dn j
theorem made_aux7 {P : Program} {ops : Array Oper} {Q : Exit → Act → World → Prop} {S : World → Prop} {T : Nat → Bool} {rem : List Nat} {L : Array Bool} {a1 : Act} {I : (Nat → Bool) → (Nat → Value) → World → Prop} {fuel : Nat} (hB : madeB5 ops rem L = true) (hT : ∀ r ∈ rem, T r = false)
    (step : ∀ i ∈ rem, ∀ (dn : Nat → Bool) (V : Nat → Value) (w : World) (K : Act → World → Prop), S w → dn i = false → (∀ d ∈ depsOf ops i, d ∈ rem → dn d = true) → I dn V w →
      (∀ v w', S w' → I (updB dn i) (upd V i v) w' → K ((putAll ops rem V a1).put (dstOf ops i) v) w') → wpOp P ops Q i K (putAll ops rem V a1) w)
    (done : ∀ (dn : Nat → Bool) (V : Nat → Value) (w : World), S w → (∀ j ∈ rem, dn j = true) → I dn V w → wpAnyT P ops Q S T fuel (mark L rem) (putAll ops rem V a1) w) :
    ∀ (m : Nat) (listed : Array Bool) (V : Nat → Value) (w : World), (rem.filter (fun r => !listed.getD r true)).length = m → listed.size = ops.size → (∀ j, j ∉ rem → listed[j]? = L[j]?) → Closed ops listed → S w → I (fun j => listed.getD j true) V w →
      wpAnyT P ops Q S T (m + fuel) listed (putAll ops rem V a1) w := by
  simp only [madeB5, Bool.and_eq_true, decide_eq_true_eq] at hB
  obtain ⟨⟨⟨⟨hoth, htopo⟩, hrem⟩, hLs⟩, hnd⟩ := hB
  have hrem' : ∀ r ∈ rem, r < ops.size ∧ L.getD r true = false := fun r hr => by
    have := List.all_eq_true.1 hrem r hr
    simpa using this
  intro m
  induction m with
  | zero =>
    intro listed V w hm hsz hag hcl hS hI
    have hall : ∀ r ∈ rem, listed.getD r true = true := fun r hr => by
      cases hq : listed.getD r true
      · have : r ∈ rem.filter (fun r => !listed.getD r true) := List.mem_filter.2 ⟨hr, by simp [hq]⟩
        rw [List.length_eq_zero_iff.1 hm] at this
        simp at this
      · rfl
    have hl : listed = mark L rem := by
      apply Array.ext_getElem?
      intro j
      by_cases hj : j < L.size
      · rw [mark_get rem L j hj]
        by_cases hjr : j ∈ rem
        · rw [if_pos hjr]
          have h1 := hall j hjr
          have h2 : j < listed.size := by omega
          simp only [Array.getD, h2, dif_pos] at h1
          simp [h2]
          exact h1
        · rw [if_neg hjr]; exact hag j hjr
      · rw [Array.getElem?_eq_none (by omega), Array.getElem?_eq_none (by rw [mark_size]; omega)]
    rw [Nat.zero_add]
    have h := done (fun j => listed.getD j true) V w hS hall hI
    rw [← hl] at h
    exact h
  | succ m ih =>
    intro listed V w hm hsz hag hcl hS hI
    have hex : ∃ r ∈ rem, listed.getD r true = false := by
      have hne : rem.filter (fun r => !listed.getD r true) ≠ [] := fun e => by rw [e] at hm; simp at hm
      obtain ⟨x, hx⟩ := List.exists_mem_of_ne_nil _ hne
      have := List.mem_filter.1 hx
      exact ⟨x, this.1, by simpa using this.2⟩
    have hLl : ∀ d, L.getD d false = true → listed.getD d false = true := fun d hd => by
      by_cases hdr : d ∈ rem
      · have h1 := (hrem' d hdr).2
        have h2 : d < L.size := by have := (hrem' d hdr).1; omega
        simp only [Array.getD, h2, dif_pos] at h1 hd
        rw [h1] at hd; cases hd
      · have h1 := hag d hdr
        by_cases h2 : d < L.size
        · have h3 : d < listed.size := by omega
          simp only [Array.getD, h2, h3, dif_pos] at hd ⊢
          simp only [Array.getElem?_eq_getElem h2, Array.getElem?_eq_getElem h3, Option.some.injEq] at h1
          rw [Array.getInternal_eq_getElem] at hd ⊢
          rw [h1]; exact hd
        · simp [Array.getD, h2] at hd
    obtain ⟨r0, hr0, hr0r⟩ := topo_ready hsz [] rem htopo hLl (fun d hd => by simp at hd) (fun r hr => (hrem' r hr).1) hex
    rw [Nat.add_right_comm]
    refine ⟨fun h0 => absurd (h0 ▸ hr0r) (by simp), fun i hi => ?_⟩
    obtain ⟨hli, o, ho, hdep⟩ := mem_ready.1 hi
    have hdeps : ∀ d ∈ depsOf ops i, listed.getD d false = true := fun d hd => by
      unfold depsOf at hd
      rw [ho] at hd
      obtain ⟨e, he, rfl⟩ := List.mem_map.1 hd
      have := List.mem_filter.1 he
      exact hdep e (by simpa using this.1) this.2
    have hdt : ∀ d, listed.getD d false = true → listed.getD d true = true := fun d hd => by
      by_cases h2 : d < listed.size
      · simpa [Array.getD, h2] using hd
      · simp [Array.getD, h2]
    have hir : i ∈ rem := by
      cases hc : rem.contains i
      · exfalso
        have hlt : i < ops.size := (Array.getElem?_eq_some_iff.1 ho).1
        have hnr : i ∉ rem := fun h => by
          have := List.contains_iff_mem.2 h
          rw [this] at hc; cases hc
        have h1 := List.all_eq_true.1 hoth i (List.mem_range.2 hlt)
        have hLi : L.getD i true = false := by
          have h2 := hag i hnr
          have h3 : i < L.size := by omega
          have h4 : i < listed.size := by omega
          simp only [Array.getElem?_eq_getElem h3, Array.getElem?_eq_getElem h4, Option.some.injEq] at h2
          simp only [Array.getD, h3, h4, dif_pos] at hli ⊢
          rw [Array.getInternal_eq_getElem] at hli ⊢
          rw [← h2]; exact hli
        rw [hLi, hc] at h1
        simp only [Bool.false_or] at h1
        obtain ⟨q, hq, hq2⟩ := hex
        have h5 := List.all_eq_true.1 h1 q hq
        have h6 := hdt q (reach_listed hcl _ i q (ready_deps hi) h5)
        rw [hq2] at h6; cases h6
      · exact List.contains_iff_mem.1 hc
    have hin : i < listed.size := by rw [hsz]; exact (hrem' i hir).1
    have hlit : listed.getD i true = false := hli
    refine step i hir (fun j => listed.getD j true) V w _ hS hlit (fun d hd hdr => hdt d (hdeps d hd)) hI (fun v w' hS' hI' => ?_)
    refine ⟨fun _ => hS', ?_⟩
    rw [putAll_put hnd hir]
    have gset : ∀ j, (listed.setIfInBounds i true).getD j true = if j = i then true else listed.getD j true := fun j => by
      by_cases hj : j = i
      · subst hj; simp [Array.getD, hin]
      · rw [if_neg hj, getD_set_ne true (fun e => hj e.symm)]
    refine ih (listed.setIfInBounds i true) (upd V i v) w' ?_ (by simpa using hsz) (fun j hj => ?_) (hcl.set hi) hS' ?_
    · have hnodup : rem.Nodup := by
        exact (List.pairwise_map.1 hnd).imp (fun h e => h (by rw [e]))
      have hcount : (rem.filter (fun r => !(listed.setIfInBounds i true).getD r true)) = (rem.filter (fun r => !listed.getD r true)).erase i := by
        have e2 : rem.filter (fun r => !(listed.setIfInBounds i true).getD r true) = (rem.filter (fun r => !listed.getD r true)).filter (fun r => r != i) := by
          rw [List.filter_filter]
          refine List.filter_congr fun x hx => ?_
          rw [gset x]
          by_cases hxi : x = i <;> simp [hxi]
        rw [e2, ← List.Nodup.erase_eq_filter (hnodup.filter _)]
      rw [hcount, List.length_erase_of_mem (List.mem_filter.2 ⟨hir, by simp [hli]⟩), hm]
      rfl
    · rw [Array.getElem?_setIfInBounds, if_neg (fun e : i = j => hj (by rw [← e]; exact hir))]
      exact hag j hj
    · have e : (fun j => (listed.setIfInBounds i true).getD j true) = updB (fun j => listed.getD j true) i := funext fun j => gset j
      rw [e]
      exact hI'
def Made7 (P : Program) (ops : Array Oper) (Q : Exit → Act → World → Prop) (S : World → Prop) (rem : List Nat) (a1 : Act) : Prop :=
  ∃ I : (Nat → Bool) → (Nat → Value) → World → Prop, (∀ (dn : Nat → Bool) (V : Nat → Value) (w : World), S w → (∀ j ∈ rem, dn j = false) → I dn V w) ∧
    (∀ i ∈ rem, ∀ (dn : Nat → Bool) (V : Nat → Value) (w : World) (K : Act → World → Prop), S w → dn i = false → (∀ d ∈ depsOf ops i, d ∈ rem → dn d = true) → I dn V w →
      (∀ v w', S w' → I (updB dn i) (upd V i v) w' → K ((putAll ops rem V a1).put (dstOf ops i) v) w') → wpOp P ops (NoPanic Q) i K (putAll ops rem V a1) w) ∧
    (∀ (dn : Nat → Bool) (V : Nat → Value) (w : World), S w → (∀ j ∈ rem, dn j = true) → I dn V w → NoPanic Q .normal (putAll ops rem V a1) w)
theorem wp_region_made7 {P : Program} {l : List Oper} {Q : Exit → Act → World → Prop} {id : Nat} {a : Act} {w : World} (S : World → Prop) (ks rem : List Nat)
    (hm : P.follows .mixedOrders = true) (hs : Region.noSelect l.toArray = true) (hF : firstsB l.toArray ks (Array.replicate l.length false) = true) (hks : ks.all (fun k => decide (k < l.length)) = true) (hv : ((picks l ks).all vKind2) = true)
    (hM : madeB5 l.toArray rem (mark (Array.replicate l.length false) ks) = true) (hB : seqB l.toArray [] (mark (mark (Array.replicate l.length false) ks) rem) = true) (hl : ks.length + rem.length = l.length)
    (hS : S w.drew) (h : wpQuiet P l.toArray S (Made7 P l.toArray Q S rem) (picks l ks) a) : (Code.region id l.toArray true).wp P Q a w := by
  refine wp_region_noPanic (wp_region_any hm ?_)
  have hM' := hM
  simp only [madeB5, Bool.and_eq_true, decide_eq_true_eq] at hM'
  have key := wpAnyT_firsts (Q := NoPanic Q) (T := fun _ => false) (N := l.toArray.size) (fuel := rem.length) (w := w.drew) hs hS (fun c a a' w h => (h : False).elim) ks (picks l ks) _ a hF (fun k hk => ⟨rfl, fun j hj => by cases hj⟩) (Closed.none _ _) (picks_ok hks) hv h (fun a1 hK hcl => ?_)
  · have := wpAny_of_T _ _ _ _ key
    rw [hl] at this
    simpa using this
  · obtain ⟨I, init, step, done⟩ := hK
    have hall : (rem.filter (fun r => !(mark (Array.replicate l.length false) ks).getD r true)) = rem := by
      rw [List.filter_eq_self]
      intro r hr
      have := List.all_eq_true.1 hM'.1.1.2 r hr
      simp only [Bool.and_eq_true] at this
      exact this.2
    have hun : ∀ j ∈ rem, (mark (Array.replicate l.length false) ks).getD j true = false := fun j hj => by
      have := List.all_eq_true.1 hM'.1.1.2 j hj
      simp only [Bool.and_eq_true] at this
      simpa using this.2
    obtain ⟨V0, hV0⟩ : ∃ V0, putAll l.toArray rem V0 a1 = a1 := ⟨_, putAll_self a1 rem⟩
    have := made_aux7 (P := P) (Q := NoPanic Q) (S := S) (T := fun _ => false) (a1 := a1) (fuel := 0) (I := I) hM (fun _ _ => rfl) step
      (fun dn V w' hS' hd hI => wpAnyT_seq [] _ _ w' hB (fun t i hti => by simp at hti) (done dn V w' hS' hd hI))
      rem.length (mark (Array.replicate l.length false) ks) V0 w.drew (by rw [hall]) hM'.1.2 (fun _ _ => rfl) hcl hS (init _ _ _ hS hun)
    rw [hV0] at this
    exact this
end Go.Proofs.YtbcacebifpagpadGreat
namespace Go.Proofs.YtbcacebifpagpadGreat
open Go.RowKit Go.Shelf Go.Sort
set_option linter.unusedVariables false
structure CallJ (R : St → World → Prop) (E : Int) (W : World) (dn : Nat → Bool) (V : Nat → Value) (w : World) : Prop where
  bel : Below W.heap.size W w
  c3 : dn 3 = true → dn 2 = true
  c4 : dn 4 = true → dn 2 = true
  c7 : dn 7 = true → dn 2 = true ∧ dn 6 = true
  yd : dn 0 = true → ∃ g1 g2, V 0 = (yardP g1 g2).val ∧ Blk w g1 94 12 yardF ∧ Blk w g2 3 2 yardG
  box : dn 6 = true → ∃ B, V 6 = .pointer (some ⟨B, 0, none⟩) ∧ W.heap.size ≤ B ∧ ∃ f, Blk w B 31 7 f
  got : dn 2 = true → ∃ x, R x w ∧ V 2 = .tuple #[.agg #[.slice x.on.a x.on.n x.on.c, .slice x.os.a x.os.n x.os.c, .slice x.hs.a x.hs.n x.hs.c, .slice x.ms.a x.ms.n x.ms.c, .slice x.si.a x.si.n x.si.c, .slice x.so.a x.so.n x.so.c, .slice x.sf.a x.sf.n x.sf.c], .int .i64 E] ∧ (dn 3 = true → V 3 = .tuple #[.agg #[.slice x.on.a x.on.n x.on.c, .slice x.os.a x.os.n x.os.c, .slice x.hs.a x.hs.n x.hs.c, .slice x.ms.a x.ms.n x.ms.c, .slice x.si.a x.si.n x.si.c, .slice x.so.a x.so.n x.so.c, .slice x.sf.a x.sf.n x.sf.c], .int .i64 E]) ∧ (dn 4 = true → V 4 = .agg #[.slice x.on.a x.on.n x.on.c, .slice x.os.a x.os.n x.os.c, .slice x.hs.a x.hs.n x.hs.c, .slice x.ms.a x.ms.n x.ms.c, .slice x.si.a x.si.n x.si.c, .slice x.so.a x.so.n x.so.c, .slice x.sf.a x.sf.n x.sf.c]) ∧ (dn 7 = true → ∀ B, V 6 = .pointer (some ⟨B, 0, none⟩) → Blk w B 31 7 (fun j => x.cells.getD j default))
  n5 : dn 5 = true → V 5 = .int .i64 E
  n8 : dn 8 = true → V 8 = .int .i64 E
theorem relBusy (g1 g2 g : Nat) : (relT (yardP g1 g2) (busyS g 2 0)).os.n = 2 ∧ ((relT (yardP g1 g2) (busyS g 2 0)).os.z 1).k = 1 ∧ ((relT (yardP g1 g2) (busyS g 2 0)).os.z 1).ls.n = 1 ∧ (((relT (yardP g1 g2) (busyS g 2 0)).os.z 1).ls.z 0).n = 2 ∧ (relT (yardP g1 g2) (busyS g 2 0)).hs.n = 4 ∧ (relT (yardP g1 g2) (busyS g 2 0)).hs.z 3 = ⟨1, 0, 0, 2⟩ := ⟨by kernel_rfl, by kernel_rfl, by kernel_rfl, by kernel_rfl, by kernel_rfl, by kernel_rfl⟩
theorem canBusy (g1 g2 g : Nat) : stateE (yardP g1 g2) (cancelT (busyS g 2 0) 0) = 0 ∧ cancelE (yardP g1 g2) (busyS g 2 0) 0 = 0 ∧ cancelE (yardP g1 g2) (busyS g 2 0) 2 = 4 := ⟨by kernel_rfl, by kernel_rfl, by kernel_rfl⟩
theorem canBusy2 (g : Nat) : (cancelT (busyS g 2 0) 0).hs.n = 0 ∧ ((cancelT (busyS g 2 0) 0).os.z 0).k = 2 ∧ ((cancelT (busyS g 2 0) 0).os.z 0).ls.n = 2 ∧ (((cancelT (busyS g 2 0) 0).os.z 0).ls.z 0).n = 5 ∧ (cancelT (busyS g 2 0) 0).os.n = 2 := ⟨by kernel_rfl, by kernel_rfl, by kernel_rfl, by kernel_rfl, by kernel_rfl⟩
def RelB1 (x : St) : Prop := 1 < x.os.n ∧ (x.os.z 1).k = 1 ∧ 0 < (x.os.z 1).ls.n ∧ ((x.os.z 1).ls.z 0).n = 2 ∧ x.hs.n = 4 ∧ x.hs.z 3 = ⟨1, 0, 0, 2⟩
theorem relB1 {g1 g2 g : Nat} {x : St} (h : RelOK (yardP g1 g2) (busyS g 2 0) x) : RelB1 x := by
  have e := h.act.1 (busyE g1 g2 g).1
  obtain ⟨b1, b2, b3, b4, b5, b6⟩ := relBusy g1 g2 g
  have n1 : 1 < x.os.n := by rw [e.os.1, b1]; omega
  have o := e.os.2 1 n1
  have n2 : 0 < (x.os.z 1).ls.n := by rw [o.2.1, b3]; omega
  exact ⟨n1, o.1.trans b2, n2, by rw [o.2.2 0 n2]; exact b4, e.hs.1.trans b5, by rw [e.hs.2 3 (by rw [e.hs.1, b5]; omega)]; exact b6⟩
def CanB1 (x : St) : Prop := 0 < x.os.n ∧ x.hs.n = 0 ∧ (x.os.z 0).k = 2 ∧ 0 < (x.os.z 0).ls.n ∧ ((x.os.z 0).ls.z 0).n = 5 ∧ ∀ g1 g2, cancelE (yardP g1 g2) x 0 = 6
theorem canB1 {g1 g2 g : Nat} {x : St} (h : ActOK (cancelE (yardP g1 g2) (busyS g 2 0) 0) (cancelT (busyS g 2 0) (0 : Int).toNat) x) : CanB1 x := by
  have e : SameT x (cancelT (busyS g 2 0) 0) := h.1 (canBusy g1 g2 g).2.1
  obtain ⟨b1, b2, b3, b4, b5⟩ := canBusy2 g
  have n1 : 0 < x.os.n := by rw [e.os.1, b5]; omega
  have o := e.os.2 0 n1
  have n2 : 0 < (x.os.z 0).ls.n := by rw [o.2.1, b3]; omega
  have k2 : (x.os.z 0).k = 2 := o.1.trans b2
  refine ⟨n1, e.hs.1.trans b1, k2, n2, by rw [o.2.2 0 n2]; exact b4, fun g1 g2 => ?_⟩
  have r := e.right (rightT (canBusy g1 g2 g).1)
  exact cancelE_done (stateE_of r) (inB_mk (by omega)) k2
set_option maxRecDepth 100000 in
set_option maxHeartbeats 8000000 in
theorem waveBegun_any (w : World) :
    Calls Tryz.prog 9 #[] w fun e w' => e = .returned (.bool true) ∧ Below w.heap.size w w' := by
  go_enter Tryz.func9, Tryz.ntmps9
  go_wp2_with fail
  refine (yard_any _).mono ?_
  rintro e wa ⟨g1, g2, rfl, -, -, k1, k2, hA⟩
  go_wp2_with fail
  refine (busy_any _).mono ?_
  rintro e wb ⟨g, rfl, -, bb, hB⟩
  have hD := hA.trans (hB.mono hA.size)
  have HAT : Hid ((yardP g1 g2).At wb ∧ (busyS g 2 0).At wb) := ⟨yardAt (k1.below hB) (k2.below hB), busyAt bb⟩
  clear hA hB k1 k2 bb
  simp only [busyS, St.val]
  go_wp2_with fail
  refine (Release_any (yardP g1 g2) (busyS g 2 0) wb HAT.out.1 HAT.out.2).mono ?_
  rintro e wc ⟨x, rfl, xat, xok, -, hB⟩
  have hE := hD.trans (hB.mono hD.size)
  have HX : Hid (RelB1 x) := relB1 xok
  rw [(busyE g1 g2 g).1]
  clear hD hB HAT xok
  obtain ⟨W1, hW, hWB, K1⟩ : ∃ W, wc.alloc (.cells #[.slice x.on.a x.on.n x.on.c, .slice x.os.a x.os.n x.os.c, .slice x.hs.a x.hs.n x.hs.c, .slice x.ms.a x.ms.n x.ms.c, .slice x.si.a x.si.n x.si.c, .slice x.so.a x.so.n x.so.c, .slice x.sf.a x.sf.n x.sf.c] 31) = W ∧ Below wc.heap.size wc W ∧ Blk W wc.heap.size 31 7 (fun j => x.cells.getD j default) := ⟨_, rfl, (Below.refl _ _).alloc (Nat.le_refl _) _, Blk.mk' rfl rfl⟩
  have HW : Hid (wc.alloc (.cells #[.slice x.on.a x.on.n x.on.c, .slice x.os.a x.os.n x.os.c, .slice x.hs.a x.hs.n x.hs.c, .slice x.ms.a x.ms.n x.ms.c, .slice x.si.a x.si.n x.si.c, .slice x.so.a x.so.n x.so.c, .slice x.sf.a x.sf.n x.sf.c] 31) = W1) := hW
  have xat := xat.below hWB
  have hC := hE.trans (hWB.mono hE.size)
  have HX1 : Hid (x.At W1 ∧ Blk W1 wc.heap.size 31 7 (fun j => x.cells.getD j default)) := ⟨xat, K1⟩
  clear hWB hE hW xat K1
  simp only [St.val]
  go_wp2_with fail
  rw [HW.out]
  clear HW
  generalize wc.heap.size = B1 at *
  refine (yard_any _).mono ?_
  rintro e wa ⟨g1, g2, rfl, -, -, k1, k2, hA⟩
  go_wp2_with fail
  refine (busy_any _).mono ?_
  rintro e wb ⟨g, rfl, -, bb, hB⟩
  have hD := hA.trans (hB.mono hA.size)
  have HAT : Hid ((yardP g1 g2).At wb ∧ (busyS g 2 0).At wb) := ⟨yardAt (k1.below hB) (k2.below hB), busyAt bb⟩
  clear hA hB k1 k2 bb
  simp only [busyS, St.val]
  go_wp2_with fail
  refine (Cancel_any (yardP g1 g2) (busyS g 2 0) 0 wb HAT.out.1 HAT.out.2).mono ?_
  rintro e wc ⟨y, rfl, yat, yok, -, hB⟩
  have hE := hD.trans (hB.mono hD.size)
  have HY : Hid (CanB1 y) := canB1 yok
  rw [(canBusy g1 g2 g).2.1]
  clear hD hB HAT yok
  obtain ⟨W2, hW, hWB, K2⟩ : ∃ W, wc.alloc (.cells #[.slice y.on.a y.on.n y.on.c, .slice y.os.a y.os.n y.os.c, .slice y.hs.a y.hs.n y.hs.c, .slice y.ms.a y.ms.n y.ms.c, .slice y.si.a y.si.n y.si.c, .slice y.so.a y.so.n y.so.c, .slice y.sf.a y.sf.n y.sf.c] 31) = W ∧ Below wc.heap.size wc W ∧ Blk W wc.heap.size 31 7 (fun j => y.cells.getD j default) := ⟨_, rfl, (Below.refl _ _).alloc (Nat.le_refl _) _, Blk.mk' rfl rfl⟩
  have HW : Hid (wc.alloc (.cells #[.slice y.on.a y.on.n y.on.c, .slice y.os.a y.os.n y.os.c, .slice y.hs.a y.hs.n y.hs.c, .slice y.ms.a y.ms.n y.ms.c, .slice y.si.a y.si.n y.si.c, .slice y.so.a y.so.n y.so.c, .slice y.sf.a y.sf.n y.sf.c] 31) = W2) := hW
  have yat := yat.below hWB
  have hE := hE.trans (hWB.mono hE.size)
  have hC := hC.trans (hE.mono hC.size)
  have HX1 : Hid (x.At W2 ∧ Blk W2 B1 31 7 (fun j => x.cells.getD j default)) := ⟨HX1.out.1.below hE, HX1.out.2.below hE⟩
  have HY1 : Hid (y.At W2 ∧ Blk W2 wc.heap.size 31 7 (fun j => y.cells.getD j default)) := ⟨yat, K2⟩
  clear hWB hE hW yat K2
  simp only [St.val]
  go_wp2_with fail
  rw [HW.out]
  clear HW
  generalize wc.heap.size = B2 at *
  obtain ⟨m1, p0, p1, p2, p3, p4, p5, p6⟩ := Boxed.of HY1.out.2
  have rs0 : ∀ d os, (grow (redrawn W2 d) os).cell? ⟨B2, 0, none⟩ = some (.slice y.on.a y.on.n y.on.c) := fun d os => cell_regrown p0 d os
  have rs1 : ∀ d os, (grow (redrawn W2 d) os).cell? ⟨B2, 1, none⟩ = some (.slice y.os.a y.os.n y.os.c) := fun d os => cell_regrown p1 d os
  have rs2 : ∀ d os, (grow (redrawn W2 d) os).cell? ⟨B2, 2, none⟩ = some (.slice y.hs.a y.hs.n y.hs.c) := fun d os => cell_regrown p2 d os
  have rs3 : ∀ d os, (grow (redrawn W2 d) os).cell? ⟨B2, 3, none⟩ = some (.slice y.ms.a y.ms.n y.ms.c) := fun d os => cell_regrown p3 d os
  have rs4 : ∀ d os, (grow (redrawn W2 d) os).cell? ⟨B2, 4, none⟩ = some (.slice y.si.a y.si.n y.si.c) := fun d os => cell_regrown p4 d os
  have rs5 : ∀ d os, (grow (redrawn W2 d) os).cell? ⟨B2, 5, none⟩ = some (.slice y.so.a y.so.n y.so.c) := fun d os => cell_regrown p5 d os
  have rs6 : ∀ d os, (grow (redrawn W2 d) os).cell? ⟨B2, 6, none⟩ = some (.slice y.sf.a y.sf.n y.sf.c) := fun d os => cell_regrown p6 d os
  clear p0 p1 p2 p3 p4 p5 p6
  have HBW : Hid (Below w.heap.size w W2) := hC
  have HCT : Hid (∀ g1 g2 wk, (yardP g1 g2).At wk → y.At wk → Calls Tryz.prog 6 #[(yardP g1 g2).val, y.val, .int .i64 0] wk fun e w' => ∃ x : St, e = .returned (.tuple #[x.val, .int .i64 6]) ∧ (fun _ _ => True : St → World → Prop) x w' ∧ Below wk.heap.size wk w') := fun g1 g2 wk h1 h2 => by
    refine (Cancel_any (yardP g1 g2) y 0 wk h1 h2).mono fun e w' => ?_
    rintro ⟨x, rfl, -, -, -, h5⟩
    rw [HY.out.2.2.2.2.2 g1 g2]
    exact ⟨x, rfl, trivial, h5⟩
  have HRB : Hid (∀ (x : St) (wk wj : World), Below wk.heap.size wk wj → (fun _ _ => True) x wk → (fun _ _ => True) x wj) := fun _ _ _ _ _ => trivial
  have HRS : Hid (∀ (x : St) (wk : World) (B : Nat) (f : Nat → Value), Blk wk B 31 7 f → ∀ v0 v1 v2 v3 v4 v5 v6, (fun _ _ => True) x wk → (fun _ _ => True) x (set7 wk B v0 v1 v2 v3 v4 v5 v6)) := fun _ _ _ _ _ _ _ _ _ _ _ _ _ => trivial
  clear hC
  generalize hgx : x = x1 at *
  clear hgx
  refine wp_region_made7 (fun w' => ∃ p : Regrown, w' = grow (redrawn W2 p.d) p.os) [1] [0, 2, 3, 4, 5, 6, 7, 8] (by kernel_rfl) (by kernel_rfl) (by kernel_rfl) (by kernel_rfl) (by kernel_rfl) (by kernel_rfl) (by kernel_rfl) (by kernel_rfl) (regrown_of_below ((Below.refl _ _).drew)) ?_
  simp only [picks, List.drop_succ_cons, List.drop_zero, List.take_succ_cons, List.take_zero, List.cons_append, List.nil_append]
  repeat (go_big_quiet_step (fail))
  refine wpQuiet_nil ?_
  clear rs0 rs1 rs2 rs3 rs4 rs5 rs6
  refine ⟨CallJ (fun _ _ => True) 6 W2, fun dn V w hS hd => ?zinit, List.forall_mem_cons.2 ⟨?zp0, List.forall_mem_cons.2 ⟨?zp2, List.forall_mem_cons.2 ⟨?zp3, List.forall_mem_cons.2 ⟨?zp4, List.forall_mem_cons.2 ⟨?zp5, List.forall_mem_cons.2 ⟨?zp6, List.forall_mem_cons.2 ⟨?zp7, List.forall_mem_cons.2 ⟨?zp8, List.forall_mem_nil _⟩⟩⟩⟩⟩⟩⟩⟩, ?zdone⟩
  case zinit =>
    have f : ∀ j, j ∈ [0, 2, 3, 4, 5, 6, 7, 8] → ¬ dn j = true := fun j hj h => by rw [hd j hj] at h; cases h
    exact ⟨below_of_regrown hS, fun h => absurd h (f 3 (by simp)), fun h => absurd h (f 4 (by simp)), fun h => absurd h (f 7 (by simp)), fun h => absurd h (f 0 (by simp)), fun h => absurd h (f 6 (by simp)), fun h => absurd h (f 2 (by simp)), fun h => absurd h (f 5 (by simp)), fun h => absurd h (f 8 (by simp))⟩
  case zp0 =>
    intro dn V wk K hS hn hd hI hK
    have HII : Hid (CallJ (fun _ _ => True) 6 W2 dn V wk) := hI
    have q := hI.bel.size
    clear hI
    refine wpOp_list 0 rfl ?_
    simp only [putAll, dstOf, List.getElem?_toArray, List.getElem?_cons_succ, List.getElem?_cons_zero, Act.put, List.setIfInBounds_toArray, List.set_cons_succ, List.set_cons_zero] at hK ⊢
    go_wp2_with fail
    refine (yard_any _).mono ?_
    rintro e wj ⟨g1, g2, rfl, -, -, k1, k2, hB2⟩
    go_wp2_with fail
    have hI := HII.out
    refine hK _ _ (regrown_of_below (hI.bel.trans (hB2.mono q))) ⟨hI.bel.trans (hB2.mono q), hI.c3, hI.c4, hI.c7, fun _ => ⟨g1, g2, rfl, k1, k2⟩, fun h7 => ?_, fun h2 => ?_, hI.n5, hI.n8⟩
    · obtain ⟨B, b1, b2, f, b3⟩ := hI.box h7
      exact ⟨B, b1, b2, f, b3.below hB2⟩
    · obtain ⟨x, a1, a2, a3, a4, a5⟩ := hI.got h2
      exact ⟨x, HRB.out x wk wj hB2 a1, a2, a3, a4, fun h8 B hb => (a5 h8 B hb).below hB2⟩
  case zp2 =>
    intro dn V wk K hS hn hd hI hK
    obtain ⟨g1, g2, hv0, k1, k2⟩ := hI.yd (hd 0 (List.contains_iff_mem.1 (by kernel_rfl)) (by simp))
    have HII : Hid (CallJ (fun _ _ => True) 6 W2 dn V wk) := hI
    have q := hI.bel.size
    clear hI
    have f3 : ¬ dn 3 = true := fun h => by rw [HII.out.c3 h] at hn; cases hn
    have f4 : ¬ dn 4 = true := fun h => by rw [HII.out.c4 h] at hn; cases hn
    have f7 : ¬ dn 7 = true := fun h => by rw [(HII.out.c7 h).1] at hn; cases hn
    refine wpOp_list 2 rfl ?_
    simp only [putAll, dstOf, List.getElem?_toArray, List.getElem?_cons_succ, List.getElem?_cons_zero, Act.put, List.setIfInBounds_toArray, List.set_cons_succ, List.set_cons_zero, hv0] at hK ⊢
    go_wp2_with fail
    refine (HCT.out g1 g2 wk (yardAt k1 k2) (HY1.out.1.below HII.out.bel)).mono ?_
    rintro e wj ⟨x, rfl, hR, hB2⟩
    have HR : Hid ((fun _ _ => True) x wj) := hR
    clear hR k1 k2
    simp only [St.val]
    go_wp2_with fail
    have hI := HII.out
    refine hK _ _ (regrown_of_below (hI.bel.trans (hB2.mono q))) ⟨hI.bel.trans (hB2.mono q), fun _ => rfl, fun _ => rfl, fun h => absurd h f7, fun h0 => ?_, fun h7 => ?_, fun _ => ⟨x, HR.out, rfl, fun h => absurd h f3, fun h => absurd h f4, fun h => absurd h f7⟩, hI.n5, hI.n8⟩
    · obtain ⟨g1, g2, b0, b1, b2⟩ := hI.yd h0
      exact ⟨g1, g2, b0, b1.below hB2, b2.below hB2⟩
    · obtain ⟨B, b1, b2, f, b3⟩ := hI.box h7
      exact ⟨B, b1, b2, f, b3.below hB2⟩
  case zp3 =>
    intro dn V wk K hS hn hd hI hK
    have h2 : dn 2 = true := hd 2 (List.contains_iff_mem.1 (by kernel_rfl)) (by simp)
    obtain ⟨x, a1, a2, a3, a4, a5⟩ := hI.got h2
    have HII : Hid (CallJ (fun _ _ => True) 6 W2 dn V wk) := hI
    have HR : Hid ((fun _ _ => True) x wk ∧ V 2 = .tuple #[.agg #[.slice x.on.a x.on.n x.on.c, .slice x.os.a x.os.n x.os.c, .slice x.hs.a x.hs.n x.hs.c, .slice x.ms.a x.ms.n x.ms.c, .slice x.si.a x.si.n x.si.c, .slice x.so.a x.so.n x.so.c, .slice x.sf.a x.sf.n x.sf.c], .int .i64 6] ∧ (dn 4 = true → V 4 = .agg #[.slice x.on.a x.on.n x.on.c, .slice x.os.a x.os.n x.os.c, .slice x.hs.a x.hs.n x.hs.c, .slice x.ms.a x.ms.n x.ms.c, .slice x.si.a x.si.n x.si.c, .slice x.so.a x.so.n x.so.c, .slice x.sf.a x.sf.n x.sf.c]) ∧ (dn 7 = true → ∀ B, V 6 = .pointer (some ⟨B, 0, none⟩) → Blk wk B 31 7 (fun j => x.cells.getD j default))) := ⟨a1, a2, a4, a5⟩
    clear hI a1 a3 a4 a5
    refine wpOp_list 3 rfl ?_
    simp only [putAll, dstOf, List.getElem?_toArray, List.getElem?_cons_succ, List.getElem?_cons_zero, Act.put, List.setIfInBounds_toArray, List.set_cons_succ, List.set_cons_zero, a2] at hK ⊢
    go_wp2_with fail
    have hI := HII.out
    exact hK _ _ hS ⟨hI.bel, fun _ => h2, hI.c4, hI.c7, hI.yd, hI.box, fun _ => ⟨x, HR.out.1, HR.out.2.1, fun _ => rfl, HR.out.2.2.1, HR.out.2.2.2⟩, hI.n5, hI.n8⟩
  case zp4 =>
    intro dn V wk K hS hn hd hI hK
    have h3 : dn 3 = true := hd 3 (List.contains_iff_mem.1 (by kernel_rfl)) (by simp)
    have h2 := hI.c3 h3
    obtain ⟨x, a1, a2, a3, a4, a5⟩ := hI.got h2
    have a3' := a3 h3
    have HII : Hid (CallJ (fun _ _ => True) 6 W2 dn V wk) := hI
    have HR : Hid ((fun _ _ => True) x wk ∧ V 2 = .tuple #[.agg #[.slice x.on.a x.on.n x.on.c, .slice x.os.a x.os.n x.os.c, .slice x.hs.a x.hs.n x.hs.c, .slice x.ms.a x.ms.n x.ms.c, .slice x.si.a x.si.n x.si.c, .slice x.so.a x.so.n x.so.c, .slice x.sf.a x.sf.n x.sf.c], .int .i64 6] ∧ (dn 3 = true → V 3 = .tuple #[.agg #[.slice x.on.a x.on.n x.on.c, .slice x.os.a x.os.n x.os.c, .slice x.hs.a x.hs.n x.hs.c, .slice x.ms.a x.ms.n x.ms.c, .slice x.si.a x.si.n x.si.c, .slice x.so.a x.so.n x.so.c, .slice x.sf.a x.sf.n x.sf.c], .int .i64 6]) ∧ (dn 7 = true → ∀ B, V 6 = .pointer (some ⟨B, 0, none⟩) → Blk wk B 31 7 (fun j => x.cells.getD j default))) := ⟨a1, a2, a3, a5⟩
    clear hI a1 a2 a3 a4 a5
    refine wpOp_list 4 rfl ?_
    simp only [putAll, dstOf, List.getElem?_toArray, List.getElem?_cons_succ, List.getElem?_cons_zero, Act.put, List.setIfInBounds_toArray, List.set_cons_succ, List.set_cons_zero, a3'] at hK ⊢
    go_wp2_with fail
    have hI := HII.out
    exact hK _ _ hS ⟨hI.bel, hI.c3, fun _ => h2, hI.c7, hI.yd, hI.box, fun _ => ⟨x, HR.out.1, HR.out.2.1, HR.out.2.2.1, fun _ => rfl, HR.out.2.2.2⟩, hI.n5, hI.n8⟩
  case zp5 =>
    intro dn V wk K hS hn hd hI hK
    have h3 : dn 3 = true := hd 3 (List.contains_iff_mem.1 (by kernel_rfl)) (by simp)
    obtain ⟨x, a1, a2, a3, a4, a5⟩ := hI.got (hI.c3 h3)
    have a3' := a3 h3
    have HII : Hid (CallJ (fun _ _ => True) 6 W2 dn V wk) := hI
    clear hI a1 a2 a3 a4 a5
    refine wpOp_list 5 rfl ?_
    simp only [putAll, dstOf, List.getElem?_toArray, List.getElem?_cons_succ, List.getElem?_cons_zero, Act.put, List.setIfInBounds_toArray, List.set_cons_succ, List.set_cons_zero, a3'] at hK ⊢
    go_wp2_with fail
    have hI := HII.out
    exact hK _ _ hS ⟨hI.bel, hI.c3, hI.c4, hI.c7, hI.yd, hI.box, hI.got, fun _ => rfl, hI.n8⟩
  case zp6 =>
    intro dn V wk K hS hn hd hI hK
    have HII : Hid (CallJ (fun _ _ => True) 6 W2 dn V wk) := hI
    have q := hI.bel.size
    clear hI
    refine wpOp_list 6 rfl ?_
    simp only [putAll, dstOf, List.getElem?_toArray, List.getElem?_cons_succ, List.getElem?_cons_zero, Act.put, List.setIfInBounds_toArray, List.set_cons_succ, List.set_cons_zero] at hK ⊢
    go_wp2_with fail
    have hI := HII.out
    have hBa := (Below.refl wk.heap.size wk).alloc (Nat.le_refl _) (.cells #[.slice .none 0 0, .slice .none 0 0, .slice .none 0 0, .slice .none 0 0, .slice .none 0 0, .slice .none 0 0, .slice .none 0 0] 31)
    have f7 : ¬ dn 7 = true := fun h => by rw [(hI.c7 h).2] at hn; cases hn
    refine hK _ _ (regrown_of_below (hI.bel.trans (hBa.mono q))) ⟨hI.bel.trans (hBa.mono q), hI.c3, hI.c4, fun h => absurd h f7, fun h0 => ?_, fun _ => ⟨wk.heap.size, rfl, q, _, Blk.mk' rfl rfl⟩, fun h2 => ?_, hI.n5, hI.n8⟩
    · obtain ⟨g1, g2, b0, b1, b2⟩ := hI.yd h0
      exact ⟨g1, g2, b0, b1.below hBa, b2.below hBa⟩
    · obtain ⟨x, a1, a2, a3, a4, a5⟩ := hI.got h2
      exact ⟨x, HRB.out x wk _ hBa a1, a2, a3, a4, fun h => absurd h f7⟩
  case zp7 =>
    intro dn V wk K hS hn hd hI hK
    have h7 : dn 6 = true := hd 6 (List.contains_iff_mem.1 (by kernel_rfl)) (by simp)
    have h4 : dn 4 = true := hd 4 (List.contains_iff_mem.1 (by kernel_rfl)) (by simp)
    have h2 := hI.c4 h4
    obtain ⟨B, hv7, hBW, f, hbk⟩ := hI.box h7
    obtain ⟨x, a1, a2, a3, a4, a5⟩ := hI.got h2
    have a4' := a4 h4
    have HII : Hid (CallJ (fun _ _ => True) 6 W2 dn V wk) := hI
    have HR : Hid ((fun _ _ => True) x wk ∧ V 2 = .tuple #[.agg #[.slice x.on.a x.on.n x.on.c, .slice x.os.a x.os.n x.os.c, .slice x.hs.a x.hs.n x.hs.c, .slice x.ms.a x.ms.n x.ms.c, .slice x.si.a x.si.n x.si.c, .slice x.so.a x.so.n x.so.c, .slice x.sf.a x.sf.n x.sf.c], .int .i64 6] ∧ (dn 3 = true → V 3 = .tuple #[.agg #[.slice x.on.a x.on.n x.on.c, .slice x.os.a x.os.n x.os.c, .slice x.hs.a x.hs.n x.hs.c, .slice x.ms.a x.ms.n x.ms.c, .slice x.si.a x.si.n x.si.c, .slice x.so.a x.so.n x.so.c, .slice x.sf.a x.sf.n x.sf.c], .int .i64 6]) ∧ Blk wk B 31 7 f ∧ V 6 = .pointer (some ⟨B, 0, none⟩)) := ⟨a1, a2, a3, hbk, hv7⟩
    have hz := hbk
    have zl := hz.lt
    have zf0 := hz.frozen 0
    have zc0 := hz.cell (j := 0) (by decide)
    have zf1 := hz.frozen 1
    have zc1 := hz.cell (j := 1) (by decide)
    have zf2 := hz.frozen 2
    have zc2 := hz.cell (j := 2) (by decide)
    have zf3 := hz.frozen 3
    have zc3 := hz.cell (j := 3) (by decide)
    have zf4 := hz.frozen 4
    have zc4 := hz.cell (j := 4) (by decide)
    have zf5 := hz.frozen 5
    have zc5 := hz.cell (j := 5) (by decide)
    have zf6 := hz.frozen 6
    have zc6 := hz.cell (j := 6) (by decide)
    clear hI a1 a2 a3 a4 a5 hz hbk
    refine wpOp_list 7 rfl ?_
    simp only [putAll, dstOf, List.getElem?_toArray, List.getElem?_cons_succ, List.getElem?_cons_zero, Act.put, List.setIfInBounds_toArray, List.set_cons_succ, List.set_cons_zero, a4', hv7] at hK ⊢
    go_wp2_with fail
    have hI := HII.out
    have KZ := set7_blk HR.out.2.2.2.1 (.slice x.on.a x.on.n x.on.c) (.slice x.os.a x.os.n x.os.c) (.slice x.hs.a x.hs.n x.hs.c) (.slice x.ms.a x.ms.n x.ms.c) (.slice x.si.a x.si.n x.si.c) (.slice x.so.a x.so.n x.so.c) (.slice x.sf.a x.sf.n x.sf.c)
    have hbz := set7_below (b := B) hI.bel hBW (.slice x.on.a x.on.n x.on.c) (.slice x.os.a x.os.n x.os.c) (.slice x.hs.a x.hs.n x.hs.c) (.slice x.ms.a x.ms.n x.ms.c) (.slice x.si.a x.si.n x.si.c) (.slice x.so.a x.so.n x.so.c) (.slice x.sf.a x.sf.n x.sf.c)
    have hRz := HRS.out x wk B f HR.out.2.2.2.1 (.slice x.on.a x.on.n x.on.c) (.slice x.os.a x.os.n x.os.c) (.slice x.hs.a x.hs.n x.hs.c) (.slice x.ms.a x.ms.n x.ms.c) (.slice x.si.a x.si.n x.si.c) (.slice x.so.a x.so.n x.so.c) (.slice x.sf.a x.sf.n x.sf.c) HR.out.1
    unfold set7 at KZ hbz hRz
    refine hK undef _ (regrown_of_below hbz) ⟨hbz, hI.c3, hI.c4, fun _ => ⟨h2, h7⟩, fun h0 => ?_, fun _ => ⟨B, HR.out.2.2.2.2, hBW, _, KZ⟩, fun _ => ⟨x, hRz, HR.out.2.1, HR.out.2.2.1, fun _ => a4', fun _ B' hB' => ?_⟩, hI.n5, hI.n8⟩
    · obtain ⟨g1, g2, b0, b1, b2⟩ := hI.yd h0
      have s7 : ∀ (q : Nat) (t : TypeId) (m : Nat) (z : Nat → Value), t ≠ 31 → Blk wk q t m z → Blk (set7 wk B (.slice x.on.a x.on.n x.on.c) (.slice x.os.a x.os.n x.os.c) (.slice x.hs.a x.hs.n x.hs.c) (.slice x.ms.a x.ms.n x.ms.c) (.slice x.si.a x.si.n x.si.c) (.slice x.so.a x.so.n x.so.c) (.slice x.sf.a x.sf.n x.sf.c)) q t m z := fun q t m z ht hb => set7_other hb (Blk.ne2 hb HR.out.2.2.2.1 ht) _ _ _ _ _ _ _
      unfold set7 at s7
      exact ⟨g1, g2, b0, s7 _ _ _ _ (by decide) b1, s7 _ _ _ _ (by decide) b2⟩
    · have e : V 6 = .pointer (some ⟨B', 0, none⟩) := hB'
      rw [HR.out.2.2.2.2] at e
      simp only [Value.pointer.injEq, Option.some.injEq, Addr.mk.injEq, and_true] at e
      subst e
      exact KZ.congr (fun j hj => by match j, hj with | 0, _ => rfl | 1, _ => rfl | 2, _ => rfl | 3, _ => rfl | 4, _ => rfl | 5, _ => rfl | 6, _ => rfl)
  case zp8 =>
    intro dn V wk K hS hn hd hI hK
    have a4' := hI.n5 (hd 5 (List.contains_iff_mem.1 (by kernel_rfl)) (by simp))
    have HII : Hid (CallJ (fun _ _ => True) 6 W2 dn V wk) := hI
    clear hI
    refine wpOp_list 8 rfl ?_
    simp only [putAll, dstOf, List.getElem?_toArray, List.getElem?_cons_succ, List.getElem?_cons_zero, Act.put, List.setIfInBounds_toArray, List.set_cons_succ, List.set_cons_zero, a4'] at hK ⊢
    go_wp2_with fail
    have hI := HII.out
    exact hK _ _ hS ⟨hI.bel, hI.c3, hI.c4, hI.c7, hI.yd, hI.box, hI.got, hI.n5, fun _ => rfl⟩
  case zdone =>
    intro dn V wk hS hd hI
    refine NoPanic.normal ?_
    obtain ⟨B, hv7, hBW, f, hbk⟩ := hI.box (hd 6 (by simp))
    obtain ⟨x, hR, a2, a3, a4, a5⟩ := hI.got (hd 2 (by simp))
    have hv8 := hI.n8 (hd 8 (by simp))
    have KX := a5 (hd 7 (by simp)) B hv7
    have hBel := hI.bel
    clear hI a2 a3 a4 a5 hbk hd hS
    simp only [putAll, dstOf, List.getElem?_toArray, List.getElem?_cons_succ, List.getElem?_cons_zero, Act.put, List.setIfInBounds_toArray, List.set_cons_succ, List.set_cons_zero, hv7, hv8]
    have HBW : Hid (Below w.heap.size w wk) := HBW.out.trans (hBel.mono HBW.out.size)
    have HX1 : Hid (x1.At wk ∧ Blk wk B1 31 7 (fun j => x1.cells.getD j default)) := ⟨HX1.out.1.below hBel, HX1.out.2.below hBel⟩
    have HY1 : Hid (y.At wk ∧ Blk wk B2 31 7 (fun j => y.cells.getD j default)) := ⟨HY1.out.1.below hBel, HY1.out.2.below hBel⟩
    clear KX hR hv7 hv8 HRB HRS HCT hBel hBW f
    go_wp2_with fail
    refine (yard_any _).mono ?_
    rintro e wa ⟨g1, g2, rfl, -, -, k1, k2, hA⟩
    go_wp2_with fail
    refine (busy_any _).mono ?_
    rintro e wb ⟨g, rfl, -, bb, hB⟩
    have hD := hA.trans (hB.mono hA.size)
    have HAT : Hid ((yardP g1 g2).At wb ∧ (busyS g 2 0).At wb) := ⟨yardAt (k1.below hB) (k2.below hB), busyAt bb⟩
    clear hA hB k1 k2 bb
    simp only [busyS, St.val]
    go_wp2_with fail
    refine (Cancel_any (yardP g1 g2) (busyS g 2 0) 2 wb HAT.out.1 HAT.out.2).mono ?_
    rintro e wc ⟨v, rfl, -, -, -, hB⟩
    have hE := hD.trans (hB.mono hD.size)
    rw [(canBusy g1 g2 g).2.2]
    clear hD hB HAT
    obtain ⟨W3, hW, hWB, K3⟩ : ∃ W, wc.alloc (.cells #[.slice v.on.a v.on.n v.on.c, .slice v.os.a v.os.n v.os.c, .slice v.hs.a v.hs.n v.hs.c, .slice v.ms.a v.ms.n v.ms.c, .slice v.si.a v.si.n v.si.c, .slice v.so.a v.so.n v.so.c, .slice v.sf.a v.sf.n v.sf.c] 31) = W ∧ Below wc.heap.size wc W ∧ Blk W wc.heap.size 31 7 (fun j => v.cells.getD j default) := ⟨_, rfl, (Below.refl _ _).alloc (Nat.le_refl _) _, Blk.mk' rfl rfl⟩
    have HW : Hid (wc.alloc (.cells #[.slice v.on.a v.on.n v.on.c, .slice v.os.a v.os.n v.os.c, .slice v.hs.a v.hs.n v.hs.c, .slice v.ms.a v.ms.n v.ms.c, .slice v.si.a v.si.n v.si.c, .slice v.so.a v.so.n v.so.c, .slice v.sf.a v.sf.n v.sf.c] 31) = W3) := hW
    have hE := hE.trans (hWB.mono hE.size)
    have hBZ := HBW.out.trans (hE.mono HBW.out.size)
    have HBZ : Hid (Below w.heap.size w W3) := hBZ
    have xat := HX1.out.1.below hE
    have yat := HY1.out.1.below hE
    obtain ⟨m1, p0, p1, p2, p3, p4, p5, p6⟩ := Boxed.of (HX1.out.2.below hE)
    obtain ⟨m2, t0, t1, t2, t3, t4, t5, t6⟩ := Boxed.of (HY1.out.2.below hE)
    obtain ⟨x1n, x1k, x1l, x1b, x1h, x1z⟩ := HX.out
    obtain ⟨y1n, y1h, y1k, y1l, y1b, -⟩ := HY.out
    obtain ⟨bo, oo, hoa, hbo, z0, z1, hlk⟩ := xat.os.ods 1 x1n
    obtain ⟨bl, ol, hla, hbl, u0, u1, u2, u3⟩ := hlk.hds 0 x1l
    obtain ⟨bh, oh, hha, hbh, v0, v1, v2, v3⟩ := xat.hs.hds 3 (by omega)
    obtain ⟨bo2, oo2, hoa2, hbo2, zz0, zz1, hlk2⟩ := yat.os.ods 0 y1n
    obtain ⟨bl2, ol2, hla2, hbl2, s0, s1, s2, s3⟩ := hlk2.hds 0 y1l
    have xo1 := xat.os.le
    have xo2 := xat.os.cap
    have xl1 := hlk.le
    have xl2 := hlk.cap
    have xh1 := xat.hs.le
    have xh2 := xat.hs.cap
    have yo1 := yat.os.le
    have yo2 := yat.os.cap
    have yl1 := hlk2.le
    have yl2 := hlk2.cap
    unfold maxLen at xo2 xl2 xh2 yo2 yl2
    rw [x1k] at z0
    rw [x1b] at u3
    rw [x1z] at v0 v1 v2 v3
    rw [y1k] at zz0
    rw [y1b] at s3
    rw [hoa] at p1
    rw [hla] at z1
    rw [hha] at p2
    rw [x1h] at p2 xh1
    rw [hoa2] at t1
    rw [hla2] at zz1
    rw [y1h] at t2
    dsimp only at v0 v1 v2 v3
    have zz2 : W3.cell? ⟨bo2, oo2, none⟩ = some (.int .i64 2) := by simpa using zz0
    have n1 : (1 : Int) < (x1.os.n : Int) := by omega
    have n2 : (0 : Int) < ((x1.os.z 1).ls.n : Int) := by omega
    have n3 : (0 : Int) < (y.os.n : Int) := by omega
    have n4 : (0 : Int) < ((y.os.z 0).ls.n : Int) := by omega
    clear hWB hE hW K3 hBZ hoa hla hha hoa2 hla2 x1k x1b x1z x1h y1h y1k y1b xat yat hlk hlk2 HX HY HX1 HY1 HBW
    generalize ((x1.os.z 1).ls.z 0) = ZL at *
    rw [← HW.out] at m1 p0 p1 p2 p3 p4 p5 p6 m2 t0 t1 t2 t3 t4 t5 t6 hbo z0 z1 hbl u0 u1 u2 u3 hbh v0 v1 v2 v3 hbo2 zz0 zz1 zz2 hbl2 s0 s1 s2 s3
    simp only [St.val]
    go_wp2_with fail
    go_ret
    exact ⟨by simp, HW.out ▸ HBZ.out⟩
end Go.Proofs.YtbcacebifpagpadGreat
namespace Go.Proofs.YtbcacebifpagpadGreat
open Go.RowKit
set_option linter.unusedVariables false
theorem OwnS.orderCells {A : Nat} {w : World} {s : St} {o : Nat} (h : OwnS A w s) (ho : o < s.os.n) : ∃ g, s.os.a = some ⟨g, 0, none⟩ ∧ A ≤ g ∧ g < w.heap.size ∧ w.cell? ⟨g, o * 2, none⟩ = some (.int .i64 (s.os.z o).k) ∧ w.cell? ⟨g, o * 2 + 1, none⟩ = some (.slice (s.os.z o).ls.a (s.os.z o).ls.n (s.os.z o).ls.c) ∧ ∀ j, w.frozen? ⟨g, j, none⟩ = false := by
  obtain ⟨g, g1, g2, g3⟩ := h.os.list (by omega)
  have c0 := g3.cell (j := o * 2) (by omega)
  have e0 := flatO_at (z := s.os.z) ho (show 0 < 2 by decide)
  rw [Nat.add_zero] at e0
  rw [e0] at c0
  have c1 := g3.cell (j := o * 2 + 1) (by omega)
  rw [flatO_at (z := s.os.z) ho (show 1 < 2 by decide)] at c1
  exact ⟨g, g1, g2, g3.lt, c0, c1, fun j => g3.frozen j⟩
theorem lackS_full {s : St} {i k : Nat} (hb : ((s.os.z i).ls.z k).b = 0) : setLine (lackS s i k) i k 3 ((s.os.z i).ls.z k).l = lackS s i (k + 1) := by
  rw [← lackS_succ, hb, Int.sub_zero]
end Go.Proofs.YtbcacebifpagpadGreat
namespace Go.Proofs.YtbcacebifpagpadGreat
open Go.RowKit
set_option linter.unusedVariables false
def vKind3 (o : Oper) : Bool := vKind2 o || match o.op with
  | .extract .. => true
  | .field .. => true
  | .index .. => true
  | .unOp .. => true
  | _ => false
theorem vKind3_spec {P : Program} {o : Oper} {ρ : Operand → Value} {w w' : World} {n : Next} (hv : vKind3 o = true) (h : (execOp ρ o).run P w = .ok n w') : ∃ v, n = .value v := by
  unfold vKind3 at hv
  rw [Bool.or_eq_true] at hv
  rcases hv with hv | hv
  · exact vKind2_spec hv h
  · unfold execOp at h
    split at hv
    all_goals first
      | (cases hv; done)
      | (rename_i hx; rw [hx] at h; exact valued h)
theorem wpAnyT_firsts3 {P : Program} {l : List Oper} {Q : Exit → Act → World → Prop} {S : World → Prop} {T : Nat → Bool} {N : Nat} {K : Act → Prop} {w : World} {fuel : Nat} (hs : Region.noSelect l.toArray = true) (hS : S w) (hQ : ∀ c a a' w, Q (.panic c) a w → Q (.panic c) a' w) :
    ∀ (ks : List Nat) (os : List Oper) (listed : Array Bool) (a : Act), firstsB l.toArray ks listed = true → (∀ k ∈ ks, T k = false ∧ ∀ j, T j = true → reach l.toArray N j k = true) → Closed l.toArray listed → ks.map (fun k => l[k]?) = os.map some → (os.all vKind3) = true →
      wpQuiet P l.toArray S K os a → (∀ a, K a → Closed l.toArray (mark listed ks) → wpAnyT P l.toArray Q S T fuel (mark listed ks) a w) → wpAnyT P l.toArray Q S T (ks.length + fuel) listed a w
  | [], [], listed, a, _, _, hc, _, _, h, hK => by rw [List.length_nil, Nat.zero_add]; exact hK a h hc
  | k :: ks, o :: os, listed, a, hB, hTk, hc, hk, hv, h, hK => by
    simp only [List.map_cons, List.cons.injEq] at hk
    simp only [List.all_cons, Bool.and_eq_true] at hv
    simp only [firstsB, Bool.and_eq_true] at hB
    rw [List.length_cons, Nat.add_right_comm]
    have hready : k ∈ Region.ready .any l.toArray listed := by simpa using hB.1.1
    have go : ∀ v, YieldsIf P l.toArray S o v a → wpAnyT P l.toArray Q S T (ks.length + fuel) (listed.setIfInBounds k true) (a.put o.dst v) w → wpAnyT P l.toArray Q S T (ks.length + fuel + 1) listed a w :=
      fun v hy h' => wpAnyT_first (N := N) (by simpa using hk.1) (Region.noSelect_spec hs) (fun c a w hq => hQ _ _ _ _ hq) (hTk k (by simp)).2 (hTk k (by simp)).1 _ listed a w (Region.free_spec (by simpa using hk.1) hB.1.2) hready hc hy hS h'
    have again := fun (a : Act) (hq : wpQuiet P l.toArray S K os a) => wpAnyT_firsts3 (N := N) (T := T) (fuel := fuel) hs hS hQ ks os _ a hB.2 (fun k' hk' => hTk k' (by simp [hk'])) (hc.set hready) hk.2 hv.2 hq hK
    unfold wpQuiet at h
    split at h
    · rename_i hw
      obtain ⟨v, h1, h2⟩ := h
      refine go v (.inl ⟨hw, fun w' hS => ?_⟩) (again _ h2)
      have := h1 w' hS
      unfold Oper.quietAt at this
      cases hr : (execOp a.eval o).run P w' with
      | ok n w2 =>
        rw [hr] at this
        obtain ⟨u, rfl⟩ := vKind3_spec hv.1 hr
        simp only [Oper.quietUpon] at this
        rw [this.1, this.2]
      | halt x w2 => rw [hr] at this; exact this.elim
    · rename_i hw
      exact go undef (.inr ⟨by simpa using hw, rfl⟩) (again _ h)
  | [], _ :: _, _, _, _, _, _, hk, _, _, _ => by simp at hk
  | _ :: _, [], _, _, _, _, _, hk, _, _, _ => by simp at hk
def laterOf (n : Nat) (listed : Array Bool) : List Nat := (List.range n).filter (fun i => !listed.getD i true)
def phB (ops : Array Oper) : List (Bool × List Nat × Option Nat) → Array Bool → Bool
  | [], listed => Region.ready .any ops listed == []
  | (t, ks, c) :: r, listed => firstsB ops ks listed && ks.all (fun k => decide (k < ops.size)) && ks.all (fun k => !(laterOf ops.size (mark listed ks)).contains k) && (!t || ks.all (fun k => (laterOf ops.size (mark listed ks)).all (fun j => reach ops ops.size j k))) &&
      (match c with | some c => (Region.ready .any ops (mark listed ks) == [c]) && phB ops r ((mark listed ks).setIfInBounds c true) | none => phB ops r (mark listed ks))
def phN : List (Bool × List Nat × Option Nat) → Nat
  | [] => 0
  | (_, ks, some _) :: r => ks.length + (phN r + 1)
  | (_, ks, none) :: r => ks.length + phN r
def wpPh (P : Program) (l : List Oper) (Q : Exit → Act → World → Prop) : List (Bool × List Nat × Option Nat) → Act → World → Prop
  | [], a, w => Q .normal a w
  | (t, ks, some c) :: r, a, w => ∃ S : World → Prop, S w ∧ (t = false → ∀ w', S w') ∧ wpQuiet P l.toArray S (fun a1 => wpOp P l.toArray Q c (fun a2 w2 => wpPh P l Q r a2 w2) a1 w) (picks l ks) a
  | (t, ks, none) :: r, a, w => ∃ S : World → Prop, S w ∧ (t = false → ∀ w', S w') ∧ wpQuiet P l.toArray S (fun a1 => wpPh P l Q r a1 w) (picks l ks) a
theorem wpAnyT_of_any {P : Program} {ops : Array Oper} {Q : Exit → Act → World → Prop} {S : World → Prop} {T : Nat → Bool} : ∀ (fuel : Nat) (listed : Array Bool) (a : Act) (w : World), (∀ i, listed.getD i true = false → i < ops.size → T i = true ∨ ∀ w, S w) → wpAny P .any ops Q fuel listed a w → wpAnyT P ops Q S T fuel listed a w
  | 0, _, _, _, _, h => h
  | fuel + 1, listed, a, w, hT, h => ⟨h.1, fun i hi => wpOp_mono (fun a' w' h' => ⟨fun hTi => by
      obtain ⟨h1, o, h2, _⟩ := mem_ready.1 hi
      rcases hT i h1 (Array.getElem?_eq_some_iff.1 h2).1 with e | e
      · rw [e] at hTi; cases hTi
      · exact e w', wpAnyT_of_any fuel _ a' w' (fun j hj hjs => hT j (by
      by_cases e : i = j
      · subst e
        exact (mem_ready.1 hi).1
      · rw [getD_set_ne true e] at hj; exact hj) hjs) h'⟩) (h.2 i hi)⟩
theorem wpAny_ph {P : Program} {l : List Oper} {Q : Exit → Act → World → Prop} (hs : Region.noSelect l.toArray = true) (hQ : ∀ c a a' w, Q (.panic c) a w → Q (.panic c) a' w) : ∀ (ph : List (Bool × List Nat × Option Nat)) (listed : Array Bool) (a : Act) (w : World),
      phB l.toArray ph listed = true → (ph.all (fun x => (picks l x.2.1).all vKind3)) = true → Closed l.toArray listed → wpPh P l Q ph a w → wpAny P .any l.toArray Q (phN ph) listed a w
  | [], listed, a, w, hB, _, _, h => ⟨by simpa [phB] using hB, h⟩
  | (t, ks, c) :: r, listed, a, w, hB, hv, hcl, h => by
    simp only [phB, Bool.and_eq_true] at hB
    obtain ⟨⟨⟨⟨b1, b2⟩, b3⟩, b4⟩, b5⟩ := hB
    simp only [List.all_cons, Bool.and_eq_true] at hv
    have key := fun (S : World → Prop) (K : Act → Prop) (f : Nat) (hS : S w) (hST : t = false → ∀ w', S w') (hq : wpQuiet P l.toArray S K (picks l ks) a) (hK : ∀ a1, K a1 → Closed l.toArray (mark listed ks) → wpAny P .any l.toArray Q f (mark listed ks) a1 w) => wpAny_of_T _ _ _ _ (wpAnyT_firsts3 (P := P) (Q := Q) (S := S) (T := fun i => t && (laterOf l.toArray.size (mark listed ks)).contains i) (N := l.toArray.size) (fuel := f) (w := w) hs hS hQ ks (picks l ks) listed a b1
      (fun k hk => ⟨by
        have := List.all_eq_true.1 b3 k hk
        rw [Bool.not_eq_true'] at this
        rw [this, Bool.and_false], fun j hj => by
        rw [Bool.and_eq_true] at hj
        have b4' := b4
        rw [hj.1] at b4'
        simp only [Bool.not_true, Bool.false_or] at b4'
        exact List.all_eq_true.1 (List.all_eq_true.1 b4' k hk) j (by simpa using hj.2)⟩)
      hcl (picks_ok (by simpa using b2)) hv.1 hq (fun a1 h1 hcl1 => by
        refine wpAnyT_of_any _ _ _ _ (fun i hi his => ?_) (hK a1 h1 hcl1)
        cases t with
        | false => exact Or.inr (hST rfl)
        | true =>
          left
          have : i ∈ laterOf l.toArray.size (mark listed ks) := by
            unfold laterOf
            rw [List.mem_filter, List.mem_range]
            exact ⟨his, by rw [hi]; rfl⟩
          simpa using this))
    cases c with
    | none =>
      obtain ⟨S, hS, hST, hq⟩ := h
      exact key S _ (phN r) hS hST hq fun a1 h1 hcl1 => wpAny_ph hs hQ r _ a1 w b5 hv.2 hcl1 h1
    | some c =>
      obtain ⟨S, hS, hST, hq⟩ := h
      simp only [Bool.and_eq_true] at b5
      have hready : Region.ready .any l.toArray (mark listed ks) = [c] := by simpa using b5.1
      refine key S _ (phN r + 1) hS hST hq fun a1 h1 hcl1 => ?_
      refine ⟨fun e => (by rw [hready] at e; cases e), fun i hi => ?_⟩
      have hic : i = c := by rw [hready] at hi; simpa using hi
      subst hic
      exact wpOp_mono (fun a2 w2 h2 => wpAny_ph hs hQ r _ a2 w2 b5.2 hv.2 (hcl1.set hi) h2) h1
theorem wp_region_ph {P : Program} {l : List Oper} {Q : Exit → Act → World → Prop} {id : Nat} {a : Act} {w : World} (ph : List (Bool × List Nat × Option Nat))
    (hm : P.follows .mixedOrders = true) (hs : Region.noSelect l.toArray = true) (hB : phB l.toArray ph (Array.replicate l.length false) = true) (hv : (ph.all (fun x => (picks l x.2.1).all vKind3)) = true) (hl : phN ph = l.length)
    (h : wpPh P l (NoPanic Q) ph a w.drew) : (Code.region id l.toArray true).wp P Q a w := by
  refine wp_region_noPanic (wp_region_any hm ?_)
  have := wpAny_ph (Q := NoPanic Q) hs (fun c a a' w h => (h : False).elim) ph _ a w.drew hB hv (Closed.none _ _) h
  rw [hl] at this
  simpa using this
theorem wpOp_one {P : Program} {l : List Oper} {Q : Exit → Act → World → Prop} {K : Act → World → Prop} (k : Nat) {o : Oper} {a : Act} {w : World} (hk : l[k]? = some o)
    (h : wpList P l.toArray (Exit.then K Q) [o] a w) : wpOp P l.toArray Q k K a w := wpOp_list k hk h
end Go.Proofs.YtbcacebifpagpadGreat
namespace Go.Proofs.YtbcacebifpagpadGreat
open Go.RowKit Go.Shelf
set_option linter.unusedVariables false
theorem Hs.At.congr {w : World} {s : Hs} {z' : Nat → Hd} {n : Nat} (h : s.At w) (hn : s.n = n) (hz : ∀ j, j < s.n → s.z j = z' j) : Hs.At w ⟨s.a, n, s.c, z'⟩ := by
  subst hn
  refine ⟨h.le, h.cap, fun i hi => ?_, h.nilc⟩
  have := h.hds i hi
  rw [hz i hi] at this
  exact this
end Go.Proofs.YtbcacebifpagpadGreat
namespace Go.Proofs.YtbcacebifpagpadGreat
open Go.RowKit Go.Shelf Go.Sort
set_option linter.unusedVariables false
theorem with_addO (s : Hs) (h : Hd) (w : World) (hs : s.At w) (hr : anyB s.n (badH s.z) = false) (hf : fineH h = true) :
    Calls Tryz.prog 35 #[s.val, .int .i64 h.o, .int .i64 h.l, .int .i64 h.b, .int .i64 (keptV s.n s.z h.o h.l h.b + h.n)] w fun e w' => ∃ s' : Hs, e = .returned s'.val ∧ OwnH w.heap.size 55 w' s' ∧ s'.n = addLen s.n s.z h ∧ s'.z = addZ s.n s.z h ∧ Below w.heap.size w w' := by
  obtain ⟨p1, p2, p3⟩ := pos_key hr hf
  have hfh := fineH_true hf
  by_cases h0 : keptV s.n s.z h.o h.l h.b = 0
  · have no := kept_no hr h0
    have hst : ∀ j, addPos s.n s.z h ≤ j → j < s.n → keyH h < keyH (s.z j) := fun j hj hjn => by
      have a := p3 j hj hjn
      have b : ¬ keyH (s.z j) = keyH h := fun e => by
        have := key_match (right_fine hr j hjn) hf e
        rw [no j hjn] at this
        cases this
      omega
    rw [h0, Int.zero_add]
    have e1 : addLen s.n s.z h = s.n + 1 := if_pos h0
    have e2 : addZ s.n s.z h = insZ s.z (addPos s.n s.z h) h := if_pos h0
    rw [e1, e2]
    exact with_insO s h (addPos s.n s.z h) w hs hr (rng_of hf) p1 (fun hlt => hst _ (Nat.le_refl _) hlt) (by omega) p2 (fun j hj hjn => hst j (by omega) hjn)
  · obtain ⟨q1, q2, q3, q4, q5⟩ := kept_pos hr h0
    have hkey : keyH (s.z (dropI s.n s.z h.o h.l h.b)) = keyH h := match_key (n := h.n) q2
    have hp : dropI s.n s.z h.o h.l h.b = addPos s.n s.z h := by
      rcases Nat.lt_trichotomy (dropI s.n s.z h.o h.l h.b) (addPos s.n s.z h) with c | c | c
      · have := p2 _ c; omega
      · exact c
      · have := q4 _ c
        have := p3 _ (Nat.le_refl _) (by omega)
        omega
    rw [hp] at q1 q2 q3 q4 q5 hkey
    have hz := fineH_true (right_fine hr _ q1)
    have e1 : addLen s.n s.z h = s.n := if_neg h0
    have e2 : addZ s.n s.z h = setZ s.z (addPos s.n s.z h) ⟨h.o, h.l, h.b, keptV s.n s.z h.o h.l h.b + h.n⟩ := if_neg h0
    rw [e1, e2]
    exact with_setO s ⟨h.o, h.l, h.b, keptV s.n s.z h.o h.l h.b + h.n⟩ (addPos s.n s.z h) w hs hr ⟨hfh.1, hfh.2.1, hfh.2.2.1⟩ q1 hkey (by show ¬ keptV s.n s.z h.o h.l h.b + h.n = 0; omega) (fun j hj => by have := q4 j hj; rw [hkey] at this; exact this) (fun j hj hjn => by have := q5 j hj hjn; rw [hkey] at this; exact this)
theorem keptAt_b (s : Hs) (o l b : Int) (w : World) (hs : s.At w) :
    Calls Tryz.prog 34 #[s.val, .int .i64 o, .int .i64 l, .int .i64 b] w fun e w' => e = .returned (.int .i64 (keptV s.n s.z o l b)) ∧ Below w.heap.size w w' :=
  (keptAt_any s o l b w hs).mono fun e w' h => ⟨h.1, by rw [h.2]; exact Below.refl _ _⟩
end Go.Proofs.YtbcacebifpagpadGreat
namespace Go.Proofs.YtbcacebifpagpadGreat
open Go.RowKit Go.Shelf Go.Sort
set_option linter.unusedVariables false
def wayK (p : Pl) (but : Int) (k : Nat) : List Int := ((wayL p).take k).filter (fun b => !(b == but))
theorem wayK_succ {p : Pl} {but : Int} {k : Nat} (hk : k < (wayL p).length) : wayK p but (k + 1) = wayK p but k ++ if (wayL p).getD k 0 = but then [] else [(wayL p).getD k 0] := by
  unfold wayK
  rw [List.take_add_one, List.getElem?_eq_getElem hk, List.filter_append]
  have e : (wayL p).getD k 0 = (wayL p)[k] := by simp [List.getD, List.getElem?_eq_getElem hk]
  rw [e]
  congr 1
  by_cases h : (wayL p)[k] = but <;> simp [h]
theorem wayK_all (p : Pl) (but : Int) : wayK p but (wayL p).length = wayT p but := by unfold wayK wayT; rw [List.take_length]
theorem wayK_apart (p : Pl) (but : Int) (k : Nat) : (wayK p but k).Pairwise (fun x y => ¬ x = y) := (((way_pw p).imp fun h => h.1).sublist (List.take_sublist _ _)).filter _
theorem wayK_mem {p : Pl} {but x : Int} {k : Nat} (h : x ∈ wayK p but k) : x ∈ (wayL p).take k := (List.mem_filter.1 h).1
theorem wayK_in {p : Pl} {but x : Int} {k : Nat} (h : x ∈ wayK p but k) : 0 ≤ x ∧ x < p.nb := way_mem (List.mem_of_mem_take (wayK_mem h))
theorem wayK_new {p : Pl} {but : Int} {k : Nat} (hk : k < (wayL p).length) : (wayL p).getD k 0 ∉ wayK p but k := fun h => by
  have h1 := wayK_mem h
  have e : (wayL p).getD k 0 = (wayL p)[k] := by simp [List.getD, List.getElem?_eq_getElem hk]
  rw [e] at h1
  obtain ⟨j, hj, hj2⟩ := List.mem_iff_getElem.1 h1
  rw [List.length_take] at hj
  rw [List.getElem_take] at hj2
  have hp := List.pairwise_iff_getElem.1 (way_pw p) j k (by omega) hk (by omega)
  exact hp.1 hj2
def TakeJ (s : St) (o l : Nat) (n : Int) (t : Tk) (F : List Int) (A BX BL g : Nat) (wk : World) : Prop :=
  ∃ x : St, Took s o l n t x ∧ OwnS A wk x ∧ Blk wk BX 31 7 (fun j => x.cells.getD j default) ∧ Blk wk g 3 F.length (fun j => .int .i64 (F.getD j 0)) ∧ (x.os.z o).ls.a = some ⟨BL, 0, none⟩ ∧ Blk wk (BX + 1) 31 7 (fun _ => .slice .none 0 0)
def KeepL (w wk : World) : Prop := ∀ (q : Nat) (t : TypeId) (m : Nat) (f : Nat → Value), t ≠ 49 → Blk w q t m f → Blk wk q t m f
theorem KeepL.below {w wk wj : World} (h : KeepL w wk) (hB : Below wk.heap.size wk wj) : KeepL w wj := fun q t m f ht hb => (h q t m f ht hb).below hB
theorem KeepL.refl (w : World) : KeepL w w := fun _ _ _ _ _ h => h
theorem KeepL.setNew {w wk : World} (h : KeepL w wk) {B : Nat} (hB : w.heap.size ≤ B) (j : Nat) (u : Value) : KeepL w (wk.setCell ⟨B, j, none⟩ u) := fun q t m f ht hb => (h q t m f ht hb).other (a := ⟨B, j, none⟩) (by have := hb.lt; show q ≠ B; omega) u
theorem KeepL.setLine {w wk : World} (h : KeepL w wk) {B n : Nat} {z : Nat → Value} (hB : Blk wk B 49 n z) (j : Nat) (u : Value) : KeepL w (wk.setCell ⟨B, j, none⟩ u) := fun q t m f ht hb => (h q t m f ht hb).other (a := ⟨B, j, none⟩) (Blk.ne2 (h q t m f ht hb) hB ht) u
def DWith (A : Nat) (x : Hs) (h : Hd) (v : Value) (g : List Nat) (wk : World) : Prop := ∃ y : Hs, g = [] ∧ v = .slice y.a y.n y.c ∧ OwnH A 55 wk y ∧ y.n = addLen x.n x.z h ∧ y.z = addZ x.n x.z h
theorem DWith.below {A : Nat} {x : Hs} {h : Hd} {v : Value} {g : List Nat} {w w' : World} (k : DWith A x h v g w) (hB : Below w.heap.size w w') : DWith A x h v g w' := by
  obtain ⟨y, h1, h2, h3, h4⟩ := k
  exact ⟨y, h1, h2, h3.below hB, h4⟩
set_option maxRecDepth 100000 in
set_option maxHeartbeats 8000000 in
theorem take_any (p : Pl) (s : St) (o l A : Nat) (n but : Int) (w : World) (hp : p.At w) (hO : OwnS A w s) (hA : A ≤ w.heap.size) (hI : TakeIn p s o l n) :
    Calls Tryz.prog 24 #[p.val, s.val, .int .i64 (o : Int), .int .i64 (l : Int), .int .i64 n, .int .i64 but] w fun e w' => ∃ x : St, e = .returned (.tuple #[x.val, .int .i64 (Tk.go (avT s o l) n (wayT p but)).left]) ∧ Took s o l n (Tk.go (avT s o l) n (wayT p but)) x ∧ OwnS A w' x ∧ Below A w w' ∧ KeepL w w' := by
  obtain ⟨W0, hW, hWB, X0, Z0⟩ : ∃ W, (((w.alloc (.cells #[.slice p.ab p.nb p.cb, .slice p.sa p.ns p.cs] 25)).alloc (.cells s.cells 31)).alloc (.cells #[.slice .none 0 0, .slice .none 0 0, .slice .none 0 0, .slice .none 0 0, .slice .none 0 0, .slice .none 0 0, .slice .none 0 0] 31)) = W ∧ Below w.heap.size w W ∧ Blk W (w.heap.size + 1) 31 7 (fun j => s.cells.getD j default) ∧ Blk W (w.heap.size + 1 + 1) 31 7 (fun _ => .slice .none 0 0) :=
    ⟨_, rfl, (two_below _ _ _).alloc (by simp; omega) _, (Blk.mk' (by simp) rfl).alloc _, (Blk.mk' (cur := #[.slice .none 0 0, .slice .none 0 0, .slice .none 0 0, .slice .none 0 0, .slice .none 0 0, .slice .none 0 0, .slice .none 0 0]) (by simp) rfl).congr (fun j hj => by match j, hj with | 0, _ => rfl | 1, _ => rfl | 2, _ => rfl | 3, _ => rfl | 4, _ => rfl | 5, _ => rfl | 6, _ => rfl)⟩
  have HW : Hid (((w.alloc (.cells #[.slice p.ab p.nb p.cb, .slice p.sa p.ns p.cs] 25)).alloc (.cells #[.slice s.on.a s.on.n s.on.c, .slice s.os.a s.os.n s.os.c, .slice s.hs.a s.hs.n s.hs.c, .slice s.ms.a s.ms.n s.ms.c, .slice s.si.a s.si.n s.si.c, .slice s.so.a s.so.n s.so.c, .slice s.sf.a s.sf.n s.sf.c] 31)).alloc (.cells #[.slice .none 0 0, .slice .none 0 0, .slice .none 0 0, .slice .none 0 0, .slice .none 0 0, .slice .none 0 0, .slice .none 0 0] 31) = W0) := hW
  have HI : Hid (TakeIn p s o l n) := hI
  have HP : Hid (p.At W0) := hp.below hWB
  have leb := hp.leb
  have capb := hp.capb
  have nb1 := hI.fm.sh.pl.nb1
  have nb6 := hI.fm.sh.pl.nb6
  have ho := hI.on
  have hl := hI.ln
  unfold maxLen at capb
  have HX0 : Hid (OwnS A W0 s ∧ Blk W0 (w.heap.size + 1) 31 7 (fun j => s.cells.getD j default) ∧ Blk W0 (w.heap.size + 1 + 1) 31 7 (fun _ => .slice .none 0 0) ∧ Below A w W0) := ⟨OwnS.below hO hWB, X0, Z0, hWB.mono hA⟩
  clear hW X0 Z0 hp hO hI
  unfold Pl.val St.val
  go_enter Tryz.func24, Tryz.ntmps24
  go_wp2_with fail
  rw [HW.out]
  refine (WayOfOwn_any p W0 HP.out nb6).mono ?_
  rintro e w1 ⟨v, rfl, hown, hB1⟩
  have HWL : Hid ((wayL p).length = p.nb) := way_len p
  have hv : v ≠ .slice none 0 0 := by
    rintro rfl
    rcases hown.2 with ⟨_, h0⟩ | ⟨g2, cap2, cur2, h, _⟩
    · have := HWL.out; omega
    · cases h
  obtain ⟨g, c, rfl, hc1, hc2, hg, hk⟩ := Blk.ofOwns hown hv
  have hk2 : Blk w1 g 3 (wayL p).length (fun j => .int .i64 ((wayL p).getD j 0)) := by
    have h := hk.less (m := (wayL p).length) (by omega)
    refine h.congr fun j hj => ?_
    simp [List.getD, List.getElem?_eq_getElem hj]
  obtain ⟨hO0, X0, Z0, hA0⟩ := HX0.out
  have hO1 := OwnS.below hO0 hB1
  have X1 := X0.below hB1
  have Z1 := Z0.below hB1
  have hA1 := hA0.trans (hB1.mono (Nat.le_trans hA hWB.size))
  obtain ⟨gO, BL, f1, f2, f3, f4, f5, f6, f7, f8, f9, f10, f11, f12, f13, f14⟩ := hO1.lineCell ho hl
  have HINV : Hid (TakeJ s o l n (Tk.go (avT s o l) n (wayK p but 0)) (wayL p) A (w.heap.size + 1) BL g w1) := ⟨s, Took.start HI.out.fm.hold ⟨⟨rfl, fun _ _ => ⟨rfl, fun _ _ => rfl⟩⟩, ⟨rfl, fun _ _ => ⟨rfl, rfl, fun _ _ => rfl⟩⟩, ⟨rfl, fun _ _ => rfl⟩, ⟨rfl, fun _ _ => rfl⟩, ⟨rfl, fun _ _ => rfl⟩, ⟨rfl, fun _ _ => rfl⟩, ⟨rfl, fun _ _ => rfl⟩⟩, hO1, X1, hk2, f5, Z1⟩
  have HKP : Hid (KeepL w w1) := ((KeepL.refl w).below hWB).below hB1
  have HBA : Hid (Below A w w1 ∧ A ≤ BL ∧ w.heap.size + 1 < W0.heap.size ∧ W0.heap.size ≤ g) := ⟨hA1, f6, X0.lt, hg⟩
  have s1 : w1.cell? ⟨w.heap.size + 1, 1, none⟩ = some (.slice s.os.a s.os.n s.os.c) := X1.cell (j := 1) (by decide)
  have s2 := X1.lt
  have v1 := hO1.os.le
  have v2 := hO1.os.cap
  rw [f1] at s1
  unfold maxLen at v2 f9 hc2
  have qo : (0 : Int) ≤ (o : Int) := by omega
  have ql : (0 : Int) ≤ (l : Int) := by omega
  have hgd := HI.out.good
  obtain ⟨gd, hgv⟩ := Int.eq_ofNat_of_zero_le hgd.1
  have HGV : Hid (((s.os.z o).ls.z l).o = (gd : Int)) := hgv
  have hgdn : gd < p.ns := by omega
  rw [hgv] at f11
  clear hown hv hk hk2 hO0 X0 Z0 hA0 hO1 X1 Z1 hA1 f1 f2 f5 f6 f10 f12 f13 f14 HX0 HW HP hB1 hgd hgv hg
  go_wp2_with fail
  clear s1 s2 f3 f4 f7 f8 f9 f11 v1 v2
  go_loopw [4, 16] (fun nv kv wk => ∃ k : Nat, k ≤ (wayL p).length ∧ kv = .int .i64 k ∧ nv = .int .i64 (Tk.go (avT s o l) n (wayK p but k)).left ∧ Hid (TakeJ s o l n (Tk.go (avT s o l) n (wayK p but k)) (wayL p) A (w.heap.size + 1) BL g wk) ∧ Hid (Below A w wk) ∧ Hid (KeepL w wk)) (fun _ kv _ => (wayL p).length - (intOf kv).toNat)
  case atStart => exact ⟨0, Nat.zero_le _, rfl, rfl, HINV, HBA.out.1, HKP⟩
  case round =>
    clear HINV HKP
    obtain ⟨k, hk, rfl, rfl, HV, HBk, HKP⟩ := hrel
    have HTK : Hid (TkOK (avT s o l) n (wayK p but k) (Tk.go (avT s o l) n (wayK p but k))) := HI.out.tk (wayK_apart p but k) (fun x hx => wayK_in hx)
    have HSTEP : Hid (k < (wayL p).length → Tk.go (avT s o l) n (wayK p but (k + 1)) = if (wayL p).getD k 0 = but then Tk.go (avT s o l) n (wayK p but k) else (Tk.go (avT s o l) n (wayK p but k)).step (avT s o l) ((wayL p).getD k 0)) := fun h => by
      rw [wayK_succ h]
      by_cases hb : (wayL p).getD k 0 = but
      · rw [if_pos hb, if_pos hb, List.append_nil]
      · rw [if_neg hb, if_neg hb, Tk.go_more]
    have HEND : Hid (k = (wayL p).length → Tk.go (avT s o l) n (wayK p but k) = Tk.go (avT s o l) n (wayT p but)) := fun h => by rw [h, wayK_all]
    obtain ⟨x, hx⟩ := HV.out
    have HX : Hid (Took s o l n (Tk.go (avT s o l) n (wayK p but k)) x ∧ OwnS A wr x ∧ Blk wr (w.heap.size + 1) 31 7 (fun j => x.cells.getD j default) ∧ Blk wr g 3 (wayL p).length (fun j => .int .i64 ((wayL p).getD j 0)) ∧ (x.os.z o).ls.a = some ⟨BL, 0, none⟩ ∧ Blk wr (w.heap.size + 1 + 1) 31 7 (fun _ => .slice .none 0 0)) := hx
    obtain ⟨T, hTd⟩ : ∃ T, Tk.go (avT s o l) n (wayK p but k) = T := ⟨_, rfl⟩
    rw [hTd] at HTK HSTEP HEND HX ⊢
    clear hx HV hTd
    have tl0 := HTK.out.left0
    have tln := HTK.out.leftn
    have nbk := HI.out.bk
    by_cases hlt : k < (wayL p).length
    · have HS1 : Hid _ := HSTEP.out hlt
      obtain ⟨hbm0, hbm1⟩ := way_mem (List.mem_iff_getElem.2 ⟨k, hlt, rfl⟩ : (wayL p)[k] ∈ wayL p)
      have hbe : (wayL p).getD k 0 = (wayL p)[k] := by simp [List.getD, List.getElem?_eq_getElem hlt]
      have z0 := HX.out.2.2.2.1.cell (j := k) hlt
      have z1 := HX.out.2.2.2.1.lt
      rw [← hbe] at hbm0 hbm1
      obtain ⟨bv, hbv⟩ := Int.eq_ofNat_of_zero_le hbm0
      have HBV : Hid ((wayL p).getD k 0 = (bv : Int)) := hbv
      rw [hbv] at z0 hbm1
      have hbvn : bv < p.nb := by omega
      have hnew := wayK_new (but := but) hlt
      rw [hbv] at hnew
      have HFX : Hid (Formed p x) := HI.out.formed (fun x hx => wayK_in hx) HTK.out HX.out.1
      have HAX : Hid (availZ x bv gd = avT s o l bv) := by
        have h := HI.out.availAt (fun x hx => wayK_in hx) HTK.out HX.out.1 hbvn hnew
        rw [HGV.out] at h
        exact h
      have avb : -20000 ≤ avT s o l bv ∧ avT s o l bv ≤ 200 := by
        have f := HI.out.fm
        have h1 := f.sh.num bv (by rw [f.sh.n]; exact hbvn) gd hgdn
        have h2 := heldTo_bd (s := s) (b := bv) (g := gd) f.holdN
        have h3 := fromTo_bd (s := s) (b := bv) (g := gd) f.moveN
        have h4 := f.hs72
        have h5 := f.ms8
        unfold avT
        rw [HGV.out]
        show -20000 ≤ availZ s bv gd ∧ availZ s bv gd ≤ 200
        unfold availZ
        omega
      have HAVE : Hid (avT s o l ((wayL p).getD k 0) = avT s o l bv) := by show avT s o l ((wayL p).getD k 0) = _; rw [hbv]
      generalize hAVd : avT s o l (bv : Int) = AV at *
      clear hAVd hnew hbm0 hbm1 hbe
      have q0 : (0 : Int) ≤ (k : Int) := by omega
      obtain ⟨N, hN⟩ : ∃ N, T.left = N := ⟨_, rfl⟩
      have HN : Hid (T.left = N) := hN
      rw [hN] at tl0 tln ⊢
      clear hN
      have HMZ : Hid (∀ m, min N AV = m → min T.left (avT s o l ((wayL p).getD k 0)) = m) := fun m h => by rw [HAVE.out, HN.out]; exact h
      rw [hbv] at HS1
      clear hbv HSTEP HEND
      have hNb : N ≤ 200 := by
        have := HI.out.sum
        have := (keptS_bd (z := s.hs.z) o l s.hs.n fun j hj => (fineH_true (right_fine HI.out.fm.hold j hj)).2.2.2).1
        omega
      by_cases hbut : (bv : Int) = but
      · have hbd : ((bv : Int) == but) = true := by simpa using hbut
        have HNX : Hid (Tk.go (avT s o l) n (wayK p but (k + 1)) = T) := by
          show Tk.go (avT s o l) n (wayK p but (k + 1)) = T
          rw [HS1.out, if_pos hbut]
        clear hbut
        go_wp2_with fail
        go_roundw
        case rel => exact ⟨k + 1, by omega, by go_num, by rw [HNX.out, HN.out], by rw [HNX.out]; exact ⟨x, HX.out⟩, HBk, HKP⟩
        case measure => simp [intOf]; omega
      · have hbd : ((bv : Int) == but) = false := by simpa using hbut
        have HS2 : Hid (Tk.go (avT s o l) n (wayK p but (k + 1)) = T.step (avT s o l) (bv : Int)) := by
          show Tk.go (avT s o l) n (wayK p but (k + 1)) = _
          rw [HS1.out, if_neg hbut]
        clear hbut HS1
        have KX := HX.out.2.2.1
        obtain ⟨m1, p0, p1, p2, p3, p4, p5, p6⟩ := Boxed.of KX
        have HAL : Hid (Calls Tryz.prog 61 #[x.val, .int .i64 (bv : Int), .int .i64 (gd : Int)] wr fun e w' => e = .returned (.int .i64 AV) ∧ Below wr.heap.size wr w') := by
          have h := AvailOf_any p x bv gd wr HX.out.2.1.at HFX.out hbvn hgdn
          rw [HAX.out] at h
          exact h
        clear KX
        go_wp2_with fail
        refine HAL.out.mono ?_
        rintro e w9 ⟨rfl, hB9⟩
        clear m1 p0 p1 p2 p3 p4 p5 p6 HAL z0 z1
        have HBk9 : Hid (Below A w w9) := HBk.out.trans (hB9.mono (Nat.le_trans hA HBk.out.size))
        have HX9 : Hid (Took s o l n T x ∧ OwnS A w9 x ∧ Blk w9 (w.heap.size + 1) 31 7 (fun j => x.cells.getD j default) ∧ Blk w9 g 3 (wayL p).length (fun j => .int .i64 ((wayL p).getD j 0)) ∧ (x.os.z o).ls.a = some ⟨BL, 0, none⟩ ∧ Blk w9 (w.heap.size + 1 + 1) 31 7 (fun _ => .slice .none 0 0)) := ⟨HX.out.1, OwnS.below HX.out.2.1 hB9, HX.out.2.2.1.below hB9, HX.out.2.2.2.1.below hB9, HX.out.2.2.2.2.1, HX.out.2.2.2.2.2.below hB9⟩
        have HKP9 : Hid (KeepL w w9) := HKP.out.below hB9
        clear HX HBk hB9 HKP
        by_cases hm0 : min N AV ≤ 0
        · have hm1 : min N AV = 0 := by
            have := HI.out.av bv hbvn
            have e : avT s o l (bv : Int) = availZ s bv ((s.os.z o).ls.z l).o.toNat := rfl
            have := HAVE.out
            rw [HBV.out, e] at this
            omega
          have g1 : ¬ 0 < min N AV := by omega
          have g2 : decide (0 < min N AV) = false := decide_eq_false g1
          have HNX : Hid (TakeJ s o l n (Tk.go (avT s o l) n (wayK p but (k + 1))) (wayL p) A (w.heap.size + 1) BL g w9 ∧ (Tk.go (avT s o l) n (wayK p but (k + 1))).left = N) := by
            have e0 : min T.left (avT s o l (bv : Int)) = 0 := by have h := HMZ.out 0 hm1; rw [HBV.out] at h; exact h
            refine ⟨⟨x, ?_, HX9.out.2⟩, ?_⟩
            · rw [HS2.out]
              exact HX9.out.1.stepZero e0
            · rw [HS2.out]
              show T.left - min T.left _ = N
              rw [e0, HN.out]
              omega
          clear hm0
          go_wp2_with fail
          go_roundw
          case rel => exact ⟨k + 1, by omega, by go_num, by rw [HNX.out.2], HNX.out.1, HBk9, HKP9⟩
          case measure => simp [intOf]; omega
        · obtain ⟨MV, hMV⟩ : ∃ MV, min N AV = MV := ⟨_, rfl⟩
          have HM1 : Hid (min N AV = MV) := hMV
          have mv0 : 0 < MV := by omega
          have mv1 : MV ≤ N := by omega
          have g2 : decide (0 < MV) = true := decide_eq_true mv0
          have HAE : Hid (fineH (tookH o l bv MV) = true ∧ keptV x.hs.n x.hs.z o l bv + MV ≤ 200 ∧ addE x.hs.n x.hs.z (tookH o l bv MV) = 0) := HI.out.addE (fun x hx => wayK_in hx) HTK.out HX9.out.1 (b := (bv : Int)) ⟨by omega, by omega⟩ mv0 (by rw [HN.out]; exact mv1)
          have kv0 := (keptV_bd (fun j hj => (fineH_true (right_fine HX9.out.1.right j hj)).2.2.2) (o : Int) (l : Int) (bv : Int)).1
          have kv1 := HAE.out.2.1
          obtain ⟨KV, hKV⟩ : ∃ KV, keptV x.hs.n x.hs.z o l bv = KV := ⟨_, rfl⟩
          have HKV : Hid (keptV x.hs.n x.hs.z o l bv = KV) := hKV
          rw [hKV] at kv0 kv1
          clear hKV
          have KX := HX9.out.2.2.1
          have y2 : ∀ d os, (grow (redrawn w9 d) os).cell? ⟨w.heap.size + 1, 2, none⟩ = some (.slice x.hs.a x.hs.n x.hs.c) := fun d os => cell_regrown (KX.cell (j := 2) (by decide)) d os
          have y3 := KX.lt
          clear KX hm0
          go_wp2_with fail
          clear hMV
          refine wp_region_made6 (fun w' => ∃ p : Regrown, w' = grow (redrawn w9 p.d) p.os) [0, 1, 2, 3, 4, 5, 6, 7, 8, 9, 11] [10, 12, 13] [(true, 14), (true, 15)] (by kernel_rfl) (by kernel_rfl) (by kernel_rfl) (by kernel_rfl) (by kernel_rfl) (by kernel_rfl) (by kernel_rfl) (by kernel_rfl) (by kernel_rfl) (regrown_of_below ((Below.refl _ _).drew)) ?_
          simp only [picks, List.drop_succ_cons, List.drop_zero, List.take_succ_cons, List.take_zero, List.cons_append, List.nil_append]
          repeat (go_big_quiet_step (fail))
          refine wpQuiet_nil ?_
          clear y2
          refine ⟨fun j v g wk => match j with | 10 => g = [] ∧ v = .int .i64 KV | 12 => g = [] ∧ v = .int .i64 (KV + MV) | 13 => DWith w9.heap.size x.hs (tookH o l bv MV) v g wk | _ => True,
            List.forall_mem_cons.2 ⟨fun v g w w' hB h => h, List.forall_mem_cons.2 ⟨fun v g w w' hB h => h, List.forall_mem_cons.2 ⟨fun v g w w' hB h => DWith.below h hB, List.forall_mem_nil _⟩⟩⟩,
            List.forall_mem_cons.2 ⟨fun v g w h => by rw [h.1]; intro x hx; simp at hx, List.forall_mem_cons.2 ⟨fun v g w h => by rw [h.1]; intro x hx; simp at hx, List.forall_mem_cons.2 ⟨fun v g w h => by obtain ⟨_, h1, _⟩ := h; rw [h1]; intro x hx; simp at hx, List.forall_mem_nil _⟩⟩⟩,
            List.forall_mem_cons.2 ⟨?zt3, List.forall_mem_cons.2 ⟨?zt4, List.forall_mem_cons.2 ⟨?zt5, List.forall_mem_nil _⟩⟩⟩, ?ztdone⟩
          case zt3 =>
            intro V G wk K hS hd hA hK
            have hX := below_of_regrown hS
            refine wpOp_list 10 rfl ?_
            simp only [putAll, dstOf, List.getElem?_toArray, List.getElem?_cons_succ, List.getElem?_cons_zero, Act.put, List.setIfInBounds_toArray, List.set_cons_succ, List.set_cons_zero] at hK ⊢
            have HKA : Hid (Calls Tryz.prog 34 #[.slice x.hs.a x.hs.n x.hs.c, .int .i64 (o : Int), .int .i64 (l : Int), .int .i64 (bv : Int)] wk fun e w' => e = .returned (.int .i64 KV) ∧ Below wk.heap.size wk w') := by
              have h := keptAt_b x.hs o l bv wk (HX9.out.2.1.hs.at.below hX)
              rw [HKV.out] at h
              exact h
            go_wp2_with fail
            refine HKA.out.mono ?_
            rintro e w2 ⟨rfl, hB2⟩
            go_wp2_with fail
            exact hK _ [] _ (regrown_of_below (hX.trans (hB2.mono hX.size))) hB2 (fun x hx => by simp at hx) ⟨rfl, rfl⟩
          case zt4 =>
            intro V G wk K hS hd hA hK
            obtain ⟨-, h10⟩ : (G 10 = [] ∧ V 10 = .int .i64 KV) := hd 10 (List.contains_iff_mem.1 (by kernel_rfl)) (by simp)
            refine wpOp_list 12 rfl ?_
            simp only [putAll, dstOf, List.getElem?_toArray, List.getElem?_cons_succ, List.getElem?_cons_zero, Act.put, List.setIfInBounds_toArray, List.set_cons_succ, List.set_cons_zero, h10] at hK ⊢
            go_wp2_with fail
            exact hK _ [] _ hS (Below.refl _ _) (fun x hx => by simp at hx) ⟨rfl, rfl⟩
          case zt5 =>
            intro V G wk K hS hd hA hK
            have hX := below_of_regrown hS
            have q := hX.size
            obtain ⟨-, h12⟩ : (G 12 = [] ∧ V 12 = .int .i64 (KV + MV)) := hd 12 (List.contains_iff_mem.1 (by kernel_rfl)) (by simp)
            refine wpOp_list 13 rfl ?_
            simp only [putAll, dstOf, List.getElem?_toArray, List.getElem?_cons_succ, List.getElem?_cons_zero, Act.put, List.setIfInBounds_toArray, List.set_cons_succ, List.set_cons_zero, h12] at hK ⊢
            have HWI : Hid (Calls Tryz.prog 35 #[.slice x.hs.a x.hs.n x.hs.c, .int .i64 (o : Int), .int .i64 (l : Int), .int .i64 (bv : Int), .int .i64 (KV + MV)] wk fun e w' => ∃ s' : Hs, e = .returned s'.val ∧ OwnH wk.heap.size 55 w' s' ∧ s'.n = addLen x.hs.n x.hs.z (tookH o l bv MV) ∧ s'.z = addZ x.hs.n x.hs.z (tookH o l bv MV) ∧ Below wk.heap.size wk w') := by
              have h := with_addO x.hs (tookH o l bv MV) wk (HX9.out.2.1.hs.at.below hX) HX9.out.1.right HAE.out.1
              rw [show keptV x.hs.n x.hs.z (tookH o l bv MV).o (tookH o l bv MV).l (tookH o l bv MV).b = KV from HKV.out] at h
              exact h
            go_wp2_with fail
            refine HWI.out.mono ?_
            rintro e w2 ⟨y, rfl, h1, h2, h3, hB2⟩
            have HR : Hid (OwnH w9.heap.size 55 w2 y ∧ y.n = addLen x.hs.n x.hs.z (tookH o l bv MV) ∧ y.z = addZ x.hs.n x.hs.z (tookH o l bv MV)) := ⟨h1.mono (by omega), h2, h3⟩
            clear h1 h2 h3
            simp only [Hs.val]
            go_wp2_with fail
            exact hK _ [] _ (regrown_of_below (hX.trans (hB2.mono hX.size))) hB2 (fun x hx => by simp at hx) ⟨y, rfl, rfl, HR.out⟩
          case ztdone =>
            intro V G' wk hS hD hA2
            obtain ⟨y, -, h13, yown, yn, yz⟩ : DWith w9.heap.size x.hs (tookH o l bv MV) (V 13) (G' 13) wk := hD 13 (by simp)
            have hX := below_of_regrown hS
            have yok : AddOK x.hs.n x.hs.z (tookH o l bv MV) y := ⟨by rw [if_pos HAE.out.2.2]; exact yn, fun j _ => by rw [yz]⟩
            have q9 := HBk9.out.size
            have qa := hX.size
            obtain ⟨b1, b2, b3, b4⟩ := HBA.out
            have hOa := OwnS.below HX9.out.2.1 hX
            have KA := HX9.out.2.2.1.below hX
            have FA := HX9.out.2.2.2.1.below hX
            have ZA := HX9.out.2.2.2.2.2.below hX
            have hBka := HBk9.out.trans (hX.mono (Nat.le_trans hA HBk9.out.size))
            have ho1 : o < x.os.n := by rw [HX9.out.1.os.1]; exact ho
            have hOb := (hOa.withHolds (yown.mono (by omega))).box KA 2 (.slice y.a y.n y.c)
            have KB := KA.set 2 (.slice y.a y.n y.c)
            have FB := FA.other (a := ⟨w.heap.size + 1, 2, none⟩) (Blk.ne2 FA KA (by decide)) (.slice y.a y.n y.c)
            have ZB := ZA.other (a := ⟨w.heap.size + 1, 2, none⟩) (by show w.heap.size + 1 + 1 ≠ w.heap.size + 1; omega) (.slice y.a y.n y.c)
            have hBb := hBka.setCell (p := ⟨w.heap.size + 1, 2, none⟩) (by show A ≤ w.heap.size + 1; omega) (.slice y.a y.n y.c)
            have hl1 : l < (x.os.z o).ls.n := by rw [(HX9.out.1.os.2 o ho1).2.1]; exact hl
            have hTn := HX9.out.1.stepAdd (av := avT s o l) (order := o) (line := l) (b := (bv : Int)) (m := MV) ho hl (by have h := HMZ.out MV HM1.out; rw [HBV.out] at h; exact h) HAE.out.2.2 yok
            have kpb := (HKP9.out.below hX).setNew (B := w.heap.size + 1) (by omega) 2 (.slice y.a y.n y.c)
            have z1 := KA.lt
            have z2 := KA.frozen 2
            have z3 := KA.cell (j := 2) (by decide)
            obtain ⟨WS, hWS⟩ : ∃ WS, wk.setCell ⟨w.heap.size + 1, 2, none⟩ (.slice y.a y.n y.c) = WS := ⟨_, rfl⟩
            have HWS : Hid (wk.setCell ⟨w.heap.size + 1, 2, none⟩ (.slice y.a y.n y.c) = WS) := hWS
            rw [hWS] at hOb KB FB ZB hBb kpb
            have HKPS : Hid (KeepL w WS) := kpb
            have HS9 : Hid (OwnS A WS (withHolds x y) ∧ Blk WS (w.heap.size + 1) 31 7 (fun i => if i = 2 then .slice y.a y.n y.c else x.cells.getD i default) ∧ Blk WS g 3 (wayL p).length (fun j => .int .i64 ((wayL p).getD j 0)) ∧ Blk WS (w.heap.size + 1 + 1) 31 7 (fun _ => .slice .none 0 0) ∧ Below A w WS ∧ Took s o l n (T.step (avT s o l) bv) (withHolds (setLine x o l 3 (((x.os.z o).ls.z l).n - MV)) y)) := ⟨hOb, KB, FB, ZB, hBb, hTn⟩
            have hXO : Hid (o < x.os.n ∧ l < (x.os.z o).ls.n ∧ (x.os.z o).ls.a = some ⟨BL, 0, none⟩ ∧ A ≤ BL) := ⟨ho1, hl1, HX9.out.2.2.2.2.1, b2⟩
            have HBXX : Hid (((x.os.z o).ls.z l).n = ((s.os.z o).ls.z l).n - (n - T.left)) := by
              show ((x.os.z o).ls.z l).n = _
              rw [(HX9.out.1.os.2 o ho1).2.2 l hl1, if_pos ⟨rfl, rfl⟩]
              rfl
            clear kpb HKP9 hS hD hA2 hX hOa KA FA ZA hBka hOb KB FB ZB hBb hTn yown yn yz yok hWS ho1 hl1 HX9 HBk9
            simp only [putAll, dstOf, List.getElem?_toArray, List.getElem?_cons_succ, List.getElem?_cons_zero, Act.put, List.setIfInBounds_toArray, List.set_cons_succ, List.set_cons_zero, h13]
            refine wpSeq_one 14 rfl ?_
            go_wp2_with fail
            refine ⟨Late.yes, ?_⟩
            refine wpSeq_one 15 rfl ?_
            go_wp2_with fail
            refine ⟨Late.yes, ?_⟩
            refine NoPanic.normal ?_
            rw [HWS.out]
            clear z1 z2 z3 HWS h13 b1 b2 b3 b4 q9 qa
            obtain ⟨ho1, hl1, hla1, hAB⟩ := hXO.out
            obtain ⟨gO, BL', f1, f2, f3, f4, f5, f6, f7, f8, f9, f10, f11, f12, f13, f14⟩ := HS9.out.1.lineCell (o := o) (l := l) ho1 hl1
            have f5' : (x.os.z o).ls.a = some ⟨BL', 0, none⟩ := f5
            rw [hla1] at f5'
            simp only [Option.some.injEq, Addr.mk.injEq, and_true] at f5'
            subst f5'
            have HF5 : Hid (((withHolds x y).os.z o).ls.a = some ⟨BL, 0, none⟩) := f5
            have s1 : WS.cell? ⟨w.heap.size + 1, 1, none⟩ = some (.slice x.os.a x.os.n x.os.c) := HS9.out.2.1.cell (j := 1) (by decide)
            have f1' : x.os.a = some ⟨gO, 0, none⟩ := f1
            rw [f1'] at s1
            have f4' : WS.cell? ⟨gO, o * 2 + 1, none⟩ = some (.slice (some ⟨BL, 0, none⟩) (x.os.z o).ls.n (x.os.z o).ls.c) := f4
            have f14' : WS.cell? ⟨BL, l * 4 + 3, none⟩ = some (.int .i64 ((x.os.z o).ls.z l).n) := f14
            obtain ⟨BK, hBK⟩ : ∃ BK, ((x.os.z o).ls.z l).n = BK := ⟨_, rfl⟩
            have HBK : Hid (((x.os.z o).ls.z l).n = BK) := hBK
            have bkb : -1000 ≤ BK ∧ BK ≤ 1000 := by
              rw [← hBK, HBXX.out]
              have := badLine_no (HI.out.fm.line o ho l hl)
              have := HN.out
              omega
            rw [hBK] at f14'
            have v1 : x.os.n ≤ x.os.c := HS9.out.1.os.le
            have v2 : x.os.c ≤ maxLen := HS9.out.1.os.cap
            have v3 : (x.os.z o).ls.n ≤ (x.os.z o).ls.c := f8
            have v4 : (x.os.z o).ls.c ≤ maxLen := f9
            unfold maxLen at v2 v4
            have t1 : ∀ d os, (grow (redrawn WS d) os).cell? ⟨w.heap.size + 1, 1, none⟩ = some (.slice (some ⟨gO, 0, none⟩) x.os.n x.os.c) := fun d os => cell_regrown s1 d os
            have t2 : ∀ d os, (grow (redrawn WS d) os).cell? ⟨gO, o * 2 + 1, none⟩ = some (.slice (some ⟨BL, 0, none⟩) (x.os.z o).ls.n (x.os.z o).ls.c) := fun d os => cell_regrown f4' d os
            have t3 : ∀ d os, (grow (redrawn WS d) os).cell? ⟨BL, l * 4 + 3, none⟩ = some (.int .i64 BK) := fun d os => cell_regrown f14' d os
            clear hBK f1 f2 f3 f4 f5 f6 f7 f8 f9 f10 f11 f12 f13 f14 s1 f1' f4' f14' hla1 hXO HBXX
            go_wp2_with fail
            refine wp_region_made5 (fun w' => ∃ p : Regrown, w' = grow (redrawn WS p.d) p.os) (List.range 21) [] [(true, 21)] (by kernel_rfl) (by kernel_rfl) (by kernel_rfl) (by kernel_rfl) (by kernel_rfl) (by kernel_rfl) (by kernel_rfl) (by kernel_rfl) (by kernel_rfl) (regrown_of_below ((Below.refl _ _).drew)) ?_
            rw [show List.range 21 = [0, 1, 2, 3, 4, 5, 6, 7, 8, 9, 10, 11, 12, 13, 14, 15, 16, 17, 18, 19, 20] from rfl]
            simp only [picks, List.drop_succ_cons, List.drop_zero, List.take_succ_cons, List.take_zero, List.cons_append, List.nil_append]
            repeat (go_big_quiet_step (fail))
            refine wpQuiet_nil ?_
            clear t1 t2 t3
            refine ⟨fun _ _ _ _ => True, List.forall_mem_nil _, List.forall_mem_nil _, List.forall_mem_nil _, fun V G wj hS _ _ => ?_⟩
            have hX := below_of_regrown hS
            have hOj := OwnS.below HS9.out.1 hX
            have Kj := HS9.out.2.1.below hX
            have Fj := HS9.out.2.2.1.below hX
            have Zj := HS9.out.2.2.2.1.below hX
            have hBj := HS9.out.2.2.2.2.1.trans (hX.mono (Nat.le_trans hA HS9.out.2.2.2.2.1.size))
            obtain ⟨B', hla', -, -, -, hlb⟩ := hOj.os.lines o ho1
            rw [HF5.out] at hla'
            simp only [Option.some.injEq, Addr.mk.injEq, and_true] at hla'
            subst hla'
            have zl := hlb.lt
            have zf := hlb.frozen (l * 4 + 3)
            obtain ⟨gq, Bq, -, -, -, -, g5, -, -, -, -, -, -, -, -, zc⟩ := hOj.lineCell (o := o) (l := l) ho1 hl1
            rw [HF5.out] at g5
            simp only [Option.some.injEq, Addr.mk.injEq, and_true] at g5
            subst g5
            have hOc := hOj.setLine (o := o) ho1 HF5.out l 3 (by decide) (BK - MV)
            have KC := Kj.other (a := ⟨BL, l * 4 + 3, none⟩) (Blk.ne2 Kj hlb (by decide)) (.int .i64 (BK - MV))
            have FC := Fj.other (a := ⟨BL, l * 4 + 3, none⟩) (Blk.ne2 Fj hlb (by decide)) (.int .i64 (BK - MV))
            have ZC := Zj.other (a := ⟨BL, l * 4 + 3, none⟩) (Blk.ne2 Zj hlb (by decide)) (.int .i64 (BK - MV))
            have kpc := (HKPS.out.below hX).setLine hlb (l * 4 + 3) (.int .i64 (BK - MV))
            have hBc := hBj.setCell (p := ⟨BL, l * 4 + 3, none⟩) (by show A ≤ BL; omega) (.int .i64 (BK - MV))
            have HNX : Hid (TakeJ s o l n (Tk.go (avT s o l) n (wayK p but (k + 1))) (wayL p) A (w.heap.size + 1) BL g (wj.setCell ⟨BL, l * 4 + 3, none⟩ (.int .i64 (BK - MV))) ∧ (Tk.go (avT s o l) n (wayK p but (k + 1))).left = N - MV ∧ Below A w (wj.setCell ⟨BL, l * 4 + 3, none⟩ (.int .i64 (BK - MV))) ∧ KeepL w (wj.setCell ⟨BL, l * 4 + 3, none⟩ (.int .i64 (BK - MV)))) := by
              refine ⟨⟨withHolds (setLine x o l 3 (BK - MV)) y, ?_, hOc, KC.congr (fun j hj => by match j, hj with | 0, _ => rfl | 1, _ => rfl | 2, _ => rfl | 3, _ => rfl | 4, _ => rfl | 5, _ => rfl | 6, _ => rfl), FC, ?_, ZC⟩, ?_, hBc, kpc⟩
              · rw [HS2.out]
                have h := HS9.out.2.2.2.2.2
                rw [HBK.out] at h
                exact h
              · exact ((setLine_n (s := x) (o := o) (l := l) (c := 3) (v := BK - MV) o).2.1).trans HF5.out
              · rw [HS2.out]
                show T.left - min T.left _ = N - MV
                have h := HMZ.out MV HM1.out
                rw [HBV.out] at h
                rw [h, HN.out]
            clear hOj Kj Fj Zj hBj hlb hOc KC FC ZC hBc kpc HKPS hX hS HS9
            have zc' : wj.cell? ⟨BL, l * 4 + 3, none⟩ = some (.int .i64 ((x.os.z o).ls.z l).n) := zc
            rw [HBK.out] at zc'
            clear zc
            simp only [putAll]
            refine wpSeq_one 21 rfl ?_
            go_wp2_with fail
            refine ⟨Late.yes, ?_⟩
            refine NoPanic.normal ?_
            go_wp2_with fail
            go_roundw
            case rel => exact ⟨k + 1, by omega, by go_num, by rw [HNX.out.2.1], HNX.out.1, HNX.out.2.2.1, HNX.out.2.2.2⟩
            case measure => simp [intOf]; omega
    · have hkn : k = (wayL p).length := by omega
      have HT : Hid (T = Tk.go (avT s o l) n (wayT p but)) := HEND.out hkn
      clear HEND HSTEP
      have KX := HX.out.2.2.1
      obtain ⟨m1, p0, p1, p2, p3, p4, p5, p6⟩ := Boxed.of KX
      have hz := HX.out.2.2.2.2.2
      have zl := hz.lt
      have zf0 := hz.frozen 0
      have zc0 := hz.cell (j := 0) (by decide)
      have zf1 := hz.frozen 1
      have zc1 := hz.cell (j := 1) (by decide)
      have zf2 := hz.frozen 2
      have zc2 := hz.cell (j := 2) (by decide)
      have zf3 := hz.frozen 3
      have zc3 := hz.cell (j := 3) (by decide)
      have zf4 := hz.frozen 4
      have zc4 := hz.cell (j := 4) (by decide)
      have zf5 := hz.frozen 5
      have zc5 := hz.cell (j := 5) (by decide)
      have zf6 := hz.frozen 6
      have zc6 := hz.cell (j := 6) (by decide)
      clear KX hz
      go_wp2_with fail
      have KZ := set7_blk HX.out.2.2.2.2.2 (.slice x.on.a x.on.n x.on.c) (.slice x.os.a x.os.n x.os.c) (.slice x.hs.a x.hs.n x.hs.c) (.slice x.ms.a x.ms.n x.ms.c) (.slice x.si.a x.si.n x.si.c) (.slice x.so.a x.so.n x.so.c) (.slice x.sf.a x.sf.n x.sf.c)
      have hbz := set7_below (b := w.heap.size + 1 + 1) HBk.out (by omega) (.slice x.on.a x.on.n x.on.c) (.slice x.os.a x.os.n x.os.c) (.slice x.hs.a x.hs.n x.hs.c) (.slice x.ms.a x.ms.n x.ms.c) (.slice x.si.a x.si.n x.si.c) (.slice x.so.a x.so.n x.so.c) (.slice x.sf.a x.sf.n x.sf.c)
      have hOz := OwnS.set7 HX.out.2.1 HX.out.2.2.2.2.2 (.slice x.on.a x.on.n x.on.c) (.slice x.os.a x.os.n x.os.c) (.slice x.hs.a x.hs.n x.hs.c) (.slice x.ms.a x.ms.n x.ms.c) (.slice x.si.a x.si.n x.si.c) (.slice x.so.a x.so.n x.so.c) (.slice x.sf.a x.sf.n x.sf.c)
      unfold set7 at KZ hbz hOz
      obtain ⟨c0', c1', c2', c3', c4', c5', c6'⟩ := box_cells KZ
      refine bodyPost_ret (v := .tuple #[x.val, .int .i64 T.left]) (by simp [results, Tryz.results24, go_sem, St.val, c0', c1', c2', c3', c4', c5', c6']) rfl ?_
      rw [← HT.out]
      refine ⟨x, rfl, HX.out.1, hOz, hbz, ?_⟩
      exact ((((((HKP.out.setNew (by omega) 0 _).setNew (by omega) 1 _).setNew (by omega) 2 _).setNew (by omega) 3 _).setNew (by omega) 4 _).setNew (by omega) 5 _).setNew (by omega) 6 _
end Go.Proofs.YtbcacebifpagpadGreat
namespace Go.Proofs.YtbcacebifpagpadGreat
open Go.RowKit Go.Shelf Go.Sort
set_option linter.unusedVariables false
structure RelK (A B7 : Nat) (W0 : World) (cur : St) (wk : World) : Prop where
  own : OwnS A wk cur
  box : Blk wk B7 31 7 (fun j => cur.cells.getD j default)
  bel : Below W0.heap.size W0 wk
  le : A ≤ wk.heap.size
set_option maxRecDepth 100000 in
set_option maxHeartbeats 8000000 in
theorem ReleaseOf_any (p : Pl) (s : St) (w : World) (hp : p.At w) (hs : s.At w) :
    Calls Tryz.prog 7 #[p.val, s.val] w fun e w' => ∃ x : St, e = .returned (.tuple #[x.val, .int .i64 (stateE p s)]) ∧ x.At w' ∧ RelOK p s x ∧ Below w.heap.size w w' := by
  obtain ⟨W0, hW, hWB, X0, Z0⟩ : ∃ W, (((w.alloc (.cells #[.slice p.ab p.nb p.cb, .slice p.sa p.ns p.cs] 25)).alloc (.cells s.cells 31)).alloc (.cells #[.slice .none 0 0, .slice .none 0 0, .slice .none 0 0, .slice .none 0 0, .slice .none 0 0, .slice .none 0 0, .slice .none 0 0] 31)) = W ∧ Below w.heap.size w W ∧ Boxes W w.heap.size (w.heap.size + 1) p s ∧ Blk W (w.heap.size + 2) 31 7 (fun _ => .slice .none 0 0) :=
    ⟨_, rfl, (two_below _ _ _).alloc (by simp; omega) _, (boxes_new w p s _ _).below ((Below.refl _ _).alloc (Nat.le_refl _) _), (Blk.mk' (cur := #[.slice .none 0 0, .slice .none 0 0, .slice .none 0 0, .slice .none 0 0, .slice .none 0 0, .slice .none 0 0, .slice .none 0 0]) (by simp) rfl).congr (fun j hj => by match j, hj with | 0, _ => rfl | 1, _ => rfl | 2, _ => rfl | 3, _ => rfl | 4, _ => rfl | 5, _ => rfl | 6, _ => rfl)⟩
  have HC : Hid (∀ wk, Below W0.heap.size W0 wk → Boxes wk w.heap.size (w.heap.size + 1) p s ∧ p.At wk ∧ s.At wk ∧ Below w.heap.size w wk ∧ Blk wk (w.heap.size + 2) 31 7 (fun _ => .slice .none 0 0)) := fun wk h => ⟨X0.below h, (hp.below hWB).below h, (hs.below hWB).below h, hWB.trans (h.mono hWB.size), Z0.below h⟩
  have HW : Hid (((w.alloc (.cells #[.slice p.ab p.nb p.cb, .slice p.sa p.ns p.cs] 25)).alloc (.cells #[.slice s.on.a s.on.n s.on.c, .slice s.os.a s.os.n s.os.c, .slice s.hs.a s.hs.n s.hs.c, .slice s.ms.a s.ms.n s.ms.c, .slice s.si.a s.si.n s.si.c, .slice s.so.a s.so.n s.so.c, .slice s.sf.a s.sf.n s.sf.c] 31)).alloc (.cells #[.slice .none 0 0, .slice .none 0 0, .slice .none 0 0, .slice .none 0 0, .slice .none 0 0, .slice .none 0 0, .slice .none 0 0] 31) = W0) := hW
  have leb := hp.leb
  have capb0 := hp.capb
  have les := hp.les
  have caps0 := hp.caps
  have capb := capb0
  have caps := caps0
  have zlt0 := Z0.lt
  unfold maxLen at capb caps
  clear hW X0 Z0 hp hs
  unfold Pl.val St.val
  go_enter Tryz.func7, Tryz.ntmps7
  go_wp2_with fail
  rw [HW.out]
  obtain ⟨X, hpk, hsk, hBw, hz⟩ := HC.out W0 (Below.refl _ _)
  refine (refCheckState_any p s W0 hpk hsk).mono ?_
  rintro e w1 ⟨rfl, hB⟩
  clear X hpk hsk hBw hz HW
  obtain ⟨⟨⟨l1, d0, d1⟩, l2, c0, c1, c2, c3, c4, c5, c6⟩, hpk, hsk, hBw, hz⟩ := HC.out w1 hB
  by_cases h0 : stateE p s = 0
  · have H0 : Hid (stateE p s = 0) := h0
    have HR : Hid (RightT p s) := rightT h0
    rw [h0]
    clear h0
    have HCS : Hid (Calls Tryz.prog 23 #[s.val] w1 fun e w' => ∃ s' : St, e = .returned s'.val ∧ SameT s' s ∧ OwnS w1.heap.size w' s' ∧ Below w1.heap.size w1 w') := OwnState_any p s w1 hsk HR.out.fm
    clear hpk hsk hBw hz
    go_wp2_with fail
    refine Calls.mono HCS.out ?_
    rintro e w4 ⟨x0, rfl, hsame, hown, hB4⟩
    clear HCS l1 d0 d1 l2 c0 c1 c2 c3 c4 c5 c6
    obtain ⟨W5, hW5, hWB5, K5⟩ : ∃ W, w4.alloc (.cells #[.slice x0.on.a x0.on.n x0.on.c, .slice x0.os.a x0.os.n x0.os.c, .slice x0.hs.a x0.hs.n x0.hs.c, .slice x0.ms.a x0.ms.n x0.ms.c, .slice x0.si.a x0.si.n x0.si.c, .slice x0.so.a x0.so.n x0.so.c, .slice x0.sf.a x0.sf.n x0.sf.c] 31) = W ∧ Below w4.heap.size w4 W ∧ Blk W w4.heap.size 31 7 (fun j => x0.cells.getD j default) := ⟨_, rfl, (Below.refl _ _).alloc (Nat.le_refl _) _, Blk.mk' rfl rfl⟩
    have HW5 : Hid (w4.alloc (.cells #[.slice x0.on.a x0.on.n x0.on.c, .slice x0.os.a x0.os.n x0.os.c, .slice x0.hs.a x0.hs.n x0.hs.c, .slice x0.ms.a x0.ms.n x0.ms.c, .slice x0.si.a x0.si.n x0.si.c, .slice x0.so.a x0.so.n x0.so.c, .slice x0.sf.a x0.sf.n x0.sf.c] 31) = W5) := hW5
    have hB15 := hB4.trans (hWB5.mono hB4.size)
    have hB5 := hB.trans (hB15.mono hB.size)
    have HK0 : Hid (RelK w1.heap.size w4.heap.size W0 (relO x0 0) W5) := by
      show RelK w1.heap.size w4.heap.size W0 (relO x0 0) W5
      rw [relO_zero]
      exact ⟨OwnS.below hown hWB5, K5, hB5, hB15.size⟩
    have HS0 : Hid (SameT x0 s) := hsame
    have A1 : W0.heap.size ≤ w1.heap.size := hB.size
    have A2 : w1.heap.size ≤ w4.heap.size := hB4.size
    have ol : x0.os.n ≤ x0.os.c := (OwnS.below hown hWB5).os.le
    have oc : x0.os.c ≤ maxLen := (OwnS.below hown hWB5).os.cap
    unfold maxLen at oc
    have on4 : x0.os.n ≤ 4 := by rw [hsame.os.1]; exact HR.out.fm.os4
    clear hW5 hown K5 hB4 hWB5 hB15 hB5 hsame hB
    simp only [St.val]
    go_wp2_with fail
    rw [HW5.out]
    clear HW5
    generalize w4.heap.size = B7 at *
    go_loopw [8] (fun kv wk => ∃ k : Nat, k ≤ x0.os.n ∧ kv = .int .i64 k ∧ Hid (RelK w1.heap.size B7 W0 (relO x0 k) wk)) (fun kv _ => x0.os.n - (intOf kv).toNat)
    case atStart => exact ⟨0, Nat.zero_le _, rfl, HK0⟩
    case round =>
      clear HK0
      obtain ⟨k, hk, rfl, HK⟩ := hrel
      have u1 : wr.cell? ⟨B7, 1, none⟩ = some (.slice x0.os.a x0.os.n x0.os.c) := HK.out.box.cell (j := 1) (by decide)
      have u2 := HK.out.box.lt
      by_cases hlt : k < x0.os.n
      · have q0 : (0 : Int) ≤ (k : Int) := by omega
        have q1 : (k : Int) < (x0.os.n : Int) := by omega
        obtain ⟨gO, g1, g2, g3, g4, g5, g6⟩ := HK.out.own.orderCells (o := k) hlt
        have g1' : x0.os.a = some ⟨gO, 0, none⟩ := g1
        have HG : Hid (x0.os.a = some ⟨gO, 0, none⟩) := g1
        have ek : (relO x0 k).os.z k = x0.os.z k := relOd_later _ (Nat.le_refl _)
        rw [ek] at g4 g5
        have HEK : Hid ((relO x0 k).os.z k = x0.os.z k) := ek
        rw [g1'] at u1
        have gf := g6 (k * 2)
        clear g1 g1' g6 ek
        by_cases hk0 : (x0.os.z k).k = 0
        · have HK1 : Hid ((x0.os.z k).k = 0) := hk0
          rw [hk0] at g4
          have HN : Hid (RelK w1.heap.size B7 W0 (lackS (kindS (relO x0 k) k 1) k 0) (wr.setCell ⟨gO, k * 2, none⟩ (.int .i64 1))) := by
            show RelK _ _ _ (lackS (kindS (relO x0 k) k 1) k 0) _
            rw [lackS_zero]
            obtain ⟨gq, b1, b2, b3⟩ := HK.out.own.os.list (by show 0 < x0.os.n; omega)
            have b1' : x0.os.a = some ⟨gq, 0, none⟩ := b1
            rw [HG.out] at b1'
            simp only [Option.some.injEq, Addr.mk.injEq, and_true] at b1'
            subst b1'
            exact ⟨HK.out.own.kind (o := k) hlt b1 1, HK.out.box.other (a := ⟨gO, k * 2, none⟩) (Blk.ne2 HK.out.box b3 (by decide)) _, HK.out.bel.setCell (p := ⟨gO, k * 2, none⟩) (by show W0.heap.size ≤ gO; omega) _, by have := HK.out.le; simpa using this⟩
          have HLN : Hid (∀ j, ((lackS (kindS (relO x0 k) k 1) k j).os.z k) = ⟨1, lackL (x0.os.z k).ls j⟩) := fun j => by
            rw [lackS_at, kindS_at, HEK.out]
          have HB0 : Hid (∀ j, j < (x0.os.z k).ls.n → ((x0.os.z k).ls.z j).b = 0) := fun j hj => by
            have e := HS0.out.os.2 k hlt
            rw [e.2.2 j hj]
            exact (rel_line HR.out (k := k + 1) (by rw [← HS0.out.os.1]; exact hlt) (by rw [← e.2.1]; exact hj) ⟨by omega, e.1 ▸ HK1.out⟩).2.1
          have HLC : Hid ((x0.os.z k).ls.n ≤ (x0.os.z k).ls.c ∧ (x0.os.z k).ls.c ≤ maxLen) := by
            have h := HK.out.own.at.os.ods k hlt
            rw [HEK.out] at h
            obtain ⟨_, _, _, _, _, _, h⟩ := h
            exact ⟨h.le, h.cap⟩
          have ll := HLC.out.1
          have lc := HLC.out.2
          unfold maxLen at lc
          clear hk0 HEK HLC
          go_wp2_with fail
          clear g4 g5 gf u1 u2 HK
          go_loopw [9] (fun jv wk => ∃ j : Nat, j ≤ (x0.os.z k).ls.n ∧ jv = .int .i64 j ∧ Hid (RelK w1.heap.size B7 W0 (lackS (kindS (relO x0 k) k 1) k j) wk)) (fun jv _ => (x0.os.z k).ls.n - (intOf jv).toNat)
          case atStart => exact ⟨0, Nat.zero_le _, rfl, HN⟩
          case round =>
            clear HN
            obtain ⟨j, hj, rfl, HK⟩ := hrel
            have u1 : wr.cell? ⟨B7, 1, none⟩ = some (.slice x0.os.a x0.os.n x0.os.c) := HK.out.box.cell (j := 1) (by decide)
            have u2 := HK.out.box.lt
            rw [HG.out] at u1
            obtain ⟨gq, g1, g2', g3', g4, g5, g6⟩ := HK.out.own.orderCells (o := k) hlt
            have g1' : x0.os.a = some ⟨gq, 0, none⟩ := g1
            rw [HG.out] at g1'
            simp only [Option.some.injEq, Addr.mk.injEq, and_true] at g1'
            subst g1'
            rw [HLN.out j] at g5
            have g5' : wr.cell? ⟨gO, k * 2 + 1, none⟩ = some (.slice (x0.os.z k).ls.a (x0.os.z k).ls.n (x0.os.z k).ls.c) := g5
            clear g1 g4 g5 g6
            by_cases hjl : j < (x0.os.z k).ls.n
            · have q2 : (0 : Int) ≤ (j : Int) := by omega
              have q3 : (j : Int) < ((x0.os.z k).ls.n : Int) := by omega
              have hl' : j < ((lackS (kindS (relO x0 k) k 1) k j).os.z k).ls.n := by rw [HLN.out]; exact hjl
              obtain ⟨gr, BL, f1, f2, f3, f4, f5, f6, f7, f8, f9, f10, f11, f12, f13, f14⟩ := HK.out.own.lineCell (o := k) (l := j) hlt hl'
              rw [HLN.out] at f5 f11 f12 f13 f14
              have f5' : (x0.os.z k).ls.a = some ⟨BL, 0, none⟩ := f5
              have HF5 : Hid (((lackS (kindS (relO x0 k) k 1) k j).os.z k).ls.a = some ⟨BL, 0, none⟩) := by show ((lackS (kindS (relO x0 k) k 1) k j).os.z k).ls.a = _; rw [HLN.out]; exact f5'
              have hz : (lackL (x0.os.z k).ls j).z j = (x0.os.z k).ls.z j := if_neg (Nat.lt_irrefl _)
              have f12' : wr.cell? ⟨BL, j * 4 + 1, none⟩ = some (.int .i64 ((x0.os.z k).ls.z j).l) := by rw [← hz]; exact f12
              have HSU : Hid (setLine (lackS (kindS (relO x0 k) k 1) k j) k j 3 ((x0.os.z k).ls.z j).l = lackS (kindS (relO x0 k) k 1) k (j + 1)) := by
                have e : ((kindS (relO x0 k) k 1).os.z k).ls.z j = (x0.os.z k).ls.z j := by rw [kindS_at]; show ((relOd k k (x0.os.z k)).ls.z j) = _; rw [relOd_later _ (Nat.le_refl _)]
                have h := lackS_full (s := kindS (relO x0 k) k 1) (i := k) (k := j) (by rw [e]; exact HB0.out j hjl)
                rw [e] at h
                exact h
              rw [f5'] at g5'
              have t1 : ∀ d os, (grow (redrawn wr d) os).cell? ⟨B7, 1, none⟩ = some (.slice (some ⟨gO, 0, none⟩) x0.os.n x0.os.c) := fun d os => cell_regrown u1 d os
              have t2 : ∀ d os, (grow (redrawn wr d) os).cell? ⟨gO, k * 2 + 1, none⟩ = some (.slice (some ⟨BL, 0, none⟩) (x0.os.z k).ls.n (x0.os.z k).ls.c) := fun d os => cell_regrown g5' d os
              have t3 : ∀ d os, (grow (redrawn wr d) os).cell? ⟨BL, j * 4 + 1, none⟩ = some (.int .i64 ((x0.os.z k).ls.z j).l) := fun d os => cell_regrown f12' d os
              clear f1 f2 f3 f4 f5 f5' f6 f8 f9 f10 f11 f12 f12' f13 f14 hz
              go_wp2_with fail
              clear u1 g5'
              refine wp_region_ph [(true, [0, 1, 2, 3, 4, 5, 6, 7, 8, 9, 10, 11, 12, 13, 14, 15, 16, 17, 18], some 19)] (by kernel_rfl) (by kernel_rfl) (by kernel_rfl) (by kernel_rfl) (by kernel_rfl) ?_
              refine ⟨fun w' => ∃ p : Regrown, w' = grow (redrawn wr p.d) p.os, regrown_of_below ((Below.refl _ _).drew), fun h => (by cases h), ?_⟩
              simp only [picks, List.drop_succ_cons, List.drop_zero, List.take_succ_cons, List.take_zero, List.cons_append, List.nil_append]
              repeat (go_big_quiet_step (fail))
              refine wpQuiet_nil ?_
              clear t1 t2 t3
              have hBd : Below wr.heap.size wr wr.drew := (Below.refl _ _).drew
              generalize wr.drew = wj at *
              have hOj := HK.out.own.below hBd
              have Kj := HK.out.box.below hBd
              have hBj := HK.out.bel.trans (hBd.mono HK.out.bel.size)
              have hLj := Nat.le_trans HK.out.le hBd.size
              obtain ⟨Bq, hla', hAB, -, -, hlb⟩ := hOj.os.lines k hlt
              rw [HF5.out] at hla'
              simp only [Option.some.injEq, Addr.mk.injEq, and_true] at hla'
              subst hla'
              have zl := hlb.lt
              have zf := hlb.frozen (j * 4 + 3)
              have zc := hlb.cell (j := j * 4 + 3) (by omega)
              have hOc := hOj.setLine (o := k) hlt HF5.out j 3 (by decide) ((x0.os.z k).ls.z j).l
              have hKc := Kj.other (a := ⟨BL, j * 4 + 3, none⟩) (Blk.ne2 Kj hlb (by decide)) (.int .i64 ((x0.os.z k).ls.z j).l)
              have hBc := hBj.setCell (p := ⟨BL, j * 4 + 3, none⟩) (by show W0.heap.size ≤ BL; omega) (.int .i64 ((x0.os.z k).ls.z j).l)
              rw [HSU.out] at hOc
              have HN : Hid (RelK w1.heap.size B7 W0 (lackS (kindS (relO x0 k) k 1) k (j + 1)) (wj.setCell ⟨BL, j * 4 + 3, none⟩ (.int .i64 ((x0.os.z k).ls.z j).l))) := ⟨hOc, hKc, hBc, by simpa using hLj⟩
              clear hOj Kj hBj hLj hlb hOc hKc hBc hBd HK
              generalize (flatH ((lackS (kindS (relO x0 k) k 1) k j).os.z k).ls.n ((lackS (kindS (relO x0 k) k 1) k j).os.z k).ls.z).getD (j * 4 + 3) default = VV at zc
              generalize ((x0.os.z k).ls.z j).l = LV at *
              refine wpOp_one 19 rfl ?_
              go_wp2_with fail
              refine NoPanic.normal ?_
              go_wp2_with fail
              go_roundw
              case rel => exact ⟨j + 1, by omega, by go_num, HN⟩
              case measure => simp [intOf]; omega
            · have hjn : j = (x0.os.z k).ls.n := by omega
              have HN : Hid (RelK w1.heap.size B7 W0 (relO x0 (k + 1)) wr) := by
                have h := HK.out
                have e : relS1 (relO x0 k) k = lackS (kindS (relO x0 k) k 1) k j := by
                  unfold relS1
                  have e2 : ((relO x0 k).os.z k).ls.n = j := by show (relOd k k (x0.os.z k)).ls.n = j; rw [relOd_n]; exact hjn.symm
                  rw [e2]
                show RelK _ _ _ (relO x0 (k + 1)) _
                rw [← relO_hit HK1.out, e]
                exact h
              subst hjn
              go_wp2_with fail
              go_roundw
              case rel => exact ⟨k + 1, by omega, by go_num, HN⟩
              case measure => simp [intOf]; omega
        · have HN : Hid (RelK w1.heap.size B7 W0 (relO x0 (k + 1)) wr) := by show RelK _ _ _ (relO x0 (k + 1)) _; rw [← relO_miss hk0]; exact HK.out
          have hk' : ((x0.os.z k).k != 0) = true := by simpa using hk0
          clear hk0 g5 HEK
          generalize (x0.os.z k).k = KK at *
          go_wp2_with fail
          go_roundw
          case rel => exact ⟨k + 1, by omega, by go_num, HN⟩
          case measure => simp [intOf]; omega
      · have hkn : k = x0.os.n := by omega
        subst hkn
        have HY : Hid (RelA p s 0 (relO x0 x0.os.n)) := by
          show SameT _ _
          rw [HS0.out.os.1]
          exact relO_same HS0.out _
        go_wp2_with fail
        clear u1 u2
        go_loopw [10] (fun kv wk => ∃ (i : Nat) (cur : St), i ≤ s.os.n ∧ kv = .int .i64 i ∧ Hid (RelK w1.heap.size B7 W0 cur wk) ∧ Hid (RelA p s i cur)) (fun kv _ => s.os.n - (intOf kv).toNat)
        case atStart => exact ⟨0, _, Nat.zero_le _, rfl, HK, HY⟩
        case round =>
          clear HY HK HS0 hk hlt ol oc on4
          obtain ⟨i, cur, hi, rfl, HK, HA⟩ := hrel
          have HPO : Hid (Pos p (-1) (relQ s) (relO s s.os.n) i 0 cur) := TkAll.pos (rel_qin HR.out) (fun a _ => relM_eq s a) hi HA.out
          have HN0 : Hid (cur.os.n = s.os.n) := HPO.out.al.osn
          have n1 : (cur.os.n : Int) ≤ (s.os.n : Int) := by rw [HN0.out]; omega
          have n2 : (s.os.n : Int) ≤ (cur.os.n : Int) := by rw [HN0.out]; omega
          have u1 : wr.cell? ⟨B7, 1, none⟩ = some (.slice cur.os.a cur.os.n cur.os.c) := HK.out.box.cell (j := 1) (by decide)
          have u2 := HK.out.box.lt
          have ol : cur.os.n ≤ cur.os.c := HK.out.own.os.le
          have oc : cur.os.c ≤ maxLen := HK.out.own.os.cap
          unfold maxLen at oc
          by_cases hlt : i < s.os.n
          · have q0 : (0 : Int) ≤ (i : Int) := by omega
            have q1 : (i : Int) < (cur.os.n : Int) := by omega
            have q1' : i < cur.os.n := by omega
            have HRB : Hid (RelB p s i 0 cur) := HA.out.row
            have HK0 : Hid (¬ ((relO s s.os.n).os.z i).k = 1 → RelA p s (i + 1) cur) := fun h => HA.out.skip HR.out hlt h
            go_wp2_with fail
            clear u1 u2 ol oc q1 q1' n1 n2 HA HPO HN0
            go_loopw [11] (fun jv wk => ∃ (j : Nat) (cr : St), j ≤ (s.os.z i).ls.n ∧ jv = .int .i64 j ∧ Hid (RelK w1.heap.size B7 W0 cr wk) ∧ Hid (RelB p s i j cr) ∧ Hid (¬ ((relO s s.os.n).os.z i).k = 1 → RelA p s (i + 1) cr)) (fun jv _ => (s.os.z i).ls.n - (intOf jv).toNat)
            case atStart => exact ⟨0, cur, Nat.zero_le _, rfl, HK, HRB, HK0⟩
            case round =>
              clear HK HRB HK0
              obtain ⟨j, cr, hj, rfl, HK, HRB, HK0⟩ := hrel
              have HPO : Hid (Pos p (-1) (relQ s) (relO s s.os.n) i j cr) := HRB.out.pos HR.out hlt hj
              have en := HPO.out.al.osn
              have en' : cr.os.n = s.os.n := en
              have hic : i < cr.os.n := by rw [en']; exact hlt
              have q1 : (i : Int) < (cr.os.n : Int) := by omega
              have kk := HPO.out.al.kind i hlt
              have HKD : Hid ((cr.os.z i).k = ((relO s s.os.n).os.z i).k) := kk.1
              have kn : (cr.os.z i).ls.n = (s.os.z i).ls.n := kk.2.trans (relM_eq s i).symm
              have HKN : Hid ((cr.os.z i).ls.n = (s.os.z i).ls.n) := kn
              obtain ⟨gO, g1, g2, g3, g4, g5, g6⟩ := HK.out.own.orderCells (o := i) hic
              have u1 : wr.cell? ⟨B7, 1, none⟩ = some (.slice cr.os.a cr.os.n cr.os.c) := HK.out.box.cell (j := 1) (by decide)
              rw [g1] at u1
              have HG : Hid (cr.os.a = some ⟨gO, 0, none⟩) := g1
              have u2 := HK.out.box.lt
              have ol : cr.os.n ≤ cr.os.c := HK.out.own.os.le
              have oc : cr.os.c ≤ maxLen := HK.out.own.os.cap
              unfold maxLen at oc
              have HLS := HK.out.own.at.os.ods i hic
              obtain ⟨_, _, _, _, _, _, hls⟩ := HLS
              have ll := hls.le
              have lc := hls.cap
              unfold maxLen at lc
              clear g1 g6 en en' kk hls
              by_cases hjl : j < (cr.os.z i).ls.n
              · have q2 : (0 : Int) ≤ (j : Int) := by omega
                have q3 : (j : Int) < ((cr.os.z i).ls.n : Int) := by omega
                by_cases hkd : (cr.os.z i).k = 1
                · have HK1 : Hid (((relO s s.os.n).os.z i).k = 1) := HKD.out.symm.trans hkd
                  rw [hkd] at g4
                  clear hkd
                  have hjs : j < (s.os.z i).ls.n := by omega
                  have HSI : Hid (StepIn p (-1) cr i j (relQ s i j)) := HRB.out.stepIn HR.out hlt hjs
                  have HQ : Hid (relQ s i j = ((cr.os.z i).ls.z j).n) := by
                    have e := HPO.out.later i j hlt (by rw [← relM_eq]; exact hjs) (fun e => by unfold before at e; omega)
                    rw [e.1]
                    exact if_pos HK1.out
                  obtain ⟨gr, BL, f1, f2, f3, f4, f5, f6, f7, f8, f9, f10, f11, f12, f13, f14⟩ := HK.out.own.lineCell (o := i) (l := j) hic hjl
                  rw [f5] at g5
                  obtain ⟨⟨⟨l1, d0, d1⟩, l2, c0, c1, c2, c3, c4, c5, c6⟩, hpk, hsk, hBw, hz⟩ := HC.out wr HK.out.bel
                  obtain ⟨m1, p0, p1, p2, p3, p4, p5, p6⟩ := Boxed.of HK.out.box
                  rw [HG.out] at p1
                  have HPK : Hid (p.At wr) := hpk
                  have HST : Hid (∀ x, Step p (-1) cr i j ((cr.os.z i).ls.z j).n x → RelB p s i (j + 1) x) := fun x T => HRB.out.step (by rw [HQ.out]; exact T)
                  have HTI : Hid (TakeIn p cr i j ((cr.os.z i).ls.z j).n) := by show TakeIn _ _ _ _ _; rw [← HQ.out]; exact HSI.out.tki
                  clear f1 f2 f3 f4 f5 f6 f8 f9 f10 f11 f12 f13 hpk hsk hBw hz c0 c1 c2 c3 c4 c5 c6 l2 HSI HRB HPO HKD HK0
                  generalize ((cr.os.z i).ls.z j).n = NB at *
                  have t0 : ∀ d os, (grow (redrawn wr d) os).cell? ⟨w.heap.size, 0, none⟩ = some (.slice p.ab p.nb p.cb) := fun dd os => cell_regrown d0 dd os
                  have t1 : ∀ d os, (grow (redrawn wr d) os).cell? ⟨w.heap.size, 1, none⟩ = some (.slice p.sa p.ns p.cs) := fun dd os => cell_regrown d1 dd os
                  have s0 : ∀ d os, (grow (redrawn wr d) os).cell? ⟨B7, 0, none⟩ = some (.slice cr.on.a cr.on.n cr.on.c) := fun d os => cell_regrown p0 d os
                  have s1 : ∀ d os, (grow (redrawn wr d) os).cell? ⟨B7, 1, none⟩ = some (.slice (some ⟨gO, 0, none⟩) cr.os.n cr.os.c) := fun d os => cell_regrown p1 d os
                  have s2 : ∀ d os, (grow (redrawn wr d) os).cell? ⟨B7, 2, none⟩ = some (.slice cr.hs.a cr.hs.n cr.hs.c) := fun d os => cell_regrown p2 d os
                  have s3 : ∀ d os, (grow (redrawn wr d) os).cell? ⟨B7, 3, none⟩ = some (.slice cr.ms.a cr.ms.n cr.ms.c) := fun d os => cell_regrown p3 d os
                  have s4 : ∀ d os, (grow (redrawn wr d) os).cell? ⟨B7, 4, none⟩ = some (.slice cr.si.a cr.si.n cr.si.c) := fun d os => cell_regrown p4 d os
                  have s5 : ∀ d os, (grow (redrawn wr d) os).cell? ⟨B7, 5, none⟩ = some (.slice cr.so.a cr.so.n cr.so.c) := fun d os => cell_regrown p5 d os
                  have s6 : ∀ d os, (grow (redrawn wr d) os).cell? ⟨B7, 6, none⟩ = some (.slice cr.sf.a cr.sf.n cr.sf.c) := fun d os => cell_regrown p6 d os
                  have s7 : ∀ d os, (grow (redrawn wr d) os).cell? ⟨gO, i * 2 + 1, none⟩ = some (.slice (some ⟨BL, 0, none⟩) (cr.os.z i).ls.n (cr.os.z i).ls.c) := fun d os => cell_regrown g5 d os
                  have s8 : ∀ d os, (grow (redrawn wr d) os).cell? ⟨BL, j * 4 + 3, none⟩ = some (.int .i64 NB) := fun d os => cell_regrown f14 d os
                  clear d0 d1 p0 p1 p2 p3 p4 p5 p6 f14
                  go_wp2_with fail
                  clear u1 g4 g5
                  refine wp_region_ph [(true, [0, 1, 2, 3, 4, 5, 6, 7, 8, 9, 10, 11, 12, 13], some 14), (false, [15, 16, 17], some 18)] (by kernel_rfl) (by kernel_rfl) (by kernel_rfl) (by kernel_rfl) (by kernel_rfl) ?_
                  refine ⟨fun w' => ∃ p : Regrown, w' = grow (redrawn wr p.d) p.os, regrown_of_below ((Below.refl _ _).drew), fun h => (by cases h), ?_⟩
                  simp only [picks, List.drop_succ_cons, List.drop_zero, List.take_succ_cons, List.take_zero, List.cons_append, List.nil_append]
                  repeat (go_big_quiet_step (fail))
                  refine wpQuiet_nil ?_
                  clear t0 t1 s0 s1 s2 s3 s4 s5 s6 s7 s8
                  have hBd : Below wr.heap.size wr wr.drew := (Below.refl _ _).drew
                  generalize wr.drew = wj at *
                  have HPj : Hid (p.At wj) := HPK.out.below hBd
                  have HOj : Hid (OwnS w1.heap.size wj cr) := HK.out.own.below hBd
                  have HLj : Hid (w1.heap.size ≤ wj.heap.size) := Nat.le_trans HK.out.le hBd.size
                  have HBj : Hid (Below W0.heap.size W0 wj) := HK.out.bel.trans (hBd.mono HK.out.bel.size)
                  have HBB : Hid (Blk wj B7 31 7 (fun j => cr.cells.getD j default)) := HK.out.box.below hBd
                  clear hBd HPK HK
                  refine wpOp_one 14 rfl ?_
                  go_wp2_with fail
                  rw [← HG.out]
                  refine (take_any p cr i j w1.heap.size NB (-1) wj HPj.out HOj.out HLj.out HTI.out).mono ?_
                  rintro e w8 ⟨x, rfl, T, hO8, hB8, hK8⟩
                  have HT : Hid (RelB p s i (j + 1) x) := HST.out x T
                  have HB8 : Hid (Blk w8 B7 31 7 (fun j => cr.cells.getD j default)) := hK8 _ _ _ _ (by decide) HBB.out
                  have HO8 : Hid (OwnS w1.heap.size w8 x) := hO8
                  have HL8 : Hid (Below W0.heap.size W0 w8) := HBj.out.trans (hB8.mono A1)
                  have HE8 : Hid (w1.heap.size ≤ w8.heap.size) := Nat.le_trans HLj.out hB8.size
                  clear T hO8 hB8 hK8 HST HTI HPj HOj HLj HBj HBB HG
                  generalize (Tk.go (avT cr i j) NB (wayT p (-1))).left = LL at *
                  simp only [St.val]
                  go_wp2_with fail
                  refine ⟨fun _ => True, trivial, fun _ _ => trivial, ?_⟩
                  simp only [picks, List.drop_succ_cons, List.drop_zero, List.take_succ_cons, List.take_zero, List.cons_append, List.nil_append]
                  repeat (go_big_quiet_step (fail))
                  refine wpQuiet_nil ?_
                  have hb8 := HB8.out
                  have zl := hb8.lt
                  have zf0 := hb8.frozen 0
                  have zc0 := hb8.cell (j := 0) (by decide)
                  have zf1 := hb8.frozen 1
                  have zc1 := hb8.cell (j := 1) (by decide)
                  have zf2 := hb8.frozen 2
                  have zc2 := hb8.cell (j := 2) (by decide)
                  have zf3 := hb8.frozen 3
                  have zc3 := hb8.cell (j := 3) (by decide)
                  have zf4 := hb8.frozen 4
                  have zc4 := hb8.cell (j := 4) (by decide)
                  have zf5 := hb8.frozen 5
                  have zc5 := hb8.cell (j := 5) (by decide)
                  have zf6 := hb8.frozen 6
                  have zc6 := hb8.cell (j := 6) (by decide)
                  clear hb8
                  refine wpOp_one 18 rfl ?_
                  go_wp2_with fail
                  have HN : Hid (RelK w1.heap.size B7 W0 x (set7 w8 B7 (.slice x.on.a x.on.n x.on.c) (.slice x.os.a x.os.n x.os.c) (.slice x.hs.a x.hs.n x.hs.c) (.slice x.ms.a x.ms.n x.ms.c) (.slice x.si.a x.si.n x.si.c) (.slice x.so.a x.so.n x.so.c) (.slice x.sf.a x.sf.n x.sf.c))) := by
                    have K := set7_blk HB8.out (.slice x.on.a x.on.n x.on.c) (.slice x.os.a x.os.n x.os.c) (.slice x.hs.a x.hs.n x.hs.c) (.slice x.ms.a x.ms.n x.ms.c) (.slice x.si.a x.si.n x.si.c) (.slice x.so.a x.so.n x.so.c) (.slice x.sf.a x.sf.n x.sf.c)
                    have hb := set7_below (b := B7) HL8.out (Nat.le_trans A1 A2) (.slice x.on.a x.on.n x.on.c) (.slice x.os.a x.os.n x.os.c) (.slice x.hs.a x.hs.n x.hs.c) (.slice x.ms.a x.ms.n x.ms.c) (.slice x.si.a x.si.n x.si.c) (.slice x.so.a x.so.n x.so.c) (.slice x.sf.a x.sf.n x.sf.c)
                    exact ⟨OwnS.set7 HO8.out HB8.out (.slice x.on.a x.on.n x.on.c) (.slice x.os.a x.os.n x.os.c) (.slice x.hs.a x.hs.n x.hs.c) (.slice x.ms.a x.ms.n x.ms.c) (.slice x.si.a x.si.n x.si.c) (.slice x.so.a x.so.n x.so.c) (.slice x.sf.a x.sf.n x.sf.c), K.congr (fun j hj => by match j, hj with | 0, _ => rfl | 1, _ => rfl | 2, _ => rfl | 3, _ => rfl | 4, _ => rfl | 5, _ => rfl | 6, _ => rfl), hb, by have := HE8.out; simpa [set7] using this⟩
                  unfold set7 at HN
                  refine NoPanic.normal ?_
                  go_wp2_with fail
                  go_roundw
                  case rel => exact ⟨j + 1, x, by omega, by go_num, HN, HT, fun h => absurd HK1.out h⟩
                  case measure => simp [intOf]; omega
                · have HN : Hid (RelA p s (i + 1) cr) := HK0.out (by rw [← HKD.out]; exact hkd)
                  have hk' : ((cr.os.z i).k == 1) = false := by simpa using hkd
                  clear hkd HKD HK0 HRB HPO
                  generalize (cr.os.z i).k = KK at *
                  go_wp2_with fail
                  go_roundw
                  case rel => exact ⟨i + 1, cr, by omega, by go_num, HK, HN⟩
                  case measure => simp [intOf]; omega
              · have hjn : j = (s.os.z i).ls.n := by omega
                have HN : Hid (RelA p s (i + 1) cr) := by have h := HRB.out; rw [hjn] at h; exact h.next
                have q4 : ((cr.os.z i).ls.n : Int) ≤ (j : Int) := by omega
                have q5 : ¬ (j : Int) < ((cr.os.z i).ls.n : Int) := by omega
                clear hjn HKD HK0 HRB HPO
                go_wp2_with fail
                go_roundw
                case rel => exact ⟨i + 1, cr, by omega, by go_num, HK, HN⟩
                case measure => simp [intOf]; omega
          · have hin : i = s.os.n := by omega
            have HRL : Hid (Released p s cur) := by have h := HA.out; rw [hin] at h; exact h
            have q4 : (cur.os.n : Int) ≤ (i : Int) := by omega
            have q5 : cur.os.n ≤ i := by omega
            obtain ⟨m1, p0, p1, p2, p3, p4, p5, p6⟩ := Boxed.of HK.out.box
            obtain ⟨-, -, -, hBw, hz⟩ := HC.out wr HK.out.bel
            have HZ : Hid (Below w.heap.size w wr ∧ Blk wr (w.heap.size + 2) 31 7 (fun _ => .slice .none 0 0)) := ⟨hBw, hz⟩
            have zl := hz.lt
            have zf0 := hz.frozen 0
            have zc0 := hz.cell (j := 0) (by decide)
            have zf1 := hz.frozen 1
            have zc1 := hz.cell (j := 1) (by decide)
            have zf2 := hz.frozen 2
            have zc2 := hz.cell (j := 2) (by decide)
            have zf3 := hz.frozen 3
            have zc3 := hz.cell (j := 3) (by decide)
            have zf4 := hz.frozen 4
            have zc4 := hz.cell (j := 4) (by decide)
            have zf5 := hz.frozen 5
            have zc5 := hz.cell (j := 5) (by decide)
            have zf6 := hz.frozen 6
            have zc6 := hz.cell (j := 6) (by decide)
            have hlow := (HC.out _ (Below.refl _ _)).2.2.2.1.size
            clear hBw hz
            go_wp2_with fail
            have KZ := set7_blk HZ.out.2 (.slice cur.on.a cur.on.n cur.on.c) (.slice cur.os.a cur.os.n cur.os.c) (.slice cur.hs.a cur.hs.n cur.hs.c) (.slice cur.ms.a cur.ms.n cur.ms.c) (.slice cur.si.a cur.si.n cur.si.c) (.slice cur.so.a cur.so.n cur.so.c) (.slice cur.sf.a cur.sf.n cur.sf.c)
            have hbz := set7_below (b := w.heap.size + 2) HZ.out.1 (by omega) (.slice cur.on.a cur.on.n cur.on.c) (.slice cur.os.a cur.os.n cur.os.c) (.slice cur.hs.a cur.hs.n cur.hs.c) (.slice cur.ms.a cur.ms.n cur.ms.c) (.slice cur.si.a cur.si.n cur.si.c) (.slice cur.so.a cur.so.n cur.so.c) (.slice cur.sf.a cur.sf.n cur.sf.c)
            have hOz := OwnS.set7 HK.out.own HZ.out.2 (.slice cur.on.a cur.on.n cur.on.c) (.slice cur.os.a cur.os.n cur.os.c) (.slice cur.hs.a cur.hs.n cur.hs.c) (.slice cur.ms.a cur.ms.n cur.ms.c) (.slice cur.si.a cur.si.n cur.si.c) (.slice cur.so.a cur.so.n cur.so.c) (.slice cur.sf.a cur.sf.n cur.sf.c)
            unfold set7 at KZ hbz hOz
            obtain ⟨c0', c1', c2', c3', c4', c5', c6'⟩ := box_cells KZ
            refine bodyPost_ret (v := .tuple #[cur.val, .int .i64 0]) (by simp [results, Tryz.results7, go_sem, St.val, c0', c1', c2', c3', c4', c5', c6']) rfl ?_
            exact ⟨cur, by rw [H0.out]; rfl, hOz.at, ⟨fun _ => HRL.out, fun h => absurd H0.out h⟩, hbz⟩
  · have HNE : Hid (¬ stateE p s = 0) := h0
    have g0 : (stateE p s != 0) = true := by simpa using h0
    clear h0 hpk hsk
    have zl := hz.lt
    have zf0 := hz.frozen 0
    have zc0 := hz.cell (j := 0) (by decide)
    have zf1 := hz.frozen 1
    have zc1 := hz.cell (j := 1) (by decide)
    have zf2 := hz.frozen 2
    have zc2 := hz.cell (j := 2) (by decide)
    have zf3 := hz.frozen 3
    have zc3 := hz.cell (j := 3) (by decide)
    have zf4 := hz.frozen 4
    have zc4 := hz.cell (j := 4) (by decide)
    have zf5 := hz.frozen 5
    have zc5 := hz.cell (j := 5) (by decide)
    have zf6 := hz.frozen 6
    have zc6 := hz.cell (j := 6) (by decide)
    go_wp2_with fail
    have KZ := set7_blk hz (.slice .none 0 0) (.slice .none 0 0) (.slice .none 0 0) (.slice .none 0 0) (.slice .none 0 0) (.slice .none 0 0) (.slice .none 0 0)
    have hbz := set7_below (b := w.heap.size + 2) hBw (by omega) (.slice .none 0 0) (.slice .none 0 0) (.slice .none 0 0) (.slice .none 0 0) (.slice .none 0 0) (.slice .none 0 0) (.slice .none 0 0)
    unfold set7 at KZ hbz
    obtain ⟨c0', c1', c2', c3', c4', c5', c6'⟩ := box_cells KZ
    refine bodyPost_ret (v := .tuple #[noneS.val, .int .i64 (stateE p s)]) (by simp [results, Tryz.results7, go_sem, noneS, St.val, c0', c1', c2', c3', c4', c5', c6']) rfl ?_
    exact ⟨noneS, rfl, noneS_at _, ⟨fun h => absurd h HNE.out, fun _ => ⟨rfl, rfl, rfl, rfl, rfl, rfl, rfl⟩⟩, hbz⟩
end Go.Proofs.YtbcacebifpagpadGreat
namespace Go.Proofs.YtbcacebifpagpadGreat
open Go.RowKit
set_option linter.unusedVariables false
theorem OwnO.grew {A B : Nat} {w w2 : World} {s : Os} {e : TypeId} (h : OwnO A w s) (hg : Grew B e w w2) (h1 : 47 ≠ e) (h2 : 49 ≠ e) : OwnO A w2 s := by
  refine ⟨h.le, h.cap, fun hn => ?_, fun i hi => ?_, h.apart, h.room.grew hg h1⟩
  · obtain ⟨q, a1, a2, a3⟩ := h.list hn
    exact ⟨q, a1, a2, hg.blk a3 h1⟩
  · obtain ⟨C, a1, a2, a3, a4, a5⟩ := h.lines i hi
    exact ⟨C, a1, a2, a3, a4, hg.blk a5 h2⟩
theorem OwnS.moreH {A : Nat} {w w2 : World} {s : St} {h : Hs} (k : OwnS A w s) (hg : Grew A 55 w w2) (hh : OwnH A 55 w2 h) : OwnS A w2 (Go.Proofs.YtbcacebifpagpadGreat.withHolds s h) := by
  refine ⟨?_, fun i hi => (k.rows i hi).grew hg (by decide), k.rapart, k.os.grew hg (by decide) (by decide), hh, k.ms.grew hg (by decide), k.msr.grew hg (by decide), k.si.grew hg (by decide), k.so.grew hg (by decide), k.sf.grew hg (by decide), k.aio, k.aif, k.aof, k.ari⟩
  obtain ⟨q, a0, a1, a2, a3, a4⟩ := k.on
  exact ⟨q, a0, a1, a2, a3, hg.blk a4 (by decide)⟩
def ofL (L : List Hd) (j : Nat) : Hd := L.getD j hd0
theorem flatL_snoc (L : List Hd) (x : Hd) : flatH (L ++ [x]).length (ofL (L ++ [x])) = flatH L.length (ofL L) ++ hdCells x := by
  rw [List.length_append, List.length_singleton, flatH_succ]
  have e1 : ofL (L ++ [x]) L.length = x := by simp [ofL, List.getD]
  rw [e1]
  congr 1
  exact flatH_congr fun j hj => by simp [ofL, List.getD, List.getElem?_append_left hj]
def keepU (h : Hs) (bad : Hd → Bool) (k : Nat) : List Hd := ((listH h).take k).filter (fun x => !bad x)
theorem listH_take {h : Hs} {k : Nat} (hk : k < h.n) : (listH h).take (k + 1) = (listH h).take k ++ [h.z k] := by
  have hl : k < (listH h).length := by rw [listH_len]; exact hk
  rw [List.take_add_one, List.getElem?_eq_getElem hl]
  simp [listH]
theorem keepU_hit {h : Hs} {bad : Hd → Bool} {k : Nat} (hk : k < h.n) (hb : bad (h.z k) = false) : keepU h bad (k + 1) = keepU h bad k ++ [h.z k] := by
  unfold keepU
  rw [listH_take hk, List.filter_append]
  simp [hb]
theorem keepU_miss {h : Hs} {bad : Hd → Bool} {k : Nat} (hk : k < h.n) (hb : bad (h.z k) = true) : keepU h bad (k + 1) = keepU h bad k := by
  unfold keepU
  rw [listH_take hk, List.filter_append]
  simp [hb]
theorem keepU_all (h : Hs) (bad : Hd → Bool) : keepU h bad h.n = (listH h).filter (fun x => !bad x) := by
  unfold keepU
  rw [List.take_of_length_le (by rw [listH_len]; exact Nat.le_refl _)]
theorem keepU_len (h : Hs) (bad : Hd → Bool) (k : Nat) : (keepU h bad k).length ≤ h.n := by
  have a := List.length_filter_le (fun x => !bad x) ((listH h).take k)
  have b := List.length_take_le' k (listH h)
  rw [listH_len] at b
  unfold keepU
  omega
theorem dropH_keep (h : Hs) (bad : Hd → Bool) : (dropH h bad).n = (keepU h bad h.n).length ∧ (dropH h bad).z = ofL (keepU h bad h.n) := by
  rw [keepU_all]
  exact ⟨rfl, rfl⟩
end Go.Proofs.YtbcacebifpagpadGreat

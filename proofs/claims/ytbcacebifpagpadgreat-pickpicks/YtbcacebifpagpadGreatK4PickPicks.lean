/- Texts that were built one behind the other, joined; what PickPicks does not reach is left out. -/
import Derived.Test.YtbcacebifpagpadGreatK3PickPicks
import Derived.Lib.SliceRun
import Derived.RangeFuncBox
import Derived.RangeFuncLeaves
import Derived.Shelf.Abstract
import Derived.WalkKit
import Derived.OwnWalkIn
import Derived.TacticsInMore
import Derived.LoopNIn
import Derived.LoopIn
import Derived.Maps.AppendAt
import Derived.RangeFuncNested
import Derived.KernelRfl
import Derived.Lib.QuietBelow
namespace Go.Proofs.YtbcacebifpagpadGreat
open Go.RowKit Go.Shelf
set_option linter.unusedVariables false
theorem zeroInt (w : World) : (zeroValue 3).run Tryz.prog w = .ok (.int .i64 0) w := by kernel_rfl
theorem Blk.setCells {g : Nat} {e : TypeId} {n : Nat} {f : Nat → Value} : ∀ (vs : List Value) (o : Nat) (w : World), Blk w g e n f → n ≤ o → Blk (w.setCells g o vs) g e n f
  | [], _, _, h, _ => h
  | v :: r, o, w, h, hn => by
    rw [World.setCells]
    exact Blk.setCells r (o + 1) _ ((h.set o v).congr fun j hj => by rw [if_neg (by omega)]) (by omega)
theorem below_cells {B g : Nat} (hg : B ≤ g) {a : World} : ∀ (vs : List Value) (o : Nat) (w : World), Below B a w → Below B a (w.setCells g o vs)
  | [], _, _, h => h
  | v :: r, o, w, h => by
    rw [World.setCells]
    exact below_cells hg r (o + 1) _ (h.setCell (p := ⟨g, o, none⟩) hg v)
theorem Blk.less {w : World} {g : Nat} {e : TypeId} {n m : Nat} {f : Nat → Value} (h : Blk w g e n f) (hm : m ≤ n) : Blk w g e m f := by
  obtain ⟨cur, h1, h2, h3⟩ := h
  exact ⟨cur, h1, by omega, fun j hj => h3 j (by omega)⟩
set_option maxHeartbeats 400000 in
theorem idxI2 (f : Nat) (caps : Array Value) (bad : Nat → Bool) (A : Nat) (a : Option Addr) (n c : Nat) (w : World) (hA : A ≤ w.heap.size) (hn : n ≤ c) (hc : c ≤ maxLen) (z : Nat → Int) (hz : IntsAt w a n z)
    (eg : ∀ args w, (callFunc f args).run Tryz.prog w = .ok (.enter f args) w)
    (hf : Hid (∀ i w1, i < n → Below A w w1 → Calls Tryz.prog f (#[.int .i64 (z i)] ++ caps) w1 fun e w' => e = .returned (.bool (bad i)) ∧ Below w1.heap.size w1 w')) :
    Calls Tryz.prog 93 #[.slice a n c, .func (.func f) #[] caps] w fun e w' => ((e = .returned (.int .i64 (-1)) ∧ ∀ j, j < n → bad j = false) ∨ ∃ k, k < n ∧ e = .returned (.int .i64 (k : Nat)) ∧ bad k = true ∧ ∀ j, j < k → bad j = false) ∧ Below w.heap.size w w' := by
  unfold maxLen at hc
  go_enter Tryz.func93, Tryz.ntmps93
  go_wp2_with fail
  go_loopw [8] (fun i w1 => ∃ k : Nat, k ≤ n ∧ i = .int .i64 k ∧ (∀ j, j < k → bad j = false) ∧ Below w.heap.size w w1) (fun i _ => n - (intOf i).toNat)
  case atStart => exact ⟨0, Nat.zero_le _, rfl, fun j hj => absurd hj (Nat.not_lt_zero _), Below.refl _ _⟩
  case round =>
    obtain ⟨k, hk, rfl, hno, hB⟩ := hrel
    have HN : Hid (∀ j, j < k → bad j = false) := hno
    clear hno
    by_cases hlt : k < n
    · obtain ⟨b, o, rfl, _, hcell⟩ := (hz.below hB) k hlt
      clear hz
      go_wp2_with fail
      refine (hf.out k wr hlt (hB.mono hA)).mono ?_
      rintro e w1 ⟨rfl, hB1⟩
      have hB2 := hB.trans (hB1.mono hB.size)
      cases hbad : bad k
      · go_wp2_with fail
        go_roundw
        case rel =>
          refine ⟨k + 1, by omega, by go_num, ?_, hB2⟩
          intro j hj
          by_cases hjk : j = k
          · rw [hjk, hbad]
          · exact HN.out j (by omega)
        case measure => simp [intOf]; omega
      · go_wp2_with fail
        go_ret
        exact ⟨Or.inr ⟨k, hlt, rfl, hbad, HN.out⟩, hB2⟩
    · go_wp2_with fail
      go_ret
      have hkn : k = n := by omega
      subst hkn
      exact ⟨Or.inl ⟨rfl, HN.out⟩, hB⟩
def stay (bad : Int → Bool) (xs : List Int) (k : Nat) : List Int := (xs.take k).filter (fun x => !bad x)
theorem stay_all (bad : Int → Bool) (xs : List Int) : stay bad xs xs.length = xs.filter (fun x => !bad x) := by unfold stay; rw [List.take_length]
theorem stay_succ {bad : Int → Bool} {xs : List Int} {k : Nat} (hk : k < xs.length) : stay bad xs (k + 1) = stay bad xs k ++ if bad (xs.getD k 0) then [] else [xs.getD k 0] := by
  unfold stay
  have e : xs.getD k 0 = xs[k] := by simp [List.getD, List.getElem?_eq_getElem hk]
  rw [List.take_add_one, List.getElem?_eq_getElem hk, List.filter_append, e]
  congr 1
  cases h : bad xs[k] <;> simp [h]
theorem stay_full {bad : Int → Bool} {xs : List Int} : ∀ {k : Nat}, k ≤ xs.length → (∀ j, j < k → bad (xs.getD j 0) = false) → stay bad xs k = xs.take k
  | 0, _, _ => by simp [stay]
  | k + 1, hk, h => by
    rw [stay_succ (by omega), stay_full (k := k) (by omega) (fun j hj => h j (by omega)), h k (by omega), List.take_add_one]
    simp [List.getD, List.getElem?_eq_getElem (show k < xs.length by omega)]
def DelAt (g : Nat) (bad : Int → Bool) (xs : List Int) (k : Nat) (wk : World) : Prop := ∃ c : Nat → Value, Blk wk g 3 xs.length c ∧ (∀ q, q < (stay bad xs k).length → c q = .int .i64 ((stay bad xs k).getD q 0)) ∧ ∀ q, k ≤ q → q < xs.length → c q = .int .i64 (xs.getD q 0)
set_option maxRecDepth 100000 in
set_option maxHeartbeats 2000000 in
theorem DelI_any (f : Nat) (caps : Array Value) (bad : Int → Bool) (A g cap : Nat) (xs : List Int) (w : World) (hA : A ≤ g) (hA2 : A ≤ w.heap.size) (hn : xs.length ≤ cap) (hcap : cap ≤ maxLen) (hb : Blk w g 3 xs.length (fun j => .int .i64 (xs.getD j 0)))
    (eg : ∀ args w, (callFunc f args).run Tryz.prog w = .ok (.enter f args) w)
    (hf : Hid (∀ (x : Int) w1, Below A w w1 → Calls Tryz.prog f (#[.int .i64 x] ++ caps) w1 fun e w' => e = .returned (.bool (bad x)) ∧ Below w1.heap.size w1 w')) :
    Calls Tryz.prog 51 #[.slice (some ⟨g, 0, none⟩) xs.length cap, .func (.func f) #[] caps] w fun e w' => e = .returned (.slice (some ⟨g, 0, none⟩) (xs.filter (fun x => !bad x)).length cap) ∧ Blk w' g 3 (xs.filter (fun x => !bad x)).length (fun j => .int .i64 ((xs.filter (fun x => !bad x)).getD j 0)) ∧ Below A w w' := by
  have hcap0 := hcap
  unfold maxLen at hcap
  have HBK : Hid (Blk w g 3 xs.length (fun j => .int .i64 (xs.getD j 0))) := hb
  have hz : IntsAt w (some ⟨g, 0, none⟩) xs.length (fun j => xs.getD j 0) := hb.ints
  clear hb
  go_enter Tryz.func51, Tryz.ntmps51
  go_wp2_with fail
  refine (idxI2 f caps (fun j => bad (xs.getD j 0)) A _ _ _ w hA2 hn hcap0 _ hz eg (fun i w1 _ h => hf.out _ w1 h)).mono ?_
  rintro e w1 ⟨h, hB1⟩
  clear hz
  have hBA := hB1.mono hA2
  rcases h with ⟨rfl, hno⟩ | ⟨k0, hk0, rfl, hbad, hno⟩
  · have hfil : xs.filter (fun x => !bad x) = xs := by
      have := stay_full (bad := bad) (Nat.le_refl xs.length) hno
      rw [stay_all, List.take_length] at this
      exact this
    have HF : Hid (xs.filter (fun x => !bad x) = xs) := hfil
    clear hfil hno
    go_wp2_with fail
    go_ret
    rw [HF.out]
    exact ⟨rfl, HBK.out.below hB1, hBA⟩
  · have hs0 : stay bad xs (k0 + 1) = xs.take k0 := by rw [stay_succ hk0, stay_full (by omega) hno, hbad]; simp
    have hl0 : (stay bad xs (k0 + 1)).length = k0 := by rw [hs0, List.length_take]; omega
    have H0 : Hid (DelAt g bad xs (k0 + 1) w1) := ⟨_, HBK.out.below hB1, fun q hq => by
      rw [hl0] at hq
      rw [hs0]
      simp only [List.getD, List.getElem?_take, if_pos hq], fun q _ _ => rfl⟩
    have HL0 : Hid ((stay bad xs (k0 + 1)).length = k0) := hl0
    clear hs0 hl0 hbad hno HBK
    go_wp2_with fail
    go_loopw [5, 6] (fun i j wk => ∃ k : Nat, k ≤ xs.length ∧ j = .int .i64 k ∧ i = .int .i64 ((stay bad xs k).length : Nat) ∧ (stay bad xs k).length < k ∧ Hid (DelAt g bad xs k wk) ∧ Below A w wk) (fun _ j _ => xs.length - (intOf j).toNat)
    case atStart => exact ⟨k0 + 1, by omega, by go_num, by rw [HL0.out], by rw [HL0.out]; omega, H0, hBA⟩
    case round =>
      clear H0 HL0 hBA hB1
      obtain ⟨k, hk, rfl, rfl, hlen, HD, hB⟩ := hrel
      by_cases hlt : k < xs.length
      · obtain ⟨c, hc1, hc2, hc3⟩ := HD.out
        have HB : Hid (Blk wr g 3 xs.length c ∧ (∀ q, q < (stay bad xs k).length → c q = .int .i64 ((stay bad xs k).getD q 0)) ∧ ∀ q, k ≤ q → q < xs.length → c q = .int .i64 (xs.getD q 0)) := ⟨hc1, hc2, hc3⟩
        have z0 : wr.cell? ⟨g, k, none⟩ = some (.int .i64 (xs.getD k 0)) := (hc1.cell hlt).trans (by rw [hc3 k (Nat.le_refl _) hlt])
        have z1 := hc1.lt
        have HS : Hid (stay bad xs (k + 1) = stay bad xs k ++ if bad (xs.getD k 0) then [] else [xs.getD k 0]) := stay_succ hlt
        have HX : Hid (xs.getD k 0 = xs.getD k 0) := rfl
        clear hc1 hc2 hc3 HD
        obtain ⟨X, hX⟩ : ∃ X, xs.getD k 0 = X := ⟨_, rfl⟩
        have HXE : Hid (xs.getD k 0 = X) := hX
        rw [hX] at z0
        clear hX HX
        obtain ⟨I, hI⟩ : ∃ I, (stay bad xs k).length = I := ⟨_, rfl⟩
        have HIE : Hid ((stay bad xs k).length = I) := hI
        rw [hI] at hlen ⊢
        clear hI
        go_wp2_with fail
        refine (hf.out X wr hB).mono ?_
        rintro e w2 ⟨rfl, hB2⟩
        have hB3 := hB.trans (hB2.mono (Nat.le_trans hA2 hB.size))
        have kb := HB.out.1.below hB2
        cases hbd : bad X
        · have y1 := kb.frozen I
          have y2 := kb.cell (j := I) (by omega)
          have y3 := kb.lt
          have KB := kb.set I (.int .i64 X)
          have HN : Hid (DelAt g bad xs (k + 1) (w2.setCell ⟨g, I, none⟩ (.int .i64 X)) ∧ Below A w (w2.setCell ⟨g, I, none⟩ (.int .i64 X)) ∧ (stay bad xs (k + 1)).length = I + 1) := by
            have e1 : stay bad xs (k + 1) = stay bad xs k ++ [X] := by rw [HS.out, HXE.out, hbd]; rfl
            have e2 : (stay bad xs (k + 1)).length = I + 1 := by rw [e1, List.length_append, HIE.out]; rfl
            refine ⟨⟨_, KB, fun q hq => ?_, fun q hq hq2 => ?_⟩, hB3.setCell (p := ⟨g, I, none⟩) hA _, e2⟩
            · rw [e2] at hq
              show (if q = I then Value.int .i64 X else c q) = _
              rw [e1]
              by_cases hqi : q = I
              · rw [if_pos hqi]
                simp only [List.getD]
                rw [List.getElem?_append_right (by rw [HIE.out]; omega), HIE.out, hqi]
                simp
              · rw [if_neg hqi, HB.out.2.1 q (by rw [HIE.out]; omega)]
                simp only [List.getD]
                rw [List.getElem?_append_left (by rw [HIE.out]; omega)]
            · show (if q = I then Value.int .i64 X else c q) = _
              rw [if_neg (by omega), HB.out.2.2 q (by omega) hq2]
          clear kb KB HB HS
          go_wp2_with fail
          go_roundw
          case rel => exact ⟨_, _, _, _, _, _, _, _, _, _, _, _, _, _, _, _, _, _, _, _, _, _, _, ⟨k + 1, by omega, by go_num, by rw [HN.out.2.2]; go_num, by rw [HN.out.2.2]; omega, HN.out.1, HN.out.2.1⟩, rfl⟩
          case measure => simp [intOf]; omega
        · have HN : Hid (DelAt g bad xs (k + 1) w2 ∧ (stay bad xs (k + 1)).length = I) := by
            have e1 : stay bad xs (k + 1) = stay bad xs k := by rw [HS.out, HXE.out, hbd]; simp
            rw [e1]
            exact ⟨⟨c, kb, by rw [e1]; exact HB.out.2.1, fun q hq hq2 => HB.out.2.2 q (by omega) hq2⟩, HIE.out⟩
          clear kb HB HS
          go_wp2_with fail
          go_roundw
          case rel => exact ⟨_, _, _, _, _, _, _, _, _, _, _, _, _, _, _, _, _, _, _, _, _, _, _, ⟨k + 1, by omega, by go_num, by rw [HN.out.2], by rw [HN.out.2]; omega, HN.out.1, hB3⟩, rfl⟩
          case measure => simp [intOf]; omega
      · have hkn : k = xs.length := by omega
        subst hkn
        obtain ⟨c, hc1, hc2, hc3⟩ := HD.out
        have HIE : Hid (stay bad xs xs.length = xs.filter (fun x => !bad x)) := stay_all bad xs
        rw [stay_all] at hlen hc2 ⊢
        obtain ⟨I, hI⟩ : ∃ I, (xs.filter (fun x => !bad x)).length = I := ⟨_, rfl⟩
        have HI : Hid ((xs.filter (fun x => !bad x)).length = I) := hI
        rw [hI] at hlen hc2 ⊢
        clear hI
        obtain ⟨N, hN⟩ : ∃ N, xs.length = N := ⟨_, rfl⟩
        have HNE : Hid (xs.length = N) := hN
        rw [hN] at hlen hn hc1 ⊢
        clear hN hc3 hlt hk HD
        have hci : ¬ cap = I := by omega
        have hcl : ∀ ty, (Builtin.clear_ #[23] ty #[.slice (some ⟨g, I, none⟩) (N - I) (cap - I)]).run Tryz.prog wr = .ok (.tuple #[]) (wr.setCells g I (List.replicate (N - I) (.int .i64 0))) := fun ty =>
          Lib.run_clear_slice wr 23 3 ty (.int .i64 0) Tryz.underlying23 zeroInt rfl rfl g I (N - I) (cap - I) (by omega) (fun j hj => by rw [hc1.cell (by omega)]; rfl) (fun j _ => hc1.frozen _)
        have HEND : Hid (Blk (wr.setCells g I (List.replicate (N - I) (.int .i64 0))) g 3 I (fun j => .int .i64 ((xs.filter (fun x => !bad x)).getD j 0)) ∧ Below A w (wr.setCells g I (List.replicate (N - I) (.int .i64 0)))) :=
          ⟨Blk.setCells _ _ _ ((hc1.less (by omega)).congr fun j hj => hc2 j hj) (Nat.le_refl _), below_cells hA _ _ _ hB⟩
        clear hc1 hc2
        go_wp2_with fail
        go_ret
        rw [HI.out]
        exact ⟨rfl, HEND.out⟩
end Go.Proofs.YtbcacebifpagpadGreat
namespace Go.Proofs.YtbcacebifpagpadGreat
open Go.RowKit Go.Shelf
set_option linter.unusedVariables false
def hc (c : Nat → Hd) (q : Nat) : Value := (hdCells (c (q / 4))).getD (q % 4) default
theorem hc_at (c : Nat → Hd) (i : Nat) : hc c (i * 4) = .int .i64 (c i).o ∧ hc c (i * 4 + 1) = .int .i64 (c i).l ∧ hc c (i * 4 + 2) = .int .i64 (c i).b ∧ hc c (i * 4 + 3) = .int .i64 (c i).n := by
  unfold hc
  refine ⟨?_, ?_, ?_, ?_⟩
  · rw [show i * 4 / 4 = i by omega, show i * 4 % 4 = 0 by omega]; rfl
  · rw [show (i * 4 + 1) / 4 = i by omega, show (i * 4 + 1) % 4 = 1 by omega]; rfl
  · rw [show (i * 4 + 2) / 4 = i by omega, show (i * 4 + 2) % 4 = 2 by omega]; rfl
  · rw [show (i * 4 + 3) / 4 = i by omega, show (i * 4 + 3) % 4 = 3 by omega]; rfl
theorem Blk.hds {w : World} {g : Nat} {e : TypeId} {n : Nat} {c : Nat → Hd} (h : Blk w g e (n * 4) (hc c)) : HdsAt w (some ⟨g, 0, none⟩) n c := fun i hi => by
  have a := hc_at c i
  refine ⟨g, 0, rfl, h.lt, ?_, ?_, ?_, ?_⟩
  · rw [Nat.zero_add]; exact (h.cell (by omega)).trans (by rw [a.1])
  · rw [Nat.zero_add]; exact (h.cell (by omega)).trans (by rw [a.2.1])
  · rw [Nat.zero_add]; exact (h.cell (by omega)).trans (by rw [a.2.2.1])
  · rw [Nat.zero_add]; exact (h.cell (by omega)).trans (by rw [a.2.2.2])
def KeepG (g : Nat) (w w' : World) : Prop := w.heap.size ≤ w'.heap.size ∧ ∀ q, q < w.heap.size → q ≠ g → w'.heap[q]? = w.heap[q]?
theorem KeepG.refl (g : Nat) (w : World) : KeepG g w w := ⟨Nat.le_refl _, fun _ _ _ => rfl⟩
theorem KeepG.below {g : Nat} {w wk wj : World} (h : KeepG g w wk) (hB : Below wk.heap.size wk wj) : KeepG g w wj := ⟨Nat.le_trans h.1 hB.size, fun q hq hne => (hB.block q (Nat.lt_of_lt_of_le hq h.1)).trans (h.2 q hq hne)⟩
theorem KeepG.set {g : Nat} {w wk : World} (h : KeepG g w wk) (j : Nat) (u : Value) : KeepG g w (wk.setCell ⟨g, j, none⟩ u) := ⟨by simpa using h.1, fun q hq hne => (Below.heap_setCell wk ⟨g, j, none⟩ u q hne).trans (h.2 q hq hne)⟩
theorem KeepG.cells {g : Nat} {w : World} : ∀ (vs : List Value) (o : Nat) (wk : World), KeepG g w wk → KeepG g w (wk.setCells g o vs)
  | [], _, _, h => h
  | v :: r, o, wk, h => by
    rw [World.setCells]
    exact KeepG.cells r (o + 1) _ (h.set o v)
end Go.Proofs.YtbcacebifpagpadGreat
namespace Go.Proofs.YtbcacebifpagpadGreat
open Go.RowKit Go.Shelf Go.Sort
set_option linter.unusedVariables false
def kindO (os : Os) (o : Nat) (v : Int) : Os := ⟨os.a, os.n, os.c, fun i => if i = o then ⟨v, (os.z i).ls⟩ else os.z i⟩
def kindS (s : St) (o : Nat) (v : Int) : St := ⟨s.on, kindO s.os o v, s.hs, s.ms, s.si, s.so, s.sf⟩
theorem kindS_at (s : St) (o : Nat) (v : Int) : (kindS s o v).os.z o = ⟨v, (s.os.z o).ls⟩ := if_pos rfl
theorem kindO_ls (os : Os) (o : Nat) (v : Int) (i : Nat) : ((kindO os o v).z i).ls = (os.z i).ls := by
  show (if i = o then (⟨v, (os.z i).ls⟩ : Od) else os.z i).ls = _
  by_cases h : i = o
  · rw [if_pos h]
  · rw [if_neg h]
theorem OwnO.kind {A : Nat} {w : World} {s : Os} {o g : Nat} (h : OwnO A w s) (ho : o < s.n) (ha : s.a = some ⟨g, 0, none⟩) (v : Int) : OwnO A (w.setCell ⟨g, o * 2, none⟩ (.int .i64 v)) (kindO s o v) := by
  obtain ⟨g', ha', hA, hb⟩ := h.list (by omega)
  rw [ha] at ha'
  simp only [Option.some.injEq, Addr.mk.injEq, and_true] at ha'
  subst ha'
  refine ⟨h.le, h.cap, fun hn => ⟨g, ha, hA, (hb.set (o * 2) (.int .i64 v)).congr fun q hq => ?_⟩, fun i hi => ?_, fun i j hij hj => by rw [kindO_ls, kindO_ls]; exact h.apart i j hij hj, h.room.set _ _ _⟩
  · have hd : q = q / 2 * 2 + q % 2 := by omega
    have hi : q / 2 < s.n := by omega
    have hm : q % 2 < 2 := by omega
    have e1 := flatO_at (z := s.z) hi hm
    have e2 := flatO_at (z := (kindO s o v).z) hi hm
    rw [← hd] at e1 e2
    show (if q = o * 2 then Value.int .i64 v else (flatO s.n s.z).getD q default) = (flatO s.n (kindO s o v).z).getD q default
    rw [e1, e2]
    show _ = (odCells (if q / 2 = o then (⟨v, (s.z (q / 2)).ls⟩ : Od) else s.z (q / 2))).getD (q % 2) default
    by_cases hj : q / 2 = o
    · rw [if_pos hj]
      have hm2 : q % 2 = 0 ∨ q % 2 = 1 := by omega
      rcases hm2 with hm2 | hm2
      · rw [if_pos (by omega), hm2]; rfl
      · rw [if_neg (by omega), hm2]; rfl
    · rw [if_neg hj, if_neg (by omega)]
  · rw [kindO_ls]
    obtain ⟨C, a1, a2, a3, a4, a5⟩ := h.lines i hi
    exact ⟨C, a1, a2, a3, a4, a5.other (a := ⟨g, o * 2, none⟩) (Blk.ne2 a5 hb (by decide)) _⟩
theorem OwnS.kind {A : Nat} {w : World} {s : St} {o g : Nat} (h : OwnS A w s) (ho : o < s.os.n) (ha : s.os.a = some ⟨g, 0, none⟩) (v : Int) : OwnS A (w.setCell ⟨g, o * 2, none⟩ (.int .i64 v)) (kindS s o v) := by
  obtain ⟨g', ha', hA, hb⟩ := h.os.list (by omega)
  rw [ha] at ha'
  simp only [Option.some.injEq, Addr.mk.injEq, and_true] at ha'
  subst ha'
  refine ⟨?_, fun i hi => (h.rows i hi).other hb (by decide) _ _, h.rapart, h.os.kind ho ha v, h.hs.other hb (by decide) _ _, h.ms.other hb (by decide) _ _, h.msr.set _ _ _, h.si.other hb (by decide) _ _, h.so.other hb (by decide) _ _, h.sf.other hb (by decide) _ _, h.aio, h.aif, h.aof, h.ari⟩
  obtain ⟨q, a0, a1, a2, a3, a4⟩ := h.on
  exact ⟨q, a0, a1, a2, a3, a4.other (a := ⟨g, o * 2, none⟩) (Blk.ne2 a4 hb (by decide)) _⟩
end Go.Proofs.YtbcacebifpagpadGreat
namespace Go.Proofs.YtbcacebifpagpadGreat
open Go.RowKit
set_option linter.unusedVariables false
theorem drop_right {n p : Nat} {z : Nat → Hd} (hr : anyB n (badH z) = false) (hp : p < n) : anyB (n - 1) (badH (dropZ z p)) = false := by
  refine right_mk (fun i hi => ?_) fun i hi => ?_
  · unfold dropZ
    split
    · exact right_fine hr i (by omega)
    · exact right_fine hr (i + 1) (by omega)
  · unfold dropZ
    by_cases h1 : i + 1 < p
    · rw [if_pos (by omega), if_pos h1]
      exact right_lt hr _ _ (by omega) (by omega)
    · rw [if_neg h1]
      split
      · exact right_lt hr _ _ (by omega) (by omega)
      · exact right_lt hr _ _ (by omega) (by omega)
theorem drop_kept {n p : Nat} {z : Nat → Hd} (hr : anyB n (badH z) = false) (hp : p < n) (o l b : Int) : keptV (n - 1) (dropZ z p) o l b = if matchH (z p) o l b then 0 else keptV n z o l b := by
  have ry := drop_right hr hp
  cases hm : matchH (z p) o l b
  · rw [if_neg (by decide)]
    rcases keptV_cases n z o l b with h | ⟨k, hk, h1, h2⟩
    · rw [keptV_none h, keptV_none fun j hj => ?_]
      unfold dropZ
      split
      · exact h j (by omega)
      · exact h (j + 1) (by omega)
    · have hkp : ¬ k = p := fun e => by rw [e, hm] at h2; exact absurd h2 (by decide)
      rw [(kept_at hr hk h2).1]
      by_cases hlt : k < p
      · have e : dropZ z p k = z k := if_pos hlt
        rw [(kept_at ry (k := k) (by omega) (by rw [e]; exact h2)).1, e]
      · have e : dropZ z p (k - 1) = z k := by
          unfold dropZ
          rw [if_neg (by omega), show k - 1 + 1 = k by omega]
        rw [(kept_at ry (k := k - 1) (by omega) (by rw [e]; exact h2)).1, e]
  · rw [if_pos rfl]
    refine keptV_none fun j hj => ?_
    cases hq : matchH (dropZ z p j) o l b
    · rfl
    · have e := matchH_key hq hm
      unfold dropZ at e
      split at e
      · have := right_lt hr j p (by omega) hp
        omega
      · have := right_lt hr p (j + 1) (by omega) (by omega)
        omega
end Go.Proofs.YtbcacebifpagpadGreat
namespace Go.Proofs.YtbcacebifpagpadGreat
open Go.RowKit
set_option linter.unusedVariables false
theorem dropE_of {n : Nat} {z : Nat → Hd} {o l b : Int} (hr : anyB n (badH z) = false) : dropE n z o l b = if keptV n z o l b = 0 then 4 else 0 := by
  unfold dropE; rw [if_pos (checkH_right hr)]
theorem dropN_of {n : Nat} {z : Nat → Hd} {o l b : Int} (hr : anyB n (badH z) = false) : dropN n z o l b = keptV n z o l b := by
  unfold dropN; rw [if_pos (checkH_right hr)]
end Go.Proofs.YtbcacebifpagpadGreat
namespace Go.Proofs.YtbcacebifpagpadGreat
open Go.RowKit
set_option linter.unusedVariables false
def relOd (k : Nat) (i : Nat) (o : Od) : Od := if i < k ∧ o.k = 0 then ⟨1, lackL o.ls o.ls.n⟩ else o
def relO (s : St) (k : Nat) : St := ⟨s.on, ⟨s.os.a, s.os.n, s.os.c, fun i => relOd k i (s.os.z i)⟩, s.hs, s.ms, s.si, s.so, s.sf⟩
theorem relOd_n (k i : Nat) (o : Od) : (relOd k i o).ls.n = o.ls.n := by
  unfold relOd
  split <;> rfl
theorem relOd_line (k i : Nat) (o : Od) (j : Nat) : ((relOd k i o).ls.z j).o = (o.ls.z j).o ∧ ((relOd k i o).ls.z j).l = (o.ls.z j).l ∧ ((relOd k i o).ls.z j).b = (o.ls.z j).b := by
  unfold relOd
  split
  · show ((if j < o.ls.n then lackH (o.ls.z j) else o.ls.z j).o = _) ∧ ((if j < o.ls.n then lackH (o.ls.z j) else o.ls.z j).l = _) ∧ ((if j < o.ls.n then lackH (o.ls.z j) else o.ls.z j).b = _)
    split <;> exact ⟨rfl, rfl, rfl⟩
  · exact ⟨rfl, rfl, rfl⟩
theorem rel_line {p : Pl} {s : St} (r : RightT p s) {k i j : Nat} (hi : i < s.os.n) (hj : j < (s.os.z i).ls.n) (c : i < k ∧ (s.os.z i).k = 0) : (relOd k i (s.os.z i)).k = 1 ∧ ((s.os.z i).ls.z j).b = 0 ∧ ((s.os.z i).ls.z j).n = 0 ∧ keptS s.hs.z i j s.hs.n = 0 ∧ ((relOd k i (s.os.z i)).ls.z j).n = ((s.os.z i).ls.z j).l := by
  have w := r.orders i hi
  unfold wrongOrder at w
  rw [Bool.or_eq_false_iff] at w
  have wl : wrongL (s.os.z i).k ((s.os.z i).ls.z j) (keptS s.hs.z i j s.hs.n) = false := anyB_false w.2 j hj
  unfold wrongL at wl
  rw [if_pos c.2] at wl
  simp only [Bool.or_eq_false_iff, Bool.not_eq_false', beq_iff_eq] at wl
  unfold relOd
  rw [if_pos c]
  refine ⟨rfl, wl.1.1, wl.1.2, wl.2, ?_⟩
  show (if j < (s.os.z i).ls.n then lackH ((s.os.z i).ls.z j) else (s.os.z i).ls.z j).n = _
  rw [if_pos hj]
  show ((s.os.z i).ls.z j).l - ((s.os.z i).ls.z j).b = _
  omega
theorem rel_formed {p : Pl} {s : St} (r : RightT p s) (k : Nat) : Formed p (relO s k) := by
  have f := r.fm
  refine ⟨f.sh, f.sh0, f.os4, f.ms8, fun i hi => ?_, fun i hi => ?_, fun i hi j hj => ?_, f.hold, fun i hi => ?_, f.move, f.sin, f.son, f.sfn, f.sib, f.sob, f.sfb⟩
  · show 1 ≤ (relOd k i (s.os.z i)).ls.n ∧ (relOd k i (s.os.z i)).ls.n ≤ 3
    rw [relOd_n]
    exact f.lns i hi
  · show 0 ≤ (relOd k i (s.os.z i)).k ∧ (relOd k i (s.os.z i)).k ≤ 2
    unfold relOd
    split
    · exact ⟨(by decide : (0 : Int) ≤ 1), (by decide : (1 : Int) ≤ 2)⟩
    · exact f.kind i hi
  · show badLine p ((relOd k i (s.os.z i)).ls.z j) = false
    have hj' : j < (s.os.z i).ls.n := by rw [← relOd_n k i]; exact hj
    by_cases c : i < k ∧ (s.os.z i).k = 0
    · have e := rel_line r hi hj' c
      have g := relOd_line k i (s.os.z i) j
      obtain ⟨b1, b2, b3, b4⟩ := badLine_no (f.line i hi j hj')
      unfold badLine
      rw [inB_mk (by omega), inB_mk (by omega), inB_mk (by omega), inB_mk (by omega)]
      rfl
    · unfold relOd
      rw [if_neg c]
      exact f.line i hi j hj'
  · have h := homeless_no (f.home i hi)
    refine homeless_mk h.1 ⟨h.2.1.1, ?_⟩ h.2.2
    show _ < (relOd k _ (s.os.z _)).ls.n
    rw [relOd_n]
    exact h.2.1.2
theorem rel_avail (s : St) (k b g : Nat) : availZ (relO s k) b g = availZ s b g := by
  unfold availZ
  rw [heldTo_eq (x := relO s k) (s := s) (fun j _ => rfl) (fun j _ => (relOd_line k _ _ _).1)]
  rw [fromTo_eq (x := relO s k) (s := s) (fun j _ => rfl)]
  rfl
theorem rel_right {p : Pl} {s : St} (r : RightT p s) (k : Nat) : RightT p (relO s k) := by
  refine ⟨rel_formed r k, fun g hg => ?_, fun i hi => ?_⟩
  · obtain ⟨a1, a2⟩ := goods_no (r.goods g hg)
    exact goods_mk a1 fun b hb => by rw [rel_avail]; exact a2 b hb
  · have hi' : i < s.os.n := hi
    by_cases c : i < k ∧ (s.os.z i).k = 0
    · have l1 := (r.fm.lns i hi').1
      have e0 := rel_line r hi' (j := 0) (by omega) c
      unfold wrongOrder
      rw [Bool.or_eq_false_iff]
      constructor
      · have : anyB ((relO s k).os.z i).ls.n (fun j => lacksL (((relO s k).os.z i).ls.z j)) = true := by
          refine anyB_yes (k := 0) ?_ ?_
          · show 0 < (relOd k i (s.os.z i)).ls.n
            rw [relOd_n]
            omega
          · show lacksL ((relOd k i (s.os.z i)).ls.z 0) = true
            have g := relOd_line k i (s.os.z i) 0
            obtain ⟨b1, b2, b3, b4⟩ := badLine_no (r.fm.line i hi' 0 (by omega))
            unfold lacksL
            rw [Bool.not_eq_true', beq_eq_false_iff_ne]
            omega
        rw [this]
        simp
      · refine anyB_no fun j hj => ?_
        have hj' : j < (s.os.z i).ls.n := by rw [← relOd_n k i]; exact hj
        have e := rel_line r hi' hj' c
        have g := relOd_line k i (s.os.z i) j
        show wrongL (relOd k i (s.os.z i)).k ((relOd k i (s.os.z i)).ls.z j) (keptS s.hs.z i j s.hs.n) = false
        unfold wrongL
        rw [e.1, if_neg (by decide), if_neg (by decide), Bool.not_eq_false', beq_iff_eq]
        omega
    · have e : (relO s k).os.z i = s.os.z i := if_neg c
      have w := r.orders i hi'
      unfold wrongOrder at w ⊢
      rw [e]
      exact w
def relQ (s : St) (a b : Nat) : Int := if ((relO s s.os.n).os.z a).k = 1 then (((relO s s.os.n).os.z a).ls.z b).n else 0
def relM (s : St) (a : Nat) : Nat := (s.os.z a).ls.n
def Released (p : Pl) (s x : St) : Prop := TkAll p (-1) (relQ s) (relM s) (relO s s.os.n) s.os.n x
def RelOK (p : Pl) (s x : St) : Prop := (stateE p s = 0 → Released p s x) ∧ (¬ stateE p s = 0 → NoneS x)
theorem rel_qin {p : Pl} {s : St} (r : RightT p s) : QIn p (-1) (relQ s) (relO s s.os.n) := by
  have rr := rel_right r s.os.n
  refine ⟨rr, fun a b ha hb => ?_, Or.inl rfl⟩
  unfold relQ
  have q := right_line rr ha hb
  by_cases h : ((relO s s.os.n).os.z a).k = 1
  · rw [if_pos h]
    exact ⟨q.1, Or.inr ⟨h, Int.le_refl _⟩⟩
  · rw [if_neg h]
    exact ⟨Int.le_refl _, Or.inl rfl⟩
theorem relM_eq (s : St) (a : Nat) : relM s a = ((relO s s.os.n).os.z a).ls.n := (relOd_n _ _ _).symm
theorem Released.same {p : Pl} {s x y : St} (r : RightT p s) (h : Released p s x) (k : Released p s y) : SameT x y := TkAll.same (rel_qin r) (fun a _ => relM_eq s a) (Nat.le_refl _) k h
theorem RelOK.same {p : Pl} {s x y : St} (a : RelOK p s x) (b : RelOK p s y) : SameT x y := by
  by_cases h : stateE p s = 0
  · exact (a.1 h).same (rightT h) (b.1 h)
  · exact none_same2 (a.2 h) (b.2 h)
theorem RightT.bound {p : Pl} {s : St} (r : RightT p s) : s.os.n ≤ 1000 ∧ s.ms.n ≤ 1000 ∧ ∀ i, i < s.os.n → (s.os.z i).ls.n ≤ 1000 :=
  ⟨Nat.le_trans r.fm.os4 (by decide), Nat.le_trans r.fm.ms8 (by decide), fun i hi => Nat.le_trans (r.fm.lns i hi).2 (by decide)⟩
end Go.Proofs.YtbcacebifpagpadGreat
namespace Go.Proofs.YtbcacebifpagpadGreat
open Go.RowKit
set_option linter.unusedVariables false
def setOut (s : St) (g : Nat) (x : Int) : St := ⟨s.on, s.os, s.hs, s.ms, s.si, setRw s.so g x, s.sf⟩
def lineGood (s : St) (o l : Nat) : Nat := ((s.os.z o).ls.z l).o.toNat
def heldAt (s : St) (o l b : Int) : Int := keptV s.hs.n s.hs.z o l b
def pickE (p : Pl) (s : St) (order line bin n : Int) : Int :=
  if stateE p s = 0 then (if heldAt s order line bin = 0 then 4 else if inB n 0 (heldAt s order line bin) then (if 1048576 < s.so.z (lineGood s order.toNat line.toNat) + n then 2 else 0) else 3) else stateE p s
section
variable {p : Pl} {s : St} {order line bin n : Int}
theorem pickE_state (h : ¬ stateE p s = 0) : pickE p s order line bin n = stateE p s := by unfold pickE; rw [if_neg h]
theorem pickE_none (h : stateE p s = 0) (h1 : heldAt s order line bin = 0) : pickE p s order line bin n = 4 := by unfold pickE; rw [if_pos h, if_pos h1]
theorem pickE_range (h : stateE p s = 0) (h1 : ¬ heldAt s order line bin = 0) (h2 : inB n 0 (heldAt s order line bin) = false) : pickE p s order line bin n = 3 := by unfold pickE; rw [if_pos h, if_neg h1, h2]; rfl
theorem pickE_many (h : stateE p s = 0) (h1 : ¬ heldAt s order line bin = 0) (h2 : inB n 0 (heldAt s order line bin) = true) (h3 : 1048576 < s.so.z (lineGood s order.toNat line.toNat) + n) : pickE p s order line bin n = 2 := by unfold pickE; rw [if_pos h, if_neg h1, h2, if_pos h3]; rfl
theorem pickE_ok (h : stateE p s = 0) (h1 : ¬ heldAt s order line bin = 0) (h2 : inB n 0 (heldAt s order line bin) = true) (h3 : ¬ 1048576 < s.so.z (lineGood s order.toNat line.toNat) + n) : pickE p s order line bin n = 0 := by unfold pickE; rw [if_pos h, if_neg h1, h2, if_neg h3]; rfl
end
structure HoldIn (p : Pl) (s : St) (o l b : Nat) : Prop where
  r : RightT p s
  kp : ¬ heldAt s o l b = 0
  on : o < s.os.n
  ln : l < (s.os.z o).ls.n
  bn : b < p.nb
theorem holdIn {p : Pl} {s : St} {order line bin : Int} (r : RightT p s) (h : ¬ heldAt s order line bin = 0) : ∃ o l b : Nat, order = o ∧ line = l ∧ bin = b ∧ HoldIn p s o l b := by
  obtain ⟨q1, q2, -⟩ := kept_pos r.fm.hold h
  obtain ⟨m1, m2, m3⟩ := matchH_true q2
  obtain ⟨a1, a2, a3⟩ := homeless_no (r.fm.home _ q1)
  rw [m1] at a1 a2
  rw [m2] at a2
  rw [m3] at a3
  obtain ⟨o, rfl⟩ := Int.eq_ofNat_of_zero_le a1.1
  obtain ⟨l, rfl⟩ := Int.eq_ofNat_of_zero_le a2.1
  obtain ⟨b, rfl⟩ := Int.eq_ofNat_of_zero_le a3.1
  exact ⟨o, l, b, rfl, rfl, rfl, r, h, a1.2, a2.2, by omega⟩
section
variable {p : Pl} {s : St} {o l b : Nat}
theorem HoldIn.bd (h : HoldIn p s o l b) : 1 ≤ heldAt s o l b ∧ heldAt s o l b ≤ 200 ∧ heldAt s o l b ≤ keptS s.hs.z o l s.hs.n := by
  obtain ⟨q1, q2, q3⟩ := kept_pos h.r.fm.hold h.kp
  have e := (kept_at h.r.fm.hold q1 q2).1
  have f := (fineH_true (right_fine h.r.fm.hold _ q1)).2.2.2
  have nb6 := h.r.fm.sh.pl.nb6
  have b6 := h.bn
  have k := kept_le h.r.fm.hold (o : Int) (l : Int) (b := b) (by omega)
  unfold heldAt
  omega
theorem HoldIn.kind (h : HoldIn p s o l b) : (s.os.z o).k = 1 := by
  have w := h.r.orders o h.on
  unfold wrongOrder at w
  rw [Bool.or_eq_false_iff] at w
  have wl : wrongL (s.os.z o).k ((s.os.z o).ls.z l) (keptS s.hs.z o l s.hs.n) = false := anyB_false w.2 l h.ln
  have bd := h.bd
  have kd := h.r.fm.kind o h.on
  unfold wrongL at wl
  by_cases h0 : (s.os.z o).k = 0
  · rw [if_pos h0] at wl
    simp only [Bool.or_eq_false_iff, Bool.not_eq_false', beq_iff_eq] at wl
    omega
  · rw [if_neg h0] at wl
    by_cases h2 : (s.os.z o).k = 2
    · rw [if_pos h2] at wl
      simp only [Bool.or_eq_false_iff, Bool.not_eq_false', beq_iff_eq] at wl
      omega
    · omega
theorem HoldIn.good (h : HoldIn p s o l b) : ((s.os.z o).ls.z l).o = (lineGood s o l : Int) ∧ lineGood s o l < p.ns := by
  have g := (badLine_no (h.r.fm.line o h.on l h.ln)).1
  unfold lineGood
  omega
theorem HoldIn.sum (h : HoldIn p s o l b) : ((s.os.z o).ls.z l).b + ((s.os.z o).ls.z l).n + keptS s.hs.z o l s.hs.n = ((s.os.z o).ls.z l).l ∧ ((s.os.z o).ls.z l).l ≤ 200 ∧ 0 ≤ ((s.os.z o).ls.z l).b := line_sum h.r h.on h.ln h.kind
theorem held_ge {p : Pl} {s : St} (f : Formed p s) {o l : Nat} (ho : o < s.os.n) (hl : l < (s.os.z o).ls.n) (b : Int) : keptV s.hs.n s.hs.z o l b ≤ heldTo s b ((s.os.z o).ls.z l).o s.hs.n := by
  rw [heldTo_sum b _ _ f.home f.hold]
  unfold heldSum
  have nn : ∀ i j, 0 ≤ lineHeld s b ((s.os.z o).ls.z l).o s.hs.n i j := fun i j => by
    unfold lineHeld
    have := (keptV_bd (fun j hj => (fineH_true (right_fine f.hold j hj)).2.2.2) (i : Int) (j : Int) b).1
    split <;> omega
  have e1 : lineHeld s b ((s.os.z o).ls.z l).o s.hs.n o l = keptV s.hs.n s.hs.z o l b := if_pos rfl
  have h1 := sumTo_ge (z := fun j => lineHeld s b ((s.os.z o).ls.z l).o s.hs.n o j) hl (fun j _ => nn o j)
  have h2 := sumTo_ge (z := fun i => sumTo (fun j => lineHeld s b ((s.os.z o).ls.z l).o s.hs.n i j) (s.os.z i).ls.n) ho (fun i _ => by
    have : ∀ k, 0 ≤ sumTo (fun j => lineHeld s b ((s.os.z o).ls.z l).o s.hs.n i j) k := fun k => by
      induction k with
      | zero => exact Int.le_refl _
      | succ k ih => simp only [sumTo]; have := nn i k; omega
    exact this _)
  omega
theorem HoldIn.there (h : HoldIn p s o l b) : heldAt s o l b ≤ (s.on.r b).z (lineGood s o l) ∧ (s.on.r b).z (lineGood s o l) ≤ 200 ∧ heldAt s o l b + availZ s b (lineGood s o l) ≤ (s.on.r b).z (lineGood s o l) := by
  have g := h.good
  have a := (goods_no (h.r.goods _ g.2)).2 b h.bn
  have k := held_ge h.r.fm h.on h.ln b
  rw [g.1] at k
  have ft := (fromTo_bd (s := s) (b := b) (g := (lineGood s o l : Int)) (n := s.ms.n) h.r.fm.moveN).1
  have nm := h.r.fm.sh.num b (by rw [h.r.fm.sh.n]; exact h.bn) (lineGood s o l) g.2
  unfold availZ at a ⊢
  unfold heldAt
  omega
end
def dropHs (h : Hs) (o l b : Int) : Hs := ⟨h.a, h.n - 1, h.c, dropZ h.z (dropI h.n h.z o l b)⟩
def pickS (s : St) (o l b : Nat) (n : Int) : St := setLine (setLine (setOut (setOn (withHolds s (dropHs s.hs o l b)) b (lineGood s o l) ((s.on.r b).z (lineGood s o l) - n)) (lineGood s o l) (s.so.z (lineGood s o l) + n)) o l 2 (((s.os.z o).ls.z l).b + n)) o l 3 (((s.os.z o).ls.z l).n + (heldAt s o l b - n))
def gotAll (s : St) (o : Nat) : Bool := !anyB (s.os.z o).ls.n (fun j => lacksL ((s.os.z o).ls.z j))
def pickT (p : Pl) (s : St) (o l b : Nat) (n : Int) : St := if gotAll (pickS s o l b n) o then kindS (pickS s o l b n) o 2 else takeT p b (pickS s o l b n) o l (heldAt s o l b - n)
section
variable {p : Pl} {s : St} {o l b : Nat} {n : Int}
theorem pickS_line (s : St) (o l b : Nat) (n : Int) (i j : Nat) : ((pickS s o l b n).os.z i).ls.z j = if i = o ∧ j = l then ⟨((s.os.z o).ls.z l).o, ((s.os.z o).ls.z l).l, ((s.os.z o).ls.z l).b + n, ((s.os.z o).ls.z l).n + (heldAt s o l b - n)⟩ else (s.os.z i).ls.z j := by
  unfold pickS
  rw [setLine_at, setLine_at]
  by_cases h : i = o ∧ j = l
  · rw [if_pos h, if_pos h, if_pos h]
    obtain ⟨rfl, rfl⟩ := h
    rfl
  · rw [if_neg h, if_neg h, if_neg h]
    rfl
theorem pickS_k (s : St) (o l b : Nat) (n : Int) (i : Nat) : ((pickS s o l b n).os.z i).k = (s.os.z i).k ∧ ((pickS s o l b n).os.z i).ls.n = (s.os.z i).ls.n := by
  unfold pickS
  rw [setLine_k, setLine_k, (setLine_n i).1, (setLine_n i).1]
  exact ⟨rfl, rfl⟩
theorem pickS_on (s : St) (o l b : Nat) (n : Int) (i : Nat) : ((pickS s o l b n).on.r i).n = (s.on.r i).n ∧ ∀ j, ((pickS s o l b n).on.r i).z j = if i = b ∧ j = lineGood s o l then (s.on.r i).z j - n else (s.on.r i).z j := by
  show (if i = b then setRw (s.on.r i) (lineGood s o l) _ else s.on.r i).n = _ ∧ ∀ j, (if i = b then setRw (s.on.r i) (lineGood s o l) _ else s.on.r i).z j = _
  by_cases h : i = b
  · subst h
    rw [if_pos rfl]
    refine ⟨rfl, fun j => ?_⟩
    show (if j = lineGood s o l then _ else (s.on.r i).z j) = _
    by_cases hj : j = lineGood s o l
    · rw [if_pos hj, if_pos ⟨rfl, hj⟩, hj]
    · rw [if_neg hj, if_neg (fun e => hj e.2)]
  · rw [if_neg h]
    exact ⟨rfl, fun j => by rw [if_neg (fun e => h e.1)]⟩
theorem HoldIn.drop (h : HoldIn p s o l b) : anyB (dropHs s.hs o l b).n (badH (dropHs s.hs o l b).z) = false ∧ ∀ x y z : Int, keptV (dropHs s.hs o l b).n (dropHs s.hs o l b).z x y z = if x = o ∧ y = l ∧ z = b then 0 else keptV s.hs.n s.hs.z x y z := by
  obtain ⟨q1, q2, q3⟩ := kept_pos h.r.fm.hold h.kp
  have e := (kept_at h.r.fm.hold q1 q2).2
  have e' : dropI s.hs.n s.hs.z o l b < s.hs.n := by rw [e]; exact q1
  refine ⟨drop_right h.r.fm.hold e', fun x y z => ?_⟩
  have k := drop_kept h.r.fm.hold e' x y z
  show keptV (s.hs.n - 1) (dropZ s.hs.z (dropI s.hs.n s.hs.z o l b)) x y z = _
  rw [k]
  have m := matchH_true q2
  by_cases c : x = o ∧ y = l ∧ z = b
  · have : matchH (s.hs.z (dropI s.hs.n s.hs.z o l b)) x y z = true := by rw [c.1, c.2.1, c.2.2]; exact q2
    rw [this, if_pos c]
    rfl
  · rw [if_neg c]
    cases hm : matchH (s.hs.z (dropI s.hs.n s.hs.z o l b)) x y z
    · rfl
    · exact absurd ⟨(matchH_true hm).1.symm.trans m.1, (matchH_true hm).2.1.symm.trans m.2.1, (matchH_true hm).2.2.symm.trans m.2.2⟩ c
theorem HoldIn.keptS (h : HoldIn p s o l b) (n : Int) (x y : Int) : Go.Proofs.YtbcacebifpagpadGreat.keptS (pickS s o l b n).hs.z x y (pickS s o l b n).hs.n = Go.Proofs.YtbcacebifpagpadGreat.keptS s.hs.z x y s.hs.n - if x = o ∧ y = l then heldAt s o l b else 0 := by
  have d := h.drop
  have nb6 := h.r.fm.sh.pl.nb6
  have hb := h.bn
  show Go.Proofs.YtbcacebifpagpadGreat.keptS (dropHs s.hs o l b).z x y (dropHs s.hs o l b).n = _
  rw [← kept_eq _ x y _ d.1, ← kept_eq _ x y _ h.r.fm.hold]
  by_cases c : x = o ∧ y = l
  · rw [if_pos c]
    have e := sumTo_at (z := fun z => keptV s.hs.n s.hs.z x y z) (z' := fun z => keptV (dropHs s.hs o l b).n (dropHs s.hs o l b).z x y z) (m := b) (n := -heldAt s o l b) (k := 6) (by omega) (fun i hi => by
      rw [d.2]
      by_cases hi2 : i = b
      · rw [if_pos ⟨c.1, c.2, by omega⟩, if_pos hi2, hi2, c.1, c.2]
        unfold heldAt
        omega
      · rw [if_neg (fun e => hi2 (by omega)), if_neg hi2, Int.add_zero])
    rw [e]
    omega
  · rw [if_neg c, Int.sub_zero]
    exact sumTo_same fun i _ => by rw [d.2, if_neg (fun e => c ⟨e.1, e.2.1⟩)]
structure PickIn (p : Pl) (s : St) (o l b : Nat) (n : Int) : Prop where
  hd : HoldIn p s o l b
  n0 : 0 ≤ n
  nh : n ≤ heldAt s o l b
  om : s.so.z (lineGood s o l) + n ≤ 1048576
theorem pickIn {order line bin : Int} (h : pickE p s order line bin n = 0) : stateE p s = 0 ∧ ∃ o l b : Nat, order = o ∧ line = l ∧ bin = b ∧ PickIn p s o l b n := by
  by_cases h0 : stateE p s = 0
  · by_cases h1 : heldAt s order line bin = 0
    · rw [pickE_none h0 h1] at h; exact absurd h (by decide)
    · cases h2 : inB n 0 (heldAt s order line bin)
      · rw [pickE_range h0 h1 h2] at h; exact absurd h (by decide)
      · by_cases h3 : 1048576 < s.so.z (lineGood s order.toNat line.toNat) + n
        · rw [pickE_many h0 h1 h2 h3] at h; exact absurd h (by decide)
        · obtain ⟨o, l, b, rfl, rfl, rfl, hi⟩ := holdIn (rightT h0) h1
          have := inB_true h2
          exact ⟨h0, o, l, b, rfl, rfl, rfl, hi, this.1, this.2, by have h3' : ¬ 1048576 < s.so.z (lineGood s o l) + n := h3; omega⟩
  · rw [pickE_state h0] at h; exact absurd h h0
theorem PickIn.formed (h : PickIn p s o l b n) : Formed p (pickS s o l b n) := by
  have f := h.hd.r.fm
  have d := h.hd.drop
  have g := h.hd.good
  have th := h.hd.there
  have sm := h.hd.sum
  have bd := h.hd.bd
  have n0 := h.n0
  have nh := h.nh
  have om := h.om
  have rs : RightS p (pickS s o l b n).on := ⟨f.sh.pl, f.sh.n, fun i hi => (pickS_on s o l b n i).1.trans (f.sh.len i hi), fun i hi j hj => by
    rw [(pickS_on s o l b n i).2 j]
    have nm := f.sh.num i hi j hj
    by_cases c : i = b ∧ j = lineGood s o l
    · rw [if_pos c]
      obtain ⟨rfl, rfl⟩ := c
      omega
    · rw [if_neg c]; exact nm⟩
  refine ⟨rs, shelfE_mk (rightS f.sh0).1 rs, f.os4, f.ms8, fun i hi => by rw [(pickS_k s o l b n i).2]; exact f.lns i hi, fun i hi => by rw [(pickS_k s o l b n i).1]; exact f.kind i hi, fun i hi j hj => ?_, d.1, fun i hi => ?_, f.move, f.sin, f.son, f.sfn, f.sib, fun j hj => ?_, f.sfb⟩
  · have hj' : j < (s.os.z i).ls.n := by rw [← (pickS_k s o l b n i).2]; exact hj
    rw [pickS_line]
    by_cases c : i = o ∧ j = l
    · rw [if_pos c]
      obtain ⟨b1, b2, b3, b4⟩ := badLine_no (f.line o h.hd.on l h.hd.ln)
      unfold badLine
      rw [inB_mk (by dsimp only; omega), inB_mk (by dsimp only; omega), inB_mk (by dsimp only; omega), inB_mk (by dsimp only; omega)]
      rfl
    · rw [if_neg c]
      exact f.line i hi j hj'
  · have hx : anyB (pickS s o l b n).hs.n (badH (pickS s o l b n).hs.z) = false := d.1
    have e := (kept_at hx hi (matchH_self _)).1
    have fn := (fineH_true (right_fine hx i hi)).2.2.2
    have d2 : keptV (pickS s o l b n).hs.n (pickS s o l b n).hs.z ((pickS s o l b n).hs.z i).o ((pickS s o l b n).hs.z i).l ((pickS s o l b n).hs.z i).b = _ := d.2 _ _ _
    rw [d2] at e
    split at e
    · omega
    · obtain ⟨q1, q2, -⟩ := kept_pos f.hold (o := ((pickS s o l b n).hs.z i).o) (l := ((pickS s o l b n).hs.z i).l) (b := ((pickS s o l b n).hs.z i).b) (by omega)
      obtain ⟨m1, m2, m3⟩ := matchH_true q2
      obtain ⟨a1, a2, a3⟩ := homeless_no (f.home _ q1)
      rw [m1] at a1 a2
      rw [m2] at a2
      rw [m3] at a3
      refine homeless_mk a1 ⟨a2.1, ?_⟩ a3
      rw [(pickS_k s o l b n _).2]
      exact a2.2
  · have sb := f.sob j hj
    show 0 ≤ (if j = lineGood s o l then s.so.z (lineGood s o l) + n else s.so.z j) ∧ (if j = lineGood s o l then s.so.z (lineGood s o l) + n else s.so.z j) ≤ 1048576
    by_cases c : j = lineGood s o l
    · rw [if_pos c]
      rw [c] at sb
      omega
    · rw [if_neg c]; exact sb
theorem PickIn.held (h : PickIn p s o l b n) (c g : Nat) : heldTo (pickS s o l b n) c g (pickS s o l b n).hs.n = heldTo s c g s.hs.n - if c = b ∧ g = lineGood s o l then heldAt s o l b else 0 := by
  have f := h.hd.r.fm
  have fx := h.formed
  have d := h.hd.drop
  have gd := h.hd.good
  rw [heldTo_sum (c : Int) (g : Int) _ fx.home fx.hold, heldTo_sum (c : Int) (g : Int) _ f.home f.hold]
  have key : ∀ i j, lineHeld (pickS s o l b n) c g (pickS s o l b n).hs.n i j = lineHeld s c g s.hs.n i j + if i = o ∧ j = l then -(if c = b ∧ g = lineGood s o l then heldAt s o l b else 0) else 0 := fun i j => by
    unfold lineHeld
    have e : keptV (pickS s o l b n).hs.n (pickS s o l b n).hs.z (i : Int) (j : Int) (c : Int) = _ := d.2 i j c
    rw [e]
    have eg : (((pickS s o l b n).os.z i).ls.z j).o = ((s.os.z i).ls.z j).o := by
      rw [pickS_line]
      by_cases q : i = o ∧ j = l
      · rw [if_pos q, q.1, q.2]
      · rw [if_neg q]
    rw [eg]
    by_cases q : i = o ∧ j = l
    · rw [if_pos q]
      obtain ⟨rfl, rfl⟩ := q
      rw [gd.1]
      by_cases hg : g = lineGood s i j
      · subst hg
        rw [if_pos rfl, if_pos rfl]
        by_cases hc : c = b
        · subst hc
          rw [if_pos ⟨rfl, rfl, rfl⟩, if_pos ⟨rfl, rfl⟩]
          unfold heldAt
          omega
        · rw [if_neg (fun e => hc (by omega)), if_neg (fun e => hc e.1)]
          omega
      · rw [if_neg (fun e => hg (by omega)), if_neg (fun e => hg (by omega)), if_neg (fun e => hg e.2)]
        rfl
    · have e3 : (if (i : Int) = o ∧ (j : Int) = l ∧ (c : Int) = b then 0 else keptV s.hs.n s.hs.z (i : Int) (j : Int) (c : Int)) = keptV s.hs.n s.hs.z (i : Int) (j : Int) (c : Int) := if_neg (fun e => q ⟨by omega, by omega⟩)
      rw [if_neg q, e3, Int.add_zero]
  unfold heldSum
  have hn : (pickS s o l b n).os.n = s.os.n := rfl
  rw [hn]
  have := sumTo_at (z := fun i => sumTo (fun j => lineHeld s c g s.hs.n i j) (s.os.z i).ls.n) (z' := fun i => sumTo (fun j => lineHeld (pickS s o l b n) c g (pickS s o l b n).hs.n i j) ((pickS s o l b n).os.z i).ls.n) (m := o) (n := -(if c = b ∧ g = lineGood s o l then heldAt s o l b else 0)) (k := s.os.n) h.hd.on (fun i hi => by
    rw [(pickS_k s o l b n i).2]
    by_cases q : i = o
    · rw [if_pos q]
      subst q
      exact sumTo_at h.hd.ln fun j hj => by
        rw [key]
        by_cases q2 : j = l
        · rw [if_pos ⟨rfl, q2⟩, if_pos q2]
        · rw [if_neg (fun e => q2 e.2), if_neg q2]
    · rw [if_neg q, Int.add_zero]
      exact sumTo_same fun j hj => by rw [key, if_neg (fun e => q e.1), Int.add_zero])
  rw [this]
  omega
theorem PickIn.avail (h : PickIn p s o l b n) (c g : Nat) : availZ (pickS s o l b n) c g = availZ s c g + if c = b ∧ g = lineGood s o l then heldAt s o l b - n else 0 := by
  unfold availZ
  rw [h.held, (pickS_on s o l b n c).2 g]
  have e : fromTo (pickS s o l b n) c g (pickS s o l b n).ms.n = fromTo s c g s.ms.n := fromTo_eq (x := pickS s o l b n) (s := s) (fun j _ => rfl)
  rw [e]
  by_cases q : c = b ∧ g = lineGood s o l
  · rw [if_pos q, if_pos q, if_pos q]; omega
  · rw [if_neg q, if_neg q, if_neg q]; omega
theorem PickIn.goods (h : PickIn p s o l b n) (g : Nat) (hg : g < p.ns) : sumTo (fun i => ((pickS s o l b n).on.r i).z g) (pickS s o l b n).on.n = (pickS s o l b n).si.z g - (pickS s o l b n).so.z g + (pickS s o l b n).sf.z g ∧ ∀ c, c < p.nb → 0 ≤ availZ (pickS s o l b n) c g := by
  obtain ⟨a1, a2⟩ := goods_no (h.hd.r.goods g hg)
  have n0 := h.n0
  have nh := h.nh
  refine ⟨?_, fun c hc => ?_⟩
  · show sumTo _ s.on.n = s.si.z g - (if g = lineGood s o l then s.so.z (lineGood s o l) + n else s.so.z g) + s.sf.z g
    by_cases q : g = lineGood s o l
    · rw [if_pos q]
      have e := sumTo_at (z := fun i => (s.on.r i).z g) (z' := fun i => ((pickS s o l b n).on.r i).z g) (m := b) (n := -n) (k := s.on.n) (by rw [h.hd.r.fm.sh.n]; exact h.hd.bn) (fun i hi => by
        rw [(pickS_on s o l b n i).2 g]
        by_cases c : i = b
        · rw [if_pos ⟨c, q⟩, if_pos c]; omega
        · rw [if_neg (fun e => c e.1), if_neg c, Int.add_zero])
      rw [e, a1, q]
      omega
    · rw [if_neg q, ← a1]
      exact sumTo_same fun i hi => by rw [(pickS_on s o l b n i).2 g, if_neg (fun e => q e.2)]
  · rw [h.avail]
    have := a2 c hc
    split <;> omega
theorem PickIn.lineOK (h : PickIn p s o l b n) {i j : Nat} (hi : i < s.os.n) (hj : j < (s.os.z i).ls.n) : wrongL (s.os.z i).k (((pickS s o l b n).os.z i).ls.z j) (Go.Proofs.YtbcacebifpagpadGreat.keptS (pickS s o l b n).hs.z i j (pickS s o l b n).hs.n) = false := by
  have w := h.hd.r.orders i hi
  unfold wrongOrder at w
  rw [Bool.or_eq_false_iff] at w
  have wl : wrongL (s.os.z i).k ((s.os.z i).ls.z j) (Go.Proofs.YtbcacebifpagpadGreat.keptS s.hs.z i j s.hs.n) = false := anyB_false w.2 j hj
  rw [h.hd.keptS, pickS_line]
  by_cases c : i = o ∧ j = l
  · rw [if_pos c, if_pos ⟨by omega, by omega⟩]
    obtain ⟨rfl, rfl⟩ := c
    have sm := h.hd.sum
    unfold wrongL
    rw [h.hd.kind, if_neg (by decide), if_neg (by decide), Bool.not_eq_false', beq_iff_eq]
    dsimp only
    omega
  · rw [if_neg c, if_neg (fun e => c ⟨by omega, by omega⟩), Int.sub_zero]
    exact wl
theorem PickIn.right (h : PickIn p s o l b n) (hg : gotAll (pickS s o l b n) o = false) : RightT p (pickS s o l b n) := by
  refine ⟨h.formed, fun g hg => goods_mk (h.goods g hg).1 (h.goods g hg).2, fun i hi => ?_⟩
  have w := h.hd.r.orders i hi
  unfold wrongOrder at w ⊢
  rw [Bool.or_eq_false_iff] at w ⊢
  rw [(pickS_k s o l b n i).1]
  refine ⟨?_, anyB_no fun j hj => h.lineOK hi (by rw [← (pickS_k s o l b n i).2]; exact hj)⟩
  by_cases c : i = o
  · subst c
    unfold gotAll at hg
    rw [hg, Bool.and_false]
  · rw [← w.1]
    congr 2
    rw [(pickS_k s o l b n i).2]
    refine anyB_congr fun j hj => ?_
    rw [pickS_line, if_neg (fun e => c e.1)]
theorem PickIn.closed (h : PickIn p s o l b n) (hg : gotAll (pickS s o l b n) o = true) : RightT p (kindS (pickS s o l b n) o 2) := by
  have f := h.formed
  have kz : ∀ i, ((kindS (pickS s o l b n) o 2).os.z i).ls = ((pickS s o l b n).os.z i).ls := fun i => kindO_ls _ _ _ _
  have all : ∀ j, j < ((pickS s o l b n).os.z o).ls.n → (((pickS s o l b n).os.z o).ls.z j).b = (((pickS s o l b n).os.z o).ls.z j).l := fun j hj => by
    unfold gotAll at hg
    rw [Bool.not_eq_true'] at hg
    have := anyB_false hg j hj
    unfold lacksL at this
    simpa using this
  refine ⟨⟨f.sh, f.sh0, f.os4, f.ms8, fun i hi => by rw [kz]; exact f.lns i hi, fun i hi => ?_, fun i hi j hj => by rw [kz] at hj ⊢; exact f.line i hi j hj, f.hold, fun i hi => ?_, f.move, f.sin, f.son, f.sfn, f.sib, f.sob, f.sfb⟩, fun g hg => ?_, fun i hi => ?_⟩
  · show 0 ≤ (if i = o then (⟨2, ((pickS s o l b n).os.z i).ls⟩ : Od) else (pickS s o l b n).os.z i).k ∧ (if i = o then (⟨2, ((pickS s o l b n).os.z i).ls⟩ : Od) else (pickS s o l b n).os.z i).k ≤ 2
    split
    · exact ⟨(by decide : (0 : Int) ≤ 2), (by decide : (2 : Int) ≤ 2)⟩
    · exact f.kind i hi
  · have e := homeless_no (f.home i hi)
    refine homeless_mk e.1 ⟨e.2.1.1, ?_⟩ e.2.2
    rw [kz]
    exact e.2.1.2
  · refine goods_mk (h.goods g hg).1 fun c hc => ?_
    have a := (h.goods g hg).2 c hc
    have e : availZ (kindS (pickS s o l b n) o 2) c g = availZ (pickS s o l b n) c g := by
      unfold availZ
      rw [heldTo_eq (x := kindS (pickS s o l b n) o 2) (s := pickS s o l b n) (fun j _ => rfl) (fun j _ => by unfold goodH; rw [kz])]
      rw [fromTo_eq (x := kindS (pickS s o l b n) o 2) (s := pickS s o l b n) (fun j _ => rfl)]
      rfl
    rw [e]
    exact a
  · have hi' : i < s.os.n := hi
    unfold wrongOrder
    rw [kz, Bool.or_eq_false_iff]
    by_cases c : i = o
    · subst c
      have ek : ((kindS (pickS s i l b n) i 2).os.z i).k = 2 := by rw [kindS_at]
      rw [ek]
      refine ⟨rfl, anyB_no fun j hj => ?_⟩
      have hj' : j < (s.os.z i).ls.n := by rw [← (pickS_k s i l b n i).2]; exact hj
      have wl := h.lineOK hi' hj'
      have aj := all j hj
      have k0 := (keptS_bd (z := (pickS s i l b n).hs.z) i j (pickS s i l b n).hs.n fun j hj => (fineH_true (right_fine f.hold j hj)).2.2.2).1
      have bl := badLine_no (f.line i hi j hj)
      rw [h.hd.kind] at wl
      unfold wrongL at wl ⊢
      rw [if_neg (by decide), if_neg (by decide), Bool.not_eq_false', beq_iff_eq] at wl
      rw [if_neg (by decide), if_pos rfl]
      simp only [Bool.or_eq_false_iff, Bool.not_eq_false', beq_iff_eq]
      have e : (kindS (pickS s i l b n) i 2).hs = (pickS s i l b n).hs := rfl
      rw [e]
      omega
    · have ez : (kindS (pickS s o l b n) o 2).os.z i = (pickS s o l b n).os.z i := if_neg c
      rw [ez, (pickS_k s o l b n i).1]
      have w := h.hd.r.orders i hi'
      unfold wrongOrder at w
      rw [Bool.or_eq_false_iff] at w
      refine ⟨?_, anyB_no fun j hj => h.lineOK hi' (by rw [← (pickS_k s o l b n i).2]; exact hj)⟩
      rw [← w.1]
      congr 2
      rw [(pickS_k s o l b n i).2]
      refine anyB_congr fun j hj => ?_
      rw [pickS_line, if_neg (fun e => c e.1)]
theorem PickIn.takeIn (h : PickIn p s o l b n) : TakeIn p (pickS s o l b n) o l (heldAt s o l b - n) := by
  have e := pickS_line s o l b n o l
  rw [if_pos ⟨rfl, rfl⟩] at e
  have bl := badLine_no (h.hd.r.fm.line o h.hd.on l h.hd.ln)
  have g := h.hd.good
  have n0 := h.n0
  have nh := h.nh
  have sm := h.hd.sum
  refine ⟨h.formed, fun c hc => ?_, h.hd.on, by rw [(pickS_k s o l b n o).2]; exact h.hd.ln, by omega, ?_, ?_⟩
  · rw [e]
    exact (h.goods _ (by dsimp only; omega)).2 c hc
  · rw [e]
    dsimp only
    omega
  · rw [e, h.hd.keptS, if_pos ⟨rfl, rfl⟩]
    dsimp only
    omega
theorem PickIn.stepIn (h : PickIn p s o l b n) (hg : gotAll (pickS s o l b n) o = false) : StepIn p b (pickS s o l b n) o l (heldAt s o l b - n) := by
  have t := h.takeIn
  have := h.hd.bn
  exact ⟨h.right hg, t.on, t.ln, t.n0, Or.inr ⟨by rw [(pickS_k s o l b n o).1]; exact h.hd.kind, t.bk⟩, Or.inr ⟨by omega, by omega⟩⟩
theorem PickIn.all0 (h : PickIn p s o l b n) (hg : gotAll (pickS s o l b n) o = true) : heldAt s o l b - n = 0 := by
  unfold gotAll at hg
  rw [Bool.not_eq_true'] at hg
  have a := anyB_false hg l (by rw [(pickS_k s o l b n o).2]; exact h.hd.ln)
  rw [pickS_line, if_pos ⟨rfl, rfl⟩] at a
  unfold lacksL at a
  have a' : ((s.os.z o).ls.z l).b + n = ((s.os.z o).ls.z l).l := by simpa using a
  have bl := badLine_no (h.hd.r.fm.line o h.hd.on l h.hd.ln)
  have sm := h.hd.sum
  have bd := h.hd.bd
  have nh := h.nh
  omega
theorem pick_right (h : PickIn p s o l b n) : RightT p (pickT p s o l b n) := by
  unfold pickT
  cases hg : gotAll (pickS s o l b n) o
  · rw [if_neg (by decide)]
    exact Step.right (h.stepIn hg) (takeT_step h.takeIn)
  · rw [if_pos rfl]
    exact h.closed hg
end
end Go.Proofs.YtbcacebifpagpadGreat
namespace Go.Proofs.YtbcacebifpagpadGreat
open Go.RowKit
set_option linter.unusedVariables false
theorem OwnS.orderCells {A : Nat} {w : World} {s : St} {o : Nat} (h : OwnS A w s) (ho : o < s.os.n) : ∃ g, s.os.a = some ⟨g, 0, none⟩ ∧ A ≤ g ∧ g < w.heap.size ∧ w.cell? ⟨g, o * 2, none⟩ = some (.int .i64 (s.os.z o).k) ∧ w.cell? ⟨g, o * 2 + 1, none⟩ = some (.slice (s.os.z o).ls.a (s.os.z o).ls.n (s.os.z o).ls.c) ∧ ∀ j, w.frozen? ⟨g, j, none⟩ = false := by
  obtain ⟨g, g1, g2, g3⟩ := h.os.list (by omega)
  have c0 := g3.cell (j := o * 2) (by omega)
  have e0 := flatO_at (z := s.os.z) ho (show 0 < 2 by decide)
  rw [Nat.add_zero] at e0
  rw [e0] at c0
  have c1 := g3.cell (j := o * 2 + 1) (by omega)
  rw [flatO_at (z := s.os.z) ho (show 1 < 2 by decide)] at c1
  exact ⟨g, g1, g2, g3.lt, c0, c1, fun j => g3.frozen j⟩
structure RelK (A B7 : Nat) (W0 : World) (cur : St) (wk : World) : Prop where
  own : OwnS A wk cur
  box : Blk wk B7 31 7 (fun j => cur.cells.getD j default)
  bel : Below W0.heap.size W0 wk
  le : A ≤ wk.heap.size
theorem RelK.below {A B7 : Nat} {W0 wk wj : World} {cur : St} (h : RelK A B7 W0 cur wk) (hB : Below wk.heap.size wk wj) : RelK A B7 W0 cur wj :=
  ⟨h.own.below hB, h.box.below hB, h.bel.trans (hB.mono h.bel.size), Nat.le_trans h.le hB.size⟩
end Go.Proofs.YtbcacebifpagpadGreat
namespace Go.Proofs.YtbcacebifpagpadGreat
open Go.RowKit
set_option linter.unusedVariables false
theorem OwnS.onCell {A : Nat} {w : World} {s : St} {b g : Nat} (h : OwnS A w s) (hb : b < s.on.n) (hg : g < (s.on.r b).n) : ∃ g0 G, s.on.a = some ⟨g0, 0, none⟩ ∧ g0 < w.heap.size ∧ w.cell? ⟨g0, b, none⟩ = some (.slice (some ⟨G, 0, none⟩) (s.on.r b).n (s.on.r b).c) ∧ (s.on.r b).a = some ⟨G, 0, none⟩ ∧ A ≤ G ∧ G < w.heap.size ∧ (s.on.r b).n ≤ (s.on.r b).c ∧ (s.on.r b).c ≤ maxLen ∧ w.cell? ⟨G, g, none⟩ = some (.int .i64 ((s.on.r b).z g)) ∧ (∀ j, w.frozen? ⟨G, j, none⟩ = false) ∧ s.on.n ≤ s.on.c ∧ s.on.c ≤ maxLen := by
  obtain ⟨g0, a1, a2, a3, a4, a5⟩ := h.on
  obtain ⟨G, b1, b2, b3, b4, b5⟩ := h.rows b hb
  have c := a5.cell (j := b) hb
  rw [b1] at c
  exact ⟨g0, G, a1, a5.lt, c, b1, b2, b5.lt, b3, b4, b5.cell hg, fun j => b5.frozen j, a3, a4⟩
theorem OwnI.cellAt {A : Nat} {w : World} {r : Rw} {g : Nat} (h : OwnI A w r) (hg : g < r.n) : ∃ G, r.a = some ⟨G, 0, none⟩ ∧ A ≤ G ∧ G < w.heap.size ∧ r.n ≤ r.c ∧ r.c ≤ maxLen ∧ w.cell? ⟨G, g, none⟩ = some (.int .i64 (r.z g)) ∧ ∀ j, w.frozen? ⟨G, j, none⟩ = false := by
  obtain ⟨G, b1, b2, b3, b4, b5⟩ := h
  exact ⟨G, b1, b2, b5.lt, b3, b4, b5.cell hg, fun j => b5.frozen j⟩
theorem OwnS.setOut {A : Nat} {w : World} {s : St} {G : Nat} (h : OwnS A w s) (ha : s.so.a = some ⟨G, 0, none⟩) (g : Nat) (x : Int) : OwnS A (w.setCell ⟨G, g, none⟩ (.int .i64 x)) (Go.Proofs.YtbcacebifpagpadGreat.setOut s g x) := by
  obtain ⟨q, b1, b2, b3, b4, b5⟩ := h.so
  rw [ha] at b1
  simp only [Option.some.injEq, Addr.mk.injEq, and_true] at b1
  subst b1
  refine ⟨?_, fun i hi => (h.rows i hi).apart (fun e => (h.ari i hi).2.1 (e.trans ha.symm)) _ _, h.rapart, h.os.other b5 (by decide) (by decide) _ _, h.hs.other b5 (by decide) _ _, h.ms.other b5 (by decide) _ _, h.msr.set _ _ _, h.si.apart (fun e => h.aio (e.trans ha.symm)) _ _, h.so.set ha _ _, h.sf.apart (fun e => h.aof (ha.trans e.symm)) _ _, h.aio, h.aif, h.aof, h.ari⟩
  obtain ⟨q', a0, a1, a2, a3, a4⟩ := h.on
  exact ⟨q', a0, a1, a2, a3, a4.other (a := ⟨G, g, none⟩) (Blk.ne2 a4 b5 (by decide)) _⟩
theorem setOut_same {s t : St} (h : SameT s t) (g : Nat) (x : Int) : SameT (setOut s g x) (setOut t g x) :=
  ⟨h.on, h.os, h.hs, h.ms, h.si, ⟨h.so.1, fun j hj => by
    show (if j = g then x else s.so.z j) = if j = g then x else t.so.z j
    rw [h.so.2 j hj]⟩, h.sf⟩
theorem setLine_same {s t : St} (h : SameT s t) (o l c : Nat) (v : Int) : SameT (setLine s o l c v) (setLine t o l c v) := by
  refine ⟨h.on, ⟨h.os.1, fun i hi => ?_⟩, h.hs, h.ms, h.si, h.so, h.sf⟩
  have hi' : i < s.os.n := hi
  have e := h.os.2 i hi'
  rw [setLine_k, setLine_k, (setLine_n i).1, (setLine_n i).1]
  refine ⟨e.1, e.2.1, fun j hj => ?_⟩
  rw [setLine_at, setLine_at, e.2.2 j hj]
theorem withHolds_same {s t : St} (h : SameT s t) {k k' : Hs} (hn : k.n = k'.n) (hz : ∀ j, j < k.n → k.z j = k'.z j) : SameT (withHolds s k) (withHolds t k') := ⟨h.on, h.os, ⟨hn, hz⟩, h.ms, h.si, h.so, h.sf⟩
theorem kindS_same {s t : St} (h : SameT s t) (o : Nat) (v : Int) : SameT (kindS s o v) (kindS t o v) := by
  refine ⟨h.on, ⟨h.os.1, fun i hi => ?_⟩, h.hs, h.ms, h.si, h.so, h.sf⟩
  have e := h.os.2 i hi
  show (if i = o then (⟨v, (s.os.z i).ls⟩ : Od) else s.os.z i).k = (if i = o then (⟨v, (t.os.z i).ls⟩ : Od) else t.os.z i).k ∧ ((kindO s.os o v).z i).ls.n = ((kindO t.os o v).z i).ls.n ∧ ∀ j, j < ((kindO s.os o v).z i).ls.n → ((kindO s.os o v).z i).ls.z j = ((kindO t.os o v).z i).ls.z j
  rw [kindO_ls, kindO_ls]
  refine ⟨?_, e.2⟩
  by_cases c : i = o
  · rw [if_pos c, if_pos c]
  · rw [if_neg c, if_neg c]; exact e.1
def pickW (s : St) (h : Hs) (o l b g : Nat) (n k : Int) : St := setLine (setLine (setOut (setOn (withHolds s h) b g ((s.on.r b).z g - n)) g (s.so.z g + n)) o l 2 (((s.os.z o).ls.z l).b + n)) o l 3 (((s.os.z o).ls.z l).n + (k - n))
theorem pickW_same {p : Pl} {x s : St} (e : SameT x s) {o l b : Nat} {n : Int} (hI : HoldIn p s o l b) {h : Hs} (hn : h.n = (dropHs s.hs o l b).n) (hz : ∀ j, j < h.n → h.z j = (dropHs s.hs o l b).z j) : SameT (pickW x h o l b (lineGood s o l) n (heldAt s o l b)) (pickS s o l b n) := by
  have g := hI.good
  have e1 : (x.on.r b).z (lineGood s o l) = (s.on.r b).z (lineGood s o l) := e.num hI.r.fm hI.bn g.2
  have e2 : x.so.z (lineGood s o l) = s.so.z (lineGood s o l) := e.so.2 _ (by rw [e.so.1, hI.r.fm.son]; exact g.2)
  have e3 := e.line hI.on hI.ln
  unfold pickW pickS
  rw [e1, e2, e3]
  exact setLine_same (setLine_same (setOut_same (setOn_same (withHolds_same e hn hz) _ _ _) _ _) _ _ _ _) _ _ _ _
theorem StepIn.same {p : Pl} {but : Int} {y y' : St} {i j : Nat} {n : Int} (h : StepIn p but y i j n) (e : SameT y' y) : StepIn p but y' i j n := by
  have ho : i < y'.os.n := by rw [e.os.1]; exact h.on
  have k := e.os.2 i ho
  refine ⟨e.right h.r, ho, by rw [k.2.1]; exact h.ln, h.n0, ?_, h.bt⟩
  rw [k.1, e.line h.on h.ln]
  exact h.kd
theorem gotAll_same {x s : St} (e : SameT x s) {o : Nat} (ho : o < s.os.n) : gotAll x o = gotAll s o := by
  have k := e.os.2 o (by rw [e.os.1]; exact ho)
  unfold gotAll
  rw [k.2.1]
  congr 1
  exact anyB_congr fun j hj => by rw [k.2.2 j (by rw [k.2.1]; exact hj)]
end Go.Proofs.YtbcacebifpagpadGreat
namespace Go.Proofs.YtbcacebifpagpadGreat
open Go.RowKit Go.Shelf Go.Sort
set_option linter.unusedVariables false
set_option maxRecDepth 100000 in
set_option maxHeartbeats 2000000 in
theorem allocCheck1_any (B1 B2 B3 : Nat) (s : St) (order line : Int) (w : World) (hs : s.os.At w) (h1 : B1 < w.heap.size) (h2 : B2 < w.heap.size) (h3 : B3 < w.heap.size) (c1 : w.cell? ⟨B1, 1, none⟩ = some (.slice s.os.a s.os.n s.os.c)) (c2 : w.cell? ⟨B2, 0, none⟩ = some (.int .i64 order)) (c3 : w.cell? ⟨B3, 0, none⟩ = some (.int .i64 line)) :
    Calls Tryz.prog 91 #[.pointer (some ⟨B1, 0, none⟩), .pointer (some ⟨B2, 0, none⟩), .pointer (some ⟨B3, 0, none⟩)] w fun e w' => e = .returned (.bool (missL s order line)) ∧ Below w.heap.size w w' := by
  have ole := hs.le
  have ocap0 := hs.cap
  have ocap := ocap0
  unfold maxLen at ocap
  have hon : s.os.n ≤ maxLen := Nat.le_trans ole ocap0
  have r1 : ∀ d os, (grow (redrawn w d) os).cell? ⟨B1, 1, none⟩ = some (.slice s.os.a s.os.n s.os.c) := fun d os => cell_regrown c1 d os
  have r2 : ∀ d os, (grow (redrawn w d) os).cell? ⟨B2, 0, none⟩ = some (.int .i64 order) := fun d os => cell_regrown c2 d os
  have r3 : ∀ d os, (grow (redrawn w d) os).cell? ⟨B3, 0, none⟩ = some (.int .i64 line) := fun d os => cell_regrown c3 d os
  clear c1 c2 c3
  cases k1 : inB order 0 ((s.os.n : Int) - 1)
  · have HM : Hid (missL s order line = true) := by show missL s order line = true; unfold missL; rw [k1]; rfl
    clear hs
    go_enter Tryz.func91, Tryz.ntmps91
    go_wp2_with fail
    refine wp_region_quiet_below (by kernel_rfl) (by kernel_rfl) ?_
    repeat (go_big_quiet_step ((go_at_call 18; exact Calls.regrown_of ((Has_any _ _ _ (by assumption)).mono (fun _ _ h => ⟨h.1, h.2 ▸ Below.refl _ _⟩)))))
    refine wpQuiet_nil ?_
    intro _ hw'
    obtain ⟨⟨dq, osq⟩, hw''⟩ := hw'
    subst hw''
    go_wp2_with fail
    go_ret
    exact ⟨by rw [HM.out]; rfl, below_regrown _ _ _⟩
  · obtain ⟨m, rfl⟩ := Int.eq_ofNat_of_zero_le (inB_true k1).1
    have hm : m < s.os.n := by have := (inB_true k1).2; omega
    obtain ⟨b, o, hoa, hb, z0, z1, hl⟩ := hs.ods m hm
    have HM : Hid (missL s (m : Int) line = !(inB line 0 (((s.os.z m).ls.n : Int) - 1))) := by show missL s (m : Int) line = _; unfold missL; rw [k1]; rfl
    have lcap := hl.cap
    have lle := hl.le
    have hln : (s.os.z m).ls.n ≤ maxLen := Nat.le_trans lle lcap
    have r5 : ∀ d os, (grow (redrawn w d) os).cell? ⟨b, o + m * 2 + 1, none⟩ = some (.slice (s.os.z m).ls.a (s.os.z m).ls.n (s.os.z m).ls.c) := fun d os => cell_regrown z1 d os
    have m1 : (0 : Int) ≤ (m : Int) := by omega
    have m2 : (m : Int) < (s.os.n : Int) := by omega
    rw [hoa] at r1
    unfold maxLen at lcap
    clear z0 z1 hl hs hoa
    generalize (s.os.z m).ls.n = LN at *
    generalize (s.os.z m).ls.c = LC at *
    generalize (s.os.z m).ls.a = LA at *
    cases k2 : inB line 0 ((LN : Int) - 1)
    all_goals
      go_enter Tryz.func91, Tryz.ntmps91
      go_wp2_with fail
      refine wp_region_quiet_below (by kernel_rfl) (by kernel_rfl) ?_
      repeat (go_big_quiet_step ((go_at_call 18; exact Calls.regrown_of ((Has_any _ _ _ (by assumption)).mono (fun _ _ h => ⟨h.1, h.2 ▸ Below.refl _ _⟩)))))
      refine wpQuiet_nil ?_
      intro _ hw'
      obtain ⟨⟨dq, osq⟩, hw''⟩ := hw'
      subst hw''
      go_wp2_with fail
      go_ret
      exact ⟨by rw [HM.out, k2]; simp, below_regrown _ _ _⟩
set_option maxRecDepth 100000 in
set_option maxHeartbeats 4000000 in
theorem allocCheck_any (p : Pl) (s : St) (order line n but : Int) (w : World) (hp : p.At w) (hs : s.At w) :
    Calls Tryz.prog 49 #[p.val, s.val, .int .i64 order, .int .i64 line, .int .i64 n, .int .i64 but] w fun e w' => e = .returned (.int .i64 (allocE p s order line n but)) ∧ Below w.heap.size w w' := by
  obtain ⟨W0, hW, hWB, X0, K2, K3⟩ : ∃ W, ((((w.alloc (.cells #[.slice p.ab p.nb p.cb, .slice p.sa p.ns p.cs] 25)).alloc (.cells s.cells 31)).alloc (.cells #[.int .i64 order] 3)).alloc (.cells #[.int .i64 line] 3)) = W ∧ Below w.heap.size w W ∧ Boxes W w.heap.size (w.heap.size + 1) p s ∧ Blk W (w.heap.size + 2) 3 1 (fun _ => .int .i64 order) ∧ Blk W (w.heap.size + 3) 3 1 (fun _ => .int .i64 line) :=
    ⟨_, rfl, ((two_below _ _ _).alloc (by simp; omega) _).alloc (by simp; omega) _, ((boxes_new w p s _ _).below ((Below.refl _ _).alloc (Nat.le_refl _) _)).below ((Below.refl _ _).alloc (Nat.le_refl _) _), ((Blk.mk' (cur := #[.int .i64 order]) (by simp) rfl).congr (fun j hj => by match j, hj with | 0, _ => rfl)).alloc _, (Blk.mk' (cur := #[.int .i64 line]) (by simp) rfl).congr (fun j hj => by match j, hj with | 0, _ => rfl)⟩
  have HC : Hid (∀ wk, Below W0.heap.size W0 wk → Boxes wk w.heap.size (w.heap.size + 1) p s ∧ p.At wk ∧ s.At wk ∧ Below w.heap.size w wk ∧ Blk wk (w.heap.size + 2) 3 1 (fun _ => .int .i64 order) ∧ Blk wk (w.heap.size + 3) 3 1 (fun _ => .int .i64 line)) := fun wk h => ⟨X0.below h, (hp.below hWB).below h, (hs.below hWB).below h, hWB.trans (h.mono hWB.size), K2.below h, K3.below h⟩
  have HW : Hid ((((w.alloc (.cells #[.slice p.ab p.nb p.cb, .slice p.sa p.ns p.cs] 25)).alloc (.cells #[.slice s.on.a s.on.n s.on.c, .slice s.os.a s.os.n s.os.c, .slice s.hs.a s.hs.n s.hs.c, .slice s.ms.a s.ms.n s.ms.c, .slice s.si.a s.si.n s.si.c, .slice s.so.a s.so.n s.so.c, .slice s.sf.a s.sf.n s.sf.c] 31)).alloc (.cells #[.int .i64 order] 3)).alloc (.cells #[.int .i64 line] 3) = W0) := hW
  have leb := hp.leb
  have capb0 := hp.capb
  have capb := capb0
  unfold maxLen at capb
  have hnb : p.nb ≤ maxLen := Nat.le_trans leb capb0
  clear hW X0 K2 K3 hp hs
  unfold Pl.val St.val
  go_enter Tryz.func49, Tryz.ntmps49
  go_wp2_with fail
  rw [HW.out]
  obtain ⟨X, hpk, hsk, hBw, -, -⟩ := HC.out W0 (Below.refl _ _)
  refine (stateCheck_any p s W0 hpk hsk).mono ?_
  rintro e w1 ⟨rfl, hB⟩
  clear X hpk hsk hBw HW
  obtain ⟨⟨⟨l1, d0, d1⟩, l2, c0, c1, c2, c3, c4, c5, c6⟩, hpk, hsk, hBw, k2, k3⟩ := HC.out w1 hB
  have HBW : Hid (Below w.heap.size w w1) := hBw
  clear hBw
  by_cases h0 : stateE p s = 0
  · have H0 : Hid (stateE p s = 0) := h0
    have HF : Hid (Formed p s) := (rightT h0).fm
    rw [h0]
    clear h0
    have HCL : Hid (Calls Tryz.prog 91 #[.pointer (some ⟨w.heap.size + 1, 0, none⟩), .pointer (some ⟨w.heap.size + 1 + 1, 0, none⟩), .pointer (some ⟨w.heap.size + 1 + 1 + 1, 0, none⟩)] w1 fun e w' => e = .returned (.bool (missL s order line)) ∧ Below w1.heap.size w1 w') := allocCheck1_any (w.heap.size + 1) (w.heap.size + 2) (w.heap.size + 3) s order line w1 hsk.os l2 k2.lt k3.lt c1 (k2.cell (j := 0) (by decide)) (k3.cell (j := 0) (by decide))
    have eg := enters_of Tryz.func91 (by kernel_rfl) rfl
    clear hpk hsk k2 k3 c0 c1 c2 c3 c4 c5 c6 d1
    go_wp2_with fail
    refine HCL.out.mono ?_
    rintro e w2 ⟨rfl, hB2⟩
    have hB3 := hB.trans (hB2.mono hB.size)
    clear l1 d0 l2 hB2 HCL HBW hB eg
    obtain ⟨⟨⟨l1, d0, d1⟩, l2, c0, c1, c2, c3, c4, c5, c6⟩, hpk, hsk, hBw, k2, k3⟩ := HC.out w2 hB3
    have HBW : Hid (Below w.heap.size w w2) := hBw
    clear hBw
    have HR : Hid (∀ a b c d, missL s order line = a → inB n 0 200 = b → (but != -1) = c → inB but 0 ((p.nb : Int) - 1) = d → allocR p s order line n but = (a || !b || (c && !d))) := fun a b c d e1 e2 e3 e4 => by unfold allocR; rw [e1, e2, e3, e4]
    cases m1 : missL s order line
    · have hml := m1
      cases m2 : inB n 0 200
      · have HX : Hid (allocE p s order line n but = 3) := allocE_range H0.out (by rw [HR.out _ _ _ _ m1 m2 rfl rfl]; rfl)
        clear hpk hsk k2 k3 c0 c1 c2 c3 c4 c5 c6 m1 hml
        go_wp2_with (go_at_call 32; refine calls_to (Within_any _ _ _ _) ?_)
        go_ret
        exact ⟨by rw [HX.out]; rfl, HBW.out⟩
      · cases m3 : (but != -1)
        · have HA : Hid (allocR p s order line n but = false) := by show allocR p s order line n but = false; rw [HR.out _ _ _ _ m1 m2 m3 rfl]; rfl
          have hbx := m3
          obtain ⟨a, b, -, -⟩ := allocR_no HA.out
          obtain ⟨o, rfl⟩ := Int.eq_ofNat_of_zero_le a.1
          obtain ⟨l, rfl⟩ := Int.eq_ofNat_of_zero_le b.1
          have ho : o < s.os.n := a.2
          have hl : l < (s.os.z o).ls.n := b.2
          obtain ⟨bo, oo, hoa, hbo, z0, z1, hlk⟩ := hsk.os.ods o ho
          obtain ⟨bl, ol, hla, hbl, y0, y1, y2, y3⟩ := hlk.hds l hl
          have u0 := k2.cell (j := 0) (by decide)
          have u1 := k3.cell (j := 0) (by decide)
          have u2 := k2.lt
          have u3 := k3.lt
          have q0 : (0 : Int) ≤ (o : Int) := by omega
          have q1 : (o : Int) < (s.os.n : Int) := by omega
          have q2 : (0 : Int) ≤ (l : Int) := by omega
          have q3 : (l : Int) < ((s.os.z o).ls.n : Int) := by omega
          have v1 := hsk.os.le
          have v2 := hsk.os.cap
          have v3 := hlk.le
          have v4 := hlk.cap
          unfold maxLen at v2 v4
          have HT6 : Hid (¬ (s.os.z o).k = 1 → allocE p s o l n but = 6) := fun h => allocE_done H0.out HA.out h
          have HT3 : Hid ((s.os.z o).k = 1 → ((s.os.z o).ls.z l).n < n → allocE p s o l n but = 3) := fun h h' => allocE_back H0.out HA.out h h'
          have HT0 : Hid ((s.os.z o).k = 1 → ¬ ((s.os.z o).ls.z l).n < n → allocE p s o l n but = 0) := fun h h' => allocE_ok H0.out HA.out h h'
          rw [hoa] at c1
          rw [hla] at z1
          clear hpk hsk k2 k3 c0 c2 c3 c4 c5 c6 m1 hoa hla hlk y0 y1 y2 a b HR
          generalize (s.os.z o).k = KD at *
          generalize ((s.os.z o).ls.z l).n = LB at *
          generalize (s.os.z o).ls.n = LN at *
          generalize (s.os.z o).ls.c = LC at *
          by_cases g1 : KD = 1
          · have g2 : (KD != 1) = false := by rw [g1]; rfl
            have t1 : ∀ d os, (grow (redrawn w2 d) os).cell? ⟨w.heap.size + 1, 1, none⟩ = some (.slice (some ⟨bo, oo, none⟩) s.os.n s.os.c) := fun d os => cell_regrown c1 d os
            have t2 : ∀ d os, (grow (redrawn w2 d) os).cell? ⟨w.heap.size + 2, 0, none⟩ = some (.int .i64 (o : Int)) := fun d os => cell_regrown u0 d os
            have t3 : ∀ d os, (grow (redrawn w2 d) os).cell? ⟨w.heap.size + 3, 0, none⟩ = some (.int .i64 (l : Int)) := fun d os => cell_regrown u1 d os
            have t4 : ∀ d os, (grow (redrawn w2 d) os).cell? ⟨bo, oo + o * 2 + 1, none⟩ = some (.slice (some ⟨bl, ol, none⟩) LN LC) := fun d os => cell_regrown z1 d os
            have t5 : ∀ d os, (grow (redrawn w2 d) os).cell? ⟨bl, ol + l * 4 + 3, none⟩ = some (.int .i64 LB) := fun d os => cell_regrown y3 d os
            have HTA : Hid (LB < n → allocE p s o l n but = 3) := HT3.out g1
            have HTB : Hid (¬ LB < n → allocE p s o l n but = 0) := HT0.out g1
            clear HT6 HT3 HT0 g1
            cases g3 : decide (LB < n)
            · have HX : Hid (allocE p s o l n but = 0) := HTB.out (of_decide_eq_false g3)
              have g4 : ¬ LB < n := of_decide_eq_false g3
              clear HTA HTB
              go_wp2_with (first | (go_at_call 32; refine calls_to (Within_any _ _ _ _) ?_) | (go_at_call 18; refine calls_to (Has_any _ _ _ hnb) ?_))
              refine wp_region_quiet_below (by kernel_rfl) (by kernel_rfl) ?_
              repeat (go_big_quiet_step (fail))
              refine wpQuiet_nil ?_
              intro _ hw'
              obtain ⟨⟨dq, osq⟩, hw''⟩ := hw'
              subst hw''
              go_wp2_with fail
              go_ret
              exact ⟨by rw [HX.out]; rfl, HBW.out.trans ((below_regrown _ _ _).mono HBW.out.size)⟩
            · have HX : Hid (allocE p s o l n but = 3) := HTA.out (of_decide_eq_true g3)
              have g4 : LB < n := of_decide_eq_true g3
              clear HTA HTB
              go_wp2_with (first | (go_at_call 32; refine calls_to (Within_any _ _ _ _) ?_) | (go_at_call 18; refine calls_to (Has_any _ _ _ hnb) ?_))
              refine wp_region_quiet_below (by kernel_rfl) (by kernel_rfl) ?_
              repeat (go_big_quiet_step (fail))
              refine wpQuiet_nil ?_
              intro _ hw'
              obtain ⟨⟨dq, osq⟩, hw''⟩ := hw'
              subst hw''
              go_wp2_with fail
              go_ret
              exact ⟨by rw [HX.out]; rfl, HBW.out.trans ((below_regrown _ _ _).mono HBW.out.size)⟩
          · have HX : Hid (allocE p s o l n but = 6) := HT6.out g1
            have g2 : (KD != 1) = true := by simpa using g1
            clear HT6 HT3 HT0 g1
            go_wp2_with (first | (go_at_call 32; refine calls_to (Within_any _ _ _ _) ?_) | (go_at_call 18; refine calls_to (Has_any _ _ _ hnb) ?_))
            go_ret
            exact ⟨by rw [HX.out]; rfl, HBW.out⟩
        · cases m4 : inB but 0 ((p.nb : Int) - 1)
          · have HX : Hid (allocE p s order line n but = 3) := allocE_range H0.out (by rw [HR.out _ _ _ _ m1 m2 m3 m4]; rfl)
            clear hpk hsk k2 k3 c0 c1 c2 c3 c4 c5 c6 m1 hml
            go_wp2_with (first | (go_at_call 32; refine calls_to (Within_any _ _ _ _) ?_) | (go_at_call 18; refine calls_to (Has_any _ _ _ hnb) ?_))
            go_ret
            exact ⟨by rw [HX.out]; rfl, HBW.out⟩
          · have HA : Hid (allocR p s order line n but = false) := by show allocR p s order line n but = false; rw [HR.out _ _ _ _ m1 m2 m3 m4]; rfl
            obtain ⟨a, b, -, -⟩ := allocR_no HA.out
            obtain ⟨o, rfl⟩ := Int.eq_ofNat_of_zero_le a.1
            obtain ⟨l, rfl⟩ := Int.eq_ofNat_of_zero_le b.1
            have ho : o < s.os.n := a.2
            have hl : l < (s.os.z o).ls.n := b.2
            obtain ⟨bo, oo, hoa, hbo, z0, z1, hlk⟩ := hsk.os.ods o ho
            obtain ⟨bl, ol, hla, hbl, y0, y1, y2, y3⟩ := hlk.hds l hl
            have u0 := k2.cell (j := 0) (by decide)
            have u1 := k3.cell (j := 0) (by decide)
            have u2 := k2.lt
            have u3 := k3.lt
            have q0 : (0 : Int) ≤ (o : Int) := by omega
            have q1 : (o : Int) < (s.os.n : Int) := by omega
            have q2 : (0 : Int) ≤ (l : Int) := by omega
            have q3 : (l : Int) < ((s.os.z o).ls.n : Int) := by omega
            have v1 := hsk.os.le
            have v2 := hsk.os.cap
            have v3 := hlk.le
            have v4 := hlk.cap
            unfold maxLen at v2 v4
            have HT6 : Hid (¬ (s.os.z o).k = 1 → allocE p s o l n but = 6) := fun h => allocE_done H0.out HA.out h
            have HT3 : Hid ((s.os.z o).k = 1 → ((s.os.z o).ls.z l).n < n → allocE p s o l n but = 3) := fun h h' => allocE_back H0.out HA.out h h'
            have HT0 : Hid ((s.os.z o).k = 1 → ¬ ((s.os.z o).ls.z l).n < n → allocE p s o l n but = 0) := fun h h' => allocE_ok H0.out HA.out h h'
            rw [hoa] at c1
            rw [hla] at z1
            clear hpk hsk k2 k3 c0 c2 c3 c4 c5 c6 m1 hoa hla hlk y0 y1 y2 a b HR
            generalize (s.os.z o).k = KD at *
            generalize ((s.os.z o).ls.z l).n = LB at *
            generalize (s.os.z o).ls.n = LN at *
            generalize (s.os.z o).ls.c = LC at *
            by_cases g1 : KD = 1
            · have g2 : (KD != 1) = false := by rw [g1]; rfl
              have t1 : ∀ d os, (grow (redrawn w2 d) os).cell? ⟨w.heap.size + 1, 1, none⟩ = some (.slice (some ⟨bo, oo, none⟩) s.os.n s.os.c) := fun d os => cell_regrown c1 d os
              have t2 : ∀ d os, (grow (redrawn w2 d) os).cell? ⟨w.heap.size + 2, 0, none⟩ = some (.int .i64 (o : Int)) := fun d os => cell_regrown u0 d os
              have t3 : ∀ d os, (grow (redrawn w2 d) os).cell? ⟨w.heap.size + 3, 0, none⟩ = some (.int .i64 (l : Int)) := fun d os => cell_regrown u1 d os
              have t4 : ∀ d os, (grow (redrawn w2 d) os).cell? ⟨bo, oo + o * 2 + 1, none⟩ = some (.slice (some ⟨bl, ol, none⟩) LN LC) := fun d os => cell_regrown z1 d os
              have t5 : ∀ d os, (grow (redrawn w2 d) os).cell? ⟨bl, ol + l * 4 + 3, none⟩ = some (.int .i64 LB) := fun d os => cell_regrown y3 d os
              have HTA : Hid (LB < n → allocE p s o l n but = 3) := HT3.out g1
              have HTB : Hid (¬ LB < n → allocE p s o l n but = 0) := HT0.out g1
              clear HT6 HT3 HT0 g1
              cases g3 : decide (LB < n)
              · have HX : Hid (allocE p s o l n but = 0) := HTB.out (of_decide_eq_false g3)
                have g4 : ¬ LB < n := of_decide_eq_false g3
                clear HTA HTB
                go_wp2_with (first | (go_at_call 32; refine calls_to (Within_any _ _ _ _) ?_) | (go_at_call 18; refine calls_to (Has_any _ _ _ hnb) ?_))
                refine wp_region_quiet_below (by kernel_rfl) (by kernel_rfl) ?_
                repeat (go_big_quiet_step (fail))
                refine wpQuiet_nil ?_
                intro _ hw'
                obtain ⟨⟨dq, osq⟩, hw''⟩ := hw'
                subst hw''
                go_wp2_with fail
                go_ret
                exact ⟨by rw [HX.out]; rfl, HBW.out.trans ((below_regrown _ _ _).mono HBW.out.size)⟩
              · have HX : Hid (allocE p s o l n but = 3) := HTA.out (of_decide_eq_true g3)
                have g4 : LB < n := of_decide_eq_true g3
                clear HTA HTB
                go_wp2_with (first | (go_at_call 32; refine calls_to (Within_any _ _ _ _) ?_) | (go_at_call 18; refine calls_to (Has_any _ _ _ hnb) ?_))
                refine wp_region_quiet_below (by kernel_rfl) (by kernel_rfl) ?_
                repeat (go_big_quiet_step (fail))
                refine wpQuiet_nil ?_
                intro _ hw'
                obtain ⟨⟨dq, osq⟩, hw''⟩ := hw'
                subst hw''
                go_wp2_with fail
                go_ret
                exact ⟨by rw [HX.out]; rfl, HBW.out.trans ((below_regrown _ _ _).mono HBW.out.size)⟩
            · have HX : Hid (allocE p s o l n but = 6) := HT6.out g1
              have g2 : (KD != 1) = true := by simpa using g1
              clear HT6 HT3 HT0 g1
              go_wp2_with (first | (go_at_call 32; refine calls_to (Within_any _ _ _ _) ?_) | (go_at_call 18; refine calls_to (Has_any _ _ _ hnb) ?_))
              go_ret
              exact ⟨by rw [HX.out]; rfl, HBW.out⟩
    · have HX : Hid (allocE p s order line n but = 3) := allocE_range H0.out (by rw [HR.out _ _ _ _ m1 rfl rfl rfl]; rfl)
      clear hpk hsk k2 k3 c0 c1 c2 c3 c4 c5 c6 m1
      go_wp2_with fail
      go_ret
      exact ⟨by rw [HX.out]; rfl, HBW.out⟩
  · have HX : Hid (allocE p s order line n but = stateE p s) := allocE_state h0
    clear hpk hsk k2 k3 c0 c1 c2 c3 c4 c5 c6
    go_wp2_with fail
    go_ret
    exact ⟨by rw [HX.out]; rfl, HBW.out⟩
end Go.Proofs.YtbcacebifpagpadGreat
namespace Go.Proofs.YtbcacebifpagpadGreat
open Go.RowKit Go.Shelf
set_option linter.unusedVariables false
attribute [local go_sem] Oper.semAt_some
theorem frL_prefix (p : Pl) (f : Bool) {k m : Nat} (h : k ≤ m) : frL p f k <+: frL p f m := by
  induction m with
  | zero => rw [show k = 0 by omega]; exact List.prefix_refl _
  | succ m ih =>
    by_cases hk : k = m + 1
    · rw [hk]; exact List.prefix_refl _
    · refine (ih (by omega)).trans ?_
      by_cases hf : (p.zb m).front = f
      · rw [frL_hit hf]; exact List.prefix_append _ _
      · rw [frL_miss hf]; exact List.prefix_refl _
def keepsB (n₀ Bf : Nat) (A B : World) : Prop := Below n₀ A B ∧ (∀ v, A.cell? ⟨Bf, 0, none⟩ = some v → B.cell? ⟨Bf, 0, none⟩ = some v)
set_option maxRecDepth 100000 in
set_option maxHeartbeats 2000000 in
theorem binsOf1_in (F : Fence) (n : Nat) (h6 : F.fn 113) (hro : F.round = none) (hn : 1 ≤ n) (l Bp Bf n₀ : Nat) (p : Pl) (f : Bool) (J Jx : List Int → World → Prop)
    (hY : ∀ pre x W, J pre W → pre.length < p.nb → YieldAt F (n - 1) Tryz.prog l #[.int .i64 x] W fun e W' =>
      (e = .returned (.bool true) ∧ J (pre ++ [x]) W' ∧ keepsB n₀ Bf W W') ∨ (e = .returned (.bool false) ∧ Jx (pre ++ [x]) W'))
    (W : World) (hJ : AbidesFrom W.heap.size J) (hn₀ : n₀ ≤ W.heap.size) (hBp : W.cell? ⟨Bp, 0, none⟩ = some (.slice p.ab p.nb p.cb)) (hBf : W.cell? ⟨Bf, 0, none⟩ = some (.bool f)) (hle : p.nb ≤ p.cb) (hcap : p.cb ≤ maxLen)
    (hL : ∀ W', Below n₀ W W' → BinsAt W' p.ab p.nb p.zb) (h0 : J [] W) :
    CallsIn F n Tryz.prog 113 #[.func (.yield l) #[] #[], .pointer (some ⟨Bp, 0, none⟩), .pointer (some ⟨Bf, 0, none⟩)] W fun e W' => (∃ v, e = .returned v) ∧
      ((∃ ys, ys = frL p f p.nb ∧ J ys W') ∨ (∃ pre, pre <+: frL p f p.nb ∧ Jx pre W')) := by
  unfold maxLen at hcap
  have hS : Hid (∀ wr, Below n₀ W wr → W.heap.size ≤ wr.heap.size) := fun wr h => h.size
  have HJA : Hid (∀ pre A o, J pre A → J pre (A.alloc o)) := fun pre A o h => hJ pre A (A.alloc o) none h (World.grownBy_alloc A o none) (fun r e => by cases e)
  refine callsIn_of_wp Tryz.func113 rfl h6 ?_ hro
  simp only [Tryz.ntmps113, List.size_toArray, List.length_cons, List.length_nil, Nat.reduceAdd, Nat.reduceSub, Array.replicate_succ, Array.replicate_zero, List.push_toArray, List.append_toArray, List.nil_append, List.cons_append]
  gi_wp2
  gi_loopw [9] (fun i wr => ∃ k : Nat, k ≤ p.nb ∧ i = .int .i64 k ∧ J (frL p f k) wr ∧ Below n₀ W wr ∧ wr.cell? ⟨Bf, 0, none⟩ = some (.bool f)) (fun i _ => p.nb - (intOf i).toNat)
  case atStart => exact ⟨0, Nat.zero_le _, rfl, h0, Below.refl _ _, hBf⟩
  case round =>
    obtain ⟨k, hk, rfl, hJs, hB, hcf⟩ := hrel
    by_cases hlt : k < p.nb
    · obtain ⟨b, o, hab, hb, z0, z1, z2, z3⟩ := hL _ hB k hlt
      have m1 : (0 : Int) ≤ (k : Int) := by omega
      have hltf : Bf < wr.heap.size := World.block_lt_of_cell? wr _ hcf
      have hfl := frL_len p f k
      rw [hab]
      clear hab
      by_cases hf : (p.zb k).front = f
      · rw [hf] at z0
        have hJa := HJA.out _ wr (.cells #[.bool f, .int .i64 (p.zb k).room, .int .i64 (p.zb k).low, .int .i64 (p.zb k).high] 94) hJs
        obtain ⟨fn, tmps, assign, body, hy, hR⟩ := hY (frL p f k) k _ hJa (by omega)
        gi_wp2
        refine hR.mono ?_
        rintro e W3 (⟨rfl, hJ3, hk3⟩ | ⟨rfl, hJx3⟩)
        · have hB3 : Below n₀ W W3 := (hB.alloc (Nat.le_trans hn₀ (hS.out wr hB)) _).trans hk3.1
          have hc3 : W3.cell? ⟨Bf, 0, none⟩ = some (.bool f) := hk3.2 _ ((((Below.refl wr.heap.size wr).alloc (Nat.le_refl _) _).cell (p := ⟨Bf, 0, none⟩) hltf).trans hcf)
          rw [← frL_hit hf] at hJ3
          clear hk3 hR
          gi_wp2
          go_roundw
          case rel => exact ⟨k + 1, by omega, by go_num, hJ3, hB3, hc3⟩
          case measure => simp [intOf]; omega
        · rw [← frL_hit hf] at hJx3
          gi_wp2
          refine bodyPost_ret (results_none rfl _ _ _) rfl ?_
          exact ⟨⟨_, rfl⟩, .inr ⟨frL p f (k + 1), frL_prefix p f (by omega), hJx3⟩⟩
      · have hJa := HJA.out _ wr (.cells #[.bool (p.zb k).front, .int .i64 (p.zb k).room, .int .i64 (p.zb k).low, .int .i64 (p.zb k).high] 94) hJs
        rw [← frL_miss hf] at hJa
        have hBa := hB.alloc (Nat.le_trans hn₀ (hS.out wr hB)) (.cells #[.bool (p.zb k).front, .int .i64 (p.zb k).room, .int .i64 (p.zb k).low, .int .i64 (p.zb k).high] 94)
        have hca := (((Below.refl wr.heap.size wr).alloc (Nat.le_refl _) (.cells #[.bool (p.zb k).front, .int .i64 (p.zb k).room, .int .i64 (p.zb k).low, .int .i64 (p.zb k).high] 94)).cell (p := ⟨Bf, 0, none⟩) hltf).trans hcf
        have HA : Hid (J (frL p f (k + 1)) (wr.alloc (.cells #[.bool (p.zb k).front, .int .i64 (p.zb k).room, .int .i64 (p.zb k).low, .int .i64 (p.zb k).high] 94)) ∧ Below n₀ W (wr.alloc (.cells #[.bool (p.zb k).front, .int .i64 (p.zb k).room, .int .i64 (p.zb k).low, .int .i64 (p.zb k).high] 94)) ∧ (wr.alloc (.cells #[.bool (p.zb k).front, .int .i64 (p.zb k).room, .int .i64 (p.zb k).low, .int .i64 (p.zb k).high] 94)).cell? ⟨Bf, 0, none⟩ = some (.bool f)) := ⟨hJa, hBa, hca⟩
        clear hJa hBa hca
        gi_wp2
        refine ⟨fun _ h => (by cases h), ?_⟩
        gi_wp2
        go_roundw
        case rel => exact ⟨k + 1, by omega, by go_num, HA.out.1, HA.out.2.1, HA.out.2.2⟩
        case measure => simp [intOf]; omega
    · gi_wp2
      go_end0
      have hkn : k = p.nb := by omega
      subst hkn
      exact ⟨⟨_, rfl⟩, .inl ⟨_, rfl, hJs⟩⟩
end Go.Proofs.YtbcacebifpagpadGreat
namespace Go.Proofs.YtbcacebifpagpadGreat
open Go.RowKit Go.Shelf
set_option linter.unusedVariables false
attribute [local go_sem] Oper.semAt_some
theorem keepsB_t {n₀ Bf : Nat} {A B C : World} (h : keepsB n₀ Bf A B) (k : keepsB n₀ Bf B C) : keepsB n₀ Bf A C := ⟨h.1.trans k.1, fun v hv => k.2 v (h.2 v hv)⟩
theorem keepsB_b {n₀ Bf : Nat} {w : World} (hn : n₀ ≤ w.heap.size) (hb : Bf < w.heap.size) (W : World) (l : Nat) (o o' : Obj) (hl : w.heap.size ≤ l) (h : W.heap[l]? = some o) (h1 : o.isCells = false) (h2 : o.isWalk = false) : keepsB n₀ Bf W (W.putObj l o') :=
  ⟨belowK_b hn W l o o' hl h h1 h2, fun v hv => ((belowK_b (Nat.le_refl _) W l o o' hl h h1 h2).cell (p := ⟨Bf, 0, none⟩) hb).trans hv⟩
set_option maxRecDepth 100000 in
set_option maxHeartbeats 1000000 in
theorem binsOf_in (F : Fence) (n : Nat) (h5 : F.fn 92) (hro : F.round = none) (p : Pl) (f : Bool) (w : World) :
    CallsIn F n Tryz.prog 92 #[p.val, .bool f] w fun e w' => e = .returned (.func (.func 113) #[] #[.pointer (some ⟨w.heap.size, 0, none⟩), .pointer (some ⟨w.heap.size + 1, 0, none⟩)]) ∧ w' = (w.alloc (.cells #[.slice p.ab p.nb p.cb, .slice p.sa p.ns p.cs] 25)).alloc (.cells #[.bool f] 4) := by
  unfold Pl.val
  refine callsIn_of_wp Tryz.func92 rfl h5 ?_ hro
  simp only [Tryz.ntmps92, List.size_toArray, List.length_cons, List.length_nil, Nat.reduceAdd, Nat.reduceSub, Array.replicate_succ, Array.replicate_zero, List.push_toArray, List.append_toArray, List.nil_append, List.cons_append]
  gi_wp2
  go_ret
  exact ⟨rfl, rfl⟩
theorem binsOf_stops (F : Fence) (n : Nat) (h6 : F.fn 113) (hro : F.round = none) (hn : 1 ≤ n) (Bp Bf n₀ : Nat) (p : Pl) (f : Bool) (w : World) (hBp : Bp < w.heap.size) (hBf : Bf < w.heap.size) (hn₀ : n₀ ≤ w.heap.size)
    (hcp : w.cell? ⟨Bp, 0, none⟩ = some (.slice p.ab p.nb p.cb)) (hcf : w.cell? ⟨Bf, 0, none⟩ = some (.bool f)) (hle : p.nb ≤ p.cb) (hcap : p.cb ≤ maxLen) (hL : ∀ W', Below n₀ w W' → BinsAt W' p.ab p.nb p.zb) :
    SeqStopsK F n Tryz.prog 113 #[.pointer (some ⟨Bp, 0, none⟩), .pointer (some ⟨Bf, 0, none⟩)] (fun x : Int => #[Value.int .i64 x]) (keepsB n₀ Bf) (fun ys => ys = frL p f p.nb) (fun pre => pre <+: frL p f p.nb) p.nb w := fun l J Jx W hW hJ _ hY h0 =>
  binsOf1_in F n h6 hro hn l Bp Bf n₀ p f J Jx hY W hJ (Nat.le_trans hn₀ hW.size) ((hW.cell (p := ⟨Bp, 0, none⟩) hBp).trans hcp) ((hW.cell (p := ⟨Bf, 0, none⟩) hBf).trans hcf) hle hcap (fun W' h => hL W' ((hW.mono hn₀).trans h)) h0
end Go.Proofs.YtbcacebifpagpadGreat
namespace Go.Proofs.YtbcacebifpagpadGreat
open Go.RowKit Go.Shelf
set_option linter.unusedVariables false
attribute [local go_sem] Oper.semAt_some
set_option maxRecDepth 100000 in
set_option maxHeartbeats 2000000 in
theorem WayOwn_any (p : Pl) (w : World) (hp : p.At w) :
    Calls Tryz.prog 50 #[p.val] w fun e w' => ∃ v, e = .returned (.tuple #[v, .int .i64 (planE p)]) ∧ w'.ownsRow w.heap.size 3 1 v (wayR p).length ((wayR p).map (Value.int .i64)) ∧ Below w.heap.size w w' := by
  have leb := hp.leb
  have capb0 := hp.capb
  have capb := capb0
  unfold maxLen at capb
  have hB0 : Below w.heap.size w (w.alloc (.cells #[.slice p.ab p.nb p.cb, .slice p.sa p.ns p.cs] 25)) := (Below.refl w.heap.size w).alloc (Nat.le_refl _) _
  obtain ⟨i1, hj, hy0, hy1, hy2⟩ := info_parts infoInt
  refine (callsIn_wide (n := 5)).1 ?_
  refine callsIn_of_wp_marks Tryz.func50 rfl trivial ?_ rfl
  simp only [Pl.val, Tryz.ntmps50, List.size_toArray, List.length_cons, List.length_nil, Nat.reduceAdd, Nat.reduceSub, Array.replicate_succ, Array.replicate_zero, List.push_toArray, List.append_toArray, List.nil_append, List.cons_append]
  by_cases h0 : planE p = 0
  · have HC : Calls Tryz.prog 69 #[p.val] (w.alloc (.cells #[.slice p.ab p.nb p.cb, .slice p.sa p.ns p.cs] 25)) fun e w' => e = .returned (.int .i64 0) ∧ Below (w.heap.size + 1) (w.alloc (.cells #[.slice p.ab p.nb p.cb, .slice p.sa p.ns p.cs] 25)) w' := by
      have := planCheck_any p _ (hp.below hB0)
      rw [h0, World.size_alloc] at this
      exact this
    have R := rightP h0
    have hnb := R.nb6
    have H0 : Hid (planE p = 0) := h0
    clear h0 R
    gi_wp2_with (first
      | (refine ⟨trivial, ?_⟩; gi_at_call 69; refine (callsIn_wide.2 HC).mono ?_; rintro e w1 ⟨rfl, hB⟩; have hsz := hB.size; have c0 : w1.cell? ⟨w.heap.size, 0, none⟩ = some (.slice p.ab p.nb p.cb) := (hB.cell (p := ⟨w.heap.size, 0, none⟩) (by simp)).trans (by simp); rw [World.size_alloc] at hsz)
      | (gi_at_make; refine wpListIn_make_own _ rfl _ _ 23 rfl (w.heap.size + 1) 3 i1 (.int .i64 0) 1 Tryz.underlying23 hj hy0 hy1 .i64 .i64 _ p.nb rfl rfl rfl (by rw [hy2]; omega) (by unfold maxLen; omega) (by omega) ?_; intro w2 hown2 hgrow2; have hB2 : Below (w.heap.size + 1) (w.alloc (.cells #[.slice p.ab p.nb p.cb, .slice p.sa p.ns p.cs] 25)) w2 := hB.grown hgrow2 (by omega) (by intro k hk; cases hk); have hsz2 := hB2.size; rw [World.size_alloc] at hsz2; have c0 : w2.cell? ⟨w.heap.size, 0, none⟩ = some (.slice p.ab p.nb p.cb) := (hB2.cell (p := ⟨w.heap.size, 0, none⟩) (by simp)).trans (by simp); have c1 : w2.cell? ⟨w.heap.size, 1, none⟩ = some (.slice p.sa p.ns p.cs) := (hB2.cell (p := ⟨w.heap.size, 1, none⟩) (by simp)).trans (by simp); have hlt2 : w.heap.size < w2.heap.size := by omega)
      | (refine ⟨trivial, ?_⟩; gi_at_call 92; refine (binsOf_in Fence.wide _ trivial rfl p true _).mono ?_; rintro e w' ⟨rfl, rfl⟩))
    obtain ⟨W3, hW3, s3, bO, hrow0, bF, cP, hB3⟩ : ∃ W3, ((w2.alloc (.cells #[(.slice (some ⟨w1.heap.size, 0, none⟩) 0 p.nb)] 23)).alloc (.cells #[.slice p.ab p.nb p.cb, .slice p.sa p.ns p.cs] 25)).alloc (.cells #[.bool true] 4) = W3 ∧ W3.heap.size = w2.heap.size + 3 ∧ _root_.Go.Boxed W3 w2.heap.size 23 (.slice (some ⟨w1.heap.size, 0, none⟩) 0 p.nb) ∧ W3.ownsRow (w.heap.size + 1) 3 1 (.slice (some ⟨w1.heap.size, 0, none⟩) 0 p.nb) 0 [] ∧ _root_.Go.Boxed W3 (w2.heap.size + 1 + 1) 4 (.bool true) ∧ W3.cell? ⟨w2.heap.size + 1, 0, none⟩ = some (.slice p.ab p.nb p.cb) ∧ Below (w.heap.size + 1) (w.alloc (.cells #[.slice p.ab p.nb p.cb, .slice p.sa p.ns p.cs] 25)) W3 := by
      refine ⟨_, rfl, by simp, ((_root_.Go.Boxed.new w2 23 _).alloc _).alloc _, ((hown2.alloc _).alloc _).alloc _, ?_, ?_, ((hB2.alloc hsz2 _).alloc (by simp; omega) _).alloc (by simp; omega) _⟩
      · have := _root_.Go.Boxed.new ((w2.alloc (.cells #[(.slice (some ⟨w1.heap.size, 0, none⟩) 0 p.nb)] 23)).alloc (.cells #[.slice p.ab p.nb p.cb, .slice p.sa p.ns p.cs] 25)) 4 (.bool true)
        rwa [World.size_alloc, World.size_alloc] at this
      · have := ((Blk.new (w2.alloc (.cells #[(.slice (some ⟨w1.heap.size, 0, none⟩) 0 p.nb)] 23)) #[.slice p.ab p.nb p.cb, .slice p.sa p.ns p.cs] 25).alloc (.cells #[.bool true] 4)).cell (j := 0) (by simp)
        rwa [World.size_alloc] at this
    have HP : Hid (∀ W', Below (w.heap.size + 1) (w.alloc (.cells #[.slice p.ab p.nb p.cb, .slice p.sa p.ns p.cs] 25)) W' → BinsAt W' p.ab p.nb p.zb) := fun W' h => (hp.bins.below hB0).below (by rw [World.size_alloc]; exact h)
    rw [hW3]
    clear hB c0 c1 hown2 hgrow2 hW3
    refine wpIn_rangeFunc_ownG rfl (by decide) (gf := 113) (lb := #[.pointer (some ⟨w2.heap.size + 1, 0, none⟩), .pointer (some ⟨w2.heap.size + 1 + 1, 0, none⟩)]) rfl trivial (enters_of Tryz.func113 (by kernel_rfl) rfl)
      (binsOf_stops Fence.wide _ trivial rfl (by decide) (w2.heap.size + 1) (w2.heap.size + 1 + 1) (w.heap.size + 1) p true W3 (by omega) (by omega) (by omega) cP bF.cell leb capb0 (fun W' h => HP.out W' (hB3.trans h))) keepsB_t (keepsB_b (by omega) (by omega)) (Below.refl _ _) (fun _ => rfl)
      (fun pre W => (∃ v, _root_.Go.Boxed W w2.heap.size 23 v ∧ W.ownsRow (w.heap.size + 1) 3 1 v pre.length (pre.map (Value.int .i64)) ∧ True) ∧ _root_.Go.Boxed W (w2.heap.size + 1 + 1) 4 (.bool true) ∧ Below (w.heap.size + 1) (w.alloc (.cells #[.slice p.ab p.nb p.cb, .slice p.sa p.ns p.cs] 25)) W)
      (fun _ _ _ => False)
      (OwnFrom.and (Own.from (holdsRow_own (w.heap.size + 1) w2.heap.size 23 3 1 (fun pre : List Int => pre.length) (fun pre => pre.map (Value.int .i64)) (fun _ _ => True)) _) (OwnFrom.and (Own.from (boxed_own _ _ _) _) (ownFrom_below (by simp) (by omega))))
      (fun _ _ _ _ _ hs _ _ => hs)
      ⟨⟨_, bO, hrow0, trivial⟩, bF, hB3⟩
      (fun x => { tmps := #[.agg #[.slice p.ab p.nb p.cb, .slice p.sa p.ns p.cs], .pointer (some ⟨w.heap.size, 0, none⟩), .slice none 0 0, .int .i64 0, .int .i64 0, .pointer (some ⟨w2.heap.size, 0, none⟩), .int .i64 x, undef, .agg #[.slice p.ab p.nb p.cb, .slice p.sa p.ns p.cs], .int .i64 0, .int .i64 0, .bool false, undef, .pointer (some ⟨w.heap.size, 0, none⟩), .slice p.ab p.nb p.cb, .int .i64 p.nb, (.slice (some ⟨w1.heap.size, 0, none⟩) 0 p.nb), .agg #[.slice p.ab p.nb p.cb, .slice p.sa p.ns p.cs], .func (.func 113) #[] #[.pointer (some ⟨w2.heap.size + 1, 0, none⟩), .pointer (some ⟨w2.heap.size + 1 + 1, 0, none⟩)], .int .i64 x, undef, undef, undef, undef, undef, undef, undef, undef, undef, undef, undef, undef], defers := [] }) ?assign ?body ?done ?stop
    case assign =>
      intro l x W K hK
      gi_wp2
      exact hK
    case body =>
      rintro l pre x W ⟨⟨v, hv, hrow, -⟩, hbf, hBB⟩ hlt
      have hc := hv.cell
      gi_wp2_with (gi_at_builtin; refine wpListIn_append_own _ rfl _ _ 23 rfl (w.heap.size + 1) 3 i1 (.int .i64 0) 1 8 Tryz.underlying23 hj hy0 hy1 hy2 rfl (by decide) _ _ _ rfl (hrow.alloc _) ⟨W.heap.size, 0, none⟩ 1 1 [.int .i64 x] rfl rfl (cell_one_new _ _ _) (by simp [Value.oneCell']) (by unfold maxLen; omega) (by omega) (by have := hBB.size; simp at this ⊢; omega) ?_; intro v' w5 hown' hgrow _; obtain ⟨g', cap', rfl⟩ := ownsRow_succ hown'; obtain ⟨hv1, hv2, hr2, hk2, hb2⟩ := hv.appended (by decide) hrow (by have := hBB.size; simpa using this) hsz2 hown' hgrow; have hc1 := hv1.cell; have hf1 := hv1.frozen; have hF5 := (hbf.alloc _).kept hgrow (hbf.not_row (by decide) hrow))
      refine ⟨hk2.from _, ⟨hb2, fun u hu => ?_⟩, ⟨_, hv2, by simpa using hr2, trivial⟩, hF5.other (by omega) _, hBB.trans hb2⟩
      rw [hbf.cell] at hu
      cases hu
      exact (hF5.other (by omega) _).cell
    case done =>
      rintro D ys W4 hD rfl ⟨⟨v, hv, hrow, -⟩, -, hBB⟩ hK
      have c0 : W4.cell? ⟨w.heap.size, 0, none⟩ = some (.slice p.ab p.nb p.cb) := (hBB.cell (p := ⟨w.heap.size, 0, none⟩) (by simp)).trans (by simp)
      have c1 : W4.cell? ⟨w.heap.size, 1, none⟩ = some (.slice p.sa p.ns p.cs) := (hBB.cell (p := ⟨w.heap.size, 1, none⟩) (by simp)).trans (by simp)
      have hsz4 : w.heap.size < W4.heap.size := by have := hBB.size; simp at this; omega
      gi_wp2_with (refine ⟨trivial, ?_⟩; gi_at_call 92; refine (binsOf_in Fence.wide _ trivial rfl p false _).mono ?_; rintro e w' ⟨rfl, rfl⟩)
      have hsB := hv.lt
      obtain ⟨W5, hW5, s5, bO, hrow5, bF, cP, hB5, hK5⟩ : ∃ W5, (W4.alloc (.cells #[.slice p.ab p.nb p.cb, .slice p.sa p.ns p.cs] 25)).alloc (.cells #[.bool false] 4) = W5 ∧ W5.heap.size = W4.heap.size + 2 ∧ _root_.Go.Boxed W5 w2.heap.size 23 v ∧ W5.ownsRow (w.heap.size + 1) 3 1 v (frL p true p.nb).length ((frL p true p.nb).map (Value.int .i64)) ∧ _root_.Go.Boxed W5 (W4.heap.size + 1) 4 (.bool false) ∧ W5.cell? ⟨W4.heap.size, 0, none⟩ = some (.slice p.ab p.nb p.cb) ∧ Below (w.heap.size + 1) (w.alloc (.cells #[.slice p.ab p.nb p.cb, .slice p.sa p.ns p.cs] 25)) W5 ∧ W5.heap[D]? = some (.deferred (some [])) := by
        refine ⟨_, rfl, by simp, (hv.alloc _).alloc _, (hrow.alloc _).alloc _, ?_, ?_, (hBB.alloc (by omega) _).alloc (by simp; omega) _, ?_⟩
        · have := _root_.Go.Boxed.new (W4.alloc (.cells #[.slice p.ab p.nb p.cb, .slice p.sa p.ns p.cs] 25)) 4 (.bool false)
          rwa [World.size_alloc] at this
        · exact ((Blk.new W4 #[.slice p.ab p.nb p.cb, .slice p.sa p.ns p.cs] 25).alloc (.cells #[.bool false] 4)).cell (j := 0) (by simp)
        · have hD4 := (Array.getElem?_eq_some_iff.1 hK).1
          exact ((((Below.refl W4.heap.size W4).alloc (Nat.le_refl _) _).alloc (by simp) _).block D hD4).trans hK
      have hD4 := (Array.getElem?_eq_some_iff.1 hK).1
      have hfl := frL_two p p.nb
      rw [hW5]
      clear hv hrow hBB hK c0 c1 hW5 hB3
      refine wpIn_rangeFunc_ownG rfl (by decide) (gf := 113) (lb := #[.pointer (some ⟨W4.heap.size, 0, none⟩), .pointer (some ⟨W4.heap.size + 1, 0, none⟩)]) rfl trivial (enters_of Tryz.func113 (by kernel_rfl) rfl)
        (binsOf_stops Fence.wide _ trivial rfl (by decide) W4.heap.size (W4.heap.size + 1) (w.heap.size + 1) p false W5 (by omega) (by omega) (by omega) cP bF.cell leb capb0 (fun W' h => HP.out W' (hB5.trans h))) keepsB_t (keepsB_b (by omega) (by omega)) (Below.refl _ _) (fun _ => rfl)
        (fun pre W => (∃ v, _root_.Go.Boxed W w2.heap.size 23 v ∧ W.ownsRow (w.heap.size + 1) 3 1 v (frL p true p.nb ++ pre).length ((frL p true p.nb ++ pre).map (Value.int .i64)) ∧ True) ∧ _root_.Go.Boxed W (W4.heap.size + 1) 4 (.bool false) ∧ Below (w.heap.size + 1) (w.alloc (.cells #[.slice p.ab p.nb p.cb, .slice p.sa p.ns p.cs] 25)) W ∧ W.heap[D]? = some (.deferred (some [])))
        (fun _ _ _ => False)
        (OwnFrom.and (Own.from (holdsRow_own (w.heap.size + 1) w2.heap.size 23 3 1 (fun pre : List Int => (frL p true p.nb ++ pre).length) (fun pre => (frL p true p.nb ++ pre).map (Value.int .i64)) (fun _ _ => True)) _) (OwnFrom.and (Own.from (boxed_own _ _ _) _) (OwnFrom.and (ownFrom_below (by simp) (by omega)) (fun s A B row hs hg hr => (hg.block D (Array.getElem?_eq_some_iff.1 hs).1 (fun e => by have := (hr D e.symm).1; omega)).trans hs))))
        (fun _ _ _ _ _ hs _ _ => hs)
        ⟨⟨_, bO, by simpa using hrow5, trivial⟩, bF, hB5, hK5⟩
        (fun x => { tmps := #[.agg #[.slice p.ab p.nb p.cb, .slice p.sa p.ns p.cs], .pointer (some ⟨w.heap.size, 0, none⟩), .slice none 0 0, .int .i64 0, .int .i64 0, .pointer (some ⟨w2.heap.size, 0, none⟩), undef, .int .i64 x, .agg #[.slice p.ab p.nb p.cb, .slice p.sa p.ns p.cs], .int .i64 0, .int .i64 0, .bool false, undef, .pointer (some ⟨w.heap.size, 0, none⟩), .slice p.ab p.nb p.cb, .int .i64 p.nb, (.slice (some ⟨w1.heap.size, 0, none⟩) 0 p.nb), .agg #[.slice p.ab p.nb p.cb, .slice p.sa p.ns p.cs], .func (.func 113) #[] #[.pointer (some ⟨w2.heap.size + 1, 0, none⟩), .pointer (some ⟨w2.heap.size + 1 + 1, 0, none⟩)], undef, undef, undef, undef, undef, .agg #[.slice p.ab p.nb p.cb, .slice p.sa p.ns p.cs], .func (.func 113) #[] #[.pointer (some ⟨W4.heap.size, 0, none⟩), .pointer (some ⟨W4.heap.size + 1, 0, none⟩)], .int .i64 x, undef, undef, undef, undef, undef], defers := [] }) ?assign2 ?body2 ?done2 ?stop2
      case assign2 =>
        intro l x W K hK
        gi_wp2
        exact hK
      case body2 =>
        rintro l pre x W ⟨⟨v, hv, hrow, -⟩, hbf, hBB, hKD⟩ hlt
        have hc := hv.cell
        have hll : (frL p true p.nb ++ pre).length ≤ 2 * p.nb := by rw [List.length_append]; omega
        gi_wp2_with (gi_at_builtin; refine wpListIn_append_own _ rfl _ _ 23 rfl (w.heap.size + 1) 3 i1 (.int .i64 0) 1 8 Tryz.underlying23 hj hy0 hy1 hy2 rfl (by decide) _ _ _ rfl (hrow.alloc _) ⟨W.heap.size, 0, none⟩ 1 1 [.int .i64 x] rfl rfl (cell_one_new _ _ _) (by simp [Value.oneCell']) (by unfold maxLen; omega) (by omega) (by have := hBB.size; simp at this ⊢; omega) ?_; intro v' w5 hown' hgrow _; obtain ⟨g', cap', rfl⟩ := ownsRow_succ hown'; obtain ⟨hv1, hv2, hr2, hk2, hb2⟩ := hv.appended (by decide) hrow (by have := hBB.size; simpa using this) hsz2 hown' hgrow; have hc1 := hv1.cell; have hf1 := hv1.frozen; have hF5 := (hbf.alloc _).kept hgrow (hbf.not_row (by decide) hrow))
        simp only [List.length_append] at hv2 hr2 hk2 hb2
        refine ⟨hk2.from _, ⟨hb2, fun u hu => ?_⟩, ⟨_, hv2, by simpa [Nat.add_assoc] using hr2, trivial⟩, hF5.other (by omega) _, hBB.trans hb2, hk2.same D _ hKD rfl⟩
        rw [hbf.cell] at hu
        cases hu
        exact (hF5.other (by omega) _).cell
      case done2 =>
        rintro D2 ys W hD2 rfl ⟨⟨v, hv, hrow, -⟩, -, hBB, hK1⟩ hK2
        have hc := hv.cell
        gi_wp2
        refine ⟨by simp, .inl ⟨_, _, rfl, run_takeDeferred hK2, ?_⟩⟩
        have hne : D ≠ D2 := by omega
        have hK1' : (W.putObj D2 (.deferred none)).heap[D]? = some (.deferred (some [])) := ((grownBy_putObj' W D2 (.deferred none)).block D (Array.getElem?_eq_some_iff.1 hK1).1 (fun e => hne (by cases e; rfl))).trans hK1
        refine ⟨by simp, .inl ⟨_, _, rfl, run_takeDeferred hK1', ?_⟩⟩
        have hr2 := ownsRow_putObj (ownsRow_putObj hrow (.deferred none) hK2 rfl) (.deferred none) hK1' rfl
        have hb1 : Below (w.heap.size + 1) (w.alloc (.cells #[.slice p.ab p.nb p.cb, .slice p.sa p.ns p.cs] 25)) (W.putObj D2 (.deferred none)) := hBB.trans (belowK_b (w := W5) (by omega) W D2 _ _ hD2 hK2 rfl rfl)
        have hb2 := hb1.trans (belowK_b (w := W3) (by omega) (W.putObj D2 (.deferred none)) D _ (.deferred none) hD hK1' rfl rfl)
        rw [H0.out, wayR_yes H0.out]
        exact ⟨_, results_tmp2 rfl _ _ _, _, rfl, owns_low hr2 (Nat.le_succ _), hB0.trans (hb2.mono (by omega))⟩
      case stop2 =>
        rintro D c pre W _ _ h _
        exact h.elim
    case stop =>
      rintro D c pre W _ _ h _
      exact h.elim
  · gi_wp2_with (refine ⟨trivial, ?_⟩; gi_at_call 69; refine (callsIn_wide.2 (planCheck_any p _ (hp.below hB0))).mono ?_; rintro e w1 ⟨rfl, hB⟩)
    rw [wayR_no h0]
    exact ⟨_, results_tmp2 rfl _ _ _, _, rfl, World.ownsRow_nil _ _ _ _, hB0.trans (hB.mono (by simp))⟩
end Go.Proofs.YtbcacebifpagpadGreat
namespace Go.Proofs.YtbcacebifpagpadGreat
open Go.RowKit Go.Shelf Go.Sort
set_option linter.unusedVariables false
theorem Take1_any (B : Nat) (x but : Int) (w : World) (hB : B < w.heap.size) (c : w.cell? ⟨B, 0, none⟩ = some (.int .i64 but)) :
    Calls Tryz.prog 52 #[.int .i64 x, .pointer (some ⟨B, 0, none⟩)] w fun e w' => e = .returned (.bool (x == but)) ∧ Below w.heap.size w w' := by
  go_enter Tryz.func52, Tryz.ntmps52
  go_wp2_with fail
  go_ret
  exact ⟨rfl, Below.refl _ _⟩
def TakeInv (s : St) (o l : Nat) (n : Int) (av : Int → Int) (F : List Int) (A BX BL g k : Nat) (wk : World) : Prop :=
  ∃ x : St, Took s o l n (Tk.go av n (F.take k)) x ∧ OwnS A wk x ∧ Blk wk BX 31 7 (fun j => x.cells.getD j default) ∧ Blk wk g 3 F.length (fun j => .int .i64 (F.getD j 0)) ∧ (x.os.z o).ls.a = some ⟨BL, 0, none⟩
theorem take_more {F : List Int} {k : Nat} (hk : k < F.length) : F.take (k + 1) = F.take k ++ [F.getD k 0] := by
  rw [List.take_add_one]
  simp [List.getD, List.getElem?_eq_getElem hk]
theorem getD_mem {F : List Int} {k : Nat} (hk : k < F.length) : F.getD k 0 ∈ F := by
  simp [List.getD, List.getElem?_eq_getElem hk]
theorem avail_okA {p : Pl} {s : St} {b g : Nat} (h : stateE p s = 0) (hb : b < p.nb) (hg : g < p.ns) : availE p s b g = 0 ∧ availV p s b g = availZ s b g := by
  have e : availE p s b g = 0 := by unfold availE; rw [if_pos h, inB_mk (by omega), inB_mk (by omega)]; rfl
  exact ⟨e, by unfold availV; rw [if_pos e]; rfl⟩
theorem avail_bdA {p : Pl} {s : St} {b g : Nat} (r : RightT p s) (hb : b < p.nb) (hg : g < p.ns) : 0 ≤ availZ s b g ∧ availZ s b g ≤ 200 := by
  have f := r.fm
  refine ⟨(goods_no (r.goods g hg)).2 b hb, ?_⟩
  have h1 := f.sh.num b (by rw [f.sh.n]; exact hb) g hg
  have h2 := (heldTo_bd (s := s) (b := b) (g := g) f.holdN).1
  have h3 := (fromTo_bd (s := s) (b := b) (g := g) f.moveN).1
  unfold availZ
  omega
set_option maxRecDepth 100000 in
set_option maxHeartbeats 8000000 in
theorem Take_any (p : Pl) (s : St) (order line n but : Int) (w : World) (hp : p.At w) (hs : s.At w) :
    Calls Tryz.prog 17 #[p.val, s.val, .int .i64 order, .int .i64 line, .int .i64 n, .int .i64 but] w fun e w' => ∃ x : St, e = .returned (.tuple #[x.val, .int .i64 (allocL p s order line n but), .int .i64 (allocE p s order line n but)]) ∧ x.At w' ∧ AllocOK p s order line n but x ∧ (allocE p s order line n but = 0 → OwnS w.heap.size w' x) ∧ Below w.heap.size w w' := by
  obtain ⟨W0, hW, hWB, X0, K0, Z0⟩ : ∃ W, ((((w.alloc (.cells #[.slice p.ab p.nb p.cb, .slice p.sa p.ns p.cs] 25)).alloc (.cells s.cells 31)).alloc (.cells #[.int .i64 but] 3)).alloc (.cells #[.slice .none 0 0, .slice .none 0 0, .slice .none 0 0, .slice .none 0 0, .slice .none 0 0, .slice .none 0 0, .slice .none 0 0] 31)) = W ∧ Below w.heap.size w W ∧ Boxes W w.heap.size (w.heap.size + 1) p s ∧ Blk W (w.heap.size + 2) 3 1 (fun _ => .int .i64 but) ∧ Blk W (w.heap.size + 3) 31 7 (fun _ => .slice .none 0 0) :=
    ⟨_, rfl, ((two_below _ _ _).alloc (by simp; omega) _).alloc (by simp; omega) _, ((boxes_new w p s _ _).below ((Below.refl _ _).alloc (Nat.le_refl _) _)).below ((Below.refl _ _).alloc (Nat.le_refl _) _), ((Blk.mk' (cur := #[.int .i64 but]) (by simp) rfl).congr (fun j hj => by match j, hj with | 0, _ => rfl)).alloc _, (Blk.mk' (cur := #[.slice .none 0 0, .slice .none 0 0, .slice .none 0 0, .slice .none 0 0, .slice .none 0 0, .slice .none 0 0, .slice .none 0 0]) (by simp) rfl).congr (fun j hj => by match j, hj with | 0, _ => rfl | 1, _ => rfl | 2, _ => rfl | 3, _ => rfl | 4, _ => rfl | 5, _ => rfl | 6, _ => rfl)⟩
  have HC : Hid (∀ wk, Below W0.heap.size W0 wk → Boxes wk w.heap.size (w.heap.size + 1) p s ∧ p.At wk ∧ s.At wk ∧ Below w.heap.size w wk ∧ Blk wk (w.heap.size + 3) 31 7 (fun _ => .slice .none 0 0) ∧ Blk wk (w.heap.size + 2) 3 1 (fun _ => .int .i64 but)) := fun wk h => ⟨X0.below h, (hp.below hWB).below h, (hs.below hWB).below h, hWB.trans (h.mono hWB.size), Z0.below h, K0.below h⟩
  have HW : Hid ((((w.alloc (.cells #[.slice p.ab p.nb p.cb, .slice p.sa p.ns p.cs] 25)).alloc (.cells #[.slice s.on.a s.on.n s.on.c, .slice s.os.a s.os.n s.os.c, .slice s.hs.a s.hs.n s.hs.c, .slice s.ms.a s.ms.n s.ms.c, .slice s.si.a s.si.n s.si.c, .slice s.so.a s.so.n s.so.c, .slice s.sf.a s.sf.n s.sf.c] 31)).alloc (.cells #[.int .i64 but] 3)).alloc (.cells #[.slice .none 0 0, .slice .none 0 0, .slice .none 0 0, .slice .none 0 0, .slice .none 0 0, .slice .none 0 0, .slice .none 0 0] 31) = W0) := hW
  have leb := hp.leb
  have capb0 := hp.capb
  have capb := capb0
  have les := hp.les
  have caps := hp.caps
  have zlt0 := Z0.lt
  unfold maxLen at capb caps
  clear hW X0 Z0 K0 hp hs
  unfold Pl.val St.val
  go_enter Tryz.func17, Tryz.ntmps17
  go_wp2_with fail
  rw [HW.out]
  obtain ⟨X, hpk, hsk, hBw, hz, kb⟩ := HC.out W0 (Below.refl _ _)
  refine (allocCheck_any p s order line n but W0 hpk hsk).mono ?_
  rintro e w1 ⟨rfl, hB⟩
  clear X hpk hsk hBw hz kb HW
  obtain ⟨⟨⟨l1, d0, d1⟩, l2, c0, c1, c2, c3, c4, c5, c6⟩, hpk, hsk, hBw, hz, kb⟩ := HC.out w1 hB
  by_cases hE : allocE p s order line n but = 0
  · have HE : Hid (allocE p s order line n but = 0) := hE
    have HI : Hid (AllocIn p s order line n but) := allocIn hE
    rw [hE]
    clear hE
    have HRT : Hid (RightT p s) := rightT HI.out.st
    have HP0 : Hid (planE p = 0) := (rightS HRT.out.fm.sh0).1
    obtain ⟨o, rfl⟩ := Int.eq_ofNat_of_zero_le HI.out.o0
    obtain ⟨l, rfl⟩ := Int.eq_ofNat_of_zero_le HI.out.l0
    have ho : o < s.os.n := HI.out.on
    have hl : l < (s.os.z o).ls.n := HI.out.ln
    have nb1 := HRT.out.fm.sh.pl.nb1
    have nb6 := HRT.out.fm.sh.pl.nb6
    have HPK : Hid (p.At w1) := hpk
    clear hpk hsk c0 c1 c2 c3 c4 c5 c6 hBw hz
    go_wp2_with fail
    refine (WayOwn_any p w1 HPK.out).mono ?_
    rintro e w2 ⟨v, rfl, hown, hB2⟩
    clear l1 d0 d1 l2 HPK
    rw [wayR_yes HP0.out] at hown
    have HWL : Hid ((wayL p).length = p.nb) := way_len p
    have hv : v ≠ .slice none 0 0 := by
      rintro rfl
      rcases hown.2 with ⟨_, h0⟩ | ⟨g2, cap2, cur2, h, _⟩
      · have := HWL.out; omega
      · cases h
    obtain ⟨g, c, rfl, hc1, hc2, hg, hk⟩ := Blk.ofOwns hown hv
    have hk2 : Blk w2 g 3 (wayL p).length (fun j => .int .i64 ((wayL p).getD j 0)) := by
      have h := hk.less (m := (wayL p).length) (by omega)
      refine h.congr fun j hj => ?_
      simp [List.getD, List.getElem?_eq_getElem hj]
    have HDF : Hid (Calls Tryz.prog 51 #[.slice (some ⟨g, 0, none⟩) (wayL p).length c, .func (.func 52) #[] #[.pointer (some ⟨w.heap.size + 1 + 1, 0, none⟩)]] w2 fun e w' => e = .returned (.slice (some ⟨g, 0, none⟩) (wayT p but).length c) ∧ Blk w' g 3 (wayT p but).length (fun j => .int .i64 ((wayT p but).getD j 0)) ∧ Below w1.heap.size w2 w') :=
      DelI_any 52 #[.pointer (some ⟨w.heap.size + 1 + 1, 0, none⟩)] (fun x => x == but) w1.heap.size g c (wayL p) w2 hg hB2.size hc1 hc2 hk2 (enters_of Tryz.func52 (by kernel_rfl) rfl) (fun x wz hz => by
        have hlt := kb.lt
        exact Take1_any (w.heap.size + 1 + 1) x but wz (Nat.lt_of_lt_of_le hlt (Nat.le_trans hB2.size hz.size)) ((hz.cell (p := ⟨w.heap.size + 2, 0, none⟩) hlt).trans ((hB2.cell (p := ⟨w.heap.size + 2, 0, none⟩) hlt).trans (kb.cell (j := 0) (by decide)))))
    rw [HP0.out]
    clear hown hv hk hk2
    go_wp2_with fail
    refine HDF.out.mono ?_
    rintro e w3 ⟨rfl, hk3, hB3⟩
    have hB13 := hB2.trans hB3
    have hB' := hB.trans (hB13.mono hB.size)
    have q13 := hB13.size
    have glt := hk3.lt
    have HK3 : Hid (Blk w3 g 3 (wayT p but).length (fun j => .int .i64 ((wayT p but).getD j 0))) := hk3
    have hF6 : (wayT p but).length ≤ 6 := by
      have := HWL.out
      have := List.length_filter_le (fun b => !(b == but)) (wayL p)
      unfold wayT
      omega
    have hFc : (wayT p but).length ≤ c := by
      have := List.length_filter_le (fun b => !(b == but)) (wayL p)
      unfold wayT
      omega
    clear HDF hk3 kb hB2 hB3 hB13 hB
    obtain ⟨⟨⟨l1, d0, d1⟩, l2, c0, c1, c2, c3, c4, c5, c6⟩, hpk, hsk, hBw, hz, kb⟩ := HC.out w3 hB'
    have HCS : Hid _ := copyState_any p s w3 hsk HRT.out.fm
    clear hpk hsk hBw hz kb
    go_wp2_with fail
    refine Calls.mono HCS.out ?_
    rintro e w4 ⟨x0, rfl, hsame, hown, hB4⟩
    clear HCS l1 d0 d1 l2 c0 c1 c2 c3 c4 c5 c6
    have q4 := hB4.size
    obtain ⟨W5, hW5, hWB5, K5⟩ : ∃ W, w4.alloc (.cells #[.slice x0.on.a x0.on.n x0.on.c, .slice x0.os.a x0.os.n x0.os.c, .slice x0.hs.a x0.hs.n x0.hs.c, .slice x0.ms.a x0.ms.n x0.ms.c, .slice x0.si.a x0.si.n x0.si.c, .slice x0.so.a x0.so.n x0.so.c, .slice x0.sf.a x0.sf.n x0.sf.c] 31) = W ∧ Below w4.heap.size w4 W ∧ Blk W w4.heap.size 31 7 (fun j => x0.cells.getD j default) := ⟨_, rfl, (Below.refl _ _).alloc (Nat.le_refl _) _, Blk.mk' rfl rfl⟩
    have HW5 : Hid (w4.alloc (.cells #[.slice x0.on.a x0.on.n x0.on.c, .slice x0.os.a x0.os.n x0.os.c, .slice x0.hs.a x0.hs.n x0.hs.c, .slice x0.ms.a x0.ms.n x0.ms.c, .slice x0.si.a x0.si.n x0.si.c, .slice x0.so.a x0.so.n x0.so.c, .slice x0.sf.a x0.sf.n x0.sf.c] 31) = W5) := hW5
    have hB35 := hB4.trans (hWB5.mono hB4.size)
    have hB5 := hB'.trans (hB35.mono hB'.size)
    have hown5 := OwnS.below hown hWB5
    have hkF := HK3.out.below hB35
    have ho0 : o < x0.os.n := by rw [hsame.os.1]; exact ho
    have e0 := hsame.os.2 o ho0
    have hl0 : l < (x0.os.z o).ls.n := by rw [e0.2.1]; exact hl
    obtain ⟨gO, BL, f1, f2, f3, f4, f5, f6, f7, f8, f9, f10, f11, f12, f13, f14⟩ := hown5.lineCell ho0 hl0
    have s1 : W5.cell? ⟨w4.heap.size, 1, none⟩ = some (.slice x0.os.a x0.os.n x0.os.c) := K5.cell (j := 1) (by decide)
    have s2 := K5.lt
    have v1 := hown5.os.le
    have v2 := hown5.os.cap
    rw [f1] at s1
    have HINV : Hid (TakeInv s o l n (fun b => availZ s b.toNat (lineAt s o l).o.toNat) (wayT p but) w3.heap.size w4.heap.size BL g 0 W5) := ⟨x0, by rw [List.take_zero]; exact Took.start HRT.out.fm.hold hsame, hown5, K5, hkF, f5⟩
    have qo : (0 : Int) ≤ (o : Int) := by omega
    have ql : (0 : Int) ≤ (l : Int) := by omega
    have HB5 : Hid (Below W0.heap.size W0 W5 ∧ W0.heap.size ≤ w3.heap.size ∧ w3.heap.size ≤ w4.heap.size ∧ g < w3.heap.size ∧ w3.heap.size ≤ BL) := ⟨hB5, hB'.size, q4, glt, f6⟩
    rw [← HW5.out] at s1 s2 f3 f4 f7
    unfold maxLen at v2 f9
    clear hW5 hown hown5 hkF K5 hB4 hWB5 hB35 hB5 f1 f2 f5 f6 f10 f11 f12 f13 f14 e0 hsame HK3
    simp only [St.val]
    go_wp2_with fail
    rw [HW5.out]
    clear s1 s2 f3 f4 f7 HW5 hB' q4 q13 glt v1 v2 f8 f9
    generalize x0.os.n = XN at *
    go_loopw [4, 56] (fun nv kv wk => ∃ k : Nat, k ≤ (wayT p but).length ∧ kv = .int .i64 k ∧ nv = .int .i64 (Tk.go (fun b => availZ s b.toNat (lineAt s o l).o.toNat) n ((wayT p but).take k)).left ∧ Hid (TakeInv s o l n (fun b => availZ s b.toNat (lineAt s o l).o.toNat) (wayT p but) w3.heap.size w4.heap.size BL g k wk) ∧ Hid (Below W0.heap.size W0 wk)) (fun _ kv _ => (wayT p but).length - (intOf kv).toNat)
    case atStart => exact ⟨0, Nat.zero_le _, rfl, rfl, HINV, HB5.out.1⟩
    case round =>
      clear HINV
      obtain ⟨k, hk, rfl, rfl, HV, HBk⟩ := hrel
      have HTK : Hid (TkOK (fun b => availZ s b.toNat (lineAt s o l).o.toNat) n ((wayT p but).take k) (Tk.go (fun b => availZ s b.toNat (lineAt s o l).o.toNat) n ((wayT p but).take k))) := HI.out.tk ((wayT_apart p but).sublist (List.take_sublist _ _)) (fun x hx => HI.out.way x (List.mem_of_mem_take hx))
      have H31EP : Hid (k < (wayT p but).length → Tk.go (fun b => availZ s b.toNat (lineAt s o l).o.toNat) n ((wayT p but).take (k + 1)) = (Tk.go (fun b => availZ s b.toNat (lineAt s o l).o.toNat) n ((wayT p but).take k)).step (fun b => availZ s b.toNat (lineAt s o l).o.toNat) ((wayT p but).getD k 0)) := fun h => by rw [take_more h, Tk.go_more]
      have HEND : Hid (k = (wayT p but).length → Tk.go (fun b => availZ s b.toNat (lineAt s o l).o.toNat) n ((wayT p but).take k) = tkOf p s (lineAt s o l).o n but) := fun h => by rw [h, List.take_length]; rfl
      obtain ⟨x, hT, hO, hK, hF, hla⟩ := HV.out
      have HX : Hid (Took s o l n (Tk.go (fun b => availZ s b.toNat (lineAt s o l).o.toNat) n ((wayT p but).take k)) x ∧ OwnS w3.heap.size wr x ∧ Blk wr w4.heap.size 31 7 (fun j => x.cells.getD j default) ∧ Blk wr g 3 (wayT p but).length (fun j => .int .i64 ((wayT p but).getD j 0)) ∧ (x.os.z o).ls.a = some ⟨BL, 0, none⟩) := ⟨hT, hO, hK, hF, hla⟩
      obtain ⟨T, hTd⟩ : ∃ T, Tk.go (fun b => availZ s b.toNat (lineAt s o l).o.toNat) n ((wayT p but).take k) = T := ⟨_, rfl⟩
      rw [hTd] at HTK H31EP HEND HX ⊢
      clear hT hO hK hF hla HV hTd
      have tl0 := HTK.out.left0
      have tln := HTK.out.leftn
      have nn2 := HI.out.n2
      by_cases hlt : k < (wayT p but).length
      · have HS1 : Hid _ := H31EP.out hlt
        obtain ⟨hbm0, hbm1⟩ := HI.out.way _ (getD_mem hlt)
        have z0 := HX.out.2.2.2.1.cell (j := k) hlt
        have z1 := HX.out.2.2.2.1.lt
        obtain ⟨bv, hbv⟩ := Int.eq_ofNat_of_zero_le hbm0
        have HBV : Hid ((wayT p but).getD k 0 = (bv : Int)) := hbv
        rw [hbv] at z0 hbm1
        have hbvn : bv < p.nb := by omega
        have hgd := HI.out.good
        obtain ⟨gd, hgv⟩ := Int.eq_ofNat_of_zero_le hgd.1
        have HGV : Hid ((lineAt s o l).o = (gd : Int)) := hgv
        have hgdn : gd < p.ns := by omega
        have HAVL : Hid (∀ w', p.At w' → s.At w' → Calls Tryz.prog 53 #[p.val, s.val, .int .i64 (bv : Int), .int .i64 (gd : Int)] w' fun e w'' => e = .returned (.tuple #[.int .i64 (availZ s bv gd), .int .i64 0]) ∧ Below w'.heap.size w' w'') := fun w' h1 h2 => by
          have h := Avail_any p s bv gd w' h1 h2
          rw [(avail_okA HI.out.st hbvn hgdn).1, (avail_okA HI.out.st hbvn hgdn).2] at h
          exact h
        have avb := avail_bdA HRT.out hbvn hgdn
        have HAV : Hid ((fun b : Int => availZ s b.toNat (lineAt s o l).o.toNat) ((wayT p but).getD k 0) = availZ s bv gd) := by
          show availZ s ((wayT p but).getD k 0).toNat (lineAt s o l).o.toNat = _
          rw [hbv, hgv]
          rfl
        generalize hAVd : availZ s bv gd = AV at *
        clear hAVd
        have ho1 : o < x.os.n := by rw [HX.out.1.os.1]; exact ho
        have ex := HX.out.1.os.2 o ho1
        have hl1 : l < (x.os.z o).ls.n := by rw [ex.2.1]; exact hl
        obtain ⟨gO, BL', f1, f2, f3, f4, f5, f6, f7, f8, f9, f10, f11, f12, f13, f14⟩ := HX.out.2.1.lineCell ho1 hl1
        rw [HX.out.2.2.2.2] at f5
        simp only [Option.some.injEq, Addr.mk.injEq, and_true] at f5
        subst f5
        have hgx : ((x.os.z o).ls.z l).o = (gd : Int) := by
          rw [ex.2.2 l hl1, if_pos ⟨rfl, rfl⟩]
          exact hgv
        have hbx : ((x.os.z o).ls.z l).n = (lineAt s o l).n - (n - T.left) := by
          rw [ex.2.2 l hl1, if_pos ⟨rfl, rfl⟩]
          rfl
        have HBX : Hid (((x.os.z o).ls.z l).n = (lineAt s o l).n - (n - T.left)) := hbx
        have hbl := badLine_no (HRT.out.fm.line o ho l hl)
        have hbk0 : -1000 ≤ ((x.os.z o).ls.z l).n ∧ ((x.os.z o).ls.z l).n ≤ 1000 := by
          rw [hbx]
          have h1 : (lineAt s o l).n = ((s.os.z o).ls.z l).n := rfl
          rw [h1]
          omega
        rw [hgx] at f11
        obtain ⟨⟨⟨l1, d0, d1⟩, l2, c0, c1, c2, c3, c4, c5, c6⟩, hpk, hsk, hBw, hz, kb⟩ := HC.out wr HBk.out
        have HPS : Hid (p.At wr ∧ s.At wr) := ⟨hpk, hsk⟩
        have r0 : ∀ d os, (grow (redrawn wr d) os).cell? ⟨w.heap.size, 0, none⟩ = some (.slice p.ab p.nb p.cb) := fun d os => cell_regrown d0 d os
        have r1 : ∀ d os, (grow (redrawn wr d) os).cell? ⟨w.heap.size, 1, none⟩ = some (.slice p.sa p.ns p.cs) := fun d os => cell_regrown d1 d os
        have rs0 : ∀ d os, (grow (redrawn wr d) os).cell? ⟨w.heap.size + 1, 0, none⟩ = some (.slice s.on.a s.on.n s.on.c) := fun d os => cell_regrown c0 d os
        have rs1 : ∀ d os, (grow (redrawn wr d) os).cell? ⟨w.heap.size + 1, 1, none⟩ = some (.slice s.os.a s.os.n s.os.c) := fun d os => cell_regrown c1 d os
        have rs2 : ∀ d os, (grow (redrawn wr d) os).cell? ⟨w.heap.size + 1, 2, none⟩ = some (.slice s.hs.a s.hs.n s.hs.c) := fun d os => cell_regrown c2 d os
        have rs3 : ∀ d os, (grow (redrawn wr d) os).cell? ⟨w.heap.size + 1, 3, none⟩ = some (.slice s.ms.a s.ms.n s.ms.c) := fun d os => cell_regrown c3 d os
        have rs4 : ∀ d os, (grow (redrawn wr d) os).cell? ⟨w.heap.size + 1, 4, none⟩ = some (.slice s.si.a s.si.n s.si.c) := fun d os => cell_regrown c4 d os
        have rs5 : ∀ d os, (grow (redrawn wr d) os).cell? ⟨w.heap.size + 1, 5, none⟩ = some (.slice s.so.a s.so.n s.so.c) := fun d os => cell_regrown c5 d os
        have rs6 : ∀ d os, (grow (redrawn wr d) os).cell? ⟨w.heap.size + 1, 6, none⟩ = some (.slice s.sf.a s.sf.n s.sf.c) := fun d os => cell_regrown c6 d os
        have rl : ∀ d os, (grow (redrawn wr d) os).cell? ⟨BL, l * 4, none⟩ = some (.int .i64 (gd : Int)) := fun d os => cell_regrown f11 d os
        clear hbv hgv hgd hpk hsk hBw hz kb d0 d1 c0 c1 c2 c3 c4 c5 c6 l1 l2 f1 f2 f3 f4 f6 f8 f9 f10 f11 f12 f13 f14 ex hgx hbx hbl HEND hbm0 hbm1
        obtain ⟨BK, hBK⟩ : ∃ BK, ((x.os.z o).ls.z l).n = BK := ⟨_, rfl⟩
        have HBK : Hid (((x.os.z o).ls.z l).n = BK) := hBK
        rw [hBK] at hbk0
        clear hBK
        obtain ⟨N, hN⟩ : ∃ N, T.left = N := ⟨_, rfl⟩
        have HN : Hid (T.left = N) := hN
        rw [hN] at tl0 tln ⊢
        clear hN
        have q0 : (0 : Int) ≤ (k : Int) := by omega
        have HMZ : Hid (∀ m, min N AV = m → min T.left ((fun b : Int => availZ s b.toNat (lineAt s o l).o.toNat) ((wayT p but).getD k 0)) = m) := fun m h => by rw [HAV.out, HN.out]; exact h
        go_wp2_with fail
        refine wp_region_quiet_below (by kernel_rfl) (by kernel_rfl) ?_
        repeat (go_big_quiet_step ((go_at_call 53; exact Calls.regrown_of (HAVL.out _ (HPS.out.1.below (below_regrown _ _ _)) (HPS.out.2.below (below_regrown _ _ _))))))
        refine wpQuiet_nil ?_
        intro w9 hw9
        have hB9 : Below wr.heap.size wr w9 := by obtain ⟨⟨dq, osq⟩, hw''⟩ := hw9; subst hw''; exact below_regrown _ _ _
        clear hw9 r0 r1 rs0 rs1 rs2 rs3 rs4 rs5 rs6 rl HPS z0 z1 HAVL
        have HBk9 : Hid (Below W0.heap.size W0 w9) := HBk.out.trans (hB9.mono HBk.out.size)
        have HX9 : Hid (Took s o l n T x ∧ OwnS w3.heap.size w9 x ∧ Blk w9 w4.heap.size 31 7 (fun j => x.cells.getD j default) ∧ Blk w9 g 3 (wayT p but).length (fun j => .int .i64 ((wayT p but).getD j 0)) ∧ (x.os.z o).ls.a = some ⟨BL, 0, none⟩) := ⟨HX.out.1, OwnS.below HX.out.2.1 hB9, HX.out.2.2.1.below hB9, HX.out.2.2.2.1.below hB9, HX.out.2.2.2.2⟩
        clear hB9 HX HBk f7
        by_cases hm0 : min AV N = 0
        · have hm1 : min N AV = 0 := by omega
          have HNX : Hid (TakeInv s o l n (fun b => availZ s b.toNat (lineAt s o l).o.toNat) (wayT p but) w3.heap.size w4.heap.size BL g (k + 1) w9 ∧ (Tk.go (fun b => availZ s b.toNat (lineAt s o l).o.toNat) n ((wayT p but).take (k + 1))).left = N) := by
            refine ⟨⟨x, ?_, HX9.out.2⟩, ?_⟩
            · rw [HS1.out]
              exact HX9.out.1.stepZero (HMZ.out 0 hm1)
            · rw [HS1.out]
              show T.left - min T.left _ = N
              rw [HMZ.out 0 hm1, HN.out]
              omega
          go_wp2_with fail
          go_roundw
          case rel => exact ⟨k + 1, by omega, by go_num, by rw [HNX.out.2], HNX.out.1, HBk9⟩
          case measure => simp [intOf]; omega
        · obtain ⟨MV, hMV⟩ : ∃ MV, min AV N = MV := ⟨_, rfl⟩
          have HMV : Hid (min AV N = MV) := hMV
          have mv0 : 0 < MV := by omega
          have mv1 : MV ≤ N := by omega
          have mvd : (MV == 0) = false := by simp; omega
          have HM1 : Hid (min N AV = MV) := by show min N AV = MV; omega
          have HAE : Hid (addE x.hs.n x.hs.z (tookH o l bv MV) = 0) := by
            have h := HX9.out.1.addE (p := p) (order := o) (line := l) (but := but) HI.out (fun x hx => HI.out.way x (List.mem_of_mem_take hx)) HTK.out (b := (bv : Int)) ⟨by omega, by omega⟩ mv0 (by rw [HN.out]; exact mv1)
            exact h
          have KX := HX9.out.2.2.1
          have y2 : w9.cell? ⟨w4.heap.size, 2, none⟩ = some (.slice x.hs.a x.hs.n x.hs.c) := KX.cell (j := 2) (by decide)
          have y3 := KX.lt
          have HAD : Hid (Calls Tryz.prog 54 #[.slice x.hs.a x.hs.n x.hs.c, .agg #[.int .i64 (o : Int), .int .i64 (l : Int), .int .i64 (bv : Int), .int .i64 MV]] w9 fun e w' => ∃ s' : Hs, e = .returned (.tuple #[s'.val, .int .i64 0]) ∧ OwnH w9.heap.size 55 w' s' ∧ AddOK x.hs.n x.hs.z (tookH o l bv MV) s' ∧ Below w9.heap.size w9 w') := by
            have h := AddOwn_any x.hs (tookH o l bv MV) w9 HX9.out.2.1.hs.at
            rw [HAE.out] at h
            exact h
          clear KX hm0 HMV
          go_wp2_with fail
          refine HAD.out.mono ?_
          rintro e wa ⟨y, rfl, yown, yok, hBa⟩
          clear y2 y3 HAD hMV
          have q9 := HBk9.out.size
          have qa := hBa.size
          obtain ⟨b1, b2, b3, b4, b5⟩ := HB5.out
          have hOa := OwnS.below HX9.out.2.1 hBa
          have KA := HX9.out.2.2.1.below hBa
          have FA := HX9.out.2.2.2.1.below hBa
          have hBka := HBk9.out.trans (hBa.mono HBk9.out.size)
          have hlt9 := HX9.out.2.2.1.lt
          have ho1 : o < x.os.n := by rw [HX9.out.1.os.1]; exact ho
          have hOb := (hOa.withHolds (yown.mono (by omega))).box KA 2 (.slice y.a y.n y.c)
          have KB := KA.set 2 (.slice y.a y.n y.c)
          have FB := FA.other (a := ⟨w4.heap.size, 2, none⟩) (Blk.ne2 FA KA (by decide)) (.slice y.a y.n y.c)
          have hBb := hBka.setCell (p := ⟨w4.heap.size, 2, none⟩) (by show W0.heap.size ≤ w4.heap.size; omega) (.slice y.a y.n y.c)
          have hl1 : l < (x.os.z o).ls.n := by rw [(HX9.out.1.os.2 o ho1).2.1]; exact hl
          obtain ⟨gO, BL', f1, f2, f3, f4, f5, f6, f7, f8, f9, f10, f11, f12, f13, f14⟩ := hOb.lineCell (o := o) (l := l) ho1 hl1
          have f5' : (x.os.z o).ls.a = some ⟨BL', 0, none⟩ := f5
          rw [HX9.out.2.2.2.2] at f5'
          simp only [Option.some.injEq, Addr.mk.injEq, and_true] at f5'
          subst f5'
          have f14' : (wa.setCell ⟨w4.heap.size, 2, none⟩ (.slice y.a y.n y.c)).cell? ⟨BL, l * 4 + 3, none⟩ = some (.int .i64 ((x.os.z o).ls.z l).n) := f14
          rw [HBK.out] at f14'
          have g14 := f10 (l * 4 + 3)
          obtain ⟨B', hla', -, -, -, hlb⟩ := hOb.os.lines o ho1
          rw [f5] at hla'
          simp only [Option.some.injEq, Addr.mk.injEq, and_true] at hla'
          subst hla'
          have hOc := hOb.setLine (o := o) ho1 f5 l 3 (by decide) (BK - MV)
          have KC := KB.other (a := ⟨BL, l * 4 + 3, none⟩) (Blk.ne2 KB hlb (by decide)) (.int .i64 (BK - MV))
          have FC := FB.other (a := ⟨BL, l * 4 + 3, none⟩) (Blk.ne2 FB hlb (by decide)) (.int .i64 (BK - MV))
          have hBc := hBb.setCell (p := ⟨BL, l * 4 + 3, none⟩) (by show W0.heap.size ≤ BL; omega) (.int .i64 (BK - MV))
          have hTn := HX9.out.1.stepAdd (av := fun b => availZ s b.toNat (lineAt s o l).o.toNat) (order := o) (line := l) (b := (wayT p but).getD k 0) (m := MV) ho hl (HMZ.out MV HM1.out) (by rw [HBV.out]; exact HAE.out) (by rw [HBV.out]; exact yok)
          have HNX : Hid (TakeInv s o l n (fun b => availZ s b.toNat (lineAt s o l).o.toNat) (wayT p but) w3.heap.size w4.heap.size BL g (k + 1) ((wa.setCell ⟨w4.heap.size, 2, none⟩ (.slice y.a y.n y.c)).setCell ⟨BL, l * 4 + 3, none⟩ (.int .i64 (BK - MV))) ∧ (Tk.go (fun b => availZ s b.toNat (lineAt s o l).o.toNat) n ((wayT p but).take (k + 1))).left = N - MV ∧ Below W0.heap.size W0 ((wa.setCell ⟨w4.heap.size, 2, none⟩ (.slice y.a y.n y.c)).setCell ⟨BL, l * 4 + 3, none⟩ (.int .i64 (BK - MV)))) := by
            refine ⟨⟨withHolds (setLine x o l 3 (BK - MV)) y, ?_, hOc, KC.congr (fun j hj => by match j, hj with | 0, _ => rfl | 1, _ => rfl | 2, _ => rfl | 3, _ => rfl | 4, _ => rfl | 5, _ => rfl | 6, _ => rfl), FC, ?_⟩, ?_, hBc⟩
            · rw [HS1.out]
              have h := hTn
              rw [show ((x.os.z ((o : Nat) : Int).toNat).ls.z ((l : Nat) : Int).toNat).n = BK from HBK.out] at h
              exact h
            · exact ((setLine_n (s := x) (o := o) (l := l) (c := 3) (v := BK - MV) o).2.1).trans HX9.out.2.2.2.2
            · rw [HS1.out]
              show T.left - min T.left _ = N - MV
              rw [HMZ.out MV HM1.out, HN.out]
          have z1 := KA.lt
          have z2 := KA.frozen 2
          have z3 := KA.cell (j := 2) (by decide)
          clear hOa KA FA hBka hOb KB FB hBb f1 f2 f3 f4 f5 f6 f8 f9 f10 f11 f12 f13 f14 hlb hOc KC FC hBc hTn yown yok hBa HX9 HBk9 HTK HS1
          simp only [Hs.val]
          go_wp2_with fail
          go_roundw
          case rel => exact ⟨k + 1, by omega, by go_num, by rw [HNX.out.2.1], HNX.out.1, HNX.out.2.2⟩
          case measure => simp [intOf]; omega
      · have hkn : k = (wayT p but).length := by omega
        have HT : Hid (T = tkOf p s (lineAt s o l).o n but) := HEND.out hkn
        clear HEND
        have KX := HX.out.2.2.1
        obtain ⟨m1, p0, p1, p2, p3, p4, p5, p6⟩ := Boxed.of KX
        obtain ⟨-, -, -, hBw, hz, -⟩ := HC.out wr HBk.out
        have HZ : Hid (Below w.heap.size w wr ∧ Blk wr (w.heap.size + 3) 31 7 (fun _ => .slice .none 0 0)) := ⟨hBw, hz⟩
        have zl := hz.lt
        have zf0 := hz.frozen 0
        have zc0 := hz.cell (j := 0) (by decide)
        have zf1 := hz.frozen 1
        have zc1 := hz.cell (j := 1) (by decide)
        have zf2 := hz.frozen 2
        have zc2 := hz.cell (j := 2) (by decide)
        have zf3 := hz.frozen 3
        have zc3 := hz.cell (j := 3) (by decide)
        have zf4 := hz.frozen 4
        have zc4 := hz.cell (j := 4) (by decide)
        have zf5 := hz.frozen 5
        have zc5 := hz.cell (j := 5) (by decide)
        have zf6 := hz.frozen 6
        have zc6 := hz.cell (j := 6) (by decide)
        clear KX hBw hz
        go_wp2_with fail
        have KZ := set7_blk HZ.out.2 (.slice x.on.a x.on.n x.on.c) (.slice x.os.a x.os.n x.os.c) (.slice x.hs.a x.hs.n x.hs.c) (.slice x.ms.a x.ms.n x.ms.c) (.slice x.si.a x.si.n x.si.c) (.slice x.so.a x.so.n x.so.c) (.slice x.sf.a x.sf.n x.sf.c)
        have hbz := set7_below (b := w.heap.size + 3) HZ.out.1 (by omega) (.slice x.on.a x.on.n x.on.c) (.slice x.os.a x.os.n x.os.c) (.slice x.hs.a x.hs.n x.hs.c) (.slice x.ms.a x.ms.n x.ms.c) (.slice x.si.a x.si.n x.si.c) (.slice x.so.a x.so.n x.so.c) (.slice x.sf.a x.sf.n x.sf.c)
        have hOz := OwnS.set7 HX.out.2.1 HZ.out.2 (.slice x.on.a x.on.n x.on.c) (.slice x.os.a x.os.n x.os.c) (.slice x.hs.a x.hs.n x.hs.c) (.slice x.ms.a x.ms.n x.ms.c) (.slice x.si.a x.si.n x.si.c) (.slice x.so.a x.so.n x.so.c) (.slice x.sf.a x.sf.n x.sf.c)
        unfold set7 at KZ hbz hOz
        obtain ⟨c0', c1', c2', c3', c4', c5', c6'⟩ := box_cells KZ
        refine bodyPost_ret (v := .tuple #[x.val, .int .i64 T.left, .int .i64 0]) (by simp [results, Tryz.results17, go_sem, St.val, c0', c1', c2', c3', c4', c5', c6']) rfl ?_
        have HL : allocL p s o l n but = T.left := by rw [HT.out]; exact if_pos HE.out
        refine ⟨x, by rw [HL, HE.out]; rfl, hOz.at, ⟨fun _ => ?_, fun h => absurd HE.out h⟩, fun _ => hOz.mono ?_, hbz⟩
        · rw [← HT.out]; exact HX.out.1
        · have := (HC.out _ HB5.out.1).2.2.2.1.size
          have := HB5.out.2.1
          omega
  · have HX : Hid (allocL p s order line n but = 0) := if_neg hE
    clear c0 c1 c2 c3 c4 c5 c6 hpk hsk kb
    have zl := hz.lt
    have zf0 := hz.frozen 0
    have zc0 := hz.cell (j := 0) (by decide)
    have zf1 := hz.frozen 1
    have zc1 := hz.cell (j := 1) (by decide)
    have zf2 := hz.frozen 2
    have zc2 := hz.cell (j := 2) (by decide)
    have zf3 := hz.frozen 3
    have zc3 := hz.cell (j := 3) (by decide)
    have zf4 := hz.frozen 4
    have zc4 := hz.cell (j := 4) (by decide)
    have zf5 := hz.frozen 5
    have zc5 := hz.cell (j := 5) (by decide)
    have zf6 := hz.frozen 6
    have zc6 := hz.cell (j := 6) (by decide)
    go_wp2_with fail
    have KZ := set7_blk hz (.slice .none 0 0) (.slice .none 0 0) (.slice .none 0 0) (.slice .none 0 0) (.slice .none 0 0) (.slice .none 0 0) (.slice .none 0 0)
    have hbz := set7_below (b := w.heap.size + 3) hBw (by omega) (.slice .none 0 0) (.slice .none 0 0) (.slice .none 0 0) (.slice .none 0 0) (.slice .none 0 0) (.slice .none 0 0) (.slice .none 0 0)
    unfold set7 at KZ hbz
    obtain ⟨c0', c1', c2', c3', c4', c5', c6'⟩ := box_cells KZ
    refine bodyPost_ret (v := .tuple #[noneS.val, .int .i64 0, .int .i64 (allocE p s order line n but)]) (by simp [results, Tryz.results17, go_sem, noneS, St.val, c0', c1', c2', c3', c4', c5', c6']) rfl ?_
    exact ⟨noneS, by rw [HX.out]; rfl, noneS_at _, ⟨fun h => absurd h hE, fun _ => ⟨rfl, rfl, rfl, rfl, rfl, rfl, rfl⟩⟩, fun h => absurd h hE, hbz⟩
end Go.Proofs.YtbcacebifpagpadGreat
namespace Go.Proofs.YtbcacebifpagpadGreat
open Go.RowKit Go.Shelf Go.Sort
set_option linter.unusedVariables false
theorem allGot1_any (x : Hd) (w : World) :
    Calls Tryz.prog 67 #[x.val] w fun e w' => e = .returned (.bool (lacksL x)) ∧ Below w.heap.size w w' := by
  have hB2 := (Below.refl w.heap.size w).alloc (Nat.le_refl _) (.cells #[.int .i64 x.o, .int .i64 x.l, .int .i64 x.b, .int .i64 x.n] 49)
  unfold Hd.val
  go_enter Tryz.func67, Tryz.ntmps67
  go_wp2_with fail
  go_ret
  exact ⟨rfl, hB2⟩
set_option maxRecDepth 100000 in
theorem allGot_any (h : Hs) (w : World) (hh : h.At w) :
    Calls Tryz.prog 33 #[.slice h.a h.n h.c] w fun e w' => e = .returned (.bool (!anyB h.n (fun j => lacksL (h.z j)))) ∧ Below w.heap.size w w' := by
  go_enter Tryz.func33, Tryz.ntmps33
  go_wp2_with fail
  refine (anyL4 67 #[] (fun j => lacksL (h.z j)) _ _ _ _ hh.le hh.cap h.z hh.hds (enters_of Tryz.func67 (by kernel_rfl) rfl) (fun i w1 _ _ => allGot1_any (h.z i) w1)).mono ?_
  rintro e w1 ⟨rfl, hB⟩
  go_wp2_with fail
  go_ret
  exact ⟨rfl, hB⟩
set_option maxRecDepth 100000 in
set_option maxHeartbeats 8000000 in
theorem Pick_any (p : Pl) (s : St) (order line bin n : Int) (w : World) (hp : p.At w) (hs : s.At w) :
    Calls Tryz.prog 11 #[p.val, s.val, .int .i64 order, .int .i64 line, .int .i64 bin, .int .i64 n] w fun e w' => ∃ x : St, e = .returned (.tuple #[x.val, .int .i64 (pickE p s order line bin n)]) ∧ x.At w' ∧ ActOK (pickE p s order line bin n) (pickT p s order.toNat line.toNat bin.toNat n) x ∧ (pickE p s order line bin n = 0 → OwnS w.heap.size w' x) ∧ Below w.heap.size w w' := by
  obtain ⟨W0, hW, hWB, X0, Z0⟩ : ∃ W, (((w.alloc (.cells #[.slice p.ab p.nb p.cb, .slice p.sa p.ns p.cs] 25)).alloc (.cells s.cells 31)).alloc (.cells #[.slice .none 0 0, .slice .none 0 0, .slice .none 0 0, .slice .none 0 0, .slice .none 0 0, .slice .none 0 0, .slice .none 0 0] 31)) = W ∧ Below w.heap.size w W ∧ Boxes W w.heap.size (w.heap.size + 1) p s ∧ Blk W (w.heap.size + 2) 31 7 (fun _ => .slice .none 0 0) :=
    ⟨_, rfl, (two_below _ _ _).alloc (by simp; omega) _, (boxes_new w p s _ _).below ((Below.refl _ _).alloc (Nat.le_refl _) _), (Blk.mk' (cur := #[.slice .none 0 0, .slice .none 0 0, .slice .none 0 0, .slice .none 0 0, .slice .none 0 0, .slice .none 0 0, .slice .none 0 0]) (by simp) rfl).congr (fun j hj => by match j, hj with | 0, _ => rfl | 1, _ => rfl | 2, _ => rfl | 3, _ => rfl | 4, _ => rfl | 5, _ => rfl | 6, _ => rfl)⟩
  have HC : Hid (∀ wk, Below W0.heap.size W0 wk → Boxes wk w.heap.size (w.heap.size + 1) p s ∧ p.At wk ∧ s.At wk ∧ Below w.heap.size w wk ∧ Blk wk (w.heap.size + 2) 31 7 (fun _ => .slice .none 0 0)) := fun wk h => ⟨X0.below h, (hp.below hWB).below h, (hs.below hWB).below h, hWB.trans (h.mono hWB.size), Z0.below h⟩
  have HW : Hid (((w.alloc (.cells #[.slice p.ab p.nb p.cb, .slice p.sa p.ns p.cs] 25)).alloc (.cells #[.slice s.on.a s.on.n s.on.c, .slice s.os.a s.os.n s.os.c, .slice s.hs.a s.hs.n s.hs.c, .slice s.ms.a s.ms.n s.ms.c, .slice s.si.a s.si.n s.si.c, .slice s.so.a s.so.n s.so.c, .slice s.sf.a s.sf.n s.sf.c] 31)).alloc (.cells #[.slice .none 0 0, .slice .none 0 0, .slice .none 0 0, .slice .none 0 0, .slice .none 0 0, .slice .none 0 0, .slice .none 0 0] 31) = W0) := hW
  have leb := hp.leb
  have capb0 := hp.capb
  have les := hp.les
  have caps0 := hp.caps
  have capb := capb0
  have caps := caps0
  have zlt0 := Z0.lt
  unfold maxLen at capb caps
  have osl := hs.os.le
  have osc := hs.os.cap
  unfold maxLen at osc
  clear hW X0 Z0 hp hs
  unfold Pl.val St.val
  go_enter Tryz.func11, Tryz.ntmps11
  go_wp2_with fail
  rw [HW.out]
  obtain ⟨X, hpk, hsk, hBw, hz⟩ := HC.out W0 (Below.refl _ _)
  refine (stateCheck_any p s W0 hpk hsk).mono ?_
  rintro e w1 ⟨rfl, hB⟩
  clear X hpk hsk hBw hz HW
  obtain ⟨⟨⟨l1, d0, d1⟩, l2, c0, c1, c2, c3, c4, c5, c6⟩, hpk, hsk, hBw, hz⟩ := HC.out w1 hB
  by_cases h0 : stateE p s = 0
  · have H0 : Hid (stateE p s = 0) := h0
    have HR : Hid (RightT p s) := rightT h0
    rw [h0]
    clear h0
    have HSH : Hid (s.hs.At w1) := hsk.hs
    clear hpk hsk hBw hz
    go_wp2_with fail
    refine (DropOwn_any s.hs order line bin w1 HSH.out).mono ?_
    rintro e w2 ⟨hd, rfl, hdo, hdk, hB2⟩
    clear HSH l1 d0 d1 l2 c0 c1 c2 c3 c4 c5 c6
    rw [dropE_of HR.out.fm.hold, dropN_of HR.out.fm.hold]
    have hB02 := hB.trans (hB2.mono hB.size)
    have A1 : W0.heap.size ≤ w1.heap.size := hB.size
    have A2 : w1.heap.size ≤ w2.heap.size := hB2.size
    have HDO : Hid (OwnH w1.heap.size 55 w2 hd) := hdo
    have HDK : Hid (DropOK s.hs.n s.hs.z order line bin hd) := hdk
    obtain ⟨⟨⟨l1, d0, d1⟩, l2, c0, c1, c2, c3, c4, c5, c6⟩, hpk, hsk, hBw, hz⟩ := HC.out w2 hB02
    clear hdo hdk hB2 hB
    by_cases h1 : keptV s.hs.n s.hs.z order line bin = 0
    · have HX : Hid (pickE p s order line bin n = 4) := pickE_none H0.out h1
      have HNE : Hid (¬ pickE p s order line bin n = 0) := by show ¬ _; rw [HX.out]; decide
      rw [if_pos h1]
      generalize keptV s.hs.n s.hs.z order line bin = KV at *
      simp only [Hs.val]
      clear hpk hsk
      have zl := hz.lt
      have zf0 := hz.frozen 0
      have zc0 := hz.cell (j := 0) (by decide)
      have zf1 := hz.frozen 1
      have zc1 := hz.cell (j := 1) (by decide)
      have zf2 := hz.frozen 2
      have zc2 := hz.cell (j := 2) (by decide)
      have zf3 := hz.frozen 3
      have zc3 := hz.cell (j := 3) (by decide)
      have zf4 := hz.frozen 4
      have zc4 := hz.cell (j := 4) (by decide)
      have zf5 := hz.frozen 5
      have zc5 := hz.cell (j := 5) (by decide)
      have zf6 := hz.frozen 6
      have zc6 := hz.cell (j := 6) (by decide)
      go_wp2_with fail
      have KZ := set7_blk hz (.slice .none 0 0) (.slice .none 0 0) (.slice .none 0 0) (.slice .none 0 0) (.slice .none 0 0) (.slice .none 0 0) (.slice .none 0 0)
      have hbz := set7_below (b := w.heap.size + 2) hBw (by omega) (.slice .none 0 0) (.slice .none 0 0) (.slice .none 0 0) (.slice .none 0 0) (.slice .none 0 0) (.slice .none 0 0) (.slice .none 0 0)
      unfold set7 at KZ hbz
      obtain ⟨c0', c1', c2', c3', c4', c5', c6'⟩ := box_cells KZ
      refine bodyPost_ret (v := .tuple #[noneS.val, .int .i64 4]) (by simp [results, Tryz.results11, go_sem, noneS, St.val, c0', c1', c2', c3', c4', c5', c6']) rfl ?_
      exact ⟨noneS, by rw [HX.out]; rfl, noneS_at _, ⟨fun h => absurd h (HNE.out), fun _ => ⟨rfl, rfl, rfl, rfl, rfl, rfl, rfl⟩⟩, fun h => absurd h (HNE.out), hbz⟩
    · rw [if_neg h1]
      cases h2 : inB n 0 (keptV s.hs.n s.hs.z order line bin)
      · have HX : Hid (pickE p s order line bin n = 3) := pickE_range H0.out h1 h2
        have HNE : Hid (¬ pickE p s order line bin n = 0) := by show ¬ _; rw [HX.out]; decide
        clear h1
        generalize keptV s.hs.n s.hs.z order line bin = KV at *
        simp only [Hs.val]
        clear hpk hsk
        have zl := hz.lt
        have zf0 := hz.frozen 0
        have zc0 := hz.cell (j := 0) (by decide)
        have zf1 := hz.frozen 1
        have zc1 := hz.cell (j := 1) (by decide)
        have zf2 := hz.frozen 2
        have zc2 := hz.cell (j := 2) (by decide)
        have zf3 := hz.frozen 3
        have zc3 := hz.cell (j := 3) (by decide)
        have zf4 := hz.frozen 4
        have zc4 := hz.cell (j := 4) (by decide)
        have zf5 := hz.frozen 5
        have zc5 := hz.cell (j := 5) (by decide)
        have zf6 := hz.frozen 6
        have zc6 := hz.cell (j := 6) (by decide)
        go_wp2_with (go_at_call 32; refine calls_to (Within_any _ _ _ _) ?_)
        have KZ := set7_blk hz (.slice .none 0 0) (.slice .none 0 0) (.slice .none 0 0) (.slice .none 0 0) (.slice .none 0 0) (.slice .none 0 0) (.slice .none 0 0)
        have hbz := set7_below (b := w.heap.size + 2) hBw (by omega) (.slice .none 0 0) (.slice .none 0 0) (.slice .none 0 0) (.slice .none 0 0) (.slice .none 0 0) (.slice .none 0 0) (.slice .none 0 0)
        unfold set7 at KZ hbz
        obtain ⟨c0', c1', c2', c3', c4', c5', c6'⟩ := box_cells KZ
        refine bodyPost_ret (v := .tuple #[noneS.val, .int .i64 3]) (by simp [results, Tryz.results11, go_sem, noneS, St.val, c0', c1', c2', c3', c4', c5', c6']) rfl ?_
        exact ⟨noneS, by rw [HX.out]; rfl, noneS_at _, ⟨fun h => absurd h (HNE.out), fun _ => ⟨rfl, rfl, rfl, rfl, rfl, rfl, rfl⟩⟩, fun h => absurd h (HNE.out), hbz⟩
      · obtain ⟨o, l, b, rfl, rfl, rfl, hi⟩ := holdIn HR.out h1
        have HI : Hid (HoldIn p s o l b) := hi
        have gd := HI.out.good
        have bd := HI.out.bd
        have nn := inB_true h2
        have ho := HI.out.on
        have hl := HI.out.ln
        have hb := HI.out.bn
        obtain ⟨g, hg⟩ : ∃ g, lineGood s o l = g := ⟨_, rfl⟩
        have HG : Hid (lineGood s o l = g) := hg
        rw [hg] at gd
        have gl := gd.2
        obtain ⟨bo, oo, hoa, hbo, z0, z1, hlk⟩ := hsk.os.ods o ho
        obtain ⟨bl, ol, hla, hbl, y0, y1, y2, y3⟩ := hlk.hds l hl
        have ll := hlk.le
        have lc := hlk.cap
        unfold maxLen at lc
        have son := HR.out.fm.son
        obtain ⟨bs, os, hsa, hbs, x0c⟩ := hsk.so.ints g (by omega)
        have sol := hsk.so.le
        have soc := hsk.so.cap
        unfold maxLen at soc
        have HSA : Hid (s.so.a = some ⟨bs, os, none⟩) := hsa
        have HOA : Hid (s.os.a = some ⟨bo, oo, none⟩) := hoa
        rw [gd.1] at y0
        rw [hoa] at c1
        rw [hla] at z1
        rw [hsa] at c5
        have q0 : (0 : Int) ≤ (o : Int) := by omega
        have q1 : (o : Int) < (s.os.n : Int) := by omega
        have q2 : (0 : Int) ≤ (l : Int) := by omega
        have q3 : (l : Int) < ((s.os.z o).ls.n : Int) := by omega
        have q4 : (0 : Int) ≤ (g : Int) := by omega
        have sg : g < s.so.n := by omega
        have q5 : (g : Int) < (s.so.n : Int) := by omega
        have sob := HR.out.fm.sob g gl
        have HKV : Hid (heldAt s o l b = keptV s.hs.n s.hs.z o l b) := rfl
        have H1 : Hid (¬ heldAt s o l b = 0) := h1
        have H2 : Hid (inB n 0 (heldAt s o l b) = true) := h2
        have bd' : 1 ≤ keptV s.hs.n s.hs.z o l b ∧ keptV s.hs.n s.hs.z o l b ≤ 200 := ⟨bd.1, bd.2.1⟩
        clear hoa hla hlk hsa y1 y2 y3 z0 gd bd hi hg h1 son
        simp only [Hs.val]
        by_cases h3 : 1048576 < s.so.z g + n
        · have HX : Hid (pickE p s o l b n = 2) := pickE_many H0.out H1.out H2.out (by show 1048576 < s.so.z (lineGood s o l) + n; rw [HG.out]; exact h3)
          have HNE : Hid (¬ pickE p s o l b n = 0) := by show ¬ _; rw [HX.out]; decide
          have h3' : 1048576 - s.so.z g < n := by omega
          generalize keptV s.hs.n s.hs.z o l b = KV at *
          clear h3
          clear hpk hsk
          have zl := hz.lt
          have zf0 := hz.frozen 0
          have zc0 := hz.cell (j := 0) (by decide)
          have zf1 := hz.frozen 1
          have zc1 := hz.cell (j := 1) (by decide)
          have zf2 := hz.frozen 2
          have zc2 := hz.cell (j := 2) (by decide)
          have zf3 := hz.frozen 3
          have zc3 := hz.cell (j := 3) (by decide)
          have zf4 := hz.frozen 4
          have zc4 := hz.cell (j := 4) (by decide)
          have zf5 := hz.frozen 5
          have zc5 := hz.cell (j := 5) (by decide)
          have zf6 := hz.frozen 6
          have zc6 := hz.cell (j := 6) (by decide)
          go_wp2_with (go_at_call 32; refine calls_to (Within_any _ _ _ _) ?_)
          have KZ := set7_blk hz (.slice .none 0 0) (.slice .none 0 0) (.slice .none 0 0) (.slice .none 0 0) (.slice .none 0 0) (.slice .none 0 0) (.slice .none 0 0)
          have hbz := set7_below (b := w.heap.size + 2) hBw (by omega) (.slice .none 0 0) (.slice .none 0 0) (.slice .none 0 0) (.slice .none 0 0) (.slice .none 0 0) (.slice .none 0 0) (.slice .none 0 0)
          unfold set7 at KZ hbz
          obtain ⟨c0', c1', c2', c3', c4', c5', c6'⟩ := box_cells KZ
          refine bodyPost_ret (v := .tuple #[noneS.val, .int .i64 2]) (by simp [results, Tryz.results11, go_sem, noneS, St.val, c0', c1', c2', c3', c4', c5', c6']) rfl ?_
          exact ⟨noneS, by rw [HX.out]; rfl, noneS_at _, ⟨fun h => absurd h (HNE.out), fun _ => ⟨rfl, rfl, rfl, rfl, rfl, rfl, rfl⟩⟩, fun h => absurd h (HNE.out), hbz⟩
        · have HX : Hid (pickE p s o l b n = 0) := pickE_ok H0.out H1.out H2.out (by show ¬ 1048576 < s.so.z (lineGood s o l) + n; rw [HG.out]; exact h3)
          have HPI : Hid (PickIn p s o l b n) := by
            have h := pickIn HX.out
            obtain ⟨-, o', l', b', e1, e2, e3, h⟩ := h
            have e1' : o' = o := by omega
            have e2' : l' = l := by omega
            have e3' : b' = b := by omega
            rw [e1', e2', e3'] at h
            exact h
          have h3' : ¬ 1048576 - s.so.z g < n := by omega
          have HDN : Hid (hd.n = (dropHs s.hs o l b).n ∧ ∀ j, j < hd.n → hd.z j = (dropHs s.hs o l b).z j) := by
            have k := HDK.out
            unfold DropOK at k
            rw [dropE_of HR.out.fm.hold, if_neg (show ¬ keptV s.hs.n s.hs.z o l b = 0 from H1.out), if_pos rfl] at k
            exact k
          have HCS : Hid (Calls Tryz.prog 15 #[s.val] w2 fun e w' => ∃ s' : St, e = .returned s'.val ∧ SameT s' s ∧ OwnS w2.heap.size w' s' ∧ Below w2.heap.size w2 w') := copyState_any p s w2 hsk HR.out.fm
          obtain ⟨K, hK⟩ : ∃ K, keptV s.hs.n s.hs.z o l b = K := ⟨_, rfl⟩
          have HK : Hid (heldAt s o l b = K) := hK
          rw [hK] at bd' h2 nn ⊢
          clear hpk hsk hBw hz hK h3 HKV
          go_wp2_with (go_at_call 32; refine calls_to (Within_any _ _ _ _) ?_)
          rw [← HOA.out, ← HSA.out]
          refine Calls.mono HCS.out ?_
          rintro e w4 ⟨x0, rfl, hsame, hown, hB4⟩
          clear HCS l1 d0 d1 l2 c0 c1 c2 c3 c4 c5 c6 z1 hbo hbl hbs y0 x0c h2 h3' HOA HSA
          have x0n : o < x0.os.n := by rw [hsame.os.1]; exact ho
          have xk := hsame.os.2 o x0n
          have x0l : l < (x0.os.z o).ls.n := by rw [xk.2.1]; exact hl
          have x0b : b < x0.on.n := by rw [hsame.on.1, HR.out.fm.sh.n]; exact hb
          have x0g : g < (x0.on.r b).n := by rw [(hsame.on.2 b x0b).1, HR.out.fm.sh.len b (by rw [HR.out.fm.sh.n]; exact hb)]; exact gl
          have x0s : g < x0.so.n := by rw [hsame.so.1]; exact sg
          have HS0 : Hid (SameT x0 s) := hsame
          have HXV : Hid ((0 ≤ (x0.on.r b).z g ∧ (x0.on.r b).z g ≤ 200) ∧ (0 ≤ x0.so.z g ∧ x0.so.z g ≤ 1048576) ∧ (0 ≤ ((x0.os.z o).ls.z l).b ∧ ((x0.os.z o).ls.z l).b ≤ 200) ∧ 0 ≤ ((x0.os.z o).ls.z l).n ∧ ((x0.os.z o).ls.z l).n ≤ 200) := by
            have f := HR.out.fm
            have bl := badLine_no (f.line o ho l hl)
            refine ⟨?_, ?_, ?_⟩
            · rw [hsame.num f hb gl]; exact f.sh.num b (by rw [f.sh.n]; exact hb) g gl
            · rw [hsame.so.2 g x0s]; exact f.sob g gl
            · rw [hsame.line ho hl]; omega
          have v0 := HXV.out
          obtain ⟨W5, hW5, hWB5, K5⟩ : ∃ W, w4.alloc (.cells #[.slice x0.on.a x0.on.n x0.on.c, .slice x0.os.a x0.os.n x0.os.c, .slice hd.a hd.n hd.c, .slice x0.ms.a x0.ms.n x0.ms.c, .slice x0.si.a x0.si.n x0.si.c, .slice x0.so.a x0.so.n x0.so.c, .slice x0.sf.a x0.sf.n x0.sf.c] 31) = W ∧ Below w4.heap.size w4 W ∧ Blk W w4.heap.size 31 7 (fun j => (withHolds x0 hd).cells.getD j default) := ⟨_, rfl, (Below.refl _ _).alloc (Nat.le_refl _) _, Blk.mk' rfl rfl⟩
          have HW5 : Hid (w4.alloc (.cells #[.slice x0.on.a x0.on.n x0.on.c, .slice x0.os.a x0.os.n x0.os.c, .slice hd.a hd.n hd.c, .slice x0.ms.a x0.ms.n x0.ms.c, .slice x0.si.a x0.si.n x0.si.c, .slice x0.so.a x0.so.n x0.so.c, .slice x0.sf.a x0.sf.n x0.sf.c] 31) = W5) := hW5
          have hB25 := hB4.trans (hWB5.mono hB4.size)
          have hB5 := hB02.trans (hB25.mono hB02.size)
          have A3 : w2.heap.size ≤ w4.heap.size := hB4.size
          have HK5 : Hid (RelK w1.heap.size w4.heap.size W0 (withHolds x0 hd) W5) := ⟨((OwnS.below hown hWB5).mono A2).withHolds (HDO.out.below hB25), K5, hB5, by have := hB25.size; omega⟩
          clear hW5 hown K5 hB4 hWB5 hB25 hB5 hsame hB02 xk HXV
          -- what lies there
          obtain ⟨g0, G, a1, a2, a3, a4, a5, a6, a7, a8, a9, a10, a11, a12⟩ := HK5.out.own.onCell x0b x0g
          have u0 : W5.cell? ⟨w4.heap.size, 0, none⟩ = some (.slice x0.on.a x0.on.n x0.on.c) := HK5.out.box.cell (j := 0) (by decide)
          have u00 := HK5.out.box.lt
          have a1' : x0.on.a = some ⟨g0, 0, none⟩ := a1
          have a3' : W5.cell? ⟨g0, b, none⟩ = some (.slice (some ⟨G, 0, none⟩) (x0.on.r b).n (x0.on.r b).c) := a3
          have a7' : (x0.on.r b).n ≤ (x0.on.r b).c := a7
          have a8' : (x0.on.r b).c ≤ maxLen := a8
          have a9' : W5.cell? ⟨G, g, none⟩ = some (.int .i64 ((x0.on.r b).z g)) := a9
          have a11' : x0.on.n ≤ x0.on.c := a11
          have a12' : x0.on.c ≤ maxLen := a12
          have a10g := a10 g
          rw [a1'] at u0
          unfold maxLen at a8' a12'
          have r0 : (0 : Int) ≤ (b : Int) := by omega
          have r1 : (b : Int) < (x0.on.n : Int) := by omega
          have r2 : (g : Int) < ((x0.on.r b).n : Int) := by omega
          have hO6 := HK5.out.own.setOn (b := b) x0b a4 g ((x0.on.r b).z g - n)
          have GB : Blk W5 G 3 (x0.on.r b).n (fun j => .int .i64 ((x0.on.r b).z j)) := by
            obtain ⟨Gq, b1, b2, b3, b4, b5⟩ := HK5.out.own.rows b x0b
            rw [a4] at b1
            simp only [Option.some.injEq, Addr.mk.injEq, and_true] at b1
            subst b1
            exact b5
          have HK6 : Hid (RelK w1.heap.size w4.heap.size W0 (setOn (withHolds x0 hd) b g ((x0.on.r b).z g - n)) (W5.setCell ⟨G, g, none⟩ (.int .i64 ((x0.on.r b).z g - n)))) := ⟨hO6, HK5.out.box.other (a := ⟨G, g, none⟩) (Blk.ne2 HK5.out.box GB (by decide)) _, HK5.out.bel.setCell (p := ⟨G, g, none⟩) (by show W0.heap.size ≤ G; omega) _, by have := HK5.out.le; simpa using this⟩
          clear a1 a1' a3 a4 a5 a7 a8 a9 a10 a11 a12 hO6 GB
          -- what went
          obtain ⟨GS, e1, e2, e3, e4, e5, e6, e7⟩ := HK6.out.own.so.cellAt (g := g) x0s
          have e1' : x0.so.a = some ⟨GS, 0, none⟩ := e1
          have u5 : (W5.setCell ⟨G, g, none⟩ (.int .i64 ((x0.on.r b).z g - n))).cell? ⟨w4.heap.size, 5, none⟩ = some (.slice x0.so.a x0.so.n x0.so.c) := HK6.out.box.cell (j := 5) (by decide)
          have u01 := HK6.out.box.lt
          rw [e1'] at u5
          have e4' : x0.so.n ≤ x0.so.c := e4
          have e5' : x0.so.c ≤ maxLen := e5
          have e6' : (W5.setCell ⟨G, g, none⟩ (.int .i64 ((x0.on.r b).z g - n))).cell? ⟨GS, g, none⟩ = some (.int .i64 (x0.so.z g)) := e6
          unfold maxLen at e5'
          have e7g := e7 g
          have r3 : (g : Int) < (x0.so.n : Int) := by omega
          have GB : Blk (W5.setCell ⟨G, g, none⟩ (.int .i64 ((x0.on.r b).z g - n))) GS 3 x0.so.n (fun j => .int .i64 (x0.so.z j)) := by
            obtain ⟨Gq, b1, b2, b3, b4, b5⟩ := HK6.out.own.so
            have b1' : x0.so.a = some ⟨Gq, 0, none⟩ := b1
            rw [e1'] at b1'
            simp only [Option.some.injEq, Addr.mk.injEq, and_true] at b1'
            subst b1'
            exact b5
          have HK7 : Hid (RelK w1.heap.size w4.heap.size W0 (setOut (setOn (withHolds x0 hd) b g ((x0.on.r b).z g - n)) g (x0.so.z g + n)) ((W5.setCell ⟨G, g, none⟩ (.int .i64 ((x0.on.r b).z g - n))).setCell ⟨GS, g, none⟩ (.int .i64 (x0.so.z g + n)))) := ⟨HK6.out.own.setOut e1 g _, HK6.out.box.other (a := ⟨GS, g, none⟩) (Blk.ne2 HK6.out.box GB (by decide)) _, HK6.out.bel.setCell (p := ⟨GS, g, none⟩) (by show W0.heap.size ≤ GS; omega) _, by have := HK6.out.le; simpa using this⟩
          clear e1 e1' e2 e4 e5 e6 e7 GB HK6
          -- the line
          obtain ⟨gO, BL, f1, f2, f3, f4, f5, f6, f7, f8, f9, f10, f11, f12, f13, f14⟩ := HK7.out.own.lineCell (o := o) (l := l) x0n x0l
          have f1' : x0.os.a = some ⟨gO, 0, none⟩ := f1
          have u1 : ((W5.setCell ⟨G, g, none⟩ (.int .i64 ((x0.on.r b).z g - n))).setCell ⟨GS, g, none⟩ (.int .i64 (x0.so.z g + n))).cell? ⟨w4.heap.size, 1, none⟩ = some (.slice x0.os.a x0.os.n x0.os.c) := HK7.out.box.cell (j := 1) (by decide)
          have u02 := HK7.out.box.lt
          rw [f1'] at u1
          have HF1 : Hid (x0.os.a = some ⟨gO, 0, none⟩) := f1'
          have HF5 : Hid ((x0.os.z o).ls.a = some ⟨BL, 0, none⟩) := f5
          have f4' : ((W5.setCell ⟨G, g, none⟩ (.int .i64 ((x0.on.r b).z g - n))).setCell ⟨GS, g, none⟩ (.int .i64 (x0.so.z g + n))).cell? ⟨gO, o * 2 + 1, none⟩ = some (.slice (some ⟨BL, 0, none⟩) (x0.os.z o).ls.n (x0.os.z o).ls.c) := f4
          have f8' : (x0.os.z o).ls.n ≤ (x0.os.z o).ls.c := f8
          have f9' : (x0.os.z o).ls.c ≤ maxLen := f9
          have f13' : ((W5.setCell ⟨G, g, none⟩ (.int .i64 ((x0.on.r b).z g - n))).setCell ⟨GS, g, none⟩ (.int .i64 (x0.so.z g + n))).cell? ⟨BL, l * 4 + 2, none⟩ = some (.int .i64 ((x0.os.z o).ls.z l).b) := f13
          have ol1 : x0.os.n ≤ x0.os.c := HK7.out.own.os.le
          have oc1 : x0.os.c ≤ maxLen := HK7.out.own.os.cap
          unfold maxLen at f9' oc1
          have f10a := f10 (l * 4 + 2)
          have r4 : (o : Int) < (x0.os.n : Int) := by omega
          have r5 : (l : Int) < ((x0.os.z o).ls.n : Int) := by omega
          obtain ⟨Bq, hla', hAB, -, -, hlb⟩ := HK7.out.own.os.lines o x0n
          have hla2 : (x0.os.z o).ls.a = some ⟨Bq, 0, none⟩ := hla'
          rw [HF5.out] at hla2
          simp only [Option.some.injEq, Addr.mk.injEq, and_true] at hla2
          subst hla2
          have HK8 : Hid (RelK w1.heap.size w4.heap.size W0 (setLine (setOut (setOn (withHolds x0 hd) b g ((x0.on.r b).z g - n)) g (x0.so.z g + n)) o l 2 (((x0.os.z o).ls.z l).b + n)) (((W5.setCell ⟨G, g, none⟩ (.int .i64 ((x0.on.r b).z g - n))).setCell ⟨GS, g, none⟩ (.int .i64 (x0.so.z g + n))).setCell ⟨BL, l * 4 + 2, none⟩ (.int .i64 (((x0.os.z o).ls.z l).b + n)))) := ⟨HK7.out.own.setLine (o := o) x0n HF5.out l 2 (by decide) _, HK7.out.box.other (a := ⟨BL, l * 4 + 2, none⟩) (Blk.ne2 HK7.out.box hlb (by decide)) _, HK7.out.bel.setCell (p := ⟨BL, l * 4 + 2, none⟩) (by show W0.heap.size ≤ BL; omega) _, by have := HK7.out.le; simpa using this⟩
          clear f1 f1' f2 f4 f5 f6 f8 f9 f10 f11 f12 f13 f14 hla' hlb HK7
          have hl8 : l < ((setLine (setOut (setOn (withHolds x0 hd) b g ((x0.on.r b).z g - n)) g (x0.so.z g + n)) o l 2 (((x0.os.z o).ls.z l).b + n)).os.z o).ls.n := by rw [(setLine_n o).1]; exact x0l
          obtain ⟨gO2, BL2, f1, f2, g3, f4, f5, f6, g7, f8, f9, f10, f11, f12, f13, f14⟩ := HK8.out.own.lineCell (o := o) (l := l) x0n hl8
          have f1' : x0.os.a = some ⟨gO2, 0, none⟩ := f1
          rw [HF1.out] at f1'
          simp only [Option.some.injEq, Addr.mk.injEq, and_true] at f1'
          subst f1'
          rw [(setLine_n o).2.1] at f5
          have f5' : (x0.os.z o).ls.a = some ⟨BL2, 0, none⟩ := f5
          rw [HF5.out] at f5'
          simp only [Option.some.injEq, Addr.mk.injEq, and_true] at f5'
          subst f5'
          rw [(setLine_n o).1, (setLine_n o).2.2] at f4
          have g4' : (((W5.setCell ⟨G, g, none⟩ (.int .i64 ((x0.on.r b).z g - n))).setCell ⟨GS, g, none⟩ (.int .i64 (x0.so.z g + n))).setCell ⟨BL, l * 4 + 2, none⟩ (.int .i64 (((x0.os.z o).ls.z l).b + n))).cell? ⟨gO, o * 2 + 1, none⟩ = some (.slice (some ⟨BL, 0, none⟩) (x0.os.z o).ls.n (x0.os.z o).ls.c) := f4
          rw [setLine_at, if_pos ⟨rfl, rfl⟩] at f14
          have f14' : (((W5.setCell ⟨G, g, none⟩ (.int .i64 ((x0.on.r b).z g - n))).setCell ⟨GS, g, none⟩ (.int .i64 (x0.so.z g + n))).setCell ⟨BL, l * 4 + 2, none⟩ (.int .i64 (((x0.os.z o).ls.z l).b + n))).cell? ⟨BL, l * 4 + 3, none⟩ = some (.int .i64 ((x0.os.z o).ls.z l).n) := f14
          have g10a := f10 (l * 4 + 3)
          have HF5b : Hid (((setLine (setOut (setOn (withHolds x0 hd) b g ((x0.on.r b).z g - n)) g (x0.so.z g + n)) o l 2 (((x0.os.z o).ls.z l).b + n)).os.z o).ls.a = some ⟨BL, 0, none⟩) := by show _ = _; rw [(setLine_n o).2.1]; exact HF5.out
          obtain ⟨Bq, hla', hAB, -, -, hlb⟩ := HK8.out.own.os.lines o x0n
          have hla2 := hla'
          rw [HF5b.out] at hla2
          simp only [Option.some.injEq, Addr.mk.injEq, and_true] at hla2
          subst hla2
          have HK9 : Hid (RelK w1.heap.size w4.heap.size W0 (pickW x0 hd o l b g n K) ((((W5.setCell ⟨G, g, none⟩ (.int .i64 ((x0.on.r b).z g - n))).setCell ⟨GS, g, none⟩ (.int .i64 (x0.so.z g + n))).setCell ⟨BL, l * 4 + 2, none⟩ (.int .i64 (((x0.os.z o).ls.z l).b + n))).setCell ⟨BL, l * 4 + 3, none⟩ (.int .i64 (((x0.os.z o).ls.z l).n + (K - n))))) := ⟨HK8.out.own.setLine (o := o) x0n HF5b.out l 3 (by decide) _, HK8.out.box.other (a := ⟨BL, l * 4 + 3, none⟩) (Blk.ne2 HK8.out.box hlb (by decide)) _, HK8.out.bel.setCell (p := ⟨BL, l * 4 + 3, none⟩) (by show W0.heap.size ≤ BL; omega) _, by have := HK8.out.le; simpa using this⟩
          clear f1 f2 f4 f5 f6 f8 f9 f10 f11 f12 f13 f14 hla' hlb HK8
          have HSM : Hid (SameT (pickW x0 hd o l b g n K) (pickS s o l b n)) := by have h := pickW_same (n := n) HS0.out HI.out HDN.out.1 HDN.out.2; rw [HG.out, HK.out] at h; exact h
          have yk : ((pickW x0 hd o l b g n K).os.z o).ls.n = (x0.os.z o).ls.n ∧ ((pickW x0 hd o l b g n K).os.z o).ls.a = (x0.os.z o).ls.a ∧ ((pickW x0 hd o l b g n K).os.z o).ls.c = (x0.os.z o).ls.c := by
            unfold pickW
            rw [(setLine_n o).1, (setLine_n o).1, (setLine_n o).2.1, (setLine_n o).2.1, (setLine_n o).2.2, (setLine_n o).2.2]
            exact ⟨rfl, rfl, rfl⟩
          have HYK : Hid (((pickW x0 hd o l b g n K).os.z o).ls.n = (x0.os.z o).ls.n ∧ ((pickW x0 hd o l b g n K).os.z o).ls.a = (x0.os.z o).ls.a ∧ ((pickW x0 hd o l b g n K).os.z o).ls.c = (x0.os.z o).ls.c) := yk
          obtain ⟨gq, h1, h2', h3, h4, h5, h6⟩ := HK9.out.own.orderCells (o := o) x0n
          have h1' : x0.os.a = some ⟨gq, 0, none⟩ := h1
          rw [HF1.out] at h1'
          simp only [Option.some.injEq, Addr.mk.injEq, and_true] at h1'
          subst h1'
          rw [yk.1, yk.2.1, yk.2.2, HF5.out] at h5
          have HYL : Hid (Hs.At ((((W5.setCell ⟨G, g, none⟩ (.int .i64 ((x0.on.r b).z g - n))).setCell ⟨GS, g, none⟩ (.int .i64 (x0.so.z g + n))).setCell ⟨BL, l * 4 + 2, none⟩ (.int .i64 (((x0.os.z o).ls.z l).b + n))).setCell ⟨BL, l * 4 + 3, none⟩ (.int .i64 (((x0.os.z o).ls.z l).n + (K - n)))) ((pickW x0 hd o l b g n K).os.z o).ls) := by
            obtain ⟨_, _, _, _, _, _, h⟩ := HK9.out.own.at.os.ods o x0n
            exact h
          have HAG : Hid (Calls Tryz.prog 33 #[.slice (some ⟨BL, 0, none⟩) (x0.os.z o).ls.n (x0.os.z o).ls.c] ((((W5.setCell ⟨G, g, none⟩ (.int .i64 ((x0.on.r b).z g - n))).setCell ⟨GS, g, none⟩ (.int .i64 (x0.so.z g + n))).setCell ⟨BL, l * 4 + 2, none⟩ (.int .i64 (((x0.os.z o).ls.z l).b + n))).setCell ⟨BL, l * 4 + 3, none⟩ (.int .i64 (((x0.os.z o).ls.z l).n + (K - n)))) fun e w' => e = .returned (.bool (gotAll (pickW x0 hd o l b g n K) o)) ∧ Below ((((W5.setCell ⟨G, g, none⟩ (.int .i64 ((x0.on.r b).z g - n))).setCell ⟨GS, g, none⟩ (.int .i64 (x0.so.z g + n))).setCell ⟨BL, l * 4 + 2, none⟩ (.int .i64 (((x0.os.z o).ls.z l).b + n))).setCell ⟨BL, l * 4 + 3, none⟩ (.int .i64 (((x0.os.z o).ls.z l).n + (K - n)))).heap.size ((((W5.setCell ⟨G, g, none⟩ (.int .i64 ((x0.on.r b).z g - n))).setCell ⟨GS, g, none⟩ (.int .i64 (x0.so.z g + n))).setCell ⟨BL, l * 4 + 2, none⟩ (.int .i64 (((x0.os.z o).ls.z l).b + n))).setCell ⟨BL, l * 4 + 3, none⟩ (.int .i64 (((x0.os.z o).ls.z l).n + (K - n)))) w') := by
            have h := allGot_any ((pickW x0 hd o l b g n K).os.z o).ls ((((W5.setCell ⟨G, g, none⟩ (.int .i64 ((x0.on.r b).z g - n))).setCell ⟨GS, g, none⟩ (.int .i64 (x0.so.z g + n))).setCell ⟨BL, l * 4 + 2, none⟩ (.int .i64 (((x0.os.z o).ls.z l).b + n))).setCell ⟨BL, l * 4 + 3, none⟩ (.int .i64 (((x0.os.z o).ls.z l).n + (K - n)))) HYL.out
            rw [HYK.out.1, HYK.out.2.1, HYK.out.2.2, HF5.out] at h
            have e : gotAll (pickW x0 hd o l b g n K) o = !anyB (x0.os.z o).ls.n (fun j => lacksL (((pickW x0 hd o l b g n K).os.z o).ls.z j)) := by unfold gotAll; rw [HYK.out.1]
            rw [e]
            exact h
          clear yk h1 h2' h4 h6 HYL
          rw [← HW5.out] at u0 u00 a2 a3' a6 a9' a10g u5 u01 e3 e6' e7g u1 u02 f3 f4' f7 f13' f10a g3 g4' g7 f14' g10a h3 h5
          simp only [St.val]
          go_wp2_with fail
          rw [HW5.out]
          clear u0 u00 a2 a3' a6 a9' a10g u5 u01 e3 e6' e7g u1 u02 f3 f4' f7 f13' f10a g3 g4' g7 f14' g10a h3 h5 HW5 HK5
          refine Calls.mono HAG.out ?_
          rintro e wx ⟨rfl, hBx⟩
          have HKx : Hid (RelK w1.heap.size w4.heap.size W0 (pickW x0 hd o l b g n K) wx) := HK9.out.below hBx
          clear HAG HK9 hBx
          generalize w4.heap.size = B7 at *
          have HGA : Hid (gotAll (pickW x0 hd o l b g n K) o = gotAll (pickS s o l b n) o) := gotAll_same HSM.out ho
          obtain ⟨y, hy⟩ : ∃ y, pickW x0 hd o l b g n K = y := ⟨_, rfl⟩
          have yo : y.os.a = x0.os.a ∧ y.os.n = x0.os.n ∧ y.os.c = x0.os.c := by rw [← hy]; exact ⟨rfl, rfl, rfl⟩
          have HYO : Hid (y.os.a = some ⟨gO, 0, none⟩) := by show y.os.a = _; rw [yo.1]; exact HF1.out
          have yon : o < y.os.n := by rw [yo.2.1]; exact x0n
          rw [hy] at HKx HSM HGA ⊢
          clear hy yo HYK
          cases hga : gotAll y o
          · have HGF : Hid (gotAll (pickS s o l b n) o = false) := HGA.out.symm.trans hga
            have HST : Hid (StepIn p b y o l (K - n)) := by have h := (HPI.out.stepIn HGF.out).same HSM.out; rw [HK.out] at h; exact h
            have HK1 : Hid ((y.os.z o).k = 1) := (HSM.out.os.2 o yon).1.trans ((pickS_k s o l b n o).1.trans HI.out.kind)
            have HE0 : Hid (allocE p y o l (K - n) b = 0) := by have I := HST.out.allocIn HK1.out; exact I.less ⟨I.n0, Int.le_refl _⟩
            clear hga
            obtain ⟨⟨⟨l1, d0, d1⟩, l2, c0, c1, c2, c3, c4, c5, c6⟩, hpk, hsk, hBw, hz⟩ := HC.out wx HKx.out.bel
            obtain ⟨m1, p0, p1, p2, p3, p4, p5, p6⟩ := Boxed.of HKx.out.box
            have HPK : Hid (p.At wx) := hpk
            clear hpk hsk hBw hz l2 c0 c1 c2 c3 c4 c5 c6
            go_wp2_with fail
            clear l1 d0 d1 m1 p0 p1 p2 p3 p4 p5 p6
            refine (Take_any p y o l (K - n) b wx HPK.out HKx.out.own.at).mono ?_
            rintro e wt ⟨x, rfl, xat, xok, xown, hBt⟩
            have HT : Hid (Step p b y o l (K - n) x) := xok.1 HE0.out
            have HOX : Hid (OwnS w1.heap.size wt x) := (xown HE0.out).mono HKx.out.le
            have HKt : Hid (RelK w1.heap.size B7 W0 y wt) := HKx.out.below hBt
            have hb8 := HKt.out.box
            have bl0 := hb8.lt
            have bf0 := hb8.frozen 0
            have bc0 := hb8.cell (j := 0) (by decide)
            have bf1 := hb8.frozen 1
            have bc1 := hb8.cell (j := 1) (by decide)
            have bf2 := hb8.frozen 2
            have bc2 := hb8.cell (j := 2) (by decide)
            have bf3 := hb8.frozen 3
            have bc3 := hb8.cell (j := 3) (by decide)
            have bf4 := hb8.frozen 4
            have bc4 := hb8.cell (j := 4) (by decide)
            have bf5 := hb8.frozen 5
            have bc5 := hb8.cell (j := 5) (by decide)
            have bf6 := hb8.frozen 6
            have bc6 := hb8.cell (j := 6) (by decide)
            rw [HE0.out]
            clear xat xok xown hBt HPK hb8
            generalize allocL p y o l (K - n) b = LL at *
            obtain ⟨-, -, -, hBw, hz⟩ := HC.out wt HKt.out.bel
            have HZ : Hid (Below w.heap.size w wt ∧ Blk wt (w.heap.size + 2) 31 7 (fun _ => .slice .none 0 0)) := ⟨hBw, hz⟩
            have hlow := (HC.out _ (Below.refl _ _)).2.2.2.1.size
            have bne : B7 ≠ w.heap.size + 2 := by have := HKt.out.box.lt; omega
            have KX := set7_blk HKt.out.box (.slice x.on.a x.on.n x.on.c) (.slice x.os.a x.os.n x.os.c) (.slice x.hs.a x.hs.n x.hs.c) (.slice x.ms.a x.ms.n x.ms.c) (.slice x.si.a x.si.n x.si.c) (.slice x.so.a x.so.n x.so.c) (.slice x.sf.a x.sf.n x.sf.c)
            have hzB := set7_other hz (fun e => bne e.symm) (.slice x.on.a x.on.n x.on.c) (.slice x.os.a x.os.n x.os.c) (.slice x.hs.a x.hs.n x.hs.c) (.slice x.ms.a x.ms.n x.ms.c) (.slice x.si.a x.si.n x.si.c) (.slice x.so.a x.so.n x.so.c) (.slice x.sf.a x.sf.n x.sf.c)
            obtain ⟨x0', x1', x2', x3', x4', x5', x6'⟩ := box_cells KX
            have xm := KX.lt
            have zl := hzB.lt
            have zf0 := hzB.frozen 0
            have zc0 := hzB.cell (j := 0) (by decide)
            have zf1 := hzB.frozen 1
            have zc1 := hzB.cell (j := 1) (by decide)
            have zf2 := hzB.frozen 2
            have zc2 := hzB.cell (j := 2) (by decide)
            have zf3 := hzB.frozen 3
            have zc3 := hzB.cell (j := 3) (by decide)
            have zf4 := hzB.frozen 4
            have zc4 := hzB.cell (j := 4) (by decide)
            have zf5 := hzB.frozen 5
            have zc5 := hzB.cell (j := 5) (by decide)
            have zf6 := hzB.frozen 6
            have zc6 := hzB.cell (j := 6) (by decide)
            have HBS : Hid (Below W0.heap.size W0 (set7 wt B7 (.slice x.on.a x.on.n x.on.c) (.slice x.os.a x.os.n x.os.c) (.slice x.hs.a x.hs.n x.hs.c) (.slice x.ms.a x.ms.n x.ms.c) (.slice x.si.a x.si.n x.si.c) (.slice x.so.a x.so.n x.so.c) (.slice x.sf.a x.sf.n x.sf.c))) := set7_below (b := B7) HKt.out.bel (by omega) (.slice x.on.a x.on.n x.on.c) (.slice x.os.a x.os.n x.os.c) (.slice x.hs.a x.hs.n x.hs.c) (.slice x.ms.a x.ms.n x.ms.c) (.slice x.si.a x.si.n x.si.c) (.slice x.so.a x.so.n x.so.c) (.slice x.sf.a x.sf.n x.sf.c)
            have HOS : Hid (OwnS w1.heap.size (set7 wt B7 (.slice x.on.a x.on.n x.on.c) (.slice x.os.a x.os.n x.os.c) (.slice x.hs.a x.hs.n x.hs.c) (.slice x.ms.a x.ms.n x.ms.c) (.slice x.si.a x.si.n x.si.c) (.slice x.so.a x.so.n x.so.c) (.slice x.sf.a x.sf.n x.sf.c)) x) := OwnS.set7 HOX.out HKt.out.box (.slice x.on.a x.on.n x.on.c) (.slice x.os.a x.os.n x.os.c) (.slice x.hs.a x.hs.n x.hs.c) (.slice x.ms.a x.ms.n x.ms.c) (.slice x.si.a x.si.n x.si.c) (.slice x.so.a x.so.n x.so.c) (.slice x.sf.a x.sf.n x.sf.c)
            have HZB : Hid (Blk (set7 wt B7 (.slice x.on.a x.on.n x.on.c) (.slice x.os.a x.os.n x.os.c) (.slice x.hs.a x.hs.n x.hs.c) (.slice x.ms.a x.ms.n x.ms.c) (.slice x.si.a x.si.n x.si.c) (.slice x.so.a x.so.n x.so.c) (.slice x.sf.a x.sf.n x.sf.c)) (w.heap.size + 2) 31 7 (fun _ => .slice .none 0 0)) := hzB
            have HTS : Hid (SameT x (pickT p s o l b n)) := by
              unfold pickT
              rw [HGF.out, if_neg (by decide)]
              have tk := takeT_step (but := (b : Int)) HPI.out.takeIn
              have T' := HT.out
              rw [← HK.out] at T'
              exact Step.same HPI.out.takeIn HSM.out tk T'
            clear hBw hz KX hzB
            unfold set7 at x0' x1' x2' x3' x4' x5' x6' xm zl zf0 zf1 zf2 zf3 zf4 zf5 zf6 zc0 zc1 zc2 zc3 zc4 zc5 zc6
            simp only [St.val]
            go_wp2_with fail
            have KZ := set7_blk HZB.out (.slice x.on.a x.on.n x.on.c) (.slice x.os.a x.os.n x.os.c) (.slice x.hs.a x.hs.n x.hs.c) (.slice x.ms.a x.ms.n x.ms.c) (.slice x.si.a x.si.n x.si.c) (.slice x.so.a x.so.n x.so.c) (.slice x.sf.a x.sf.n x.sf.c)
            have hbz := set7_below (b := w.heap.size + 2) ((HC.out _ HBS.out).2.2.2.1) (by omega) (.slice x.on.a x.on.n x.on.c) (.slice x.os.a x.os.n x.os.c) (.slice x.hs.a x.hs.n x.hs.c) (.slice x.ms.a x.ms.n x.ms.c) (.slice x.si.a x.si.n x.si.c) (.slice x.so.a x.so.n x.so.c) (.slice x.sf.a x.sf.n x.sf.c)
            have hOz := OwnS.set7 HOS.out HZB.out (.slice x.on.a x.on.n x.on.c) (.slice x.os.a x.os.n x.os.c) (.slice x.hs.a x.hs.n x.hs.c) (.slice x.ms.a x.ms.n x.ms.c) (.slice x.si.a x.si.n x.si.c) (.slice x.so.a x.so.n x.so.c) (.slice x.sf.a x.sf.n x.sf.c)
            unfold set7 at KZ hbz hOz
            obtain ⟨c0', c1', c2', c3', c4', c5', c6'⟩ := box_cells KZ
            refine bodyPost_ret (v := .tuple #[x.val, .int .i64 0]) (by simp [results, Tryz.results11, go_sem, St.val, c0', c1', c2', c3', c4', c5', c6']) rfl ?_
            exact ⟨x, by rw [HX.out]; rfl, hOz.at, ⟨fun _ => HTS.out, fun h => absurd HX.out h⟩, fun _ => hOz.mono (by omega), hbz⟩
          · have HGT : Hid (gotAll (pickS s o l b n) o = true) := HGA.out.symm.trans hga
            clear hga
            obtain ⟨gq, h1, h2', h3, h4, h5, h6⟩ := HKx.out.own.orderCells (o := o) yon
            rw [HYO.out] at h1
            simp only [Option.some.injEq, Addr.mk.injEq, and_true] at h1
            subst h1
            have h6k := h6 (o * 2)
            obtain ⟨gq, b1, b2, b3⟩ := HKx.out.own.os.list (by omega)
            rw [HYO.out] at b1
            simp only [Option.some.injEq, Addr.mk.injEq, and_true] at b1
            subst b1
            have bneo : gO ≠ B7 := Blk.ne2 b3 HKx.out.box (by decide)
            have HKk : Hid (RelK w1.heap.size B7 W0 (kindS y o 2) (wx.setCell ⟨gO, o * 2, none⟩ (.int .i64 2))) := ⟨HKx.out.own.kind (o := o) yon HYO.out 2, HKx.out.box.other (a := ⟨gO, o * 2, none⟩) bneo.symm _, HKx.out.bel.setCell (p := ⟨gO, o * 2, none⟩) (by show W0.heap.size ≤ gO; omega) _, by have := HKx.out.le; simpa using this⟩
            have HTS : Hid (SameT (kindS y o 2) (pickT p s o l b n)) := by
              unfold pickT
              rw [HGT.out, if_pos rfl]
              exact kindS_same HSM.out o 2
            generalize kindS y o 2 = x at HKk HTS
            obtain ⟨m1, p0, p1, p2, p3, p4, p5, p6⟩ := Boxed.of HKk.out.box
            obtain ⟨-, -, -, hBw, hz⟩ := HC.out _ HKk.out.bel
            have HZ : Hid (Below w.heap.size w (wx.setCell ⟨gO, o * 2, none⟩ (.int .i64 2)) ∧ Blk (wx.setCell ⟨gO, o * 2, none⟩ (.int .i64 2)) (w.heap.size + 2) 31 7 (fun _ => .slice .none 0 0)) := ⟨hBw, hz⟩
            have zl := hz.lt
            have zf0 := hz.frozen 0
            have zc0 := hz.cell (j := 0) (by decide)
            have zf1 := hz.frozen 1
            have zc1 := hz.cell (j := 1) (by decide)
            have zf2 := hz.frozen 2
            have zc2 := hz.cell (j := 2) (by decide)
            have zf3 := hz.frozen 3
            have zc3 := hz.cell (j := 3) (by decide)
            have zf4 := hz.frozen 4
            have zc4 := hz.cell (j := 4) (by decide)
            have zf5 := hz.frozen 5
            have zc5 := hz.cell (j := 5) (by decide)
            have zf6 := hz.frozen 6
            have zc6 := hz.cell (j := 6) (by decide)
            have hlow := (HC.out _ (Below.refl _ _)).2.2.2.1.size
            clear h2' h5 h6 b2 b3 hBw hz HKx
            generalize (y.os.z o).k = KK at *
            go_wp2_with fail
            have KZ := set7_blk HZ.out.2 (.slice x.on.a x.on.n x.on.c) (.slice x.os.a x.os.n x.os.c) (.slice x.hs.a x.hs.n x.hs.c) (.slice x.ms.a x.ms.n x.ms.c) (.slice x.si.a x.si.n x.si.c) (.slice x.so.a x.so.n x.so.c) (.slice x.sf.a x.sf.n x.sf.c)
            have hbz := set7_below (b := w.heap.size + 2) HZ.out.1 (by omega) (.slice x.on.a x.on.n x.on.c) (.slice x.os.a x.os.n x.os.c) (.slice x.hs.a x.hs.n x.hs.c) (.slice x.ms.a x.ms.n x.ms.c) (.slice x.si.a x.si.n x.si.c) (.slice x.so.a x.so.n x.so.c) (.slice x.sf.a x.sf.n x.sf.c)
            have hOz := OwnS.set7 HKk.out.own HZ.out.2 (.slice x.on.a x.on.n x.on.c) (.slice x.os.a x.os.n x.os.c) (.slice x.hs.a x.hs.n x.hs.c) (.slice x.ms.a x.ms.n x.ms.c) (.slice x.si.a x.si.n x.si.c) (.slice x.so.a x.so.n x.so.c) (.slice x.sf.a x.sf.n x.sf.c)
            unfold set7 at KZ hbz hOz
            obtain ⟨c0', c1', c2', c3', c4', c5', c6'⟩ := box_cells KZ
            refine bodyPost_ret (v := .tuple #[x.val, .int .i64 0]) (by simp [results, Tryz.results11, go_sem, St.val, c0', c1', c2', c3', c4', c5', c6']) rfl ?_
            exact ⟨x, by rw [HX.out]; rfl, hOz.at, ⟨fun _ => HTS.out, fun h => absurd HX.out h⟩, fun _ => hOz.mono (by omega), hbz⟩
  · have HX : Hid (pickE p s order line bin n = stateE p s) := pickE_state h0
    have HNE : Hid (¬ pickE p s order line bin n = 0) := by show ¬ _; rw [pickE_state h0]; exact h0
    have g0 : (stateE p s != 0) = true := by simpa using h0
    clear h0
    clear hpk hsk
    have zl := hz.lt
    have zf0 := hz.frozen 0
    have zc0 := hz.cell (j := 0) (by decide)
    have zf1 := hz.frozen 1
    have zc1 := hz.cell (j := 1) (by decide)
    have zf2 := hz.frozen 2
    have zc2 := hz.cell (j := 2) (by decide)
    have zf3 := hz.frozen 3
    have zc3 := hz.cell (j := 3) (by decide)
    have zf4 := hz.frozen 4
    have zc4 := hz.cell (j := 4) (by decide)
    have zf5 := hz.frozen 5
    have zc5 := hz.cell (j := 5) (by decide)
    have zf6 := hz.frozen 6
    have zc6 := hz.cell (j := 6) (by decide)
    go_wp2_with fail
    have KZ := set7_blk hz (.slice .none 0 0) (.slice .none 0 0) (.slice .none 0 0) (.slice .none 0 0) (.slice .none 0 0) (.slice .none 0 0) (.slice .none 0 0)
    have hbz := set7_below (b := w.heap.size + 2) hBw (by omega) (.slice .none 0 0) (.slice .none 0 0) (.slice .none 0 0) (.slice .none 0 0) (.slice .none 0 0) (.slice .none 0 0) (.slice .none 0 0)
    unfold set7 at KZ hbz
    obtain ⟨c0', c1', c2', c3', c4', c5', c6'⟩ := box_cells KZ
    refine bodyPost_ret (v := .tuple #[noneS.val, .int .i64 (stateE p s)]) (by simp [results, Tryz.results11, go_sem, noneS, St.val, c0', c1', c2', c3', c4', c5', c6']) rfl ?_
    exact ⟨noneS, by rw [HX.out]; rfl, noneS_at _, ⟨fun h => absurd h (HNE.out), fun _ => ⟨rfl, rfl, rfl, rfl, rfl, rfl, rfl⟩⟩, fun h => absurd h (HNE.out), hbz⟩
end Go.Proofs.YtbcacebifpagpadGreat
namespace Go.Proofs.YtbcacebifpagpadGreat
open Go.RowKit Go.Shelf Go.Sort
set_option linter.unusedVariables false
theorem pickBusy (g1 g2 g : Nat) : pickE (yardP g1 g2) (busyS g 2 0) 0 0 1 1 = 0 ∧ pickE (yardP g1 g2) (busyS g 2 0) 0 1 2 6 = 0 ∧ pickE (yardP g1 g2) (busyS g 2 0) 1 0 0 1 = 4 ∧ pickE (yardP g1 g2) (busyS g 2 0) 0 0 1 4 = 3 := ⟨by kernel_rfl, by kernel_rfl, by kernel_rfl, by kernel_rfl⟩
def PickA (x : St) : Prop := 1 < x.on.n ∧ 0 < (x.on.r 1).n ∧ (x.on.r 1).z 0 = 2 ∧ 0 < x.so.n ∧ x.so.z 0 = 2 ∧ 0 < x.os.n ∧ 0 < (x.os.z 0).ls.n ∧ (x.os.z 0).ls.z 0 = ⟨0, 6, 2, 0⟩ ∧ x.hs.n = 2 ∧ 0 < x.hs.n ∧ x.hs.z 0 = ⟨0, 0, 0, 4⟩
theorem PickA_mk {g1 g2 g : Nat} {x : St} (h : ActOK (pickE (yardP g1 g2) (busyS g 2 0) 0 0 1 1) (pickT (yardP g1 g2) (busyS g 2 0) (0 : Int).toNat (0 : Int).toNat (1 : Int).toNat 1) x) : PickA x := by
  have e : SameT x (pickT (yardP g1 g2) (busyS g 2 0) 0 0 1 1) := h.1 (pickBusy g1 g2 g).1
  have a1 : 1 < x.on.n := by rw [e.on.1]; exact of_decide_eq_true (by kernel_rfl)
  have b1 : 0 < (x.on.r 1).n := by rw [(e.on.2 1 a1).1]; exact of_decide_eq_true (by kernel_rfl)
  have c1 : (x.on.r 1).z 0 = 2 := by rw [(e.on.2 1 a1).2 0 b1]; kernel_rfl
  have a2 : 0 < x.so.n := by rw [e.so.1]; exact of_decide_eq_true (by kernel_rfl)
  have b2 : x.so.z 0 = 2 := by rw [e.so.2 0 a2]; kernel_rfl
  have a3 : 0 < x.os.n := by rw [e.os.1]; exact of_decide_eq_true (by kernel_rfl)
  have b3 : 0 < (x.os.z 0).ls.n := by rw [(e.os.2 0 a3).2.1]; exact of_decide_eq_true (by kernel_rfl)
  have c3 : (x.os.z 0).ls.z 0 = ⟨0, 6, 2, 0⟩ := by rw [(e.os.2 0 a3).2.2 0 b3]; kernel_rfl
  have a4 : x.hs.n = 2 := by rw [e.hs.1]; kernel_rfl
  have a5 : 0 < x.hs.n := by rw [e.hs.1]; exact of_decide_eq_true (by kernel_rfl)
  have b5 : x.hs.z 0 = ⟨0, 0, 0, 4⟩ := by rw [e.hs.2 0 a5]; kernel_rfl
  exact ⟨a1, b1, c1, a2, b2, a3, b3, c3, a4, a5, b5⟩
def PickB (y : St) : Prop := 2 < y.on.n ∧ 1 < (y.on.r 2).n ∧ (y.on.r 2).z 1 = 0 ∧ 0 < y.os.n ∧ 1 < (y.os.z 0).ls.n ∧ (y.os.z 0).ls.z 1 = ⟨1, 9, 6, 3⟩
theorem PickB_mk {g1 g2 g : Nat} {y : St} (h : ActOK (pickE (yardP g1 g2) (busyS g 2 0) 0 1 2 6) (pickT (yardP g1 g2) (busyS g 2 0) (0 : Int).toNat (1 : Int).toNat (2 : Int).toNat 6) y) : PickB y := by
  have e : SameT y (pickT (yardP g1 g2) (busyS g 2 0) 0 1 2 6) := h.1 (pickBusy g1 g2 g).2.1
  have a1 : 2 < y.on.n := by rw [e.on.1]; exact of_decide_eq_true (by kernel_rfl)
  have b1 : 1 < (y.on.r 2).n := by rw [(e.on.2 2 a1).1]; exact of_decide_eq_true (by kernel_rfl)
  have c1 : (y.on.r 2).z 1 = 0 := by rw [(e.on.2 2 a1).2 1 b1]; kernel_rfl
  have a2 : 0 < y.os.n := by rw [e.os.1]; exact of_decide_eq_true (by kernel_rfl)
  have b2 : 1 < (y.os.z 0).ls.n := by rw [(e.os.2 0 a2).2.1]; exact of_decide_eq_true (by kernel_rfl)
  have c2 : (y.os.z 0).ls.z 1 = ⟨1, 9, 6, 3⟩ := by rw [(e.os.2 0 a2).2.2 1 b2]; kernel_rfl
  exact ⟨a1, b1, c1, a2, b2, c2⟩
set_option maxRecDepth 100000 in
set_option maxHeartbeats 2000000 in
theorem pickBegun_any (w : World) :
    Calls Tryz.prog 13 #[] w fun e w' => e = .returned (.bool true) ∧ Below w.heap.size w w' := by
  go_enter Tryz.func13, Tryz.ntmps13
  have HB : Hid (Below w.heap.size w w) := Below.refl _ _
  go_wp2_with fail
  refine (yard_any _).mono ?_
  rintro e wa ⟨g1, g2, rfl, -, -, k1, k2, hA⟩
  go_wp2_with fail
  refine (busy_any _).mono ?_
  rintro e wb ⟨g, rfl, -, bb, hB⟩
  have hD := hA.trans (hB.mono hA.size)
  have HAT : Hid ((yardP g1 g2).At wb ∧ (busyS g 2 0).At wb) := ⟨yardAt (k1.below hB) (k2.below hB), busyAt bb⟩
  clear hA hB k1 k2 bb
  simp only [busyS, St.val]
  go_wp2_with fail
  refine (Pick_any (yardP g1 g2) (busyS g 2 0) 0 0 1 1 wb HAT.out.1 HAT.out.2).mono ?_
  rintro e w1 ⟨x, rfl, atx, okx, -, hB⟩
  have hE := hD.trans (hB.mono hD.size)
  rw [(pickBusy g1 g2 g).1]
  have HPx : Hid (PickA x) := PickA_mk okx
  clear hD hB HAT okx
  obtain ⟨V0, hW, hWB, K1⟩ : ∃ W, w1.alloc (.cells #[.slice x.on.a x.on.n x.on.c, .slice x.os.a x.os.n x.os.c, .slice x.hs.a x.hs.n x.hs.c, .slice x.ms.a x.ms.n x.ms.c, .slice x.si.a x.si.n x.si.c, .slice x.so.a x.so.n x.so.c, .slice x.sf.a x.sf.n x.sf.c] 31) = W ∧ Below w1.heap.size w1 W ∧ Blk W w1.heap.size 31 7 (fun j => x.cells.getD j default) := ⟨_, rfl, (Below.refl _ _).alloc (Nat.le_refl _) _, Blk.mk' rfl rfl⟩
  have HW : Hid (w1.alloc (.cells #[.slice x.on.a x.on.n x.on.c, .slice x.os.a x.os.n x.os.c, .slice x.hs.a x.hs.n x.hs.c, .slice x.ms.a x.ms.n x.ms.c, .slice x.si.a x.si.n x.si.c, .slice x.so.a x.so.n x.so.c, .slice x.sf.a x.sf.n x.sf.c] 31) = V0) := hW
  have hE := hE.trans (hWB.mono hE.size)
  have HB : Hid (Below w.heap.size w V0) := HB.out.trans (hE.mono HB.out.size)
  have Hx : Hid (x.At V0 ∧ Blk V0 w1.heap.size 31 7 (fun j => x.cells.getD j default)) := ⟨atx.below hWB, K1⟩
  clear atx
  clear hW K1 hWB hE
  simp only [St.val]
  go_wp2_with fail
  rw [HW.out]
  clear HW
  generalize w1.heap.size = Bx at *
  refine (yard_any _).mono ?_
  rintro e wa ⟨g1, g2, rfl, -, -, k1, k2, hA⟩
  go_wp2_with fail
  refine (busy_any _).mono ?_
  rintro e wb ⟨g, rfl, -, bb, hB⟩
  have hD := hA.trans (hB.mono hA.size)
  have HAT : Hid ((yardP g1 g2).At wb ∧ (busyS g 2 0).At wb) := ⟨yardAt (k1.below hB) (k2.below hB), busyAt bb⟩
  clear hA hB k1 k2 bb
  simp only [busyS, St.val]
  go_wp2_with fail
  refine (Pick_any (yardP g1 g2) (busyS g 2 0) 0 1 2 6 wb HAT.out.1 HAT.out.2).mono ?_
  rintro e w2 ⟨y, rfl, aty, oky, -, hB⟩
  have hE := hD.trans (hB.mono hD.size)
  rw [(pickBusy g1 g2 g).2.1]
  have HPy : Hid (PickB y) := PickB_mk oky
  clear hD hB HAT oky
  obtain ⟨V1, hW, hWB, K1⟩ : ∃ W, w2.alloc (.cells #[.slice y.on.a y.on.n y.on.c, .slice y.os.a y.os.n y.os.c, .slice y.hs.a y.hs.n y.hs.c, .slice y.ms.a y.ms.n y.ms.c, .slice y.si.a y.si.n y.si.c, .slice y.so.a y.so.n y.so.c, .slice y.sf.a y.sf.n y.sf.c] 31) = W ∧ Below w2.heap.size w2 W ∧ Blk W w2.heap.size 31 7 (fun j => y.cells.getD j default) := ⟨_, rfl, (Below.refl _ _).alloc (Nat.le_refl _) _, Blk.mk' rfl rfl⟩
  have HW : Hid (w2.alloc (.cells #[.slice y.on.a y.on.n y.on.c, .slice y.os.a y.os.n y.os.c, .slice y.hs.a y.hs.n y.hs.c, .slice y.ms.a y.ms.n y.ms.c, .slice y.si.a y.si.n y.si.c, .slice y.so.a y.so.n y.so.c, .slice y.sf.a y.sf.n y.sf.c] 31) = V1) := hW
  have hE := hE.trans (hWB.mono hE.size)
  have HB : Hid (Below w.heap.size w V1) := HB.out.trans (hE.mono HB.out.size)
  have Hx : Hid (x.At V1 ∧ Blk V1 Bx 31 7 (fun j => x.cells.getD j default)) := ⟨Hx.out.1.below hE, Hx.out.2.below hE⟩
  have Hy : Hid (y.At V1 ∧ Blk V1 w2.heap.size 31 7 (fun j => y.cells.getD j default)) := ⟨aty.below hWB, K1⟩
  clear aty
  clear hW K1 hWB hE
  simp only [St.val]
  go_wp2_with fail
  rw [HW.out]
  clear HW
  generalize w2.heap.size = By at *
  refine (yard_any _).mono ?_
  rintro e wa ⟨g1, g2, rfl, -, -, k1, k2, hA⟩
  go_wp2_with fail
  refine (busy_any _).mono ?_
  rintro e wb ⟨g, rfl, -, bb, hB⟩
  have hD := hA.trans (hB.mono hA.size)
  have HAT : Hid ((yardP g1 g2).At wb ∧ (busyS g 2 0).At wb) := ⟨yardAt (k1.below hB) (k2.below hB), busyAt bb⟩
  clear hA hB k1 k2 bb
  simp only [busyS, St.val]
  go_wp2_with fail
  refine (Pick_any (yardP g1 g2) (busyS g 2 0) 1 0 0 1 wb HAT.out.1 HAT.out.2).mono ?_
  rintro e w3 ⟨u, rfl, -, -, -, hB⟩
  have hE := hD.trans (hB.mono hD.size)
  rw [(pickBusy g1 g2 g).2.2.1]
  clear hD hB HAT
  obtain ⟨V2, hW, hWB, K1⟩ : ∃ W, w3.alloc (.cells #[.slice u.on.a u.on.n u.on.c, .slice u.os.a u.os.n u.os.c, .slice u.hs.a u.hs.n u.hs.c, .slice u.ms.a u.ms.n u.ms.c, .slice u.si.a u.si.n u.si.c, .slice u.so.a u.so.n u.so.c, .slice u.sf.a u.sf.n u.sf.c] 31) = W ∧ Below w3.heap.size w3 W ∧ Blk W w3.heap.size 31 7 (fun j => u.cells.getD j default) := ⟨_, rfl, (Below.refl _ _).alloc (Nat.le_refl _) _, Blk.mk' rfl rfl⟩
  have HW : Hid (w3.alloc (.cells #[.slice u.on.a u.on.n u.on.c, .slice u.os.a u.os.n u.os.c, .slice u.hs.a u.hs.n u.hs.c, .slice u.ms.a u.ms.n u.ms.c, .slice u.si.a u.si.n u.si.c, .slice u.so.a u.so.n u.so.c, .slice u.sf.a u.sf.n u.sf.c] 31) = V2) := hW
  have hE := hE.trans (hWB.mono hE.size)
  have HB : Hid (Below w.heap.size w V2) := HB.out.trans (hE.mono HB.out.size)
  have Hx : Hid (x.At V2 ∧ Blk V2 Bx 31 7 (fun j => x.cells.getD j default)) := ⟨Hx.out.1.below hE, Hx.out.2.below hE⟩
  have Hy : Hid (y.At V2 ∧ Blk V2 By 31 7 (fun j => y.cells.getD j default)) := ⟨Hy.out.1.below hE, Hy.out.2.below hE⟩
  clear hW K1 hWB hE
  simp only [St.val]
  go_wp2_with fail
  rw [HW.out]
  clear HW
  generalize w3.heap.size = Bu at *
  refine (yard_any _).mono ?_
  rintro e wa ⟨g1, g2, rfl, -, -, k1, k2, hA⟩
  go_wp2_with fail
  refine (busy_any _).mono ?_
  rintro e wb ⟨g, rfl, -, bb, hB⟩
  have hD := hA.trans (hB.mono hA.size)
  have HAT : Hid ((yardP g1 g2).At wb ∧ (busyS g 2 0).At wb) := ⟨yardAt (k1.below hB) (k2.below hB), busyAt bb⟩
  clear hA hB k1 k2 bb
  simp only [busyS, St.val]
  go_wp2_with fail
  refine (Pick_any (yardP g1 g2) (busyS g 2 0) 0 0 1 4 wb HAT.out.1 HAT.out.2).mono ?_
  rintro e w4 ⟨v, rfl, -, -, -, hB⟩
  have hE := hD.trans (hB.mono hD.size)
  rw [(pickBusy g1 g2 g).2.2.2]
  clear hD hB HAT
  obtain ⟨V3, hW, hWB, K1⟩ : ∃ W, w4.alloc (.cells #[.slice v.on.a v.on.n v.on.c, .slice v.os.a v.os.n v.os.c, .slice v.hs.a v.hs.n v.hs.c, .slice v.ms.a v.ms.n v.ms.c, .slice v.si.a v.si.n v.si.c, .slice v.so.a v.so.n v.so.c, .slice v.sf.a v.sf.n v.sf.c] 31) = W ∧ Below w4.heap.size w4 W ∧ Blk W w4.heap.size 31 7 (fun j => v.cells.getD j default) := ⟨_, rfl, (Below.refl _ _).alloc (Nat.le_refl _) _, Blk.mk' rfl rfl⟩
  have HW : Hid (w4.alloc (.cells #[.slice v.on.a v.on.n v.on.c, .slice v.os.a v.os.n v.os.c, .slice v.hs.a v.hs.n v.hs.c, .slice v.ms.a v.ms.n v.ms.c, .slice v.si.a v.si.n v.si.c, .slice v.so.a v.so.n v.so.c, .slice v.sf.a v.sf.n v.sf.c] 31) = V3) := hW
  have hE := hE.trans (hWB.mono hE.size)
  have HB : Hid (Below w.heap.size w V3) := HB.out.trans (hE.mono HB.out.size)
  have Hx : Hid (x.At V3 ∧ Blk V3 Bx 31 7 (fun j => x.cells.getD j default)) := ⟨Hx.out.1.below hE, Hx.out.2.below hE⟩
  have Hy : Hid (y.At V3 ∧ Blk V3 By 31 7 (fun j => y.cells.getD j default)) := ⟨Hy.out.1.below hE, Hy.out.2.below hE⟩
  clear hW K1 hWB hE
  obtain ⟨xm, xc0, xc1, xc2, xc3, xc4, xc5, xc6⟩ := Boxed.of Hx.out.2
  obtain ⟨xh0, xh1, xh2, xh3, xh4, xh5, xh6, xh7, xh8, xh9, xh10⟩ := HPx.out
  obtain ⟨x1b, x1o, x1a, x1l, x1c, x1r⟩ := Hx.out.1.on.rows 1 xh0
  rw [x1a] at xc0
  have x1u := Hx.out.1.on.le
  have x1v := Hx.out.1.on.cap
  unfold maxLen at x1v
  clear x1a
  obtain ⟨x1B, x1O, x1A, x1L, x1C⟩ := x1r.ints 0 xh1
  rw [x1A] at x1c
  rw [xh2] at x1C
  have x1x := x1r.le
  have x1y := x1r.cap
  unfold maxLen at x1y
  have x1N : (0 : Int) < ((x.on.r 1).n : Int) := by omega
  have x1M : (1 : Int) < (x.on.n : Int) := by omega
  clear x1A x1r
  obtain ⟨x2B, x2O, x2A, x2L, x2C⟩ := Hx.out.1.so.ints 0 xh3
  rw [x2A] at xc5
  rw [xh4] at x2C
  have x2x := Hx.out.1.so.le
  have x2y := Hx.out.1.so.cap
  unfold maxLen at x2y
  have x2N : (0 : Int) < (x.so.n : Int) := by omega
  clear x2A
  obtain ⟨x3b, x3o, x3a, x3l, x3k, x3c, x3r⟩ := Hx.out.1.os.ods 0 xh5
  rw [x3a] at xc1
  have x3u := Hx.out.1.os.le
  have x3v := Hx.out.1.os.cap
  unfold maxLen at x3v
  have x3M : (0 : Int) < (x.os.n : Int) := by omega
  clear x3a
  obtain ⟨x3B, x3O, x3A, x3L, x3C0, x3C1, x3C2, x3C3⟩ := x3r.hds 0 xh6
  rw [x3A] at x3c
  rw [xh7] at x3C0 x3C1 x3C2 x3C3
  dsimp only at x3C0 x3C1 x3C2 x3C3
  have x3x := x3r.le
  have x3y := x3r.cap
  unfold maxLen at x3y
  have x3N : (0 : Int) < ((x.os.z 0).ls.n : Int) := by omega
  clear x3A
  obtain ⟨x5B, x5O, x5A, x5L, x5C0, x5C1, x5C2, x5C3⟩ := Hx.out.1.hs.hds 0 xh9
  rw [x5A] at xc2
  rw [xh10] at x5C0 x5C1 x5C2 x5C3
  dsimp only at x5C0 x5C1 x5C2 x5C3
  have x5x := Hx.out.1.hs.le
  have x5y := Hx.out.1.hs.cap
  unfold maxLen at x5y
  have x5N : (0 : Int) < (x.hs.n : Int) := by omega
  clear x5A
  try rw [xh8] at xc2
  try simp only [Nat.zero_mul, Nat.add_zero] at x1l x1c x1L x1C x2L x2C x3l x3k x3c x3L x3C0 x3C1 x3C2 x3C3 x5L x5C0 x5C1 x5C2 x5C3
  clear x3r
  obtain ⟨ym, yc0, yc1, yc2, yc3, yc4, yc5, yc6⟩ := Boxed.of Hy.out.2
  obtain ⟨yh0, yh1, yh2, yh3, yh4, yh5⟩ := HPy.out
  obtain ⟨y1b, y1o, y1a, y1l, y1c, y1r⟩ := Hy.out.1.on.rows 2 yh0
  rw [y1a] at yc0
  have y1u := Hy.out.1.on.le
  have y1v := Hy.out.1.on.cap
  unfold maxLen at y1v
  clear y1a
  obtain ⟨y1B, y1O, y1A, y1L, y1C⟩ := y1r.ints 1 yh1
  rw [y1A] at y1c
  rw [yh2] at y1C
  have y1x := y1r.le
  have y1y := y1r.cap
  unfold maxLen at y1y
  have y1N : (1 : Int) < ((y.on.r 2).n : Int) := by omega
  have y1M : (2 : Int) < (y.on.n : Int) := by omega
  clear y1A y1r
  obtain ⟨y2b, y2o, y2a, y2l, y2k, y2c, y2r⟩ := Hy.out.1.os.ods 0 yh3
  rw [y2a] at yc1
  have y2u := Hy.out.1.os.le
  have y2v := Hy.out.1.os.cap
  unfold maxLen at y2v
  have y2M : (0 : Int) < (y.os.n : Int) := by omega
  clear y2a
  obtain ⟨y2B, y2O, y2A, y2L, y2C0, y2C1, y2C2, y2C3⟩ := y2r.hds 1 yh4
  rw [y2A] at y2c
  rw [yh5] at y2C0 y2C1 y2C2 y2C3
  dsimp only at y2C0 y2C1 y2C2 y2C3
  have y2x := y2r.le
  have y2y := y2r.cap
  unfold maxLen at y2y
  have y2N : (1 : Int) < ((y.os.z 0).ls.n : Int) := by omega
  clear y2A
  try simp only [Nat.zero_mul, Nat.add_zero] at y1l y1c y1L y1C y2l y2k y2c y2L y2C0 y2C1 y2C2 y2C3
  clear y2r
  rw [← HW.out] at xm xc0 xc1 xc2 xc3 xc4 xc5 xc6 x1l x1c x1L x1C x2L x2C x3l x3k x3c x3L x3C0 x3C1 x3C2 x3C3 x5L x5C0 x5C1 x5C2 x5C3 ym yc0 yc1 yc2 yc3 yc4 yc5 yc6 y1l y1c y1L y1C y2l y2k y2c y2L y2C0 y2C1 y2C2 y2C3
  simp only [St.val]
  go_wp2_with fail
  go_ret
  exact ⟨by simp, HW.out ▸ HB.out⟩
end Go.Proofs.YtbcacebifpagpadGreat
namespace Go.Proofs.YtbcacebifpagpadGreat
open Go.RowKit Go.Shelf Go.Sort
set_option linter.unusedVariables false
structure RelI (p : Pl) (s y0 : St) (A B7 : Nat) (W0 : World) (cur : St) (wk : World) : Prop where
  own0 : OwnS A wk y0
  own : OwnS A wk cur
  box : Blk wk B7 31 7 (fun j => cur.cells.getD j default)
  bel : Below W0.heap.size W0 wk
  le : A ≤ wk.heap.size
theorem RelI.below {p : Pl} {s y0 cur : St} {A B7 : Nat} {W0 wk wj : World} (h : RelI p s y0 A B7 W0 cur wk) (hB : Below wk.heap.size wk wj) : RelI p s y0 A B7 W0 cur wj :=
  ⟨h.own0.below hB, h.own.below hB, h.box.below hB, h.bel.trans (hB.mono h.bel.size), Nat.le_trans h.le hB.size⟩
def RelA (p : Pl) (s : St) (i : Nat) (cur : St) : Prop := TkAll p (-1) (relQ s) (relM s) (relO s s.os.n) i cur
def RelB (p : Pl) (s : St) (i j : Nat) (cur : St) : Prop := ∃ y, RelA p s i y ∧ TkRow p (-1) (relQ s) i y j cur
theorem RelB.step {p : Pl} {s cur x : St} {i j : Nat} (h : RelB p s i j cur) (T : Step p (-1) cur i j (relQ s i j) x) : RelB p s i (j + 1) x := by
  obtain ⟨y, h1, h2⟩ := h
  exact ⟨y, h1, cur, h2, T⟩
end Go.Proofs.YtbcacebifpagpadGreat
namespace Go.Proofs.YtbcacebifpagpadGreat
open Go.RowKit
set_option linter.unusedVariables false
def vKind3 (o : Oper) : Bool := vKind2 o || match o.op with
  | .extract .. => true
  | .build .. => true
  | .field .. => true
  | .index .. => true
  | .unOp .. => true
  | _ => false
theorem vKind3_spec {P : Program} {o : Oper} {ρ : Operand → Value} {w w' : World} {n : Next} (hv : vKind3 o = true) (h : (execOp ρ o).run P w = .ok n w') : ∃ v, n = .value v := by
  unfold vKind3 at hv
  rw [Bool.or_eq_true] at hv
  rcases hv with hv | hv
  · exact vKind2_spec hv h
  · unfold execOp at h
    split at hv
    all_goals first
      | (cases hv; done)
      | (rename_i hx; rw [hx] at h; exact valued h)
theorem wpAnyT_firsts3 {P : Program} {l : List Oper} {Q : Exit → Act → World → Prop} {S : World → Prop} {T : Nat → Bool} {N : Nat} {K : Act → Prop} {w : World} {fuel : Nat} (hs : Region.noSelect l.toArray = true) (hS : S w) (hQ : ∀ c a a' w, Q (.panic c) a w → Q (.panic c) a' w) :
    ∀ (ks : List Nat) (os : List Oper) (listed : Array Bool) (a : Act), firstsB l.toArray ks listed = true → (∀ k ∈ ks, T k = false ∧ ∀ j, T j = true → reach l.toArray N j k = true) → Closed l.toArray listed → ks.map (fun k => l[k]?) = os.map some → (os.all vKind3) = true →
      wpQuiet P l.toArray S K os a → (∀ a, K a → Closed l.toArray (mark listed ks) → wpAnyT P l.toArray Q S T fuel (mark listed ks) a w) → wpAnyT P l.toArray Q S T (ks.length + fuel) listed a w
  | [], [], listed, a, _, _, hc, _, _, h, hK => by rw [List.length_nil, Nat.zero_add]; exact hK a h hc
  | k :: ks, o :: os, listed, a, hB, hTk, hc, hk, hv, h, hK => by
    simp only [List.map_cons, List.cons.injEq] at hk
    simp only [List.all_cons, Bool.and_eq_true] at hv
    simp only [firstsB, Bool.and_eq_true] at hB
    rw [List.length_cons, Nat.add_right_comm]
    have hready : k ∈ Region.ready .any l.toArray listed := by simpa using hB.1.1
    have go : ∀ v, YieldsIf P l.toArray S o v a → wpAnyT P l.toArray Q S T (ks.length + fuel) (listed.setIfInBounds k true) (a.put o.dst v) w → wpAnyT P l.toArray Q S T (ks.length + fuel + 1) listed a w :=
      fun v hy h' => wpAnyT_first (N := N) (by simpa using hk.1) (Region.noSelect_spec hs) (fun c a w hq => hQ _ _ _ _ hq) (hTk k (by simp)).2 (hTk k (by simp)).1 _ listed a w (Region.free_spec (by simpa using hk.1) hB.1.2) hready hc hy hS h'
    have again := fun (a : Act) (hq : wpQuiet P l.toArray S K os a) => wpAnyT_firsts3 (N := N) (T := T) (fuel := fuel) hs hS hQ ks os _ a hB.2 (fun k' hk' => hTk k' (by simp [hk'])) (hc.set hready) hk.2 hv.2 hq hK
    unfold wpQuiet at h
    split at h
    · rename_i hw
      obtain ⟨v, h1, h2⟩ := h
      refine go v (.inl ⟨hw, fun w' hS => ?_⟩) (again _ h2)
      have := h1 w' hS
      unfold Oper.quietAt at this
      cases hr : (execOp a.eval o).run P w' with
      | ok n w2 =>
        rw [hr] at this
        obtain ⟨u, rfl⟩ := vKind3_spec hv.1 hr
        simp only [Oper.quietUpon] at this
        rw [this.1, this.2]
      | halt x w2 => rw [hr] at this; exact this.elim
    · rename_i hw
      exact go undef (.inr ⟨by simpa using hw, rfl⟩) (again _ h)
  | [], _ :: _, _, _, _, _, _, hk, _, _, _ => by simp at hk
  | _ :: _, [], _, _, _, _, _, hk, _, _, _ => by simp at hk
def laterOf (n : Nat) (listed : Array Bool) : List Nat := (List.range n).filter (fun i => !listed.getD i true)
def phB (ops : Array Oper) : List (Bool × List Nat × Option Nat) → Array Bool → Bool
  | [], listed => Region.ready .any ops listed == []
  | (t, ks, c) :: r, listed => firstsB ops ks listed && ks.all (fun k => decide (k < ops.size)) && ks.all (fun k => !(laterOf ops.size (mark listed ks)).contains k) && (!t || ks.all (fun k => (laterOf ops.size (mark listed ks)).all (fun j => reach ops ops.size j k))) &&
      (match c with | some c => (Region.ready .any ops (mark listed ks) == [c]) && phB ops r ((mark listed ks).setIfInBounds c true) | none => phB ops r (mark listed ks))
def phN : List (Bool × List Nat × Option Nat) → Nat
  | [] => 0
  | (_, ks, some _) :: r => ks.length + (phN r + 1)
  | (_, ks, none) :: r => ks.length + phN r
def wpPh (P : Program) (l : List Oper) (Q : Exit → Act → World → Prop) : List (Bool × List Nat × Option Nat) → Act → World → Prop
  | [], a, w => Q .normal a w
  | (t, ks, some c) :: r, a, w => ∃ S : World → Prop, S w ∧ (t = false → ∀ w', S w') ∧ wpQuiet P l.toArray S (fun a1 => wpOp P l.toArray Q c (fun a2 w2 => wpPh P l Q r a2 w2) a1 w) (picks l ks) a
  | (t, ks, none) :: r, a, w => ∃ S : World → Prop, S w ∧ (t = false → ∀ w', S w') ∧ wpQuiet P l.toArray S (fun a1 => wpPh P l Q r a1 w) (picks l ks) a
theorem wpAnyT_of_any {P : Program} {ops : Array Oper} {Q : Exit → Act → World → Prop} {S : World → Prop} {T : Nat → Bool} : ∀ (fuel : Nat) (listed : Array Bool) (a : Act) (w : World), (∀ i, listed.getD i true = false → i < ops.size → T i = true ∨ ∀ w, S w) → wpAny P .any ops Q fuel listed a w → wpAnyT P ops Q S T fuel listed a w
  | 0, _, _, _, _, h => h
  | fuel + 1, listed, a, w, hT, h => ⟨h.1, fun i hi => wpOp_mono (fun a' w' h' => ⟨fun hTi => by
      obtain ⟨h1, o, h2, _⟩ := mem_ready.1 hi
      rcases hT i h1 (Array.getElem?_eq_some_iff.1 h2).1 with e | e
      · rw [e] at hTi; cases hTi
      · exact e w', wpAnyT_of_any fuel _ a' w' (fun j hj hjs => hT j (by
      by_cases e : i = j
      · subst e
        exact (mem_ready.1 hi).1
      · rw [getD_set_ne true e] at hj; exact hj) hjs) h'⟩) (h.2 i hi)⟩
theorem wpAny_ph {P : Program} {l : List Oper} {Q : Exit → Act → World → Prop} (hs : Region.noSelect l.toArray = true) (hQ : ∀ c a a' w, Q (.panic c) a w → Q (.panic c) a' w) : ∀ (ph : List (Bool × List Nat × Option Nat)) (listed : Array Bool) (a : Act) (w : World),
      phB l.toArray ph listed = true → (ph.all (fun x => (picks l x.2.1).all vKind3)) = true → Closed l.toArray listed → wpPh P l Q ph a w → wpAny P .any l.toArray Q (phN ph) listed a w
  | [], listed, a, w, hB, _, _, h => ⟨by simpa [phB] using hB, h⟩
  | (t, ks, c) :: r, listed, a, w, hB, hv, hcl, h => by
    simp only [phB, Bool.and_eq_true] at hB
    obtain ⟨⟨⟨⟨b1, b2⟩, b3⟩, b4⟩, b5⟩ := hB
    simp only [List.all_cons, Bool.and_eq_true] at hv
    have key := fun (S : World → Prop) (K : Act → Prop) (f : Nat) (hS : S w) (hST : t = false → ∀ w', S w') (hq : wpQuiet P l.toArray S K (picks l ks) a) (hK : ∀ a1, K a1 → Closed l.toArray (mark listed ks) → wpAny P .any l.toArray Q f (mark listed ks) a1 w) => wpAny_of_T _ _ _ _ (wpAnyT_firsts3 (P := P) (Q := Q) (S := S) (T := fun i => t && (laterOf l.toArray.size (mark listed ks)).contains i) (N := l.toArray.size) (fuel := f) (w := w) hs hS hQ ks (picks l ks) listed a b1
      (fun k hk => ⟨by
        have := List.all_eq_true.1 b3 k hk
        rw [Bool.not_eq_true'] at this
        rw [this, Bool.and_false], fun j hj => by
        rw [Bool.and_eq_true] at hj
        have b4' := b4
        rw [hj.1] at b4'
        simp only [Bool.not_true, Bool.false_or] at b4'
        exact List.all_eq_true.1 (List.all_eq_true.1 b4' k hk) j (by simpa using hj.2)⟩)
      hcl (picks_ok (by simpa using b2)) hv.1 hq (fun a1 h1 hcl1 => by
        refine wpAnyT_of_any _ _ _ _ (fun i hi his => ?_) (hK a1 h1 hcl1)
        cases t with
        | false => exact Or.inr (hST rfl)
        | true =>
          left
          have : i ∈ laterOf l.toArray.size (mark listed ks) := by
            unfold laterOf
            rw [List.mem_filter, List.mem_range]
            exact ⟨his, by rw [hi]; rfl⟩
          simpa using this))
    cases c with
    | none =>
      obtain ⟨S, hS, hST, hq⟩ := h
      exact key S _ (phN r) hS hST hq fun a1 h1 hcl1 => wpAny_ph hs hQ r _ a1 w b5 hv.2 hcl1 h1
    | some c =>
      obtain ⟨S, hS, hST, hq⟩ := h
      simp only [Bool.and_eq_true] at b5
      have hready : Region.ready .any l.toArray (mark listed ks) = [c] := by simpa using b5.1
      refine key S _ (phN r + 1) hS hST hq fun a1 h1 hcl1 => ?_
      refine ⟨fun e => (by rw [hready] at e; cases e), fun i hi => ?_⟩
      have hic : i = c := by rw [hready] at hi; simpa using hi
      subst hic
      exact wpOp_mono (fun a2 w2 h2 => wpAny_ph hs hQ r _ a2 w2 b5.2 hv.2 (hcl1.set hi) h2) h1
theorem wp_region_ph {P : Program} {l : List Oper} {Q : Exit → Act → World → Prop} {id : Nat} {a : Act} {w : World} (ph : List (Bool × List Nat × Option Nat))
    (hm : P.follows .mixedOrders = true) (hs : Region.noSelect l.toArray = true) (hB : phB l.toArray ph (Array.replicate l.length false) = true) (hv : (ph.all (fun x => (picks l x.2.1).all vKind3)) = true) (hl : phN ph = l.length)
    (h : wpPh P l (NoPanic Q) ph a w.drew) : (Code.region id l.toArray true).wp P Q a w := by
  refine wp_region_noPanic (wp_region_any hm ?_)
  have := wpAny_ph (Q := NoPanic Q) hs (fun c a a' w h => (h : False).elim) ph _ a w.drew hB hv (Closed.none _ _) h
  rw [hl] at this
  simpa using this
theorem wpOp_one {P : Program} {l : List Oper} {Q : Exit → Act → World → Prop} {K : Act → World → Prop} (k : Nat) {o : Oper} {a : Act} {w : World} (hk : l[k]? = some o)
    (h : wpList P l.toArray (Exit.then K Q) [o] a w) : wpOp P l.toArray Q k K a w := wpOp_list k hk h
end Go.Proofs.YtbcacebifpagpadGreat
namespace Go.Proofs.YtbcacebifpagpadGreat
open Go.RowKit Go.Shelf
set_option linter.unusedVariables false
theorem Hs.At.congr {w : World} {s : Hs} {z' : Nat → Hd} {n : Nat} (h : s.At w) (hn : s.n = n) (hz : ∀ j, j < s.n → s.z j = z' j) : Hs.At w ⟨s.a, n, s.c, z'⟩ := by
  subst hn
  refine ⟨h.le, h.cap, fun i hi => ?_, h.nilc⟩
  have := h.hds i hi
  rw [hz i hi] at this
  exact this
end Go.Proofs.YtbcacebifpagpadGreat
namespace Go.Proofs.YtbcacebifpagpadGreat
open Go.RowKit Go.Shelf Go.Sort
set_option linter.unusedVariables false
theorem with_addO (s : Hs) (h : Hd) (w : World) (hs : s.At w) (hr : anyB s.n (badH s.z) = false) (hf : fineH h = true) :
    Calls Tryz.prog 35 #[s.val, .int .i64 h.o, .int .i64 h.l, .int .i64 h.b, .int .i64 (keptV s.n s.z h.o h.l h.b + h.n)] w fun e w' => ∃ s' : Hs, e = .returned s'.val ∧ OwnH w.heap.size 55 w' s' ∧ s'.n = addLen s.n s.z h ∧ s'.z = addZ s.n s.z h ∧ Below w.heap.size w w' := by
  obtain ⟨p1, p2, p3⟩ := pos_key hr hf
  have hfh := fineH_true hf
  by_cases h0 : keptV s.n s.z h.o h.l h.b = 0
  · have no := kept_no hr h0
    have hst : ∀ j, addPos s.n s.z h ≤ j → j < s.n → keyH h < keyH (s.z j) := fun j hj hjn => by
      have a := p3 j hj hjn
      have b : ¬ keyH (s.z j) = keyH h := fun e => by
        have := key_match (right_fine hr j hjn) hf e
        rw [no j hjn] at this
        cases this
      omega
    rw [h0, Int.zero_add]
    have e1 : addLen s.n s.z h = s.n + 1 := if_pos h0
    have e2 : addZ s.n s.z h = insZ s.z (addPos s.n s.z h) h := if_pos h0
    rw [e1, e2]
    exact with_insO s h (addPos s.n s.z h) w hs hr (rng_of hf) p1 (fun hlt => hst _ (Nat.le_refl _) hlt) (by omega) p2 (fun j hj hjn => hst j (by omega) hjn)
  · obtain ⟨q1, q2, q3, q4, q5⟩ := kept_pos hr h0
    have hkey : keyH (s.z (dropI s.n s.z h.o h.l h.b)) = keyH h := match_key (n := h.n) q2
    have hp : dropI s.n s.z h.o h.l h.b = addPos s.n s.z h := by
      rcases Nat.lt_trichotomy (dropI s.n s.z h.o h.l h.b) (addPos s.n s.z h) with c | c | c
      · have := p2 _ c; omega
      · exact c
      · have := q4 _ c
        have := p3 _ (Nat.le_refl _) (by omega)
        omega
    rw [hp] at q1 q2 q3 q4 q5 hkey
    have hz := fineH_true (right_fine hr _ q1)
    have e1 : addLen s.n s.z h = s.n := if_neg h0
    have e2 : addZ s.n s.z h = setZ s.z (addPos s.n s.z h) ⟨h.o, h.l, h.b, keptV s.n s.z h.o h.l h.b + h.n⟩ := if_neg h0
    rw [e1, e2]
    exact with_setO s ⟨h.o, h.l, h.b, keptV s.n s.z h.o h.l h.b + h.n⟩ (addPos s.n s.z h) w hs hr ⟨hfh.1, hfh.2.1, hfh.2.2.1⟩ q1 hkey (by show ¬ keptV s.n s.z h.o h.l h.b + h.n = 0; omega) (fun j hj => by have := q4 j hj; rw [hkey] at this; exact this) (fun j hj hjn => by have := q5 j hj hjn; rw [hkey] at this; exact this)
theorem keptAt_b (s : Hs) (o l b : Int) (w : World) (hs : s.At w) :
    Calls Tryz.prog 34 #[s.val, .int .i64 o, .int .i64 l, .int .i64 b] w fun e w' => e = .returned (.int .i64 (keptV s.n s.z o l b)) ∧ Below w.heap.size w w' :=
  (keptAt_any s o l b w hs).mono fun e w' h => ⟨h.1, by rw [h.2]; exact Below.refl _ _⟩
end Go.Proofs.YtbcacebifpagpadGreat
namespace Go.Proofs.YtbcacebifpagpadGreat
open Go.RowKit Go.Shelf Go.Sort
set_option linter.unusedVariables false
def wayK (p : Pl) (but : Int) (k : Nat) : List Int := ((wayL p).take k).filter (fun b => !(b == but))
theorem wayK_succ {p : Pl} {but : Int} {k : Nat} (hk : k < (wayL p).length) : wayK p but (k + 1) = wayK p but k ++ if (wayL p).getD k 0 = but then [] else [(wayL p).getD k 0] := by
  unfold wayK
  rw [List.take_add_one, List.getElem?_eq_getElem hk, List.filter_append]
  have e : (wayL p).getD k 0 = (wayL p)[k] := by simp [List.getD, List.getElem?_eq_getElem hk]
  rw [e]
  congr 1
  by_cases h : (wayL p)[k] = but <;> simp [h]
theorem wayK_all (p : Pl) (but : Int) : wayK p but (wayL p).length = wayT p but := by unfold wayK wayT; rw [List.take_length]
theorem wayK_apart (p : Pl) (but : Int) (k : Nat) : (wayK p but k).Pairwise (fun x y => ¬ x = y) := (((way_pw p).imp fun h => h.1).sublist (List.take_sublist _ _)).filter _
theorem wayK_mem {p : Pl} {but x : Int} {k : Nat} (h : x ∈ wayK p but k) : x ∈ (wayL p).take k := (List.mem_filter.1 h).1
theorem wayK_in {p : Pl} {but x : Int} {k : Nat} (h : x ∈ wayK p but k) : 0 ≤ x ∧ x < p.nb := way_mem (List.mem_of_mem_take (wayK_mem h))
theorem wayK_new {p : Pl} {but : Int} {k : Nat} (hk : k < (wayL p).length) : (wayL p).getD k 0 ∉ wayK p but k := fun h => by
  have h1 := wayK_mem h
  have e : (wayL p).getD k 0 = (wayL p)[k] := by simp [List.getD, List.getElem?_eq_getElem hk]
  rw [e] at h1
  obtain ⟨j, hj, hj2⟩ := List.mem_iff_getElem.1 h1
  rw [List.length_take] at hj
  rw [List.getElem_take] at hj2
  have hp := List.pairwise_iff_getElem.1 (way_pw p) j k (by omega) hk (by omega)
  exact hp.1 hj2
def TakeJ (s : St) (o l : Nat) (n : Int) (t : Tk) (F : List Int) (A BX BL g : Nat) (wk : World) : Prop :=
  ∃ x : St, Took s o l n t x ∧ OwnS A wk x ∧ Blk wk BX 31 7 (fun j => x.cells.getD j default) ∧ Blk wk g 3 F.length (fun j => .int .i64 (F.getD j 0)) ∧ (x.os.z o).ls.a = some ⟨BL, 0, none⟩ ∧ Blk wk (BX + 1) 31 7 (fun _ => .slice .none 0 0)
def KeepL (w wk : World) : Prop := ∀ (q : Nat) (t : TypeId) (m : Nat) (f : Nat → Value), t ≠ 49 → Blk w q t m f → Blk wk q t m f
theorem KeepL.below {w wk wj : World} (h : KeepL w wk) (hB : Below wk.heap.size wk wj) : KeepL w wj := fun q t m f ht hb => (h q t m f ht hb).below hB
theorem KeepL.refl (w : World) : KeepL w w := fun _ _ _ _ _ h => h
theorem KeepL.setNew {w wk : World} (h : KeepL w wk) {B : Nat} (hB : w.heap.size ≤ B) (j : Nat) (u : Value) : KeepL w (wk.setCell ⟨B, j, none⟩ u) := fun q t m f ht hb => (h q t m f ht hb).other (a := ⟨B, j, none⟩) (by have := hb.lt; show q ≠ B; omega) u
theorem KeepL.setLine {w wk : World} (h : KeepL w wk) {B n : Nat} {z : Nat → Value} (hB : Blk wk B 49 n z) (j : Nat) (u : Value) : KeepL w (wk.setCell ⟨B, j, none⟩ u) := fun q t m f ht hb => (h q t m f ht hb).other (a := ⟨B, j, none⟩) (Blk.ne2 (h q t m f ht hb) hB ht) u
def DWith (A : Nat) (x : Hs) (h : Hd) (v : Value) (g : List Nat) (wk : World) : Prop := ∃ y : Hs, g = [] ∧ v = .slice y.a y.n y.c ∧ OwnH A 55 wk y ∧ y.n = addLen x.n x.z h ∧ y.z = addZ x.n x.z h
theorem DWith.below {A : Nat} {x : Hs} {h : Hd} {v : Value} {g : List Nat} {w w' : World} (k : DWith A x h v g w) (hB : Below w.heap.size w w') : DWith A x h v g w' := by
  obtain ⟨y, h1, h2, h3, h4⟩ := k
  exact ⟨y, h1, h2, h3.below hB, h4⟩
set_option maxRecDepth 100000 in
set_option maxHeartbeats 8000000 in
theorem take_any (p : Pl) (s : St) (o l A : Nat) (n but : Int) (w : World) (hp : p.At w) (hO : OwnS A w s) (hA : A ≤ w.heap.size) (hI : TakeIn p s o l n) :
    Calls Tryz.prog 24 #[p.val, s.val, .int .i64 (o : Int), .int .i64 (l : Int), .int .i64 n, .int .i64 but] w fun e w' => ∃ x : St, e = .returned (.tuple #[x.val, .int .i64 (Tk.go (avT s o l) n (wayT p but)).left]) ∧ Took s o l n (Tk.go (avT s o l) n (wayT p but)) x ∧ OwnS A w' x ∧ Below A w w' ∧ KeepL w w' := by
  obtain ⟨W0, hW, hWB, X0, Z0⟩ : ∃ W, (((w.alloc (.cells #[.slice p.ab p.nb p.cb, .slice p.sa p.ns p.cs] 25)).alloc (.cells s.cells 31)).alloc (.cells #[.slice .none 0 0, .slice .none 0 0, .slice .none 0 0, .slice .none 0 0, .slice .none 0 0, .slice .none 0 0, .slice .none 0 0] 31)) = W ∧ Below w.heap.size w W ∧ Blk W (w.heap.size + 1) 31 7 (fun j => s.cells.getD j default) ∧ Blk W (w.heap.size + 1 + 1) 31 7 (fun _ => .slice .none 0 0) :=
    ⟨_, rfl, (two_below _ _ _).alloc (by simp; omega) _, (Blk.mk' (by simp) rfl).alloc _, (Blk.mk' (cur := #[.slice .none 0 0, .slice .none 0 0, .slice .none 0 0, .slice .none 0 0, .slice .none 0 0, .slice .none 0 0, .slice .none 0 0]) (by simp) rfl).congr (fun j hj => by match j, hj with | 0, _ => rfl | 1, _ => rfl | 2, _ => rfl | 3, _ => rfl | 4, _ => rfl | 5, _ => rfl | 6, _ => rfl)⟩
  have HW : Hid (((w.alloc (.cells #[.slice p.ab p.nb p.cb, .slice p.sa p.ns p.cs] 25)).alloc (.cells #[.slice s.on.a s.on.n s.on.c, .slice s.os.a s.os.n s.os.c, .slice s.hs.a s.hs.n s.hs.c, .slice s.ms.a s.ms.n s.ms.c, .slice s.si.a s.si.n s.si.c, .slice s.so.a s.so.n s.so.c, .slice s.sf.a s.sf.n s.sf.c] 31)).alloc (.cells #[.slice .none 0 0, .slice .none 0 0, .slice .none 0 0, .slice .none 0 0, .slice .none 0 0, .slice .none 0 0, .slice .none 0 0] 31) = W0) := hW
  have HI : Hid (TakeIn p s o l n) := hI
  have HP : Hid (p.At W0) := hp.below hWB
  have leb := hp.leb
  have capb := hp.capb
  have nb1 := hI.fm.sh.pl.nb1
  have nb6 := hI.fm.sh.pl.nb6
  have ho := hI.on
  have hl := hI.ln
  unfold maxLen at capb
  have HX0 : Hid (OwnS A W0 s ∧ Blk W0 (w.heap.size + 1) 31 7 (fun j => s.cells.getD j default) ∧ Blk W0 (w.heap.size + 1 + 1) 31 7 (fun _ => .slice .none 0 0) ∧ Below A w W0) := ⟨OwnS.below hO hWB, X0, Z0, hWB.mono hA⟩
  clear hW X0 Z0 hp hO hI
  unfold Pl.val St.val
  go_enter Tryz.func24, Tryz.ntmps24
  go_wp2_with fail
  rw [HW.out]
  refine (WayOfOwn_any p W0 HP.out nb6).mono ?_
  rintro e w1 ⟨v, rfl, hown, hB1⟩
  have HWL : Hid ((wayL p).length = p.nb) := way_len p
  have hv : v ≠ .slice none 0 0 := by
    rintro rfl
    rcases hown.2 with ⟨_, h0⟩ | ⟨g2, cap2, cur2, h, _⟩
    · have := HWL.out; omega
    · cases h
  obtain ⟨g, c, rfl, hc1, hc2, hg, hk⟩ := Blk.ofOwns hown hv
  have hk2 : Blk w1 g 3 (wayL p).length (fun j => .int .i64 ((wayL p).getD j 0)) := by
    have h := hk.less (m := (wayL p).length) (by omega)
    refine h.congr fun j hj => ?_
    simp [List.getD, List.getElem?_eq_getElem hj]
  obtain ⟨hO0, X0, Z0, hA0⟩ := HX0.out
  have hO1 := OwnS.below hO0 hB1
  have X1 := X0.below hB1
  have Z1 := Z0.below hB1
  have hA1 := hA0.trans (hB1.mono (Nat.le_trans hA hWB.size))
  obtain ⟨gO, BL, f1, f2, f3, f4, f5, f6, f7, f8, f9, f10, f11, f12, f13, f14⟩ := hO1.lineCell ho hl
  have HINV : Hid (TakeJ s o l n (Tk.go (avT s o l) n (wayK p but 0)) (wayL p) A (w.heap.size + 1) BL g w1) := ⟨s, Took.start HI.out.fm.hold ⟨⟨rfl, fun _ _ => ⟨rfl, fun _ _ => rfl⟩⟩, ⟨rfl, fun _ _ => ⟨rfl, rfl, fun _ _ => rfl⟩⟩, ⟨rfl, fun _ _ => rfl⟩, ⟨rfl, fun _ _ => rfl⟩, ⟨rfl, fun _ _ => rfl⟩, ⟨rfl, fun _ _ => rfl⟩, ⟨rfl, fun _ _ => rfl⟩⟩, hO1, X1, hk2, f5, Z1⟩
  have HKP : Hid (KeepL w w1) := ((KeepL.refl w).below hWB).below hB1
  have HBA : Hid (Below A w w1 ∧ A ≤ BL ∧ w.heap.size + 1 < W0.heap.size ∧ W0.heap.size ≤ g) := ⟨hA1, f6, X0.lt, hg⟩
  have s1 : w1.cell? ⟨w.heap.size + 1, 1, none⟩ = some (.slice s.os.a s.os.n s.os.c) := X1.cell (j := 1) (by decide)
  have s2 := X1.lt
  have v1 := hO1.os.le
  have v2 := hO1.os.cap
  rw [f1] at s1
  unfold maxLen at v2 f9 hc2
  have qo : (0 : Int) ≤ (o : Int) := by omega
  have ql : (0 : Int) ≤ (l : Int) := by omega
  have hgd := HI.out.good
  obtain ⟨gd, hgv⟩ := Int.eq_ofNat_of_zero_le hgd.1
  have HGV : Hid (((s.os.z o).ls.z l).o = (gd : Int)) := hgv
  have hgdn : gd < p.ns := by omega
  rw [hgv] at f11
  clear hown hv hk hk2 hO0 X0 Z0 hA0 hO1 X1 Z1 hA1 f1 f2 f5 f6 f10 f12 f13 f14 HX0 HW HP hB1 hgd hgv hg
  go_wp2_with fail
  clear s1 s2 f3 f4 f7 f8 f9 f11 v1 v2
  go_loopw [4, 16] (fun nv kv wk => ∃ k : Nat, k ≤ (wayL p).length ∧ kv = .int .i64 k ∧ nv = .int .i64 (Tk.go (avT s o l) n (wayK p but k)).left ∧ Hid (TakeJ s o l n (Tk.go (avT s o l) n (wayK p but k)) (wayL p) A (w.heap.size + 1) BL g wk) ∧ Hid (Below A w wk) ∧ Hid (KeepL w wk)) (fun _ kv _ => (wayL p).length - (intOf kv).toNat)
  case atStart => exact ⟨0, Nat.zero_le _, rfl, rfl, HINV, HBA.out.1, HKP⟩
  case round =>
    clear HINV HKP
    obtain ⟨k, hk, rfl, rfl, HV, HBk, HKP⟩ := hrel
    have HTK : Hid (TkOK (avT s o l) n (wayK p but k) (Tk.go (avT s o l) n (wayK p but k))) := HI.out.tk (wayK_apart p but k) (fun x hx => wayK_in hx)
    have HSTEP : Hid (k < (wayL p).length → Tk.go (avT s o l) n (wayK p but (k + 1)) = if (wayL p).getD k 0 = but then Tk.go (avT s o l) n (wayK p but k) else (Tk.go (avT s o l) n (wayK p but k)).step (avT s o l) ((wayL p).getD k 0)) := fun h => by
      rw [wayK_succ h]
      by_cases hb : (wayL p).getD k 0 = but
      · rw [if_pos hb, if_pos hb, List.append_nil]
      · rw [if_neg hb, if_neg hb, Tk.go_more]
    have HEND : Hid (k = (wayL p).length → Tk.go (avT s o l) n (wayK p but k) = Tk.go (avT s o l) n (wayT p but)) := fun h => by rw [h, wayK_all]
    obtain ⟨x, hx⟩ := HV.out
    have HX : Hid (Took s o l n (Tk.go (avT s o l) n (wayK p but k)) x ∧ OwnS A wr x ∧ Blk wr (w.heap.size + 1) 31 7 (fun j => x.cells.getD j default) ∧ Blk wr g 3 (wayL p).length (fun j => .int .i64 ((wayL p).getD j 0)) ∧ (x.os.z o).ls.a = some ⟨BL, 0, none⟩ ∧ Blk wr (w.heap.size + 1 + 1) 31 7 (fun _ => .slice .none 0 0)) := hx
    obtain ⟨T, hTd⟩ : ∃ T, Tk.go (avT s o l) n (wayK p but k) = T := ⟨_, rfl⟩
    rw [hTd] at HTK HSTEP HEND HX ⊢
    clear hx HV hTd
    have tl0 := HTK.out.left0
    have tln := HTK.out.leftn
    have nbk := HI.out.bk
    by_cases hlt : k < (wayL p).length
    · have HS1 : Hid _ := HSTEP.out hlt
      obtain ⟨hbm0, hbm1⟩ := way_mem (List.mem_iff_getElem.2 ⟨k, hlt, rfl⟩ : (wayL p)[k] ∈ wayL p)
      have hbe : (wayL p).getD k 0 = (wayL p)[k] := by simp [List.getD, List.getElem?_eq_getElem hlt]
      have z0 := HX.out.2.2.2.1.cell (j := k) hlt
      have z1 := HX.out.2.2.2.1.lt
      rw [← hbe] at hbm0 hbm1
      obtain ⟨bv, hbv⟩ := Int.eq_ofNat_of_zero_le hbm0
      have HBV : Hid ((wayL p).getD k 0 = (bv : Int)) := hbv
      rw [hbv] at z0 hbm1
      have hbvn : bv < p.nb := by omega
      have hnew := wayK_new (but := but) hlt
      rw [hbv] at hnew
      have HFX : Hid (Formed p x) := HI.out.formed (fun x hx => wayK_in hx) HTK.out HX.out.1
      have HAX : Hid (availZ x bv gd = avT s o l bv) := by
        have h := HI.out.availAt (fun x hx => wayK_in hx) HTK.out HX.out.1 hbvn hnew
        rw [HGV.out] at h
        exact h
      have avb : -20000 ≤ avT s o l bv ∧ avT s o l bv ≤ 200 := by
        have f := HI.out.fm
        have h1 := f.sh.num bv (by rw [f.sh.n]; exact hbvn) gd hgdn
        have h2 := heldTo_bd (s := s) (b := bv) (g := gd) f.holdN
        have h3 := fromTo_bd (s := s) (b := bv) (g := gd) f.moveN
        have h4 := f.hs72
        have h5 := f.ms8
        unfold avT
        rw [HGV.out]
        show -20000 ≤ availZ s bv gd ∧ availZ s bv gd ≤ 200
        unfold availZ
        omega
      have HAVE : Hid (avT s o l ((wayL p).getD k 0) = avT s o l bv) := by show avT s o l ((wayL p).getD k 0) = _; rw [hbv]
      generalize hAVd : avT s o l (bv : Int) = AV at *
      clear hAVd hnew hbm0 hbm1 hbe
      have q0 : (0 : Int) ≤ (k : Int) := by omega
      obtain ⟨N, hN⟩ : ∃ N, T.left = N := ⟨_, rfl⟩
      have HN : Hid (T.left = N) := hN
      rw [hN] at tl0 tln ⊢
      clear hN
      have HMZ : Hid (∀ m, min N AV = m → min T.left (avT s o l ((wayL p).getD k 0)) = m) := fun m h => by rw [HAVE.out, HN.out]; exact h
      rw [hbv] at HS1
      clear hbv HSTEP HEND
      have hNb : N ≤ 200 := by
        have := HI.out.sum
        have := (keptS_bd (z := s.hs.z) o l s.hs.n fun j hj => (fineH_true (right_fine HI.out.fm.hold j hj)).2.2.2).1
        omega
      by_cases hbut : (bv : Int) = but
      · have hbd : ((bv : Int) == but) = true := by simpa using hbut
        have HNX : Hid (Tk.go (avT s o l) n (wayK p but (k + 1)) = T) := by
          show Tk.go (avT s o l) n (wayK p but (k + 1)) = T
          rw [HS1.out, if_pos hbut]
        clear hbut
        go_wp2_with fail
        go_roundw
        case rel => exact ⟨k + 1, by omega, by go_num, by rw [HNX.out, HN.out], by rw [HNX.out]; exact ⟨x, HX.out⟩, HBk, HKP⟩
        case measure => simp [intOf]; omega
      · have hbd : ((bv : Int) == but) = false := by simpa using hbut
        have HS2 : Hid (Tk.go (avT s o l) n (wayK p but (k + 1)) = T.step (avT s o l) (bv : Int)) := by
          show Tk.go (avT s o l) n (wayK p but (k + 1)) = _
          rw [HS1.out, if_neg hbut]
        clear hbut HS1
        have KX := HX.out.2.2.1
        obtain ⟨m1, p0, p1, p2, p3, p4, p5, p6⟩ := Boxed.of KX
        have HAL : Hid (Calls Tryz.prog 61 #[x.val, .int .i64 (bv : Int), .int .i64 (gd : Int)] wr fun e w' => e = .returned (.int .i64 AV) ∧ Below wr.heap.size wr w') := by
          have h := AvailOf_any p x bv gd wr HX.out.2.1.at HFX.out hbvn hgdn
          rw [HAX.out] at h
          exact h
        clear KX
        go_wp2_with fail
        refine HAL.out.mono ?_
        rintro e w9 ⟨rfl, hB9⟩
        clear m1 p0 p1 p2 p3 p4 p5 p6 HAL z0 z1
        have HBk9 : Hid (Below A w w9) := HBk.out.trans (hB9.mono (Nat.le_trans hA HBk.out.size))
        have HX9 : Hid (Took s o l n T x ∧ OwnS A w9 x ∧ Blk w9 (w.heap.size + 1) 31 7 (fun j => x.cells.getD j default) ∧ Blk w9 g 3 (wayL p).length (fun j => .int .i64 ((wayL p).getD j 0)) ∧ (x.os.z o).ls.a = some ⟨BL, 0, none⟩ ∧ Blk w9 (w.heap.size + 1 + 1) 31 7 (fun _ => .slice .none 0 0)) := ⟨HX.out.1, OwnS.below HX.out.2.1 hB9, HX.out.2.2.1.below hB9, HX.out.2.2.2.1.below hB9, HX.out.2.2.2.2.1, HX.out.2.2.2.2.2.below hB9⟩
        have HKP9 : Hid (KeepL w w9) := HKP.out.below hB9
        clear HX HBk hB9 HKP
        by_cases hm0 : min N AV ≤ 0
        · have hm1 : min N AV = 0 := by
            have := HI.out.av bv hbvn
            have e : avT s o l (bv : Int) = availZ s bv ((s.os.z o).ls.z l).o.toNat := rfl
            have := HAVE.out
            rw [HBV.out, e] at this
            omega
          have g1 : ¬ 0 < min N AV := by omega
          have g2 : decide (0 < min N AV) = false := decide_eq_false g1
          have HNX : Hid (TakeJ s o l n (Tk.go (avT s o l) n (wayK p but (k + 1))) (wayL p) A (w.heap.size + 1) BL g w9 ∧ (Tk.go (avT s o l) n (wayK p but (k + 1))).left = N) := by
            have e0 : min T.left (avT s o l (bv : Int)) = 0 := by have h := HMZ.out 0 hm1; rw [HBV.out] at h; exact h
            refine ⟨⟨x, ?_, HX9.out.2⟩, ?_⟩
            · rw [HS2.out]
              exact HX9.out.1.stepZero e0
            · rw [HS2.out]
              show T.left - min T.left _ = N
              rw [e0, HN.out]
              omega
          clear hm0
          go_wp2_with fail
          go_roundw
          case rel => exact ⟨k + 1, by omega, by go_num, by rw [HNX.out.2], HNX.out.1, HBk9, HKP9⟩
          case measure => simp [intOf]; omega
        · obtain ⟨MV, hMV⟩ : ∃ MV, min N AV = MV := ⟨_, rfl⟩
          have HM1 : Hid (min N AV = MV) := hMV
          have mv0 : 0 < MV := by omega
          have mv1 : MV ≤ N := by omega
          have g2 : decide (0 < MV) = true := decide_eq_true mv0
          have HAE : Hid (fineH (tookH o l bv MV) = true ∧ keptV x.hs.n x.hs.z o l bv + MV ≤ 200 ∧ addE x.hs.n x.hs.z (tookH o l bv MV) = 0) := HI.out.addE (fun x hx => wayK_in hx) HTK.out HX9.out.1 (b := (bv : Int)) ⟨by omega, by omega⟩ mv0 (by rw [HN.out]; exact mv1)
          have kv0 := (keptV_bd (fun j hj => (fineH_true (right_fine HX9.out.1.right j hj)).2.2.2) (o : Int) (l : Int) (bv : Int)).1
          have kv1 := HAE.out.2.1
          obtain ⟨KV, hKV⟩ : ∃ KV, keptV x.hs.n x.hs.z o l bv = KV := ⟨_, rfl⟩
          have HKV : Hid (keptV x.hs.n x.hs.z o l bv = KV) := hKV
          rw [hKV] at kv0 kv1
          clear hKV
          have KX := HX9.out.2.2.1
          have y2 : ∀ d os, (grow (redrawn w9 d) os).cell? ⟨w.heap.size + 1, 2, none⟩ = some (.slice x.hs.a x.hs.n x.hs.c) := fun d os => cell_regrown (KX.cell (j := 2) (by decide)) d os
          have y3 := KX.lt
          clear KX hm0
          go_wp2_with fail
          clear hMV
          refine wp_region_made6 (fun w' => ∃ p : Regrown, w' = grow (redrawn w9 p.d) p.os) [0, 1, 2, 3, 4, 5, 6, 7, 8, 9, 11] [10, 12, 13] [(true, 14), (true, 15)] (by kernel_rfl) (by kernel_rfl) (by kernel_rfl) (by kernel_rfl) (by kernel_rfl) (by kernel_rfl) (by kernel_rfl) (by kernel_rfl) (by kernel_rfl) (regrown_of_below ((Below.refl _ _).drew)) ?_
          simp only [picks, List.drop_succ_cons, List.drop_zero, List.take_succ_cons, List.take_zero, List.cons_append, List.nil_append]
          repeat (go_big_quiet_step (fail))
          refine wpQuiet_nil ?_
          clear y2
          refine ⟨fun j v g wk => match j with | 10 => g = [] ∧ v = .int .i64 KV | 12 => g = [] ∧ v = .int .i64 (KV + MV) | 13 => DWith w9.heap.size x.hs (tookH o l bv MV) v g wk | _ => True,
            List.forall_mem_cons.2 ⟨fun v g w w' hB h => h, List.forall_mem_cons.2 ⟨fun v g w w' hB h => h, List.forall_mem_cons.2 ⟨fun v g w w' hB h => DWith.below h hB, List.forall_mem_nil _⟩⟩⟩,
            List.forall_mem_cons.2 ⟨fun v g w h => by rw [h.1]; intro x hx; simp at hx, List.forall_mem_cons.2 ⟨fun v g w h => by rw [h.1]; intro x hx; simp at hx, List.forall_mem_cons.2 ⟨fun v g w h => by obtain ⟨_, h1, _⟩ := h; rw [h1]; intro x hx; simp at hx, List.forall_mem_nil _⟩⟩⟩,
            List.forall_mem_cons.2 ⟨?zt3, List.forall_mem_cons.2 ⟨?zt4, List.forall_mem_cons.2 ⟨?zt5, List.forall_mem_nil _⟩⟩⟩, ?ztdone⟩
          case zt3 =>
            intro V G wk K hS hd hA hK
            have hX := below_of_regrown hS
            refine wpOp_list 10 rfl ?_
            simp only [putAll, dstOf, List.getElem?_toArray, List.getElem?_cons_succ, List.getElem?_cons_zero, Act.put, List.setIfInBounds_toArray, List.set_cons_succ, List.set_cons_zero] at hK ⊢
            have HKA : Hid (Calls Tryz.prog 34 #[.slice x.hs.a x.hs.n x.hs.c, .int .i64 (o : Int), .int .i64 (l : Int), .int .i64 (bv : Int)] wk fun e w' => e = .returned (.int .i64 KV) ∧ Below wk.heap.size wk w') := by
              have h := keptAt_b x.hs o l bv wk (HX9.out.2.1.hs.at.below hX)
              rw [HKV.out] at h
              exact h
            go_wp2_with fail
            refine HKA.out.mono ?_
            rintro e w2 ⟨rfl, hB2⟩
            go_wp2_with fail
            exact hK _ [] _ (regrown_of_below (hX.trans (hB2.mono hX.size))) hB2 (fun x hx => by simp at hx) ⟨rfl, rfl⟩
          case zt4 =>
            intro V G wk K hS hd hA hK
            obtain ⟨-, h10⟩ : (G 10 = [] ∧ V 10 = .int .i64 KV) := hd 10 (List.contains_iff_mem.1 (by kernel_rfl)) (by simp)
            refine wpOp_list 12 rfl ?_
            simp only [putAll, dstOf, List.getElem?_toArray, List.getElem?_cons_succ, List.getElem?_cons_zero, Act.put, List.setIfInBounds_toArray, List.set_cons_succ, List.set_cons_zero, h10] at hK ⊢
            go_wp2_with fail
            exact hK _ [] _ hS (Below.refl _ _) (fun x hx => by simp at hx) ⟨rfl, rfl⟩
          case zt5 =>
            intro V G wk K hS hd hA hK
            have hX := below_of_regrown hS
            have q := hX.size
            obtain ⟨-, h12⟩ : (G 12 = [] ∧ V 12 = .int .i64 (KV + MV)) := hd 12 (List.contains_iff_mem.1 (by kernel_rfl)) (by simp)
            refine wpOp_list 13 rfl ?_
            simp only [putAll, dstOf, List.getElem?_toArray, List.getElem?_cons_succ, List.getElem?_cons_zero, Act.put, List.setIfInBounds_toArray, List.set_cons_succ, List.set_cons_zero, h12] at hK ⊢
            have HWI : Hid (Calls Tryz.prog 35 #[.slice x.hs.a x.hs.n x.hs.c, .int .i64 (o : Int), .int .i64 (l : Int), .int .i64 (bv : Int), .int .i64 (KV + MV)] wk fun e w' => ∃ s' : Hs, e = .returned s'.val ∧ OwnH wk.heap.size 55 w' s' ∧ s'.n = addLen x.hs.n x.hs.z (tookH o l bv MV) ∧ s'.z = addZ x.hs.n x.hs.z (tookH o l bv MV) ∧ Below wk.heap.size wk w') := by
              have h := with_addO x.hs (tookH o l bv MV) wk (HX9.out.2.1.hs.at.below hX) HX9.out.1.right HAE.out.1
              rw [show keptV x.hs.n x.hs.z (tookH o l bv MV).o (tookH o l bv MV).l (tookH o l bv MV).b = KV from HKV.out] at h
              exact h
            go_wp2_with fail
            refine HWI.out.mono ?_
            rintro e w2 ⟨y, rfl, h1, h2, h3, hB2⟩
            have HR : Hid (OwnH w9.heap.size 55 w2 y ∧ y.n = addLen x.hs.n x.hs.z (tookH o l bv MV) ∧ y.z = addZ x.hs.n x.hs.z (tookH o l bv MV)) := ⟨h1.mono (by omega), h2, h3⟩
            clear h1 h2 h3
            simp only [Hs.val]
            go_wp2_with fail
            exact hK _ [] _ (regrown_of_below (hX.trans (hB2.mono hX.size))) hB2 (fun x hx => by simp at hx) ⟨y, rfl, rfl, HR.out⟩
          case ztdone =>
            intro V G' wk hS hD hA2
            obtain ⟨y, -, h13, yown, yn, yz⟩ : DWith w9.heap.size x.hs (tookH o l bv MV) (V 13) (G' 13) wk := hD 13 (by simp)
            have hX := below_of_regrown hS
            have yok : AddOK x.hs.n x.hs.z (tookH o l bv MV) y := ⟨by rw [if_pos HAE.out.2.2]; exact yn, fun j _ => by rw [yz]⟩
            have q9 := HBk9.out.size
            have qa := hX.size
            obtain ⟨b1, b2, b3, b4⟩ := HBA.out
            have hOa := OwnS.below HX9.out.2.1 hX
            have KA := HX9.out.2.2.1.below hX
            have FA := HX9.out.2.2.2.1.below hX
            have ZA := HX9.out.2.2.2.2.2.below hX
            have hBka := HBk9.out.trans (hX.mono (Nat.le_trans hA HBk9.out.size))
            have ho1 : o < x.os.n := by rw [HX9.out.1.os.1]; exact ho
            have hOb := (hOa.withHolds (yown.mono (by omega))).box KA 2 (.slice y.a y.n y.c)
            have KB := KA.set 2 (.slice y.a y.n y.c)
            have FB := FA.other (a := ⟨w.heap.size + 1, 2, none⟩) (Blk.ne2 FA KA (by decide)) (.slice y.a y.n y.c)
            have ZB := ZA.other (a := ⟨w.heap.size + 1, 2, none⟩) (by show w.heap.size + 1 + 1 ≠ w.heap.size + 1; omega) (.slice y.a y.n y.c)
            have hBb := hBka.setCell (p := ⟨w.heap.size + 1, 2, none⟩) (by show A ≤ w.heap.size + 1; omega) (.slice y.a y.n y.c)
            have hl1 : l < (x.os.z o).ls.n := by rw [(HX9.out.1.os.2 o ho1).2.1]; exact hl
            have hTn := HX9.out.1.stepAdd (av := avT s o l) (order := o) (line := l) (b := (bv : Int)) (m := MV) ho hl (by have h := HMZ.out MV HM1.out; rw [HBV.out] at h; exact h) HAE.out.2.2 yok
            have kpb := (HKP9.out.below hX).setNew (B := w.heap.size + 1) (by omega) 2 (.slice y.a y.n y.c)
            have z1 := KA.lt
            have z2 := KA.frozen 2
            have z3 := KA.cell (j := 2) (by decide)
            obtain ⟨WS, hWS⟩ : ∃ WS, wk.setCell ⟨w.heap.size + 1, 2, none⟩ (.slice y.a y.n y.c) = WS := ⟨_, rfl⟩
            have HWS : Hid (wk.setCell ⟨w.heap.size + 1, 2, none⟩ (.slice y.a y.n y.c) = WS) := hWS
            rw [hWS] at hOb KB FB ZB hBb kpb
            have HKPS : Hid (KeepL w WS) := kpb
            have HS9 : Hid (OwnS A WS (withHolds x y) ∧ Blk WS (w.heap.size + 1) 31 7 (fun i => if i = 2 then .slice y.a y.n y.c else x.cells.getD i default) ∧ Blk WS g 3 (wayL p).length (fun j => .int .i64 ((wayL p).getD j 0)) ∧ Blk WS (w.heap.size + 1 + 1) 31 7 (fun _ => .slice .none 0 0) ∧ Below A w WS ∧ Took s o l n (T.step (avT s o l) bv) (withHolds (setLine x o l 3 (((x.os.z o).ls.z l).n - MV)) y)) := ⟨hOb, KB, FB, ZB, hBb, hTn⟩
            have hXO : Hid (o < x.os.n ∧ l < (x.os.z o).ls.n ∧ (x.os.z o).ls.a = some ⟨BL, 0, none⟩ ∧ A ≤ BL) := ⟨ho1, hl1, HX9.out.2.2.2.2.1, b2⟩
            have HBXX : Hid (((x.os.z o).ls.z l).n = ((s.os.z o).ls.z l).n - (n - T.left)) := by
              show ((x.os.z o).ls.z l).n = _
              rw [(HX9.out.1.os.2 o ho1).2.2 l hl1, if_pos ⟨rfl, rfl⟩]
              rfl
            clear kpb HKP9 hS hD hA2 hX hOa KA FA ZA hBka hOb KB FB ZB hBb hTn yown yn yz yok hWS ho1 hl1 HX9 HBk9
            simp only [putAll, dstOf, List.getElem?_toArray, List.getElem?_cons_succ, List.getElem?_cons_zero, Act.put, List.setIfInBounds_toArray, List.set_cons_succ, List.set_cons_zero, h13]
            refine wpSeq_one 14 rfl ?_
            go_wp2_with fail
            refine ⟨Late.yes, ?_⟩
            refine wpSeq_one 15 rfl ?_
            go_wp2_with fail
            refine ⟨Late.yes, ?_⟩
            refine NoPanic.normal ?_
            rw [HWS.out]
            clear z1 z2 z3 HWS h13 b1 b2 b3 b4 q9 qa
            obtain ⟨ho1, hl1, hla1, hAB⟩ := hXO.out
            obtain ⟨gO, BL', f1, f2, f3, f4, f5, f6, f7, f8, f9, f10, f11, f12, f13, f14⟩ := HS9.out.1.lineCell (o := o) (l := l) ho1 hl1
            have f5' : (x.os.z o).ls.a = some ⟨BL', 0, none⟩ := f5
            rw [hla1] at f5'
            simp only [Option.some.injEq, Addr.mk.injEq, and_true] at f5'
            subst f5'
            have HF5 : Hid (((withHolds x y).os.z o).ls.a = some ⟨BL, 0, none⟩) := f5
            have s1 : WS.cell? ⟨w.heap.size + 1, 1, none⟩ = some (.slice x.os.a x.os.n x.os.c) := HS9.out.2.1.cell (j := 1) (by decide)
            have f1' : x.os.a = some ⟨gO, 0, none⟩ := f1
            rw [f1'] at s1
            have f4' : WS.cell? ⟨gO, o * 2 + 1, none⟩ = some (.slice (some ⟨BL, 0, none⟩) (x.os.z o).ls.n (x.os.z o).ls.c) := f4
            have f14' : WS.cell? ⟨BL, l * 4 + 3, none⟩ = some (.int .i64 ((x.os.z o).ls.z l).n) := f14
            obtain ⟨BK, hBK⟩ : ∃ BK, ((x.os.z o).ls.z l).n = BK := ⟨_, rfl⟩
            have HBK : Hid (((x.os.z o).ls.z l).n = BK) := hBK
            have bkb : -1000 ≤ BK ∧ BK ≤ 1000 := by
              rw [← hBK, HBXX.out]
              have := badLine_no (HI.out.fm.line o ho l hl)
              have := HN.out
              omega
            rw [hBK] at f14'
            have v1 : x.os.n ≤ x.os.c := HS9.out.1.os.le
            have v2 : x.os.c ≤ maxLen := HS9.out.1.os.cap
            have v3 : (x.os.z o).ls.n ≤ (x.os.z o).ls.c := f8
            have v4 : (x.os.z o).ls.c ≤ maxLen := f9
            unfold maxLen at v2 v4
            have t1 : ∀ d os, (grow (redrawn WS d) os).cell? ⟨w.heap.size + 1, 1, none⟩ = some (.slice (some ⟨gO, 0, none⟩) x.os.n x.os.c) := fun d os => cell_regrown s1 d os
            have t2 : ∀ d os, (grow (redrawn WS d) os).cell? ⟨gO, o * 2 + 1, none⟩ = some (.slice (some ⟨BL, 0, none⟩) (x.os.z o).ls.n (x.os.z o).ls.c) := fun d os => cell_regrown f4' d os
            have t3 : ∀ d os, (grow (redrawn WS d) os).cell? ⟨BL, l * 4 + 3, none⟩ = some (.int .i64 BK) := fun d os => cell_regrown f14' d os
            clear hBK f1 f2 f3 f4 f5 f6 f7 f8 f9 f10 f11 f12 f13 f14 s1 f1' f4' f14' hla1 hXO HBXX
            go_wp2_with fail
            refine wp_region_made5 (fun w' => ∃ p : Regrown, w' = grow (redrawn WS p.d) p.os) (List.range 21) [] [(true, 21)] (by kernel_rfl) (by kernel_rfl) (by kernel_rfl) (by kernel_rfl) (by kernel_rfl) (by kernel_rfl) (by kernel_rfl) (by kernel_rfl) (by kernel_rfl) (regrown_of_below ((Below.refl _ _).drew)) ?_
            rw [show List.range 21 = [0, 1, 2, 3, 4, 5, 6, 7, 8, 9, 10, 11, 12, 13, 14, 15, 16, 17, 18, 19, 20] from rfl]
            simp only [picks, List.drop_succ_cons, List.drop_zero, List.take_succ_cons, List.take_zero, List.cons_append, List.nil_append]
            repeat (go_big_quiet_step (fail))
            refine wpQuiet_nil ?_
            clear t1 t2 t3
            refine ⟨fun _ _ _ _ => True, List.forall_mem_nil _, List.forall_mem_nil _, List.forall_mem_nil _, fun V G wj hS _ _ => ?_⟩
            have hX := below_of_regrown hS
            have hOj := OwnS.below HS9.out.1 hX
            have Kj := HS9.out.2.1.below hX
            have Fj := HS9.out.2.2.1.below hX
            have Zj := HS9.out.2.2.2.1.below hX
            have hBj := HS9.out.2.2.2.2.1.trans (hX.mono (Nat.le_trans hA HS9.out.2.2.2.2.1.size))
            obtain ⟨B', hla', -, -, -, hlb⟩ := hOj.os.lines o ho1
            rw [HF5.out] at hla'
            simp only [Option.some.injEq, Addr.mk.injEq, and_true] at hla'
            subst hla'
            have zl := hlb.lt
            have zf := hlb.frozen (l * 4 + 3)
            obtain ⟨gq, Bq, -, -, -, -, g5, -, -, -, -, -, -, -, -, zc⟩ := hOj.lineCell (o := o) (l := l) ho1 hl1
            rw [HF5.out] at g5
            simp only [Option.some.injEq, Addr.mk.injEq, and_true] at g5
            subst g5
            have hOc := hOj.setLine (o := o) ho1 HF5.out l 3 (by decide) (BK - MV)
            have KC := Kj.other (a := ⟨BL, l * 4 + 3, none⟩) (Blk.ne2 Kj hlb (by decide)) (.int .i64 (BK - MV))
            have FC := Fj.other (a := ⟨BL, l * 4 + 3, none⟩) (Blk.ne2 Fj hlb (by decide)) (.int .i64 (BK - MV))
            have ZC := Zj.other (a := ⟨BL, l * 4 + 3, none⟩) (Blk.ne2 Zj hlb (by decide)) (.int .i64 (BK - MV))
            have kpc := (HKPS.out.below hX).setLine hlb (l * 4 + 3) (.int .i64 (BK - MV))
            have hBc := hBj.setCell (p := ⟨BL, l * 4 + 3, none⟩) (by show A ≤ BL; omega) (.int .i64 (BK - MV))
            have HNX : Hid (TakeJ s o l n (Tk.go (avT s o l) n (wayK p but (k + 1))) (wayL p) A (w.heap.size + 1) BL g (wj.setCell ⟨BL, l * 4 + 3, none⟩ (.int .i64 (BK - MV))) ∧ (Tk.go (avT s o l) n (wayK p but (k + 1))).left = N - MV ∧ Below A w (wj.setCell ⟨BL, l * 4 + 3, none⟩ (.int .i64 (BK - MV))) ∧ KeepL w (wj.setCell ⟨BL, l * 4 + 3, none⟩ (.int .i64 (BK - MV)))) := by
              refine ⟨⟨withHolds (setLine x o l 3 (BK - MV)) y, ?_, hOc, KC.congr (fun j hj => by match j, hj with | 0, _ => rfl | 1, _ => rfl | 2, _ => rfl | 3, _ => rfl | 4, _ => rfl | 5, _ => rfl | 6, _ => rfl), FC, ?_, ZC⟩, ?_, hBc, kpc⟩
              · rw [HS2.out]
                have h := HS9.out.2.2.2.2.2
                rw [HBK.out] at h
                exact h
              · exact ((setLine_n (s := x) (o := o) (l := l) (c := 3) (v := BK - MV) o).2.1).trans HF5.out
              · rw [HS2.out]
                show T.left - min T.left _ = N - MV
                have h := HMZ.out MV HM1.out
                rw [HBV.out] at h
                rw [h, HN.out]
            clear hOj Kj Fj Zj hBj hlb hOc KC FC ZC hBc kpc HKPS hX hS HS9
            have zc' : wj.cell? ⟨BL, l * 4 + 3, none⟩ = some (.int .i64 ((x.os.z o).ls.z l).n) := zc
            rw [HBK.out] at zc'
            clear zc
            simp only [putAll]
            refine wpSeq_one 21 rfl ?_
            go_wp2_with fail
            refine ⟨Late.yes, ?_⟩
            refine NoPanic.normal ?_
            go_wp2_with fail
            go_roundw
            case rel => exact ⟨k + 1, by omega, by go_num, by rw [HNX.out.2.1], HNX.out.1, HNX.out.2.2.1, HNX.out.2.2.2⟩
            case measure => simp [intOf]; omega
    · have hkn : k = (wayL p).length := by omega
      have HT : Hid (T = Tk.go (avT s o l) n (wayT p but)) := HEND.out hkn
      clear HEND HSTEP
      have KX := HX.out.2.2.1
      obtain ⟨m1, p0, p1, p2, p3, p4, p5, p6⟩ := Boxed.of KX
      have hz := HX.out.2.2.2.2.2
      have zl := hz.lt
      have zf0 := hz.frozen 0
      have zc0 := hz.cell (j := 0) (by decide)
      have zf1 := hz.frozen 1
      have zc1 := hz.cell (j := 1) (by decide)
      have zf2 := hz.frozen 2
      have zc2 := hz.cell (j := 2) (by decide)
      have zf3 := hz.frozen 3
      have zc3 := hz.cell (j := 3) (by decide)
      have zf4 := hz.frozen 4
      have zc4 := hz.cell (j := 4) (by decide)
      have zf5 := hz.frozen 5
      have zc5 := hz.cell (j := 5) (by decide)
      have zf6 := hz.frozen 6
      have zc6 := hz.cell (j := 6) (by decide)
      clear KX hz
      go_wp2_with fail
      have KZ := set7_blk HX.out.2.2.2.2.2 (.slice x.on.a x.on.n x.on.c) (.slice x.os.a x.os.n x.os.c) (.slice x.hs.a x.hs.n x.hs.c) (.slice x.ms.a x.ms.n x.ms.c) (.slice x.si.a x.si.n x.si.c) (.slice x.so.a x.so.n x.so.c) (.slice x.sf.a x.sf.n x.sf.c)
      have hbz := set7_below (b := w.heap.size + 1 + 1) HBk.out (by omega) (.slice x.on.a x.on.n x.on.c) (.slice x.os.a x.os.n x.os.c) (.slice x.hs.a x.hs.n x.hs.c) (.slice x.ms.a x.ms.n x.ms.c) (.slice x.si.a x.si.n x.si.c) (.slice x.so.a x.so.n x.so.c) (.slice x.sf.a x.sf.n x.sf.c)
      have hOz := OwnS.set7 HX.out.2.1 HX.out.2.2.2.2.2 (.slice x.on.a x.on.n x.on.c) (.slice x.os.a x.os.n x.os.c) (.slice x.hs.a x.hs.n x.hs.c) (.slice x.ms.a x.ms.n x.ms.c) (.slice x.si.a x.si.n x.si.c) (.slice x.so.a x.so.n x.so.c) (.slice x.sf.a x.sf.n x.sf.c)
      unfold set7 at KZ hbz hOz
      obtain ⟨c0', c1', c2', c3', c4', c5', c6'⟩ := box_cells KZ
      refine bodyPost_ret (v := .tuple #[x.val, .int .i64 T.left]) (by simp [results, Tryz.results24, go_sem, St.val, c0', c1', c2', c3', c4', c5', c6']) rfl ?_
      rw [← HT.out]
      refine ⟨x, rfl, HX.out.1, hOz, hbz, ?_⟩
      exact ((((((HKP.out.setNew (by omega) 0 _).setNew (by omega) 1 _).setNew (by omega) 2 _).setNew (by omega) 3 _).setNew (by omega) 4 _).setNew (by omega) 5 _).setNew (by omega) 6 _
end Go.Proofs.YtbcacebifpagpadGreat
namespace Go.Proofs.YtbcacebifpagpadGreat
open Go.RowKit Go.Shelf Go.Sort
set_option linter.unusedVariables false
def pickV (s : St) (h : Hs) (o l b g : Nat) (n k : Int) : St := setLine (setLine (setLine (setLine (withHolds (setOut (setOn s b g ((s.on.r b).z g - n)) g (s.so.z g + n)) h) o l 0 g) o l 1 ((s.os.z o).ls.z l).l) o l 2 (((s.os.z o).ls.z l).b + n)) o l 3 (((s.os.z o).ls.z l).n + k - n)
theorem pickV_line (s : St) (h : Hs) (o l b g : Nat) (n k : Int) (i j : Nat) : ((pickV s h o l b g n k).os.z i).ls.z j = if i = o ∧ j = l then ⟨g, ((s.os.z o).ls.z l).l, ((s.os.z o).ls.z l).b + n, ((s.os.z o).ls.z l).n + k - n⟩ else (s.os.z i).ls.z j := by
  unfold pickV
  rw [setLine_at, setLine_at, setLine_at, setLine_at]
  by_cases c : i = o ∧ j = l
  · rw [if_pos c, if_pos c, if_pos c, if_pos c, if_pos c]
    rfl
  · rw [if_neg c, if_neg c, if_neg c, if_neg c, if_neg c]
    rfl
theorem pickV_k (s : St) (h : Hs) (o l b g : Nat) (n k : Int) (i : Nat) : ((pickV s h o l b g n k).os.z i).k = (s.os.z i).k ∧ ((pickV s h o l b g n k).os.z i).ls.n = (s.os.z i).ls.n ∧ ((pickV s h o l b g n k).os.z i).ls.a = (s.os.z i).ls.a ∧ ((pickV s h o l b g n k).os.z i).ls.c = (s.os.z i).ls.c := by
  unfold pickV
  rw [setLine_k, setLine_k, setLine_k, setLine_k, (setLine_n i).1, (setLine_n i).1, (setLine_n i).1, (setLine_n i).1, (setLine_n i).2.1, (setLine_n i).2.1, (setLine_n i).2.1, (setLine_n i).2.1, (setLine_n i).2.2, (setLine_n i).2.2, (setLine_n i).2.2, (setLine_n i).2.2]
  exact ⟨rfl, rfl, rfl, rfl⟩
theorem pickV_same {p : Pl} {x s : St} (e : SameT x s) {o l b : Nat} {n : Int} (hI : HoldIn p s o l b) {h : Hs} (hn : h.n = (dropHs s.hs o l b).n) (hz : ∀ j, j < h.n → h.z j = (dropHs s.hs o l b).z j) : SameT (pickV x h o l b (lineGood s o l) n (heldAt s o l b)) (pickS s o l b n) := by
  have w := pickW_same (n := n) e hI hn hz
  refine ⟨w.on, ⟨w.os.1, fun i hi => ?_⟩, ⟨hn, hz⟩, w.ms, w.si, w.so, w.sf⟩
  have hi' : i < x.os.n := hi
  have k := e.os.2 i hi'
  have hs : i < s.os.n := by rw [← e.os.1]; exact hi'
  rw [(pickV_k x h o l b (lineGood s o l) n (heldAt s o l b) i).1, (pickV_k x h o l b (lineGood s o l) n (heldAt s o l b) i).2.1, (pickS_k s o l b n i).1, (pickS_k s o l b n i).2]
  refine ⟨k.1, k.2.1, fun j hj => ?_⟩
  rw [pickV_line, pickS_line]
  by_cases c : i = o ∧ j = l
  · rw [if_pos c, if_pos c, e.line hI.on hI.ln, ← hI.good.1]
    congr 1
    omega
  · rw [if_neg c, if_neg c]
    exact k.2.2 j hj
theorem Step.got {p : Pl} {but : Int} {y x : St} {i j : Nat} {n : Int} (T : Step p but y i j n x) {o : Nat} (ho : o < y.os.n) : gotAll x o = gotAll y o := by
  have T' : Took y i j n (Tk.go (avT y i j) n (wayT p but)) x := T
  have k := T'.os.2 o (by rw [T'.os.1]; exact ho)
  unfold gotAll
  rw [k.2.1]
  congr 1
  refine anyB_congr fun q hq => ?_
  rw [T'.line ho hq]
  split <;> rfl
set_option maxRecDepth 100000 in
set_option maxHeartbeats 2000000 in
theorem PickOf_any (p : Pl) (s : St) (order line bin n : Int) (w : World) (hp : p.At w) (hs : s.At w) :
    Calls Tryz.prog 12 #[p.val, s.val, .int .i64 order, .int .i64 line, .int .i64 bin, .int .i64 n] w fun e w' => ∃ x : St, e = .returned (.tuple #[x.val, .int .i64 (pickE p s order line bin n)]) ∧ x.At w' ∧ ActOK (pickE p s order line bin n) (pickT p s order.toNat line.toNat bin.toNat n) x ∧ Below w.heap.size w w' := by
  obtain ⟨W0, hW, hWB, X0, Z0⟩ : ∃ W, (((w.alloc (.cells #[.slice p.ab p.nb p.cb, .slice p.sa p.ns p.cs] 25)).alloc (.cells s.cells 31)).alloc (.cells #[.slice .none 0 0, .slice .none 0 0, .slice .none 0 0, .slice .none 0 0, .slice .none 0 0, .slice .none 0 0, .slice .none 0 0] 31)) = W ∧ Below w.heap.size w W ∧ Boxes W w.heap.size (w.heap.size + 1) p s ∧ Blk W (w.heap.size + 2) 31 7 (fun _ => .slice .none 0 0) :=
    ⟨_, rfl, (two_below _ _ _).alloc (by simp; omega) _, (boxes_new w p s _ _).below ((Below.refl _ _).alloc (Nat.le_refl _) _), (Blk.mk' (cur := #[.slice .none 0 0, .slice .none 0 0, .slice .none 0 0, .slice .none 0 0, .slice .none 0 0, .slice .none 0 0, .slice .none 0 0]) (by simp) rfl).congr (fun j hj => by match j, hj with | 0, _ => rfl | 1, _ => rfl | 2, _ => rfl | 3, _ => rfl | 4, _ => rfl | 5, _ => rfl | 6, _ => rfl)⟩
  have HC : Hid (∀ wk, Below W0.heap.size W0 wk → Boxes wk w.heap.size (w.heap.size + 1) p s ∧ p.At wk ∧ s.At wk ∧ Below w.heap.size w wk ∧ Blk wk (w.heap.size + 2) 31 7 (fun _ => .slice .none 0 0)) := fun wk h => ⟨X0.below h, (hp.below hWB).below h, (hs.below hWB).below h, hWB.trans (h.mono hWB.size), Z0.below h⟩
  have HW : Hid (((w.alloc (.cells #[.slice p.ab p.nb p.cb, .slice p.sa p.ns p.cs] 25)).alloc (.cells #[.slice s.on.a s.on.n s.on.c, .slice s.os.a s.os.n s.os.c, .slice s.hs.a s.hs.n s.hs.c, .slice s.ms.a s.ms.n s.ms.c, .slice s.si.a s.si.n s.si.c, .slice s.so.a s.so.n s.so.c, .slice s.sf.a s.sf.n s.sf.c] 31)).alloc (.cells #[.slice .none 0 0, .slice .none 0 0, .slice .none 0 0, .slice .none 0 0, .slice .none 0 0, .slice .none 0 0, .slice .none 0 0] 31) = W0) := hW
  have leb := hp.leb
  have capb0 := hp.capb
  have les := hp.les
  have caps0 := hp.caps
  have capb := capb0
  have caps := caps0
  have zlt0 := Z0.lt
  unfold maxLen at capb caps
  have osl := hs.os.le
  have osc := hs.os.cap
  unfold maxLen at osc
  clear hW X0 Z0 hp hs
  unfold Pl.val St.val
  go_enter Tryz.func12, Tryz.ntmps12
  go_wp2_with fail
  rw [HW.out]
  obtain ⟨X, hpk, hsk, hBw, hz⟩ := HC.out W0 (Below.refl _ _)
  refine (refCheckState_any p s W0 hpk hsk).mono ?_
  rintro e w1 ⟨rfl, hB⟩
  clear X hpk hsk hBw hz HW
  obtain ⟨⟨⟨l1, d0, d1⟩, l2, c0, c1, c2, c3, c4, c5, c6⟩, hpk, hsk, hBw, hz⟩ := HC.out w1 hB
  by_cases h0 : stateE p s = 0
  · have H0 : Hid (stateE p s = 0) := h0
    have HR : Hid (RightT p s) := rightT h0
    rw [h0]
    clear h0
    have HSH : Hid (s.hs.At w1) := hsk.hs
    clear hpk hsk hBw hz
    go_wp2_with fail
    refine (keptAt_b s.hs order line bin w1 HSH.out).mono ?_
    rintro e w2 ⟨rfl, hB2⟩
    clear HSH l1 d0 d1 l2 c0 c1 c2 c3 c4 c5 c6
    have hB02 := hB.trans (hB2.mono hB.size)
    obtain ⟨⟨⟨l1, d0, d1⟩, l2, c0, c1, c2, c3, c4, c5, c6⟩, hpk, hsk, hBw, hz⟩ := HC.out w2 hB02
    clear hB2 hB
    by_cases h1 : keptV s.hs.n s.hs.z order line bin = 0
    · have HX : Hid (pickE p s order line bin n = 4) := pickE_none H0.out h1
      have HNE : Hid (¬ pickE p s order line bin n = 0) := by show ¬ _; rw [HX.out]; decide
      have h1e : (keptV s.hs.n s.hs.z order line bin == 0) = true := by simpa using h1
      generalize keptV s.hs.n s.hs.z order line bin = KV at *
      clear h1
      clear hpk hsk
      have zl := hz.lt
      have zf0 := hz.frozen 0
      have zc0 := hz.cell (j := 0) (by decide)
      have zf1 := hz.frozen 1
      have zc1 := hz.cell (j := 1) (by decide)
      have zf2 := hz.frozen 2
      have zc2 := hz.cell (j := 2) (by decide)
      have zf3 := hz.frozen 3
      have zc3 := hz.cell (j := 3) (by decide)
      have zf4 := hz.frozen 4
      have zc4 := hz.cell (j := 4) (by decide)
      have zf5 := hz.frozen 5
      have zc5 := hz.cell (j := 5) (by decide)
      have zf6 := hz.frozen 6
      have zc6 := hz.cell (j := 6) (by decide)
      go_wp2_with fail
      have KZ := set7_blk hz (.slice .none 0 0) (.slice .none 0 0) (.slice .none 0 0) (.slice .none 0 0) (.slice .none 0 0) (.slice .none 0 0) (.slice .none 0 0)
      have hbz := set7_below (b := w.heap.size + 2) hBw (by omega) (.slice .none 0 0) (.slice .none 0 0) (.slice .none 0 0) (.slice .none 0 0) (.slice .none 0 0) (.slice .none 0 0) (.slice .none 0 0)
      unfold set7 at KZ hbz
      obtain ⟨c0', c1', c2', c3', c4', c5', c6'⟩ := box_cells KZ
      refine bodyPost_ret (v := .tuple #[noneS.val, .int .i64 4]) (by simp [results, Tryz.results12, go_sem, noneS, St.val, c0', c1', c2', c3', c4', c5', c6']) rfl ?_
      exact ⟨noneS, by rw [HX.out]; rfl, noneS_at _, ⟨fun h => absurd h (HNE.out), fun _ => ⟨rfl, rfl, rfl, rfl, rfl, rfl, rfl⟩⟩, hbz⟩
    · have h1e : (keptV s.hs.n s.hs.z order line bin == 0) = false := by simpa using h1
      cases h2 : inB n 0 (keptV s.hs.n s.hs.z order line bin)
      · have HX : Hid (pickE p s order line bin n = 3) := pickE_range H0.out h1 h2
        have HNE : Hid (¬ pickE p s order line bin n = 0) := by show ¬ _; rw [HX.out]; decide
        clear h1
        generalize keptV s.hs.n s.hs.z order line bin = KV at *
        clear hpk hsk
        have zl := hz.lt
        have zf0 := hz.frozen 0
        have zc0 := hz.cell (j := 0) (by decide)
        have zf1 := hz.frozen 1
        have zc1 := hz.cell (j := 1) (by decide)
        have zf2 := hz.frozen 2
        have zc2 := hz.cell (j := 2) (by decide)
        have zf3 := hz.frozen 3
        have zc3 := hz.cell (j := 3) (by decide)
        have zf4 := hz.frozen 4
        have zc4 := hz.cell (j := 4) (by decide)
        have zf5 := hz.frozen 5
        have zc5 := hz.cell (j := 5) (by decide)
        have zf6 := hz.frozen 6
        have zc6 := hz.cell (j := 6) (by decide)
        go_wp2_with (go_at_call 25; refine calls_to (within_any _ _ _ _) ?_)
        have KZ := set7_blk hz (.slice .none 0 0) (.slice .none 0 0) (.slice .none 0 0) (.slice .none 0 0) (.slice .none 0 0) (.slice .none 0 0) (.slice .none 0 0)
        have hbz := set7_below (b := w.heap.size + 2) hBw (by omega) (.slice .none 0 0) (.slice .none 0 0) (.slice .none 0 0) (.slice .none 0 0) (.slice .none 0 0) (.slice .none 0 0) (.slice .none 0 0)
        unfold set7 at KZ hbz
        obtain ⟨c0', c1', c2', c3', c4', c5', c6'⟩ := box_cells KZ
        refine bodyPost_ret (v := .tuple #[noneS.val, .int .i64 3]) (by simp [results, Tryz.results12, go_sem, noneS, St.val, c0', c1', c2', c3', c4', c5', c6']) rfl ?_
        exact ⟨noneS, by rw [HX.out]; rfl, noneS_at _, ⟨fun h => absurd h (HNE.out), fun _ => ⟨rfl, rfl, rfl, rfl, rfl, rfl, rfl⟩⟩, hbz⟩
      · obtain ⟨o, l, b, rfl, rfl, rfl, hi⟩ := holdIn HR.out h1
        have HI : Hid (HoldIn p s o l b) := hi
        have gd := HI.out.good
        have bd := HI.out.bd
        have nn := inB_true h2
        have ho := HI.out.on
        have hl := HI.out.ln
        have hb := HI.out.bn
        obtain ⟨g, hg⟩ : ∃ g, lineGood s o l = g := ⟨_, rfl⟩
        have HG : Hid (lineGood s o l = g) := hg
        rw [hg] at gd
        have gl := gd.2
        obtain ⟨bo, oo, hoa, hbo, z0, z1, hlk⟩ := hsk.os.ods o ho
        obtain ⟨bl, ol, hla, hbl, y0, y1, y2, y3⟩ := hlk.hds l hl
        have ll := hlk.le
        have lc := hlk.cap
        unfold maxLen at lc
        have son := HR.out.fm.son
        obtain ⟨bs, os, hsa, hbs, x0c⟩ := hsk.so.ints g (by omega)
        have sol := hsk.so.le
        have soc := hsk.so.cap
        unfold maxLen at soc
        have HSA : Hid (s.so.a = some ⟨bs, os, none⟩) := hsa
        have HOA : Hid (s.os.a = some ⟨bo, oo, none⟩) := hoa
        rw [gd.1] at y0
        rw [hoa] at c1
        rw [hla] at z1
        rw [hsa] at c5
        have q0 : (0 : Int) ≤ (o : Int) := by omega
        have q1 : (o : Int) < (s.os.n : Int) := by omega
        have q2 : (0 : Int) ≤ (l : Int) := by omega
        have q3 : (l : Int) < ((s.os.z o).ls.n : Int) := by omega
        have q4 : (0 : Int) ≤ (g : Int) := by omega
        have sg : g < s.so.n := by omega
        have q5 : (g : Int) < (s.so.n : Int) := by omega
        have sob := HR.out.fm.sob g gl
        have H1 : Hid (¬ heldAt s o l b = 0) := h1
        have H2 : Hid (inB n 0 (heldAt s o l b) = true) := h2
        have bd' : 1 ≤ keptV s.hs.n s.hs.z o l b ∧ keptV s.hs.n s.hs.z o l b ≤ 200 := ⟨bd.1, bd.2.1⟩
        clear hoa hla hlk hsa y1 y2 y3 z0 gd bd hi hg h1 son
        by_cases h3 : 1048576 < s.so.z g + n
        · have HX : Hid (pickE p s o l b n = 2) := pickE_many H0.out H1.out H2.out (by show 1048576 < s.so.z (lineGood s o l) + n; rw [HG.out]; exact h3)
          have HNE : Hid (¬ pickE p s o l b n = 0) := by show ¬ _; rw [HX.out]; decide
          generalize keptV s.hs.n s.hs.z o l b = KV at *
          clear hpk hsk
          have zl := hz.lt
          have zf0 := hz.frozen 0
          have zc0 := hz.cell (j := 0) (by decide)
          have zf1 := hz.frozen 1
          have zc1 := hz.cell (j := 1) (by decide)
          have zf2 := hz.frozen 2
          have zc2 := hz.cell (j := 2) (by decide)
          have zf3 := hz.frozen 3
          have zc3 := hz.cell (j := 3) (by decide)
          have zf4 := hz.frozen 4
          have zc4 := hz.cell (j := 4) (by decide)
          have zf5 := hz.frozen 5
          have zc5 := hz.cell (j := 5) (by decide)
          have zf6 := hz.frozen 6
          have zc6 := hz.cell (j := 6) (by decide)
          go_wp2_with (go_at_call 25; refine calls_to (within_any _ _ _ _) ?_)
          have KZ := set7_blk hz (.slice .none 0 0) (.slice .none 0 0) (.slice .none 0 0) (.slice .none 0 0) (.slice .none 0 0) (.slice .none 0 0) (.slice .none 0 0)
          have hbz := set7_below (b := w.heap.size + 2) hBw (by omega) (.slice .none 0 0) (.slice .none 0 0) (.slice .none 0 0) (.slice .none 0 0) (.slice .none 0 0) (.slice .none 0 0) (.slice .none 0 0)
          unfold set7 at KZ hbz
          obtain ⟨c0', c1', c2', c3', c4', c5', c6'⟩ := box_cells KZ
          refine bodyPost_ret (v := .tuple #[noneS.val, .int .i64 2]) (by simp [results, Tryz.results12, go_sem, noneS, St.val, c0', c1', c2', c3', c4', c5', c6']) rfl ?_
          exact ⟨noneS, by rw [HX.out]; rfl, noneS_at _, ⟨fun h => absurd h (HNE.out), fun _ => ⟨rfl, rfl, rfl, rfl, rfl, rfl, rfl⟩⟩, hbz⟩
        · have HX : Hid (pickE p s o l b n = 0) := pickE_ok H0.out H1.out H2.out (by show ¬ 1048576 < s.so.z (lineGood s o l) + n; rw [HG.out]; exact h3)
          have HPI : Hid (PickIn p s o l b n) := by
            have h := pickIn HX.out
            obtain ⟨-, o', l', b', e1, e2, e3, h⟩ := h
            have e1' : o' = o := by omega
            have e2' : l' = l := by omega
            have e3' : b' = b := by omega
            rw [e1', e2', e3'] at h
            exact h
          have HCS : Hid (Calls Tryz.prog 23 #[s.val] w2 fun e w' => ∃ s' : St, e = .returned s'.val ∧ SameT s' s ∧ OwnS w2.heap.size w' s' ∧ Below w2.heap.size w2 w') := OwnState_any p s w2 hsk HR.out.fm
          obtain ⟨K, hK⟩ : ∃ K, keptV s.hs.n s.hs.z o l b = K := ⟨_, rfl⟩
          have HK : Hid (heldAt s o l b = K) := hK
          rw [hK] at bd' h2 nn h1e ⊢
          clear hpk hsk hBw hz hK
          go_wp2_with (go_at_call 25; refine calls_to (within_any _ _ _ _) ?_)
          rw [← HOA.out, ← HSA.out]
          refine Calls.mono HCS.out ?_
          rintro e w4 ⟨x0, rfl, hsame, hown, hB4⟩
          clear HCS l1 d0 d1 l2 c0 c1 c2 c3 c4 c5 c6 z1 hbo hbl hbs y0 x0c h2 HOA HSA h1e
          have x0n : o < x0.os.n := by rw [hsame.os.1]; exact ho
          have xk := hsame.os.2 o x0n
          have x0l : l < (x0.os.z o).ls.n := by rw [xk.2.1]; exact hl
          have x0b : b < x0.on.n := by rw [hsame.on.1, HR.out.fm.sh.n]; exact hb
          have x0g : g < (x0.on.r b).n := by rw [(hsame.on.2 b x0b).1, HR.out.fm.sh.len b (by rw [HR.out.fm.sh.n]; exact hb)]; exact gl
          have x0s : g < x0.so.n := by rw [hsame.so.1]; exact sg
          have HS0 : Hid (SameT x0 s) := hsame
          have HXV : Hid ((0 ≤ (x0.on.r b).z g ∧ (x0.on.r b).z g ≤ 200) ∧ (0 ≤ x0.so.z g ∧ x0.so.z g ≤ 1048576) ∧ (0 ≤ ((x0.os.z o).ls.z l).b ∧ ((x0.os.z o).ls.z l).b ≤ 200) ∧ 0 ≤ ((x0.os.z o).ls.z l).n ∧ ((x0.os.z o).ls.z l).n ≤ 200) := by
            have f := HR.out.fm
            have bl := badLine_no (f.line o ho l hl)
            refine ⟨?_, ?_, ?_⟩
            · rw [hsame.num f hb gl]; exact f.sh.num b (by rw [f.sh.n]; exact hb) g gl
            · rw [hsame.so.2 g x0s]; exact f.sob g gl
            · rw [hsame.line ho hl]; omega
          have v0 := HXV.out
          obtain ⟨W5, hW5, hWB5, K5⟩ : ∃ W, w4.alloc (.cells #[.slice x0.on.a x0.on.n x0.on.c, .slice x0.os.a x0.os.n x0.os.c, .slice x0.hs.a x0.hs.n x0.hs.c, .slice x0.ms.a x0.ms.n x0.ms.c, .slice x0.si.a x0.si.n x0.si.c, .slice x0.so.a x0.so.n x0.so.c, .slice x0.sf.a x0.sf.n x0.sf.c] 31) = W ∧ Below w4.heap.size w4 W ∧ Blk W w4.heap.size 31 7 (fun j => x0.cells.getD j default) := ⟨_, rfl, (Below.refl _ _).alloc (Nat.le_refl _) _, Blk.mk' rfl rfl⟩
          have HW5 : Hid (w4.alloc (.cells #[.slice x0.on.a x0.on.n x0.on.c, .slice x0.os.a x0.os.n x0.os.c, .slice x0.hs.a x0.hs.n x0.hs.c, .slice x0.ms.a x0.ms.n x0.ms.c, .slice x0.si.a x0.si.n x0.si.c, .slice x0.so.a x0.so.n x0.so.c, .slice x0.sf.a x0.sf.n x0.sf.c] 31) = W5) := hW5
          have hB25 := hB4.trans (hWB5.mono hB4.size)
          have hB5 := hB02.trans (hB25.mono hB02.size)
          have A1 : W0.heap.size ≤ w2.heap.size := hB02.size
          have A3 : w2.heap.size ≤ w4.heap.size := hB4.size
          have HK5 : Hid (RelK w2.heap.size w4.heap.size W0 x0 W5) := ⟨OwnS.below hown hWB5, K5, hB5, by have := hB25.size; omega⟩
          clear hW5 hown K5 hB4 hWB5 hB25 hB5 hsame hB02 xk HXV
          simp only [St.val]
          go_wp2_with fail
          rw [HW5.out]
          clear HW5
          generalize w4.heap.size = B7 at *
          -- what lies there
          obtain ⟨g0, G, a1, a2, a3, a4, a5, a6, a7, a8, a9, a10, a11, a12⟩ := HK5.out.own.onCell x0b x0g
          have u0 : W5.cell? ⟨B7, 0, none⟩ = some (.slice x0.on.a x0.on.n x0.on.c) := HK5.out.box.cell (j := 0) (by decide)
          have u00 := HK5.out.box.lt
          rw [a1] at u0
          unfold maxLen at a8 a12
          have r0 : (0 : Int) ≤ (b : Int) := by omega
          have r1 : (b : Int) < (x0.on.n : Int) := by omega
          have r2 : (g : Int) < ((x0.on.r b).n : Int) := by omega
          have HA4 : Hid ((x0.on.r b).a = some ⟨G, 0, none⟩) := a4
          clear a1 a4 a10
          have ru0 := fun d os => cell_regrown u0 d os
          have ra3 := fun d os => cell_regrown a3 d os
          have ra9 := fun d os => cell_regrown a9 d os
          go_wp2_with fail
          refine wp_region_ph [(true, [0, 1, 2, 3, 4, 5, 6, 7, 8, 9, 10, 11, 12, 13, 14, 15, 16], some 17)] (by kernel_rfl) (by kernel_rfl) (by kernel_rfl) (by kernel_rfl) (by kernel_rfl) ?_
          refine ⟨fun w' => ∃ p : Regrown, w' = grow (redrawn W5 p.d) p.os, regrown_of_below ((Below.refl _ _).drew), fun h => (by cases h), ?_⟩
          simp only [picks, List.drop_succ_cons, List.drop_zero, List.take_succ_cons, List.take_zero, List.cons_append, List.nil_append]
          repeat (go_big_quiet_step (fail))
          refine wpQuiet_nil ?_
          clear ru0 ra3 ra9 u0 a3 a9
          have hBd : Below W5.heap.size W5 W5.drew := (Below.refl _ _).drew
          generalize W5.drew = wj at *
          have HKj := HK5.out.below hBd
          obtain ⟨Gq, b1, b2, b3, b4, b5⟩ := HKj.own.rows b x0b
          rw [HA4.out] at b1
          simp only [Option.some.injEq, Addr.mk.injEq, and_true] at b1
          subst b1
          have zl := b5.lt
          have zf := b5.frozen g
          have zc := b5.cell (j := g) x0g
          have HK6 : Hid (RelK w2.heap.size B7 W0 (setOn x0 b g ((x0.on.r b).z g - n)) (wj.setCell ⟨G, g, none⟩ (.int .i64 ((x0.on.r b).z g - n)))) := ⟨HKj.own.setOn (b := b) x0b HA4.out g _, HKj.box.other (a := ⟨G, g, none⟩) (Blk.ne2 HKj.box b5 (by decide)) _, HKj.bel.setCell (p := ⟨G, g, none⟩) (by show W0.heap.size ≤ G; omega) _, by have := HKj.le; simpa using this⟩
          clear HKj b2 b3 b4 b5 hBd HK5 HA4 a2 a5 a6 u00
          refine wpOp_one 17 rfl ?_
          go_wp2_with fail
          refine NoPanic.normal ?_
          clear zl zf zc
          generalize wj.setCell ⟨G, g, none⟩ (.int .i64 ((x0.on.r b).z g - n)) = W6 at *
          clear wj
          -- what went
          obtain ⟨GS, e1, e2, e3, e4, e5, e6, e7⟩ := HK6.out.own.so.cellAt (g := g) x0s
          have e1' : x0.so.a = some ⟨GS, 0, none⟩ := e1
          have u5 : W6.cell? ⟨B7, 5, none⟩ = some (.slice x0.so.a x0.so.n x0.so.c) := HK6.out.box.cell (j := 5) (by decide)
          have u00 := HK6.out.box.lt
          rw [e1'] at u5
          have e4' : x0.so.n ≤ x0.so.c := e4
          have e5' : x0.so.c ≤ maxLen := e5
          have e6' : W6.cell? ⟨GS, g, none⟩ = some (.int .i64 (x0.so.z g)) := e6
          unfold maxLen at e5'
          have r3 : (g : Int) < (x0.so.n : Int) := by omega
          have HE1 : Hid (x0.so.a = some ⟨GS, 0, none⟩) := e1'
          clear e1 e1' e4 e5 e6 e7
          have ru5 := fun d os => cell_regrown u5 d os
          have re6 := fun d os => cell_regrown e6' d os
          go_wp2_with fail
          refine wp_region_ph [(true, [0, 1, 2, 3, 4, 5, 6, 7, 8, 9, 10], some 11)] (by kernel_rfl) (by kernel_rfl) (by kernel_rfl) (by kernel_rfl) (by kernel_rfl) ?_
          refine ⟨fun w' => ∃ p : Regrown, w' = grow (redrawn W6 p.d) p.os, regrown_of_below ((Below.refl _ _).drew), fun h => (by cases h), ?_⟩
          simp only [picks, List.drop_succ_cons, List.drop_zero, List.take_succ_cons, List.take_zero, List.cons_append, List.nil_append]
          repeat (go_big_quiet_step (fail))
          refine wpQuiet_nil ?_
          clear ru5 re6 u5 e6'
          have hBd : Below W6.heap.size W6 W6.drew := (Below.refl _ _).drew
          generalize W6.drew = wj at *
          have HKj := HK6.out.below hBd
          obtain ⟨Gq, b1, b2, b3, b4, b5⟩ := HKj.own.so
          have b1' : x0.so.a = some ⟨Gq, 0, none⟩ := b1
          rw [HE1.out] at b1'
          simp only [Option.some.injEq, Addr.mk.injEq, and_true] at b1'
          subst b1'
          have zl := b5.lt
          have zf := b5.frozen g
          have zc : wj.cell? ⟨GS, g, none⟩ = some (.int .i64 (x0.so.z g)) := b5.cell (j := g) x0s
          have HK7 : Hid (RelK w2.heap.size B7 W0 (setOut (setOn x0 b g ((x0.on.r b).z g - n)) g (x0.so.z g + n)) (wj.setCell ⟨GS, g, none⟩ (.int .i64 (x0.so.z g + n)))) := ⟨HKj.own.setOut HE1.out g _, HKj.box.other (a := ⟨GS, g, none⟩) (Blk.ne2 HKj.box b5 (by decide)) _, HKj.bel.setCell (p := ⟨GS, g, none⟩) (by show W0.heap.size ≤ GS; omega) _, by have := HKj.le; simpa using this⟩
          clear HKj b1 b2 b3 b4 b5 hBd HK6 HE1 e2 e3 u00
          refine wpOp_one 11 rfl ?_
          go_wp2_with fail
          refine NoPanic.normal ?_
          clear zl zf
          have wl := HK7.out.box.lt
          have u2 : (wj.setCell ⟨GS, g, none⟩ (.int .i64 (x0.so.z g + n))).cell? ⟨B7, 2, none⟩ = some (.slice x0.hs.a x0.hs.n x0.hs.c) := HK7.out.box.cell (j := 2) (by decide)
          generalize wj.setCell ⟨GS, g, none⟩ (.int .i64 (x0.so.z g + n)) = W7 at *
          clear zc
          -- the hold
          go_wp2_with fail
          clear u2 wl
          have HHW : Hid (Calls Tryz.prog 35 #[.slice x0.hs.a x0.hs.n x0.hs.c, .int .i64 (o : Int), .int .i64 (l : Int), .int .i64 (b : Int), .int .i64 0] W7 fun e w' => ∃ s' : Hs, e = .returned s'.val ∧ OwnH W7.heap.size 55 w' s' ∧ (s'.n = (dropHs s.hs o l b).n ∧ ∀ j, j < s'.n → s'.z j = (dropHs s.hs o l b).z j) ∧ Below W7.heap.size W7 w') := by
            have hrx : anyB x0.hs.n (badH x0.hs.z) = false := (HS0.out.formed HR.out.fm).hold
            have hkx : ¬ keptV x0.hs.n x0.hs.z o l b = 0 := by
              rw [HS0.out.hs.1, keptV_congr fun j hj => HS0.out.hs.2 j (by rw [HS0.out.hs.1]; exact hj)]
              exact H1.out
            obtain ⟨p1, p2, p3, p4, p5⟩ := kept_pos hrx hkx
            have fx := right_fine hrx _ p1
            have hk := match_key (n := 0) p2
            have h := with_dropO x0.hs ⟨o, l, b, 0⟩ (dropI x0.hs.n x0.hs.z o l b) W7 HK7.out.own.hs.at hrx (match_rng p2 fx) p1 hk rfl (fun j hj => by rw [← hk]; exact p4 j hj) (fun j hj hjn => by rw [← hk]; exact p5 j hj hjn)
            refine Calls.mono h fun e w' => ?_
            rintro ⟨s', rfl, q1, q2, q3, q4⟩
            have ei : dropI x0.hs.n x0.hs.z o l b = dropI s.hs.n s.hs.z o l b := by
              obtain ⟨s1, s2, -⟩ := kept_pos HR.out.fm.hold H1.out
              exact ((kept_at hrx (k := dropI s.hs.n s.hs.z o l b) (by rw [HS0.out.hs.1]; exact s1) (by rw [HS0.out.hs.2 _ (by rw [HS0.out.hs.1]; exact s1)]; exact s2)).2)
            refine ⟨s', rfl, q1, ⟨by rw [q2, HS0.out.hs.1]; rfl, fun j hj => ?_⟩, q4⟩
            rw [q3, ei]
            show dropZ x0.hs.z _ j = dropZ s.hs.z _ j
            have hj' : j < x0.hs.n - 1 := by rw [← q2]; exact hj
            unfold dropZ
            split
            · exact HS0.out.hs.2 j (by omega)
            · exact HS0.out.hs.2 (j + 1) (by omega)
          refine Calls.mono HHW.out ?_
          rintro e w8 ⟨hd, rfl, hdo, hdn, hB8⟩
          have HDN : Hid (hd.n = (dropHs s.hs o l b).n ∧ ∀ j, j < hd.n → hd.z j = (dropHs s.hs o l b).z j) := hdn
          have HKj := HK7.out.below hB8
          have zl := HKj.box.lt
          have zf := HKj.box.frozen 2
          have zc := HKj.box.cell (j := 2) (by decide)
          have HK8 : Hid (RelK w2.heap.size B7 W0 (withHolds (setOut (setOn x0 b g ((x0.on.r b).z g - n)) g (x0.so.z g + n)) hd) (w8.setCell ⟨B7, 2, none⟩ (.slice hd.a hd.n hd.c))) := ⟨(HKj.own.withHolds (hdo.mono HK7.out.le)).box HKj.box 2 _, (HKj.box.set 2 (.slice hd.a hd.n hd.c)).congr (fun j hj => by match j, hj with | 0, _ => rfl | 1, _ => rfl | 2, _ => rfl | 3, _ => rfl | 4, _ => rfl | 5, _ => rfl | 6, _ => rfl), HKj.bel.setCell (p := ⟨B7, 2, none⟩) (by show W0.heap.size ≤ B7; omega) _, by have := HKj.le; simpa using this⟩
          clear HKj hdo hdn hB8 HHW HK7
          -- the line
          obtain ⟨gO, BL, f1, f2, f3, f4, f5, f6, f7, f8, f9, f10, f11, f12, f13, f14⟩ := HK8.out.own.lineCell (o := o) (l := l) x0n x0l
          have f1' : x0.os.a = some ⟨gO, 0, none⟩ := f1
          have HF1 : Hid (x0.os.a = some ⟨gO, 0, none⟩) := f1'
          have HF5 : Hid ((x0.os.z o).ls.a = some ⟨BL, 0, none⟩) := f5
          have u1 : (w8.setCell ⟨B7, 2, none⟩ (.slice hd.a hd.n hd.c)).cell? ⟨B7, 1, none⟩ = some (.slice x0.os.a x0.os.n x0.os.c) := HK8.out.box.cell (j := 1) (by decide)
          rw [f1'] at u1
          have f4' : (w8.setCell ⟨B7, 2, none⟩ (.slice hd.a hd.n hd.c)).cell? ⟨gO, o * 2 + 1, none⟩ = some (.slice (some ⟨BL, 0, none⟩) (x0.os.z o).ls.n (x0.os.z o).ls.c) := f4
          have f8' : (x0.os.z o).ls.n ≤ (x0.os.z o).ls.c := f8
          have f9' : (x0.os.z o).ls.c ≤ maxLen := f9
          have f11' : (w8.setCell ⟨B7, 2, none⟩ (.slice hd.a hd.n hd.c)).cell? ⟨BL, l * 4, none⟩ = some (.int .i64 ((x0.os.z o).ls.z l).o) := f11
          have f12' : (w8.setCell ⟨B7, 2, none⟩ (.slice hd.a hd.n hd.c)).cell? ⟨BL, l * 4 + 1, none⟩ = some (.int .i64 ((x0.os.z o).ls.z l).l) := f12
          have f13' : (w8.setCell ⟨B7, 2, none⟩ (.slice hd.a hd.n hd.c)).cell? ⟨BL, l * 4 + 2, none⟩ = some (.int .i64 ((x0.os.z o).ls.z l).b) := f13
          have f14' : (w8.setCell ⟨B7, 2, none⟩ (.slice hd.a hd.n hd.c)).cell? ⟨BL, l * 4 + 3, none⟩ = some (.int .i64 ((x0.os.z o).ls.z l).n) := f14
          have ol1 : x0.os.n ≤ x0.os.c := HK8.out.own.os.le
          have oc1 : x0.os.c ≤ maxLen := HK8.out.own.os.cap
          unfold maxLen at f9' oc1
          have u00 := HK8.out.box.lt
          have r4 : (o : Int) < (x0.os.n : Int) := by omega
          have r5 : (l : Int) < ((x0.os.z o).ls.n : Int) := by omega
          clear f1 f1' f2 f4 f5 f6 f8 f9 f10 f11 f12 f13 f14
          obtain ⟨W9, hW9, hWB9, K9⟩ : ∃ W, (w8.setCell ⟨B7, 2, none⟩ (.slice hd.a hd.n hd.c)).alloc (.cells #[.int .i64 ((x0.os.z o).ls.z l).o, .int .i64 ((x0.os.z o).ls.z l).l, .int .i64 ((x0.os.z o).ls.z l).b, .int .i64 ((x0.os.z o).ls.z l).n] 49) = W ∧ Below (w8.setCell ⟨B7, 2, none⟩ (.slice hd.a hd.n hd.c)).heap.size (w8.setCell ⟨B7, 2, none⟩ (.slice hd.a hd.n hd.c)) W ∧ Blk W (w8.setCell ⟨B7, 2, none⟩ (.slice hd.a hd.n hd.c)).heap.size 49 4 (fun j => (#[.int .i64 ((x0.os.z o).ls.z l).o, .int .i64 ((x0.os.z o).ls.z l).l, .int .i64 ((x0.os.z o).ls.z l).b, .int .i64 ((x0.os.z o).ls.z l).n] : Array Value).getD j default) := ⟨_, rfl, (Below.refl _ _).alloc (Nat.le_refl _) _, Blk.mk' rfl rfl⟩
          have HW9 : Hid ((w8.setCell ⟨B7, 2, none⟩ (.slice hd.a hd.n hd.c)).alloc (.cells #[.int .i64 ((x0.os.z o).ls.z l).o, .int .i64 ((x0.os.z o).ls.z l).l, .int .i64 ((x0.os.z o).ls.z l).b, .int .i64 ((x0.os.z o).ls.z l).n] 49) = W9) := hW9
          have HK9 : Hid (RelK w2.heap.size B7 W0 (withHolds (setOut (setOn x0 b g ((x0.on.r b).z g - n)) g (x0.so.z g + n)) hd) W9) := HK8.out.below hWB9
          have u1b : W9.cell? ⟨B7, 1, none⟩ = some (.slice x0.os.a x0.os.n x0.os.c) := HK9.out.box.cell (j := 1) (by decide)
          have u00b := HK9.out.box.lt
          rw [HF1.out] at u1b
          have f3b : gO < W9.heap.size := Nat.lt_of_lt_of_le f3 hWB9.size
          have f7b : BL < W9.heap.size := Nat.lt_of_lt_of_le f7 hWB9.size
          have f4b : W9.cell? ⟨gO, o * 2 + 1, none⟩ = some (.slice (some ⟨BL, 0, none⟩) (x0.os.z o).ls.n (x0.os.z o).ls.c) := (hWB9.cell (p := ⟨gO, o * 2 + 1, none⟩) f3).trans f4'
          have k1b : W9.cell? ⟨(w8.setCell ⟨B7, 2, none⟩ (.slice hd.a hd.n hd.c)).heap.size, 1, none⟩ = some (.int .i64 ((x0.os.z o).ls.z l).l) := K9.cell (j := 1) (by decide)
          have k2b : W9.cell? ⟨(w8.setCell ⟨B7, 2, none⟩ (.slice hd.a hd.n hd.c)).heap.size, 2, none⟩ = some (.int .i64 ((x0.os.z o).ls.z l).b) := K9.cell (j := 2) (by decide)
          have k3b : W9.cell? ⟨(w8.setCell ⟨B7, 2, none⟩ (.slice hd.a hd.n hd.c)).heap.size, 3, none⟩ = some (.int .i64 ((x0.os.z o).ls.z l).n) := K9.cell (j := 3) (by decide)
          have k4b := K9.lt
          clear hW9 hWB9 K9
          simp only [Hs.val]
          go_wp2_with fail
          rw [HW9.out]
          clear u1 f4' f11' f12' f13' f14' f3 f7 u00 zl zf zc HW9 HK8
          have hsz : (w8.setCell ⟨B7, 2, none⟩ (.slice hd.a hd.n hd.c)).heap.size = w8.heap.size := by simp
          rw [hsz] at k1b k2b k3b k4b
          try rw [hsz]
          clear hsz
          have ru1b := fun d os => cell_regrown u1b d os
          have rf4b := fun d os => cell_regrown f4b d os
          have rk1b := fun d os => cell_regrown k1b d os
          have rk2b := fun d os => cell_regrown k2b d os
          have rk3b := fun d os => cell_regrown k3b d os
          go_wp2_with fail
          refine wp_region_ph [(true, [0, 1, 2, 3, 4, 5, 6, 7, 8, 9, 10, 11, 12, 13, 14, 15, 16, 17, 18, 19, 20, 21], some 22)] (by kernel_rfl) (by kernel_rfl) (by kernel_rfl) (by kernel_rfl) (by kernel_rfl) ?_
          refine ⟨fun w' => ∃ p : Regrown, w' = grow (redrawn W9 p.d) p.os, regrown_of_below ((Below.refl _ _).drew), fun h => (by cases h), ?_⟩
          simp only [picks, List.drop_succ_cons, List.drop_zero, List.take_succ_cons, List.take_zero, List.cons_append, List.nil_append]
          repeat (go_big_quiet_step (fail))
          refine wpQuiet_nil ?_
          clear ru1b rf4b rk1b rk2b rk3b u1b f4b k1b k2b k3b k4b
          have hBd : Below W9.heap.size W9 W9.drew := (Below.refl _ _).drew
          generalize W9.drew = wj at *
          have HKj := HK9.out.below hBd
          obtain ⟨Bq, hla', hAB, -, -, hlb⟩ := HKj.own.os.lines o x0n
          have hla2 : (x0.os.z o).ls.a = some ⟨Bq, 0, none⟩ := hla'
          rw [HF5.out] at hla2
          simp only [Option.some.injEq, Addr.mk.injEq, and_true] at hla2
          subst hla2
          have zl := hlb.lt
          have zf0 := hlb.frozen (l * 4)
          have zf1 := hlb.frozen (l * 4 + 1)
          have zf2 := hlb.frozen (l * 4 + 2)
          have zf3 := hlb.frozen (l * 4 + 3)
          have hlx : l * 4 + 3 < (x0.os.z o).ls.n * 4 := by omega
          have zc0 := hlb.cell (j := l * 4) (by show l * 4 < (x0.os.z o).ls.n * 4; omega)
          have zc1 := hlb.cell (j := l * 4 + 1) (by show l * 4 + 1 < (x0.os.z o).ls.n * 4; omega)
          have zc2 := hlb.cell (j := l * 4 + 2) (by show l * 4 + 2 < (x0.os.z o).ls.n * 4; omega)
          have zc3 := hlb.cell (j := l * 4 + 3) hlx
          have s1 := HKj.own.setLine (o := o) x0n HF5.out l 0 (by decide) (g : Int)
          have s2 := s1.setLine (o := o) x0n (by rw [(setLine_n o).2.1]; exact HF5.out) l 1 (by decide) ((x0.os.z o).ls.z l).l
          have s3 := s2.setLine (o := o) x0n (by rw [(setLine_n o).2.1, (setLine_n o).2.1]; exact HF5.out) l 2 (by decide) (((x0.os.z o).ls.z l).b + n)
          have s4 := s3.setLine (o := o) x0n (by rw [(setLine_n o).2.1, (setLine_n o).2.1, (setLine_n o).2.1]; exact HF5.out) l 3 (by decide) (((x0.os.z o).ls.z l).n + K - n)
          have bne : B7 ≠ BL := Blk.ne2 HKj.box hlb (by decide)
          have HK10 : Hid (RelK w2.heap.size B7 W0 (pickV x0 hd o l b g n K) ((((wj.setCell ⟨BL, l * 4, none⟩ (.int .i64 (g : Int))).setCell ⟨BL, l * 4 + 1, none⟩ (.int .i64 ((x0.os.z o).ls.z l).l)).setCell ⟨BL, l * 4 + 2, none⟩ (.int .i64 (((x0.os.z o).ls.z l).b + n))).setCell ⟨BL, l * 4 + 3, none⟩ (.int .i64 (((x0.os.z o).ls.z l).n + K - n)))) := ⟨s4, (((HKj.box.other (a := ⟨BL, l * 4, none⟩) bne _).other (a := ⟨BL, l * 4 + 1, none⟩) bne _).other (a := ⟨BL, l * 4 + 2, none⟩) bne _).other (a := ⟨BL, l * 4 + 3, none⟩) bne _, (((HKj.bel.setCell (p := ⟨BL, l * 4, none⟩) (by show W0.heap.size ≤ BL; omega) _).setCell (p := ⟨BL, l * 4 + 1, none⟩) (by show W0.heap.size ≤ BL; omega) _).setCell (p := ⟨BL, l * 4 + 2, none⟩) (by show W0.heap.size ≤ BL; omega) _).setCell (p := ⟨BL, l * 4 + 3, none⟩) (by show W0.heap.size ≤ BL; omega) _, by have := HKj.le; simpa using this⟩
          generalize (flatH _ _).getD (l * 4) default = VV0 at zc0
          generalize (flatH _ _).getD (l * 4 + 1) default = VV1 at zc1
          generalize (flatH _ _).getD (l * 4 + 2) default = VV2 at zc2
          generalize (flatH _ _).getD (l * 4 + 3) default = VV3 at zc3
          have HYV : Hid (SameT (pickV x0 hd o l b g n K) (pickS s o l b n)) := by have h := pickV_same (n := n) HS0.out HI.out HDN.out.1 HDN.out.2; rw [HG.out, HK.out] at h; exact h
          have HYO : Hid ((pickV x0 hd o l b g n K).os.a = some ⟨gO, 0, none⟩) := HF1.out
          have HTK : Hid (TakeIn p (pickV x0 hd o l b g n K) o l (K - n)) := by have h := TakeIn.same HPI.out.takeIn HYV.out; rw [HK.out] at h; exact h
          have yon : o < (pickV x0 hd o l b g n K).os.n := x0n
          have yln : ((pickV x0 hd o l b g n K).os.z o).ls.n = (x0.os.z o).ls.n := (pickV_k x0 hd o l b g n K o).2.1
          have HYN : Hid (((pickV x0 hd o l b g n K).os.z o).ls.n = (x0.os.z o).ls.n) := yln
          obtain ⟨⟨⟨l1, d0, d1⟩, l2, c0, c1, c2, c3, c4, c5, c6⟩, hpk, hsk, hBw, hz⟩ := HC.out _ HK10.out.bel
          obtain ⟨m1, p0, p1, p2, p3, p4, p5, p6⟩ := Boxed.of HK10.out.box
          have HPK : Hid (p.At ((((wj.setCell ⟨BL, l * 4, none⟩ (.int .i64 (g : Int))).setCell ⟨BL, l * 4 + 1, none⟩ (.int .i64 ((x0.os.z o).ls.z l).l)).setCell ⟨BL, l * 4 + 2, none⟩ (.int .i64 (((x0.os.z o).ls.z l).b + n))).setCell ⟨BL, l * 4 + 3, none⟩ (.int .i64 (((x0.os.z o).ls.z l).n + K - n)))) := hpk
          clear HKj hla' hAB hlb s1 s2 s3 s4 hBd HK9 f3b f7b u00b l2 c0 c1 c2 c3 c4 c5 c6 hpk hsk hBw hz yln
          refine wpOp_one 22 rfl ?_
          go_wp2_with fail
          refine NoPanic.normal ?_
          clear zl zf0 zf1 zf2 zf3 zc0 zc1 zc2 zc3
          generalize ((((wj.setCell ⟨BL, l * 4, none⟩ (.int .i64 (g : Int))).setCell ⟨BL, l * 4 + 1, none⟩ (.int .i64 ((x0.os.z o).ls.z l).l)).setCell ⟨BL, l * 4 + 2, none⟩ (.int .i64 (((x0.os.z o).ls.z l).b + n))).setCell ⟨BL, l * 4 + 3, none⟩ (.int .i64 (((x0.os.z o).ls.z l).n + K - n))) = W10 at *
          generalize pickV x0 hd o l b g n K = y at *
          go_wp2_with fail
          clear l1 d0 d1 m1 p0 p1 p2 p3 p4 p5 p6
          refine (take_any p y o l w2.heap.size (K - n) b W10 HPK.out HK10.out.own HK10.out.le HTK.out).mono ?_
          rintro e w11 ⟨x, rfl, T, hO8, hB8, hK8⟩
          have HT : Hid (Step p b y o l (K - n) x) := T
          have HB8 : Hid (Blk w11 B7 31 7 (fun j => y.cells.getD j default)) := hK8 _ _ _ _ (by decide) HK10.out.box
          have HO8 : Hid (OwnS w2.heap.size w11 x) := hO8
          have HL8 : Hid (Below W0.heap.size W0 w11) := HK10.out.bel.trans (hB8.mono A1)
          have HE8 : Hid (w2.heap.size ≤ w11.heap.size) := Nat.le_trans HK10.out.le hB8.size
          have xon : o < x.os.n := by rw [T.os.1]; exact yon
          have HXN : Hid ((x.os.z o).ls.n = (x0.os.z o).ls.n) := (T.os.2 o xon).2.1.trans HYN.out
          have hb8 := HB8.out
          have zl := hb8.lt
          have zf0 := hb8.frozen 0
          have zc0 := hb8.cell (j := 0) (by decide)
          have zf1 := hb8.frozen 1
          have zc1 := hb8.cell (j := 1) (by decide)
          have zf2 := hb8.frozen 2
          have zc2 := hb8.cell (j := 2) (by decide)
          have zf3 := hb8.frozen 3
          have zc3 := hb8.cell (j := 3) (by decide)
          have zf4 := hb8.frozen 4
          have zc4 := hb8.cell (j := 4) (by decide)
          have zf5 := hb8.frozen 5
          have zc5 := hb8.cell (j := 5) (by decide)
          have zf6 := hb8.frozen 6
          have zc6 := hb8.cell (j := 6) (by decide)
          clear T hO8 hB8 hK8 HPK hb8
          generalize (Tk.go (avT y o l) (K - n) (wayT p b)).left = LL at *
          have HN : Hid (RelK w2.heap.size B7 W0 x (set7 w11 B7 (.slice x.on.a x.on.n x.on.c) (.slice x.os.a x.os.n x.os.c) (.slice x.hs.a x.hs.n x.hs.c) (.slice x.ms.a x.ms.n x.ms.c) (.slice x.si.a x.si.n x.si.c) (.slice x.so.a x.so.n x.so.c) (.slice x.sf.a x.sf.n x.sf.c))) := by
            have K := set7_blk HB8.out (.slice x.on.a x.on.n x.on.c) (.slice x.os.a x.os.n x.os.c) (.slice x.hs.a x.hs.n x.hs.c) (.slice x.ms.a x.ms.n x.ms.c) (.slice x.si.a x.si.n x.si.c) (.slice x.so.a x.so.n x.so.c) (.slice x.sf.a x.sf.n x.sf.c)
            have hb := set7_below (b := B7) HL8.out (Nat.le_trans A1 A3) (.slice x.on.a x.on.n x.on.c) (.slice x.os.a x.os.n x.os.c) (.slice x.hs.a x.hs.n x.hs.c) (.slice x.ms.a x.ms.n x.ms.c) (.slice x.si.a x.si.n x.si.c) (.slice x.so.a x.so.n x.so.c) (.slice x.sf.a x.sf.n x.sf.c)
            exact ⟨OwnS.set7 HO8.out HB8.out (.slice x.on.a x.on.n x.on.c) (.slice x.os.a x.os.n x.os.c) (.slice x.hs.a x.hs.n x.hs.c) (.slice x.ms.a x.ms.n x.ms.c) (.slice x.si.a x.si.n x.si.c) (.slice x.so.a x.so.n x.so.c) (.slice x.sf.a x.sf.n x.sf.c), K.congr (fun j hj => by match j, hj with | 0, _ => rfl | 1, _ => rfl | 2, _ => rfl | 3, _ => rfl | 4, _ => rfl | 5, _ => rfl | 6, _ => rfl), hb, by have := HE8.out; simpa [set7] using this⟩
          simp only [St.val]
          go_wp2_with fail
          clear zl zf0 zf1 zf2 zf3 zf4 zf5 zf6 zc0 zc1 zc2 zc3 zc4 zc5 zc6
          unfold set7 at HN
          go_loopw [19, 20] (fun av kv wk => ∃ k : Nat, k ≤ (x.os.z o).ls.n ∧ kv = .int .i64 k ∧ av = .bool (!anyB k (fun j => lacksL ((x.os.z o).ls.z j))) ∧ Hid (RelK w2.heap.size B7 W0 x wk)) (fun _ kv _ => (x.os.z o).ls.n - (intOf kv).toNat)
          case atStart => exact ⟨0, Nat.zero_le _, rfl, rfl, HN⟩
          case round =>
            clear HN
            obtain ⟨k, hk, rfl, rfl, HKx⟩ := hrel
            obtain ⟨gX, g1, g2, g3, g4, g5, g6⟩ := HKx.out.own.orderCells (o := o) xon
            have u1 : wr.cell? ⟨B7, 1, none⟩ = some (.slice x.os.a x.os.n x.os.c) := HKx.out.box.cell (j := 1) (by decide)
            have u00 := HKx.out.box.lt
            rw [g1] at u1
            have HG1 : Hid (x.os.a = some ⟨gX, 0, none⟩) := g1
            have xol : x.os.n ≤ x.os.c := HKx.out.own.os.le
            have xoc : x.os.c ≤ maxLen := HKx.out.own.os.cap
            obtain ⟨_, _, _, _, _, _, hls⟩ := HKx.out.own.at.os.ods o xon
            have xll := hls.le
            have xlc := hls.cap
            unfold maxLen at xoc xlc
            have r6 : (o : Int) < (x.os.n : Int) := by omega
            clear g1 hls
            by_cases hlt : k < (x.os.z o).ls.n
            · have q6 : (0 : Int) ≤ (k : Int) := by omega
              have q7 : (k : Int) < ((x.os.z o).ls.n : Int) := by omega
              obtain ⟨gr, BX, f1, f2, f3, f4, f5, f6, f7, f8, f9, f10, f11, f12, f13, f14⟩ := HKx.out.own.lineCell (o := o) (l := k) xon hlt
              rw [f5] at g5
              have HSU : Hid (anyB (k + 1) (fun j => lacksL ((x.os.z o).ls.z j)) = (anyB k (fun j => lacksL ((x.os.z o).ls.z j)) || lacksL ((x.os.z o).ls.z k))) := anyB_succ _ _
              have HLK : Hid (lacksL ((x.os.z o).ls.z k) = !(((x.os.z o).ls.z k).b == ((x.os.z o).ls.z k).l)) := rfl
              generalize (x.os.z o).ls.z k = Z at *
              have ru1 := fun d os => cell_regrown u1 d os
              have rg5 := fun d os => cell_regrown g5 d os
              have rf13 := fun d os => cell_regrown f13 d os
              have rf12 := fun d os => cell_regrown f12 d os
              clear f1 f2 f3 f4 f5 f6 f8 f9 f10 f11 f12 f13 f14 g4 g6
              cases ha : anyB k (fun j => lacksL ((x.os.z o).ls.z j))
              · cases hb2 : (Z.b == Z.l)
                · simp only [Bool.not_false]
                  go_wp2_with fail
                  clear u1 g5 g3 f7 u00
                  refine wp_region_quiet_below (by kernel_rfl) (by kernel_rfl) ?_
                  repeat (go_big_quiet_step (fail))
                  refine wpQuiet_nil ?_
                  intro wq hwq
                  have hBq := below_of_regrown hwq
                  have HKx : Hid (RelK w2.heap.size B7 W0 x wq) := HKx.out.below hBq
                  clear hwq hBq ru1 rg5 rf13 rf12
                  go_wp2_with fail
                  go_roundw
                  case rel => exact ⟨k + 1, by omega, by go_num, by rw [HSU.out, ha, HLK.out, hb2]; rfl, HKx⟩
                  case measure => simp [intOf]; omega
                · simp only [Bool.not_false]
                  go_wp2_with fail
                  clear u1 g5 g3 f7 u00
                  refine wp_region_quiet_below (by kernel_rfl) (by kernel_rfl) ?_
                  repeat (go_big_quiet_step (fail))
                  refine wpQuiet_nil ?_
                  intro wq hwq
                  have hBq := below_of_regrown hwq
                  have HKx : Hid (RelK w2.heap.size B7 W0 x wq) := HKx.out.below hBq
                  clear hwq hBq ru1 rg5 rf13 rf12
                  go_wp2_with fail
                  go_roundw
                  case rel => exact ⟨k + 1, by omega, by go_num, by rw [HSU.out, ha, HLK.out, hb2]; rfl, HKx⟩
                  case measure => simp [intOf]; omega
              · simp only [Bool.not_true]
                go_wp2_with fail
                clear u1 g5 g3 f7 u00
                refine wp_region_quiet_below (by kernel_rfl) (by kernel_rfl) ?_
                repeat (go_big_quiet_step (fail))
                refine wpQuiet_nil ?_
                intro wq hwq
                have hBq := below_of_regrown hwq
                have HKx : Hid (RelK w2.heap.size B7 W0 x wq) := HKx.out.below hBq
                clear hwq hBq ru1 rg5 rf13 rf12
                go_wp2_with fail
                go_roundw
                case rel => exact ⟨k + 1, by omega, by go_num, by rw [HSU.out, ha]; rfl, HKx⟩
                case measure => simp [intOf]; omega
            · have hkn : k = (x.os.z o).ls.n := by omega
              have HGA : Hid ((!anyB k (fun j => lacksL ((x.os.z o).ls.z j))) = gotAll (pickS s o l b n) o) := by
                rw [hkn]
                show gotAll x o = _
                rw [HT.out.got yon, gotAll_same HYV.out ho]
              obtain ⟨AV, hAV⟩ : ∃ A, (!anyB k (fun j => lacksL ((x.os.z o).ls.z j))) = A := ⟨_, rfl⟩
              rw [hAV] at HGA ⊢
              have q7 : ((x.os.z o).ls.n : Int) ≤ (k : Int) := by omega
              clear hAV
              have HTP := HT.out
              rw [← HK.out] at HTP
              have HTS0 : Hid (gotAll (pickS s o l b n) o = false → SameT x (pickT p s o l b n)) := fun hgf => by
                unfold pickT
                rw [hgf, if_neg (by decide)]
                exact Step.same HPI.out.takeIn HYV.out (takeT_step (but := (b : Int)) HPI.out.takeIn) HTP
              have HTS1 : Hid (gotAll (pickS s o l b n) o = true → SameT (kindS x o 2) (pickT p s o l b n)) := fun hgt => by
                have e0 := HPI.out.all0 hgt
                unfold pickT
                rw [hgt, if_pos rfl]
                have T0 := HT.out
                have I0 := HTK.out
                rw [← HK.out, e0] at T0 I0
                exact kindS_same ((Step.zero I0 T0).trans HYV.out) o 2
              clear HTP
              cases AV
              · have HTS : Hid (SameT x (pickT p s o l b n)) := HTS0.out HGA.out.symm
                have HKz := HKx
                obtain ⟨m1, p0, p1, p2, p3, p4, p5, p6⟩ := Boxed.of HKz.out.box
                rw [HG1.out] at p1
                obtain ⟨-, -, -, hBw, hz⟩ := HC.out wr HKz.out.bel
                have HZ : Hid (Below w.heap.size w wr ∧ Blk wr (w.heap.size + 2) 31 7 (fun _ => .slice .none 0 0)) := ⟨hBw, hz⟩
                have zl := hz.lt
                have zf0 := hz.frozen 0
                have zc0 := hz.cell (j := 0) (by decide)
                have zf1 := hz.frozen 1
                have zc1 := hz.cell (j := 1) (by decide)
                have zf2 := hz.frozen 2
                have zc2 := hz.cell (j := 2) (by decide)
                have zf3 := hz.frozen 3
                have zc3 := hz.cell (j := 3) (by decide)
                have zf4 := hz.frozen 4
                have zc4 := hz.cell (j := 4) (by decide)
                have zf5 := hz.frozen 5
                have zc5 := hz.cell (j := 5) (by decide)
                have zf6 := hz.frozen 6
                have zc6 := hz.cell (j := 6) (by decide)
                have hlow := (HC.out _ (Below.refl _ _)).2.2.2.1.size
                clear hBw hz g4 g6 HTS0 HTS1
                go_wp2_with fail
                rw [← HG1.out]
                have KZ := set7_blk HZ.out.2 (.slice x.on.a x.on.n x.on.c) (.slice x.os.a x.os.n x.os.c) (.slice x.hs.a x.hs.n x.hs.c) (.slice x.ms.a x.ms.n x.ms.c) (.slice x.si.a x.si.n x.si.c) (.slice x.so.a x.so.n x.so.c) (.slice x.sf.a x.sf.n x.sf.c)
                have hbz := set7_below (b := w.heap.size + 2) HZ.out.1 (by omega) (.slice x.on.a x.on.n x.on.c) (.slice x.os.a x.os.n x.os.c) (.slice x.hs.a x.hs.n x.hs.c) (.slice x.ms.a x.ms.n x.ms.c) (.slice x.si.a x.si.n x.si.c) (.slice x.so.a x.so.n x.so.c) (.slice x.sf.a x.sf.n x.sf.c)
                have hOz := OwnS.set7 HKz.out.own HZ.out.2 (.slice x.on.a x.on.n x.on.c) (.slice x.os.a x.os.n x.os.c) (.slice x.hs.a x.hs.n x.hs.c) (.slice x.ms.a x.ms.n x.ms.c) (.slice x.si.a x.si.n x.si.c) (.slice x.so.a x.so.n x.so.c) (.slice x.sf.a x.sf.n x.sf.c)
                unfold set7 at KZ hbz hOz
                obtain ⟨c0', c1', c2', c3', c4', c5', c6'⟩ := box_cells KZ
                refine bodyPost_ret (v := .tuple #[x.val, .int .i64 0]) (by simp [results, Tryz.results12, go_sem, St.val, c0', c1', c2', c3', c4', c5', c6']) rfl ?_
                exact ⟨x, by rw [HX.out]; rfl, hOz.at, ⟨fun _ => HTS.out, fun h => absurd HX.out h⟩, hbz⟩
              · have HTS : Hid (SameT (kindS x o 2) (pickT p s o l b n)) := HTS1.out HGA.out.symm
                have g6k := g6 (o * 2)
                obtain ⟨gq, b1, b2, b3⟩ := HKx.out.own.os.list (by omega)
                rw [HG1.out] at b1
                simp only [Option.some.injEq, Addr.mk.injEq, and_true] at b1
                subst b1
                have bneo : gX ≠ B7 := Blk.ne2 b3 HKx.out.box (by decide)
                have HKz : Hid (RelK w2.heap.size B7 W0 (kindS x o 2) (wr.setCell ⟨gX, o * 2, none⟩ (.int .i64 2))) := ⟨HKx.out.own.kind (o := o) xon HG1.out 2, HKx.out.box.other (a := ⟨gX, o * 2, none⟩) bneo.symm _, HKx.out.bel.setCell (p := ⟨gX, o * 2, none⟩) (by show W0.heap.size ≤ gX; omega) _, by have := HKx.out.le; simpa using this⟩
                generalize kindS x o 2 = z at HKz HTS
                obtain ⟨m1, p0, p1, p2, p3, p4, p5, p6⟩ := Boxed.of HKz.out.box
                obtain ⟨-, -, -, hBw, hz⟩ := HC.out _ HKz.out.bel
                have HZ : Hid (Below w.heap.size w (wr.setCell ⟨gX, o * 2, none⟩ (.int .i64 2)) ∧ Blk (wr.setCell ⟨gX, o * 2, none⟩ (.int .i64 2)) (w.heap.size + 2) 31 7 (fun _ => .slice .none 0 0)) := ⟨hBw, hz⟩
                have zl := hz.lt
                have zf0 := hz.frozen 0
                have zc0 := hz.cell (j := 0) (by decide)
                have zf1 := hz.frozen 1
                have zc1 := hz.cell (j := 1) (by decide)
                have zf2 := hz.frozen 2
                have zc2 := hz.cell (j := 2) (by decide)
                have zf3 := hz.frozen 3
                have zc3 := hz.cell (j := 3) (by decide)
                have zf4 := hz.frozen 4
                have zc4 := hz.cell (j := 4) (by decide)
                have zf5 := hz.frozen 5
                have zc5 := hz.cell (j := 5) (by decide)
                have zf6 := hz.frozen 6
                have zc6 := hz.cell (j := 6) (by decide)
                have hlow := (HC.out _ (Below.refl _ _)).2.2.2.1.size
                clear hBw hz b2 b3 g6 HTS0 HTS1 HKx
                generalize (x.os.z o).k = KK at *
                go_wp2_with fail
                have KZ := set7_blk HZ.out.2 (.slice z.on.a z.on.n z.on.c) (.slice z.os.a z.os.n z.os.c) (.slice z.hs.a z.hs.n z.hs.c) (.slice z.ms.a z.ms.n z.ms.c) (.slice z.si.a z.si.n z.si.c) (.slice z.so.a z.so.n z.so.c) (.slice z.sf.a z.sf.n z.sf.c)
                have hbz := set7_below (b := w.heap.size + 2) HZ.out.1 (by omega) (.slice z.on.a z.on.n z.on.c) (.slice z.os.a z.os.n z.os.c) (.slice z.hs.a z.hs.n z.hs.c) (.slice z.ms.a z.ms.n z.ms.c) (.slice z.si.a z.si.n z.si.c) (.slice z.so.a z.so.n z.so.c) (.slice z.sf.a z.sf.n z.sf.c)
                have hOz := OwnS.set7 HKz.out.own HZ.out.2 (.slice z.on.a z.on.n z.on.c) (.slice z.os.a z.os.n z.os.c) (.slice z.hs.a z.hs.n z.hs.c) (.slice z.ms.a z.ms.n z.ms.c) (.slice z.si.a z.si.n z.si.c) (.slice z.so.a z.so.n z.so.c) (.slice z.sf.a z.sf.n z.sf.c)
                unfold set7 at KZ hbz hOz
                obtain ⟨c0', c1', c2', c3', c4', c5', c6'⟩ := box_cells KZ
                refine bodyPost_ret (v := .tuple #[z.val, .int .i64 0]) (by simp [results, Tryz.results12, go_sem, St.val, c0', c1', c2', c3', c4', c5', c6']) rfl ?_
                exact ⟨z, by rw [HX.out]; rfl, hOz.at, ⟨fun _ => HTS.out, fun h => absurd HX.out h⟩, hbz⟩
  · have HX : Hid (pickE p s order line bin n = stateE p s) := pickE_state h0
    have HNE : Hid (¬ pickE p s order line bin n = 0) := by show ¬ _; rw [pickE_state h0]; exact h0
    have g0 : (stateE p s != 0) = true := by simpa using h0
    clear h0
    clear hpk hsk
    have zl := hz.lt
    have zf0 := hz.frozen 0
    have zc0 := hz.cell (j := 0) (by decide)
    have zf1 := hz.frozen 1
    have zc1 := hz.cell (j := 1) (by decide)
    have zf2 := hz.frozen 2
    have zc2 := hz.cell (j := 2) (by decide)
    have zf3 := hz.frozen 3
    have zc3 := hz.cell (j := 3) (by decide)
    have zf4 := hz.frozen 4
    have zc4 := hz.cell (j := 4) (by decide)
    have zf5 := hz.frozen 5
    have zc5 := hz.cell (j := 5) (by decide)
    have zf6 := hz.frozen 6
    have zc6 := hz.cell (j := 6) (by decide)
    go_wp2_with fail
    have KZ := set7_blk hz (.slice .none 0 0) (.slice .none 0 0) (.slice .none 0 0) (.slice .none 0 0) (.slice .none 0 0) (.slice .none 0 0) (.slice .none 0 0)
    have hbz := set7_below (b := w.heap.size + 2) hBw (by omega) (.slice .none 0 0) (.slice .none 0 0) (.slice .none 0 0) (.slice .none 0 0) (.slice .none 0 0) (.slice .none 0 0) (.slice .none 0 0)
    unfold set7 at KZ hbz
    obtain ⟨c0', c1', c2', c3', c4', c5', c6'⟩ := box_cells KZ
    refine bodyPost_ret (v := .tuple #[noneS.val, .int .i64 (stateE p s)]) (by simp [results, Tryz.results12, go_sem, noneS, St.val, c0', c1', c2', c3', c4', c5', c6']) rfl ?_
    exact ⟨noneS, by rw [HX.out]; rfl, noneS_at _, ⟨fun h => absurd h (HNE.out), fun _ => ⟨rfl, rfl, rfl, rfl, rfl, rfl, rfl⟩⟩, hbz⟩
end Go.Proofs.YtbcacebifpagpadGreat

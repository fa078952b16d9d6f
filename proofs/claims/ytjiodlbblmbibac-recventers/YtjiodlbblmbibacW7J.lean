/- Texts that were built one behind the other, joined. -/
import Derived.Test.YtjiodlbblmbibacW6J
import Derived.Test.YtjiodlbblmbibacRJ
/- Put. -/
namespace Go.Proofs.Ytjiodlbblmbibac
open Go.RowKit Go.Shelf
set_option linter.unusedVariables false

set_option maxHeartbeats 1000000 in
theorem Put_any (p : Pl) (s : Sh) (bin good n : Int) (w : World) (hp : p.At w) (hs : s.At w) :
    Calls Try.prog 57 #[p.val, s.val, .int .i64 bin, .int .i64 good, .int .i64 n] w fun e w' => ∃ v, e = .returned (.tuple #[v, .int .i64 (putE p s bin good n)]) ∧ PutRes p s bin good n w' v ∧ Below w.heap.size w w' := by
  have hB0 : Below w.heap.size w (w.alloc (.cells #[.slice p.ab p.nb p.cb, .slice p.sa p.ns p.cs] 25)) := (Below.refl w.heap.size w).alloc (Nat.le_refl _) _
  simp only [Pl.val, Sh.val]
  have sle := hs.le
  have scap0 := hs.cap
  have scap := scap0
  unfold maxLen at scap
  have hn0 : s.n ≤ maxLen := Nat.le_trans sle scap0
  have les := hp.les
  have caps0 := hp.caps
  have hn1 : p.ns ≤ maxLen := Nat.le_trans les caps0
  have caps := caps0
  unfold maxLen at caps
  go_enter Try.func57, Try.ntmps57
  go_wp2_with fail
  refine (shelfCheck_any p s _ (hp.below hB0) (hs.below hB0)).mono ?_
  rintro e w1 ⟨rfl, hB⟩
  have hBw := hB0.trans (hB.mono (by simp))
  have hsz : w.heap.size < w1.heap.size := by have := hB.size; simp at this; omega
  have c1 : w1.cell? ⟨w.heap.size, 1, none⟩ = some (.slice p.sa p.ns p.cs) := (hB.cell (p := ⟨w.heap.size, 1, none⟩) (by simp)).trans (by simp)
  by_cases h0 : shelfE p s = 0
  · have hE := shelfErr_eq (bin := bin) (good := good) h0
    cases h1 : inB bin 0 ((s.n : Int) - 1)
    · have hPE : Hid (putE p s bin good n = 3) := by show putE p s bin good n = 3; simp [putE, hE, h1]
      clear hE
      go_wp2_with (first | (go_at_call_of 30 (Value.int .i64 bin); refine calls_to (Has_any _ _ _ hn0) ?_) | (go_at_call_of 30 (Value.int .i64 good); refine calls_to (Has_any _ _ _ hn1) ?_))
      go_ret2
      exact ⟨_, by rw [hPE.out]; rfl, by unfold PutRes; rw [hPE.out]; rfl, hBw⟩
    cases h2 : inB good 0 ((p.ns : Int) - 1)
    · have hPE : Hid (putE p s bin good n = 3) := by show putE p s bin good n = 3; simp [putE, hE, h1, h2]
      clear hE
      go_wp2_with (first | (go_at_call_of 30 (Value.int .i64 bin); refine calls_to (Has_any _ _ _ hn0) ?_) | (go_at_call_of 30 (Value.int .i64 good); refine calls_to (Has_any _ _ _ hn1) ?_))
      go_ret2
      exact ⟨_, by rw [hPE.out]; rfl, by unfold PutRes; rw [hPE.out]; rfl, hBw⟩
    have hE0 : shelfErr p s bin good = 0 := by simp [hE, h1, h2]
    clear hE
    obtain ⟨m, rfl⟩ := Int.eq_ofNat_of_zero_le (inB_true h1).1
    obtain ⟨q, rfl⟩ := Int.eq_ofNat_of_zero_le (inB_true h2).1
    have hm : m < s.n := by have := (inB_true h1).2; omega
    have hq : q < p.ns := by have := (inB_true h2).2; omega
    obtain ⟨pl, hn, hlen, hnum⟩ := (rightS h0).2
    have hz := hnum m hm q hq
    have hl := hlen m hm
    have h6 := pl.nb6
    rw [← hn] at h6
    have hr3 : Hid (∀ i, i < s.n → 1 ≤ (s.r i).n ∧ (s.r i).n ≤ 3) := fun i hi => by rw [hlen i hi]; exact ⟨pl.ns1, pl.ns3⟩
    have hs1 := hs.below hBw
    have m1 : (0 : Int) ≤ (m : Int) := by omega
    have m2 : (0 : Int) ≤ (q : Int) := by omega
    obtain ⟨b, o, ha, hb, z0, hat⟩ := hs1.rows m hm
    obtain ⟨b1, o1, ha1, hb1, y0⟩ := hat.ints q (by omega)
    rw [ha1] at z0
    have hql : q < (s.r m).n := by omega
    have rle := hat.le
    have rcap := hat.cap
    unfold maxLen at rcap
    have hPE : Hid (putE p s m q n = if inB n (-((s.r m).z q)) (200 - (s.r m).z q) then 0 else 3) := by show putE p s m q n = _; simp [putE, hE0]
    clear pl hn hlen hnum ha1 hat hE0 hl
    obtain ⟨s0, sn, sc, sr⟩ := s
    dsimp only at *
    subst ha
    cases h3 : inB n (-((sr m).z q)) (200 - (sr m).z q)
    · go_wp2_with (first | (go_at_call_of 30 (Value.int .i64 (m : Int)); refine calls_to (Has_any _ _ _ hn0) ?_) | (go_at_call_of 30 (Value.int .i64 (q : Int)); refine calls_to (Has_any _ _ _ hn1) ?_) | (go_at_call 55; refine calls_to (Within_any _ _ _ _) ?_))
      go_ret2
      rw [h3] at hPE
      exact ⟨_, by rw [hPE.out]; rfl, by unfold PutRes; rw [hPE.out]; rfl, hBw⟩
    · go_wp2_with (first | (go_at_call_of 30 (Value.int .i64 (m : Int)); refine calls_to (Has_any _ _ _ hn0) ?_) | (go_at_call_of 30 (Value.int .i64 (q : Int)); refine calls_to (Has_any _ _ _ hn1) ?_) | (go_at_call 55; refine calls_to (Within_any _ _ _ _) ?_))
      refine (copyRows_any ⟨some ⟨b, o, none⟩, sn, sc, sr⟩ w1 hs1 h6 hr3.out).mono ?_
      rintro e w2 ⟨g, G, C, rfl, hg, gb, gr, gm, hB2⟩
      dsimp only at gb gr gm ⊢
      obtain ⟨g1, g2, g3, g4⟩ := gr m hm
      have d0 := gb.cell hm
      have d1 := g4.cell hql
      have d2 := g4.frozen q
      have hnn := inB_true h3
      unfold maxLen at g3
      have hB3 := hBw.trans (hB2.mono hBw.size)
      have hge : w.heap.size ≤ G m := by have := hBw.size; omega
      have st := hB3.setCell (p := ⟨G m, q, none⟩) hge (.int .i64 ((sr m).z q + n))
      have HH : Hid _ := And.intro gb (And.intro gr gm)
      rw [h3] at hPE
      clear gb gr gm c1 y0 z0
      go_wp2_with fail
      go_ret2
      refine ⟨_, by rw [hPE.out]; rfl, ?_, st⟩
      obtain ⟨gb, gr, gm⟩ := HH.out
      unfold PutRes
      rw [hPE.out]
      simp only [if_true]
      refine ⟨⟨some ⟨g, 0, none⟩, sn, sn, fun i => ⟨some ⟨G i, 0, none⟩, (sr i).n, C i, fun j => putZ ⟨some ⟨b, o, none⟩, sn, sc, sr⟩ m q n i j⟩⟩, rfl, ⟨Nat.le_refl _, hn0, ?_⟩, rfl, fun i hi => ⟨rfl, fun j hj => rfl⟩⟩
      intro i hi
      have gi := gr i hi
      refine ⟨g, 0, rfl, ?_, ?_, gi.2.1, gi.2.2.1, ?_⟩
      · have := gb.lt; have := st.size; simp [World.setCell]; omega
      · have := gb.other (a := ⟨G m, q, none⟩) (by show g ≠ G m; omega) (.int .i64 ((sr m).z q + n))
        simpa using this.cell hi
      · apply Blk.ints (e := 3)
        by_cases him : i = m
        · subst him
          refine (gi.2.2.2.set q (.int .i64 ((sr i).z q + n))).congr fun j hj => ?_
          by_cases hjq : j = q
          · subst hjq; simp [putZ]
          · simp [putZ, hjq]
        · have hGne : G i ≠ G m := by
            rcases Nat.lt_or_gt_of_ne him with h | h
            · have := gm i m h hm; omega
            · have := gm m i h hi; omega
          refine (gi.2.2.2.other (a := ⟨G m, q, none⟩) hGne (.int .i64 ((sr m).z q + n))).congr fun j hj => ?_
          simp [putZ, him]
  · have hE : shelfErr p s bin good = shelfE p s := by simp [shelfErr, h0]
    have hPE : Hid (putE p s bin good n = shelfE p s) := by show putE p s bin good n = _; simp [putE, hE, h0]
    clear hE
    go_wp2_with fail
    go_ret2
    exact ⟨_, by rw [hPE.out]; rfl, by unfold PutRes; rw [hPE.out, if_neg h0]; rfl, hBw⟩

end Go.Proofs.Ytjiodlbblmbibac
/- yard. -/
namespace Go.Proofs.Ytjiodlbblmbibac
open Go.RowKit Go.Shelf
set_option linter.unusedVariables false

def yardZ : Nat → Bin
  | 0 => ⟨false, 100, 0, 0⟩
  | 1 => ⟨true, 30, 4, 8⟩
  | _ => ⟨false, 60, 0, 0⟩
def yardS : Nat → Int
  | 0 => 2
  | _ => 3
def yardP (g1 g2 : Nat) : Pl := ⟨some ⟨g1, 0, none⟩, 3, 3, yardZ, some ⟨g2, 0, none⟩, 2, 2, yardS⟩
def yardF : Nat → Value := fun j => (#[.bool false, .int .i64 100, .int .i64 0, .int .i64 0, .bool true, .int .i64 30, .int .i64 4, .int .i64 8, .bool false, .int .i64 60, .int .i64 0, .int .i64 0] : Array Value).getD j default
def yardG : Nat → Value := fun j => (#[.int .i64 2, .int .i64 3] : Array Value).getD j default

theorem yardAt {w : World} {g1 g2 : Nat} (h1 : Blk w g1 42 12 yardF) (h2 : Blk w g2 3 2 yardG) : (yardP g1 g2).At w := by
  refine ⟨by simp [yardP], by simp [yardP, maxLen], fun i hi => ?_, by simp [yardP], by simp [yardP, maxLen], fun i hi => ?_⟩
  · have hi' : i < 3 := hi
    refine ⟨g1, 0, rfl, h1.lt, ?_⟩
    match i, hi' with
    | 0, _ => exact ⟨h1.cell (j := 0) (by decide), h1.cell (j := 1) (by decide), h1.cell (j := 2) (by decide), h1.cell (j := 3) (by decide)⟩
    | 1, _ => exact ⟨h1.cell (j := 4) (by decide), h1.cell (j := 5) (by decide), h1.cell (j := 6) (by decide), h1.cell (j := 7) (by decide)⟩
    | 2, _ => exact ⟨h1.cell (j := 8) (by decide), h1.cell (j := 9) (by decide), h1.cell (j := 10) (by decide), h1.cell (j := 11) (by decide)⟩
  · have hi' : i < 2 := hi
    refine ⟨g2, 0, rfl, h2.lt, ?_⟩
    match i, hi' with
    | 0, _ => exact h2.cell (j := 0) (by decide)
    | 1, _ => exact h2.cell (j := 1) (by decide)

set_option maxHeartbeats 1000000 in
theorem yard_any (w : World) :
    Calls Try.prog 28 #[] w fun e w' => ∃ g1 g2, e = .returned (yardP g1 g2).val ∧ w.heap.size ≤ g1 ∧ g1 ≠ g2 ∧ Blk w' g1 42 12 yardF ∧ Blk w' g2 3 2 yardG ∧ Below w.heap.size w w' := by
  go_enter Try.func28, Try.ntmps28
  go_wp2
  refine bodyPost_ret (v := (yardP (w.heap.size + 1) (w.heap.size + 1 + 1)).val) (by simp [results, Try.results28, go_sem, yardP, Pl.val]) rfl ?_
  refine ⟨w.heap.size + 1, w.heap.size + 1 + 1, rfl, by omega, by omega, Blk.alloc (Blk.mk' (by simp) rfl) _, Blk.mk' (by simp) rfl, ?_⟩
  exact (((Below.refl _ _).alloc (Nat.le_refl _) _).alloc (by simp) _).alloc (by simp; omega) _

end Go.Proofs.Ytjiodlbblmbibac
/- shelfBegun. -/
namespace Go.Proofs.Ytjiodlbblmbibac
open Go.RowKit Go.Shelf
set_option linter.unusedVariables false

def onZ : Nat → Nat → Int
  | 0, 0 => 5
  | 1, 0 => 1
  | 1, 1 => 2
  | _, _ => 0
def onS (g : Nat) (n : Nat) : Sh := ⟨some ⟨g + 3, 0, none⟩, n, 3, fun i => ⟨some ⟨g + i, 0, none⟩, 2, 2, onZ i⟩⟩

theorem onAt {w : World} {g n : Nat} (hn : n ≤ 3) (h0 : Blk w g 3 2 (fun j => (#[.int .i64 5, .int .i64 0] : Array Value).getD j default)) (h1 : Blk w (g + 1) 3 2 (fun j => (#[.int .i64 1, .int .i64 2] : Array Value).getD j default))
    (h2 : Blk w (g + 2) 3 2 (fun j => (#[.int .i64 0, .int .i64 0] : Array Value).getD j default))
    (h3 : Blk w (g + 3) 23 3 (fun j => (#[.slice (some ⟨g, 0, none⟩) 2 2, .slice (some ⟨g + 1, 0, none⟩) 2 2, .slice (some ⟨g + 2, 0, none⟩) 2 2] : Array Value).getD j default)) : (onS g n).At w := by
  refine ⟨hn, by simp [onS, maxLen], fun i hi => ?_⟩
  have hi' : i < 3 := Nat.lt_of_lt_of_le hi hn
  refine ⟨g + 3, 0, rfl, h3.lt, ?_, by simp [onS], by simp [onS, maxLen], fun j hj => ?_⟩
  · match i, hi' with
    | 0, _ => exact h3.cell (j := 0) (by decide)
    | 1, _ => exact h3.cell (j := 1) (by decide)
    | 2, _ => exact h3.cell (j := 2) (by decide)
  · have hj' : j < 2 := hj
    match i, hi' with
    | 0, _ =>
      refine ⟨g, 0, rfl, h0.lt, ?_⟩
      match j, hj' with
      | 0, _ => exact h0.cell (j := 0) (by decide)
      | 1, _ => exact h0.cell (j := 1) (by decide)
    | 1, _ =>
      refine ⟨g + 1, 0, rfl, h1.lt, ?_⟩
      match j, hj' with
      | 0, _ => exact h1.cell (j := 0) (by decide)
      | 1, _ => exact h1.cell (j := 1) (by decide)
    | 2, _ =>
      refine ⟨g + 2, 0, rfl, h2.lt, ?_⟩
      match j, hj' with
      | 0, _ => exact h2.cell (j := 0) (by decide)
      | 1, _ => exact h2.cell (j := 1) (by decide)

theorem begun_used (g1 g2 g : Nat) : usedV (yardP g1 g2) (onS g 3) 1 = 8 ∧ usedE (yardP g1 g2) (onS g 3) 1 = 0 := ⟨by rfl, by rfl⟩
theorem begun_sumW (g1 g2 g : Nat) : sumV (yardP g1 g2) (onS g 3) 0 = 6 ∧ sumE (yardP g1 g2) (onS g 3) 0 = 0 := ⟨by rfl, by rfl⟩
theorem begun_put (g1 g2 g : Nat) : putE (yardP g1 g2) (onS g 3) 0 0 (-5) = 0 ∧ putE (yardP g1 g2) (onS g 3) 0 0 (-6) = 3 := ⟨by rfl, by rfl⟩
theorem begun_check (g1 g2 g : Nat) : shelfE (yardP g1 g2) (onS g 3) = 0 ∧ shelfE (yardP g1 g2) (onS g 2) = 1 := ⟨by rfl, by rfl⟩

theorem begunUsed {w : World} {g1 g2 g : Nat} (hp : (yardP g1 g2).At w) (hs : (onS g 3).At w) :
    Calls Try.prog 32 #[(yardP g1 g2).val, (onS g 3).val, .int .i64 1] w fun e w' => e = .returned (.tuple #[.int .i64 8, .int .i64 0]) ∧ Below w.heap.size w w' := by
  have := Used_any _ _ 1 w hp hs
  rwa [(begun_used g1 g2 g).1, (begun_used g1 g2 g).2] at this
theorem begunSum {w : World} {g1 g2 g : Nat} (hp : (yardP g1 g2).At w) (hs : (onS g 3).At w) :
    Calls Try.prog 82 #[(yardP g1 g2).val, (onS g 3).val, .int .i64 0] w fun e w' => e = .returned (.tuple #[.int .i64 6, .int .i64 0]) ∧ Below w.heap.size w w' := by
  have := Sum_any _ _ 0 w hp hs
  rwa [(begun_sumW g1 g2 g).1, (begun_sumW g1 g2 g).2] at this
theorem begunPut {w : World} {g1 g2 g : Nat} (hp : (yardP g1 g2).At w) (hs : (onS g 3).At w) :
    Calls Try.prog 57 #[(yardP g1 g2).val, (onS g 3).val, .int .i64 0, .int .i64 0, .int .i64 (-5)] w fun e w' => ∃ a c b o b0 o0 c0 b1 o1 c1, e = .returned (.tuple #[.slice a 3 c, .int .i64 0]) ∧ a = some ⟨b, o, none⟩ ∧ 3 ≤ c ∧ c ≤ maxLen ∧ b < w'.heap.size ∧ b0 < w'.heap.size ∧ b1 < w'.heap.size ∧
      w'.cell? ⟨b, o, none⟩ = some (.slice (some ⟨b0, o0, none⟩) 2 c0) ∧ w'.cell? ⟨b0, o0, none⟩ = some (.int .i64 0) ∧
      w'.cell? ⟨b, o + 1, none⟩ = some (.slice (some ⟨b1, o1, none⟩) 2 c1) ∧ w'.cell? ⟨b1, o1 + 1, none⟩ = some (.int .i64 2) ∧ Below w.heap.size w w' := by
  refine (Put_any _ _ 0 0 (-5) w hp hs).mono ?_
  rintro e w' ⟨v, rfl, hr, hB⟩
  unfold PutRes at hr
  rw [if_pos (begun_put g1 g2 g).1] at hr
  obtain ⟨s', rfl, hat, hn, hrow⟩ := hr
  obtain ⟨a, n, c, r⟩ := s'
  dsimp only at hn hrow
  subst hn
  obtain ⟨b, o, rfl, hb, z0, h0⟩ := hat.rows 0 (show 0 < 3 by decide)
  obtain ⟨b', o', he, hb', z1, h1⟩ := hat.rows 1 (show 1 < 3 by decide)
  dsimp only at he z0 z1 h0 h1
  simp only [Option.some.injEq, Addr.mk.injEq, and_true] at he
  obtain ⟨rfl, rfl⟩ := he
  have n0 : (r 0).n = 2 := (hrow 0 (show 0 < 3 by decide)).1
  have n1 : (r 1).n = 2 := (hrow 1 (show 1 < 3 by decide)).1
  obtain ⟨b0, o0, a0, hb0, y0⟩ := h0.ints 0 (by rw [n0]; decide)
  obtain ⟨b1, o1, a1, hb1, y1⟩ := h1.ints 1 (by rw [n1]; decide)
  have v0 : (r 0).z 0 = 0 := (hrow 0 (show 0 < 3 by decide)).2 0 (show 0 < 2 by decide)
  have v1 : (r 1).z 1 = 2 := (hrow 1 (show 1 < 3 by decide)).2 1 (show 1 < 2 by decide)
  rw [n0, a0] at z0
  rw [n1, a1] at z1
  rw [v0] at y0
  rw [v1] at y1
  refine ⟨some ⟨b, o, none⟩, c, b, o, b0, o0, _, b1, o1, _, ?_, rfl, hat.le, hat.cap, hb, hb0, hb1, z0, y0, z1, y1, hB⟩
  rw [(begun_put g1 g2 g).1]
  rfl
theorem begunPut2 {w : World} {g1 g2 g : Nat} (hp : (yardP g1 g2).At w) (hs : (onS g 3).At w) :
    Calls Try.prog 57 #[(yardP g1 g2).val, (onS g 3).val, .int .i64 0, .int .i64 0, .int .i64 (-6)] w fun e w' => e = .returned (.tuple #[.slice none 0 0, .int .i64 3]) ∧ Below w.heap.size w w' := by
  refine (Put_any _ _ 0 0 (-6) w hp hs).mono ?_
  rintro e w' ⟨v, rfl, hr, hB⟩
  unfold PutRes at hr
  rw [if_neg (by rw [(begun_put g1 g2 g).2]; decide)] at hr
  rw [hr, (begun_put g1 g2 g).2]
  exact ⟨rfl, hB⟩
theorem begunCheck {w : World} {g1 g2 g n : Nat} (hp : (yardP g1 g2).At w) (hs : (onS g n).At w) (hn : n = 3 ∨ n = 2) :
    Calls Try.prog 33 #[(yardP g1 g2).val, (onS g n).val] w fun e w' => e = .returned (.int .i64 (if n = 3 then 0 else 1)) ∧ Below w.heap.size w w' := by
  have := shelfCheck_any _ _ w hp hs
  rcases hn with rfl | rfl
  · rwa [(begun_check g1 g2 g).1] at this
  · rwa [(begun_check g1 g2 g).2] at this

end Go.Proofs.Ytjiodlbblmbibac

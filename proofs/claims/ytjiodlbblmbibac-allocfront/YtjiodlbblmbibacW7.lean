/- Put. -/
import Derived.Test.YtjiodlbblmbibacW6
namespace Go.Proofs.Ytjiodlbblmbibac
open Go.RowKit Go.Shelf
set_option linter.unusedVariables false

set_option maxHeartbeats 1000000 in
theorem Put_any (p : Pl) (s : Sh) (bin good n : Int) (w : World) (hp : p.At w) (hs : s.At w) :
    Calls Try.prog 57 #[p.val, s.val, .int .i64 bin, .int .i64 good, .int .i64 n] w fun e w' => ∃ v, e = .returned (.tuple #[v, .int .i64 (putE p s bin good n)]) ∧ PutRes p s bin good n w' v ∧ Below w.heap.size w w' := by
  have hB0 : Below w.heap.size w (w.alloc (.cells #[.slice p.ab p.nb p.cb, .slice p.sa p.ns p.cs] 25)) := (Below.refl w.heap.size w).alloc (Nat.le_refl _) _
  simp only [Pl.val, Sh.val]
  have sle := hs.le
  have scap0 := hs.cap
  have scap := scap0
  unfold maxLen at scap
  have hn0 : s.n ≤ maxLen := Nat.le_trans sle scap0
  have les := hp.les
  have caps0 := hp.caps
  have hn1 : p.ns ≤ maxLen := Nat.le_trans les caps0
  have caps := caps0
  unfold maxLen at caps
  go_enter Try.func57, Try.ntmps57
  go_wp2_with fail
  refine (shelfCheck_any p s _ (hp.below hB0) (hs.below hB0)).mono ?_
  rintro e w1 ⟨rfl, hB⟩
  have hBw := hB0.trans (hB.mono (by simp))
  have hsz : w.heap.size < w1.heap.size := by have := hB.size; simp at this; omega
  have c1 : w1.cell? ⟨w.heap.size, 1, none⟩ = some (.slice p.sa p.ns p.cs) := (hB.cell (p := ⟨w.heap.size, 1, none⟩) (by simp)).trans (by simp)
  by_cases h0 : shelfE p s = 0
  · have hE := shelfErr_eq (bin := bin) (good := good) h0
    cases h1 : inB bin 0 ((s.n : Int) - 1)
    · have hPE : Hid (putE p s bin good n = 3) := by show putE p s bin good n = 3; simp [putE, hE, h1]
      clear hE
      go_wp2_with (first | (go_at_call_of 30 (Value.int .i64 bin); refine calls_to (Has_any _ _ _ hn0) ?_) | (go_at_call_of 30 (Value.int .i64 good); refine calls_to (Has_any _ _ _ hn1) ?_))
      go_ret2
      exact ⟨_, by rw [hPE.out]; rfl, by unfold PutRes; rw [hPE.out]; rfl, hBw⟩
    cases h2 : inB good 0 ((p.ns : Int) - 1)
    · have hPE : Hid (putE p s bin good n = 3) := by show putE p s bin good n = 3; simp [putE, hE, h1, h2]
      clear hE
      go_wp2_with (first | (go_at_call_of 30 (Value.int .i64 bin); refine calls_to (Has_any _ _ _ hn0) ?_) | (go_at_call_of 30 (Value.int .i64 good); refine calls_to (Has_any _ _ _ hn1) ?_))
      go_ret2
      exact ⟨_, by rw [hPE.out]; rfl, by unfold PutRes; rw [hPE.out]; rfl, hBw⟩
    have hE0 : shelfErr p s bin good = 0 := by simp [hE, h1, h2]
    clear hE
    obtain ⟨m, rfl⟩ := Int.eq_ofNat_of_zero_le (inB_true h1).1
    obtain ⟨q, rfl⟩ := Int.eq_ofNat_of_zero_le (inB_true h2).1
    have hm : m < s.n := by have := (inB_true h1).2; omega
    have hq : q < p.ns := by have := (inB_true h2).2; omega
    obtain ⟨pl, hn, hlen, hnum⟩ := (rightS h0).2
    have hz := hnum m hm q hq
    have hl := hlen m hm
    have h6 := pl.nb6
    rw [← hn] at h6
    have hr3 : Hid (∀ i, i < s.n → 1 ≤ (s.r i).n ∧ (s.r i).n ≤ 3) := fun i hi => by rw [hlen i hi]; exact ⟨pl.ns1, pl.ns3⟩
    have hs1 := hs.below hBw
    have m1 : (0 : Int) ≤ (m : Int) := by omega
    have m2 : (0 : Int) ≤ (q : Int) := by omega
    obtain ⟨b, o, ha, hb, z0, hat⟩ := hs1.rows m hm
    obtain ⟨b1, o1, ha1, hb1, y0⟩ := hat.ints q (by omega)
    rw [ha1] at z0
    have hql : q < (s.r m).n := by omega
    have rle := hat.le
    have rcap := hat.cap
    unfold maxLen at rcap
    have hPE : Hid (putE p s m q n = if inB n (-((s.r m).z q)) (200 - (s.r m).z q) then 0 else 3) := by show putE p s m q n = _; simp [putE, hE0]
    clear pl hn hlen hnum ha1 hat hE0 hl
    obtain ⟨s0, sn, sc, sr⟩ := s
    dsimp only at *
    subst ha
    cases h3 : inB n (-((sr m).z q)) (200 - (sr m).z q)
    · go_wp2_with (first | (go_at_call_of 30 (Value.int .i64 (m : Int)); refine calls_to (Has_any _ _ _ hn0) ?_) | (go_at_call_of 30 (Value.int .i64 (q : Int)); refine calls_to (Has_any _ _ _ hn1) ?_) | (go_at_call 55; refine calls_to (Within_any _ _ _ _) ?_))
      go_ret2
      rw [h3] at hPE
      exact ⟨_, by rw [hPE.out]; rfl, by unfold PutRes; rw [hPE.out]; rfl, hBw⟩
    · go_wp2_with (first | (go_at_call_of 30 (Value.int .i64 (m : Int)); refine calls_to (Has_any _ _ _ hn0) ?_) | (go_at_call_of 30 (Value.int .i64 (q : Int)); refine calls_to (Has_any _ _ _ hn1) ?_) | (go_at_call 55; refine calls_to (Within_any _ _ _ _) ?_))
      refine (copyRows_any ⟨some ⟨b, o, none⟩, sn, sc, sr⟩ w1 hs1 h6 hr3.out).mono ?_
      rintro e w2 ⟨g, G, C, rfl, hg, gb, gr, gm, hB2⟩
      dsimp only at gb gr gm ⊢
      obtain ⟨g1, g2, g3, g4⟩ := gr m hm
      have d0 := gb.cell hm
      have d1 := g4.cell hql
      have d2 := g4.frozen q
      have hnn := inB_true h3
      unfold maxLen at g3
      have hB3 := hBw.trans (hB2.mono hBw.size)
      have hge : w.heap.size ≤ G m := by have := hBw.size; omega
      have st := hB3.setCell (p := ⟨G m, q, none⟩) hge (.int .i64 ((sr m).z q + n))
      have HH : Hid _ := And.intro gb (And.intro gr gm)
      rw [h3] at hPE
      clear gb gr gm c1 y0 z0
      go_wp2_with fail
      go_ret2
      refine ⟨_, by rw [hPE.out]; rfl, ?_, st⟩
      obtain ⟨gb, gr, gm⟩ := HH.out
      unfold PutRes
      rw [hPE.out]
      simp only [if_true]
      refine ⟨⟨some ⟨g, 0, none⟩, sn, sn, fun i => ⟨some ⟨G i, 0, none⟩, (sr i).n, C i, fun j => putZ ⟨some ⟨b, o, none⟩, sn, sc, sr⟩ m q n i j⟩⟩, rfl, ⟨Nat.le_refl _, hn0, ?_⟩, rfl, fun i hi => ⟨rfl, fun j hj => rfl⟩⟩
      intro i hi
      have gi := gr i hi
      refine ⟨g, 0, rfl, ?_, ?_, gi.2.1, gi.2.2.1, ?_⟩
      · have := gb.lt; have := st.size; simp [World.setCell]; omega
      · have := gb.other (a := ⟨G m, q, none⟩) (by show g ≠ G m; omega) (.int .i64 ((sr m).z q + n))
        simpa using this.cell hi
      · apply Blk.ints (e := 3)
        by_cases him : i = m
        · subst him
          refine (gi.2.2.2.set q (.int .i64 ((sr i).z q + n))).congr fun j hj => ?_
          by_cases hjq : j = q
          · subst hjq; simp [putZ]
          · simp [putZ, hjq]
        · have hGne : G i ≠ G m := by
            rcases Nat.lt_or_gt_of_ne him with h | h
            · have := gm i m h hm; omega
            · have := gm m i h hi; omega
          refine (gi.2.2.2.other (a := ⟨G m, q, none⟩) hGne (.int .i64 ((sr m).z q + n))).congr fun j hj => ?_
          simp [putZ, him]
  · have hE : shelfErr p s bin good = shelfE p s := by simp [shelfErr, h0]
    have hPE : Hid (putE p s bin good n = shelfE p s) := by show putE p s bin good n = _; simp [putE, hE, h0]
    clear hE
    go_wp2_with fail
    go_ret2
    exact ⟨_, by rw [hPE.out]; rfl, by unfold PutRes; rw [hPE.out, if_neg h0]; rfl, hBw⟩

end Go.Proofs.Ytjiodlbblmbibac

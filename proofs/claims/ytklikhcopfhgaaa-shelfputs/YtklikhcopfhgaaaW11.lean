/- The document's own PutOf. -/
import Derived.Test.YtklikhcopfhgaaaW10
import Derived.BigRegion
namespace Go.Proofs.Ytklikhcopfhgaaa
open Go.RowKit Go.Shelf
set_option linter.unusedVariables false

set_option maxHeartbeats 1000000 in
theorem PutOf_any (p : Pl) (s : Sh) (bin good n : Int) (w : World) (hp : p.At w) (hs : s.At w) :
    Calls Try.prog 24 #[p.val, s.val, .int .i64 bin, .int .i64 good, .int .i64 n] w fun e w' => ∃ v, e = .returned (.tuple #[v, .int .i64 (putE p s bin good n)]) ∧ PutRes p s bin good n w' v ∧ Below w.heap.size w w' := by
  have hB0 : Below w.heap.size w (w.alloc (.cells #[.slice p.ab p.nb p.cb, .slice p.sa p.ns p.cs] 25)) := (Below.refl w.heap.size w).alloc (Nat.le_refl _) _
  simp only [Pl.val, Sh.val]
  have sle := hs.le
  have scap := hs.cap
  unfold maxLen at scap
  go_enter Try.func24, Try.ntmps24
  go_wp2_with fail
  refine (ShelfError_any p s bin good _ (hp.below hB0) (hs.below hB0)).mono ?_
  rintro e w1 ⟨rfl, hB⟩
  have hBw := hB0.trans (hB.mono (by simp))
  by_cases hE0 : shelfErr p s bin good = 0
  · have h0 : shelfE p s = 0 := by
      by_cases h : shelfE p s = 0
      · exact h
      · unfold shelfErr at hE0; simp [h] at hE0
    have hE := shelfErr_eq (bin := bin) (good := good) h0
    rw [hE0] at hE
    have h12 : inB bin 0 ((s.n : Int) - 1) = true ∧ inB good 0 ((p.ns : Int) - 1) = true := by
      cases h1 : inB bin 0 ((s.n : Int) - 1) <;> cases h2 : inB good 0 ((p.ns : Int) - 1) <;> simp [h1, h2] at hE ⊢
    obtain ⟨h1, h2⟩ := h12
    clear hE
    obtain ⟨m, rfl⟩ := Int.eq_ofNat_of_zero_le (inB_true h1).1
    obtain ⟨q, rfl⟩ := Int.eq_ofNat_of_zero_le (inB_true h2).1
    have hm : m < s.n := by have := (inB_true h1).2; omega
    have hq : q < p.ns := by have := (inB_true h2).2; omega
    obtain ⟨pl, hn, hlen, hnum⟩ := (rightS h0).2
    have hz := hnum m hm q hq
    have hl := hlen m hm
    have h6 := pl.nb6
    have h7 := pl.nb1
    rw [← hn] at h6 h7
    have hr3 : Hid (∀ i, i < s.n → 1 ≤ (s.r i).n ∧ (s.r i).n ≤ 3) := fun i hi => by rw [hlen i hi]; exact ⟨pl.ns1, pl.ns3⟩
    have hs1 := hs.below hBw
    have m1 : (0 : Int) ≤ (m : Int) := by omega
    have m2 : (0 : Int) ≤ (q : Int) := by omega
    have m3 : (m : Int) < (s.n : Int) := by omega
    have m4 : (q : Int) < ((s.r m).n : Int) := by omega
    obtain ⟨b, o, ha, hb, z0, hat⟩ := hs1.rows m hm
    obtain ⟨b1, o1, ha1, hb1, y0⟩ := hat.ints q (by omega)
    rw [ha1] at z0
    have hql : q < (s.r m).n := by omega
    have rle := hat.le
    have rcap := hat.cap
    unfold maxLen at rcap
    have hPE : Hid (putE p s m q n = if inB n (-((s.r m).z q)) (200 - (s.r m).z q) then 0 else 3) := by show putE p s m q n = _; simp [putE, hE0]
    clear pl hn hlen hnum ha1 hat hl h0 h1 h2
    obtain ⟨s0, sn, sc, sr⟩ := s
    dsimp only at *
    subst ha
    cases h3 : inB n (-((sr m).z q)) (200 - (sr m).z q)
    · go_wp2_with fail
      go_quiet ((go_at_call 35; exact Calls.quiet_of_same (within_any _ _ _ _)))
      go_wp2_with fail
      go_ret2
      rw [h3] at hPE
      exact ⟨_, by rw [hPE.out]; rfl, by unfold PutRes; rw [hPE.out]; rfl, below_drewN hBw _⟩
    · go_wp2_with fail
      go_quiet ((go_at_call 35; exact Calls.quiet_of_same (within_any _ _ _ _)))
      have hBw := below_drewN hBw nq
      have hs1 : Sh.At (w1.drewN nq) ⟨some ⟨b, o, none⟩, sn, sc, sr⟩ := hs1.below (below_drewN (Below.refl _ _) nq)
      go_wp2_with fail
      refine (ownOn_any ⟨some ⟨b, o, none⟩, sn, sc, sr⟩ _ hs1 h6 h7 hr3.out).mono ?_
      rintro e w2 ⟨g, c, G, C, rfl, hg, hgc, hgm, gb, gr, gm, hB2⟩
      dsimp only at gb gr gm hgc ⊢
      obtain ⟨g1, g2, g3, g4⟩ := gr m hm
      have d0 := gb.cell hm
      have d1 := g4.cell hql
      have d2 := g4.frozen q
      have hnn := inB_true h3
      have hgm0 := hgm
      unfold maxLen at g3 hgm
      have hB3 := hBw.trans (hB2.mono hBw.size)
      have hge : w.heap.size ≤ G m := by have := hBw.size; omega
      have hne : Hid (∀ i, i < sn → G i ≠ g) := fun i hi => (gr i hi).2.2.2.ne gb (by decide)
      have HH : Hid _ := And.intro gb (And.intro gr gm)
      rw [h3] at hPE
      clear gb gr gm y0 z0
      go_wp2_with fail
      go_region
      go_wp2_with fail
      go_ret2
      refine ⟨_, by rw [hPE.out]; rfl, ?_, ((hB3.setCell (p := ⟨G m, q, none⟩) hge (.int .i64 ((sr m).z q + n))).drew)⟩
      obtain ⟨gb, gr, gm⟩ := HH.out
      unfold PutRes
      rw [hPE.out]
      simp only [if_true]
      refine ⟨⟨some ⟨g, 0, none⟩, sn, c, fun i => ⟨some ⟨G i, 0, none⟩, (sr i).n, C i, fun j => putZ ⟨some ⟨b, o, none⟩, sn, sc, sr⟩ m q n i j⟩⟩, rfl, ⟨hgc, hgm0, ?_⟩, rfl, fun i hi => ⟨rfl, fun j hj => rfl⟩⟩
      have hD : Below (w2.setCell ⟨G m, q, none⟩ (.int .i64 ((sr m).z q + n))).heap.size (w2.setCell ⟨G m, q, none⟩ (.int .i64 ((sr m).z q + n))) (w2.setCell ⟨G m, q, none⟩ (.int .i64 ((sr m).z q + n))).drew := (Below.refl _ _).drew
      refine RowsAt.below ?_ hD
      intro i hi
      have gi := gr i hi
      refine ⟨g, 0, rfl, ?_, ?_, gi.2.1, gi.2.2.1, ?_⟩
      · have := gb.lt; simp [World.setCell]; omega
      · have := gb.other (a := ⟨G m, q, none⟩) (fun e => hne.out m hm e.symm) (.int .i64 ((sr m).z q + n))
        simpa using this.cell hi
      · apply Blk.ints (e := 3)
        by_cases him : i = m
        · subst him
          refine (gi.2.2.2.set q (.int .i64 ((sr i).z q + n))).congr fun j hj => ?_
          by_cases hjq : j = q
          · subst hjq; simp [putZ]
          · simp [putZ, hjq]
        · have hGne : G i ≠ G m := by
            rcases Nat.lt_or_gt_of_ne him with h | h
            · have := gm i m h hm; omega
            · have := gm m i h hi; omega
          refine (gi.2.2.2.other (a := ⟨G m, q, none⟩) hGne (.int .i64 ((sr m).z q + n))).congr fun j hj => ?_
          simp [putZ, him]
  · have hPE : Hid (putE p s bin good n = shelfErr p s bin good) := by show putE p s bin good n = _; simp [putE, hE0]
    go_wp2_with fail
    go_ret2
    exact ⟨_, by rw [hPE.out]; rfl, by unfold PutRes; rw [hPE.out, if_neg hE0]; rfl, hBw⟩

end Go.Proofs.Ytklikhcopfhgaaa

/- Texts that were built one behind the other, joined. -/
import Derived.Test.YtjiodlbblmbibacW6J
import Derived.Test.YtjiodlbblmbibacCS
import Derived.Test.YtjiodlbblmbibacRV1J
/- Put, where it puts: its answer is new since the call. -/
namespace Go.Proofs.Ytjiodlbblmbibac
open Go.RowKit Go.Shelf
set_option linter.unusedVariables false

/-- Rows of the call's own, new since A, no two in one block. -/
structure OwnR (A : Nat) (w : World) (s : Sh) : Prop where
  on : ∃ g, s.a = some ⟨g, 0, none⟩ ∧ A ≤ g ∧ s.n ≤ s.c ∧ s.c ≤ maxLen ∧ Blk w g 23 s.n (fun i => .slice (s.r i).a (s.r i).n (s.r i).c)
  rows : ∀ i, i < s.n → OwnI A w (s.r i)
  rapart : ∀ i j, i < j → j < s.n → (s.r i).a ≠ (s.r j).a

set_option maxHeartbeats 1000000 in
theorem PutOwn_any (p : Pl) (s : Sh) (bin good n : Int) (w : World) (hp : p.At w) (hs : s.At w) (hput : putE p s bin good n = 0) :
    Calls Try.prog 57 #[p.val, s.val, .int .i64 bin, .int .i64 good, .int .i64 n] w fun e w' => ∃ s' : Sh, e = .returned (.tuple #[s'.val, .int .i64 0]) ∧ OwnR w.heap.size w' s' ∧ s'.n = s.n ∧ (∀ i, i < s.n → (s'.r i).n = (s.r i).n ∧ ∀ j, j < (s.r i).n → (s'.r i).z j = putZ s bin good n i j) ∧ Below w.heap.size w w' := by
  have hB0 : Below w.heap.size w (w.alloc (.cells #[.slice p.ab p.nb p.cb, .slice p.sa p.ns p.cs] 25)) := (Below.refl w.heap.size w).alloc (Nat.le_refl _) _
  simp only [Pl.val, Sh.val]
  have sle := hs.le
  have scap0 := hs.cap
  have scap := scap0
  unfold maxLen at scap
  have hn0 : s.n ≤ maxLen := Nat.le_trans sle scap0
  have les := hp.les
  have caps0 := hp.caps
  have hn1 : p.ns ≤ maxLen := Nat.le_trans les caps0
  have caps := caps0
  unfold maxLen at caps
  go_enter Try.func57, Try.ntmps57
  go_wp2_with fail
  refine (shelfCheck_any p s _ (hp.below hB0) (hs.below hB0)).mono ?_
  rintro e w1 ⟨rfl, hB⟩
  have hBw := hB0.trans (hB.mono (by simp))
  have hsz : w.heap.size < w1.heap.size := by have := hB.size; simp at this; omega
  have c1 : w1.cell? ⟨w.heap.size, 1, none⟩ = some (.slice p.sa p.ns p.cs) := (hB.cell (p := ⟨w.heap.size, 1, none⟩) (by simp)).trans (by simp)
  have h0 : shelfE p s = 0 := by
    apply Classical.byContradiction
    intro h0
    have hE : shelfErr p s bin good = shelfE p s := by simp [shelfErr, h0]
    simp [putE, hE, h0] at hput
  have hE := shelfErr_eq (bin := bin) (good := good) h0
  have h1 : inB bin 0 ((s.n : Int) - 1) = true := by
    cases h1 : inB bin 0 ((s.n : Int) - 1)
    · simp [putE, hE, h1] at hput
    · rfl
  have h2 : inB good 0 ((p.ns : Int) - 1) = true := by
    cases h2 : inB good 0 ((p.ns : Int) - 1)
    · simp [putE, hE, h1, h2] at hput
    · rfl
  have hE0 : shelfErr p s bin good = 0 := by simp [hE, h1, h2]
  clear hE
  obtain ⟨m, rfl⟩ := Int.eq_ofNat_of_zero_le (inB_true h1).1
  obtain ⟨q, rfl⟩ := Int.eq_ofNat_of_zero_le (inB_true h2).1
  have hm : m < s.n := by have := (inB_true h1).2; omega
  have hq : q < p.ns := by have := (inB_true h2).2; omega
  obtain ⟨pl, hn, hlen, hnum⟩ := (rightS h0).2
  have hz := hnum m hm q hq
  have hl := hlen m hm
  have h6 := pl.nb6
  rw [← hn] at h6
  have hr3 : Hid (∀ i, i < s.n → 1 ≤ (s.r i).n ∧ (s.r i).n ≤ 3) := fun i hi => by rw [hlen i hi]; exact ⟨pl.ns1, pl.ns3⟩
  have hs1 := hs.below hBw
  have m1 : (0 : Int) ≤ (m : Int) := by omega
  have m2 : (0 : Int) ≤ (q : Int) := by omega
  obtain ⟨b, o, ha, hb, z0, hat⟩ := hs1.rows m hm
  obtain ⟨b1, o1, ha1, hb1, y0⟩ := hat.ints q (by omega)
  rw [ha1] at z0
  have hql : q < (s.r m).n := by omega
  have rle := hat.le
  have rcap := hat.cap
  unfold maxLen at rcap
  have h3 : inB n (-((s.r m).z q)) (200 - (s.r m).z q) = true := by
    cases h3 : inB n (-((s.r m).z q)) (200 - (s.r m).z q)
    · simp [putE, hE0, h3] at hput
    · rfl
  clear hput
  clear pl hn hlen hnum ha1 hat hE0 hl
  obtain ⟨s0, sn, sc, sr⟩ := s
  dsimp only at *
  subst ha
  go_wp2_with (first | (go_at_call_of 30 (Value.int .i64 (m : Int)); refine calls_to (Has_any _ _ _ hn0) ?_) | (go_at_call_of 30 (Value.int .i64 (q : Int)); refine calls_to (Has_any _ _ _ hn1) ?_) | (go_at_call 55; refine calls_to (Within_any _ _ _ _) ?_))
  refine (copyRows_any ⟨some ⟨b, o, none⟩, sn, sc, sr⟩ w1 hs1 h6 hr3.out).mono ?_
  rintro e w2 ⟨g, G, C, rfl, hg, gb, gr, gm, hB2⟩
  dsimp only at gb gr gm ⊢
  obtain ⟨g1, g2, g3, g4⟩ := gr m hm
  have d0 := gb.cell hm
  have d1 := g4.cell hql
  have d2 := g4.frozen q
  have hnn := inB_true h3
  unfold maxLen at g3
  have hB3 := hBw.trans (hB2.mono hBw.size)
  have hge : w.heap.size ≤ G m := by have := hBw.size; omega
  have st := hB3.setCell (p := ⟨G m, q, none⟩) hge (.int .i64 ((sr m).z q + n))
  have HH : Hid _ := And.intro gb (And.intro gr gm)
  clear gb gr gm c1 y0 z0
  go_wp2_with fail
  go_ret2
  obtain ⟨gb, gr, gm⟩ := HH.out
  refine ⟨⟨some ⟨g, 0, none⟩, sn, sn, fun i => ⟨some ⟨G i, 0, none⟩, (sr i).n, C i, fun j => putZ ⟨some ⟨b, o, none⟩, sn, sc, sr⟩ m q n i j⟩⟩, rfl, ⟨⟨g, rfl, ?_, Nat.le_refl _, hn0, ?_⟩, ?_, ?_⟩, rfl, fun i hi => ⟨rfl, fun j hj => rfl⟩, st⟩
  · have := hBw.size; omega
  · exact gb.other (a := ⟨G m, q, none⟩) (by show g ≠ G m; omega) (.int .i64 ((sr m).z q + n))
  · intro i hi
    have gi := gr i hi
    refine ⟨G i, rfl, ?_, gi.2.1, gi.2.2.1, ?_⟩
    · have := hBw.size; omega
    · by_cases him : i = m
      · subst him
        refine (gi.2.2.2.set q (.int .i64 ((sr i).z q + n))).congr fun j hj => ?_
        by_cases hjq : j = q
        · subst hjq; simp [putZ]
        · simp [putZ, hjq]
      · have hGne : G i ≠ G m := by
          rcases Nat.lt_or_gt_of_ne him with h | h
          · have := gm i m h hm; omega
          · have := gm m i h hi; omega
        refine (gi.2.2.2.other (a := ⟨G m, q, none⟩) hGne (.int .i64 ((sr m).z q + n))).congr fun j hj => ?_
        simp [putZ, him]
  · intro i j hij hj h
    have := gm i j hij hj
    simp only [Option.some.injEq, Addr.mk.injEq, and_true] at h
    omega

end Go.Proofs.Ytjiodlbblmbibac
/- How many lie in a bin, with those that are to move there: bins.Lying. -/
namespace Go.Proofs.Ytjiodlbblmbibac
open Go.RowKit Go.Shelf Go.Sort
set_option linter.unusedVariables false

set_option maxHeartbeats 4000000 in
theorem Lying_any (p : Pl) (s : St) (bin good : Nat) (w : World) (hs : s.At w) (f : Formed p s) (hbin : bin < p.nb) (hgood : good < p.ns) :
    Calls Try.prog 56 #[s.val, .int .i64 bin, .int .i64 good] w fun e w' => e = .returned (.int .i64 (lyingZ s bin good)) ∧ Below w.heap.size w w' := by
  obtain ⟨W0, hW0, hWB, hX⟩ : ∃ W0, w.alloc (.cells s.cells 31) = W0 ∧ Below w.heap.size w W0 ∧ Blk W0 w.heap.size 31 7 (fun j => s.cells.getD j default) := ⟨_, rfl, (Below.refl w.heap.size w).alloc (Nat.le_refl _) _, Blk.mk' rfl rfl⟩
  have hs0 := hs.below hWB
  have hon : bin < s.on.n := by rw [f.sh.n]; exact hbin
  obtain ⟨bo, oo, hoa, hbo, y0, hrow⟩ := hs0.on.rows bin hon
  have hrn := f.sh.len bin hon
  have hnum := f.sh.num bin hon good hgood
  obtain ⟨br, orr, hra, hbr, y1⟩ := hrow.ints good (by omega)
  have hrle := hrow.le
  have hrcap := hrow.cap
  have hole := hs0.on.le
  have hocap := hs0.on.cap
  unfold maxLen at hrcap hocap
  rw [hra, hrn] at y0
  rw [hrn] at hrle
  have c0 : W0.cell? ⟨w.heap.size, 0, none⟩ = some (.slice s.on.a s.on.n s.on.c) := hX.cell (j := 0) (by decide)
  rw [hoa] at c0
  have l0 := hX.lt
  have HOA : Hid (s.on.a = some ⟨bo, oo, none⟩) := hoa
  have b0 : (0 : Int) ≤ (bin : Int) := by omega
  have g0 : (0 : Int) ≤ (good : Int) := by omega
  have HLY : Hid (∀ k, k = s.ms.n → lyingZ s bin good = (s.on.r bin).z good + comingTo s bin good k) := fun k hk => by subst hk; rfl
  have HC : Hid (∀ wk, Below W0.heap.size W0 wk → s.At wk ∧ wk.cell? ⟨w.heap.size, 3, none⟩ = some (.slice s.ms.a s.ms.n s.ms.c) ∧ w.heap.size < wk.heap.size) :=
    fun wk h => ⟨hs0.below h, (hX.below h).cell (j := 3) (by decide), (hX.below h).lt⟩
  have hmle := hs0.ms.le
  have hmcap := hs0.ms.cap
  unfold maxLen at hmcap
  have m8 := f.ms8
  have MB : Hid (∀ k, k ≤ s.ms.n → 0 ≤ comingTo s bin good k ∧ comingTo s bin good k ≤ 200 * k) := fun k hk => comingTo_bd fun j hj => f.moveN j (by omega)
  have HW : Hid (w.alloc (.cells #[.slice (some ⟨bo, oo, none⟩) s.on.n s.on.c, .slice s.os.a s.os.n s.os.c, .slice s.hs.a s.hs.n s.hs.c, .slice s.ms.a s.ms.n s.ms.c, .slice s.si.a s.si.n s.si.c, .slice s.so.a s.so.n s.so.c, .slice s.sf.a s.sf.n s.sf.c] 31) = W0) := by show _ = W0; rw [← hW0, St.cells, hoa]
  have y0e := y0
  have y1e := y1
  have hboe := hbo
  have hbre := hbr
  rw [← HW.out] at y0e y1e hboe hbre
  simp only [St.val, hoa]
  clear hX hW0 hrow hs hs0
  clear hoa hra c0 l0 y0 y1 hbo hbr hrn
  generalize (s.on.r bin).z good = ON at *
  go_enter Try.func56, Try.ntmps56
  go_wp2_with fail
  rw [HW.out]
  clear y0e y1e hboe hbre
  go_loopw [7, 21] (fun u i wk => ∃ k : Nat, k ≤ s.ms.n ∧ i = .int .i64 k ∧ u = .int .i64 (ON + comingTo s bin good k) ∧ Below W0.heap.size W0 wk) (fun _ i _ => s.ms.n - (intOf i).toNat)
  case atStart => exact ⟨0, Nat.zero_le _, rfl, by simp [comingTo], Below.refl _ _⟩
  case round =>
    obtain ⟨k, hk, rfl, rfl, hB⟩ := hrel
    have m2 := MB.out k hk
    obtain ⟨hsk, c3, hlt0⟩ := HC.out wr hB
    by_cases hlt2 : k < s.ms.n
    · obtain ⟨b, q, hma, hb, z0, z1, z2, z3⟩ := hsk.ms.hds k hlt2
      have m3 := f.moveN k hlt2
      have H1 : Hid (((s.ms.z k).b = bin ∧ (s.ms.z k).o = good → comingTo s bin good (k + 1) = comingTo s bin good k + (s.ms.z k).n) ∧ (¬ ((s.ms.z k).b = bin ∧ (s.ms.z k).o = good) → comingTo s bin good (k + 1) = comingTo s bin good k)) := ⟨fun h => comingTo_hit h.1 h.2, comingTo_miss⟩
      have q4 : (0 : Int) ≤ (k : Int) := by omega
      rw [hma]
      obtain ⟨W1, hW1, hB1⟩ : ∃ W1, wr.alloc (.cells #[.int .i64 (s.ms.z k).o, .int .i64 (s.ms.z k).l, .int .i64 (s.ms.z k).b, .int .i64 (s.ms.z k).n] 70) = W1 ∧ Below W0.heap.size W0 W1 := ⟨_, rfl, hB.alloc hB.size _⟩
      have HV : Hid (wr.alloc (.cells #[.int .i64 (s.ms.z k).o, .int .i64 (s.ms.z k).l, .int .i64 (s.ms.z k).b, .int .i64 (s.ms.z k).n] 70) = W1) := hW1
      clear hma hsk hW1 c3 hlt0
      generalize comingTo s bin good k = U at *
      generalize (s.ms.z k).b = BB at *
      generalize (s.ms.z k).n = NN at *
      generalize (s.ms.z k).l = LL at *
      generalize (s.ms.z k).o = GD at *
      cases h1 : (BB == (bin : Int))
      · have hm := H1.out.2 (by simp at h1; omega)
        have HM : Hid (comingTo s bin good (k + 1) = U) := hm
        clear hm H1
        go_wp2_with fail
        rw [HV.out]
        go_roundw
        case rel => exact ⟨k + 1, by omega, by go_num, by rw [HM.out], hB1⟩
        case measure => simp [intOf]; omega
      · cases h2 : (GD == (good : Int))
        · have hm := H1.out.2 (by simp at h2; omega)
          have HM : Hid (comingTo s bin good (k + 1) = U) := hm
          clear hm H1
          go_wp2_with fail
          rw [HV.out]
          go_roundw
          case rel => exact ⟨k + 1, by omega, by go_num, by rw [HM.out], hB1⟩
          case measure => simp [intOf]; omega
        · have hm := H1.out.1 ⟨by simpa using h1, by simpa using h2⟩
          have HM : Hid (comingTo s bin good (k + 1) = U + NN) := hm
          clear hm H1
          go_wp2_with fail
          rw [HV.out]
          go_roundw
          case rel => exact ⟨k + 1, by omega, by go_num, by rw [HM.out]; congr 1; omega, hB1⟩
          case measure => simp [intOf]; omega
    · have hkn : k = s.ms.n := by omega
      subst hkn
      go_wp2_with fail
      go_ret
      exact ⟨by rw [HLY.out _ rfl]; rfl, hWB.trans (hB.mono hWB.size)⟩

end Go.Proofs.Ytjiodlbblmbibac

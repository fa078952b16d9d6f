/- Holds: Add. -/
import Derived.Test.YtjiodlbblmbibacHW8
import Derived.Test.YtjiodlbblmbibacH4
import Derived.BigRegion
namespace Go.Proofs.Ytjiodlbblmbibac
open Go.RowKit Go.Shelf Go.Sort
set_option linter.unusedVariables false

set_option maxRecDepth 100000 in
set_option maxHeartbeats 4000000 in
theorem AddOwn_any (s : Hs) (h : Hd) (w : World) (hs : s.At w) :
    Calls Try.prog 46 #[s.val, h.val] w fun e w' => ∃ s' : Hs, e = .returned (.tuple #[s'.val, .int .i64 (addE s.n s.z h)]) ∧ OwnH w.heap.size 65 w' s' ∧ AddOK s.n s.z h s' ∧ Below w.heap.size w w' := by
  have HS := hs
  obtain ⟨a, n, c, z⟩ := s
  obtain ⟨hn, hc, hz, hnil⟩ := hs
  dsimp only at hn hc hz hnil ⊢
  have hc0 := hc
  unfold maxLen at hc
  simp only [Hs.val, Hd.val]
  have NA : Hid (∀ w', OwnH w.heap.size 65 w' ⟨none, 0, 0, z⟩) := fun w' => OwnH.nil _ _ _ _
  have hB0 : Below w.heap.size w (w.alloc (.cells #[.int .i64 h.o, .int .i64 h.l, .int .i64 h.b, .int .i64 h.n] 65)) := (Below.refl _ _).alloc (Nat.le_refl _) _
  have hBv : Below (w.heap.size + 1) (w.alloc (.cells #[.int .i64 h.o, .int .i64 h.l, .int .i64 h.b, .int .i64 h.n] 65)) (w.alloc (.cells #[.int .i64 h.o, .int .i64 h.l, .int .i64 h.b, .int .i64 h.n] 65)) := Below.refl _ _
  have hT : Hid (∀ w1, Below (w.heap.size + 1) (w.alloc (.cells #[.int .i64 h.o, .int .i64 h.l, .int .i64 h.b, .int .i64 h.n] 65)) w1 → (w1.cell? ⟨w.heap.size, 0, none⟩ = some (.int .i64 h.o) ∧ w1.cell? ⟨w.heap.size, 1, none⟩ = some (.int .i64 h.l) ∧ w1.cell? ⟨w.heap.size, 2, none⟩ = some (.int .i64 h.b) ∧ w1.cell? ⟨w.heap.size, 3, none⟩ = some (.int .i64 h.n)) ∧ w1.frozen? ⟨w.heap.size, 3, none⟩ = false ∧ w.heap.size < w1.heap.size) := fun w1 hb =>
    ⟨⟨(hb.cell (p := ⟨w.heap.size, 0, none⟩) (by simp)).trans (by simp), (hb.cell (p := ⟨w.heap.size, 1, none⟩) (by simp)).trans (by simp), (hb.cell (p := ⟨w.heap.size, 2, none⟩) (by simp)).trans (by simp), (hb.cell (p := ⟨w.heap.size, 3, none⟩) (by simp)).trans (by simp)⟩, (hb.frozen (p := ⟨w.heap.size, 3, none⟩) (by simp)).trans (by simp), by have := hb.size; simp at this; omega⟩
  go_enter Try.func46, Try.ntmps46
  go_wp2_with fail
  refine (holdsCheck_any ⟨a, n, c, z⟩ _ (HS.below hB0)).mono ?_
  rintro e w1 ⟨rfl, hB⟩
  dsimp only
  have hBw := hB0.trans (hB.mono (by simp))
  have hBv := hBv.trans (hB.mono (by simp))
  obtain ⟨⟨t0, t1, t2, t3⟩, tf, hsz⟩ := hT.out w1 hBv
  clear hB hz
  by_cases h0 : checkH n z = 0
  · have hr := checkH_zero h0
    have hlen := right_len hr
    go_wp2_with fail
    refine (rightAlone_any h w1).mono ?_
    rintro e w2 ⟨rfl, hB⟩
    have hBw := hBw.trans (hB.mono hBw.size)
    have hBv := hBv.trans (hB.mono (by omega))
    clear t0 t1 t2 t3 tf hsz hB
    obtain ⟨⟨t0, t1, t2, t3⟩, tf, hsz⟩ := hT.out w2 hBv
    cases hfine : fineH h
    · have hE : Hid (addE n z h = 1) := by show addE n z h = 1; simp [addE, h0, hfine]
      go_wp2_with fail
      go_ret2
      exact ⟨⟨none, 0, 0, z⟩, by rw [hE.out]; rfl, NA.out _, ⟨by rw [hE.out]; rfl, fun j hj => absurd hj (Nat.not_lt_zero _)⟩, hBw⟩
    · have hfh := (fineH_true hfine).2.2.2
      go_wp2_with fail
      refine (Search_any ⟨a, n, c, z⟩ h w2 (HS.below hBw) hr).mono ?_
      rintro e w3 ⟨i, rfl, hp, hB⟩
      dsimp only at hp ⊢
      have hBw := hBw.trans (hB.mono hBw.size)
      have hBv := hBv.trans (hB.mono (by omega))
      clear t0 t1 t2 t3 tf hsz hB
      obtain ⟨⟨t0, t1, t2, t3⟩, tf, hsz⟩ := hT.out w3 hBv
      obtain ⟨fy, fn⟩ := found (o := h.o) (l := h.l) (b := h.b) hr ⟨rfl, rfl, rfl⟩ hp
      have hpos : Hid (addPos n z h = i) := addPos_eq hp
      have hpl := hp.le
      have HZ := HS.below hBw
      clear hp
      have m1 : (0 : Int) ≤ (i : Int) := by omega
      have m2 : (i : Int) ≤ (n : Int) := by omega
      have m4 : (n : Int) ≤ (c : Int) := by omega
      cases hf : (decide (i < n) && decide (cmpH (z i) h = 0))
      · obtain ⟨k0, _⟩ := fn hf
        have hE : Hid (addE n z h = 0 ∧ addLen n z h = n + 1 ∧ addZ n z h = insZ z i h) := by
          show _ ∧ _ ∧ _
          refine ⟨?_, by simp [addLen, k0], by simp [addZ, k0, hpos.out]⟩
          unfold addE
          rw [if_pos h0, if_pos hfine, k0, if_neg (by omega)]
        have e0 : ∀ d os, (grow (redrawn w3 d) os).cell? ⟨w.heap.size, 0, none⟩ = some (.int .i64 h.o) := fun d os => cell_regrown t0 d os
        have e1 : ∀ d os, (grow (redrawn w3 d) os).cell? ⟨w.heap.size, 1, none⟩ = some (.int .i64 h.l) := fun d os => cell_regrown t1 d os
        have e2 : ∀ d os, (grow (redrawn w3 d) os).cell? ⟨w.heap.size, 2, none⟩ = some (.int .i64 h.b) := fun d os => cell_regrown t2 d os
        have e3 : ∀ d os, (grow (redrawn w3 d) os).cell? ⟨w.heap.size, 3, none⟩ = some (.int .i64 h.n) := fun d os => cell_regrown t3 d os
        clear fy fn k0 t0 t1 t2 t3 tf
        cases a with
        | none =>
          have hcz : c = 0 := hnil rfl
          have hnz : n = 0 := by omega
          have hiz : i = 0 := by omega
          subst hcz hnz hiz
          go_wp2_with fail
          refine wp_region_ordS (fun w' => ∃ p : Regrown, w' = grow (redrawn w3 p.d) p.os)
            ([0, 1, 2, 3, 5, 6, 7].map (fun k => (true, k)) ++ [(false, 4), (false, 8), (false, 9), (true, 10), (false, 11)]) (by kernel_rfl) (by kernel_rfl) (by kernel_rfl) (by kernel_rfl) (regrown_of_below ((Below.refl _ _).drew)) ?_
          refine wpOrdS_first 0 rfl rfl ?_
          go_big_quiet_step (fail)
          refine wpQuiet_nil ?_
          refine wpOrdS_first 1 rfl rfl ?_
          go_big_quiet_step (fail)
          refine wpQuiet_nil ?_
          refine wpOrdS_first 2 rfl rfl ?_
          go_big_quiet_step (fail)
          refine wpQuiet_nil ?_
          refine wpOrdS_first 3 rfl rfl ?_
          go_big_quiet_step (fail)
          refine wpQuiet_nil ?_
          refine wpOrdS_first 5 rfl rfl ?_
          go_big_quiet_step (fail)
          refine wpQuiet_nil ?_
          refine wpOrdS_first 6 rfl rfl ?_
          go_big_quiet_step (fail)
          refine wpQuiet_nil ?_
          refine wpOrdS_first 7 rfl rfl ?_
          go_big_quiet_step (fail)
          refine wpQuiet_nil ?_
          refine wpOrdS_one 4 (by decide) ?_
          simp only [List.drop_succ_cons, List.drop_zero, List.take_succ_cons, List.take_zero]
          go_wp2_with fail
          have A0 : Hid (Hs.At w3 ⟨none, 0, 0, z⟩) := (NA.out w3).at
          have A1 : Hid (Hs.At w3 ⟨none, 0 - 0, 0, fun j => z (0 + j)⟩) := ⟨Nat.le_refl _, Nat.zero_le _, fun i hi => absurd hi (Nat.not_lt_zero _), fun _ => rfl⟩
          have hD1 : Below w3.heap.size w3 (w3.alloc (.cells #[.int .i64 h.o, .int .i64 h.l, .int .i64 h.b, .int .i64 h.n] 65)).drew := ((Below.refl _ _).alloc (Nat.le_refl _) _).drew
          have hD : Below w3.heap.size w3 ((w3.alloc (.cells #[.int .i64 h.o, .int .i64 h.l, .int .i64 h.b, .int .i64 h.n] 65)).alloc (.cells #[.slice (none) (0) (0), .slice (some ⟨w3.heap.size, 0, none⟩) 1 1, .slice (none) (0) (0)] 28)).drew := (((Below.refl _ _).alloc (Nat.le_refl _) _).alloc (by simp) _).drew
          refine ⟨regrown_of_below hD1, ?_⟩
          refine wpOrdS_one 8 (by decide) ?_
          simp only [List.drop_succ_cons, List.drop_zero, List.take_succ_cons, List.take_zero]
          go_wp2_with fail
          refine ⟨regrown_of_below hD, ?_⟩
          refine wpOrdS_one 9 (by decide) ?_
          simp only [List.drop_succ_cons, List.drop_zero, List.take_succ_cons, List.take_zero]
          go_wp2_with fail
          refine (Concat_any 3 (w3.heap.size + 1) 3 (fun k => if k = 0 then (⟨none, 0, 0, z⟩ : Hs) else if k = 1 then ⟨some ⟨w3.heap.size, 0, none⟩, 1, 1, fun _ => h⟩ else ⟨none, 0 - 0, 0, fun j => z (0 + j)⟩) _ (by omega) (Nat.le_refl _) (by unfold maxLen; omega) ?_ ?_ ?_).mono ?_
          · refine Blk.below (Blk.congr (Blk.mk' (by simp) rfl) (fun j hj => ?_)) ((Below.refl _ _).drew)
            have hj2 : j = 0 ∨ j = 1 ∨ j = 2 := by have : j < 3 := hj; omega
            rcases hj2 with rfl | rfl | rfl
            · rfl
            · rfl
            · simp
          · intro k hk
            have hk2 : k = 0 ∨ k = 1 ∨ k = 2 := by omega
            rcases hk2 with rfl | rfl | rfl
            · exact A0.out.below hD
            · exact Hs.one (Blk.below (Blk.alloc (Blk.mk' rfl rfl) _) ((Below.refl _ _).drew))
            · exact A1.out.below hD
          · intro k hk
            have hk2 : k = 0 ∨ k = 1 ∨ k = 2 := by omega
            rcases hk2 with rfl | rfl | rfl
            · simp
            · simp
            · simp
          rintro e w9 ⟨v, rfl, hown, hB9⟩
          have hown' : w9.ownsRow ((w3.alloc (.cells #[.int .i64 h.o, .int .i64 h.l, .int .i64 h.b, .int .i64 h.n] 65)).alloc (.cells #[.slice (none) (0) (0), .slice (some ⟨w3.heap.size, 0, none⟩) 1 1, .slice (none) (0) (0)] 28)).drew.heap.size 65 4 v (0 + 1) (flatH (0 + 1) (insZ z 0 h)) := by
            have e1 : sumN (fun k => if k = 0 then (⟨none, 0, 0, z⟩ : Hs) else if k = 1 then ⟨some ⟨w3.heap.size, 0, none⟩, 1, 1, fun _ => h⟩ else ⟨none, 0 - 0, 0, fun j => z (0 + j)⟩) 3 = 0 + 1 := by simp [sumN]
            have e2 : catC (fun k => if k = 0 then (⟨none, 0, 0, z⟩ : Hs) else if k = 1 then ⟨some ⟨w3.heap.size, 0, none⟩, 1, 1, fun _ => h⟩ else ⟨none, 0 - 0, 0, fun j => z (0 + j)⟩) 3 = flatH (0 + 1) (insZ z 0 h) := by rw [flatH_ins _ _ _ _ (by omega)]; simp [catC]
            rw [e1, e2] at hown
            exact hown
          obtain ⟨s', rfl, sat, sn, sz⟩ := OwnH.ofRow hown' (Nat.le_trans hBw.size hD.size)
          have hD3 := hD.trans (hB9.mono hD.size)
          have HR : Hid (OwnH w.heap.size 65 w9 s' ∧ s'.n = 0 + 1 ∧ s'.z = insZ z 0 h) := ⟨sat, sn, sz⟩
          clear hown hown' sat sn sz
          simp only [Hs.val]
          go_wp2_with fail
          refine ⟨regrown_of_below hD3, ?_⟩
          refine wpOrdS_first 10 rfl rfl ?_
          go_big_quiet_step (fail)
          refine wpQuiet_nil ?_
          refine wpOrdS_one 11 (by decide) ?_
          simp only [List.drop_succ_cons, List.drop_zero, List.take_succ_cons, List.take_zero]
          go_wp2_with fail
          refine ⟨regrown_of_below hD3, ?_⟩
          refine NoPanic.normal ?_
          go_wp2_with fail
          go_ret2
          exact ⟨s', by rw [hE.out.1]; rfl, HR.out.1, ⟨by rw [hE.out.1, hE.out.2.1]; exact HR.out.2.1, fun j hj => by rw [hE.out.2.2, HR.out.2.2]⟩, hBw.trans (hD3.mono hBw.size)⟩
        | some ad =>
          by_cases hci : c = i
          · have hni : n = i := by omega
            subst hni
            subst hci
            go_wp2_with fail
            refine wp_region_ordS (fun w' => ∃ p : Regrown, w' = grow (redrawn w3 p.d) p.os)
              ([0, 1, 2, 3, 5, 6, 7].map (fun k => (true, k)) ++ [(false, 4), (false, 8), (false, 9), (true, 10), (false, 11)]) (by kernel_rfl) (by kernel_rfl) (by kernel_rfl) (by kernel_rfl) (regrown_of_below ((Below.refl _ _).drew)) ?_
            refine wpOrdS_first 0 rfl rfl ?_
            go_big_quiet_step (fail)
            refine wpQuiet_nil ?_
            refine wpOrdS_first 1 rfl rfl ?_
            go_big_quiet_step (fail)
            refine wpQuiet_nil ?_
            refine wpOrdS_first 2 rfl rfl ?_
            go_big_quiet_step (fail)
            refine wpQuiet_nil ?_
            refine wpOrdS_first 3 rfl rfl ?_
            go_big_quiet_step (fail)
            refine wpQuiet_nil ?_
            refine wpOrdS_first 5 rfl rfl ?_
            go_big_quiet_step (fail)
            refine wpQuiet_nil ?_
            refine wpOrdS_first 6 rfl rfl ?_
            go_big_quiet_step (fail)
            refine wpQuiet_nil ?_
            refine wpOrdS_first 7 rfl rfl ?_
            go_big_quiet_step (fail)
            refine wpQuiet_nil ?_
            refine wpOrdS_one 4 (by decide) ?_
            simp only [List.drop_succ_cons, List.drop_zero, List.take_succ_cons, List.take_zero]
            go_wp2_with fail
            have A0 : Hid (Hs.At w3 ⟨some ad, c, c, z⟩) := HZ
            have A1 : Hid (Hs.At w3 ⟨some ad, c - c, 0, fun j => z (c + j)⟩) := ⟨by simp, Nat.zero_le _, fun i hi => by have : i < c - c := hi; omega, fun h => by cases h⟩
            have hD1 : Below w3.heap.size w3 (w3.alloc (.cells #[.int .i64 h.o, .int .i64 h.l, .int .i64 h.b, .int .i64 h.n] 65)).drew := ((Below.refl _ _).alloc (Nat.le_refl _) _).drew
            have hD : Below w3.heap.size w3 ((w3.alloc (.cells #[.int .i64 h.o, .int .i64 h.l, .int .i64 h.b, .int .i64 h.n] 65)).alloc (.cells #[.slice (some ad) (c) (c), .slice (some ⟨w3.heap.size, 0, none⟩) 1 1, .slice (some ad) (0) (0)] 28)).drew := (((Below.refl _ _).alloc (Nat.le_refl _) _).alloc (by simp) _).drew
            refine ⟨regrown_of_below hD1, ?_⟩
            refine wpOrdS_one 8 (by decide) ?_
            simp only [List.drop_succ_cons, List.drop_zero, List.take_succ_cons, List.take_zero]
            go_wp2_with fail
            refine ⟨regrown_of_below hD, ?_⟩
            refine wpOrdS_one 9 (by decide) ?_
            simp only [List.drop_succ_cons, List.drop_zero, List.take_succ_cons, List.take_zero]
            go_wp2_with fail
            refine (Concat_any 3 (w3.heap.size + 1) 3 (fun k => if k = 0 then (⟨some ad, c, c, z⟩ : Hs) else if k = 1 then ⟨some ⟨w3.heap.size, 0, none⟩, 1, 1, fun _ => h⟩ else ⟨some ad, c - c, 0, fun j => z (c + j)⟩) _ (by omega) (Nat.le_refl _) (by unfold maxLen; omega) ?_ ?_ ?_).mono ?_
            · refine Blk.below (Blk.congr (Blk.mk' (by simp) rfl) (fun j hj => ?_)) ((Below.refl _ _).drew)
              have hj2 : j = 0 ∨ j = 1 ∨ j = 2 := by have : j < 3 := hj; omega
              rcases hj2 with rfl | rfl | rfl
              · rfl
              · rfl
              · simp
            · intro k hk
              have hk2 : k = 0 ∨ k = 1 ∨ k = 2 := by omega
              rcases hk2 with rfl | rfl | rfl
              · exact A0.out.below hD
              · exact Hs.one (Blk.below (Blk.alloc (Blk.mk' rfl rfl) _) ((Below.refl _ _).drew))
              · exact A1.out.below hD
            · intro k hk
              have hk2 : k = 0 ∨ k = 1 ∨ k = 2 := by omega
              rcases hk2 with rfl | rfl | rfl
              · simp; omega
              · simp
              · simp
            rintro e w9 ⟨v, rfl, hown, hB9⟩
            have hown' : w9.ownsRow ((w3.alloc (.cells #[.int .i64 h.o, .int .i64 h.l, .int .i64 h.b, .int .i64 h.n] 65)).alloc (.cells #[.slice (some ad) (c) (c), .slice (some ⟨w3.heap.size, 0, none⟩) 1 1, .slice (some ad) (0) (0)] 28)).drew.heap.size 65 4 v (c + 1) (flatH (c + 1) (insZ z c h)) := by
              have e1 : sumN (fun k => if k = 0 then (⟨some ad, c, c, z⟩ : Hs) else if k = 1 then ⟨some ⟨w3.heap.size, 0, none⟩, 1, 1, fun _ => h⟩ else ⟨some ad, c - c, 0, fun j => z (c + j)⟩) 3 = c + 1 := by simp [sumN]
              have e2 : catC (fun k => if k = 0 then (⟨some ad, c, c, z⟩ : Hs) else if k = 1 then ⟨some ⟨w3.heap.size, 0, none⟩, 1, 1, fun _ => h⟩ else ⟨some ad, c - c, 0, fun j => z (c + j)⟩) 3 = flatH (c + 1) (insZ z c h) := by rw [flatH_ins _ _ _ _ (by omega)]; simp [catC]
              rw [e1, e2] at hown
              exact hown
            obtain ⟨s', rfl, sat, sn, sz⟩ := OwnH.ofRow hown' (Nat.le_trans hBw.size hD.size)
            have hD3 := hD.trans (hB9.mono hD.size)
            have HR : Hid (OwnH w.heap.size 65 w9 s' ∧ s'.n = c + 1 ∧ s'.z = insZ z c h) := ⟨sat, sn, sz⟩
            clear hown hown' sat sn sz
            simp only [Hs.val]
            go_wp2_with fail
            refine ⟨regrown_of_below hD3, ?_⟩
            refine wpOrdS_first 10 rfl rfl ?_
            go_big_quiet_step (fail)
            refine wpQuiet_nil ?_
            refine wpOrdS_one 11 (by decide) ?_
            simp only [List.drop_succ_cons, List.drop_zero, List.take_succ_cons, List.take_zero]
            go_wp2_with fail
            refine ⟨regrown_of_below hD3, ?_⟩
            refine NoPanic.normal ?_
            go_wp2_with fail
            go_ret2
            exact ⟨s', by rw [hE.out.1]; rfl, HR.out.1, ⟨by rw [hE.out.1, hE.out.2.1]; exact HR.out.2.1, fun j hj => by rw [hE.out.2.2, HR.out.2.2]⟩, hBw.trans (hD3.mono hBw.size)⟩
          · go_wp2_with fail
            refine wp_region_ordS (fun w' => ∃ p : Regrown, w' = grow (redrawn w3 p.d) p.os)
              ([0, 1, 2, 3, 5, 6, 7].map (fun k => (true, k)) ++ [(false, 4), (false, 8), (false, 9), (true, 10), (false, 11)]) (by kernel_rfl) (by kernel_rfl) (by kernel_rfl) (by kernel_rfl) (regrown_of_below ((Below.refl _ _).drew)) ?_
            refine wpOrdS_first 0 rfl rfl ?_
            go_big_quiet_step (fail)
            refine wpQuiet_nil ?_
            refine wpOrdS_first 1 rfl rfl ?_
            go_big_quiet_step (fail)
            refine wpQuiet_nil ?_
            refine wpOrdS_first 2 rfl rfl ?_
            go_big_quiet_step (fail)
            refine wpQuiet_nil ?_
            refine wpOrdS_first 3 rfl rfl ?_
            go_big_quiet_step (fail)
            refine wpQuiet_nil ?_
            refine wpOrdS_first 5 rfl rfl ?_
            go_big_quiet_step (fail)
            refine wpQuiet_nil ?_
            refine wpOrdS_first 6 rfl rfl ?_
            go_big_quiet_step (fail)
            refine wpQuiet_nil ?_
            refine wpOrdS_first 7 rfl rfl ?_
            go_big_quiet_step (fail)
            refine wpQuiet_nil ?_
            refine wpOrdS_one 4 (by decide) ?_
            simp only [List.drop_succ_cons, List.drop_zero, List.take_succ_cons, List.take_zero]
            go_wp2_with fail
            have A0 : Hid (Hs.At w3 ⟨some ad, i, c, z⟩) := ⟨by show i ≤ c; omega, hc0, fun j hj => HZ.hds j (by have : j < i := hj; show j < n; omega), fun h => by cases h⟩
            have A1 : Hid (Hs.At w3 ⟨some (ad.add (i * 4)), n - i, c - i, fun j => z (i + j)⟩) := ⟨by show n - i ≤ c - i; omega, by show c - i ≤ maxLen; omega, by
              have := HZ.hds.cut (c := c) i hpl hn
              rw [if_neg hci] at this
              exact this, fun h => by cases h⟩
            have hD1 : Below w3.heap.size w3 (w3.alloc (.cells #[.int .i64 h.o, .int .i64 h.l, .int .i64 h.b, .int .i64 h.n] 65)).drew := ((Below.refl _ _).alloc (Nat.le_refl _) _).drew
            have hD : Below w3.heap.size w3 ((w3.alloc (.cells #[.int .i64 h.o, .int .i64 h.l, .int .i64 h.b, .int .i64 h.n] 65)).alloc (.cells #[.slice (some ad) (i) (c), .slice (some ⟨w3.heap.size, 0, none⟩) 1 1, .slice (some (ad.add (i * 4))) (n - i) (c - i)] 28)).drew := (((Below.refl _ _).alloc (Nat.le_refl _) _).alloc (by simp) _).drew
            refine ⟨regrown_of_below hD1, ?_⟩
            refine wpOrdS_one 8 (by decide) ?_
            simp only [List.drop_succ_cons, List.drop_zero, List.take_succ_cons, List.take_zero]
            go_wp2_with fail
            refine ⟨regrown_of_below hD, ?_⟩
            refine wpOrdS_one 9 (by decide) ?_
            simp only [List.drop_succ_cons, List.drop_zero, List.take_succ_cons, List.take_zero]
            go_wp2_with fail
            refine (Concat_any 3 (w3.heap.size + 1) 3 (fun k => if k = 0 then (⟨some ad, i, c, z⟩ : Hs) else if k = 1 then ⟨some ⟨w3.heap.size, 0, none⟩, 1, 1, fun _ => h⟩ else ⟨some (ad.add (i * 4)), n - i, c - i, fun j => z (i + j)⟩) _ (by omega) (Nat.le_refl _) (by unfold maxLen; omega) ?_ ?_ ?_).mono ?_
            · refine Blk.below (Blk.congr (Blk.mk' (by simp) rfl) (fun j hj => ?_)) ((Below.refl _ _).drew)
              have hj2 : j = 0 ∨ j = 1 ∨ j = 2 := by have : j < 3 := hj; omega
              rcases hj2 with rfl | rfl | rfl
              · rfl
              · rfl
              · simp
            · intro k hk
              have hk2 : k = 0 ∨ k = 1 ∨ k = 2 := by omega
              rcases hk2 with rfl | rfl | rfl
              · exact A0.out.below hD
              · exact Hs.one (Blk.below (Blk.alloc (Blk.mk' rfl rfl) _) ((Below.refl _ _).drew))
              · exact A1.out.below hD
            · intro k hk
              have hk2 : k = 0 ∨ k = 1 ∨ k = 2 := by omega
              rcases hk2 with rfl | rfl | rfl
              · simp; omega
              · simp
              · simp; omega
            rintro e w9 ⟨v, rfl, hown, hB9⟩
            have hown' : w9.ownsRow ((w3.alloc (.cells #[.int .i64 h.o, .int .i64 h.l, .int .i64 h.b, .int .i64 h.n] 65)).alloc (.cells #[.slice (some ad) (i) (c), .slice (some ⟨w3.heap.size, 0, none⟩) 1 1, .slice (some (ad.add (i * 4))) (n - i) (c - i)] 28)).drew.heap.size 65 4 v (n + 1) (flatH (n + 1) (insZ z i h)) := by
              have e1 : sumN (fun k => if k = 0 then (⟨some ad, i, c, z⟩ : Hs) else if k = 1 then ⟨some ⟨w3.heap.size, 0, none⟩, 1, 1, fun _ => h⟩ else ⟨some (ad.add (i * 4)), n - i, c - i, fun j => z (i + j)⟩) 3 = n + 1 := by simp [sumN]; omega
              have e2 : catC (fun k => if k = 0 then (⟨some ad, i, c, z⟩ : Hs) else if k = 1 then ⟨some ⟨w3.heap.size, 0, none⟩, 1, 1, fun _ => h⟩ else ⟨some (ad.add (i * 4)), n - i, c - i, fun j => z (i + j)⟩) 3 = flatH (n + 1) (insZ z i h) := by rw [flatH_ins _ _ _ _ (by omega)]; simp [catC]
              rw [e1, e2] at hown
              exact hown
            obtain ⟨s', rfl, sat, sn, sz⟩ := OwnH.ofRow hown' (Nat.le_trans hBw.size hD.size)
            have hD3 := hD.trans (hB9.mono hD.size)
            have HR : Hid (OwnH w.heap.size 65 w9 s' ∧ s'.n = n + 1 ∧ s'.z = insZ z i h) := ⟨sat, sn, sz⟩
            clear hown hown' sat sn sz
            simp only [Hs.val]
            go_wp2_with fail
            refine ⟨regrown_of_below hD3, ?_⟩
            refine wpOrdS_first 10 rfl rfl ?_
            go_big_quiet_step (fail)
            refine wpQuiet_nil ?_
            refine wpOrdS_one 11 (by decide) ?_
            simp only [List.drop_succ_cons, List.drop_zero, List.take_succ_cons, List.take_zero]
            go_wp2_with fail
            refine ⟨regrown_of_below hD3, ?_⟩
            refine NoPanic.normal ?_
            go_wp2_with fail
            go_ret2
            exact ⟨s', by rw [hE.out.1]; rfl, HR.out.1, ⟨by rw [hE.out.1, hE.out.2.1]; exact HR.out.2.1, fun j hj => by rw [hE.out.2.2, HR.out.2.2]⟩, hBw.trans (hD3.mono hBw.size)⟩
      · obtain ⟨hin, k0, kI, k1, k2⟩ := fy hf
        obtain ⟨bb, oo, ha, hb, z0, z1, z2, z3⟩ := HZ.hds i hin
        dsimp only at ha z0 z1 z2 z3
        subst ha
        have m3 : (i : Int) < (n : Int) := by omega
        have m5 : (i : Int) + 1 ≤ (n : Int) := by omega
        have KV : Hid (keptV n z h.o h.l h.b = (z i).n) := k0
        clear fy fn k0 kI z0 z1 z2
        go_wp2_with fail
        go_region
        have F : ∃ W4, (w3.setCell ⟨w.heap.size, 3, none⟩ (.int .i64 (h.n + (z i).n))).drew = W4 ∧ Below w.heap.size w W4 ∧ w.heap.size < W4.heap.size ∧ (W4.cell? ⟨w.heap.size, 0, none⟩ = some (.int .i64 h.o) ∧ W4.cell? ⟨w.heap.size, 1, none⟩ = some (.int .i64 h.l) ∧ W4.cell? ⟨w.heap.size, 2, none⟩ = some (.int .i64 h.b) ∧ W4.cell? ⟨w.heap.size, 3, none⟩ = some (.int .i64 (h.n + (z i).n))) := by
          have bx : Blk w3 w.heap.size 65 4 (fun j => (#[.int .i64 h.o, .int .i64 h.l, .int .i64 h.b, .int .i64 h.n] : Array Value).getD j default) := (Blk.mk' (w := w) rfl rfl).same (hBv.block w.heap.size (by omega))
          have by2 := Blk.below (bx.set 3 (.int .i64 (h.n + (z i).n))) ((Below.refl _ _).drew)
          refine ⟨_, rfl, (hBw.setCell (p := ⟨w.heap.size, 3, none⟩) (Nat.le_refl _) _).drew, by2.lt, by2.cell (j := 0) (by decide), by2.cell (j := 1) (by decide), by2.cell (j := 2) (by decide), by2.cell (j := 3) (by decide)⟩
        obtain ⟨W4, hW4, hB4, hsz4, u0, u1, u2, u3⟩ := F
        rw [hW4]
        clear hW4 t0 t1 t2 t3 tf z3 hsz
        have HZ4 := HS.below hB4
        have hBw := hB4
        cases hbig : decide (200 < h.n + (z i).n)
        · have hbig2 : ¬ 200 < h.n + (z i).n := by simpa using hbig
          have hE : Hid (addE n z h = 0 ∧ addLen n z h = n ∧ addZ n z h = setZ z i ⟨h.o, h.l, h.b, h.n + (z i).n⟩) := by
            show _ ∧ _ ∧ _
            have k0 := KV.out
            have hne : ¬ keptV n z h.o h.l h.b = 0 := by omega
            refine ⟨?_, by simp [addLen, hne], ?_⟩
            · unfold addE
              rw [if_pos h0, if_pos hfine, k0, if_neg (by omega)]
            · unfold addZ
              rw [if_neg hne, hpos.out, k0, Int.add_comm]
          have e0 : ∀ d os, (grow (redrawn W4 d) os).cell? ⟨w.heap.size, 0, none⟩ = some (.int .i64 h.o) := fun d os => cell_regrown u0 d os
          have e1 : ∀ d os, (grow (redrawn W4 d) os).cell? ⟨w.heap.size, 1, none⟩ = some (.int .i64 h.l) := fun d os => cell_regrown u1 d os
          have e2 : ∀ d os, (grow (redrawn W4 d) os).cell? ⟨w.heap.size, 2, none⟩ = some (.int .i64 h.b) := fun d os => cell_regrown u2 d os
          have e3 : ∀ d os, (grow (redrawn W4 d) os).cell? ⟨w.heap.size, 3, none⟩ = some (.int .i64 (h.n + (z i).n)) := fun d os => cell_regrown u3 d os
          by_cases hci : c = i + 1
          · go_wp2_with fail
            refine wp_region_ordS (fun w' => ∃ p : Regrown, w' = grow (redrawn W4 p.d) p.os)
              ([0, 1, 2, 3, 5, 6, 7, 8].map (fun k => (true, k)) ++ [(false, 4), (false, 9), (false, 10), (true, 11), (false, 12)]) (by kernel_rfl) (by kernel_rfl) (by kernel_rfl) (by kernel_rfl) (regrown_of_below ((Below.refl _ _).drew)) ?_
            refine wpOrdS_first 0 rfl rfl ?_
            go_big_quiet_step (fail)
            refine wpQuiet_nil ?_
            refine wpOrdS_first 1 rfl rfl ?_
            go_big_quiet_step (fail)
            refine wpQuiet_nil ?_
            refine wpOrdS_first 2 rfl rfl ?_
            go_big_quiet_step (fail)
            refine wpQuiet_nil ?_
            refine wpOrdS_first 3 rfl rfl ?_
            go_big_quiet_step (fail)
            refine wpQuiet_nil ?_
            refine wpOrdS_first 5 rfl rfl ?_
            go_big_quiet_step (fail)
            refine wpQuiet_nil ?_
            refine wpOrdS_first 6 rfl rfl ?_
            go_big_quiet_step (fail)
            refine wpQuiet_nil ?_
            refine wpOrdS_first 7 rfl rfl ?_
            go_big_quiet_step (fail)
            refine wpQuiet_nil ?_
            refine wpOrdS_first 8 rfl rfl ?_
            go_big_quiet_step (fail)
            refine wpQuiet_nil ?_
            refine wpOrdS_one 4 (by decide) ?_
            simp only [List.drop_succ_cons, List.drop_zero, List.take_succ_cons, List.take_zero]
            go_wp2_with fail
            have A0 : Hid (Hs.At W4 ⟨some ⟨bb, oo, none⟩, i, i + 1, z⟩) := ⟨by simp, by show i + 1 ≤ maxLen; unfold maxLen; omega, fun j hj => HZ4.hds j (by have : j < i := hj; show j < n; omega), fun h => by cases h⟩
            have A1 : Hid (Hs.At W4 ⟨some ⟨bb, oo, none⟩, n - (i + 1), 0, fun j => z (i + 1 + j)⟩) := ⟨by show n - (i + 1) ≤ 0; omega, Nat.zero_le _, fun j hj => by have : j < n - (i + 1) := hj; omega, fun h => by cases h⟩
            have hD1 : Below W4.heap.size W4 (W4.alloc (.cells #[.int .i64 h.o, .int .i64 h.l, .int .i64 h.b, .int .i64 (h.n + (z i).n)] 65)).drew := ((Below.refl _ _).alloc (Nat.le_refl _) _).drew
            have hD : Below W4.heap.size W4 ((W4.alloc (.cells #[.int .i64 h.o, .int .i64 h.l, .int .i64 h.b, .int .i64 (h.n + (z i).n)] 65)).alloc (.cells #[.slice (some ⟨bb, oo, none⟩) (i) (i + 1), .slice (some ⟨W4.heap.size, 0, none⟩) 1 1, .slice (some ⟨bb, oo, none⟩) (n - (i + 1)) (0)] 28)).drew := (((Below.refl _ _).alloc (Nat.le_refl _) _).alloc (by simp) _).drew
            refine ⟨regrown_of_below hD1, ?_⟩
            refine wpOrdS_one 9 (by decide) ?_
            simp only [List.drop_succ_cons, List.drop_zero, List.take_succ_cons, List.take_zero]
            go_wp2_with fail
            refine ⟨regrown_of_below hD, ?_⟩
            refine wpOrdS_one 10 (by decide) ?_
            simp only [List.drop_succ_cons, List.drop_zero, List.take_succ_cons, List.take_zero]
            go_wp2_with fail
            refine (Concat_any 3 (W4.heap.size + 1) 3 (fun k => if k = 0 then (⟨some ⟨bb, oo, none⟩, i, i + 1, z⟩ : Hs) else if k = 1 then ⟨some ⟨W4.heap.size, 0, none⟩, 1, 1, fun _ => ⟨h.o, h.l, h.b, h.n + (z i).n⟩⟩ else ⟨some ⟨bb, oo, none⟩, n - (i + 1), 0, fun j => z (i + 1 + j)⟩) _ (by omega) (Nat.le_refl _) (by unfold maxLen; omega) ?_ ?_ ?_).mono ?_
            · refine Blk.below (Blk.congr (Blk.mk' (by simp) rfl) (fun j hj => ?_)) ((Below.refl _ _).drew)
              have hj2 : j = 0 ∨ j = 1 ∨ j = 2 := by have : j < 3 := hj; omega
              rcases hj2 with rfl | rfl | rfl
              · rfl
              · rfl
              · simp
            · intro k hk
              have hk2 : k = 0 ∨ k = 1 ∨ k = 2 := by omega
              rcases hk2 with rfl | rfl | rfl
              · exact A0.out.below hD
              · exact Hs.one (Blk.below (Blk.alloc (Blk.mk' rfl rfl) _) ((Below.refl _ _).drew))
              · exact A1.out.below hD
            · intro k hk
              have hk2 : k = 0 ∨ k = 1 ∨ k = 2 := by omega
              rcases hk2 with rfl | rfl | rfl
              · simp; omega
              · simp
              · simp; omega
            rintro e w9 ⟨v, rfl, hown, hB9⟩
            have hown' : w9.ownsRow ((W4.alloc (.cells #[.int .i64 h.o, .int .i64 h.l, .int .i64 h.b, .int .i64 (h.n + (z i).n)] 65)).alloc (.cells #[.slice (some ⟨bb, oo, none⟩) (i) (i + 1), .slice (some ⟨W4.heap.size, 0, none⟩) 1 1, .slice (some ⟨bb, oo, none⟩) (n - (i + 1)) (0)] 28)).drew.heap.size 65 4 v (n) (flatH (n) (setZ z i ⟨h.o, h.l, h.b, h.n + (z i).n⟩)) := by
              have e1 : sumN (fun k => if k = 0 then (⟨some ⟨bb, oo, none⟩, i, i + 1, z⟩ : Hs) else if k = 1 then ⟨some ⟨W4.heap.size, 0, none⟩, 1, 1, fun _ => ⟨h.o, h.l, h.b, h.n + (z i).n⟩⟩ else ⟨some ⟨bb, oo, none⟩, n - (i + 1), 0, fun j => z (i + 1 + j)⟩) 3 = n := by simp [sumN]; omega
              have e2 : catC (fun k => if k = 0 then (⟨some ⟨bb, oo, none⟩, i, i + 1, z⟩ : Hs) else if k = 1 then ⟨some ⟨W4.heap.size, 0, none⟩, 1, 1, fun _ => ⟨h.o, h.l, h.b, h.n + (z i).n⟩⟩ else ⟨some ⟨bb, oo, none⟩, n - (i + 1), 0, fun j => z (i + 1 + j)⟩) 3 = flatH (n) (setZ z i ⟨h.o, h.l, h.b, h.n + (z i).n⟩) := by rw [flatH_set _ _ _ _ hin]; simp [catC]
              rw [e1, e2] at hown
              exact hown
            obtain ⟨s', rfl, sat, sn, sz⟩ := OwnH.ofRow hown' (Nat.le_trans hBw.size hD.size)
            have hD3 := hD.trans (hB9.mono hD.size)
            have HR : Hid (OwnH w.heap.size 65 w9 s' ∧ s'.n = n ∧ s'.z = setZ z i ⟨h.o, h.l, h.b, h.n + (z i).n⟩) := ⟨sat, sn, sz⟩
            clear hown hown' sat sn sz
            simp only [Hs.val]
            go_wp2_with fail
            refine ⟨regrown_of_below hD3, ?_⟩
            refine wpOrdS_first 11 rfl rfl ?_
            go_big_quiet_step (fail)
            refine wpQuiet_nil ?_
            refine wpOrdS_one 12 (by decide) ?_
            simp only [List.drop_succ_cons, List.drop_zero, List.take_succ_cons, List.take_zero]
            go_wp2_with fail
            refine ⟨regrown_of_below hD3, ?_⟩
            refine NoPanic.normal ?_
            go_wp2_with fail
            go_ret2
            exact ⟨s', by rw [hE.out.1]; rfl, HR.out.1, ⟨by rw [hE.out.1, hE.out.2.1]; exact HR.out.2.1, fun j hj => by rw [hE.out.2.2, HR.out.2.2]⟩, hBw.trans (hD3.mono hBw.size)⟩
          · go_wp2_with fail
            refine wp_region_ordS (fun w' => ∃ p : Regrown, w' = grow (redrawn W4 p.d) p.os)
              ([0, 1, 2, 3, 5, 6, 7, 8].map (fun k => (true, k)) ++ [(false, 4), (false, 9), (false, 10), (true, 11), (false, 12)]) (by kernel_rfl) (by kernel_rfl) (by kernel_rfl) (by kernel_rfl) (regrown_of_below ((Below.refl _ _).drew)) ?_
            refine wpOrdS_first 0 rfl rfl ?_
            go_big_quiet_step (fail)
            refine wpQuiet_nil ?_
            refine wpOrdS_first 1 rfl rfl ?_
            go_big_quiet_step (fail)
            refine wpQuiet_nil ?_
            refine wpOrdS_first 2 rfl rfl ?_
            go_big_quiet_step (fail)
            refine wpQuiet_nil ?_
            refine wpOrdS_first 3 rfl rfl ?_
            go_big_quiet_step (fail)
            refine wpQuiet_nil ?_
            refine wpOrdS_first 5 rfl rfl ?_
            go_big_quiet_step (fail)
            refine wpQuiet_nil ?_
            refine wpOrdS_first 6 rfl rfl ?_
            go_big_quiet_step (fail)
            refine wpQuiet_nil ?_
            refine wpOrdS_first 7 rfl rfl ?_
            go_big_quiet_step (fail)
            refine wpQuiet_nil ?_
            refine wpOrdS_first 8 rfl rfl ?_
            go_big_quiet_step (fail)
            refine wpQuiet_nil ?_
            refine wpOrdS_one 4 (by decide) ?_
            simp only [List.drop_succ_cons, List.drop_zero, List.take_succ_cons, List.take_zero]
            go_wp2_with fail
            have A0 : Hid (Hs.At W4 ⟨some ⟨bb, oo, none⟩, i, c, z⟩) := ⟨by show i ≤ c; omega, hc0, fun j hj => HZ4.hds j (by have : j < i := hj; show j < n; omega), fun h => by cases h⟩
            have A1 : Hid (Hs.At W4 ⟨some ⟨bb, oo + (i + 1) * 4, none⟩, n - (i + 1), c - (i + 1), fun j => z (i + 1 + j)⟩) := ⟨by show n - (i + 1) ≤ c - (i + 1); omega, by show c - (i + 1) ≤ maxLen; omega, by
              have := HZ4.hds.cut (c := c) (i + 1) (by show i + 1 ≤ n; omega) hn
              rw [if_neg hci, Go.WideShapes.add_plain] at this
              exact this, fun h => by cases h⟩
            have hD1 : Below W4.heap.size W4 (W4.alloc (.cells #[.int .i64 h.o, .int .i64 h.l, .int .i64 h.b, .int .i64 (h.n + (z i).n)] 65)).drew := ((Below.refl _ _).alloc (Nat.le_refl _) _).drew
            have hD : Below W4.heap.size W4 ((W4.alloc (.cells #[.int .i64 h.o, .int .i64 h.l, .int .i64 h.b, .int .i64 (h.n + (z i).n)] 65)).alloc (.cells #[.slice (some ⟨bb, oo, none⟩) (i) (c), .slice (some ⟨W4.heap.size, 0, none⟩) 1 1, .slice (some ⟨bb, oo + (i + 1) * 4, none⟩) (n - (i + 1)) (c - (i + 1))] 28)).drew := (((Below.refl _ _).alloc (Nat.le_refl _) _).alloc (by simp) _).drew
            refine ⟨regrown_of_below hD1, ?_⟩
            refine wpOrdS_one 9 (by decide) ?_
            simp only [List.drop_succ_cons, List.drop_zero, List.take_succ_cons, List.take_zero]
            go_wp2_with fail
            refine ⟨regrown_of_below hD, ?_⟩
            refine wpOrdS_one 10 (by decide) ?_
            simp only [List.drop_succ_cons, List.drop_zero, List.take_succ_cons, List.take_zero]
            go_wp2_with fail
            refine (Concat_any 3 (W4.heap.size + 1) 3 (fun k => if k = 0 then (⟨some ⟨bb, oo, none⟩, i, c, z⟩ : Hs) else if k = 1 then ⟨some ⟨W4.heap.size, 0, none⟩, 1, 1, fun _ => ⟨h.o, h.l, h.b, h.n + (z i).n⟩⟩ else ⟨some ⟨bb, oo + (i + 1) * 4, none⟩, n - (i + 1), c - (i + 1), fun j => z (i + 1 + j)⟩) _ (by omega) (Nat.le_refl _) (by unfold maxLen; omega) ?_ ?_ ?_).mono ?_
            · refine Blk.below (Blk.congr (Blk.mk' (by simp) rfl) (fun j hj => ?_)) ((Below.refl _ _).drew)
              have hj2 : j = 0 ∨ j = 1 ∨ j = 2 := by have : j < 3 := hj; omega
              rcases hj2 with rfl | rfl | rfl
              · rfl
              · rfl
              · simp
            · intro k hk
              have hk2 : k = 0 ∨ k = 1 ∨ k = 2 := by omega
              rcases hk2 with rfl | rfl | rfl
              · exact A0.out.below hD
              · exact Hs.one (Blk.below (Blk.alloc (Blk.mk' rfl rfl) _) ((Below.refl _ _).drew))
              · exact A1.out.below hD
            · intro k hk
              have hk2 : k = 0 ∨ k = 1 ∨ k = 2 := by omega
              rcases hk2 with rfl | rfl | rfl
              · simp; omega
              · simp
              · simp; omega
            rintro e w9 ⟨v, rfl, hown, hB9⟩
            have hown' : w9.ownsRow ((W4.alloc (.cells #[.int .i64 h.o, .int .i64 h.l, .int .i64 h.b, .int .i64 (h.n + (z i).n)] 65)).alloc (.cells #[.slice (some ⟨bb, oo, none⟩) (i) (c), .slice (some ⟨W4.heap.size, 0, none⟩) 1 1, .slice (some ⟨bb, oo + (i + 1) * 4, none⟩) (n - (i + 1)) (c - (i + 1))] 28)).drew.heap.size 65 4 v (n) (flatH (n) (setZ z i ⟨h.o, h.l, h.b, h.n + (z i).n⟩)) := by
              have e1 : sumN (fun k => if k = 0 then (⟨some ⟨bb, oo, none⟩, i, c, z⟩ : Hs) else if k = 1 then ⟨some ⟨W4.heap.size, 0, none⟩, 1, 1, fun _ => ⟨h.o, h.l, h.b, h.n + (z i).n⟩⟩ else ⟨some ⟨bb, oo + (i + 1) * 4, none⟩, n - (i + 1), c - (i + 1), fun j => z (i + 1 + j)⟩) 3 = n := by simp [sumN]; omega
              have e2 : catC (fun k => if k = 0 then (⟨some ⟨bb, oo, none⟩, i, c, z⟩ : Hs) else if k = 1 then ⟨some ⟨W4.heap.size, 0, none⟩, 1, 1, fun _ => ⟨h.o, h.l, h.b, h.n + (z i).n⟩⟩ else ⟨some ⟨bb, oo + (i + 1) * 4, none⟩, n - (i + 1), c - (i + 1), fun j => z (i + 1 + j)⟩) 3 = flatH (n) (setZ z i ⟨h.o, h.l, h.b, h.n + (z i).n⟩) := by rw [flatH_set _ _ _ _ hin]; simp [catC]
              rw [e1, e2] at hown
              exact hown
            obtain ⟨s', rfl, sat, sn, sz⟩ := OwnH.ofRow hown' (Nat.le_trans hBw.size hD.size)
            have hD3 := hD.trans (hB9.mono hD.size)
            have HR : Hid (OwnH w.heap.size 65 w9 s' ∧ s'.n = n ∧ s'.z = setZ z i ⟨h.o, h.l, h.b, h.n + (z i).n⟩) := ⟨sat, sn, sz⟩
            clear hown hown' sat sn sz
            simp only [Hs.val]
            go_wp2_with fail
            refine ⟨regrown_of_below hD3, ?_⟩
            refine wpOrdS_first 11 rfl rfl ?_
            go_big_quiet_step (fail)
            refine wpQuiet_nil ?_
            refine wpOrdS_one 12 (by decide) ?_
            simp only [List.drop_succ_cons, List.drop_zero, List.take_succ_cons, List.take_zero]
            go_wp2_with fail
            refine ⟨regrown_of_below hD3, ?_⟩
            refine NoPanic.normal ?_
            go_wp2_with fail
            go_ret2
            exact ⟨s', by rw [hE.out.1]; rfl, HR.out.1, ⟨by rw [hE.out.1, hE.out.2.1]; exact HR.out.2.1, fun j hj => by rw [hE.out.2.2, HR.out.2.2]⟩, hBw.trans (hD3.mono hBw.size)⟩
        · have hbig2 : 200 < h.n + (z i).n := by simpa using hbig
          have hE : Hid (addE n z h = 3) := by
            show addE n z h = 3
            have k0 := KV.out
            unfold addE
            rw [if_pos h0, if_pos hfine, k0, if_pos (by omega)]
          go_wp2_with fail
          go_ret2
          exact ⟨⟨none, 0, 0, z⟩, by rw [hE.out]; rfl, NA.out _, ⟨by rw [hE.out]; rfl, fun j hj => absurd hj (Nat.not_lt_zero _)⟩, hBw⟩
  · have hE : Hid (addE n z h = checkH n z) := by show addE n z h = _; simp [addE, h0]
    go_wp2_with fail
    go_ret2
    exact ⟨⟨none, 0, 0, z⟩, by rw [hE.out]; rfl, NA.out _, ⟨by rw [hE.out, if_neg h0], fun j hj => absurd hj (Nat.not_lt_zero _)⟩, hBw⟩

theorem Add_any (s : Hs) (h : Hd) (w : World) (hs : s.At w) :
    Calls Try.prog 46 #[s.val, h.val] w fun e w' => ∃ s' : Hs, e = .returned (.tuple #[s'.val, .int .i64 (addE s.n s.z h)]) ∧ s'.At w' ∧ AddOK s.n s.z h s' ∧ Below w.heap.size w w' :=
  (AddOwn_any s h w hs).mono fun e w' h => by obtain ⟨s', h1, h2, h3⟩ := h; exact ⟨s', h1, h2.at, h3⟩

end Go.Proofs.Ytjiodlbblmbibac

/- Holds: the document's own 'with'. -/
import Derived.Test.YtjiodlbblmbibacHW9
namespace Go.Proofs.Ytjiodlbblmbibac
open Go.RowKit Go.Shelf Go.Sort
set_option linter.unusedVariables false

def rngH (x : Hd) : Prop := (0 ≤ x.o ∧ x.o ≤ 3) ∧ (0 ≤ x.l ∧ x.l ≤ 2) ∧ (0 ≤ x.b ∧ x.b ≤ 5)
theorem rng_of {x : Hd} (h : fineH x = true) : rngH x := ⟨(fineH_true h).1, (fineH_true h).2.1, (fineH_true h).2.2.1⟩

set_option maxRecDepth 100000 in
set_option maxHeartbeats 400000 in
theorem place_rng (x : Hd) (w : World) (h : rngH x) :
    Calls Try.prog 123 #[x.val] w fun e w' => e = .returned (.int .i64 (keyH x)) ∧ Below w.heap.size w w' := by
  unfold rngH at h
  unfold keyH Hd.val
  go_enter Try.func123, Try.ntmps123
  go_wp2
  go_ret
  exact ⟨rfl, (Below.refl _ _).alloc (Nat.le_refl _) _⟩

theorem one_news (w : World) (x : Hd) (t : TypeId) : ∀ j u, (hdCells x)[j]? = some u → (w.alloc (.cells #[.int .i64 x.o, .int .i64 x.l, .int .i64 x.b, .int .i64 x.n] t)).cell? ((⟨w.heap.size, 0, none⟩ : Addr).add j) = some u := by
  intro j u hj
  rw [Go.WideShapes.add_plain]
  have hlt : j < 4 := by
    have := (List.getElem?_eq_some_iff.1 hj).1
    simpa [hdCells] using this
  have hb : Blk (w.alloc (.cells #[.int .i64 x.o, .int .i64 x.l, .int .i64 x.b, .int .i64 x.n] t)) w.heap.size t 4 (fun j => (#[.int .i64 x.o, .int .i64 x.l, .int .i64 x.b, .int .i64 x.n] : Array Value).getD j default) := Blk.mk' rfl rfl
  rw [Nat.zero_add, hb.cell hlt]
  have h4 : j = 0 ∨ j = 1 ∨ j = 2 ∨ j = 3 := by omega
  rcases h4 with rfl | rfl | rfl | rfl <;> (simp [hdCells] at hj; rw [← hj]; rfl)
theorem one_cells (x : Hd) : ∀ u ∈ hdCells x, u.oneCell' = true := by
  intro u hu
  simp [hdCells] at hu
  rcases hu with rfl | rfl | rfl | rfl <;> rfl
theorem owns_below {w w' : World} {base : Nat} {e : TypeId} {size : Nat} {v : Value} {n : Nat} {xs : List Value} (h : w.ownsRow base e size v n xs) (hB : Below w.heap.size w w') : w'.ownsRow base e size v n xs :=
  h.kept (row := none) ⟨hB.os, hB.tape, hB.output, hB.size, fun j hj _ => hB.block j hj⟩ (by cases h : v.ownBlock <;> simp)

set_option maxRecDepth 100000 in
set_option maxHeartbeats 4000000 in
theorem with_setO (s : Hs) (h : Hd) (p : Nat) (w : World) (hs : s.At w) (hr : anyB s.n (badH s.z) = false) (hrng : rngH h) (hp : p < s.n) (heq : keyH (s.z p) = keyH h) (hN : ¬ h.n = 0) (hlo : ∀ j, j < p → keyH (s.z j) < keyH h) (hhi : ∀ j, p < j → j < s.n → keyH h < keyH (s.z j)) :
    Calls Try.prog 102 #[s.val, .int .i64 h.o, .int .i64 h.l, .int .i64 h.b, .int .i64 h.n] w fun e w' => ∃ s' : Hs, e = .returned s'.val ∧ OwnH w.heap.size 65 w' s' ∧ s'.n = s.n ∧ s'.z = setZ s.z p h ∧ Below w.heap.size w w' := by
  have hlen := right_len hr
  have HF : Hid (∀ j, j < s.n → rngH (s.z j)) := fun j hj => rng_of (right_fine hr j hj)
  clear hr
  obtain ⟨a, n, c, z⟩ := s
  obtain ⟨hn, hc, hz, hnil⟩ := hs
  dsimp only at *
  obtain ⟨i0, hi, hz0, hz1, hz2⟩ := info_parts infoHold
  have HRH : Hid (rngH h) := hrng
  have HLO : Hid (∀ j, j < p → keyH (z j) < keyH h) := hlo
  have HHI : Hid (∀ j, p < j → j < n → keyH h < keyH (z j)) := hhi
  clear hrng hlo hhi
  unfold maxLen at hc
  simp only [Hs.val]
  have hT : Hid (∀ w1, Below (w.heap.size + 1) (w.alloc (.cells #[.int .i64 h.o, .int .i64 h.l, .int .i64 h.b, .int .i64 h.n] 65)) w1 → w1.cell? ⟨w.heap.size, 0, none⟩ = some (.int .i64 h.o) ∧ w1.cell? ⟨w.heap.size, 0 + 1, none⟩ = some (.int .i64 h.l) ∧ w1.cell? ⟨w.heap.size, 0 + 2, none⟩ = some (.int .i64 h.b) ∧ w1.cell? ⟨w.heap.size, 0 + 3, none⟩ = some (.int .i64 h.n)) := fun w1 hb =>
    ⟨(hb.cell (p := ⟨w.heap.size, 0, none⟩) (by simp)).trans (by simp), (hb.cell (p := ⟨w.heap.size, 1, none⟩) (by simp)).trans (by simp), (hb.cell (p := ⟨w.heap.size, 2, none⟩) (by simp)).trans (by simp), (hb.cell (p := ⟨w.heap.size, 3, none⟩) (by simp)).trans (by simp)⟩
  have hW : Hid (∀ w1, Below (w.heap.size + 1) (w.alloc (.cells #[.int .i64 h.o, .int .i64 h.l, .int .i64 h.b, .int .i64 h.n] 65)) w1 → Below w.heap.size w w1) := fun w1 hb => ((Below.refl _ _).alloc (Nat.le_refl _) _).trans (hb.mono (by omega))
  have HEQ : Hid (keyH (z p) = keyH h) := heq
  clear heq
  have hN1 : (h.n == 0) = false := by simpa using hN
  go_enter Try.func102, Try.ntmps102
  go_wp2_with fail
  go_loopw [12, 13, 14] (fun v dn i wk => ∃ k : Nat, k ≤ n ∧ i = .int .i64 k ∧ dn = .bool (decide (p < k)) ∧ wk.ownsRow (w.heap.size + 1) 65 4 v (k) (flatH (k) (setZ z p h)) ∧ Below (w.heap.size + 1) (w.alloc (.cells #[.int .i64 h.o, .int .i64 h.l, .int .i64 h.b, .int .i64 h.n] 65)) wk) (fun _ _ i _ => n - (intOf i).toNat)
  case atStart => exact ⟨0, Nat.zero_le _, rfl, by simp, World.ownsRow_nil _ _ _ _, Below.refl _ _⟩
  case round =>
    obtain ⟨k, hk, rfl, rfl, hown, hB⟩ := hrel
    have hsz : w.heap.size + 1 ≤ wr.heap.size := by have := hB.size; simpa using this
    by_cases hlt : k < n
    · have HRZ : Hid (rngH (z k)) := HF.out k hlt
      have hzk := hz k hlt
      obtain ⟨bb, oo, ha, hbb, _⟩ := hzk
      subst ha
      have hK : Hid (∀ w1, Below (w.heap.size + 1) (w.alloc (.cells #[.int .i64 h.o, .int .i64 h.l, .int .i64 h.b, .int .i64 h.n] 65)) w1 → w1.cell? ⟨bb, oo + k * 4, none⟩ = some (.int .i64 (z k).o) ∧ w1.cell? ⟨bb, oo + k * 4 + 1, none⟩ = some (.int .i64 (z k).l) ∧ w1.cell? ⟨bb, oo + k * 4 + 2, none⟩ = some (.int .i64 (z k).b) ∧ w1.cell? ⟨bb, oo + k * 4 + 3, none⟩ = some (.int .i64 (z k).n)) := fun w1 hb => by
        obtain ⟨b', o', he, _, q0, q1, q2, q3⟩ := (hz.below (hW.out w1 hb)) k hlt
        simp only [Option.some.injEq, Addr.mk.injEq, and_true] at he
        obtain ⟨rfl, rfl⟩ := he
        exact ⟨q0, q1, q2, q3⟩
      have m1 : (0 : Int) ≤ (k : Int) := by omega
      have m2 : (k : Int) < (n : Int) := by omega
      rcases Nat.lt_trichotomy k p with hkp | hkp | hkp
      · have g3 : decide (p < k) = false := by simp; omega
        have g1 : decide (keyH h ≤ keyH (z k)) = false := by have := HLO.out k hkp; simp; omega
        have g2 : (keyH (z k) != keyH h) = true := by have := HLO.out k hkp; simp; omega
        obtain ⟨t0, t1, t2, t3⟩ := hT.out wr hB
        obtain ⟨p0, p1, p2, p3⟩ := hd_regrown t0 t1 t2 t3
        simp only [Nat.zero_add] at t1 t2 t3 p1 p2 p3
        obtain ⟨z0, z1, z2, z3⟩ := hK.out wr hB
        obtain ⟨r0, r1, r2, r3⟩ := hd_regrown z0 z1 z2 z3
        go_wp2_with fail
        refine wp_region_quiet_below (by kernel_rfl) (by kernel_rfl) ?_
        repeat (go_big_quiet_step ((go_at_call 123; exact Calls.regrown_of (place_rng _ _ (by first | exact HRZ.out | exact HRH.out)))))
        refine wpQuiet_nil ?_
        intro _ hw'
        obtain ⟨⟨dq, osq⟩, hw''⟩ := hw'
        subst hw''
        have hBwa := below_regrown wr dq osq
        generalize grow (redrawn wr dq) osq = wa at hBwa ⊢
        have hTwa := hB.trans (hBwa.mono (by have := hB.size; simpa using this))
        have ownwa := owns_below hown hBwa
        clear t0 t1 t2 t3 p0 p1 p2 p3 z0 z1 z2 z3 r0 r1 r2 r3 hown hBwa
        obtain ⟨t0, t1, t2, t3⟩ := hT.out wa hTwa
        obtain ⟨p0, p1, p2, p3⟩ := hd_regrown t0 t1 t2 t3
        simp only [Nat.zero_add] at t1 t2 t3 p1 p2 p3
        obtain ⟨z0, z1, z2, z3⟩ := hK.out wa hTwa
        obtain ⟨r0, r1, r2, r3⟩ := hd_regrown z0 z1 z2 z3
        go_wp2_with fail
        refine wp_region_quiet_below (by kernel_rfl) (by kernel_rfl) ?_
        repeat (go_big_quiet_step ((go_at_call 123; exact Calls.regrown_of (place_rng _ _ (by first | exact HRZ.out | exact HRH.out)))))
        refine wpQuiet_nil ?_
        intro _ hw'
        obtain ⟨⟨dq, osq⟩, hw''⟩ := hw'
        subst hw''
        have hBwb := below_regrown wa dq osq
        generalize grow (redrawn wa dq) osq = wb at hBwb ⊢
        have hTwb := hTwa.trans (hBwb.mono (by have := hTwa.size; simpa using this))
        have ownwb := owns_below ownwa hBwb
        clear t0 t1 t2 t3 p0 p1 p2 p3 z0 z1 z2 z3 r0 r1 r2 r3 ownwa hBwb
        obtain ⟨t0, t1, t2, t3⟩ := hT.out wb hTwb
        obtain ⟨p0, p1, p2, p3⟩ := hd_regrown t0 t1 t2 t3
        simp only [Nat.zero_add] at t1 t2 t3 p1 p2 p3
        obtain ⟨z0, z1, z2, z3⟩ := hK.out wb hTwb
        obtain ⟨r0, r1, r2, r3⟩ := hd_regrown z0 z1 z2 z3
        go_wp2_with (at_builtin; refine wpList_append_own _ rfl (.tmp 52) (.tmp 57) 28 rfl (w.heap.size + 1) 65 i0 (.agg #[.int .i64 0, .int .i64 0, .int .i64 0, .int .i64 0]) 4 32 Try.underlying28 hi hz0 hz1 hz2 rfl (by decide) _ _ _ rfl (World.ownsRow.alloc ownwb _) ⟨wb.heap.size, 0, none⟩ 1 1 (hdCells (z k)) rfl rfl (one_news _ _ _) (one_cells _) (by unfold maxLen; omega) (by omega) (by have := hTwb.size; simp at this; simp; omega) ?_; intro vwc wc ownwc hgr hnl)
        have hTwc : Below (w.heap.size + 1) (w.alloc (.cells #[.int .i64 h.o, .int .i64 h.l, .int .i64 h.b, .int .i64 h.n] 65)) wc := (hTwb.alloc (by have := hTwb.size; simpa using this) _).grown hgr (by have := hTwb.size; simp at this; simp; omega) (fun q hq => (World.ownsRow.lt ownwb q hq).1)
        clear hgr hnl t0 t1 t2 t3 p0 p1 p2 p3 z0 z1 z2 z3 r0 r1 r2 r3 ownwb
        go_wp2_with fail
        go_roundw
        case rel => exact ⟨k + 1, by omega, by go_num, by rw [show decide (p < k + 1) = false by simp; omega], by rw [flatH_succ, show setZ z p h k = z k by unfold setZ; rw [if_neg (by omega)]]; exact ownwc, hTwc⟩
        case measure => simp [intOf]; omega

      · have g3 : decide (p < k) = false := by simp; omega
        have hkk : keyH (z k) = keyH h := by rw [hkp]; exact HEQ.out
        have HKP : Hid (k = p) := hkp
        have g1 : decide (keyH h ≤ keyH (z k)) = true := by simp; omega
        have g2 : (keyH (z k) != keyH h) = false := by simp; omega
        clear hkp hkk
        obtain ⟨t0, t1, t2, t3⟩ := hT.out wr hB
        obtain ⟨p0, p1, p2, p3⟩ := hd_regrown t0 t1 t2 t3
        simp only [Nat.zero_add] at t1 t2 t3 p1 p2 p3
        obtain ⟨z0, z1, z2, z3⟩ := hK.out wr hB
        obtain ⟨r0, r1, r2, r3⟩ := hd_regrown z0 z1 z2 z3
        go_wp2_with fail
        refine wp_region_quiet_below (by kernel_rfl) (by kernel_rfl) ?_
        repeat (go_big_quiet_step ((go_at_call 123; exact Calls.regrown_of (place_rng _ _ (by first | exact HRZ.out | exact HRH.out)))))
        refine wpQuiet_nil ?_
        intro _ hw'
        obtain ⟨⟨dq, osq⟩, hw''⟩ := hw'
        subst hw''
        have hBwa := below_regrown wr dq osq
        generalize grow (redrawn wr dq) osq = wa at hBwa ⊢
        have hTwa := hB.trans (hBwa.mono (by have := hB.size; simpa using this))
        have ownwa := owns_below hown hBwa
        clear t0 t1 t2 t3 p0 p1 p2 p3 z0 z1 z2 z3 r0 r1 r2 r3 hown hBwa
        obtain ⟨t0, t1, t2, t3⟩ := hT.out wa hTwa
        obtain ⟨p0, p1, p2, p3⟩ := hd_regrown t0 t1 t2 t3
        simp only [Nat.zero_add] at t1 t2 t3 p1 p2 p3
        obtain ⟨z0, z1, z2, z3⟩ := hK.out wa hTwa
        obtain ⟨r0, r1, r2, r3⟩ := hd_regrown z0 z1 z2 z3
        go_wp2_with (at_builtin; refine wpList_append_own _ rfl (.tmp 40) (.tmp 42) 28 rfl (w.heap.size + 1) 65 i0 (.agg #[.int .i64 0, .int .i64 0, .int .i64 0, .int .i64 0]) 4 32 Try.underlying28 hi hz0 hz1 hz2 rfl (by decide) _ _ _ rfl (World.ownsRow.alloc ownwa _) ⟨wa.heap.size, 0, none⟩ 1 1 (hdCells h) rfl rfl (one_news _ _ _) (one_cells _) (by unfold maxLen; omega) (by omega) (by have := hTwa.size; simp at this; simp; omega) ?_; intro vwb wb ownwb hgr hnl)
        have hTwb : Below (w.heap.size + 1) (w.alloc (.cells #[.int .i64 h.o, .int .i64 h.l, .int .i64 h.b, .int .i64 h.n] 65)) wb := (hTwa.alloc (by have := hTwa.size; simpa using this) _).grown hgr (by have := hTwa.size; simp at this; simp; omega) (fun q hq => (World.ownsRow.lt ownwa q hq).1)
        clear hgr hnl t0 t1 t2 t3 p0 p1 p2 p3 z0 z1 z2 z3 r0 r1 r2 r3 ownwa
        obtain ⟨t0, t1, t2, t3⟩ := hT.out wb hTwb
        obtain ⟨p0, p1, p2, p3⟩ := hd_regrown t0 t1 t2 t3
        simp only [Nat.zero_add] at t1 t2 t3 p1 p2 p3
        obtain ⟨z0, z1, z2, z3⟩ := hK.out wb hTwb
        obtain ⟨r0, r1, r2, r3⟩ := hd_regrown z0 z1 z2 z3
        go_wp2_with fail
        refine wp_region_quiet_below (by kernel_rfl) (by kernel_rfl) ?_
        repeat (go_big_quiet_step ((go_at_call 123; exact Calls.regrown_of (place_rng _ _ (by first | exact HRZ.out | exact HRH.out)))))
        refine wpQuiet_nil ?_
        intro _ hw'
        obtain ⟨⟨dq, osq⟩, hw''⟩ := hw'
        subst hw''
        have hBwc := below_regrown wb dq osq
        generalize grow (redrawn wb dq) osq = wc at hBwc ⊢
        have hTwc := hTwb.trans (hBwc.mono (by have := hTwb.size; simpa using this))
        have ownwc := owns_below ownwb hBwc
        clear t0 t1 t2 t3 p0 p1 p2 p3 z0 z1 z2 z3 r0 r1 r2 r3 ownwb hBwc
        go_wp2_with fail
        go_roundw
        case rel => exact ⟨k + 1, by omega, by go_num, by rw [show decide (p < k + 1) = true by have := HKP.out; simp; omega], by rw [flatH_succ, show setZ z p h k = h by unfold setZ; rw [if_pos HKP.out]]; exact ownwc, hTwc⟩
        case measure => simp [intOf]; omega

      · have g3 : decide (p < k) = true := by simp; omega
        have g1 : decide (keyH h ≤ keyH (z k)) = true := by have := HHI.out k hkp hlt; simp; omega
        have g2 : (keyH (z k) != keyH h) = true := by have := HHI.out k hkp hlt; simp; omega
        obtain ⟨t0, t1, t2, t3⟩ := hT.out wr hB
        obtain ⟨p0, p1, p2, p3⟩ := hd_regrown t0 t1 t2 t3
        simp only [Nat.zero_add] at t1 t2 t3 p1 p2 p3
        obtain ⟨z0, z1, z2, z3⟩ := hK.out wr hB
        obtain ⟨r0, r1, r2, r3⟩ := hd_regrown z0 z1 z2 z3
        go_wp2_with fail
        refine wp_region_quiet_below (by kernel_rfl) (by kernel_rfl) ?_
        repeat (go_big_quiet_step ((go_at_call 123; exact Calls.regrown_of (place_rng _ _ (by first | exact HRZ.out | exact HRH.out)))))
        refine wpQuiet_nil ?_
        intro _ hw'
        obtain ⟨⟨dq, osq⟩, hw''⟩ := hw'
        subst hw''
        have hBwa := below_regrown wr dq osq
        generalize grow (redrawn wr dq) osq = wa at hBwa ⊢
        have hTwa := hB.trans (hBwa.mono (by have := hB.size; simpa using this))
        have ownwa := owns_below hown hBwa
        clear t0 t1 t2 t3 p0 p1 p2 p3 z0 z1 z2 z3 r0 r1 r2 r3 hown hBwa
        obtain ⟨t0, t1, t2, t3⟩ := hT.out wa hTwa
        obtain ⟨p0, p1, p2, p3⟩ := hd_regrown t0 t1 t2 t3
        simp only [Nat.zero_add] at t1 t2 t3 p1 p2 p3
        obtain ⟨z0, z1, z2, z3⟩ := hK.out wa hTwa
        obtain ⟨r0, r1, r2, r3⟩ := hd_regrown z0 z1 z2 z3
        go_wp2_with fail
        refine wp_region_quiet_below (by kernel_rfl) (by kernel_rfl) ?_
        repeat (go_big_quiet_step ((go_at_call 123; exact Calls.regrown_of (place_rng _ _ (by first | exact HRZ.out | exact HRH.out)))))
        refine wpQuiet_nil ?_
        intro _ hw'
        obtain ⟨⟨dq, osq⟩, hw''⟩ := hw'
        subst hw''
        have hBwb := below_regrown wa dq osq
        generalize grow (redrawn wa dq) osq = wb at hBwb ⊢
        have hTwb := hTwa.trans (hBwb.mono (by have := hTwa.size; simpa using this))
        have ownwb := owns_below ownwa hBwb
        clear t0 t1 t2 t3 p0 p1 p2 p3 z0 z1 z2 z3 r0 r1 r2 r3 ownwa hBwb
        obtain ⟨t0, t1, t2, t3⟩ := hT.out wb hTwb
        obtain ⟨p0, p1, p2, p3⟩ := hd_regrown t0 t1 t2 t3
        simp only [Nat.zero_add] at t1 t2 t3 p1 p2 p3
        obtain ⟨z0, z1, z2, z3⟩ := hK.out wb hTwb
        obtain ⟨r0, r1, r2, r3⟩ := hd_regrown z0 z1 z2 z3
        go_wp2_with (at_builtin; refine wpList_append_own _ rfl (.tmp 52) (.tmp 57) 28 rfl (w.heap.size + 1) 65 i0 (.agg #[.int .i64 0, .int .i64 0, .int .i64 0, .int .i64 0]) 4 32 Try.underlying28 hi hz0 hz1 hz2 rfl (by decide) _ _ _ rfl (World.ownsRow.alloc ownwb _) ⟨wb.heap.size, 0, none⟩ 1 1 (hdCells (z k)) rfl rfl (one_news _ _ _) (one_cells _) (by unfold maxLen; omega) (by omega) (by have := hTwb.size; simp at this; simp; omega) ?_; intro vwc wc ownwc hgr hnl)
        have hTwc : Below (w.heap.size + 1) (w.alloc (.cells #[.int .i64 h.o, .int .i64 h.l, .int .i64 h.b, .int .i64 h.n] 65)) wc := (hTwb.alloc (by have := hTwb.size; simpa using this) _).grown hgr (by have := hTwb.size; simp at this; simp; omega) (fun q hq => (World.ownsRow.lt ownwb q hq).1)
        clear hgr hnl t0 t1 t2 t3 p0 p1 p2 p3 z0 z1 z2 z3 r0 r1 r2 r3 ownwb
        go_wp2_with fail
        go_roundw
        case rel => exact ⟨k + 1, by omega, by go_num, by rw [show decide (p < k + 1) = true by simp; omega], by rw [flatH_succ, show setZ z p h k = z k by unfold setZ; rw [if_neg (by omega)]]; exact ownwc, hTwc⟩
        case measure => simp [intOf]; omega

    · have hkn : k = n := by omega
      subst hkn
      have g3 : decide (p < k) = true := by simp; omega
      go_wp2_with fail
      go_ret
      obtain ⟨s', e1, e2, e3, e4⟩ := OwnH.ofRow hown (Nat.le_succ _)
      exact ⟨s', by rw [← show u12 = Value.slice s'.a s'.n s'.c from e1]; rfl, e2, e3, e4, hW.out _ hB⟩


def lenI (p k : Nat) : Nat := if k ≤ p then k else k + 1
theorem lenI_le {p k : Nat} (h : k ≤ p) : lenI p k = k := by unfold lenI; rw [if_pos h]
theorem lenI_gt {p k : Nat} (h : p < k) : lenI p k = k + 1 := by unfold lenI; rw [if_neg (by omega)]
def lenD (p k : Nat) : Nat := if k ≤ p then k else k - 1
theorem lenD_le {p k : Nat} (h : k ≤ p) : lenD p k = k := by unfold lenD; rw [if_pos h]
theorem lenD_gt {p k : Nat} (h : p < k) : lenD p k = k - 1 := by unfold lenD; rw [if_neg (by omega)]

set_option maxRecDepth 100000 in
set_option maxHeartbeats 4000000 in
theorem with_insO (s : Hs) (h : Hd) (p : Nat) (w : World) (hs : s.At w) (hr : anyB s.n (badH s.z) = false) (hrng : rngH h) (hp : p ≤ s.n) (heq : p < s.n → keyH h < keyH (s.z p)) (hN : ¬ h.n = 0) (hlo : ∀ j, j < p → keyH (s.z j) < keyH h) (hhi : ∀ j, p < j → j < s.n → keyH h < keyH (s.z j)) :
    Calls Try.prog 102 #[s.val, .int .i64 h.o, .int .i64 h.l, .int .i64 h.b, .int .i64 h.n] w fun e w' => ∃ s' : Hs, e = .returned s'.val ∧ OwnH w.heap.size 65 w' s' ∧ s'.n = s.n + 1 ∧ s'.z = insZ s.z p h ∧ Below w.heap.size w w' := by
  have hlen := right_len hr
  have HF : Hid (∀ j, j < s.n → rngH (s.z j)) := fun j hj => rng_of (right_fine hr j hj)
  clear hr
  obtain ⟨a, n, c, z⟩ := s
  obtain ⟨hn, hc, hz, hnil⟩ := hs
  dsimp only at *
  obtain ⟨i0, hi, hz0, hz1, hz2⟩ := info_parts infoHold
  have HRH : Hid (rngH h) := hrng
  have HLO : Hid (∀ j, j < p → keyH (z j) < keyH h) := hlo
  have HHI : Hid (∀ j, p < j → j < n → keyH h < keyH (z j)) := hhi
  clear hrng hlo hhi
  unfold maxLen at hc
  simp only [Hs.val]
  have hT : Hid (∀ w1, Below (w.heap.size + 1) (w.alloc (.cells #[.int .i64 h.o, .int .i64 h.l, .int .i64 h.b, .int .i64 h.n] 65)) w1 → w1.cell? ⟨w.heap.size, 0, none⟩ = some (.int .i64 h.o) ∧ w1.cell? ⟨w.heap.size, 0 + 1, none⟩ = some (.int .i64 h.l) ∧ w1.cell? ⟨w.heap.size, 0 + 2, none⟩ = some (.int .i64 h.b) ∧ w1.cell? ⟨w.heap.size, 0 + 3, none⟩ = some (.int .i64 h.n)) := fun w1 hb =>
    ⟨(hb.cell (p := ⟨w.heap.size, 0, none⟩) (by simp)).trans (by simp), (hb.cell (p := ⟨w.heap.size, 1, none⟩) (by simp)).trans (by simp), (hb.cell (p := ⟨w.heap.size, 2, none⟩) (by simp)).trans (by simp), (hb.cell (p := ⟨w.heap.size, 3, none⟩) (by simp)).trans (by simp)⟩
  have hW : Hid (∀ w1, Below (w.heap.size + 1) (w.alloc (.cells #[.int .i64 h.o, .int .i64 h.l, .int .i64 h.b, .int .i64 h.n] 65)) w1 → Below w.heap.size w w1) := fun w1 hb => ((Below.refl _ _).alloc (Nat.le_refl _) _).trans (hb.mono (by omega))
  have HEQ : Hid (p < n → keyH h < keyH (z p)) := heq
  clear heq
  have hN1 : (h.n == 0) = false := by simpa using hN
  go_enter Try.func102, Try.ntmps102
  go_wp2_with fail
  go_loopw [12, 13, 14] (fun v dn i wk => ∃ k : Nat, k ≤ n ∧ i = .int .i64 k ∧ dn = .bool (decide (p < k)) ∧ wk.ownsRow (w.heap.size + 1) 65 4 v (lenI p k) (flatH (lenI p k) (insZ z p h)) ∧ Below (w.heap.size + 1) (w.alloc (.cells #[.int .i64 h.o, .int .i64 h.l, .int .i64 h.b, .int .i64 h.n] 65)) wk) (fun _ _ i _ => n - (intOf i).toNat)
  case atStart => exact ⟨0, Nat.zero_le _, rfl, by simp, by rw [lenI_le (Nat.zero_le _)]; exact World.ownsRow_nil _ _ _ _, Below.refl _ _⟩
  case round =>
    obtain ⟨k, hk, rfl, rfl, hown, hB⟩ := hrel
    have hsz : w.heap.size + 1 ≤ wr.heap.size := by have := hB.size; simpa using this
    by_cases hlt : k < n
    · have HRZ : Hid (rngH (z k)) := HF.out k hlt
      have hzk := hz k hlt
      obtain ⟨bb, oo, ha, hbb, _⟩ := hzk
      subst ha
      have hK : Hid (∀ w1, Below (w.heap.size + 1) (w.alloc (.cells #[.int .i64 h.o, .int .i64 h.l, .int .i64 h.b, .int .i64 h.n] 65)) w1 → w1.cell? ⟨bb, oo + k * 4, none⟩ = some (.int .i64 (z k).o) ∧ w1.cell? ⟨bb, oo + k * 4 + 1, none⟩ = some (.int .i64 (z k).l) ∧ w1.cell? ⟨bb, oo + k * 4 + 2, none⟩ = some (.int .i64 (z k).b) ∧ w1.cell? ⟨bb, oo + k * 4 + 3, none⟩ = some (.int .i64 (z k).n)) := fun w1 hb => by
        obtain ⟨b', o', he, _, q0, q1, q2, q3⟩ := (hz.below (hW.out w1 hb)) k hlt
        simp only [Option.some.injEq, Addr.mk.injEq, and_true] at he
        obtain ⟨rfl, rfl⟩ := he
        exact ⟨q0, q1, q2, q3⟩
      have m1 : (0 : Int) ≤ (k : Int) := by omega
      have m2 : (k : Int) < (n : Int) := by omega
      rcases Nat.lt_trichotomy k p with hkp | hkp | hkp
      · have g3 : decide (p < k) = false := by simp; omega
        have g1 : decide (keyH h ≤ keyH (z k)) = false := by have := HLO.out k hkp; simp; omega
        have g2 : (keyH (z k) != keyH h) = true := by have := HLO.out k hkp; simp; omega
        rw [lenI_le (Nat.le_of_lt hkp)] at hown
        obtain ⟨t0, t1, t2, t3⟩ := hT.out wr hB
        obtain ⟨p0, p1, p2, p3⟩ := hd_regrown t0 t1 t2 t3
        simp only [Nat.zero_add] at t1 t2 t3 p1 p2 p3
        obtain ⟨z0, z1, z2, z3⟩ := hK.out wr hB
        obtain ⟨r0, r1, r2, r3⟩ := hd_regrown z0 z1 z2 z3
        go_wp2_with fail
        refine wp_region_quiet_below (by kernel_rfl) (by kernel_rfl) ?_
        repeat (go_big_quiet_step ((go_at_call 123; exact Calls.regrown_of (place_rng _ _ (by first | exact HRZ.out | exact HRH.out)))))
        refine wpQuiet_nil ?_
        intro _ hw'
        obtain ⟨⟨dq, osq⟩, hw''⟩ := hw'
        subst hw''
        have hBwa := below_regrown wr dq osq
        generalize grow (redrawn wr dq) osq = wa at hBwa ⊢
        have hTwa := hB.trans (hBwa.mono (by have := hB.size; simpa using this))
        have ownwa := owns_below hown hBwa
        clear t0 t1 t2 t3 p0 p1 p2 p3 z0 z1 z2 z3 r0 r1 r2 r3 hown hBwa
        obtain ⟨t0, t1, t2, t3⟩ := hT.out wa hTwa
        obtain ⟨p0, p1, p2, p3⟩ := hd_regrown t0 t1 t2 t3
        simp only [Nat.zero_add] at t1 t2 t3 p1 p2 p3
        obtain ⟨z0, z1, z2, z3⟩ := hK.out wa hTwa
        obtain ⟨r0, r1, r2, r3⟩ := hd_regrown z0 z1 z2 z3
        go_wp2_with fail
        refine wp_region_quiet_below (by kernel_rfl) (by kernel_rfl) ?_
        repeat (go_big_quiet_step ((go_at_call 123; exact Calls.regrown_of (place_rng _ _ (by first | exact HRZ.out | exact HRH.out)))))
        refine wpQuiet_nil ?_
        intro _ hw'
        obtain ⟨⟨dq, osq⟩, hw''⟩ := hw'
        subst hw''
        have hBwb := below_regrown wa dq osq
        generalize grow (redrawn wa dq) osq = wb at hBwb ⊢
        have hTwb := hTwa.trans (hBwb.mono (by have := hTwa.size; simpa using this))
        have ownwb := owns_below ownwa hBwb
        clear t0 t1 t2 t3 p0 p1 p2 p3 z0 z1 z2 z3 r0 r1 r2 r3 ownwa hBwb
        obtain ⟨t0, t1, t2, t3⟩ := hT.out wb hTwb
        obtain ⟨p0, p1, p2, p3⟩ := hd_regrown t0 t1 t2 t3
        simp only [Nat.zero_add] at t1 t2 t3 p1 p2 p3
        obtain ⟨z0, z1, z2, z3⟩ := hK.out wb hTwb
        obtain ⟨r0, r1, r2, r3⟩ := hd_regrown z0 z1 z2 z3
        go_wp2_with (at_builtin; refine wpList_append_own _ rfl (.tmp 52) (.tmp 57) 28 rfl (w.heap.size + 1) 65 i0 (.agg #[.int .i64 0, .int .i64 0, .int .i64 0, .int .i64 0]) 4 32 Try.underlying28 hi hz0 hz1 hz2 rfl (by decide) _ _ _ rfl (World.ownsRow.alloc ownwb _) ⟨wb.heap.size, 0, none⟩ 1 1 (hdCells (z k)) rfl rfl (one_news _ _ _) (one_cells _) (by unfold maxLen; omega) (by omega) (by have := hTwb.size; simp at this; simp; omega) ?_; intro vwc wc ownwc hgr hnl)
        have hTwc : Below (w.heap.size + 1) (w.alloc (.cells #[.int .i64 h.o, .int .i64 h.l, .int .i64 h.b, .int .i64 h.n] 65)) wc := (hTwb.alloc (by have := hTwb.size; simpa using this) _).grown hgr (by have := hTwb.size; simp at this; simp; omega) (fun q hq => (World.ownsRow.lt ownwb q hq).1)
        clear hgr hnl t0 t1 t2 t3 p0 p1 p2 p3 z0 z1 z2 z3 r0 r1 r2 r3 ownwb
        go_wp2_with fail
        go_roundw
        case rel => exact ⟨k + 1, by omega, by go_num, by rw [show decide (p < k + 1) = false by simp; omega], by rw [lenI_le (by omega), flatH_succ, show insZ z p h k = z k by unfold insZ; rw [if_pos hkp]]; exact ownwc, hTwc⟩
        case measure => simp [intOf]; omega

      · have g3 : decide (p < k) = false := by simp; omega
        have hkk : keyH h < keyH (z k) := by have := HEQ.out (by omega); rw [← hkp] at this; exact this
        have HKP : Hid (k = p) := hkp
        have g1 : decide (keyH h ≤ keyH (z k)) = true := by simp; omega
        have g2 : (keyH (z k) != keyH h) = true := by simp; omega
        rw [lenI_le (Nat.le_of_eq hkp)] at hown
        clear hkp hkk
        obtain ⟨t0, t1, t2, t3⟩ := hT.out wr hB
        obtain ⟨p0, p1, p2, p3⟩ := hd_regrown t0 t1 t2 t3
        simp only [Nat.zero_add] at t1 t2 t3 p1 p2 p3
        obtain ⟨z0, z1, z2, z3⟩ := hK.out wr hB
        obtain ⟨r0, r1, r2, r3⟩ := hd_regrown z0 z1 z2 z3
        go_wp2_with fail
        refine wp_region_quiet_below (by kernel_rfl) (by kernel_rfl) ?_
        repeat (go_big_quiet_step ((go_at_call 123; exact Calls.regrown_of (place_rng _ _ (by first | exact HRZ.out | exact HRH.out)))))
        refine wpQuiet_nil ?_
        intro _ hw'
        obtain ⟨⟨dq, osq⟩, hw''⟩ := hw'
        subst hw''
        have hBwa := below_regrown wr dq osq
        generalize grow (redrawn wr dq) osq = wa at hBwa ⊢
        have hTwa := hB.trans (hBwa.mono (by have := hB.size; simpa using this))
        have ownwa := owns_below hown hBwa
        clear t0 t1 t2 t3 p0 p1 p2 p3 z0 z1 z2 z3 r0 r1 r2 r3 hown hBwa
        obtain ⟨t0, t1, t2, t3⟩ := hT.out wa hTwa
        obtain ⟨p0, p1, p2, p3⟩ := hd_regrown t0 t1 t2 t3
        simp only [Nat.zero_add] at t1 t2 t3 p1 p2 p3
        obtain ⟨z0, z1, z2, z3⟩ := hK.out wa hTwa
        obtain ⟨r0, r1, r2, r3⟩ := hd_regrown z0 z1 z2 z3
        go_wp2_with (at_builtin; refine wpList_append_own _ rfl (.tmp 40) (.tmp 42) 28 rfl (w.heap.size + 1) 65 i0 (.agg #[.int .i64 0, .int .i64 0, .int .i64 0, .int .i64 0]) 4 32 Try.underlying28 hi hz0 hz1 hz2 rfl (by decide) _ _ _ rfl (World.ownsRow.alloc ownwa _) ⟨wa.heap.size, 0, none⟩ 1 1 (hdCells h) rfl rfl (one_news _ _ _) (one_cells _) (by unfold maxLen; omega) (by omega) (by have := hTwa.size; simp at this; simp; omega) ?_; intro vwb wb ownwb hgr hnl)
        have hTwb : Below (w.heap.size + 1) (w.alloc (.cells #[.int .i64 h.o, .int .i64 h.l, .int .i64 h.b, .int .i64 h.n] 65)) wb := (hTwa.alloc (by have := hTwa.size; simpa using this) _).grown hgr (by have := hTwa.size; simp at this; simp; omega) (fun q hq => (World.ownsRow.lt ownwa q hq).1)
        clear hgr hnl t0 t1 t2 t3 p0 p1 p2 p3 z0 z1 z2 z3 r0 r1 r2 r3 ownwa
        obtain ⟨t0, t1, t2, t3⟩ := hT.out wb hTwb
        obtain ⟨p0, p1, p2, p3⟩ := hd_regrown t0 t1 t2 t3
        simp only [Nat.zero_add] at t1 t2 t3 p1 p2 p3
        obtain ⟨z0, z1, z2, z3⟩ := hK.out wb hTwb
        obtain ⟨r0, r1, r2, r3⟩ := hd_regrown z0 z1 z2 z3
        go_wp2_with fail
        refine wp_region_quiet_below (by kernel_rfl) (by kernel_rfl) ?_
        repeat (go_big_quiet_step ((go_at_call 123; exact Calls.regrown_of (place_rng _ _ (by first | exact HRZ.out | exact HRH.out)))))
        refine wpQuiet_nil ?_
        intro _ hw'
        obtain ⟨⟨dq, osq⟩, hw''⟩ := hw'
        subst hw''
        have hBwc := below_regrown wb dq osq
        generalize grow (redrawn wb dq) osq = wc at hBwc ⊢
        have hTwc := hTwb.trans (hBwc.mono (by have := hTwb.size; simpa using this))
        have ownwc := owns_below ownwb hBwc
        clear t0 t1 t2 t3 p0 p1 p2 p3 z0 z1 z2 z3 r0 r1 r2 r3 ownwb hBwc
        obtain ⟨t0, t1, t2, t3⟩ := hT.out wc hTwc
        obtain ⟨p0, p1, p2, p3⟩ := hd_regrown t0 t1 t2 t3
        simp only [Nat.zero_add] at t1 t2 t3 p1 p2 p3
        obtain ⟨z0, z1, z2, z3⟩ := hK.out wc hTwc
        obtain ⟨r0, r1, r2, r3⟩ := hd_regrown z0 z1 z2 z3
        go_wp2_with (at_builtin; refine wpList_append_own _ rfl (.tmp 52) (.tmp 57) 28 rfl (w.heap.size + 1) 65 i0 (.agg #[.int .i64 0, .int .i64 0, .int .i64 0, .int .i64 0]) 4 32 Try.underlying28 hi hz0 hz1 hz2 rfl (by decide) _ _ _ rfl (World.ownsRow.alloc ownwc _) ⟨wc.heap.size, 0, none⟩ 1 1 (hdCells (z k)) rfl rfl (one_news _ _ _) (one_cells _) (by unfold maxLen; omega) (by omega) (by have := hTwc.size; simp at this; simp; omega) ?_; intro vwd wd ownwd hgr hnl)
        have hTwd : Below (w.heap.size + 1) (w.alloc (.cells #[.int .i64 h.o, .int .i64 h.l, .int .i64 h.b, .int .i64 h.n] 65)) wd := (hTwc.alloc (by have := hTwc.size; simpa using this) _).grown hgr (by have := hTwc.size; simp at this; simp; omega) (fun q hq => (World.ownsRow.lt ownwc q hq).1)
        clear hgr hnl t0 t1 t2 t3 p0 p1 p2 p3 z0 z1 z2 z3 r0 r1 r2 r3 ownwc
        go_wp2_with fail
        go_roundw
        case rel => exact ⟨k + 1, by omega, by go_num, by rw [show decide (p < k + 1) = true by have := HKP.out; simp; omega], by rw [lenI_gt (by have := HKP.out; omega), flatH_succ, flatH_succ, show insZ z p h k = h by unfold insZ; rw [if_neg (by have := HKP.out; omega), if_pos HKP.out], show insZ z p h (k + 1) = z k by unfold insZ; rw [if_neg (by have := HKP.out; omega), if_neg (by have := HKP.out; omega)]; rfl]; exact ownwd, hTwd⟩
        case measure => simp [intOf]; omega

      · have g3 : decide (p < k) = true := by simp; omega
        have g1 : decide (keyH h ≤ keyH (z k)) = true := by have := HHI.out k hkp hlt; simp; omega
        have g2 : (keyH (z k) != keyH h) = true := by have := HHI.out k hkp hlt; simp; omega
        rw [lenI_gt hkp] at hown
        obtain ⟨t0, t1, t2, t3⟩ := hT.out wr hB
        obtain ⟨p0, p1, p2, p3⟩ := hd_regrown t0 t1 t2 t3
        simp only [Nat.zero_add] at t1 t2 t3 p1 p2 p3
        obtain ⟨z0, z1, z2, z3⟩ := hK.out wr hB
        obtain ⟨r0, r1, r2, r3⟩ := hd_regrown z0 z1 z2 z3
        go_wp2_with fail
        refine wp_region_quiet_below (by kernel_rfl) (by kernel_rfl) ?_
        repeat (go_big_quiet_step ((go_at_call 123; exact Calls.regrown_of (place_rng _ _ (by first | exact HRZ.out | exact HRH.out)))))
        refine wpQuiet_nil ?_
        intro _ hw'
        obtain ⟨⟨dq, osq⟩, hw''⟩ := hw'
        subst hw''
        have hBwa := below_regrown wr dq osq
        generalize grow (redrawn wr dq) osq = wa at hBwa ⊢
        have hTwa := hB.trans (hBwa.mono (by have := hB.size; simpa using this))
        have ownwa := owns_below hown hBwa
        clear t0 t1 t2 t3 p0 p1 p2 p3 z0 z1 z2 z3 r0 r1 r2 r3 hown hBwa
        obtain ⟨t0, t1, t2, t3⟩ := hT.out wa hTwa
        obtain ⟨p0, p1, p2, p3⟩ := hd_regrown t0 t1 t2 t3
        simp only [Nat.zero_add] at t1 t2 t3 p1 p2 p3
        obtain ⟨z0, z1, z2, z3⟩ := hK.out wa hTwa
        obtain ⟨r0, r1, r2, r3⟩ := hd_regrown z0 z1 z2 z3
        go_wp2_with fail
        refine wp_region_quiet_below (by kernel_rfl) (by kernel_rfl) ?_
        repeat (go_big_quiet_step ((go_at_call 123; exact Calls.regrown_of (place_rng _ _ (by first | exact HRZ.out | exact HRH.out)))))
        refine wpQuiet_nil ?_
        intro _ hw'
        obtain ⟨⟨dq, osq⟩, hw''⟩ := hw'
        subst hw''
        have hBwb := below_regrown wa dq osq
        generalize grow (redrawn wa dq) osq = wb at hBwb ⊢
        have hTwb := hTwa.trans (hBwb.mono (by have := hTwa.size; simpa using this))
        have ownwb := owns_below ownwa hBwb
        clear t0 t1 t2 t3 p0 p1 p2 p3 z0 z1 z2 z3 r0 r1 r2 r3 ownwa hBwb
        obtain ⟨t0, t1, t2, t3⟩ := hT.out wb hTwb
        obtain ⟨p0, p1, p2, p3⟩ := hd_regrown t0 t1 t2 t3
        simp only [Nat.zero_add] at t1 t2 t3 p1 p2 p3
        obtain ⟨z0, z1, z2, z3⟩ := hK.out wb hTwb
        obtain ⟨r0, r1, r2, r3⟩ := hd_regrown z0 z1 z2 z3
        go_wp2_with (at_builtin; refine wpList_append_own _ rfl (.tmp 52) (.tmp 57) 28 rfl (w.heap.size + 1) 65 i0 (.agg #[.int .i64 0, .int .i64 0, .int .i64 0, .int .i64 0]) 4 32 Try.underlying28 hi hz0 hz1 hz2 rfl (by decide) _ _ _ rfl (World.ownsRow.alloc ownwb _) ⟨wb.heap.size, 0, none⟩ 1 1 (hdCells (z k)) rfl rfl (one_news _ _ _) (one_cells _) (by unfold maxLen; omega) (by omega) (by have := hTwb.size; simp at this; simp; omega) ?_; intro vwc wc ownwc hgr hnl)
        have hTwc : Below (w.heap.size + 1) (w.alloc (.cells #[.int .i64 h.o, .int .i64 h.l, .int .i64 h.b, .int .i64 h.n] 65)) wc := (hTwb.alloc (by have := hTwb.size; simpa using this) _).grown hgr (by have := hTwb.size; simp at this; simp; omega) (fun q hq => (World.ownsRow.lt ownwb q hq).1)
        clear hgr hnl t0 t1 t2 t3 p0 p1 p2 p3 z0 z1 z2 z3 r0 r1 r2 r3 ownwb
        go_wp2_with fail
        go_roundw
        case rel => exact ⟨k + 1, by omega, by go_num, by rw [show decide (p < k + 1) = true by simp; omega], by rw [lenI_gt (by omega), flatH_succ, show insZ z p h (k + 1) = z k by unfold insZ; rw [if_neg (by omega), if_neg (by omega)]; rfl]; exact ownwc, hTwc⟩
        case measure => simp [intOf]; omega

    · have hkn : k = n := by omega
      subst hkn
      by_cases hpk : p < k
      · have g3 : decide (p < k) = true := by simp; omega
        rw [lenI_gt hpk] at hown
        go_wp2_with fail
        go_ret
        obtain ⟨s', e1, e2, e3, e4⟩ := OwnH.ofRow hown (Nat.le_succ _)
        exact ⟨s', by rw [← show u12 = Value.slice s'.a s'.n s'.c from e1]; rfl, e2, e3, e4, hW.out _ hB⟩
      · have hpk2 : p = k := by omega
        have HPK : Hid (p = k) := hpk2
        have g3 : decide (p < k) = false := by simp; omega
        rw [lenI_le (Nat.le_of_eq hpk2.symm)] at hown
        clear hpk2
        obtain ⟨t0, t1, t2, t3⟩ := hT.out wr hB
        simp only [Nat.zero_add] at t1 t2 t3
        go_wp2_with (at_builtin; refine wpList_append_own _ rfl (.tmp 61) (.tmp 63) 28 rfl (w.heap.size + 1) 65 i0 (.agg #[.int .i64 0, .int .i64 0, .int .i64 0, .int .i64 0]) 4 32 Try.underlying28 hi hz0 hz1 hz2 rfl (by decide) _ _ _ rfl (World.ownsRow.alloc hown _) ⟨wr.heap.size, 0, none⟩ 1 1 (hdCells h) rfl rfl (one_news _ _ _) (one_cells _) (by unfold maxLen; omega) (by omega) (by have := hB.size; simp at this; simp; omega) ?_; intro vwn wn ownwn hgr hnl)
        have hTwn : Below (w.heap.size + 1) (w.alloc (.cells #[.int .i64 h.o, .int .i64 h.l, .int .i64 h.b, .int .i64 h.n] 65)) wn := (hB.alloc (by have := hB.size; simpa using this) _).grown hgr (by have := hB.size; simp at this; simp; omega) (fun q hq => (World.ownsRow.lt hown q hq).1)
        clear hgr hnl
        go_wp2_with fail
        go_ret
        have ownwn' : wn.ownsRow (w.heap.size + 1) 65 4 vwn (k + 1) (flatH (k + 1) (insZ z p h)) := by
          rw [flatH_succ, show insZ z p h k = h by unfold insZ; rw [if_neg (by have := HPK.out; omega), if_pos HPK.out.symm]]
          exact ownwn
        obtain ⟨s', e1, e2, e3, e4⟩ := OwnH.ofRow ownwn' (Nat.le_succ _)
        exact ⟨s', by rw [← show vwn = Value.slice s'.a s'.n s'.c from e1]; rfl, e2, e3, e4, hW.out _ hTwn⟩


set_option maxRecDepth 100000 in
set_option maxHeartbeats 4000000 in
theorem with_dropO (s : Hs) (h : Hd) (p : Nat) (w : World) (hs : s.At w) (hr : anyB s.n (badH s.z) = false) (hrng : rngH h) (hp : p < s.n) (heq : keyH (s.z p) = keyH h) (hN : h.n = 0) (hlo : ∀ j, j < p → keyH (s.z j) < keyH h) (hhi : ∀ j, p < j → j < s.n → keyH h < keyH (s.z j)) :
    Calls Try.prog 102 #[s.val, .int .i64 h.o, .int .i64 h.l, .int .i64 h.b, .int .i64 h.n] w fun e w' => ∃ s' : Hs, e = .returned s'.val ∧ OwnH w.heap.size 65 w' s' ∧ s'.n = s.n - 1 ∧ s'.z = dropZ s.z p ∧ Below w.heap.size w w' := by
  have hlen := right_len hr
  have HF : Hid (∀ j, j < s.n → rngH (s.z j)) := fun j hj => rng_of (right_fine hr j hj)
  clear hr
  obtain ⟨a, n, c, z⟩ := s
  obtain ⟨hn, hc, hz, hnil⟩ := hs
  dsimp only at *
  obtain ⟨i0, hi, hz0, hz1, hz2⟩ := info_parts infoHold
  have HRH : Hid (rngH h) := hrng
  have HLO : Hid (∀ j, j < p → keyH (z j) < keyH h) := hlo
  have HHI : Hid (∀ j, p < j → j < n → keyH h < keyH (z j)) := hhi
  clear hrng hlo hhi
  unfold maxLen at hc
  simp only [Hs.val]
  have hT : Hid (∀ w1, Below (w.heap.size + 1) (w.alloc (.cells #[.int .i64 h.o, .int .i64 h.l, .int .i64 h.b, .int .i64 h.n] 65)) w1 → w1.cell? ⟨w.heap.size, 0, none⟩ = some (.int .i64 h.o) ∧ w1.cell? ⟨w.heap.size, 0 + 1, none⟩ = some (.int .i64 h.l) ∧ w1.cell? ⟨w.heap.size, 0 + 2, none⟩ = some (.int .i64 h.b) ∧ w1.cell? ⟨w.heap.size, 0 + 3, none⟩ = some (.int .i64 h.n)) := fun w1 hb =>
    ⟨(hb.cell (p := ⟨w.heap.size, 0, none⟩) (by simp)).trans (by simp), (hb.cell (p := ⟨w.heap.size, 1, none⟩) (by simp)).trans (by simp), (hb.cell (p := ⟨w.heap.size, 2, none⟩) (by simp)).trans (by simp), (hb.cell (p := ⟨w.heap.size, 3, none⟩) (by simp)).trans (by simp)⟩
  have hW : Hid (∀ w1, Below (w.heap.size + 1) (w.alloc (.cells #[.int .i64 h.o, .int .i64 h.l, .int .i64 h.b, .int .i64 h.n] 65)) w1 → Below w.heap.size w w1) := fun w1 hb => ((Below.refl _ _).alloc (Nat.le_refl _) _).trans (hb.mono (by omega))
  have HEQ : Hid (keyH (z p) = keyH h) := heq
  clear heq
  have hN1 : (h.n == 0) = true := by simpa using hN
  clear hN
  go_enter Try.func102, Try.ntmps102
  go_wp2_with fail
  go_loopw [12, 13, 14] (fun v dn i wk => ∃ k : Nat, k ≤ n ∧ i = .int .i64 k ∧ dn = .bool (true) ∧ wk.ownsRow (w.heap.size + 1) 65 4 v (lenD p k) (flatH (lenD p k) (dropZ z p)) ∧ Below (w.heap.size + 1) (w.alloc (.cells #[.int .i64 h.o, .int .i64 h.l, .int .i64 h.b, .int .i64 h.n] 65)) wk) (fun _ _ i _ => n - (intOf i).toNat)
  case atStart => exact ⟨0, Nat.zero_le _, rfl, by simp, by rw [lenD_le (Nat.zero_le _)]; exact World.ownsRow_nil _ _ _ _, Below.refl _ _⟩
  case round =>
    obtain ⟨k, hk, rfl, rfl, hown, hB⟩ := hrel
    have hsz : w.heap.size + 1 ≤ wr.heap.size := by have := hB.size; simpa using this
    by_cases hlt : k < n
    · have HRZ : Hid (rngH (z k)) := HF.out k hlt
      have hzk := hz k hlt
      obtain ⟨bb, oo, ha, hbb, _⟩ := hzk
      subst ha
      have hK : Hid (∀ w1, Below (w.heap.size + 1) (w.alloc (.cells #[.int .i64 h.o, .int .i64 h.l, .int .i64 h.b, .int .i64 h.n] 65)) w1 → w1.cell? ⟨bb, oo + k * 4, none⟩ = some (.int .i64 (z k).o) ∧ w1.cell? ⟨bb, oo + k * 4 + 1, none⟩ = some (.int .i64 (z k).l) ∧ w1.cell? ⟨bb, oo + k * 4 + 2, none⟩ = some (.int .i64 (z k).b) ∧ w1.cell? ⟨bb, oo + k * 4 + 3, none⟩ = some (.int .i64 (z k).n)) := fun w1 hb => by
        obtain ⟨b', o', he, _, q0, q1, q2, q3⟩ := (hz.below (hW.out w1 hb)) k hlt
        simp only [Option.some.injEq, Addr.mk.injEq, and_true] at he
        obtain ⟨rfl, rfl⟩ := he
        exact ⟨q0, q1, q2, q3⟩
      have m1 : (0 : Int) ≤ (k : Int) := by omega
      have m2 : (k : Int) < (n : Int) := by omega
      rcases Nat.lt_trichotomy k p with hkp | hkp | hkp
      · have g1 : decide (keyH h ≤ keyH (z k)) = false := by have := HLO.out k hkp; simp; omega
        have g2 : (keyH (z k) != keyH h) = true := by have := HLO.out k hkp; simp; omega
        rw [lenD_le (Nat.le_of_lt hkp)] at hown
        obtain ⟨t0, t1, t2, t3⟩ := hT.out wr hB
        obtain ⟨p0, p1, p2, p3⟩ := hd_regrown t0 t1 t2 t3
        simp only [Nat.zero_add] at t1 t2 t3 p1 p2 p3
        obtain ⟨z0, z1, z2, z3⟩ := hK.out wr hB
        obtain ⟨r0, r1, r2, r3⟩ := hd_regrown z0 z1 z2 z3
        go_wp2_with fail
        refine wp_region_quiet_below (by kernel_rfl) (by kernel_rfl) ?_
        repeat (go_big_quiet_step ((go_at_call 123; exact Calls.regrown_of (place_rng _ _ (by first | exact HRZ.out | exact HRH.out)))))
        refine wpQuiet_nil ?_
        intro _ hw'
        obtain ⟨⟨dq, osq⟩, hw''⟩ := hw'
        subst hw''
        have hBwa := below_regrown wr dq osq
        generalize grow (redrawn wr dq) osq = wa at hBwa ⊢
        have hTwa := hB.trans (hBwa.mono (by have := hB.size; simpa using this))
        have ownwa := owns_below hown hBwa
        clear t0 t1 t2 t3 p0 p1 p2 p3 z0 z1 z2 z3 r0 r1 r2 r3 hown hBwa
        obtain ⟨t0, t1, t2, t3⟩ := hT.out wa hTwa
        obtain ⟨p0, p1, p2, p3⟩ := hd_regrown t0 t1 t2 t3
        simp only [Nat.zero_add] at t1 t2 t3 p1 p2 p3
        obtain ⟨z0, z1, z2, z3⟩ := hK.out wa hTwa
        obtain ⟨r0, r1, r2, r3⟩ := hd_regrown z0 z1 z2 z3
        go_wp2_with fail
        refine wp_region_quiet_below (by kernel_rfl) (by kernel_rfl) ?_
        repeat (go_big_quiet_step ((go_at_call 123; exact Calls.regrown_of (place_rng _ _ (by first | exact HRZ.out | exact HRH.out)))))
        refine wpQuiet_nil ?_
        intro _ hw'
        obtain ⟨⟨dq, osq⟩, hw''⟩ := hw'
        subst hw''
        have hBwb := below_regrown wa dq osq
        generalize grow (redrawn wa dq) osq = wb at hBwb ⊢
        have hTwb := hTwa.trans (hBwb.mono (by have := hTwa.size; simpa using this))
        have ownwb := owns_below ownwa hBwb
        clear t0 t1 t2 t3 p0 p1 p2 p3 z0 z1 z2 z3 r0 r1 r2 r3 ownwa hBwb
        obtain ⟨t0, t1, t2, t3⟩ := hT.out wb hTwb
        obtain ⟨p0, p1, p2, p3⟩ := hd_regrown t0 t1 t2 t3
        simp only [Nat.zero_add] at t1 t2 t3 p1 p2 p3
        obtain ⟨z0, z1, z2, z3⟩ := hK.out wb hTwb
        obtain ⟨r0, r1, r2, r3⟩ := hd_regrown z0 z1 z2 z3
        go_wp2_with (at_builtin; refine wpList_append_own _ rfl (.tmp 52) (.tmp 57) 28 rfl (w.heap.size + 1) 65 i0 (.agg #[.int .i64 0, .int .i64 0, .int .i64 0, .int .i64 0]) 4 32 Try.underlying28 hi hz0 hz1 hz2 rfl (by decide) _ _ _ rfl (World.ownsRow.alloc ownwb _) ⟨wb.heap.size, 0, none⟩ 1 1 (hdCells (z k)) rfl rfl (one_news _ _ _) (one_cells _) (by unfold maxLen; omega) (by omega) (by have := hTwb.size; simp at this; simp; omega) ?_; intro vwc wc ownwc hgr hnl)
        have hTwc : Below (w.heap.size + 1) (w.alloc (.cells #[.int .i64 h.o, .int .i64 h.l, .int .i64 h.b, .int .i64 h.n] 65)) wc := (hTwb.alloc (by have := hTwb.size; simpa using this) _).grown hgr (by have := hTwb.size; simp at this; simp; omega) (fun q hq => (World.ownsRow.lt ownwb q hq).1)
        clear hgr hnl t0 t1 t2 t3 p0 p1 p2 p3 z0 z1 z2 z3 r0 r1 r2 r3 ownwb
        go_wp2_with fail
        go_roundw
        case rel => exact ⟨k + 1, by omega, by go_num, by rfl, by rw [lenD_le (by omega), flatH_succ, show dropZ z p k = z k by unfold dropZ; rw [if_pos hkp]]; exact ownwc, hTwc⟩
        case measure => simp [intOf]; omega

      · have hkk : keyH (z k) = keyH h := by rw [hkp]; exact HEQ.out
        have HKP : Hid (k = p) := hkp
        have g2 : (keyH (z k) != keyH h) = false := by simp; omega
        rw [lenD_le (Nat.le_of_eq hkp)] at hown
        clear hkp hkk
        obtain ⟨t0, t1, t2, t3⟩ := hT.out wr hB
        obtain ⟨p0, p1, p2, p3⟩ := hd_regrown t0 t1 t2 t3
        simp only [Nat.zero_add] at t1 t2 t3 p1 p2 p3
        obtain ⟨z0, z1, z2, z3⟩ := hK.out wr hB
        obtain ⟨r0, r1, r2, r3⟩ := hd_regrown z0 z1 z2 z3
        go_wp2_with fail
        refine wp_region_quiet_below (by kernel_rfl) (by kernel_rfl) ?_
        repeat (go_big_quiet_step ((go_at_call 123; exact Calls.regrown_of (place_rng _ _ (by first | exact HRZ.out | exact HRH.out)))))
        refine wpQuiet_nil ?_
        intro _ hw'
        obtain ⟨⟨dq, osq⟩, hw''⟩ := hw'
        subst hw''
        have hBwa := below_regrown wr dq osq
        generalize grow (redrawn wr dq) osq = wa at hBwa ⊢
        have hTwa := hB.trans (hBwa.mono (by have := hB.size; simpa using this))
        have ownwa := owns_below hown hBwa
        clear t0 t1 t2 t3 p0 p1 p2 p3 z0 z1 z2 z3 r0 r1 r2 r3 hown hBwa
        obtain ⟨t0, t1, t2, t3⟩ := hT.out wa hTwa
        obtain ⟨p0, p1, p2, p3⟩ := hd_regrown t0 t1 t2 t3
        simp only [Nat.zero_add] at t1 t2 t3 p1 p2 p3
        obtain ⟨z0, z1, z2, z3⟩ := hK.out wa hTwa
        obtain ⟨r0, r1, r2, r3⟩ := hd_regrown z0 z1 z2 z3
        go_wp2_with fail
        refine wp_region_quiet_below (by kernel_rfl) (by kernel_rfl) ?_
        repeat (go_big_quiet_step ((go_at_call 123; exact Calls.regrown_of (place_rng _ _ (by first | exact HRZ.out | exact HRH.out)))))
        refine wpQuiet_nil ?_
        intro _ hw'
        obtain ⟨⟨dq, osq⟩, hw''⟩ := hw'
        subst hw''
        have hBwb := below_regrown wa dq osq
        generalize grow (redrawn wa dq) osq = wb at hBwb ⊢
        have hTwb := hTwa.trans (hBwb.mono (by have := hTwa.size; simpa using this))
        have ownwb := owns_below ownwa hBwb
        clear t0 t1 t2 t3 p0 p1 p2 p3 z0 z1 z2 z3 r0 r1 r2 r3 ownwa hBwb
        go_wp2_with fail
        go_roundw
        case rel => exact ⟨k + 1, by omega, by go_num, by rfl, by rw [lenD_gt (by have := HKP.out; omega), Nat.add_sub_cancel]; exact ownwb, hTwb⟩
        case measure => simp [intOf]; omega

      · have g1 : decide (keyH h ≤ keyH (z k)) = true := by have := HHI.out k hkp hlt; simp; omega
        have g2 : (keyH (z k) != keyH h) = true := by have := HHI.out k hkp hlt; simp; omega
        obtain ⟨q1, hq1⟩ : ∃ q1, k = q1 + 1 := ⟨k - 1, by omega⟩
        rw [lenD_gt hkp, show k - 1 = q1 by omega] at hown
        have HQ1 : Hid (k = q1 + 1) := hq1
        have hq2 : q1 ≤ 72 := by omega
        clear hq1
        obtain ⟨t0, t1, t2, t3⟩ := hT.out wr hB
        obtain ⟨p0, p1, p2, p3⟩ := hd_regrown t0 t1 t2 t3
        simp only [Nat.zero_add] at t1 t2 t3 p1 p2 p3
        obtain ⟨z0, z1, z2, z3⟩ := hK.out wr hB
        obtain ⟨r0, r1, r2, r3⟩ := hd_regrown z0 z1 z2 z3
        go_wp2_with fail
        refine wp_region_quiet_below (by kernel_rfl) (by kernel_rfl) ?_
        repeat (go_big_quiet_step ((go_at_call 123; exact Calls.regrown_of (place_rng _ _ (by first | exact HRZ.out | exact HRH.out)))))
        refine wpQuiet_nil ?_
        intro _ hw'
        obtain ⟨⟨dq, osq⟩, hw''⟩ := hw'
        subst hw''
        have hBwa := below_regrown wr dq osq
        generalize grow (redrawn wr dq) osq = wa at hBwa ⊢
        have hTwa := hB.trans (hBwa.mono (by have := hB.size; simpa using this))
        have ownwa := owns_below hown hBwa
        clear t0 t1 t2 t3 p0 p1 p2 p3 z0 z1 z2 z3 r0 r1 r2 r3 hown hBwa
        obtain ⟨t0, t1, t2, t3⟩ := hT.out wa hTwa
        obtain ⟨p0, p1, p2, p3⟩ := hd_regrown t0 t1 t2 t3
        simp only [Nat.zero_add] at t1 t2 t3 p1 p2 p3
        obtain ⟨z0, z1, z2, z3⟩ := hK.out wa hTwa
        obtain ⟨r0, r1, r2, r3⟩ := hd_regrown z0 z1 z2 z3
        go_wp2_with fail
        refine wp_region_quiet_below (by kernel_rfl) (by kernel_rfl) ?_
        repeat (go_big_quiet_step ((go_at_call 123; exact Calls.regrown_of (place_rng _ _ (by first | exact HRZ.out | exact HRH.out)))))
        refine wpQuiet_nil ?_
        intro _ hw'
        obtain ⟨⟨dq, osq⟩, hw''⟩ := hw'
        subst hw''
        have hBwb := below_regrown wa dq osq
        generalize grow (redrawn wa dq) osq = wb at hBwb ⊢
        have hTwb := hTwa.trans (hBwb.mono (by have := hTwa.size; simpa using this))
        have ownwb := owns_below ownwa hBwb
        clear t0 t1 t2 t3 p0 p1 p2 p3 z0 z1 z2 z3 r0 r1 r2 r3 ownwa hBwb
        obtain ⟨t0, t1, t2, t3⟩ := hT.out wb hTwb
        obtain ⟨p0, p1, p2, p3⟩ := hd_regrown t0 t1 t2 t3
        simp only [Nat.zero_add] at t1 t2 t3 p1 p2 p3
        obtain ⟨z0, z1, z2, z3⟩ := hK.out wb hTwb
        obtain ⟨r0, r1, r2, r3⟩ := hd_regrown z0 z1 z2 z3
        go_wp2_with (at_builtin; refine wpList_append_own _ rfl (.tmp 52) (.tmp 57) 28 rfl (w.heap.size + 1) 65 i0 (.agg #[.int .i64 0, .int .i64 0, .int .i64 0, .int .i64 0]) 4 32 Try.underlying28 hi hz0 hz1 hz2 rfl (by decide) _ _ _ rfl (World.ownsRow.alloc ownwb _) ⟨wb.heap.size, 0, none⟩ 1 1 (hdCells (z k)) rfl rfl (one_news _ _ _) (one_cells _) (by unfold maxLen; omega) (by omega) (by have := hTwb.size; simp at this; simp; omega) ?_; intro vwc wc ownwc hgr hnl)
        have hTwc : Below (w.heap.size + 1) (w.alloc (.cells #[.int .i64 h.o, .int .i64 h.l, .int .i64 h.b, .int .i64 h.n] 65)) wc := (hTwb.alloc (by have := hTwb.size; simpa using this) _).grown hgr (by have := hTwb.size; simp at this; simp; omega) (fun q hq => (World.ownsRow.lt ownwb q hq).1)
        clear hgr hnl t0 t1 t2 t3 p0 p1 p2 p3 z0 z1 z2 z3 r0 r1 r2 r3 ownwb
        go_wp2_with fail
        go_roundw
        case rel => exact ⟨k + 1, by omega, by go_num, by rfl, by rw [lenD_gt (by omega), show k + 1 - 1 = q1 + 1 by have := HQ1.out; omega, flatH_succ, show dropZ z p q1 = z k by unfold dropZ; rw [if_neg (by have := HQ1.out; omega), HQ1.out]]; exact ownwc, hTwc⟩
        case measure => simp [intOf]; omega

    · have hkn : k = n := by omega
      subst hkn
      rw [lenD_gt hp] at hown
      go_wp2_with fail
      go_ret
      obtain ⟨s', e1, e2, e3, e4⟩ := OwnH.ofRow hown (Nat.le_succ _)
      exact ⟨s', by rw [← show u12 = Value.slice s'.a s'.n s'.c from e1]; rfl, e2, e3, e4, hW.out _ hB⟩


theorem with_set (s : Hs) (h : Hd) (p : Nat) (w : World) (hs : s.At w) (hr : anyB s.n (badH s.z) = false) (hrng : rngH h) (hp : p < s.n) (heq : keyH (s.z p) = keyH h) (hN : ¬ h.n = 0) (hlo : ∀ j, j < p → keyH (s.z j) < keyH h) (hhi : ∀ j, p < j → j < s.n → keyH h < keyH (s.z j)) :
    Calls Try.prog 102 #[s.val, .int .i64 h.o, .int .i64 h.l, .int .i64 h.b, .int .i64 h.n] w fun e w' => ∃ s' : Hs, e = .returned s'.val ∧ s'.At w' ∧ s'.n = s.n ∧ s'.z = setZ s.z p h ∧ Below w.heap.size w w' :=
  (with_setO s h p w hs hr hrng hp heq hN hlo hhi).mono fun e w' h => by obtain ⟨s', h1, h2, h3⟩ := h; exact ⟨s', h1, h2.at, h3⟩
theorem with_ins (s : Hs) (h : Hd) (p : Nat) (w : World) (hs : s.At w) (hr : anyB s.n (badH s.z) = false) (hrng : rngH h) (hp : p ≤ s.n) (heq : p < s.n → keyH h < keyH (s.z p)) (hN : ¬ h.n = 0) (hlo : ∀ j, j < p → keyH (s.z j) < keyH h) (hhi : ∀ j, p < j → j < s.n → keyH h < keyH (s.z j)) :
    Calls Try.prog 102 #[s.val, .int .i64 h.o, .int .i64 h.l, .int .i64 h.b, .int .i64 h.n] w fun e w' => ∃ s' : Hs, e = .returned s'.val ∧ s'.At w' ∧ s'.n = s.n + 1 ∧ s'.z = insZ s.z p h ∧ Below w.heap.size w w' :=
  (with_insO s h p w hs hr hrng hp heq hN hlo hhi).mono fun e w' h => by obtain ⟨s', h1, h2, h3⟩ := h; exact ⟨s', h1, h2.at, h3⟩
theorem with_drop (s : Hs) (h : Hd) (p : Nat) (w : World) (hs : s.At w) (hr : anyB s.n (badH s.z) = false) (hrng : rngH h) (hp : p < s.n) (heq : keyH (s.z p) = keyH h) (hN : h.n = 0) (hlo : ∀ j, j < p → keyH (s.z j) < keyH h) (hhi : ∀ j, p < j → j < s.n → keyH h < keyH (s.z j)) :
    Calls Try.prog 102 #[s.val, .int .i64 h.o, .int .i64 h.l, .int .i64 h.b, .int .i64 h.n] w fun e w' => ∃ s' : Hs, e = .returned s'.val ∧ s'.At w' ∧ s'.n = s.n - 1 ∧ s'.z = dropZ s.z p ∧ Below w.heap.size w w' :=
  (with_dropO s h p w hs hr hrng hp heq hN hlo hhi).mono fun e w' h => by obtain ⟨s', h1, h2, h3⟩ := h; exact ⟨s', h1, h2.at, h3⟩
end Go.Proofs.Ytjiodlbblmbibac

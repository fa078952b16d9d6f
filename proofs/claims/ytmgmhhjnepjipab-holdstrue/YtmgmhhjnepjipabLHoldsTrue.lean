/- HoldsTrue: the walk. -/
import Derived.Test.YtmgmhhjnepjipabLHoldsAdds
import Derived.Test.YtmgmhhjnepjipabH7
namespace Go.Proofs.Ytmgmhhjnepjipab
open Go.RowKit Go.Shelf Go.Sort
set_option linter.unusedVariables false

theorem Kept_right (s : Hs) (o l : Int) (w : World) (hs : s.At w) (hr : anyB s.n (badH s.z) = false) :
    Calls Try.prog 10 #[s.val, .int .i64 o, .int .i64 l] w fun e w' => e = .returned (.tuple #[.int .i64 (keptS s.z o l s.n), .int .i64 0]) ∧ Below w.heap.size w w' := by
  have h := Kept_any s o l w hs
  rw [checkH_right hr, if_pos rfl] at h
  exact h
theorem Check_right (s : Hs) (w : World) (hs : s.At w) (hr : anyB s.n (badH s.z) = false) :
    Calls Try.prog 12 #[s.val] w fun e w' => e = .returned (.int .i64 0) ∧ Below w.heap.size w w' := by
  have h := holdsCheck_any s w hs
  rw [checkH_right hr] at h
  exact h
theorem keptS_right {s : Hs} (o l : Int) (hr : anyB s.n (badH s.z) = false) : 0 ≤ keptS s.z o l s.n ∧ keptS s.z o l s.n ≤ 14400 := by
  have a := keptS_bd (z := s.z) o l s.n fun j hj => (fineH_true (right_fine hr j hj)).2.2.2
  have b := right_len hr
  omega

set_option maxHeartbeats 2000000 in
theorem HoldsTrue_walk (s : Hs) (h : Hd) (w : World) (hs : s.At w) :
    Calls Try.prog 4 #[s.val, h.val] w fun e w' => e = .returned (.bool true) ∧ Below w.heap.size w w' := by
  have HV : Hid (∀ x : Hs, x.val = .slice x.a x.n x.c) := fun _ => rfl
  have F : ∃ W0, w.alloc (.cells #[.int .i64 h.o, .int .i64 h.l, .int .i64 h.b, .int .i64 h.n] 24) = W0 ∧ Below w.heap.size w W0 ∧ boxed W0 w.heap.size h := ⟨_, rfl, (Below.refl _ _).alloc (Nat.le_refl _) _, boxed.mk'⟩
  obtain ⟨W0, hW, hB0, hbx⟩ := F
  have HW : Hid (w.alloc (.cells #[.int .i64 h.o, .int .i64 h.l, .int .i64 h.b, .int .i64 h.n] 24) = W0) := hW
  clear hW
  have HX : Hid (boxed W0 w.heap.size h) := hbx
  clear hbx
  rw [HV.out s]
  simp only [Hd.val]
  go_enter Try.func4, Try.ntmps4
  go_wp2_with fail
  rw [HW.out]
  refine (Add_any s h W0 (hs.below hB0)).mono ?_
  rintro e w1 ⟨x, rfl, xat, xok, hB1⟩
  rw [HV.out x]
  have hC1 := hB0.trans (hB1.mono hB0.size)
  by_cases he : addE s.n s.z h = 0
  · obtain ⟨r0, hf, h2⟩ := addE_zero he
    obtain ⟨rx, kx⟩ := xok.right he
    have hfh := (fineH_true hf).2.2.2
    have hsum := kept_sum r0 rx hf kx h.o h.l
    rw [if_pos ⟨rfl, rfl⟩] at hsum
    obtain ⟨d1, d2, d3⟩ := add_drop xok he
    have b1 := keptS_right h.o h.l r0
    have b2 := keptV_bd (fun j hj => (fineH_true (right_fine r0 j hj)).2.2.2) h.o h.l h.b
    have KR : Hid (∀ w, s.At w → Calls Try.prog 10 #[s.val, .int .i64 h.o, .int .i64 h.l] w fun e w' => e = .returned (.tuple #[.int .i64 (keptS s.z h.o h.l s.n), .int .i64 0]) ∧ Below w.heap.size w w') := fun w hs => Kept_right s h.o h.l w hs r0
    have KX : Hid (∀ w, x.At w → Calls Try.prog 10 #[x.val, .int .i64 h.o, .int .i64 h.l] w fun e w' => e = .returned (.tuple #[.int .i64 (keptS s.z h.o h.l s.n + h.n), .int .i64 0]) ∧ Below w.heap.size w w') := fun w hx => by have := Kept_right x h.o h.l w hx rx; rw [hsum] at this; exact this
    have DX : Hid (∀ w, x.At w → Calls Try.prog 11 #[x.val, .int .i64 h.o, .int .i64 h.l, .int .i64 h.b] w fun e w' => ∃ s' : Hs, e = .returned (.tuple #[s'.val, .int .i64 (keptV s.n s.z h.o h.l h.b + h.n), .int .i64 0]) ∧ s'.At w' ∧ DropOK x.n x.z h.o h.l h.b s' ∧ Below w.heap.size w w') := fun w hx => by have := Drop_any x h.o h.l h.b w hx; rw [d1, d2] at this; exact this
    have DS : Hid (∀ w, s.At w → Calls Try.prog 11 #[s.val, .int .i64 h.o, .int .i64 h.l, .int .i64 h.b] w fun e w' => ∃ s' : Hs, e = .returned (.tuple #[s'.val, .int .i64 (keptV s.n s.z h.o h.l h.b), .int .i64 (dropE s.n s.z h.o h.l h.b)]) ∧ s'.At w' ∧ DropOK s.n s.z h.o h.l h.b s' ∧ Below w.heap.size w w') := fun w hx => by have := Drop_any s h.o h.l h.b w hx; rw [dropN_of r0] at this; exact this
    have CX : Hid (∀ w, x.At w → Calls Try.prog 12 #[x.val] w fun e w' => e = .returned (.int .i64 0) ∧ Below w.heap.size w w') := fun w hx => Check_right x w hx rx
    have D3 : Hid (∀ b : Hs, DropOK x.n x.z h.o h.l h.b b → (keptV s.n s.z h.o h.l h.b = 0 → b.n = s.n ∧ ∀ j, j < b.n → b.z j = s.z j) ∧ (¬ keptV s.n s.z h.o h.l h.b = 0 → ∀ c : Hs, DropOK s.n s.z h.o h.l h.b c → b.n = c.n ∧ ∀ j, j < b.n → b.z j = c.z j)) := d3
    have DE : Hid (dropE s.n s.z h.o h.l h.b = if keptV s.n s.z h.o h.l h.b = 0 then 4 else 0) := dropE_of r0
    have hhn : 1 ≤ h.n ∧ h.n ≤ 200 := hfh
    clear d1 d2 d3 kx hsum rx r0 hf h2 xok hfh
    rw [he]
    obtain ⟨c0, c1, c2, c3, hsz⟩ := HX.out.below hB1
    go_wp2_with fail
    refine (KR.out w1 (hs.below hC1)).mono ?_
    rintro e w2 ⟨rfl, hB2⟩
    have hC2 := hC1.trans (hB2.mono hC1.size)
    have hX2 := HX.out.below (hB1.trans (hB2.mono hB1.size))
    have HX2 : Hid (boxed w2 w.heap.size h) := hX2
    clear hX2 c0 c1 c2 c3 hsz
    obtain ⟨c0, c1, c2, c3, hsz⟩ := HX2.out
    have xat2 := xat.below hB2
    generalize keptS s.z h.o h.l s.n = KN at b1 KX ⊢
    go_wp2_with fail
    refine (KX.out w2 xat2).mono ?_
    rintro e w3 ⟨rfl, hB3⟩
    have hC3 := hC2.trans (hB3.mono hC2.size)
    have HX3 : Hid (boxed w3 w.heap.size h) := HX2.out.below hB3
    clear c0 c1 c2 c3 hsz
    obtain ⟨c0, c1, c2, c3, hsz⟩ := HX3.out
    have xat3 := xat2.below hB3
    go_wp2_with fail
    refine (DX.out w3 xat3).mono ?_
    rintro e w4 ⟨y, rfl, yat, yok, hB4⟩
    rw [HV.out y]
    have hC4 := hC3.trans (hB4.mono hC3.size)
    have HX4 : Hid (boxed w4 w.heap.size h) := HX3.out.below hB4
    clear c0 c1 c2 c3 hsz
    obtain ⟨c0, c1, c2, c3, hsz⟩ := HX4.out
    have xat4 := xat3.below hB4
    have D4 : Hid ((keptV s.n s.z h.o h.l h.b = 0 → y.n = s.n ∧ ∀ j, j < y.n → y.z j = s.z j) ∧ (¬ keptV s.n s.z h.o h.l h.b = 0 → ∀ c : Hs, DropOK s.n s.z h.o h.l h.b c → y.n = c.n ∧ ∀ j, j < y.n → y.z j = c.z j)) := D3.out y yok
    clear yok
    go_wp2_with fail
    refine (DS.out w4 (hs.below hC4)).mono ?_
    rintro e w5 ⟨v, rfl, vat, vok, hB5⟩
    rw [HV.out v]
    have hC5 := hC4.trans (hB5.mono hC4.size)
    have HX5 : Hid (boxed w5 w.heap.size h) := HX4.out.below hB5
    clear c0 c1 c2 c3 hsz
    obtain ⟨c0, c1, c2, c3, hsz⟩ := HX5.out
    have xat5 := xat4.below hB5
    have yat5 := yat.below hB5
    have sat5 := hs.below hC5
    have VO : Hid (DropOK s.n s.z h.o h.l h.b v) := vok
    clear vok xat xat2 xat3 xat4 yat
    clear c0 c1 c2 c3 hsz
    by_cases hk : keptV s.n s.z h.o h.l h.b = 0
    · have hE : dropE s.n s.z h.o h.l h.b = 4 := by rw [DE.out, if_pos hk]
      have HY : Hid (y.n = s.n ∧ ∀ j, j < y.n → y.z j = s.z j) := D4.out.1 hk
      rw [hE, hk]
      go_wp2_with fail
      refine (holdsBegun_any w5).mono ?_
      rintro e w6 ⟨rfl, hB6⟩
      have hC6 := hC5.trans (hB6.mono hC5.size)
      go_wp2_with fail
      refine (CX.out w6 (xat5.below hB6)).mono ?_
      rintro e w7 ⟨rfl, hB7⟩
      have hC7 := hC6.trans (hB7.mono hC6.size)
      have hB67 := hB6.trans (hB7.mono hB6.size)
      obtain ⟨c0, c1, c2, c3, hsz⟩ := HX5.out.below hB67
      go_wp2_with fail
      refine (SameHolds_yes y s w7 (yat5.below hB67) (sat5.below hB67) HY.out.1 HY.out.2).mono ?_
      rintro e w8 ⟨rfl, hB8⟩
      go_wp2_with fail
      go_ret
      exact ⟨rfl, hC7.trans (hB8.mono hC7.size)⟩
    · have hE : dropE s.n s.z h.o h.l h.b = 0 := by rw [DE.out, if_neg hk]
      have HY : Hid (y.n = v.n ∧ ∀ j, j < y.n → y.z j = v.z j) := D4.out.2 hk v VO.out
      rw [hE]
      go_wp2_with fail
      refine (holdsBegun_any w5).mono ?_
      rintro e w6 ⟨rfl, hB6⟩
      have hC6 := hC5.trans (hB6.mono hC5.size)
      go_wp2_with fail
      refine (CX.out w6 (xat5.below hB6)).mono ?_
      rintro e w7 ⟨rfl, hB7⟩
      have hC7 := hC6.trans (hB7.mono hC6.size)
      have hB67 := hB6.trans (hB7.mono hB6.size)
      obtain ⟨c0, c1, c2, c3, hsz⟩ := HX5.out.below hB67
      go_wp2_with fail
      refine (SameHolds_yes y v w7 (yat5.below hB67) (vat.below hB67) HY.out.1 HY.out.2).mono ?_
      rintro e w8 ⟨rfl, hB8⟩
      go_wp2_with fail
      go_ret
      exact ⟨rfl, hC7.trans (hB8.mono hC7.size)⟩
  · clear xok xat
    go_wp2_with fail
    refine (holdsBegun_any w1).mono ?_
    rintro e w2 ⟨rfl, hB2⟩
    go_wp2_with fail
    go_ret
    exact ⟨rfl, hC1.trans (hB2.mono hC1.size)⟩

end Go.Proofs.Ytmgmhhjnepjipab

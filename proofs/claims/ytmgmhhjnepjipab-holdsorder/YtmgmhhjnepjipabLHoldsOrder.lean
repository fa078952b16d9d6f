/- HoldsOrder: the walk. -/
import Derived.Test.YtmgmhhjnepjipabLHoldsTrue
namespace Go.Proofs.Ytmgmhhjnepjipab
open Go.RowKit Go.Shelf Go.Sort
set_option linter.unusedVariables false

set_option maxHeartbeats 2000000 in
theorem HoldsOrder_walk (s : Hs) (a b : Hd) (w : World) (hs : s.At w) :
    Calls Try.prog 5 #[s.val, a.val, b.val] w fun e w' => e = .returned (.bool true) ∧ Below w.heap.size w w' := by
  have HV : Hid (∀ x : Hs, x.val = .slice x.a x.n x.c) := fun _ => rfl
  have F : ∃ W0, (w.alloc (.cells #[.int .i64 a.o, .int .i64 a.l, .int .i64 a.b, .int .i64 a.n] 24)).alloc (.cells #[.int .i64 b.o, .int .i64 b.l, .int .i64 b.b, .int .i64 b.n] 24) = W0 ∧ Below w.heap.size w W0 ∧ boxed W0 w.heap.size a ∧ boxed W0 (w.heap.size + 1) b := by
    refine ⟨_, rfl, ((Below.refl _ _).alloc (Nat.le_refl _) _).alloc (by simp) _, boxed.mk'.below ((Below.refl _ _).alloc (Nat.le_refl _) _), ?_⟩
    have := boxed.mk' (w := w.alloc (.cells #[.int .i64 a.o, .int .i64 a.l, .int .i64 a.b, .int .i64 a.n] 24)) (h := b) (t := 24)
    simpa using this
  obtain ⟨W0, hW, hB0, hba, hbb⟩ := F
  have HW : Hid ((w.alloc (.cells #[.int .i64 a.o, .int .i64 a.l, .int .i64 a.b, .int .i64 a.n] 24)).alloc (.cells #[.int .i64 b.o, .int .i64 b.l, .int .i64 b.b, .int .i64 b.n] 24) = W0) := hW
  clear hW
  have HX : Hid (boxed W0 w.heap.size a ∧ boxed W0 (w.heap.size + 1) b) := ⟨hba, hbb⟩
  clear hba hbb
  rw [HV.out s]
  simp only [Hd.val]
  go_enter Try.func5, Try.ntmps5
  go_wp2_with fail
  rw [HW.out]
  refine (Add_any s a W0 (hs.below hB0)).mono ?_
  rintro e w1 ⟨x, rfl, xat, xok, hB1⟩
  rw [HV.out x]
  have hC1 := hB0.trans (hB1.mono hB0.size)
  have HX1 : Hid (boxed w1 w.heap.size a ∧ boxed w1 (w.heap.size + 1) b) := ⟨HX.out.1.below hB1, HX.out.2.below hB1⟩
  obtain ⟨⟨c0, c1, c2, c3, hsz⟩, ⟨k0, k1, k2, k3, ksz⟩⟩ := HX1.out
  have XO : Hid (AddOK s.n s.z a x) := xok
  clear xok
  have NE : Hid (∀ z : Nat → Hd, ∀ n h, addE n z h = addE n z h) := fun _ _ _ => rfl
  go_wp2_with fail
  refine (Add_any s b w1 (hs.below hC1)).mono ?_
  rintro e w2 ⟨y, rfl, yat, yok, hB2⟩
  rw [HV.out y]
  have hC2 := hC1.trans (hB2.mono hC1.size)
  have HX2 : Hid (boxed w2 w.heap.size a ∧ boxed w2 (w.heap.size + 1) b) := ⟨HX1.out.1.below hB2, HX1.out.2.below hB2⟩
  have xat2 := xat.below hB2
  have YO : Hid (AddOK s.n s.z b y) := yok
  clear yok xat c0 c1 c2 c3 hsz k0 k1 k2 k3 ksz
  by_cases hea : addE s.n s.z a = 0
  · by_cases heb : addE s.n s.z b = 0
    · obtain ⟨r0, fa, a2⟩ := addE_zero hea
      obtain ⟨_, fb, b2⟩ := addE_zero heb
      obtain ⟨rx, kx⟩ := XO.out.right hea
      obtain ⟨e1, e2⟩ := add_order XO.out YO.out hea heb
      have hsum := kept_sum r0 rx fa kx b.o b.l
      have AX : Hid (∀ w, x.At w → Calls Try.prog 6 #[x.val, b.val] w fun e w' => ∃ s' : Hs, e = .returned (.tuple #[s'.val, .int .i64 (addE x.n x.z b)]) ∧ s'.At w' ∧ AddOK x.n x.z b s' ∧ Below w.heap.size w w') := fun w hx => Add_any x b w hx
      have AY : Hid (∀ w, y.At w → Calls Try.prog 6 #[y.val, a.val] w fun e w' => ∃ s' : Hs, e = .returned (.tuple #[s'.val, .int .i64 (addE x.n x.z b)]) ∧ s'.At w' ∧ AddOK y.n y.z a s' ∧ Below w.heap.size w w') := fun w hy => by rw [e1]; exact Add_any y a w hy
      have KS : Hid (∀ w, s.At w → Calls Try.prog 10 #[s.val, .int .i64 b.o, .int .i64 b.l] w fun e w' => e = .returned (.tuple #[.int .i64 (keptS s.z b.o b.l s.n), .int .i64 0]) ∧ Below w.heap.size w w') := fun w hs => Kept_right s b.o b.l w hs r0
      have KX : Hid (∀ w, x.At w → Calls Try.prog 10 #[x.val, .int .i64 b.o, .int .i64 b.l] w fun e w' => e = .returned (.tuple #[.int .i64 (keptS x.z b.o b.l x.n), .int .i64 0]) ∧ Below w.heap.size w w') := fun w hx => Kept_right x b.o b.l w hx rx
      have HE : Hid (∀ u v : Hs, AddOK x.n x.z b u → AddOK y.n y.z a v → u.n = v.n ∧ ∀ j, j < u.n → u.z j = v.z j) := e2
      have HM : Hid (¬ (a.o = b.o ∧ a.l = b.l) → keptS x.z b.o b.l x.n = keptS s.z b.o b.l s.n) := fun h => by rw [hsum, if_neg h]; omega
      clear r0 fa a2 fb b2 rx kx e1 e2 hsum XO YO
      rw [hea, heb]
      obtain ⟨⟨c0, c1, c2, c3, hsz⟩, ⟨k0, k1, k2, k3, ksz⟩⟩ := HX2.out
      clear hea heb
      go_wp2_with fail
      refine (AX.out w2 xat2).mono ?_
      rintro e w3 ⟨u, rfl, uat, uok, hB3⟩
      rw [HV.out u]
      have hC3 := hC2.trans (hB3.mono hC2.size)
      have HX3 : Hid (boxed w3 w.heap.size a ∧ boxed w3 (w.heap.size + 1) b) := ⟨HX2.out.1.below hB3, HX2.out.2.below hB3⟩
      have xat3 := xat2.below hB3
      have yat3 := yat.below hB3
      have UO : Hid (AddOK x.n x.z b u) := uok
      clear uok c0 c1 c2 c3 hsz k0 k1 k2 k3 ksz xat2 yat
      obtain ⟨⟨c0, c1, c2, c3, hsz⟩, ⟨k0, k1, k2, k3, ksz⟩⟩ := HX3.out
      generalize addE x.n x.z b = AE at AY ⊢
      go_wp2_with fail
      refine (AY.out w3 yat3).mono ?_
      rintro e w4 ⟨v, rfl, vat, vok, hB4⟩
      rw [HV.out v]
      have hC4 := hC3.trans (hB4.mono hC3.size)
      have HX4 : Hid (boxed w4 w.heap.size a ∧ boxed w4 (w.heap.size + 1) b) := ⟨HX3.out.1.below hB4, HX3.out.2.below hB4⟩
      have xat4 := xat3.below hB4
      have uat4 := uat.below hB4
      have HS : Hid (u.n = v.n ∧ ∀ j, j < u.n → u.z j = v.z j) := HE.out u v UO.out vok
      clear vok c0 c1 c2 c3 hsz k0 k1 k2 k3 ksz xat3 yat3 uat
      obtain ⟨⟨c0, c1, c2, c3, hsz⟩, ⟨k0, k1, k2, k3, ksz⟩⟩ := HX4.out
      go_wp2_with fail
      refine (KS.out w4 (hs.below hC4)).mono ?_
      rintro e w5 ⟨rfl, hB5⟩
      have hC5 := hC4.trans (hB5.mono hC4.size)
      have HX5 : Hid (boxed w5 w.heap.size a ∧ boxed w5 (w.heap.size + 1) b) := ⟨HX4.out.1.below hB5, HX4.out.2.below hB5⟩
      have xat5 := xat4.below hB5
      have uat5 := uat4.below hB5
      have vat5 := vat.below hB5
      clear c0 c1 c2 c3 hsz k0 k1 k2 k3 ksz xat4 uat4 vat
      obtain ⟨⟨c0, c1, c2, c3, hsz⟩, ⟨k0, k1, k2, k3, ksz⟩⟩ := HX5.out
      go_wp2_with fail
      refine (KX.out w5 xat5).mono ?_
      rintro e w6 ⟨rfl, hB6⟩
      have hC6 := hC5.trans (hB6.mono hC5.size)
      have HX6 : Hid (boxed w6 w.heap.size a ∧ boxed w6 (w.heap.size + 1) b) := ⟨HX5.out.1.below hB6, HX5.out.2.below hB6⟩
      have uat6 := uat5.below hB6
      have vat6 := vat5.below hB6
      clear c0 c1 c2 c3 hsz k0 k1 k2 k3 ksz xat5 uat5 vat5
      obtain ⟨⟨c0, c1, c2, c3, hsz⟩, ⟨k0, k1, k2, k3, ksz⟩⟩ := HX6.out
      generalize keptS s.z b.o b.l s.n = KN at HM KS ⊢
      generalize keptS x.z b.o b.l x.n = KM at HM KX ⊢
      clear c0 c1 c2 c3 hsz k0 k1 k2 k3 ksz
      by_cases hao : a.o = b.o
      · by_cases hal : a.l = b.l
        · have HO : Hid (a.o = b.o ∧ a.l = b.l) := ⟨hao, hal⟩
          clear hao hal
          go_wp2_with fail
          refine (holdsBegun_any w6).mono ?_
          rintro e w7 ⟨rfl, hB7⟩
          have hC7 := hC6.trans (hB7.mono hC6.size)
          go_wp2_with fail
          refine (SameHolds_yes u v w7 (uat6.below hB7) (vat6.below hB7) HS.out.1 HS.out.2).mono ?_
          rintro e w8 ⟨rfl, hB8⟩
          obtain ⟨⟨c0, c1, c2, c3, hsz⟩, ⟨k0, k1, k2, k3, ksz⟩⟩ := (show boxed w8 w.heap.size a ∧ boxed w8 (w.heap.size + 1) b from ⟨HX6.out.1.below (hB7.trans (hB8.mono hB7.size)), HX6.out.2.below (hB7.trans (hB8.mono hB7.size))⟩)
          rw [HO.out.1] at c0
          rw [HO.out.2] at c1
          go_wp2_with fail
          go_ret
          exact ⟨rfl, hC7.trans (hB8.mono hC7.size)⟩
        · have hM : KM = KN := HM.out fun h => hal h.2
          rw [hM]
          have HO : Hid (a.o = b.o) := hao
          clear hM hao
          go_wp2_with fail
          refine (holdsBegun_any w6).mono ?_
          rintro e w7 ⟨rfl, hB7⟩
          have hC7 := hC6.trans (hB7.mono hC6.size)
          go_wp2_with fail
          refine (SameHolds_yes u v w7 (uat6.below hB7) (vat6.below hB7) HS.out.1 HS.out.2).mono ?_
          rintro e w8 ⟨rfl, hB8⟩
          obtain ⟨⟨c0, c1, c2, c3, hsz⟩, ⟨k0, k1, k2, k3, ksz⟩⟩ := (show boxed w8 w.heap.size a ∧ boxed w8 (w.heap.size + 1) b from ⟨HX6.out.1.below (hB7.trans (hB8.mono hB7.size)), HX6.out.2.below (hB7.trans (hB8.mono hB7.size))⟩)
          rw [HO.out] at c0
          go_wp2_with fail
          go_ret
          exact ⟨rfl, hC7.trans (hB8.mono hC7.size)⟩
      · have hM : KM = KN := HM.out fun h => hao h.1
        rw [hM]
        clear hM
        go_wp2_with fail
        refine (holdsBegun_any w6).mono ?_
        rintro e w7 ⟨rfl, hB7⟩
        have hC7 := hC6.trans (hB7.mono hC6.size)
        go_wp2_with fail
        refine (SameHolds_yes u v w7 (uat6.below hB7) (vat6.below hB7) HS.out.1 HS.out.2).mono ?_
        rintro e w8 ⟨rfl, hB8⟩
        obtain ⟨⟨c0, c1, c2, c3, hsz⟩, ⟨k0, k1, k2, k3, ksz⟩⟩ := (show boxed w8 w.heap.size a ∧ boxed w8 (w.heap.size + 1) b from ⟨HX6.out.1.below (hB7.trans (hB8.mono hB7.size)), HX6.out.2.below (hB7.trans (hB8.mono hB7.size))⟩)
        go_wp2_with fail
        go_ret
        exact ⟨rfl, hC7.trans (hB8.mono hC7.size)⟩
    · rw [hea]
      go_wp2_with fail
      refine (holdsBegun_any w2).mono ?_
      rintro e w3 ⟨rfl, hB3⟩
      go_wp2_with fail
      go_ret
      exact ⟨rfl, hC2.trans (hB3.mono hC2.size)⟩
  · go_wp2_with fail
    refine (holdsBegun_any w2).mono ?_
    rintro e w3 ⟨rfl, hB3⟩
    go_wp2_with fail
    go_ret
    exact ⟨rfl, hC2.trans (hB3.mono hC2.size)⟩

end Go.Proofs.Ytmgmhhjnepjipab

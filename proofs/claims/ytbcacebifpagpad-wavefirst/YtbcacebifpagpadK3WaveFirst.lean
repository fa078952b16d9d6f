/- Texts that were built one behind the other, joined; what WaveFirst does not reach is left out. -/
import Derived.Test.YtbcacebifpagpadK2WaveFirst
import Derived.RangeFuncBox
import Derived.RangeFuncLeaves
import Derived.Shelf.Abstract
import Derived.WalkKit
import Derived.OwnWalkIn
import Derived.TacticsInMore
import Derived.LoopNIn
import Derived.LoopIn
import Derived.Maps.AppendAt
import Derived.RangeFuncNested
import Derived.KernelRfl
import Derived.Test.YtbcacebifpagpadRows
import Derived.ProofKit
import Derived.OpenShut
import Derived.Lib.SmallJoins
import Derived.Deep.Slices
namespace Go.Proofs.Ytbcacebifpagpad
open Go.RowKit Go.Shelf Go.Sort
set_option linter.unusedVariables false
def cancelE (p : Pl) (s : St) (order : Int) : Int := if stateE p s = 0 then (if inB order 0 ((s.os.n : Int) - 1) then (if (s.os.z order.toNat).k = 2 then 6 else 0) else 4) else stateE p s
theorem cancelE_state {p : Pl} {s : St} {order : Int} (h : ¬ stateE p s = 0) : cancelE p s order = stateE p s := by unfold cancelE; rw [if_neg h]
theorem cancelE_none {p : Pl} {s : St} {order : Int} (h : stateE p s = 0) (h1 : inB order 0 ((s.os.n : Int) - 1) = false) : cancelE p s order = 4 := by unfold cancelE; rw [if_pos h, h1]; rfl
theorem cancelE_done {p : Pl} {s : St} {order : Int} (h : stateE p s = 0) (h1 : inB order 0 ((s.os.n : Int) - 1) = true) (h2 : (s.os.z order.toNat).k = 2) : cancelE p s order = 6 := by unfold cancelE; rw [if_pos h, h1, if_pos h2]; rfl
theorem cancelE_ok {p : Pl} {s : St} {order : Int} (h : stateE p s = 0) (h1 : inB order 0 ((s.os.n : Int) - 1) = true) (h2 : ¬ (s.os.z order.toNat).k = 2) : cancelE p s order = 0 := by unfold cancelE; rw [if_pos h, h1, if_neg h2]; rfl
def cancelT (s : St) (o : Nat) : St := lackS (kindS (withHolds s (dropH s.hs (fun x => x.o == (o : Int)))) o 2) o (s.os.z o).ls.n
theorem cancelT_os (s : St) (o i : Nat) : (cancelT s o).os.z i = if i = o then ⟨2, lackL (s.os.z i).ls (s.os.z o).ls.n⟩ else s.os.z i := by
  show (if i = o then (⟨(if i = o then (⟨2, (s.os.z i).ls⟩ : Od) else s.os.z i).k, lackL (if i = o then (⟨2, (s.os.z i).ls⟩ : Od) else s.os.z i).ls (s.os.z o).ls.n⟩ : Od) else (if i = o then (⟨2, (s.os.z i).ls⟩ : Od) else s.os.z i)) = _
  by_cases h : i = o
  · rw [if_pos h, if_pos h, if_pos h]
  · rw [if_neg h, if_neg h, if_neg h]
theorem cancel_same {x s : St} (h : SameT x s) {o : Nat} (ho : o < x.os.n) : SameT (cancelT x o) (cancelT s o) := by
  have eo := h.os.2 o ho
  have d := dropH_same h.hs.1 h.hs.2 (fun y => y.o == (o : Int))
  refine ⟨h.on, ⟨h.os.1, fun i hi => ?_⟩, ⟨d.1, fun j _ => by show (dropH x.hs _).z j = (dropH s.hs _).z j; rw [d.2]⟩, h.ms, h.si, h.so, h.sf⟩
  have e := h.os.2 i hi
  rw [cancelT_os, cancelT_os]
  by_cases hio : i = o
  · subst hio
    rw [if_pos rfl, if_pos rfl]
    refine ⟨rfl, e.2.1, fun j hj => ?_⟩
    show (if j < (x.os.z i).ls.n then lackH ((x.os.z i).ls.z j) else (x.os.z i).ls.z j) = if j < (s.os.z i).ls.n then lackH ((s.os.z i).ls.z j) else (s.os.z i).ls.z j
    have hj' : j < (x.os.z i).ls.n := hj
    rw [if_pos hj', if_pos (by omega), e.2.2 j hj']
  · rw [if_neg hio, if_neg hio]
    exact e
set_option maxRecDepth 100000 in
set_option maxHeartbeats 8000000 in
theorem Cancel_any (p : Pl) (s : St) (order : Int) (w : World) (hp : p.At w) (hs : s.At w) :
    Calls Try.prog 18 #[p.val, s.val, .int .i64 order] w fun e w' => ∃ x : St, e = .returned (.tuple #[x.val, .int .i64 (cancelE p s order)]) ∧ x.At w' ∧ ActOK (cancelE p s order) (cancelT s order.toNat) x ∧ (cancelE p s order = 0 → OwnS w.heap.size w' x) ∧ Below w.heap.size w w' := by
  obtain ⟨W0, hW, hWB, X0, K0, Z0⟩ : ∃ W, ((((w.alloc (.cells #[.slice p.ab p.nb p.cb, .slice p.sa p.ns p.cs] 25)).alloc (.cells s.cells 31)).alloc (.cells #[.int .i64 order] 3)).alloc (.cells #[.slice .none 0 0, .slice .none 0 0, .slice .none 0 0, .slice .none 0 0, .slice .none 0 0, .slice .none 0 0, .slice .none 0 0] 31)) = W ∧ Below w.heap.size w W ∧ Boxes W w.heap.size (w.heap.size + 1) p s ∧ Blk W (w.heap.size + 2) 3 1 (fun _ => .int .i64 order) ∧ Blk W (w.heap.size + 3) 31 7 (fun _ => .slice .none 0 0) :=
    ⟨_, rfl, ((two_below _ _ _).alloc (by simp; omega) _).alloc (by simp; omega) _, ((boxes_new w p s _ _).below ((Below.refl _ _).alloc (Nat.le_refl _) _)).below ((Below.refl _ _).alloc (Nat.le_refl _) _), ((Blk.mk' (cur := #[.int .i64 order]) (by simp) rfl).congr (fun j hj => by match j, hj with | 0, _ => rfl)).alloc _, (Blk.mk' (cur := #[.slice .none 0 0, .slice .none 0 0, .slice .none 0 0, .slice .none 0 0, .slice .none 0 0, .slice .none 0 0, .slice .none 0 0]) (by simp) rfl).congr (fun j hj => by match j, hj with | 0, _ => rfl | 1, _ => rfl | 2, _ => rfl | 3, _ => rfl | 4, _ => rfl | 5, _ => rfl | 6, _ => rfl)⟩
  have HC : Hid (∀ wk, Below W0.heap.size W0 wk → Boxes wk w.heap.size (w.heap.size + 1) p s ∧ p.At wk ∧ s.At wk ∧ Below w.heap.size w wk ∧ Blk wk (w.heap.size + 3) 31 7 (fun _ => .slice .none 0 0) ∧ Blk wk (w.heap.size + 2) 3 1 (fun _ => .int .i64 order)) := fun wk h => ⟨X0.below h, (hp.below hWB).below h, (hs.below hWB).below h, hWB.trans (h.mono hWB.size), Z0.below h, K0.below h⟩
  have HW : Hid ((((w.alloc (.cells #[.slice p.ab p.nb p.cb, .slice p.sa p.ns p.cs] 25)).alloc (.cells #[.slice s.on.a s.on.n s.on.c, .slice s.os.a s.os.n s.os.c, .slice s.hs.a s.hs.n s.hs.c, .slice s.ms.a s.ms.n s.ms.c, .slice s.si.a s.si.n s.si.c, .slice s.so.a s.so.n s.so.c, .slice s.sf.a s.sf.n s.sf.c] 31)).alloc (.cells #[.int .i64 order] 3)).alloc (.cells #[.slice .none 0 0, .slice .none 0 0, .slice .none 0 0, .slice .none 0 0, .slice .none 0 0, .slice .none 0 0, .slice .none 0 0] 31) = W0) := hW
  have zlt0 := Z0.lt
  have osl := hs.os.le
  have osc0 := hs.os.cap
  have osc := osc0
  have osn0 : s.os.n ≤ maxLen := Nat.le_trans osl osc0
  unfold maxLen at osc
  clear hW X0 Z0 K0 hp hs
  unfold Pl.val St.val
  go_enter Try.func18, Try.ntmps18
  go_wp2_with fail
  rw [HW.out]
  obtain ⟨X, hpk, hsk, hBw, hz, kb⟩ := HC.out W0 (Below.refl _ _)
  refine (stateCheck_any p s W0 hpk hsk).mono ?_
  rintro e w1 ⟨rfl, hB⟩
  clear X hpk hsk hBw hz kb HW
  obtain ⟨⟨⟨l1, d0, d1⟩, l2, c0, c1, c2, c3, c4, c5, c6⟩, hpk, hsk, hBw, hz, kb⟩ := HC.out w1 hB
  have b0 := kb.lt
  have b1 : w1.cell? ⟨w.heap.size + 2, 0, none⟩ = some (.int .i64 order) := kb.cell (j := 0) (by decide)
  by_cases h0 : stateE p s = 0
  · have H0 : Hid (stateE p s = 0) := h0
    have HF : Hid (Formed p s) := (rightT h0).fm
    rw [h0]
    clear h0
    cases k1 : inB order 0 ((s.os.n : Int) - 1)
    · have HX : Hid (cancelE p s order = 4) := cancelE_none H0.out k1
      have HNE : Hid (¬ cancelE p s order = 0) := by show ¬ _; rw [HX.out]; decide
      clear hpk hsk kb
      have zl := hz.lt
      have zf0 := hz.frozen 0
      have zc0 := hz.cell (j := 0) (by decide)
      have zf1 := hz.frozen 1
      have zc1 := hz.cell (j := 1) (by decide)
      have zf2 := hz.frozen 2
      have zc2 := hz.cell (j := 2) (by decide)
      have zf3 := hz.frozen 3
      have zc3 := hz.cell (j := 3) (by decide)
      have zf4 := hz.frozen 4
      have zc4 := hz.cell (j := 4) (by decide)
      have zf5 := hz.frozen 5
      have zc5 := hz.cell (j := 5) (by decide)
      have zf6 := hz.frozen 6
      have zc6 := hz.cell (j := 6) (by decide)
      go_wp2_with (go_at_call 22; refine calls_to (Has_any _ _ _ osn0) ?_)
      have KZ := set7_blk hz (.slice .none 0 0) (.slice .none 0 0) (.slice .none 0 0) (.slice .none 0 0) (.slice .none 0 0) (.slice .none 0 0) (.slice .none 0 0)
      have hbz := set7_below (b := w.heap.size + 3) hBw (by omega) (.slice .none 0 0) (.slice .none 0 0) (.slice .none 0 0) (.slice .none 0 0) (.slice .none 0 0) (.slice .none 0 0) (.slice .none 0 0)
      unfold set7 at KZ hbz
      obtain ⟨c0', c1', c2', c3', c4', c5', c6'⟩ := box_cells KZ
      refine bodyPost_ret (v := .tuple #[noneS.val, .int .i64 4]) (by simp [results, Try.results18, go_sem, noneS, St.val, c0', c1', c2', c3', c4', c5', c6']) rfl ?_
      exact ⟨noneS, by rw [HX.out]; rfl, noneS_at _, ⟨fun h => absurd h (HNE.out), fun _ => ⟨rfl, rfl, rfl, rfl, rfl, rfl, rfl⟩⟩, fun h => absurd h (HNE.out), hbz⟩
    · have hin := inB_true k1
      obtain ⟨o, rfl⟩ := Int.eq_ofNat_of_zero_le hin.1
      have ho : o < s.os.n := by omega
      have q0 : (0 : Int) ≤ (o : Int) := by omega
      obtain ⟨bo, oo, hoa, hbo, z0, z1, hlk⟩ := hsk.os.ods o ho
      have HOA : Hid (s.os.a = some ⟨bo, oo, none⟩) := hoa
      rw [hoa] at c1
      clear hoa z1 hlk
      by_cases k2 : (s.os.z o).k = 2
      · have HX : Hid (cancelE p s (o : Int) = 6) := cancelE_done H0.out k1 k2
        have HNE : Hid (¬ cancelE p s (o : Int) = 0) := by show ¬ _; rw [HX.out]; decide
        rw [k2] at z0
        clear k2
        clear hpk hsk kb
        have zl := hz.lt
        have zf0 := hz.frozen 0
        have zc0 := hz.cell (j := 0) (by decide)
        have zf1 := hz.frozen 1
        have zc1 := hz.cell (j := 1) (by decide)
        have zf2 := hz.frozen 2
        have zc2 := hz.cell (j := 2) (by decide)
        have zf3 := hz.frozen 3
        have zc3 := hz.cell (j := 3) (by decide)
        have zf4 := hz.frozen 4
        have zc4 := hz.cell (j := 4) (by decide)
        have zf5 := hz.frozen 5
        have zc5 := hz.cell (j := 5) (by decide)
        have zf6 := hz.frozen 6
        have zc6 := hz.cell (j := 6) (by decide)
        go_wp2_with (go_at_call 22; refine calls_to (Has_any _ _ _ osn0) ?_)
        have KZ := set7_blk hz (.slice .none 0 0) (.slice .none 0 0) (.slice .none 0 0) (.slice .none 0 0) (.slice .none 0 0) (.slice .none 0 0) (.slice .none 0 0)
        have hbz := set7_below (b := w.heap.size + 3) hBw (by omega) (.slice .none 0 0) (.slice .none 0 0) (.slice .none 0 0) (.slice .none 0 0) (.slice .none 0 0) (.slice .none 0 0) (.slice .none 0 0)
        unfold set7 at KZ hbz
        obtain ⟨c0', c1', c2', c3', c4', c5', c6'⟩ := box_cells KZ
        refine bodyPost_ret (v := .tuple #[noneS.val, .int .i64 6]) (by simp [results, Try.results18, go_sem, noneS, St.val, c0', c1', c2', c3', c4', c5', c6']) rfl ?_
        exact ⟨noneS, by rw [HX.out]; rfl, noneS_at _, ⟨fun h => absurd h (HNE.out), fun _ => ⟨rfl, rfl, rfl, rfl, rfl, rfl, rfl⟩⟩, fun h => absurd h (HNE.out), hbz⟩
      · have HX : Hid (cancelE p s (o : Int) = 0) := cancelE_ok H0.out k1 k2
        have g2 : ((s.os.z o).k == 2) = false := by simpa using k2
        clear k2
        generalize (s.os.z o).k = KK at *
        have HCS : Hid (Calls Try.prog 25 #[s.val] w1 fun e w' => ∃ s' : St, e = .returned s'.val ∧ SameT s' s ∧ OwnS w1.heap.size w' s' ∧ Below w1.heap.size w1 w') := copyState_any p s w1 hsk HF.out
        have HKB : Hid (Blk w1 (w.heap.size + 2) 3 1 (fun _ => .int .i64 (o : Int))) := kb
        clear hpk hsk hBw hz kb
        go_wp2_with (go_at_call 22; refine calls_to (Has_any _ _ _ osn0) ?_)
        rw [← HOA.out]
        refine Calls.mono HCS.out ?_
        rintro e w4 ⟨x0, rfl, hsame, hown, hB4⟩
        clear HCS l1 d0 d1 l2 c0 c1 c2 c3 c4 c5 c6 z0 hbo k1 g2 b0 b1 HOA
        obtain ⟨W5, hW5, hWB5, K5⟩ : ∃ W, w4.alloc (.cells #[.slice x0.on.a x0.on.n x0.on.c, .slice x0.os.a x0.os.n x0.os.c, .slice x0.hs.a x0.hs.n x0.hs.c, .slice x0.ms.a x0.ms.n x0.ms.c, .slice x0.si.a x0.si.n x0.si.c, .slice x0.so.a x0.so.n x0.so.c, .slice x0.sf.a x0.sf.n x0.sf.c] 31) = W ∧ Below w4.heap.size w4 W ∧ Blk W w4.heap.size 31 7 (fun j => x0.cells.getD j default) := ⟨_, rfl, (Below.refl _ _).alloc (Nat.le_refl _) _, Blk.mk' rfl rfl⟩
        have HW5 : Hid (w4.alloc (.cells #[.slice x0.on.a x0.on.n x0.on.c, .slice x0.os.a x0.os.n x0.os.c, .slice x0.hs.a x0.hs.n x0.hs.c, .slice x0.ms.a x0.ms.n x0.ms.c, .slice x0.si.a x0.si.n x0.si.c, .slice x0.so.a x0.so.n x0.so.c, .slice x0.sf.a x0.sf.n x0.sf.c] 31) = W5) := hW5
        have hB15 := hB4.trans (hWB5.mono hB4.size)
        have hB5 := hB.trans (hB15.mono hB.size)
        have hown5 := OwnS.below hown hWB5
        have ho0 : o < x0.os.n := by rw [hsame.os.1]; exact ho
        have HS0 : Hid (SameT x0 s) := hsame
        have s2 : W5.cell? ⟨w4.heap.size, 2, none⟩ = some (.slice x0.hs.a x0.hs.n x0.hs.c) := K5.cell (j := 2) (by decide)
        have s1 := K5.lt
        have HD : Hid (Calls Try.prog 47 #[.slice x0.hs.a x0.hs.n x0.hs.c, .func (.func 48) #[] #[.pointer (some ⟨w.heap.size + 1 + 1, 0, none⟩)]] W5 fun e w' => e = .returned (.slice (dropH x0.hs (fun x => x.o == (o : Int))).a (dropH x0.hs (fun x => x.o == (o : Int))).n (dropH x0.hs (fun x => x.o == (o : Int))).c) ∧ OwnS w1.heap.size w' (withHolds x0 (dropH x0.hs (fun x => x.o == (o : Int)))) ∧ Below w1.heap.size W5 w' ∧ (∀ q t m g, t ≠ 76 → Blk W5 q t m g → Blk w' q t m g)) :=
          DelS_any 48 #[.pointer (some ⟨w.heap.size + 1 + 1, 0, none⟩)] (fun x => x.o == (o : Int)) w1.heap.size x0 W5 hB15.size hown5 (enters_of Try.func48 (by kernel_rfl) rfl) (fun x wz hz => by
            have hlt := HKB.out.lt
            exact Cancel1_any (w.heap.size + 1 + 1) x o wz (Nat.lt_of_lt_of_le hlt (Nat.le_trans hB15.size hz.size)) ((hz.cell (p := ⟨w.heap.size + 2, 0, none⟩) hlt).trans ((hB15.cell (p := ⟨w.heap.size + 2, 0, none⟩) hlt).trans (HKB.out.cell (j := 0) (by decide)))))
        have HB5 : Hid (Below W0.heap.size W0 W5 ∧ W0.heap.size ≤ w1.heap.size ∧ w1.heap.size ≤ w4.heap.size ∧ w1.heap.size ≤ W5.heap.size) := ⟨hB5, hB.size, hB4.size, hB15.size⟩
        have HK5 : Hid (Blk W5 w4.heap.size 31 7 (fun j => x0.cells.getD j default)) := K5
        rw [← HW5.out] at s1 s2
        clear hW5 hown hown5 K5 hB4 hWB5 hB15 hB5 hsame hB
        simp only [St.val]
        go_wp2_with fail
        rw [HW5.out]
        clear s1 s2 HW5
        refine HD.out.mono ?_
        rintro e w6 ⟨rfl, hO6, hB6, hkeep⟩
        have HDP : Hid (∀ h : Hs, h = dropH x0.hs (fun x => x.o == (o : Int)) → h.a = x0.hs.a ∧ h.c = x0.hs.c) := fun h e => by rw [e]; exact ⟨rfl, rfl⟩
        obtain ⟨hD, hDe⟩ : ∃ hD, dropH x0.hs (fun x => x.o == (o : Int)) = hD := ⟨_, rfl⟩
        have HDE : Hid (dropH x0.hs (fun x => x.o == (o : Int)) = hD) := hDe
        rw [hDe] at hO6 ⊢
        clear HD hDe HDP
        obtain ⟨e1, e2, e3, e4⟩ := HB5.out
        have K6 := hkeep _ _ _ _ (by decide) HK5.out
        have hB06 := e1.trans (hB6.mono e2)
        have n1 := K6.lt
        have n2 := K6.frozen 2
        have n3 := K6.cell (j := 2) (by decide)
        have hO7 := hO6.box K6 2 (.slice hD.a hD.n hD.c)
        have K7 : Blk (w6.setCell ⟨w4.heap.size, 2, none⟩ (.slice hD.a hD.n hD.c)) w4.heap.size 31 7 (fun j => (withHolds x0 hD).cells.getD j default) := (K6.set 2 (.slice hD.a hD.n hD.c)).congr (fun j hj => by match j, hj with | 0, _ => rfl | 1, _ => rfl | 2, _ => rfl | 3, _ => rfl | 4, _ => rfl | 5, _ => rfl | 6, _ => rfl)
        have hB07 := hB06.setCell (p := ⟨w4.heap.size, 2, none⟩) (by show W0.heap.size ≤ w4.heap.size; omega) (.slice hD.a hD.n hD.c)
        have hs7 : w6.heap.size ≤ (w6.setCell ⟨w4.heap.size, 2, none⟩ (.slice hD.a hD.n hD.c)).heap.size := by simp
        have a6 := hB6.size
        obtain ⟨gO, g1, g2, g3⟩ := hO7.os.list (by show 0 < x0.os.n; omega)
        have g1' : x0.os.a = some ⟨gO, 0, none⟩ := g1
        have gne : ¬ gO = w4.heap.size := Blk.ne2 g3 K7 (by decide)
        have gne2 : ¬ w4.heap.size = gO := fun e => gne e.symm
        have u1 := (K7.cell (j := 1) (by decide))
        have u1' : (w6.setCell ⟨w4.heap.size, 2, none⟩ (.slice hD.a hD.n hD.c)).cell? ⟨w4.heap.size, 1, none⟩ = some (.slice x0.os.a x0.os.n x0.os.c) := u1
        rw [g1'] at u1'
        have u2 := g3.lt
        have u3 := g3.frozen (o * 2)
        have u4 := g3.cell (j := o * 2) (by show o * 2 < x0.os.n * 2; omega)
        generalize (flatO (withHolds x0 hD).os.n (withHolds x0 hD).os.z).getD (o * 2) default = VV at u4
        have k8 := hO7.kind (o := o) ho0 g1 2
        have K8 := K7.other (a := ⟨gO, o * 2, none⟩) gne2 (.int .i64 2)
        have hB08 := hB07.setCell (p := ⟨gO, o * 2, none⟩) (by show W0.heap.size ≤ gO; omega) (.int .i64 2)
        obtain ⟨⟨-, -⟩, -, -, hBx, -, kbx⟩ := HC.out _ hB07
        have u5 := kbx.cell (j := 0) (by decide)
        have u6 := kbx.lt
        have kne : ¬ w.heap.size + 2 = gO := by have := HKB.out.lt; omega
        have kne2 : ¬ gO = w.heap.size + 2 := fun e => kne e.symm
        have ko0 : o < (kindS (withHolds x0 hD) o 2).os.n := ho0
        have HBD : Hid (∀ j, j < ((kindS (withHolds x0 hD) o 2).os.z o).ls.n → (0 ≤ (((kindS (withHolds x0 hD) o 2).os.z o).ls.z j).l ∧ (((kindS (withHolds x0 hD) o 2).os.z o).ls.z j).l ≤ 200) ∧ 0 ≤ (((kindS (withHolds x0 hD) o 2).os.z o).ls.z j).b ∧ (((kindS (withHolds x0 hD) o 2).os.z o).ls.z j).b ≤ 200) := by
          show ∀ j, j < ((kindS (withHolds x0 hD) o 2).os.z o).ls.n → _
          rw [kindS_at]
          intro j hj
          have e := HS0.out.os.2 o ho0
          have hj' : j < (x0.os.z o).ls.n := hj
          have hl := badLine_no (HF.out.line o ho j (by omega))
          show (0 ≤ ((x0.os.z o).ls.z j).l ∧ ((x0.os.z o).ls.z j).l ≤ 200) ∧ 0 ≤ ((x0.os.z o).ls.z j).b ∧ ((x0.os.z o).ls.z j).b ≤ 200
          rw [e.2.2 j hj']
          omega
        have H8 : Hid (OwnS w1.heap.size ((w6.setCell ⟨w4.heap.size, 2, none⟩ (.slice hD.a hD.n hD.c)).setCell ⟨gO, o * 2, none⟩ (.int .i64 2)) (kindS (withHolds x0 hD) o 2) ∧ Blk ((w6.setCell ⟨w4.heap.size, 2, none⟩ (.slice hD.a hD.n hD.c)).setCell ⟨gO, o * 2, none⟩ (.int .i64 2)) w4.heap.size 31 7 (fun j => (withHolds x0 hD).cells.getD j default) ∧ Below W0.heap.size W0 ((w6.setCell ⟨w4.heap.size, 2, none⟩ (.slice hD.a hD.n hD.c)).setCell ⟨gO, o * 2, none⟩ (.int .i64 2)) ∧ w1.heap.size ≤ ((w6.setCell ⟨w4.heap.size, 2, none⟩ (.slice hD.a hD.n hD.c)).setCell ⟨gO, o * 2, none⟩ (.int .i64 2)).heap.size) := ⟨k8, K8, hB08, by simp; omega⟩
        have HG1 : Hid ((kindS (withHolds x0 hD) o 2).os.a = some ⟨gO, 0, none⟩) := g1
        have v1 : x0.os.n ≤ x0.os.c := hO7.os.le
        have v2 : x0.os.c ≤ maxLen := hO7.os.cap
        unfold maxLen at v2
        clear hO6 hB6 hkeep K6 hB06 hO7 K7 hB07 g1 g1' g3 u1 k8 K8 hB08 hBx kbx HK5
        go_wp2_with fail
        refine (lack_any (kindS (withHolds x0 hD) o 2) o w1.heap.size gO _ H8.out.2.2.2 H8.out.1 ko0 HG1.out HBD.out).mono ?_
        rintro e w9 ⟨rfl, hO9, hB9, hK9⟩
        have K9 := hK9 _ _ _ _ (by decide) (by decide) H8.out.2.1
        have hB09 := H8.out.2.2.1.trans (hB9.mono e2)
        clear n1 n2 n3 hs7 u1' u2 u3 u4 u5 u6 H8
        have HX9 : Hid (OwnS w1.heap.size w9 (lackS (kindS (withHolds x0 hD) o 2) o ((kindS (withHolds x0 hD) o 2).os.z o).ls.n)) := hO9
        have KC : Blk w9 w4.heap.size 31 7 (fun j => (cancelT x0 o).cells.getD j default) := K9.congr (fun j hj => by unfold cancelT; rw [HDE.out]; match j, hj with | 0, _ => rfl | 1, _ => rfl | 2, _ => rfl | 3, _ => rfl | 4, _ => rfl | 5, _ => rfl | 6, _ => rfl)
        have HO9 : Hid (OwnS w1.heap.size w9 (cancelT x0 o)) := by
          have h := HX9.out
          rw [kindS_at] at h
          show OwnS w1.heap.size w9 (cancelT x0 o)
          unfold cancelT
          rw [HDE.out]
          exact h
        have HTS : Hid (SameT (cancelT x0 o) (cancelT s o)) := cancel_same HS0.out ho0
        clear hO9 hB9 hK9 K9 HX9
        generalize cancelT x0 o = y at *
        obtain ⟨m1, p0, p1, p2, p3, p4, p5, p6⟩ := Boxed.of KC
        obtain ⟨-, -, -, hBw, hz, -⟩ := HC.out w9 hB09
        have HZ : Hid (Below w.heap.size w w9 ∧ Blk w9 (w.heap.size + 3) 31 7 (fun _ => .slice .none 0 0)) := ⟨hBw, hz⟩
        have zl := hz.lt
        have zf0 := hz.frozen 0
        have zc0 := hz.cell (j := 0) (by decide)
        have zf1 := hz.frozen 1
        have zc1 := hz.cell (j := 1) (by decide)
        have zf2 := hz.frozen 2
        have zc2 := hz.cell (j := 2) (by decide)
        have zf3 := hz.frozen 3
        have zc3 := hz.cell (j := 3) (by decide)
        have zf4 := hz.frozen 4
        have zc4 := hz.cell (j := 4) (by decide)
        have zf5 := hz.frozen 5
        have zc5 := hz.cell (j := 5) (by decide)
        have zf6 := hz.frozen 6
        have zc6 := hz.cell (j := 6) (by decide)
        have hlow := (HC.out _ HB5.out.1).2.2.2.1.size
        clear KC hBw hz
        go_wp2_with fail
        have KZ := set7_blk HZ.out.2 (.slice y.on.a y.on.n y.on.c) (.slice y.os.a y.os.n y.os.c) (.slice y.hs.a y.hs.n y.hs.c) (.slice y.ms.a y.ms.n y.ms.c) (.slice y.si.a y.si.n y.si.c) (.slice y.so.a y.so.n y.so.c) (.slice y.sf.a y.sf.n y.sf.c)
        have hbz := set7_below (b := w.heap.size + 3) HZ.out.1 (by omega) (.slice y.on.a y.on.n y.on.c) (.slice y.os.a y.os.n y.os.c) (.slice y.hs.a y.hs.n y.hs.c) (.slice y.ms.a y.ms.n y.ms.c) (.slice y.si.a y.si.n y.si.c) (.slice y.so.a y.so.n y.so.c) (.slice y.sf.a y.sf.n y.sf.c)
        have hOz := OwnS.set7 HO9.out HZ.out.2 (.slice y.on.a y.on.n y.on.c) (.slice y.os.a y.os.n y.os.c) (.slice y.hs.a y.hs.n y.hs.c) (.slice y.ms.a y.ms.n y.ms.c) (.slice y.si.a y.si.n y.si.c) (.slice y.so.a y.so.n y.so.c) (.slice y.sf.a y.sf.n y.sf.c)
        unfold set7 at KZ hbz hOz
        obtain ⟨c0', c1', c2', c3', c4', c5', c6'⟩ := box_cells KZ
        refine bodyPost_ret (v := .tuple #[y.val, .int .i64 0]) (by simp [results, Try.results18, go_sem, St.val, c0', c1', c2', c3', c4', c5', c6']) rfl ?_
        refine ⟨y, by rw [HX.out]; rfl, hOz.at, ⟨fun _ => HTS.out, fun h => absurd HX.out h⟩, fun _ => hOz.mono (by omega), hbz⟩
  · have HX : Hid (cancelE p s order = stateE p s) := cancelE_state h0
    have HNE : Hid (¬ cancelE p s order = 0) := by show ¬ _; rw [cancelE_state h0]; exact h0
    have g0 : (stateE p s != 0) = true := by simpa using h0
    clear h0
    clear hpk hsk kb
    have zl := hz.lt
    have zf0 := hz.frozen 0
    have zc0 := hz.cell (j := 0) (by decide)
    have zf1 := hz.frozen 1
    have zc1 := hz.cell (j := 1) (by decide)
    have zf2 := hz.frozen 2
    have zc2 := hz.cell (j := 2) (by decide)
    have zf3 := hz.frozen 3
    have zc3 := hz.cell (j := 3) (by decide)
    have zf4 := hz.frozen 4
    have zc4 := hz.cell (j := 4) (by decide)
    have zf5 := hz.frozen 5
    have zc5 := hz.cell (j := 5) (by decide)
    have zf6 := hz.frozen 6
    have zc6 := hz.cell (j := 6) (by decide)
    go_wp2_with fail
    have KZ := set7_blk hz (.slice .none 0 0) (.slice .none 0 0) (.slice .none 0 0) (.slice .none 0 0) (.slice .none 0 0) (.slice .none 0 0) (.slice .none 0 0)
    have hbz := set7_below (b := w.heap.size + 3) hBw (by omega) (.slice .none 0 0) (.slice .none 0 0) (.slice .none 0 0) (.slice .none 0 0) (.slice .none 0 0) (.slice .none 0 0) (.slice .none 0 0)
    unfold set7 at KZ hbz
    obtain ⟨c0', c1', c2', c3', c4', c5', c6'⟩ := box_cells KZ
    refine bodyPost_ret (v := .tuple #[noneS.val, .int .i64 (stateE p s)]) (by simp [results, Try.results18, go_sem, noneS, St.val, c0', c1', c2', c3', c4', c5', c6']) rfl ?_
    exact ⟨noneS, by rw [HX.out]; rfl, noneS_at _, ⟨fun h => absurd h (HNE.out), fun _ => ⟨rfl, rfl, rfl, rfl, rfl, rfl, rfl⟩⟩, fun h => absurd h (HNE.out), hbz⟩
end Go.Proofs.Ytbcacebifpagpad
namespace Go.Proofs.Ytbcacebifpagpad
open Go.RowKit
set_option linter.unusedVariables false
theorem Step.none {p : Pl} {but : Int} {y x : St} {i j : Nat} {n : Int} (h : TakeIn p y i j n) (h0 : ∀ c : Nat, c < p.nb → ¬ ((c : Nat) : Int) = but → availZ y c ((y.os.z i).ls.z j).o.toNat = 0) (T : Step p but y i j n x) : SameT x y := by
  have k := h.tkw (but := but)
  have tz : ∀ c, (Tk.go (avT y i j) n (wayT p but)).took c = 0 := fun c => by
    by_cases hm : c ∈ wayT p but
    · have w := StepIn.way _ hm
      have u := h0 c.toNat (by omega) (by rw [show ((c.toNat : Nat) : Int) = c by omega]; exact (wayT_mem.1 hm).2)
      have v := k.had _ hm
      have t0 := k.took0 c
      have e2 : avT y i j c = 0 := u
      rw [e2] at v
      omega
    · exact k.other _ hm
  have sz := k.sum
  rw [sumTo_zero fun c hc => tz c] at sz
  exact Took.same T (Took.congr (Took.start (n := n) h.fm.hold (SameT.self y)) (show (Tk.go (avT y i j) n (wayT p but)).left = n by omega) tz)
section
variable {p : Pl} {s x z : St}
theorem Released.kind (r : RightT p s) (h : Released p s x) {i : Nat} (hi : i < x.os.n) : ¬ (x.os.z i).k = 0 ∧ (x.os.z i).ls.n = (s.os.z i).ls.n := by
  have P := h.pos r
  have hs : i < s.os.n := by have := P.al.osn; exact this ▸ hi
  have k := P.al.kind i hs
  refine ⟨fun e => ?_, k.2.trans (relM_eq s i).symm⟩
  rw [k.1] at e
  have e' : (relOd s.os.n i (s.os.z i)).k = 0 := e
  unfold relOd at e'
  by_cases c : i < s.os.n ∧ (s.os.z i).k = 0
  · rw [if_pos c] at e'; cases e'
  · rw [if_neg c] at e'; exact c ⟨hs, e'⟩
theorem Released.none (r : RightT p s) (h : Released p s x) {i j : Nat} (hi : i < x.os.n) (hj : j < (x.os.z i).ls.n) (hk : (x.os.z i).k = 1) (hb : 0 < ((x.os.z i).ls.z j).n) {c : Nat} (hc : c < p.nb) : availZ x c ((x.os.z i).ls.z j).o.toNat = 0 := by
  have P := h.pos r
  have hs : i < s.os.n := by have := P.al.osn; exact this ▸ hi
  have k := P.al.kind i hs
  have hj' : j < ((relO s s.os.n).os.z i).ls.n := by rw [← k.2]; exact hj
  have q : relQ s i j = (((relO s s.os.n).os.z i).ls.z j).n := if_pos (k.1.symm.trans hk)
  rw [(P.al.line i hs j hj').1]
  exact P.none i j hs hj' (Or.inl hs) q hb c hc (by omega)
theorem Released.first (r : RightT p s) (h : Released p s x) {a b a' b' : Nat} (ha : a < a') (ha' : a' < s.os.n) (hb : b < (s.os.z a).ls.n) (hb' : b' < (s.os.z a').ls.n) (hk : (x.os.z a).k = 1) (hn : ¬ ((x.os.z a).ls.z b).n = 0) (hg : ((x.os.z a).ls.z b).o = ((x.os.z a').ls.z b').o) : keptS x.hs.z a' b' x.hs.n = keptS s.hs.z a' b' s.hs.n := by
  have P := h.pos r
  have hs : a < s.os.n := by omega
  have k := P.al.kind a hs
  have hb1 : b < ((relO s s.os.n).os.z a).ls.n := by rw [← relM_eq]; exact hb
  have hb2 : b' < ((relO s s.os.n).os.z a').ls.n := by rw [← relM_eq]; exact hb'
  have q : relQ s a b = (((relO s s.os.n).os.z a).ls.z b).n := if_pos (k.1.symm.trans hk)
  have n0 := (right_line P.al.r (by rw [P.al.osn]; exact hs) (by rw [k.2]; exact hb1)).1
  rw [(P.al.line a hs b hb1).1, (P.al.line a' ha' b' hb2).1] at hg
  exact P.first a b hs hb1 a' b' ha' hb2 (Or.inl ha) (Or.inl ha') q (by omega) hg
end
end Go.Proofs.Ytbcacebifpagpad
namespace Go.Proofs.Ytbcacebifpagpad
open Go.RowKit Go.Shelf Go.Sort
set_option linter.unusedVariables false
set_option maxRecDepth 100000 in
set_option maxHeartbeats 2000000 in
theorem allocCheck1_any (B1 B2 B3 : Nat) (s : St) (order line : Int) (w : World) (hs : s.os.At w) (h1 : B1 < w.heap.size) (h2 : B2 < w.heap.size) (h3 : B3 < w.heap.size) (c1 : w.cell? ⟨B1, 1, none⟩ = some (.slice s.os.a s.os.n s.os.c)) (c2 : w.cell? ⟨B2, 0, none⟩ = some (.int .i64 order)) (c3 : w.cell? ⟨B3, 0, none⟩ = some (.int .i64 line)) :
    Calls Try.prog 97 #[.pointer (some ⟨B1, 0, none⟩), .pointer (some ⟨B2, 0, none⟩), .pointer (some ⟨B3, 0, none⟩)] w fun e w' => e = .returned (.bool (missL s order line)) ∧ Below w.heap.size w w' := by
  have ole := hs.le
  have ocap0 := hs.cap
  have ocap := ocap0
  unfold maxLen at ocap
  have hon : s.os.n ≤ maxLen := Nat.le_trans ole ocap0
  have r1 : ∀ d os, (grow (redrawn w d) os).cell? ⟨B1, 1, none⟩ = some (.slice s.os.a s.os.n s.os.c) := fun d os => cell_regrown c1 d os
  have r2 : ∀ d os, (grow (redrawn w d) os).cell? ⟨B2, 0, none⟩ = some (.int .i64 order) := fun d os => cell_regrown c2 d os
  have r3 : ∀ d os, (grow (redrawn w d) os).cell? ⟨B3, 0, none⟩ = some (.int .i64 line) := fun d os => cell_regrown c3 d os
  clear c1 c2 c3
  cases k1 : inB order 0 ((s.os.n : Int) - 1)
  · have HM : Hid (missL s order line = true) := by show missL s order line = true; unfold missL; rw [k1]; rfl
    clear hs
    go_enter Try.func97, Try.ntmps97
    go_wp2_with fail
    refine wp_region_quiet_below (by kernel_rfl) (by kernel_rfl) ?_
    repeat (go_big_quiet_step ((go_at_call 22; exact Calls.regrown_of ((Has_any _ _ _ (by assumption)).mono (fun _ _ h => ⟨h.1, h.2 ▸ Below.refl _ _⟩)))))
    refine wpQuiet_nil ?_
    intro _ hw'
    obtain ⟨⟨dq, osq⟩, hw''⟩ := hw'
    subst hw''
    go_wp2_with fail
    go_ret
    exact ⟨by rw [HM.out]; rfl, below_regrown _ _ _⟩
  · obtain ⟨m, rfl⟩ := Int.eq_ofNat_of_zero_le (inB_true k1).1
    have hm : m < s.os.n := by have := (inB_true k1).2; omega
    obtain ⟨b, o, hoa, hb, z0, z1, hl⟩ := hs.ods m hm
    have HM : Hid (missL s (m : Int) line = !(inB line 0 (((s.os.z m).ls.n : Int) - 1))) := by show missL s (m : Int) line = _; unfold missL; rw [k1]; rfl
    have lcap := hl.cap
    have lle := hl.le
    have hln : (s.os.z m).ls.n ≤ maxLen := Nat.le_trans lle lcap
    have r5 : ∀ d os, (grow (redrawn w d) os).cell? ⟨b, o + m * 2 + 1, none⟩ = some (.slice (s.os.z m).ls.a (s.os.z m).ls.n (s.os.z m).ls.c) := fun d os => cell_regrown z1 d os
    have m1 : (0 : Int) ≤ (m : Int) := by omega
    have m2 : (m : Int) < (s.os.n : Int) := by omega
    rw [hoa] at r1
    unfold maxLen at lcap
    clear z0 z1 hl hs hoa
    generalize (s.os.z m).ls.n = LN at *
    generalize (s.os.z m).ls.c = LC at *
    generalize (s.os.z m).ls.a = LA at *
    cases k2 : inB line 0 ((LN : Int) - 1)
    all_goals
      go_enter Try.func97, Try.ntmps97
      go_wp2_with fail
      refine wp_region_quiet_below (by kernel_rfl) (by kernel_rfl) ?_
      repeat (go_big_quiet_step ((go_at_call 22; exact Calls.regrown_of ((Has_any _ _ _ (by assumption)).mono (fun _ _ h => ⟨h.1, h.2 ▸ Below.refl _ _⟩)))))
      refine wpQuiet_nil ?_
      intro _ hw'
      obtain ⟨⟨dq, osq⟩, hw''⟩ := hw'
      subst hw''
      go_wp2_with fail
      go_ret
      exact ⟨by rw [HM.out, k2]; simp, below_regrown _ _ _⟩
set_option maxRecDepth 100000 in
set_option maxHeartbeats 4000000 in
theorem allocCheck_any (p : Pl) (s : St) (order line n but : Int) (w : World) (hp : p.At w) (hs : s.At w) :
    Calls Try.prog 77 #[p.val, s.val, .int .i64 order, .int .i64 line, .int .i64 n, .int .i64 but] w fun e w' => e = .returned (.int .i64 (allocE p s order line n but)) ∧ Below w.heap.size w w' := by
  obtain ⟨W0, hW, hWB, X0, K2, K3⟩ : ∃ W, ((((w.alloc (.cells #[.slice p.ab p.nb p.cb, .slice p.sa p.ns p.cs] 25)).alloc (.cells s.cells 31)).alloc (.cells #[.int .i64 order] 3)).alloc (.cells #[.int .i64 line] 3)) = W ∧ Below w.heap.size w W ∧ Boxes W w.heap.size (w.heap.size + 1) p s ∧ Blk W (w.heap.size + 2) 3 1 (fun _ => .int .i64 order) ∧ Blk W (w.heap.size + 3) 3 1 (fun _ => .int .i64 line) :=
    ⟨_, rfl, ((two_below _ _ _).alloc (by simp; omega) _).alloc (by simp; omega) _, ((boxes_new w p s _ _).below ((Below.refl _ _).alloc (Nat.le_refl _) _)).below ((Below.refl _ _).alloc (Nat.le_refl _) _), ((Blk.mk' (cur := #[.int .i64 order]) (by simp) rfl).congr (fun j hj => by match j, hj with | 0, _ => rfl)).alloc _, (Blk.mk' (cur := #[.int .i64 line]) (by simp) rfl).congr (fun j hj => by match j, hj with | 0, _ => rfl)⟩
  have HC : Hid (∀ wk, Below W0.heap.size W0 wk → Boxes wk w.heap.size (w.heap.size + 1) p s ∧ p.At wk ∧ s.At wk ∧ Below w.heap.size w wk ∧ Blk wk (w.heap.size + 2) 3 1 (fun _ => .int .i64 order) ∧ Blk wk (w.heap.size + 3) 3 1 (fun _ => .int .i64 line)) := fun wk h => ⟨X0.below h, (hp.below hWB).below h, (hs.below hWB).below h, hWB.trans (h.mono hWB.size), K2.below h, K3.below h⟩
  have HW : Hid ((((w.alloc (.cells #[.slice p.ab p.nb p.cb, .slice p.sa p.ns p.cs] 25)).alloc (.cells #[.slice s.on.a s.on.n s.on.c, .slice s.os.a s.os.n s.os.c, .slice s.hs.a s.hs.n s.hs.c, .slice s.ms.a s.ms.n s.ms.c, .slice s.si.a s.si.n s.si.c, .slice s.so.a s.so.n s.so.c, .slice s.sf.a s.sf.n s.sf.c] 31)).alloc (.cells #[.int .i64 order] 3)).alloc (.cells #[.int .i64 line] 3) = W0) := hW
  have leb := hp.leb
  have capb0 := hp.capb
  have capb := capb0
  unfold maxLen at capb
  have hnb : p.nb ≤ maxLen := Nat.le_trans leb capb0
  clear hW X0 K2 K3 hp hs
  unfold Pl.val St.val
  go_enter Try.func77, Try.ntmps77
  go_wp2_with fail
  rw [HW.out]
  obtain ⟨X, hpk, hsk, hBw, -, -⟩ := HC.out W0 (Below.refl _ _)
  refine (stateCheck_any p s W0 hpk hsk).mono ?_
  rintro e w1 ⟨rfl, hB⟩
  clear X hpk hsk hBw HW
  obtain ⟨⟨⟨l1, d0, d1⟩, l2, c0, c1, c2, c3, c4, c5, c6⟩, hpk, hsk, hBw, k2, k3⟩ := HC.out w1 hB
  have HBW : Hid (Below w.heap.size w w1) := hBw
  clear hBw
  by_cases h0 : stateE p s = 0
  · have H0 : Hid (stateE p s = 0) := h0
    have HF : Hid (Formed p s) := (rightT h0).fm
    rw [h0]
    clear h0
    have HCL : Hid (Calls Try.prog 97 #[.pointer (some ⟨w.heap.size + 1, 0, none⟩), .pointer (some ⟨w.heap.size + 1 + 1, 0, none⟩), .pointer (some ⟨w.heap.size + 1 + 1 + 1, 0, none⟩)] w1 fun e w' => e = .returned (.bool (missL s order line)) ∧ Below w1.heap.size w1 w') := allocCheck1_any (w.heap.size + 1) (w.heap.size + 2) (w.heap.size + 3) s order line w1 hsk.os l2 k2.lt k3.lt c1 (k2.cell (j := 0) (by decide)) (k3.cell (j := 0) (by decide))
    have eg := enters_of Try.func97 (by kernel_rfl) rfl
    clear hpk hsk k2 k3 c0 c1 c2 c3 c4 c5 c6 d1
    go_wp2_with fail
    refine HCL.out.mono ?_
    rintro e w2 ⟨rfl, hB2⟩
    have hB3 := hB.trans (hB2.mono hB.size)
    clear l1 d0 l2 hB2 HCL HBW hB eg
    obtain ⟨⟨⟨l1, d0, d1⟩, l2, c0, c1, c2, c3, c4, c5, c6⟩, hpk, hsk, hBw, k2, k3⟩ := HC.out w2 hB3
    have HBW : Hid (Below w.heap.size w w2) := hBw
    clear hBw
    have HR : Hid (∀ a b c d, missL s order line = a → inB n 0 200 = b → (but != -1) = c → inB but 0 ((p.nb : Int) - 1) = d → allocR p s order line n but = (a || !b || (c && !d))) := fun a b c d e1 e2 e3 e4 => by unfold allocR; rw [e1, e2, e3, e4]
    cases m1 : missL s order line
    · have hml := m1
      cases m2 : inB n 0 200
      · have HX : Hid (allocE p s order line n but = 3) := allocE_range H0.out (by rw [HR.out _ _ _ _ m1 m2 rfl rfl]; rfl)
        clear hpk hsk k2 k3 c0 c1 c2 c3 c4 c5 c6 m1 hml
        go_wp2_with (go_at_call 23; refine calls_to (Within_any _ _ _ _) ?_)
        go_ret
        exact ⟨by rw [HX.out]; rfl, HBW.out⟩
      · cases m3 : (but != -1)
        · have HA : Hid (allocR p s order line n but = false) := by show allocR p s order line n but = false; rw [HR.out _ _ _ _ m1 m2 m3 rfl]; rfl
          have hbx := m3
          obtain ⟨a, b, -, -⟩ := allocR_no HA.out
          obtain ⟨o, rfl⟩ := Int.eq_ofNat_of_zero_le a.1
          obtain ⟨l, rfl⟩ := Int.eq_ofNat_of_zero_le b.1
          have ho : o < s.os.n := a.2
          have hl : l < (s.os.z o).ls.n := b.2
          obtain ⟨bo, oo, hoa, hbo, z0, z1, hlk⟩ := hsk.os.ods o ho
          obtain ⟨bl, ol, hla, hbl, y0, y1, y2, y3⟩ := hlk.hds l hl
          have u0 := k2.cell (j := 0) (by decide)
          have u1 := k3.cell (j := 0) (by decide)
          have u2 := k2.lt
          have u3 := k3.lt
          have q0 : (0 : Int) ≤ (o : Int) := by omega
          have q1 : (o : Int) < (s.os.n : Int) := by omega
          have q2 : (0 : Int) ≤ (l : Int) := by omega
          have q3 : (l : Int) < ((s.os.z o).ls.n : Int) := by omega
          have v1 := hsk.os.le
          have v2 := hsk.os.cap
          have v3 := hlk.le
          have v4 := hlk.cap
          unfold maxLen at v2 v4
          have HT6 : Hid (¬ (s.os.z o).k = 1 → allocE p s o l n but = 6) := fun h => allocE_done H0.out HA.out h
          have HT3 : Hid ((s.os.z o).k = 1 → ((s.os.z o).ls.z l).n < n → allocE p s o l n but = 3) := fun h h' => allocE_back H0.out HA.out h h'
          have HT0 : Hid ((s.os.z o).k = 1 → ¬ ((s.os.z o).ls.z l).n < n → allocE p s o l n but = 0) := fun h h' => allocE_ok H0.out HA.out h h'
          rw [hoa] at c1
          rw [hla] at z1
          clear hpk hsk k2 k3 c0 c2 c3 c4 c5 c6 m1 hoa hla hlk y0 y1 y2 a b HR
          generalize (s.os.z o).k = KD at *
          generalize ((s.os.z o).ls.z l).n = LB at *
          generalize (s.os.z o).ls.n = LN at *
          generalize (s.os.z o).ls.c = LC at *
          by_cases g1 : KD = 1
          · have g2 : (KD != 1) = false := by rw [g1]; rfl
            have t1 : ∀ d os, (grow (redrawn w2 d) os).cell? ⟨w.heap.size + 1, 1, none⟩ = some (.slice (some ⟨bo, oo, none⟩) s.os.n s.os.c) := fun d os => cell_regrown c1 d os
            have t2 : ∀ d os, (grow (redrawn w2 d) os).cell? ⟨w.heap.size + 2, 0, none⟩ = some (.int .i64 (o : Int)) := fun d os => cell_regrown u0 d os
            have t3 : ∀ d os, (grow (redrawn w2 d) os).cell? ⟨w.heap.size + 3, 0, none⟩ = some (.int .i64 (l : Int)) := fun d os => cell_regrown u1 d os
            have t4 : ∀ d os, (grow (redrawn w2 d) os).cell? ⟨bo, oo + o * 2 + 1, none⟩ = some (.slice (some ⟨bl, ol, none⟩) LN LC) := fun d os => cell_regrown z1 d os
            have t5 : ∀ d os, (grow (redrawn w2 d) os).cell? ⟨bl, ol + l * 4 + 3, none⟩ = some (.int .i64 LB) := fun d os => cell_regrown y3 d os
            have HTA : Hid (LB < n → allocE p s o l n but = 3) := HT3.out g1
            have HTB : Hid (¬ LB < n → allocE p s o l n but = 0) := HT0.out g1
            clear HT6 HT3 HT0 g1
            cases g3 : decide (LB < n)
            · have HX : Hid (allocE p s o l n but = 0) := HTB.out (of_decide_eq_false g3)
              have g4 : ¬ LB < n := of_decide_eq_false g3
              clear HTA HTB
              go_wp2_with (first | (go_at_call 23; refine calls_to (Within_any _ _ _ _) ?_) | (go_at_call 22; refine calls_to (Has_any _ _ _ hnb) ?_))
              refine wp_region_quiet_below (by kernel_rfl) (by kernel_rfl) ?_
              repeat (go_big_quiet_step (fail))
              refine wpQuiet_nil ?_
              intro _ hw'
              obtain ⟨⟨dq, osq⟩, hw''⟩ := hw'
              subst hw''
              go_wp2_with fail
              go_ret
              exact ⟨by rw [HX.out]; rfl, HBW.out.trans ((below_regrown _ _ _).mono HBW.out.size)⟩
            · have HX : Hid (allocE p s o l n but = 3) := HTA.out (of_decide_eq_true g3)
              have g4 : LB < n := of_decide_eq_true g3
              clear HTA HTB
              go_wp2_with (first | (go_at_call 23; refine calls_to (Within_any _ _ _ _) ?_) | (go_at_call 22; refine calls_to (Has_any _ _ _ hnb) ?_))
              refine wp_region_quiet_below (by kernel_rfl) (by kernel_rfl) ?_
              repeat (go_big_quiet_step (fail))
              refine wpQuiet_nil ?_
              intro _ hw'
              obtain ⟨⟨dq, osq⟩, hw''⟩ := hw'
              subst hw''
              go_wp2_with fail
              go_ret
              exact ⟨by rw [HX.out]; rfl, HBW.out.trans ((below_regrown _ _ _).mono HBW.out.size)⟩
          · have HX : Hid (allocE p s o l n but = 6) := HT6.out g1
            have g2 : (KD != 1) = true := by simpa using g1
            clear HT6 HT3 HT0 g1
            go_wp2_with (first | (go_at_call 23; refine calls_to (Within_any _ _ _ _) ?_) | (go_at_call 22; refine calls_to (Has_any _ _ _ hnb) ?_))
            go_ret
            exact ⟨by rw [HX.out]; rfl, HBW.out⟩
        · cases m4 : inB but 0 ((p.nb : Int) - 1)
          · have HX : Hid (allocE p s order line n but = 3) := allocE_range H0.out (by rw [HR.out _ _ _ _ m1 m2 m3 m4]; rfl)
            clear hpk hsk k2 k3 c0 c1 c2 c3 c4 c5 c6 m1 hml
            go_wp2_with (first | (go_at_call 23; refine calls_to (Within_any _ _ _ _) ?_) | (go_at_call 22; refine calls_to (Has_any _ _ _ hnb) ?_))
            go_ret
            exact ⟨by rw [HX.out]; rfl, HBW.out⟩
          · have HA : Hid (allocR p s order line n but = false) := by show allocR p s order line n but = false; rw [HR.out _ _ _ _ m1 m2 m3 m4]; rfl
            obtain ⟨a, b, -, -⟩ := allocR_no HA.out
            obtain ⟨o, rfl⟩ := Int.eq_ofNat_of_zero_le a.1
            obtain ⟨l, rfl⟩ := Int.eq_ofNat_of_zero_le b.1
            have ho : o < s.os.n := a.2
            have hl : l < (s.os.z o).ls.n := b.2
            obtain ⟨bo, oo, hoa, hbo, z0, z1, hlk⟩ := hsk.os.ods o ho
            obtain ⟨bl, ol, hla, hbl, y0, y1, y2, y3⟩ := hlk.hds l hl
            have u0 := k2.cell (j := 0) (by decide)
            have u1 := k3.cell (j := 0) (by decide)
            have u2 := k2.lt
            have u3 := k3.lt
            have q0 : (0 : Int) ≤ (o : Int) := by omega
            have q1 : (o : Int) < (s.os.n : Int) := by omega
            have q2 : (0 : Int) ≤ (l : Int) := by omega
            have q3 : (l : Int) < ((s.os.z o).ls.n : Int) := by omega
            have v1 := hsk.os.le
            have v2 := hsk.os.cap
            have v3 := hlk.le
            have v4 := hlk.cap
            unfold maxLen at v2 v4
            have HT6 : Hid (¬ (s.os.z o).k = 1 → allocE p s o l n but = 6) := fun h => allocE_done H0.out HA.out h
            have HT3 : Hid ((s.os.z o).k = 1 → ((s.os.z o).ls.z l).n < n → allocE p s o l n but = 3) := fun h h' => allocE_back H0.out HA.out h h'
            have HT0 : Hid ((s.os.z o).k = 1 → ¬ ((s.os.z o).ls.z l).n < n → allocE p s o l n but = 0) := fun h h' => allocE_ok H0.out HA.out h h'
            rw [hoa] at c1
            rw [hla] at z1
            clear hpk hsk k2 k3 c0 c2 c3 c4 c5 c6 m1 hoa hla hlk y0 y1 y2 a b HR
            generalize (s.os.z o).k = KD at *
            generalize ((s.os.z o).ls.z l).n = LB at *
            generalize (s.os.z o).ls.n = LN at *
            generalize (s.os.z o).ls.c = LC at *
            by_cases g1 : KD = 1
            · have g2 : (KD != 1) = false := by rw [g1]; rfl
              have t1 : ∀ d os, (grow (redrawn w2 d) os).cell? ⟨w.heap.size + 1, 1, none⟩ = some (.slice (some ⟨bo, oo, none⟩) s.os.n s.os.c) := fun d os => cell_regrown c1 d os
              have t2 : ∀ d os, (grow (redrawn w2 d) os).cell? ⟨w.heap.size + 2, 0, none⟩ = some (.int .i64 (o : Int)) := fun d os => cell_regrown u0 d os
              have t3 : ∀ d os, (grow (redrawn w2 d) os).cell? ⟨w.heap.size + 3, 0, none⟩ = some (.int .i64 (l : Int)) := fun d os => cell_regrown u1 d os
              have t4 : ∀ d os, (grow (redrawn w2 d) os).cell? ⟨bo, oo + o * 2 + 1, none⟩ = some (.slice (some ⟨bl, ol, none⟩) LN LC) := fun d os => cell_regrown z1 d os
              have t5 : ∀ d os, (grow (redrawn w2 d) os).cell? ⟨bl, ol + l * 4 + 3, none⟩ = some (.int .i64 LB) := fun d os => cell_regrown y3 d os
              have HTA : Hid (LB < n → allocE p s o l n but = 3) := HT3.out g1
              have HTB : Hid (¬ LB < n → allocE p s o l n but = 0) := HT0.out g1
              clear HT6 HT3 HT0 g1
              cases g3 : decide (LB < n)
              · have HX : Hid (allocE p s o l n but = 0) := HTB.out (of_decide_eq_false g3)
                have g4 : ¬ LB < n := of_decide_eq_false g3
                clear HTA HTB
                go_wp2_with (first | (go_at_call 23; refine calls_to (Within_any _ _ _ _) ?_) | (go_at_call 22; refine calls_to (Has_any _ _ _ hnb) ?_))
                refine wp_region_quiet_below (by kernel_rfl) (by kernel_rfl) ?_
                repeat (go_big_quiet_step (fail))
                refine wpQuiet_nil ?_
                intro _ hw'
                obtain ⟨⟨dq, osq⟩, hw''⟩ := hw'
                subst hw''
                go_wp2_with fail
                go_ret
                exact ⟨by rw [HX.out]; rfl, HBW.out.trans ((below_regrown _ _ _).mono HBW.out.size)⟩
              · have HX : Hid (allocE p s o l n but = 3) := HTA.out (of_decide_eq_true g3)
                have g4 : LB < n := of_decide_eq_true g3
                clear HTA HTB
                go_wp2_with (first | (go_at_call 23; refine calls_to (Within_any _ _ _ _) ?_) | (go_at_call 22; refine calls_to (Has_any _ _ _ hnb) ?_))
                refine wp_region_quiet_below (by kernel_rfl) (by kernel_rfl) ?_
                repeat (go_big_quiet_step (fail))
                refine wpQuiet_nil ?_
                intro _ hw'
                obtain ⟨⟨dq, osq⟩, hw''⟩ := hw'
                subst hw''
                go_wp2_with fail
                go_ret
                exact ⟨by rw [HX.out]; rfl, HBW.out.trans ((below_regrown _ _ _).mono HBW.out.size)⟩
            · have HX : Hid (allocE p s o l n but = 6) := HT6.out g1
              have g2 : (KD != 1) = true := by simpa using g1
              clear HT6 HT3 HT0 g1
              go_wp2_with (first | (go_at_call 23; refine calls_to (Within_any _ _ _ _) ?_) | (go_at_call 22; refine calls_to (Has_any _ _ _ hnb) ?_))
              go_ret
              exact ⟨by rw [HX.out]; rfl, HBW.out⟩
    · have HX : Hid (allocE p s order line n but = 3) := allocE_range H0.out (by rw [HR.out _ _ _ _ m1 rfl rfl rfl]; rfl)
      clear hpk hsk k2 k3 c0 c1 c2 c3 c4 c5 c6 m1
      go_wp2_with fail
      go_ret
      exact ⟨by rw [HX.out]; rfl, HBW.out⟩
  · have HX : Hid (allocE p s order line n but = stateE p s) := allocE_state h0
    clear hpk hsk k2 k3 c0 c1 c2 c3 c4 c5 c6
    go_wp2_with fail
    go_ret
    exact ⟨by rw [HX.out]; rfl, HBW.out⟩
end Go.Proofs.Ytbcacebifpagpad
namespace Go.Proofs.Ytbcacebifpagpad
open Go.RowKit Go.Shelf
set_option linter.unusedVariables false
attribute [local go_sem] Oper.semAt_some
theorem frL_prefix (p : Pl) (f : Bool) {k m : Nat} (h : k ≤ m) : frL p f k <+: frL p f m := by
  induction m with
  | zero => rw [show k = 0 by omega]; exact List.prefix_refl _
  | succ m ih =>
    by_cases hk : k = m + 1
    · rw [hk]; exact List.prefix_refl _
    · refine (ih (by omega)).trans ?_
      by_cases hf : (p.zb m).front = f
      · rw [frL_hit hf]; exact List.prefix_append _ _
      · rw [frL_miss hf]; exact List.prefix_refl _
def keepsB (n₀ Bf : Nat) (A B : World) : Prop := Below n₀ A B ∧ (∀ v, A.cell? ⟨Bf, 0, none⟩ = some v → B.cell? ⟨Bf, 0, none⟩ = some v)
set_option maxRecDepth 100000 in
set_option maxHeartbeats 2000000 in
theorem binsOf1_in (F : Fence) (n : Nat) (h6 : F.fn 103) (hro : F.round = none) (hn : 1 ≤ n) (l Bp Bf n₀ : Nat) (p : Pl) (f : Bool) (J Jx : List Int → World → Prop)
    (hY : ∀ pre x W, J pre W → pre.length < p.nb → YieldAt F (n - 1) Try.prog l #[.int .i64 x] W fun e W' =>
      (e = .returned (.bool true) ∧ J (pre ++ [x]) W' ∧ keepsB n₀ Bf W W') ∨ (e = .returned (.bool false) ∧ Jx (pre ++ [x]) W'))
    (W : World) (hJ : AbidesFrom W.heap.size J) (hn₀ : n₀ ≤ W.heap.size) (hBp : W.cell? ⟨Bp, 0, none⟩ = some (.slice p.ab p.nb p.cb)) (hBf : W.cell? ⟨Bf, 0, none⟩ = some (.bool f)) (hle : p.nb ≤ p.cb) (hcap : p.cb ≤ maxLen)
    (hL : ∀ W', Below n₀ W W' → BinsAt W' p.ab p.nb p.zb) (h0 : J [] W) :
    CallsIn F n Try.prog 103 #[.func (.yield l) #[] #[], .pointer (some ⟨Bp, 0, none⟩), .pointer (some ⟨Bf, 0, none⟩)] W fun e W' => (∃ v, e = .returned v) ∧
      ((∃ ys, ys = frL p f p.nb ∧ J ys W') ∨ (∃ pre, pre <+: frL p f p.nb ∧ Jx pre W')) := by
  unfold maxLen at hcap
  have hS : Hid (∀ wr, Below n₀ W wr → W.heap.size ≤ wr.heap.size) := fun wr h => h.size
  have HJA : Hid (∀ pre A o, J pre A → J pre (A.alloc o)) := fun pre A o h => hJ pre A (A.alloc o) none h (World.grownBy_alloc A o none) (fun r e => by cases e)
  refine callsIn_of_wp Try.func103 rfl h6 ?_ hro
  simp only [Try.ntmps103, List.size_toArray, List.length_cons, List.length_nil, Nat.reduceAdd, Nat.reduceSub, Array.replicate_succ, Array.replicate_zero, List.push_toArray, List.append_toArray, List.nil_append, List.cons_append]
  gi_wp2
  gi_loopw [9] (fun i wr => ∃ k : Nat, k ≤ p.nb ∧ i = .int .i64 k ∧ J (frL p f k) wr ∧ Below n₀ W wr ∧ wr.cell? ⟨Bf, 0, none⟩ = some (.bool f)) (fun i _ => p.nb - (intOf i).toNat)
  case atStart => exact ⟨0, Nat.zero_le _, rfl, h0, Below.refl _ _, hBf⟩
  case round =>
    obtain ⟨k, hk, rfl, hJs, hB, hcf⟩ := hrel
    by_cases hlt : k < p.nb
    · obtain ⟨b, o, hab, hb, z0, z1, z2, z3⟩ := hL _ hB k hlt
      have m1 : (0 : Int) ≤ (k : Int) := by omega
      have hltf : Bf < wr.heap.size := World.block_lt_of_cell? wr _ hcf
      have hfl := frL_len p f k
      rw [hab]
      clear hab
      by_cases hf : (p.zb k).front = f
      · rw [hf] at z0
        have hJa := HJA.out _ wr (.cells #[.bool f, .int .i64 (p.zb k).room, .int .i64 (p.zb k).low, .int .i64 (p.zb k).high] 64) hJs
        obtain ⟨fn, tmps, assign, body, hy, hR⟩ := hY (frL p f k) k _ hJa (by omega)
        gi_wp2
        refine hR.mono ?_
        rintro e W3 (⟨rfl, hJ3, hk3⟩ | ⟨rfl, hJx3⟩)
        · have hB3 : Below n₀ W W3 := (hB.alloc (Nat.le_trans hn₀ (hS.out wr hB)) _).trans hk3.1
          have hc3 : W3.cell? ⟨Bf, 0, none⟩ = some (.bool f) := hk3.2 _ ((((Below.refl wr.heap.size wr).alloc (Nat.le_refl _) _).cell (p := ⟨Bf, 0, none⟩) hltf).trans hcf)
          rw [← frL_hit hf] at hJ3
          clear hk3 hR
          gi_wp2
          go_roundw
          case rel => exact ⟨k + 1, by omega, by go_num, hJ3, hB3, hc3⟩
          case measure => simp [intOf]; omega
        · rw [← frL_hit hf] at hJx3
          gi_wp2
          refine bodyPost_ret (results_none rfl _ _ _) rfl ?_
          exact ⟨⟨_, rfl⟩, .inr ⟨frL p f (k + 1), frL_prefix p f (by omega), hJx3⟩⟩
      · have hJa := HJA.out _ wr (.cells #[.bool (p.zb k).front, .int .i64 (p.zb k).room, .int .i64 (p.zb k).low, .int .i64 (p.zb k).high] 64) hJs
        rw [← frL_miss hf] at hJa
        have hBa := hB.alloc (Nat.le_trans hn₀ (hS.out wr hB)) (.cells #[.bool (p.zb k).front, .int .i64 (p.zb k).room, .int .i64 (p.zb k).low, .int .i64 (p.zb k).high] 64)
        have hca := (((Below.refl wr.heap.size wr).alloc (Nat.le_refl _) (.cells #[.bool (p.zb k).front, .int .i64 (p.zb k).room, .int .i64 (p.zb k).low, .int .i64 (p.zb k).high] 64)).cell (p := ⟨Bf, 0, none⟩) hltf).trans hcf
        have HA : Hid (J (frL p f (k + 1)) (wr.alloc (.cells #[.bool (p.zb k).front, .int .i64 (p.zb k).room, .int .i64 (p.zb k).low, .int .i64 (p.zb k).high] 64)) ∧ Below n₀ W (wr.alloc (.cells #[.bool (p.zb k).front, .int .i64 (p.zb k).room, .int .i64 (p.zb k).low, .int .i64 (p.zb k).high] 64)) ∧ (wr.alloc (.cells #[.bool (p.zb k).front, .int .i64 (p.zb k).room, .int .i64 (p.zb k).low, .int .i64 (p.zb k).high] 64)).cell? ⟨Bf, 0, none⟩ = some (.bool f)) := ⟨hJa, hBa, hca⟩
        clear hJa hBa hca
        gi_wp2
        refine ⟨fun _ h => (by cases h), ?_⟩
        gi_wp2
        go_roundw
        case rel => exact ⟨k + 1, by omega, by go_num, HA.out.1, HA.out.2.1, HA.out.2.2⟩
        case measure => simp [intOf]; omega
    · gi_wp2
      go_end0
      have hkn : k = p.nb := by omega
      subst hkn
      exact ⟨⟨_, rfl⟩, .inl ⟨_, rfl, hJs⟩⟩
end Go.Proofs.Ytbcacebifpagpad
namespace Go.Proofs.Ytbcacebifpagpad
open Go.RowKit Go.Shelf
set_option linter.unusedVariables false
attribute [local go_sem] Oper.semAt_some
theorem keepsB_t {n₀ Bf : Nat} {A B C : World} (h : keepsB n₀ Bf A B) (k : keepsB n₀ Bf B C) : keepsB n₀ Bf A C := ⟨h.1.trans k.1, fun v hv => k.2 v (h.2 v hv)⟩
theorem keepsB_b {n₀ Bf : Nat} {w : World} (hn : n₀ ≤ w.heap.size) (hb : Bf < w.heap.size) (W : World) (l : Nat) (o o' : Obj) (hl : w.heap.size ≤ l) (h : W.heap[l]? = some o) (h1 : o.isCells = false) (h2 : o.isWalk = false) : keepsB n₀ Bf W (W.putObj l o') :=
  ⟨belowK_b hn W l o o' hl h h1 h2, fun v hv => ((belowK_b (Nat.le_refl _) W l o o' hl h h1 h2).cell (p := ⟨Bf, 0, none⟩) hb).trans hv⟩
set_option maxRecDepth 100000 in
set_option maxHeartbeats 1000000 in
theorem binsOf_in (F : Fence) (n : Nat) (h5 : F.fn 98) (hro : F.round = none) (p : Pl) (f : Bool) (w : World) :
    CallsIn F n Try.prog 98 #[p.val, .bool f] w fun e w' => e = .returned (.func (.func 103) #[] #[.pointer (some ⟨w.heap.size, 0, none⟩), .pointer (some ⟨w.heap.size + 1, 0, none⟩)]) ∧ w' = (w.alloc (.cells #[.slice p.ab p.nb p.cb, .slice p.sa p.ns p.cs] 25)).alloc (.cells #[.bool f] 4) := by
  unfold Pl.val
  refine callsIn_of_wp Try.func98 rfl h5 ?_ hro
  simp only [Try.ntmps98, List.size_toArray, List.length_cons, List.length_nil, Nat.reduceAdd, Nat.reduceSub, Array.replicate_succ, Array.replicate_zero, List.push_toArray, List.append_toArray, List.nil_append, List.cons_append]
  gi_wp2
  go_ret
  exact ⟨rfl, rfl⟩
theorem binsOf_stops (F : Fence) (n : Nat) (h6 : F.fn 103) (hro : F.round = none) (hn : 1 ≤ n) (Bp Bf n₀ : Nat) (p : Pl) (f : Bool) (w : World) (hBp : Bp < w.heap.size) (hBf : Bf < w.heap.size) (hn₀ : n₀ ≤ w.heap.size)
    (hcp : w.cell? ⟨Bp, 0, none⟩ = some (.slice p.ab p.nb p.cb)) (hcf : w.cell? ⟨Bf, 0, none⟩ = some (.bool f)) (hle : p.nb ≤ p.cb) (hcap : p.cb ≤ maxLen) (hL : ∀ W', Below n₀ w W' → BinsAt W' p.ab p.nb p.zb) :
    SeqStopsK F n Try.prog 103 #[.pointer (some ⟨Bp, 0, none⟩), .pointer (some ⟨Bf, 0, none⟩)] (fun x : Int => #[Value.int .i64 x]) (keepsB n₀ Bf) (fun ys => ys = frL p f p.nb) (fun pre => pre <+: frL p f p.nb) p.nb w := fun l J Jx W hW hJ _ hY h0 =>
  binsOf1_in F n h6 hro hn l Bp Bf n₀ p f J Jx hY W hJ (Nat.le_trans hn₀ hW.size) ((hW.cell (p := ⟨Bp, 0, none⟩) hBp).trans hcp) ((hW.cell (p := ⟨Bf, 0, none⟩) hBf).trans hcf) hle hcap (fun W' h => hL W' ((hW.mono hn₀).trans h)) h0
end Go.Proofs.Ytbcacebifpagpad
namespace Go.Proofs.Ytbcacebifpagpad
open Go.RowKit Go.Shelf
set_option linter.unusedVariables false
attribute [local go_sem] Oper.semAt_some
set_option maxRecDepth 100000 in
set_option maxHeartbeats 2000000 in
theorem WayOwn_any (p : Pl) (w : World) (hp : p.At w) :
    Calls Try.prog 78 #[p.val] w fun e w' => ∃ v, e = .returned (.tuple #[v, .int .i64 (planE p)]) ∧ w'.ownsRow w.heap.size 3 1 v (wayR p).length ((wayR p).map (Value.int .i64)) ∧ Below w.heap.size w w' := by
  have leb := hp.leb
  have capb0 := hp.capb
  have capb := capb0
  unfold maxLen at capb
  have hB0 : Below w.heap.size w (w.alloc (.cells #[.slice p.ab p.nb p.cb, .slice p.sa p.ns p.cs] 25)) := (Below.refl w.heap.size w).alloc (Nat.le_refl _) _
  obtain ⟨i1, hj, hy0, hy1, hy2⟩ := info_parts infoInt
  refine (callsIn_wide (n := 5)).1 ?_
  refine callsIn_of_wp_marks Try.func78 rfl trivial ?_ rfl
  simp only [Pl.val, Try.ntmps78, List.size_toArray, List.length_cons, List.length_nil, Nat.reduceAdd, Nat.reduceSub, Array.replicate_succ, Array.replicate_zero, List.push_toArray, List.append_toArray, List.nil_append, List.cons_append]
  by_cases h0 : planE p = 0
  · have HC : Calls Try.prog 58 #[p.val] (w.alloc (.cells #[.slice p.ab p.nb p.cb, .slice p.sa p.ns p.cs] 25)) fun e w' => e = .returned (.int .i64 0) ∧ Below (w.heap.size + 1) (w.alloc (.cells #[.slice p.ab p.nb p.cb, .slice p.sa p.ns p.cs] 25)) w' := by
      have := planCheck_any p _ (hp.below hB0)
      rw [h0, World.size_alloc] at this
      exact this
    have R := rightP h0
    have hnb := R.nb6
    have H0 : Hid (planE p = 0) := h0
    clear h0 R
    gi_wp2_with (first
      | (refine ⟨trivial, ?_⟩; gi_at_call 58; refine (callsIn_wide.2 HC).mono ?_; rintro e w1 ⟨rfl, hB⟩; have hsz := hB.size; have c0 : w1.cell? ⟨w.heap.size, 0, none⟩ = some (.slice p.ab p.nb p.cb) := (hB.cell (p := ⟨w.heap.size, 0, none⟩) (by simp)).trans (by simp); rw [World.size_alloc] at hsz)
      | (gi_at_make; refine wpListIn_make_own _ rfl _ _ 23 rfl (w.heap.size + 1) 3 i1 (.int .i64 0) 1 Try.underlying23 hj hy0 hy1 .i64 .i64 _ p.nb rfl rfl rfl (by rw [hy2]; omega) (by unfold maxLen; omega) (by omega) ?_; intro w2 hown2 hgrow2; have hB2 : Below (w.heap.size + 1) (w.alloc (.cells #[.slice p.ab p.nb p.cb, .slice p.sa p.ns p.cs] 25)) w2 := hB.grown hgrow2 (by omega) (by intro k hk; cases hk); have hsz2 := hB2.size; rw [World.size_alloc] at hsz2; have c0 : w2.cell? ⟨w.heap.size, 0, none⟩ = some (.slice p.ab p.nb p.cb) := (hB2.cell (p := ⟨w.heap.size, 0, none⟩) (by simp)).trans (by simp); have c1 : w2.cell? ⟨w.heap.size, 1, none⟩ = some (.slice p.sa p.ns p.cs) := (hB2.cell (p := ⟨w.heap.size, 1, none⟩) (by simp)).trans (by simp); have hlt2 : w.heap.size < w2.heap.size := by omega)
      | (refine ⟨trivial, ?_⟩; gi_at_call 98; refine (binsOf_in Fence.wide _ trivial rfl p true _).mono ?_; rintro e w' ⟨rfl, rfl⟩))
    obtain ⟨W3, hW3, s3, bO, hrow0, bF, cP, hB3⟩ : ∃ W3, ((w2.alloc (.cells #[(.slice (some ⟨w1.heap.size, 0, none⟩) 0 p.nb)] 23)).alloc (.cells #[.slice p.ab p.nb p.cb, .slice p.sa p.ns p.cs] 25)).alloc (.cells #[.bool true] 4) = W3 ∧ W3.heap.size = w2.heap.size + 3 ∧ _root_.Go.Boxed W3 w2.heap.size 23 (.slice (some ⟨w1.heap.size, 0, none⟩) 0 p.nb) ∧ W3.ownsRow (w.heap.size + 1) 3 1 (.slice (some ⟨w1.heap.size, 0, none⟩) 0 p.nb) 0 [] ∧ _root_.Go.Boxed W3 (w2.heap.size + 1 + 1) 4 (.bool true) ∧ W3.cell? ⟨w2.heap.size + 1, 0, none⟩ = some (.slice p.ab p.nb p.cb) ∧ Below (w.heap.size + 1) (w.alloc (.cells #[.slice p.ab p.nb p.cb, .slice p.sa p.ns p.cs] 25)) W3 := by
      refine ⟨_, rfl, by simp, ((_root_.Go.Boxed.new w2 23 _).alloc _).alloc _, ((hown2.alloc _).alloc _).alloc _, ?_, ?_, ((hB2.alloc hsz2 _).alloc (by simp; omega) _).alloc (by simp; omega) _⟩
      · have := _root_.Go.Boxed.new ((w2.alloc (.cells #[(.slice (some ⟨w1.heap.size, 0, none⟩) 0 p.nb)] 23)).alloc (.cells #[.slice p.ab p.nb p.cb, .slice p.sa p.ns p.cs] 25)) 4 (.bool true)
        rwa [World.size_alloc, World.size_alloc] at this
      · have := ((Blk.new (w2.alloc (.cells #[(.slice (some ⟨w1.heap.size, 0, none⟩) 0 p.nb)] 23)) #[.slice p.ab p.nb p.cb, .slice p.sa p.ns p.cs] 25).alloc (.cells #[.bool true] 4)).cell (j := 0) (by simp)
        rwa [World.size_alloc] at this
    have HP : Hid (∀ W', Below (w.heap.size + 1) (w.alloc (.cells #[.slice p.ab p.nb p.cb, .slice p.sa p.ns p.cs] 25)) W' → BinsAt W' p.ab p.nb p.zb) := fun W' h => (hp.bins.below hB0).below (by rw [World.size_alloc]; exact h)
    rw [hW3]
    clear hB c0 c1 hown2 hgrow2 hW3
    refine wpIn_rangeFunc_ownG rfl (by decide) (gf := 103) (lb := #[.pointer (some ⟨w2.heap.size + 1, 0, none⟩), .pointer (some ⟨w2.heap.size + 1 + 1, 0, none⟩)]) rfl trivial (enters_of Try.func103 (by kernel_rfl) rfl)
      (binsOf_stops Fence.wide _ trivial rfl (by decide) (w2.heap.size + 1) (w2.heap.size + 1 + 1) (w.heap.size + 1) p true W3 (by omega) (by omega) (by omega) cP bF.cell leb capb0 (fun W' h => HP.out W' (hB3.trans h))) keepsB_t (keepsB_b (by omega) (by omega)) (Below.refl _ _) (fun _ => rfl)
      (fun pre W => (∃ v, _root_.Go.Boxed W w2.heap.size 23 v ∧ W.ownsRow (w.heap.size + 1) 3 1 v pre.length (pre.map (Value.int .i64)) ∧ True) ∧ _root_.Go.Boxed W (w2.heap.size + 1 + 1) 4 (.bool true) ∧ Below (w.heap.size + 1) (w.alloc (.cells #[.slice p.ab p.nb p.cb, .slice p.sa p.ns p.cs] 25)) W)
      (fun _ _ _ => False)
      (OwnFrom.and (Own.from (holdsRow_own (w.heap.size + 1) w2.heap.size 23 3 1 (fun pre : List Int => pre.length) (fun pre => pre.map (Value.int .i64)) (fun _ _ => True)) _) (OwnFrom.and (Own.from (boxed_own _ _ _) _) (ownFrom_below (by simp) (by omega))))
      (fun _ _ _ _ _ hs _ _ => hs)
      ⟨⟨_, bO, hrow0, trivial⟩, bF, hB3⟩
      (fun x => { tmps := #[.agg #[.slice p.ab p.nb p.cb, .slice p.sa p.ns p.cs], .pointer (some ⟨w.heap.size, 0, none⟩), .slice none 0 0, .int .i64 0, .int .i64 0, .pointer (some ⟨w2.heap.size, 0, none⟩), .int .i64 x, undef, .agg #[.slice p.ab p.nb p.cb, .slice p.sa p.ns p.cs], .int .i64 0, .int .i64 0, .bool false, undef, .pointer (some ⟨w.heap.size, 0, none⟩), .slice p.ab p.nb p.cb, .int .i64 p.nb, (.slice (some ⟨w1.heap.size, 0, none⟩) 0 p.nb), .agg #[.slice p.ab p.nb p.cb, .slice p.sa p.ns p.cs], .func (.func 103) #[] #[.pointer (some ⟨w2.heap.size + 1, 0, none⟩), .pointer (some ⟨w2.heap.size + 1 + 1, 0, none⟩)], .int .i64 x, undef, undef, undef, undef, undef, undef, undef, undef, undef, undef, undef, undef], defers := [] }) ?assign ?body ?done ?stop
    case assign =>
      intro l x W K hK
      gi_wp2
      exact hK
    case body =>
      rintro l pre x W ⟨⟨v, hv, hrow, -⟩, hbf, hBB⟩ hlt
      have hc := hv.cell
      gi_wp2_with (gi_at_builtin; refine wpListIn_append_own _ rfl _ _ 23 rfl (w.heap.size + 1) 3 i1 (.int .i64 0) 1 8 Try.underlying23 hj hy0 hy1 hy2 rfl (by decide) _ _ _ rfl (hrow.alloc _) ⟨W.heap.size, 0, none⟩ 1 1 [.int .i64 x] rfl rfl (cell_one_new _ _ _) (by simp [Value.oneCell']) (by unfold maxLen; omega) (by omega) (by have := hBB.size; simp at this ⊢; omega) ?_; intro v' w5 hown' hgrow _; obtain ⟨g', cap', rfl⟩ := ownsRow_succ hown'; obtain ⟨hv1, hv2, hr2, hk2, hb2⟩ := hv.appended (by decide) hrow (by have := hBB.size; simpa using this) hsz2 hown' hgrow; have hc1 := hv1.cell; have hf1 := hv1.frozen; have hF5 := (hbf.alloc _).kept hgrow (hbf.not_row (by decide) hrow))
      refine ⟨hk2.from _, ⟨hb2, fun u hu => ?_⟩, ⟨_, hv2, by simpa using hr2, trivial⟩, hF5.other (by omega) _, hBB.trans hb2⟩
      rw [hbf.cell] at hu
      cases hu
      exact (hF5.other (by omega) _).cell
    case done =>
      rintro D ys W4 hD rfl ⟨⟨v, hv, hrow, -⟩, -, hBB⟩ hK
      have c0 : W4.cell? ⟨w.heap.size, 0, none⟩ = some (.slice p.ab p.nb p.cb) := (hBB.cell (p := ⟨w.heap.size, 0, none⟩) (by simp)).trans (by simp)
      have c1 : W4.cell? ⟨w.heap.size, 1, none⟩ = some (.slice p.sa p.ns p.cs) := (hBB.cell (p := ⟨w.heap.size, 1, none⟩) (by simp)).trans (by simp)
      have hsz4 : w.heap.size < W4.heap.size := by have := hBB.size; simp at this; omega
      gi_wp2_with (refine ⟨trivial, ?_⟩; gi_at_call 98; refine (binsOf_in Fence.wide _ trivial rfl p false _).mono ?_; rintro e w' ⟨rfl, rfl⟩)
      have hsB := hv.lt
      obtain ⟨W5, hW5, s5, bO, hrow5, bF, cP, hB5, hK5⟩ : ∃ W5, (W4.alloc (.cells #[.slice p.ab p.nb p.cb, .slice p.sa p.ns p.cs] 25)).alloc (.cells #[.bool false] 4) = W5 ∧ W5.heap.size = W4.heap.size + 2 ∧ _root_.Go.Boxed W5 w2.heap.size 23 v ∧ W5.ownsRow (w.heap.size + 1) 3 1 v (frL p true p.nb).length ((frL p true p.nb).map (Value.int .i64)) ∧ _root_.Go.Boxed W5 (W4.heap.size + 1) 4 (.bool false) ∧ W5.cell? ⟨W4.heap.size, 0, none⟩ = some (.slice p.ab p.nb p.cb) ∧ Below (w.heap.size + 1) (w.alloc (.cells #[.slice p.ab p.nb p.cb, .slice p.sa p.ns p.cs] 25)) W5 ∧ W5.heap[D]? = some (.deferred (some [])) := by
        refine ⟨_, rfl, by simp, (hv.alloc _).alloc _, (hrow.alloc _).alloc _, ?_, ?_, (hBB.alloc (by omega) _).alloc (by simp; omega) _, ?_⟩
        · have := _root_.Go.Boxed.new (W4.alloc (.cells #[.slice p.ab p.nb p.cb, .slice p.sa p.ns p.cs] 25)) 4 (.bool false)
          rwa [World.size_alloc] at this
        · exact ((Blk.new W4 #[.slice p.ab p.nb p.cb, .slice p.sa p.ns p.cs] 25).alloc (.cells #[.bool false] 4)).cell (j := 0) (by simp)
        · have hD4 := (Array.getElem?_eq_some_iff.1 hK).1
          exact ((((Below.refl W4.heap.size W4).alloc (Nat.le_refl _) _).alloc (by simp) _).block D hD4).trans hK
      have hD4 := (Array.getElem?_eq_some_iff.1 hK).1
      have hfl := frL_two p p.nb
      rw [hW5]
      clear hv hrow hBB hK c0 c1 hW5 hB3
      refine wpIn_rangeFunc_ownG rfl (by decide) (gf := 103) (lb := #[.pointer (some ⟨W4.heap.size, 0, none⟩), .pointer (some ⟨W4.heap.size + 1, 0, none⟩)]) rfl trivial (enters_of Try.func103 (by kernel_rfl) rfl)
        (binsOf_stops Fence.wide _ trivial rfl (by decide) W4.heap.size (W4.heap.size + 1) (w.heap.size + 1) p false W5 (by omega) (by omega) (by omega) cP bF.cell leb capb0 (fun W' h => HP.out W' (hB5.trans h))) keepsB_t (keepsB_b (by omega) (by omega)) (Below.refl _ _) (fun _ => rfl)
        (fun pre W => (∃ v, _root_.Go.Boxed W w2.heap.size 23 v ∧ W.ownsRow (w.heap.size + 1) 3 1 v (frL p true p.nb ++ pre).length ((frL p true p.nb ++ pre).map (Value.int .i64)) ∧ True) ∧ _root_.Go.Boxed W (W4.heap.size + 1) 4 (.bool false) ∧ Below (w.heap.size + 1) (w.alloc (.cells #[.slice p.ab p.nb p.cb, .slice p.sa p.ns p.cs] 25)) W ∧ W.heap[D]? = some (.deferred (some [])))
        (fun _ _ _ => False)
        (OwnFrom.and (Own.from (holdsRow_own (w.heap.size + 1) w2.heap.size 23 3 1 (fun pre : List Int => (frL p true p.nb ++ pre).length) (fun pre => (frL p true p.nb ++ pre).map (Value.int .i64)) (fun _ _ => True)) _) (OwnFrom.and (Own.from (boxed_own _ _ _) _) (OwnFrom.and (ownFrom_below (by simp) (by omega)) (fun s A B row hs hg hr => (hg.block D (Array.getElem?_eq_some_iff.1 hs).1 (fun e => by have := (hr D e.symm).1; omega)).trans hs))))
        (fun _ _ _ _ _ hs _ _ => hs)
        ⟨⟨_, bO, by simpa using hrow5, trivial⟩, bF, hB5, hK5⟩
        (fun x => { tmps := #[.agg #[.slice p.ab p.nb p.cb, .slice p.sa p.ns p.cs], .pointer (some ⟨w.heap.size, 0, none⟩), .slice none 0 0, .int .i64 0, .int .i64 0, .pointer (some ⟨w2.heap.size, 0, none⟩), undef, .int .i64 x, .agg #[.slice p.ab p.nb p.cb, .slice p.sa p.ns p.cs], .int .i64 0, .int .i64 0, .bool false, undef, .pointer (some ⟨w.heap.size, 0, none⟩), .slice p.ab p.nb p.cb, .int .i64 p.nb, (.slice (some ⟨w1.heap.size, 0, none⟩) 0 p.nb), .agg #[.slice p.ab p.nb p.cb, .slice p.sa p.ns p.cs], .func (.func 103) #[] #[.pointer (some ⟨w2.heap.size + 1, 0, none⟩), .pointer (some ⟨w2.heap.size + 1 + 1, 0, none⟩)], undef, undef, undef, undef, undef, .agg #[.slice p.ab p.nb p.cb, .slice p.sa p.ns p.cs], .func (.func 103) #[] #[.pointer (some ⟨W4.heap.size, 0, none⟩), .pointer (some ⟨W4.heap.size + 1, 0, none⟩)], .int .i64 x, undef, undef, undef, undef, undef], defers := [] }) ?assign2 ?body2 ?done2 ?stop2
      case assign2 =>
        intro l x W K hK
        gi_wp2
        exact hK
      case body2 =>
        rintro l pre x W ⟨⟨v, hv, hrow, -⟩, hbf, hBB, hKD⟩ hlt
        have hc := hv.cell
        have hll : (frL p true p.nb ++ pre).length ≤ 2 * p.nb := by rw [List.length_append]; omega
        gi_wp2_with (gi_at_builtin; refine wpListIn_append_own _ rfl _ _ 23 rfl (w.heap.size + 1) 3 i1 (.int .i64 0) 1 8 Try.underlying23 hj hy0 hy1 hy2 rfl (by decide) _ _ _ rfl (hrow.alloc _) ⟨W.heap.size, 0, none⟩ 1 1 [.int .i64 x] rfl rfl (cell_one_new _ _ _) (by simp [Value.oneCell']) (by unfold maxLen; omega) (by omega) (by have := hBB.size; simp at this ⊢; omega) ?_; intro v' w5 hown' hgrow _; obtain ⟨g', cap', rfl⟩ := ownsRow_succ hown'; obtain ⟨hv1, hv2, hr2, hk2, hb2⟩ := hv.appended (by decide) hrow (by have := hBB.size; simpa using this) hsz2 hown' hgrow; have hc1 := hv1.cell; have hf1 := hv1.frozen; have hF5 := (hbf.alloc _).kept hgrow (hbf.not_row (by decide) hrow))
        simp only [List.length_append] at hv2 hr2 hk2 hb2
        refine ⟨hk2.from _, ⟨hb2, fun u hu => ?_⟩, ⟨_, hv2, by simpa [Nat.add_assoc] using hr2, trivial⟩, hF5.other (by omega) _, hBB.trans hb2, hk2.same D _ hKD rfl⟩
        rw [hbf.cell] at hu
        cases hu
        exact (hF5.other (by omega) _).cell
      case done2 =>
        rintro D2 ys W hD2 rfl ⟨⟨v, hv, hrow, -⟩, -, hBB, hK1⟩ hK2
        have hc := hv.cell
        gi_wp2
        refine ⟨by simp, .inl ⟨_, _, rfl, run_takeDeferred hK2, ?_⟩⟩
        have hne : D ≠ D2 := by omega
        have hK1' : (W.putObj D2 (.deferred none)).heap[D]? = some (.deferred (some [])) := ((grownBy_putObj' W D2 (.deferred none)).block D (Array.getElem?_eq_some_iff.1 hK1).1 (fun e => hne (by cases e; rfl))).trans hK1
        refine ⟨by simp, .inl ⟨_, _, rfl, run_takeDeferred hK1', ?_⟩⟩
        have hr2 := ownsRow_putObj (ownsRow_putObj hrow (.deferred none) hK2 rfl) (.deferred none) hK1' rfl
        have hb1 : Below (w.heap.size + 1) (w.alloc (.cells #[.slice p.ab p.nb p.cb, .slice p.sa p.ns p.cs] 25)) (W.putObj D2 (.deferred none)) := hBB.trans (belowK_b (w := W5) (by omega) W D2 _ _ hD2 hK2 rfl rfl)
        have hb2 := hb1.trans (belowK_b (w := W3) (by omega) (W.putObj D2 (.deferred none)) D _ (.deferred none) hD hK1' rfl rfl)
        rw [H0.out, wayR_yes H0.out]
        exact ⟨_, results_tmp2 rfl _ _ _, _, rfl, owns_low hr2 (Nat.le_succ _), hB0.trans (hb2.mono (by omega))⟩
      case stop2 =>
        rintro D c pre W _ _ h _
        exact h.elim
    case stop =>
      rintro D c pre W _ _ h _
      exact h.elim
  · gi_wp2_with (refine ⟨trivial, ?_⟩; gi_at_call 58; refine (callsIn_wide.2 (planCheck_any p _ (hp.below hB0))).mono ?_; rintro e w1 ⟨rfl, hB⟩)
    rw [wayR_no h0]
    exact ⟨_, results_tmp2 rfl _ _ _, _, rfl, World.ownsRow_nil _ _ _ _, hB0.trans (hB.mono (by simp))⟩
end Go.Proofs.Ytbcacebifpagpad
namespace Go.Proofs.Ytbcacebifpagpad
open Go.RowKit Go.Shelf Go.Sort
set_option linter.unusedVariables false
theorem Take1_any (B : Nat) (x but : Int) (w : World) (hB : B < w.heap.size) (c : w.cell? ⟨B, 0, none⟩ = some (.int .i64 but)) :
    Calls Try.prog 80 #[.int .i64 x, .pointer (some ⟨B, 0, none⟩)] w fun e w' => e = .returned (.bool (x == but)) ∧ Below w.heap.size w w' := by
  go_enter Try.func80, Try.ntmps80
  go_wp2_with fail
  go_ret
  exact ⟨rfl, Below.refl _ _⟩
def TakeInv (s : St) (o l : Nat) (n : Int) (av : Int → Int) (F : List Int) (A BX BL g k : Nat) (wk : World) : Prop :=
  ∃ x : St, Took s o l n (Tk.go av n (F.take k)) x ∧ OwnS A wk x ∧ Blk wk BX 31 7 (fun j => x.cells.getD j default) ∧ Blk wk g 3 F.length (fun j => .int .i64 (F.getD j 0)) ∧ (x.os.z o).ls.a = some ⟨BL, 0, none⟩
theorem take_more {F : List Int} {k : Nat} (hk : k < F.length) : F.take (k + 1) = F.take k ++ [F.getD k 0] := by
  rw [List.take_add_one]
  simp [List.getD, List.getElem?_eq_getElem hk]
theorem getD_mem {F : List Int} {k : Nat} (hk : k < F.length) : F.getD k 0 ∈ F := by
  simp [List.getD, List.getElem?_eq_getElem hk]
theorem avail_okA {p : Pl} {s : St} {b g : Nat} (h : stateE p s = 0) (hb : b < p.nb) (hg : g < p.ns) : availE p s b g = 0 ∧ availV p s b g = availZ s b g := by
  have e : availE p s b g = 0 := by unfold availE; rw [if_pos h, inB_mk (by omega), inB_mk (by omega)]; rfl
  exact ⟨e, by unfold availV; rw [if_pos e]; rfl⟩
theorem avail_bdA {p : Pl} {s : St} {b g : Nat} (r : RightT p s) (hb : b < p.nb) (hg : g < p.ns) : 0 ≤ availZ s b g ∧ availZ s b g ≤ 200 := by
  have f := r.fm
  refine ⟨(goods_no (r.goods g hg)).2 b hb, ?_⟩
  have h1 := f.sh.num b (by rw [f.sh.n]; exact hb) g hg
  have h2 := (heldTo_bd (s := s) (b := b) (g := g) f.holdN).1
  have h3 := (fromTo_bd (s := s) (b := b) (g := g) f.moveN).1
  unfold availZ
  omega
set_option maxRecDepth 100000 in
set_option maxHeartbeats 8000000 in
theorem Take_any (p : Pl) (s : St) (order line n but : Int) (w : World) (hp : p.At w) (hs : s.At w) :
    Calls Try.prog 44 #[p.val, s.val, .int .i64 order, .int .i64 line, .int .i64 n, .int .i64 but] w fun e w' => ∃ x : St, e = .returned (.tuple #[x.val, .int .i64 (allocL p s order line n but), .int .i64 (allocE p s order line n but)]) ∧ x.At w' ∧ AllocOK p s order line n but x ∧ (allocE p s order line n but = 0 → OwnS w.heap.size w' x) ∧ Below w.heap.size w w' := by
  obtain ⟨W0, hW, hWB, X0, K0, Z0⟩ : ∃ W, ((((w.alloc (.cells #[.slice p.ab p.nb p.cb, .slice p.sa p.ns p.cs] 25)).alloc (.cells s.cells 31)).alloc (.cells #[.int .i64 but] 3)).alloc (.cells #[.slice .none 0 0, .slice .none 0 0, .slice .none 0 0, .slice .none 0 0, .slice .none 0 0, .slice .none 0 0, .slice .none 0 0] 31)) = W ∧ Below w.heap.size w W ∧ Boxes W w.heap.size (w.heap.size + 1) p s ∧ Blk W (w.heap.size + 2) 3 1 (fun _ => .int .i64 but) ∧ Blk W (w.heap.size + 3) 31 7 (fun _ => .slice .none 0 0) :=
    ⟨_, rfl, ((two_below _ _ _).alloc (by simp; omega) _).alloc (by simp; omega) _, ((boxes_new w p s _ _).below ((Below.refl _ _).alloc (Nat.le_refl _) _)).below ((Below.refl _ _).alloc (Nat.le_refl _) _), ((Blk.mk' (cur := #[.int .i64 but]) (by simp) rfl).congr (fun j hj => by match j, hj with | 0, _ => rfl)).alloc _, (Blk.mk' (cur := #[.slice .none 0 0, .slice .none 0 0, .slice .none 0 0, .slice .none 0 0, .slice .none 0 0, .slice .none 0 0, .slice .none 0 0]) (by simp) rfl).congr (fun j hj => by match j, hj with | 0, _ => rfl | 1, _ => rfl | 2, _ => rfl | 3, _ => rfl | 4, _ => rfl | 5, _ => rfl | 6, _ => rfl)⟩
  have HC : Hid (∀ wk, Below W0.heap.size W0 wk → Boxes wk w.heap.size (w.heap.size + 1) p s ∧ p.At wk ∧ s.At wk ∧ Below w.heap.size w wk ∧ Blk wk (w.heap.size + 3) 31 7 (fun _ => .slice .none 0 0) ∧ Blk wk (w.heap.size + 2) 3 1 (fun _ => .int .i64 but)) := fun wk h => ⟨X0.below h, (hp.below hWB).below h, (hs.below hWB).below h, hWB.trans (h.mono hWB.size), Z0.below h, K0.below h⟩
  have HW : Hid ((((w.alloc (.cells #[.slice p.ab p.nb p.cb, .slice p.sa p.ns p.cs] 25)).alloc (.cells #[.slice s.on.a s.on.n s.on.c, .slice s.os.a s.os.n s.os.c, .slice s.hs.a s.hs.n s.hs.c, .slice s.ms.a s.ms.n s.ms.c, .slice s.si.a s.si.n s.si.c, .slice s.so.a s.so.n s.so.c, .slice s.sf.a s.sf.n s.sf.c] 31)).alloc (.cells #[.int .i64 but] 3)).alloc (.cells #[.slice .none 0 0, .slice .none 0 0, .slice .none 0 0, .slice .none 0 0, .slice .none 0 0, .slice .none 0 0, .slice .none 0 0] 31) = W0) := hW
  have leb := hp.leb
  have capb0 := hp.capb
  have capb := capb0
  have les := hp.les
  have caps := hp.caps
  have zlt0 := Z0.lt
  unfold maxLen at capb caps
  clear hW X0 Z0 K0 hp hs
  unfold Pl.val St.val
  go_enter Try.func44, Try.ntmps44
  go_wp2_with fail
  rw [HW.out]
  obtain ⟨X, hpk, hsk, hBw, hz, kb⟩ := HC.out W0 (Below.refl _ _)
  refine (allocCheck_any p s order line n but W0 hpk hsk).mono ?_
  rintro e w1 ⟨rfl, hB⟩
  clear X hpk hsk hBw hz kb HW
  obtain ⟨⟨⟨l1, d0, d1⟩, l2, c0, c1, c2, c3, c4, c5, c6⟩, hpk, hsk, hBw, hz, kb⟩ := HC.out w1 hB
  by_cases hE : allocE p s order line n but = 0
  · have HE : Hid (allocE p s order line n but = 0) := hE
    have HI : Hid (AllocIn p s order line n but) := allocIn hE
    rw [hE]
    clear hE
    have HRT : Hid (RightT p s) := rightT HI.out.st
    have HP0 : Hid (planE p = 0) := (rightS HRT.out.fm.sh0).1
    obtain ⟨o, rfl⟩ := Int.eq_ofNat_of_zero_le HI.out.o0
    obtain ⟨l, rfl⟩ := Int.eq_ofNat_of_zero_le HI.out.l0
    have ho : o < s.os.n := HI.out.on
    have hl : l < (s.os.z o).ls.n := HI.out.ln
    have nb1 := HRT.out.fm.sh.pl.nb1
    have nb6 := HRT.out.fm.sh.pl.nb6
    have HPK : Hid (p.At w1) := hpk
    clear hpk hsk c0 c1 c2 c3 c4 c5 c6 hBw hz
    go_wp2_with fail
    refine (WayOwn_any p w1 HPK.out).mono ?_
    rintro e w2 ⟨v, rfl, hown, hB2⟩
    clear l1 d0 d1 l2 HPK
    rw [wayR_yes HP0.out] at hown
    have HWL : Hid ((wayL p).length = p.nb) := way_len p
    have hv : v ≠ .slice none 0 0 := by
      rintro rfl
      rcases hown.2 with ⟨_, h0⟩ | ⟨g2, cap2, cur2, h, _⟩
      · have := HWL.out; omega
      · cases h
    obtain ⟨g, c, rfl, hc1, hc2, hg, hk⟩ := Blk.ofOwns hown hv
    have hk2 : Blk w2 g 3 (wayL p).length (fun j => .int .i64 ((wayL p).getD j 0)) := by
      have h := hk.less (m := (wayL p).length) (by omega)
      refine h.congr fun j hj => ?_
      simp [List.getD, List.getElem?_eq_getElem hj]
    have HDF : Hid (Calls Try.prog 79 #[.slice (some ⟨g, 0, none⟩) (wayL p).length c, .func (.func 80) #[] #[.pointer (some ⟨w.heap.size + 1 + 1, 0, none⟩)]] w2 fun e w' => e = .returned (.slice (some ⟨g, 0, none⟩) (wayT p but).length c) ∧ Blk w' g 3 (wayT p but).length (fun j => .int .i64 ((wayT p but).getD j 0)) ∧ Below w1.heap.size w2 w') :=
      DelI_any 80 #[.pointer (some ⟨w.heap.size + 1 + 1, 0, none⟩)] (fun x => x == but) w1.heap.size g c (wayL p) w2 hg hB2.size hc1 hc2 hk2 (enters_of Try.func80 (by kernel_rfl) rfl) (fun x wz hz => by
        have hlt := kb.lt
        exact Take1_any (w.heap.size + 1 + 1) x but wz (Nat.lt_of_lt_of_le hlt (Nat.le_trans hB2.size hz.size)) ((hz.cell (p := ⟨w.heap.size + 2, 0, none⟩) hlt).trans ((hB2.cell (p := ⟨w.heap.size + 2, 0, none⟩) hlt).trans (kb.cell (j := 0) (by decide)))))
    rw [HP0.out]
    clear hown hv hk hk2
    go_wp2_with fail
    refine HDF.out.mono ?_
    rintro e w3 ⟨rfl, hk3, hB3⟩
    have hB13 := hB2.trans hB3
    have hB' := hB.trans (hB13.mono hB.size)
    have q13 := hB13.size
    have glt := hk3.lt
    have HK3 : Hid (Blk w3 g 3 (wayT p but).length (fun j => .int .i64 ((wayT p but).getD j 0))) := hk3
    have hF6 : (wayT p but).length ≤ 6 := by
      have := HWL.out
      have := List.length_filter_le (fun b => !(b == but)) (wayL p)
      unfold wayT
      omega
    have hFc : (wayT p but).length ≤ c := by
      have := List.length_filter_le (fun b => !(b == but)) (wayL p)
      unfold wayT
      omega
    clear HDF hk3 kb hB2 hB3 hB13 hB
    obtain ⟨⟨⟨l1, d0, d1⟩, l2, c0, c1, c2, c3, c4, c5, c6⟩, hpk, hsk, hBw, hz, kb⟩ := HC.out w3 hB'
    have HCS : Hid _ := copyState_any p s w3 hsk HRT.out.fm
    clear hpk hsk hBw hz kb
    go_wp2_with fail
    refine Calls.mono HCS.out ?_
    rintro e w4 ⟨x0, rfl, hsame, hown, hB4⟩
    clear HCS l1 d0 d1 l2 c0 c1 c2 c3 c4 c5 c6
    have q4 := hB4.size
    obtain ⟨W5, hW5, hWB5, K5⟩ : ∃ W, w4.alloc (.cells #[.slice x0.on.a x0.on.n x0.on.c, .slice x0.os.a x0.os.n x0.os.c, .slice x0.hs.a x0.hs.n x0.hs.c, .slice x0.ms.a x0.ms.n x0.ms.c, .slice x0.si.a x0.si.n x0.si.c, .slice x0.so.a x0.so.n x0.so.c, .slice x0.sf.a x0.sf.n x0.sf.c] 31) = W ∧ Below w4.heap.size w4 W ∧ Blk W w4.heap.size 31 7 (fun j => x0.cells.getD j default) := ⟨_, rfl, (Below.refl _ _).alloc (Nat.le_refl _) _, Blk.mk' rfl rfl⟩
    have HW5 : Hid (w4.alloc (.cells #[.slice x0.on.a x0.on.n x0.on.c, .slice x0.os.a x0.os.n x0.os.c, .slice x0.hs.a x0.hs.n x0.hs.c, .slice x0.ms.a x0.ms.n x0.ms.c, .slice x0.si.a x0.si.n x0.si.c, .slice x0.so.a x0.so.n x0.so.c, .slice x0.sf.a x0.sf.n x0.sf.c] 31) = W5) := hW5
    have hB35 := hB4.trans (hWB5.mono hB4.size)
    have hB5 := hB'.trans (hB35.mono hB'.size)
    have hown5 := OwnS.below hown hWB5
    have hkF := HK3.out.below hB35
    have ho0 : o < x0.os.n := by rw [hsame.os.1]; exact ho
    have e0 := hsame.os.2 o ho0
    have hl0 : l < (x0.os.z o).ls.n := by rw [e0.2.1]; exact hl
    obtain ⟨gO, BL, f1, f2, f3, f4, f5, f6, f7, f8, f9, f10, f11, f12, f13, f14⟩ := hown5.lineCell ho0 hl0
    have s1 : W5.cell? ⟨w4.heap.size, 1, none⟩ = some (.slice x0.os.a x0.os.n x0.os.c) := K5.cell (j := 1) (by decide)
    have s2 := K5.lt
    have v1 := hown5.os.le
    have v2 := hown5.os.cap
    rw [f1] at s1
    have HINV : Hid (TakeInv s o l n (fun b => availZ s b.toNat (lineAt s o l).o.toNat) (wayT p but) w3.heap.size w4.heap.size BL g 0 W5) := ⟨x0, by rw [List.take_zero]; exact Took.start HRT.out.fm.hold hsame, hown5, K5, hkF, f5⟩
    have qo : (0 : Int) ≤ (o : Int) := by omega
    have ql : (0 : Int) ≤ (l : Int) := by omega
    have HB5 : Hid (Below W0.heap.size W0 W5 ∧ W0.heap.size ≤ w3.heap.size ∧ w3.heap.size ≤ w4.heap.size ∧ g < w3.heap.size ∧ w3.heap.size ≤ BL) := ⟨hB5, hB'.size, q4, glt, f6⟩
    rw [← HW5.out] at s1 s2 f3 f4 f7
    unfold maxLen at v2 f9
    clear hW5 hown hown5 hkF K5 hB4 hWB5 hB35 hB5 f1 f2 f5 f6 f10 f11 f12 f13 f14 e0 hsame HK3
    simp only [St.val]
    go_wp2_with fail
    rw [HW5.out]
    clear s1 s2 f3 f4 f7 HW5 hB' q4 q13 glt v1 v2 f8 f9
    generalize x0.os.n = XN at *
    go_loopw [4, 56] (fun nv kv wk => ∃ k : Nat, k ≤ (wayT p but).length ∧ kv = .int .i64 k ∧ nv = .int .i64 (Tk.go (fun b => availZ s b.toNat (lineAt s o l).o.toNat) n ((wayT p but).take k)).left ∧ Hid (TakeInv s o l n (fun b => availZ s b.toNat (lineAt s o l).o.toNat) (wayT p but) w3.heap.size w4.heap.size BL g k wk) ∧ Hid (Below W0.heap.size W0 wk)) (fun _ kv _ => (wayT p but).length - (intOf kv).toNat)
    case atStart => exact ⟨0, Nat.zero_le _, rfl, rfl, HINV, HB5.out.1⟩
    case round =>
      clear HINV
      obtain ⟨k, hk, rfl, rfl, HV, HBk⟩ := hrel
      have HTK : Hid (TkOK (fun b => availZ s b.toNat (lineAt s o l).o.toNat) n ((wayT p but).take k) (Tk.go (fun b => availZ s b.toNat (lineAt s o l).o.toNat) n ((wayT p but).take k))) := HI.out.tk ((wayT_apart p but).sublist (List.take_sublist _ _)) (fun x hx => HI.out.way x (List.mem_of_mem_take hx))
      have H31EP : Hid (k < (wayT p but).length → Tk.go (fun b => availZ s b.toNat (lineAt s o l).o.toNat) n ((wayT p but).take (k + 1)) = (Tk.go (fun b => availZ s b.toNat (lineAt s o l).o.toNat) n ((wayT p but).take k)).step (fun b => availZ s b.toNat (lineAt s o l).o.toNat) ((wayT p but).getD k 0)) := fun h => by rw [take_more h, Tk.go_more]
      have HEND : Hid (k = (wayT p but).length → Tk.go (fun b => availZ s b.toNat (lineAt s o l).o.toNat) n ((wayT p but).take k) = tkOf p s (lineAt s o l).o n but) := fun h => by rw [h, List.take_length]; rfl
      obtain ⟨x, hT, hO, hK, hF, hla⟩ := HV.out
      have HX : Hid (Took s o l n (Tk.go (fun b => availZ s b.toNat (lineAt s o l).o.toNat) n ((wayT p but).take k)) x ∧ OwnS w3.heap.size wr x ∧ Blk wr w4.heap.size 31 7 (fun j => x.cells.getD j default) ∧ Blk wr g 3 (wayT p but).length (fun j => .int .i64 ((wayT p but).getD j 0)) ∧ (x.os.z o).ls.a = some ⟨BL, 0, none⟩) := ⟨hT, hO, hK, hF, hla⟩
      obtain ⟨T, hTd⟩ : ∃ T, Tk.go (fun b => availZ s b.toNat (lineAt s o l).o.toNat) n ((wayT p but).take k) = T := ⟨_, rfl⟩
      rw [hTd] at HTK H31EP HEND HX ⊢
      clear hT hO hK hF hla HV hTd
      have tl0 := HTK.out.left0
      have tln := HTK.out.leftn
      have nn2 := HI.out.n2
      by_cases hlt : k < (wayT p but).length
      · have HS1 : Hid _ := H31EP.out hlt
        obtain ⟨hbm0, hbm1⟩ := HI.out.way _ (getD_mem hlt)
        have z0 := HX.out.2.2.2.1.cell (j := k) hlt
        have z1 := HX.out.2.2.2.1.lt
        obtain ⟨bv, hbv⟩ := Int.eq_ofNat_of_zero_le hbm0
        have HBV : Hid ((wayT p but).getD k 0 = (bv : Int)) := hbv
        rw [hbv] at z0 hbm1
        have hbvn : bv < p.nb := by omega
        have hgd := HI.out.good
        obtain ⟨gd, hgv⟩ := Int.eq_ofNat_of_zero_le hgd.1
        have HGV : Hid ((lineAt s o l).o = (gd : Int)) := hgv
        have hgdn : gd < p.ns := by omega
        have HAVL : Hid (∀ w', p.At w' → s.At w' → Calls Try.prog 8 #[p.val, s.val, .int .i64 (bv : Int), .int .i64 (gd : Int)] w' fun e w'' => e = .returned (.tuple #[.int .i64 (availZ s bv gd), .int .i64 0]) ∧ Below w'.heap.size w' w'') := fun w' h1 h2 => by
          have h := Avail_any p s bv gd w' h1 h2
          rw [(avail_okA HI.out.st hbvn hgdn).1, (avail_okA HI.out.st hbvn hgdn).2] at h
          exact h
        have avb := avail_bdA HRT.out hbvn hgdn
        have HAV : Hid ((fun b : Int => availZ s b.toNat (lineAt s o l).o.toNat) ((wayT p but).getD k 0) = availZ s bv gd) := by
          show availZ s ((wayT p but).getD k 0).toNat (lineAt s o l).o.toNat = _
          rw [hbv, hgv]
          rfl
        generalize hAVd : availZ s bv gd = AV at *
        clear hAVd
        have ho1 : o < x.os.n := by rw [HX.out.1.os.1]; exact ho
        have ex := HX.out.1.os.2 o ho1
        have hl1 : l < (x.os.z o).ls.n := by rw [ex.2.1]; exact hl
        obtain ⟨gO, BL', f1, f2, f3, f4, f5, f6, f7, f8, f9, f10, f11, f12, f13, f14⟩ := HX.out.2.1.lineCell ho1 hl1
        rw [HX.out.2.2.2.2] at f5
        simp only [Option.some.injEq, Addr.mk.injEq, and_true] at f5
        subst f5
        have hgx : ((x.os.z o).ls.z l).o = (gd : Int) := by
          rw [ex.2.2 l hl1, if_pos ⟨rfl, rfl⟩]
          exact hgv
        have hbx : ((x.os.z o).ls.z l).n = (lineAt s o l).n - (n - T.left) := by
          rw [ex.2.2 l hl1, if_pos ⟨rfl, rfl⟩]
          rfl
        have HBX : Hid (((x.os.z o).ls.z l).n = (lineAt s o l).n - (n - T.left)) := hbx
        have hbl := badLine_no (HRT.out.fm.line o ho l hl)
        have hbk0 : -1000 ≤ ((x.os.z o).ls.z l).n ∧ ((x.os.z o).ls.z l).n ≤ 1000 := by
          rw [hbx]
          have h1 : (lineAt s o l).n = ((s.os.z o).ls.z l).n := rfl
          rw [h1]
          omega
        rw [hgx] at f11
        obtain ⟨⟨⟨l1, d0, d1⟩, l2, c0, c1, c2, c3, c4, c5, c6⟩, hpk, hsk, hBw, hz, kb⟩ := HC.out wr HBk.out
        have HPS : Hid (p.At wr ∧ s.At wr) := ⟨hpk, hsk⟩
        have r0 : ∀ d os, (grow (redrawn wr d) os).cell? ⟨w.heap.size, 0, none⟩ = some (.slice p.ab p.nb p.cb) := fun d os => cell_regrown d0 d os
        have r1 : ∀ d os, (grow (redrawn wr d) os).cell? ⟨w.heap.size, 1, none⟩ = some (.slice p.sa p.ns p.cs) := fun d os => cell_regrown d1 d os
        have rs0 : ∀ d os, (grow (redrawn wr d) os).cell? ⟨w.heap.size + 1, 0, none⟩ = some (.slice s.on.a s.on.n s.on.c) := fun d os => cell_regrown c0 d os
        have rs1 : ∀ d os, (grow (redrawn wr d) os).cell? ⟨w.heap.size + 1, 1, none⟩ = some (.slice s.os.a s.os.n s.os.c) := fun d os => cell_regrown c1 d os
        have rs2 : ∀ d os, (grow (redrawn wr d) os).cell? ⟨w.heap.size + 1, 2, none⟩ = some (.slice s.hs.a s.hs.n s.hs.c) := fun d os => cell_regrown c2 d os
        have rs3 : ∀ d os, (grow (redrawn wr d) os).cell? ⟨w.heap.size + 1, 3, none⟩ = some (.slice s.ms.a s.ms.n s.ms.c) := fun d os => cell_regrown c3 d os
        have rs4 : ∀ d os, (grow (redrawn wr d) os).cell? ⟨w.heap.size + 1, 4, none⟩ = some (.slice s.si.a s.si.n s.si.c) := fun d os => cell_regrown c4 d os
        have rs5 : ∀ d os, (grow (redrawn wr d) os).cell? ⟨w.heap.size + 1, 5, none⟩ = some (.slice s.so.a s.so.n s.so.c) := fun d os => cell_regrown c5 d os
        have rs6 : ∀ d os, (grow (redrawn wr d) os).cell? ⟨w.heap.size + 1, 6, none⟩ = some (.slice s.sf.a s.sf.n s.sf.c) := fun d os => cell_regrown c6 d os
        have rl : ∀ d os, (grow (redrawn wr d) os).cell? ⟨BL, l * 4, none⟩ = some (.int .i64 (gd : Int)) := fun d os => cell_regrown f11 d os
        clear hbv hgv hgd hpk hsk hBw hz kb d0 d1 c0 c1 c2 c3 c4 c5 c6 l1 l2 f1 f2 f3 f4 f6 f8 f9 f10 f11 f12 f13 f14 ex hgx hbx hbl HEND hbm0 hbm1
        obtain ⟨BK, hBK⟩ : ∃ BK, ((x.os.z o).ls.z l).n = BK := ⟨_, rfl⟩
        have HBK : Hid (((x.os.z o).ls.z l).n = BK) := hBK
        rw [hBK] at hbk0
        clear hBK
        obtain ⟨N, hN⟩ : ∃ N, T.left = N := ⟨_, rfl⟩
        have HN : Hid (T.left = N) := hN
        rw [hN] at tl0 tln ⊢
        clear hN
        have q0 : (0 : Int) ≤ (k : Int) := by omega
        have HMZ : Hid (∀ m, min N AV = m → min T.left ((fun b : Int => availZ s b.toNat (lineAt s o l).o.toNat) ((wayT p but).getD k 0)) = m) := fun m h => by rw [HAV.out, HN.out]; exact h
        go_wp2_with fail
        refine wp_region_quiet_below (by kernel_rfl) (by kernel_rfl) ?_
        repeat (go_big_quiet_step ((go_at_call 8; exact Calls.regrown_of (HAVL.out _ (HPS.out.1.below (below_regrown _ _ _)) (HPS.out.2.below (below_regrown _ _ _))))))
        refine wpQuiet_nil ?_
        intro w9 hw9
        have hB9 : Below wr.heap.size wr w9 := by obtain ⟨⟨dq, osq⟩, hw''⟩ := hw9; subst hw''; exact below_regrown _ _ _
        clear hw9 r0 r1 rs0 rs1 rs2 rs3 rs4 rs5 rs6 rl HPS z0 z1 HAVL
        have HBk9 : Hid (Below W0.heap.size W0 w9) := HBk.out.trans (hB9.mono HBk.out.size)
        have HX9 : Hid (Took s o l n T x ∧ OwnS w3.heap.size w9 x ∧ Blk w9 w4.heap.size 31 7 (fun j => x.cells.getD j default) ∧ Blk w9 g 3 (wayT p but).length (fun j => .int .i64 ((wayT p but).getD j 0)) ∧ (x.os.z o).ls.a = some ⟨BL, 0, none⟩) := ⟨HX.out.1, OwnS.below HX.out.2.1 hB9, HX.out.2.2.1.below hB9, HX.out.2.2.2.1.below hB9, HX.out.2.2.2.2⟩
        clear hB9 HX HBk f7
        by_cases hm0 : min AV N = 0
        · have hm1 : min N AV = 0 := by omega
          have HNX : Hid (TakeInv s o l n (fun b => availZ s b.toNat (lineAt s o l).o.toNat) (wayT p but) w3.heap.size w4.heap.size BL g (k + 1) w9 ∧ (Tk.go (fun b => availZ s b.toNat (lineAt s o l).o.toNat) n ((wayT p but).take (k + 1))).left = N) := by
            refine ⟨⟨x, ?_, HX9.out.2⟩, ?_⟩
            · rw [HS1.out]
              exact HX9.out.1.stepZero (HMZ.out 0 hm1)
            · rw [HS1.out]
              show T.left - min T.left _ = N
              rw [HMZ.out 0 hm1, HN.out]
              omega
          go_wp2_with fail
          go_roundw
          case rel => exact ⟨k + 1, by omega, by go_num, by rw [HNX.out.2], HNX.out.1, HBk9⟩
          case measure => simp [intOf]; omega
        · obtain ⟨MV, hMV⟩ : ∃ MV, min AV N = MV := ⟨_, rfl⟩
          have HMV : Hid (min AV N = MV) := hMV
          have mv0 : 0 < MV := by omega
          have mv1 : MV ≤ N := by omega
          have mvd : (MV == 0) = false := by simp; omega
          have HM1 : Hid (min N AV = MV) := by show min N AV = MV; omega
          have HAE : Hid (addE x.hs.n x.hs.z (tookH o l bv MV) = 0) := by
            have h := HX9.out.1.addE (p := p) (order := o) (line := l) (but := but) HI.out (fun x hx => HI.out.way x (List.mem_of_mem_take hx)) HTK.out (b := (bv : Int)) ⟨by omega, by omega⟩ mv0 (by rw [HN.out]; exact mv1)
            exact h
          have KX := HX9.out.2.2.1
          have y2 : w9.cell? ⟨w4.heap.size, 2, none⟩ = some (.slice x.hs.a x.hs.n x.hs.c) := KX.cell (j := 2) (by decide)
          have y3 := KX.lt
          have HAD : Hid (Calls Try.prog 81 #[.slice x.hs.a x.hs.n x.hs.c, .agg #[.int .i64 (o : Int), .int .i64 (l : Int), .int .i64 (bv : Int), .int .i64 MV]] w9 fun e w' => ∃ s' : Hs, e = .returned (.tuple #[s'.val, .int .i64 0]) ∧ OwnH w9.heap.size 76 w' s' ∧ AddOK x.hs.n x.hs.z (tookH o l bv MV) s' ∧ Below w9.heap.size w9 w') := by
            have h := AddOwn_any x.hs (tookH o l bv MV) w9 HX9.out.2.1.hs.at
            rw [HAE.out] at h
            exact h
          clear KX hm0 HMV
          go_wp2_with fail
          refine HAD.out.mono ?_
          rintro e wa ⟨y, rfl, yown, yok, hBa⟩
          clear y2 y3 HAD hMV
          have q9 := HBk9.out.size
          have qa := hBa.size
          obtain ⟨b1, b2, b3, b4, b5⟩ := HB5.out
          have hOa := OwnS.below HX9.out.2.1 hBa
          have KA := HX9.out.2.2.1.below hBa
          have FA := HX9.out.2.2.2.1.below hBa
          have hBka := HBk9.out.trans (hBa.mono HBk9.out.size)
          have hlt9 := HX9.out.2.2.1.lt
          have ho1 : o < x.os.n := by rw [HX9.out.1.os.1]; exact ho
          have hOb := (hOa.withHolds (yown.mono (by omega))).box KA 2 (.slice y.a y.n y.c)
          have KB := KA.set 2 (.slice y.a y.n y.c)
          have FB := FA.other (a := ⟨w4.heap.size, 2, none⟩) (Blk.ne2 FA KA (by decide)) (.slice y.a y.n y.c)
          have hBb := hBka.setCell (p := ⟨w4.heap.size, 2, none⟩) (by show W0.heap.size ≤ w4.heap.size; omega) (.slice y.a y.n y.c)
          have hl1 : l < (x.os.z o).ls.n := by rw [(HX9.out.1.os.2 o ho1).2.1]; exact hl
          obtain ⟨gO, BL', f1, f2, f3, f4, f5, f6, f7, f8, f9, f10, f11, f12, f13, f14⟩ := hOb.lineCell (o := o) (l := l) ho1 hl1
          have f5' : (x.os.z o).ls.a = some ⟨BL', 0, none⟩ := f5
          rw [HX9.out.2.2.2.2] at f5'
          simp only [Option.some.injEq, Addr.mk.injEq, and_true] at f5'
          subst f5'
          have f14' : (wa.setCell ⟨w4.heap.size, 2, none⟩ (.slice y.a y.n y.c)).cell? ⟨BL, l * 4 + 3, none⟩ = some (.int .i64 ((x.os.z o).ls.z l).n) := f14
          rw [HBK.out] at f14'
          have g14 := f10 (l * 4 + 3)
          obtain ⟨B', hla', -, -, -, hlb⟩ := hOb.os.lines o ho1
          rw [f5] at hla'
          simp only [Option.some.injEq, Addr.mk.injEq, and_true] at hla'
          subst hla'
          have hOc := hOb.setLine (o := o) ho1 f5 l 3 (by decide) (BK - MV)
          have KC := KB.other (a := ⟨BL, l * 4 + 3, none⟩) (Blk.ne2 KB hlb (by decide)) (.int .i64 (BK - MV))
          have FC := FB.other (a := ⟨BL, l * 4 + 3, none⟩) (Blk.ne2 FB hlb (by decide)) (.int .i64 (BK - MV))
          have hBc := hBb.setCell (p := ⟨BL, l * 4 + 3, none⟩) (by show W0.heap.size ≤ BL; omega) (.int .i64 (BK - MV))
          have hTn := HX9.out.1.stepAdd (av := fun b => availZ s b.toNat (lineAt s o l).o.toNat) (order := o) (line := l) (b := (wayT p but).getD k 0) (m := MV) ho hl (HMZ.out MV HM1.out) (by rw [HBV.out]; exact HAE.out) (by rw [HBV.out]; exact yok)
          have HNX : Hid (TakeInv s o l n (fun b => availZ s b.toNat (lineAt s o l).o.toNat) (wayT p but) w3.heap.size w4.heap.size BL g (k + 1) ((wa.setCell ⟨w4.heap.size, 2, none⟩ (.slice y.a y.n y.c)).setCell ⟨BL, l * 4 + 3, none⟩ (.int .i64 (BK - MV))) ∧ (Tk.go (fun b => availZ s b.toNat (lineAt s o l).o.toNat) n ((wayT p but).take (k + 1))).left = N - MV ∧ Below W0.heap.size W0 ((wa.setCell ⟨w4.heap.size, 2, none⟩ (.slice y.a y.n y.c)).setCell ⟨BL, l * 4 + 3, none⟩ (.int .i64 (BK - MV)))) := by
            refine ⟨⟨withHolds (setLine x o l 3 (BK - MV)) y, ?_, hOc, KC.congr (fun j hj => by match j, hj with | 0, _ => rfl | 1, _ => rfl | 2, _ => rfl | 3, _ => rfl | 4, _ => rfl | 5, _ => rfl | 6, _ => rfl), FC, ?_⟩, ?_, hBc⟩
            · rw [HS1.out]
              have h := hTn
              rw [show ((x.os.z ((o : Nat) : Int).toNat).ls.z ((l : Nat) : Int).toNat).n = BK from HBK.out] at h
              exact h
            · exact ((setLine_n (s := x) (o := o) (l := l) (c := 3) (v := BK - MV) o).2.1).trans HX9.out.2.2.2.2
            · rw [HS1.out]
              show T.left - min T.left _ = N - MV
              rw [HMZ.out MV HM1.out, HN.out]
          have z1 := KA.lt
          have z2 := KA.frozen 2
          have z3 := KA.cell (j := 2) (by decide)
          clear hOa KA FA hBka hOb KB FB hBb f1 f2 f3 f4 f5 f6 f8 f9 f10 f11 f12 f13 f14 hlb hOc KC FC hBc hTn yown yok hBa HX9 HBk9 HTK HS1
          simp only [Hs.val]
          go_wp2_with fail
          go_roundw
          case rel => exact ⟨k + 1, by omega, by go_num, by rw [HNX.out.2.1], HNX.out.1, HNX.out.2.2⟩
          case measure => simp [intOf]; omega
      · have hkn : k = (wayT p but).length := by omega
        have HT : Hid (T = tkOf p s (lineAt s o l).o n but) := HEND.out hkn
        clear HEND
        have KX := HX.out.2.2.1
        obtain ⟨m1, p0, p1, p2, p3, p4, p5, p6⟩ := Boxed.of KX
        obtain ⟨-, -, -, hBw, hz, -⟩ := HC.out wr HBk.out
        have HZ : Hid (Below w.heap.size w wr ∧ Blk wr (w.heap.size + 3) 31 7 (fun _ => .slice .none 0 0)) := ⟨hBw, hz⟩
        have zl := hz.lt
        have zf0 := hz.frozen 0
        have zc0 := hz.cell (j := 0) (by decide)
        have zf1 := hz.frozen 1
        have zc1 := hz.cell (j := 1) (by decide)
        have zf2 := hz.frozen 2
        have zc2 := hz.cell (j := 2) (by decide)
        have zf3 := hz.frozen 3
        have zc3 := hz.cell (j := 3) (by decide)
        have zf4 := hz.frozen 4
        have zc4 := hz.cell (j := 4) (by decide)
        have zf5 := hz.frozen 5
        have zc5 := hz.cell (j := 5) (by decide)
        have zf6 := hz.frozen 6
        have zc6 := hz.cell (j := 6) (by decide)
        clear KX hBw hz
        go_wp2_with fail
        have KZ := set7_blk HZ.out.2 (.slice x.on.a x.on.n x.on.c) (.slice x.os.a x.os.n x.os.c) (.slice x.hs.a x.hs.n x.hs.c) (.slice x.ms.a x.ms.n x.ms.c) (.slice x.si.a x.si.n x.si.c) (.slice x.so.a x.so.n x.so.c) (.slice x.sf.a x.sf.n x.sf.c)
        have hbz := set7_below (b := w.heap.size + 3) HZ.out.1 (by omega) (.slice x.on.a x.on.n x.on.c) (.slice x.os.a x.os.n x.os.c) (.slice x.hs.a x.hs.n x.hs.c) (.slice x.ms.a x.ms.n x.ms.c) (.slice x.si.a x.si.n x.si.c) (.slice x.so.a x.so.n x.so.c) (.slice x.sf.a x.sf.n x.sf.c)
        have hOz := OwnS.set7 HX.out.2.1 HZ.out.2 (.slice x.on.a x.on.n x.on.c) (.slice x.os.a x.os.n x.os.c) (.slice x.hs.a x.hs.n x.hs.c) (.slice x.ms.a x.ms.n x.ms.c) (.slice x.si.a x.si.n x.si.c) (.slice x.so.a x.so.n x.so.c) (.slice x.sf.a x.sf.n x.sf.c)
        unfold set7 at KZ hbz hOz
        obtain ⟨c0', c1', c2', c3', c4', c5', c6'⟩ := box_cells KZ
        refine bodyPost_ret (v := .tuple #[x.val, .int .i64 T.left, .int .i64 0]) (by simp [results, Try.results44, go_sem, St.val, c0', c1', c2', c3', c4', c5', c6']) rfl ?_
        have HL : allocL p s o l n but = T.left := by rw [HT.out]; exact if_pos HE.out
        refine ⟨x, by rw [HL, HE.out]; rfl, hOz.at, ⟨fun _ => ?_, fun h => absurd HE.out h⟩, fun _ => hOz.mono ?_, hbz⟩
        · rw [← HT.out]; exact HX.out.1
        · have := (HC.out _ HB5.out.1).2.2.2.1.size
          have := HB5.out.2.1
          omega
  · have HX : Hid (allocL p s order line n but = 0) := if_neg hE
    clear c0 c1 c2 c3 c4 c5 c6 hpk hsk kb
    have zl := hz.lt
    have zf0 := hz.frozen 0
    have zc0 := hz.cell (j := 0) (by decide)
    have zf1 := hz.frozen 1
    have zc1 := hz.cell (j := 1) (by decide)
    have zf2 := hz.frozen 2
    have zc2 := hz.cell (j := 2) (by decide)
    have zf3 := hz.frozen 3
    have zc3 := hz.cell (j := 3) (by decide)
    have zf4 := hz.frozen 4
    have zc4 := hz.cell (j := 4) (by decide)
    have zf5 := hz.frozen 5
    have zc5 := hz.cell (j := 5) (by decide)
    have zf6 := hz.frozen 6
    have zc6 := hz.cell (j := 6) (by decide)
    go_wp2_with fail
    have KZ := set7_blk hz (.slice .none 0 0) (.slice .none 0 0) (.slice .none 0 0) (.slice .none 0 0) (.slice .none 0 0) (.slice .none 0 0) (.slice .none 0 0)
    have hbz := set7_below (b := w.heap.size + 3) hBw (by omega) (.slice .none 0 0) (.slice .none 0 0) (.slice .none 0 0) (.slice .none 0 0) (.slice .none 0 0) (.slice .none 0 0) (.slice .none 0 0)
    unfold set7 at KZ hbz
    obtain ⟨c0', c1', c2', c3', c4', c5', c6'⟩ := box_cells KZ
    refine bodyPost_ret (v := .tuple #[noneS.val, .int .i64 0, .int .i64 (allocE p s order line n but)]) (by simp [results, Try.results44, go_sem, noneS, St.val, c0', c1', c2', c3', c4', c5', c6']) rfl ?_
    exact ⟨noneS, by rw [HX.out]; rfl, noneS_at _, ⟨fun h => absurd h hE, fun _ => ⟨rfl, rfl, rfl, rfl, rfl, rfl, rfl⟩⟩, fun h => absurd h hE, hbz⟩
end Go.Proofs.Ytbcacebifpagpad
namespace Go.Proofs.Ytbcacebifpagpad
open Go.RowKit Go.Shelf Go.Sort
set_option linter.unusedVariables false
structure RelI (p : Pl) (s y0 : St) (A B7 : Nat) (W0 : World) (cur : St) (wk : World) : Prop where
  own0 : OwnS A wk y0
  own : OwnS A wk cur
  box : Blk wk B7 31 7 (fun j => cur.cells.getD j default)
  bel : Below W0.heap.size W0 wk
  le : A ≤ wk.heap.size
theorem RelI.below {p : Pl} {s y0 cur : St} {A B7 : Nat} {W0 wk wj : World} (h : RelI p s y0 A B7 W0 cur wk) (hB : Below wk.heap.size wk wj) : RelI p s y0 A B7 W0 cur wj :=
  ⟨h.own0.below hB, h.own.below hB, h.box.below hB, h.bel.trans (hB.mono h.bel.size), Nat.le_trans h.le hB.size⟩
def RelA (p : Pl) (s : St) (i : Nat) (cur : St) : Prop := TkAll p (-1) (relQ s) (relM s) (relO s s.os.n) i cur
def RelB (p : Pl) (s : St) (i j : Nat) (cur : St) : Prop := ∃ y, RelA p s i y ∧ TkRow p (-1) (relQ s) i y j cur
theorem RelB.next {p : Pl} {s cur : St} {i : Nat} (h : RelB p s i (s.os.z i).ls.n cur) : RelA p s (i + 1) cur := h
theorem RelA.row {p : Pl} {s cur : St} {i : Nat} (h : RelA p s i cur) : RelB p s i 0 cur := ⟨cur, h, rfl⟩
theorem RelA.skip {p : Pl} {s cur : St} {i : Nat} (r : RightT p s) (h : RelA p s i cur) (hi : i < s.os.n) (hk : ¬ ((relO s s.os.n).os.z i).k = 1) : RelA p s (i + 1) cur :=
  ⟨cur, h, TkRow.skip (rel_qin r) (TkAll.pos (rel_qin r) (fun a _ => relM_eq s a) (Nat.le_of_lt hi) h) hi (Nat.le_of_eq (relM_eq s i)) fun b _ => if_neg hk⟩
theorem RelB.pos {p : Pl} {s cur : St} {i j : Nat} (r : RightT p s) (h : RelB p s i j cur) (hi : i < s.os.n) (hj : j ≤ (s.os.z i).ls.n) : Pos p (-1) (relQ s) (relO s s.os.n) i j cur := by
  obtain ⟨y, h1, h2⟩ := h
  exact TkRow.pos (rel_qin r) (TkAll.pos (rel_qin r) (fun a _ => relM_eq s a) (Nat.le_of_lt hi) h1) hi (by rw [← relM_eq]; exact hj) h2
theorem RelB.stepIn {p : Pl} {s cur : St} {i j : Nat} (r : RightT p s) (h : RelB p s i j cur) (hi : i < s.os.n) (hj : j < (s.os.z i).ls.n) : StepIn p (-1) cur i j (relQ s i j) :=
  (h.pos r hi (Nat.le_of_lt hj)).stepIn (rel_qin r) hi (by rw [← relM_eq]; exact hj)
theorem RelB.step {p : Pl} {s cur x : St} {i j : Nat} (h : RelB p s i j cur) (T : Step p (-1) cur i j (relQ s i j) x) : RelB p s i (j + 1) x := by
  obtain ⟨y, h1, h2⟩ := h
  exact ⟨y, h1, cur, h2, T⟩
set_option maxRecDepth 100000 in
set_option maxHeartbeats 8000000 in
theorem Release_any (p : Pl) (s : St) (w : World) (hp : p.At w) (hs : s.At w) :
    Calls Try.prog 14 #[p.val, s.val] w fun e w' => ∃ x : St, e = .returned (.tuple #[x.val, .int .i64 (stateE p s)]) ∧ x.At w' ∧ RelOK p s x ∧ (stateE p s = 0 → OwnS w.heap.size w' x) ∧ Below w.heap.size w w' := by
  obtain ⟨W0, hW, hWB, X0, Z0⟩ : ∃ W, (((w.alloc (.cells #[.slice p.ab p.nb p.cb, .slice p.sa p.ns p.cs] 25)).alloc (.cells s.cells 31)).alloc (.cells #[.slice .none 0 0, .slice .none 0 0, .slice .none 0 0, .slice .none 0 0, .slice .none 0 0, .slice .none 0 0, .slice .none 0 0] 31)) = W ∧ Below w.heap.size w W ∧ Boxes W w.heap.size (w.heap.size + 1) p s ∧ Blk W (w.heap.size + 2) 31 7 (fun _ => .slice .none 0 0) :=
    ⟨_, rfl, (two_below _ _ _).alloc (by simp; omega) _, (boxes_new w p s _ _).below ((Below.refl _ _).alloc (Nat.le_refl _) _), (Blk.mk' (cur := #[.slice .none 0 0, .slice .none 0 0, .slice .none 0 0, .slice .none 0 0, .slice .none 0 0, .slice .none 0 0, .slice .none 0 0]) (by simp) rfl).congr (fun j hj => by match j, hj with | 0, _ => rfl | 1, _ => rfl | 2, _ => rfl | 3, _ => rfl | 4, _ => rfl | 5, _ => rfl | 6, _ => rfl)⟩
  have HC : Hid (∀ wk, Below W0.heap.size W0 wk → Boxes wk w.heap.size (w.heap.size + 1) p s ∧ p.At wk ∧ s.At wk ∧ Below w.heap.size w wk ∧ Blk wk (w.heap.size + 2) 31 7 (fun _ => .slice .none 0 0)) := fun wk h => ⟨X0.below h, (hp.below hWB).below h, (hs.below hWB).below h, hWB.trans (h.mono hWB.size), Z0.below h⟩
  have HW : Hid (((w.alloc (.cells #[.slice p.ab p.nb p.cb, .slice p.sa p.ns p.cs] 25)).alloc (.cells #[.slice s.on.a s.on.n s.on.c, .slice s.os.a s.os.n s.os.c, .slice s.hs.a s.hs.n s.hs.c, .slice s.ms.a s.ms.n s.ms.c, .slice s.si.a s.si.n s.si.c, .slice s.so.a s.so.n s.so.c, .slice s.sf.a s.sf.n s.sf.c] 31)).alloc (.cells #[.slice .none 0 0, .slice .none 0 0, .slice .none 0 0, .slice .none 0 0, .slice .none 0 0, .slice .none 0 0, .slice .none 0 0] 31) = W0) := hW
  have leb := hp.leb
  have capb0 := hp.capb
  have les := hp.les
  have caps0 := hp.caps
  have capb := capb0
  have caps := caps0
  have zlt0 := Z0.lt
  unfold maxLen at capb caps
  clear hW X0 Z0 hp hs
  unfold Pl.val St.val
  go_enter Try.func14, Try.ntmps14
  go_wp2_with fail
  rw [HW.out]
  obtain ⟨X, hpk, hsk, hBw, hz⟩ := HC.out W0 (Below.refl _ _)
  refine (stateCheck_any p s W0 hpk hsk).mono ?_
  rintro e w1 ⟨rfl, hB⟩
  clear X hpk hsk hBw hz HW
  obtain ⟨⟨⟨l1, d0, d1⟩, l2, c0, c1, c2, c3, c4, c5, c6⟩, hpk, hsk, hBw, hz⟩ := HC.out w1 hB
  by_cases h0 : stateE p s = 0
  · have H0 : Hid (stateE p s = 0) := h0
    have HR : Hid (RightT p s) := rightT h0
    rw [h0]
    clear h0
    have HCS : Hid (Calls Try.prog 25 #[s.val] w1 fun e w' => ∃ s' : St, e = .returned s'.val ∧ SameT s' s ∧ OwnS w1.heap.size w' s' ∧ Below w1.heap.size w1 w') := copyState_any p s w1 hsk HR.out.fm
    clear hpk hsk hBw hz
    go_wp2_with fail
    refine Calls.mono HCS.out ?_
    rintro e w4 ⟨x0, rfl, hsame, hown, hB4⟩
    clear HCS l1 d0 d1 l2 c0 c1 c2 c3 c4 c5 c6
    obtain ⟨W5, hW5, hWB5, K5⟩ : ∃ W, w4.alloc (.cells #[.slice x0.on.a x0.on.n x0.on.c, .slice x0.os.a x0.os.n x0.os.c, .slice x0.hs.a x0.hs.n x0.hs.c, .slice x0.ms.a x0.ms.n x0.ms.c, .slice x0.si.a x0.si.n x0.si.c, .slice x0.so.a x0.so.n x0.so.c, .slice x0.sf.a x0.sf.n x0.sf.c] 31) = W ∧ Below w4.heap.size w4 W ∧ Blk W w4.heap.size 31 7 (fun j => x0.cells.getD j default) := ⟨_, rfl, (Below.refl _ _).alloc (Nat.le_refl _) _, Blk.mk' rfl rfl⟩
    have HW5 : Hid (w4.alloc (.cells #[.slice x0.on.a x0.on.n x0.on.c, .slice x0.os.a x0.os.n x0.os.c, .slice x0.hs.a x0.hs.n x0.hs.c, .slice x0.ms.a x0.ms.n x0.ms.c, .slice x0.si.a x0.si.n x0.si.c, .slice x0.so.a x0.so.n x0.so.c, .slice x0.sf.a x0.sf.n x0.sf.c] 31) = W5) := hW5
    have hB15 := hB4.trans (hWB5.mono hB4.size)
    have hB5 := hB.trans (hB15.mono hB.size)
    have HO5 : Hid (OwnS w1.heap.size W5 (relO x0 0)) := by show OwnS w1.heap.size W5 (relO x0 0); rw [relO_zero]; exact OwnS.below hown hWB5
    have HS0 : Hid (SameT x0 s) := hsame
    have s1 := K5.cell (j := 1) (by decide)
    have s1' : W5.cell? ⟨w4.heap.size, 1, none⟩ = some (.slice x0.os.a x0.os.n x0.os.c) := s1
    have s2 := K5.lt
    have HK5 : Hid (Blk W5 w4.heap.size 31 7 (fun j => x0.cells.getD j default)) := K5
    have HB5 : Hid (Below W0.heap.size W0 W5) := hB5
    have A1 : W0.heap.size ≤ w1.heap.size := hB.size
    have A2 : w1.heap.size ≤ w4.heap.size := hB4.size
    have A3 : w1.heap.size ≤ W5.heap.size := hB15.size
    have A27 : w1.heap.size ≤ w4.heap.size := hB4.size
    have ol : x0.os.n ≤ x0.os.c := (OwnS.below hown hWB5).os.le
    have oc : x0.os.c ≤ maxLen := (OwnS.below hown hWB5).os.cap
    unfold maxLen at oc
    have on4 : x0.os.n ≤ 4 := by rw [hsame.os.1]; exact HR.out.fm.os4
    rw [← HW5.out] at s1' s2
    clear hW5 hown K5 hB4 hWB5 hB15 hB5 hsame hB s1
    simp only [St.val]
    go_wp2_with fail
    rw [HW5.out]
    clear s1' s2 HW5
    generalize w4.heap.size = B7 at *
    go_loopw [25] (fun kv wk => ∃ k : Nat, k ≤ x0.os.n ∧ kv = .int .i64 k ∧ Hid (OwnS w1.heap.size wk (relO x0 k)) ∧ Hid (Blk wk B7 31 7 (fun j => x0.cells.getD j default)) ∧ Hid (Below W0.heap.size W0 wk) ∧ Hid (w1.heap.size ≤ wk.heap.size)) (fun kv _ => x0.os.n - (intOf kv).toNat)
    case atStart => exact ⟨0, Nat.zero_le _, rfl, HO5, HK5, HB5, A3⟩
    case round =>
      clear HO5 HK5 HB5 A3
      obtain ⟨k, hk, rfl, HOk, HKk, HBk, HSk⟩ := hrel
      by_cases hlt : k < x0.os.n
      · have q0 : (0 : Int) ≤ (k : Int) := by omega
        have q1 : (k : Int) < (x0.os.n : Int) := by omega
        obtain ⟨gO, g1, g2, g3⟩ := HOk.out.os.list (by show 0 < x0.os.n; omega)
        have g1' : x0.os.a = some ⟨gO, 0, none⟩ := g1
        have HG : Hid ((relO x0 k).os.a = some ⟨gO, 0, none⟩) := g1
        have u1 : wr.cell? ⟨B7, 1, none⟩ = some (.slice x0.os.a x0.os.n x0.os.c) := HKk.out.cell (j := 1) (by decide)
        rw [g1'] at u1
        have u2 := HKk.out.lt
        have u3 := g3.lt
        have HBD : Hid (∀ j, j < ((relO x0 k).os.z k).ls.n → (0 ≤ (((relO x0 k).os.z k).ls.z j).l ∧ (((relO x0 k).os.z k).ls.z j).l ≤ 200) ∧ 0 ≤ (((relO x0 k).os.z k).ls.z j).b ∧ (((relO x0 k).os.z k).ls.z j).b ≤ 200) := by
          show ∀ j, j < (relOd k k (x0.os.z k)).ls.n → (0 ≤ ((relOd k k (x0.os.z k)).ls.z j).l ∧ ((relOd k k (x0.os.z k)).ls.z j).l ≤ 200) ∧ 0 ≤ ((relOd k k (x0.os.z k)).ls.z j).b ∧ ((relOd k k (x0.os.z k)).ls.z j).b ≤ 200
          rw [relOd_later _ (Nat.le_refl _)]
          intro j hj
          have e := HS0.out.os.2 k hlt
          have hl := badLine_no (HR.out.fm.line k (by rw [← HS0.out.os.1]; exact hlt) j (by rw [← e.2.1]; exact hj))
          rw [e.2.2 j hj]
          omega
        clear g1 g1' g3
        go_wp2_with fail
        refine (release_any (relO x0 k) k w1.heap.size gO wr HSk.out HOk.out hlt HG.out HBD.out).mono ?_
        rintro e w6 ⟨y, rfl, y0, y1, hO6, hB6, hK6⟩
        have HN : Hid (OwnS w1.heap.size w6 (relO x0 (k + 1)) ∧ Blk w6 B7 31 7 (fun j => x0.cells.getD j default) ∧ Below W0.heap.size W0 w6 ∧ w1.heap.size ≤ w6.heap.size) := by
          refine ⟨?_, hK6 _ _ _ _ (by decide) (by decide) HKk.out, HBk.out.trans (hB6.mono A1), Nat.le_trans HSk.out hB6.size⟩
          have e : ((relO x0 k).os.z k).k = (x0.os.z k).k := by show (relOd k k (x0.os.z k)).k = _; rw [relOd_later _ (Nat.le_refl _)]
          by_cases c : (x0.os.z k).k = 0
          · rw [← relO_hit c, ← y0 (by rw [e]; exact c)]; exact hO6
          · rw [← relO_miss c, ← y1 (by rw [e]; exact c)]; exact hO6
        clear y0 y1 hO6 hB6 hK6 HOk HKk HBk HSk u1 u2 u3 HBD HG
        go_wp2_with fail
        go_roundw
        case rel => exact ⟨k + 1, by omega, by go_num, HN.out.1, HN.out.2.1, HN.out.2.2.1, HN.out.2.2.2⟩
        case measure => simp [intOf]; omega
      · have hkn : k = x0.os.n := by omega
        subst hkn
        obtain ⟨y0, ya, yn, yc, HI, HYS⟩ : ∃ y : St, x0.os.a = y.os.a ∧ x0.os.n = y.os.n ∧ x0.os.c = y.os.c ∧ Hid (RelI p s y w1.heap.size B7 W0 y wr) ∧ Hid (SameT y (relO s s.os.n)) := ⟨relO x0 x0.os.n, rfl, rfl, rfl, ⟨HOk.out, HOk.out, HKk.out, HBk.out, HSk.out⟩, by have h := relO_same HS0.out x0.os.n; rw [HS0.out.os.1] at h ⊢; exact h⟩
        have u1 : wr.cell? ⟨B7, 1, none⟩ = some (.slice x0.os.a x0.os.n x0.os.c) := HKk.out.cell (j := 1) (by decide)
        have u2 := HKk.out.lt
        go_wp2_with fail
        rw [ya, yn, yc]
        rw [yn, yc] at ol
        rw [yc] at oc
        rw [yn] at on4
        clear u1 u2 ya yn yc HOk HKk HBk HSk HS0 hk hlt
        go_loopw [37] (fun kv wk => ∃ (i : Nat) (cur : St), i ≤ y0.os.n ∧ kv = .int .i64 i ∧ Hid (RelI p s y0 w1.heap.size B7 W0 cur wk) ∧ Hid (RelA p s i cur)) (fun kv _ => y0.os.n - (intOf kv).toNat)
        case atStart => exact ⟨0, y0, Nat.zero_le _, rfl, HI, HYS.out⟩
        case round =>
          clear HI
          obtain ⟨i, cur, hi, rfl, HI, HA⟩ := hrel
          by_cases hlt : i < y0.os.n
          · have q0 : (0 : Int) ≤ (i : Int) := by omega
            have q1 : (i : Int) < (y0.os.n : Int) := by omega
            obtain ⟨bo, oo, hoa, hbo, z0, z1, hlk⟩ := HI.out.own0.at.os.ods i hlt
            have eo := HYS.out.os.2 i hlt
            have his : i < s.os.n := by have := HYS.out.os.1; show i < s.os.n; exact this ▸ hlt
            have HEN : Hid ((y0.os.z i).ls.n = (s.os.z i).ls.n) := eo.2.1.trans (relM_eq s i).symm
            have HEK : Hid ((y0.os.z i).k = ((relO s s.os.n).os.z i).k) := eo.1
            have HEL : Hid (∀ j, j < (y0.os.z i).ls.n → ((y0.os.z i).ls.z j).n = (((relO s s.os.n).os.z i).ls.z j).n) := fun j hj => by rw [eo.2.2 j hj]
            have ll := hlk.le
            have lc := hlk.cap
            unfold maxLen at lc
            have ln3 : (y0.os.z i).ls.n ≤ 3 := by rw [HEN.out]; exact (HR.out.fm.lns i his).2
            rw [hoa]
            clear hoa eo
            obtain ⟨W, hW, hWB⟩ : ∃ W, wr.alloc (.cells #[.int .i64 (y0.os.z i).k, .slice (y0.os.z i).ls.a (y0.os.z i).ls.n (y0.os.z i).ls.c] 48) = W ∧ Below wr.heap.size wr W := ⟨_, rfl, (Below.refl _ _).alloc (Nat.le_refl _) _⟩
            have HW : Hid (wr.alloc (.cells #[.int .i64 (y0.os.z i).k, .slice (y0.os.z i).ls.a (y0.os.z i).ls.n (y0.os.z i).ls.c] 48) = W) := hW
            have HIW : Hid (RelI p s y0 w1.heap.size B7 W0 cur W) := HI.out.below hWB
            have HLK : Hid ((y0.os.z i).ls.At W) := hlk.below hWB
            clear hW hlk
            by_cases hk : (y0.os.z i).k = 1
            · have HK1 : Hid (((relO s s.os.n).os.z i).k = 1) := by rw [← HEK.out]; exact hk
              rw [hk] at z0 HW
              clear hk HEK
              go_wp2_with fail
              rw [HW.out]
              clear z0 z1 hbo HW q0 q1
              go_loopw [48] (fun jv wk => ∃ (j : Nat) (cr : St), j ≤ (y0.os.z i).ls.n ∧ jv = .int .i64 j ∧ Hid (RelI p s y0 w1.heap.size B7 W0 cr wk) ∧ Hid ((y0.os.z i).ls.At wk) ∧ Hid (RelB p s i j cr)) (fun jv _ => (y0.os.z i).ls.n - (intOf jv).toNat)
              case atStart => exact ⟨0, cur, Nat.zero_le _, rfl, HIW, HLK, HA.out.row⟩
              case round =>
                clear HIW HLK HI HA
                obtain ⟨j, cr, hj, rfl, HI, HLK, HB⟩ := hrel
                by_cases hjl : j < (y0.os.z i).ls.n
                · have q2 : (0 : Int) ≤ (j : Int) := by omega
                  have q3 : (j : Int) < ((y0.os.z i).ls.n : Int) := by omega
                  obtain ⟨bl, ob, hla, hbl, y1, y2, y3, y4⟩ := HLK.out.hds j hjl
                  rw [hla]
                  have hjs : j < (s.os.z i).ls.n := by rw [← HEN.out]; exact hjl
                  have HQ : Hid (relQ s i j = ((y0.os.z i).ls.z j).n) := by show relQ s i j = _; rw [HEL.out j hjl]; exact if_pos HK1.out
                  have HSI : Hid (StepIn p (-1) cr i j ((y0.os.z i).ls.z j).n) := by show StepIn _ _ _ _ _ _; rw [← HQ.out]; exact HB.out.stepIn HR.out his hjs
                  have HK2 : Hid ((cr.os.z i).k = 1) := ((HB.out.pos HR.out his (Nat.le_of_lt hjs)).al.kind i his).1.trans HK1.out
                  have HE0 : Hid (allocE p cr i j ((y0.os.z i).ls.z j).n (-1) = 0) := by have I := HSI.out.allocIn HK2.out; exact I.less ⟨I.n0, Int.le_refl _⟩
                  have HST : Hid (∀ x, Step p (-1) cr i j ((y0.os.z i).ls.z j).n x → RelB p s i (j + 1) x) := fun x T => HB.out.step (by rw [HQ.out]; exact T)
                  clear hla HSI HK2 HB
                  generalize (y0.os.z i).ls.z j = Z at *
                  obtain ⟨W2, hW2, hWB2⟩ : ∃ W, wr.alloc (.cells #[.int .i64 Z.o, .int .i64 Z.l, .int .i64 Z.b, .int .i64 Z.n] 50) = W ∧ Below wr.heap.size wr W := ⟨_, rfl, (Below.refl _ _).alloc (Nat.le_refl _) _⟩
                  have HW2 : Hid (wr.alloc (.cells #[.int .i64 Z.o, .int .i64 Z.l, .int .i64 Z.b, .int .i64 Z.n] 50) = W2) := hW2
                  have HI2 : Hid (RelI p s y0 w1.heap.size B7 W0 cr W2) := HI.out.below hWB2
                  have HLK2 : Hid ((y0.os.z i).ls.At W2) := HLK.out.below hWB2
                  obtain ⟨⟨⟨l1, d0, d1⟩, l2, c0, c1, c2, c3, c4, c5, c6⟩, hpk, hsk, hBw, hz⟩ := HC.out W2 HI2.out.bel
                  obtain ⟨m1, p0, p1, p2, p3, p4, p5, p6⟩ := Boxed.of HI2.out.box
                  have HPK : Hid (p.At W2) := hpk
                  clear hW2 hWB2 hpk hsk hBw hz l2 c0 c1 c2 c3 c4 c5 c6 HI HLK
                  rw [← HW2.out] at l1 d0 d1 m1 p0 p1 p2 p3 p4 p5 p6
                  go_wp2_with fail
                  rw [HW2.out]
                  clear HW2 l1 d0 d1 m1 p0 p1 p2 p3 p4 p5 p6 hbl y1 y2 y3 y4
                  refine (Take_any p cr i j Z.n (-1) W2 HPK.out HI2.out.own.at).mono ?_
                  rintro e w8 ⟨x, rfl, xat, xok, xown, hB8⟩
                  have HT : Hid (RelB p s i (j + 1) x) := HST.out x (xok.1 HE0.out)
                  have HOX : Hid (OwnS w1.heap.size w8 x) := (xown HE0.out).mono HI2.out.le
                  have HI8 : Hid (RelI p s y0 w1.heap.size B7 W0 cr w8) := HI2.out.below hB8
                  have HLK8 : Hid ((y0.os.z i).ls.At w8) := HLK2.out.below hB8
                  have hb8 := HI8.out.box
                  have zl := hb8.lt
                  have zf0 := hb8.frozen 0
                  have zc0 := hb8.cell (j := 0) (by decide)
                  have zf1 := hb8.frozen 1
                  have zc1 := hb8.cell (j := 1) (by decide)
                  have zf2 := hb8.frozen 2
                  have zc2 := hb8.cell (j := 2) (by decide)
                  have zf3 := hb8.frozen 3
                  have zc3 := hb8.cell (j := 3) (by decide)
                  have zf4 := hb8.frozen 4
                  have zc4 := hb8.cell (j := 4) (by decide)
                  have zf5 := hb8.frozen 5
                  have zc5 := hb8.cell (j := 5) (by decide)
                  have zf6 := hb8.frozen 6
                  have zc6 := hb8.cell (j := 6) (by decide)
                  clear hb8 xat xok xown hB8 HST HI2 HLK2 HPK
                  generalize allocL p cr i j Z.n (-1) = LL at *
                  generalize allocE p cr i j Z.n (-1) = EE at *
                  simp only [St.val]
                  go_wp2_with fail
                  have HN : Hid (RelI p s y0 w1.heap.size B7 W0 x (set7 w8 B7 (.slice x.on.a x.on.n x.on.c) (.slice x.os.a x.os.n x.os.c) (.slice x.hs.a x.hs.n x.hs.c) (.slice x.ms.a x.ms.n x.ms.c) (.slice x.si.a x.si.n x.si.c) (.slice x.so.a x.so.n x.so.c) (.slice x.sf.a x.sf.n x.sf.c)) ∧ (y0.os.z i).ls.At (set7 w8 B7 (.slice x.on.a x.on.n x.on.c) (.slice x.os.a x.os.n x.os.c) (.slice x.hs.a x.hs.n x.hs.c) (.slice x.ms.a x.ms.n x.ms.c) (.slice x.si.a x.si.n x.si.c) (.slice x.so.a x.so.n x.so.c) (.slice x.sf.a x.sf.n x.sf.c))) := by
                    have K := set7_blk HI8.out.box (.slice x.on.a x.on.n x.on.c) (.slice x.os.a x.os.n x.os.c) (.slice x.hs.a x.hs.n x.hs.c) (.slice x.ms.a x.ms.n x.ms.c) (.slice x.si.a x.si.n x.si.c) (.slice x.so.a x.so.n x.so.c) (.slice x.sf.a x.sf.n x.sf.c)
                    have hb := set7_below (b := B7) HI8.out.bel (Nat.le_trans A1 A27) (.slice x.on.a x.on.n x.on.c) (.slice x.os.a x.os.n x.os.c) (.slice x.hs.a x.hs.n x.hs.c) (.slice x.ms.a x.ms.n x.ms.c) (.slice x.si.a x.si.n x.si.c) (.slice x.so.a x.so.n x.so.c) (.slice x.sf.a x.sf.n x.sf.c)
                    refine ⟨⟨OwnS.set7 HI8.out.own0 HI8.out.box (.slice x.on.a x.on.n x.on.c) (.slice x.os.a x.os.n x.os.c) (.slice x.hs.a x.hs.n x.hs.c) (.slice x.ms.a x.ms.n x.ms.c) (.slice x.si.a x.si.n x.si.c) (.slice x.so.a x.so.n x.so.c) (.slice x.sf.a x.sf.n x.sf.c), OwnS.set7 HOX.out HI8.out.box (.slice x.on.a x.on.n x.on.c) (.slice x.os.a x.os.n x.os.c) (.slice x.hs.a x.hs.n x.hs.c) (.slice x.ms.a x.ms.n x.ms.c) (.slice x.si.a x.si.n x.si.c) (.slice x.so.a x.so.n x.so.c) (.slice x.sf.a x.sf.n x.sf.c), K.congr (fun j hj => by match j, hj with | 0, _ => rfl | 1, _ => rfl | 2, _ => rfl | 3, _ => rfl | 4, _ => rfl | 5, _ => rfl | 6, _ => rfl), hb, ?_⟩, ?_⟩
                    · have := HI8.out.le
                      simpa [set7] using this
                    · exact ((OwnS.set7 HI8.out.own0 HI8.out.box (.slice x.on.a x.on.n x.on.c) (.slice x.os.a x.os.n x.os.c) (.slice x.hs.a x.hs.n x.hs.c) (.slice x.ms.a x.ms.n x.ms.c) (.slice x.si.a x.si.n x.si.c) (.slice x.so.a x.so.n x.so.c) (.slice x.sf.a x.sf.n x.sf.c)).at.os.ods i hlt).choose_spec.choose_spec.2.2.2.2
                  unfold set7 at HN
                  go_roundw
                  case rel => exact ⟨j + 1, x, by omega, by go_num, HN.out.1, HN.out.2, HT⟩
                  case measure => simp [intOf]; omega
                · have hjn : j = (y0.os.z i).ls.n := by omega
                  subst hjn
                  have HN : Hid (RelA p s (i + 1) cr) := by have h := HB.out; rw [HEN.out] at h; exact h.next
                  go_wp2_with fail
                  go_roundw
                  case rel => exact ⟨i + 1, cr, by omega, by go_num, HI, HN⟩
                  case measure => simp [intOf]; omega
            · have HN : Hid (RelA p s (i + 1) cur) := HA.out.skip HR.out his (by rw [← HEK.out]; exact hk)
              have hk' : ((y0.os.z i).k != 1) = true := by simpa using hk
              clear hk HEK
              generalize (y0.os.z i).k = KK at *
              go_wp2_with fail
              rw [HW.out]
              go_roundw
              case rel => exact ⟨i + 1, cur, by omega, by go_num, HIW, HN⟩
              case measure => simp [intOf]; omega
          · have hin : i = y0.os.n := by omega
            have HRL : Hid (Released p s cur) := by have h := HA.out; rw [hin, HYS.out.os.1] at h; exact h
            obtain ⟨m1, p0, p1, p2, p3, p4, p5, p6⟩ := Boxed.of HI.out.box
            obtain ⟨-, -, -, hBw, hz⟩ := HC.out wr HI.out.bel
            have HZ : Hid (Below w.heap.size w wr ∧ Blk wr (w.heap.size + 2) 31 7 (fun _ => .slice .none 0 0)) := ⟨hBw, hz⟩
            have zl := hz.lt
            have zf0 := hz.frozen 0
            have zc0 := hz.cell (j := 0) (by decide)
            have zf1 := hz.frozen 1
            have zc1 := hz.cell (j := 1) (by decide)
            have zf2 := hz.frozen 2
            have zc2 := hz.cell (j := 2) (by decide)
            have zf3 := hz.frozen 3
            have zc3 := hz.cell (j := 3) (by decide)
            have zf4 := hz.frozen 4
            have zc4 := hz.cell (j := 4) (by decide)
            have zf5 := hz.frozen 5
            have zc5 := hz.cell (j := 5) (by decide)
            have zf6 := hz.frozen 6
            have zc6 := hz.cell (j := 6) (by decide)
            have hlow := (HC.out _ (Below.refl _ _)).2.2.2.1.size
            clear hBw hz
            go_wp2_with fail
            have KZ := set7_blk HZ.out.2 (.slice cur.on.a cur.on.n cur.on.c) (.slice cur.os.a cur.os.n cur.os.c) (.slice cur.hs.a cur.hs.n cur.hs.c) (.slice cur.ms.a cur.ms.n cur.ms.c) (.slice cur.si.a cur.si.n cur.si.c) (.slice cur.so.a cur.so.n cur.so.c) (.slice cur.sf.a cur.sf.n cur.sf.c)
            have hbz := set7_below (b := w.heap.size + 2) HZ.out.1 (by omega) (.slice cur.on.a cur.on.n cur.on.c) (.slice cur.os.a cur.os.n cur.os.c) (.slice cur.hs.a cur.hs.n cur.hs.c) (.slice cur.ms.a cur.ms.n cur.ms.c) (.slice cur.si.a cur.si.n cur.si.c) (.slice cur.so.a cur.so.n cur.so.c) (.slice cur.sf.a cur.sf.n cur.sf.c)
            have hOz := OwnS.set7 HI.out.own HZ.out.2 (.slice cur.on.a cur.on.n cur.on.c) (.slice cur.os.a cur.os.n cur.os.c) (.slice cur.hs.a cur.hs.n cur.hs.c) (.slice cur.ms.a cur.ms.n cur.ms.c) (.slice cur.si.a cur.si.n cur.si.c) (.slice cur.so.a cur.so.n cur.so.c) (.slice cur.sf.a cur.sf.n cur.sf.c)
            unfold set7 at KZ hbz hOz
            obtain ⟨c0', c1', c2', c3', c4', c5', c6'⟩ := box_cells KZ
            refine bodyPost_ret (v := .tuple #[cur.val, .int .i64 0]) (by simp [results, Try.results14, go_sem, St.val, c0', c1', c2', c3', c4', c5', c6']) rfl ?_
            exact ⟨cur, by rw [H0.out]; rfl, hOz.at, ⟨fun _ => HRL.out, fun h => absurd H0.out h⟩, fun _ => hOz.mono (by omega), hbz⟩
  · have HNE : Hid (¬ stateE p s = 0) := h0
    have g0 : (stateE p s != 0) = true := by simpa using h0
    clear h0 hpk hsk
    have zl := hz.lt
    have zf0 := hz.frozen 0
    have zc0 := hz.cell (j := 0) (by decide)
    have zf1 := hz.frozen 1
    have zc1 := hz.cell (j := 1) (by decide)
    have zf2 := hz.frozen 2
    have zc2 := hz.cell (j := 2) (by decide)
    have zf3 := hz.frozen 3
    have zc3 := hz.cell (j := 3) (by decide)
    have zf4 := hz.frozen 4
    have zc4 := hz.cell (j := 4) (by decide)
    have zf5 := hz.frozen 5
    have zc5 := hz.cell (j := 5) (by decide)
    have zf6 := hz.frozen 6
    have zc6 := hz.cell (j := 6) (by decide)
    go_wp2_with fail
    have KZ := set7_blk hz (.slice .none 0 0) (.slice .none 0 0) (.slice .none 0 0) (.slice .none 0 0) (.slice .none 0 0) (.slice .none 0 0) (.slice .none 0 0)
    have hbz := set7_below (b := w.heap.size + 2) hBw (by omega) (.slice .none 0 0) (.slice .none 0 0) (.slice .none 0 0) (.slice .none 0 0) (.slice .none 0 0) (.slice .none 0 0) (.slice .none 0 0)
    unfold set7 at KZ hbz
    obtain ⟨c0', c1', c2', c3', c4', c5', c6'⟩ := box_cells KZ
    refine bodyPost_ret (v := .tuple #[noneS.val, .int .i64 (stateE p s)]) (by simp [results, Try.results14, go_sem, noneS, St.val, c0', c1', c2', c3', c4', c5', c6']) rfl ?_
    exact ⟨noneS, rfl, noneS_at _, ⟨fun h => absurd h HNE.out, fun _ => ⟨rfl, rfl, rfl, rfl, rfl, rfl, rfl⟩⟩, fun h => absurd h HNE.out, hbz⟩
end Go.Proofs.Ytbcacebifpagpad
namespace Go.Proofs.Ytbcacebifpagpad
open Go.RowKit
set_option linter.unusedVariables false
def updB (dn : Nat → Bool) (i j : Nat) : Bool := if j = i then true else dn j
theorem made_aux7 {P : Program} {ops : Array Oper} {Q : Exit → Act → World → Prop} {S : World → Prop} {T : Nat → Bool} {rem : List Nat} {L : Array Bool} {a1 : Act} {I : (Nat → Bool) → (Nat → Value) → World → Prop} {fuel : Nat} (hB : madeB5 ops rem L = true) (hT : ∀ r ∈ rem, T r = false)
    (step : ∀ i ∈ rem, ∀ (dn : Nat → Bool) (V : Nat → Value) (w : World) (K : Act → World → Prop), S w → dn i = false → (∀ d ∈ depsOf ops i, d ∈ rem → dn d = true) → I dn V w →
      (∀ v w', S w' → I (updB dn i) (upd V i v) w' → K ((putAll ops rem V a1).put (dstOf ops i) v) w') → wpOp P ops Q i K (putAll ops rem V a1) w)
    (done : ∀ (dn : Nat → Bool) (V : Nat → Value) (w : World), S w → (∀ j ∈ rem, dn j = true) → I dn V w → wpAnyT P ops Q S T fuel (mark L rem) (putAll ops rem V a1) w) :
    ∀ (m : Nat) (listed : Array Bool) (V : Nat → Value) (w : World), (rem.filter (fun r => !listed.getD r true)).length = m → listed.size = ops.size → (∀ j, j ∉ rem → listed[j]? = L[j]?) → Closed ops listed → S w → I (fun j => listed.getD j true) V w →
      wpAnyT P ops Q S T (m + fuel) listed (putAll ops rem V a1) w := by
  simp only [madeB5, Bool.and_eq_true, decide_eq_true_eq] at hB
  obtain ⟨⟨⟨⟨hoth, htopo⟩, hrem⟩, hLs⟩, hnd⟩ := hB
  have hrem' : ∀ r ∈ rem, r < ops.size ∧ L.getD r true = false := fun r hr => by
    have := List.all_eq_true.1 hrem r hr
    simpa using this
  intro m
  induction m with
  | zero =>
    intro listed V w hm hsz hag hcl hS hI
    have hall : ∀ r ∈ rem, listed.getD r true = true := fun r hr => by
      cases hq : listed.getD r true
      · have : r ∈ rem.filter (fun r => !listed.getD r true) := List.mem_filter.2 ⟨hr, by simp [hq]⟩
        rw [List.length_eq_zero_iff.1 hm] at this
        simp at this
      · rfl
    have hl : listed = mark L rem := by
      apply Array.ext_getElem?
      intro j
      by_cases hj : j < L.size
      · rw [mark_get rem L j hj]
        by_cases hjr : j ∈ rem
        · rw [if_pos hjr]
          have h1 := hall j hjr
          have h2 : j < listed.size := by omega
          simp only [Array.getD, h2, dif_pos] at h1
          simp [h2]
          exact h1
        · rw [if_neg hjr]; exact hag j hjr
      · rw [Array.getElem?_eq_none (by omega), Array.getElem?_eq_none (by rw [mark_size]; omega)]
    rw [Nat.zero_add]
    have h := done (fun j => listed.getD j true) V w hS hall hI
    rw [← hl] at h
    exact h
  | succ m ih =>
    intro listed V w hm hsz hag hcl hS hI
    have hex : ∃ r ∈ rem, listed.getD r true = false := by
      have hne : rem.filter (fun r => !listed.getD r true) ≠ [] := fun e => by rw [e] at hm; simp at hm
      obtain ⟨x, hx⟩ := List.exists_mem_of_ne_nil _ hne
      have := List.mem_filter.1 hx
      exact ⟨x, this.1, by simpa using this.2⟩
    have hLl : ∀ d, L.getD d false = true → listed.getD d false = true := fun d hd => by
      by_cases hdr : d ∈ rem
      · have h1 := (hrem' d hdr).2
        have h2 : d < L.size := by have := (hrem' d hdr).1; omega
        simp only [Array.getD, h2, dif_pos] at h1 hd
        rw [h1] at hd; cases hd
      · have h1 := hag d hdr
        by_cases h2 : d < L.size
        · have h3 : d < listed.size := by omega
          simp only [Array.getD, h2, h3, dif_pos] at hd ⊢
          simp only [Array.getElem?_eq_getElem h2, Array.getElem?_eq_getElem h3, Option.some.injEq] at h1
          rw [Array.getInternal_eq_getElem] at hd ⊢
          rw [h1]; exact hd
        · simp [Array.getD, h2] at hd
    obtain ⟨r0, hr0, hr0r⟩ := topo_ready hsz [] rem htopo hLl (fun d hd => by simp at hd) (fun r hr => (hrem' r hr).1) hex
    rw [Nat.add_right_comm]
    refine ⟨fun h0 => absurd (h0 ▸ hr0r) (by simp), fun i hi => ?_⟩
    obtain ⟨hli, o, ho, hdep⟩ := mem_ready.1 hi
    have hdeps : ∀ d ∈ depsOf ops i, listed.getD d false = true := fun d hd => by
      unfold depsOf at hd
      rw [ho] at hd
      obtain ⟨e, he, rfl⟩ := List.mem_map.1 hd
      have := List.mem_filter.1 he
      exact hdep e (by simpa using this.1) this.2
    have hdt : ∀ d, listed.getD d false = true → listed.getD d true = true := fun d hd => by
      by_cases h2 : d < listed.size
      · simpa [Array.getD, h2] using hd
      · simp [Array.getD, h2]
    have hir : i ∈ rem := by
      cases hc : rem.contains i
      · exfalso
        have hlt : i < ops.size := (Array.getElem?_eq_some_iff.1 ho).1
        have hnr : i ∉ rem := fun h => by
          have := List.contains_iff_mem.2 h
          rw [this] at hc; cases hc
        have h1 := List.all_eq_true.1 hoth i (List.mem_range.2 hlt)
        have hLi : L.getD i true = false := by
          have h2 := hag i hnr
          have h3 : i < L.size := by omega
          have h4 : i < listed.size := by omega
          simp only [Array.getElem?_eq_getElem h3, Array.getElem?_eq_getElem h4, Option.some.injEq] at h2
          simp only [Array.getD, h3, h4, dif_pos] at hli ⊢
          rw [Array.getInternal_eq_getElem] at hli ⊢
          rw [← h2]; exact hli
        rw [hLi, hc] at h1
        simp only [Bool.false_or] at h1
        obtain ⟨q, hq, hq2⟩ := hex
        have h5 := List.all_eq_true.1 h1 q hq
        have h6 := hdt q (reach_listed hcl _ i q (ready_deps hi) h5)
        rw [hq2] at h6; cases h6
      · exact List.contains_iff_mem.1 hc
    have hin : i < listed.size := by rw [hsz]; exact (hrem' i hir).1
    have hlit : listed.getD i true = false := hli
    refine step i hir (fun j => listed.getD j true) V w _ hS hlit (fun d hd hdr => hdt d (hdeps d hd)) hI (fun v w' hS' hI' => ?_)
    refine ⟨fun _ => hS', ?_⟩
    rw [putAll_put hnd hir]
    have gset : ∀ j, (listed.setIfInBounds i true).getD j true = if j = i then true else listed.getD j true := fun j => by
      by_cases hj : j = i
      · subst hj; simp [Array.getD, hin]
      · rw [if_neg hj, getD_set_ne true (fun e => hj e.symm)]
    refine ih (listed.setIfInBounds i true) (upd V i v) w' ?_ (by simpa using hsz) (fun j hj => ?_) (hcl.set hi) hS' ?_
    · have hnodup : rem.Nodup := by
        exact (List.pairwise_map.1 hnd).imp (fun h e => h (by rw [e]))
      have hcount : (rem.filter (fun r => !(listed.setIfInBounds i true).getD r true)) = (rem.filter (fun r => !listed.getD r true)).erase i := by
        have e2 : rem.filter (fun r => !(listed.setIfInBounds i true).getD r true) = (rem.filter (fun r => !listed.getD r true)).filter (fun r => r != i) := by
          rw [List.filter_filter]
          refine List.filter_congr fun x hx => ?_
          rw [gset x]
          by_cases hxi : x = i <;> simp [hxi]
        rw [e2, ← List.Nodup.erase_eq_filter (hnodup.filter _)]
      rw [hcount, List.length_erase_of_mem (List.mem_filter.2 ⟨hir, by simp [hli]⟩), hm]
      rfl
    · rw [Array.getElem?_setIfInBounds, if_neg (fun e : i = j => hj (by rw [← e]; exact hir))]
      exact hag j hj
    · have e : (fun j => (listed.setIfInBounds i true).getD j true) = updB (fun j => listed.getD j true) i := funext fun j => gset j
      rw [e]
      exact hI'
def Made7 (P : Program) (ops : Array Oper) (Q : Exit → Act → World → Prop) (S : World → Prop) (rem : List Nat) (a1 : Act) : Prop :=
  ∃ I : (Nat → Bool) → (Nat → Value) → World → Prop, (∀ (dn : Nat → Bool) (V : Nat → Value) (w : World), S w → (∀ j ∈ rem, dn j = false) → I dn V w) ∧
    (∀ i ∈ rem, ∀ (dn : Nat → Bool) (V : Nat → Value) (w : World) (K : Act → World → Prop), S w → dn i = false → (∀ d ∈ depsOf ops i, d ∈ rem → dn d = true) → I dn V w →
      (∀ v w', S w' → I (updB dn i) (upd V i v) w' → K ((putAll ops rem V a1).put (dstOf ops i) v) w') → wpOp P ops (NoPanic Q) i K (putAll ops rem V a1) w) ∧
    (∀ (dn : Nat → Bool) (V : Nat → Value) (w : World), S w → (∀ j ∈ rem, dn j = true) → I dn V w → NoPanic Q .normal (putAll ops rem V a1) w)
theorem wp_region_made7 {P : Program} {l : List Oper} {Q : Exit → Act → World → Prop} {id : Nat} {a : Act} {w : World} (S : World → Prop) (ks rem : List Nat)
    (hm : P.follows .mixedOrders = true) (hs : Region.noSelect l.toArray = true) (hF : firstsB l.toArray ks (Array.replicate l.length false) = true) (hks : ks.all (fun k => decide (k < l.length)) = true) (hv : ((picks l ks).all vKind2) = true)
    (hM : madeB5 l.toArray rem (mark (Array.replicate l.length false) ks) = true) (hB : seqB l.toArray [] (mark (mark (Array.replicate l.length false) ks) rem) = true) (hl : ks.length + rem.length = l.length)
    (hS : S w.drew) (h : wpQuiet P l.toArray S (Made7 P l.toArray Q S rem) (picks l ks) a) : (Code.region id l.toArray true).wp P Q a w := by
  refine wp_region_noPanic (wp_region_any hm ?_)
  have hM' := hM
  simp only [madeB5, Bool.and_eq_true, decide_eq_true_eq] at hM'
  have key := wpAnyT_firsts (Q := NoPanic Q) (T := fun _ => false) (N := l.toArray.size) (fuel := rem.length) (w := w.drew) hs hS (fun c a a' w h => (h : False).elim) ks (picks l ks) _ a hF (fun k hk => ⟨rfl, fun j hj => by cases hj⟩) (Closed.none _ _) (picks_ok hks) hv h (fun a1 hK hcl => ?_)
  · have := wpAny_of_T _ _ _ _ key
    rw [hl] at this
    simpa using this
  · obtain ⟨I, init, step, done⟩ := hK
    have hall : (rem.filter (fun r => !(mark (Array.replicate l.length false) ks).getD r true)) = rem := by
      rw [List.filter_eq_self]
      intro r hr
      have := List.all_eq_true.1 hM'.1.1.2 r hr
      simp only [Bool.and_eq_true] at this
      exact this.2
    have hun : ∀ j ∈ rem, (mark (Array.replicate l.length false) ks).getD j true = false := fun j hj => by
      have := List.all_eq_true.1 hM'.1.1.2 j hj
      simp only [Bool.and_eq_true] at this
      simpa using this.2
    obtain ⟨V0, hV0⟩ : ∃ V0, putAll l.toArray rem V0 a1 = a1 := ⟨_, putAll_self a1 rem⟩
    have := made_aux7 (P := P) (Q := NoPanic Q) (S := S) (T := fun _ => false) (a1 := a1) (fuel := 0) (I := I) hM (fun _ _ => rfl) step
      (fun dn V w' hS' hd hI => wpAnyT_seq [] _ _ w' hB (fun t i hti => by simp at hti) (done dn V w' hS' hd hI))
      rem.length (mark (Array.replicate l.length false) ks) V0 w.drew (by rw [hall]) hM'.1.2 (fun _ _ => rfl) hcl hS (init _ _ _ hS hun)
    rw [hV0] at this
    exact this
end Go.Proofs.Ytbcacebifpagpad
namespace Go.Proofs.Ytbcacebifpagpad
open Go.RowKit Go.Shelf Go.Sort
set_option linter.unusedVariables false
structure CallJ (R : St → World → Prop) (E : Int) (W : World) (dn : Nat → Bool) (V : Nat → Value) (w : World) : Prop where
  bel : Below W.heap.size W w
  c3 : dn 3 = true → dn 2 = true
  c4 : dn 4 = true → dn 2 = true
  c7 : dn 7 = true → dn 2 = true ∧ dn 6 = true
  yd : dn 0 = true → ∃ g1 g2, V 0 = (yardP g1 g2).val ∧ Blk w g1 64 12 yardF ∧ Blk w g2 3 2 yardG
  box : dn 6 = true → ∃ B, V 6 = .pointer (some ⟨B, 0, none⟩) ∧ W.heap.size ≤ B ∧ ∃ f, Blk w B 31 7 f
  got : dn 2 = true → ∃ x, R x w ∧ V 2 = .tuple #[.agg #[.slice x.on.a x.on.n x.on.c, .slice x.os.a x.os.n x.os.c, .slice x.hs.a x.hs.n x.hs.c, .slice x.ms.a x.ms.n x.ms.c, .slice x.si.a x.si.n x.si.c, .slice x.so.a x.so.n x.so.c, .slice x.sf.a x.sf.n x.sf.c], .int .i64 E] ∧ (dn 3 = true → V 3 = .tuple #[.agg #[.slice x.on.a x.on.n x.on.c, .slice x.os.a x.os.n x.os.c, .slice x.hs.a x.hs.n x.hs.c, .slice x.ms.a x.ms.n x.ms.c, .slice x.si.a x.si.n x.si.c, .slice x.so.a x.so.n x.so.c, .slice x.sf.a x.sf.n x.sf.c], .int .i64 E]) ∧ (dn 4 = true → V 4 = .agg #[.slice x.on.a x.on.n x.on.c, .slice x.os.a x.os.n x.os.c, .slice x.hs.a x.hs.n x.hs.c, .slice x.ms.a x.ms.n x.ms.c, .slice x.si.a x.si.n x.si.c, .slice x.so.a x.so.n x.so.c, .slice x.sf.a x.sf.n x.sf.c]) ∧ (dn 7 = true → ∀ B, V 6 = .pointer (some ⟨B, 0, none⟩) → Blk w B 31 7 (fun j => x.cells.getD j default))
  n5 : dn 5 = true → V 5 = .int .i64 E
  n8 : dn 8 = true → V 8 = .int .i64 E
theorem relBusy (g1 g2 g : Nat) : (relT (yardP g1 g2) (busyS g 2 0)).os.n = 2 ∧ ((relT (yardP g1 g2) (busyS g 2 0)).os.z 1).k = 1 ∧ ((relT (yardP g1 g2) (busyS g 2 0)).os.z 1).ls.n = 1 ∧ (((relT (yardP g1 g2) (busyS g 2 0)).os.z 1).ls.z 0).n = 2 ∧ (relT (yardP g1 g2) (busyS g 2 0)).hs.n = 4 ∧ (relT (yardP g1 g2) (busyS g 2 0)).hs.z 3 = ⟨1, 0, 0, 2⟩ := ⟨by kernel_rfl, by kernel_rfl, by kernel_rfl, by kernel_rfl, by kernel_rfl, by kernel_rfl⟩
theorem canBusy (g1 g2 g : Nat) : stateE (yardP g1 g2) (cancelT (busyS g 2 0) 0) = 0 ∧ cancelE (yardP g1 g2) (busyS g 2 0) 0 = 0 ∧ cancelE (yardP g1 g2) (busyS g 2 0) 2 = 4 := ⟨by kernel_rfl, by kernel_rfl, by kernel_rfl⟩
theorem canBusy2 (g : Nat) : (cancelT (busyS g 2 0) 0).hs.n = 0 ∧ ((cancelT (busyS g 2 0) 0).os.z 0).k = 2 ∧ ((cancelT (busyS g 2 0) 0).os.z 0).ls.n = 2 ∧ (((cancelT (busyS g 2 0) 0).os.z 0).ls.z 0).n = 5 ∧ (cancelT (busyS g 2 0) 0).os.n = 2 := ⟨by kernel_rfl, by kernel_rfl, by kernel_rfl, by kernel_rfl, by kernel_rfl⟩
def RelB1 (x : St) : Prop := 1 < x.os.n ∧ (x.os.z 1).k = 1 ∧ 0 < (x.os.z 1).ls.n ∧ ((x.os.z 1).ls.z 0).n = 2 ∧ x.hs.n = 4 ∧ x.hs.z 3 = ⟨1, 0, 0, 2⟩
theorem relB1 {g1 g2 g : Nat} {x : St} (h : RelOK (yardP g1 g2) (busyS g 2 0) x) : RelB1 x := by
  have e := h.act.1 (busyE g1 g2 g).1
  obtain ⟨b1, b2, b3, b4, b5, b6⟩ := relBusy g1 g2 g
  have n1 : 1 < x.os.n := by rw [e.os.1, b1]; omega
  have o := e.os.2 1 n1
  have n2 : 0 < (x.os.z 1).ls.n := by rw [o.2.1, b3]; omega
  exact ⟨n1, o.1.trans b2, n2, by rw [o.2.2 0 n2]; exact b4, e.hs.1.trans b5, by rw [e.hs.2 3 (by rw [e.hs.1, b5]; omega)]; exact b6⟩
def CanB1 (x : St) : Prop := 0 < x.os.n ∧ x.hs.n = 0 ∧ (x.os.z 0).k = 2 ∧ 0 < (x.os.z 0).ls.n ∧ ((x.os.z 0).ls.z 0).n = 5 ∧ ∀ g1 g2, cancelE (yardP g1 g2) x 0 = 6
theorem canB1 {g1 g2 g : Nat} {x : St} (h : ActOK (cancelE (yardP g1 g2) (busyS g 2 0) 0) (cancelT (busyS g 2 0) (0 : Int).toNat) x) : CanB1 x := by
  have e : SameT x (cancelT (busyS g 2 0) 0) := h.1 (canBusy g1 g2 g).2.1
  obtain ⟨b1, b2, b3, b4, b5⟩ := canBusy2 g
  have n1 : 0 < x.os.n := by rw [e.os.1, b5]; omega
  have o := e.os.2 0 n1
  have n2 : 0 < (x.os.z 0).ls.n := by rw [o.2.1, b3]; omega
  have k2 : (x.os.z 0).k = 2 := o.1.trans b2
  refine ⟨n1, e.hs.1.trans b1, k2, n2, by rw [o.2.2 0 n2]; exact b4, fun g1 g2 => ?_⟩
  have r := e.right (rightT (canBusy g1 g2 g).1)
  exact cancelE_done (stateE_of r) (inB_mk (by omega)) k2
set_option maxRecDepth 100000 in
set_option maxHeartbeats 8000000 in
theorem waveBegun_any (w : World) :
    Calls Try.prog 15 #[] w fun e w' => e = .returned (.bool true) ∧ Below w.heap.size w w' := by
  go_enter Try.func15, Try.ntmps15
  go_wp2_with fail
  refine (yard_any _).mono ?_
  rintro e wa ⟨g1, g2, rfl, -, -, k1, k2, hA⟩
  go_wp2_with fail
  refine (busy_any _).mono ?_
  rintro e wb ⟨g, rfl, -, bb, hB⟩
  have hD := hA.trans (hB.mono hA.size)
  have HAT : Hid ((yardP g1 g2).At wb ∧ (busyS g 2 0).At wb) := ⟨yardAt (k1.below hB) (k2.below hB), busyAt bb⟩
  clear hA hB k1 k2 bb
  simp only [busyS, St.val]
  go_wp2_with fail
  refine (Release_any (yardP g1 g2) (busyS g 2 0) wb HAT.out.1 HAT.out.2).mono ?_
  rintro e wc ⟨x, rfl, xat, xok, -, hB⟩
  have hE := hD.trans (hB.mono hD.size)
  have HX : Hid (RelB1 x) := relB1 xok
  rw [(busyE g1 g2 g).1]
  clear hD hB HAT xok
  obtain ⟨W1, hW, hWB, K1⟩ : ∃ W, wc.alloc (.cells #[.slice x.on.a x.on.n x.on.c, .slice x.os.a x.os.n x.os.c, .slice x.hs.a x.hs.n x.hs.c, .slice x.ms.a x.ms.n x.ms.c, .slice x.si.a x.si.n x.si.c, .slice x.so.a x.so.n x.so.c, .slice x.sf.a x.sf.n x.sf.c] 31) = W ∧ Below wc.heap.size wc W ∧ Blk W wc.heap.size 31 7 (fun j => x.cells.getD j default) := ⟨_, rfl, (Below.refl _ _).alloc (Nat.le_refl _) _, Blk.mk' rfl rfl⟩
  have HW : Hid (wc.alloc (.cells #[.slice x.on.a x.on.n x.on.c, .slice x.os.a x.os.n x.os.c, .slice x.hs.a x.hs.n x.hs.c, .slice x.ms.a x.ms.n x.ms.c, .slice x.si.a x.si.n x.si.c, .slice x.so.a x.so.n x.so.c, .slice x.sf.a x.sf.n x.sf.c] 31) = W1) := hW
  have xat := xat.below hWB
  have hC := hE.trans (hWB.mono hE.size)
  have HX1 : Hid (x.At W1 ∧ Blk W1 wc.heap.size 31 7 (fun j => x.cells.getD j default)) := ⟨xat, K1⟩
  clear hWB hE hW xat K1
  simp only [St.val]
  go_wp2_with fail
  rw [HW.out]
  clear HW
  generalize wc.heap.size = B1 at *
  refine (yard_any _).mono ?_
  rintro e wa ⟨g1, g2, rfl, -, -, k1, k2, hA⟩
  go_wp2_with fail
  refine (busy_any _).mono ?_
  rintro e wb ⟨g, rfl, -, bb, hB⟩
  have hD := hA.trans (hB.mono hA.size)
  have HAT : Hid ((yardP g1 g2).At wb ∧ (busyS g 2 0).At wb) := ⟨yardAt (k1.below hB) (k2.below hB), busyAt bb⟩
  clear hA hB k1 k2 bb
  simp only [busyS, St.val]
  go_wp2_with fail
  refine (Cancel_any (yardP g1 g2) (busyS g 2 0) 0 wb HAT.out.1 HAT.out.2).mono ?_
  rintro e wc ⟨y, rfl, yat, yok, -, hB⟩
  have hE := hD.trans (hB.mono hD.size)
  have HY : Hid (CanB1 y) := canB1 yok
  rw [(canBusy g1 g2 g).2.1]
  clear hD hB HAT yok
  obtain ⟨W2, hW, hWB, K2⟩ : ∃ W, wc.alloc (.cells #[.slice y.on.a y.on.n y.on.c, .slice y.os.a y.os.n y.os.c, .slice y.hs.a y.hs.n y.hs.c, .slice y.ms.a y.ms.n y.ms.c, .slice y.si.a y.si.n y.si.c, .slice y.so.a y.so.n y.so.c, .slice y.sf.a y.sf.n y.sf.c] 31) = W ∧ Below wc.heap.size wc W ∧ Blk W wc.heap.size 31 7 (fun j => y.cells.getD j default) := ⟨_, rfl, (Below.refl _ _).alloc (Nat.le_refl _) _, Blk.mk' rfl rfl⟩
  have HW : Hid (wc.alloc (.cells #[.slice y.on.a y.on.n y.on.c, .slice y.os.a y.os.n y.os.c, .slice y.hs.a y.hs.n y.hs.c, .slice y.ms.a y.ms.n y.ms.c, .slice y.si.a y.si.n y.si.c, .slice y.so.a y.so.n y.so.c, .slice y.sf.a y.sf.n y.sf.c] 31) = W2) := hW
  have yat := yat.below hWB
  have hE := hE.trans (hWB.mono hE.size)
  have hC := hC.trans (hE.mono hC.size)
  have HX1 : Hid (x.At W2 ∧ Blk W2 B1 31 7 (fun j => x.cells.getD j default)) := ⟨HX1.out.1.below hE, HX1.out.2.below hE⟩
  have HY1 : Hid (y.At W2 ∧ Blk W2 wc.heap.size 31 7 (fun j => y.cells.getD j default)) := ⟨yat, K2⟩
  clear hWB hE hW yat K2
  simp only [St.val]
  go_wp2_with fail
  rw [HW.out]
  clear HW
  generalize wc.heap.size = B2 at *
  obtain ⟨m1, p0, p1, p2, p3, p4, p5, p6⟩ := Boxed.of HY1.out.2
  have rs0 : ∀ d os, (grow (redrawn W2 d) os).cell? ⟨B2, 0, none⟩ = some (.slice y.on.a y.on.n y.on.c) := fun d os => cell_regrown p0 d os
  have rs1 : ∀ d os, (grow (redrawn W2 d) os).cell? ⟨B2, 1, none⟩ = some (.slice y.os.a y.os.n y.os.c) := fun d os => cell_regrown p1 d os
  have rs2 : ∀ d os, (grow (redrawn W2 d) os).cell? ⟨B2, 2, none⟩ = some (.slice y.hs.a y.hs.n y.hs.c) := fun d os => cell_regrown p2 d os
  have rs3 : ∀ d os, (grow (redrawn W2 d) os).cell? ⟨B2, 3, none⟩ = some (.slice y.ms.a y.ms.n y.ms.c) := fun d os => cell_regrown p3 d os
  have rs4 : ∀ d os, (grow (redrawn W2 d) os).cell? ⟨B2, 4, none⟩ = some (.slice y.si.a y.si.n y.si.c) := fun d os => cell_regrown p4 d os
  have rs5 : ∀ d os, (grow (redrawn W2 d) os).cell? ⟨B2, 5, none⟩ = some (.slice y.so.a y.so.n y.so.c) := fun d os => cell_regrown p5 d os
  have rs6 : ∀ d os, (grow (redrawn W2 d) os).cell? ⟨B2, 6, none⟩ = some (.slice y.sf.a y.sf.n y.sf.c) := fun d os => cell_regrown p6 d os
  clear p0 p1 p2 p3 p4 p5 p6
  have HBW : Hid (Below w.heap.size w W2) := hC
  have HCT : Hid (∀ g1 g2 wk, (yardP g1 g2).At wk → y.At wk → Calls Try.prog 18 #[(yardP g1 g2).val, y.val, .int .i64 0] wk fun e w' => ∃ x : St, e = .returned (.tuple #[x.val, .int .i64 6]) ∧ (fun _ _ => True : St → World → Prop) x w' ∧ Below wk.heap.size wk w') := fun g1 g2 wk h1 h2 => by
    refine (Cancel_any (yardP g1 g2) y 0 wk h1 h2).mono fun e w' => ?_
    rintro ⟨x, rfl, -, -, -, h5⟩
    rw [HY.out.2.2.2.2.2 g1 g2]
    exact ⟨x, rfl, trivial, h5⟩
  have HRB : Hid (∀ (x : St) (wk wj : World), Below wk.heap.size wk wj → (fun _ _ => True) x wk → (fun _ _ => True) x wj) := fun _ _ _ _ _ => trivial
  have HRS : Hid (∀ (x : St) (wk : World) (B : Nat) (f : Nat → Value), Blk wk B 31 7 f → ∀ v0 v1 v2 v3 v4 v5 v6, (fun _ _ => True) x wk → (fun _ _ => True) x (set7 wk B v0 v1 v2 v3 v4 v5 v6)) := fun _ _ _ _ _ _ _ _ _ _ _ _ _ => trivial
  clear hC
  generalize hgx : x = x1 at *
  clear hgx
  refine wp_region_made7 (fun w' => ∃ p : Regrown, w' = grow (redrawn W2 p.d) p.os) [1] [0, 2, 3, 4, 5, 6, 7, 8] (by kernel_rfl) (by kernel_rfl) (by kernel_rfl) (by kernel_rfl) (by kernel_rfl) (by kernel_rfl) (by kernel_rfl) (by kernel_rfl) (regrown_of_below ((Below.refl _ _).drew)) ?_
  simp only [picks, List.drop_succ_cons, List.drop_zero, List.take_succ_cons, List.take_zero, List.cons_append, List.nil_append]
  repeat (go_big_quiet_step (fail))
  refine wpQuiet_nil ?_
  clear rs0 rs1 rs2 rs3 rs4 rs5 rs6
  refine ⟨CallJ (fun _ _ => True) 6 W2, fun dn V w hS hd => ?zinit, List.forall_mem_cons.2 ⟨?zp0, List.forall_mem_cons.2 ⟨?zp2, List.forall_mem_cons.2 ⟨?zp3, List.forall_mem_cons.2 ⟨?zp4, List.forall_mem_cons.2 ⟨?zp5, List.forall_mem_cons.2 ⟨?zp6, List.forall_mem_cons.2 ⟨?zp7, List.forall_mem_cons.2 ⟨?zp8, List.forall_mem_nil _⟩⟩⟩⟩⟩⟩⟩⟩, ?zdone⟩
  case zinit =>
    have f : ∀ j, j ∈ [0, 2, 3, 4, 5, 6, 7, 8] → ¬ dn j = true := fun j hj h => by rw [hd j hj] at h; cases h
    exact ⟨below_of_regrown hS, fun h => absurd h (f 3 (by simp)), fun h => absurd h (f 4 (by simp)), fun h => absurd h (f 7 (by simp)), fun h => absurd h (f 0 (by simp)), fun h => absurd h (f 6 (by simp)), fun h => absurd h (f 2 (by simp)), fun h => absurd h (f 5 (by simp)), fun h => absurd h (f 8 (by simp))⟩
  case zp0 =>
    intro dn V wk K hS hn hd hI hK
    have HII : Hid (CallJ (fun _ _ => True) 6 W2 dn V wk) := hI
    have q := hI.bel.size
    clear hI
    refine wpOp_list 0 rfl ?_
    simp only [putAll, dstOf, List.getElem?_toArray, List.getElem?_cons_succ, List.getElem?_cons_zero, Act.put, List.setIfInBounds_toArray, List.set_cons_succ, List.set_cons_zero] at hK ⊢
    go_wp2_with fail
    refine (yard_any _).mono ?_
    rintro e wj ⟨g1, g2, rfl, -, -, k1, k2, hB2⟩
    go_wp2_with fail
    have hI := HII.out
    refine hK _ _ (regrown_of_below (hI.bel.trans (hB2.mono q))) ⟨hI.bel.trans (hB2.mono q), hI.c3, hI.c4, hI.c7, fun _ => ⟨g1, g2, rfl, k1, k2⟩, fun h7 => ?_, fun h2 => ?_, hI.n5, hI.n8⟩
    · obtain ⟨B, b1, b2, f, b3⟩ := hI.box h7
      exact ⟨B, b1, b2, f, b3.below hB2⟩
    · obtain ⟨x, a1, a2, a3, a4, a5⟩ := hI.got h2
      exact ⟨x, HRB.out x wk wj hB2 a1, a2, a3, a4, fun h8 B hb => (a5 h8 B hb).below hB2⟩
  case zp2 =>
    intro dn V wk K hS hn hd hI hK
    obtain ⟨g1, g2, hv0, k1, k2⟩ := hI.yd (hd 0 (List.contains_iff_mem.1 (by kernel_rfl)) (by simp))
    have HII : Hid (CallJ (fun _ _ => True) 6 W2 dn V wk) := hI
    have q := hI.bel.size
    clear hI
    have f3 : ¬ dn 3 = true := fun h => by rw [HII.out.c3 h] at hn; cases hn
    have f4 : ¬ dn 4 = true := fun h => by rw [HII.out.c4 h] at hn; cases hn
    have f7 : ¬ dn 7 = true := fun h => by rw [(HII.out.c7 h).1] at hn; cases hn
    refine wpOp_list 2 rfl ?_
    simp only [putAll, dstOf, List.getElem?_toArray, List.getElem?_cons_succ, List.getElem?_cons_zero, Act.put, List.setIfInBounds_toArray, List.set_cons_succ, List.set_cons_zero, hv0] at hK ⊢
    go_wp2_with fail
    refine (HCT.out g1 g2 wk (yardAt k1 k2) (HY1.out.1.below HII.out.bel)).mono ?_
    rintro e wj ⟨x, rfl, hR, hB2⟩
    have HR : Hid ((fun _ _ => True) x wj) := hR
    clear hR k1 k2
    simp only [St.val]
    go_wp2_with fail
    have hI := HII.out
    refine hK _ _ (regrown_of_below (hI.bel.trans (hB2.mono q))) ⟨hI.bel.trans (hB2.mono q), fun _ => rfl, fun _ => rfl, fun h => absurd h f7, fun h0 => ?_, fun h7 => ?_, fun _ => ⟨x, HR.out, rfl, fun h => absurd h f3, fun h => absurd h f4, fun h => absurd h f7⟩, hI.n5, hI.n8⟩
    · obtain ⟨g1, g2, b0, b1, b2⟩ := hI.yd h0
      exact ⟨g1, g2, b0, b1.below hB2, b2.below hB2⟩
    · obtain ⟨B, b1, b2, f, b3⟩ := hI.box h7
      exact ⟨B, b1, b2, f, b3.below hB2⟩
  case zp3 =>
    intro dn V wk K hS hn hd hI hK
    have h2 : dn 2 = true := hd 2 (List.contains_iff_mem.1 (by kernel_rfl)) (by simp)
    obtain ⟨x, a1, a2, a3, a4, a5⟩ := hI.got h2
    have HII : Hid (CallJ (fun _ _ => True) 6 W2 dn V wk) := hI
    have HR : Hid ((fun _ _ => True) x wk ∧ V 2 = .tuple #[.agg #[.slice x.on.a x.on.n x.on.c, .slice x.os.a x.os.n x.os.c, .slice x.hs.a x.hs.n x.hs.c, .slice x.ms.a x.ms.n x.ms.c, .slice x.si.a x.si.n x.si.c, .slice x.so.a x.so.n x.so.c, .slice x.sf.a x.sf.n x.sf.c], .int .i64 6] ∧ (dn 4 = true → V 4 = .agg #[.slice x.on.a x.on.n x.on.c, .slice x.os.a x.os.n x.os.c, .slice x.hs.a x.hs.n x.hs.c, .slice x.ms.a x.ms.n x.ms.c, .slice x.si.a x.si.n x.si.c, .slice x.so.a x.so.n x.so.c, .slice x.sf.a x.sf.n x.sf.c]) ∧ (dn 7 = true → ∀ B, V 6 = .pointer (some ⟨B, 0, none⟩) → Blk wk B 31 7 (fun j => x.cells.getD j default))) := ⟨a1, a2, a4, a5⟩
    clear hI a1 a3 a4 a5
    refine wpOp_list 3 rfl ?_
    simp only [putAll, dstOf, List.getElem?_toArray, List.getElem?_cons_succ, List.getElem?_cons_zero, Act.put, List.setIfInBounds_toArray, List.set_cons_succ, List.set_cons_zero, a2] at hK ⊢
    go_wp2_with fail
    have hI := HII.out
    exact hK _ _ hS ⟨hI.bel, fun _ => h2, hI.c4, hI.c7, hI.yd, hI.box, fun _ => ⟨x, HR.out.1, HR.out.2.1, fun _ => rfl, HR.out.2.2.1, HR.out.2.2.2⟩, hI.n5, hI.n8⟩
  case zp4 =>
    intro dn V wk K hS hn hd hI hK
    have h3 : dn 3 = true := hd 3 (List.contains_iff_mem.1 (by kernel_rfl)) (by simp)
    have h2 := hI.c3 h3
    obtain ⟨x, a1, a2, a3, a4, a5⟩ := hI.got h2
    have a3' := a3 h3
    have HII : Hid (CallJ (fun _ _ => True) 6 W2 dn V wk) := hI
    have HR : Hid ((fun _ _ => True) x wk ∧ V 2 = .tuple #[.agg #[.slice x.on.a x.on.n x.on.c, .slice x.os.a x.os.n x.os.c, .slice x.hs.a x.hs.n x.hs.c, .slice x.ms.a x.ms.n x.ms.c, .slice x.si.a x.si.n x.si.c, .slice x.so.a x.so.n x.so.c, .slice x.sf.a x.sf.n x.sf.c], .int .i64 6] ∧ (dn 3 = true → V 3 = .tuple #[.agg #[.slice x.on.a x.on.n x.on.c, .slice x.os.a x.os.n x.os.c, .slice x.hs.a x.hs.n x.hs.c, .slice x.ms.a x.ms.n x.ms.c, .slice x.si.a x.si.n x.si.c, .slice x.so.a x.so.n x.so.c, .slice x.sf.a x.sf.n x.sf.c], .int .i64 6]) ∧ (dn 7 = true → ∀ B, V 6 = .pointer (some ⟨B, 0, none⟩) → Blk wk B 31 7 (fun j => x.cells.getD j default))) := ⟨a1, a2, a3, a5⟩
    clear hI a1 a2 a3 a4 a5
    refine wpOp_list 4 rfl ?_
    simp only [putAll, dstOf, List.getElem?_toArray, List.getElem?_cons_succ, List.getElem?_cons_zero, Act.put, List.setIfInBounds_toArray, List.set_cons_succ, List.set_cons_zero, a3'] at hK ⊢
    go_wp2_with fail
    have hI := HII.out
    exact hK _ _ hS ⟨hI.bel, hI.c3, fun _ => h2, hI.c7, hI.yd, hI.box, fun _ => ⟨x, HR.out.1, HR.out.2.1, HR.out.2.2.1, fun _ => rfl, HR.out.2.2.2⟩, hI.n5, hI.n8⟩
  case zp5 =>
    intro dn V wk K hS hn hd hI hK
    have h3 : dn 3 = true := hd 3 (List.contains_iff_mem.1 (by kernel_rfl)) (by simp)
    obtain ⟨x, a1, a2, a3, a4, a5⟩ := hI.got (hI.c3 h3)
    have a3' := a3 h3
    have HII : Hid (CallJ (fun _ _ => True) 6 W2 dn V wk) := hI
    clear hI a1 a2 a3 a4 a5
    refine wpOp_list 5 rfl ?_
    simp only [putAll, dstOf, List.getElem?_toArray, List.getElem?_cons_succ, List.getElem?_cons_zero, Act.put, List.setIfInBounds_toArray, List.set_cons_succ, List.set_cons_zero, a3'] at hK ⊢
    go_wp2_with fail
    have hI := HII.out
    exact hK _ _ hS ⟨hI.bel, hI.c3, hI.c4, hI.c7, hI.yd, hI.box, hI.got, fun _ => rfl, hI.n8⟩
  case zp6 =>
    intro dn V wk K hS hn hd hI hK
    have HII : Hid (CallJ (fun _ _ => True) 6 W2 dn V wk) := hI
    have q := hI.bel.size
    clear hI
    refine wpOp_list 6 rfl ?_
    simp only [putAll, dstOf, List.getElem?_toArray, List.getElem?_cons_succ, List.getElem?_cons_zero, Act.put, List.setIfInBounds_toArray, List.set_cons_succ, List.set_cons_zero] at hK ⊢
    go_wp2_with fail
    have hI := HII.out
    have hBa := (Below.refl wk.heap.size wk).alloc (Nat.le_refl _) (.cells #[.slice .none 0 0, .slice .none 0 0, .slice .none 0 0, .slice .none 0 0, .slice .none 0 0, .slice .none 0 0, .slice .none 0 0] 31)
    have f7 : ¬ dn 7 = true := fun h => by rw [(hI.c7 h).2] at hn; cases hn
    refine hK _ _ (regrown_of_below (hI.bel.trans (hBa.mono q))) ⟨hI.bel.trans (hBa.mono q), hI.c3, hI.c4, fun h => absurd h f7, fun h0 => ?_, fun _ => ⟨wk.heap.size, rfl, q, _, Blk.mk' rfl rfl⟩, fun h2 => ?_, hI.n5, hI.n8⟩
    · obtain ⟨g1, g2, b0, b1, b2⟩ := hI.yd h0
      exact ⟨g1, g2, b0, b1.below hBa, b2.below hBa⟩
    · obtain ⟨x, a1, a2, a3, a4, a5⟩ := hI.got h2
      exact ⟨x, HRB.out x wk _ hBa a1, a2, a3, a4, fun h => absurd h f7⟩
  case zp7 =>
    intro dn V wk K hS hn hd hI hK
    have h7 : dn 6 = true := hd 6 (List.contains_iff_mem.1 (by kernel_rfl)) (by simp)
    have h4 : dn 4 = true := hd 4 (List.contains_iff_mem.1 (by kernel_rfl)) (by simp)
    have h2 := hI.c4 h4
    obtain ⟨B, hv7, hBW, f, hbk⟩ := hI.box h7
    obtain ⟨x, a1, a2, a3, a4, a5⟩ := hI.got h2
    have a4' := a4 h4
    have HII : Hid (CallJ (fun _ _ => True) 6 W2 dn V wk) := hI
    have HR : Hid ((fun _ _ => True) x wk ∧ V 2 = .tuple #[.agg #[.slice x.on.a x.on.n x.on.c, .slice x.os.a x.os.n x.os.c, .slice x.hs.a x.hs.n x.hs.c, .slice x.ms.a x.ms.n x.ms.c, .slice x.si.a x.si.n x.si.c, .slice x.so.a x.so.n x.so.c, .slice x.sf.a x.sf.n x.sf.c], .int .i64 6] ∧ (dn 3 = true → V 3 = .tuple #[.agg #[.slice x.on.a x.on.n x.on.c, .slice x.os.a x.os.n x.os.c, .slice x.hs.a x.hs.n x.hs.c, .slice x.ms.a x.ms.n x.ms.c, .slice x.si.a x.si.n x.si.c, .slice x.so.a x.so.n x.so.c, .slice x.sf.a x.sf.n x.sf.c], .int .i64 6]) ∧ Blk wk B 31 7 f ∧ V 6 = .pointer (some ⟨B, 0, none⟩)) := ⟨a1, a2, a3, hbk, hv7⟩
    have hz := hbk
    have zl := hz.lt
    have zf0 := hz.frozen 0
    have zc0 := hz.cell (j := 0) (by decide)
    have zf1 := hz.frozen 1
    have zc1 := hz.cell (j := 1) (by decide)
    have zf2 := hz.frozen 2
    have zc2 := hz.cell (j := 2) (by decide)
    have zf3 := hz.frozen 3
    have zc3 := hz.cell (j := 3) (by decide)
    have zf4 := hz.frozen 4
    have zc4 := hz.cell (j := 4) (by decide)
    have zf5 := hz.frozen 5
    have zc5 := hz.cell (j := 5) (by decide)
    have zf6 := hz.frozen 6
    have zc6 := hz.cell (j := 6) (by decide)
    clear hI a1 a2 a3 a4 a5 hz hbk
    refine wpOp_list 7 rfl ?_
    simp only [putAll, dstOf, List.getElem?_toArray, List.getElem?_cons_succ, List.getElem?_cons_zero, Act.put, List.setIfInBounds_toArray, List.set_cons_succ, List.set_cons_zero, a4', hv7] at hK ⊢
    go_wp2_with fail
    have hI := HII.out
    have KZ := set7_blk HR.out.2.2.2.1 (.slice x.on.a x.on.n x.on.c) (.slice x.os.a x.os.n x.os.c) (.slice x.hs.a x.hs.n x.hs.c) (.slice x.ms.a x.ms.n x.ms.c) (.slice x.si.a x.si.n x.si.c) (.slice x.so.a x.so.n x.so.c) (.slice x.sf.a x.sf.n x.sf.c)
    have hbz := set7_below (b := B) hI.bel hBW (.slice x.on.a x.on.n x.on.c) (.slice x.os.a x.os.n x.os.c) (.slice x.hs.a x.hs.n x.hs.c) (.slice x.ms.a x.ms.n x.ms.c) (.slice x.si.a x.si.n x.si.c) (.slice x.so.a x.so.n x.so.c) (.slice x.sf.a x.sf.n x.sf.c)
    have hRz := HRS.out x wk B f HR.out.2.2.2.1 (.slice x.on.a x.on.n x.on.c) (.slice x.os.a x.os.n x.os.c) (.slice x.hs.a x.hs.n x.hs.c) (.slice x.ms.a x.ms.n x.ms.c) (.slice x.si.a x.si.n x.si.c) (.slice x.so.a x.so.n x.so.c) (.slice x.sf.a x.sf.n x.sf.c) HR.out.1
    unfold set7 at KZ hbz hRz
    refine hK undef _ (regrown_of_below hbz) ⟨hbz, hI.c3, hI.c4, fun _ => ⟨h2, h7⟩, fun h0 => ?_, fun _ => ⟨B, HR.out.2.2.2.2, hBW, _, KZ⟩, fun _ => ⟨x, hRz, HR.out.2.1, HR.out.2.2.1, fun _ => a4', fun _ B' hB' => ?_⟩, hI.n5, hI.n8⟩
    · obtain ⟨g1, g2, b0, b1, b2⟩ := hI.yd h0
      have s7 : ∀ (q : Nat) (t : TypeId) (m : Nat) (z : Nat → Value), t ≠ 31 → Blk wk q t m z → Blk (set7 wk B (.slice x.on.a x.on.n x.on.c) (.slice x.os.a x.os.n x.os.c) (.slice x.hs.a x.hs.n x.hs.c) (.slice x.ms.a x.ms.n x.ms.c) (.slice x.si.a x.si.n x.si.c) (.slice x.so.a x.so.n x.so.c) (.slice x.sf.a x.sf.n x.sf.c)) q t m z := fun q t m z ht hb => set7_other hb (Blk.ne2 hb HR.out.2.2.2.1 ht) _ _ _ _ _ _ _
      unfold set7 at s7
      exact ⟨g1, g2, b0, s7 _ _ _ _ (by decide) b1, s7 _ _ _ _ (by decide) b2⟩
    · have e : V 6 = .pointer (some ⟨B', 0, none⟩) := hB'
      rw [HR.out.2.2.2.2] at e
      simp only [Value.pointer.injEq, Option.some.injEq, Addr.mk.injEq, and_true] at e
      subst e
      exact KZ.congr (fun j hj => by match j, hj with | 0, _ => rfl | 1, _ => rfl | 2, _ => rfl | 3, _ => rfl | 4, _ => rfl | 5, _ => rfl | 6, _ => rfl)
  case zp8 =>
    intro dn V wk K hS hn hd hI hK
    have a4' := hI.n5 (hd 5 (List.contains_iff_mem.1 (by kernel_rfl)) (by simp))
    have HII : Hid (CallJ (fun _ _ => True) 6 W2 dn V wk) := hI
    clear hI
    refine wpOp_list 8 rfl ?_
    simp only [putAll, dstOf, List.getElem?_toArray, List.getElem?_cons_succ, List.getElem?_cons_zero, Act.put, List.setIfInBounds_toArray, List.set_cons_succ, List.set_cons_zero, a4'] at hK ⊢
    go_wp2_with fail
    have hI := HII.out
    exact hK _ _ hS ⟨hI.bel, hI.c3, hI.c4, hI.c7, hI.yd, hI.box, hI.got, hI.n5, fun _ => rfl⟩
  case zdone =>
    intro dn V wk hS hd hI
    refine NoPanic.normal ?_
    obtain ⟨B, hv7, hBW, f, hbk⟩ := hI.box (hd 6 (by simp))
    obtain ⟨x, hR, a2, a3, a4, a5⟩ := hI.got (hd 2 (by simp))
    have hv8 := hI.n8 (hd 8 (by simp))
    have KX := a5 (hd 7 (by simp)) B hv7
    have hBel := hI.bel
    clear hI a2 a3 a4 a5 hbk hd hS
    simp only [putAll, dstOf, List.getElem?_toArray, List.getElem?_cons_succ, List.getElem?_cons_zero, Act.put, List.setIfInBounds_toArray, List.set_cons_succ, List.set_cons_zero, hv7, hv8]
    have HBW : Hid (Below w.heap.size w wk) := HBW.out.trans (hBel.mono HBW.out.size)
    have HX1 : Hid (x1.At wk ∧ Blk wk B1 31 7 (fun j => x1.cells.getD j default)) := ⟨HX1.out.1.below hBel, HX1.out.2.below hBel⟩
    have HY1 : Hid (y.At wk ∧ Blk wk B2 31 7 (fun j => y.cells.getD j default)) := ⟨HY1.out.1.below hBel, HY1.out.2.below hBel⟩
    clear KX hR hv7 hv8 HRB HRS HCT hBel hBW f
    go_wp2_with fail
    refine (yard_any _).mono ?_
    rintro e wa ⟨g1, g2, rfl, -, -, k1, k2, hA⟩
    go_wp2_with fail
    refine (busy_any _).mono ?_
    rintro e wb ⟨g, rfl, -, bb, hB⟩
    have hD := hA.trans (hB.mono hA.size)
    have HAT : Hid ((yardP g1 g2).At wb ∧ (busyS g 2 0).At wb) := ⟨yardAt (k1.below hB) (k2.below hB), busyAt bb⟩
    clear hA hB k1 k2 bb
    simp only [busyS, St.val]
    go_wp2_with fail
    refine (Cancel_any (yardP g1 g2) (busyS g 2 0) 2 wb HAT.out.1 HAT.out.2).mono ?_
    rintro e wc ⟨v, rfl, -, -, -, hB⟩
    have hE := hD.trans (hB.mono hD.size)
    rw [(canBusy g1 g2 g).2.2]
    clear hD hB HAT
    obtain ⟨W3, hW, hWB, K3⟩ : ∃ W, wc.alloc (.cells #[.slice v.on.a v.on.n v.on.c, .slice v.os.a v.os.n v.os.c, .slice v.hs.a v.hs.n v.hs.c, .slice v.ms.a v.ms.n v.ms.c, .slice v.si.a v.si.n v.si.c, .slice v.so.a v.so.n v.so.c, .slice v.sf.a v.sf.n v.sf.c] 31) = W ∧ Below wc.heap.size wc W ∧ Blk W wc.heap.size 31 7 (fun j => v.cells.getD j default) := ⟨_, rfl, (Below.refl _ _).alloc (Nat.le_refl _) _, Blk.mk' rfl rfl⟩
    have HW : Hid (wc.alloc (.cells #[.slice v.on.a v.on.n v.on.c, .slice v.os.a v.os.n v.os.c, .slice v.hs.a v.hs.n v.hs.c, .slice v.ms.a v.ms.n v.ms.c, .slice v.si.a v.si.n v.si.c, .slice v.so.a v.so.n v.so.c, .slice v.sf.a v.sf.n v.sf.c] 31) = W3) := hW
    have hE := hE.trans (hWB.mono hE.size)
    have hBZ := HBW.out.trans (hE.mono HBW.out.size)
    have HBZ : Hid (Below w.heap.size w W3) := hBZ
    have xat := HX1.out.1.below hE
    have yat := HY1.out.1.below hE
    obtain ⟨m1, p0, p1, p2, p3, p4, p5, p6⟩ := Boxed.of (HX1.out.2.below hE)
    obtain ⟨m2, t0, t1, t2, t3, t4, t5, t6⟩ := Boxed.of (HY1.out.2.below hE)
    obtain ⟨x1n, x1k, x1l, x1b, x1h, x1z⟩ := HX.out
    obtain ⟨y1n, y1h, y1k, y1l, y1b, -⟩ := HY.out
    obtain ⟨bo, oo, hoa, hbo, z0, z1, hlk⟩ := xat.os.ods 1 x1n
    obtain ⟨bl, ol, hla, hbl, u0, u1, u2, u3⟩ := hlk.hds 0 x1l
    obtain ⟨bh, oh, hha, hbh, v0, v1, v2, v3⟩ := xat.hs.hds 3 (by omega)
    obtain ⟨bo2, oo2, hoa2, hbo2, zz0, zz1, hlk2⟩ := yat.os.ods 0 y1n
    obtain ⟨bl2, ol2, hla2, hbl2, s0, s1, s2, s3⟩ := hlk2.hds 0 y1l
    have xo1 := xat.os.le
    have xo2 := xat.os.cap
    have xl1 := hlk.le
    have xl2 := hlk.cap
    have xh1 := xat.hs.le
    have xh2 := xat.hs.cap
    have yo1 := yat.os.le
    have yo2 := yat.os.cap
    have yl1 := hlk2.le
    have yl2 := hlk2.cap
    unfold maxLen at xo2 xl2 xh2 yo2 yl2
    rw [x1k] at z0
    rw [x1b] at u3
    rw [x1z] at v0 v1 v2 v3
    rw [y1k] at zz0
    rw [y1b] at s3
    rw [hoa] at p1
    rw [hla] at z1
    rw [hha] at p2
    rw [x1h] at p2 xh1
    rw [hoa2] at t1
    rw [hla2] at zz1
    rw [y1h] at t2
    dsimp only at v0 v1 v2 v3
    have zz2 : W3.cell? ⟨bo2, oo2, none⟩ = some (.int .i64 2) := by simpa using zz0
    have n1 : (1 : Int) < (x1.os.n : Int) := by omega
    have n2 : (0 : Int) < ((x1.os.z 1).ls.n : Int) := by omega
    have n3 : (0 : Int) < (y.os.n : Int) := by omega
    have n4 : (0 : Int) < ((y.os.z 0).ls.n : Int) := by omega
    clear hWB hE hW K3 hBZ hoa hla hha hoa2 hla2 x1k x1b x1z x1h y1h y1k y1b xat yat hlk hlk2 HX HY HX1 HY1 HBW
    generalize ((x1.os.z 1).ls.z 0) = ZL at *
    rw [← HW.out] at m1 p0 p1 p2 p3 p4 p5 p6 m2 t0 t1 t2 t3 t4 t5 t6 hbo z0 z1 hbl u0 u1 u2 u3 hbh v0 v1 v2 v3 hbo2 zz0 zz1 zz2 hbl2 s0 s1 s2 s3
    simp only [St.val]
    go_wp2_with fail
    go_ret
    exact ⟨by simp, HW.out ▸ HBZ.out⟩
end Go.Proofs.Ytbcacebifpagpad
namespace Go.Proofs.Ytbcacebifpagpad
open Go.RowKit
set_option linter.unusedVariables false
def chooseN (c : Int) (n : Nat) : Nat := ((if c < 0 then -(c + 1) else c) % (n : Int)).toNat
theorem chooseN_pos {c : Int} {n : Nat} (h : ¬ c < 0) (hn : 1 ≤ n) : c % (n : Int) = ((chooseN c n : Nat) : Int) := by
  unfold chooseN
  rw [if_neg h]
  have := Int.emod_nonneg c (b := (n : Int)) (by omega)
  omega
theorem chooseN_neg {c : Int} {n : Nat} (h : c < 0) (hn : 1 ≤ n) : (-(c + 1)) % (n : Int) = ((chooseN c n : Nat) : Int) := by
  unfold chooseN
  rw [if_pos h]
  have := Int.emod_nonneg (-(c + 1)) (b := (n : Int)) (by omega)
  omega
theorem chooseN_lt (c : Int) {n : Nat} (hn : 1 ≤ n) : chooseN c n < n := by
  by_cases h : c < 0
  · have := chooseN_neg h hn
    have := Int.emod_lt_of_pos (-(c + 1)) (b := (n : Int)) (by omega)
    omega
  · have := chooseN_pos h hn
    have := Int.emod_lt_of_pos c (b := (n : Int)) (by omega)
    omega
theorem choose_any (c : Int) (n : Nat) (w : World) (hc : -9223372036854775808 ≤ c ∧ c ≤ 9223372036854775807) (hn : 1 ≤ n) (hm : n ≤ 1000) :
    Calls Try.prog 17 #[.int .i64 c, .int .i64 n] w fun e w' => e = .returned (.int .i64 (chooseN c n : Nat)) ∧ w' = w := by
  by_cases h : c < 0
  · have h1 := chooseN_neg h hn
    have q : (0 : Int) ≤ -(c + 1) := by omega
    have hz : ¬ (n : Int) = 0 := by omega
    go_enter Try.func17, Try.ntmps17
    go_wp2
    go_ret
    exact ⟨by rw [← h1, ← Int.tmod_eq_emod_of_nonneg q, Int.neg_tmod]; rfl, rfl⟩
  · have h1 := chooseN_pos h hn
    have hz : ¬ (n : Int) = 0 := by omega
    have q : (0 : Int) ≤ c := by omega
    go_enter Try.func17, Try.ntmps17
    go_wp2
    go_ret
    exact ⟨by simp [← h1], rfl⟩
theorem choose_b (c : Int) (n : Nat) (w : World) (hc : -9223372036854775808 ≤ c ∧ c ≤ 9223372036854775807) (hn : 1 ≤ n) (hm : n ≤ 1000) :
    Calls Try.prog 17 #[.int .i64 c, .int .i64 n] w fun e w' => e = .returned (.int .i64 (chooseN c n : Nat)) ∧ Below w.heap.size w w' :=
  (choose_any c n w hc hn hm).mono (by rintro e w' ⟨rfl, rfl⟩; exact ⟨rfl, Below.refl _ _⟩)
end Go.Proofs.Ytbcacebifpagpad
namespace Go.Proofs.Ytbcacebifpagpad
open Go.RowKit Go.Shelf Go.Sort
set_option linter.unusedVariables false
theorem Kept_rightW (s : Hs) (o l : Int) (w : World) (hs : s.At w) (hr : anyB s.n (badH s.z) = false) :
    Calls Try.prog 19 #[.slice s.a s.n s.c, .int .i64 o, .int .i64 l] w fun e w' => e = .returned (.tuple #[.int .i64 (keptS s.z o l s.n), .int .i64 0]) ∧ Below w.heap.size w w' := by
  have h := Kept_any s o l w hs
  have e : checkH s.n s.z = 0 := checkH_right hr
  rw [if_pos e, e] at h
  exact h
end Go.Proofs.Ytbcacebifpagpad
namespace Go.Proofs.Ytbcacebifpagpad
open Go.RowKit Go.Shelf Go.Sort
set_option linter.unusedVariables false
set_option maxRecDepth 100000 in
set_option maxHeartbeats 8000000 in
theorem WaveFirst_walk (p : Pl) (s : St) (one two k l : Int) (w : World) (hp : p.At w) (hs : s.At w) (hone : -9223372036854775808 ≤ one ∧ one ≤ 9223372036854775807) (htwo : -9223372036854775808 ≤ two ∧ two ≤ 9223372036854775807) (hk : -9223372036854775808 ≤ k ∧ k ≤ 9223372036854775807) (hl : -9223372036854775808 ≤ l ∧ l ≤ 9223372036854775807) :
    Calls Try.prog 5 #[p.val, s.val, .int .i64 one, .int .i64 two, .int .i64 k, .int .i64 l] w fun e w' => e = .returned (.bool true) ∧ Below w.heap.size w w' := by
  obtain ⟨W0, hW, hWB, X0⟩ : ∃ W, ((w.alloc (.cells #[.slice p.ab p.nb p.cb, .slice p.sa p.ns p.cs] 25)).alloc (.cells s.cells 31)) = W ∧ Below w.heap.size w W ∧ Boxes W w.heap.size (w.heap.size + 1) p s := ⟨_, rfl, two_below _ _ _, boxes_new w p s _ _⟩
  have HC : Hid (∀ wk, Below W0.heap.size W0 wk → Boxes wk w.heap.size (w.heap.size + 1) p s ∧ p.At wk ∧ s.At wk ∧ Below w.heap.size w wk) := fun wk h => ⟨X0.below h, (hp.below hWB).below h, (hs.below hWB).below h, hWB.trans (h.mono hWB.size)⟩
  have HW : Hid ((w.alloc (.cells #[.slice p.ab p.nb p.cb, .slice p.sa p.ns p.cs] 25)).alloc (.cells #[.slice s.on.a s.on.n s.on.c, .slice s.os.a s.os.n s.os.c, .slice s.hs.a s.hs.n s.hs.c, .slice s.ms.a s.ms.n s.ms.c, .slice s.si.a s.si.n s.si.c, .slice s.so.a s.so.n s.so.c, .slice s.sf.a s.sf.n s.sf.c] 31) = W0) := hW
  have HB : Hid (Below W0.heap.size W0 W0) := Below.refl _ _
  have leb := hp.leb
  have capb0 := hp.capb
  have capb := capb0
  unfold maxLen at capb
  have HONE : Hid (-9223372036854775808 ≤ one ∧ one ≤ 9223372036854775807) := hone
  clear hone
  have HTWO : Hid (-9223372036854775808 ≤ two ∧ two ≤ 9223372036854775807) := htwo
  clear htwo
  have HK : Hid (-9223372036854775808 ≤ k ∧ k ≤ 9223372036854775807) := hk
  clear hk
  have HL : Hid (-9223372036854775808 ≤ l ∧ l ≤ 9223372036854775807) := hl
  clear hl
  have osl := hs.os.le
  have osc := hs.os.cap
  unfold maxLen at osc
  clear hW X0 hp hs
  unfold Pl.val St.val
  go_enter Try.func5, Try.ntmps5
  go_wp2_with fail
  rw [HW.out]
  clear HW
  refine Calls.mono (Release_any p s W0 (HC.out W0 HB.out).2.1 (HC.out W0 HB.out).2.2.1) ?_
  rintro e w1 ⟨x, rfl, xat, xok, -, hB⟩
  have HXOK : Hid (RelOK p s x) := xok
  clear xok
  have HB : Hid (Below W0.heap.size W0 w1) := HB.out.trans (hB.mono HB.out.size)
  clear hB
  have xol := xat.os.le
  have xoc := xat.os.cap
  unfold maxLen at xoc
  obtain ⟨W2, hW, hWB, K1⟩ : ∃ W, w1.alloc (.cells #[.slice x.on.a x.on.n x.on.c, .slice x.os.a x.os.n x.os.c, .slice x.hs.a x.hs.n x.hs.c, .slice x.ms.a x.ms.n x.ms.c, .slice x.si.a x.si.n x.si.c, .slice x.so.a x.so.n x.so.c, .slice x.sf.a x.sf.n x.sf.c] 31) = W ∧ Below w1.heap.size w1 W ∧ Blk W w1.heap.size 31 7 (fun j => x.cells.getD j default) := ⟨_, rfl, (Below.refl _ _).alloc (Nat.le_refl _) _, Blk.mk' rfl rfl⟩
  have HW : Hid (w1.alloc (.cells #[.slice x.on.a x.on.n x.on.c, .slice x.os.a x.os.n x.os.c, .slice x.hs.a x.hs.n x.hs.c, .slice x.ms.a x.ms.n x.ms.c, .slice x.si.a x.si.n x.si.c, .slice x.so.a x.so.n x.so.c, .slice x.sf.a x.sf.n x.sf.c] 31) = W2) := hW
  have Hx : Hid (x.At W2 ∧ Blk W2 w1.heap.size 31 7 (fun j => x.cells.getD j default)) := ⟨xat.below hWB, K1⟩
  clear hW K1 xat
  have HB : Hid (Below W0.heap.size W0 W2) := HB.out.trans (hWB.mono HB.out.size)
  clear hWB
  by_cases h0 : stateE p s = 0
  · have HR : Hid (RightT p s) := rightT h0
    have HRL : Hid (Released p s x) := HXOK.out.1 h0
    have HRX : Hid (RightT p x) := (HRL.out.pos HR.out).al.r
    have hon : x.os.n = s.os.n := (HRL.out.pos HR.out).al.osn
    have HON : Hid (x.os.n = s.os.n) := hon
    have on1 : ((x.os.n : Int) != (s.os.n : Int)) = false := by rw [hon]; simp
    have on2 : ((x.os.n : Int) == (s.os.n : Int)) = true := by rw [hon]; simp
    have on4 : s.os.n ≤ 4 := HR.out.fm.os4
    have xn1 : x.os.n ≤ s.os.n := Nat.le_of_eq hon
    have xn2 : s.os.n ≤ x.os.n := Nat.le_of_eq hon.symm
    rw [h0]
    clear h0 HXOK hon
    by_cases h2 : s.os.n < 2
    · have h2i : (s.os.n : Int) < 2 := by omega
      obtain ⟨⟨⟨l1, d0, d1⟩, l2, c0, c1, c2, c3, c4, c5, c6⟩, -, -, -⟩ := HC.out W2 HB.out
      obtain ⟨xm, xc0, xc1, xc2, xc3, xc4, xc5, xc6⟩ := Boxed.of Hx.out.2
      rw [← HW.out] at l1 d0 d1 l2 c0 c1 c2 c3 c4 c5 c6 xm xc0 xc1 xc2 xc3 xc4 xc5 xc6
      simp only [St.val]
      go_wp2_with fail
      rw [HW.out]
      clear HW
      generalize w1.heap.size = Bx at *
      clear l1 d0 d1 l2 c0 c1 c2 c3 c4 c5 c6 xm xc0 xc1 xc2 xc3 xc4 xc5 xc6
      refine Calls.mono (waveBegun_any W2) ?_
      rintro e w3 ⟨rfl, hB⟩
      have Hx : Hid (x.At w3 ∧ Blk w3 Bx 31 7 (fun j => x.cells.getD j default)) := ⟨Hx.out.1.below hB, Hx.out.2.below hB⟩
      have HB : Hid (Below W0.heap.size W0 w3) := HB.out.trans (hB.mono HB.out.size)
      clear hB
      obtain ⟨⟨⟨l1, d0, d1⟩, l2, c0, c1, c2, c3, c4, c5, c6⟩, -, -, -⟩ := HC.out w3 HB.out
      obtain ⟨xm, xc0, xc1, xc2, xc3, xc4, xc5, xc6⟩ := Boxed.of Hx.out.2
      go_wp2_with fail
      clear l1 d0 d1 l2 c0 c1 c2 c3 c4 c5 c6 xm xc0 xc1 xc2 xc3 xc4 xc5 xc6
      go_ret
      exact ⟨by simp, (HC.out w3 HB.out).2.2.2⟩
    · have h2i : ¬ (s.os.n : Int) < 2 := by omega
      have h2d : decide ((s.os.n : Int) < 2) = false := decide_eq_false h2i
      have hone := HONE.out
      have htwo := HTWO.out
      have s1 : 1 ≤ s.os.n := by omega
      have s2 : s.os.n ≤ 1000 := by omega
      clear h2
      obtain ⟨⟨⟨l1, d0, d1⟩, l2, c0, c1, c2, c3, c4, c5, c6⟩, -, -, -⟩ := HC.out W2 HB.out
      obtain ⟨xm, xc0, xc1, xc2, xc3, xc4, xc5, xc6⟩ := Boxed.of Hx.out.2
      rw [← HW.out] at l1 d0 d1 l2 c0 c1 c2 c3 c4 c5 c6 xm xc0 xc1 xc2 xc3 xc4 xc5 xc6
      simp only [St.val]
      go_wp2_with fail
      rw [HW.out]
      clear HW
      generalize w1.heap.size = Bx at *
      clear l1 d0 d1 l2 c0 c1 c2 c3 c4 c5 c6 xm xc0 xc1 xc2 xc3 xc4 xc5 xc6
      obtain ⟨⟨⟨l1, d0, d1⟩, l2, c0, c1, c2, c3, c4, c5, c6⟩, -, -, -⟩ := HC.out W2 HB.out
      have rc1 := fun d os => cell_regrown c1 d os
      go_wp2_with fail
      refine wp_region_quiet_below (by kernel_rfl) (by kernel_rfl) ?_
      repeat (go_big_quiet_step ((go_at_call 17; exact Calls.regrown_of (choose_b _ _ _ (by assumption) s1 s2))))
      refine wpQuiet_nil ?_
      intro w3 hwq
      have hB := below_of_regrown hwq
      clear hwq rc1
      have Hx : Hid (x.At w3 ∧ Blk w3 Bx 31 7 (fun j => x.cells.getD j default)) := ⟨Hx.out.1.below hB, Hx.out.2.below hB⟩
      have HB : Hid (Below W0.heap.size W0 w3) := HB.out.trans (hB.mono HB.out.size)
      clear hB
      have hxl := chooseN_lt one s1
      have hyl := chooseN_lt two s1
      generalize chooseN one s.os.n = xo at *
      generalize chooseN two s.os.n = yo at *
      clear l1 d0 d1 l2 c0 c1 c2 c3 c4 c5 c6 hone htwo HONE HTWO h2i h2d
      have q0 : (0 : Int) ≤ (xo : Int) := by omega
      have q1 : (0 : Int) ≤ (yo : Int) := by omega
      by_cases hxy : yo ≤ xo
      · have g1 : (yo : Int) ≤ (xo : Int) := by omega
        have g2 : decide ((yo : Int) ≤ (xo : Int)) = true := decide_eq_true g1
        have g3 : decide (yo ≤ xo) = true := decide_eq_true hxy
        obtain ⟨⟨⟨l1, d0, d1⟩, l2, c0, c1, c2, c3, c4, c5, c6⟩, -, -, -⟩ := HC.out w3 HB.out
        obtain ⟨xm, xc0, xc1, xc2, xc3, xc4, xc5, xc6⟩ := Boxed.of Hx.out.2
        have rc1 := fun d os => cell_regrown c1 d os
        have rxc1 := fun d os => cell_regrown xc1 d os
        go_wp2_with fail
        refine wp_region_quiet_below (by kernel_rfl) (by kernel_rfl) ?_
        repeat (go_big_quiet_step ((fail)))
        refine wpQuiet_nil ?_
        intro w4 hwq
        have hB := below_of_regrown hwq
        clear hwq rc1 rxc1
        have Hx : Hid (x.At w4 ∧ Blk w4 Bx 31 7 (fun j => x.cells.getD j default)) := ⟨Hx.out.1.below hB, Hx.out.2.below hB⟩
        have HB : Hid (Below W0.heap.size W0 w4) := HB.out.trans (hB.mono HB.out.size)
        clear hB
        clear l1 d0 d1 l2 c0 c1 c2 c3 c4 c5 c6 xm xc0 xc1 xc2 xc3 xc4 xc5 xc6
        obtain ⟨⟨⟨l1, d0, d1⟩, l2, c0, c1, c2, c3, c4, c5, c6⟩, -, -, -⟩ := HC.out w4 HB.out
        obtain ⟨xm, xc0, xc1, xc2, xc3, xc4, xc5, xc6⟩ := Boxed.of Hx.out.2
        have rc1 := fun d os => cell_regrown c1 d os
        have rxc1 := fun d os => cell_regrown xc1 d os
        go_wp2_with fail
        refine wp_region_quiet_below (by kernel_rfl) (by kernel_rfl) ?_
        repeat (go_big_quiet_step ((go_at_call 15; exact Calls.regrown_of (waveBegun_any _))))
        refine wpQuiet_nil ?_
        intro w5 hwq
        have hB := below_of_regrown hwq
        clear hwq rc1 rxc1
        have Hx : Hid (x.At w5 ∧ Blk w5 Bx 31 7 (fun j => x.cells.getD j default)) := ⟨Hx.out.1.below hB, Hx.out.2.below hB⟩
        have HB : Hid (Below W0.heap.size W0 w5) := HB.out.trans (hB.mono HB.out.size)
        clear hB
        clear l1 d0 d1 l2 c0 c1 c2 c3 c4 c5 c6 xm xc0 xc1 xc2 xc3 xc4 xc5 xc6
        go_wp2_with fail
        go_ret
        exact ⟨by simp, (HC.out w5 HB.out).2.2.2⟩
      · have g1 : ¬ (yo : Int) ≤ (xo : Int) := by omega
        have g2 : decide ((yo : Int) ≤ (xo : Int)) = false := decide_eq_false g1
        have g3 : decide (yo ≤ xo) = false := decide_eq_false hxy
        have f1 := (HR.out.fm.lns xo hxl)
        have f2 := (HR.out.fm.lns yo hyl)
        have f3 := (HRL.out.kind HR.out (i := xo) (by omega)).2
        have f4 := (HRL.out.kind HR.out (i := yo) (by omega)).2
        have HF3 : Hid ((x.os.z xo).ls.n = (s.os.z xo).ls.n) := f3
        have HF4 : Hid ((x.os.z yo).ls.n = (s.os.z yo).ls.n) := f4
        have i1 : (((s.os.z xo).ls.n : Int) == 0) = false := beq_eq_false_iff_ne.2 (by omega)
        have i2 : (((s.os.z yo).ls.n : Int) == 0) = false := beq_eq_false_iff_ne.2 (by omega)
        have i3 : (((x.os.z xo).ls.n : Int) != ((s.os.z xo).ls.n : Int)) = false := by rw [f3]; simp
        have i4 : (((x.os.z yo).ls.n : Int) != ((s.os.z yo).ls.n : Int)) = false := by rw [f4]; simp
        have j1 : (x.os.z xo).ls.n ≤ (s.os.z xo).ls.n := Nat.le_of_eq f3
        have j2 : (s.os.z xo).ls.n ≤ (x.os.z xo).ls.n := Nat.le_of_eq f3.symm
        have j3 : (x.os.z yo).ls.n ≤ (s.os.z yo).ls.n := Nat.le_of_eq f4
        have j4 : (s.os.z yo).ls.n ≤ (x.os.z yo).ls.n := Nat.le_of_eq f4.symm
        clear f3 f4
        obtain ⟨⟨⟨l1, d0, d1⟩, l2, c0, c1, c2, c3, c4, c5, c6⟩, -, -, -⟩ := HC.out w3 HB.out
        obtain ⟨xm, xc0, xc1, xc2, xc3, xc4, xc5, xc6⟩ := Boxed.of Hx.out.2
        obtain ⟨b1, o1, ha1, hb1, e10, e11, k1⟩ := (HC.out w3 HB.out).2.2.1.os.ods xo hxl
        obtain ⟨b2, o2, ha2, hb2, e20, e21, k2⟩ := (HC.out w3 HB.out).2.2.1.os.ods yo hyl
        rw [ha1] at ha2 c1
        simp only [Option.some.injEq, Addr.mk.injEq, and_true] at ha2
        obtain ⟨rfl, rfl⟩ := ha2
        obtain ⟨b3, o3, ha3, hb3, e30, e31, k3⟩ := Hx.out.1.os.ods xo (by omega)
        obtain ⟨b4, o4, ha4, hb4, e40, e41, k4⟩ := Hx.out.1.os.ods yo (by omega)
        rw [ha3] at ha4 xc1
        simp only [Option.some.injEq, Addr.mk.injEq, and_true] at ha4
        obtain ⟨rfl, rfl⟩ := ha4
        have le1 := k1.le
        have cp1 := k1.cap
        have le2 := k2.le
        have cp2 := k2.cap
        have le3 := k3.le
        have cp3 := k3.cap
        have le4 := k4.le
        have cp4 := k4.cap
        unfold maxLen at cp1 cp2 cp3 cp4
        have rc1 := fun d os => cell_regrown c1 d os
        have rxc1 := fun d os => cell_regrown xc1 d os
        have re11 := fun d os => cell_regrown e11 d os
        have re21 := fun d os => cell_regrown e21 d os
        have re31 := fun d os => cell_regrown e31 d os
        have re41 := fun d os => cell_regrown e41 d os
        go_wp2_with fail
        refine wp_region_quiet_below (by kernel_rfl) (by kernel_rfl) ?_
        repeat (go_big_quiet_step ((fail)))
        refine wpQuiet_nil ?_
        intro w4 hwq
        have hB := below_of_regrown hwq
        clear hwq rc1 rxc1 re11 re21 re31 re41
        have Hx : Hid (x.At w4 ∧ Blk w4 Bx 31 7 (fun j => x.cells.getD j default)) := ⟨Hx.out.1.below hB, Hx.out.2.below hB⟩
        have HB : Hid (Below W0.heap.size W0 w4) := HB.out.trans (hB.mono HB.out.size)
        clear hB
        clear l1 d0 d1 l2 c0 c1 c2 c3 c4 c5 c6 xm xc0 xc1 xc2 xc3 xc4 xc5 xc6 ha1 hb1 hb2 e10 e11 k1 e20 e21 k2 ha3 hb3 hb4 e30 e31 k3 e40 e41 k4
        have hk := HK.out
        have hl := HL.out
        have t1 : 1 ≤ (s.os.z xo).ls.n := f1.1
        have t2 : (s.os.z xo).ls.n ≤ 1000 := by omega
        have t3 : 1 ≤ (s.os.z yo).ls.n := f2.1
        have t4 : (s.os.z yo).ls.n ≤ 1000 := by omega
        clear i1 i2 i3 i4
        obtain ⟨⟨⟨l1, d0, d1⟩, l2, c0, c1, c2, c3, c4, c5, c6⟩, -, -, -⟩ := HC.out w4 HB.out
        obtain ⟨xm, xc0, xc1, xc2, xc3, xc4, xc5, xc6⟩ := Boxed.of Hx.out.2
        obtain ⟨b1, o1, ha1, hb1, e10, e11, k1⟩ := (HC.out w4 HB.out).2.2.1.os.ods xo hxl
        obtain ⟨b2, o2, ha2, hb2, e20, e21, k2⟩ := (HC.out w4 HB.out).2.2.1.os.ods yo hyl
        rw [ha1] at ha2 c1
        simp only [Option.some.injEq, Addr.mk.injEq, and_true] at ha2
        obtain ⟨rfl, rfl⟩ := ha2
        obtain ⟨b3, o3, ha3, hb3, e30, e31, k3⟩ := Hx.out.1.os.ods xo (by omega)
        obtain ⟨b4, o4, ha4, hb4, e40, e41, k4⟩ := Hx.out.1.os.ods yo (by omega)
        rw [ha3] at ha4 xc1
        simp only [Option.some.injEq, Addr.mk.injEq, and_true] at ha4
        obtain ⟨rfl, rfl⟩ := ha4
        have le1 := k1.le
        have cp1 := k1.cap
        have le2 := k2.le
        have cp2 := k2.cap
        have le3 := k3.le
        have cp3 := k3.cap
        have le4 := k4.le
        have cp4 := k4.cap
        unfold maxLen at cp1 cp2 cp3 cp4
        have rc1 := fun d os => cell_regrown c1 d os
        have rxc1 := fun d os => cell_regrown xc1 d os
        have re11 := fun d os => cell_regrown e11 d os
        have re21 := fun d os => cell_regrown e21 d os
        have re31 := fun d os => cell_regrown e31 d os
        have re41 := fun d os => cell_regrown e41 d os
        go_wp2_with fail
        refine wp_region_quiet_below (by kernel_rfl) (by kernel_rfl) ?_
        repeat (go_big_quiet_step ((go_at_call 17; exact Calls.regrown_of (choose_b _ _ _ (by assumption) (by assumption) (by assumption)))))
        refine wpQuiet_nil ?_
        intro w5 hwq
        have hB := below_of_regrown hwq
        clear hwq rc1 rxc1 re11 re21 re31 re41
        have Hx : Hid (x.At w5 ∧ Blk w5 Bx 31 7 (fun j => x.cells.getD j default)) := ⟨Hx.out.1.below hB, Hx.out.2.below hB⟩
        have HB : Hid (Below W0.heap.size W0 w5) := HB.out.trans (hB.mono HB.out.size)
        clear hB
        clear l1 d0 d1 l2 c0 c1 c2 c3 c4 c5 c6 xm xc0 xc1 xc2 xc3 xc4 xc5 xc6 ha1 hb1 hb2 e10 e11 k1 e20 e21 k2 ha3 hb3 hb4 e30 e31 k3 e40 e41 k4
        have hul := chooseN_lt k t1
        have hvl := chooseN_lt l t3
        generalize chooseN k (s.os.z xo).ls.n = uu at *
        generalize chooseN l (s.os.z yo).ls.n = vv at *
        have q2 : (0 : Int) ≤ (uu : Int) := by omega
        have q3 : (0 : Int) ≤ (vv : Int) := by omega
        clear hk hl t1 t2 t3 t4 HK HL
        obtain ⟨⟨⟨l1, d0, d1⟩, l2, c0, c1, c2, c3, c4, c5, c6⟩, -, -, -⟩ := HC.out w5 HB.out
        obtain ⟨xm, xc0, xc1, xc2, xc3, xc4, xc5, xc6⟩ := Boxed.of Hx.out.2
        obtain ⟨b1, o1, ha1, hb1, e10, e11, k1⟩ := (HC.out w5 HB.out).2.2.1.os.ods xo hxl
        obtain ⟨b2, o2, ha2, hb2, e20, e21, k2⟩ := (HC.out w5 HB.out).2.2.1.os.ods yo hyl
        rw [ha1] at ha2 c1
        simp only [Option.some.injEq, Addr.mk.injEq, and_true] at ha2
        obtain ⟨rfl, rfl⟩ := ha2
        obtain ⟨b3, o3, ha3, hb3, e30, e31, k3⟩ := Hx.out.1.os.ods xo (by omega)
        obtain ⟨b4, o4, ha4, hb4, e40, e41, k4⟩ := Hx.out.1.os.ods yo (by omega)
        rw [ha3] at ha4 xc1
        simp only [Option.some.injEq, Addr.mk.injEq, and_true] at ha4
        obtain ⟨rfl, rfl⟩ := ha4
        have le1 := k1.le
        have cp1 := k1.cap
        have le2 := k2.le
        have cp2 := k2.cap
        have le3 := k3.le
        have cp3 := k3.cap
        have le4 := k4.le
        have cp4 := k4.cap
        unfold maxLen at cp1 cp2 cp3 cp4
        obtain ⟨b5, o5, ha5, hb5, y50, y51, y52, y53⟩ := k3.hds uu (by omega)
        obtain ⟨b6, o6, ha6, hb6, y60, y61, y62, y63⟩ := k4.hds vv (by omega)
        rw [ha5] at e31
        rw [ha6] at e41
        have HFI : Hid ((x.os.z xo).k = 1 → ¬ ((x.os.z xo).ls.z uu).n = 0 → ((x.os.z xo).ls.z uu).o = ((x.os.z yo).ls.z vv).o → keptS x.hs.z yo vv x.hs.n = keptS s.hs.z yo vv s.hs.n) := fun h1 h2 h3 => HRL.out.first HR.out (by omega) hyl hul hvl h1 h2 h3
        have HHX : Hid (anyB x.hs.n (badH x.hs.z) = false) := HRX.out.fm.hold
        generalize (x.os.z xo).ls.z uu = ZU at *
        generalize (x.os.z yo).ls.z vv = ZV at *
        have rc1 := fun d os => cell_regrown c1 d os
        have rxc1 := fun d os => cell_regrown xc1 d os
        have re11 := fun d os => cell_regrown e11 d os
        have re21 := fun d os => cell_regrown e21 d os
        have re31 := fun d os => cell_regrown e31 d os
        have re41 := fun d os => cell_regrown e41 d os
        have ry50 := fun d os => cell_regrown y50 d os
        have ry51 := fun d os => cell_regrown y51 d os
        have ry52 := fun d os => cell_regrown y52 d os
        have ry53 := fun d os => cell_regrown y53 d os
        have ry60 := fun d os => cell_regrown y60 d os
        have ry61 := fun d os => cell_regrown y61 d os
        have ry62 := fun d os => cell_regrown y62 d os
        have ry63 := fun d os => cell_regrown y63 d os
        go_wp2_with fail
        refine wp_region_made5 (fun w' => ∃ p : Regrown, w' = grow (redrawn w5 p.d) p.os) [0, 1, 2, 3, 4, 5, 6, 7, 8, 9, 10, 11, 12, 13, 14, 15, 16, 17] [18, 19] [(false, 20), (true, 21)] (by kernel_rfl) (by kernel_rfl) (by kernel_rfl) (by kernel_rfl) (by kernel_rfl) (by kernel_rfl) (by kernel_rfl) (by kernel_rfl) (by kernel_rfl) (regrown_of_below ((Below.refl _ _).drew)) ?_
        simp only [picks, List.drop_succ_cons, List.drop_zero, List.take_succ_cons, List.take_zero, List.cons_append, List.nil_append]
        repeat (go_big_quiet_step (fail))
        refine wpQuiet_nil ?_
        clear rc1 rxc1 re11 re21 re31 re41 ry50 ry51 ry52 ry53 ry60 ry61 ry62 ry63 l1 d0 d1 l2 c0 c1 c2 c3 c4 c5 c6 xm xc0 xc1 xc2 xc3 xc4 xc5 xc6 ha1 hb1 hb2 e10 e11 k1 e20 e21 k2 ha3 hb3 hb4 e30 e31 k3 e40 e41 k4 ha5 hb5 ha6 hb6 y50 y51 y52 y53 y60 y61 y62 y63
        refine ⟨fun j v g wk => ∃ B, v = .pointer (some ⟨B, 0, none⟩) ∧ g = [B] ∧ w5.heap.size ≤ B ∧ Blk wk B 50 4 (fun _ => .int .i64 0),
          List.forall_mem_cons.2 ⟨fun v g w w' hB h => ⟨h.choose, h.choose_spec.1, h.choose_spec.2.1, h.choose_spec.2.2.1, h.choose_spec.2.2.2.below hB⟩, List.forall_mem_cons.2 ⟨fun v g w w' hB h => ⟨h.choose, h.choose_spec.1, h.choose_spec.2.1, h.choose_spec.2.2.1, h.choose_spec.2.2.2.below hB⟩, List.forall_mem_nil _⟩⟩,
          List.forall_mem_cons.2 ⟨fun v g w h => by obtain ⟨B, -, h2, -, h4⟩ := h; rw [h2]; intro x hx; rw [List.mem_singleton] at hx; rw [hx]; exact h4.lt, List.forall_mem_cons.2 ⟨fun v g w h => by obtain ⟨B, -, h2, -, h4⟩ := h; rw [h2]; intro x hx; rw [List.mem_singleton] at hx; rw [hx]; exact h4.lt, List.forall_mem_nil _⟩⟩,
          List.forall_mem_cons.2 ⟨?zt18, List.forall_mem_cons.2 ⟨?zt19, List.forall_mem_nil _⟩⟩, ?ztdone⟩
        case zt18 =>
          intro V G wk K hS hd hK
          have hX := below_of_regrown hS
          refine wpOp_list 18 rfl ?_
          simp only [putAll, dstOf, List.getElem?_toArray, List.getElem?_cons_succ, List.getElem?_cons_zero, Act.put, List.setIfInBounds_toArray, List.set_cons_succ, List.set_cons_zero] at hK ⊢
          go_wp2_with fail
          exact hK _ [wk.heap.size] _ (regrown_of_below (hX.alloc hX.size _)) ((Below.refl _ _).alloc (Nat.le_refl _) _) (fun x hx => by rw [List.mem_singleton] at hx; omega) ⟨wk.heap.size, rfl, rfl, hX.size, (Blk.mk' (cur := #[.int .i64 0, .int .i64 0, .int .i64 0, .int .i64 0]) rfl rfl).congr (fun j hj => by match j, hj with | 0, _ => rfl | 1, _ => rfl | 2, _ => rfl | 3, _ => rfl)⟩
        case zt19 =>
          intro V G wk K hS hd hK
          have hX := below_of_regrown hS
          refine wpOp_list 19 rfl ?_
          simp only [putAll, dstOf, List.getElem?_toArray, List.getElem?_cons_succ, List.getElem?_cons_zero, Act.put, List.setIfInBounds_toArray, List.set_cons_succ, List.set_cons_zero] at hK ⊢
          go_wp2_with fail
          exact hK _ [wk.heap.size] _ (regrown_of_below (hX.alloc hX.size _)) ((Below.refl _ _).alloc (Nat.le_refl _) _) (fun x hx => by rw [List.mem_singleton] at hx; omega) ⟨wk.heap.size, rfl, rfl, hX.size, (Blk.mk' (cur := #[.int .i64 0, .int .i64 0, .int .i64 0, .int .i64 0]) rfl rfl).congr (fun j hj => by match j, hj with | 0, _ => rfl | 1, _ => rfl | 2, _ => rfl | 3, _ => rfl)⟩
        case ztdone =>
          intro V G' wk hS hD hA
          obtain ⟨BL1, h1v, h1g, h1l, h1b⟩ : ∃ B, V 18 = .pointer (some ⟨B, 0, none⟩) ∧ G' 18 = [B] ∧ w5.heap.size ≤ B ∧ Blk wk B 50 4 (fun _ => .int .i64 0) := hD 18 (by simp)
          obtain ⟨BL2, h2v, h2g, h2l, h2b⟩ : ∃ B, V 19 = .pointer (some ⟨B, 0, none⟩) ∧ G' 19 = [B] ∧ w5.heap.size ≤ B ∧ Blk wk B 50 4 (fun _ => .int .i64 0) := hD 19 (by simp)
          have hne : BL1 ≠ BL2 := fun e => hA 18 (by simp) 19 (by simp) (by omega) BL1 (by rw [h1g]; simp) (by rw [h2g, e]; simp)
          have hX := below_of_regrown hS
          clear hS hD hA h1g h2g
          simp only [putAll, dstOf, List.getElem?_toArray, List.getElem?_cons_succ, List.getElem?_cons_zero, Act.put, List.setIfInBounds_toArray, List.set_cons_succ, List.set_cons_zero, h1v, h2v]
          have z1 := h1b.lt
          have z2 := h2b.lt
          have z1f0 := h1b.frozen 0
          have z1f1 := h1b.frozen 1
          have z1f2 := h1b.frozen 2
          have z1f3 := h1b.frozen 3
          have z1c0 := h1b.cell (j := 0) (by decide)
          have z1c1 := h1b.cell (j := 1) (by decide)
          have z1c2 := h1b.cell (j := 2) (by decide)
          have z1c3 := h1b.cell (j := 3) (by decide)
          have K1 := (((h1b.set 0 (.int .i64 ZU.o)).set 1 (.int .i64 ZU.l)).set 2 (.int .i64 ZU.b)).set 3 (.int .i64 ZU.n)
          have K2 := (((h2b.other (a := ⟨BL1, 0, none⟩) hne.symm (.int .i64 ZU.o)).other (a := ⟨BL1, 1, none⟩) hne.symm (.int .i64 ZU.l)).other (a := ⟨BL1, 2, none⟩) hne.symm (.int .i64 ZU.b)).other (a := ⟨BL1, 3, none⟩) hne.symm (.int .i64 ZU.n)
          have hX1 := (((hX.setCell (p := ⟨BL1, 0, none⟩) h1l (.int .i64 ZU.o)).setCell (p := ⟨BL1, 1, none⟩) h1l (.int .i64 ZU.l)).setCell (p := ⟨BL1, 2, none⟩) h1l (.int .i64 ZU.b)).setCell (p := ⟨BL1, 3, none⟩) h1l (.int .i64 ZU.n)
          have HX1 : Hid (Below w5.heap.size w5 ((((wk.setCell ⟨BL1, 0, none⟩ (.int .i64 ZU.o)).setCell ⟨BL1, 1, none⟩ (.int .i64 ZU.l)).setCell ⟨BL1, 2, none⟩ (.int .i64 ZU.b)).setCell ⟨BL1, 3, none⟩ (.int .i64 ZU.n))) := hX1
          clear h1b h2b hX
          refine wpSeq_one 20 rfl ?_
          go_wp2_with fail
          refine ⟨Late.no (regrown_of_below HX1.out), ?_⟩
          clear HX1
          clear z1 z1f0 z1f1 z1f2 z1f3 z1c0 z1c1 z1c2 z1c3
          generalize ((((wk.setCell ⟨BL1, 0, none⟩ (.int .i64 ZU.o)).setCell ⟨BL1, 1, none⟩ (.int .i64 ZU.l)).setCell ⟨BL1, 2, none⟩ (.int .i64 ZU.b)).setCell ⟨BL1, 3, none⟩ (.int .i64 ZU.n)) = wl at *
          have z1 := K2.lt
          have z1f0 := K2.frozen 0
          have z1f1 := K2.frozen 1
          have z1f2 := K2.frozen 2
          have z1f3 := K2.frozen 3
          have z1c0 := K2.cell (j := 0) (by decide)
          have z1c1 := K2.cell (j := 1) (by decide)
          have z1c2 := K2.cell (j := 2) (by decide)
          have z1c3 := K2.cell (j := 3) (by decide)
          have K3 := (((K1.other (a := ⟨BL2, 0, none⟩) hne (.int .i64 ZV.o)).other (a := ⟨BL2, 1, none⟩) hne (.int .i64 ZV.l)).other (a := ⟨BL2, 2, none⟩) hne (.int .i64 ZV.b)).other (a := ⟨BL2, 3, none⟩) hne (.int .i64 ZV.n)
          have K4 := (((K2.set 0 (.int .i64 ZV.o)).set 1 (.int .i64 ZV.l)).set 2 (.int .i64 ZV.b)).set 3 (.int .i64 ZV.n)
          have hX2 := (((hX1.setCell (p := ⟨BL2, 0, none⟩) h2l (.int .i64 ZV.o)).setCell (p := ⟨BL2, 1, none⟩) h2l (.int .i64 ZV.l)).setCell (p := ⟨BL2, 2, none⟩) h2l (.int .i64 ZV.b)).setCell (p := ⟨BL2, 3, none⟩) h2l (.int .i64 ZV.n)
          have M1 : Blk ((((wl.setCell ⟨BL2, 0, none⟩ (.int .i64 ZV.o)).setCell ⟨BL2, 1, none⟩ (.int .i64 ZV.l)).setCell ⟨BL2, 2, none⟩ (.int .i64 ZV.b)).setCell ⟨BL2, 3, none⟩ (.int .i64 ZV.n)) BL1 50 4 (fun j => (#[.int .i64 ZU.o, .int .i64 ZU.l, .int .i64 ZU.b, .int .i64 ZU.n] : Array Value).getD j default) := K3.congr (fun j hj => by match j, hj with | 0, _ => rfl | 1, _ => rfl | 2, _ => rfl | 3, _ => rfl)
          have M2 : Blk ((((wl.setCell ⟨BL2, 0, none⟩ (.int .i64 ZV.o)).setCell ⟨BL2, 1, none⟩ (.int .i64 ZV.l)).setCell ⟨BL2, 2, none⟩ (.int .i64 ZV.b)).setCell ⟨BL2, 3, none⟩ (.int .i64 ZV.n)) BL2 50 4 (fun j => (#[.int .i64 ZV.o, .int .i64 ZV.l, .int .i64 ZV.b, .int .i64 ZV.n] : Array Value).getD j default) := K4.congr (fun j hj => by match j, hj with | 0, _ => rfl | 1, _ => rfl | 2, _ => rfl | 3, _ => rfl)
          clear K1 K2 hX1 K3 K4
          refine wpSeq_one 21 rfl ?_
          go_wp2_with fail
          refine ⟨Late.yes, ?_⟩
          clear z1 z1f0 z1f1 z1f2 z1f3 z1c0 z1c1 z1c2 z1c3
          generalize ((((wl.setCell ⟨BL2, 0, none⟩ (.int .i64 ZV.o)).setCell ⟨BL2, 1, none⟩ (.int .i64 ZV.l)).setCell ⟨BL2, 2, none⟩ (.int .i64 ZV.b)).setCell ⟨BL2, 3, none⟩ (.int .i64 ZV.n)) = w6 at *
          have HL1 : Hid (Blk w6 BL1 50 4 (fun j => (#[.int .i64 ZU.o, .int .i64 ZU.l, .int .i64 ZU.b, .int .i64 ZU.n] : Array Value).getD j default)) := M1
          have HL2 : Hid (Blk w6 BL2 50 4 (fun j => (#[.int .i64 ZV.o, .int .i64 ZV.l, .int .i64 ZV.b, .int .i64 ZV.n] : Array Value).getD j default)) := M2
          have hB := hX2
          clear M1 M2 hX2
          refine NoPanic.normal ?_
          have Hx : Hid (x.At w6 ∧ Blk w6 Bx 31 7 (fun j => x.cells.getD j default)) := ⟨Hx.out.1.below hB, Hx.out.2.below hB⟩
          have HB : Hid (Below W0.heap.size W0 w6) := HB.out.trans (hB.mono HB.out.size)
          clear hB
          obtain ⟨⟨⟨l1, d0, d1⟩, l2, c0, c1, c2, c3, c4, c5, c6⟩, -, -, -⟩ := HC.out w6 HB.out
          go_wp2_with fail
          clear l1 d0 d1 l2 c0 c1 c2 c3 c4 c5 c6
          refine Calls.mono (Kept_rightW s.hs yo vv w6 (HC.out w6 HB.out).2.2.1.hs HR.out.fm.hold) ?_
          rintro e w7 ⟨rfl, hB⟩
          have Hx : Hid (x.At w7 ∧ Blk w7 Bx 31 7 (fun j => x.cells.getD j default)) := ⟨Hx.out.1.below hB, Hx.out.2.below hB⟩
          have HL1 : Hid (Blk w7 BL1 50 4 (fun j => (#[.int .i64 ZU.o, .int .i64 ZU.l, .int .i64 ZU.b, .int .i64 ZU.n] : Array Value).getD j default)) := HL1.out.below hB
          have HL2 : Hid (Blk w7 BL2 50 4 (fun j => (#[.int .i64 ZV.o, .int .i64 ZV.l, .int .i64 ZV.b, .int .i64 ZV.n] : Array Value).getD j default)) := HL2.out.below hB
          have HB : Hid (Below W0.heap.size W0 w7) := HB.out.trans (hB.mono HB.out.size)
          clear hB
          obtain ⟨xm, xc0, xc1, xc2, xc3, xc4, xc5, xc6⟩ := Boxed.of Hx.out.2
          go_wp2_with fail
          clear xm xc0 xc1 xc2 xc3 xc4 xc5 xc6
          refine Calls.mono (Kept_rightW x.hs yo vv w7 Hx.out.1.hs HHX.out) ?_
          rintro e w8 ⟨rfl, hB⟩
          have Hx : Hid (x.At w8 ∧ Blk w8 Bx 31 7 (fun j => x.cells.getD j default)) := ⟨Hx.out.1.below hB, Hx.out.2.below hB⟩
          have HL1 : Hid (Blk w8 BL1 50 4 (fun j => (#[.int .i64 ZU.o, .int .i64 ZU.l, .int .i64 ZU.b, .int .i64 ZU.n] : Array Value).getD j default)) := HL1.out.below hB
          have HL2 : Hid (Blk w8 BL2 50 4 (fun j => (#[.int .i64 ZV.o, .int .i64 ZV.l, .int .i64 ZV.b, .int .i64 ZV.n] : Array Value).getD j default)) := HL2.out.below hB
          have HB : Hid (Below W0.heap.size W0 w8) := HB.out.trans (hB.mono HB.out.size)
          clear hB
          go_wp2_with fail
          refine Calls.mono (waveBegun_any w8) ?_
          rintro e w9 ⟨rfl, hB⟩
          have Hx : Hid (x.At w9 ∧ Blk w9 Bx 31 7 (fun j => x.cells.getD j default)) := ⟨Hx.out.1.below hB, Hx.out.2.below hB⟩
          have HL1 : Hid (Blk w9 BL1 50 4 (fun j => (#[.int .i64 ZU.o, .int .i64 ZU.l, .int .i64 ZU.b, .int .i64 ZU.n] : Array Value).getD j default)) := HL1.out.below hB
          have HL2 : Hid (Blk w9 BL2 50 4 (fun j => (#[.int .i64 ZV.o, .int .i64 ZV.l, .int .i64 ZV.b, .int .i64 ZV.n] : Array Value).getD j default)) := HL2.out.below hB
          have HB : Hid (Below W0.heap.size W0 w9) := HB.out.trans (hB.mono HB.out.size)
          clear hB
          have a0 : w9.cell? ⟨BL1, 0, none⟩ = some (.int .i64 ZU.o) := HL1.out.cell (j := 0) (by decide)
          have a3 : w9.cell? ⟨BL1, 3, none⟩ = some (.int .i64 ZU.n) := HL1.out.cell (j := 3) (by decide)
          have a4 := HL1.out.lt
          have b0 : w9.cell? ⟨BL2, 0, none⟩ = some (.int .i64 ZV.o) := HL2.out.cell (j := 0) (by decide)
          have b4 := HL2.out.lt
          obtain ⟨b3', o3', ha3', hb3', e30', e31', k3'⟩ := Hx.out.1.os.ods xo (by omega)
          obtain ⟨xm, xc0, xc1, xc2, xc3, xc4, xc5, xc6⟩ := Boxed.of Hx.out.2
          rw [ha3'] at xc1
          clear ha3' k3' e31'
          generalize keptS s.hs.z yo vv s.hs.n = KS at *
          generalize keptS x.hs.z yo vv x.hs.n = KX at *
          generalize (x.os.z xo).k = KK at *
          by_cases r1 : ZU.o = ZV.o
          · have r2 : (ZU.o != ZV.o) = false := by simpa using r1
            by_cases r3 : ZU.n = 0
            · have r4 : (ZU.n == 0) = true := by simpa using r3
              clear r1 r3
              go_wp2_with fail
              go_ret
              exact ⟨by simp, (HC.out w9 HB.out).2.2.2⟩
            · have r4 : (ZU.n == 0) = false := by simpa using r3
              by_cases r5 : KK = 1
              · have r6 : (KK != 1) = false := by simpa using r5
                have r7 : (KX == KS) = true := by simpa using HFI.out r5 r3 r1
                clear r1 r3 r5 HFI
                go_wp2_with fail
                go_ret
                exact ⟨by simp, (HC.out w9 HB.out).2.2.2⟩
              · have r6 : (KK != 1) = true := by simpa using r5
                clear r1 r3 r5 HFI
                go_wp2_with fail
                go_ret
                exact ⟨by simp, (HC.out w9 HB.out).2.2.2⟩
          · have r2 : (ZU.o != ZV.o) = true := by simpa using r1
            clear r1 HFI
            go_wp2_with fail
            go_ret
            exact ⟨by simp, (HC.out w9 HB.out).2.2.2⟩
  · have g0 : (stateE p s != 0) = true := by simpa using h0
    clear h0 HXOK
    generalize stateE p s = EE at *
    obtain ⟨⟨⟨l1, d0, d1⟩, l2, c0, c1, c2, c3, c4, c5, c6⟩, -, -, -⟩ := HC.out W2 HB.out
    obtain ⟨xm, xc0, xc1, xc2, xc3, xc4, xc5, xc6⟩ := Boxed.of Hx.out.2
    rw [← HW.out] at l1 d0 d1 l2 c0 c1 c2 c3 c4 c5 c6 xm xc0 xc1 xc2 xc3 xc4 xc5 xc6
    simp only [St.val]
    go_wp2_with fail
    rw [HW.out]
    clear HW
    generalize w1.heap.size = Bx at *
    clear l1 d0 d1 l2 c0 c1 c2 c3 c4 c5 c6 xm xc0 xc1 xc2 xc3 xc4 xc5 xc6
    refine Calls.mono (waveBegun_any W2) ?_
    rintro e w3 ⟨rfl, hB⟩
    have Hx : Hid (x.At w3 ∧ Blk w3 Bx 31 7 (fun j => x.cells.getD j default)) := ⟨Hx.out.1.below hB, Hx.out.2.below hB⟩
    have HB : Hid (Below W0.heap.size W0 w3) := HB.out.trans (hB.mono HB.out.size)
    clear hB
    obtain ⟨⟨⟨l1, d0, d1⟩, l2, c0, c1, c2, c3, c4, c5, c6⟩, -, -, -⟩ := HC.out w3 HB.out
    obtain ⟨xm, xc0, xc1, xc2, xc3, xc4, xc5, xc6⟩ := Boxed.of Hx.out.2
    go_wp2_with fail
    clear l1 d0 d1 l2 c0 c1 c2 c3 c4 c5 c6 xm xc0 xc1 xc2 xc3 xc4 xc5 xc6
    go_ret
    exact ⟨by simp, (HC.out w3 HB.out).2.2.2⟩
end Go.Proofs.Ytbcacebifpagpad
namespace Go.Proofs.Ytbcacebifpagpad
open Go.ChangeShapes Go.WideShapes Go.ChangeAt Go.RowKit Go.Joins Go.Deep
set_option linter.unusedVariables false
set_option maxRecDepth 100000
theorem own : ownKnob Try.prog.godebug = none := by kernel_rfl
theorem laidOut : laidOutB Try.prog = true := by kernel_rfl
theorem cellsInt : Try.prog.cellsOf 3 = 1 := by kernel_rfl
theorem cellsInts : Try.prog.cellsOf 23 = 1 := by kernel_rfl
theorem cellsBin : Try.prog.cellsOf 64 = 4 := by kernel_rfl
theorem cellsPlan : Try.prog.cellsOf 25 = 2 := by kernel_rfl
theorem cellsBool : Try.prog.cellsOf 4 = 1 := by kernel_rfl
section
variable {H : Type} {enc : TypeId × Value → H} {w : World} {held : Bool} {spare : Nat → Bool}
theorem addrOf {a : Addr} {i : Nat} {v : Value} (h : w.cell? (a.add i) = some v) (h0 : ∃ v0, w.cell? a = some v0) : ∃ b o, a = ⟨b, o, none⟩ ∧ b < w.heap.size ∧ w.cell? ⟨b, o + i, none⟩ = some v := by
  obtain ⟨b, off, spot⟩ := a
  obtain ⟨v0, h0⟩ := h0
  have hspot : spot = none := World.cell?_spot h0
  subst hspot
  refine ⟨b, off, rfl, World.block_lt_of_cell? w _ h0, ?_⟩
  rw [← Go.WideShapes.add_plain]
  exact h
theorem readInts {fuel : Nat} {cs : List Value} {x : DataW H × List MemPlace} (h : DataW.trod enc Try.prog w 0 spare held fuel 23 cs = some x) : ∃ r : Rw, cs = [r.val] ∧ r.At w := by
  rcases open_slice1 Try.underlying23 cellsInt h with ⟨rfl, _⟩ | ⟨a, len, cap, m, n, V, D, Pl, rfl, hb, hl, hm, hmm, _, hx⟩
  · exact ⟨⟨none, 0, 0, fun _ => 0⟩, rfl, Nat.le_refl _, Nat.zero_le _, fun i hi => absurd hi (Nat.not_lt_zero _)⟩
  · have hlm : len ≤ m := by rw [hmm]; split <;> omega
    obtain ⟨z, hz⟩ := choose_lt (α := Int) (n := len) (p := fun i y => V i = .int .i64 y) (fun i hi => by
      obtain ⟨y, hy, _⟩ := DataW.trod_int Try.underlying3 (hx i (by omega)).2
      simp only [List.cons.injEq, and_true] at hy
      exact ⟨y, hy⟩)
    refine ⟨⟨some a, len, cap, z⟩, rfl, hl, hm, fun i hi => ?_⟩
    have hi' : i < len := hi
    have h0 : ∃ v0, w.cell? a = some v0 := ⟨_, by have := (hx 0 (by omega)).1; simpa [Addr.add] using this⟩
    obtain ⟨b, o, rfl, hb', hc⟩ := addrOf (hx i (by omega)).1 h0
    exact ⟨b, o, rfl, hb', by rw [hc, hz i hi']⟩
theorem readRows {fuel : Nat} {cs : List Value} {x : DataW H × List MemPlace} (h : DataW.trod enc Try.prog w 0 spare held fuel 26 cs = some x) : ∃ s : Sh, cs = [s.val] ∧ s.At w := by
  rcases open_slice1 Try.underlying26 cellsInts h with ⟨rfl, _⟩ | ⟨a, len, cap, m, n, V, D, Pl, rfl, hb, hl, hm, hmm, _, hx⟩
  · exact ⟨⟨none, 0, 0, fun _ => ⟨none, 0, 0, fun _ => 0⟩⟩, rfl, Nat.le_refl _, Nat.zero_le _, fun i hi => absurd hi (Nat.not_lt_zero _)⟩
  · have hlm : len ≤ m := by rw [hmm]; split <;> omega
    haveI : Inhabited Rw := ⟨⟨none, 0, 0, fun _ => 0⟩⟩
    obtain ⟨z, hz⟩ := choose_lt (α := Rw) (n := len) (p := fun i y => V i = y.val ∧ y.At w) (fun i hi => by
      obtain ⟨y, hy, hat⟩ := readInts (hx i (by omega)).2
      simp only [List.cons.injEq, and_true] at hy
      exact ⟨y, hy, hat⟩)
    refine ⟨⟨some a, len, cap, z⟩, rfl, hl, hm, fun i hi => ?_⟩
    have hi' : i < len := hi
    have h0 : ∃ v0, w.cell? a = some v0 := ⟨_, by have := (hx 0 (by omega)).1; simpa [Addr.add] using this⟩
    obtain ⟨b, o, rfl, hb', hc⟩ := addrOf (hx i (by omega)).1 h0
    exact ⟨b, o, rfl, hb', by rw [hc, (hz i hi').1]; rfl, (hz i hi').2⟩
theorem readBin {fuel : Nat} {c0 c1 c2 c3 : Value} {x : DataW H × List MemPlace} (h : DataW.trod enc Try.prog w 0 spare held fuel 64 [c0, c1, c2, c3] = some x) : ∃ y : Bin, c0 = .bool y.front ∧ c1 = .int .i64 y.room ∧ c2 = .int .i64 y.low ∧ c3 = .int .i64 y.high := by
  obtain ⟨y0, y1, y2, y3, n, hx, hl, h0, h1, h2, h3⟩ := trod_struct4 Try.underlying64 h
  simp only [cellsBool, cellsInt, List.drop_succ_cons, List.drop_zero, List.take_succ_cons, List.take_zero] at h0 h1 h2 h3
  obtain ⟨b, e0, _⟩ := DataW.trod_bool Try.underlying4 h0
  obtain ⟨n1, e1, _⟩ := DataW.trod_int Try.underlying3 h1
  obtain ⟨n2, e2, _⟩ := DataW.trod_int Try.underlying3 h2
  obtain ⟨n3, e3, _⟩ := DataW.trod_int Try.underlying3 h3
  simp only [List.cons.injEq, and_true] at e0 e1 e2 e3
  exact ⟨⟨b, n1, n2, n3⟩, e0, e1, e2, e3⟩
theorem cells4 {base : Nat} {a : Addr} {cs : List Value} (h : w.cells? base a 4 = some cs) : ∃ c0 c1 c2 c3, cs = [c0, c1, c2, c3] ∧ w.cell? a = some c0 ∧ w.cell? (a.add 1) = some c1 ∧ w.cell? (a.add 2) = some c2 ∧ w.cell? (a.add 3) = some c3 := by
  obtain ⟨_, hlen, hc⟩ := World.cells?_some h
  match cs, hlen with
  | [c0, c1, c2, c3], _ =>
    refine ⟨c0, c1, c2, c3, rfl, ?_, ?_, ?_, ?_⟩
    · simpa [Addr.add] using hc 0 (by decide)
    · simpa using hc 1 (by decide)
    · simpa using hc 2 (by decide)
    · simpa using hc 3 (by decide)
theorem readBins {fuel : Nat} {cs : List Value} {x : DataW H × List MemPlace} (h : DataW.trod enc Try.prog w 0 spare held fuel 22 cs = some x) : ∃ a n c z, cs = [.slice a n c] ∧ n ≤ c ∧ c ≤ maxLen ∧ BinsAt w a n z := by
  rcases open_slice Try.underlying22 h with ⟨rfl, _⟩ | ⟨a, len, cap, m, n, D, Pl, rfl, hb, hl, hm, hmm, _, hx⟩
  · exact ⟨none, 0, 0, fun _ => ⟨false, 0, 0, 0⟩, rfl, Nat.le_refl _, Nat.zero_le _, fun i hi => absurd hi (Nat.not_lt_zero _)⟩
  · have hlm : len ≤ m := by rw [hmm]; split <;> omega
    rw [cellsBin] at hx
    haveI : Inhabited Bin := ⟨⟨false, 0, 0, 0⟩⟩
    obtain ⟨z, hz⟩ := choose_lt (α := Bin) (n := len) (p := fun i y => w.cell? (a.add (i * 4)) = some (.bool y.front) ∧ w.cell? (a.add (i * 4 + 1)) = some (.int .i64 y.room) ∧ w.cell? (a.add (i * 4 + 2)) = some (.int .i64 y.low) ∧ w.cell? (a.add (i * 4 + 3)) = some (.int .i64 y.high)) (fun i hi => by
      obtain ⟨cs', hc, ht⟩ := hx i (by omega)
      obtain ⟨c0, c1, c2, c3, rfl, k0, k1, k2, k3⟩ := cells4 hc
      obtain ⟨y, rfl, rfl, rfl, rfl⟩ := readBin ht
      rw [add_add] at k1 k2 k3
      exact ⟨y, k0, k1, k2, k3⟩)
    refine ⟨some a, len, cap, z, rfl, hl, hm, fun i hi => ?_⟩
    have h0 : ∃ v0, w.cell? a = some v0 := ⟨_, by have := (hz 0 (by omega)).1; simpa [Addr.add] using this⟩
    obtain ⟨k0, k1, k2, k3⟩ := hz i hi
    obtain ⟨b, o, rfl, hb', e0⟩ := addrOf k0 h0
    rw [Go.WideShapes.add_plain] at k1 k2 k3
    exact ⟨b, o, rfl, hb', e0, by rw [Nat.add_assoc]; exact k1, by rw [Nat.add_assoc]; exact k2, by rw [Nat.add_assoc]; exact k3⟩
theorem openPlan {r : Reach} {b0 : Nat} {v : Value} {d : DataW H} {ps : List MemPlace} (hv : Value.okWide Try.prog w r b0 25 v) (h : DataW.Trod enc Try.prog w 0 spare held 25 v d ps) : ∃ p : Pl, v = p.val ∧ p.At w := by
  obtain ⟨c0, c1, y0, y1, m, rfl, rfl, rfl, hy0, hy1⟩ := open_agg2 Try.underlying25 (by kernel_rfl) cellsPlan hv h
  obtain ⟨a, n, c, z, e0, h1, h2, h3⟩ := readBins hy0
  obtain ⟨rr, e1, hr⟩ := readInts hy1
  simp only [List.cons.injEq, and_true] at e0 e1
  subst e0 e1
  exact ⟨⟨a, n, c, z, rr.a, rr.n, rr.c, rr.z⟩, rfl, h1, h2, h3, hr.le, hr.cap, hr.ints⟩
end
end Go.Proofs.Ytbcacebifpagpad
namespace Go.Proofs.Ytbcacebifpagpad
open Go.ChangeShapes Go.WideShapes Go.ChangeAt Go.RowKit Go.Joins Go.Deep
set_option linter.unusedVariables false
set_option maxRecDepth 100000
namespace HoldsFrames
theorem own : ownKnob Try.prog.godebug = none := by kernel_rfl
theorem laidOut : laidOutB Try.prog = true := by kernel_rfl
theorem cellsInt : Try.prog.cellsOf 3 = 1 := by kernel_rfl
theorem cellsHold : Try.prog.cellsOf 76 = 4 := by kernel_rfl
section
variable {H : Type} {enc : TypeId × Value → H} {w : World} {held : Bool} {spare : Nat → Bool}
theorem addrOf {a : Addr} {i : Nat} {v : Value} (h : w.cell? (a.add i) = some v) (h0 : ∃ v0, w.cell? a = some v0) : ∃ b o, a = ⟨b, o, none⟩ ∧ b < w.heap.size ∧ w.cell? ⟨b, o + i, none⟩ = some v := by
  obtain ⟨b, off, spot⟩ := a
  obtain ⟨v0, h0⟩ := h0
  have hspot : spot = none := World.cell?_spot h0
  subst hspot
  refine ⟨b, off, rfl, World.block_lt_of_cell? w _ h0, ?_⟩
  rw [← Go.WideShapes.add_plain]
  exact h
theorem cells4 {base : Nat} {a : Addr} {cs : List Value} (h : w.cells? base a 4 = some cs) : ∃ c0 c1 c2 c3, cs = [c0, c1, c2, c3] ∧ w.cell? a = some c0 ∧ w.cell? (a.add 1) = some c1 ∧ w.cell? (a.add 2) = some c2 ∧ w.cell? (a.add 3) = some c3 := by
  obtain ⟨_, hlen, hc⟩ := World.cells?_some h
  match cs, hlen with
  | [c0, c1, c2, c3], _ =>
    refine ⟨c0, c1, c2, c3, rfl, ?_, ?_, ?_, ?_⟩
    · simpa [Addr.add] using hc 0 (by decide)
    · simpa using hc 1 (by decide)
    · simpa using hc 2 (by decide)
    · simpa using hc 3 (by decide)
theorem readHold {fuel : Nat} {c0 c1 c2 c3 : Value} {x : DataW H × List MemPlace} (h : DataW.trod enc Try.prog w 0 spare held fuel 76 [c0, c1, c2, c3] = some x) : ∃ y : Hd, c0 = .int .i64 y.o ∧ c1 = .int .i64 y.l ∧ c2 = .int .i64 y.b ∧ c3 = .int .i64 y.n := by
  obtain ⟨y0, y1, y2, y3, n, hx, hl, h0, h1, h2, h3⟩ := trod_struct4 Try.underlying76 h
  simp only [cellsInt, List.drop_succ_cons, List.drop_zero, List.take_succ_cons, List.take_zero] at h0 h1 h2 h3
  obtain ⟨n0, e0, _⟩ := DataW.trod_int Try.underlying3 h0
  obtain ⟨n1, e1, _⟩ := DataW.trod_int Try.underlying3 h1
  obtain ⟨n2, e2, _⟩ := DataW.trod_int Try.underlying3 h2
  obtain ⟨n3, e3, _⟩ := DataW.trod_int Try.underlying3 h3
  simp only [List.cons.injEq, and_true] at e0 e1 e2 e3
  exact ⟨⟨n0, n1, n2, n3⟩, e0, e1, e2, e3⟩
theorem readHolds {fuel : Nat} {cs : List Value} {x : DataW H × List MemPlace} (h : DataW.trod enc Try.prog w 0 spare held fuel 28 cs = some x) : ∃ s : Hs, cs = [s.val] ∧ s.At w := by
  rcases open_slice Try.underlying28 h with ⟨rfl, _⟩ | ⟨a, len, cap, m, n, D, Pl, rfl, hb, hl, hm, hmm, _, hx⟩
  · exact ⟨⟨none, 0, 0, fun _ => ⟨0, 0, 0, 0⟩⟩, rfl, Nat.le_refl _, Nat.zero_le _, fun i hi => absurd hi (Nat.not_lt_zero _), fun _ => rfl⟩
  · have hlm : len ≤ m := by rw [hmm]; split <;> omega
    rw [cellsHold] at hx
    haveI : Inhabited Hd := ⟨⟨0, 0, 0, 0⟩⟩
    obtain ⟨z, hz⟩ := choose_lt (α := Hd) (n := len) (p := fun i y => w.cell? (a.add (i * 4)) = some (.int .i64 y.o) ∧ w.cell? (a.add (i * 4 + 1)) = some (.int .i64 y.l) ∧ w.cell? (a.add (i * 4 + 2)) = some (.int .i64 y.b) ∧ w.cell? (a.add (i * 4 + 3)) = some (.int .i64 y.n)) (fun i hi => by
      obtain ⟨cs', hc, ht⟩ := hx i (by omega)
      obtain ⟨c0, c1, c2, c3, rfl, k0, k1, k2, k3⟩ := cells4 hc
      obtain ⟨y, rfl, rfl, rfl, rfl⟩ := readHold ht
      rw [add_add] at k1 k2 k3
      exact ⟨y, k0, k1, k2, k3⟩)
    refine ⟨⟨some a, len, cap, z⟩, rfl, hl, hm, fun i hi => ?_, fun h => by cases h⟩
    have hi' : i < len := hi
    have h0 : ∃ v0, w.cell? a = some v0 := ⟨_, by have := (hz 0 (by omega)).1; simpa [Addr.add] using this⟩
    obtain ⟨k0, k1, k2, k3⟩ := hz i hi'
    obtain ⟨b, o, rfl, hb', e0⟩ := addrOf k0 h0
    rw [Go.WideShapes.add_plain] at k1 k2 k3
    exact ⟨b, o, rfl, hb', e0, by rw [Nat.add_assoc]; exact k1, by rw [Nat.add_assoc]; exact k2, by rw [Nat.add_assoc]; exact k3⟩
end
end HoldsFrames
end Go.Proofs.Ytbcacebifpagpad
namespace Go.Proofs.Ytbcacebifpagpad
open Go.ChangeShapes Go.WideShapes Go.ChangeAt Go.RowKit Go.Joins Go.Deep
set_option linter.unusedVariables false
set_option maxRecDepth 100000
theorem cellsLine : Try.prog.cellsOf 50 = 4 := by kernel_rfl
theorem cellsMove : Try.prog.cellsOf 66 = 4 := by kernel_rfl
theorem cellsOrder : Try.prog.cellsOf 48 = 2 := by kernel_rfl
theorem cellsState : Try.prog.cellsOf 31 = 7 := by kernel_rfl
theorem cellsLines : Try.prog.cellsOf 32 = 1 := by kernel_rfl
theorem cellsMoves : Try.prog.cellsOf 29 = 1 := by kernel_rfl
theorem cellsOrders : Try.prog.cellsOf 27 = 1 := by kernel_rfl
theorem cellsHolds : Try.prog.cellsOf 28 = 1 := by kernel_rfl
theorem cellsRows : Try.prog.cellsOf 26 = 1 := by kernel_rfl
section
variable {H : Type} {enc : TypeId × Value → H} {w : World} {held : Bool} {spare : Nat → Bool}
theorem readLine {fuel : Nat} {c0 c1 c2 c3 : Value} {x : DataW H × List MemPlace} (h : DataW.trod enc Try.prog w 0 spare held fuel 50 [c0, c1, c2, c3] = some x) : ∃ y : Hd, c0 = .int .i64 y.o ∧ c1 = .int .i64 y.l ∧ c2 = .int .i64 y.b ∧ c3 = .int .i64 y.n := by
  obtain ⟨y0, y1, y2, y3, n, hx, hl, h0, h1, h2, h3⟩ := trod_struct4 Try.underlying50 h
  simp only [cellsInt, List.drop_succ_cons, List.drop_zero, List.take_succ_cons, List.take_zero] at h0 h1 h2 h3
  obtain ⟨n0, e0, _⟩ := DataW.trod_int Try.underlying3 h0
  obtain ⟨n1, e1, _⟩ := DataW.trod_int Try.underlying3 h1
  obtain ⟨n2, e2, _⟩ := DataW.trod_int Try.underlying3 h2
  obtain ⟨n3, e3, _⟩ := DataW.trod_int Try.underlying3 h3
  simp only [List.cons.injEq, and_true] at e0 e1 e2 e3
  exact ⟨⟨n0, n1, n2, n3⟩, e0, e1, e2, e3⟩
theorem readLines {fuel : Nat} {cs : List Value} {x : DataW H × List MemPlace} (h : DataW.trod enc Try.prog w 0 spare held fuel 32 cs = some x) : ∃ s : Hs, cs = [s.val] ∧ s.At w := by
  rcases open_slice Try.underlying32 h with ⟨rfl, _⟩ | ⟨a, len, cap, m, n, D, Pl, rfl, hb, hl, hm, hmm, _, hx⟩
  · exact ⟨⟨none, 0, 0, fun _ => ⟨0, 0, 0, 0⟩⟩, rfl, Nat.le_refl _, Nat.zero_le _, fun i hi => absurd hi (Nat.not_lt_zero _), fun _ => rfl⟩
  · have hlm : len ≤ m := by rw [hmm]; split <;> omega
    rw [cellsLine] at hx
    haveI : Inhabited Hd := ⟨⟨0, 0, 0, 0⟩⟩
    obtain ⟨z, hz⟩ := choose_lt (α := Hd) (n := len) (p := fun i y => w.cell? (a.add (i * 4)) = some (.int .i64 y.o) ∧ w.cell? (a.add (i * 4 + 1)) = some (.int .i64 y.l) ∧ w.cell? (a.add (i * 4 + 2)) = some (.int .i64 y.b) ∧ w.cell? (a.add (i * 4 + 3)) = some (.int .i64 y.n)) (fun i hi => by
      obtain ⟨cs', hc, ht⟩ := hx i (by omega)
      obtain ⟨c0, c1, c2, c3, rfl, k0, k1, k2, k3⟩ := cells4 hc
      obtain ⟨y, rfl, rfl, rfl, rfl⟩ := readLine ht
      rw [add_add] at k1 k2 k3
      exact ⟨y, k0, k1, k2, k3⟩)
    refine ⟨⟨some a, len, cap, z⟩, rfl, hl, hm, fun i hi => ?_, fun h => by cases h⟩
    have hi' : i < len := hi
    have h0 : ∃ v0, w.cell? a = some v0 := ⟨_, by have := (hz 0 (by omega)).1; simpa [Addr.add] using this⟩
    obtain ⟨k0, k1, k2, k3⟩ := hz i hi'
    obtain ⟨b, o, rfl, hb', e0⟩ := addrOf k0 h0
    rw [Go.WideShapes.add_plain] at k1 k2 k3
    exact ⟨b, o, rfl, hb', e0, by rw [Nat.add_assoc]; exact k1, by rw [Nat.add_assoc]; exact k2, by rw [Nat.add_assoc]; exact k3⟩
theorem readMove {fuel : Nat} {c0 c1 c2 c3 : Value} {x : DataW H × List MemPlace} (h : DataW.trod enc Try.prog w 0 spare held fuel 66 [c0, c1, c2, c3] = some x) : ∃ y : Hd, c0 = .int .i64 y.o ∧ c1 = .int .i64 y.l ∧ c2 = .int .i64 y.b ∧ c3 = .int .i64 y.n := by
  obtain ⟨y0, y1, y2, y3, n, hx, hl, h0, h1, h2, h3⟩ := trod_struct4 Try.underlying66 h
  simp only [cellsInt, List.drop_succ_cons, List.drop_zero, List.take_succ_cons, List.take_zero] at h0 h1 h2 h3
  obtain ⟨n0, e0, _⟩ := DataW.trod_int Try.underlying3 h0
  obtain ⟨n1, e1, _⟩ := DataW.trod_int Try.underlying3 h1
  obtain ⟨n2, e2, _⟩ := DataW.trod_int Try.underlying3 h2
  obtain ⟨n3, e3, _⟩ := DataW.trod_int Try.underlying3 h3
  simp only [List.cons.injEq, and_true] at e0 e1 e2 e3
  exact ⟨⟨n0, n1, n2, n3⟩, e0, e1, e2, e3⟩
theorem readMoves {fuel : Nat} {cs : List Value} {x : DataW H × List MemPlace} (h : DataW.trod enc Try.prog w 0 spare held fuel 29 cs = some x) : ∃ s : Hs, cs = [s.val] ∧ s.At w := by
  rcases open_slice Try.underlying29 h with ⟨rfl, _⟩ | ⟨a, len, cap, m, n, D, Pl, rfl, hb, hl, hm, hmm, _, hx⟩
  · exact ⟨⟨none, 0, 0, fun _ => ⟨0, 0, 0, 0⟩⟩, rfl, Nat.le_refl _, Nat.zero_le _, fun i hi => absurd hi (Nat.not_lt_zero _), fun _ => rfl⟩
  · have hlm : len ≤ m := by rw [hmm]; split <;> omega
    rw [cellsMove] at hx
    haveI : Inhabited Hd := ⟨⟨0, 0, 0, 0⟩⟩
    obtain ⟨z, hz⟩ := choose_lt (α := Hd) (n := len) (p := fun i y => w.cell? (a.add (i * 4)) = some (.int .i64 y.o) ∧ w.cell? (a.add (i * 4 + 1)) = some (.int .i64 y.l) ∧ w.cell? (a.add (i * 4 + 2)) = some (.int .i64 y.b) ∧ w.cell? (a.add (i * 4 + 3)) = some (.int .i64 y.n)) (fun i hi => by
      obtain ⟨cs', hc, ht⟩ := hx i (by omega)
      obtain ⟨c0, c1, c2, c3, rfl, k0, k1, k2, k3⟩ := cells4 hc
      obtain ⟨y, rfl, rfl, rfl, rfl⟩ := readMove ht
      rw [add_add] at k1 k2 k3
      exact ⟨y, k0, k1, k2, k3⟩)
    refine ⟨⟨some a, len, cap, z⟩, rfl, hl, hm, fun i hi => ?_, fun h => by cases h⟩
    have hi' : i < len := hi
    have h0 : ∃ v0, w.cell? a = some v0 := ⟨_, by have := (hz 0 (by omega)).1; simpa [Addr.add] using this⟩
    obtain ⟨k0, k1, k2, k3⟩ := hz i hi'
    obtain ⟨b, o, rfl, hb', e0⟩ := addrOf k0 h0
    rw [Go.WideShapes.add_plain] at k1 k2 k3
    exact ⟨b, o, rfl, hb', e0, by rw [Nat.add_assoc]; exact k1, by rw [Nat.add_assoc]; exact k2, by rw [Nat.add_assoc]; exact k3⟩
theorem cells2 {base : Nat} {a : Addr} {cs : List Value} (h : w.cells? base a 2 = some cs) : ∃ c0 c1, cs = [c0, c1] ∧ w.cell? a = some c0 ∧ w.cell? (a.add 1) = some c1 := by
  obtain ⟨_, hlen, hc⟩ := World.cells?_some h
  match cs, hlen with
  | [c0, c1], _ =>
    refine ⟨c0, c1, rfl, ?_, ?_⟩
    · simpa [Addr.add] using hc 0 (by decide)
    · simpa using hc 1 (by decide)
theorem readOrder {fuel : Nat} {c0 c1 : Value} {x : DataW H × List MemPlace} (h : DataW.trod enc Try.prog w 0 spare held fuel 48 [c0, c1] = some x) : ∃ y : Od, c0 = .int .i64 y.k ∧ c1 = .slice y.ls.a y.ls.n y.ls.c ∧ y.ls.At w := by
  obtain ⟨y0, y1, n, hx, hl, h0, h1⟩ := trod_struct2 Try.underlying48 h
  simp only [cellsInt, cellsLines, List.drop_succ_cons, List.drop_zero, List.take_succ_cons, List.take_zero] at h0 h1
  obtain ⟨n0, e0, _⟩ := DataW.trod_int Try.underlying3 h0
  obtain ⟨s, e1, hs⟩ := readLines h1
  simp only [List.cons.injEq, and_true] at e0 e1
  exact ⟨⟨n0, s⟩, e0, e1, hs⟩
theorem readOrders {fuel : Nat} {cs : List Value} {x : DataW H × List MemPlace} (h : DataW.trod enc Try.prog w 0 spare held fuel 27 cs = some x) : ∃ s : Go.Proofs.Ytbcacebifpagpad.Os, cs = [s.val] ∧ s.At w := by
  rcases open_slice Try.underlying27 h with ⟨rfl, _⟩ | ⟨a, len, cap, m, n, D, Pl, rfl, hb, hl, hm, hmm, _, hx⟩
  · exact ⟨⟨none, 0, 0, fun _ => ⟨0, ⟨none, 0, 0, fun _ => ⟨0, 0, 0, 0⟩⟩⟩⟩, rfl, Nat.le_refl _, Nat.zero_le _, fun i hi => absurd hi (Nat.not_lt_zero _)⟩
  · have hlm : len ≤ m := by rw [hmm]; split <;> omega
    rw [cellsOrder] at hx
    haveI : Inhabited Od := ⟨⟨0, ⟨none, 0, 0, fun _ => ⟨0, 0, 0, 0⟩⟩⟩⟩
    obtain ⟨z, hz⟩ := choose_lt (α := Od) (n := len) (p := fun i y => w.cell? (a.add (i * 2)) = some (.int .i64 y.k) ∧ w.cell? (a.add (i * 2 + 1)) = some (.slice y.ls.a y.ls.n y.ls.c) ∧ y.ls.At w) (fun i hi => by
      obtain ⟨cs', hc, ht⟩ := hx i (by omega)
      obtain ⟨c0, c1, rfl, k0, k1⟩ := cells2 hc
      obtain ⟨y, rfl, rfl, hy⟩ := readOrder ht
      rw [add_add] at k1
      exact ⟨y, k0, k1, hy⟩)
    refine ⟨⟨some a, len, cap, z⟩, rfl, hl, hm, fun i hi => ?_⟩
    have hi' : i < len := hi
    have h0 : ∃ v0, w.cell? a = some v0 := ⟨_, by have := (hz 0 (by omega)).1; simpa [Addr.add] using this⟩
    obtain ⟨k0, k1, hy⟩ := hz i hi'
    obtain ⟨b, o, rfl, hb', e0⟩ := addrOf k0 h0
    rw [Go.WideShapes.add_plain] at k1
    exact ⟨b, o, rfl, hb', e0, by rw [Nat.add_assoc]; exact k1, hy⟩
theorem array7 {α : Type} {cs : Array α} (h : cs.size = 7) : ∃ c0 c1 c2 c3 c4 c5 c6, cs = #[c0, c1, c2, c3, c4, c5, c6] := by
  obtain ⟨l⟩ := cs
  match l, h with
  | [c0, c1, c2, c3, c4, c5, c6], _ => exact ⟨c0, c1, c2, c3, c4, c5, c6, rfl⟩
theorem openState {r : Reach} {b0 : Nat} {v : Value} {d : DataW H} {ps : List MemPlace} (hv : Value.okWide Try.prog w r b0 31 v) (h : DataW.Trod enc Try.prog w 0 spare held 31 v d ps) : ∃ s : St, v = s.val ∧ s.At w := by
  obtain ⟨cs, rfl, hsz⟩ := okWide_struct Try.underlying31 hv
  obtain ⟨c0, c1, c2, c3, c4, c5, c6, rfl⟩ := array7 (hsz.trans cellsState)
  obtain ⟨fuel, hf⟩ := h
  obtain ⟨xs, n, _, hx, hl, hlen, hg⟩ := DataW.trod_struct Try.underlying31 hf
  match xs, hlen with
  | [y0, y1, y2, y3, y4, y5, y6], _ =>
    have k0 := hg 0 _ rfl
    have k1 := hg 1 _ rfl
    have k2 := hg 2 _ rfl
    have k3 := hg 3 _ rfl
    have k4 := hg 4 _ rfl
    have k5 := hg 5 _ rfl
    have k6 := hg 6 _ rfl
    simp [cellsRows, cellsOrders, cellsHolds, cellsMoves, cellsInts, Value.cells] at k0 k1 k2 k3 k4 k5 k6
    obtain ⟨on, e0, h0⟩ := readRows k0
    obtain ⟨os, e1, h1⟩ := readOrders k1
    obtain ⟨hs, e2, h2⟩ := HoldsFrames.readHolds k2
    obtain ⟨ms, e3, h3⟩ := readMoves k3
    obtain ⟨si, e4, h4⟩ := readInts k4
    obtain ⟨so, e5, h5⟩ := readInts k5
    obtain ⟨sf, e6, h6⟩ := readInts k6
    simp only [List.cons.injEq, and_true] at e0 e1 e2 e3 e4 e5 e6
    subst e0 e1 e2 e3 e4 e5 e6
    exact ⟨⟨on, os, hs, ms, si, so, sf⟩, rfl, h0, h1, h2, h3, h4, h5, h6⟩
end
end Go.Proofs.Ytbcacebifpagpad

/- What the document reckons of states: coming, AvailOf, FreeOf. -/
import Derived.Test.YtjiodlbblmbibacRS1
import Derived.Test.YtjiodlbblmbibacSW9
import Derived.Test.YtjiodlbblmbibacM2
namespace Go.Proofs.Ytjiodlbblmbibac
open Go.RowKit Go.Shelf Go.Sort
set_option linter.unusedVariables false

def comingTo (s : St) (b g : Int) : Nat → Int
  | 0 => 0
  | k + 1 => comingTo s b g k + (if (s.ms.z k).b = b ∧ (s.ms.z k).o = g then (s.ms.z k).n else 0)
theorem comingTo_hit {s : St} {b g : Int} {k : Nat} (h1 : (s.ms.z k).b = b) (h2 : (s.ms.z k).o = g) : comingTo s b g (k + 1) = comingTo s b g k + (s.ms.z k).n := by simp only [comingTo]; rw [if_pos ⟨h1, h2⟩]
theorem comingTo_miss {s : St} {b g : Int} {k : Nat} (h : ¬ ((s.ms.z k).b = b ∧ (s.ms.z k).o = g)) : comingTo s b g (k + 1) = comingTo s b g k := by simp only [comingTo]; rw [if_neg h, Int.add_zero]
theorem comingTo_bd {s : St} {b g : Int} : ∀ {n : Nat}, (∀ j, j < n → 1 ≤ (s.ms.z j).n ∧ (s.ms.z j).n ≤ 200) → 0 ≤ comingTo s b g n ∧ comingTo s b g n ≤ 200 * n
  | 0, _ => by simp [comingTo]
  | n + 1, h => by
    have ih := comingTo_bd (b := b) (g := g) (n := n) fun j hj => h j (by omega)
    have := h n (by omega)
    simp only [comingTo]
    split <;> omega
theorem usedTo_put2 {z z' zs : Nat → Int} {m : Nat} {d : Int} : ∀ {n : Nat}, (∀ j, j < n → z' j = z j + if j = m then d else 0) → usedTo z' zs n = usedTo z zs n + if m < n then d * zs m else 0
  | 0, _ => by simp [usedTo]
  | n + 1, h => by
    simp only [usedTo]
    rw [usedTo_put2 (m := m) (d := d) (n := n) fun j hj => h j (by omega), h n (by omega)]
    by_cases h1 : n = m
    · subst h1
      rw [if_pos rfl, if_neg (Nat.lt_irrefl n), if_pos (by omega), Int.add_mul]
      omega
    · rw [if_neg h1, Int.add_zero]
      by_cases h2 : m < n
      · rw [if_pos h2, if_pos (by omega)]; omega
      · rw [if_neg h2, if_neg (by omega)]; omega
theorem come_eq {p : Pl} {s : St} (f : Formed p s) (b : Int) : ∀ n, n ≤ s.ms.n → usedTo (fun g => comingTo s b g n) p.zs p.ns = takeTo p s b n
  | 0, _ => usedTo_zero' fun j hj => rfl
  | n + 1, hn => by
    have hm := badMove_no (f.move n (by omega))
    by_cases hb : (s.ms.z n).b = b
    · rw [takeTo_hit hb, ← come_eq f b n (by omega), usedTo_put2 (z := fun g => comingTo s b g n) (m := (s.ms.z n).o.toNat) (d := (s.ms.z n).n) fun j hj => ?_, if_pos (by omega)]
      by_cases hj2 : j = (s.ms.z n).o.toNat
      · rw [if_pos hj2]; exact comingTo_hit hb (by omega)
      · rw [if_neg hj2, Int.add_zero]; exact comingTo_miss (fun h => hj2 (by omega))
    · rw [takeTo_miss hb, ← come_eq f b n (by omega)]
      exact usedTo_congr fun j hj => comingTo_miss (fun h => hb h.1)
where
  usedTo_zero' {z zs : Nat → Int} : ∀ {n : Nat}, (∀ j, j < n → z j = 0) → usedTo z zs n = 0
    | 0, _ => rfl
    | n + 1, h => by simp only [usedTo]; rw [usedTo_zero' (n := n) fun j hj => h j (by omega), h n (by omega)]; simp
theorem mul_bd2 {a b : Int} (ha : 0 ≤ a ∧ a ≤ 1600) (hb : 1 ≤ b ∧ b ≤ 9) : 0 ≤ a * b ∧ a * b ≤ 14400 := by
  obtain ⟨a0, a1⟩ := ha
  have : b = 1 ∨ b = 2 ∨ b = 3 ∨ b = 4 ∨ b = 5 ∨ b = 6 ∨ b = 7 ∨ b = 8 ∨ b = 9 := by omega
  rcases this with rfl | rfl | rfl | rfl | rfl | rfl | rfl | rfl | rfl <;> omega
theorem usedTo_bd2 {z zs : Nat → Int} {n : Nat} (h : ∀ j, j < n → (0 ≤ z j ∧ z j ≤ 1600) ∧ 1 ≤ zs j ∧ zs j ≤ 9) : ∀ k, k ≤ n → 0 ≤ usedTo z zs k ∧ usedTo z zs k ≤ 14400 * k
  | 0, _ => by simp [usedTo]
  | k + 1, hk => by
    have ih := usedTo_bd2 h k (by omega)
    have := mul_bd2 (h k (by omega)).1 (h k (by omega)).2
    simp only [usedTo]
    omega

set_option maxHeartbeats 4000000 in
theorem coming_any (p : Pl) (s : St) (bin good : Nat) (w : World) (hs : s.At w) (f : Formed p s) :
    Calls Try.prog 60 #[s.val, .int .i64 bin, .int .i64 good] w fun e w' => e = .returned (.int .i64 (comingTo s bin good s.ms.n)) ∧ Below w.heap.size w w' := by
  obtain ⟨W0, hW0, hWB, hX⟩ : ∃ W0, w.alloc (.cells s.cells 31) = W0 ∧ Below w.heap.size w W0 ∧ Blk W0 w.heap.size 31 7 (fun j => s.cells.getD j default) := ⟨_, rfl, (Below.refl w.heap.size w).alloc (Nat.le_refl _) _, Blk.mk' rfl rfl⟩
  have hs0 := hs.below hWB
  have HC : Hid (∀ wk, Below W0.heap.size W0 wk → s.At wk ∧ wk.cell? ⟨w.heap.size, 3, none⟩ = some (.slice s.ms.a s.ms.n s.ms.c) ∧ w.heap.size < wk.heap.size) :=
    fun wk h => ⟨hs0.below h, (hX.below h).cell (j := 3) (by decide), (hX.below h).lt⟩
  have hmle := hs0.ms.le
  have hmcap := hs0.ms.cap
  unfold maxLen at hmcap
  have m8 := f.ms8
  have MB : Hid (∀ k, k ≤ s.ms.n → 0 ≤ comingTo s bin good k ∧ comingTo s bin good k ≤ 200 * k) := fun k hk => comingTo_bd fun j hj => f.moveN j (by omega)
  have HW : Hid (w.alloc (.cells #[.slice s.on.a s.on.n s.on.c, .slice s.os.a s.os.n s.os.c, .slice s.hs.a s.hs.n s.hs.c, .slice s.ms.a s.ms.n s.ms.c, .slice s.si.a s.si.n s.si.c, .slice s.so.a s.so.n s.so.c, .slice s.sf.a s.sf.n s.sf.c] 31) = W0) := hW0
  simp only [St.val]
  clear hX hW0
  go_enter Try.func60, Try.ntmps60
  go_wp2_with fail
  rw [HW.out]
  go_loopw [7, 8] (fun u i wk => ∃ k : Nat, k ≤ s.ms.n ∧ i = .int .i64 k ∧ u = .int .i64 (comingTo s bin good k) ∧ Below W0.heap.size W0 wk) (fun _ i _ => s.ms.n - (intOf i).toNat)
  case atStart => exact ⟨0, Nat.zero_le _, rfl, by simp [comingTo], Below.refl _ _⟩
  case round =>
    obtain ⟨k, hk, rfl, rfl, hB⟩ := hrel
    have m2 := MB.out k hk
    obtain ⟨hsk, c3, hlt0⟩ := HC.out wr hB
    by_cases hlt2 : k < s.ms.n
    · obtain ⟨b, q, hma, hb, z0, z1, z2, z3⟩ := hsk.ms.hds k hlt2
      have m3 := f.moveN k hlt2
      have H1 : Hid (((s.ms.z k).b = bin ∧ (s.ms.z k).o = good → comingTo s bin good (k + 1) = comingTo s bin good k + (s.ms.z k).n) ∧ (¬ ((s.ms.z k).b = bin ∧ (s.ms.z k).o = good) → comingTo s bin good (k + 1) = comingTo s bin good k)) := ⟨fun h => comingTo_hit h.1 h.2, comingTo_miss⟩
      have q4 : (0 : Int) ≤ (k : Int) := by omega
      rw [hma] at c3
      clear hma hsk
      generalize comingTo s bin good k = U at *
      generalize (s.ms.z k).b = BB at *
      generalize (s.ms.z k).n = NN at *
      generalize (s.ms.z k).o = GD at *
      cases h1 : (BB == (bin : Int))
      · have hm := H1.out.2 (by simp at h1; omega)
        have HM : Hid (comingTo s bin good (k + 1) = U) := hm
        clear hm H1
        go_wp2_with fail
        go_roundw
        case rel => exact ⟨k + 1, by omega, by go_num, by rw [HM.out], hB⟩
        case measure => simp [intOf]; omega
      · cases h2 : (GD == (good : Int))
        · have hm := H1.out.2 (by simp at h2; omega)
          have HM : Hid (comingTo s bin good (k + 1) = U) := hm
          clear hm H1
          go_wp2_with fail
          go_roundw
          case rel => exact ⟨k + 1, by omega, by go_num, by rw [HM.out], hB⟩
          case measure => simp [intOf]; omega
        · have hm := H1.out.1 ⟨by simpa using h1, by simpa using h2⟩
          have HM : Hid (comingTo s bin good (k + 1) = U + NN) := hm
          clear hm H1
          go_wp2_with fail
          go_roundw
          case rel => exact ⟨k + 1, by omega, by go_num, by rw [HM.out], hB⟩
          case measure => simp [intOf]; omega
    · have hkn : k = s.ms.n := by omega
      subst hkn
      go_wp2_with fail
      go_ret
      exact ⟨rfl, hWB.trans (hB.mono hWB.size)⟩

set_option maxHeartbeats 4000000 in
theorem AvailOf_any (p : Pl) (s : St) (bin good : Nat) (w : World) (hs : s.At w) (f : Formed p s) (hbin : bin < p.nb) (hgood : good < p.ns) :
    Calls Try.prog 101 #[s.val, .int .i64 bin, .int .i64 good] w fun e w' => e = .returned (.int .i64 (availZ s bin good)) ∧ Below w.heap.size w w' := by
  obtain ⟨W0, hW0, hWB, hX⟩ : ∃ W0, w.alloc (.cells s.cells 31) = W0 ∧ Below w.heap.size w W0 ∧ Blk W0 w.heap.size 31 7 (fun j => s.cells.getD j default) := ⟨_, rfl, (Below.refl w.heap.size w).alloc (Nat.le_refl _) _, Blk.mk' rfl rfl⟩
  have hs0 := hs.below hWB
  have hon : bin < s.on.n := by rw [f.sh.n]; exact hbin
  obtain ⟨bo, oo, hoa, hbo, y0, hrow⟩ := hs0.on.rows bin hon
  have hrn := f.sh.len bin hon
  have hnum := f.sh.num bin hon good hgood
  obtain ⟨br, orr, hra, hbr, y1⟩ := hrow.ints good (by omega)
  have hrle := hrow.le
  have hrcap := hrow.cap
  have hole := hs0.on.le
  have hocap := hs0.on.cap
  unfold maxLen at hrcap hocap
  rw [hra, hrn] at y0
  rw [hrn] at hrle
  have h72 := f.hs72
  have m8 := f.ms8
  have HB := heldTo_bd (s := s) (b := bin) (g := good) f.holdN
  have MB := fromTo_bd (s := s) (b := bin) (g := good) f.moveN
  have c0 : W0.cell? ⟨w.heap.size, 0, none⟩ = some (.slice s.on.a s.on.n s.on.c) := hX.cell (j := 0) (by decide)
  rw [hoa] at c0
  have HSA : Hid (s.At W0 ∧ s.on.a = some ⟨bo, oo, none⟩) := ⟨hs0, hoa⟩
  have r0 : ∀ d os, (grow (redrawn W0 d) os).cell? ⟨w.heap.size, 0, none⟩ = some (.slice (some ⟨bo, oo, none⟩) s.on.n s.on.c) := fun d os => cell_regrown c0 d os
  have r1 : ∀ d os, (grow (redrawn W0 d) os).cell? ⟨w.heap.size, 1, none⟩ = some (.slice s.os.a s.os.n s.os.c) := fun d os => cell_regrown (hX.cell (j := 1) (by decide)) d os
  have r2 : ∀ d os, (grow (redrawn W0 d) os).cell? ⟨w.heap.size, 2, none⟩ = some (.slice s.hs.a s.hs.n s.hs.c) := fun d os => cell_regrown (hX.cell (j := 2) (by decide)) d os
  have r3 : ∀ d os, (grow (redrawn W0 d) os).cell? ⟨w.heap.size, 3, none⟩ = some (.slice s.ms.a s.ms.n s.ms.c) := fun d os => cell_regrown (hX.cell (j := 3) (by decide)) d os
  have r4 : ∀ d os, (grow (redrawn W0 d) os).cell? ⟨w.heap.size, 4, none⟩ = some (.slice s.si.a s.si.n s.si.c) := fun d os => cell_regrown (hX.cell (j := 4) (by decide)) d os
  have r5 : ∀ d os, (grow (redrawn W0 d) os).cell? ⟨w.heap.size, 5, none⟩ = some (.slice s.so.a s.so.n s.so.c) := fun d os => cell_regrown (hX.cell (j := 5) (by decide)) d os
  have r6 : ∀ d os, (grow (redrawn W0 d) os).cell? ⟨w.heap.size, 6, none⟩ = some (.slice s.sf.a s.sf.n s.sf.c) := fun d os => cell_regrown (hX.cell (j := 6) (by decide)) d os
  have r7 : ∀ d os, (grow (redrawn W0 d) os).cell? ⟨bo, oo + bin, none⟩ = some (.slice (some ⟨br, orr, none⟩) p.ns (s.on.r bin).c) := fun d os => cell_regrown y0 d os
  have r8 : ∀ d os, (grow (redrawn W0 d) os).cell? ⟨br, orr + good, none⟩ = some (.int .i64 ((s.on.r bin).z good)) := fun d os => cell_regrown y1 d os
  have hbd : Hid (∀ wk, s.At wk → Calls Try.prog 121 #[.agg #[.slice (some ⟨bo, oo, none⟩) s.on.n s.on.c, .slice s.os.a s.os.n s.os.c, .slice s.hs.a s.hs.n s.hs.c, .slice s.ms.a s.ms.n s.ms.c, .slice s.si.a s.si.n s.si.c, .slice s.so.a s.so.n s.so.c, .slice s.sf.a s.sf.n s.sf.c], .int .i64 bin, .int .i64 good] wk fun e w' => e = .returned (.int .i64 (heldTo s bin good s.hs.n + fromTo s bin good s.ms.n)) ∧ Below wk.heap.size wk w') := fun wk h => by
    have := bound_any p s bin good wk h f
    rw [St.val, HSA.out.2] at this
    exact this
  have HE : Hid (availZ s bin good = (s.on.r bin).z good - (heldTo s bin good s.hs.n + fromTo s bin good s.ms.n)) := by show availZ s bin good = _; unfold availZ; omega
  have HW : Hid (w.alloc (.cells #[.slice (some ⟨bo, oo, none⟩) s.on.n s.on.c, .slice s.os.a s.os.n s.os.c, .slice s.hs.a s.hs.n s.hs.c, .slice s.ms.a s.ms.n s.ms.c, .slice s.si.a s.si.n s.si.c, .slice s.so.a s.so.n s.so.c, .slice s.sf.a s.sf.n s.sf.c] 31) = W0) := by show _ = W0; rw [← hW0, St.cells, hoa]
  have q1 : (0 : Int) ≤ (bin : Int) := by omega
  have q2 : (0 : Int) ≤ (good : Int) := by omega
  simp only [St.val, hoa]
  clear hX hW0 hrow hrn hoa hra hs0 c0 y0 y1 f hs
  generalize availZ s bin good = AV at *
  have hbs : 0 ≤ heldTo s bin good s.hs.n + fromTo s bin good s.ms.n ∧ heldTo s bin good s.hs.n + fromTo s bin good s.ms.n ≤ 16000 := by omega
  clear HB MB
  generalize heldTo s bin good s.hs.n + fromTo s bin good s.ms.n = BD at *
  generalize (s.on.r bin).z good = ON at *
  generalize (s.on.r bin).c = RC at *
  go_enter Try.func101, Try.ntmps101
  go_wp2_with fail
  rw [HW.out]
  refine wp_region_quiet_below (by kernel_rfl) (by kernel_rfl) ?_
  repeat (go_big_quiet_step ((go_at_call 121; exact Calls.regrown_of (hbd.out _ (HSA.out.1.below (below_regrown _ _ _))))))
  refine wpQuiet_nil ?_
  intro _ hw'
  obtain ⟨⟨dq, osq⟩, hw''⟩ := hw'
  subst hw''
  go_wp2_with fail
  go_ret
  exact ⟨by rw [HE.out]; rfl, hWB.trans ((below_regrown _ _ _).mono hWB.size)⟩

set_option maxHeartbeats 4000000 in
theorem FreeOf_any (p : Pl) (s : St) (bin : Nat) (w : World) (hp : p.At w) (hs : s.At w) (f : Formed p s) (hbin : bin < p.nb) :
    Calls Try.prog 59 #[p.val, s.val, .int .i64 bin] w fun e w' => e = .returned (.int .i64 (freeZ p s bin)) ∧ Below w.heap.size w w' := by
  obtain ⟨W0, hW, hWB, X0⟩ : ∃ W, ((w.alloc (.cells #[.slice p.ab p.nb p.cb, .slice p.sa p.ns p.cs] 25)).alloc (.cells s.cells 31)) = W ∧ Below w.heap.size w W ∧ Boxes W w.heap.size (w.heap.size + 1) p s := ⟨_, rfl, two_below _ _ _, boxes_new w p s _ _⟩
  have HC : Hid (∀ wk, Below W0.heap.size W0 wk → Boxes wk w.heap.size (w.heap.size + 1) p s ∧ p.At wk ∧ s.At wk ∧ Below w.heap.size w wk) := fun wk h => ⟨X0.below h, (hp.below hWB).below h, (hs.below hWB).below h, hWB.trans (h.mono hWB.size)⟩
  have HW : Hid ((w.alloc (.cells #[.slice p.ab p.nb p.cb, .slice p.sa p.ns p.cs] 25)).alloc (.cells #[.slice s.on.a s.on.n s.on.c, .slice s.os.a s.os.n s.os.c, .slice s.hs.a s.hs.n s.hs.c, .slice s.ms.a s.ms.n s.ms.c, .slice s.si.a s.si.n s.si.c, .slice s.so.a s.so.n s.so.c, .slice s.sf.a s.sf.n s.sf.c] 31) = W0) := hW
  have HF : Hid (Formed p s) := f
  have leb := hp.leb
  have capb := hp.capb
  have les := hp.les
  have caps := hp.caps
  unfold maxLen at capb caps
  have ns3 := f.sh.pl.ns3
  have ms8 := f.ms8
  have hon : bin < s.on.n := by rw [f.sh.n]; exact hbin
  have ub := usedTo_bd (z := (s.on.r bin).z) (zs := p.zs) (n := p.ns) (fun j hj => ⟨f.sh.num bin hon j hj, f.sh.pl.sizes j hj⟩) p.ns (Nat.le_refl _)
  have room : 0 ≤ (p.zb bin).room ∧ (p.zb bin).room ≤ 1000 := by
    have := f.sh.pl.bins bin hbin
    simp only [badBin, Bool.or_eq_false_iff, Bool.not_eq_false'] at this
    exact inB_true this.1.1
  have HU : Hid (∀ k, k ≤ p.ns → 0 ≤ usedTo (fun g => comingTo s bin g s.ms.n) p.zs k ∧ usedTo (fun g => comingTo s bin g s.ms.n) p.zs k ≤ 14400 * k) := fun k hk => usedTo_bd2 (n := p.ns) (fun j hj => ⟨by have := comingTo_bd (s := s) (b := bin) (g := j) f.moveN; omega, f.sh.pl.sizes j hj⟩) k hk
  have HE : Hid (freeZ p s bin = (p.zb bin).room - usedTo (s.on.r bin).z p.zs p.ns - usedTo (fun g => comingTo s bin g s.ms.n) p.zs p.ns) := by show freeZ p s bin = _; rw [come_eq f bin s.ms.n (Nat.le_refl _)]; rfl
  have q1 : (0 : Int) ≤ (bin : Int) := by omega
  clear hW X0 hp hs f
  unfold Pl.val St.val
  go_enter Try.func59, Try.ntmps59
  go_wp2_with fail
  rw [HW.out]
  obtain ⟨X, hpk, hsk, hBw⟩ := HC.out W0 (Below.refl _ _)
  obtain ⟨⟨l1, d0, d1⟩, l2, c0, c1, c2, c3, c4, c5, c6⟩ := X
  obtain ⟨bb, bo, hba, hbb, y0, y1, y2, y3⟩ := hpk.bins bin hbin
  have HON : Hid (s.on.At W0 ∧ p.At W0 ∧ p.ab = some ⟨bb, bo, none⟩) := ⟨hsk.on, hpk, hba⟩
  rw [hba] at d0
  have r0 : ∀ d os, (grow (redrawn W0 d) os).cell? ⟨w.heap.size, 0, none⟩ = some (.slice (some ⟨bb, bo, none⟩) p.nb p.cb) := fun d os => cell_regrown d0 d os
  have r1 : ∀ d os, (grow (redrawn W0 d) os).cell? ⟨w.heap.size, 1, none⟩ = some (.slice p.sa p.ns p.cs) := fun d os => cell_regrown d1 d os
  have r2 : ∀ d os, (grow (redrawn W0 d) os).cell? ⟨w.heap.size + 1, 0, none⟩ = some (.slice s.on.a s.on.n s.on.c) := fun d os => cell_regrown c0 d os
  have r3 : ∀ d os, (grow (redrawn W0 d) os).cell? ⟨bb, bo + bin * 4 + 1, none⟩ = some (.int .i64 (p.zb bin).room) := fun d os => cell_regrown y1 d os
  have hub : Hid (∀ wk, p.At wk → s.on.At wk → Calls Try.prog 106 #[.agg #[.slice (some ⟨bb, bo, none⟩) p.nb p.cb, .slice p.sa p.ns p.cs], .slice s.on.a s.on.n s.on.c, .int .i64 bin] wk fun e w' => e = .returned (.int .i64 (usedTo (s.on.r bin).z p.zs p.ns)) ∧ Below wk.heap.size wk w') := fun wk h1 h2 => by
    have := UsedOf_any p s.on bin wk h1 h2 HF.out.sh hon
    rw [Pl.val, HON.out.2.2] at this
    exact this
  clear hba hpk hsk d0 d1 c0 c1 c2 c3 c4 c5 c6 y0 y1 y2 y3 HW
  generalize usedTo (s.on.r bin).z p.zs p.ns = US at *
  generalize (p.zb bin).room = RM at *
  refine wp_region_quiet_below (by kernel_rfl) (by kernel_rfl) ?_
  repeat (go_big_quiet_step ((go_at_call 106; exact Calls.regrown_of (hub.out _ (HON.out.2.1.below (below_regrown _ _ _)) (HON.out.1.below (below_regrown _ _ _))))))
  refine wpQuiet_nil ?_
  intro _ hw'
  obtain ⟨⟨dq, osq⟩, hw''⟩ := hw'
  subst hw''
  have hB := below_regrown W0 dq osq
  clear r0 r1 r2 r3 hub HON hBw l1 l2 hbb
  generalize grow (redrawn W0 dq) osq = wz at *
  go_wp2_with fail
  go_loopw [7, 8] (fun u i wk => ∃ k : Nat, k ≤ p.ns ∧ i = .int .i64 k ∧ u = .int .i64 (RM - US - usedTo (fun g => comingTo s bin g s.ms.n) p.zs k) ∧ Below W0.heap.size W0 wk) (fun _ i _ => p.ns - (intOf i).toNat)
  case atStart => exact ⟨0, Nat.zero_le _, rfl, by simp [usedTo], hB⟩
  case round =>
    clear hB
    obtain ⟨g, hg, rfl, rfl, hB⟩ := hrel
    have ug := HU.out g hg
    obtain ⟨X, hpk, hsk, hBw⟩ := HC.out wr hB
    obtain ⟨⟨l1, d0, d1⟩, l2, c0, c1, c2, c3, c4, c5, c6⟩ := X
    by_cases hlt : g < p.ns
    · obtain ⟨b1, o1, e1, g1, z1⟩ := hpk.sizes g hlt
      have qg : (0 : Int) ≤ (g : Int) := by omega
      have hcb := comingTo_bd (s := s) (b := bin) (g := g) HF.out.moveN
      have hcb2 : 0 ≤ comingTo s bin g s.ms.n ∧ comingTo s bin g s.ms.n ≤ 1600 := by omega
      have hmb := mul_bd2 hcb2 (HF.out.sh.pl.sizes g hlt)
      have HSX : Hid (usedTo (fun g => comingTo s bin g s.ms.n) p.zs (g + 1) = usedTo (fun g => comingTo s bin g s.ms.n) p.zs g + comingTo s bin g s.ms.n * p.zs g) := rfl
      rw [e1] at d1
      have HSA : Hid (s.At wr) := hsk
      have r0 : ∀ d os, (grow (redrawn wr d) os).cell? ⟨w.heap.size + 1, 0, none⟩ = some (.slice s.on.a s.on.n s.on.c) := fun d os => cell_regrown c0 d os
      have r1 : ∀ d os, (grow (redrawn wr d) os).cell? ⟨w.heap.size + 1, 1, none⟩ = some (.slice s.os.a s.os.n s.os.c) := fun d os => cell_regrown c1 d os
      have r2 : ∀ d os, (grow (redrawn wr d) os).cell? ⟨w.heap.size + 1, 2, none⟩ = some (.slice s.hs.a s.hs.n s.hs.c) := fun d os => cell_regrown c2 d os
      have r3 : ∀ d os, (grow (redrawn wr d) os).cell? ⟨w.heap.size + 1, 3, none⟩ = some (.slice s.ms.a s.ms.n s.ms.c) := fun d os => cell_regrown c3 d os
      have r4 : ∀ d os, (grow (redrawn wr d) os).cell? ⟨w.heap.size + 1, 4, none⟩ = some (.slice s.si.a s.si.n s.si.c) := fun d os => cell_regrown c4 d os
      have r5 : ∀ d os, (grow (redrawn wr d) os).cell? ⟨w.heap.size + 1, 5, none⟩ = some (.slice s.so.a s.so.n s.so.c) := fun d os => cell_regrown c5 d os
      have r6 : ∀ d os, (grow (redrawn wr d) os).cell? ⟨w.heap.size + 1, 6, none⟩ = some (.slice s.sf.a s.sf.n s.sf.c) := fun d os => cell_regrown c6 d os
      have r7 : ∀ d os, (grow (redrawn wr d) os).cell? ⟨w.heap.size, 1, none⟩ = some (.slice (some ⟨b1, o1, none⟩) p.ns p.cs) := fun d os => cell_regrown d1 d os
      have r8 : ∀ d os, (grow (redrawn wr d) os).cell? ⟨b1, o1 + g, none⟩ = some (.int .i64 (p.zs g)) := fun d os => cell_regrown z1 d os
      have hco : Hid (∀ wk, s.At wk → Calls Try.prog 60 #[.agg #[.slice s.on.a s.on.n s.on.c, .slice s.os.a s.os.n s.os.c, .slice s.hs.a s.hs.n s.hs.c, .slice s.ms.a s.ms.n s.ms.c, .slice s.si.a s.si.n s.si.c, .slice s.so.a s.so.n s.so.c, .slice s.sf.a s.sf.n s.sf.c], .int .i64 bin, .int .i64 g] wk fun e w' => e = .returned (.int .i64 (comingTo s bin g s.ms.n)) ∧ Below wk.heap.size wk w') := fun wk h => coming_any p s bin g wk h HF.out
      have pz := HF.out.sh.pl.sizes g hlt
      clear e1 hpk hsk d0 c0 c1 c2 c3 c4 c5 c6 z1 hcb
      generalize usedTo (fun g => comingTo s bin g s.ms.n) p.zs g = U0 at *
      generalize comingTo s bin g s.ms.n = CM at *
      generalize p.zs g = PZ at *
      go_wp2_with fail
      refine wp_region_quiet_below (by kernel_rfl) (by kernel_rfl) ?_
      repeat (go_big_quiet_step ((go_at_call 60; exact Calls.regrown_of (hco.out _ (HSA.out.below (below_regrown _ _ _))))))
      refine wpQuiet_nil ?_
      intro _ hw'
      obtain ⟨⟨dq, osq⟩, hw''⟩ := hw'
      subst hw''
      clear r0 r1 r2 r3 r4 r5 r6 r7 r8
      go_wp2_with fail
      go_roundw
      case rel => exact ⟨g + 1, by omega, by go_num, by rw [HSX.out, Int.sub_sub _ U0], hB.trans ((below_regrown _ _ _).mono hB.size)⟩
      case measure => simp [intOf]; omega
    · have hgn : g = p.ns := by omega
      subst hgn
      clear hpk hsk c0 c1 c2 c3 c4 c5 c6
      go_wp2_with fail
      go_ret
      exact ⟨by rw [HE.out]; rfl, hBw⟩

end Go.Proofs.Ytjiodlbblmbibac

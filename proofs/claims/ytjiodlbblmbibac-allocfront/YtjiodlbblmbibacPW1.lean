/- The way: as a list; the document's WayOf. -/
import Derived.Test.YtjiodlbblmbibacW10
namespace Go.Proofs.Ytjiodlbblmbibac
open Go.RowKit Go.Shelf
set_option linter.unusedVariables false

/-- The bins of one kind among the first k, rising. -/
def frL (p : Pl) (f : Bool) (k : Nat) : List Int := ((List.range k).filter (fun i => (p.zb i).front == f)).map Int.ofNat
theorem frL_hit {p : Pl} {f : Bool} {k : Nat} (h : (p.zb k).front = f) : frL p f (k + 1) = frL p f k ++ [(k : Int)] := by simp [frL, List.range_succ, h]
theorem frL_miss {p : Pl} {f : Bool} {k : Nat} (h : ¬ (p.zb k).front = f) : frL p f (k + 1) = frL p f k := by simp [frL, List.range_succ, h]
theorem frL_len (p : Pl) (f : Bool) (k : Nat) : (frL p f k).length ≤ k := by
  unfold frL
  rw [List.length_map]
  exact Nat.le_trans (List.length_filter_le _ _) (by simp)
def wayL (p : Pl) : List Int := frL p true p.nb ++ frL p false p.nb

/-- Ints in a row that is owned, as a row. -/
theorem Rw.ofOwns {w : World} {base : Nat} {v : Value} {xs : List Int} (h : w.ownsRow base 3 1 v xs.length (xs.map (Value.int .i64))) : ∃ r : Rw, v = r.val ∧ r.At w ∧ r.n = xs.length ∧ ∀ j, j < r.n → r.z j = xs.getD j 0 := by
  by_cases hv : v = .slice none 0 0
  · subst hv
    have h0 : xs.length = 0 := by
      rcases h.2 with ⟨_, h0⟩ | ⟨g2, cap2, cur2, e, _⟩
      · exact h0
      · cases e
    exact ⟨⟨none, 0, 0, fun _ => 0⟩, rfl, ⟨Nat.le_refl _, Nat.zero_le _, fun i hi => absurd hi (Nat.not_lt_zero _)⟩, h0.symm, fun j hj => absurd hj (Nat.not_lt_zero _)⟩
  · obtain ⟨g, c, rfl, h1, h2, h3, h4⟩ := Blk.ofOwns h hv
    rw [Nat.mul_one] at h4
    refine ⟨⟨some ⟨g, 0, none⟩, xs.length, c, fun j => xs.getD j 0⟩, rfl, ⟨h1, h2, fun i hi => ?_⟩, rfl, fun j _ => rfl⟩
    have hi' : i < xs.length := hi
    refine ⟨g, 0, rfl, h4.lt, ?_⟩
    have := h4.cell (j := i) hi'
    rw [Nat.zero_add, this]
    simp [List.getD, hi']

set_option maxRecDepth 100000 in
set_option maxHeartbeats 2000000 in
theorem WayOfOwn_any (p : Pl) (w : World) (hp : p.At w) (hn : p.nb ≤ 6) :
    Calls Try.prog 100 #[p.val] w fun e w' => ∃ v, e = .returned v ∧ w'.ownsRow w.heap.size 3 1 v (wayL p).length ((wayL p).map (Value.int .i64)) ∧ Below w.heap.size w w' := by
  have leb := hp.leb
  have capb := hp.capb
  unfold maxLen at capb
  have F : ∃ W0, w.alloc (.cells #[.slice p.ab p.nb p.cb, .slice p.sa p.ns p.cs] 25) = W0 ∧ Below w.heap.size w W0 ∧ W0.heap.size = w.heap.size + 1 ∧ ∀ w1, Below W0.heap.size W0 w1 → w1.cell? ⟨w.heap.size, 0, none⟩ = some (.slice p.ab p.nb p.cb) ∧ w.heap.size < w1.heap.size :=
    ⟨_, rfl, (Below.refl w.heap.size w).alloc (Nat.le_refl _) _, by simp, fun w1 h => ⟨(h.cell (p := ⟨w.heap.size, 0, none⟩) (by simp)).trans (by simp), by have := h.size; simp at this; omega⟩⟩
  obtain ⟨W0, hW, hB0, hsz0, hcell⟩ := F
  have HW : Hid (w.alloc (.cells #[.slice p.ab p.nb p.cb, .slice p.sa p.ns p.cs] 25) = W0) := hW
  have HC : Hid (∀ w1, Below W0.heap.size W0 w1 → w1.cell? ⟨w.heap.size, 0, none⟩ = some (.slice p.ab p.nb p.cb) ∧ w.heap.size < w1.heap.size) := hcell
  have HP : Hid (∀ w1, Below W0.heap.size W0 w1 → p.At w1) := fun w1 h => (hp.below hB0).below h
  have HZ : Hid (W0.heap.size = w.heap.size + 1) := hsz0
  clear hW hcell hsz0
  obtain ⟨i1, hj, hy0, hy1, hy2⟩ := info_parts infoInt
  simp only [Pl.val]
  go_enter Try.func100, Try.ntmps100
  go_wp2_with fail
  rw [HW.out]
  go_loopw [3, 4] (fun v i wk => ∃ k : Nat, k ≤ p.nb ∧ i = .int .i64 k ∧ wk.ownsRow W0.heap.size 3 1 v (frL p true k).length ((frL p true k).map (Value.int .i64)) ∧ Below W0.heap.size W0 wk) (fun _ i _ => p.nb - (intOf i).toNat)
  case atStart => exact ⟨0, Nat.zero_le _, rfl, World.ownsRow_nil _ _ _ _, Below.refl _ _⟩
  case round =>
    obtain ⟨k, hk, rfl, ho, hB⟩ := hrel
    obtain ⟨c0, hlt0⟩ := HC.out _ hB
    have HO : Hid (wr.ownsRow W0.heap.size 3 1 u3 (frL p true k).length ((frL p true k).map (Value.int .i64))) := ho
    clear ho
    by_cases hlt : k < p.nb
    · obtain ⟨b, o, hab, hb, z0, z1, z2, z3⟩ := (HP.out _ hB).bins k hlt
      rw [hab] at c0
      clear hab
      have m1 : (0 : Int) ≤ (k : Int) := by omega
      cases hf : (p.zb k).front
      · rw [hf] at z0
        go_wp2_with fail
        go_roundw
        case rel => exact ⟨k + 1, by omega, by go_num, by rw [frL_miss (by rw [hf]; decide)]; exact HO.out, hB⟩
        case measure => simp [intOf]; omega
      · rw [hf] at z0
        have hfl := frL_len p true k
        go_wp2_with (at_builtin; refine wpList_append_own _ rfl (.tmp 19) (.tmp 21) 23 rfl W0.heap.size 3 i1 (.int .i64 0) 1 8 Try.underlying23 hj hy0 hy1 hy2 rfl (by decide) _ _ _ rfl (HO.out.alloc _) ⟨wr.heap.size, 0, none⟩ 1 1 [.int .i64 k] rfl rfl ?c1 ?c2 ?c3 ?c4 ?c5 ?_)
        case c1 =>
          intro j u hj
          match j, hj with
          | 0, hj => simp at hj; subst hj; simp [Addr.add]
        case c2 => intro u hu; simp at hu; subst hu; rfl
        case c3 => unfold maxLen; omega
        case c4 => omega
        case c5 => have := hB.size; simp; omega
        intro v2 w2 hown2 hgrow2 hnil2
        have hlt2 := HO.out.lt
        have hB2 : Below W0.heap.size W0 w2 := (hB.alloc (by have := hB.size; omega) _).grown hgrow2 (by have := hB.size; simp; omega) (fun q hq => (hlt2 q hq).1)
        have HN : Hid (w2.ownsRow W0.heap.size 3 1 v2 (frL p true (k + 1)).length ((frL p true (k + 1)).map (Value.int .i64))) := by
          show w2.ownsRow W0.heap.size 3 1 v2 (frL p true (k + 1)).length ((frL p true (k + 1)).map (Value.int .i64))
          rw [frL_hit hf]
          simpa using hown2
        clear hown2 hgrow2 hnil2 hlt2
        go_wp2_with fail
        go_roundw
        case rel => exact ⟨k + 1, by omega, by go_num, HN.out, hB2⟩
        case measure => simp [intOf]; omega
    · have hkn : k = p.nb := by omega
      subst hkn
      go_wp2_with fail
      go_loopw [3, 5] (fun v i wk => ∃ k : Nat, k ≤ p.nb ∧ i = .int .i64 k ∧ wk.ownsRow W0.heap.size 3 1 v (frL p true p.nb ++ frL p false k).length ((frL p true p.nb ++ frL p false k).map (Value.int .i64)) ∧ Below W0.heap.size W0 wk) (fun _ i _ => p.nb - (intOf i).toNat)
      case atStart => exact ⟨0, Nat.zero_le _, rfl, by simpa [frL] using HO.out, hB⟩
      case round =>
        clear HO hB c0 hlt0 hk hlt
        obtain ⟨k, hk, rfl, ho, hB⟩ := hrel
        obtain ⟨c0, hlt0⟩ := HC.out _ hB
        have HO : Hid (wr.ownsRow W0.heap.size 3 1 u3 (frL p true p.nb ++ frL p false k).length ((frL p true p.nb ++ frL p false k).map (Value.int .i64))) := ho
        clear ho
        by_cases hlt : k < p.nb
        · obtain ⟨b, o, hab, hb, z0, z1, z2, z3⟩ := (HP.out _ hB).bins k hlt
          rw [hab] at c0
          clear hab
          have m1 : (0 : Int) ≤ (k : Int) := by omega
          cases hf : (p.zb k).front
          · rw [hf] at z0
            have hfl := frL_len p false k
            have hfl2 := frL_len p true p.nb
            go_wp2_with (at_builtin; refine wpList_append_own _ rfl (.tmp 37) (.tmp 39) 23 rfl W0.heap.size 3 i1 (.int .i64 0) 1 8 Try.underlying23 hj hy0 hy1 hy2 rfl (by decide) _ _ _ rfl (HO.out.alloc _) ⟨wr.heap.size, 0, none⟩ 1 1 [.int .i64 k] rfl rfl ?c1 ?c2 ?c3 ?c4 ?c5 ?_)
            case c1 =>
              intro j u hj
              match j, hj with
              | 0, hj => simp at hj; subst hj; simp [Addr.add]
            case c2 => intro u hu; simp at hu; subst hu; rfl
            case c3 => rw [List.length_append]; unfold maxLen; omega
            case c4 => rw [List.length_append]; omega
            case c5 => have := hB.size; simp; omega
            intro v2 w2 hown2 hgrow2 hnil2
            have hlt2 := HO.out.lt
            have hB2 : Below W0.heap.size W0 w2 := (hB.alloc (by have := hB.size; omega) _).grown hgrow2 (by have := hB.size; simp; omega) (fun q hq => (hlt2 q hq).1)
            have HN : Hid (w2.ownsRow W0.heap.size 3 1 v2 (frL p true p.nb ++ frL p false (k + 1)).length ((frL p true p.nb ++ frL p false (k + 1)).map (Value.int .i64))) := by
              show w2.ownsRow W0.heap.size 3 1 v2 (frL p true p.nb ++ frL p false (k + 1)).length ((frL p true p.nb ++ frL p false (k + 1)).map (Value.int .i64))
              rw [frL_hit hf]
              simpa [Nat.add_assoc] using hown2
            clear hown2 hgrow2 hnil2 hlt2
            go_wp2_with fail
            go_roundw
            case rel => exact ⟨k + 1, by omega, by go_num, HN.out, hB2⟩
            case measure => simp [intOf]; omega
          · rw [hf] at z0
            go_wp2_with fail
            go_roundw
            case rel => exact ⟨k + 1, by omega, by go_num, by rw [frL_miss (by rw [hf]; decide)]; exact HO.out, hB⟩
            case measure => simp [intOf]; omega
        · go_wp2_with fail
          go_ret
          have hkn : k = p.nb := by omega
          subst hkn
          exact ⟨_, rfl, ⟨HO.out.1, HO.out.2.imp_right fun ⟨g, cap, cur, h1, h2, h3⟩ => ⟨g, cap, cur, h1, Nat.le_trans hB0.size h2, h3⟩⟩, hB0.trans (hB.mono hB0.size)⟩
theorem WayOf_any (p : Pl) (w : World) (hp : p.At w) (hn : p.nb ≤ 6) :
    Calls Try.prog 100 #[p.val] w fun e w' => ∃ r : Rw, e = .returned r.val ∧ r.At w' ∧ r.n = (wayL p).length ∧ (∀ j, j < r.n → r.z j = (wayL p).getD j 0) ∧ Below w.heap.size w w' :=
  (WayOfOwn_any p w hp hn).mono fun e w' h => by
    obtain ⟨v, rfl, hr2, hB⟩ := h
    obtain ⟨r, rfl, ra, rn, rz⟩ := Rw.ofOwns hr2
    exact ⟨r, rfl, ra, rn, rz, hB⟩

end Go.Proofs.Ytjiodlbblmbibac

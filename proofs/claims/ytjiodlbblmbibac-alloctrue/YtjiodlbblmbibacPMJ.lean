/- Texts that were built one behind the other, joined. -/
import Derived.Test.YtjiodlbblmbibacPW1
import Derived.Test.YtjiodlbblmbibacHW7
import Derived.Test.YtjiodlbblmbibacHO
import Derived.Test.YtjiodlbblmbibacW6
import Derived.Test.YtjiodlbblmbibacS
import Derived.Test.YtjiodlbblmbibacSW9
import Derived.Maps.AppendAt
import Derived.Test.YtjiodlbblmbibacR3
import Derived.Test.YtjiodlbblmbibacRS6
import Derived.Test.YtjiodlbblmbibacRS1
import Derived.Test.YtjiodlbblmbibacM2
import Derived.Test.YtjiodlbblmbibacSR
import Derived.ArgAppend
import Derived.Deep.Upon
import Derived.Test.YtjiodlbblmbibacW10
import Derived.Test.YtjiodlbblmbibacSW5
import Derived.Test.YtjiodlbblmbibacHW3
import Derived.Test.YtjiodlbblmbibacRS3
/- The way as a list: each bin once, those in front first, of one kind rising. No walk. -/
namespace Go.Proofs.Ytjiodlbblmbibac
open Go.RowKit
set_option linter.unusedVariables false

def wayB (p : Pl) (x : Int) : Bool := (p.zb x.toNat).front

theorem frL_mem {p : Pl} {f : Bool} {k : Nat} {x : Int} (h : x ∈ frL p f k) : 0 ≤ x ∧ x < k ∧ wayB p x = f := by
  simp only [frL, List.mem_map, List.mem_filter, List.mem_range, beq_iff_eq] at h
  obtain ⟨i, ⟨hi, hf⟩, rfl⟩ := h
  exact ⟨Int.natCast_nonneg _, by simp only [Int.ofNat_eq_natCast]; omega, hf⟩
theorem frL_pw (p : Pl) (f : Bool) : ∀ k, (frL p f k).Pairwise (· < ·)
  | 0 => by simp [frL]
  | k + 1 => by
    by_cases h : (p.zb k).front = f
    · rw [frL_hit h, List.pairwise_append]
      refine ⟨frL_pw p f k, List.pairwise_singleton _ _, fun x hx y hy => ?_⟩
      rw [List.mem_singleton] at hy
      have := (frL_mem hx).2.1
      omega
    · rw [frL_miss h]; exact frL_pw p f k
theorem frL_two (p : Pl) : ∀ k, (frL p true k).length + (frL p false k).length = k
  | 0 => by simp [frL]
  | k + 1 => by
    have ih := frL_two p k
    cases h : (p.zb k).front
    · rw [frL_hit h, frL_miss (by rw [h]; decide), List.length_append, List.length_singleton]; omega
    · rw [frL_hit h, frL_miss (by rw [h]; decide), List.length_append, List.length_singleton]; omega
theorem way_len (p : Pl) : (wayL p).length = p.nb := by
  unfold wayL
  rw [List.length_append, frL_two]
theorem way_mem {p : Pl} {x : Int} (h : x ∈ wayL p) : 0 ≤ x ∧ x < p.nb := by
  unfold wayL at h
  rw [List.mem_append] at h
  rcases h with h | h
  · exact ⟨(frL_mem h).1, (frL_mem h).2.1⟩
  · exact ⟨(frL_mem h).1, (frL_mem h).2.1⟩
theorem way_pw (p : Pl) : (wayL p).Pairwise (fun x y => ¬ x = y ∧ (wayB p y = true → wayB p x = true) ∧ (wayB p x = wayB p y → x < y)) := by
  unfold wayL
  rw [List.pairwise_append]
  refine ⟨?_, ?_, fun x hx y hy => ?_⟩
  · refine List.Pairwise.imp_of_mem ?_ (frL_pw p true p.nb)
    intro x y hx hy h
    exact ⟨by omega, fun _ => (frL_mem hx).2.2, fun _ => h⟩
  · refine List.Pairwise.imp_of_mem ?_ (frL_pw p false p.nb)
    intro x y hx hy h
    refine ⟨by omega, fun e => ?_, fun _ => h⟩
    rw [(frL_mem hy).2.2] at e; cases e
  · have a := (frL_mem hx).2.2
    have b := (frL_mem hy).2.2
    refine ⟨fun e => ?_, fun e => a, fun e => ?_⟩
    · rw [e, b] at a; cases a
    · rw [a, b] at e; cases e
theorem way_at {p : Pl} {i k : Nat} (hik : i < k) (hk : k < (wayL p).length) :
    ¬ (wayL p).getD i 0 = (wayL p).getD k 0 ∧ (wayB p ((wayL p).getD k 0) = true → wayB p ((wayL p).getD i 0) = true) ∧ (wayB p ((wayL p).getD i 0) = wayB p ((wayL p).getD k 0) → (wayL p).getD i 0 < (wayL p).getD k 0) := by
  have := (List.pairwise_iff_getElem.1 (way_pw p)) i k (by omega) hk hik
  simpa [List.getD, List.getElem?_eq_getElem hk, List.getElem?_eq_getElem (Nat.lt_trans hik hk)] using this
theorem way_in {p : Pl} {i : Nat} (hi : i < (wayL p).length) : 0 ≤ (wayL p).getD i 0 ∧ (wayL p).getD i 0 < p.nb := by
  have : (wayL p).getD i 0 = (wayL p)[i] := by simp [List.getD, List.getElem?_eq_getElem hi]
  rw [this]
  exact way_mem (List.getElem_mem hi)

/-- What Way answers: nothing where the plan is not right. -/
def wayR (p : Pl) : List Int := if planE p = 0 then wayL p else []
theorem wayR_yes {p : Pl} (h : planE p = 0) : wayR p = wayL p := if_pos h
theorem wayR_no {p : Pl} (h : ¬ planE p = 0) : wayR p = [] := if_neg h

theorem owns_low {A A' : Nat} {w : World} {e : TypeId} {size : Nat} {v : Value} {n : Nat} {xs : List Value} (h : w.ownsRow A e size v n xs) (hA : A' ≤ A) : w.ownsRow A' e size v n xs :=
  ⟨h.1, h.2.imp_right fun ⟨g, cap, cur, h1, h2, h3⟩ => ⟨g, cap, cur, h1, Nat.le_trans hA h2, h3⟩⟩

end Go.Proofs.Ytjiodlbblmbibac
/- Lists of four numbers that are copied: slices.Clone of holds, moves, lines. -/
namespace Go.Proofs.Ytjiodlbblmbibac
open Go.RowKit Go.Shelf
set_option linter.unusedVariables false

/-- What comes of copying. -/
def Cloned (A : Nat) (e : TypeId) (s : Hs) (w' : World) (s' : Hs) : Prop := s'.n = s.n ∧ (∀ j, j < s.n → s'.z j = s.z j) ∧ OwnH A e w' s' ∧ Room A w' e 4 s'.a s'.c
theorem OwnH.ofOwns {w : World} {base : Nat} {e : TypeId} {v : Value} {n : Nat} {z : Nat → Hd} (h : w.ownsRow base e 4 v n (flatH n z)) (hn : v ≠ .slice none 0 0) : ∃ s : Hs, v = s.val ∧ s.n = n ∧ s.z = z ∧ OwnH base e w s ∧ Room base w e 4 s.a s.c := by
  obtain ⟨g, c, rfl, h1, h2, h3, h4⟩ := Blk.ofOwns h hn
  exact ⟨⟨some ⟨g, 0, none⟩, n, c, z⟩, rfl, rfl, rfl, ⟨h1, h2, (fun e => by cases e), fun _ => ⟨g, rfl, h3, h4⟩⟩, Room.ofOwns h (Nat.le_refl _)⟩

theorem infoHoldC : (Try.prog.info? 65).map (fun i => (i.zero, i.size, i.bytes)) = some (some (.agg #[.int .i64 0, .int .i64 0, .int .i64 0, .int .i64 0]), 4, 32) := by kernel_rfl

set_option maxRecDepth 100000 in
set_option maxHeartbeats 1000000 in
theorem CloneHold_any (s : Hs) (w : World) (hs : s.At w) (hn : s.n ≤ 1000) :
    Calls Try.prog 90 #[s.val] w fun e w' => ∃ s' : Hs, e = .returned s'.val ∧ Cloned w.heap.size 65 s w' s' ∧ Below w.heap.size w w' := by
  obtain ⟨sle, scap, sh, snil⟩ := hs
  obtain ⟨sa, sn, sc, sz⟩ := s
  dsimp only at sle scap sh snil hn
  simp only [Hs.val]
  obtain ⟨i0, hi, hz0, hz1, hz2⟩ := info_parts infoHoldC
  have q22 : ∀ (w : World) (a : Option Addr) (n c n' c' : Nat), (binOp .eql 28 (.slice a n c) (.slice none n' c')).run Try.prog w = .ok (.bool a.isNone) w := fun w a n c n' c' => Lib.run_eql_slice_nil w _ _ a n c n' c' Try.underlying28
  cases sa with
  | none =>
    have hc0 := snil rfl
    subst hc0
    have hn0 : sn = 0 := by omega
    subst hn0
    go_enter Try.func90, Try.ntmps90
    go_wp2
    go_ret
    exact ⟨⟨none, 0, 0, sz⟩, rfl, ⟨rfl, fun j hj => rfl, ⟨Nat.le_refl _, Nat.zero_le _, fun _ => rfl, fun h => absurd h (Nat.lt_irrefl _)⟩, Or.inl rfl⟩, Below.refl _ _⟩
  | some ad =>
    have hnews : ∀ j u, (flatH sn sz)[j]? = some u → w.cell? (ad.add j) = some u ∧ (ad.add j).block < w.heap.size := fun j u hj => by
      have hlen := (List.getElem?_eq_some_iff.1 hj).1
      rw [flatH_len] at hlen
      obtain ⟨b, o, he, hb, -⟩ := sh 0 (by omega)
      simp only [Option.some.injEq] at he
      subst he
      exact ⟨HdsAt.news sh j u hj, by rw [Go.WideShapes.add_plain]; exact hb⟩
    have HN : Hid (∀ j u, (flatH sn sz)[j]? = some u → w.cell? (ad.add j) = some u ∧ (ad.add j).block < w.heap.size) := hnews
    clear hnews sh snil
    go_enter Try.func90, Try.ntmps90
    go_wp2_with (at_builtin; refine wpList_append_own _ rfl _ _ 28 rfl w.heap.size 65 i0 (.agg #[.int .i64 0, .int .i64 0, .int .i64 0, .int .i64 0]) 4 32 Try.underlying28 hi hz0 hz1 hz2 rfl (by decide) _ _ _ rfl (World.ownsRow_made w #[] 0 (Nat.le_refl _) (Nat.zero_le _) rfl) ad sn sc (flatH sn sz) rfl ?qc1 ?qc2 ?qc3 ?qc4 ?qc5 ?qc6 ?_)
    case qc1 => rw [flatH_len]
    case qc2 =>
      intro j u hj
      have := HN.out j u hj
      rw [((Below.refl w.heap.size w).alloc (Nat.le_refl _) _).cell (p := ad.add j) this.2]
      exact this.1
    case qc3 => exact flatH_one sn sz
    case qc4 => unfold maxLen; omega
    case qc5 => omega
    case qc6 => simp
    intro v' w1 hown hgrow hnil
    have hB : Below w.heap.size w w1 := ((Below.refl _ w).alloc (Nat.le_refl _) _).grown hgrow (by simp) (by intro k hk; simp [Value.ownBlock] at hk; omega)
    obtain ⟨s', rfl, e1, e2, e3⟩ := OwnH.ofOwns hown hnil
    clear hown hgrow hnil
    have HR : Hid (s'.n = sn ∧ s'.z = sz ∧ OwnH w.heap.size 65 w1 s' ∧ Room w.heap.size w1 65 4 s'.a s'.c) := ⟨e1, e2, e3⟩
    clear e1 e2 e3
    simp only [Hs.val]
    go_wp2
    go_ret
    exact ⟨s', rfl, ⟨HR.out.1, fun j _ => by rw [HR.out.2.1], HR.out.2.2⟩, hB⟩

theorem infoMoveC : (Try.prog.info? 70).map (fun i => (i.zero, i.size, i.bytes)) = some (some (.agg #[.int .i64 0, .int .i64 0, .int .i64 0, .int .i64 0]), 4, 32) := by kernel_rfl

set_option maxRecDepth 100000 in
set_option maxHeartbeats 1000000 in
theorem CloneMove_any (s : Hs) (w : World) (hs : s.At w) (hn : s.n ≤ 1000) :
    Calls Try.prog 91 #[s.val] w fun e w' => ∃ s' : Hs, e = .returned s'.val ∧ Cloned w.heap.size 70 s w' s' ∧ Below w.heap.size w w' := by
  obtain ⟨sle, scap, sh, snil⟩ := hs
  obtain ⟨sa, sn, sc, sz⟩ := s
  dsimp only at sle scap sh snil hn
  simp only [Hs.val]
  obtain ⟨i0, hi, hz0, hz1, hz2⟩ := info_parts infoMoveC
  have q22 : ∀ (w : World) (a : Option Addr) (n c n' c' : Nat), (binOp .eql 29 (.slice a n c) (.slice none n' c')).run Try.prog w = .ok (.bool a.isNone) w := fun w a n c n' c' => Lib.run_eql_slice_nil w _ _ a n c n' c' Try.underlying29
  cases sa with
  | none =>
    have hc0 := snil rfl
    subst hc0
    have hn0 : sn = 0 := by omega
    subst hn0
    go_enter Try.func91, Try.ntmps91
    go_wp2
    go_ret
    exact ⟨⟨none, 0, 0, sz⟩, rfl, ⟨rfl, fun j hj => rfl, ⟨Nat.le_refl _, Nat.zero_le _, fun _ => rfl, fun h => absurd h (Nat.lt_irrefl _)⟩, Or.inl rfl⟩, Below.refl _ _⟩
  | some ad =>
    have hnews : ∀ j u, (flatH sn sz)[j]? = some u → w.cell? (ad.add j) = some u ∧ (ad.add j).block < w.heap.size := fun j u hj => by
      have hlen := (List.getElem?_eq_some_iff.1 hj).1
      rw [flatH_len] at hlen
      obtain ⟨b, o, he, hb, -⟩ := sh 0 (by omega)
      simp only [Option.some.injEq] at he
      subst he
      exact ⟨HdsAt.news sh j u hj, by rw [Go.WideShapes.add_plain]; exact hb⟩
    have HN : Hid (∀ j u, (flatH sn sz)[j]? = some u → w.cell? (ad.add j) = some u ∧ (ad.add j).block < w.heap.size) := hnews
    clear hnews sh snil
    go_enter Try.func91, Try.ntmps91
    go_wp2_with (at_builtin; refine wpList_append_own _ rfl _ _ 29 rfl w.heap.size 70 i0 (.agg #[.int .i64 0, .int .i64 0, .int .i64 0, .int .i64 0]) 4 32 Try.underlying29 hi hz0 hz1 hz2 rfl (by decide) _ _ _ rfl (World.ownsRow_made w #[] 0 (Nat.le_refl _) (Nat.zero_le _) rfl) ad sn sc (flatH sn sz) rfl ?qc1 ?qc2 ?qc3 ?qc4 ?qc5 ?qc6 ?_)
    case qc1 => rw [flatH_len]
    case qc2 =>
      intro j u hj
      have := HN.out j u hj
      rw [((Below.refl w.heap.size w).alloc (Nat.le_refl _) _).cell (p := ad.add j) this.2]
      exact this.1
    case qc3 => exact flatH_one sn sz
    case qc4 => unfold maxLen; omega
    case qc5 => omega
    case qc6 => simp
    intro v' w1 hown hgrow hnil
    have hB : Below w.heap.size w w1 := ((Below.refl _ w).alloc (Nat.le_refl _) _).grown hgrow (by simp) (by intro k hk; simp [Value.ownBlock] at hk; omega)
    obtain ⟨s', rfl, e1, e2, e3⟩ := OwnH.ofOwns hown hnil
    clear hown hgrow hnil
    have HR : Hid (s'.n = sn ∧ s'.z = sz ∧ OwnH w.heap.size 70 w1 s' ∧ Room w.heap.size w1 70 4 s'.a s'.c) := ⟨e1, e2, e3⟩
    clear e1 e2 e3
    simp only [Hs.val]
    go_wp2
    go_ret
    exact ⟨s', rfl, ⟨HR.out.1, fun j _ => by rw [HR.out.2.1], HR.out.2.2⟩, hB⟩

theorem infoLineC : (Try.prog.info? 53).map (fun i => (i.zero, i.size, i.bytes)) = some (some (.agg #[.int .i64 0, .int .i64 0, .int .i64 0, .int .i64 0]), 4, 32) := by kernel_rfl

set_option maxRecDepth 100000 in
set_option maxHeartbeats 1000000 in
theorem CloneLine_any (s : Hs) (w : World) (hs : s.At w) (hn : s.n ≤ 1000) :
    Calls Try.prog 64 #[s.val] w fun e w' => ∃ s' : Hs, e = .returned s'.val ∧ Cloned w.heap.size 53 s w' s' ∧ Below w.heap.size w w' := by
  obtain ⟨sle, scap, sh, snil⟩ := hs
  obtain ⟨sa, sn, sc, sz⟩ := s
  dsimp only at sle scap sh snil hn
  simp only [Hs.val]
  obtain ⟨i0, hi, hz0, hz1, hz2⟩ := info_parts infoLineC
  have q22 : ∀ (w : World) (a : Option Addr) (n c n' c' : Nat), (binOp .eql 49 (.slice a n c) (.slice none n' c')).run Try.prog w = .ok (.bool a.isNone) w := fun w a n c n' c' => Lib.run_eql_slice_nil w _ _ a n c n' c' Try.underlying49
  cases sa with
  | none =>
    have hc0 := snil rfl
    subst hc0
    have hn0 : sn = 0 := by omega
    subst hn0
    go_enter Try.func64, Try.ntmps64
    go_wp2
    go_ret
    exact ⟨⟨none, 0, 0, sz⟩, rfl, ⟨rfl, fun j hj => rfl, ⟨Nat.le_refl _, Nat.zero_le _, fun _ => rfl, fun h => absurd h (Nat.lt_irrefl _)⟩, Or.inl rfl⟩, Below.refl _ _⟩
  | some ad =>
    have hnews : ∀ j u, (flatH sn sz)[j]? = some u → w.cell? (ad.add j) = some u ∧ (ad.add j).block < w.heap.size := fun j u hj => by
      have hlen := (List.getElem?_eq_some_iff.1 hj).1
      rw [flatH_len] at hlen
      obtain ⟨b, o, he, hb, -⟩ := sh 0 (by omega)
      simp only [Option.some.injEq] at he
      subst he
      exact ⟨HdsAt.news sh j u hj, by rw [Go.WideShapes.add_plain]; exact hb⟩
    have HN : Hid (∀ j u, (flatH sn sz)[j]? = some u → w.cell? (ad.add j) = some u ∧ (ad.add j).block < w.heap.size) := hnews
    clear hnews sh snil
    go_enter Try.func64, Try.ntmps64
    go_wp2_with (at_builtin; refine wpList_append_own _ rfl _ _ 49 rfl w.heap.size 53 i0 (.agg #[.int .i64 0, .int .i64 0, .int .i64 0, .int .i64 0]) 4 32 Try.underlying49 hi hz0 hz1 hz2 rfl (by decide) _ _ _ rfl (World.ownsRow_made w #[] 0 (Nat.le_refl _) (Nat.zero_le _) rfl) ad sn sc (flatH sn sz) rfl ?qc1 ?qc2 ?qc3 ?qc4 ?qc5 ?qc6 ?_)
    case qc1 => rw [flatH_len]
    case qc2 =>
      intro j u hj
      have := HN.out j u hj
      rw [((Below.refl w.heap.size w).alloc (Nat.le_refl _) _).cell (p := ad.add j) this.2]
      exact this.1
    case qc3 => exact flatH_one sn sz
    case qc4 => unfold maxLen; omega
    case qc5 => omega
    case qc6 => simp
    intro v' w1 hown hgrow hnil
    have hB : Below w.heap.size w w1 := ((Below.refl _ w).alloc (Nat.le_refl _) _).grown hgrow (by simp) (by intro k hk; simp [Value.ownBlock] at hk; omega)
    obtain ⟨s', rfl, e1, e2, e3⟩ := OwnH.ofOwns hown hnil
    clear hown hgrow hnil
    have HR : Hid (s'.n = sn ∧ s'.z = sz ∧ OwnH w.heap.size 53 w1 s' ∧ Room w.heap.size w1 53 4 s'.a s'.c) := ⟨e1, e2, e3⟩
    clear e1 e2 e3
    simp only [Hs.val]
    go_wp2
    go_ret
    exact ⟨s', rfl, ⟨HR.out.1, fun j _ => by rw [HR.out.2.1], HR.out.2.2⟩, hB⟩

end Go.Proofs.Ytjiodlbblmbibac
/- Orders that are copied. -/
namespace Go.Proofs.Ytjiodlbblmbibac
open Go.RowKit Go.Shelf
set_option linter.unusedVariables false

def odCells (x : Od) : List Value := [.int .i64 x.k, .slice x.ls.a x.ls.n x.ls.c]
def flatO : Nat → (Nat → Od) → List Value
  | 0, _ => []
  | n + 1, z => flatO n z ++ odCells (z n)
theorem flatO_len : ∀ (n : Nat) (z : Nat → Od), (flatO n z).length = n * 2
  | 0, _ => rfl
  | n + 1, z => by rw [flatO, List.length_append, flatO_len n z]; simp [odCells]; omega
theorem flatO_get : ∀ (n : Nat) (z : Nat → Od) (i c : Nat), i < n → c < 2 → (flatO n z)[i * 2 + c]? = (odCells (z i))[c]?
  | 0, _, i, c, hi, _ => absurd hi (Nat.not_lt_zero _)
  | n + 1, z, i, c, hi, hc => by
    rw [flatO]
    by_cases h : i = n
    · subst h
      rw [List.getElem?_append_right (by rw [flatO_len]; omega), flatO_len]
      congr 1
      omega
    · rw [List.getElem?_append_left (by rw [flatO_len]; omega)]
      exact flatO_get n z i c (by omega) hc
theorem flatO_at {n : Nat} {z : Nat → Od} {i c : Nat} (hi : i < n) (hc : c < 2) : (flatO n z).getD (i * 2 + c) default = (odCells (z i)).getD c default := by
  simp only [List.getD, flatO_get n z i c hi hc]
theorem flatO_one : ∀ (n : Nat) (z : Nat → Od), ∀ u ∈ flatO n z, u.oneCell' = true
  | 0, _, u, hu => by simp [flatO] at hu
  | n + 1, z, u, hu => by
    rw [flatO, List.mem_append] at hu
    rcases hu with hu | hu
    · exact flatO_one n z u hu
    · simp only [odCells, List.mem_cons, List.not_mem_nil, or_false] at hu
      rcases hu with rfl | rfl <;> rfl
theorem OdsAt.news {w : World} {b o n : Nat} {z : Nat → Od} (h : OdsAt w (some ⟨b, o, none⟩) n z) : ∀ j u, (flatO n z)[j]? = some u → w.cell? ((⟨b, o, none⟩ : Addr).add j) = some u := by
  intro j u hj
  have hlen := (List.getElem?_eq_some_iff.1 hj).1
  rw [flatO_len] at hlen
  obtain ⟨b', o', he, hb, h0, h1, -⟩ := h (j / 2) (by omega)
  simp only [Option.some.injEq, Addr.mk.injEq, and_true] at he
  obtain ⟨rfl, rfl⟩ := he
  rw [Go.WideShapes.add_plain]
  have hd : j = j / 2 * 2 + j % 2 := by omega
  rw [hd, flatO_get n z (j / 2) (j % 2) (by omega) (by omega)] at hj
  have h2 : j % 2 = 0 ∨ j % 2 = 1 := by omega
  rcases h2 with h2 | h2
  · rw [h2] at hj; simp [odCells] at hj; rw [← hj, ← h0]; congr 2; omega
  · rw [h2] at hj; simp [odCells] at hj; rw [← hj, ← h1]; congr 2; omega

theorem infoOrderC : (Try.prog.info? 51).map (fun i => (i.zero, i.size, i.bytes)) = some (some (.agg #[.int .i64 0, .slice none 0 0]), 2, 32) := by kernel_rfl

def ClonedO (s : Os) (A : Nat) (w' : World) (a' : Option Addr) (c' : Nat) : Prop := s.n ≤ c' ∧ c' ≤ maxLen ∧ (0 < s.n → ∃ g, a' = some ⟨g, 0, none⟩ ∧ A ≤ g ∧ Blk w' g 51 (s.n * 2) (fun j => (flatO s.n s.z).getD j default)) ∧ Room A w' 51 2 a' c'

set_option maxRecDepth 100000 in
set_option maxHeartbeats 1000000 in
theorem CloneOrder_any (s : Os) (w : World) (hs : s.At w) (hn : s.n ≤ 1000) :
    Calls Try.prog 114 #[s.val] w fun e w' => ∃ a' c', e = .returned (.slice a' s.n c') ∧ ClonedO s w.heap.size w' a' c' ∧ Below w.heap.size w w' := by
  obtain ⟨sle, scap, sh⟩ := hs
  obtain ⟨sa, sn, sc, sz⟩ := s
  dsimp only at sle scap sh hn
  simp only [Os.val]
  obtain ⟨i0, hi, hz0, hz1, hz2⟩ := info_parts infoOrderC
  have q22 : ∀ (w : World) (a : Option Addr) (n c n' c' : Nat), (binOp .eql 27 (.slice a n c) (.slice none n' c')).run Try.prog w = .ok (.bool a.isNone) w := fun w a n c n' c' => Lib.run_eql_slice_nil w _ _ a n c n' c' Try.underlying27
  cases sa with
  | none =>
    have hn0 : sn = 0 := by
      rcases Nat.eq_zero_or_pos sn with h | h
      · exact h
      · obtain ⟨b, o, he, _⟩ := sh 0 h
        cases he
    subst hn0
    go_enter Try.func114, Try.ntmps114
    go_wp2
    go_ret
    exact ⟨none, 0, rfl, ⟨Nat.le_refl _, Nat.zero_le _, fun h => absurd h (Nat.lt_irrefl _), Or.inl rfl⟩, Below.refl _ _⟩
  | some ad =>
    have HN : Hid (∀ j u, (flatO sn sz)[j]? = some u → w.cell? (ad.add j) = some u ∧ (ad.add j).block < w.heap.size) := fun j u hj => by
      have hlen := (List.getElem?_eq_some_iff.1 hj).1
      rw [flatO_len] at hlen
      obtain ⟨b, o, he, hb, -⟩ := sh 0 (by omega)
      simp only [Option.some.injEq] at he
      subst he
      exact ⟨OdsAt.news sh j u hj, by rw [Go.WideShapes.add_plain]; exact hb⟩
    clear sh
    go_enter Try.func114, Try.ntmps114
    go_wp2_with (at_builtin; refine wpList_append_own _ rfl _ _ 27 rfl w.heap.size 51 i0 (.agg #[.int .i64 0, .slice none 0 0]) 2 32 Try.underlying27 hi hz0 hz1 hz2 rfl (by decide) _ _ _ rfl (World.ownsRow_made w #[] 0 (Nat.le_refl _) (Nat.zero_le _) rfl) ad sn sc (flatO sn sz) rfl ?qc1 ?qc2 ?qc3 ?qc4 ?qc5 ?qc6 ?_)
    case qc1 => rw [flatO_len]
    case qc2 =>
      intro j u hj
      have := HN.out j u hj
      rw [((Below.refl w.heap.size w).alloc (Nat.le_refl _) _).cell (p := ad.add j) this.2]
      exact this.1
    case qc3 => exact flatO_one sn sz
    case qc4 => unfold maxLen; omega
    case qc5 => omega
    case qc6 => simp
    intro v' w1 hown hgrow hnil
    have hB : Below w.heap.size w w1 := ((Below.refl _ w).alloc (Nat.le_refl _) _).grown hgrow (by simp) (by intro k hk; simp [Value.ownBlock] at hk; omega)
    obtain ⟨g, c', rfl, h1, h2, h3, h4⟩ := Blk.ofOwns hown hnil
    have hroom := Room.ofOwns hown (Nat.le_refl _)
    clear hown hgrow hnil
    have HR : Hid (ClonedO ⟨some ad, sn, sc, sz⟩ w.heap.size w1 (some ⟨g, 0, none⟩) c') := ⟨h1, h2, fun _ => ⟨g, rfl, h3, h4⟩, hroom⟩
    clear h4 hroom
    go_wp2
    go_ret
    exact ⟨some ⟨g, 0, none⟩, c', rfl, HR.out, hB⟩

/-- Orders of the call's own: list and lines lie in blocks of their own types, new since A, no two lists of lines in one. -/
structure OwnO (A : Nat) (w : World) (s : Os) : Prop where
  le : s.n ≤ s.c
  cap : s.c ≤ maxLen
  list : 0 < s.n → ∃ g, s.a = some ⟨g, 0, none⟩ ∧ A ≤ g ∧ Blk w g 51 (s.n * 2) (fun j => (flatO s.n s.z).getD j default)
  lines : ∀ i, i < s.n → ∃ B, (s.z i).ls.a = some ⟨B, 0, none⟩ ∧ A ≤ B ∧ (s.z i).ls.n ≤ (s.z i).ls.c ∧ (s.z i).ls.c ≤ maxLen ∧ Blk w B 53 ((s.z i).ls.n * 4) (fun j => (flatH (s.z i).ls.n (s.z i).ls.z).getD j default)
  apart : ∀ i j, i < j → j < s.n → (s.z i).ls.a ≠ (s.z j).ls.a
  room : Room A w 51 2 s.a s.c
theorem OwnO.at {A : Nat} {w : World} {s : Os} (h : OwnO A w s) : s.At w := by
  refine ⟨h.le, h.cap, fun i hi => ?_⟩
  obtain ⟨g, ha, hA, hb⟩ := h.list (by omega)
  obtain ⟨B, hl, hA2, l1, l2, hb2⟩ := h.lines i hi
  have c0 := hb.cell (j := i * 2) (by omega)
  have c1 := hb.cell (j := i * 2 + 1) (by omega)
  have e0 := flatO_at (z := s.z) hi (show 0 < 2 by decide)
  have e1 := flatO_at (z := s.z) hi (show 1 < 2 by decide)
  rw [Nat.add_zero] at e0
  rw [e0] at c0
  rw [e1] at c1
  refine ⟨g, 0, ha, hb.lt, by rw [Nat.zero_add]; exact c0, by rw [Nat.zero_add]; exact c1, ?_⟩
  exact OwnH.at (A := A) (e := 53) ⟨l1, l2, (fun e => by rw [hl] at e; cases e), fun _ => ⟨B, hl, hA2, hb2⟩⟩
/-- The same orders. -/
def SameO (s t : Os) : Prop := s.n = t.n ∧ ∀ i, i < s.n → (s.z i).k = (t.z i).k ∧ (s.z i).ls.n = (t.z i).ls.n ∧ ∀ j, j < (s.z i).ls.n → (s.z i).ls.z j = (t.z i).ls.z j

/-- Orders, the lines of the first k of which have been copied. -/
def mixO (s : Os) (k : Nat) (B C : Nat → Nat) (i : Nat) : Od := if i < k then ⟨(s.z i).k, ⟨some ⟨B i, 0, none⟩, (s.z i).ls.n, C i, (s.z i).ls.z⟩⟩ else s.z i
def CopL (s : Os) (A : Nat) (a' : Option Addr) (c' k : Nat) (wk : World) : Prop := Room A wk 51 2 a' c' ∧ ∃ B C : Nat → Nat, (0 < s.n → ∃ g, a' = some ⟨g, 0, none⟩ ∧ A ≤ g ∧ Blk wk g 51 (s.n * 2) (fun j => (flatO s.n (mixO s k B C)).getD j default)) ∧
  (∀ i, i < k → A ≤ B i ∧ (s.z i).ls.n ≤ C i ∧ C i ≤ maxLen ∧ Blk wk (B i) 53 ((s.z i).ls.n * 4) (fun j => (flatH (s.z i).ls.n (s.z i).ls.z).getD j default)) ∧ (∀ i j, i < j → j < k → B i < B j)
theorem flatO_congr : ∀ {n : Nat} {z z' : Nat → Od}, (∀ i, i < n → odCells (z i) = odCells (z' i)) → flatO n z = flatO n z'
  | 0, _, _, _ => rfl
  | n + 1, z, z', h => by rw [flatO, flatO, flatO_congr (n := n) fun i hi => h i (by omega), h n (by omega)]

theorem mix_step {s : Os} {k : Nat} {B C : Nat → Nat} {gB cB : Nat} (hk : k < s.n) (j : Nat) (hj : j < s.n * 2) :
    (if j = k * 2 + 1 then Value.slice (some ⟨gB, 0, none⟩) (s.z k).ls.n cB else (flatO s.n (mixO s k B C)).getD j default) = (flatO s.n (mixO s (k + 1) (fun i => if i = k then gB else B i) (fun i => if i = k then cB else C i))).getD j default := by
  have hd : j = j / 2 * 2 + j % 2 := by omega
  have h2 : j % 2 = 0 ∨ j % 2 = 1 := by omega
  have hi : j / 2 < s.n := by omega
  have e1 := flatO_at (z := mixO s k B C) hi (show j % 2 < 2 by omega)
  have e2 := flatO_at (z := mixO s (k + 1) (fun i => if i = k then gB else B i) (fun i => if i = k then cB else C i)) hi (show j % 2 < 2 by omega)
  rw [← hd] at e1 e2
  rw [e1, e2]
  by_cases hjk : j / 2 = k
  · have m1 : mixO s k B C (j / 2) = s.z k := by unfold mixO; rw [if_neg (by omega), hjk]
    have m2 : mixO s (k + 1) (fun i => if i = k then gB else B i) (fun i => if i = k then cB else C i) (j / 2) = ⟨(s.z k).k, ⟨some ⟨gB, 0, none⟩, (s.z k).ls.n, cB, (s.z k).ls.z⟩⟩ := by unfold mixO; rw [if_pos (by omega)]; simp [hjk]
    rw [m1, m2]
    rcases h2 with h2 | h2
    · rw [if_neg (by omega), h2]; rfl
    · rw [if_pos (by omega), h2]; rfl
  · rw [if_neg (by omega)]
    have m : mixO s k B C (j / 2) = mixO s (k + 1) (fun i => if i = k then gB else B i) (fun i => if i = k then cB else C i) (j / 2) := by
      unfold mixO
      by_cases hlt : j / 2 < k
      · rw [if_pos hlt, if_pos (by omega)]; simp [hjk]
      · rw [if_neg hlt, if_neg (by omega)]
    rw [m]

set_option maxRecDepth 100000 in
set_option maxHeartbeats 2000000 in
theorem copyOrders_any (s : Os) (w : World) (hs : s.At w) (hn : s.n ≤ 1000) (hl : ∀ i, i < s.n → 1 ≤ (s.z i).ls.n ∧ (s.z i).ls.n ≤ 3) :
    Calls Try.prog 89 #[s.val] w fun e w' => ∃ s' : Os, e = .returned s'.val ∧ SameO s' s ∧ OwnO w.heap.size w' s' ∧ Below w.heap.size w w' := by
  have HS : Hid (s.At w) := hs
  have HL : Hid (∀ i, i < s.n → 1 ≤ (s.z i).ls.n ∧ (s.z i).ls.n ≤ 3) := hl
  have sle := hs.le
  have scap := hs.cap
  unfold maxLen at scap
  clear hs hl
  simp only [Os.val]
  go_enter Try.func89, Try.ntmps89
  go_wp2_with fail
  refine (CloneOrder_any s w HS.out hn).mono ?_
  rintro e w1 ⟨a', c', rfl, hcl, hB1⟩
  have HCL : Hid (ClonedO s w.heap.size w1 a' c') := hcl
  clear hcl
  have c1 := HCL.out.1
  have c2 := HCL.out.2.1
  unfold maxLen at c2
  go_wp2_with fail
  go_loopw [10] (fun i wk => ∃ k : Nat, k ≤ s.n ∧ i = .int .i64 k ∧ Hid (CopL s w.heap.size a' c' k wk) ∧ Below w.heap.size w wk) (fun i _ => s.n - (intOf i).toNat)
  case atStart =>
    refine ⟨0, Nat.zero_le _, rfl, ⟨HCL.out.2.2.2, fun _ => 0, fun _ => 0, fun h => ?_, fun i hi => absurd hi (Nat.not_lt_zero _), fun i j _ hj => absurd hj (Nat.not_lt_zero _)⟩, hB1⟩
    obtain ⟨g, e1, e2, e3⟩ := HCL.out.2.2.1 h
    exact ⟨g, e1, e2, e3.congr (fun j hj => by rw [flatO_congr (z' := mixO s 0 (fun _ => 0) (fun _ => 0)) fun i hi => by unfold mixO; rw [if_neg (by omega)]])⟩
  case round =>
    clear hB1
    obtain ⟨k, hk, rfl, HG, hB⟩ := hrel
    by_cases hlt : k < s.n
    · obtain ⟨b, o, hoa, hb, z0, z1, hlk⟩ := (HS.out.below hB).ods k hlt
      have qk : (0 : Int) ≤ (k : Int) := by omega
      obtain ⟨hroom, B, C, hgl, hrow, hinc⟩ := HG.out
      have HRM : Hid (Room w.heap.size wr 51 2 a' c') := hroom
      obtain ⟨g, ha', hA, gb⟩ := hgl (by omega)
      have HR : Hid ((∀ i, i < k → w.heap.size ≤ B i ∧ (s.z i).ls.n ≤ C i ∧ C i ≤ maxLen ∧ Blk wr (B i) 53 ((s.z i).ls.n * 4) (fun j => (flatH (s.z i).ls.n (s.z i).ls.z).getD j default)) ∧ (∀ i j, i < j → j < k → B i < B j) ∧ a' = some ⟨g, 0, none⟩) := ⟨hrow, hinc, ha'⟩
      have HGB : Hid (Blk wr g 51 (s.n * 2) (fun j => (flatO s.n (mixO s k B C)).getD j default)) := gb
      have hn3 := HL.out k hlt
      have hBa := (Below.refl wr.heap.size wr).alloc (Nat.le_refl _) (.cells #[.int .i64 (s.z k).k, .slice (s.z k).ls.a (s.z k).ls.n (s.z k).ls.c] 51)
      have hlk2 := hlk.below hBa
      rw [hoa, ha']
      clear hoa ha' hgl hrow hinc gb HG hlk hroom
      go_wp2_with fail
      refine (CloneLine_any (s.z k).ls _ hlk2 (by omega)).mono ?_
      rintro e w2 ⟨s', rfl, hcl, hB2⟩
      obtain ⟨sa', sn', sc', sz'⟩ := s'
      obtain ⟨e1, e2, ⟨o1, o2, o3, o4⟩, -⟩ := hcl
      dsimp only at e1 e2 o1 o2 o3 o4
      subst e1
      obtain ⟨gB, e3, hgB, kB⟩ := o4 (by omega)
      subst e3
      have kB2 : Blk w2 gB 53 ((s.z k).ls.n * 4) (fun j => (flatH (s.z k).ls.n (s.z k).ls.z).getD j default) := kB.congr (fun j hj => by rw [flatH_congr e2])
      have hB12 := hBa.trans (hB2.mono hBa.size)
      have gb2 := HGB.out.below hB12
      have hsz := hBa.size
      have hf := gb2.frozen (k * 2 + 1)
      have hc := gb2.cell (j := k * 2 + 1) (by omega)
      rw [flatO_at (z := mixO s k B C) hlt (show 1 < 2 by decide)] at hc
      have hm : mixO s k B C k = s.z k := by unfold mixO; rw [if_neg (by omega)]
      rw [hm] at hc
      have hc2 : w2.cell? ⟨g, k * 2 + 1, none⟩ = some (.slice (s.z k).ls.a (s.z k).ls.n (s.z k).ls.c) := hc
      have hlg := gb2.lt
      have hBw2 := hB.trans (hB12.mono hB.size)
      have KB := gb2.set (k * 2 + 1) (.slice (some ⟨gB, 0, none⟩) (s.z k).ls.n sc')
      have HN : Hid (CopL s w.heap.size (some ⟨g, 0, none⟩) c' (k + 1) (w2.setCell ⟨g, k * 2 + 1, none⟩ (.slice (some ⟨gB, 0, none⟩) (s.z k).ls.n sc')) ∧ Below w.heap.size w (w2.setCell ⟨g, k * 2 + 1, none⟩ (.slice (some ⟨gB, 0, none⟩) (s.z k).ls.n sc'))) := by
        refine ⟨⟨(by have h := (HRM.out.below hB12).set g (k * 2 + 1) (.slice (some ⟨gB, 0, none⟩) (s.z k).ls.n sc'); rw [HR.out.2.2] at h; exact h), fun i => if i = k then gB else B i, fun i => if i = k then sc' else C i, fun _ => ⟨g, rfl, hA, KB.congr (fun j hj => mix_step hlt j hj)⟩, fun i hi => ?_, fun i j hij hj => ?_⟩, hBw2.setCell (p := ⟨g, k * 2 + 1, none⟩) hA _⟩
        · dsimp only
          by_cases hik : i = k
          · subst hik
            rw [if_pos rfl, if_pos rfl]
            exact ⟨by have := hB.size; omega, o1, o2, kB2.other (a := ⟨g, i * 2 + 1, none⟩) (Blk.ne2 kB2 gb2 (by decide)) _⟩
          · rw [if_neg hik, if_neg hik]
            obtain ⟨r1, r2, r3, r4⟩ := HR.out.1 i (by omega)
            have r5 := r4.below hB12
            exact ⟨r1, r2, r3, r5.other (a := ⟨g, k * 2 + 1, none⟩) (Blk.ne2 r5 gb2 (by decide)) _⟩
        · dsimp only
          by_cases hjk : j = k
          · subst hjk
            rw [if_neg (by omega), if_pos rfl]
            have := (HR.out.1 i hij).2.2.2.lt
            omega
          · rw [if_neg (by omega), if_neg hjk]
            exact HR.out.2.1 i j hij (by omega)
      clear KB kB kB2 gb2 hc hm hB12 HGB hB2 hlk2 hBw2
      simp only [Hs.val]
      go_wp2_with fail
      go_roundw
      case rel => exact ⟨k + 1, by omega, by go_num, HN.out.1, HN.out.2⟩
      case measure => simp [intOf]; omega
    · have hkn : k = s.n := by omega
      subst hkn
      go_wp2_with fail
      go_ret
      obtain ⟨hroom, B, C, hgl, hrow, hinc⟩ := HG.out
      refine ⟨⟨a', s.n, c', mixO s s.n B C⟩, rfl, ⟨rfl, fun i hi => ?_⟩, ⟨c1, HCL.out.2.1, hgl, fun i hi => ?_, fun i j hij hj => ?_, hroom⟩, hB⟩
      · have hi' : i < s.n := hi
        have m : mixO s s.n B C i = ⟨(s.z i).k, ⟨some ⟨B i, 0, none⟩, (s.z i).ls.n, C i, (s.z i).ls.z⟩⟩ := by unfold mixO; rw [if_pos hi']
        show (mixO s s.n B C i).k = _ ∧ (mixO s s.n B C i).ls.n = _ ∧ _
        rw [m]
        exact ⟨rfl, rfl, fun j _ => by show (mixO s s.n B C i).ls.z j = _; rw [m]⟩
      · have hi' : i < s.n := hi
        have m : mixO s s.n B C i = ⟨(s.z i).k, ⟨some ⟨B i, 0, none⟩, (s.z i).ls.n, C i, (s.z i).ls.z⟩⟩ := by unfold mixO; rw [if_pos hi']
        show ∃ B', (mixO s s.n B C i).ls.a = _ ∧ _ ∧ (mixO s s.n B C i).ls.n ≤ (mixO s s.n B C i).ls.c ∧ (mixO s s.n B C i).ls.c ≤ maxLen ∧ Blk _ B' _ ((mixO s s.n B C i).ls.n * 4) (fun j => (flatH (mixO s s.n B C i).ls.n (mixO s s.n B C i).ls.z).getD j default)
        rw [m]
        obtain ⟨r1, r2, r3, r4⟩ := hrow i hi'
        exact ⟨B i, rfl, r1, r2, r3, r4⟩
      · have hj' : j < s.n := hj
        show (mixO s s.n B C i).ls.a ≠ (mixO s s.n B C j).ls.a
        unfold mixO
        rw [if_pos (by omega), if_pos hj']
        have := hinc i j hij hj'
        simp only [ne_eq, Option.some.injEq, Addr.mk.injEq, and_true]
        omega

end Go.Proofs.Ytjiodlbblmbibac
/- Begin. -/
namespace Go.Proofs.Ytjiodlbblmbibac
open Go.RowKit Go.Shelf Go.Sort
set_option linter.unusedVariables false

/-- What Begin answers. -/
def BegunS (p : Pl) (s : St) : Prop := s.on.n = p.nb ∧ (∀ i, i < p.nb → (s.on.r i).n = p.ns ∧ ∀ j, j < p.ns → (s.on.r i).z j = 0) ∧ s.os.n = 0 ∧ s.hs.n = 0 ∧ s.ms.n = 0 ∧
  (s.si.n = p.ns ∧ ∀ j, j < p.ns → s.si.z j = 0) ∧ (s.so.n = p.ns ∧ ∀ j, j < p.ns → s.so.z j = 0) ∧ (s.sf.n = p.ns ∧ ∀ j, j < p.ns → s.sf.z j = 0)
def NoneS (s : St) : Prop := s.on.n = 0 ∧ s.os.n = 0 ∧ s.hs.n = 0 ∧ s.ms.n = 0 ∧ s.si.n = 0 ∧ s.so.n = 0 ∧ s.sf.n = 0
def BeginOK (p : Pl) (s : St) : Prop := (planE p = 0 → BegunS p s) ∧ (¬ planE p = 0 → NoneS s)
def noneS : St := ⟨⟨none, 0, 0, fun _ => ⟨none, 0, 0, fun _ => 0⟩⟩, ⟨none, 0, 0, fun _ => ⟨0, ⟨none, 0, 0, fun _ => ⟨0, 0, 0, 0⟩⟩⟩⟩, ⟨none, 0, 0, fun _ => ⟨0, 0, 0, 0⟩⟩, ⟨none, 0, 0, fun _ => ⟨0, 0, 0, 0⟩⟩, ⟨none, 0, 0, fun _ => 0⟩, ⟨none, 0, 0, fun _ => 0⟩, ⟨none, 0, 0, fun _ => 0⟩⟩
theorem Rw.none (w : World) : Rw.At w ⟨.none, 0, 0, fun _ => 0⟩ := ⟨Nat.le_refl _, Nat.zero_le _, fun i hi => absurd hi (Nat.not_lt_zero _)⟩
theorem Hs.none (w : World) : Hs.At w ⟨.none, 0, 0, fun _ => ⟨0, 0, 0, 0⟩⟩ := ⟨Nat.le_refl _, Nat.zero_le _, fun i hi => absurd hi (Nat.not_lt_zero _), fun _ => rfl⟩
theorem noneS_at (w : World) : noneS.At w :=
  ⟨⟨Nat.le_refl _, Nat.zero_le _, fun i hi => absurd hi (Nat.not_lt_zero _)⟩, ⟨Nat.le_refl _, Nat.zero_le _, fun i hi => absurd hi (Nat.not_lt_zero _)⟩, Hs.none w, Hs.none w, Rw.none w, Rw.none w, Rw.none w⟩

theorem madeI {j n : Nat} (hj : j < n) : (madeCells (Value.int .i64 0).cells n).toList.getD j default = .int .i64 0 := by
  simp [madeCells, Value.cells, hj, Nat.mod_one]
theorem madeS {j n : Nat} (hj : j < n) : (madeCells (Value.slice .none 0 0).cells n).toList.getD j default = .slice .none 0 0 := by
  simp [madeCells, Value.cells, hj, Nat.mod_one]
theorem infoI2 : (Try.prog.info? 3).map (fun i => (i.zero, i.size, i.bytes)) = some (some (.int .i64 0), 1, 8) := by kernel_rfl
theorem infoS2 : (Try.prog.info? 23).map (fun i => (i.zero, i.size, i.bytes)) = some (some (.slice .none 0 0), 1, 24) := by kernel_rfl

set_option maxHeartbeats 1000000 in
theorem Begin1_any (B : Nat) (p : Pl) (w : World) (ns3 : p.ns ≤ 3) (hB : B < w.heap.size) (c1 : w.cell? ⟨B, 1, none⟩ = some (.slice p.sa p.ns p.cs)) :
    Calls Try.prog 27 #[.pointer (some ⟨B, 0, none⟩)] w fun e w' => e = .returned (.slice (some ⟨w.heap.size, 0, none⟩) p.ns p.ns) ∧ Blk w' w.heap.size 3 p.ns (fun _ => .int .i64 0) ∧ Below w.heap.size w w' := by
  obtain ⟨i0, hi, hz0, hz1, hz2⟩ := info_parts infoI2
  go_enter Try.func27, Try.ntmps27
  go_wp2_with (at_make; refine wpList_make_full _ rfl _ _ 23 rfl w.heap.size 3 i0 (.int .i64 0) 1 Try.underlying23 hi hz0 hz1 .i64 .i64 _ _ p.ns rfl rfl rfl rfl (by rw [hz2]; omega) (by unfold maxLen; omega) (Nat.le_refl _) ?_; intro w1 hown hgrow)
  go_ret
  obtain ⟨g, c', hv, _, _, _, hblk⟩ := Blk.ofOwns hown (by simp)
  simp only [Value.slice.injEq, Option.some.injEq, Addr.mk.injEq, and_true] at hv
  obtain ⟨rfl, -, -⟩ := hv
  rw [Nat.mul_one] at hblk
  exact ⟨rfl, hblk.congr (fun j hj => madeI hj), (Below.refl _ w).grown hgrow (Nat.le_refl _) (by intro k hk; cases hk)⟩

/-- A row of noughts. -/
theorem zeroRw {w : World} {g n : Nat} {e : TypeId} (h : Blk w g e n (fun _ => .int .i64 0)) (hn : n ≤ 3) : Rw.At w ⟨some ⟨g, 0, .none⟩, n, n, fun _ => 0⟩ :=
  ⟨Nat.le_refl _, by show n ≤ maxLen; unfold maxLen; omega, fun i hi => ⟨g, 0, rfl, h.lt, by rw [Nat.zero_add]; exact h.cell hi⟩⟩

/-- A state that is stored into a box. -/
def set7 (w : World) (b : Nat) (v0 v1 v2 v3 v4 v5 v6 : Value) : World :=
  ((((((w.setCell ⟨b, 0, none⟩ v0).setCell ⟨b, 1, none⟩ v1).setCell ⟨b, 2, none⟩ v2).setCell ⟨b, 3, none⟩ v3).setCell ⟨b, 4, none⟩ v4).setCell ⟨b, 5, none⟩ v5).setCell ⟨b, 6, none⟩ v6
theorem set7_blk {w : World} {b : Nat} {e : TypeId} {f : Nat → Value} (h : Blk w b e 7 f) (v0 v1 v2 v3 v4 v5 v6 : Value) : Blk (set7 w b v0 v1 v2 v3 v4 v5 v6) b e 7 (fun j => (#[v0, v1, v2, v3, v4, v5, v6] : Array Value).getD j default) :=
  (((((((h.set 0 v0).set 1 v1).set 2 v2).set 3 v3).set 4 v4).set 5 v5).set 6 v6).congr fun j hj => by match j, hj with | 0, _ => rfl | 1, _ => rfl | 2, _ => rfl | 3, _ => rfl | 4, _ => rfl | 5, _ => rfl | 6, _ => rfl
theorem set7_other {w : World} {b g : Nat} {e : TypeId} {n : Nat} {f : Nat → Value} (h : Blk w g e n f) (hne : g ≠ b) (v0 v1 v2 v3 v4 v5 v6 : Value) : Blk (set7 w b v0 v1 v2 v3 v4 v5 v6) g e n f :=
  ((((((h.other (a := ⟨b, 0, none⟩) hne v0).other (a := ⟨b, 1, none⟩) hne v1).other (a := ⟨b, 2, none⟩) hne v2).other (a := ⟨b, 3, none⟩) hne v3).other (a := ⟨b, 4, none⟩) hne v4).other (a := ⟨b, 5, none⟩) hne v5).other (a := ⟨b, 6, none⟩) hne v6
theorem set7_below {n : Nat} {A w : World} {b : Nat} (h : Below n A w) (hb : n ≤ b) (v0 v1 v2 v3 v4 v5 v6 : Value) : Below n A (set7 w b v0 v1 v2 v3 v4 v5 v6) :=
  ((((((h.setCell (p := ⟨b, 0, none⟩) hb v0).setCell (p := ⟨b, 1, none⟩) hb v1).setCell (p := ⟨b, 2, none⟩) hb v2).setCell (p := ⟨b, 3, none⟩) hb v3).setCell (p := ⟨b, 4, none⟩) hb v4).setCell (p := ⟨b, 5, none⟩) hb v5).setCell (p := ⟨b, 6, none⟩) hb v6
/-- A box that holds a state, read as a result. -/
theorem box_cells {w : World} {b : Nat} {e : TypeId} {v0 v1 v2 v3 v4 v5 v6 : Value} (h : Blk w b e 7 (fun j => (#[v0, v1, v2, v3, v4, v5, v6] : Array Value).getD j default)) :
    w.cell? ⟨b, 0, none⟩ = some v0 ∧ w.cell? ⟨b, 1, none⟩ = some v1 ∧ w.cell? ⟨b, 2, none⟩ = some v2 ∧ w.cell? ⟨b, 3, none⟩ = some v3 ∧ w.cell? ⟨b, 4, none⟩ = some v4 ∧ w.cell? ⟨b, 5, none⟩ = some v5 ∧ w.cell? ⟨b, 6, none⟩ = some v6 :=
  ⟨h.cell (j := 0) (by decide), h.cell (j := 1) (by decide), h.cell (j := 2) (by decide), h.cell (j := 3) (by decide), h.cell (j := 4) (by decide), h.cell (j := 5) (by decide), h.cell (j := 6) (by decide)⟩

set_option maxRecDepth 100000 in
set_option maxHeartbeats 4000000 in
theorem Begin_any (p : Pl) (w : World) (hp : p.At w) :
    Calls Try.prog 9 #[p.val] w fun e w' => ∃ s : St, e = .returned (.tuple #[s.val, .int .i64 (planE p)]) ∧ s.At w' ∧ BeginOK p s ∧ Below w.heap.size w w' := by
  have capb := hp.capb
  have leb := hp.leb
  unfold maxLen at capb
  obtain ⟨W0, hW, hWB, X0, Z0⟩ : ∃ W, ((w.alloc (.cells #[.slice p.ab p.nb p.cb, .slice p.sa p.ns p.cs] 25)).alloc (.cells #[.slice .none 0 0, .slice .none 0 0, .slice .none 0 0, .slice .none 0 0, .slice .none 0 0, .slice .none 0 0, .slice .none 0 0] 31)) = W ∧ Below w.heap.size w W ∧ Blk W w.heap.size 25 2 (fun j => (#[.slice p.ab p.nb p.cb, .slice p.sa p.ns p.cs] : Array Value).getD j default) ∧ Blk W (w.heap.size + 1) 31 7 (fun _ => .slice .none 0 0) :=
    ⟨_, rfl, two_below _ _ _, (Blk.mk' rfl rfl).alloc _, (Blk.mk' (cur := #[.slice .none 0 0, .slice .none 0 0, .slice .none 0 0, .slice .none 0 0, .slice .none 0 0, .slice .none 0 0, .slice .none 0 0]) (by simp) rfl).congr (fun j hj => by match j, hj with | 0, _ => rfl | 1, _ => rfl | 2, _ => rfl | 3, _ => rfl | 4, _ => rfl | 5, _ => rfl | 6, _ => rfl)⟩
  have HW : Hid ((w.alloc (.cells #[.slice p.ab p.nb p.cb, .slice p.sa p.ns p.cs] 25)).alloc (.cells #[.slice .none 0 0, .slice .none 0 0, .slice .none 0 0, .slice .none 0 0, .slice .none 0 0, .slice .none 0 0, .slice .none 0 0] 31) = W0) := hW
  clear hW
  unfold Pl.val
  go_enter Try.func9, Try.ntmps9
  go_wp2_with fail
  rw [HW.out]
  refine (planCheck_any p W0 (hp.below hWB)).mono ?_
  rintro e w1 ⟨rfl, hB1⟩
  have X1 := X0.below hB1
  have Z1 := Z0.below hB1
  have hC1 := hWB.trans (hB1.mono hWB.size)
  clear X0 Z0 hB1
  by_cases h0 : planE p = 0
  · have R := rightP h0
    have hns3 := R.ns3
    have hnb6 := R.nb6
    have hns1 := R.ns1
    have H0 : Hid (planE p = 0) := h0
    rw [h0]
    clear h0 R
    obtain ⟨i0, hi, hz0, hz1, hz2⟩ := info_parts infoS2
    have d0 : w1.cell? ⟨w.heap.size, 0, none⟩ = some (.slice p.ab p.nb p.cb) := X1.cell (j := 0) (by decide)
    have l1 := X1.lt
    go_wp2_with (at_make; refine wpList_make_full _ rfl _ _ 26 rfl w1.heap.size 23 i0 (.slice .none 0 0) 1 Try.underlying26 hi hz0 hz1 .i64 .i64 _ _ p.nb rfl rfl rfl rfl (by rw [hz2]; omega) (by unfold maxLen; omega) (Nat.le_refl _) ?_; intro w2 hown hgrow)
    obtain ⟨g, c', hv, _, _, _, hblk⟩ := Blk.ofOwns hown (by simp)
    simp only [Value.slice.injEq, Option.some.injEq, Addr.mk.injEq, and_true] at hv
    obtain ⟨rfl, -, -⟩ := hv
    rw [Nat.mul_one] at hblk
    have hB2 : Below w1.heap.size w1 w2 := (Below.refl _ w1).grown hgrow (Nat.le_refl _) (by intro k hk; cases hk)
    clear hown hgrow d0
    have eg := enters_of Try.func27 (by kernel_rfl) rfl
    go_loopw [21] (fun i wk => ∃ k : Nat, k ≤ p.nb ∧ i = .int .i64 k ∧ (∃ (G : Nat → Nat), Blk wk w1.heap.size 23 p.nb (fun i => if i < k then .slice (some ⟨G i, 0, none⟩) p.ns p.ns else .slice none 0 0) ∧ (∀ i, i < k → w1.heap.size < G i ∧ Blk wk (G i) 3 p.ns (fun _ => .int .i64 0))) ∧ Below w1.heap.size w1 wk) (fun i _ => p.nb - (intOf i).toNat)
    case atStart => exact ⟨0, Nat.zero_le _, rfl, ⟨fun _ => 0, hblk.congr (fun j hj => by rw [madeS hj]; simp), fun i hi => absurd hi (Nat.not_lt_zero _)⟩, hB2⟩
    case round =>
      clear hblk hB2
      obtain ⟨k, hk, rfl, hgs, hB⟩ := hrel
      have X2 := X1.below hB
      have hl := X2.lt
      by_cases hlt : k < p.nb
      · have HG : Hid (∃ (G : Nat → Nat), Blk wr w1.heap.size 23 p.nb (fun i => if i < k then .slice (some ⟨G i, 0, none⟩) p.ns p.ns else .slice none 0 0) ∧ (∀ i, i < k → w1.heap.size < G i ∧ Blk wr (G i) 3 p.ns (fun _ => .int .i64 0))) := hgs
        clear hgs
        have m1 : (0 : Int) ≤ (k : Int) := by omega
        go_wp2_with fail
        refine (Begin1_any w.heap.size p wr hns3 hl (X2.cell (j := 1) (by decide))).mono ?_
        rintro e w3 ⟨rfl, hbk, hB3⟩
        obtain ⟨G, gb, gr⟩ := HG.out
        have hb0 := gb.lt
        have gb2 := gb.below hB3
        have hf0 := gb2.frozen k
        have hc0 := gb2.cell hlt
        simp only [Nat.lt_irrefl, if_false] at hc0
        have hB4 := hB.trans (hB3.mono hB.size)
        have st := hB4.setCell (p := ⟨w1.heap.size, k, none⟩) (Nat.le_refl _) (.slice (some ⟨wr.heap.size, 0, none⟩) p.ns p.ns)
        have KB := gb2.set k (.slice (some ⟨wr.heap.size, 0, none⟩) p.ns p.ns)
        have KO : ∀ i, i < k → Blk (w3.setCell ⟨w1.heap.size, k, none⟩ (.slice (some ⟨wr.heap.size, 0, none⟩) p.ns p.ns)) (G i) 3 p.ns (fun _ => .int .i64 0) := fun i hi => ((gr i hi).2.below hB3).other (by have := (gr i hi).1; show _ ≠ w1.heap.size; omega) _
        have KN : Blk (w3.setCell ⟨w1.heap.size, k, none⟩ (.slice (some ⟨wr.heap.size, 0, none⟩) p.ns p.ns)) wr.heap.size 3 p.ns (fun _ => .int .i64 0) := hbk.other (by show _ ≠ w1.heap.size; omega) _
        have HH : Hid _ := And.intro KB (And.intro KO (And.intro KN gr))
        clear KB KO KN gb gb2 gr hbk X2 HG
        go_wp2_with fail
        go_roundw
        case rel =>
          obtain ⟨KB, KO, KN, gr⟩ := HH.out
          refine ⟨k + 1, by omega, by go_num, ⟨fun i => if i = k then wr.heap.size else G i, KB.congr ?_, ?_⟩, st⟩
          · intro j hj
            by_cases hjk : j = k
            · subst hjk; simp
            · by_cases h2 : j < k
              · simp [hjk, h2, show j < k + 1 by omega]
              · simp [hjk, h2, show ¬ j < k + 1 by omega]
          · intro j hj
            by_cases hjk : j = k
            · subst hjk; simp only [if_true]; exact ⟨by omega, KN⟩
            · simp only [if_neg hjk]; exact ⟨(gr j (by omega)).1, KO j (by omega)⟩
        case measure => simp [intOf]; omega
      · have hkn : k = p.nb := by omega
        subst hkn
        have HG : Hid (∃ (G : Nat → Nat), Blk wr w1.heap.size 23 p.nb (fun i => if i < p.nb then .slice (some ⟨G i, 0, none⟩) p.ns p.ns else .slice none 0 0) ∧ (∀ i, i < p.nb → w1.heap.size < G i ∧ Blk wr (G i) 3 p.ns (fun _ => .int .i64 0))) := hgs
        clear hgs
        go_wp2_with fail
        refine (Begin1_any w.heap.size p wr hns3 hl (X2.cell (j := 1) (by decide))).mono ?_
        rintro e w3 ⟨rfl, k3, hB3⟩
        have hB4 := hB.trans (hB3.mono hB.size)
        go_wp2_with fail
        refine (Begin1_any w.heap.size p w3 hns3 (X1.below hB4).lt ((X1.below hB4).cell (j := 1) (by decide))).mono ?_
        rintro e w4 ⟨rfl, k4, hB5⟩
        have hB6 := hB4.trans (hB5.mono hB4.size)
        go_wp2_with fail
        refine (Begin1_any w.heap.size p w4 hns3 (X1.below hB6).lt ((X1.below hB6).cell (j := 1) (by decide))).mono ?_
        rintro e w5 ⟨rfl, k5, hB7⟩
        have hB8 := hB6.trans (hB7.mono hB6.size)
        have Z5 := Z1.below hB8
        have zl := Z5.lt
        have zf0 := Z5.frozen 0
        have zc0 := Z5.cell (j := 0) (by decide)
        have zf1 := Z5.frozen 1
        have zc1 := Z5.cell (j := 1) (by decide)
        have zf2 := Z5.frozen 2
        have zc2 := Z5.cell (j := 2) (by decide)
        have zf3 := Z5.frozen 3
        have zc3 := Z5.cell (j := 3) (by decide)
        have zf4 := Z5.frozen 4
        have zc4 := Z5.cell (j := 4) (by decide)
        have zf5 := Z5.frozen 5
        have zc5 := Z5.cell (j := 5) (by decide)
        have zf6 := Z5.frozen 6
        have zc6 := Z5.cell (j := 6) (by decide)
        go_wp2_with fail
        have KZ := set7_blk Z5 (.slice (some ⟨w1.heap.size, 0, none⟩) p.nb p.nb) (.slice .none 0 0) (.slice .none 0 0) (.slice .none 0 0) (.slice (some ⟨wr.heap.size, 0, none⟩) p.ns p.ns) (.slice (some ⟨w3.heap.size, 0, none⟩) p.ns p.ns) (.slice (some ⟨w4.heap.size, 0, none⟩) p.ns p.ns)
        obtain ⟨G, gb, gr⟩ := HG.out
        have hd35 := hB5.trans (hB7.mono hB5.size)
        have hdr5 := hB3.trans (hd35.mono hB3.size)
        have s1 := Z1.lt
        have sr := hB.size
        have s3 := hB3.size
        have s4 := hB5.size
        have kon := set7_other (b := w.heap.size + 1) (gb.below hdr5) (by omega) (.slice (some ⟨w1.heap.size, 0, none⟩) p.nb p.nb) (.slice .none 0 0) (.slice .none 0 0) (.slice .none 0 0) (.slice (some ⟨wr.heap.size, 0, none⟩) p.ns p.ns) (.slice (some ⟨w3.heap.size, 0, none⟩) p.ns p.ns) (.slice (some ⟨w4.heap.size, 0, none⟩) p.ns p.ns)
        have krw := fun i (hi : i < p.nb) => set7_other (b := w.heap.size + 1) ((gr i hi).2.below hdr5) (by have := (gr i hi).1; omega) (.slice (some ⟨w1.heap.size, 0, none⟩) p.nb p.nb) (.slice .none 0 0) (.slice .none 0 0) (.slice .none 0 0) (.slice (some ⟨wr.heap.size, 0, none⟩) p.ns p.ns) (.slice (some ⟨w3.heap.size, 0, none⟩) p.ns p.ns) (.slice (some ⟨w4.heap.size, 0, none⟩) p.ns p.ns)
        have k3' := set7_other (b := w.heap.size + 1) (k3.below hd35) (by omega) (.slice (some ⟨w1.heap.size, 0, none⟩) p.nb p.nb) (.slice .none 0 0) (.slice .none 0 0) (.slice .none 0 0) (.slice (some ⟨wr.heap.size, 0, none⟩) p.ns p.ns) (.slice (some ⟨w3.heap.size, 0, none⟩) p.ns p.ns) (.slice (some ⟨w4.heap.size, 0, none⟩) p.ns p.ns)
        have k4' := set7_other (b := w.heap.size + 1) (k4.below hB7) (by omega) (.slice (some ⟨w1.heap.size, 0, none⟩) p.nb p.nb) (.slice .none 0 0) (.slice .none 0 0) (.slice .none 0 0) (.slice (some ⟨wr.heap.size, 0, none⟩) p.ns p.ns) (.slice (some ⟨w3.heap.size, 0, none⟩) p.ns p.ns) (.slice (some ⟨w4.heap.size, 0, none⟩) p.ns p.ns)
        have k5' := set7_other (b := w.heap.size + 1) k5 (by omega) (.slice (some ⟨w1.heap.size, 0, none⟩) p.nb p.nb) (.slice .none 0 0) (.slice .none 0 0) (.slice .none 0 0) (.slice (some ⟨wr.heap.size, 0, none⟩) p.ns p.ns) (.slice (some ⟨w3.heap.size, 0, none⟩) p.ns p.ns) (.slice (some ⟨w4.heap.size, 0, none⟩) p.ns p.ns)
        have hbz := set7_below (b := w.heap.size + 1) (hC1.trans (hB8.mono hC1.size)) (by omega) (.slice (some ⟨w1.heap.size, 0, none⟩) p.nb p.nb) (.slice .none 0 0) (.slice .none 0 0) (.slice .none 0 0) (.slice (some ⟨wr.heap.size, 0, none⟩) p.ns p.ns) (.slice (some ⟨w3.heap.size, 0, none⟩) p.ns p.ns) (.slice (some ⟨w4.heap.size, 0, none⟩) p.ns p.ns)
        unfold set7 at KZ kon krw k3' k4' k5' hbz
        generalize (((((((w5.setCell { block := w.heap.size + 1, off := 0 } (Value.slice (some { block := w1.heap.size, off := 0 }) p.nb p.nb)).setCell { block := w.heap.size + 1, off := 1 } (Value.slice none 0 0)).setCell { block := w.heap.size + 1, off := 2 } (Value.slice none 0 0)).setCell { block := w.heap.size + 1, off := 3 } (Value.slice none 0 0)).setCell { block := w.heap.size + 1, off := 4 } (Value.slice (some { block := wr.heap.size, off := 0 }) p.ns p.ns)).setCell { block := w.heap.size + 1, off := 5 } (Value.slice (some { block := w3.heap.size, off := 0 }) p.ns p.ns)).setCell { block := w.heap.size + 1, off := 6 } (Value.slice (some { block := w4.heap.size, off := 0 }) p.ns p.ns)) = WZ at *
        obtain ⟨c0, c1, c2, c3, c4, c5, c6⟩ := box_cells KZ
        refine bodyPost_ret (v := .tuple #[(⟨⟨some ⟨w1.heap.size, 0, none⟩, p.nb, p.nb, fun i => ⟨some ⟨G i, 0, none⟩, p.ns, p.ns, fun _ => 0⟩⟩, ⟨none, 0, 0, fun _ => ⟨0, ⟨none, 0, 0, fun _ => ⟨0, 0, 0, 0⟩⟩⟩⟩, ⟨none, 0, 0, fun _ => ⟨0, 0, 0, 0⟩⟩, ⟨none, 0, 0, fun _ => ⟨0, 0, 0, 0⟩⟩, ⟨some ⟨wr.heap.size, 0, none⟩, p.ns, p.ns, fun _ => 0⟩, ⟨some ⟨w3.heap.size, 0, none⟩, p.ns, p.ns, fun _ => 0⟩, ⟨some ⟨w4.heap.size, 0, none⟩, p.ns, p.ns, fun _ => 0⟩⟩ : St).val, .int .i64 0]) (by simp [results, Try.results9, go_sem, St.val, c0, c1, c2, c3, c4, c5, c6]) rfl ?_
        refine ⟨_, by rw [H0.out], ⟨⟨Nat.le_refl _, by show p.nb ≤ maxLen; unfold maxLen; omega, fun i hi => ?_⟩, ⟨Nat.le_refl _, Nat.zero_le _, fun i hi => absurd hi (Nat.not_lt_zero _)⟩, Hs.none _, Hs.none _, zeroRw k3' hns3, zeroRw k4' hns3, zeroRw k5' hns3⟩, ⟨fun _ => ⟨rfl, fun i hi => ⟨rfl, fun j hj => rfl⟩, rfl, rfl, rfl, ⟨rfl, fun j hj => rfl⟩, ⟨rfl, fun j hj => rfl⟩, ⟨rfl, fun j hj => rfl⟩⟩, fun h => absurd H0.out h⟩, hbz⟩
        have hi' : i < p.nb := hi
        refine ⟨w1.heap.size, 0, rfl, kon.lt, ?_, zeroRw (krw i hi') hns3⟩
        have := kon.cell hi'
        rw [if_pos hi'] at this
        rw [Nat.zero_add]
        exact this
  · have zl := Z1.lt
    have zf0 := Z1.frozen 0
    have zc0 := Z1.cell (j := 0) (by decide)
    have zf1 := Z1.frozen 1
    have zc1 := Z1.cell (j := 1) (by decide)
    have zf2 := Z1.frozen 2
    have zc2 := Z1.cell (j := 2) (by decide)
    have zf3 := Z1.frozen 3
    have zc3 := Z1.cell (j := 3) (by decide)
    have zf4 := Z1.frozen 4
    have zc4 := Z1.cell (j := 4) (by decide)
    have zf5 := Z1.frozen 5
    have zc5 := Z1.cell (j := 5) (by decide)
    have zf6 := Z1.frozen 6
    have zc6 := Z1.cell (j := 6) (by decide)
    go_wp2_with fail
    have KZ := set7_blk Z1 (.slice .none 0 0) (.slice .none 0 0) (.slice .none 0 0) (.slice .none 0 0) (.slice .none 0 0) (.slice .none 0 0) (.slice .none 0 0)
    have hbz := set7_below (b := w.heap.size + 1) hC1 (by omega) (.slice .none 0 0) (.slice .none 0 0) (.slice .none 0 0) (.slice .none 0 0) (.slice .none 0 0) (.slice .none 0 0) (.slice .none 0 0)
    unfold set7 at KZ hbz
    obtain ⟨c0, c1, c2, c3, c4, c5, c6⟩ := box_cells KZ
    refine bodyPost_ret (v := .tuple #[noneS.val, .int .i64 (planE p)]) (by simp [results, Try.results9, go_sem, noneS, St.val, c0, c1, c2, c3, c4, c5, c6]) rfl ?_
    exact ⟨noneS, rfl, noneS_at _, ⟨fun h => absurd h h0, fun _ => ⟨rfl, rfl, rfl, rfl, rfl, rfl, rfl⟩⟩, hbz⟩

end Go.Proofs.Ytjiodlbblmbibac
/- As R4; and behind what is taken first and what is made come operations alone, of which the last may change what was read. No program in it. -/
namespace Go.Proofs.Ytjiodlbblmbibac
open Go.RowKit
set_option linter.unusedVariables false

def wpAnyT (P : Program) (ops : Array Oper) (Q : Exit → Act → World → Prop) (S : World → Prop) (T : Nat → Bool) : Nat → Array Bool → Act → World → Prop
  | 0, listed, a, w => Region.ready .any ops listed = [] ∧ Q .normal a w
  | fuel + 1, listed, a, w => (Region.ready .any ops listed = [] → Q .normal a w) ∧
      ∀ i ∈ Region.ready .any ops listed, wpOp P ops Q i (fun a' w' => (T i = false → S w') ∧ wpAnyT P ops Q S T fuel (listed.setIfInBounds i true) a' w') a w

theorem wpAny_of_T {P : Program} {ops : Array Oper} {Q : Exit → Act → World → Prop} {S : World → Prop} {T : Nat → Bool} : ∀ (fuel : Nat) (listed : Array Bool) (a : Act) (w : World), wpAnyT P ops Q S T fuel listed a w → wpAny P .any ops Q fuel listed a w
  | 0, _, _, _, h => h
  | fuel + 1, _, _, _, h => ⟨h.1, fun i hi => wpOp_mono (fun a' w' h' => wpAny_of_T fuel _ a' w' h'.2) (h.2 i hi)⟩

/-- What has come has come behind all that it waits for. -/
def Closed (ops : Array Oper) (listed : Array Bool) : Prop := ∀ j, listed.getD j false = true → ∀ d ∈ depsOf ops j, listed.getD d false = true
def reach (ops : Array Oper) : Nat → Nat → Nat → Bool
  | 0, _, _ => false
  | f + 1, j, i => (depsOf ops j).any (fun d => d == i || reach ops f d i)
theorem reach_listed {ops : Array Oper} {listed : Array Bool} (hc : Closed ops listed) : ∀ (f j i : Nat), (∀ d ∈ depsOf ops j, listed.getD d false = true) → reach ops f j i = true → listed.getD i false = true
  | 0, _, _, _, h => by simp [reach] at h
  | f + 1, j, i, hd, h => by
    unfold reach at h
    obtain ⟨d, hd1, hd2⟩ := List.any_eq_true.1 h
    simp only [Bool.or_eq_true, beq_iff_eq] at hd2
    rcases hd2 with rfl | hd2
    · exact hd d hd1
    · exact reach_listed hc f d i (hc d (hd d hd1)) hd2
theorem ready_deps {ops : Array Oper} {listed : Array Bool} {j : Nat} (h : j ∈ Region.ready .any ops listed) : ∀ d ∈ depsOf ops j, listed.getD d false = true := fun d hd => by
  obtain ⟨_, o, ho, hdep⟩ := mem_ready.1 h
  unfold depsOf at hd
  rw [ho] at hd
  obtain ⟨e, he, rfl⟩ := List.mem_map.1 hd
  have := List.mem_filter.1 he
  exact hdep e (by simpa using this.1) this.2
theorem getD_mono {listed : Array Bool} {i d : Nat} (h : listed.getD d false = true) : (listed.setIfInBounds i true).getD d false = true := by
  by_cases hid : i = d
  · subst hid
    by_cases hl : i < listed.size
    · simp [Array.getD, hl]
    · simp [Array.getD, hl] at h
  · rw [getD_set_ne false hid]; exact h
theorem Closed.set {ops : Array Oper} {listed : Array Bool} (hc : Closed ops listed) {i : Nat} (hi : i ∈ Region.ready .any ops listed) : Closed ops (listed.setIfInBounds i true) := fun j hj d hd => by
  by_cases hij : i = j
  · subst hij; exact getD_mono (ready_deps hi d hd)
  · rw [getD_set_ne false hij] at hj
    exact getD_mono (hc j hj d hd)
theorem Closed.none (ops : Array Oper) (n : Nat) : Closed ops (Array.replicate n false) := fun j hj => by
  by_cases hl : j < n <;> simp [Array.getD, hl] at hj

theorem wpAnyT_first {P : Program} {ops : Array Oper} {Q : Exit → Act → World → Prop} {S : World → Prop} {T : Nat → Bool} {N : Nat} {i : Nat} {oi : Oper} {v : Value} (hi : ops[i]? = some oi) (hsel : ∀ (j : Nat) (o : Oper) cs b, ops[j]? = some o → o.op ≠ .select cs b)
    (hQ : ∀ c a w, Q (.panic c) (a.put oi.dst v) w → Q (.panic c) a w) (hT : ∀ j, T j = true → reach ops N j i = true) (hTi : T i = false) :
    ∀ (fuel : Nat) (listed : Array Bool) (a : Act) (w : World),
      (∀ j oj, ops[j]? = some oj → j ≠ i → listed.getD j true = false → (∀ e ∈ oj.after, Region.binds .any e = true → e.on ≠ i) → oi.apart ops oj = true) →
      i ∈ Region.ready .any ops listed → Closed ops listed → YieldsIf P ops S oi v a → S w →
      wpAnyT P ops Q S T fuel (listed.setIfInBounds i true) (a.put oi.dst v) w → wpAnyT P ops Q S T (fuel + 1) listed a w := by
  intro fuel
  induction fuel with
  | zero =>
    intro listed a w _ hr _ hy hS H
    refine ⟨fun h => (by rw [h] at hr; cases hr), fun j hj => ?_⟩
    by_cases hji : j = i
    · subst hji; exact hy.wpOp hi hS ⟨fun _ => hS, H⟩
    · have := ready_mono hj hji
      rw [H.1] at this
      cases this
  | succ fuel ih =>
    intro listed a w hfree hr hc hy hS H
    refine ⟨fun h => (by rw [h] at hr; cases hr), fun j hj => ?_⟩
    by_cases hji : j = i
    · subst hji; exact hy.wpOp hi hS ⟨fun _ => hS, H⟩
    · have h1 := H.2 j (ready_mono hj hji)
      obtain ⟨hjun, oj, hoj, hall⟩ := mem_ready.1 hj
      have hiun : ¬ listed.getD i false = true := fun h1 => by
        have h0 := (mem_ready.1 hr).1
        rcases Nat.lt_or_ge i listed.size with h' | h'
        · simp [h'] at h0 h1; rw [h0] at h1; cases h1
        · simp [Array.getElem?_eq_none h'] at h1
      have hnot : ∀ e ∈ oj.after, Region.binds .any e = true → e.on ≠ i := fun e he hb heq => by
        have h1 := hall e he hb
        rw [heq] at h1
        exact hiun h1
      have hTj : T j = false := by
        cases hq : T j
        · rfl
        · exact absurd (reach_listed hc N j i (ready_deps hj) (hT j hq)) hiun
      have h2 := wpOp_putIf hoj (hfree j oj hoj hji hjun hnot) (fun cs b => hsel i oi cs b hi) (fun cs b => hsel j oj cs b hoj) hQ hy h1
      have hfree' : ∀ k ok, ops[k]? = some ok → k ≠ i → (listed.setIfInBounds j true).getD k true = false →
          (∀ e ∈ ok.after, Region.binds .any e = true → e.on ≠ i) → oi.apart ops ok = true := fun k ok hk hki hun hno => by
        refine hfree k ok hk hki ?_ hno
        by_cases hjk : j = k
        · subst hjk; exact hjun
        · rw [getD_set_ne true hjk] at hun; exact hun
      refine wpOp_mono (fun a' w' h3 => ⟨h3.2.1, ih (listed.setIfInBounds j true) a' w' hfree' (ready_mono hr (Ne.symm hji)) (hc.set hj) h3.1 (h3.2.1 hTj) ?_⟩) h2
      rw [Array.setIfInBounds_comm _ _ hji]
      exact h3.2.2

theorem wpAnyT_firsts {P : Program} {l : List Oper} {Q : Exit → Act → World → Prop} {S : World → Prop} {T : Nat → Bool} {N : Nat} {K : Act → Prop} {w : World} {fuel : Nat} (hs : Region.noSelect l.toArray = true) (hS : S w) (hQ : ∀ c a a' w, Q (.panic c) a w → Q (.panic c) a' w) :
    ∀ (ks : List Nat) (os : List Oper) (listed : Array Bool) (a : Act), firstsB l.toArray ks listed = true → (∀ k ∈ ks, T k = false ∧ ∀ j, T j = true → reach l.toArray N j k = true) → Closed l.toArray listed → ks.map (fun k => l[k]?) = os.map some → (os.all vKind2) = true →
      wpQuiet P l.toArray S K os a → (∀ a, K a → Closed l.toArray (mark listed ks) → wpAnyT P l.toArray Q S T fuel (mark listed ks) a w) → wpAnyT P l.toArray Q S T (ks.length + fuel) listed a w
  | [], [], listed, a, _, _, hc, _, _, h, hK => by rw [List.length_nil, Nat.zero_add]; exact hK a h hc
  | k :: ks, o :: os, listed, a, hB, hTk, hc, hk, hv, h, hK => by
    simp only [List.map_cons, List.cons.injEq] at hk
    simp only [List.all_cons, Bool.and_eq_true] at hv
    simp only [firstsB, Bool.and_eq_true] at hB
    rw [List.length_cons, Nat.add_right_comm]
    have hready : k ∈ Region.ready .any l.toArray listed := by simpa using hB.1.1
    have go : ∀ v, YieldsIf P l.toArray S o v a → wpAnyT P l.toArray Q S T (ks.length + fuel) (listed.setIfInBounds k true) (a.put o.dst v) w → wpAnyT P l.toArray Q S T (ks.length + fuel + 1) listed a w :=
      fun v hy h' => wpAnyT_first (N := N) (by simpa using hk.1) (Region.noSelect_spec hs) (fun c a w hq => hQ _ _ _ _ hq) (hTk k (by simp)).2 (hTk k (by simp)).1 _ listed a w (Region.free_spec (by simpa using hk.1) hB.1.2) hready hc hy hS h'
    have again := fun (a : Act) (hq : wpQuiet P l.toArray S K os a) => wpAnyT_firsts (N := N) (T := T) (fuel := fuel) hs hS hQ ks os _ a hB.2 (fun k' hk' => hTk k' (by simp [hk'])) (hc.set hready) hk.2 hv.2 hq hK
    unfold wpQuiet at h
    split at h
    · rename_i hw
      obtain ⟨v, h1, h2⟩ := h
      refine go v (.inl ⟨hw, fun w' hS => ?_⟩) (again _ h2)
      have := h1 w' hS
      unfold Oper.quietAt at this
      cases hr : (execOp a.eval o).run P w' with
      | ok n w2 =>
        rw [hr] at this
        obtain ⟨u, rfl⟩ := vKind2_spec hv.1 hr
        simp only [Oper.quietUpon] at this
        rw [this.1, this.2]
      | halt x w2 => rw [hr] at this; exact this.elim
    · rename_i hw
      exact go undef (.inr ⟨by simpa using hw, rfl⟩) (again _ h)
  | [], _ :: _, _, _, _, _, _, hk, _, _, _ => by simp at hk
  | _ :: _, [], _, _, _, _, _, hk, _, _, _ => by simp at hk

def Late (t : Bool) (S : World → Prop) (w : World) : Prop := t = false → S w
theorem Late.yes {S : World → Prop} {w : World} : Late true S w := fun h => by cases h
theorem Late.no {S : World → Prop} {w : World} (h : S w) : Late false S w := fun _ => h
/-- The rest: each alone; marked true: S need not hold behind it. -/
def wpSeq (P : Program) (ops : Array Oper) (Q : Exit → Act → World → Prop) (S : World → Prop) : List (Bool × Nat) → Act → World → Prop
  | [], a, w => Q .normal a w
  | (t, i) :: r, a, w => wpOp P ops Q i (fun a' w' => Late t S w' ∧ wpSeq P ops Q S r a' w') a w
def seqB (ops : Array Oper) : List (Bool × Nat) → Array Bool → Bool
  | [], listed => Region.ready .any ops listed == []
  | (t, i) :: r, listed => Region.ready .any ops listed == [i] && seqB ops r (listed.setIfInBounds i true)
theorem wpAnyT_seq {P : Program} {ops : Array Oper} {Q : Exit → Act → World → Prop} {S : World → Prop} {T : Nat → Bool} : ∀ (ord : List (Bool × Nat)) (listed : Array Bool) (a : Act) (w : World),
      seqB ops ord listed = true → (∀ t i, (t, i) ∈ ord → T i = t) → wpSeq P ops Q S ord a w → wpAnyT P ops Q S T ord.length listed a w
  | [], listed, a, w, hB, _, h => ⟨by simpa [seqB] using hB, h⟩
  | (t, i) :: r, listed, a, w, hB, hT, h => by
    simp only [seqB, Bool.and_eq_true, beq_iff_eq] at hB
    refine ⟨fun h0 => absurd (hB.1.symm.trans h0) (by simp), fun j hj => ?_⟩
    rw [hB.1, List.mem_singleton] at hj
    subst hj
    refine wpOp_mono (fun a' w' h' => ⟨?_, wpAnyT_seq r _ a' w' hB.2 (fun t i hti => hT t i (by simp [hti])) h'.2⟩) h
    rw [hT t j (by simp)]
    exact h'.1
theorem wpList_end {P : Program} {ops : Array Oper} {K : Act → World → Prop} {Q : Exit → Act → World → Prop} {a : Act} {w : World} (h : K a w) : wpList P ops (Exit.then K Q) [] a w := by unfold wpList; exact h
theorem wpSeq_one {P : Program} {l : List Oper} {Q : Exit → Act → World → Prop} {S : World → Prop} {r : List (Bool × Nat)} {t : Bool} (k : Nat) {o : Oper} {a : Act} {w : World} (hk : l[k]? = some o)
    (h : wpList P l.toArray (Exit.then (fun a' w' => Late t S w' ∧ wpSeq P l.toArray Q S r a' w') Q) [o] a w) : wpSeq P l.toArray Q S ((t, k) :: r) a w :=
  wpOp_list k hk h

def madeB5 (ops : Array Oper) (rem : List Nat) (L : Array Bool) : Bool :=
  (List.range ops.size).all (fun i => L.getD i true || rem.contains i || rem.all (fun r => reach ops ops.size i r)) &&
  topoB ops L [] rem && rem.all (fun r => decide (r < ops.size) && !L.getD r true) && decide (L.size = ops.size) && decide ((rem.map (dstOf ops)).Nodup)

theorem made_aux5 {P : Program} {ops : Array Oper} {Q : Exit → Act → World → Prop} {S : World → Prop} {T : Nat → Bool} {rem : List Nat} {L : Array Bool} {a1 : Act} {D : Nat → Value → List Nat → World → Prop} {fuel : Nat} (hB : madeB5 ops rem L = true) (hT : ∀ r ∈ rem, T r = false)
    (mono : ∀ j ∈ rem, ∀ v g w w', Below w.heap.size w w' → D j v g w → D j v g w') (lt : ∀ j ∈ rem, ∀ v g w, D j v g w → ∀ x ∈ g, x < w.heap.size)
    (step : ∀ i ∈ rem, ∀ (V : Nat → Value) (G : Nat → List Nat) (w : World) (K : Act → World → Prop), S w → (∀ d ∈ depsOf ops i, d ∈ rem → D d (V d) (G d) w) →
      (∀ v g w', S w' → Below w.heap.size w w' → (∀ x ∈ g, w.heap.size ≤ x) → D i v g w' → K ((putAll ops rem V a1).put (dstOf ops i) v) w') → wpOp P ops Q i K (putAll ops rem V a1) w)
    (done : ∀ (V : Nat → Value) (G : Nat → List Nat) (w : World), S w → (∀ j ∈ rem, D j (V j) (G j) w) → (∀ j ∈ rem, ∀ k ∈ rem, j ≠ k → ∀ x ∈ G j, x ∉ G k) → wpAnyT P ops Q S T fuel (mark L rem) (putAll ops rem V a1) w) :
    ∀ (m : Nat) (listed : Array Bool) (V : Nat → Value) (G : Nat → List Nat) (w : World), (rem.filter (fun r => !listed.getD r true)).length = m → listed.size = ops.size → (∀ j, j ∉ rem → listed[j]? = L[j]?) → Closed ops listed → S w → (∀ j ∈ rem, listed.getD j true = true → D j (V j) (G j) w) →
      (∀ j ∈ rem, ∀ k ∈ rem, listed.getD j true = true → listed.getD k true = true → j ≠ k → ∀ x ∈ G j, x ∉ G k) → wpAnyT P ops Q S T (m + fuel) listed (putAll ops rem V a1) w := by
  simp only [madeB5, Bool.and_eq_true, decide_eq_true_eq] at hB
  obtain ⟨⟨⟨⟨hoth, htopo⟩, hrem⟩, hLs⟩, hnd⟩ := hB
  have hrem' : ∀ r ∈ rem, r < ops.size ∧ L.getD r true = false := fun r hr => by
    have := List.all_eq_true.1 hrem r hr
    simpa using this
  intro m
  induction m with
  | zero =>
    intro listed V G w hm hsz hag hcl hS hD hA
    have hall : ∀ r ∈ rem, listed.getD r true = true := fun r hr => by
      cases hq : listed.getD r true
      · have : r ∈ rem.filter (fun r => !listed.getD r true) := List.mem_filter.2 ⟨hr, by simp [hq]⟩
        rw [List.length_eq_zero_iff.1 hm] at this
        simp at this
      · rfl
    have hl : listed = mark L rem := by
      apply Array.ext_getElem?
      intro j
      by_cases hj : j < L.size
      · rw [mark_get rem L j hj]
        by_cases hjr : j ∈ rem
        · rw [if_pos hjr]
          have h1 := hall j hjr
          have h2 : j < listed.size := by omega
          simp only [Array.getD, h2, dif_pos] at h1
          simp [h2]
          exact h1
        · rw [if_neg hjr]; exact hag j hjr
      · rw [Array.getElem?_eq_none (by omega), Array.getElem?_eq_none (by rw [mark_size]; omega)]
    rw [Nat.zero_add, hl]
    exact done V G w hS (fun j hj => hD j hj (hall j hj)) fun j hj k hk => hA j hj k hk (hall j hj) (hall k hk)
  | succ m ih =>
    intro listed V G w hm hsz hag hcl hS hD hA
    have hex : ∃ r ∈ rem, listed.getD r true = false := by
      have hne : rem.filter (fun r => !listed.getD r true) ≠ [] := fun e => by rw [e] at hm; simp at hm
      obtain ⟨x, hx⟩ := List.exists_mem_of_ne_nil _ hne
      have := List.mem_filter.1 hx
      exact ⟨x, this.1, by simpa using this.2⟩
    have hLl : ∀ d, L.getD d false = true → listed.getD d false = true := fun d hd => by
      by_cases hdr : d ∈ rem
      · have h1 := (hrem' d hdr).2
        have h2 : d < L.size := by have := (hrem' d hdr).1; omega
        simp only [Array.getD, h2, dif_pos] at h1 hd
        rw [h1] at hd; cases hd
      · have h1 := hag d hdr
        by_cases h2 : d < L.size
        · have h3 : d < listed.size := by omega
          simp only [Array.getD, h2, h3, dif_pos] at hd ⊢
          simp only [Array.getElem?_eq_getElem h2, Array.getElem?_eq_getElem h3, Option.some.injEq] at h1
          rw [Array.getInternal_eq_getElem] at hd ⊢
          rw [h1]; exact hd
        · simp [Array.getD, h2] at hd
    obtain ⟨r0, hr0, hr0r⟩ := topo_ready hsz [] rem htopo hLl (fun d hd => by simp at hd) (fun r hr => (hrem' r hr).1) hex
    rw [Nat.add_right_comm]
    refine ⟨fun h0 => absurd (h0 ▸ hr0r) (by simp), fun i hi => ?_⟩
    obtain ⟨hli, o, ho, hdep⟩ := mem_ready.1 hi
    have hdeps : ∀ d ∈ depsOf ops i, listed.getD d false = true := fun d hd => by
      unfold depsOf at hd
      rw [ho] at hd
      obtain ⟨e, he, rfl⟩ := List.mem_map.1 hd
      have := List.mem_filter.1 he
      exact hdep e (by simpa using this.1) this.2
    have hdt : ∀ d, listed.getD d false = true → listed.getD d true = true := fun d hd => by
      by_cases h2 : d < listed.size
      · simpa [Array.getD, h2] using hd
      · simp [Array.getD, h2]
    have hir : i ∈ rem := by
      cases hc : rem.contains i
      · exfalso
        have hlt : i < ops.size := (Array.getElem?_eq_some_iff.1 ho).1
        have hnr : i ∉ rem := fun h => by
          have := List.contains_iff_mem.2 h
          rw [this] at hc; cases hc
        have h1 := List.all_eq_true.1 hoth i (List.mem_range.2 hlt)
        have hLi : L.getD i true = false := by
          have h2 := hag i hnr
          have h3 : i < L.size := by omega
          have h4 : i < listed.size := by omega
          simp only [Array.getElem?_eq_getElem h3, Array.getElem?_eq_getElem h4, Option.some.injEq] at h2
          simp only [Array.getD, h3, h4, dif_pos] at hli ⊢
          rw [Array.getInternal_eq_getElem] at hli ⊢
          rw [← h2]; exact hli
        rw [hLi, hc] at h1
        simp only [Bool.false_or] at h1
        obtain ⟨q, hq, hq2⟩ := hex
        have h5 := List.all_eq_true.1 h1 q hq
        have h6 := hdt q (reach_listed hcl _ i q (ready_deps hi) h5)
        rw [hq2] at h6; cases h6
      · exact List.contains_iff_mem.1 hc
    refine step i hir V G w _ hS (fun d hd hdr => hD d hdr (hdt d (hdeps d hd))) (fun v g w' hS' hBel hfr hDi => ?_)
    refine ⟨fun _ => hS', ?_⟩
    rw [putAll_put hnd hir]
    have hin : i < listed.size := by rw [hsz]; exact (hrem' i hir).1
    have gset : ∀ j, (listed.setIfInBounds i true).getD j true = if j = i then true else listed.getD j true := fun j => by
      by_cases hj : j = i
      · subst hj; simp [Array.getD, hin]
      · rw [if_neg hj, getD_set_ne true (fun e => hj e.symm)]
    refine ih (listed.setIfInBounds i true) (upd V i v) (fun j => if j = i then g else G j) w' ?_ (by simpa using hsz) (fun j hj => ?_) (hcl.set hi) hS' (fun j hj hlj => ?_) (fun j hj k hk hlj hlk hjk x hx => ?_)
    · have hnodup : rem.Nodup := by
        exact (List.pairwise_map.1 hnd).imp (fun h e => h (by rw [e]))
      have e1 : (rem.filter (fun r => !listed.getD r true)) = rem.filter (fun r => !listed.getD r true) := rfl
      have hcount : (rem.filter (fun r => !(listed.setIfInBounds i true).getD r true)) = (rem.filter (fun r => !listed.getD r true)).erase i := by
        have e2 : rem.filter (fun r => !(listed.setIfInBounds i true).getD r true) = (rem.filter (fun r => !listed.getD r true)).filter (fun r => r != i) := by
          rw [List.filter_filter]
          refine List.filter_congr fun x hx => ?_
          rw [gset x]
          by_cases hxi : x = i <;> simp [hxi]
        rw [e2, ← List.Nodup.erase_eq_filter (hnodup.filter _)]
      rw [hcount, List.length_erase_of_mem (List.mem_filter.2 ⟨hir, by simp [hli]⟩), hm]
      rfl
    · rw [Array.getElem?_setIfInBounds, if_neg (fun e : i = j => hj (by rw [← e]; exact hir))]
      exact hag j hj
    · unfold upd
      by_cases hji : j = i
      · subst hji; rw [if_pos rfl, if_pos rfl]; exact hDi
      · rw [if_neg hji, if_neg hji]
        rw [gset j, if_neg hji] at hlj
        exact mono j hj _ _ _ _ hBel (hD j hj hlj)
    · by_cases hji : j = i
      · have hki : ¬ k = i := fun e => hjk (hji.trans e.symm)
        rw [if_pos hji] at hx
        rw [if_neg hki]
        rw [gset k, if_neg hki] at hlk
        intro hx2
        have h1 := hfr x hx
        have h2 := lt k hk _ _ _ (hD k hk hlk) x hx2
        omega
      · rw [if_neg hji] at hx
        rw [gset j, if_neg hji] at hlj
        by_cases hki : k = i
        · rw [if_pos hki]
          intro hx2
          have h1 := hfr x hx2
          have h2 := lt j hj _ _ _ (hD j hj hlj) x hx
          omega
        · rw [if_neg hki]
          rw [gset k, if_neg hki] at hlk
          exact hA j hj k hk hlj hlk hjk x hx

/-- What is to be shown behind what is taken first. -/
def Made5 (P : Program) (ops : Array Oper) (Q : Exit → Act → World → Prop) (S : World → Prop) (rem : List Nat) (ord : List (Bool × Nat)) (a1 : Act) : Prop :=
  ∃ D : Nat → Value → List Nat → World → Prop, (∀ j ∈ rem, ∀ v g w w', Below w.heap.size w w' → D j v g w → D j v g w') ∧ (∀ j ∈ rem, ∀ v g w, D j v g w → ∀ x ∈ g, x < w.heap.size) ∧
    (∀ i ∈ rem, ∀ (V : Nat → Value) (G : Nat → List Nat) (w : World) (K : Act → World → Prop), S w → (∀ d ∈ depsOf ops i, d ∈ rem → D d (V d) (G d) w) →
      (∀ v g w', S w' → Below w.heap.size w w' → (∀ x ∈ g, w.heap.size ≤ x) → D i v g w' → K ((putAll ops rem V a1).put (dstOf ops i) v) w') → wpOp P ops (NoPanic Q) i K (putAll ops rem V a1) w) ∧
    (∀ (V : Nat → Value) (G : Nat → List Nat) (w : World), S w → (∀ j ∈ rem, D j (V j) (G j) w) → (∀ j ∈ rem, ∀ k ∈ rem, j ≠ k → ∀ x ∈ G j, x ∉ G k) → wpSeq P ops (NoPanic Q) S ord (putAll ops rem V a1) w)

def tailsB (ops : Array Oper) (ks rem : List Nat) (ord : List (Bool × Nat)) : Bool :=
  ks.all (fun k => !ord.contains (true, k) && ord.all (fun x => !x.1 || reach ops ops.size x.2 k)) && rem.all (fun r => !ord.contains (true, r)) && ord.all (fun x => x.1 || !ord.contains (true, x.2))

theorem wp_region_made5 {P : Program} {l : List Oper} {Q : Exit → Act → World → Prop} {id : Nat} {a : Act} {w : World} (S : World → Prop) (ks rem : List Nat) (ord : List (Bool × Nat))
    (hm : P.follows .mixedOrders = true) (hs : Region.noSelect l.toArray = true) (hF : firstsB l.toArray ks (Array.replicate l.length false) = true) (hks : ks.all (fun k => decide (k < l.length)) = true) (hv : ((picks l ks).all vKind2) = true)
    (hM : madeB5 l.toArray rem (mark (Array.replicate l.length false) ks) = true) (hTB : tailsB l.toArray ks rem ord = true) (hB : seqB l.toArray ord (mark (mark (Array.replicate l.length false) ks) rem) = true) (hl : ks.length + (rem.length + ord.length) = l.length)
    (hS : S w.drew) (h : wpQuiet P l.toArray S (Made5 P l.toArray Q S rem ord) (picks l ks) a) : (Code.region id l.toArray true).wp P Q a w := by
  refine wp_region_noPanic (wp_region_any hm ?_)
  have hM' := hM
  simp only [madeB5, Bool.and_eq_true, decide_eq_true_eq] at hM'
  simp only [tailsB, Bool.and_eq_true] at hTB
  have hT : ∀ j, (ord.contains (true, j)) = true → (true, j) ∈ ord := fun j h => by simpa using h
  have key := wpAnyT_firsts (Q := NoPanic Q) (T := fun i => ord.contains (true, i)) (N := l.toArray.size) (fuel := rem.length + ord.length) (w := w.drew) hs hS (fun c a a' w h => (h : False).elim) ks (picks l ks) _ a hF (fun k hk => ?_) (Closed.none _ _) (picks_ok hks) hv h (fun a1 hK hcl => ?_)
  · have := wpAny_of_T _ _ _ _ key
    rw [hl] at this
    simpa using this
  · have h1 := List.all_eq_true.1 hTB.1.1 k hk
    simp only [Bool.and_eq_true] at h1
    refine ⟨by simpa using h1.1, fun j hj => ?_⟩
    have h2 := List.all_eq_true.1 h1.2 (true, j) (hT j hj)
    simpa using h2
  · obtain ⟨D, mono, lt, step, done⟩ := hK
    have hall : (rem.filter (fun r => !(mark (Array.replicate l.length false) ks).getD r true)) = rem := by
      rw [List.filter_eq_self]
      intro r hr
      have := List.all_eq_true.1 hM'.1.1.2 r hr
      simp only [Bool.and_eq_true] at this
      exact this.2
    have hun : ∀ j ∈ rem, (mark (Array.replicate l.length false) ks).getD j true = true → False := fun j hj hlj => by
      have := List.all_eq_true.1 hM'.1.1.2 j hj
      simp only [Bool.and_eq_true, hlj] at this
      simp at this
    obtain ⟨V0, hV0⟩ : ∃ V0, putAll l.toArray rem V0 a1 = a1 := ⟨_, putAll_self a1 rem⟩
    have := made_aux5 (P := P) (Q := NoPanic Q) (S := S) (T := fun i => ord.contains (true, i)) (a1 := a1) (fuel := ord.length) hM (fun r hr => by have := List.all_eq_true.1 hTB.1.2 r hr; simpa using this) mono lt step
      (fun V G w' hS' hD hA => wpAnyT_seq ord _ _ w' hB (fun t i hti => by
        cases t with
        | true => simpa using hti
        | false =>
          have := List.all_eq_true.1 hTB.2 (false, i) hti
          simpa using this) (done V G w' hS' hD hA))
      rem.length (mark (Array.replicate l.length false) ks) V0 (fun _ => []) w.drew (by rw [hall]) hM'.1.2 (fun _ _ => rfl) hcl hS (fun j hj hlj => (hun j hj hlj).elim) (fun j hj k hk hlj _ _ => (hun j hj hlj).elim)
    rw [hV0] at this
    exact this

end Go.Proofs.Ytjiodlbblmbibac
/- A state that is copied: copies.State. -/
namespace Go.Proofs.Ytjiodlbblmbibac
open Go.RowKit Go.Shelf Go.Sort
set_option linter.unusedVariables false

/-- Numbers of the call's own. -/
def OwnI (A : Nat) (w : World) (r : Rw) : Prop := ∃ g, r.a = some ⟨g, 0, none⟩ ∧ A ≤ g ∧ r.n ≤ r.c ∧ r.c ≤ maxLen ∧ Blk w g 3 r.n (fun j => .int .i64 (r.z j))
theorem OwnI.at {A : Nat} {w : World} {r : Rw} (h : OwnI A w r) : r.At w := by
  obtain ⟨g, ha, _, h1, h2, hb⟩ := h
  exact ⟨h1, h2, fun i hi => ⟨g, 0, ha, hb.lt, by rw [Nat.zero_add]; exact hb.cell hi⟩⟩
theorem OwnI.below {A : Nat} {w w' : World} {r : Rw} (h : OwnI A w r) (hB : Below w.heap.size w w') : OwnI A w' r := by
  obtain ⟨g, ha, h0, h1, h2, hb⟩ := h
  exact ⟨g, ha, h0, h1, h2, hb.below hB⟩
/-- A state of the call's own, new since A: each list in blocks of its own type, no two lists of numbers in one. -/
structure OwnS (A : Nat) (w : World) (s : St) : Prop where
  on : ∃ g, s.on.a = some ⟨g, 0, none⟩ ∧ A ≤ g ∧ s.on.n ≤ s.on.c ∧ s.on.c ≤ maxLen ∧ Blk w g 23 s.on.n (fun i => .slice (s.on.r i).a (s.on.r i).n (s.on.r i).c)
  rows : ∀ i, i < s.on.n → OwnI A w (s.on.r i)
  rapart : ∀ i j, i < j → j < s.on.n → (s.on.r i).a ≠ (s.on.r j).a
  os : OwnO A w s.os
  hs : OwnH A 65 w s.hs
  ms : OwnH A 70 w s.ms
  msr : Room A w 70 4 s.ms.a s.ms.c
  si : OwnI A w s.si
  so : OwnI A w s.so
  sf : OwnI A w s.sf
  aio : s.si.a ≠ s.so.a
  aif : s.si.a ≠ s.sf.a
  aof : s.so.a ≠ s.sf.a
  ari : ∀ i, i < s.on.n → (s.on.r i).a ≠ s.si.a ∧ (s.on.r i).a ≠ s.so.a ∧ (s.on.r i).a ≠ s.sf.a
theorem OwnS.at {A : Nat} {w : World} {s : St} (h : OwnS A w s) : s.At w := by
  obtain ⟨g, ha, _, h1, h2, hb⟩ := h.on
  exact ⟨⟨h1, h2, fun i hi => ⟨g, 0, ha, hb.lt, by rw [Nat.zero_add]; exact hb.cell hi, (h.rows i hi).at⟩⟩, h.os.at, h.hs.at, h.ms.at, h.si.at, h.so.at, h.sf.at⟩

theorem OwnI.other {A : Nat} {t : TypeId} {w : World} {r : Rw} {q n : Nat} {f : Nat → Value} (h : OwnI A w r) (hq : Blk w q t n f) (hne : 3 ≠ t) (j : Nat) (u : Value) : OwnI A (w.setCell ⟨q, j, none⟩ u) r := by
  obtain ⟨g, ha, h0, h1, h2, hb⟩ := h
  exact ⟨g, ha, h0, h1, h2, hb.other (a := ⟨q, j, none⟩) (Blk.ne2 hb hq hne) u⟩
theorem OwnO.other {A : Nat} {t : TypeId} {w : World} {s : Os} {q n : Nat} {f : Nat → Value} (h : OwnO A w s) (hq : Blk w q t n f) (h1 : 51 ≠ t) (h2 : 53 ≠ t) (j : Nat) (u : Value) : OwnO A (w.setCell ⟨q, j, none⟩ u) s := by
  refine ⟨h.le, h.cap, fun hn => ?_, fun i hi => ?_, h.apart, h.room.set q j u⟩
  · obtain ⟨g, a, b, c⟩ := h.list hn
    exact ⟨g, a, b, c.other (a := ⟨q, j, none⟩) (Blk.ne2 c hq h1) u⟩
  · obtain ⟨B, a, b, c, d, e⟩ := h.lines i hi
    exact ⟨B, a, b, c, d, e.other (a := ⟨q, j, none⟩) (Blk.ne2 e hq h2) u⟩
/-- A box of a state is none of its blocks. -/
theorem OwnS.box {A : Nat} {w : World} {s : St} {q n : Nat} {f : Nat → Value} (h : OwnS A w s) (hq : Blk w q 31 n f) (j : Nat) (u : Value) : OwnS A (w.setCell ⟨q, j, none⟩ u) s := by
  refine ⟨?_, fun i hi => (h.rows i hi).other hq (by decide) j u, h.rapart, h.os.other hq (by decide) (by decide) j u, h.hs.other hq (by decide) j u, h.ms.other hq (by decide) j u, h.msr.set q j u, h.si.other hq (by decide) j u, h.so.other hq (by decide) j u, h.sf.other hq (by decide) j u, h.aio, h.aif, h.aof, h.ari⟩
  obtain ⟨g, ha, h0, h1, h2, hb⟩ := h.on
  exact ⟨g, ha, h0, h1, h2, hb.other (a := ⟨q, j, none⟩) (Blk.ne2 hb hq (by decide)) u⟩
theorem OwnS.set7 {A : Nat} {w : World} {s : St} {b : Nat} {f : Nat → Value} (h : OwnS A w s) (hq : Blk w b 31 7 f) (v0 v1 v2 v3 v4 v5 v6 : Value) : OwnS A (Go.Proofs.Ytjiodlbblmbibac.set7 w b v0 v1 v2 v3 v4 v5 v6) s :=
  ((((((h.box hq 0 v0).box (hq.set 0 v0) 1 v1).box ((hq.set 0 v0).set 1 v1) 2 v2).box (((hq.set 0 v0).set 1 v1).set 2 v2) 3 v3).box ((((hq.set 0 v0).set 1 v1).set 2 v2).set 3 v3) 4 v4).box (((((hq.set 0 v0).set 1 v1).set 2 v2).set 3 v3).set 4 v4) 5 v5).box ((((((hq.set 0 v0).set 1 v1).set 2 v2).set 3 v3).set 4 v4).set 5 v5) 6 v6

def DRows (A : Nat) (s : St) (v : Value) (g : List Nat) (wk : World) : Prop := ∃ (g0 : Nat) (G C : Nat → Nat), v = .slice (some ⟨g0, 0, none⟩) s.on.n s.on.n ∧ A ≤ g0 ∧ Blk wk g0 23 s.on.n (fun i => .slice (some ⟨G i, 0, none⟩) (s.on.r i).n (C i)) ∧
  (∀ i, i < s.on.n → A ≤ G i ∧ (s.on.r i).n ≤ C i ∧ C i ≤ maxLen ∧ Blk wk (G i) 3 (s.on.r i).n (fun j => .int .i64 ((s.on.r i).z j))) ∧ (∀ i j, i < j → j < s.on.n → G i < G j) ∧ g = (List.range s.on.n).map G
theorem DRows.below {A : Nat} {s : St} {v : Value} {g : List Nat} {w w' : World} (h : DRows A s v g w) (hB : Below w.heap.size w w') : DRows A s v g w' := by
  obtain ⟨g0, G, C, h1, h2, h3, h4, h5, h6⟩ := h
  exact ⟨g0, G, C, h1, h2, h3.below hB, fun i hi => ⟨(h4 i hi).1, (h4 i hi).2.1, (h4 i hi).2.2.1, (h4 i hi).2.2.2.below hB⟩, h5, h6⟩
theorem DRows.lt {A : Nat} {s : St} {v : Value} {g : List Nat} {w : World} (h : DRows A s v g w) : ∀ x ∈ g, x < w.heap.size := by
  obtain ⟨g0, G, C, h1, h2, h3, h4, h5, rfl⟩ := h
  intro x hx
  obtain ⟨i, hi, rfl⟩ := List.mem_map.1 hx
  exact (h4 i (List.mem_range.1 hi)).2.2.2.lt
def DInts (A : Nat) (r : Rw) (v : Value) (g : List Nat) (wk : World) : Prop := ∃ B c, g = [B] ∧ v = .slice (some ⟨B, 0, none⟩) r.n c ∧ A ≤ B ∧ r.n ≤ c ∧ c ≤ maxLen ∧ Blk wk B 3 r.n (fun j => .int .i64 (r.z j))
theorem DInts.below {A : Nat} {r : Rw} {v : Value} {g : List Nat} {w w' : World} (h : DInts A r v g w) (hB : Below w.heap.size w w') : DInts A r v g w' := by
  obtain ⟨B, c, h1, h2, h3, h4, h5, h6⟩ := h
  exact ⟨B, c, h1, h2, h3, h4, h5, h6.below hB⟩
theorem DInts.lt {A : Nat} {r : Rw} {v : Value} {g : List Nat} {w : World} (h : DInts A r v g w) : ∀ x ∈ g, x < w.heap.size := by
  obtain ⟨B, c, rfl, h2, h3, h4, h5, h6⟩ := h
  intro x hx
  rw [List.mem_singleton] at hx
  subst hx
  exact h6.lt
def DHs (A : Nat) (e : TypeId) (s : Hs) (v : Value) (g : List Nat) (wk : World) : Prop := ∃ s' : Hs, g = [] ∧ v = .slice s'.a s'.n s'.c ∧ Cloned A e s wk s'
theorem DHs.below {A : Nat} {e : TypeId} {s : Hs} {v : Value} {g : List Nat} {w w' : World} (h : DHs A e s v g w) (hB : Below w.heap.size w w') : DHs A e s v g w' := by
  obtain ⟨s', h1, h2, h3, h4, h5, h6⟩ := h
  exact ⟨s', h1, h2, h3, h4, h5.below hB, h6.below hB⟩
theorem OwnO.below {A : Nat} {w w' : World} {s : Os} (h : OwnO A w s) (hB : Below w.heap.size w w') : OwnO A w' s := by
  refine ⟨h.le, h.cap, fun hn => ?_, fun i hi => ?_, h.apart, h.room.below hB⟩
  · obtain ⟨g, a, b, c⟩ := h.list hn
    exact ⟨g, a, b, c.below hB⟩
  · obtain ⟨B, a, b, c, d, e⟩ := h.lines i hi
    exact ⟨B, a, b, c, d, e.below hB⟩
theorem OwnO.mono {A A' : Nat} {w : World} {s : Os} (h : OwnO A w s) (hA : A' ≤ A) : OwnO A' w s := by
  refine ⟨h.le, h.cap, fun hn => ?_, fun i hi => ?_, h.apart, h.room.mono hA⟩
  · obtain ⟨g, a, b, c⟩ := h.list hn
    exact ⟨g, a, by omega, c⟩
  · obtain ⟨B, a, b, c⟩ := h.lines i hi
    exact ⟨B, a, by omega, c⟩
def DOs (A : Nat) (s : Os) (v : Value) (g : List Nat) (wk : World) : Prop := ∃ s' : Os, g = [] ∧ v = .slice s'.a s'.n s'.c ∧ SameO s' s ∧ OwnO A wk s'
theorem DOs.below {A : Nat} {s : Os} {v : Value} {g : List Nat} {w w' : World} (h : DOs A s v g w) (hB : Below w.heap.size w w') : DOs A s v g w' := by
  obtain ⟨s', h1, h2, h3, h4⟩ := h
  exact ⟨s', h1, h2, h3, h4.below hB⟩

set_option maxRecDepth 100000 in
set_option maxHeartbeats 4000000 in
theorem copyState_any (p : Pl) (s : St) (w : World) (hs : s.At w) (f : Formed p s) :
    Calls Try.prog 45 #[s.val] w fun e w' => ∃ s' : St, e = .returned s'.val ∧ SameT s' s ∧ OwnS w.heap.size w' s' ∧ Below w.heap.size w w' := by
  obtain ⟨W0, hW, hWB, X0, Z0⟩ : ∃ W, ((w.alloc (.cells s.cells 31)).alloc (.cells #[.slice .none 0 0, .slice .none 0 0, .slice .none 0 0, .slice .none 0 0, .slice .none 0 0, .slice .none 0 0, .slice .none 0 0] 31)) = W ∧ Below w.heap.size w W ∧ Blk W w.heap.size 31 7 (fun j => s.cells.getD j default) ∧ Blk W (w.heap.size + 1) 31 7 (fun _ => .slice .none 0 0) :=
    ⟨_, rfl, two_below _ _ _, (Blk.mk' rfl rfl).alloc _, (Blk.mk' (cur := #[.slice .none 0 0, .slice .none 0 0, .slice .none 0 0, .slice .none 0 0, .slice .none 0 0, .slice .none 0 0, .slice .none 0 0]) (by simp) rfl).congr (fun j hj => by match j, hj with | 0, _ => rfl | 1, _ => rfl | 2, _ => rfl | 3, _ => rfl | 4, _ => rfl | 5, _ => rfl | 6, _ => rfl)⟩
  have HW : Hid ((w.alloc (.cells #[.slice s.on.a s.on.n s.on.c, .slice s.os.a s.os.n s.os.c, .slice s.hs.a s.hs.n s.hs.c, .slice s.ms.a s.ms.n s.ms.c, .slice s.si.a s.si.n s.si.c, .slice s.so.a s.so.n s.so.c, .slice s.sf.a s.sf.n s.sf.c] 31)).alloc (.cells #[.slice .none 0 0, .slice .none 0 0, .slice .none 0 0, .slice .none 0 0, .slice .none 0 0, .slice .none 0 0, .slice .none 0 0] 31) = W0) := hW
  have HS : Hid (s.At W0) := hs.below hWB
  have HF : Hid (Formed p s) := f
  have HZ : Hid (Blk W0 (w.heap.size + 1) 31 7 (fun _ => .slice .none 0 0)) := Z0
  have hsz0 := hWB.size
  obtain ⟨l1, c0, c1, c2, c3, c4, c5, c6⟩ := Boxed.of X0
  have r0 : ∀ d os, (grow (redrawn W0 d) os).cell? ⟨w.heap.size, 0, none⟩ = some (.slice s.on.a s.on.n s.on.c) := fun d os => cell_regrown c0 d os
  have r1 : ∀ d os, (grow (redrawn W0 d) os).cell? ⟨w.heap.size, 1, none⟩ = some (.slice s.os.a s.os.n s.os.c) := fun d os => cell_regrown c1 d os
  have r2 : ∀ d os, (grow (redrawn W0 d) os).cell? ⟨w.heap.size, 2, none⟩ = some (.slice s.hs.a s.hs.n s.hs.c) := fun d os => cell_regrown c2 d os
  have r3 : ∀ d os, (grow (redrawn W0 d) os).cell? ⟨w.heap.size, 3, none⟩ = some (.slice s.ms.a s.ms.n s.ms.c) := fun d os => cell_regrown c3 d os
  have r4 : ∀ d os, (grow (redrawn W0 d) os).cell? ⟨w.heap.size, 4, none⟩ = some (.slice s.si.a s.si.n s.si.c) := fun d os => cell_regrown c4 d os
  have r5 : ∀ d os, (grow (redrawn W0 d) os).cell? ⟨w.heap.size, 5, none⟩ = some (.slice s.so.a s.so.n s.so.c) := fun d os => cell_regrown c5 d os
  have r6 : ∀ d os, (grow (redrawn W0 d) os).cell? ⟨w.heap.size, 6, none⟩ = some (.slice s.sf.a s.sf.n s.sf.c) := fun d os => cell_regrown c6 d os
  clear hW X0 Z0 hs f c0 c1 c2 c3 c4 c5 c6
  unfold St.val
  go_enter Try.func45, Try.ntmps45
  go_wp2_with fail
  rw [HW.out]
  refine wp_region_made5 (fun w' => ∃ p : Regrown, w' = grow (redrawn W0 p.d) p.os) [0, 1, 3, 4, 6, 7, 9, 10, 12, 13, 15, 16, 18, 19] [2, 5, 8, 11, 14, 17, 20] [(false, 21), (true, 22)] (by kernel_rfl) (by kernel_rfl) (by kernel_rfl) (by kernel_rfl) (by kernel_rfl) (by kernel_rfl) (by kernel_rfl) (by kernel_rfl) (by kernel_rfl) (regrown_of_below ((Below.refl _ _).drew)) ?_
  simp only [picks, List.drop_succ_cons, List.drop_zero, List.take_succ_cons, List.take_zero, List.cons_append, List.nil_append]
  repeat (go_big_quiet_step (fail))
  refine wpQuiet_nil ?_
  clear r0 r1 r2 r3 r4 r5 r6
  refine ⟨fun j v g wk => match j with | 2 => DRows w.heap.size s v g wk | 5 => DOs w.heap.size s.os v g wk | 8 => DHs w.heap.size 65 s.hs v g wk | 11 => DHs w.heap.size 70 s.ms v g wk | 14 => DInts w.heap.size s.si v g wk | 17 => DInts w.heap.size s.so v g wk | 20 => DInts w.heap.size s.sf v g wk | _ => True,
    List.forall_mem_cons.2 ⟨fun v g w w' hB h => DRows.below h hB, List.forall_mem_cons.2 ⟨fun v g w w' hB h => DOs.below h hB, List.forall_mem_cons.2 ⟨fun v g w w' hB h => DHs.below h hB, List.forall_mem_cons.2 ⟨fun v g w w' hB h => DHs.below h hB, List.forall_mem_cons.2 ⟨fun v g w w' hB h => DInts.below h hB, List.forall_mem_cons.2 ⟨fun v g w w' hB h => DInts.below h hB, List.forall_mem_cons.2 ⟨fun v g w w' hB h => DInts.below h hB, List.forall_mem_nil _⟩⟩⟩⟩⟩⟩⟩,
    List.forall_mem_cons.2 ⟨fun v g w h => DRows.lt h, List.forall_mem_cons.2 ⟨fun v g w h => by obtain ⟨_, h1, _⟩ := h; rw [h1]; intro x hx; simp at hx, List.forall_mem_cons.2 ⟨fun v g w h => by obtain ⟨_, h1, _⟩ := h; rw [h1]; intro x hx; simp at hx, List.forall_mem_cons.2 ⟨fun v g w h => by obtain ⟨_, h1, _⟩ := h; rw [h1]; intro x hx; simp at hx, List.forall_mem_cons.2 ⟨fun v g w h => DInts.lt h, List.forall_mem_cons.2 ⟨fun v g w h => DInts.lt h, List.forall_mem_cons.2 ⟨fun v g w h => DInts.lt h, List.forall_mem_nil _⟩⟩⟩⟩⟩⟩⟩,
    List.forall_mem_cons.2 ⟨?zs2, List.forall_mem_cons.2 ⟨?zs5, List.forall_mem_cons.2 ⟨?zs8, List.forall_mem_cons.2 ⟨?zs11, List.forall_mem_cons.2 ⟨?zs14, List.forall_mem_cons.2 ⟨?zs17, List.forall_mem_cons.2 ⟨?zs20, List.forall_mem_nil _⟩⟩⟩⟩⟩⟩⟩, ?zdone⟩
  case zs2 =>
    intro V G wk K hS hd hK
    have hX := below_of_regrown hS
    refine wpOp_list 2 rfl ?_
    simp only [putAll, dstOf, List.getElem?_toArray, List.getElem?_cons_succ, List.getElem?_cons_zero, Act.put, List.setIfInBounds_toArray, List.set_cons_succ, List.set_cons_zero] at hK ⊢
    go_wp2_with fail
    refine (copyRows_any s.on wk (HS.out.on.below hX) (by rw [HF.out.sh.n]; exact HF.out.sh.pl.nb6) (fun i hi => by rw [HF.out.sh.len i hi]; exact ⟨HF.out.sh.pl.ns1, HF.out.sh.pl.ns3⟩)).mono ?_
    rintro e w2 ⟨g0, Gr, Cr, rfl, a1, a2, a3, a4, hB2⟩
    go_wp2_with fail
    have q := hX.size
    refine hK _ ((List.range s.on.n).map Gr) _ (regrown_of_below (hX.trans (hB2.mono hX.size))) hB2 (fun x hx => ?_) ⟨g0, Gr, Cr, rfl, by omega, a2, fun i hi => ⟨by have := (a3 i hi).1; omega, (a3 i hi).2⟩, a4, rfl⟩
    obtain ⟨i, hi, rfl⟩ := List.mem_map.1 hx
    have := (a3 i (List.mem_range.1 hi)).1
    omega
  case zs5 =>
    intro V G wk K hS hd hK
    have hX := below_of_regrown hS
    refine wpOp_list 5 rfl ?_
    simp only [putAll, dstOf, List.getElem?_toArray, List.getElem?_cons_succ, List.getElem?_cons_zero, Act.put, List.setIfInBounds_toArray, List.set_cons_succ, List.set_cons_zero] at hK ⊢
    go_wp2_with fail
    refine (copyOrders_any s.os wk (HS.out.os.below hX) (by have := HF.out.os4; omega) HF.out.lns).mono ?_
    rintro e w2 ⟨s', rfl, a1, a2, hB2⟩
    have q := hX.size
    have HR : Hid (SameO s' s.os ∧ OwnO w.heap.size w2 s') := ⟨a1, a2.mono (by omega)⟩
    clear a1 a2
    simp only [Os.val]
    go_wp2_with fail
    exact hK _ [] _ (regrown_of_below (hX.trans (hB2.mono hX.size))) hB2 (fun x hx => by simp at hx) ⟨s', rfl, rfl, HR.out.1, HR.out.2⟩
  case zs8 =>
    intro V G wk K hS hd hK
    have hX := below_of_regrown hS
    refine wpOp_list 8 rfl ?_
    simp only [putAll, dstOf, List.getElem?_toArray, List.getElem?_cons_succ, List.getElem?_cons_zero, Act.put, List.setIfInBounds_toArray, List.set_cons_succ, List.set_cons_zero] at hK ⊢
    go_wp2_with fail
    refine (CloneHold_any s.hs wk (HS.out.hs.below hX) (by have := HF.out.hs72; omega)).mono ?_
    rintro e w2 ⟨s', rfl, hc, hB2⟩
    have q := hX.size
    have HR : Hid (Cloned w.heap.size 65 s.hs w2 s') := ⟨hc.1, hc.2.1, hc.2.2.1.mono (by omega), hc.2.2.2.mono (by omega)⟩
    clear hc
    simp only [Hs.val]
    go_wp2_with fail
    exact hK _ [] _ (regrown_of_below (hX.trans (hB2.mono hX.size))) hB2 (fun x hx => by simp at hx) ⟨s', rfl, rfl, HR.out⟩
  case zs11 =>
    intro V G wk K hS hd hK
    have hX := below_of_regrown hS
    refine wpOp_list 11 rfl ?_
    simp only [putAll, dstOf, List.getElem?_toArray, List.getElem?_cons_succ, List.getElem?_cons_zero, Act.put, List.setIfInBounds_toArray, List.set_cons_succ, List.set_cons_zero] at hK ⊢
    go_wp2_with fail
    refine (CloneMove_any s.ms wk (HS.out.ms.below hX) (by have := HF.out.ms8; omega)).mono ?_
    rintro e w2 ⟨s', rfl, hc, hB2⟩
    have q := hX.size
    have HR : Hid (Cloned w.heap.size 70 s.ms w2 s') := ⟨hc.1, hc.2.1, hc.2.2.1.mono (by omega), hc.2.2.2.mono (by omega)⟩
    clear hc
    simp only [Hs.val]
    go_wp2_with fail
    exact hK _ [] _ (regrown_of_below (hX.trans (hB2.mono hX.size))) hB2 (fun x hx => by simp at hx) ⟨s', rfl, rfl, HR.out⟩
  case zs14 =>
    intro V G wk K hS hd hK
    have hX := below_of_regrown hS
    have hn1 := HF.out.sh.pl.ns1
    have hn3 := HF.out.sh.pl.ns3
    have HCI : Hid (Calls Try.prog 92 #[.slice s.si.a s.si.n s.si.c] wk fun e w' => ∃ g c', e = .returned (.slice (some ⟨g, 0, none⟩) s.si.n c') ∧ s.si.n ≤ c' ∧ c' ≤ maxLen ∧ wk.heap.size ≤ g ∧ Blk w' g 3 s.si.n (fun j => .int .i64 (s.si.z j)) ∧ Below wk.heap.size wk w') := by
      have hr := HS.out.si.below hX
      obtain ⟨b, o, ha, -, -⟩ := hr.ints 0 (by rw [HF.out.sin]; omega)
      have hi := hr.ints
      have hz : s.si.n = p.ns := HF.out.sin
      rw [ha] at hi
      have := Clone_any b o s.si.n s.si.c s.si.z wk (by omega) (by omega) hi
      rw [← ha] at this
      exact this
    refine wpOp_list 14 rfl ?_
    simp only [putAll, dstOf, List.getElem?_toArray, List.getElem?_cons_succ, List.getElem?_cons_zero, Act.put, List.setIfInBounds_toArray, List.set_cons_succ, List.set_cons_zero] at hK ⊢
    go_wp2_with fail
    refine HCI.out.mono ?_
    rintro e w2 ⟨g, c', rfl, a1, a2, a3, a4, hB2⟩
    have q := hX.size
    go_wp2_with fail
    exact hK _ [g] _ (regrown_of_below (hX.trans (hB2.mono hX.size))) hB2 (fun x hx => by rw [List.mem_singleton] at hx; omega) ⟨g, c', rfl, rfl, by omega, a1, a2, a4⟩
  case zs17 =>
    intro V G wk K hS hd hK
    have hX := below_of_regrown hS
    have hn1 := HF.out.sh.pl.ns1
    have hn3 := HF.out.sh.pl.ns3
    have HCI : Hid (Calls Try.prog 92 #[.slice s.so.a s.so.n s.so.c] wk fun e w' => ∃ g c', e = .returned (.slice (some ⟨g, 0, none⟩) s.so.n c') ∧ s.so.n ≤ c' ∧ c' ≤ maxLen ∧ wk.heap.size ≤ g ∧ Blk w' g 3 s.so.n (fun j => .int .i64 (s.so.z j)) ∧ Below wk.heap.size wk w') := by
      have hr := HS.out.so.below hX
      obtain ⟨b, o, ha, -, -⟩ := hr.ints 0 (by rw [HF.out.son]; omega)
      have hi := hr.ints
      have hz : s.so.n = p.ns := HF.out.son
      rw [ha] at hi
      have := Clone_any b o s.so.n s.so.c s.so.z wk (by omega) (by omega) hi
      rw [← ha] at this
      exact this
    refine wpOp_list 17 rfl ?_
    simp only [putAll, dstOf, List.getElem?_toArray, List.getElem?_cons_succ, List.getElem?_cons_zero, Act.put, List.setIfInBounds_toArray, List.set_cons_succ, List.set_cons_zero] at hK ⊢
    go_wp2_with fail
    refine HCI.out.mono ?_
    rintro e w2 ⟨g, c', rfl, a1, a2, a3, a4, hB2⟩
    have q := hX.size
    go_wp2_with fail
    exact hK _ [g] _ (regrown_of_below (hX.trans (hB2.mono hX.size))) hB2 (fun x hx => by rw [List.mem_singleton] at hx; omega) ⟨g, c', rfl, rfl, by omega, a1, a2, a4⟩
  case zs20 =>
    intro V G wk K hS hd hK
    have hX := below_of_regrown hS
    have hn1 := HF.out.sh.pl.ns1
    have hn3 := HF.out.sh.pl.ns3
    have HCI : Hid (Calls Try.prog 92 #[.slice s.sf.a s.sf.n s.sf.c] wk fun e w' => ∃ g c', e = .returned (.slice (some ⟨g, 0, none⟩) s.sf.n c') ∧ s.sf.n ≤ c' ∧ c' ≤ maxLen ∧ wk.heap.size ≤ g ∧ Blk w' g 3 s.sf.n (fun j => .int .i64 (s.sf.z j)) ∧ Below wk.heap.size wk w') := by
      have hr := HS.out.sf.below hX
      obtain ⟨b, o, ha, -, -⟩ := hr.ints 0 (by rw [HF.out.sfn]; omega)
      have hi := hr.ints
      have hz : s.sf.n = p.ns := HF.out.sfn
      rw [ha] at hi
      have := Clone_any b o s.sf.n s.sf.c s.sf.z wk (by omega) (by omega) hi
      rw [← ha] at this
      exact this
    refine wpOp_list 20 rfl ?_
    simp only [putAll, dstOf, List.getElem?_toArray, List.getElem?_cons_succ, List.getElem?_cons_zero, Act.put, List.setIfInBounds_toArray, List.set_cons_succ, List.set_cons_zero] at hK ⊢
    go_wp2_with fail
    refine HCI.out.mono ?_
    rintro e w2 ⟨g, c', rfl, a1, a2, a3, a4, hB2⟩
    have q := hX.size
    go_wp2_with fail
    exact hK _ [g] _ (regrown_of_below (hX.trans (hB2.mono hX.size))) hB2 (fun x hx => by rw [List.mem_singleton] at hx; omega) ⟨g, c', rfl, rfl, by omega, a1, a2, a4⟩
  case zdone =>
    intro V G wk hS hD hA
    obtain ⟨g0, Gr, Cr, v2, a1, a2, a3, a4, gg2⟩ : DRows w.heap.size s (V 2) (G 2) wk := hD 2 (by simp)
    obtain ⟨o', -, v5, b1, b2⟩ : DOs w.heap.size s.os (V 5) (G 5) wk := hD 5 (by simp)
    obtain ⟨h', -, v8, d1, d2, d3, -⟩ : DHs w.heap.size 65 s.hs (V 8) (G 8) wk := hD 8 (by simp)
    obtain ⟨m', -, v11, f1, f2, f3, f4⟩ : DHs w.heap.size 70 s.ms (V 11) (G 11) wk := hD 11 (by simp)
    obtain ⟨B1, k1, gg14, v14, i1, i2, i3, i4⟩ : DInts w.heap.size s.si (V 14) (G 14) wk := hD 14 (by simp)
    obtain ⟨B2, k2, gg17, v17, j1, j2, j3, j4⟩ : DInts w.heap.size s.so (V 17) (G 17) wk := hD 17 (by simp)
    obtain ⟨B3, k3, gg20, v20, l2, l3, l4, l5⟩ : DInts w.heap.size s.sf (V 20) (G 20) wk := hD 20 (by simp)
    have n12 : B1 ≠ B2 := fun e => hA 14 (by simp) 17 (by simp) (by decide) B1 (by rw [gg14]; simp) (by rw [gg17, e]; simp)
    have n13 : B1 ≠ B3 := fun e => hA 14 (by simp) 20 (by simp) (by decide) B1 (by rw [gg14]; simp) (by rw [gg20, e]; simp)
    have n23 : B2 ≠ B3 := fun e => hA 17 (by simp) 20 (by simp) (by decide) B2 (by rw [gg17]; simp) (by rw [gg20, e]; simp)
    have nr : ∀ i, i < s.on.n → Gr i ≠ B1 ∧ Gr i ≠ B2 ∧ Gr i ≠ B3 := fun i hi => by
      have hm : Gr i ∈ G 2 := by rw [gg2]; exact List.mem_map.2 ⟨i, List.mem_range.2 hi, rfl⟩
      exact ⟨fun e => hA 2 (by simp) 14 (by simp) (by decide) _ hm (by rw [gg14, e]; simp), fun e => hA 2 (by simp) 17 (by simp) (by decide) _ hm (by rw [gg17, e]; simp), fun e => hA 2 (by simp) 20 (by simp) (by decide) _ hm (by rw [gg20, e]; simp)⟩
    have hX := below_of_regrown hS
    have hz := HZ.out.below hX
    clear hD hA gg2 gg14 gg17 gg20
    have HR : Hid (OwnS w.heap.size wk ⟨⟨some ⟨g0, 0, none⟩, s.on.n, s.on.n, fun i => ⟨some ⟨Gr i, 0, none⟩, (s.on.r i).n, Cr i, (s.on.r i).z⟩⟩, o', h', m', ⟨some ⟨B1, 0, none⟩, s.si.n, k1, s.si.z⟩, ⟨some ⟨B2, 0, none⟩, s.so.n, k2, s.so.z⟩, ⟨some ⟨B3, 0, none⟩, s.sf.n, k3, s.sf.z⟩⟩) := by
      refine ⟨⟨g0, rfl, a1, Nat.le_refl _, ?_, a2⟩, fun i hi => ⟨Gr i, rfl, (a3 i hi).1, (a3 i hi).2.1, (a3 i hi).2.2.1, (a3 i hi).2.2.2⟩, fun i j hij hj => ?_, b2, d3, f3, f4, ⟨B1, rfl, i1, i2, i3, i4⟩, ⟨B2, rfl, j1, j2, j3, j4⟩, ⟨B3, rfl, l2, l3, l4, l5⟩, ?_, ?_, ?_, fun i hi => ?_⟩
      · show s.on.n ≤ maxLen
        have := HF.out.sh.n
        have := HF.out.sh.pl.nb6
        unfold maxLen
        omega
      · have := a4 i j hij hj
        simp only [ne_eq, Option.some.injEq, Addr.mk.injEq, and_true]
        omega
      · intro e; simp only [Option.some.injEq, Addr.mk.injEq, and_true] at e; exact n12 e
      · intro e; simp only [Option.some.injEq, Addr.mk.injEq, and_true] at e; exact n13 e
      · intro e; simp only [Option.some.injEq, Addr.mk.injEq, and_true] at e; exact n23 e
      · obtain ⟨x1, x2, x3⟩ := nr i hi
        exact ⟨fun e => by simp only [Option.some.injEq, Addr.mk.injEq, and_true] at e; exact x1 e, fun e => by simp only [Option.some.injEq, Addr.mk.injEq, and_true] at e; exact x2 e, fun e => by simp only [Option.some.injEq, Addr.mk.injEq, and_true] at e; exact x3 e⟩
    have HC : Hid (SameT ⟨⟨some ⟨g0, 0, none⟩, s.on.n, s.on.n, fun i => ⟨some ⟨Gr i, 0, none⟩, (s.on.r i).n, Cr i, (s.on.r i).z⟩⟩, o', h', m', ⟨some ⟨B1, 0, none⟩, s.si.n, k1, s.si.z⟩, ⟨some ⟨B2, 0, none⟩, s.so.n, k2, s.so.z⟩, ⟨some ⟨B3, 0, none⟩, s.sf.n, k3, s.sf.z⟩⟩ s) :=
      ⟨⟨rfl, fun i hi => ⟨rfl, fun j hj => rfl⟩⟩, b1, ⟨d1, fun j hj => d2 j (by rw [← d1]; exact hj)⟩, ⟨f1, fun j hj => f2 j (by rw [← f1]; exact hj)⟩, ⟨rfl, fun j hj => rfl⟩, ⟨rfl, fun j hj => rfl⟩, ⟨rfl, fun j hj => rfl⟩⟩
    clear a1 a2 a3 a4 b1 b2 d1 d2 d3 f1 f2 f3 f4 i1 i2 i3 i4 j1 j2 j3 j4 l2 l3 l4 l5 n12 n13 n23 nr
    have HZ2 : Hid (Blk wk (w.heap.size + 1) 31 7 (fun _ => .slice .none 0 0)) := hz
    have zl := hz.lt
    have zf0 := hz.frozen 0
    have zc0 := hz.cell (j := 0) (by decide)
    have zf1 := hz.frozen 1
    have zc1 := hz.cell (j := 1) (by decide)
    have zf2 := hz.frozen 2
    have zc2 := hz.cell (j := 2) (by decide)
    have zf3 := hz.frozen 3
    have zc3 := hz.cell (j := 3) (by decide)
    have zf4 := hz.frozen 4
    have zc4 := hz.cell (j := 4) (by decide)
    have zf5 := hz.frozen 5
    have zc5 := hz.cell (j := 5) (by decide)
    have zf6 := hz.frozen 6
    have zc6 := hz.cell (j := 6) (by decide)
    clear hz
    simp only [putAll, dstOf, List.getElem?_toArray, List.getElem?_cons_succ, List.getElem?_cons_zero, Act.put, List.setIfInBounds_toArray, List.set_cons_succ, List.set_cons_zero, v2, v5, v8, v11, v14, v17, v20]
    refine wpSeq_one 21 rfl ?_
    go_wp2_with fail
    refine ⟨Late.no hS, ?_⟩
    refine wpSeq_one 22 rfl ?_
    go_wp2_with fail
    refine ⟨Late.yes, ?_⟩
    refine NoPanic.normal ?_
    have KZ := set7_blk HZ2.out (.slice (some ⟨g0, 0, none⟩) s.on.n s.on.n) (.slice o'.a o'.n o'.c) (.slice h'.a h'.n h'.c) (.slice m'.a m'.n m'.c) (.slice (some ⟨B1, 0, none⟩) s.si.n k1) (.slice (some ⟨B2, 0, none⟩) s.so.n k2) (.slice (some ⟨B3, 0, none⟩) s.sf.n k3)
    have hbz := set7_below (b := w.heap.size + 1) (hWB.trans (hX.mono hWB.size)) (by omega) (.slice (some ⟨g0, 0, none⟩) s.on.n s.on.n) (.slice o'.a o'.n o'.c) (.slice h'.a h'.n h'.c) (.slice m'.a m'.n m'.c) (.slice (some ⟨B1, 0, none⟩) s.si.n k1) (.slice (some ⟨B2, 0, none⟩) s.so.n k2) (.slice (some ⟨B3, 0, none⟩) s.sf.n k3)
    have HR2 := OwnS.set7 HR.out HZ2.out (.slice (some ⟨g0, 0, none⟩) s.on.n s.on.n) (.slice o'.a o'.n o'.c) (.slice h'.a h'.n h'.c) (.slice m'.a m'.n m'.c) (.slice (some ⟨B1, 0, none⟩) s.si.n k1) (.slice (some ⟨B2, 0, none⟩) s.so.n k2) (.slice (some ⟨B3, 0, none⟩) s.sf.n k3)
    unfold set7 at KZ hbz HR2
    generalize (((((((wk.setCell { block := w.heap.size + 1, off := 0 } (Value.slice (some { block := g0, off := 0 }) s.on.n s.on.n)).setCell { block := w.heap.size + 1, off := 1 } (Value.slice o'.a o'.n o'.c)).setCell { block := w.heap.size + 1, off := 2 } (Value.slice h'.a h'.n h'.c)).setCell { block := w.heap.size + 1, off := 3 } (Value.slice m'.a m'.n m'.c)).setCell { block := w.heap.size + 1, off := 4 } (Value.slice (some { block := B1, off := 0 }) s.si.n k1)).setCell { block := w.heap.size + 1, off := 5 } (Value.slice (some { block := B2, off := 0 }) s.so.n k2)).setCell { block := w.heap.size + 1, off := 6 } (Value.slice (some { block := B3, off := 0 }) s.sf.n k3)) = WY at *
    clear hX zl zf0 zc0 zf1 zc1 zf2 zc2 zf3 zc3 zf4 zc4 zf5 zc5 zf6 zc6 v2 v5 v8 v11 v14 v17 v20 hS
    obtain ⟨c0, c1, c2, c3, c4, c5, c6⟩ := box_cells KZ
    have HQ : Hid (OwnS w.heap.size WY ⟨⟨some ⟨g0, 0, none⟩, s.on.n, s.on.n, fun i => ⟨some ⟨Gr i, 0, none⟩, (s.on.r i).n, Cr i, (s.on.r i).z⟩⟩, o', h', m', ⟨some ⟨B1, 0, none⟩, s.si.n, k1, s.si.z⟩, ⟨some ⟨B2, 0, none⟩, s.so.n, k2, s.so.z⟩, ⟨some ⟨B3, 0, none⟩, s.sf.n, k3, s.sf.z⟩⟩) := HR2
    clear HR2
    go_wp2_with fail
    refine bodyPost_ret (v := (⟨⟨some ⟨g0, 0, none⟩, s.on.n, s.on.n, fun i => ⟨some ⟨Gr i, 0, none⟩, (s.on.r i).n, Cr i, (s.on.r i).z⟩⟩, o', h', m', ⟨some ⟨B1, 0, none⟩, s.si.n, k1, s.si.z⟩, ⟨some ⟨B2, 0, none⟩, s.so.n, k2, s.so.z⟩, ⟨some ⟨B3, 0, none⟩, s.sf.n, k3, s.sf.z⟩⟩ : St).val) (by simp [results, Try.results45, go_sem, St.val, c0, c1, c2, c3, c4, c5, c6]) rfl ?_
    exact ⟨_, rfl, HC.out, HQ.out, hbz⟩

end Go.Proofs.Ytjiodlbblmbibac
/- What the document reckons of states: coming, AvailOf, FreeOf. -/
namespace Go.Proofs.Ytjiodlbblmbibac
open Go.RowKit Go.Shelf Go.Sort
set_option linter.unusedVariables false

def comingTo (s : St) (b g : Int) : Nat → Int
  | 0 => 0
  | k + 1 => comingTo s b g k + (if (s.ms.z k).b = b ∧ (s.ms.z k).o = g then (s.ms.z k).n else 0)
theorem comingTo_hit {s : St} {b g : Int} {k : Nat} (h1 : (s.ms.z k).b = b) (h2 : (s.ms.z k).o = g) : comingTo s b g (k + 1) = comingTo s b g k + (s.ms.z k).n := by simp only [comingTo]; rw [if_pos ⟨h1, h2⟩]
theorem comingTo_miss {s : St} {b g : Int} {k : Nat} (h : ¬ ((s.ms.z k).b = b ∧ (s.ms.z k).o = g)) : comingTo s b g (k + 1) = comingTo s b g k := by simp only [comingTo]; rw [if_neg h, Int.add_zero]
theorem comingTo_bd {s : St} {b g : Int} : ∀ {n : Nat}, (∀ j, j < n → 1 ≤ (s.ms.z j).n ∧ (s.ms.z j).n ≤ 200) → 0 ≤ comingTo s b g n ∧ comingTo s b g n ≤ 200 * n
  | 0, _ => by simp [comingTo]
  | n + 1, h => by
    have ih := comingTo_bd (b := b) (g := g) (n := n) fun j hj => h j (by omega)
    have := h n (by omega)
    simp only [comingTo]
    split <;> omega
theorem usedTo_put2 {z z' zs : Nat → Int} {m : Nat} {d : Int} : ∀ {n : Nat}, (∀ j, j < n → z' j = z j + if j = m then d else 0) → usedTo z' zs n = usedTo z zs n + if m < n then d * zs m else 0
  | 0, _ => by simp [usedTo]
  | n + 1, h => by
    simp only [usedTo]
    rw [usedTo_put2 (m := m) (d := d) (n := n) fun j hj => h j (by omega), h n (by omega)]
    by_cases h1 : n = m
    · subst h1
      rw [if_pos rfl, if_neg (Nat.lt_irrefl n), if_pos (by omega), Int.add_mul]
      omega
    · rw [if_neg h1, Int.add_zero]
      by_cases h2 : m < n
      · rw [if_pos h2, if_pos (by omega)]; omega
      · rw [if_neg h2, if_neg (by omega)]; omega
theorem come_eq {p : Pl} {s : St} (f : Formed p s) (b : Int) : ∀ n, n ≤ s.ms.n → usedTo (fun g => comingTo s b g n) p.zs p.ns = takeTo p s b n
  | 0, _ => usedTo_zero' fun j hj => rfl
  | n + 1, hn => by
    have hm := badMove_no (f.move n (by omega))
    by_cases hb : (s.ms.z n).b = b
    · rw [takeTo_hit hb, ← come_eq f b n (by omega), usedTo_put2 (z := fun g => comingTo s b g n) (m := (s.ms.z n).o.toNat) (d := (s.ms.z n).n) fun j hj => ?_, if_pos (by omega)]
      by_cases hj2 : j = (s.ms.z n).o.toNat
      · rw [if_pos hj2]; exact comingTo_hit hb (by omega)
      · rw [if_neg hj2, Int.add_zero]; exact comingTo_miss (fun h => hj2 (by omega))
    · rw [takeTo_miss hb, ← come_eq f b n (by omega)]
      exact usedTo_congr fun j hj => comingTo_miss (fun h => hb h.1)
where
  usedTo_zero' {z zs : Nat → Int} : ∀ {n : Nat}, (∀ j, j < n → z j = 0) → usedTo z zs n = 0
    | 0, _ => rfl
    | n + 1, h => by simp only [usedTo]; rw [usedTo_zero' (n := n) fun j hj => h j (by omega), h n (by omega)]; simp
theorem mul_bd2 {a b : Int} (ha : 0 ≤ a ∧ a ≤ 1600) (hb : 1 ≤ b ∧ b ≤ 9) : 0 ≤ a * b ∧ a * b ≤ 14400 := by
  obtain ⟨a0, a1⟩ := ha
  have : b = 1 ∨ b = 2 ∨ b = 3 ∨ b = 4 ∨ b = 5 ∨ b = 6 ∨ b = 7 ∨ b = 8 ∨ b = 9 := by omega
  rcases this with rfl | rfl | rfl | rfl | rfl | rfl | rfl | rfl | rfl <;> omega
theorem usedTo_bd2 {z zs : Nat → Int} {n : Nat} (h : ∀ j, j < n → (0 ≤ z j ∧ z j ≤ 1600) ∧ 1 ≤ zs j ∧ zs j ≤ 9) : ∀ k, k ≤ n → 0 ≤ usedTo z zs k ∧ usedTo z zs k ≤ 14400 * k
  | 0, _ => by simp [usedTo]
  | k + 1, hk => by
    have ih := usedTo_bd2 h k (by omega)
    have := mul_bd2 (h k (by omega)).1 (h k (by omega)).2
    simp only [usedTo]
    omega

set_option maxHeartbeats 4000000 in
theorem coming_any (p : Pl) (s : St) (bin good : Nat) (w : World) (hs : s.At w) (f : Formed p s) :
    Calls Try.prog 60 #[s.val, .int .i64 bin, .int .i64 good] w fun e w' => e = .returned (.int .i64 (comingTo s bin good s.ms.n)) ∧ Below w.heap.size w w' := by
  obtain ⟨W0, hW0, hWB, hX⟩ : ∃ W0, w.alloc (.cells s.cells 31) = W0 ∧ Below w.heap.size w W0 ∧ Blk W0 w.heap.size 31 7 (fun j => s.cells.getD j default) := ⟨_, rfl, (Below.refl w.heap.size w).alloc (Nat.le_refl _) _, Blk.mk' rfl rfl⟩
  have hs0 := hs.below hWB
  have HC : Hid (∀ wk, Below W0.heap.size W0 wk → s.At wk ∧ wk.cell? ⟨w.heap.size, 3, none⟩ = some (.slice s.ms.a s.ms.n s.ms.c) ∧ w.heap.size < wk.heap.size) :=
    fun wk h => ⟨hs0.below h, (hX.below h).cell (j := 3) (by decide), (hX.below h).lt⟩
  have hmle := hs0.ms.le
  have hmcap := hs0.ms.cap
  unfold maxLen at hmcap
  have m8 := f.ms8
  have MB : Hid (∀ k, k ≤ s.ms.n → 0 ≤ comingTo s bin good k ∧ comingTo s bin good k ≤ 200 * k) := fun k hk => comingTo_bd fun j hj => f.moveN j (by omega)
  have HW : Hid (w.alloc (.cells #[.slice s.on.a s.on.n s.on.c, .slice s.os.a s.os.n s.os.c, .slice s.hs.a s.hs.n s.hs.c, .slice s.ms.a s.ms.n s.ms.c, .slice s.si.a s.si.n s.si.c, .slice s.so.a s.so.n s.so.c, .slice s.sf.a s.sf.n s.sf.c] 31) = W0) := hW0
  simp only [St.val]
  clear hX hW0
  go_enter Try.func60, Try.ntmps60
  go_wp2_with fail
  rw [HW.out]
  go_loopw [7, 8] (fun u i wk => ∃ k : Nat, k ≤ s.ms.n ∧ i = .int .i64 k ∧ u = .int .i64 (comingTo s bin good k) ∧ Below W0.heap.size W0 wk) (fun _ i _ => s.ms.n - (intOf i).toNat)
  case atStart => exact ⟨0, Nat.zero_le _, rfl, by simp [comingTo], Below.refl _ _⟩
  case round =>
    obtain ⟨k, hk, rfl, rfl, hB⟩ := hrel
    have m2 := MB.out k hk
    obtain ⟨hsk, c3, hlt0⟩ := HC.out wr hB
    by_cases hlt2 : k < s.ms.n
    · obtain ⟨b, q, hma, hb, z0, z1, z2, z3⟩ := hsk.ms.hds k hlt2
      have m3 := f.moveN k hlt2
      have H1 : Hid (((s.ms.z k).b = bin ∧ (s.ms.z k).o = good → comingTo s bin good (k + 1) = comingTo s bin good k + (s.ms.z k).n) ∧ (¬ ((s.ms.z k).b = bin ∧ (s.ms.z k).o = good) → comingTo s bin good (k + 1) = comingTo s bin good k)) := ⟨fun h => comingTo_hit h.1 h.2, comingTo_miss⟩
      have q4 : (0 : Int) ≤ (k : Int) := by omega
      rw [hma] at c3
      clear hma hsk
      generalize comingTo s bin good k = U at *
      generalize (s.ms.z k).b = BB at *
      generalize (s.ms.z k).n = NN at *
      generalize (s.ms.z k).o = GD at *
      cases h1 : (BB == (bin : Int))
      · have hm := H1.out.2 (by simp at h1; omega)
        have HM : Hid (comingTo s bin good (k + 1) = U) := hm
        clear hm H1
        go_wp2_with fail
        go_roundw
        case rel => exact ⟨k + 1, by omega, by go_num, by rw [HM.out], hB⟩
        case measure => simp [intOf]; omega
      · cases h2 : (GD == (good : Int))
        · have hm := H1.out.2 (by simp at h2; omega)
          have HM : Hid (comingTo s bin good (k + 1) = U) := hm
          clear hm H1
          go_wp2_with fail
          go_roundw
          case rel => exact ⟨k + 1, by omega, by go_num, by rw [HM.out], hB⟩
          case measure => simp [intOf]; omega
        · have hm := H1.out.1 ⟨by simpa using h1, by simpa using h2⟩
          have HM : Hid (comingTo s bin good (k + 1) = U + NN) := hm
          clear hm H1
          go_wp2_with fail
          go_roundw
          case rel => exact ⟨k + 1, by omega, by go_num, by rw [HM.out], hB⟩
          case measure => simp [intOf]; omega
    · have hkn : k = s.ms.n := by omega
      subst hkn
      go_wp2_with fail
      go_ret
      exact ⟨rfl, hWB.trans (hB.mono hWB.size)⟩

set_option maxHeartbeats 4000000 in
theorem AvailOf_any (p : Pl) (s : St) (bin good : Nat) (w : World) (hs : s.At w) (f : Formed p s) (hbin : bin < p.nb) (hgood : good < p.ns) :
    Calls Try.prog 101 #[s.val, .int .i64 bin, .int .i64 good] w fun e w' => e = .returned (.int .i64 (availZ s bin good)) ∧ Below w.heap.size w w' := by
  obtain ⟨W0, hW0, hWB, hX⟩ : ∃ W0, w.alloc (.cells s.cells 31) = W0 ∧ Below w.heap.size w W0 ∧ Blk W0 w.heap.size 31 7 (fun j => s.cells.getD j default) := ⟨_, rfl, (Below.refl w.heap.size w).alloc (Nat.le_refl _) _, Blk.mk' rfl rfl⟩
  have hs0 := hs.below hWB
  have hon : bin < s.on.n := by rw [f.sh.n]; exact hbin
  obtain ⟨bo, oo, hoa, hbo, y0, hrow⟩ := hs0.on.rows bin hon
  have hrn := f.sh.len bin hon
  have hnum := f.sh.num bin hon good hgood
  obtain ⟨br, orr, hra, hbr, y1⟩ := hrow.ints good (by omega)
  have hrle := hrow.le
  have hrcap := hrow.cap
  have hole := hs0.on.le
  have hocap := hs0.on.cap
  unfold maxLen at hrcap hocap
  rw [hra, hrn] at y0
  rw [hrn] at hrle
  have h72 := f.hs72
  have m8 := f.ms8
  have HB := heldTo_bd (s := s) (b := bin) (g := good) f.holdN
  have MB := fromTo_bd (s := s) (b := bin) (g := good) f.moveN
  have c0 : W0.cell? ⟨w.heap.size, 0, none⟩ = some (.slice s.on.a s.on.n s.on.c) := hX.cell (j := 0) (by decide)
  rw [hoa] at c0
  have HSA : Hid (s.At W0 ∧ s.on.a = some ⟨bo, oo, none⟩) := ⟨hs0, hoa⟩
  have r0 : ∀ d os, (grow (redrawn W0 d) os).cell? ⟨w.heap.size, 0, none⟩ = some (.slice (some ⟨bo, oo, none⟩) s.on.n s.on.c) := fun d os => cell_regrown c0 d os
  have r1 : ∀ d os, (grow (redrawn W0 d) os).cell? ⟨w.heap.size, 1, none⟩ = some (.slice s.os.a s.os.n s.os.c) := fun d os => cell_regrown (hX.cell (j := 1) (by decide)) d os
  have r2 : ∀ d os, (grow (redrawn W0 d) os).cell? ⟨w.heap.size, 2, none⟩ = some (.slice s.hs.a s.hs.n s.hs.c) := fun d os => cell_regrown (hX.cell (j := 2) (by decide)) d os
  have r3 : ∀ d os, (grow (redrawn W0 d) os).cell? ⟨w.heap.size, 3, none⟩ = some (.slice s.ms.a s.ms.n s.ms.c) := fun d os => cell_regrown (hX.cell (j := 3) (by decide)) d os
  have r4 : ∀ d os, (grow (redrawn W0 d) os).cell? ⟨w.heap.size, 4, none⟩ = some (.slice s.si.a s.si.n s.si.c) := fun d os => cell_regrown (hX.cell (j := 4) (by decide)) d os
  have r5 : ∀ d os, (grow (redrawn W0 d) os).cell? ⟨w.heap.size, 5, none⟩ = some (.slice s.so.a s.so.n s.so.c) := fun d os => cell_regrown (hX.cell (j := 5) (by decide)) d os
  have r6 : ∀ d os, (grow (redrawn W0 d) os).cell? ⟨w.heap.size, 6, none⟩ = some (.slice s.sf.a s.sf.n s.sf.c) := fun d os => cell_regrown (hX.cell (j := 6) (by decide)) d os
  have r7 : ∀ d os, (grow (redrawn W0 d) os).cell? ⟨bo, oo + bin, none⟩ = some (.slice (some ⟨br, orr, none⟩) p.ns (s.on.r bin).c) := fun d os => cell_regrown y0 d os
  have r8 : ∀ d os, (grow (redrawn W0 d) os).cell? ⟨br, orr + good, none⟩ = some (.int .i64 ((s.on.r bin).z good)) := fun d os => cell_regrown y1 d os
  have hbd : Hid (∀ wk, s.At wk → Calls Try.prog 121 #[.agg #[.slice (some ⟨bo, oo, none⟩) s.on.n s.on.c, .slice s.os.a s.os.n s.os.c, .slice s.hs.a s.hs.n s.hs.c, .slice s.ms.a s.ms.n s.ms.c, .slice s.si.a s.si.n s.si.c, .slice s.so.a s.so.n s.so.c, .slice s.sf.a s.sf.n s.sf.c], .int .i64 bin, .int .i64 good] wk fun e w' => e = .returned (.int .i64 (heldTo s bin good s.hs.n + fromTo s bin good s.ms.n)) ∧ Below wk.heap.size wk w') := fun wk h => by
    have := bound_any p s bin good wk h f
    rw [St.val, HSA.out.2] at this
    exact this
  have HE : Hid (availZ s bin good = (s.on.r bin).z good - (heldTo s bin good s.hs.n + fromTo s bin good s.ms.n)) := by show availZ s bin good = _; unfold availZ; omega
  have HW : Hid (w.alloc (.cells #[.slice (some ⟨bo, oo, none⟩) s.on.n s.on.c, .slice s.os.a s.os.n s.os.c, .slice s.hs.a s.hs.n s.hs.c, .slice s.ms.a s.ms.n s.ms.c, .slice s.si.a s.si.n s.si.c, .slice s.so.a s.so.n s.so.c, .slice s.sf.a s.sf.n s.sf.c] 31) = W0) := by show _ = W0; rw [← hW0, St.cells, hoa]
  have q1 : (0 : Int) ≤ (bin : Int) := by omega
  have q2 : (0 : Int) ≤ (good : Int) := by omega
  simp only [St.val, hoa]
  clear hX hW0 hrow hrn hoa hra hs0 c0 y0 y1 f hs
  generalize availZ s bin good = AV at *
  have hbs : 0 ≤ heldTo s bin good s.hs.n + fromTo s bin good s.ms.n ∧ heldTo s bin good s.hs.n + fromTo s bin good s.ms.n ≤ 16000 := by omega
  clear HB MB
  generalize heldTo s bin good s.hs.n + fromTo s bin good s.ms.n = BD at *
  generalize (s.on.r bin).z good = ON at *
  generalize (s.on.r bin).c = RC at *
  go_enter Try.func101, Try.ntmps101
  go_wp2_with fail
  rw [HW.out]
  refine wp_region_quiet_below (by kernel_rfl) (by kernel_rfl) ?_
  repeat (go_big_quiet_step ((go_at_call 121; exact Calls.regrown_of (hbd.out _ (HSA.out.1.below (below_regrown _ _ _))))))
  refine wpQuiet_nil ?_
  intro _ hw'
  obtain ⟨⟨dq, osq⟩, hw''⟩ := hw'
  subst hw''
  go_wp2_with fail
  go_ret
  exact ⟨by rw [HE.out]; rfl, hWB.trans ((below_regrown _ _ _).mono hWB.size)⟩

set_option maxHeartbeats 4000000 in
theorem FreeOf_any (p : Pl) (s : St) (bin : Nat) (w : World) (hp : p.At w) (hs : s.At w) (f : Formed p s) (hbin : bin < p.nb) :
    Calls Try.prog 59 #[p.val, s.val, .int .i64 bin] w fun e w' => e = .returned (.int .i64 (freeZ p s bin)) ∧ Below w.heap.size w w' := by
  obtain ⟨W0, hW, hWB, X0⟩ : ∃ W, ((w.alloc (.cells #[.slice p.ab p.nb p.cb, .slice p.sa p.ns p.cs] 25)).alloc (.cells s.cells 31)) = W ∧ Below w.heap.size w W ∧ Boxes W w.heap.size (w.heap.size + 1) p s := ⟨_, rfl, two_below _ _ _, boxes_new w p s _ _⟩
  have HC : Hid (∀ wk, Below W0.heap.size W0 wk → Boxes wk w.heap.size (w.heap.size + 1) p s ∧ p.At wk ∧ s.At wk ∧ Below w.heap.size w wk) := fun wk h => ⟨X0.below h, (hp.below hWB).below h, (hs.below hWB).below h, hWB.trans (h.mono hWB.size)⟩
  have HW : Hid ((w.alloc (.cells #[.slice p.ab p.nb p.cb, .slice p.sa p.ns p.cs] 25)).alloc (.cells #[.slice s.on.a s.on.n s.on.c, .slice s.os.a s.os.n s.os.c, .slice s.hs.a s.hs.n s.hs.c, .slice s.ms.a s.ms.n s.ms.c, .slice s.si.a s.si.n s.si.c, .slice s.so.a s.so.n s.so.c, .slice s.sf.a s.sf.n s.sf.c] 31) = W0) := hW
  have HF : Hid (Formed p s) := f
  have leb := hp.leb
  have capb := hp.capb
  have les := hp.les
  have caps := hp.caps
  unfold maxLen at capb caps
  have ns3 := f.sh.pl.ns3
  have ms8 := f.ms8
  have hon : bin < s.on.n := by rw [f.sh.n]; exact hbin
  have ub := usedTo_bd (z := (s.on.r bin).z) (zs := p.zs) (n := p.ns) (fun j hj => ⟨f.sh.num bin hon j hj, f.sh.pl.sizes j hj⟩) p.ns (Nat.le_refl _)
  have room : 0 ≤ (p.zb bin).room ∧ (p.zb bin).room ≤ 1000 := by
    have := f.sh.pl.bins bin hbin
    simp only [badBin, Bool.or_eq_false_iff, Bool.not_eq_false'] at this
    exact inB_true this.1.1
  have HU : Hid (∀ k, k ≤ p.ns → 0 ≤ usedTo (fun g => comingTo s bin g s.ms.n) p.zs k ∧ usedTo (fun g => comingTo s bin g s.ms.n) p.zs k ≤ 14400 * k) := fun k hk => usedTo_bd2 (n := p.ns) (fun j hj => ⟨by have := comingTo_bd (s := s) (b := bin) (g := j) f.moveN; omega, f.sh.pl.sizes j hj⟩) k hk
  have HE : Hid (freeZ p s bin = (p.zb bin).room - usedTo (s.on.r bin).z p.zs p.ns - usedTo (fun g => comingTo s bin g s.ms.n) p.zs p.ns) := by show freeZ p s bin = _; rw [come_eq f bin s.ms.n (Nat.le_refl _)]; rfl
  have q1 : (0 : Int) ≤ (bin : Int) := by omega
  clear hW X0 hp hs f
  unfold Pl.val St.val
  go_enter Try.func59, Try.ntmps59
  go_wp2_with fail
  rw [HW.out]
  obtain ⟨X, hpk, hsk, hBw⟩ := HC.out W0 (Below.refl _ _)
  obtain ⟨⟨l1, d0, d1⟩, l2, c0, c1, c2, c3, c4, c5, c6⟩ := X
  obtain ⟨bb, bo, hba, hbb, y0, y1, y2, y3⟩ := hpk.bins bin hbin
  have HON : Hid (s.on.At W0 ∧ p.At W0 ∧ p.ab = some ⟨bb, bo, none⟩) := ⟨hsk.on, hpk, hba⟩
  rw [hba] at d0
  have r0 : ∀ d os, (grow (redrawn W0 d) os).cell? ⟨w.heap.size, 0, none⟩ = some (.slice (some ⟨bb, bo, none⟩) p.nb p.cb) := fun d os => cell_regrown d0 d os
  have r1 : ∀ d os, (grow (redrawn W0 d) os).cell? ⟨w.heap.size, 1, none⟩ = some (.slice p.sa p.ns p.cs) := fun d os => cell_regrown d1 d os
  have r2 : ∀ d os, (grow (redrawn W0 d) os).cell? ⟨w.heap.size + 1, 0, none⟩ = some (.slice s.on.a s.on.n s.on.c) := fun d os => cell_regrown c0 d os
  have r3 : ∀ d os, (grow (redrawn W0 d) os).cell? ⟨bb, bo + bin * 4 + 1, none⟩ = some (.int .i64 (p.zb bin).room) := fun d os => cell_regrown y1 d os
  have hub : Hid (∀ wk, p.At wk → s.on.At wk → Calls Try.prog 106 #[.agg #[.slice (some ⟨bb, bo, none⟩) p.nb p.cb, .slice p.sa p.ns p.cs], .slice s.on.a s.on.n s.on.c, .int .i64 bin] wk fun e w' => e = .returned (.int .i64 (usedTo (s.on.r bin).z p.zs p.ns)) ∧ Below wk.heap.size wk w') := fun wk h1 h2 => by
    have := UsedOf_any p s.on bin wk h1 h2 HF.out.sh hon
    rw [Pl.val, HON.out.2.2] at this
    exact this
  clear hba hpk hsk d0 d1 c0 c1 c2 c3 c4 c5 c6 y0 y1 y2 y3 HW
  generalize usedTo (s.on.r bin).z p.zs p.ns = US at *
  generalize (p.zb bin).room = RM at *
  refine wp_region_quiet_below (by kernel_rfl) (by kernel_rfl) ?_
  repeat (go_big_quiet_step ((go_at_call 106; exact Calls.regrown_of (hub.out _ (HON.out.2.1.below (below_regrown _ _ _)) (HON.out.1.below (below_regrown _ _ _))))))
  refine wpQuiet_nil ?_
  intro _ hw'
  obtain ⟨⟨dq, osq⟩, hw''⟩ := hw'
  subst hw''
  have hB := below_regrown W0 dq osq
  clear r0 r1 r2 r3 hub HON hBw l1 l2 hbb
  generalize grow (redrawn W0 dq) osq = wz at *
  go_wp2_with fail
  go_loopw [7, 8] (fun u i wk => ∃ k : Nat, k ≤ p.ns ∧ i = .int .i64 k ∧ u = .int .i64 (RM - US - usedTo (fun g => comingTo s bin g s.ms.n) p.zs k) ∧ Below W0.heap.size W0 wk) (fun _ i _ => p.ns - (intOf i).toNat)
  case atStart => exact ⟨0, Nat.zero_le _, rfl, by simp [usedTo], hB⟩
  case round =>
    clear hB
    obtain ⟨g, hg, rfl, rfl, hB⟩ := hrel
    have ug := HU.out g hg
    obtain ⟨X, hpk, hsk, hBw⟩ := HC.out wr hB
    obtain ⟨⟨l1, d0, d1⟩, l2, c0, c1, c2, c3, c4, c5, c6⟩ := X
    by_cases hlt : g < p.ns
    · obtain ⟨b1, o1, e1, g1, z1⟩ := hpk.sizes g hlt
      have qg : (0 : Int) ≤ (g : Int) := by omega
      have hcb := comingTo_bd (s := s) (b := bin) (g := g) HF.out.moveN
      have hcb2 : 0 ≤ comingTo s bin g s.ms.n ∧ comingTo s bin g s.ms.n ≤ 1600 := by omega
      have hmb := mul_bd2 hcb2 (HF.out.sh.pl.sizes g hlt)
      have HSX : Hid (usedTo (fun g => comingTo s bin g s.ms.n) p.zs (g + 1) = usedTo (fun g => comingTo s bin g s.ms.n) p.zs g + comingTo s bin g s.ms.n * p.zs g) := rfl
      rw [e1] at d1
      have HSA : Hid (s.At wr) := hsk
      have r0 : ∀ d os, (grow (redrawn wr d) os).cell? ⟨w.heap.size + 1, 0, none⟩ = some (.slice s.on.a s.on.n s.on.c) := fun d os => cell_regrown c0 d os
      have r1 : ∀ d os, (grow (redrawn wr d) os).cell? ⟨w.heap.size + 1, 1, none⟩ = some (.slice s.os.a s.os.n s.os.c) := fun d os => cell_regrown c1 d os
      have r2 : ∀ d os, (grow (redrawn wr d) os).cell? ⟨w.heap.size + 1, 2, none⟩ = some (.slice s.hs.a s.hs.n s.hs.c) := fun d os => cell_regrown c2 d os
      have r3 : ∀ d os, (grow (redrawn wr d) os).cell? ⟨w.heap.size + 1, 3, none⟩ = some (.slice s.ms.a s.ms.n s.ms.c) := fun d os => cell_regrown c3 d os
      have r4 : ∀ d os, (grow (redrawn wr d) os).cell? ⟨w.heap.size + 1, 4, none⟩ = some (.slice s.si.a s.si.n s.si.c) := fun d os => cell_regrown c4 d os
      have r5 : ∀ d os, (grow (redrawn wr d) os).cell? ⟨w.heap.size + 1, 5, none⟩ = some (.slice s.so.a s.so.n s.so.c) := fun d os => cell_regrown c5 d os
      have r6 : ∀ d os, (grow (redrawn wr d) os).cell? ⟨w.heap.size + 1, 6, none⟩ = some (.slice s.sf.a s.sf.n s.sf.c) := fun d os => cell_regrown c6 d os
      have r7 : ∀ d os, (grow (redrawn wr d) os).cell? ⟨w.heap.size, 1, none⟩ = some (.slice (some ⟨b1, o1, none⟩) p.ns p.cs) := fun d os => cell_regrown d1 d os
      have r8 : ∀ d os, (grow (redrawn wr d) os).cell? ⟨b1, o1 + g, none⟩ = some (.int .i64 (p.zs g)) := fun d os => cell_regrown z1 d os
      have hco : Hid (∀ wk, s.At wk → Calls Try.prog 60 #[.agg #[.slice s.on.a s.on.n s.on.c, .slice s.os.a s.os.n s.os.c, .slice s.hs.a s.hs.n s.hs.c, .slice s.ms.a s.ms.n s.ms.c, .slice s.si.a s.si.n s.si.c, .slice s.so.a s.so.n s.so.c, .slice s.sf.a s.sf.n s.sf.c], .int .i64 bin, .int .i64 g] wk fun e w' => e = .returned (.int .i64 (comingTo s bin g s.ms.n)) ∧ Below wk.heap.size wk w') := fun wk h => coming_any p s bin g wk h HF.out
      have pz := HF.out.sh.pl.sizes g hlt
      clear e1 hpk hsk d0 c0 c1 c2 c3 c4 c5 c6 z1 hcb
      generalize usedTo (fun g => comingTo s bin g s.ms.n) p.zs g = U0 at *
      generalize comingTo s bin g s.ms.n = CM at *
      generalize p.zs g = PZ at *
      go_wp2_with fail
      refine wp_region_quiet_below (by kernel_rfl) (by kernel_rfl) ?_
      repeat (go_big_quiet_step ((go_at_call 60; exact Calls.regrown_of (hco.out _ (HSA.out.below (below_regrown _ _ _))))))
      refine wpQuiet_nil ?_
      intro _ hw'
      obtain ⟨⟨dq, osq⟩, hw''⟩ := hw'
      subst hw''
      clear r0 r1 r2 r3 r4 r5 r6 r7 r8
      go_wp2_with fail
      go_roundw
      case rel => exact ⟨g + 1, by omega, by go_num, by rw [HSX.out, Int.sub_sub _ U0], hB.trans ((below_regrown _ _ _).mono hB.size)⟩
      case measure => simp [intOf]; omega
    · have hgn : g = p.ns := by omega
      subst hgn
      clear hpk hsk c0 c1 c2 c3 c4 c5 c6
      go_wp2_with fail
      go_ret
      exact ⟨by rw [HE.out]; rfl, hBw⟩

end Go.Proofs.Ytjiodlbblmbibac
/- What is received: plain words; numbers set in a state of the call's own. No walk. -/
namespace Go.Proofs.Ytjiodlbblmbibac
open Go.RowKit
set_option linter.unusedVariables false

theorem SameT.symm {s t : St} (h : SameT s t) : SameT t s := by
  refine ⟨⟨h.on.1.symm, fun i hi => ?_⟩, ⟨h.os.1.symm, fun i hi => ?_⟩, ⟨h.hs.1.symm, fun j hj => (h.hs.2 j (by rw [h.hs.1]; exact hj)).symm⟩, ⟨h.ms.1.symm, fun j hj => (h.ms.2 j (by rw [h.ms.1]; exact hj)).symm⟩, ⟨h.si.1.symm, fun j hj => (h.si.2 j (by rw [h.si.1]; exact hj)).symm⟩, ⟨h.so.1.symm, fun j hj => (h.so.2 j (by rw [h.so.1]; exact hj)).symm⟩, ⟨h.sf.1.symm, fun j hj => (h.sf.2 j (by rw [h.sf.1]; exact hj)).symm⟩⟩
  · have x := h.on.2 i (by rw [h.on.1]; exact hi)
    exact ⟨x.1.symm, fun j hj => (x.2 j (by rw [x.1]; exact hj)).symm⟩
  · have x := h.os.2 i (by rw [h.os.1]; exact hi)
    exact ⟨x.1.symm, x.2.1.symm, fun j hj => (x.2.2 j (by rw [x.2.1]; exact hj)).symm⟩
theorem SameT.trans {s t u : St} (h : SameT s t) (k : SameT t u) : SameT s u := by
  refine ⟨⟨h.on.1.trans k.on.1, fun i hi => ?_⟩, ⟨h.os.1.trans k.os.1, fun i hi => ?_⟩, ⟨h.hs.1.trans k.hs.1, fun j hj => (h.hs.2 j hj).trans (k.hs.2 j (by rw [← h.hs.1]; exact hj))⟩, ⟨h.ms.1.trans k.ms.1, fun j hj => (h.ms.2 j hj).trans (k.ms.2 j (by rw [← h.ms.1]; exact hj))⟩, ⟨h.si.1.trans k.si.1, fun j hj => (h.si.2 j hj).trans (k.si.2 j (by rw [← h.si.1]; exact hj))⟩, ⟨h.so.1.trans k.so.1, fun j hj => (h.so.2 j hj).trans (k.so.2 j (by rw [← h.so.1]; exact hj))⟩, ⟨h.sf.1.trans k.sf.1, fun j hj => (h.sf.2 j hj).trans (k.sf.2 j (by rw [← h.sf.1]; exact hj))⟩⟩
  · have x := h.on.2 i hi
    have y := k.on.2 i (by rw [← h.on.1]; exact hi)
    exact ⟨x.1.trans y.1, fun j hj => (x.2 j hj).trans (y.2 j (by rw [← x.1]; exact hj))⟩
  · have x := h.os.2 i hi
    have y := k.os.2 i (by rw [← h.os.1]; exact hi)
    exact ⟨x.1.trans y.1, x.2.1.trans y.2.1, fun j hj => (x.2.2 j hj).trans (y.2.2 j (by rw [← x.2.1]; exact hj))⟩

def setRw (r : Rw) (j : Nat) (x : Int) : Rw := ⟨r.a, r.n, r.c, fun i => if i = j then x else r.z i⟩
def setOn (s : St) (b g : Nat) (x : Int) : St := ⟨⟨s.on.a, s.on.n, s.on.c, fun i => if i = b then setRw (s.on.r i) g x else s.on.r i⟩, s.os, s.hs, s.ms, s.si, s.so, s.sf⟩
def setIn (s : St) (g : Nat) (x : Int) : St := ⟨s.on, s.os, s.hs, s.ms, setRw s.si g x, s.so, s.sf⟩
theorem OwnI.set {A : Nat} {w : World} {r : Rw} {G : Nat} (h : OwnI A w r) (ha : r.a = some ⟨G, 0, none⟩) (j : Nat) (x : Int) : OwnI A (w.setCell ⟨G, j, none⟩ (.int .i64 x)) (setRw r j x) := by
  obtain ⟨g, ha', h0, h1, h2, hb⟩ := h
  rw [ha] at ha'
  simp only [Option.some.injEq, Addr.mk.injEq, and_true] at ha'
  subst ha'
  refine ⟨G, ha, h0, h1, h2, (hb.set j (.int .i64 x)).congr fun i hi => ?_⟩
  show (if i = j then _ else _) = Value.int .i64 (if i = j then x else r.z i)
  by_cases hij : i = j <;> simp [hij]
theorem OwnI.apart {A : Nat} {w : World} {r : Rw} {G : Nat} (h : OwnI A w r) (ha : r.a ≠ some ⟨G, 0, none⟩) (j : Nat) (u : Value) : OwnI A (w.setCell ⟨G, j, none⟩ u) r := by
  obtain ⟨g, ha', h0, h1, h2, hb⟩ := h
  refine ⟨g, ha', h0, h1, h2, hb.other (a := ⟨G, j, none⟩) (fun e => ha ?_) u⟩
  rw [ha', show g = G from e]
theorem row_a {s : St} {b g : Nat} {x : Int} (i : Nat) : (if i = b then setRw (s.on.r i) g x else s.on.r i).a = (s.on.r i).a := by
  by_cases h : i = b <;> simp [h, setRw]
theorem OwnS.setOn {A : Nat} {w : World} {s : St} {b G : Nat} (h : OwnS A w s) (hb : b < s.on.n) (ha : (s.on.r b).a = some ⟨G, 0, none⟩) (g : Nat) (x : Int) : OwnS A (w.setCell ⟨G, g, none⟩ (.int .i64 x)) (Go.Proofs.Ytjiodlbblmbibac.setOn s b g x) := by
  obtain ⟨Gb, hGb, _, _, _, hblk⟩ := h.rows b hb
  rw [ha] at hGb
  simp only [Option.some.injEq, Addr.mk.injEq, and_true] at hGb
  subst hGb
  have q := h.ari b hb
  rw [ha] at q
  refine ⟨?_, fun i hi => ?_, fun i j hij hj => ?_, h.os.other hblk (by decide) (by decide) g _, h.hs.other hblk (by decide) g _, h.ms.other hblk (by decide) g _, h.msr.set _ _ _, h.si.apart (fun e => q.1 e.symm) g _, h.so.apart (fun e => q.2.1 e.symm) g _, h.sf.apart (fun e => q.2.2 e.symm) g _, h.aio, h.aif, h.aof, fun i hi => ?_⟩
  · obtain ⟨g0, ha0, h0, h1, h2, hb0⟩ := h.on
    refine ⟨g0, ha0, h0, h1, h2, (hb0.other (a := ⟨G, g, none⟩) (Blk.ne2 hb0 hblk (by decide)) _).congr fun i hi => ?_⟩
    show _ = Value.slice (if i = b then setRw (s.on.r i) g x else s.on.r i).a (if i = b then setRw (s.on.r i) g x else s.on.r i).n (if i = b then setRw (s.on.r i) g x else s.on.r i).c
    by_cases hib : i = b <;> simp [hib, setRw]
  · show OwnI A _ (if i = b then setRw (s.on.r i) g x else s.on.r i)
    by_cases hib : i = b
    · subst hib
      rw [if_pos rfl]
      exact (h.rows i hi).set ha g x
    · rw [if_neg hib]
      refine (h.rows i hi).apart (fun e => ?_) g _
      rcases Nat.lt_or_gt_of_ne hib with hlt | hgt
      · exact h.rapart i b hlt hb (e.trans ha.symm)
      · exact h.rapart b i hgt hi (ha.trans e.symm)
  · show (if i = b then setRw (s.on.r i) g x else s.on.r i).a ≠ (if j = b then setRw (s.on.r j) g x else s.on.r j).a
    rw [row_a, row_a]
    exact h.rapart i j hij hj
  · show (if i = b then setRw (s.on.r i) g x else s.on.r i).a ≠ _ ∧ (if i = b then setRw (s.on.r i) g x else s.on.r i).a ≠ _ ∧ (if i = b then setRw (s.on.r i) g x else s.on.r i).a ≠ _
    rw [row_a]
    exact h.ari i hi
theorem OwnS.setIn {A : Nat} {w : World} {s : St} {G : Nat} (h : OwnS A w s) (ha : s.si.a = some ⟨G, 0, none⟩) (g : Nat) (x : Int) : OwnS A (w.setCell ⟨G, g, none⟩ (.int .i64 x)) (Go.Proofs.Ytjiodlbblmbibac.setIn s g x) := by
  obtain ⟨Gb, hGb, _, _, _, hblk⟩ := h.si
  rw [ha] at hGb
  simp only [Option.some.injEq, Addr.mk.injEq, and_true] at hGb
  subst hGb
  refine ⟨?_, fun i hi => (h.rows i hi).apart (fun e => (h.ari i hi).1 (e.trans ha.symm)) g _, h.rapart, h.os.other hblk (by decide) (by decide) g _, h.hs.other hblk (by decide) g _, h.ms.other hblk (by decide) g _, h.msr.set _ _ _, h.si.set ha g x, h.so.apart (fun e => h.aio (ha.trans e.symm)) g _, h.sf.apart (fun e => h.aif (ha.trans e.symm)) g _, h.aio, h.aif, h.aof, h.ari⟩
  obtain ⟨g0, ha0, h0, h1, h2, hb0⟩ := h.on
  exact ⟨g0, ha0, h0, h1, h2, hb0.other (a := ⟨G, g, none⟩) (Blk.ne2 hb0 hblk (by decide)) _⟩

/-- What lies in a bin, with what is to come; the errors of receiving; what comes of it. -/
def lyingZ (s : St) (b g : Nat) : Int := (s.on.r b).z g + comingTo s b g s.ms.n
def recvE (p : Pl) (s : St) (bin good n : Int) : Int :=
  if stateE p s = 0 then (if inB bin 0 ((p.nb : Int) - 1) && inB good 0 ((p.ns : Int) - 1) && inB n 1 200 then (if freeZ p s bin.toNat < n * p.zs good.toNat then 5 else if 200 < lyingZ s bin.toNat good.toNat + n ∨ 1048576 < s.si.z good.toNat + n then 2 else 0) else 3) else stateE p s
def recvT (s : St) (b g : Nat) (n : Int) : St := setIn (setOn s b g ((s.on.r b).z g + n)) g (s.si.z g + n)
/-- What an act answers: the state that comes, or none. -/
def ActOK (E : Int) (t s' : St) : Prop := (E = 0 → SameT s' t) ∧ (¬ E = 0 → NoneS s')

theorem setOn_same {s t : St} (h : SameT s t) (b g : Nat) (x : Int) : SameT (setOn s b g x) (setOn t b g x) := by
  refine ⟨⟨h.on.1, fun i hi => ?_⟩, h.os, h.hs, h.ms, h.si, h.so, h.sf⟩
  have y := h.on.2 i hi
  show (if i = b then setRw (s.on.r i) g x else s.on.r i).n = (if i = b then setRw (t.on.r i) g x else t.on.r i).n ∧ ∀ j, j < (if i = b then setRw (s.on.r i) g x else s.on.r i).n → (if i = b then setRw (s.on.r i) g x else s.on.r i).z j = (if i = b then setRw (t.on.r i) g x else t.on.r i).z j
  by_cases hib : i = b
  · rw [if_pos hib, if_pos hib]
    refine ⟨y.1, fun j hj => ?_⟩
    show (if j = g then x else (s.on.r i).z j) = if j = g then x else (t.on.r i).z j
    rw [y.2 j hj]
  · rw [if_neg hib, if_neg hib]
    exact y
theorem setIn_same {s t : St} (h : SameT s t) (g : Nat) (x : Int) : SameT (setIn s g x) (setIn t g x) := by
  refine ⟨h.on, h.os, h.hs, h.ms, ⟨h.si.1, fun j hj => ?_⟩, h.so, h.sf⟩
  show (if j = g then x else s.si.z j) = if j = g then x else t.si.z j
  rw [h.si.2 j hj]

end Go.Proofs.Ytjiodlbblmbibac
/- Holding, in plain words: how many are taken of each bin of a list, and what is left. What comes is right. No walk. -/
namespace Go.Proofs.Ytjiodlbblmbibac
open Go.RowKit
set_option linter.unusedVariables false

/-- What is left, and what was taken in each bin. -/
structure Tk where
  left : Int
  took : Int → Int
def Tk.step (av : Int → Int) (t : Tk) (b : Int) : Tk := ⟨t.left - min t.left (av b), fun x => t.took x + if x = b then min t.left (av b) else 0⟩
def Tk.go (av : Int → Int) (n : Int) (l : List Int) : Tk := l.foldl (Tk.step av) ⟨n, fun _ => 0⟩
theorem Tk.go_nil (av : Int → Int) (n : Int) : Tk.go av n [] = ⟨n, fun _ => 0⟩ := rfl
theorem Tk.go_more (av : Int → Int) (n : Int) (l : List Int) (b : Int) : Tk.go av n (l ++ [b]) = (Tk.go av n l).step av b := by
  unfold Tk.go
  rw [List.foldl_append]
  rfl

/-- What holds of each list of bins, none of them twice: nothing is below 0; no more is taken than is to be had; all that was taken and is left is what was asked for. -/
structure TkOK (av : Int → Int) (n : Int) (l : List Int) (t : Tk) : Prop where
  left0 : 0 ≤ t.left
  leftn : t.left ≤ n
  took0 : ∀ x, 0 ≤ t.took x
  tookn : ∀ x, t.took x ≤ n - t.left
  had : ∀ x, x ∈ l → t.took x ≤ av x
  other : ∀ x, x ∉ l → t.took x = 0
  all : 0 < t.left → ∀ x, x ∈ l → t.took x = av x
  sum : sumTo (fun b => t.took b) 6 = n - t.left
theorem tkOK {av : Int → Int} {n : Int} (hn : 0 ≤ n) : ∀ {l : List Int}, l.Pairwise (fun x y => ¬ x = y) → (∀ x, x ∈ l → 0 ≤ av x) → (∀ x, x ∈ l → 0 ≤ x ∧ x < 6) → TkOK av n l (Tk.go av n l) := by
  suffices H : ∀ (k : Nat) (l : List Int), l.length = k → l.Pairwise (fun x y => ¬ x = y) → (∀ x, x ∈ l → 0 ≤ av x) → (∀ x, x ∈ l → 0 ≤ x ∧ x < 6) → TkOK av n l (Tk.go av n l) from fun {l} => H l.length l rfl
  intro k
  induction k with
  | zero =>
    intro l hl _ _ _
    obtain rfl := List.eq_nil_of_length_eq_zero hl
    exact ⟨hn, Int.le_refl _, fun _ => Int.le_refl _, fun _ => by show (0 : Int) ≤ n - n; omega, fun x h => by simp at h, fun _ _ => rfl, fun _ x h => by simp at h, by show (0 : Int) + 0 + 0 + 0 + 0 + 0 + 0 = n - n; omega⟩
  | succ m ih =>
    intro l0 hl0 hd ha hin
    obtain ⟨l, b, rfl⟩ : ∃ l b, l0 = l ++ [b] := ⟨l0.dropLast, l0.getLast (by intro e; rw [e] at hl0; simp at hl0), (List.dropLast_concat_getLast _).symm⟩
    have hlm : l.length = m := by simpa using hl0
    rw [List.pairwise_append] at hd
    have hb : b ∉ l := fun hm => hd.2.2 b hm b (by simp) rfl
    have k := ih l hlm hd.1 (fun x hx => ha x (by simp [hx])) (fun x hx => hin x (by simp [hx]))
    have hb6 := hin b (by simp)
    have hab := ha b (by simp)
    rw [Tk.go_more]
    generalize Tk.go av n l = t at k
    have h0 := k.left0
    have hln := k.leftn
    have hmin : 0 ≤ min t.left (av b) ∧ min t.left (av b) ≤ t.left ∧ min t.left (av b) ≤ av b := by omega
    have hob := k.other b hb
    refine ⟨?_, ?_, fun x => ?_, fun x => ?_, fun x hx => ?_, fun x hx => ?_, fun hl x hx => ?_, ?_⟩
    · show 0 ≤ t.left - min t.left (av b); omega
    · show t.left - min t.left (av b) ≤ n; omega
    · have := k.took0 x
      show 0 ≤ t.took x + if x = b then min t.left (av b) else 0
      split <;> omega
    · have := k.tookn x
      show (t.took x + if x = b then min t.left (av b) else 0) ≤ n - (t.left - min t.left (av b))
      split <;> omega
    · show (t.took x + if x = b then min t.left (av b) else 0) ≤ av x
      by_cases hxb : x = b
      · subst hxb; rw [if_pos rfl]; omega
      · rw [if_neg hxb]
        have : x ∈ l := by simpa [hxb] using hx
        have := k.had x this
        omega
    · show (t.took x + if x = b then min t.left (av b) else 0) = 0
      have hxb : ¬ x = b := fun e => hx (by simp [e])
      have hxl : x ∉ l := fun e => hx (by simp [e])
      rw [if_neg hxb, k.other x hxl]
      rfl
    · have hl' : 0 < t.left - min t.left (av b) := hl
      show (t.took x + if x = b then min t.left (av b) else 0) = av x
      by_cases hxb : x = b
      · subst hxb; rw [if_pos rfl]; omega
      · rw [if_neg hxb]
        have : x ∈ l := by simpa [hxb] using hx
        have := k.all (by omega) x this
        omega
    · show sumTo (fun x => t.took x + if (x : Int) = b then min t.left (av b) else 0) 6 = n - (t.left - min t.left (av b))
      have e := k.sum
      rw [sumTo_put (z := fun x => t.took x) (m := b.toNat) (n := min t.left (av b)) (by omega) fun i hi => by
        by_cases hib : i = b.toNat
        · have : ((i : Nat) : Int) = b := by omega
          rw [if_pos this, if_pos hib]
        · have : ¬ ((i : Nat) : Int) = b := by omega
          rw [if_neg this, if_neg hib, Int.add_zero], e]
      omega
/-- Bins that are left out. -/
theorem go_filter (av : Int → Int) (n but : Int) (l : List Int) : Tk.go av n (l.filter (fun b => !(b == but))) = l.foldl (fun t b => if b = but then t else Tk.step av t b) ⟨n, fun _ => 0⟩ := by
  unfold Tk.go
  rw [List.foldl_filter]
  congr 1
  funext t b
  by_cases h : b = but <;> simp [h]

/-- The bins that are gone by. -/
def wayT (p : Pl) (but : Int) : List Int := (wayL p).filter (fun b => !(b == but))
theorem wayT_mem {p : Pl} {but x : Int} : x ∈ wayT p but ↔ x ∈ wayL p ∧ ¬ x = but := by
  unfold wayT
  rw [List.mem_filter]
  simp
theorem wayT_apart (p : Pl) (but : Int) : (wayT p but).Pairwise (fun x y => ¬ x = y) := ((way_pw p).imp fun h => h.1).filter _

end Go.Proofs.Ytjiodlbblmbibac
/- As R5; and what an operation waits for is told to lie apart. No program in it. -/
namespace Go.Proofs.Ytjiodlbblmbibac
open Go.RowKit
set_option linter.unusedVariables false

theorem made_aux6 {P : Program} {ops : Array Oper} {Q : Exit → Act → World → Prop} {S : World → Prop} {T : Nat → Bool} {rem : List Nat} {L : Array Bool} {a1 : Act} {D : Nat → Value → List Nat → World → Prop} {fuel : Nat} (hB : madeB5 ops rem L = true) (hT : ∀ r ∈ rem, T r = false)
    (mono : ∀ j ∈ rem, ∀ v g w w', Below w.heap.size w w' → D j v g w → D j v g w') (lt : ∀ j ∈ rem, ∀ v g w, D j v g w → ∀ x ∈ g, x < w.heap.size)
    (step : ∀ i ∈ rem, ∀ (V : Nat → Value) (G : Nat → List Nat) (w : World) (K : Act → World → Prop), S w → (∀ d ∈ depsOf ops i, d ∈ rem → D d (V d) (G d) w) → (∀ d ∈ depsOf ops i, ∀ k ∈ depsOf ops i, d ∈ rem → k ∈ rem → d ≠ k → ∀ x ∈ G d, x ∉ G k) →
      (∀ v g w', S w' → Below w.heap.size w w' → (∀ x ∈ g, w.heap.size ≤ x) → D i v g w' → K ((putAll ops rem V a1).put (dstOf ops i) v) w') → wpOp P ops Q i K (putAll ops rem V a1) w)
    (done : ∀ (V : Nat → Value) (G : Nat → List Nat) (w : World), S w → (∀ j ∈ rem, D j (V j) (G j) w) → (∀ j ∈ rem, ∀ k ∈ rem, j ≠ k → ∀ x ∈ G j, x ∉ G k) → wpAnyT P ops Q S T fuel (mark L rem) (putAll ops rem V a1) w) :
    ∀ (m : Nat) (listed : Array Bool) (V : Nat → Value) (G : Nat → List Nat) (w : World), (rem.filter (fun r => !listed.getD r true)).length = m → listed.size = ops.size → (∀ j, j ∉ rem → listed[j]? = L[j]?) → Closed ops listed → S w → (∀ j ∈ rem, listed.getD j true = true → D j (V j) (G j) w) →
      (∀ j ∈ rem, ∀ k ∈ rem, listed.getD j true = true → listed.getD k true = true → j ≠ k → ∀ x ∈ G j, x ∉ G k) → wpAnyT P ops Q S T (m + fuel) listed (putAll ops rem V a1) w := by
  simp only [madeB5, Bool.and_eq_true, decide_eq_true_eq] at hB
  obtain ⟨⟨⟨⟨hoth, htopo⟩, hrem⟩, hLs⟩, hnd⟩ := hB
  have hrem' : ∀ r ∈ rem, r < ops.size ∧ L.getD r true = false := fun r hr => by
    have := List.all_eq_true.1 hrem r hr
    simpa using this
  intro m
  induction m with
  | zero =>
    intro listed V G w hm hsz hag hcl hS hD hA
    have hall : ∀ r ∈ rem, listed.getD r true = true := fun r hr => by
      cases hq : listed.getD r true
      · have : r ∈ rem.filter (fun r => !listed.getD r true) := List.mem_filter.2 ⟨hr, by simp [hq]⟩
        rw [List.length_eq_zero_iff.1 hm] at this
        simp at this
      · rfl
    have hl : listed = mark L rem := by
      apply Array.ext_getElem?
      intro j
      by_cases hj : j < L.size
      · rw [mark_get rem L j hj]
        by_cases hjr : j ∈ rem
        · rw [if_pos hjr]
          have h1 := hall j hjr
          have h2 : j < listed.size := by omega
          simp only [Array.getD, h2, dif_pos] at h1
          simp [h2]
          exact h1
        · rw [if_neg hjr]; exact hag j hjr
      · rw [Array.getElem?_eq_none (by omega), Array.getElem?_eq_none (by rw [mark_size]; omega)]
    rw [Nat.zero_add, hl]
    exact done V G w hS (fun j hj => hD j hj (hall j hj)) fun j hj k hk => hA j hj k hk (hall j hj) (hall k hk)
  | succ m ih =>
    intro listed V G w hm hsz hag hcl hS hD hA
    have hex : ∃ r ∈ rem, listed.getD r true = false := by
      have hne : rem.filter (fun r => !listed.getD r true) ≠ [] := fun e => by rw [e] at hm; simp at hm
      obtain ⟨x, hx⟩ := List.exists_mem_of_ne_nil _ hne
      have := List.mem_filter.1 hx
      exact ⟨x, this.1, by simpa using this.2⟩
    have hLl : ∀ d, L.getD d false = true → listed.getD d false = true := fun d hd => by
      by_cases hdr : d ∈ rem
      · have h1 := (hrem' d hdr).2
        have h2 : d < L.size := by have := (hrem' d hdr).1; omega
        simp only [Array.getD, h2, dif_pos] at h1 hd
        rw [h1] at hd; cases hd
      · have h1 := hag d hdr
        by_cases h2 : d < L.size
        · have h3 : d < listed.size := by omega
          simp only [Array.getD, h2, h3, dif_pos] at hd ⊢
          simp only [Array.getElem?_eq_getElem h2, Array.getElem?_eq_getElem h3, Option.some.injEq] at h1
          rw [Array.getInternal_eq_getElem] at hd ⊢
          rw [h1]; exact hd
        · simp [Array.getD, h2] at hd
    obtain ⟨r0, hr0, hr0r⟩ := topo_ready hsz [] rem htopo hLl (fun d hd => by simp at hd) (fun r hr => (hrem' r hr).1) hex
    rw [Nat.add_right_comm]
    refine ⟨fun h0 => absurd (h0 ▸ hr0r) (by simp), fun i hi => ?_⟩
    obtain ⟨hli, o, ho, hdep⟩ := mem_ready.1 hi
    have hdeps : ∀ d ∈ depsOf ops i, listed.getD d false = true := fun d hd => by
      unfold depsOf at hd
      rw [ho] at hd
      obtain ⟨e, he, rfl⟩ := List.mem_map.1 hd
      have := List.mem_filter.1 he
      exact hdep e (by simpa using this.1) this.2
    have hdt : ∀ d, listed.getD d false = true → listed.getD d true = true := fun d hd => by
      by_cases h2 : d < listed.size
      · simpa [Array.getD, h2] using hd
      · simp [Array.getD, h2]
    have hir : i ∈ rem := by
      cases hc : rem.contains i
      · exfalso
        have hlt : i < ops.size := (Array.getElem?_eq_some_iff.1 ho).1
        have hnr : i ∉ rem := fun h => by
          have := List.contains_iff_mem.2 h
          rw [this] at hc; cases hc
        have h1 := List.all_eq_true.1 hoth i (List.mem_range.2 hlt)
        have hLi : L.getD i true = false := by
          have h2 := hag i hnr
          have h3 : i < L.size := by omega
          have h4 : i < listed.size := by omega
          simp only [Array.getElem?_eq_getElem h3, Array.getElem?_eq_getElem h4, Option.some.injEq] at h2
          simp only [Array.getD, h3, h4, dif_pos] at hli ⊢
          rw [Array.getInternal_eq_getElem] at hli ⊢
          rw [← h2]; exact hli
        rw [hLi, hc] at h1
        simp only [Bool.false_or] at h1
        obtain ⟨q, hq, hq2⟩ := hex
        have h5 := List.all_eq_true.1 h1 q hq
        have h6 := hdt q (reach_listed hcl _ i q (ready_deps hi) h5)
        rw [hq2] at h6; cases h6
      · exact List.contains_iff_mem.1 hc
    refine step i hir V G w _ hS (fun d hd hdr => hD d hdr (hdt d (hdeps d hd))) (fun d hd k hk hdr hkr => hA d hdr k hkr (hdt d (hdeps d hd)) (hdt k (hdeps k hk))) (fun v g w' hS' hBel hfr hDi => ?_)
    refine ⟨fun _ => hS', ?_⟩
    rw [putAll_put hnd hir]
    have hin : i < listed.size := by rw [hsz]; exact (hrem' i hir).1
    have gset : ∀ j, (listed.setIfInBounds i true).getD j true = if j = i then true else listed.getD j true := fun j => by
      by_cases hj : j = i
      · subst hj; simp [Array.getD, hin]
      · rw [if_neg hj, getD_set_ne true (fun e => hj e.symm)]
    refine ih (listed.setIfInBounds i true) (upd V i v) (fun j => if j = i then g else G j) w' ?_ (by simpa using hsz) (fun j hj => ?_) (hcl.set hi) hS' (fun j hj hlj => ?_) (fun j hj k hk hlj hlk hjk x hx => ?_)
    · have hnodup : rem.Nodup := by
        exact (List.pairwise_map.1 hnd).imp (fun h e => h (by rw [e]))
      have e1 : (rem.filter (fun r => !listed.getD r true)) = rem.filter (fun r => !listed.getD r true) := rfl
      have hcount : (rem.filter (fun r => !(listed.setIfInBounds i true).getD r true)) = (rem.filter (fun r => !listed.getD r true)).erase i := by
        have e2 : rem.filter (fun r => !(listed.setIfInBounds i true).getD r true) = (rem.filter (fun r => !listed.getD r true)).filter (fun r => r != i) := by
          rw [List.filter_filter]
          refine List.filter_congr fun x hx => ?_
          rw [gset x]
          by_cases hxi : x = i <;> simp [hxi]
        rw [e2, ← List.Nodup.erase_eq_filter (hnodup.filter _)]
      rw [hcount, List.length_erase_of_mem (List.mem_filter.2 ⟨hir, by simp [hli]⟩), hm]
      rfl
    · rw [Array.getElem?_setIfInBounds, if_neg (fun e : i = j => hj (by rw [← e]; exact hir))]
      exact hag j hj
    · unfold upd
      by_cases hji : j = i
      · subst hji; rw [if_pos rfl, if_pos rfl]; exact hDi
      · rw [if_neg hji, if_neg hji]
        rw [gset j, if_neg hji] at hlj
        exact mono j hj _ _ _ _ hBel (hD j hj hlj)
    · by_cases hji : j = i
      · have hki : ¬ k = i := fun e => hjk (hji.trans e.symm)
        rw [if_pos hji] at hx
        rw [if_neg hki]
        rw [gset k, if_neg hki] at hlk
        intro hx2
        have h1 := hfr x hx
        have h2 := lt k hk _ _ _ (hD k hk hlk) x hx2
        omega
      · rw [if_neg hji] at hx
        rw [gset j, if_neg hji] at hlj
        by_cases hki : k = i
        · rw [if_pos hki]
          intro hx2
          have h1 := hfr x hx2
          have h2 := lt j hj _ _ _ (hD j hj hlj) x hx
          omega
        · rw [if_neg hki]
          rw [gset k, if_neg hki] at hlk
          exact hA j hj k hk hlj hlk hjk x hx

/-- What is to be shown behind what is taken first. -/
def Made6 (P : Program) (ops : Array Oper) (Q : Exit → Act → World → Prop) (S : World → Prop) (rem : List Nat) (ord : List (Bool × Nat)) (a1 : Act) : Prop :=
  ∃ D : Nat → Value → List Nat → World → Prop, (∀ j ∈ rem, ∀ v g w w', Below w.heap.size w w' → D j v g w → D j v g w') ∧ (∀ j ∈ rem, ∀ v g w, D j v g w → ∀ x ∈ g, x < w.heap.size) ∧
    (∀ i ∈ rem, ∀ (V : Nat → Value) (G : Nat → List Nat) (w : World) (K : Act → World → Prop), S w → (∀ d ∈ depsOf ops i, d ∈ rem → D d (V d) (G d) w) → (∀ d ∈ depsOf ops i, ∀ k ∈ depsOf ops i, d ∈ rem → k ∈ rem → d ≠ k → ∀ x ∈ G d, x ∉ G k) →
      (∀ v g w', S w' → Below w.heap.size w w' → (∀ x ∈ g, w.heap.size ≤ x) → D i v g w' → K ((putAll ops rem V a1).put (dstOf ops i) v) w') → wpOp P ops (NoPanic Q) i K (putAll ops rem V a1) w) ∧
    (∀ (V : Nat → Value) (G : Nat → List Nat) (w : World), S w → (∀ j ∈ rem, D j (V j) (G j) w) → (∀ j ∈ rem, ∀ k ∈ rem, j ≠ k → ∀ x ∈ G j, x ∉ G k) → wpSeq P ops (NoPanic Q) S ord (putAll ops rem V a1) w)

def tailsB6 (ops : Array Oper) (ks rem : List Nat) (ord : List (Bool × Nat)) : Bool :=
  ks.all (fun k => !ord.contains (true, k) && ord.all (fun x => !x.1 || reach ops ops.size x.2 k)) && rem.all (fun r => !ord.contains (true, r)) && ord.all (fun x => x.1 || !ord.contains (true, x.2))

theorem wp_region_made6 {P : Program} {l : List Oper} {Q : Exit → Act → World → Prop} {id : Nat} {a : Act} {w : World} (S : World → Prop) (ks rem : List Nat) (ord : List (Bool × Nat))
    (hm : P.follows .mixedOrders = true) (hs : Region.noSelect l.toArray = true) (hF : firstsB l.toArray ks (Array.replicate l.length false) = true) (hks : ks.all (fun k => decide (k < l.length)) = true) (hv : ((picks l ks).all vKind2) = true)
    (hM : madeB5 l.toArray rem (mark (Array.replicate l.length false) ks) = true) (hTB : tailsB6 l.toArray ks rem ord = true) (hB : seqB l.toArray ord (mark (mark (Array.replicate l.length false) ks) rem) = true) (hl : ks.length + (rem.length + ord.length) = l.length)
    (hS : S w.drew) (h : wpQuiet P l.toArray S (Made6 P l.toArray Q S rem ord) (picks l ks) a) : (Code.region id l.toArray true).wp P Q a w := by
  refine wp_region_noPanic (wp_region_any hm ?_)
  have hM' := hM
  simp only [madeB5, Bool.and_eq_true, decide_eq_true_eq] at hM'
  simp only [tailsB6, Bool.and_eq_true] at hTB
  have hT : ∀ j, (ord.contains (true, j)) = true → (true, j) ∈ ord := fun j h => by simpa using h
  have key := wpAnyT_firsts (Q := NoPanic Q) (T := fun i => ord.contains (true, i)) (N := l.toArray.size) (fuel := rem.length + ord.length) (w := w.drew) hs hS (fun c a a' w h => (h : False).elim) ks (picks l ks) _ a hF (fun k hk => ?_) (Closed.none _ _) (picks_ok hks) hv h (fun a1 hK hcl => ?_)
  · have := wpAny_of_T _ _ _ _ key
    rw [hl] at this
    simpa using this
  · have h1 := List.all_eq_true.1 hTB.1.1 k hk
    simp only [Bool.and_eq_true] at h1
    refine ⟨by simpa using h1.1, fun j hj => ?_⟩
    have h2 := List.all_eq_true.1 h1.2 (true, j) (hT j hj)
    simpa using h2
  · obtain ⟨D, mono, lt, step, done⟩ := hK
    have hall : (rem.filter (fun r => !(mark (Array.replicate l.length false) ks).getD r true)) = rem := by
      rw [List.filter_eq_self]
      intro r hr
      have := List.all_eq_true.1 hM'.1.1.2 r hr
      simp only [Bool.and_eq_true] at this
      exact this.2
    have hun : ∀ j ∈ rem, (mark (Array.replicate l.length false) ks).getD j true = true → False := fun j hj hlj => by
      have := List.all_eq_true.1 hM'.1.1.2 j hj
      simp only [Bool.and_eq_true, hlj] at this
      simp at this
    obtain ⟨V0, hV0⟩ : ∃ V0, putAll l.toArray rem V0 a1 = a1 := ⟨_, putAll_self a1 rem⟩
    have := made_aux6 (P := P) (Q := NoPanic Q) (S := S) (T := fun i => ord.contains (true, i)) (a1 := a1) (fuel := ord.length) hM (fun r hr => by have := List.all_eq_true.1 hTB.1.2 r hr; simpa using this) mono lt step
      (fun V G w' hS' hD hA => wpAnyT_seq ord _ _ w' hB (fun t i hti => by
        cases t with
        | true => simpa using hti
        | false =>
          have := List.all_eq_true.1 hTB.2 (false, i) hti
          simpa using this) (done V G w' hS' hD hA))
      rem.length (mark (Array.replicate l.length false) ks) V0 (fun _ => []) w.drew (by rw [hall]) hM'.1.2 (fun _ _ => rfl) hcl hS (fun j hj hlj => (hun j hj hlj).elim) (fun j hj k hk hlj _ _ => (hun j hj hlj).elim)
    rw [hV0] at this
    exact this

end Go.Proofs.Ytjiodlbblmbibac
/- Appending to an empty list that has no room: what was there stays. -/
namespace Go.Proofs.Ytjiodlbblmbibac
open Go.RowKit Go.Shelf Go.Sort
set_option linter.unusedVariables false

theorem wp_append_empty {P : Program} (w : World) {ops : Array Oper} {rest : List Oper} {o : Oper} {a : Act} {Q : Exit → Act → World → Prop} (hg : o.guard = none) (s x : Operand) (t : TypeId)
    (hop : o.op = Op.call { callee := Callee.builtin Builtin.append, args := #[s, x], argTypes := #[t, t] }) (e : TypeId) (i : TypeInfo) (z : Value) (size bytes : Nat) (h1 : P.underlying t = some (.slice e)) (h2 : P.info? e = some i) (h3 : i.zero = some z) (h4 : i.size = size) (h5 : i.bytes = bytes)
    (h6 : z.cells.size = size) (h7 : 0 < size) (g : Nat) (hs : a.eval s = .slice (some ⟨g, 0, none⟩) 0 0) (xa : Option Addr) (m c : Nat) (news : List Value) (hx : a.eval x = .slice xa m c) (hn : news.length = m * size)
    (hc : ∀ ad, xa = some ad → ∀ j u, news[j]? = some u → w.cell? (ad.add j) = some u) (h1c : ∀ u ∈ news, u.oneCell' = true) (hnone : xa = none → m = 0) (b1 : m ≤ maxLen) (b2 : m * bytes ≤ 140737488355328)
    (hK0 : m = 0 → wpList P ops Q rest (a.put o.dst (.slice (some ⟨g, 0, none⟩) 0 0)) w) (hK : 0 < m → ∀ v' w', w'.ownsRow w.heap.size e size v' m news → w.grownBy w' none → wpList P ops Q rest (a.put o.dst v') w') :
    wpList P ops Q (o :: rest) a w := by
  rcases Nat.eq_zero_or_pos m with h0 | h0
  · subst h0
    have hnil : news = [] := List.eq_nil_of_length_eq_zero (by simpa using hn)
    subst hnil
    have hsrc : Src P i.size t (.slice xa 0 c) 0 [] w := by
      cases xa with
      | none => exact Src.ofNil w h1 c
      | some ad => exact Src.ofSlice w h1 ad 0 c [] (by simp) (fun j u hj => by simp at hj) (fun u hu => by cases hu)
    have hrun := run_append_nothing (P := P) w t t o.type e i h1 h2 (some ⟨g, 0, none⟩) 0 0 (Nat.le_refl _) _ hsrc
    refine wpList_plain hg fun K hK' => ?_
    unfold Oper.wp
    simp [execOp, hop, resolve, invoke, builtin, hs, hx, hrun, Result.andThen]
    exact hK' _ _ (hK0 rfl)
  · cases xa with
    | none => exact absurd (hnone rfl) (by omega)
    | some ad =>
      refine wpList_append_grows w hg s x t hop e i z size bytes h1 h2 h3 h4 h5 h6 h7 (some ⟨g, 0, none⟩) 0 0 [] hs (fun h => by cases h) (by simp) (fun b _ j u hj => by simp at hj) ad m c news hx hn (hc ad rfl) h1c (by omega) (by omega) (by rw [Nat.zero_add]; exact b2) (fun v' w' h1 h2 => ?_)
      rw [Nat.zero_add, List.nil_append] at h1
      exact hK h0 v' w' h1 h2

end Go.Proofs.Ytjiodlbblmbibac
/- What the document begins: BeginOf. -/
namespace Go.Proofs.Ytjiodlbblmbibac
open Go.RowKit Go.Shelf Go.Sort
set_option linter.unusedVariables false

def ZeroAt (A n : Nat) (v : Value) (g : List Nat) (wk : World) : Prop := ∃ B, g = [B] ∧ v = .slice (some ⟨B, 0, none⟩) n n ∧ A ≤ B ∧ Blk wk B 3 n (fun _ => .int .i64 0)
theorem ZeroAt.below {A n : Nat} {v : Value} {g : List Nat} {w w' : World} (h : ZeroAt A n v g w) (hB : Below w.heap.size w w') : ZeroAt A n v g w' := by
  obtain ⟨B, h0, h1, h2, h3⟩ := h
  exact ⟨B, h0, h1, h2, h3.below hB⟩
theorem ZeroAt.lt {A n : Nat} {v : Value} {g : List Nat} {w : World} (h : ZeroAt A n v g w) : ∀ x ∈ g, x < w.heap.size := by
  obtain ⟨B, rfl, h1, h2, h3⟩ := h
  intro x hx
  rw [List.mem_singleton] at hx
  subst hx
  exact h3.lt
def BoxAt (A : Nat) (v : Value) (g : List Nat) (wk : World) : Prop := ∃ B, g = [B] ∧ v = .pointer (some ⟨B, 0, none⟩) ∧ A ≤ B ∧ Blk wk B 31 7 (fun _ => .slice .none 0 0)
theorem BoxAt.below {A : Nat} {v : Value} {g : List Nat} {w w' : World} (h : BoxAt A v g w) (hB : Below w.heap.size w w') : BoxAt A v g w' := by
  obtain ⟨B, h0, h1, h2, h3⟩ := h
  exact ⟨B, h0, h1, h2, h3.below hB⟩
theorem BoxAt.lt {A : Nat} {v : Value} {g : List Nat} {w : World} (h : BoxAt A v g w) : ∀ x ∈ g, x < w.heap.size := by
  obtain ⟨B, rfl, h1, h2, h3⟩ := h
  intro x hx
  rw [List.mem_singleton] at hx
  subst hx
  exact h3.lt
def SumsAt (A n : Nat) (v : Value) (g : List Nat) (wk : World) : Prop := ∃ B1 B2 B3, g = [] ∧ v = .agg #[.slice .none 0 0, .slice .none 0 0, .slice .none 0 0, .slice .none 0 0, .slice (some ⟨B1, 0, none⟩) n n, .slice (some ⟨B2, 0, none⟩) n n, .slice (some ⟨B3, 0, none⟩) n n] ∧
  (A ≤ B1 ∧ Blk wk B1 3 n (fun _ => .int .i64 0)) ∧ (A ≤ B2 ∧ Blk wk B2 3 n (fun _ => .int .i64 0)) ∧ (A ≤ B3 ∧ Blk wk B3 3 n (fun _ => .int .i64 0))
theorem SumsAt.below {A n : Nat} {v : Value} {g : List Nat} {w w' : World} (h : SumsAt A n v g w) (hB : Below w.heap.size w w') : SumsAt A n v g w' := by
  obtain ⟨B1, B2, B3, h0, h1, ⟨a1, a2⟩, ⟨b1, b2⟩, ⟨c1, c2⟩⟩ := h
  exact ⟨B1, B2, B3, h0, h1, ⟨a1, a2.below hB⟩, ⟨b1, b2.below hB⟩, ⟨c1, c2.below hB⟩⟩
def OneAt (A n : Nat) (v : Value) (g : List Nat) (wk : World) : Prop := ∃ B R, g = [B] ∧ v = .slice (some ⟨B, 0, none⟩) 1 1 ∧ A ≤ B ∧ Blk wk B 23 1 (fun _ => .slice (some ⟨R, 0, none⟩) n n) ∧ A ≤ R ∧ Blk wk R 3 n (fun _ => .int .i64 0)
theorem OneAt.below {A n : Nat} {v : Value} {g : List Nat} {w w' : World} (h : OneAt A n v g w) (hB : Below w.heap.size w w') : OneAt A n v g w' := by
  obtain ⟨B, R, h0, h1, h2, h3, h4, h5⟩ := h
  exact ⟨B, R, h0, h1, h2, h3.below hB, h4, h5.below hB⟩
theorem OneAt.lt {A n : Nat} {v : Value} {g : List Nat} {w : World} (h : OneAt A n v g w) : ∀ x ∈ g, x < w.heap.size := by
  obtain ⟨B, R, rfl, h1, h2, h3, h4, h5⟩ := h
  intro x hx
  rw [List.mem_singleton] at hx
  subst hx
  exact h3.lt

/-- A state whose every block is new since n: it lies there still where nothing but elder blocks changes. -/
def Fr (n : Nat) (w : World) (s : St) : Prop := ∀ w'' : World, w.heap.size ≤ w''.heap.size → (∀ g, n ≤ g → g < w.heap.size → w''.heap[g]? = w.heap[g]?) → s.At w''
theorem Fr.at {n : Nat} {w : World} {s : St} (h : Fr n w s) : s.At w := h w (Nat.le_refl _) (fun _ _ _ => rfl)
theorem Fr.below {n : Nat} {w w' : World} {s : St} (h : Fr n w s) (hB : Below w.heap.size w w') : Fr n w' s := fun w'' hz hs => h w'' (Nat.le_trans hB.size hz) fun g h1 h2 => (hs g h1 (Nat.lt_of_lt_of_le h2 hB.size)).trans (hB.block g h2)
theorem Fr.set {n : Nat} {w : World} {s : St} (h : Fr n w s) {q : Nat} (hq : q < n) (j : Nat) (u : Value) : Fr n (w.setCell ⟨q, j, none⟩ u) s := fun w'' hz hs => h w'' (by simpa using hz) fun g h1 h2 => (hs g h1 (by simpa using h2)).trans (Below.heap_setCell w ⟨q, j, none⟩ u g (by show g ≠ q; omega))
/-- What is appended to leaves blocks of another type as they were. -/
theorem grown_keep {w w2 : World} {base : Nat} {e : TypeId} {size : Nat} {v : Value} {n : Nat} {xs : List Value} (ho : w.ownsRow base e size v n xs) (hg : w.grownBy w2 v.ownBlock) {q : Nat} {t : TypeId} {m : Nat} {f : Nat → Value} (hb : Blk w q t m f) (hne : t ≠ e) : Blk w2 q t m f := by
  refine hb.grown hg ?_
  intro hq
  rcases ho.2 with ⟨rfl, _⟩ | ⟨g2, cap2, cur2, rfl, _, hh2, hrest⟩
  · simp [Value.ownBlock] at hq
  · simp only [Value.ownBlock, Option.some.injEq] at hq
    subst hq
    obtain ⟨c3, hc3, _⟩ := hb
    rw [hc3] at hh2
    cases hh2
    exact hne rfl
/-- What is owned is owned still where a block of another type is changed. -/
theorem owns_set {w : World} {base : Nat} {e : TypeId} {size : Nat} {v : Value} {n : Nat} {xs : List Value} (ho : w.ownsRow base e size v n xs) {q : Nat} {t : TypeId} {m : Nat} {f : Nat → Value} (hb : Blk w q t m f) (hne : t ≠ e) (j : Nat) (u : Value) : (w.setCell ⟨q, j, none⟩ u).ownsRow base e size v n xs := by
  refine ⟨ho.1, ?_⟩
  rcases ho.2 with h | ⟨g2, cap2, cur2, rfl, hb2, hh2, hrest⟩
  · exact .inl h
  · refine .inr ⟨g2, cap2, cur2, rfl, hb2, ?_, hrest⟩
    rw [Below.heap_setCell w ⟨q, j, none⟩ u g2 ?_]
    · exact hh2
    · intro hq
      obtain ⟨c3, hc3, _⟩ := hb
      rw [hq, hc3] at hh2
      cases hh2
      exact hne rfl
/-- The rows that have been begun. -/
def BegL (p : Pl) (A BX B1 B2 B3 k : Nat) (wk : World) : Prop := ∃ (v : Value) (G : Nat → Nat), Blk wk BX 31 7 (fun j => (#[v, .slice .none 0 0, .slice .none 0 0, .slice .none 0 0, .slice (some ⟨B1, 0, none⟩) p.ns p.ns, .slice (some ⟨B2, 0, none⟩) p.ns p.ns, .slice (some ⟨B3, 0, none⟩) p.ns p.ns] : Array Value).getD j default) ∧
  wk.ownsRow A 23 1 v k ((List.range k).map fun i => Value.slice (some ⟨G i, 0, none⟩) p.ns p.ns) ∧ (∀ i, i < k → A ≤ G i ∧ Blk wk (G i) 3 p.ns (fun _ => .int .i64 0)) ∧
  Blk wk B1 3 p.ns (fun _ => .int .i64 0) ∧ Blk wk B2 3 p.ns (fun _ => .int .i64 0) ∧ Blk wk B3 3 p.ns (fun _ => .int .i64 0)

end Go.Proofs.Ytjiodlbblmbibac
/- A state that the document copies: OwnState. -/
namespace Go.Proofs.Ytjiodlbblmbibac
open Go.RowKit Go.Shelf Go.Sort
set_option linter.unusedVariables false

def DOn (A : Nat) (s : St) (v : Value) (g : List Nat) (wk : World) : Prop := ∃ (g0 c0 : Nat) (G C : Nat → Nat), v = .slice (some ⟨g0, 0, none⟩) s.on.n c0 ∧ A ≤ g0 ∧ s.on.n ≤ c0 ∧ c0 ≤ maxLen ∧ Blk wk g0 23 s.on.n (fun i => .slice (some ⟨G i, 0, none⟩) (s.on.r i).n (C i)) ∧
  (∀ i, i < s.on.n → A ≤ G i ∧ (s.on.r i).n ≤ C i ∧ C i ≤ maxLen ∧ Blk wk (G i) 3 (s.on.r i).n (fun j => .int .i64 ((s.on.r i).z j))) ∧ (∀ i j, i < j → j < s.on.n → G i < G j) ∧ g = (List.range s.on.n).map G
theorem DOn.below {A : Nat} {s : St} {v : Value} {g : List Nat} {w w' : World} (h : DOn A s v g w) (hB : Below w.heap.size w w') : DOn A s v g w' := by
  obtain ⟨g0, c0, G, C, h1, h2, h2', h2'', h3, h4, h5, h6⟩ := h
  exact ⟨g0, c0, G, C, h1, h2, h2', h2'', h3.below hB, fun i hi => ⟨(h4 i hi).1, (h4 i hi).2.1, (h4 i hi).2.2.1, (h4 i hi).2.2.2.below hB⟩, h5, h6⟩
theorem DOn.lt {A : Nat} {s : St} {v : Value} {g : List Nat} {w : World} (h : DOn A s v g w) : ∀ x ∈ g, x < w.heap.size := by
  obtain ⟨g0, c0, G, C, h1, h2, h2', h2'', h3, h4, h5, rfl⟩ := h
  intro x hx
  obtain ⟨i, hi, rfl⟩ := List.mem_map.1 hx
  exact (h4 i (List.mem_range.1 hi)).2.2.2.lt
def DE (v : Value) (g : List Nat) : Prop := ∃ B : Nat, g = [] ∧ v = .slice (some ⟨B, 0, none⟩) 0 0
def DAgg (A : Nat) (s : St) (v : Value) (g : List Nat) (wk : World) : Prop := g = [] ∧ ∃ x2 g2 x6 g6 x10 g10 x14 g14 x18 g18 x22 g22, v = .agg #[x2, .slice .none 0 0, x6, x10, x14, x18, x22] ∧ DOn A s x2 g2 wk ∧ DHs A 65 s.hs x6 g6 wk ∧ DHs A 70 s.ms x10 g10 wk ∧
  DInts A s.si x14 g14 wk ∧ DInts A s.so x18 g18 wk ∧ DInts A s.sf x22 g22 wk ∧ (∀ x ∈ g2, x ∉ g14) ∧ (∀ x ∈ g2, x ∉ g18) ∧ (∀ x ∈ g2, x ∉ g22) ∧ (∀ x ∈ g14, x ∉ g18) ∧ (∀ x ∈ g14, x ∉ g22) ∧ (∀ x ∈ g18, x ∉ g22)
theorem DAgg.below {A : Nat} {s : St} {v : Value} {g : List Nat} {w w' : World} (h : DAgg A s v g w) (hB : Below w.heap.size w w') : DAgg A s v g w' := by
  obtain ⟨h0, x2, g2, x6, g6, x10, g10, x14, g14, x18, g18, x22, g22, h1, a, b, c, d, e, f, r⟩ := h
  exact ⟨h0, x2, g2, x6, g6, x10, g10, x14, g14, x18, g18, x22, g22, h1, a.below hB, b.below hB, c.below hB, d.below hB, e.below hB, f.below hB, r⟩

theorem OwnI.grownO {A B : Nat} {w w2 : World} {r : Rw} {e : TypeId} {size : Nat} {v : Value} {n : Nat} {xs : List Value} (h : OwnI A w r) (ho : w.ownsRow B e size v n xs) (hg : w.grownBy w2 v.ownBlock) (hne : 3 ≠ e) : OwnI A w2 r := by
  obtain ⟨g, ha, h0, h1, h2, hb⟩ := h
  exact ⟨g, ha, h0, h1, h2, grown_keep ho hg hb hne⟩
theorem OwnH.grownO {A B : Nat} {t : TypeId} {w w2 : World} {s : Hs} {e : TypeId} {size : Nat} {v : Value} {n : Nat} {xs : List Value} (h : OwnH A t w s) (ho : w.ownsRow B e size v n xs) (hg : w.grownBy w2 v.ownBlock) (hne : t ≠ e) : OwnH A t w2 s := by
  obtain ⟨h1, h2, h3, h4⟩ := h
  refine ⟨h1, h2, h3, fun hn => ?_⟩
  obtain ⟨g, ha, hA, hb⟩ := h4 hn
  exact ⟨g, ha, hA, grown_keep ho hg hb hne⟩
theorem Room.grownO {A B : Nat} {t : TypeId} {w w2 : World} {sz c : Nat} {a : Option Addr} {e : TypeId} {size : Nat} {v : Value} {n : Nat} {xs : List Value} (h : Room A w t sz a c) (ho : w.ownsRow B e size v n xs) (hg : w.grownBy w2 v.ownBlock) (hne : t ≠ e) : Room A w2 t sz a c := by
  refine h.same fun g cur hgc => hg.block g (Array.getElem?_eq_some_iff.1 hgc).1 fun hq => ?_
  rcases ho.2 with ⟨rfl, _⟩ | ⟨g2, cap2, cur2, rfl, _, hh2, hrest⟩
  · simp [Value.ownBlock] at hq
  · simp only [Value.ownBlock, Option.some.injEq] at hq
    subst hq
    rw [hgc] at hh2
    cases hh2
    exact hne rfl
theorem OwnS.grownO {A B : Nat} {w w2 : World} {s : St} {size : Nat} {v : Value} {n : Nat} {xs : List Value} (h : OwnS A w s) (hos : s.os.n = 0) (hoc : s.os.c = 0) (ho : w.ownsRow B 51 size v n xs) (hg : w.grownBy w2 v.ownBlock) : OwnS A w2 s := by
  refine ⟨?_, fun i hi => (h.rows i hi).grownO ho hg (by decide), h.rapart, ⟨h.os.le, h.os.cap, fun hn => absurd hn (by omega), fun i hi => absurd hi (by omega), h.os.apart, Or.inl hoc⟩, h.hs.grownO ho hg (by decide), h.ms.grownO ho hg (by decide), h.msr.grownO ho hg (by decide), h.si.grownO ho hg (by decide), h.so.grownO ho hg (by decide), h.sf.grownO ho hg (by decide), h.aio, h.aif, h.aof, h.ari⟩
  obtain ⟨g, ha, h0, h1, h2, hb⟩ := h.on
  exact ⟨g, ha, h0, h1, h2, grown_keep ho hg hb (by decide)⟩
theorem OwnS.below {A : Nat} {w w' : World} {s : St} (h : OwnS A w s) (hB : Below w.heap.size w w') : OwnS A w' s := by
  refine ⟨?_, fun i hi => (h.rows i hi).below hB, h.rapart, h.os.below hB, h.hs.below hB, h.ms.below hB, h.msr.below hB, h.si.below hB, h.so.below hB, h.sf.below hB, h.aio, h.aif, h.aof, h.ari⟩
  obtain ⟨g, ha, h0, h1, h2, hb⟩ := h.on
  exact ⟨g, ha, h0, h1, h2, hb.below hB⟩

/-- A line list of the copy that is being made. -/
def LineOK (A : Nat) (s : St) (Ls : Nat → Od) (i : Nat) (wk : World) : Prop := (Ls i).k = (s.os.z i).k ∧ (Ls i).ls.n = (s.os.z i).ls.n ∧ (∀ j, j < (s.os.z i).ls.n → (Ls i).ls.z j = (s.os.z i).ls.z j) ∧ ∃ B, (Ls i).ls.a = some ⟨B, 0, none⟩ ∧ A ≤ B ∧ (Ls i).ls.n ≤ (Ls i).ls.c ∧ (Ls i).ls.c ≤ maxLen ∧ Blk wk B 53 ((Ls i).ls.n * 4) (fun j => (flatH (Ls i).ls.n (Ls i).ls.z).getD j default)
def OwnL (A A0 : Nat) (s s0 : St) (BX k : Nat) (wk : World) : Prop := ∃ (v : Value) (Ls : Nat → Od), Blk wk BX 31 7 (fun j => (#[.slice s0.on.a s0.on.n s0.on.c, v, .slice s0.hs.a s0.hs.n s0.hs.c, .slice s0.ms.a s0.ms.n s0.ms.c, .slice s0.si.a s0.si.n s0.si.c, .slice s0.so.a s0.so.n s0.so.c, .slice s0.sf.a s0.sf.n s0.sf.c] : Array Value).getD j default) ∧
  wk.ownsRow A0 51 2 v k (flatO k Ls) ∧ (∀ i, i < k → LineOK A s Ls i wk) ∧ (∀ i j, i < j → j < k → (Ls i).ls.a ≠ (Ls j).ls.a) ∧ OwnS A wk s0
def D16 (A : Nat) (x : Od) (v : Value) (g : List Nat) (wk : World) : Prop := ∃ s' : Hs, g = [] ∧ v = .agg #[.int .i64 x.k, .slice s'.a s'.n s'.c] ∧ Cloned A 53 x.ls wk s'
theorem D16.below {A : Nat} {x : Od} {v : Value} {g : List Nat} {w w' : World} (h : D16 A x v g w) (hB : Below w.heap.size w w') : D16 A x v g w' := by
  obtain ⟨s', h1, h2, h3, h4, h5, h6⟩ := h
  exact ⟨s', h1, h2, h3, h4, h5.below hB, h6.below hB⟩
def D17 (A : Nat) (x : Od) (v : Value) (g : List Nat) (wk : World) : Prop := ∃ (B : Nat) (s' : Hs), g = [] ∧ v = .slice (some ⟨B, 0, none⟩) 1 1 ∧ A ≤ B ∧ Blk wk B 51 2 (fun j => (#[.int .i64 x.k, .slice s'.a s'.n s'.c] : Array Value).getD j default) ∧ Cloned A 53 x.ls wk s'
theorem D17.below {A : Nat} {x : Od} {v : Value} {g : List Nat} {w w' : World} (h : D17 A x v g w) (hB : Below w.heap.size w w') : D17 A x v g w' := by
  obtain ⟨B, s', h1, h2, h3, h4, h5, h6, h7, h8⟩ := h
  exact ⟨B, s', h1, h2, h3, h4.below hB, h5, h6, h7.below hB, h8.below hB⟩

theorem cloned_grow {A B : Nat} {e : TypeId} {s : Hs} {w : World} {v : Value} (hn : 0 < s.n) (hown : w.ownsRow B e 4 v s.n (flatH s.n s.z)) (hA : A ≤ B) : ∃ s' : Hs, v = .slice s'.a s'.n s'.c ∧ Cloned A e s w s' := by
  have hv : v ≠ .slice none 0 0 := by
    rintro rfl
    rcases hown.2 with ⟨_, h0⟩ | ⟨g2, cap2, cur2, h, _⟩
    · omega
    · cases h
  obtain ⟨s', h1, h2, h3, h4, h5⟩ := OwnH.ofOwns hown hv
  exact ⟨s', h1, h2, fun j _ => by rw [h3], h4.mono hA, h5.mono hA⟩
theorem cloned_none {A : Nat} {e : TypeId} {s : Hs} {w : World} (B : Nat) (hn : s.n = 0) : Cloned A e s w ⟨some ⟨B, 0, none⟩, 0, 0, s.z⟩ := ⟨hn.symm, fun j hj => rfl, ⟨Nat.le_refl _, Nat.zero_le _, (fun h => by cases h), fun h => absurd h (Nat.lt_irrefl _)⟩, Or.inl rfl⟩
theorem hs_news {s : Hs} {w : World} (h : s.At w) : ∀ ad, s.a = some ad → ∀ j u, (flatH s.n s.z)[j]? = some u → w.cell? (ad.add j) = some u := fun ad ha j u hj => by
  have hlen := (List.getElem?_eq_some_iff.1 hj).1
  rw [flatH_len] at hlen
  have hh := h.hds
  obtain ⟨b, o, he, hb, -⟩ := hh 0 (by omega)
  rw [ha] at he
  simp only [Option.some.injEq] at he
  subst he
  rw [ha] at hh
  exact HdsAt.news hh j u hj
theorem hs_none {s : Hs} {w : World} (h : s.At w) (ha : s.a = none) : s.n = 0 := by
  have := h.nilc ha
  have := h.le
  omega
theorem ints_grow {A B : Nat} {r : Rw} {w : World} {v : Value} (hn : 0 < r.n) (hown : w.ownsRow B 3 1 v r.n ((List.range r.n).map fun j => Value.int .i64 (r.z j))) (hA : A ≤ B) : ∃ g c, v = .slice (some ⟨g, 0, none⟩) r.n c ∧ B ≤ g ∧ DInts A r v [g] w := by
  have hv : v ≠ .slice none 0 0 := by
    rintro rfl
    rcases hown.2 with ⟨_, h0⟩ | ⟨g2, cap2, cur2, h, _⟩
    · omega
    · cases h
  obtain ⟨g, c, rfl, h1, h2, h3, h4⟩ := Blk.ofOwns hown hv
  rw [Nat.mul_one] at h4
  exact ⟨g, c, rfl, h3, g, c, rfl, rfl, by omega, h1, h2, h4.congr (fun j hj => by simp [hj])⟩
theorem rw_news {r : Rw} {w : World} (h : r.At w) : ∀ ad, r.a = some ad → ∀ j u, ((List.range r.n).map fun j => Value.int .i64 (r.z j))[j]? = some u → w.cell? (ad.add j) = some u := fun ad ha j u hj => by
  have hjn : j < r.n := by
    have := (List.getElem?_eq_some_iff.1 hj).1
    simpa using this
  obtain ⟨b, o, he, hb, hc⟩ := h.ints j hjn
  rw [ha] at he
  simp only [Option.some.injEq] at he
  subst he
  rw [Go.WideShapes.add_plain, hc]
  simp [hjn] at hj
  rw [hj]
theorem rw_none {r : Rw} {w : World} (h : r.At w) (ha : r.a = none) : r.n = 0 := by
  rcases Nat.eq_zero_or_pos r.n with h0 | h0
  · exact h0
  · obtain ⟨b, o, he, _⟩ := h.ints 0 h0
    rw [ha] at he
    cases he

set_option maxRecDepth 100000 in
set_option maxHeartbeats 4000000 in
theorem OwnState_any (p : Pl) (s : St) (w : World) (hs : s.At w) (f : Formed p s) :
    Calls Try.prog 51 #[s.val] w fun e w' => ∃ s' : St, e = .returned s'.val ∧ SameT s' s ∧ OwnS w.heap.size w' s' ∧ Below w.heap.size w w' := by
  obtain ⟨W0, hW, hWB, X0, Z0⟩ : ∃ W, ((w.alloc (.cells s.cells 31)).alloc (.cells #[.slice .none 0 0, .slice .none 0 0, .slice .none 0 0, .slice .none 0 0, .slice .none 0 0, .slice .none 0 0, .slice .none 0 0] 31)) = W ∧ Below w.heap.size w W ∧ Blk W w.heap.size 31 7 (fun j => s.cells.getD j default) ∧ Blk W (w.heap.size + 1) 31 7 (fun _ => .slice .none 0 0) :=
    ⟨_, rfl, two_below _ _ _, (Blk.mk' rfl rfl).alloc _, (Blk.mk' (cur := #[.slice .none 0 0, .slice .none 0 0, .slice .none 0 0, .slice .none 0 0, .slice .none 0 0, .slice .none 0 0, .slice .none 0 0]) (by simp) rfl).congr (fun j hj => by match j, hj with | 0, _ => rfl | 1, _ => rfl | 2, _ => rfl | 3, _ => rfl | 4, _ => rfl | 5, _ => rfl | 6, _ => rfl)⟩
  have HW : Hid ((w.alloc (.cells #[.slice s.on.a s.on.n s.on.c, .slice s.os.a s.os.n s.os.c, .slice s.hs.a s.hs.n s.hs.c, .slice s.ms.a s.ms.n s.ms.c, .slice s.si.a s.si.n s.si.c, .slice s.so.a s.so.n s.so.c, .slice s.sf.a s.sf.n s.sf.c] 31)).alloc (.cells #[.slice .none 0 0, .slice .none 0 0, .slice .none 0 0, .slice .none 0 0, .slice .none 0 0, .slice .none 0 0, .slice .none 0 0] 31) = W0) := hW
  have HS : Hid (s.At W0) := hs.below hWB
  have HF : Hid (Formed p s) := f
  have HC : Hid (∀ wk, Below W0.heap.size W0 wk → Boxed wk w.heap.size s ∧ Blk wk (w.heap.size + 1) 31 7 (fun _ => .slice .none 0 0) ∧ s.At wk ∧ Below w.heap.size w wk) := fun wk h => ⟨Boxed.of (X0.below h), Z0.below h, (hs.below hWB).below h, hWB.trans (h.mono hWB.size)⟩
  have hsz0 := hWB.size
  have zlt := Z0.lt
  have ns1 := f.sh.pl.ns1
  have ns3 := f.sh.pl.ns3
  have h72 := f.hs72
  have ms8 := f.ms8
  obtain ⟨l1, c0, c1, c2, c3, c4, c5, c6⟩ := Boxed.of X0
  have r0 : ∀ d os, (grow (redrawn W0 d) os).cell? ⟨w.heap.size, 0, none⟩ = some (.slice s.on.a s.on.n s.on.c) := fun d os => cell_regrown c0 d os
  have r2 : ∀ d os, (grow (redrawn W0 d) os).cell? ⟨w.heap.size, 2, none⟩ = some (.slice s.hs.a s.hs.n s.hs.c) := fun d os => cell_regrown c2 d os
  have r3 : ∀ d os, (grow (redrawn W0 d) os).cell? ⟨w.heap.size, 3, none⟩ = some (.slice s.ms.a s.ms.n s.ms.c) := fun d os => cell_regrown c3 d os
  have r4 : ∀ d os, (grow (redrawn W0 d) os).cell? ⟨w.heap.size, 4, none⟩ = some (.slice s.si.a s.si.n s.si.c) := fun d os => cell_regrown c4 d os
  have r5 : ∀ d os, (grow (redrawn W0 d) os).cell? ⟨w.heap.size, 5, none⟩ = some (.slice s.so.a s.so.n s.so.c) := fun d os => cell_regrown c5 d os
  have r6 : ∀ d os, (grow (redrawn W0 d) os).cell? ⟨w.heap.size, 6, none⟩ = some (.slice s.sf.a s.sf.n s.sf.c) := fun d os => cell_regrown c6 d os
  obtain ⟨iI, hI, hI0, hI1, hI2⟩ := info_parts infoInt
  obtain ⟨iH, hH, hH0, hH1, hH2⟩ := info_parts infoHoldC
  obtain ⟨iM, hM, hM0, hM1, hM2⟩ := info_parts infoMoveC
  obtain ⟨iL, hL, hL0, hL1, hL2⟩ := info_parts infoLineC
  obtain ⟨iO, hO, hO0, hO1, hO2⟩ := info_parts infoOrderC
  clear hW X0 Z0 hs f c0 c1 c2 c3 c4 c5 c6
  unfold St.val
  go_enter Try.func51, Try.ntmps51
  go_wp2_with fail
  rw [HW.out]
  refine wp_region_made6 (fun w' => ∃ p : Regrown, w' = grow (redrawn W0 p.d) p.os) [0, 1, 4, 5, 8, 9, 12, 13, 16, 17, 20, 21] [2, 3, 6, 7, 10, 11, 14, 15, 18, 19, 22, 23, 24] [(false, 25)] (by kernel_rfl) (by kernel_rfl) (by kernel_rfl) (by kernel_rfl) (by kernel_rfl) (by kernel_rfl) (by kernel_rfl) (by kernel_rfl) (by kernel_rfl) (regrown_of_below ((Below.refl _ _).drew)) ?_
  simp only [picks, List.drop_succ_cons, List.drop_zero, List.take_succ_cons, List.take_zero, List.cons_append, List.nil_append]
  repeat (go_big_quiet_step (fail))
  refine wpQuiet_nil ?_
  clear r0 r2 r3 r4 r5 r6
  refine ⟨fun j v g wk => match j with | 2 => DOn w.heap.size s v g wk | 6 => DHs w.heap.size 65 s.hs v g wk | 10 => DHs w.heap.size 70 s.ms v g wk | 14 => DInts w.heap.size s.si v g wk | 18 => DInts w.heap.size s.so v g wk | 22 => DInts w.heap.size s.sf v g wk | 23 => DAgg w.heap.size s v g wk | 24 => BoxAt W0.heap.size v g wk | _ => DE v g,
    ?zmono, ?zlow, ?zstep, ?zdone⟩
  case zmono =>
    intro j hj v g w w' hB h
    simp only [List.mem_cons, List.not_mem_nil, or_false] at hj
    rcases hj with rfl | rfl | rfl | rfl | rfl | rfl | rfl | rfl | rfl | rfl | rfl | rfl | rfl
    · exact DOn.below h hB
    · exact h
    · exact DHs.below h hB
    · exact h
    · exact DHs.below h hB
    · exact h
    · exact DInts.below h hB
    · exact h
    · exact DInts.below h hB
    · exact h
    · exact DInts.below h hB
    · exact DAgg.below h hB
    · exact BoxAt.below h hB
  case zlow =>
    intro j hj v g w h
    simp only [List.mem_cons, List.not_mem_nil, or_false] at hj
    rcases hj with rfl | rfl | rfl | rfl | rfl | rfl | rfl | rfl | rfl | rfl | rfl | rfl | rfl
    · exact DOn.lt h
    · obtain ⟨_, h1, _⟩ := h; rw [h1]; intro x hx; simp at hx
    · obtain ⟨_, h1, _⟩ := h; rw [h1]; intro x hx; simp at hx
    · obtain ⟨_, h1, _⟩ := h; rw [h1]; intro x hx; simp at hx
    · obtain ⟨_, h1, _⟩ := h; rw [h1]; intro x hx; simp at hx
    · obtain ⟨_, h1, _⟩ := h; rw [h1]; intro x hx; simp at hx
    · exact DInts.lt h
    · obtain ⟨_, h1, _⟩ := h; rw [h1]; intro x hx; simp at hx
    · exact DInts.lt h
    · obtain ⟨_, h1, _⟩ := h; rw [h1]; intro x hx; simp at hx
    · exact DInts.lt h
    · obtain ⟨h1, _⟩ := h; rw [h1]; intro x hx; simp at hx
    · exact BoxAt.lt h
  case zstep =>
    intro i hi
    simp only [List.mem_cons, List.not_mem_nil, or_false] at hi
    rcases hi with rfl | rfl | rfl | rfl | rfl | rfl | rfl | rfl | rfl | rfl | rfl | rfl | rfl
    · intro V G wk K hS hd hA hK
      have hX := below_of_regrown hS
      have q := hX.size
      refine wpOp_list 2 rfl ?_
      simp only [putAll, dstOf, List.getElem?_toArray, List.getElem?_cons_succ, List.getElem?_cons_zero, Act.put, List.setIfInBounds_toArray, List.set_cons_succ, List.set_cons_zero] at hK ⊢
      go_wp2_with fail
      refine (ownOn_any s.on wk (HS.out.on.below hX) (by rw [HF.out.sh.n]; exact HF.out.sh.pl.nb6) (by rw [HF.out.sh.n]; exact HF.out.sh.pl.nb1) (fun i hi => by rw [HF.out.sh.len i hi]; exact ⟨ns1, ns3⟩)).mono ?_
      rintro e w2 ⟨g0, c0, Gr, Cr, rfl, a1, a1', a1'', a2, a3, a4, hB2⟩
      go_wp2_with fail
      refine hK _ ((List.range s.on.n).map Gr) _ (regrown_of_below (hX.trans (hB2.mono hX.size))) hB2 (fun x hx => ?_) ⟨g0, c0, Gr, Cr, rfl, by omega, a1', a1'', a2, fun i hi => ⟨by have := (a3 i hi).1; omega, (a3 i hi).2⟩, a4, rfl⟩
      obtain ⟨i, hi, rfl⟩ := List.mem_map.1 hx
      exact (a3 i (List.mem_range.1 hi)).1
    · intro V G wk K hS hd hA hK
      have hX := below_of_regrown hS
      refine wpOp_list 3 rfl ?_
      simp only [putAll, dstOf, List.getElem?_toArray, List.getElem?_cons_succ, List.getElem?_cons_zero, Act.put, List.setIfInBounds_toArray, List.set_cons_succ, List.set_cons_zero] at hK ⊢
      go_wp2_with fail
      exact hK _ [] _ (regrown_of_below (hX.alloc hX.size _)) ((Below.refl _ _).alloc (Nat.le_refl _) _) (fun x hx => by simp at hx) ⟨wk.heap.size, rfl, rfl⟩
    · intro V G wk K hS hd hA hK
      have hX := below_of_regrown hS
      have q := hX.size
      obtain ⟨B, -, h3⟩ : DE (V 3) (G 3) := hd 3 (List.contains_iff_mem.1 (by kernel_rfl)) (by simp)
      refine wpOp_list 6 rfl ?_
      simp only [putAll, dstOf, List.getElem?_toArray, List.getElem?_cons_succ, List.getElem?_cons_zero, Act.put, List.setIfInBounds_toArray, List.set_cons_succ, List.set_cons_zero, h3] at hK ⊢
      go_wp2_with (at_builtin; refine wp_append_empty wk rfl (.tmp 8) (.tmp 10) 28 rfl 65 iH (.agg #[.int .i64 0, .int .i64 0, .int .i64 0, .int .i64 0]) 4 32 Try.underlying28 hH hH0 hH1 hH2 rfl (by decide) B rfl s.hs.a s.hs.n s.hs.c (flatH s.hs.n s.hs.z) rfl (by rw [flatH_len]) (hs_news (HS.out.hs.below hX)) (flatH_one _ _) (hs_none (HS.out.hs.below hX)) (by unfold maxLen; omega) (by omega) ?_ ?_)
      · intro h0
        exact wpList_end (hK _ [] _ hS (Below.refl _ _) (fun x hx => by simp at hx) ⟨⟨some ⟨B, 0, none⟩, 0, 0, s.hs.z⟩, rfl, rfl, cloned_none B h0⟩)
      · intro h0 v' w1 hown hgrow
        have hB1 : Below wk.heap.size wk w1 := (Below.refl _ wk).grown hgrow (Nat.le_refl _) (by intro k hk; cases hk)
        obtain ⟨s', rfl, hc⟩ := cloned_grow (A := w.heap.size) h0 hown (by omega)
        exact wpList_end (hK _ [] _ (regrown_of_below (hX.trans (hB1.mono hX.size))) hB1 (fun x hx => by simp at hx) ⟨s', rfl, rfl, hc⟩)
    · intro V G wk K hS hd hA hK
      have hX := below_of_regrown hS
      refine wpOp_list 7 rfl ?_
      simp only [putAll, dstOf, List.getElem?_toArray, List.getElem?_cons_succ, List.getElem?_cons_zero, Act.put, List.setIfInBounds_toArray, List.set_cons_succ, List.set_cons_zero] at hK ⊢
      go_wp2_with fail
      exact hK _ [] _ (regrown_of_below (hX.alloc hX.size _)) ((Below.refl _ _).alloc (Nat.le_refl _) _) (fun x hx => by simp at hx) ⟨wk.heap.size, rfl, rfl⟩
    · intro V G wk K hS hd hA hK
      have hX := below_of_regrown hS
      have q := hX.size
      obtain ⟨B, -, h3⟩ : DE (V 7) (G 7) := hd 7 (List.contains_iff_mem.1 (by kernel_rfl)) (by simp)
      refine wpOp_list 10 rfl ?_
      simp only [putAll, dstOf, List.getElem?_toArray, List.getElem?_cons_succ, List.getElem?_cons_zero, Act.put, List.setIfInBounds_toArray, List.set_cons_succ, List.set_cons_zero, h3] at hK ⊢
      go_wp2_with (at_builtin; refine wp_append_empty wk rfl (.tmp 12) (.tmp 14) 29 rfl 70 iM (.agg #[.int .i64 0, .int .i64 0, .int .i64 0, .int .i64 0]) 4 32 Try.underlying29 hM hM0 hM1 hM2 rfl (by decide) B rfl s.ms.a s.ms.n s.ms.c (flatH s.ms.n s.ms.z) rfl (by rw [flatH_len]) (hs_news (HS.out.ms.below hX)) (flatH_one _ _) (hs_none (HS.out.ms.below hX)) (by unfold maxLen; omega) (by omega) ?_ ?_)
      · intro h0
        exact wpList_end (hK _ [] _ hS (Below.refl _ _) (fun x hx => by simp at hx) ⟨⟨some ⟨B, 0, none⟩, 0, 0, s.ms.z⟩, rfl, rfl, cloned_none B h0⟩)
      · intro h0 v' w1 hown hgrow
        have hB1 : Below wk.heap.size wk w1 := (Below.refl _ wk).grown hgrow (Nat.le_refl _) (by intro k hk; cases hk)
        obtain ⟨s', rfl, hc⟩ := cloned_grow (A := w.heap.size) h0 hown (by omega)
        exact wpList_end (hK _ [] _ (regrown_of_below (hX.trans (hB1.mono hX.size))) hB1 (fun x hx => by simp at hx) ⟨s', rfl, rfl, hc⟩)
    · intro V G wk K hS hd hA hK
      have hX := below_of_regrown hS
      refine wpOp_list 11 rfl ?_
      simp only [putAll, dstOf, List.getElem?_toArray, List.getElem?_cons_succ, List.getElem?_cons_zero, Act.put, List.setIfInBounds_toArray, List.set_cons_succ, List.set_cons_zero] at hK ⊢
      go_wp2_with fail
      exact hK _ [] _ (regrown_of_below (hX.alloc hX.size _)) ((Below.refl _ _).alloc (Nat.le_refl _) _) (fun x hx => by simp at hx) ⟨wk.heap.size, rfl, rfl⟩
    · intro V G wk K hS hd hA hK
      have hX := below_of_regrown hS
      have q := hX.size
      obtain ⟨B, -, h3⟩ : DE (V 11) (G 11) := hd 11 (List.contains_iff_mem.1 (by kernel_rfl)) (by simp)
      have HN : Hid (s.si.n = p.ns) := HF.out.sin
      refine wpOp_list 14 rfl ?_
      simp only [putAll, dstOf, List.getElem?_toArray, List.getElem?_cons_succ, List.getElem?_cons_zero, Act.put, List.setIfInBounds_toArray, List.set_cons_succ, List.set_cons_zero, h3] at hK ⊢
      go_wp2_with (at_builtin; refine wp_append_empty wk rfl (.tmp 16) (.tmp 18) 23 rfl 3 iI (.int .i64 0) 1 8 Try.underlying23 hI hI0 hI1 hI2 rfl (by decide) B rfl s.si.a s.si.n s.si.c ((List.range s.si.n).map fun j => Value.int .i64 (s.si.z j)) rfl (by simp) (rw_news (HS.out.si.below hX)) (fun u hu => by obtain ⟨x, _, rfl⟩ := List.mem_map.1 hu; rfl) (rw_none (HS.out.si.below hX)) (by rw [HN.out]; unfold maxLen; omega) (by rw [HN.out]; omega) ?_ ?_)
      · intro h0
        exact absurd h0 (by rw [HN.out]; omega)
      · intro h0 v' w1 hown hgrow
        have hB1 : Below wk.heap.size wk w1 := (Below.refl _ wk).grown hgrow (Nat.le_refl _) (by intro k hk; cases hk)
        obtain ⟨gi, ci, rfl, hge, hdi⟩ := ints_grow (A := w.heap.size) h0 hown (by omega)
        exact wpList_end (hK _ [gi] _ (regrown_of_below (hX.trans (hB1.mono hX.size))) hB1 (fun x hx => by rw [List.mem_singleton] at hx; omega) hdi)
    · intro V G wk K hS hd hA hK
      have hX := below_of_regrown hS
      refine wpOp_list 15 rfl ?_
      simp only [putAll, dstOf, List.getElem?_toArray, List.getElem?_cons_succ, List.getElem?_cons_zero, Act.put, List.setIfInBounds_toArray, List.set_cons_succ, List.set_cons_zero] at hK ⊢
      go_wp2_with fail
      exact hK _ [] _ (regrown_of_below (hX.alloc hX.size _)) ((Below.refl _ _).alloc (Nat.le_refl _) _) (fun x hx => by simp at hx) ⟨wk.heap.size, rfl, rfl⟩
    · intro V G wk K hS hd hA hK
      have hX := below_of_regrown hS
      have q := hX.size
      obtain ⟨B, -, h3⟩ : DE (V 15) (G 15) := hd 15 (List.contains_iff_mem.1 (by kernel_rfl)) (by simp)
      have HN : Hid (s.so.n = p.ns) := HF.out.son
      refine wpOp_list 18 rfl ?_
      simp only [putAll, dstOf, List.getElem?_toArray, List.getElem?_cons_succ, List.getElem?_cons_zero, Act.put, List.setIfInBounds_toArray, List.set_cons_succ, List.set_cons_zero, h3] at hK ⊢
      go_wp2_with (at_builtin; refine wp_append_empty wk rfl (.tmp 20) (.tmp 22) 23 rfl 3 iI (.int .i64 0) 1 8 Try.underlying23 hI hI0 hI1 hI2 rfl (by decide) B rfl s.so.a s.so.n s.so.c ((List.range s.so.n).map fun j => Value.int .i64 (s.so.z j)) rfl (by simp) (rw_news (HS.out.so.below hX)) (fun u hu => by obtain ⟨x, _, rfl⟩ := List.mem_map.1 hu; rfl) (rw_none (HS.out.so.below hX)) (by rw [HN.out]; unfold maxLen; omega) (by rw [HN.out]; omega) ?_ ?_)
      · intro h0
        exact absurd h0 (by rw [HN.out]; omega)
      · intro h0 v' w1 hown hgrow
        have hB1 : Below wk.heap.size wk w1 := (Below.refl _ wk).grown hgrow (Nat.le_refl _) (by intro k hk; cases hk)
        obtain ⟨gi, ci, rfl, hge, hdi⟩ := ints_grow (A := w.heap.size) h0 hown (by omega)
        exact wpList_end (hK _ [gi] _ (regrown_of_below (hX.trans (hB1.mono hX.size))) hB1 (fun x hx => by rw [List.mem_singleton] at hx; omega) hdi)
    · intro V G wk K hS hd hA hK
      have hX := below_of_regrown hS
      refine wpOp_list 19 rfl ?_
      simp only [putAll, dstOf, List.getElem?_toArray, List.getElem?_cons_succ, List.getElem?_cons_zero, Act.put, List.setIfInBounds_toArray, List.set_cons_succ, List.set_cons_zero] at hK ⊢
      go_wp2_with fail
      exact hK _ [] _ (regrown_of_below (hX.alloc hX.size _)) ((Below.refl _ _).alloc (Nat.le_refl _) _) (fun x hx => by simp at hx) ⟨wk.heap.size, rfl, rfl⟩
    · intro V G wk K hS hd hA hK
      have hX := below_of_regrown hS
      have q := hX.size
      obtain ⟨B, -, h3⟩ : DE (V 19) (G 19) := hd 19 (List.contains_iff_mem.1 (by kernel_rfl)) (by simp)
      have HN : Hid (s.sf.n = p.ns) := HF.out.sfn
      refine wpOp_list 22 rfl ?_
      simp only [putAll, dstOf, List.getElem?_toArray, List.getElem?_cons_succ, List.getElem?_cons_zero, Act.put, List.setIfInBounds_toArray, List.set_cons_succ, List.set_cons_zero, h3] at hK ⊢
      go_wp2_with (at_builtin; refine wp_append_empty wk rfl (.tmp 24) (.tmp 26) 23 rfl 3 iI (.int .i64 0) 1 8 Try.underlying23 hI hI0 hI1 hI2 rfl (by decide) B rfl s.sf.a s.sf.n s.sf.c ((List.range s.sf.n).map fun j => Value.int .i64 (s.sf.z j)) rfl (by simp) (rw_news (HS.out.sf.below hX)) (fun u hu => by obtain ⟨x, _, rfl⟩ := List.mem_map.1 hu; rfl) (rw_none (HS.out.sf.below hX)) (by rw [HN.out]; unfold maxLen; omega) (by rw [HN.out]; omega) ?_ ?_)
      · intro h0
        exact absurd h0 (by rw [HN.out]; omega)
      · intro h0 v' w1 hown hgrow
        have hB1 : Below wk.heap.size wk w1 := (Below.refl _ wk).grown hgrow (Nat.le_refl _) (by intro k hk; cases hk)
        obtain ⟨gi, ci, rfl, hge, hdi⟩ := ints_grow (A := w.heap.size) h0 hown (by omega)
        exact wpList_end (hK _ [gi] _ (regrown_of_below (hX.trans (hB1.mono hX.size))) hB1 (fun x hx => by rw [List.mem_singleton] at hx; omega) hdi)
    · intro V G wk K hS hd hA hK
      have e2 : DOn w.heap.size s (V 2) (G 2) wk := hd 2 (List.contains_iff_mem.1 (by kernel_rfl)) (by simp)
      have e6 : DHs w.heap.size 65 s.hs (V 6) (G 6) wk := hd 6 (List.contains_iff_mem.1 (by kernel_rfl)) (by simp)
      have e10 : DHs w.heap.size 70 s.ms (V 10) (G 10) wk := hd 10 (List.contains_iff_mem.1 (by kernel_rfl)) (by simp)
      have e14 : DInts w.heap.size s.si (V 14) (G 14) wk := hd 14 (List.contains_iff_mem.1 (by kernel_rfl)) (by simp)
      have e18 : DInts w.heap.size s.so (V 18) (G 18) wk := hd 18 (List.contains_iff_mem.1 (by kernel_rfl)) (by simp)
      have e22 : DInts w.heap.size s.sf (V 22) (G 22) wk := hd 22 (List.contains_iff_mem.1 (by kernel_rfl)) (by simp)
      have HD : Hid (DAgg w.heap.size s (.agg #[V 2, .slice .none 0 0, V 6, V 10, V 14, V 18, V 22]) [] wk) := ⟨rfl, V 2, G 2, V 6, G 6, V 10, G 10, V 14, G 14, V 18, G 18, V 22, G 22, rfl, e2, e6, e10, e14, e18, e22, hA 2 (List.contains_iff_mem.1 (by kernel_rfl)) 14 (List.contains_iff_mem.1 (by kernel_rfl)) (by simp) (by simp) (by decide), hA 2 (List.contains_iff_mem.1 (by kernel_rfl)) 18 (List.contains_iff_mem.1 (by kernel_rfl)) (by simp) (by simp) (by decide), hA 2 (List.contains_iff_mem.1 (by kernel_rfl)) 22 (List.contains_iff_mem.1 (by kernel_rfl)) (by simp) (by simp) (by decide), hA 14 (List.contains_iff_mem.1 (by kernel_rfl)) 18 (List.contains_iff_mem.1 (by kernel_rfl)) (by simp) (by simp) (by decide), hA 14 (List.contains_iff_mem.1 (by kernel_rfl)) 22 (List.contains_iff_mem.1 (by kernel_rfl)) (by simp) (by simp) (by decide), hA 18 (List.contains_iff_mem.1 (by kernel_rfl)) 22 (List.contains_iff_mem.1 (by kernel_rfl)) (by simp) (by simp) (by decide)⟩
      obtain ⟨g0, c0, Gr, Cr, v2, -⟩ := e2
      obtain ⟨h', -, v6, -⟩ := e6
      obtain ⟨m', -, v10, -⟩ := e10
      obtain ⟨B1, k1, -, v14, -⟩ := e14
      obtain ⟨B2, k2, -, v18, -⟩ := e18
      obtain ⟨B3, k3, -, v22, -⟩ := e22
      have HD2 := HD.out
      rw [v2, v6, v10, v14, v18, v22] at HD2
      have HD3 : Hid (DAgg w.heap.size s (.agg #[.slice (some ⟨g0, 0, none⟩) s.on.n c0, .slice .none 0 0, .slice h'.a h'.n h'.c, .slice m'.a m'.n m'.c, .slice (some ⟨B1, 0, none⟩) s.si.n k1, .slice (some ⟨B2, 0, none⟩) s.so.n k2, .slice (some ⟨B3, 0, none⟩) s.sf.n k3]) [] wk) := HD2
      clear HD HD2 hA hd
      refine wpOp_list 23 rfl ?_
      simp only [putAll, dstOf, List.getElem?_toArray, List.getElem?_cons_succ, List.getElem?_cons_zero, Act.put, List.setIfInBounds_toArray, List.set_cons_succ, List.set_cons_zero, v2, v6, v10, v14, v18, v22] at hK ⊢
      go_wp2_with fail
      exact hK _ [] _ hS (Below.refl _ _) (fun x hx => by simp at hx) HD3.out
    · intro V G wk K hS hd hA hK
      have hX := below_of_regrown hS
      refine wpOp_list 24 rfl ?_
      simp only [putAll, dstOf, List.getElem?_toArray, List.getElem?_cons_succ, List.getElem?_cons_zero, Act.put, List.setIfInBounds_toArray, List.set_cons_succ, List.set_cons_zero] at hK ⊢
      go_wp2_with fail
      exact hK _ [wk.heap.size] _ (regrown_of_below (hX.alloc hX.size _)) ((Below.refl _ _).alloc (Nat.le_refl _) _) (fun x hx => by rw [List.mem_singleton] at hx; omega) ⟨wk.heap.size, rfl, rfl, hX.size, (Blk.mk' (cur := #[.slice .none 0 0, .slice .none 0 0, .slice .none 0 0, .slice .none 0 0, .slice .none 0 0, .slice .none 0 0, .slice .none 0 0]) rfl rfl).congr (fun j hj => by match j, hj with | 0, _ => rfl | 1, _ => rfl | 2, _ => rfl | 3, _ => rfl | 4, _ => rfl | 5, _ => rfl | 6, _ => rfl)⟩
  case zdone =>
    intro V G wk hS hD hA
    obtain ⟨-, x2, g2, x6, g6, x10, g10, x14, g14, x18, g18, x22, g22, v23, ⟨g0, c0, Gr, Cr, rfl, a1, a1', a1'', a2, a3, a4, rfl⟩, ⟨h', -, rfl, d1, d2, d3, -⟩, ⟨m', -, rfl, f1, f2, f3, f4⟩, ⟨B1, k1, rfl, rfl, i1, i2, i3, i4⟩, ⟨B2, k2, rfl, rfl, j1, j2, j3, j4⟩, ⟨B3, k3, rfl, rfl, l2, l3, l4, l5⟩, n1, n2, n3, n4, n5, n6⟩ : DAgg w.heap.size s (V 23) (G 23) wk := hD 23 (by simp)
    obtain ⟨BX, -, h24, mX, kX⟩ : BoxAt W0.heap.size (V 24) (G 24) wk := hD 24 (by simp)
    have hX := below_of_regrown hS
    have n12 : B1 ≠ B2 := fun e => n4 B1 (by simp) (by rw [e]; simp)
    have n13 : B1 ≠ B3 := fun e => n5 B1 (by simp) (by rw [e]; simp)
    have n23 : B2 ≠ B3 := fun e => n6 B2 (by simp) (by rw [e]; simp)
    have nr : ∀ i, i < s.on.n → Gr i ≠ B1 ∧ Gr i ≠ B2 ∧ Gr i ≠ B3 := fun i hi => by
      have hm : Gr i ∈ (List.range s.on.n).map Gr := List.mem_map.2 ⟨i, List.mem_range.2 hi, rfl⟩
      exact ⟨fun e => n1 _ hm (by rw [e]; simp), fun e => n2 _ hm (by rw [e]; simp), fun e => n3 _ hm (by rw [e]; simp)⟩
    have HR : Hid (OwnS w.heap.size wk ⟨⟨some ⟨g0, 0, none⟩, s.on.n, c0, fun i => ⟨some ⟨Gr i, 0, none⟩, (s.on.r i).n, Cr i, (s.on.r i).z⟩⟩, ⟨none, 0, 0, fun _ => ⟨0, ⟨none, 0, 0, fun _ => ⟨0, 0, 0, 0⟩⟩⟩⟩, h', m', ⟨some ⟨B1, 0, none⟩, s.si.n, k1, s.si.z⟩, ⟨some ⟨B2, 0, none⟩, s.so.n, k2, s.so.z⟩, ⟨some ⟨B3, 0, none⟩, s.sf.n, k3, s.sf.z⟩⟩) := by
      refine ⟨⟨g0, rfl, a1, a1', a1'', a2⟩, fun i hi => ⟨Gr i, rfl, (a3 i hi).1, (a3 i hi).2.1, (a3 i hi).2.2.1, (a3 i hi).2.2.2⟩, fun i j hij hj => ?_, ⟨Nat.le_refl _, Nat.zero_le _, fun h => absurd h (Nat.lt_irrefl _), fun i hi => absurd hi (Nat.not_lt_zero _), fun i j _ hj => absurd hj (Nat.not_lt_zero _), Or.inl rfl⟩, d3, f3, f4, ⟨B1, rfl, i1, i2, i3, i4⟩, ⟨B2, rfl, j1, j2, j3, j4⟩, ⟨B3, rfl, l2, l3, l4, l5⟩, ?_, ?_, ?_, fun i hi => ?_⟩
      · have := a4 i j hij hj
        simp only [ne_eq, Option.some.injEq, Addr.mk.injEq, and_true]
        omega
      · intro e; simp only [Option.some.injEq, Addr.mk.injEq, and_true] at e; exact n12 e
      · intro e; simp only [Option.some.injEq, Addr.mk.injEq, and_true] at e; exact n13 e
      · intro e; simp only [Option.some.injEq, Addr.mk.injEq, and_true] at e; exact n23 e
      · obtain ⟨x1, x2, x3⟩ := nr i hi
        exact ⟨fun e => by simp only [Option.some.injEq, Addr.mk.injEq, and_true] at e; exact x1 e, fun e => by simp only [Option.some.injEq, Addr.mk.injEq, and_true] at e; exact x2 e, fun e => by simp only [Option.some.injEq, Addr.mk.injEq, and_true] at e; exact x3 e⟩
    have HCT : Hid ((h'.n = s.hs.n ∧ ∀ j, j < h'.n → h'.z j = s.hs.z j) ∧ (m'.n = s.ms.n ∧ ∀ j, j < m'.n → m'.z j = s.ms.z j)) := ⟨⟨d1, fun j hj => d2 j (by rw [← d1]; exact hj)⟩, ⟨f1, fun j hj => f2 j (by rw [← f1]; exact hj)⟩⟩
    clear hD hA a1 a1' a1'' a2 a3 a4 d1 d2 d3 f1 f2 f3 f4 i1 i2 i3 i4 j1 j2 j3 j4 l2 l3 l4 l5 n1 n2 n3 n4 n5 n6 n12 n13 n23 nr hS
    have HKX : Hid (Blk wk BX 31 7 (fun _ => .slice .none 0 0)) := kX
    have xl := kX.lt
    have zf0 := kX.frozen 0
    have zc0 := kX.cell (j := 0) (by decide)
    have zf1 := kX.frozen 1
    have zc1 := kX.cell (j := 1) (by decide)
    have zf2 := kX.frozen 2
    have zc2 := kX.cell (j := 2) (by decide)
    have zf3 := kX.frozen 3
    have zc3 := kX.cell (j := 3) (by decide)
    have zf4 := kX.frozen 4
    have zc4 := kX.cell (j := 4) (by decide)
    have zf5 := kX.frozen 5
    have zc5 := kX.cell (j := 5) (by decide)
    have zf6 := kX.frozen 6
    have zc6 := kX.cell (j := 6) (by decide)
    clear kX
    simp only [putAll, dstOf, List.getElem?_toArray, List.getElem?_cons_succ, List.getElem?_cons_zero, Act.put, List.setIfInBounds_toArray, List.set_cons_succ, List.set_cons_zero, v23, h24]
    refine wpSeq_one 25 rfl ?_
    go_wp2_with fail
    have KZ := set7_blk HKX.out (.slice (some ⟨g0, 0, none⟩) s.on.n c0) (.slice .none 0 0) (.slice h'.a h'.n h'.c) (.slice m'.a m'.n m'.c) (.slice (some ⟨B1, 0, none⟩) s.si.n k1) (.slice (some ⟨B2, 0, none⟩) s.so.n k2) (.slice (some ⟨B3, 0, none⟩) s.sf.n k3)
    have hb := set7_below hX mX (.slice (some ⟨g0, 0, none⟩) s.on.n c0) (.slice .none 0 0) (.slice h'.a h'.n h'.c) (.slice m'.a m'.n m'.c) (.slice (some ⟨B1, 0, none⟩) s.si.n k1) (.slice (some ⟨B2, 0, none⟩) s.so.n k2) (.slice (some ⟨B3, 0, none⟩) s.sf.n k3)
    have HR2 := OwnS.set7 HR.out HKX.out (.slice (some ⟨g0, 0, none⟩) s.on.n c0) (.slice .none 0 0) (.slice h'.a h'.n h'.c) (.slice m'.a m'.n m'.c) (.slice (some ⟨B1, 0, none⟩) s.si.n k1) (.slice (some ⟨B2, 0, none⟩) s.so.n k2) (.slice (some ⟨B3, 0, none⟩) s.sf.n k3)
    unfold set7 at KZ hb HR2
    generalize (((((((wk.setCell { block := BX, off := 0 } (Value.slice (some { block := g0, off := 0 }) s.on.n c0)).setCell { block := BX, off := 1 } (Value.slice none 0 0)).setCell { block := BX, off := 2 } (Value.slice h'.a h'.n h'.c)).setCell { block := BX, off := 3 } (Value.slice m'.a m'.n m'.c)).setCell { block := BX, off := 4 } (Value.slice (some { block := B1, off := 0 }) s.si.n k1)).setCell { block := BX, off := 5 } (Value.slice (some { block := B2, off := 0 }) s.so.n k2)).setCell { block := BX, off := 6 } (Value.slice (some { block := B3, off := 0 }) s.sf.n k3)) = WZ at *
    clear hX zf0 zc0 zf1 zc1 zf2 zc2 zf3 zc3 zf4 zc4 zf5 zc5 zf6 zc6 xl v23 h24
    refine ⟨Late.no (regrown_of_below hb), ?_⟩
    refine NoPanic.normal ?_
    go_wp2_with fail
    have HL0 : Hid (OwnL w.heap.size W0.heap.size s ⟨⟨some ⟨g0, 0, none⟩, s.on.n, c0, fun i => ⟨some ⟨Gr i, 0, none⟩, (s.on.r i).n, Cr i, (s.on.r i).z⟩⟩, ⟨none, 0, 0, fun _ => ⟨0, ⟨none, 0, 0, fun _ => ⟨0, 0, 0, 0⟩⟩⟩⟩, h', m', ⟨some ⟨B1, 0, none⟩, s.si.n, k1, s.si.z⟩, ⟨some ⟨B2, 0, none⟩, s.so.n, k2, s.so.z⟩, ⟨some ⟨B3, 0, none⟩, s.sf.n, k3, s.sf.z⟩⟩ BX 0 WZ) := ⟨.slice .none 0 0, fun _ => ⟨0, ⟨none, 0, 0, fun _ => ⟨0, 0, 0, 0⟩⟩⟩, KZ, World.ownsRow_nil _ _ _ _, fun i hi => absurd hi (Nat.not_lt_zero _), fun i j _ hj => absurd hj (Nat.not_lt_zero _), HR2⟩
    clear KZ HR HR2 HKX
    have os4 := HF.out.os4
    have ole := HS.out.os.le
    have ocap := HS.out.os.cap
    unfold maxLen at ocap
    go_loopw [4] (fun i wk => ∃ k : Nat, k ≤ s.os.n ∧ i = .int .i64 k ∧ Hid (OwnL w.heap.size W0.heap.size s ⟨⟨some ⟨g0, 0, none⟩, s.on.n, c0, fun i => ⟨some ⟨Gr i, 0, none⟩, (s.on.r i).n, Cr i, (s.on.r i).z⟩⟩, ⟨none, 0, 0, fun _ => ⟨0, ⟨none, 0, 0, fun _ => ⟨0, 0, 0, 0⟩⟩⟩⟩, h', m', ⟨some ⟨B1, 0, none⟩, s.si.n, k1, s.si.z⟩, ⟨some ⟨B2, 0, none⟩, s.so.n, k2, s.so.z⟩, ⟨some ⟨B3, 0, none⟩, s.sf.n, k3, s.sf.z⟩⟩ BX k wk) ∧ Below W0.heap.size W0 wk) (fun i _ => s.os.n - (intOf i).toNat)
    case atStart => exact ⟨0, Nat.zero_le _, rfl, HL0, hb⟩
    case round =>
      clear HL0 hb
      obtain ⟨k, hk, rfl, HL, hB⟩ := hrel
      obtain ⟨⟨lb, b0, b1, b2, b3, b4, b5, b6⟩, hz, hsk, hBw⟩ := HC.out wr hB
      by_cases hlt : k < s.os.n
      · obtain ⟨v, Ls, kX, ho, hln, hap, hOS⟩ := HL.out
        obtain ⟨bo, oo, hoa, hbo, y0, y1, hlk⟩ := hsk.os.ods k hlt
        have l3 := HF.out.lns k hlt
        have HG : Hid (wr.ownsRow W0.heap.size 51 2 v k (flatO k Ls) ∧ (∀ i, i < k → LineOK w.heap.size s Ls i wr) ∧ (∀ i j, i < j → j < k → (Ls i).ls.a ≠ (Ls j).ls.a) ∧ OwnS w.heap.size wr ⟨⟨some ⟨g0, 0, none⟩, s.on.n, c0, fun i => ⟨some ⟨Gr i, 0, none⟩, (s.on.r i).n, Cr i, (s.on.r i).z⟩⟩, ⟨none, 0, 0, fun _ => ⟨0, ⟨none, 0, 0, fun _ => ⟨0, 0, 0, 0⟩⟩⟩⟩, h', m', ⟨some ⟨B1, 0, none⟩, s.si.n, k1, s.si.z⟩, ⟨some ⟨B2, 0, none⟩, s.so.n, k2, s.so.z⟩, ⟨some ⟨B3, 0, none⟩, s.sf.n, k3, s.sf.z⟩⟩) := ⟨ho, hln, hap, hOS⟩
        have HX : Hid (Blk wr BX 31 7 (fun j => (#[.slice (some ⟨g0, 0, none⟩) s.on.n c0, v, .slice h'.a h'.n h'.c, .slice m'.a m'.n m'.c, .slice (some ⟨B1, 0, none⟩) s.si.n k1, .slice (some ⟨B2, 0, none⟩) s.so.n k2, .slice (some ⟨B3, 0, none⟩) s.sf.n k3] : Array Value).getD j default)) := kX
        have HLK : Hid ((s.os.z k).ls.At wr) := hlk
        have qk : (0 : Int) ≤ (k : Int) := by omega
        rw [hoa] at b1
        have r0 : ∀ d os, (grow (redrawn wr d) os).cell? ⟨BX, 1, none⟩ = some v := fun d os => cell_regrown (kX.cell (j := 1) (by decide)) d os
        have r1 : ∀ d os, (grow (redrawn wr d) os).cell? ⟨w.heap.size, 1, none⟩ = some (.slice (some ⟨bo, oo, none⟩) s.os.n s.os.c) := fun d os => cell_regrown b1 d os
        have r2 : ∀ d os, (grow (redrawn wr d) os).cell? ⟨bo, oo + k * 2, none⟩ = some (.int .i64 (s.os.z k).k) := fun d os => cell_regrown y0 d os
        have r3 : ∀ d os, (grow (redrawn wr d) os).cell? ⟨bo, oo + k * 2 + 1, none⟩ = some (.slice (s.os.z k).ls.a (s.os.z k).ls.n (s.os.z k).ls.c) := fun d os => cell_regrown y1 d os
        clear kX ho hln hap hOS hz hoa y0 y1 hlk b0 b2 b3 b4 b5 b6 hsk HL
        go_wp2_with fail
        refine wp_region_made6 (fun w' => ∃ p : Regrown, w' = grow (redrawn wr p.d) p.os) [0, 1, 2, 3, 4, 5, 6, 7, 9, 10, 11, 12, 13, 14] [8, 15, 16, 17] [(true, 18), (true, 19), (true, 20)] (by kernel_rfl) (by kernel_rfl) (by kernel_rfl) (by kernel_rfl) (by kernel_rfl) (by kernel_rfl) (by kernel_rfl) (by kernel_rfl) (by kernel_rfl) (regrown_of_below ((Below.refl _ _).drew)) ?_
        simp only [picks, List.drop_succ_cons, List.drop_zero, List.take_succ_cons, List.take_zero, List.cons_append, List.nil_append]
        repeat (go_big_quiet_step (fail))
        refine wpQuiet_nil ?_
        clear r0 r1 r2 r3
        refine ⟨fun j v g wk => match j with | 15 => DHs wr.heap.size 53 (s.os.z k).ls v g wk | 16 => D16 wr.heap.size (s.os.z k) v g wk | 17 => D17 wr.heap.size (s.os.z k) v g wk | _ => DE v g,
          List.forall_mem_cons.2 ⟨fun v g w w' _ h => h, List.forall_mem_cons.2 ⟨fun v g w w' hB h => DHs.below h hB, List.forall_mem_cons.2 ⟨fun v g w w' hB h => D16.below h hB, List.forall_mem_cons.2 ⟨fun v g w w' hB h => D17.below h hB, List.forall_mem_nil _⟩⟩⟩⟩,
          List.forall_mem_cons.2 ⟨fun v g w h => by obtain ⟨_, h1, _⟩ := h; rw [h1]; intro x hx; simp at hx, List.forall_mem_cons.2 ⟨fun v g w h => by obtain ⟨_, h1, _⟩ := h; rw [h1]; intro x hx; simp at hx, List.forall_mem_cons.2 ⟨fun v g w h => by obtain ⟨_, h1, _⟩ := h; rw [h1]; intro x hx; simp at hx, List.forall_mem_cons.2 ⟨fun v g w h => by obtain ⟨_, _, h1, _⟩ := h; rw [h1]; intro x hx; simp at hx, List.forall_mem_nil _⟩⟩⟩⟩,
          List.forall_mem_cons.2 ⟨?zt8, List.forall_mem_cons.2 ⟨?zt15, List.forall_mem_cons.2 ⟨?zt16, List.forall_mem_cons.2 ⟨?zt17, List.forall_mem_nil _⟩⟩⟩⟩, ?ztdone⟩
        case zt8 =>
          intro V G wk K hS hd hA hK
          have hX := below_of_regrown hS
          refine wpOp_list 8 rfl ?_
          simp only [putAll, dstOf, List.getElem?_toArray, List.getElem?_cons_succ, List.getElem?_cons_zero, Act.put, List.setIfInBounds_toArray, List.set_cons_succ, List.set_cons_zero] at hK ⊢
          go_wp2_with fail
          exact hK _ [] _ (regrown_of_below (hX.alloc hX.size _)) ((Below.refl _ _).alloc (Nat.le_refl _) _) (fun x hx => by simp at hx) ⟨wk.heap.size, rfl, rfl⟩
        case zt15 =>
          intro V G wk K hS hd hA hK
          have hX := below_of_regrown hS
          have q := hX.size
          obtain ⟨B, -, h3⟩ : DE (V 8) (G 8) := hd 8 (List.contains_iff_mem.1 (by kernel_rfl)) (by simp)
          refine wpOp_list 15 rfl ?_
          simp only [putAll, dstOf, List.getElem?_toArray, List.getElem?_cons_succ, List.getElem?_cons_zero, Act.put, List.setIfInBounds_toArray, List.set_cons_succ, List.set_cons_zero, h3] at hK ⊢
          go_wp2_with (at_builtin; refine wp_append_empty wk rfl (.tmp 44) (.tmp 50) 49 rfl 53 iL (.agg #[.int .i64 0, .int .i64 0, .int .i64 0, .int .i64 0]) 4 32 Try.underlying49 hL hL0 hL1 hL2 rfl (by decide) B rfl (s.os.z k).ls.a (s.os.z k).ls.n (s.os.z k).ls.c (flatH (s.os.z k).ls.n (s.os.z k).ls.z) rfl (by rw [flatH_len]) (hs_news (HLK.out.below hX)) (flatH_one _ _) (hs_none (HLK.out.below hX)) (by unfold maxLen; omega) (by omega) ?_ ?_)
          · intro h0
            exact absurd h0 (by omega)
          · intro h0 v' w1 hown hgrow
            have hB1 : Below wk.heap.size wk w1 := (Below.refl _ wk).grown hgrow (Nat.le_refl _) (by intro k hk; cases hk)
            obtain ⟨s', rfl, hc⟩ := cloned_grow (A := wr.heap.size) h0 hown (by omega)
            exact wpList_end (hK _ [] _ (regrown_of_below (hX.trans (hB1.mono hX.size))) hB1 (fun x hx => by simp at hx) ⟨s', rfl, rfl, hc⟩)
        case zt16 =>
          intro V G wk K hS hd hA hK
          obtain ⟨s', -, h15, hc⟩ : DHs wr.heap.size 53 (s.os.z k).ls (V 15) (G 15) wk := hd 15 (List.contains_iff_mem.1 (by kernel_rfl)) (by simp)
          have HCL : Hid (Cloned wr.heap.size 53 (s.os.z k).ls wk s') := hc
          clear hc
          refine wpOp_list 16 rfl ?_
          simp only [putAll, dstOf, List.getElem?_toArray, List.getElem?_cons_succ, List.getElem?_cons_zero, Act.put, List.setIfInBounds_toArray, List.set_cons_succ, List.set_cons_zero, h15] at hK ⊢
          go_wp2_with fail
          exact hK _ [] _ hS (Below.refl _ _) (fun x hx => by simp at hx) ⟨s', rfl, rfl, HCL.out⟩
        case zt17 =>
          intro V G wk K hS hd hA hK
          have hX := below_of_regrown hS
          obtain ⟨s', -, h16, hc⟩ : D16 wr.heap.size (s.os.z k) (V 16) (G 16) wk := hd 16 (List.contains_iff_mem.1 (by kernel_rfl)) (by simp)
          have HCL : Hid (Cloned wr.heap.size 53 (s.os.z k).ls wk s') := hc
          clear hc
          refine wpOp_list 17 rfl ?_
          simp only [putAll, dstOf, List.getElem?_toArray, List.getElem?_cons_succ, List.getElem?_cons_zero, Act.put, List.setIfInBounds_toArray, List.set_cons_succ, List.set_cons_zero, h16] at hK ⊢
          go_wp2_with fail
          have hBa := (Below.refl wk.heap.size wk).alloc (Nat.le_refl _) (.cells #[.int .i64 (s.os.z k).k, .slice s'.a s'.n s'.c] 51)
          exact hK _ [] _ (regrown_of_below (hX.alloc hX.size _)) ((Below.refl _ _).alloc (Nat.le_refl _) _) (fun x hx => by simp at hx) ⟨wk.heap.size, s', rfl, rfl, hX.size, Blk.mk' rfl rfl, HCL.out.1, HCL.out.2.1, HCL.out.2.2.1.below hBa, HCL.out.2.2.2.below hBa⟩
        case ztdone =>
          intro V G' wk hS hD hA
          obtain ⟨BO, s', -, h17, m17, k17, e1, e2, ⟨o1, o2, o3, o4⟩, -⟩ : D17 wr.heap.size (s.os.z k) (V 17) (G' 17) wk := hD 17 (by simp)
          have hX := below_of_regrown hS
          have ho := owns_below HG.out.1 hX
          have hBk := hB.trans (hX.mono hB.size)
          have q0 := hB.size
          have q1 := hX.size
          obtain ⟨gB, ea, hgB, kB⟩ := o4 (by omega)
          clear hS hD hA
          have HE : Hid (s'.n = (s.os.z k).ls.n ∧ (∀ j, j < (s.os.z k).ls.n → s'.z j = (s.os.z k).ls.z j) ∧ s'.a = some ⟨gB, 0, none⟩ ∧ s'.n ≤ s'.c ∧ s'.c ≤ maxLen) := ⟨e1, e2, ea, o1, o2⟩
          have HKB : Hid (Blk wk gB 53 (s'.n * 4) (fun j => (flatH s'.n s'.z).getD j default)) := kB
          clear e1 e2 ea o1 o2 o3 o4 kB
          simp only [putAll, dstOf, List.getElem?_toArray, List.getElem?_cons_succ, List.getElem?_cons_zero, Act.put, List.setIfInBounds_toArray, List.set_cons_succ, List.set_cons_zero, h17]
          refine wpSeq_one 18 rfl ?_
          go_wp2_with (at_builtin; refine wpList_append_own _ rfl (.tmp 37) (.tmp 53) 27 rfl W0.heap.size 51 iO (.agg #[.int .i64 0, .slice none 0 0]) 2 32 Try.underlying27 hO hO0 hO1 hO2 rfl (by decide) _ _ _ rfl ho ⟨BO, 0, none⟩ 1 1 [.int .i64 (s.os.z k).k, .slice s'.a s'.n s'.c] rfl rfl ?zc1 ?zc2 ?zc3 ?zc4 ?zc5 ?_)
          case zc1 =>
            intro j u hj
            match j, hj with
            | 0, hj => simp at hj; subst hj; exact k17.cell (j := 0) (by decide)
            | 1, hj => simp at hj; subst hj; exact k17.cell (j := 1) (by decide)
          case zc2 => intro u hu; simp at hu; rcases hu with rfl | rfl <;> rfl
          case zc3 => unfold maxLen; omega
          case zc4 => omega
          case zc5 => omega
          intro v2 w2 hown2 hgrow2 hnil2
          have hlt2 := ho.lt
          have hBW2 : Below W0.heap.size W0 w2 := hBk.grown hgrow2 (by omega) (fun q hq => (hlt2 q hq).1)
          have kX2 := grown_keep ho hgrow2 (HX.out.below hX) (by decide)
          have kB2 := grown_keep ho hgrow2 HKB.out (by decide)
          have hln2 : ∀ i, i < k → LineOK w.heap.size s Ls i w2 := fun i hi => by
            obtain ⟨x1, x2, x3, B, x4, x5, x6, x7, x8⟩ := HG.out.2.1 i hi
            exact ⟨x1, x2, x3, B, x4, x5, x6, x7, grown_keep ho hgrow2 (x8.below hX) (by decide)⟩
          have hap2 : ∀ i, i < k → (Ls i).ls.a ≠ some ⟨gB, 0, none⟩ := fun i hi e => by
            obtain ⟨x1, x2, x3, B, x4, x5, x6, x7, x8⟩ := HG.out.2.1 i hi
            rw [x4] at e
            simp only [Option.some.injEq, Addr.mk.injEq, and_true] at e
            have := x8.lt
            omega
          have hOS2 := OwnS.grownO (HG.out.2.2.2.below hX) rfl rfl ho hgrow2
          have hv2 : ∃ g c, v2 = .slice (some ⟨g, 0, none⟩) (k + 1) c := by
            rcases hown2.2 with ⟨_, h0⟩ | ⟨g2, cap2, cur2, rfl, _⟩
            · omega
            · exact ⟨g2, cap2, rfl⟩
          have xl := kX2.lt
          have zf0 := kX2.frozen 1
          have zc0 := kX2.cell (j := 1) (by decide)
          have hst := hBW2.setCell (p := ⟨BX, 1, none⟩) mX v2
          have KB := kX2.set 1 v2
          have HN : Hid (OwnL w.heap.size W0.heap.size s ⟨⟨some ⟨g0, 0, none⟩, s.on.n, c0, fun i => ⟨some ⟨Gr i, 0, none⟩, (s.on.r i).n, Cr i, (s.on.r i).z⟩⟩, ⟨none, 0, 0, fun _ => ⟨0, ⟨none, 0, 0, fun _ => ⟨0, 0, 0, 0⟩⟩⟩⟩, h', m', ⟨some ⟨B1, 0, none⟩, s.si.n, k1, s.si.z⟩, ⟨some ⟨B2, 0, none⟩, s.so.n, k2, s.so.z⟩, ⟨some ⟨B3, 0, none⟩, s.sf.n, k3, s.sf.z⟩⟩ BX (k + 1) (w2.setCell ⟨BX, 1, none⟩ v2)) := by
            refine ⟨v2, fun i => if i = k then ⟨(s.os.z k).k, s'⟩ else Ls i, KB.congr (fun j hj => by match j, hj with | 0, _ => rfl | 1, _ => rfl | 2, _ => rfl | 3, _ => rfl | 4, _ => rfl | 5, _ => rfl | 6, _ => rfl), ?_, fun i hi => ?_, fun i j hij hj => ?_, hOS2.box kX2 1 v2⟩
            · have e : flatO (k + 1) (fun i => if i = k then ⟨(s.os.z k).k, s'⟩ else Ls i) = flatO k Ls ++ [.int .i64 (s.os.z k).k, .slice s'.a s'.n s'.c] := by
                rw [flatO, flatO_congr (z' := Ls) fun i hi => by rw [if_neg (by omega)], if_pos rfl]
                rfl
              rw [e]
              exact owns_set hown2 kX2 (by decide) _ _
            · by_cases hik : i = k
              · subst hik
                unfold LineOK
                dsimp only
                rw [if_pos rfl]
                exact ⟨rfl, HE.out.1, HE.out.2.1, gB, HE.out.2.2.1, by omega, HE.out.2.2.2.1, HE.out.2.2.2.2, kB2.other (a := ⟨BX, 1, none⟩) (Blk.ne kB2 kX2 (by decide)) _⟩
              · unfold LineOK
                dsimp only
                rw [if_neg hik]
                obtain ⟨x1, x2, x3, B, x4, x5, x6, x7, x8⟩ := hln2 i (by omega)
                exact ⟨x1, x2, x3, B, x4, x5, x6, x7, x8.other (a := ⟨BX, 1, none⟩) (Blk.ne x8 kX2 (by decide)) _⟩
            · dsimp only
              by_cases hjk : j = k
              · subst hjk
                rw [if_neg (by omega), if_pos rfl, HE.out.2.2.1]
                exact hap2 i hij
              · rw [if_neg (by omega), if_neg hjk]
                exact HG.out.2.2.1 i j hij (by omega)
          clear kB2 hln2 hap2 hOS2 KB hown2 kX2 ho hgrow2 hnil2 hlt2 k17 hX HG HX hBk HKB HE
          obtain ⟨g2, c2, rfl⟩ := hv2
          refine wpList_end ⟨Late.yes, ?_⟩
          refine wpSeq_one 19 rfl ?_
          go_wp2_with fail
          refine ⟨Late.yes, ?_⟩
          refine wpSeq_one 20 rfl ?_
          go_wp2_with fail
          refine ⟨Late.yes, ?_⟩
          refine NoPanic.normal ?_
          go_wp2_with fail
          go_roundw
          case rel => exact ⟨k + 1, by omega, by go_num, HN, hst⟩
          case measure => simp [intOf]; omega
      · have hkn : k = s.os.n := by omega
        subst hkn
        obtain ⟨v, Ls, kX, ho, hln, hap, hOS⟩ := HL.out
        have hv : ∃ va vc, v = .slice va s.os.n vc ∧ s.os.n ≤ vc ∧ vc ≤ maxLen ∧ (0 < s.os.n → ∃ g, va = some ⟨g, 0, none⟩ ∧ w.heap.size ≤ g ∧ Blk wr g 51 (s.os.n * 2) (fun j => (flatO s.os.n Ls).getD j default)) := by
          by_cases hv0 : v = .slice none 0 0
          · have h0 : s.os.n = 0 := by
              rcases ho.2 with ⟨_, h0⟩ | ⟨g2, cap2, cur2, h, _⟩
              · exact h0
              · rw [hv0] at h; cases h
            exact ⟨none, 0, by rw [hv0, h0], by omega, Nat.zero_le _, fun h => by omega⟩
          · obtain ⟨g, c, rfl, h1, h2, h3, h4⟩ := Blk.ofOwns ho hv0
            exact ⟨some ⟨g, 0, none⟩, c, rfl, h1, h2, fun _ => ⟨g, rfl, by omega, h4⟩⟩
        obtain ⟨va, vc, rfl, v1, v2, v3⟩ := hv
        have v4 : Room w.heap.size wr 51 2 va vc := Room.ofOwns ho (by omega)
        have HR : Hid (OwnS w.heap.size wr ⟨⟨some ⟨g0, 0, none⟩, s.on.n, c0, fun i => ⟨some ⟨Gr i, 0, none⟩, (s.on.r i).n, Cr i, (s.on.r i).z⟩⟩, ⟨va, s.os.n, vc, Ls⟩, h', m', ⟨some ⟨B1, 0, none⟩, s.si.n, k1, s.si.z⟩, ⟨some ⟨B2, 0, none⟩, s.so.n, k2, s.so.z⟩, ⟨some ⟨B3, 0, none⟩, s.sf.n, k3, s.sf.z⟩⟩) :=
          ⟨hOS.on, hOS.rows, hOS.rapart, ⟨v1, v2, v3, fun i hi => (hln i hi).2.2.2, hap, v4⟩, hOS.hs, hOS.ms, hOS.msr, hOS.si, hOS.so, hOS.sf, hOS.aio, hOS.aif, hOS.aof, hOS.ari⟩
        have HCC : Hid (SameT ⟨⟨some ⟨g0, 0, none⟩, s.on.n, c0, fun i => ⟨some ⟨Gr i, 0, none⟩, (s.on.r i).n, Cr i, (s.on.r i).z⟩⟩, ⟨va, s.os.n, vc, Ls⟩, h', m', ⟨some ⟨B1, 0, none⟩, s.si.n, k1, s.si.z⟩, ⟨some ⟨B2, 0, none⟩, s.so.n, k2, s.so.z⟩, ⟨some ⟨B3, 0, none⟩, s.sf.n, k3, s.sf.z⟩⟩ s) :=
          ⟨⟨rfl, fun i hi => ⟨rfl, fun j hj => rfl⟩⟩, ⟨rfl, fun i hi => ⟨(hln i hi).1, (hln i hi).2.1, fun j hj => (hln i hi).2.2.1 j (by rw [← (hln i hi).2.1]; exact hj)⟩⟩, HCT.out.1, HCT.out.2, ⟨rfl, fun j hj => rfl⟩, ⟨rfl, fun j hj => rfl⟩, ⟨rfl, fun j hj => rfl⟩⟩
        have xl := kX.lt
        obtain ⟨x0, x1, x2, x3, x4, x5, x6⟩ := box_cells kX
        have HZ2 : Hid (Blk wr (w.heap.size + 1) 31 7 (fun _ => .slice .none 0 0)) := hz
        have zl := hz.lt
        have zf0 := hz.frozen 0
        have zc0 := hz.cell (j := 0) (by decide)
        have zf1 := hz.frozen 1
        have zc1 := hz.cell (j := 1) (by decide)
        have zf2 := hz.frozen 2
        have zc2 := hz.cell (j := 2) (by decide)
        have zf3 := hz.frozen 3
        have zc3 := hz.cell (j := 3) (by decide)
        have zf4 := hz.frozen 4
        have zc4 := hz.cell (j := 4) (by decide)
        have zf5 := hz.frozen 5
        have zc5 := hz.cell (j := 5) (by decide)
        have zf6 := hz.frozen 6
        have zc6 := hz.cell (j := 6) (by decide)
        clear hz kX ho hln hap hOS v1 v2 v3 v4 HL hsk b0 b2 b3 b4 b5 b6
        go_wp2_with fail
        have KZ := set7_blk HZ2.out (.slice (some ⟨g0, 0, none⟩) s.on.n c0) (.slice va s.os.n vc) (.slice h'.a h'.n h'.c) (.slice m'.a m'.n m'.c) (.slice (some ⟨B1, 0, none⟩) s.si.n k1) (.slice (some ⟨B2, 0, none⟩) s.so.n k2) (.slice (some ⟨B3, 0, none⟩) s.sf.n k3)
        have hbz := set7_below (b := w.heap.size + 1) hBw (by omega) (.slice (some ⟨g0, 0, none⟩) s.on.n c0) (.slice va s.os.n vc) (.slice h'.a h'.n h'.c) (.slice m'.a m'.n m'.c) (.slice (some ⟨B1, 0, none⟩) s.si.n k1) (.slice (some ⟨B2, 0, none⟩) s.so.n k2) (.slice (some ⟨B3, 0, none⟩) s.sf.n k3)
        have HR2 := OwnS.set7 HR.out HZ2.out (.slice (some ⟨g0, 0, none⟩) s.on.n c0) (.slice va s.os.n vc) (.slice h'.a h'.n h'.c) (.slice m'.a m'.n m'.c) (.slice (some ⟨B1, 0, none⟩) s.si.n k1) (.slice (some ⟨B2, 0, none⟩) s.so.n k2) (.slice (some ⟨B3, 0, none⟩) s.sf.n k3)
        unfold set7 at KZ hbz HR2
        generalize (((((((wr.setCell { block := w.heap.size + 1, off := 0 } (Value.slice (some { block := g0, off := 0 }) s.on.n c0)).setCell { block := w.heap.size + 1, off := 1 } (Value.slice va s.os.n vc)).setCell { block := w.heap.size + 1, off := 2 } (Value.slice h'.a h'.n h'.c)).setCell { block := w.heap.size + 1, off := 3 } (Value.slice m'.a m'.n m'.c)).setCell { block := w.heap.size + 1, off := 4 } (Value.slice (some { block := B1, off := 0 }) s.si.n k1)).setCell { block := w.heap.size + 1, off := 5 } (Value.slice (some { block := B2, off := 0 }) s.so.n k2)).setCell { block := w.heap.size + 1, off := 6 } (Value.slice (some { block := B3, off := 0 }) s.sf.n k3)) = WY at *
        obtain ⟨c0', c1', c2', c3', c4', c5', c6'⟩ := box_cells KZ
        have HQ : Hid (OwnS w.heap.size WY ⟨⟨some ⟨g0, 0, none⟩, s.on.n, c0, fun i => ⟨some ⟨Gr i, 0, none⟩, (s.on.r i).n, Cr i, (s.on.r i).z⟩⟩, ⟨va, s.os.n, vc, Ls⟩, h', m', ⟨some ⟨B1, 0, none⟩, s.si.n, k1, s.si.z⟩, ⟨some ⟨B2, 0, none⟩, s.so.n, k2, s.so.z⟩, ⟨some ⟨B3, 0, none⟩, s.sf.n, k3, s.sf.z⟩⟩) := HR2
        refine bodyPost_ret (v := (⟨⟨some ⟨g0, 0, none⟩, s.on.n, c0, fun i => ⟨some ⟨Gr i, 0, none⟩, (s.on.r i).n, Cr i, (s.on.r i).z⟩⟩, ⟨va, s.os.n, vc, Ls⟩, h', m', ⟨some ⟨B1, 0, none⟩, s.si.n, k1, s.si.z⟩, ⟨some ⟨B2, 0, none⟩, s.so.n, k2, s.so.z⟩, ⟨some ⟨B3, 0, none⟩, s.sf.n, k3, s.sf.z⟩⟩ : St).val) (by simp [results, Try.results51, go_sem, St.val, c0', c1', c2', c3', c4', c5', c6']) rfl ?_
        exact ⟨_, rfl, HCC.out, HQ.out, hbz⟩

end Go.Proofs.Ytjiodlbblmbibac
/- What the document asks of states: formed. -/
namespace Go.Proofs.Ytjiodlbblmbibac
open Go.RowKit Go.Shelf Go.Sort
set_option linter.unusedVariables false

def formedB (p : Pl) (s : St) : Bool := !(badOrdersB p s || badHoldsB p s || badMovesB p s || badSumsB p s)
theorem fB_order {p : Pl} {s : St} {i : Nat} (hi : i < s.os.n) (h : badOrder p (s.os.z i) = true) : formedB p s = false := by
  have : badOrdersB p s = true := anyB_yes hi h
  simp [formedB, this]
theorem fB_check {p : Pl} {s : St} (h : ¬ checkH s.hs.n s.hs.z = 0) : formedB p s = false := by
  have : badHoldsB p s = true := by simp [badHoldsB, h]
  simp [formedB, this]
theorem fB_home {p : Pl} {s : St} {i : Nat} (hi : i < s.hs.n) (h : homeless p s (s.hs.z i) = true) : formedB p s = false := by
  have : badHoldsB p s = true := by unfold badHoldsB; rw [anyB_yes hi h, Bool.or_true]
  simp [formedB, this]
theorem fB_move {p : Pl} {s : St} {i : Nat} (hi : i < s.ms.n) (h : badMove p (s.ms.z i) = true) : formedB p s = false := by
  have : badMovesB p s = true := anyB_yes hi h
  simp [formedB, this]
theorem fB_len1 {p : Pl} {s : St} (h : ¬ s.si.n = p.ns) : formedB p s = false := by
  have : badSumsB p s = true := by
    have h1 : ((s.si.n : Int) != (p.ns : Int)) = true := by simp; omega
    simp [badSumsB, badSum, h1]
  simp [formedB, this]
theorem fB_len2 {p : Pl} {s : St} (h : ¬ s.so.n = p.ns) : formedB p s = false := by
  have : badSumsB p s = true := by
    have h1 : ((s.so.n : Int) != (p.ns : Int)) = true := by simp; omega
    simp [badSumsB, badSum, h1]
  simp [formedB, this]
theorem fB_len3 {p : Pl} {s : St} (h : ¬ s.sf.n = p.ns) : formedB p s = false := by
  have : badSumsB p s = true := by
    have h1 : ((s.sf.n : Int) != (p.ns : Int)) = true := by simp; omega
    simp [badSumsB, badSum, h1]
  simp [formedB, this]
theorem badSum_yes {p : Pl} {l : Rw} {low : Int} {g : Nat} (hn : l.n = p.ns) (hg : g < p.ns) (h : inB (l.z g) low 1048576 = false) : badSum p l low = true := by
  unfold badSum
  rw [anyB_yes (k := g) (by omega) (by rw [h]; rfl), Bool.or_true]
theorem badSum_mk {p : Pl} {l : Rw} {low : Int} (hn : l.n = p.ns) (h : ∀ g, g < p.ns → inB (l.z g) low 1048576 = true) : badSum p l low = false := by
  unfold badSum
  rw [anyB_no fun j hj => by rw [h j (by omega)]; rfl, hn]
  simp
theorem fB_sum {p : Pl} {s : St} (h : badSum p s.si 0 = true ∨ badSum p s.so 0 = true ∨ badSum p s.sf (-1048576) = true) : formedB p s = false := by
  have : badSumsB p s = true := by
    unfold badSumsB
    rcases h with h | h | h <;> rw [h] <;> simp
  simp [formedB, this]
def sumOK (s : St) (g : Nat) : Bool := inB (s.si.z g) 0 1048576 && inB (s.so.z g) 0 1048576 && inB (s.sf.z g) (-1048576) 1048576
theorem fB_yes {p : Pl} {s : St} (h1 : ∀ i, i < s.os.n → badOrder p (s.os.z i) = false) (h2 : checkH s.hs.n s.hs.z = 0) (h3 : ∀ i, i < s.hs.n → homeless p s (s.hs.z i) = false) (h4 : ∀ i, i < s.ms.n → badMove p (s.ms.z i) = false)
    (h5 : s.si.n = p.ns ∧ s.so.n = p.ns ∧ s.sf.n = p.ns) (h6 : ∀ g, g < p.ns → sumOK s g = true) : formedB p s = true := by
  have e1 : badOrdersB p s = false := anyB_no h1
  have e2 : badHoldsB p s = false := by unfold badHoldsB; rw [h2, anyB_no h3]; rfl
  have e3 : badMovesB p s = false := anyB_no h4
  have e4 : badSumsB p s = false := by
    have h : ∀ g, g < p.ns → (inB (s.si.z g) 0 1048576 = true ∧ inB (s.so.z g) 0 1048576 = true) ∧ inB (s.sf.z g) (-1048576) 1048576 = true := fun g hg => by
      have := h6 g hg
      simpa [sumOK] using this
    unfold badSumsB
    rw [badSum_mk h5.1 fun g hg => (h g hg).1.1, badSum_mk h5.2.1 fun g hg => (h g hg).1.2, badSum_mk h5.2.2 fun g hg => (h g hg).2]
    rfl
  unfold formedB
  rw [e1, e2, e3, e4]
  rfl
theorem checkH_zero' {n : Nat} {z : Nat → Hd} (h : checkH n z = 0) : anyB n (badH z) = false := by
  cases h' : anyB n (badH z)
  · rfl
  · simp [checkH, h'] at h
theorem all_succ {k : Nat} {f : Nat → Bool} {b : Bool} (h : ∀ j, j < k → f j = b) (hk : f k = b) : ∀ j, j < k + 1 → f j = b := fun j hj => by
  by_cases hjk : j = k
  · rw [hjk]; exact hk
  · exact h j (by omega)

set_option maxRecDepth 100000 in
set_option maxHeartbeats 8000000 in
theorem formed_any (p : Pl) (s : St) (w : World) (hp : p.At w) (hs : s.At w) (h0 : shelfE p s.on = 0) (h1 : tooManyB s = false) :
    Calls Try.prog 98 #[p.val, s.val] w fun e w' => e = .returned (.bool (formedB p s)) ∧ Below w.heap.size w w' := by
  obtain ⟨W0, hW, hWB, X0⟩ : ∃ W, ((w.alloc (.cells #[.slice p.ab p.nb p.cb, .slice p.sa p.ns p.cs] 25)).alloc (.cells s.cells 31)) = W ∧ Below w.heap.size w W ∧ Boxes W w.heap.size (w.heap.size + 1) p s := ⟨_, rfl, two_below _ _ _, boxes_new w p s _ _⟩
  have HC : Hid (∀ wk, Below W0.heap.size W0 wk → Boxes wk w.heap.size (w.heap.size + 1) p s ∧ p.At wk ∧ s.At wk ∧ Below w.heap.size w wk) := fun wk h => ⟨X0.below h, (hp.below hWB).below h, (hs.below hWB).below h, hWB.trans (h.mono hWB.size)⟩
  have HW : Hid ((w.alloc (.cells #[.slice p.ab p.nb p.cb, .slice p.sa p.ns p.cs] 25)).alloc (.cells #[.slice s.on.a s.on.n s.on.c, .slice s.os.a s.os.n s.os.c, .slice s.hs.a s.hs.n s.hs.c, .slice s.ms.a s.ms.n s.ms.c, .slice s.si.a s.si.n s.si.c, .slice s.so.a s.so.n s.so.c, .slice s.sf.a s.sf.n s.sf.c] 31) = W0) := hW
  have HT : Hid (s.os.n ≤ 4 ∧ s.ms.n ≤ 8 ∧ (∀ i, i < s.os.n → 1 ≤ (s.os.z i).ls.n ∧ (s.os.z i).ls.n ≤ 3)) := by
    unfold tooManyB at h1
    simp only [Bool.or_eq_false_iff, decide_eq_false_iff_not] at h1
    refine ⟨by omega, by omega, fun i hi => ?_⟩
    have := anyB_false h1.2 i hi
    simp only [fewLines, Bool.not_eq_false'] at this
    have := inB_true this
    omega
  have HR : Hid (RightS p s.on) := (rightS h0).2
  have leb := hp.leb
  have capb0 := hp.capb
  have les := hp.les
  have caps0 := hp.caps
  have capb := capb0
  have caps := caps0
  have ole := hs.os.le
  have ocap := hs.os.cap
  have hle := hs.hs.le
  have hcap := hs.hs.cap
  have mle := hs.ms.le
  have mcap := hs.ms.cap
  unfold maxLen at capb caps ocap hcap mcap
  have os4 := HT.out.1
  have ms8 := HT.out.2.1
  have ns3 := HR.out.pl.ns3
  clear hW X0 h0 h1 hp hs
  unfold Pl.val St.val
  go_enter Try.func98, Try.ntmps98
  go_wp2_with fail
  rw [HW.out]
  go_loopw [5] (fun i wk => ∃ k : Nat, k ≤ s.os.n ∧ i = .int .i64 k ∧ (∀ j, j < k → badOrder p (s.os.z j) = false) ∧ Below W0.heap.size W0 wk) (fun i _ => s.os.n - (intOf i).toNat)
  case atStart => exact ⟨0, Nat.zero_le _, rfl, fun j hj => absurd hj (Nat.not_lt_zero _), Below.refl _ _⟩
  case round =>
    obtain ⟨i, hi, rfl, hno, hB⟩ := hrel
    have HN : Hid (∀ j, j < i → badOrder p (s.os.z j) = false) := hno
    clear hno
    obtain ⟨X, hpk, hsk, hBw⟩ := HC.out wr hB
    obtain ⟨⟨l1, d0, d1⟩, l2, c0, c1, c2, c3, c4, c5, c6⟩ := X
    by_cases hlt : i < s.os.n
    · obtain ⟨b, o, hoa, hb, z0, z1, hl⟩ := hsk.os.ods i hlt
      have q1 : (0 : Int) ≤ (i : Int) := by omega
      have hl3 := (HT.out.2.2 i hlt)
      have lle := hl.le
      have lcap := hl.cap
      unfold maxLen at lcap
      have HO : Hid (s.os.a = some ⟨b, o, none⟩) := hoa
      have HE : Hid (badOrder p (s.os.z i) = (!inB (s.os.z i).k 0 2 || anyB (s.os.z i).ls.n (fun j => badLine p ((s.os.z i).ls.z j)))) := rfl
      rw [hoa] at c1
      clear hoa hl hsk c0 c2 c3 c4 c5 c6 hpk
      cases hk : inB (s.os.z i).k 0 2
      · have HX : Hid (formedB p s = false) := fB_order hlt (by rw [HE.out, hk]; rfl)
        generalize (s.os.z i).k = KD at *
        go_wp2_with (go_at_call 48; refine calls_to (within_any _ _ _ _) ?_)
        go_ret
        exact ⟨by rw [HX.out]; rfl, hBw⟩
      · have HE2 : Hid (badOrder p (s.os.z i) = anyB (s.os.z i).ls.n (fun j => badLine p ((s.os.z i).ls.z j))) := by show badOrder p (s.os.z i) = _; rw [HE.out, hk]; rfl
        clear HE
        generalize (s.os.z i).k = KD at *
        go_wp2_with (go_at_call 48; refine calls_to (within_any _ _ _ _) ?_)
        clear hk z0 hBw z1 c1 d0 d1 l1 l2 hb
        go_loopw [6] (fun i0 wk => ∃ k : Nat, k ≤ (s.os.z i).ls.n ∧ i0 = .int .i64 k ∧ (∀ j, j < k → badLine p ((s.os.z i).ls.z j) = false) ∧ Below W0.heap.size W0 wk) (fun i0 _ => (s.os.z i).ls.n - (intOf i0).toNat)
        case atStart => exact ⟨0, Nat.zero_le _, rfl, fun j hj => absurd hj (Nat.not_lt_zero _), hB⟩
        case round =>
          clear hB
          obtain ⟨j, hj, rfl, hno, hB⟩ := hrel
          have HM : Hid (∀ j', j' < j → badLine p ((s.os.z i).ls.z j') = false) := hno
          clear hno
          obtain ⟨X, hpk, hsk, hBw⟩ := HC.out wr hB
          obtain ⟨⟨l1, d0, d1⟩, l2, c0, c1, c2, c3, c4, c5, c6⟩ := X
          obtain ⟨b', o', hoa, hb, z0, z1, hl⟩ := hsk.os.ods i hlt
          rw [HO.out] at hoa c1
          simp only [Option.some.injEq, Addr.mk.injEq, and_true] at hoa
          obtain ⟨rfl, rfl⟩ := hoa
          by_cases hlj : j < (s.os.z i).ls.n
          · obtain ⟨b2, o2, hla, hb2, y0, y1, y2, y3⟩ := hl.hds j hlj
            have q2 : (0 : Int) ≤ (j : Int) := by omega
            have HT1 : Hid (badLine p ((s.os.z i).ls.z j) = true → formedB p s = false) := fun h => fB_order hlt (by rw [HE2.out]; exact anyB_yes hlj h)
            have HT2 : Hid (badLine p ((s.os.z i).ls.z j) = false → ∀ j', j' < j + 1 → badLine p ((s.os.z i).ls.z j') = false) := fun h => all_succ HM.out h
            have HBL : Hid (badLine p ((s.os.z i).ls.z j) = (!inB ((s.os.z i).ls.z j).o 0 ((p.ns : Int) - 1) || !inB ((s.os.z i).ls.z j).l 1 200 || !inB ((s.os.z i).ls.z j).b 0 ((s.os.z i).ls.z j).l || !inB ((s.os.z i).ls.z j).n 0 ((s.os.z i).ls.z j).l)) := rfl
            rw [hla] at z1
            clear hla hl hsk hpk c0 c2 c3 c4 c5 c6 z0 HM
            generalize badLine p ((s.os.z i).ls.z j) = BL at *
            generalize (s.os.z i).ls.z j = LZ at *
            obtain ⟨W1, hW1, hBn, hYn⟩ : ∃ W1, wr.alloc (.cells #[.int .i64 LZ.o, .int .i64 LZ.l, .int .i64 LZ.b, .int .i64 LZ.n] 53) = W1 ∧ Below W0.heap.size W0 W1 ∧ Blk W1 wr.heap.size 53 4 (fun j => (#[.int .i64 LZ.o, .int .i64 LZ.l, .int .i64 LZ.b, .int .i64 LZ.n] : Array Value).getD j default) := ⟨_, rfl, hB.alloc hB.size _, Blk.mk' rfl rfl⟩
            obtain ⟨B4, hB4⟩ : ∃ B4, wr.heap.size = B4 := ⟨_, rfl⟩
            rw [hB4] at hYn
            have HV : Hid (wr.alloc (.cells #[.int .i64 LZ.o, .int .i64 LZ.l, .int .i64 LZ.b, .int .i64 LZ.n] 53) = W1 ∧ wr.heap.size = B4) := ⟨hW1, hB4⟩
            obtain ⟨X, hpk, hsk, hBw1⟩ := HC.out W1 hBn
            have HX1 : Hid (Boxes W1 w.heap.size (w.heap.size + 1) p s) := X
            clear hW1 hB4 X hpk hsk
            have HY : Hid (∀ wk, Below W1.heap.size W1 wk → (wk.cell? ⟨B4, 1, none⟩ = some (.int .i64 LZ.l) ∧ wk.cell? ⟨B4, 2, none⟩ = some (.int .i64 LZ.b) ∧ wk.cell? ⟨B4, 3, none⟩ = some (.int .i64 LZ.n) ∧ B4 < wk.heap.size) ∧ Below W0.heap.size W0 wk ∧ Below w.heap.size w wk) :=
              fun wk h => ⟨⟨(hYn.below h).cell (j := 1) (by decide), (hYn.below h).cell (j := 2) (by decide), (hYn.below h).cell (j := 3) (by decide), (hYn.below h).lt⟩, hBn.trans (h.mono hBn.size), hBw1.trans (h.mono hBw1.size)⟩
            clear hYn hBn hBw1 hBw
            go_wp2_with fail
            rw [HV.out.1]
            refine (isGood_any p LZ.o W1 les caps0).mono ?_
            rintro e w2 ⟨rfl, hB2⟩
            rw [HV.out.2]
            obtain ⟨⟨t1, t2, t3, l4⟩, hBz, hBw⟩ := HY.out w2 hB2
            clear hB2 HY HV HX1 y0 y1 y2 y3 z1 c1 d0 d1 l1 l2 hb hb2 hB
            cases k1 : inB LZ.o 0 ((p.ns : Int) - 1)
            · have HX : Hid (formedB p s = false) := HT1.out (by rw [HBL.out, k1]; rfl)
              clear HBL HT1 HT2 k1
              go_wp2_with fail
              go_ret
              exact ⟨by rw [HX.out]; rfl, hBw⟩
            · cases k2 : inB LZ.l 1 200
              · have HX : Hid (formedB p s = false) := HT1.out (by rw [HBL.out, k1, k2]; rfl)
                clear HBL HT1 HT2 k1
                go_wp2_with (go_at_call 48; refine calls_to (within_any _ _ _ _) ?_)
                go_ret
                exact ⟨by rw [HX.out]; rfl, hBw⟩
              · cases k3 : inB LZ.b 0 LZ.l
                · have HX : Hid (formedB p s = false) := HT1.out (by rw [HBL.out, k1, k2, k3]; rfl)
                  clear HBL HT1 HT2 k1
                  go_wp2_with (go_at_call 48; refine calls_to (within_any _ _ _ _) ?_)
                  go_ret
                  exact ⟨by rw [HX.out]; rfl, hBw⟩
                · cases k4 : inB LZ.n 0 LZ.l
                  · have HX : Hid (formedB p s = false) := HT1.out (by rw [HBL.out, k1, k2, k3, k4]; rfl)
                    clear HBL HT1 HT2 k1
                    go_wp2_with (go_at_call 48; refine calls_to (within_any _ _ _ _) ?_)
                    go_ret
                    exact ⟨by rw [HX.out]; rfl, hBw⟩
                  · have HX := HT2.out (by rw [HBL.out, k1, k2, k3, k4]; rfl)
                    have HX2 : Hid _ := HX
                    clear HBL HT1 HT2 k1 HX
                    go_wp2_with (go_at_call 48; refine calls_to (within_any _ _ _ _) ?_)
                    go_roundw
                    case rel => exact ⟨j + 1, by omega, by go_num, HX2.out, hBz⟩
                    case measure => simp [intOf]; omega
          · have HA : Hid (badOrder p (s.os.z i) = false) := by show badOrder p (s.os.z i) = false; rw [HE2.out]; exact anyB_no fun j' hj' => HM.out j' (by omega)
            clear c0 c2 c3 c4 c5 c6 hpk hsk hl
            go_wp2_with fail
            go_roundw
            case rel => exact ⟨i + 1, by omega, by go_num, all_succ HN.out HA.out, hB⟩
            case measure => simp [intOf]; omega
    · have HN2 : Hid (∀ j, j < s.os.n → badOrder p (s.os.z j) = false) := fun j hj => HN.out j (by omega)
      clear HN
      have HHS : Hid (s.hs.At wr) := hsk.hs
      clear hsk hpk c0 c3 c4 c5 c6 hBw d0 d1
      go_wp2_with fail
      refine (CheckHolds_any s.hs wr HHS.out).mono ?_
      rintro e w2 ⟨rfl, hB2⟩
      have hB := hB.trans (hB2.mono hB.size)
      clear hB2 HHS c1 c2 l1 l2 hlt hi
      by_cases h0 : checkH s.hs.n s.hs.z = 0
      · have H0 : Hid (checkH s.hs.n s.hs.z = 0) := h0
        have h72 : s.hs.n ≤ 72 := right_len (checkH_zero' h0)
        rw [h0]
        clear h0
        go_wp2_with fail
        go_loopw [8] (fun i wk => ∃ k : Nat, k ≤ s.hs.n ∧ i = .int .i64 k ∧ (∀ j, j < k → homeless p s (s.hs.z j) = false) ∧ Below W0.heap.size W0 wk) (fun i _ => s.hs.n - (intOf i).toNat)
        case atStart => exact ⟨0, Nat.zero_le _, rfl, fun j hj => absurd hj (Nat.not_lt_zero _), hB⟩
        case round =>
          clear hB
          obtain ⟨k, hk, rfl, hno, hB⟩ := hrel
          have HM : Hid (∀ j, j < k → homeless p s (s.hs.z j) = false) := hno
          clear hno
          obtain ⟨X, hpk, hsk, hBw⟩ := HC.out wr hB
          obtain ⟨⟨l1, d0, d1⟩, l2, c0, c1, c2, c3, c4, c5, c6⟩ := X
          by_cases hlt : k < s.hs.n
          · obtain ⟨b, q, hha, hb, z0, z1, z2, z3⟩ := hsk.hs.hds k hlt
            have hfine := fineH_true (right_fine (checkH_zero' H0.out) k hlt)
            obtain ⟨mo, hmo⟩ := Int.eq_ofNat_of_zero_le hfine.1.1
            obtain ⟨ml, hml⟩ := Int.eq_ofNat_of_zero_le hfine.2.1.1
            have q4 : (0 : Int) ≤ (k : Int) := by omega
            have q2 : (0 : Int) ≤ (mo : Int) := by omega
            have q3 : (0 : Int) ≤ (ml : Int) := by omega
            have HT1 : Hid (homeless p s (s.hs.z k) = true → formedB p s = false) := fun h => fB_home hlt h
            have HT2 : Hid (homeless p s (s.hs.z k) = false → ∀ j', j' < k + 1 → homeless p s (s.hs.z j') = false) := fun h => all_succ HM.out h
            have HBL : Hid (homeless p s (s.hs.z k) = (!inB mo 0 ((s.os.n : Int) - 1) || !inB ml 0 (((s.os.z mo).ls.n : Int) - 1) || !inB (s.hs.z k).b 0 ((p.nb : Int) - 1))) := by
              show homeless p s (s.hs.z k) = _
              unfold homeless
              rw [hmo, hml]
              rfl
            rw [hmo] at z0
            rw [hml] at z1
            rw [hha] at c2
            clear hmo hml hfine HM hha
            generalize homeless p s (s.hs.z k) = BL at *
            generalize (s.hs.z k).b = HB at *
            generalize (s.hs.z k).n = HNn at *
            obtain ⟨W1, hW1, hBn, hYn, hBa⟩ : ∃ W1, wr.alloc (.cells #[.int .i64 mo, .int .i64 ml, .int .i64 HB, .int .i64 HNn] 65) = W1 ∧ Below W0.heap.size W0 W1 ∧ Blk W1 wr.heap.size 65 4 (fun j => (#[.int .i64 mo, .int .i64 ml, .int .i64 HB, .int .i64 HNn] : Array Value).getD j default) ∧ Below wr.heap.size wr W1 := ⟨_, rfl, hB.alloc hB.size _, Blk.mk' rfl rfl, (Below.refl _ _).alloc (Nat.le_refl _) _⟩
            have HV : Hid (wr.alloc (.cells #[.int .i64 mo, .int .i64 ml, .int .i64 HB, .int .i64 HNn] 65) = W1) := hW1
            obtain ⟨X, hpk1, hsk1, hBw1⟩ := HC.out W1 hBn
            obtain ⟨⟨m1, e0, e1⟩, m2, f0, f1, f2, f3, f4, f5, f6⟩ := X
            have r0 : ∀ d os, (grow (redrawn W1 d) os).cell? ⟨wr.heap.size, 0, none⟩ = some (.int .i64 mo) := fun d os => cell_regrown (hYn.cell (j := 0) (by decide)) d os
            have r1 : ∀ d os, (grow (redrawn W1 d) os).cell? ⟨wr.heap.size, 1, none⟩ = some (.int .i64 ml) := fun d os => cell_regrown (hYn.cell (j := 1) (by decide)) d os
            have r2 : ∀ d os, (grow (redrawn W1 d) os).cell? ⟨wr.heap.size, 2, none⟩ = some (.int .i64 HB) := fun d os => cell_regrown (hYn.cell (j := 2) (by decide)) d os
            have r3 : ∀ d os, (grow (redrawn W1 d) os).cell? ⟨w.heap.size, 0, none⟩ = some (.slice p.ab p.nb p.cb) := fun d os => cell_regrown e0 d os
            have r4 : ∀ d os, (grow (redrawn W1 d) os).cell? ⟨w.heap.size, 1, none⟩ = some (.slice p.sa p.ns p.cs) := fun d os => cell_regrown e1 d os
            clear e0 e1 f0 f2 f3 f4 f5 f6 hpk1 hW1
            by_cases g1 : mo < s.os.n
            · obtain ⟨b1, o1, hoa, hb1, -, y1, hl⟩ := hsk1.os.ods mo g1
              have lle := hl.le
              have lcap := hl.cap
              have l3 := HT.out.2.2 mo g1
              unfold maxLen at lcap
              rw [hoa] at f1
              have r5 : ∀ d os, (grow (redrawn W1 d) os).cell? ⟨w.heap.size + 1, 1, none⟩ = some (.slice (some ⟨b1, o1, none⟩) s.os.n s.os.c) := fun d os => cell_regrown f1 d os
              have r6 : ∀ d os, (grow (redrawn W1 d) os).cell? ⟨b1, o1 + mo * 2 + 1, none⟩ = some (.slice (s.os.z mo).ls.a (s.os.z mo).ls.n (s.os.z mo).ls.c) := fun d os => cell_regrown y1 d os
              have g1' : ¬ (s.os.n : Int) ≤ (mo : Int) := by omega
              have g1d : decide ((s.os.n : Int) ≤ (mo : Int)) = false := decide_eq_false g1'
              have g1n : ¬ s.os.n ≤ mo := by omega
              have g1e : decide (s.os.n ≤ mo) = false := decide_eq_false g1n
              have k1 : inB mo 0 ((s.os.n : Int) - 1) = true := inB_mk (by omega)
              clear hoa hl hsk1 f1 y1
              generalize (s.os.z mo).ls.n = LN at *
              generalize (s.os.z mo).ls.a = LA at *
              generalize (s.os.z mo).ls.c = LC at *
              by_cases g2 : ml < LN
              · have g2' : ¬ (LN : Int) ≤ (ml : Int) := by omega
                have g2d : decide ((LN : Int) ≤ (ml : Int)) = false := decide_eq_false g2'
                have g2n : ¬ LN ≤ ml := by omega
                have g2e : decide (LN ≤ ml) = false := decide_eq_false g2n
                have k2 : inB ml 0 ((LN : Int) - 1) = true := inB_mk (by omega)
                cases k3 : inB HB 0 ((p.nb : Int) - 1)
                · have HX : Hid (formedB p s = false) := HT1.out (by rw [HBL.out, k1, k2, k3]; rfl)
                  clear HBL HT1 HT2 k1 k2
                  go_wp2_with fail
                  rw [HV.out]
                  refine wp_region_quiet_below (by kernel_rfl) (by kernel_rfl) ?_
                  repeat (go_big_quiet_step ((go_at_call 49; exact Calls.regrown_of (isBin_any p HB _ leb capb0))))
                  refine wpQuiet_nil ?_
                  intro _ hw'
                  obtain ⟨⟨dq, osq⟩, hw''⟩ := hw'
                  subst hw''
                  rw [k3]
                  go_wp2_with fail
                  go_ret
                  exact ⟨by rw [HX.out]; rfl, hBw1.trans ((below_regrown _ _ _).mono hBw1.size)⟩
                · have HX := HT2.out (by rw [HBL.out, k1, k2, k3]; rfl)
                  have HX2 : Hid _ := HX
                  clear HBL HT1 HT2 k1 k2 HX
                  go_wp2_with fail
                  rw [HV.out]
                  refine wp_region_quiet_below (by kernel_rfl) (by kernel_rfl) ?_
                  repeat (go_big_quiet_step ((go_at_call 49; exact Calls.regrown_of (isBin_any p HB _ leb capb0))))
                  refine wpQuiet_nil ?_
                  intro _ hw'
                  obtain ⟨⟨dq, osq⟩, hw''⟩ := hw'
                  subst hw''
                  rw [k3]
                  go_wp2_with fail
                  go_roundw
                  case rel => exact ⟨k + 1, by omega, by go_num, HX2.out, hBn.trans ((below_regrown _ _ _).mono hBn.size)⟩
                  case measure => simp [intOf]; omega
              · have g2' : (LN : Int) ≤ (ml : Int) := by omega
                have g2d : decide ((LN : Int) ≤ (ml : Int)) = true := decide_eq_true g2'
                have g2n : LN ≤ ml := by omega
                have g2e : decide (LN ≤ ml) = true := decide_eq_true g2n
                have k2 : inB ml 0 ((LN : Int) - 1) = false := inB_no (by omega)
                have HX : Hid (formedB p s = false) := HT1.out (by rw [HBL.out, k1, k2]; rfl)
                clear HBL HT1 HT2 k1 k2
                go_wp2_with fail
                rw [HV.out]
                refine wp_region_quiet_below (by kernel_rfl) (by kernel_rfl) ?_
                repeat (go_big_quiet_step (fail))
                refine wpQuiet_nil ?_
                intro _ hw'
                obtain ⟨⟨dq, osq⟩, hw''⟩ := hw'
                subst hw''
                go_wp2_with fail
                go_ret
                exact ⟨by rw [HX.out]; rfl, hBw1.trans ((below_regrown _ _ _).mono hBw1.size)⟩
            · have g1' : (s.os.n : Int) ≤ (mo : Int) := by omega
              have g1d : decide ((s.os.n : Int) ≤ (mo : Int)) = true := decide_eq_true g1'
              have k1 : inB mo 0 ((s.os.n : Int) - 1) = false := inB_no (by omega)
              have r5 : ∀ d os, (grow (redrawn W1 d) os).cell? ⟨w.heap.size + 1, 1, none⟩ = some (.slice s.os.a s.os.n s.os.c) := fun d os => cell_regrown f1 d os
              have HX : Hid (formedB p s = false) := HT1.out (by rw [HBL.out, k1]; rfl)
              clear HBL HT1 HT2 k1 f1 hsk1
              go_wp2_with fail
              rw [HV.out]
              refine wp_region_quiet_below (by kernel_rfl) (by kernel_rfl) ?_
              repeat (go_big_quiet_step (fail))
              refine wpQuiet_nil ?_
              intro _ hw'
              obtain ⟨⟨dq, osq⟩, hw''⟩ := hw'
              subst hw''
              go_wp2_with fail
              go_ret
              exact ⟨by rw [HX.out]; rfl, hBw1.trans ((below_regrown _ _ _).mono hBw1.size)⟩
          · have HN3 : Hid (∀ j, j < s.hs.n → homeless p s (s.hs.z j) = false) := fun j hj => HM.out j (by omega)
            clear HM
            go_wp2_with fail
            clear hsk hpk c0 c1 c2 c3 c4 c5 c6 d0 d1 hBw l1 l2 hlt hk
            go_loopw [10] (fun i wk => ∃ k : Nat, k ≤ s.ms.n ∧ i = .int .i64 k ∧ (∀ j, j < k → badMove p (s.ms.z j) = false) ∧ Below W0.heap.size W0 wk) (fun i _ => s.ms.n - (intOf i).toNat)
            case atStart => exact ⟨0, Nat.zero_le _, rfl, fun j hj => absurd hj (Nat.not_lt_zero _), hB⟩
            case round =>
              clear hB
              obtain ⟨k, hk, rfl, hno, hB⟩ := hrel
              have HM : Hid (∀ j, j < k → badMove p (s.ms.z j) = false) := hno
              clear hno
              obtain ⟨X, hpk, hsk, hBw⟩ := HC.out wr hB
              obtain ⟨⟨l1, d0, d1⟩, l2, c0, c1, c2, c3, c4, c5, c6⟩ := X
              by_cases hlt : k < s.ms.n
              · obtain ⟨b, q, hma, hb, z0, z1, z2, z3⟩ := hsk.ms.hds k hlt
                have q4 : (0 : Int) ≤ (k : Int) := by omega
                have HT1 : Hid (badMove p (s.ms.z k) = true → formedB p s = false) := fun h => fB_move hlt h
                have HT2 : Hid (badMove p (s.ms.z k) = false → ∀ j', j' < k + 1 → badMove p (s.ms.z j') = false) := fun h => all_succ HM.out h
                have HBL : Hid (badMove p (s.ms.z k) = (!inB (s.ms.z k).o 0 ((p.ns : Int) - 1) || !inB (s.ms.z k).l 0 ((p.nb : Int) - 1) || !inB (s.ms.z k).b 0 ((p.nb : Int) - 1) || ((s.ms.z k).l == (s.ms.z k).b) || !inB (s.ms.z k).n 1 200)) := rfl
                rw [hma] at c3
                clear hma hsk hpk c0 c1 c2 c4 c5 c6 HM
                generalize badMove p (s.ms.z k) = BL at *
                generalize s.ms.z k = LZ at *
                obtain ⟨W1, hW1, hBn, hYn⟩ : ∃ W1, wr.alloc (.cells #[.int .i64 LZ.o, .int .i64 LZ.l, .int .i64 LZ.b, .int .i64 LZ.n] 70) = W1 ∧ Below W0.heap.size W0 W1 ∧ Blk W1 wr.heap.size 70 4 (fun j => (#[.int .i64 LZ.o, .int .i64 LZ.l, .int .i64 LZ.b, .int .i64 LZ.n] : Array Value).getD j default) := ⟨_, rfl, hB.alloc hB.size _, Blk.mk' rfl rfl⟩
                obtain ⟨B4, hB4⟩ : ∃ B4, wr.heap.size = B4 := ⟨_, rfl⟩
                rw [hB4] at hYn
                have HV : Hid (wr.alloc (.cells #[.int .i64 LZ.o, .int .i64 LZ.l, .int .i64 LZ.b, .int .i64 LZ.n] 70) = W1 ∧ wr.heap.size = B4) := ⟨hW1, hB4⟩
                have HY : Hid (∀ wk, Below W1.heap.size W1 wk → (wk.cell? ⟨B4, 1, none⟩ = some (.int .i64 LZ.l) ∧ wk.cell? ⟨B4, 2, none⟩ = some (.int .i64 LZ.b) ∧ wk.cell? ⟨B4, 3, none⟩ = some (.int .i64 LZ.n) ∧ B4 < wk.heap.size) ∧ (w.heap.size < wk.heap.size ∧ wk.cell? ⟨w.heap.size, 0, none⟩ = some (.slice p.ab p.nb p.cb) ∧ wk.cell? ⟨w.heap.size, 1, none⟩ = some (.slice p.sa p.ns p.cs)) ∧ Below W0.heap.size W0 wk ∧ Below w.heap.size w wk) :=
                  fun wk h => ⟨⟨(hYn.below h).cell (j := 1) (by decide), (hYn.below h).cell (j := 2) (by decide), (hYn.below h).cell (j := 3) (by decide), (hYn.below h).lt⟩, (HC.out wk (hBn.trans (h.mono hBn.size))).1.1, hBn.trans (h.mono hBn.size), (HC.out wk (hBn.trans (h.mono hBn.size))).2.2.2⟩
                clear hYn hBn hBw hW1 hB4
                go_wp2_with fail
                rw [HV.out.1]
                refine (isGood_any p LZ.o W1 les caps0).mono ?_
                rintro e w2 ⟨rfl, hB2⟩
                rw [HV.out.2]
                clear d0 d1 l1 l2 hb hB z0 z1 z2 z3 c3 HV
                obtain ⟨⟨t1, t2, t3, l4⟩, ⟨l1, d0, d1⟩, hBz, hBw⟩ := HY.out w2 hB2
                cases k1 : inB LZ.o 0 ((p.ns : Int) - 1)
                · have HX : Hid (formedB p s = false) := HT1.out (by rw [HBL.out, k1]; rfl)
                  clear HBL HT1 HT2 k1
                  go_wp2_with fail
                  go_ret
                  exact ⟨by rw [HX.out]; rfl, hBw⟩
                · go_wp2_with fail
                  refine (isBin_any p LZ.l w2 leb capb0).mono ?_
                  rintro e w3 ⟨rfl, hB3⟩
                  have hB3 := hB2.trans (hB3.mono hB2.size)
                  clear hB2 t1 t2 t3 l4 l1 d0 d1 hBz hBw
                  obtain ⟨⟨t1, t2, t3, l4⟩, ⟨l1, d0, d1⟩, hBz, hBw⟩ := HY.out w3 hB3
                  cases k2 : inB LZ.l 0 ((p.nb : Int) - 1)
                  · have HX : Hid (formedB p s = false) := HT1.out (by rw [HBL.out, k1, k2]; rfl)
                    clear HBL HT1 HT2 k1 k2
                    go_wp2_with fail
                    go_ret
                    exact ⟨by rw [HX.out]; rfl, hBw⟩
                  · go_wp2_with fail
                    refine (isBin_any p LZ.b w3 leb capb0).mono ?_
                    rintro e w4 ⟨rfl, hB4⟩
                    have hB4 := hB3.trans (hB4.mono hB3.size)
                    clear hB3 t1 t2 t3 l4 l1 d0 d1 hBz hBw
                    obtain ⟨⟨t1, t2, t3, l4⟩, ⟨l1, d0, d1⟩, hBz, hBw⟩ := HY.out w4 hB4
                    cases k3 : inB LZ.b 0 ((p.nb : Int) - 1)
                    · have HX : Hid (formedB p s = false) := HT1.out (by rw [HBL.out, k1, k2, k3]; rfl)
                      clear HBL HT1 HT2 k1 k2 k3
                      go_wp2_with fail
                      go_ret
                      exact ⟨by rw [HX.out]; rfl, hBw⟩
                    · cases k4 : (LZ.l == LZ.b)
                      · cases k5 : inB LZ.n 1 200
                        · have HX : Hid (formedB p s = false) := HT1.out (by rw [HBL.out, k1, k2, k3, k4, k5]; rfl)
                          clear HBL HT1 HT2 k1 k2 k3
                          go_wp2_with (go_at_call 48; refine calls_to (within_any _ _ _ _) ?_)
                          go_ret
                          exact ⟨by rw [HX.out]; rfl, hBw⟩
                        · have HX := HT2.out (by rw [HBL.out, k1, k2, k3, k4, k5]; rfl)
                          have HX2 : Hid _ := HX
                          clear HBL HT1 HT2 k1 k2 k3 HX
                          go_wp2_with (go_at_call 48; refine calls_to (within_any _ _ _ _) ?_)
                          go_roundw
                          case rel => exact ⟨k + 1, by omega, by go_num, HX2.out, hBz⟩
                          case measure => simp [intOf]; omega
                      · have HX : Hid (formedB p s = false) := HT1.out (by rw [HBL.out, k1, k2, k3, k4]; rfl)
                        clear HBL HT1 HT2 k1 k2 k3
                        go_wp2_with fail
                        go_ret
                        exact ⟨by rw [HX.out]; rfl, hBw⟩
              · have HN4 : Hid (∀ j, j < s.ms.n → badMove p (s.ms.z j) = false) := fun j hj => HM.out j (by omega)
                clear HM
                by_cases n1 : s.si.n = p.ns
                · by_cases n2 : s.so.n = p.ns
                  · by_cases n3 : s.sf.n = p.ns
                    · have HLN : Hid (s.si.n = p.ns ∧ s.so.n = p.ns ∧ s.sf.n = p.ns) := ⟨n1, n2, n3⟩
                      have q1 := hsk.si.le
                      have q2 := hsk.si.cap
                      have q3 := hsk.so.le
                      have q4 := hsk.so.cap
                      have q5 := hsk.sf.le
                      have q6 := hsk.sf.cap
                      unfold maxLen at q2 q4 q6
                      rw [n1] at c4 q1
                      rw [n2] at c5 q3
                      rw [n3] at c6 q5
                      clear n1 n2 n3 hsk hpk c0 c1 c2 hBw
                      go_wp2_with fail
                      clear c3 c4 c5 c6 d0 d1 l1 l2 hlt hk
                      go_loopw [12] (fun i wk => ∃ k : Nat, k ≤ p.ns ∧ i = .int .i64 k ∧ (∀ j, j < k → sumOK s j = true) ∧ Below W0.heap.size W0 wk) (fun i _ => p.ns - (intOf i).toNat)
                      case atStart => exact ⟨0, Nat.zero_le _, rfl, fun j hj => absurd hj (Nat.not_lt_zero _), hB⟩
                      case round =>
                        clear hB
                        obtain ⟨g, hg, rfl, hno, hB⟩ := hrel
                        have HM : Hid (∀ j, j < g → sumOK s j = true) := hno
                        clear hno
                        obtain ⟨X, hpk, hsk, hBw⟩ := HC.out wr hB
                        obtain ⟨⟨l1, d0, d1⟩, l2, c0, c1, c2, c3, c4, c5, c6⟩ := X
                        by_cases hlt : g < p.ns
                        · obtain ⟨b1, o1, e1, g1, z1⟩ := hsk.si.ints g (by rw [HLN.out.1]; exact hlt)
                          obtain ⟨b2, o2, e2, g2, z2⟩ := hsk.so.ints g (by rw [HLN.out.2.1]; exact hlt)
                          obtain ⟨b3, o3, e3, g3, z3⟩ := hsk.sf.ints g (by rw [HLN.out.2.2]; exact hlt)
                          have qq : (0 : Int) ≤ (g : Int) := by omega
                          rw [e1, HLN.out.1] at c4
                          rw [e2, HLN.out.2.1] at c5
                          rw [e3, HLN.out.2.2] at c6
                          have HT1 : Hid (inB (s.si.z g) 0 1048576 = false → formedB p s = false) := fun h => fB_sum (.inl (badSum_yes HLN.out.1 hlt h))
                          have HT2 : Hid (inB (s.so.z g) 0 1048576 = false → formedB p s = false) := fun h => fB_sum (.inr (.inl (badSum_yes HLN.out.2.1 hlt h)))
                          have HT3 : Hid (inB (s.sf.z g) (-1048576) 1048576 = false → formedB p s = false) := fun h => fB_sum (.inr (.inr (badSum_yes HLN.out.2.2 hlt h)))
                          have HT4 : Hid (inB (s.si.z g) 0 1048576 = true → inB (s.so.z g) 0 1048576 = true → inB (s.sf.z g) (-1048576) 1048576 = true → ∀ j', j' < g + 1 → sumOK s j' = true) := fun h1 h2 h3 => all_succ HM.out (by unfold sumOK; rw [h1, h2, h3]; rfl)
                          clear e1 e2 e3 hsk hpk c0 c1 c2 c3 HM
                          generalize s.si.z g = I1 at *
                          generalize s.so.z g = I2 at *
                          generalize s.sf.z g = I3 at *
                          cases k1 : inB I1 0 1048576
                          · have HX : Hid (formedB p s = false) := HT1.out k1
                            clear HT1 HT2 HT3 HT4
                            go_wp2_with (go_at_call 48; refine calls_to (within_any _ _ _ _) ?_)
                            go_ret
                            exact ⟨by rw [HX.out]; rfl, hBw⟩
                          · cases k2 : inB I2 0 1048576
                            · have HX : Hid (formedB p s = false) := HT2.out k2
                              clear HT1 HT2 HT3 HT4
                              go_wp2_with (go_at_call 48; refine calls_to (within_any _ _ _ _) ?_)
                              go_ret
                              exact ⟨by rw [HX.out]; rfl, hBw⟩
                            · cases k3 : inB I3 (-1048576) 1048576
                              · have HX : Hid (formedB p s = false) := HT3.out k3
                                clear HT1 HT2 HT3 HT4
                                go_wp2_with (go_at_call 48; refine calls_to (within_any _ _ _ _) ?_)
                                go_ret
                                exact ⟨by rw [HX.out]; rfl, hBw⟩
                              · have HX := HT4.out k1 k2 k3
                                have HX2 : Hid _ := HX
                                clear HT1 HT2 HT3 HT4 HX
                                go_wp2_with (go_at_call 48; refine calls_to (within_any _ _ _ _) ?_)
                                go_roundw
                                case rel => exact ⟨g + 1, by omega, by go_num, HX2.out, hB⟩
                                case measure => simp [intOf]; omega
                        · have HX : Hid (formedB p s = true) := fB_yes HN2.out H0.out HN3.out HN4.out HLN.out (fun j hj => HM.out j (by omega))
                          clear hsk hpk c0 c1 c2 c3 c4 c5 c6 HM
                          go_wp2_with fail
                          go_ret
                          exact ⟨by rw [HX.out]; rfl, hBw⟩
                    · have HX : Hid (formedB p s = false) := fB_len3 n3
                      have m1 : ((s.si.n : Int) != (p.ns : Int)) = false := by simp [n1]
                      have m2 : ((s.so.n : Int) != (p.ns : Int)) = false := by simp [n2]
                      have m3 : ((s.sf.n : Int) != (p.ns : Int)) = true := by simp; omega
                      clear hsk hpk c0 c1 c2 n1 n2
                      go_wp2_with fail
                      go_ret
                      exact ⟨by rw [HX.out]; rfl, hBw⟩
                  · have HX : Hid (formedB p s = false) := fB_len2 n2
                    have m1 : ((s.si.n : Int) != (p.ns : Int)) = false := by simp [n1]
                    have m2 : ((s.so.n : Int) != (p.ns : Int)) = true := by simp; omega
                    clear hsk hpk c0 c1 c2 c6 n1
                    go_wp2_with fail
                    go_ret
                    exact ⟨by rw [HX.out]; rfl, hBw⟩
                · have HX : Hid (formedB p s = false) := fB_len1 n1
                  have m1 : ((s.si.n : Int) != (p.ns : Int)) = true := by simp; omega
                  clear hsk hpk c0 c1 c2 c5 c6
                  go_wp2_with fail
                  go_ret
                  exact ⟨by rw [HX.out]; rfl, hBw⟩
      · have HX : Hid (formedB p s = false) := fB_check h0
        obtain ⟨X, hpk, hsk, hBw⟩ := HC.out w2 hB
        clear X hpk hsk
        go_wp2_with fail
        go_ret
        exact ⟨by rw [HX.out]; rfl, hBw⟩

end Go.Proofs.Ytjiodlbblmbibac
/- What the document asks of states: CheckState. -/
namespace Go.Proofs.Ytjiodlbblmbibac
open Go.RowKit Go.Shelf Go.Sort
set_option linter.unusedVariables false

theorem tm_orders {s : St} (h : 4 < s.os.n) : tooManyB s = true := by
  have : decide (4 < s.os.n) = true := decide_eq_true h
  simp [tooManyB, this]
theorem tm_moves {s : St} (h : 8 < s.ms.n) : tooManyB s = true := by
  have : decide (8 < s.ms.n) = true := decide_eq_true h
  simp [tooManyB, this]
theorem tm_lines {s : St} {i : Nat} (hi : i < s.os.n) (h : inB (s.os.z i).ls.n 1 3 = false) : tooManyB s = true := by
  have : anyB s.os.n (fun i => fewLines (s.os.z i)) = true := anyB_yes hi (by unfold fewLines; rw [h]; rfl)
  simp [tooManyB, this]
theorem tm_no {s : St} (h1 : ¬ 4 < s.os.n) (h2 : ¬ 8 < s.ms.n) (h3 : ∀ i, i < s.os.n → inB (s.os.z i).ls.n 1 3 = true) : tooManyB s = false := by
  have e1 : decide (4 < s.os.n) = false := decide_eq_false h1
  have e2 : decide (8 < s.ms.n) = false := decide_eq_false h2
  have e3 : anyB s.os.n (fun i => fewLines (s.os.z i)) = false := anyB_no fun i hi => by unfold fewLines; rw [h3 i hi]; rfl
  unfold tooManyB
  rw [e1, e2, e3]
  rfl
theorem sE_shelf {p : Pl} {s : St} (h : ¬ shelfE p s.on = 0) : stateE p s = shelfE p s.on := by unfold stateE; rw [if_neg h]
theorem sE_many {p : Pl} {s : St} (h : shelfE p s.on = 0) (h1 : tooManyB s = true) : stateE p s = 2 := by unfold stateE; rw [if_pos h, h1]; rfl
theorem sE_form {p : Pl} {s : St} (h : shelfE p s.on = 0) (h1 : tooManyB s = false) (h2 : formedB p s = false) : stateE p s = 1 := by
  have e : (badOrdersB p s || badHoldsB p s || badMovesB p s || badSumsB p s) = true := by
    cases hq : (badOrdersB p s || badHoldsB p s || badMovesB p s || badSumsB p s)
    · rw [formedB, hq] at h2; cases h2
    · rfl
  unfold stateE; rw [if_pos h, h1, e]; rfl
theorem formedB_yes {p : Pl} {s : St} (h : shelfE p s.on = 0) (h1 : tooManyB s = false) (h2 : formedB p s = true) : Formed p s := by
  have e : (badOrdersB p s || badHoldsB p s || badMovesB p s || badSumsB p s) = false := by
    cases hq : (badOrdersB p s || badHoldsB p s || badMovesB p s || badSumsB p s)
    · rfl
    · rw [formedB, hq] at h2; cases h2
  simp only [Bool.or_eq_false_iff] at e
  exact formed h h1 e.1.1.1 e.1.1.2 e.1.2 e.2
theorem sE_sum {p : Pl} {s : St} (h : shelfE p s.on = 0) (h1 : tooManyB s = false) (h2 : formedB p s = true) : stateE p s = if summedB p s then 0 else 7 := by
  have e : (badOrdersB p s || badHoldsB p s || badMovesB p s || badSumsB p s) = false := by
    cases hq : (badOrdersB p s || badHoldsB p s || badMovesB p s || badSumsB p s)
    · rfl
    · rw [formedB, hq] at h2; cases h2
  unfold stateE summedB
  rw [if_pos h, h1, e]
  cases (wrongGoodsB p s || wrongOrdersB s) <;> rfl

set_option maxRecDepth 100000 in
set_option maxHeartbeats 4000000 in
theorem refCheckState_any (p : Pl) (s : St) (w : World) (hp : p.At w) (hs : s.At w) :
    Calls Try.prog 47 #[p.val, s.val] w fun e w' => e = .returned (.int .i64 (stateE p s)) ∧ Below w.heap.size w w' := by
  obtain ⟨W0, hW, hWB, X0⟩ : ∃ W, ((w.alloc (.cells #[.slice p.ab p.nb p.cb, .slice p.sa p.ns p.cs] 25)).alloc (.cells s.cells 31)) = W ∧ Below w.heap.size w W ∧ Boxes W w.heap.size (w.heap.size + 1) p s := ⟨_, rfl, two_below _ _ _, boxes_new w p s _ _⟩
  have HC : Hid (∀ wk, Below W0.heap.size W0 wk → Boxes wk w.heap.size (w.heap.size + 1) p s ∧ p.At wk ∧ s.At wk ∧ Below w.heap.size w wk) := fun wk h => ⟨X0.below h, (hp.below hWB).below h, (hs.below hWB).below h, hWB.trans (h.mono hWB.size)⟩
  have HW : Hid ((w.alloc (.cells #[.slice p.ab p.nb p.cb, .slice p.sa p.ns p.cs] 25)).alloc (.cells #[.slice s.on.a s.on.n s.on.c, .slice s.os.a s.os.n s.os.c, .slice s.hs.a s.hs.n s.hs.c, .slice s.ms.a s.ms.n s.ms.c, .slice s.si.a s.si.n s.si.c, .slice s.so.a s.so.n s.so.c, .slice s.sf.a s.sf.n s.sf.c] 31) = W0) := hW
  have ole := hs.os.le
  have ocap := hs.os.cap
  have mle := hs.ms.le
  have mcap := hs.ms.cap
  unfold maxLen at ocap mcap
  clear hW X0 hp hs
  unfold Pl.val St.val
  go_enter Try.func47, Try.ntmps47
  go_wp2_with fail
  rw [HW.out]
  obtain ⟨X, hpk, hsk, hBw⟩ := HC.out W0 (Below.refl _ _)
  refine (refCheckShelf_any p s.on W0 hpk hsk.on).mono ?_
  rintro e w1 ⟨rfl, hB⟩
  clear X hpk hsk hBw HW
  obtain ⟨X, hpk, hsk, hBw⟩ := HC.out w1 hB
  obtain ⟨⟨l1, d0, d1⟩, l2, c0, c1, c2, c3, c4, c5, c6⟩ := X
  by_cases h0 : shelfE p s.on = 0
  · have H0 : Hid (shelfE p s.on = 0) := h0
    rw [h0]
    clear h0 hpk hsk
    by_cases n1 : 4 < s.os.n
    · have HX : Hid (stateE p s = 2) := sE_many H0.out (tm_orders n1)
      have n1' : (4 : Int) < (s.os.n : Int) := by omega
      go_wp2_with fail
      go_ret
      exact ⟨by rw [HX.out]; rfl, hBw⟩
    · by_cases n2 : 8 < s.ms.n
      · have HX : Hid (stateE p s = 2) := sE_many H0.out (tm_moves n2)
        have n1' : ¬ (4 : Int) < (s.os.n : Int) := by omega
        have n2' : (8 : Int) < (s.ms.n : Int) := by omega
        go_wp2_with fail
        go_ret
        exact ⟨by rw [HX.out]; rfl, hBw⟩
      · have n1' : ¬ (4 : Int) < (s.os.n : Int) := by omega
        have n2' : ¬ (8 : Int) < (s.ms.n : Int) := by omega
        go_wp2_with fail
        clear c0 c1 c2 c3 c4 c5 c6 d0 d1 l1 l2 hBw
        go_loopw [6] (fun i wk => ∃ k : Nat, k ≤ s.os.n ∧ i = .int .i64 k ∧ (∀ j, j < k → inB (s.os.z j).ls.n 1 3 = true) ∧ Below W0.heap.size W0 wk) (fun i _ => s.os.n - (intOf i).toNat)
        case atStart => exact ⟨0, Nat.zero_le _, rfl, fun j hj => absurd hj (Nat.not_lt_zero _), hB⟩
        case round =>
          clear hB
          obtain ⟨i, hi, rfl, hno, hB⟩ := hrel
          have HN : Hid (∀ j, j < i → inB (s.os.z j).ls.n 1 3 = true) := hno
          clear hno
          obtain ⟨X, hpk, hsk, hBw⟩ := HC.out wr hB
          obtain ⟨⟨l1, d0, d1⟩, l2, c0, c1, c2, c3, c4, c5, c6⟩ := X
          by_cases hlt : i < s.os.n
          · obtain ⟨b, o, hoa, hb, z0, z1, hl⟩ := hsk.os.ods i hlt
            have qi : (0 : Int) ≤ (i : Int) := by omega
            have HT1 : Hid (inB (s.os.z i).ls.n 1 3 = false → stateE p s = 2) := fun h => sE_many H0.out (tm_lines hlt h)
            have HT2 : Hid (inB (s.os.z i).ls.n 1 3 = true → ∀ j, j < i + 1 → inB (s.os.z j).ls.n 1 3 = true) := fun h => all_succ (f := fun j => inB (s.os.z j).ls.n 1 3) HN.out h
            rw [hoa] at c1
            clear hoa hl hpk hsk c0 c2 c3 c4 c5 c6 d0 d1 z0
            generalize (s.os.z i).ls = LS at *
            cases k1 : inB LS.n 1 3
            · have HX : Hid (stateE p s = 2) := HT1.out k1
              clear HT1 HT2
              go_wp2_with (go_at_call 48; refine calls_to (within_any _ _ _ _) ?_)
              go_ret
              exact ⟨by rw [HX.out]; rfl, hBw⟩
            · have HX := HT2.out k1
              have HX2 : Hid _ := HX
              clear HT1 HT2 HX
              go_wp2_with (go_at_call 48; refine calls_to (within_any _ _ _ _) ?_)
              go_roundw
              case rel => exact ⟨i + 1, by omega, by go_num, HX2.out, hB⟩
              case measure => simp [intOf]; omega
          · have HTM : Hid (tooManyB s = false) := tm_no n1 n2 fun j hj => HN.out j (by omega)
            go_wp2_with fail
            refine (formed_any p s wr hpk hsk H0.out HTM.out).mono ?_
            rintro e w2 ⟨rfl, hB2⟩
            have hB := hB.trans (hB2.mono hB.size)
            clear hpk hsk hBw l1 d0 d1 l2 c0 c1 c2 c3 c4 c5 c6 hB2
            obtain ⟨X, hpk, hsk, hBw⟩ := HC.out w2 hB
            obtain ⟨⟨l1, d0, d1⟩, l2, c0, c1, c2, c3, c4, c5, c6⟩ := X
            cases k2 : formedB p s
            · have HX : Hid (stateE p s = 1) := sE_form H0.out HTM.out k2
              clear hpk hsk
              go_wp2_with fail
              go_ret
              exact ⟨by rw [HX.out]; rfl, hBw⟩
            · have HFO : Hid (Formed p s) := formedB_yes H0.out HTM.out k2
              have HE : Hid (stateE p s = if summedB p s then 0 else 7) := sE_sum H0.out HTM.out k2
              clear k2
              go_wp2_with fail
              refine (summed_any p s w2 hpk hsk HFO.out).mono ?_
              rintro e w3 ⟨rfl, hB3⟩
              have hBw := hBw.trans (hB3.mono hBw.size)
              clear hpk hsk l1 d0 d1 l2 c0 c1 c2 c3 c4 c5 c6 hB3
              cases k3 : summedB p s
              · have HX : Hid (stateE p s = 7) := by show stateE p s = 7; rw [HE.out, k3]; rfl
                clear HE
                go_wp2_with fail
                go_ret
                exact ⟨by rw [HX.out]; rfl, hBw⟩
              · have HX : Hid (stateE p s = 0) := by show stateE p s = 0; rw [HE.out, k3]; rfl
                clear HE
                go_wp2_with fail
                go_ret
                exact ⟨by rw [HX.out]; rfl, hBw⟩
  · have HX : Hid (stateE p s = shelfE p s.on) := sE_shelf h0
    clear hpk hsk
    go_wp2_with fail
    go_ret
    exact ⟨by rw [HX.out]; rfl, hBw⟩

end Go.Proofs.Ytjiodlbblmbibac

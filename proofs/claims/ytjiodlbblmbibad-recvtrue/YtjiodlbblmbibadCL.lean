/- Lists of four numbers that are copied: slices.Clone of holds, moves, lines. -/
import Derived.Test.YtjiodlbblmbibadHW7
import Derived.Test.YtjiodlbblmbibadW6
namespace Go.Proofs.Ytjiodlbblmbibad
open Go.RowKit Go.Shelf
set_option linter.unusedVariables false

/-- A list of the call's own: it lies in a block of its own type, new since A. -/
def OwnH (A : Nat) (e : TypeId) (w : World) (s : Hs) : Prop := s.n ≤ s.c ∧ s.c ≤ maxLen ∧ (s.a = none → s.c = 0) ∧ (0 < s.n → ∃ g, s.a = some ⟨g, 0, none⟩ ∧ A ≤ g ∧ Blk w g e (s.n * 4) (fun j => (flatH s.n s.z).getD j default))
theorem OwnH.at {A : Nat} {e : TypeId} {w : World} {s : Hs} (h : OwnH A e w s) : s.At w := by
  obtain ⟨h1, h2, h3, h4⟩ := h
  refine ⟨h1, h2, fun i hi => ?_, h3⟩
  obtain ⟨g, ha, hA, hb⟩ := h4 (by omega)
  have c : ∀ k, k < 4 → w.cell? ⟨g, 0 + i * 4 + k, none⟩ = (hdCells (s.z i))[k]? := fun k hk => by
    have h5 := hb.cell (j := i * 4 + k) (by omega)
    have h6 := flatH_get s.n s.z i k hi hk
    have h7 : i * 4 + k < (flatH s.n s.z).length := by rw [flatH_len]; omega
    rw [Nat.zero_add, h5, ← h6, List.getElem?_eq_getElem h7]
    simp [List.getD, List.getElem?_eq_getElem h7]
  exact ⟨g, 0, ha, hb.lt, c 0 (by decide), c 1 (by decide), c 2 (by decide), c 3 (by decide)⟩
theorem OwnH.below {A : Nat} {e : TypeId} {w w' : World} {s : Hs} (h : OwnH A e w s) (hB : Below w.heap.size w w') : OwnH A e w' s := by
  obtain ⟨h1, h2, h3, h4⟩ := h
  refine ⟨h1, h2, h3, fun hn => ?_⟩
  obtain ⟨g, ha, hA, hb⟩ := h4 hn
  exact ⟨g, ha, hA, hb.below hB⟩
/-- A change of a block of another type leaves it. -/
theorem Blk.ne2 {w : World} {g g' : Nat} {e e' : TypeId} {n n' : Nat} {f f' : Nat → Value} (h : Blk w g e n f) (h' : Blk w g' e' n' f') (he : e ≠ e') : g ≠ g' := by
  rintro rfl
  obtain ⟨c, hc, _⟩ := h
  obtain ⟨c', hc', _⟩ := h'
  rw [hc] at hc'
  cases hc'
  exact he rfl
theorem OwnH.other {A : Nat} {e t : TypeId} {w : World} {s : Hs} {q n : Nat} {f : Nat → Value} (h : OwnH A e w s) (hq : Blk w q t n f) (hne : e ≠ t) (j : Nat) (u : Value) : OwnH A e (w.setCell ⟨q, j, none⟩ u) s := by
  obtain ⟨h1, h2, h3, h4⟩ := h
  refine ⟨h1, h2, h3, fun hn => ?_⟩
  obtain ⟨g, ha, hA, hb⟩ := h4 hn
  exact ⟨g, ha, hA, hb.other (a := ⟨q, j, none⟩) (Blk.ne2 hb hq hne) u⟩
theorem OwnH.mono {A A' : Nat} {e : TypeId} {w : World} {s : Hs} (h : OwnH A e w s) (hA : A' ≤ A) : OwnH A' e w s := by
  obtain ⟨h1, h2, h3, h4⟩ := h
  refine ⟨h1, h2, h3, fun hn => ?_⟩
  obtain ⟨g, ha, h5, hb⟩ := h4 hn
  exact ⟨g, ha, by omega, hb⟩

/-- The room behind a list is the call's own too, if it has any. -/
def Room (A : Nat) (w : World) (e : TypeId) (size : Nat) (a : Option Addr) (c : Nat) : Prop := c = 0 ∨ ∃ g cur, a = some ⟨g, 0, none⟩ ∧ A ≤ g ∧ w.heap[g]? = some (.cells cur e (0, 0)) ∧ cur.size = c * size
theorem Room.ofOwns {A A' : Nat} {w : World} {e : TypeId} {size : Nat} {a : Option Addr} {n n' c : Nat} {xs : List Value} (h : w.ownsRow A e size (.slice a n c) n' xs) (hA : A' ≤ A) : Room A' w e size a c := by
  obtain ⟨_, ⟨h, _⟩ | ⟨g, cap, cur, h, hb, hg, h1, h2, h3, h4⟩⟩ := h
  · cases h; exact Or.inl rfl
  · cases h; exact Or.inr ⟨g, cur, rfl, Nat.le_trans hA hb, hg, h3⟩
theorem Room.same {A : Nat} {w w' : World} {e : TypeId} {size : Nat} {a : Option Addr} {c : Nat} (h : Room A w e size a c) (hs : ∀ (g : Nat) (cur : Array Value), w.heap[g]? = some (.cells cur e (0, 0)) → w'.heap[g]? = w.heap[g]?) : Room A w' e size a c := by
  rcases h with h | ⟨g, cur, h1, h2, h3, h4⟩
  · exact Or.inl h
  · exact Or.inr ⟨g, cur, h1, h2, (hs g cur h3).trans h3, h4⟩
theorem Room.below {A : Nat} {w w' : World} {e : TypeId} {size : Nat} {a : Option Addr} {c : Nat} (h : Room A w e size a c) (hB : Below w.heap.size w w') : Room A w' e size a c :=
  h.same fun g _ hg => hB.block g (Array.getElem?_eq_some_iff.1 hg).1
theorem Room.mono {A A' : Nat} {w : World} {e : TypeId} {size : Nat} {a : Option Addr} {c : Nat} (h : Room A w e size a c) (hA : A' ≤ A) : Room A' w e size a c := by
  rcases h with h | ⟨g, cur, h1, h2, h3⟩
  · exact Or.inl h
  · exact Or.inr ⟨g, cur, h1, by omega, h3⟩
/-- No store changes it. -/
theorem Room.set {A : Nat} {w : World} {e : TypeId} {size : Nat} {a : Option Addr} {c : Nat} (h : Room A w e size a c) (q j : Nat) (u : Value) : Room A (w.setCell ⟨q, j, none⟩ u) e size a c := by
  rcases h with h | ⟨g, cur, h1, h2, h3, h4⟩
  · exact Or.inl h
  · by_cases hq : g = q
    · subst hq
      exact Or.inr ⟨g, cur.setIfInBounds j u, h1, h2, by simp [World.setCell, Array.getElem?_modify, h3], by simpa using h4⟩
    · exact Or.inr ⟨g, cur, h1, h2, (Below.heap_setCell w ⟨q, j, none⟩ u g hq).trans h3, h4⟩
/-- What comes of copying. -/
def Cloned (A : Nat) (e : TypeId) (s : Hs) (w' : World) (s' : Hs) : Prop := s'.n = s.n ∧ (∀ j, j < s.n → s'.z j = s.z j) ∧ OwnH A e w' s' ∧ Room A w' e 4 s'.a s'.c
theorem OwnH.ofOwns {w : World} {base : Nat} {e : TypeId} {v : Value} {n : Nat} {z : Nat → Hd} (h : w.ownsRow base e 4 v n (flatH n z)) (hn : v ≠ .slice none 0 0) : ∃ s : Hs, v = s.val ∧ s.n = n ∧ s.z = z ∧ OwnH base e w s ∧ Room base w e 4 s.a s.c := by
  obtain ⟨g, c, rfl, h1, h2, h3, h4⟩ := Blk.ofOwns h hn
  exact ⟨⟨some ⟨g, 0, none⟩, n, c, z⟩, rfl, rfl, rfl, ⟨h1, h2, (fun e => by cases e), fun _ => ⟨g, rfl, h3, h4⟩⟩, Room.ofOwns h (Nat.le_refl _)⟩

theorem infoHoldC : (Try.prog.info? 76).map (fun i => (i.zero, i.size, i.bytes)) = some (some (.agg #[.int .i64 0, .int .i64 0, .int .i64 0, .int .i64 0]), 4, 32) := by kernel_rfl

set_option maxRecDepth 100000 in
set_option maxHeartbeats 1000000 in
theorem CloneHold_any (s : Hs) (w : World) (hs : s.At w) (hn : s.n ≤ 1000) :
    Calls Try.prog 55 #[s.val] w fun e w' => ∃ s' : Hs, e = .returned s'.val ∧ Cloned w.heap.size 76 s w' s' ∧ Below w.heap.size w w' := by
  obtain ⟨sle, scap, sh, snil⟩ := hs
  obtain ⟨sa, sn, sc, sz⟩ := s
  dsimp only at sle scap sh snil hn
  simp only [Hs.val]
  obtain ⟨i0, hi, hz0, hz1, hz2⟩ := info_parts infoHoldC
  have q22 : ∀ (w : World) (a : Option Addr) (n c n' c' : Nat), (binOp .eql 28 (.slice a n c) (.slice none n' c')).run Try.prog w = .ok (.bool a.isNone) w := fun w a n c n' c' => Lib.run_eql_slice_nil w _ _ a n c n' c' Try.underlying28
  cases sa with
  | none =>
    have hc0 := snil rfl
    subst hc0
    have hn0 : sn = 0 := by omega
    subst hn0
    go_enter Try.func55, Try.ntmps55
    go_wp2
    go_ret
    exact ⟨⟨none, 0, 0, sz⟩, rfl, ⟨rfl, fun j hj => rfl, ⟨Nat.le_refl _, Nat.zero_le _, fun _ => rfl, fun h => absurd h (Nat.lt_irrefl _)⟩, Or.inl rfl⟩, Below.refl _ _⟩
  | some ad =>
    have hnews : ∀ j u, (flatH sn sz)[j]? = some u → w.cell? (ad.add j) = some u ∧ (ad.add j).block < w.heap.size := fun j u hj => by
      have hlen := (List.getElem?_eq_some_iff.1 hj).1
      rw [flatH_len] at hlen
      obtain ⟨b, o, he, hb, -⟩ := sh 0 (by omega)
      simp only [Option.some.injEq] at he
      subst he
      exact ⟨HdsAt.news sh j u hj, by rw [Go.WideShapes.add_plain]; exact hb⟩
    have HN : Hid (∀ j u, (flatH sn sz)[j]? = some u → w.cell? (ad.add j) = some u ∧ (ad.add j).block < w.heap.size) := hnews
    clear hnews sh snil
    go_enter Try.func55, Try.ntmps55
    go_wp2_with (at_builtin; refine wpList_append_own _ rfl _ _ 28 rfl w.heap.size 76 i0 (.agg #[.int .i64 0, .int .i64 0, .int .i64 0, .int .i64 0]) 4 32 Try.underlying28 hi hz0 hz1 hz2 rfl (by decide) _ _ _ rfl (World.ownsRow_made w #[] 0 (Nat.le_refl _) (Nat.zero_le _) rfl) ad sn sc (flatH sn sz) rfl ?qc1 ?qc2 ?qc3 ?qc4 ?qc5 ?qc6 ?_)
    case qc1 => rw [flatH_len]
    case qc2 =>
      intro j u hj
      have := HN.out j u hj
      rw [((Below.refl w.heap.size w).alloc (Nat.le_refl _) _).cell (p := ad.add j) this.2]
      exact this.1
    case qc3 => exact flatH_one sn sz
    case qc4 => unfold maxLen; omega
    case qc5 => omega
    case qc6 => simp
    intro v' w1 hown hgrow hnil
    have hB : Below w.heap.size w w1 := ((Below.refl _ w).alloc (Nat.le_refl _) _).grown hgrow (by simp) (by intro k hk; simp [Value.ownBlock] at hk; omega)
    obtain ⟨s', rfl, e1, e2, e3⟩ := OwnH.ofOwns hown hnil
    clear hown hgrow hnil
    have HR : Hid (s'.n = sn ∧ s'.z = sz ∧ OwnH w.heap.size 76 w1 s' ∧ Room w.heap.size w1 76 4 s'.a s'.c) := ⟨e1, e2, e3⟩
    clear e1 e2 e3
    simp only [Hs.val]
    go_wp2
    go_ret
    exact ⟨s', rfl, ⟨HR.out.1, fun j _ => by rw [HR.out.2.1], HR.out.2.2⟩, hB⟩

theorem infoMoveC : (Try.prog.info? 66).map (fun i => (i.zero, i.size, i.bytes)) = some (some (.agg #[.int .i64 0, .int .i64 0, .int .i64 0, .int .i64 0]), 4, 32) := by kernel_rfl

set_option maxRecDepth 100000 in
set_option maxHeartbeats 1000000 in
theorem CloneMove_any (s : Hs) (w : World) (hs : s.At w) (hn : s.n ≤ 1000) :
    Calls Try.prog 56 #[s.val] w fun e w' => ∃ s' : Hs, e = .returned s'.val ∧ Cloned w.heap.size 66 s w' s' ∧ Below w.heap.size w w' := by
  obtain ⟨sle, scap, sh, snil⟩ := hs
  obtain ⟨sa, sn, sc, sz⟩ := s
  dsimp only at sle scap sh snil hn
  simp only [Hs.val]
  obtain ⟨i0, hi, hz0, hz1, hz2⟩ := info_parts infoMoveC
  have q22 : ∀ (w : World) (a : Option Addr) (n c n' c' : Nat), (binOp .eql 29 (.slice a n c) (.slice none n' c')).run Try.prog w = .ok (.bool a.isNone) w := fun w a n c n' c' => Lib.run_eql_slice_nil w _ _ a n c n' c' Try.underlying29
  cases sa with
  | none =>
    have hc0 := snil rfl
    subst hc0
    have hn0 : sn = 0 := by omega
    subst hn0
    go_enter Try.func56, Try.ntmps56
    go_wp2
    go_ret
    exact ⟨⟨none, 0, 0, sz⟩, rfl, ⟨rfl, fun j hj => rfl, ⟨Nat.le_refl _, Nat.zero_le _, fun _ => rfl, fun h => absurd h (Nat.lt_irrefl _)⟩, Or.inl rfl⟩, Below.refl _ _⟩
  | some ad =>
    have hnews : ∀ j u, (flatH sn sz)[j]? = some u → w.cell? (ad.add j) = some u ∧ (ad.add j).block < w.heap.size := fun j u hj => by
      have hlen := (List.getElem?_eq_some_iff.1 hj).1
      rw [flatH_len] at hlen
      obtain ⟨b, o, he, hb, -⟩ := sh 0 (by omega)
      simp only [Option.some.injEq] at he
      subst he
      exact ⟨HdsAt.news sh j u hj, by rw [Go.WideShapes.add_plain]; exact hb⟩
    have HN : Hid (∀ j u, (flatH sn sz)[j]? = some u → w.cell? (ad.add j) = some u ∧ (ad.add j).block < w.heap.size) := hnews
    clear hnews sh snil
    go_enter Try.func56, Try.ntmps56
    go_wp2_with (at_builtin; refine wpList_append_own _ rfl _ _ 29 rfl w.heap.size 66 i0 (.agg #[.int .i64 0, .int .i64 0, .int .i64 0, .int .i64 0]) 4 32 Try.underlying29 hi hz0 hz1 hz2 rfl (by decide) _ _ _ rfl (World.ownsRow_made w #[] 0 (Nat.le_refl _) (Nat.zero_le _) rfl) ad sn sc (flatH sn sz) rfl ?qc1 ?qc2 ?qc3 ?qc4 ?qc5 ?qc6 ?_)
    case qc1 => rw [flatH_len]
    case qc2 =>
      intro j u hj
      have := HN.out j u hj
      rw [((Below.refl w.heap.size w).alloc (Nat.le_refl _) _).cell (p := ad.add j) this.2]
      exact this.1
    case qc3 => exact flatH_one sn sz
    case qc4 => unfold maxLen; omega
    case qc5 => omega
    case qc6 => simp
    intro v' w1 hown hgrow hnil
    have hB : Below w.heap.size w w1 := ((Below.refl _ w).alloc (Nat.le_refl _) _).grown hgrow (by simp) (by intro k hk; simp [Value.ownBlock] at hk; omega)
    obtain ⟨s', rfl, e1, e2, e3⟩ := OwnH.ofOwns hown hnil
    clear hown hgrow hnil
    have HR : Hid (s'.n = sn ∧ s'.z = sz ∧ OwnH w.heap.size 66 w1 s' ∧ Room w.heap.size w1 66 4 s'.a s'.c) := ⟨e1, e2, e3⟩
    clear e1 e2 e3
    simp only [Hs.val]
    go_wp2
    go_ret
    exact ⟨s', rfl, ⟨HR.out.1, fun j _ => by rw [HR.out.2.1], HR.out.2.2⟩, hB⟩

theorem infoLineC : (Try.prog.info? 50).map (fun i => (i.zero, i.size, i.bytes)) = some (some (.agg #[.int .i64 0, .int .i64 0, .int .i64 0, .int .i64 0]), 4, 32) := by kernel_rfl

set_option maxRecDepth 100000 in
set_option maxHeartbeats 1000000 in
theorem CloneLine_any (s : Hs) (w : World) (hs : s.At w) (hn : s.n ≤ 1000) :
    Calls Try.prog 40 #[s.val] w fun e w' => ∃ s' : Hs, e = .returned s'.val ∧ Cloned w.heap.size 50 s w' s' ∧ Below w.heap.size w w' := by
  obtain ⟨sle, scap, sh, snil⟩ := hs
  obtain ⟨sa, sn, sc, sz⟩ := s
  dsimp only at sle scap sh snil hn
  simp only [Hs.val]
  obtain ⟨i0, hi, hz0, hz1, hz2⟩ := info_parts infoLineC
  have q22 : ∀ (w : World) (a : Option Addr) (n c n' c' : Nat), (binOp .eql 32 (.slice a n c) (.slice none n' c')).run Try.prog w = .ok (.bool a.isNone) w := fun w a n c n' c' => Lib.run_eql_slice_nil w _ _ a n c n' c' Try.underlying32
  cases sa with
  | none =>
    have hc0 := snil rfl
    subst hc0
    have hn0 : sn = 0 := by omega
    subst hn0
    go_enter Try.func40, Try.ntmps40
    go_wp2
    go_ret
    exact ⟨⟨none, 0, 0, sz⟩, rfl, ⟨rfl, fun j hj => rfl, ⟨Nat.le_refl _, Nat.zero_le _, fun _ => rfl, fun h => absurd h (Nat.lt_irrefl _)⟩, Or.inl rfl⟩, Below.refl _ _⟩
  | some ad =>
    have hnews : ∀ j u, (flatH sn sz)[j]? = some u → w.cell? (ad.add j) = some u ∧ (ad.add j).block < w.heap.size := fun j u hj => by
      have hlen := (List.getElem?_eq_some_iff.1 hj).1
      rw [flatH_len] at hlen
      obtain ⟨b, o, he, hb, -⟩ := sh 0 (by omega)
      simp only [Option.some.injEq] at he
      subst he
      exact ⟨HdsAt.news sh j u hj, by rw [Go.WideShapes.add_plain]; exact hb⟩
    have HN : Hid (∀ j u, (flatH sn sz)[j]? = some u → w.cell? (ad.add j) = some u ∧ (ad.add j).block < w.heap.size) := hnews
    clear hnews sh snil
    go_enter Try.func40, Try.ntmps40
    go_wp2_with (at_builtin; refine wpList_append_own _ rfl _ _ 32 rfl w.heap.size 50 i0 (.agg #[.int .i64 0, .int .i64 0, .int .i64 0, .int .i64 0]) 4 32 Try.underlying32 hi hz0 hz1 hz2 rfl (by decide) _ _ _ rfl (World.ownsRow_made w #[] 0 (Nat.le_refl _) (Nat.zero_le _) rfl) ad sn sc (flatH sn sz) rfl ?qc1 ?qc2 ?qc3 ?qc4 ?qc5 ?qc6 ?_)
    case qc1 => rw [flatH_len]
    case qc2 =>
      intro j u hj
      have := HN.out j u hj
      rw [((Below.refl w.heap.size w).alloc (Nat.le_refl _) _).cell (p := ad.add j) this.2]
      exact this.1
    case qc3 => exact flatH_one sn sz
    case qc4 => unfold maxLen; omega
    case qc5 => omega
    case qc6 => simp
    intro v' w1 hown hgrow hnil
    have hB : Below w.heap.size w w1 := ((Below.refl _ w).alloc (Nat.le_refl _) _).grown hgrow (by simp) (by intro k hk; simp [Value.ownBlock] at hk; omega)
    obtain ⟨s', rfl, e1, e2, e3⟩ := OwnH.ofOwns hown hnil
    clear hown hgrow hnil
    have HR : Hid (s'.n = sn ∧ s'.z = sz ∧ OwnH w.heap.size 50 w1 s' ∧ Room w.heap.size w1 50 4 s'.a s'.c) := ⟨e1, e2, e3⟩
    clear e1 e2 e3
    simp only [Hs.val]
    go_wp2
    go_ret
    exact ⟨s', rfl, ⟨HR.out.1, fun j _ => by rw [HR.out.2.1], HR.out.2.2⟩, hB⟩

end Go.Proofs.Ytjiodlbblmbibad

/- Lists of the call's own: holds, moves, lines. No walk. -/
import Derived.Test.YtjiodlbblmbibacHW6
namespace Go.Proofs.Ytjiodlbblmbibac
open Go.RowKit Go.Shelf
set_option linter.unusedVariables false

/-- A list of the call's own: it lies in a block of its own type, new since A. -/
def OwnH (A : Nat) (e : TypeId) (w : World) (s : Hs) : Prop := s.n ≤ s.c ∧ s.c ≤ maxLen ∧ (s.a = none → s.c = 0) ∧ (0 < s.n → ∃ g, s.a = some ⟨g, 0, none⟩ ∧ A ≤ g ∧ Blk w g e (s.n * 4) (fun j => (flatH s.n s.z).getD j default))
theorem OwnH.at {A : Nat} {e : TypeId} {w : World} {s : Hs} (h : OwnH A e w s) : s.At w := by
  obtain ⟨h1, h2, h3, h4⟩ := h
  refine ⟨h1, h2, fun i hi => ?_, h3⟩
  obtain ⟨g, ha, hA, hb⟩ := h4 (by omega)
  have c : ∀ k, k < 4 → w.cell? ⟨g, 0 + i * 4 + k, none⟩ = (hdCells (s.z i))[k]? := fun k hk => by
    have h5 := hb.cell (j := i * 4 + k) (by omega)
    have h6 := flatH_get s.n s.z i k hi hk
    have h7 : i * 4 + k < (flatH s.n s.z).length := by rw [flatH_len]; omega
    rw [Nat.zero_add, h5, ← h6, List.getElem?_eq_getElem h7]
    simp [List.getD, List.getElem?_eq_getElem h7]
  exact ⟨g, 0, ha, hb.lt, c 0 (by decide), c 1 (by decide), c 2 (by decide), c 3 (by decide)⟩
theorem OwnH.below {A : Nat} {e : TypeId} {w w' : World} {s : Hs} (h : OwnH A e w s) (hB : Below w.heap.size w w') : OwnH A e w' s := by
  obtain ⟨h1, h2, h3, h4⟩ := h
  refine ⟨h1, h2, h3, fun hn => ?_⟩
  obtain ⟨g, ha, hA, hb⟩ := h4 hn
  exact ⟨g, ha, hA, hb.below hB⟩
/-- A change of a block of another type leaves it. -/
theorem Blk.ne2 {w : World} {g g' : Nat} {e e' : TypeId} {n n' : Nat} {f f' : Nat → Value} (h : Blk w g e n f) (h' : Blk w g' e' n' f') (he : e ≠ e') : g ≠ g' := by
  rintro rfl
  obtain ⟨c, hc, _⟩ := h
  obtain ⟨c', hc', _⟩ := h'
  rw [hc] at hc'
  cases hc'
  exact he rfl
theorem OwnH.other {A : Nat} {e t : TypeId} {w : World} {s : Hs} {q n : Nat} {f : Nat → Value} (h : OwnH A e w s) (hq : Blk w q t n f) (hne : e ≠ t) (j : Nat) (u : Value) : OwnH A e (w.setCell ⟨q, j, none⟩ u) s := by
  obtain ⟨h1, h2, h3, h4⟩ := h
  refine ⟨h1, h2, h3, fun hn => ?_⟩
  obtain ⟨g, ha, hA, hb⟩ := h4 hn
  exact ⟨g, ha, hA, hb.other (a := ⟨q, j, none⟩) (Blk.ne2 hb hq hne) u⟩
theorem OwnH.mono {A A' : Nat} {e : TypeId} {w : World} {s : Hs} (h : OwnH A e w s) (hA : A' ≤ A) : OwnH A' e w s := by
  obtain ⟨h1, h2, h3, h4⟩ := h
  refine ⟨h1, h2, h3, fun hn => ?_⟩
  obtain ⟨g, ha, h5, hb⟩ := h4 hn
  exact ⟨g, ha, by omega, hb⟩

/-- The room behind a list is the call's own too, if it has any. -/
def Room (A : Nat) (w : World) (e : TypeId) (size : Nat) (a : Option Addr) (c : Nat) : Prop := c = 0 ∨ ∃ g cur, a = some ⟨g, 0, none⟩ ∧ A ≤ g ∧ w.heap[g]? = some (.cells cur e (0, 0)) ∧ cur.size = c * size
theorem Room.ofOwns {A A' : Nat} {w : World} {e : TypeId} {size : Nat} {a : Option Addr} {n n' c : Nat} {xs : List Value} (h : w.ownsRow A e size (.slice a n c) n' xs) (hA : A' ≤ A) : Room A' w e size a c := by
  obtain ⟨_, ⟨h, _⟩ | ⟨g, cap, cur, h, hb, hg, h1, h2, h3, h4⟩⟩ := h
  · cases h; exact Or.inl rfl
  · cases h; exact Or.inr ⟨g, cur, rfl, Nat.le_trans hA hb, hg, h3⟩
theorem Room.same {A : Nat} {w w' : World} {e : TypeId} {size : Nat} {a : Option Addr} {c : Nat} (h : Room A w e size a c) (hs : ∀ (g : Nat) (cur : Array Value), w.heap[g]? = some (.cells cur e (0, 0)) → w'.heap[g]? = w.heap[g]?) : Room A w' e size a c := by
  rcases h with h | ⟨g, cur, h1, h2, h3, h4⟩
  · exact Or.inl h
  · exact Or.inr ⟨g, cur, h1, h2, (hs g cur h3).trans h3, h4⟩
theorem Room.below {A : Nat} {w w' : World} {e : TypeId} {size : Nat} {a : Option Addr} {c : Nat} (h : Room A w e size a c) (hB : Below w.heap.size w w') : Room A w' e size a c :=
  h.same fun g _ hg => hB.block g (Array.getElem?_eq_some_iff.1 hg).1
theorem Room.mono {A A' : Nat} {w : World} {e : TypeId} {size : Nat} {a : Option Addr} {c : Nat} (h : Room A w e size a c) (hA : A' ≤ A) : Room A' w e size a c := by
  rcases h with h | ⟨g, cur, h1, h2, h3⟩
  · exact Or.inl h
  · exact Or.inr ⟨g, cur, h1, by omega, h3⟩
/-- No store changes it. -/
theorem Room.set {A : Nat} {w : World} {e : TypeId} {size : Nat} {a : Option Addr} {c : Nat} (h : Room A w e size a c) (q j : Nat) (u : Value) : Room A (w.setCell ⟨q, j, none⟩ u) e size a c := by
  rcases h with h | ⟨g, cur, h1, h2, h3, h4⟩
  · exact Or.inl h
  · by_cases hq : g = q
    · subst hq
      exact Or.inr ⟨g, cur.setIfInBounds j u, h1, h2, by simp [World.setCell, Array.getElem?_modify, h3], by simpa using h4⟩
    · exact Or.inr ⟨g, cur, h1, h2, (Below.heap_setCell w ⟨q, j, none⟩ u g hq).trans h3, h4⟩
theorem OwnH.nil (A : Nat) (e : TypeId) (w : World) (z : Nat → Hd) : OwnH A e w ⟨none, 0, 0, z⟩ := ⟨Nat.le_refl _, Nat.zero_le _, fun _ => rfl, fun h => absurd h (Nat.lt_irrefl _)⟩
/-- What the call itself has made. -/
theorem OwnH.ofRow {w : World} {A base : Nat} {e : TypeId} {v : Value} {n : Nat} {z : Nat → Hd} (h : w.ownsRow base e 4 v n (flatH n z)) (hA : A ≤ base) : ∃ s : Hs, v = s.val ∧ OwnH A e w s ∧ s.n = n ∧ s.z = z := by
  by_cases hv : v = .slice none 0 0
  · have hn : n = 0 := by
      rcases h.2 with ⟨_, h0⟩ | ⟨g, cap, cur, hv', _⟩
      · exact h0
      · rw [hv] at hv'; cases hv'
    subst hn
    exact ⟨⟨none, 0, 0, z⟩, hv, OwnH.nil A e w z, rfl, rfl⟩
  · obtain ⟨g, c, rfl, h1, h2, h3, h4⟩ := Blk.ofOwns h hv
    exact ⟨⟨some ⟨g, 0, none⟩, n, c, z⟩, rfl, ⟨h1, h2, (fun e => by cases e), fun _ => ⟨g, rfl, Nat.le_trans hA h3, h4⟩⟩, rfl, rfl⟩

end Go.Proofs.Ytjiodlbblmbibac

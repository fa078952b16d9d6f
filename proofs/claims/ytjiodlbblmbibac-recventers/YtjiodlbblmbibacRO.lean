/- A state that the document copies: OwnState. -/
import Derived.Test.YtjiodlbblmbibacAPJ
namespace Go.Proofs.Ytjiodlbblmbibac
open Go.RowKit Go.Shelf Go.Sort
set_option linter.unusedVariables false

def DOn (A : Nat) (s : St) (v : Value) (g : List Nat) (wk : World) : Prop := ∃ (g0 c0 : Nat) (G C : Nat → Nat), v = .slice (some ⟨g0, 0, none⟩) s.on.n c0 ∧ A ≤ g0 ∧ s.on.n ≤ c0 ∧ c0 ≤ maxLen ∧ Blk wk g0 23 s.on.n (fun i => .slice (some ⟨G i, 0, none⟩) (s.on.r i).n (C i)) ∧
  (∀ i, i < s.on.n → A ≤ G i ∧ (s.on.r i).n ≤ C i ∧ C i ≤ maxLen ∧ Blk wk (G i) 3 (s.on.r i).n (fun j => .int .i64 ((s.on.r i).z j))) ∧ (∀ i j, i < j → j < s.on.n → G i < G j) ∧ g = (List.range s.on.n).map G
theorem DOn.below {A : Nat} {s : St} {v : Value} {g : List Nat} {w w' : World} (h : DOn A s v g w) (hB : Below w.heap.size w w') : DOn A s v g w' := by
  obtain ⟨g0, c0, G, C, h1, h2, h2', h2'', h3, h4, h5, h6⟩ := h
  exact ⟨g0, c0, G, C, h1, h2, h2', h2'', h3.below hB, fun i hi => ⟨(h4 i hi).1, (h4 i hi).2.1, (h4 i hi).2.2.1, (h4 i hi).2.2.2.below hB⟩, h5, h6⟩
theorem DOn.lt {A : Nat} {s : St} {v : Value} {g : List Nat} {w : World} (h : DOn A s v g w) : ∀ x ∈ g, x < w.heap.size := by
  obtain ⟨g0, c0, G, C, h1, h2, h2', h2'', h3, h4, h5, rfl⟩ := h
  intro x hx
  obtain ⟨i, hi, rfl⟩ := List.mem_map.1 hx
  exact (h4 i (List.mem_range.1 hi)).2.2.2.lt
def DE (v : Value) (g : List Nat) : Prop := ∃ B : Nat, g = [] ∧ v = .slice (some ⟨B, 0, none⟩) 0 0
def DAgg (A : Nat) (s : St) (v : Value) (g : List Nat) (wk : World) : Prop := g = [] ∧ ∃ x2 g2 x6 g6 x10 g10 x14 g14 x18 g18 x22 g22, v = .agg #[x2, .slice .none 0 0, x6, x10, x14, x18, x22] ∧ DOn A s x2 g2 wk ∧ DHs A 65 s.hs x6 g6 wk ∧ DHs A 70 s.ms x10 g10 wk ∧
  DInts A s.si x14 g14 wk ∧ DInts A s.so x18 g18 wk ∧ DInts A s.sf x22 g22 wk ∧ (∀ x ∈ g2, x ∉ g14) ∧ (∀ x ∈ g2, x ∉ g18) ∧ (∀ x ∈ g2, x ∉ g22) ∧ (∀ x ∈ g14, x ∉ g18) ∧ (∀ x ∈ g14, x ∉ g22) ∧ (∀ x ∈ g18, x ∉ g22)
theorem DAgg.below {A : Nat} {s : St} {v : Value} {g : List Nat} {w w' : World} (h : DAgg A s v g w) (hB : Below w.heap.size w w') : DAgg A s v g w' := by
  obtain ⟨h0, x2, g2, x6, g6, x10, g10, x14, g14, x18, g18, x22, g22, h1, a, b, c, d, e, f, r⟩ := h
  exact ⟨h0, x2, g2, x6, g6, x10, g10, x14, g14, x18, g18, x22, g22, h1, a.below hB, b.below hB, c.below hB, d.below hB, e.below hB, f.below hB, r⟩

theorem OwnI.grownO {A B : Nat} {w w2 : World} {r : Rw} {e : TypeId} {size : Nat} {v : Value} {n : Nat} {xs : List Value} (h : OwnI A w r) (ho : w.ownsRow B e size v n xs) (hg : w.grownBy w2 v.ownBlock) (hne : 3 ≠ e) : OwnI A w2 r := by
  obtain ⟨g, ha, h0, h1, h2, hb⟩ := h
  exact ⟨g, ha, h0, h1, h2, grown_keep ho hg hb hne⟩
theorem OwnH.grownO {A B : Nat} {t : TypeId} {w w2 : World} {s : Hs} {e : TypeId} {size : Nat} {v : Value} {n : Nat} {xs : List Value} (h : OwnH A t w s) (ho : w.ownsRow B e size v n xs) (hg : w.grownBy w2 v.ownBlock) (hne : t ≠ e) : OwnH A t w2 s := by
  obtain ⟨h1, h2, h3, h4⟩ := h
  refine ⟨h1, h2, h3, fun hn => ?_⟩
  obtain ⟨g, ha, hA, hb⟩ := h4 hn
  exact ⟨g, ha, hA, grown_keep ho hg hb hne⟩
theorem Room.grownO {A B : Nat} {t : TypeId} {w w2 : World} {sz c : Nat} {a : Option Addr} {e : TypeId} {size : Nat} {v : Value} {n : Nat} {xs : List Value} (h : Room A w t sz a c) (ho : w.ownsRow B e size v n xs) (hg : w.grownBy w2 v.ownBlock) (hne : t ≠ e) : Room A w2 t sz a c := by
  refine h.same fun g cur hgc => hg.block g (Array.getElem?_eq_some_iff.1 hgc).1 fun hq => ?_
  rcases ho.2 with ⟨rfl, _⟩ | ⟨g2, cap2, cur2, rfl, _, hh2, hrest⟩
  · simp [Value.ownBlock] at hq
  · simp only [Value.ownBlock, Option.some.injEq] at hq
    subst hq
    rw [hgc] at hh2
    cases hh2
    exact hne rfl
theorem OwnS.grownO {A B : Nat} {w w2 : World} {s : St} {size : Nat} {v : Value} {n : Nat} {xs : List Value} (h : OwnS A w s) (hos : s.os.n = 0) (hoc : s.os.c = 0) (ho : w.ownsRow B 51 size v n xs) (hg : w.grownBy w2 v.ownBlock) : OwnS A w2 s := by
  refine ⟨?_, fun i hi => (h.rows i hi).grownO ho hg (by decide), h.rapart, ⟨h.os.le, h.os.cap, fun hn => absurd hn (by omega), fun i hi => absurd hi (by omega), h.os.apart, Or.inl hoc⟩, h.hs.grownO ho hg (by decide), h.ms.grownO ho hg (by decide), h.msr.grownO ho hg (by decide), h.si.grownO ho hg (by decide), h.so.grownO ho hg (by decide), h.sf.grownO ho hg (by decide), h.aio, h.aif, h.aof, h.ari⟩
  obtain ⟨g, ha, h0, h1, h2, hb⟩ := h.on
  exact ⟨g, ha, h0, h1, h2, grown_keep ho hg hb (by decide)⟩
theorem OwnS.below {A : Nat} {w w' : World} {s : St} (h : OwnS A w s) (hB : Below w.heap.size w w') : OwnS A w' s := by
  refine ⟨?_, fun i hi => (h.rows i hi).below hB, h.rapart, h.os.below hB, h.hs.below hB, h.ms.below hB, h.msr.below hB, h.si.below hB, h.so.below hB, h.sf.below hB, h.aio, h.aif, h.aof, h.ari⟩
  obtain ⟨g, ha, h0, h1, h2, hb⟩ := h.on
  exact ⟨g, ha, h0, h1, h2, hb.below hB⟩

/-- A line list of the copy that is being made. -/
def LineOK (A : Nat) (s : St) (Ls : Nat → Od) (i : Nat) (wk : World) : Prop := (Ls i).k = (s.os.z i).k ∧ (Ls i).ls.n = (s.os.z i).ls.n ∧ (∀ j, j < (s.os.z i).ls.n → (Ls i).ls.z j = (s.os.z i).ls.z j) ∧ ∃ B, (Ls i).ls.a = some ⟨B, 0, none⟩ ∧ A ≤ B ∧ (Ls i).ls.n ≤ (Ls i).ls.c ∧ (Ls i).ls.c ≤ maxLen ∧ Blk wk B 53 ((Ls i).ls.n * 4) (fun j => (flatH (Ls i).ls.n (Ls i).ls.z).getD j default)
def OwnL (A A0 : Nat) (s s0 : St) (BX k : Nat) (wk : World) : Prop := ∃ (v : Value) (Ls : Nat → Od), Blk wk BX 31 7 (fun j => (#[.slice s0.on.a s0.on.n s0.on.c, v, .slice s0.hs.a s0.hs.n s0.hs.c, .slice s0.ms.a s0.ms.n s0.ms.c, .slice s0.si.a s0.si.n s0.si.c, .slice s0.so.a s0.so.n s0.so.c, .slice s0.sf.a s0.sf.n s0.sf.c] : Array Value).getD j default) ∧
  wk.ownsRow A0 51 2 v k (flatO k Ls) ∧ (∀ i, i < k → LineOK A s Ls i wk) ∧ (∀ i j, i < j → j < k → (Ls i).ls.a ≠ (Ls j).ls.a) ∧ OwnS A wk s0
def D16 (A : Nat) (x : Od) (v : Value) (g : List Nat) (wk : World) : Prop := ∃ s' : Hs, g = [] ∧ v = .agg #[.int .i64 x.k, .slice s'.a s'.n s'.c] ∧ Cloned A 53 x.ls wk s'
theorem D16.below {A : Nat} {x : Od} {v : Value} {g : List Nat} {w w' : World} (h : D16 A x v g w) (hB : Below w.heap.size w w') : D16 A x v g w' := by
  obtain ⟨s', h1, h2, h3, h4, h5, h6⟩ := h
  exact ⟨s', h1, h2, h3, h4, h5.below hB, h6.below hB⟩
def D17 (A : Nat) (x : Od) (v : Value) (g : List Nat) (wk : World) : Prop := ∃ (B : Nat) (s' : Hs), g = [] ∧ v = .slice (some ⟨B, 0, none⟩) 1 1 ∧ A ≤ B ∧ Blk wk B 51 2 (fun j => (#[.int .i64 x.k, .slice s'.a s'.n s'.c] : Array Value).getD j default) ∧ Cloned A 53 x.ls wk s'
theorem D17.below {A : Nat} {x : Od} {v : Value} {g : List Nat} {w w' : World} (h : D17 A x v g w) (hB : Below w.heap.size w w') : D17 A x v g w' := by
  obtain ⟨B, s', h1, h2, h3, h4, h5, h6, h7, h8⟩ := h
  exact ⟨B, s', h1, h2, h3, h4.below hB, h5, h6, h7.below hB, h8.below hB⟩

theorem cloned_grow {A B : Nat} {e : TypeId} {s : Hs} {w : World} {v : Value} (hn : 0 < s.n) (hown : w.ownsRow B e 4 v s.n (flatH s.n s.z)) (hA : A ≤ B) : ∃ s' : Hs, v = .slice s'.a s'.n s'.c ∧ Cloned A e s w s' := by
  have hv : v ≠ .slice none 0 0 := by
    rintro rfl
    rcases hown.2 with ⟨_, h0⟩ | ⟨g2, cap2, cur2, h, _⟩
    · omega
    · cases h
  obtain ⟨s', h1, h2, h3, h4, h5⟩ := OwnH.ofOwns hown hv
  exact ⟨s', h1, h2, fun j _ => by rw [h3], h4.mono hA, h5.mono hA⟩
theorem cloned_none {A : Nat} {e : TypeId} {s : Hs} {w : World} (B : Nat) (hn : s.n = 0) : Cloned A e s w ⟨some ⟨B, 0, none⟩, 0, 0, s.z⟩ := ⟨hn.symm, fun j hj => rfl, ⟨Nat.le_refl _, Nat.zero_le _, (fun h => by cases h), fun h => absurd h (Nat.lt_irrefl _)⟩, Or.inl rfl⟩
theorem hs_news {s : Hs} {w : World} (h : s.At w) : ∀ ad, s.a = some ad → ∀ j u, (flatH s.n s.z)[j]? = some u → w.cell? (ad.add j) = some u := fun ad ha j u hj => by
  have hlen := (List.getElem?_eq_some_iff.1 hj).1
  rw [flatH_len] at hlen
  have hh := h.hds
  obtain ⟨b, o, he, hb, -⟩ := hh 0 (by omega)
  rw [ha] at he
  simp only [Option.some.injEq] at he
  subst he
  rw [ha] at hh
  exact HdsAt.news hh j u hj
theorem hs_none {s : Hs} {w : World} (h : s.At w) (ha : s.a = none) : s.n = 0 := by
  have := h.nilc ha
  have := h.le
  omega
theorem ints_grow {A B : Nat} {r : Rw} {w : World} {v : Value} (hn : 0 < r.n) (hown : w.ownsRow B 3 1 v r.n ((List.range r.n).map fun j => Value.int .i64 (r.z j))) (hA : A ≤ B) : ∃ g c, v = .slice (some ⟨g, 0, none⟩) r.n c ∧ B ≤ g ∧ DInts A r v [g] w := by
  have hv : v ≠ .slice none 0 0 := by
    rintro rfl
    rcases hown.2 with ⟨_, h0⟩ | ⟨g2, cap2, cur2, h, _⟩
    · omega
    · cases h
  obtain ⟨g, c, rfl, h1, h2, h3, h4⟩ := Blk.ofOwns hown hv
  rw [Nat.mul_one] at h4
  exact ⟨g, c, rfl, h3, g, c, rfl, rfl, by omega, h1, h2, h4.congr (fun j hj => by simp [hj])⟩
theorem rw_news {r : Rw} {w : World} (h : r.At w) : ∀ ad, r.a = some ad → ∀ j u, ((List.range r.n).map fun j => Value.int .i64 (r.z j))[j]? = some u → w.cell? (ad.add j) = some u := fun ad ha j u hj => by
  have hjn : j < r.n := by
    have := (List.getElem?_eq_some_iff.1 hj).1
    simpa using this
  obtain ⟨b, o, he, hb, hc⟩ := h.ints j hjn
  rw [ha] at he
  simp only [Option.some.injEq] at he
  subst he
  rw [Go.WideShapes.add_plain, hc]
  simp [hjn] at hj
  rw [hj]
theorem rw_none {r : Rw} {w : World} (h : r.At w) (ha : r.a = none) : r.n = 0 := by
  rcases Nat.eq_zero_or_pos r.n with h0 | h0
  · exact h0
  · obtain ⟨b, o, he, _⟩ := h.ints 0 h0
    rw [ha] at he
    cases he

set_option maxRecDepth 100000 in
set_option maxHeartbeats 4000000 in
theorem OwnState_any (p : Pl) (s : St) (w : World) (hs : s.At w) (f : Formed p s) :
    Calls Try.prog 51 #[s.val] w fun e w' => ∃ s' : St, e = .returned s'.val ∧ SameT s' s ∧ OwnS w.heap.size w' s' ∧ Below w.heap.size w w' := by
  obtain ⟨W0, hW, hWB, X0, Z0⟩ : ∃ W, ((w.alloc (.cells s.cells 31)).alloc (.cells #[.slice .none 0 0, .slice .none 0 0, .slice .none 0 0, .slice .none 0 0, .slice .none 0 0, .slice .none 0 0, .slice .none 0 0] 31)) = W ∧ Below w.heap.size w W ∧ Blk W w.heap.size 31 7 (fun j => s.cells.getD j default) ∧ Blk W (w.heap.size + 1) 31 7 (fun _ => .slice .none 0 0) :=
    ⟨_, rfl, two_below _ _ _, (Blk.mk' rfl rfl).alloc _, (Blk.mk' (cur := #[.slice .none 0 0, .slice .none 0 0, .slice .none 0 0, .slice .none 0 0, .slice .none 0 0, .slice .none 0 0, .slice .none 0 0]) (by simp) rfl).congr (fun j hj => by match j, hj with | 0, _ => rfl | 1, _ => rfl | 2, _ => rfl | 3, _ => rfl | 4, _ => rfl | 5, _ => rfl | 6, _ => rfl)⟩
  have HW : Hid ((w.alloc (.cells #[.slice s.on.a s.on.n s.on.c, .slice s.os.a s.os.n s.os.c, .slice s.hs.a s.hs.n s.hs.c, .slice s.ms.a s.ms.n s.ms.c, .slice s.si.a s.si.n s.si.c, .slice s.so.a s.so.n s.so.c, .slice s.sf.a s.sf.n s.sf.c] 31)).alloc (.cells #[.slice .none 0 0, .slice .none 0 0, .slice .none 0 0, .slice .none 0 0, .slice .none 0 0, .slice .none 0 0, .slice .none 0 0] 31) = W0) := hW
  have HS : Hid (s.At W0) := hs.below hWB
  have HF : Hid (Formed p s) := f
  have HC : Hid (∀ wk, Below W0.heap.size W0 wk → Boxed wk w.heap.size s ∧ Blk wk (w.heap.size + 1) 31 7 (fun _ => .slice .none 0 0) ∧ s.At wk ∧ Below w.heap.size w wk) := fun wk h => ⟨Boxed.of (X0.below h), Z0.below h, (hs.below hWB).below h, hWB.trans (h.mono hWB.size)⟩
  have hsz0 := hWB.size
  have zlt := Z0.lt
  have ns1 := f.sh.pl.ns1
  have ns3 := f.sh.pl.ns3
  have h72 := f.hs72
  have ms8 := f.ms8
  obtain ⟨l1, c0, c1, c2, c3, c4, c5, c6⟩ := Boxed.of X0
  have r0 : ∀ d os, (grow (redrawn W0 d) os).cell? ⟨w.heap.size, 0, none⟩ = some (.slice s.on.a s.on.n s.on.c) := fun d os => cell_regrown c0 d os
  have r2 : ∀ d os, (grow (redrawn W0 d) os).cell? ⟨w.heap.size, 2, none⟩ = some (.slice s.hs.a s.hs.n s.hs.c) := fun d os => cell_regrown c2 d os
  have r3 : ∀ d os, (grow (redrawn W0 d) os).cell? ⟨w.heap.size, 3, none⟩ = some (.slice s.ms.a s.ms.n s.ms.c) := fun d os => cell_regrown c3 d os
  have r4 : ∀ d os, (grow (redrawn W0 d) os).cell? ⟨w.heap.size, 4, none⟩ = some (.slice s.si.a s.si.n s.si.c) := fun d os => cell_regrown c4 d os
  have r5 : ∀ d os, (grow (redrawn W0 d) os).cell? ⟨w.heap.size, 5, none⟩ = some (.slice s.so.a s.so.n s.so.c) := fun d os => cell_regrown c5 d os
  have r6 : ∀ d os, (grow (redrawn W0 d) os).cell? ⟨w.heap.size, 6, none⟩ = some (.slice s.sf.a s.sf.n s.sf.c) := fun d os => cell_regrown c6 d os
  obtain ⟨iI, hI, hI0, hI1, hI2⟩ := info_parts infoInt
  obtain ⟨iH, hH, hH0, hH1, hH2⟩ := info_parts infoHoldC
  obtain ⟨iM, hM, hM0, hM1, hM2⟩ := info_parts infoMoveC
  obtain ⟨iL, hL, hL0, hL1, hL2⟩ := info_parts infoLineC
  obtain ⟨iO, hO, hO0, hO1, hO2⟩ := info_parts infoOrderC
  clear hW X0 Z0 hs f c0 c1 c2 c3 c4 c5 c6
  unfold St.val
  go_enter Try.func51, Try.ntmps51
  go_wp2_with fail
  rw [HW.out]
  refine wp_region_made6 (fun w' => ∃ p : Regrown, w' = grow (redrawn W0 p.d) p.os) [0, 1, 4, 5, 8, 9, 12, 13, 16, 17, 20, 21] [2, 3, 6, 7, 10, 11, 14, 15, 18, 19, 22, 23, 24] [(false, 25)] (by kernel_rfl) (by kernel_rfl) (by kernel_rfl) (by kernel_rfl) (by kernel_rfl) (by kernel_rfl) (by kernel_rfl) (by kernel_rfl) (by kernel_rfl) (regrown_of_below ((Below.refl _ _).drew)) ?_
  simp only [picks, List.drop_succ_cons, List.drop_zero, List.take_succ_cons, List.take_zero, List.cons_append, List.nil_append]
  repeat (go_big_quiet_step (fail))
  refine wpQuiet_nil ?_
  clear r0 r2 r3 r4 r5 r6
  refine ⟨fun j v g wk => match j with | 2 => DOn w.heap.size s v g wk | 6 => DHs w.heap.size 65 s.hs v g wk | 10 => DHs w.heap.size 70 s.ms v g wk | 14 => DInts w.heap.size s.si v g wk | 18 => DInts w.heap.size s.so v g wk | 22 => DInts w.heap.size s.sf v g wk | 23 => DAgg w.heap.size s v g wk | 24 => BoxAt W0.heap.size v g wk | _ => DE v g,
    ?zmono, ?zlow, ?zstep, ?zdone⟩
  case zmono =>
    intro j hj v g w w' hB h
    simp only [List.mem_cons, List.not_mem_nil, or_false] at hj
    rcases hj with rfl | rfl | rfl | rfl | rfl | rfl | rfl | rfl | rfl | rfl | rfl | rfl | rfl
    · exact DOn.below h hB
    · exact h
    · exact DHs.below h hB
    · exact h
    · exact DHs.below h hB
    · exact h
    · exact DInts.below h hB
    · exact h
    · exact DInts.below h hB
    · exact h
    · exact DInts.below h hB
    · exact DAgg.below h hB
    · exact BoxAt.below h hB
  case zlow =>
    intro j hj v g w h
    simp only [List.mem_cons, List.not_mem_nil, or_false] at hj
    rcases hj with rfl | rfl | rfl | rfl | rfl | rfl | rfl | rfl | rfl | rfl | rfl | rfl | rfl
    · exact DOn.lt h
    · obtain ⟨_, h1, _⟩ := h; rw [h1]; intro x hx; simp at hx
    · obtain ⟨_, h1, _⟩ := h; rw [h1]; intro x hx; simp at hx
    · obtain ⟨_, h1, _⟩ := h; rw [h1]; intro x hx; simp at hx
    · obtain ⟨_, h1, _⟩ := h; rw [h1]; intro x hx; simp at hx
    · obtain ⟨_, h1, _⟩ := h; rw [h1]; intro x hx; simp at hx
    · exact DInts.lt h
    · obtain ⟨_, h1, _⟩ := h; rw [h1]; intro x hx; simp at hx
    · exact DInts.lt h
    · obtain ⟨_, h1, _⟩ := h; rw [h1]; intro x hx; simp at hx
    · exact DInts.lt h
    · obtain ⟨h1, _⟩ := h; rw [h1]; intro x hx; simp at hx
    · exact BoxAt.lt h
  case zstep =>
    intro i hi
    simp only [List.mem_cons, List.not_mem_nil, or_false] at hi
    rcases hi with rfl | rfl | rfl | rfl | rfl | rfl | rfl | rfl | rfl | rfl | rfl | rfl | rfl
    · intro V G wk K hS hd hA hK
      have hX := below_of_regrown hS
      have q := hX.size
      refine wpOp_list 2 rfl ?_
      simp only [putAll, dstOf, List.getElem?_toArray, List.getElem?_cons_succ, List.getElem?_cons_zero, Act.put, List.setIfInBounds_toArray, List.set_cons_succ, List.set_cons_zero] at hK ⊢
      go_wp2_with fail
      refine (ownOn_any s.on wk (HS.out.on.below hX) (by rw [HF.out.sh.n]; exact HF.out.sh.pl.nb6) (by rw [HF.out.sh.n]; exact HF.out.sh.pl.nb1) (fun i hi => by rw [HF.out.sh.len i hi]; exact ⟨ns1, ns3⟩)).mono ?_
      rintro e w2 ⟨g0, c0, Gr, Cr, rfl, a1, a1', a1'', a2, a3, a4, hB2⟩
      go_wp2_with fail
      refine hK _ ((List.range s.on.n).map Gr) _ (regrown_of_below (hX.trans (hB2.mono hX.size))) hB2 (fun x hx => ?_) ⟨g0, c0, Gr, Cr, rfl, by omega, a1', a1'', a2, fun i hi => ⟨by have := (a3 i hi).1; omega, (a3 i hi).2⟩, a4, rfl⟩
      obtain ⟨i, hi, rfl⟩ := List.mem_map.1 hx
      exact (a3 i (List.mem_range.1 hi)).1
    · intro V G wk K hS hd hA hK
      have hX := below_of_regrown hS
      refine wpOp_list 3 rfl ?_
      simp only [putAll, dstOf, List.getElem?_toArray, List.getElem?_cons_succ, List.getElem?_cons_zero, Act.put, List.setIfInBounds_toArray, List.set_cons_succ, List.set_cons_zero] at hK ⊢
      go_wp2_with fail
      exact hK _ [] _ (regrown_of_below (hX.alloc hX.size _)) ((Below.refl _ _).alloc (Nat.le_refl _) _) (fun x hx => by simp at hx) ⟨wk.heap.size, rfl, rfl⟩
    · intro V G wk K hS hd hA hK
      have hX := below_of_regrown hS
      have q := hX.size
      obtain ⟨B, -, h3⟩ : DE (V 3) (G 3) := hd 3 (List.contains_iff_mem.1 (by kernel_rfl)) (by simp)
      refine wpOp_list 6 rfl ?_
      simp only [putAll, dstOf, List.getElem?_toArray, List.getElem?_cons_succ, List.getElem?_cons_zero, Act.put, List.setIfInBounds_toArray, List.set_cons_succ, List.set_cons_zero, h3] at hK ⊢
      go_wp2_with (at_builtin; refine wp_append_empty wk rfl (.tmp 8) (.tmp 10) 28 rfl 65 iH (.agg #[.int .i64 0, .int .i64 0, .int .i64 0, .int .i64 0]) 4 32 Try.underlying28 hH hH0 hH1 hH2 rfl (by decide) B rfl s.hs.a s.hs.n s.hs.c (flatH s.hs.n s.hs.z) rfl (by rw [flatH_len]) (hs_news (HS.out.hs.below hX)) (flatH_one _ _) (hs_none (HS.out.hs.below hX)) (by unfold maxLen; omega) (by omega) ?_ ?_)
      · intro h0
        exact wpList_end (hK _ [] _ hS (Below.refl _ _) (fun x hx => by simp at hx) ⟨⟨some ⟨B, 0, none⟩, 0, 0, s.hs.z⟩, rfl, rfl, cloned_none B h0⟩)
      · intro h0 v' w1 hown hgrow
        have hB1 : Below wk.heap.size wk w1 := (Below.refl _ wk).grown hgrow (Nat.le_refl _) (by intro k hk; cases hk)
        obtain ⟨s', rfl, hc⟩ := cloned_grow (A := w.heap.size) h0 hown (by omega)
        exact wpList_end (hK _ [] _ (regrown_of_below (hX.trans (hB1.mono hX.size))) hB1 (fun x hx => by simp at hx) ⟨s', rfl, rfl, hc⟩)
    · intro V G wk K hS hd hA hK
      have hX := below_of_regrown hS
      refine wpOp_list 7 rfl ?_
      simp only [putAll, dstOf, List.getElem?_toArray, List.getElem?_cons_succ, List.getElem?_cons_zero, Act.put, List.setIfInBounds_toArray, List.set_cons_succ, List.set_cons_zero] at hK ⊢
      go_wp2_with fail
      exact hK _ [] _ (regrown_of_below (hX.alloc hX.size _)) ((Below.refl _ _).alloc (Nat.le_refl _) _) (fun x hx => by simp at hx) ⟨wk.heap.size, rfl, rfl⟩
    · intro V G wk K hS hd hA hK
      have hX := below_of_regrown hS
      have q := hX.size
      obtain ⟨B, -, h3⟩ : DE (V 7) (G 7) := hd 7 (List.contains_iff_mem.1 (by kernel_rfl)) (by simp)
      refine wpOp_list 10 rfl ?_
      simp only [putAll, dstOf, List.getElem?_toArray, List.getElem?_cons_succ, List.getElem?_cons_zero, Act.put, List.setIfInBounds_toArray, List.set_cons_succ, List.set_cons_zero, h3] at hK ⊢
      go_wp2_with (at_builtin; refine wp_append_empty wk rfl (.tmp 12) (.tmp 14) 29 rfl 70 iM (.agg #[.int .i64 0, .int .i64 0, .int .i64 0, .int .i64 0]) 4 32 Try.underlying29 hM hM0 hM1 hM2 rfl (by decide) B rfl s.ms.a s.ms.n s.ms.c (flatH s.ms.n s.ms.z) rfl (by rw [flatH_len]) (hs_news (HS.out.ms.below hX)) (flatH_one _ _) (hs_none (HS.out.ms.below hX)) (by unfold maxLen; omega) (by omega) ?_ ?_)
      · intro h0
        exact wpList_end (hK _ [] _ hS (Below.refl _ _) (fun x hx => by simp at hx) ⟨⟨some ⟨B, 0, none⟩, 0, 0, s.ms.z⟩, rfl, rfl, cloned_none B h0⟩)
      · intro h0 v' w1 hown hgrow
        have hB1 : Below wk.heap.size wk w1 := (Below.refl _ wk).grown hgrow (Nat.le_refl _) (by intro k hk; cases hk)
        obtain ⟨s', rfl, hc⟩ := cloned_grow (A := w.heap.size) h0 hown (by omega)
        exact wpList_end (hK _ [] _ (regrown_of_below (hX.trans (hB1.mono hX.size))) hB1 (fun x hx => by simp at hx) ⟨s', rfl, rfl, hc⟩)
    · intro V G wk K hS hd hA hK
      have hX := below_of_regrown hS
      refine wpOp_list 11 rfl ?_
      simp only [putAll, dstOf, List.getElem?_toArray, List.getElem?_cons_succ, List.getElem?_cons_zero, Act.put, List.setIfInBounds_toArray, List.set_cons_succ, List.set_cons_zero] at hK ⊢
      go_wp2_with fail
      exact hK _ [] _ (regrown_of_below (hX.alloc hX.size _)) ((Below.refl _ _).alloc (Nat.le_refl _) _) (fun x hx => by simp at hx) ⟨wk.heap.size, rfl, rfl⟩
    · intro V G wk K hS hd hA hK
      have hX := below_of_regrown hS
      have q := hX.size
      obtain ⟨B, -, h3⟩ : DE (V 11) (G 11) := hd 11 (List.contains_iff_mem.1 (by kernel_rfl)) (by simp)
      have HN : Hid (s.si.n = p.ns) := HF.out.sin
      refine wpOp_list 14 rfl ?_
      simp only [putAll, dstOf, List.getElem?_toArray, List.getElem?_cons_succ, List.getElem?_cons_zero, Act.put, List.setIfInBounds_toArray, List.set_cons_succ, List.set_cons_zero, h3] at hK ⊢
      go_wp2_with (at_builtin; refine wp_append_empty wk rfl (.tmp 16) (.tmp 18) 23 rfl 3 iI (.int .i64 0) 1 8 Try.underlying23 hI hI0 hI1 hI2 rfl (by decide) B rfl s.si.a s.si.n s.si.c ((List.range s.si.n).map fun j => Value.int .i64 (s.si.z j)) rfl (by simp) (rw_news (HS.out.si.below hX)) (fun u hu => by obtain ⟨x, _, rfl⟩ := List.mem_map.1 hu; rfl) (rw_none (HS.out.si.below hX)) (by rw [HN.out]; unfold maxLen; omega) (by rw [HN.out]; omega) ?_ ?_)
      · intro h0
        exact absurd h0 (by rw [HN.out]; omega)
      · intro h0 v' w1 hown hgrow
        have hB1 : Below wk.heap.size wk w1 := (Below.refl _ wk).grown hgrow (Nat.le_refl _) (by intro k hk; cases hk)
        obtain ⟨gi, ci, rfl, hge, hdi⟩ := ints_grow (A := w.heap.size) h0 hown (by omega)
        exact wpList_end (hK _ [gi] _ (regrown_of_below (hX.trans (hB1.mono hX.size))) hB1 (fun x hx => by rw [List.mem_singleton] at hx; omega) hdi)
    · intro V G wk K hS hd hA hK
      have hX := below_of_regrown hS
      refine wpOp_list 15 rfl ?_
      simp only [putAll, dstOf, List.getElem?_toArray, List.getElem?_cons_succ, List.getElem?_cons_zero, Act.put, List.setIfInBounds_toArray, List.set_cons_succ, List.set_cons_zero] at hK ⊢
      go_wp2_with fail
      exact hK _ [] _ (regrown_of_below (hX.alloc hX.size _)) ((Below.refl _ _).alloc (Nat.le_refl _) _) (fun x hx => by simp at hx) ⟨wk.heap.size, rfl, rfl⟩
    · intro V G wk K hS hd hA hK
      have hX := below_of_regrown hS
      have q := hX.size
      obtain ⟨B, -, h3⟩ : DE (V 15) (G 15) := hd 15 (List.contains_iff_mem.1 (by kernel_rfl)) (by simp)
      have HN : Hid (s.so.n = p.ns) := HF.out.son
      refine wpOp_list 18 rfl ?_
      simp only [putAll, dstOf, List.getElem?_toArray, List.getElem?_cons_succ, List.getElem?_cons_zero, Act.put, List.setIfInBounds_toArray, List.set_cons_succ, List.set_cons_zero, h3] at hK ⊢
      go_wp2_with (at_builtin; refine wp_append_empty wk rfl (.tmp 20) (.tmp 22) 23 rfl 3 iI (.int .i64 0) 1 8 Try.underlying23 hI hI0 hI1 hI2 rfl (by decide) B rfl s.so.a s.so.n s.so.c ((List.range s.so.n).map fun j => Value.int .i64 (s.so.z j)) rfl (by simp) (rw_news (HS.out.so.below hX)) (fun u hu => by obtain ⟨x, _, rfl⟩ := List.mem_map.1 hu; rfl) (rw_none (HS.out.so.below hX)) (by rw [HN.out]; unfold maxLen; omega) (by rw [HN.out]; omega) ?_ ?_)
      · intro h0
        exact absurd h0 (by rw [HN.out]; omega)
      · intro h0 v' w1 hown hgrow
        have hB1 : Below wk.heap.size wk w1 := (Below.refl _ wk).grown hgrow (Nat.le_refl _) (by intro k hk; cases hk)
        obtain ⟨gi, ci, rfl, hge, hdi⟩ := ints_grow (A := w.heap.size) h0 hown (by omega)
        exact wpList_end (hK _ [gi] _ (regrown_of_below (hX.trans (hB1.mono hX.size))) hB1 (fun x hx => by rw [List.mem_singleton] at hx; omega) hdi)
    · intro V G wk K hS hd hA hK
      have hX := below_of_regrown hS
      refine wpOp_list 19 rfl ?_
      simp only [putAll, dstOf, List.getElem?_toArray, List.getElem?_cons_succ, List.getElem?_cons_zero, Act.put, List.setIfInBounds_toArray, List.set_cons_succ, List.set_cons_zero] at hK ⊢
      go_wp2_with fail
      exact hK _ [] _ (regrown_of_below (hX.alloc hX.size _)) ((Below.refl _ _).alloc (Nat.le_refl _) _) (fun x hx => by simp at hx) ⟨wk.heap.size, rfl, rfl⟩
    · intro V G wk K hS hd hA hK
      have hX := below_of_regrown hS
      have q := hX.size
      obtain ⟨B, -, h3⟩ : DE (V 19) (G 19) := hd 19 (List.contains_iff_mem.1 (by kernel_rfl)) (by simp)
      have HN : Hid (s.sf.n = p.ns) := HF.out.sfn
      refine wpOp_list 22 rfl ?_
      simp only [putAll, dstOf, List.getElem?_toArray, List.getElem?_cons_succ, List.getElem?_cons_zero, Act.put, List.setIfInBounds_toArray, List.set_cons_succ, List.set_cons_zero, h3] at hK ⊢
      go_wp2_with (at_builtin; refine wp_append_empty wk rfl (.tmp 24) (.tmp 26) 23 rfl 3 iI (.int .i64 0) 1 8 Try.underlying23 hI hI0 hI1 hI2 rfl (by decide) B rfl s.sf.a s.sf.n s.sf.c ((List.range s.sf.n).map fun j => Value.int .i64 (s.sf.z j)) rfl (by simp) (rw_news (HS.out.sf.below hX)) (fun u hu => by obtain ⟨x, _, rfl⟩ := List.mem_map.1 hu; rfl) (rw_none (HS.out.sf.below hX)) (by rw [HN.out]; unfold maxLen; omega) (by rw [HN.out]; omega) ?_ ?_)
      · intro h0
        exact absurd h0 (by rw [HN.out]; omega)
      · intro h0 v' w1 hown hgrow
        have hB1 : Below wk.heap.size wk w1 := (Below.refl _ wk).grown hgrow (Nat.le_refl _) (by intro k hk; cases hk)
        obtain ⟨gi, ci, rfl, hge, hdi⟩ := ints_grow (A := w.heap.size) h0 hown (by omega)
        exact wpList_end (hK _ [gi] _ (regrown_of_below (hX.trans (hB1.mono hX.size))) hB1 (fun x hx => by rw [List.mem_singleton] at hx; omega) hdi)
    · intro V G wk K hS hd hA hK
      have e2 : DOn w.heap.size s (V 2) (G 2) wk := hd 2 (List.contains_iff_mem.1 (by kernel_rfl)) (by simp)
      have e6 : DHs w.heap.size 65 s.hs (V 6) (G 6) wk := hd 6 (List.contains_iff_mem.1 (by kernel_rfl)) (by simp)
      have e10 : DHs w.heap.size 70 s.ms (V 10) (G 10) wk := hd 10 (List.contains_iff_mem.1 (by kernel_rfl)) (by simp)
      have e14 : DInts w.heap.size s.si (V 14) (G 14) wk := hd 14 (List.contains_iff_mem.1 (by kernel_rfl)) (by simp)
      have e18 : DInts w.heap.size s.so (V 18) (G 18) wk := hd 18 (List.contains_iff_mem.1 (by kernel_rfl)) (by simp)
      have e22 : DInts w.heap.size s.sf (V 22) (G 22) wk := hd 22 (List.contains_iff_mem.1 (by kernel_rfl)) (by simp)
      have HD : Hid (DAgg w.heap.size s (.agg #[V 2, .slice .none 0 0, V 6, V 10, V 14, V 18, V 22]) [] wk) := ⟨rfl, V 2, G 2, V 6, G 6, V 10, G 10, V 14, G 14, V 18, G 18, V 22, G 22, rfl, e2, e6, e10, e14, e18, e22, hA 2 (List.contains_iff_mem.1 (by kernel_rfl)) 14 (List.contains_iff_mem.1 (by kernel_rfl)) (by simp) (by simp) (by decide), hA 2 (List.contains_iff_mem.1 (by kernel_rfl)) 18 (List.contains_iff_mem.1 (by kernel_rfl)) (by simp) (by simp) (by decide), hA 2 (List.contains_iff_mem.1 (by kernel_rfl)) 22 (List.contains_iff_mem.1 (by kernel_rfl)) (by simp) (by simp) (by decide), hA 14 (List.contains_iff_mem.1 (by kernel_rfl)) 18 (List.contains_iff_mem.1 (by kernel_rfl)) (by simp) (by simp) (by decide), hA 14 (List.contains_iff_mem.1 (by kernel_rfl)) 22 (List.contains_iff_mem.1 (by kernel_rfl)) (by simp) (by simp) (by decide), hA 18 (List.contains_iff_mem.1 (by kernel_rfl)) 22 (List.contains_iff_mem.1 (by kernel_rfl)) (by simp) (by simp) (by decide)⟩
      obtain ⟨g0, c0, Gr, Cr, v2, -⟩ := e2
      obtain ⟨h', -, v6, -⟩ := e6
      obtain ⟨m', -, v10, -⟩ := e10
      obtain ⟨B1, k1, -, v14, -⟩ := e14
      obtain ⟨B2, k2, -, v18, -⟩ := e18
      obtain ⟨B3, k3, -, v22, -⟩ := e22
      have HD2 := HD.out
      rw [v2, v6, v10, v14, v18, v22] at HD2
      have HD3 : Hid (DAgg w.heap.size s (.agg #[.slice (some ⟨g0, 0, none⟩) s.on.n c0, .slice .none 0 0, .slice h'.a h'.n h'.c, .slice m'.a m'.n m'.c, .slice (some ⟨B1, 0, none⟩) s.si.n k1, .slice (some ⟨B2, 0, none⟩) s.so.n k2, .slice (some ⟨B3, 0, none⟩) s.sf.n k3]) [] wk) := HD2
      clear HD HD2 hA hd
      refine wpOp_list 23 rfl ?_
      simp only [putAll, dstOf, List.getElem?_toArray, List.getElem?_cons_succ, List.getElem?_cons_zero, Act.put, List.setIfInBounds_toArray, List.set_cons_succ, List.set_cons_zero, v2, v6, v10, v14, v18, v22] at hK ⊢
      go_wp2_with fail
      exact hK _ [] _ hS (Below.refl _ _) (fun x hx => by simp at hx) HD3.out
    · intro V G wk K hS hd hA hK
      have hX := below_of_regrown hS
      refine wpOp_list 24 rfl ?_
      simp only [putAll, dstOf, List.getElem?_toArray, List.getElem?_cons_succ, List.getElem?_cons_zero, Act.put, List.setIfInBounds_toArray, List.set_cons_succ, List.set_cons_zero] at hK ⊢
      go_wp2_with fail
      exact hK _ [wk.heap.size] _ (regrown_of_below (hX.alloc hX.size _)) ((Below.refl _ _).alloc (Nat.le_refl _) _) (fun x hx => by rw [List.mem_singleton] at hx; omega) ⟨wk.heap.size, rfl, rfl, hX.size, (Blk.mk' (cur := #[.slice .none 0 0, .slice .none 0 0, .slice .none 0 0, .slice .none 0 0, .slice .none 0 0, .slice .none 0 0, .slice .none 0 0]) rfl rfl).congr (fun j hj => by match j, hj with | 0, _ => rfl | 1, _ => rfl | 2, _ => rfl | 3, _ => rfl | 4, _ => rfl | 5, _ => rfl | 6, _ => rfl)⟩
  case zdone =>
    intro V G wk hS hD hA
    obtain ⟨-, x2, g2, x6, g6, x10, g10, x14, g14, x18, g18, x22, g22, v23, ⟨g0, c0, Gr, Cr, rfl, a1, a1', a1'', a2, a3, a4, rfl⟩, ⟨h', -, rfl, d1, d2, d3, -⟩, ⟨m', -, rfl, f1, f2, f3, f4⟩, ⟨B1, k1, rfl, rfl, i1, i2, i3, i4⟩, ⟨B2, k2, rfl, rfl, j1, j2, j3, j4⟩, ⟨B3, k3, rfl, rfl, l2, l3, l4, l5⟩, n1, n2, n3, n4, n5, n6⟩ : DAgg w.heap.size s (V 23) (G 23) wk := hD 23 (by simp)
    obtain ⟨BX, -, h24, mX, kX⟩ : BoxAt W0.heap.size (V 24) (G 24) wk := hD 24 (by simp)
    have hX := below_of_regrown hS
    have n12 : B1 ≠ B2 := fun e => n4 B1 (by simp) (by rw [e]; simp)
    have n13 : B1 ≠ B3 := fun e => n5 B1 (by simp) (by rw [e]; simp)
    have n23 : B2 ≠ B3 := fun e => n6 B2 (by simp) (by rw [e]; simp)
    have nr : ∀ i, i < s.on.n → Gr i ≠ B1 ∧ Gr i ≠ B2 ∧ Gr i ≠ B3 := fun i hi => by
      have hm : Gr i ∈ (List.range s.on.n).map Gr := List.mem_map.2 ⟨i, List.mem_range.2 hi, rfl⟩
      exact ⟨fun e => n1 _ hm (by rw [e]; simp), fun e => n2 _ hm (by rw [e]; simp), fun e => n3 _ hm (by rw [e]; simp)⟩
    have HR : Hid (OwnS w.heap.size wk ⟨⟨some ⟨g0, 0, none⟩, s.on.n, c0, fun i => ⟨some ⟨Gr i, 0, none⟩, (s.on.r i).n, Cr i, (s.on.r i).z⟩⟩, ⟨none, 0, 0, fun _ => ⟨0, ⟨none, 0, 0, fun _ => ⟨0, 0, 0, 0⟩⟩⟩⟩, h', m', ⟨some ⟨B1, 0, none⟩, s.si.n, k1, s.si.z⟩, ⟨some ⟨B2, 0, none⟩, s.so.n, k2, s.so.z⟩, ⟨some ⟨B3, 0, none⟩, s.sf.n, k3, s.sf.z⟩⟩) := by
      refine ⟨⟨g0, rfl, a1, a1', a1'', a2⟩, fun i hi => ⟨Gr i, rfl, (a3 i hi).1, (a3 i hi).2.1, (a3 i hi).2.2.1, (a3 i hi).2.2.2⟩, fun i j hij hj => ?_, ⟨Nat.le_refl _, Nat.zero_le _, fun h => absurd h (Nat.lt_irrefl _), fun i hi => absurd hi (Nat.not_lt_zero _), fun i j _ hj => absurd hj (Nat.not_lt_zero _), Or.inl rfl⟩, d3, f3, f4, ⟨B1, rfl, i1, i2, i3, i4⟩, ⟨B2, rfl, j1, j2, j3, j4⟩, ⟨B3, rfl, l2, l3, l4, l5⟩, ?_, ?_, ?_, fun i hi => ?_⟩
      · have := a4 i j hij hj
        simp only [ne_eq, Option.some.injEq, Addr.mk.injEq, and_true]
        omega
      · intro e; simp only [Option.some.injEq, Addr.mk.injEq, and_true] at e; exact n12 e
      · intro e; simp only [Option.some.injEq, Addr.mk.injEq, and_true] at e; exact n13 e
      · intro e; simp only [Option.some.injEq, Addr.mk.injEq, and_true] at e; exact n23 e
      · obtain ⟨x1, x2, x3⟩ := nr i hi
        exact ⟨fun e => by simp only [Option.some.injEq, Addr.mk.injEq, and_true] at e; exact x1 e, fun e => by simp only [Option.some.injEq, Addr.mk.injEq, and_true] at e; exact x2 e, fun e => by simp only [Option.some.injEq, Addr.mk.injEq, and_true] at e; exact x3 e⟩
    have HCT : Hid ((h'.n = s.hs.n ∧ ∀ j, j < h'.n → h'.z j = s.hs.z j) ∧ (m'.n = s.ms.n ∧ ∀ j, j < m'.n → m'.z j = s.ms.z j)) := ⟨⟨d1, fun j hj => d2 j (by rw [← d1]; exact hj)⟩, ⟨f1, fun j hj => f2 j (by rw [← f1]; exact hj)⟩⟩
    clear hD hA a1 a1' a1'' a2 a3 a4 d1 d2 d3 f1 f2 f3 f4 i1 i2 i3 i4 j1 j2 j3 j4 l2 l3 l4 l5 n1 n2 n3 n4 n5 n6 n12 n13 n23 nr hS
    have HKX : Hid (Blk wk BX 31 7 (fun _ => .slice .none 0 0)) := kX
    have xl := kX.lt
    have zf0 := kX.frozen 0
    have zc0 := kX.cell (j := 0) (by decide)
    have zf1 := kX.frozen 1
    have zc1 := kX.cell (j := 1) (by decide)
    have zf2 := kX.frozen 2
    have zc2 := kX.cell (j := 2) (by decide)
    have zf3 := kX.frozen 3
    have zc3 := kX.cell (j := 3) (by decide)
    have zf4 := kX.frozen 4
    have zc4 := kX.cell (j := 4) (by decide)
    have zf5 := kX.frozen 5
    have zc5 := kX.cell (j := 5) (by decide)
    have zf6 := kX.frozen 6
    have zc6 := kX.cell (j := 6) (by decide)
    clear kX
    simp only [putAll, dstOf, List.getElem?_toArray, List.getElem?_cons_succ, List.getElem?_cons_zero, Act.put, List.setIfInBounds_toArray, List.set_cons_succ, List.set_cons_zero, v23, h24]
    refine wpSeq_one 25 rfl ?_
    go_wp2_with fail
    have KZ := set7_blk HKX.out (.slice (some ⟨g0, 0, none⟩) s.on.n c0) (.slice .none 0 0) (.slice h'.a h'.n h'.c) (.slice m'.a m'.n m'.c) (.slice (some ⟨B1, 0, none⟩) s.si.n k1) (.slice (some ⟨B2, 0, none⟩) s.so.n k2) (.slice (some ⟨B3, 0, none⟩) s.sf.n k3)
    have hb := set7_below hX mX (.slice (some ⟨g0, 0, none⟩) s.on.n c0) (.slice .none 0 0) (.slice h'.a h'.n h'.c) (.slice m'.a m'.n m'.c) (.slice (some ⟨B1, 0, none⟩) s.si.n k1) (.slice (some ⟨B2, 0, none⟩) s.so.n k2) (.slice (some ⟨B3, 0, none⟩) s.sf.n k3)
    have HR2 := OwnS.set7 HR.out HKX.out (.slice (some ⟨g0, 0, none⟩) s.on.n c0) (.slice .none 0 0) (.slice h'.a h'.n h'.c) (.slice m'.a m'.n m'.c) (.slice (some ⟨B1, 0, none⟩) s.si.n k1) (.slice (some ⟨B2, 0, none⟩) s.so.n k2) (.slice (some ⟨B3, 0, none⟩) s.sf.n k3)
    unfold set7 at KZ hb HR2
    generalize (((((((wk.setCell { block := BX, off := 0 } (Value.slice (some { block := g0, off := 0 }) s.on.n c0)).setCell { block := BX, off := 1 } (Value.slice none 0 0)).setCell { block := BX, off := 2 } (Value.slice h'.a h'.n h'.c)).setCell { block := BX, off := 3 } (Value.slice m'.a m'.n m'.c)).setCell { block := BX, off := 4 } (Value.slice (some { block := B1, off := 0 }) s.si.n k1)).setCell { block := BX, off := 5 } (Value.slice (some { block := B2, off := 0 }) s.so.n k2)).setCell { block := BX, off := 6 } (Value.slice (some { block := B3, off := 0 }) s.sf.n k3)) = WZ at *
    clear hX zf0 zc0 zf1 zc1 zf2 zc2 zf3 zc3 zf4 zc4 zf5 zc5 zf6 zc6 xl v23 h24
    refine ⟨Late.no (regrown_of_below hb), ?_⟩
    refine NoPanic.normal ?_
    go_wp2_with fail
    have HL0 : Hid (OwnL w.heap.size W0.heap.size s ⟨⟨some ⟨g0, 0, none⟩, s.on.n, c0, fun i => ⟨some ⟨Gr i, 0, none⟩, (s.on.r i).n, Cr i, (s.on.r i).z⟩⟩, ⟨none, 0, 0, fun _ => ⟨0, ⟨none, 0, 0, fun _ => ⟨0, 0, 0, 0⟩⟩⟩⟩, h', m', ⟨some ⟨B1, 0, none⟩, s.si.n, k1, s.si.z⟩, ⟨some ⟨B2, 0, none⟩, s.so.n, k2, s.so.z⟩, ⟨some ⟨B3, 0, none⟩, s.sf.n, k3, s.sf.z⟩⟩ BX 0 WZ) := ⟨.slice .none 0 0, fun _ => ⟨0, ⟨none, 0, 0, fun _ => ⟨0, 0, 0, 0⟩⟩⟩, KZ, World.ownsRow_nil _ _ _ _, fun i hi => absurd hi (Nat.not_lt_zero _), fun i j _ hj => absurd hj (Nat.not_lt_zero _), HR2⟩
    clear KZ HR HR2 HKX
    have os4 := HF.out.os4
    have ole := HS.out.os.le
    have ocap := HS.out.os.cap
    unfold maxLen at ocap
    go_loopw [4] (fun i wk => ∃ k : Nat, k ≤ s.os.n ∧ i = .int .i64 k ∧ Hid (OwnL w.heap.size W0.heap.size s ⟨⟨some ⟨g0, 0, none⟩, s.on.n, c0, fun i => ⟨some ⟨Gr i, 0, none⟩, (s.on.r i).n, Cr i, (s.on.r i).z⟩⟩, ⟨none, 0, 0, fun _ => ⟨0, ⟨none, 0, 0, fun _ => ⟨0, 0, 0, 0⟩⟩⟩⟩, h', m', ⟨some ⟨B1, 0, none⟩, s.si.n, k1, s.si.z⟩, ⟨some ⟨B2, 0, none⟩, s.so.n, k2, s.so.z⟩, ⟨some ⟨B3, 0, none⟩, s.sf.n, k3, s.sf.z⟩⟩ BX k wk) ∧ Below W0.heap.size W0 wk) (fun i _ => s.os.n - (intOf i).toNat)
    case atStart => exact ⟨0, Nat.zero_le _, rfl, HL0, hb⟩
    case round =>
      clear HL0 hb
      obtain ⟨k, hk, rfl, HL, hB⟩ := hrel
      obtain ⟨⟨lb, b0, b1, b2, b3, b4, b5, b6⟩, hz, hsk, hBw⟩ := HC.out wr hB
      by_cases hlt : k < s.os.n
      · obtain ⟨v, Ls, kX, ho, hln, hap, hOS⟩ := HL.out
        obtain ⟨bo, oo, hoa, hbo, y0, y1, hlk⟩ := hsk.os.ods k hlt
        have l3 := HF.out.lns k hlt
        have HG : Hid (wr.ownsRow W0.heap.size 51 2 v k (flatO k Ls) ∧ (∀ i, i < k → LineOK w.heap.size s Ls i wr) ∧ (∀ i j, i < j → j < k → (Ls i).ls.a ≠ (Ls j).ls.a) ∧ OwnS w.heap.size wr ⟨⟨some ⟨g0, 0, none⟩, s.on.n, c0, fun i => ⟨some ⟨Gr i, 0, none⟩, (s.on.r i).n, Cr i, (s.on.r i).z⟩⟩, ⟨none, 0, 0, fun _ => ⟨0, ⟨none, 0, 0, fun _ => ⟨0, 0, 0, 0⟩⟩⟩⟩, h', m', ⟨some ⟨B1, 0, none⟩, s.si.n, k1, s.si.z⟩, ⟨some ⟨B2, 0, none⟩, s.so.n, k2, s.so.z⟩, ⟨some ⟨B3, 0, none⟩, s.sf.n, k3, s.sf.z⟩⟩) := ⟨ho, hln, hap, hOS⟩
        have HX : Hid (Blk wr BX 31 7 (fun j => (#[.slice (some ⟨g0, 0, none⟩) s.on.n c0, v, .slice h'.a h'.n h'.c, .slice m'.a m'.n m'.c, .slice (some ⟨B1, 0, none⟩) s.si.n k1, .slice (some ⟨B2, 0, none⟩) s.so.n k2, .slice (some ⟨B3, 0, none⟩) s.sf.n k3] : Array Value).getD j default)) := kX
        have HLK : Hid ((s.os.z k).ls.At wr) := hlk
        have qk : (0 : Int) ≤ (k : Int) := by omega
        rw [hoa] at b1
        have r0 : ∀ d os, (grow (redrawn wr d) os).cell? ⟨BX, 1, none⟩ = some v := fun d os => cell_regrown (kX.cell (j := 1) (by decide)) d os
        have r1 : ∀ d os, (grow (redrawn wr d) os).cell? ⟨w.heap.size, 1, none⟩ = some (.slice (some ⟨bo, oo, none⟩) s.os.n s.os.c) := fun d os => cell_regrown b1 d os
        have r2 : ∀ d os, (grow (redrawn wr d) os).cell? ⟨bo, oo + k * 2, none⟩ = some (.int .i64 (s.os.z k).k) := fun d os => cell_regrown y0 d os
        have r3 : ∀ d os, (grow (redrawn wr d) os).cell? ⟨bo, oo + k * 2 + 1, none⟩ = some (.slice (s.os.z k).ls.a (s.os.z k).ls.n (s.os.z k).ls.c) := fun d os => cell_regrown y1 d os
        clear kX ho hln hap hOS hz hoa y0 y1 hlk b0 b2 b3 b4 b5 b6 hsk HL
        go_wp2_with fail
        refine wp_region_made6 (fun w' => ∃ p : Regrown, w' = grow (redrawn wr p.d) p.os) [0, 1, 2, 3, 4, 5, 6, 7, 9, 10, 11, 12, 13, 14] [8, 15, 16, 17] [(true, 18), (true, 19), (true, 20)] (by kernel_rfl) (by kernel_rfl) (by kernel_rfl) (by kernel_rfl) (by kernel_rfl) (by kernel_rfl) (by kernel_rfl) (by kernel_rfl) (by kernel_rfl) (regrown_of_below ((Below.refl _ _).drew)) ?_
        simp only [picks, List.drop_succ_cons, List.drop_zero, List.take_succ_cons, List.take_zero, List.cons_append, List.nil_append]
        repeat (go_big_quiet_step (fail))
        refine wpQuiet_nil ?_
        clear r0 r1 r2 r3
        refine ⟨fun j v g wk => match j with | 15 => DHs wr.heap.size 53 (s.os.z k).ls v g wk | 16 => D16 wr.heap.size (s.os.z k) v g wk | 17 => D17 wr.heap.size (s.os.z k) v g wk | _ => DE v g,
          List.forall_mem_cons.2 ⟨fun v g w w' _ h => h, List.forall_mem_cons.2 ⟨fun v g w w' hB h => DHs.below h hB, List.forall_mem_cons.2 ⟨fun v g w w' hB h => D16.below h hB, List.forall_mem_cons.2 ⟨fun v g w w' hB h => D17.below h hB, List.forall_mem_nil _⟩⟩⟩⟩,
          List.forall_mem_cons.2 ⟨fun v g w h => by obtain ⟨_, h1, _⟩ := h; rw [h1]; intro x hx; simp at hx, List.forall_mem_cons.2 ⟨fun v g w h => by obtain ⟨_, h1, _⟩ := h; rw [h1]; intro x hx; simp at hx, List.forall_mem_cons.2 ⟨fun v g w h => by obtain ⟨_, h1, _⟩ := h; rw [h1]; intro x hx; simp at hx, List.forall_mem_cons.2 ⟨fun v g w h => by obtain ⟨_, _, h1, _⟩ := h; rw [h1]; intro x hx; simp at hx, List.forall_mem_nil _⟩⟩⟩⟩,
          List.forall_mem_cons.2 ⟨?zt8, List.forall_mem_cons.2 ⟨?zt15, List.forall_mem_cons.2 ⟨?zt16, List.forall_mem_cons.2 ⟨?zt17, List.forall_mem_nil _⟩⟩⟩⟩, ?ztdone⟩
        case zt8 =>
          intro V G wk K hS hd hA hK
          have hX := below_of_regrown hS
          refine wpOp_list 8 rfl ?_
          simp only [putAll, dstOf, List.getElem?_toArray, List.getElem?_cons_succ, List.getElem?_cons_zero, Act.put, List.setIfInBounds_toArray, List.set_cons_succ, List.set_cons_zero] at hK ⊢
          go_wp2_with fail
          exact hK _ [] _ (regrown_of_below (hX.alloc hX.size _)) ((Below.refl _ _).alloc (Nat.le_refl _) _) (fun x hx => by simp at hx) ⟨wk.heap.size, rfl, rfl⟩
        case zt15 =>
          intro V G wk K hS hd hA hK
          have hX := below_of_regrown hS
          have q := hX.size
          obtain ⟨B, -, h3⟩ : DE (V 8) (G 8) := hd 8 (List.contains_iff_mem.1 (by kernel_rfl)) (by simp)
          refine wpOp_list 15 rfl ?_
          simp only [putAll, dstOf, List.getElem?_toArray, List.getElem?_cons_succ, List.getElem?_cons_zero, Act.put, List.setIfInBounds_toArray, List.set_cons_succ, List.set_cons_zero, h3] at hK ⊢
          go_wp2_with (at_builtin; refine wp_append_empty wk rfl (.tmp 44) (.tmp 50) 49 rfl 53 iL (.agg #[.int .i64 0, .int .i64 0, .int .i64 0, .int .i64 0]) 4 32 Try.underlying49 hL hL0 hL1 hL2 rfl (by decide) B rfl (s.os.z k).ls.a (s.os.z k).ls.n (s.os.z k).ls.c (flatH (s.os.z k).ls.n (s.os.z k).ls.z) rfl (by rw [flatH_len]) (hs_news (HLK.out.below hX)) (flatH_one _ _) (hs_none (HLK.out.below hX)) (by unfold maxLen; omega) (by omega) ?_ ?_)
          · intro h0
            exact absurd h0 (by omega)
          · intro h0 v' w1 hown hgrow
            have hB1 : Below wk.heap.size wk w1 := (Below.refl _ wk).grown hgrow (Nat.le_refl _) (by intro k hk; cases hk)
            obtain ⟨s', rfl, hc⟩ := cloned_grow (A := wr.heap.size) h0 hown (by omega)
            exact wpList_end (hK _ [] _ (regrown_of_below (hX.trans (hB1.mono hX.size))) hB1 (fun x hx => by simp at hx) ⟨s', rfl, rfl, hc⟩)
        case zt16 =>
          intro V G wk K hS hd hA hK
          obtain ⟨s', -, h15, hc⟩ : DHs wr.heap.size 53 (s.os.z k).ls (V 15) (G 15) wk := hd 15 (List.contains_iff_mem.1 (by kernel_rfl)) (by simp)
          have HCL : Hid (Cloned wr.heap.size 53 (s.os.z k).ls wk s') := hc
          clear hc
          refine wpOp_list 16 rfl ?_
          simp only [putAll, dstOf, List.getElem?_toArray, List.getElem?_cons_succ, List.getElem?_cons_zero, Act.put, List.setIfInBounds_toArray, List.set_cons_succ, List.set_cons_zero, h15] at hK ⊢
          go_wp2_with fail
          exact hK _ [] _ hS (Below.refl _ _) (fun x hx => by simp at hx) ⟨s', rfl, rfl, HCL.out⟩
        case zt17 =>
          intro V G wk K hS hd hA hK
          have hX := below_of_regrown hS
          obtain ⟨s', -, h16, hc⟩ : D16 wr.heap.size (s.os.z k) (V 16) (G 16) wk := hd 16 (List.contains_iff_mem.1 (by kernel_rfl)) (by simp)
          have HCL : Hid (Cloned wr.heap.size 53 (s.os.z k).ls wk s') := hc
          clear hc
          refine wpOp_list 17 rfl ?_
          simp only [putAll, dstOf, List.getElem?_toArray, List.getElem?_cons_succ, List.getElem?_cons_zero, Act.put, List.setIfInBounds_toArray, List.set_cons_succ, List.set_cons_zero, h16] at hK ⊢
          go_wp2_with fail
          have hBa := (Below.refl wk.heap.size wk).alloc (Nat.le_refl _) (.cells #[.int .i64 (s.os.z k).k, .slice s'.a s'.n s'.c] 51)
          exact hK _ [] _ (regrown_of_below (hX.alloc hX.size _)) ((Below.refl _ _).alloc (Nat.le_refl _) _) (fun x hx => by simp at hx) ⟨wk.heap.size, s', rfl, rfl, hX.size, Blk.mk' rfl rfl, HCL.out.1, HCL.out.2.1, HCL.out.2.2.1.below hBa, HCL.out.2.2.2.below hBa⟩
        case ztdone =>
          intro V G' wk hS hD hA
          obtain ⟨BO, s', -, h17, m17, k17, e1, e2, ⟨o1, o2, o3, o4⟩, -⟩ : D17 wr.heap.size (s.os.z k) (V 17) (G' 17) wk := hD 17 (by simp)
          have hX := below_of_regrown hS
          have ho := owns_below HG.out.1 hX
          have hBk := hB.trans (hX.mono hB.size)
          have q0 := hB.size
          have q1 := hX.size
          obtain ⟨gB, ea, hgB, kB⟩ := o4 (by omega)
          clear hS hD hA
          have HE : Hid (s'.n = (s.os.z k).ls.n ∧ (∀ j, j < (s.os.z k).ls.n → s'.z j = (s.os.z k).ls.z j) ∧ s'.a = some ⟨gB, 0, none⟩ ∧ s'.n ≤ s'.c ∧ s'.c ≤ maxLen) := ⟨e1, e2, ea, o1, o2⟩
          have HKB : Hid (Blk wk gB 53 (s'.n * 4) (fun j => (flatH s'.n s'.z).getD j default)) := kB
          clear e1 e2 ea o1 o2 o3 o4 kB
          simp only [putAll, dstOf, List.getElem?_toArray, List.getElem?_cons_succ, List.getElem?_cons_zero, Act.put, List.setIfInBounds_toArray, List.set_cons_succ, List.set_cons_zero, h17]
          refine wpSeq_one 18 rfl ?_
          go_wp2_with (at_builtin; refine wpList_append_own _ rfl (.tmp 37) (.tmp 53) 27 rfl W0.heap.size 51 iO (.agg #[.int .i64 0, .slice none 0 0]) 2 32 Try.underlying27 hO hO0 hO1 hO2 rfl (by decide) _ _ _ rfl ho ⟨BO, 0, none⟩ 1 1 [.int .i64 (s.os.z k).k, .slice s'.a s'.n s'.c] rfl rfl ?zc1 ?zc2 ?zc3 ?zc4 ?zc5 ?_)
          case zc1 =>
            intro j u hj
            match j, hj with
            | 0, hj => simp at hj; subst hj; exact k17.cell (j := 0) (by decide)
            | 1, hj => simp at hj; subst hj; exact k17.cell (j := 1) (by decide)
          case zc2 => intro u hu; simp at hu; rcases hu with rfl | rfl <;> rfl
          case zc3 => unfold maxLen; omega
          case zc4 => omega
          case zc5 => omega
          intro v2 w2 hown2 hgrow2 hnil2
          have hlt2 := ho.lt
          have hBW2 : Below W0.heap.size W0 w2 := hBk.grown hgrow2 (by omega) (fun q hq => (hlt2 q hq).1)
          have kX2 := grown_keep ho hgrow2 (HX.out.below hX) (by decide)
          have kB2 := grown_keep ho hgrow2 HKB.out (by decide)
          have hln2 : ∀ i, i < k → LineOK w.heap.size s Ls i w2 := fun i hi => by
            obtain ⟨x1, x2, x3, B, x4, x5, x6, x7, x8⟩ := HG.out.2.1 i hi
            exact ⟨x1, x2, x3, B, x4, x5, x6, x7, grown_keep ho hgrow2 (x8.below hX) (by decide)⟩
          have hap2 : ∀ i, i < k → (Ls i).ls.a ≠ some ⟨gB, 0, none⟩ := fun i hi e => by
            obtain ⟨x1, x2, x3, B, x4, x5, x6, x7, x8⟩ := HG.out.2.1 i hi
            rw [x4] at e
            simp only [Option.some.injEq, Addr.mk.injEq, and_true] at e
            have := x8.lt
            omega
          have hOS2 := OwnS.grownO (HG.out.2.2.2.below hX) rfl rfl ho hgrow2
          have hv2 : ∃ g c, v2 = .slice (some ⟨g, 0, none⟩) (k + 1) c := by
            rcases hown2.2 with ⟨_, h0⟩ | ⟨g2, cap2, cur2, rfl, _⟩
            · omega
            · exact ⟨g2, cap2, rfl⟩
          have xl := kX2.lt
          have zf0 := kX2.frozen 1
          have zc0 := kX2.cell (j := 1) (by decide)
          have hst := hBW2.setCell (p := ⟨BX, 1, none⟩) mX v2
          have KB := kX2.set 1 v2
          have HN : Hid (OwnL w.heap.size W0.heap.size s ⟨⟨some ⟨g0, 0, none⟩, s.on.n, c0, fun i => ⟨some ⟨Gr i, 0, none⟩, (s.on.r i).n, Cr i, (s.on.r i).z⟩⟩, ⟨none, 0, 0, fun _ => ⟨0, ⟨none, 0, 0, fun _ => ⟨0, 0, 0, 0⟩⟩⟩⟩, h', m', ⟨some ⟨B1, 0, none⟩, s.si.n, k1, s.si.z⟩, ⟨some ⟨B2, 0, none⟩, s.so.n, k2, s.so.z⟩, ⟨some ⟨B3, 0, none⟩, s.sf.n, k3, s.sf.z⟩⟩ BX (k + 1) (w2.setCell ⟨BX, 1, none⟩ v2)) := by
            refine ⟨v2, fun i => if i = k then ⟨(s.os.z k).k, s'⟩ else Ls i, KB.congr (fun j hj => by match j, hj with | 0, _ => rfl | 1, _ => rfl | 2, _ => rfl | 3, _ => rfl | 4, _ => rfl | 5, _ => rfl | 6, _ => rfl), ?_, fun i hi => ?_, fun i j hij hj => ?_, hOS2.box kX2 1 v2⟩
            · have e : flatO (k + 1) (fun i => if i = k then ⟨(s.os.z k).k, s'⟩ else Ls i) = flatO k Ls ++ [.int .i64 (s.os.z k).k, .slice s'.a s'.n s'.c] := by
                rw [flatO, flatO_congr (z' := Ls) fun i hi => by rw [if_neg (by omega)], if_pos rfl]
                rfl
              rw [e]
              exact owns_set hown2 kX2 (by decide) _ _
            · by_cases hik : i = k
              · subst hik
                unfold LineOK
                dsimp only
                rw [if_pos rfl]
                exact ⟨rfl, HE.out.1, HE.out.2.1, gB, HE.out.2.2.1, by omega, HE.out.2.2.2.1, HE.out.2.2.2.2, kB2.other (a := ⟨BX, 1, none⟩) (Blk.ne kB2 kX2 (by decide)) _⟩
              · unfold LineOK
                dsimp only
                rw [if_neg hik]
                obtain ⟨x1, x2, x3, B, x4, x5, x6, x7, x8⟩ := hln2 i (by omega)
                exact ⟨x1, x2, x3, B, x4, x5, x6, x7, x8.other (a := ⟨BX, 1, none⟩) (Blk.ne x8 kX2 (by decide)) _⟩
            · dsimp only
              by_cases hjk : j = k
              · subst hjk
                rw [if_neg (by omega), if_pos rfl, HE.out.2.2.1]
                exact hap2 i hij
              · rw [if_neg (by omega), if_neg hjk]
                exact HG.out.2.2.1 i j hij (by omega)
          clear kB2 hln2 hap2 hOS2 KB hown2 kX2 ho hgrow2 hnil2 hlt2 k17 hX HG HX hBk HKB HE
          obtain ⟨g2, c2, rfl⟩ := hv2
          refine wpList_end ⟨Late.yes, ?_⟩
          refine wpSeq_one 19 rfl ?_
          go_wp2_with fail
          refine ⟨Late.yes, ?_⟩
          refine wpSeq_one 20 rfl ?_
          go_wp2_with fail
          refine ⟨Late.yes, ?_⟩
          refine NoPanic.normal ?_
          go_wp2_with fail
          go_roundw
          case rel => exact ⟨k + 1, by omega, by go_num, HN, hst⟩
          case measure => simp [intOf]; omega
      · have hkn : k = s.os.n := by omega
        subst hkn
        obtain ⟨v, Ls, kX, ho, hln, hap, hOS⟩ := HL.out
        have hv : ∃ va vc, v = .slice va s.os.n vc ∧ s.os.n ≤ vc ∧ vc ≤ maxLen ∧ (0 < s.os.n → ∃ g, va = some ⟨g, 0, none⟩ ∧ w.heap.size ≤ g ∧ Blk wr g 51 (s.os.n * 2) (fun j => (flatO s.os.n Ls).getD j default)) := by
          by_cases hv0 : v = .slice none 0 0
          · have h0 : s.os.n = 0 := by
              rcases ho.2 with ⟨_, h0⟩ | ⟨g2, cap2, cur2, h, _⟩
              · exact h0
              · rw [hv0] at h; cases h
            exact ⟨none, 0, by rw [hv0, h0], by omega, Nat.zero_le _, fun h => by omega⟩
          · obtain ⟨g, c, rfl, h1, h2, h3, h4⟩ := Blk.ofOwns ho hv0
            exact ⟨some ⟨g, 0, none⟩, c, rfl, h1, h2, fun _ => ⟨g, rfl, by omega, h4⟩⟩
        obtain ⟨va, vc, rfl, v1, v2, v3⟩ := hv
        have v4 : Room w.heap.size wr 51 2 va vc := Room.ofOwns ho (by omega)
        have HR : Hid (OwnS w.heap.size wr ⟨⟨some ⟨g0, 0, none⟩, s.on.n, c0, fun i => ⟨some ⟨Gr i, 0, none⟩, (s.on.r i).n, Cr i, (s.on.r i).z⟩⟩, ⟨va, s.os.n, vc, Ls⟩, h', m', ⟨some ⟨B1, 0, none⟩, s.si.n, k1, s.si.z⟩, ⟨some ⟨B2, 0, none⟩, s.so.n, k2, s.so.z⟩, ⟨some ⟨B3, 0, none⟩, s.sf.n, k3, s.sf.z⟩⟩) :=
          ⟨hOS.on, hOS.rows, hOS.rapart, ⟨v1, v2, v3, fun i hi => (hln i hi).2.2.2, hap, v4⟩, hOS.hs, hOS.ms, hOS.msr, hOS.si, hOS.so, hOS.sf, hOS.aio, hOS.aif, hOS.aof, hOS.ari⟩
        have HCC : Hid (SameT ⟨⟨some ⟨g0, 0, none⟩, s.on.n, c0, fun i => ⟨some ⟨Gr i, 0, none⟩, (s.on.r i).n, Cr i, (s.on.r i).z⟩⟩, ⟨va, s.os.n, vc, Ls⟩, h', m', ⟨some ⟨B1, 0, none⟩, s.si.n, k1, s.si.z⟩, ⟨some ⟨B2, 0, none⟩, s.so.n, k2, s.so.z⟩, ⟨some ⟨B3, 0, none⟩, s.sf.n, k3, s.sf.z⟩⟩ s) :=
          ⟨⟨rfl, fun i hi => ⟨rfl, fun j hj => rfl⟩⟩, ⟨rfl, fun i hi => ⟨(hln i hi).1, (hln i hi).2.1, fun j hj => (hln i hi).2.2.1 j (by rw [← (hln i hi).2.1]; exact hj)⟩⟩, HCT.out.1, HCT.out.2, ⟨rfl, fun j hj => rfl⟩, ⟨rfl, fun j hj => rfl⟩, ⟨rfl, fun j hj => rfl⟩⟩
        have xl := kX.lt
        obtain ⟨x0, x1, x2, x3, x4, x5, x6⟩ := box_cells kX
        have HZ2 : Hid (Blk wr (w.heap.size + 1) 31 7 (fun _ => .slice .none 0 0)) := hz
        have zl := hz.lt
        have zf0 := hz.frozen 0
        have zc0 := hz.cell (j := 0) (by decide)
        have zf1 := hz.frozen 1
        have zc1 := hz.cell (j := 1) (by decide)
        have zf2 := hz.frozen 2
        have zc2 := hz.cell (j := 2) (by decide)
        have zf3 := hz.frozen 3
        have zc3 := hz.cell (j := 3) (by decide)
        have zf4 := hz.frozen 4
        have zc4 := hz.cell (j := 4) (by decide)
        have zf5 := hz.frozen 5
        have zc5 := hz.cell (j := 5) (by decide)
        have zf6 := hz.frozen 6
        have zc6 := hz.cell (j := 6) (by decide)
        clear hz kX ho hln hap hOS v1 v2 v3 v4 HL hsk b0 b2 b3 b4 b5 b6
        go_wp2_with fail
        have KZ := set7_blk HZ2.out (.slice (some ⟨g0, 0, none⟩) s.on.n c0) (.slice va s.os.n vc) (.slice h'.a h'.n h'.c) (.slice m'.a m'.n m'.c) (.slice (some ⟨B1, 0, none⟩) s.si.n k1) (.slice (some ⟨B2, 0, none⟩) s.so.n k2) (.slice (some ⟨B3, 0, none⟩) s.sf.n k3)
        have hbz := set7_below (b := w.heap.size + 1) hBw (by omega) (.slice (some ⟨g0, 0, none⟩) s.on.n c0) (.slice va s.os.n vc) (.slice h'.a h'.n h'.c) (.slice m'.a m'.n m'.c) (.slice (some ⟨B1, 0, none⟩) s.si.n k1) (.slice (some ⟨B2, 0, none⟩) s.so.n k2) (.slice (some ⟨B3, 0, none⟩) s.sf.n k3)
        have HR2 := OwnS.set7 HR.out HZ2.out (.slice (some ⟨g0, 0, none⟩) s.on.n c0) (.slice va s.os.n vc) (.slice h'.a h'.n h'.c) (.slice m'.a m'.n m'.c) (.slice (some ⟨B1, 0, none⟩) s.si.n k1) (.slice (some ⟨B2, 0, none⟩) s.so.n k2) (.slice (some ⟨B3, 0, none⟩) s.sf.n k3)
        unfold set7 at KZ hbz HR2
        generalize (((((((wr.setCell { block := w.heap.size + 1, off := 0 } (Value.slice (some { block := g0, off := 0 }) s.on.n c0)).setCell { block := w.heap.size + 1, off := 1 } (Value.slice va s.os.n vc)).setCell { block := w.heap.size + 1, off := 2 } (Value.slice h'.a h'.n h'.c)).setCell { block := w.heap.size + 1, off := 3 } (Value.slice m'.a m'.n m'.c)).setCell { block := w.heap.size + 1, off := 4 } (Value.slice (some { block := B1, off := 0 }) s.si.n k1)).setCell { block := w.heap.size + 1, off := 5 } (Value.slice (some { block := B2, off := 0 }) s.so.n k2)).setCell { block := w.heap.size + 1, off := 6 } (Value.slice (some { block := B3, off := 0 }) s.sf.n k3)) = WY at *
        obtain ⟨c0', c1', c2', c3', c4', c5', c6'⟩ := box_cells KZ
        have HQ : Hid (OwnS w.heap.size WY ⟨⟨some ⟨g0, 0, none⟩, s.on.n, c0, fun i => ⟨some ⟨Gr i, 0, none⟩, (s.on.r i).n, Cr i, (s.on.r i).z⟩⟩, ⟨va, s.os.n, vc, Ls⟩, h', m', ⟨some ⟨B1, 0, none⟩, s.si.n, k1, s.si.z⟩, ⟨some ⟨B2, 0, none⟩, s.so.n, k2, s.so.z⟩, ⟨some ⟨B3, 0, none⟩, s.sf.n, k3, s.sf.z⟩⟩) := HR2
        refine bodyPost_ret (v := (⟨⟨some ⟨g0, 0, none⟩, s.on.n, c0, fun i => ⟨some ⟨Gr i, 0, none⟩, (s.on.r i).n, Cr i, (s.on.r i).z⟩⟩, ⟨va, s.os.n, vc, Ls⟩, h', m', ⟨some ⟨B1, 0, none⟩, s.si.n, k1, s.si.z⟩, ⟨some ⟨B2, 0, none⟩, s.so.n, k2, s.so.z⟩, ⟨some ⟨B3, 0, none⟩, s.sf.n, k3, s.sf.z⟩⟩ : St).val) (by simp [results, Try.results51, go_sem, St.val, c0', c1', c2', c3', c4', c5', c6']) rfl ?_
        exact ⟨_, rfl, HCC.out, HQ.out, hbz⟩

end Go.Proofs.Ytjiodlbblmbibac

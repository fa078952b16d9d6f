/- Orders that are copied. -/
import Derived.Test.YtjiodlbblmbibacCL
import Derived.Test.YtjiodlbblmbibacS
namespace Go.Proofs.Ytjiodlbblmbibac
open Go.RowKit Go.Shelf
set_option linter.unusedVariables false

def odCells (x : Od) : List Value := [.int .i64 x.k, .slice x.ls.a x.ls.n x.ls.c]
def flatO : Nat → (Nat → Od) → List Value
  | 0, _ => []
  | n + 1, z => flatO n z ++ odCells (z n)
theorem flatO_len : ∀ (n : Nat) (z : Nat → Od), (flatO n z).length = n * 2
  | 0, _ => rfl
  | n + 1, z => by rw [flatO, List.length_append, flatO_len n z]; simp [odCells]; omega
theorem flatO_get : ∀ (n : Nat) (z : Nat → Od) (i c : Nat), i < n → c < 2 → (flatO n z)[i * 2 + c]? = (odCells (z i))[c]?
  | 0, _, i, c, hi, _ => absurd hi (Nat.not_lt_zero _)
  | n + 1, z, i, c, hi, hc => by
    rw [flatO]
    by_cases h : i = n
    · subst h
      rw [List.getElem?_append_right (by rw [flatO_len]; omega), flatO_len]
      congr 1
      omega
    · rw [List.getElem?_append_left (by rw [flatO_len]; omega)]
      exact flatO_get n z i c (by omega) hc
theorem flatO_at {n : Nat} {z : Nat → Od} {i c : Nat} (hi : i < n) (hc : c < 2) : (flatO n z).getD (i * 2 + c) default = (odCells (z i)).getD c default := by
  simp only [List.getD, flatO_get n z i c hi hc]
theorem flatO_one : ∀ (n : Nat) (z : Nat → Od), ∀ u ∈ flatO n z, u.oneCell' = true
  | 0, _, u, hu => by simp [flatO] at hu
  | n + 1, z, u, hu => by
    rw [flatO, List.mem_append] at hu
    rcases hu with hu | hu
    · exact flatO_one n z u hu
    · simp only [odCells, List.mem_cons, List.not_mem_nil, or_false] at hu
      rcases hu with rfl | rfl <;> rfl
theorem OdsAt.news {w : World} {b o n : Nat} {z : Nat → Od} (h : OdsAt w (some ⟨b, o, none⟩) n z) : ∀ j u, (flatO n z)[j]? = some u → w.cell? ((⟨b, o, none⟩ : Addr).add j) = some u := by
  intro j u hj
  have hlen := (List.getElem?_eq_some_iff.1 hj).1
  rw [flatO_len] at hlen
  obtain ⟨b', o', he, hb, h0, h1, -⟩ := h (j / 2) (by omega)
  simp only [Option.some.injEq, Addr.mk.injEq, and_true] at he
  obtain ⟨rfl, rfl⟩ := he
  rw [Go.WideShapes.add_plain]
  have hd : j = j / 2 * 2 + j % 2 := by omega
  rw [hd, flatO_get n z (j / 2) (j % 2) (by omega) (by omega)] at hj
  have h2 : j % 2 = 0 ∨ j % 2 = 1 := by omega
  rcases h2 with h2 | h2
  · rw [h2] at hj; simp [odCells] at hj; rw [← hj, ← h0]; congr 2; omega
  · rw [h2] at hj; simp [odCells] at hj; rw [← hj, ← h1]; congr 2; omega

theorem infoOrderC : (Try.prog.info? 51).map (fun i => (i.zero, i.size, i.bytes)) = some (some (.agg #[.int .i64 0, .slice none 0 0]), 2, 32) := by kernel_rfl

def ClonedO (s : Os) (A : Nat) (w' : World) (a' : Option Addr) (c' : Nat) : Prop := s.n ≤ c' ∧ c' ≤ maxLen ∧ (0 < s.n → ∃ g, a' = some ⟨g, 0, none⟩ ∧ A ≤ g ∧ Blk w' g 51 (s.n * 2) (fun j => (flatO s.n s.z).getD j default)) ∧ Room A w' 51 2 a' c'

set_option maxRecDepth 100000 in
set_option maxHeartbeats 1000000 in
theorem CloneOrder_any (s : Os) (w : World) (hs : s.At w) (hn : s.n ≤ 1000) :
    Calls Try.prog 114 #[s.val] w fun e w' => ∃ a' c', e = .returned (.slice a' s.n c') ∧ ClonedO s w.heap.size w' a' c' ∧ Below w.heap.size w w' := by
  obtain ⟨sle, scap, sh⟩ := hs
  obtain ⟨sa, sn, sc, sz⟩ := s
  dsimp only at sle scap sh hn
  simp only [Os.val]
  obtain ⟨i0, hi, hz0, hz1, hz2⟩ := info_parts infoOrderC
  have q22 : ∀ (w : World) (a : Option Addr) (n c n' c' : Nat), (binOp .eql 27 (.slice a n c) (.slice none n' c')).run Try.prog w = .ok (.bool a.isNone) w := fun w a n c n' c' => Lib.run_eql_slice_nil w _ _ a n c n' c' Try.underlying27
  cases sa with
  | none =>
    have hn0 : sn = 0 := by
      rcases Nat.eq_zero_or_pos sn with h | h
      · exact h
      · obtain ⟨b, o, he, _⟩ := sh 0 h
        cases he
    subst hn0
    go_enter Try.func114, Try.ntmps114
    go_wp2
    go_ret
    exact ⟨none, 0, rfl, ⟨Nat.le_refl _, Nat.zero_le _, fun h => absurd h (Nat.lt_irrefl _), Or.inl rfl⟩, Below.refl _ _⟩
  | some ad =>
    have HN : Hid (∀ j u, (flatO sn sz)[j]? = some u → w.cell? (ad.add j) = some u ∧ (ad.add j).block < w.heap.size) := fun j u hj => by
      have hlen := (List.getElem?_eq_some_iff.1 hj).1
      rw [flatO_len] at hlen
      obtain ⟨b, o, he, hb, -⟩ := sh 0 (by omega)
      simp only [Option.some.injEq] at he
      subst he
      exact ⟨OdsAt.news sh j u hj, by rw [Go.WideShapes.add_plain]; exact hb⟩
    clear sh
    go_enter Try.func114, Try.ntmps114
    go_wp2_with (at_builtin; refine wpList_append_own _ rfl _ _ 27 rfl w.heap.size 51 i0 (.agg #[.int .i64 0, .slice none 0 0]) 2 32 Try.underlying27 hi hz0 hz1 hz2 rfl (by decide) _ _ _ rfl (World.ownsRow_made w #[] 0 (Nat.le_refl _) (Nat.zero_le _) rfl) ad sn sc (flatO sn sz) rfl ?qc1 ?qc2 ?qc3 ?qc4 ?qc5 ?qc6 ?_)
    case qc1 => rw [flatO_len]
    case qc2 =>
      intro j u hj
      have := HN.out j u hj
      rw [((Below.refl w.heap.size w).alloc (Nat.le_refl _) _).cell (p := ad.add j) this.2]
      exact this.1
    case qc3 => exact flatO_one sn sz
    case qc4 => unfold maxLen; omega
    case qc5 => omega
    case qc6 => simp
    intro v' w1 hown hgrow hnil
    have hB : Below w.heap.size w w1 := ((Below.refl _ w).alloc (Nat.le_refl _) _).grown hgrow (by simp) (by intro k hk; simp [Value.ownBlock] at hk; omega)
    obtain ⟨g, c', rfl, h1, h2, h3, h4⟩ := Blk.ofOwns hown hnil
    have hroom := Room.ofOwns hown (Nat.le_refl _)
    clear hown hgrow hnil
    have HR : Hid (ClonedO ⟨some ad, sn, sc, sz⟩ w.heap.size w1 (some ⟨g, 0, none⟩) c') := ⟨h1, h2, fun _ => ⟨g, rfl, h3, h4⟩, hroom⟩
    clear h4 hroom
    go_wp2
    go_ret
    exact ⟨some ⟨g, 0, none⟩, c', rfl, HR.out, hB⟩

/-- Orders of the call's own: list and lines lie in blocks of their own types, new since A, no two lists of lines in one. -/
structure OwnO (A : Nat) (w : World) (s : Os) : Prop where
  le : s.n ≤ s.c
  cap : s.c ≤ maxLen
  list : 0 < s.n → ∃ g, s.a = some ⟨g, 0, none⟩ ∧ A ≤ g ∧ Blk w g 51 (s.n * 2) (fun j => (flatO s.n s.z).getD j default)
  lines : ∀ i, i < s.n → ∃ B, (s.z i).ls.a = some ⟨B, 0, none⟩ ∧ A ≤ B ∧ (s.z i).ls.n ≤ (s.z i).ls.c ∧ (s.z i).ls.c ≤ maxLen ∧ Blk w B 53 ((s.z i).ls.n * 4) (fun j => (flatH (s.z i).ls.n (s.z i).ls.z).getD j default)
  apart : ∀ i j, i < j → j < s.n → (s.z i).ls.a ≠ (s.z j).ls.a
  room : Room A w 51 2 s.a s.c
theorem OwnO.at {A : Nat} {w : World} {s : Os} (h : OwnO A w s) : s.At w := by
  refine ⟨h.le, h.cap, fun i hi => ?_⟩
  obtain ⟨g, ha, hA, hb⟩ := h.list (by omega)
  obtain ⟨B, hl, hA2, l1, l2, hb2⟩ := h.lines i hi
  have c0 := hb.cell (j := i * 2) (by omega)
  have c1 := hb.cell (j := i * 2 + 1) (by omega)
  have e0 := flatO_at (z := s.z) hi (show 0 < 2 by decide)
  have e1 := flatO_at (z := s.z) hi (show 1 < 2 by decide)
  rw [Nat.add_zero] at e0
  rw [e0] at c0
  rw [e1] at c1
  refine ⟨g, 0, ha, hb.lt, by rw [Nat.zero_add]; exact c0, by rw [Nat.zero_add]; exact c1, ?_⟩
  exact OwnH.at (A := A) (e := 53) ⟨l1, l2, (fun e => by rw [hl] at e; cases e), fun _ => ⟨B, hl, hA2, hb2⟩⟩
/-- The same orders. -/
def SameO (s t : Os) : Prop := s.n = t.n ∧ ∀ i, i < s.n → (s.z i).k = (t.z i).k ∧ (s.z i).ls.n = (t.z i).ls.n ∧ ∀ j, j < (s.z i).ls.n → (s.z i).ls.z j = (t.z i).ls.z j

/-- Orders, the lines of the first k of which have been copied. -/
def mixO (s : Os) (k : Nat) (B C : Nat → Nat) (i : Nat) : Od := if i < k then ⟨(s.z i).k, ⟨some ⟨B i, 0, none⟩, (s.z i).ls.n, C i, (s.z i).ls.z⟩⟩ else s.z i
def CopL (s : Os) (A : Nat) (a' : Option Addr) (c' k : Nat) (wk : World) : Prop := Room A wk 51 2 a' c' ∧ ∃ B C : Nat → Nat, (0 < s.n → ∃ g, a' = some ⟨g, 0, none⟩ ∧ A ≤ g ∧ Blk wk g 51 (s.n * 2) (fun j => (flatO s.n (mixO s k B C)).getD j default)) ∧
  (∀ i, i < k → A ≤ B i ∧ (s.z i).ls.n ≤ C i ∧ C i ≤ maxLen ∧ Blk wk (B i) 53 ((s.z i).ls.n * 4) (fun j => (flatH (s.z i).ls.n (s.z i).ls.z).getD j default)) ∧ (∀ i j, i < j → j < k → B i < B j)
theorem flatO_congr : ∀ {n : Nat} {z z' : Nat → Od}, (∀ i, i < n → odCells (z i) = odCells (z' i)) → flatO n z = flatO n z'
  | 0, _, _, _ => rfl
  | n + 1, z, z', h => by rw [flatO, flatO, flatO_congr (n := n) fun i hi => h i (by omega), h n (by omega)]

theorem mix_step {s : Os} {k : Nat} {B C : Nat → Nat} {gB cB : Nat} (hk : k < s.n) (j : Nat) (hj : j < s.n * 2) :
    (if j = k * 2 + 1 then Value.slice (some ⟨gB, 0, none⟩) (s.z k).ls.n cB else (flatO s.n (mixO s k B C)).getD j default) = (flatO s.n (mixO s (k + 1) (fun i => if i = k then gB else B i) (fun i => if i = k then cB else C i))).getD j default := by
  have hd : j = j / 2 * 2 + j % 2 := by omega
  have h2 : j % 2 = 0 ∨ j % 2 = 1 := by omega
  have hi : j / 2 < s.n := by omega
  have e1 := flatO_at (z := mixO s k B C) hi (show j % 2 < 2 by omega)
  have e2 := flatO_at (z := mixO s (k + 1) (fun i => if i = k then gB else B i) (fun i => if i = k then cB else C i)) hi (show j % 2 < 2 by omega)
  rw [← hd] at e1 e2
  rw [e1, e2]
  by_cases hjk : j / 2 = k
  · have m1 : mixO s k B C (j / 2) = s.z k := by unfold mixO; rw [if_neg (by omega), hjk]
    have m2 : mixO s (k + 1) (fun i => if i = k then gB else B i) (fun i => if i = k then cB else C i) (j / 2) = ⟨(s.z k).k, ⟨some ⟨gB, 0, none⟩, (s.z k).ls.n, cB, (s.z k).ls.z⟩⟩ := by unfold mixO; rw [if_pos (by omega)]; simp [hjk]
    rw [m1, m2]
    rcases h2 with h2 | h2
    · rw [if_neg (by omega), h2]; rfl
    · rw [if_pos (by omega), h2]; rfl
  · rw [if_neg (by omega)]
    have m : mixO s k B C (j / 2) = mixO s (k + 1) (fun i => if i = k then gB else B i) (fun i => if i = k then cB else C i) (j / 2) := by
      unfold mixO
      by_cases hlt : j / 2 < k
      · rw [if_pos hlt, if_pos (by omega)]; simp [hjk]
      · rw [if_neg hlt, if_neg (by omega)]
    rw [m]

set_option maxRecDepth 100000 in
set_option maxHeartbeats 2000000 in
theorem copyOrders_any (s : Os) (w : World) (hs : s.At w) (hn : s.n ≤ 1000) (hl : ∀ i, i < s.n → 1 ≤ (s.z i).ls.n ∧ (s.z i).ls.n ≤ 3) :
    Calls Try.prog 89 #[s.val] w fun e w' => ∃ s' : Os, e = .returned s'.val ∧ SameO s' s ∧ OwnO w.heap.size w' s' ∧ Below w.heap.size w w' := by
  have HS : Hid (s.At w) := hs
  have HL : Hid (∀ i, i < s.n → 1 ≤ (s.z i).ls.n ∧ (s.z i).ls.n ≤ 3) := hl
  have sle := hs.le
  have scap := hs.cap
  unfold maxLen at scap
  clear hs hl
  simp only [Os.val]
  go_enter Try.func89, Try.ntmps89
  go_wp2_with fail
  refine (CloneOrder_any s w HS.out hn).mono ?_
  rintro e w1 ⟨a', c', rfl, hcl, hB1⟩
  have HCL : Hid (ClonedO s w.heap.size w1 a' c') := hcl
  clear hcl
  have c1 := HCL.out.1
  have c2 := HCL.out.2.1
  unfold maxLen at c2
  go_wp2_with fail
  go_loopw [10] (fun i wk => ∃ k : Nat, k ≤ s.n ∧ i = .int .i64 k ∧ Hid (CopL s w.heap.size a' c' k wk) ∧ Below w.heap.size w wk) (fun i _ => s.n - (intOf i).toNat)
  case atStart =>
    refine ⟨0, Nat.zero_le _, rfl, ⟨HCL.out.2.2.2, fun _ => 0, fun _ => 0, fun h => ?_, fun i hi => absurd hi (Nat.not_lt_zero _), fun i j _ hj => absurd hj (Nat.not_lt_zero _)⟩, hB1⟩
    obtain ⟨g, e1, e2, e3⟩ := HCL.out.2.2.1 h
    exact ⟨g, e1, e2, e3.congr (fun j hj => by rw [flatO_congr (z' := mixO s 0 (fun _ => 0) (fun _ => 0)) fun i hi => by unfold mixO; rw [if_neg (by omega)]])⟩
  case round =>
    clear hB1
    obtain ⟨k, hk, rfl, HG, hB⟩ := hrel
    by_cases hlt : k < s.n
    · obtain ⟨b, o, hoa, hb, z0, z1, hlk⟩ := (HS.out.below hB).ods k hlt
      have qk : (0 : Int) ≤ (k : Int) := by omega
      obtain ⟨hroom, B, C, hgl, hrow, hinc⟩ := HG.out
      have HRM : Hid (Room w.heap.size wr 51 2 a' c') := hroom
      obtain ⟨g, ha', hA, gb⟩ := hgl (by omega)
      have HR : Hid ((∀ i, i < k → w.heap.size ≤ B i ∧ (s.z i).ls.n ≤ C i ∧ C i ≤ maxLen ∧ Blk wr (B i) 53 ((s.z i).ls.n * 4) (fun j => (flatH (s.z i).ls.n (s.z i).ls.z).getD j default)) ∧ (∀ i j, i < j → j < k → B i < B j) ∧ a' = some ⟨g, 0, none⟩) := ⟨hrow, hinc, ha'⟩
      have HGB : Hid (Blk wr g 51 (s.n * 2) (fun j => (flatO s.n (mixO s k B C)).getD j default)) := gb
      have hn3 := HL.out k hlt
      have hBa := (Below.refl wr.heap.size wr).alloc (Nat.le_refl _) (.cells #[.int .i64 (s.z k).k, .slice (s.z k).ls.a (s.z k).ls.n (s.z k).ls.c] 51)
      have hlk2 := hlk.below hBa
      rw [hoa, ha']
      clear hoa ha' hgl hrow hinc gb HG hlk hroom
      go_wp2_with fail
      refine (CloneLine_any (s.z k).ls _ hlk2 (by omega)).mono ?_
      rintro e w2 ⟨s', rfl, hcl, hB2⟩
      obtain ⟨sa', sn', sc', sz'⟩ := s'
      obtain ⟨e1, e2, ⟨o1, o2, o3, o4⟩, -⟩ := hcl
      dsimp only at e1 e2 o1 o2 o3 o4
      subst e1
      obtain ⟨gB, e3, hgB, kB⟩ := o4 (by omega)
      subst e3
      have kB2 : Blk w2 gB 53 ((s.z k).ls.n * 4) (fun j => (flatH (s.z k).ls.n (s.z k).ls.z).getD j default) := kB.congr (fun j hj => by rw [flatH_congr e2])
      have hB12 := hBa.trans (hB2.mono hBa.size)
      have gb2 := HGB.out.below hB12
      have hsz := hBa.size
      have hf := gb2.frozen (k * 2 + 1)
      have hc := gb2.cell (j := k * 2 + 1) (by omega)
      rw [flatO_at (z := mixO s k B C) hlt (show 1 < 2 by decide)] at hc
      have hm : mixO s k B C k = s.z k := by unfold mixO; rw [if_neg (by omega)]
      rw [hm] at hc
      have hc2 : w2.cell? ⟨g, k * 2 + 1, none⟩ = some (.slice (s.z k).ls.a (s.z k).ls.n (s.z k).ls.c) := hc
      have hlg := gb2.lt
      have hBw2 := hB.trans (hB12.mono hB.size)
      have KB := gb2.set (k * 2 + 1) (.slice (some ⟨gB, 0, none⟩) (s.z k).ls.n sc')
      have HN : Hid (CopL s w.heap.size (some ⟨g, 0, none⟩) c' (k + 1) (w2.setCell ⟨g, k * 2 + 1, none⟩ (.slice (some ⟨gB, 0, none⟩) (s.z k).ls.n sc')) ∧ Below w.heap.size w (w2.setCell ⟨g, k * 2 + 1, none⟩ (.slice (some ⟨gB, 0, none⟩) (s.z k).ls.n sc'))) := by
        refine ⟨⟨(by have h := (HRM.out.below hB12).set g (k * 2 + 1) (.slice (some ⟨gB, 0, none⟩) (s.z k).ls.n sc'); rw [HR.out.2.2] at h; exact h), fun i => if i = k then gB else B i, fun i => if i = k then sc' else C i, fun _ => ⟨g, rfl, hA, KB.congr (fun j hj => mix_step hlt j hj)⟩, fun i hi => ?_, fun i j hij hj => ?_⟩, hBw2.setCell (p := ⟨g, k * 2 + 1, none⟩) hA _⟩
        · dsimp only
          by_cases hik : i = k
          · subst hik
            rw [if_pos rfl, if_pos rfl]
            exact ⟨by have := hB.size; omega, o1, o2, kB2.other (a := ⟨g, i * 2 + 1, none⟩) (Blk.ne2 kB2 gb2 (by decide)) _⟩
          · rw [if_neg hik, if_neg hik]
            obtain ⟨r1, r2, r3, r4⟩ := HR.out.1 i (by omega)
            have r5 := r4.below hB12
            exact ⟨r1, r2, r3, r5.other (a := ⟨g, k * 2 + 1, none⟩) (Blk.ne2 r5 gb2 (by decide)) _⟩
        · dsimp only
          by_cases hjk : j = k
          · subst hjk
            rw [if_neg (by omega), if_pos rfl]
            have := (HR.out.1 i hij).2.2.2.lt
            omega
          · rw [if_neg (by omega), if_neg hjk]
            exact HR.out.2.1 i j hij (by omega)
      clear KB kB kB2 gb2 hc hm hB12 HGB hB2 hlk2 hBw2
      simp only [Hs.val]
      go_wp2_with fail
      go_roundw
      case rel => exact ⟨k + 1, by omega, by go_num, HN.out.1, HN.out.2⟩
      case measure => simp [intOf]; omega
    · have hkn : k = s.n := by omega
      subst hkn
      go_wp2_with fail
      go_ret
      obtain ⟨hroom, B, C, hgl, hrow, hinc⟩ := HG.out
      refine ⟨⟨a', s.n, c', mixO s s.n B C⟩, rfl, ⟨rfl, fun i hi => ?_⟩, ⟨c1, HCL.out.2.1, hgl, fun i hi => ?_, fun i j hij hj => ?_, hroom⟩, hB⟩
      · have hi' : i < s.n := hi
        have m : mixO s s.n B C i = ⟨(s.z i).k, ⟨some ⟨B i, 0, none⟩, (s.z i).ls.n, C i, (s.z i).ls.z⟩⟩ := by unfold mixO; rw [if_pos hi']
        show (mixO s s.n B C i).k = _ ∧ (mixO s s.n B C i).ls.n = _ ∧ _
        rw [m]
        exact ⟨rfl, rfl, fun j _ => by show (mixO s s.n B C i).ls.z j = _; rw [m]⟩
      · have hi' : i < s.n := hi
        have m : mixO s s.n B C i = ⟨(s.z i).k, ⟨some ⟨B i, 0, none⟩, (s.z i).ls.n, C i, (s.z i).ls.z⟩⟩ := by unfold mixO; rw [if_pos hi']
        show ∃ B', (mixO s s.n B C i).ls.a = _ ∧ _ ∧ (mixO s s.n B C i).ls.n ≤ (mixO s s.n B C i).ls.c ∧ (mixO s s.n B C i).ls.c ≤ maxLen ∧ Blk _ B' _ ((mixO s s.n B C i).ls.n * 4) (fun j => (flatH (mixO s s.n B C i).ls.n (mixO s s.n B C i).ls.z).getD j default)
        rw [m]
        obtain ⟨r1, r2, r3, r4⟩ := hrow i hi'
        exact ⟨B i, rfl, r1, r2, r3, r4⟩
      · have hj' : j < s.n := hj
        show (mixO s s.n B C i).ls.a ≠ (mixO s s.n B C j).ls.a
        unfold mixO
        rw [if_pos (by omega), if_pos hj']
        have := hinc i j hij hj'
        simp only [ne_eq, Option.some.injEq, Addr.mk.injEq, and_true]
        omega

end Go.Proofs.Ytjiodlbblmbibac

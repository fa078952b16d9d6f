/- Texts that were built one behind the other, joined. -/
import Derived.Test.YtjiodlbblmbibacR5
import Derived.Test.YtjiodlbblmbibacCS
import Derived.ArgAppend
import Derived.Deep.Upon
import Derived.Test.YtjiodlbblmbibacSW10
import Derived.Test.YtjiodlbblmbibacW10
import Derived.Test.YtjiodlbblmbibacRS6
import Derived.Test.YtjiodlbblmbibacSW5
import Derived.Test.YtjiodlbblmbibacHW3
import Derived.Test.YtjiodlbblmbibacRS3
import Derived.Test.YtjiodlbblmbibacRV1
import Derived.Test.YtjiodlbblmbibacW6
import Derived.Test.YtjiodlbblmbibacSW2
/- As R5; and what an operation waits for is told to lie apart. No program in it. -/
namespace Go.Proofs.Ytjiodlbblmbibac
open Go.RowKit
set_option linter.unusedVariables false

theorem made_aux6 {P : Program} {ops : Array Oper} {Q : Exit → Act → World → Prop} {S : World → Prop} {T : Nat → Bool} {rem : List Nat} {L : Array Bool} {a1 : Act} {D : Nat → Value → List Nat → World → Prop} {fuel : Nat} (hB : madeB5 ops rem L = true) (hT : ∀ r ∈ rem, T r = false)
    (mono : ∀ j ∈ rem, ∀ v g w w', Below w.heap.size w w' → D j v g w → D j v g w') (lt : ∀ j ∈ rem, ∀ v g w, D j v g w → ∀ x ∈ g, x < w.heap.size)
    (step : ∀ i ∈ rem, ∀ (V : Nat → Value) (G : Nat → List Nat) (w : World) (K : Act → World → Prop), S w → (∀ d ∈ depsOf ops i, d ∈ rem → D d (V d) (G d) w) → (∀ d ∈ depsOf ops i, ∀ k ∈ depsOf ops i, d ∈ rem → k ∈ rem → d ≠ k → ∀ x ∈ G d, x ∉ G k) →
      (∀ v g w', S w' → Below w.heap.size w w' → (∀ x ∈ g, w.heap.size ≤ x) → D i v g w' → K ((putAll ops rem V a1).put (dstOf ops i) v) w') → wpOp P ops Q i K (putAll ops rem V a1) w)
    (done : ∀ (V : Nat → Value) (G : Nat → List Nat) (w : World), S w → (∀ j ∈ rem, D j (V j) (G j) w) → (∀ j ∈ rem, ∀ k ∈ rem, j ≠ k → ∀ x ∈ G j, x ∉ G k) → wpAnyT P ops Q S T fuel (mark L rem) (putAll ops rem V a1) w) :
    ∀ (m : Nat) (listed : Array Bool) (V : Nat → Value) (G : Nat → List Nat) (w : World), (rem.filter (fun r => !listed.getD r true)).length = m → listed.size = ops.size → (∀ j, j ∉ rem → listed[j]? = L[j]?) → Closed ops listed → S w → (∀ j ∈ rem, listed.getD j true = true → D j (V j) (G j) w) →
      (∀ j ∈ rem, ∀ k ∈ rem, listed.getD j true = true → listed.getD k true = true → j ≠ k → ∀ x ∈ G j, x ∉ G k) → wpAnyT P ops Q S T (m + fuel) listed (putAll ops rem V a1) w := by
  simp only [madeB5, Bool.and_eq_true, decide_eq_true_eq] at hB
  obtain ⟨⟨⟨⟨hoth, htopo⟩, hrem⟩, hLs⟩, hnd⟩ := hB
  have hrem' : ∀ r ∈ rem, r < ops.size ∧ L.getD r true = false := fun r hr => by
    have := List.all_eq_true.1 hrem r hr
    simpa using this
  intro m
  induction m with
  | zero =>
    intro listed V G w hm hsz hag hcl hS hD hA
    have hall : ∀ r ∈ rem, listed.getD r true = true := fun r hr => by
      cases hq : listed.getD r true
      · have : r ∈ rem.filter (fun r => !listed.getD r true) := List.mem_filter.2 ⟨hr, by simp [hq]⟩
        rw [List.length_eq_zero_iff.1 hm] at this
        simp at this
      · rfl
    have hl : listed = mark L rem := by
      apply Array.ext_getElem?
      intro j
      by_cases hj : j < L.size
      · rw [mark_get rem L j hj]
        by_cases hjr : j ∈ rem
        · rw [if_pos hjr]
          have h1 := hall j hjr
          have h2 : j < listed.size := by omega
          simp only [Array.getD, h2, dif_pos] at h1
          simp [h2]
          exact h1
        · rw [if_neg hjr]; exact hag j hjr
      · rw [Array.getElem?_eq_none (by omega), Array.getElem?_eq_none (by rw [mark_size]; omega)]
    rw [Nat.zero_add, hl]
    exact done V G w hS (fun j hj => hD j hj (hall j hj)) fun j hj k hk => hA j hj k hk (hall j hj) (hall k hk)
  | succ m ih =>
    intro listed V G w hm hsz hag hcl hS hD hA
    have hex : ∃ r ∈ rem, listed.getD r true = false := by
      have hne : rem.filter (fun r => !listed.getD r true) ≠ [] := fun e => by rw [e] at hm; simp at hm
      obtain ⟨x, hx⟩ := List.exists_mem_of_ne_nil _ hne
      have := List.mem_filter.1 hx
      exact ⟨x, this.1, by simpa using this.2⟩
    have hLl : ∀ d, L.getD d false = true → listed.getD d false = true := fun d hd => by
      by_cases hdr : d ∈ rem
      · have h1 := (hrem' d hdr).2
        have h2 : d < L.size := by have := (hrem' d hdr).1; omega
        simp only [Array.getD, h2, dif_pos] at h1 hd
        rw [h1] at hd; cases hd
      · have h1 := hag d hdr
        by_cases h2 : d < L.size
        · have h3 : d < listed.size := by omega
          simp only [Array.getD, h2, h3, dif_pos] at hd ⊢
          simp only [Array.getElem?_eq_getElem h2, Array.getElem?_eq_getElem h3, Option.some.injEq] at h1
          rw [Array.getInternal_eq_getElem] at hd ⊢
          rw [h1]; exact hd
        · simp [Array.getD, h2] at hd
    obtain ⟨r0, hr0, hr0r⟩ := topo_ready hsz [] rem htopo hLl (fun d hd => by simp at hd) (fun r hr => (hrem' r hr).1) hex
    rw [Nat.add_right_comm]
    refine ⟨fun h0 => absurd (h0 ▸ hr0r) (by simp), fun i hi => ?_⟩
    obtain ⟨hli, o, ho, hdep⟩ := mem_ready.1 hi
    have hdeps : ∀ d ∈ depsOf ops i, listed.getD d false = true := fun d hd => by
      unfold depsOf at hd
      rw [ho] at hd
      obtain ⟨e, he, rfl⟩ := List.mem_map.1 hd
      have := List.mem_filter.1 he
      exact hdep e (by simpa using this.1) this.2
    have hdt : ∀ d, listed.getD d false = true → listed.getD d true = true := fun d hd => by
      by_cases h2 : d < listed.size
      · simpa [Array.getD, h2] using hd
      · simp [Array.getD, h2]
    have hir : i ∈ rem := by
      cases hc : rem.contains i
      · exfalso
        have hlt : i < ops.size := (Array.getElem?_eq_some_iff.1 ho).1
        have hnr : i ∉ rem := fun h => by
          have := List.contains_iff_mem.2 h
          rw [this] at hc; cases hc
        have h1 := List.all_eq_true.1 hoth i (List.mem_range.2 hlt)
        have hLi : L.getD i true = false := by
          have h2 := hag i hnr
          have h3 : i < L.size := by omega
          have h4 : i < listed.size := by omega
          simp only [Array.getElem?_eq_getElem h3, Array.getElem?_eq_getElem h4, Option.some.injEq] at h2
          simp only [Array.getD, h3, h4, dif_pos] at hli ⊢
          rw [Array.getInternal_eq_getElem] at hli ⊢
          rw [← h2]; exact hli
        rw [hLi, hc] at h1
        simp only [Bool.false_or] at h1
        obtain ⟨q, hq, hq2⟩ := hex
        have h5 := List.all_eq_true.1 h1 q hq
        have h6 := hdt q (reach_listed hcl _ i q (ready_deps hi) h5)
        rw [hq2] at h6; cases h6
      · exact List.contains_iff_mem.1 hc
    refine step i hir V G w _ hS (fun d hd hdr => hD d hdr (hdt d (hdeps d hd))) (fun d hd k hk hdr hkr => hA d hdr k hkr (hdt d (hdeps d hd)) (hdt k (hdeps k hk))) (fun v g w' hS' hBel hfr hDi => ?_)
    refine ⟨fun _ => hS', ?_⟩
    rw [putAll_put hnd hir]
    have hin : i < listed.size := by rw [hsz]; exact (hrem' i hir).1
    have gset : ∀ j, (listed.setIfInBounds i true).getD j true = if j = i then true else listed.getD j true := fun j => by
      by_cases hj : j = i
      · subst hj; simp [Array.getD, hin]
      · rw [if_neg hj, getD_set_ne true (fun e => hj e.symm)]
    refine ih (listed.setIfInBounds i true) (upd V i v) (fun j => if j = i then g else G j) w' ?_ (by simpa using hsz) (fun j hj => ?_) (hcl.set hi) hS' (fun j hj hlj => ?_) (fun j hj k hk hlj hlk hjk x hx => ?_)
    · have hnodup : rem.Nodup := by
        exact (List.pairwise_map.1 hnd).imp (fun h e => h (by rw [e]))
      have e1 : (rem.filter (fun r => !listed.getD r true)) = rem.filter (fun r => !listed.getD r true) := rfl
      have hcount : (rem.filter (fun r => !(listed.setIfInBounds i true).getD r true)) = (rem.filter (fun r => !listed.getD r true)).erase i := by
        have e2 : rem.filter (fun r => !(listed.setIfInBounds i true).getD r true) = (rem.filter (fun r => !listed.getD r true)).filter (fun r => r != i) := by
          rw [List.filter_filter]
          refine List.filter_congr fun x hx => ?_
          rw [gset x]
          by_cases hxi : x = i <;> simp [hxi]
        rw [e2, ← List.Nodup.erase_eq_filter (hnodup.filter _)]
      rw [hcount, List.length_erase_of_mem (List.mem_filter.2 ⟨hir, by simp [hli]⟩), hm]
      rfl
    · rw [Array.getElem?_setIfInBounds, if_neg (fun e : i = j => hj (by rw [← e]; exact hir))]
      exact hag j hj
    · unfold upd
      by_cases hji : j = i
      · subst hji; rw [if_pos rfl, if_pos rfl]; exact hDi
      · rw [if_neg hji, if_neg hji]
        rw [gset j, if_neg hji] at hlj
        exact mono j hj _ _ _ _ hBel (hD j hj hlj)
    · by_cases hji : j = i
      · have hki : ¬ k = i := fun e => hjk (hji.trans e.symm)
        rw [if_pos hji] at hx
        rw [if_neg hki]
        rw [gset k, if_neg hki] at hlk
        intro hx2
        have h1 := hfr x hx
        have h2 := lt k hk _ _ _ (hD k hk hlk) x hx2
        omega
      · rw [if_neg hji] at hx
        rw [gset j, if_neg hji] at hlj
        by_cases hki : k = i
        · rw [if_pos hki]
          intro hx2
          have h1 := hfr x hx2
          have h2 := lt j hj _ _ _ (hD j hj hlj) x hx
          omega
        · rw [if_neg hki]
          rw [gset k, if_neg hki] at hlk
          exact hA j hj k hk hlj hlk hjk x hx

/-- What is to be shown behind what is taken first. -/
def Made6 (P : Program) (ops : Array Oper) (Q : Exit → Act → World → Prop) (S : World → Prop) (rem : List Nat) (ord : List (Bool × Nat)) (a1 : Act) : Prop :=
  ∃ D : Nat → Value → List Nat → World → Prop, (∀ j ∈ rem, ∀ v g w w', Below w.heap.size w w' → D j v g w → D j v g w') ∧ (∀ j ∈ rem, ∀ v g w, D j v g w → ∀ x ∈ g, x < w.heap.size) ∧
    (∀ i ∈ rem, ∀ (V : Nat → Value) (G : Nat → List Nat) (w : World) (K : Act → World → Prop), S w → (∀ d ∈ depsOf ops i, d ∈ rem → D d (V d) (G d) w) → (∀ d ∈ depsOf ops i, ∀ k ∈ depsOf ops i, d ∈ rem → k ∈ rem → d ≠ k → ∀ x ∈ G d, x ∉ G k) →
      (∀ v g w', S w' → Below w.heap.size w w' → (∀ x ∈ g, w.heap.size ≤ x) → D i v g w' → K ((putAll ops rem V a1).put (dstOf ops i) v) w') → wpOp P ops (NoPanic Q) i K (putAll ops rem V a1) w) ∧
    (∀ (V : Nat → Value) (G : Nat → List Nat) (w : World), S w → (∀ j ∈ rem, D j (V j) (G j) w) → (∀ j ∈ rem, ∀ k ∈ rem, j ≠ k → ∀ x ∈ G j, x ∉ G k) → wpSeq P ops (NoPanic Q) S ord (putAll ops rem V a1) w)

def tailsB6 (ops : Array Oper) (ks rem : List Nat) (ord : List (Bool × Nat)) : Bool :=
  ks.all (fun k => !ord.contains (true, k) && ord.all (fun x => !x.1 || reach ops ops.size x.2 k)) && rem.all (fun r => !ord.contains (true, r)) && ord.all (fun x => x.1 || !ord.contains (true, x.2))

theorem wp_region_made6 {P : Program} {l : List Oper} {Q : Exit → Act → World → Prop} {id : Nat} {a : Act} {w : World} (S : World → Prop) (ks rem : List Nat) (ord : List (Bool × Nat))
    (hm : P.follows .mixedOrders = true) (hs : Region.noSelect l.toArray = true) (hF : firstsB l.toArray ks (Array.replicate l.length false) = true) (hks : ks.all (fun k => decide (k < l.length)) = true) (hv : ((picks l ks).all vKind2) = true)
    (hM : madeB5 l.toArray rem (mark (Array.replicate l.length false) ks) = true) (hTB : tailsB6 l.toArray ks rem ord = true) (hB : seqB l.toArray ord (mark (mark (Array.replicate l.length false) ks) rem) = true) (hl : ks.length + (rem.length + ord.length) = l.length)
    (hS : S w.drew) (h : wpQuiet P l.toArray S (Made6 P l.toArray Q S rem ord) (picks l ks) a) : (Code.region id l.toArray true).wp P Q a w := by
  refine wp_region_noPanic (wp_region_any hm ?_)
  have hM' := hM
  simp only [madeB5, Bool.and_eq_true, decide_eq_true_eq] at hM'
  simp only [tailsB6, Bool.and_eq_true] at hTB
  have hT : ∀ j, (ord.contains (true, j)) = true → (true, j) ∈ ord := fun j h => by simpa using h
  have key := wpAnyT_firsts (Q := NoPanic Q) (T := fun i => ord.contains (true, i)) (N := l.toArray.size) (fuel := rem.length + ord.length) (w := w.drew) hs hS (fun c a a' w h => (h : False).elim) ks (picks l ks) _ a hF (fun k hk => ?_) (Closed.none _ _) (picks_ok hks) hv h (fun a1 hK hcl => ?_)
  · have := wpAny_of_T _ _ _ _ key
    rw [hl] at this
    simpa using this
  · have h1 := List.all_eq_true.1 hTB.1.1 k hk
    simp only [Bool.and_eq_true] at h1
    refine ⟨by simpa using h1.1, fun j hj => ?_⟩
    have h2 := List.all_eq_true.1 h1.2 (true, j) (hT j hj)
    simpa using h2
  · obtain ⟨D, mono, lt, step, done⟩ := hK
    have hall : (rem.filter (fun r => !(mark (Array.replicate l.length false) ks).getD r true)) = rem := by
      rw [List.filter_eq_self]
      intro r hr
      have := List.all_eq_true.1 hM'.1.1.2 r hr
      simp only [Bool.and_eq_true] at this
      exact this.2
    have hun : ∀ j ∈ rem, (mark (Array.replicate l.length false) ks).getD j true = true → False := fun j hj hlj => by
      have := List.all_eq_true.1 hM'.1.1.2 j hj
      simp only [Bool.and_eq_true, hlj] at this
      simp at this
    obtain ⟨V0, hV0⟩ : ∃ V0, putAll l.toArray rem V0 a1 = a1 := ⟨_, putAll_self a1 rem⟩
    have := made_aux6 (P := P) (Q := NoPanic Q) (S := S) (T := fun i => ord.contains (true, i)) (a1 := a1) (fuel := ord.length) hM (fun r hr => by have := List.all_eq_true.1 hTB.1.2 r hr; simpa using this) mono lt step
      (fun V G w' hS' hD hA => wpAnyT_seq ord _ _ w' hB (fun t i hti => by
        cases t with
        | true => simpa using hti
        | false =>
          have := List.all_eq_true.1 hTB.2 (false, i) hti
          simpa using this) (done V G w' hS' hD hA))
      rem.length (mark (Array.replicate l.length false) ks) V0 (fun _ => []) w.drew (by rw [hall]) hM'.1.2 (fun _ _ => rfl) hcl hS (fun j hj hlj => (hun j hj hlj).elim) (fun j hj k hk hlj _ _ => (hun j hj hlj).elim)
    rw [hV0] at this
    exact this

end Go.Proofs.Ytjiodlbblmbibac
/- Appending to an empty list that has no room: what was there stays. -/
namespace Go.Proofs.Ytjiodlbblmbibac
open Go.RowKit Go.Shelf Go.Sort
set_option linter.unusedVariables false

theorem wp_append_empty {P : Program} (w : World) {ops : Array Oper} {rest : List Oper} {o : Oper} {a : Act} {Q : Exit → Act → World → Prop} (hg : o.guard = none) (s x : Operand) (t : TypeId)
    (hop : o.op = Op.call { callee := Callee.builtin Builtin.append, args := #[s, x], argTypes := #[t, t] }) (e : TypeId) (i : TypeInfo) (z : Value) (size bytes : Nat) (h1 : P.underlying t = some (.slice e)) (h2 : P.info? e = some i) (h3 : i.zero = some z) (h4 : i.size = size) (h5 : i.bytes = bytes)
    (h6 : z.cells.size = size) (h7 : 0 < size) (g : Nat) (hs : a.eval s = .slice (some ⟨g, 0, none⟩) 0 0) (xa : Option Addr) (m c : Nat) (news : List Value) (hx : a.eval x = .slice xa m c) (hn : news.length = m * size)
    (hc : ∀ ad, xa = some ad → ∀ j u, news[j]? = some u → w.cell? (ad.add j) = some u) (h1c : ∀ u ∈ news, u.oneCell' = true) (hnone : xa = none → m = 0) (b1 : m ≤ maxLen) (b2 : m * bytes ≤ 140737488355328)
    (hK0 : m = 0 → wpList P ops Q rest (a.put o.dst (.slice (some ⟨g, 0, none⟩) 0 0)) w) (hK : 0 < m → ∀ v' w', w'.ownsRow w.heap.size e size v' m news → w.grownBy w' none → wpList P ops Q rest (a.put o.dst v') w') :
    wpList P ops Q (o :: rest) a w := by
  rcases Nat.eq_zero_or_pos m with h0 | h0
  · subst h0
    have hnil : news = [] := List.eq_nil_of_length_eq_zero (by simpa using hn)
    subst hnil
    have hsrc : Src P i.size t (.slice xa 0 c) 0 [] w := by
      cases xa with
      | none => exact Src.ofNil w h1 c
      | some ad => exact Src.ofSlice w h1 ad 0 c [] (by simp) (fun j u hj => by simp at hj) (fun u hu => by cases hu)
    have hrun := run_append_nothing (P := P) w t t o.type e i h1 h2 (some ⟨g, 0, none⟩) 0 0 (Nat.le_refl _) _ hsrc
    refine wpList_plain hg fun K hK' => ?_
    unfold Oper.wp
    simp [execOp, hop, resolve, invoke, builtin, hs, hx, hrun, Result.andThen]
    exact hK' _ _ (hK0 rfl)
  · cases xa with
    | none => exact absurd (hnone rfl) (by omega)
    | some ad =>
      refine wpList_append_grows w hg s x t hop e i z size bytes h1 h2 h3 h4 h5 h6 h7 (some ⟨g, 0, none⟩) 0 0 [] hs (fun h => by cases h) (by simp) (fun b _ j u hj => by simp at hj) ad m c news hx hn (hc ad rfl) h1c (by omega) (by omega) (by rw [Nat.zero_add]; exact b2) (fun v' w' h1 h2 => ?_)
      rw [Nat.zero_add, List.nil_append] at h1
      exact hK h0 v' w' h1 h2

end Go.Proofs.Ytjiodlbblmbibac
/- What the document begins: BeginOf. -/
namespace Go.Proofs.Ytjiodlbblmbibac
open Go.RowKit Go.Shelf Go.Sort
set_option linter.unusedVariables false

def ZeroAt (A n : Nat) (v : Value) (g : List Nat) (wk : World) : Prop := ∃ B, g = [B] ∧ v = .slice (some ⟨B, 0, none⟩) n n ∧ A ≤ B ∧ Blk wk B 3 n (fun _ => .int .i64 0)
theorem ZeroAt.below {A n : Nat} {v : Value} {g : List Nat} {w w' : World} (h : ZeroAt A n v g w) (hB : Below w.heap.size w w') : ZeroAt A n v g w' := by
  obtain ⟨B, h0, h1, h2, h3⟩ := h
  exact ⟨B, h0, h1, h2, h3.below hB⟩
theorem ZeroAt.lt {A n : Nat} {v : Value} {g : List Nat} {w : World} (h : ZeroAt A n v g w) : ∀ x ∈ g, x < w.heap.size := by
  obtain ⟨B, rfl, h1, h2, h3⟩ := h
  intro x hx
  rw [List.mem_singleton] at hx
  subst hx
  exact h3.lt
def BoxAt (A : Nat) (v : Value) (g : List Nat) (wk : World) : Prop := ∃ B, g = [B] ∧ v = .pointer (some ⟨B, 0, none⟩) ∧ A ≤ B ∧ Blk wk B 31 7 (fun _ => .slice .none 0 0)
theorem BoxAt.below {A : Nat} {v : Value} {g : List Nat} {w w' : World} (h : BoxAt A v g w) (hB : Below w.heap.size w w') : BoxAt A v g w' := by
  obtain ⟨B, h0, h1, h2, h3⟩ := h
  exact ⟨B, h0, h1, h2, h3.below hB⟩
theorem BoxAt.lt {A : Nat} {v : Value} {g : List Nat} {w : World} (h : BoxAt A v g w) : ∀ x ∈ g, x < w.heap.size := by
  obtain ⟨B, rfl, h1, h2, h3⟩ := h
  intro x hx
  rw [List.mem_singleton] at hx
  subst hx
  exact h3.lt
def SumsAt (A n : Nat) (v : Value) (g : List Nat) (wk : World) : Prop := ∃ B1 B2 B3, g = [] ∧ v = .agg #[.slice .none 0 0, .slice .none 0 0, .slice .none 0 0, .slice .none 0 0, .slice (some ⟨B1, 0, none⟩) n n, .slice (some ⟨B2, 0, none⟩) n n, .slice (some ⟨B3, 0, none⟩) n n] ∧
  (A ≤ B1 ∧ Blk wk B1 3 n (fun _ => .int .i64 0)) ∧ (A ≤ B2 ∧ Blk wk B2 3 n (fun _ => .int .i64 0)) ∧ (A ≤ B3 ∧ Blk wk B3 3 n (fun _ => .int .i64 0))
theorem SumsAt.below {A n : Nat} {v : Value} {g : List Nat} {w w' : World} (h : SumsAt A n v g w) (hB : Below w.heap.size w w') : SumsAt A n v g w' := by
  obtain ⟨B1, B2, B3, h0, h1, ⟨a1, a2⟩, ⟨b1, b2⟩, ⟨c1, c2⟩⟩ := h
  exact ⟨B1, B2, B3, h0, h1, ⟨a1, a2.below hB⟩, ⟨b1, b2.below hB⟩, ⟨c1, c2.below hB⟩⟩
def OneAt (A n : Nat) (v : Value) (g : List Nat) (wk : World) : Prop := ∃ B R, g = [B] ∧ v = .slice (some ⟨B, 0, none⟩) 1 1 ∧ A ≤ B ∧ Blk wk B 23 1 (fun _ => .slice (some ⟨R, 0, none⟩) n n) ∧ A ≤ R ∧ Blk wk R 3 n (fun _ => .int .i64 0)
theorem OneAt.below {A n : Nat} {v : Value} {g : List Nat} {w w' : World} (h : OneAt A n v g w) (hB : Below w.heap.size w w') : OneAt A n v g w' := by
  obtain ⟨B, R, h0, h1, h2, h3, h4, h5⟩ := h
  exact ⟨B, R, h0, h1, h2, h3.below hB, h4, h5.below hB⟩
theorem OneAt.lt {A n : Nat} {v : Value} {g : List Nat} {w : World} (h : OneAt A n v g w) : ∀ x ∈ g, x < w.heap.size := by
  obtain ⟨B, R, rfl, h1, h2, h3, h4, h5⟩ := h
  intro x hx
  rw [List.mem_singleton] at hx
  subst hx
  exact h3.lt

/-- A state whose every block is new since n: it lies there still where nothing but elder blocks changes. -/
def Fr (n : Nat) (w : World) (s : St) : Prop := ∀ w'' : World, w.heap.size ≤ w''.heap.size → (∀ g, n ≤ g → g < w.heap.size → w''.heap[g]? = w.heap[g]?) → s.At w''
theorem Fr.at {n : Nat} {w : World} {s : St} (h : Fr n w s) : s.At w := h w (Nat.le_refl _) (fun _ _ _ => rfl)
theorem Fr.below {n : Nat} {w w' : World} {s : St} (h : Fr n w s) (hB : Below w.heap.size w w') : Fr n w' s := fun w'' hz hs => h w'' (Nat.le_trans hB.size hz) fun g h1 h2 => (hs g h1 (Nat.lt_of_lt_of_le h2 hB.size)).trans (hB.block g h2)
theorem Fr.set {n : Nat} {w : World} {s : St} (h : Fr n w s) {q : Nat} (hq : q < n) (j : Nat) (u : Value) : Fr n (w.setCell ⟨q, j, none⟩ u) s := fun w'' hz hs => h w'' (by simpa using hz) fun g h1 h2 => (hs g h1 (by simpa using h2)).trans (Below.heap_setCell w ⟨q, j, none⟩ u g (by show g ≠ q; omega))
/-- What is appended to leaves blocks of another type as they were. -/
theorem grown_keep {w w2 : World} {base : Nat} {e : TypeId} {size : Nat} {v : Value} {n : Nat} {xs : List Value} (ho : w.ownsRow base e size v n xs) (hg : w.grownBy w2 v.ownBlock) {q : Nat} {t : TypeId} {m : Nat} {f : Nat → Value} (hb : Blk w q t m f) (hne : t ≠ e) : Blk w2 q t m f := by
  refine hb.grown hg ?_
  intro hq
  rcases ho.2 with ⟨rfl, _⟩ | ⟨g2, cap2, cur2, rfl, _, hh2, hrest⟩
  · simp [Value.ownBlock] at hq
  · simp only [Value.ownBlock, Option.some.injEq] at hq
    subst hq
    obtain ⟨c3, hc3, _⟩ := hb
    rw [hc3] at hh2
    cases hh2
    exact hne rfl
/-- What is owned is owned still where a block of another type is changed. -/
theorem owns_set {w : World} {base : Nat} {e : TypeId} {size : Nat} {v : Value} {n : Nat} {xs : List Value} (ho : w.ownsRow base e size v n xs) {q : Nat} {t : TypeId} {m : Nat} {f : Nat → Value} (hb : Blk w q t m f) (hne : t ≠ e) (j : Nat) (u : Value) : (w.setCell ⟨q, j, none⟩ u).ownsRow base e size v n xs := by
  refine ⟨ho.1, ?_⟩
  rcases ho.2 with h | ⟨g2, cap2, cur2, rfl, hb2, hh2, hrest⟩
  · exact .inl h
  · refine .inr ⟨g2, cap2, cur2, rfl, hb2, ?_, hrest⟩
    rw [Below.heap_setCell w ⟨q, j, none⟩ u g2 ?_]
    · exact hh2
    · intro hq
      obtain ⟨c3, hc3, _⟩ := hb
      rw [hq, hc3] at hh2
      cases hh2
      exact hne rfl
/-- The rows that have been begun. -/
def BegL (p : Pl) (A BX B1 B2 B3 k : Nat) (wk : World) : Prop := ∃ (v : Value) (G : Nat → Nat), Blk wk BX 31 7 (fun j => (#[v, .slice .none 0 0, .slice .none 0 0, .slice .none 0 0, .slice (some ⟨B1, 0, none⟩) p.ns p.ns, .slice (some ⟨B2, 0, none⟩) p.ns p.ns, .slice (some ⟨B3, 0, none⟩) p.ns p.ns] : Array Value).getD j default) ∧
  wk.ownsRow A 23 1 v k ((List.range k).map fun i => Value.slice (some ⟨G i, 0, none⟩) p.ns p.ns) ∧ (∀ i, i < k → A ≤ G i ∧ Blk wk (G i) 3 p.ns (fun _ => .int .i64 0)) ∧
  Blk wk B1 3 p.ns (fun _ => .int .i64 0) ∧ Blk wk B2 3 p.ns (fun _ => .int .i64 0) ∧ Blk wk B3 3 p.ns (fun _ => .int .i64 0)

end Go.Proofs.Ytjiodlbblmbibac
/- A state that the document copies: OwnState. -/
namespace Go.Proofs.Ytjiodlbblmbibac
open Go.RowKit Go.Shelf Go.Sort
set_option linter.unusedVariables false

def DOn (A : Nat) (s : St) (v : Value) (g : List Nat) (wk : World) : Prop := ∃ (g0 c0 : Nat) (G C : Nat → Nat), v = .slice (some ⟨g0, 0, none⟩) s.on.n c0 ∧ A ≤ g0 ∧ s.on.n ≤ c0 ∧ c0 ≤ maxLen ∧ Blk wk g0 23 s.on.n (fun i => .slice (some ⟨G i, 0, none⟩) (s.on.r i).n (C i)) ∧
  (∀ i, i < s.on.n → A ≤ G i ∧ (s.on.r i).n ≤ C i ∧ C i ≤ maxLen ∧ Blk wk (G i) 3 (s.on.r i).n (fun j => .int .i64 ((s.on.r i).z j))) ∧ (∀ i j, i < j → j < s.on.n → G i < G j) ∧ g = (List.range s.on.n).map G
theorem DOn.below {A : Nat} {s : St} {v : Value} {g : List Nat} {w w' : World} (h : DOn A s v g w) (hB : Below w.heap.size w w') : DOn A s v g w' := by
  obtain ⟨g0, c0, G, C, h1, h2, h2', h2'', h3, h4, h5, h6⟩ := h
  exact ⟨g0, c0, G, C, h1, h2, h2', h2'', h3.below hB, fun i hi => ⟨(h4 i hi).1, (h4 i hi).2.1, (h4 i hi).2.2.1, (h4 i hi).2.2.2.below hB⟩, h5, h6⟩
theorem DOn.lt {A : Nat} {s : St} {v : Value} {g : List Nat} {w : World} (h : DOn A s v g w) : ∀ x ∈ g, x < w.heap.size := by
  obtain ⟨g0, c0, G, C, h1, h2, h2', h2'', h3, h4, h5, rfl⟩ := h
  intro x hx
  obtain ⟨i, hi, rfl⟩ := List.mem_map.1 hx
  exact (h4 i (List.mem_range.1 hi)).2.2.2.lt
def DE (v : Value) (g : List Nat) : Prop := ∃ B : Nat, g = [] ∧ v = .slice (some ⟨B, 0, none⟩) 0 0
def DAgg (A : Nat) (s : St) (v : Value) (g : List Nat) (wk : World) : Prop := g = [] ∧ ∃ x2 g2 x6 g6 x10 g10 x14 g14 x18 g18 x22 g22, v = .agg #[x2, .slice .none 0 0, x6, x10, x14, x18, x22] ∧ DOn A s x2 g2 wk ∧ DHs A 65 s.hs x6 g6 wk ∧ DHs A 70 s.ms x10 g10 wk ∧
  DInts A s.si x14 g14 wk ∧ DInts A s.so x18 g18 wk ∧ DInts A s.sf x22 g22 wk ∧ (∀ x ∈ g2, x ∉ g14) ∧ (∀ x ∈ g2, x ∉ g18) ∧ (∀ x ∈ g2, x ∉ g22) ∧ (∀ x ∈ g14, x ∉ g18) ∧ (∀ x ∈ g14, x ∉ g22) ∧ (∀ x ∈ g18, x ∉ g22)
theorem DAgg.below {A : Nat} {s : St} {v : Value} {g : List Nat} {w w' : World} (h : DAgg A s v g w) (hB : Below w.heap.size w w') : DAgg A s v g w' := by
  obtain ⟨h0, x2, g2, x6, g6, x10, g10, x14, g14, x18, g18, x22, g22, h1, a, b, c, d, e, f, r⟩ := h
  exact ⟨h0, x2, g2, x6, g6, x10, g10, x14, g14, x18, g18, x22, g22, h1, a.below hB, b.below hB, c.below hB, d.below hB, e.below hB, f.below hB, r⟩

theorem OwnI.grownO {A B : Nat} {w w2 : World} {r : Rw} {e : TypeId} {size : Nat} {v : Value} {n : Nat} {xs : List Value} (h : OwnI A w r) (ho : w.ownsRow B e size v n xs) (hg : w.grownBy w2 v.ownBlock) (hne : 3 ≠ e) : OwnI A w2 r := by
  obtain ⟨g, ha, h0, h1, h2, hb⟩ := h
  exact ⟨g, ha, h0, h1, h2, grown_keep ho hg hb hne⟩
theorem OwnH.grownO {A B : Nat} {t : TypeId} {w w2 : World} {s : Hs} {e : TypeId} {size : Nat} {v : Value} {n : Nat} {xs : List Value} (h : OwnH A t w s) (ho : w.ownsRow B e size v n xs) (hg : w.grownBy w2 v.ownBlock) (hne : t ≠ e) : OwnH A t w2 s := by
  obtain ⟨h1, h2, h3, h4⟩ := h
  refine ⟨h1, h2, h3, fun hn => ?_⟩
  obtain ⟨g, ha, hA, hb⟩ := h4 hn
  exact ⟨g, ha, hA, grown_keep ho hg hb hne⟩
theorem Room.grownO {A B : Nat} {t : TypeId} {w w2 : World} {sz c : Nat} {a : Option Addr} {e : TypeId} {size : Nat} {v : Value} {n : Nat} {xs : List Value} (h : Room A w t sz a c) (ho : w.ownsRow B e size v n xs) (hg : w.grownBy w2 v.ownBlock) (hne : t ≠ e) : Room A w2 t sz a c := by
  refine h.same fun g cur hgc => hg.block g (Array.getElem?_eq_some_iff.1 hgc).1 fun hq => ?_
  rcases ho.2 with ⟨rfl, _⟩ | ⟨g2, cap2, cur2, rfl, _, hh2, hrest⟩
  · simp [Value.ownBlock] at hq
  · simp only [Value.ownBlock, Option.some.injEq] at hq
    subst hq
    rw [hgc] at hh2
    cases hh2
    exact hne rfl
theorem OwnS.grownO {A B : Nat} {w w2 : World} {s : St} {size : Nat} {v : Value} {n : Nat} {xs : List Value} (h : OwnS A w s) (hos : s.os.n = 0) (hoc : s.os.c = 0) (ho : w.ownsRow B 51 size v n xs) (hg : w.grownBy w2 v.ownBlock) : OwnS A w2 s := by
  refine ⟨?_, fun i hi => (h.rows i hi).grownO ho hg (by decide), h.rapart, ⟨h.os.le, h.os.cap, fun hn => absurd hn (by omega), fun i hi => absurd hi (by omega), h.os.apart, Or.inl hoc⟩, h.hs.grownO ho hg (by decide), h.ms.grownO ho hg (by decide), h.msr.grownO ho hg (by decide), h.si.grownO ho hg (by decide), h.so.grownO ho hg (by decide), h.sf.grownO ho hg (by decide), h.aio, h.aif, h.aof, h.ari⟩
  obtain ⟨g, ha, h0, h1, h2, hb⟩ := h.on
  exact ⟨g, ha, h0, h1, h2, grown_keep ho hg hb (by decide)⟩
theorem OwnS.below {A : Nat} {w w' : World} {s : St} (h : OwnS A w s) (hB : Below w.heap.size w w') : OwnS A w' s := by
  refine ⟨?_, fun i hi => (h.rows i hi).below hB, h.rapart, h.os.below hB, h.hs.below hB, h.ms.below hB, h.msr.below hB, h.si.below hB, h.so.below hB, h.sf.below hB, h.aio, h.aif, h.aof, h.ari⟩
  obtain ⟨g, ha, h0, h1, h2, hb⟩ := h.on
  exact ⟨g, ha, h0, h1, h2, hb.below hB⟩

/-- A line list of the copy that is being made. -/
def LineOK (A : Nat) (s : St) (Ls : Nat → Od) (i : Nat) (wk : World) : Prop := (Ls i).k = (s.os.z i).k ∧ (Ls i).ls.n = (s.os.z i).ls.n ∧ (∀ j, j < (s.os.z i).ls.n → (Ls i).ls.z j = (s.os.z i).ls.z j) ∧ ∃ B, (Ls i).ls.a = some ⟨B, 0, none⟩ ∧ A ≤ B ∧ (Ls i).ls.n ≤ (Ls i).ls.c ∧ (Ls i).ls.c ≤ maxLen ∧ Blk wk B 53 ((Ls i).ls.n * 4) (fun j => (flatH (Ls i).ls.n (Ls i).ls.z).getD j default)
def OwnL (A A0 : Nat) (s s0 : St) (BX k : Nat) (wk : World) : Prop := ∃ (v : Value) (Ls : Nat → Od), Blk wk BX 31 7 (fun j => (#[.slice s0.on.a s0.on.n s0.on.c, v, .slice s0.hs.a s0.hs.n s0.hs.c, .slice s0.ms.a s0.ms.n s0.ms.c, .slice s0.si.a s0.si.n s0.si.c, .slice s0.so.a s0.so.n s0.so.c, .slice s0.sf.a s0.sf.n s0.sf.c] : Array Value).getD j default) ∧
  wk.ownsRow A0 51 2 v k (flatO k Ls) ∧ (∀ i, i < k → LineOK A s Ls i wk) ∧ (∀ i j, i < j → j < k → (Ls i).ls.a ≠ (Ls j).ls.a) ∧ OwnS A wk s0
def D16 (A : Nat) (x : Od) (v : Value) (g : List Nat) (wk : World) : Prop := ∃ s' : Hs, g = [] ∧ v = .agg #[.int .i64 x.k, .slice s'.a s'.n s'.c] ∧ Cloned A 53 x.ls wk s'
theorem D16.below {A : Nat} {x : Od} {v : Value} {g : List Nat} {w w' : World} (h : D16 A x v g w) (hB : Below w.heap.size w w') : D16 A x v g w' := by
  obtain ⟨s', h1, h2, h3, h4, h5, h6⟩ := h
  exact ⟨s', h1, h2, h3, h4, h5.below hB, h6.below hB⟩
def D17 (A : Nat) (x : Od) (v : Value) (g : List Nat) (wk : World) : Prop := ∃ (B : Nat) (s' : Hs), g = [] ∧ v = .slice (some ⟨B, 0, none⟩) 1 1 ∧ A ≤ B ∧ Blk wk B 51 2 (fun j => (#[.int .i64 x.k, .slice s'.a s'.n s'.c] : Array Value).getD j default) ∧ Cloned A 53 x.ls wk s'
theorem D17.below {A : Nat} {x : Od} {v : Value} {g : List Nat} {w w' : World} (h : D17 A x v g w) (hB : Below w.heap.size w w') : D17 A x v g w' := by
  obtain ⟨B, s', h1, h2, h3, h4, h5, h6, h7, h8⟩ := h
  exact ⟨B, s', h1, h2, h3, h4.below hB, h5, h6, h7.below hB, h8.below hB⟩

theorem cloned_grow {A B : Nat} {e : TypeId} {s : Hs} {w : World} {v : Value} (hn : 0 < s.n) (hown : w.ownsRow B e 4 v s.n (flatH s.n s.z)) (hA : A ≤ B) : ∃ s' : Hs, v = .slice s'.a s'.n s'.c ∧ Cloned A e s w s' := by
  have hv : v ≠ .slice none 0 0 := by
    rintro rfl
    rcases hown.2 with ⟨_, h0⟩ | ⟨g2, cap2, cur2, h, _⟩
    · omega
    · cases h
  obtain ⟨s', h1, h2, h3, h4, h5⟩ := OwnH.ofOwns hown hv
  exact ⟨s', h1, h2, fun j _ => by rw [h3], h4.mono hA, h5.mono hA⟩
theorem cloned_none {A : Nat} {e : TypeId} {s : Hs} {w : World} (B : Nat) (hn : s.n = 0) : Cloned A e s w ⟨some ⟨B, 0, none⟩, 0, 0, s.z⟩ := ⟨hn.symm, fun j hj => rfl, ⟨Nat.le_refl _, Nat.zero_le _, (fun h => by cases h), fun h => absurd h (Nat.lt_irrefl _)⟩, Or.inl rfl⟩
theorem hs_news {s : Hs} {w : World} (h : s.At w) : ∀ ad, s.a = some ad → ∀ j u, (flatH s.n s.z)[j]? = some u → w.cell? (ad.add j) = some u := fun ad ha j u hj => by
  have hlen := (List.getElem?_eq_some_iff.1 hj).1
  rw [flatH_len] at hlen
  have hh := h.hds
  obtain ⟨b, o, he, hb, -⟩ := hh 0 (by omega)
  rw [ha] at he
  simp only [Option.some.injEq] at he
  subst he
  rw [ha] at hh
  exact HdsAt.news hh j u hj
theorem hs_none {s : Hs} {w : World} (h : s.At w) (ha : s.a = none) : s.n = 0 := by
  have := h.nilc ha
  have := h.le
  omega
theorem ints_grow {A B : Nat} {r : Rw} {w : World} {v : Value} (hn : 0 < r.n) (hown : w.ownsRow B 3 1 v r.n ((List.range r.n).map fun j => Value.int .i64 (r.z j))) (hA : A ≤ B) : ∃ g c, v = .slice (some ⟨g, 0, none⟩) r.n c ∧ B ≤ g ∧ DInts A r v [g] w := by
  have hv : v ≠ .slice none 0 0 := by
    rintro rfl
    rcases hown.2 with ⟨_, h0⟩ | ⟨g2, cap2, cur2, h, _⟩
    · omega
    · cases h
  obtain ⟨g, c, rfl, h1, h2, h3, h4⟩ := Blk.ofOwns hown hv
  rw [Nat.mul_one] at h4
  exact ⟨g, c, rfl, h3, g, c, rfl, rfl, by omega, h1, h2, h4.congr (fun j hj => by simp [hj])⟩
theorem rw_news {r : Rw} {w : World} (h : r.At w) : ∀ ad, r.a = some ad → ∀ j u, ((List.range r.n).map fun j => Value.int .i64 (r.z j))[j]? = some u → w.cell? (ad.add j) = some u := fun ad ha j u hj => by
  have hjn : j < r.n := by
    have := (List.getElem?_eq_some_iff.1 hj).1
    simpa using this
  obtain ⟨b, o, he, hb, hc⟩ := h.ints j hjn
  rw [ha] at he
  simp only [Option.some.injEq] at he
  subst he
  rw [Go.WideShapes.add_plain, hc]
  simp [hjn] at hj
  rw [hj]
theorem rw_none {r : Rw} {w : World} (h : r.At w) (ha : r.a = none) : r.n = 0 := by
  rcases Nat.eq_zero_or_pos r.n with h0 | h0
  · exact h0
  · obtain ⟨b, o, he, _⟩ := h.ints 0 h0
    rw [ha] at he
    cases he

set_option maxRecDepth 100000 in
set_option maxHeartbeats 4000000 in
theorem OwnState_any (p : Pl) (s : St) (w : World) (hs : s.At w) (f : Formed p s) :
    Calls Try.prog 51 #[s.val] w fun e w' => ∃ s' : St, e = .returned s'.val ∧ SameT s' s ∧ OwnS w.heap.size w' s' ∧ Below w.heap.size w w' := by
  obtain ⟨W0, hW, hWB, X0, Z0⟩ : ∃ W, ((w.alloc (.cells s.cells 31)).alloc (.cells #[.slice .none 0 0, .slice .none 0 0, .slice .none 0 0, .slice .none 0 0, .slice .none 0 0, .slice .none 0 0, .slice .none 0 0] 31)) = W ∧ Below w.heap.size w W ∧ Blk W w.heap.size 31 7 (fun j => s.cells.getD j default) ∧ Blk W (w.heap.size + 1) 31 7 (fun _ => .slice .none 0 0) :=
    ⟨_, rfl, two_below _ _ _, (Blk.mk' rfl rfl).alloc _, (Blk.mk' (cur := #[.slice .none 0 0, .slice .none 0 0, .slice .none 0 0, .slice .none 0 0, .slice .none 0 0, .slice .none 0 0, .slice .none 0 0]) (by simp) rfl).congr (fun j hj => by match j, hj with | 0, _ => rfl | 1, _ => rfl | 2, _ => rfl | 3, _ => rfl | 4, _ => rfl | 5, _ => rfl | 6, _ => rfl)⟩
  have HW : Hid ((w.alloc (.cells #[.slice s.on.a s.on.n s.on.c, .slice s.os.a s.os.n s.os.c, .slice s.hs.a s.hs.n s.hs.c, .slice s.ms.a s.ms.n s.ms.c, .slice s.si.a s.si.n s.si.c, .slice s.so.a s.so.n s.so.c, .slice s.sf.a s.sf.n s.sf.c] 31)).alloc (.cells #[.slice .none 0 0, .slice .none 0 0, .slice .none 0 0, .slice .none 0 0, .slice .none 0 0, .slice .none 0 0, .slice .none 0 0] 31) = W0) := hW
  have HS : Hid (s.At W0) := hs.below hWB
  have HF : Hid (Formed p s) := f
  have HC : Hid (∀ wk, Below W0.heap.size W0 wk → Boxed wk w.heap.size s ∧ Blk wk (w.heap.size + 1) 31 7 (fun _ => .slice .none 0 0) ∧ s.At wk ∧ Below w.heap.size w wk) := fun wk h => ⟨Boxed.of (X0.below h), Z0.below h, (hs.below hWB).below h, hWB.trans (h.mono hWB.size)⟩
  have hsz0 := hWB.size
  have zlt := Z0.lt
  have ns1 := f.sh.pl.ns1
  have ns3 := f.sh.pl.ns3
  have h72 := f.hs72
  have ms8 := f.ms8
  obtain ⟨l1, c0, c1, c2, c3, c4, c5, c6⟩ := Boxed.of X0
  have r0 : ∀ d os, (grow (redrawn W0 d) os).cell? ⟨w.heap.size, 0, none⟩ = some (.slice s.on.a s.on.n s.on.c) := fun d os => cell_regrown c0 d os
  have r2 : ∀ d os, (grow (redrawn W0 d) os).cell? ⟨w.heap.size, 2, none⟩ = some (.slice s.hs.a s.hs.n s.hs.c) := fun d os => cell_regrown c2 d os
  have r3 : ∀ d os, (grow (redrawn W0 d) os).cell? ⟨w.heap.size, 3, none⟩ = some (.slice s.ms.a s.ms.n s.ms.c) := fun d os => cell_regrown c3 d os
  have r4 : ∀ d os, (grow (redrawn W0 d) os).cell? ⟨w.heap.size, 4, none⟩ = some (.slice s.si.a s.si.n s.si.c) := fun d os => cell_regrown c4 d os
  have r5 : ∀ d os, (grow (redrawn W0 d) os).cell? ⟨w.heap.size, 5, none⟩ = some (.slice s.so.a s.so.n s.so.c) := fun d os => cell_regrown c5 d os
  have r6 : ∀ d os, (grow (redrawn W0 d) os).cell? ⟨w.heap.size, 6, none⟩ = some (.slice s.sf.a s.sf.n s.sf.c) := fun d os => cell_regrown c6 d os
  obtain ⟨iI, hI, hI0, hI1, hI2⟩ := info_parts infoInt
  obtain ⟨iH, hH, hH0, hH1, hH2⟩ := info_parts infoHoldC
  obtain ⟨iM, hM, hM0, hM1, hM2⟩ := info_parts infoMoveC
  obtain ⟨iL, hL, hL0, hL1, hL2⟩ := info_parts infoLineC
  obtain ⟨iO, hO, hO0, hO1, hO2⟩ := info_parts infoOrderC
  clear hW X0 Z0 hs f c0 c1 c2 c3 c4 c5 c6
  unfold St.val
  go_enter Try.func51, Try.ntmps51
  go_wp2_with fail
  rw [HW.out]
  refine wp_region_made6 (fun w' => ∃ p : Regrown, w' = grow (redrawn W0 p.d) p.os) [0, 1, 4, 5, 8, 9, 12, 13, 16, 17, 20, 21] [2, 3, 6, 7, 10, 11, 14, 15, 18, 19, 22, 23, 24] [(false, 25)] (by kernel_rfl) (by kernel_rfl) (by kernel_rfl) (by kernel_rfl) (by kernel_rfl) (by kernel_rfl) (by kernel_rfl) (by kernel_rfl) (by kernel_rfl) (regrown_of_below ((Below.refl _ _).drew)) ?_
  simp only [picks, List.drop_succ_cons, List.drop_zero, List.take_succ_cons, List.take_zero, List.cons_append, List.nil_append]
  repeat (go_big_quiet_step (fail))
  refine wpQuiet_nil ?_
  clear r0 r2 r3 r4 r5 r6
  refine ⟨fun j v g wk => match j with | 2 => DOn w.heap.size s v g wk | 6 => DHs w.heap.size 65 s.hs v g wk | 10 => DHs w.heap.size 70 s.ms v g wk | 14 => DInts w.heap.size s.si v g wk | 18 => DInts w.heap.size s.so v g wk | 22 => DInts w.heap.size s.sf v g wk | 23 => DAgg w.heap.size s v g wk | 24 => BoxAt W0.heap.size v g wk | _ => DE v g,
    ?zmono, ?zlow, ?zstep, ?zdone⟩
  case zmono =>
    intro j hj v g w w' hB h
    simp only [List.mem_cons, List.not_mem_nil, or_false] at hj
    rcases hj with rfl | rfl | rfl | rfl | rfl | rfl | rfl | rfl | rfl | rfl | rfl | rfl | rfl
    · exact DOn.below h hB
    · exact h
    · exact DHs.below h hB
    · exact h
    · exact DHs.below h hB
    · exact h
    · exact DInts.below h hB
    · exact h
    · exact DInts.below h hB
    · exact h
    · exact DInts.below h hB
    · exact DAgg.below h hB
    · exact BoxAt.below h hB
  case zlow =>
    intro j hj v g w h
    simp only [List.mem_cons, List.not_mem_nil, or_false] at hj
    rcases hj with rfl | rfl | rfl | rfl | rfl | rfl | rfl | rfl | rfl | rfl | rfl | rfl | rfl
    · exact DOn.lt h
    · obtain ⟨_, h1, _⟩ := h; rw [h1]; intro x hx; simp at hx
    · obtain ⟨_, h1, _⟩ := h; rw [h1]; intro x hx; simp at hx
    · obtain ⟨_, h1, _⟩ := h; rw [h1]; intro x hx; simp at hx
    · obtain ⟨_, h1, _⟩ := h; rw [h1]; intro x hx; simp at hx
    · obtain ⟨_, h1, _⟩ := h; rw [h1]; intro x hx; simp at hx
    · exact DInts.lt h
    · obtain ⟨_, h1, _⟩ := h; rw [h1]; intro x hx; simp at hx
    · exact DInts.lt h
    · obtain ⟨_, h1, _⟩ := h; rw [h1]; intro x hx; simp at hx
    · exact DInts.lt h
    · obtain ⟨h1, _⟩ := h; rw [h1]; intro x hx; simp at hx
    · exact BoxAt.lt h
  case zstep =>
    intro i hi
    simp only [List.mem_cons, List.not_mem_nil, or_false] at hi
    rcases hi with rfl | rfl | rfl | rfl | rfl | rfl | rfl | rfl | rfl | rfl | rfl | rfl | rfl
    · intro V G wk K hS hd hA hK
      have hX := below_of_regrown hS
      have q := hX.size
      refine wpOp_list 2 rfl ?_
      simp only [putAll, dstOf, List.getElem?_toArray, List.getElem?_cons_succ, List.getElem?_cons_zero, Act.put, List.setIfInBounds_toArray, List.set_cons_succ, List.set_cons_zero] at hK ⊢
      go_wp2_with fail
      refine (ownOn_any s.on wk (HS.out.on.below hX) (by rw [HF.out.sh.n]; exact HF.out.sh.pl.nb6) (by rw [HF.out.sh.n]; exact HF.out.sh.pl.nb1) (fun i hi => by rw [HF.out.sh.len i hi]; exact ⟨ns1, ns3⟩)).mono ?_
      rintro e w2 ⟨g0, c0, Gr, Cr, rfl, a1, a1', a1'', a2, a3, a4, hB2⟩
      go_wp2_with fail
      refine hK _ ((List.range s.on.n).map Gr) _ (regrown_of_below (hX.trans (hB2.mono hX.size))) hB2 (fun x hx => ?_) ⟨g0, c0, Gr, Cr, rfl, by omega, a1', a1'', a2, fun i hi => ⟨by have := (a3 i hi).1; omega, (a3 i hi).2⟩, a4, rfl⟩
      obtain ⟨i, hi, rfl⟩ := List.mem_map.1 hx
      exact (a3 i (List.mem_range.1 hi)).1
    · intro V G wk K hS hd hA hK
      have hX := below_of_regrown hS
      refine wpOp_list 3 rfl ?_
      simp only [putAll, dstOf, List.getElem?_toArray, List.getElem?_cons_succ, List.getElem?_cons_zero, Act.put, List.setIfInBounds_toArray, List.set_cons_succ, List.set_cons_zero] at hK ⊢
      go_wp2_with fail
      exact hK _ [] _ (regrown_of_below (hX.alloc hX.size _)) ((Below.refl _ _).alloc (Nat.le_refl _) _) (fun x hx => by simp at hx) ⟨wk.heap.size, rfl, rfl⟩
    · intro V G wk K hS hd hA hK
      have hX := below_of_regrown hS
      have q := hX.size
      obtain ⟨B, -, h3⟩ : DE (V 3) (G 3) := hd 3 (List.contains_iff_mem.1 (by kernel_rfl)) (by simp)
      refine wpOp_list 6 rfl ?_
      simp only [putAll, dstOf, List.getElem?_toArray, List.getElem?_cons_succ, List.getElem?_cons_zero, Act.put, List.setIfInBounds_toArray, List.set_cons_succ, List.set_cons_zero, h3] at hK ⊢
      go_wp2_with (at_builtin; refine wp_append_empty wk rfl (.tmp 8) (.tmp 10) 28 rfl 65 iH (.agg #[.int .i64 0, .int .i64 0, .int .i64 0, .int .i64 0]) 4 32 Try.underlying28 hH hH0 hH1 hH2 rfl (by decide) B rfl s.hs.a s.hs.n s.hs.c (flatH s.hs.n s.hs.z) rfl (by rw [flatH_len]) (hs_news (HS.out.hs.below hX)) (flatH_one _ _) (hs_none (HS.out.hs.below hX)) (by unfold maxLen; omega) (by omega) ?_ ?_)
      · intro h0
        exact wpList_end (hK _ [] _ hS (Below.refl _ _) (fun x hx => by simp at hx) ⟨⟨some ⟨B, 0, none⟩, 0, 0, s.hs.z⟩, rfl, rfl, cloned_none B h0⟩)
      · intro h0 v' w1 hown hgrow
        have hB1 : Below wk.heap.size wk w1 := (Below.refl _ wk).grown hgrow (Nat.le_refl _) (by intro k hk; cases hk)
        obtain ⟨s', rfl, hc⟩ := cloned_grow (A := w.heap.size) h0 hown (by omega)
        exact wpList_end (hK _ [] _ (regrown_of_below (hX.trans (hB1.mono hX.size))) hB1 (fun x hx => by simp at hx) ⟨s', rfl, rfl, hc⟩)
    · intro V G wk K hS hd hA hK
      have hX := below_of_regrown hS
      refine wpOp_list 7 rfl ?_
      simp only [putAll, dstOf, List.getElem?_toArray, List.getElem?_cons_succ, List.getElem?_cons_zero, Act.put, List.setIfInBounds_toArray, List.set_cons_succ, List.set_cons_zero] at hK ⊢
      go_wp2_with fail
      exact hK _ [] _ (regrown_of_below (hX.alloc hX.size _)) ((Below.refl _ _).alloc (Nat.le_refl _) _) (fun x hx => by simp at hx) ⟨wk.heap.size, rfl, rfl⟩
    · intro V G wk K hS hd hA hK
      have hX := below_of_regrown hS
      have q := hX.size
      obtain ⟨B, -, h3⟩ : DE (V 7) (G 7) := hd 7 (List.contains_iff_mem.1 (by kernel_rfl)) (by simp)
      refine wpOp_list 10 rfl ?_
      simp only [putAll, dstOf, List.getElem?_toArray, List.getElem?_cons_succ, List.getElem?_cons_zero, Act.put, List.setIfInBounds_toArray, List.set_cons_succ, List.set_cons_zero, h3] at hK ⊢
      go_wp2_with (at_builtin; refine wp_append_empty wk rfl (.tmp 12) (.tmp 14) 29 rfl 70 iM (.agg #[.int .i64 0, .int .i64 0, .int .i64 0, .int .i64 0]) 4 32 Try.underlying29 hM hM0 hM1 hM2 rfl (by decide) B rfl s.ms.a s.ms.n s.ms.c (flatH s.ms.n s.ms.z) rfl (by rw [flatH_len]) (hs_news (HS.out.ms.below hX)) (flatH_one _ _) (hs_none (HS.out.ms.below hX)) (by unfold maxLen; omega) (by omega) ?_ ?_)
      · intro h0
        exact wpList_end (hK _ [] _ hS (Below.refl _ _) (fun x hx => by simp at hx) ⟨⟨some ⟨B, 0, none⟩, 0, 0, s.ms.z⟩, rfl, rfl, cloned_none B h0⟩)
      · intro h0 v' w1 hown hgrow
        have hB1 : Below wk.heap.size wk w1 := (Below.refl _ wk).grown hgrow (Nat.le_refl _) (by intro k hk; cases hk)
        obtain ⟨s', rfl, hc⟩ := cloned_grow (A := w.heap.size) h0 hown (by omega)
        exact wpList_end (hK _ [] _ (regrown_of_below (hX.trans (hB1.mono hX.size))) hB1 (fun x hx => by simp at hx) ⟨s', rfl, rfl, hc⟩)
    · intro V G wk K hS hd hA hK
      have hX := below_of_regrown hS
      refine wpOp_list 11 rfl ?_
      simp only [putAll, dstOf, List.getElem?_toArray, List.getElem?_cons_succ, List.getElem?_cons_zero, Act.put, List.setIfInBounds_toArray, List.set_cons_succ, List.set_cons_zero] at hK ⊢
      go_wp2_with fail
      exact hK _ [] _ (regrown_of_below (hX.alloc hX.size _)) ((Below.refl _ _).alloc (Nat.le_refl _) _) (fun x hx => by simp at hx) ⟨wk.heap.size, rfl, rfl⟩
    · intro V G wk K hS hd hA hK
      have hX := below_of_regrown hS
      have q := hX.size
      obtain ⟨B, -, h3⟩ : DE (V 11) (G 11) := hd 11 (List.contains_iff_mem.1 (by kernel_rfl)) (by simp)
      have HN : Hid (s.si.n = p.ns) := HF.out.sin
      refine wpOp_list 14 rfl ?_
      simp only [putAll, dstOf, List.getElem?_toArray, List.getElem?_cons_succ, List.getElem?_cons_zero, Act.put, List.setIfInBounds_toArray, List.set_cons_succ, List.set_cons_zero, h3] at hK ⊢
      go_wp2_with (at_builtin; refine wp_append_empty wk rfl (.tmp 16) (.tmp 18) 23 rfl 3 iI (.int .i64 0) 1 8 Try.underlying23 hI hI0 hI1 hI2 rfl (by decide) B rfl s.si.a s.si.n s.si.c ((List.range s.si.n).map fun j => Value.int .i64 (s.si.z j)) rfl (by simp) (rw_news (HS.out.si.below hX)) (fun u hu => by obtain ⟨x, _, rfl⟩ := List.mem_map.1 hu; rfl) (rw_none (HS.out.si.below hX)) (by rw [HN.out]; unfold maxLen; omega) (by rw [HN.out]; omega) ?_ ?_)
      · intro h0
        exact absurd h0 (by rw [HN.out]; omega)
      · intro h0 v' w1 hown hgrow
        have hB1 : Below wk.heap.size wk w1 := (Below.refl _ wk).grown hgrow (Nat.le_refl _) (by intro k hk; cases hk)
        obtain ⟨gi, ci, rfl, hge, hdi⟩ := ints_grow (A := w.heap.size) h0 hown (by omega)
        exact wpList_end (hK _ [gi] _ (regrown_of_below (hX.trans (hB1.mono hX.size))) hB1 (fun x hx => by rw [List.mem_singleton] at hx; omega) hdi)
    · intro V G wk K hS hd hA hK
      have hX := below_of_regrown hS
      refine wpOp_list 15 rfl ?_
      simp only [putAll, dstOf, List.getElem?_toArray, List.getElem?_cons_succ, List.getElem?_cons_zero, Act.put, List.setIfInBounds_toArray, List.set_cons_succ, List.set_cons_zero] at hK ⊢
      go_wp2_with fail
      exact hK _ [] _ (regrown_of_below (hX.alloc hX.size _)) ((Below.refl _ _).alloc (Nat.le_refl _) _) (fun x hx => by simp at hx) ⟨wk.heap.size, rfl, rfl⟩
    · intro V G wk K hS hd hA hK
      have hX := below_of_regrown hS
      have q := hX.size
      obtain ⟨B, -, h3⟩ : DE (V 15) (G 15) := hd 15 (List.contains_iff_mem.1 (by kernel_rfl)) (by simp)
      have HN : Hid (s.so.n = p.ns) := HF.out.son
      refine wpOp_list 18 rfl ?_
      simp only [putAll, dstOf, List.getElem?_toArray, List.getElem?_cons_succ, List.getElem?_cons_zero, Act.put, List.setIfInBounds_toArray, List.set_cons_succ, List.set_cons_zero, h3] at hK ⊢
      go_wp2_with (at_builtin; refine wp_append_empty wk rfl (.tmp 20) (.tmp 22) 23 rfl 3 iI (.int .i64 0) 1 8 Try.underlying23 hI hI0 hI1 hI2 rfl (by decide) B rfl s.so.a s.so.n s.so.c ((List.range s.so.n).map fun j => Value.int .i64 (s.so.z j)) rfl (by simp) (rw_news (HS.out.so.below hX)) (fun u hu => by obtain ⟨x, _, rfl⟩ := List.mem_map.1 hu; rfl) (rw_none (HS.out.so.below hX)) (by rw [HN.out]; unfold maxLen; omega) (by rw [HN.out]; omega) ?_ ?_)
      · intro h0
        exact absurd h0 (by rw [HN.out]; omega)
      · intro h0 v' w1 hown hgrow
        have hB1 : Below wk.heap.size wk w1 := (Below.refl _ wk).grown hgrow (Nat.le_refl _) (by intro k hk; cases hk)
        obtain ⟨gi, ci, rfl, hge, hdi⟩ := ints_grow (A := w.heap.size) h0 hown (by omega)
        exact wpList_end (hK _ [gi] _ (regrown_of_below (hX.trans (hB1.mono hX.size))) hB1 (fun x hx => by rw [List.mem_singleton] at hx; omega) hdi)
    · intro V G wk K hS hd hA hK
      have hX := below_of_regrown hS
      refine wpOp_list 19 rfl ?_
      simp only [putAll, dstOf, List.getElem?_toArray, List.getElem?_cons_succ, List.getElem?_cons_zero, Act.put, List.setIfInBounds_toArray, List.set_cons_succ, List.set_cons_zero] at hK ⊢
      go_wp2_with fail
      exact hK _ [] _ (regrown_of_below (hX.alloc hX.size _)) ((Below.refl _ _).alloc (Nat.le_refl _) _) (fun x hx => by simp at hx) ⟨wk.heap.size, rfl, rfl⟩
    · intro V G wk K hS hd hA hK
      have hX := below_of_regrown hS
      have q := hX.size
      obtain ⟨B, -, h3⟩ : DE (V 19) (G 19) := hd 19 (List.contains_iff_mem.1 (by kernel_rfl)) (by simp)
      have HN : Hid (s.sf.n = p.ns) := HF.out.sfn
      refine wpOp_list 22 rfl ?_
      simp only [putAll, dstOf, List.getElem?_toArray, List.getElem?_cons_succ, List.getElem?_cons_zero, Act.put, List.setIfInBounds_toArray, List.set_cons_succ, List.set_cons_zero, h3] at hK ⊢
      go_wp2_with (at_builtin; refine wp_append_empty wk rfl (.tmp 24) (.tmp 26) 23 rfl 3 iI (.int .i64 0) 1 8 Try.underlying23 hI hI0 hI1 hI2 rfl (by decide) B rfl s.sf.a s.sf.n s.sf.c ((List.range s.sf.n).map fun j => Value.int .i64 (s.sf.z j)) rfl (by simp) (rw_news (HS.out.sf.below hX)) (fun u hu => by obtain ⟨x, _, rfl⟩ := List.mem_map.1 hu; rfl) (rw_none (HS.out.sf.below hX)) (by rw [HN.out]; unfold maxLen; omega) (by rw [HN.out]; omega) ?_ ?_)
      · intro h0
        exact absurd h0 (by rw [HN.out]; omega)
      · intro h0 v' w1 hown hgrow
        have hB1 : Below wk.heap.size wk w1 := (Below.refl _ wk).grown hgrow (Nat.le_refl _) (by intro k hk; cases hk)
        obtain ⟨gi, ci, rfl, hge, hdi⟩ := ints_grow (A := w.heap.size) h0 hown (by omega)
        exact wpList_end (hK _ [gi] _ (regrown_of_below (hX.trans (hB1.mono hX.size))) hB1 (fun x hx => by rw [List.mem_singleton] at hx; omega) hdi)
    · intro V G wk K hS hd hA hK
      have e2 : DOn w.heap.size s (V 2) (G 2) wk := hd 2 (List.contains_iff_mem.1 (by kernel_rfl)) (by simp)
      have e6 : DHs w.heap.size 65 s.hs (V 6) (G 6) wk := hd 6 (List.contains_iff_mem.1 (by kernel_rfl)) (by simp)
      have e10 : DHs w.heap.size 70 s.ms (V 10) (G 10) wk := hd 10 (List.contains_iff_mem.1 (by kernel_rfl)) (by simp)
      have e14 : DInts w.heap.size s.si (V 14) (G 14) wk := hd 14 (List.contains_iff_mem.1 (by kernel_rfl)) (by simp)
      have e18 : DInts w.heap.size s.so (V 18) (G 18) wk := hd 18 (List.contains_iff_mem.1 (by kernel_rfl)) (by simp)
      have e22 : DInts w.heap.size s.sf (V 22) (G 22) wk := hd 22 (List.contains_iff_mem.1 (by kernel_rfl)) (by simp)
      have HD : Hid (DAgg w.heap.size s (.agg #[V 2, .slice .none 0 0, V 6, V 10, V 14, V 18, V 22]) [] wk) := ⟨rfl, V 2, G 2, V 6, G 6, V 10, G 10, V 14, G 14, V 18, G 18, V 22, G 22, rfl, e2, e6, e10, e14, e18, e22, hA 2 (List.contains_iff_mem.1 (by kernel_rfl)) 14 (List.contains_iff_mem.1 (by kernel_rfl)) (by simp) (by simp) (by decide), hA 2 (List.contains_iff_mem.1 (by kernel_rfl)) 18 (List.contains_iff_mem.1 (by kernel_rfl)) (by simp) (by simp) (by decide), hA 2 (List.contains_iff_mem.1 (by kernel_rfl)) 22 (List.contains_iff_mem.1 (by kernel_rfl)) (by simp) (by simp) (by decide), hA 14 (List.contains_iff_mem.1 (by kernel_rfl)) 18 (List.contains_iff_mem.1 (by kernel_rfl)) (by simp) (by simp) (by decide), hA 14 (List.contains_iff_mem.1 (by kernel_rfl)) 22 (List.contains_iff_mem.1 (by kernel_rfl)) (by simp) (by simp) (by decide), hA 18 (List.contains_iff_mem.1 (by kernel_rfl)) 22 (List.contains_iff_mem.1 (by kernel_rfl)) (by simp) (by simp) (by decide)⟩
      obtain ⟨g0, c0, Gr, Cr, v2, -⟩ := e2
      obtain ⟨h', -, v6, -⟩ := e6
      obtain ⟨m', -, v10, -⟩ := e10
      obtain ⟨B1, k1, -, v14, -⟩ := e14
      obtain ⟨B2, k2, -, v18, -⟩ := e18
      obtain ⟨B3, k3, -, v22, -⟩ := e22
      have HD2 := HD.out
      rw [v2, v6, v10, v14, v18, v22] at HD2
      have HD3 : Hid (DAgg w.heap.size s (.agg #[.slice (some ⟨g0, 0, none⟩) s.on.n c0, .slice .none 0 0, .slice h'.a h'.n h'.c, .slice m'.a m'.n m'.c, .slice (some ⟨B1, 0, none⟩) s.si.n k1, .slice (some ⟨B2, 0, none⟩) s.so.n k2, .slice (some ⟨B3, 0, none⟩) s.sf.n k3]) [] wk) := HD2
      clear HD HD2 hA hd
      refine wpOp_list 23 rfl ?_
      simp only [putAll, dstOf, List.getElem?_toArray, List.getElem?_cons_succ, List.getElem?_cons_zero, Act.put, List.setIfInBounds_toArray, List.set_cons_succ, List.set_cons_zero, v2, v6, v10, v14, v18, v22] at hK ⊢
      go_wp2_with fail
      exact hK _ [] _ hS (Below.refl _ _) (fun x hx => by simp at hx) HD3.out
    · intro V G wk K hS hd hA hK
      have hX := below_of_regrown hS
      refine wpOp_list 24 rfl ?_
      simp only [putAll, dstOf, List.getElem?_toArray, List.getElem?_cons_succ, List.getElem?_cons_zero, Act.put, List.setIfInBounds_toArray, List.set_cons_succ, List.set_cons_zero] at hK ⊢
      go_wp2_with fail
      exact hK _ [wk.heap.size] _ (regrown_of_below (hX.alloc hX.size _)) ((Below.refl _ _).alloc (Nat.le_refl _) _) (fun x hx => by rw [List.mem_singleton] at hx; omega) ⟨wk.heap.size, rfl, rfl, hX.size, (Blk.mk' (cur := #[.slice .none 0 0, .slice .none 0 0, .slice .none 0 0, .slice .none 0 0, .slice .none 0 0, .slice .none 0 0, .slice .none 0 0]) rfl rfl).congr (fun j hj => by match j, hj with | 0, _ => rfl | 1, _ => rfl | 2, _ => rfl | 3, _ => rfl | 4, _ => rfl | 5, _ => rfl | 6, _ => rfl)⟩
  case zdone =>
    intro V G wk hS hD hA
    obtain ⟨-, x2, g2, x6, g6, x10, g10, x14, g14, x18, g18, x22, g22, v23, ⟨g0, c0, Gr, Cr, rfl, a1, a1', a1'', a2, a3, a4, rfl⟩, ⟨h', -, rfl, d1, d2, d3, -⟩, ⟨m', -, rfl, f1, f2, f3, f4⟩, ⟨B1, k1, rfl, rfl, i1, i2, i3, i4⟩, ⟨B2, k2, rfl, rfl, j1, j2, j3, j4⟩, ⟨B3, k3, rfl, rfl, l2, l3, l4, l5⟩, n1, n2, n3, n4, n5, n6⟩ : DAgg w.heap.size s (V 23) (G 23) wk := hD 23 (by simp)
    obtain ⟨BX, -, h24, mX, kX⟩ : BoxAt W0.heap.size (V 24) (G 24) wk := hD 24 (by simp)
    have hX := below_of_regrown hS
    have n12 : B1 ≠ B2 := fun e => n4 B1 (by simp) (by rw [e]; simp)
    have n13 : B1 ≠ B3 := fun e => n5 B1 (by simp) (by rw [e]; simp)
    have n23 : B2 ≠ B3 := fun e => n6 B2 (by simp) (by rw [e]; simp)
    have nr : ∀ i, i < s.on.n → Gr i ≠ B1 ∧ Gr i ≠ B2 ∧ Gr i ≠ B3 := fun i hi => by
      have hm : Gr i ∈ (List.range s.on.n).map Gr := List.mem_map.2 ⟨i, List.mem_range.2 hi, rfl⟩
      exact ⟨fun e => n1 _ hm (by rw [e]; simp), fun e => n2 _ hm (by rw [e]; simp), fun e => n3 _ hm (by rw [e]; simp)⟩
    have HR : Hid (OwnS w.heap.size wk ⟨⟨some ⟨g0, 0, none⟩, s.on.n, c0, fun i => ⟨some ⟨Gr i, 0, none⟩, (s.on.r i).n, Cr i, (s.on.r i).z⟩⟩, ⟨none, 0, 0, fun _ => ⟨0, ⟨none, 0, 0, fun _ => ⟨0, 0, 0, 0⟩⟩⟩⟩, h', m', ⟨some ⟨B1, 0, none⟩, s.si.n, k1, s.si.z⟩, ⟨some ⟨B2, 0, none⟩, s.so.n, k2, s.so.z⟩, ⟨some ⟨B3, 0, none⟩, s.sf.n, k3, s.sf.z⟩⟩) := by
      refine ⟨⟨g0, rfl, a1, a1', a1'', a2⟩, fun i hi => ⟨Gr i, rfl, (a3 i hi).1, (a3 i hi).2.1, (a3 i hi).2.2.1, (a3 i hi).2.2.2⟩, fun i j hij hj => ?_, ⟨Nat.le_refl _, Nat.zero_le _, fun h => absurd h (Nat.lt_irrefl _), fun i hi => absurd hi (Nat.not_lt_zero _), fun i j _ hj => absurd hj (Nat.not_lt_zero _), Or.inl rfl⟩, d3, f3, f4, ⟨B1, rfl, i1, i2, i3, i4⟩, ⟨B2, rfl, j1, j2, j3, j4⟩, ⟨B3, rfl, l2, l3, l4, l5⟩, ?_, ?_, ?_, fun i hi => ?_⟩
      · have := a4 i j hij hj
        simp only [ne_eq, Option.some.injEq, Addr.mk.injEq, and_true]
        omega
      · intro e; simp only [Option.some.injEq, Addr.mk.injEq, and_true] at e; exact n12 e
      · intro e; simp only [Option.some.injEq, Addr.mk.injEq, and_true] at e; exact n13 e
      · intro e; simp only [Option.some.injEq, Addr.mk.injEq, and_true] at e; exact n23 e
      · obtain ⟨x1, x2, x3⟩ := nr i hi
        exact ⟨fun e => by simp only [Option.some.injEq, Addr.mk.injEq, and_true] at e; exact x1 e, fun e => by simp only [Option.some.injEq, Addr.mk.injEq, and_true] at e; exact x2 e, fun e => by simp only [Option.some.injEq, Addr.mk.injEq, and_true] at e; exact x3 e⟩
    have HCT : Hid ((h'.n = s.hs.n ∧ ∀ j, j < h'.n → h'.z j = s.hs.z j) ∧ (m'.n = s.ms.n ∧ ∀ j, j < m'.n → m'.z j = s.ms.z j)) := ⟨⟨d1, fun j hj => d2 j (by rw [← d1]; exact hj)⟩, ⟨f1, fun j hj => f2 j (by rw [← f1]; exact hj)⟩⟩
    clear hD hA a1 a1' a1'' a2 a3 a4 d1 d2 d3 f1 f2 f3 f4 i1 i2 i3 i4 j1 j2 j3 j4 l2 l3 l4 l5 n1 n2 n3 n4 n5 n6 n12 n13 n23 nr hS
    have HKX : Hid (Blk wk BX 31 7 (fun _ => .slice .none 0 0)) := kX
    have xl := kX.lt
    have zf0 := kX.frozen 0
    have zc0 := kX.cell (j := 0) (by decide)
    have zf1 := kX.frozen 1
    have zc1 := kX.cell (j := 1) (by decide)
    have zf2 := kX.frozen 2
    have zc2 := kX.cell (j := 2) (by decide)
    have zf3 := kX.frozen 3
    have zc3 := kX.cell (j := 3) (by decide)
    have zf4 := kX.frozen 4
    have zc4 := kX.cell (j := 4) (by decide)
    have zf5 := kX.frozen 5
    have zc5 := kX.cell (j := 5) (by decide)
    have zf6 := kX.frozen 6
    have zc6 := kX.cell (j := 6) (by decide)
    clear kX
    simp only [putAll, dstOf, List.getElem?_toArray, List.getElem?_cons_succ, List.getElem?_cons_zero, Act.put, List.setIfInBounds_toArray, List.set_cons_succ, List.set_cons_zero, v23, h24]
    refine wpSeq_one 25 rfl ?_
    go_wp2_with fail
    have KZ := set7_blk HKX.out (.slice (some ⟨g0, 0, none⟩) s.on.n c0) (.slice .none 0 0) (.slice h'.a h'.n h'.c) (.slice m'.a m'.n m'.c) (.slice (some ⟨B1, 0, none⟩) s.si.n k1) (.slice (some ⟨B2, 0, none⟩) s.so.n k2) (.slice (some ⟨B3, 0, none⟩) s.sf.n k3)
    have hb := set7_below hX mX (.slice (some ⟨g0, 0, none⟩) s.on.n c0) (.slice .none 0 0) (.slice h'.a h'.n h'.c) (.slice m'.a m'.n m'.c) (.slice (some ⟨B1, 0, none⟩) s.si.n k1) (.slice (some ⟨B2, 0, none⟩) s.so.n k2) (.slice (some ⟨B3, 0, none⟩) s.sf.n k3)
    have HR2 := OwnS.set7 HR.out HKX.out (.slice (some ⟨g0, 0, none⟩) s.on.n c0) (.slice .none 0 0) (.slice h'.a h'.n h'.c) (.slice m'.a m'.n m'.c) (.slice (some ⟨B1, 0, none⟩) s.si.n k1) (.slice (some ⟨B2, 0, none⟩) s.so.n k2) (.slice (some ⟨B3, 0, none⟩) s.sf.n k3)
    unfold set7 at KZ hb HR2
    generalize (((((((wk.setCell { block := BX, off := 0 } (Value.slice (some { block := g0, off := 0 }) s.on.n c0)).setCell { block := BX, off := 1 } (Value.slice none 0 0)).setCell { block := BX, off := 2 } (Value.slice h'.a h'.n h'.c)).setCell { block := BX, off := 3 } (Value.slice m'.a m'.n m'.c)).setCell { block := BX, off := 4 } (Value.slice (some { block := B1, off := 0 }) s.si.n k1)).setCell { block := BX, off := 5 } (Value.slice (some { block := B2, off := 0 }) s.so.n k2)).setCell { block := BX, off := 6 } (Value.slice (some { block := B3, off := 0 }) s.sf.n k3)) = WZ at *
    clear hX zf0 zc0 zf1 zc1 zf2 zc2 zf3 zc3 zf4 zc4 zf5 zc5 zf6 zc6 xl v23 h24
    refine ⟨Late.no (regrown_of_below hb), ?_⟩
    refine NoPanic.normal ?_
    go_wp2_with fail
    have HL0 : Hid (OwnL w.heap.size W0.heap.size s ⟨⟨some ⟨g0, 0, none⟩, s.on.n, c0, fun i => ⟨some ⟨Gr i, 0, none⟩, (s.on.r i).n, Cr i, (s.on.r i).z⟩⟩, ⟨none, 0, 0, fun _ => ⟨0, ⟨none, 0, 0, fun _ => ⟨0, 0, 0, 0⟩⟩⟩⟩, h', m', ⟨some ⟨B1, 0, none⟩, s.si.n, k1, s.si.z⟩, ⟨some ⟨B2, 0, none⟩, s.so.n, k2, s.so.z⟩, ⟨some ⟨B3, 0, none⟩, s.sf.n, k3, s.sf.z⟩⟩ BX 0 WZ) := ⟨.slice .none 0 0, fun _ => ⟨0, ⟨none, 0, 0, fun _ => ⟨0, 0, 0, 0⟩⟩⟩, KZ, World.ownsRow_nil _ _ _ _, fun i hi => absurd hi (Nat.not_lt_zero _), fun i j _ hj => absurd hj (Nat.not_lt_zero _), HR2⟩
    clear KZ HR HR2 HKX
    have os4 := HF.out.os4
    have ole := HS.out.os.le
    have ocap := HS.out.os.cap
    unfold maxLen at ocap
    go_loopw [4] (fun i wk => ∃ k : Nat, k ≤ s.os.n ∧ i = .int .i64 k ∧ Hid (OwnL w.heap.size W0.heap.size s ⟨⟨some ⟨g0, 0, none⟩, s.on.n, c0, fun i => ⟨some ⟨Gr i, 0, none⟩, (s.on.r i).n, Cr i, (s.on.r i).z⟩⟩, ⟨none, 0, 0, fun _ => ⟨0, ⟨none, 0, 0, fun _ => ⟨0, 0, 0, 0⟩⟩⟩⟩, h', m', ⟨some ⟨B1, 0, none⟩, s.si.n, k1, s.si.z⟩, ⟨some ⟨B2, 0, none⟩, s.so.n, k2, s.so.z⟩, ⟨some ⟨B3, 0, none⟩, s.sf.n, k3, s.sf.z⟩⟩ BX k wk) ∧ Below W0.heap.size W0 wk) (fun i _ => s.os.n - (intOf i).toNat)
    case atStart => exact ⟨0, Nat.zero_le _, rfl, HL0, hb⟩
    case round =>
      clear HL0 hb
      obtain ⟨k, hk, rfl, HL, hB⟩ := hrel
      obtain ⟨⟨lb, b0, b1, b2, b3, b4, b5, b6⟩, hz, hsk, hBw⟩ := HC.out wr hB
      by_cases hlt : k < s.os.n
      · obtain ⟨v, Ls, kX, ho, hln, hap, hOS⟩ := HL.out
        obtain ⟨bo, oo, hoa, hbo, y0, y1, hlk⟩ := hsk.os.ods k hlt
        have l3 := HF.out.lns k hlt
        have HG : Hid (wr.ownsRow W0.heap.size 51 2 v k (flatO k Ls) ∧ (∀ i, i < k → LineOK w.heap.size s Ls i wr) ∧ (∀ i j, i < j → j < k → (Ls i).ls.a ≠ (Ls j).ls.a) ∧ OwnS w.heap.size wr ⟨⟨some ⟨g0, 0, none⟩, s.on.n, c0, fun i => ⟨some ⟨Gr i, 0, none⟩, (s.on.r i).n, Cr i, (s.on.r i).z⟩⟩, ⟨none, 0, 0, fun _ => ⟨0, ⟨none, 0, 0, fun _ => ⟨0, 0, 0, 0⟩⟩⟩⟩, h', m', ⟨some ⟨B1, 0, none⟩, s.si.n, k1, s.si.z⟩, ⟨some ⟨B2, 0, none⟩, s.so.n, k2, s.so.z⟩, ⟨some ⟨B3, 0, none⟩, s.sf.n, k3, s.sf.z⟩⟩) := ⟨ho, hln, hap, hOS⟩
        have HX : Hid (Blk wr BX 31 7 (fun j => (#[.slice (some ⟨g0, 0, none⟩) s.on.n c0, v, .slice h'.a h'.n h'.c, .slice m'.a m'.n m'.c, .slice (some ⟨B1, 0, none⟩) s.si.n k1, .slice (some ⟨B2, 0, none⟩) s.so.n k2, .slice (some ⟨B3, 0, none⟩) s.sf.n k3] : Array Value).getD j default)) := kX
        have HLK : Hid ((s.os.z k).ls.At wr) := hlk
        have qk : (0 : Int) ≤ (k : Int) := by omega
        rw [hoa] at b1
        have r0 : ∀ d os, (grow (redrawn wr d) os).cell? ⟨BX, 1, none⟩ = some v := fun d os => cell_regrown (kX.cell (j := 1) (by decide)) d os
        have r1 : ∀ d os, (grow (redrawn wr d) os).cell? ⟨w.heap.size, 1, none⟩ = some (.slice (some ⟨bo, oo, none⟩) s.os.n s.os.c) := fun d os => cell_regrown b1 d os
        have r2 : ∀ d os, (grow (redrawn wr d) os).cell? ⟨bo, oo + k * 2, none⟩ = some (.int .i64 (s.os.z k).k) := fun d os => cell_regrown y0 d os
        have r3 : ∀ d os, (grow (redrawn wr d) os).cell? ⟨bo, oo + k * 2 + 1, none⟩ = some (.slice (s.os.z k).ls.a (s.os.z k).ls.n (s.os.z k).ls.c) := fun d os => cell_regrown y1 d os
        clear kX ho hln hap hOS hz hoa y0 y1 hlk b0 b2 b3 b4 b5 b6 hsk HL
        go_wp2_with fail
        refine wp_region_made6 (fun w' => ∃ p : Regrown, w' = grow (redrawn wr p.d) p.os) [0, 1, 2, 3, 4, 5, 6, 7, 9, 10, 11, 12, 13, 14] [8, 15, 16, 17] [(true, 18), (true, 19), (true, 20)] (by kernel_rfl) (by kernel_rfl) (by kernel_rfl) (by kernel_rfl) (by kernel_rfl) (by kernel_rfl) (by kernel_rfl) (by kernel_rfl) (by kernel_rfl) (regrown_of_below ((Below.refl _ _).drew)) ?_
        simp only [picks, List.drop_succ_cons, List.drop_zero, List.take_succ_cons, List.take_zero, List.cons_append, List.nil_append]
        repeat (go_big_quiet_step (fail))
        refine wpQuiet_nil ?_
        clear r0 r1 r2 r3
        refine ⟨fun j v g wk => match j with | 15 => DHs wr.heap.size 53 (s.os.z k).ls v g wk | 16 => D16 wr.heap.size (s.os.z k) v g wk | 17 => D17 wr.heap.size (s.os.z k) v g wk | _ => DE v g,
          List.forall_mem_cons.2 ⟨fun v g w w' _ h => h, List.forall_mem_cons.2 ⟨fun v g w w' hB h => DHs.below h hB, List.forall_mem_cons.2 ⟨fun v g w w' hB h => D16.below h hB, List.forall_mem_cons.2 ⟨fun v g w w' hB h => D17.below h hB, List.forall_mem_nil _⟩⟩⟩⟩,
          List.forall_mem_cons.2 ⟨fun v g w h => by obtain ⟨_, h1, _⟩ := h; rw [h1]; intro x hx; simp at hx, List.forall_mem_cons.2 ⟨fun v g w h => by obtain ⟨_, h1, _⟩ := h; rw [h1]; intro x hx; simp at hx, List.forall_mem_cons.2 ⟨fun v g w h => by obtain ⟨_, h1, _⟩ := h; rw [h1]; intro x hx; simp at hx, List.forall_mem_cons.2 ⟨fun v g w h => by obtain ⟨_, _, h1, _⟩ := h; rw [h1]; intro x hx; simp at hx, List.forall_mem_nil _⟩⟩⟩⟩,
          List.forall_mem_cons.2 ⟨?zt8, List.forall_mem_cons.2 ⟨?zt15, List.forall_mem_cons.2 ⟨?zt16, List.forall_mem_cons.2 ⟨?zt17, List.forall_mem_nil _⟩⟩⟩⟩, ?ztdone⟩
        case zt8 =>
          intro V G wk K hS hd hA hK
          have hX := below_of_regrown hS
          refine wpOp_list 8 rfl ?_
          simp only [putAll, dstOf, List.getElem?_toArray, List.getElem?_cons_succ, List.getElem?_cons_zero, Act.put, List.setIfInBounds_toArray, List.set_cons_succ, List.set_cons_zero] at hK ⊢
          go_wp2_with fail
          exact hK _ [] _ (regrown_of_below (hX.alloc hX.size _)) ((Below.refl _ _).alloc (Nat.le_refl _) _) (fun x hx => by simp at hx) ⟨wk.heap.size, rfl, rfl⟩
        case zt15 =>
          intro V G wk K hS hd hA hK
          have hX := below_of_regrown hS
          have q := hX.size
          obtain ⟨B, -, h3⟩ : DE (V 8) (G 8) := hd 8 (List.contains_iff_mem.1 (by kernel_rfl)) (by simp)
          refine wpOp_list 15 rfl ?_
          simp only [putAll, dstOf, List.getElem?_toArray, List.getElem?_cons_succ, List.getElem?_cons_zero, Act.put, List.setIfInBounds_toArray, List.set_cons_succ, List.set_cons_zero, h3] at hK ⊢
          go_wp2_with (at_builtin; refine wp_append_empty wk rfl (.tmp 44) (.tmp 50) 49 rfl 53 iL (.agg #[.int .i64 0, .int .i64 0, .int .i64 0, .int .i64 0]) 4 32 Try.underlying49 hL hL0 hL1 hL2 rfl (by decide) B rfl (s.os.z k).ls.a (s.os.z k).ls.n (s.os.z k).ls.c (flatH (s.os.z k).ls.n (s.os.z k).ls.z) rfl (by rw [flatH_len]) (hs_news (HLK.out.below hX)) (flatH_one _ _) (hs_none (HLK.out.below hX)) (by unfold maxLen; omega) (by omega) ?_ ?_)
          · intro h0
            exact absurd h0 (by omega)
          · intro h0 v' w1 hown hgrow
            have hB1 : Below wk.heap.size wk w1 := (Below.refl _ wk).grown hgrow (Nat.le_refl _) (by intro k hk; cases hk)
            obtain ⟨s', rfl, hc⟩ := cloned_grow (A := wr.heap.size) h0 hown (by omega)
            exact wpList_end (hK _ [] _ (regrown_of_below (hX.trans (hB1.mono hX.size))) hB1 (fun x hx => by simp at hx) ⟨s', rfl, rfl, hc⟩)
        case zt16 =>
          intro V G wk K hS hd hA hK
          obtain ⟨s', -, h15, hc⟩ : DHs wr.heap.size 53 (s.os.z k).ls (V 15) (G 15) wk := hd 15 (List.contains_iff_mem.1 (by kernel_rfl)) (by simp)
          have HCL : Hid (Cloned wr.heap.size 53 (s.os.z k).ls wk s') := hc
          clear hc
          refine wpOp_list 16 rfl ?_
          simp only [putAll, dstOf, List.getElem?_toArray, List.getElem?_cons_succ, List.getElem?_cons_zero, Act.put, List.setIfInBounds_toArray, List.set_cons_succ, List.set_cons_zero, h15] at hK ⊢
          go_wp2_with fail
          exact hK _ [] _ hS (Below.refl _ _) (fun x hx => by simp at hx) ⟨s', rfl, rfl, HCL.out⟩
        case zt17 =>
          intro V G wk K hS hd hA hK
          have hX := below_of_regrown hS
          obtain ⟨s', -, h16, hc⟩ : D16 wr.heap.size (s.os.z k) (V 16) (G 16) wk := hd 16 (List.contains_iff_mem.1 (by kernel_rfl)) (by simp)
          have HCL : Hid (Cloned wr.heap.size 53 (s.os.z k).ls wk s') := hc
          clear hc
          refine wpOp_list 17 rfl ?_
          simp only [putAll, dstOf, List.getElem?_toArray, List.getElem?_cons_succ, List.getElem?_cons_zero, Act.put, List.setIfInBounds_toArray, List.set_cons_succ, List.set_cons_zero, h16] at hK ⊢
          go_wp2_with fail
          have hBa := (Below.refl wk.heap.size wk).alloc (Nat.le_refl _) (.cells #[.int .i64 (s.os.z k).k, .slice s'.a s'.n s'.c] 51)
          exact hK _ [] _ (regrown_of_below (hX.alloc hX.size _)) ((Below.refl _ _).alloc (Nat.le_refl _) _) (fun x hx => by simp at hx) ⟨wk.heap.size, s', rfl, rfl, hX.size, Blk.mk' rfl rfl, HCL.out.1, HCL.out.2.1, HCL.out.2.2.1.below hBa, HCL.out.2.2.2.below hBa⟩
        case ztdone =>
          intro V G' wk hS hD hA
          obtain ⟨BO, s', -, h17, m17, k17, e1, e2, ⟨o1, o2, o3, o4⟩, -⟩ : D17 wr.heap.size (s.os.z k) (V 17) (G' 17) wk := hD 17 (by simp)
          have hX := below_of_regrown hS
          have ho := owns_below HG.out.1 hX
          have hBk := hB.trans (hX.mono hB.size)
          have q0 := hB.size
          have q1 := hX.size
          obtain ⟨gB, ea, hgB, kB⟩ := o4 (by omega)
          clear hS hD hA
          have HE : Hid (s'.n = (s.os.z k).ls.n ∧ (∀ j, j < (s.os.z k).ls.n → s'.z j = (s.os.z k).ls.z j) ∧ s'.a = some ⟨gB, 0, none⟩ ∧ s'.n ≤ s'.c ∧ s'.c ≤ maxLen) := ⟨e1, e2, ea, o1, o2⟩
          have HKB : Hid (Blk wk gB 53 (s'.n * 4) (fun j => (flatH s'.n s'.z).getD j default)) := kB
          clear e1 e2 ea o1 o2 o3 o4 kB
          simp only [putAll, dstOf, List.getElem?_toArray, List.getElem?_cons_succ, List.getElem?_cons_zero, Act.put, List.setIfInBounds_toArray, List.set_cons_succ, List.set_cons_zero, h17]
          refine wpSeq_one 18 rfl ?_
          go_wp2_with (at_builtin; refine wpList_append_own _ rfl (.tmp 37) (.tmp 53) 27 rfl W0.heap.size 51 iO (.agg #[.int .i64 0, .slice none 0 0]) 2 32 Try.underlying27 hO hO0 hO1 hO2 rfl (by decide) _ _ _ rfl ho ⟨BO, 0, none⟩ 1 1 [.int .i64 (s.os.z k).k, .slice s'.a s'.n s'.c] rfl rfl ?zc1 ?zc2 ?zc3 ?zc4 ?zc5 ?_)
          case zc1 =>
            intro j u hj
            match j, hj with
            | 0, hj => simp at hj; subst hj; exact k17.cell (j := 0) (by decide)
            | 1, hj => simp at hj; subst hj; exact k17.cell (j := 1) (by decide)
          case zc2 => intro u hu; simp at hu; rcases hu with rfl | rfl <;> rfl
          case zc3 => unfold maxLen; omega
          case zc4 => omega
          case zc5 => omega
          intro v2 w2 hown2 hgrow2 hnil2
          have hlt2 := ho.lt
          have hBW2 : Below W0.heap.size W0 w2 := hBk.grown hgrow2 (by omega) (fun q hq => (hlt2 q hq).1)
          have kX2 := grown_keep ho hgrow2 (HX.out.below hX) (by decide)
          have kB2 := grown_keep ho hgrow2 HKB.out (by decide)
          have hln2 : ∀ i, i < k → LineOK w.heap.size s Ls i w2 := fun i hi => by
            obtain ⟨x1, x2, x3, B, x4, x5, x6, x7, x8⟩ := HG.out.2.1 i hi
            exact ⟨x1, x2, x3, B, x4, x5, x6, x7, grown_keep ho hgrow2 (x8.below hX) (by decide)⟩
          have hap2 : ∀ i, i < k → (Ls i).ls.a ≠ some ⟨gB, 0, none⟩ := fun i hi e => by
            obtain ⟨x1, x2, x3, B, x4, x5, x6, x7, x8⟩ := HG.out.2.1 i hi
            rw [x4] at e
            simp only [Option.some.injEq, Addr.mk.injEq, and_true] at e
            have := x8.lt
            omega
          have hOS2 := OwnS.grownO (HG.out.2.2.2.below hX) rfl rfl ho hgrow2
          have hv2 : ∃ g c, v2 = .slice (some ⟨g, 0, none⟩) (k + 1) c := by
            rcases hown2.2 with ⟨_, h0⟩ | ⟨g2, cap2, cur2, rfl, _⟩
            · omega
            · exact ⟨g2, cap2, rfl⟩
          have xl := kX2.lt
          have zf0 := kX2.frozen 1
          have zc0 := kX2.cell (j := 1) (by decide)
          have hst := hBW2.setCell (p := ⟨BX, 1, none⟩) mX v2
          have KB := kX2.set 1 v2
          have HN : Hid (OwnL w.heap.size W0.heap.size s ⟨⟨some ⟨g0, 0, none⟩, s.on.n, c0, fun i => ⟨some ⟨Gr i, 0, none⟩, (s.on.r i).n, Cr i, (s.on.r i).z⟩⟩, ⟨none, 0, 0, fun _ => ⟨0, ⟨none, 0, 0, fun _ => ⟨0, 0, 0, 0⟩⟩⟩⟩, h', m', ⟨some ⟨B1, 0, none⟩, s.si.n, k1, s.si.z⟩, ⟨some ⟨B2, 0, none⟩, s.so.n, k2, s.so.z⟩, ⟨some ⟨B3, 0, none⟩, s.sf.n, k3, s.sf.z⟩⟩ BX (k + 1) (w2.setCell ⟨BX, 1, none⟩ v2)) := by
            refine ⟨v2, fun i => if i = k then ⟨(s.os.z k).k, s'⟩ else Ls i, KB.congr (fun j hj => by match j, hj with | 0, _ => rfl | 1, _ => rfl | 2, _ => rfl | 3, _ => rfl | 4, _ => rfl | 5, _ => rfl | 6, _ => rfl), ?_, fun i hi => ?_, fun i j hij hj => ?_, hOS2.box kX2 1 v2⟩
            · have e : flatO (k + 1) (fun i => if i = k then ⟨(s.os.z k).k, s'⟩ else Ls i) = flatO k Ls ++ [.int .i64 (s.os.z k).k, .slice s'.a s'.n s'.c] := by
                rw [flatO, flatO_congr (z' := Ls) fun i hi => by rw [if_neg (by omega)], if_pos rfl]
                rfl
              rw [e]
              exact owns_set hown2 kX2 (by decide) _ _
            · by_cases hik : i = k
              · subst hik
                unfold LineOK
                dsimp only
                rw [if_pos rfl]
                exact ⟨rfl, HE.out.1, HE.out.2.1, gB, HE.out.2.2.1, by omega, HE.out.2.2.2.1, HE.out.2.2.2.2, kB2.other (a := ⟨BX, 1, none⟩) (Blk.ne kB2 kX2 (by decide)) _⟩
              · unfold LineOK
                dsimp only
                rw [if_neg hik]
                obtain ⟨x1, x2, x3, B, x4, x5, x6, x7, x8⟩ := hln2 i (by omega)
                exact ⟨x1, x2, x3, B, x4, x5, x6, x7, x8.other (a := ⟨BX, 1, none⟩) (Blk.ne x8 kX2 (by decide)) _⟩
            · dsimp only
              by_cases hjk : j = k
              · subst hjk
                rw [if_neg (by omega), if_pos rfl, HE.out.2.2.1]
                exact hap2 i hij
              · rw [if_neg (by omega), if_neg hjk]
                exact HG.out.2.2.1 i j hij (by omega)
          clear kB2 hln2 hap2 hOS2 KB hown2 kX2 ho hgrow2 hnil2 hlt2 k17 hX HG HX hBk HKB HE
          obtain ⟨g2, c2, rfl⟩ := hv2
          refine wpList_end ⟨Late.yes, ?_⟩
          refine wpSeq_one 19 rfl ?_
          go_wp2_with fail
          refine ⟨Late.yes, ?_⟩
          refine wpSeq_one 20 rfl ?_
          go_wp2_with fail
          refine ⟨Late.yes, ?_⟩
          refine NoPanic.normal ?_
          go_wp2_with fail
          go_roundw
          case rel => exact ⟨k + 1, by omega, by go_num, HN, hst⟩
          case measure => simp [intOf]; omega
      · have hkn : k = s.os.n := by omega
        subst hkn
        obtain ⟨v, Ls, kX, ho, hln, hap, hOS⟩ := HL.out
        have hv : ∃ va vc, v = .slice va s.os.n vc ∧ s.os.n ≤ vc ∧ vc ≤ maxLen ∧ (0 < s.os.n → ∃ g, va = some ⟨g, 0, none⟩ ∧ w.heap.size ≤ g ∧ Blk wr g 51 (s.os.n * 2) (fun j => (flatO s.os.n Ls).getD j default)) := by
          by_cases hv0 : v = .slice none 0 0
          · have h0 : s.os.n = 0 := by
              rcases ho.2 with ⟨_, h0⟩ | ⟨g2, cap2, cur2, h, _⟩
              · exact h0
              · rw [hv0] at h; cases h
            exact ⟨none, 0, by rw [hv0, h0], by omega, Nat.zero_le _, fun h => by omega⟩
          · obtain ⟨g, c, rfl, h1, h2, h3, h4⟩ := Blk.ofOwns ho hv0
            exact ⟨some ⟨g, 0, none⟩, c, rfl, h1, h2, fun _ => ⟨g, rfl, by omega, h4⟩⟩
        obtain ⟨va, vc, rfl, v1, v2, v3⟩ := hv
        have v4 : Room w.heap.size wr 51 2 va vc := Room.ofOwns ho (by omega)
        have HR : Hid (OwnS w.heap.size wr ⟨⟨some ⟨g0, 0, none⟩, s.on.n, c0, fun i => ⟨some ⟨Gr i, 0, none⟩, (s.on.r i).n, Cr i, (s.on.r i).z⟩⟩, ⟨va, s.os.n, vc, Ls⟩, h', m', ⟨some ⟨B1, 0, none⟩, s.si.n, k1, s.si.z⟩, ⟨some ⟨B2, 0, none⟩, s.so.n, k2, s.so.z⟩, ⟨some ⟨B3, 0, none⟩, s.sf.n, k3, s.sf.z⟩⟩) :=
          ⟨hOS.on, hOS.rows, hOS.rapart, ⟨v1, v2, v3, fun i hi => (hln i hi).2.2.2, hap, v4⟩, hOS.hs, hOS.ms, hOS.msr, hOS.si, hOS.so, hOS.sf, hOS.aio, hOS.aif, hOS.aof, hOS.ari⟩
        have HCC : Hid (SameT ⟨⟨some ⟨g0, 0, none⟩, s.on.n, c0, fun i => ⟨some ⟨Gr i, 0, none⟩, (s.on.r i).n, Cr i, (s.on.r i).z⟩⟩, ⟨va, s.os.n, vc, Ls⟩, h', m', ⟨some ⟨B1, 0, none⟩, s.si.n, k1, s.si.z⟩, ⟨some ⟨B2, 0, none⟩, s.so.n, k2, s.so.z⟩, ⟨some ⟨B3, 0, none⟩, s.sf.n, k3, s.sf.z⟩⟩ s) :=
          ⟨⟨rfl, fun i hi => ⟨rfl, fun j hj => rfl⟩⟩, ⟨rfl, fun i hi => ⟨(hln i hi).1, (hln i hi).2.1, fun j hj => (hln i hi).2.2.1 j (by rw [← (hln i hi).2.1]; exact hj)⟩⟩, HCT.out.1, HCT.out.2, ⟨rfl, fun j hj => rfl⟩, ⟨rfl, fun j hj => rfl⟩, ⟨rfl, fun j hj => rfl⟩⟩
        have xl := kX.lt
        obtain ⟨x0, x1, x2, x3, x4, x5, x6⟩ := box_cells kX
        have HZ2 : Hid (Blk wr (w.heap.size + 1) 31 7 (fun _ => .slice .none 0 0)) := hz
        have zl := hz.lt
        have zf0 := hz.frozen 0
        have zc0 := hz.cell (j := 0) (by decide)
        have zf1 := hz.frozen 1
        have zc1 := hz.cell (j := 1) (by decide)
        have zf2 := hz.frozen 2
        have zc2 := hz.cell (j := 2) (by decide)
        have zf3 := hz.frozen 3
        have zc3 := hz.cell (j := 3) (by decide)
        have zf4 := hz.frozen 4
        have zc4 := hz.cell (j := 4) (by decide)
        have zf5 := hz.frozen 5
        have zc5 := hz.cell (j := 5) (by decide)
        have zf6 := hz.frozen 6
        have zc6 := hz.cell (j := 6) (by decide)
        clear hz kX ho hln hap hOS v1 v2 v3 v4 HL hsk b0 b2 b3 b4 b5 b6
        go_wp2_with fail
        have KZ := set7_blk HZ2.out (.slice (some ⟨g0, 0, none⟩) s.on.n c0) (.slice va s.os.n vc) (.slice h'.a h'.n h'.c) (.slice m'.a m'.n m'.c) (.slice (some ⟨B1, 0, none⟩) s.si.n k1) (.slice (some ⟨B2, 0, none⟩) s.so.n k2) (.slice (some ⟨B3, 0, none⟩) s.sf.n k3)
        have hbz := set7_below (b := w.heap.size + 1) hBw (by omega) (.slice (some ⟨g0, 0, none⟩) s.on.n c0) (.slice va s.os.n vc) (.slice h'.a h'.n h'.c) (.slice m'.a m'.n m'.c) (.slice (some ⟨B1, 0, none⟩) s.si.n k1) (.slice (some ⟨B2, 0, none⟩) s.so.n k2) (.slice (some ⟨B3, 0, none⟩) s.sf.n k3)
        have HR2 := OwnS.set7 HR.out HZ2.out (.slice (some ⟨g0, 0, none⟩) s.on.n c0) (.slice va s.os.n vc) (.slice h'.a h'.n h'.c) (.slice m'.a m'.n m'.c) (.slice (some ⟨B1, 0, none⟩) s.si.n k1) (.slice (some ⟨B2, 0, none⟩) s.so.n k2) (.slice (some ⟨B3, 0, none⟩) s.sf.n k3)
        unfold set7 at KZ hbz HR2
        generalize (((((((wr.setCell { block := w.heap.size + 1, off := 0 } (Value.slice (some { block := g0, off := 0 }) s.on.n c0)).setCell { block := w.heap.size + 1, off := 1 } (Value.slice va s.os.n vc)).setCell { block := w.heap.size + 1, off := 2 } (Value.slice h'.a h'.n h'.c)).setCell { block := w.heap.size + 1, off := 3 } (Value.slice m'.a m'.n m'.c)).setCell { block := w.heap.size + 1, off := 4 } (Value.slice (some { block := B1, off := 0 }) s.si.n k1)).setCell { block := w.heap.size + 1, off := 5 } (Value.slice (some { block := B2, off := 0 }) s.so.n k2)).setCell { block := w.heap.size + 1, off := 6 } (Value.slice (some { block := B3, off := 0 }) s.sf.n k3)) = WY at *
        obtain ⟨c0', c1', c2', c3', c4', c5', c6'⟩ := box_cells KZ
        have HQ : Hid (OwnS w.heap.size WY ⟨⟨some ⟨g0, 0, none⟩, s.on.n, c0, fun i => ⟨some ⟨Gr i, 0, none⟩, (s.on.r i).n, Cr i, (s.on.r i).z⟩⟩, ⟨va, s.os.n, vc, Ls⟩, h', m', ⟨some ⟨B1, 0, none⟩, s.si.n, k1, s.si.z⟩, ⟨some ⟨B2, 0, none⟩, s.so.n, k2, s.so.z⟩, ⟨some ⟨B3, 0, none⟩, s.sf.n, k3, s.sf.z⟩⟩) := HR2
        refine bodyPost_ret (v := (⟨⟨some ⟨g0, 0, none⟩, s.on.n, c0, fun i => ⟨some ⟨Gr i, 0, none⟩, (s.on.r i).n, Cr i, (s.on.r i).z⟩⟩, ⟨va, s.os.n, vc, Ls⟩, h', m', ⟨some ⟨B1, 0, none⟩, s.si.n, k1, s.si.z⟩, ⟨some ⟨B2, 0, none⟩, s.so.n, k2, s.so.z⟩, ⟨some ⟨B3, 0, none⟩, s.sf.n, k3, s.sf.z⟩⟩ : St).val) (by simp [results, Try.results51, go_sem, St.val, c0', c1', c2', c3', c4', c5', c6']) rfl ?_
        exact ⟨_, rfl, HCC.out, HQ.out, hbz⟩

end Go.Proofs.Ytjiodlbblmbibac
/- What the document asks of states: formed. -/
namespace Go.Proofs.Ytjiodlbblmbibac
open Go.RowKit Go.Shelf Go.Sort
set_option linter.unusedVariables false

def formedB (p : Pl) (s : St) : Bool := !(badOrdersB p s || badHoldsB p s || badMovesB p s || badSumsB p s)
theorem fB_order {p : Pl} {s : St} {i : Nat} (hi : i < s.os.n) (h : badOrder p (s.os.z i) = true) : formedB p s = false := by
  have : badOrdersB p s = true := anyB_yes hi h
  simp [formedB, this]
theorem fB_check {p : Pl} {s : St} (h : ¬ checkH s.hs.n s.hs.z = 0) : formedB p s = false := by
  have : badHoldsB p s = true := by simp [badHoldsB, h]
  simp [formedB, this]
theorem fB_home {p : Pl} {s : St} {i : Nat} (hi : i < s.hs.n) (h : homeless p s (s.hs.z i) = true) : formedB p s = false := by
  have : badHoldsB p s = true := by unfold badHoldsB; rw [anyB_yes hi h, Bool.or_true]
  simp [formedB, this]
theorem fB_move {p : Pl} {s : St} {i : Nat} (hi : i < s.ms.n) (h : badMove p (s.ms.z i) = true) : formedB p s = false := by
  have : badMovesB p s = true := anyB_yes hi h
  simp [formedB, this]
theorem fB_len1 {p : Pl} {s : St} (h : ¬ s.si.n = p.ns) : formedB p s = false := by
  have : badSumsB p s = true := by
    have h1 : ((s.si.n : Int) != (p.ns : Int)) = true := by simp; omega
    simp [badSumsB, badSum, h1]
  simp [formedB, this]
theorem fB_len2 {p : Pl} {s : St} (h : ¬ s.so.n = p.ns) : formedB p s = false := by
  have : badSumsB p s = true := by
    have h1 : ((s.so.n : Int) != (p.ns : Int)) = true := by simp; omega
    simp [badSumsB, badSum, h1]
  simp [formedB, this]
theorem fB_len3 {p : Pl} {s : St} (h : ¬ s.sf.n = p.ns) : formedB p s = false := by
  have : badSumsB p s = true := by
    have h1 : ((s.sf.n : Int) != (p.ns : Int)) = true := by simp; omega
    simp [badSumsB, badSum, h1]
  simp [formedB, this]
theorem badSum_yes {p : Pl} {l : Rw} {low : Int} {g : Nat} (hn : l.n = p.ns) (hg : g < p.ns) (h : inB (l.z g) low 1048576 = false) : badSum p l low = true := by
  unfold badSum
  rw [anyB_yes (k := g) (by omega) (by rw [h]; rfl), Bool.or_true]
theorem badSum_mk {p : Pl} {l : Rw} {low : Int} (hn : l.n = p.ns) (h : ∀ g, g < p.ns → inB (l.z g) low 1048576 = true) : badSum p l low = false := by
  unfold badSum
  rw [anyB_no fun j hj => by rw [h j (by omega)]; rfl, hn]
  simp
theorem fB_sum {p : Pl} {s : St} (h : badSum p s.si 0 = true ∨ badSum p s.so 0 = true ∨ badSum p s.sf (-1048576) = true) : formedB p s = false := by
  have : badSumsB p s = true := by
    unfold badSumsB
    rcases h with h | h | h <;> rw [h] <;> simp
  simp [formedB, this]
def sumOK (s : St) (g : Nat) : Bool := inB (s.si.z g) 0 1048576 && inB (s.so.z g) 0 1048576 && inB (s.sf.z g) (-1048576) 1048576
theorem fB_yes {p : Pl} {s : St} (h1 : ∀ i, i < s.os.n → badOrder p (s.os.z i) = false) (h2 : checkH s.hs.n s.hs.z = 0) (h3 : ∀ i, i < s.hs.n → homeless p s (s.hs.z i) = false) (h4 : ∀ i, i < s.ms.n → badMove p (s.ms.z i) = false)
    (h5 : s.si.n = p.ns ∧ s.so.n = p.ns ∧ s.sf.n = p.ns) (h6 : ∀ g, g < p.ns → sumOK s g = true) : formedB p s = true := by
  have e1 : badOrdersB p s = false := anyB_no h1
  have e2 : badHoldsB p s = false := by unfold badHoldsB; rw [h2, anyB_no h3]; rfl
  have e3 : badMovesB p s = false := anyB_no h4
  have e4 : badSumsB p s = false := by
    have h : ∀ g, g < p.ns → (inB (s.si.z g) 0 1048576 = true ∧ inB (s.so.z g) 0 1048576 = true) ∧ inB (s.sf.z g) (-1048576) 1048576 = true := fun g hg => by
      have := h6 g hg
      simpa [sumOK] using this
    unfold badSumsB
    rw [badSum_mk h5.1 fun g hg => (h g hg).1.1, badSum_mk h5.2.1 fun g hg => (h g hg).1.2, badSum_mk h5.2.2 fun g hg => (h g hg).2]
    rfl
  unfold formedB
  rw [e1, e2, e3, e4]
  rfl
theorem checkH_zero' {n : Nat} {z : Nat → Hd} (h : checkH n z = 0) : anyB n (badH z) = false := by
  cases h' : anyB n (badH z)
  · rfl
  · simp [checkH, h'] at h
theorem all_succ {k : Nat} {f : Nat → Bool} {b : Bool} (h : ∀ j, j < k → f j = b) (hk : f k = b) : ∀ j, j < k + 1 → f j = b := fun j hj => by
  by_cases hjk : j = k
  · rw [hjk]; exact hk
  · exact h j (by omega)

set_option maxRecDepth 100000 in
set_option maxHeartbeats 8000000 in
theorem formed_any (p : Pl) (s : St) (w : World) (hp : p.At w) (hs : s.At w) (h0 : shelfE p s.on = 0) (h1 : tooManyB s = false) :
    Calls Try.prog 98 #[p.val, s.val] w fun e w' => e = .returned (.bool (formedB p s)) ∧ Below w.heap.size w w' := by
  obtain ⟨W0, hW, hWB, X0⟩ : ∃ W, ((w.alloc (.cells #[.slice p.ab p.nb p.cb, .slice p.sa p.ns p.cs] 25)).alloc (.cells s.cells 31)) = W ∧ Below w.heap.size w W ∧ Boxes W w.heap.size (w.heap.size + 1) p s := ⟨_, rfl, two_below _ _ _, boxes_new w p s _ _⟩
  have HC : Hid (∀ wk, Below W0.heap.size W0 wk → Boxes wk w.heap.size (w.heap.size + 1) p s ∧ p.At wk ∧ s.At wk ∧ Below w.heap.size w wk) := fun wk h => ⟨X0.below h, (hp.below hWB).below h, (hs.below hWB).below h, hWB.trans (h.mono hWB.size)⟩
  have HW : Hid ((w.alloc (.cells #[.slice p.ab p.nb p.cb, .slice p.sa p.ns p.cs] 25)).alloc (.cells #[.slice s.on.a s.on.n s.on.c, .slice s.os.a s.os.n s.os.c, .slice s.hs.a s.hs.n s.hs.c, .slice s.ms.a s.ms.n s.ms.c, .slice s.si.a s.si.n s.si.c, .slice s.so.a s.so.n s.so.c, .slice s.sf.a s.sf.n s.sf.c] 31) = W0) := hW
  have HT : Hid (s.os.n ≤ 4 ∧ s.ms.n ≤ 8 ∧ (∀ i, i < s.os.n → 1 ≤ (s.os.z i).ls.n ∧ (s.os.z i).ls.n ≤ 3)) := by
    unfold tooManyB at h1
    simp only [Bool.or_eq_false_iff, decide_eq_false_iff_not] at h1
    refine ⟨by omega, by omega, fun i hi => ?_⟩
    have := anyB_false h1.2 i hi
    simp only [fewLines, Bool.not_eq_false'] at this
    have := inB_true this
    omega
  have HR : Hid (RightS p s.on) := (rightS h0).2
  have leb := hp.leb
  have capb0 := hp.capb
  have les := hp.les
  have caps0 := hp.caps
  have capb := capb0
  have caps := caps0
  have ole := hs.os.le
  have ocap := hs.os.cap
  have hle := hs.hs.le
  have hcap := hs.hs.cap
  have mle := hs.ms.le
  have mcap := hs.ms.cap
  unfold maxLen at capb caps ocap hcap mcap
  have os4 := HT.out.1
  have ms8 := HT.out.2.1
  have ns3 := HR.out.pl.ns3
  clear hW X0 h0 h1 hp hs
  unfold Pl.val St.val
  go_enter Try.func98, Try.ntmps98
  go_wp2_with fail
  rw [HW.out]
  go_loopw [5] (fun i wk => ∃ k : Nat, k ≤ s.os.n ∧ i = .int .i64 k ∧ (∀ j, j < k → badOrder p (s.os.z j) = false) ∧ Below W0.heap.size W0 wk) (fun i _ => s.os.n - (intOf i).toNat)
  case atStart => exact ⟨0, Nat.zero_le _, rfl, fun j hj => absurd hj (Nat.not_lt_zero _), Below.refl _ _⟩
  case round =>
    obtain ⟨i, hi, rfl, hno, hB⟩ := hrel
    have HN : Hid (∀ j, j < i → badOrder p (s.os.z j) = false) := hno
    clear hno
    obtain ⟨X, hpk, hsk, hBw⟩ := HC.out wr hB
    obtain ⟨⟨l1, d0, d1⟩, l2, c0, c1, c2, c3, c4, c5, c6⟩ := X
    by_cases hlt : i < s.os.n
    · obtain ⟨b, o, hoa, hb, z0, z1, hl⟩ := hsk.os.ods i hlt
      have q1 : (0 : Int) ≤ (i : Int) := by omega
      have hl3 := (HT.out.2.2 i hlt)
      have lle := hl.le
      have lcap := hl.cap
      unfold maxLen at lcap
      have HO : Hid (s.os.a = some ⟨b, o, none⟩) := hoa
      have HE : Hid (badOrder p (s.os.z i) = (!inB (s.os.z i).k 0 2 || anyB (s.os.z i).ls.n (fun j => badLine p ((s.os.z i).ls.z j)))) := rfl
      rw [hoa] at c1
      clear hoa hl hsk c0 c2 c3 c4 c5 c6 hpk
      cases hk : inB (s.os.z i).k 0 2
      · have HX : Hid (formedB p s = false) := fB_order hlt (by rw [HE.out, hk]; rfl)
        generalize (s.os.z i).k = KD at *
        go_wp2_with (go_at_call 48; refine calls_to (within_any _ _ _ _) ?_)
        go_ret
        exact ⟨by rw [HX.out]; rfl, hBw⟩
      · have HE2 : Hid (badOrder p (s.os.z i) = anyB (s.os.z i).ls.n (fun j => badLine p ((s.os.z i).ls.z j))) := by show badOrder p (s.os.z i) = _; rw [HE.out, hk]; rfl
        clear HE
        generalize (s.os.z i).k = KD at *
        go_wp2_with (go_at_call 48; refine calls_to (within_any _ _ _ _) ?_)
        clear hk z0 hBw z1 c1 d0 d1 l1 l2 hb
        go_loopw [6] (fun i0 wk => ∃ k : Nat, k ≤ (s.os.z i).ls.n ∧ i0 = .int .i64 k ∧ (∀ j, j < k → badLine p ((s.os.z i).ls.z j) = false) ∧ Below W0.heap.size W0 wk) (fun i0 _ => (s.os.z i).ls.n - (intOf i0).toNat)
        case atStart => exact ⟨0, Nat.zero_le _, rfl, fun j hj => absurd hj (Nat.not_lt_zero _), hB⟩
        case round =>
          clear hB
          obtain ⟨j, hj, rfl, hno, hB⟩ := hrel
          have HM : Hid (∀ j', j' < j → badLine p ((s.os.z i).ls.z j') = false) := hno
          clear hno
          obtain ⟨X, hpk, hsk, hBw⟩ := HC.out wr hB
          obtain ⟨⟨l1, d0, d1⟩, l2, c0, c1, c2, c3, c4, c5, c6⟩ := X
          obtain ⟨b', o', hoa, hb, z0, z1, hl⟩ := hsk.os.ods i hlt
          rw [HO.out] at hoa c1
          simp only [Option.some.injEq, Addr.mk.injEq, and_true] at hoa
          obtain ⟨rfl, rfl⟩ := hoa
          by_cases hlj : j < (s.os.z i).ls.n
          · obtain ⟨b2, o2, hla, hb2, y0, y1, y2, y3⟩ := hl.hds j hlj
            have q2 : (0 : Int) ≤ (j : Int) := by omega
            have HT1 : Hid (badLine p ((s.os.z i).ls.z j) = true → formedB p s = false) := fun h => fB_order hlt (by rw [HE2.out]; exact anyB_yes hlj h)
            have HT2 : Hid (badLine p ((s.os.z i).ls.z j) = false → ∀ j', j' < j + 1 → badLine p ((s.os.z i).ls.z j') = false) := fun h => all_succ HM.out h
            have HBL : Hid (badLine p ((s.os.z i).ls.z j) = (!inB ((s.os.z i).ls.z j).o 0 ((p.ns : Int) - 1) || !inB ((s.os.z i).ls.z j).l 1 200 || !inB ((s.os.z i).ls.z j).b 0 ((s.os.z i).ls.z j).l || !inB ((s.os.z i).ls.z j).n 0 ((s.os.z i).ls.z j).l)) := rfl
            rw [hla] at z1
            clear hla hl hsk hpk c0 c2 c3 c4 c5 c6 z0 HM
            generalize badLine p ((s.os.z i).ls.z j) = BL at *
            generalize (s.os.z i).ls.z j = LZ at *
            obtain ⟨W1, hW1, hBn, hYn⟩ : ∃ W1, wr.alloc (.cells #[.int .i64 LZ.o, .int .i64 LZ.l, .int .i64 LZ.b, .int .i64 LZ.n] 53) = W1 ∧ Below W0.heap.size W0 W1 ∧ Blk W1 wr.heap.size 53 4 (fun j => (#[.int .i64 LZ.o, .int .i64 LZ.l, .int .i64 LZ.b, .int .i64 LZ.n] : Array Value).getD j default) := ⟨_, rfl, hB.alloc hB.size _, Blk.mk' rfl rfl⟩
            obtain ⟨B4, hB4⟩ : ∃ B4, wr.heap.size = B4 := ⟨_, rfl⟩
            rw [hB4] at hYn
            have HV : Hid (wr.alloc (.cells #[.int .i64 LZ.o, .int .i64 LZ.l, .int .i64 LZ.b, .int .i64 LZ.n] 53) = W1 ∧ wr.heap.size = B4) := ⟨hW1, hB4⟩
            obtain ⟨X, hpk, hsk, hBw1⟩ := HC.out W1 hBn
            have HX1 : Hid (Boxes W1 w.heap.size (w.heap.size + 1) p s) := X
            clear hW1 hB4 X hpk hsk
            have HY : Hid (∀ wk, Below W1.heap.size W1 wk → (wk.cell? ⟨B4, 1, none⟩ = some (.int .i64 LZ.l) ∧ wk.cell? ⟨B4, 2, none⟩ = some (.int .i64 LZ.b) ∧ wk.cell? ⟨B4, 3, none⟩ = some (.int .i64 LZ.n) ∧ B4 < wk.heap.size) ∧ Below W0.heap.size W0 wk ∧ Below w.heap.size w wk) :=
              fun wk h => ⟨⟨(hYn.below h).cell (j := 1) (by decide), (hYn.below h).cell (j := 2) (by decide), (hYn.below h).cell (j := 3) (by decide), (hYn.below h).lt⟩, hBn.trans (h.mono hBn.size), hBw1.trans (h.mono hBw1.size)⟩
            clear hYn hBn hBw1 hBw
            go_wp2_with fail
            rw [HV.out.1]
            refine (isGood_any p LZ.o W1 les caps0).mono ?_
            rintro e w2 ⟨rfl, hB2⟩
            rw [HV.out.2]
            obtain ⟨⟨t1, t2, t3, l4⟩, hBz, hBw⟩ := HY.out w2 hB2
            clear hB2 HY HV HX1 y0 y1 y2 y3 z1 c1 d0 d1 l1 l2 hb hb2 hB
            cases k1 : inB LZ.o 0 ((p.ns : Int) - 1)
            · have HX : Hid (formedB p s = false) := HT1.out (by rw [HBL.out, k1]; rfl)
              clear HBL HT1 HT2 k1
              go_wp2_with fail
              go_ret
              exact ⟨by rw [HX.out]; rfl, hBw⟩
            · cases k2 : inB LZ.l 1 200
              · have HX : Hid (formedB p s = false) := HT1.out (by rw [HBL.out, k1, k2]; rfl)
                clear HBL HT1 HT2 k1
                go_wp2_with (go_at_call 48; refine calls_to (within_any _ _ _ _) ?_)
                go_ret
                exact ⟨by rw [HX.out]; rfl, hBw⟩
              · cases k3 : inB LZ.b 0 LZ.l
                · have HX : Hid (formedB p s = false) := HT1.out (by rw [HBL.out, k1, k2, k3]; rfl)
                  clear HBL HT1 HT2 k1
                  go_wp2_with (go_at_call 48; refine calls_to (within_any _ _ _ _) ?_)
                  go_ret
                  exact ⟨by rw [HX.out]; rfl, hBw⟩
                · cases k4 : inB LZ.n 0 LZ.l
                  · have HX : Hid (formedB p s = false) := HT1.out (by rw [HBL.out, k1, k2, k3, k4]; rfl)
                    clear HBL HT1 HT2 k1
                    go_wp2_with (go_at_call 48; refine calls_to (within_any _ _ _ _) ?_)
                    go_ret
                    exact ⟨by rw [HX.out]; rfl, hBw⟩
                  · have HX := HT2.out (by rw [HBL.out, k1, k2, k3, k4]; rfl)
                    have HX2 : Hid _ := HX
                    clear HBL HT1 HT2 k1 HX
                    go_wp2_with (go_at_call 48; refine calls_to (within_any _ _ _ _) ?_)
                    go_roundw
                    case rel => exact ⟨j + 1, by omega, by go_num, HX2.out, hBz⟩
                    case measure => simp [intOf]; omega
          · have HA : Hid (badOrder p (s.os.z i) = false) := by show badOrder p (s.os.z i) = false; rw [HE2.out]; exact anyB_no fun j' hj' => HM.out j' (by omega)
            clear c0 c2 c3 c4 c5 c6 hpk hsk hl
            go_wp2_with fail
            go_roundw
            case rel => exact ⟨i + 1, by omega, by go_num, all_succ HN.out HA.out, hB⟩
            case measure => simp [intOf]; omega
    · have HN2 : Hid (∀ j, j < s.os.n → badOrder p (s.os.z j) = false) := fun j hj => HN.out j (by omega)
      clear HN
      have HHS : Hid (s.hs.At wr) := hsk.hs
      clear hsk hpk c0 c3 c4 c5 c6 hBw d0 d1
      go_wp2_with fail
      refine (CheckHolds_any s.hs wr HHS.out).mono ?_
      rintro e w2 ⟨rfl, hB2⟩
      have hB := hB.trans (hB2.mono hB.size)
      clear hB2 HHS c1 c2 l1 l2 hlt hi
      by_cases h0 : checkH s.hs.n s.hs.z = 0
      · have H0 : Hid (checkH s.hs.n s.hs.z = 0) := h0
        have h72 : s.hs.n ≤ 72 := right_len (checkH_zero' h0)
        rw [h0]
        clear h0
        go_wp2_with fail
        go_loopw [8] (fun i wk => ∃ k : Nat, k ≤ s.hs.n ∧ i = .int .i64 k ∧ (∀ j, j < k → homeless p s (s.hs.z j) = false) ∧ Below W0.heap.size W0 wk) (fun i _ => s.hs.n - (intOf i).toNat)
        case atStart => exact ⟨0, Nat.zero_le _, rfl, fun j hj => absurd hj (Nat.not_lt_zero _), hB⟩
        case round =>
          clear hB
          obtain ⟨k, hk, rfl, hno, hB⟩ := hrel
          have HM : Hid (∀ j, j < k → homeless p s (s.hs.z j) = false) := hno
          clear hno
          obtain ⟨X, hpk, hsk, hBw⟩ := HC.out wr hB
          obtain ⟨⟨l1, d0, d1⟩, l2, c0, c1, c2, c3, c4, c5, c6⟩ := X
          by_cases hlt : k < s.hs.n
          · obtain ⟨b, q, hha, hb, z0, z1, z2, z3⟩ := hsk.hs.hds k hlt
            have hfine := fineH_true (right_fine (checkH_zero' H0.out) k hlt)
            obtain ⟨mo, hmo⟩ := Int.eq_ofNat_of_zero_le hfine.1.1
            obtain ⟨ml, hml⟩ := Int.eq_ofNat_of_zero_le hfine.2.1.1
            have q4 : (0 : Int) ≤ (k : Int) := by omega
            have q2 : (0 : Int) ≤ (mo : Int) := by omega
            have q3 : (0 : Int) ≤ (ml : Int) := by omega
            have HT1 : Hid (homeless p s (s.hs.z k) = true → formedB p s = false) := fun h => fB_home hlt h
            have HT2 : Hid (homeless p s (s.hs.z k) = false → ∀ j', j' < k + 1 → homeless p s (s.hs.z j') = false) := fun h => all_succ HM.out h
            have HBL : Hid (homeless p s (s.hs.z k) = (!inB mo 0 ((s.os.n : Int) - 1) || !inB ml 0 (((s.os.z mo).ls.n : Int) - 1) || !inB (s.hs.z k).b 0 ((p.nb : Int) - 1))) := by
              show homeless p s (s.hs.z k) = _
              unfold homeless
              rw [hmo, hml]
              rfl
            rw [hmo] at z0
            rw [hml] at z1
            rw [hha] at c2
            clear hmo hml hfine HM hha
            generalize homeless p s (s.hs.z k) = BL at *
            generalize (s.hs.z k).b = HB at *
            generalize (s.hs.z k).n = HNn at *
            obtain ⟨W1, hW1, hBn, hYn, hBa⟩ : ∃ W1, wr.alloc (.cells #[.int .i64 mo, .int .i64 ml, .int .i64 HB, .int .i64 HNn] 65) = W1 ∧ Below W0.heap.size W0 W1 ∧ Blk W1 wr.heap.size 65 4 (fun j => (#[.int .i64 mo, .int .i64 ml, .int .i64 HB, .int .i64 HNn] : Array Value).getD j default) ∧ Below wr.heap.size wr W1 := ⟨_, rfl, hB.alloc hB.size _, Blk.mk' rfl rfl, (Below.refl _ _).alloc (Nat.le_refl _) _⟩
            have HV : Hid (wr.alloc (.cells #[.int .i64 mo, .int .i64 ml, .int .i64 HB, .int .i64 HNn] 65) = W1) := hW1
            obtain ⟨X, hpk1, hsk1, hBw1⟩ := HC.out W1 hBn
            obtain ⟨⟨m1, e0, e1⟩, m2, f0, f1, f2, f3, f4, f5, f6⟩ := X
            have r0 : ∀ d os, (grow (redrawn W1 d) os).cell? ⟨wr.heap.size, 0, none⟩ = some (.int .i64 mo) := fun d os => cell_regrown (hYn.cell (j := 0) (by decide)) d os
            have r1 : ∀ d os, (grow (redrawn W1 d) os).cell? ⟨wr.heap.size, 1, none⟩ = some (.int .i64 ml) := fun d os => cell_regrown (hYn.cell (j := 1) (by decide)) d os
            have r2 : ∀ d os, (grow (redrawn W1 d) os).cell? ⟨wr.heap.size, 2, none⟩ = some (.int .i64 HB) := fun d os => cell_regrown (hYn.cell (j := 2) (by decide)) d os
            have r3 : ∀ d os, (grow (redrawn W1 d) os).cell? ⟨w.heap.size, 0, none⟩ = some (.slice p.ab p.nb p.cb) := fun d os => cell_regrown e0 d os
            have r4 : ∀ d os, (grow (redrawn W1 d) os).cell? ⟨w.heap.size, 1, none⟩ = some (.slice p.sa p.ns p.cs) := fun d os => cell_regrown e1 d os
            clear e0 e1 f0 f2 f3 f4 f5 f6 hpk1 hW1
            by_cases g1 : mo < s.os.n
            · obtain ⟨b1, o1, hoa, hb1, -, y1, hl⟩ := hsk1.os.ods mo g1
              have lle := hl.le
              have lcap := hl.cap
              have l3 := HT.out.2.2 mo g1
              unfold maxLen at lcap
              rw [hoa] at f1
              have r5 : ∀ d os, (grow (redrawn W1 d) os).cell? ⟨w.heap.size + 1, 1, none⟩ = some (.slice (some ⟨b1, o1, none⟩) s.os.n s.os.c) := fun d os => cell_regrown f1 d os
              have r6 : ∀ d os, (grow (redrawn W1 d) os).cell? ⟨b1, o1 + mo * 2 + 1, none⟩ = some (.slice (s.os.z mo).ls.a (s.os.z mo).ls.n (s.os.z mo).ls.c) := fun d os => cell_regrown y1 d os
              have g1' : ¬ (s.os.n : Int) ≤ (mo : Int) := by omega
              have g1d : decide ((s.os.n : Int) ≤ (mo : Int)) = false := decide_eq_false g1'
              have g1n : ¬ s.os.n ≤ mo := by omega
              have g1e : decide (s.os.n ≤ mo) = false := decide_eq_false g1n
              have k1 : inB mo 0 ((s.os.n : Int) - 1) = true := inB_mk (by omega)
              clear hoa hl hsk1 f1 y1
              generalize (s.os.z mo).ls.n = LN at *
              generalize (s.os.z mo).ls.a = LA at *
              generalize (s.os.z mo).ls.c = LC at *
              by_cases g2 : ml < LN
              · have g2' : ¬ (LN : Int) ≤ (ml : Int) := by omega
                have g2d : decide ((LN : Int) ≤ (ml : Int)) = false := decide_eq_false g2'
                have g2n : ¬ LN ≤ ml := by omega
                have g2e : decide (LN ≤ ml) = false := decide_eq_false g2n
                have k2 : inB ml 0 ((LN : Int) - 1) = true := inB_mk (by omega)
                cases k3 : inB HB 0 ((p.nb : Int) - 1)
                · have HX : Hid (formedB p s = false) := HT1.out (by rw [HBL.out, k1, k2, k3]; rfl)
                  clear HBL HT1 HT2 k1 k2
                  go_wp2_with fail
                  rw [HV.out]
                  refine wp_region_quiet_below (by kernel_rfl) (by kernel_rfl) ?_
                  repeat (go_big_quiet_step ((go_at_call 49; exact Calls.regrown_of (isBin_any p HB _ leb capb0))))
                  refine wpQuiet_nil ?_
                  intro _ hw'
                  obtain ⟨⟨dq, osq⟩, hw''⟩ := hw'
                  subst hw''
                  rw [k3]
                  go_wp2_with fail
                  go_ret
                  exact ⟨by rw [HX.out]; rfl, hBw1.trans ((below_regrown _ _ _).mono hBw1.size)⟩
                · have HX := HT2.out (by rw [HBL.out, k1, k2, k3]; rfl)
                  have HX2 : Hid _ := HX
                  clear HBL HT1 HT2 k1 k2 HX
                  go_wp2_with fail
                  rw [HV.out]
                  refine wp_region_quiet_below (by kernel_rfl) (by kernel_rfl) ?_
                  repeat (go_big_quiet_step ((go_at_call 49; exact Calls.regrown_of (isBin_any p HB _ leb capb0))))
                  refine wpQuiet_nil ?_
                  intro _ hw'
                  obtain ⟨⟨dq, osq⟩, hw''⟩ := hw'
                  subst hw''
                  rw [k3]
                  go_wp2_with fail
                  go_roundw
                  case rel => exact ⟨k + 1, by omega, by go_num, HX2.out, hBn.trans ((below_regrown _ _ _).mono hBn.size)⟩
                  case measure => simp [intOf]; omega
              · have g2' : (LN : Int) ≤ (ml : Int) := by omega
                have g2d : decide ((LN : Int) ≤ (ml : Int)) = true := decide_eq_true g2'
                have g2n : LN ≤ ml := by omega
                have g2e : decide (LN ≤ ml) = true := decide_eq_true g2n
                have k2 : inB ml 0 ((LN : Int) - 1) = false := inB_no (by omega)
                have HX : Hid (formedB p s = false) := HT1.out (by rw [HBL.out, k1, k2]; rfl)
                clear HBL HT1 HT2 k1 k2
                go_wp2_with fail
                rw [HV.out]
                refine wp_region_quiet_below (by kernel_rfl) (by kernel_rfl) ?_
                repeat (go_big_quiet_step (fail))
                refine wpQuiet_nil ?_
                intro _ hw'
                obtain ⟨⟨dq, osq⟩, hw''⟩ := hw'
                subst hw''
                go_wp2_with fail
                go_ret
                exact ⟨by rw [HX.out]; rfl, hBw1.trans ((below_regrown _ _ _).mono hBw1.size)⟩
            · have g1' : (s.os.n : Int) ≤ (mo : Int) := by omega
              have g1d : decide ((s.os.n : Int) ≤ (mo : Int)) = true := decide_eq_true g1'
              have k1 : inB mo 0 ((s.os.n : Int) - 1) = false := inB_no (by omega)
              have r5 : ∀ d os, (grow (redrawn W1 d) os).cell? ⟨w.heap.size + 1, 1, none⟩ = some (.slice s.os.a s.os.n s.os.c) := fun d os => cell_regrown f1 d os
              have HX : Hid (formedB p s = false) := HT1.out (by rw [HBL.out, k1]; rfl)
              clear HBL HT1 HT2 k1 f1 hsk1
              go_wp2_with fail
              rw [HV.out]
              refine wp_region_quiet_below (by kernel_rfl) (by kernel_rfl) ?_
              repeat (go_big_quiet_step (fail))
              refine wpQuiet_nil ?_
              intro _ hw'
              obtain ⟨⟨dq, osq⟩, hw''⟩ := hw'
              subst hw''
              go_wp2_with fail
              go_ret
              exact ⟨by rw [HX.out]; rfl, hBw1.trans ((below_regrown _ _ _).mono hBw1.size)⟩
          · have HN3 : Hid (∀ j, j < s.hs.n → homeless p s (s.hs.z j) = false) := fun j hj => HM.out j (by omega)
            clear HM
            go_wp2_with fail
            clear hsk hpk c0 c1 c2 c3 c4 c5 c6 d0 d1 hBw l1 l2 hlt hk
            go_loopw [10] (fun i wk => ∃ k : Nat, k ≤ s.ms.n ∧ i = .int .i64 k ∧ (∀ j, j < k → badMove p (s.ms.z j) = false) ∧ Below W0.heap.size W0 wk) (fun i _ => s.ms.n - (intOf i).toNat)
            case atStart => exact ⟨0, Nat.zero_le _, rfl, fun j hj => absurd hj (Nat.not_lt_zero _), hB⟩
            case round =>
              clear hB
              obtain ⟨k, hk, rfl, hno, hB⟩ := hrel
              have HM : Hid (∀ j, j < k → badMove p (s.ms.z j) = false) := hno
              clear hno
              obtain ⟨X, hpk, hsk, hBw⟩ := HC.out wr hB
              obtain ⟨⟨l1, d0, d1⟩, l2, c0, c1, c2, c3, c4, c5, c6⟩ := X
              by_cases hlt : k < s.ms.n
              · obtain ⟨b, q, hma, hb, z0, z1, z2, z3⟩ := hsk.ms.hds k hlt
                have q4 : (0 : Int) ≤ (k : Int) := by omega
                have HT1 : Hid (badMove p (s.ms.z k) = true → formedB p s = false) := fun h => fB_move hlt h
                have HT2 : Hid (badMove p (s.ms.z k) = false → ∀ j', j' < k + 1 → badMove p (s.ms.z j') = false) := fun h => all_succ HM.out h
                have HBL : Hid (badMove p (s.ms.z k) = (!inB (s.ms.z k).o 0 ((p.ns : Int) - 1) || !inB (s.ms.z k).l 0 ((p.nb : Int) - 1) || !inB (s.ms.z k).b 0 ((p.nb : Int) - 1) || ((s.ms.z k).l == (s.ms.z k).b) || !inB (s.ms.z k).n 1 200)) := rfl
                rw [hma] at c3
                clear hma hsk hpk c0 c1 c2 c4 c5 c6 HM
                generalize badMove p (s.ms.z k) = BL at *
                generalize s.ms.z k = LZ at *
                obtain ⟨W1, hW1, hBn, hYn⟩ : ∃ W1, wr.alloc (.cells #[.int .i64 LZ.o, .int .i64 LZ.l, .int .i64 LZ.b, .int .i64 LZ.n] 70) = W1 ∧ Below W0.heap.size W0 W1 ∧ Blk W1 wr.heap.size 70 4 (fun j => (#[.int .i64 LZ.o, .int .i64 LZ.l, .int .i64 LZ.b, .int .i64 LZ.n] : Array Value).getD j default) := ⟨_, rfl, hB.alloc hB.size _, Blk.mk' rfl rfl⟩
                obtain ⟨B4, hB4⟩ : ∃ B4, wr.heap.size = B4 := ⟨_, rfl⟩
                rw [hB4] at hYn
                have HV : Hid (wr.alloc (.cells #[.int .i64 LZ.o, .int .i64 LZ.l, .int .i64 LZ.b, .int .i64 LZ.n] 70) = W1 ∧ wr.heap.size = B4) := ⟨hW1, hB4⟩
                have HY : Hid (∀ wk, Below W1.heap.size W1 wk → (wk.cell? ⟨B4, 1, none⟩ = some (.int .i64 LZ.l) ∧ wk.cell? ⟨B4, 2, none⟩ = some (.int .i64 LZ.b) ∧ wk.cell? ⟨B4, 3, none⟩ = some (.int .i64 LZ.n) ∧ B4 < wk.heap.size) ∧ (w.heap.size < wk.heap.size ∧ wk.cell? ⟨w.heap.size, 0, none⟩ = some (.slice p.ab p.nb p.cb) ∧ wk.cell? ⟨w.heap.size, 1, none⟩ = some (.slice p.sa p.ns p.cs)) ∧ Below W0.heap.size W0 wk ∧ Below w.heap.size w wk) :=
                  fun wk h => ⟨⟨(hYn.below h).cell (j := 1) (by decide), (hYn.below h).cell (j := 2) (by decide), (hYn.below h).cell (j := 3) (by decide), (hYn.below h).lt⟩, (HC.out wk (hBn.trans (h.mono hBn.size))).1.1, hBn.trans (h.mono hBn.size), (HC.out wk (hBn.trans (h.mono hBn.size))).2.2.2⟩
                clear hYn hBn hBw hW1 hB4
                go_wp2_with fail
                rw [HV.out.1]
                refine (isGood_any p LZ.o W1 les caps0).mono ?_
                rintro e w2 ⟨rfl, hB2⟩
                rw [HV.out.2]
                clear d0 d1 l1 l2 hb hB z0 z1 z2 z3 c3 HV
                obtain ⟨⟨t1, t2, t3, l4⟩, ⟨l1, d0, d1⟩, hBz, hBw⟩ := HY.out w2 hB2
                cases k1 : inB LZ.o 0 ((p.ns : Int) - 1)
                · have HX : Hid (formedB p s = false) := HT1.out (by rw [HBL.out, k1]; rfl)
                  clear HBL HT1 HT2 k1
                  go_wp2_with fail
                  go_ret
                  exact ⟨by rw [HX.out]; rfl, hBw⟩
                · go_wp2_with fail
                  refine (isBin_any p LZ.l w2 leb capb0).mono ?_
                  rintro e w3 ⟨rfl, hB3⟩
                  have hB3 := hB2.trans (hB3.mono hB2.size)
                  clear hB2 t1 t2 t3 l4 l1 d0 d1 hBz hBw
                  obtain ⟨⟨t1, t2, t3, l4⟩, ⟨l1, d0, d1⟩, hBz, hBw⟩ := HY.out w3 hB3
                  cases k2 : inB LZ.l 0 ((p.nb : Int) - 1)
                  · have HX : Hid (formedB p s = false) := HT1.out (by rw [HBL.out, k1, k2]; rfl)
                    clear HBL HT1 HT2 k1 k2
                    go_wp2_with fail
                    go_ret
                    exact ⟨by rw [HX.out]; rfl, hBw⟩
                  · go_wp2_with fail
                    refine (isBin_any p LZ.b w3 leb capb0).mono ?_
                    rintro e w4 ⟨rfl, hB4⟩
                    have hB4 := hB3.trans (hB4.mono hB3.size)
                    clear hB3 t1 t2 t3 l4 l1 d0 d1 hBz hBw
                    obtain ⟨⟨t1, t2, t3, l4⟩, ⟨l1, d0, d1⟩, hBz, hBw⟩ := HY.out w4 hB4
                    cases k3 : inB LZ.b 0 ((p.nb : Int) - 1)
                    · have HX : Hid (formedB p s = false) := HT1.out (by rw [HBL.out, k1, k2, k3]; rfl)
                      clear HBL HT1 HT2 k1 k2 k3
                      go_wp2_with fail
                      go_ret
                      exact ⟨by rw [HX.out]; rfl, hBw⟩
                    · cases k4 : (LZ.l == LZ.b)
                      · cases k5 : inB LZ.n 1 200
                        · have HX : Hid (formedB p s = false) := HT1.out (by rw [HBL.out, k1, k2, k3, k4, k5]; rfl)
                          clear HBL HT1 HT2 k1 k2 k3
                          go_wp2_with (go_at_call 48; refine calls_to (within_any _ _ _ _) ?_)
                          go_ret
                          exact ⟨by rw [HX.out]; rfl, hBw⟩
                        · have HX := HT2.out (by rw [HBL.out, k1, k2, k3, k4, k5]; rfl)
                          have HX2 : Hid _ := HX
                          clear HBL HT1 HT2 k1 k2 k3 HX
                          go_wp2_with (go_at_call 48; refine calls_to (within_any _ _ _ _) ?_)
                          go_roundw
                          case rel => exact ⟨k + 1, by omega, by go_num, HX2.out, hBz⟩
                          case measure => simp [intOf]; omega
                      · have HX : Hid (formedB p s = false) := HT1.out (by rw [HBL.out, k1, k2, k3, k4]; rfl)
                        clear HBL HT1 HT2 k1 k2 k3
                        go_wp2_with fail
                        go_ret
                        exact ⟨by rw [HX.out]; rfl, hBw⟩
              · have HN4 : Hid (∀ j, j < s.ms.n → badMove p (s.ms.z j) = false) := fun j hj => HM.out j (by omega)
                clear HM
                by_cases n1 : s.si.n = p.ns
                · by_cases n2 : s.so.n = p.ns
                  · by_cases n3 : s.sf.n = p.ns
                    · have HLN : Hid (s.si.n = p.ns ∧ s.so.n = p.ns ∧ s.sf.n = p.ns) := ⟨n1, n2, n3⟩
                      have q1 := hsk.si.le
                      have q2 := hsk.si.cap
                      have q3 := hsk.so.le
                      have q4 := hsk.so.cap
                      have q5 := hsk.sf.le
                      have q6 := hsk.sf.cap
                      unfold maxLen at q2 q4 q6
                      rw [n1] at c4 q1
                      rw [n2] at c5 q3
                      rw [n3] at c6 q5
                      clear n1 n2 n3 hsk hpk c0 c1 c2 hBw
                      go_wp2_with fail
                      clear c3 c4 c5 c6 d0 d1 l1 l2 hlt hk
                      go_loopw [12] (fun i wk => ∃ k : Nat, k ≤ p.ns ∧ i = .int .i64 k ∧ (∀ j, j < k → sumOK s j = true) ∧ Below W0.heap.size W0 wk) (fun i _ => p.ns - (intOf i).toNat)
                      case atStart => exact ⟨0, Nat.zero_le _, rfl, fun j hj => absurd hj (Nat.not_lt_zero _), hB⟩
                      case round =>
                        clear hB
                        obtain ⟨g, hg, rfl, hno, hB⟩ := hrel
                        have HM : Hid (∀ j, j < g → sumOK s j = true) := hno
                        clear hno
                        obtain ⟨X, hpk, hsk, hBw⟩ := HC.out wr hB
                        obtain ⟨⟨l1, d0, d1⟩, l2, c0, c1, c2, c3, c4, c5, c6⟩ := X
                        by_cases hlt : g < p.ns
                        · obtain ⟨b1, o1, e1, g1, z1⟩ := hsk.si.ints g (by rw [HLN.out.1]; exact hlt)
                          obtain ⟨b2, o2, e2, g2, z2⟩ := hsk.so.ints g (by rw [HLN.out.2.1]; exact hlt)
                          obtain ⟨b3, o3, e3, g3, z3⟩ := hsk.sf.ints g (by rw [HLN.out.2.2]; exact hlt)
                          have qq : (0 : Int) ≤ (g : Int) := by omega
                          rw [e1, HLN.out.1] at c4
                          rw [e2, HLN.out.2.1] at c5
                          rw [e3, HLN.out.2.2] at c6
                          have HT1 : Hid (inB (s.si.z g) 0 1048576 = false → formedB p s = false) := fun h => fB_sum (.inl (badSum_yes HLN.out.1 hlt h))
                          have HT2 : Hid (inB (s.so.z g) 0 1048576 = false → formedB p s = false) := fun h => fB_sum (.inr (.inl (badSum_yes HLN.out.2.1 hlt h)))
                          have HT3 : Hid (inB (s.sf.z g) (-1048576) 1048576 = false → formedB p s = false) := fun h => fB_sum (.inr (.inr (badSum_yes HLN.out.2.2 hlt h)))
                          have HT4 : Hid (inB (s.si.z g) 0 1048576 = true → inB (s.so.z g) 0 1048576 = true → inB (s.sf.z g) (-1048576) 1048576 = true → ∀ j', j' < g + 1 → sumOK s j' = true) := fun h1 h2 h3 => all_succ HM.out (by unfold sumOK; rw [h1, h2, h3]; rfl)
                          clear e1 e2 e3 hsk hpk c0 c1 c2 c3 HM
                          generalize s.si.z g = I1 at *
                          generalize s.so.z g = I2 at *
                          generalize s.sf.z g = I3 at *
                          cases k1 : inB I1 0 1048576
                          · have HX : Hid (formedB p s = false) := HT1.out k1
                            clear HT1 HT2 HT3 HT4
                            go_wp2_with (go_at_call 48; refine calls_to (within_any _ _ _ _) ?_)
                            go_ret
                            exact ⟨by rw [HX.out]; rfl, hBw⟩
                          · cases k2 : inB I2 0 1048576
                            · have HX : Hid (formedB p s = false) := HT2.out k2
                              clear HT1 HT2 HT3 HT4
                              go_wp2_with (go_at_call 48; refine calls_to (within_any _ _ _ _) ?_)
                              go_ret
                              exact ⟨by rw [HX.out]; rfl, hBw⟩
                            · cases k3 : inB I3 (-1048576) 1048576
                              · have HX : Hid (formedB p s = false) := HT3.out k3
                                clear HT1 HT2 HT3 HT4
                                go_wp2_with (go_at_call 48; refine calls_to (within_any _ _ _ _) ?_)
                                go_ret
                                exact ⟨by rw [HX.out]; rfl, hBw⟩
                              · have HX := HT4.out k1 k2 k3
                                have HX2 : Hid _ := HX
                                clear HT1 HT2 HT3 HT4 HX
                                go_wp2_with (go_at_call 48; refine calls_to (within_any _ _ _ _) ?_)
                                go_roundw
                                case rel => exact ⟨g + 1, by omega, by go_num, HX2.out, hB⟩
                                case measure => simp [intOf]; omega
                        · have HX : Hid (formedB p s = true) := fB_yes HN2.out H0.out HN3.out HN4.out HLN.out (fun j hj => HM.out j (by omega))
                          clear hsk hpk c0 c1 c2 c3 c4 c5 c6 HM
                          go_wp2_with fail
                          go_ret
                          exact ⟨by rw [HX.out]; rfl, hBw⟩
                    · have HX : Hid (formedB p s = false) := fB_len3 n3
                      have m1 : ((s.si.n : Int) != (p.ns : Int)) = false := by simp [n1]
                      have m2 : ((s.so.n : Int) != (p.ns : Int)) = false := by simp [n2]
                      have m3 : ((s.sf.n : Int) != (p.ns : Int)) = true := by simp; omega
                      clear hsk hpk c0 c1 c2 n1 n2
                      go_wp2_with fail
                      go_ret
                      exact ⟨by rw [HX.out]; rfl, hBw⟩
                  · have HX : Hid (formedB p s = false) := fB_len2 n2
                    have m1 : ((s.si.n : Int) != (p.ns : Int)) = false := by simp [n1]
                    have m2 : ((s.so.n : Int) != (p.ns : Int)) = true := by simp; omega
                    clear hsk hpk c0 c1 c2 c6 n1
                    go_wp2_with fail
                    go_ret
                    exact ⟨by rw [HX.out]; rfl, hBw⟩
                · have HX : Hid (formedB p s = false) := fB_len1 n1
                  have m1 : ((s.si.n : Int) != (p.ns : Int)) = true := by simp; omega
                  clear hsk hpk c0 c1 c2 c5 c6
                  go_wp2_with fail
                  go_ret
                  exact ⟨by rw [HX.out]; rfl, hBw⟩
      · have HX : Hid (formedB p s = false) := fB_check h0
        obtain ⟨X, hpk, hsk, hBw⟩ := HC.out w2 hB
        clear X hpk hsk
        go_wp2_with fail
        go_ret
        exact ⟨by rw [HX.out]; rfl, hBw⟩

end Go.Proofs.Ytjiodlbblmbibac
/- What the document asks of states: CheckState. -/
namespace Go.Proofs.Ytjiodlbblmbibac
open Go.RowKit Go.Shelf Go.Sort
set_option linter.unusedVariables false

theorem tm_orders {s : St} (h : 4 < s.os.n) : tooManyB s = true := by
  have : decide (4 < s.os.n) = true := decide_eq_true h
  simp [tooManyB, this]
theorem tm_moves {s : St} (h : 8 < s.ms.n) : tooManyB s = true := by
  have : decide (8 < s.ms.n) = true := decide_eq_true h
  simp [tooManyB, this]
theorem tm_lines {s : St} {i : Nat} (hi : i < s.os.n) (h : inB (s.os.z i).ls.n 1 3 = false) : tooManyB s = true := by
  have : anyB s.os.n (fun i => fewLines (s.os.z i)) = true := anyB_yes hi (by unfold fewLines; rw [h]; rfl)
  simp [tooManyB, this]
theorem tm_no {s : St} (h1 : ¬ 4 < s.os.n) (h2 : ¬ 8 < s.ms.n) (h3 : ∀ i, i < s.os.n → inB (s.os.z i).ls.n 1 3 = true) : tooManyB s = false := by
  have e1 : decide (4 < s.os.n) = false := decide_eq_false h1
  have e2 : decide (8 < s.ms.n) = false := decide_eq_false h2
  have e3 : anyB s.os.n (fun i => fewLines (s.os.z i)) = false := anyB_no fun i hi => by unfold fewLines; rw [h3 i hi]; rfl
  unfold tooManyB
  rw [e1, e2, e3]
  rfl
theorem sE_shelf {p : Pl} {s : St} (h : ¬ shelfE p s.on = 0) : stateE p s = shelfE p s.on := by unfold stateE; rw [if_neg h]
theorem sE_many {p : Pl} {s : St} (h : shelfE p s.on = 0) (h1 : tooManyB s = true) : stateE p s = 2 := by unfold stateE; rw [if_pos h, h1]; rfl
theorem sE_form {p : Pl} {s : St} (h : shelfE p s.on = 0) (h1 : tooManyB s = false) (h2 : formedB p s = false) : stateE p s = 1 := by
  have e : (badOrdersB p s || badHoldsB p s || badMovesB p s || badSumsB p s) = true := by
    cases hq : (badOrdersB p s || badHoldsB p s || badMovesB p s || badSumsB p s)
    · rw [formedB, hq] at h2; cases h2
    · rfl
  unfold stateE; rw [if_pos h, h1, e]; rfl
theorem formedB_yes {p : Pl} {s : St} (h : shelfE p s.on = 0) (h1 : tooManyB s = false) (h2 : formedB p s = true) : Formed p s := by
  have e : (badOrdersB p s || badHoldsB p s || badMovesB p s || badSumsB p s) = false := by
    cases hq : (badOrdersB p s || badHoldsB p s || badMovesB p s || badSumsB p s)
    · rfl
    · rw [formedB, hq] at h2; cases h2
  simp only [Bool.or_eq_false_iff] at e
  exact formed h h1 e.1.1.1 e.1.1.2 e.1.2 e.2
theorem sE_sum {p : Pl} {s : St} (h : shelfE p s.on = 0) (h1 : tooManyB s = false) (h2 : formedB p s = true) : stateE p s = if summedB p s then 0 else 7 := by
  have e : (badOrdersB p s || badHoldsB p s || badMovesB p s || badSumsB p s) = false := by
    cases hq : (badOrdersB p s || badHoldsB p s || badMovesB p s || badSumsB p s)
    · rfl
    · rw [formedB, hq] at h2; cases h2
  unfold stateE summedB
  rw [if_pos h, h1, e]
  cases (wrongGoodsB p s || wrongOrdersB s) <;> rfl

set_option maxRecDepth 100000 in
set_option maxHeartbeats 4000000 in
theorem refCheckState_any (p : Pl) (s : St) (w : World) (hp : p.At w) (hs : s.At w) :
    Calls Try.prog 47 #[p.val, s.val] w fun e w' => e = .returned (.int .i64 (stateE p s)) ∧ Below w.heap.size w w' := by
  obtain ⟨W0, hW, hWB, X0⟩ : ∃ W, ((w.alloc (.cells #[.slice p.ab p.nb p.cb, .slice p.sa p.ns p.cs] 25)).alloc (.cells s.cells 31)) = W ∧ Below w.heap.size w W ∧ Boxes W w.heap.size (w.heap.size + 1) p s := ⟨_, rfl, two_below _ _ _, boxes_new w p s _ _⟩
  have HC : Hid (∀ wk, Below W0.heap.size W0 wk → Boxes wk w.heap.size (w.heap.size + 1) p s ∧ p.At wk ∧ s.At wk ∧ Below w.heap.size w wk) := fun wk h => ⟨X0.below h, (hp.below hWB).below h, (hs.below hWB).below h, hWB.trans (h.mono hWB.size)⟩
  have HW : Hid ((w.alloc (.cells #[.slice p.ab p.nb p.cb, .slice p.sa p.ns p.cs] 25)).alloc (.cells #[.slice s.on.a s.on.n s.on.c, .slice s.os.a s.os.n s.os.c, .slice s.hs.a s.hs.n s.hs.c, .slice s.ms.a s.ms.n s.ms.c, .slice s.si.a s.si.n s.si.c, .slice s.so.a s.so.n s.so.c, .slice s.sf.a s.sf.n s.sf.c] 31) = W0) := hW
  have ole := hs.os.le
  have ocap := hs.os.cap
  have mle := hs.ms.le
  have mcap := hs.ms.cap
  unfold maxLen at ocap mcap
  clear hW X0 hp hs
  unfold Pl.val St.val
  go_enter Try.func47, Try.ntmps47
  go_wp2_with fail
  rw [HW.out]
  obtain ⟨X, hpk, hsk, hBw⟩ := HC.out W0 (Below.refl _ _)
  refine (refCheckShelf_any p s.on W0 hpk hsk.on).mono ?_
  rintro e w1 ⟨rfl, hB⟩
  clear X hpk hsk hBw HW
  obtain ⟨X, hpk, hsk, hBw⟩ := HC.out w1 hB
  obtain ⟨⟨l1, d0, d1⟩, l2, c0, c1, c2, c3, c4, c5, c6⟩ := X
  by_cases h0 : shelfE p s.on = 0
  · have H0 : Hid (shelfE p s.on = 0) := h0
    rw [h0]
    clear h0 hpk hsk
    by_cases n1 : 4 < s.os.n
    · have HX : Hid (stateE p s = 2) := sE_many H0.out (tm_orders n1)
      have n1' : (4 : Int) < (s.os.n : Int) := by omega
      go_wp2_with fail
      go_ret
      exact ⟨by rw [HX.out]; rfl, hBw⟩
    · by_cases n2 : 8 < s.ms.n
      · have HX : Hid (stateE p s = 2) := sE_many H0.out (tm_moves n2)
        have n1' : ¬ (4 : Int) < (s.os.n : Int) := by omega
        have n2' : (8 : Int) < (s.ms.n : Int) := by omega
        go_wp2_with fail
        go_ret
        exact ⟨by rw [HX.out]; rfl, hBw⟩
      · have n1' : ¬ (4 : Int) < (s.os.n : Int) := by omega
        have n2' : ¬ (8 : Int) < (s.ms.n : Int) := by omega
        go_wp2_with fail
        clear c0 c1 c2 c3 c4 c5 c6 d0 d1 l1 l2 hBw
        go_loopw [6] (fun i wk => ∃ k : Nat, k ≤ s.os.n ∧ i = .int .i64 k ∧ (∀ j, j < k → inB (s.os.z j).ls.n 1 3 = true) ∧ Below W0.heap.size W0 wk) (fun i _ => s.os.n - (intOf i).toNat)
        case atStart => exact ⟨0, Nat.zero_le _, rfl, fun j hj => absurd hj (Nat.not_lt_zero _), hB⟩
        case round =>
          clear hB
          obtain ⟨i, hi, rfl, hno, hB⟩ := hrel
          have HN : Hid (∀ j, j < i → inB (s.os.z j).ls.n 1 3 = true) := hno
          clear hno
          obtain ⟨X, hpk, hsk, hBw⟩ := HC.out wr hB
          obtain ⟨⟨l1, d0, d1⟩, l2, c0, c1, c2, c3, c4, c5, c6⟩ := X
          by_cases hlt : i < s.os.n
          · obtain ⟨b, o, hoa, hb, z0, z1, hl⟩ := hsk.os.ods i hlt
            have qi : (0 : Int) ≤ (i : Int) := by omega
            have HT1 : Hid (inB (s.os.z i).ls.n 1 3 = false → stateE p s = 2) := fun h => sE_many H0.out (tm_lines hlt h)
            have HT2 : Hid (inB (s.os.z i).ls.n 1 3 = true → ∀ j, j < i + 1 → inB (s.os.z j).ls.n 1 3 = true) := fun h => all_succ (f := fun j => inB (s.os.z j).ls.n 1 3) HN.out h
            rw [hoa] at c1
            clear hoa hl hpk hsk c0 c2 c3 c4 c5 c6 d0 d1 z0
            generalize (s.os.z i).ls = LS at *
            cases k1 : inB LS.n 1 3
            · have HX : Hid (stateE p s = 2) := HT1.out k1
              clear HT1 HT2
              go_wp2_with (go_at_call 48; refine calls_to (within_any _ _ _ _) ?_)
              go_ret
              exact ⟨by rw [HX.out]; rfl, hBw⟩
            · have HX := HT2.out k1
              have HX2 : Hid _ := HX
              clear HT1 HT2 HX
              go_wp2_with (go_at_call 48; refine calls_to (within_any _ _ _ _) ?_)
              go_roundw
              case rel => exact ⟨i + 1, by omega, by go_num, HX2.out, hB⟩
              case measure => simp [intOf]; omega
          · have HTM : Hid (tooManyB s = false) := tm_no n1 n2 fun j hj => HN.out j (by omega)
            go_wp2_with fail
            refine (formed_any p s wr hpk hsk H0.out HTM.out).mono ?_
            rintro e w2 ⟨rfl, hB2⟩
            have hB := hB.trans (hB2.mono hB.size)
            clear hpk hsk hBw l1 d0 d1 l2 c0 c1 c2 c3 c4 c5 c6 hB2
            obtain ⟨X, hpk, hsk, hBw⟩ := HC.out w2 hB
            obtain ⟨⟨l1, d0, d1⟩, l2, c0, c1, c2, c3, c4, c5, c6⟩ := X
            cases k2 : formedB p s
            · have HX : Hid (stateE p s = 1) := sE_form H0.out HTM.out k2
              clear hpk hsk
              go_wp2_with fail
              go_ret
              exact ⟨by rw [HX.out]; rfl, hBw⟩
            · have HFO : Hid (Formed p s) := formedB_yes H0.out HTM.out k2
              have HE : Hid (stateE p s = if summedB p s then 0 else 7) := sE_sum H0.out HTM.out k2
              clear k2
              go_wp2_with fail
              refine (summed_any p s w2 hpk hsk HFO.out).mono ?_
              rintro e w3 ⟨rfl, hB3⟩
              have hBw := hBw.trans (hB3.mono hBw.size)
              clear hpk hsk l1 d0 d1 l2 c0 c1 c2 c3 c4 c5 c6 hB3
              cases k3 : summedB p s
              · have HX : Hid (stateE p s = 7) := by show stateE p s = 7; rw [HE.out, k3]; rfl
                clear HE
                go_wp2_with fail
                go_ret
                exact ⟨by rw [HX.out]; rfl, hBw⟩
              · have HX : Hid (stateE p s = 0) := by show stateE p s = 0; rw [HE.out, k3]; rfl
                clear HE
                go_wp2_with fail
                go_ret
                exact ⟨by rw [HX.out]; rfl, hBw⟩
  · have HX : Hid (stateE p s = shelfE p s.on) := sE_shelf h0
    clear hpk hsk
    go_wp2_with fail
    go_ret
    exact ⟨by rw [HX.out]; rfl, hBw⟩

end Go.Proofs.Ytjiodlbblmbibac
/- What the document receives: ReceiveOf. -/
namespace Go.Proofs.Ytjiodlbblmbibac
open Go.RowKit Go.Shelf Go.Sort
set_option linter.unusedVariables false

theorem recvE_state {p : Pl} {s : St} {bin good n : Int} (h : ¬ stateE p s = 0) : recvE p s bin good n = stateE p s := by unfold recvE; rw [if_neg h]
theorem recvE_range {p : Pl} {s : St} {bin good n : Int} (h : stateE p s = 0) (h2 : (inB bin 0 ((p.nb : Int) - 1) && inB good 0 ((p.ns : Int) - 1) && inB n 1 200) = false) : recvE p s bin good n = 3 := by unfold recvE; rw [if_pos h, h2]; rfl
theorem recvE_full {p : Pl} {s : St} {b g : Nat} {n : Int} (h : stateE p s = 0) (h1 : b < p.nb) (h2 : g < p.ns) (h3 : inB n 1 200 = true) (h4 : freeZ p s b < n * p.zs g) : recvE p s b g n = 5 := by
  unfold recvE; simp only [Int.toNat_natCast]; rw [if_pos h, inB_mk (by omega), inB_mk (by omega), h3, if_pos (by decide), if_pos h4]
theorem recvE_many {p : Pl} {s : St} {b g : Nat} {n : Int} (h : stateE p s = 0) (h1 : b < p.nb) (h2 : g < p.ns) (h3 : inB n 1 200 = true) (h4 : ¬ freeZ p s b < n * p.zs g) (h5 : 200 < lyingZ s b g + n ∨ 1048576 < s.si.z g + n) : recvE p s b g n = 2 := by
  unfold recvE; simp only [Int.toNat_natCast]; rw [if_pos h, inB_mk (by omega), inB_mk (by omega), h3, if_pos (by decide), if_neg h4, if_pos h5]
theorem recvE_ok {p : Pl} {s : St} {b g : Nat} {n : Int} (h : stateE p s = 0) (h1 : b < p.nb) (h2 : g < p.ns) (h3 : inB n 1 200 = true) (h4 : ¬ freeZ p s b < n * p.zs g) (h5 : ¬ (200 < lyingZ s b g + n ∨ 1048576 < s.si.z g + n)) : recvE p s b g n = 0 := by
  unfold recvE; simp only [Int.toNat_natCast]; rw [if_pos h, inB_mk (by omega), inB_mk (by omega), h3, if_pos (by decide), if_neg h4, if_neg h5]
theorem freeZ_bd {p : Pl} {s : St} (f : Formed p s) {b : Nat} (hb : b < p.nb) : -30000 ≤ freeZ p s b ∧ freeZ p s b ≤ 1000 := by
  have hon : b < s.on.n := by rw [f.sh.n]; exact hb
  have ub := usedTo_bd (z := (s.on.r b).z) (zs := p.zs) (n := p.ns) (fun j hj => ⟨f.sh.num b hon j hj, f.sh.pl.sizes j hj⟩) p.ns (Nat.le_refl _)
  have tb := takeTo_bd f (b : Int) s.ms.n (Nat.le_refl _)
  have room : 0 ≤ (p.zb b).room ∧ (p.zb b).room ≤ 1000 := by
    have := f.sh.pl.bins b hb
    simp only [badBin, Bool.or_eq_false_iff, Bool.not_eq_false'] at this
    exact inB_true this.1.1
  have := f.ms8
  have := f.sh.pl.ns3
  unfold freeZ
  omega

set_option maxRecDepth 100000 in
set_option maxHeartbeats 8000000 in
theorem ReceiveOf_any (p : Pl) (s : St) (bin good n : Int) (w : World) (hp : p.At w) (hs : s.At w) :
    Calls Try.prog 22 #[p.val, s.val, .int .i64 bin, .int .i64 good, .int .i64 n] w fun e w' => ∃ s' : St, e = .returned (.tuple #[s'.val, .int .i64 (recvE p s bin good n)]) ∧ s'.At w' ∧ ActOK (recvE p s bin good n) (recvT s bin.toNat good.toNat n) s' ∧ Below w.heap.size w w' := by
  obtain ⟨W0, hW, hWB, X0, Z0⟩ : ∃ W, (((w.alloc (.cells #[.slice p.ab p.nb p.cb, .slice p.sa p.ns p.cs] 25)).alloc (.cells s.cells 31)).alloc (.cells #[.slice .none 0 0, .slice .none 0 0, .slice .none 0 0, .slice .none 0 0, .slice .none 0 0, .slice .none 0 0, .slice .none 0 0] 31)) = W ∧ Below w.heap.size w W ∧ Boxes W w.heap.size (w.heap.size + 1) p s ∧ Blk W (w.heap.size + 2) 31 7 (fun _ => .slice .none 0 0) :=
    ⟨_, rfl, (two_below _ _ _).alloc (by simp; omega) _, (boxes_new w p s _ _).below ((Below.refl _ _).alloc (Nat.le_refl _) _), (Blk.mk' (cur := #[.slice .none 0 0, .slice .none 0 0, .slice .none 0 0, .slice .none 0 0, .slice .none 0 0, .slice .none 0 0, .slice .none 0 0]) (by simp) rfl).congr (fun j hj => by match j, hj with | 0, _ => rfl | 1, _ => rfl | 2, _ => rfl | 3, _ => rfl | 4, _ => rfl | 5, _ => rfl | 6, _ => rfl)⟩
  have HC : Hid (∀ wk, Below W0.heap.size W0 wk → Boxes wk w.heap.size (w.heap.size + 1) p s ∧ p.At wk ∧ s.At wk ∧ Below w.heap.size w wk ∧ Blk wk (w.heap.size + 2) 31 7 (fun _ => .slice .none 0 0)) := fun wk h => ⟨X0.below h, (hp.below hWB).below h, (hs.below hWB).below h, hWB.trans (h.mono hWB.size), Z0.below h⟩
  have HW : Hid (((w.alloc (.cells #[.slice p.ab p.nb p.cb, .slice p.sa p.ns p.cs] 25)).alloc (.cells #[.slice s.on.a s.on.n s.on.c, .slice s.os.a s.os.n s.os.c, .slice s.hs.a s.hs.n s.hs.c, .slice s.ms.a s.ms.n s.ms.c, .slice s.si.a s.si.n s.si.c, .slice s.so.a s.so.n s.so.c, .slice s.sf.a s.sf.n s.sf.c] 31)).alloc (.cells #[.slice .none 0 0, .slice .none 0 0, .slice .none 0 0, .slice .none 0 0, .slice .none 0 0, .slice .none 0 0, .slice .none 0 0] 31) = W0) := hW
  have leb := hp.leb
  have capb0 := hp.capb
  have les := hp.les
  have caps0 := hp.caps
  have capb := capb0
  have caps := caps0
  have zlt0 := Z0.lt
  unfold maxLen at capb caps
  clear hW X0 Z0 hp hs
  unfold Pl.val St.val
  go_enter Try.func22, Try.ntmps22
  go_wp2_with fail
  rw [HW.out]
  obtain ⟨X, hpk, hsk, hBw, hz⟩ := HC.out W0 (Below.refl _ _)
  refine (refCheckState_any p s W0 hpk hsk).mono ?_
  rintro e w1 ⟨rfl, hB⟩
  clear X hpk hsk hBw hz HW
  obtain ⟨⟨⟨l1, d0, d1⟩, l2, c0, c1, c2, c3, c4, c5, c6⟩, hpk, hsk, hBw, hz⟩ := HC.out w1 hB
  by_cases h0 : stateE p s = 0
  · have H0 : Hid (stateE p s = 0) := h0
    have HF : Hid (Formed p s) := (rightT h0).fm
    rw [h0]
    clear h0 c0 c1 c2 c3 c4 c5 c6 hsk
    go_wp2_with fail
    refine (isBin_any p bin w1 leb capb0).mono ?_
    rintro e w2 ⟨rfl, hB2⟩
    have hB := hB.trans (hB2.mono hB.size)
    clear l1 d0 d1 l2 hpk hBw hz hB2
    obtain ⟨⟨⟨l1, d0, d1⟩, l2, c0, c1, c2, c3, c4, c5, c6⟩, hpk, hsk, hBw, hz⟩ := HC.out w2 hB
    clear c0 c1 c2 c3 c4 c5 c6 hsk
    cases k1 : inB bin 0 ((p.nb : Int) - 1)
    · have HX : Hid (recvE p s bin good n = 3) := recvE_range H0.out (by rw [k1]; rfl)
      clear k1
      have zl := hz.lt
      have zf0 := hz.frozen 0
      have zc0 := hz.cell (j := 0) (by decide)
      have zf1 := hz.frozen 1
      have zc1 := hz.cell (j := 1) (by decide)
      have zf2 := hz.frozen 2
      have zc2 := hz.cell (j := 2) (by decide)
      have zf3 := hz.frozen 3
      have zc3 := hz.cell (j := 3) (by decide)
      have zf4 := hz.frozen 4
      have zc4 := hz.cell (j := 4) (by decide)
      have zf5 := hz.frozen 5
      have zc5 := hz.cell (j := 5) (by decide)
      have zf6 := hz.frozen 6
      have zc6 := hz.cell (j := 6) (by decide)
      go_wp2_with fail
      have KZ := set7_blk hz (.slice .none 0 0) (.slice .none 0 0) (.slice .none 0 0) (.slice .none 0 0) (.slice .none 0 0) (.slice .none 0 0) (.slice .none 0 0)
      have hbz := set7_below (b := w.heap.size + 2) hBw (by omega) (.slice .none 0 0) (.slice .none 0 0) (.slice .none 0 0) (.slice .none 0 0) (.slice .none 0 0) (.slice .none 0 0) (.slice .none 0 0)
      unfold set7 at KZ hbz
      obtain ⟨c0', c1', c2', c3', c4', c5', c6'⟩ := box_cells KZ
      refine bodyPost_ret (v := .tuple #[noneS.val, .int .i64 3]) (by simp [results, Try.results22, go_sem, noneS, St.val, c0', c1', c2', c3', c4', c5', c6']) rfl ?_
      exact ⟨noneS, by rw [HX.out]; rfl, noneS_at _, ⟨fun h => absurd h (by rw [HX.out]; decide), fun _ => ⟨rfl, rfl, rfl, rfl, rfl, rfl, rfl⟩⟩, hbz⟩
    · go_wp2_with fail
      refine (isGood_any p good w2 les caps0).mono ?_
      rintro e w3 ⟨rfl, hB2⟩
      have hB := hB.trans (hB2.mono hB.size)
      clear l1 d0 d1 l2 hpk hBw hz hB2
      obtain ⟨⟨⟨l1, d0, d1⟩, l2, c0, c1, c2, c3, c4, c5, c6⟩, hpk, hsk, hBw, hz⟩ := HC.out w3 hB
      cases k2 : inB good 0 ((p.ns : Int) - 1)
      · have HX : Hid (recvE p s bin good n = 3) := recvE_range H0.out (by rw [k1, k2]; rfl)
        clear k1 k2 c0 c1 c2 c3 c4 c5 c6 hsk
        have zl := hz.lt
        have zf0 := hz.frozen 0
        have zc0 := hz.cell (j := 0) (by decide)
        have zf1 := hz.frozen 1
        have zc1 := hz.cell (j := 1) (by decide)
        have zf2 := hz.frozen 2
        have zc2 := hz.cell (j := 2) (by decide)
        have zf3 := hz.frozen 3
        have zc3 := hz.cell (j := 3) (by decide)
        have zf4 := hz.frozen 4
        have zc4 := hz.cell (j := 4) (by decide)
        have zf5 := hz.frozen 5
        have zc5 := hz.cell (j := 5) (by decide)
        have zf6 := hz.frozen 6
        have zc6 := hz.cell (j := 6) (by decide)
        go_wp2_with fail
        have KZ := set7_blk hz (.slice .none 0 0) (.slice .none 0 0) (.slice .none 0 0) (.slice .none 0 0) (.slice .none 0 0) (.slice .none 0 0) (.slice .none 0 0)
        have hbz := set7_below (b := w.heap.size + 2) hBw (by omega) (.slice .none 0 0) (.slice .none 0 0) (.slice .none 0 0) (.slice .none 0 0) (.slice .none 0 0) (.slice .none 0 0) (.slice .none 0 0)
        unfold set7 at KZ hbz
        obtain ⟨c0', c1', c2', c3', c4', c5', c6'⟩ := box_cells KZ
        refine bodyPost_ret (v := .tuple #[noneS.val, .int .i64 3]) (by simp [results, Try.results22, go_sem, noneS, St.val, c0', c1', c2', c3', c4', c5', c6']) rfl ?_
        exact ⟨noneS, by rw [HX.out]; rfl, noneS_at _, ⟨fun h => absurd h (by rw [HX.out]; decide), fun _ => ⟨rfl, rfl, rfl, rfl, rfl, rfl, rfl⟩⟩, hbz⟩
      · cases k3 : inB n 1 200
        · have HX : Hid (recvE p s bin good n = 3) := recvE_range H0.out (by rw [k1, k2, k3]; rfl)
          clear k1 k2 c0 c1 c2 c3 c4 c5 c6 hsk
          have zl := hz.lt
          have zf0 := hz.frozen 0
          have zc0 := hz.cell (j := 0) (by decide)
          have zf1 := hz.frozen 1
          have zc1 := hz.cell (j := 1) (by decide)
          have zf2 := hz.frozen 2
          have zc2 := hz.cell (j := 2) (by decide)
          have zf3 := hz.frozen 3
          have zc3 := hz.cell (j := 3) (by decide)
          have zf4 := hz.frozen 4
          have zc4 := hz.cell (j := 4) (by decide)
          have zf5 := hz.frozen 5
          have zc5 := hz.cell (j := 5) (by decide)
          have zf6 := hz.frozen 6
          have zc6 := hz.cell (j := 6) (by decide)
          go_wp2_with (go_at_call 48; refine calls_to (within_any _ _ _ _) ?_)
          have KZ := set7_blk hz (.slice .none 0 0) (.slice .none 0 0) (.slice .none 0 0) (.slice .none 0 0) (.slice .none 0 0) (.slice .none 0 0) (.slice .none 0 0)
          have hbz := set7_below (b := w.heap.size + 2) hBw (by omega) (.slice .none 0 0) (.slice .none 0 0) (.slice .none 0 0) (.slice .none 0 0) (.slice .none 0 0) (.slice .none 0 0) (.slice .none 0 0)
          unfold set7 at KZ hbz
          obtain ⟨c0', c1', c2', c3', c4', c5', c6'⟩ := box_cells KZ
          refine bodyPost_ret (v := .tuple #[noneS.val, .int .i64 3]) (by simp [results, Try.results22, go_sem, noneS, St.val, c0', c1', c2', c3', c4', c5', c6']) rfl ?_
          exact ⟨noneS, by rw [HX.out]; rfl, noneS_at _, ⟨fun h => absurd h (by rw [HX.out]; decide), fun _ => ⟨rfl, rfl, rfl, rfl, rfl, rfl, rfl⟩⟩, hbz⟩
        · obtain ⟨b, rfl⟩ := Int.eq_ofNat_of_zero_le (inB_true k1).1
          obtain ⟨g, rfl⟩ := Int.eq_ofNat_of_zero_le (inB_true k2).1
          have hb : b < p.nb := by have := (inB_true k1).2; omega
          have hg : g < p.ns := by have := (inB_true k2).2; omega
          have hn := inB_true k3
          have K3 : Hid (inB n 1 200 = true) := k3
          have pz := HF.out.sh.pl.sizes g hg
          have fb := freeZ_bd HF.out hb
          have mb := mul_bd (a := n) (b := p.zs g) ⟨by omega, hn.2⟩ pz
          have qb : (0 : Int) ≤ (b : Int) := by omega
          have qg : (0 : Int) ≤ (g : Int) := by omega
          obtain ⟨bz, oz, hsa, hbz, y0⟩ := hpk.sizes g hg
          have HSA : Hid (p.sa = some ⟨bz, oz, none⟩ ∧ p.At w3 ∧ s.At w3) := ⟨hsa, hpk, hsk⟩
          rw [hsa] at d1
          have r0 : ∀ d os, (grow (redrawn w3 d) os).cell? ⟨w.heap.size, 0, none⟩ = some (.slice p.ab p.nb p.cb) := fun d os => cell_regrown d0 d os
          have r1 : ∀ d os, (grow (redrawn w3 d) os).cell? ⟨w.heap.size, 1, none⟩ = some (.slice (some ⟨bz, oz, none⟩) p.ns p.cs) := fun d os => cell_regrown d1 d os
          have r2 : ∀ d os, (grow (redrawn w3 d) os).cell? ⟨bz, oz + g, none⟩ = some (.int .i64 (p.zs g)) := fun d os => cell_regrown y0 d os
          have s0 : ∀ d os, (grow (redrawn w3 d) os).cell? ⟨w.heap.size + 1, 0, none⟩ = some (.slice s.on.a s.on.n s.on.c) := fun d os => cell_regrown c0 d os
          have s1 : ∀ d os, (grow (redrawn w3 d) os).cell? ⟨w.heap.size + 1, 1, none⟩ = some (.slice s.os.a s.os.n s.os.c) := fun d os => cell_regrown c1 d os
          have s2 : ∀ d os, (grow (redrawn w3 d) os).cell? ⟨w.heap.size + 1, 2, none⟩ = some (.slice s.hs.a s.hs.n s.hs.c) := fun d os => cell_regrown c2 d os
          have s3 : ∀ d os, (grow (redrawn w3 d) os).cell? ⟨w.heap.size + 1, 3, none⟩ = some (.slice s.ms.a s.ms.n s.ms.c) := fun d os => cell_regrown c3 d os
          have s4 : ∀ d os, (grow (redrawn w3 d) os).cell? ⟨w.heap.size + 1, 4, none⟩ = some (.slice s.si.a s.si.n s.si.c) := fun d os => cell_regrown c4 d os
          have s5 : ∀ d os, (grow (redrawn w3 d) os).cell? ⟨w.heap.size + 1, 5, none⟩ = some (.slice s.so.a s.so.n s.so.c) := fun d os => cell_regrown c5 d os
          have s6 : ∀ d os, (grow (redrawn w3 d) os).cell? ⟨w.heap.size + 1, 6, none⟩ = some (.slice s.sf.a s.sf.n s.sf.c) := fun d os => cell_regrown c6 d os
          have hfr : Hid (∀ wk, p.At wk → s.At wk → Calls Try.prog 59 #[.agg #[.slice p.ab p.nb p.cb, .slice (some ⟨bz, oz, none⟩) p.ns p.cs], .agg #[.slice s.on.a s.on.n s.on.c, .slice s.os.a s.os.n s.os.c, .slice s.hs.a s.hs.n s.hs.c, .slice s.ms.a s.ms.n s.ms.c, .slice s.si.a s.si.n s.si.c, .slice s.so.a s.so.n s.so.c, .slice s.sf.a s.sf.n s.sf.c], .int .i64 b] wk fun e w' => e = .returned (.int .i64 (freeZ p s b)) ∧ Below wk.heap.size wk w') := fun wk h1 h2 => by
            have := FreeOf_any p s b wk h1 h2 HF.out hb
            rw [Pl.val, HSA.out.1] at this
            exact this
          have HT5 : Hid (freeZ p s b < n * p.zs g → recvE p s b g n = 5) := fun h => recvE_full H0.out hb hg K3.out h
          have HT2 : Hid (¬ freeZ p s b < n * p.zs g → (200 < lyingZ s b g + n ∨ 1048576 < s.si.z g + n) → recvE p s b g n = 2) := fun h h2 => recvE_many H0.out hb hg K3.out h h2
          have HT0 : Hid (¬ freeZ p s b < n * p.zs g → ¬ (200 < lyingZ s b g + n ∨ 1048576 < s.si.z g + n) → recvE p s b g n = 0) := fun h h2 => recvE_ok H0.out hb hg K3.out h h2
          clear k1 k2 hsa hpk hsk c0 c1 c2 c3 c4 c5 c6 d0 d1 y0
          generalize freeZ p s b = FR at *
          generalize p.zs g = PZ at *
          go_wp2_with (go_at_call 48; refine calls_to (within_any _ _ _ _) ?_)
          refine wp_region_quiet_below (by kernel_rfl) (by kernel_rfl) ?_
          repeat (go_big_quiet_step ((go_at_call 59; exact Calls.regrown_of (hfr.out _ (HSA.out.2.1.below (below_regrown _ _ _)) (HSA.out.2.2.below (below_regrown _ _ _))))))
          refine wpQuiet_nil ?_
          intro _ hw'
          obtain ⟨⟨dq, osq⟩, hw''⟩ := hw'
          subst hw''
          have hB := hB.trans ((below_regrown w3 dq osq).mono hB.size)
          clear r0 r1 r2 s0 s1 s2 s3 s4 s5 s6 hfr HSA hBw hz l1 l2 hbz
          generalize grow (redrawn w3 dq) osq = w4 at *
          obtain ⟨⟨⟨l1, d0, d1⟩, l2, c0, c1, c2, c3, c4, c5, c6⟩, hpk, hsk, hBw, hz⟩ := HC.out w4 hB
          by_cases h5 : FR < n * PZ
          · have HX : Hid (recvE p s b g n = 5) := HT5.out h5
            clear hpk hsk c0 c1 c2 c3 c4 c5 c6
            have zl := hz.lt
            have zf0 := hz.frozen 0
            have zc0 := hz.cell (j := 0) (by decide)
            have zf1 := hz.frozen 1
            have zc1 := hz.cell (j := 1) (by decide)
            have zf2 := hz.frozen 2
            have zc2 := hz.cell (j := 2) (by decide)
            have zf3 := hz.frozen 3
            have zc3 := hz.cell (j := 3) (by decide)
            have zf4 := hz.frozen 4
            have zc4 := hz.cell (j := 4) (by decide)
            have zf5 := hz.frozen 5
            have zc5 := hz.cell (j := 5) (by decide)
            have zf6 := hz.frozen 6
            have zc6 := hz.cell (j := 6) (by decide)
            go_wp2_with fail
            have KZ := set7_blk hz (.slice .none 0 0) (.slice .none 0 0) (.slice .none 0 0) (.slice .none 0 0) (.slice .none 0 0) (.slice .none 0 0) (.slice .none 0 0)
            have hbz := set7_below (b := w.heap.size + 2) hBw (by omega) (.slice .none 0 0) (.slice .none 0 0) (.slice .none 0 0) (.slice .none 0 0) (.slice .none 0 0) (.slice .none 0 0) (.slice .none 0 0)
            unfold set7 at KZ hbz
            obtain ⟨c0', c1', c2', c3', c4', c5', c6'⟩ := box_cells KZ
            refine bodyPost_ret (v := .tuple #[noneS.val, .int .i64 5]) (by simp [results, Try.results22, go_sem, noneS, St.val, c0', c1', c2', c3', c4', c5', c6']) rfl ?_
            exact ⟨noneS, by rw [HX.out]; rfl, noneS_at _, ⟨fun h => absurd h (by rw [HX.out]; decide), fun _ => ⟨rfl, rfl, rfl, rfl, rfl, rfl, rfl⟩⟩, hbz⟩
          · have hon : b < s.on.n := by rw [HF.out.sh.n]; exact hb
            obtain ⟨bo, oo, hoa, hbo, y0, hrow⟩ := hsk.on.rows b hon
            have hrn := HF.out.sh.len b hon
            obtain ⟨br, orr, hra, hbr, y1⟩ := hrow.ints g (by rw [hrn]; exact hg)
            obtain ⟨bi, oi, hia, hbi, y2⟩ := hsk.si.ints g (by rw [HF.out.sin]; exact hg)
            have v1 := hrow.le
            have v2 := hrow.cap
            have v3 := hsk.on.le
            have v4 := hsk.on.cap
            have v5 := hsk.si.le
            have v6 := hsk.si.cap
            have u1 := HF.out.sh.num b hon g hg
            have u2 := comingTo_bd (s := s) (b := b) (g := g) HF.out.moveN
            have u3 := HF.out.sib g hg
            have ms8 := HF.out.ms8
            have si1 : g < s.si.n := by rw [HF.out.sin]; exact hg
            unfold maxLen at v2 v4 v6
            have HSA : Hid (s.At w4 ∧ s.on.a = some ⟨bo, oo, none⟩ ∧ s.si.a = some ⟨bi, oi, none⟩) := ⟨hsk, hoa, hia⟩
            rw [hra, hrn] at y0
            rw [hrn] at v1
            rw [hoa] at c0
            rw [hia] at c4
            have s0 : ∀ d os, (grow (redrawn w4 d) os).cell? ⟨w.heap.size + 1, 0, none⟩ = some (.slice (some ⟨bo, oo, none⟩) s.on.n s.on.c) := fun d os => cell_regrown c0 d os
            have s1 : ∀ d os, (grow (redrawn w4 d) os).cell? ⟨w.heap.size + 1, 1, none⟩ = some (.slice s.os.a s.os.n s.os.c) := fun d os => cell_regrown c1 d os
            have s2 : ∀ d os, (grow (redrawn w4 d) os).cell? ⟨w.heap.size + 1, 2, none⟩ = some (.slice s.hs.a s.hs.n s.hs.c) := fun d os => cell_regrown c2 d os
            have s3 : ∀ d os, (grow (redrawn w4 d) os).cell? ⟨w.heap.size + 1, 3, none⟩ = some (.slice s.ms.a s.ms.n s.ms.c) := fun d os => cell_regrown c3 d os
            have s4 : ∀ d os, (grow (redrawn w4 d) os).cell? ⟨w.heap.size + 1, 4, none⟩ = some (.slice (some ⟨bi, oi, none⟩) s.si.n s.si.c) := fun d os => cell_regrown c4 d os
            have s5 : ∀ d os, (grow (redrawn w4 d) os).cell? ⟨w.heap.size + 1, 5, none⟩ = some (.slice s.so.a s.so.n s.so.c) := fun d os => cell_regrown c5 d os
            have s6 : ∀ d os, (grow (redrawn w4 d) os).cell? ⟨w.heap.size + 1, 6, none⟩ = some (.slice s.sf.a s.sf.n s.sf.c) := fun d os => cell_regrown c6 d os
            have r1 : ∀ d os, (grow (redrawn w4 d) os).cell? ⟨bo, oo + b, none⟩ = some (.slice (some ⟨br, orr, none⟩) p.ns (s.on.r b).c) := fun d os => cell_regrown y0 d os
            have r2 : ∀ d os, (grow (redrawn w4 d) os).cell? ⟨br, orr + g, none⟩ = some (.int .i64 ((s.on.r b).z g)) := fun d os => cell_regrown y1 d os
            have r3 : ∀ d os, (grow (redrawn w4 d) os).cell? ⟨bi, oi + g, none⟩ = some (.int .i64 (s.si.z g)) := fun d os => cell_regrown y2 d os
            have hco : Hid (∀ wk, s.At wk → Calls Try.prog 60 #[.agg #[.slice (some ⟨bo, oo, none⟩) s.on.n s.on.c, .slice s.os.a s.os.n s.os.c, .slice s.hs.a s.hs.n s.hs.c, .slice s.ms.a s.ms.n s.ms.c, .slice (some ⟨bi, oi, none⟩) s.si.n s.si.c, .slice s.so.a s.so.n s.so.c, .slice s.sf.a s.sf.n s.sf.c], .int .i64 b, .int .i64 g] wk fun e w' => e = .returned (.int .i64 (comingTo s b g s.ms.n)) ∧ Below wk.heap.size wk w') := fun wk h => by
              have := coming_any p s b g wk h HF.out
              rw [St.val, HSA.out.2.1, HSA.out.2.2] at this
              exact this
            have HLY : Hid (lyingZ s b g = (s.on.r b).z g + comingTo s b g s.ms.n) := rfl
            have cm : 0 ≤ comingTo s b g s.ms.n ∧ comingTo s b g s.ms.n ≤ 1600 := by omega
            have HRT : Hid (recvT s b g n = setIn (setOn s b g ((s.on.r b).z g + n)) g (s.si.z g + n)) := rfl
            clear hoa hra hia hrow hrn hpk hsk c0 c1 c2 c3 c4 c5 c6 y0 y1 y2 d0 d1 u2
            generalize comingTo s b g s.ms.n = CM at *
            generalize hON : (s.on.r b).z g = ON at *
            have HON : Hid ((s.on.r b).z g = ON) := hON
            clear hON
            generalize (s.on.r b).c = RC at *
            generalize hSI : s.si.z g = SI at *
            have HSI : Hid (s.si.z g = SI) := hSI
            clear hSI
            by_cases h6 : 200 < ON + CM + n
            · have HX : Hid (recvE p s b g n = 2) := HT2.out (by omega) (.inl (by rw [HLY.out]; exact h6))
              have d6 : decide (200 < ON + CM + n) = true := decide_eq_true h6
              go_wp2_with fail
              refine wp_region_quiet_below (by kernel_rfl) (by kernel_rfl) ?_
              repeat (go_big_quiet_step ((go_at_call 60; exact Calls.regrown_of (hco.out _ (HSA.out.1.below (below_regrown _ _ _))))))
              refine wpQuiet_nil ?_
              intro _ hw'
              obtain ⟨⟨dq, osq⟩, hw''⟩ := hw'
              subst hw''
              have hB := hB.trans ((below_regrown w4 dq osq).mono hB.size)
              clear r1 r2 r3 s0 s1 s2 s3 s4 s5 s6 hco HSA hBw hz l1 l2
              generalize grow (redrawn w4 dq) osq = w5 at *
              obtain ⟨-, -, -, hBw, hz⟩ := HC.out w5 hB
              have zl := hz.lt
              have zf0 := hz.frozen 0
              have zc0 := hz.cell (j := 0) (by decide)
              have zf1 := hz.frozen 1
              have zc1 := hz.cell (j := 1) (by decide)
              have zf2 := hz.frozen 2
              have zc2 := hz.cell (j := 2) (by decide)
              have zf3 := hz.frozen 3
              have zc3 := hz.cell (j := 3) (by decide)
              have zf4 := hz.frozen 4
              have zc4 := hz.cell (j := 4) (by decide)
              have zf5 := hz.frozen 5
              have zc5 := hz.cell (j := 5) (by decide)
              have zf6 := hz.frozen 6
              have zc6 := hz.cell (j := 6) (by decide)
              go_wp2_with fail
              have KZ := set7_blk hz (.slice .none 0 0) (.slice .none 0 0) (.slice .none 0 0) (.slice .none 0 0) (.slice .none 0 0) (.slice .none 0 0) (.slice .none 0 0)
              have hbz := set7_below (b := w.heap.size + 2) hBw (by omega) (.slice .none 0 0) (.slice .none 0 0) (.slice .none 0 0) (.slice .none 0 0) (.slice .none 0 0) (.slice .none 0 0) (.slice .none 0 0)
              unfold set7 at KZ hbz
              obtain ⟨c0', c1', c2', c3', c4', c5', c6'⟩ := box_cells KZ
              refine bodyPost_ret (v := .tuple #[noneS.val, .int .i64 2]) (by simp [results, Try.results22, go_sem, noneS, St.val, c0', c1', c2', c3', c4', c5', c6']) rfl ?_
              exact ⟨noneS, by rw [HX.out]; rfl, noneS_at _, ⟨fun h => absurd h (by rw [HX.out]; decide), fun _ => ⟨rfl, rfl, rfl, rfl, rfl, rfl, rfl⟩⟩, hbz⟩
            · by_cases h7 : 1048576 < SI + n
              · have HX : Hid (recvE p s b g n = 2) := HT2.out (by omega) (.inr h7)
                have d6 : decide (200 < ON + CM + n) = false := decide_eq_false h6
                have d7 : decide (1048576 < SI + n) = true := decide_eq_true h7
                go_wp2_with fail
                refine wp_region_quiet_below (by kernel_rfl) (by kernel_rfl) ?_
                repeat (go_big_quiet_step ((go_at_call 60; exact Calls.regrown_of (hco.out _ (HSA.out.1.below (below_regrown _ _ _))))))
                refine wpQuiet_nil ?_
                intro _ hw'
                obtain ⟨⟨dq, osq⟩, hw''⟩ := hw'
                subst hw''
                have hB := hB.trans ((below_regrown w4 dq osq).mono hB.size)
                clear r1 r2 r3 s0 s1 s2 s3 s4 s5 s6 hco HSA hBw hz l1 l2
                generalize grow (redrawn w4 dq) osq = w5 at *
                obtain ⟨-, -, -, hBw, hz⟩ := HC.out w5 hB
                have zl := hz.lt
                have zf0 := hz.frozen 0
                have zc0 := hz.cell (j := 0) (by decide)
                have zf1 := hz.frozen 1
                have zc1 := hz.cell (j := 1) (by decide)
                have zf2 := hz.frozen 2
                have zc2 := hz.cell (j := 2) (by decide)
                have zf3 := hz.frozen 3
                have zc3 := hz.cell (j := 3) (by decide)
                have zf4 := hz.frozen 4
                have zc4 := hz.cell (j := 4) (by decide)
                have zf5 := hz.frozen 5
                have zc5 := hz.cell (j := 5) (by decide)
                have zf6 := hz.frozen 6
                have zc6 := hz.cell (j := 6) (by decide)
                go_wp2_with fail
                have KZ := set7_blk hz (.slice .none 0 0) (.slice .none 0 0) (.slice .none 0 0) (.slice .none 0 0) (.slice .none 0 0) (.slice .none 0 0) (.slice .none 0 0)
                have hbz := set7_below (b := w.heap.size + 2) hBw (by omega) (.slice .none 0 0) (.slice .none 0 0) (.slice .none 0 0) (.slice .none 0 0) (.slice .none 0 0) (.slice .none 0 0) (.slice .none 0 0)
                unfold set7 at KZ hbz
                obtain ⟨c0', c1', c2', c3', c4', c5', c6'⟩ := box_cells KZ
                refine bodyPost_ret (v := .tuple #[noneS.val, .int .i64 2]) (by simp [results, Try.results22, go_sem, noneS, St.val, c0', c1', c2', c3', c4', c5', c6']) rfl ?_
                exact ⟨noneS, by rw [HX.out]; rfl, noneS_at _, ⟨fun h => absurd h (by rw [HX.out]; decide), fun _ => ⟨rfl, rfl, rfl, rfl, rfl, rfl, rfl⟩⟩, hbz⟩
              · have HX : Hid (recvE p s b g n = 0) := HT0.out (by omega) (by rw [HLY.out]; omega)
                have d6 : decide (200 < ON + CM + n) = false := decide_eq_false h6
                have d7 : decide (1048576 < SI + n) = false := decide_eq_false h7
                go_wp2_with fail
                refine wp_region_quiet_below (by kernel_rfl) (by kernel_rfl) ?_
                repeat (go_big_quiet_step ((go_at_call 60; exact Calls.regrown_of (hco.out _ (HSA.out.1.below (below_regrown _ _ _))))))
                refine wpQuiet_nil ?_
                intro _ hw'
                obtain ⟨⟨dq, osq⟩, hw''⟩ := hw'
                subst hw''
                have hB := hB.trans ((below_regrown w4 dq osq).mono hB.size)
                clear r1 r2 r3 s0 s1 s2 s3 s4 s5 s6 hco HSA hBw hz l1 l2
                generalize grow (redrawn w4 dq) osq = w5 at *
                obtain ⟨⟨⟨l1, d0, d1⟩, l2, c0, c1, c2, c3, c4, c5, c6⟩, hpk, hsk, hBw, hz⟩ := HC.out w5 hB
                go_wp2_with fail
                refine (OwnState_any p s w5 hsk HF.out).mono ?_
                rintro e w6 ⟨o, rfl, hsame, hown, hB2⟩
                have hn1 : b < o.on.n := by rw [hsame.on.1]; exact hon
                obtain ⟨x1, x2⟩ := hsame.on.2 b hn1
                have hrn : (o.on.r b).n = p.ns := by rw [x1]; exact HF.out.sh.len b hon
                have hON : (o.on.r b).z g = ON := by rw [x2 g (by rw [hrn]; exact hg)]; exact HON.out
                have hin : o.si.n = p.ns := by rw [hsame.si.1]; exact HF.out.sin
                have hSI : o.si.z g = SI := by rw [hsame.si.2 g (by rw [hin]; exact hg)]; exact HSI.out
                have HIN : Hid (o.si.n = p.ns) := hin
                have HSM0 : Hid (SameT o s) := hsame
                have HSM : Hid (SameT (setIn (setOn o b g (ON + n)) g (SI + n)) (recvT s b g n)) := by
                  show SameT _ (recvT s b g n)
                  rw [HRT.out]
                  exact setIn_same (setOn_same hsame _ _ _) _ _
                obtain ⟨W7, hW7, hWB7, K7⟩ : ∃ W, w6.alloc (.cells #[.slice o.on.a o.on.n o.on.c, .slice o.os.a o.os.n o.os.c, .slice o.hs.a o.hs.n o.hs.c, .slice o.ms.a o.ms.n o.ms.c, .slice o.si.a o.si.n o.si.c, .slice o.so.a o.so.n o.so.c, .slice o.sf.a o.sf.n o.sf.c] 31) = W ∧ Below w6.heap.size w6 W ∧ Blk W w6.heap.size 31 7 (fun j => o.cells.getD j default) := ⟨_, rfl, (Below.refl _ _).alloc (Nat.le_refl _) _, Blk.mk' rfl rfl⟩
                have HW7 : Hid (w6.alloc (.cells #[.slice o.on.a o.on.n o.on.c, .slice o.os.a o.os.n o.os.c, .slice o.hs.a o.hs.n o.hs.c, .slice o.ms.a o.ms.n o.ms.c, .slice o.si.a o.si.n o.si.c, .slice o.so.a o.so.n o.so.c, .slice o.sf.a o.sf.n o.sf.c] 31) = W7) := hW7
                obtain ⟨B13, hB13⟩ : ∃ B, w6.heap.size = B := ⟨_, rfl⟩
                have q6 := hB.size
                have q7 := hB2.size
                have hge : W0.heap.size ≤ B13 := by omega
                rw [hB13] at K7
                have HB13 : Hid (w6.heap.size = B13) := hB13
                have hB7 := (hB.trans (hB2.mono hB.size)).trans (hWB7.mono (hB.trans (hB2.mono hB.size)).size)
                have hown7 := OwnS.below hown hWB7
                obtain ⟨gg, ga, gA, g1, g2, gk⟩ := hown7.on
                obtain ⟨Gb, ra, rA, r1', r2', rk⟩ := hown7.rows b hn1
                obtain ⟨Gi, ia, iA, i1', i2', ik⟩ := hown7.si
                have HOW : Hid (OwnS w5.heap.size W7 o ∧ o.on.a = some ⟨gg, 0, none⟩ ∧ (o.on.r b).a = some ⟨Gb, 0, none⟩ ∧ o.si.a = some ⟨Gi, 0, none⟩ ∧ w5.heap.size ≤ Gb ∧ w5.heap.size ≤ Gi ∧ Blk W7 B13 31 7 (fun j => o.cells.getD j default)) := ⟨hown7, ga, ra, ia, rA, iA, K7⟩
                obtain ⟨m7, p0, p1, p2, p3, p4, p5, p6⟩ := Boxed.of K7
                rw [ga] at p0
                rw [ia] at p4
                have y0 := gk.cell (j := b) hn1
                rw [ra, hrn] at y0
                have y1 := rk.cell (j := g) (by rw [hrn]; exact hg)
                rw [hON] at y1
                have y2 := ik.cell (j := g) (by rw [hin]; exact hg)
                rw [hSI] at y2
                have t0 : ∀ d os, (grow (redrawn W7 d) os).cell? ⟨B13, 0, none⟩ = some (.slice (some ⟨gg, 0, none⟩) o.on.n o.on.c) := fun d os => cell_regrown p0 d os
                have t1 : ∀ d os, (grow (redrawn W7 d) os).cell? ⟨gg, b, none⟩ = some (.slice (some ⟨Gb, 0, none⟩) p.ns (o.on.r b).c) := fun d os => cell_regrown y0 d os
                have t2 : ∀ d os, (grow (redrawn W7 d) os).cell? ⟨Gb, g, none⟩ = some (.int .i64 ON) := fun d os => cell_regrown y1 d os
                have v1 := g1
                have v2 := g2
                have v3 := r1'
                have v4 := r2'
                rw [hrn] at v3
                unfold maxLen at v2 v4
                unfold maxLen at i2'
                rw [hin] at i1'
                clear hown7 hown gk rk ik K7 hWB7 hW7 hB13 p0 p1 p2 p3 p4 p5 p6 y0 y1 y2 ga ra ia hpk hsk c0 c1 c2 c3 c4 c5 c6 x1 x2 hB2 hz hBw hON hSI hsame hrn hin
                simp only [St.val]
                go_wp2_with fail
                rw [HW7.out, HB13.out]
                clear HW7 HB13
                refine wp_region_made5 (fun w' => ∃ p : Regrown, w' = grow (redrawn W7 p.d) p.os) (List.range 17) [] [(true, 17)] (by kernel_rfl) (by kernel_rfl) (by kernel_rfl) (by kernel_rfl) (by kernel_rfl) (by kernel_rfl) (by kernel_rfl) (by kernel_rfl) (by kernel_rfl) (regrown_of_below ((Below.refl _ _).drew)) ?_
                rw [show List.range 17 = [0, 1, 2, 3, 4, 5, 6, 7, 8, 9, 10, 11, 12, 13, 14, 15, 16] from rfl]
                simp only [picks, List.drop_succ_cons, List.drop_zero, List.take_succ_cons, List.take_zero, List.cons_append, List.nil_append]
                repeat (go_big_quiet_step (fail))
                refine wpQuiet_nil ?_
                clear t0 t1 t2
                refine ⟨fun _ _ _ _ => True, List.forall_mem_nil _, List.forall_mem_nil _, List.forall_mem_nil _, fun V G wk hS _ _ => ?_⟩
                have hX := below_of_regrown hS
                obtain ⟨hO, hOa, hOb, hOi, hA1, hA2, hK⟩ := HOW.out
                have hO := OwnS.below hO hX
                have hK := hK.below hX
                obtain ⟨Gq, hGq, _, _, _, rk⟩ := hO.rows b hn1
                rw [hOb] at hGq
                simp only [Option.some.injEq, Addr.mk.injEq, and_true] at hGq
                subst hGq
                have zl := rk.lt
                have zf := rk.frozen g
                have HRN : Hid ((o.on.r b).n = p.ns) := (HSM0.out.on.2 b hn1).1.trans (HF.out.sh.len b hon)
                have zc := rk.cell (j := g) (by rw [HRN.out]; exact hg)
                have q8 := hX.size
                have hB8 := hB7.trans (hX.mono hB7.size)
                have q9 := hB.size
                have hst := hB8.setCell (p := ⟨Gb, g, none⟩) (by show W0.heap.size ≤ Gb; omega) (.int .i64 (ON + n))
                have hO2 := OwnS.setOn hO hn1 hOb g (ON + n)
                have hK2 := hK.other (a := ⟨Gb, g, none⟩) (Blk.ne2 hK rk (by decide)) (.int .i64 (ON + n))
                have HST : Hid (Below W0.heap.size W0 (wk.setCell ⟨Gb, g, none⟩ (.int .i64 (ON + n))) ∧ OwnS w5.heap.size (wk.setCell ⟨Gb, g, none⟩ (.int .i64 (ON + n))) (setOn o b g (ON + n)) ∧ Blk (wk.setCell ⟨Gb, g, none⟩ (.int .i64 (ON + n))) B13 31 7 (fun j => o.cells.getD j default)) := ⟨hst, hO2, hK2⟩
                clear hst hO2 hK2 hO hK rk hX hB8 hS
                simp only [putAll]
                refine wpSeq_one 17 rfl ?_
                go_wp2_with fail
                refine ⟨Late.yes, ?_⟩
                refine NoPanic.normal ?_
                generalize wk.setCell { block := Gb, off := g } (Value.int IntKind.i64 (ON + n)) = W9 at *
                clear zl zf zc
                obtain ⟨hB9, hO9, hK9⟩ := HST.out
                obtain ⟨Gq, hGq, _, _, _, ik⟩ := hO9.si
                rw [show (setOn o b g (ON + n)).si.a = some ⟨Gi, 0, none⟩ from hOi] at hGq
                simp only [Option.some.injEq, Addr.mk.injEq, and_true] at hGq
                subst hGq
                have y2 := ik.cell (j := g) (by show g < o.si.n; rw [HIN.out]; exact hg)
                have p4 := hK9.cell (j := 4) (by decide)
                have p4' : W9.cell? ⟨B13, 4, none⟩ = some (.slice o.si.a o.si.n o.si.c) := p4
                rw [hOi, HIN.out] at p4'
                have HSQ : Hid (o.si.z g = SI) := (HSM0.out.si.2 g (by rw [HIN.out]; exact hg)).trans HSI.out
                have y2' : W9.cell? ⟨Gi, g, none⟩ = some (.int .i64 (o.si.z g)) := y2
                rw [HSQ.out] at y2'
                have t0 : ∀ d os, (grow (redrawn W9 d) os).cell? ⟨B13, 4, none⟩ = some (.slice (some ⟨Gi, 0, none⟩) p.ns o.si.c) := fun d os => cell_regrown p4' d os
                have t1 : ∀ d os, (grow (redrawn W9 d) os).cell? ⟨Gi, g, none⟩ = some (.int .i64 SI) := fun d os => cell_regrown y2' d os
                clear hB9 hO9 hK9 ik y2 p4 p4' y2'
                go_wp2_with fail
                refine wp_region_made5 (fun w' => ∃ p : Regrown, w' = grow (redrawn W9 p.d) p.os) (List.range 11) [] [(true, 11)] (by kernel_rfl) (by kernel_rfl) (by kernel_rfl) (by kernel_rfl) (by kernel_rfl) (by kernel_rfl) (by kernel_rfl) (by kernel_rfl) (by kernel_rfl) (regrown_of_below ((Below.refl _ _).drew)) ?_
                rw [show List.range 11 = [0, 1, 2, 3, 4, 5, 6, 7, 8, 9, 10] from rfl]
                simp only [picks, List.drop_succ_cons, List.drop_zero, List.take_succ_cons, List.take_zero, List.cons_append, List.nil_append]
                repeat (go_big_quiet_step (fail))
                refine wpQuiet_nil ?_
                clear t0 t1
                refine ⟨fun _ _ _ _ => True, List.forall_mem_nil _, List.forall_mem_nil _, List.forall_mem_nil _, fun V G wk2 hS _ _ => ?_⟩
                have hX := below_of_regrown hS
                obtain ⟨hB9, hO9, hK9⟩ := HST.out
                have hO := OwnS.below hO9 hX
                have hK := hK9.below hX
                have hB10 := hB9.trans (hX.mono hB9.size)
                obtain ⟨Gq, hGq, _, _, _, ik⟩ := hO.si
                rw [show (setOn o b g (ON + n)).si.a = some ⟨Gi, 0, none⟩ from hOi] at hGq
                simp only [Option.some.injEq, Addr.mk.injEq, and_true] at hGq
                subst hGq
                have zl := ik.lt
                have zf := ik.frozen g
                have zc := ik.cell (j := g) (by show g < o.si.n; rw [HIN.out]; exact hg)
                have hst := hB10.setCell (p := ⟨Gi, g, none⟩) (by show W0.heap.size ≤ Gi; omega) (.int .i64 (SI + n))
                have hO2 := OwnS.setIn hO (show (setOn o b g (ON + n)).si.a = some ⟨Gi, 0, none⟩ from hOi) g (SI + n)
                have hK2 := hK.other (a := ⟨Gi, g, none⟩) (Blk.ne2 hK ik (by decide)) (.int .i64 (SI + n))
                have HS2 : Hid (Below W0.heap.size W0 (wk2.setCell ⟨Gi, g, none⟩ (.int .i64 (SI + n))) ∧ OwnS w5.heap.size (wk2.setCell ⟨Gi, g, none⟩ (.int .i64 (SI + n))) (setIn (setOn o b g (ON + n)) g (SI + n)) ∧ Blk (wk2.setCell ⟨Gi, g, none⟩ (.int .i64 (SI + n))) B13 31 7 (fun j => o.cells.getD j default)) := ⟨hst, hO2, hK2⟩
                clear hst hO2 hK2 hO hK ik hX hB10 hS hB9 hO9 hK9 HST
                simp only [putAll]
                refine wpSeq_one 11 rfl ?_
                go_wp2_with fail
                refine ⟨Late.yes, ?_⟩
                refine NoPanic.normal ?_
                generalize wk2.setCell { block := Gi, off := g } (Value.int IntKind.i64 (SI + n)) = W10 at *
                clear zl zf zc
                obtain ⟨hBt, hOt, hKt⟩ := HS2.out
                obtain ⟨_, _, _, hBw, hz⟩ := HC.out W10 hBt
                obtain ⟨m8, p0, p1, p2, p3, p4, p5, p6⟩ := Boxed.of hKt
                have zl := hz.lt
                have zf0 := hz.frozen 0
                have zc0 := hz.cell (j := 0) (by decide)
                have zf1 := hz.frozen 1
                have zc1 := hz.cell (j := 1) (by decide)
                have zf2 := hz.frozen 2
                have zc2 := hz.cell (j := 2) (by decide)
                have zf3 := hz.frozen 3
                have zc3 := hz.cell (j := 3) (by decide)
                have zf4 := hz.frozen 4
                have zc4 := hz.cell (j := 4) (by decide)
                have zf5 := hz.frozen 5
                have zc5 := hz.cell (j := 5) (by decide)
                have zf6 := hz.frozen 6
                have zc6 := hz.cell (j := 6) (by decide)
                clear hBt hOt hKt hBw hz hOa hOb hOi hO hK
                go_wp2_with fail
                obtain ⟨hBt, hOt, hKt⟩ := HS2.out
                obtain ⟨_, _, _, hBw, hz⟩ := HC.out W10 hBt
                have KZ := set7_blk hz (.slice o.on.a o.on.n o.on.c) (.slice o.os.a o.os.n o.os.c) (.slice o.hs.a o.hs.n o.hs.c) (.slice o.ms.a o.ms.n o.ms.c) (.slice o.si.a o.si.n o.si.c) (.slice o.so.a o.so.n o.so.c) (.slice o.sf.a o.sf.n o.sf.c)
                have hbz := set7_below (b := w.heap.size + 2) hBw (by omega) (.slice o.on.a o.on.n o.on.c) (.slice o.os.a o.os.n o.os.c) (.slice o.hs.a o.hs.n o.hs.c) (.slice o.ms.a o.ms.n o.ms.c) (.slice o.si.a o.si.n o.si.c) (.slice o.so.a o.so.n o.so.c) (.slice o.sf.a o.sf.n o.sf.c)
                have hOz := OwnS.set7 hOt hz (.slice o.on.a o.on.n o.on.c) (.slice o.os.a o.os.n o.os.c) (.slice o.hs.a o.hs.n o.hs.c) (.slice o.ms.a o.ms.n o.ms.c) (.slice o.si.a o.si.n o.si.c) (.slice o.so.a o.so.n o.so.c) (.slice o.sf.a o.sf.n o.sf.c)
                unfold set7 at KZ hbz hOz
                obtain ⟨c0', c1', c2', c3', c4', c5', c6'⟩ := box_cells KZ
                refine bodyPost_ret (v := .tuple #[(setIn (setOn o b g (ON + n)) g (SI + n)).val, .int .i64 0]) (by simp [results, Try.results22, go_sem, setIn, setOn, setRw, St.val, c0', c1', c2', c3', c4', c5', c6']) rfl ?_
                exact ⟨setIn (setOn o b g (ON + n)) g (SI + n), by rw [HX.out]; rfl, hOz.at, ⟨fun _ => HSM.out, fun h => absurd HX.out h⟩, hbz⟩
  · have HX : Hid (recvE p s bin good n = stateE p s) := recvE_state h0
    clear hpk hsk c0 c1 c2 c3 c4 c5 c6
    have zl := hz.lt
    have zf0 := hz.frozen 0
    have zc0 := hz.cell (j := 0) (by decide)
    have zf1 := hz.frozen 1
    have zc1 := hz.cell (j := 1) (by decide)
    have zf2 := hz.frozen 2
    have zc2 := hz.cell (j := 2) (by decide)
    have zf3 := hz.frozen 3
    have zc3 := hz.cell (j := 3) (by decide)
    have zf4 := hz.frozen 4
    have zc4 := hz.cell (j := 4) (by decide)
    have zf5 := hz.frozen 5
    have zc5 := hz.cell (j := 5) (by decide)
    have zf6 := hz.frozen 6
    have zc6 := hz.cell (j := 6) (by decide)
    go_wp2_with fail
    have KZ := set7_blk hz (.slice .none 0 0) (.slice .none 0 0) (.slice .none 0 0) (.slice .none 0 0) (.slice .none 0 0) (.slice .none 0 0) (.slice .none 0 0)
    have hbz := set7_below (b := w.heap.size + 2) hBw (by omega) (.slice .none 0 0) (.slice .none 0 0) (.slice .none 0 0) (.slice .none 0 0) (.slice .none 0 0) (.slice .none 0 0) (.slice .none 0 0)
    unfold set7 at KZ hbz
    obtain ⟨c0', c1', c2', c3', c4', c5', c6'⟩ := box_cells KZ
    refine bodyPost_ret (v := .tuple #[noneS.val, .int .i64 (stateE p s)]) (by simp [results, Try.results22, go_sem, noneS, St.val, c0', c1', c2', c3', c4', c5', c6']) rfl ?_
    exact ⟨noneS, by rw [HX.out]; rfl, noneS_at _, ⟨fun h => absurd h (by rw [HX.out]; exact h0), fun _ => ⟨rfl, rfl, rfl, rfl, rfl, rfl, rfl⟩⟩, hbz⟩

end Go.Proofs.Ytjiodlbblmbibac
/- Put, where it puts: its answer is new since the call. -/
namespace Go.Proofs.Ytjiodlbblmbibac
open Go.RowKit Go.Shelf
set_option linter.unusedVariables false

/-- Rows of the call's own, new since A, no two in one block. -/
structure OwnR (A : Nat) (w : World) (s : Sh) : Prop where
  on : ∃ g, s.a = some ⟨g, 0, none⟩ ∧ A ≤ g ∧ s.n ≤ s.c ∧ s.c ≤ maxLen ∧ Blk w g 23 s.n (fun i => .slice (s.r i).a (s.r i).n (s.r i).c)
  rows : ∀ i, i < s.n → OwnI A w (s.r i)
  rapart : ∀ i j, i < j → j < s.n → (s.r i).a ≠ (s.r j).a

set_option maxHeartbeats 1000000 in
theorem PutOwn_any (p : Pl) (s : Sh) (bin good n : Int) (w : World) (hp : p.At w) (hs : s.At w) (hput : putE p s bin good n = 0) :
    Calls Try.prog 57 #[p.val, s.val, .int .i64 bin, .int .i64 good, .int .i64 n] w fun e w' => ∃ s' : Sh, e = .returned (.tuple #[s'.val, .int .i64 0]) ∧ OwnR w.heap.size w' s' ∧ s'.n = s.n ∧ (∀ i, i < s.n → (s'.r i).n = (s.r i).n ∧ ∀ j, j < (s.r i).n → (s'.r i).z j = putZ s bin good n i j) ∧ Below w.heap.size w w' := by
  have hB0 : Below w.heap.size w (w.alloc (.cells #[.slice p.ab p.nb p.cb, .slice p.sa p.ns p.cs] 25)) := (Below.refl w.heap.size w).alloc (Nat.le_refl _) _
  simp only [Pl.val, Sh.val]
  have sle := hs.le
  have scap0 := hs.cap
  have scap := scap0
  unfold maxLen at scap
  have hn0 : s.n ≤ maxLen := Nat.le_trans sle scap0
  have les := hp.les
  have caps0 := hp.caps
  have hn1 : p.ns ≤ maxLen := Nat.le_trans les caps0
  have caps := caps0
  unfold maxLen at caps
  go_enter Try.func57, Try.ntmps57
  go_wp2_with fail
  refine (shelfCheck_any p s _ (hp.below hB0) (hs.below hB0)).mono ?_
  rintro e w1 ⟨rfl, hB⟩
  have hBw := hB0.trans (hB.mono (by simp))
  have hsz : w.heap.size < w1.heap.size := by have := hB.size; simp at this; omega
  have c1 : w1.cell? ⟨w.heap.size, 1, none⟩ = some (.slice p.sa p.ns p.cs) := (hB.cell (p := ⟨w.heap.size, 1, none⟩) (by simp)).trans (by simp)
  have h0 : shelfE p s = 0 := by
    apply Classical.byContradiction
    intro h0
    have hE : shelfErr p s bin good = shelfE p s := by simp [shelfErr, h0]
    simp [putE, hE, h0] at hput
  have hE := shelfErr_eq (bin := bin) (good := good) h0
  have h1 : inB bin 0 ((s.n : Int) - 1) = true := by
    cases h1 : inB bin 0 ((s.n : Int) - 1)
    · simp [putE, hE, h1] at hput
    · rfl
  have h2 : inB good 0 ((p.ns : Int) - 1) = true := by
    cases h2 : inB good 0 ((p.ns : Int) - 1)
    · simp [putE, hE, h1, h2] at hput
    · rfl
  have hE0 : shelfErr p s bin good = 0 := by simp [hE, h1, h2]
  clear hE
  obtain ⟨m, rfl⟩ := Int.eq_ofNat_of_zero_le (inB_true h1).1
  obtain ⟨q, rfl⟩ := Int.eq_ofNat_of_zero_le (inB_true h2).1
  have hm : m < s.n := by have := (inB_true h1).2; omega
  have hq : q < p.ns := by have := (inB_true h2).2; omega
  obtain ⟨pl, hn, hlen, hnum⟩ := (rightS h0).2
  have hz := hnum m hm q hq
  have hl := hlen m hm
  have h6 := pl.nb6
  rw [← hn] at h6
  have hr3 : Hid (∀ i, i < s.n → 1 ≤ (s.r i).n ∧ (s.r i).n ≤ 3) := fun i hi => by rw [hlen i hi]; exact ⟨pl.ns1, pl.ns3⟩
  have hs1 := hs.below hBw
  have m1 : (0 : Int) ≤ (m : Int) := by omega
  have m2 : (0 : Int) ≤ (q : Int) := by omega
  obtain ⟨b, o, ha, hb, z0, hat⟩ := hs1.rows m hm
  obtain ⟨b1, o1, ha1, hb1, y0⟩ := hat.ints q (by omega)
  rw [ha1] at z0
  have hql : q < (s.r m).n := by omega
  have rle := hat.le
  have rcap := hat.cap
  unfold maxLen at rcap
  have h3 : inB n (-((s.r m).z q)) (200 - (s.r m).z q) = true := by
    cases h3 : inB n (-((s.r m).z q)) (200 - (s.r m).z q)
    · simp [putE, hE0, h3] at hput
    · rfl
  clear hput
  clear pl hn hlen hnum ha1 hat hE0 hl
  obtain ⟨s0, sn, sc, sr⟩ := s
  dsimp only at *
  subst ha
  go_wp2_with (first | (go_at_call_of 30 (Value.int .i64 (m : Int)); refine calls_to (Has_any _ _ _ hn0) ?_) | (go_at_call_of 30 (Value.int .i64 (q : Int)); refine calls_to (Has_any _ _ _ hn1) ?_) | (go_at_call 55; refine calls_to (Within_any _ _ _ _) ?_))
  refine (copyRows_any ⟨some ⟨b, o, none⟩, sn, sc, sr⟩ w1 hs1 h6 hr3.out).mono ?_
  rintro e w2 ⟨g, G, C, rfl, hg, gb, gr, gm, hB2⟩
  dsimp only at gb gr gm ⊢
  obtain ⟨g1, g2, g3, g4⟩ := gr m hm
  have d0 := gb.cell hm
  have d1 := g4.cell hql
  have d2 := g4.frozen q
  have hnn := inB_true h3
  unfold maxLen at g3
  have hB3 := hBw.trans (hB2.mono hBw.size)
  have hge : w.heap.size ≤ G m := by have := hBw.size; omega
  have st := hB3.setCell (p := ⟨G m, q, none⟩) hge (.int .i64 ((sr m).z q + n))
  have HH : Hid _ := And.intro gb (And.intro gr gm)
  clear gb gr gm c1 y0 z0
  go_wp2_with fail
  go_ret2
  obtain ⟨gb, gr, gm⟩ := HH.out
  refine ⟨⟨some ⟨g, 0, none⟩, sn, sn, fun i => ⟨some ⟨G i, 0, none⟩, (sr i).n, C i, fun j => putZ ⟨some ⟨b, o, none⟩, sn, sc, sr⟩ m q n i j⟩⟩, rfl, ⟨⟨g, rfl, ?_, Nat.le_refl _, hn0, ?_⟩, ?_, ?_⟩, rfl, fun i hi => ⟨rfl, fun j hj => rfl⟩, st⟩
  · have := hBw.size; omega
  · exact gb.other (a := ⟨G m, q, none⟩) (by show g ≠ G m; omega) (.int .i64 ((sr m).z q + n))
  · intro i hi
    have gi := gr i hi
    refine ⟨G i, rfl, ?_, gi.2.1, gi.2.2.1, ?_⟩
    · have := hBw.size; omega
    · by_cases him : i = m
      · subst him
        refine (gi.2.2.2.set q (.int .i64 ((sr i).z q + n))).congr fun j hj => ?_
        by_cases hjq : j = q
        · subst hjq; simp [putZ]
        · simp [putZ, hjq]
      · have hGne : G i ≠ G m := by
          rcases Nat.lt_or_gt_of_ne him with h | h
          · have := gm i m h hm; omega
          · have := gm m i h hi; omega
        refine (gi.2.2.2.other (a := ⟨G m, q, none⟩) hGne (.int .i64 ((sr m).z q + n))).congr fun j hj => ?_
        simp [putZ, him]
  · intro i j hij hj h
    have := gm i j hij hj
    simp only [Option.some.injEq, Addr.mk.injEq, and_true] at h
    omega

end Go.Proofs.Ytjiodlbblmbibac
/- How many lie in a bin, with those that are to move there: bins.Lying. -/
namespace Go.Proofs.Ytjiodlbblmbibac
open Go.RowKit Go.Shelf Go.Sort
set_option linter.unusedVariables false

set_option maxHeartbeats 4000000 in
theorem Lying_any (p : Pl) (s : St) (bin good : Nat) (w : World) (hs : s.At w) (f : Formed p s) (hbin : bin < p.nb) (hgood : good < p.ns) :
    Calls Try.prog 56 #[s.val, .int .i64 bin, .int .i64 good] w fun e w' => e = .returned (.int .i64 (lyingZ s bin good)) ∧ Below w.heap.size w w' := by
  obtain ⟨W0, hW0, hWB, hX⟩ : ∃ W0, w.alloc (.cells s.cells 31) = W0 ∧ Below w.heap.size w W0 ∧ Blk W0 w.heap.size 31 7 (fun j => s.cells.getD j default) := ⟨_, rfl, (Below.refl w.heap.size w).alloc (Nat.le_refl _) _, Blk.mk' rfl rfl⟩
  have hs0 := hs.below hWB
  have hon : bin < s.on.n := by rw [f.sh.n]; exact hbin
  obtain ⟨bo, oo, hoa, hbo, y0, hrow⟩ := hs0.on.rows bin hon
  have hrn := f.sh.len bin hon
  have hnum := f.sh.num bin hon good hgood
  obtain ⟨br, orr, hra, hbr, y1⟩ := hrow.ints good (by omega)
  have hrle := hrow.le
  have hrcap := hrow.cap
  have hole := hs0.on.le
  have hocap := hs0.on.cap
  unfold maxLen at hrcap hocap
  rw [hra, hrn] at y0
  rw [hrn] at hrle
  have c0 : W0.cell? ⟨w.heap.size, 0, none⟩ = some (.slice s.on.a s.on.n s.on.c) := hX.cell (j := 0) (by decide)
  rw [hoa] at c0
  have l0 := hX.lt
  have HOA : Hid (s.on.a = some ⟨bo, oo, none⟩) := hoa
  have b0 : (0 : Int) ≤ (bin : Int) := by omega
  have g0 : (0 : Int) ≤ (good : Int) := by omega
  have HLY : Hid (∀ k, k = s.ms.n → lyingZ s bin good = (s.on.r bin).z good + comingTo s bin good k) := fun k hk => by subst hk; rfl
  have HC : Hid (∀ wk, Below W0.heap.size W0 wk → s.At wk ∧ wk.cell? ⟨w.heap.size, 3, none⟩ = some (.slice s.ms.a s.ms.n s.ms.c) ∧ w.heap.size < wk.heap.size) :=
    fun wk h => ⟨hs0.below h, (hX.below h).cell (j := 3) (by decide), (hX.below h).lt⟩
  have hmle := hs0.ms.le
  have hmcap := hs0.ms.cap
  unfold maxLen at hmcap
  have m8 := f.ms8
  have MB : Hid (∀ k, k ≤ s.ms.n → 0 ≤ comingTo s bin good k ∧ comingTo s bin good k ≤ 200 * k) := fun k hk => comingTo_bd fun j hj => f.moveN j (by omega)
  have HW : Hid (w.alloc (.cells #[.slice (some ⟨bo, oo, none⟩) s.on.n s.on.c, .slice s.os.a s.os.n s.os.c, .slice s.hs.a s.hs.n s.hs.c, .slice s.ms.a s.ms.n s.ms.c, .slice s.si.a s.si.n s.si.c, .slice s.so.a s.so.n s.so.c, .slice s.sf.a s.sf.n s.sf.c] 31) = W0) := by show _ = W0; rw [← hW0, St.cells, hoa]
  have y0e := y0
  have y1e := y1
  have hboe := hbo
  have hbre := hbr
  rw [← HW.out] at y0e y1e hboe hbre
  simp only [St.val, hoa]
  clear hX hW0 hrow hs hs0
  clear hoa hra c0 l0 y0 y1 hbo hbr hrn
  generalize (s.on.r bin).z good = ON at *
  go_enter Try.func56, Try.ntmps56
  go_wp2_with fail
  rw [HW.out]
  clear y0e y1e hboe hbre
  go_loopw [7, 21] (fun u i wk => ∃ k : Nat, k ≤ s.ms.n ∧ i = .int .i64 k ∧ u = .int .i64 (ON + comingTo s bin good k) ∧ Below W0.heap.size W0 wk) (fun _ i _ => s.ms.n - (intOf i).toNat)
  case atStart => exact ⟨0, Nat.zero_le _, rfl, by simp [comingTo], Below.refl _ _⟩
  case round =>
    obtain ⟨k, hk, rfl, rfl, hB⟩ := hrel
    have m2 := MB.out k hk
    obtain ⟨hsk, c3, hlt0⟩ := HC.out wr hB
    by_cases hlt2 : k < s.ms.n
    · obtain ⟨b, q, hma, hb, z0, z1, z2, z3⟩ := hsk.ms.hds k hlt2
      have m3 := f.moveN k hlt2
      have H1 : Hid (((s.ms.z k).b = bin ∧ (s.ms.z k).o = good → comingTo s bin good (k + 1) = comingTo s bin good k + (s.ms.z k).n) ∧ (¬ ((s.ms.z k).b = bin ∧ (s.ms.z k).o = good) → comingTo s bin good (k + 1) = comingTo s bin good k)) := ⟨fun h => comingTo_hit h.1 h.2, comingTo_miss⟩
      have q4 : (0 : Int) ≤ (k : Int) := by omega
      rw [hma]
      obtain ⟨W1, hW1, hB1⟩ : ∃ W1, wr.alloc (.cells #[.int .i64 (s.ms.z k).o, .int .i64 (s.ms.z k).l, .int .i64 (s.ms.z k).b, .int .i64 (s.ms.z k).n] 70) = W1 ∧ Below W0.heap.size W0 W1 := ⟨_, rfl, hB.alloc hB.size _⟩
      have HV : Hid (wr.alloc (.cells #[.int .i64 (s.ms.z k).o, .int .i64 (s.ms.z k).l, .int .i64 (s.ms.z k).b, .int .i64 (s.ms.z k).n] 70) = W1) := hW1
      clear hma hsk hW1 c3 hlt0
      generalize comingTo s bin good k = U at *
      generalize (s.ms.z k).b = BB at *
      generalize (s.ms.z k).n = NN at *
      generalize (s.ms.z k).l = LL at *
      generalize (s.ms.z k).o = GD at *
      cases h1 : (BB == (bin : Int))
      · have hm := H1.out.2 (by simp at h1; omega)
        have HM : Hid (comingTo s bin good (k + 1) = U) := hm
        clear hm H1
        go_wp2_with fail
        rw [HV.out]
        go_roundw
        case rel => exact ⟨k + 1, by omega, by go_num, by rw [HM.out], hB1⟩
        case measure => simp [intOf]; omega
      · cases h2 : (GD == (good : Int))
        · have hm := H1.out.2 (by simp at h2; omega)
          have HM : Hid (comingTo s bin good (k + 1) = U) := hm
          clear hm H1
          go_wp2_with fail
          rw [HV.out]
          go_roundw
          case rel => exact ⟨k + 1, by omega, by go_num, by rw [HM.out], hB1⟩
          case measure => simp [intOf]; omega
        · have hm := H1.out.1 ⟨by simpa using h1, by simpa using h2⟩
          have HM : Hid (comingTo s bin good (k + 1) = U + NN) := hm
          clear hm H1
          go_wp2_with fail
          rw [HV.out]
          go_roundw
          case rel => exact ⟨k + 1, by omega, by go_num, by rw [HM.out]; congr 1; omega, hB1⟩
          case measure => simp [intOf]; omega
    · have hkn : k = s.ms.n := by omega
      subst hkn
      go_wp2_with fail
      go_ret
      exact ⟨by rw [HLY.out _ rfl]; rfl, hWB.trans (hB.mono hWB.size)⟩

end Go.Proofs.Ytjiodlbblmbibac
/- What the code receives: recv.Receive. -/
namespace Go.Proofs.Ytjiodlbblmbibac
open Go.RowKit Go.Shelf Go.Sort
set_option linter.unusedVariables false

theorem OwnS.swap {A B : Nat} {w0 w : World} {o : St} {r : Sh} (h : OwnS A w0 o) (hB : Below w0.heap.size w0 w) (hR : OwnR B w r) (hw : w0.heap.size ≤ B) (hA : A ≤ B) : OwnS A w ⟨r, o.os, o.hs, o.ms, o.si, o.so, o.sf⟩ := by
  have k := OwnS.below h hB
  obtain ⟨G1, a1, -, -, -, k1⟩ := h.si
  obtain ⟨G2, a2, -, -, -, k2⟩ := h.so
  obtain ⟨G3, a3, -, -, -, k3⟩ := h.sf
  have l1 := k1.lt
  have l2 := k2.lt
  have l3 := k3.lt
  refine ⟨?_, fun i hi => ?_, hR.rapart, k.os, k.hs, k.ms, k.msr, k.si, k.so, k.sf, k.aio, k.aif, k.aof, fun i hi => ?_⟩
  · obtain ⟨g, h1, h2, h3⟩ := hR.on
    exact ⟨g, h1, by omega, h3⟩
  · obtain ⟨g, h1, h2, h3⟩ := hR.rows i hi
    exact ⟨g, h1, by omega, h3⟩
  · obtain ⟨g, h1, h2, h3⟩ := hR.rows i hi
    show (r.r i).a ≠ o.si.a ∧ (r.r i).a ≠ o.so.a ∧ (r.r i).a ≠ o.sf.a
    rw [h1, a1, a2, a3]
    simp only [ne_eq, Option.some.injEq, Addr.mk.injEq, and_true]
    omega

set_option maxRecDepth 100000 in
set_option maxHeartbeats 8000000 in
theorem Receive_any (p : Pl) (s : St) (bin good n : Int) (w : World) (hp : p.At w) (hs : s.At w) :
    Calls Try.prog 21 #[p.val, s.val, .int .i64 bin, .int .i64 good, .int .i64 n] w fun e w' => ∃ s' : St, e = .returned (.tuple #[s'.val, .int .i64 (recvE p s bin good n)]) ∧ s'.At w' ∧ ActOK (recvE p s bin good n) (recvT s bin.toNat good.toNat n) s' ∧ Below w.heap.size w w' := by
  obtain ⟨W0, hW, hWB, X0, Z0⟩ : ∃ W, (((w.alloc (.cells #[.slice p.ab p.nb p.cb, .slice p.sa p.ns p.cs] 25)).alloc (.cells s.cells 31)).alloc (.cells #[.slice .none 0 0, .slice .none 0 0, .slice .none 0 0, .slice .none 0 0, .slice .none 0 0, .slice .none 0 0, .slice .none 0 0] 31)) = W ∧ Below w.heap.size w W ∧ Boxes W w.heap.size (w.heap.size + 1) p s ∧ Blk W (w.heap.size + 2) 31 7 (fun _ => .slice .none 0 0) :=
    ⟨_, rfl, (two_below _ _ _).alloc (by simp; omega) _, (boxes_new w p s _ _).below ((Below.refl _ _).alloc (Nat.le_refl _) _), (Blk.mk' (cur := #[.slice .none 0 0, .slice .none 0 0, .slice .none 0 0, .slice .none 0 0, .slice .none 0 0, .slice .none 0 0, .slice .none 0 0]) (by simp) rfl).congr (fun j hj => by match j, hj with | 0, _ => rfl | 1, _ => rfl | 2, _ => rfl | 3, _ => rfl | 4, _ => rfl | 5, _ => rfl | 6, _ => rfl)⟩
  have HC : Hid (∀ wk, Below W0.heap.size W0 wk → Boxes wk w.heap.size (w.heap.size + 1) p s ∧ p.At wk ∧ s.At wk ∧ Below w.heap.size w wk ∧ Blk wk (w.heap.size + 2) 31 7 (fun _ => .slice .none 0 0)) := fun wk h => ⟨X0.below h, (hp.below hWB).below h, (hs.below hWB).below h, hWB.trans (h.mono hWB.size), Z0.below h⟩
  have HW : Hid (((w.alloc (.cells #[.slice p.ab p.nb p.cb, .slice p.sa p.ns p.cs] 25)).alloc (.cells #[.slice s.on.a s.on.n s.on.c, .slice s.os.a s.os.n s.os.c, .slice s.hs.a s.hs.n s.hs.c, .slice s.ms.a s.ms.n s.ms.c, .slice s.si.a s.si.n s.si.c, .slice s.so.a s.so.n s.so.c, .slice s.sf.a s.sf.n s.sf.c] 31)).alloc (.cells #[.slice .none 0 0, .slice .none 0 0, .slice .none 0 0, .slice .none 0 0, .slice .none 0 0, .slice .none 0 0, .slice .none 0 0] 31) = W0) := hW
  have leb := hp.leb
  have capb0 := hp.capb
  have les := hp.les
  have caps0 := hp.caps
  have capb := capb0
  have caps := caps0
  have zlt0 := Z0.lt
  unfold maxLen at capb caps
  clear hW X0 Z0 hp hs
  unfold Pl.val St.val
  go_enter Try.func21, Try.ntmps21
  go_wp2_with fail
  rw [HW.out]
  obtain ⟨X, hpk, hsk, hBw, hz⟩ := HC.out W0 (Below.refl _ _)
  refine (stateCheck_any p s W0 hpk hsk).mono ?_
  rintro e w1 ⟨rfl, hB⟩
  clear X hpk hsk hBw hz HW
  obtain ⟨⟨⟨l1, d0, d1⟩, l2, c0, c1, c2, c3, c4, c5, c6⟩, hpk, hsk, hBw, hz⟩ := HC.out w1 hB
  have hnb : p.nb ≤ maxLen := Nat.le_trans leb capb0
  have hns : p.ns ≤ maxLen := Nat.le_trans les caps0
  by_cases h0 : stateE p s = 0
  · have H0 : Hid (stateE p s = 0) := h0
    have HF : Hid (Formed p s) := (rightT h0).fm
    rw [h0]
    clear h0
    cases k1 : inB bin 0 ((p.nb : Int) - 1)
    · have HX : Hid (recvE p s bin good n = 3) := recvE_range H0.out (by rw [k1]; rfl)
      clear c0 c1 c2 c3 c4 c5 c6 hpk hsk
      have zl := hz.lt
      have zf0 := hz.frozen 0
      have zc0 := hz.cell (j := 0) (by decide)
      have zf1 := hz.frozen 1
      have zc1 := hz.cell (j := 1) (by decide)
      have zf2 := hz.frozen 2
      have zc2 := hz.cell (j := 2) (by decide)
      have zf3 := hz.frozen 3
      have zc3 := hz.cell (j := 3) (by decide)
      have zf4 := hz.frozen 4
      have zc4 := hz.cell (j := 4) (by decide)
      have zf5 := hz.frozen 5
      have zc5 := hz.cell (j := 5) (by decide)
      have zf6 := hz.frozen 6
      have zc6 := hz.cell (j := 6) (by decide)
      go_wp2_with (first | (go_at_call_of 30 (Value.int .i64 bin); refine calls_to (Has_any _ _ _ hnb) ?_) | (go_at_call_of 30 (Value.int .i64 good); refine calls_to (Has_any _ _ _ hns) ?_) | (go_at_call 55; refine calls_to (Within_any _ _ _ _) ?_))
      have KZ := set7_blk hz (.slice .none 0 0) (.slice .none 0 0) (.slice .none 0 0) (.slice .none 0 0) (.slice .none 0 0) (.slice .none 0 0) (.slice .none 0 0)
      have hbz := set7_below (b := w.heap.size + 2) hBw (by omega) (.slice .none 0 0) (.slice .none 0 0) (.slice .none 0 0) (.slice .none 0 0) (.slice .none 0 0) (.slice .none 0 0) (.slice .none 0 0)
      unfold set7 at KZ hbz
      obtain ⟨c0', c1', c2', c3', c4', c5', c6'⟩ := box_cells KZ
      refine bodyPost_ret (v := .tuple #[noneS.val, .int .i64 3]) (by simp [results, Try.results21, go_sem, noneS, St.val, c0', c1', c2', c3', c4', c5', c6']) rfl ?_
      exact ⟨noneS, by rw [HX.out]; rfl, noneS_at _, ⟨fun h => absurd h (by rw [HX.out]; decide), fun _ => ⟨rfl, rfl, rfl, rfl, rfl, rfl, rfl⟩⟩, hbz⟩
    cases k2 : inB good 0 ((p.ns : Int) - 1)
    · have HX : Hid (recvE p s bin good n = 3) := recvE_range H0.out (by rw [k1, k2]; rfl)
      clear c0 c1 c2 c3 c4 c5 c6 hpk hsk
      have zl := hz.lt
      have zf0 := hz.frozen 0
      have zc0 := hz.cell (j := 0) (by decide)
      have zf1 := hz.frozen 1
      have zc1 := hz.cell (j := 1) (by decide)
      have zf2 := hz.frozen 2
      have zc2 := hz.cell (j := 2) (by decide)
      have zf3 := hz.frozen 3
      have zc3 := hz.cell (j := 3) (by decide)
      have zf4 := hz.frozen 4
      have zc4 := hz.cell (j := 4) (by decide)
      have zf5 := hz.frozen 5
      have zc5 := hz.cell (j := 5) (by decide)
      have zf6 := hz.frozen 6
      have zc6 := hz.cell (j := 6) (by decide)
      go_wp2_with (first | (go_at_call_of 30 (Value.int .i64 bin); refine calls_to (Has_any _ _ _ hnb) ?_) | (go_at_call_of 30 (Value.int .i64 good); refine calls_to (Has_any _ _ _ hns) ?_) | (go_at_call 55; refine calls_to (Within_any _ _ _ _) ?_))
      have KZ := set7_blk hz (.slice .none 0 0) (.slice .none 0 0) (.slice .none 0 0) (.slice .none 0 0) (.slice .none 0 0) (.slice .none 0 0) (.slice .none 0 0)
      have hbz := set7_below (b := w.heap.size + 2) hBw (by omega) (.slice .none 0 0) (.slice .none 0 0) (.slice .none 0 0) (.slice .none 0 0) (.slice .none 0 0) (.slice .none 0 0) (.slice .none 0 0)
      unfold set7 at KZ hbz
      obtain ⟨c0', c1', c2', c3', c4', c5', c6'⟩ := box_cells KZ
      refine bodyPost_ret (v := .tuple #[noneS.val, .int .i64 3]) (by simp [results, Try.results21, go_sem, noneS, St.val, c0', c1', c2', c3', c4', c5', c6']) rfl ?_
      exact ⟨noneS, by rw [HX.out]; rfl, noneS_at _, ⟨fun h => absurd h (by rw [HX.out]; decide), fun _ => ⟨rfl, rfl, rfl, rfl, rfl, rfl, rfl⟩⟩, hbz⟩
    cases k3 : inB n 1 200
    · have HX : Hid (recvE p s bin good n = 3) := recvE_range H0.out (by rw [k1, k2, k3]; rfl)
      clear c0 c1 c2 c3 c4 c5 c6 hpk hsk
      have zl := hz.lt
      have zf0 := hz.frozen 0
      have zc0 := hz.cell (j := 0) (by decide)
      have zf1 := hz.frozen 1
      have zc1 := hz.cell (j := 1) (by decide)
      have zf2 := hz.frozen 2
      have zc2 := hz.cell (j := 2) (by decide)
      have zf3 := hz.frozen 3
      have zc3 := hz.cell (j := 3) (by decide)
      have zf4 := hz.frozen 4
      have zc4 := hz.cell (j := 4) (by decide)
      have zf5 := hz.frozen 5
      have zc5 := hz.cell (j := 5) (by decide)
      have zf6 := hz.frozen 6
      have zc6 := hz.cell (j := 6) (by decide)
      go_wp2_with (first | (go_at_call_of 30 (Value.int .i64 bin); refine calls_to (Has_any _ _ _ hnb) ?_) | (go_at_call_of 30 (Value.int .i64 good); refine calls_to (Has_any _ _ _ hns) ?_) | (go_at_call 55; refine calls_to (Within_any _ _ _ _) ?_))
      have KZ := set7_blk hz (.slice .none 0 0) (.slice .none 0 0) (.slice .none 0 0) (.slice .none 0 0) (.slice .none 0 0) (.slice .none 0 0) (.slice .none 0 0)
      have hbz := set7_below (b := w.heap.size + 2) hBw (by omega) (.slice .none 0 0) (.slice .none 0 0) (.slice .none 0 0) (.slice .none 0 0) (.slice .none 0 0) (.slice .none 0 0) (.slice .none 0 0)
      unfold set7 at KZ hbz
      obtain ⟨c0', c1', c2', c3', c4', c5', c6'⟩ := box_cells KZ
      refine bodyPost_ret (v := .tuple #[noneS.val, .int .i64 3]) (by simp [results, Try.results21, go_sem, noneS, St.val, c0', c1', c2', c3', c4', c5', c6']) rfl ?_
      exact ⟨noneS, by rw [HX.out]; rfl, noneS_at _, ⟨fun h => absurd h (by rw [HX.out]; decide), fun _ => ⟨rfl, rfl, rfl, rfl, rfl, rfl, rfl⟩⟩, hbz⟩
    obtain ⟨b, rfl⟩ := Int.eq_ofNat_of_zero_le (inB_true k1).1
    obtain ⟨g, rfl⟩ := Int.eq_ofNat_of_zero_le (inB_true k2).1
    have hb : b < p.nb := by have := (inB_true k1).2; omega
    have hg : g < p.ns := by have := (inB_true k2).2; omega
    have hn := inB_true k3
    have K3 : Hid (inB n 1 200 = true) := k3
    have pz := HF.out.sh.pl.sizes g hg
    have fb := freeZ_bd HF.out hb
    have mb := mul_bd (a := n) (b := p.zs g) ⟨by omega, hn.2⟩ pz
    have qb : (0 : Int) ≤ (b : Int) := by omega
    have qg : (0 : Int) ≤ (g : Int) := by omega
    have HPS : Hid (p.At w1 ∧ s.At w1) := ⟨hpk, hsk⟩
    clear hpk hsk
    go_wp2_with (first | (go_at_call_of 30 (Value.int .i64 (b : Int)); refine calls_to (Has_any _ _ _ hnb) ?_) | (go_at_call_of 30 (Value.int .i64 (g : Int)); refine calls_to (Has_any _ _ _ hns) ?_) | (go_at_call 55; refine calls_to (Within_any _ _ _ _) ?_))
    refine (Free_any p s b w1 HPS.out.1 HPS.out.2).mono ?_
    rintro e w2 ⟨rfl, hB2⟩
    have hB := hB.trans (hB2.mono hB.size)
    clear l1 d0 d1 l2 c0 c1 c2 c3 c4 c5 c6 hBw hz hB2 HPS
    obtain ⟨⟨⟨l1, d0, d1⟩, l2, c0, c1, c2, c3, c4, c5, c6⟩, hpk, hsk, hBw, hz⟩ := HC.out w2 hB
    obtain ⟨bz, oz, hsa, hbz, y0⟩ := hpk.sizes g hg
    have HSA : Hid (p.sa = some ⟨bz, oz, none⟩ ∧ p.At w2 ∧ s.At w2) := ⟨hsa, hpk, hsk⟩
    rw [hsa] at d1
    have HFV : Hid (freeV p s b = freeZ p s b ∧ freeE p s b = 0) := by
      have hu : usedE p s.on b = 0 := by unfold usedE; rw [HF.out.sh0]; simp only [beq_self_eq_true, if_true]; rw [inB_mk (by have := HF.out.sh.n; omega)]; rfl
      have e : freeE p s b = 0 := by unfold freeE; rw [if_pos H0.out, hu]
      exact ⟨by unfold freeV; rw [e, if_pos rfl]; rfl, e⟩
    rw [HFV.out.1, HFV.out.2]
    have HT5 : Hid (freeZ p s b < n * p.zs g → recvE p s b g n = 5) := fun h => recvE_full H0.out hb hg K3.out h
    have HT2 : Hid (¬ freeZ p s b < n * p.zs g → (200 < lyingZ s b g + n ∨ 1048576 < s.si.z g + n) → recvE p s b g n = 2) := fun h h2 => recvE_many H0.out hb hg K3.out h h2
    have HT0 : Hid (¬ freeZ p s b < n * p.zs g → ¬ (200 < lyingZ s b g + n ∨ 1048576 < s.si.z g + n) → recvE p s b g n = 0) := fun h h2 => recvE_ok H0.out hb hg K3.out h h2
    clear HFV k1 k2 hsa hpk hsk
    generalize freeZ p s b = FR at *
    generalize p.zs g = PZ at *
    by_cases h5 : FR < n * PZ
    · have HX : Hid (recvE p s b g n = 5) := HT5.out h5
      clear c0 c1 c2 c3 c4 c5 c6
      have zl := hz.lt
      have zf0 := hz.frozen 0
      have zc0 := hz.cell (j := 0) (by decide)
      have zf1 := hz.frozen 1
      have zc1 := hz.cell (j := 1) (by decide)
      have zf2 := hz.frozen 2
      have zc2 := hz.cell (j := 2) (by decide)
      have zf3 := hz.frozen 3
      have zc3 := hz.cell (j := 3) (by decide)
      have zf4 := hz.frozen 4
      have zc4 := hz.cell (j := 4) (by decide)
      have zf5 := hz.frozen 5
      have zc5 := hz.cell (j := 5) (by decide)
      have zf6 := hz.frozen 6
      have zc6 := hz.cell (j := 6) (by decide)
      go_wp2_with fail
      have KZ := set7_blk hz (.slice .none 0 0) (.slice .none 0 0) (.slice .none 0 0) (.slice .none 0 0) (.slice .none 0 0) (.slice .none 0 0) (.slice .none 0 0)
      have hbz := set7_below (b := w.heap.size + 2) hBw (by omega) (.slice .none 0 0) (.slice .none 0 0) (.slice .none 0 0) (.slice .none 0 0) (.slice .none 0 0) (.slice .none 0 0) (.slice .none 0 0)
      unfold set7 at KZ hbz
      obtain ⟨c0', c1', c2', c3', c4', c5', c6'⟩ := box_cells KZ
      refine bodyPost_ret (v := .tuple #[noneS.val, .int .i64 5]) (by simp [results, Try.results21, go_sem, noneS, St.val, c0', c1', c2', c3', c4', c5', c6']) rfl ?_
      exact ⟨noneS, by rw [HX.out]; rfl, noneS_at _, ⟨fun h => absurd h (by rw [HX.out]; decide), fun _ => ⟨rfl, rfl, rfl, rfl, rfl, rfl, rfl⟩⟩, hbz⟩
    · have d5 : decide (FR < n * PZ) = false := by simp; omega
      have hz0 := hz.lt
      clear hz
      go_wp2_with fail
      refine (Lying_any p s b g w2 HSA.out.2.2 HF.out hb hg).mono ?_
      rintro e w3 ⟨rfl, hB2⟩
      have hB := hB.trans (hB2.mono hB.size)
      clear l1 d0 d1 l2 c0 c1 c2 c3 c4 c5 c6 hBw hB2 HSA y0 hz0 hbz d5
      obtain ⟨⟨⟨l1, d0, d1⟩, l2, c0, c1, c2, c3, c4, c5, c6⟩, hpk, hsk, hBw, hz⟩ := HC.out w3 hB
      obtain ⟨bi, oi, hia, hbi, y2⟩ := hsk.si.ints g (by rw [HF.out.sin]; exact hg)
      have v5 := hsk.si.le
      have v6 := hsk.si.cap
      unfold maxLen at v6
      have u3 := HF.out.sib g hg
      have si1 : g < s.si.n := by rw [HF.out.sin]; exact hg
      have ly : 0 ≤ lyingZ s b g ∧ lyingZ s b g ≤ 1800 := by
        have hon : b < s.on.n := by rw [HF.out.sh.n]; exact hb
        have u1 := HF.out.sh.num b hon g hg
        have u2 := comingTo_bd (s := s) (b := b) (g := g) HF.out.moveN
        have ms8 := HF.out.ms8
        unfold lyingZ
        omega
      have HSA : Hid (p.At w3 ∧ s.At w3 ∧ s.si.a = some ⟨bi, oi, none⟩) := ⟨hpk, hsk, hia⟩
      have HT2' := HT2.out h5
      have HT0' := HT0.out h5
      have HRE : Hid (recvT s b g n = setIn (setOn s b g ((s.on.r b).z g + n)) g (s.si.z g + n)) := rfl
      clear HT2 HT0
      have HLY : Hid (lyingZ s b g = (s.on.r b).z g + comingTo s b g s.ms.n) := rfl
      clear hpk hsk
      generalize lyingZ s b g = LY at *
      generalize hSI : s.si.z g = SI at *
      have HSI : Hid (s.si.z g = SI) := hSI
      clear hSI
      rw [hia] at c4
      clear hia
      cases d6 : decide (200 - LY < n)
      · cases d7 : decide (1048576 - SI < n)
        · have HX : Hid (recvE p s b g n = 0) := HT0' (by simp at d6 d7; omega)
          have hput : putE p s.on b g n = 0 := by
            have hon : b < s.on.n := by rw [HF.out.sh.n]; exact hb
            have hu : shelfErr p s.on b g = 0 := by rw [shelfErr_eq HF.out.sh0, inB_mk (by omega), inB_mk (by omega)]; rfl
            have u1 := HF.out.sh.num b hon g hg
            have u2 := (comingTo_bd (s := s) (b := b) (g := g) HF.out.moveN).1
            have ee := HLY.out
            have hi : inB n (-((s.on.r b).z g)) (200 - (s.on.r b).z g) = true := inB_mk (by simp at d6; omega)
            simp [putE, hu, hi]
          have HPUT : Hid (putE p s.on b g n = 0) := hput
          have hz0 := hz.lt
          have hcs := copyState_any p s w3 HSA.out.2.1 HF.out
          rw [St.val, HSA.out.2.2] at hcs
          have HCS : Hid _ := hcs
          clear HT2' HT0' hput hcs hz
          go_wp2_with fail
          refine Calls.mono HCS.out ?_
          rintro e w4 ⟨o, rfl, hsame, hown, hB2⟩
          clear HCS
          have hB4 := hB.trans (hB2.mono hB.size)
          have q3 := hB.size
          have q4 := hB2.size
          have HIN : Hid (o.si.n = p.ns) := hsame.si.1.trans HF.out.sin
          have HSQ : Hid (o.si.z g = SI) := (hsame.si.2 g (by rw [HIN.out]; exact hg)).trans HSI.out
          obtain ⟨W5, hW5, hWB5, K5⟩ : ∃ W, w4.alloc (.cells #[.slice o.on.a o.on.n o.on.c, .slice o.os.a o.os.n o.os.c, .slice o.hs.a o.hs.n o.hs.c, .slice o.ms.a o.ms.n o.ms.c, .slice o.si.a o.si.n o.si.c, .slice o.so.a o.so.n o.so.c, .slice o.sf.a o.sf.n o.sf.c] 31) = W ∧ Below w4.heap.size w4 W ∧ Blk W w4.heap.size 31 7 (fun j => o.cells.getD j default) := ⟨_, rfl, (Below.refl _ _).alloc (Nat.le_refl _) _, Blk.mk' rfl rfl⟩
          have HW5 : Hid (w4.alloc (.cells #[.slice o.on.a o.on.n o.on.c, .slice o.os.a o.os.n o.os.c, .slice o.hs.a o.hs.n o.hs.c, .slice o.ms.a o.ms.n o.ms.c, .slice o.si.a o.si.n o.si.c, .slice o.so.a o.so.n o.so.c, .slice o.sf.a o.sf.n o.sf.c] 31) = W5) := hW5
          have hB5 := hB4.trans (hWB5.mono hB4.size)
          have hown5 := OwnS.below hown hWB5
          clear l1 d0 d1 l2 c0 c1 c2 c3 c4 c5 c6 hBw HSA hz0 hbi y2
          obtain ⟨⟨⟨l1, d0, d1⟩, l2, c0, -⟩, hpk, hsk, hBw, -⟩ := HC.out W5 hB5
          have HAT : Hid (p.At W5 ∧ s.At W5) := ⟨hpk, hsk⟩
          have HOW : Hid (OwnS w3.heap.size W5 o ∧ Blk W5 w4.heap.size 31 7 (fun j => o.cells.getD j default) ∧ SameT o s) := ⟨hown5, K5, hsame⟩
          have l1e := l1
          have l2e := l2
          have d0e := d0
          have d1e := d1
          have c0e := c0
          rw [← HW5.out] at l1e l2e d0e d1e c0e
          clear hown hown5 K5 hsame hpk hsk hBw l1 l2 d0 d1 c0 hW5
          simp only [St.val]
          go_wp2_with fail
          rw [HW5.out]
          clear l1e l2e d0e d1e c0e HW5
          refine (PutOwn_any p s.on b g n W5 HAT.out.1 HAT.out.2.on HPUT.out).mono ?_
          rintro e w6 ⟨r, rfl, hR, hrn, hrz, hB6⟩
          obtain ⟨hO5, K5, hsame⟩ := HOW.out
          have q5 := hWB5.size
          have q6 := hB6.size
          have hB6' := hB5.trans (hB6.mono hB5.size)
          have hOa := OwnS.swap hO5 hB6 hR (Nat.le_refl _) (by omega)
          have K6 := K5.below hB6
          obtain ⟨Gi, hia, iA, i1, i2, ik⟩ := hOa.si
          have hOb := hOa.box K6 0 (.slice r.a r.n r.c)
          have K7 := K6.set 0 (.slice r.a r.n r.c)
          have hB7 := hB6'.setCell (p := ⟨w4.heap.size, 0, none⟩) (by show W0.heap.size ≤ w4.heap.size; omega) (.slice r.a r.n r.c)
          obtain ⟨Gi', hia', -, -, -, jk⟩ := hOb.si
          rw [show (⟨r, o.os, o.hs, o.ms, o.si, o.so, o.sf⟩ : St).si = o.si from rfl] at hia hia' jk i1 i2
          rw [hia] at hia'
          simp only [Option.some.injEq, Addr.mk.injEq, and_true] at hia'
          subst hia'
          have hOc := hOb.setIn (show (⟨r, o.os, o.hs, o.ms, o.si, o.so, o.sf⟩ : St).si.a = some ⟨Gi, 0, none⟩ from hia) g (SI + n)
          have K8 := K7.other (a := ⟨Gi, g, none⟩) (Blk.ne2 K7 jk (by decide)) (.int .i64 (SI + n))
          have hB8 := hB7.setCell (p := ⟨Gi, g, none⟩) (by show W0.heap.size ≤ Gi; omega) (.int .i64 (SI + n))
          have HEND : Hid (Below W0.heap.size W0 ((w6.setCell ⟨w4.heap.size, 0, none⟩ (.slice r.a r.n r.c)).setCell ⟨Gi, g, none⟩ (.int .i64 (SI + n))) ∧ OwnS w3.heap.size ((w6.setCell ⟨w4.heap.size, 0, none⟩ (.slice r.a r.n r.c)).setCell ⟨Gi, g, none⟩ (.int .i64 (SI + n))) (setIn ⟨r, o.os, o.hs, o.ms, o.si, o.so, o.sf⟩ g (SI + n)) ∧ Blk ((w6.setCell ⟨w4.heap.size, 0, none⟩ (.slice r.a r.n r.c)).setCell ⟨Gi, g, none⟩ (.int .i64 (SI + n))) w4.heap.size 31 7 (fun i => if i = 0 then .slice r.a r.n r.c else o.cells.getD i default)) := ⟨hB8, hOc, K8⟩
          have HSM : Hid (SameT (setIn ⟨r, o.os, o.hs, o.ms, o.si, o.so, o.sf⟩ g (SI + n)) (recvT s b g n)) := by
            show SameT _ (recvT s b g n)
            rw [HRE.out]
            refine setIn_same (s := ⟨r, o.os, o.hs, o.ms, o.si, o.so, o.sf⟩) (t := setOn s b g ((s.on.r b).z g + n)) ⟨⟨hrn, fun i hi => ?_⟩, hsame.os, hsame.hs, hsame.ms, hsame.si, hsame.so, hsame.sf⟩ _ _
            have hi' : i < s.on.n := by rw [← hrn]; exact hi
            have y := hrz i hi'
            show (r.r i).n = (if i = b then setRw (s.on.r i) g ((s.on.r b).z g + n) else s.on.r i).n ∧ ∀ j, j < (r.r i).n → (r.r i).z j = (if i = b then setRw (s.on.r i) g ((s.on.r b).z g + n) else s.on.r i).z j
            by_cases hib : i = b
            · subst hib
              rw [if_pos rfl]
              refine ⟨y.1, fun j hj => ?_⟩
              rw [y.2 j (by rw [← y.1]; exact hj)]
              show putZ s.on i g n i j = if j = g then (s.on.r i).z g + n else (s.on.r i).z j
              unfold putZ
              by_cases hjg : j = g
              · subst hjg; simp
              · simp [hjg]
            · rw [if_neg hib]
              refine ⟨y.1, fun j hj => ?_⟩
              rw [y.2 j (by rw [← y.1]; exact hj)]
              unfold putZ
              simp [hib]
          have z1 := K6.lt
          have z2 := K6.frozen 0
          have z3 := K6.cell (j := 0) (by decide)
          have y4 : (w6.setCell ⟨w4.heap.size, 0, none⟩ (.slice r.a r.n r.c)).cell? ⟨w4.heap.size, 4, none⟩ = some (.slice o.si.a o.si.n o.si.c) := K7.cell (j := 4) (by decide)
          rw [hia, HIN.out] at y4
          have y5 : (w6.setCell ⟨w4.heap.size, 0, none⟩ (.slice r.a r.n r.c)).cell? ⟨Gi, g, none⟩ = some (.int .i64 (o.si.z g)) := jk.cell (j := g) (by rw [HIN.out]; exact hg)
          rw [HSQ.out] at y5
          have y6 := jk.lt
          have y7 := jk.frozen g
          have y8 := K7.lt
          have HIA : Hid (o.si.a = some ⟨Gi, 0, none⟩) := hia
          rw [HIN.out] at i1
          unfold maxLen at i2
          obtain ⟨-, -, -, hBw8, hz8⟩ := HC.out _ hB8
          have m8 := K8.lt
          have e0 : ((w6.setCell ⟨w4.heap.size, 0, none⟩ (.slice r.a r.n r.c)).setCell ⟨Gi, g, none⟩ (.int .i64 (SI + n))).cell? ⟨w4.heap.size, 0, none⟩ = some (.slice r.a r.n r.c) := K8.cell (j := 0) (by decide)
          have e1 : ((w6.setCell ⟨w4.heap.size, 0, none⟩ (.slice r.a r.n r.c)).setCell ⟨Gi, g, none⟩ (.int .i64 (SI + n))).cell? ⟨w4.heap.size, 1, none⟩ = some (.slice o.os.a o.os.n o.os.c) := K8.cell (j := 1) (by decide)
          have e2 : ((w6.setCell ⟨w4.heap.size, 0, none⟩ (.slice r.a r.n r.c)).setCell ⟨Gi, g, none⟩ (.int .i64 (SI + n))).cell? ⟨w4.heap.size, 2, none⟩ = some (.slice o.hs.a o.hs.n o.hs.c) := K8.cell (j := 2) (by decide)
          have e3 : ((w6.setCell ⟨w4.heap.size, 0, none⟩ (.slice r.a r.n r.c)).setCell ⟨Gi, g, none⟩ (.int .i64 (SI + n))).cell? ⟨w4.heap.size, 3, none⟩ = some (.slice o.ms.a o.ms.n o.ms.c) := K8.cell (j := 3) (by decide)
          have e4 : ((w6.setCell ⟨w4.heap.size, 0, none⟩ (.slice r.a r.n r.c)).setCell ⟨Gi, g, none⟩ (.int .i64 (SI + n))).cell? ⟨w4.heap.size, 4, none⟩ = some (.slice o.si.a o.si.n o.si.c) := K8.cell (j := 4) (by decide)
          have e5 : ((w6.setCell ⟨w4.heap.size, 0, none⟩ (.slice r.a r.n r.c)).setCell ⟨Gi, g, none⟩ (.int .i64 (SI + n))).cell? ⟨w4.heap.size, 5, none⟩ = some (.slice o.so.a o.so.n o.so.c) := K8.cell (j := 5) (by decide)
          have e6 : ((w6.setCell ⟨w4.heap.size, 0, none⟩ (.slice r.a r.n r.c)).setCell ⟨Gi, g, none⟩ (.int .i64 (SI + n))).cell? ⟨w4.heap.size, 6, none⟩ = some (.slice o.sf.a o.sf.n o.sf.c) := K8.cell (j := 6) (by decide)
          have zl := hz8.lt
          have zf0 := hz8.frozen 0
          have zc0 := hz8.cell (j := 0) (by decide)
          have zf1 := hz8.frozen 1
          have zc1 := hz8.cell (j := 1) (by decide)
          have zf2 := hz8.frozen 2
          have zc2 := hz8.cell (j := 2) (by decide)
          have zf3 := hz8.frozen 3
          have zc3 := hz8.cell (j := 3) (by decide)
          have zf4 := hz8.frozen 4
          have zc4 := hz8.cell (j := 4) (by decide)
          have zf5 := hz8.frozen 5
          have zc5 := hz8.cell (j := 5) (by decide)
          have zf6 := hz8.frozen 6
          have zc6 := hz8.cell (j := 6) (by decide)
          clear hR hrn hrz hO5 K5 K6 K7 K8 hOa hOb hOc hB7 hB8 hB6 hB6' ik jk hsame hia hB5 hWB5 hBw8 hz8
          simp only [Sh.val]
          go_wp2_with fail
          obtain ⟨hBt, hOt, hKt⟩ := HEND.out
          obtain ⟨_, _, _, hBw, hz⟩ := HC.out _ hBt
          have KZ := set7_blk hz (.slice r.a r.n r.c) (.slice o.os.a o.os.n o.os.c) (.slice o.hs.a o.hs.n o.hs.c) (.slice o.ms.a o.ms.n o.ms.c) (.slice o.si.a o.si.n o.si.c) (.slice o.so.a o.so.n o.so.c) (.slice o.sf.a o.sf.n o.sf.c)
          have hbz := set7_below (b := w.heap.size + 2) hBw (by omega) (.slice r.a r.n r.c) (.slice o.os.a o.os.n o.os.c) (.slice o.hs.a o.hs.n o.hs.c) (.slice o.ms.a o.ms.n o.ms.c) (.slice o.si.a o.si.n o.si.c) (.slice o.so.a o.so.n o.so.c) (.slice o.sf.a o.sf.n o.sf.c)
          have hOz := OwnS.set7 hOt hz (.slice r.a r.n r.c) (.slice o.os.a o.os.n o.os.c) (.slice o.hs.a o.hs.n o.hs.c) (.slice o.ms.a o.ms.n o.ms.c) (.slice o.si.a o.si.n o.si.c) (.slice o.so.a o.so.n o.so.c) (.slice o.sf.a o.sf.n o.sf.c)
          unfold set7 at KZ hbz hOz
          obtain ⟨c0', c1', c2', c3', c4', c5', c6'⟩ := box_cells KZ
          refine bodyPost_ret (v := .tuple #[(setIn ⟨r, o.os, o.hs, o.ms, o.si, o.so, o.sf⟩ g (SI + n)).val, .int .i64 0]) (by simp [results, Try.results21, go_sem, setIn, setRw, St.val, c0', c1', c2', c3', c4', c5', c6']) rfl ?_
          exact ⟨setIn ⟨r, o.os, o.hs, o.ms, o.si, o.so, o.sf⟩ g (SI + n), by rw [HX.out]; rfl, hOz.at, ⟨fun _ => HSM.out, fun h => absurd HX.out h⟩, hbz⟩
        · have HX : Hid (recvE p s b g n = 2) := HT2' (Or.inr (by simp at d7; omega))
          clear HT2' HT0'
          have zl := hz.lt
          have zf0 := hz.frozen 0
          have zc0 := hz.cell (j := 0) (by decide)
          have zf1 := hz.frozen 1
          have zc1 := hz.cell (j := 1) (by decide)
          have zf2 := hz.frozen 2
          have zc2 := hz.cell (j := 2) (by decide)
          have zf3 := hz.frozen 3
          have zc3 := hz.cell (j := 3) (by decide)
          have zf4 := hz.frozen 4
          have zc4 := hz.cell (j := 4) (by decide)
          have zf5 := hz.frozen 5
          have zc5 := hz.cell (j := 5) (by decide)
          have zf6 := hz.frozen 6
          have zc6 := hz.cell (j := 6) (by decide)
          go_wp2_with fail
          have KZ := set7_blk hz (.slice .none 0 0) (.slice .none 0 0) (.slice .none 0 0) (.slice .none 0 0) (.slice .none 0 0) (.slice .none 0 0) (.slice .none 0 0)
          have hbz := set7_below (b := w.heap.size + 2) hBw (by omega) (.slice .none 0 0) (.slice .none 0 0) (.slice .none 0 0) (.slice .none 0 0) (.slice .none 0 0) (.slice .none 0 0) (.slice .none 0 0)
          unfold set7 at KZ hbz
          obtain ⟨c0', c1', c2', c3', c4', c5', c6'⟩ := box_cells KZ
          refine bodyPost_ret (v := .tuple #[noneS.val, .int .i64 2]) (by simp [results, Try.results21, go_sem, noneS, St.val, c0', c1', c2', c3', c4', c5', c6']) rfl ?_
          exact ⟨noneS, by rw [HX.out]; rfl, noneS_at _, ⟨fun h => absurd h (by rw [HX.out]; decide), fun _ => ⟨rfl, rfl, rfl, rfl, rfl, rfl, rfl⟩⟩, hbz⟩
      · have HX : Hid (recvE p s b g n = 2) := HT2' (Or.inl (by simp at d6; omega))
        clear HT2' HT0'
        have zl := hz.lt
        have zf0 := hz.frozen 0
        have zc0 := hz.cell (j := 0) (by decide)
        have zf1 := hz.frozen 1
        have zc1 := hz.cell (j := 1) (by decide)
        have zf2 := hz.frozen 2
        have zc2 := hz.cell (j := 2) (by decide)
        have zf3 := hz.frozen 3
        have zc3 := hz.cell (j := 3) (by decide)
        have zf4 := hz.frozen 4
        have zc4 := hz.cell (j := 4) (by decide)
        have zf5 := hz.frozen 5
        have zc5 := hz.cell (j := 5) (by decide)
        have zf6 := hz.frozen 6
        have zc6 := hz.cell (j := 6) (by decide)
        go_wp2_with fail
        have KZ := set7_blk hz (.slice .none 0 0) (.slice .none 0 0) (.slice .none 0 0) (.slice .none 0 0) (.slice .none 0 0) (.slice .none 0 0) (.slice .none 0 0)
        have hbz := set7_below (b := w.heap.size + 2) hBw (by omega) (.slice .none 0 0) (.slice .none 0 0) (.slice .none 0 0) (.slice .none 0 0) (.slice .none 0 0) (.slice .none 0 0) (.slice .none 0 0)
        unfold set7 at KZ hbz
        obtain ⟨c0', c1', c2', c3', c4', c5', c6'⟩ := box_cells KZ
        refine bodyPost_ret (v := .tuple #[noneS.val, .int .i64 2]) (by simp [results, Try.results21, go_sem, noneS, St.val, c0', c1', c2', c3', c4', c5', c6']) rfl ?_
        exact ⟨noneS, by rw [HX.out]; rfl, noneS_at _, ⟨fun h => absurd h (by rw [HX.out]; decide), fun _ => ⟨rfl, rfl, rfl, rfl, rfl, rfl, rfl⟩⟩, hbz⟩
  · have HX : Hid (recvE p s bin good n = stateE p s) := recvE_state h0
    clear hpk hsk c0 c1 c2 c3 c4 c5 c6
    have zl := hz.lt
    have zf0 := hz.frozen 0
    have zc0 := hz.cell (j := 0) (by decide)
    have zf1 := hz.frozen 1
    have zc1 := hz.cell (j := 1) (by decide)
    have zf2 := hz.frozen 2
    have zc2 := hz.cell (j := 2) (by decide)
    have zf3 := hz.frozen 3
    have zc3 := hz.cell (j := 3) (by decide)
    have zf4 := hz.frozen 4
    have zc4 := hz.cell (j := 4) (by decide)
    have zf5 := hz.frozen 5
    have zc5 := hz.cell (j := 5) (by decide)
    have zf6 := hz.frozen 6
    have zc6 := hz.cell (j := 6) (by decide)
    go_wp2_with fail
    have KZ := set7_blk hz (.slice .none 0 0) (.slice .none 0 0) (.slice .none 0 0) (.slice .none 0 0) (.slice .none 0 0) (.slice .none 0 0) (.slice .none 0 0)
    have hbz := set7_below (b := w.heap.size + 2) hBw (by omega) (.slice .none 0 0) (.slice .none 0 0) (.slice .none 0 0) (.slice .none 0 0) (.slice .none 0 0) (.slice .none 0 0) (.slice .none 0 0)
    unfold set7 at KZ hbz
    obtain ⟨c0', c1', c2', c3', c4', c5', c6'⟩ := box_cells KZ
    refine bodyPost_ret (v := .tuple #[noneS.val, .int .i64 (stateE p s)]) (by simp [results, Try.results21, go_sem, noneS, St.val, c0', c1', c2', c3', c4', c5', c6']) rfl ?_
    exact ⟨noneS, by rw [HX.out]; rfl, noneS_at _, ⟨fun h => absurd h (by rw [HX.out]; exact h0), fun _ => ⟨rfl, rfl, rfl, rfl, rfl, rfl, rfl⟩⟩, hbz⟩

end Go.Proofs.Ytjiodlbblmbibac
/- What is entered, in plain words; the two questions that recv.Enter asks of each line. -/
namespace Go.Proofs.Ytjiodlbblmbibac
open Go.RowKit Go.Shelf Go.Sort
set_option linter.unusedVariables false

def outL (p : Pl) (x : Hd) : Bool := !(inB x.o 0 ((p.ns : Int) - 1)) || !(inB x.l 1 200)
def begunL (x : Hd) : Bool := x.b != 0 || x.n != 0
/-- What Enter answers for an error: of a state and of lines. -/
def enterE (p : Pl) (s : St) (l : Hs) : Int :=
  if stateE p s = 0 then (if s.os.n = 4 ∨ ¬ (1 ≤ l.n ∧ l.n ≤ 3) then 2 else if anyB l.n (fun j => outL p (l.z j)) then 3 else if anyB l.n (fun j => begunL (l.z j)) then 1 else 0) else stateE p s
/-- And what comes, but for where it lies. -/
def enterT (s : St) (l : Hs) : St := ⟨s.on, ⟨s.os.a, s.os.n + 1, s.os.c, fun i => if i = s.os.n then ⟨0, l⟩ else s.os.z i⟩, s.hs, s.ms, s.si, s.so, s.sf⟩

theorem enterE_state {p : Pl} {s : St} {l : Hs} (h : ¬ stateE p s = 0) : enterE p s l = stateE p s := by unfold enterE; rw [if_neg h]
theorem enterE_many {p : Pl} {s : St} {l : Hs} (h : stateE p s = 0) (h1 : s.os.n = 4 ∨ ¬ (1 ≤ l.n ∧ l.n ≤ 3)) : enterE p s l = 2 := by unfold enterE; rw [if_pos h, if_pos h1]
theorem enterE_range {p : Pl} {s : St} {l : Hs} (h : stateE p s = 0) (h1 : ¬ (s.os.n = 4 ∨ ¬ (1 ≤ l.n ∧ l.n ≤ 3))) (h2 : anyB l.n (fun j => outL p (l.z j)) = true) : enterE p s l = 3 := by unfold enterE; rw [if_pos h, if_neg h1, if_pos h2]
theorem enterE_form {p : Pl} {s : St} {l : Hs} (h : stateE p s = 0) (h1 : ¬ (s.os.n = 4 ∨ ¬ (1 ≤ l.n ∧ l.n ≤ 3))) (h2 : ¬ anyB l.n (fun j => outL p (l.z j)) = true) (h3 : anyB l.n (fun j => begunL (l.z j)) = true) : enterE p s l = 1 := by unfold enterE; rw [if_pos h, if_neg h1, if_neg h2, if_pos h3]
theorem enterE_ok {p : Pl} {s : St} {l : Hs} (h : stateE p s = 0) (h1 : ¬ (s.os.n = 4 ∨ ¬ (1 ≤ l.n ∧ l.n ≤ 3))) (h2 : ¬ anyB l.n (fun j => outL p (l.z j)) = true) (h3 : ¬ anyB l.n (fun j => begunL (l.z j)) = true) : enterE p s l = 0 := by unfold enterE; rw [if_pos h, if_neg h1, if_neg h2, if_neg h3]

set_option maxHeartbeats 1000000 in
theorem Enter1_any (B : Nat) (p : Pl) (x : Hd) (w : World) (les : p.ns ≤ p.cs) (caps : p.cs ≤ maxLen) (hB : B < w.heap.size) (c1 : w.cell? ⟨B, 1, none⟩ = some (.slice p.sa p.ns p.cs)) :
    Calls Try.prog 61 #[x.val, .pointer (some ⟨B, 0, none⟩)] w fun e w' => e = .returned (.bool (outL p x)) ∧ Below w.heap.size w w' := by
  have hns : p.ns ≤ maxLen := Nat.le_trans les caps
  have hB0 : Below w.heap.size w (w.alloc (.cells #[.int .i64 x.o, .int .i64 x.l, .int .i64 x.b, .int .i64 x.n] 53)) := (Below.refl w.heap.size w).alloc (Nat.le_refl _) _
  have c1e := (hB0.cell (p := ⟨B, 1, none⟩) hB).trans c1
  have hBe : B < (w.alloc (.cells #[.int .i64 x.o, .int .i64 x.l, .int .i64 x.b, .int .i64 x.n] 53)).heap.size := by have := hB0.size; omega
  unfold outL Hd.val
  clear c1
  unfold maxLen at caps
  cases h1 : inB x.o 0 ((p.ns : Int) - 1)
  all_goals
    go_enter Try.func61, Try.ntmps61
    go_wp2_with (first | (go_at_call 30; refine calls_to (Has_any _ _ _ hns) ?_) | (go_at_call 55; refine calls_to (Within_any _ _ _ _) ?_))
    go_ret
    exact ⟨by simp, hB0⟩

set_option maxHeartbeats 1000000 in
theorem Enter2_any (x : Hd) (w : World) :
    Calls Try.prog 62 #[x.val] w fun e w' => e = .returned (.bool (begunL x)) ∧ Below w.heap.size w w' := by
  have hB0 : Below w.heap.size w (w.alloc (.cells #[.int .i64 x.o, .int .i64 x.l, .int .i64 x.b, .int .i64 x.n] 53)) := (Below.refl w.heap.size w).alloc (Nat.le_refl _) _
  unfold begunL Hd.val
  cases h1 : (x.b != 0)
  all_goals
    go_enter Try.func62, Try.ntmps62
    go_wp2_with fail
    go_ret
    exact ⟨by simp, hB0⟩

end Go.Proofs.Ytjiodlbblmbibac
/- Appending to a list of the call's own, whether it has room or none. -/
namespace Go.Proofs.Ytjiodlbblmbibac
open Go.RowKit Go.Shelf
set_option linter.unusedVariables false

/-- The world grew, and of what was there at most one block of the type e changed, new since A. -/
def Grew (A : Nat) (e : TypeId) (w w' : World) : Prop := ∃ row, w.grownBy w' row ∧ ∀ k, row = some k → A ≤ k ∧ ∃ cur, w.heap[k]? = some (.cells cur e (0, 0))
theorem Grew.blk {A : Nat} {e : TypeId} {w w' : World} (h : Grew A e w w') {q : Nat} {t : TypeId} {m : Nat} {f : Nat → Value} (hb : Blk w q t m f) (hne : t ≠ e) : Blk w' q t m f := by
  obtain ⟨row, hg, hr⟩ := h
  refine hb.grown hg fun hq => ?_
  obtain ⟨_, c2, hc2⟩ := hr q hq.symm
  obtain ⟨c3, hc3, _⟩ := hb
  rw [hc3] at hc2
  cases hc2
  exact hne rfl
theorem Grew.low {A : Nat} {e : TypeId} {w w' : World} (h : Grew A e w w') {q : Nat} {t : TypeId} {m : Nat} {f : Nat → Value} (hb : Blk w q t m f) (hq : q < A) : Blk w' q t m f := by
  obtain ⟨row, hg, hr⟩ := h
  exact hb.grown hg fun hq' => by have := (hr q hq'.symm).1; omega
theorem Grew.below {A A' : Nat} {e : TypeId} {w0 w w' : World} (h : Grew A e w w') (hB : Below A' w0 w) (hA : A' ≤ A) (hs : A' ≤ w.heap.size) : Below A' w0 w' := by
  obtain ⟨row, hg, hr⟩ := h
  exact hB.grown hg hs fun k hk => by have := (hr k hk).1; omega
theorem Room.grew {A B : Nat} {t : TypeId} {w w2 : World} {sz c : Nat} {a : Option Addr} {e : TypeId} (h : Room A w t sz a c) (hg : Grew B e w w2) (hne : t ≠ e) : Room A w2 t sz a c := by
  obtain ⟨row, hg, hr⟩ := hg
  refine h.same fun g cur hgc => hg.block g (Array.getElem?_eq_some_iff.1 hgc).1 fun hq => ?_
  obtain ⟨_, c2, hc2⟩ := hr g hq.symm
  rw [hgc] at hc2
  cases hc2
  exact hne rfl
theorem OwnI.grew {A B : Nat} {w w2 : World} {r : Rw} {e : TypeId} (h : OwnI A w r) (hg : Grew B e w w2) (hne : 3 ≠ e) : OwnI A w2 r := by
  obtain ⟨g, ha, h0, h1, h2, hb⟩ := h
  exact ⟨g, ha, h0, h1, h2, hg.blk hb hne⟩
theorem OwnH.grew {A B : Nat} {t : TypeId} {w w2 : World} {s : Hs} {e : TypeId} (h : OwnH A t w s) (hg : Grew B e w w2) (hne : t ≠ e) : OwnH A t w2 s := by
  obtain ⟨h1, h2, h3, h4⟩ := h
  refine ⟨h1, h2, h3, fun hn => ?_⟩
  obtain ⟨g, ha, hA, hb⟩ := h4 hn
  exact ⟨g, ha, hA, hg.blk hb hne⟩
theorem owns_mono {A A' : Nat} {w : World} {e : TypeId} {size : Nat} {v : Value} {n : Nat} {xs : List Value} (h : w.ownsRow A e size v n xs) (hA : A' ≤ A) : w.ownsRow A' e size v n xs :=
  ⟨h.1, h.2.imp_right fun ⟨g, cap, cur, h1, h2, h3⟩ => ⟨g, cap, cur, h1, Nat.le_trans hA h2, h3⟩⟩

/-- A list of the call's own, its room too, is owned as the library says it. -/
theorem owns_of {A : Nat} {w : World} {e : TypeId} {size g c n : Nat} {cur : Array Value} {xs : List Value} (hA : A ≤ g) (hg : w.heap[g]? = some (.cells cur e (0, 0))) (hsz : cur.size = c * size) (hle : n ≤ c) (hcap : c ≤ maxLen) (hl : xs.length = n * size)
    (hb : 0 < n → Blk w g e (n * size) (fun j => xs.getD j default)) : w.ownsRow A e size (.slice (some ⟨g, 0, none⟩) n c) n xs := by
  refine ⟨hl, Or.inr ⟨g, c, cur, rfl, hA, hg, hle, hcap, hsz, ?_⟩⟩
  apply List.ext_getElem?
  intro j
  rw [List.getElem?_take]
  by_cases hj : j < n * size
  · rw [if_pos hj]
    have hn : 0 < n := by
      rcases Nat.eq_zero_or_pos n with h | h
      · subst h; simp at hj
      · exact h
    obtain ⟨cur', hc, _, hf⟩ := hb hn
    rw [hg] at hc
    cases hc
    have h1 := hf j hj
    have h2 : j < xs.length := by omega
    rw [List.getElem?_eq_getElem h2]
    simp only [List.getD, List.getElem?_eq_getElem h2, Option.getD_some] at h1
    simpa using h1
  · rw [if_neg hj, List.getElem?_eq_none (by omega)]

theorem wpList_append_room {P : Program} (w : World) {ops : Array Oper} {rest : List Oper} {o : Oper} {a : Act} {Q : Exit → Act → World → Prop}
    (hg : o.guard = none) (s x : Operand) (t : TypeId) (hop : o.op = Op.call { callee := Callee.builtin Builtin.append, args := #[s, x], argTypes := #[t, t] })
    (A : Nat) (e : TypeId) (i : TypeInfo) (z : Value) (size bytes : Nat) (h1 : P.underlying t = some (.slice e)) (h2 : P.info? e = some i) (h3 : i.zero = some z) (h4 : i.size = size) (h5 : i.bytes = bytes) (h6 : z.cells.size = size) (h7 : 0 < size)
    (ao : Option Addr) (n c : Nat) (xs : List Value) (hs : a.eval s = .slice ao n c) (hroom : Room A w e size ao c) (hle : n ≤ c) (hcap : c ≤ maxLen) (hlo : xs.length = n * size) (hblk : 0 < n → ∃ g, ao = some ⟨g, 0, none⟩ ∧ A ≤ g ∧ Blk w g e (n * size) (fun j => xs.getD j default))
    (ad : Addr) (m c' : Nat) (news : List Value) (hx : a.eval x = .slice (some ad) m c') (hn : news.length = m * size) (hc : ∀ j u, news[j]? = some u → w.cell? (ad.add j) = some u) (h1c : ∀ u ∈ news, u.oneCell' = true)
    (hm : 0 < m) (b1 : n + m ≤ maxLen) (b2 : (n + m) * bytes ≤ 140737488355328) (hA : A ≤ w.heap.size)
    (hK : ∀ v' w', w'.ownsRow A e size v' (n + m) (xs ++ news) → Grew A e w w' → wpList P ops Q rest (a.put o.dst v') w') :
    wpList P ops Q (o :: rest) a w := by
  rcases hroom with h0 | ⟨g, cur, ha, hA', hgc, hsz⟩
  · subst h0
    have hn0 : n = 0 := by omega
    subst hn0
    obtain rfl : xs = [] := List.eq_nil_of_length_eq_zero (by simpa using hlo)
    refine wpList_append_grows w hg s x t hop e i z size bytes h1 h2 h3 h4 h5 h6 h7 ao 0 0 [] hs (fun _ => ⟨rfl, rfl⟩) (by simp) (fun b _ j u hj => by simp at hj) ad m c' news hx hn hc h1c (by omega) b1 b2 fun v' w' r1 r2 => ?_
    exact hK v' w' (owns_mono r1 hA) ⟨none, r2, fun k hk => by cases hk⟩
  · subst ha
    have hown := owns_of (w := w) (e := e) hA' hgc hsz hle hcap hlo (fun h => by
      obtain ⟨g', e1, _, hb⟩ := hblk h
      simp only [Option.some.injEq, Addr.mk.injEq, and_true] at e1
      subst e1
      exact hb)
    refine wpList_append_own w hg s x t hop A e i z size bytes h1 h2 h3 h4 h5 h6 h7 _ n xs hs hown ad m c' news hx hn hc h1c b1 b2 hA fun v' w' r1 r2 _ => ?_
    refine hK v' w' r1 ⟨_, r2, fun k hk => ?_⟩
    simp only [Value.ownBlock, Option.some.injEq] at hk
    subst hk
    exact ⟨hA', cur, hgc⟩

/-- One more order. -/
def moreO (s : Os) (x : Od) (i : Nat) : Od := if i = s.n then x else s.z i
theorem flatO_more (s : Os) (x : Od) : flatO s.n s.z ++ odCells x = flatO (s.n + 1) (moreO s x) := by
  rw [flatO, flatO_congr (z' := moreO s x) fun i hi => by unfold moreO; rw [if_neg (by omega)]]
  congr 1
  unfold moreO
  rw [if_pos rfl]
theorem OwnO.more {A : Nat} {w w' : World} {s : Os} {x : Od} {v : Value} (h : OwnO A w s) (ho : w'.ownsRow A 51 2 v (s.n + 1) (flatO s.n s.z ++ odCells x)) (hg : Grew A 51 w w')
    {B : Nat} (ha : x.ls.a = some ⟨B, 0, none⟩) (hB : A ≤ B) (hl : x.ls.n ≤ x.ls.c) (hc : x.ls.c ≤ maxLen) (hk : Blk w B 53 (x.ls.n * 4) (fun j => (flatH x.ls.n x.ls.z).getD j default)) (hap : ∀ i, i < s.n → (s.z i).ls.a ≠ x.ls.a) :
    ∃ va vc, v = .slice va (s.n + 1) vc ∧ OwnO A w' ⟨va, s.n + 1, vc, moreO s x⟩ := by
  have hv : v ≠ .slice none 0 0 := by
    rintro rfl
    rcases ho.2 with ⟨_, h0⟩ | ⟨g2, cap2, cur2, h, _⟩
    · omega
    · cases h
  have ho' := ho
  rw [flatO_more] at ho'
  obtain ⟨g, c, rfl, h1, h2, h3, h4⟩ := Blk.ofOwns ho' hv
  refine ⟨some ⟨g, 0, none⟩, c, rfl, h1, h2, fun _ => ⟨g, rfl, h3, h4⟩, fun i hi => ?_, fun i j hij hj => ?_, Room.ofOwns ho (Nat.le_refl _)⟩
  · show ∃ B, (moreO s x i).ls.a = _ ∧ A ≤ B ∧ (moreO s x i).ls.n ≤ (moreO s x i).ls.c ∧ (moreO s x i).ls.c ≤ maxLen ∧ Blk w' B 53 ((moreO s x i).ls.n * 4) (fun j => (flatH (moreO s x i).ls.n (moreO s x i).ls.z).getD j default)
    have hi' : i < s.n + 1 := hi
    unfold moreO
    by_cases hin : i = s.n
    · rw [if_pos hin]
      exact ⟨B, ha, hB, hl, hc, hg.blk hk (by decide)⟩
    · rw [if_neg hin]
      obtain ⟨B', a1, a2, a3, a4, a5⟩ := h.lines i (by omega)
      exact ⟨B', a1, a2, a3, a4, hg.blk a5 (by decide)⟩
  · have hj' : j < s.n + 1 := hj
    show (moreO s x i).ls.a ≠ (moreO s x j).ls.a
    unfold moreO
    rw [if_neg (by omega)]
    by_cases hjn : j = s.n
    · rw [if_pos hjn]
      exact hap i (by omega)
    · rw [if_neg hjn]
      exact h.apart i j hij (by omega)

end Go.Proofs.Ytjiodlbblmbibac
/- What the code enters: recv.Enter. -/
namespace Go.Proofs.Ytjiodlbblmbibac
open Go.RowKit Go.Shelf Go.Sort
set_option linter.unusedVariables false

theorem OwnS.mono {A A' : Nat} {w : World} {s : St} (h : OwnS A w s) (hA : A' ≤ A) : OwnS A' w s := by
  have i : ∀ {r : Rw}, OwnI A w r → OwnI A' w r := fun ⟨g, a, b, c⟩ => ⟨g, a, Nat.le_trans hA b, c⟩
  refine ⟨?_, fun j hj => i (h.rows j hj), h.rapart, h.os.mono hA, h.hs.mono hA, h.ms.mono hA, h.msr.mono hA, i h.si, i h.so, i h.sf, h.aio, h.aif, h.aof, h.ari⟩
  obtain ⟨g, a, b, c⟩ := h.on
  exact ⟨g, a, Nat.le_trans hA b, c⟩
/-- A state whose orders are others now. -/
theorem OwnS.orders {A B : Nat} {w w' : World} {s : St} {os : Os} (h : OwnS A w s) (hg : Grew B 51 w w') (ho : OwnO A w' os) : OwnS A w' ⟨s.on, os, s.hs, s.ms, s.si, s.so, s.sf⟩ := by
  refine ⟨?_, fun i hi => (h.rows i hi).grew hg (by decide), h.rapart, ho, h.hs.grew hg (by decide), h.ms.grew hg (by decide), h.msr.grew hg (by decide), h.si.grew hg (by decide), h.so.grew hg (by decide), h.sf.grew hg (by decide), h.aio, h.aif, h.aof, h.ari⟩
  obtain ⟨g, a, b, c, d, e⟩ := h.on
  exact ⟨g, a, b, c, d, hg.blk e (by decide)⟩
theorem enter_same {o s : St} {l l' : Hs} {a : Option Addr} {c : Nat} (h : SameT o s) (hn : l'.n = l.n) (hz : ∀ j, j < l.n → l'.z j = l.z j) : SameT ⟨o.on, ⟨a, o.os.n + 1, c, moreO o.os ⟨0, l'⟩⟩, o.hs, o.ms, o.si, o.so, o.sf⟩ (enterT s l) := by
  have hon : o.os.n = s.os.n := h.os.1
  refine ⟨h.on, ⟨by show o.os.n + 1 = s.os.n + 1; omega, fun i hi => ?_⟩, h.hs, h.ms, h.si, h.so, h.sf⟩
  have hi' : i < o.os.n + 1 := hi
  show (moreO o.os ⟨0, l'⟩ i).k = (if i = s.os.n then (⟨0, l⟩ : Od) else s.os.z i).k ∧ (moreO o.os ⟨0, l'⟩ i).ls.n = (if i = s.os.n then (⟨0, l⟩ : Od) else s.os.z i).ls.n ∧ ∀ j, j < (moreO o.os ⟨0, l'⟩ i).ls.n → (moreO o.os ⟨0, l'⟩ i).ls.z j = (if i = s.os.n then (⟨0, l⟩ : Od) else s.os.z i).ls.z j
  unfold moreO
  by_cases hin : i = s.os.n
  · rw [if_pos (by omega), if_pos hin]
    exact ⟨rfl, hn, fun j hj => hz j (by rw [← hn]; exact hj)⟩
  · rw [if_neg (by omega), if_neg hin]
    exact h.os.2 i (by omega)

set_option maxRecDepth 100000 in
set_option maxHeartbeats 8000000 in
theorem Enter_any (p : Pl) (s : St) (l : Hs) (w : World) (hp : p.At w) (hs : s.At w) (hl : l.At w) :
    Calls Try.prog 24 #[p.val, s.val, l.val] w fun e w' => ∃ s' : St, e = .returned (.tuple #[s'.val, .int .i64 (enterE p s l)]) ∧ s'.At w' ∧ ActOK (enterE p s l) (enterT s l) s' ∧ Below w.heap.size w w' := by
  obtain ⟨W0, hW, hWB, X0, Z0⟩ : ∃ W, (((w.alloc (.cells #[.slice p.ab p.nb p.cb, .slice p.sa p.ns p.cs] 25)).alloc (.cells s.cells 31)).alloc (.cells #[.slice .none 0 0, .slice .none 0 0, .slice .none 0 0, .slice .none 0 0, .slice .none 0 0, .slice .none 0 0, .slice .none 0 0] 31)) = W ∧ Below w.heap.size w W ∧ Boxes W w.heap.size (w.heap.size + 1) p s ∧ Blk W (w.heap.size + 2) 31 7 (fun _ => .slice .none 0 0) :=
    ⟨_, rfl, (two_below _ _ _).alloc (by simp; omega) _, (boxes_new w p s _ _).below ((Below.refl _ _).alloc (Nat.le_refl _) _), (Blk.mk' (cur := #[.slice .none 0 0, .slice .none 0 0, .slice .none 0 0, .slice .none 0 0, .slice .none 0 0, .slice .none 0 0, .slice .none 0 0]) (by simp) rfl).congr (fun j hj => by match j, hj with | 0, _ => rfl | 1, _ => rfl | 2, _ => rfl | 3, _ => rfl | 4, _ => rfl | 5, _ => rfl | 6, _ => rfl)⟩
  have HC : Hid (∀ wk, Below W0.heap.size W0 wk → Boxes wk w.heap.size (w.heap.size + 1) p s ∧ p.At wk ∧ s.At wk ∧ Below w.heap.size w wk ∧ Blk wk (w.heap.size + 2) 31 7 (fun _ => .slice .none 0 0) ∧ l.At wk) := fun wk h => ⟨X0.below h, (hp.below hWB).below h, (hs.below hWB).below h, hWB.trans (h.mono hWB.size), Z0.below h, (hl.below hWB).below h⟩
  have HW : Hid (((w.alloc (.cells #[.slice p.ab p.nb p.cb, .slice p.sa p.ns p.cs] 25)).alloc (.cells #[.slice s.on.a s.on.n s.on.c, .slice s.os.a s.os.n s.os.c, .slice s.hs.a s.hs.n s.hs.c, .slice s.ms.a s.ms.n s.ms.c, .slice s.si.a s.si.n s.si.c, .slice s.so.a s.so.n s.so.c, .slice s.sf.a s.sf.n s.sf.c] 31)).alloc (.cells #[.slice .none 0 0, .slice .none 0 0, .slice .none 0 0, .slice .none 0 0, .slice .none 0 0, .slice .none 0 0, .slice .none 0 0] 31) = W0) := hW
  have leb := hp.leb
  have capb0 := hp.capb
  have les := hp.les
  have caps0 := hp.caps
  have capb := capb0
  have caps := caps0
  have zlt0 := Z0.lt
  unfold maxLen at capb caps
  have lle := hl.le
  have lcap0 := hl.cap
  have lcap := lcap0
  unfold maxLen at lcap
  clear hW X0 Z0 hp hs hl
  unfold Pl.val St.val Hs.val
  go_enter Try.func24, Try.ntmps24
  go_wp2_with fail
  rw [HW.out]
  obtain ⟨X, hpk, hsk, hBw, hz, hlk⟩ := HC.out W0 (Below.refl _ _)
  refine (stateCheck_any p s W0 hpk hsk).mono ?_
  rintro e w1 ⟨rfl, hB⟩
  clear X hpk hsk hBw hz hlk HW
  obtain ⟨⟨⟨l1, d0, d1⟩, l2, c0, c1, c2, c3, c4, c5, c6⟩, hpk, hsk, hBw, hz, hlk⟩ := HC.out w1 hB
  by_cases h0 : stateE p s = 0
  · have H0 : Hid (stateE p s = 0) := h0
    have HF : Hid (Formed p s) := (rightT h0).fm
    rw [h0]
    clear h0
    by_cases k1 : s.os.n = 4
    · have HX : Hid (enterE p s l = 2) := enterE_many H0.out (Or.inl k1)
      have q1 : ((s.os.n : Int) == 4) = true := by rw [k1]; rfl
      clear k1
      clear hpk hsk hlk
      have zl := hz.lt
      have zf0 := hz.frozen 0
      have zc0 := hz.cell (j := 0) (by decide)
      have zf1 := hz.frozen 1
      have zc1 := hz.cell (j := 1) (by decide)
      have zf2 := hz.frozen 2
      have zc2 := hz.cell (j := 2) (by decide)
      have zf3 := hz.frozen 3
      have zc3 := hz.cell (j := 3) (by decide)
      have zf4 := hz.frozen 4
      have zc4 := hz.cell (j := 4) (by decide)
      have zf5 := hz.frozen 5
      have zc5 := hz.cell (j := 5) (by decide)
      have zf6 := hz.frozen 6
      have zc6 := hz.cell (j := 6) (by decide)
      go_wp2_with (go_at_call 55; refine calls_to (Within_any _ _ _ _) ?_)
      have KZ := set7_blk hz (.slice .none 0 0) (.slice .none 0 0) (.slice .none 0 0) (.slice .none 0 0) (.slice .none 0 0) (.slice .none 0 0) (.slice .none 0 0)
      have hbz := set7_below (b := w.heap.size + 2) hBw (by omega) (.slice .none 0 0) (.slice .none 0 0) (.slice .none 0 0) (.slice .none 0 0) (.slice .none 0 0) (.slice .none 0 0) (.slice .none 0 0)
      unfold set7 at KZ hbz
      obtain ⟨c0', c1', c2', c3', c4', c5', c6'⟩ := box_cells KZ
      refine bodyPost_ret (v := .tuple #[noneS.val, .int .i64 2]) (by simp [results, Try.results24, go_sem, noneS, St.val, c0', c1', c2', c3', c4', c5', c6']) rfl ?_
      exact ⟨noneS, by rw [HX.out]; rfl, noneS_at _, ⟨fun h => absurd h (by rw [HX.out]; decide), fun _ => ⟨rfl, rfl, rfl, rfl, rfl, rfl, rfl⟩⟩, hbz⟩
    have q1 : ((s.os.n : Int) == 4) = false := by simp; omega
    cases k2 : inB l.n 1 3
    · have HX : Hid (enterE p s l = 2) := enterE_many H0.out (Or.inr (by have := inB_false k2; omega))
      clear k1
      clear hpk hsk hlk
      have zl := hz.lt
      have zf0 := hz.frozen 0
      have zc0 := hz.cell (j := 0) (by decide)
      have zf1 := hz.frozen 1
      have zc1 := hz.cell (j := 1) (by decide)
      have zf2 := hz.frozen 2
      have zc2 := hz.cell (j := 2) (by decide)
      have zf3 := hz.frozen 3
      have zc3 := hz.cell (j := 3) (by decide)
      have zf4 := hz.frozen 4
      have zc4 := hz.cell (j := 4) (by decide)
      have zf5 := hz.frozen 5
      have zc5 := hz.cell (j := 5) (by decide)
      have zf6 := hz.frozen 6
      have zc6 := hz.cell (j := 6) (by decide)
      go_wp2_with (go_at_call 55; refine calls_to (Within_any _ _ _ _) ?_)
      have KZ := set7_blk hz (.slice .none 0 0) (.slice .none 0 0) (.slice .none 0 0) (.slice .none 0 0) (.slice .none 0 0) (.slice .none 0 0) (.slice .none 0 0)
      have hbz := set7_below (b := w.heap.size + 2) hBw (by omega) (.slice .none 0 0) (.slice .none 0 0) (.slice .none 0 0) (.slice .none 0 0) (.slice .none 0 0) (.slice .none 0 0) (.slice .none 0 0)
      unfold set7 at KZ hbz
      obtain ⟨c0', c1', c2', c3', c4', c5', c6'⟩ := box_cells KZ
      refine bodyPost_ret (v := .tuple #[noneS.val, .int .i64 2]) (by simp [results, Try.results24, go_sem, noneS, St.val, c0', c1', c2', c3', c4', c5', c6']) rfl ?_
      exact ⟨noneS, by rw [HX.out]; rfl, noneS_at _, ⟨fun h => absurd h (by rw [HX.out]; decide), fun _ => ⟨rfl, rfl, rfl, rfl, rfl, rfl, rfl⟩⟩, hbz⟩
    have hl3 := inB_true k2
    have HM : Hid (¬ (s.os.n = 4 ∨ ¬ (1 ≤ l.n ∧ l.n ≤ 3))) := by show ¬ _; omega
    clear k1
    have HLK : Hid (l.At w1) := hlk
    clear hz hpk hsk hlk
    go_wp2_with (go_at_call 55; refine calls_to (Within_any _ _ _ _) ?_)
    refine (anyL4 61 #[.pointer (some ⟨w.heap.size, 0, none⟩)] (fun j => outL p (l.z j)) _ _ _ _ lle lcap0 l.z HLK.out.hds (enters_of Try.func61 (by kernel_rfl) rfl) (fun i w2 _ h => Enter1_any w.heap.size p _ w2 les caps0 (Nat.lt_of_lt_of_le l1 h.size) ((h.cell (p := ⟨w.heap.size, 1, none⟩) l1).trans d1))).mono ?_
    rintro e w2 ⟨rfl, hB2⟩
    have hB := hB.trans (hB2.mono hB.size)
    clear l1 d0 d1 l2 c0 c1 c2 c3 c4 c5 c6 hBw hB2 HLK q1 k2
    obtain ⟨⟨⟨l1, d0, d1⟩, l2, c0, c1, c2, c3, c4, c5, c6⟩, hpk, hsk, hBw, hz, hlk⟩ := HC.out w2 hB
    cases k3 : anyB l.n (fun j => outL p (l.z j))
    rotate_left
    · have HX : Hid (enterE p s l = 3) := enterE_range H0.out HM.out k3
      clear k3
      clear hpk hsk hlk
      have zl := hz.lt
      have zf0 := hz.frozen 0
      have zc0 := hz.cell (j := 0) (by decide)
      have zf1 := hz.frozen 1
      have zc1 := hz.cell (j := 1) (by decide)
      have zf2 := hz.frozen 2
      have zc2 := hz.cell (j := 2) (by decide)
      have zf3 := hz.frozen 3
      have zc3 := hz.cell (j := 3) (by decide)
      have zf4 := hz.frozen 4
      have zc4 := hz.cell (j := 4) (by decide)
      have zf5 := hz.frozen 5
      have zc5 := hz.cell (j := 5) (by decide)
      have zf6 := hz.frozen 6
      have zc6 := hz.cell (j := 6) (by decide)
      go_wp2_with fail
      have KZ := set7_blk hz (.slice .none 0 0) (.slice .none 0 0) (.slice .none 0 0) (.slice .none 0 0) (.slice .none 0 0) (.slice .none 0 0) (.slice .none 0 0)
      have hbz := set7_below (b := w.heap.size + 2) hBw (by omega) (.slice .none 0 0) (.slice .none 0 0) (.slice .none 0 0) (.slice .none 0 0) (.slice .none 0 0) (.slice .none 0 0) (.slice .none 0 0)
      unfold set7 at KZ hbz
      obtain ⟨c0', c1', c2', c3', c4', c5', c6'⟩ := box_cells KZ
      refine bodyPost_ret (v := .tuple #[noneS.val, .int .i64 3]) (by simp [results, Try.results24, go_sem, noneS, St.val, c0', c1', c2', c3', c4', c5', c6']) rfl ?_
      exact ⟨noneS, by rw [HX.out]; rfl, noneS_at _, ⟨fun h => absurd h (by rw [HX.out]; decide), fun _ => ⟨rfl, rfl, rfl, rfl, rfl, rfl, rfl⟩⟩, hbz⟩
    have K3 : Hid (¬ anyB l.n (fun j => outL p (l.z j)) = true) := by show ¬ _; rw [k3]; decide
    clear k3
    have HLK : Hid (l.At w2) := hlk
    clear hz hpk hsk hlk
    go_wp2_with fail
    refine (anyL4 62 #[] (fun j => begunL (l.z j)) _ _ _ _ lle lcap0 l.z HLK.out.hds (enters_of Try.func62 (by kernel_rfl) rfl) (fun i w2 _ h => by rw [Array.append_empty]; exact Enter2_any _ _)).mono ?_
    rintro e w3 ⟨rfl, hB2⟩
    have hB := hB.trans (hB2.mono hB.size)
    clear l1 d0 d1 l2 c0 c1 c2 c3 c4 c5 c6 hBw hB2 HLK
    obtain ⟨⟨⟨l1, d0, d1⟩, l2, c0, c1, c2, c3, c4, c5, c6⟩, hpk, hsk, hBw, hz, hlk⟩ := HC.out w3 hB
    cases k4 : anyB l.n (fun j => begunL (l.z j))
    rotate_left
    · have HX : Hid (enterE p s l = 1) := enterE_form H0.out HM.out K3.out k4
      clear k4
      clear hpk hsk hlk
      have zl := hz.lt
      have zf0 := hz.frozen 0
      have zc0 := hz.cell (j := 0) (by decide)
      have zf1 := hz.frozen 1
      have zc1 := hz.cell (j := 1) (by decide)
      have zf2 := hz.frozen 2
      have zc2 := hz.cell (j := 2) (by decide)
      have zf3 := hz.frozen 3
      have zc3 := hz.cell (j := 3) (by decide)
      have zf4 := hz.frozen 4
      have zc4 := hz.cell (j := 4) (by decide)
      have zf5 := hz.frozen 5
      have zc5 := hz.cell (j := 5) (by decide)
      have zf6 := hz.frozen 6
      have zc6 := hz.cell (j := 6) (by decide)
      go_wp2_with fail
      have KZ := set7_blk hz (.slice .none 0 0) (.slice .none 0 0) (.slice .none 0 0) (.slice .none 0 0) (.slice .none 0 0) (.slice .none 0 0) (.slice .none 0 0)
      have hbz := set7_below (b := w.heap.size + 2) hBw (by omega) (.slice .none 0 0) (.slice .none 0 0) (.slice .none 0 0) (.slice .none 0 0) (.slice .none 0 0) (.slice .none 0 0) (.slice .none 0 0)
      unfold set7 at KZ hbz
      obtain ⟨c0', c1', c2', c3', c4', c5', c6'⟩ := box_cells KZ
      refine bodyPost_ret (v := .tuple #[noneS.val, .int .i64 1]) (by simp [results, Try.results24, go_sem, noneS, St.val, c0', c1', c2', c3', c4', c5', c6']) rfl ?_
      exact ⟨noneS, by rw [HX.out]; rfl, noneS_at _, ⟨fun h => absurd h (by rw [HX.out]; decide), fun _ => ⟨rfl, rfl, rfl, rfl, rfl, rfl, rfl⟩⟩, hbz⟩
    have HX : Hid (enterE p s l = 0) := enterE_ok H0.out HM.out K3.out (by rw [k4]; decide)
    clear k4 K3 HM
    have hz0 := hz.lt
    have hcs := copyState_any p s w3 hsk HF.out
    have HCS : Hid _ := hcs
    have HLK : Hid (l.At w3) := hlk
    clear hcs hz hlk hpk hsk
    go_wp2_with fail
    refine Calls.mono HCS.out ?_
    rintro e w4 ⟨o, rfl, hsame, hown, hB2⟩
    clear HCS
    have hB4 := hB.trans (hB2.mono hB.size)
    have q3 := hB.size
    have q4 := hB2.size
    obtain ⟨W5, hW5, hBW5, KW5⟩ : ∃ W, w4.alloc (.cells #[.slice o.on.a o.on.n o.on.c, .slice o.os.a o.os.n o.os.c, .slice o.hs.a o.hs.n o.hs.c, .slice o.ms.a o.ms.n o.ms.c, .slice o.si.a o.si.n o.si.c, .slice o.so.a o.so.n o.so.c, .slice o.sf.a o.sf.n o.sf.c] 31) = W ∧ Below w4.heap.size w4 W ∧ Blk W w4.heap.size 31 7 (fun j => o.cells.getD j default) := ⟨_, rfl, (Below.refl _ _).alloc (Nat.le_refl _) _, Blk.mk' rfl rfl⟩
    have HW5 : Hid (w4.alloc (.cells #[.slice o.on.a o.on.n o.on.c, .slice o.os.a o.os.n o.os.c, .slice o.hs.a o.hs.n o.hs.c, .slice o.ms.a o.ms.n o.ms.c, .slice o.si.a o.si.n o.si.c, .slice o.so.a o.so.n o.so.c, .slice o.sf.a o.sf.n o.sf.c] 31) = W5) := hW5
    have hB5 := hB4.trans (hBW5.mono hB4.size)
    have hown5 := OwnS.below hown hBW5
    have hlk5 := (HLK.out.below hB2).below hBW5
    have q5 := hBW5.size
    have on4 : o.os.n ≤ 4 := by have := HF.out.os4; have : o.os.n = s.os.n := hsame.os.1; omega
    clear l1 d0 d1 l2 c0 c1 c2 c3 c4 c5 c6 hBw hz0 hW5
    simp only [St.val]
    go_wp2_with fail
    rw [HW5.out]
    have HOW : Hid (OwnS w3.heap.size W5 o ∧ Blk W5 w4.heap.size 31 7 (fun j => o.cells.getD j default) ∧ SameT o s) := ⟨hown5, KW5, hsame⟩
    have HL5 : Hid (l.At W5) := hlk5
    have r0 : ∀ d os, (grow (redrawn W5 d) os).cell? ⟨w4.heap.size, 1, none⟩ = some (.slice o.os.a o.os.n o.os.c) := fun d os => cell_regrown (KW5.cell (j := 1) (by decide)) d os
    have xl5 : w4.heap.size < W5.heap.size := KW5.lt
    clear hown hown5 KW5 hsame hlk5 HLK HW5 hBW5 hB2
    obtain ⟨iO, hO, hO0, hO1, hO2⟩ := info_parts infoOrderC
    refine wp_region_made6 (fun w' => ∃ p : Regrown, w' = grow (redrawn W5 p.d) p.os) [0, 1, 2] [3, 4, 5] [(true, 6), (true, 7), (true, 8)] (by kernel_rfl) (by kernel_rfl) (by kernel_rfl) (by kernel_rfl) (by kernel_rfl) (by kernel_rfl) (by kernel_rfl) (by kernel_rfl) (by kernel_rfl) (regrown_of_below ((Below.refl _ _).drew)) ?_
    simp only [picks, List.drop_succ_cons, List.drop_zero, List.take_succ_cons, List.take_zero, List.cons_append, List.nil_append]
    repeat (go_big_quiet_step (fail))
    refine wpQuiet_nil ?_
    clear r0
    refine ⟨fun j v g wk => match j with | 3 => DHs W5.heap.size 53 l v g wk | 4 => D16 W5.heap.size ⟨0, l⟩ v g wk | 5 => D17 W5.heap.size ⟨0, l⟩ v g wk | _ => True,
      List.forall_mem_cons.2 ⟨fun v g w w' hB h => DHs.below h hB, List.forall_mem_cons.2 ⟨fun v g w w' hB h => D16.below h hB, List.forall_mem_cons.2 ⟨fun v g w w' hB h => D17.below h hB, List.forall_mem_nil _⟩⟩⟩,
      List.forall_mem_cons.2 ⟨fun v g w h => by obtain ⟨_, h1, _⟩ := h; rw [h1]; intro x hx; simp at hx, List.forall_mem_cons.2 ⟨fun v g w h => by obtain ⟨_, h1, _⟩ := h; rw [h1]; intro x hx; simp at hx, List.forall_mem_cons.2 ⟨fun v g w h => by obtain ⟨_, _, h1, _⟩ := h; rw [h1]; intro x hx; simp at hx, List.forall_mem_nil _⟩⟩⟩,
      List.forall_mem_cons.2 ⟨?zt3, List.forall_mem_cons.2 ⟨?zt4, List.forall_mem_cons.2 ⟨?zt5, List.forall_mem_nil _⟩⟩⟩, ?ztdone⟩
    case zt3 =>
      intro V G wk K hS hd hA hK
      have hX := below_of_regrown hS
      have q := hX.size
      refine wpOp_list 3 rfl ?_
      simp only [putAll, dstOf, List.getElem?_toArray, List.getElem?_cons_succ, List.getElem?_cons_zero, Act.put, List.setIfInBounds_toArray, List.set_cons_succ, List.set_cons_zero] at hK ⊢
      go_wp2_with fail
      refine (CloneLine_any l wk (HL5.out.below hX) (by omega)).mono ?_
      rintro e w2 ⟨s', rfl, hc, hB2⟩
      have HR : Hid (Cloned W5.heap.size 53 l w2 s') := ⟨hc.1, hc.2.1, hc.2.2.1.mono (by omega), hc.2.2.2.mono (by omega)⟩
      clear hc
      simp only [Hs.val]
      go_wp2_with fail
      exact hK _ [] _ (regrown_of_below (hX.trans (hB2.mono hX.size))) hB2 (fun x hx => by simp at hx) ⟨s', rfl, rfl, HR.out⟩
    case zt4 =>
      intro V G wk K hS hd hA hK
      obtain ⟨s', -, h15, hc⟩ : DHs W5.heap.size 53 l (V 3) (G 3) wk := hd 3 (List.contains_iff_mem.1 (by kernel_rfl)) (by simp)
      have HCL : Hid (Cloned W5.heap.size 53 l wk s') := hc
      clear hc
      refine wpOp_list 4 rfl ?_
      simp only [putAll, dstOf, List.getElem?_toArray, List.getElem?_cons_succ, List.getElem?_cons_zero, Act.put, List.setIfInBounds_toArray, List.set_cons_succ, List.set_cons_zero, h15] at hK ⊢
      go_wp2_with fail
      exact hK _ [] _ hS (Below.refl _ _) (fun x hx => by simp at hx) ⟨s', rfl, rfl, HCL.out⟩
    case zt5 =>
      intro V G wk K hS hd hA hK
      have hX := below_of_regrown hS
      obtain ⟨s', -, h16, hc⟩ : D16 W5.heap.size ⟨0, l⟩ (V 4) (G 4) wk := hd 4 (List.contains_iff_mem.1 (by kernel_rfl)) (by simp)
      have HCL : Hid (Cloned W5.heap.size 53 l wk s') := hc
      clear hc
      refine wpOp_list 5 rfl ?_
      simp only [putAll, dstOf, List.getElem?_toArray, List.getElem?_cons_succ, List.getElem?_cons_zero, Act.put, List.setIfInBounds_toArray, List.set_cons_succ, List.set_cons_zero, h16] at hK ⊢
      go_wp2_with fail
      have hBa := (Below.refl wk.heap.size wk).alloc (Nat.le_refl _) (.cells #[.int .i64 0, .slice s'.a s'.n s'.c] 51)
      exact hK _ [] _ (regrown_of_below (hX.alloc hX.size _)) ((Below.refl _ _).alloc (Nat.le_refl _) _) (fun x hx => by simp at hx) ⟨wk.heap.size, s', rfl, rfl, hX.size, Blk.mk' rfl rfl, HCL.out.1, HCL.out.2.1, HCL.out.2.2.1.below hBa, HCL.out.2.2.2.below hBa⟩
    case ztdone =>
      intro V G' wk hS hD hA
      obtain ⟨BO, s', -, h17, m17, k17, e1, e2, ⟨o1, o2, o3, o4⟩, -⟩ : D17 W5.heap.size ⟨0, l⟩ (V 5) (G' 5) wk := hD 5 (by simp)
      have hX := below_of_regrown hS
      have q1 := hX.size
      obtain ⟨gB, ea, hgB, kB⟩ := o4 (by rw [e1]; show 0 < l.n; omega)
      obtain ⟨hO5, K5, hsame⟩ := HOW.out
      have hO6 := OwnS.below hO5 hX
      have K6 := K5.below hX
      have hBk := hB5.trans (hX.mono hB5.size)
      have HE : Hid (s'.n = l.n ∧ (∀ j, j < l.n → s'.z j = l.z j) ∧ s'.a = some ⟨gB, 0, none⟩ ∧ s'.n ≤ s'.c ∧ s'.c ≤ maxLen ∧ Blk wk gB 53 (s'.n * 4) (fun j => (flatH s'.n s'.z).getD j default) ∧ SameT o s ∧ W5.heap.size ≤ gB) := ⟨e1, e2, ea, o1, o2, kB, hsame, hgB⟩
      have HOK : Hid (OwnS w3.heap.size wk o ∧ OwnS w3.heap.size W5 o) := ⟨hO6, hO5⟩
      have HK6 : Hid (Blk wk w4.heap.size 31 7 (fun j => o.cells.getD j default)) := K6
      have HBk : Hid (Below W0.heap.size W0 wk) := hBk
      have HK17 : Hid (Blk wk BO 51 2 (fun j => (#[.int .i64 0, .slice s'.a s'.n s'.c] : Array Value).getD j default)) := k17
      clear hS hD hA e1 e2 ea o1 o2 o3 o4 kB hO5 K5 hsame hO6 K6 hBk k17 hB5
      simp only [putAll, dstOf, List.getElem?_toArray, List.getElem?_cons_succ, List.getElem?_cons_zero, Act.put, List.setIfInBounds_toArray, List.set_cons_succ, List.set_cons_zero, h17]
      refine wpSeq_one 6 rfl ?_
      go_wp2_with (at_builtin; refine wpList_append_room wk rfl (.tmp 45) (.tmp 49) 27 rfl w3.heap.size 51 iO (.agg #[.int .i64 0, .slice none 0 0]) 2 32 Try.underlying27 hO hO0 hO1 hO2 rfl (by decide) o.os.a o.os.n o.os.c (flatO o.os.n o.os.z) rfl HOK.out.1.os.room HOK.out.1.os.le HOK.out.1.os.cap (flatO_len _ _) HOK.out.1.os.list ⟨BO, 0, none⟩ 1 1 [.int .i64 0, .slice s'.a s'.n s'.c] rfl rfl ?zc1 ?zc2 (by decide) ?zc3 ?zc4 ?zc5 ?_)
      case zc1 =>
        intro j u hj
        match j, hj with
        | 0, hj => simp at hj; subst hj; exact HK17.out.cell (j := 0) (by decide)
        | 1, hj => simp at hj; subst hj; exact HK17.out.cell (j := 1) (by decide)
      case zc2 => intro u hu; simp at hu; rcases hu with rfl | rfl <;> rfl
      case zc3 => unfold maxLen; omega
      case zc4 => omega
      case zc5 => omega
      intro v2 w2 hown2 hgrow2
      obtain ⟨e1, e2, ea, o1, o2, kB, hsame, hgB⟩ := HE.out
      obtain ⟨va, vc, rfl, hOO⟩ := OwnO.more (x := ⟨0, s'⟩) HOK.out.1.os hown2 hgrow2 ea (by omega) o1 o2 kB (fun i hi e => by
        obtain ⟨B, x1, x2, x3, x4, x5⟩ := HOK.out.2.os.lines i hi
        rw [x1] at e
        have e' := e.trans ea
        simp only [Option.some.injEq, Addr.mk.injEq, and_true] at e'
        have := x5.lt
        omega)
      have hOS2 := HOK.out.1.orders hgrow2 hOO
      have hB7 := hgrow2.below HBk.out (by omega) (by have := HBk.out.size; omega)
      have K7 := hgrow2.blk HK6.out (by decide)
      have xl := K7.lt
      have zf9 := K7.frozen 1
      have zc9 := K7.cell (j := 1) (by decide)
      have K8 := K7.set 1 (.slice va (o.os.n + 1) vc)
      have hO8 := hOS2.box K7 1 (.slice va (o.os.n + 1) vc)
      have hB8 := hB7.setCell (p := ⟨w4.heap.size, 1, none⟩) (by show W0.heap.size ≤ w4.heap.size; omega) (.slice va (o.os.n + 1) vc)
      have HSM : Hid (SameT ⟨o.on, ⟨va, o.os.n + 1, vc, moreO o.os ⟨0, s'⟩⟩, o.hs, o.ms, o.si, o.so, o.sf⟩ (enterT s l)) := enter_same hsame e1 e2
      obtain ⟨-, -, -, hBw8, hz8, -⟩ := HC.out _ hB8
      have HEND : Hid (OwnS w3.heap.size (w2.setCell ⟨w4.heap.size, 1, none⟩ (.slice va (o.os.n + 1) vc)) ⟨o.on, ⟨va, o.os.n + 1, vc, moreO o.os ⟨0, s'⟩⟩, o.hs, o.ms, o.si, o.so, o.sf⟩ ∧ Below w.heap.size w (w2.setCell ⟨w4.heap.size, 1, none⟩ (.slice va (o.os.n + 1) vc)) ∧ Blk (w2.setCell ⟨w4.heap.size, 1, none⟩ (.slice va (o.os.n + 1) vc)) (w.heap.size + 2) 31 7 (fun _ => .slice .none 0 0)) := ⟨hO8, hBw8, hz8⟩
      have m8 := K8.lt
      have e0' : (w2.setCell ⟨w4.heap.size, 1, none⟩ (.slice va (o.os.n + 1) vc)).cell? ⟨w4.heap.size, 0, none⟩ = some (.slice o.on.a o.on.n o.on.c) := K8.cell (j := 0) (by decide)
      have e1' : (w2.setCell ⟨w4.heap.size, 1, none⟩ (.slice va (o.os.n + 1) vc)).cell? ⟨w4.heap.size, 1, none⟩ = some (.slice va (o.os.n + 1) vc) := K8.cell (j := 1) (by decide)
      have e2' : (w2.setCell ⟨w4.heap.size, 1, none⟩ (.slice va (o.os.n + 1) vc)).cell? ⟨w4.heap.size, 2, none⟩ = some (.slice o.hs.a o.hs.n o.hs.c) := K8.cell (j := 2) (by decide)
      have e3' : (w2.setCell ⟨w4.heap.size, 1, none⟩ (.slice va (o.os.n + 1) vc)).cell? ⟨w4.heap.size, 3, none⟩ = some (.slice o.ms.a o.ms.n o.ms.c) := K8.cell (j := 3) (by decide)
      have e4' : (w2.setCell ⟨w4.heap.size, 1, none⟩ (.slice va (o.os.n + 1) vc)).cell? ⟨w4.heap.size, 4, none⟩ = some (.slice o.si.a o.si.n o.si.c) := K8.cell (j := 4) (by decide)
      have e5' : (w2.setCell ⟨w4.heap.size, 1, none⟩ (.slice va (o.os.n + 1) vc)).cell? ⟨w4.heap.size, 5, none⟩ = some (.slice o.so.a o.so.n o.so.c) := K8.cell (j := 5) (by decide)
      have e6' : (w2.setCell ⟨w4.heap.size, 1, none⟩ (.slice va (o.os.n + 1) vc)).cell? ⟨w4.heap.size, 6, none⟩ = some (.slice o.sf.a o.sf.n o.sf.c) := K8.cell (j := 6) (by decide)
      have zl := hz8.lt
      have zf0 := hz8.frozen 0
      have zc0 := hz8.cell (j := 0) (by decide)
      have zf1 := hz8.frozen 1
      have zc1 := hz8.cell (j := 1) (by decide)
      have zf2 := hz8.frozen 2
      have zc2 := hz8.cell (j := 2) (by decide)
      have zf3 := hz8.frozen 3
      have zc3 := hz8.cell (j := 3) (by decide)
      have zf4 := hz8.frozen 4
      have zc4 := hz8.cell (j := 4) (by decide)
      have zf5 := hz8.frozen 5
      have zc5 := hz8.cell (j := 5) (by decide)
      have zf6 := hz8.frozen 6
      have zc6 := hz8.cell (j := 6) (by decide)
      clear hown2 hgrow2 hOO hOS2 hB7 K7 K8 hO8 hB8 hBw8 hz8 HE HOK HK6 HBk HK17 kB hsame e1 e2 ea o1 o2 hgB hX
      refine wpList_end ⟨Late.yes, ?_⟩
      refine wpSeq_one 7 rfl ?_
      go_wp2_with fail
      refine ⟨Late.yes, ?_⟩
      refine wpSeq_one 8 rfl ?_
      go_wp2_with fail
      refine ⟨Late.yes, ?_⟩
      refine NoPanic.normal ?_
      go_wp2_with fail
      obtain ⟨hOt, hBw, hz⟩ := HEND.out
      have KZ := set7_blk hz (.slice o.on.a o.on.n o.on.c) (.slice va (o.os.n + 1) vc) (.slice o.hs.a o.hs.n o.hs.c) (.slice o.ms.a o.ms.n o.ms.c) (.slice o.si.a o.si.n o.si.c) (.slice o.so.a o.so.n o.so.c) (.slice o.sf.a o.sf.n o.sf.c)
      have hbz := set7_below (b := w.heap.size + 2) hBw (by omega) (.slice o.on.a o.on.n o.on.c) (.slice va (o.os.n + 1) vc) (.slice o.hs.a o.hs.n o.hs.c) (.slice o.ms.a o.ms.n o.ms.c) (.slice o.si.a o.si.n o.si.c) (.slice o.so.a o.so.n o.so.c) (.slice o.sf.a o.sf.n o.sf.c)
      have hOz := OwnS.set7 hOt hz (.slice o.on.a o.on.n o.on.c) (.slice va (o.os.n + 1) vc) (.slice o.hs.a o.hs.n o.hs.c) (.slice o.ms.a o.ms.n o.ms.c) (.slice o.si.a o.si.n o.si.c) (.slice o.so.a o.so.n o.so.c) (.slice o.sf.a o.sf.n o.sf.c)
      unfold set7 at KZ hbz hOz
      obtain ⟨c0', c1', c2', c3', c4', c5', c6'⟩ := box_cells KZ
      refine bodyPost_ret (v := .tuple #[(⟨o.on, ⟨va, o.os.n + 1, vc, moreO o.os ⟨0, s'⟩⟩, o.hs, o.ms, o.si, o.so, o.sf⟩ : St).val, .int .i64 0]) (by simp [results, Try.results24, go_sem, St.val, c0', c1', c2', c3', c4', c5', c6']) rfl ?_
      exact ⟨⟨o.on, ⟨va, o.os.n + 1, vc, moreO o.os ⟨0, s'⟩⟩, o.hs, o.ms, o.si, o.so, o.sf⟩, by rw [HX.out]; rfl, hOz.at, ⟨fun _ => HSM.out, fun h => absurd HX.out h⟩, hbz⟩
  · have HX : Hid (enterE p s l = stateE p s) := enterE_state h0
    clear hpk hsk hlk c0 c1 c2 c3 c4 c5 c6
    have zl := hz.lt
    have zf0 := hz.frozen 0
    have zc0 := hz.cell (j := 0) (by decide)
    have zf1 := hz.frozen 1
    have zc1 := hz.cell (j := 1) (by decide)
    have zf2 := hz.frozen 2
    have zc2 := hz.cell (j := 2) (by decide)
    have zf3 := hz.frozen 3
    have zc3 := hz.cell (j := 3) (by decide)
    have zf4 := hz.frozen 4
    have zc4 := hz.cell (j := 4) (by decide)
    have zf5 := hz.frozen 5
    have zc5 := hz.cell (j := 5) (by decide)
    have zf6 := hz.frozen 6
    have zc6 := hz.cell (j := 6) (by decide)
    go_wp2_with fail
    have KZ := set7_blk hz (.slice .none 0 0) (.slice .none 0 0) (.slice .none 0 0) (.slice .none 0 0) (.slice .none 0 0) (.slice .none 0 0) (.slice .none 0 0)
    have hbz := set7_below (b := w.heap.size + 2) hBw (by omega) (.slice .none 0 0) (.slice .none 0 0) (.slice .none 0 0) (.slice .none 0 0) (.slice .none 0 0) (.slice .none 0 0) (.slice .none 0 0)
    unfold set7 at KZ hbz
    obtain ⟨c0', c1', c2', c3', c4', c5', c6'⟩ := box_cells KZ
    refine bodyPost_ret (v := .tuple #[noneS.val, .int .i64 (stateE p s)]) (by simp [results, Try.results24, go_sem, noneS, St.val, c0', c1', c2', c3', c4', c5', c6']) rfl ?_
    exact ⟨noneS, by rw [HX.out]; rfl, noneS_at _, ⟨fun h => absurd h (by rw [HX.out]; exact h0), fun _ => ⟨rfl, rfl, rfl, rfl, rfl, rfl, rfl⟩⟩, hbz⟩

end Go.Proofs.Ytjiodlbblmbibac

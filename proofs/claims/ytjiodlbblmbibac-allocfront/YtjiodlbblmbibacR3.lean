/- A region that draws its order, and that makes memory: what only reads is taken first; what makes new blocks comes in whatever order, each by what it makes; the rest comes alone. No program in it. -/
import Derived.Test.YtjiodlbblmbibacR2
namespace Go.Proofs.Ytjiodlbblmbibac
open Go.RowKit
set_option linter.unusedVariables false

def depsOf (ops : Array Oper) (i : Nat) : List Nat := match ops[i]? with
  | none => []
  | some o => (o.after.toList.filter (fun e => Region.binds .any e)).map (fun e => e.on)
def mark (listed : Array Bool) : List Nat → Array Bool
  | [] => listed
  | i :: r => mark (listed.setIfInBounds i true) r
def firstsB (ops : Array Oper) : List Nat → Array Bool → Bool
  | [], _ => true
  | i :: r, listed => (Region.ready .any ops listed).contains i && Region.free .any ops listed i && firstsB ops r (listed.setIfInBounds i true)
def topoB (ops : Array Oper) (L : Array Bool) : List Nat → List Nat → Bool
  | _, [] => true
  | seen, i :: r => (depsOf ops i).all (fun d => L.getD d false || seen.contains d) && topoB ops L (i :: seen) r
def dstOf (ops : Array Oper) (i : Nat) : Option Tmp := match ops[i]? with
  | none => none
  | some o => o.dst
def madeB (ops : Array Oper) (rem : List Nat) (L : Array Bool) : Bool :=
  (List.range ops.size).all (fun i => L.getD i true || rem.contains i || rem.all (fun r => (depsOf ops i).contains r)) &&
  topoB ops L [] rem && rem.all (fun r => decide (r < ops.size) && !L.getD r true) && decide (L.size = ops.size) && decide ((rem.map (dstOf ops)).Nodup) && rem.all (fun r => (dstOf ops r).isSome)

theorem mark_size : ∀ (l : List Nat) (listed : Array Bool), (mark listed l).size = listed.size
  | [], _ => rfl
  | i :: r, listed => by rw [mark, mark_size r]; simp
theorem mark_get : ∀ (l : List Nat) (listed : Array Bool) (j : Nat), j < listed.size → (mark listed l)[j]? = if j ∈ l then some true else listed[j]?
  | [], listed, j, _ => by simp [mark]
  | i :: r, listed, j, hj => by
    rw [mark, mark_get r _ j (by simpa using hj), Array.getElem?_setIfInBounds]
    by_cases h1 : j ∈ r
    · simp [h1]
    · by_cases h2 : i = j
      · subst h2; simp [h1, hj]
      · have h3 : ¬ j = i := fun e => h2 e.symm
        simp [h1, h2, h3]

def putAll (ops : Array Oper) (rem : List Nat) (V : Nat → Value) (a : Act) : Act := match rem with
  | [] => a
  | i :: r => putAll ops r V (a.put (dstOf ops i) (V i))

theorem put_self (a : Act) (d : Option Tmp) : a.put d (match d with | some d => a.tmps.getD d undef | none => undef) = a := by
  cases d with
  | none => rfl
  | some d =>
    cases a with
    | mk tmps defers =>
      simp only [Act.put]
      congr 1
      apply Array.ext_getElem?
      intro i
      rw [Array.getElem?_setIfInBounds]
      by_cases h : d = i
      · subst h
        by_cases h2 : d < tmps.size
        · simp [h2, Array.getD]
        · simp [h2]
      · simp [h]
theorem put_put (a : Act) (d : Option Tmp) (u v : Value) : (a.put d u).put d v = a.put d v := by
  cases d with
  | none => rfl
  | some d =>
    simp only [Act.put]
    congr 1
    apply Array.ext_getElem?
    intro i
    simp only [Array.getElem?_setIfInBounds, Array.size_setIfInBounds]
    by_cases h : d = i <;> simp [h]
theorem put_swap (a : Act) {d d' : Option Tmp} (u v : Value) (h : d ≠ d') : (a.put d u).put d' v = (a.put d' v).put d u := by
  cases d with
  | none => rfl
  | some d => cases d' with
    | none => rfl
    | some d' =>
      have hne : d ≠ d' := fun e => h (by rw [e])
      simp only [Act.put]
      congr 1
      apply Array.ext_getElem?
      intro i
      simp only [Array.getElem?_setIfInBounds, Array.size_setIfInBounds]
      by_cases h1 : d = i
      · have h2 : ¬ d' = i := fun e => hne (h1.trans e.symm)
        simp [h1, h2]
      · by_cases h2 : d' = i <;> simp [h1, h2]

def upd (V : Nat → Value) (i : Nat) (v : Value) (j : Nat) : Value := if j = i then v else V j
theorem putAll_congr {ops : Array Oper} : ∀ {rem : List Nat} {V V' : Nat → Value} {a : Act}, (∀ j ∈ rem, V j = V' j) → putAll ops rem V a = putAll ops rem V' a
  | [], _, _, _, _ => rfl
  | i :: r, V, V', a, h => by
    rw [putAll, putAll, h i (by simp)]
    exact putAll_congr fun j hj => h j (by simp [hj])
theorem putAll_swap {ops : Array Oper} {d : Option Tmp} {v : Value} : ∀ {rem : List Nat} {V : Nat → Value} {a : Act}, d ∉ rem.map (dstOf ops) → putAll ops rem V (a.put d v) = (putAll ops rem V a).put d v
  | [], _, _, _ => rfl
  | i :: r, V, a, h => by
    simp only [List.map_cons, List.mem_cons, not_or] at h
    rw [putAll, putAll, put_swap a _ _ h.1]
    exact putAll_swap h.2
theorem putAll_put {ops : Array Oper} {i : Nat} {v : Value} : ∀ {rem : List Nat} {V : Nat → Value} {a : Act}, (rem.map (dstOf ops)).Nodup → i ∈ rem → (putAll ops rem V a).put (dstOf ops i) v = putAll ops rem (upd V i v) a
  | [], _, _, _, hi => by simp at hi
  | k :: r, V, a, hn, hi => by
    simp only [List.map_cons, List.nodup_cons] at hn
    rw [putAll, putAll]
    by_cases hk : k = i
    · subst hk
      have hkr : k ∉ r := fun h => hn.1 (List.mem_map.2 ⟨k, h, rfl⟩)
      rw [← putAll_swap hn.1, put_put]
      have e1 : upd V k v k = v := if_pos rfl
      rw [e1]
      exact putAll_congr fun j hj => (if_neg (fun e : j = k => hkr (by rw [← e]; exact hj))).symm
    · have e1 : upd V i v k = V k := if_neg hk
      rw [e1]
      have hir : i ∈ r := by
        rcases List.mem_cons.1 hi with h | h
        · exact absurd h.symm hk
        · exact h
      exact putAll_put hn.2 hir
theorem putAll_self {ops : Array Oper} (a : Act) : ∀ (rem : List Nat), putAll ops rem (fun i => match dstOf ops i with | some d => a.tmps.getD d undef | none => undef) a = a
  | [] => rfl
  | i :: r => by
    rw [putAll, put_self]
    exact putAll_self a r

/-- One operation, by the walk of a list of one. -/
theorem wpOp_list {P : Program} {l : List Oper} {Q : Exit → Act → World → Prop} {K : Act → World → Prop} (k : Nat) {o : Oper} {a : Act} {w : World} (hk : l[k]? = some o)
    (h : wpList P l.toArray (Exit.then K Q) [o] a w) : wpOp P l.toArray Q k K a w := by
  unfold wpOp
  simp only [List.getElem?_toArray, hk]
  unfold wpList at h
  split
  · rename_i hw
    rw [if_pos hw] at h
    rcases h with h | ⟨h1, h2⟩
    · exact .inl (Oper.wp_then (Oper.wp_mono (fun a' w' h' => h') h))
    · exact .inr ⟨h1, h2⟩
  · rename_i hw
    rw [if_neg hw] at h
    exact h

theorem wpAnyH_firsts {P : Program} {l : List Oper} {Q : Exit → Act → World → Prop} {S : World → Prop} {K : Act → Prop} {w : World} {fuel : Nat} (hs : Region.noSelect l.toArray = true) (hS : S w) (hQ : ∀ c a a' w, Q (.panic c) a w → Q (.panic c) a' w) :
    ∀ (ks : List Nat) (os : List Oper) (listed : Array Bool) (a : Act), firstsB l.toArray ks listed = true → ks.map (fun k => l[k]?) = os.map some → (os.all vKind2) = true →
      wpQuiet P l.toArray S K os a → (∀ a, K a → wpAnyH P .any l.toArray Q S fuel (mark listed ks) a w) → wpAnyH P .any l.toArray Q S (ks.length + fuel) listed a w
  | [], [], listed, a, _, _, _, h, hK => by rw [List.length_nil, Nat.zero_add]; exact hK a h
  | k :: ks, o :: os, listed, a, hB, hk, hv, h, hK => by
    simp only [List.map_cons, List.cons.injEq] at hk
    simp only [List.all_cons, Bool.and_eq_true] at hv
    simp only [firstsB, Bool.and_eq_true] at hB
    rw [List.length_cons, Nat.add_right_comm]
    unfold wpQuiet at h
    split at h
    · rename_i hw
      obtain ⟨v, h1, h2⟩ := h
      refine wpAnyH_take (by simpa using hk.1) hs hB.1.2 hB.1.1 (fun c a w hq => hQ _ _ _ _ hq) (.inl ⟨hw, fun w' hS => ?_⟩) hS (wpAnyH_firsts hs hS hQ ks os _ _ hB.2 hk.2 hv.2 h2 hK)
      have := h1 w' hS
      unfold Oper.quietAt at this
      cases hr : (execOp a.eval o).run P w' with
      | ok n w2 =>
        rw [hr] at this
        obtain ⟨u, rfl⟩ := vKind2_spec hv.1 hr
        simp only [Oper.quietUpon] at this
        rw [this.1, this.2]
      | halt x w2 => rw [hr] at this; exact this.elim
    · rename_i hw
      exact wpAnyH_take (by simpa using hk.1) hs hB.1.2 hB.1.1 (fun c a w hq => hQ _ _ _ _ hq) (.inr ⟨by simpa using hw, rfl⟩) hS (wpAnyH_firsts hs hS hQ ks os _ _ hB.2 hk.2 hv.2 h hK)
  | [], _ :: _, _, _, _, hk, _, _, _ => by simp at hk
  | _ :: _, [], _, _, _, hk, _, _, _ => by simp at hk

theorem topo_ready {ops : Array Oper} {L listed : Array Bool} (hsz : listed.size = ops.size) : ∀ (seen rem : List Nat), topoB ops L seen rem = true → (∀ d, L.getD d false = true → listed.getD d false = true) → (∀ d ∈ seen, listed.getD d false = true) →
    (∀ r ∈ rem, r < ops.size) → (∃ r ∈ rem, listed.getD r true = false) → ∃ r ∈ rem, r ∈ Region.ready .any ops listed
  | _, [], _, _, _, _, h => by obtain ⟨r, hr, _⟩ := h; simp at hr
  | seen, i :: r, hT, hL, hs, hlt, h => by
    simp only [topoB, Bool.and_eq_true] at hT
    by_cases hi : listed.getD i true = false
    · refine ⟨i, by simp, mem_ready.2 ⟨hi, ops[i]'(hlt i (by simp)), by simp [hlt i (by simp)], fun e he hb => ?_⟩⟩
      have hd : e.on ∈ depsOf ops i := by
        unfold depsOf
        simp only [Array.getElem?_eq_getElem (hlt i (by simp))]
        exact List.mem_map.2 ⟨e, List.mem_filter.2 ⟨by simpa using he, hb⟩, rfl⟩
      have := List.all_eq_true.1 hT.1 _ hd
      simp only [Bool.or_eq_true, List.contains_iff_mem] at this
      rcases this with h1 | h1
      · exact hL _ h1
      · exact hs _ h1
    · obtain ⟨q, hq, hq2⟩ := h
      have hq3 : q ∈ r := by
        rcases List.mem_cons.1 hq with e | e
        · subst e; exact absurd hq2 hi
        · exact e
      obtain ⟨x, hx, hx2⟩ := topo_ready hsz (i :: seen) r hT.2 hL (fun d hd => by
        rcases List.mem_cons.1 hd with e | e
        · subst e
          have : listed.getD d true = true := by simpa using hi
          by_cases hz : d < listed.size
          · simpa [Array.getD, hz] using this
          · exfalso
            have hnone : listed.size ≤ d := by omega
            exact hz (by
              have := hlt d (by simp)
              omega)
        · exact hs d e) (fun x hx => hlt x (by simp [hx])) ⟨q, hq3, hq2⟩
      exact ⟨x, by simp [hx], hx2⟩

theorem made_aux {P : Program} {ops : Array Oper} {Q : Exit → Act → World → Prop} {S : World → Prop} {rem : List Nat} {L : Array Bool} {a1 : Act} {D : Nat → Value → World → Prop} {fuel : Nat} (hB : madeB ops rem L = true)
    (mono : ∀ j ∈ rem, ∀ v w w', Below w.heap.size w w' → D j v w → D j v w')
    (step : ∀ i ∈ rem, ∀ (V : Nat → Value) (w : World), S w → (∀ d ∈ depsOf ops i, d ∈ rem → D d (V d) w) → wpOp P ops Q i (fun a' w' => ∃ v, a' = (putAll ops rem V a1).put (dstOf ops i) v ∧ S w' ∧ Below w.heap.size w w' ∧ D i v w') (putAll ops rem V a1) w)
    (done : ∀ (V : Nat → Value) (w : World), S w → (∀ j ∈ rem, D j (V j) w) → wpAnyH P .any ops Q S fuel (mark L rem) (putAll ops rem V a1) w) :
    ∀ (m : Nat) (listed : Array Bool) (V : Nat → Value) (w : World), (rem.filter (fun r => !listed.getD r true)).length = m → listed.size = ops.size → (∀ j, j ∉ rem → listed[j]? = L[j]?) → S w → (∀ j ∈ rem, listed.getD j true = true → D j (V j) w) →
      wpAnyH P .any ops Q S (m + fuel) listed (putAll ops rem V a1) w := by
  simp only [madeB, Bool.and_eq_true, decide_eq_true_eq] at hB
  obtain ⟨⟨⟨⟨⟨hoth, htopo⟩, hrem⟩, hLs⟩, hnd⟩, hdst⟩ := hB
  have hrem' : ∀ r ∈ rem, r < ops.size ∧ L.getD r true = false := fun r hr => by
    have := List.all_eq_true.1 hrem r hr
    simpa using this
  intro m
  induction m with
  | zero =>
    intro listed V w hm hsz hag hS hD
    have hall : ∀ r ∈ rem, listed.getD r true = true := fun r hr => by
      cases hq : listed.getD r true
      · have : r ∈ rem.filter (fun r => !listed.getD r true) := List.mem_filter.2 ⟨hr, by simp [hq]⟩
        rw [List.length_eq_zero_iff.1 hm] at this
        simp at this
      · rfl
    have hl : listed = mark L rem := by
      apply Array.ext_getElem?
      intro j
      by_cases hj : j < L.size
      · rw [mark_get rem L j hj]
        by_cases hjr : j ∈ rem
        · rw [if_pos hjr]
          have h1 := hall j hjr
          have h2 : j < listed.size := by omega
          simp only [Array.getD, h2, dif_pos] at h1
          simp [h2]
          exact h1
        · rw [if_neg hjr]; exact hag j hjr
      · rw [Array.getElem?_eq_none (by omega), Array.getElem?_eq_none (by rw [mark_size]; omega)]
    rw [Nat.zero_add, hl]
    exact done V w hS fun j hj => hD j hj (hall j hj)
  | succ m ih =>
    intro listed V w hm hsz hag hS hD
    have hex : ∃ r ∈ rem, listed.getD r true = false := by
      have hne : rem.filter (fun r => !listed.getD r true) ≠ [] := fun e => by rw [e] at hm; simp at hm
      obtain ⟨x, hx⟩ := List.exists_mem_of_ne_nil _ hne
      have := List.mem_filter.1 hx
      exact ⟨x, this.1, by simpa using this.2⟩
    have hLl : ∀ d, L.getD d false = true → listed.getD d false = true := fun d hd => by
      by_cases hdr : d ∈ rem
      · have h1 := (hrem' d hdr).2
        have h2 : d < L.size := by have := (hrem' d hdr).1; omega
        simp only [Array.getD, h2, dif_pos] at h1 hd
        rw [h1] at hd; cases hd
      · have h1 := hag d hdr
        by_cases h2 : d < L.size
        · have h3 : d < listed.size := by omega
          simp only [Array.getD, h2, h3, dif_pos] at hd ⊢
          simp only [Array.getElem?_eq_getElem h2, Array.getElem?_eq_getElem h3, Option.some.injEq] at h1
          rw [Array.getInternal_eq_getElem] at hd ⊢
          rw [h1]; exact hd
        · simp [Array.getD, h2] at hd
    obtain ⟨r0, hr0, hr0r⟩ := topo_ready hsz [] rem htopo hLl (fun d hd => by simp at hd) (fun r hr => (hrem' r hr).1) hex
    rw [Nat.add_right_comm]
    refine ⟨fun h0 => absurd (h0 ▸ hr0r) (by simp), fun i hi => ?_⟩
    obtain ⟨hli, o, ho, hdep⟩ := mem_ready.1 hi
    have hdeps : ∀ d ∈ depsOf ops i, listed.getD d false = true := fun d hd => by
      unfold depsOf at hd
      rw [ho] at hd
      obtain ⟨e, he, rfl⟩ := List.mem_map.1 hd
      have := List.mem_filter.1 he
      exact hdep e (by simpa using this.1) this.2
    have hdt : ∀ d, listed.getD d false = true → listed.getD d true = true := fun d hd => by
      by_cases h2 : d < listed.size
      · simpa [Array.getD, h2] using hd
      · simp [Array.getD, h2]
    have hir : i ∈ rem := by
      cases hc : rem.contains i
      · exfalso
        have hlt : i < ops.size := (Array.getElem?_eq_some_iff.1 ho).1
        have hnr : i ∉ rem := fun h => by
          have := List.contains_iff_mem.2 h
          rw [this] at hc; cases hc
        have h1 := List.all_eq_true.1 hoth i (List.mem_range.2 hlt)
        have hLi : L.getD i true = false := by
          have h2 := hag i hnr
          have h3 : i < L.size := by omega
          have h4 : i < listed.size := by omega
          simp only [Array.getElem?_eq_getElem h3, Array.getElem?_eq_getElem h4, Option.some.injEq] at h2
          simp only [Array.getD, h3, h4, dif_pos] at hli ⊢
          rw [Array.getInternal_eq_getElem] at hli ⊢
          rw [← h2]; exact hli
        rw [hLi, hc] at h1
        simp only [Bool.false_or] at h1
        obtain ⟨q, hq, hq2⟩ := hex
        have h5 := List.all_eq_true.1 h1 q hq
        have h6 := hdt q (hdeps q (List.contains_iff_mem.1 h5))
        rw [hq2] at h6; cases h6
      · exact List.contains_iff_mem.1 hc
    refine wpOp_mono (fun a' w' h => ?_) (step i hir V w hS fun d hd hdr => hD d hdr (hdt d (hdeps d hd)))
    obtain ⟨v, rfl, hS', hBel, hDi⟩ := h
    refine ⟨hS', ?_⟩
    rw [putAll_put hnd hir]
    have hin : i < listed.size := by rw [hsz]; exact (hrem' i hir).1
    have gset : ∀ j, (listed.setIfInBounds i true).getD j true = if j = i then true else listed.getD j true := fun j => by
      by_cases hj : j = i
      · subst hj; simp [Array.getD, hin]
      · rw [if_neg hj, getD_set_ne true (fun e => hj e.symm)]
    refine ih (listed.setIfInBounds i true) (upd V i v) w' ?_ (by simpa using hsz) (fun j hj => ?_) hS' (fun j hj hlj => ?_)
    · have hnodup : rem.Nodup := by
        exact (List.pairwise_map.1 hnd).imp (fun h e => h (by rw [e]))
      have e1 : (rem.filter (fun r => !listed.getD r true)) = rem.filter (fun r => !listed.getD r true) := rfl
      have hcount : (rem.filter (fun r => !(listed.setIfInBounds i true).getD r true)) = (rem.filter (fun r => !listed.getD r true)).erase i := by
        have e2 : rem.filter (fun r => !(listed.setIfInBounds i true).getD r true) = (rem.filter (fun r => !listed.getD r true)).filter (fun r => r != i) := by
          rw [List.filter_filter]
          refine List.filter_congr fun x hx => ?_
          rw [gset x]
          by_cases hxi : x = i <;> simp [hxi]
        rw [e2, ← List.Nodup.erase_eq_filter (hnodup.filter _)]
      rw [hcount, List.length_erase_of_mem (List.mem_filter.2 ⟨hir, by simp [hli]⟩), hm]
      rfl
    · rw [Array.getElem?_setIfInBounds, if_neg (fun e : i = j => hj (by rw [← e]; exact hir))]
      exact hag j hj
    · unfold upd
      by_cases hji : j = i
      · subst hji; rw [if_pos rfl]; exact hDi
      · rw [if_neg hji]
        rw [gset j, if_neg hji] at hlj
        exact mono j hj _ _ _ hBel (hD j hj hlj)

/-- The operations of these numbers. -/
def picks (l : List Oper) : List Nat → List Oper
  | [] => []
  | k :: ks => (l.drop k).take 1 ++ picks l ks
theorem picks_ok {l : List Oper} : ∀ {ks : List Nat}, ks.all (fun k => decide (k < l.length)) = true → ks.map (fun k => l[k]?) = (picks l ks).map some
  | [], _ => rfl
  | k :: ks, h => by
    simp only [List.all_cons, Bool.and_eq_true, decide_eq_true_eq] at h
    have h1 : (l.drop k).take 1 = [l[k]'h.1] := by
      rw [List.drop_eq_getElem_cons h.1]
      rfl
    rw [picks, h1, List.map_cons, List.singleton_append, List.map_cons, List.getElem?_eq_getElem h.1, picks_ok h.2]

/-- What is to be shown behind what is taken first. -/
def Made (P : Program) (ops : Array Oper) (Q : Exit → Act → World → Prop) (S : World → Prop) (rem : List Nat) (ord : List (Bool × Nat)) (a1 : Act) : Prop :=
  ∃ D : Nat → Value → World → Prop, (∀ j ∈ rem, ∀ v w w', Below w.heap.size w w' → D j v w → D j v w') ∧
    (∀ i ∈ rem, ∀ (V : Nat → Value) (w : World) (K : Act → World → Prop), S w → (∀ d ∈ depsOf ops i, d ∈ rem → D d (V d) w) → (∀ v w', S w' → Below w.heap.size w w' → D i v w' → K ((putAll ops rem V a1).put (dstOf ops i) v) w') → wpOp P ops (NoPanic Q) i K (putAll ops rem V a1) w) ∧
    (∀ (V : Nat → Value) (w : World), S w → (∀ j ∈ rem, D j (V j) w) → wpOrdS P ops (NoPanic Q) S ord (putAll ops rem V a1) w)

theorem wp_region_made {P : Program} {l : List Oper} {Q : Exit → Act → World → Prop} {id : Nat} {a : Act} {w : World} (S : World → Prop) (ks rem : List Nat) (ord : List (Bool × Nat))
    (hm : P.follows .mixedOrders = true) (hs : Region.noSelect l.toArray = true) (hF : firstsB l.toArray ks (Array.replicate l.length false) = true) (hks : ks.all (fun k => decide (k < l.length)) = true) (hv : ((picks l ks).all vKind2) = true)
    (hM : madeB l.toArray rem (mark (Array.replicate l.length false) ks) = true) (hB : ordB l.toArray ord (mark (mark (Array.replicate l.length false) ks) rem) = true) (hl : ks.length + (rem.length + ord.length) = l.length)
    (hS : S w.drew) (h : wpQuiet P l.toArray S (Made P l.toArray Q S rem ord) (picks l ks) a) : (Code.region id l.toArray true).wp P Q a w := by
  refine wp_region_noPanic (wp_region_held (S := S) hm ?_)
  have hM' := hM
  simp only [madeB, Bool.and_eq_true, decide_eq_true_eq] at hM'
  have key := wpAnyH_firsts (Q := NoPanic Q) (fuel := rem.length + ord.length) (w := w.drew) hs hS (fun c a a' w h => (h : False).elim) ks (picks l ks) _ a hF (picks_ok hks) hv h (fun a1 hK => ?_)
  · rw [hl] at key
    simpa using key
  · obtain ⟨D, mono, step, done⟩ := hK
    have hall : (rem.filter (fun r => !(mark (Array.replicate l.length false) ks).getD r true)) = rem := by
      rw [List.filter_eq_self]
      intro r hr
      have := List.all_eq_true.1 hM'.1.1.1.2 r hr
      simp only [Bool.and_eq_true] at this
      exact this.2
    have := made_aux (P := P) (Q := NoPanic Q) (S := S) (a1 := a1) (fuel := ord.length) hM mono (fun i hi V w hS hd => step i hi V w _ hS hd (fun v w' h1 h2 h3 => ⟨v, rfl, h1, h2, h3⟩)) (fun V w' hS' hD => wpAnyH_of_ord hs (fun c a a' w h => (h : False).elim) ord _ _ w' hB hS' (done V w' hS' hD))
      rem.length (mark (Array.replicate l.length false) ks) (fun i => match dstOf l.toArray i with | some d => a1.tmps.getD d undef | none => undef) w.drew (by rw [hall]) hM'.1.1.2 (fun _ _ => rfl) hS (fun j hj hlj => by
        have := List.all_eq_true.1 hM'.1.1.1.2 j hj
        simp only [Bool.and_eq_true, hlj] at this
        simp at this)
    rw [putAll_self] at this
    exact this

end Go.Proofs.Ytjiodlbblmbibac

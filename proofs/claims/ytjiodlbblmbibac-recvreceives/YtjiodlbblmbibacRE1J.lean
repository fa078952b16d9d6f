/- Texts that were built one behind the other, joined. -/
import Derived.Test.YtjiodlbblmbibacRV3
import Derived.Test.YtjiodlbblmbibacSW2J
import Derived.Test.YtjiodlbblmbibacRO
/- What is entered, in plain words; the two questions that recv.Enter asks of each line. -/
namespace Go.Proofs.Ytjiodlbblmbibac
open Go.RowKit Go.Shelf Go.Sort
set_option linter.unusedVariables false

def outL (p : Pl) (x : Hd) : Bool := !(inB x.o 0 ((p.ns : Int) - 1)) || !(inB x.l 1 200)
def begunL (x : Hd) : Bool := x.b != 0 || x.n != 0
/-- What Enter answers for an error: of a state and of lines. -/
def enterE (p : Pl) (s : St) (l : Hs) : Int :=
  if stateE p s = 0 then (if s.os.n = 4 ∨ ¬ (1 ≤ l.n ∧ l.n ≤ 3) then 2 else if anyB l.n (fun j => outL p (l.z j)) then 3 else if anyB l.n (fun j => begunL (l.z j)) then 1 else 0) else stateE p s
/-- And what comes, but for where it lies. -/
def enterT (s : St) (l : Hs) : St := ⟨s.on, ⟨s.os.a, s.os.n + 1, s.os.c, fun i => if i = s.os.n then ⟨0, l⟩ else s.os.z i⟩, s.hs, s.ms, s.si, s.so, s.sf⟩

theorem enterE_state {p : Pl} {s : St} {l : Hs} (h : ¬ stateE p s = 0) : enterE p s l = stateE p s := by unfold enterE; rw [if_neg h]
theorem enterE_many {p : Pl} {s : St} {l : Hs} (h : stateE p s = 0) (h1 : s.os.n = 4 ∨ ¬ (1 ≤ l.n ∧ l.n ≤ 3)) : enterE p s l = 2 := by unfold enterE; rw [if_pos h, if_pos h1]
theorem enterE_range {p : Pl} {s : St} {l : Hs} (h : stateE p s = 0) (h1 : ¬ (s.os.n = 4 ∨ ¬ (1 ≤ l.n ∧ l.n ≤ 3))) (h2 : anyB l.n (fun j => outL p (l.z j)) = true) : enterE p s l = 3 := by unfold enterE; rw [if_pos h, if_neg h1, if_pos h2]
theorem enterE_form {p : Pl} {s : St} {l : Hs} (h : stateE p s = 0) (h1 : ¬ (s.os.n = 4 ∨ ¬ (1 ≤ l.n ∧ l.n ≤ 3))) (h2 : ¬ anyB l.n (fun j => outL p (l.z j)) = true) (h3 : anyB l.n (fun j => begunL (l.z j)) = true) : enterE p s l = 1 := by unfold enterE; rw [if_pos h, if_neg h1, if_neg h2, if_pos h3]
theorem enterE_ok {p : Pl} {s : St} {l : Hs} (h : stateE p s = 0) (h1 : ¬ (s.os.n = 4 ∨ ¬ (1 ≤ l.n ∧ l.n ≤ 3))) (h2 : ¬ anyB l.n (fun j => outL p (l.z j)) = true) (h3 : ¬ anyB l.n (fun j => begunL (l.z j)) = true) : enterE p s l = 0 := by unfold enterE; rw [if_pos h, if_neg h1, if_neg h2, if_neg h3]

set_option maxHeartbeats 1000000 in
theorem Enter1_any (B : Nat) (p : Pl) (x : Hd) (w : World) (les : p.ns ≤ p.cs) (caps : p.cs ≤ maxLen) (hB : B < w.heap.size) (c1 : w.cell? ⟨B, 1, none⟩ = some (.slice p.sa p.ns p.cs)) :
    Calls Try.prog 61 #[x.val, .pointer (some ⟨B, 0, none⟩)] w fun e w' => e = .returned (.bool (outL p x)) ∧ Below w.heap.size w w' := by
  have hns : p.ns ≤ maxLen := Nat.le_trans les caps
  have hB0 : Below w.heap.size w (w.alloc (.cells #[.int .i64 x.o, .int .i64 x.l, .int .i64 x.b, .int .i64 x.n] 53)) := (Below.refl w.heap.size w).alloc (Nat.le_refl _) _
  have c1e := (hB0.cell (p := ⟨B, 1, none⟩) hB).trans c1
  have hBe : B < (w.alloc (.cells #[.int .i64 x.o, .int .i64 x.l, .int .i64 x.b, .int .i64 x.n] 53)).heap.size := by have := hB0.size; omega
  unfold outL Hd.val
  clear c1
  unfold maxLen at caps
  cases h1 : inB x.o 0 ((p.ns : Int) - 1)
  all_goals
    go_enter Try.func61, Try.ntmps61
    go_wp2_with (first | (go_at_call 30; refine calls_to (Has_any _ _ _ hns) ?_) | (go_at_call 55; refine calls_to (Within_any _ _ _ _) ?_))
    go_ret
    exact ⟨by simp, hB0⟩

set_option maxHeartbeats 1000000 in
theorem Enter2_any (x : Hd) (w : World) :
    Calls Try.prog 62 #[x.val] w fun e w' => e = .returned (.bool (begunL x)) ∧ Below w.heap.size w w' := by
  have hB0 : Below w.heap.size w (w.alloc (.cells #[.int .i64 x.o, .int .i64 x.l, .int .i64 x.b, .int .i64 x.n] 53)) := (Below.refl w.heap.size w).alloc (Nat.le_refl _) _
  unfold begunL Hd.val
  cases h1 : (x.b != 0)
  all_goals
    go_enter Try.func62, Try.ntmps62
    go_wp2_with fail
    go_ret
    exact ⟨by simp, hB0⟩

end Go.Proofs.Ytjiodlbblmbibac
/- Appending to a list of the call's own, whether it has room or none. -/
namespace Go.Proofs.Ytjiodlbblmbibac
open Go.RowKit Go.Shelf
set_option linter.unusedVariables false

/-- The world grew, and of what was there at most one block of the type e changed, new since A. -/
def Grew (A : Nat) (e : TypeId) (w w' : World) : Prop := ∃ row, w.grownBy w' row ∧ ∀ k, row = some k → A ≤ k ∧ ∃ cur, w.heap[k]? = some (.cells cur e (0, 0))
theorem Grew.blk {A : Nat} {e : TypeId} {w w' : World} (h : Grew A e w w') {q : Nat} {t : TypeId} {m : Nat} {f : Nat → Value} (hb : Blk w q t m f) (hne : t ≠ e) : Blk w' q t m f := by
  obtain ⟨row, hg, hr⟩ := h
  refine hb.grown hg fun hq => ?_
  obtain ⟨_, c2, hc2⟩ := hr q hq.symm
  obtain ⟨c3, hc3, _⟩ := hb
  rw [hc3] at hc2
  cases hc2
  exact hne rfl
theorem Grew.low {A : Nat} {e : TypeId} {w w' : World} (h : Grew A e w w') {q : Nat} {t : TypeId} {m : Nat} {f : Nat → Value} (hb : Blk w q t m f) (hq : q < A) : Blk w' q t m f := by
  obtain ⟨row, hg, hr⟩ := h
  exact hb.grown hg fun hq' => by have := (hr q hq'.symm).1; omega
theorem Grew.below {A A' : Nat} {e : TypeId} {w0 w w' : World} (h : Grew A e w w') (hB : Below A' w0 w) (hA : A' ≤ A) (hs : A' ≤ w.heap.size) : Below A' w0 w' := by
  obtain ⟨row, hg, hr⟩ := h
  exact hB.grown hg hs fun k hk => by have := (hr k hk).1; omega
theorem Room.grew {A B : Nat} {t : TypeId} {w w2 : World} {sz c : Nat} {a : Option Addr} {e : TypeId} (h : Room A w t sz a c) (hg : Grew B e w w2) (hne : t ≠ e) : Room A w2 t sz a c := by
  obtain ⟨row, hg, hr⟩ := hg
  refine h.same fun g cur hgc => hg.block g (Array.getElem?_eq_some_iff.1 hgc).1 fun hq => ?_
  obtain ⟨_, c2, hc2⟩ := hr g hq.symm
  rw [hgc] at hc2
  cases hc2
  exact hne rfl
theorem OwnI.grew {A B : Nat} {w w2 : World} {r : Rw} {e : TypeId} (h : OwnI A w r) (hg : Grew B e w w2) (hne : 3 ≠ e) : OwnI A w2 r := by
  obtain ⟨g, ha, h0, h1, h2, hb⟩ := h
  exact ⟨g, ha, h0, h1, h2, hg.blk hb hne⟩
theorem OwnH.grew {A B : Nat} {t : TypeId} {w w2 : World} {s : Hs} {e : TypeId} (h : OwnH A t w s) (hg : Grew B e w w2) (hne : t ≠ e) : OwnH A t w2 s := by
  obtain ⟨h1, h2, h3, h4⟩ := h
  refine ⟨h1, h2, h3, fun hn => ?_⟩
  obtain ⟨g, ha, hA, hb⟩ := h4 hn
  exact ⟨g, ha, hA, hg.blk hb hne⟩
theorem owns_mono {A A' : Nat} {w : World} {e : TypeId} {size : Nat} {v : Value} {n : Nat} {xs : List Value} (h : w.ownsRow A e size v n xs) (hA : A' ≤ A) : w.ownsRow A' e size v n xs :=
  ⟨h.1, h.2.imp_right fun ⟨g, cap, cur, h1, h2, h3⟩ => ⟨g, cap, cur, h1, Nat.le_trans hA h2, h3⟩⟩

/-- A list of the call's own, its room too, is owned as the library says it. -/
theorem owns_of {A : Nat} {w : World} {e : TypeId} {size g c n : Nat} {cur : Array Value} {xs : List Value} (hA : A ≤ g) (hg : w.heap[g]? = some (.cells cur e (0, 0))) (hsz : cur.size = c * size) (hle : n ≤ c) (hcap : c ≤ maxLen) (hl : xs.length = n * size)
    (hb : 0 < n → Blk w g e (n * size) (fun j => xs.getD j default)) : w.ownsRow A e size (.slice (some ⟨g, 0, none⟩) n c) n xs := by
  refine ⟨hl, Or.inr ⟨g, c, cur, rfl, hA, hg, hle, hcap, hsz, ?_⟩⟩
  apply List.ext_getElem?
  intro j
  rw [List.getElem?_take]
  by_cases hj : j < n * size
  · rw [if_pos hj]
    have hn : 0 < n := by
      rcases Nat.eq_zero_or_pos n with h | h
      · subst h; simp at hj
      · exact h
    obtain ⟨cur', hc, _, hf⟩ := hb hn
    rw [hg] at hc
    cases hc
    have h1 := hf j hj
    have h2 : j < xs.length := by omega
    rw [List.getElem?_eq_getElem h2]
    simp only [List.getD, List.getElem?_eq_getElem h2, Option.getD_some] at h1
    simpa using h1
  · rw [if_neg hj, List.getElem?_eq_none (by omega)]

theorem wpList_append_room {P : Program} (w : World) {ops : Array Oper} {rest : List Oper} {o : Oper} {a : Act} {Q : Exit → Act → World → Prop}
    (hg : o.guard = none) (s x : Operand) (t : TypeId) (hop : o.op = Op.call { callee := Callee.builtin Builtin.append, args := #[s, x], argTypes := #[t, t] })
    (A : Nat) (e : TypeId) (i : TypeInfo) (z : Value) (size bytes : Nat) (h1 : P.underlying t = some (.slice e)) (h2 : P.info? e = some i) (h3 : i.zero = some z) (h4 : i.size = size) (h5 : i.bytes = bytes) (h6 : z.cells.size = size) (h7 : 0 < size)
    (ao : Option Addr) (n c : Nat) (xs : List Value) (hs : a.eval s = .slice ao n c) (hroom : Room A w e size ao c) (hle : n ≤ c) (hcap : c ≤ maxLen) (hlo : xs.length = n * size) (hblk : 0 < n → ∃ g, ao = some ⟨g, 0, none⟩ ∧ A ≤ g ∧ Blk w g e (n * size) (fun j => xs.getD j default))
    (ad : Addr) (m c' : Nat) (news : List Value) (hx : a.eval x = .slice (some ad) m c') (hn : news.length = m * size) (hc : ∀ j u, news[j]? = some u → w.cell? (ad.add j) = some u) (h1c : ∀ u ∈ news, u.oneCell' = true)
    (hm : 0 < m) (b1 : n + m ≤ maxLen) (b2 : (n + m) * bytes ≤ 140737488355328) (hA : A ≤ w.heap.size)
    (hK : ∀ v' w', w'.ownsRow A e size v' (n + m) (xs ++ news) → Grew A e w w' → wpList P ops Q rest (a.put o.dst v') w') :
    wpList P ops Q (o :: rest) a w := by
  rcases hroom with h0 | ⟨g, cur, ha, hA', hgc, hsz⟩
  · subst h0
    have hn0 : n = 0 := by omega
    subst hn0
    obtain rfl : xs = [] := List.eq_nil_of_length_eq_zero (by simpa using hlo)
    refine wpList_append_grows w hg s x t hop e i z size bytes h1 h2 h3 h4 h5 h6 h7 ao 0 0 [] hs (fun _ => ⟨rfl, rfl⟩) (by simp) (fun b _ j u hj => by simp at hj) ad m c' news hx hn hc h1c (by omega) b1 b2 fun v' w' r1 r2 => ?_
    exact hK v' w' (owns_mono r1 hA) ⟨none, r2, fun k hk => by cases hk⟩
  · subst ha
    have hown := owns_of (w := w) (e := e) hA' hgc hsz hle hcap hlo (fun h => by
      obtain ⟨g', e1, _, hb⟩ := hblk h
      simp only [Option.some.injEq, Addr.mk.injEq, and_true] at e1
      subst e1
      exact hb)
    refine wpList_append_own w hg s x t hop A e i z size bytes h1 h2 h3 h4 h5 h6 h7 _ n xs hs hown ad m c' news hx hn hc h1c b1 b2 hA fun v' w' r1 r2 _ => ?_
    refine hK v' w' r1 ⟨_, r2, fun k hk => ?_⟩
    simp only [Value.ownBlock, Option.some.injEq] at hk
    subst hk
    exact ⟨hA', cur, hgc⟩

/-- One more order. -/
def moreO (s : Os) (x : Od) (i : Nat) : Od := if i = s.n then x else s.z i
theorem flatO_more (s : Os) (x : Od) : flatO s.n s.z ++ odCells x = flatO (s.n + 1) (moreO s x) := by
  rw [flatO, flatO_congr (z' := moreO s x) fun i hi => by unfold moreO; rw [if_neg (by omega)]]
  congr 1
  unfold moreO
  rw [if_pos rfl]
theorem OwnO.more {A : Nat} {w w' : World} {s : Os} {x : Od} {v : Value} (h : OwnO A w s) (ho : w'.ownsRow A 51 2 v (s.n + 1) (flatO s.n s.z ++ odCells x)) (hg : Grew A 51 w w')
    {B : Nat} (ha : x.ls.a = some ⟨B, 0, none⟩) (hB : A ≤ B) (hl : x.ls.n ≤ x.ls.c) (hc : x.ls.c ≤ maxLen) (hk : Blk w B 53 (x.ls.n * 4) (fun j => (flatH x.ls.n x.ls.z).getD j default)) (hap : ∀ i, i < s.n → (s.z i).ls.a ≠ x.ls.a) :
    ∃ va vc, v = .slice va (s.n + 1) vc ∧ OwnO A w' ⟨va, s.n + 1, vc, moreO s x⟩ := by
  have hv : v ≠ .slice none 0 0 := by
    rintro rfl
    rcases ho.2 with ⟨_, h0⟩ | ⟨g2, cap2, cur2, h, _⟩
    · omega
    · cases h
  have ho' := ho
  rw [flatO_more] at ho'
  obtain ⟨g, c, rfl, h1, h2, h3, h4⟩ := Blk.ofOwns ho' hv
  refine ⟨some ⟨g, 0, none⟩, c, rfl, h1, h2, fun _ => ⟨g, rfl, h3, h4⟩, fun i hi => ?_, fun i j hij hj => ?_, Room.ofOwns ho (Nat.le_refl _)⟩
  · show ∃ B, (moreO s x i).ls.a = _ ∧ A ≤ B ∧ (moreO s x i).ls.n ≤ (moreO s x i).ls.c ∧ (moreO s x i).ls.c ≤ maxLen ∧ Blk w' B 53 ((moreO s x i).ls.n * 4) (fun j => (flatH (moreO s x i).ls.n (moreO s x i).ls.z).getD j default)
    have hi' : i < s.n + 1 := hi
    unfold moreO
    by_cases hin : i = s.n
    · rw [if_pos hin]
      exact ⟨B, ha, hB, hl, hc, hg.blk hk (by decide)⟩
    · rw [if_neg hin]
      obtain ⟨B', a1, a2, a3, a4, a5⟩ := h.lines i (by omega)
      exact ⟨B', a1, a2, a3, a4, hg.blk a5 (by decide)⟩
  · have hj' : j < s.n + 1 := hj
    show (moreO s x i).ls.a ≠ (moreO s x j).ls.a
    unfold moreO
    rw [if_neg (by omega)]
    by_cases hjn : j = s.n
    · rw [if_pos hjn]
      exact hap i (by omega)
    · rw [if_neg hjn]
      exact h.apart i j hij (by omega)

end Go.Proofs.Ytjiodlbblmbibac

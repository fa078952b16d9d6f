/- Texts that were built one behind the other, joined; what CountTrue does not reach is left out. -/
import Derived.Test.YtbcacebifpagpaeK3CountTrue
import Derived.KernelRfl
import Derived.Test.YtbcacebifpagpaeRows
import Derived.ProofKit
import Derived.OpenShut
import Derived.Lib.SmallJoins
import Derived.Deep.Slices
namespace Go.Proofs.Ytbcacebifpagpae
open Go.RowKit Go.Shelf Go.Sort
set_option linter.unusedVariables false
theorem Take1_any (B : Nat) (x but : Int) (w : World) (hB : B < w.heap.size) (c : w.cell? ⟨B, 0, none⟩ = some (.int .i64 but)) :
    Calls Try.prog 72 #[.int .i64 x, .pointer (some ⟨B, 0, none⟩)] w fun e w' => e = .returned (.bool (x == but)) ∧ Below w.heap.size w w' := by
  go_enter Try.func72, Try.ntmps72
  go_wp2_with fail
  go_ret
  exact ⟨rfl, Below.refl _ _⟩
def TakeInv (s : St) (o l : Nat) (n : Int) (av : Int → Int) (F : List Int) (A BX BL g k : Nat) (wk : World) : Prop :=
  ∃ x : St, Took s o l n (Tk.go av n (F.take k)) x ∧ OwnS A wk x ∧ Blk wk BX 31 7 (fun j => x.cells.getD j default) ∧ Blk wk g 3 F.length (fun j => .int .i64 (F.getD j 0)) ∧ (x.os.z o).ls.a = some ⟨BL, 0, none⟩
theorem take_more {F : List Int} {k : Nat} (hk : k < F.length) : F.take (k + 1) = F.take k ++ [F.getD k 0] := by
  rw [List.take_add_one]
  simp [List.getD, List.getElem?_eq_getElem hk]
theorem getD_mem {F : List Int} {k : Nat} (hk : k < F.length) : F.getD k 0 ∈ F := by
  simp [List.getD, List.getElem?_eq_getElem hk]
theorem avail_okA {p : Pl} {s : St} {b g : Nat} (h : stateE p s = 0) (hb : b < p.nb) (hg : g < p.ns) : availE p s b g = 0 ∧ availV p s b g = availZ s b g := by
  have e : availE p s b g = 0 := by unfold availE; rw [if_pos h, inB_mk (by omega), inB_mk (by omega)]; rfl
  exact ⟨e, by unfold availV; rw [if_pos e]; rfl⟩
theorem avail_bdA {p : Pl} {s : St} {b g : Nat} (r : RightT p s) (hb : b < p.nb) (hg : g < p.ns) : 0 ≤ availZ s b g ∧ availZ s b g ≤ 200 := by
  have f := r.fm
  refine ⟨(goods_no (r.goods g hg)).2 b hb, ?_⟩
  have h1 := f.sh.num b (by rw [f.sh.n]; exact hb) g hg
  have h2 := (heldTo_bd (s := s) (b := b) (g := g) f.holdN).1
  have h3 := (fromTo_bd (s := s) (b := b) (g := g) f.moveN).1
  unfold availZ
  omega
set_option maxRecDepth 100000 in
set_option maxHeartbeats 8000000 in
theorem Take_any (p : Pl) (s : St) (order line n but : Int) (w : World) (hp : p.At w) (hs : s.At w) :
    Calls Try.prog 27 #[p.val, s.val, .int .i64 order, .int .i64 line, .int .i64 n, .int .i64 but] w fun e w' => ∃ x : St, e = .returned (.tuple #[x.val, .int .i64 (allocL p s order line n but), .int .i64 (allocE p s order line n but)]) ∧ x.At w' ∧ AllocOK p s order line n but x ∧ (allocE p s order line n but = 0 → OwnS w.heap.size w' x) ∧ Below w.heap.size w w' := by
  obtain ⟨W0, hW, hWB, X0, K0, Z0⟩ : ∃ W, ((((w.alloc (.cells #[.slice p.ab p.nb p.cb, .slice p.sa p.ns p.cs] 25)).alloc (.cells s.cells 31)).alloc (.cells #[.int .i64 but] 3)).alloc (.cells #[.slice .none 0 0, .slice .none 0 0, .slice .none 0 0, .slice .none 0 0, .slice .none 0 0, .slice .none 0 0, .slice .none 0 0] 31)) = W ∧ Below w.heap.size w W ∧ Boxes W w.heap.size (w.heap.size + 1) p s ∧ Blk W (w.heap.size + 2) 3 1 (fun _ => .int .i64 but) ∧ Blk W (w.heap.size + 3) 31 7 (fun _ => .slice .none 0 0) :=
    ⟨_, rfl, ((two_below _ _ _).alloc (by simp; omega) _).alloc (by simp; omega) _, ((boxes_new w p s _ _).below ((Below.refl _ _).alloc (Nat.le_refl _) _)).below ((Below.refl _ _).alloc (Nat.le_refl _) _), ((Blk.mk' (cur := #[.int .i64 but]) (by simp) rfl).congr (fun j hj => by match j, hj with | 0, _ => rfl)).alloc _, (Blk.mk' (cur := #[.slice .none 0 0, .slice .none 0 0, .slice .none 0 0, .slice .none 0 0, .slice .none 0 0, .slice .none 0 0, .slice .none 0 0]) (by simp) rfl).congr (fun j hj => by match j, hj with | 0, _ => rfl | 1, _ => rfl | 2, _ => rfl | 3, _ => rfl | 4, _ => rfl | 5, _ => rfl | 6, _ => rfl)⟩
  have HC : Hid (∀ wk, Below W0.heap.size W0 wk → Boxes wk w.heap.size (w.heap.size + 1) p s ∧ p.At wk ∧ s.At wk ∧ Below w.heap.size w wk ∧ Blk wk (w.heap.size + 3) 31 7 (fun _ => .slice .none 0 0) ∧ Blk wk (w.heap.size + 2) 3 1 (fun _ => .int .i64 but)) := fun wk h => ⟨X0.below h, (hp.below hWB).below h, (hs.below hWB).below h, hWB.trans (h.mono hWB.size), Z0.below h, K0.below h⟩
  have HW : Hid ((((w.alloc (.cells #[.slice p.ab p.nb p.cb, .slice p.sa p.ns p.cs] 25)).alloc (.cells #[.slice s.on.a s.on.n s.on.c, .slice s.os.a s.os.n s.os.c, .slice s.hs.a s.hs.n s.hs.c, .slice s.ms.a s.ms.n s.ms.c, .slice s.si.a s.si.n s.si.c, .slice s.so.a s.so.n s.so.c, .slice s.sf.a s.sf.n s.sf.c] 31)).alloc (.cells #[.int .i64 but] 3)).alloc (.cells #[.slice .none 0 0, .slice .none 0 0, .slice .none 0 0, .slice .none 0 0, .slice .none 0 0, .slice .none 0 0, .slice .none 0 0] 31) = W0) := hW
  have leb := hp.leb
  have capb0 := hp.capb
  have capb := capb0
  have les := hp.les
  have caps := hp.caps
  have zlt0 := Z0.lt
  unfold maxLen at capb caps
  clear hW X0 Z0 K0 hp hs
  unfold Pl.val St.val
  go_enter Try.func27, Try.ntmps27
  go_wp2_with fail
  rw [HW.out]
  obtain ⟨X, hpk, hsk, hBw, hz, kb⟩ := HC.out W0 (Below.refl _ _)
  refine (allocCheck_any p s order line n but W0 hpk hsk).mono ?_
  rintro e w1 ⟨rfl, hB⟩
  clear X hpk hsk hBw hz kb HW
  obtain ⟨⟨⟨l1, d0, d1⟩, l2, c0, c1, c2, c3, c4, c5, c6⟩, hpk, hsk, hBw, hz, kb⟩ := HC.out w1 hB
  by_cases hE : allocE p s order line n but = 0
  · have HE : Hid (allocE p s order line n but = 0) := hE
    have HI : Hid (AllocIn p s order line n but) := allocIn hE
    rw [hE]
    clear hE
    have HRT : Hid (RightT p s) := rightT HI.out.st
    have HP0 : Hid (planE p = 0) := (rightS HRT.out.fm.sh0).1
    obtain ⟨o, rfl⟩ := Int.eq_ofNat_of_zero_le HI.out.o0
    obtain ⟨l, rfl⟩ := Int.eq_ofNat_of_zero_le HI.out.l0
    have ho : o < s.os.n := HI.out.on
    have hl : l < (s.os.z o).ls.n := HI.out.ln
    have nb1 := HRT.out.fm.sh.pl.nb1
    have nb6 := HRT.out.fm.sh.pl.nb6
    have HPK : Hid (p.At w1) := hpk
    clear hpk hsk c0 c1 c2 c3 c4 c5 c6 hBw hz
    go_wp2_with fail
    refine (WayOwn_any p w1 HPK.out).mono ?_
    rintro e w2 ⟨v, rfl, hown, hB2⟩
    clear l1 d0 d1 l2 HPK
    rw [wayR_yes HP0.out] at hown
    have HWL : Hid ((wayL p).length = p.nb) := way_len p
    have hv : v ≠ .slice none 0 0 := by
      rintro rfl
      rcases hown.2 with ⟨_, h0⟩ | ⟨g2, cap2, cur2, h, _⟩
      · have := HWL.out; omega
      · cases h
    obtain ⟨g, c, rfl, hc1, hc2, hg, hk⟩ := Blk.ofOwns hown hv
    have hk2 : Blk w2 g 3 (wayL p).length (fun j => .int .i64 ((wayL p).getD j 0)) := by
      have h := hk.less (m := (wayL p).length) (by omega)
      refine h.congr fun j hj => ?_
      simp [List.getD, List.getElem?_eq_getElem hj]
    have HDF : Hid (Calls Try.prog 71 #[.slice (some ⟨g, 0, none⟩) (wayL p).length c, .func (.func 72) #[] #[.pointer (some ⟨w.heap.size + 1 + 1, 0, none⟩)]] w2 fun e w' => e = .returned (.slice (some ⟨g, 0, none⟩) (wayT p but).length c) ∧ Blk w' g 3 (wayT p but).length (fun j => .int .i64 ((wayT p but).getD j 0)) ∧ Below w1.heap.size w2 w') :=
      DelI_any 72 #[.pointer (some ⟨w.heap.size + 1 + 1, 0, none⟩)] (fun x => x == but) w1.heap.size g c (wayL p) w2 hg hB2.size hc1 hc2 hk2 (enters_of Try.func72 (by kernel_rfl) rfl) (fun x wz hz => by
        have hlt := kb.lt
        exact Take1_any (w.heap.size + 1 + 1) x but wz (Nat.lt_of_lt_of_le hlt (Nat.le_trans hB2.size hz.size)) ((hz.cell (p := ⟨w.heap.size + 2, 0, none⟩) hlt).trans ((hB2.cell (p := ⟨w.heap.size + 2, 0, none⟩) hlt).trans (kb.cell (j := 0) (by decide)))))
    rw [HP0.out]
    clear hown hv hk hk2
    go_wp2_with fail
    refine HDF.out.mono ?_
    rintro e w3 ⟨rfl, hk3, hB3⟩
    have hB13 := hB2.trans hB3
    have hB' := hB.trans (hB13.mono hB.size)
    have q13 := hB13.size
    have glt := hk3.lt
    have HK3 : Hid (Blk w3 g 3 (wayT p but).length (fun j => .int .i64 ((wayT p but).getD j 0))) := hk3
    have hF6 : (wayT p but).length ≤ 6 := by
      have := HWL.out
      have := List.length_filter_le (fun b => !(b == but)) (wayL p)
      unfold wayT
      omega
    have hFc : (wayT p but).length ≤ c := by
      have := List.length_filter_le (fun b => !(b == but)) (wayL p)
      unfold wayT
      omega
    clear HDF hk3 kb hB2 hB3 hB13 hB
    obtain ⟨⟨⟨l1, d0, d1⟩, l2, c0, c1, c2, c3, c4, c5, c6⟩, hpk, hsk, hBw, hz, kb⟩ := HC.out w3 hB'
    have HCS : Hid _ := copyState_any p s w3 hsk HRT.out.fm
    clear hpk hsk hBw hz kb
    go_wp2_with fail
    refine Calls.mono HCS.out ?_
    rintro e w4 ⟨x0, rfl, hsame, hown, hB4⟩
    clear HCS l1 d0 d1 l2 c0 c1 c2 c3 c4 c5 c6
    have q4 := hB4.size
    obtain ⟨W5, hW5, hWB5, K5⟩ : ∃ W, w4.alloc (.cells #[.slice x0.on.a x0.on.n x0.on.c, .slice x0.os.a x0.os.n x0.os.c, .slice x0.hs.a x0.hs.n x0.hs.c, .slice x0.ms.a x0.ms.n x0.ms.c, .slice x0.si.a x0.si.n x0.si.c, .slice x0.so.a x0.so.n x0.so.c, .slice x0.sf.a x0.sf.n x0.sf.c] 31) = W ∧ Below w4.heap.size w4 W ∧ Blk W w4.heap.size 31 7 (fun j => x0.cells.getD j default) := ⟨_, rfl, (Below.refl _ _).alloc (Nat.le_refl _) _, Blk.mk' rfl rfl⟩
    have HW5 : Hid (w4.alloc (.cells #[.slice x0.on.a x0.on.n x0.on.c, .slice x0.os.a x0.os.n x0.os.c, .slice x0.hs.a x0.hs.n x0.hs.c, .slice x0.ms.a x0.ms.n x0.ms.c, .slice x0.si.a x0.si.n x0.si.c, .slice x0.so.a x0.so.n x0.so.c, .slice x0.sf.a x0.sf.n x0.sf.c] 31) = W5) := hW5
    have hB35 := hB4.trans (hWB5.mono hB4.size)
    have hB5 := hB'.trans (hB35.mono hB'.size)
    have hown5 := OwnS.below hown hWB5
    have hkF := HK3.out.below hB35
    have ho0 : o < x0.os.n := by rw [hsame.os.1]; exact ho
    have e0 := hsame.os.2 o ho0
    have hl0 : l < (x0.os.z o).ls.n := by rw [e0.2.1]; exact hl
    obtain ⟨gO, BL, f1, f2, f3, f4, f5, f6, f7, f8, f9, f10, f11, f12, f13, f14⟩ := hown5.lineCell ho0 hl0
    have s1 : W5.cell? ⟨w4.heap.size, 1, none⟩ = some (.slice x0.os.a x0.os.n x0.os.c) := K5.cell (j := 1) (by decide)
    have s2 := K5.lt
    have v1 := hown5.os.le
    have v2 := hown5.os.cap
    rw [f1] at s1
    have HINV : Hid (TakeInv s o l n (fun b => availZ s b.toNat (lineAt s o l).o.toNat) (wayT p but) w3.heap.size w4.heap.size BL g 0 W5) := ⟨x0, by rw [List.take_zero]; exact Took.start HRT.out.fm.hold hsame, hown5, K5, hkF, f5⟩
    have qo : (0 : Int) ≤ (o : Int) := by omega
    have ql : (0 : Int) ≤ (l : Int) := by omega
    have HB5 : Hid (Below W0.heap.size W0 W5 ∧ W0.heap.size ≤ w3.heap.size ∧ w3.heap.size ≤ w4.heap.size ∧ g < w3.heap.size ∧ w3.heap.size ≤ BL) := ⟨hB5, hB'.size, q4, glt, f6⟩
    rw [← HW5.out] at s1 s2 f3 f4 f7
    unfold maxLen at v2 f9
    clear hW5 hown hown5 hkF K5 hB4 hWB5 hB35 hB5 f1 f2 f5 f6 f10 f11 f12 f13 f14 e0 hsame HK3
    simp only [St.val]
    go_wp2_with fail
    rw [HW5.out]
    clear s1 s2 f3 f4 f7 HW5 hB' q4 q13 glt v1 v2 f8 f9
    generalize x0.os.n = XN at *
    go_loopw [4, 56] (fun nv kv wk => ∃ k : Nat, k ≤ (wayT p but).length ∧ kv = .int .i64 k ∧ nv = .int .i64 (Tk.go (fun b => availZ s b.toNat (lineAt s o l).o.toNat) n ((wayT p but).take k)).left ∧ Hid (TakeInv s o l n (fun b => availZ s b.toNat (lineAt s o l).o.toNat) (wayT p but) w3.heap.size w4.heap.size BL g k wk) ∧ Hid (Below W0.heap.size W0 wk)) (fun _ kv _ => (wayT p but).length - (intOf kv).toNat)
    case atStart => exact ⟨0, Nat.zero_le _, rfl, rfl, HINV, HB5.out.1⟩
    case round =>
      clear HINV
      obtain ⟨k, hk, rfl, rfl, HV, HBk⟩ := hrel
      have HTK : Hid (TkOK (fun b => availZ s b.toNat (lineAt s o l).o.toNat) n ((wayT p but).take k) (Tk.go (fun b => availZ s b.toNat (lineAt s o l).o.toNat) n ((wayT p but).take k))) := HI.out.tk ((wayT_apart p but).sublist (List.take_sublist _ _)) (fun x hx => HI.out.way x (List.mem_of_mem_take hx))
      have H31EP : Hid (k < (wayT p but).length → Tk.go (fun b => availZ s b.toNat (lineAt s o l).o.toNat) n ((wayT p but).take (k + 1)) = (Tk.go (fun b => availZ s b.toNat (lineAt s o l).o.toNat) n ((wayT p but).take k)).step (fun b => availZ s b.toNat (lineAt s o l).o.toNat) ((wayT p but).getD k 0)) := fun h => by rw [take_more h, Tk.go_more]
      have HEND : Hid (k = (wayT p but).length → Tk.go (fun b => availZ s b.toNat (lineAt s o l).o.toNat) n ((wayT p but).take k) = tkOf p s (lineAt s o l).o n but) := fun h => by rw [h, List.take_length]; rfl
      obtain ⟨x, hT, hO, hK, hF, hla⟩ := HV.out
      have HX : Hid (Took s o l n (Tk.go (fun b => availZ s b.toNat (lineAt s o l).o.toNat) n ((wayT p but).take k)) x ∧ OwnS w3.heap.size wr x ∧ Blk wr w4.heap.size 31 7 (fun j => x.cells.getD j default) ∧ Blk wr g 3 (wayT p but).length (fun j => .int .i64 ((wayT p but).getD j 0)) ∧ (x.os.z o).ls.a = some ⟨BL, 0, none⟩) := ⟨hT, hO, hK, hF, hla⟩
      obtain ⟨T, hTd⟩ : ∃ T, Tk.go (fun b => availZ s b.toNat (lineAt s o l).o.toNat) n ((wayT p but).take k) = T := ⟨_, rfl⟩
      rw [hTd] at HTK H31EP HEND HX ⊢
      clear hT hO hK hF hla HV hTd
      have tl0 := HTK.out.left0
      have tln := HTK.out.leftn
      have nn2 := HI.out.n2
      by_cases hlt : k < (wayT p but).length
      · have HS1 : Hid _ := H31EP.out hlt
        obtain ⟨hbm0, hbm1⟩ := HI.out.way _ (getD_mem hlt)
        have z0 := HX.out.2.2.2.1.cell (j := k) hlt
        have z1 := HX.out.2.2.2.1.lt
        obtain ⟨bv, hbv⟩ := Int.eq_ofNat_of_zero_le hbm0
        have HBV : Hid ((wayT p but).getD k 0 = (bv : Int)) := hbv
        rw [hbv] at z0 hbm1
        have hbvn : bv < p.nb := by omega
        have hgd := HI.out.good
        obtain ⟨gd, hgv⟩ := Int.eq_ofNat_of_zero_le hgd.1
        have HGV : Hid ((lineAt s o l).o = (gd : Int)) := hgv
        have hgdn : gd < p.ns := by omega
        have HAVL : Hid (∀ w', p.At w' → s.At w' → Calls Try.prog 12 #[p.val, s.val, .int .i64 (bv : Int), .int .i64 (gd : Int)] w' fun e w'' => e = .returned (.tuple #[.int .i64 (availZ s bv gd), .int .i64 0]) ∧ Below w'.heap.size w' w'') := fun w' h1 h2 => by
          have h := Avail_any p s bv gd w' h1 h2
          rw [(avail_okA HI.out.st hbvn hgdn).1, (avail_okA HI.out.st hbvn hgdn).2] at h
          exact h
        have avb := avail_bdA HRT.out hbvn hgdn
        have HAV : Hid ((fun b : Int => availZ s b.toNat (lineAt s o l).o.toNat) ((wayT p but).getD k 0) = availZ s bv gd) := by
          show availZ s ((wayT p but).getD k 0).toNat (lineAt s o l).o.toNat = _
          rw [hbv, hgv]
          rfl
        generalize hAVd : availZ s bv gd = AV at *
        clear hAVd
        have ho1 : o < x.os.n := by rw [HX.out.1.os.1]; exact ho
        have ex := HX.out.1.os.2 o ho1
        have hl1 : l < (x.os.z o).ls.n := by rw [ex.2.1]; exact hl
        obtain ⟨gO, BL', f1, f2, f3, f4, f5, f6, f7, f8, f9, f10, f11, f12, f13, f14⟩ := HX.out.2.1.lineCell ho1 hl1
        rw [HX.out.2.2.2.2] at f5
        simp only [Option.some.injEq, Addr.mk.injEq, and_true] at f5
        subst f5
        have hgx : ((x.os.z o).ls.z l).o = (gd : Int) := by
          rw [ex.2.2 l hl1, if_pos ⟨rfl, rfl⟩]
          exact hgv
        have hbx : ((x.os.z o).ls.z l).n = (lineAt s o l).n - (n - T.left) := by
          rw [ex.2.2 l hl1, if_pos ⟨rfl, rfl⟩]
          rfl
        have HBX : Hid (((x.os.z o).ls.z l).n = (lineAt s o l).n - (n - T.left)) := hbx
        have hbl := badLine_no (HRT.out.fm.line o ho l hl)
        have hbk0 : -1000 ≤ ((x.os.z o).ls.z l).n ∧ ((x.os.z o).ls.z l).n ≤ 1000 := by
          rw [hbx]
          have h1 : (lineAt s o l).n = ((s.os.z o).ls.z l).n := rfl
          rw [h1]
          omega
        rw [hgx] at f11
        obtain ⟨⟨⟨l1, d0, d1⟩, l2, c0, c1, c2, c3, c4, c5, c6⟩, hpk, hsk, hBw, hz, kb⟩ := HC.out wr HBk.out
        have HPS : Hid (p.At wr ∧ s.At wr) := ⟨hpk, hsk⟩
        have r0 : ∀ d os, (grow (redrawn wr d) os).cell? ⟨w.heap.size, 0, none⟩ = some (.slice p.ab p.nb p.cb) := fun d os => cell_regrown d0 d os
        have r1 : ∀ d os, (grow (redrawn wr d) os).cell? ⟨w.heap.size, 1, none⟩ = some (.slice p.sa p.ns p.cs) := fun d os => cell_regrown d1 d os
        have rs0 : ∀ d os, (grow (redrawn wr d) os).cell? ⟨w.heap.size + 1, 0, none⟩ = some (.slice s.on.a s.on.n s.on.c) := fun d os => cell_regrown c0 d os
        have rs1 : ∀ d os, (grow (redrawn wr d) os).cell? ⟨w.heap.size + 1, 1, none⟩ = some (.slice s.os.a s.os.n s.os.c) := fun d os => cell_regrown c1 d os
        have rs2 : ∀ d os, (grow (redrawn wr d) os).cell? ⟨w.heap.size + 1, 2, none⟩ = some (.slice s.hs.a s.hs.n s.hs.c) := fun d os => cell_regrown c2 d os
        have rs3 : ∀ d os, (grow (redrawn wr d) os).cell? ⟨w.heap.size + 1, 3, none⟩ = some (.slice s.ms.a s.ms.n s.ms.c) := fun d os => cell_regrown c3 d os
        have rs4 : ∀ d os, (grow (redrawn wr d) os).cell? ⟨w.heap.size + 1, 4, none⟩ = some (.slice s.si.a s.si.n s.si.c) := fun d os => cell_regrown c4 d os
        have rs5 : ∀ d os, (grow (redrawn wr d) os).cell? ⟨w.heap.size + 1, 5, none⟩ = some (.slice s.so.a s.so.n s.so.c) := fun d os => cell_regrown c5 d os
        have rs6 : ∀ d os, (grow (redrawn wr d) os).cell? ⟨w.heap.size + 1, 6, none⟩ = some (.slice s.sf.a s.sf.n s.sf.c) := fun d os => cell_regrown c6 d os
        have rl : ∀ d os, (grow (redrawn wr d) os).cell? ⟨BL, l * 4, none⟩ = some (.int .i64 (gd : Int)) := fun d os => cell_regrown f11 d os
        clear hbv hgv hgd hpk hsk hBw hz kb d0 d1 c0 c1 c2 c3 c4 c5 c6 l1 l2 f1 f2 f3 f4 f6 f8 f9 f10 f11 f12 f13 f14 ex hgx hbx hbl HEND hbm0 hbm1
        obtain ⟨BK, hBK⟩ : ∃ BK, ((x.os.z o).ls.z l).n = BK := ⟨_, rfl⟩
        have HBK : Hid (((x.os.z o).ls.z l).n = BK) := hBK
        rw [hBK] at hbk0
        clear hBK
        obtain ⟨N, hN⟩ : ∃ N, T.left = N := ⟨_, rfl⟩
        have HN : Hid (T.left = N) := hN
        rw [hN] at tl0 tln ⊢
        clear hN
        have q0 : (0 : Int) ≤ (k : Int) := by omega
        have HMZ : Hid (∀ m, min N AV = m → min T.left ((fun b : Int => availZ s b.toNat (lineAt s o l).o.toNat) ((wayT p but).getD k 0)) = m) := fun m h => by rw [HAV.out, HN.out]; exact h
        go_wp2_with fail
        refine wp_region_quiet_below (by kernel_rfl) (by kernel_rfl) ?_
        repeat (go_big_quiet_step ((go_at_call 12; exact Calls.regrown_of (HAVL.out _ (HPS.out.1.below (below_regrown _ _ _)) (HPS.out.2.below (below_regrown _ _ _))))))
        refine wpQuiet_nil ?_
        intro w9 hw9
        have hB9 : Below wr.heap.size wr w9 := by obtain ⟨⟨dq, osq⟩, hw''⟩ := hw9; subst hw''; exact below_regrown _ _ _
        clear hw9 r0 r1 rs0 rs1 rs2 rs3 rs4 rs5 rs6 rl HPS z0 z1 HAVL
        have HBk9 : Hid (Below W0.heap.size W0 w9) := HBk.out.trans (hB9.mono HBk.out.size)
        have HX9 : Hid (Took s o l n T x ∧ OwnS w3.heap.size w9 x ∧ Blk w9 w4.heap.size 31 7 (fun j => x.cells.getD j default) ∧ Blk w9 g 3 (wayT p but).length (fun j => .int .i64 ((wayT p but).getD j 0)) ∧ (x.os.z o).ls.a = some ⟨BL, 0, none⟩) := ⟨HX.out.1, OwnS.below HX.out.2.1 hB9, HX.out.2.2.1.below hB9, HX.out.2.2.2.1.below hB9, HX.out.2.2.2.2⟩
        clear hB9 HX HBk f7
        by_cases hm0 : min AV N = 0
        · have hm1 : min N AV = 0 := by omega
          have HNX : Hid (TakeInv s o l n (fun b => availZ s b.toNat (lineAt s o l).o.toNat) (wayT p but) w3.heap.size w4.heap.size BL g (k + 1) w9 ∧ (Tk.go (fun b => availZ s b.toNat (lineAt s o l).o.toNat) n ((wayT p but).take (k + 1))).left = N) := by
            refine ⟨⟨x, ?_, HX9.out.2⟩, ?_⟩
            · rw [HS1.out]
              exact HX9.out.1.stepZero (HMZ.out 0 hm1)
            · rw [HS1.out]
              show T.left - min T.left _ = N
              rw [HMZ.out 0 hm1, HN.out]
              omega
          go_wp2_with fail
          go_roundw
          case rel => exact ⟨k + 1, by omega, by go_num, by rw [HNX.out.2], HNX.out.1, HBk9⟩
          case measure => simp [intOf]; omega
        · obtain ⟨MV, hMV⟩ : ∃ MV, min AV N = MV := ⟨_, rfl⟩
          have HMV : Hid (min AV N = MV) := hMV
          have mv0 : 0 < MV := by omega
          have mv1 : MV ≤ N := by omega
          have mvd : (MV == 0) = false := by simp; omega
          have HM1 : Hid (min N AV = MV) := by show min N AV = MV; omega
          have HAE : Hid (addE x.hs.n x.hs.z (tookH o l bv MV) = 0) := by
            have h := HX9.out.1.addE (p := p) (order := o) (line := l) (but := but) HI.out (fun x hx => HI.out.way x (List.mem_of_mem_take hx)) HTK.out (b := (bv : Int)) ⟨by omega, by omega⟩ mv0 (by rw [HN.out]; exact mv1)
            exact h
          have KX := HX9.out.2.2.1
          have y2 : w9.cell? ⟨w4.heap.size, 2, none⟩ = some (.slice x.hs.a x.hs.n x.hs.c) := KX.cell (j := 2) (by decide)
          have y3 := KX.lt
          have HAD : Hid (Calls Try.prog 73 #[.slice x.hs.a x.hs.n x.hs.c, .agg #[.int .i64 (o : Int), .int .i64 (l : Int), .int .i64 (bv : Int), .int .i64 MV]] w9 fun e w' => ∃ s' : Hs, e = .returned (.tuple #[s'.val, .int .i64 0]) ∧ OwnH w9.heap.size 70 w' s' ∧ AddOK x.hs.n x.hs.z (tookH o l bv MV) s' ∧ Below w9.heap.size w9 w') := by
            have h := AddOwn_any x.hs (tookH o l bv MV) w9 HX9.out.2.1.hs.at
            rw [HAE.out] at h
            exact h
          clear KX hm0 HMV
          go_wp2_with fail
          refine HAD.out.mono ?_
          rintro e wa ⟨y, rfl, yown, yok, hBa⟩
          clear y2 y3 HAD hMV
          have q9 := HBk9.out.size
          have qa := hBa.size
          obtain ⟨b1, b2, b3, b4, b5⟩ := HB5.out
          have hOa := OwnS.below HX9.out.2.1 hBa
          have KA := HX9.out.2.2.1.below hBa
          have FA := HX9.out.2.2.2.1.below hBa
          have hBka := HBk9.out.trans (hBa.mono HBk9.out.size)
          have hlt9 := HX9.out.2.2.1.lt
          have ho1 : o < x.os.n := by rw [HX9.out.1.os.1]; exact ho
          have hOb := (hOa.withHolds (yown.mono (by omega))).box KA 2 (.slice y.a y.n y.c)
          have KB := KA.set 2 (.slice y.a y.n y.c)
          have FB := FA.other (a := ⟨w4.heap.size, 2, none⟩) (Blk.ne2 FA KA (by decide)) (.slice y.a y.n y.c)
          have hBb := hBka.setCell (p := ⟨w4.heap.size, 2, none⟩) (by show W0.heap.size ≤ w4.heap.size; omega) (.slice y.a y.n y.c)
          have hl1 : l < (x.os.z o).ls.n := by rw [(HX9.out.1.os.2 o ho1).2.1]; exact hl
          obtain ⟨gO, BL', f1, f2, f3, f4, f5, f6, f7, f8, f9, f10, f11, f12, f13, f14⟩ := hOb.lineCell (o := o) (l := l) ho1 hl1
          have f5' : (x.os.z o).ls.a = some ⟨BL', 0, none⟩ := f5
          rw [HX9.out.2.2.2.2] at f5'
          simp only [Option.some.injEq, Addr.mk.injEq, and_true] at f5'
          subst f5'
          have f14' : (wa.setCell ⟨w4.heap.size, 2, none⟩ (.slice y.a y.n y.c)).cell? ⟨BL, l * 4 + 3, none⟩ = some (.int .i64 ((x.os.z o).ls.z l).n) := f14
          rw [HBK.out] at f14'
          have g14 := f10 (l * 4 + 3)
          obtain ⟨B', hla', -, -, -, hlb⟩ := hOb.os.lines o ho1
          rw [f5] at hla'
          simp only [Option.some.injEq, Addr.mk.injEq, and_true] at hla'
          subst hla'
          have hOc := hOb.setLine (o := o) ho1 f5 l 3 (by decide) (BK - MV)
          have KC := KB.other (a := ⟨BL, l * 4 + 3, none⟩) (Blk.ne2 KB hlb (by decide)) (.int .i64 (BK - MV))
          have FC := FB.other (a := ⟨BL, l * 4 + 3, none⟩) (Blk.ne2 FB hlb (by decide)) (.int .i64 (BK - MV))
          have hBc := hBb.setCell (p := ⟨BL, l * 4 + 3, none⟩) (by show W0.heap.size ≤ BL; omega) (.int .i64 (BK - MV))
          have hTn := HX9.out.1.stepAdd (av := fun b => availZ s b.toNat (lineAt s o l).o.toNat) (order := o) (line := l) (b := (wayT p but).getD k 0) (m := MV) ho hl (HMZ.out MV HM1.out) (by rw [HBV.out]; exact HAE.out) (by rw [HBV.out]; exact yok)
          have HNX : Hid (TakeInv s o l n (fun b => availZ s b.toNat (lineAt s o l).o.toNat) (wayT p but) w3.heap.size w4.heap.size BL g (k + 1) ((wa.setCell ⟨w4.heap.size, 2, none⟩ (.slice y.a y.n y.c)).setCell ⟨BL, l * 4 + 3, none⟩ (.int .i64 (BK - MV))) ∧ (Tk.go (fun b => availZ s b.toNat (lineAt s o l).o.toNat) n ((wayT p but).take (k + 1))).left = N - MV ∧ Below W0.heap.size W0 ((wa.setCell ⟨w4.heap.size, 2, none⟩ (.slice y.a y.n y.c)).setCell ⟨BL, l * 4 + 3, none⟩ (.int .i64 (BK - MV)))) := by
            refine ⟨⟨withHolds (setLine x o l 3 (BK - MV)) y, ?_, hOc, KC.congr (fun j hj => by match j, hj with | 0, _ => rfl | 1, _ => rfl | 2, _ => rfl | 3, _ => rfl | 4, _ => rfl | 5, _ => rfl | 6, _ => rfl), FC, ?_⟩, ?_, hBc⟩
            · rw [HS1.out]
              have h := hTn
              rw [show ((x.os.z ((o : Nat) : Int).toNat).ls.z ((l : Nat) : Int).toNat).n = BK from HBK.out] at h
              exact h
            · exact ((setLine_n (s := x) (o := o) (l := l) (c := 3) (v := BK - MV) o).2.1).trans HX9.out.2.2.2.2
            · rw [HS1.out]
              show T.left - min T.left _ = N - MV
              rw [HMZ.out MV HM1.out, HN.out]
          have z1 := KA.lt
          have z2 := KA.frozen 2
          have z3 := KA.cell (j := 2) (by decide)
          clear hOa KA FA hBka hOb KB FB hBb f1 f2 f3 f4 f5 f6 f8 f9 f10 f11 f12 f13 f14 hlb hOc KC FC hBc hTn yown yok hBa HX9 HBk9 HTK HS1
          simp only [Hs.val]
          go_wp2_with fail
          go_roundw
          case rel => exact ⟨k + 1, by omega, by go_num, by rw [HNX.out.2.1], HNX.out.1, HNX.out.2.2⟩
          case measure => simp [intOf]; omega
      · have hkn : k = (wayT p but).length := by omega
        have HT : Hid (T = tkOf p s (lineAt s o l).o n but) := HEND.out hkn
        clear HEND
        have KX := HX.out.2.2.1
        obtain ⟨m1, p0, p1, p2, p3, p4, p5, p6⟩ := Boxed.of KX
        obtain ⟨-, -, -, hBw, hz, -⟩ := HC.out wr HBk.out
        have HZ : Hid (Below w.heap.size w wr ∧ Blk wr (w.heap.size + 3) 31 7 (fun _ => .slice .none 0 0)) := ⟨hBw, hz⟩
        have zl := hz.lt
        have zf0 := hz.frozen 0
        have zc0 := hz.cell (j := 0) (by decide)
        have zf1 := hz.frozen 1
        have zc1 := hz.cell (j := 1) (by decide)
        have zf2 := hz.frozen 2
        have zc2 := hz.cell (j := 2) (by decide)
        have zf3 := hz.frozen 3
        have zc3 := hz.cell (j := 3) (by decide)
        have zf4 := hz.frozen 4
        have zc4 := hz.cell (j := 4) (by decide)
        have zf5 := hz.frozen 5
        have zc5 := hz.cell (j := 5) (by decide)
        have zf6 := hz.frozen 6
        have zc6 := hz.cell (j := 6) (by decide)
        clear KX hBw hz
        go_wp2_with fail
        have KZ := set7_blk HZ.out.2 (.slice x.on.a x.on.n x.on.c) (.slice x.os.a x.os.n x.os.c) (.slice x.hs.a x.hs.n x.hs.c) (.slice x.ms.a x.ms.n x.ms.c) (.slice x.si.a x.si.n x.si.c) (.slice x.so.a x.so.n x.so.c) (.slice x.sf.a x.sf.n x.sf.c)
        have hbz := set7_below (b := w.heap.size + 3) HZ.out.1 (by omega) (.slice x.on.a x.on.n x.on.c) (.slice x.os.a x.os.n x.os.c) (.slice x.hs.a x.hs.n x.hs.c) (.slice x.ms.a x.ms.n x.ms.c) (.slice x.si.a x.si.n x.si.c) (.slice x.so.a x.so.n x.so.c) (.slice x.sf.a x.sf.n x.sf.c)
        have hOz := OwnS.set7 HX.out.2.1 HZ.out.2 (.slice x.on.a x.on.n x.on.c) (.slice x.os.a x.os.n x.os.c) (.slice x.hs.a x.hs.n x.hs.c) (.slice x.ms.a x.ms.n x.ms.c) (.slice x.si.a x.si.n x.si.c) (.slice x.so.a x.so.n x.so.c) (.slice x.sf.a x.sf.n x.sf.c)
        unfold set7 at KZ hbz hOz
        obtain ⟨c0', c1', c2', c3', c4', c5', c6'⟩ := box_cells KZ
        refine bodyPost_ret (v := .tuple #[x.val, .int .i64 T.left, .int .i64 0]) (by simp [results, Try.results27, go_sem, St.val, c0', c1', c2', c3', c4', c5', c6']) rfl ?_
        have HL : allocL p s o l n but = T.left := by rw [HT.out]; exact if_pos HE.out
        refine ⟨x, by rw [HL, HE.out]; rfl, hOz.at, ⟨fun _ => ?_, fun h => absurd HE.out h⟩, fun _ => hOz.mono ?_, hbz⟩
        · rw [← HT.out]; exact HX.out.1
        · have := (HC.out _ HB5.out.1).2.2.2.1.size
          have := HB5.out.2.1
          omega
  · have HX : Hid (allocL p s order line n but = 0) := if_neg hE
    clear c0 c1 c2 c3 c4 c5 c6 hpk hsk kb
    have zl := hz.lt
    have zf0 := hz.frozen 0
    have zc0 := hz.cell (j := 0) (by decide)
    have zf1 := hz.frozen 1
    have zc1 := hz.cell (j := 1) (by decide)
    have zf2 := hz.frozen 2
    have zc2 := hz.cell (j := 2) (by decide)
    have zf3 := hz.frozen 3
    have zc3 := hz.cell (j := 3) (by decide)
    have zf4 := hz.frozen 4
    have zc4 := hz.cell (j := 4) (by decide)
    have zf5 := hz.frozen 5
    have zc5 := hz.cell (j := 5) (by decide)
    have zf6 := hz.frozen 6
    have zc6 := hz.cell (j := 6) (by decide)
    go_wp2_with fail
    have KZ := set7_blk hz (.slice .none 0 0) (.slice .none 0 0) (.slice .none 0 0) (.slice .none 0 0) (.slice .none 0 0) (.slice .none 0 0) (.slice .none 0 0)
    have hbz := set7_below (b := w.heap.size + 3) hBw (by omega) (.slice .none 0 0) (.slice .none 0 0) (.slice .none 0 0) (.slice .none 0 0) (.slice .none 0 0) (.slice .none 0 0) (.slice .none 0 0)
    unfold set7 at KZ hbz
    obtain ⟨c0', c1', c2', c3', c4', c5', c6'⟩ := box_cells KZ
    refine bodyPost_ret (v := .tuple #[noneS.val, .int .i64 0, .int .i64 (allocE p s order line n but)]) (by simp [results, Try.results27, go_sem, noneS, St.val, c0', c1', c2', c3', c4', c5', c6']) rfl ?_
    exact ⟨noneS, by rw [HX.out]; rfl, noneS_at _, ⟨fun h => absurd h hE, fun _ => ⟨rfl, rfl, rfl, rfl, rfl, rfl, rfl⟩⟩, fun h => absurd h hE, hbz⟩
end Go.Proofs.Ytbcacebifpagpae
namespace Go.Proofs.Ytbcacebifpagpae
open Go.RowKit Go.Shelf Go.Sort
set_option linter.unusedVariables false
theorem cutStep {A BC r n : Nat} {W0 w : World} {y : St} {q : Int → Int → Int} {f : Nat → Value} (h : OwnS A w y ∧ Blk w BC 92 10 f ∧ MapQ w r q ∧ Below n W0 w) (hn : n ≤ BC) (j : Nat) (u : Value) : OwnS A (w.setCell ⟨BC, j, none⟩ u) y ∧ Blk (w.setCell ⟨BC, j, none⟩ u) BC 92 10 (fun k => if k = j then u else f k) ∧ MapQ (w.setCell ⟨BC, j, none⟩ u) r q ∧ Below n W0 (w.setCell ⟨BC, j, none⟩ u) :=
  ⟨h.1.boxC h.2.1 j u, h.2.1.set j u, h.2.2.1.set (h.2.1.noMap h.2.2.1) u, h.2.2.2.setCell (p := ⟨BC, j, none⟩) hn u⟩
theorem CutI.newState {A BC r : Nat} {W0 wk : World} {x y : St} {b g : Int} {q : Int → Int → Int} (h : CutI A BC r W0 x b g q wk) (ho : OwnS A wk y) : CutI A BC r W0 y b g q (set7 wk BC (.slice y.on.a y.on.n y.on.c) (.slice y.os.a y.os.n y.os.c) (.slice y.hs.a y.hs.n y.hs.c) (.slice y.ms.a y.ms.n y.ms.c) (.slice y.si.a y.si.n y.si.c) (.slice y.so.a y.so.n y.so.c) (.slice y.sf.a y.sf.n y.sf.c)) := by
  have b1 := h.w0
  have b2 := h.bc
  have hn : W0.heap.size ≤ BC := by omega
  have k := cutStep (cutStep (cutStep (cutStep (cutStep (cutStep (cutStep ⟨ho, h.box, h.map, h.bel⟩ hn 0 (.slice y.on.a y.on.n y.on.c)) hn 1 (.slice y.os.a y.os.n y.os.c)) hn 2 (.slice y.hs.a y.hs.n y.hs.c)) hn 3 (.slice y.ms.a y.ms.n y.ms.c)) hn 4 (.slice y.si.a y.si.n y.si.c)) hn 5 (.slice y.so.a y.so.n y.so.c)) hn 6 (.slice y.sf.a y.sf.n y.sf.c)
  unfold set7
  refine ⟨k.1, k.2.1.congr fun j hj => ?_, k.2.2.1, k.2.2.2, by have := h.le; simpa using this, h.w0, h.bc, h.ra⟩
  match j, hj with
  | 0, _ => rfl
  | 1, _ => rfl
  | 2, _ => rfl
  | 3, _ => rfl
  | 4, _ => rfl
  | 5, _ => rfl
  | 6, _ => rfl
  | 7, _ => rfl
  | 8, _ => rfl
  | 9, _ => rfl
theorem OwnS.cut7 {A BC r : Nat} {W0 wk : World} {x y s : St} {b g : Int} {q : Int → Int → Int} (h : CutI A BC r W0 x b g q wk) (ho : OwnS A wk s) : OwnS A (Go.Proofs.Ytbcacebifpagpae.set7 wk BC (.slice y.on.a y.on.n y.on.c) (.slice y.os.a y.os.n y.os.c) (.slice y.hs.a y.hs.n y.hs.c) (.slice y.ms.a y.ms.n y.ms.c) (.slice y.si.a y.si.n y.si.c) (.slice y.so.a y.so.n y.so.c) (.slice y.sf.a y.sf.n y.sf.c)) s := by
  have b1 := h.w0
  have b2 := h.bc
  have hn : W0.heap.size ≤ BC := by omega
  have k := cutStep (cutStep (cutStep (cutStep (cutStep (cutStep (cutStep ⟨ho, h.box, h.map, h.bel⟩ hn 0 (.slice y.on.a y.on.n y.on.c)) hn 1 (.slice y.os.a y.os.n y.os.c)) hn 2 (.slice y.hs.a y.hs.n y.hs.c)) hn 3 (.slice y.ms.a y.ms.n y.ms.c)) hn 4 (.slice y.si.a y.si.n y.si.c)) hn 5 (.slice y.so.a y.so.n y.so.c)) hn 6 (.slice y.sf.a y.sf.n y.sf.c)
  unfold Go.Proofs.Ytbcacebifpagpae.set7
  exact k.1
theorem Blk.cut7 {w : World} {B BC n : Nat} {T : TypeId} {f : Nat → Value} (h : Blk w B T n f) (ne : B ≠ BC) (v0 v1 v2 v3 v4 v5 v6 : Value) : Blk (set7 w BC v0 v1 v2 v3 v4 v5 v6) B T n f := by
  unfold set7
  exact ((((((h.other (a := ⟨BC, 0, none⟩) ne v0).other (a := ⟨BC, 1, none⟩) ne v1).other (a := ⟨BC, 2, none⟩) ne v2).other (a := ⟨BC, 3, none⟩) ne v3).other (a := ⟨BC, 4, none⟩) ne v4).other (a := ⟨BC, 5, none⟩) ne v5).other (a := ⟨BC, 6, none⟩) ne v6
structure TakI (p : Pl) (x0 : St) (A BC r : Nat) (W0 : World) (b g : Int) (q : Int → Int → Int) (BP : Nat) (cur : St) (wk : World) : Prop where
  own0 : OwnS A wk x0
  cut : CutI A BC r W0 cur b g q wk
  plan : Blk wk BP 25 2 (fun j => (#[.slice p.ab p.nb p.cb, .slice p.sa p.ns p.cs] : Array Value).getD j default)
theorem TakI.below {p : Pl} {x0 cur : St} {A BC r BP : Nat} {W0 wk wj : World} {b g : Int} {q : Int → Int → Int} (h : TakI p x0 A BC r W0 b g q BP cur wk) (hB : Below wk.heap.size wk wj) : TakI p x0 A BC r W0 b g q BP cur wj := ⟨OwnS.below h.own0 hB, h.cut.below hB, h.plan.below hB⟩
def CutA (p : Pl) (x0 : St) (b : Nat) (q : Int → Int → Int) (i : Nat) (cur : St) : Prop := TkAll p b (fun i j => q i j) (relM x0) x0 i cur
def CutB (p : Pl) (x0 : St) (b : Nat) (q : Int → Int → Int) (i j : Nat) (cur : St) : Prop := ∃ y, CutA p x0 b q i y ∧ TkRow p b (fun i j => q i j) i y j cur
section
variable {p : Pl} {x0 cur x : St} {b : Nat} {q : Int → Int → Int} {i j : Nat}
theorem CutB.next (h : CutB p x0 b q i (x0.os.z i).ls.n cur) : CutA p x0 b q (i + 1) cur := h
theorem CutA.row (h : CutA p x0 b q i cur) : CutB p x0 b q i 0 cur := ⟨cur, h, rfl⟩
theorem CutB.pos (Q : QIn p b (fun i j => q i j) x0) (h : CutB p x0 b q i j cur) (hi : i < x0.os.n) (hj : j ≤ (x0.os.z i).ls.n) : Pos p b (fun i j => q i j) x0 i j cur := by
  obtain ⟨y, h1, h2⟩ := h
  exact TkRow.pos Q (TkAll.pos Q (fun _ _ => rfl) (Nat.le_of_lt hi) h1) hi hj h2
theorem CutB.step (h : CutB p x0 b q i j cur) (T : Step p b cur i j (q i j) x) : CutB p x0 b q i (j + 1) x := by
  obtain ⟨y, h1, h2⟩ := h
  exact ⟨y, h1, cur, h2, T⟩
theorem CutB.skip (Q : QIn p b (fun i j => q i j) x0) (h : CutB p x0 b q i j cur) (hi : i < x0.os.n) (hj : j < (x0.os.z i).ls.n) (h0 : q i j = 0) : CutB p x0 b q i (j + 1) cur := by
  have I := (h.pos Q hi (Nat.le_of_lt hj)).stepIn Q hi hj
  have T := I.tki
  have T' : TakeIn p cur i j (q i j) := T
  rw [h0] at T'
  refine h.step ?_
  rw [h0]
  exact Step.skip T'
end
set_option maxRecDepth 100000 in
set_option maxHeartbeats 4000000 in
theorem takeElsewhere_any (p : Pl) (A BC r : Nat) (W0 : World) (x0 : St) (b g : Nat) (q : Int → Int → Int) (w : World) (h : CutI A BC r W0 x0 b g q w) (hp : ∀ wk, Below W0.heap.size W0 wk → p.At wk) (Q : QIn p b (fun i j => q i j) x0) :
    Calls Try.prog 61 #[.pointer (some ⟨BC, 0, none⟩), p.val] w fun e w' => e = .returned (.tuple #[]) ∧ ∃ y, TkAll p b (fun i j => q i j) (relM x0) x0 x0.os.n y ∧ CutI A BC r W0 y b g q w' := by
  have HP : Hid (∀ wk, Below W0.heap.size W0 wk → p.At wk) := hp
  have HQ : Hid (QIn p b (fun i j => q i j) x0) := Q
  have ol : x0.os.n ≤ x0.os.c := h.own.os.le
  have oc : x0.os.c ≤ maxLen := h.own.os.cap
  unfold maxLen at oc
  have on4 : x0.os.n ≤ 4 := Q.r.fm.os4
  obtain ⟨W1, hW, hWB, K1⟩ : ∃ W, w.alloc (.cells #[.slice p.ab p.nb p.cb, .slice p.sa p.ns p.cs] 25) = W ∧ Below w.heap.size w W ∧ Blk W w.heap.size 25 2 (fun j => (#[.slice p.ab p.nb p.cb, .slice p.sa p.ns p.cs] : Array Value).getD j default) := ⟨_, rfl, (Below.refl _ _).alloc (Nat.le_refl _) _, Blk.mk' rfl rfl⟩
  have HW : Hid (w.alloc (.cells #[.slice p.ab p.nb p.cb, .slice p.sa p.ns p.cs] 25) = W1) := hW
  have h' := h.below hWB
  have HI : Hid (TakI p x0 A BC r W0 b g q w.heap.size x0 W1) := ⟨h'.own, h', K1⟩
  obtain ⟨u, -, u1, -⟩ := h'.boxed
  rw [← HW.out] at u u1
  clear hW hWB K1 h h' hp Q
  unfold Pl.val
  go_enter Try.func61, Try.ntmps61
  go_wp2_with fail
  rw [HW.out]
  clear u u1 HW
  generalize w.heap.size = BP at *
  go_loopw [14] (fun kv wk => ∃ (i : Nat) (cur : St), i ≤ x0.os.n ∧ kv = .int .i64 i ∧ Hid (TakI p x0 A BC r W0 b g q BP cur wk) ∧ Hid (CutA p x0 b q i cur)) (fun kv _ => x0.os.n - (intOf kv).toNat)
  case atStart => exact ⟨0, x0, Nat.zero_le _, rfl, HI, SameT.self x0⟩
  case round =>
    clear HI
    obtain ⟨i, cur, hi, rfl, HI, HA⟩ := hrel
    by_cases hlt : i < x0.os.n
    · have q0 : (0 : Int) ≤ (i : Int) := by omega
      have q1 : (i : Int) < (x0.os.n : Int) := by omega
      obtain ⟨bo, oo, hoa, hbo, z0, z1, hlk⟩ := HI.out.own0.at.os.ods i hlt
      have ll := hlk.le
      have lc := hlk.cap
      unfold maxLen at lc
      have ln3 : (x0.os.z i).ls.n ≤ 3 := (HQ.out.r.fm.lns i hlt).2
      rw [hoa]
      clear hoa hlk
      obtain ⟨W, hW, hWB⟩ : ∃ W, wr.alloc (.cells #[.int .i64 (x0.os.z i).k, .slice (x0.os.z i).ls.a (x0.os.z i).ls.n (x0.os.z i).ls.c] 38) = W ∧ Below wr.heap.size wr W := ⟨_, rfl, (Below.refl _ _).alloc (Nat.le_refl _) _⟩
      have HW : Hid (wr.alloc (.cells #[.int .i64 (x0.os.z i).k, .slice (x0.os.z i).ls.a (x0.os.z i).ls.n (x0.os.z i).ls.c] 38) = W) := hW
      have HIW : Hid (TakI p x0 A BC r W0 b g q BP cur W) := HI.out.below hWB
      clear hW hWB
      go_wp2_with fail
      rw [HW.out]
      clear z0 z1 hbo HW q0 q1
      go_loopw [22] (fun jv wk => ∃ (j : Nat) (cr : St), j ≤ (x0.os.z i).ls.n ∧ jv = .int .i64 j ∧ Hid (TakI p x0 A BC r W0 b g q BP cr wk) ∧ Hid (CutB p x0 b q i j cr)) (fun jv _ => (x0.os.z i).ls.n - (intOf jv).toNat)
      case atStart => exact ⟨0, cur, Nat.zero_le _, rfl, HIW, HA.out.row⟩
      case round =>
        clear HIW HI HA
        obtain ⟨j, cr, hj, rfl, HI, HB⟩ := hrel
        by_cases hjl : j < (x0.os.z i).ls.n
        · have q2 : (0 : Int) ≤ (j : Int) := by omega
          have q3 : (j : Int) < ((x0.os.z i).ls.n : Int) := by omega
          have lk := map_look (o := i) (l := j) HI.out.cut.map (by omega) (by omega)
          unfold mkey at lk
          obtain ⟨u, -, -, -, -, -, -, -, -, -, u9⟩ := HI.out.cut.boxed
          have HPO : Hid (Pos p b (fun i j => q i j) x0 i j cr) := HB.out.pos HQ.out hlt (Nat.le_of_lt hjl)
          have HSI : Hid (StepIn p b cr i j (q i j)) := HPO.out.stepIn HQ.out hlt hjl
          have hq0 := HSI.out.n0
          by_cases hq : 0 < q i j
          · have HK2 : Hid ((cr.os.z i).k = 1) := by
              rcases HSI.out.kd with e | e
              · omega
              · exact e.1
            have HE0 : Hid (allocE p cr i j (q i j) b = 0) := by have I := HSI.out.allocIn HK2.out; exact I.less ⟨I.n0, Int.le_refl _⟩
            have HST : Hid (∀ x, Step p b cr i j (q i j) x → CutB p x0 b q i (j + 1) x) := fun x T => HB.out.step T
            clear HSI HK2 HB HPO
            obtain ⟨QV, hQV⟩ : ∃ QV, q i j = QV := ⟨_, rfl⟩
            rw [hQV] at lk HE0 HST hq hq0
            clear hQV
            go_wp2_with fail
            clear lk u u9
            obtain ⟨pm, p0, p1, p2, p3, p4, p5, p6, p7, -, -⟩ := HI.out.cut.boxed
            have d0 : wr.cell? ⟨BP, 0, none⟩ = some (.slice p.ab p.nb p.cb) := HI.out.plan.cell (j := 0) (by decide)
            have d1 : wr.cell? ⟨BP, 1, none⟩ = some (.slice p.sa p.ns p.cs) := HI.out.plan.cell (j := 1) (by decide)
            have l1 := HI.out.plan.lt
            have rp0 := fun d os => cell_regrown p0 d os
            have rp1 := fun d os => cell_regrown p1 d os
            have rp2 := fun d os => cell_regrown p2 d os
            have rp3 := fun d os => cell_regrown p3 d os
            have rp4 := fun d os => cell_regrown p4 d os
            have rp5 := fun d os => cell_regrown p5 d os
            have rp6 := fun d os => cell_regrown p6 d os
            have rp7 := fun d os => cell_regrown p7 d os
            have rd0 := fun d os => cell_regrown d0 d os
            have rd1 := fun d os => cell_regrown d1 d os
            refine wp_region_ph [(false, [0, 2, 3, 4, 6, 7, 8, 9, 10, 11], none), (true, [1, 5, 12], some 13), (false, [14, 15, 16, 17, 18, 19], some 20)] (by kernel_rfl) (by kernel_rfl) (by kernel_rfl) (by kernel_rfl) (by kernel_rfl) ?_
            refine ⟨fun _ => True, trivial, fun _ _ => trivial, ?_⟩
            simp only [picks, List.drop_succ_cons, List.drop_zero, List.take_succ_cons, List.take_zero, List.cons_append, List.nil_append]
            repeat (go_big_quiet_step (fail))
            refine wpQuiet_nil ?_
            refine ⟨fun w' => ∃ p : Regrown, w' = grow (redrawn wr p.d) p.os, regrown_of_below ((Below.refl _ _).drew), fun h => (by cases h), ?_⟩
            simp only [picks, List.drop_succ_cons, List.drop_zero, List.take_succ_cons, List.take_zero, List.cons_append, List.nil_append]
            repeat (go_big_quiet_step (fail))
            refine wpQuiet_nil ?_
            clear rp0 rp1 rp2 rp3 rp4 rp5 rp6 rp7 rd0 rd1 p0 p1 p2 p3 p4 p5 p6 p7 d0 d1 l1 pm
            have hBd : Below wr.heap.size wr wr.drew := (Below.refl _ _).drew
            generalize wr.drew = wj at *
            have HIj : Hid (TakI p x0 A BC r W0 b g q BP cr wj) := HI.out.below hBd
            have HPj : Hid (p.At wj) := HP.out wj HIj.out.cut.bel
            clear hBd HI
            refine wpOp_one 13 rfl ?_
            go_wp2_with fail
            refine (Take_any p cr i j QV b wj HPj.out HIj.out.cut.own.at).mono ?_
            rintro e w8 ⟨x, rfl, xat, xok, xown, hB8⟩
            have HT : Hid (CutB p x0 b q i (j + 1) x) := HST.out x (xok.1 HE0.out)
            have HOX : Hid (OwnS A w8 x) := (xown HE0.out).mono HIj.out.cut.le
            have HI8 : Hid (TakI p x0 A BC r W0 b g q BP cr w8) := HIj.out.below hB8
            clear xat xok xown hB8 HST HIj HPj HE0
            generalize allocL p cr i j QV b = LL at *
            generalize allocE p cr i j QV b = EE at *
            simp only [St.val]
            go_wp2_with fail
            refine ⟨fun _ => True, trivial, fun _ _ => trivial, ?_⟩
            simp only [picks, List.drop_succ_cons, List.drop_zero, List.take_succ_cons, List.take_zero, List.cons_append, List.nil_append]
            repeat (go_big_quiet_step (fail))
            refine wpQuiet_nil ?_
            have hb8 := HI8.out.cut.box
            have zl := hb8.lt
            have zf0 := hb8.frozen 0
            have zc0 := hb8.cell (j := 0) (by decide)
            have zf1 := hb8.frozen 1
            have zc1 := hb8.cell (j := 1) (by decide)
            have zf2 := hb8.frozen 2
            have zc2 := hb8.cell (j := 2) (by decide)
            have zf3 := hb8.frozen 3
            have zc3 := hb8.cell (j := 3) (by decide)
            have zf4 := hb8.frozen 4
            have zc4 := hb8.cell (j := 4) (by decide)
            have zf5 := hb8.frozen 5
            have zc5 := hb8.cell (j := 5) (by decide)
            have zf6 := hb8.frozen 6
            have zc6 := hb8.cell (j := 6) (by decide)
            clear hb8
            refine wpOp_one 20 rfl ?_
            go_wp2_with fail
            have HN : Hid (TakI p x0 A BC r W0 b g q BP x (set7 w8 BC (.slice x.on.a x.on.n x.on.c) (.slice x.os.a x.os.n x.os.c) (.slice x.hs.a x.hs.n x.hs.c) (.slice x.ms.a x.ms.n x.ms.c) (.slice x.si.a x.si.n x.si.c) (.slice x.so.a x.so.n x.so.c) (.slice x.sf.a x.sf.n x.sf.c))) := ⟨OwnS.cut7 HI8.out.cut HI8.out.own0, HI8.out.cut.newState HOX.out, HI8.out.plan.cut7 (Blk.ne2 HI8.out.plan HI8.out.cut.box (by decide)) _ _ _ _ _ _ _⟩
            unfold set7 at HN
            refine NoPanic.normal ?_
            go_wp2_with fail
            go_roundw
            case rel => exact ⟨j + 1, x, by omega, by go_num, HN, HT⟩
            case measure => simp [intOf]; omega
          · have HN : Hid (CutB p x0 b q i (j + 1) cr) := HB.out.skip HQ.out hlt hjl (by omega)
            clear HSI HB HPO
            obtain ⟨QV, hQV⟩ : ∃ QV, q i j = QV := ⟨_, rfl⟩
            rw [hQV] at lk hq hq0
            clear hQV
            go_wp2_with fail
            go_roundw
            case rel => exact ⟨j + 1, cr, by omega, by go_num, HI, HN⟩
            case measure => simp [intOf]; omega
        · have hjn : j = (x0.os.z i).ls.n := by omega
          subst hjn
          have HN : Hid (CutA p x0 b q (i + 1) cr) := HB.out.next
          go_wp2_with fail
          go_roundw
          case rel => exact ⟨i + 1, cr, by omega, by go_num, HI, HN⟩
          case measure => simp [intOf]; omega
    · have hin : i = x0.os.n := by omega
      subst hin
      go_wp2_with fail
      go_end0
      exact ⟨rfl, cur, HA.out, HI.out.cut⟩
end Go.Proofs.Ytbcacebifpagpae
namespace Go.Proofs.Ytbcacebifpagpae
open Go.RowKit
set_option linter.unusedVariables false
section
variable {p : Pl} {s x : St} {b g : Nat} {seen : Int}
theorem moreL_none (x : Hd) : moreL x 0 = x := by unfold moreL; rw [Int.add_zero]
theorem cutHs_none {f : Hd → Bool} {h : Hs} (hp : ∀ y, y ∈ revL h.z h.n → 1 ≤ y.n) : (cutHs f h 0).n = h.n ∧ ∀ j, j < (cutHs f h 0).n → (cutHs f h 0).z j = h.z j := by
  have e := cutHs_rev f h 0
  rw [cutL_zero f (fun y hy => by have := hp y hy; omega), flt_all hp] at e
  exact revL_inj e
theorem cut_none (r : RightT p s) (b g : Int) : SameT (cutS s b g 0) s := by
  have l0 : leftM s b g 0 = 0 := by
    have a := leftM_eq (b := b) (g := g) r (Int.le_refl 0)
    have c := (fromTo_bd (s := s) (b := b) (g := g) (n := s.ms.n) r.fm.moveN).1
    omega
  have q0 : ∀ o l, cutQs s b g 0 o l = 0 := fun o l => by
    unfold cutQs
    rw [l0]
    exact cutQ_zero _ _ _ r.holdsP
  refine ⟨⟨rfl, fun _ _ => ⟨rfl, fun _ _ => rfl⟩⟩, ⟨rfl, fun i _ => ⟨rfl, rfl, fun j _ => ?_⟩⟩, ?_, cutHs_none r.moves0, ⟨rfl, fun _ _ => rfl⟩, ⟨rfl, fun _ _ => rfl⟩, ⟨rfl, fun _ _ => rfl⟩⟩
  · show moreL ((s.os.z i).ls.z j) (cutQs s b g 0 i j) = _
    rw [q0, moreL_none]
  · show (cutHs (heldF s b g) s.hs (leftM s b g 0)).n = _ ∧ ∀ j, j < (cutHs (heldF s b g) s.hs (leftM s b g 0)).n → (cutHs (heldF s b g) s.hs (leftM s b g 0)).z j = _
    rw [l0]
    exact cutHs_none r.holds0
theorem TkAll.skip {but : Int} {q : Nat → Nat → Int} {m : Nat → Nat} (Q : QIn p but q s) (hm : ∀ a, a < s.os.n → m a = (s.os.z a).ls.n) (hq : ∀ a b, a < s.os.n → b < (s.os.z a).ls.n → q a b = 0) : ∀ {i : Nat}, i ≤ s.os.n → TkAll p but q m s i s
  | 0, _ => SameT.self s
  | i + 1, hi => by
    have T := TkAll.skip Q hm hq (i := i) (by omega)
    exact ⟨s, T, TkRow.skip Q (TkAll.pos Q hm (by omega) T) (by omega) (by rw [hm i (by omega)]; exact Nat.le_refl _) fun b hb => hq i b (by omega) (by rw [← hm i (by omega)]; exact hb)⟩
theorem count_still (h : CountIn p s b g seen) (hm : missZ s b g seen = 0) : SameT (countT p s b g seen) (fixOn s b g seen) := by
  have Q := h.qin
  have q0 : ∀ a c, a < (countS s b g seen).os.n → c < ((countS s b g seen).os.z a).ls.n → countQ s b g seen a c = 0 := fun a c _ _ => by
    have k := cutQs_bd (b := b) (g := g) (M := missZ s b g seen) h.r h.miss0 a c
    unfold countQ cutQs
    rw [hm]
    have l0 : leftM s b g 0 = 0 := by
      have e := leftM_eq (b := b) (g := g) h.r (Int.le_refl 0)
      have c := (fromTo_bd (s := s) (b := b) (g := g) (n := s.ms.n) h.r.fm.moveN).1
      omega
    rw [l0]
    exact cutQ_zero _ _ _ h.r.holdsP
  have T := TkAll.skip (m := relM s) Q (fun _ _ => rfl) q0 (Nat.le_refl _)
  have S1 : SameT (countT p s b g seen) (countS s b g seen) := TkAll.same Q (fun _ _ => rfl) (Nat.le_refl s.os.n) T h.all
  refine S1.trans ?_
  have c := cut_none h.r b g
  unfold countS fixOn
  rw [hm]
  have e1 : ((cutS s b g 0).on.r b).z g = (s.on.r b).z g := rfl
  have e2 : (cutS s b g 0).sf.z g = s.sf.z g := rfl
  rw [e1, e2]
  exact ⟨⟨rfl, fun _ _ => ⟨rfl, fun _ _ => rfl⟩⟩, c.os, c.hs, c.ms, ⟨rfl, fun _ _ => rfl⟩, ⟨rfl, fun _ _ => rfl⟩, ⟨rfl, fun _ _ => rfl⟩⟩
theorem fixOn_self (h : (s.on.r b).z g = seen) : SameT (fixOn s b g seen) s := by
  refine ⟨⟨rfl, fun i _ => ⟨setOn_len s b g seen i, fun j _ => ?_⟩⟩, ⟨rfl, fun _ _ => ⟨rfl, rfl, fun _ _ => rfl⟩⟩, ⟨rfl, fun _ _ => rfl⟩, ⟨rfl, fun _ _ => rfl⟩, ⟨rfl, fun _ _ => rfl⟩, ⟨rfl, fun _ _ => rfl⟩, ⟨rfl, fun j _ => ?_⟩⟩
  · rw [fixOn_num]
    by_cases c : i = b ∧ j = g
    · rw [if_pos c, c.1, c.2, h]
    · rw [if_neg c]
  · show (if j = g then s.sf.z g + (seen - (s.on.r b).z g) else s.sf.z j) = s.sf.z j
    by_cases c : j = g
    · rw [if_pos c, h, c]; omega
    · rw [if_neg c]
theorem countE_of (h : CountIn p s b g seen) : countE p s b g seen = 0 := by
  have h1 := h.bn
  have h2 := h.gn
  have h3 := h.s0
  have h4 := h.s1
  unfold countE
  rw [if_pos (stateE_of h.r), inB_mk (by omega), inB_mk (by omega), inB_mk (by omega)]
  have e : (Int.toNat (b : Int)) = b := rfl
  have e2 : (Int.toNat (g : Int)) = g := rfl
  rw [e, e2, inB_mk h.fx]
  rfl
theorem CountIn.onS (h : CountIn p s b g seen) (i j : Nat) : ((countS s b g seen).on.r i).z j = if i = b ∧ j = g then seen else (s.on.r i).z j := fixOn_num (cutS s b g (missZ s b g seen)) b g seen i j
theorem CountIn.on (h : CountIn p s b g seen) (e : SameT x (countT p s b g seen)) : x.on.n = s.on.n ∧ ∀ i, i < s.on.n → (x.on.r i).n = (s.on.r i).n ∧ ∀ j, j < (s.on.r i).n → (x.on.r i).z j = if i = b ∧ j = g then seen else (s.on.r i).z j := by
  have a := h.pos.al.on
  have n1 : x.on.n = s.on.n := e.on.1.trans a.1
  refine ⟨n1, fun i hi => ?_⟩
  have e1 := e.on.2 i (by rw [n1]; exact hi)
  have a1 := a.2 i (by rw [a.1]; exact hi)
  have l1 : ((countS s b g seen).on.r i).n = (s.on.r i).n := setOn_len (cutS s b g (missZ s b g seen)) b g seen i
  have l2 : (x.on.r i).n = (s.on.r i).n := e1.1.trans (a1.1.trans l1)
  refine ⟨l2, fun j hj => ?_⟩
  rw [e1.2 j (by rw [l2]; exact hj), a1.2 j (by rw [a1.1, l1]; exact hj), h.onS]
theorem CountIn.got (h : CountIn p s b g seen) (e : SameT x (countT p s b g seen)) : x.os.n = s.os.n ∧ ∀ o, o < s.os.n → (x.os.z o).ls.n = (s.os.z o).ls.n ∧ ∀ k, k < (s.os.z o).ls.n → ((x.os.z o).ls.z k).b = ((s.os.z o).ls.z k).b := by
  have a := h.pos.al
  have n1 : x.os.n = s.os.n := e.os.1.trans a.osn
  refine ⟨n1, fun o ho => ?_⟩
  have e1 := e.os.2 o (by rw [n1]; exact ho)
  have k1 : ((countT p s b g seen).os.z o).ls.n = (s.os.z o).ls.n := (a.kind o ho).2
  refine ⟨e1.2.1.trans k1, fun k hk => ?_⟩
  rw [e1.2.2 k (by rw [e1.2.1, k1]; exact hk), (a.line o ho k hk).2.2]
  rfl
theorem CountIn.num (h : CountIn p s b g seen) (e : SameT x (countT p s b g seen)) : (x.on.r b).z g = seen := by
  have hb : b < s.on.n := by rw [h.r.fm.sh.n]; exact h.bn
  have l := h.r.fm.sh.len b hb
  have k := ((h.on e).2 b hb).2 g (by rw [l]; exact h.gn)
  rw [k, if_pos ⟨rfl, rfl⟩]
theorem CountIn.again (h : CountIn p s b g seen) (e : SameT x (countT p s b g seen)) : CountIn p x b g seen ∧ SameT (countT p x b g seen) x := by
  have rx : RightT p x := e.right (count_right h)
  have n := h.num e
  have f := rx.fm.sfb g h.gn
  have I : CountIn p x b g seen := ⟨rx, h.bn, h.gn, h.s0, h.s1, by rw [n]; omega⟩
  refine ⟨I, ?_⟩
  have m : missZ x b g seen = 0 := by
    have k := I.bound
    have a := (goods_no (rx.goods g h.gn)).2 b h.bn
    unfold missZ
    rw [k.2, n]
    omega
  exact (count_still I m).trans (fixOn_self n)
theorem CountIn.more (h : CountIn p s b g seen) (e : SameT x (countT p s b g seen)) (hm : (s.on.r b).z g - availZ s b g ≤ seen) : (x.hs.n = s.hs.n ∧ ∀ j, j < x.hs.n → x.hs.z j = s.hs.z j) ∧ x.ms.n = s.ms.n ∧ ∀ j, j < x.ms.n → x.ms.z j = s.ms.z j := by
  have m : missZ s b g seen = 0 := by
    have k := h.bound
    unfold missZ
    omega
  have k := e.trans (count_still h m)
  exact ⟨k.hs, k.ms⟩
theorem revL_same {h k : Hs} (hn : h.n = k.n) (hz : ∀ j, j < h.n → h.z j = k.z j) : revL h.z h.n = revL k.z k.n := by
  rw [← hn]
  exact revL_congr hz
theorem cutL_same {f g : Hd → Bool} : ∀ {R : List Hd} {m : Int}, (∀ x, x ∈ R → f x = g x) → cutL f m R = cutL g m R
  | [], _, _ => rfl
  | h :: R, m, e => by
    show (if f h then _ else _) = if g h then _ else _
    rw [e h List.mem_cons_self, cutL_same (m := m - min m h.n) fun x hx => e x (List.mem_cons_of_mem _ hx), cutL_same (m := m) fun x hx => e x (List.mem_cons_of_mem _ hx)]
theorem cutQ_same {f g : Hd → Bool} {o l : Int} : ∀ {R : List Hd} {m : Int}, (∀ x, x ∈ R → f x = g x) → cutQ f m R o l = cutQ g m R o l
  | [], _, _ => rfl
  | h :: R, m, e => by
    show (if f h then _ else _) = if g h then _ else _
    rw [e h List.mem_cons_self, cutQ_same (m := m - min m h.n) fun x hx => e x (List.mem_cons_of_mem _ hx), cutQ_same (m := m) fun x hx => e x (List.mem_cons_of_mem _ hx)]
theorem cutS_same {y : St} (f : Formed p s) (e : SameT y s) (b g M : Int) : SameT (cutS y b g M) (cutS s b g M) ∧ ∀ o l, cutQs y b g M o l = cutQs s b g M o l := by
  have em : moveR y = moveR s := revL_same e.ms.1 e.ms.2
  have eh : holdR y = holdR s := revL_same e.hs.1 e.hs.2
  have el : leftM y b g M = leftM s b g M := by unfold leftM; rw [em]
  have ef : ∀ x, x ∈ holdR s → heldF y b g x = heldF s b g x := fun x hx => by
    obtain ⟨j, hj, rfl⟩ := revL_mem hx
    obtain ⟨h1, h2, -⟩ := homeless_no (f.home j hj)
    unfold heldF goodH
    rw [e.line h1.2 h2.2]
  have q : ∀ o l, cutQs y b g M o l = cutQs s b g M o l := fun o l => by
    unfold cutQs
    rw [el, eh]
    exact cutQ_same ef
  have hh : revL (cutHs (heldF y b g) y.hs (leftM y b g M)).z (cutHs (heldF y b g) y.hs (leftM y b g M)).n = revL (cutHs (heldF s b g) s.hs (leftM s b g M)).z (cutHs (heldF s b g) s.hs (leftM s b g M)).n := by
    rw [cutHs_rev, cutHs_rev, el]
    have e1 : revL y.hs.z y.hs.n = revL s.hs.z s.hs.n := eh
    have e2 : cutL (heldF y b g) (leftM s b g M) (revL s.hs.z s.hs.n) = cutL (heldF s b g) (leftM s b g M) (revL s.hs.z s.hs.n) := cutL_same ef
    rw [e1, e2]
  have hm : revL (cutHs (fromF b g) y.ms M).z (cutHs (fromF b g) y.ms M).n = revL (cutHs (fromF b g) s.ms M).z (cutHs (fromF b g) s.ms M).n := by
    rw [cutHs_rev, cutHs_rev]
    have e1 : revL y.ms.z y.ms.n = revL s.ms.z s.ms.n := em
    rw [e1]
  refine ⟨⟨e.on, ⟨e.os.1, fun i hi => ?_⟩, revL_inj hh, revL_inj hm, e.si, e.so, e.sf⟩, q⟩
  have hi' : i < y.os.n := hi
  have w := e.os.2 i hi'
  refine ⟨w.1, w.2.1, fun j hj => ?_⟩
  have hj' : j < (y.os.z i).ls.n := hj
  show moreL ((y.os.z i).ls.z j) (cutQs y b g M i j) = moreL ((s.os.z i).ls.z j) (cutQs s b g M i j)
  rw [w.2.2 j hj', q]
theorem QIn.same {but : Int} {q q' : Nat → Nat → Int} {y : St} (Q : QIn p but q s) (e : SameT y s) (hq : ∀ a b, a < s.os.n → b < (s.os.z a).ls.n → q' a b = q a b) : QIn p but q' y := by
  refine ⟨e.right Q.r, fun a b ha hb => ?_, Q.bt⟩
  have ha' : a < s.os.n := by rw [← e.os.1]; exact ha
  have k := e.os.2 a ha
  have hb' : b < (s.os.z a).ls.n := by rw [← k.2.1]; exact hb
  rw [hq a b ha' hb', k.1, k.2.2 b hb]
  exact Q.q0 a b ha' hb'
end
end Go.Proofs.Ytbcacebifpagpae
namespace Go.Proofs.Ytbcacebifpagpae
open Go.RowKit Go.Shelf Go.Sort
set_option linter.unusedVariables false
theorem Check_rightW (p : Pl) (s : St) (w : World) (hp : p.At w) (hs : s.At w) (h : stateE p s = 0) :
    Calls Try.prog 21 #[.agg #[.slice p.ab p.nb p.cb, .slice p.sa p.ns p.cs], .agg #[.slice s.on.a s.on.n s.on.c, .slice s.os.a s.os.n s.os.c, .slice s.hs.a s.hs.n s.hs.c, .slice s.ms.a s.ms.n s.ms.c, .slice s.si.a s.si.n s.si.c, .slice s.so.a s.so.n s.so.c, .slice s.sf.a s.sf.n s.sf.c]] w fun e w' => e = .returned (.int .i64 0) ∧ Below w.heap.size w w' := by
  have k := stateCheck_any p s w hp hs
  rw [h] at k
  exact k
end Go.Proofs.Ytbcacebifpagpae
namespace Go.Proofs.Ytbcacebifpagpae
open Go.RowKit Go.Shelf Go.Sort
set_option linter.unusedVariables false
theorem countE_avail {p : Pl} {s : St} {bin good seen : Int} (h : ¬ availE p s bin good = 0) : countE p s bin good seen = availE p s bin good := by
  unfold availE at h ⊢
  unfold countE
  by_cases h0 : stateE p s = 0
  · rw [if_pos h0] at h ⊢
    rw [if_pos h0]
    cases h1 : (inB bin 0 ((p.nb : Int) - 1) && inB good 0 ((p.ns : Int) - 1))
    · rfl
    · rw [h1] at h; exact absurd rfl h
  · rw [if_neg h0, if_neg h0]
theorem countIn0 {p : Pl} {s : St} {bin good : Int} (h : availE p s bin good = 0) : stateE p s = 0 ∧ ∃ b g : Nat, bin = b ∧ good = g ∧ b < p.nb ∧ g < p.ns := by
  unfold availE at h
  by_cases h0 : stateE p s = 0
  · rw [if_pos h0] at h
    cases h1 : (inB bin 0 ((p.nb : Int) - 1) && inB good 0 ((p.ns : Int) - 1))
    · rw [h1] at h; exact absurd h (by decide)
    · simp only [Bool.and_eq_true] at h1
      have q1 := inB_true h1.1
      have q2 := inB_true h1.2
      exact ⟨h0, bin.toNat, good.toNat, by omega, by omega, by omega, by omega⟩
  · rw [if_neg h0] at h; exact absurd h h0
theorem countE_range {p : Pl} {s : St} {b g : Nat} {seen : Int} (h : stateE p s = 0) (h2 : inB seen 0 200 = false) : countE p s b g seen = 3 := by
  unfold countE
  rw [if_pos h, h2, Bool.and_false]
  rfl
theorem countE_many {p : Pl} {s : St} {b g : Nat} {seen : Int} (h : stateE p s = 0) (hb : b < p.nb) (hg : g < p.ns) (h2 : inB seen 0 200 = true) (h3 : inB (s.sf.z g + (seen - (s.on.r b).z g)) (-1048576) 1048576 = false) : countE p s b g seen = 2 := by
  unfold countE
  have e : (Int.toNat (b : Int)) = b := rfl
  have e2 : (Int.toNat (g : Int)) = g := rfl
  rw [if_pos h, inB_mk (by omega), inB_mk (by omega), h2, e, e2, h3]
  rfl
theorem countIn_of {p : Pl} {s : St} {b g : Nat} {seen : Int} (h : stateE p s = 0) (hb : b < p.nb) (hg : g < p.ns) (h2 : inB seen 0 200 = true) (h3 : inB (s.sf.z g + (seen - (s.on.r b).z g)) (-1048576) 1048576 = true) : CountIn p s b g seen :=
  ⟨rightT h, hb, hg, (inB_true h2).1, (inB_true h2).2, inB_true h3⟩
theorem OwnS.setFix {A : Nat} {w : World} {s : St} {G : Nat} (h : OwnS A w s) (ha : s.sf.a = some ⟨G, 0, none⟩) (g : Nat) (x : Int) : OwnS A (w.setCell ⟨G, g, none⟩ (.int .i64 x)) (Go.Proofs.Ytbcacebifpagpae.setFix s g x) := by
  obtain ⟨q, b1, b2, b3, b4, b5⟩ := h.sf
  rw [ha] at b1
  simp only [Option.some.injEq, Addr.mk.injEq, and_true] at b1
  subst b1
  refine ⟨?_, fun i hi => (h.rows i hi).apart (fun e => (h.ari i hi).2.2 (e.trans ha.symm)) _ _, h.rapart, h.os.other b5 (by decide) (by decide) _ _, h.hs.other b5 (by decide) _ _, h.ms.other b5 (by decide) _ _, h.msr.set _ _ _, h.si.apart (fun e => h.aif (e.trans ha.symm)) _ _, h.so.apart (fun e => h.aof (e.trans ha.symm)) _ _, h.sf.set ha _ _, h.aio, h.aif, h.aof, h.ari⟩
  obtain ⟨q', a0, a1, a2, a3, a4⟩ := h.on
  exact ⟨q', a0, a1, a2, a3, a4.other (a := ⟨G, g, none⟩) (Blk.ne2 a4 b5 (by decide)) _⟩
theorem CountIn.formed0 {p : Pl} {s : St} {b g : Nat} {seen : Int} (h : CountIn p s b g seen) : Formed p (fixOn s b g seen) := by
  have f := h.r.fm
  have G := h.right.fm
  exact ⟨G.sh, G.sh0, f.os4, f.ms8, f.lns, f.kind, f.line, f.hold, f.home, f.move, G.sin, G.son, G.sfn, G.sib, G.sob, G.sfb⟩
theorem CountIn.formed1 {p : Pl} {s : St} {b g : Nat} {seen : Int} (h : CountIn p s b g seen) : Formed p (fixOn (withMoves s (cutHs (fromF b g) s.ms (missZ s b g seen))) b g seen) := by
  have f := h.r.fm
  have G := h.right.fm
  exact ⟨G.sh, G.sh0, f.os4, G.ms8, f.lns, f.kind, f.line, f.hold, f.home, G.move, G.sin, G.son, G.sfn, G.sib, G.sob, G.sfb⟩
theorem CountIn.qmax {p : Pl} {s : St} {b g : Nat} {seen : Int} (h : CountIn p s b g seen) (o l : Int) : cutQs s b g (missZ s b g seen) o l ≤ 100000 := by
  have k := (cutQs_bd (b := b) (g := g) h.r h.miss0 o l).2
  have kb := keptS_bd (z := s.hs.z) o l s.hs.n fun q hq => (fineH_true (right_fine h.r.fm.hold q hq)).2.2.2
  have h72 := h.r.fm.hs72
  omega
theorem CountIn.cutted {p : Pl} {s x2 : St} {b g : Nat} {seen v : Int} (h : CountIn p s b g seen) (e : SameT x2 (fixOn s b g seen)) (hv : max 0 v = leftL (fromF b g) (missZ s b g seen) (moveR x2)) :
    let x3 := withMoves x2 (cutHs (fromF b g) x2.ms (missZ s b g seen))
    let Q := cutQ (heldF x3 b g) (max 0 v) (holdR x3)
    SameT (withHolds (backS x3 Q) (cutHs (heldF x3 b g) x3.hs (max 0 v))) (countS s b g seen) ∧ (∀ o l, Q o l = cutQs s b g (missZ s b g seen) o l) ∧ Formed p x3 := by
  have c := cutS_same h.formed0 e b g (missZ s b g seen)
  refine ⟨?_, fun o l => ?_, ?_⟩
  · have e1 : withHolds (backS (withMoves x2 (cutHs (fromF b g) x2.ms (missZ s b g seen))) (cutQ (heldF x2 b g) (max 0 v) (holdR x2))) (cutHs (heldF x2 b g) x2.hs (max 0 v)) = cutS x2 b g (missZ s b g seen) := by
      rw [hv]
      rfl
    exact e1 ▸ c.1
  · have e1 : cutQ (heldF x2 b g) (max 0 v) (holdR x2) o l = cutQs x2 b g (missZ s b g seen) o l := by
      rw [hv]
      rfl
    exact e1.trans (c.2 o l)
  · refine SameT.formed ?_ h.formed1
    have k : revL (cutHs (fromF b g) x2.ms (missZ s b g seen)).z (cutHs (fromF b g) x2.ms (missZ s b g seen)).n = revL (cutHs (fromF b g) s.ms (missZ s b g seen)).z (cutHs (fromF b g) s.ms (missZ s b g seen)).n := by
      rw [cutHs_rev, cutHs_rev, revL_same (h := x2.ms) (k := s.ms) e.ms.1 e.ms.2]
    exact ⟨e.on, e.os, e.hs, revL_inj k, e.si, e.so, e.sf⟩
set_option maxRecDepth 100000 in
set_option maxHeartbeats 4000000 in
theorem Count_any (p : Pl) (s : St) (bin good seen : Int) (w : World) (hp : p.At w) (hs : s.At w) :
    Calls Try.prog 22 #[p.val, s.val, .int .i64 bin, .int .i64 good, .int .i64 seen] w fun e w' => ∃ x : St, e = .returned (.tuple #[x.val, .int .i64 (countE p s bin good seen)]) ∧ x.At w' ∧ ActOK (countE p s bin good seen) (countT p s bin.toNat good.toNat seen) x ∧ (countE p s bin good seen = 0 → OwnS w.heap.size w' x) ∧ Below w.heap.size w w' := by
  obtain ⟨W0, hW, hWB, X0, Z0⟩ : ∃ W, (((w.alloc (.cells #[.slice p.ab p.nb p.cb, .slice p.sa p.ns p.cs] 25)).alloc (.cells s.cells 31)).alloc (.cells #[.slice .none 0 0, .slice .none 0 0, .slice .none 0 0, .slice .none 0 0, .slice .none 0 0, .slice .none 0 0, .slice .none 0 0] 31)) = W ∧ Below w.heap.size w W ∧ Boxes W w.heap.size (w.heap.size + 1) p s ∧ Blk W (w.heap.size + 2) 31 7 (fun _ => .slice .none 0 0) :=
    ⟨_, rfl, (two_below _ _ _).alloc (by simp; omega) _, (boxes_new w p s _ _).below ((Below.refl _ _).alloc (Nat.le_refl _) _), (Blk.mk' (cur := #[.slice .none 0 0, .slice .none 0 0, .slice .none 0 0, .slice .none 0 0, .slice .none 0 0, .slice .none 0 0, .slice .none 0 0]) (by simp) rfl).congr (fun j hj => by match j, hj with | 0, _ => rfl | 1, _ => rfl | 2, _ => rfl | 3, _ => rfl | 4, _ => rfl | 5, _ => rfl | 6, _ => rfl)⟩
  have HC : Hid (∀ wk, Below W0.heap.size W0 wk → Boxes wk w.heap.size (w.heap.size + 1) p s ∧ p.At wk ∧ s.At wk ∧ Below w.heap.size w wk ∧ Blk wk (w.heap.size + 2) 31 7 (fun _ => .slice .none 0 0)) := fun wk h => ⟨X0.below h, (hp.below hWB).below h, (hs.below hWB).below h, hWB.trans (h.mono hWB.size), Z0.below h⟩
  have HW : Hid (((w.alloc (.cells #[.slice p.ab p.nb p.cb, .slice p.sa p.ns p.cs] 25)).alloc (.cells #[.slice s.on.a s.on.n s.on.c, .slice s.os.a s.os.n s.os.c, .slice s.hs.a s.hs.n s.hs.c, .slice s.ms.a s.ms.n s.ms.c, .slice s.si.a s.si.n s.si.c, .slice s.so.a s.so.n s.so.c, .slice s.sf.a s.sf.n s.sf.c] 31)).alloc (.cells #[.slice .none 0 0, .slice .none 0 0, .slice .none 0 0, .slice .none 0 0, .slice .none 0 0, .slice .none 0 0, .slice .none 0 0] 31) = W0) := hW
  have leb := hp.leb
  have capb0 := hp.capb
  have les := hp.les
  have caps0 := hp.caps
  have capb := capb0
  have caps := caps0
  have zlt0 := Z0.lt
  unfold maxLen at capb caps
  have HSL : Hid ((s.on.n ≤ s.on.c ∧ s.on.c ≤ maxLen) ∧ s.sf.n ≤ s.sf.c ∧ s.sf.c ≤ maxLen) := ⟨⟨hs.on.le, hs.on.cap⟩, hs.sf.le, hs.sf.cap⟩
  clear hW X0 Z0 hp hs
  unfold Pl.val St.val
  go_enter Try.func22, Try.ntmps22
  go_wp2_with fail
  rw [HW.out]
  obtain ⟨X, hpk, hsk, hBw, hz⟩ := HC.out W0 (Below.refl _ _)
  refine (Avail_any p s bin good W0 hpk hsk).mono ?_
  rintro e w1 ⟨rfl, hB⟩
  clear X hpk hsk hBw hz HW
  obtain ⟨⟨⟨l1, d0, d1⟩, l2, c0, c1, c2, c3, c4, c5, c6⟩, hpk, hsk, hBw, hz⟩ := HC.out w1 hB
  by_cases h0 : availE p s bin good = 0
  · obtain ⟨hse, b, g, rfl, rfl, hb, hg⟩ := countIn0 h0
    have H0 : Hid (stateE p s = 0) := hse
    have HR : Hid (RightT p s) := rightT hse
    have HAV : Hid (availV p s b g = availZ s b g) := by show availV p s b g = _; unfold availV; rw [if_pos h0]; rfl
    rw [HAV.out, h0]
    clear h0 hse
    have son := HR.out.fm.sh.n
    have hbo : b < s.on.n := by omega
    have HLEN : Hid ((s.on.r b).n = p.ns) := HR.out.fm.sh.len b hbo
    cases h2 : inB seen 0 200
    · have HX : Hid (countE p s b g seen = 3) := countE_range H0.out h2
      have HNE : Hid (¬ countE p s b g seen = 0) := by show ¬ _; rw [HX.out]; decide
      generalize availZ s b g = AV at *
      clear hpk hsk
      have zl := hz.lt
      have zf0 := hz.frozen 0
      have zc0 := hz.cell (j := 0) (by decide)
      have zf1 := hz.frozen 1
      have zc1 := hz.cell (j := 1) (by decide)
      have zf2 := hz.frozen 2
      have zc2 := hz.cell (j := 2) (by decide)
      have zf3 := hz.frozen 3
      have zc3 := hz.cell (j := 3) (by decide)
      have zf4 := hz.frozen 4
      have zc4 := hz.cell (j := 4) (by decide)
      have zf5 := hz.frozen 5
      have zc5 := hz.cell (j := 5) (by decide)
      have zf6 := hz.frozen 6
      have zc6 := hz.cell (j := 6) (by decide)
      go_wp2_with (go_at_call 24; refine calls_to (Within_any _ _ _ _) ?_)
      have KZ := set7_blk hz (.slice .none 0 0) (.slice .none 0 0) (.slice .none 0 0) (.slice .none 0 0) (.slice .none 0 0) (.slice .none 0 0) (.slice .none 0 0)
      have hbz := set7_below (b := w.heap.size + 2) hBw (by omega) (.slice .none 0 0) (.slice .none 0 0) (.slice .none 0 0) (.slice .none 0 0) (.slice .none 0 0) (.slice .none 0 0) (.slice .none 0 0)
      unfold set7 at KZ hbz
      obtain ⟨c0', c1', c2', c3', c4', c5', c6'⟩ := box_cells KZ
      refine bodyPost_ret (v := .tuple #[noneS.val, .int .i64 3]) (by simp [results, Try.results22, go_sem, noneS, St.val, c0', c1', c2', c3', c4', c5', c6']) rfl ?_
      exact ⟨noneS, by rw [HX.out]; rfl, noneS_at _, ⟨fun h => absurd h (HNE.out), fun _ => ⟨rfl, rfl, rfl, rfl, rfl, rfl, rfl⟩⟩, fun h => absurd h (HNE.out), hbz⟩
    · have sb := inB_true h2
      obtain ⟨⟨onl, onc⟩, sfl, sfc⟩ := HSL.out
      unfold maxLen at onc sfc
      obtain ⟨bb, ob, hoa, hbb, e0, hrow⟩ := hsk.on.rows b hbo
      have HLG : g < (s.on.r b).n := by rw [HLEN.out]; exact hg
      obtain ⟨bg, og, hga, hbg, e1⟩ := hrow.ints g HLG
      have rl := hrow.le
      have rc := hrow.cap
      unfold maxLen at rc
      have sfn : g < s.sf.n := by rw [HR.out.fm.sfn]; exact hg
      obtain ⟨bf, of, hfa, hbf, e2⟩ := hsk.sf.ints g sfn
      have HOA : Hid (s.on.a = some ⟨bb, ob, none⟩) := hoa
      have HFA : Hid (s.sf.a = some ⟨bf, of, none⟩) := hfa
      rw [hoa] at c0
      rw [hga] at e0
      rw [hfa] at c6
      have q0 : (0 : Int) ≤ (b : Int) := by omega
      have q1 : (b : Int) < (s.on.n : Int) := by omega
      have q2 : (0 : Int) ≤ (g : Int) := by omega
      have q3 : (g : Int) < ((s.on.r b).n : Int) := by omega
      have q4 : (g : Int) < (s.sf.n : Int) := by omega
      have onb := HR.out.fm.sh.num b hbo g hg
      have sfb := HR.out.fm.sfb g hg
      have H2 : Hid (inB seen 0 200 = true) := h2
      clear hoa hga hfa hrow son
      cases h3 : inB (s.sf.z g + (seen - (s.on.r b).z g)) (-1048576) 1048576
      · have HX : Hid (countE p s b g seen = 2) := countE_many H0.out hb hg H2.out h3
        have HNE : Hid (¬ countE p s b g seen = 0) := by show ¬ _; rw [HX.out]; decide
        generalize (s.on.r b).z g = ON at *
        generalize s.sf.z g = SF at *
        generalize availZ s b g = AV at *
        clear hpk hsk
        have zl := hz.lt
        have zf0 := hz.frozen 0
        have zc0 := hz.cell (j := 0) (by decide)
        have zf1 := hz.frozen 1
        have zc1 := hz.cell (j := 1) (by decide)
        have zf2 := hz.frozen 2
        have zc2 := hz.cell (j := 2) (by decide)
        have zf3 := hz.frozen 3
        have zc3 := hz.cell (j := 3) (by decide)
        have zf4 := hz.frozen 4
        have zc4 := hz.cell (j := 4) (by decide)
        have zf5 := hz.frozen 5
        have zc5 := hz.cell (j := 5) (by decide)
        have zf6 := hz.frozen 6
        have zc6 := hz.cell (j := 6) (by decide)
        go_wp2_with (go_at_call 24; refine calls_to (Within_any _ _ _ _) ?_)
        have KZ := set7_blk hz (.slice .none 0 0) (.slice .none 0 0) (.slice .none 0 0) (.slice .none 0 0) (.slice .none 0 0) (.slice .none 0 0) (.slice .none 0 0)
        have hbz := set7_below (b := w.heap.size + 2) hBw (by omega) (.slice .none 0 0) (.slice .none 0 0) (.slice .none 0 0) (.slice .none 0 0) (.slice .none 0 0) (.slice .none 0 0) (.slice .none 0 0)
        unfold set7 at KZ hbz
        obtain ⟨c0', c1', c2', c3', c4', c5', c6'⟩ := box_cells KZ
        refine bodyPost_ret (v := .tuple #[noneS.val, .int .i64 2]) (by simp [results, Try.results22, go_sem, noneS, St.val, c0', c1', c2', c3', c4', c5', c6']) rfl ?_
        exact ⟨noneS, by rw [HX.out]; rfl, noneS_at _, ⟨fun h => absurd h (HNE.out), fun _ => ⟨rfl, rfl, rfl, rfl, rfl, rfl, rfl⟩⟩, fun h => absurd h (HNE.out), hbz⟩
      · have HCI : Hid (CountIn p s b g seen) := countIn_of H0.out hb hg H2.out h3
        have HX : Hid (countE p s b g seen = 0) := countE_of HCI.out
        have HCS : Hid (Calls Try.prog 25 #[s.val] w1 fun e w' => ∃ s' : St, e = .returned s'.val ∧ SameT s' s ∧ OwnS w1.heap.size w' s' ∧ Below w1.heap.size w1 w') := copyState_any p s w1 hsk HR.out.fm
        obtain ⟨ON, hON⟩ : ∃ ON, (s.on.r b).z g = ON := ⟨_, rfl⟩
        obtain ⟨SF, hSF⟩ : ∃ SF, s.sf.z g = SF := ⟨_, rfl⟩
        obtain ⟨AV, hAV⟩ : ∃ AV, availZ s b g = AV := ⟨_, rfl⟩
        have HV : Hid ((s.on.r b).z g = ON ∧ s.sf.z g = SF ∧ availZ s b g = AV) := ⟨hON, hSF, hAV⟩
        have avb : 0 ≤ AV ∧ AV ≤ ON := by
          have a := (goods_no (HR.out.goods g hg)).2 b hb
          have c := HCI.out.bound
          rw [hAV] at a c
          rw [hON] at c
          omega
        rw [hON] at e1 onb h3
        rw [hSF] at e2 sfb h3
        rw [hAV]
        clear hpk hsk hBw hz hON hSF hAV HAV
        go_wp2_with (go_at_call 24; refine calls_to (Within_any _ _ _ _) ?_)
        rw [← HOA.out, ← HFA.out]
        refine Calls.mono HCS.out ?_
        rintro e w4 ⟨o, rfl, hsame, hown, hB4⟩
        clear HCS l1 d0 d1 l2 c0 c1 c2 c3 c4 c5 c6 hbb e0 hbg e1 hbf e2 h2 h3 HOA HFA
        have A1 : W0.heap.size ≤ w1.heap.size := hB.size
        have A2 : w1.heap.size ≤ w4.heap.size := hB4.size
        have HLOW : Hid (w.heap.size ≤ W0.heap.size) := (HC.out _ (Below.refl _ _)).2.2.2.1.size
        obtain ⟨W5, hW5, hWB5, K5, M5⟩ : ∃ W, (w4.alloc (.map #[] 0)).alloc (.cells #[.slice o.on.a o.on.n o.on.c, .slice o.os.a o.os.n o.os.c, .slice o.hs.a o.hs.n o.hs.c, .slice o.ms.a o.ms.n o.ms.c, .slice o.si.a o.si.n o.si.c, .slice o.so.a o.so.n o.so.c, .slice o.sf.a o.sf.n o.sf.c, .int .i64 (b : Int), .int .i64 (g : Int), .map (some w4.heap.size)] 92) = W ∧ Below w4.heap.size w4 W ∧ Blk W (w4.heap.size + 1) 92 10 (cutC o b g w4.heap.size) ∧ MapQ W w4.heap.size (fun _ _ => 0) :=
          ⟨_, rfl, ((Below.refl _ _).alloc (Nat.le_refl _) _).alloc (by simp) _, (Blk.mk' (by simp) rfl).congr (fun j hj => by match j, hj with | 0, _ => rfl | 1, _ => rfl | 2, _ => rfl | 3, _ => rfl | 4, _ => rfl | 5, _ => rfl | 6, _ => rfl | 7, _ => rfl | 8, _ => rfl | 9, _ => rfl), (MapQ.new w4).below ((Below.refl _ _).alloc (Nat.le_refl _) _)⟩
        have HW5 : Hid ((w4.alloc (.map #[] 0)).alloc (.cells #[.slice o.on.a o.on.n o.on.c, .slice o.os.a o.os.n o.os.c, .slice o.hs.a o.hs.n o.hs.c, .slice o.ms.a o.ms.n o.ms.c, .slice o.si.a o.si.n o.si.c, .slice o.so.a o.so.n o.so.c, .slice o.sf.a o.sf.n o.sf.c, .int .i64 (b : Int), .int .i64 (g : Int), .map (some w4.heap.size)] 92) = W5) := hW5
        have hB14 := hB.trans (hB4.mono hB.size)
        have hB05 := hB14.trans (hWB5.mono hB14.size)
        have HM5 : Hid (OwnS w1.heap.size w4 o ∧ Below w4.heap.size w4 W5 ∧ Blk W5 (w4.heap.size + 1) 92 10 (cutC o b g w4.heap.size) ∧ MapQ W5 w4.heap.size (fun _ _ => 0) ∧ Below W0.heap.size W0 W5 ∧ SameT o s) := ⟨hown, hWB5, K5, M5, hB05, hsame⟩
        obtain ⟨⟨⟨l1, d0, d1⟩, l2, c0, -⟩, hpk, hsk, -, -⟩ := HC.out W5 hB05
        have hput : putE p s.on b g (seen - ON) = 0 := by
          have hu : shelfErr p s.on b g = 0 := by rw [shelfErr_eq HR.out.fm.sh0, inB_mk (by omega), inB_mk (by omega)]; rfl
          have e := HV.out.1
          have hi : inB (seen - ON) (-((s.on.r b).z g)) (200 - (s.on.r b).z g) = true := inB_mk (by omega)
          simp [putE, hu, hi]
        have HPU : Hid (Calls Try.prog 58 #[p.val, s.on.val, .int .i64 b, .int .i64 g, .int .i64 (seen - ON)] W5 fun e w' => ∃ s' : Sh, e = .returned (.tuple #[s'.val, .int .i64 0]) ∧ OwnR W5.heap.size w' s' ∧ s'.n = s.on.n ∧ (∀ i, i < s.on.n → (s'.r i).n = (s.on.r i).n ∧ ∀ j, j < (s.on.r i).n → (s'.r i).z j = putZ s.on b g (seen - ON) i j) ∧ Below W5.heap.size W5 w') := PutOwn_any p s.on b g (seen - ON) W5 hpk hsk.on hput
        rw [← HW5.out] at l1 d0 d1 l2 c0
        clear hW5 hWB5 K5 M5 hB14 hB05 hown hB4 hB hsame hpk hsk hput
        have hmm : ∀ (t : TypeId) (w : World), (Instr.makeMap t none).run Try.prog w = .ok (.map (some w.heap.size)) (w.alloc (.map #[] 0)) := fun _ _ => rfl
        simp only [St.val]
        go_wp2_with fail
        rw [HW5.out]
        clear l1 d0 d1 l2 c0 HW5 hmm
        refine Calls.mono HPU.out ?_
        rintro e w6 ⟨r6, rfl, hR, hRn, hRz, hB6⟩
        clear HPU
        have HX1 : Hid (SameT (setFix ⟨r6, o.os, o.hs, o.ms, o.si, o.so, o.sf⟩ g (SF + (seen - ON))) (fixOn s b g seen)) := by
          have e := HM5.out.2.2.2.2.2
          refine ⟨⟨hRn, fun i hi => ?_⟩, e.os, e.hs, e.ms, e.si, e.so, ⟨e.sf.1, fun j hj => ?_⟩⟩
          · have hi' : i < s.on.n := by rw [← hRn]; exact hi
            have k := hRz i hi'
            refine ⟨k.1.trans (setOn_len s b g seen i).symm, fun j hj => ?_⟩
            have hj' : j < (r6.r i).n := hj
            rw [fixOn_num]
            show (r6.r i).z j = _
            rw [k.2 j (by rw [← k.1]; exact hj')]
            show (if i = b ∧ j = g then (s.on.r i).z j + (seen - ON) else (s.on.r i).z j) = _
            by_cases c : i = b ∧ j = g
            · have hv := HV.out.1
              rw [if_pos c, if_pos c, c.1, c.2, hv]
              omega
            · rw [if_neg c, if_neg c]
          · have hj' : j < o.sf.n := hj
            have hv := HV.out
            show (if j = g then SF + (seen - ON) else o.sf.z j) = if j = g then s.sf.z g + (seen - (s.on.r b).z g) else s.sf.z j
            rw [hv.1, hv.2.1, e.sf.2 j hj']
        have HZ6 : Hid (o.sf.z g = SF) := (HM5.out.2.2.2.2.2.sf.2 g (by rw [HM5.out.2.2.2.2.2.sf.1]; exact sfn)).trans HV.out.2.1
        have b65 := HM5.out.2.1.size
        have B6 := HM5.out.2.2.1.below hB6
        have osn : g < o.sf.n := by rw [HM5.out.2.2.2.2.2.sf.1]; exact sfn
        have O4 := OwnS.below HM5.out.1 (HM5.out.2.1.trans (hB6.mono HM5.out.2.1.size))
        obtain ⟨G, ga, gA, gl, gle, gc, gcell, gfz⟩ := O4.sf.cellAt osn
        have gl4 : G < w4.heap.size := by
          obtain ⟨G', ga', -, gl', -⟩ := HM5.out.1.sf.cellAt osn
          rw [ga] at ga'
          simp only [Option.some.injEq, Addr.mk.injEq, and_true] at ga'
          omega
        unfold maxLen at gc
        rw [HZ6.out] at gcell
        have HGA : Hid (o.sf.a = some ⟨G, 0, none⟩) := ga
        have gne : ¬ G = w4.heap.size + 1 := by omega
        have gne2 : ¬ w4.heap.size + 1 = G := by omega
        have y0 := B6.lt
        have y1 := B6.frozen 0
        have y2 := B6.cell (j := 0) (by decide)
        have y3 : w6.cell? ⟨w4.heap.size + 1, 6, none⟩ = some (.slice (some ⟨G, 0, none⟩) o.sf.n o.sf.c) := by have h := B6.cell (j := 6) (by decide); rw [← ga]; exact h
        have gf := gfz g
        have q5 : (g : Int) < (o.sf.n : Int) := by omega
        have HI : Hid (CutI w1.heap.size (w4.heap.size + 1) w4.heap.size W0 (setFix ⟨r6, o.os, o.hs, o.ms, o.si, o.so, o.sf⟩ g (SF + (seen - ON))) b g (fun _ _ => 0) ((w6.setCell ⟨w4.heap.size + 1, 0, none⟩ (.slice r6.a r6.n r6.c)).setCell ⟨G, g, none⟩ (.int .i64 (SF + (seen - ON))))) := by
          have m6 := HM5.out.2.2.2.1.below hB6
          have bl := HM5.out.2.2.2.2.1.trans (hB6.mono HM5.out.2.2.2.2.1.size)
          have o1 := OwnS.swap HM5.out.1 (HM5.out.2.1.trans (hB6.mono HM5.out.2.1.size)) hR b65 (by omega)
          have o2 := OwnS.boxC o1 B6 0 (.slice r6.a r6.n r6.c)
          have o3 := o2.setFix (G := G) ga g (SF + (seen - ON))
          have k2 := B6.set 0 (.slice r6.a r6.n r6.c)
          have sz := hB6.size
          obtain ⟨Gq, gq1, -, -, -, gq5⟩ := o2.sf
          have gq : G = Gq := by have e : o.sf.a = some ⟨Gq, 0, none⟩ := gq1; rw [ga] at e; simpa using e
          subst gq
          have m7 := m6.set (j := 0) (B6.noMap m6) (.slice r6.a r6.n r6.c)
          refine ⟨o3, (k2.other (a := ⟨G, g, none⟩) gne2 _).congr (fun j hj => by match j, hj with | 0, _ => rfl | 1, _ => rfl | 2, _ => rfl | 3, _ => rfl | 4, _ => rfl | 5, _ => rfl | 6, _ => rfl | 7, _ => rfl | 8, _ => rfl | 9, _ => rfl), m7.set (j := g) (gq5.noMap m7) _, (bl.setCell (p := ⟨w4.heap.size + 1, 0, none⟩) (by show W0.heap.size ≤ w4.heap.size + 1; omega) _).setCell (p := ⟨G, g, none⟩) (by show W0.heap.size ≤ G; omega) _, by simp; omega, A1, by omega, A2⟩
        have HMZ : Hid (max 0 (-(seen - ON) - AV) = missZ s b g seen) := by
          have k := HCI.out.bound
          have v := HV.out
          rw [v.1, v.2.2] at k
          show max 0 (-(seen - ON) - AV) = _
          unfold missZ
          omega
        generalize hX2 : setFix ⟨r6, o.os, o.hs, o.ms, o.si, o.so, o.sf⟩ g (SF + (seen - ON)) = x2 at HX1 HI
        clear hX2 gfz B6 O4 hR hRn hRz hB6 ga gA HM5 HZ6 gle
        simp only [Sh.val]
        go_wp2_with fail
        clear y0 y1 y2 y3 gf gcell gl gl4 gne gne2 b65
        obtain ⟨wB, hwB⟩ : ∃ wB, ((w6.setCell ⟨w4.heap.size + 1, 0, none⟩ (.slice r6.a r6.n r6.c)).setCell ⟨G, g, none⟩ (.int .i64 (SF + (seen - ON)))) = wB := ⟨_, rfl⟩
        rw [hwB] at HI ⊢
        clear hwB
        have f0 := HCI.out.formed0
        have HCM : Hid (Calls Try.prog 60 #[.pointer (some ⟨w4.heap.size + 1, 0, none⟩), .int .i64 (-(seen - ON) - AV)] wB fun e w' => ∃ v : Int, e = .returned (.int .i64 v) ∧ max 0 v = leftL (fromF b g) (missZ s b g seen) (moveR x2) ∧ (-100000 ≤ v ∧ v ≤ 100000) ∧ CutI w1.heap.size (w4.heap.size + 1) w4.heap.size W0 (withMoves x2 (cutHs (fromF b g) x2.ms (missZ s b g seen))) b g (fun _ _ => 0) w') := by
          have h := cutMoves_any w1.heap.size (w4.heap.size + 1) w4.heap.size W0 x2 b g (fun _ _ => 0) (-(seen - ON) - AV) wB HI.out (fun j hj => by
            rw [HX1.out.ms.2 j hj]
            have := f0.moveN j (by rw [← HX1.out.ms.1]; exact hj)
            omega) (by rw [HX1.out.ms.1]; exact f0.ms8) (by omega)
          rw [HMZ.out] at h
          exact h
        clear f0 HI
        refine Calls.mono HCM.out ?_
        rintro e w7 ⟨v, rfl, hv, hvb, hI7⟩
        clear HCM
        have CT := HCI.out.cutted HX1.out hv
        obtain ⟨ct1, ct2, ct3⟩ := CT
        obtain ⟨x3, hx3⟩ : ∃ x3, withMoves x2 (cutHs (fromF b g) x2.ms (missZ s b g seen)) = x3 := ⟨_, rfl⟩
        rw [hx3] at hI7 ct3
        have ct1' : SameT (withHolds (backS x3 (cutQ (heldF x3 b g) (max 0 v) (holdR x3))) (cutHs (heldF x3 b g) x3.hs (max 0 v))) (countS s b g seen) := by rw [← hx3]; exact ct1
        have ct2' : ∀ o l, cutQ (heldF x3 b g) (max 0 v) (holdR x3) o l = cutQs s b g (missZ s b g seen) o l := by rw [← hx3]; exact ct2
        clear ct1 ct2 hx3 hv
        have HCH := cutHolds_any p w1.heap.size (w4.heap.size + 1) w4.heap.size W0 x3 b g v w7 hI7 ct3 hvb (fun o l => by rw [ct2' o l]; exact HCI.out.qmax o l)
        obtain ⟨QQ, hQQ⟩ : ∃ QQ, cutQ (heldF x3 b g) (max 0 v) (holdR x3) = QQ := ⟨_, rfl⟩
        rw [hQQ] at HCH ct1' ct2'
        obtain ⟨x4, hx4⟩ : ∃ x4, withHolds (backS x3 QQ) (cutHs (heldF x3 b g) x3.hs (max 0 v)) = x4 := ⟨_, rfl⟩
        rw [hx4] at HCH ct1'
        have HCH2 : Hid (Calls Try.prog 59 #[.pointer (some ⟨w4.heap.size + 1, 0, none⟩), .int .i64 v] w7 fun e w' => e = .returned (.tuple #[]) ∧ CutI w1.heap.size (w4.heap.size + 1) w4.heap.size W0 x4 b g QQ w') := HCH
        have HS4 : Hid (SameT x4 (countS s b g seen) ∧ ∀ o l, QQ o l = cutQs s b g (missZ s b g seen) o l) := ⟨ct1', ct2'⟩
        clear HCH ct1' ct2' ct3 hQQ hx4 hI7 hvb HX1 HMZ
        go_wp2_with fail
        refine Calls.mono HCH2.out ?_
        rintro e w8 ⟨rfl, hI8⟩
        clear HCH2
        have HI8 : Hid (CutI w1.heap.size (w4.heap.size + 1) w4.heap.size W0 x4 b g QQ w8) := hI8
        obtain ⟨⟨⟨l1, d0, d1⟩, -⟩, -⟩ := HC.out w8 hI8.bel
        have HTE : Hid (Calls Try.prog 61 #[.pointer (some ⟨w4.heap.size + 1, 0, none⟩), p.val] w8 fun e w' => e = .returned (.tuple #[]) ∧ ∃ y, TkAll p b (fun i j => QQ i j) (relM x4) x4 x4.os.n y ∧ CutI w1.heap.size (w4.heap.size + 1) w4.heap.size W0 y b g QQ w') :=
          takeElsewhere_any p w1.heap.size (w4.heap.size + 1) w4.heap.size W0 x4 b g QQ w8 hI8 (fun wk hb => (HC.out wk hb).2.1) (HCI.out.qin.same HS4.out.1 fun i j _ _ => HS4.out.2 i j)
        clear hI8 HI8
        go_wp2_with fail
        clear l1 d0 d1
        refine Calls.mono HTE.out ?_
        rintro e w9 ⟨rfl, y, hT, hI9⟩
        clear HTE
        have HY : Hid (SameT y (countT p s b g seen)) := by
          refine TkAll.same HCI.out.qin (fun _ _ => rfl) (Nat.le_refl s.os.n) HCI.out.all ?_
          have n4 : x4.os.n = s.os.n := HS4.out.1.os.1
          rw [n4] at hT
          refine TkAll.base (m' := relM x4) HS4.out.1 (fun _ _ => rfl) (fun i hi => ?_) (fun i j _ _ => HS4.out.2 i j) (Nat.le_refl s.os.n) hT
          exact (HS4.out.1.os.2 i (by rw [n4]; exact hi)).2.1
        have HI9 : Hid (CutI w1.heap.size (w4.heap.size + 1) w4.heap.size W0 y b g QQ w9) := hI9
        obtain ⟨pm, p0, p1, p2, p3, p4, p5, p6, -, -, -⟩ := hI9.boxed
        obtain ⟨-, -, -, hBw, hz⟩ := HC.out w9 hI9.bel
        have HZ : Hid (Below w.heap.size w w9 ∧ Blk w9 (w.heap.size + 2) 31 7 (fun _ => .slice .none 0 0)) := ⟨hBw, hz⟩
        have zl := hz.lt
        have zf0 := hz.frozen 0
        have zc0 := hz.cell (j := 0) (by decide)
        have zf1 := hz.frozen 1
        have zc1 := hz.cell (j := 1) (by decide)
        have zf2 := hz.frozen 2
        have zc2 := hz.cell (j := 2) (by decide)
        have zf3 := hz.frozen 3
        have zc3 := hz.cell (j := 3) (by decide)
        have zf4 := hz.frozen 4
        have zc4 := hz.cell (j := 4) (by decide)
        have zf5 := hz.frozen 5
        have zc5 := hz.cell (j := 5) (by decide)
        have zf6 := hz.frozen 6
        have zc6 := hz.cell (j := 6) (by decide)
        clear hBw hz hI9 hT HS4
        go_wp2_with fail
        have KZ := set7_blk HZ.out.2 (.slice y.on.a y.on.n y.on.c) (.slice y.os.a y.os.n y.os.c) (.slice y.hs.a y.hs.n y.hs.c) (.slice y.ms.a y.ms.n y.ms.c) (.slice y.si.a y.si.n y.si.c) (.slice y.so.a y.so.n y.so.c) (.slice y.sf.a y.sf.n y.sf.c)
        have hbz := set7_below (b := w.heap.size + 2) HZ.out.1 (by omega) (.slice y.on.a y.on.n y.on.c) (.slice y.os.a y.os.n y.os.c) (.slice y.hs.a y.hs.n y.hs.c) (.slice y.ms.a y.ms.n y.ms.c) (.slice y.si.a y.si.n y.si.c) (.slice y.so.a y.so.n y.so.c) (.slice y.sf.a y.sf.n y.sf.c)
        have hOz := OwnS.set7 HI9.out.own HZ.out.2 (.slice y.on.a y.on.n y.on.c) (.slice y.os.a y.os.n y.os.c) (.slice y.hs.a y.hs.n y.hs.c) (.slice y.ms.a y.ms.n y.ms.c) (.slice y.si.a y.si.n y.si.c) (.slice y.so.a y.so.n y.so.c) (.slice y.sf.a y.sf.n y.sf.c)
        unfold set7 at KZ hbz hOz
        obtain ⟨c0', c1', c2', c3', c4', c5', c6'⟩ := box_cells KZ
        refine bodyPost_ret (v := .tuple #[y.val, .int .i64 0]) (by simp [results, Try.results22, go_sem, St.val, c0', c1', c2', c3', c4', c5', c6']) rfl ?_
        exact ⟨y, by rw [HX.out]; rfl, hOz.at, ⟨fun _ => HY.out, fun h => absurd HX.out h⟩, fun _ => hOz.mono (Nat.le_trans HLOW.out A1), hbz⟩
  · have HX : Hid (countE p s bin good seen = availE p s bin good) := countE_avail h0
    have HNE : Hid (¬ countE p s bin good seen = 0) := by show ¬ _; rw [countE_avail h0]; exact h0
    have g0 : (availE p s bin good != 0) = true := by simpa using h0
    clear h0
    generalize availV p s bin good = AV at *
    generalize availE p s bin good = AE at *
    clear hpk hsk
    have zl := hz.lt
    have zf0 := hz.frozen 0
    have zc0 := hz.cell (j := 0) (by decide)
    have zf1 := hz.frozen 1
    have zc1 := hz.cell (j := 1) (by decide)
    have zf2 := hz.frozen 2
    have zc2 := hz.cell (j := 2) (by decide)
    have zf3 := hz.frozen 3
    have zc3 := hz.cell (j := 3) (by decide)
    have zf4 := hz.frozen 4
    have zc4 := hz.cell (j := 4) (by decide)
    have zf5 := hz.frozen 5
    have zc5 := hz.cell (j := 5) (by decide)
    have zf6 := hz.frozen 6
    have zc6 := hz.cell (j := 6) (by decide)
    go_wp2_with fail
    have KZ := set7_blk hz (.slice .none 0 0) (.slice .none 0 0) (.slice .none 0 0) (.slice .none 0 0) (.slice .none 0 0) (.slice .none 0 0) (.slice .none 0 0)
    have hbz := set7_below (b := w.heap.size + 2) hBw (by omega) (.slice .none 0 0) (.slice .none 0 0) (.slice .none 0 0) (.slice .none 0 0) (.slice .none 0 0) (.slice .none 0 0) (.slice .none 0 0)
    unfold set7 at KZ hbz
    obtain ⟨c0', c1', c2', c3', c4', c5', c6'⟩ := box_cells KZ
    refine bodyPost_ret (v := .tuple #[noneS.val, .int .i64 AE]) (by simp [results, Try.results22, go_sem, noneS, St.val, c0', c1', c2', c3', c4', c5', c6']) rfl ?_
    exact ⟨noneS, by rw [HX.out]; rfl, noneS_at _, ⟨fun h => absurd h (HNE.out), fun _ => ⟨rfl, rfl, rfl, rfl, rfl, rfl, rfl⟩⟩, fun h => absurd h (HNE.out), hbz⟩
end Go.Proofs.Ytbcacebifpagpae
namespace Go.Proofs.Ytbcacebifpagpae
open Go.RowKit Go.Shelf Go.Sort
set_option linter.unusedVariables false
theorem countBusy (g1 g2 g : Nat) : countE (yardP g1 g2) (busyS g 2 0) 0 0 1 = 0 ∧ countE (yardP g1 g2) (busyS g 2 0) 2 1 9 = 0 ∧ countE (yardP g1 g2) (busyS g 2 0) 3 0 1 = 3 := ⟨by kernel_rfl, by kernel_rfl, by kernel_rfl⟩
def CountA (x : St) : Prop := 0 < x.on.n ∧ 0 < (x.on.r 0).n ∧ (x.on.r 0).z 0 = 1 ∧ 0 < x.sf.n ∧ x.sf.z 0 = -8 ∧ x.ms.n = 0 ∧ 0 < x.hs.n ∧ x.hs.z 0 = ⟨0, 0, 0, 1⟩ ∧ 0 < x.os.n ∧ 0 < (x.os.z 0).ls.n ∧ (x.os.z 0).ls.z 0 = ⟨0, 6, 1, 1⟩
theorem CountA_mk {g1 g2 g : Nat} {x : St} (h : ActOK (countE (yardP g1 g2) (busyS g 2 0) 0 0 1) (countT (yardP g1 g2) (busyS g 2 0) (0 : Int).toNat (0 : Int).toNat 1) x) : CountA x := by
  have e : SameT x (countT (yardP g1 g2) (busyS g 2 0) 0 0 1) := h.1 (countBusy g1 g2 g).1
  have a1 : 0 < x.on.n := by rw [e.on.1]; exact of_decide_eq_true (by kernel_rfl)
  have b1 : 0 < (x.on.r 0).n := by rw [(e.on.2 0 a1).1]; exact of_decide_eq_true (by kernel_rfl)
  have c1 : (x.on.r 0).z 0 = 1 := by rw [(e.on.2 0 a1).2 0 b1]; kernel_rfl
  have a2 : 0 < x.sf.n := by rw [e.sf.1]; exact of_decide_eq_true (by kernel_rfl)
  have b2 : x.sf.z 0 = -8 := by rw [e.sf.2 0 a2]; kernel_rfl
  have a3 : x.ms.n = 0 := by rw [e.ms.1]; kernel_rfl
  have a4 : 0 < x.hs.n := by rw [e.hs.1]; exact of_decide_eq_true (by kernel_rfl)
  have b4 : x.hs.z 0 = ⟨0, 0, 0, 1⟩ := by rw [e.hs.2 0 a4]; kernel_rfl
  have a5 : 0 < x.os.n := by rw [e.os.1]; exact of_decide_eq_true (by kernel_rfl)
  have b5 : 0 < (x.os.z 0).ls.n := by rw [(e.os.2 0 a5).2.1]; exact of_decide_eq_true (by kernel_rfl)
  have c5 : (x.os.z 0).ls.z 0 = ⟨0, 6, 1, 1⟩ := by rw [(e.os.2 0 a5).2.2 0 b5]; kernel_rfl
  exact ⟨a1, b1, c1, a2, b2, a3, a4, b4, a5, b5, c5⟩
def CountB (y : St) : Prop := 2 < y.on.n ∧ 1 < (y.on.r 2).n ∧ (y.on.r 2).z 1 = 9 ∧ 1 < y.sf.n ∧ y.sf.z 1 = 3 ∧ 0 < y.os.n ∧ 1 < (y.os.z 0).ls.n ∧ (y.os.z 0).ls.z 1 = ⟨1, 9, 0, 3⟩
theorem CountB_mk {g1 g2 g : Nat} {y : St} (h : ActOK (countE (yardP g1 g2) (busyS g 2 0) 2 1 9) (countT (yardP g1 g2) (busyS g 2 0) (2 : Int).toNat (1 : Int).toNat 9) y) : CountB y := by
  have e : SameT y (countT (yardP g1 g2) (busyS g 2 0) 2 1 9) := h.1 (countBusy g1 g2 g).2.1
  have a1 : 2 < y.on.n := by rw [e.on.1]; exact of_decide_eq_true (by kernel_rfl)
  have b1 : 1 < (y.on.r 2).n := by rw [(e.on.2 2 a1).1]; exact of_decide_eq_true (by kernel_rfl)
  have c1 : (y.on.r 2).z 1 = 9 := by rw [(e.on.2 2 a1).2 1 b1]; kernel_rfl
  have a2 : 1 < y.sf.n := by rw [e.sf.1]; exact of_decide_eq_true (by kernel_rfl)
  have b2 : y.sf.z 1 = 3 := by rw [e.sf.2 1 a2]; kernel_rfl
  have a3 : 0 < y.os.n := by rw [e.os.1]; exact of_decide_eq_true (by kernel_rfl)
  have b3 : 1 < (y.os.z 0).ls.n := by rw [(e.os.2 0 a3).2.1]; exact of_decide_eq_true (by kernel_rfl)
  have c3 : (y.os.z 0).ls.z 1 = ⟨1, 9, 0, 3⟩ := by rw [(e.os.2 0 a3).2.2 1 b3]; kernel_rfl
  exact ⟨a1, b1, c1, a2, b2, a3, b3, c3⟩
set_option maxRecDepth 100000 in
set_option maxHeartbeats 8000000 in
theorem countBegun_any (w : World) :
    Calls Try.prog 23 #[] w fun e w' => e = .returned (.bool true) ∧ Below w.heap.size w w' := by
  go_enter Try.func23, Try.ntmps23
  have HB : Hid (Below w.heap.size w w) := Below.refl _ _
  go_wp2_with fail
  refine (yard_any _).mono ?_
  rintro e wa ⟨g1, g2, rfl, -, -, k1, k2, hA⟩
  go_wp2_with fail
  refine (busy_any _).mono ?_
  rintro e wb ⟨g, rfl, -, bb, hB⟩
  have hD := hA.trans (hB.mono hA.size)
  have HAT : Hid ((yardP g1 g2).At wb ∧ (busyS g 2 0).At wb) := ⟨yardAt (k1.below hB) (k2.below hB), busyAt bb⟩
  clear hA hB k1 k2 bb
  simp only [busyS, St.val]
  go_wp2_with fail
  refine (Count_any (yardP g1 g2) (busyS g 2 0) 0 0 1 wb HAT.out.1 HAT.out.2).mono ?_
  rintro e w1 ⟨x, rfl, atx, okx, -, hB⟩
  have hE := hD.trans (hB.mono hD.size)
  rw [(countBusy g1 g2 g).1]
  have HPx : Hid (CountA x) := CountA_mk okx
  clear hD hB HAT okx
  obtain ⟨V0, hW, hWB, K1⟩ : ∃ W, w1.alloc (.cells #[.slice x.on.a x.on.n x.on.c, .slice x.os.a x.os.n x.os.c, .slice x.hs.a x.hs.n x.hs.c, .slice x.ms.a x.ms.n x.ms.c, .slice x.si.a x.si.n x.si.c, .slice x.so.a x.so.n x.so.c, .slice x.sf.a x.sf.n x.sf.c] 31) = W ∧ Below w1.heap.size w1 W ∧ Blk W w1.heap.size 31 7 (fun j => x.cells.getD j default) := ⟨_, rfl, (Below.refl _ _).alloc (Nat.le_refl _) _, Blk.mk' rfl rfl⟩
  have HW : Hid (w1.alloc (.cells #[.slice x.on.a x.on.n x.on.c, .slice x.os.a x.os.n x.os.c, .slice x.hs.a x.hs.n x.hs.c, .slice x.ms.a x.ms.n x.ms.c, .slice x.si.a x.si.n x.si.c, .slice x.so.a x.so.n x.so.c, .slice x.sf.a x.sf.n x.sf.c] 31) = V0) := hW
  have hE := hE.trans (hWB.mono hE.size)
  have HB : Hid (Below w.heap.size w V0) := HB.out.trans (hE.mono HB.out.size)
  have Hx : Hid (x.At V0 ∧ Blk V0 w1.heap.size 31 7 (fun j => x.cells.getD j default)) := ⟨atx.below hWB, K1⟩
  clear atx
  clear hW K1 hWB hE
  simp only [St.val]
  go_wp2_with fail
  rw [HW.out]
  clear HW
  generalize w1.heap.size = Bx at *
  refine (yard_any _).mono ?_
  rintro e wa ⟨g1, g2, rfl, -, -, k1, k2, hA⟩
  go_wp2_with fail
  refine (busy_any _).mono ?_
  rintro e wb ⟨g, rfl, -, bb, hB⟩
  have hD := hA.trans (hB.mono hA.size)
  have HAT : Hid ((yardP g1 g2).At wb ∧ (busyS g 2 0).At wb) := ⟨yardAt (k1.below hB) (k2.below hB), busyAt bb⟩
  clear hA hB k1 k2 bb
  simp only [busyS, St.val]
  go_wp2_with fail
  refine (Count_any (yardP g1 g2) (busyS g 2 0) 2 1 9 wb HAT.out.1 HAT.out.2).mono ?_
  rintro e w2 ⟨y, rfl, aty, oky, -, hB⟩
  have hE := hD.trans (hB.mono hD.size)
  rw [(countBusy g1 g2 g).2.1]
  have HPy : Hid (CountB y) := CountB_mk oky
  clear hD hB HAT oky
  obtain ⟨V1, hW, hWB, K1⟩ : ∃ W, w2.alloc (.cells #[.slice y.on.a y.on.n y.on.c, .slice y.os.a y.os.n y.os.c, .slice y.hs.a y.hs.n y.hs.c, .slice y.ms.a y.ms.n y.ms.c, .slice y.si.a y.si.n y.si.c, .slice y.so.a y.so.n y.so.c, .slice y.sf.a y.sf.n y.sf.c] 31) = W ∧ Below w2.heap.size w2 W ∧ Blk W w2.heap.size 31 7 (fun j => y.cells.getD j default) := ⟨_, rfl, (Below.refl _ _).alloc (Nat.le_refl _) _, Blk.mk' rfl rfl⟩
  have HW : Hid (w2.alloc (.cells #[.slice y.on.a y.on.n y.on.c, .slice y.os.a y.os.n y.os.c, .slice y.hs.a y.hs.n y.hs.c, .slice y.ms.a y.ms.n y.ms.c, .slice y.si.a y.si.n y.si.c, .slice y.so.a y.so.n y.so.c, .slice y.sf.a y.sf.n y.sf.c] 31) = V1) := hW
  have hE := hE.trans (hWB.mono hE.size)
  have HB : Hid (Below w.heap.size w V1) := HB.out.trans (hE.mono HB.out.size)
  have Hx : Hid (x.At V1 ∧ Blk V1 Bx 31 7 (fun j => x.cells.getD j default)) := ⟨Hx.out.1.below hE, Hx.out.2.below hE⟩
  have Hy : Hid (y.At V1 ∧ Blk V1 w2.heap.size 31 7 (fun j => y.cells.getD j default)) := ⟨aty.below hWB, K1⟩
  clear aty
  clear hW K1 hWB hE
  simp only [St.val]
  go_wp2_with fail
  rw [HW.out]
  clear HW
  generalize w2.heap.size = By at *
  refine (yard_any _).mono ?_
  rintro e wa ⟨g1, g2, rfl, -, -, k1, k2, hA⟩
  go_wp2_with fail
  refine (busy_any _).mono ?_
  rintro e wb ⟨g, rfl, -, bb, hB⟩
  have hD := hA.trans (hB.mono hA.size)
  have HAT : Hid ((yardP g1 g2).At wb ∧ (busyS g 2 0).At wb) := ⟨yardAt (k1.below hB) (k2.below hB), busyAt bb⟩
  clear hA hB k1 k2 bb
  simp only [busyS, St.val]
  go_wp2_with fail
  refine (Count_any (yardP g1 g2) (busyS g 2 0) 3 0 1 wb HAT.out.1 HAT.out.2).mono ?_
  rintro e w3 ⟨u, rfl, -, -, -, hB⟩
  have hE := hD.trans (hB.mono hD.size)
  rw [(countBusy g1 g2 g).2.2]
  clear hD hB HAT
  obtain ⟨V2, hW, hWB, K1⟩ : ∃ W, w3.alloc (.cells #[.slice u.on.a u.on.n u.on.c, .slice u.os.a u.os.n u.os.c, .slice u.hs.a u.hs.n u.hs.c, .slice u.ms.a u.ms.n u.ms.c, .slice u.si.a u.si.n u.si.c, .slice u.so.a u.so.n u.so.c, .slice u.sf.a u.sf.n u.sf.c] 31) = W ∧ Below w3.heap.size w3 W ∧ Blk W w3.heap.size 31 7 (fun j => u.cells.getD j default) := ⟨_, rfl, (Below.refl _ _).alloc (Nat.le_refl _) _, Blk.mk' rfl rfl⟩
  have HW : Hid (w3.alloc (.cells #[.slice u.on.a u.on.n u.on.c, .slice u.os.a u.os.n u.os.c, .slice u.hs.a u.hs.n u.hs.c, .slice u.ms.a u.ms.n u.ms.c, .slice u.si.a u.si.n u.si.c, .slice u.so.a u.so.n u.so.c, .slice u.sf.a u.sf.n u.sf.c] 31) = V2) := hW
  have hE := hE.trans (hWB.mono hE.size)
  have HB : Hid (Below w.heap.size w V2) := HB.out.trans (hE.mono HB.out.size)
  have Hx : Hid (x.At V2 ∧ Blk V2 Bx 31 7 (fun j => x.cells.getD j default)) := ⟨Hx.out.1.below hE, Hx.out.2.below hE⟩
  have Hy : Hid (y.At V2 ∧ Blk V2 By 31 7 (fun j => y.cells.getD j default)) := ⟨Hy.out.1.below hE, Hy.out.2.below hE⟩
  clear hW K1 hWB hE
  obtain ⟨xm, xc0, xc1, xc2, xc3, xc4, xc5, xc6⟩ := Boxed.of Hx.out.2
  obtain ⟨xh0, xh1, xh2, xh3, xh4, xh5, xh6, xh7, xh8, xh9, xh10⟩ := HPx.out
  obtain ⟨x1b, x1o, x1a, x1l, x1c, x1r⟩ := Hx.out.1.on.rows 0 xh0
  have Hx1a : Hid (x.on.a = some ⟨x1b, x1o, none⟩) := x1a
  rw [x1a] at xc0
  have x1u := Hx.out.1.on.le
  have x1v := Hx.out.1.on.cap
  unfold maxLen at x1v
  clear x1a
  obtain ⟨x1B, x1O, x1A, x1L, x1C⟩ := x1r.ints 0 xh1
  rw [x1A] at x1c
  rw [xh2] at x1C
  have x1x := x1r.le
  have x1y := x1r.cap
  unfold maxLen at x1y
  have x1N : (0 : Int) < ((x.on.r 0).n : Int) := by omega
  have x1M : (0 : Int) < (x.on.n : Int) := by omega
  clear x1A x1r
  obtain ⟨x2B, x2O, x2A, x2L, x2C⟩ := Hx.out.1.sf.ints 0 xh3
  rw [x2A] at xc6
  rw [xh4] at x2C
  have x2x := Hx.out.1.sf.le
  have x2y := Hx.out.1.sf.cap
  unfold maxLen at x2y
  have x2N : (0 : Int) < (x.sf.n : Int) := by omega
  clear x2A
  obtain ⟨x4B, x4O, x4A, x4L, x4C0, x4C1, x4C2, x4C3⟩ := Hx.out.1.hs.hds 0 xh6
  rw [x4A] at xc2
  rw [xh7] at x4C0 x4C1 x4C2 x4C3
  dsimp only at x4C0 x4C1 x4C2 x4C3
  have x4x := Hx.out.1.hs.le
  have x4y := Hx.out.1.hs.cap
  unfold maxLen at x4y
  have x4N : (0 : Int) < (x.hs.n : Int) := by omega
  clear x4A
  obtain ⟨x5b, x5o, x5a, x5l, x5k, x5c, x5r⟩ := Hx.out.1.os.ods 0 xh8
  rw [x5a] at xc1
  have x5u := Hx.out.1.os.le
  have x5v := Hx.out.1.os.cap
  unfold maxLen at x5v
  have x5M : (0 : Int) < (x.os.n : Int) := by omega
  clear x5a
  obtain ⟨x5B, x5O, x5A, x5L, x5C0, x5C1, x5C2, x5C3⟩ := x5r.hds 0 xh9
  rw [x5A] at x5c
  rw [xh10] at x5C0 x5C1 x5C2 x5C3
  dsimp only at x5C0 x5C1 x5C2 x5C3
  have x5x := x5r.le
  have x5y := x5r.cap
  unfold maxLen at x5y
  have x5N : (0 : Int) < ((x.os.z 0).ls.n : Int) := by omega
  clear x5A
  try rw [xh5] at xc3
  try simp only [Nat.zero_mul, Nat.add_zero] at x1l x1c x1L x1C x2L x2C x4L x4C0 x4C1 x4C2 x4C3 x5l x5k x5c x5L x5C0 x5C1 x5C2 x5C3
  clear x5r
  obtain ⟨ym, yc0, yc1, yc2, yc3, yc4, yc5, yc6⟩ := Boxed.of Hy.out.2
  obtain ⟨yh0, yh1, yh2, yh3, yh4, yh5, yh6, yh7⟩ := HPy.out
  obtain ⟨y1b, y1o, y1a, y1l, y1c, y1r⟩ := Hy.out.1.on.rows 2 yh0
  have Hy1a : Hid (y.on.a = some ⟨y1b, y1o, none⟩) := y1a
  rw [y1a] at yc0
  have y1u := Hy.out.1.on.le
  have y1v := Hy.out.1.on.cap
  unfold maxLen at y1v
  clear y1a
  obtain ⟨y1B, y1O, y1A, y1L, y1C⟩ := y1r.ints 1 yh1
  rw [y1A] at y1c
  rw [yh2] at y1C
  have y1x := y1r.le
  have y1y := y1r.cap
  unfold maxLen at y1y
  have y1N : (1 : Int) < ((y.on.r 2).n : Int) := by omega
  have y1M : (2 : Int) < (y.on.n : Int) := by omega
  clear y1A y1r
  obtain ⟨y2B, y2O, y2A, y2L, y2C⟩ := Hy.out.1.sf.ints 1 yh3
  rw [y2A] at yc6
  rw [yh4] at y2C
  have y2x := Hy.out.1.sf.le
  have y2y := Hy.out.1.sf.cap
  unfold maxLen at y2y
  have y2N : (1 : Int) < (y.sf.n : Int) := by omega
  clear y2A
  obtain ⟨y3b, y3o, y3a, y3l, y3k, y3c, y3r⟩ := Hy.out.1.os.ods 0 yh5
  rw [y3a] at yc1
  have y3u := Hy.out.1.os.le
  have y3v := Hy.out.1.os.cap
  unfold maxLen at y3v
  have y3M : (0 : Int) < (y.os.n : Int) := by omega
  clear y3a
  obtain ⟨y3B, y3O, y3A, y3L, y3C0, y3C1, y3C2, y3C3⟩ := y3r.hds 1 yh6
  rw [y3A] at y3c
  rw [yh7] at y3C0 y3C1 y3C2 y3C3
  dsimp only at y3C0 y3C1 y3C2 y3C3
  have y3x := y3r.le
  have y3y := y3r.cap
  unfold maxLen at y3y
  have y3N : (1 : Int) < ((y.os.z 0).ls.n : Int) := by omega
  clear y3A
  try simp only [Nat.zero_mul, Nat.add_zero] at y1l y1c y1L y1C y2L y2C y3l y3k y3c y3L y3C0 y3C1 y3C2 y3C3
  clear y3r
  rw [← HW.out] at xm xc0 xc1 xc2 xc3 xc4 xc5 xc6 x1l x1c x1L x1C x2L x2C x4L x4C0 x4C1 x4C2 x4C3 x5l x5k x5c x5L x5C0 x5C1 x5C2 x5C3 ym yc0 yc1 yc2 yc3 yc4 yc5 yc6 y1l y1c y1L y1C y2L y2C y3l y3k y3c y3L y3C0 y3C1 y3C2 y3C3
  simp only [St.val]
  go_wp2_with fail
  go_ret
  exact ⟨by simp, HW.out ▸ HB.out⟩
end Go.Proofs.Ytbcacebifpagpae
namespace Go.Proofs.Ytbcacebifpagpae
open Go.RowKit Go.Shelf Go.Sort
set_option linter.unusedVariables false
set_option maxRecDepth 100000 in
set_option maxHeartbeats 8000000 in
theorem CountTrue_walk (p : Pl) (s : St) (bin good seen : Int) (w : World) (hp : p.At w) (hs : s.At w) :
    Calls Try.prog 7 #[p.val, s.val, .int .i64 bin, .int .i64 good, .int .i64 seen] w fun e w' => e = .returned (.bool true) ∧ Below w.heap.size w w' := by
  obtain ⟨W0, hW, hWB, X0⟩ : ∃ W, ((w.alloc (.cells #[.slice p.ab p.nb p.cb, .slice p.sa p.ns p.cs] 25)).alloc (.cells s.cells 31)) = W ∧ Below w.heap.size w W ∧ Boxes W w.heap.size (w.heap.size + 1) p s := ⟨_, rfl, two_below _ _ _, boxes_new w p s _ _⟩
  have HC : Hid (∀ wk, Below W0.heap.size W0 wk → Boxes wk w.heap.size (w.heap.size + 1) p s ∧ p.At wk ∧ s.At wk ∧ Below w.heap.size w wk) := fun wk h => ⟨X0.below h, (hp.below hWB).below h, (hs.below hWB).below h, hWB.trans (h.mono hWB.size)⟩
  have HW : Hid ((w.alloc (.cells #[.slice p.ab p.nb p.cb, .slice p.sa p.ns p.cs] 25)).alloc (.cells #[.slice s.on.a s.on.n s.on.c, .slice s.os.a s.os.n s.os.c, .slice s.hs.a s.hs.n s.hs.c, .slice s.ms.a s.ms.n s.ms.c, .slice s.si.a s.si.n s.si.c, .slice s.so.a s.so.n s.so.c, .slice s.sf.a s.sf.n s.sf.c] 31) = W0) := hW
  have HB : Hid (Below W0.heap.size W0 W0) := Below.refl _ _
  have leb := hp.leb
  have capb0 := hp.capb
  have capb := capb0
  unfold maxLen at capb
  have onl := hs.on.le
  have onc := hs.on.cap
  have osl := hs.os.le
  have osc := hs.os.cap
  unfold maxLen at onc osc
  clear hW X0 hp hs
  unfold Pl.val St.val
  go_enter Try.func7, Try.ntmps7
  go_wp2_with fail
  rw [HW.out]
  clear HW
  refine Calls.mono (Count_any p s bin good seen W0 (HC.out W0 HB.out).2.1 (HC.out W0 HB.out).2.2.1) ?_
  rintro e w1 ⟨x, rfl, xat, xok, -, hB⟩
  have HXOK : Hid (ActOK (countE p s bin good seen) (countT p s bin.toNat good.toNat seen) x) := xok
  clear xok
  have HB : Hid (Below W0.heap.size W0 w1) := HB.out.trans (hB.mono HB.out.size)
  clear hB
  have xol := xat.os.le
  have xoc := xat.os.cap
  have xnl := xat.on.le
  have xnc := xat.on.cap
  unfold maxLen at xoc xnc
  obtain ⟨W2, hW, hWB, K1⟩ : ∃ W, w1.alloc (.cells #[.slice x.on.a x.on.n x.on.c, .slice x.os.a x.os.n x.os.c, .slice x.hs.a x.hs.n x.hs.c, .slice x.ms.a x.ms.n x.ms.c, .slice x.si.a x.si.n x.si.c, .slice x.so.a x.so.n x.so.c, .slice x.sf.a x.sf.n x.sf.c] 31) = W ∧ Below w1.heap.size w1 W ∧ Blk W w1.heap.size 31 7 (fun j => x.cells.getD j default) := ⟨_, rfl, (Below.refl _ _).alloc (Nat.le_refl _) _, Blk.mk' rfl rfl⟩
  have HW : Hid (w1.alloc (.cells #[.slice x.on.a x.on.n x.on.c, .slice x.os.a x.os.n x.os.c, .slice x.hs.a x.hs.n x.hs.c, .slice x.ms.a x.ms.n x.ms.c, .slice x.si.a x.si.n x.si.c, .slice x.so.a x.so.n x.so.c, .slice x.sf.a x.sf.n x.sf.c] 31) = W2) := hW
  have Hx : Hid (x.At W2 ∧ Blk W2 w1.heap.size 31 7 (fun j => x.cells.getD j default)) := ⟨xat.below hWB, K1⟩
  clear hW K1 xat
  have HB : Hid (Below W0.heap.size W0 W2) := HB.out.trans (hWB.mono HB.out.size)
  clear hWB
  by_cases h0 : countE p s bin good seen = 0
  · obtain ⟨hse, b, g, rfl, rfl, hi⟩ := countIn h0
    have HCI : Hid (CountIn p s b g seen) := hi
    have HSX : Hid (SameT x (countT p s b g seen)) := HXOK.out.1 h0
    have HR : Hid (RightT p s) := hi.r
    have HRX : Hid (RightT p x) := HSX.out.right (count_right hi)
    have HEX : Hid (stateE p x = 0) := stateE_of HRX.out
    have HNN : Hid (∀ i, i < s.on.n → (x.on.r i).n = (s.on.r i).n ∧ ∀ j, j < (s.on.r i).n → (x.on.r i).z j = if i = b ∧ j = g then seen else (s.on.r i).z j) := (hi.on HSX.out).2
    have HGT : Hid (∀ o, o < s.os.n → (x.os.z o).ls.n = (s.os.z o).ls.n ∧ ∀ k, k < (s.os.z o).ls.n → ((x.os.z o).ls.z k).b = ((s.os.z o).ls.z k).b) := (hi.got HSX.out).2
    have HAG : Hid (CountIn p x b g seen ∧ SameT (countT p x b g seen) x) := hi.again HSX.out
    have e1 : x.on.n = s.on.n := (hi.on HSX.out).1
    have e2 : x.os.n = s.os.n := (hi.got HSX.out).1
    have HBD : Hid (x.os.n ≤ 1000 ∧ x.ms.n ≤ 1000 ∧ ∀ i, i < x.os.n → (x.os.z i).ls.n ≤ 1000) := HRX.out.bound
    have os4 : s.os.n ≤ 4 := HR.out.fm.os4
    have sn : s.on.n = p.nb := HR.out.fm.sh.n
    have bn : b < s.on.n := by have := hi.bn; omega
    have nb4 : s.on.n ≤ 6 := by have := HR.out.fm.sh.pl.nb6; omega
    have o1 : ((x.on.n : Int) != (s.on.n : Int)) = false := by rw [e1]; simp
    have o2 : ((x.os.n : Int) != (s.os.n : Int)) = false := by rw [e2]; simp
    have g4 : decide ((g : Int) < 0) = false := decide_eq_false (by omega)
    have HNE : Hid (x.on.n = s.on.n ∧ x.os.n = s.os.n) := ⟨e1, e2⟩
    have sb0 := hi.s0
    have sb1 := hi.s1
    have kb1 : decide (s.on.n ≤ b) = false := decide_eq_false (by omega)
    have kb2 : decide ((s.on.n : Int) ≤ (b : Int)) = false := decide_eq_false (by omega)
    have kb3 : ¬ s.on.n ≤ b := by omega
    have kb4 : decide ((b : Int) < 0) = false := decide_eq_false (by omega)
    have kb5 : (0 : Int) ≤ (b : Int) := by omega
    have kb6 : (b : Int) < (s.on.n : Int) := by omega
    rw [h0]
    clear h0 HXOK hi hse e1 e2 sn
    obtain ⟨⟨⟨l1, d0, d1⟩, l2, c0, c1, c2, c3, c4, c5, c6⟩, -, -, -⟩ := HC.out W2 HB.out
    obtain ⟨xm, xc0, xc1, xc2, xc3, xc4, xc5, xc6⟩ := Boxed.of Hx.out.2
    rw [← HW.out] at l1 d0 d1 l2 c0 c1 c2 c3 c4 c5 c6 xm xc0 xc1 xc2 xc3 xc4 xc5 xc6
    simp only [St.val]
    go_wp2_with fail
    rw [HW.out]
    clear HW
    generalize w1.heap.size = Bx at *
    clear l1 d0 d1 l2 c0 c1 c2 c3 c4 c5 c6 xm xc0 xc1 xc2 xc3 xc4 xc5 xc6
    refine Calls.mono (Check_rightW p x W2 (HC.out W2 HB.out).2.1 Hx.out.1 HEX.out) ?_
    rintro e w3 ⟨rfl, hB⟩
    have Hx : Hid (x.At w3 ∧ Blk w3 Bx 31 7 (fun j => x.cells.getD j default)) := ⟨Hx.out.1.below hB, Hx.out.2.below hB⟩
    have HB : Hid (Below W0.heap.size W0 w3) := HB.out.trans (hB.mono HB.out.size)
    clear hB
    obtain ⟨⟨⟨l1, d0, d1⟩, l2, c0, c1, c2, c3, c4, c5, c6⟩, -, -, -⟩ := HC.out w3 HB.out
    obtain ⟨xm, xc0, xc1, xc2, xc3, xc4, xc5, xc6⟩ := Boxed.of Hx.out.2
    go_wp2_with fail
    clear l1 d0 d1 l2 c0 c1 c2 c3 c4 c5 c6 xm xc0 xc1 xc2 xc3 xc4 xc5 xc6
    go_loopw [13] (fun kv wk => ∃ (i : Nat), i ≤ s.on.n ∧ kv = .int .i64 i ∧ Hid (x.At wk ∧ Blk wk Bx 31 7 (fun j => x.cells.getD j default)) ∧ Hid (Below W0.heap.size W0 wk)) (fun kv _ => s.on.n - (intOf kv).toNat)
    case atStart => exact ⟨0, Nat.zero_le _, rfl, Hx, HB⟩
    case round =>
      clear Hx HB
      obtain ⟨i, hi, rfl, Hx, HB⟩ := hrel
      by_cases hlt : i < s.on.n
      · have q0 : (0 : Int) ≤ (i : Int) := by omega
        have q1 : (i : Int) < (s.on.n : Int) := by omega
        have rn : (s.on.r i).n = p.ns := HR.out.fm.sh.len i hlt
        have rn3 : (s.on.r i).n ≤ 3 := by have := HR.out.fm.sh.pl.ns3; omega
        clear rn
        obtain ⟨⟨⟨l1, d0, d1⟩, l2, c0, c1, c2, c3, c4, c5, c6⟩, -, -, -⟩ := HC.out wr HB.out
        go_wp2_with fail
        clear l1 d0 d1 l2 c0 c1 c2 c3 c4 c5 c6
        go_loopw [14] (fun jv wk => ∃ (j : Nat), j ≤ (s.on.r i).n ∧ jv = .int .i64 j ∧ Hid (x.At wk ∧ Blk wk Bx 31 7 (fun j => x.cells.getD j default)) ∧ Hid (Below W0.heap.size W0 wk)) (fun jv _ => (s.on.r i).n - (intOf jv).toNat)
        case atStart => exact ⟨0, Nat.zero_le _, rfl, Hx, HB⟩
        case round =>
          clear Hx HB
          obtain ⟨j, hj, rfl, Hx, HB⟩ := hrel
          by_cases hjl : j < (s.on.r i).n
          · obtain ⟨⟨⟨l1, d0, d1⟩, l2, c0, c1, c2, c3, c4, c5, c6⟩, -, -, -⟩ := HC.out wr HB.out
            obtain ⟨xm, xc0, xc1, xc2, xc3, xc4, xc5, xc6⟩ := Boxed.of Hx.out.2
            obtain ⟨bb, ob, hoa, hbb, e0, hrow⟩ := (HC.out wr HB.out).2.2.1.on.rows i hlt
            have rl := hrow.le
            have rc := hrow.cap
            unfold maxLen at rc
            rw [hoa] at c0
            clear hoa
            obtain ⟨bx, ox, hxa, hbx, x0, xrow⟩ := Hx.out.1.on.rows i (by rw [HNE.out.1]; exact hlt)
            have HXL : Hid ((x.on.r i).n = (s.on.r i).n) := (HNN.out i hlt).1
            have HXZ : Hid ((x.on.r i).z j = if i = b ∧ j = g then seen else (s.on.r i).z j) := (HNN.out i hlt).2 j hjl
            have xl := xrow.le
            have xcp := xrow.cap
            unfold maxLen at xcp
            rw [hxa] at xc0
            obtain ⟨bj, oj, hja, hbj, e1⟩ := hrow.ints j hjl
            obtain ⟨bk, ok, hka, hbk, x1⟩ := xrow.ints j (by rw [HXL.out]; exact hjl)
            rw [hja] at e0
            rw [hka] at x0
            have xa1 : (i : Int) < (x.on.n : Int) := by rw [HNE.out.1]; omega
            have xa2 : (j : Int) < ((x.on.r i).n : Int) := by rw [HXL.out]; omega
            have xa3 : decide (((x.on.r i).n : Int) ≤ (j : Int)) = false := decide_eq_false (by omega)
            have xa4 : decide ((x.on.r i).n ≤ j) = false := decide_eq_false (by omega)
            have xa5 : ¬ (x.on.r i).n ≤ j := by omega
            have q2 : (0 : Int) ≤ (j : Int) := by omega
            have q3 : (j : Int) < ((s.on.r i).n : Int) := by omega
            clear hxa hrow xrow hja hka
            generalize (x.on.r i).z j = XV at *
            generalize (s.on.r i).z j = SV at *
            by_cases ci : i = b
            · have c1x : ((i : Int) == (b : Int)) = true := by rw [beq_iff_eq]; omega
              by_cases cj : j = g
              · have c2x : ((j : Int) == (g : Int)) = true := by rw [beq_iff_eq]; omega
                have e5 : XV = seen := by have h := HXZ.out; rw [if_pos ⟨ci, cj⟩] at h; exact h
                have e6 : (XV != seen) = false := by rw [e5]; simp
                clear e5 HXZ ci cj
                go_wp2_with fail
                clear l1 d0 d1 l2 c0 c1 c2 c3 c4 c5 c6 xm xc0 xc1 xc2 xc3 xc4 xc5 xc6 hbb e0 hbx x0 hbj e1 hbk x1
                go_roundw
                case rel => exact ⟨j + 1, by omega, by go_num, Hx, HB⟩
                case measure => simp [intOf]; omega
              · have c2x : ((j : Int) == (g : Int)) = false := beq_eq_false_iff_ne.2 (by omega)
                have e5 : XV = SV := by have h := HXZ.out; rw [if_neg (fun e => cj e.2)] at h; exact h
                have e6 : (XV != SV) = false := by rw [e5]; simp
                clear e5 HXZ ci cj
                go_wp2_with fail
                clear l1 d0 d1 l2 c0 c1 c2 c3 c4 c5 c6 xm xc0 xc1 xc2 xc3 xc4 xc5 xc6 hbb e0 hbx x0 hbj e1 hbk x1
                go_roundw
                case rel => exact ⟨j + 1, by omega, by go_num, Hx, HB⟩
                case measure => simp [intOf]; omega
            · have c1x : ((i : Int) == (b : Int)) = false := beq_eq_false_iff_ne.2 (by omega)
              have e5 : XV = SV := by have h := HXZ.out; rw [if_neg (fun e => ci e.1)] at h; exact h
              have e6 : (XV != SV) = false := by rw [e5]; simp
              clear e5 HXZ ci
              go_wp2_with fail
              clear l1 d0 d1 l2 c0 c1 c2 c3 c4 c5 c6 xm xc0 xc1 xc2 xc3 xc4 xc5 xc6 hbb e0 hbx x0 hbj e1 hbk x1
              go_roundw
              case rel => exact ⟨j + 1, by omega, by go_num, Hx, HB⟩
              case measure => simp [intOf]; omega
          · obtain ⟨⟨⟨l1, d0, d1⟩, l2, c0, c1, c2, c3, c4, c5, c6⟩, -, -, -⟩ := HC.out wr HB.out
            obtain ⟨xm, xc0, xc1, xc2, xc3, xc4, xc5, xc6⟩ := Boxed.of Hx.out.2
            obtain ⟨bb, ob, hoa, hbb, e0, hrow⟩ := (HC.out wr HB.out).2.2.1.on.rows i hlt
            have rl := hrow.le
            have rc := hrow.cap
            unfold maxLen at rc
            rw [hoa] at c0
            clear hoa
            have q2 : ((s.on.r i).n : Int) ≤ (j : Int) := by omega
            clear hrow
            go_wp2_with fail
            clear l1 d0 d1 l2 c0 c1 c2 c3 c4 c5 c6 xm xc0 xc1 xc2 xc3 xc4 xc5 xc6 hbb e0
            go_roundw
            case rel => exact ⟨i + 1, by omega, by go_num, Hx, HB⟩
            case measure => simp [intOf]; omega
      · have q1 : (s.on.n : Int) ≤ (i : Int) := by omega
        obtain ⟨⟨⟨l1, d0, d1⟩, l2, c0, c1, c2, c3, c4, c5, c6⟩, -, -, -⟩ := HC.out wr HB.out
        go_wp2_with fail
        clear l1 d0 d1 l2 c0 c1 c2 c3 c4 c5 c6
        clear q1 hlt
        go_loopw [16] (fun kv wk => ∃ (o : Nat), o ≤ s.os.n ∧ kv = .int .i64 o ∧ Hid (x.At wk ∧ Blk wk Bx 31 7 (fun j => x.cells.getD j default)) ∧ Hid (Below W0.heap.size W0 wk)) (fun kv _ => s.os.n - (intOf kv).toNat)
        case atStart => exact ⟨0, Nat.zero_le _, rfl, Hx, HB⟩
        case round =>
          clear Hx HB
          obtain ⟨o, ho, rfl, Hx, HB⟩ := hrel
          by_cases hlt : o < s.os.n
          · have q0 : (0 : Int) ≤ (o : Int) := by omega
            have q1 : (o : Int) < (s.os.n : Int) := by omega
            have ln3 := (HR.out.fm.lns o hlt).2
            have HXL : Hid ((x.os.z o).ls.n = (s.os.z o).ls.n) := (HGT.out o hlt).1
            obtain ⟨⟨⟨l1, d0, d1⟩, l2, c0, c1, c2, c3, c4, c5, c6⟩, -, -, -⟩ := HC.out wr HB.out
            go_wp2_with fail
            clear l1 d0 d1 l2 c0 c1 c2 c3 c4 c5 c6
            go_loopw [17] (fun jv wk => ∃ (k : Nat), k ≤ (s.os.z o).ls.n ∧ jv = .int .i64 k ∧ Hid (x.At wk ∧ Blk wk Bx 31 7 (fun j => x.cells.getD j default)) ∧ Hid (Below W0.heap.size W0 wk)) (fun jv _ => (s.os.z o).ls.n - (intOf jv).toNat)
            case atStart => exact ⟨0, Nat.zero_le _, rfl, Hx, HB⟩
            case round =>
              clear Hx HB
              obtain ⟨k, hk, rfl, Hx, HB⟩ := hrel
              by_cases hjl : k < (s.os.z o).ls.n
              · obtain ⟨⟨⟨l1, d0, d1⟩, l2, c0, c1, c2, c3, c4, c5, c6⟩, -, -, -⟩ := HC.out wr HB.out
                obtain ⟨xm, xc0, xc1, xc2, xc3, xc4, xc5, xc6⟩ := Boxed.of Hx.out.2
                obtain ⟨b1, o1', ha1, hb1, e10, e11, k1⟩ := (HC.out wr HB.out).2.2.1.os.ods o hlt
                have le1 := k1.le
                have cp1 := k1.cap
                unfold maxLen at cp1
                rw [ha1] at c1
                clear ha1
                obtain ⟨b3, o3, ha3, hb3, e30, e31, k3⟩ := Hx.out.1.os.ods o (by rw [HNE.out.2]; exact hlt)
                have le3 := k3.le
                have cp3 := k3.cap
                unfold maxLen at cp3
                rw [ha3] at xc1
                obtain ⟨b5, o5, ha5, hb5, y50, y51, y52, y53⟩ := k1.hds k hjl
                obtain ⟨b6, o6, ha6, hb6, y60, y61, y62, y63⟩ := k3.hds k (by rw [HXL.out]; exact hjl)
                rw [ha5] at e11
                rw [ha6] at e31
                have e5 := (HGT.out o hlt).2 k hjl
                have xa1 : (o : Int) < (x.os.n : Int) := by rw [HNE.out.2]; omega
                have xa2 : (k : Int) < ((x.os.z o).ls.n : Int) := by rw [HXL.out]; omega
                have xa3 : decide (((x.os.z o).ls.n : Int) ≤ (k : Int)) = false := decide_eq_false (by omega)
                have xa4 : decide ((x.os.z o).ls.n ≤ k) = false := decide_eq_false (by omega)
                have xa5 : ¬ (x.os.z o).ls.n ≤ k := by omega
                have q2 : (0 : Int) ≤ (k : Int) := by omega
                have q3 : (k : Int) < ((s.os.z o).ls.n : Int) := by omega
                have e6 : (((x.os.z o).ls.z k).b != ((s.os.z o).ls.z k).b) = false := by rw [e5]; simp
                clear ha3 ha5 ha6 k1 k3 e5
                generalize ((x.os.z o).ls.z k).b = XB at *
                generalize ((s.os.z o).ls.z k).b = SB at *
                have rc1 := fun d os => cell_regrown c1 d os
                have rxc1 := fun d os => cell_regrown xc1 d os
                have re11 := fun d os => cell_regrown e11 d os
                have re31 := fun d os => cell_regrown e31 d os
                have ry52 := fun d os => cell_regrown y52 d os
                have ry62 := fun d os => cell_regrown y62 d os
                go_wp2_with fail
                refine wp_region_quiet_below (by kernel_rfl) (by kernel_rfl) ?_
                repeat (go_big_quiet_step ((fail)))
                refine wpQuiet_nil ?_
                intro w4 hwq
                have hB := below_of_regrown hwq
                clear hwq rc1 rxc1 re11 re31 ry52 ry62
                have Hx : Hid (x.At w4 ∧ Blk w4 Bx 31 7 (fun j => x.cells.getD j default)) := ⟨Hx.out.1.below hB, Hx.out.2.below hB⟩
                have HB : Hid (Below W0.heap.size W0 w4) := HB.out.trans (hB.mono HB.out.size)
                clear hB
                clear l1 d0 d1 l2 c0 c1 c2 c3 c4 c5 c6 xm xc0 xc1 xc2 xc3 xc4 xc5 xc6 hb1 e10 e11 hb3 e30 e31 hb5 y50 y51 y52 y53 hb6 y60 y61 y62 y63
                go_wp2_with fail
                go_roundw
                case rel => exact ⟨k + 1, by omega, by go_num, Hx, HB⟩
                case measure => simp [intOf]; omega
              · obtain ⟨⟨⟨l1, d0, d1⟩, l2, c0, c1, c2, c3, c4, c5, c6⟩, -, -, -⟩ := HC.out wr HB.out
                obtain ⟨xm, xc0, xc1, xc2, xc3, xc4, xc5, xc6⟩ := Boxed.of Hx.out.2
                obtain ⟨b1, o1', ha1, hb1, e10, e11, k1⟩ := (HC.out wr HB.out).2.2.1.os.ods o hlt
                have le1 := k1.le
                have cp1 := k1.cap
                unfold maxLen at cp1
                rw [ha1] at c1
                clear ha1
                have q2 : ((s.os.z o).ls.n : Int) ≤ (k : Int) := by omega
                clear k1
                go_wp2_with fail
                clear l1 d0 d1 l2 c0 c1 c2 c3 c4 c5 c6 xm xc0 xc1 xc2 xc3 xc4 xc5 xc6 hb1 e10 e11
                go_roundw
                case rel => exact ⟨o + 1, by omega, by go_num, Hx, HB⟩
                case measure => simp [intOf]; omega
          · have q1 : (s.os.n : Int) ≤ (o : Int) := by omega
            obtain ⟨⟨⟨l1, d0, d1⟩, l2, c0, c1, c2, c3, c4, c5, c6⟩, -, -, -⟩ := HC.out wr HB.out
            obtain ⟨xm, xc0, xc1, xc2, xc3, xc4, xc5, xc6⟩ := Boxed.of Hx.out.2
            go_wp2_with fail
            clear l1 d0 d1 l2 c0 c1 c2 c3 c4 c5 c6 xm xc0 xc1 xc2 xc3 xc4 xc5 xc6
            refine Calls.mono (Count_any p x b g seen wr (HC.out wr HB.out).2.1 Hx.out.1) ?_
            rintro e w6 ⟨y, rfl, yat, yok, -, hB⟩
            have HSY : Hid (SameT x y) := ((yok.1 (countE_of HAG.out.1)).trans HAG.out.2).symm
            rw [countE_of HAG.out.1]
            clear yok
            have Hx : Hid (x.At w6 ∧ Blk w6 Bx 31 7 (fun j => x.cells.getD j default)) := ⟨Hx.out.1.below hB, Hx.out.2.below hB⟩
            have HB : Hid (Below W0.heap.size W0 w6) := HB.out.trans (hB.mono HB.out.size)
            clear hB
            obtain ⟨W7, hW, hWB, K1⟩ : ∃ W, w6.alloc (.cells #[.slice y.on.a y.on.n y.on.c, .slice y.os.a y.os.n y.os.c, .slice y.hs.a y.hs.n y.hs.c, .slice y.ms.a y.ms.n y.ms.c, .slice y.si.a y.si.n y.si.c, .slice y.so.a y.so.n y.so.c, .slice y.sf.a y.sf.n y.sf.c] 31) = W ∧ Below w6.heap.size w6 W ∧ Blk W w6.heap.size 31 7 (fun j => y.cells.getD j default) := ⟨_, rfl, (Below.refl _ _).alloc (Nat.le_refl _) _, Blk.mk' rfl rfl⟩
            have HW : Hid (w6.alloc (.cells #[.slice y.on.a y.on.n y.on.c, .slice y.os.a y.os.n y.os.c, .slice y.hs.a y.hs.n y.hs.c, .slice y.ms.a y.ms.n y.ms.c, .slice y.si.a y.si.n y.si.c, .slice y.so.a y.so.n y.so.c, .slice y.sf.a y.sf.n y.sf.c] 31) = W7) := hW
            have Hy : Hid (y.At W7 ∧ Blk W7 w6.heap.size 31 7 (fun j => y.cells.getD j default)) := ⟨yat.below hWB, K1⟩
            clear hW K1 yat
            have Hx : Hid (x.At W7 ∧ Blk W7 Bx 31 7 (fun j => x.cells.getD j default)) := ⟨Hx.out.1.below hWB, Hx.out.2.below hWB⟩
            have HB : Hid (Below W0.heap.size W0 W7) := HB.out.trans (hWB.mono HB.out.size)
            clear hWB
            simp only [St.val]
            go_wp2_with fail
            rw [HW.out]
            clear HW
            generalize w6.heap.size = By at *
            refine Calls.mono (countBegun_any W7) ?_
            rintro e w8 ⟨rfl, hB⟩
            have Hx : Hid (x.At w8 ∧ Blk w8 Bx 31 7 (fun j => x.cells.getD j default)) := ⟨Hx.out.1.below hB, Hx.out.2.below hB⟩
            have Hy : Hid (y.At w8 ∧ Blk w8 By 31 7 (fun j => y.cells.getD j default)) := ⟨Hy.out.1.below hB, Hy.out.2.below hB⟩
            have HB : Hid (Below W0.heap.size W0 w8) := HB.out.trans (hB.mono HB.out.size)
            clear hB
            obtain ⟨xm, xc0, xc1, xc2, xc3, xc4, xc5, xc6⟩ := Boxed.of Hx.out.2
            obtain ⟨ym, yc0, yc1, yc2, yc3, yc4, yc5, yc6⟩ := Boxed.of Hy.out.2
            go_wp2_with fail
            clear xm xc0 xc1 xc2 xc3 xc4 xc5 xc6 ym yc0 yc1 yc2 yc3 yc4 yc5 yc6
            refine Calls.mono (SameStates_yes x y w8 Hx.out.1 Hy.out.1 HSY.out HBD.out.1 HBD.out.2.1 HBD.out.2.2) ?_
            rintro e w9 ⟨rfl, hB⟩
            have Hx : Hid (x.At w9 ∧ Blk w9 Bx 31 7 (fun j => x.cells.getD j default)) := ⟨Hx.out.1.below hB, Hx.out.2.below hB⟩
            have Hy : Hid (y.At w9 ∧ Blk w9 By 31 7 (fun j => y.cells.getD j default)) := ⟨Hy.out.1.below hB, Hy.out.2.below hB⟩
            have HB : Hid (Below W0.heap.size W0 w9) := HB.out.trans (hB.mono HB.out.size)
            clear hB
            go_wp2_with fail
            go_ret
            exact ⟨rfl, (HC.out w9 HB.out).2.2.2⟩
  · have g0 : (countE p s bin good seen != 0) = true := by simpa using h0
    clear h0 HXOK
    generalize countE p s bin good seen = EE at *
    simp only [St.val]
    go_wp2_with fail
    rw [HW.out]
    clear HW
    generalize w1.heap.size = Bx at *
    refine Calls.mono (countBegun_any W2) ?_
    rintro e w3 ⟨rfl, hB⟩
    have Hx : Hid (x.At w3 ∧ Blk w3 Bx 31 7 (fun j => x.cells.getD j default)) := ⟨Hx.out.1.below hB, Hx.out.2.below hB⟩
    have HB : Hid (Below W0.heap.size W0 w3) := HB.out.trans (hB.mono HB.out.size)
    clear hB
    go_wp2_with fail
    go_ret
    exact ⟨rfl, (HC.out w3 HB.out).2.2.2⟩
end Go.Proofs.Ytbcacebifpagpae
namespace Go.Proofs.Ytbcacebifpagpae
open Go.ChangeShapes Go.WideShapes Go.ChangeAt Go.RowKit Go.Joins Go.Deep
set_option linter.unusedVariables false
set_option maxRecDepth 100000
theorem own : ownKnob Try.prog.godebug = none := by kernel_rfl
theorem laidOut : laidOutB Try.prog = true := by kernel_rfl
theorem cellsInt : Try.prog.cellsOf 3 = 1 := by kernel_rfl
theorem cellsInts : Try.prog.cellsOf 23 = 1 := by kernel_rfl
theorem cellsBin : Try.prog.cellsOf 58 = 4 := by kernel_rfl
theorem cellsPlan : Try.prog.cellsOf 25 = 2 := by kernel_rfl
theorem cellsBool : Try.prog.cellsOf 4 = 1 := by kernel_rfl
section
variable {H : Type} {enc : TypeId × Value → H} {w : World} {held : Bool} {spare : Nat → Bool}
theorem addrOf {a : Addr} {i : Nat} {v : Value} (h : w.cell? (a.add i) = some v) (h0 : ∃ v0, w.cell? a = some v0) : ∃ b o, a = ⟨b, o, none⟩ ∧ b < w.heap.size ∧ w.cell? ⟨b, o + i, none⟩ = some v := by
  obtain ⟨b, off, spot⟩ := a
  obtain ⟨v0, h0⟩ := h0
  have hspot : spot = none := World.cell?_spot h0
  subst hspot
  refine ⟨b, off, rfl, World.block_lt_of_cell? w _ h0, ?_⟩
  rw [← Go.WideShapes.add_plain]
  exact h
theorem readInts {fuel : Nat} {cs : List Value} {x : DataW H × List MemPlace} (h : DataW.trod enc Try.prog w 0 spare held fuel 23 cs = some x) : ∃ r : Rw, cs = [r.val] ∧ r.At w := by
  rcases open_slice1 Try.underlying23 cellsInt h with ⟨rfl, _⟩ | ⟨a, len, cap, m, n, V, D, Pl, rfl, hb, hl, hm, hmm, _, hx⟩
  · exact ⟨⟨none, 0, 0, fun _ => 0⟩, rfl, Nat.le_refl _, Nat.zero_le _, fun i hi => absurd hi (Nat.not_lt_zero _)⟩
  · have hlm : len ≤ m := by rw [hmm]; split <;> omega
    obtain ⟨z, hz⟩ := choose_lt (α := Int) (n := len) (p := fun i y => V i = .int .i64 y) (fun i hi => by
      obtain ⟨y, hy, _⟩ := DataW.trod_int Try.underlying3 (hx i (by omega)).2
      simp only [List.cons.injEq, and_true] at hy
      exact ⟨y, hy⟩)
    refine ⟨⟨some a, len, cap, z⟩, rfl, hl, hm, fun i hi => ?_⟩
    have hi' : i < len := hi
    have h0 : ∃ v0, w.cell? a = some v0 := ⟨_, by have := (hx 0 (by omega)).1; simpa [Addr.add] using this⟩
    obtain ⟨b, o, rfl, hb', hc⟩ := addrOf (hx i (by omega)).1 h0
    exact ⟨b, o, rfl, hb', by rw [hc, hz i hi']⟩
theorem readRows {fuel : Nat} {cs : List Value} {x : DataW H × List MemPlace} (h : DataW.trod enc Try.prog w 0 spare held fuel 26 cs = some x) : ∃ s : Sh, cs = [s.val] ∧ s.At w := by
  rcases open_slice1 Try.underlying26 cellsInts h with ⟨rfl, _⟩ | ⟨a, len, cap, m, n, V, D, Pl, rfl, hb, hl, hm, hmm, _, hx⟩
  · exact ⟨⟨none, 0, 0, fun _ => ⟨none, 0, 0, fun _ => 0⟩⟩, rfl, Nat.le_refl _, Nat.zero_le _, fun i hi => absurd hi (Nat.not_lt_zero _)⟩
  · have hlm : len ≤ m := by rw [hmm]; split <;> omega
    haveI : Inhabited Rw := ⟨⟨none, 0, 0, fun _ => 0⟩⟩
    obtain ⟨z, hz⟩ := choose_lt (α := Rw) (n := len) (p := fun i y => V i = y.val ∧ y.At w) (fun i hi => by
      obtain ⟨y, hy, hat⟩ := readInts (hx i (by omega)).2
      simp only [List.cons.injEq, and_true] at hy
      exact ⟨y, hy, hat⟩)
    refine ⟨⟨some a, len, cap, z⟩, rfl, hl, hm, fun i hi => ?_⟩
    have hi' : i < len := hi
    have h0 : ∃ v0, w.cell? a = some v0 := ⟨_, by have := (hx 0 (by omega)).1; simpa [Addr.add] using this⟩
    obtain ⟨b, o, rfl, hb', hc⟩ := addrOf (hx i (by omega)).1 h0
    exact ⟨b, o, rfl, hb', by rw [hc, (hz i hi').1]; rfl, (hz i hi').2⟩
theorem readBin {fuel : Nat} {c0 c1 c2 c3 : Value} {x : DataW H × List MemPlace} (h : DataW.trod enc Try.prog w 0 spare held fuel 58 [c0, c1, c2, c3] = some x) : ∃ y : Bin, c0 = .bool y.front ∧ c1 = .int .i64 y.room ∧ c2 = .int .i64 y.low ∧ c3 = .int .i64 y.high := by
  obtain ⟨y0, y1, y2, y3, n, hx, hl, h0, h1, h2, h3⟩ := trod_struct4 Try.underlying58 h
  simp only [cellsBool, cellsInt, List.drop_succ_cons, List.drop_zero, List.take_succ_cons, List.take_zero] at h0 h1 h2 h3
  obtain ⟨b, e0, _⟩ := DataW.trod_bool Try.underlying4 h0
  obtain ⟨n1, e1, _⟩ := DataW.trod_int Try.underlying3 h1
  obtain ⟨n2, e2, _⟩ := DataW.trod_int Try.underlying3 h2
  obtain ⟨n3, e3, _⟩ := DataW.trod_int Try.underlying3 h3
  simp only [List.cons.injEq, and_true] at e0 e1 e2 e3
  exact ⟨⟨b, n1, n2, n3⟩, e0, e1, e2, e3⟩
theorem cells4 {base : Nat} {a : Addr} {cs : List Value} (h : w.cells? base a 4 = some cs) : ∃ c0 c1 c2 c3, cs = [c0, c1, c2, c3] ∧ w.cell? a = some c0 ∧ w.cell? (a.add 1) = some c1 ∧ w.cell? (a.add 2) = some c2 ∧ w.cell? (a.add 3) = some c3 := by
  obtain ⟨_, hlen, hc⟩ := World.cells?_some h
  match cs, hlen with
  | [c0, c1, c2, c3], _ =>
    refine ⟨c0, c1, c2, c3, rfl, ?_, ?_, ?_, ?_⟩
    · simpa [Addr.add] using hc 0 (by decide)
    · simpa using hc 1 (by decide)
    · simpa using hc 2 (by decide)
    · simpa using hc 3 (by decide)
theorem readBins {fuel : Nat} {cs : List Value} {x : DataW H × List MemPlace} (h : DataW.trod enc Try.prog w 0 spare held fuel 22 cs = some x) : ∃ a n c z, cs = [.slice a n c] ∧ n ≤ c ∧ c ≤ maxLen ∧ BinsAt w a n z := by
  rcases open_slice Try.underlying22 h with ⟨rfl, _⟩ | ⟨a, len, cap, m, n, D, Pl, rfl, hb, hl, hm, hmm, _, hx⟩
  · exact ⟨none, 0, 0, fun _ => ⟨false, 0, 0, 0⟩, rfl, Nat.le_refl _, Nat.zero_le _, fun i hi => absurd hi (Nat.not_lt_zero _)⟩
  · have hlm : len ≤ m := by rw [hmm]; split <;> omega
    rw [cellsBin] at hx
    haveI : Inhabited Bin := ⟨⟨false, 0, 0, 0⟩⟩
    obtain ⟨z, hz⟩ := choose_lt (α := Bin) (n := len) (p := fun i y => w.cell? (a.add (i * 4)) = some (.bool y.front) ∧ w.cell? (a.add (i * 4 + 1)) = some (.int .i64 y.room) ∧ w.cell? (a.add (i * 4 + 2)) = some (.int .i64 y.low) ∧ w.cell? (a.add (i * 4 + 3)) = some (.int .i64 y.high)) (fun i hi => by
      obtain ⟨cs', hc, ht⟩ := hx i (by omega)
      obtain ⟨c0, c1, c2, c3, rfl, k0, k1, k2, k3⟩ := cells4 hc
      obtain ⟨y, rfl, rfl, rfl, rfl⟩ := readBin ht
      rw [add_add] at k1 k2 k3
      exact ⟨y, k0, k1, k2, k3⟩)
    refine ⟨some a, len, cap, z, rfl, hl, hm, fun i hi => ?_⟩
    have h0 : ∃ v0, w.cell? a = some v0 := ⟨_, by have := (hz 0 (by omega)).1; simpa [Addr.add] using this⟩
    obtain ⟨k0, k1, k2, k3⟩ := hz i hi
    obtain ⟨b, o, rfl, hb', e0⟩ := addrOf k0 h0
    rw [Go.WideShapes.add_plain] at k1 k2 k3
    exact ⟨b, o, rfl, hb', e0, by rw [Nat.add_assoc]; exact k1, by rw [Nat.add_assoc]; exact k2, by rw [Nat.add_assoc]; exact k3⟩
theorem openPlan {r : Reach} {b0 : Nat} {v : Value} {d : DataW H} {ps : List MemPlace} (hv : Value.okWide Try.prog w r b0 25 v) (h : DataW.Trod enc Try.prog w 0 spare held 25 v d ps) : ∃ p : Pl, v = p.val ∧ p.At w := by
  obtain ⟨c0, c1, y0, y1, m, rfl, rfl, rfl, hy0, hy1⟩ := open_agg2 Try.underlying25 (by kernel_rfl) cellsPlan hv h
  obtain ⟨a, n, c, z, e0, h1, h2, h3⟩ := readBins hy0
  obtain ⟨rr, e1, hr⟩ := readInts hy1
  simp only [List.cons.injEq, and_true] at e0 e1
  subst e0 e1
  exact ⟨⟨a, n, c, z, rr.a, rr.n, rr.c, rr.z⟩, rfl, h1, h2, h3, hr.le, hr.cap, hr.ints⟩
end
end Go.Proofs.Ytbcacebifpagpae
namespace Go.Proofs.Ytbcacebifpagpae
open Go.ChangeShapes Go.WideShapes Go.ChangeAt Go.RowKit Go.Joins Go.Deep
set_option linter.unusedVariables false
set_option maxRecDepth 100000
namespace HoldsFrames
theorem own : ownKnob Try.prog.godebug = none := by kernel_rfl
theorem laidOut : laidOutB Try.prog = true := by kernel_rfl
theorem cellsInt : Try.prog.cellsOf 3 = 1 := by kernel_rfl
theorem cellsHold : Try.prog.cellsOf 70 = 4 := by kernel_rfl
section
variable {H : Type} {enc : TypeId × Value → H} {w : World} {held : Bool} {spare : Nat → Bool}
theorem addrOf {a : Addr} {i : Nat} {v : Value} (h : w.cell? (a.add i) = some v) (h0 : ∃ v0, w.cell? a = some v0) : ∃ b o, a = ⟨b, o, none⟩ ∧ b < w.heap.size ∧ w.cell? ⟨b, o + i, none⟩ = some v := by
  obtain ⟨b, off, spot⟩ := a
  obtain ⟨v0, h0⟩ := h0
  have hspot : spot = none := World.cell?_spot h0
  subst hspot
  refine ⟨b, off, rfl, World.block_lt_of_cell? w _ h0, ?_⟩
  rw [← Go.WideShapes.add_plain]
  exact h
theorem cells4 {base : Nat} {a : Addr} {cs : List Value} (h : w.cells? base a 4 = some cs) : ∃ c0 c1 c2 c3, cs = [c0, c1, c2, c3] ∧ w.cell? a = some c0 ∧ w.cell? (a.add 1) = some c1 ∧ w.cell? (a.add 2) = some c2 ∧ w.cell? (a.add 3) = some c3 := by
  obtain ⟨_, hlen, hc⟩ := World.cells?_some h
  match cs, hlen with
  | [c0, c1, c2, c3], _ =>
    refine ⟨c0, c1, c2, c3, rfl, ?_, ?_, ?_, ?_⟩
    · simpa [Addr.add] using hc 0 (by decide)
    · simpa using hc 1 (by decide)
    · simpa using hc 2 (by decide)
    · simpa using hc 3 (by decide)
theorem readHold {fuel : Nat} {c0 c1 c2 c3 : Value} {x : DataW H × List MemPlace} (h : DataW.trod enc Try.prog w 0 spare held fuel 70 [c0, c1, c2, c3] = some x) : ∃ y : Hd, c0 = .int .i64 y.o ∧ c1 = .int .i64 y.l ∧ c2 = .int .i64 y.b ∧ c3 = .int .i64 y.n := by
  obtain ⟨y0, y1, y2, y3, n, hx, hl, h0, h1, h2, h3⟩ := trod_struct4 Try.underlying70 h
  simp only [cellsInt, List.drop_succ_cons, List.drop_zero, List.take_succ_cons, List.take_zero] at h0 h1 h2 h3
  obtain ⟨n0, e0, _⟩ := DataW.trod_int Try.underlying3 h0
  obtain ⟨n1, e1, _⟩ := DataW.trod_int Try.underlying3 h1
  obtain ⟨n2, e2, _⟩ := DataW.trod_int Try.underlying3 h2
  obtain ⟨n3, e3, _⟩ := DataW.trod_int Try.underlying3 h3
  simp only [List.cons.injEq, and_true] at e0 e1 e2 e3
  exact ⟨⟨n0, n1, n2, n3⟩, e0, e1, e2, e3⟩
theorem readHolds {fuel : Nat} {cs : List Value} {x : DataW H × List MemPlace} (h : DataW.trod enc Try.prog w 0 spare held fuel 28 cs = some x) : ∃ s : Hs, cs = [s.val] ∧ s.At w := by
  rcases open_slice Try.underlying28 h with ⟨rfl, _⟩ | ⟨a, len, cap, m, n, D, Pl, rfl, hb, hl, hm, hmm, _, hx⟩
  · exact ⟨⟨none, 0, 0, fun _ => ⟨0, 0, 0, 0⟩⟩, rfl, Nat.le_refl _, Nat.zero_le _, fun i hi => absurd hi (Nat.not_lt_zero _), fun _ => rfl⟩
  · have hlm : len ≤ m := by rw [hmm]; split <;> omega
    rw [cellsHold] at hx
    haveI : Inhabited Hd := ⟨⟨0, 0, 0, 0⟩⟩
    obtain ⟨z, hz⟩ := choose_lt (α := Hd) (n := len) (p := fun i y => w.cell? (a.add (i * 4)) = some (.int .i64 y.o) ∧ w.cell? (a.add (i * 4 + 1)) = some (.int .i64 y.l) ∧ w.cell? (a.add (i * 4 + 2)) = some (.int .i64 y.b) ∧ w.cell? (a.add (i * 4 + 3)) = some (.int .i64 y.n)) (fun i hi => by
      obtain ⟨cs', hc, ht⟩ := hx i (by omega)
      obtain ⟨c0, c1, c2, c3, rfl, k0, k1, k2, k3⟩ := cells4 hc
      obtain ⟨y, rfl, rfl, rfl, rfl⟩ := readHold ht
      rw [add_add] at k1 k2 k3
      exact ⟨y, k0, k1, k2, k3⟩)
    refine ⟨⟨some a, len, cap, z⟩, rfl, hl, hm, fun i hi => ?_, fun h => by cases h⟩
    have hi' : i < len := hi
    have h0 : ∃ v0, w.cell? a = some v0 := ⟨_, by have := (hz 0 (by omega)).1; simpa [Addr.add] using this⟩
    obtain ⟨k0, k1, k2, k3⟩ := hz i hi'
    obtain ⟨b, o, rfl, hb', e0⟩ := addrOf k0 h0
    rw [Go.WideShapes.add_plain] at k1 k2 k3
    exact ⟨b, o, rfl, hb', e0, by rw [Nat.add_assoc]; exact k1, by rw [Nat.add_assoc]; exact k2, by rw [Nat.add_assoc]; exact k3⟩
end
end HoldsFrames
end Go.Proofs.Ytbcacebifpagpae
namespace Go.Proofs.Ytbcacebifpagpae
open Go.ChangeShapes Go.WideShapes Go.ChangeAt Go.RowKit Go.Joins Go.Deep
set_option linter.unusedVariables false
set_option maxRecDepth 100000
theorem cellsLine : Try.prog.cellsOf 40 = 4 := by kernel_rfl
theorem cellsMove : Try.prog.cellsOf 55 = 4 := by kernel_rfl
theorem cellsOrder : Try.prog.cellsOf 38 = 2 := by kernel_rfl
theorem cellsState : Try.prog.cellsOf 31 = 7 := by kernel_rfl
theorem cellsLines : Try.prog.cellsOf 36 = 1 := by kernel_rfl
theorem cellsMoves : Try.prog.cellsOf 29 = 1 := by kernel_rfl
theorem cellsOrders : Try.prog.cellsOf 27 = 1 := by kernel_rfl
theorem cellsHolds : Try.prog.cellsOf 28 = 1 := by kernel_rfl
theorem cellsRows : Try.prog.cellsOf 26 = 1 := by kernel_rfl
section
variable {H : Type} {enc : TypeId × Value → H} {w : World} {held : Bool} {spare : Nat → Bool}
theorem readLine {fuel : Nat} {c0 c1 c2 c3 : Value} {x : DataW H × List MemPlace} (h : DataW.trod enc Try.prog w 0 spare held fuel 40 [c0, c1, c2, c3] = some x) : ∃ y : Hd, c0 = .int .i64 y.o ∧ c1 = .int .i64 y.l ∧ c2 = .int .i64 y.b ∧ c3 = .int .i64 y.n := by
  obtain ⟨y0, y1, y2, y3, n, hx, hl, h0, h1, h2, h3⟩ := trod_struct4 Try.underlying40 h
  simp only [cellsInt, List.drop_succ_cons, List.drop_zero, List.take_succ_cons, List.take_zero] at h0 h1 h2 h3
  obtain ⟨n0, e0, _⟩ := DataW.trod_int Try.underlying3 h0
  obtain ⟨n1, e1, _⟩ := DataW.trod_int Try.underlying3 h1
  obtain ⟨n2, e2, _⟩ := DataW.trod_int Try.underlying3 h2
  obtain ⟨n3, e3, _⟩ := DataW.trod_int Try.underlying3 h3
  simp only [List.cons.injEq, and_true] at e0 e1 e2 e3
  exact ⟨⟨n0, n1, n2, n3⟩, e0, e1, e2, e3⟩
theorem readLines {fuel : Nat} {cs : List Value} {x : DataW H × List MemPlace} (h : DataW.trod enc Try.prog w 0 spare held fuel 36 cs = some x) : ∃ s : Hs, cs = [s.val] ∧ s.At w := by
  rcases open_slice Try.underlying36 h with ⟨rfl, _⟩ | ⟨a, len, cap, m, n, D, Pl, rfl, hb, hl, hm, hmm, _, hx⟩
  · exact ⟨⟨none, 0, 0, fun _ => ⟨0, 0, 0, 0⟩⟩, rfl, Nat.le_refl _, Nat.zero_le _, fun i hi => absurd hi (Nat.not_lt_zero _), fun _ => rfl⟩
  · have hlm : len ≤ m := by rw [hmm]; split <;> omega
    rw [cellsLine] at hx
    haveI : Inhabited Hd := ⟨⟨0, 0, 0, 0⟩⟩
    obtain ⟨z, hz⟩ := choose_lt (α := Hd) (n := len) (p := fun i y => w.cell? (a.add (i * 4)) = some (.int .i64 y.o) ∧ w.cell? (a.add (i * 4 + 1)) = some (.int .i64 y.l) ∧ w.cell? (a.add (i * 4 + 2)) = some (.int .i64 y.b) ∧ w.cell? (a.add (i * 4 + 3)) = some (.int .i64 y.n)) (fun i hi => by
      obtain ⟨cs', hc, ht⟩ := hx i (by omega)
      obtain ⟨c0, c1, c2, c3, rfl, k0, k1, k2, k3⟩ := cells4 hc
      obtain ⟨y, rfl, rfl, rfl, rfl⟩ := readLine ht
      rw [add_add] at k1 k2 k3
      exact ⟨y, k0, k1, k2, k3⟩)
    refine ⟨⟨some a, len, cap, z⟩, rfl, hl, hm, fun i hi => ?_, fun h => by cases h⟩
    have hi' : i < len := hi
    have h0 : ∃ v0, w.cell? a = some v0 := ⟨_, by have := (hz 0 (by omega)).1; simpa [Addr.add] using this⟩
    obtain ⟨k0, k1, k2, k3⟩ := hz i hi'
    obtain ⟨b, o, rfl, hb', e0⟩ := addrOf k0 h0
    rw [Go.WideShapes.add_plain] at k1 k2 k3
    exact ⟨b, o, rfl, hb', e0, by rw [Nat.add_assoc]; exact k1, by rw [Nat.add_assoc]; exact k2, by rw [Nat.add_assoc]; exact k3⟩
theorem readMove {fuel : Nat} {c0 c1 c2 c3 : Value} {x : DataW H × List MemPlace} (h : DataW.trod enc Try.prog w 0 spare held fuel 55 [c0, c1, c2, c3] = some x) : ∃ y : Hd, c0 = .int .i64 y.o ∧ c1 = .int .i64 y.l ∧ c2 = .int .i64 y.b ∧ c3 = .int .i64 y.n := by
  obtain ⟨y0, y1, y2, y3, n, hx, hl, h0, h1, h2, h3⟩ := trod_struct4 Try.underlying55 h
  simp only [cellsInt, List.drop_succ_cons, List.drop_zero, List.take_succ_cons, List.take_zero] at h0 h1 h2 h3
  obtain ⟨n0, e0, _⟩ := DataW.trod_int Try.underlying3 h0
  obtain ⟨n1, e1, _⟩ := DataW.trod_int Try.underlying3 h1
  obtain ⟨n2, e2, _⟩ := DataW.trod_int Try.underlying3 h2
  obtain ⟨n3, e3, _⟩ := DataW.trod_int Try.underlying3 h3
  simp only [List.cons.injEq, and_true] at e0 e1 e2 e3
  exact ⟨⟨n0, n1, n2, n3⟩, e0, e1, e2, e3⟩
theorem readMoves {fuel : Nat} {cs : List Value} {x : DataW H × List MemPlace} (h : DataW.trod enc Try.prog w 0 spare held fuel 29 cs = some x) : ∃ s : Hs, cs = [s.val] ∧ s.At w := by
  rcases open_slice Try.underlying29 h with ⟨rfl, _⟩ | ⟨a, len, cap, m, n, D, Pl, rfl, hb, hl, hm, hmm, _, hx⟩
  · exact ⟨⟨none, 0, 0, fun _ => ⟨0, 0, 0, 0⟩⟩, rfl, Nat.le_refl _, Nat.zero_le _, fun i hi => absurd hi (Nat.not_lt_zero _), fun _ => rfl⟩
  · have hlm : len ≤ m := by rw [hmm]; split <;> omega
    rw [cellsMove] at hx
    haveI : Inhabited Hd := ⟨⟨0, 0, 0, 0⟩⟩
    obtain ⟨z, hz⟩ := choose_lt (α := Hd) (n := len) (p := fun i y => w.cell? (a.add (i * 4)) = some (.int .i64 y.o) ∧ w.cell? (a.add (i * 4 + 1)) = some (.int .i64 y.l) ∧ w.cell? (a.add (i * 4 + 2)) = some (.int .i64 y.b) ∧ w.cell? (a.add (i * 4 + 3)) = some (.int .i64 y.n)) (fun i hi => by
      obtain ⟨cs', hc, ht⟩ := hx i (by omega)
      obtain ⟨c0, c1, c2, c3, rfl, k0, k1, k2, k3⟩ := cells4 hc
      obtain ⟨y, rfl, rfl, rfl, rfl⟩ := readMove ht
      rw [add_add] at k1 k2 k3
      exact ⟨y, k0, k1, k2, k3⟩)
    refine ⟨⟨some a, len, cap, z⟩, rfl, hl, hm, fun i hi => ?_, fun h => by cases h⟩
    have hi' : i < len := hi
    have h0 : ∃ v0, w.cell? a = some v0 := ⟨_, by have := (hz 0 (by omega)).1; simpa [Addr.add] using this⟩
    obtain ⟨k0, k1, k2, k3⟩ := hz i hi'
    obtain ⟨b, o, rfl, hb', e0⟩ := addrOf k0 h0
    rw [Go.WideShapes.add_plain] at k1 k2 k3
    exact ⟨b, o, rfl, hb', e0, by rw [Nat.add_assoc]; exact k1, by rw [Nat.add_assoc]; exact k2, by rw [Nat.add_assoc]; exact k3⟩
theorem cells2 {base : Nat} {a : Addr} {cs : List Value} (h : w.cells? base a 2 = some cs) : ∃ c0 c1, cs = [c0, c1] ∧ w.cell? a = some c0 ∧ w.cell? (a.add 1) = some c1 := by
  obtain ⟨_, hlen, hc⟩ := World.cells?_some h
  match cs, hlen with
  | [c0, c1], _ =>
    refine ⟨c0, c1, rfl, ?_, ?_⟩
    · simpa [Addr.add] using hc 0 (by decide)
    · simpa using hc 1 (by decide)
theorem readOrder {fuel : Nat} {c0 c1 : Value} {x : DataW H × List MemPlace} (h : DataW.trod enc Try.prog w 0 spare held fuel 38 [c0, c1] = some x) : ∃ y : Od, c0 = .int .i64 y.k ∧ c1 = .slice y.ls.a y.ls.n y.ls.c ∧ y.ls.At w := by
  obtain ⟨y0, y1, n, hx, hl, h0, h1⟩ := trod_struct2 Try.underlying38 h
  simp only [cellsInt, cellsLines, List.drop_succ_cons, List.drop_zero, List.take_succ_cons, List.take_zero] at h0 h1
  obtain ⟨n0, e0, _⟩ := DataW.trod_int Try.underlying3 h0
  obtain ⟨s, e1, hs⟩ := readLines h1
  simp only [List.cons.injEq, and_true] at e0 e1
  exact ⟨⟨n0, s⟩, e0, e1, hs⟩
theorem readOrders {fuel : Nat} {cs : List Value} {x : DataW H × List MemPlace} (h : DataW.trod enc Try.prog w 0 spare held fuel 27 cs = some x) : ∃ s : Go.Proofs.Ytbcacebifpagpae.Os, cs = [s.val] ∧ s.At w := by
  rcases open_slice Try.underlying27 h with ⟨rfl, _⟩ | ⟨a, len, cap, m, n, D, Pl, rfl, hb, hl, hm, hmm, _, hx⟩
  · exact ⟨⟨none, 0, 0, fun _ => ⟨0, ⟨none, 0, 0, fun _ => ⟨0, 0, 0, 0⟩⟩⟩⟩, rfl, Nat.le_refl _, Nat.zero_le _, fun i hi => absurd hi (Nat.not_lt_zero _)⟩
  · have hlm : len ≤ m := by rw [hmm]; split <;> omega
    rw [cellsOrder] at hx
    haveI : Inhabited Od := ⟨⟨0, ⟨none, 0, 0, fun _ => ⟨0, 0, 0, 0⟩⟩⟩⟩
    obtain ⟨z, hz⟩ := choose_lt (α := Od) (n := len) (p := fun i y => w.cell? (a.add (i * 2)) = some (.int .i64 y.k) ∧ w.cell? (a.add (i * 2 + 1)) = some (.slice y.ls.a y.ls.n y.ls.c) ∧ y.ls.At w) (fun i hi => by
      obtain ⟨cs', hc, ht⟩ := hx i (by omega)
      obtain ⟨c0, c1, rfl, k0, k1⟩ := cells2 hc
      obtain ⟨y, rfl, rfl, hy⟩ := readOrder ht
      rw [add_add] at k1
      exact ⟨y, k0, k1, hy⟩)
    refine ⟨⟨some a, len, cap, z⟩, rfl, hl, hm, fun i hi => ?_⟩
    have hi' : i < len := hi
    have h0 : ∃ v0, w.cell? a = some v0 := ⟨_, by have := (hz 0 (by omega)).1; simpa [Addr.add] using this⟩
    obtain ⟨k0, k1, hy⟩ := hz i hi'
    obtain ⟨b, o, rfl, hb', e0⟩ := addrOf k0 h0
    rw [Go.WideShapes.add_plain] at k1
    exact ⟨b, o, rfl, hb', e0, by rw [Nat.add_assoc]; exact k1, hy⟩
theorem array7 {α : Type} {cs : Array α} (h : cs.size = 7) : ∃ c0 c1 c2 c3 c4 c5 c6, cs = #[c0, c1, c2, c3, c4, c5, c6] := by
  obtain ⟨l⟩ := cs
  match l, h with
  | [c0, c1, c2, c3, c4, c5, c6], _ => exact ⟨c0, c1, c2, c3, c4, c5, c6, rfl⟩
theorem openState {r : Reach} {b0 : Nat} {v : Value} {d : DataW H} {ps : List MemPlace} (hv : Value.okWide Try.prog w r b0 31 v) (h : DataW.Trod enc Try.prog w 0 spare held 31 v d ps) : ∃ s : St, v = s.val ∧ s.At w := by
  obtain ⟨cs, rfl, hsz⟩ := okWide_struct Try.underlying31 hv
  obtain ⟨c0, c1, c2, c3, c4, c5, c6, rfl⟩ := array7 (hsz.trans cellsState)
  obtain ⟨fuel, hf⟩ := h
  obtain ⟨xs, n, _, hx, hl, hlen, hg⟩ := DataW.trod_struct Try.underlying31 hf
  match xs, hlen with
  | [y0, y1, y2, y3, y4, y5, y6], _ =>
    have k0 := hg 0 _ rfl
    have k1 := hg 1 _ rfl
    have k2 := hg 2 _ rfl
    have k3 := hg 3 _ rfl
    have k4 := hg 4 _ rfl
    have k5 := hg 5 _ rfl
    have k6 := hg 6 _ rfl
    simp [cellsRows, cellsOrders, cellsHolds, cellsMoves, cellsInts, Value.cells] at k0 k1 k2 k3 k4 k5 k6
    obtain ⟨on, e0, h0⟩ := readRows k0
    obtain ⟨os, e1, h1⟩ := readOrders k1
    obtain ⟨hs, e2, h2⟩ := HoldsFrames.readHolds k2
    obtain ⟨ms, e3, h3⟩ := readMoves k3
    obtain ⟨si, e4, h4⟩ := readInts k4
    obtain ⟨so, e5, h5⟩ := readInts k5
    obtain ⟨sf, e6, h6⟩ := readInts k6
    simp only [List.cons.injEq, and_true] at e0 e1 e2 e3 e4 e5 e6
    subst e0 e1 e2 e3 e4 e5 e6
    exact ⟨⟨on, os, hs, ms, si, so, sf⟩, rfl, h0, h1, h2, h3, h4, h5, h6⟩
end
end Go.Proofs.Ytbcacebifpagpae

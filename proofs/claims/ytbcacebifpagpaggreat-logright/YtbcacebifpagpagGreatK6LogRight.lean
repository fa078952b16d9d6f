/- Texts that were built one behind the other, joined; what LogRight does not reach is left out. -/
import Derived.Test.YtbcacebifpagpagGreatK5LogRight
import Derived.Test.YtbcacebifpagpagGreatRows
import Derived.ProofKit
import Derived.OpenShut
import Derived.Lib.SmallJoins
import Derived.Deep.Slices
namespace Go.Proofs.YtbcacebifpagpagGreat
open Go.RowKit Go.Shelf Go.Sort
set_option linter.unusedVariables false
def lx1:Ax:=⟨1,1,0,0,5,⟨none,0,0,fun _=>⟨0,0,0,0⟩⟩⟩
def lx2 (B:Nat):Ax:=⟨2,0,0,0,0,⟨some ⟨B,0,none⟩,1,1,fun _=>⟨1,9,0,0⟩⟩⟩
def lx3:Ax:=⟨0,0,0,0,256,⟨none,0,0,fun _=>⟨0,0,0,0⟩⟩⟩
def lx0:Ax:=⟨0,0,0,0,0,⟨none,0,0,fun _=>⟨0,0,0,0⟩⟩⟩
def lt1:List UInt8:=[1,1,0,0,5,0]
def lt2:List UInt8:=[2,0,0,0,0,1,1,9,0,0]
def lt12:List UInt8:=[1,1,0,0,5,0,2,0,0,0,0,1,1,9,0,0]
def lt3:List UInt8:=[1,1,0,0,5,0,2,0,0,0,0,1,1,9,0,0,1]
theorem lw1:writeL lx1=lt1∧writeE lx1=0:=⟨by kernel_rfl,by kernel_rfl⟩
theorem lw2 (B:Nat):writeL (lx2 B)=lt2∧writeE (lx2 B)=0:=⟨by kernel_rfl,by kernel_rfl⟩
theorem lw3:writeE lx3=3:=by kernel_rfl
theorem lr3:repN lt3=16∧repE lt3=0∧(repL lt3).length=2:=⟨by kernel_rfl,by kernel_rfl,by kernel_rfl⟩
theorem lrec (g1 g2:Nat):recE (yardP g1 g2) lt12=0∧recN (yardP g1 g2) lt12=2:=⟨by kernel_rfl,by kernel_rfl⟩
def begZ9:St:=⟨⟨none,3,3,fun _=>⟨none,2,2,fun _=>0⟩⟩,⟨none,0,0,fun _=>⟨0,⟨none,0,0,fun _=>⟨0,0,0,0⟩⟩⟩⟩,⟨none,0,0,fun _=>⟨0,0,0,0⟩⟩,⟨none,0,0,fun _=>⟨0,0,0,0⟩⟩,⟨none,2,2,fun _=>0⟩,⟨none,2,2,fun _=>0⟩,⟨none,2,2,fun _=>0⟩⟩
theorem begZ9_is (g1 g2:Nat):BegunS (yardP g1 g2) begZ9:=⟨rfl,fun _ _=>⟨rfl,fun _ _=>rfl⟩,rfl,rfl,rfl,⟨rfl,fun _ _=>rfl⟩,⟨rfl,fun _ _=>rfl⟩,⟨rfl,fun _ _=>rfl⟩⟩
def lastT (g1 g2:Nat):St:=doneT (yardP g1 g2) begZ9 (repL lt12)
theorem SameL.self:∀ l:List Ax,SameL l l
 | []=>trivial
 | x :: l=>⟨SameA.self x,SameL.self l⟩
theorem recB {g1 g2:Nat} {y:St} (h:RecOK (yardP g1 g2) lt12 y):1<y.on.n∧0<(y.on.r 1).n∧(y.on.r 1).z 0=5∧y.os.n=1:=by
 obtain ⟨s0,hb,hs⟩:=h.1 (lrec g1 g2).1
 have e:SameT y (lastT g1 g2):=hs.trans (doneT_same (rightT (begun_state (p:=(yardP g1 g2)) (by kernel_rfl) (begZ9_is g1 g2))) (begun_sameF hb (begZ9_is g1 g2)) (SameL.self _))
 have a1:1<y.on.n:=by rw [e.on.1];exact of_decide_eq_true (by kernel_rfl)
 have b1:0<(y.on.r 1).n:=by rw [(e.on.2 1 a1).1];exact of_decide_eq_true (by kernel_rfl)
 have c1:(y.on.r 1).z 0=5:=by rw [(e.on.2 1 a1).2 0 b1];kernel_rfl
 have a2:y.os.n=1:=by rw [e.os.1];kernel_rfl
 exact ⟨a1,b1,c1,a2⟩
theorem lx2_at (w:World):(lx2 w.heap.size).ls.At (w.alloc (.cells #[.int .i64 1,.int .i64 9,.int .i64 0,.int .i64 0] 59)):=by
 have K:=Blk.new w #[.int .i64 1,.int .i64 9,.int .i64 0,.int .i64 0] 59
 refine ⟨Nat.le_refl _,by show 1≤maxLen;unfold maxLen;omega,fun i hi => ?_,fun h=>by cases h⟩
 have h0:i=0:=by have hi':i<1:=hi;omega
 subst h0
 exact ⟨w.heap.size,0,rfl,K.lt,K.cell (j:=0) (by decide),K.cell (j:=1) (by decide),K.cell (j:=2) (by decide),K.cell (j:=3) (by decide)⟩
set_option maxRecDepth 100000 in
set_option maxHeartbeats 8000000 in
theorem logBegun_any (w:World):Calls Tryz.prog 12 #[] w fun e w'=>e = .returned (.bool true)∧Below w.heap.size w w':=by
 have s1:(⟨lt1.toArray⟩:ByteArray).size=6:=rfl
 have s2:(⟨lt2.toArray⟩:ByteArray).size=10:=rfl
 have s12:(⟨lt12.toArray⟩:ByteArray).size=16:=rfl
 have a12:(⟨lt1.toArray⟩:ByteArray)++⟨lt2.toArray⟩=⟨lt12.toArray⟩:=by rw [ByteArray.mk_append_mk];rfl
 have a3:(⟨lt12.toArray⟩:ByteArray)++⟨#[1]⟩=⟨lt3.toArray⟩:=by show (⟨lt12.toArray⟩:ByteArray)++⟨([1]:List UInt8).toArray⟩=_;rw [ByteArray.mk_append_mk];rfl
 have e1:((⟨lt1.toArray⟩:ByteArray).toList==(⟨#[1,1,0,0,5,0]⟩:ByteArray).toList)=true:=by kernel_rfl
 go_enter Tryz.func12,Tryz.ntmps12
 go_wp2_with fail
 refine (Write_any lx1 w (Hs.none w) (Nat.zero_le _)).mono ?_
 rintro e w1 ⟨rfl,hB⟩
 have HB1:Hid (Below w.heap.size w w1):=hB
 clear hB
 rw [lw1.1,lw1.2]
 go_wp2_with fail
 refine (Write_any (lx2 w1.heap.size) (w1.alloc (.cells #[.int .i64 1,.int .i64 9,.int .i64 0,.int .i64 0] 59)) (lx2_at w1) (by show 1≤_;omega)).mono ?_
 rintro e w2 ⟨rfl,hB⟩
 have HB2:Hid (Below w.heap.size w w2):=HB1.out.trans (((Below.refl _ _).alloc HB1.out.size _).trans (hB.mono (by simp;have:=HB1.out.size;omega)))
 clear hB HB1
 rw [(lw2 w1.heap.size).1,(lw2 w1.heap.size).2]
 go_wp2_with fail
 refine (Replay_any lt3 w2).mono ?_
 rintro e w3 ⟨acts,rfl,an,-,-,hB⟩
 have HB3:Hid (Below w.heap.size w w3):=HB2.out.trans (hB.mono HB2.out.size)
 have an2:(acts.n:Int)=2:=by rw [an,lr3.2.2];rfl
 clear hB HB2 an
 rw [lr3.1,lr3.2.1]
 simp only [As.val]
 go_wp2_with fail
 refine (yard_any w3).mono ?_
 rintro e w4 ⟨g1,g2,rfl,-,-,k1,k2,hB⟩
 have HB4:Hid (Below w.heap.size w w4):=HB3.out.trans (hB.mono HB3.out.size)
 have HY4:Hid ((yardP g1 g2).At w4):=yardAt k1 k2
 clear hB HB3 k1 k2
 go_wp2_with fail
 refine (Recover_any (yardP g1 g2) lt12 w4 HY4.out).mono ?_
 rintro e w5 ⟨y,rfl,yat,yok,hB⟩
 have HB5:Hid (Below w.heap.size w w5):=HB4.out.trans (hB.mono HB4.out.size)
 have HY:Hid (y.At w5):=yat
 have HYR:Hid (1<y.on.n∧0<(y.on.r 1).n∧(y.on.r 1).z 0=5∧y.os.n=1):=recB yok
 rw [(lrec g1 g2).1,(lrec g1 g2).2]
 clear hB HB4 HY4 yat yok
 simp only [St.val]
 go_wp2_with fail
 obtain ⟨W6,hW6,hB6,KY⟩:∃ W,w5.alloc (.cells #[.slice y.on.a y.on.n y.on.c,.slice y.os.a y.os.n y.os.c,.slice y.hs.a y.hs.n y.hs.c,.slice y.ms.a y.ms.n y.ms.c,.slice y.si.a y.si.n y.si.c,.slice y.so.a y.so.n y.so.c,.slice y.sf.a y.sf.n y.sf.c] 31)=W∧Below w5.heap.size w5 W∧Blk W w5.heap.size 31 7 (fun j=>y.cells.getD j default):=⟨_,rfl,(Below.refl _ _).alloc (Nat.le_refl _) _,Blk.mk' rfl rfl⟩
 rw [hW6]
 have HB6:Hid (Below w.heap.size w W6):=HB5.out.trans (hB6.mono HB5.out.size)
 have HK6:Hid (y.At W6∧Blk W6 w5.heap.size 31 7 (fun j=>y.cells.getD j default)):=⟨HY.out.below hB6,KY⟩
 clear hW6 hB6 KY HB5 HY
 refine (Write_any lx3 W6 (Hs.none W6) (Nat.zero_le _)).mono ?_
 rintro e w7 ⟨rfl,hB⟩
 have HB7:Hid (Below w.heap.size w w7):=HB6.out.trans (hB.mono HB6.out.size)
 have HK7:Hid (y.At w7∧Blk w7 w5.heap.size 31 7 (fun j=>y.cells.getD j default)):=⟨HK6.out.1.below hB,HK6.out.2.below hB⟩
 clear hB HB6 HK6
 rw [lw3]
 go_wp2_with fail
 refine (yard_any w7).mono ?_
 rintro e w8 ⟨g3,g4,rfl,-,-,k1,k2,hB⟩
 have HB8:Hid (Below w.heap.size w w8):=HB7.out.trans (hB.mono HB7.out.size)
 have HK8:Hid (y.At w8∧Blk w8 w5.heap.size 31 7 (fun j=>y.cells.getD j default)):=⟨HK7.out.1.below hB,HK7.out.2.below hB⟩
 have HY8:Hid ((yardP g3 g4).At w8):=yardAt k1 k2
 clear hB HB7 HK7 k1 k2
 go_wp2_with fail
 refine (busy_any w8).mono ?_
 rintro e w9 ⟨g,rfl,-,hb,hB⟩
 have HB9:Hid (Below w.heap.size w w9):=HB8.out.trans (hB.mono HB8.out.size)
 have HK9:Hid (y.At w9∧Blk w9 w5.heap.size 31 7 (fun j=>y.cells.getD j default)):=⟨HK8.out.1.below hB,HK8.out.2.below hB⟩
 have HY9:Hid ((yardP g3 g4).At w9∧(busyS g 2 0).At w9):=⟨HY8.out.below hB,busyAt hb⟩
 clear hB hb HB8 HK8 HY8
 go_wp2_with fail
 refine (Do_any (yardP g3 g4) (busyS g 2 0) lx0 w9 HY9.out.1 HY9.out.2 (Hs.none w9)).mono ?_
 rintro e wa ⟨v,rfl,-,-,-,hB⟩
 have HBa:Hid (Below w.heap.size w wa):=HB9.out.trans (hB.mono HB9.out.size)
 have HKa:Hid (y.At wa∧Blk wa w5.heap.size 31 7 (fun j=>y.cells.getD j default)):=⟨HK9.out.1.below hB,HK9.out.2.below hB⟩
 clear hB HB9 HK9 HY9
 rw [show doE (yardP g3 g4) (busyS g 2 0) lx0=8 from rfl]
 simp only [St.val]
 obtain ⟨Wb,hWb,hBb⟩:∃ W,wa.alloc (.cells #[.slice v.on.a v.on.n v.on.c,.slice v.os.a v.os.n v.os.c,.slice v.hs.a v.hs.n v.hs.c,.slice v.ms.a v.ms.n v.ms.c,.slice v.si.a v.si.n v.si.c,.slice v.so.a v.so.n v.so.c,.slice v.sf.a v.sf.n v.sf.c] 31)=W∧Below wa.heap.size wa W:=⟨_,rfl,(Below.refl _ _).alloc (Nat.le_refl _) _⟩
 have HWb:Hid (wa.alloc (.cells #[.slice v.on.a v.on.n v.on.c,.slice v.os.a v.os.n v.os.c,.slice v.hs.a v.hs.n v.hs.c,.slice v.ms.a v.ms.n v.ms.c,.slice v.si.a v.si.n v.si.c,.slice v.so.a v.so.n v.so.c,.slice v.sf.a v.sf.n v.sf.c] 31)=Wb):=hWb
 have HBF:Hid (Below w.heap.size w Wb):=HBa.out.trans (hBb.mono HBa.out.size)
 obtain ⟨m1,p0,p1,p2,p3,p4,p5,p6⟩:=Boxed.of (HKa.out.2.below hBb)
 obtain ⟨r1,r2,r3,r4⟩:=HYR.out
 obtain ⟨ob,oo,oa,ol,oc,orw⟩:=(HKa.out.1.below hBb).on.rows 1 r1
 obtain ⟨ib,io,ia,il,ic⟩:=orw.ints 0 r2
 rw [r3,Nat.add_zero] at ic
 rw [oa] at p0
 rw [ia] at oc
 have q1:(1:Int)<(y.on.n:Int):=by omega
 have q2:(0:Int)<((y.on.r 1).n:Int):=by omega
 have q4:(y.os.n:Int)=1:=by omega
 clear r1 r2 r3 r4 HYR HKa HBa hBb hWb oa ia orw
 rw [← HWb.out] at m1 p0 p1 p2 p3 p4 p5 p6 ol oc il ic
 go_wp2_with fail
 rw [HWb.out]
 go_ret
 exact ⟨by simp,HBF.out⟩
theorem right_names (p:Pl) (s:St) (x:Ax) (a b c n:Int) (h1:(x.k=1∨x.k=8)→a=x.a∧b=x.b∧n=x.n) (h4:x.k=4→a=x.a) (h5:x.k=5→a=x.a∧b=x.b∧c=x.c∧n=x.n) (h7:x.k=7→a=x.a∧n=x.n) (h0:doE p s x=0):doE p s ⟨x.k,a,b,c,n,x.ls⟩=0∧doT p s ⟨x.k,a,b,c,n,x.ls⟩=doT p s x:=by
 obtain ⟨k,a0,b0,c0,n0,ls⟩:=x
 simp only at h1 h4 h5 h7
 by_cases k1:k=1
 ·subst k1
  obtain ⟨rfl,rfl,rfl⟩:=h1 (Or.inl rfl)
  exact ⟨h0,rfl⟩
 by_cases k2:k=2
 ·subst k2;exact ⟨h0,rfl⟩
 by_cases k3:k=3
 ·subst k3;exact ⟨h0,rfl⟩
 by_cases k4:k=4
 ·subst k4
  obtain rfl:=h4 rfl
  exact ⟨h0,rfl⟩
 by_cases k5:k=5
 ·subst k5
  obtain ⟨rfl,rfl,rfl,rfl⟩:=h5 rfl
  exact ⟨h0,rfl⟩
 by_cases k6:k=6
 ·subst k6;exact ⟨h0,rfl⟩
 by_cases k7:k=7
 ·subst k7
  obtain ⟨rfl,rfl⟩:=h7 rfl
  exact ⟨h0,rfl⟩
 by_cases k8:k=8
 ·subst k8
  obtain ⟨rfl,rfl,rfl⟩:=h1 (Or.inr rfl)
  exact ⟨h0,rfl⟩
 exfalso
 unfold doE at h0
 simp only [if_neg k1,if_neg k2,if_neg k3,if_neg k4,if_neg k5,if_neg k6,if_neg k7,if_neg k8] at h0
 exact absurd h0 (by decide)
theorem do_kind {p:Pl} {s:St} {x:Ax} (h0:doE p s x=0):x.k=1∨x.k=2∨x.k=3∨x.k=4∨x.k=5∨x.k=6∨x.k=7∨x.k=8:=by
 by_cases h:x.k=1∨x.k=2∨x.k=3∨x.k=4∨x.k=5∨x.k=6∨x.k=7∨x.k=8
 ·exact h
 ·exfalso
  simp only [not_or] at h
  obtain ⟨k1,k2,k3,k4,k5,k6,k7,k8⟩:=h
  unfold doE at h0
  rw [if_neg k1,if_neg k2,if_neg k3,if_neg k4,if_neg k5,if_neg k6,if_neg k7,if_neg k8] at h0
  exact absurd h0 (by decide)
set_option maxRecDepth 100000 in
set_option maxHeartbeats 8000000 in
theorem LogRight_walk (p:Pl) (s:St) (x:Ax) (n:Int) (w:World) (hp:p.At w) (hs:s.At w) (hx:x.ls.At w) :
  Calls Tryz.prog 6 #[p.val,s.val,x.val,.int .i64 n] w fun e w'=>e = .returned (.bool true)∧Below w.heap.size w w':=by
 obtain ⟨W0,hW,hWB,X0,XA⟩:∃ W,((w.alloc (.cells #[.slice p.ab p.nb p.cb,.slice p.sa p.ns p.cs] 25)).alloc (.cells s.cells 31)).alloc (.cells x.cells 47)=W∧Below w.heap.size w W∧Boxes W w.heap.size (w.heap.size+1) p s∧Blk W (w.heap.size+2) 47 6 (fun j=>x.cells.getD j default):=⟨_,rfl,(two_below _ _ _).alloc (by simp;omega) _,(boxes_new w p s _ _).below ((Below.refl _ _).alloc (Nat.le_refl _) _),Blk.mk' (cur:=x.cells) (by simp) rfl⟩
 have HC:Hid (∀ wk,Below W0.heap.size W0 wk→Boxes wk w.heap.size (w.heap.size+1) p s∧p.At wk∧s.At wk∧Below w.heap.size w wk):=fun wk h=>⟨X0.below h,(hp.below hWB).below h,(hs.below hWB).below h,hWB.trans (h.mono hWB.size)⟩
 have HXA:Hid (∀ wk,Below W0.heap.size W0 wk→Blk wk (w.heap.size+2) 47 6 (fun j=>x.cells.getD j default)∧x.ls.At wk):=fun wk h=>⟨XA.below h,(hx.below hWB).below h⟩
 have HW:Hid (((w.alloc (.cells #[.slice p.ab p.nb p.cb,.slice p.sa p.ns p.cs] 25)).alloc (.cells #[.slice s.on.a s.on.n s.on.c,.slice s.os.a s.os.n s.os.c,.slice s.hs.a s.hs.n s.hs.c,.slice s.ms.a s.ms.n s.ms.c,.slice s.si.a s.si.n s.si.c,.slice s.so.a s.so.n s.so.c,.slice s.sf.a s.sf.n s.sf.c] 31)).alloc (.cells #[.int .i64 x.k,.int .i64 x.a,.int .i64 x.b,.int .i64 x.c,.int .i64 x.n,.slice x.ls.a x.ls.n x.ls.c] 47)=W0):=hW
 have HB:Hid (Below W0.heap.size W0 W0):=Below.refl _ _
 have leb:=hp.leb
 have capb0:=hp.capb
 have capb:=capb0
 unfold maxLen at capb
 clear hW X0 XA hp hs hx
 unfold Pl.val St.val Ax.val Ax.cells
 go_enter Tryz.func6,Tryz.ntmps6
 go_wp2_with fail
 rw [HW.out]
 clear HW
 refine Calls.mono (Do_any p s x W0 (HC.out W0 HB.out).2.1 (HC.out W0 HB.out).2.2.1 (HXA.out W0 HB.out).2) ?_
 rintro e w1 ⟨y,rfl,yat,yok,-,hB⟩
 have HYOK:Hid (ActOK (doE p s x) (doT p s x) y):=yok
 have HL1:Hid (w.heap.size+2<w1.heap.size):=(HXA.out w1 hB).1.lt
 clear yok
 have HB:Hid (Below W0.heap.size W0 w1):=HB.out.trans (hB.mono HB.out.size)
 clear hB
 obtain ⟨W2,hW,hWB,K1⟩:∃ W,w1.alloc (.cells #[.slice y.on.a y.on.n y.on.c,.slice y.os.a y.os.n y.os.c,.slice y.hs.a y.hs.n y.hs.c,.slice y.ms.a y.ms.n y.ms.c,.slice y.si.a y.si.n y.si.c,.slice y.so.a y.so.n y.so.c,.slice y.sf.a y.sf.n y.sf.c] 31)=W∧Below w1.heap.size w1 W∧Blk W w1.heap.size 31 7 (fun j=>y.cells.getD j default):=⟨_,rfl,(Below.refl _ _).alloc (Nat.le_refl _) _,Blk.mk' rfl rfl⟩
 have HW:Hid (w1.alloc (.cells #[.slice y.on.a y.on.n y.on.c,.slice y.os.a y.os.n y.os.c,.slice y.hs.a y.hs.n y.hs.c,.slice y.ms.a y.ms.n y.ms.c,.slice y.si.a y.si.n y.si.c,.slice y.so.a y.so.n y.so.c,.slice y.sf.a y.sf.n y.sf.c] 31)=W2):=hW
 have Hy:Hid (y.At W2∧Blk W2 w1.heap.size 31 7 (fun j=>y.cells.getD j default)):=⟨yat.below hWB,K1⟩
 clear hW K1 yat
 have HB:Hid (Below W0.heap.size W0 W2):=HB.out.trans (hWB.mono HB.out.size)
 clear hWB
 by_cases h0:doE p s x=0
 ·have HSY:Hid (SameT y (doT p s x)):=HYOK.out.1 h0
  have HRT:Hid (RightT p (doT p s x)):=(do_right h0).2
  have HEY:Hid (stateE p y=0):=stateE_of (HSY.out.right HRT.out)
  have HBD:Hid (y.os.n≤1000∧y.ms.n≤1000∧∀ i,i<y.os.n→(y.os.z i).ls.n≤1000):=(HSY.out.right HRT.out).bound
  clear HYOK
  rcases do_kind h0 with hk | hk | hk | hk | hk | hk | hk | hk
  ·have HZ:Hid (doE p s ⟨x.k,x.a,x.b,n,x.n,x.ls⟩=0∧doT p s ⟨x.k,x.a,x.b,n,x.n,x.ls⟩=doT p s x):=right_names p s x x.a x.b n x.n (fun _=>⟨rfl,rfl,rfl⟩) (fun h=>absurd h (by rw [hk];decide)) (fun h=>absurd h (by rw [hk];decide)) (fun h=>absurd h (by rw [hk];decide)) h0
   have g1:(x.k==1)=true:=by rw [hk];rfl
   have g8:(x.k==8)=false:=by rw [hk];rfl
   have g2:(x.k==2)=false:=by rw [hk];rfl
   have g3:(x.k==3)=false:=by rw [hk];rfl
   have g6:(x.k==6)=false:=by rw [hk];rfl
   have g4:(x.k==4)=false:=by rw [hk];rfl
   have g7:(x.k==7)=false:=by rw [hk];rfl
   rw [h0]
   clear hk h0
   obtain ⟨⟨⟨l1,d0,d1⟩,l2,c0,c1,c2,c3,c4,c5,c6⟩,-,-,-⟩:=HC.out W2 HB.out
   obtain ⟨xk,-⟩:=HXA.out W2 HB.out
   have x0:W2.cell? ⟨w.heap.size+1+1,0,none⟩=some (.int .i64 x.k):=xk.cell (j:=0) (by decide)
   have x1:W2.cell? ⟨w.heap.size+1+1,1,none⟩=some (.int .i64 x.a):=xk.cell (j:=1) (by decide)
   have x2:W2.cell? ⟨w.heap.size+1+1,2,none⟩=some (.int .i64 x.b):=xk.cell (j:=2) (by decide)
   have x3:W2.cell? ⟨w.heap.size+1+1,3,none⟩=some (.int .i64 x.c):=xk.cell (j:=3) (by decide)
   have x4:W2.cell? ⟨w.heap.size+1+1,4,none⟩=some (.int .i64 x.n):=xk.cell (j:=4) (by decide)
   have x5:W2.cell? ⟨w.heap.size+1+1,5,none⟩=some (.slice x.ls.a x.ls.n x.ls.c):=xk.cell (j:=5) (by decide)
   have x6:w.heap.size+1+1<W2.heap.size:=xk.lt
   clear xk
   rw [← HW.out] at l1 d0 d1 l2 c0 c1 c2 c3 c4 c5 c6 x0 x1 x2 x3 x4 x5 x6
   have n0:w.heap.size<w1.heap.size:=by have:=HL1.out;omega
   have n1:w.heap.size+1<w1.heap.size:=by have:=HL1.out;omega
   have n2:w.heap.size+1+1<w1.heap.size:=by have:=HL1.out;omega
   have n3:w.heap.size<w1.heap.size+1:=by omega
   have n4:¬ w.heap.size=w1.heap.size:=by omega
   have n5:¬ w.heap.size+1=w1.heap.size:=by omega
   have n6:¬ w.heap.size+1+1=w1.heap.size:=by omega
   have n7:¬ w.heap.size=w1.heap.size+1:=by omega
   simp only [St.val]
   go_wp2_with fail
   obtain ⟨W4,hW4,hWB⟩:∃ W,W2.alloc (.cells #[.int .i64 x.k,.int .i64 x.a,.int .i64 x.b,.int .i64 n,.int .i64 x.n,.slice x.ls.a x.ls.n x.ls.c] 47)=W∧Below W2.heap.size W2 W:=⟨_,rfl,(Below.refl _ _).alloc (Nat.le_refl _) _⟩
   rw [HW.out,hW4]
   clear HW hW4 l1 d0 d1 l2 c0 c1 c2 c3 c4 c5 c6 x0 x1 x2 x3 x4 x5 x6 g1 g2 g3 g4 g6 g7 g8 n0 n1 n2 n3 n4 n5 n6 n7 HL1
   generalize w1.heap.size=By at *
   have Hy:Hid (y.At W4∧Blk W4 By 31 7 (fun j=>y.cells.getD j default)):=⟨Hy.out.1.below hWB,Hy.out.2.below hWB⟩
   have HB:Hid (Below W0.heap.size W0 W4):=HB.out.trans (hWB.mono HB.out.size)
   clear hWB
   refine Calls.mono (Do_any p s ⟨x.k,x.a,x.b,n,x.n,x.ls⟩ W4 (HC.out W4 HB.out).2.1 (HC.out W4 HB.out).2.2.1 (HXA.out W4 HB.out).2) ?_
   rintro e w5 ⟨u,rfl,uat,uok,-,hB⟩
   have HSU:Hid (SameT y u):=by
    rw [HZ.out.1,HZ.out.2] at uok
    exact HSY.out.trans (uok.1 rfl).symm
   rw [HZ.out.1]
   clear uok HZ
   have Hy:Hid (y.At w5∧Blk w5 By 31 7 (fun j=>y.cells.getD j default)):=⟨Hy.out.1.below hB,Hy.out.2.below hB⟩
   have HB:Hid (Below W0.heap.size W0 w5):=HB.out.trans (hB.mono HB.out.size)
   clear hB
   obtain ⟨W6,hW,hWB,K1⟩:∃ W,w5.alloc (.cells #[.slice u.on.a u.on.n u.on.c,.slice u.os.a u.os.n u.os.c,.slice u.hs.a u.hs.n u.hs.c,.slice u.ms.a u.ms.n u.ms.c,.slice u.si.a u.si.n u.si.c,.slice u.so.a u.so.n u.so.c,.slice u.sf.a u.sf.n u.sf.c] 31)=W∧Below w5.heap.size w5 W∧Blk W w5.heap.size 31 7 (fun j=>u.cells.getD j default):=⟨_,rfl,(Below.refl _ _).alloc (Nat.le_refl _) _,Blk.mk' rfl rfl⟩
   have HW:Hid (w5.alloc (.cells #[.slice u.on.a u.on.n u.on.c,.slice u.os.a u.os.n u.os.c,.slice u.hs.a u.hs.n u.hs.c,.slice u.ms.a u.ms.n u.ms.c,.slice u.si.a u.si.n u.si.c,.slice u.so.a u.so.n u.so.c,.slice u.sf.a u.sf.n u.sf.c] 31)=W6):=hW
   have Hu:Hid (u.At W6∧Blk W6 w5.heap.size 31 7 (fun j=>u.cells.getD j default)):=⟨uat.below hWB,K1⟩
   clear hW K1 uat
   have Hy:Hid (y.At W6∧Blk W6 By 31 7 (fun j=>y.cells.getD j default)):=⟨Hy.out.1.below hWB,Hy.out.2.below hWB⟩
   have HB:Hid (Below W0.heap.size W0 W6):=HB.out.trans (hWB.mono HB.out.size)
   clear hWB
   simp only [St.val]
   go_wp2_with fail
   rw [HW.out]
   clear HW
   generalize w5.heap.size=Bu at *
   refine Calls.mono (logBegun_any W6) ?_
   rintro e w7 ⟨rfl,hB⟩
   have Hy:Hid (y.At w7∧Blk w7 By 31 7 (fun j=>y.cells.getD j default)):=⟨Hy.out.1.below hB,Hy.out.2.below hB⟩
   have Hu:Hid (u.At w7∧Blk w7 Bu 31 7 (fun j=>u.cells.getD j default)):=⟨Hu.out.1.below hB,Hu.out.2.below hB⟩
   have HB:Hid (Below W0.heap.size W0 w7):=HB.out.trans (hB.mono HB.out.size)
   clear hB
   obtain ⟨⟨⟨l1,d0,d1⟩,l2,c0,c1,c2,c3,c4,c5,c6⟩,-,-,-⟩:=HC.out w7 HB.out
   obtain ⟨ym,yc0,yc1,yc2,yc3,yc4,yc5,yc6⟩:=Boxed.of Hy.out.2
   go_wp2_with fail
   clear l1 d0 d1 l2 c0 c1 c2 c3 c4 c5 c6 ym yc0 yc1 yc2 yc3 yc4 yc5 yc6
   refine Calls.mono (Check_rightW p y w7 (HC.out w7 HB.out).2.1 Hy.out.1 HEY.out) ?_
   rintro e w8 ⟨rfl,hB⟩
   have Hy:Hid (y.At w8∧Blk w8 By 31 7 (fun j=>y.cells.getD j default)):=⟨Hy.out.1.below hB,Hy.out.2.below hB⟩
   have Hu:Hid (u.At w8∧Blk w8 Bu 31 7 (fun j=>u.cells.getD j default)):=⟨Hu.out.1.below hB,Hu.out.2.below hB⟩
   have HB:Hid (Below W0.heap.size W0 w8):=HB.out.trans (hB.mono HB.out.size)
   clear hB
   obtain ⟨ym,yc0,yc1,yc2,yc3,yc4,yc5,yc6⟩:=Boxed.of Hy.out.2
   obtain ⟨um,uc0,uc1,uc2,uc3,uc4,uc5,uc6⟩:=Boxed.of Hu.out.2
   go_wp2_with fail
   clear ym yc0 yc1 yc2 yc3 yc4 yc5 yc6 um uc0 uc1 uc2 uc3 uc4 uc5 uc6
   refine Calls.mono (SameStates_yes y u w8 Hy.out.1 Hu.out.1 HSU.out HBD.out.1 HBD.out.2.1 HBD.out.2.2) ?_
   rintro e w9 ⟨rfl,hB⟩
   have Hy:Hid (y.At w9∧Blk w9 By 31 7 (fun j=>y.cells.getD j default)):=⟨Hy.out.1.below hB,Hy.out.2.below hB⟩
   have Hu:Hid (u.At w9∧Blk w9 Bu 31 7 (fun j=>u.cells.getD j default)):=⟨Hu.out.1.below hB,Hu.out.2.below hB⟩
   have HB:Hid (Below W0.heap.size W0 w9):=HB.out.trans (hB.mono HB.out.size)
   clear hB
   go_wp2_with fail
   go_ret
   exact ⟨by simp,(HC.out w9 HB.out).2.2.2⟩
  ·have HZ:Hid (doE p s ⟨x.k,n,n,n,n,x.ls⟩=0∧doT p s ⟨x.k,n,n,n,n,x.ls⟩=doT p s x):=right_names p s x n n n n (fun h=>absurd h (by rw [hk];decide)) (fun h=>absurd h (by rw [hk];decide)) (fun h=>absurd h (by rw [hk];decide)) (fun h=>absurd h (by rw [hk];decide)) h0
   have g1:(x.k==1)=false:=by rw [hk];rfl
   have g8:(x.k==8)=false:=by rw [hk];rfl
   have g2:(x.k==2)=true:=by rw [hk];rfl
   have g3:(x.k==3)=false:=by rw [hk];rfl
   have g6:(x.k==6)=false:=by rw [hk];rfl
   have g4:(x.k==4)=false:=by rw [hk];rfl
   have g7:(x.k==7)=false:=by rw [hk];rfl
   rw [h0]
   clear hk h0
   obtain ⟨⟨⟨l1,d0,d1⟩,l2,c0,c1,c2,c3,c4,c5,c6⟩,-,-,-⟩:=HC.out W2 HB.out
   obtain ⟨xk,-⟩:=HXA.out W2 HB.out
   have x0:W2.cell? ⟨w.heap.size+1+1,0,none⟩=some (.int .i64 x.k):=xk.cell (j:=0) (by decide)
   have x1:W2.cell? ⟨w.heap.size+1+1,1,none⟩=some (.int .i64 x.a):=xk.cell (j:=1) (by decide)
   have x2:W2.cell? ⟨w.heap.size+1+1,2,none⟩=some (.int .i64 x.b):=xk.cell (j:=2) (by decide)
   have x3:W2.cell? ⟨w.heap.size+1+1,3,none⟩=some (.int .i64 x.c):=xk.cell (j:=3) (by decide)
   have x4:W2.cell? ⟨w.heap.size+1+1,4,none⟩=some (.int .i64 x.n):=xk.cell (j:=4) (by decide)
   have x5:W2.cell? ⟨w.heap.size+1+1,5,none⟩=some (.slice x.ls.a x.ls.n x.ls.c):=xk.cell (j:=5) (by decide)
   have x6:w.heap.size+1+1<W2.heap.size:=xk.lt
   clear xk
   rw [← HW.out] at l1 d0 d1 l2 c0 c1 c2 c3 c4 c5 c6 x0 x1 x2 x3 x4 x5 x6
   have n0:w.heap.size<w1.heap.size:=by have:=HL1.out;omega
   have n1:w.heap.size+1<w1.heap.size:=by have:=HL1.out;omega
   have n2:w.heap.size+1+1<w1.heap.size:=by have:=HL1.out;omega
   have n3:w.heap.size<w1.heap.size+1:=by omega
   have n4:¬ w.heap.size=w1.heap.size:=by omega
   have n5:¬ w.heap.size+1=w1.heap.size:=by omega
   have n6:¬ w.heap.size+1+1=w1.heap.size:=by omega
   have n7:¬ w.heap.size=w1.heap.size+1:=by omega
   simp only [St.val]
   go_wp2_with fail
   obtain ⟨W4,hW4,hWB⟩:∃ W,W2.alloc (.cells #[.int .i64 x.k,.int .i64 n,.int .i64 n,.int .i64 n,.int .i64 n,.slice x.ls.a x.ls.n x.ls.c] 47)=W∧Below W2.heap.size W2 W:=⟨_,rfl,(Below.refl _ _).alloc (Nat.le_refl _) _⟩
   rw [HW.out,hW4]
   clear HW hW4 l1 d0 d1 l2 c0 c1 c2 c3 c4 c5 c6 x0 x1 x2 x3 x4 x5 x6 g1 g2 g3 g4 g6 g7 g8 n0 n1 n2 n3 n4 n5 n6 n7 HL1
   generalize w1.heap.size=By at *
   have Hy:Hid (y.At W4∧Blk W4 By 31 7 (fun j=>y.cells.getD j default)):=⟨Hy.out.1.below hWB,Hy.out.2.below hWB⟩
   have HB:Hid (Below W0.heap.size W0 W4):=HB.out.trans (hWB.mono HB.out.size)
   clear hWB
   refine Calls.mono (Do_any p s ⟨x.k,n,n,n,n,x.ls⟩ W4 (HC.out W4 HB.out).2.1 (HC.out W4 HB.out).2.2.1 (HXA.out W4 HB.out).2) ?_
   rintro e w5 ⟨u,rfl,uat,uok,-,hB⟩
   have HSU:Hid (SameT y u):=by
    rw [HZ.out.1,HZ.out.2] at uok
    exact HSY.out.trans (uok.1 rfl).symm
   rw [HZ.out.1]
   clear uok HZ
   have Hy:Hid (y.At w5∧Blk w5 By 31 7 (fun j=>y.cells.getD j default)):=⟨Hy.out.1.below hB,Hy.out.2.below hB⟩
   have HB:Hid (Below W0.heap.size W0 w5):=HB.out.trans (hB.mono HB.out.size)
   clear hB
   obtain ⟨W6,hW,hWB,K1⟩:∃ W,w5.alloc (.cells #[.slice u.on.a u.on.n u.on.c,.slice u.os.a u.os.n u.os.c,.slice u.hs.a u.hs.n u.hs.c,.slice u.ms.a u.ms.n u.ms.c,.slice u.si.a u.si.n u.si.c,.slice u.so.a u.so.n u.so.c,.slice u.sf.a u.sf.n u.sf.c] 31)=W∧Below w5.heap.size w5 W∧Blk W w5.heap.size 31 7 (fun j=>u.cells.getD j default):=⟨_,rfl,(Below.refl _ _).alloc (Nat.le_refl _) _,Blk.mk' rfl rfl⟩
   have HW:Hid (w5.alloc (.cells #[.slice u.on.a u.on.n u.on.c,.slice u.os.a u.os.n u.os.c,.slice u.hs.a u.hs.n u.hs.c,.slice u.ms.a u.ms.n u.ms.c,.slice u.si.a u.si.n u.si.c,.slice u.so.a u.so.n u.so.c,.slice u.sf.a u.sf.n u.sf.c] 31)=W6):=hW
   have Hu:Hid (u.At W6∧Blk W6 w5.heap.size 31 7 (fun j=>u.cells.getD j default)):=⟨uat.below hWB,K1⟩
   clear hW K1 uat
   have Hy:Hid (y.At W6∧Blk W6 By 31 7 (fun j=>y.cells.getD j default)):=⟨Hy.out.1.below hWB,Hy.out.2.below hWB⟩
   have HB:Hid (Below W0.heap.size W0 W6):=HB.out.trans (hWB.mono HB.out.size)
   clear hWB
   simp only [St.val]
   go_wp2_with fail
   rw [HW.out]
   clear HW
   generalize w5.heap.size=Bu at *
   refine Calls.mono (logBegun_any W6) ?_
   rintro e w7 ⟨rfl,hB⟩
   have Hy:Hid (y.At w7∧Blk w7 By 31 7 (fun j=>y.cells.getD j default)):=⟨Hy.out.1.below hB,Hy.out.2.below hB⟩
   have Hu:Hid (u.At w7∧Blk w7 Bu 31 7 (fun j=>u.cells.getD j default)):=⟨Hu.out.1.below hB,Hu.out.2.below hB⟩
   have HB:Hid (Below W0.heap.size W0 w7):=HB.out.trans (hB.mono HB.out.size)
   clear hB
   obtain ⟨⟨⟨l1,d0,d1⟩,l2,c0,c1,c2,c3,c4,c5,c6⟩,-,-,-⟩:=HC.out w7 HB.out
   obtain ⟨ym,yc0,yc1,yc2,yc3,yc4,yc5,yc6⟩:=Boxed.of Hy.out.2
   go_wp2_with fail
   clear l1 d0 d1 l2 c0 c1 c2 c3 c4 c5 c6 ym yc0 yc1 yc2 yc3 yc4 yc5 yc6
   refine Calls.mono (Check_rightW p y w7 (HC.out w7 HB.out).2.1 Hy.out.1 HEY.out) ?_
   rintro e w8 ⟨rfl,hB⟩
   have Hy:Hid (y.At w8∧Blk w8 By 31 7 (fun j=>y.cells.getD j default)):=⟨Hy.out.1.below hB,Hy.out.2.below hB⟩
   have Hu:Hid (u.At w8∧Blk w8 Bu 31 7 (fun j=>u.cells.getD j default)):=⟨Hu.out.1.below hB,Hu.out.2.below hB⟩
   have HB:Hid (Below W0.heap.size W0 w8):=HB.out.trans (hB.mono HB.out.size)
   clear hB
   obtain ⟨ym,yc0,yc1,yc2,yc3,yc4,yc5,yc6⟩:=Boxed.of Hy.out.2
   obtain ⟨um,uc0,uc1,uc2,uc3,uc4,uc5,uc6⟩:=Boxed.of Hu.out.2
   go_wp2_with fail
   clear ym yc0 yc1 yc2 yc3 yc4 yc5 yc6 um uc0 uc1 uc2 uc3 uc4 uc5 uc6
   refine Calls.mono (SameStates_yes y u w8 Hy.out.1 Hu.out.1 HSU.out HBD.out.1 HBD.out.2.1 HBD.out.2.2) ?_
   rintro e w9 ⟨rfl,hB⟩
   have Hy:Hid (y.At w9∧Blk w9 By 31 7 (fun j=>y.cells.getD j default)):=⟨Hy.out.1.below hB,Hy.out.2.below hB⟩
   have Hu:Hid (u.At w9∧Blk w9 Bu 31 7 (fun j=>u.cells.getD j default)):=⟨Hu.out.1.below hB,Hu.out.2.below hB⟩
   have HB:Hid (Below W0.heap.size W0 w9):=HB.out.trans (hB.mono HB.out.size)
   clear hB
   go_wp2_with fail
   go_ret
   exact ⟨by simp,(HC.out w9 HB.out).2.2.2⟩
  ·have HZ:Hid (doE p s ⟨x.k,n,n,n,n,x.ls⟩=0∧doT p s ⟨x.k,n,n,n,n,x.ls⟩=doT p s x):=right_names p s x n n n n (fun h=>absurd h (by rw [hk];decide)) (fun h=>absurd h (by rw [hk];decide)) (fun h=>absurd h (by rw [hk];decide)) (fun h=>absurd h (by rw [hk];decide)) h0
   have g1:(x.k==1)=false:=by rw [hk];rfl
   have g8:(x.k==8)=false:=by rw [hk];rfl
   have g2:(x.k==2)=false:=by rw [hk];rfl
   have g3:(x.k==3)=true:=by rw [hk];rfl
   have g6:(x.k==6)=false:=by rw [hk];rfl
   have g4:(x.k==4)=false:=by rw [hk];rfl
   have g7:(x.k==7)=false:=by rw [hk];rfl
   rw [h0]
   clear hk h0
   obtain ⟨⟨⟨l1,d0,d1⟩,l2,c0,c1,c2,c3,c4,c5,c6⟩,-,-,-⟩:=HC.out W2 HB.out
   obtain ⟨xk,-⟩:=HXA.out W2 HB.out
   have x0:W2.cell? ⟨w.heap.size+1+1,0,none⟩=some (.int .i64 x.k):=xk.cell (j:=0) (by decide)
   have x1:W2.cell? ⟨w.heap.size+1+1,1,none⟩=some (.int .i64 x.a):=xk.cell (j:=1) (by decide)
   have x2:W2.cell? ⟨w.heap.size+1+1,2,none⟩=some (.int .i64 x.b):=xk.cell (j:=2) (by decide)
   have x3:W2.cell? ⟨w.heap.size+1+1,3,none⟩=some (.int .i64 x.c):=xk.cell (j:=3) (by decide)
   have x4:W2.cell? ⟨w.heap.size+1+1,4,none⟩=some (.int .i64 x.n):=xk.cell (j:=4) (by decide)
   have x5:W2.cell? ⟨w.heap.size+1+1,5,none⟩=some (.slice x.ls.a x.ls.n x.ls.c):=xk.cell (j:=5) (by decide)
   have x6:w.heap.size+1+1<W2.heap.size:=xk.lt
   clear xk
   rw [← HW.out] at l1 d0 d1 l2 c0 c1 c2 c3 c4 c5 c6 x0 x1 x2 x3 x4 x5 x6
   have n0:w.heap.size<w1.heap.size:=by have:=HL1.out;omega
   have n1:w.heap.size+1<w1.heap.size:=by have:=HL1.out;omega
   have n2:w.heap.size+1+1<w1.heap.size:=by have:=HL1.out;omega
   have n3:w.heap.size<w1.heap.size+1:=by omega
   have n4:¬ w.heap.size=w1.heap.size:=by omega
   have n5:¬ w.heap.size+1=w1.heap.size:=by omega
   have n6:¬ w.heap.size+1+1=w1.heap.size:=by omega
   have n7:¬ w.heap.size=w1.heap.size+1:=by omega
   simp only [St.val]
   go_wp2_with fail
   obtain ⟨W4,hW4,hWB⟩:∃ W,W2.alloc (.cells #[.int .i64 x.k,.int .i64 n,.int .i64 n,.int .i64 n,.int .i64 n,.slice x.ls.a x.ls.n x.ls.c] 47)=W∧Below W2.heap.size W2 W:=⟨_,rfl,(Below.refl _ _).alloc (Nat.le_refl _) _⟩
   rw [HW.out,hW4]
   clear HW hW4 l1 d0 d1 l2 c0 c1 c2 c3 c4 c5 c6 x0 x1 x2 x3 x4 x5 x6 g1 g2 g3 g4 g6 g7 g8 n0 n1 n2 n3 n4 n5 n6 n7 HL1
   generalize w1.heap.size=By at *
   have Hy:Hid (y.At W4∧Blk W4 By 31 7 (fun j=>y.cells.getD j default)):=⟨Hy.out.1.below hWB,Hy.out.2.below hWB⟩
   have HB:Hid (Below W0.heap.size W0 W4):=HB.out.trans (hWB.mono HB.out.size)
   clear hWB
   refine Calls.mono (Do_any p s ⟨x.k,n,n,n,n,x.ls⟩ W4 (HC.out W4 HB.out).2.1 (HC.out W4 HB.out).2.2.1 (HXA.out W4 HB.out).2) ?_
   rintro e w5 ⟨u,rfl,uat,uok,-,hB⟩
   have HSU:Hid (SameT y u):=by
    rw [HZ.out.1,HZ.out.2] at uok
    exact HSY.out.trans (uok.1 rfl).symm
   rw [HZ.out.1]
   clear uok HZ
   have Hy:Hid (y.At w5∧Blk w5 By 31 7 (fun j=>y.cells.getD j default)):=⟨Hy.out.1.below hB,Hy.out.2.below hB⟩
   have HB:Hid (Below W0.heap.size W0 w5):=HB.out.trans (hB.mono HB.out.size)
   clear hB
   obtain ⟨W6,hW,hWB,K1⟩:∃ W,w5.alloc (.cells #[.slice u.on.a u.on.n u.on.c,.slice u.os.a u.os.n u.os.c,.slice u.hs.a u.hs.n u.hs.c,.slice u.ms.a u.ms.n u.ms.c,.slice u.si.a u.si.n u.si.c,.slice u.so.a u.so.n u.so.c,.slice u.sf.a u.sf.n u.sf.c] 31)=W∧Below w5.heap.size w5 W∧Blk W w5.heap.size 31 7 (fun j=>u.cells.getD j default):=⟨_,rfl,(Below.refl _ _).alloc (Nat.le_refl _) _,Blk.mk' rfl rfl⟩
   have HW:Hid (w5.alloc (.cells #[.slice u.on.a u.on.n u.on.c,.slice u.os.a u.os.n u.os.c,.slice u.hs.a u.hs.n u.hs.c,.slice u.ms.a u.ms.n u.ms.c,.slice u.si.a u.si.n u.si.c,.slice u.so.a u.so.n u.so.c,.slice u.sf.a u.sf.n u.sf.c] 31)=W6):=hW
   have Hu:Hid (u.At W6∧Blk W6 w5.heap.size 31 7 (fun j=>u.cells.getD j default)):=⟨uat.below hWB,K1⟩
   clear hW K1 uat
   have Hy:Hid (y.At W6∧Blk W6 By 31 7 (fun j=>y.cells.getD j default)):=⟨Hy.out.1.below hWB,Hy.out.2.below hWB⟩
   have HB:Hid (Below W0.heap.size W0 W6):=HB.out.trans (hWB.mono HB.out.size)
   clear hWB
   simp only [St.val]
   go_wp2_with fail
   rw [HW.out]
   clear HW
   generalize w5.heap.size=Bu at *
   refine Calls.mono (logBegun_any W6) ?_
   rintro e w7 ⟨rfl,hB⟩
   have Hy:Hid (y.At w7∧Blk w7 By 31 7 (fun j=>y.cells.getD j default)):=⟨Hy.out.1.below hB,Hy.out.2.below hB⟩
   have Hu:Hid (u.At w7∧Blk w7 Bu 31 7 (fun j=>u.cells.getD j default)):=⟨Hu.out.1.below hB,Hu.out.2.below hB⟩
   have HB:Hid (Below W0.heap.size W0 w7):=HB.out.trans (hB.mono HB.out.size)
   clear hB
   obtain ⟨⟨⟨l1,d0,d1⟩,l2,c0,c1,c2,c3,c4,c5,c6⟩,-,-,-⟩:=HC.out w7 HB.out
   obtain ⟨ym,yc0,yc1,yc2,yc3,yc4,yc5,yc6⟩:=Boxed.of Hy.out.2
   go_wp2_with fail
   clear l1 d0 d1 l2 c0 c1 c2 c3 c4 c5 c6 ym yc0 yc1 yc2 yc3 yc4 yc5 yc6
   refine Calls.mono (Check_rightW p y w7 (HC.out w7 HB.out).2.1 Hy.out.1 HEY.out) ?_
   rintro e w8 ⟨rfl,hB⟩
   have Hy:Hid (y.At w8∧Blk w8 By 31 7 (fun j=>y.cells.getD j default)):=⟨Hy.out.1.below hB,Hy.out.2.below hB⟩
   have Hu:Hid (u.At w8∧Blk w8 Bu 31 7 (fun j=>u.cells.getD j default)):=⟨Hu.out.1.below hB,Hu.out.2.below hB⟩
   have HB:Hid (Below W0.heap.size W0 w8):=HB.out.trans (hB.mono HB.out.size)
   clear hB
   obtain ⟨ym,yc0,yc1,yc2,yc3,yc4,yc5,yc6⟩:=Boxed.of Hy.out.2
   obtain ⟨um,uc0,uc1,uc2,uc3,uc4,uc5,uc6⟩:=Boxed.of Hu.out.2
   go_wp2_with fail
   clear ym yc0 yc1 yc2 yc3 yc4 yc5 yc6 um uc0 uc1 uc2 uc3 uc4 uc5 uc6
   refine Calls.mono (SameStates_yes y u w8 Hy.out.1 Hu.out.1 HSU.out HBD.out.1 HBD.out.2.1 HBD.out.2.2) ?_
   rintro e w9 ⟨rfl,hB⟩
   have Hy:Hid (y.At w9∧Blk w9 By 31 7 (fun j=>y.cells.getD j default)):=⟨Hy.out.1.below hB,Hy.out.2.below hB⟩
   have Hu:Hid (u.At w9∧Blk w9 Bu 31 7 (fun j=>u.cells.getD j default)):=⟨Hu.out.1.below hB,Hu.out.2.below hB⟩
   have HB:Hid (Below W0.heap.size W0 w9):=HB.out.trans (hB.mono HB.out.size)
   clear hB
   go_wp2_with fail
   go_ret
   exact ⟨by simp,(HC.out w9 HB.out).2.2.2⟩
  ·have HZ:Hid (doE p s ⟨x.k,x.a,n,n,n,x.ls⟩=0∧doT p s ⟨x.k,x.a,n,n,n,x.ls⟩=doT p s x):=right_names p s x x.a n n n (fun h=>absurd h (by rw [hk];decide)) (fun _=>rfl) (fun h=>absurd h (by rw [hk];decide)) (fun h=>absurd h (by rw [hk];decide)) h0
   have g1:(x.k==1)=false:=by rw [hk];rfl
   have g8:(x.k==8)=false:=by rw [hk];rfl
   have g2:(x.k==2)=false:=by rw [hk];rfl
   have g3:(x.k==3)=false:=by rw [hk];rfl
   have g6:(x.k==6)=false:=by rw [hk];rfl
   have g4:(x.k==4)=true:=by rw [hk];rfl
   have g7:(x.k==7)=false:=by rw [hk];rfl
   rw [h0]
   clear hk h0
   obtain ⟨⟨⟨l1,d0,d1⟩,l2,c0,c1,c2,c3,c4,c5,c6⟩,-,-,-⟩:=HC.out W2 HB.out
   obtain ⟨xk,-⟩:=HXA.out W2 HB.out
   have x0:W2.cell? ⟨w.heap.size+1+1,0,none⟩=some (.int .i64 x.k):=xk.cell (j:=0) (by decide)
   have x1:W2.cell? ⟨w.heap.size+1+1,1,none⟩=some (.int .i64 x.a):=xk.cell (j:=1) (by decide)
   have x2:W2.cell? ⟨w.heap.size+1+1,2,none⟩=some (.int .i64 x.b):=xk.cell (j:=2) (by decide)
   have x3:W2.cell? ⟨w.heap.size+1+1,3,none⟩=some (.int .i64 x.c):=xk.cell (j:=3) (by decide)
   have x4:W2.cell? ⟨w.heap.size+1+1,4,none⟩=some (.int .i64 x.n):=xk.cell (j:=4) (by decide)
   have x5:W2.cell? ⟨w.heap.size+1+1,5,none⟩=some (.slice x.ls.a x.ls.n x.ls.c):=xk.cell (j:=5) (by decide)
   have x6:w.heap.size+1+1<W2.heap.size:=xk.lt
   clear xk
   rw [← HW.out] at l1 d0 d1 l2 c0 c1 c2 c3 c4 c5 c6 x0 x1 x2 x3 x4 x5 x6
   have n0:w.heap.size<w1.heap.size:=by have:=HL1.out;omega
   have n1:w.heap.size+1<w1.heap.size:=by have:=HL1.out;omega
   have n2:w.heap.size+1+1<w1.heap.size:=by have:=HL1.out;omega
   have n3:w.heap.size<w1.heap.size+1:=by omega
   have n4:¬ w.heap.size=w1.heap.size:=by omega
   have n5:¬ w.heap.size+1=w1.heap.size:=by omega
   have n6:¬ w.heap.size+1+1=w1.heap.size:=by omega
   have n7:¬ w.heap.size=w1.heap.size+1:=by omega
   simp only [St.val]
   go_wp2_with fail
   obtain ⟨W4,hW4,hWB⟩:∃ W,W2.alloc (.cells #[.int .i64 x.k,.int .i64 x.a,.int .i64 n,.int .i64 n,.int .i64 n,.slice x.ls.a x.ls.n x.ls.c] 47)=W∧Below W2.heap.size W2 W:=⟨_,rfl,(Below.refl _ _).alloc (Nat.le_refl _) _⟩
   rw [HW.out,hW4]
   clear HW hW4 l1 d0 d1 l2 c0 c1 c2 c3 c4 c5 c6 x0 x1 x2 x3 x4 x5 x6 g1 g2 g3 g4 g6 g7 g8 n0 n1 n2 n3 n4 n5 n6 n7 HL1
   generalize w1.heap.size=By at *
   have Hy:Hid (y.At W4∧Blk W4 By 31 7 (fun j=>y.cells.getD j default)):=⟨Hy.out.1.below hWB,Hy.out.2.below hWB⟩
   have HB:Hid (Below W0.heap.size W0 W4):=HB.out.trans (hWB.mono HB.out.size)
   clear hWB
   refine Calls.mono (Do_any p s ⟨x.k,x.a,n,n,n,x.ls⟩ W4 (HC.out W4 HB.out).2.1 (HC.out W4 HB.out).2.2.1 (HXA.out W4 HB.out).2) ?_
   rintro e w5 ⟨u,rfl,uat,uok,-,hB⟩
   have HSU:Hid (SameT y u):=by
    rw [HZ.out.1,HZ.out.2] at uok
    exact HSY.out.trans (uok.1 rfl).symm
   rw [HZ.out.1]
   clear uok HZ
   have Hy:Hid (y.At w5∧Blk w5 By 31 7 (fun j=>y.cells.getD j default)):=⟨Hy.out.1.below hB,Hy.out.2.below hB⟩
   have HB:Hid (Below W0.heap.size W0 w5):=HB.out.trans (hB.mono HB.out.size)
   clear hB
   obtain ⟨W6,hW,hWB,K1⟩:∃ W,w5.alloc (.cells #[.slice u.on.a u.on.n u.on.c,.slice u.os.a u.os.n u.os.c,.slice u.hs.a u.hs.n u.hs.c,.slice u.ms.a u.ms.n u.ms.c,.slice u.si.a u.si.n u.si.c,.slice u.so.a u.so.n u.so.c,.slice u.sf.a u.sf.n u.sf.c] 31)=W∧Below w5.heap.size w5 W∧Blk W w5.heap.size 31 7 (fun j=>u.cells.getD j default):=⟨_,rfl,(Below.refl _ _).alloc (Nat.le_refl _) _,Blk.mk' rfl rfl⟩
   have HW:Hid (w5.alloc (.cells #[.slice u.on.a u.on.n u.on.c,.slice u.os.a u.os.n u.os.c,.slice u.hs.a u.hs.n u.hs.c,.slice u.ms.a u.ms.n u.ms.c,.slice u.si.a u.si.n u.si.c,.slice u.so.a u.so.n u.so.c,.slice u.sf.a u.sf.n u.sf.c] 31)=W6):=hW
   have Hu:Hid (u.At W6∧Blk W6 w5.heap.size 31 7 (fun j=>u.cells.getD j default)):=⟨uat.below hWB,K1⟩
   clear hW K1 uat
   have Hy:Hid (y.At W6∧Blk W6 By 31 7 (fun j=>y.cells.getD j default)):=⟨Hy.out.1.below hWB,Hy.out.2.below hWB⟩
   have HB:Hid (Below W0.heap.size W0 W6):=HB.out.trans (hWB.mono HB.out.size)
   clear hWB
   simp only [St.val]
   go_wp2_with fail
   rw [HW.out]
   clear HW
   generalize w5.heap.size=Bu at *
   refine Calls.mono (logBegun_any W6) ?_
   rintro e w7 ⟨rfl,hB⟩
   have Hy:Hid (y.At w7∧Blk w7 By 31 7 (fun j=>y.cells.getD j default)):=⟨Hy.out.1.below hB,Hy.out.2.below hB⟩
   have Hu:Hid (u.At w7∧Blk w7 Bu 31 7 (fun j=>u.cells.getD j default)):=⟨Hu.out.1.below hB,Hu.out.2.below hB⟩
   have HB:Hid (Below W0.heap.size W0 w7):=HB.out.trans (hB.mono HB.out.size)
   clear hB
   obtain ⟨⟨⟨l1,d0,d1⟩,l2,c0,c1,c2,c3,c4,c5,c6⟩,-,-,-⟩:=HC.out w7 HB.out
   obtain ⟨ym,yc0,yc1,yc2,yc3,yc4,yc5,yc6⟩:=Boxed.of Hy.out.2
   go_wp2_with fail
   clear l1 d0 d1 l2 c0 c1 c2 c3 c4 c5 c6 ym yc0 yc1 yc2 yc3 yc4 yc5 yc6
   refine Calls.mono (Check_rightW p y w7 (HC.out w7 HB.out).2.1 Hy.out.1 HEY.out) ?_
   rintro e w8 ⟨rfl,hB⟩
   have Hy:Hid (y.At w8∧Blk w8 By 31 7 (fun j=>y.cells.getD j default)):=⟨Hy.out.1.below hB,Hy.out.2.below hB⟩
   have Hu:Hid (u.At w8∧Blk w8 Bu 31 7 (fun j=>u.cells.getD j default)):=⟨Hu.out.1.below hB,Hu.out.2.below hB⟩
   have HB:Hid (Below W0.heap.size W0 w8):=HB.out.trans (hB.mono HB.out.size)
   clear hB
   obtain ⟨ym,yc0,yc1,yc2,yc3,yc4,yc5,yc6⟩:=Boxed.of Hy.out.2
   obtain ⟨um,uc0,uc1,uc2,uc3,uc4,uc5,uc6⟩:=Boxed.of Hu.out.2
   go_wp2_with fail
   clear ym yc0 yc1 yc2 yc3 yc4 yc5 yc6 um uc0 uc1 uc2 uc3 uc4 uc5 uc6
   refine Calls.mono (SameStates_yes y u w8 Hy.out.1 Hu.out.1 HSU.out HBD.out.1 HBD.out.2.1 HBD.out.2.2) ?_
   rintro e w9 ⟨rfl,hB⟩
   have Hy:Hid (y.At w9∧Blk w9 By 31 7 (fun j=>y.cells.getD j default)):=⟨Hy.out.1.below hB,Hy.out.2.below hB⟩
   have Hu:Hid (u.At w9∧Blk w9 Bu 31 7 (fun j=>u.cells.getD j default)):=⟨Hu.out.1.below hB,Hu.out.2.below hB⟩
   have HB:Hid (Below W0.heap.size W0 w9):=HB.out.trans (hB.mono HB.out.size)
   clear hB
   go_wp2_with fail
   go_ret
   exact ⟨by simp,(HC.out w9 HB.out).2.2.2⟩
  ·have HZ:Hid (doE p s x=0):=h0
   have g1:(x.k==1)=false:=by rw [hk];rfl
   have g8:(x.k==8)=false:=by rw [hk];rfl
   have g2:(x.k==2)=false:=by rw [hk];rfl
   have g3:(x.k==3)=false:=by rw [hk];rfl
   have g6:(x.k==6)=false:=by rw [hk];rfl
   have g4:(x.k==4)=false:=by rw [hk];rfl
   have g7:(x.k==7)=false:=by rw [hk];rfl
   rw [h0]
   clear hk h0
   obtain ⟨⟨⟨l1,d0,d1⟩,l2,c0,c1,c2,c3,c4,c5,c6⟩,-,-,-⟩:=HC.out W2 HB.out
   obtain ⟨xk,-⟩:=HXA.out W2 HB.out
   have x0:W2.cell? ⟨w.heap.size+1+1,0,none⟩=some (.int .i64 x.k):=xk.cell (j:=0) (by decide)
   have x1:W2.cell? ⟨w.heap.size+1+1,1,none⟩=some (.int .i64 x.a):=xk.cell (j:=1) (by decide)
   have x2:W2.cell? ⟨w.heap.size+1+1,2,none⟩=some (.int .i64 x.b):=xk.cell (j:=2) (by decide)
   have x3:W2.cell? ⟨w.heap.size+1+1,3,none⟩=some (.int .i64 x.c):=xk.cell (j:=3) (by decide)
   have x4:W2.cell? ⟨w.heap.size+1+1,4,none⟩=some (.int .i64 x.n):=xk.cell (j:=4) (by decide)
   have x5:W2.cell? ⟨w.heap.size+1+1,5,none⟩=some (.slice x.ls.a x.ls.n x.ls.c):=xk.cell (j:=5) (by decide)
   have x6:w.heap.size+1+1<W2.heap.size:=xk.lt
   clear xk
   rw [← HW.out] at l1 d0 d1 l2 c0 c1 c2 c3 c4 c5 c6 x0 x1 x2 x3 x4 x5 x6
   have n0:w.heap.size<w1.heap.size:=by have:=HL1.out;omega
   have n1:w.heap.size+1<w1.heap.size:=by have:=HL1.out;omega
   have n2:w.heap.size+1+1<w1.heap.size:=by have:=HL1.out;omega
   have n3:w.heap.size<w1.heap.size+1:=by omega
   have n4:¬ w.heap.size=w1.heap.size:=by omega
   have n5:¬ w.heap.size+1=w1.heap.size:=by omega
   have n6:¬ w.heap.size+1+1=w1.heap.size:=by omega
   have n7:¬ w.heap.size=w1.heap.size+1:=by omega
   simp only [St.val]
   go_wp2_with fail
   obtain ⟨W4,hW4,hWB⟩:∃ W,W2.alloc (.cells #[.int .i64 x.k,.int .i64 x.a,.int .i64 x.b,.int .i64 x.c,.int .i64 x.n,.slice x.ls.a x.ls.n x.ls.c] 47)=W∧Below W2.heap.size W2 W:=⟨_,rfl,(Below.refl _ _).alloc (Nat.le_refl _) _⟩
   rw [HW.out,hW4]
   clear HW hW4 l1 d0 d1 l2 c0 c1 c2 c3 c4 c5 c6 x0 x1 x2 x3 x4 x5 x6 g1 g2 g3 g4 g6 g7 g8 n0 n1 n2 n3 n4 n5 n6 n7 HL1
   generalize w1.heap.size=By at *
   have Hy:Hid (y.At W4∧Blk W4 By 31 7 (fun j=>y.cells.getD j default)):=⟨Hy.out.1.below hWB,Hy.out.2.below hWB⟩
   have HB:Hid (Below W0.heap.size W0 W4):=HB.out.trans (hWB.mono HB.out.size)
   clear hWB
   refine Calls.mono (Do_any p s x W4 (HC.out W4 HB.out).2.1 (HC.out W4 HB.out).2.2.1 (HXA.out W4 HB.out).2) ?_
   rintro e w5 ⟨u,rfl,uat,uok,-,hB⟩
   have HSU:Hid (SameT y u):=HSY.out.trans (uok.1 HZ.out).symm
   rw [HZ.out]
   clear uok HZ
   have Hy:Hid (y.At w5∧Blk w5 By 31 7 (fun j=>y.cells.getD j default)):=⟨Hy.out.1.below hB,Hy.out.2.below hB⟩
   have HB:Hid (Below W0.heap.size W0 w5):=HB.out.trans (hB.mono HB.out.size)
   clear hB
   obtain ⟨W6,hW,hWB,K1⟩:∃ W,w5.alloc (.cells #[.slice u.on.a u.on.n u.on.c,.slice u.os.a u.os.n u.os.c,.slice u.hs.a u.hs.n u.hs.c,.slice u.ms.a u.ms.n u.ms.c,.slice u.si.a u.si.n u.si.c,.slice u.so.a u.so.n u.so.c,.slice u.sf.a u.sf.n u.sf.c] 31)=W∧Below w5.heap.size w5 W∧Blk W w5.heap.size 31 7 (fun j=>u.cells.getD j default):=⟨_,rfl,(Below.refl _ _).alloc (Nat.le_refl _) _,Blk.mk' rfl rfl⟩
   have HW:Hid (w5.alloc (.cells #[.slice u.on.a u.on.n u.on.c,.slice u.os.a u.os.n u.os.c,.slice u.hs.a u.hs.n u.hs.c,.slice u.ms.a u.ms.n u.ms.c,.slice u.si.a u.si.n u.si.c,.slice u.so.a u.so.n u.so.c,.slice u.sf.a u.sf.n u.sf.c] 31)=W6):=hW
   have Hu:Hid (u.At W6∧Blk W6 w5.heap.size 31 7 (fun j=>u.cells.getD j default)):=⟨uat.below hWB,K1⟩
   clear hW K1 uat
   have Hy:Hid (y.At W6∧Blk W6 By 31 7 (fun j=>y.cells.getD j default)):=⟨Hy.out.1.below hWB,Hy.out.2.below hWB⟩
   have HB:Hid (Below W0.heap.size W0 W6):=HB.out.trans (hWB.mono HB.out.size)
   clear hWB
   simp only [St.val]
   go_wp2_with fail
   rw [HW.out]
   clear HW
   generalize w5.heap.size=Bu at *
   refine Calls.mono (logBegun_any W6) ?_
   rintro e w7 ⟨rfl,hB⟩
   have Hy:Hid (y.At w7∧Blk w7 By 31 7 (fun j=>y.cells.getD j default)):=⟨Hy.out.1.below hB,Hy.out.2.below hB⟩
   have Hu:Hid (u.At w7∧Blk w7 Bu 31 7 (fun j=>u.cells.getD j default)):=⟨Hu.out.1.below hB,Hu.out.2.below hB⟩
   have HB:Hid (Below W0.heap.size W0 w7):=HB.out.trans (hB.mono HB.out.size)
   clear hB
   obtain ⟨⟨⟨l1,d0,d1⟩,l2,c0,c1,c2,c3,c4,c5,c6⟩,-,-,-⟩:=HC.out w7 HB.out
   obtain ⟨ym,yc0,yc1,yc2,yc3,yc4,yc5,yc6⟩:=Boxed.of Hy.out.2
   go_wp2_with fail
   clear l1 d0 d1 l2 c0 c1 c2 c3 c4 c5 c6 ym yc0 yc1 yc2 yc3 yc4 yc5 yc6
   refine Calls.mono (Check_rightW p y w7 (HC.out w7 HB.out).2.1 Hy.out.1 HEY.out) ?_
   rintro e w8 ⟨rfl,hB⟩
   have Hy:Hid (y.At w8∧Blk w8 By 31 7 (fun j=>y.cells.getD j default)):=⟨Hy.out.1.below hB,Hy.out.2.below hB⟩
   have Hu:Hid (u.At w8∧Blk w8 Bu 31 7 (fun j=>u.cells.getD j default)):=⟨Hu.out.1.below hB,Hu.out.2.below hB⟩
   have HB:Hid (Below W0.heap.size W0 w8):=HB.out.trans (hB.mono HB.out.size)
   clear hB
   obtain ⟨ym,yc0,yc1,yc2,yc3,yc4,yc5,yc6⟩:=Boxed.of Hy.out.2
   obtain ⟨um,uc0,uc1,uc2,uc3,uc4,uc5,uc6⟩:=Boxed.of Hu.out.2
   go_wp2_with fail
   clear ym yc0 yc1 yc2 yc3 yc4 yc5 yc6 um uc0 uc1 uc2 uc3 uc4 uc5 uc6
   refine Calls.mono (SameStates_yes y u w8 Hy.out.1 Hu.out.1 HSU.out HBD.out.1 HBD.out.2.1 HBD.out.2.2) ?_
   rintro e w9 ⟨rfl,hB⟩
   have Hy:Hid (y.At w9∧Blk w9 By 31 7 (fun j=>y.cells.getD j default)):=⟨Hy.out.1.below hB,Hy.out.2.below hB⟩
   have Hu:Hid (u.At w9∧Blk w9 Bu 31 7 (fun j=>u.cells.getD j default)):=⟨Hu.out.1.below hB,Hu.out.2.below hB⟩
   have HB:Hid (Below W0.heap.size W0 w9):=HB.out.trans (hB.mono HB.out.size)
   clear hB
   go_wp2_with fail
   go_ret
   exact ⟨by simp,(HC.out w9 HB.out).2.2.2⟩
  ·have HZ:Hid (doE p s ⟨x.k,n,n,n,n,x.ls⟩=0∧doT p s ⟨x.k,n,n,n,n,x.ls⟩=doT p s x):=right_names p s x n n n n (fun h=>absurd h (by rw [hk];decide)) (fun h=>absurd h (by rw [hk];decide)) (fun h=>absurd h (by rw [hk];decide)) (fun h=>absurd h (by rw [hk];decide)) h0
   have g1:(x.k==1)=false:=by rw [hk];rfl
   have g8:(x.k==8)=false:=by rw [hk];rfl
   have g2:(x.k==2)=false:=by rw [hk];rfl
   have g3:(x.k==3)=false:=by rw [hk];rfl
   have g6:(x.k==6)=true:=by rw [hk];rfl
   have g4:(x.k==4)=false:=by rw [hk];rfl
   have g7:(x.k==7)=false:=by rw [hk];rfl
   rw [h0]
   clear hk h0
   obtain ⟨⟨⟨l1,d0,d1⟩,l2,c0,c1,c2,c3,c4,c5,c6⟩,-,-,-⟩:=HC.out W2 HB.out
   obtain ⟨xk,-⟩:=HXA.out W2 HB.out
   have x0:W2.cell? ⟨w.heap.size+1+1,0,none⟩=some (.int .i64 x.k):=xk.cell (j:=0) (by decide)
   have x1:W2.cell? ⟨w.heap.size+1+1,1,none⟩=some (.int .i64 x.a):=xk.cell (j:=1) (by decide)
   have x2:W2.cell? ⟨w.heap.size+1+1,2,none⟩=some (.int .i64 x.b):=xk.cell (j:=2) (by decide)
   have x3:W2.cell? ⟨w.heap.size+1+1,3,none⟩=some (.int .i64 x.c):=xk.cell (j:=3) (by decide)
   have x4:W2.cell? ⟨w.heap.size+1+1,4,none⟩=some (.int .i64 x.n):=xk.cell (j:=4) (by decide)
   have x5:W2.cell? ⟨w.heap.size+1+1,5,none⟩=some (.slice x.ls.a x.ls.n x.ls.c):=xk.cell (j:=5) (by decide)
   have x6:w.heap.size+1+1<W2.heap.size:=xk.lt
   clear xk
   rw [← HW.out] at l1 d0 d1 l2 c0 c1 c2 c3 c4 c5 c6 x0 x1 x2 x3 x4 x5 x6
   have n0:w.heap.size<w1.heap.size:=by have:=HL1.out;omega
   have n1:w.heap.size+1<w1.heap.size:=by have:=HL1.out;omega
   have n2:w.heap.size+1+1<w1.heap.size:=by have:=HL1.out;omega
   have n3:w.heap.size<w1.heap.size+1:=by omega
   have n4:¬ w.heap.size=w1.heap.size:=by omega
   have n5:¬ w.heap.size+1=w1.heap.size:=by omega
   have n6:¬ w.heap.size+1+1=w1.heap.size:=by omega
   have n7:¬ w.heap.size=w1.heap.size+1:=by omega
   simp only [St.val]
   go_wp2_with fail
   obtain ⟨W4,hW4,hWB⟩:∃ W,W2.alloc (.cells #[.int .i64 x.k,.int .i64 n,.int .i64 n,.int .i64 n,.int .i64 n,.slice x.ls.a x.ls.n x.ls.c] 47)=W∧Below W2.heap.size W2 W:=⟨_,rfl,(Below.refl _ _).alloc (Nat.le_refl _) _⟩
   rw [HW.out,hW4]
   clear HW hW4 l1 d0 d1 l2 c0 c1 c2 c3 c4 c5 c6 x0 x1 x2 x3 x4 x5 x6 g1 g2 g3 g4 g6 g7 g8 n0 n1 n2 n3 n4 n5 n6 n7 HL1
   generalize w1.heap.size=By at *
   have Hy:Hid (y.At W4∧Blk W4 By 31 7 (fun j=>y.cells.getD j default)):=⟨Hy.out.1.below hWB,Hy.out.2.below hWB⟩
   have HB:Hid (Below W0.heap.size W0 W4):=HB.out.trans (hWB.mono HB.out.size)
   clear hWB
   refine Calls.mono (Do_any p s ⟨x.k,n,n,n,n,x.ls⟩ W4 (HC.out W4 HB.out).2.1 (HC.out W4 HB.out).2.2.1 (HXA.out W4 HB.out).2) ?_
   rintro e w5 ⟨u,rfl,uat,uok,-,hB⟩
   have HSU:Hid (SameT y u):=by
    rw [HZ.out.1,HZ.out.2] at uok
    exact HSY.out.trans (uok.1 rfl).symm
   rw [HZ.out.1]
   clear uok HZ
   have Hy:Hid (y.At w5∧Blk w5 By 31 7 (fun j=>y.cells.getD j default)):=⟨Hy.out.1.below hB,Hy.out.2.below hB⟩
   have HB:Hid (Below W0.heap.size W0 w5):=HB.out.trans (hB.mono HB.out.size)
   clear hB
   obtain ⟨W6,hW,hWB,K1⟩:∃ W,w5.alloc (.cells #[.slice u.on.a u.on.n u.on.c,.slice u.os.a u.os.n u.os.c,.slice u.hs.a u.hs.n u.hs.c,.slice u.ms.a u.ms.n u.ms.c,.slice u.si.a u.si.n u.si.c,.slice u.so.a u.so.n u.so.c,.slice u.sf.a u.sf.n u.sf.c] 31)=W∧Below w5.heap.size w5 W∧Blk W w5.heap.size 31 7 (fun j=>u.cells.getD j default):=⟨_,rfl,(Below.refl _ _).alloc (Nat.le_refl _) _,Blk.mk' rfl rfl⟩
   have HW:Hid (w5.alloc (.cells #[.slice u.on.a u.on.n u.on.c,.slice u.os.a u.os.n u.os.c,.slice u.hs.a u.hs.n u.hs.c,.slice u.ms.a u.ms.n u.ms.c,.slice u.si.a u.si.n u.si.c,.slice u.so.a u.so.n u.so.c,.slice u.sf.a u.sf.n u.sf.c] 31)=W6):=hW
   have Hu:Hid (u.At W6∧Blk W6 w5.heap.size 31 7 (fun j=>u.cells.getD j default)):=⟨uat.below hWB,K1⟩
   clear hW K1 uat
   have Hy:Hid (y.At W6∧Blk W6 By 31 7 (fun j=>y.cells.getD j default)):=⟨Hy.out.1.below hWB,Hy.out.2.below hWB⟩
   have HB:Hid (Below W0.heap.size W0 W6):=HB.out.trans (hWB.mono HB.out.size)
   clear hWB
   simp only [St.val]
   go_wp2_with fail
   rw [HW.out]
   clear HW
   generalize w5.heap.size=Bu at *
   refine Calls.mono (logBegun_any W6) ?_
   rintro e w7 ⟨rfl,hB⟩
   have Hy:Hid (y.At w7∧Blk w7 By 31 7 (fun j=>y.cells.getD j default)):=⟨Hy.out.1.below hB,Hy.out.2.below hB⟩
   have Hu:Hid (u.At w7∧Blk w7 Bu 31 7 (fun j=>u.cells.getD j default)):=⟨Hu.out.1.below hB,Hu.out.2.below hB⟩
   have HB:Hid (Below W0.heap.size W0 w7):=HB.out.trans (hB.mono HB.out.size)
   clear hB
   obtain ⟨⟨⟨l1,d0,d1⟩,l2,c0,c1,c2,c3,c4,c5,c6⟩,-,-,-⟩:=HC.out w7 HB.out
   obtain ⟨ym,yc0,yc1,yc2,yc3,yc4,yc5,yc6⟩:=Boxed.of Hy.out.2
   go_wp2_with fail
   clear l1 d0 d1 l2 c0 c1 c2 c3 c4 c5 c6 ym yc0 yc1 yc2 yc3 yc4 yc5 yc6
   refine Calls.mono (Check_rightW p y w7 (HC.out w7 HB.out).2.1 Hy.out.1 HEY.out) ?_
   rintro e w8 ⟨rfl,hB⟩
   have Hy:Hid (y.At w8∧Blk w8 By 31 7 (fun j=>y.cells.getD j default)):=⟨Hy.out.1.below hB,Hy.out.2.below hB⟩
   have Hu:Hid (u.At w8∧Blk w8 Bu 31 7 (fun j=>u.cells.getD j default)):=⟨Hu.out.1.below hB,Hu.out.2.below hB⟩
   have HB:Hid (Below W0.heap.size W0 w8):=HB.out.trans (hB.mono HB.out.size)
   clear hB
   obtain ⟨ym,yc0,yc1,yc2,yc3,yc4,yc5,yc6⟩:=Boxed.of Hy.out.2
   obtain ⟨um,uc0,uc1,uc2,uc3,uc4,uc5,uc6⟩:=Boxed.of Hu.out.2
   go_wp2_with fail
   clear ym yc0 yc1 yc2 yc3 yc4 yc5 yc6 um uc0 uc1 uc2 uc3 uc4 uc5 uc6
   refine Calls.mono (SameStates_yes y u w8 Hy.out.1 Hu.out.1 HSU.out HBD.out.1 HBD.out.2.1 HBD.out.2.2) ?_
   rintro e w9 ⟨rfl,hB⟩
   have Hy:Hid (y.At w9∧Blk w9 By 31 7 (fun j=>y.cells.getD j default)):=⟨Hy.out.1.below hB,Hy.out.2.below hB⟩
   have Hu:Hid (u.At w9∧Blk w9 Bu 31 7 (fun j=>u.cells.getD j default)):=⟨Hu.out.1.below hB,Hu.out.2.below hB⟩
   have HB:Hid (Below W0.heap.size W0 w9):=HB.out.trans (hB.mono HB.out.size)
   clear hB
   go_wp2_with fail
   go_ret
   exact ⟨by simp,(HC.out w9 HB.out).2.2.2⟩
  ·have HZ:Hid (doE p s ⟨x.k,x.a,n,n,x.n,x.ls⟩=0∧doT p s ⟨x.k,x.a,n,n,x.n,x.ls⟩=doT p s x):=right_names p s x x.a n n x.n (fun h=>absurd h (by rw [hk];decide)) (fun h=>absurd h (by rw [hk];decide)) (fun h=>absurd h (by rw [hk];decide)) (fun _=>⟨rfl,rfl⟩) h0
   have g1:(x.k==1)=false:=by rw [hk];rfl
   have g8:(x.k==8)=false:=by rw [hk];rfl
   have g2:(x.k==2)=false:=by rw [hk];rfl
   have g3:(x.k==3)=false:=by rw [hk];rfl
   have g6:(x.k==6)=false:=by rw [hk];rfl
   have g4:(x.k==4)=false:=by rw [hk];rfl
   have g7:(x.k==7)=true:=by rw [hk];rfl
   rw [h0]
   clear hk h0
   obtain ⟨⟨⟨l1,d0,d1⟩,l2,c0,c1,c2,c3,c4,c5,c6⟩,-,-,-⟩:=HC.out W2 HB.out
   obtain ⟨xk,-⟩:=HXA.out W2 HB.out
   have x0:W2.cell? ⟨w.heap.size+1+1,0,none⟩=some (.int .i64 x.k):=xk.cell (j:=0) (by decide)
   have x1:W2.cell? ⟨w.heap.size+1+1,1,none⟩=some (.int .i64 x.a):=xk.cell (j:=1) (by decide)
   have x2:W2.cell? ⟨w.heap.size+1+1,2,none⟩=some (.int .i64 x.b):=xk.cell (j:=2) (by decide)
   have x3:W2.cell? ⟨w.heap.size+1+1,3,none⟩=some (.int .i64 x.c):=xk.cell (j:=3) (by decide)
   have x4:W2.cell? ⟨w.heap.size+1+1,4,none⟩=some (.int .i64 x.n):=xk.cell (j:=4) (by decide)
   have x5:W2.cell? ⟨w.heap.size+1+1,5,none⟩=some (.slice x.ls.a x.ls.n x.ls.c):=xk.cell (j:=5) (by decide)
   have x6:w.heap.size+1+1<W2.heap.size:=xk.lt
   clear xk
   rw [← HW.out] at l1 d0 d1 l2 c0 c1 c2 c3 c4 c5 c6 x0 x1 x2 x3 x4 x5 x6
   have n0:w.heap.size<w1.heap.size:=by have:=HL1.out;omega
   have n1:w.heap.size+1<w1.heap.size:=by have:=HL1.out;omega
   have n2:w.heap.size+1+1<w1.heap.size:=by have:=HL1.out;omega
   have n3:w.heap.size<w1.heap.size+1:=by omega
   have n4:¬ w.heap.size=w1.heap.size:=by omega
   have n5:¬ w.heap.size+1=w1.heap.size:=by omega
   have n6:¬ w.heap.size+1+1=w1.heap.size:=by omega
   have n7:¬ w.heap.size=w1.heap.size+1:=by omega
   simp only [St.val]
   go_wp2_with fail
   obtain ⟨W4,hW4,hWB⟩:∃ W,W2.alloc (.cells #[.int .i64 x.k,.int .i64 x.a,.int .i64 n,.int .i64 n,.int .i64 x.n,.slice x.ls.a x.ls.n x.ls.c] 47)=W∧Below W2.heap.size W2 W:=⟨_,rfl,(Below.refl _ _).alloc (Nat.le_refl _) _⟩
   rw [HW.out,hW4]
   clear HW hW4 l1 d0 d1 l2 c0 c1 c2 c3 c4 c5 c6 x0 x1 x2 x3 x4 x5 x6 g1 g2 g3 g4 g6 g7 g8 n0 n1 n2 n3 n4 n5 n6 n7 HL1
   generalize w1.heap.size=By at *
   have Hy:Hid (y.At W4∧Blk W4 By 31 7 (fun j=>y.cells.getD j default)):=⟨Hy.out.1.below hWB,Hy.out.2.below hWB⟩
   have HB:Hid (Below W0.heap.size W0 W4):=HB.out.trans (hWB.mono HB.out.size)
   clear hWB
   refine Calls.mono (Do_any p s ⟨x.k,x.a,n,n,x.n,x.ls⟩ W4 (HC.out W4 HB.out).2.1 (HC.out W4 HB.out).2.2.1 (HXA.out W4 HB.out).2) ?_
   rintro e w5 ⟨u,rfl,uat,uok,-,hB⟩
   have HSU:Hid (SameT y u):=by
    rw [HZ.out.1,HZ.out.2] at uok
    exact HSY.out.trans (uok.1 rfl).symm
   rw [HZ.out.1]
   clear uok HZ
   have Hy:Hid (y.At w5∧Blk w5 By 31 7 (fun j=>y.cells.getD j default)):=⟨Hy.out.1.below hB,Hy.out.2.below hB⟩
   have HB:Hid (Below W0.heap.size W0 w5):=HB.out.trans (hB.mono HB.out.size)
   clear hB
   obtain ⟨W6,hW,hWB,K1⟩:∃ W,w5.alloc (.cells #[.slice u.on.a u.on.n u.on.c,.slice u.os.a u.os.n u.os.c,.slice u.hs.a u.hs.n u.hs.c,.slice u.ms.a u.ms.n u.ms.c,.slice u.si.a u.si.n u.si.c,.slice u.so.a u.so.n u.so.c,.slice u.sf.a u.sf.n u.sf.c] 31)=W∧Below w5.heap.size w5 W∧Blk W w5.heap.size 31 7 (fun j=>u.cells.getD j default):=⟨_,rfl,(Below.refl _ _).alloc (Nat.le_refl _) _,Blk.mk' rfl rfl⟩
   have HW:Hid (w5.alloc (.cells #[.slice u.on.a u.on.n u.on.c,.slice u.os.a u.os.n u.os.c,.slice u.hs.a u.hs.n u.hs.c,.slice u.ms.a u.ms.n u.ms.c,.slice u.si.a u.si.n u.si.c,.slice u.so.a u.so.n u.so.c,.slice u.sf.a u.sf.n u.sf.c] 31)=W6):=hW
   have Hu:Hid (u.At W6∧Blk W6 w5.heap.size 31 7 (fun j=>u.cells.getD j default)):=⟨uat.below hWB,K1⟩
   clear hW K1 uat
   have Hy:Hid (y.At W6∧Blk W6 By 31 7 (fun j=>y.cells.getD j default)):=⟨Hy.out.1.below hWB,Hy.out.2.below hWB⟩
   have HB:Hid (Below W0.heap.size W0 W6):=HB.out.trans (hWB.mono HB.out.size)
   clear hWB
   simp only [St.val]
   go_wp2_with fail
   rw [HW.out]
   clear HW
   generalize w5.heap.size=Bu at *
   refine Calls.mono (logBegun_any W6) ?_
   rintro e w7 ⟨rfl,hB⟩
   have Hy:Hid (y.At w7∧Blk w7 By 31 7 (fun j=>y.cells.getD j default)):=⟨Hy.out.1.below hB,Hy.out.2.below hB⟩
   have Hu:Hid (u.At w7∧Blk w7 Bu 31 7 (fun j=>u.cells.getD j default)):=⟨Hu.out.1.below hB,Hu.out.2.below hB⟩
   have HB:Hid (Below W0.heap.size W0 w7):=HB.out.trans (hB.mono HB.out.size)
   clear hB
   obtain ⟨⟨⟨l1,d0,d1⟩,l2,c0,c1,c2,c3,c4,c5,c6⟩,-,-,-⟩:=HC.out w7 HB.out
   obtain ⟨ym,yc0,yc1,yc2,yc3,yc4,yc5,yc6⟩:=Boxed.of Hy.out.2
   go_wp2_with fail
   clear l1 d0 d1 l2 c0 c1 c2 c3 c4 c5 c6 ym yc0 yc1 yc2 yc3 yc4 yc5 yc6
   refine Calls.mono (Check_rightW p y w7 (HC.out w7 HB.out).2.1 Hy.out.1 HEY.out) ?_
   rintro e w8 ⟨rfl,hB⟩
   have Hy:Hid (y.At w8∧Blk w8 By 31 7 (fun j=>y.cells.getD j default)):=⟨Hy.out.1.below hB,Hy.out.2.below hB⟩
   have Hu:Hid (u.At w8∧Blk w8 Bu 31 7 (fun j=>u.cells.getD j default)):=⟨Hu.out.1.below hB,Hu.out.2.below hB⟩
   have HB:Hid (Below W0.heap.size W0 w8):=HB.out.trans (hB.mono HB.out.size)
   clear hB
   obtain ⟨ym,yc0,yc1,yc2,yc3,yc4,yc5,yc6⟩:=Boxed.of Hy.out.2
   obtain ⟨um,uc0,uc1,uc2,uc3,uc4,uc5,uc6⟩:=Boxed.of Hu.out.2
   go_wp2_with fail
   clear ym yc0 yc1 yc2 yc3 yc4 yc5 yc6 um uc0 uc1 uc2 uc3 uc4 uc5 uc6
   refine Calls.mono (SameStates_yes y u w8 Hy.out.1 Hu.out.1 HSU.out HBD.out.1 HBD.out.2.1 HBD.out.2.2) ?_
   rintro e w9 ⟨rfl,hB⟩
   have Hy:Hid (y.At w9∧Blk w9 By 31 7 (fun j=>y.cells.getD j default)):=⟨Hy.out.1.below hB,Hy.out.2.below hB⟩
   have Hu:Hid (u.At w9∧Blk w9 Bu 31 7 (fun j=>u.cells.getD j default)):=⟨Hu.out.1.below hB,Hu.out.2.below hB⟩
   have HB:Hid (Below W0.heap.size W0 w9):=HB.out.trans (hB.mono HB.out.size)
   clear hB
   go_wp2_with fail
   go_ret
   exact ⟨by simp,(HC.out w9 HB.out).2.2.2⟩
  ·have HZ:Hid (doE p s ⟨x.k,x.a,x.b,n,x.n,x.ls⟩=0∧doT p s ⟨x.k,x.a,x.b,n,x.n,x.ls⟩=doT p s x):=right_names p s x x.a x.b n x.n (fun _=>⟨rfl,rfl,rfl⟩) (fun h=>absurd h (by rw [hk];decide)) (fun h=>absurd h (by rw [hk];decide)) (fun h=>absurd h (by rw [hk];decide)) h0
   have g1:(x.k==1)=false:=by rw [hk];rfl
   have g8:(x.k==8)=true:=by rw [hk];rfl
   have g2:(x.k==2)=false:=by rw [hk];rfl
   have g3:(x.k==3)=false:=by rw [hk];rfl
   have g6:(x.k==6)=false:=by rw [hk];rfl
   have g4:(x.k==4)=false:=by rw [hk];rfl
   have g7:(x.k==7)=false:=by rw [hk];rfl
   rw [h0]
   clear hk h0
   obtain ⟨⟨⟨l1,d0,d1⟩,l2,c0,c1,c2,c3,c4,c5,c6⟩,-,-,-⟩:=HC.out W2 HB.out
   obtain ⟨xk,-⟩:=HXA.out W2 HB.out
   have x0:W2.cell? ⟨w.heap.size+1+1,0,none⟩=some (.int .i64 x.k):=xk.cell (j:=0) (by decide)
   have x1:W2.cell? ⟨w.heap.size+1+1,1,none⟩=some (.int .i64 x.a):=xk.cell (j:=1) (by decide)
   have x2:W2.cell? ⟨w.heap.size+1+1,2,none⟩=some (.int .i64 x.b):=xk.cell (j:=2) (by decide)
   have x3:W2.cell? ⟨w.heap.size+1+1,3,none⟩=some (.int .i64 x.c):=xk.cell (j:=3) (by decide)
   have x4:W2.cell? ⟨w.heap.size+1+1,4,none⟩=some (.int .i64 x.n):=xk.cell (j:=4) (by decide)
   have x5:W2.cell? ⟨w.heap.size+1+1,5,none⟩=some (.slice x.ls.a x.ls.n x.ls.c):=xk.cell (j:=5) (by decide)
   have x6:w.heap.size+1+1<W2.heap.size:=xk.lt
   clear xk
   rw [← HW.out] at l1 d0 d1 l2 c0 c1 c2 c3 c4 c5 c6 x0 x1 x2 x3 x4 x5 x6
   have n0:w.heap.size<w1.heap.size:=by have:=HL1.out;omega
   have n1:w.heap.size+1<w1.heap.size:=by have:=HL1.out;omega
   have n2:w.heap.size+1+1<w1.heap.size:=by have:=HL1.out;omega
   have n3:w.heap.size<w1.heap.size+1:=by omega
   have n4:¬ w.heap.size=w1.heap.size:=by omega
   have n5:¬ w.heap.size+1=w1.heap.size:=by omega
   have n6:¬ w.heap.size+1+1=w1.heap.size:=by omega
   have n7:¬ w.heap.size=w1.heap.size+1:=by omega
   simp only [St.val]
   go_wp2_with fail
   obtain ⟨W4,hW4,hWB⟩:∃ W,W2.alloc (.cells #[.int .i64 x.k,.int .i64 x.a,.int .i64 x.b,.int .i64 n,.int .i64 x.n,.slice x.ls.a x.ls.n x.ls.c] 47)=W∧Below W2.heap.size W2 W:=⟨_,rfl,(Below.refl _ _).alloc (Nat.le_refl _) _⟩
   rw [HW.out,hW4]
   clear HW hW4 l1 d0 d1 l2 c0 c1 c2 c3 c4 c5 c6 x0 x1 x2 x3 x4 x5 x6 g1 g2 g3 g4 g6 g7 g8 n0 n1 n2 n3 n4 n5 n6 n7 HL1
   generalize w1.heap.size=By at *
   have Hy:Hid (y.At W4∧Blk W4 By 31 7 (fun j=>y.cells.getD j default)):=⟨Hy.out.1.below hWB,Hy.out.2.below hWB⟩
   have HB:Hid (Below W0.heap.size W0 W4):=HB.out.trans (hWB.mono HB.out.size)
   clear hWB
   refine Calls.mono (Do_any p s ⟨x.k,x.a,x.b,n,x.n,x.ls⟩ W4 (HC.out W4 HB.out).2.1 (HC.out W4 HB.out).2.2.1 (HXA.out W4 HB.out).2) ?_
   rintro e w5 ⟨u,rfl,uat,uok,-,hB⟩
   have HSU:Hid (SameT y u):=by
    rw [HZ.out.1,HZ.out.2] at uok
    exact HSY.out.trans (uok.1 rfl).symm
   rw [HZ.out.1]
   clear uok HZ
   have Hy:Hid (y.At w5∧Blk w5 By 31 7 (fun j=>y.cells.getD j default)):=⟨Hy.out.1.below hB,Hy.out.2.below hB⟩
   have HB:Hid (Below W0.heap.size W0 w5):=HB.out.trans (hB.mono HB.out.size)
   clear hB
   obtain ⟨W6,hW,hWB,K1⟩:∃ W,w5.alloc (.cells #[.slice u.on.a u.on.n u.on.c,.slice u.os.a u.os.n u.os.c,.slice u.hs.a u.hs.n u.hs.c,.slice u.ms.a u.ms.n u.ms.c,.slice u.si.a u.si.n u.si.c,.slice u.so.a u.so.n u.so.c,.slice u.sf.a u.sf.n u.sf.c] 31)=W∧Below w5.heap.size w5 W∧Blk W w5.heap.size 31 7 (fun j=>u.cells.getD j default):=⟨_,rfl,(Below.refl _ _).alloc (Nat.le_refl _) _,Blk.mk' rfl rfl⟩
   have HW:Hid (w5.alloc (.cells #[.slice u.on.a u.on.n u.on.c,.slice u.os.a u.os.n u.os.c,.slice u.hs.a u.hs.n u.hs.c,.slice u.ms.a u.ms.n u.ms.c,.slice u.si.a u.si.n u.si.c,.slice u.so.a u.so.n u.so.c,.slice u.sf.a u.sf.n u.sf.c] 31)=W6):=hW
   have Hu:Hid (u.At W6∧Blk W6 w5.heap.size 31 7 (fun j=>u.cells.getD j default)):=⟨uat.below hWB,K1⟩
   clear hW K1 uat
   have Hy:Hid (y.At W6∧Blk W6 By 31 7 (fun j=>y.cells.getD j default)):=⟨Hy.out.1.below hWB,Hy.out.2.below hWB⟩
   have HB:Hid (Below W0.heap.size W0 W6):=HB.out.trans (hWB.mono HB.out.size)
   clear hWB
   simp only [St.val]
   go_wp2_with fail
   rw [HW.out]
   clear HW
   generalize w5.heap.size=Bu at *
   refine Calls.mono (logBegun_any W6) ?_
   rintro e w7 ⟨rfl,hB⟩
   have Hy:Hid (y.At w7∧Blk w7 By 31 7 (fun j=>y.cells.getD j default)):=⟨Hy.out.1.below hB,Hy.out.2.below hB⟩
   have Hu:Hid (u.At w7∧Blk w7 Bu 31 7 (fun j=>u.cells.getD j default)):=⟨Hu.out.1.below hB,Hu.out.2.below hB⟩
   have HB:Hid (Below W0.heap.size W0 w7):=HB.out.trans (hB.mono HB.out.size)
   clear hB
   obtain ⟨⟨⟨l1,d0,d1⟩,l2,c0,c1,c2,c3,c4,c5,c6⟩,-,-,-⟩:=HC.out w7 HB.out
   obtain ⟨ym,yc0,yc1,yc2,yc3,yc4,yc5,yc6⟩:=Boxed.of Hy.out.2
   go_wp2_with fail
   clear l1 d0 d1 l2 c0 c1 c2 c3 c4 c5 c6 ym yc0 yc1 yc2 yc3 yc4 yc5 yc6
   refine Calls.mono (Check_rightW p y w7 (HC.out w7 HB.out).2.1 Hy.out.1 HEY.out) ?_
   rintro e w8 ⟨rfl,hB⟩
   have Hy:Hid (y.At w8∧Blk w8 By 31 7 (fun j=>y.cells.getD j default)):=⟨Hy.out.1.below hB,Hy.out.2.below hB⟩
   have Hu:Hid (u.At w8∧Blk w8 Bu 31 7 (fun j=>u.cells.getD j default)):=⟨Hu.out.1.below hB,Hu.out.2.below hB⟩
   have HB:Hid (Below W0.heap.size W0 w8):=HB.out.trans (hB.mono HB.out.size)
   clear hB
   obtain ⟨ym,yc0,yc1,yc2,yc3,yc4,yc5,yc6⟩:=Boxed.of Hy.out.2
   obtain ⟨um,uc0,uc1,uc2,uc3,uc4,uc5,uc6⟩:=Boxed.of Hu.out.2
   go_wp2_with fail
   clear ym yc0 yc1 yc2 yc3 yc4 yc5 yc6 um uc0 uc1 uc2 uc3 uc4 uc5 uc6
   refine Calls.mono (SameStates_yes y u w8 Hy.out.1 Hu.out.1 HSU.out HBD.out.1 HBD.out.2.1 HBD.out.2.2) ?_
   rintro e w9 ⟨rfl,hB⟩
   have Hy:Hid (y.At w9∧Blk w9 By 31 7 (fun j=>y.cells.getD j default)):=⟨Hy.out.1.below hB,Hy.out.2.below hB⟩
   have Hu:Hid (u.At w9∧Blk w9 Bu 31 7 (fun j=>u.cells.getD j default)):=⟨Hu.out.1.below hB,Hu.out.2.below hB⟩
   have HB:Hid (Below W0.heap.size W0 w9):=HB.out.trans (hB.mono HB.out.size)
   clear hB
   go_wp2_with fail
   go_ret
   exact ⟨by simp,(HC.out w9 HB.out).2.2.2⟩
 ·have g0:(doE p s x !=0)=true:=by simpa using h0
  clear h0 HYOK
  generalize doE p s x=EE at *
  simp only [St.val]
  go_wp2_with fail
  rw [HW.out]
  clear HW
  generalize w1.heap.size=By at *
  refine Calls.mono (logBegun_any W2) ?_
  rintro e w3 ⟨rfl,hB⟩
  have Hy:Hid (y.At w3∧Blk w3 By 31 7 (fun j=>y.cells.getD j default)):=⟨Hy.out.1.below hB,Hy.out.2.below hB⟩
  have HB:Hid (Below W0.heap.size W0 w3):=HB.out.trans (hB.mono HB.out.size)
  clear hB
  go_wp2_with fail
  go_ret
  exact ⟨rfl,(HC.out w3 HB.out).2.2.2⟩
end Go.Proofs.YtbcacebifpagpagGreat
namespace Go.Proofs.YtbcacebifpagpagGreat
open Go.ChangeShapes Go.WideShapes Go.ChangeAt Go.RowKit Go.Joins Go.Deep
set_option linter.unusedVariables false
set_option maxRecDepth 100000
theorem own:ownKnob Tryz.prog.godebug=none:=by kernel_rfl
theorem laidOut:laidOutB Tryz.prog=true:=by kernel_rfl
theorem cellsInt:Tryz.prog.cellsOf 3=1:=by kernel_rfl
theorem cellsInts:Tryz.prog.cellsOf 23=1:=by kernel_rfl
theorem cellsBin:Tryz.prog.cellsOf 68=4:=by kernel_rfl
theorem cellsPlan:Tryz.prog.cellsOf 25=2:=by kernel_rfl
theorem cellsBool:Tryz.prog.cellsOf 4=1:=by kernel_rfl
section
variable {H:Type} {enc:TypeId × Value→H} {w:World} {held:Bool} {spare:Nat→Bool}
theorem addrOf {a:Addr} {i:Nat} {v:Value} (h:w.cell? (a.add i)=some v) (h0:∃ v0,w.cell? a=some v0):∃ b o,a=⟨b,o,none⟩∧b<w.heap.size∧w.cell? ⟨b,o+i,none⟩=some v:=by
 obtain ⟨b,off,spot⟩:=a
 obtain ⟨v0,h0⟩:=h0
 have hspot:spot=none:=World.cell?_spot h0
 subst hspot
 refine ⟨b,off,rfl,World.block_lt_of_cell? w _ h0,?_⟩
 rw [← Go.WideShapes.add_plain]
 exact h
theorem readInts {fuel:Nat} {cs:List Value} {x:DataW H × List MemPlace} (h:DataW.trod enc Tryz.prog w 0 spare held fuel 23 cs=some x):∃ r:Rw,cs=[r.val]∧r.At w:=by
 rcases open_slice1 Tryz.underlying23 cellsInt h with ⟨rfl,_⟩ | ⟨a,len,cap,m,n,V,D,Pl,rfl,hb,hl,hm,hmm,_,hx⟩
 ·exact ⟨⟨none,0,0,fun _=>0⟩,rfl,Nat.le_refl _,Nat.zero_le _,fun i hi=>absurd hi (Nat.not_lt_zero _)⟩
 ·have hlm:len≤m:=by rw [hmm];split<;>omega
  obtain ⟨z,hz⟩:=choose_lt (α:=Int) (n:=len) (p:=fun i y=>V i = .int .i64 y) (fun i hi=>by
   obtain ⟨y,hy,_⟩:=DataW.trod_int Tryz.underlying3 (hx i (by omega)).2
   simp only [List.cons.injEq,and_true] at hy
   exact ⟨y,hy⟩)
  refine ⟨⟨some a,len,cap,z⟩,rfl,hl,hm,fun i hi => ?_⟩
  have hi':i<len:=hi
  have h0:∃ v0,w.cell? a=some v0:=⟨_,by have:=(hx 0 (by omega)).1;simpa [Addr.add] using this⟩
  obtain ⟨b,o,rfl,hb',hc⟩:=addrOf (hx i (by omega)).1 h0
  exact ⟨b,o,rfl,hb',by rw [hc,hz i hi']⟩
theorem readRows {fuel:Nat} {cs:List Value} {x:DataW H × List MemPlace} (h:DataW.trod enc Tryz.prog w 0 spare held fuel 26 cs=some x):∃ s:Sh,cs=[s.val]∧s.At w:=by
 rcases open_slice1 Tryz.underlying26 cellsInts h with ⟨rfl,_⟩ | ⟨a,len,cap,m,n,V,D,Pl,rfl,hb,hl,hm,hmm,_,hx⟩
 ·exact ⟨⟨none,0,0,fun _=>⟨none,0,0,fun _=>0⟩⟩,rfl,Nat.le_refl _,Nat.zero_le _,fun i hi=>absurd hi (Nat.not_lt_zero _)⟩
 ·have hlm:len≤m:=by rw [hmm];split<;>omega
  haveI:Inhabited Rw:=⟨⟨none,0,0,fun _=>0⟩⟩
  obtain ⟨z,hz⟩:=choose_lt (α:=Rw) (n:=len) (p:=fun i y=>V i=y.val∧y.At w) (fun i hi=>by
   obtain ⟨y,hy,hat⟩:=readInts (hx i (by omega)).2
   simp only [List.cons.injEq,and_true] at hy
   exact ⟨y,hy,hat⟩)
  refine ⟨⟨some a,len,cap,z⟩,rfl,hl,hm,fun i hi => ?_⟩
  have hi':i<len:=hi
  have h0:∃ v0,w.cell? a=some v0:=⟨_,by have:=(hx 0 (by omega)).1;simpa [Addr.add] using this⟩
  obtain ⟨b,o,rfl,hb',hc⟩:=addrOf (hx i (by omega)).1 h0
  exact ⟨b,o,rfl,hb',by rw [hc,(hz i hi').1];rfl,(hz i hi').2⟩
theorem readBin {fuel:Nat} {c0 c1 c2 c3:Value} {x:DataW H × List MemPlace} (h:DataW.trod enc Tryz.prog w 0 spare held fuel 68 [c0,c1,c2,c3]=some x):∃ y:Bin,c0 = .bool y.front∧c1 = .int .i64 y.room∧c2 = .int .i64 y.low∧c3 = .int .i64 y.high:=by
 obtain ⟨y0,y1,y2,y3,n,hx,hl,h0,h1,h2,h3⟩:=trod_struct4 Tryz.underlying68 h
 simp only [cellsBool,cellsInt,List.drop_succ_cons,List.drop_zero,List.take_succ_cons,List.take_zero] at h0 h1 h2 h3
 obtain ⟨b,e0,_⟩:=DataW.trod_bool Tryz.underlying4 h0
 obtain ⟨n1,e1,_⟩:=DataW.trod_int Tryz.underlying3 h1
 obtain ⟨n2,e2,_⟩:=DataW.trod_int Tryz.underlying3 h2
 obtain ⟨n3,e3,_⟩:=DataW.trod_int Tryz.underlying3 h3
 simp only [List.cons.injEq,and_true] at e0 e1 e2 e3
 exact ⟨⟨b,n1,n2,n3⟩,e0,e1,e2,e3⟩
theorem cells4 {base:Nat} {a:Addr} {cs:List Value} (h:w.cells? base a 4=some cs):∃ c0 c1 c2 c3,cs=[c0,c1,c2,c3]∧w.cell? a=some c0∧w.cell? (a.add 1)=some c1∧w.cell? (a.add 2)=some c2∧w.cell? (a.add 3)=some c3:=by
 obtain ⟨_,hlen,hc⟩:=World.cells?_some h
 match cs,hlen with
 | [c0,c1,c2,c3],_ =>
  refine ⟨c0,c1,c2,c3,rfl,?_,?_,?_,?_⟩
  ·simpa [Addr.add] using hc 0 (by decide)
  ·simpa using hc 1 (by decide)
  ·simpa using hc 2 (by decide)
  ·simpa using hc 3 (by decide)
theorem readBins {fuel:Nat} {cs:List Value} {x:DataW H × List MemPlace} (h:DataW.trod enc Tryz.prog w 0 spare held fuel 22 cs=some x):∃ a n c z,cs=[.slice a n c]∧n≤c∧c≤maxLen∧BinsAt w a n z:=by
 rcases open_slice Tryz.underlying22 h with ⟨rfl,_⟩ | ⟨a,len,cap,m,n,D,Pl,rfl,hb,hl,hm,hmm,_,hx⟩
 ·exact ⟨none,0,0,fun _=>⟨false,0,0,0⟩,rfl,Nat.le_refl _,Nat.zero_le _,fun i hi=>absurd hi (Nat.not_lt_zero _)⟩
 ·have hlm:len≤m:=by rw [hmm];split<;>omega
  rw [cellsBin] at hx
  haveI:Inhabited Bin:=⟨⟨false,0,0,0⟩⟩
  obtain ⟨z,hz⟩:=choose_lt (α:=Bin) (n:=len) (p:=fun i y=>w.cell? (a.add (i*4))=some (.bool y.front)∧w.cell? (a.add (i*4+1))=some (.int .i64 y.room)∧w.cell? (a.add (i*4+2))=some (.int .i64 y.low)∧w.cell? (a.add (i*4+3))=some (.int .i64 y.high)) (fun i hi=>by
   obtain ⟨cs',hc,ht⟩:=hx i (by omega)
   obtain ⟨c0,c1,c2,c3,rfl,k0,k1,k2,k3⟩:=cells4 hc
   obtain ⟨y,rfl,rfl,rfl,rfl⟩:=readBin ht
   rw [add_add] at k1 k2 k3
   exact ⟨y,k0,k1,k2,k3⟩)
  refine ⟨some a,len,cap,z,rfl,hl,hm,fun i hi => ?_⟩
  have h0:∃ v0,w.cell? a=some v0:=⟨_,by have:=(hz 0 (by omega)).1;simpa [Addr.add] using this⟩
  obtain ⟨k0,k1,k2,k3⟩:=hz i hi
  obtain ⟨b,o,rfl,hb',e0⟩:=addrOf k0 h0
  rw [Go.WideShapes.add_plain] at k1 k2 k3
  exact ⟨b,o,rfl,hb',e0,by rw [Nat.add_assoc];exact k1,by rw [Nat.add_assoc];exact k2,by rw [Nat.add_assoc];exact k3⟩
theorem openPlan {r:Reach} {b0:Nat} {v:Value} {d:DataW H} {ps:List MemPlace} (hv:Value.okWide Tryz.prog w r b0 25 v) (h:DataW.Trod enc Tryz.prog w 0 spare held 25 v d ps):∃ p:Pl,v=p.val∧p.At w:=by
 obtain ⟨c0,c1,y0,y1,m,rfl,rfl,rfl,hy0,hy1⟩:=open_agg2 Tryz.underlying25 (by kernel_rfl) cellsPlan hv h
 obtain ⟨a,n,c,z,e0,h1,h2,h3⟩:=readBins hy0
 obtain ⟨rr,e1,hr⟩:=readInts hy1
 simp only [List.cons.injEq,and_true] at e0 e1
 subst e0 e1
 exact ⟨⟨a,n,c,z,rr.a,rr.n,rr.c,rr.z⟩,rfl,h1,h2,h3,hr.le,hr.cap,hr.ints⟩
end
set_option maxRecDepth 100000
namespace HoldsFrames
theorem own:ownKnob Tryz.prog.godebug=none:=by kernel_rfl
theorem laidOut:laidOutB Tryz.prog=true:=by kernel_rfl
theorem cellsInt:Tryz.prog.cellsOf 3=1:=by kernel_rfl
theorem cellsHold:Tryz.prog.cellsOf 61=4:=by kernel_rfl
section
variable {H:Type} {enc:TypeId × Value→H} {w:World} {held:Bool} {spare:Nat→Bool}
theorem addrOf {a:Addr} {i:Nat} {v:Value} (h:w.cell? (a.add i)=some v) (h0:∃ v0,w.cell? a=some v0):∃ b o,a=⟨b,o,none⟩∧b<w.heap.size∧w.cell? ⟨b,o+i,none⟩=some v:=by
 obtain ⟨b,off,spot⟩:=a
 obtain ⟨v0,h0⟩:=h0
 have hspot:spot=none:=World.cell?_spot h0
 subst hspot
 refine ⟨b,off,rfl,World.block_lt_of_cell? w _ h0,?_⟩
 rw [← Go.WideShapes.add_plain]
 exact h
theorem cells4 {base:Nat} {a:Addr} {cs:List Value} (h:w.cells? base a 4=some cs):∃ c0 c1 c2 c3,cs=[c0,c1,c2,c3]∧w.cell? a=some c0∧w.cell? (a.add 1)=some c1∧w.cell? (a.add 2)=some c2∧w.cell? (a.add 3)=some c3:=by
 obtain ⟨_,hlen,hc⟩:=World.cells?_some h
 match cs,hlen with
 | [c0,c1,c2,c3],_ =>
  refine ⟨c0,c1,c2,c3,rfl,?_,?_,?_,?_⟩
  ·simpa [Addr.add] using hc 0 (by decide)
  ·simpa using hc 1 (by decide)
  ·simpa using hc 2 (by decide)
  ·simpa using hc 3 (by decide)
theorem readHold {fuel:Nat} {c0 c1 c2 c3:Value} {x:DataW H × List MemPlace} (h:DataW.trod enc Tryz.prog w 0 spare held fuel 61 [c0,c1,c2,c3]=some x):∃ y:Hd,c0 = .int .i64 y.o∧c1 = .int .i64 y.l∧c2 = .int .i64 y.b∧c3 = .int .i64 y.n:=by
 obtain ⟨y0,y1,y2,y3,n,hx,hl,h0,h1,h2,h3⟩:=trod_struct4 Tryz.underlying61 h
 simp only [cellsInt,List.drop_succ_cons,List.drop_zero,List.take_succ_cons,List.take_zero] at h0 h1 h2 h3
 obtain ⟨n0,e0,_⟩:=DataW.trod_int Tryz.underlying3 h0
 obtain ⟨n1,e1,_⟩:=DataW.trod_int Tryz.underlying3 h1
 obtain ⟨n2,e2,_⟩:=DataW.trod_int Tryz.underlying3 h2
 obtain ⟨n3,e3,_⟩:=DataW.trod_int Tryz.underlying3 h3
 simp only [List.cons.injEq,and_true] at e0 e1 e2 e3
 exact ⟨⟨n0,n1,n2,n3⟩,e0,e1,e2,e3⟩
theorem readHolds {fuel:Nat} {cs:List Value} {x:DataW H × List MemPlace} (h:DataW.trod enc Tryz.prog w 0 spare held fuel 28 cs=some x):∃ s:Hs,cs=[s.val]∧s.At w:=by
 rcases open_slice Tryz.underlying28 h with ⟨rfl,_⟩ | ⟨a,len,cap,m,n,D,Pl,rfl,hb,hl,hm,hmm,_,hx⟩
 ·exact ⟨⟨none,0,0,fun _=>⟨0,0,0,0⟩⟩,rfl,Nat.le_refl _,Nat.zero_le _,fun i hi=>absurd hi (Nat.not_lt_zero _),fun _=>rfl⟩
 ·have hlm:len≤m:=by rw [hmm];split<;>omega
  rw [cellsHold] at hx
  haveI:Inhabited Hd:=⟨⟨0,0,0,0⟩⟩
  obtain ⟨z,hz⟩:=choose_lt (α:=Hd) (n:=len) (p:=fun i y=>w.cell? (a.add (i*4))=some (.int .i64 y.o)∧w.cell? (a.add (i*4+1))=some (.int .i64 y.l)∧w.cell? (a.add (i*4+2))=some (.int .i64 y.b)∧w.cell? (a.add (i*4+3))=some (.int .i64 y.n)) (fun i hi=>by
   obtain ⟨cs',hc,ht⟩:=hx i (by omega)
   obtain ⟨c0,c1,c2,c3,rfl,k0,k1,k2,k3⟩:=cells4 hc
   obtain ⟨y,rfl,rfl,rfl,rfl⟩:=readHold ht
   rw [add_add] at k1 k2 k3
   exact ⟨y,k0,k1,k2,k3⟩)
  refine ⟨⟨some a,len,cap,z⟩,rfl,hl,hm,fun i hi => ?_,fun h=>by cases h⟩
  have hi':i<len:=hi
  have h0:∃ v0,w.cell? a=some v0:=⟨_,by have:=(hz 0 (by omega)).1;simpa [Addr.add] using this⟩
  obtain ⟨k0,k1,k2,k3⟩:=hz i hi'
  obtain ⟨b,o,rfl,hb',e0⟩:=addrOf k0 h0
  rw [Go.WideShapes.add_plain] at k1 k2 k3
  exact ⟨b,o,rfl,hb',e0,by rw [Nat.add_assoc];exact k1,by rw [Nat.add_assoc];exact k2,by rw [Nat.add_assoc];exact k3⟩
end
end HoldsFrames
set_option maxRecDepth 100000
theorem cellsLine:Tryz.prog.cellsOf 59=4:=by kernel_rfl
theorem cellsMove:Tryz.prog.cellsOf 63=4:=by kernel_rfl
theorem cellsOrder:Tryz.prog.cellsOf 57=2:=by kernel_rfl
theorem cellsState:Tryz.prog.cellsOf 31=7:=by kernel_rfl
theorem cellsLines:Tryz.prog.cellsOf 45=1:=by kernel_rfl
theorem cellsMoves:Tryz.prog.cellsOf 29=1:=by kernel_rfl
theorem cellsOrders:Tryz.prog.cellsOf 27=1:=by kernel_rfl
theorem cellsHolds:Tryz.prog.cellsOf 28=1:=by kernel_rfl
theorem cellsRows:Tryz.prog.cellsOf 26=1:=by kernel_rfl
section
variable {H:Type} {enc:TypeId × Value→H} {w:World} {held:Bool} {spare:Nat→Bool}
theorem readLine {fuel:Nat} {c0 c1 c2 c3:Value} {x:DataW H × List MemPlace} (h:DataW.trod enc Tryz.prog w 0 spare held fuel 59 [c0,c1,c2,c3]=some x):∃ y:Hd,c0 = .int .i64 y.o∧c1 = .int .i64 y.l∧c2 = .int .i64 y.b∧c3 = .int .i64 y.n:=by
 obtain ⟨y0,y1,y2,y3,n,hx,hl,h0,h1,h2,h3⟩:=trod_struct4 Tryz.underlying59 h
 simp only [cellsInt,List.drop_succ_cons,List.drop_zero,List.take_succ_cons,List.take_zero] at h0 h1 h2 h3
 obtain ⟨n0,e0,_⟩:=DataW.trod_int Tryz.underlying3 h0
 obtain ⟨n1,e1,_⟩:=DataW.trod_int Tryz.underlying3 h1
 obtain ⟨n2,e2,_⟩:=DataW.trod_int Tryz.underlying3 h2
 obtain ⟨n3,e3,_⟩:=DataW.trod_int Tryz.underlying3 h3
 simp only [List.cons.injEq,and_true] at e0 e1 e2 e3
 exact ⟨⟨n0,n1,n2,n3⟩,e0,e1,e2,e3⟩
theorem readLines {fuel:Nat} {cs:List Value} {x:DataW H × List MemPlace} (h:DataW.trod enc Tryz.prog w 0 spare held fuel 45 cs=some x):∃ s:Hs,cs=[s.val]∧s.At w:=by
 rcases open_slice Tryz.underlying45 h with ⟨rfl,_⟩ | ⟨a,len,cap,m,n,D,Pl,rfl,hb,hl,hm,hmm,_,hx⟩
 ·exact ⟨⟨none,0,0,fun _=>⟨0,0,0,0⟩⟩,rfl,Nat.le_refl _,Nat.zero_le _,fun i hi=>absurd hi (Nat.not_lt_zero _),fun _=>rfl⟩
 ·have hlm:len≤m:=by rw [hmm];split<;>omega
  rw [cellsLine] at hx
  haveI:Inhabited Hd:=⟨⟨0,0,0,0⟩⟩
  obtain ⟨z,hz⟩:=choose_lt (α:=Hd) (n:=len) (p:=fun i y=>w.cell? (a.add (i*4))=some (.int .i64 y.o)∧w.cell? (a.add (i*4+1))=some (.int .i64 y.l)∧w.cell? (a.add (i*4+2))=some (.int .i64 y.b)∧w.cell? (a.add (i*4+3))=some (.int .i64 y.n)) (fun i hi=>by
   obtain ⟨cs',hc,ht⟩:=hx i (by omega)
   obtain ⟨c0,c1,c2,c3,rfl,k0,k1,k2,k3⟩:=cells4 hc
   obtain ⟨y,rfl,rfl,rfl,rfl⟩:=readLine ht
   rw [add_add] at k1 k2 k3
   exact ⟨y,k0,k1,k2,k3⟩)
  refine ⟨⟨some a,len,cap,z⟩,rfl,hl,hm,fun i hi => ?_,fun h=>by cases h⟩
  have hi':i<len:=hi
  have h0:∃ v0,w.cell? a=some v0:=⟨_,by have:=(hz 0 (by omega)).1;simpa [Addr.add] using this⟩
  obtain ⟨k0,k1,k2,k3⟩:=hz i hi'
  obtain ⟨b,o,rfl,hb',e0⟩:=addrOf k0 h0
  rw [Go.WideShapes.add_plain] at k1 k2 k3
  exact ⟨b,o,rfl,hb',e0,by rw [Nat.add_assoc];exact k1,by rw [Nat.add_assoc];exact k2,by rw [Nat.add_assoc];exact k3⟩
theorem readMove {fuel:Nat} {c0 c1 c2 c3:Value} {x:DataW H × List MemPlace} (h:DataW.trod enc Tryz.prog w 0 spare held fuel 63 [c0,c1,c2,c3]=some x):∃ y:Hd,c0 = .int .i64 y.o∧c1 = .int .i64 y.l∧c2 = .int .i64 y.b∧c3 = .int .i64 y.n:=by
 obtain ⟨y0,y1,y2,y3,n,hx,hl,h0,h1,h2,h3⟩:=trod_struct4 Tryz.underlying63 h
 simp only [cellsInt,List.drop_succ_cons,List.drop_zero,List.take_succ_cons,List.take_zero] at h0 h1 h2 h3
 obtain ⟨n0,e0,_⟩:=DataW.trod_int Tryz.underlying3 h0
 obtain ⟨n1,e1,_⟩:=DataW.trod_int Tryz.underlying3 h1
 obtain ⟨n2,e2,_⟩:=DataW.trod_int Tryz.underlying3 h2
 obtain ⟨n3,e3,_⟩:=DataW.trod_int Tryz.underlying3 h3
 simp only [List.cons.injEq,and_true] at e0 e1 e2 e3
 exact ⟨⟨n0,n1,n2,n3⟩,e0,e1,e2,e3⟩
theorem readMoves {fuel:Nat} {cs:List Value} {x:DataW H × List MemPlace} (h:DataW.trod enc Tryz.prog w 0 spare held fuel 29 cs=some x):∃ s:Hs,cs=[s.val]∧s.At w:=by
 rcases open_slice Tryz.underlying29 h with ⟨rfl,_⟩ | ⟨a,len,cap,m,n,D,Pl,rfl,hb,hl,hm,hmm,_,hx⟩
 ·exact ⟨⟨none,0,0,fun _=>⟨0,0,0,0⟩⟩,rfl,Nat.le_refl _,Nat.zero_le _,fun i hi=>absurd hi (Nat.not_lt_zero _),fun _=>rfl⟩
 ·have hlm:len≤m:=by rw [hmm];split<;>omega
  rw [cellsMove] at hx
  haveI:Inhabited Hd:=⟨⟨0,0,0,0⟩⟩
  obtain ⟨z,hz⟩:=choose_lt (α:=Hd) (n:=len) (p:=fun i y=>w.cell? (a.add (i*4))=some (.int .i64 y.o)∧w.cell? (a.add (i*4+1))=some (.int .i64 y.l)∧w.cell? (a.add (i*4+2))=some (.int .i64 y.b)∧w.cell? (a.add (i*4+3))=some (.int .i64 y.n)) (fun i hi=>by
   obtain ⟨cs',hc,ht⟩:=hx i (by omega)
   obtain ⟨c0,c1,c2,c3,rfl,k0,k1,k2,k3⟩:=cells4 hc
   obtain ⟨y,rfl,rfl,rfl,rfl⟩:=readMove ht
   rw [add_add] at k1 k2 k3
   exact ⟨y,k0,k1,k2,k3⟩)
  refine ⟨⟨some a,len,cap,z⟩,rfl,hl,hm,fun i hi => ?_,fun h=>by cases h⟩
  have hi':i<len:=hi
  have h0:∃ v0,w.cell? a=some v0:=⟨_,by have:=(hz 0 (by omega)).1;simpa [Addr.add] using this⟩
  obtain ⟨k0,k1,k2,k3⟩:=hz i hi'
  obtain ⟨b,o,rfl,hb',e0⟩:=addrOf k0 h0
  rw [Go.WideShapes.add_plain] at k1 k2 k3
  exact ⟨b,o,rfl,hb',e0,by rw [Nat.add_assoc];exact k1,by rw [Nat.add_assoc];exact k2,by rw [Nat.add_assoc];exact k3⟩
theorem cells2 {base:Nat} {a:Addr} {cs:List Value} (h:w.cells? base a 2=some cs):∃ c0 c1,cs=[c0,c1]∧w.cell? a=some c0∧w.cell? (a.add 1)=some c1:=by
 obtain ⟨_,hlen,hc⟩:=World.cells?_some h
 match cs,hlen with
 | [c0,c1],_ =>
  refine ⟨c0,c1,rfl,?_,?_⟩
  ·simpa [Addr.add] using hc 0 (by decide)
  ·simpa using hc 1 (by decide)
theorem readOrder {fuel:Nat} {c0 c1:Value} {x:DataW H × List MemPlace} (h:DataW.trod enc Tryz.prog w 0 spare held fuel 57 [c0,c1]=some x):∃ y:Od,c0 = .int .i64 y.k∧c1 = .slice y.ls.a y.ls.n y.ls.c∧y.ls.At w:=by
 obtain ⟨y0,y1,n,hx,hl,h0,h1⟩:=trod_struct2 Tryz.underlying57 h
 simp only [cellsInt,cellsLines,List.drop_succ_cons,List.drop_zero,List.take_succ_cons,List.take_zero] at h0 h1
 obtain ⟨n0,e0,_⟩:=DataW.trod_int Tryz.underlying3 h0
 obtain ⟨s,e1,hs⟩:=readLines h1
 simp only [List.cons.injEq,and_true] at e0 e1
 exact ⟨⟨n0,s⟩,e0,e1,hs⟩
theorem readOrders {fuel:Nat} {cs:List Value} {x:DataW H × List MemPlace} (h:DataW.trod enc Tryz.prog w 0 spare held fuel 27 cs=some x):∃ s:Go.Proofs.YtbcacebifpagpagGreat.Os,cs=[s.val]∧s.At w:=by
 rcases open_slice Tryz.underlying27 h with ⟨rfl,_⟩ | ⟨a,len,cap,m,n,D,Pl,rfl,hb,hl,hm,hmm,_,hx⟩
 ·exact ⟨⟨none,0,0,fun _=>⟨0,⟨none,0,0,fun _=>⟨0,0,0,0⟩⟩⟩⟩,rfl,Nat.le_refl _,Nat.zero_le _,fun i hi=>absurd hi (Nat.not_lt_zero _)⟩
 ·have hlm:len≤m:=by rw [hmm];split<;>omega
  rw [cellsOrder] at hx
  haveI:Inhabited Od:=⟨⟨0,⟨none,0,0,fun _=>⟨0,0,0,0⟩⟩⟩⟩
  obtain ⟨z,hz⟩:=choose_lt (α:=Od) (n:=len) (p:=fun i y=>w.cell? (a.add (i*2))=some (.int .i64 y.k)∧w.cell? (a.add (i*2+1))=some (.slice y.ls.a y.ls.n y.ls.c)∧y.ls.At w) (fun i hi=>by
   obtain ⟨cs',hc,ht⟩:=hx i (by omega)
   obtain ⟨c0,c1,rfl,k0,k1⟩:=cells2 hc
   obtain ⟨y,rfl,rfl,hy⟩:=readOrder ht
   rw [add_add] at k1
   exact ⟨y,k0,k1,hy⟩)
  refine ⟨⟨some a,len,cap,z⟩,rfl,hl,hm,fun i hi => ?_⟩
  have hi':i<len:=hi
  have h0:∃ v0,w.cell? a=some v0:=⟨_,by have:=(hz 0 (by omega)).1;simpa [Addr.add] using this⟩
  obtain ⟨k0,k1,hy⟩:=hz i hi'
  obtain ⟨b,o,rfl,hb',e0⟩:=addrOf k0 h0
  rw [Go.WideShapes.add_plain] at k1
  exact ⟨b,o,rfl,hb',e0,by rw [Nat.add_assoc];exact k1,hy⟩
theorem array7 {α:Type} {cs:Array α} (h:cs.size=7):∃ c0 c1 c2 c3 c4 c5 c6,cs=#[c0,c1,c2,c3,c4,c5,c6]:=by
 obtain ⟨l⟩:=cs
 match l,h with
 | [c0,c1,c2,c3,c4,c5,c6],_=>exact ⟨c0,c1,c2,c3,c4,c5,c6,rfl⟩
theorem openState {r:Reach} {b0:Nat} {v:Value} {d:DataW H} {ps:List MemPlace} (hv:Value.okWide Tryz.prog w r b0 31 v) (h:DataW.Trod enc Tryz.prog w 0 spare held 31 v d ps):∃ s:St,v=s.val∧s.At w:=by
 obtain ⟨cs,rfl,hsz⟩:=okWide_struct Tryz.underlying31 hv
 obtain ⟨c0,c1,c2,c3,c4,c5,c6,rfl⟩:=array7 (hsz.trans cellsState)
 obtain ⟨fuel,hf⟩:=h
 obtain ⟨xs,n,_,hx,hl,hlen,hg⟩:=DataW.trod_struct Tryz.underlying31 hf
 match xs,hlen with
 | [y0,y1,y2,y3,y4,y5,y6],_ =>
  have k0:=hg 0 _ rfl
  have k1:=hg 1 _ rfl
  have k2:=hg 2 _ rfl
  have k3:=hg 3 _ rfl
  have k4:=hg 4 _ rfl
  have k5:=hg 5 _ rfl
  have k6:=hg 6 _ rfl
  simp [cellsRows,cellsOrders,cellsHolds,cellsMoves,cellsInts,Value.cells] at k0 k1 k2 k3 k4 k5 k6
  obtain ⟨on,e0,h0⟩:=readRows k0
  obtain ⟨os,e1,h1⟩:=readOrders k1
  obtain ⟨hs,e2,h2⟩:=HoldsFrames.readHolds k2
  obtain ⟨ms,e3,h3⟩:=readMoves k3
  obtain ⟨si,e4,h4⟩:=readInts k4
  obtain ⟨so,e5,h5⟩:=readInts k5
  obtain ⟨sf,e6,h6⟩:=readInts k6
  simp only [List.cons.injEq,and_true] at e0 e1 e2 e3 e4 e5 e6
  subst e0 e1 e2 e3 e4 e5 e6
  exact ⟨⟨on,os,hs,ms,si,so,sf⟩,rfl,h0,h1,h2,h3,h4,h5,h6⟩
end
set_option maxRecDepth 100000
theorem cellsAct:Tryz.prog.cellsOf 47=6:=by kernel_rfl
section
variable {H:Type} {enc:TypeId × Value→H} {w:World} {held:Bool} {spare:Nat→Bool}
theorem array6 {α:Type} {cs:Array α} (h:cs.size=6):∃ c0 c1 c2 c3 c4 c5,cs=#[c0,c1,c2,c3,c4,c5]:=by
 obtain ⟨l⟩:=cs
 match l,h with
 | [c0,c1,c2,c3,c4,c5],_=>exact ⟨c0,c1,c2,c3,c4,c5,rfl⟩
theorem openAct {r:Reach} {b0:Nat} {v:Value} {d:DataW H} {ps:List MemPlace} (hv:Value.okWide Tryz.prog w r b0 47 v) (h:DataW.Trod enc Tryz.prog w 0 spare held 47 v d ps):∃ x:Ax,v=x.val∧x.ls.At w:=by
 obtain ⟨cs,rfl,hsz⟩:=okWide_struct Tryz.underlying47 hv
 obtain ⟨c0,c1,c2,c3,c4,c5,rfl⟩:=array6 (hsz.trans cellsAct)
 obtain ⟨fuel,hf⟩:=h
 obtain ⟨xs,n,_,hx,hl,hlen,hg⟩:=DataW.trod_struct Tryz.underlying47 hf
 match xs,hlen with
 | [y0,y1,y2,y3,y4,y5],_ =>
  have k0:=hg 0 _ rfl
  have k1:=hg 1 _ rfl
  have k2:=hg 2 _ rfl
  have k3:=hg 3 _ rfl
  have k4:=hg 4 _ rfl
  have k5:=hg 5 _ rfl
  simp [cellsInt,cellsLines,Value.cells] at k0 k1 k2 k3 k4 k5
  obtain ⟨n0,e0,_⟩:=DataW.trod_int Tryz.underlying3 k0
  obtain ⟨n1,e1,_⟩:=DataW.trod_int Tryz.underlying3 k1
  obtain ⟨n2,e2,_⟩:=DataW.trod_int Tryz.underlying3 k2
  obtain ⟨n3,e3,_⟩:=DataW.trod_int Tryz.underlying3 k3
  obtain ⟨n4,e4,_⟩:=DataW.trod_int Tryz.underlying3 k4
  obtain ⟨ls,e5,h5⟩:=readLines k5
  simp only [List.cons.injEq,and_true] at e0 e1 e2 e3 e4 e5
  subst e0 e1 e2 e3 e4 e5
  exact ⟨⟨n0,n1,n2,n3,n4,ls⟩,rfl,h5⟩
end
end Go.Proofs.YtbcacebifpagpagGreat

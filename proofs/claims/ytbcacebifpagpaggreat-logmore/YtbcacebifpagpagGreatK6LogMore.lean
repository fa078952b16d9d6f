/- Texts that were built one behind the other, joined; what LogMore does not reach is left out. -/
import Derived.Test.YtbcacebifpagpagGreatK5LogMore
import Derived.Test.YtbcacebifpagpagGreatRows
import Derived.ProofKit
import Derived.OpenShut
import Derived.Lib.SmallJoins
import Derived.Deep.Slices
import Derived.SizedLaws
import Derived.ChangeMaps5
namespace Go.Proofs.YtbcacebifpagpagGreat
open Go.RowKit Go.Shelf Go.Sort
set_option linter.unusedVariables false
def lx1:Ax:=⟨1,1,0,0,5,⟨none,0,0,fun _=>⟨0,0,0,0⟩⟩⟩
def lx2 (B:Nat):Ax:=⟨2,0,0,0,0,⟨some ⟨B,0,none⟩,1,1,fun _=>⟨1,9,0,0⟩⟩⟩
def lx3:Ax:=⟨0,0,0,0,256,⟨none,0,0,fun _=>⟨0,0,0,0⟩⟩⟩
def lx0:Ax:=⟨0,0,0,0,0,⟨none,0,0,fun _=>⟨0,0,0,0⟩⟩⟩
def lt1:List UInt8:=[1,1,0,0,5,0]
def lt2:List UInt8:=[2,0,0,0,0,1,1,9,0,0]
def lt12:List UInt8:=[1,1,0,0,5,0,2,0,0,0,0,1,1,9,0,0]
def lt3:List UInt8:=[1,1,0,0,5,0,2,0,0,0,0,1,1,9,0,0,1]
theorem lw1:writeL lx1=lt1∧writeE lx1=0:=⟨by kernel_rfl,by kernel_rfl⟩
theorem lw2 (B:Nat):writeL (lx2 B)=lt2∧writeE (lx2 B)=0:=⟨by kernel_rfl,by kernel_rfl⟩
theorem lw3:writeE lx3=3:=by kernel_rfl
theorem lr3:repN lt3=16∧repE lt3=0∧(repL lt3).length=2:=⟨by kernel_rfl,by kernel_rfl,by kernel_rfl⟩
theorem lrec (g1 g2:Nat):recE (yardP g1 g2) lt12=0∧recN (yardP g1 g2) lt12=2:=⟨by kernel_rfl,by kernel_rfl⟩
def begZ9:St:=⟨⟨none,3,3,fun _=>⟨none,2,2,fun _=>0⟩⟩,⟨none,0,0,fun _=>⟨0,⟨none,0,0,fun _=>⟨0,0,0,0⟩⟩⟩⟩,⟨none,0,0,fun _=>⟨0,0,0,0⟩⟩,⟨none,0,0,fun _=>⟨0,0,0,0⟩⟩,⟨none,2,2,fun _=>0⟩,⟨none,2,2,fun _=>0⟩,⟨none,2,2,fun _=>0⟩⟩
theorem begZ9_is (g1 g2:Nat):BegunS (yardP g1 g2) begZ9:=⟨rfl,fun _ _=>⟨rfl,fun _ _=>rfl⟩,rfl,rfl,rfl,⟨rfl,fun _ _=>rfl⟩,⟨rfl,fun _ _=>rfl⟩,⟨rfl,fun _ _=>rfl⟩⟩
def lastT (g1 g2:Nat):St:=doneT (yardP g1 g2) begZ9 (repL lt12)
theorem SameL.self:∀ l:List Ax,SameL l l
 | []=>trivial
 | x :: l=>⟨SameA.self x,SameL.self l⟩
theorem recB {g1 g2:Nat} {y:St} (h:RecOK (yardP g1 g2) lt12 y):1<y.on.n∧0<(y.on.r 1).n∧(y.on.r 1).z 0=5∧y.os.n=1:=by
 obtain ⟨s0,hb,hs⟩:=h.1 (lrec g1 g2).1
 have e:SameT y (lastT g1 g2):=hs.trans (doneT_same (rightT (begun_state (p:=(yardP g1 g2)) (by kernel_rfl) (begZ9_is g1 g2))) (begun_sameF hb (begZ9_is g1 g2)) (SameL.self _))
 have a1:1<y.on.n:=by rw [e.on.1];exact of_decide_eq_true (by kernel_rfl)
 have b1:0<(y.on.r 1).n:=by rw [(e.on.2 1 a1).1];exact of_decide_eq_true (by kernel_rfl)
 have c1:(y.on.r 1).z 0=5:=by rw [(e.on.2 1 a1).2 0 b1];kernel_rfl
 have a2:y.os.n=1:=by rw [e.os.1];kernel_rfl
 exact ⟨a1,b1,c1,a2⟩
theorem lx2_at (w:World):(lx2 w.heap.size).ls.At (w.alloc (.cells #[.int .i64 1,.int .i64 9,.int .i64 0,.int .i64 0] 59)):=by
 have K:=Blk.new w #[.int .i64 1,.int .i64 9,.int .i64 0,.int .i64 0] 59
 refine ⟨Nat.le_refl _,by show 1≤maxLen;unfold maxLen;omega,fun i hi => ?_,fun h=>by cases h⟩
 have h0:i=0:=by have hi':i<1:=hi;omega
 subst h0
 exact ⟨w.heap.size,0,rfl,K.lt,K.cell (j:=0) (by decide),K.cell (j:=1) (by decide),K.cell (j:=2) (by decide),K.cell (j:=3) (by decide)⟩
set_option maxRecDepth 100000 in
set_option maxHeartbeats 8000000 in
theorem logBegun_any (w:World):Calls Tryz.prog 12 #[] w fun e w'=>e = .returned (.bool true)∧Below w.heap.size w w':=by
 have s1:(⟨lt1.toArray⟩:ByteArray).size=6:=rfl
 have s2:(⟨lt2.toArray⟩:ByteArray).size=10:=rfl
 have s12:(⟨lt12.toArray⟩:ByteArray).size=16:=rfl
 have a12:(⟨lt1.toArray⟩:ByteArray)++⟨lt2.toArray⟩=⟨lt12.toArray⟩:=by rw [ByteArray.mk_append_mk];rfl
 have a3:(⟨lt12.toArray⟩:ByteArray)++⟨#[1]⟩=⟨lt3.toArray⟩:=by show (⟨lt12.toArray⟩:ByteArray)++⟨([1]:List UInt8).toArray⟩=_;rw [ByteArray.mk_append_mk];rfl
 have e1:((⟨lt1.toArray⟩:ByteArray).toList==(⟨#[1,1,0,0,5,0]⟩:ByteArray).toList)=true:=by kernel_rfl
 go_enter Tryz.func12,Tryz.ntmps12
 go_wp2_with fail
 refine (Write_any lx1 w (Hs.none w) (Nat.zero_le _)).mono ?_
 rintro e w1 ⟨rfl,hB⟩
 have HB1:Hid (Below w.heap.size w w1):=hB
 clear hB
 rw [lw1.1,lw1.2]
 go_wp2_with fail
 refine (Write_any (lx2 w1.heap.size) (w1.alloc (.cells #[.int .i64 1,.int .i64 9,.int .i64 0,.int .i64 0] 59)) (lx2_at w1) (by show 1≤_;omega)).mono ?_
 rintro e w2 ⟨rfl,hB⟩
 have HB2:Hid (Below w.heap.size w w2):=HB1.out.trans (((Below.refl _ _).alloc HB1.out.size _).trans (hB.mono (by simp;have:=HB1.out.size;omega)))
 clear hB HB1
 rw [(lw2 w1.heap.size).1,(lw2 w1.heap.size).2]
 go_wp2_with fail
 refine (Replay_any lt3 w2).mono ?_
 rintro e w3 ⟨acts,rfl,an,-,-,hB⟩
 have HB3:Hid (Below w.heap.size w w3):=HB2.out.trans (hB.mono HB2.out.size)
 have an2:(acts.n:Int)=2:=by rw [an,lr3.2.2];rfl
 clear hB HB2 an
 rw [lr3.1,lr3.2.1]
 simp only [As.val]
 go_wp2_with fail
 refine (yard_any w3).mono ?_
 rintro e w4 ⟨g1,g2,rfl,-,-,k1,k2,hB⟩
 have HB4:Hid (Below w.heap.size w w4):=HB3.out.trans (hB.mono HB3.out.size)
 have HY4:Hid ((yardP g1 g2).At w4):=yardAt k1 k2
 clear hB HB3 k1 k2
 go_wp2_with fail
 refine (Recover_any (yardP g1 g2) lt12 w4 HY4.out).mono ?_
 rintro e w5 ⟨y,rfl,yat,yok,hB⟩
 have HB5:Hid (Below w.heap.size w w5):=HB4.out.trans (hB.mono HB4.out.size)
 have HY:Hid (y.At w5):=yat
 have HYR:Hid (1<y.on.n∧0<(y.on.r 1).n∧(y.on.r 1).z 0=5∧y.os.n=1):=recB yok
 rw [(lrec g1 g2).1,(lrec g1 g2).2]
 clear hB HB4 HY4 yat yok
 simp only [St.val]
 go_wp2_with fail
 obtain ⟨W6,hW6,hB6,KY⟩:∃ W,w5.alloc (.cells #[.slice y.on.a y.on.n y.on.c,.slice y.os.a y.os.n y.os.c,.slice y.hs.a y.hs.n y.hs.c,.slice y.ms.a y.ms.n y.ms.c,.slice y.si.a y.si.n y.si.c,.slice y.so.a y.so.n y.so.c,.slice y.sf.a y.sf.n y.sf.c] 31)=W∧Below w5.heap.size w5 W∧Blk W w5.heap.size 31 7 (fun j=>y.cells.getD j default):=⟨_,rfl,(Below.refl _ _).alloc (Nat.le_refl _) _,Blk.mk' rfl rfl⟩
 rw [hW6]
 have HB6:Hid (Below w.heap.size w W6):=HB5.out.trans (hB6.mono HB5.out.size)
 have HK6:Hid (y.At W6∧Blk W6 w5.heap.size 31 7 (fun j=>y.cells.getD j default)):=⟨HY.out.below hB6,KY⟩
 clear hW6 hB6 KY HB5 HY
 refine (Write_any lx3 W6 (Hs.none W6) (Nat.zero_le _)).mono ?_
 rintro e w7 ⟨rfl,hB⟩
 have HB7:Hid (Below w.heap.size w w7):=HB6.out.trans (hB.mono HB6.out.size)
 have HK7:Hid (y.At w7∧Blk w7 w5.heap.size 31 7 (fun j=>y.cells.getD j default)):=⟨HK6.out.1.below hB,HK6.out.2.below hB⟩
 clear hB HB6 HK6
 rw [lw3]
 go_wp2_with fail
 refine (yard_any w7).mono ?_
 rintro e w8 ⟨g3,g4,rfl,-,-,k1,k2,hB⟩
 have HB8:Hid (Below w.heap.size w w8):=HB7.out.trans (hB.mono HB7.out.size)
 have HK8:Hid (y.At w8∧Blk w8 w5.heap.size 31 7 (fun j=>y.cells.getD j default)):=⟨HK7.out.1.below hB,HK7.out.2.below hB⟩
 have HY8:Hid ((yardP g3 g4).At w8):=yardAt k1 k2
 clear hB HB7 HK7 k1 k2
 go_wp2_with fail
 refine (busy_any w8).mono ?_
 rintro e w9 ⟨g,rfl,-,hb,hB⟩
 have HB9:Hid (Below w.heap.size w w9):=HB8.out.trans (hB.mono HB8.out.size)
 have HK9:Hid (y.At w9∧Blk w9 w5.heap.size 31 7 (fun j=>y.cells.getD j default)):=⟨HK8.out.1.below hB,HK8.out.2.below hB⟩
 have HY9:Hid ((yardP g3 g4).At w9∧(busyS g 2 0).At w9):=⟨HY8.out.below hB,busyAt hb⟩
 clear hB hb HB8 HK8 HY8
 go_wp2_with fail
 refine (Do_any (yardP g3 g4) (busyS g 2 0) lx0 w9 HY9.out.1 HY9.out.2 (Hs.none w9)).mono ?_
 rintro e wa ⟨v,rfl,-,-,-,hB⟩
 have HBa:Hid (Below w.heap.size w wa):=HB9.out.trans (hB.mono HB9.out.size)
 have HKa:Hid (y.At wa∧Blk wa w5.heap.size 31 7 (fun j=>y.cells.getD j default)):=⟨HK9.out.1.below hB,HK9.out.2.below hB⟩
 clear hB HB9 HK9 HY9
 rw [show doE (yardP g3 g4) (busyS g 2 0) lx0=8 from rfl]
 simp only [St.val]
 obtain ⟨Wb,hWb,hBb⟩:∃ W,wa.alloc (.cells #[.slice v.on.a v.on.n v.on.c,.slice v.os.a v.os.n v.os.c,.slice v.hs.a v.hs.n v.hs.c,.slice v.ms.a v.ms.n v.ms.c,.slice v.si.a v.si.n v.si.c,.slice v.so.a v.so.n v.so.c,.slice v.sf.a v.sf.n v.sf.c] 31)=W∧Below wa.heap.size wa W:=⟨_,rfl,(Below.refl _ _).alloc (Nat.le_refl _) _⟩
 have HWb:Hid (wa.alloc (.cells #[.slice v.on.a v.on.n v.on.c,.slice v.os.a v.os.n v.os.c,.slice v.hs.a v.hs.n v.hs.c,.slice v.ms.a v.ms.n v.ms.c,.slice v.si.a v.si.n v.si.c,.slice v.so.a v.so.n v.so.c,.slice v.sf.a v.sf.n v.sf.c] 31)=Wb):=hWb
 have HBF:Hid (Below w.heap.size w Wb):=HBa.out.trans (hBb.mono HBa.out.size)
 obtain ⟨m1,p0,p1,p2,p3,p4,p5,p6⟩:=Boxed.of (HKa.out.2.below hBb)
 obtain ⟨r1,r2,r3,r4⟩:=HYR.out
 obtain ⟨ob,oo,oa,ol,oc,orw⟩:=(HKa.out.1.below hBb).on.rows 1 r1
 obtain ⟨ib,io,ia,il,ic⟩:=orw.ints 0 r2
 rw [r3,Nat.add_zero] at ic
 rw [oa] at p0
 rw [ia] at oc
 have q1:(1:Int)<(y.on.n:Int):=by omega
 have q2:(0:Int)<((y.on.r 1).n:Int):=by omega
 have q4:(y.os.n:Int)=1:=by omega
 clear r1 r2 r3 r4 HYR HKa HBa hBb hWb oa ia orw
 rw [← HWb.out] at m1 p0 p1 p2 p3 p4 p5 p6 ol oc il ic
 go_wp2_with fail
 rw [HWb.out]
 go_ret
 exact ⟨by simp,HBF.out⟩
theorem SameA.symm {x y:Ax} (h:SameA x y):SameA y x:=⟨h.k.symm,h.a.symm,h.b.symm,h.c.symm,h.n.symm,h.ln.symm,fun j hj=>(h.lz j (by rw [← h.ln];exact hj)).symm⟩
theorem rep_more {t:List UInt8} {x:Ax} (ht:t.length≤4096) (hx:writeE x=0) (hN:repN t=t.length) (hL:(repL t).length<60) (h2:t.length+(writeB x).length≤4096):repE (t++writeB x)=0∧∃ a,SameA a x∧repL (t++writeB x)=repL t++[a]:=by
 have e1:repL t=(repF t 60 0).1:=if_neg (by omega)
 have e2:repN t=(repF t 60 0).2:=if_neg (by omega)
 have e3:(t++writeB x).length=t.length+(writeB x).length:=List.length_append
 obtain ⟨h1,hs,hz⟩:=rd_write hx []
 rw [List.append_nil] at h1 hs hz
 have e4:repL (t++writeB x)=(repF (t++writeB x) 60 0).1:=if_neg (by omega)
 have e5:=repF_app t (writeB x) 60 0 (e2.symm.trans hN) (by rw [← e1];exact hL)
 refine ⟨if_neg (by omega),rdA (writeB x) 0,hs,?_⟩
 rw [e4,e5,e1]
 rw [e1] at hL
 generalize (repF t 60 0).1=L at *
 congr 1
 obtain ⟨m,hm⟩:∃ m,60 - L.length=m+1:=⟨60 - L.length - 1,by omega⟩
 rw [hm,repF_yes h1,hz,Nat.zero_add,repF_no]
 cases c:rdOK (writeB x) (writeB x).length
 ·rfl
 ·have:=(rdOK_iff.1 c).1
  omega
theorem rec_zero {p:Pl} {t:List UInt8} (h:recE p t=0):planE p=0∧repE t=0∧t.length≤4096:=by
 unfold recE at h
 by_cases c:planE p=0
 ·rw [if_pos c] at h
  refine ⟨c,h,?_⟩
  unfold repE at h
  by_cases d:4096<t.length
  ·rw [if_pos d] at h;cases h
  ·omega
 ·rw [if_neg c] at h;exact absurd h c
theorem more_same {p:Pl} {t:List UInt8} {x:Ax} {y u:St} (h0:recE p t=0) (hx:writeE x=0) (hN:repN t=t.length) (hL:(repL t).length<60) (h2:t.length+(writeB x).length≤4096) (hy:RecOK p t y) (hu:RecOK p (t++writeB x) u) :
  recE p (t++writeB x)=0∧recN p (t++writeB x)=recN p t+1∧RightT p u∧(∀ v,ActOK (doE p y x) (doT p y x) v→doE p y x=0→SameT u v)∧(¬ doE p y x=0→SameT u y):=by
 obtain ⟨hp,hr,ht⟩:=rec_zero h0
 obtain ⟨e1,a,ha,e2⟩:=rep_more ht hx hN hL h2
 have e3:recE p (t++writeB x)=0:=by unfold recE;rw [if_pos hp];exact e1
 have e4:recN p (t++writeB x)=(repL t).length+1:=by unfold recN;rw [if_pos e3,e2];simp
 have e5:recN p t=(repL t).length:=if_pos h0
 obtain ⟨s0,b0,hy0⟩:=hy.1 h0
 obtain ⟨s1,b1,hu1⟩:=hu.1 e3
 have r0:RightT p s0:=rightT (begun_state hp b0)
 have r1:RightT p s1:=rightT (begun_state hp b1)
 rw [e2,doneT_app] at hu1
 have hd:=doneT_same r0 (begun_sameF b1 b0) (SameL.self (repL t))
 have hu2:SameT u (doneS p (doneT p s0 (repL t)) a):=hu1.trans (doneS_same (doneT_right (repL t) r0) hd (SameA.self a))
 have hR:RightT p u:=hu2.right (doneS_right (doneT_right (repL t) r0))
 refine ⟨e3,by rw [e4,e5],hR,fun v hv hE => ?_,fun hE => ?_⟩
 ·exact hu2.trans ((rec_step (doneT_right (repL t) r0) hy0 ha.symm hv).1 hE).symm
 ·have k:=doneS_same (doneT_right (repL t) r0) hy0 ha.symm
  unfold doneS at k
  rw [if_neg hE] at k
  exact hu2.trans k.symm
set_option maxRecDepth 100000 in
set_option maxHeartbeats 8000000 in
theorem LogMore_walk (p:Pl) (t:List UInt8) (x:Ax) (w:World) (hp:p.At w) (hx:x.ls.At w) (hn:x.ls.n≤8796093022208) :
  Calls Tryz.prog 5 #[p.val,.string ⟨t.toArray⟩,x.val] w fun e w'=>e = .returned (.bool true)∧Below w.heap.size w w':=by
 obtain ⟨W0,hW,hWB,X0,XA⟩:∃ W,(w.alloc (.cells #[.slice p.ab p.nb p.cb,.slice p.sa p.ns p.cs] 25)).alloc (.cells x.cells 47)=W∧Below w.heap.size w W∧Blk W w.heap.size 25 2 (fun j=>(#[.slice p.ab p.nb p.cb,.slice p.sa p.ns p.cs]:Array Value).getD j default)∧Blk W (w.heap.size+1) 47 6 (fun j=>x.cells.getD j default):=⟨_,rfl,two_below _ _ _,(Blk.mk' rfl rfl).alloc _,Blk.mk' (cur:=x.cells) (by simp) rfl⟩
 have HC:Hid (∀ wk,Below W0.heap.size W0 wk→Blk wk w.heap.size 25 2 (fun j=>(#[.slice p.ab p.nb p.cb,.slice p.sa p.ns p.cs]:Array Value).getD j default)∧Blk wk (w.heap.size+1) 47 6 (fun j=>x.cells.getD j default)∧p.At wk∧x.ls.At wk∧Below w.heap.size w wk):=fun wk h=>⟨X0.below h,XA.below h,(hp.below hWB).below h,(hx.below hWB).below h,hWB.trans (h.mono hWB.size)⟩
 have HW:Hid ((w.alloc (.cells #[.slice p.ab p.nb p.cb,.slice p.sa p.ns p.cs] 25)).alloc (.cells #[.int .i64 x.k,.int .i64 x.a,.int .i64 x.b,.int .i64 x.c,.int .i64 x.n,.slice x.ls.a x.ls.n x.ls.c] 47)=W0):=hW
 have HN:Hid (x.ls.n≤8796093022208):=hn
 have HB0:Hid (Below W0.heap.size W0 W0):=Below.refl _ _
 have tl:((⟨t.toArray⟩:ByteArray).size)=t.length:=by simp [ByteArray.size]
 clear hW X0 XA hp hx hWB hn
 unfold Pl.val Ax.val Ax.cells
 go_enter Tryz.func5,Tryz.ntmps5
 go_wp2_with fail
 rw [HW.out]
 clear HW
 refine (Recover_any p t W0 (HC.out W0 HB0.out).2.2.1).mono ?_
 rintro e w1 ⟨y,rfl,yat,yok,hB⟩
 have HYOK:Hid (RecOK p t y):=yok
 have HB1:Hid (Below W0.heap.size W0 w1):=HB0.out.trans (hB.mono HB0.out.size)
 obtain ⟨W2,hW2,hB2,KY⟩:∃ W,w1.alloc (.cells #[.slice y.on.a y.on.n y.on.c,.slice y.os.a y.os.n y.os.c,.slice y.hs.a y.hs.n y.hs.c,.slice y.ms.a y.ms.n y.ms.c,.slice y.si.a y.si.n y.si.c,.slice y.so.a y.so.n y.so.c,.slice y.sf.a y.sf.n y.sf.c] 31)=W∧Below w1.heap.size w1 W∧Blk W w1.heap.size 31 7 (fun j=>y.cells.getD j default):=⟨_,rfl,(Below.refl _ _).alloc (Nat.le_refl _) _,Blk.mk' rfl rfl⟩
 have HW2:Hid (w1.alloc (.cells #[.slice y.on.a y.on.n y.on.c,.slice y.os.a y.os.n y.os.c,.slice y.hs.a y.hs.n y.hs.c,.slice y.ms.a y.ms.n y.ms.c,.slice y.si.a y.si.n y.si.c,.slice y.so.a y.so.n y.so.c,.slice y.sf.a y.sf.n y.sf.c] 31)=W2):=hW2
 have HB2:Hid (Below W0.heap.size W0 W2):=HB1.out.trans (hB2.mono HB1.out.size)
 have HY2:Hid (y.At W2∧Blk W2 w1.heap.size 31 7 (fun j=>y.cells.getD j default)):=⟨yat.below hB2,KY⟩
 clear hW2 hB2 KY yat yok hB HB1 HB0
 simp only [St.val]
 obtain ⟨-,xk,-,-,-⟩:=HC.out W2 HB2.out
 have x0:W2.cell? ⟨w.heap.size+1,0,none⟩=some (.int .i64 x.k):=xk.cell (j:=0) (by decide)
 have x1:W2.cell? ⟨w.heap.size+1,1,none⟩=some (.int .i64 x.a):=xk.cell (j:=1) (by decide)
 have x2:W2.cell? ⟨w.heap.size+1,2,none⟩=some (.int .i64 x.b):=xk.cell (j:=2) (by decide)
 have x3:W2.cell? ⟨w.heap.size+1,3,none⟩=some (.int .i64 x.c):=xk.cell (j:=3) (by decide)
 have x4:W2.cell? ⟨w.heap.size+1,4,none⟩=some (.int .i64 x.n):=xk.cell (j:=4) (by decide)
 have x5:W2.cell? ⟨w.heap.size+1,5,none⟩=some (.slice x.ls.a x.ls.n x.ls.c):=xk.cell (j:=5) (by decide)
 have x6:=xk.lt
 clear xk
 rw [← HW2.out] at x0 x1 x2 x3 x4 x5 x6
 go_wp2_with fail
 rw [HW2.out]
 clear HW2 x0 x1 x2 x3 x4 x5 x6
 generalize w1.heap.size=By at *
 refine (Write_any x W2 (HC.out W2 HB2.out).2.2.2.1 HN.out).mono ?_
 rintro e w3 ⟨rfl,hB⟩
 have HB3:Hid (Below W0.heap.size W0 w3):=HB2.out.trans (hB.mono HB2.out.size)
 have HY3:Hid (y.At w3∧Blk w3 By 31 7 (fun j=>y.cells.getD j default)):=⟨HY2.out.1.below hB,HY2.out.2.below hB⟩
 clear hB HB2 HY2
 go_wp2_with fail
 refine (Replay_any t w3).mono ?_
 rintro e w4 ⟨acts,rfl,an,-,-,hB⟩
 have HB4:Hid (Below W0.heap.size W0 w4):=HB3.out.trans (hB.mono HB3.out.size)
 have HY4:Hid (y.At w4∧Blk w4 By 31 7 (fun j=>y.cells.getD j default)):=⟨HY3.out.1.below hB,HY3.out.2.below hB⟩
 have HAN:Hid (acts.n=(repL t).length):=an
 clear hB HB3 HY3 an
 simp only [As.val]
 have wl:((⟨(writeL x).toArray⟩:ByteArray).size)=(writeL x).length:=by simp [ByteArray.size]
 have HBEG:Hid (Calls Tryz.prog 12 #[] w4 fun e w'=>e = .returned (.bool true)∧Below w4.heap.size w4 w'):=logBegun_any w4
 by_cases h1:recE p t=0
 ·have HZ:Hid (planE p=0∧repE t=0∧t.length≤4096):=rec_zero h1
  by_cases h2:writeE x=0
  ·have HWL:Hid (writeL x=writeB x):=if_pos h2
   by_cases h3:repN t=t.length
   ·by_cases h4:(repL t).length<60
    ·by_cases h5:t.length+(writeB x).length≤4096
     ·have g4:¬ (60:Int)≤(acts.n:Int):=by rw [HAN.out];omega
      have g5:¬ (4096:Int)<(t.length:Int)+((writeL x).length:Int):=by rw [HWL.out];omega
      have g6:((writeL x).length:Int)≤4096:=by rw [HWL.out,writeB_len];have:=(writeE_zero h2).2;omega
      have g7:(t.length:Int)≤4096:=by have:=HZ.out.2.2;omega
      have HMS:Hid (∀ u,RecOK p (t++writeB x) u→recE p (t++writeB x)=0∧recN p (t++writeB x)=recN p t+1∧RightT p u∧(∀ v,ActOK (doE p y x) (doT p y x) v→doE p y x=0→SameT u v)∧(¬ doE p y x=0→SameT u y)):=fun u hu=>more_same h1 h2 h3 h4 h5 HYOK.out hu
      have a12:(⟨t.toArray⟩:ByteArray)++⟨(writeL x).toArray⟩=⟨(t++writeB x).toArray⟩:=by rw [ByteArray.mk_append_mk,HWL.out]
      have HN60:Hid (recN p t≤60):=by
       have e:recN p t=(repL t).length:=if_pos h1
       show _≤_
       omega
      rw [h1,h2,HZ.out.2.1,h3]
      generalize hT2:t++writeB x=T2 at *
      clear hT2 h1 h2 h3 h4 h5 HZ HWL HYOK HN HBEG HAN
      generalize hWL:writeL x=WL at *
      clear hWL
      have s2:¬ 9223372036854775807<t.length+WL.length:=by omega
      obtain ⟨hP,-,-,-,-⟩:=HC.out w4 HB4.out
      have d0:w4.cell? ⟨w.heap.size,0,none⟩=some (.slice p.ab p.nb p.cb):=hP.cell (j:=0) (by decide)
      have d1:w4.cell? ⟨w.heap.size,1,none⟩=some (.slice p.sa p.ns p.cs):=hP.cell (j:=1) (by decide)
      have dl:=hP.lt
      clear hP
      go_wp2_with fail
      clear d0 d1 dl
      refine (Recover_any p T2 w4 (HC.out w4 HB4.out).2.2.1).mono ?_
      rintro e w5 ⟨u,rfl,uat,uok,hB⟩
      have HM:Hid (_):=HMS.out u uok
      have HB5:Hid (Below W0.heap.size W0 w5):=HB4.out.trans (hB.mono HB4.out.size)
      have HY5:Hid (y.At w5∧Blk w5 By 31 7 (fun j=>y.cells.getD j default)):=⟨HY4.out.1.below hB,HY4.out.2.below hB⟩
      obtain ⟨W6,hW6,hB6,KU⟩:∃ W,w5.alloc (.cells #[.slice u.on.a u.on.n u.on.c,.slice u.os.a u.os.n u.os.c,.slice u.hs.a u.hs.n u.hs.c,.slice u.ms.a u.ms.n u.ms.c,.slice u.si.a u.si.n u.si.c,.slice u.so.a u.so.n u.so.c,.slice u.sf.a u.sf.n u.sf.c] 31)=W∧Below w5.heap.size w5 W∧Blk W w5.heap.size 31 7 (fun j=>u.cells.getD j default):=⟨_,rfl,(Below.refl _ _).alloc (Nat.le_refl _) _,Blk.mk' rfl rfl⟩
      have HW6:Hid (w5.alloc (.cells #[.slice u.on.a u.on.n u.on.c,.slice u.os.a u.os.n u.os.c,.slice u.hs.a u.hs.n u.hs.c,.slice u.ms.a u.ms.n u.ms.c,.slice u.si.a u.si.n u.si.c,.slice u.so.a u.so.n u.so.c,.slice u.sf.a u.sf.n u.sf.c] 31)=W6):=hW6
      have HB6:Hid (Below W0.heap.size W0 W6):=HB5.out.trans (hB6.mono HB5.out.size)
      have HY6:Hid (y.At W6∧Blk W6 By 31 7 (fun j=>y.cells.getD j default)):=⟨HY5.out.1.below hB6,HY5.out.2.below hB6⟩
      have HU6:Hid (u.At W6∧Blk W6 w5.heap.size 31 7 (fun j=>u.cells.getD j default)):=⟨uat.below hB6,KU⟩
      rw [HM.out.1,HM.out.2.1]
      clear hB hB6 hW6 KU uat uok HB5 HY5 HB4 HY4 HMS
      simp only [St.val]
      obtain ⟨hP,xk,-,-,-⟩:=HC.out W6 HB6.out
      have d0:W6.cell? ⟨w.heap.size,0,none⟩=some (.slice p.ab p.nb p.cb):=hP.cell (j:=0) (by decide)
      have d1:W6.cell? ⟨w.heap.size,1,none⟩=some (.slice p.sa p.ns p.cs):=hP.cell (j:=1) (by decide)
      have dl:=hP.lt
      have x0:W6.cell? ⟨w.heap.size+1,0,none⟩=some (.int .i64 x.k):=xk.cell (j:=0) (by decide)
      have x1:W6.cell? ⟨w.heap.size+1,1,none⟩=some (.int .i64 x.a):=xk.cell (j:=1) (by decide)
      have x2:W6.cell? ⟨w.heap.size+1,2,none⟩=some (.int .i64 x.b):=xk.cell (j:=2) (by decide)
      have x3:W6.cell? ⟨w.heap.size+1,3,none⟩=some (.int .i64 x.c):=xk.cell (j:=3) (by decide)
      have x4:W6.cell? ⟨w.heap.size+1,4,none⟩=some (.int .i64 x.n):=xk.cell (j:=4) (by decide)
      have x5:W6.cell? ⟨w.heap.size+1,5,none⟩=some (.slice x.ls.a x.ls.n x.ls.c):=xk.cell (j:=5) (by decide)
      have x6:=xk.lt
      obtain ⟨ym,yc0,yc1,yc2,yc3,yc4,yc5,yc6⟩:=Boxed.of HY6.out.2
      clear hP xk
      rw [← HW6.out] at d0 d1 dl x0 x1 x2 x3 x4 x5 x6 ym yc0 yc1 yc2 yc3 yc4 yc5 yc6
      go_wp2_with fail
      rw [HW6.out]
      clear HW6 d0 d1 dl x0 x1 x2 x3 x4 x5 x6 ym yc0 yc1 yc2 yc3 yc4 yc5 yc6
      generalize w5.heap.size=Bu at *
      refine (Do_any p y x W6 (HC.out W6 HB6.out).2.2.1 HY6.out.1 (HC.out W6 HB6.out).2.2.2.1).mono ?_
      rintro e w7 ⟨v,rfl,vat,vok,-,hB⟩
      have HVOK:Hid (ActOK (doE p y x) (doT p y x) v):=vok
      have HB7:Hid (Below W0.heap.size W0 w7):=HB6.out.trans (hB.mono HB6.out.size)
      have HY7:Hid (y.At w7∧Blk w7 By 31 7 (fun j=>y.cells.getD j default)):=⟨HY6.out.1.below hB,HY6.out.2.below hB⟩
      have HU7:Hid (u.At w7∧Blk w7 Bu 31 7 (fun j=>u.cells.getD j default)):=⟨HU6.out.1.below hB,HU6.out.2.below hB⟩
      obtain ⟨W8,hW8,hB8,KV⟩:∃ W,w7.alloc (.cells #[.slice v.on.a v.on.n v.on.c,.slice v.os.a v.os.n v.os.c,.slice v.hs.a v.hs.n v.hs.c,.slice v.ms.a v.ms.n v.ms.c,.slice v.si.a v.si.n v.si.c,.slice v.so.a v.so.n v.so.c,.slice v.sf.a v.sf.n v.sf.c] 31)=W∧Below w7.heap.size w7 W∧Blk W w7.heap.size 31 7 (fun j=>v.cells.getD j default):=⟨_,rfl,(Below.refl _ _).alloc (Nat.le_refl _) _,Blk.mk' rfl rfl⟩
      have HW8:Hid (w7.alloc (.cells #[.slice v.on.a v.on.n v.on.c,.slice v.os.a v.os.n v.os.c,.slice v.hs.a v.hs.n v.hs.c,.slice v.ms.a v.ms.n v.ms.c,.slice v.si.a v.si.n v.si.c,.slice v.so.a v.so.n v.so.c,.slice v.sf.a v.sf.n v.sf.c] 31)=W8):=hW8
      have HV8:Hid (v.At W8):=vat.below hB8
      clear hB vat vok HB6 HY6 HU6 hW8
      simp only [St.val]
      by_cases hE:doE p y x=0
      ·have HSV:Hid (SameT u v):=HM.out.2.2.2.1 v HVOK.out hE
       rw [hE]
       have HB8:Hid (Below W0.heap.size W0 W8):=HB7.out.trans (hB8.mono HB7.out.size)
       have HU8:Hid (u.At W8∧Blk W8 Bu 31 7 (fun j=>u.cells.getD j default)):=⟨HU7.out.1.below hB8,HU7.out.2.below hB8⟩
       have HKV:Hid (Blk W8 w7.heap.size 31 7 (fun j=>v.cells.getD j default)):=KV
       clear hE hB8 KV
       go_wp2_with fail
       rw [HW8.out]
       clear HW8
       generalize w7.heap.size=Bv at *
       refine (logBegun_any W8).mono ?_
       rintro e w9 ⟨rfl,hB⟩
       have HBf:Hid (Below W0.heap.size W0 w9):=HB8.out.trans (hB.mono HB8.out.size)
       have HU9:Hid (u.At w9∧Blk w9 Bu 31 7 (fun j=>u.cells.getD j default)):=⟨HU8.out.1.below hB,HU8.out.2.below hB⟩
       have HV9:Hid (v.At w9∧Blk w9 Bv 31 7 (fun j=>v.cells.getD j default)):=⟨HV8.out.below hB,HKV.out.below hB⟩
       have gN:((((recN p t+1:Nat)):Int)==(recN p t:Int)+1)=true:=by simp
       have gM:=HN60.out
       clear hB
       generalize recN p t=N1 at *
       obtain ⟨um,uc0,uc1,uc2,uc3,uc4,uc5,uc6⟩:=Boxed.of HU9.out.2
       obtain ⟨vm,vc0,vc1,vc2,vc3,vc4,vc5,vc6⟩:=Boxed.of HV9.out.2
       go_wp2_with fail
       clear um uc0 uc1 uc2 uc3 uc4 uc5 uc6 vm vc0 vc1 vc2 vc3 vc4 vc5 vc6
       refine (SameStates_yes u v w9 HU9.out.1 HV9.out.1 HSV.out HM.out.2.2.1.bound.1 HM.out.2.2.1.bound.2.1 HM.out.2.2.1.bound.2.2).mono ?_
       rintro e wa ⟨rfl,hB⟩
       go_wp2_with fail
       go_ret
       exact ⟨by simp,(HC.out wa (HBf.out.trans (hB.mono HBf.out.size))).2.2.2.2⟩
      ·have HSV:Hid (SameT u y):=HM.out.2.2.2.2 hE
       have gE:(doE p y x !=0)=true:=by simpa using hE
       obtain ⟨W8s,hW8s,hB8s,KVs⟩:∃ W,w7.alloc (.cells #[.slice y.on.a y.on.n y.on.c,.slice y.os.a y.os.n y.os.c,.slice y.hs.a y.hs.n y.hs.c,.slice y.ms.a y.ms.n y.ms.c,.slice y.si.a y.si.n y.si.c,.slice y.so.a y.so.n y.so.c,.slice y.sf.a y.sf.n y.sf.c] 31)=W∧Below w7.heap.size w7 W∧Blk W w7.heap.size 31 7 (fun j=>y.cells.getD j default):=⟨_,rfl,(Below.refl _ _).alloc (Nat.le_refl _) _,Blk.mk' rfl rfl⟩
       have HW8s:Hid (w7.alloc (.cells #[.slice y.on.a y.on.n y.on.c,.slice y.os.a y.os.n y.os.c,.slice y.hs.a y.hs.n y.hs.c,.slice y.ms.a y.ms.n y.ms.c,.slice y.si.a y.si.n y.si.c,.slice y.so.a y.so.n y.so.c,.slice y.sf.a y.sf.n y.sf.c] 31)=W8s):=hW8s
       obtain ⟨ym,yc0,yc1,yc2,yc3,yc4,yc5,yc6⟩:=Boxed.of HY7.out.2
       have HBt:Hid (Below w7.heap.size w7 W8s):=hB8s
       have HKV:Hid (Blk W8s w7.heap.size 31 7 (fun j=>y.cells.getD j default)):=KVs
       clear hE hB8 KV HW8 HV8 hW8s hB8s KVs
       generalize doE p y x=EE at *
       go_wp2_with fail
       rw [HW8s.out]
       clear HW8s ym yc0 yc1 yc2 yc3 yc4 yc5 yc6
       have HB8:Hid (Below W0.heap.size W0 W8s):=HB7.out.trans (HBt.out.mono HB7.out.size)
       have HU8:Hid (u.At W8s∧Blk W8s Bu 31 7 (fun j=>u.cells.getD j default)):=⟨HU7.out.1.below HBt.out,HU7.out.2.below HBt.out⟩
       have HV8:Hid (y.At W8s):=HY7.out.1.below HBt.out
       clear HBt
       generalize w7.heap.size=Bv at *
       refine (logBegun_any W8s).mono ?_
       rintro e w9 ⟨rfl,hB⟩
       have HBf:Hid (Below W0.heap.size W0 w9):=HB8.out.trans (hB.mono HB8.out.size)
       have HU9:Hid (u.At w9∧Blk w9 Bu 31 7 (fun j=>u.cells.getD j default)):=⟨HU8.out.1.below hB,HU8.out.2.below hB⟩
       have HV9:Hid (y.At w9∧Blk w9 Bv 31 7 (fun j=>y.cells.getD j default)):=⟨HV8.out.below hB,HKV.out.below hB⟩
       have gN:((((recN p t+1:Nat)):Int)==(recN p t:Int)+1)=true:=by simp
       have gM:=HN60.out
       clear hB
       generalize recN p t=N1 at *
       obtain ⟨um,uc0,uc1,uc2,uc3,uc4,uc5,uc6⟩:=Boxed.of HU9.out.2
       obtain ⟨vm,vc0,vc1,vc2,vc3,vc4,vc5,vc6⟩:=Boxed.of HV9.out.2
       go_wp2_with fail
       clear um uc0 uc1 uc2 uc3 uc4 uc5 uc6 vm vc0 vc1 vc2 vc3 vc4 vc5 vc6
       refine (SameStates_yes u y w9 HU9.out.1 HV9.out.1 HSV.out HM.out.2.2.1.bound.1 HM.out.2.2.1.bound.2.1 HM.out.2.2.1.bound.2.2).mono ?_
       rintro e wa ⟨rfl,hB⟩
       go_wp2_with fail
       go_ret
       exact ⟨by simp,(HC.out wa (HBf.out.trans (hB.mono HBf.out.size))).2.2.2.2⟩
     ·have g4:¬ (60:Int)≤(acts.n:Int):=by rw [HAN.out];omega
      have g5:(4096:Int)<(t.length:Int)+((writeL x).length:Int):=by rw [HWL.out];omega
      have g6:((writeL x).length:Int)≤4096:=by rw [HWL.out,writeB_len];have:=(writeE_zero h2).2;omega
      have g7:(t.length:Int)≤4096:=by have:=HZ.out.2.2;omega
      rw [h1,h2,HZ.out.2.1,h3]
      generalize recN p t=N1 at *
      generalize (writeL x).length=WN at *
      go_wp2_with fail
      refine HBEG.out.mono ?_
      rintro e w5 ⟨rfl,hB⟩
      go_wp2_with fail
      go_ret
      exact ⟨rfl,(HC.out w5 (HB4.out.trans (hB.mono HB4.out.size))).2.2.2.2⟩
    ·have g4:(60:Int)≤(acts.n:Int):=by rw [HAN.out];omega
     rw [h1,h2,HZ.out.2.1,h3]
     generalize recN p t=N1 at *
     go_wp2_with fail
     refine HBEG.out.mono ?_
     rintro e w5 ⟨rfl,hB⟩
     go_wp2_with fail
     go_ret
     exact ⟨rfl,(HC.out w5 (HB4.out.trans (hB.mono HB4.out.size))).2.2.2.2⟩
   ·have g3:((repN t:Int) !=(t.length:Int))=true:=by simp;omega
    rw [h1,h2,HZ.out.2.1]
    generalize recN p t=N1 at *
    generalize repN t=N2 at *
    go_wp2_with fail
    refine HBEG.out.mono ?_
    rintro e w5 ⟨rfl,hB⟩
    go_wp2_with fail
    go_ret
    exact ⟨rfl,(HC.out w5 (HB4.out.trans (hB.mono HB4.out.size))).2.2.2.2⟩
  ·have g2:(writeE x !=0)=true:=by simpa using h2
   rw [h1]
   generalize writeE x=E2 at *
   generalize repE t=E3 at *
   generalize recN p t=N1 at *
   generalize repN t=N2 at *
   go_wp2_with fail
   refine HBEG.out.mono ?_
   rintro e w5 ⟨rfl,hB⟩
   go_wp2_with fail
   go_ret
   exact ⟨rfl,(HC.out w5 (HB4.out.trans (hB.mono HB4.out.size))).2.2.2.2⟩
 ·have g1:(recE p t !=0)=true:=by simpa using h1
  generalize recE p t=E1 at *
  generalize writeE x=E2 at *
  generalize repE t=E3 at *
  generalize recN p t=N1 at *
  generalize repN t=N2 at *
  go_wp2_with fail
  refine HBEG.out.mono ?_
  rintro e w5 ⟨rfl,hB⟩
  go_wp2_with fail
  go_ret
  exact ⟨rfl,(HC.out w5 (HB4.out.trans (hB.mono HB4.out.size))).2.2.2.2⟩
end Go.Proofs.YtbcacebifpagpagGreat
namespace Go.Proofs.YtbcacebifpagpagGreat
open Go.ChangeShapes Go.WideShapes Go.ChangeAt Go.RowKit Go.Joins Go.Deep
set_option linter.unusedVariables false
set_option maxRecDepth 100000
theorem own:ownKnob Tryz.prog.godebug=none:=by kernel_rfl
theorem laidOut:laidOutB Tryz.prog=true:=by kernel_rfl
theorem cellsInt:Tryz.prog.cellsOf 3=1:=by kernel_rfl
theorem cellsBin:Tryz.prog.cellsOf 68=4:=by kernel_rfl
theorem cellsPlan:Tryz.prog.cellsOf 25=2:=by kernel_rfl
theorem cellsBool:Tryz.prog.cellsOf 4=1:=by kernel_rfl
section
variable {H:Type} {enc:TypeId × Value→H} {w:World} {held:Bool} {spare:Nat→Bool}
theorem addrOf {a:Addr} {i:Nat} {v:Value} (h:w.cell? (a.add i)=some v) (h0:∃ v0,w.cell? a=some v0):∃ b o,a=⟨b,o,none⟩∧b<w.heap.size∧w.cell? ⟨b,o+i,none⟩=some v:=by
 obtain ⟨b,off,spot⟩:=a
 obtain ⟨v0,h0⟩:=h0
 have hspot:spot=none:=World.cell?_spot h0
 subst hspot
 refine ⟨b,off,rfl,World.block_lt_of_cell? w _ h0,?_⟩
 rw [← Go.WideShapes.add_plain]
 exact h
theorem readInts {fuel:Nat} {cs:List Value} {x:DataW H × List MemPlace} (h:DataW.trod enc Tryz.prog w 0 spare held fuel 23 cs=some x):∃ r:Rw,cs=[r.val]∧r.At w:=by
 rcases open_slice1 Tryz.underlying23 cellsInt h with ⟨rfl,_⟩ | ⟨a,len,cap,m,n,V,D,Pl,rfl,hb,hl,hm,hmm,_,hx⟩
 ·exact ⟨⟨none,0,0,fun _=>0⟩,rfl,Nat.le_refl _,Nat.zero_le _,fun i hi=>absurd hi (Nat.not_lt_zero _)⟩
 ·have hlm:len≤m:=by rw [hmm];split<;>omega
  obtain ⟨z,hz⟩:=choose_lt (α:=Int) (n:=len) (p:=fun i y=>V i = .int .i64 y) (fun i hi=>by
   obtain ⟨y,hy,_⟩:=DataW.trod_int Tryz.underlying3 (hx i (by omega)).2
   simp only [List.cons.injEq,and_true] at hy
   exact ⟨y,hy⟩)
  refine ⟨⟨some a,len,cap,z⟩,rfl,hl,hm,fun i hi => ?_⟩
  have hi':i<len:=hi
  have h0:∃ v0,w.cell? a=some v0:=⟨_,by have:=(hx 0 (by omega)).1;simpa [Addr.add] using this⟩
  obtain ⟨b,o,rfl,hb',hc⟩:=addrOf (hx i (by omega)).1 h0
  exact ⟨b,o,rfl,hb',by rw [hc,hz i hi']⟩
theorem readBin {fuel:Nat} {c0 c1 c2 c3:Value} {x:DataW H × List MemPlace} (h:DataW.trod enc Tryz.prog w 0 spare held fuel 68 [c0,c1,c2,c3]=some x):∃ y:Bin,c0 = .bool y.front∧c1 = .int .i64 y.room∧c2 = .int .i64 y.low∧c3 = .int .i64 y.high:=by
 obtain ⟨y0,y1,y2,y3,n,hx,hl,h0,h1,h2,h3⟩:=trod_struct4 Tryz.underlying68 h
 simp only [cellsBool,cellsInt,List.drop_succ_cons,List.drop_zero,List.take_succ_cons,List.take_zero] at h0 h1 h2 h3
 obtain ⟨b,e0,_⟩:=DataW.trod_bool Tryz.underlying4 h0
 obtain ⟨n1,e1,_⟩:=DataW.trod_int Tryz.underlying3 h1
 obtain ⟨n2,e2,_⟩:=DataW.trod_int Tryz.underlying3 h2
 obtain ⟨n3,e3,_⟩:=DataW.trod_int Tryz.underlying3 h3
 simp only [List.cons.injEq,and_true] at e0 e1 e2 e3
 exact ⟨⟨b,n1,n2,n3⟩,e0,e1,e2,e3⟩
theorem cells4 {base:Nat} {a:Addr} {cs:List Value} (h:w.cells? base a 4=some cs):∃ c0 c1 c2 c3,cs=[c0,c1,c2,c3]∧w.cell? a=some c0∧w.cell? (a.add 1)=some c1∧w.cell? (a.add 2)=some c2∧w.cell? (a.add 3)=some c3:=by
 obtain ⟨_,hlen,hc⟩:=World.cells?_some h
 match cs,hlen with
 | [c0,c1,c2,c3],_ =>
  refine ⟨c0,c1,c2,c3,rfl,?_,?_,?_,?_⟩
  ·simpa [Addr.add] using hc 0 (by decide)
  ·simpa using hc 1 (by decide)
  ·simpa using hc 2 (by decide)
  ·simpa using hc 3 (by decide)
theorem readBins {fuel:Nat} {cs:List Value} {x:DataW H × List MemPlace} (h:DataW.trod enc Tryz.prog w 0 spare held fuel 22 cs=some x):∃ a n c z,cs=[.slice a n c]∧n≤c∧c≤maxLen∧BinsAt w a n z:=by
 rcases open_slice Tryz.underlying22 h with ⟨rfl,_⟩ | ⟨a,len,cap,m,n,D,Pl,rfl,hb,hl,hm,hmm,_,hx⟩
 ·exact ⟨none,0,0,fun _=>⟨false,0,0,0⟩,rfl,Nat.le_refl _,Nat.zero_le _,fun i hi=>absurd hi (Nat.not_lt_zero _)⟩
 ·have hlm:len≤m:=by rw [hmm];split<;>omega
  rw [cellsBin] at hx
  haveI:Inhabited Bin:=⟨⟨false,0,0,0⟩⟩
  obtain ⟨z,hz⟩:=choose_lt (α:=Bin) (n:=len) (p:=fun i y=>w.cell? (a.add (i*4))=some (.bool y.front)∧w.cell? (a.add (i*4+1))=some (.int .i64 y.room)∧w.cell? (a.add (i*4+2))=some (.int .i64 y.low)∧w.cell? (a.add (i*4+3))=some (.int .i64 y.high)) (fun i hi=>by
   obtain ⟨cs',hc,ht⟩:=hx i (by omega)
   obtain ⟨c0,c1,c2,c3,rfl,k0,k1,k2,k3⟩:=cells4 hc
   obtain ⟨y,rfl,rfl,rfl,rfl⟩:=readBin ht
   rw [add_add] at k1 k2 k3
   exact ⟨y,k0,k1,k2,k3⟩)
  refine ⟨some a,len,cap,z,rfl,hl,hm,fun i hi => ?_⟩
  have h0:∃ v0,w.cell? a=some v0:=⟨_,by have:=(hz 0 (by omega)).1;simpa [Addr.add] using this⟩
  obtain ⟨k0,k1,k2,k3⟩:=hz i hi
  obtain ⟨b,o,rfl,hb',e0⟩:=addrOf k0 h0
  rw [Go.WideShapes.add_plain] at k1 k2 k3
  exact ⟨b,o,rfl,hb',e0,by rw [Nat.add_assoc];exact k1,by rw [Nat.add_assoc];exact k2,by rw [Nat.add_assoc];exact k3⟩
theorem openPlan {r:Reach} {b0:Nat} {v:Value} {d:DataW H} {ps:List MemPlace} (hv:Value.okWide Tryz.prog w r b0 25 v) (h:DataW.Trod enc Tryz.prog w 0 spare held 25 v d ps):∃ p:Pl,v=p.val∧p.At w:=by
 obtain ⟨c0,c1,y0,y1,m,rfl,rfl,rfl,hy0,hy1⟩:=open_agg2 Tryz.underlying25 (by kernel_rfl) cellsPlan hv h
 obtain ⟨a,n,c,z,e0,h1,h2,h3⟩:=readBins hy0
 obtain ⟨rr,e1,hr⟩:=readInts hy1
 simp only [List.cons.injEq,and_true] at e0 e1
 subst e0 e1
 exact ⟨⟨a,n,c,z,rr.a,rr.n,rr.c,rr.z⟩,rfl,h1,h2,h3,hr.le,hr.cap,hr.ints⟩
end
set_option maxRecDepth 100000
namespace HoldsFrames
theorem own:ownKnob Tryz.prog.godebug=none:=by kernel_rfl
theorem laidOut:laidOutB Tryz.prog=true:=by kernel_rfl
theorem cellsInt:Tryz.prog.cellsOf 3=1:=by kernel_rfl
section
variable {H:Type} {enc:TypeId × Value→H} {w:World} {held:Bool} {spare:Nat→Bool}
theorem addrOf {a:Addr} {i:Nat} {v:Value} (h:w.cell? (a.add i)=some v) (h0:∃ v0,w.cell? a=some v0):∃ b o,a=⟨b,o,none⟩∧b<w.heap.size∧w.cell? ⟨b,o+i,none⟩=some v:=by
 obtain ⟨b,off,spot⟩:=a
 obtain ⟨v0,h0⟩:=h0
 have hspot:spot=none:=World.cell?_spot h0
 subst hspot
 refine ⟨b,off,rfl,World.block_lt_of_cell? w _ h0,?_⟩
 rw [← Go.WideShapes.add_plain]
 exact h
theorem cells4 {base:Nat} {a:Addr} {cs:List Value} (h:w.cells? base a 4=some cs):∃ c0 c1 c2 c3,cs=[c0,c1,c2,c3]∧w.cell? a=some c0∧w.cell? (a.add 1)=some c1∧w.cell? (a.add 2)=some c2∧w.cell? (a.add 3)=some c3:=by
 obtain ⟨_,hlen,hc⟩:=World.cells?_some h
 match cs,hlen with
 | [c0,c1,c2,c3],_ =>
  refine ⟨c0,c1,c2,c3,rfl,?_,?_,?_,?_⟩
  ·simpa [Addr.add] using hc 0 (by decide)
  ·simpa using hc 1 (by decide)
  ·simpa using hc 2 (by decide)
  ·simpa using hc 3 (by decide)
end
end HoldsFrames
set_option maxRecDepth 100000
theorem cellsLine:Tryz.prog.cellsOf 59=4:=by kernel_rfl
theorem cellsLines:Tryz.prog.cellsOf 45=1:=by kernel_rfl
section
variable {H:Type} {enc:TypeId × Value→H} {w:World} {held:Bool} {spare:Nat→Bool}
theorem readLine {fuel:Nat} {c0 c1 c2 c3:Value} {x:DataW H × List MemPlace} (h:DataW.trod enc Tryz.prog w 0 spare held fuel 59 [c0,c1,c2,c3]=some x):∃ y:Hd,c0 = .int .i64 y.o∧c1 = .int .i64 y.l∧c2 = .int .i64 y.b∧c3 = .int .i64 y.n:=by
 obtain ⟨y0,y1,y2,y3,n,hx,hl,h0,h1,h2,h3⟩:=trod_struct4 Tryz.underlying59 h
 simp only [cellsInt,List.drop_succ_cons,List.drop_zero,List.take_succ_cons,List.take_zero] at h0 h1 h2 h3
 obtain ⟨n0,e0,_⟩:=DataW.trod_int Tryz.underlying3 h0
 obtain ⟨n1,e1,_⟩:=DataW.trod_int Tryz.underlying3 h1
 obtain ⟨n2,e2,_⟩:=DataW.trod_int Tryz.underlying3 h2
 obtain ⟨n3,e3,_⟩:=DataW.trod_int Tryz.underlying3 h3
 simp only [List.cons.injEq,and_true] at e0 e1 e2 e3
 exact ⟨⟨n0,n1,n2,n3⟩,e0,e1,e2,e3⟩
theorem readLines {fuel:Nat} {cs:List Value} {x:DataW H × List MemPlace} (h:DataW.trod enc Tryz.prog w 0 spare held fuel 45 cs=some x):∃ s:Hs,cs=[s.val]∧s.At w:=by
 rcases open_slice Tryz.underlying45 h with ⟨rfl,_⟩ | ⟨a,len,cap,m,n,D,Pl,rfl,hb,hl,hm,hmm,_,hx⟩
 ·exact ⟨⟨none,0,0,fun _=>⟨0,0,0,0⟩⟩,rfl,Nat.le_refl _,Nat.zero_le _,fun i hi=>absurd hi (Nat.not_lt_zero _),fun _=>rfl⟩
 ·have hlm:len≤m:=by rw [hmm];split<;>omega
  rw [cellsLine] at hx
  haveI:Inhabited Hd:=⟨⟨0,0,0,0⟩⟩
  obtain ⟨z,hz⟩:=choose_lt (α:=Hd) (n:=len) (p:=fun i y=>w.cell? (a.add (i*4))=some (.int .i64 y.o)∧w.cell? (a.add (i*4+1))=some (.int .i64 y.l)∧w.cell? (a.add (i*4+2))=some (.int .i64 y.b)∧w.cell? (a.add (i*4+3))=some (.int .i64 y.n)) (fun i hi=>by
   obtain ⟨cs',hc,ht⟩:=hx i (by omega)
   obtain ⟨c0,c1,c2,c3,rfl,k0,k1,k2,k3⟩:=cells4 hc
   obtain ⟨y,rfl,rfl,rfl,rfl⟩:=readLine ht
   rw [add_add] at k1 k2 k3
   exact ⟨y,k0,k1,k2,k3⟩)
  refine ⟨⟨some a,len,cap,z⟩,rfl,hl,hm,fun i hi => ?_,fun h=>by cases h⟩
  have hi':i<len:=hi
  have h0:∃ v0,w.cell? a=some v0:=⟨_,by have:=(hz 0 (by omega)).1;simpa [Addr.add] using this⟩
  obtain ⟨k0,k1,k2,k3⟩:=hz i hi'
  obtain ⟨b,o,rfl,hb',e0⟩:=addrOf k0 h0
  rw [Go.WideShapes.add_plain] at k1 k2 k3
  exact ⟨b,o,rfl,hb',e0,by rw [Nat.add_assoc];exact k1,by rw [Nat.add_assoc];exact k2,by rw [Nat.add_assoc];exact k3⟩
end
set_option maxRecDepth 100000
theorem cellsAct:Tryz.prog.cellsOf 47=6:=by kernel_rfl
section
variable {H:Type} {enc:TypeId × Value→H} {w:World} {held:Bool} {spare:Nat→Bool}
theorem array6 {α:Type} {cs:Array α} (h:cs.size=6):∃ c0 c1 c2 c3 c4 c5,cs=#[c0,c1,c2,c3,c4,c5]:=by
 obtain ⟨l⟩:=cs
 match l,h with
 | [c0,c1,c2,c3,c4,c5],_=>exact ⟨c0,c1,c2,c3,c4,c5,rfl⟩
theorem openAct {r:Reach} {b0:Nat} {v:Value} {d:DataW H} {ps:List MemPlace} (hv:Value.okWide Tryz.prog w r b0 47 v) (h:DataW.Trod enc Tryz.prog w 0 spare held 47 v d ps):∃ x:Ax,v=x.val∧x.ls.At w:=by
 obtain ⟨cs,rfl,hsz⟩:=okWide_struct Tryz.underlying47 hv
 obtain ⟨c0,c1,c2,c3,c4,c5,rfl⟩:=array6 (hsz.trans cellsAct)
 obtain ⟨fuel,hf⟩:=h
 obtain ⟨xs,n,_,hx,hl,hlen,hg⟩:=DataW.trod_struct Tryz.underlying47 hf
 match xs,hlen with
 | [y0,y1,y2,y3,y4,y5],_ =>
  have k0:=hg 0 _ rfl
  have k1:=hg 1 _ rfl
  have k2:=hg 2 _ rfl
  have k3:=hg 3 _ rfl
  have k4:=hg 4 _ rfl
  have k5:=hg 5 _ rfl
  simp [cellsInt,cellsLines,Value.cells] at k0 k1 k2 k3 k4 k5
  obtain ⟨n0,e0,_⟩:=DataW.trod_int Tryz.underlying3 k0
  obtain ⟨n1,e1,_⟩:=DataW.trod_int Tryz.underlying3 k1
  obtain ⟨n2,e2,_⟩:=DataW.trod_int Tryz.underlying3 k2
  obtain ⟨n3,e3,_⟩:=DataW.trod_int Tryz.underlying3 k3
  obtain ⟨n4,e4,_⟩:=DataW.trod_int Tryz.underlying3 k4
  obtain ⟨ls,e5,h5⟩:=readLines k5
  simp only [List.cons.injEq,and_true] at e0 e1 e2 e3 e4 e5
  subst e0 e1 e2 e3 e4 e5
  exact ⟨⟨n0,n1,n2,n3,n4,ls⟩,rfl,h5⟩
end
end Go.Proofs.YtbcacebifpagpagGreat
namespace Go.Proofs.YtbcacebifpagpagGreat
open Go.ChangeShapes Go.WideShapes Go.ChangeAt Go.RowKit Go.ChangeMaps
set_option maxRecDepth 100000
set_option linter.unusedVariables false
section
variable {H:Type} {enc:TypeId × Value→H} {w:World} {spare:Nat→Bool} {held:Bool}
theorem bytesLine:Tryz.prog.bytesOf 59=32:=by kernel_rfl
theorem lines_weight {fuel:Nat} {cs:List Value} {x:DataW H × List MemPlace} (h:DataW.trod enc Tryz.prog w 0 spare held fuel 45 cs=some x) (hz:∀ n∈x.1.weights Tryz.prog 45,n≤reachBytes) {s:Hs} (hs:cs=[s.val]):s.n≤8796093022208:=by
 rcases DataW.trod_slice Tryz.underlying45 h with ⟨rfl,_⟩ | ⟨a,len,cap,elems,rest,n,_,rfl,rfl,_,_,_,hl,_⟩
 ·simp only [Hs.val,List.cons.injEq,Value.slice.injEq,and_true] at hs
  omega
 ·simp only [Hs.val,List.cons.injEq,Value.slice.injEq,and_true] at hs
  have:=hz ((elems.length+rest.length)*Tryz.prog.bytesOf 59) (by simp [DataW.weights,Tryz.underlying45])
  rw [bytesLine] at this
  have e:reachBytes=140737488351232:=rfl
  omega
theorem act_weight {x:Ax} {d:DataW H} {ps:List MemPlace} (h:DataW.Trod enc Tryz.prog w 0 spare held 47 x.val d ps) (hz:∀ n∈d.weights Tryz.prog 47,n≤reachBytes):x.ls.n≤8796093022208:=by
 obtain ⟨fuel,hf⟩:=h
 obtain ⟨xs,n,_,hx,hl,hlen,hg⟩:=DataW.trod_struct Tryz.underlying47 hf
 match xs,hlen with
 | [y0,y1,y2,y3,y4,y5],_ =>
  have k5:=hg 5 _ rfl
  simp [cellsLines,Value.cells,Ax.val,Ax.cells] at k5
  have hd:d = .agg [y0.1,y1.1,y2.1,y3.1,y4.1,y5.1]:=by
   have:=congrArg Prod.fst hx
   simpa using this
  refine lines_weight k5 (fun m hm=>hz m ?_) (s:=x.ls) rfl
  rw [hd]
  simp only [DataW.weights,Tryz.underlying47]
  exact DataW.weights_mem_each (j:=5) (t:=45) (d:=y5.1) rfl rfl m hm
theorem openText {r:Reach} {b0:Nat} {v:Value} {d:DataW H} {ps:List MemPlace} (hv:Value.okWide Tryz.prog w r b0 9 v) (h:DataW.Trod enc Tryz.prog w 0 spare held 9 v d ps):∃ t:List UInt8,v = .string ⟨t.toArray⟩:=by
 obtain ⟨s,rfl,_⟩:=open_string Tryz.underlying9 hv h
 exact ⟨s.data.toList,by simp⟩
end
end Go.Proofs.YtbcacebifpagpagGreat

/- Texts that were built one behind the other, joined; what LogMore does not reach is left out. -/
import Derived.Test.YtbcacebifpagpagGreatK4LogMore
import Derived.Test.YtbcacebifpagpagGreatChecked
import Derived.WideKeyEntry
import Derived.DeepKeys5
import Derived.KernelRfl
import Derived.Below
import Derived.Laws.IdiomStrings
namespace Go.Proofs.YtbcacebifpagpagGreat
open Go.RowKit Go.Shelf Go.Sort
set_option linter.unusedVariables false
set_option maxRecDepth 100000 in
set_option maxHeartbeats 8000000 in
theorem Moved_any (p:Pl) (s:St) (k n:Int) (w:World) (hp:p.At w) (hs:s.At w) :
  Calls Tryz.prog 47 #[p.val,s.val,.int .i64 k,.int .i64 n] w fun e w'=>∃ x:St,e = .returned (.tuple #[x.val,.int .i64 (movedE p s k n)])∧x.At w'∧ActOK (movedE p s k n) (movedT s k.toNat n) x∧(movedE p s k n=0→OwnS w.heap.size w' x)∧Below w.heap.size w w':=by
 obtain ⟨W0,hW,hWB,X0,Z0⟩:∃ W,(((w.alloc (.cells #[.slice p.ab p.nb p.cb,.slice p.sa p.ns p.cs] 25)).alloc (.cells s.cells 31)).alloc (.cells #[.slice .none 0 0,.slice .none 0 0,.slice .none 0 0,.slice .none 0 0,.slice .none 0 0,.slice .none 0 0,.slice .none 0 0] 31))=W∧Below w.heap.size w W∧Boxes W w.heap.size (w.heap.size+1) p s∧Blk W (w.heap.size+2) 31 7 (fun _ => .slice .none 0 0) :=
  ⟨_,rfl,(two_below _ _ _).alloc (by simp;omega) _,(boxes_new w p s _ _).below ((Below.refl _ _).alloc (Nat.le_refl _) _),(Blk.mk' (cur:=#[.slice .none 0 0,.slice .none 0 0,.slice .none 0 0,.slice .none 0 0,.slice .none 0 0,.slice .none 0 0,.slice .none 0 0]) (by simp) rfl).congr (fun j hj=>by match j,hj with | 0,_=>rfl | 1,_=>rfl | 2,_=>rfl | 3,_=>rfl | 4,_=>rfl | 5,_=>rfl | 6,_=>rfl)⟩
 have HC:Hid (∀ wk,Below W0.heap.size W0 wk→Boxes wk w.heap.size (w.heap.size+1) p s∧p.At wk∧s.At wk∧Below w.heap.size w wk∧Blk wk (w.heap.size+2) 31 7 (fun _ => .slice .none 0 0)):=fun wk h=>⟨X0.below h,(hp.below hWB).below h,(hs.below hWB).below h,hWB.trans (h.mono hWB.size),Z0.below h⟩
 have HW:Hid (((w.alloc (.cells #[.slice p.ab p.nb p.cb,.slice p.sa p.ns p.cs] 25)).alloc (.cells #[.slice s.on.a s.on.n s.on.c,.slice s.os.a s.os.n s.os.c,.slice s.hs.a s.hs.n s.hs.c,.slice s.ms.a s.ms.n s.ms.c,.slice s.si.a s.si.n s.si.c,.slice s.so.a s.so.n s.so.c,.slice s.sf.a s.sf.n s.sf.c] 31)).alloc (.cells #[.slice .none 0 0,.slice .none 0 0,.slice .none 0 0,.slice .none 0 0,.slice .none 0 0,.slice .none 0 0,.slice .none 0 0] 31)=W0):=hW
 have leb:=hp.leb
 have capb0:=hp.capb
 have les:=hp.les
 have caps0:=hp.caps
 have capb:=capb0
 have caps:=caps0
 have zlt0:=Z0.lt
 unfold maxLen at capb caps
 have msl:=hs.ms.le
 have msc0:=hs.ms.cap
 have msn0:s.ms.n≤maxLen:=Nat.le_trans msl msc0
 have msc:=msc0
 have msn:=msn0
 unfold maxLen at msc msn
 clear hW X0 Z0 hp hs
 unfold Pl.val St.val
 go_enter Tryz.func47,Tryz.ntmps47
 go_wp2_with fail
 rw [HW.out]
 obtain ⟨X,hpk,hsk,hBw,hz⟩:=HC.out W0 (Below.refl _ _)
 refine (stateCheck_any p s W0 hpk hsk).mono ?_
 rintro e w1 ⟨rfl,hB⟩
 clear X hpk hsk hBw hz HW
 obtain ⟨⟨⟨l1,d0,d1⟩,l2,c0,c1,c2,c3,c4,c5,c6⟩,hpk,hsk,hBw,hz⟩:=HC.out w1 hB
 by_cases h0:stateE p s=0
 ·have H0:Hid (stateE p s=0):=h0
  have HR:Hid (RightT p s):=rightT h0
  rw [h0]
  clear h0
  cases h1:inB k 0 ((s.ms.n:Int) - 1)
  ·have HX:Hid (movedE p s k n=4):=movedE_none H0.out h1
   have HNE:Hid (¬ movedE p s k n=0):=by show ¬ _;rw [HX.out];decide
   clear hpk hsk
   have zl:=hz.lt
   have zf0:=hz.frozen 0
   have zc0:=hz.cell (j:=0) (by decide)
   have zf1:=hz.frozen 1
   have zc1:=hz.cell (j:=1) (by decide)
   have zf2:=hz.frozen 2
   have zc2:=hz.cell (j:=2) (by decide)
   have zf3:=hz.frozen 3
   have zc3:=hz.cell (j:=3) (by decide)
   have zf4:=hz.frozen 4
   have zc4:=hz.cell (j:=4) (by decide)
   have zf5:=hz.frozen 5
   have zc5:=hz.cell (j:=5) (by decide)
   have zf6:=hz.frozen 6
   have zc6:=hz.cell (j:=6) (by decide)
   go_wp2_with (go_at_call 71;refine calls_to (Has_any _ _ _ msn0) ?_)
   have KZ:=set7_blk hz (.slice .none 0 0) (.slice .none 0 0) (.slice .none 0 0) (.slice .none 0 0) (.slice .none 0 0) (.slice .none 0 0) (.slice .none 0 0)
   have hbz:=set7_below (b:=w.heap.size+2) hBw (by omega) (.slice .none 0 0) (.slice .none 0 0) (.slice .none 0 0) (.slice .none 0 0) (.slice .none 0 0) (.slice .none 0 0) (.slice .none 0 0)
   unfold set7 at KZ hbz
   obtain ⟨c0',c1',c2',c3',c4',c5',c6'⟩:=box_cells KZ
   refine bodyPost_ret (v := .tuple #[noneS.val,.int .i64 4]) (by simp [results,Tryz.results47,go_sem,noneS,St.val,c0',c1',c2',c3',c4',c5',c6']) rfl ?_
   exact ⟨noneS,by rw [HX.out];rfl,noneS_at _,⟨fun h=>absurd h (HNE.out),fun _=>⟨rfl,rfl,rfl,rfl,rfl,rfl,rfl⟩⟩,fun h=>absurd h (HNE.out),hbz⟩
  ·obtain ⟨i,rfl⟩:∃ i:Nat,k=i:=⟨k.toNat,by have:=inB_true h1;omega⟩
   have hi:i<s.ms.n:=by have:=inB_true h1;omega
   have HMV:=badMove_no (HR.out.fm.move i hi)
   obtain ⟨f,b,g,N,hm⟩:∃ (f b g:Nat) (N:Int),s.ms.z i=⟨g,f,b,N⟩:=⟨(s.ms.z i).l.toNat,(s.ms.z i).b.toNat,(s.ms.z i).o.toNat,(s.ms.z i).n,by rw [Int.toNat_of_nonneg HMV.1.1,Int.toNat_of_nonneg HMV.2.1.1,Int.toNat_of_nonneg HMV.2.2.1.1]⟩
   have HM:Hid (s.ms.z i=⟨g,f,b,N⟩):=hm
   rw [hm] at HMV
   dsimp only at HMV
   obtain ⟨u1,u2,u3,u4,u5,u6⟩:=HMV
   have hgn:g<p.ns:=by omega
   have hfn:f<p.nb:=by omega
   have hbn:b<p.nb:=by omega
   have hne:¬ f=b:=by omega
   have H1:Hid (inB (i:Int) 0 ((s.ms.n:Int) - 1)=true):=h1
   obtain ⟨bm,om,hma,hbm,y0,y1,y2,y3⟩:=hsk.ms.hds i hi
   rw [hm] at y0 y1 y2 y3
   dsimp only at y0 y1 y2 y3
   have HMA:Hid (s.ms.a=some ⟨bm,om,none⟩):=hma
   rw [hma] at c3
   obtain ⟨W2,hW2,hWB2,K2⟩:∃ W,w1.alloc (.cells #[.int .i64 (g:Int),.int .i64 (f:Int),.int .i64 (b:Int),.int .i64 N] 63)=W∧Below w1.heap.size w1 W∧Blk W w1.heap.size 63 4 (fun j=>(#[.int .i64 (g:Int),.int .i64 (f:Int),.int .i64 (b:Int),.int .i64 N]:Array Value).getD j default):=⟨_,rfl,(Below.refl _ _).alloc (Nat.le_refl _) _,Blk.mk' rfl rfl⟩
   have HW2:Hid (w1.alloc (.cells #[.int .i64 (g:Int),.int .i64 (f:Int),.int .i64 (b:Int),.int .i64 N] 63)=W2):=hW2
   have hB2:=hB.trans (hWB2.mono hB.size)
   have HMB:Hid (Blk W2 w1.heap.size 63 4 (fun j=>(#[.int .i64 (g:Int),.int .i64 (f:Int),.int .i64 (b:Int),.int .i64 N]:Array Value).getD j default)):=K2
   have q0:(0:Int)≤(i:Int):=by omega
   have q1:(i:Int)<(s.ms.n:Int):=by omega
   have A1:W0.heap.size≤w1.heap.size:=hB.size
   clear hpk hsk hBw hz hma hW2 K2 hm
   go_wp2_with (go_at_call 71;refine calls_to (Has_any _ _ _ msn0) ?_)
   rw [HW2.out]
   refine calls_to (Within_any _ _ _ _) ?_
   clear l1 d0 d1 l2 c0 c1 c2 c3 c4 c5 c6 hbm y0 y1 y2 y3 HW2 hWB2 hB h1
   generalize w1.heap.size=BM at *
   obtain ⟨⟨⟨l1,d0,d1⟩,l2,c0,c1,c2,c3,c4,c5,c6⟩,hpk,hsk,hBw,hz⟩:=HC.out W2 hB2
   rw [HMA.out] at c3
   cases h2:inB n 0 N
   ·have HX:Hid (movedE p s i n=3):=movedE_range H0.out H1.out (by rw [Int.toNat_natCast,HM.out];exact h2)
    have HNE:Hid (¬ movedE p s i n=0):=by show ¬ _;rw [HX.out];decide
    clear hpk hsk
    have zl:=hz.lt
    have zf0:=hz.frozen 0
    have zc0:=hz.cell (j:=0) (by decide)
    have zf1:=hz.frozen 1
    have zc1:=hz.cell (j:=1) (by decide)
    have zf2:=hz.frozen 2
    have zc2:=hz.cell (j:=2) (by decide)
    have zf3:=hz.frozen 3
    have zc3:=hz.cell (j:=3) (by decide)
    have zf4:=hz.frozen 4
    have zc4:=hz.cell (j:=4) (by decide)
    have zf5:=hz.frozen 5
    have zc5:=hz.cell (j:=5) (by decide)
    have zf6:=hz.frozen 6
    have zc6:=hz.cell (j:=6) (by decide)
    go_wp2_with fail
    have KZ:=set7_blk hz (.slice .none 0 0) (.slice .none 0 0) (.slice .none 0 0) (.slice .none 0 0) (.slice .none 0 0) (.slice .none 0 0) (.slice .none 0 0)
    have hbz:=set7_below (b:=w.heap.size+2) hBw (by omega) (.slice .none 0 0) (.slice .none 0 0) (.slice .none 0 0) (.slice .none 0 0) (.slice .none 0 0) (.slice .none 0 0) (.slice .none 0 0)
    unfold set7 at KZ hbz
    obtain ⟨c0',c1',c2',c3',c4',c5',c6'⟩:=box_cells KZ
    refine bodyPost_ret (v := .tuple #[noneS.val,.int .i64 3]) (by simp [results,Tryz.results47,go_sem,noneS,St.val,c0',c1',c2',c3',c4',c5',c6']) rfl ?_
    exact ⟨noneS,by rw [HX.out];rfl,noneS_at _,⟨fun h=>absurd h (HNE.out),fun _=>⟨rfl,rfl,rfl,rfl,rfl,rfl,rfl⟩⟩,fun h=>absurd h (HNE.out),hbz⟩
   ·have nn:=inB_true h2
    have H2:Hid (inB n 0 (s.ms.z (i:Int).toNat).n=true):=by show inB n 0 (s.ms.z (i:Int).toNat).n=true;rw [Int.toNat_natCast,HM.out];exact h2
    have onn:b<s.on.n:=by rw [HR.out.fm.sh.n];exact hbn
    have rn:=HR.out.fm.sh.len b onn
    have HSN:Hid ((s.on.r (s.ms.z (i:Int).toNat).b.toNat).z (s.ms.z (i:Int).toNat).o.toNat=(s.on.r b).z g):=by show _=_;rw [Int.toNat_natCast,HM.out];simp only [Int.toNat_natCast]
    obtain ⟨bo,oo,hoa,hbo,z0,hrow⟩:=hsk.on.rows b onn
    obtain ⟨br,orr,hra,hbr,z1⟩:=hrow.ints g (by omega)
    have v1:=hrow.le
    have v2:=hrow.cap
    have v3:=hsk.on.le
    have v4:=hsk.on.cap
    unfold maxLen at v2 v4
    have zb:=HR.out.fm.sh.num b onn g hgn
    have m0:W2.cell? ⟨BM,0,none⟩=some (.int .i64 g):=HMB.out.cell (j:=0) (by decide)
    have m2:W2.cell? ⟨BM,2,none⟩=some (.int .i64 b):=HMB.out.cell (j:=2) (by decide)
    have ml:=HMB.out.lt
    have q2:(0:Int)≤(b:Int):=by omega
    have q3:(b:Int)<(s.on.n:Int):=by omega
    have q4:(0:Int)≤(g:Int):=by omega
    have q5:(g:Int)<((s.on.r b).n:Int):=by omega
    rw [hoa] at c0
    rw [hra] at z0
    have rc0:=fun d os=>cell_regrown c0 d os
    have rz0:=fun d os=>cell_regrown z0 d os
    have rz1:=fun d os=>cell_regrown z1 d os
    have rm0:=fun d os=>cell_regrown m0 d os
    have rm2:=fun d os=>cell_regrown m2 d os
    generalize hZB:(s.on.r b).z g=ZB at *
    clear hoa hra hrow c1 c2 c3 c4 c5 c6 d0 d1 m0 m2 z0 z1 c0
    go_wp2_with fail
    refine wp_region_quiet_below (by kernel_rfl) (by kernel_rfl) ?_
    repeat (go_big_quiet_step (fail))
    refine wpQuiet_nil ?_
    intro w3 hw3
    have hB3':=below_of_regrown hw3
    have HMB:Hid (Blk w3 BM 63 4 (fun j=>(#[.int .i64 (g:Int),.int .i64 (f:Int),.int .i64 (b:Int),.int .i64 N]:Array Value).getD j default)):=HMB.out.below hB3'
    have hB3:=hB2.trans (hB3'.mono hB2.size)
    clear rc0 rz0 rz1 rm0 rm2 hw3 hbo hbr ml hpk hsk hBw hz l1 l2 hB3' hB2 v1 v2 v3 v4
    obtain ⟨⟨⟨l1,d0,d1⟩,l2,c0,c1,c2,c3,c4,c5,c6⟩,hpk,hsk,hBw,hz⟩:=HC.out w3 hB3
    by_cases h3:200<ZB+n
    ·have HX:Hid (movedE p s i n=2):=movedE_many H0.out H1.out H2.out (by rw [HSN.out];exact h3)
     have HNE:Hid (¬ movedE p s i n=0):=by show ¬ _;rw [HX.out];decide
     have h3':200 - ZB<n:=by omega
     clear hpk hsk
     have zl:=hz.lt
     have zf0:=hz.frozen 0
     have zc0:=hz.cell (j:=0) (by decide)
     have zf1:=hz.frozen 1
     have zc1:=hz.cell (j:=1) (by decide)
     have zf2:=hz.frozen 2
     have zc2:=hz.cell (j:=2) (by decide)
     have zf3:=hz.frozen 3
     have zc3:=hz.cell (j:=3) (by decide)
     have zf4:=hz.frozen 4
     have zc4:=hz.cell (j:=4) (by decide)
     have zf5:=hz.frozen 5
     have zc5:=hz.cell (j:=5) (by decide)
     have zf6:=hz.frozen 6
     have zc6:=hz.cell (j:=6) (by decide)
     go_wp2_with fail
     have KZ:=set7_blk hz (.slice .none 0 0) (.slice .none 0 0) (.slice .none 0 0) (.slice .none 0 0) (.slice .none 0 0) (.slice .none 0 0) (.slice .none 0 0)
     have hbz:=set7_below (b:=w.heap.size+2) hBw (by omega) (.slice .none 0 0) (.slice .none 0 0) (.slice .none 0 0) (.slice .none 0 0) (.slice .none 0 0) (.slice .none 0 0) (.slice .none 0 0)
     unfold set7 at KZ hbz
     obtain ⟨c0',c1',c2',c3',c4',c5',c6'⟩:=box_cells KZ
     refine bodyPost_ret (v := .tuple #[noneS.val,.int .i64 2]) (by simp [results,Tryz.results47,go_sem,noneS,St.val,c0',c1',c2',c3',c4',c5',c6']) rfl ?_
     exact ⟨noneS,by rw [HX.out];rfl,noneS_at _,⟨fun h=>absurd h (HNE.out),fun _=>⟨rfl,rfl,rfl,rfl,rfl,rfl,rfl⟩⟩,fun h=>absurd h (HNE.out),hbz⟩
    ·have HX:Hid (movedE p s i n=0):=movedE_ok H0.out H1.out H2.out (by rw [HSN.out];exact h3)
     have HI:Hid (MovedIn p s i f b g N n):=⟨HR.out,hi,HM.out,hfn,hbn,hgn,hne,nn.1,nn.2,u5,u6,by rw [hZB];omega⟩
     have h3':¬ 200 - ZB<n:=by omega
     have HCS:Hid (Calls Tryz.prog 90 #[s.val] w3 fun e w'=>∃ s':St,e = .returned s'.val∧SameT s' s∧OwnS w3.heap.size w' s'∧Below w3.heap.size w3 w'):=copyState_any p s w3 hsk HR.out.fm
     have HBw:Hid (Below w.heap.size w w3):=hBw
     clear hpk hsk hBw hz h3 HSN
     go_wp2_with fail
     refine Calls.mono HCS.out ?_
     rintro e w4 ⟨x0,rfl,hsame,hown,hB4⟩
     clear HCS l1 d0 d1 l2 c0 c1 c2 c3 c4 c5 c6 h2 h3'
     have HS0:Hid (SameT x0 s):=hsame
     have x0m:i<x0.ms.n:=by rw [hsame.ms.1];exact hi
     have x0f:f<x0.on.n:=by rw [hsame.on.1,HR.out.fm.sh.n];exact hfn
     have x0b:b<x0.on.n:=by rw [hsame.on.1,HR.out.fm.sh.n];exact hbn
     have x0fg:g<(x0.on.r f).n:=by rw [(hsame.on.2 f x0f).1,HR.out.fm.sh.len f (by rw [HR.out.fm.sh.n];exact hfn)];exact hgn
     have x0bg:g<(x0.on.r b).n:=by rw [(hsame.on.2 b x0b).1,HR.out.fm.sh.len b onn];exact hgn
     have vf:0≤(x0.on.r f).z g∧(x0.on.r f).z g≤200:=by rw [hsame.num HR.out.fm hfn hgn];exact HR.out.fm.sh.num f (by rw [HR.out.fm.sh.n];exact hfn) g hgn
     have vb:0≤(x0.on.r b).z g∧(x0.on.r b).z g≤200:=by rw [hsame.num HR.out.fm hbn hgn,hZB];exact zb
     obtain ⟨W5,hW5,hWB5,K5⟩:∃ W,w4.alloc (.cells #[.slice x0.on.a x0.on.n x0.on.c,.slice x0.os.a x0.os.n x0.os.c,.slice x0.hs.a x0.hs.n x0.hs.c,.slice x0.ms.a x0.ms.n x0.ms.c,.slice x0.si.a x0.si.n x0.si.c,.slice x0.so.a x0.so.n x0.so.c,.slice x0.sf.a x0.sf.n x0.sf.c] 31)=W∧Below w4.heap.size w4 W∧Blk W w4.heap.size 31 7 (fun j=>x0.cells.getD j default):=⟨_,rfl,(Below.refl _ _).alloc (Nat.le_refl _) _,Blk.mk' rfl rfl⟩
     have HW5:Hid (w4.alloc (.cells #[.slice x0.on.a x0.on.n x0.on.c,.slice x0.os.a x0.os.n x0.os.c,.slice x0.hs.a x0.hs.n x0.hs.c,.slice x0.ms.a x0.ms.n x0.ms.c,.slice x0.si.a x0.si.n x0.si.c,.slice x0.so.a x0.so.n x0.so.c,.slice x0.sf.a x0.sf.n x0.sf.c] 31)=W5):=hW5
     have hB35:=hB4.trans (hWB5.mono hB4.size)
     have A2:W0.heap.size≤w3.heap.size:=hB3.size
     have A3:w3.heap.size≤w4.heap.size:=hB4.size
     have HK5:Hid (RelK w3.heap.size w4.heap.size W0 x0 W5):=⟨OwnS.below hown hWB5,K5,hB3.trans (hB35.mono hB3.size),by have:=hB35.size;omega⟩
     have hbml:BM<w3.heap.size:=HMB.out.lt
     have HMB:Hid (Blk W5 BM 63 4 (fun j=>(#[.int .i64 (g:Int),.int .i64 (f:Int),.int .i64 (b:Int),.int .i64 N]:Array Value).getD j default)):=HMB.out.below hB35
     clear hW5 hown K5 hB4 hWB5 hB35 hsame zb
     obtain ⟨m1,p0,p1,p2,p3,p4,p5,p6⟩:=Boxed.of HK5.out.box
     have q6:(i:Int)+1≤9223372036854775807:=by omega
     rw [← HW5.out] at m1 p0 p1 p2 p3 p4 p5 p6
     simp only [St.val]
     go_wp2_with fail
     rw [HW5.out]
     clear m1 p0 p1 p2 p3 p4 p5 p6 HW5
     refine Calls.mono (DelM_any w3.heap.size x0 i W5 HK5.out.le HK5.out.own x0m) ?_
     rintro e w6 ⟨rfl,hown6,hB6,hk6⟩
     generalize w4.heap.size=B7 at *
     have hbox6:=hk6 _ _ _ _ (by decide) HK5.out.box
     have HK7:Hid (RelK w3.heap.size B7 W0 (withMoves x0 (delM x0.ms i)) (w6.setCell ⟨B7,3,none⟩ (.slice x0.ms.a (x0.ms.n - 1) x0.ms.c))):=HK5.out.moves A2 A3 (m:=delM x0.ms i) hown6 hB6 hk6
     have HMB:Hid (Blk (w6.setCell ⟨B7,3,none⟩ (.slice x0.ms.a (x0.ms.n - 1) x0.ms.c)) BM 63 4 (fun j=>(#[.int .i64 (g:Int),.int .i64 (f:Int),.int .i64 (b:Int),.int .i64 N]:Array Value).getD j default)):=(HMB.out.same (hB6.block BM hbml)).other (a:=⟨B7,3,none⟩) (show BM≠B7 by omega) _
     have zl:=hbox6.lt
     have zf3:=hbox6.frozen 3
     have zc3:=hbox6.cell (j:=3) (by decide)
     clear hown6 hB6 hk6 hbox6 HK5
     go_wp2_with fail
     clear zl zf3 zc3
     generalize w6.setCell ⟨B7,3,none⟩ (.slice x0.ms.a (x0.ms.n - 1) x0.ms.c)=W7 at *
     generalize hx1:withMoves x0 (delM x0.ms i)=x1 at *
     have x1f:f<x1.on.n:=by rw [← hx1];exact x0f
     have x1b:b<x1.on.n:=by rw [← hx1];exact x0b
     have x1fg:g<(x1.on.r f).n:=by rw [← hx1];exact x0fg
     have x1bg:g<(x1.on.r b).n:=by rw [← hx1];exact x0bg
     have wf:0≤(x1.on.r f).z g∧(x1.on.r f).z g≤200:=by rw [← hx1];exact vf
     have wb:0≤(x1.on.r b).z g∧(x1.on.r b).z g≤200:=by rw [← hx1];exact vb
     have HX1:Hid (withMoves x0 (delM x0.ms i)=x1):=hx1
     clear hx1 vf vb
     obtain ⟨g0,G,a1,a2,a3,a4,a5,a6,a7,a8,a9,a10,a11,a12⟩:=HK7.out.own.onCell x1f x1fg
     have u0:W7.cell? ⟨B7,0,none⟩=some (.slice x1.on.a x1.on.n x1.on.c):=HK7.out.box.cell (j:=0) (by decide)
     have u00:=HK7.out.box.lt
     rw [a1] at u0
     unfold maxLen at a8 a12
     have m0:W7.cell? ⟨BM,0,none⟩=some (.int .i64 g):=HMB.out.cell (j:=0) (by decide)
     have m1:W7.cell? ⟨BM,1,none⟩=some (.int .i64 f):=HMB.out.cell (j:=1) (by decide)
     have ml:=HMB.out.lt
     have r0:(0:Int)≤(f:Int):=by omega
     have r1:(f:Int)<(x1.on.n:Int):=by omega
     have r2:(0:Int)≤(g:Int):=by omega
     have r3:(g:Int)<((x1.on.r f).n:Int):=by omega
     have ru0:=fun d os=>cell_regrown u0 d os
     have ra3:=fun d os=>cell_regrown a3 d os
     have ra9:=fun d os=>cell_regrown a9 d os
     have rm0:=fun d os=>cell_regrown m0 d os
     have rm1:=fun d os=>cell_regrown m1 d os
     clear u0 a1 a3 a9 m0 m1
     refine wp_region_ph [(true,[0,1,2,3,4,5,6,7,8,9,10,11,12],some 13)] (by kernel_rfl) (by kernel_rfl) (by kernel_rfl) (by kernel_rfl) (by kernel_rfl) ?_
     refine ⟨fun w'=>∃ p:Regrown,w'=grow (redrawn W7 p.d) p.os,regrown_of_below ((Below.refl _ _).drew),fun h=>(by cases h),?_⟩
     simp only [picks,List.drop_succ_cons,List.drop_zero,List.take_succ_cons,List.take_zero,List.cons_append,List.nil_append]
     repeat (go_big_quiet_step (fail))
     refine wpQuiet_nil ?_
     clear ru0 ra3 ra9 rm0 rm1 u00 ml a2 a6 a10
     have hBd:Below W7.heap.size W7 W7.drew:=(Below.refl _ _).drew
     generalize W7.drew=wj at *
     have HKj:Hid (RelK w3.heap.size B7 W0 x1 wj):=HK7.out.below hBd
     have HMj:Hid (Blk wj BM 63 4 (fun j=>(#[.int .i64 (g:Int),.int .i64 (f:Int),.int .i64 (b:Int),.int .i64 N]:Array Value).getD j default)):=HMB.out.below hBd
     have gB:=(HKj.out.own.rowBlk x1f a4).2
     have b1:=gB.lt
     have b2:=gB.frozen g
     have b3:=gB.cell x1fg
     have HK8:Hid (RelK w3.heap.size B7 W0 (setOn x1 f g ((x1.on.r f).z g - n)) (wj.setCell ⟨G,g,none⟩ (.int .i64 ((x1.on.r f).z g - n)))):=HKj.out.setOn A2 x1f a4 g _
     have HMB:Hid (Blk (wj.setCell ⟨G,g,none⟩ (.int .i64 ((x1.on.r f).z g - n))) BM 63 4 (fun j=>(#[.int .i64 (g:Int),.int .i64 (f:Int),.int .i64 (b:Int),.int .i64 N]:Array Value).getD j default)):=HMj.out.other (a:=⟨G,g,none⟩) (Blk.ne2 HMj.out gB (by decide)) _
     clear hBd gB HK7 HKj HMj a4 a5 a7 a8 a11 a12
     refine wpOp_one 13 rfl ?_
     go_wp2_with fail
     refine NoPanic.normal ?_
     clear b1 b2 b3 r0 r1 r2 r3
     generalize wj.setCell ⟨G,g,none⟩ (.int .i64 ((x1.on.r f).z g - n))=W8 at *
     go_wp2_with fail
     generalize hx2:setOn x1 f g ((x1.on.r f).z g - n)=x2 at *
     have HX2:Hid (setOn x1 f g ((x1.on.r f).z g - n)=x2):=hx2
     have x2b:b<x2.on.n:=by rw [← hx2];exact x1b
     have x2bg:g<(x2.on.r b).n:=by rw [← hx2,setOn_len];exact x1bg
     have x2v:Hid ((x2.on.r b).z g=(x1.on.r b).z g):=by show (x2.on.r b).z g=_;rw [← hx2,setOn_num,if_neg (fun e=>hne e.1.symm)]
     have wb2:0≤(x2.on.r b).z g∧(x2.on.r b).z g≤200:=by rw [x2v.out];exact wb
     clear hx2
     obtain ⟨g0,G,a1,a2,a3,a4,a5,a6,a7,a8,a9,a10,a11,a12⟩:=HK8.out.own.onCell x2b x2bg
     have u0:W8.cell? ⟨B7,0,none⟩=some (.slice x2.on.a x2.on.n x2.on.c):=HK8.out.box.cell (j:=0) (by decide)
     have u00:=HK8.out.box.lt
     rw [a1] at u0
     unfold maxLen at a8 a12
     have m0:W8.cell? ⟨BM,0,none⟩=some (.int .i64 g):=HMB.out.cell (j:=0) (by decide)
     have m1:W8.cell? ⟨BM,2,none⟩=some (.int .i64 b):=HMB.out.cell (j:=2) (by decide)
     have ml:=HMB.out.lt
     have r0:(0:Int)≤(b:Int):=by omega
     have r1:(b:Int)<(x2.on.n:Int):=by omega
     have r2:(0:Int)≤(g:Int):=by omega
     have r3:(g:Int)<((x2.on.r b).n:Int):=by omega
     have ru0:=fun d os=>cell_regrown u0 d os
     have ra3:=fun d os=>cell_regrown a3 d os
     have ra9:=fun d os=>cell_regrown a9 d os
     have rm0:=fun d os=>cell_regrown m0 d os
     have rm1:=fun d os=>cell_regrown m1 d os
     clear u0 a1 a3 a9 m0 m1
     refine wp_region_ph [(true,[0,1,2,3,4,5,6,7,8,9,10,11,12],some 13)] (by kernel_rfl) (by kernel_rfl) (by kernel_rfl) (by kernel_rfl) (by kernel_rfl) ?_
     refine ⟨fun w'=>∃ p:Regrown,w'=grow (redrawn W8 p.d) p.os,regrown_of_below ((Below.refl _ _).drew),fun h=>(by cases h),?_⟩
     simp only [picks,List.drop_succ_cons,List.drop_zero,List.take_succ_cons,List.take_zero,List.cons_append,List.nil_append]
     repeat (go_big_quiet_step (fail))
     refine wpQuiet_nil ?_
     clear ru0 ra3 ra9 rm0 rm1 u00 ml a2 a6 a10
     have hBd:Below W8.heap.size W8 W8.drew:=(Below.refl _ _).drew
     generalize W8.drew=wj at *
     have HKj:Hid (RelK w3.heap.size B7 W0 x2 wj):=HK8.out.below hBd
     have HMj:Hid (Blk wj BM 63 4 (fun j=>(#[.int .i64 (g:Int),.int .i64 (f:Int),.int .i64 (b:Int),.int .i64 N]:Array Value).getD j default)):=HMB.out.below hBd
     have gB:=(HKj.out.own.rowBlk x2b a4).2
     have b1:=gB.lt
     have b2:=gB.frozen g
     have b3:=gB.cell x2bg
     have HK9:Hid (RelK w3.heap.size B7 W0 (setOn x2 b g ((x2.on.r b).z g+n)) (wj.setCell ⟨G,g,none⟩ (.int .i64 ((x2.on.r b).z g+n)))):=HKj.out.setOn A2 x2b a4 g _
     have HMB:Hid (Blk (wj.setCell ⟨G,g,none⟩ (.int .i64 ((x2.on.r b).z g+n))) BM 63 4 (fun j=>(#[.int .i64 (g:Int),.int .i64 (f:Int),.int .i64 (b:Int),.int .i64 N]:Array Value).getD j default)):=HMj.out.other (a:=⟨G,g,none⟩) (Blk.ne2 HMj.out gB (by decide)) _
     clear hBd gB HK8 HKj HMj a4 a5 a7 a8 a11 a12
     refine wpOp_one 13 rfl ?_
     go_wp2_with fail
     refine NoPanic.normal ?_
     clear b1 b2 b3 r0 r1 r2 r3
     generalize wj.setCell ⟨G,g,none⟩ (.int .i64 ((x2.on.r b).z g+n))=W9 at *
     generalize hx3:setOn x2 b g ((x2.on.r b).z g+n)=x3 at *
     have HSM:Hid (SameT x3 (movedT s i n)):=by
      have h:=movedW_same HI.out HS0.out (q:=delM x0.ms i) (by show x0.ms.n - 1=_;rw [HS0.out.ms.1]) (fun j hj=>by
       have hj':j<x0.ms.n - 1:=hj
       show (if j<i then x0.ms.z j else x0.ms.z (j+1))=if j<i then s.ms.z j else s.ms.z (j+1)
       rw [HS0.out.ms.2 j (by omega),HS0.out.ms.2 (j+1) (by omega)])
      have e:movedW x0 (delM x0.ms i) f b g n=x3:=by
       unfold movedW
       rw [← hx3,x2v.out,← HX2.out,← HX1.out]
       rfl
      rw [e] at h
      exact h
     clear hx3 x2v
     obtain ⟨m1,p0,p1,p2,p3,p4,p5,p6⟩:=Boxed.of HK9.out.box
     obtain ⟨-,-,-,hBw,hz⟩:=HC.out W9 HK9.out.bel
     have HZ:Hid (Below w.heap.size w W9∧Blk W9 (w.heap.size+2) 31 7 (fun _ => .slice .none 0 0)):=⟨hBw,hz⟩
     have zl:=hz.lt
     have zf0:=hz.frozen 0
     have zc0:=hz.cell (j:=0) (by decide)
     have zf1:=hz.frozen 1
     have zc1:=hz.cell (j:=1) (by decide)
     have zf2:=hz.frozen 2
     have zc2:=hz.cell (j:=2) (by decide)
     have zf3:=hz.frozen 3
     have zc3:=hz.cell (j:=3) (by decide)
     have zf4:=hz.frozen 4
     have zc4:=hz.cell (j:=4) (by decide)
     have zf5:=hz.frozen 5
     have zc5:=hz.cell (j:=5) (by decide)
     have zf6:=hz.frozen 6
     have zc6:=hz.cell (j:=6) (by decide)
     have hlow:=(HC.out _ (Below.refl _ _)).2.2.2.1.size
     clear hBw hz x0m x0f x0b x0fg x0bg x1f x1b x1fg x1bg wf wb x2b x2bg wb2 u1 u2 u3 u4 u5 u6 q0 q1 q2 q3 q4 q5 q6 rn hZB hi onn nn hgn hfn hbn hne hbml HMB HX1 HX2 msl msc0 msn0 msc msn leb capb0 les caps0 capb caps
     go_wp2_with fail
     have KZ:=set7_blk HZ.out.2 (.slice x3.on.a x3.on.n x3.on.c) (.slice x3.os.a x3.os.n x3.os.c) (.slice x3.hs.a x3.hs.n x3.hs.c) (.slice x3.ms.a x3.ms.n x3.ms.c) (.slice x3.si.a x3.si.n x3.si.c) (.slice x3.so.a x3.so.n x3.so.c) (.slice x3.sf.a x3.sf.n x3.sf.c)
     have hbz:=set7_below (b:=w.heap.size+2) HZ.out.1 (by omega) (.slice x3.on.a x3.on.n x3.on.c) (.slice x3.os.a x3.os.n x3.os.c) (.slice x3.hs.a x3.hs.n x3.hs.c) (.slice x3.ms.a x3.ms.n x3.ms.c) (.slice x3.si.a x3.si.n x3.si.c) (.slice x3.so.a x3.so.n x3.so.c) (.slice x3.sf.a x3.sf.n x3.sf.c)
     have hOz:=OwnS.set7 HK9.out.own HZ.out.2 (.slice x3.on.a x3.on.n x3.on.c) (.slice x3.os.a x3.os.n x3.os.c) (.slice x3.hs.a x3.hs.n x3.hs.c) (.slice x3.ms.a x3.ms.n x3.ms.c) (.slice x3.si.a x3.si.n x3.si.c) (.slice x3.so.a x3.so.n x3.so.c) (.slice x3.sf.a x3.sf.n x3.sf.c)
     unfold set7 at KZ hbz hOz
     obtain ⟨c0',c1',c2',c3',c4',c5',c6'⟩:=box_cells KZ
     refine bodyPost_ret (v := .tuple #[x3.val,.int .i64 0]) (by simp [results,Tryz.results47,go_sem,St.val,c0',c1',c2',c3',c4',c5',c6']) rfl ?_
     exact ⟨x3,by rw [HX.out];rfl,hOz.at,⟨fun _=>HSM.out,fun h=>absurd HX.out h⟩,fun _=>hOz.mono (by omega),hbz⟩
 ·have HX:Hid (movedE p s k n=stateE p s):=movedE_state h0
  have HNE:Hid (¬ movedE p s k n=0):=by show ¬ _;rw [movedE_state h0];exact h0
  have g0:(stateE p s !=0)=true:=by simpa using h0
  clear h0
  clear hpk hsk
  have zl:=hz.lt
  have zf0:=hz.frozen 0
  have zc0:=hz.cell (j:=0) (by decide)
  have zf1:=hz.frozen 1
  have zc1:=hz.cell (j:=1) (by decide)
  have zf2:=hz.frozen 2
  have zc2:=hz.cell (j:=2) (by decide)
  have zf3:=hz.frozen 3
  have zc3:=hz.cell (j:=3) (by decide)
  have zf4:=hz.frozen 4
  have zc4:=hz.cell (j:=4) (by decide)
  have zf5:=hz.frozen 5
  have zc5:=hz.cell (j:=5) (by decide)
  have zf6:=hz.frozen 6
  have zc6:=hz.cell (j:=6) (by decide)
  go_wp2_with fail
  have KZ:=set7_blk hz (.slice .none 0 0) (.slice .none 0 0) (.slice .none 0 0) (.slice .none 0 0) (.slice .none 0 0) (.slice .none 0 0) (.slice .none 0 0)
  have hbz:=set7_below (b:=w.heap.size+2) hBw (by omega) (.slice .none 0 0) (.slice .none 0 0) (.slice .none 0 0) (.slice .none 0 0) (.slice .none 0 0) (.slice .none 0 0) (.slice .none 0 0)
  unfold set7 at KZ hbz
  obtain ⟨c0',c1',c2',c3',c4',c5',c6'⟩:=box_cells KZ
  refine bodyPost_ret (v := .tuple #[noneS.val,.int .i64 (stateE p s)]) (by simp [results,Tryz.results47,go_sem,noneS,St.val,c0',c1',c2',c3',c4',c5',c6']) rfl ?_
  exact ⟨noneS,by rw [HX.out];rfl,noneS_at _,⟨fun h=>absurd h (HNE.out),fun _=>⟨rfl,rfl,rfl,rfl,rfl,rfl,rfl⟩⟩,fun h=>absurd h (HNE.out),hbz⟩
end Go.Proofs.YtbcacebifpagpagGreat
namespace Go.Proofs.YtbcacebifpagpagGreat
open Go.RowKit Go.MapKept Go.ChangeMaps
set_option linter.unusedVariables false
def mkey (o l:Nat):Value := .agg #[.int .i64 (o:Int),.int .i64 (l:Int)]
theorem mkey_inj {o l o' l':Nat} (h:mkey o l=mkey o' l'):o=o'∧l=l':=by
 unfold mkey at h
 simp only [Value.agg.injEq] at h
 have h1:(#[.int .i64 (o:Int),.int .i64 (l:Int)]:Array Value)[0]?=(#[.int .i64 (o':Int),.int .i64 (l':Int)]:Array Value)[0]?:=by rw [h]
 have h2:(#[.int .i64 (o:Int),.int .i64 (l:Int)]:Array Value)[1]?=(#[.int .i64 (o':Int),.int .i64 (l':Int)]:Array Value)[1]?:=by rw [h]
 simp at h1 h2
 omega
set_option maxRecDepth 100000 in
theorem key_law:WideMaps.KeyLaw Tryz.prog 180 :=
 deep_law_gate (show laidOutB Tryz.prog=true by kernel_rfl) (of_decide_eq_true (by kernel_rfl)) (of_decide_eq_true (by kernel_rfl)) (by kernel_rfl) (by kernel_rfl)
set_option maxRecDepth 100000 in
theorem mkey_all:((List.range 4).all fun o=>(List.range 3).all fun l=>(keyOf Tryz.prog 180 (mkey o l)).isSome)=true:=by kernel_rfl
theorem mkey_of {o l:Nat} (ho:o<4) (hl:l<3):∃ k,keyOf Tryz.prog 180 (mkey o l)=some k :=
 Option.isSome_iff_exists.1 (List.all_eq_true.1 (List.all_eq_true.1 mkey_all o (List.mem_range.2 ho)) l (List.mem_range.2 hl))
theorem map_under:Tryz.prog.underlying 137=some (.map 180 3):=by kernel_rfl
def MapQ (w:World) (r:Nat) (q:Int→Int→Int):Prop:=∃ es clock,w.heap[r]?=some (.map es clock)∧Stamped es clock∧(∀ x,x∈es.toList→∃ o l:Nat,o<4∧l<3∧x.key=mkey o l∧x.val = .int .i64 (q o l))∧∀ o l:Nat,o<4→l<3→(∀ x,x∈es.toList→x.key≠mkey o l)→q o l=0
theorem MapQ.lt {w:World} {r:Nat} {q:Int→Int→Int} (h:MapQ w r q):r<w.heap.size:=by
 obtain ⟨es,c,h1,-⟩:=h
 exact (Array.getElem?_eq_some_iff.1 h1).1
theorem MapQ.same {w w':World} {r:Nat} {q:Int→Int→Int} (h:MapQ w r q) (e:w'.heap[r]?=w.heap[r]?):MapQ w' r q:=by
 obtain ⟨es,c,h1,h2⟩:=h
 exact ⟨es,c,e.trans h1,h2⟩
theorem MapQ.below {w w':World} {r:Nat} {q:Int→Int→Int} (h:MapQ w r q) (hB:Below w.heap.size w w'):MapQ w' r q:=h.same (hB.block r h.lt)
theorem MapQ.set {w:World} {r:Nat} {q:Int→Int→Int} (h:MapQ w r q) {g j:Nat} (hne:r≠g) (u:Value):MapQ (w.setCell ⟨g,j,none⟩ u) r q:=h.same (Below.heap_setCell w ⟨g,j,none⟩ u r hne)
theorem MapQ.new (w:World):MapQ (w.alloc (.map #[] 0)) w.heap.size (fun _ _=>0):=by
 refine ⟨#[],0,(heap_alloc w _).1,stamped_empty 0,fun x hx=>by simp at hx,fun _ _ _ _ _=>rfl⟩
theorem MapQ.congr {w:World} {r:Nat} {q q':Int→Int→Int} (h:MapQ w r q) (e:∀ o l:Nat,o<4→l<3→q' o l=q o l):MapQ w r q':=by
 obtain ⟨es,c,h1,h2,h3,h4⟩:=h
 refine ⟨es,c,h1,h2,fun x hx => ?_,fun o l ho hl hn=>by rw [e o l ho hl];exact h4 o l ho hl hn⟩
 obtain ⟨o,l,ho,hl,hk,hv⟩:=h3 x hx
 exact ⟨o,l,ho,hl,hk,by rw [e o l ho hl];exact hv⟩
theorem MapQ.keys {es:Array MapEntry} {q:Int→Int→Int} (h3:∀ x,x∈es.toList→∃ o l:Nat,o<4∧l<3∧x.key=mkey o l∧x.val = .int .i64 (q o l)):∀ e∈es.toList,∃ l,keyOf Tryz.prog 180 e.key=some l:=fun e he=>by
 obtain ⟨o,l,ho,hl,hk,-⟩:=h3 e he
 rw [hk]
 exact mkey_of ho hl
theorem map_look {w:World} {r:Nat} {q:Int→Int→Int} (h:MapQ w r q) {o l:Nat} (ho:o<4) (hl:l<3):(Instr.lookup 137 (.map (some r)) (mkey o l) false).run Tryz.prog w = .ok (.int .i64 (q o l)) w:=by
 obtain ⟨es,c,h1,h2,h3,h4⟩:=h
 obtain ⟨k,hk⟩:=mkey_of ho hl
 rcases key_law.find w hk es.toList (MapQ.keys h3) with ⟨f1,f2⟩ | ⟨j,e,f1,f2,f3⟩
 ·have h0:=h4 o l ho hl f2
  simp [Instr.lookup,run_underlying map_under,MapKept.run_getObj_map h1,key_law.check w _ hk,f1,Result.andThen,h0]
 ·obtain ⟨o',l',-,-,hk',hv⟩:=h3 e (List.mem_of_getElem? f2)
  rw [f3] at hk'
  obtain ⟨rfl,rfl⟩:=mkey_inj hk'
  simp [Instr.lookup,run_underlying map_under,MapKept.run_getObj_map h1,key_law.check w _ hk,f1,Result.andThen,hv]
def setQ (q:Int→Int→Int) (o l:Nat) (v:Int) (a b:Int):Int:=if a=o∧b=l then v else q a b
structure KeepR (r:Nat) (w w':World):Prop where
 os:w'.os=w.os
 tape:w'.tape=w.tape
 output:w'.output=w.output
 size:w'.heap.size=w.heap.size
 block:∀ k,k≠r→w'.heap[k]?=w.heap[k]?
theorem keepR_set {w:World} {r:Nat} {x:Obj} (o:Obj) (h:w.heap[r]?=some x):KeepR r w (setBlock w r o):=⟨rfl,rfl,rfl,by simp [setBlock],(heap_set h).2⟩
theorem KeepR.trans {r:Nat} {a b c:World} (h:KeepR r a b) (k:KeepR r b c):KeepR r a c:=⟨k.os.trans h.os,k.tape.trans h.tape,k.output.trans h.output,k.size.trans h.size,fun q hq=>(k.block q hq).trans (h.block q hq)⟩
theorem KeepR.below {A r:Nat} {a b c:World} (k:KeepR r b c) (h:Below A a b) (hr:A≤r):Below A a c:=⟨k.os.trans h.os,k.tape.trans h.tape,k.output.trans h.output,by rw [k.size];exact h.size,fun q hq=>(k.block q (by omega)).trans (h.block q hq)⟩
theorem map_entry {w:World} {r:Nat} {q:Int→Int→Int} (h:MapQ w r q) {o l:Nat} (ho:o<4) (hl:l<3) :
  ∃ (v0:Value) (st:Nat) (w1:World),(Instr.mapEntry 137 (.map (some r)) (mkey o l)).run Tryz.prog w = .ok (.tuple #[v0,goInt st]) w1∧KeepR r w w1∧MapQ w1 r q ∧
   ∀ v:Int,∃ w2,(Instr.entryStore 137 (.map (some r)) (goInt st) (.int .i64 v)).run Tryz.prog w1 = .ok () w2∧MapQ w2 r (setQ q o l v)∧KeepR r w w2:=by
 obtain ⟨es,c,h1,h2,h3,h4⟩:=h
 obtain ⟨k,hk⟩:=mkey_of ho hl
 obtain ⟨s1,s2,s3⟩:=h2
 have hlt:=(Array.getElem?_eq_some_iff.1 h1).1
 rcases key_law.find w hk es.toList (MapQ.keys h3) with ⟨f1,f2⟩ | ⟨j,e,f1,f2,f3⟩
 ·refine ⟨.int .i64 0,c,setBlock w r (.map (es.push ⟨mkey o l,.int .i64 0,c⟩) (c+1)),?_,keepR_set _ h1,⟨_,_,(heap_set h1).1,stamped_push ⟨s1,s2,s3⟩ f2,fun x hx => ?_,fun a b ha hb hn=>h4 a b ha hb fun x hx=>hn x (by rw [Array.toList_push];simp [hx])⟩,fun v => ?_⟩
  ·simp [Instr.mapEntry,run_underlying map_under,MapKept.run_getObj_map h1,key_law.check w false hk,f1,MapKept.run_setObj_map _ h1,Result.andThen,setBlock]
  ·rw [Array.toList_push,List.mem_append,List.mem_singleton] at hx
   rcases hx with hx | rfl
   ·exact h3 x hx
   ·exact ⟨o,l,ho,hl,rfl,by rw [h4 o l ho hl f2]⟩
  ·have hw1:(setBlock w r (.map (es.push ⟨mkey o l,.int .i64 0,c⟩) (c+1))).heap[r]?=some (.map (es.push ⟨mkey o l,.int .i64 0,c⟩) (c+1)):=(heap_set h1).1
   have st1:Stamped (es.push ⟨mkey o l,.int .i64 0,c⟩) (c+1):=stamped_push ⟨s1,s2,s3⟩ f2
   have hidx:(es.push ⟨mkey o l,.int .i64 0,c⟩).findIdx? (fun e=>((e.born:Nat):Int)==((c:Nat):Int))=some es.size:=by
    rw [WideElems.findIdx_arr]
    exact WideElems.findIdx_born (l:=(es.push ⟨mkey o l,.int .i64 0,c⟩).toList) (j:=es.size) (e0:=⟨mkey o l,.int .i64 0,c⟩) st1.2.1 (by simp)
   have hmod:(es.push ⟨mkey o l,.int .i64 0,c⟩).modify es.size (fun e=>{ e with val := .int .i64 v })=es.push ⟨mkey o l,.int .i64 v,c⟩:=by
    apply Array.ext'
    rw [Array.toList_modify,Array.toList_push,Array.toList_push,← Array.length_toList,WideElems.modify_last]
   refine ⟨setBlock (setBlock w r (.map (es.push ⟨mkey o l,.int .i64 0,c⟩) (c+1))) r (.map (es.push ⟨mkey o l,.int .i64 v,c⟩) (c+1)),?_,⟨_,_,(heap_set hw1).1,stamped_push ⟨s1,s2,s3⟩ f2,fun x hx => ?_,fun a b ha hb hn => ?_⟩,(keepR_set _ h1).trans (keepR_set _ hw1)⟩
   ·generalize setBlock w r (.map (es.push ⟨mkey o l,.int .i64 0,c⟩) (c+1))=W1 at hw1 ⊢
    simp [Instr.entryStore,MapKept.run_getObj_map hw1,asInt,asIntOf,goInt,hidx,hmod,MapKept.run_setObj_map _ hw1,Result.andThen,setBlock]
   ·rw [Array.toList_push,List.mem_append,List.mem_singleton] at hx
    rcases hx with hx | rfl
    ·obtain ⟨a,b,ha,hb,hk',hv⟩:=h3 x hx
     refine ⟨a,b,ha,hb,hk',?_⟩
     have:¬ ((a:Int)=o∧(b:Int)=l):=fun e=>f2 x hx (by rw [hk',show a=o by omega,show b=l by omega])
     rw [hv]
     unfold setQ
     rw [if_neg this]
    ·refine ⟨o,l,ho,hl,rfl,?_⟩
     unfold setQ
     rw [if_pos ⟨rfl,rfl⟩]
   ·have hne:¬ ((a:Int)=o∧(b:Int)=l):=fun e=>hn ⟨mkey o l,.int .i64 v,c⟩ (by rw [Array.toList_push];simp) (by show mkey o l=mkey a b;rw [show a=o by omega,show b=l by omega])
    unfold setQ
    rw [if_neg hne]
    exact h4 a b ha hb fun x hx=>hn x (by rw [Array.toList_push];simp [hx])
 ·have hj:es[j]?=some e:=by simpa using f2
  have hsame:es.modify j (fun e=>{ e with key:=mkey o l })=es:=by
   apply Array.ext'
   rw [Array.toList_modify,ChangeMaps.modify_eq_set _ _ _ _ f2]
   have:({ e with key:=mkey o l }:MapEntry)=e:=by rw [← f3]
   rw [this]
   exact WideElems.set_self _ _ _ f2
  have hw1:(setBlock w r (.map es c)).heap[r]?=some (.map es c):=(heap_set h1).1
  refine ⟨e.val,e.born,setBlock w r (.map es c),?_,keepR_set _ h1,⟨es,c,hw1,⟨s1,s2,s3⟩,h3,h4⟩,fun v => ?_⟩
  ·simp [Instr.mapEntry,run_underlying map_under,MapKept.run_getObj_map h1,key_law.check w false hk,f1,hj,f3,key_law.stays w hk,hsame,MapKept.run_setObj_map _ h1,Result.andThen,setBlock]
  ·have hidx:es.findIdx? (fun x=>((x.born:Nat):Int)==((e.born:Nat):Int))=some j:=by
    rw [WideElems.findIdx_arr]
    exact WideElems.findIdx_born s2 f2
   have ml:(es.modify j (fun e=>{ e with val := .int .i64 v })).toList=es.toList.set j { e with val := .int .i64 v }:=by
    rw [Array.toList_modify,ChangeMaps.modify_eq_set _ _ _ _ f2]
   have mem:∀ x,x∈(es.modify j (fun e=>{ e with val := .int .i64 v })).toList→x={ e with val := .int .i64 v }∨x∈es.toList∧x.key≠mkey o l:=fun x hx=>by
    rw [ml] at hx
    obtain ⟨i,hi,hx⟩:=List.mem_iff_getElem.1 hx
    rw [List.getElem_set] at hx
    by_cases hij:j=i
    ·rw [if_pos hij] at hx
     exact Or.inl hx.symm
    ·rw [if_neg hij] at hx
     have hi':i<es.toList.length:=by rw [List.length_set] at hi;exact hi
     have hj':j<es.toList.length:=(List.getElem?_eq_some_iff.1 f2).1
     refine Or.inr ⟨by rw [← hx];exact List.getElem_mem hi',fun ek => ?_⟩
     have ej:es.toList[j]=e:=(List.getElem?_eq_some_iff.1 f2).2
     rcases Nat.lt_or_gt_of_ne hij with h' | h'
     ·exact (List.pairwise_iff_getElem.1 (List.pairwise_map.1 s3)) j i hj' hi' h' (by rw [ej,f3,hx,ek])
     ·exact (List.pairwise_iff_getElem.1 (List.pairwise_map.1 s3)) i j hi' hj' h' (by rw [ej,f3,hx,ek])
   obtain ⟨o',l',-,-,hk',hv'⟩:=h3 e (List.mem_of_getElem? f2)
   have hin:({ e with val := .int .i64 v }:MapEntry)∈(es.modify j (fun e=>{ e with val := .int .i64 v })).toList:=by
    rw [ml]
    exact List.mem_iff_getElem.2 ⟨j,by rw [List.length_set];exact (List.getElem?_eq_some_iff.1 f2).1,by simp⟩
   refine ⟨setBlock (setBlock w r (.map es c)) r (.map (es.modify j (fun e=>{ e with val := .int .i64 v })) c),?_,⟨_,_,(heap_set hw1).1,stamped_modify ⟨s1,s2,s3⟩ j _ (fun _ _=>rfl) (fun _ _ _=>rfl),fun x hx => ?_,fun a b ha hb hn => ?_⟩,(keepR_set _ h1).trans (keepR_set _ hw1)⟩
   ·generalize setBlock w r (.map es c)=W1 at hw1 ⊢
    simp [Instr.entryStore,MapKept.run_getObj_map hw1,asInt,asIntOf,goInt,hidx,MapKept.run_setObj_map _ hw1,Result.andThen,setBlock]
   ·rcases mem x hx with rfl | ⟨hx,hne⟩
    ·refine ⟨o,l,ho,hl,f3,?_⟩
     unfold setQ
     rw [if_pos ⟨rfl,rfl⟩]
    ·obtain ⟨a,b,ha,hb,hk2,hv⟩:=h3 x hx
     refine ⟨a,b,ha,hb,hk2,?_⟩
     have:¬ ((a:Int)=o∧(b:Int)=l):=fun e=>hne (by rw [hk2,show a=o by omega,show b=l by omega])
     rw [hv]
     unfold setQ
     rw [if_neg this]
   ·have hne:¬ ((a:Int)=o∧(b:Int)=l):=fun e'=>hn _ hin (by show e.key=_;rw [f3,show a=o by omega,show b=l by omega])
    unfold setQ
    rw [if_neg hne]
    refine h4 a b ha hb fun x hx ek => ?_
    obtain ⟨i,hi,hxi⟩:=List.mem_iff_getElem.1 hx
    by_cases hij:j=i
    ·subst hij
     have:x=e:=by rw [← hxi];exact (List.getElem?_eq_some_iff.1 f2).2
     rw [this,f3] at ek
     obtain ⟨rfl,rfl⟩:=mkey_inj ek
     exact hne ⟨rfl,rfl⟩
    ·exact hn x (by
      rw [ml]
      exact List.mem_iff_getElem.2 ⟨i,by rw [List.length_set];exact hi,by rw [List.getElem_set_ne hij];exact hxi⟩) ek
end Go.Proofs.YtbcacebifpagpagGreat
namespace Go.Proofs.YtbcacebifpagpagGreat
open Go.RowKit Go.Shelf Go.Sort
set_option linter.unusedVariables false
def KeepS (g:Nat) (w w':World):Prop:=KeepG g w w'∧∀ (cur:Array Value) (e:TypeId),w.heap[g]?=some (.cells cur e (0,0))→∃ cur',w'.heap[g]?=some (.cells cur' e (0,0))∧cur'.size=cur.size
theorem KeepS.refl (g:Nat) (w:World):KeepS g w w:=⟨KeepG.refl g w,fun cur e h=>⟨cur,h,rfl⟩⟩
theorem KeepS.below {g:Nat} {w wk wj:World} (h:KeepS g w wk) (hB:Below wk.heap.size wk wj):KeepS g w wj:=⟨h.1.below hB,fun cur e hc=>by
 obtain ⟨c',h1,h2⟩:=h.2 cur e hc
 exact ⟨c',(hB.block g (Array.getElem?_eq_some_iff.1 h1).1).trans h1,h2⟩⟩
theorem KeepS.cells {g:Nat} {w:World} (vs:List Value) (o:Nat) (wk:World) (h:KeepS g w wk):KeepS g w (wk.setCells g o vs):=⟨KeepG.cells vs o wk h.1,fun cur e hc=>by
 obtain ⟨c',h1,h2⟩:=h.2 cur e hc
 obtain ⟨c2,k1,k2⟩:=cells_size (m:=cur.size) vs o wk ⟨c',h1,h2⟩
 exact ⟨c2,k1,k2⟩⟩
theorem KeepS.set {g:Nat} {w wk:World} (h:KeepS g w wk) (j:Nat) (u:Value):KeepS g w (wk.setCell ⟨g,j,none⟩ u):=KeepS.cells [u] j wk h
theorem KeepS.set4 {g:Nat} {w wk:World} (h:KeepS g w wk) (i:Nat) (x:Hd):KeepS g w (Go.Proofs.YtbcacebifpagpagGreat.set4 wk g i x):=by
 unfold Go.Proofs.YtbcacebifpagpagGreat.set4
 exact (((h.set _ _).set _ _).set _ _).set _ _
set_option maxHeartbeats 400000 in
theorem idxMv (f:Nat) (caps:Array Value) (bad:Hd→Bool) (A:Nat) (a:Option Addr) (n c:Nat) (w:World) (hA:A≤w.heap.size) (hn:n≤c) (hc:c≤maxLen) (z:Nat→Hd) (hz:HdsAt w a n z)
  (eg:∀ args w,(callFunc f args).run Tryz.prog w = .ok (.enter f args) w)
  (hf:Hid (∀ (x:Hd) w1,Below A w w1→Calls Tryz.prog f (#[x.val]++caps) w1 fun e w'=>e = .returned (.bool (bad x))∧Below w1.heap.size w1 w')) :
  Calls Tryz.prog 134 #[.slice a n c,.func (.func f) #[] caps] w fun e w'=>((e = .returned (.int .i64 (-1))∧∀ j,j<n→bad (z j)=false)∨∃ k,k<n∧e = .returned (.int .i64 (k:Nat))∧bad (z k)=true∧∀ j,j<k→bad (z j)=false)∧Below w.heap.size w w':=by
 unfold maxLen at hc
 go_enter Tryz.func134,Tryz.ntmps134
 go_wp2_with fail
 go_loopw [8] (fun i w1=>∃ k:Nat,k≤n∧i = .int .i64 k∧Hid (∀ j,j<k→bad (z j)=false)∧Below w.heap.size w w1) (fun i _=>n - (intOf i).toNat)
 case atStart=>exact ⟨0,Nat.zero_le _,rfl,fun j hj=>absurd hj (Nat.not_lt_zero _),Below.refl _ _⟩
 case round =>
  obtain ⟨k,hk,rfl,HN,hB⟩:=hrel
  by_cases hlt:k<n
  ·obtain ⟨b,o,rfl,_,hcell0,hcell1,hcell2,hcell3⟩:=(hz.below hB) k hlt
   clear hz
   have HE:Hid (∀ j,j<k+1→bad (z k)=false→bad (z j)=false):=fun j hj h=>by
    by_cases hjk:j=k
    ·rw [hjk];exact h
    ·exact HN.out j (by omega)
   go_wp2_with fail
   refine (hf.out (z k) wr (hB.mono hA)).mono ?_
   rintro e w1 ⟨rfl,hB1⟩
   have hB2:=hB.trans (hB1.mono hB.size)
   cases hbad:bad (z k)
   ·have HN2:Hid (∀ j,j<k+1→bad (z j)=false):=fun j hj=>HE.out j hj hbad
    clear HE HN
    go_wp2_with fail
    go_roundw
    case rel=>exact ⟨k+1,by omega,by go_num,HN2,hB2⟩
    case measure=>simp [intOf];omega
   ·go_wp2_with fail
    go_ret
    exact ⟨Or.inr ⟨k,hlt,rfl,hbad,HN.out⟩,hB2⟩
  ·go_wp2_with fail
   go_ret
   have hkn:k=n:=by omega
   subst hkn
   exact ⟨Or.inl ⟨rfl,HN.out⟩,hB⟩
def DelAtMv (g:Nat) (bad:Hd→Bool) (xs:List Hd) (k:Nat) (wk:World):Prop:=∃ c:Nat→Hd,Blk wk g 63 (xs.length*4) (hc c)∧(∀ q,q<(stayH bad xs k).length→c q=(stayH bad xs k).getD q hd0)∧∀ q,k≤q→q<xs.length→c q=xs.getD q hd0
set_option maxRecDepth 100000 in
set_option maxHeartbeats 2000000 in
theorem DelMv_any (f:Nat) (caps:Array Value) (bad:Hd→Bool) (A g cap:Nat) (xs:List Hd) (w:World) (hA:A≤g) (hA2:A≤w.heap.size) (hn:xs.length≤cap) (hcap:cap≤maxLen) (hb:Blk w g 63 (xs.length*4) (hc fun j=>xs.getD j hd0))
  (eg:∀ args w,(callFunc f args).run Tryz.prog w = .ok (.enter f args) w)
  (hf:Hid (∀ (x:Hd) w1,Below A w w1→Calls Tryz.prog f (#[x.val]++caps) w1 fun e w'=>e = .returned (.bool (bad x))∧Below w1.heap.size w1 w')) :
  Calls Tryz.prog 151 #[.slice (some ⟨g,0,none⟩) xs.length cap,.func (.func f) #[] caps] w fun e w'=>e = .returned (.slice (some ⟨g,0,none⟩) (xs.filter (fun x => !bad x)).length cap)∧Blk w' g 63 ((xs.filter (fun x => !bad x)).length*4) (hc fun j=>(xs.filter (fun x => !bad x)).getD j hd0)∧Below A w w'∧KeepS g w w':=by
 have hcap0:=hcap
 unfold maxLen at hcap
 have HBK:Hid (Blk w g 63 (xs.length*4) (hc fun j=>xs.getD j hd0)):=hb
 have hz:HdsAt w (some ⟨g,0,none⟩) xs.length (fun j=>xs.getD j hd0):=hb.hds
 clear hb
 go_enter Tryz.func151,Tryz.ntmps151
 go_wp2_with fail
 refine (idxMv f caps bad A _ _ _ w hA2 hn hcap0 _ hz eg hf).mono ?_
 rintro e w1 ⟨h,hB1⟩
 clear hz
 have hBA:=hB1.mono hA2
 rcases h with ⟨rfl,hno⟩ | ⟨k0,hk0,rfl,hbad,hno⟩
 ·have hfil:xs.filter (fun x => !bad x)=xs:=by
   have:=stayH_full (bad:=bad) (Nat.le_refl xs.length) hno
   rw [stayH_all,List.take_length] at this
   exact this
  have HF:Hid (xs.filter (fun x => !bad x)=xs):=hfil
  clear hfil hno
  go_wp2_with fail
  go_ret
  rw [HF.out]
  exact ⟨rfl,HBK.out.below hB1,hBA,(KeepS.refl g w).below hB1⟩
 ·have hs0:stayH bad xs (k0+1)=xs.take k0:=by rw [stayH_succ hk0,stayH_full (by omega) hno,hbad];simp
  have hl0:(stayH bad xs (k0+1)).length=k0:=by rw [hs0,List.length_take];omega
  have H0:Hid (DelAtMv g bad xs (k0+1) w1):=⟨_,HBK.out.below hB1,fun q hq=>by
   rw [hl0] at hq
   rw [hs0]
   simp only [List.getD,List.getElem?_take,if_pos hq],fun q _ _=>rfl⟩
  have HL0:Hid ((stayH bad xs (k0+1)).length=k0):=hl0
  clear hs0 hl0 hbad hno HBK
  go_wp2_with fail
  go_loopw [5,6] (fun i j wk=>∃ k:Nat,k≤xs.length∧j = .int .i64 k∧i = .int .i64 ((stayH bad xs k).length:Nat)∧(stayH bad xs k).length<k∧Hid (DelAtMv g bad xs k wk)∧Below A w wk∧Hid (KeepS g w wk)) (fun _ j _=>xs.length - (intOf j).toNat)
  case atStart=>exact ⟨k0+1,by omega,by go_num,by rw [HL0.out],by rw [HL0.out];omega,H0,hBA,(KeepS.refl g w).below hB1⟩
  case round =>
   clear H0 HL0 hBA hB1
   obtain ⟨k,hk,rfl,rfl,hlen,HD,hB,HKG⟩:=hrel
   by_cases hlt:k<xs.length
   ·obtain ⟨c,hc1,hc2,hc3⟩:=HD.out
    have HB:Hid (Blk wr g 63 (xs.length*4) (hc c)∧(∀ q,q<(stayH bad xs k).length→c q=(stayH bad xs k).getD q hd0)∧∀ q,k≤q→q<xs.length→c q=xs.getD q hd0):=⟨hc1,hc2,hc3⟩
    have HS:Hid (stayH bad xs (k+1)=stayH bad xs k++if bad (xs.getD k hd0) then [] else [xs.getD k hd0]):=stayH_succ hlt
    obtain ⟨X,hX⟩:∃ X,xs.getD k hd0=X:=⟨_,rfl⟩
    have HXE:Hid (xs.getD k hd0=X):=hX
    have hcx:c k=X:=by rw [hc3 k (Nat.le_refl _) hlt,hX]
    have ha:=hc_at c k
    rw [hcx] at ha
    have z0:wr.cell? ⟨g,k*4,none⟩=some (.int .i64 X.o):=(hc1.cell (by omega)).trans (by rw [ha.1])
    have z1:wr.cell? ⟨g,k*4+1,none⟩=some (.int .i64 X.l):=(hc1.cell (by omega)).trans (by rw [ha.2.1])
    have z2:wr.cell? ⟨g,k*4+2,none⟩=some (.int .i64 X.b):=(hc1.cell (by omega)).trans (by rw [ha.2.2.1])
    have z3:wr.cell? ⟨g,k*4+3,none⟩=some (.int .i64 X.n):=(hc1.cell (by omega)).trans (by rw [ha.2.2.2])
    have zl:=hc1.lt
    clear hc1 hc2 hc3 HD hX hcx ha
    obtain ⟨I,hI⟩:∃ I,(stayH bad xs k).length=I:=⟨_,rfl⟩
    have HIE:Hid ((stayH bad xs k).length=I):=hI
    rw [hI] at hlen ⊢
    clear hI
    obtain ⟨W,hW,hWB,KX⟩:∃ W,wr.alloc (.cells #[.int .i64 X.o,.int .i64 X.l,.int .i64 X.b,.int .i64 X.n] 63)=W∧Below wr.heap.size wr W∧Blk W wr.heap.size 63 4 (fun j=>(#[.int .i64 X.o,.int .i64 X.l,.int .i64 X.b,.int .i64 X.n]:Array Value).getD j default):=⟨_,rfl,(Below.refl _ _).alloc (Nat.le_refl _) _,Blk.mk' rfl rfl⟩
    have HW:Hid (wr.alloc (.cells #[.int .i64 X.o,.int .i64 X.l,.int .i64 X.b,.int .i64 X.n] 63)=W):=hW
    have hBW:=hB.trans (hWB.mono (Nat.le_trans hA2 hB.size))
    have HB:Hid (Blk W g 63 (xs.length*4) (hc c)∧(∀ q,q<(stayH bad xs k).length→c q=(stayH bad xs k).getD q hd0)∧∀ q,k≤q→q<xs.length→c q=xs.getD q hd0):=⟨HB.out.1.below hWB,HB.out.2⟩
    have HKG:Hid (KeepS g w W):=HKG.out.below hWB
    clear hW hWB
    go_wp2_with fail
    rw [HW.out]
    refine (hf.out X W hBW).mono ?_
    rintro e w2 ⟨rfl,hB2⟩
    have hB3:=hBW.trans (hB2.mono (Nat.le_trans hA2 hBW.size))
    have HKG:Hid (KeepS g w w2):=HKG.out.below hB2
    have kb:=HB.out.1.below hB2
    have KX2:=KX.below hB2
    have xl:=KX2.lt
    have x0:w2.cell? ⟨wr.heap.size,0,none⟩=some (.int .i64 X.o):=KX2.cell (j:=0) (by decide)
    have x1:w2.cell? ⟨wr.heap.size,1,none⟩=some (.int .i64 X.l):=KX2.cell (j:=1) (by decide)
    have x2:w2.cell? ⟨wr.heap.size,2,none⟩=some (.int .i64 X.b):=KX2.cell (j:=2) (by decide)
    have x3:w2.cell? ⟨wr.heap.size,3,none⟩=some (.int .i64 X.n):=KX2.cell (j:=3) (by decide)
    clear z0 z1 z2 z3 zl KX KX2 HW hB hBW hB2
    generalize wr.heap.size=BX at *
    cases hbd:bad X
    ·have y0:=kb.cell (j:=I*4) (by omega)
     have y1:=kb.cell (j:=I*4+1) (by omega)
     have y2:=kb.cell (j:=I*4+2) (by omega)
     have y3:=kb.cell (j:=I*4+3) (by omega)
     have f0:=kb.frozen (I*4)
     have f1:=kb.frozen (I*4+1)
     have f2:=kb.frozen (I*4+2)
     have f3:=kb.frozen (I*4+3)
     have yl:=kb.lt
     generalize hc c (I*4)=V0 at y0
     generalize hc c (I*4+1)=V1 at y1
     generalize hc c (I*4+2)=V2 at y2
     generalize hc c (I*4+3)=V3 at y3
     have KB:=kb.set4 I X
     have HN:Hid (DelAtMv g bad xs (k+1) (set4 w2 g I X)∧Below A w (set4 w2 g I X)∧(stayH bad xs (k+1)).length=I+1∧KeepS g w (set4 w2 g I X)):=by
      have e1:stayH bad xs (k+1)=stayH bad xs k++[X]:=by rw [HS.out,HXE.out,hbd];rfl
      have e2:(stayH bad xs (k+1)).length=I+1:=by rw [e1,List.length_append,HIE.out];rfl
      refine ⟨⟨_,KB,fun q hq => ?_,fun q hq hq2 => ?_⟩,below_set4 hA hB3 I X,e2,HKG.out.set4 I X⟩
      ·rw [e2] at hq
       show (if q=I then X else c q)=_
       rw [e1]
       by_cases hqi:q=I
       ·rw [if_pos hqi]
        simp only [List.getD]
        rw [List.getElem?_append_right (by rw [HIE.out];omega),HIE.out,hqi]
        simp
       ·rw [if_neg hqi,HB.out.2.1 q (by rw [HIE.out];omega)]
        simp only [List.getD]
        rw [List.getElem?_append_left (by rw [HIE.out];omega)]
      ·show (if q=I then X else c q)=_
       rw [if_neg (by omega),HB.out.2.2 q (by omega) hq2]
     clear kb KB HB HS
     go_wp2_with fail
     go_roundw
     case rel=>exact ⟨_,_,_,_,_,_,_,_,_,_,_,_,_,_,_,_,_,_,_,_,_,_,_,⟨k+1,by omega,by go_num,by rw [HN.out.2.2.1];go_num,by rw [HN.out.2.2.1];omega,HN.out.1,HN.out.2.1,HN.out.2.2.2⟩,rfl⟩
     case measure=>simp [intOf];omega
    ·have HN:Hid (DelAtMv g bad xs (k+1) w2∧(stayH bad xs (k+1)).length=I):=by
      have e1:stayH bad xs (k+1)=stayH bad xs k:=by rw [HS.out,HXE.out,hbd];simp
      rw [e1]
      exact ⟨⟨c,kb,by rw [e1];exact HB.out.2.1,fun q hq hq2=>HB.out.2.2 q (by omega) hq2⟩,HIE.out⟩
     clear kb HB HS
     go_wp2_with fail
     go_roundw
     case rel=>exact ⟨_,_,_,_,_,_,_,_,_,_,_,_,_,_,_,_,_,_,_,_,_,_,_,⟨k+1,by omega,by go_num,by rw [HN.out.2],by rw [HN.out.2];omega,HN.out.1,hB3,HKG⟩,rfl⟩
     case measure=>simp [intOf];omega
   ·have hkn:k=xs.length:=by omega
    subst hkn
    obtain ⟨c,hc1,hc2,hc3⟩:=HD.out
    rw [stayH_all] at hlen hc2 ⊢
    obtain ⟨I,hI⟩:∃ I,(xs.filter (fun x => !bad x)).length=I:=⟨_,rfl⟩
    have HI:Hid ((xs.filter (fun x => !bad x)).length=I):=hI
    rw [hI] at hlen hc2 ⊢
    clear hI
    obtain ⟨N,hN⟩:∃ N,xs.length=N:=⟨_,rfl⟩
    have HNE:Hid (xs.length=N):=hN
    rw [hN] at hlen hn hc1 ⊢
    clear hN hc3 hlt hk HD
    have hci:¬ cap=I:=by omega
    have hcl:∀ ty,(Builtin.clear_ #[29] ty #[.slice (some ⟨g,I*4,none⟩) (N - I) (cap - I)]).run Tryz.prog wr = .ok (.tuple #[]) (wr.setCells g (I*4) (List.replicate ((N - I)*4) (.int .i64 0))):=fun ty =>
     run_clear4M wr ty g (I*4) (N - I) (cap - I) (by omega) (fun j hj=>by rw [hc1.cell (by omega)];rfl) (fun j _=>hc1.frozen _)
    have HEND:Hid (Blk (wr.setCells g (I*4) (List.replicate ((N - I)*4) (.int .i64 0))) g 63 (I*4) (hc fun j=>(xs.filter (fun x => !bad x)).getD j hd0)∧Below A w (wr.setCells g (I*4) (List.replicate ((N - I)*4) (.int .i64 0)))∧KeepS g w (wr.setCells g (I*4) (List.replicate ((N - I)*4) (.int .i64 0)))) :=
     ⟨Blk.setCells _ _ _ ((hc1.less (by omega)).congr fun j hj=>by unfold hc;rw [hc2 (j/4) (by omega)]) (Nat.le_refl _),below_cells hA _ _ _ hB,HKG.out.cells _ _ _⟩
    clear hc1 hc2
    go_wp2_with fail
    go_ret
    rw [HI.out]
    exact ⟨rfl,HEND.out⟩
set_option maxRecDepth 100000 in
set_option maxHeartbeats 1000000 in
theorem DelMv_nil (f:Nat) (caps:Array Value) (bad:Hd→Bool) (a:Option Addr) (cap:Nat) (w:World) (hcap:cap≤maxLen)
  (eg:∀ args w,(callFunc f args).run Tryz.prog w = .ok (.enter f args) w)
  (hf:Hid (∀ (x:Hd) w1,Below w.heap.size w w1→Calls Tryz.prog f (#[x.val]++caps) w1 fun e w'=>e = .returned (.bool (bad x))∧Below w1.heap.size w1 w')) :
  Calls Tryz.prog 151 #[.slice a (0:Nat) cap,.func (.func f) #[] caps] w fun e w'=>e = .returned (.slice a (0:Nat) cap)∧Below w.heap.size w w':=by
 have hcap0:=hcap
 unfold maxLen at hcap
 go_enter Tryz.func151,Tryz.ntmps151
 go_wp2_with fail
 refine (idxMv f caps bad w.heap.size a 0 cap w (Nat.le_refl _) (Nat.zero_le _) hcap0 (fun _=>hd0) (fun i hi=>absurd hi (Nat.not_lt_zero _)) eg hf).mono ?_
 rintro e w1 ⟨h,hB1⟩
 rcases h with ⟨rfl,-⟩ | ⟨k0,hk0,-⟩
 ·go_wp2_with fail
  go_ret
  exact ⟨rfl,hB1⟩
 ·exact absurd hk0 (Nat.not_lt_zero _)
theorem keeps_bel {w w':World} (hB:Below w.heap.size w w'):KeepsOthers w w':=⟨hB.size,fun k o hk _=>(hB.block k (Array.getElem?_eq_some_iff.1 hk).1).trans hk⟩
theorem keeps_one {w w':World} {g n:Nat} {t:TypeId} {f:Nat→Value} (hb:Blk w g t n f) (hK:KeepG g w w'):KeepsOthers w w':=⟨hK.1,fun k o hk ho=>(hK.2 k (Array.getElem?_eq_some_iff.1 hk).1 fun e=>by
 obtain ⟨cur,h1,_⟩:=hb
 rw [e,h1] at hk
 cases hk
 cases ho).trans hk⟩
theorem DelS2_any (f:Nat) (caps:Array Value) (bad:Hd→Bool) (A:Nat) (s:St) (w:World) (hA2:A≤w.heap.size) (hO:OwnS A w s)
  (eg:∀ args w,(callFunc f args).run Tryz.prog w = .ok (.enter f args) w)
  (hf:∀ (x:Hd) w1,Below A w w1→Calls Tryz.prog f (#[x.val]++caps) w1 fun e w'=>e = .returned (.bool (bad x))∧Below w1.heap.size w1 w') :
  Calls Tryz.prog 97 #[.slice s.hs.a s.hs.n s.hs.c,.func (.func f) #[] caps] w fun e w'=>e = .returned (.slice (dropH s.hs bad).a (dropH s.hs bad).n (dropH s.hs bad).c)∧OwnS A w' (withHolds s (dropH s.hs bad))∧Below A w w'∧(∀ q t m g,t≠61→Blk w q t m g→Blk w' q t m g)∧KeepsOthers w w':=by
 obtain ⟨h1,h2,h3,h4⟩:=hO.hs
 by_cases hn:s.hs.n=0
 ·have hd:(dropH s.hs bad).n=0:=by have:=dropH_le s.hs bad;omega
  rw [hn,hd]
  refine (DelH_nil f caps bad s.hs.a s.hs.c w h2 eg (fun x w1 hB=>hf x w1 (hB.mono hA2))).mono ?_
  rintro e w1 ⟨rfl,hB⟩
  exact ⟨rfl,(hO.below hB).withHolds ⟨by rw [hd];exact Nat.zero_le _,h2,h3,fun h=>absurd h (by omega)⟩,hB.mono hA2,fun q t m g _ hb=>hb.below hB,keeps_bel hB⟩
 ·obtain ⟨g,ha,hA,hb⟩:=h4 (by omega)
  have hb2:Blk w g 61 ((listH s.hs).length*4) (hc fun j=>(listH s.hs).getD j hd0):=by
   rw [listH_len]
   refine hb.congr fun q hq => ?_
   rw [hc_flat hq]
   unfold hc
   dsimp only
   rw [listH_at (by omega)]
  have hD:=DelH_any f caps bad A g s.hs.c (listH s.hs) w hA hA2 (by rw [listH_len];exact h1) h2 hb2 eg hf
  rw [listH_len] at hD
  rw [ha]
  refine hD.mono ?_
  rintro e w1 ⟨rfl,hb3,hB,hK⟩
  have hl:=dropH_le s.hs bad
  exact ⟨by show _=Ending.returned (.slice s.hs.a _ _);rw [ha];rfl,hO.keepG hb2 hK ⟨Nat.le_trans hl h1,h2,h3,fun _=>⟨g,ha,hA,hb3.congr fun q hq=>(hc_flat (z:=(dropH s.hs bad).z) hq).symm⟩⟩,hB,fun q t m f' hne hbq=>hK.blk hbq (Blk.ne2 hbq hb2 hne),keeps_one hb2 hK⟩
theorem Room.keepMv {A g:Nat} {w w':World} {c:Nat} {a:Option Addr} (h:Room A w 63 4 a c) (K:KeepS g w w'):Room A w' 63 4 a c:=by
 rcases h with h0 | ⟨q,cur,ha,hA,hgc,hsz⟩
 ·exact Or.inl h0
 ·by_cases e:q=g
  ·subst e
   obtain ⟨cur',h1,h2⟩:=K.2 cur _ hgc
   exact Or.inr ⟨q,cur',ha,hA,h1,by rw [h2];exact hsz⟩
  ·exact Or.inr ⟨q,cur,ha,hA,(K.1.2 q (Array.getElem?_eq_some_iff.1 hgc).1 e).trans hgc,hsz⟩
theorem DelSM_any (f:Nat) (caps:Array Value) (bad:Hd→Bool) (A:Nat) (s:St) (w:World) (hA2:A≤w.heap.size) (hO:OwnS A w s)
  (eg:∀ args w,(callFunc f args).run Tryz.prog w = .ok (.enter f args) w)
  (hf:∀ (x:Hd) w1,Below A w w1→Calls Tryz.prog f (#[x.val]++caps) w1 fun e w'=>e = .returned (.bool (bad x))∧Below w1.heap.size w1 w') :
  Calls Tryz.prog 151 #[.slice s.ms.a s.ms.n s.ms.c,.func (.func f) #[] caps] w fun e w'=>e = .returned (.slice (dropH s.ms bad).a (dropH s.ms bad).n (dropH s.ms bad).c)∧OwnS A w' (withMoves s (dropH s.ms bad))∧Below A w w'∧(∀ q t m g,t≠63→Blk w q t m g→Blk w' q t m g)∧KeepsOthers w w':=by
 obtain ⟨h1,h2,h3,h4⟩:=hO.ms
 by_cases hn:s.ms.n=0
 ·have hd:(dropH s.ms bad).n=0:=by have:=dropH_le s.ms bad;omega
  rw [hn,hd]
  refine (DelMv_nil f caps bad s.ms.a s.ms.c w h2 eg (fun x w1 hB=>hf x w1 (hB.mono hA2))).mono ?_
  rintro e w1 ⟨rfl,hB⟩
  have O:=hO.below hB
  exact ⟨rfl,⟨O.on,O.rows,O.rapart,O.os,O.hs,⟨by show (dropH s.ms bad).n≤_;rw [hd];exact Nat.zero_le _,h2,h3,fun h=>absurd (show 0<(dropH s.ms bad).n from h) (by omega)⟩,O.msr,O.si,O.so,O.sf,O.aio,O.aif,O.aof,O.ari⟩,hB.mono hA2,fun q t m g _ hb=>hb.below hB,keeps_bel hB⟩
 ·obtain ⟨g,ha,hA,hb⟩:=h4 (by omega)
  have hb2:Blk w g 63 ((listH s.ms).length*4) (hc fun j=>(listH s.ms).getD j hd0):=by
   rw [listH_len]
   refine hb.congr fun q hq => ?_
   rw [hc_flat hq]
   unfold hc
   dsimp only
   rw [listH_at (by omega)]
  have hD:=DelMv_any f caps bad A g s.ms.c (listH s.ms) w hA hA2 (by rw [listH_len];exact h1) h2 hb2 eg hf
  rw [listH_len] at hD
  rw [ha]
  refine hD.mono ?_
  rintro e w1 ⟨rfl,hb3,hB,hK⟩
  have hl:=dropH_le s.ms bad
  exact ⟨by show _=Ending.returned (.slice s.ms.a _ _);rw [ha];rfl,hO.keepM hb2 hK.1 ⟨Nat.le_trans hl h1,h2,h3,fun _=>⟨g,ha,hA,hb3.congr fun q hq=>(hc_flat (z:=(dropH s.ms bad).z) hq).symm⟩⟩ (hO.msr.keepMv hK),hB,fun q t m f' hne hbq=>hK.1.blk hbq (Blk.ne2 hbq hb2 hne),keeps_one hb2 hK.1⟩
end Go.Proofs.YtbcacebifpagpagGreat
namespace Go.Proofs.YtbcacebifpagpagGreat
open Go.RowKit
set_option linter.unusedVariables false
def cutC (x:St) (b g:Int) (r:Nat) (j:Nat):Value:=(#[.slice x.on.a x.on.n x.on.c,.slice x.os.a x.os.n x.os.c,.slice x.hs.a x.hs.n x.hs.c,.slice x.ms.a x.ms.n x.ms.c,.slice x.si.a x.si.n x.si.c,.slice x.so.a x.so.n x.so.c,.slice x.sf.a x.sf.n x.sf.c,.int .i64 b,.int .i64 g,.map (some r)]:Array Value).getD j default
theorem OwnS.boxC {A:Nat} {w:World} {s:St} {q n:Nat} {f:Nat→Value} (h:OwnS A w s) (hq:Blk w q 139 n f) (j:Nat) (u:Value):OwnS A (w.setCell ⟨q,j,none⟩ u) s:=by
 refine ⟨?_,fun i hi=>(h.rows i hi).other hq (by decide) j u,h.rapart,h.os.other hq (by decide) (by decide) j u,h.hs.other hq (by decide) j u,h.ms.other hq (by decide) j u,h.msr.set q j u,h.si.other hq (by decide) j u,h.so.other hq (by decide) j u,h.sf.other hq (by decide) j u,h.aio,h.aif,h.aof,h.ari⟩
 obtain ⟨g,ha,h0,h1,h2,hb⟩:=h.on
 exact ⟨g,ha,h0,h1,h2,hb.other (a:=⟨q,j,none⟩) (Blk.ne2 hb hq (by decide)) u⟩
theorem MapQ.keeps {w w':World} {r:Nat} {q:Int→Int→Int} (h:MapQ w r q) (k:KeepsOthers w w'):MapQ w' r q:=by
 obtain ⟨es,c,h1,h2⟩:=h
 exact ⟨es,c,k.same r _ h1 rfl,h2⟩
theorem Blk.keepR {r:Nat} {w w':World} {g:Nat} {t:TypeId} {n:Nat} {f:Nat→Value} {q:Int→Int→Int} (h:Blk w g t n f) (m:MapQ w r q) (k:KeepR r w w'):Blk w' g t n f:=by
 obtain ⟨cur,h1,h2⟩:=h
 refine Blk.same ⟨cur,h1,h2⟩ (k.block g fun e => ?_)
 obtain ⟨es,c,h3,-⟩:=m
 rw [e,h3] at h1
 cases h1
theorem KeepR.ck {r:Nat} {w w':World} {q:Int→Int→Int} (m:MapQ w r q) (k:KeepR r w w'):CellsKept w w':=⟨by rw [k.size];exact Nat.le_refl _,fun g cur e z hg=>k.block g fun e'=>by
 obtain ⟨es,c,h3,-⟩:=m
 rw [e',h3] at hg
 cases hg⟩
structure CutI (A BC r:Nat) (W0:World) (x:St) (b g:Int) (q:Int→Int→Int) (wk:World):Prop where
 own:OwnS A wk x
 box:Blk wk BC 139 10 (cutC x b g r)
 map:MapQ wk r q
 bel:Below W0.heap.size W0 wk
 le:A≤wk.heap.size
 w0:W0.heap.size≤A
 bc:A≤BC
 ra:A≤r
section
variable {A BC r:Nat} {W0 wk wj:World} {x:St} {b g:Int} {q:Int→Int→Int}
theorem CutI.below (h:CutI A BC r W0 x b g q wk) (hB:Below wk.heap.size wk wj):CutI A BC r W0 x b g q wj :=
 ⟨OwnS.below h.own hB,h.box.below hB,h.map.below hB,h.bel.trans (hB.mono h.bel.size),Nat.le_trans h.le hB.size,h.w0,h.bc,h.ra⟩
theorem Blk.noMap {w:World} {g:Nat} {t:TypeId} {n:Nat} {f:Nat→Value} (h:Blk w g t n f) {r:Nat} {q:Int→Int→Int} (m:MapQ w r q):r≠g:=fun e=>by
 obtain ⟨cur,h1,h2⟩:=h
 obtain ⟨es,c,h3,-⟩:=m
 rw [e,h1] at h3
 cases h3
def lessHs (h:Hs) (i:Nat) (d:Int):Hs:=⟨h.a,h.n,h.c,lessN h.z i d⟩
theorem less_flat {h:Hs} {i:Nat} {d:Int} (q:Nat) (hq:q<h.n*4):(if q=i*4+3 then Value.int .i64 ((h.z i).n - d) else (flatH h.n h.z).getD q default)=(flatH h.n (lessN h.z i d)).getD q default:=by
 rw [setLn_flat (h:=h) (j:=i) (c:=3) (v:=(h.z i).n - d) (by decide) q hq]
 have e:(setLn h i 3 ((h.z i).n - d)).z=lessN h.z i d:=by
  funext k
  show (if k=i then setHd (h.z k) 3 ((h.z i).n - d) else h.z k)=if k=i then lessL (h.z k) d else h.z k
  by_cases c:k=i
  ·rw [if_pos c,if_pos c,c];rfl
  ·rw [if_neg c,if_neg c]
 rw [e]
theorem OwnH.less {A:Nat} {t:TypeId} {w:World} {h:Hs} (k:OwnH A t w h) {i G:Nat} (hi:i<h.n) (ha:h.a=some ⟨G,0,none⟩) (d:Int):OwnH A t (w.setCell ⟨G,i*4+3,none⟩ (.int .i64 ((h.z i).n - d))) (lessHs h i d):=by
 obtain ⟨h1,h2,h3,h4⟩:=k
 refine ⟨h1,h2,h3,fun hn => ?_⟩
 obtain ⟨G',ha',hA,hb⟩:=h4 (by omega)
 rw [ha] at ha'
 simp only [Option.some.injEq,Addr.mk.injEq,and_true] at ha'
 subst ha'
 exact ⟨G,ha,hA,(hb.set (i*4+3) _).congr fun q hq=>less_flat q hq⟩
theorem CutI.moveN (h:CutI A BC r W0 x b g q wk) {i G:Nat} (hi:i<x.ms.n) (ha:x.ms.a=some ⟨G,0,none⟩) (d:Int):CutI A BC r W0 (withMoves x (lessHs x.ms i d)) b g q (wk.setCell ⟨G,i*4+3,none⟩ (.int .i64 ((x.ms.z i).n - d))):=by
 have hm:=h.own.ms
 obtain ⟨h1,h2,h3,h4⟩:=h.own.ms
 obtain ⟨G',ha',hA,hb⟩:=h4 (by omega)
 rw [ha] at ha'
 simp only [Option.some.injEq,Addr.mk.injEq,and_true] at ha'
 subst ha'
 refine ⟨h.own.keepM hb ((KeepG.refl G wk).set _ _) (hm.less hi ha d) (h.own.msr.set G (i*4+3) _),h.box.other (a:=⟨G,i*4+3,none⟩) (Blk.ne2 h.box hb (by decide)) _,h.map.set (hb.noMap h.map) _,h.bel.setCell (p:=⟨G,i*4+3,none⟩) (by show W0.heap.size≤G;have:=h.w0;omega) _,by have:=h.le;simpa using this,h.w0,h.bc,h.ra⟩
theorem CutI.holdN (h:CutI A BC r W0 x b g q wk) {i G:Nat} (hi:i<x.hs.n) (ha:x.hs.a=some ⟨G,0,none⟩) (d:Int):CutI A BC r W0 (withHolds x (lessHs x.hs i d)) b g q (wk.setCell ⟨G,i*4+3,none⟩ (.int .i64 ((x.hs.z i).n - d))):=by
 have hm:=h.own.hs
 obtain ⟨h1,h2,h3,h4⟩:=h.own.hs
 obtain ⟨G',ha',hA,hb⟩:=h4 (by omega)
 rw [ha] at ha'
 simp only [Option.some.injEq,Addr.mk.injEq,and_true] at ha'
 subst ha'
 refine ⟨h.own.keepG hb ((KeepG.refl G wk).set _ _) (hm.less hi ha d),h.box.other (a:=⟨G,i*4+3,none⟩) (Blk.ne2 h.box hb (by decide)) _,h.map.set (hb.noMap h.map) _,h.bel.setCell (p:=⟨G,i*4+3,none⟩) (by show W0.heap.size≤G;have:=h.w0;omega) _,by have:=h.le;simpa using this,h.w0,h.bc,h.ra⟩
theorem CutI.back (h:CutI A BC r W0 x b g q wk) {o B:Nat} (ho:o<x.os.n) (ha:(x.os.z o).ls.a=some ⟨B,0,none⟩) (l:Nat) (v:Int):CutI A BC r W0 (setLine x o l 3 v) b g q (wk.setCell ⟨B,l*4+3,none⟩ (.int .i64 v)):=by
 obtain ⟨B',ha',hA,h1,h2,hb⟩:=h.own.os.lines o ho
 rw [ha] at ha'
 simp only [Option.some.injEq,Addr.mk.injEq,and_true] at ha'
 subst ha'
 refine ⟨h.own.setLine ho ha l 3 (by decide) v,h.box.other (a:=⟨B,l*4+3,none⟩) (Blk.ne2 h.box hb (by decide)) _,h.map.set (hb.noMap h.map) _,h.bel.setCell (p:=⟨B,l*4+3,none⟩) (by show W0.heap.size≤B;have:=h.w0;omega) _,by have:=h.le;simpa using this,h.w0,h.bc,h.ra⟩
theorem CutI.store (h:CutI A BC r W0 x b g q wk) {q':Int→Int→Int} (m:MapQ wj r q') (k:KeepR r wk wj):CutI A BC r W0 x b g q' wj :=
 ⟨h.own.ck (k.ck h.map),h.box.keepR h.map k,m,k.below h.bel (Nat.le_trans h.w0 h.ra),by rw [k.size];exact h.le,h.w0,h.bc,h.ra⟩
theorem CutI.newMoves (h:CutI A BC r W0 x b g q wk) {m:Hs} (ho:OwnS A wj (withMoves x m)) (hb:Below A wk wj) (hk:∀ q t n g,t≠63→Blk wk q t n g→Blk wj q t n g) (ho2:KeepsOthers wk wj):CutI A BC r W0 (withMoves x m) b g q (wj.setCell ⟨BC,3,none⟩ (.slice m.a m.n m.c)):=by
 have hbox:=hk _ _ _ _ (by decide) h.box
 have hmap:=h.map.keeps ho2
 have b1:=h.w0
 have b2:=h.bc
 refine ⟨ho.boxC hbox 3 _,(hbox.set 3 _).congr fun j hj => ?_,hmap.set (hbox.noMap hmap) _,(h.bel.trans (hb.mono h.w0)).setCell (p:=⟨BC,3,none⟩) (by show W0.heap.size≤BC;omega) _,by have:=hb.size;have:=h.le;simp;omega,h.w0,h.bc,h.ra⟩
 match j,hj with
 | 0,_=>rfl
 | 1,_=>rfl
 | 2,_=>rfl
 | 3,_=>rfl
 | 4,_=>rfl
 | 5,_=>rfl
 | 6,_=>rfl
 | 7,_=>rfl
 | 8,_=>rfl
 | 9,_=>rfl
theorem CutI.newHolds (h:CutI A BC r W0 x b g q wk) {m:Hs} (ho:OwnS A wj (withHolds x m)) (hb:Below A wk wj) (hk:∀ q t n g,t≠61→Blk wk q t n g→Blk wj q t n g) (ho2:KeepsOthers wk wj):CutI A BC r W0 (withHolds x m) b g q (wj.setCell ⟨BC,2,none⟩ (.slice m.a m.n m.c)):=by
 have hbox:=hk _ _ _ _ (by decide) h.box
 have hmap:=h.map.keeps ho2
 have b1:=h.w0
 have b2:=h.bc
 refine ⟨ho.boxC hbox 2 _,(hbox.set 2 _).congr fun j hj => ?_,hmap.set (hbox.noMap hmap) _,(h.bel.trans (hb.mono h.w0)).setCell (p:=⟨BC,2,none⟩) (by show W0.heap.size≤BC;omega) _,by have:=hb.size;have:=h.le;simp;omega,h.w0,h.bc,h.ra⟩
 match j,hj with
 | 0,_=>rfl
 | 1,_=>rfl
 | 2,_=>rfl
 | 3,_=>rfl
 | 4,_=>rfl
 | 5,_=>rfl
 | 6,_=>rfl
 | 7,_=>rfl
 | 8,_=>rfl
 | 9,_=>rfl
theorem CutI.boxed (h:CutI A BC r W0 x b g q wk):BC<wk.heap.size∧wk.cell? ⟨BC,0,none⟩=some (.slice x.on.a x.on.n x.on.c)∧wk.cell? ⟨BC,1,none⟩=some (.slice x.os.a x.os.n x.os.c)∧wk.cell? ⟨BC,2,none⟩=some (.slice x.hs.a x.hs.n x.hs.c)∧wk.cell? ⟨BC,3,none⟩=some (.slice x.ms.a x.ms.n x.ms.c)∧wk.cell? ⟨BC,4,none⟩=some (.slice x.si.a x.si.n x.si.c)∧wk.cell? ⟨BC,5,none⟩=some (.slice x.so.a x.so.n x.so.c)∧wk.cell? ⟨BC,6,none⟩=some (.slice x.sf.a x.sf.n x.sf.c)∧wk.cell? ⟨BC,7,none⟩=some (.int .i64 b)∧wk.cell? ⟨BC,8,none⟩=some (.int .i64 g)∧wk.cell? ⟨BC,9,none⟩=some (.map (some r)) :=
 ⟨h.box.lt,h.box.cell (j:=0) (by decide),h.box.cell (j:=1) (by decide),h.box.cell (j:=2) (by decide),h.box.cell (j:=3) (by decide),h.box.cell (j:=4) (by decide),h.box.cell (j:=5) (by decide),h.box.cell (j:=6) (by decide),h.box.cell (j:=7) (by decide),h.box.cell (j:=8) (by decide),h.box.cell (j:=9) (by decide)⟩
end
end Go.Proofs.YtbcacebifpagpagGreat
namespace Go.Proofs.YtbcacebifpagpagGreat
open Go.RowKit Go.Shelf Go.Sort
set_option linter.unusedVariables false
theorem cutMoves1_any (x:Hd) (w:World) :
  Calls Tryz.prog 152 #[x.val] w fun e w'=>e = .returned (.bool (goneH x))∧Below w.heap.size w w':=by
 unfold Hd.val goneH
 go_enter Tryz.func152,Tryz.ntmps152
 go_wp2_with fail
 go_ret
 exact ⟨rfl,(Below.refl _ _).alloc (Nat.le_refl _) _⟩
structure CutM (x:St) (b g:Nat) (n:Int) (i:Nat) (m:Int) (z:Nat→Hd):Prop where
 rest:cutI (fromF b g) i (max 0 m) z=cutI (fromF b g) x.ms.n (max 0 n) x.ms.z
 left:leftL (fromF b g) (max 0 m) (revL z i)=leftL (fromF b g) (max 0 n) (moveR x)
 pos:∀ j,j<x.ms.n→0≤(z j).n∧(z j).n≤200
 le:m≤max 0 n∧(m=n∨0≤m)
theorem CutM.miss {x:St} {b g:Nat} {n m:Int} {i:Nat} {z:Nat→Hd} (h:CutM x b g n (i+1) m z) (hf:¬ ((z i).l=b∧(z i).o=g)):CutM x b g n i m z:=by
 have c:¬ fromF b g (z i)=true:=fun e=>hf (fromF_iff.1 e)
 refine ⟨?_,?_,h.pos,h.le⟩
 ·rw [← h.rest]
  exact (if_neg c).symm
 ·rw [← h.left]
  exact (if_neg c).symm
theorem CutM.hit {x:St} {b g:Nat} {n m:Int} {i:Nat} {z:Nat→Hd} (h:CutM x b g n (i+1) m z) (hi:i<x.ms.n) (hm:0<m) (h1:(z i).l=b) (h2:(z i).o=g):CutM x b g n i (m - min m (z i).n) (lessN z i (min m (z i).n)):=by
 have c:fromF b g (z i)=true:=fromF_iff.2 ⟨h1,h2⟩
 have p:=h.pos i hi
 have e0:max 0 m=m:=by omega
 have e1:max 0 (m - min m (z i).n)=m - min m (z i).n:=by omega
 refine ⟨?_,?_,fun j hj => ?_,?_⟩
 ·rw [← h.rest,e0,e1]
  exact (if_pos c).symm
 ·rw [← h.left,e0,e1,revL_congr (z:=lessN z i (min m (z i).n)) (z':=z) fun j hj=>if_neg (by omega)]
  exact (if_pos c).symm
 ·unfold lessN
  have q:=h.pos j hj
  by_cases e:j=i
  ·rw [if_pos e,e]
   show 0≤(z i).n - min m (z i).n∧(z i).n - min m (z i).n≤200
   omega
  ·rw [if_neg e];exact q
 ·have:=h.le
  omega
theorem CutM.done {x:St} {b g:Nat} {n m:Int} {i:Nat} {z:Nat→Hd} (h:CutM x b g n i m z) (hi:i≤x.ms.n) (hd:i=0∨m≤0):z=cutI (fromF b g) x.ms.n (max 0 n) x.ms.z∧max 0 m=leftL (fromF b g) (max 0 n) (moveR x):=by
 rcases hd with rfl | hd
 ·exact ⟨h.rest,h.left⟩
 ·have e:max 0 m=0:=by omega
  have r:=h.rest
  have l:=h.left
  rw [e] at r l
  rw [cutI_zero _ _ _ fun j hj=>(h.pos j (by omega)).1] at r
  have l0:leftL (fromF b g) 0 (revL z i)=0:=by
   have k:=(sumB_cut (fromF_blind b g) (R:=revL z i) (m:=0) (fun y hy=>by obtain ⟨j,hj,e⟩:=revL_mem hy;rw [← e];exact (h.pos j (by omega)).1) (Int.le_refl _)).2
   have k2:=sumB_nn (P:=fromF b g) (R:=revL z i) (fun y hy=>by obtain ⟨j,hj,e⟩:=revL_mem hy;rw [← e];exact (h.pos j (by omega)).1)
   omega
  rw [e,← l,l0]
  exact ⟨r,rfl⟩
set_option maxRecDepth 100000 in
set_option maxHeartbeats 2000000 in
theorem cutMoves_any (A BC r:Nat) (W0:World) (x:St) (b g:Nat) (q:Int→Int→Int) (n:Int) (w:World) (h:CutI A BC r W0 x b g q w) (hm:∀ j,j<x.ms.n→0≤(x.ms.z j).n∧(x.ms.z j).n≤200) (hl:x.ms.n≤8) (hn : -100000≤n∧n≤100000) :
  Calls Tryz.prog 107 #[.pointer (some ⟨BC,0,none⟩),.int .i64 n] w fun e w'=>∃ v:Int,e = .returned (.int .i64 v)∧max 0 v=leftL (fromF b g) (max 0 n) (moveR x)∧(-100000≤v∧v≤100000)∧CutI A BC r W0 (withMoves x (cutHs (fromF b g) x.ms (max 0 n))) b g q w':=by
 have HI:Hid (CutI A BC r W0 x b g q w):=h
 have HM:Hid (CutM x b g n x.ms.n n x.ms.z):=⟨rfl,rfl,hm,by omega,Or.inl rfl⟩
 obtain ⟨u,-,-,-,u3,-,-,-,-,-,-⟩:=h.boxed
 have mc:=h.own.ms.2.1
 have ml:=h.own.ms.1
 unfold maxLen at mc
 clear h hm
 go_enter Tryz.func107,Tryz.ntmps107
 go_wp2_with fail
 clear u u3
 go_loopw [1,5] (fun nv iv wk=>∃ (i:Nat) (m:Int) (z:Nat→Hd),i≤x.ms.n∧iv = .int .i64 ((i:Int) - 1)∧nv = .int .i64 m∧Hid (CutI A BC r W0 (withMoves x ⟨x.ms.a,x.ms.n,x.ms.c,z⟩) b g q wk)∧Hid (CutM x b g n i m z)) (fun _ iv _=>(intOf iv+1).toNat)
 case atStart=>exact ⟨x.ms.n,n,x.ms.z,Nat.le_refl _,rfl,rfl,HI,HM⟩
 case round =>
  clear HI HM
  obtain ⟨i,m,z,hi,rfl,rfl,HI,HM⟩:=hrel
  have hle:=HM.out.le
  by_cases hd:i=0∨m≤0
  ·have HD:Hid (z=cutI (fromF b g) x.ms.n (max 0 n) x.ms.z∧max 0 m=leftL (fromF b g) (max 0 n) (moveR x)):=HM.out.done hi hd
   obtain ⟨u,-,-,-,u3,-,-,-,-,-,-⟩:=HI.out.boxed
   have u3':wr.cell? ⟨BC,3,none⟩=some (.slice x.ms.a x.ms.n x.ms.c):=u3
   have HDC:Hid (Calls Tryz.prog 151 #[.slice x.ms.a x.ms.n x.ms.c,.func (.func 152) #[] #[]] wr fun e w'=>e = .returned (.slice x.ms.a (cutHs (fromF b g) x.ms (max 0 n)).n x.ms.c)∧OwnS A w' (withMoves x (cutHs (fromF b g) x.ms (max 0 n)))∧Below A wr w'∧(∀ q t m g,t≠63→Blk wr q t m g→Blk w' q t m g)∧KeepsOthers wr w'):=by
    have hz:=HD.out.1
    have hD:=DelSM_any 152 #[] goneH A (withMoves x ⟨x.ms.a,x.ms.n,x.ms.c,z⟩) wr HI.out.le HI.out.own (enters_of Tryz.func152 (by kernel_rfl) rfl) (fun y wz _=>by rw [Array.append_empty];exact cutMoves1_any y wz)
    rw [hz] at hD
    exact hD
   clear u3
   by_cases hi0:i=0
   ·have q1:¬ (0:Int)≤(i:Int) - 1:=by omega
    go_wp2_with fail
    refine HDC.out.mono ?_
    rintro e w2 ⟨rfl,hO2,hB2,hk2,ho2⟩
    have HN:Hid (CutI A BC r W0 (withMoves x (cutHs (fromF b g) x.ms (max 0 n))) b g q (w2.setCell ⟨BC,3,none⟩ (.slice x.ms.a (cutHs (fromF b g) x.ms (max 0 n)).n x.ms.c))):=HI.out.newMoves (m:=cutHs (fromF b g) x.ms (max 0 n)) hO2 hB2 hk2 ho2
    have bx:=hk2 _ _ _ _ (by decide) HI.out.box
    have y1:=bx.lt
    have y2:=bx.frozen 3
    have y3:=bx.cell (j:=3) (by decide)
    clear hO2 hB2 hk2 ho2 bx HDC HI HM u u3'
    go_wp2_with fail
    go_ret
    exact ⟨m,rfl,HD.out.2,by omega,HN.out⟩
   ·have hm0:m≤0:=by omega
    have q1:(0:Int)≤(i:Int) - 1:=by omega
    have q2:¬ 0<m:=by omega
    go_wp2_with fail
    refine HDC.out.mono ?_
    rintro e w2 ⟨rfl,hO2,hB2,hk2,ho2⟩
    have HN:Hid (CutI A BC r W0 (withMoves x (cutHs (fromF b g) x.ms (max 0 n))) b g q (w2.setCell ⟨BC,3,none⟩ (.slice x.ms.a (cutHs (fromF b g) x.ms (max 0 n)).n x.ms.c))):=HI.out.newMoves (m:=cutHs (fromF b g) x.ms (max 0 n)) hO2 hB2 hk2 ho2
    have bx:=hk2 _ _ _ _ (by decide) HI.out.box
    have y1:=bx.lt
    have y2:=bx.frozen 3
    have y3:=bx.cell (j:=3) (by decide)
    clear hO2 hB2 hk2 ho2 bx HDC HI HM u u3'
    go_wp2_with fail
    go_ret
    exact ⟨m,rfl,HD.out.2,by omega,HN.out⟩
  ·obtain ⟨k,rfl⟩:∃ k,i=k+1:=⟨i - 1,by omega⟩
   have hk:k<x.ms.n:=by omega
   have q1:(0:Int)≤(k:Int):=by omega
   have q2:0<m:=by omega
   have q3:(k:Int)<(x.ms.n:Int):=by omega
   have e1:(((k+1:Nat):Int) - 1)=(k:Int):=by omega
   rw [e1]
   obtain ⟨u,-,-,-,u3,-,-,-,u7,u8,-⟩:=HI.out.boxed
   obtain ⟨G,hG,hAG,hb⟩:=HI.out.own.ms.2.2.2 (show 0<x.ms.n by omega)
   have HG:Hid (x.ms.a=some ⟨G,0,none⟩):=hG
   have u3':wr.cell? ⟨BC,3,none⟩=some (.slice (some ⟨G,0,none⟩) x.ms.n x.ms.c):=by have h:=u3;rw [hG] at h;exact h
   have z0:wr.cell? ⟨G,k*4,none⟩=some (.int .i64 (z k).o):=(hb.cell (j:=k*4) (by show k*4<x.ms.n*4;omega)).trans (congrArg some (flatH_at (z:=z) (c:=0) hk (by decide)))
   have z1:wr.cell? ⟨G,k*4+1,none⟩=some (.int .i64 (z k).l):=(hb.cell (j:=k*4+1) (by show _<x.ms.n*4;omega)).trans (congrArg some (flatH_at (z:=z) (c:=1) hk (by decide)))
   have z3:wr.cell? ⟨G,k*4+3,none⟩=some (.int .i64 (z k).n):=(hb.cell (j:=k*4+3) (by show _<x.ms.n*4;omega)).trans (congrArg some (flatH_at (z:=z) (c:=3) hk (by decide)))
   have gl:=hb.lt
   have zp:=HM.out.pos k hk
   clear hb u3
   generalize hZL:(z k).l=ZL at *
   generalize hZO:(z k).o=ZO at *
   have HZ:Hid ((z k).l=ZL∧(z k).o=ZO):=⟨hZL,hZO⟩
   clear hZL hZO hd e1 hG
   cases h1:(ZL==(b:Int))
   ·have HN:Hid (CutM x b g n k m z):=HM.out.miss (fun e=>by rw [HZ.out.1] at e;simp at h1;omega)
    have h1':(ZL !=(b:Int))=true:=by simp at h1 ⊢;omega
    have r3:=fun d os=>cell_regrown u3' d os
    have r7:=fun d os=>cell_regrown u7 d os
    have r8:=fun d os=>cell_regrown u8 d os
    have rz0:=fun d os=>cell_regrown z0 d os
    have rz1:=fun d os=>cell_regrown z1 d os
    go_wp2_with fail
    refine wp_region_quiet_below (by kernel_rfl) (by kernel_rfl) ?_
    repeat (go_big_quiet_step (fail))
    refine wpQuiet_nil ?_
    intro _ hw'
    obtain ⟨⟨dq,osq⟩,hw''⟩:=hw'
    subst hw''
    have rz3:=cell_regrown z3 dq osq
    have rgl:=Nat.lt_of_lt_of_le gl (below_regrown wr dq osq).size
    have HIz:Hid (CutI A BC r W0 (withMoves x ⟨x.ms.a,x.ms.n,x.ms.c,z⟩) b g q (grow (redrawn wr dq) osq)):=HI.out.below (below_regrown wr dq osq)
    clear r3 r7 r8 rz0 rz1 u3' u7 u8 z0 z1 z3 HI gl u
    generalize grow (redrawn wr dq) osq=wz at *
    go_wp2_with fail
    go_roundw
    case rel=>exact ⟨k,m,z,by omega,by go_num,rfl,HIz,HN⟩
    case measure=>simp [intOf]
   ·have h1':(ZL !=(b:Int))=false:=by simp at h1 ⊢;omega
    cases h2:(ZO==(g:Int))
    ·have HN:Hid (CutM x b g n k m z):=HM.out.miss (fun e=>by rw [HZ.out.2] at e;simp at h2;omega)
     have h2':(ZO !=(g:Int))=true:=by simp at h2 ⊢;omega
     have r3:=fun d os=>cell_regrown u3' d os
     have r7:=fun d os=>cell_regrown u7 d os
     have r8:=fun d os=>cell_regrown u8 d os
     have rz0:=fun d os=>cell_regrown z0 d os
     have rz1:=fun d os=>cell_regrown z1 d os
     go_wp2_with fail
     refine wp_region_quiet_below (by kernel_rfl) (by kernel_rfl) ?_
     repeat (go_big_quiet_step (fail))
     refine wpQuiet_nil ?_
     intro _ hw'
     obtain ⟨⟨dq,osq⟩,hw''⟩:=hw'
     subst hw''
     have rz3:=cell_regrown z3 dq osq
     have rgl:=Nat.lt_of_lt_of_le gl (below_regrown wr dq osq).size
     have HIz:Hid (CutI A BC r W0 (withMoves x ⟨x.ms.a,x.ms.n,x.ms.c,z⟩) b g q (grow (redrawn wr dq) osq)):=HI.out.below (below_regrown wr dq osq)
     clear r3 r7 r8 rz0 rz1 u3' u7 u8 z0 z1 z3 HI gl u
     generalize grow (redrawn wr dq) osq=wz at *
     go_wp2_with fail
     go_roundw
     case rel=>exact ⟨k,m,z,by omega,by go_num,rfl,HIz,HN⟩
     case measure=>simp [intOf]
    ·have h2':(ZO !=(g:Int))=false:=by simp at h2 ⊢;omega
     have HN:Hid (CutM x b g n k (m - min m (z k).n) (lessN z k (min m (z k).n))):=HM.out.hit hk q2 (by rw [HZ.out.1];simpa using h1) (by rw [HZ.out.2];simpa using h2)
     have r3:=fun d os=>cell_regrown u3' d os
     have r7:=fun d os=>cell_regrown u7 d os
     have r8:=fun d os=>cell_regrown u8 d os
     have rz0:=fun d os=>cell_regrown z0 d os
     have rz1:=fun d os=>cell_regrown z1 d os
     go_wp2_with fail
     refine wp_region_quiet_below (by kernel_rfl) (by kernel_rfl) ?_
     repeat (go_big_quiet_step (fail))
     refine wpQuiet_nil ?_
     intro _ hw'
     obtain ⟨⟨dq,osq⟩,hw''⟩:=hw'
     subst hw''
     have rz3:=cell_regrown z3 dq osq
     have rgl:=Nat.lt_of_lt_of_le gl (below_regrown wr dq osq).size
     have HIz:Hid (CutI A BC r W0 (withMoves x ⟨x.ms.a,x.ms.n,x.ms.c,z⟩) b g q (grow (redrawn wr dq) osq)):=HI.out.below (below_regrown wr dq osq)
     clear r3 r7 r8 rz0 rz1 u3' u7 u8 z0 z1 z3 HI gl u
     generalize grow (redrawn wr dq) osq=wz at *
     obtain ⟨h1m,h2m,h3m,h4m⟩:=HIz.out.own.ms
     obtain ⟨G',hG',hAG',hb'⟩:=h4m (show 0<x.ms.n by omega)
     have eG:G=G':=by
      have e:x.ms.a=some ⟨G',0,none⟩:=hG'
      rw [HG.out] at e
      simpa using e
     subst eG
     have fz:=hb'.frozen (k*4+3)
     have HIn:Hid (CutI A BC r W0 (withMoves x ⟨x.ms.a,x.ms.n,x.ms.c,lessN z k (min m (z k).n)⟩) b g q (wz.setCell ⟨G,k*4+3,none⟩ (.int .i64 ((z k).n - min m (z k).n)))):=HIz.out.moveN (i:=k) (G:=G) hk HG.out (min m (z k).n)
     clear h1m h2m h3m h4m hG' hAG' hb' HIz
     generalize (z k).n=ZN at *
     go_wp2_with fail
     go_roundw
     case rel=>exact ⟨k,m - min m ZN,lessN z k (min m ZN),by omega,by go_num,by go_num,HIn,HN⟩
     case measure=>simp [intOf]
end Go.Proofs.YtbcacebifpagpagGreat
namespace Go.Proofs.YtbcacebifpagpagGreat
open Go.RowKit
set_option linter.unusedVariables false
def updB (dn:Nat→Bool) (i j:Nat):Bool:=if j=i then true else dn j
theorem updB_self (dn:Nat→Bool) (i:Nat):updB dn i i=true:=if_pos rfl
theorem updB_ne {dn:Nat→Bool} {i j:Nat} (h:¬ j=i):updB dn i j=dn j:=if_neg h
theorem made_aux7 {P:Program} {ops:Array Oper} {Q:Exit→Act→World→Prop} {S:World→Prop} {T:Nat→Bool} {rem:List Nat} {L:Array Bool} {a1:Act} {I:(Nat→Bool)→(Nat→Value)→World→Prop} {fuel:Nat} (hB:madeB5 ops rem L=true) (hT:∀ r∈rem,T r=false)
  (step:∀ i∈rem,∀ (dn:Nat→Bool) (V:Nat→Value) (w:World) (K:Act→World→Prop),S w→dn i=false→(∀ d∈depsOf ops i,d∈rem→dn d=true)→I dn V w →
   (∀ v w',S w'→I (updB dn i) (upd V i v) w'→K ((putAll ops rem V a1).put (dstOf ops i) v) w')→wpOp P ops Q i K (putAll ops rem V a1) w)
  (done:∀ (dn:Nat→Bool) (V:Nat→Value) (w:World),S w→(∀ j∈rem,dn j=true)→I dn V w→wpAnyT P ops Q S T fuel (mark L rem) (putAll ops rem V a1) w) :
  ∀ (m:Nat) (listed:Array Bool) (V:Nat→Value) (w:World),(rem.filter (fun r => !listed.getD r true)).length=m→listed.size=ops.size→(∀ j,j ∉ rem→listed[j]?=L[j]?)→Closed ops listed→S w→I (fun j=>listed.getD j true) V w →
   wpAnyT P ops Q S T (m+fuel) listed (putAll ops rem V a1) w:=by
 simp only [madeB5,Bool.and_eq_true,decide_eq_true_eq] at hB
 obtain ⟨⟨⟨⟨hoth,htopo⟩,hrem⟩,hLs⟩,hnd⟩:=hB
 have hrem':∀ r∈rem,r<ops.size∧L.getD r true=false:=fun r hr=>by
  have:=List.all_eq_true.1 hrem r hr
  simpa using this
 intro m
 induction m with
 | zero =>
  intro listed V w hm hsz hag hcl hS hI
  have hall:∀ r∈rem,listed.getD r true=true:=fun r hr=>by
   cases hq:listed.getD r true
   ·have:r∈rem.filter (fun r => !listed.getD r true):=List.mem_filter.2 ⟨hr,by simp [hq]⟩
    rw [List.length_eq_zero_iff.1 hm] at this
    simp at this
   ·rfl
  have hl:listed=mark L rem:=by
   apply Array.ext_getElem?
   intro j
   by_cases hj:j<L.size
   ·rw [mark_get rem L j hj]
    by_cases hjr:j∈rem
    ·rw [if_pos hjr]
     have h1:=hall j hjr
     have h2:j<listed.size:=by omega
     simp only [Array.getD,h2,dif_pos] at h1
     simp [h2]
     exact h1
    ·rw [if_neg hjr];exact hag j hjr
   ·rw [Array.getElem?_eq_none (by omega),Array.getElem?_eq_none (by rw [mark_size];omega)]
  rw [Nat.zero_add]
  have h:=done (fun j=>listed.getD j true) V w hS hall hI
  rw [← hl] at h
  exact h
 | succ m ih =>
  intro listed V w hm hsz hag hcl hS hI
  have hex:∃ r∈rem,listed.getD r true=false:=by
   have hne:rem.filter (fun r => !listed.getD r true)≠[]:=fun e=>by rw [e] at hm;simp at hm
   obtain ⟨x,hx⟩:=List.exists_mem_of_ne_nil _ hne
   have:=List.mem_filter.1 hx
   exact ⟨x,this.1,by simpa using this.2⟩
  have hLl:∀ d,L.getD d false=true→listed.getD d false=true:=fun d hd=>by
   by_cases hdr:d∈rem
   ·have h1:=(hrem' d hdr).2
    have h2:d<L.size:=by have:=(hrem' d hdr).1;omega
    simp only [Array.getD,h2,dif_pos] at h1 hd
    rw [h1] at hd;cases hd
   ·have h1:=hag d hdr
    by_cases h2:d<L.size
    ·have h3:d<listed.size:=by omega
     simp only [Array.getD,h2,h3,dif_pos] at hd ⊢
     simp only [Array.getElem?_eq_getElem h2,Array.getElem?_eq_getElem h3,Option.some.injEq] at h1
     rw [Array.getInternal_eq_getElem] at hd ⊢
     rw [h1];exact hd
    ·simp [Array.getD,h2] at hd
  obtain ⟨r0,hr0,hr0r⟩:=topo_ready hsz [] rem htopo hLl (fun d hd=>by simp at hd) (fun r hr=>(hrem' r hr).1) hex
  rw [Nat.add_right_comm]
  refine ⟨fun h0=>absurd (h0 ▸ hr0r) (by simp),fun i hi => ?_⟩
  obtain ⟨hli,o,ho,hdep⟩:=mem_ready.1 hi
  have hdeps:∀ d∈depsOf ops i,listed.getD d false=true:=fun d hd=>by
   unfold depsOf at hd
   rw [ho] at hd
   obtain ⟨e,he,rfl⟩:=List.mem_map.1 hd
   have:=List.mem_filter.1 he
   exact hdep e (by simpa using this.1) this.2
  have hdt:∀ d,listed.getD d false=true→listed.getD d true=true:=fun d hd=>by
   by_cases h2:d<listed.size
   ·simpa [Array.getD,h2] using hd
   ·simp [Array.getD,h2]
  have hir:i∈rem:=by
   cases hc:rem.contains i
   ·exfalso
    have hlt:i<ops.size:=(Array.getElem?_eq_some_iff.1 ho).1
    have hnr:i ∉ rem:=fun h=>by
     have:=List.contains_iff_mem.2 h
     rw [this] at hc;cases hc
    have h1:=List.all_eq_true.1 hoth i (List.mem_range.2 hlt)
    have hLi:L.getD i true=false:=by
     have h2:=hag i hnr
     have h3:i<L.size:=by omega
     have h4:i<listed.size:=by omega
     simp only [Array.getElem?_eq_getElem h3,Array.getElem?_eq_getElem h4,Option.some.injEq] at h2
     simp only [Array.getD,h3,h4,dif_pos] at hli ⊢
     rw [Array.getInternal_eq_getElem] at hli ⊢
     rw [← h2];exact hli
    rw [hLi,hc] at h1
    simp only [Bool.false_or] at h1
    obtain ⟨q,hq,hq2⟩:=hex
    have h5:=List.all_eq_true.1 h1 q hq
    have h6:=hdt q (reach_listed hcl _ i q (ready_deps hi) h5)
    rw [hq2] at h6;cases h6
   ·exact List.contains_iff_mem.1 hc
  have hin:i<listed.size:=by rw [hsz];exact (hrem' i hir).1
  have hlit:listed.getD i true=false:=hli
  refine step i hir (fun j=>listed.getD j true) V w _ hS hlit (fun d hd hdr=>hdt d (hdeps d hd)) hI (fun v w' hS' hI' => ?_)
  refine ⟨fun _=>hS',?_⟩
  rw [putAll_put hnd hir]
  have gset:∀ j,(listed.setIfInBounds i true).getD j true=if j=i then true else listed.getD j true:=fun j=>by
   by_cases hj:j=i
   ·subst hj;simp [Array.getD,hin]
   ·rw [if_neg hj,getD_set_ne true (fun e=>hj e.symm)]
  refine ih (listed.setIfInBounds i true) (upd V i v) w' ?_ (by simpa using hsz) (fun j hj => ?_) (hcl.set hi) hS' ?_
  ·have hnodup:rem.Nodup:=by
    exact (List.pairwise_map.1 hnd).imp (fun h e=>h (by rw [e]))
   have hcount:(rem.filter (fun r => !(listed.setIfInBounds i true).getD r true))=(rem.filter (fun r => !listed.getD r true)).erase i:=by
    have e2:rem.filter (fun r => !(listed.setIfInBounds i true).getD r true)=(rem.filter (fun r => !listed.getD r true)).filter (fun r=>r !=i):=by
     rw [List.filter_filter]
     refine List.filter_congr fun x hx => ?_
     rw [gset x]
     by_cases hxi:x=i<;>simp [hxi]
    rw [e2,← List.Nodup.erase_eq_filter (hnodup.filter _)]
   rw [hcount,List.length_erase_of_mem (List.mem_filter.2 ⟨hir,by simp [hli]⟩),hm]
   rfl
  ·rw [Array.getElem?_setIfInBounds,if_neg (fun e:i=j=>hj (by rw [← e];exact hir))]
   exact hag j hj
  ·have e:(fun j=>(listed.setIfInBounds i true).getD j true)=updB (fun j=>listed.getD j true) i:=funext fun j=>gset j
   rw [e]
   exact hI'
theorem upd_at (V:Nat→Value) (i:Nat) (v:Value):upd V i v i=v:=if_pos rfl
theorem upd_ne (V:Nat→Value) {i j:Nat} (v:Value) (h:¬ j=i):upd V i v j=V j:=if_neg h
theorem wp_region_all {P:Program} {l:List Oper} {Q:Exit→Act→World→Prop} {id:Nat} {a:Act} {w:World} (rem:List Nat)
  (hm:P.follows .mixedOrders=true) (hM:madeB5 l.toArray rem (Array.replicate l.length false)=true) (hB:seqB l.toArray [] (mark (Array.replicate l.length false) rem)=true) (hl:rem.length=l.length)
  (I:(Nat→Bool)→(Nat→Value)→World→Prop) (init:∀ (dn:Nat→Bool) (V:Nat→Value),(∀ j∈rem,dn j=false)→I dn V w.drew)
  (step:∀ i∈rem,∀ (dn:Nat→Bool) (V:Nat→Value) (w:World) (K:Act→World→Prop),dn i=false→(∀ d∈depsOf l.toArray i,d∈rem→dn d=true)→I dn V w →
   (∀ v w',I (updB dn i) (upd V i v) w'→K ((putAll l.toArray rem V a).put (dstOf l.toArray i) v) w')→wpOp P l.toArray (NoPanic Q) i K (putAll l.toArray rem V a) w)
  (done:∀ (dn:Nat→Bool) (V:Nat→Value) (w:World),(∀ j∈rem,dn j=true)→I dn V w→NoPanic Q .normal (putAll l.toArray rem V a) w):(Code.region id l.toArray true).wp P Q a w:=by
 refine wp_region_noPanic (wp_region_any hm ?_)
 have hM':=hM
 simp only [madeB5,Bool.and_eq_true,decide_eq_true_eq] at hM'
 have hall:(rem.filter (fun r => !(Array.replicate l.length false).getD r true))=rem:=by
  rw [List.filter_eq_self]
  intro r hr
  have:=List.all_eq_true.1 hM'.1.1.2 r hr
  simp only [Bool.and_eq_true] at this
  exact this.2
 have hun:∀ j∈rem,(Array.replicate l.length false).getD j true=false:=fun j hj=>by
  have:=List.all_eq_true.1 hM'.1.1.2 j hj
  simp only [Bool.and_eq_true] at this
  simpa using this.2
 obtain ⟨V0,hV0⟩:∃ V0,putAll l.toArray rem V0 a=a:=⟨_,putAll_self a rem⟩
 have:=made_aux7 (P:=P) (Q:=NoPanic Q) (S:=fun _=>True) (T:=fun _=>false) (a1:=a) (fuel:=0) (I:=I) hM (fun _ _=>rfl) (fun i hi dn V w K _ h1 h2 h3 h4=>step i hi dn V w K h1 h2 h3 fun v w' h5=>h4 v w' trivial h5)
  (fun dn V w' hS' hd hI=>wpAnyT_seq [] _ _ w' hB (fun t i hti=>by simp at hti) (done dn V w' hd hI))
  rem.length (Array.replicate l.length false) V0 w.drew (by rw [hall]) hM'.1.2 (fun _ _=>rfl) (Closed.none _ _) trivial (init _ _ hun)
 rw [hV0] at this
 have k:=wpAny_of_T _ _ _ _ this
 rw [hl] at k
 simpa using k
end Go.Proofs.YtbcacebifpagpagGreat
namespace Go.Proofs.YtbcacebifpagpagGreat
open Go.RowKit Go.Shelf Go.Sort
set_option linter.unusedVariables false
theorem cutHolds1_any (x:Hd) (w:World) :
  Calls Tryz.prog 150 #[x.val] w fun e w'=>e = .returned (.bool (goneH x))∧Below w.heap.size w w':=by
 unfold Hd.val goneH
 go_enter Tryz.func150,Tryz.ntmps150
 go_wp2_with fail
 go_ret
 exact ⟨rfl,(Below.refl _ _).alloc (Nat.le_refl _) _⟩
def backS (x:St) (q:Int→Int→Int):St:=⟨x.on,backOs x.os q,x.hs,x.ms,x.si,x.so,x.sf⟩
theorem moreL_zero (x:Hd):moreL x 0=x:=by unfold moreL;rw [Int.add_zero]
theorem backS_zero (x:St):backS x (fun _ _=>0)=x:=by
 unfold backS backOs
 simp only [moreL_zero]
theorem back_set (x:St) (q:Int→Int→Int) (o l:Nat) (d:Int):setLine (backS x q) o l 3 (((x.os.z o).ls.z l).n+q o l+d)=backS x (setQ q o l (q o l+d)):=by
 unfold setLine backS setOd backOs
 congr 2
 funext i
 by_cases hi:i=o
 ·rw [if_pos hi]
  subst hi
  congr 2
  unfold setLn
  congr 1
  funext j
  dsimp only
  by_cases hj:j=l
  ·rw [if_pos hj,hj]
   unfold setHd moreL setQ
   rw [if_neg (by decide),if_neg (by decide),if_neg (by decide),if_pos ⟨rfl,rfl⟩,Int.add_assoc]
  ·rw [if_neg hj]
   unfold setQ
   rw [if_neg (fun e=>hj (by omega))]
 ·rw [if_neg hi]
  dsimp only
  congr 2
  funext j
  unfold setQ
  rw [if_neg (fun e=>hi (by omega))]
structure CutH (x:St) (b g:Nat) (n:Int) (i:Nat) (m:Int) (z:Nat→Hd) (q:Int→Int→Int):Prop where
 rest:cutI (heldF x b g) i (max 0 m) z=cutI (heldF x b g) x.hs.n (max 0 n) x.hs.z
 sum:∀ o l,q o l+cutQ (heldF x b g) (max 0 m) (revL z i) o l=cutQ (heldF x b g) (max 0 n) (holdR x) o l
 q0:∀ o l,0≤q o l
 pos:∀ j,j<x.hs.n→0≤(z j).n∧(z j).n≤200
 key:∀ j,j<x.hs.n→(z j).o=(x.hs.z j).o∧(z j).l=(x.hs.z j).l∧(z j).b=(x.hs.z j).b
 le:m≤max 0 n∧(m=n∨0≤m)
theorem CutH.revP {x:St} {b g:Nat} {n m:Int} {i:Nat} {z:Nat→Hd} {q:Int→Int→Int} (h:CutH x b g n i m z q) (hi:i≤x.hs.n):Pos0 (revL z i):=fun y hy=>by
 obtain ⟨j,hj,e⟩:=revL_mem hy
 rw [← e]
 exact (h.pos j (by omega)).1
theorem CutH.qle {x:St} {b g:Nat} {n m:Int} {i:Nat} {z:Nat→Hd} {q:Int→Int→Int} (h:CutH x b g n i m z q) (hi:i≤x.hs.n) (o l:Int):q o l≤cutQ (heldF x b g) (max 0 n) (holdR x) o l:=by
 have a:=h.sum o l
 have c:=cutQ_nn (heldF x b g) o l (m:=max 0 m) (h.revP hi) (by omega)
 omega
theorem CutH.miss {x:St} {b g:Nat} {n m:Int} {i:Nat} {z:Nat→Hd} {q:Int→Int→Int} (h:CutH x b g n (i+1) m z q) (hf:¬ ((z i).b=b∧goodH x (z i)=g)):CutH x b g n i m z q:=by
 have c:¬ heldF x b g (z i)=true:=fun e=>hf (heldF_iff.1 e)
 refine ⟨?_,fun o l => ?_,h.q0,h.pos,h.key,h.le⟩
 ·rw [← h.rest]
  exact (if_neg c).symm
 ·rw [← h.sum o l]
  congr 1
  exact (if_neg c).symm
theorem CutH.hit {x:St} {b g:Nat} {n m:Int} {i:Nat} {z:Nat→Hd} {q:Int→Int→Int} (h:CutH x b g n (i+1) m z q) (hi:i<x.hs.n) (hm:0<m) (h1:(z i).b=b) (h2:goodH x (z i)=g) {o l:Nat} (ho:(z i).o=o) (hl:(z i).l=l):CutH x b g n i (m - min m (z i).n) (lessN z i (min m (z i).n)) (setQ q o l (q o l+min m (z i).n)):=by
 have c:heldF x b g (z i)=true:=heldF_iff.2 ⟨h1,h2⟩
 have p:=h.pos i hi
 have e0:max 0 m=m:=by omega
 have e1:max 0 (m - min m (z i).n)=m - min m (z i).n:=by omega
 have le:=h.le
 refine ⟨?_,fun a k => ?_,fun a k => ?_,fun j hj => ?_,fun j hj => ?_,by omega⟩
 ·rw [← h.rest,e0,e1]
  exact (if_pos c).symm
 ·have s:=h.sum a k
  have ec:cutQ (heldF x b g) m (revL z (i+1)) a k=(if (z i).o=a∧(z i).l=k then min m (z i).n else 0)+cutQ (heldF x b g) (m - min m (z i).n) (revL z i) a k:=if_pos c
  rw [e0,ec,ho,hl] at s
  rw [e1,revL_congr (z:=lessN z i (min m (z i).n)) (z':=z) fun j hj=>if_neg (by omega)]
  unfold setQ
  by_cases e:a=o∧k=l
  ·rw [if_pos ⟨e.1.symm,e.2.symm⟩] at s
   rw [if_pos e]
   rw [e.1,e.2] at s ⊢
   omega
  ·rw [if_neg (fun e'=>e ⟨e'.1.symm,e'.2.symm⟩)] at s
   rw [if_neg e]
   omega
 ·have:=h.q0 a k
  have:=h.q0 o l
  unfold setQ
  split<;>omega
 ·unfold lessN
  have w:=h.pos j hj
  by_cases e:j=i
  ·rw [if_pos e,e]
   show 0≤(z i).n - min m (z i).n∧(z i).n - min m (z i).n≤200
   omega
  ·rw [if_neg e];exact w
 ·unfold lessN
  have w:=h.key j hj
  by_cases e:j=i
  ·rw [if_pos e];exact w
  ·rw [if_neg e];exact w
theorem CutH.done {x:St} {b g:Nat} {n m:Int} {i:Nat} {z:Nat→Hd} {q:Int→Int→Int} (h:CutH x b g n i m z q) (hi:i≤x.hs.n) (hd:i=0∨m≤0):z=cutI (heldF x b g) x.hs.n (max 0 n) x.hs.z∧q=cutQ (heldF x b g) (max 0 n) (holdR x):=by
 rcases hd with rfl | hd
 ·refine ⟨h.rest,?_⟩
  funext o l
  rw [← h.sum o l]
  exact (Int.add_zero _).symm
 ·have e:max 0 m=0:=by omega
  have r:=h.rest
  rw [e,cutI_zero _ _ _ fun j hj=>(h.pos j (by omega)).1] at r
  refine ⟨r,?_⟩
  funext o l
  rw [← h.sum o l,e,cutQ_zero _ _ _ (h.revP hi),Int.add_zero]
theorem holdFacts {A BC r:Nat} {W0 wk:World} {x:St} {b g:Nat} {q q':Int→Int→Int} {z:Nat→Hd} {k o l G gO B:Nat} (h:CutI A BC r W0 (withHolds (backS x q) ⟨x.hs.a,x.hs.n,x.hs.c,z⟩) b g q' wk) (hk:k<x.hs.n) (ho:(z k).o=(o:Int)) (hl:(z k).l=(l:Int)) (on:o<x.os.n) (ln:l<(x.os.z o).ls.n) (hG:x.hs.a=some ⟨G,0,none⟩) (hO:x.os.a=some ⟨gO,0,none⟩) (hB:(x.os.z o).ls.a=some ⟨B,0,none⟩) :
  BC<wk.heap.size∧wk.cell? ⟨BC,1,none⟩=some (.slice (some ⟨gO,0,none⟩) x.os.n x.os.c)∧wk.cell? ⟨BC,2,none⟩=some (.slice (some ⟨G,0,none⟩) x.hs.n x.hs.c)∧wk.cell? ⟨BC,7,none⟩=some (.int .i64 (b:Int))∧wk.cell? ⟨BC,8,none⟩=some (.int .i64 (g:Int))∧wk.cell? ⟨BC,9,none⟩=some (.map (some r)) ∧
  G<wk.heap.size∧wk.cell? ⟨G,k*4,none⟩=some (.int .i64 (o:Int))∧wk.cell? ⟨G,k*4+1,none⟩=some (.int .i64 (l:Int))∧wk.cell? ⟨G,k*4+2,none⟩=some (.int .i64 (z k).b)∧wk.cell? ⟨G,k*4+3,none⟩=some (.int .i64 (z k).n) ∧
  gO<wk.heap.size∧wk.cell? ⟨gO,o*2+1,none⟩=some (.slice (some ⟨B,0,none⟩) (x.os.z o).ls.n (x.os.z o).ls.c)∧B<wk.heap.size∧wk.cell? ⟨B,l*4,none⟩=some (.int .i64 ((x.os.z o).ls.z l).o)∧wk.cell? ⟨B,l*4+3,none⟩=some (.int .i64 (((x.os.z o).ls.z l).n+q o l))∧(∀ j,wk.frozen? ⟨G,j,none⟩=false)∧(∀ j,wk.frozen? ⟨B,j,none⟩=false)∧¬ G=B:=by
 obtain ⟨u,-,u1,u2,-,-,-,-,u7,u8,u9⟩:=h.boxed
 obtain ⟨G',hG',hAG,hb⟩:=h.own.hs.2.2.2 (show 0<x.hs.n by omega)
 obtain ⟨gO',B',c1,c2,c3,c4,c5,c6,c7,c8,c9,c10,d0,d1,d2,d3⟩:=h.own.lineCell (o:=o) (l:=l) on ln
 have e1:G=G':=by have e:x.hs.a=some ⟨G',0,none⟩:=hG';rw [hG] at e;simpa using e
 have e2:gO=gO':=by have e:x.os.a=some ⟨gO',0,none⟩:=c1;rw [hO] at e;simpa using e
 have e3:B=B':=by have e:(x.os.z o).ls.a=some ⟨B',0,none⟩:=c5;rw [hB] at e;simpa using e
 subst e1 e2 e3
 have u1':wk.cell? ⟨BC,1,none⟩=some (.slice x.os.a x.os.n x.os.c):=u1
 have u2':wk.cell? ⟨BC,2,none⟩=some (.slice x.hs.a x.hs.n x.hs.c):=u2
 rw [hO] at u1'
 rw [hG] at u2'
 have hbl:=h.own.os.lines o on
 obtain ⟨B',b1,b2,b3,b4,b5⟩:=hbl
 have e3:B=B':=by have e:(x.os.z o).ls.a=some ⟨B',0,none⟩:=b1;rw [hB] at e;simpa using e
 subst e3
 exact ⟨u,u1',u2',u7,u8,u9,hb.lt,(hb.cell (j:=k*4) (by show k*4<x.hs.n*4;omega)).trans (congrArg some ((flatH_at (z:=z) (c:=0) hk (by decide)).trans (by rw [← ho];rfl))),(hb.cell (j:=k*4+1) (by show _<x.hs.n*4;omega)).trans (congrArg some ((flatH_at (z:=z) (c:=1) hk (by decide)).trans (by rw [← hl];rfl))),(hb.cell (j:=k*4+2) (by show _<x.hs.n*4;omega)).trans (congrArg some (flatH_at (z:=z) (c:=2) hk (by decide))),(hb.cell (j:=k*4+3) (by show _<x.hs.n*4;omega)).trans (congrArg some (flatH_at (z:=z) (c:=3) hk (by decide))),c3,c4,c7,d0,d3,fun j=>hb.frozen j,c10,Blk.ne2 hb b5 (by decide)⟩
def entV (BC r G k o l:Nat) (qv d:Int) (j:Nat):Value:=(#[.pointer (some ⟨BC,0,none⟩),.pointer (some ⟨BC,0,none⟩),.pointer (some ⟨BC,9,none⟩),.map (some r),.pointer (some ⟨G,k*4,none⟩),.pointer (some ⟨G,k*4,none⟩),.pointer (some ⟨G,k*4,none⟩),.int .i64 (o:Int),.pointer (some ⟨G,k*4,none⟩),.pointer (some ⟨G,k*4,none⟩),.pointer (some ⟨G,k*4+1,none⟩),.int .i64 (l:Int),mkey o l,.int .i64 qv,.int .i64 d,.int .i64 (qv+d)]:Array Value).getD j default
structure EntI (A BC r:Nat) (W0:World) (X:St) (b g:Nat) (q:Int→Int→Int) (o l G k:Nat) (d:Int) (dn:Nat→Bool) (V:Nat→Value) (w:World):Prop where
 val:∀ j,j<16→dn j=true→V j=entV BC r G k o l (q o l) d j
 cut:dn 18=false→CutI A BC r W0 X b g q w
 fin:dn 18=true→CutI A BC r W0 X b g (setQ q o l (q o l+d)) w
 ent:dn 16=true→dn 18=false→∃ (v0:Value) (st:Nat),V 16 = .tuple #[v0,goInt st]∧(dn 17=true→V 17=goInt st)∧∀ v:Int,∃ w2,(Instr.entryStore 137 (.map (some r)) (goInt st) (.int .i64 v)).run Tryz.prog w = .ok () w2∧MapQ w2 r (setQ q o l v)∧KeepR r w w2
 c18:dn 18=true→dn 15=true∧dn 17=true
 c15:dn 15=true→dn 13=true
 c17:dn 17=true→dn 16=true
section
variable {A BC r:Nat} {W0:World} {X:St} {b g:Nat} {q:Int→Int→Int} {o l G k:Nat} {d:Int} {dn:Nat→Bool} {V:Nat→Value} {w:World}
theorem EntI.any (h:EntI A BC r W0 X b g q o l G k d dn V w):∃ q',CutI A BC r W0 X b g q' w:=by
 cases e:dn 18
 ·exact ⟨_,h.cut e⟩
 ·exact ⟨_,h.fin e⟩
theorem EntI.not13 (h:EntI A BC r W0 X b g q o l G k d dn V w) (e:dn 13=false):dn 18=false:=by
 cases e2:dn 18
 ·rfl
 ·rw [h.c15 (h.c18 e2).1] at e;cases e
theorem EntI.not17 (h:EntI A BC r W0 X b g q o l G k d dn V w) (e:dn 17=false):dn 18=false:=by
 cases e2:dn 18
 ·rfl
 ·rw [(h.c18 e2).2] at e;cases e
theorem EntI.not16 (h:EntI A BC r W0 X b g q o l G k d dn V w) (e:dn 16=false):dn 18=false∧dn 17=false:=by
 have e17:dn 17=false:=by
  cases e2:dn 17
  ·rfl
  ·rw [h.c17 e2] at e;cases e
 exact ⟨h.not17 e17,e17⟩
theorem up {i j:Nat} (h:dn j=true):updB dn i j=true:=by
 by_cases e:j=i
 ·rw [e];exact updB_self dn i
 ·rw [updB_ne e];exact h
theorem EntI.put (h:EntI A BC r W0 X b g q o l G k d dn V w) {i:Nat} (hi:i<16) {v:Value} (hv:v=entV BC r G k o l (q o l) d i) (h15:i=15→dn 13=true):EntI A BC r W0 X b g q o l G k d (updB dn i) (upd V i v) w:=by
 have n18:updB dn i 18=dn 18:=updB_ne (by omega)
 have n17:updB dn i 17=dn 17:=updB_ne (by omega)
 have n16:updB dn i 16=dn 16:=updB_ne (by omega)
 refine ⟨fun j hj hd => ?_,fun hd=>h.cut (n18 ▸ hd),fun hd=>h.fin (n18 ▸ hd),fun h1 h2 => ?_,fun h1 => ?_,fun h1 => ?_,fun h1 => ?_⟩
 ·by_cases e:j=i
  ·rw [e,upd_at];exact hv
  ·rw [upd_ne V v e];rw [updB_ne e] at hd;exact h.val j hj hd
 ·rw [n16] at h1
  rw [n18] at h2
  obtain ⟨v0,st,e1,e2,e3⟩:=h.ent h1 h2
  exact ⟨v0,st,by rw [upd_ne V v (by omega)];exact e1,fun h3=>by rw [upd_ne V v (by omega)];exact e2 (n17 ▸ h3),e3⟩
 ·rw [n18] at h1
  exact ⟨up (h.c18 h1).1,up (h.c18 h1).2⟩
 ·by_cases e:15=i
  ·exact up (h15 e.symm)
  ·rw [updB_ne e] at h1;exact up (h.c15 h1)
 ·rw [n17] at h1
  exact up (h.c17 h1)
theorem EntI.entry (h:EntI A BC r W0 X b g q o l G k d dn V w) (hn:dn 16=false) {v0:Value} {st:Nat} {w1:World} (m:MapQ w1 r q) (kr:KeepR r w w1) (hs:∀ v:Int,∃ w2,(Instr.entryStore 137 (.map (some r)) (goInt st) (.int .i64 v)).run Tryz.prog w1 = .ok () w2∧MapQ w2 r (setQ q o l v)∧KeepR r w w2):EntI A BC r W0 X b g q o l G k d (updB dn 16) (upd V 16 (.tuple #[v0,goInt st])) w1:=by
 obtain ⟨e18,e17⟩:=h.not16 hn
 have n18:updB dn 16 18=dn 18:=updB_ne (by omega)
 have n17:updB dn 16 17=dn 17:=updB_ne (by omega)
 refine ⟨fun j hj hd => ?_,fun hd=>(h.cut e18).store m kr,fun hd => ?_,fun h1 h2 => ?_,fun h1 => ?_,fun h1 => ?_,fun h1 => ?_⟩
 ·rw [upd_ne V _ (by omega)];rw [updB_ne (by omega)] at hd;exact h.val j hj hd
 ·rw [n18,e18] at hd;cases hd
 ·refine ⟨v0,st,upd_at _ _ _,fun h3 => ?_,fun v => ?_⟩
  ·rw [n17,e17] at h3;cases h3
  ·obtain ⟨w2,a1,a2,a3⟩:=hs v
   exact ⟨w2,a1,a2,⟨a3.os.trans kr.os.symm,a3.tape.trans kr.tape.symm,a3.output.trans kr.output.symm,a3.size.trans kr.size.symm,fun k' hk=>(a3.block k' hk).trans (kr.block k' hk).symm⟩⟩
 ·rw [n18,e18] at h1;cases h1
 ·rw [updB_ne (by omega)] at h1;exact up (h.c15 h1)
 ·exact updB_self dn 16
theorem EntI.extract (h:EntI A BC r W0 X b g q o l G k d dn V w) (hn:dn 17=false) (d16:dn 16=true) {v0:Value} {st:Nat} (hv:V 16 = .tuple #[v0,goInt st]):EntI A BC r W0 X b g q o l G k d (updB dn 17) (upd V 17 (goInt st)) w:=by
 have e18:=h.not17 hn
 have n18:updB dn 17 18=dn 18:=updB_ne (by omega)
 refine ⟨fun j hj hd => ?_,fun hd=>h.cut e18,fun hd => ?_,fun h1 h2 => ?_,fun h1 => ?_,fun h1 => ?_,fun h1=>up d16⟩
 ·rw [upd_ne V _ (by omega)];rw [updB_ne (by omega)] at hd;exact h.val j hj hd
 ·rw [n18,e18] at hd;cases hd
 ·obtain ⟨v1,st1,a1,a2,a3⟩:=h.ent d16 e18
  have es:goInt st1=goInt st:=by
   have e:=a1.symm.trans hv
   simp only [Value.tuple.injEq] at e
   have e2:(#[v1,goInt st1]:Array Value)[1]?=(#[v0,goInt st]:Array Value)[1]?:=by rw [e]
   simpa using e2
  refine ⟨v0,st,by rw [upd_ne V _ (by omega)];exact hv,fun _=>upd_at _ _ _,fun v => ?_⟩
  rw [← es]
  exact a3 v
 ·rw [n18,e18] at h1;cases h1
 ·rw [updB_ne (by omega)] at h1;exact up (h.c15 h1)
theorem EntI.store (h:EntI A BC r W0 X b g q o l G k d dn V w) (hn:dn 18=false) (d15:dn 15=true) (d17:dn 17=true) {w2:World} (m:MapQ w2 r (setQ q o l (q o l+d))) (kr:KeepR r w w2) (v:Value):EntI A BC r W0 X b g q o l G k d (updB dn 18) (upd V 18 v) w2:=by
 have n18:updB dn 18 18=true:=updB_self dn 18
 refine ⟨fun j hj hd => ?_,fun hd => ?_,fun _=>(h.cut hn).store m kr,fun h1 h2 => ?_,fun _=>⟨up d15,up d17⟩,fun h1 => ?_,fun h1 => ?_⟩
 ·rw [upd_ne V _ (by omega)];rw [updB_ne (by omega)] at hd;exact h.val j hj hd
 ·rw [n18] at hd;cases hd
 ·rw [n18] at h2;cases h2
 ·rw [updB_ne (by omega)] at h1;exact up (h.c15 h1)
 ·rw [updB_ne (by omega)] at h1;exact up (h.c17 h1)
end
set_option maxRecDepth 100000 in
set_option maxHeartbeats 8000000 in
theorem cutHolds_any (p:Pl) (A BC r:Nat) (W0:World) (x:St) (b g:Nat) (n:Int) (w:World) (h:CutI A BC r W0 x b g (fun _ _=>0) w) (f:Formed p x) (hn : -100000≤n∧n≤100000) (hq:∀ o l,cutQ (heldF x b g) (max 0 n) (holdR x) o l≤100000) :
  Calls Tryz.prog 106 #[.pointer (some ⟨BC,0,none⟩),.int .i64 n] w fun e w'=>e = .returned (.tuple #[])∧CutI A BC r W0 (withHolds (backS x (cutQ (heldF x b g) (max 0 n) (holdR x))) (cutHs (heldF x b g) x.hs (max 0 n))) b g (cutQ (heldF x b g) (max 0 n) (holdR x)) w':=by
 have HI:Hid (CutI A BC r W0 (withHolds (backS x (fun _ _=>0)) ⟨x.hs.a,x.hs.n,x.hs.c,x.hs.z⟩) b g (fun _ _=>0) w):=by
  show CutI A BC r W0 (withHolds (backS x (fun _ _=>0)) x.hs) b g (fun _ _=>0) w
  rw [backS_zero]
  exact h
 have HM:Hid (CutH x b g n x.hs.n n x.hs.z (fun _ _=>0)):=⟨rfl,fun o l=>Int.zero_add _,fun _ _=>Int.le_refl _,fun j hj=>by have:=f.holdN j hj;omega,fun _ _=>⟨rfl,rfl,rfl⟩,by omega,Or.inl rfl⟩
 obtain ⟨u,-,-,u2,-,-,-,-,-,-,-⟩:=h.boxed
 have mc:=h.own.hs.2.1
 have ml:=h.own.hs.1
 unfold maxLen at mc
 have h72:=f.hs72
 have HF:Hid (Formed p x):=f
 have HQ:Hid (∀ o l,cutQ (heldF x b g) (max 0 n) (holdR x) o l≤100000):=hq
 clear h f hq
 go_enter Tryz.func106,Tryz.ntmps106
 go_wp2_with fail
 clear u u2
 go_loopw [1,4] (fun nv iv wk=>∃ (i:Nat) (m:Int) (z:Nat→Hd) (q:Int→Int→Int),i≤x.hs.n∧iv = .int .i64 ((i:Int) - 1)∧nv = .int .i64 m∧Hid (CutI A BC r W0 (withHolds (backS x q) ⟨x.hs.a,x.hs.n,x.hs.c,z⟩) b g q wk)∧Hid (CutH x b g n i m z q)) (fun _ iv _=>(intOf iv+1).toNat)
 case atStart=>exact ⟨x.hs.n,n,x.hs.z,fun _ _=>0,Nat.le_refl _,rfl,rfl,HI,HM⟩
 case round =>
  clear HI HM
  obtain ⟨i,m,z,q,hi,rfl,rfl,HI,HM⟩:=hrel
  have hle:=HM.out.le
  by_cases hd:i=0∨m≤0
  ·have HD:Hid (z=cutI (heldF x b g) x.hs.n (max 0 n) x.hs.z∧q=cutQ (heldF x b g) (max 0 n) (holdR x)):=HM.out.done hi hd
   obtain ⟨u,-,-,u2,-,-,-,-,-,-,-⟩:=HI.out.boxed
   have u2':wr.cell? ⟨BC,2,none⟩=some (.slice x.hs.a x.hs.n x.hs.c):=u2
   have HDC:Hid (Calls Tryz.prog 97 #[.slice x.hs.a x.hs.n x.hs.c,.func (.func 150) #[] #[]] wr fun e w'=>e = .returned (.slice x.hs.a (cutHs (heldF x b g) x.hs (max 0 n)).n x.hs.c)∧OwnS A w' (withHolds (backS x q) (cutHs (heldF x b g) x.hs (max 0 n)))∧Below A wr w'∧(∀ q t m g,t≠61→Blk wr q t m g→Blk w' q t m g)∧KeepsOthers wr w'):=by
    have hz:=HD.out.1
    have hD:=DelS2_any 150 #[] goneH A (withHolds (backS x q) ⟨x.hs.a,x.hs.n,x.hs.c,z⟩) wr HI.out.le HI.out.own (enters_of Tryz.func150 (by kernel_rfl) rfl) (fun y wz _=>by rw [Array.append_empty];exact cutHolds1_any y wz)
    rw [hz] at hD
    exact hD
   clear u2
   by_cases hi0:i=0
   ·have q1:¬ (0:Int)≤(i:Int) - 1:=by omega
    go_wp2_with fail
    refine HDC.out.mono ?_
    rintro e w2 ⟨rfl,hO2,hB2,hk2,ho2⟩
    have HN:Hid (CutI A BC r W0 (withHolds (backS x (cutQ (heldF x b g) (max 0 n) (holdR x))) (cutHs (heldF x b g) x.hs (max 0 n))) b g (cutQ (heldF x b g) (max 0 n) (holdR x)) (w2.setCell ⟨BC,2,none⟩ (.slice x.hs.a (cutHs (heldF x b g) x.hs (max 0 n)).n x.hs.c))):=by
     have h:=HI.out.newHolds (m:=cutHs (heldF x b g) x.hs (max 0 n)) hO2 hB2 hk2 ho2
     rw [HD.out.2] at h
     exact h
    have bx:=hk2 _ _ _ _ (by decide) HI.out.box
    have y1:=bx.lt
    have y2:=bx.frozen 2
    have y3:=bx.cell (j:=2) (by decide)
    clear hO2 hB2 hk2 ho2 bx HDC HI HM u u2'
    go_wp2_with fail
    go_end0
    exact ⟨rfl,HN.out⟩
   ·have hm0:m≤0:=by omega
    have q1:(0:Int)≤(i:Int) - 1:=by omega
    have q2:¬ 0<m:=by omega
    go_wp2_with fail
    refine HDC.out.mono ?_
    rintro e w2 ⟨rfl,hO2,hB2,hk2,ho2⟩
    have HN:Hid (CutI A BC r W0 (withHolds (backS x (cutQ (heldF x b g) (max 0 n) (holdR x))) (cutHs (heldF x b g) x.hs (max 0 n))) b g (cutQ (heldF x b g) (max 0 n) (holdR x)) (w2.setCell ⟨BC,2,none⟩ (.slice x.hs.a (cutHs (heldF x b g) x.hs (max 0 n)).n x.hs.c))):=by
     have h:=HI.out.newHolds (m:=cutHs (heldF x b g) x.hs (max 0 n)) hO2 hB2 hk2 ho2
     rw [HD.out.2] at h
     exact h
    have bx:=hk2 _ _ _ _ (by decide) HI.out.box
    have y1:=bx.lt
    have y2:=bx.frozen 2
    have y3:=bx.cell (j:=2) (by decide)
    clear hO2 hB2 hk2 ho2 bx HDC HI HM u u2'
    go_wp2_with fail
    go_end0
    exact ⟨rfl,HN.out⟩
  ·obtain ⟨k,rfl⟩:∃ k,i=k+1:=⟨i - 1,by omega⟩
   have hk:k<x.hs.n:=by omega
   have q1:(0:Int)≤(k:Int):=by omega
   have q2:0<m:=by omega
   have q3:(k:Int)<(x.hs.n:Int):=by omega
   have e1:(((k+1:Nat):Int) - 1)=(k:Int):=by omega
   rw [e1]
   obtain ⟨ky1,ky2,ky3⟩:=HM.out.key k hk
   obtain ⟨a1,a2,a3⟩:=homeless_no (HF.out.home k hk)
   obtain ⟨o,ho⟩:=Int.eq_ofNat_of_zero_le a1.1
   obtain ⟨l,hl⟩:=Int.eq_ofNat_of_zero_le a2.1
   rw [ho] at a1 a2
   rw [hl] at a2
   have on:o<x.os.n:=a1.2
   have ln:l<(x.os.z o).ls.n:=a2.2
   have o4:o<4:=by have:=HF.out.os4;omega
   have l3:l<3:=by have:=(HF.out.lns o on).2;omega
   have HO:Hid ((z k).o=(o:Int)∧(z k).l=(l:Int)):=⟨ky1.trans ho,ky2.trans hl⟩
   have HGD:Hid (goodH x (z k)=((x.os.z o).ls.z l).o):=by show goodH x (z k)=_;unfold goodH;rw [HO.out.1,HO.out.2];rfl
   obtain ⟨G,hG,hAG,-⟩:=HI.out.own.hs.2.2.2 (show 0<x.hs.n by omega)
   obtain ⟨gO,B,hO,-,-,-,hB,-,-,nc,cc,-⟩:=HI.out.own.lineCell (o:=o) (l:=l) on ln
   have HA:Hid (x.hs.a=some ⟨G,0,none⟩∧x.os.a=some ⟨gO,0,none⟩∧(x.os.z o).ls.a=some ⟨B,0,none⟩):=⟨hG,hO,hB⟩
   have nc':(x.os.z o).ls.n≤(x.os.z o).ls.c:=nc
   have cc':(x.os.z o).ls.c≤maxLen:=cc
   have oc:x.os.c≤maxLen:=HI.out.own.os.cap
   have ocl:x.os.n≤x.os.c:=HI.out.own.os.le
   unfold maxLen at cc' oc
   have zp:=HM.out.pos k hk
   have bl0:=badLine_no (HF.out.line o on l ln)
   have qo:=HM.out.q0 o l
   have qle:=Int.le_trans (HM.out.qle hi o l) (HQ.out o l)
   have s0:(0:Int)≤(o:Int):=by omega
   have s1:(o:Int)<(x.os.n:Int):=by omega
   have s2:(0:Int)≤(l:Int):=by omega
   have s3:(l:Int)<((x.os.z o).ls.n:Int):=by omega
   clear ky1 ky2 ky3 a1 a2 a3 ho hl hG hO hB nc cc hd e1 hAG
   obtain ⟨u,u1,u2,u7,u8,u9,gl,z0,z1,z2,z3,ol,c4,bl,d0,d3,fG,fB,ne⟩:=holdFacts HI.out hk HO.out.1 HO.out.2 on ln HA.out.1 HA.out.2.1 HA.out.2.2
   have e1:(((k+1:Nat):Int) - 1)=(k:Int):=by omega
   go_wp2_with fail
   clear u u1 u2 u7 u8 u9 gl z0 z1 z2 z3 ol c4 bl d0 d3 fG fB ne
   obtain ⟨u,u1,u2,u7,u8,u9,gl,z0,z1,z2,z3,ol,c4,bl,d0,d3,fG,fB,ne⟩:=holdFacts HI.out hk HO.out.1 HO.out.2 on ln HA.out.1 HA.out.2.1 HA.out.2.2
   clear fG fB ne z3 d3 u9
   have ru1:=fun d os=>cell_regrown u1 d os
   have ru2:=fun d os=>cell_regrown u2 d os
   have ru7:=fun d os=>cell_regrown u7 d os
   have ru8:=fun d os=>cell_regrown u8 d os
   have rz0:=fun d os=>cell_regrown z0 d os
   have rz1:=fun d os=>cell_regrown z1 d os
   have rz2:=fun d os=>cell_regrown z2 d os
   have rc4:=fun d os=>cell_regrown c4 d os
   have rd0:=fun d os=>cell_regrown d0 d os
   refine wp_region_quiet_below (by kernel_rfl) (by kernel_rfl) ?_
   repeat (go_big_quiet_step (fail))
   refine wpQuiet_nil ?_
   intro _ hw'
   obtain ⟨⟨dq,osq⟩,hw''⟩:=hw'
   subst hw''
   have HIa:Hid (CutI A BC r W0 (withHolds (backS x q) ⟨x.hs.a,x.hs.n,x.hs.c,z⟩) b g q (grow (redrawn wr dq) osq)):=HI.out.below (below_regrown wr dq osq)
   clear ru1 ru2 ru7 ru8 rz0 rz1 rz2 rc4 rd0 u u1 u2 u7 u8 gl z0 z1 z2 ol c4 bl d0 HI
   generalize grow (redrawn wr dq) osq=wa at *
   generalize hZB:(z k).b=ZB at *
   generalize hZO:((x.os.z o).ls.z l).o=ZO at *
   have HZ:Hid ((z k).b=ZB∧goodH x (z k)=ZO):=⟨hZB,HGD.out⟩
   have HZ2:Hid (((x.os.z o).ls.z l).o=ZO):=hZO
   clear hZB hZO
   cases h1:(ZB==(b:Int))
   ·have HN:Hid (CutH x b g n k m z q):=HM.out.miss (fun e=>by rw [HZ.out.1] at e;simp at h1;omega)
    have h1':(ZB !=(b:Int))=true:=by simp at h1 ⊢;omega
    go_wp2_with fail
    obtain ⟨u,u1,u2,u7,u8,u9,gl,z0,z1,z2,z3,ol,c4,bl,d0,d3,fG,fB,ne⟩:=holdFacts HIa.out hk HO.out.1 HO.out.2 on ln HA.out.1 HA.out.2.1 HA.out.2.2
    clear fG fB ne z3 d3 u9
    rw [HZ.out.1] at z2
    rw [HZ2.out] at d0
    have ru1:=fun d os=>cell_regrown u1 d os
    have ru2:=fun d os=>cell_regrown u2 d os
    have ru7:=fun d os=>cell_regrown u7 d os
    have ru8:=fun d os=>cell_regrown u8 d os
    have rz0:=fun d os=>cell_regrown z0 d os
    have rz1:=fun d os=>cell_regrown z1 d os
    have rz2:=fun d os=>cell_regrown z2 d os
    have rc4:=fun d os=>cell_regrown c4 d os
    have rd0:=fun d os=>cell_regrown d0 d os
    refine wp_region_quiet_below (by kernel_rfl) (by kernel_rfl) ?_
    repeat (go_big_quiet_step (fail))
    refine wpQuiet_nil ?_
    intro _ hw'
    obtain ⟨⟨dq,osq⟩,hw''⟩:=hw'
    subst hw''
    have HIz:Hid (CutI A BC r W0 (withHolds (backS x q) ⟨x.hs.a,x.hs.n,x.hs.c,z⟩) b g q (grow (redrawn wa dq) osq)):=HIa.out.below (below_regrown wa dq osq)
    clear ru1 ru2 ru7 ru8 rz0 rz1 rz2 rc4 rd0 u u1 u2 u7 u8 gl z0 z1 z2 ol c4 bl d0 HIa
    generalize grow (redrawn wa dq) osq=wz at *
    go_wp2_with fail
    go_roundw
    case rel=>exact ⟨k,m,z,q,by omega,by go_num,rfl,HIz,HN⟩
    case measure=>simp [intOf]
   ·have h1':(ZB !=(b:Int))=false:=by simp at h1 ⊢;omega
    cases h2:(ZO==(g:Int))
    ·have HN:Hid (CutH x b g n k m z q):=HM.out.miss (fun e=>by rw [HZ.out.2] at e;simp at h2;omega)
     have h2':(ZO !=(g:Int))=true:=by simp at h2 ⊢;omega
     go_wp2_with fail
     obtain ⟨u,u1,u2,u7,u8,u9,gl,z0,z1,z2,z3,ol,c4,bl,d0,d3,fG,fB,ne⟩:=holdFacts HIa.out hk HO.out.1 HO.out.2 on ln HA.out.1 HA.out.2.1 HA.out.2.2
     clear fG fB ne z3 d3 u9
     rw [HZ.out.1] at z2
     rw [HZ2.out] at d0
     have ru1:=fun d os=>cell_regrown u1 d os
     have ru2:=fun d os=>cell_regrown u2 d os
     have ru7:=fun d os=>cell_regrown u7 d os
     have ru8:=fun d os=>cell_regrown u8 d os
     have rz0:=fun d os=>cell_regrown z0 d os
     have rz1:=fun d os=>cell_regrown z1 d os
     have rz2:=fun d os=>cell_regrown z2 d os
     have rc4:=fun d os=>cell_regrown c4 d os
     have rd0:=fun d os=>cell_regrown d0 d os
     refine wp_region_quiet_below (by kernel_rfl) (by kernel_rfl) ?_
     repeat (go_big_quiet_step (fail))
     refine wpQuiet_nil ?_
     intro _ hw'
     obtain ⟨⟨dq,osq⟩,hw''⟩:=hw'
     subst hw''
     have HIz:Hid (CutI A BC r W0 (withHolds (backS x q) ⟨x.hs.a,x.hs.n,x.hs.c,z⟩) b g q (grow (redrawn wa dq) osq)):=HIa.out.below (below_regrown wa dq osq)
     clear ru1 ru2 ru7 ru8 rz0 rz1 rz2 rc4 rd0 u u1 u2 u7 u8 gl z0 z1 z2 ol c4 bl d0 HIa
     generalize grow (redrawn wa dq) osq=wz at *
     go_wp2_with fail
     go_roundw
     case rel=>exact ⟨k,m,z,q,by omega,by go_num,rfl,HIz,HN⟩
     case measure=>simp [intOf]
    ·have h2':(ZO !=(g:Int))=false:=by simp at h2 ⊢;omega
     have HN:Hid (CutH x b g n k (m - min m (z k).n) (lessN z k (min m (z k).n)) (setQ q o l (q o l+min m (z k).n))):=HM.out.hit hk q2 (by rw [HZ.out.1];simpa using h1) (by rw [HZ.out.2];simpa using h2) HO.out.1 HO.out.2
     go_wp2_with fail
     obtain ⟨u,u1,u2,u7,u8,u9,gl,z0,z1,z2,z3,ol,c4,bl,d0,d3,fG,fB,ne⟩:=holdFacts HIa.out hk HO.out.1 HO.out.2 on ln HA.out.1 HA.out.2.1 HA.out.2.2
     clear fG fB ne z3 d3 u9
     rw [HZ.out.1] at z2
     rw [HZ2.out] at d0
     have ru1:=fun d os=>cell_regrown u1 d os
     have ru2:=fun d os=>cell_regrown u2 d os
     have ru7:=fun d os=>cell_regrown u7 d os
     have ru8:=fun d os=>cell_regrown u8 d os
     have rz0:=fun d os=>cell_regrown z0 d os
     have rz1:=fun d os=>cell_regrown z1 d os
     have rz2:=fun d os=>cell_regrown z2 d os
     have rc4:=fun d os=>cell_regrown c4 d os
     have rd0:=fun d os=>cell_regrown d0 d os
     refine wp_region_quiet_below (by kernel_rfl) (by kernel_rfl) ?_
     repeat (go_big_quiet_step (fail))
     refine wpQuiet_nil ?_
     intro _ hw'
     obtain ⟨⟨dq,osq⟩,hw''⟩:=hw'
     subst hw''
     have HIz:Hid (CutI A BC r W0 (withHolds (backS x q) ⟨x.hs.a,x.hs.n,x.hs.c,z⟩) b g q (grow (redrawn wa dq) osq)):=HIa.out.below (below_regrown wa dq osq)
     clear ru1 ru2 ru7 ru8 rz0 rz1 rz2 rc4 rd0 u u1 u2 u7 u8 gl z0 z1 z2 ol c4 bl d0 HIa
     generalize grow (redrawn wa dq) osq=wz at *
     obtain ⟨u,u1,u2,u7,u8,u9,gl,z0,z1,z2,z3,ol,c4,bl,d0,d3,fG,fB,ne⟩:=holdFacts HIz.out hk HO.out.1 HO.out.2 on ln HA.out.1 HA.out.2.1 HA.out.2.2
     have f1:=fG (k*4+3)
     have f2:=fB (l*4+3)
     have ne2:¬ B=G:=fun e=>ne e.symm
     have HI3:Hid (CutI A BC r W0 (withHolds (backS x (setQ q o l (q o l+min m (z k).n))) ⟨x.hs.a,x.hs.n,x.hs.c,lessN z k (min m (z k).n)⟩) b g q ((wz.setCell ⟨G,k*4+3,none⟩ (.int .i64 ((z k).n - min m (z k).n))).setCell ⟨B,l*4+3,none⟩ (.int .i64 (((x.os.z o).ls.z l).n+q o l+min m (z k).n)))):=by
      have h1:=HIz.out.holdN (i:=k) (G:=G) hk HA.out.1 (min m (z k).n)
      have h2:=h1.back (o:=o) (B:=B) on HA.out.2.2 l (((x.os.z o).ls.z l).n+q o l+min m (z k).n)
      have e:setLine (withHolds (withHolds (backS x q) ⟨x.hs.a,x.hs.n,x.hs.c,z⟩) (lessHs ⟨x.hs.a,x.hs.n,x.hs.c,z⟩ k (min m (z k).n))) o l 3 (((x.os.z o).ls.z l).n+q o l+min m (z k).n)=withHolds (setLine (backS x q) o l 3 (((x.os.z o).ls.z l).n+q o l+min m (z k).n)) ⟨x.hs.a,x.hs.n,x.hs.c,lessN z k (min m (z k).n)⟩:=rfl
      rw [back_set] at e
      rw [← e]
      exact h2
     have HO3:Hid ((lessN z k (min m (z k).n) k).o=(o:Int)∧(lessN z k (min m (z k).n) k).l=(l:Int)):=by
      have e:lessN z k (min m (z k).n) k=lessL (z k) (min m (z k).n):=if_pos rfl
      show (lessN z k (min m (z k).n) k).o=(o:Int)∧(lessN z k (min m (z k).n) k).l=(l:Int)
      rw [e]
      exact HO.out
     obtain ⟨X3,hX3⟩:∃ X3,withHolds (backS x (setQ q o l (q o l+min m (z k).n))) ⟨x.hs.a,x.hs.n,x.hs.c,lessN z k (min m (z k).n)⟩=X3:=⟨_,rfl⟩
     have HX3:Hid (withHolds (backS x (setQ q o l (q o l+min m (z k).n))) ⟨x.hs.a,x.hs.n,x.hs.c,lessN z k (min m (z k).n)⟩=X3):=hX3
     have HZC:Hid (∀ wk q',CutI A BC r W0 X3 b g q' wk→BC<wk.heap.size∧wk.cell? ⟨BC,9,none⟩=some (.map (some r))∧G<wk.heap.size∧wk.cell? ⟨G,k*4,none⟩=some (.int .i64 (o:Int))∧wk.cell? ⟨G,k*4+1,none⟩=some (.int .i64 (l:Int))):=fun wk q' hc=>by
      rw [← hX3] at hc
      obtain ⟨u,u1,u2,u7,u8,u9,gl,z0,z1,-⟩:=holdFacts (z:=lessN z k (min m (z k).n)) hc hk HO3.out.1 HO3.out.2 on ln HA.out.1 HA.out.2.1 HA.out.2.2
      exact ⟨u,u9,gl,z0,z1⟩
     rw [hX3] at HI3
     clear HIz fG fB HM HGD hX3 HO3
     have qB : -9223372036854775808≤q o l+min m (z k).n∧q o l+min m (z k).n≤9223372036854775807:=by omega
     obtain ⟨MM,hMM⟩:∃ MM,min m (z k).n=MM:=⟨_,rfl⟩
     rw [hMM] at HI3 HX3 HN qB
     have mmb:0≤MM∧MM≤200∧MM≤m∧MM≤(z k).n:=by omega
     generalize (z k).n=ZN at *
     generalize ((x.os.z o).ls.z l).n=LN at *
     go_wp2_with fail
     obtain ⟨w3,hw3⟩:∃ w3,((wz.setCell ⟨G,k*4+3,none⟩ (.int .i64 (ZN - MM))).setCell ⟨B,l*4+3,none⟩ (.int .i64 (LN+q o l+MM)))=w3:=⟨_,rfl⟩
     rw [hw3] at HI3 ⊢
     clear hw3 u u1 u2 u7 u8 u9 gl z0 z1 z2 z3 ol c4 bl d0 d3 f1 f2 ne ne2
     have HI3n:Hid (CutI A BC r W0 X3 b g q w3.drew):=HI3.out.below ((Below.refl _ _).drew)
     refine wp_region_all [0,1,2,3,4,5,6,7,8,9,10,11,12,13,14,15,16,17,18] (by kernel_rfl) (by kernel_rfl) (by kernel_rfl) (by kernel_rfl) (EntI A BC r W0 X3 b g q o l G k MM) ?zei (List.forall_mem_cons.2 ⟨?ze0,List.forall_mem_cons.2 ⟨?ze1,List.forall_mem_cons.2 ⟨?ze2,List.forall_mem_cons.2 ⟨?ze3,List.forall_mem_cons.2 ⟨?ze4,List.forall_mem_cons.2 ⟨?ze5,List.forall_mem_cons.2 ⟨?ze6,List.forall_mem_cons.2 ⟨?ze7,List.forall_mem_cons.2 ⟨?ze8,List.forall_mem_cons.2 ⟨?ze9,List.forall_mem_cons.2 ⟨?ze10,List.forall_mem_cons.2 ⟨?ze11,List.forall_mem_cons.2 ⟨?ze12,List.forall_mem_cons.2 ⟨?ze13,List.forall_mem_cons.2 ⟨?ze14,List.forall_mem_cons.2 ⟨?ze15,List.forall_mem_cons.2 ⟨?ze16,List.forall_mem_cons.2 ⟨?ze17,List.forall_mem_cons.2 ⟨?ze18,List.forall_mem_nil _⟩⟩⟩⟩⟩⟩⟩⟩⟩⟩⟩⟩⟩⟩⟩⟩⟩⟩⟩) ?zed
     case zei =>
      intro dn V hd
      have f:∀ j,j∈[0,1,2,3,4,5,6,7,8,9,10,11,12,13,14,15,16,17,18]→¬ dn j=true:=fun j hj h=>by rw [hd j hj] at h;cases h
      exact ⟨fun j hj h=>absurd h (f j (by simp only [List.mem_cons,List.not_mem_nil,or_false];omega)),fun _=>HI3n.out,fun h=>absurd h (f 18 (by simp)),fun h=>absurd h (f 16 (by simp)),fun h=>absurd h (f 18 (by simp)),fun h=>absurd h (f 15 (by simp)),fun h=>absurd h (f 17 (by simp))⟩
     case ze0 =>
      intro dn V wk K hn hd hI hK
      have HII:Hid (EntI A BC r W0 X3 b g q o l G k MM dn V wk):=hI
      clear hI
      refine wpOp_list 0 rfl ?_
      simp only [putAll,dstOf,List.getElem?_toArray,List.getElem?_cons_succ,List.getElem?_cons_zero,Act.put,List.setIfInBounds_toArray,List.set_cons_succ,List.set_cons_zero] at hK ⊢
      go_wp2_with fail
      exact HII.out.put (i:=0) (by decide) rfl (fun h=>absurd h (by decide))
     case ze1 =>
      intro dn V wk K hn hd hI hK
      have d0:dn 0=true:=hd 0 (List.contains_iff_mem.1 (by kernel_rfl)) (by simp)
      have e0:V 0 = .pointer (some ⟨BC,0,none⟩):=hI.val 0 (by decide) d0
      have HII:Hid (EntI A BC r W0 X3 b g q o l G k MM dn V wk):=hI
      clear hI
      refine wpOp_list 1 rfl ?_
      simp only [putAll,dstOf,List.getElem?_toArray,List.getElem?_cons_succ,List.getElem?_cons_zero,Act.put,List.setIfInBounds_toArray,List.set_cons_succ,List.set_cons_zero,e0] at hK ⊢
      go_wp2_with fail
      exact HII.out.put (i:=1) (by decide) rfl (fun h=>absurd h (by decide))
     case ze2 =>
      intro dn V wk K hn hd hI hK
      have d1:dn 1=true:=hd 1 (List.contains_iff_mem.1 (by kernel_rfl)) (by simp)
      have e1:V 1 = .pointer (some ⟨BC,0,none⟩):=hI.val 1 (by decide) d1
      have HII:Hid (EntI A BC r W0 X3 b g q o l G k MM dn V wk):=hI
      clear hI
      refine wpOp_list 2 rfl ?_
      simp only [putAll,dstOf,List.getElem?_toArray,List.getElem?_cons_succ,List.getElem?_cons_zero,Act.put,List.setIfInBounds_toArray,List.set_cons_succ,List.set_cons_zero,e1] at hK ⊢
      go_wp2_with fail
      exact HII.out.put (i:=2) (by decide) rfl (fun h=>absurd h (by decide))
     case ze3 =>
      intro dn V wk K hn hd hI hK
      have d2:dn 2=true:=hd 2 (List.contains_iff_mem.1 (by kernel_rfl)) (by simp)
      have e2:V 2 = .pointer (some ⟨BC,9,none⟩):=hI.val 2 (by decide) d2
      have HII:Hid (EntI A BC r W0 X3 b g q o l G k MM dn V wk):=hI
      obtain ⟨q',hq'⟩:=hI.any
      obtain ⟨y1,y2,y3,y4,y5⟩:=HZC.out wk q' hq'
      clear hq'
      clear hI
      refine wpOp_list 3 rfl ?_
      simp only [putAll,dstOf,List.getElem?_toArray,List.getElem?_cons_succ,List.getElem?_cons_zero,Act.put,List.setIfInBounds_toArray,List.set_cons_succ,List.set_cons_zero,e2] at hK ⊢
      go_wp2_with fail
      exact HII.out.put (i:=3) (by decide) rfl (fun h=>absurd h (by decide))
     case ze4 =>
      intro dn V wk K hn hd hI hK
      have HII:Hid (EntI A BC r W0 X3 b g q o l G k MM dn V wk):=hI
      clear hI
      refine wpOp_list 4 rfl ?_
      simp only [putAll,dstOf,List.getElem?_toArray,List.getElem?_cons_succ,List.getElem?_cons_zero,Act.put,List.setIfInBounds_toArray,List.set_cons_succ,List.set_cons_zero] at hK ⊢
      go_wp2_with fail
      exact HII.out.put (i:=4) (by decide) rfl (fun h=>absurd h (by decide))
     case ze5 =>
      intro dn V wk K hn hd hI hK
      have d4:dn 4=true:=hd 4 (List.contains_iff_mem.1 (by kernel_rfl)) (by simp)
      have e4:V 4 = .pointer (some ⟨G,k*4,none⟩):=hI.val 4 (by decide) d4
      have HII:Hid (EntI A BC r W0 X3 b g q o l G k MM dn V wk):=hI
      clear hI
      refine wpOp_list 5 rfl ?_
      simp only [putAll,dstOf,List.getElem?_toArray,List.getElem?_cons_succ,List.getElem?_cons_zero,Act.put,List.setIfInBounds_toArray,List.set_cons_succ,List.set_cons_zero,e4] at hK ⊢
      go_wp2_with fail
      exact HII.out.put (i:=5) (by decide) rfl (fun h=>absurd h (by decide))
     case ze6 =>
      intro dn V wk K hn hd hI hK
      have d5:dn 5=true:=hd 5 (List.contains_iff_mem.1 (by kernel_rfl)) (by simp)
      have e5:V 5 = .pointer (some ⟨G,k*4,none⟩):=hI.val 5 (by decide) d5
      have HII:Hid (EntI A BC r W0 X3 b g q o l G k MM dn V wk):=hI
      clear hI
      refine wpOp_list 6 rfl ?_
      simp only [putAll,dstOf,List.getElem?_toArray,List.getElem?_cons_succ,List.getElem?_cons_zero,Act.put,List.setIfInBounds_toArray,List.set_cons_succ,List.set_cons_zero,e5] at hK ⊢
      go_wp2_with fail
      exact HII.out.put (i:=6) (by decide) rfl (fun h=>absurd h (by decide))
     case ze7 =>
      intro dn V wk K hn hd hI hK
      have d6:dn 6=true:=hd 6 (List.contains_iff_mem.1 (by kernel_rfl)) (by simp)
      have e6:V 6 = .pointer (some ⟨G,k*4,none⟩):=hI.val 6 (by decide) d6
      have HII:Hid (EntI A BC r W0 X3 b g q o l G k MM dn V wk):=hI
      obtain ⟨q',hq'⟩:=hI.any
      obtain ⟨y1,y2,y3,y4,y5⟩:=HZC.out wk q' hq'
      clear hq'
      clear hI
      refine wpOp_list 7 rfl ?_
      simp only [putAll,dstOf,List.getElem?_toArray,List.getElem?_cons_succ,List.getElem?_cons_zero,Act.put,List.setIfInBounds_toArray,List.set_cons_succ,List.set_cons_zero,e6] at hK ⊢
      go_wp2_with fail
      exact HII.out.put (i:=7) (by decide) rfl (fun h=>absurd h (by decide))
     case ze8 =>
      intro dn V wk K hn hd hI hK
      have HII:Hid (EntI A BC r W0 X3 b g q o l G k MM dn V wk):=hI
      clear hI
      refine wpOp_list 8 rfl ?_
      simp only [putAll,dstOf,List.getElem?_toArray,List.getElem?_cons_succ,List.getElem?_cons_zero,Act.put,List.setIfInBounds_toArray,List.set_cons_succ,List.set_cons_zero] at hK ⊢
      go_wp2_with fail
      exact HII.out.put (i:=8) (by decide) rfl (fun h=>absurd h (by decide))
     case ze9 =>
      intro dn V wk K hn hd hI hK
      have d8:dn 8=true:=hd 8 (List.contains_iff_mem.1 (by kernel_rfl)) (by simp)
      have e8:V 8 = .pointer (some ⟨G,k*4,none⟩):=hI.val 8 (by decide) d8
      have HII:Hid (EntI A BC r W0 X3 b g q o l G k MM dn V wk):=hI
      clear hI
      refine wpOp_list 9 rfl ?_
      simp only [putAll,dstOf,List.getElem?_toArray,List.getElem?_cons_succ,List.getElem?_cons_zero,Act.put,List.setIfInBounds_toArray,List.set_cons_succ,List.set_cons_zero,e8] at hK ⊢
      go_wp2_with fail
      exact HII.out.put (i:=9) (by decide) rfl (fun h=>absurd h (by decide))
     case ze10 =>
      intro dn V wk K hn hd hI hK
      have d9:dn 9=true:=hd 9 (List.contains_iff_mem.1 (by kernel_rfl)) (by simp)
      have e9:V 9 = .pointer (some ⟨G,k*4,none⟩):=hI.val 9 (by decide) d9
      have HII:Hid (EntI A BC r W0 X3 b g q o l G k MM dn V wk):=hI
      clear hI
      refine wpOp_list 10 rfl ?_
      simp only [putAll,dstOf,List.getElem?_toArray,List.getElem?_cons_succ,List.getElem?_cons_zero,Act.put,List.setIfInBounds_toArray,List.set_cons_succ,List.set_cons_zero,e9] at hK ⊢
      go_wp2_with fail
      exact HII.out.put (i:=10) (by decide) rfl (fun h=>absurd h (by decide))
     case ze11 =>
      intro dn V wk K hn hd hI hK
      have d10:dn 10=true:=hd 10 (List.contains_iff_mem.1 (by kernel_rfl)) (by simp)
      have e10:V 10 = .pointer (some ⟨G,k*4+1,none⟩):=hI.val 10 (by decide) d10
      have HII:Hid (EntI A BC r W0 X3 b g q o l G k MM dn V wk):=hI
      obtain ⟨q',hq'⟩:=hI.any
      obtain ⟨y1,y2,y3,y4,y5⟩:=HZC.out wk q' hq'
      clear hq'
      clear hI
      refine wpOp_list 11 rfl ?_
      simp only [putAll,dstOf,List.getElem?_toArray,List.getElem?_cons_succ,List.getElem?_cons_zero,Act.put,List.setIfInBounds_toArray,List.set_cons_succ,List.set_cons_zero,e10] at hK ⊢
      go_wp2_with fail
      exact HII.out.put (i:=11) (by decide) rfl (fun h=>absurd h (by decide))
     case ze12 =>
      intro dn V wk K hn hd hI hK
      have d7:dn 7=true:=hd 7 (List.contains_iff_mem.1 (by kernel_rfl)) (by simp)
      have e7:V 7 = .int .i64 (o:Int):=hI.val 7 (by decide) d7
      have d11:dn 11=true:=hd 11 (List.contains_iff_mem.1 (by kernel_rfl)) (by simp)
      have e11:V 11 = .int .i64 (l:Int):=hI.val 11 (by decide) d11
      have HII:Hid (EntI A BC r W0 X3 b g q o l G k MM dn V wk):=hI
      clear hI
      refine wpOp_list 12 rfl ?_
      simp only [putAll,dstOf,List.getElem?_toArray,List.getElem?_cons_succ,List.getElem?_cons_zero,Act.put,List.setIfInBounds_toArray,List.set_cons_succ,List.set_cons_zero,e7,e11] at hK ⊢
      go_wp2_with fail
      exact HII.out.put (i:=12) (by decide) rfl (fun h=>absurd h (by decide))
     case ze13 =>
      intro dn V wk K hn hd hI hK
      have d3:dn 3=true:=hd 3 (List.contains_iff_mem.1 (by kernel_rfl)) (by simp)
      have e3:V 3 = .map (some r):=hI.val 3 (by decide) d3
      have d12:dn 12=true:=hd 12 (List.contains_iff_mem.1 (by kernel_rfl)) (by simp)
      have e12:V 12 = .agg #[.int .i64 (o:Int),.int .i64 (l:Int)]:=hI.val 12 (by decide) d12
      have HII:Hid (EntI A BC r W0 X3 b g q o l G k MM dn V wk):=hI
      have lk:=map_look (hI.cut (hI.not13 hn)).map o4 l3
      unfold mkey at lk
      clear hI
      refine wpOp_list 13 rfl ?_
      simp only [putAll,dstOf,List.getElem?_toArray,List.getElem?_cons_succ,List.getElem?_cons_zero,Act.put,List.setIfInBounds_toArray,List.set_cons_succ,List.set_cons_zero,e3,e12] at hK ⊢
      go_wp2_with fail
      exact HII.out.put (i:=13) (by decide) rfl (fun h=>absurd h (by decide))
     case ze14 =>
      intro dn V wk K hn hd hI hK
      have HII:Hid (EntI A BC r W0 X3 b g q o l G k MM dn V wk):=hI
      clear hI
      refine wpOp_list 14 rfl ?_
      simp only [putAll,dstOf,List.getElem?_toArray,List.getElem?_cons_succ,List.getElem?_cons_zero,Act.put,List.setIfInBounds_toArray,List.set_cons_succ,List.set_cons_zero] at hK ⊢
      go_wp2_with fail
      exact HII.out.put (i:=14) (by decide) rfl (fun h=>absurd h (by decide))
     case ze15 =>
      intro dn V wk K hn hd hI hK
      have d13:dn 13=true:=hd 13 (List.contains_iff_mem.1 (by kernel_rfl)) (by simp)
      have e13:V 13 = .int .i64 (q o l):=hI.val 13 (by decide) d13
      have d14:dn 14=true:=hd 14 (List.contains_iff_mem.1 (by kernel_rfl)) (by simp)
      have e14:V 14 = .int .i64 MM:=hI.val 14 (by decide) d14
      have HII:Hid (EntI A BC r W0 X3 b g q o l G k MM dn V wk):=hI
      clear hI
      have HQB:=qB
      refine wpOp_list 15 rfl ?_
      simp only [putAll,dstOf,List.getElem?_toArray,List.getElem?_cons_succ,List.getElem?_cons_zero,Act.put,List.setIfInBounds_toArray,List.set_cons_succ,List.set_cons_zero,e13,e14] at hK ⊢
      go_wp2_with fail
      exact HII.out.put (i:=15) (by decide) rfl (fun _=>d13)
     case ze16 =>
      intro dn V wk K hn hd hI hK
      have d3:dn 3=true:=hd 3 (List.contains_iff_mem.1 (by kernel_rfl)) (by simp)
      have e3:V 3 = .map (some r):=hI.val 3 (by decide) d3
      have d12:dn 12=true:=hd 12 (List.contains_iff_mem.1 (by kernel_rfl)) (by simp)
      have e12:V 12 = .agg #[.int .i64 (o:Int),.int .i64 (l:Int)]:=hI.val 12 (by decide) d12
      have HII:Hid (EntI A BC r W0 X3 b g q o l G k MM dn V wk):=hI
      obtain ⟨v0,st,w1,me1,me2,me3,me4⟩:=map_entry (hI.cut (hI.not16 hn).1).map o4 l3
      unfold mkey at me1
      have HME:Hid (KeepR r wk w1∧MapQ w1 r q∧∀ v:Int,∃ w2,(Instr.entryStore 137 (.map (some r)) (goInt st) (.int .i64 v)).run Tryz.prog w1 = .ok () w2∧MapQ w2 r (setQ q o l v)∧KeepR r wk w2):=⟨me2,me3,me4⟩
      clear me2 me3 me4
      clear hI
      refine wpOp_list 16 rfl ?_
      simp only [putAll,dstOf,List.getElem?_toArray,List.getElem?_cons_succ,List.getElem?_cons_zero,Act.put,List.setIfInBounds_toArray,List.set_cons_succ,List.set_cons_zero,e3,e12] at hK ⊢
      go_wp2_with fail
      exact HII.out.entry hn HME.out.2.1 HME.out.1 HME.out.2.2
     case ze17 =>
      intro dn V wk K hn hd hI hK
      have d16:dn 16=true:=hd 16 (List.contains_iff_mem.1 (by kernel_rfl)) (by simp)
      have HII:Hid (EntI A BC r W0 X3 b g q o l G k MM dn V wk):=hI
      obtain ⟨v0,st,e16,-,-⟩:=hI.ent d16 (hI.not17 hn)
      have HE16:Hid (V 16 = .tuple #[v0,goInt st]):=e16
      clear hI
      refine wpOp_list 17 rfl ?_
      simp only [putAll,dstOf,List.getElem?_toArray,List.getElem?_cons_succ,List.getElem?_cons_zero,Act.put,List.setIfInBounds_toArray,List.set_cons_succ,List.set_cons_zero,e16] at hK ⊢
      go_wp2_with fail
      exact HII.out.extract hn d16 HE16.out
     case ze18 =>
      intro dn V wk K hn hd hI hK
      have d3:dn 3=true:=hd 3 (List.contains_iff_mem.1 (by kernel_rfl)) (by simp)
      have e3:V 3 = .map (some r):=hI.val 3 (by decide) d3
      have d15:dn 15=true:=hd 15 (List.contains_iff_mem.1 (by kernel_rfl)) (by simp)
      have e15:V 15 = .int .i64 (q o l+MM):=hI.val 15 (by decide) d15
      have d17:dn 17=true:=hd 17 (List.contains_iff_mem.1 (by kernel_rfl)) (by simp)
      have HII:Hid (EntI A BC r W0 X3 b g q o l G k MM dn V wk):=hI
      obtain ⟨v0,st,e16,e17,es⟩:=hI.ent (hI.c17 d17) hn
      have e17:=e17 d17
      obtain ⟨w2,es1,es2,es3⟩:=es (q o l+MM)
      have HES:Hid (MapQ w2 r (setQ q o l (q o l+MM))∧KeepR r wk w2):=⟨es2,es3⟩
      clear es es2 es3 e16
      unfold goInt at es1 e17
      clear hI
      refine wpOp_list 18 rfl ?_
      simp only [putAll,dstOf,List.getElem?_toArray,List.getElem?_cons_succ,List.getElem?_cons_zero,Act.put,List.setIfInBounds_toArray,List.set_cons_succ,List.set_cons_zero,e3,e15,e17] at hK ⊢
      go_wp2_with fail
      exact hK undef _ (HII.out.store hn d15 d17 HES.out.1 HES.out.2 undef)
     case zed =>
      intro dn V wk hd hI
      have HIN:Hid (CutI A BC r W0 X3 b g (setQ q o l (q o l+MM)) wk):=hI.fin (hd 18 (by simp))
      clear hI hd
      simp only [putAll,dstOf,List.getElem?_toArray,List.getElem?_cons_succ,List.getElem?_cons_zero,Act.put,List.setIfInBounds_toArray,List.set_cons_succ,List.set_cons_zero]
      refine NoPanic.normal ?_
      go_wp2_with fail
      go_roundw
      case rel=>exact ⟨k,m - MM,lessN z k MM,setQ q o l (q o l+MM),by omega,by go_num,by go_num,by rw [HX3.out];exact HIN,HN⟩
      case measure=>simp [intOf]
end Go.Proofs.YtbcacebifpagpagGreat
namespace Go.Proofs.YtbcacebifpagpagGreat
open Go.RowKit
set_option linter.unusedVariables false
def CutA (p:Pl) (x0:St) (b:Nat) (q:Int→Int→Int) (i:Nat) (cur:St):Prop:=TkAll p b (fun i j=>q i j) (relM x0) x0 i cur
def CutB (p:Pl) (x0:St) (b:Nat) (q:Int→Int→Int) (i j:Nat) (cur:St):Prop:=∃ y,CutA p x0 b q i y∧TkRow p b (fun i j=>q i j) i y j cur
section
variable {p:Pl} {x0 cur x:St} {b:Nat} {q:Int→Int→Int} {i j:Nat}
theorem CutB.next (h:CutB p x0 b q i (x0.os.z i).ls.n cur):CutA p x0 b q (i+1) cur:=h
theorem CutA.row (h:CutA p x0 b q i cur):CutB p x0 b q i 0 cur:=⟨cur,h,rfl⟩
theorem CutB.pos (Q:QIn p b (fun i j=>q i j) x0) (h:CutB p x0 b q i j cur) (hi:i<x0.os.n) (hj:j≤(x0.os.z i).ls.n):Pos p b (fun i j=>q i j) x0 i j cur:=by
 obtain ⟨y,h1,h2⟩:=h
 exact TkRow.pos Q (TkAll.pos Q (fun _ _=>rfl) (Nat.le_of_lt hi) h1) hi hj h2
theorem CutB.step (h:CutB p x0 b q i j cur) (T:Step p b cur i j (q i j) x):CutB p x0 b q i (j+1) x:=by
 obtain ⟨y,h1,h2⟩:=h
 exact ⟨y,h1,cur,h2,T⟩
theorem CutB.skip (Q:QIn p b (fun i j=>q i j) x0) (h:CutB p x0 b q i j cur) (hi:i<x0.os.n) (hj:j<(x0.os.z i).ls.n) (h0:q i j=0):CutB p x0 b q i (j+1) cur:=by
 have I:=(h.pos Q hi (Nat.le_of_lt hj)).stepIn Q hi hj
 have T:=I.tki
 have T':TakeIn p cur i j (q i j):=T
 rw [h0] at T'
 refine h.step ?_
 rw [h0]
 exact Step.skip T'
end
end Go.Proofs.YtbcacebifpagpagGreat
namespace Go.Proofs.YtbcacebifpagpagGreat
open Go.RowKit Go.Shelf Go.Sort
set_option linter.unusedVariables false
theorem cutStep {A BC r n:Nat} {W0 w:World} {y:St} {q:Int→Int→Int} {f:Nat→Value} (h:OwnS A w y∧Blk w BC 139 10 f∧MapQ w r q∧Below n W0 w) (hn:n≤BC) (j:Nat) (u:Value):OwnS A (w.setCell ⟨BC,j,none⟩ u) y∧Blk (w.setCell ⟨BC,j,none⟩ u) BC 139 10 (fun k=>if k=j then u else f k)∧MapQ (w.setCell ⟨BC,j,none⟩ u) r q∧Below n W0 (w.setCell ⟨BC,j,none⟩ u) :=
 ⟨h.1.boxC h.2.1 j u,h.2.1.set j u,h.2.2.1.set (h.2.1.noMap h.2.2.1) u,h.2.2.2.setCell (p:=⟨BC,j,none⟩) hn u⟩
theorem CutI.newState {A BC r:Nat} {W0 wk:World} {x y:St} {b g:Int} {q:Int→Int→Int} (h:CutI A BC r W0 x b g q wk) (ho:OwnS A wk y):CutI A BC r W0 y b g q (set7 wk BC (.slice y.on.a y.on.n y.on.c) (.slice y.os.a y.os.n y.os.c) (.slice y.hs.a y.hs.n y.hs.c) (.slice y.ms.a y.ms.n y.ms.c) (.slice y.si.a y.si.n y.si.c) (.slice y.so.a y.so.n y.so.c) (.slice y.sf.a y.sf.n y.sf.c)):=by
 have b1:=h.w0
 have b2:=h.bc
 have hn:W0.heap.size≤BC:=by omega
 have k:=cutStep (cutStep (cutStep (cutStep (cutStep (cutStep (cutStep ⟨ho,h.box,h.map,h.bel⟩ hn 0 (.slice y.on.a y.on.n y.on.c)) hn 1 (.slice y.os.a y.os.n y.os.c)) hn 2 (.slice y.hs.a y.hs.n y.hs.c)) hn 3 (.slice y.ms.a y.ms.n y.ms.c)) hn 4 (.slice y.si.a y.si.n y.si.c)) hn 5 (.slice y.so.a y.so.n y.so.c)) hn 6 (.slice y.sf.a y.sf.n y.sf.c)
 unfold set7
 refine ⟨k.1,k.2.1.congr fun j hj => ?_,k.2.2.1,k.2.2.2,by have:=h.le;simpa using this,h.w0,h.bc,h.ra⟩
 match j,hj with
 | 0,_=>rfl
 | 1,_=>rfl
 | 2,_=>rfl
 | 3,_=>rfl
 | 4,_=>rfl
 | 5,_=>rfl
 | 6,_=>rfl
 | 7,_=>rfl
 | 8,_=>rfl
 | 9,_=>rfl
theorem OwnS.cut7 {A BC r:Nat} {W0 wk:World} {x y s:St} {b g:Int} {q:Int→Int→Int} (h:CutI A BC r W0 x b g q wk) (ho:OwnS A wk s):OwnS A (Go.Proofs.YtbcacebifpagpagGreat.set7 wk BC (.slice y.on.a y.on.n y.on.c) (.slice y.os.a y.os.n y.os.c) (.slice y.hs.a y.hs.n y.hs.c) (.slice y.ms.a y.ms.n y.ms.c) (.slice y.si.a y.si.n y.si.c) (.slice y.so.a y.so.n y.so.c) (.slice y.sf.a y.sf.n y.sf.c)) s:=by
 have b1:=h.w0
 have b2:=h.bc
 have hn:W0.heap.size≤BC:=by omega
 have k:=cutStep (cutStep (cutStep (cutStep (cutStep (cutStep (cutStep ⟨ho,h.box,h.map,h.bel⟩ hn 0 (.slice y.on.a y.on.n y.on.c)) hn 1 (.slice y.os.a y.os.n y.os.c)) hn 2 (.slice y.hs.a y.hs.n y.hs.c)) hn 3 (.slice y.ms.a y.ms.n y.ms.c)) hn 4 (.slice y.si.a y.si.n y.si.c)) hn 5 (.slice y.so.a y.so.n y.so.c)) hn 6 (.slice y.sf.a y.sf.n y.sf.c)
 unfold Go.Proofs.YtbcacebifpagpagGreat.set7
 exact k.1
theorem Blk.cut7 {w:World} {B BC n:Nat} {T:TypeId} {f:Nat→Value} (h:Blk w B T n f) (ne:B≠BC) (v0 v1 v2 v3 v4 v5 v6:Value):Blk (set7 w BC v0 v1 v2 v3 v4 v5 v6) B T n f:=by
 unfold set7
 exact ((((((h.other (a:=⟨BC,0,none⟩) ne v0).other (a:=⟨BC,1,none⟩) ne v1).other (a:=⟨BC,2,none⟩) ne v2).other (a:=⟨BC,3,none⟩) ne v3).other (a:=⟨BC,4,none⟩) ne v4).other (a:=⟨BC,5,none⟩) ne v5).other (a:=⟨BC,6,none⟩) ne v6
structure TakI (p:Pl) (x0:St) (A BC r:Nat) (W0:World) (b g:Int) (q:Int→Int→Int) (BP:Nat) (cur:St) (wk:World):Prop where
 own0:OwnS A wk x0
 cut:CutI A BC r W0 cur b g q wk
 plan:Blk wk BP 25 2 (fun j=>(#[.slice p.ab p.nb p.cb,.slice p.sa p.ns p.cs]:Array Value).getD j default)
theorem TakI.below {p:Pl} {x0 cur:St} {A BC r BP:Nat} {W0 wk wj:World} {b g:Int} {q:Int→Int→Int} (h:TakI p x0 A BC r W0 b g q BP cur wk) (hB:Below wk.heap.size wk wj):TakI p x0 A BC r W0 b g q BP cur wj:=⟨OwnS.below h.own0 hB,h.cut.below hB,h.plan.below hB⟩
set_option maxRecDepth 100000 in
set_option maxHeartbeats 4000000 in
theorem takeElsewhere_any (p:Pl) (A BC r:Nat) (W0:World) (x0:St) (b g:Nat) (q:Int→Int→Int) (w:World) (h:CutI A BC r W0 x0 b g q w) (hp:∀ wk,Below W0.heap.size W0 wk→p.At wk) (Q:QIn p b (fun i j=>q i j) x0) :
  Calls Tryz.prog 108 #[.pointer (some ⟨BC,0,none⟩),p.val] w fun e w'=>e = .returned (.tuple #[])∧∃ y,TkAll p b (fun i j=>q i j) (relM x0) x0 x0.os.n y∧CutI A BC r W0 y b g q w':=by
 have HP:Hid (∀ wk,Below W0.heap.size W0 wk→p.At wk):=hp
 have HQ:Hid (QIn p b (fun i j=>q i j) x0):=Q
 have ol:x0.os.n≤x0.os.c:=h.own.os.le
 have oc:x0.os.c≤maxLen:=h.own.os.cap
 unfold maxLen at oc
 have on4:x0.os.n≤4:=Q.r.fm.os4
 obtain ⟨W1,hW,hWB,K1⟩:∃ W,w.alloc (.cells #[.slice p.ab p.nb p.cb,.slice p.sa p.ns p.cs] 25)=W∧Below w.heap.size w W∧Blk W w.heap.size 25 2 (fun j=>(#[.slice p.ab p.nb p.cb,.slice p.sa p.ns p.cs]:Array Value).getD j default):=⟨_,rfl,(Below.refl _ _).alloc (Nat.le_refl _) _,Blk.mk' rfl rfl⟩
 have HW:Hid (w.alloc (.cells #[.slice p.ab p.nb p.cb,.slice p.sa p.ns p.cs] 25)=W1):=hW
 have h':=h.below hWB
 have HI:Hid (TakI p x0 A BC r W0 b g q w.heap.size x0 W1):=⟨h'.own,h',K1⟩
 obtain ⟨u,-,u1,-⟩:=h'.boxed
 rw [← HW.out] at u u1
 clear hW hWB K1 h h' hp Q
 unfold Pl.val
 go_enter Tryz.func108,Tryz.ntmps108
 go_wp2_with fail
 rw [HW.out]
 clear u u1 HW
 generalize w.heap.size=BP at *
 go_loopw [14] (fun kv wk=>∃ (i:Nat) (cur:St),i≤x0.os.n∧kv = .int .i64 i∧Hid (TakI p x0 A BC r W0 b g q BP cur wk)∧Hid (CutA p x0 b q i cur)) (fun kv _=>x0.os.n - (intOf kv).toNat)
 case atStart=>exact ⟨0,x0,Nat.zero_le _,rfl,HI,SameT.self x0⟩
 case round =>
  clear HI
  obtain ⟨i,cur,hi,rfl,HI,HA⟩:=hrel
  by_cases hlt:i<x0.os.n
  ·have q0:(0:Int)≤(i:Int):=by omega
   have q1:(i:Int)<(x0.os.n:Int):=by omega
   obtain ⟨bo,oo,hoa,hbo,z0,z1,hlk⟩:=HI.out.own0.at.os.ods i hlt
   have ll:=hlk.le
   have lc:=hlk.cap
   unfold maxLen at lc
   have ln3:(x0.os.z i).ls.n≤3:=(HQ.out.r.fm.lns i hlt).2
   rw [hoa]
   clear hoa hlk
   obtain ⟨W,hW,hWB⟩:∃ W,wr.alloc (.cells #[.int .i64 (x0.os.z i).k,.slice (x0.os.z i).ls.a (x0.os.z i).ls.n (x0.os.z i).ls.c] 57)=W∧Below wr.heap.size wr W:=⟨_,rfl,(Below.refl _ _).alloc (Nat.le_refl _) _⟩
   have HW:Hid (wr.alloc (.cells #[.int .i64 (x0.os.z i).k,.slice (x0.os.z i).ls.a (x0.os.z i).ls.n (x0.os.z i).ls.c] 57)=W):=hW
   have HIW:Hid (TakI p x0 A BC r W0 b g q BP cur W):=HI.out.below hWB
   clear hW hWB
   go_wp2_with fail
   rw [HW.out]
   clear z0 z1 hbo HW q0 q1
   go_loopw [22] (fun jv wk=>∃ (j:Nat) (cr:St),j≤(x0.os.z i).ls.n∧jv = .int .i64 j∧Hid (TakI p x0 A BC r W0 b g q BP cr wk)∧Hid (CutB p x0 b q i j cr)) (fun jv _=>(x0.os.z i).ls.n - (intOf jv).toNat)
   case atStart=>exact ⟨0,cur,Nat.zero_le _,rfl,HIW,HA.out.row⟩
   case round =>
    clear HIW HI HA
    obtain ⟨j,cr,hj,rfl,HI,HB⟩:=hrel
    by_cases hjl:j<(x0.os.z i).ls.n
    ·have q2:(0:Int)≤(j:Int):=by omega
     have q3:(j:Int)<((x0.os.z i).ls.n:Int):=by omega
     have lk:=map_look (o:=i) (l:=j) HI.out.cut.map (by omega) (by omega)
     unfold mkey at lk
     obtain ⟨u,-,-,-,-,-,-,-,-,-,u9⟩:=HI.out.cut.boxed
     have HPO:Hid (Pos p b (fun i j=>q i j) x0 i j cr):=HB.out.pos HQ.out hlt (Nat.le_of_lt hjl)
     have HSI:Hid (StepIn p b cr i j (q i j)):=HPO.out.stepIn HQ.out hlt hjl
     have hq0:=HSI.out.n0
     by_cases hq:0<q i j
     ·have HK2:Hid ((cr.os.z i).k=1):=by
       rcases HSI.out.kd with e | e
       ·omega
       ·exact e.1
      have HE0:Hid (allocE p cr i j (q i j) b=0):=by have I:=HSI.out.allocIn HK2.out;exact I.less ⟨I.n0,Int.le_refl _⟩
      have HST:Hid (∀ x,Step p b cr i j (q i j) x→CutB p x0 b q i (j+1) x):=fun x T=>HB.out.step T
      clear HSI HK2 HB HPO
      obtain ⟨QV,hQV⟩:∃ QV,q i j=QV:=⟨_,rfl⟩
      rw [hQV] at lk HE0 HST hq hq0
      clear hQV
      go_wp2_with fail
      clear lk u u9
      obtain ⟨pm,p0,p1,p2,p3,p4,p5,p6,p7,-,-⟩:=HI.out.cut.boxed
      have d0:wr.cell? ⟨BP,0,none⟩=some (.slice p.ab p.nb p.cb):=HI.out.plan.cell (j:=0) (by decide)
      have d1:wr.cell? ⟨BP,1,none⟩=some (.slice p.sa p.ns p.cs):=HI.out.plan.cell (j:=1) (by decide)
      have l1:=HI.out.plan.lt
      have rp0:=fun d os=>cell_regrown p0 d os
      have rp1:=fun d os=>cell_regrown p1 d os
      have rp2:=fun d os=>cell_regrown p2 d os
      have rp3:=fun d os=>cell_regrown p3 d os
      have rp4:=fun d os=>cell_regrown p4 d os
      have rp5:=fun d os=>cell_regrown p5 d os
      have rp6:=fun d os=>cell_regrown p6 d os
      have rp7:=fun d os=>cell_regrown p7 d os
      have rd0:=fun d os=>cell_regrown d0 d os
      have rd1:=fun d os=>cell_regrown d1 d os
      refine wp_region_ph [(false,[0,2,3,4,6,7,8,9,10,11],none),(true,[1,5,12],some 13),(false,[14,15,16,17,18,19],some 20)] (by kernel_rfl) (by kernel_rfl) (by kernel_rfl) (by kernel_rfl) (by kernel_rfl) ?_
      refine ⟨fun _=>True,trivial,fun _ _=>trivial,?_⟩
      simp only [picks,List.drop_succ_cons,List.drop_zero,List.take_succ_cons,List.take_zero,List.cons_append,List.nil_append]
      repeat (go_big_quiet_step (fail))
      refine wpQuiet_nil ?_
      refine ⟨fun w'=>∃ p:Regrown,w'=grow (redrawn wr p.d) p.os,regrown_of_below ((Below.refl _ _).drew),fun h=>(by cases h),?_⟩
      simp only [picks,List.drop_succ_cons,List.drop_zero,List.take_succ_cons,List.take_zero,List.cons_append,List.nil_append]
      repeat (go_big_quiet_step (fail))
      refine wpQuiet_nil ?_
      clear rp0 rp1 rp2 rp3 rp4 rp5 rp6 rp7 rd0 rd1 p0 p1 p2 p3 p4 p5 p6 p7 d0 d1 l1 pm
      have hBd:Below wr.heap.size wr wr.drew:=(Below.refl _ _).drew
      generalize wr.drew=wj at *
      have HIj:Hid (TakI p x0 A BC r W0 b g q BP cr wj):=HI.out.below hBd
      have HPj:Hid (p.At wj):=HP.out wj HIj.out.cut.bel
      clear hBd HI
      refine wpOp_one 13 rfl ?_
      go_wp2_with fail
      refine (Take_any p cr i j QV b wj HPj.out HIj.out.cut.own.at).mono ?_
      rintro e w8 ⟨x,rfl,xat,xok,xown,hB8⟩
      have HT:Hid (CutB p x0 b q i (j+1) x):=HST.out x (xok.1 HE0.out)
      have HOX:Hid (OwnS A w8 x):=(xown HE0.out).mono HIj.out.cut.le
      have HI8:Hid (TakI p x0 A BC r W0 b g q BP cr w8):=HIj.out.below hB8
      clear xat xok xown hB8 HST HIj HPj HE0
      generalize allocL p cr i j QV b=LL at *
      generalize allocE p cr i j QV b=EE at *
      simp only [St.val]
      go_wp2_with fail
      refine ⟨fun _=>True,trivial,fun _ _=>trivial,?_⟩
      simp only [picks,List.drop_succ_cons,List.drop_zero,List.take_succ_cons,List.take_zero,List.cons_append,List.nil_append]
      repeat (go_big_quiet_step (fail))
      refine wpQuiet_nil ?_
      have hb8:=HI8.out.cut.box
      have zl:=hb8.lt
      have zf0:=hb8.frozen 0
      have zc0:=hb8.cell (j:=0) (by decide)
      have zf1:=hb8.frozen 1
      have zc1:=hb8.cell (j:=1) (by decide)
      have zf2:=hb8.frozen 2
      have zc2:=hb8.cell (j:=2) (by decide)
      have zf3:=hb8.frozen 3
      have zc3:=hb8.cell (j:=3) (by decide)
      have zf4:=hb8.frozen 4
      have zc4:=hb8.cell (j:=4) (by decide)
      have zf5:=hb8.frozen 5
      have zc5:=hb8.cell (j:=5) (by decide)
      have zf6:=hb8.frozen 6
      have zc6:=hb8.cell (j:=6) (by decide)
      clear hb8
      refine wpOp_one 20 rfl ?_
      go_wp2_with fail
      have HN:Hid (TakI p x0 A BC r W0 b g q BP x (set7 w8 BC (.slice x.on.a x.on.n x.on.c) (.slice x.os.a x.os.n x.os.c) (.slice x.hs.a x.hs.n x.hs.c) (.slice x.ms.a x.ms.n x.ms.c) (.slice x.si.a x.si.n x.si.c) (.slice x.so.a x.so.n x.so.c) (.slice x.sf.a x.sf.n x.sf.c))):=⟨OwnS.cut7 HI8.out.cut HI8.out.own0,HI8.out.cut.newState HOX.out,HI8.out.plan.cut7 (Blk.ne2 HI8.out.plan HI8.out.cut.box (by decide)) _ _ _ _ _ _ _⟩
      unfold set7 at HN
      refine NoPanic.normal ?_
      go_wp2_with fail
      go_roundw
      case rel=>exact ⟨j+1,x,by omega,by go_num,HN,HT⟩
      case measure=>simp [intOf];omega
     ·have HN:Hid (CutB p x0 b q i (j+1) cr):=HB.out.skip HQ.out hlt hjl (by omega)
      clear HSI HB HPO
      obtain ⟨QV,hQV⟩:∃ QV,q i j=QV:=⟨_,rfl⟩
      rw [hQV] at lk hq hq0
      clear hQV
      go_wp2_with fail
      go_roundw
      case rel=>exact ⟨j+1,cr,by omega,by go_num,HI,HN⟩
      case measure=>simp [intOf];omega
    ·have hjn:j=(x0.os.z i).ls.n:=by omega
     subst hjn
     have HN:Hid (CutA p x0 b q (i+1) cr):=HB.out.next
     go_wp2_with fail
     go_roundw
     case rel=>exact ⟨i+1,cr,by omega,by go_num,HI,HN⟩
     case measure=>simp [intOf];omega
  ·have hin:i=x0.os.n:=by omega
   subst hin
   go_wp2_with fail
   go_end0
   exact ⟨rfl,cur,HA.out,HI.out.cut⟩
theorem countE_avail {p:Pl} {s:St} {bin good seen:Int} (h:¬ availE p s bin good=0):countE p s bin good seen=availE p s bin good:=by
 unfold availE at h ⊢
 unfold countE
 by_cases h0:stateE p s=0
 ·rw [if_pos h0] at h ⊢
  rw [if_pos h0]
  cases h1:(inB bin 0 ((p.nb:Int) - 1)&&inB good 0 ((p.ns:Int) - 1))
  ·rfl
  ·rw [h1] at h;exact absurd rfl h
 ·rw [if_neg h0,if_neg h0]
theorem countIn0 {p:Pl} {s:St} {bin good:Int} (h:availE p s bin good=0):stateE p s=0∧∃ b g:Nat,bin=b∧good=g∧b<p.nb∧g<p.ns:=by
 unfold availE at h
 by_cases h0:stateE p s=0
 ·rw [if_pos h0] at h
  cases h1:(inB bin 0 ((p.nb:Int) - 1)&&inB good 0 ((p.ns:Int) - 1))
  ·rw [h1] at h;exact absurd h (by decide)
  ·simp only [Bool.and_eq_true] at h1
   have q1:=inB_true h1.1
   have q2:=inB_true h1.2
   exact ⟨h0,bin.toNat,good.toNat,by omega,by omega,by omega,by omega⟩
 ·rw [if_neg h0] at h;exact absurd h h0
theorem countE_range {p:Pl} {s:St} {b g:Nat} {seen:Int} (h:stateE p s=0) (h2:inB seen 0 200=false):countE p s b g seen=3:=by
 unfold countE
 rw [if_pos h,h2,Bool.and_false]
 rfl
theorem countE_many {p:Pl} {s:St} {b g:Nat} {seen:Int} (h:stateE p s=0) (hb:b<p.nb) (hg:g<p.ns) (h2:inB seen 0 200=true) (h3:inB (s.sf.z g+(seen - (s.on.r b).z g)) (-1048576) 1048576=false):countE p s b g seen=2:=by
 unfold countE
 have e:(Int.toNat (b:Int))=b:=rfl
 have e2:(Int.toNat (g:Int))=g:=rfl
 rw [if_pos h,inB_mk (by omega),inB_mk (by omega),h2,e,e2,h3]
 rfl
theorem countIn_of {p:Pl} {s:St} {b g:Nat} {seen:Int} (h:stateE p s=0) (hb:b<p.nb) (hg:g<p.ns) (h2:inB seen 0 200=true) (h3:inB (s.sf.z g+(seen - (s.on.r b).z g)) (-1048576) 1048576=true):CountIn p s b g seen :=
 ⟨rightT h,hb,hg,(inB_true h2).1,(inB_true h2).2,inB_true h3⟩
theorem OwnS.setFix {A:Nat} {w:World} {s:St} {G:Nat} (h:OwnS A w s) (ha:s.sf.a=some ⟨G,0,none⟩) (g:Nat) (x:Int):OwnS A (w.setCell ⟨G,g,none⟩ (.int .i64 x)) (Go.Proofs.YtbcacebifpagpagGreat.setFix s g x):=by
 obtain ⟨q,b1,b2,b3,b4,b5⟩:=h.sf
 rw [ha] at b1
 simp only [Option.some.injEq,Addr.mk.injEq,and_true] at b1
 subst b1
 refine ⟨?_,fun i hi=>(h.rows i hi).apart (fun e=>(h.ari i hi).2.2 (e.trans ha.symm)) _ _,h.rapart,h.os.other b5 (by decide) (by decide) _ _,h.hs.other b5 (by decide) _ _,h.ms.other b5 (by decide) _ _,h.msr.set _ _ _,h.si.apart (fun e=>h.aif (e.trans ha.symm)) _ _,h.so.apart (fun e=>h.aof (e.trans ha.symm)) _ _,h.sf.set ha _ _,h.aio,h.aif,h.aof,h.ari⟩
 obtain ⟨q',a0,a1,a2,a3,a4⟩:=h.on
 exact ⟨q',a0,a1,a2,a3,a4.other (a:=⟨G,g,none⟩) (Blk.ne2 a4 b5 (by decide)) _⟩
theorem CountIn.formed0 {p:Pl} {s:St} {b g:Nat} {seen:Int} (h:CountIn p s b g seen):Formed p (fixOn s b g seen):=by
 have f:=h.r.fm
 have G:=h.right.fm
 exact ⟨G.sh,G.sh0,f.os4,f.ms8,f.lns,f.kind,f.line,f.hold,f.home,f.move,G.sin,G.son,G.sfn,G.sib,G.sob,G.sfb⟩
theorem CountIn.formed1 {p:Pl} {s:St} {b g:Nat} {seen:Int} (h:CountIn p s b g seen):Formed p (fixOn (withMoves s (cutHs (fromF b g) s.ms (missZ s b g seen))) b g seen):=by
 have f:=h.r.fm
 have G:=h.right.fm
 exact ⟨G.sh,G.sh0,f.os4,G.ms8,f.lns,f.kind,f.line,f.hold,f.home,G.move,G.sin,G.son,G.sfn,G.sib,G.sob,G.sfb⟩
theorem CountIn.qmax {p:Pl} {s:St} {b g:Nat} {seen:Int} (h:CountIn p s b g seen) (o l:Int):cutQs s b g (missZ s b g seen) o l≤100000:=by
 have k:=(cutQs_bd (b:=b) (g:=g) h.r h.miss0 o l).2
 have kb:=keptS_bd (z:=s.hs.z) o l s.hs.n fun q hq=>(fineH_true (right_fine h.r.fm.hold q hq)).2.2.2
 have h72:=h.r.fm.hs72
 omega
theorem CountIn.cutted {p:Pl} {s x2:St} {b g:Nat} {seen v:Int} (h:CountIn p s b g seen) (e:SameT x2 (fixOn s b g seen)) (hv:max 0 v=leftL (fromF b g) (missZ s b g seen) (moveR x2)) :
  let x3:=withMoves x2 (cutHs (fromF b g) x2.ms (missZ s b g seen))
  let Q:=cutQ (heldF x3 b g) (max 0 v) (holdR x3)
  SameT (withHolds (backS x3 Q) (cutHs (heldF x3 b g) x3.hs (max 0 v))) (countS s b g seen)∧(∀ o l,Q o l=cutQs s b g (missZ s b g seen) o l)∧Formed p x3:=by
 have c:=cutS_same h.formed0 e b g (missZ s b g seen)
 refine ⟨?_,fun o l => ?_,?_⟩
 ·have e1:withHolds (backS (withMoves x2 (cutHs (fromF b g) x2.ms (missZ s b g seen))) (cutQ (heldF x2 b g) (max 0 v) (holdR x2))) (cutHs (heldF x2 b g) x2.hs (max 0 v))=cutS x2 b g (missZ s b g seen):=by
   rw [hv]
   rfl
  exact e1 ▸ c.1
 ·have e1:cutQ (heldF x2 b g) (max 0 v) (holdR x2) o l=cutQs x2 b g (missZ s b g seen) o l:=by
   rw [hv]
   rfl
  exact e1.trans (c.2 o l)
 ·refine SameT.formed ?_ h.formed1
  have k:revL (cutHs (fromF b g) x2.ms (missZ s b g seen)).z (cutHs (fromF b g) x2.ms (missZ s b g seen)).n=revL (cutHs (fromF b g) s.ms (missZ s b g seen)).z (cutHs (fromF b g) s.ms (missZ s b g seen)).n:=by
   rw [cutHs_rev,cutHs_rev,revL_same (h:=x2.ms) (k:=s.ms) e.ms.1 e.ms.2]
  exact ⟨e.on,e.os,e.hs,revL_inj k,e.si,e.so,e.sf⟩
set_option maxRecDepth 100000 in
set_option maxHeartbeats 4000000 in
theorem Count_any (p:Pl) (s:St) (bin good seen:Int) (w:World) (hp:p.At w) (hs:s.At w) :
  Calls Tryz.prog 48 #[p.val,s.val,.int .i64 bin,.int .i64 good,.int .i64 seen] w fun e w'=>∃ x:St,e = .returned (.tuple #[x.val,.int .i64 (countE p s bin good seen)])∧x.At w'∧ActOK (countE p s bin good seen) (countT p s bin.toNat good.toNat seen) x∧(countE p s bin good seen=0→OwnS w.heap.size w' x)∧Below w.heap.size w w':=by
 obtain ⟨W0,hW,hWB,X0,Z0⟩:∃ W,(((w.alloc (.cells #[.slice p.ab p.nb p.cb,.slice p.sa p.ns p.cs] 25)).alloc (.cells s.cells 31)).alloc (.cells #[.slice .none 0 0,.slice .none 0 0,.slice .none 0 0,.slice .none 0 0,.slice .none 0 0,.slice .none 0 0,.slice .none 0 0] 31))=W∧Below w.heap.size w W∧Boxes W w.heap.size (w.heap.size+1) p s∧Blk W (w.heap.size+2) 31 7 (fun _ => .slice .none 0 0) :=
  ⟨_,rfl,(two_below _ _ _).alloc (by simp;omega) _,(boxes_new w p s _ _).below ((Below.refl _ _).alloc (Nat.le_refl _) _),(Blk.mk' (cur:=#[.slice .none 0 0,.slice .none 0 0,.slice .none 0 0,.slice .none 0 0,.slice .none 0 0,.slice .none 0 0,.slice .none 0 0]) (by simp) rfl).congr (fun j hj=>by match j,hj with | 0,_=>rfl | 1,_=>rfl | 2,_=>rfl | 3,_=>rfl | 4,_=>rfl | 5,_=>rfl | 6,_=>rfl)⟩
 have HC:Hid (∀ wk,Below W0.heap.size W0 wk→Boxes wk w.heap.size (w.heap.size+1) p s∧p.At wk∧s.At wk∧Below w.heap.size w wk∧Blk wk (w.heap.size+2) 31 7 (fun _ => .slice .none 0 0)):=fun wk h=>⟨X0.below h,(hp.below hWB).below h,(hs.below hWB).below h,hWB.trans (h.mono hWB.size),Z0.below h⟩
 have HW:Hid (((w.alloc (.cells #[.slice p.ab p.nb p.cb,.slice p.sa p.ns p.cs] 25)).alloc (.cells #[.slice s.on.a s.on.n s.on.c,.slice s.os.a s.os.n s.os.c,.slice s.hs.a s.hs.n s.hs.c,.slice s.ms.a s.ms.n s.ms.c,.slice s.si.a s.si.n s.si.c,.slice s.so.a s.so.n s.so.c,.slice s.sf.a s.sf.n s.sf.c] 31)).alloc (.cells #[.slice .none 0 0,.slice .none 0 0,.slice .none 0 0,.slice .none 0 0,.slice .none 0 0,.slice .none 0 0,.slice .none 0 0] 31)=W0):=hW
 have leb:=hp.leb
 have capb0:=hp.capb
 have les:=hp.les
 have caps0:=hp.caps
 have capb:=capb0
 have caps:=caps0
 have zlt0:=Z0.lt
 unfold maxLen at capb caps
 have HSL:Hid ((s.on.n≤s.on.c∧s.on.c≤maxLen)∧s.sf.n≤s.sf.c∧s.sf.c≤maxLen):=⟨⟨hs.on.le,hs.on.cap⟩,hs.sf.le,hs.sf.cap⟩
 clear hW X0 Z0 hp hs
 unfold Pl.val St.val
 go_enter Tryz.func48,Tryz.ntmps48
 go_wp2_with fail
 rw [HW.out]
 obtain ⟨X,hpk,hsk,hBw,hz⟩:=HC.out W0 (Below.refl _ _)
 refine (Avail_any p s bin good W0 hpk hsk).mono ?_
 rintro e w1 ⟨rfl,hB⟩
 clear X hpk hsk hBw hz HW
 obtain ⟨⟨⟨l1,d0,d1⟩,l2,c0,c1,c2,c3,c4,c5,c6⟩,hpk,hsk,hBw,hz⟩:=HC.out w1 hB
 by_cases h0:availE p s bin good=0
 ·obtain ⟨hse,b,g,rfl,rfl,hb,hg⟩:=countIn0 h0
  have H0:Hid (stateE p s=0):=hse
  have HR:Hid (RightT p s):=rightT hse
  have HAV:Hid (availV p s b g=availZ s b g):=by show availV p s b g=_;unfold availV;rw [if_pos h0];rfl
  rw [HAV.out,h0]
  clear h0 hse
  have son:=HR.out.fm.sh.n
  have hbo:b<s.on.n:=by omega
  have HLEN:Hid ((s.on.r b).n=p.ns):=HR.out.fm.sh.len b hbo
  cases h2:inB seen 0 200
  ·have HX:Hid (countE p s b g seen=3):=countE_range H0.out h2
   have HNE:Hid (¬ countE p s b g seen=0):=by show ¬ _;rw [HX.out];decide
   generalize availZ s b g=AV at *
   clear hpk hsk
   have zl:=hz.lt
   have zf0:=hz.frozen 0
   have zc0:=hz.cell (j:=0) (by decide)
   have zf1:=hz.frozen 1
   have zc1:=hz.cell (j:=1) (by decide)
   have zf2:=hz.frozen 2
   have zc2:=hz.cell (j:=2) (by decide)
   have zf3:=hz.frozen 3
   have zc3:=hz.cell (j:=3) (by decide)
   have zf4:=hz.frozen 4
   have zc4:=hz.cell (j:=4) (by decide)
   have zf5:=hz.frozen 5
   have zc5:=hz.cell (j:=5) (by decide)
   have zf6:=hz.frozen 6
   have zc6:=hz.cell (j:=6) (by decide)
   go_wp2_with (go_at_call 63;refine calls_to (Within_any _ _ _ _) ?_)
   have KZ:=set7_blk hz (.slice .none 0 0) (.slice .none 0 0) (.slice .none 0 0) (.slice .none 0 0) (.slice .none 0 0) (.slice .none 0 0) (.slice .none 0 0)
   have hbz:=set7_below (b:=w.heap.size+2) hBw (by omega) (.slice .none 0 0) (.slice .none 0 0) (.slice .none 0 0) (.slice .none 0 0) (.slice .none 0 0) (.slice .none 0 0) (.slice .none 0 0)
   unfold set7 at KZ hbz
   obtain ⟨c0',c1',c2',c3',c4',c5',c6'⟩:=box_cells KZ
   refine bodyPost_ret (v := .tuple #[noneS.val,.int .i64 3]) (by simp [results,Tryz.results48,go_sem,noneS,St.val,c0',c1',c2',c3',c4',c5',c6']) rfl ?_
   exact ⟨noneS,by rw [HX.out];rfl,noneS_at _,⟨fun h=>absurd h (HNE.out),fun _=>⟨rfl,rfl,rfl,rfl,rfl,rfl,rfl⟩⟩,fun h=>absurd h (HNE.out),hbz⟩
  ·have sb:=inB_true h2
   obtain ⟨⟨onl,onc⟩,sfl,sfc⟩:=HSL.out
   unfold maxLen at onc sfc
   obtain ⟨bb,ob,hoa,hbb,e0,hrow⟩:=hsk.on.rows b hbo
   have HLG:g<(s.on.r b).n:=by rw [HLEN.out];exact hg
   obtain ⟨bg,og,hga,hbg,e1⟩:=hrow.ints g HLG
   have rl:=hrow.le
   have rc:=hrow.cap
   unfold maxLen at rc
   have sfn:g<s.sf.n:=by rw [HR.out.fm.sfn];exact hg
   obtain ⟨bf,of,hfa,hbf,e2⟩:=hsk.sf.ints g sfn
   have HOA:Hid (s.on.a=some ⟨bb,ob,none⟩):=hoa
   have HFA:Hid (s.sf.a=some ⟨bf,of,none⟩):=hfa
   rw [hoa] at c0
   rw [hga] at e0
   rw [hfa] at c6
   have q0:(0:Int)≤(b:Int):=by omega
   have q1:(b:Int)<(s.on.n:Int):=by omega
   have q2:(0:Int)≤(g:Int):=by omega
   have q3:(g:Int)<((s.on.r b).n:Int):=by omega
   have q4:(g:Int)<(s.sf.n:Int):=by omega
   have onb:=HR.out.fm.sh.num b hbo g hg
   have sfb:=HR.out.fm.sfb g hg
   have H2:Hid (inB seen 0 200=true):=h2
   clear hoa hga hfa hrow son
   cases h3:inB (s.sf.z g+(seen - (s.on.r b).z g)) (-1048576) 1048576
   ·have HX:Hid (countE p s b g seen=2):=countE_many H0.out hb hg H2.out h3
    have HNE:Hid (¬ countE p s b g seen=0):=by show ¬ _;rw [HX.out];decide
    generalize (s.on.r b).z g=ON at *
    generalize s.sf.z g=SF at *
    generalize availZ s b g=AV at *
    clear hpk hsk
    have zl:=hz.lt
    have zf0:=hz.frozen 0
    have zc0:=hz.cell (j:=0) (by decide)
    have zf1:=hz.frozen 1
    have zc1:=hz.cell (j:=1) (by decide)
    have zf2:=hz.frozen 2
    have zc2:=hz.cell (j:=2) (by decide)
    have zf3:=hz.frozen 3
    have zc3:=hz.cell (j:=3) (by decide)
    have zf4:=hz.frozen 4
    have zc4:=hz.cell (j:=4) (by decide)
    have zf5:=hz.frozen 5
    have zc5:=hz.cell (j:=5) (by decide)
    have zf6:=hz.frozen 6
    have zc6:=hz.cell (j:=6) (by decide)
    go_wp2_with (go_at_call 63;refine calls_to (Within_any _ _ _ _) ?_)
    have KZ:=set7_blk hz (.slice .none 0 0) (.slice .none 0 0) (.slice .none 0 0) (.slice .none 0 0) (.slice .none 0 0) (.slice .none 0 0) (.slice .none 0 0)
    have hbz:=set7_below (b:=w.heap.size+2) hBw (by omega) (.slice .none 0 0) (.slice .none 0 0) (.slice .none 0 0) (.slice .none 0 0) (.slice .none 0 0) (.slice .none 0 0) (.slice .none 0 0)
    unfold set7 at KZ hbz
    obtain ⟨c0',c1',c2',c3',c4',c5',c6'⟩:=box_cells KZ
    refine bodyPost_ret (v := .tuple #[noneS.val,.int .i64 2]) (by simp [results,Tryz.results48,go_sem,noneS,St.val,c0',c1',c2',c3',c4',c5',c6']) rfl ?_
    exact ⟨noneS,by rw [HX.out];rfl,noneS_at _,⟨fun h=>absurd h (HNE.out),fun _=>⟨rfl,rfl,rfl,rfl,rfl,rfl,rfl⟩⟩,fun h=>absurd h (HNE.out),hbz⟩
   ·have HCI:Hid (CountIn p s b g seen):=countIn_of H0.out hb hg H2.out h3
    have HX:Hid (countE p s b g seen=0):=countE_of HCI.out
    have HCS:Hid (Calls Tryz.prog 90 #[s.val] w1 fun e w'=>∃ s':St,e = .returned s'.val∧SameT s' s∧OwnS w1.heap.size w' s'∧Below w1.heap.size w1 w'):=copyState_any p s w1 hsk HR.out.fm
    obtain ⟨ON,hON⟩:∃ ON,(s.on.r b).z g=ON:=⟨_,rfl⟩
    obtain ⟨SF,hSF⟩:∃ SF,s.sf.z g=SF:=⟨_,rfl⟩
    obtain ⟨AV,hAV⟩:∃ AV,availZ s b g=AV:=⟨_,rfl⟩
    have HV:Hid ((s.on.r b).z g=ON∧s.sf.z g=SF∧availZ s b g=AV):=⟨hON,hSF,hAV⟩
    have avb:0≤AV∧AV≤ON:=by
     have a:=(goods_no (HR.out.goods g hg)).2 b hb
     have c:=HCI.out.bound
     rw [hAV] at a c
     rw [hON] at c
     omega
    rw [hON] at e1 onb h3
    rw [hSF] at e2 sfb h3
    rw [hAV]
    clear hpk hsk hBw hz hON hSF hAV HAV
    go_wp2_with (go_at_call 63;refine calls_to (Within_any _ _ _ _) ?_)
    rw [← HOA.out,← HFA.out]
    refine Calls.mono HCS.out ?_
    rintro e w4 ⟨o,rfl,hsame,hown,hB4⟩
    clear HCS l1 d0 d1 l2 c0 c1 c2 c3 c4 c5 c6 hbb e0 hbg e1 hbf e2 h2 h3 HOA HFA
    have A1:W0.heap.size≤w1.heap.size:=hB.size
    have A2:w1.heap.size≤w4.heap.size:=hB4.size
    have HLOW:Hid (w.heap.size≤W0.heap.size):=(HC.out _ (Below.refl _ _)).2.2.2.1.size
    obtain ⟨W5,hW5,hWB5,K5,M5⟩:∃ W,(w4.alloc (.map #[] 0)).alloc (.cells #[.slice o.on.a o.on.n o.on.c,.slice o.os.a o.os.n o.os.c,.slice o.hs.a o.hs.n o.hs.c,.slice o.ms.a o.ms.n o.ms.c,.slice o.si.a o.si.n o.si.c,.slice o.so.a o.so.n o.so.c,.slice o.sf.a o.sf.n o.sf.c,.int .i64 (b:Int),.int .i64 (g:Int),.map (some w4.heap.size)] 139)=W∧Below w4.heap.size w4 W∧Blk W (w4.heap.size+1) 139 10 (cutC o b g w4.heap.size)∧MapQ W w4.heap.size (fun _ _=>0) :=
     ⟨_,rfl,((Below.refl _ _).alloc (Nat.le_refl _) _).alloc (by simp) _,(Blk.mk' (by simp) rfl).congr (fun j hj=>by match j,hj with | 0,_=>rfl | 1,_=>rfl | 2,_=>rfl | 3,_=>rfl | 4,_=>rfl | 5,_=>rfl | 6,_=>rfl | 7,_=>rfl | 8,_=>rfl | 9,_=>rfl),(MapQ.new w4).below ((Below.refl _ _).alloc (Nat.le_refl _) _)⟩
    have HW5:Hid ((w4.alloc (.map #[] 0)).alloc (.cells #[.slice o.on.a o.on.n o.on.c,.slice o.os.a o.os.n o.os.c,.slice o.hs.a o.hs.n o.hs.c,.slice o.ms.a o.ms.n o.ms.c,.slice o.si.a o.si.n o.si.c,.slice o.so.a o.so.n o.so.c,.slice o.sf.a o.sf.n o.sf.c,.int .i64 (b:Int),.int .i64 (g:Int),.map (some w4.heap.size)] 139)=W5):=hW5
    have hB14:=hB.trans (hB4.mono hB.size)
    have hB05:=hB14.trans (hWB5.mono hB14.size)
    have HM5:Hid (OwnS w1.heap.size w4 o∧Below w4.heap.size w4 W5∧Blk W5 (w4.heap.size+1) 139 10 (cutC o b g w4.heap.size)∧MapQ W5 w4.heap.size (fun _ _=>0)∧Below W0.heap.size W0 W5∧SameT o s):=⟨hown,hWB5,K5,M5,hB05,hsame⟩
    obtain ⟨⟨⟨l1,d0,d1⟩,l2,c0,-⟩,hpk,hsk,-,-⟩:=HC.out W5 hB05
    have hput:putE p s.on b g (seen - ON)=0:=by
     have hu:shelfErr p s.on b g=0:=by rw [shelfErr_eq HR.out.fm.sh0,inB_mk (by omega),inB_mk (by omega)];rfl
     have e:=HV.out.1
     have hi:inB (seen - ON) (-((s.on.r b).z g)) (200 - (s.on.r b).z g)=true:=inB_mk (by omega)
     simp [putE,hu,hi]
    have HPU:Hid (Calls Tryz.prog 91 #[p.val,s.on.val,.int .i64 b,.int .i64 g,.int .i64 (seen - ON)] W5 fun e w'=>∃ s':Sh,e = .returned (.tuple #[s'.val,.int .i64 0])∧OwnR W5.heap.size w' s'∧s'.n=s.on.n∧(∀ i,i<s.on.n→(s'.r i).n=(s.on.r i).n∧∀ j,j<(s.on.r i).n→(s'.r i).z j=putZ s.on b g (seen - ON) i j)∧Below W5.heap.size W5 w'):=PutOwn_any p s.on b g (seen - ON) W5 hpk hsk.on hput
    rw [← HW5.out] at l1 d0 d1 l2 c0
    clear hW5 hWB5 K5 M5 hB14 hB05 hown hB4 hB hsame hpk hsk hput
    have hmm:∀ (t:TypeId) (w:World),(Instr.makeMap t none).run Tryz.prog w = .ok (.map (some w.heap.size)) (w.alloc (.map #[] 0)):=fun _ _=>rfl
    simp only [St.val]
    go_wp2_with fail
    rw [HW5.out]
    clear l1 d0 d1 l2 c0 HW5 hmm
    refine Calls.mono HPU.out ?_
    rintro e w6 ⟨r6,rfl,hR,hRn,hRz,hB6⟩
    clear HPU
    have HX1:Hid (SameT (setFix ⟨r6,o.os,o.hs,o.ms,o.si,o.so,o.sf⟩ g (SF+(seen - ON))) (fixOn s b g seen)):=by
     have e:=HM5.out.2.2.2.2.2
     refine ⟨⟨hRn,fun i hi => ?_⟩,e.os,e.hs,e.ms,e.si,e.so,⟨e.sf.1,fun j hj => ?_⟩⟩
     ·have hi':i<s.on.n:=by rw [← hRn];exact hi
      have k:=hRz i hi'
      refine ⟨k.1.trans (setOn_len s b g seen i).symm,fun j hj => ?_⟩
      have hj':j<(r6.r i).n:=hj
      rw [fixOn_num]
      show (r6.r i).z j=_
      rw [k.2 j (by rw [← k.1];exact hj')]
      show (if i=b∧j=g then (s.on.r i).z j+(seen - ON) else (s.on.r i).z j)=_
      by_cases c:i=b∧j=g
      ·have hv:=HV.out.1
       rw [if_pos c,if_pos c,c.1,c.2,hv]
       omega
      ·rw [if_neg c,if_neg c]
     ·have hj':j<o.sf.n:=hj
      have hv:=HV.out
      show (if j=g then SF+(seen - ON) else o.sf.z j)=if j=g then s.sf.z g+(seen - (s.on.r b).z g) else s.sf.z j
      rw [hv.1,hv.2.1,e.sf.2 j hj']
    have HZ6:Hid (o.sf.z g=SF):=(HM5.out.2.2.2.2.2.sf.2 g (by rw [HM5.out.2.2.2.2.2.sf.1];exact sfn)).trans HV.out.2.1
    have b65:=HM5.out.2.1.size
    have B6:=HM5.out.2.2.1.below hB6
    have osn:g<o.sf.n:=by rw [HM5.out.2.2.2.2.2.sf.1];exact sfn
    have O4:=OwnS.below HM5.out.1 (HM5.out.2.1.trans (hB6.mono HM5.out.2.1.size))
    obtain ⟨G,ga,gA,gl,gle,gc,gcell,gfz⟩:=O4.sf.cellAt osn
    have gl4:G<w4.heap.size:=by
     obtain ⟨G',ga',-,gl',-⟩:=HM5.out.1.sf.cellAt osn
     rw [ga] at ga'
     simp only [Option.some.injEq,Addr.mk.injEq,and_true] at ga'
     omega
    unfold maxLen at gc
    rw [HZ6.out] at gcell
    have HGA:Hid (o.sf.a=some ⟨G,0,none⟩):=ga
    have gne:¬ G=w4.heap.size+1:=by omega
    have gne2:¬ w4.heap.size+1=G:=by omega
    have y0:=B6.lt
    have y1:=B6.frozen 0
    have y2:=B6.cell (j:=0) (by decide)
    have y3:w6.cell? ⟨w4.heap.size+1,6,none⟩=some (.slice (some ⟨G,0,none⟩) o.sf.n o.sf.c):=by have h:=B6.cell (j:=6) (by decide);rw [← ga];exact h
    have gf:=gfz g
    have q5:(g:Int)<(o.sf.n:Int):=by omega
    have HI:Hid (CutI w1.heap.size (w4.heap.size+1) w4.heap.size W0 (setFix ⟨r6,o.os,o.hs,o.ms,o.si,o.so,o.sf⟩ g (SF+(seen - ON))) b g (fun _ _=>0) ((w6.setCell ⟨w4.heap.size+1,0,none⟩ (.slice r6.a r6.n r6.c)).setCell ⟨G,g,none⟩ (.int .i64 (SF+(seen - ON))))):=by
     have m6:=HM5.out.2.2.2.1.below hB6
     have bl:=HM5.out.2.2.2.2.1.trans (hB6.mono HM5.out.2.2.2.2.1.size)
     have o1:=OwnS.swap HM5.out.1 (HM5.out.2.1.trans (hB6.mono HM5.out.2.1.size)) hR b65 (by omega)
     have o2:=OwnS.boxC o1 B6 0 (.slice r6.a r6.n r6.c)
     have o3:=o2.setFix (G:=G) ga g (SF+(seen - ON))
     have k2:=B6.set 0 (.slice r6.a r6.n r6.c)
     have sz:=hB6.size
     obtain ⟨Gq,gq1,-,-,-,gq5⟩:=o2.sf
     have gq:G=Gq:=by have e:o.sf.a=some ⟨Gq,0,none⟩:=gq1;rw [ga] at e;simpa using e
     subst gq
     have m7:=m6.set (j:=0) (B6.noMap m6) (.slice r6.a r6.n r6.c)
     refine ⟨o3,(k2.other (a:=⟨G,g,none⟩) gne2 _).congr (fun j hj=>by match j,hj with | 0,_=>rfl | 1,_=>rfl | 2,_=>rfl | 3,_=>rfl | 4,_=>rfl | 5,_=>rfl | 6,_=>rfl | 7,_=>rfl | 8,_=>rfl | 9,_=>rfl),m7.set (j:=g) (gq5.noMap m7) _,(bl.setCell (p:=⟨w4.heap.size+1,0,none⟩) (by show W0.heap.size≤w4.heap.size+1;omega) _).setCell (p:=⟨G,g,none⟩) (by show W0.heap.size≤G;omega) _,by simp;omega,A1,by omega,A2⟩
    have HMZ:Hid (max 0 (-(seen - ON) - AV)=missZ s b g seen):=by
     have k:=HCI.out.bound
     have v:=HV.out
     rw [v.1,v.2.2] at k
     show max 0 (-(seen - ON) - AV)=_
     unfold missZ
     omega
    generalize hX2:setFix ⟨r6,o.os,o.hs,o.ms,o.si,o.so,o.sf⟩ g (SF+(seen - ON))=x2 at HX1 HI
    clear hX2 gfz B6 O4 hR hRn hRz hB6 ga gA HM5 HZ6 gle
    simp only [Sh.val]
    go_wp2_with fail
    clear y0 y1 y2 y3 gf gcell gl gl4 gne gne2 b65
    obtain ⟨wB,hwB⟩:∃ wB,((w6.setCell ⟨w4.heap.size+1,0,none⟩ (.slice r6.a r6.n r6.c)).setCell ⟨G,g,none⟩ (.int .i64 (SF+(seen - ON))))=wB:=⟨_,rfl⟩
    rw [hwB] at HI ⊢
    clear hwB
    have f0:=HCI.out.formed0
    have HCM:Hid (Calls Tryz.prog 107 #[.pointer (some ⟨w4.heap.size+1,0,none⟩),.int .i64 (-(seen - ON) - AV)] wB fun e w'=>∃ v:Int,e = .returned (.int .i64 v)∧max 0 v=leftL (fromF b g) (missZ s b g seen) (moveR x2)∧(-100000≤v∧v≤100000)∧CutI w1.heap.size (w4.heap.size+1) w4.heap.size W0 (withMoves x2 (cutHs (fromF b g) x2.ms (missZ s b g seen))) b g (fun _ _=>0) w'):=by
     have h:=cutMoves_any w1.heap.size (w4.heap.size+1) w4.heap.size W0 x2 b g (fun _ _=>0) (-(seen - ON) - AV) wB HI.out (fun j hj=>by
      rw [HX1.out.ms.2 j hj]
      have:=f0.moveN j (by rw [← HX1.out.ms.1];exact hj)
      omega) (by rw [HX1.out.ms.1];exact f0.ms8) (by omega)
     rw [HMZ.out] at h
     exact h
    clear f0 HI
    refine Calls.mono HCM.out ?_
    rintro e w7 ⟨v,rfl,hv,hvb,hI7⟩
    clear HCM
    have CT:=HCI.out.cutted HX1.out hv
    obtain ⟨ct1,ct2,ct3⟩:=CT
    obtain ⟨x3,hx3⟩:∃ x3,withMoves x2 (cutHs (fromF b g) x2.ms (missZ s b g seen))=x3:=⟨_,rfl⟩
    rw [hx3] at hI7 ct3
    have ct1':SameT (withHolds (backS x3 (cutQ (heldF x3 b g) (max 0 v) (holdR x3))) (cutHs (heldF x3 b g) x3.hs (max 0 v))) (countS s b g seen):=by rw [← hx3];exact ct1
    have ct2':∀ o l,cutQ (heldF x3 b g) (max 0 v) (holdR x3) o l=cutQs s b g (missZ s b g seen) o l:=by rw [← hx3];exact ct2
    clear ct1 ct2 hx3 hv
    have HCH:=cutHolds_any p w1.heap.size (w4.heap.size+1) w4.heap.size W0 x3 b g v w7 hI7 ct3 hvb (fun o l=>by rw [ct2' o l];exact HCI.out.qmax o l)
    obtain ⟨QQ,hQQ⟩:∃ QQ,cutQ (heldF x3 b g) (max 0 v) (holdR x3)=QQ:=⟨_,rfl⟩
    rw [hQQ] at HCH ct1' ct2'
    obtain ⟨x4,hx4⟩:∃ x4,withHolds (backS x3 QQ) (cutHs (heldF x3 b g) x3.hs (max 0 v))=x4:=⟨_,rfl⟩
    rw [hx4] at HCH ct1'
    have HCH2:Hid (Calls Tryz.prog 106 #[.pointer (some ⟨w4.heap.size+1,0,none⟩),.int .i64 v] w7 fun e w'=>e = .returned (.tuple #[])∧CutI w1.heap.size (w4.heap.size+1) w4.heap.size W0 x4 b g QQ w'):=HCH
    have HS4:Hid (SameT x4 (countS s b g seen)∧∀ o l,QQ o l=cutQs s b g (missZ s b g seen) o l):=⟨ct1',ct2'⟩
    clear HCH ct1' ct2' ct3 hQQ hx4 hI7 hvb HX1 HMZ
    go_wp2_with fail
    refine Calls.mono HCH2.out ?_
    rintro e w8 ⟨rfl,hI8⟩
    clear HCH2
    have HI8:Hid (CutI w1.heap.size (w4.heap.size+1) w4.heap.size W0 x4 b g QQ w8):=hI8
    obtain ⟨⟨⟨l1,d0,d1⟩,-⟩,-⟩:=HC.out w8 hI8.bel
    have HTE:Hid (Calls Tryz.prog 108 #[.pointer (some ⟨w4.heap.size+1,0,none⟩),p.val] w8 fun e w'=>e = .returned (.tuple #[])∧∃ y,TkAll p b (fun i j=>QQ i j) (relM x4) x4 x4.os.n y∧CutI w1.heap.size (w4.heap.size+1) w4.heap.size W0 y b g QQ w') :=
     takeElsewhere_any p w1.heap.size (w4.heap.size+1) w4.heap.size W0 x4 b g QQ w8 hI8 (fun wk hb=>(HC.out wk hb).2.1) (HCI.out.qin.same HS4.out.1 fun i j _ _=>HS4.out.2 i j)
    clear hI8 HI8
    go_wp2_with fail
    clear l1 d0 d1
    refine Calls.mono HTE.out ?_
    rintro e w9 ⟨rfl,y,hT,hI9⟩
    clear HTE
    have HY:Hid (SameT y (countT p s b g seen)):=by
     refine TkAll.same HCI.out.qin (fun _ _=>rfl) (Nat.le_refl s.os.n) HCI.out.all ?_
     have n4:x4.os.n=s.os.n:=HS4.out.1.os.1
     rw [n4] at hT
     refine TkAll.base (m':=relM x4) HS4.out.1 (fun _ _=>rfl) (fun i hi => ?_) (fun i j _ _=>HS4.out.2 i j) (Nat.le_refl s.os.n) hT
     exact (HS4.out.1.os.2 i (by rw [n4];exact hi)).2.1
    have HI9:Hid (CutI w1.heap.size (w4.heap.size+1) w4.heap.size W0 y b g QQ w9):=hI9
    obtain ⟨pm,p0,p1,p2,p3,p4,p5,p6,-,-,-⟩:=hI9.boxed
    obtain ⟨-,-,-,hBw,hz⟩:=HC.out w9 hI9.bel
    have HZ:Hid (Below w.heap.size w w9∧Blk w9 (w.heap.size+2) 31 7 (fun _ => .slice .none 0 0)):=⟨hBw,hz⟩
    have zl:=hz.lt
    have zf0:=hz.frozen 0
    have zc0:=hz.cell (j:=0) (by decide)
    have zf1:=hz.frozen 1
    have zc1:=hz.cell (j:=1) (by decide)
    have zf2:=hz.frozen 2
    have zc2:=hz.cell (j:=2) (by decide)
    have zf3:=hz.frozen 3
    have zc3:=hz.cell (j:=3) (by decide)
    have zf4:=hz.frozen 4
    have zc4:=hz.cell (j:=4) (by decide)
    have zf5:=hz.frozen 5
    have zc5:=hz.cell (j:=5) (by decide)
    have zf6:=hz.frozen 6
    have zc6:=hz.cell (j:=6) (by decide)
    clear hBw hz hI9 hT HS4
    go_wp2_with fail
    have KZ:=set7_blk HZ.out.2 (.slice y.on.a y.on.n y.on.c) (.slice y.os.a y.os.n y.os.c) (.slice y.hs.a y.hs.n y.hs.c) (.slice y.ms.a y.ms.n y.ms.c) (.slice y.si.a y.si.n y.si.c) (.slice y.so.a y.so.n y.so.c) (.slice y.sf.a y.sf.n y.sf.c)
    have hbz:=set7_below (b:=w.heap.size+2) HZ.out.1 (by omega) (.slice y.on.a y.on.n y.on.c) (.slice y.os.a y.os.n y.os.c) (.slice y.hs.a y.hs.n y.hs.c) (.slice y.ms.a y.ms.n y.ms.c) (.slice y.si.a y.si.n y.si.c) (.slice y.so.a y.so.n y.so.c) (.slice y.sf.a y.sf.n y.sf.c)
    have hOz:=OwnS.set7 HI9.out.own HZ.out.2 (.slice y.on.a y.on.n y.on.c) (.slice y.os.a y.os.n y.os.c) (.slice y.hs.a y.hs.n y.hs.c) (.slice y.ms.a y.ms.n y.ms.c) (.slice y.si.a y.si.n y.si.c) (.slice y.so.a y.so.n y.so.c) (.slice y.sf.a y.sf.n y.sf.c)
    unfold set7 at KZ hbz hOz
    obtain ⟨c0',c1',c2',c3',c4',c5',c6'⟩:=box_cells KZ
    refine bodyPost_ret (v := .tuple #[y.val,.int .i64 0]) (by simp [results,Tryz.results48,go_sem,St.val,c0',c1',c2',c3',c4',c5',c6']) rfl ?_
    exact ⟨y,by rw [HX.out];rfl,hOz.at,⟨fun _=>HY.out,fun h=>absurd HX.out h⟩,fun _=>hOz.mono (Nat.le_trans HLOW.out A1),hbz⟩
 ·have HX:Hid (countE p s bin good seen=availE p s bin good):=countE_avail h0
  have HNE:Hid (¬ countE p s bin good seen=0):=by show ¬ _;rw [countE_avail h0];exact h0
  have g0:(availE p s bin good !=0)=true:=by simpa using h0
  clear h0
  generalize availV p s bin good=AV at *
  generalize availE p s bin good=AE at *
  clear hpk hsk
  have zl:=hz.lt
  have zf0:=hz.frozen 0
  have zc0:=hz.cell (j:=0) (by decide)
  have zf1:=hz.frozen 1
  have zc1:=hz.cell (j:=1) (by decide)
  have zf2:=hz.frozen 2
  have zc2:=hz.cell (j:=2) (by decide)
  have zf3:=hz.frozen 3
  have zc3:=hz.cell (j:=3) (by decide)
  have zf4:=hz.frozen 4
  have zc4:=hz.cell (j:=4) (by decide)
  have zf5:=hz.frozen 5
  have zc5:=hz.cell (j:=5) (by decide)
  have zf6:=hz.frozen 6
  have zc6:=hz.cell (j:=6) (by decide)
  go_wp2_with fail
  have KZ:=set7_blk hz (.slice .none 0 0) (.slice .none 0 0) (.slice .none 0 0) (.slice .none 0 0) (.slice .none 0 0) (.slice .none 0 0) (.slice .none 0 0)
  have hbz:=set7_below (b:=w.heap.size+2) hBw (by omega) (.slice .none 0 0) (.slice .none 0 0) (.slice .none 0 0) (.slice .none 0 0) (.slice .none 0 0) (.slice .none 0 0) (.slice .none 0 0)
  unfold set7 at KZ hbz
  obtain ⟨c0',c1',c2',c3',c4',c5',c6'⟩:=box_cells KZ
  refine bodyPost_ret (v := .tuple #[noneS.val,.int .i64 AE]) (by simp [results,Tryz.results48,go_sem,noneS,St.val,c0',c1',c2',c3',c4',c5',c6']) rfl ?_
  exact ⟨noneS,by rw [HX.out];rfl,noneS_at _,⟨fun h=>absurd h (HNE.out),fun _=>⟨rfl,rfl,rfl,rfl,rfl,rfl,rfl⟩⟩,fun h=>absurd h (HNE.out),hbz⟩
set_option maxRecDepth 100000 in
set_option maxHeartbeats 4000000 in
theorem Do_1 (p:Pl) (s:St) (x:Ax) (w:World) (hp:p.At w) (hs:s.At w) (hx:x.ls.At w) (hk:x.k=1) :
  Calls Tryz.prog 18 #[p.val,s.val,x.val] w fun e w'=>∃ y:St,e = .returned (.tuple #[y.val,.int .i64 (doE p s x)])∧y.At w'∧ActOK (doE p s x) (doT p s x) y∧(doE p s x=0→OwnS w.heap.size w' y)∧Below w.heap.size w w':=by
 have HKK:Hid (x.k=1):=hk
 obtain ⟨W0,hW,hWB,X0,XA,Z0⟩:∃ W,(((w.alloc (.cells #[.slice p.ab p.nb p.cb,.slice p.sa p.ns p.cs] 25)).alloc (.cells s.cells 31)).alloc (.cells x.cells 47)).alloc (.cells #[.slice .none 0 0,.slice .none 0 0,.slice .none 0 0,.slice .none 0 0,.slice .none 0 0,.slice .none 0 0,.slice .none 0 0] 31)=W∧Below w.heap.size w W∧Boxes W w.heap.size (w.heap.size+1) p s∧Blk W (w.heap.size+2) 47 6 (fun j=>x.cells.getD j default)∧Blk W (w.heap.size+3) 31 7 (fun _ => .slice .none 0 0) :=
  ⟨_,rfl,((two_below _ _ _).alloc (by simp;omega) _).alloc (by simp;omega) _,((boxes_new w p s _ _).below ((Below.refl _ _).alloc (Nat.le_refl _) _)).below ((Below.refl _ _).alloc (Nat.le_refl _) _),(Blk.mk' (cur:=x.cells) (by simp) rfl).alloc _,(Blk.mk' (cur:=#[.slice .none 0 0,.slice .none 0 0,.slice .none 0 0,.slice .none 0 0,.slice .none 0 0,.slice .none 0 0,.slice .none 0 0]) (by simp) rfl).congr (fun j hj=>by match j,hj with | 0,_=>rfl | 1,_=>rfl | 2,_=>rfl | 3,_=>rfl | 4,_=>rfl | 5,_=>rfl | 6,_=>rfl)⟩
 have HC:Hid (∀ wk,Below W0.heap.size W0 wk→Boxes wk w.heap.size (w.heap.size+1) p s∧p.At wk∧s.At wk∧Below w.heap.size w wk∧Blk wk (w.heap.size+3) 31 7 (fun _ => .slice .none 0 0)∧Blk wk (w.heap.size+2) 47 6 (fun j=>x.cells.getD j default)∧x.ls.At wk):=fun wk h=>⟨X0.below h,(hp.below hWB).below h,(hs.below hWB).below h,hWB.trans (h.mono hWB.size),Z0.below h,XA.below h,(hx.below hWB).below h⟩
 have HW:Hid ((((w.alloc (.cells #[.slice p.ab p.nb p.cb,.slice p.sa p.ns p.cs] 25)).alloc (.cells #[.slice s.on.a s.on.n s.on.c,.slice s.os.a s.os.n s.os.c,.slice s.hs.a s.hs.n s.hs.c,.slice s.ms.a s.ms.n s.ms.c,.slice s.si.a s.si.n s.si.c,.slice s.so.a s.so.n s.so.c,.slice s.sf.a s.sf.n s.sf.c] 31)).alloc (.cells #[.int .i64 x.k,.int .i64 x.a,.int .i64 x.b,.int .i64 x.c,.int .i64 x.n,.slice x.ls.a x.ls.n x.ls.c] 47)).alloc (.cells #[.slice .none 0 0,.slice .none 0 0,.slice .none 0 0,.slice .none 0 0,.slice .none 0 0,.slice .none 0 0,.slice .none 0 0] 31)=W0):=hW
 obtain ⟨⟨⟨l1,d0,d1⟩,l2,c0,c1,c2,c3,c4,c5,c6⟩,hpk,hsk,hBw,hz,hxk,hlk⟩:=HC.out W0 (Below.refl _ _)
 have HA0:Hid (p.At W0∧s.At W0∧x.ls.At W0):=⟨hpk,hsk,hlk⟩
 have HLOW:Hid (w.heap.size≤W0.heap.size):=hBw.size
 have x0:W0.cell? ⟨w.heap.size+2,0,none⟩=some (.int .i64 x.k):=hxk.cell (j:=0) (by decide)
 have x1:W0.cell? ⟨w.heap.size+2,1,none⟩=some (.int .i64 x.a):=hxk.cell (j:=1) (by decide)
 have x2:W0.cell? ⟨w.heap.size+2,2,none⟩=some (.int .i64 x.b):=hxk.cell (j:=2) (by decide)
 have x3:W0.cell? ⟨w.heap.size+2,3,none⟩=some (.int .i64 x.c):=hxk.cell (j:=3) (by decide)
 have x4:W0.cell? ⟨w.heap.size+2,4,none⟩=some (.int .i64 x.n):=hxk.cell (j:=4) (by decide)
 have x5:W0.cell? ⟨w.heap.size+2,5,none⟩=some (.slice x.ls.a x.ls.n x.ls.c):=hxk.cell (j:=5) (by decide)
 have x6:=hxk.lt
 have zl:=hz.lt
 have zf0:=hz.frozen 0
 have zc0:=hz.cell (j:=0) (by decide)
 have zf1:=hz.frozen 1
 have zc1:=hz.cell (j:=1) (by decide)
 have zf2:=hz.frozen 2
 have zc2:=hz.cell (j:=2) (by decide)
 have zf3:=hz.frozen 3
 have zc3:=hz.cell (j:=3) (by decide)
 have zf4:=hz.frozen 4
 have zc4:=hz.cell (j:=4) (by decide)
 have zf5:=hz.frozen 5
 have zc5:=hz.cell (j:=5) (by decide)
 have zf6:=hz.frozen 6
 have zc6:=hz.cell (j:=6) (by decide)
 rw [← HW.out] at l1 d0 d1 l2 c0 c1 c2 c3 c4 c5 c6 x0 x1 x2 x3 x4 x5 x6 zl zf0 zc0 zf1 zc1 zf2 zc2 zf3 zc3 zf4 zc4 zf5 zc5 zf6 zc6
 clear hW X0 XA Z0 hp hs hx hpk hsk hBw hz hxk hlk hWB
 unfold Pl.val St.val Ax.val Ax.cells
 go_enter Tryz.func18,Tryz.ntmps18
 obtain ⟨KK,hKK⟩:∃ KK,x.k=KK:=⟨_,rfl⟩
 have HK:Hid (x.k=KK):=hKK
 rw [hKK] at x0 HW ⊢
 clear hKK
 have hk1:KK=1:=HK.out.symm.trans hk
 have HE:Hid (doE p s x=recvE p s x.a x.b x.n∧doT p s x=recvT s x.a.toNat x.b.toNat x.n):=by
  have hk:x.k=1:=HK.out.trans hk1
  refine ⟨?_,?_⟩
  ·show (if x.k=1 then _ else _)=_
   rw [hk]
   rfl
  ·show (if x.k=1 then _ else _)=_
   rw [hk]
   rfl
 have g1:(KK==1)=true:=by rw [hk1];rfl
 clear hk1 hk
 go_wp2_with fail
 rw [HW.out]
 clear l1 d0 d1 l2 c0 c1 c2 c3 c4 c5 c6 x0 x1 x2 x3 x4 x5 x6 zl zf0 zc0 zf1 zc1 zf2 zc2 zf3 zc3 zf4 zc4 zf5 zc5 zf6 zc6
 refine Calls.mono (ReceiveOwn_any p s x.a x.b x.n W0 HA0.out.1 HA0.out.2.1) ?_
 rintro e w1 ⟨y,rfl,yat,yok,yown,hB⟩
 have HY:Hid (y.At w1∧ActOK (doE p s x) (doT p s x) y∧(doE p s x=0→OwnS W0.heap.size w1 y)):=by
  refine ⟨yat,?_,?_⟩
  ·rw [HE.out.1,HE.out.2];exact yok
  ·rw [HE.out.1];exact yown
 have HEE:Hid (doE p s x=recvE p s x.a x.b x.n):=HE.out.1
 rw [← HEE.out]
 obtain ⟨-,-,-,hBw,hz,-,-⟩:=HC.out w1 hB
 clear HE HEE yat yok yown HA0 HW g1
 obtain ⟨EE,hEE⟩:∃ EE,doE p s x=EE:=⟨_,rfl⟩
 have HEQ:Hid (doE p s x=EE):=hEE
 rw [hEE]
 clear hEE
 have zl:=hz.lt
 have zf0:=hz.frozen 0
 have zc0:=hz.cell (j:=0) (by decide)
 have zf1:=hz.frozen 1
 have zc1:=hz.cell (j:=1) (by decide)
 have zf2:=hz.frozen 2
 have zc2:=hz.cell (j:=2) (by decide)
 have zf3:=hz.frozen 3
 have zc3:=hz.cell (j:=3) (by decide)
 have zf4:=hz.frozen 4
 have zc4:=hz.cell (j:=4) (by decide)
 have zf5:=hz.frozen 5
 have zc5:=hz.cell (j:=5) (by decide)
 have zf6:=hz.frozen 6
 have zc6:=hz.cell (j:=6) (by decide)
 simp only [St.val]
 go_wp2_with fail
 have KZ:=set7_blk hz (.slice y.on.a y.on.n y.on.c) (.slice y.os.a y.os.n y.os.c) (.slice y.hs.a y.hs.n y.hs.c) (.slice y.ms.a y.ms.n y.ms.c) (.slice y.si.a y.si.n y.si.c) (.slice y.so.a y.so.n y.so.c) (.slice y.sf.a y.sf.n y.sf.c)
 have hbz:=set7_below (b:=w.heap.size+3) hBw (by omega) (.slice y.on.a y.on.n y.on.c) (.slice y.os.a y.os.n y.os.c) (.slice y.hs.a y.hs.n y.hs.c) (.slice y.ms.a y.ms.n y.ms.c) (.slice y.si.a y.si.n y.si.c) (.slice y.so.a y.so.n y.so.c) (.slice y.sf.a y.sf.n y.sf.c)
 have hOz:=fun h=>OwnS.set7 (HY.out.2.2 h) hz (.slice y.on.a y.on.n y.on.c) (.slice y.os.a y.os.n y.os.c) (.slice y.hs.a y.hs.n y.hs.c) (.slice y.ms.a y.ms.n y.ms.c) (.slice y.si.a y.si.n y.si.c) (.slice y.so.a y.so.n y.so.c) (.slice y.sf.a y.sf.n y.sf.c)
 have hYz:=act_at HY.out.2.1 HY.out.1 hOz
 unfold set7 at KZ hbz hYz hOz
 obtain ⟨c0',c1',c2',c3',c4',c5',c6'⟩:=box_cells KZ
 refine bodyPost_ret (v := .tuple #[y.val,.int .i64 EE]) (by simp [results,Tryz.results18,go_sem,St.val,c0',c1',c2',c3',c4',c5',c6']) rfl ?_
 exact ⟨y,by rw [HEQ.out];rfl,hYz,HY.out.2.1,fun h=>(hOz h).mono HLOW.out,hbz⟩
set_option maxRecDepth 100000 in
set_option maxHeartbeats 4000000 in
theorem Do_2 (p:Pl) (s:St) (x:Ax) (w:World) (hp:p.At w) (hs:s.At w) (hx:x.ls.At w) (hk:x.k=2) :
  Calls Tryz.prog 18 #[p.val,s.val,x.val] w fun e w'=>∃ y:St,e = .returned (.tuple #[y.val,.int .i64 (doE p s x)])∧y.At w'∧ActOK (doE p s x) (doT p s x) y∧(doE p s x=0→OwnS w.heap.size w' y)∧Below w.heap.size w w':=by
 have HKK:Hid (x.k=2):=hk
 obtain ⟨W0,hW,hWB,X0,XA,Z0⟩:∃ W,(((w.alloc (.cells #[.slice p.ab p.nb p.cb,.slice p.sa p.ns p.cs] 25)).alloc (.cells s.cells 31)).alloc (.cells x.cells 47)).alloc (.cells #[.slice .none 0 0,.slice .none 0 0,.slice .none 0 0,.slice .none 0 0,.slice .none 0 0,.slice .none 0 0,.slice .none 0 0] 31)=W∧Below w.heap.size w W∧Boxes W w.heap.size (w.heap.size+1) p s∧Blk W (w.heap.size+2) 47 6 (fun j=>x.cells.getD j default)∧Blk W (w.heap.size+3) 31 7 (fun _ => .slice .none 0 0) :=
  ⟨_,rfl,((two_below _ _ _).alloc (by simp;omega) _).alloc (by simp;omega) _,((boxes_new w p s _ _).below ((Below.refl _ _).alloc (Nat.le_refl _) _)).below ((Below.refl _ _).alloc (Nat.le_refl _) _),(Blk.mk' (cur:=x.cells) (by simp) rfl).alloc _,(Blk.mk' (cur:=#[.slice .none 0 0,.slice .none 0 0,.slice .none 0 0,.slice .none 0 0,.slice .none 0 0,.slice .none 0 0,.slice .none 0 0]) (by simp) rfl).congr (fun j hj=>by match j,hj with | 0,_=>rfl | 1,_=>rfl | 2,_=>rfl | 3,_=>rfl | 4,_=>rfl | 5,_=>rfl | 6,_=>rfl)⟩
 have HC:Hid (∀ wk,Below W0.heap.size W0 wk→Boxes wk w.heap.size (w.heap.size+1) p s∧p.At wk∧s.At wk∧Below w.heap.size w wk∧Blk wk (w.heap.size+3) 31 7 (fun _ => .slice .none 0 0)∧Blk wk (w.heap.size+2) 47 6 (fun j=>x.cells.getD j default)∧x.ls.At wk):=fun wk h=>⟨X0.below h,(hp.below hWB).below h,(hs.below hWB).below h,hWB.trans (h.mono hWB.size),Z0.below h,XA.below h,(hx.below hWB).below h⟩
 have HW:Hid ((((w.alloc (.cells #[.slice p.ab p.nb p.cb,.slice p.sa p.ns p.cs] 25)).alloc (.cells #[.slice s.on.a s.on.n s.on.c,.slice s.os.a s.os.n s.os.c,.slice s.hs.a s.hs.n s.hs.c,.slice s.ms.a s.ms.n s.ms.c,.slice s.si.a s.si.n s.si.c,.slice s.so.a s.so.n s.so.c,.slice s.sf.a s.sf.n s.sf.c] 31)).alloc (.cells #[.int .i64 x.k,.int .i64 x.a,.int .i64 x.b,.int .i64 x.c,.int .i64 x.n,.slice x.ls.a x.ls.n x.ls.c] 47)).alloc (.cells #[.slice .none 0 0,.slice .none 0 0,.slice .none 0 0,.slice .none 0 0,.slice .none 0 0,.slice .none 0 0,.slice .none 0 0] 31)=W0):=hW
 obtain ⟨⟨⟨l1,d0,d1⟩,l2,c0,c1,c2,c3,c4,c5,c6⟩,hpk,hsk,hBw,hz,hxk,hlk⟩:=HC.out W0 (Below.refl _ _)
 have HA0:Hid (p.At W0∧s.At W0∧x.ls.At W0):=⟨hpk,hsk,hlk⟩
 have HLOW:Hid (w.heap.size≤W0.heap.size):=hBw.size
 have x0:W0.cell? ⟨w.heap.size+2,0,none⟩=some (.int .i64 x.k):=hxk.cell (j:=0) (by decide)
 have x1:W0.cell? ⟨w.heap.size+2,1,none⟩=some (.int .i64 x.a):=hxk.cell (j:=1) (by decide)
 have x2:W0.cell? ⟨w.heap.size+2,2,none⟩=some (.int .i64 x.b):=hxk.cell (j:=2) (by decide)
 have x3:W0.cell? ⟨w.heap.size+2,3,none⟩=some (.int .i64 x.c):=hxk.cell (j:=3) (by decide)
 have x4:W0.cell? ⟨w.heap.size+2,4,none⟩=some (.int .i64 x.n):=hxk.cell (j:=4) (by decide)
 have x5:W0.cell? ⟨w.heap.size+2,5,none⟩=some (.slice x.ls.a x.ls.n x.ls.c):=hxk.cell (j:=5) (by decide)
 have x6:=hxk.lt
 have zl:=hz.lt
 have zf0:=hz.frozen 0
 have zc0:=hz.cell (j:=0) (by decide)
 have zf1:=hz.frozen 1
 have zc1:=hz.cell (j:=1) (by decide)
 have zf2:=hz.frozen 2
 have zc2:=hz.cell (j:=2) (by decide)
 have zf3:=hz.frozen 3
 have zc3:=hz.cell (j:=3) (by decide)
 have zf4:=hz.frozen 4
 have zc4:=hz.cell (j:=4) (by decide)
 have zf5:=hz.frozen 5
 have zc5:=hz.cell (j:=5) (by decide)
 have zf6:=hz.frozen 6
 have zc6:=hz.cell (j:=6) (by decide)
 rw [← HW.out] at l1 d0 d1 l2 c0 c1 c2 c3 c4 c5 c6 x0 x1 x2 x3 x4 x5 x6 zl zf0 zc0 zf1 zc1 zf2 zc2 zf3 zc3 zf4 zc4 zf5 zc5 zf6 zc6
 clear hW X0 XA Z0 hp hs hx hpk hsk hBw hz hxk hlk hWB
 unfold Pl.val St.val Ax.val Ax.cells
 go_enter Tryz.func18,Tryz.ntmps18
 obtain ⟨KK,hKK⟩:∃ KK,x.k=KK:=⟨_,rfl⟩
 have HK:Hid (x.k=KK):=hKK
 rw [hKK] at x0 HW ⊢
 clear hKK
 have hk2:KK=2:=HK.out.symm.trans hk
 have HE:Hid (doE p s x=enterE p s x.ls∧doT p s x=enterT s x.ls):=by
  have hk:x.k=2:=HK.out.trans hk2
  refine ⟨?_,?_⟩
  ·show (if x.k=1 then _ else _)=_
   rw [hk]
   rfl
  ·show (if x.k=1 then _ else _)=_
   rw [hk]
   rfl
 have g1:(KK==1)=false:=by rw [hk2];rfl
 have g2:(KK==2)=true:=by rw [hk2];rfl
 clear hk2 hk
 go_wp2_with fail
 rw [HW.out]
 clear l1 d0 d1 l2 c0 c1 c2 c3 c4 c5 c6 x0 x1 x2 x3 x4 x5 x6 zl zf0 zc0 zf1 zc1 zf2 zc2 zf3 zc3 zf4 zc4 zf5 zc5 zf6 zc6
 refine Calls.mono (EnterOwn_any p s x.ls W0 HA0.out.1 HA0.out.2.1 HA0.out.2.2) ?_
 rintro e w1 ⟨y,rfl,yat,yok,yown,hB⟩
 have HY:Hid (y.At w1∧ActOK (doE p s x) (doT p s x) y∧(doE p s x=0→OwnS W0.heap.size w1 y)):=by
  refine ⟨yat,?_,?_⟩
  ·rw [HE.out.1,HE.out.2];exact yok
  ·rw [HE.out.1];exact yown
 have HEE:Hid (doE p s x=enterE p s x.ls):=HE.out.1
 rw [← HEE.out]
 obtain ⟨-,-,-,hBw,hz,-,-⟩:=HC.out w1 hB
 clear HE HEE yat yok yown HA0 HW g1 g2
 obtain ⟨EE,hEE⟩:∃ EE,doE p s x=EE:=⟨_,rfl⟩
 have HEQ:Hid (doE p s x=EE):=hEE
 rw [hEE]
 clear hEE
 have zl:=hz.lt
 have zf0:=hz.frozen 0
 have zc0:=hz.cell (j:=0) (by decide)
 have zf1:=hz.frozen 1
 have zc1:=hz.cell (j:=1) (by decide)
 have zf2:=hz.frozen 2
 have zc2:=hz.cell (j:=2) (by decide)
 have zf3:=hz.frozen 3
 have zc3:=hz.cell (j:=3) (by decide)
 have zf4:=hz.frozen 4
 have zc4:=hz.cell (j:=4) (by decide)
 have zf5:=hz.frozen 5
 have zc5:=hz.cell (j:=5) (by decide)
 have zf6:=hz.frozen 6
 have zc6:=hz.cell (j:=6) (by decide)
 simp only [St.val]
 go_wp2_with fail
 have KZ:=set7_blk hz (.slice y.on.a y.on.n y.on.c) (.slice y.os.a y.os.n y.os.c) (.slice y.hs.a y.hs.n y.hs.c) (.slice y.ms.a y.ms.n y.ms.c) (.slice y.si.a y.si.n y.si.c) (.slice y.so.a y.so.n y.so.c) (.slice y.sf.a y.sf.n y.sf.c)
 have hbz:=set7_below (b:=w.heap.size+3) hBw (by omega) (.slice y.on.a y.on.n y.on.c) (.slice y.os.a y.os.n y.os.c) (.slice y.hs.a y.hs.n y.hs.c) (.slice y.ms.a y.ms.n y.ms.c) (.slice y.si.a y.si.n y.si.c) (.slice y.so.a y.so.n y.so.c) (.slice y.sf.a y.sf.n y.sf.c)
 have hOz:=fun h=>OwnS.set7 (HY.out.2.2 h) hz (.slice y.on.a y.on.n y.on.c) (.slice y.os.a y.os.n y.os.c) (.slice y.hs.a y.hs.n y.hs.c) (.slice y.ms.a y.ms.n y.ms.c) (.slice y.si.a y.si.n y.si.c) (.slice y.so.a y.so.n y.so.c) (.slice y.sf.a y.sf.n y.sf.c)
 have hYz:=act_at HY.out.2.1 HY.out.1 hOz
 unfold set7 at KZ hbz hYz hOz
 obtain ⟨c0',c1',c2',c3',c4',c5',c6'⟩:=box_cells KZ
 refine bodyPost_ret (v := .tuple #[y.val,.int .i64 EE]) (by simp [results,Tryz.results18,go_sem,St.val,c0',c1',c2',c3',c4',c5',c6']) rfl ?_
 exact ⟨y,by rw [HEQ.out];rfl,hYz,HY.out.2.1,fun h=>(hOz h).mono HLOW.out,hbz⟩
set_option maxRecDepth 100000 in
set_option maxHeartbeats 4000000 in
theorem Do_3 (p:Pl) (s:St) (x:Ax) (w:World) (hp:p.At w) (hs:s.At w) (hx:x.ls.At w) (hk:x.k=3) :
  Calls Tryz.prog 18 #[p.val,s.val,x.val] w fun e w'=>∃ y:St,e = .returned (.tuple #[y.val,.int .i64 (doE p s x)])∧y.At w'∧ActOK (doE p s x) (doT p s x) y∧(doE p s x=0→OwnS w.heap.size w' y)∧Below w.heap.size w w':=by
 have HKK:Hid (x.k=3):=hk
 obtain ⟨W0,hW,hWB,X0,XA,Z0⟩:∃ W,(((w.alloc (.cells #[.slice p.ab p.nb p.cb,.slice p.sa p.ns p.cs] 25)).alloc (.cells s.cells 31)).alloc (.cells x.cells 47)).alloc (.cells #[.slice .none 0 0,.slice .none 0 0,.slice .none 0 0,.slice .none 0 0,.slice .none 0 0,.slice .none 0 0,.slice .none 0 0] 31)=W∧Below w.heap.size w W∧Boxes W w.heap.size (w.heap.size+1) p s∧Blk W (w.heap.size+2) 47 6 (fun j=>x.cells.getD j default)∧Blk W (w.heap.size+3) 31 7 (fun _ => .slice .none 0 0) :=
  ⟨_,rfl,((two_below _ _ _).alloc (by simp;omega) _).alloc (by simp;omega) _,((boxes_new w p s _ _).below ((Below.refl _ _).alloc (Nat.le_refl _) _)).below ((Below.refl _ _).alloc (Nat.le_refl _) _),(Blk.mk' (cur:=x.cells) (by simp) rfl).alloc _,(Blk.mk' (cur:=#[.slice .none 0 0,.slice .none 0 0,.slice .none 0 0,.slice .none 0 0,.slice .none 0 0,.slice .none 0 0,.slice .none 0 0]) (by simp) rfl).congr (fun j hj=>by match j,hj with | 0,_=>rfl | 1,_=>rfl | 2,_=>rfl | 3,_=>rfl | 4,_=>rfl | 5,_=>rfl | 6,_=>rfl)⟩
 have HC:Hid (∀ wk,Below W0.heap.size W0 wk→Boxes wk w.heap.size (w.heap.size+1) p s∧p.At wk∧s.At wk∧Below w.heap.size w wk∧Blk wk (w.heap.size+3) 31 7 (fun _ => .slice .none 0 0)∧Blk wk (w.heap.size+2) 47 6 (fun j=>x.cells.getD j default)∧x.ls.At wk):=fun wk h=>⟨X0.below h,(hp.below hWB).below h,(hs.below hWB).below h,hWB.trans (h.mono hWB.size),Z0.below h,XA.below h,(hx.below hWB).below h⟩
 have HW:Hid ((((w.alloc (.cells #[.slice p.ab p.nb p.cb,.slice p.sa p.ns p.cs] 25)).alloc (.cells #[.slice s.on.a s.on.n s.on.c,.slice s.os.a s.os.n s.os.c,.slice s.hs.a s.hs.n s.hs.c,.slice s.ms.a s.ms.n s.ms.c,.slice s.si.a s.si.n s.si.c,.slice s.so.a s.so.n s.so.c,.slice s.sf.a s.sf.n s.sf.c] 31)).alloc (.cells #[.int .i64 x.k,.int .i64 x.a,.int .i64 x.b,.int .i64 x.c,.int .i64 x.n,.slice x.ls.a x.ls.n x.ls.c] 47)).alloc (.cells #[.slice .none 0 0,.slice .none 0 0,.slice .none 0 0,.slice .none 0 0,.slice .none 0 0,.slice .none 0 0,.slice .none 0 0] 31)=W0):=hW
 obtain ⟨⟨⟨l1,d0,d1⟩,l2,c0,c1,c2,c3,c4,c5,c6⟩,hpk,hsk,hBw,hz,hxk,hlk⟩:=HC.out W0 (Below.refl _ _)
 have HA0:Hid (p.At W0∧s.At W0∧x.ls.At W0):=⟨hpk,hsk,hlk⟩
 have HLOW:Hid (w.heap.size≤W0.heap.size):=hBw.size
 have x0:W0.cell? ⟨w.heap.size+2,0,none⟩=some (.int .i64 x.k):=hxk.cell (j:=0) (by decide)
 have x1:W0.cell? ⟨w.heap.size+2,1,none⟩=some (.int .i64 x.a):=hxk.cell (j:=1) (by decide)
 have x2:W0.cell? ⟨w.heap.size+2,2,none⟩=some (.int .i64 x.b):=hxk.cell (j:=2) (by decide)
 have x3:W0.cell? ⟨w.heap.size+2,3,none⟩=some (.int .i64 x.c):=hxk.cell (j:=3) (by decide)
 have x4:W0.cell? ⟨w.heap.size+2,4,none⟩=some (.int .i64 x.n):=hxk.cell (j:=4) (by decide)
 have x5:W0.cell? ⟨w.heap.size+2,5,none⟩=some (.slice x.ls.a x.ls.n x.ls.c):=hxk.cell (j:=5) (by decide)
 have x6:=hxk.lt
 have zl:=hz.lt
 have zf0:=hz.frozen 0
 have zc0:=hz.cell (j:=0) (by decide)
 have zf1:=hz.frozen 1
 have zc1:=hz.cell (j:=1) (by decide)
 have zf2:=hz.frozen 2
 have zc2:=hz.cell (j:=2) (by decide)
 have zf3:=hz.frozen 3
 have zc3:=hz.cell (j:=3) (by decide)
 have zf4:=hz.frozen 4
 have zc4:=hz.cell (j:=4) (by decide)
 have zf5:=hz.frozen 5
 have zc5:=hz.cell (j:=5) (by decide)
 have zf6:=hz.frozen 6
 have zc6:=hz.cell (j:=6) (by decide)
 rw [← HW.out] at l1 d0 d1 l2 c0 c1 c2 c3 c4 c5 c6 x0 x1 x2 x3 x4 x5 x6 zl zf0 zc0 zf1 zc1 zf2 zc2 zf3 zc3 zf4 zc4 zf5 zc5 zf6 zc6
 clear hW X0 XA Z0 hp hs hx hpk hsk hBw hz hxk hlk hWB
 unfold Pl.val St.val Ax.val Ax.cells
 go_enter Tryz.func18,Tryz.ntmps18
 obtain ⟨KK,hKK⟩:∃ KK,x.k=KK:=⟨_,rfl⟩
 have HK:Hid (x.k=KK):=hKK
 rw [hKK] at x0 HW ⊢
 clear hKK
 have hk3:KK=3:=HK.out.symm.trans hk
 have HE:Hid (doE p s x=stateE p s∧doT p s x=relT p s):=by
  have hk:x.k=3:=HK.out.trans hk3
  refine ⟨?_,?_⟩
  ·show (if x.k=1 then _ else _)=_
   rw [hk]
   rfl
  ·show (if x.k=1 then _ else _)=_
   rw [hk]
   rfl
 have g1:(KK==1)=false:=by rw [hk3];rfl
 have g2:(KK==2)=false:=by rw [hk3];rfl
 have g3:(KK==3)=true:=by rw [hk3];rfl
 clear hk3 hk
 go_wp2_with fail
 rw [HW.out]
 clear l1 d0 d1 l2 c0 c1 c2 c3 c4 c5 c6 x0 x1 x2 x3 x4 x5 x6 zl zf0 zc0 zf1 zc1 zf2 zc2 zf3 zc3 zf4 zc4 zf5 zc5 zf6 zc6
 refine Calls.mono (Release_any p s  W0 HA0.out.1 HA0.out.2.1) ?_
 rintro e w1 ⟨y,rfl,yat,yok,yown,hB⟩
 have HY:Hid (y.At w1∧ActOK (doE p s x) (doT p s x) y∧(doE p s x=0→OwnS W0.heap.size w1 y)):=by
  refine ⟨yat,?_,?_⟩
  ·rw [HE.out.1,HE.out.2];exact yok.act
  ·rw [HE.out.1];exact yown
 have HEE:Hid (doE p s x=stateE p s):=HE.out.1
 rw [← HEE.out]
 obtain ⟨-,-,-,hBw,hz,-,-⟩:=HC.out w1 hB
 clear HE HEE yat yok yown HA0 HW g1 g2 g3
 obtain ⟨EE,hEE⟩:∃ EE,doE p s x=EE:=⟨_,rfl⟩
 have HEQ:Hid (doE p s x=EE):=hEE
 rw [hEE]
 clear hEE
 have zl:=hz.lt
 have zf0:=hz.frozen 0
 have zc0:=hz.cell (j:=0) (by decide)
 have zf1:=hz.frozen 1
 have zc1:=hz.cell (j:=1) (by decide)
 have zf2:=hz.frozen 2
 have zc2:=hz.cell (j:=2) (by decide)
 have zf3:=hz.frozen 3
 have zc3:=hz.cell (j:=3) (by decide)
 have zf4:=hz.frozen 4
 have zc4:=hz.cell (j:=4) (by decide)
 have zf5:=hz.frozen 5
 have zc5:=hz.cell (j:=5) (by decide)
 have zf6:=hz.frozen 6
 have zc6:=hz.cell (j:=6) (by decide)
 simp only [St.val]
 go_wp2_with fail
 have KZ:=set7_blk hz (.slice y.on.a y.on.n y.on.c) (.slice y.os.a y.os.n y.os.c) (.slice y.hs.a y.hs.n y.hs.c) (.slice y.ms.a y.ms.n y.ms.c) (.slice y.si.a y.si.n y.si.c) (.slice y.so.a y.so.n y.so.c) (.slice y.sf.a y.sf.n y.sf.c)
 have hbz:=set7_below (b:=w.heap.size+3) hBw (by omega) (.slice y.on.a y.on.n y.on.c) (.slice y.os.a y.os.n y.os.c) (.slice y.hs.a y.hs.n y.hs.c) (.slice y.ms.a y.ms.n y.ms.c) (.slice y.si.a y.si.n y.si.c) (.slice y.so.a y.so.n y.so.c) (.slice y.sf.a y.sf.n y.sf.c)
 have hOz:=fun h=>OwnS.set7 (HY.out.2.2 h) hz (.slice y.on.a y.on.n y.on.c) (.slice y.os.a y.os.n y.os.c) (.slice y.hs.a y.hs.n y.hs.c) (.slice y.ms.a y.ms.n y.ms.c) (.slice y.si.a y.si.n y.si.c) (.slice y.so.a y.so.n y.so.c) (.slice y.sf.a y.sf.n y.sf.c)
 have hYz:=act_at HY.out.2.1 HY.out.1 hOz
 unfold set7 at KZ hbz hYz hOz
 obtain ⟨c0',c1',c2',c3',c4',c5',c6'⟩:=box_cells KZ
 refine bodyPost_ret (v := .tuple #[y.val,.int .i64 EE]) (by simp [results,Tryz.results18,go_sem,St.val,c0',c1',c2',c3',c4',c5',c6']) rfl ?_
 exact ⟨y,by rw [HEQ.out];rfl,hYz,HY.out.2.1,fun h=>(hOz h).mono HLOW.out,hbz⟩
set_option maxRecDepth 100000 in
set_option maxHeartbeats 4000000 in
theorem Do_4 (p:Pl) (s:St) (x:Ax) (w:World) (hp:p.At w) (hs:s.At w) (hx:x.ls.At w) (hk:x.k=4) :
  Calls Tryz.prog 18 #[p.val,s.val,x.val] w fun e w'=>∃ y:St,e = .returned (.tuple #[y.val,.int .i64 (doE p s x)])∧y.At w'∧ActOK (doE p s x) (doT p s x) y∧(doE p s x=0→OwnS w.heap.size w' y)∧Below w.heap.size w w':=by
 have HKK:Hid (x.k=4):=hk
 obtain ⟨W0,hW,hWB,X0,XA,Z0⟩:∃ W,(((w.alloc (.cells #[.slice p.ab p.nb p.cb,.slice p.sa p.ns p.cs] 25)).alloc (.cells s.cells 31)).alloc (.cells x.cells 47)).alloc (.cells #[.slice .none 0 0,.slice .none 0 0,.slice .none 0 0,.slice .none 0 0,.slice .none 0 0,.slice .none 0 0,.slice .none 0 0] 31)=W∧Below w.heap.size w W∧Boxes W w.heap.size (w.heap.size+1) p s∧Blk W (w.heap.size+2) 47 6 (fun j=>x.cells.getD j default)∧Blk W (w.heap.size+3) 31 7 (fun _ => .slice .none 0 0) :=
  ⟨_,rfl,((two_below _ _ _).alloc (by simp;omega) _).alloc (by simp;omega) _,((boxes_new w p s _ _).below ((Below.refl _ _).alloc (Nat.le_refl _) _)).below ((Below.refl _ _).alloc (Nat.le_refl _) _),(Blk.mk' (cur:=x.cells) (by simp) rfl).alloc _,(Blk.mk' (cur:=#[.slice .none 0 0,.slice .none 0 0,.slice .none 0 0,.slice .none 0 0,.slice .none 0 0,.slice .none 0 0,.slice .none 0 0]) (by simp) rfl).congr (fun j hj=>by match j,hj with | 0,_=>rfl | 1,_=>rfl | 2,_=>rfl | 3,_=>rfl | 4,_=>rfl | 5,_=>rfl | 6,_=>rfl)⟩
 have HC:Hid (∀ wk,Below W0.heap.size W0 wk→Boxes wk w.heap.size (w.heap.size+1) p s∧p.At wk∧s.At wk∧Below w.heap.size w wk∧Blk wk (w.heap.size+3) 31 7 (fun _ => .slice .none 0 0)∧Blk wk (w.heap.size+2) 47 6 (fun j=>x.cells.getD j default)∧x.ls.At wk):=fun wk h=>⟨X0.below h,(hp.below hWB).below h,(hs.below hWB).below h,hWB.trans (h.mono hWB.size),Z0.below h,XA.below h,(hx.below hWB).below h⟩
 have HW:Hid ((((w.alloc (.cells #[.slice p.ab p.nb p.cb,.slice p.sa p.ns p.cs] 25)).alloc (.cells #[.slice s.on.a s.on.n s.on.c,.slice s.os.a s.os.n s.os.c,.slice s.hs.a s.hs.n s.hs.c,.slice s.ms.a s.ms.n s.ms.c,.slice s.si.a s.si.n s.si.c,.slice s.so.a s.so.n s.so.c,.slice s.sf.a s.sf.n s.sf.c] 31)).alloc (.cells #[.int .i64 x.k,.int .i64 x.a,.int .i64 x.b,.int .i64 x.c,.int .i64 x.n,.slice x.ls.a x.ls.n x.ls.c] 47)).alloc (.cells #[.slice .none 0 0,.slice .none 0 0,.slice .none 0 0,.slice .none 0 0,.slice .none 0 0,.slice .none 0 0,.slice .none 0 0] 31)=W0):=hW
 obtain ⟨⟨⟨l1,d0,d1⟩,l2,c0,c1,c2,c3,c4,c5,c6⟩,hpk,hsk,hBw,hz,hxk,hlk⟩:=HC.out W0 (Below.refl _ _)
 have HA0:Hid (p.At W0∧s.At W0∧x.ls.At W0):=⟨hpk,hsk,hlk⟩
 have HLOW:Hid (w.heap.size≤W0.heap.size):=hBw.size
 have x0:W0.cell? ⟨w.heap.size+2,0,none⟩=some (.int .i64 x.k):=hxk.cell (j:=0) (by decide)
 have x1:W0.cell? ⟨w.heap.size+2,1,none⟩=some (.int .i64 x.a):=hxk.cell (j:=1) (by decide)
 have x2:W0.cell? ⟨w.heap.size+2,2,none⟩=some (.int .i64 x.b):=hxk.cell (j:=2) (by decide)
 have x3:W0.cell? ⟨w.heap.size+2,3,none⟩=some (.int .i64 x.c):=hxk.cell (j:=3) (by decide)
 have x4:W0.cell? ⟨w.heap.size+2,4,none⟩=some (.int .i64 x.n):=hxk.cell (j:=4) (by decide)
 have x5:W0.cell? ⟨w.heap.size+2,5,none⟩=some (.slice x.ls.a x.ls.n x.ls.c):=hxk.cell (j:=5) (by decide)
 have x6:=hxk.lt
 have zl:=hz.lt
 have zf0:=hz.frozen 0
 have zc0:=hz.cell (j:=0) (by decide)
 have zf1:=hz.frozen 1
 have zc1:=hz.cell (j:=1) (by decide)
 have zf2:=hz.frozen 2
 have zc2:=hz.cell (j:=2) (by decide)
 have zf3:=hz.frozen 3
 have zc3:=hz.cell (j:=3) (by decide)
 have zf4:=hz.frozen 4
 have zc4:=hz.cell (j:=4) (by decide)
 have zf5:=hz.frozen 5
 have zc5:=hz.cell (j:=5) (by decide)
 have zf6:=hz.frozen 6
 have zc6:=hz.cell (j:=6) (by decide)
 rw [← HW.out] at l1 d0 d1 l2 c0 c1 c2 c3 c4 c5 c6 x0 x1 x2 x3 x4 x5 x6 zl zf0 zc0 zf1 zc1 zf2 zc2 zf3 zc3 zf4 zc4 zf5 zc5 zf6 zc6
 clear hW X0 XA Z0 hp hs hx hpk hsk hBw hz hxk hlk hWB
 unfold Pl.val St.val Ax.val Ax.cells
 go_enter Tryz.func18,Tryz.ntmps18
 obtain ⟨KK,hKK⟩:∃ KK,x.k=KK:=⟨_,rfl⟩
 have HK:Hid (x.k=KK):=hKK
 rw [hKK] at x0 HW ⊢
 clear hKK
 have hk4:KK=4:=HK.out.symm.trans hk
 have HE:Hid (doE p s x=cancelE p s x.a∧doT p s x=cancelT s x.a.toNat):=by
  have hk:x.k=4:=HK.out.trans hk4
  refine ⟨?_,?_⟩
  ·show (if x.k=1 then _ else _)=_
   rw [hk]
   rfl
  ·show (if x.k=1 then _ else _)=_
   rw [hk]
   rfl
 have g1:(KK==1)=false:=by rw [hk4];rfl
 have g2:(KK==2)=false:=by rw [hk4];rfl
 have g3:(KK==3)=false:=by rw [hk4];rfl
 have g4:(KK==4)=true:=by rw [hk4];rfl
 clear hk4 hk
 go_wp2_with fail
 rw [HW.out]
 clear l1 d0 d1 l2 c0 c1 c2 c3 c4 c5 c6 x0 x1 x2 x3 x4 x5 x6 zl zf0 zc0 zf1 zc1 zf2 zc2 zf3 zc3 zf4 zc4 zf5 zc5 zf6 zc6
 refine Calls.mono (Cancel_any p s x.a W0 HA0.out.1 HA0.out.2.1) ?_
 rintro e w1 ⟨y,rfl,yat,yok,yown,hB⟩
 have HY:Hid (y.At w1∧ActOK (doE p s x) (doT p s x) y∧(doE p s x=0→OwnS W0.heap.size w1 y)):=by
  refine ⟨yat,?_,?_⟩
  ·rw [HE.out.1,HE.out.2];exact yok
  ·rw [HE.out.1];exact yown
 have HEE:Hid (doE p s x=cancelE p s x.a):=HE.out.1
 rw [← HEE.out]
 obtain ⟨-,-,-,hBw,hz,-,-⟩:=HC.out w1 hB
 clear HE HEE yat yok yown HA0 HW g1 g2 g3 g4
 obtain ⟨EE,hEE⟩:∃ EE,doE p s x=EE:=⟨_,rfl⟩
 have HEQ:Hid (doE p s x=EE):=hEE
 rw [hEE]
 clear hEE
 have zl:=hz.lt
 have zf0:=hz.frozen 0
 have zc0:=hz.cell (j:=0) (by decide)
 have zf1:=hz.frozen 1
 have zc1:=hz.cell (j:=1) (by decide)
 have zf2:=hz.frozen 2
 have zc2:=hz.cell (j:=2) (by decide)
 have zf3:=hz.frozen 3
 have zc3:=hz.cell (j:=3) (by decide)
 have zf4:=hz.frozen 4
 have zc4:=hz.cell (j:=4) (by decide)
 have zf5:=hz.frozen 5
 have zc5:=hz.cell (j:=5) (by decide)
 have zf6:=hz.frozen 6
 have zc6:=hz.cell (j:=6) (by decide)
 simp only [St.val]
 go_wp2_with fail
 have KZ:=set7_blk hz (.slice y.on.a y.on.n y.on.c) (.slice y.os.a y.os.n y.os.c) (.slice y.hs.a y.hs.n y.hs.c) (.slice y.ms.a y.ms.n y.ms.c) (.slice y.si.a y.si.n y.si.c) (.slice y.so.a y.so.n y.so.c) (.slice y.sf.a y.sf.n y.sf.c)
 have hbz:=set7_below (b:=w.heap.size+3) hBw (by omega) (.slice y.on.a y.on.n y.on.c) (.slice y.os.a y.os.n y.os.c) (.slice y.hs.a y.hs.n y.hs.c) (.slice y.ms.a y.ms.n y.ms.c) (.slice y.si.a y.si.n y.si.c) (.slice y.so.a y.so.n y.so.c) (.slice y.sf.a y.sf.n y.sf.c)
 have hOz:=fun h=>OwnS.set7 (HY.out.2.2 h) hz (.slice y.on.a y.on.n y.on.c) (.slice y.os.a y.os.n y.os.c) (.slice y.hs.a y.hs.n y.hs.c) (.slice y.ms.a y.ms.n y.ms.c) (.slice y.si.a y.si.n y.si.c) (.slice y.so.a y.so.n y.so.c) (.slice y.sf.a y.sf.n y.sf.c)
 have hYz:=act_at HY.out.2.1 HY.out.1 hOz
 unfold set7 at KZ hbz hYz hOz
 obtain ⟨c0',c1',c2',c3',c4',c5',c6'⟩:=box_cells KZ
 refine bodyPost_ret (v := .tuple #[y.val,.int .i64 EE]) (by simp [results,Tryz.results18,go_sem,St.val,c0',c1',c2',c3',c4',c5',c6']) rfl ?_
 exact ⟨y,by rw [HEQ.out];rfl,hYz,HY.out.2.1,fun h=>(hOz h).mono HLOW.out,hbz⟩
set_option maxRecDepth 100000 in
set_option maxHeartbeats 4000000 in
theorem Do_5 (p:Pl) (s:St) (x:Ax) (w:World) (hp:p.At w) (hs:s.At w) (hx:x.ls.At w) (hk:x.k=5) :
  Calls Tryz.prog 18 #[p.val,s.val,x.val] w fun e w'=>∃ y:St,e = .returned (.tuple #[y.val,.int .i64 (doE p s x)])∧y.At w'∧ActOK (doE p s x) (doT p s x) y∧(doE p s x=0→OwnS w.heap.size w' y)∧Below w.heap.size w w':=by
 have HKK:Hid (x.k=5):=hk
 obtain ⟨W0,hW,hWB,X0,XA,Z0⟩:∃ W,(((w.alloc (.cells #[.slice p.ab p.nb p.cb,.slice p.sa p.ns p.cs] 25)).alloc (.cells s.cells 31)).alloc (.cells x.cells 47)).alloc (.cells #[.slice .none 0 0,.slice .none 0 0,.slice .none 0 0,.slice .none 0 0,.slice .none 0 0,.slice .none 0 0,.slice .none 0 0] 31)=W∧Below w.heap.size w W∧Boxes W w.heap.size (w.heap.size+1) p s∧Blk W (w.heap.size+2) 47 6 (fun j=>x.cells.getD j default)∧Blk W (w.heap.size+3) 31 7 (fun _ => .slice .none 0 0) :=
  ⟨_,rfl,((two_below _ _ _).alloc (by simp;omega) _).alloc (by simp;omega) _,((boxes_new w p s _ _).below ((Below.refl _ _).alloc (Nat.le_refl _) _)).below ((Below.refl _ _).alloc (Nat.le_refl _) _),(Blk.mk' (cur:=x.cells) (by simp) rfl).alloc _,(Blk.mk' (cur:=#[.slice .none 0 0,.slice .none 0 0,.slice .none 0 0,.slice .none 0 0,.slice .none 0 0,.slice .none 0 0,.slice .none 0 0]) (by simp) rfl).congr (fun j hj=>by match j,hj with | 0,_=>rfl | 1,_=>rfl | 2,_=>rfl | 3,_=>rfl | 4,_=>rfl | 5,_=>rfl | 6,_=>rfl)⟩
 have HC:Hid (∀ wk,Below W0.heap.size W0 wk→Boxes wk w.heap.size (w.heap.size+1) p s∧p.At wk∧s.At wk∧Below w.heap.size w wk∧Blk wk (w.heap.size+3) 31 7 (fun _ => .slice .none 0 0)∧Blk wk (w.heap.size+2) 47 6 (fun j=>x.cells.getD j default)∧x.ls.At wk):=fun wk h=>⟨X0.below h,(hp.below hWB).below h,(hs.below hWB).below h,hWB.trans (h.mono hWB.size),Z0.below h,XA.below h,(hx.below hWB).below h⟩
 have HW:Hid ((((w.alloc (.cells #[.slice p.ab p.nb p.cb,.slice p.sa p.ns p.cs] 25)).alloc (.cells #[.slice s.on.a s.on.n s.on.c,.slice s.os.a s.os.n s.os.c,.slice s.hs.a s.hs.n s.hs.c,.slice s.ms.a s.ms.n s.ms.c,.slice s.si.a s.si.n s.si.c,.slice s.so.a s.so.n s.so.c,.slice s.sf.a s.sf.n s.sf.c] 31)).alloc (.cells #[.int .i64 x.k,.int .i64 x.a,.int .i64 x.b,.int .i64 x.c,.int .i64 x.n,.slice x.ls.a x.ls.n x.ls.c] 47)).alloc (.cells #[.slice .none 0 0,.slice .none 0 0,.slice .none 0 0,.slice .none 0 0,.slice .none 0 0,.slice .none 0 0,.slice .none 0 0] 31)=W0):=hW
 obtain ⟨⟨⟨l1,d0,d1⟩,l2,c0,c1,c2,c3,c4,c5,c6⟩,hpk,hsk,hBw,hz,hxk,hlk⟩:=HC.out W0 (Below.refl _ _)
 have HA0:Hid (p.At W0∧s.At W0∧x.ls.At W0):=⟨hpk,hsk,hlk⟩
 have HLOW:Hid (w.heap.size≤W0.heap.size):=hBw.size
 have x0:W0.cell? ⟨w.heap.size+2,0,none⟩=some (.int .i64 x.k):=hxk.cell (j:=0) (by decide)
 have x1:W0.cell? ⟨w.heap.size+2,1,none⟩=some (.int .i64 x.a):=hxk.cell (j:=1) (by decide)
 have x2:W0.cell? ⟨w.heap.size+2,2,none⟩=some (.int .i64 x.b):=hxk.cell (j:=2) (by decide)
 have x3:W0.cell? ⟨w.heap.size+2,3,none⟩=some (.int .i64 x.c):=hxk.cell (j:=3) (by decide)
 have x4:W0.cell? ⟨w.heap.size+2,4,none⟩=some (.int .i64 x.n):=hxk.cell (j:=4) (by decide)
 have x5:W0.cell? ⟨w.heap.size+2,5,none⟩=some (.slice x.ls.a x.ls.n x.ls.c):=hxk.cell (j:=5) (by decide)
 have x6:=hxk.lt
 have zl:=hz.lt
 have zf0:=hz.frozen 0
 have zc0:=hz.cell (j:=0) (by decide)
 have zf1:=hz.frozen 1
 have zc1:=hz.cell (j:=1) (by decide)
 have zf2:=hz.frozen 2
 have zc2:=hz.cell (j:=2) (by decide)
 have zf3:=hz.frozen 3
 have zc3:=hz.cell (j:=3) (by decide)
 have zf4:=hz.frozen 4
 have zc4:=hz.cell (j:=4) (by decide)
 have zf5:=hz.frozen 5
 have zc5:=hz.cell (j:=5) (by decide)
 have zf6:=hz.frozen 6
 have zc6:=hz.cell (j:=6) (by decide)
 rw [← HW.out] at l1 d0 d1 l2 c0 c1 c2 c3 c4 c5 c6 x0 x1 x2 x3 x4 x5 x6 zl zf0 zc0 zf1 zc1 zf2 zc2 zf3 zc3 zf4 zc4 zf5 zc5 zf6 zc6
 clear hW X0 XA Z0 hp hs hx hpk hsk hBw hz hxk hlk hWB
 unfold Pl.val St.val Ax.val Ax.cells
 go_enter Tryz.func18,Tryz.ntmps18
 obtain ⟨KK,hKK⟩:∃ KK,x.k=KK:=⟨_,rfl⟩
 have HK:Hid (x.k=KK):=hKK
 rw [hKK] at x0 HW ⊢
 clear hKK
 have hk5:KK=5:=HK.out.symm.trans hk
 have HE:Hid (doE p s x=pickE p s x.a x.b x.c x.n∧doT p s x=pickT p s x.a.toNat x.b.toNat x.c.toNat x.n):=by
  have hk:x.k=5:=HK.out.trans hk5
  refine ⟨?_,?_⟩
  ·show (if x.k=1 then _ else _)=_
   rw [hk]
   rfl
  ·show (if x.k=1 then _ else _)=_
   rw [hk]
   rfl
 have g1:(KK==1)=false:=by rw [hk5];rfl
 have g2:(KK==2)=false:=by rw [hk5];rfl
 have g3:(KK==3)=false:=by rw [hk5];rfl
 have g4:(KK==4)=false:=by rw [hk5];rfl
 have g5:(KK==5)=true:=by rw [hk5];rfl
 clear hk5 hk
 go_wp2_with fail
 rw [HW.out]
 clear l1 d0 d1 l2 c0 c1 c2 c3 c4 c5 c6 x0 x1 x2 x3 x4 x5 x6 zl zf0 zc0 zf1 zc1 zf2 zc2 zf3 zc3 zf4 zc4 zf5 zc5 zf6 zc6
 refine Calls.mono (Pick_any p s x.a x.b x.c x.n W0 HA0.out.1 HA0.out.2.1) ?_
 rintro e w1 ⟨y,rfl,yat,yok,yown,hB⟩
 have HY:Hid (y.At w1∧ActOK (doE p s x) (doT p s x) y∧(doE p s x=0→OwnS W0.heap.size w1 y)):=by
  refine ⟨yat,?_,?_⟩
  ·rw [HE.out.1,HE.out.2];exact yok
  ·rw [HE.out.1];exact yown
 have HEE:Hid (doE p s x=pickE p s x.a x.b x.c x.n):=HE.out.1
 rw [← HEE.out]
 obtain ⟨-,-,-,hBw,hz,-,-⟩:=HC.out w1 hB
 clear HE HEE yat yok yown HA0 HW g1 g2 g3 g4 g5
 obtain ⟨EE,hEE⟩:∃ EE,doE p s x=EE:=⟨_,rfl⟩
 have HEQ:Hid (doE p s x=EE):=hEE
 rw [hEE]
 clear hEE
 have zl:=hz.lt
 have zf0:=hz.frozen 0
 have zc0:=hz.cell (j:=0) (by decide)
 have zf1:=hz.frozen 1
 have zc1:=hz.cell (j:=1) (by decide)
 have zf2:=hz.frozen 2
 have zc2:=hz.cell (j:=2) (by decide)
 have zf3:=hz.frozen 3
 have zc3:=hz.cell (j:=3) (by decide)
 have zf4:=hz.frozen 4
 have zc4:=hz.cell (j:=4) (by decide)
 have zf5:=hz.frozen 5
 have zc5:=hz.cell (j:=5) (by decide)
 have zf6:=hz.frozen 6
 have zc6:=hz.cell (j:=6) (by decide)
 simp only [St.val]
 go_wp2_with fail
 have KZ:=set7_blk hz (.slice y.on.a y.on.n y.on.c) (.slice y.os.a y.os.n y.os.c) (.slice y.hs.a y.hs.n y.hs.c) (.slice y.ms.a y.ms.n y.ms.c) (.slice y.si.a y.si.n y.si.c) (.slice y.so.a y.so.n y.so.c) (.slice y.sf.a y.sf.n y.sf.c)
 have hbz:=set7_below (b:=w.heap.size+3) hBw (by omega) (.slice y.on.a y.on.n y.on.c) (.slice y.os.a y.os.n y.os.c) (.slice y.hs.a y.hs.n y.hs.c) (.slice y.ms.a y.ms.n y.ms.c) (.slice y.si.a y.si.n y.si.c) (.slice y.so.a y.so.n y.so.c) (.slice y.sf.a y.sf.n y.sf.c)
 have hOz:=fun h=>OwnS.set7 (HY.out.2.2 h) hz (.slice y.on.a y.on.n y.on.c) (.slice y.os.a y.os.n y.os.c) (.slice y.hs.a y.hs.n y.hs.c) (.slice y.ms.a y.ms.n y.ms.c) (.slice y.si.a y.si.n y.si.c) (.slice y.so.a y.so.n y.so.c) (.slice y.sf.a y.sf.n y.sf.c)
 have hYz:=act_at HY.out.2.1 HY.out.1 hOz
 unfold set7 at KZ hbz hYz hOz
 obtain ⟨c0',c1',c2',c3',c4',c5',c6'⟩:=box_cells KZ
 refine bodyPost_ret (v := .tuple #[y.val,.int .i64 EE]) (by simp [results,Tryz.results18,go_sem,St.val,c0',c1',c2',c3',c4',c5',c6']) rfl ?_
 exact ⟨y,by rw [HEQ.out];rfl,hYz,HY.out.2.1,fun h=>(hOz h).mono HLOW.out,hbz⟩
set_option maxRecDepth 100000 in
set_option maxHeartbeats 4000000 in
theorem Do_6 (p:Pl) (s:St) (x:Ax) (w:World) (hp:p.At w) (hs:s.At w) (hx:x.ls.At w) (hk:x.k=6) :
  Calls Tryz.prog 18 #[p.val,s.val,x.val] w fun e w'=>∃ y:St,e = .returned (.tuple #[y.val,.int .i64 (doE p s x)])∧y.At w'∧ActOK (doE p s x) (doT p s x) y∧(doE p s x=0→OwnS w.heap.size w' y)∧Below w.heap.size w w':=by
 have HKK:Hid (x.k=6):=hk
 obtain ⟨W0,hW,hWB,X0,XA,Z0⟩:∃ W,(((w.alloc (.cells #[.slice p.ab p.nb p.cb,.slice p.sa p.ns p.cs] 25)).alloc (.cells s.cells 31)).alloc (.cells x.cells 47)).alloc (.cells #[.slice .none 0 0,.slice .none 0 0,.slice .none 0 0,.slice .none 0 0,.slice .none 0 0,.slice .none 0 0,.slice .none 0 0] 31)=W∧Below w.heap.size w W∧Boxes W w.heap.size (w.heap.size+1) p s∧Blk W (w.heap.size+2) 47 6 (fun j=>x.cells.getD j default)∧Blk W (w.heap.size+3) 31 7 (fun _ => .slice .none 0 0) :=
  ⟨_,rfl,((two_below _ _ _).alloc (by simp;omega) _).alloc (by simp;omega) _,((boxes_new w p s _ _).below ((Below.refl _ _).alloc (Nat.le_refl _) _)).below ((Below.refl _ _).alloc (Nat.le_refl _) _),(Blk.mk' (cur:=x.cells) (by simp) rfl).alloc _,(Blk.mk' (cur:=#[.slice .none 0 0,.slice .none 0 0,.slice .none 0 0,.slice .none 0 0,.slice .none 0 0,.slice .none 0 0,.slice .none 0 0]) (by simp) rfl).congr (fun j hj=>by match j,hj with | 0,_=>rfl | 1,_=>rfl | 2,_=>rfl | 3,_=>rfl | 4,_=>rfl | 5,_=>rfl | 6,_=>rfl)⟩
 have HC:Hid (∀ wk,Below W0.heap.size W0 wk→Boxes wk w.heap.size (w.heap.size+1) p s∧p.At wk∧s.At wk∧Below w.heap.size w wk∧Blk wk (w.heap.size+3) 31 7 (fun _ => .slice .none 0 0)∧Blk wk (w.heap.size+2) 47 6 (fun j=>x.cells.getD j default)∧x.ls.At wk):=fun wk h=>⟨X0.below h,(hp.below hWB).below h,(hs.below hWB).below h,hWB.trans (h.mono hWB.size),Z0.below h,XA.below h,(hx.below hWB).below h⟩
 have HW:Hid ((((w.alloc (.cells #[.slice p.ab p.nb p.cb,.slice p.sa p.ns p.cs] 25)).alloc (.cells #[.slice s.on.a s.on.n s.on.c,.slice s.os.a s.os.n s.os.c,.slice s.hs.a s.hs.n s.hs.c,.slice s.ms.a s.ms.n s.ms.c,.slice s.si.a s.si.n s.si.c,.slice s.so.a s.so.n s.so.c,.slice s.sf.a s.sf.n s.sf.c] 31)).alloc (.cells #[.int .i64 x.k,.int .i64 x.a,.int .i64 x.b,.int .i64 x.c,.int .i64 x.n,.slice x.ls.a x.ls.n x.ls.c] 47)).alloc (.cells #[.slice .none 0 0,.slice .none 0 0,.slice .none 0 0,.slice .none 0 0,.slice .none 0 0,.slice .none 0 0,.slice .none 0 0] 31)=W0):=hW
 obtain ⟨⟨⟨l1,d0,d1⟩,l2,c0,c1,c2,c3,c4,c5,c6⟩,hpk,hsk,hBw,hz,hxk,hlk⟩:=HC.out W0 (Below.refl _ _)
 have HA0:Hid (p.At W0∧s.At W0∧x.ls.At W0):=⟨hpk,hsk,hlk⟩
 have HLOW:Hid (w.heap.size≤W0.heap.size):=hBw.size
 have x0:W0.cell? ⟨w.heap.size+2,0,none⟩=some (.int .i64 x.k):=hxk.cell (j:=0) (by decide)
 have x1:W0.cell? ⟨w.heap.size+2,1,none⟩=some (.int .i64 x.a):=hxk.cell (j:=1) (by decide)
 have x2:W0.cell? ⟨w.heap.size+2,2,none⟩=some (.int .i64 x.b):=hxk.cell (j:=2) (by decide)
 have x3:W0.cell? ⟨w.heap.size+2,3,none⟩=some (.int .i64 x.c):=hxk.cell (j:=3) (by decide)
 have x4:W0.cell? ⟨w.heap.size+2,4,none⟩=some (.int .i64 x.n):=hxk.cell (j:=4) (by decide)
 have x5:W0.cell? ⟨w.heap.size+2,5,none⟩=some (.slice x.ls.a x.ls.n x.ls.c):=hxk.cell (j:=5) (by decide)
 have x6:=hxk.lt
 have zl:=hz.lt
 have zf0:=hz.frozen 0
 have zc0:=hz.cell (j:=0) (by decide)
 have zf1:=hz.frozen 1
 have zc1:=hz.cell (j:=1) (by decide)
 have zf2:=hz.frozen 2
 have zc2:=hz.cell (j:=2) (by decide)
 have zf3:=hz.frozen 3
 have zc3:=hz.cell (j:=3) (by decide)
 have zf4:=hz.frozen 4
 have zc4:=hz.cell (j:=4) (by decide)
 have zf5:=hz.frozen 5
 have zc5:=hz.cell (j:=5) (by decide)
 have zf6:=hz.frozen 6
 have zc6:=hz.cell (j:=6) (by decide)
 rw [← HW.out] at l1 d0 d1 l2 c0 c1 c2 c3 c4 c5 c6 x0 x1 x2 x3 x4 x5 x6 zl zf0 zc0 zf1 zc1 zf2 zc2 zf3 zc3 zf4 zc4 zf5 zc5 zf6 zc6
 clear hW X0 XA Z0 hp hs hx hpk hsk hBw hz hxk hlk hWB
 unfold Pl.val St.val Ax.val Ax.cells
 go_enter Tryz.func18,Tryz.ntmps18
 obtain ⟨KK,hKK⟩:∃ KK,x.k=KK:=⟨_,rfl⟩
 have HK:Hid (x.k=KK):=hKK
 rw [hKK] at x0 HW ⊢
 clear hKK
 have hk6:KK=6:=HK.out.symm.trans hk
 have HE:Hid (doE p s x=stateE p s∧doT p s x=fillT p s):=by
  have hk:x.k=6:=HK.out.trans hk6
  refine ⟨?_,?_⟩
  ·show (if x.k=1 then _ else _)=_
   rw [hk]
   rfl
  ·show (if x.k=1 then _ else _)=_
   rw [hk]
   rfl
 have g1:(KK==1)=false:=by rw [hk6];rfl
 have g2:(KK==2)=false:=by rw [hk6];rfl
 have g3:(KK==3)=false:=by rw [hk6];rfl
 have g4:(KK==4)=false:=by rw [hk6];rfl
 have g5:(KK==5)=false:=by rw [hk6];rfl
 have g6:(KK==6)=true:=by rw [hk6];rfl
 clear hk6 hk
 go_wp2_with fail
 rw [HW.out]
 clear l1 d0 d1 l2 c0 c1 c2 c3 c4 c5 c6 x0 x1 x2 x3 x4 x5 x6 zl zf0 zc0 zf1 zc1 zf2 zc2 zf3 zc3 zf4 zc4 zf5 zc5 zf6 zc6
 refine Calls.mono (Fill_any p s  W0 HA0.out.1 HA0.out.2.1) ?_
 rintro e w1 ⟨y,rfl,yat,yok,yown,hB⟩
 have HY:Hid (y.At w1∧ActOK (doE p s x) (doT p s x) y∧(doE p s x=0→OwnS W0.heap.size w1 y)):=by
  refine ⟨yat,?_,?_⟩
  ·rw [HE.out.1,HE.out.2];exact yok
  ·rw [HE.out.1];exact yown
 have HEE:Hid (doE p s x=stateE p s):=HE.out.1
 rw [← HEE.out]
 obtain ⟨-,-,-,hBw,hz,-,-⟩:=HC.out w1 hB
 clear HE HEE yat yok yown HA0 HW g1 g2 g3 g4 g5 g6
 obtain ⟨EE,hEE⟩:∃ EE,doE p s x=EE:=⟨_,rfl⟩
 have HEQ:Hid (doE p s x=EE):=hEE
 rw [hEE]
 clear hEE
 have zl:=hz.lt
 have zf0:=hz.frozen 0
 have zc0:=hz.cell (j:=0) (by decide)
 have zf1:=hz.frozen 1
 have zc1:=hz.cell (j:=1) (by decide)
 have zf2:=hz.frozen 2
 have zc2:=hz.cell (j:=2) (by decide)
 have zf3:=hz.frozen 3
 have zc3:=hz.cell (j:=3) (by decide)
 have zf4:=hz.frozen 4
 have zc4:=hz.cell (j:=4) (by decide)
 have zf5:=hz.frozen 5
 have zc5:=hz.cell (j:=5) (by decide)
 have zf6:=hz.frozen 6
 have zc6:=hz.cell (j:=6) (by decide)
 simp only [St.val]
 go_wp2_with fail
 have KZ:=set7_blk hz (.slice y.on.a y.on.n y.on.c) (.slice y.os.a y.os.n y.os.c) (.slice y.hs.a y.hs.n y.hs.c) (.slice y.ms.a y.ms.n y.ms.c) (.slice y.si.a y.si.n y.si.c) (.slice y.so.a y.so.n y.so.c) (.slice y.sf.a y.sf.n y.sf.c)
 have hbz:=set7_below (b:=w.heap.size+3) hBw (by omega) (.slice y.on.a y.on.n y.on.c) (.slice y.os.a y.os.n y.os.c) (.slice y.hs.a y.hs.n y.hs.c) (.slice y.ms.a y.ms.n y.ms.c) (.slice y.si.a y.si.n y.si.c) (.slice y.so.a y.so.n y.so.c) (.slice y.sf.a y.sf.n y.sf.c)
 have hOz:=fun h=>OwnS.set7 (HY.out.2.2 h) hz (.slice y.on.a y.on.n y.on.c) (.slice y.os.a y.os.n y.os.c) (.slice y.hs.a y.hs.n y.hs.c) (.slice y.ms.a y.ms.n y.ms.c) (.slice y.si.a y.si.n y.si.c) (.slice y.so.a y.so.n y.so.c) (.slice y.sf.a y.sf.n y.sf.c)
 have hYz:=act_at HY.out.2.1 HY.out.1 hOz
 unfold set7 at KZ hbz hYz hOz
 obtain ⟨c0',c1',c2',c3',c4',c5',c6'⟩:=box_cells KZ
 refine bodyPost_ret (v := .tuple #[y.val,.int .i64 EE]) (by simp [results,Tryz.results18,go_sem,St.val,c0',c1',c2',c3',c4',c5',c6']) rfl ?_
 exact ⟨y,by rw [HEQ.out];rfl,hYz,HY.out.2.1,fun h=>(hOz h).mono HLOW.out,hbz⟩
set_option maxRecDepth 100000 in
set_option maxHeartbeats 4000000 in
theorem Do_7 (p:Pl) (s:St) (x:Ax) (w:World) (hp:p.At w) (hs:s.At w) (hx:x.ls.At w) (hk:x.k=7) :
  Calls Tryz.prog 18 #[p.val,s.val,x.val] w fun e w'=>∃ y:St,e = .returned (.tuple #[y.val,.int .i64 (doE p s x)])∧y.At w'∧ActOK (doE p s x) (doT p s x) y∧(doE p s x=0→OwnS w.heap.size w' y)∧Below w.heap.size w w':=by
 have HKK:Hid (x.k=7):=hk
 obtain ⟨W0,hW,hWB,X0,XA,Z0⟩:∃ W,(((w.alloc (.cells #[.slice p.ab p.nb p.cb,.slice p.sa p.ns p.cs] 25)).alloc (.cells s.cells 31)).alloc (.cells x.cells 47)).alloc (.cells #[.slice .none 0 0,.slice .none 0 0,.slice .none 0 0,.slice .none 0 0,.slice .none 0 0,.slice .none 0 0,.slice .none 0 0] 31)=W∧Below w.heap.size w W∧Boxes W w.heap.size (w.heap.size+1) p s∧Blk W (w.heap.size+2) 47 6 (fun j=>x.cells.getD j default)∧Blk W (w.heap.size+3) 31 7 (fun _ => .slice .none 0 0) :=
  ⟨_,rfl,((two_below _ _ _).alloc (by simp;omega) _).alloc (by simp;omega) _,((boxes_new w p s _ _).below ((Below.refl _ _).alloc (Nat.le_refl _) _)).below ((Below.refl _ _).alloc (Nat.le_refl _) _),(Blk.mk' (cur:=x.cells) (by simp) rfl).alloc _,(Blk.mk' (cur:=#[.slice .none 0 0,.slice .none 0 0,.slice .none 0 0,.slice .none 0 0,.slice .none 0 0,.slice .none 0 0,.slice .none 0 0]) (by simp) rfl).congr (fun j hj=>by match j,hj with | 0,_=>rfl | 1,_=>rfl | 2,_=>rfl | 3,_=>rfl | 4,_=>rfl | 5,_=>rfl | 6,_=>rfl)⟩
 have HC:Hid (∀ wk,Below W0.heap.size W0 wk→Boxes wk w.heap.size (w.heap.size+1) p s∧p.At wk∧s.At wk∧Below w.heap.size w wk∧Blk wk (w.heap.size+3) 31 7 (fun _ => .slice .none 0 0)∧Blk wk (w.heap.size+2) 47 6 (fun j=>x.cells.getD j default)∧x.ls.At wk):=fun wk h=>⟨X0.below h,(hp.below hWB).below h,(hs.below hWB).below h,hWB.trans (h.mono hWB.size),Z0.below h,XA.below h,(hx.below hWB).below h⟩
 have HW:Hid ((((w.alloc (.cells #[.slice p.ab p.nb p.cb,.slice p.sa p.ns p.cs] 25)).alloc (.cells #[.slice s.on.a s.on.n s.on.c,.slice s.os.a s.os.n s.os.c,.slice s.hs.a s.hs.n s.hs.c,.slice s.ms.a s.ms.n s.ms.c,.slice s.si.a s.si.n s.si.c,.slice s.so.a s.so.n s.so.c,.slice s.sf.a s.sf.n s.sf.c] 31)).alloc (.cells #[.int .i64 x.k,.int .i64 x.a,.int .i64 x.b,.int .i64 x.c,.int .i64 x.n,.slice x.ls.a x.ls.n x.ls.c] 47)).alloc (.cells #[.slice .none 0 0,.slice .none 0 0,.slice .none 0 0,.slice .none 0 0,.slice .none 0 0,.slice .none 0 0,.slice .none 0 0] 31)=W0):=hW
 obtain ⟨⟨⟨l1,d0,d1⟩,l2,c0,c1,c2,c3,c4,c5,c6⟩,hpk,hsk,hBw,hz,hxk,hlk⟩:=HC.out W0 (Below.refl _ _)
 have HA0:Hid (p.At W0∧s.At W0∧x.ls.At W0):=⟨hpk,hsk,hlk⟩
 have HLOW:Hid (w.heap.size≤W0.heap.size):=hBw.size
 have x0:W0.cell? ⟨w.heap.size+2,0,none⟩=some (.int .i64 x.k):=hxk.cell (j:=0) (by decide)
 have x1:W0.cell? ⟨w.heap.size+2,1,none⟩=some (.int .i64 x.a):=hxk.cell (j:=1) (by decide)
 have x2:W0.cell? ⟨w.heap.size+2,2,none⟩=some (.int .i64 x.b):=hxk.cell (j:=2) (by decide)
 have x3:W0.cell? ⟨w.heap.size+2,3,none⟩=some (.int .i64 x.c):=hxk.cell (j:=3) (by decide)
 have x4:W0.cell? ⟨w.heap.size+2,4,none⟩=some (.int .i64 x.n):=hxk.cell (j:=4) (by decide)
 have x5:W0.cell? ⟨w.heap.size+2,5,none⟩=some (.slice x.ls.a x.ls.n x.ls.c):=hxk.cell (j:=5) (by decide)
 have x6:=hxk.lt
 have zl:=hz.lt
 have zf0:=hz.frozen 0
 have zc0:=hz.cell (j:=0) (by decide)
 have zf1:=hz.frozen 1
 have zc1:=hz.cell (j:=1) (by decide)
 have zf2:=hz.frozen 2
 have zc2:=hz.cell (j:=2) (by decide)
 have zf3:=hz.frozen 3
 have zc3:=hz.cell (j:=3) (by decide)
 have zf4:=hz.frozen 4
 have zc4:=hz.cell (j:=4) (by decide)
 have zf5:=hz.frozen 5
 have zc5:=hz.cell (j:=5) (by decide)
 have zf6:=hz.frozen 6
 have zc6:=hz.cell (j:=6) (by decide)
 rw [← HW.out] at l1 d0 d1 l2 c0 c1 c2 c3 c4 c5 c6 x0 x1 x2 x3 x4 x5 x6 zl zf0 zc0 zf1 zc1 zf2 zc2 zf3 zc3 zf4 zc4 zf5 zc5 zf6 zc6
 clear hW X0 XA Z0 hp hs hx hpk hsk hBw hz hxk hlk hWB
 unfold Pl.val St.val Ax.val Ax.cells
 go_enter Tryz.func18,Tryz.ntmps18
 obtain ⟨KK,hKK⟩:∃ KK,x.k=KK:=⟨_,rfl⟩
 have HK:Hid (x.k=KK):=hKK
 rw [hKK] at x0 HW ⊢
 clear hKK
 have hk7:KK=7:=HK.out.symm.trans hk
 have HE:Hid (doE p s x=movedE p s x.a x.n∧doT p s x=movedT s x.a.toNat x.n):=by
  have hk:x.k=7:=HK.out.trans hk7
  refine ⟨?_,?_⟩
  ·show (if x.k=1 then _ else _)=_
   rw [hk]
   rfl
  ·show (if x.k=1 then _ else _)=_
   rw [hk]
   rfl
 have g1:(KK==1)=false:=by rw [hk7];rfl
 have g2:(KK==2)=false:=by rw [hk7];rfl
 have g3:(KK==3)=false:=by rw [hk7];rfl
 have g4:(KK==4)=false:=by rw [hk7];rfl
 have g5:(KK==5)=false:=by rw [hk7];rfl
 have g6:(KK==6)=false:=by rw [hk7];rfl
 have g7:(KK==7)=true:=by rw [hk7];rfl
 clear hk7 hk
 go_wp2_with fail
 rw [HW.out]
 clear l1 d0 d1 l2 c0 c1 c2 c3 c4 c5 c6 x0 x1 x2 x3 x4 x5 x6 zl zf0 zc0 zf1 zc1 zf2 zc2 zf3 zc3 zf4 zc4 zf5 zc5 zf6 zc6
 refine Calls.mono (Moved_any p s x.a x.n W0 HA0.out.1 HA0.out.2.1) ?_
 rintro e w1 ⟨y,rfl,yat,yok,yown,hB⟩
 have HY:Hid (y.At w1∧ActOK (doE p s x) (doT p s x) y∧(doE p s x=0→OwnS W0.heap.size w1 y)):=by
  refine ⟨yat,?_,?_⟩
  ·rw [HE.out.1,HE.out.2];exact yok
  ·rw [HE.out.1];exact yown
 have HEE:Hid (doE p s x=movedE p s x.a x.n):=HE.out.1
 rw [← HEE.out]
 obtain ⟨-,-,-,hBw,hz,-,-⟩:=HC.out w1 hB
 clear HE HEE yat yok yown HA0 HW g1 g2 g3 g4 g5 g6 g7
 obtain ⟨EE,hEE⟩:∃ EE,doE p s x=EE:=⟨_,rfl⟩
 have HEQ:Hid (doE p s x=EE):=hEE
 rw [hEE]
 clear hEE
 have zl:=hz.lt
 have zf0:=hz.frozen 0
 have zc0:=hz.cell (j:=0) (by decide)
 have zf1:=hz.frozen 1
 have zc1:=hz.cell (j:=1) (by decide)
 have zf2:=hz.frozen 2
 have zc2:=hz.cell (j:=2) (by decide)
 have zf3:=hz.frozen 3
 have zc3:=hz.cell (j:=3) (by decide)
 have zf4:=hz.frozen 4
 have zc4:=hz.cell (j:=4) (by decide)
 have zf5:=hz.frozen 5
 have zc5:=hz.cell (j:=5) (by decide)
 have zf6:=hz.frozen 6
 have zc6:=hz.cell (j:=6) (by decide)
 simp only [St.val]
 go_wp2_with fail
 have KZ:=set7_blk hz (.slice y.on.a y.on.n y.on.c) (.slice y.os.a y.os.n y.os.c) (.slice y.hs.a y.hs.n y.hs.c) (.slice y.ms.a y.ms.n y.ms.c) (.slice y.si.a y.si.n y.si.c) (.slice y.so.a y.so.n y.so.c) (.slice y.sf.a y.sf.n y.sf.c)
 have hbz:=set7_below (b:=w.heap.size+3) hBw (by omega) (.slice y.on.a y.on.n y.on.c) (.slice y.os.a y.os.n y.os.c) (.slice y.hs.a y.hs.n y.hs.c) (.slice y.ms.a y.ms.n y.ms.c) (.slice y.si.a y.si.n y.si.c) (.slice y.so.a y.so.n y.so.c) (.slice y.sf.a y.sf.n y.sf.c)
 have hOz:=fun h=>OwnS.set7 (HY.out.2.2 h) hz (.slice y.on.a y.on.n y.on.c) (.slice y.os.a y.os.n y.os.c) (.slice y.hs.a y.hs.n y.hs.c) (.slice y.ms.a y.ms.n y.ms.c) (.slice y.si.a y.si.n y.si.c) (.slice y.so.a y.so.n y.so.c) (.slice y.sf.a y.sf.n y.sf.c)
 have hYz:=act_at HY.out.2.1 HY.out.1 hOz
 unfold set7 at KZ hbz hYz hOz
 obtain ⟨c0',c1',c2',c3',c4',c5',c6'⟩:=box_cells KZ
 refine bodyPost_ret (v := .tuple #[y.val,.int .i64 EE]) (by simp [results,Tryz.results18,go_sem,St.val,c0',c1',c2',c3',c4',c5',c6']) rfl ?_
 exact ⟨y,by rw [HEQ.out];rfl,hYz,HY.out.2.1,fun h=>(hOz h).mono HLOW.out,hbz⟩
set_option maxRecDepth 100000 in
set_option maxHeartbeats 4000000 in
theorem Do_8 (p:Pl) (s:St) (x:Ax) (w:World) (hp:p.At w) (hs:s.At w) (hx:x.ls.At w) (hk:x.k=8) :
  Calls Tryz.prog 18 #[p.val,s.val,x.val] w fun e w'=>∃ y:St,e = .returned (.tuple #[y.val,.int .i64 (doE p s x)])∧y.At w'∧ActOK (doE p s x) (doT p s x) y∧(doE p s x=0→OwnS w.heap.size w' y)∧Below w.heap.size w w':=by
 have HKK:Hid (x.k=8):=hk
 obtain ⟨W0,hW,hWB,X0,XA,Z0⟩:∃ W,(((w.alloc (.cells #[.slice p.ab p.nb p.cb,.slice p.sa p.ns p.cs] 25)).alloc (.cells s.cells 31)).alloc (.cells x.cells 47)).alloc (.cells #[.slice .none 0 0,.slice .none 0 0,.slice .none 0 0,.slice .none 0 0,.slice .none 0 0,.slice .none 0 0,.slice .none 0 0] 31)=W∧Below w.heap.size w W∧Boxes W w.heap.size (w.heap.size+1) p s∧Blk W (w.heap.size+2) 47 6 (fun j=>x.cells.getD j default)∧Blk W (w.heap.size+3) 31 7 (fun _ => .slice .none 0 0) :=
  ⟨_,rfl,((two_below _ _ _).alloc (by simp;omega) _).alloc (by simp;omega) _,((boxes_new w p s _ _).below ((Below.refl _ _).alloc (Nat.le_refl _) _)).below ((Below.refl _ _).alloc (Nat.le_refl _) _),(Blk.mk' (cur:=x.cells) (by simp) rfl).alloc _,(Blk.mk' (cur:=#[.slice .none 0 0,.slice .none 0 0,.slice .none 0 0,.slice .none 0 0,.slice .none 0 0,.slice .none 0 0,.slice .none 0 0]) (by simp) rfl).congr (fun j hj=>by match j,hj with | 0,_=>rfl | 1,_=>rfl | 2,_=>rfl | 3,_=>rfl | 4,_=>rfl | 5,_=>rfl | 6,_=>rfl)⟩
 have HC:Hid (∀ wk,Below W0.heap.size W0 wk→Boxes wk w.heap.size (w.heap.size+1) p s∧p.At wk∧s.At wk∧Below w.heap.size w wk∧Blk wk (w.heap.size+3) 31 7 (fun _ => .slice .none 0 0)∧Blk wk (w.heap.size+2) 47 6 (fun j=>x.cells.getD j default)∧x.ls.At wk):=fun wk h=>⟨X0.below h,(hp.below hWB).below h,(hs.below hWB).below h,hWB.trans (h.mono hWB.size),Z0.below h,XA.below h,(hx.below hWB).below h⟩
 have HW:Hid ((((w.alloc (.cells #[.slice p.ab p.nb p.cb,.slice p.sa p.ns p.cs] 25)).alloc (.cells #[.slice s.on.a s.on.n s.on.c,.slice s.os.a s.os.n s.os.c,.slice s.hs.a s.hs.n s.hs.c,.slice s.ms.a s.ms.n s.ms.c,.slice s.si.a s.si.n s.si.c,.slice s.so.a s.so.n s.so.c,.slice s.sf.a s.sf.n s.sf.c] 31)).alloc (.cells #[.int .i64 x.k,.int .i64 x.a,.int .i64 x.b,.int .i64 x.c,.int .i64 x.n,.slice x.ls.a x.ls.n x.ls.c] 47)).alloc (.cells #[.slice .none 0 0,.slice .none 0 0,.slice .none 0 0,.slice .none 0 0,.slice .none 0 0,.slice .none 0 0,.slice .none 0 0] 31)=W0):=hW
 obtain ⟨⟨⟨l1,d0,d1⟩,l2,c0,c1,c2,c3,c4,c5,c6⟩,hpk,hsk,hBw,hz,hxk,hlk⟩:=HC.out W0 (Below.refl _ _)
 have HA0:Hid (p.At W0∧s.At W0∧x.ls.At W0):=⟨hpk,hsk,hlk⟩
 have HLOW:Hid (w.heap.size≤W0.heap.size):=hBw.size
 have x0:W0.cell? ⟨w.heap.size+2,0,none⟩=some (.int .i64 x.k):=hxk.cell (j:=0) (by decide)
 have x1:W0.cell? ⟨w.heap.size+2,1,none⟩=some (.int .i64 x.a):=hxk.cell (j:=1) (by decide)
 have x2:W0.cell? ⟨w.heap.size+2,2,none⟩=some (.int .i64 x.b):=hxk.cell (j:=2) (by decide)
 have x3:W0.cell? ⟨w.heap.size+2,3,none⟩=some (.int .i64 x.c):=hxk.cell (j:=3) (by decide)
 have x4:W0.cell? ⟨w.heap.size+2,4,none⟩=some (.int .i64 x.n):=hxk.cell (j:=4) (by decide)
 have x5:W0.cell? ⟨w.heap.size+2,5,none⟩=some (.slice x.ls.a x.ls.n x.ls.c):=hxk.cell (j:=5) (by decide)
 have x6:=hxk.lt
 have zl:=hz.lt
 have zf0:=hz.frozen 0
 have zc0:=hz.cell (j:=0) (by decide)
 have zf1:=hz.frozen 1
 have zc1:=hz.cell (j:=1) (by decide)
 have zf2:=hz.frozen 2
 have zc2:=hz.cell (j:=2) (by decide)
 have zf3:=hz.frozen 3
 have zc3:=hz.cell (j:=3) (by decide)
 have zf4:=hz.frozen 4
 have zc4:=hz.cell (j:=4) (by decide)
 have zf5:=hz.frozen 5
 have zc5:=hz.cell (j:=5) (by decide)
 have zf6:=hz.frozen 6
 have zc6:=hz.cell (j:=6) (by decide)
 rw [← HW.out] at l1 d0 d1 l2 c0 c1 c2 c3 c4 c5 c6 x0 x1 x2 x3 x4 x5 x6 zl zf0 zc0 zf1 zc1 zf2 zc2 zf3 zc3 zf4 zc4 zf5 zc5 zf6 zc6
 clear hW X0 XA Z0 hp hs hx hpk hsk hBw hz hxk hlk hWB
 unfold Pl.val St.val Ax.val Ax.cells
 go_enter Tryz.func18,Tryz.ntmps18
 obtain ⟨KK,hKK⟩:∃ KK,x.k=KK:=⟨_,rfl⟩
 have HK:Hid (x.k=KK):=hKK
 rw [hKK] at x0 HW ⊢
 clear hKK
 have hk8:KK=8:=HK.out.symm.trans hk
 have HE:Hid (doE p s x=countE p s x.a x.b x.n∧doT p s x=countT p s x.a.toNat x.b.toNat x.n):=by
  have hk:x.k=8:=HK.out.trans hk8
  refine ⟨?_,?_⟩
  ·show (if x.k=1 then _ else _)=_
   rw [hk]
   rfl
  ·show (if x.k=1 then _ else _)=_
   rw [hk]
   rfl
 have g1:(KK==1)=false:=by rw [hk8];rfl
 have g2:(KK==2)=false:=by rw [hk8];rfl
 have g3:(KK==3)=false:=by rw [hk8];rfl
 have g4:(KK==4)=false:=by rw [hk8];rfl
 have g5:(KK==5)=false:=by rw [hk8];rfl
 have g6:(KK==6)=false:=by rw [hk8];rfl
 have g7:(KK==7)=false:=by rw [hk8];rfl
 have g8:(KK==8)=true:=by rw [hk8];rfl
 clear hk8 hk
 go_wp2_with fail
 rw [HW.out]
 clear l1 d0 d1 l2 c0 c1 c2 c3 c4 c5 c6 x0 x1 x2 x3 x4 x5 x6 zl zf0 zc0 zf1 zc1 zf2 zc2 zf3 zc3 zf4 zc4 zf5 zc5 zf6 zc6
 refine Calls.mono (Count_any p s x.a x.b x.n W0 HA0.out.1 HA0.out.2.1) ?_
 rintro e w1 ⟨y,rfl,yat,yok,yown,hB⟩
 have HY:Hid (y.At w1∧ActOK (doE p s x) (doT p s x) y∧(doE p s x=0→OwnS W0.heap.size w1 y)):=by
  refine ⟨yat,?_,?_⟩
  ·rw [HE.out.1,HE.out.2];exact yok
  ·rw [HE.out.1];exact yown
 have HEE:Hid (doE p s x=countE p s x.a x.b x.n):=HE.out.1
 rw [← HEE.out]
 obtain ⟨-,-,-,hBw,hz,-,-⟩:=HC.out w1 hB
 clear HE HEE yat yok yown HA0 HW g1 g2 g3 g4 g5 g6 g7 g8
 obtain ⟨EE,hEE⟩:∃ EE,doE p s x=EE:=⟨_,rfl⟩
 have HEQ:Hid (doE p s x=EE):=hEE
 rw [hEE]
 clear hEE
 have zl:=hz.lt
 have zf0:=hz.frozen 0
 have zc0:=hz.cell (j:=0) (by decide)
 have zf1:=hz.frozen 1
 have zc1:=hz.cell (j:=1) (by decide)
 have zf2:=hz.frozen 2
 have zc2:=hz.cell (j:=2) (by decide)
 have zf3:=hz.frozen 3
 have zc3:=hz.cell (j:=3) (by decide)
 have zf4:=hz.frozen 4
 have zc4:=hz.cell (j:=4) (by decide)
 have zf5:=hz.frozen 5
 have zc5:=hz.cell (j:=5) (by decide)
 have zf6:=hz.frozen 6
 have zc6:=hz.cell (j:=6) (by decide)
 simp only [St.val]
 go_wp2_with fail
 have KZ:=set7_blk hz (.slice y.on.a y.on.n y.on.c) (.slice y.os.a y.os.n y.os.c) (.slice y.hs.a y.hs.n y.hs.c) (.slice y.ms.a y.ms.n y.ms.c) (.slice y.si.a y.si.n y.si.c) (.slice y.so.a y.so.n y.so.c) (.slice y.sf.a y.sf.n y.sf.c)
 have hbz:=set7_below (b:=w.heap.size+3) hBw (by omega) (.slice y.on.a y.on.n y.on.c) (.slice y.os.a y.os.n y.os.c) (.slice y.hs.a y.hs.n y.hs.c) (.slice y.ms.a y.ms.n y.ms.c) (.slice y.si.a y.si.n y.si.c) (.slice y.so.a y.so.n y.so.c) (.slice y.sf.a y.sf.n y.sf.c)
 have hOz:=fun h=>OwnS.set7 (HY.out.2.2 h) hz (.slice y.on.a y.on.n y.on.c) (.slice y.os.a y.os.n y.os.c) (.slice y.hs.a y.hs.n y.hs.c) (.slice y.ms.a y.ms.n y.ms.c) (.slice y.si.a y.si.n y.si.c) (.slice y.so.a y.so.n y.so.c) (.slice y.sf.a y.sf.n y.sf.c)
 have hYz:=act_at HY.out.2.1 HY.out.1 hOz
 unfold set7 at KZ hbz hYz hOz
 obtain ⟨c0',c1',c2',c3',c4',c5',c6'⟩:=box_cells KZ
 refine bodyPost_ret (v := .tuple #[y.val,.int .i64 EE]) (by simp [results,Tryz.results18,go_sem,St.val,c0',c1',c2',c3',c4',c5',c6']) rfl ?_
 exact ⟨y,by rw [HEQ.out];rfl,hYz,HY.out.2.1,fun h=>(hOz h).mono HLOW.out,hbz⟩
set_option maxRecDepth 100000 in
set_option maxHeartbeats 4000000 in
theorem Do_0 (p:Pl) (s:St) (x:Ax) (w:World) (hp:p.At w) (hs:s.At w) (hx:x.ls.At w) (hn1:¬ x.k=1) (hn2:¬ x.k=2) (hn3:¬ x.k=3) (hn4:¬ x.k=4) (hn5:¬ x.k=5) (hn6:¬ x.k=6) (hn7:¬ x.k=7) (hn8:¬ x.k=8) :
  Calls Tryz.prog 18 #[p.val,s.val,x.val] w fun e w'=>∃ y:St,e = .returned (.tuple #[y.val,.int .i64 (doE p s x)])∧y.At w'∧ActOK (doE p s x) (doT p s x) y∧(doE p s x=0→OwnS w.heap.size w' y)∧Below w.heap.size w w':=by
 obtain ⟨W0,hW,hWB,X0,XA,Z0⟩:∃ W,(((w.alloc (.cells #[.slice p.ab p.nb p.cb,.slice p.sa p.ns p.cs] 25)).alloc (.cells s.cells 31)).alloc (.cells x.cells 47)).alloc (.cells #[.slice .none 0 0,.slice .none 0 0,.slice .none 0 0,.slice .none 0 0,.slice .none 0 0,.slice .none 0 0,.slice .none 0 0] 31)=W∧Below w.heap.size w W∧Boxes W w.heap.size (w.heap.size+1) p s∧Blk W (w.heap.size+2) 47 6 (fun j=>x.cells.getD j default)∧Blk W (w.heap.size+3) 31 7 (fun _ => .slice .none 0 0) :=
  ⟨_,rfl,((two_below _ _ _).alloc (by simp;omega) _).alloc (by simp;omega) _,((boxes_new w p s _ _).below ((Below.refl _ _).alloc (Nat.le_refl _) _)).below ((Below.refl _ _).alloc (Nat.le_refl _) _),(Blk.mk' (cur:=x.cells) (by simp) rfl).alloc _,(Blk.mk' (cur:=#[.slice .none 0 0,.slice .none 0 0,.slice .none 0 0,.slice .none 0 0,.slice .none 0 0,.slice .none 0 0,.slice .none 0 0]) (by simp) rfl).congr (fun j hj=>by match j,hj with | 0,_=>rfl | 1,_=>rfl | 2,_=>rfl | 3,_=>rfl | 4,_=>rfl | 5,_=>rfl | 6,_=>rfl)⟩
 have HC:Hid (∀ wk,Below W0.heap.size W0 wk→Boxes wk w.heap.size (w.heap.size+1) p s∧p.At wk∧s.At wk∧Below w.heap.size w wk∧Blk wk (w.heap.size+3) 31 7 (fun _ => .slice .none 0 0)∧Blk wk (w.heap.size+2) 47 6 (fun j=>x.cells.getD j default)∧x.ls.At wk):=fun wk h=>⟨X0.below h,(hp.below hWB).below h,(hs.below hWB).below h,hWB.trans (h.mono hWB.size),Z0.below h,XA.below h,(hx.below hWB).below h⟩
 have HW:Hid ((((w.alloc (.cells #[.slice p.ab p.nb p.cb,.slice p.sa p.ns p.cs] 25)).alloc (.cells #[.slice s.on.a s.on.n s.on.c,.slice s.os.a s.os.n s.os.c,.slice s.hs.a s.hs.n s.hs.c,.slice s.ms.a s.ms.n s.ms.c,.slice s.si.a s.si.n s.si.c,.slice s.so.a s.so.n s.so.c,.slice s.sf.a s.sf.n s.sf.c] 31)).alloc (.cells #[.int .i64 x.k,.int .i64 x.a,.int .i64 x.b,.int .i64 x.c,.int .i64 x.n,.slice x.ls.a x.ls.n x.ls.c] 47)).alloc (.cells #[.slice .none 0 0,.slice .none 0 0,.slice .none 0 0,.slice .none 0 0,.slice .none 0 0,.slice .none 0 0,.slice .none 0 0] 31)=W0):=hW
 obtain ⟨⟨⟨l1,d0,d1⟩,l2,c0,c1,c2,c3,c4,c5,c6⟩,hpk,hsk,hBw,hz,hxk,hlk⟩:=HC.out W0 (Below.refl _ _)
 have HA0:Hid (p.At W0∧s.At W0∧x.ls.At W0):=⟨hpk,hsk,hlk⟩
 have HLOW:Hid (w.heap.size≤W0.heap.size):=hBw.size
 have x0:W0.cell? ⟨w.heap.size+2,0,none⟩=some (.int .i64 x.k):=hxk.cell (j:=0) (by decide)
 have x1:W0.cell? ⟨w.heap.size+2,1,none⟩=some (.int .i64 x.a):=hxk.cell (j:=1) (by decide)
 have x2:W0.cell? ⟨w.heap.size+2,2,none⟩=some (.int .i64 x.b):=hxk.cell (j:=2) (by decide)
 have x3:W0.cell? ⟨w.heap.size+2,3,none⟩=some (.int .i64 x.c):=hxk.cell (j:=3) (by decide)
 have x4:W0.cell? ⟨w.heap.size+2,4,none⟩=some (.int .i64 x.n):=hxk.cell (j:=4) (by decide)
 have x5:W0.cell? ⟨w.heap.size+2,5,none⟩=some (.slice x.ls.a x.ls.n x.ls.c):=hxk.cell (j:=5) (by decide)
 have x6:=hxk.lt
 have zl:=hz.lt
 have zf0:=hz.frozen 0
 have zc0:=hz.cell (j:=0) (by decide)
 have zf1:=hz.frozen 1
 have zc1:=hz.cell (j:=1) (by decide)
 have zf2:=hz.frozen 2
 have zc2:=hz.cell (j:=2) (by decide)
 have zf3:=hz.frozen 3
 have zc3:=hz.cell (j:=3) (by decide)
 have zf4:=hz.frozen 4
 have zc4:=hz.cell (j:=4) (by decide)
 have zf5:=hz.frozen 5
 have zc5:=hz.cell (j:=5) (by decide)
 have zf6:=hz.frozen 6
 have zc6:=hz.cell (j:=6) (by decide)
 rw [← HW.out] at l1 d0 d1 l2 c0 c1 c2 c3 c4 c5 c6 x0 x1 x2 x3 x4 x5 x6 zl zf0 zc0 zf1 zc1 zf2 zc2 zf3 zc3 zf4 zc4 zf5 zc5 zf6 zc6
 clear hW X0 XA Z0 hp hs hx hpk hsk hBw hz hxk hlk hWB
 unfold Pl.val St.val Ax.val Ax.cells
 go_enter Tryz.func18,Tryz.ntmps18
 obtain ⟨KK,hKK⟩:∃ KK,x.k=KK:=⟨_,rfl⟩
 have HK:Hid (x.k=KK):=hKK
 rw [hKK] at x0 HW ⊢
 clear hKK
 have n1:¬ KK=1:=by rw [← HK.out];exact hn1
 have n2:¬ KK=2:=by rw [← HK.out];exact hn2
 have n3:¬ KK=3:=by rw [← HK.out];exact hn3
 have n4:¬ KK=4:=by rw [← HK.out];exact hn4
 have n5:¬ KK=5:=by rw [← HK.out];exact hn5
 have n6:¬ KK=6:=by rw [← HK.out];exact hn6
 have n7:¬ KK=7:=by rw [← HK.out];exact hn7
 have n8:¬ KK=8:=by rw [← HK.out];exact hn8
 have HE:Hid (doE p s x=8):=by
  show (if x.k=1 then _ else _)=_
  rw [HK.out,if_neg n1,if_neg n2,if_neg n3,if_neg n4,if_neg n5,if_neg n6,if_neg n7,if_neg n8]
 have g1:(KK==1)=false:=by simpa using n1
 have g2:(KK==2)=false:=by simpa using n2
 have g3:(KK==3)=false:=by simpa using n3
 have g4:(KK==4)=false:=by simpa using n4
 have g5:(KK==5)=false:=by simpa using n5
 have g6:(KK==6)=false:=by simpa using n6
 have g7:(KK==7)=false:=by simpa using n7
 have g8:(KK==8)=false:=by simpa using n8
 clear n1 n2 n3 n4 n5 n6 n7 n8
 have hfin:=(HC.out W0 (Below.refl _ _)).2.2.2.1
 rw [← HW.out] at hfin
 go_wp2_with fail
 refine bodyPost_ret (v := .tuple #[noneS.val,.int .i64 8]) (by simp [results,Tryz.results18,go_sem,noneS,St.val]) rfl ?_
 exact ⟨noneS,by rw [HE.out];rfl,noneS_at _,⟨fun h=>absurd h (by rw [HE.out];decide),fun _=>⟨rfl,rfl,rfl,rfl,rfl,rfl,rfl⟩⟩,fun h=>absurd h (by rw [HE.out];decide),hfin⟩
theorem Do_any (p:Pl) (s:St) (x:Ax) (w:World) (hp:p.At w) (hs:s.At w) (hx:x.ls.At w) :
  Calls Tryz.prog 18 #[p.val,s.val,x.val] w fun e w'=>∃ y:St,e = .returned (.tuple #[y.val,.int .i64 (doE p s x)])∧y.At w'∧ActOK (doE p s x) (doT p s x) y∧(doE p s x=0→OwnS w.heap.size w' y)∧Below w.heap.size w w':=by
 by_cases k1:x.k=1
 ·exact Do_1 p s x w hp hs hx k1
 by_cases k2:x.k=2
 ·exact Do_2 p s x w hp hs hx k2
 by_cases k3:x.k=3
 ·exact Do_3 p s x w hp hs hx k3
 by_cases k4:x.k=4
 ·exact Do_4 p s x w hp hs hx k4
 by_cases k5:x.k=5
 ·exact Do_5 p s x w hp hs hx k5
 by_cases k6:x.k=6
 ·exact Do_6 p s x w hp hs hx k6
 by_cases k7:x.k=7
 ·exact Do_7 p s x w hp hs hx k7
 by_cases k8:x.k=8
 ·exact Do_8 p s x w hp hs hx k8
 exact Do_0 p s x w hp hs hx k1 k2 k3 k4 k5 k6 k7 k8
def High (A:Nat) (w w2:World):Prop:=∀ g,A≤g→g<w.heap.size→w2.heap[g]?=w.heap[g]?
theorem Blk.high {A g n:Nat} {w w2:World} {e:TypeId} {f:Nat→Value} (h:Blk w g e n f) (k:High A w w2) (hg:A≤g):Blk w2 g e n f:=h.same (k g hg h.lt)
theorem OwnI.high {A:Nat} {w w2:World} {r:Rw} (h:OwnI A w r) (k:High A w w2):OwnI A w2 r:=by
 obtain ⟨g,ha,h0,h1,h2,hb⟩:=h
 exact ⟨g,ha,h0,h1,h2,hb.high k h0⟩
theorem OwnH.high {A:Nat} {e:TypeId} {w w2:World} {s:Hs} (h:OwnH A e w s) (k:High A w w2):OwnH A e w2 s:=by
 obtain ⟨h1,h2,h3,h4⟩:=h
 refine ⟨h1,h2,h3,fun hn => ?_⟩
 obtain ⟨g,ha,hA,hb⟩:=h4 hn
 exact ⟨g,ha,hA,hb.high k hA⟩
theorem Room.high {A:Nat} {w w2:World} {e:TypeId} {size:Nat} {a:Option Addr} {c:Nat} (h:Room A w e size a c) (k:High A w w2):Room A w2 e size a c:=by
 rcases h with h | ⟨g,cur,ha,hA,hg,hs⟩
 ·exact Or.inl h
 ·exact Or.inr ⟨g,cur,ha,hA,(k g hA (Array.getElem?_eq_some_iff.1 hg).1).trans hg,hs⟩
theorem OwnO.high {A:Nat} {w w2:World} {s:Os} (h:OwnO A w s) (k:High A w w2):OwnO A w2 s:=by
 refine ⟨h.le,h.cap,fun hn => ?_,fun i hi => ?_,h.apart,h.room.high k⟩
 ·obtain ⟨g,a,b,c⟩:=h.list hn
  exact ⟨g,a,b,c.high k b⟩
 ·obtain ⟨C,a,b,c,d,e⟩:=h.lines i hi
  exact ⟨C,a,b,c,d,e.high k b⟩
theorem OwnS.high {A:Nat} {w w2:World} {s:St} (h:OwnS A w s) (k:High A w w2):OwnS A w2 s:=by
 refine ⟨?_,fun i hi=>(h.rows i hi).high k,h.rapart,h.os.high k,h.hs.high k,h.ms.high k,h.msr.high k,h.si.high k,h.so.high k,h.sf.high k,h.aio,h.aif,h.aof,h.ari⟩
 obtain ⟨g,ha,h0,h1,h2,hb⟩:=h.on
 exact ⟨g,ha,h0,h1,h2,hb.high k h0⟩
theorem OwnS.fr {A:Nat} {w:World} {s:St} (h:OwnS A w s):Fr A w s:=fun _ _ k=>(h.high k).at
theorem Fr.set7 {n:Nat} {w:World} {s:St} (h:Fr n w s) {b:Nat} (hb:b<n) (v0 v1 v2 v3 v4 v5 v6:Value):Fr n (Go.Proofs.YtbcacebifpagpagGreat.set7 w b v0 v1 v2 v3 v4 v5 v6) s :=
 ((((((h.set hb 0 v0).set hb 1 v1).set hb 2 v2).set hb 3 v3).set hb 4 v4).set hb 5 v5).set hb 6 v6
theorem begun_sameF {p:Pl} {s t:St} (a:BegunS p s) (b:BegunS p t):SameT s t:=by
 obtain ⟨a1,a2,a3,a4,a5,a6,a7,a8⟩:=a
 obtain ⟨b1,b2,b3,b4,b5,b6,b7,b8⟩:=b
 refine ⟨⟨by omega,fun i hi => ?_⟩,⟨by omega,fun i hi=>absurd hi (by omega)⟩,⟨by omega,fun j hj=>absurd hj (by omega)⟩,⟨by omega,fun j hj=>absurd hj (by omega)⟩,⟨by omega,fun j hj => ?_⟩,⟨by omega,fun j hj => ?_⟩,⟨by omega,fun j hj => ?_⟩⟩
 ·have x:=a2 i (by omega)
  have y:=b2 i (by omega)
  exact ⟨by omega,fun j hj=>by rw [x.2 j (by omega),y.2 j (by omega)]⟩
 ·rw [a6.2 j (by omega),b6.2 j (by omega)]
 ·rw [a7.2 j (by omega),b7.2 j (by omega)]
 ·rw [a8.2 j (by omega),b8.2 j (by omega)]
set_option maxRecDepth 100000 in
set_option maxHeartbeats 4000000 in
theorem Begin_fr (p:Pl) (w:World) (hp:p.At w) :
  Calls Tryz.prog 22 #[p.val] w fun e w'=>∃ s:St,e = .returned (.tuple #[s.val,.int .i64 (planE p)])∧Fr w.heap.size w' s∧BeginOK p s∧Below w.heap.size w w':=by
 have capb:=hp.capb
 have leb:=hp.leb
 unfold maxLen at capb
 obtain ⟨W0,hW,hWB,X0,Z0⟩:∃ W,((w.alloc (.cells #[.slice p.ab p.nb p.cb,.slice p.sa p.ns p.cs] 25)).alloc (.cells #[.slice .none 0 0,.slice .none 0 0,.slice .none 0 0,.slice .none 0 0,.slice .none 0 0,.slice .none 0 0,.slice .none 0 0] 31))=W∧Below w.heap.size w W∧Blk W w.heap.size 25 2 (fun j=>(#[.slice p.ab p.nb p.cb,.slice p.sa p.ns p.cs]:Array Value).getD j default)∧Blk W (w.heap.size+1) 31 7 (fun _ => .slice .none 0 0) :=
  ⟨_,rfl,two_below _ _ _,(Blk.mk' rfl rfl).alloc _,(Blk.mk' (cur:=#[.slice .none 0 0,.slice .none 0 0,.slice .none 0 0,.slice .none 0 0,.slice .none 0 0,.slice .none 0 0,.slice .none 0 0]) (by simp) rfl).congr (fun j hj=>by match j,hj with | 0,_=>rfl | 1,_=>rfl | 2,_=>rfl | 3,_=>rfl | 4,_=>rfl | 5,_=>rfl | 6,_=>rfl)⟩
 have HW:Hid ((w.alloc (.cells #[.slice p.ab p.nb p.cb,.slice p.sa p.ns p.cs] 25)).alloc (.cells #[.slice .none 0 0,.slice .none 0 0,.slice .none 0 0,.slice .none 0 0,.slice .none 0 0,.slice .none 0 0,.slice .none 0 0] 31)=W0):=hW
 clear hW
 unfold Pl.val
 go_enter Tryz.func22,Tryz.ntmps22
 go_wp2_with fail
 rw [HW.out]
 refine (planCheck_any p W0 (hp.below hWB)).mono ?_
 rintro e w1 ⟨rfl,hB1⟩
 have X1:=X0.below hB1
 have Z1:=Z0.below hB1
 have hC1:=hWB.trans (hB1.mono hWB.size)
 clear X0 Z0 hB1
 by_cases h0:planE p=0
 ·have R:=rightP h0
  have hns3:=R.ns3
  have hnb6:=R.nb6
  have hns1:=R.ns1
  have H0:Hid (planE p=0):=h0
  rw [h0]
  clear h0 R
  obtain ⟨i0,hi,hz0,hz1,hz2⟩:=info_parts infoS2
  have d0:w1.cell? ⟨w.heap.size,0,none⟩=some (.slice p.ab p.nb p.cb):=X1.cell (j:=0) (by decide)
  have l1:=X1.lt
  go_wp2_with (at_make;refine wpList_make_full _ rfl _ _ 26 rfl w1.heap.size 23 i0 (.slice .none 0 0) 1 Tryz.underlying26 hi hz0 hz1 .i64 .i64 _ _ p.nb rfl rfl rfl rfl (by rw [hz2];omega) (by unfold maxLen;omega) (Nat.le_refl _) ?_;intro w2 hown hgrow)
  obtain ⟨g,c',hv,_,_,_,hblk⟩:=Blk.ofOwns hown (by simp)
  simp only [Value.slice.injEq,Option.some.injEq,Addr.mk.injEq,and_true] at hv
  obtain ⟨rfl,-,-⟩:=hv
  rw [Nat.mul_one] at hblk
  have hB2:Below w1.heap.size w1 w2:=(Below.refl _ w1).grown hgrow (Nat.le_refl _) (by intro k hk;cases hk)
  clear hown hgrow d0
  have eg:=enters_of Tryz.func62 (by kernel_rfl) rfl
  go_loopw [21] (fun i wk=>∃ k:Nat,k≤p.nb∧i = .int .i64 k∧(∃ (G:Nat→Nat),Blk wk w1.heap.size 23 p.nb (fun i=>if i<k then .slice (some ⟨G i,0,none⟩) p.ns p.ns else .slice none 0 0)∧(∀ i,i<k→w1.heap.size<G i∧Blk wk (G i) 3 p.ns (fun _ => .int .i64 0)))∧Below w1.heap.size w1 wk) (fun i _=>p.nb - (intOf i).toNat)
  case atStart=>exact ⟨0,Nat.zero_le _,rfl,⟨fun _=>0,hblk.congr (fun j hj=>by rw [madeS hj];simp),fun i hi=>absurd hi (Nat.not_lt_zero _)⟩,hB2⟩
  case round =>
   clear hblk hB2
   obtain ⟨k,hk,rfl,hgs,hB⟩:=hrel
   have X2:=X1.below hB
   have hl:=X2.lt
   by_cases hlt:k<p.nb
   ·have HG:Hid (∃ (G:Nat→Nat),Blk wr w1.heap.size 23 p.nb (fun i=>if i<k then .slice (some ⟨G i,0,none⟩) p.ns p.ns else .slice none 0 0)∧(∀ i,i<k→w1.heap.size<G i∧Blk wr (G i) 3 p.ns (fun _ => .int .i64 0))):=hgs
    clear hgs
    have m1:(0:Int)≤(k:Int):=by omega
    go_wp2_with fail
    refine (Begin1_any w.heap.size p wr hns3 hl (X2.cell (j:=1) (by decide))).mono ?_
    rintro e w3 ⟨rfl,hbk,hB3⟩
    obtain ⟨G,gb,gr⟩:=HG.out
    have hb0:=gb.lt
    have gb2:=gb.below hB3
    have hf0:=gb2.frozen k
    have hc0:=gb2.cell hlt
    simp only [Nat.lt_irrefl,if_false] at hc0
    have hB4:=hB.trans (hB3.mono hB.size)
    have st:=hB4.setCell (p:=⟨w1.heap.size,k,none⟩) (Nat.le_refl _) (.slice (some ⟨wr.heap.size,0,none⟩) p.ns p.ns)
    have KB:=gb2.set k (.slice (some ⟨wr.heap.size,0,none⟩) p.ns p.ns)
    have KO:∀ i,i<k→Blk (w3.setCell ⟨w1.heap.size,k,none⟩ (.slice (some ⟨wr.heap.size,0,none⟩) p.ns p.ns)) (G i) 3 p.ns (fun _ => .int .i64 0):=fun i hi=>((gr i hi).2.below hB3).other (by have:=(gr i hi).1;show _≠w1.heap.size;omega) _
    have KN:Blk (w3.setCell ⟨w1.heap.size,k,none⟩ (.slice (some ⟨wr.heap.size,0,none⟩) p.ns p.ns)) wr.heap.size 3 p.ns (fun _ => .int .i64 0):=hbk.other (by show _≠w1.heap.size;omega) _
    have HH:Hid _:=And.intro KB (And.intro KO (And.intro KN gr))
    clear KB KO KN gb gb2 gr hbk X2 HG
    go_wp2_with fail
    go_roundw
    case rel =>
     obtain ⟨KB,KO,KN,gr⟩:=HH.out
     refine ⟨k+1,by omega,by go_num,⟨fun i=>if i=k then wr.heap.size else G i,KB.congr ?_,?_⟩,st⟩
     ·intro j hj
      by_cases hjk:j=k
      ·subst hjk;simp
      ·by_cases h2:j<k
       ·simp [hjk,h2,show j<k+1 by omega]
       ·simp [hjk,h2,show ¬ j<k+1 by omega]
     ·intro j hj
      by_cases hjk:j=k
      ·subst hjk;simp only [if_true];exact ⟨by omega,KN⟩
      ·simp only [if_neg hjk];exact ⟨(gr j (by omega)).1,KO j (by omega)⟩
    case measure=>simp [intOf];omega
   ·have hkn:k=p.nb:=by omega
    subst hkn
    have HG:Hid (∃ (G:Nat→Nat),Blk wr w1.heap.size 23 p.nb (fun i=>if i<p.nb then .slice (some ⟨G i,0,none⟩) p.ns p.ns else .slice none 0 0)∧(∀ i,i<p.nb→w1.heap.size<G i∧Blk wr (G i) 3 p.ns (fun _ => .int .i64 0))):=hgs
    clear hgs
    go_wp2_with fail
    refine (Begin1_any w.heap.size p wr hns3 hl (X2.cell (j:=1) (by decide))).mono ?_
    rintro e w3 ⟨rfl,k3,hB3⟩
    have hB4:=hB.trans (hB3.mono hB.size)
    go_wp2_with fail
    refine (Begin1_any w.heap.size p w3 hns3 (X1.below hB4).lt ((X1.below hB4).cell (j:=1) (by decide))).mono ?_
    rintro e w4 ⟨rfl,k4,hB5⟩
    have hB6:=hB4.trans (hB5.mono hB4.size)
    go_wp2_with fail
    refine (Begin1_any w.heap.size p w4 hns3 (X1.below hB6).lt ((X1.below hB6).cell (j:=1) (by decide))).mono ?_
    rintro e w5 ⟨rfl,k5,hB7⟩
    have hB8:=hB6.trans (hB7.mono hB6.size)
    have Z5:=Z1.below hB8
    have zl:=Z5.lt
    have zf0:=Z5.frozen 0
    have zc0:=Z5.cell (j:=0) (by decide)
    have zf1:=Z5.frozen 1
    have zc1:=Z5.cell (j:=1) (by decide)
    have zf2:=Z5.frozen 2
    have zc2:=Z5.cell (j:=2) (by decide)
    have zf3:=Z5.frozen 3
    have zc3:=Z5.cell (j:=3) (by decide)
    have zf4:=Z5.frozen 4
    have zc4:=Z5.cell (j:=4) (by decide)
    have zf5:=Z5.frozen 5
    have zc5:=Z5.cell (j:=5) (by decide)
    have zf6:=Z5.frozen 6
    have zc6:=Z5.cell (j:=6) (by decide)
    go_wp2_with fail
    have KZ:=set7_blk Z5 (.slice (some ⟨w1.heap.size,0,none⟩) p.nb p.nb) (.slice .none 0 0) (.slice .none 0 0) (.slice .none 0 0) (.slice (some ⟨wr.heap.size,0,none⟩) p.ns p.ns) (.slice (some ⟨w3.heap.size,0,none⟩) p.ns p.ns) (.slice (some ⟨w4.heap.size,0,none⟩) p.ns p.ns)
    obtain ⟨G,gb,gr⟩:=HG.out
    have hd35:=hB5.trans (hB7.mono hB5.size)
    have hdr5:=hB3.trans (hd35.mono hB3.size)
    have s1:=Z1.lt
    have sr:=hB.size
    have s3:=hB3.size
    have s4:=hB5.size
    have kon:=set7_other (b:=w.heap.size+1) (gb.below hdr5) (by omega) (.slice (some ⟨w1.heap.size,0,none⟩) p.nb p.nb) (.slice .none 0 0) (.slice .none 0 0) (.slice .none 0 0) (.slice (some ⟨wr.heap.size,0,none⟩) p.ns p.ns) (.slice (some ⟨w3.heap.size,0,none⟩) p.ns p.ns) (.slice (some ⟨w4.heap.size,0,none⟩) p.ns p.ns)
    have krw:=fun i (hi:i<p.nb)=>set7_other (b:=w.heap.size+1) ((gr i hi).2.below hdr5) (by have:=(gr i hi).1;omega) (.slice (some ⟨w1.heap.size,0,none⟩) p.nb p.nb) (.slice .none 0 0) (.slice .none 0 0) (.slice .none 0 0) (.slice (some ⟨wr.heap.size,0,none⟩) p.ns p.ns) (.slice (some ⟨w3.heap.size,0,none⟩) p.ns p.ns) (.slice (some ⟨w4.heap.size,0,none⟩) p.ns p.ns)
    have k3':=set7_other (b:=w.heap.size+1) (k3.below hd35) (by omega) (.slice (some ⟨w1.heap.size,0,none⟩) p.nb p.nb) (.slice .none 0 0) (.slice .none 0 0) (.slice .none 0 0) (.slice (some ⟨wr.heap.size,0,none⟩) p.ns p.ns) (.slice (some ⟨w3.heap.size,0,none⟩) p.ns p.ns) (.slice (some ⟨w4.heap.size,0,none⟩) p.ns p.ns)
    have k4':=set7_other (b:=w.heap.size+1) (k4.below hB7) (by omega) (.slice (some ⟨w1.heap.size,0,none⟩) p.nb p.nb) (.slice .none 0 0) (.slice .none 0 0) (.slice .none 0 0) (.slice (some ⟨wr.heap.size,0,none⟩) p.ns p.ns) (.slice (some ⟨w3.heap.size,0,none⟩) p.ns p.ns) (.slice (some ⟨w4.heap.size,0,none⟩) p.ns p.ns)
    have k5':=set7_other (b:=w.heap.size+1) k5 (by omega) (.slice (some ⟨w1.heap.size,0,none⟩) p.nb p.nb) (.slice .none 0 0) (.slice .none 0 0) (.slice .none 0 0) (.slice (some ⟨wr.heap.size,0,none⟩) p.ns p.ns) (.slice (some ⟨w3.heap.size,0,none⟩) p.ns p.ns) (.slice (some ⟨w4.heap.size,0,none⟩) p.ns p.ns)
    have hbz:=set7_below (b:=w.heap.size+1) (hC1.trans (hB8.mono hC1.size)) (by omega) (.slice (some ⟨w1.heap.size,0,none⟩) p.nb p.nb) (.slice .none 0 0) (.slice .none 0 0) (.slice .none 0 0) (.slice (some ⟨wr.heap.size,0,none⟩) p.ns p.ns) (.slice (some ⟨w3.heap.size,0,none⟩) p.ns p.ns) (.slice (some ⟨w4.heap.size,0,none⟩) p.ns p.ns)
    unfold set7 at KZ kon krw k3' k4' k5' hbz
    generalize (((((((w5.setCell { block:=w.heap.size+1,off:=0 } (Value.slice (some { block:=w1.heap.size,off:=0 }) p.nb p.nb)).setCell { block:=w.heap.size+1,off:=1 } (Value.slice none 0 0)).setCell { block:=w.heap.size+1,off:=2 } (Value.slice none 0 0)).setCell { block:=w.heap.size+1,off:=3 } (Value.slice none 0 0)).setCell { block:=w.heap.size+1,off:=4 } (Value.slice (some { block:=wr.heap.size,off:=0 }) p.ns p.ns)).setCell { block:=w.heap.size+1,off:=5 } (Value.slice (some { block:=w3.heap.size,off:=0 }) p.ns p.ns)).setCell { block:=w.heap.size+1,off:=6 } (Value.slice (some { block:=w4.heap.size,off:=0 }) p.ns p.ns))=WZ at *
    obtain ⟨c0,c1,c2,c3,c4,c5,c6⟩:=box_cells KZ
    refine bodyPost_ret (v := .tuple #[(⟨⟨some ⟨w1.heap.size,0,none⟩,p.nb,p.nb,fun i=>⟨some ⟨G i,0,none⟩,p.ns,p.ns,fun _=>0⟩⟩,⟨none,0,0,fun _=>⟨0,⟨none,0,0,fun _=>⟨0,0,0,0⟩⟩⟩⟩,⟨none,0,0,fun _=>⟨0,0,0,0⟩⟩,⟨none,0,0,fun _=>⟨0,0,0,0⟩⟩,⟨some ⟨wr.heap.size,0,none⟩,p.ns,p.ns,fun _=>0⟩,⟨some ⟨w3.heap.size,0,none⟩,p.ns,p.ns,fun _=>0⟩,⟨some ⟨w4.heap.size,0,none⟩,p.ns,p.ns,fun _=>0⟩⟩:St).val,.int .i64 0]) (by simp [results,Tryz.results22,go_sem,St.val,c0,c1,c2,c3,c4,c5,c6]) rfl ?_
    refine ⟨_,by rw [H0.out],fun w'' hz hs=>⟨⟨Nat.le_refl _,by show p.nb≤maxLen;unfold maxLen;omega,fun i hi => ?_⟩,⟨Nat.le_refl _,Nat.zero_le _,fun i hi=>absurd hi (Nat.not_lt_zero _)⟩,Hs.none _,Hs.none _,zeroRw (k3'.same (hs _ (by omega) k3'.lt)) hns3,zeroRw (k4'.same (hs _ (by omega) k4'.lt)) hns3,zeroRw (k5'.same (hs _ (by omega) k5'.lt)) hns3⟩,⟨fun _=>⟨rfl,fun i hi=>⟨rfl,fun j hj=>rfl⟩,rfl,rfl,rfl,⟨rfl,fun j hj=>rfl⟩,⟨rfl,fun j hj=>rfl⟩,⟨rfl,fun j hj=>rfl⟩⟩,fun h=>absurd H0.out h⟩,hbz⟩
    have hi':i<p.nb:=hi
    have kon2:=kon.same (hs _ (by omega) kon.lt)
    refine ⟨w1.heap.size,0,rfl,kon2.lt,?_,zeroRw ((krw i hi').same (hs _ (by have:=(gr i hi').1;omega) (krw i hi').lt)) hns3⟩
    have:=kon2.cell hi'
    rw [if_pos hi'] at this
    rw [Nat.zero_add]
    exact this
 ·have zl:=Z1.lt
  have zf0:=Z1.frozen 0
  have zc0:=Z1.cell (j:=0) (by decide)
  have zf1:=Z1.frozen 1
  have zc1:=Z1.cell (j:=1) (by decide)
  have zf2:=Z1.frozen 2
  have zc2:=Z1.cell (j:=2) (by decide)
  have zf3:=Z1.frozen 3
  have zc3:=Z1.cell (j:=3) (by decide)
  have zf4:=Z1.frozen 4
  have zc4:=Z1.cell (j:=4) (by decide)
  have zf5:=Z1.frozen 5
  have zc5:=Z1.cell (j:=5) (by decide)
  have zf6:=Z1.frozen 6
  have zc6:=Z1.cell (j:=6) (by decide)
  go_wp2_with fail
  have KZ:=set7_blk Z1 (.slice .none 0 0) (.slice .none 0 0) (.slice .none 0 0) (.slice .none 0 0) (.slice .none 0 0) (.slice .none 0 0) (.slice .none 0 0)
  have hbz:=set7_below (b:=w.heap.size+1) hC1 (by omega) (.slice .none 0 0) (.slice .none 0 0) (.slice .none 0 0) (.slice .none 0 0) (.slice .none 0 0) (.slice .none 0 0) (.slice .none 0 0)
  unfold set7 at KZ hbz
  obtain ⟨c0,c1,c2,c3,c4,c5,c6⟩:=box_cells KZ
  refine bodyPost_ret (v := .tuple #[noneS.val,.int .i64 (planE p)]) (by simp [results,Tryz.results22,go_sem,noneS,St.val,c0,c1,c2,c3,c4,c5,c6]) rfl ?_
  exact ⟨noneS,rfl,fun w'' _ _=>noneS_at _,⟨fun h=>absurd h h0,fun _=>⟨rfl,rfl,rfl,rfl,rfl,rfl,rfl⟩⟩,hbz⟩
def recE (p:Pl) (t:List UInt8):Int:=if planE p=0 then repE t else planE p
def recN (p:Pl) (t:List UInt8):Nat:=if recE p t=0 then (repL t).length else 0
def RecOK (p:Pl) (t:List UInt8) (y:St):Prop:=(recE p t=0→∃ s0,BegunS p s0∧SameT y (doneT p s0 (repL t)))∧(¬ recE p t=0→NoneS y)
theorem rec_step {p:Pl} {s y y':St} {x x':Ax} (r:RightT p s) (e:SameT y s) (a:SameA x x') (h:ActOK (doE p y x) (doT p y x) y'):(doE p y x=0→SameT y' (doneS p s x'))∧(¬ doE p y x=0→SameT y (doneS p s x')):=by
 have k:=doneS_same r e a
 unfold doneS at k
 refine ⟨fun h0 => ?_,fun h0 => ?_⟩
 ·rw [if_pos h0] at k
  exact (h.1 h0).trans k
 ·rw [if_neg h0] at k
  exact k
theorem take_one {p:Pl} {s:St} {l:List Ax} {j:Nat} (h:j<l.length):doneT p s (l.take (j+1))=doneS p (doneT p s (l.take j)) l[j]:=by
 rw [List.take_add_one,List.getElem?_eq_getElem h]
 exact doneT_app p s (l.take j) [l[j]]
theorem As.At.six {w:World} {s:As} (h:s.At w) {i:Nat} (hi:i<s.n):∃ b o,s.a=some ⟨b,o,none⟩∧w.cell? ⟨b,o+i*6,none⟩=some (.int .i64 (s.z i).k)∧w.cell? ⟨b,o+i*6+1,none⟩=some (.int .i64 (s.z i).a)∧w.cell? ⟨b,o+i*6+2,none⟩=some (.int .i64 (s.z i).b)∧w.cell? ⟨b,o+i*6+3,none⟩=some (.int .i64 (s.z i).c)∧w.cell? ⟨b,o+i*6+4,none⟩=some (.int .i64 (s.z i).n)∧w.cell? ⟨b,o+i*6+5,none⟩=some (.slice (s.z i).ls.a (s.z i).ls.n (s.z i).ls.c):=by
 obtain ⟨b,o,ha,hc⟩:=h.cells i hi
 exact ⟨b,o,ha,hc 0 (by decide),hc 1 (by decide),hc 2 (by decide),hc 3 (by decide),hc 4 (by decide),hc 5 (by decide)⟩
theorem cell_lt {w:World} {b o:Nat} {v:Value} (h:w.cell? ⟨b,o,none⟩=some v):b<w.heap.size:=by
 unfold World.cell? at h
 split at h
 ·rename_i hb
  exact (Array.getElem?_eq_some_iff.1 hb).1
 ·cases h
theorem Bt.set7 {R:Nat} {a w:World} (h:Bt R a w) (v0 v1 v2 v3 v4 v5 v6:Value):Bt R a (Go.Proofs.YtbcacebifpagpagGreat.set7 w R v0 v1 v2 v3 v4 v5 v6) :=
 ((((((h.set (p:=⟨R,0,none⟩) (Or.inl rfl) v0).set (p:=⟨R,1,none⟩) (Or.inl rfl) v1).set (p:=⟨R,2,none⟩) (Or.inl rfl) v2).set (p:=⟨R,3,none⟩) (Or.inl rfl) v3).set (p:=⟨R,4,none⟩) (Or.inl rfl) v4).set (p:=⟨R,5,none⟩) (Or.inl rfl) v5).set (p:=⟨R,6,none⟩) (Or.inl rfl) v6
set_option maxRecDepth 100000 in
set_option maxHeartbeats 8000000 in
theorem Recover_any (p:Pl) (t:List UInt8) (w:World) (hp:p.At w) :
  Calls Tryz.prog 8 #[p.val,.string ⟨t.toArray⟩] w fun e w'=>∃ y:St,e = .returned (.tuple #[y.val,.int .i64 (recN p t:Int),.int .i64 (recE p t)])∧y.At w'∧RecOK p t y∧Below w.heap.size w w':=by
 obtain ⟨W0,hW,hWB,X0,Z0,hsz⟩:∃ W,(w.alloc (.cells #[.slice p.ab p.nb p.cb,.slice p.sa p.ns p.cs] 25)).alloc (.cells #[.slice .none 0 0,.slice .none 0 0,.slice .none 0 0,.slice .none 0 0,.slice .none 0 0,.slice .none 0 0,.slice .none 0 0] 31)=W∧Below w.heap.size w W∧Blk W w.heap.size 25 2 (fun j=>(#[.slice p.ab p.nb p.cb,.slice p.sa p.ns p.cs]:Array Value).getD j default)∧Blk W (w.heap.size+1) 31 7 (fun _ => .slice .none 0 0)∧W.heap.size=w.heap.size+2 :=
  ⟨_,rfl,two_below _ _ _,(Blk.mk' rfl rfl).alloc _,(Blk.mk' (cur:=#[.slice .none 0 0,.slice .none 0 0,.slice .none 0 0,.slice .none 0 0,.slice .none 0 0,.slice .none 0 0,.slice .none 0 0]) (by simp) rfl).congr (fun j hj=>by match j,hj with | 0,_=>rfl | 1,_=>rfl | 2,_=>rfl | 3,_=>rfl | 4,_=>rfl | 5,_=>rfl | 6,_=>rfl),by simp⟩
 have HC:Hid (∀ wk,Below W0.heap.size W0 wk→Blk wk w.heap.size 25 2 (fun j=>(#[.slice p.ab p.nb p.cb,.slice p.sa p.ns p.cs]:Array Value).getD j default)∧Blk wk (w.heap.size+1) 31 7 (fun _ => .slice .none 0 0)∧p.At wk∧Below w.heap.size w wk):=fun wk h=>⟨X0.below h,Z0.below h,(hp.below hWB).below h,hWB.trans (h.mono hWB.size)⟩
 have HW:Hid ((w.alloc (.cells #[.slice p.ab p.nb p.cb,.slice p.sa p.ns p.cs] 25)).alloc (.cells #[.slice .none 0 0,.slice .none 0 0,.slice .none 0 0,.slice .none 0 0,.slice .none 0 0,.slice .none 0 0,.slice .none 0 0] 31)=W0):=hW
 have HSZ:Hid (W0.heap.size=w.heap.size+2):=hsz
 have HNO:Hid (∀ (E:Int) (wk:World),Below W0.heap.size W0 wk→recE p t=E→¬ E=0→∃ y:St,Ending.returned (.tuple #[noneS.val,.int .i64 0,.int .i64 E]) = .returned (.tuple #[y.val,.int .i64 (recN p t:Int),.int .i64 (recE p t)])∧y.At (set7 wk (w.heap.size+1) (.slice .none 0 0) (.slice .none 0 0) (.slice .none 0 0) (.slice .none 0 0) (.slice .none 0 0) (.slice .none 0 0) (.slice .none 0 0))∧RecOK p t y∧Below w.heap.size w (set7 wk (w.heap.size+1) (.slice .none 0 0) (.slice .none 0 0) (.slice .none 0 0) (.slice .none 0 0) (.slice .none 0 0) (.slice .none 0 0) (.slice .none 0 0))):=fun E wk h hE h0=>by
  refine ⟨noneS,?_,noneS_at _,⟨fun h=>absurd (hE.symm.trans h) h0,fun _=>⟨rfl,rfl,rfl,rfl,rfl,rfl,rfl⟩⟩,set7_below (HC.out wk h).2.2.2 (by omega) _ _ _ _ _ _ _⟩
  have hN:recN p t=0:=if_neg (by rw [hE];exact h0)
  rw [hN,hE]
  rfl
 have HP0:Hid (p.At W0):=hp.below hWB
 clear hW hWB X0 Z0 hp hsz
 unfold Pl.val
 go_enter Tryz.func8,Tryz.ntmps8
 go_wp2_with fail
 rw [HW.out]
 refine (Begin_fr p W0 HP0.out).mono ?_
 rintro e w1 ⟨s,rfl,sfr,sok,hB⟩
 obtain ⟨W2,hW2,hB2,KS⟩:∃ W,w1.alloc (.cells #[.slice s.on.a s.on.n s.on.c,.slice s.os.a s.os.n s.os.c,.slice s.hs.a s.hs.n s.hs.c,.slice s.ms.a s.ms.n s.ms.c,.slice s.si.a s.si.n s.si.c,.slice s.so.a s.so.n s.so.c,.slice s.sf.a s.sf.n s.sf.c] 31)=W∧Below w1.heap.size w1 W∧Blk W w1.heap.size 31 7 (fun j=>s.cells.getD j default):=⟨_,rfl,(Below.refl _ _).alloc (Nat.le_refl _) _,Blk.mk' rfl rfl⟩
 have HW2:Hid (w1.alloc (.cells #[.slice s.on.a s.on.n s.on.c,.slice s.os.a s.os.n s.os.c,.slice s.hs.a s.hs.n s.hs.c,.slice s.ms.a s.ms.n s.ms.c,.slice s.si.a s.si.n s.si.c,.slice s.so.a s.so.n s.so.c,.slice s.sf.a s.sf.n s.sf.c] 31)=W2):=hW2
 have HB2:Hid (Below W0.heap.size W0 W2):=hB.trans (hB2.mono hB.size)
 have HF2:Hid (Fr W0.heap.size W2 s):=sfr.below hB2
 have HS2:Hid (BeginOK p s):=sok
 have HK2:Hid (Blk W2 w1.heap.size 31 7 (fun j=>s.cells.getD j default)):=KS
 have HS1:Hid (W0.heap.size≤w1.heap.size∧w1.heap.size<W2.heap.size):=⟨hB.size,KS.lt⟩
 clear hW2 hB2 KS sfr sok HW HP0
 obtain ⟨-,hz,-,-⟩:=HC.out w1 hB
 have zl:=hz.lt
 have zf0:=hz.frozen 0
 have zc0:=hz.cell (j:=0) (by decide)
 have zf1:=hz.frozen 1
 have zc1:=hz.cell (j:=1) (by decide)
 have zf2:=hz.frozen 2
 have zc2:=hz.cell (j:=2) (by decide)
 have zf3:=hz.frozen 3
 have zc3:=hz.cell (j:=3) (by decide)
 have zf4:=hz.frozen 4
 have zc4:=hz.cell (j:=4) (by decide)
 have zf5:=hz.frozen 5
 have zc5:=hz.cell (j:=5) (by decide)
 have zf6:=hz.frozen 6
 have zc6:=hz.cell (j:=6) (by decide)
 clear hB hz
 simp only [St.val]
 by_cases h0:planE p=0
 ·have HE0:Hid (planE p=0):=h0
  rw [h0]
  clear h0 zl zf0 zc0 zf1 zc1 zf2 zc2 zf3 zc3 zf4 zc4 zf5 zc5 zf6 zc6
  go_wp2_with fail
  rw [HW2.out]
  refine (Replay_any t W2).mono ?_
  rintro e w3 ⟨acts,rfl,an,asame,aown,hB3⟩
  have HA:Hid (acts.n=(repL t).length∧(∀ i (h:i<(repL t).length),SameA (acts.z i) (repL t)[i])∧OwnA W2.heap.size w3 acts):=⟨an,asame,aown⟩
  have HB3:Hid (Below W0.heap.size W0 w3):=HB2.out.trans (hB3.mono HB2.out.size)
  have HF3:Hid (Fr W0.heap.size w3 s):=HF2.out.below hB3
  have HK3:Hid (Blk w3 w1.heap.size 31 7 (fun j=>s.cells.getD j default)):=HK2.out.below hB3
  have HS3:Hid (W2.heap.size≤w3.heap.size):=hB3.size
  clear an asame hB3 HF2 HK2 HW2
  have ale:=aown.le
  have acap:=aown.cap
  have a60:acts.n≤60:=by rw [HA.out.1];exact repL_len t
  clear aown
  unfold maxLen at acap
  obtain ⟨-,hz,-,-⟩:=HC.out w3 HB3.out
  simp only [As.val]
  by_cases hr:repE t=0
  ·have HR0:Hid (repE t=0):=hr
   rw [hr]
   clear hr hz
   have HRE:Hid (recE p t=0∧recN p t=(repL t).length):=by
    have e1:recE p t=0:=by unfold recE;rw [if_pos HE0.out];exact HR0.out
    exact ⟨e1,if_pos e1⟩
   have HBG:Hid (BegunS p s):=HS2.out.1 HE0.out
   have HRT:Hid (∀ j,RightT p (doneT p s ((repL t).take j))):=fun j=>doneT_right _ (rightT (begun_state HE0.out HBG.out))
   go_wp2_with fail
   generalize hSe:w1.heap.size=S at *
   clear hSe
   go_loopw [36] (fun jv wk=>∃ (j:Nat) (y:St) (n:Nat),j≤acts.n∧jv = .int .i64 j∧Hid (Blk wk S 31 7 (fun j=>y.cells.getD j default)∧Fr n wk y∧W0.heap.size≤n∧SameT y (doneT p s ((repL t).take j))∧Bt S w3 wk)) (fun jv _=>acts.n - (intOf jv).toNat)
   case atStart=>exact ⟨0,s,W0.heap.size,Nat.zero_le _,rfl,HK3.out,HF3.out,Nat.le_refl _,SameT.self _,Bt.refl _ _⟩
   case round =>
    obtain ⟨j,y,n,hj,rfl,HS⟩:=hrel
    clear HK3 HF3
    have hwr:Below W0.heap.size W0 wr:=HB3.out.trans (HS.out.2.2.2.2.below HS1.out.1 (by have:=HB3.out.size;omega))
    have HBW:Hid (Below W0.heap.size W0 wr):=hwr
    obtain ⟨hP,hz,hpk,hBw⟩:=HC.out wr hwr
    clear hwr
    have d0:wr.cell? ⟨w.heap.size,0,none⟩=some (.slice p.ab p.nb p.cb):=hP.cell (j:=0) (by decide)
    have d1:wr.cell? ⟨w.heap.size,1,none⟩=some (.slice p.sa p.ns p.cs):=hP.cell (j:=1) (by decide)
    have dl:=hP.lt
    obtain ⟨m1,p0,p1,p2,p3,p4,p5,p6⟩:=Boxed.of HS.out.1
    by_cases hlt:j<acts.n
    ·have q0:(0:Int)≤(j:Int):=by omega
     have q1:(j:Int)<(acts.n:Int):=by omega
     clear hz
     have hown:OwnA W2.heap.size wr acts:=HA.out.2.2.bt HS.out.2.2.2.2 HS1.out.2
     obtain ⟨xb,xo,hxa,x0,x1,x2,x3,x4,x5⟩:=hown.at.six hlt
     have xl:=cell_lt x0
     have HLS:Hid ((acts.z j).ls.At wr):=(hown.lines j hlt).at
     have HSM:Hid (SameA (acts.z j) ((repL t)[j]'(by rw [← HA.out.1];exact hlt))):=HA.out.2.1 j (by rw [← HA.out.1];exact hlt)
     have HTK:Hid (doneT p s ((repL t).take (j+1))=doneS p (doneT p s ((repL t).take j)) ((repL t)[j]'(by rw [← HA.out.1];exact hlt))):=take_one (by rw [← HA.out.1];exact hlt)
     generalize hxe:acts.z j=x at *
     generalize ((repL t)[j]'(by rw [← HA.out.1];exact hlt))=x' at *
     obtain ⟨W4,hW4,hB4⟩:∃ W,wr.alloc (.cells #[.int .i64 x.k,.int .i64 x.a,.int .i64 x.b,.int .i64 x.c,.int .i64 x.n,.slice x.ls.a x.ls.n x.ls.c] 47)=W∧Below wr.heap.size wr W:=⟨_,rfl,(Below.refl _ _).alloc (Nat.le_refl _) _⟩
     have HW4:Hid (wr.alloc (.cells #[.int .i64 x.k,.int .i64 x.a,.int .i64 x.b,.int .i64 x.c,.int .i64 x.n,.slice x.ls.a x.ls.n x.ls.c] 47)=W4):=hW4
     have HP4:Hid (p.At W4∧y.At W4∧x.ls.At W4):=⟨hpk.below hB4,HS.out.2.1.at.below hB4,HLS.out.below hB4⟩
     have HS4:Hid (Blk W4 S 31 7 (fun j=>y.cells.getD j default)∧Fr n W4 y∧Bt S w3 W4∧W0.heap.size≤W4.heap.size∧S<W4.heap.size):=⟨HS.out.1.below hB4,HS.out.2.1.below hB4,HS.out.2.2.2.2.trans (Bt.of hB4 (Nat.le_refl _)),Nat.le_trans HBW.out.size hB4.size,Nat.lt_of_lt_of_le HS.out.1.lt hB4.size⟩
     have HSS:Hid (W0.heap.size≤n∧SameT y (doneT p s ((repL t).take j))):=⟨HS.out.2.2.1,HS.out.2.2.2.1⟩
     rw [hxa]
     clear hown hxa hxe hW4 hB4 hpk HS hP hBw HLS
     go_wp2_with fail
     rw [HW4.out]
     refine (Do_any p y x W4 HP4.out.1 HP4.out.2.1 HP4.out.2.2).mono ?_
     rintro e w5 ⟨u,rfl,uat,uok,uown,hB5⟩
     have HU:Hid ((doE p y x=0→SameT u (doneT p s ((repL t).take (j+1))))∧(¬ doE p y x=0→SameT y (doneT p s ((repL t).take (j+1))))):=by
      have:=rec_step (HRT.out j) HSS.out.2 HSM.out uok
      rw [← HTK.out] at this
      exact this
     obtain ⟨W6,hW6,hB6,KU⟩:∃ W,w5.alloc (.cells #[.slice u.on.a u.on.n u.on.c,.slice u.os.a u.os.n u.os.c,.slice u.hs.a u.hs.n u.hs.c,.slice u.ms.a u.ms.n u.ms.c,.slice u.si.a u.si.n u.si.c,.slice u.so.a u.so.n u.so.c,.slice u.sf.a u.sf.n u.sf.c] 31)=W∧Below w5.heap.size w5 W∧Blk W w5.heap.size 31 7 (fun j=>u.cells.getD j default):=⟨_,rfl,(Below.refl _ _).alloc (Nat.le_refl _) _,Blk.mk' rfl rfl⟩
     have HW6:Hid (w5.alloc (.cells #[.slice u.on.a u.on.n u.on.c,.slice u.os.a u.os.n u.os.c,.slice u.hs.a u.hs.n u.hs.c,.slice u.ms.a u.ms.n u.ms.c,.slice u.si.a u.si.n u.si.c,.slice u.so.a u.so.n u.so.c,.slice u.sf.a u.sf.n u.sf.c] 31)=W6):=hW6
     have hB46:Below W4.heap.size W4 W6:=hB5.trans (hB6.mono hB5.size)
     have HS6:Hid (Blk W6 S 31 7 (fun j=>y.cells.getD j default)∧Fr n W6 y∧Bt S w3 W6):=⟨HS4.out.1.below hB46,HS4.out.2.1.below hB46,HS4.out.2.2.1.trans (Bt.of hB46 (Nat.le_refl _))⟩
     have HO6:Hid (doE p y x=0→Fr W4.heap.size W6 u):=fun h=>(uown h).fr.below hB6
     clear m1 p0 p1 p2 p3 p4 p5 p6 d0 d1 dl x0 x1 x2 x3 x4 x5 xl HW4 HP4 uat uok uown hB5 hB6 hB46 hW6
     simp only [St.val]
     by_cases hE:doE p y x=0
     ·have HSU:Hid (SameT u (doneT p s ((repL t).take (j+1)))):=HU.out.1 hE
      have HFU:Hid (Fr W4.heap.size W6 u):=HO6.out hE
      rw [hE]
      have hz:=HS6.out.1
      have zl:=hz.lt
      have zf0:=hz.frozen 0
      have zc0:=hz.cell (j:=0) (by decide)
      have zf1:=hz.frozen 1
      have zc1:=hz.cell (j:=1) (by decide)
      have zf2:=hz.frozen 2
      have zc2:=hz.cell (j:=2) (by decide)
      have zf3:=hz.frozen 3
      have zc3:=hz.cell (j:=3) (by decide)
      have zf4:=hz.frozen 4
      have zc4:=hz.cell (j:=4) (by decide)
      have zf5:=hz.frozen 5
      have zc5:=hz.cell (j:=5) (by decide)
      have zf6:=hz.frozen 6
      have zc6:=hz.cell (j:=6) (by decide)
      have KU6:Blk W6 w5.heap.size 31 7 (fun j=>u.cells.getD j default):=KU
      have hu0:=KU6.cell (j:=0) (by decide)
      obtain ⟨m1,p0,p1,p2,p3,p4,p5,p6⟩:=Boxed.of KU6
      have HN:Hid (Blk (set7 W6 S (.slice u.on.a u.on.n u.on.c) (.slice u.os.a u.os.n u.os.c) (.slice u.hs.a u.hs.n u.hs.c) (.slice u.ms.a u.ms.n u.ms.c) (.slice u.si.a u.si.n u.si.c) (.slice u.so.a u.so.n u.so.c) (.slice u.sf.a u.sf.n u.sf.c)) S 31 7 (fun j=>u.cells.getD j default)∧Fr W4.heap.size (set7 W6 S (.slice u.on.a u.on.n u.on.c) (.slice u.os.a u.os.n u.os.c) (.slice u.hs.a u.hs.n u.hs.c) (.slice u.ms.a u.ms.n u.ms.c) (.slice u.si.a u.si.n u.si.c) (.slice u.so.a u.so.n u.so.c) (.slice u.sf.a u.sf.n u.sf.c)) u∧Bt S w3 (set7 W6 S (.slice u.on.a u.on.n u.on.c) (.slice u.os.a u.os.n u.os.c) (.slice u.hs.a u.hs.n u.hs.c) (.slice u.ms.a u.ms.n u.ms.c) (.slice u.si.a u.si.n u.si.c) (.slice u.so.a u.so.n u.so.c) (.slice u.sf.a u.sf.n u.sf.c))):=⟨set7_blk hz (.slice u.on.a u.on.n u.on.c) (.slice u.os.a u.os.n u.os.c) (.slice u.hs.a u.hs.n u.hs.c) (.slice u.ms.a u.ms.n u.ms.c) (.slice u.si.a u.si.n u.si.c) (.slice u.so.a u.so.n u.so.c) (.slice u.sf.a u.sf.n u.sf.c),HFU.out.set7 HS4.out.2.2.2.2 (.slice u.on.a u.on.n u.on.c) (.slice u.os.a u.os.n u.os.c) (.slice u.hs.a u.hs.n u.hs.c) (.slice u.ms.a u.ms.n u.ms.c) (.slice u.si.a u.si.n u.si.c) (.slice u.so.a u.so.n u.so.c) (.slice u.sf.a u.sf.n u.sf.c),HS6.out.2.2.set7 (.slice u.on.a u.on.n u.on.c) (.slice u.os.a u.os.n u.os.c) (.slice u.hs.a u.hs.n u.hs.c) (.slice u.ms.a u.ms.n u.ms.c) (.slice u.si.a u.si.n u.si.c) (.slice u.so.a u.so.n u.so.c) (.slice u.sf.a u.sf.n u.sf.c)⟩
      clear hE KU KU6 hu0 hz HO6 HU
      rw [← HW6.out] at zl zf0 zc0 zf1 zc1 zf2 zc2 zf3 zc3 zf4 zc4 zf5 zc5 zf6 zc6 m1 p0 p1 p2 p3 p4 p5 p6
      go_wp2_with fail
      rw [HW6.out]
      clear HW6 zl zf0 zc0 zf1 zc1 zf2 zc2 zf3 zc3 zf4 zc4 zf5 zc5 zf6 zc6 m1 p0 p1 p2 p3 p4 p5 p6
      have HN2:=HN.out
      unfold set7 at HN2
      have HN3:Hid (_∧_∧_):=HN2
      clear HN HN2
      go_roundw
      case rel=>exact ⟨j+1,u,W4.heap.size,by omega,by go_num,HN3.out.1,HN3.out.2.1,HS4.out.2.2.2.1,HSU.out,HN3.out.2.2⟩
      case measure=>simp [intOf];omega
     ·have HSY:Hid (SameT y (doneT p s ((repL t).take (j+1)))):=HU.out.2 hE
      have gE:(doE p y x==0)=false:=by simpa using hE
      clear hE KU HO6 HU
      generalize doE p y x=EE at *
      go_wp2_with fail
      rw [HW6.out]
      clear HW6
      go_roundw
      case rel=>exact ⟨j+1,y,n,by omega,by go_num,HS6.out.1,HS6.out.2.1,HSS.out.1,HSY.out,HS6.out.2.2⟩
      case measure=>simp [intOf];omega
    ·have q1:¬ (j:Int)<(acts.n:Int):=by omega
     have hje:j=acts.n:=by omega
     subst hje
     have zl:=hz.lt
     have zf0:=hz.frozen 0
     have zc0:=hz.cell (j:=0) (by decide)
     have zf1:=hz.frozen 1
     have zc1:=hz.cell (j:=1) (by decide)
     have zf2:=hz.frozen 2
     have zc2:=hz.cell (j:=2) (by decide)
     have zf3:=hz.frozen 3
     have zc3:=hz.cell (j:=3) (by decide)
     have zf4:=hz.frozen 4
     have zc4:=hz.cell (j:=4) (by decide)
     have zf5:=hz.frozen 5
     have zc5:=hz.cell (j:=5) (by decide)
     have zf6:=hz.frozen 6
     have zc6:=hz.cell (j:=6) (by decide)
     have HFN:Hid (y.At (set7 wr (w.heap.size+1) (.slice y.on.a y.on.n y.on.c) (.slice y.os.a y.os.n y.os.c) (.slice y.hs.a y.hs.n y.hs.c) (.slice y.ms.a y.ms.n y.ms.c) (.slice y.si.a y.si.n y.si.c) (.slice y.so.a y.so.n y.so.c) (.slice y.sf.a y.sf.n y.sf.c))∧Below w.heap.size w (set7 wr (w.heap.size+1) (.slice y.on.a y.on.n y.on.c) (.slice y.os.a y.os.n y.os.c) (.slice y.hs.a y.hs.n y.hs.c) (.slice y.ms.a y.ms.n y.ms.c) (.slice y.si.a y.si.n y.si.c) (.slice y.so.a y.so.n y.so.c) (.slice y.sf.a y.sf.n y.sf.c))):=⟨(HS.out.2.1.set7 (by have:=HS.out.2.2.1;have:=HSZ.out;omega) (.slice y.on.a y.on.n y.on.c) (.slice y.os.a y.os.n y.os.c) (.slice y.hs.a y.hs.n y.hs.c) (.slice y.ms.a y.ms.n y.ms.c) (.slice y.si.a y.si.n y.si.c) (.slice y.so.a y.so.n y.so.c) (.slice y.sf.a y.sf.n y.sf.c)).at,set7_below hBw (by omega) (.slice y.on.a y.on.n y.on.c) (.slice y.os.a y.os.n y.os.c) (.slice y.hs.a y.hs.n y.hs.c) (.slice y.ms.a y.ms.n y.ms.c) (.slice y.si.a y.si.n y.si.c) (.slice y.so.a y.so.n y.so.c) (.slice y.sf.a y.sf.n y.sf.c)⟩
     have HKZ:Hid (Blk (set7 wr (w.heap.size+1) (.slice y.on.a y.on.n y.on.c) (.slice y.os.a y.os.n y.os.c) (.slice y.hs.a y.hs.n y.hs.c) (.slice y.ms.a y.ms.n y.ms.c) (.slice y.si.a y.si.n y.si.c) (.slice y.so.a y.so.n y.so.c) (.slice y.sf.a y.sf.n y.sf.c)) (w.heap.size+1) 31 7 (fun j=>(#[.slice y.on.a y.on.n y.on.c,.slice y.os.a y.os.n y.os.c,.slice y.hs.a y.hs.n y.hs.c,.slice y.ms.a y.ms.n y.ms.c,.slice y.si.a y.si.n y.si.c,.slice y.so.a y.so.n y.so.c,.slice y.sf.a y.sf.n y.sf.c]:Array Value).getD j default)):=set7_blk hz (.slice y.on.a y.on.n y.on.c) (.slice y.os.a y.os.n y.os.c) (.slice y.hs.a y.hs.n y.hs.c) (.slice y.ms.a y.ms.n y.ms.c) (.slice y.si.a y.si.n y.si.c) (.slice y.so.a y.so.n y.so.c) (.slice y.sf.a y.sf.n y.sf.c)
     have HSY:Hid (SameT y (doneT p s (repL t))):=by
      have h:=HS.out.2.2.2.1
      rw [HA.out.1,List.take_length] at h
      exact h
     clear hz hP hpk hBw HS
     go_wp2_with fail
     have KZ:=HKZ.out
     have HF:=HFN.out
     unfold set7 at KZ HF
     obtain ⟨c0',c1',c2',c3',c4',c5',c6'⟩:=box_cells KZ
     refine bodyPost_ret (v := .tuple #[y.val,.int .i64 (acts.n:Int),.int .i64 0]) (by simp [results,Tryz.results8,go_sem,St.val,c0',c1',c2',c3',c4',c5',c6']) rfl ?_
     exact ⟨y,by rw [HRE.out.1,HRE.out.2,HA.out.1],HF.1,⟨fun _=>⟨s,HBG.out,HSY.out⟩,fun h=>absurd HRE.out.1 h⟩,HF.2⟩
  ·have gr:(repE t !=0)=true:=by simpa using hr
   have zl:=hz.lt
   have zf0:=hz.frozen 0
   have zc0:=hz.cell (j:=0) (by decide)
   have zf1:=hz.frozen 1
   have zc1:=hz.cell (j:=1) (by decide)
   have zf2:=hz.frozen 2
   have zc2:=hz.cell (j:=2) (by decide)
   have zf3:=hz.frozen 3
   have zc3:=hz.cell (j:=3) (by decide)
   have zf4:=hz.frozen 4
   have zc4:=hz.cell (j:=4) (by decide)
   have zf5:=hz.frozen 5
   have zc5:=hz.cell (j:=5) (by decide)
   have zf6:=hz.frozen 6
   have zc6:=hz.cell (j:=6) (by decide)
   have HND:Hid (_):=HNO.out (repE t) w3 HB3.out (by unfold recE;rw [if_pos HE0.out]) hr
   have HKZ:Hid (Blk (set7 w3 (w.heap.size+1) (.slice .none 0 0) (.slice .none 0 0) (.slice .none 0 0) (.slice .none 0 0) (.slice .none 0 0) (.slice .none 0 0) (.slice .none 0 0)) (w.heap.size+1) 31 7 (fun j=>(#[.slice .none 0 0,.slice .none 0 0,.slice .none 0 0,.slice .none 0 0,.slice .none 0 0,.slice .none 0 0,.slice .none 0 0]:Array Value).getD j default)):=set7_blk hz (.slice .none 0 0) (.slice .none 0 0) (.slice .none 0 0) (.slice .none 0 0) (.slice .none 0 0) (.slice .none 0 0) (.slice .none 0 0)
   generalize repE t=EE at *
   clear hz
   go_wp2_with fail
   have KZ:=HKZ.out
   have HF:=HND.out
   unfold set7 at KZ HF
   obtain ⟨c0',c1',c2',c3',c4',c5',c6'⟩:=box_cells KZ
   refine bodyPost_ret (v := .tuple #[noneS.val,.int .i64 0,.int .i64 EE]) (by simp [results,Tryz.results8,go_sem,noneS,St.val,c0',c1',c2',c3',c4',c5',c6']) rfl ?_
   exact HF
 ·have g0:(planE p !=0)=true:=by simpa using h0
  obtain ⟨-,hz,-,-⟩:=HC.out W2 HB2.out
  clear zl zf0 zc0 zf1 zc1 zf2 zc2 zf3 zc3 zf4 zc4 zf5 zc5 zf6 zc6
  have zl:=hz.lt
  have zf0:=hz.frozen 0
  have zc0:=hz.cell (j:=0) (by decide)
  have zf1:=hz.frozen 1
  have zc1:=hz.cell (j:=1) (by decide)
  have zf2:=hz.frozen 2
  have zc2:=hz.cell (j:=2) (by decide)
  have zf3:=hz.frozen 3
  have zc3:=hz.cell (j:=3) (by decide)
  have zf4:=hz.frozen 4
  have zc4:=hz.cell (j:=4) (by decide)
  have zf5:=hz.frozen 5
  have zc5:=hz.cell (j:=5) (by decide)
  have zf6:=hz.frozen 6
  have zc6:=hz.cell (j:=6) (by decide)
  rw [← HW2.out] at zl zf0 zc0 zf1 zc1 zf2 zc2 zf3 zc3 zf4 zc4 zf5 zc5 zf6 zc6
  have HND:Hid (_):=HNO.out (planE p) W2 HB2.out (by unfold recE;rw [if_neg h0]) h0
  have HKZ:Hid (Blk (set7 W2 (w.heap.size+1) (.slice .none 0 0) (.slice .none 0 0) (.slice .none 0 0) (.slice .none 0 0) (.slice .none 0 0) (.slice .none 0 0) (.slice .none 0 0)) (w.heap.size+1) 31 7 (fun j=>(#[.slice .none 0 0,.slice .none 0 0,.slice .none 0 0,.slice .none 0 0,.slice .none 0 0,.slice .none 0 0,.slice .none 0 0]:Array Value).getD j default)):=set7_blk hz (.slice .none 0 0) (.slice .none 0 0) (.slice .none 0 0) (.slice .none 0 0) (.slice .none 0 0) (.slice .none 0 0) (.slice .none 0 0)
  generalize planE p=EE at *
  clear hz
  rw [← HW2.out] at HKZ HND
  go_wp2_with fail
  have KZ:=HKZ.out
  have HF:=HND.out
  unfold set7 at KZ HF
  obtain ⟨c0',c1',c2',c3',c4',c5',c6'⟩:=box_cells KZ
  refine bodyPost_ret (v := .tuple #[noneS.val,.int .i64 0,.int .i64 EE]) (by simp [results,Tryz.results8,go_sem,noneS,St.val,c0',c1',c2',c3',c4',c5',c6']) rfl ?_
  exact HF
end Go.Proofs.YtbcacebifpagpagGreat
namespace Go.Proofs.YtbcacebifpagpagGreat
open Go.RowKit Go.Shelf
set_option linter.unusedVariables false
theorem byteV_of (z:Int):byteV z = .int .u8 ((byteOf z).toNat:Int):=by rw [byteOf_nat];rfl
theorem write_text {L A:Nat} {w:World} {o:Bool} {zs:List Int} (h:WrAt L A w o (zs.map byteV)) (hn:0<zs.length):∃ a c,Blk w A 79 2 (fun j=>(#[.slice a zs.length c,.bool o]:Array Value).getD j default)∧∀ wk,Below w.heap.size w wk→(convert 77 9 (.slice a zs.length c)).run Tryz.prog wk = .ok (.string ⟨(zs.map byteOf).toArray⟩) wk:=by
 obtain ⟨a,c,hA,hO⟩:=h
 simp only [List.length_map] at hA hO
 have hne:(Value.slice a zs.length c) ≠ .slice none 0 0:=fun e=>by simp only [Value.slice.injEq] at e;omega
 obtain ⟨g,c',e1,h1,h2,h3,h4⟩:=Blk.ofOwns hO hne
 simp only [Value.slice.injEq,true_and] at e1
 obtain ⟨e1,e2⟩:=e1
 subst e1 e2
 refine ⟨_,c,hA,fun wk hB => ?_⟩
 have hb:=h4.below hB
 have hl:(zs.map byteOf).length=zs.length:=by simp
 have:=run_convert_bytes_back (P:=Tryz.prog) wk 77 9 5 ⟨g,0,none⟩ c (zs.map byteOf) Tryz.underlying77 Tryz.underlying5 Tryz.underlying9 (fun j hj=>by
  have hj':j<zs.length:=by rw [← hl];exact hj
  have ha:(⟨g,0,none⟩:Addr).add j=⟨g,j,none⟩:=by
   unfold Addr.add
   by_cases h:j=0
   ·subst h;rfl
   ·rw [if_neg h];simp
  rw [ha,hb.cell (j:=j) (by omega)]
  simp [List.getD,List.getElem?_eq_getElem hj',byteV_of])
 rw [hl] at this
 exact this
set_option maxRecDepth 100000 in
set_option maxHeartbeats 4000000 in
theorem Write_any (x:Ax) (w:World) (hx:x.ls.At w) (hn:x.ls.n≤8796093022208) :
  Calls Tryz.prog 14 #[x.val] w fun e w'=>e = .returned (.tuple #[.string ⟨(writeL x).toArray⟩,.int .i64 (writeE x)])∧Below w.heap.size w w':=by
 obtain ⟨W0,hW,KX,KA,KZ,KB⟩:∃ W,((w.alloc (.cells x.cells 47)).alloc (.cells #[.slice none 0 0,.bool false] 79)).alloc (.cells #[.int .i64 x.k,.int .i64 x.a,.int .i64 x.b,.int .i64 x.c,.int .i64 x.n,.int .i64 (x.ls.n:Int)] 3)=W∧Blk W w.heap.size 47 6 (fun j=>x.cells.getD j default) ∧
   WrAt (w.heap.size+1) (w.heap.size+1) W false []∧Blk W (w.heap.size+1+1) 3 6 (fun j => .int .i64 ((headN x).getD j 0))∧Below w.heap.size w W :=
  ⟨_,rfl,((Blk.mk' (cur:=x.cells) rfl rfl).alloc _).alloc _,⟨none,0,((Blk.mk' (cur:=#[.slice none 0 0,.bool false]) (by simp) rfl).alloc _).congr (fun j hj=>by match j,hj with | 0,_=>rfl | 1,_=>rfl),World.ownsRow_nil _ _ _ _⟩,
   (Blk.mk' (cur:=#[.int .i64 x.k,.int .i64 x.a,.int .i64 x.b,.int .i64 x.c,.int .i64 x.n,.int .i64 (x.ls.n:Int)]) (by simp) rfl).congr (fun j hj=>by match j,hj with | 0,_ | 1,_ | 2,_ | 3,_ | 4,_ | 5,_=>rfl),(((Below.refl _ _).alloc (Nat.le_refl _) _).alloc (by simp) _).alloc (by simp;omega) _⟩
 have HW:Hid (((w.alloc (.cells #[.int .i64 x.k,.int .i64 x.a,.int .i64 x.b,.int .i64 x.c,.int .i64 x.n,.slice x.ls.a x.ls.n x.ls.c] 47)).alloc (.cells #[.slice none 0 0,.bool false] 79)).alloc (.cells #[.int .i64 x.k,.int .i64 x.a,.int .i64 x.b,.int .i64 x.c,.int .i64 x.n,.int .i64 (x.ls.n:Int)] 3)=W0):=hW
 have HK0:Hid (WrAt (w.heap.size+1) (w.heap.size+1) W0 false []∧Blk W0 (w.heap.size+1+1) 3 6 (fun j => .int .i64 ((headN x).getD j 0))∧Below w.heap.size w W0):=⟨KA,KZ,KB⟩
 have hsz:w.heap.size+1≤W0.heap.size:=by rw [← hW];simp
 have HC:Hid (∀ wk,Below (w.heap.size+1) W0 wk→Blk wk w.heap.size 47 6 (fun j=>x.cells.getD j default)∧x.ls.At wk∧Below w.heap.size w wk):=fun wk h=>⟨KX.same (h.block _ (by omega)),hx.below (KB.trans (h.mono (by omega))),KB.trans (h.mono (by omega))⟩
 have HN:Hid (x.ls.n≤8796093022208):=hn
 have xle:=hx.le
 have xcap:=hx.cap
 unfold maxLen at xcap
 clear hW KX KA KZ KB hx hsz
 unfold Ax.val Ax.cells
 go_enter Tryz.func14,Tryz.ntmps14
 go_wp2_with fail
 rw [HW.out]
 refine (put_any (w.heap.size+1) (w.heap.size+1) false [] (w.heap.size+1+1) (headN x) W0 (Nat.le_refl _) HK0.out.1 HK0.out.2.1 (by show 0+6≤_;omega)).mono ?_
 rintro e w1 ⟨rfl,hw1,hB1⟩
 have HW1:Hid (WrAt (w.heap.size+1) (w.heap.size+1) w1 ((headN x++linesN x.ls.z 0).any noByte) ((headN x++linesN x.ls.z 0).map byteV)∧Below (w.heap.size+1) W0 w1):=⟨by simpa [linesN] using hw1,hB1⟩
 clear hw1 hB1 HK0 HW
 obtain ⟨KX,-,-⟩:=HC.out w1 HW1.out.2
 have c5:w1.cell? ⟨w.heap.size,5,none⟩=some (.slice x.ls.a x.ls.n x.ls.c):=KX.cell (j:=5) (by decide)
 have cl:=KX.lt
 clear KX
 go_wp2_with fail
 clear c5 cl
 go_loopw [25] (fun jv wk=>∃ j:Nat,j≤x.ls.n∧jv = .int .i64 j∧Hid (WrAt (w.heap.size+1) (w.heap.size+1) wk ((headN x++linesN x.ls.z j).any noByte) ((headN x++linesN x.ls.z j).map byteV)∧Below (w.heap.size+1) W0 wk)) (fun jv _=>x.ls.n - (intOf jv).toNat)
 case atStart=>exact ⟨0,Nat.zero_le _,rfl,HW1⟩
 case round =>
  obtain ⟨j,hj,rfl,HS⟩:=hrel
  clear HW1
  obtain ⟨KX,KL,-⟩:=HC.out wr HS.out.2
  have cl:=KX.lt
  by_cases hlt:j<x.ls.n
  ·have q0:(0:Int)≤(j:Int):=by omega
   have q1:(j:Int)<(x.ls.n:Int):=by omega
   obtain ⟨lb,lo,hla,hlb,z0,z1,z2,z3⟩:=KL.hds j hlt
   have HSZ:Hid (w.heap.size+1≤wr.heap.size):=by
    obtain ⟨a,c,hA,-⟩:=HS.out.1
    exact Nat.le_of_lt hA.lt
   generalize hZ:x.ls.z j=Z at *
   have HZ:Hid (x.ls.z j=Z):=hZ
   obtain ⟨W2,hW2,KZ,KB⟩:∃ W,(wr.alloc (.cells #[.int .i64 Z.o,.int .i64 Z.l,.int .i64 Z.b,.int .i64 Z.n] 59)).alloc (.cells #[.int .i64 Z.o,.int .i64 Z.l,.int .i64 Z.b,.int .i64 Z.n] 3)=W∧Blk W (wr.heap.size+1) 3 4 (fun j => .int .i64 ((hdN Z).getD j 0))∧Below wr.heap.size wr W :=
    ⟨_,rfl,(Blk.mk' (cur:=#[.int .i64 Z.o,.int .i64 Z.l,.int .i64 Z.b,.int .i64 Z.n]) (by simp) rfl).congr (fun j hj=>by match j,hj with | 0,_ | 1,_ | 2,_ | 3,_=>rfl),((Below.refl _ _).alloc (Nat.le_refl _) _).alloc (by simp) _⟩
   have HW2:Hid ((wr.alloc (.cells #[.int .i64 Z.o,.int .i64 Z.l,.int .i64 Z.b,.int .i64 Z.n] 59)).alloc (.cells #[.int .i64 Z.o,.int .i64 Z.l,.int .i64 Z.b,.int .i64 Z.n] 3)=W2):=hW2
   have HK2:Hid (Blk W2 (wr.heap.size+1) 3 4 (fun j => .int .i64 ((hdN Z).getD j 0))∧WrAt (w.heap.size+1) (w.heap.size+1) W2 ((headN x++linesN x.ls.z j).any noByte) ((headN x++linesN x.ls.z j).map byteV)∧Below (w.heap.size+1) W0 W2):=by
    refine ⟨KZ,?_,HS.out.2.trans (KB.mono HSZ.out)⟩
    obtain ⟨a,c,hA,hO⟩:=HS.out.1
    exact ⟨a,c,hA.below KB,owns_below hO KB⟩
   have HLA:Hid (x.ls.a=some ⟨lb,lo,none⟩):=hla
   rw [hla]
   clear hla KX KL hZ hW2 KZ KB HS
   go_wp2_with fail
   rw [HW2.out]
   refine (put_any (w.heap.size+1) (w.heap.size+1) _ _ (wr.heap.size+1) (hdN Z) W2 (Nat.le_refl _) HK2.out.2.1 HK2.out.1 (by
    have:=HN.out
    rw [List.length_map,List.length_append,linesN_len]
    show 6+4*j+4≤_
    omega)).mono ?_
   rintro e w3 ⟨rfl,hw3,hB3⟩
   have HW3:Hid (WrAt (w.heap.size+1) (w.heap.size+1) w3 ((headN x++linesN x.ls.z (j+1)).any noByte) ((headN x++linesN x.ls.z (j+1)).map byteV)∧Below (w.heap.size+1) W0 w3):=by
    refine ⟨?_,HK2.out.2.2.trans hB3⟩
    rw [linesN,HZ.out,← List.append_assoc,List.any_append (ys:=hdN Z),List.map_append (l₂:=hdN Z)]
    exact hw3
   clear hw3 hB3 HK2 HW2 z0 z1 z2 z3 hlb
   go_wp2_with fail
   go_roundw
   case rel=>exact ⟨j+1,by omega,by go_num,HW3⟩
   case measure=>simp [intOf];omega
  ·have q1:¬ (j:Int)<(x.ls.n:Int):=by omega
   have hje:j=x.ls.n:=by omega
   subst hje
   have HS1:Hid (WrAt (w.heap.size+1) (w.heap.size+1) wr ((actN x).any noByte) ((actN x).map byteV)):=HS.out.1
   have HBF:Hid (Below w.heap.size w wr):=(HC.out wr HS.out.2).2.2
   have c5:wr.cell? ⟨w.heap.size,5,none⟩=some (.slice x.ls.a x.ls.n x.ls.c):=KX.cell (j:=5) (by decide)
   obtain ⟨a,c,hA,hcv0⟩:=write_text HS1.out (by rw [actN_len];omega)
   have hcv:=hcv0 wr (Below.refl _ _)
   have HWE:Hid (writeE x=if (actN x).any noByte then 3 else if 3<x.ls.n then 2 else 0):=rfl
   have HWB:Hid (writeE x=0→writeL x=(actN x).map byteOf):=fun h=>if_pos h
   have HWN:Hid (writeE x≠0→writeL x=[]):=fun h=>if_neg h
   generalize (actN x).length=AL at *
   generalize (actN x).map byteOf=BB at *
   cases ho:(actN x).any noByte
   ·rw [ho] at hA HWE
    have a0:wr.cell? ⟨w.heap.size+1,0,none⟩=some (.slice a AL c):=hA.cell (j:=0) (by decide)
    have a1:wr.cell? ⟨w.heap.size+1,1,none⟩=some (.bool false):=hA.cell (j:=1) (by decide)
    have al:=hA.lt
    by_cases h3:3<x.ls.n
    ·have q3:(3:Int)<(x.ls.n:Int):=by omega
     have HE:Hid (writeE x=2):=by show _=_;rw [HWE.out,if_neg (by decide),if_pos h3]
     clear KX KL HS HS1 hA hcv hcv0 ho h3
     go_wp2_with fail
     refine bodyPost_ret (v := .tuple #[.string ⟨#[]⟩,.int .i64 2]) (by simp [results,Tryz.results14,go_sem]) rfl ?_
     exact ⟨by rw [HWN.out (by rw [HE.out];decide),HE.out],HBF.out⟩
    ·have q3:¬ (3:Int)<(x.ls.n:Int):=by omega
     have HE:Hid (writeE x=0):=by show _=_;rw [HWE.out,if_neg (by decide),if_neg h3]
     clear KX KL HS HS1 hA hcv0 ho h3
     go_wp2_with fail
     refine bodyPost_ret (v := .tuple #[.string ⟨BB.toArray⟩,.int .i64 0]) (by simp [results,Tryz.results14,go_sem]) rfl ?_
     exact ⟨by rw [HWB.out HE.out,HE.out],HBF.out⟩
   ·rw [ho] at hA HWE
    have a1:wr.cell? ⟨w.heap.size+1,1,none⟩=some (.bool true):=hA.cell (j:=1) (by decide)
    have al:=hA.lt
    have HE:Hid (writeE x=3):=by show _=_;rw [HWE.out,if_pos rfl]
    clear KX KL HS HS1 hA hcv hcv0 ho
    go_wp2_with fail
    refine bodyPost_ret (v := .tuple #[.string ⟨#[]⟩,.int .i64 3]) (by simp [results,Tryz.results14,go_sem]) rfl ?_
    exact ⟨by rw [HWN.out (by rw [HE.out];decide),HE.out],HBF.out⟩
end Go.Proofs.YtbcacebifpagpagGreat

/- Texts that were built one behind the other, joined; what LogMore does not reach is left out. -/
import Derived.Test.YtbcacebifpagpagGreatK1LogMore
import Derived.Maps.AppendAt
import Derived.ArgAppend
import Derived.Deep.Upon
import Derived.BigQuiet
import Derived.Deep.QuietTactic
import Derived.RegionTactic
import Derived.ChangeAlike
import Derived.BigRegion
namespace Go.Proofs.YtbcacebifpagpagGreat
open Go.RowKit Go.Shelf Go.Sort
set_option linter.unusedVariables false
structure SameT (s t:St):Prop where
 on:s.on.n=t.on.n∧∀ i,i<s.on.n→(s.on.r i).n=(t.on.r i).n∧∀ j,j<(s.on.r i).n→(s.on.r i).z j=(t.on.r i).z j
 os:s.os.n=t.os.n∧∀ i,i<s.os.n→(s.os.z i).k=(t.os.z i).k∧(s.os.z i).ls.n=(t.os.z i).ls.n∧∀ j,j<(s.os.z i).ls.n→(s.os.z i).ls.z j=(t.os.z i).ls.z j
 hs:s.hs.n=t.hs.n∧∀ j,j<s.hs.n→s.hs.z j=t.hs.z j
 ms:s.ms.n=t.ms.n∧∀ j,j<s.ms.n→s.ms.z j=t.ms.z j
 si:s.si.n=t.si.n∧∀ j,j<s.si.n→s.si.z j=t.si.z j
 so:s.so.n=t.so.n∧∀ j,j<s.so.n→s.so.z j=t.so.z j
 sf:s.sf.n=t.sf.n∧∀ j,j<s.sf.n→s.sf.z j=t.sf.z j
def Boxed (w:World) (B:Nat) (s:St):Prop :=
 B<w.heap.size∧w.cell? ⟨B,0,none⟩=some (.slice s.on.a s.on.n s.on.c)∧w.cell? ⟨B,1,none⟩=some (.slice s.os.a s.os.n s.os.c)∧w.cell? ⟨B,2,none⟩=some (.slice s.hs.a s.hs.n s.hs.c) ∧
  w.cell? ⟨B,3,none⟩=some (.slice s.ms.a s.ms.n s.ms.c)∧w.cell? ⟨B,4,none⟩=some (.slice s.si.a s.si.n s.si.c)∧w.cell? ⟨B,5,none⟩=some (.slice s.so.a s.so.n s.so.c)∧w.cell? ⟨B,6,none⟩=some (.slice s.sf.a s.sf.n s.sf.c)
theorem Boxed.of {w:World} {B:Nat} {e:TypeId} {s:St} (h:Blk w B e 7 (fun j=>s.cells.getD j default)):Boxed w B s :=
 ⟨h.lt,h.cell (j:=0) (by decide),h.cell (j:=1) (by decide),h.cell (j:=2) (by decide),h.cell (j:=3) (by decide),h.cell (j:=4) (by decide),h.cell (j:=5) (by decide),h.cell (j:=6) (by decide)⟩
theorem order_stored {A w:World} {B:Nat} {e:TypeId} {f:Nat→Value} (hY:Blk w B e 2 f) (hX:Below A.heap.size A w) (hB:A.heap.size≤B) (k:Int) (v:Value) :
  ∃ W,(w.setCell ⟨B,0,none⟩ (.int .i64 k)).setCell ⟨B,1,none⟩ v=W∧Below A.heap.size A W∧Blk W B e 2 (fun j=>(#[.int .i64 k,v]:Array Value).getD j default)∧∀ g t n f',g≠B→Blk w g t n f'→Blk W g t n f' :=
 ⟨_,rfl,(hX.setCell (p:=⟨B,0,none⟩) hB _).setCell (p:=⟨B,1,none⟩) hB _,((hY.set 0 _).set 1 _).congr (fun j hj=>by match j,hj with | 0,_=>rfl | 1,_=>rfl),
  fun g t n f' hne h=>(h.other (a:=⟨B,0,none⟩) hne _).other (a:=⟨B,1,none⟩) hne _⟩
set_option maxRecDepth 100000 in
set_option maxHeartbeats 4000000 in
theorem SameStates_yes (s t:St) (w:World) (hs:s.At w) (ht:t.At w) (h:SameT s t) (ho4:s.os.n≤1000) (hm8:s.ms.n≤1000) (hl3:∀ i,i<s.os.n→(s.os.z i).ls.n≤1000) :
  Calls Tryz.prog 13 #[s.val,t.val] w fun e w'=>e = .returned (.bool true)∧Below w.heap.size w w':=by
 obtain ⟨W0,hW,hWB,X0,Y0⟩:∃ W,((w.alloc (.cells s.cells 31)).alloc (.cells t.cells 31))=W∧Below w.heap.size w W∧Blk W w.heap.size 31 7 (fun j=>s.cells.getD j default)∧Blk W (w.heap.size+1) 31 7 (fun j=>t.cells.getD j default) :=
  ⟨_,rfl,two_below _ _ _,(Blk.mk' rfl rfl).alloc _,Blk.mk' (by simp) rfl⟩
 have HC:Hid (∀ wk,Below W0.heap.size W0 wk→Boxed wk w.heap.size s∧Boxed wk (w.heap.size+1) t∧s.At wk∧t.At wk∧Below w.heap.size w wk):=fun wk h=>⟨Boxed.of (X0.below h),Boxed.of (Y0.below h),(hs.below hWB).below h,(ht.below hWB).below h,hWB.trans (h.mono hWB.size)⟩
 have HW:Hid ((w.alloc (.cells #[.slice s.on.a s.on.n s.on.c,.slice s.os.a s.os.n s.os.c,.slice s.hs.a s.hs.n s.hs.c,.slice s.ms.a s.ms.n s.ms.c,.slice s.si.a s.si.n s.si.c,.slice s.so.a s.so.n s.so.c,.slice s.sf.a s.sf.n s.sf.c] 31)).alloc (.cells #[.slice t.on.a t.on.n t.on.c,.slice t.os.a t.os.n t.os.c,.slice t.hs.a t.hs.n t.hs.c,.slice t.ms.a t.ms.n t.ms.c,.slice t.si.a t.si.n t.si.c,.slice t.so.a t.so.n t.so.c,.slice t.sf.a t.sf.n t.sf.c] 31)=W0):=hW
 have HS:Hid (SameT s t):=h
 have ole:=hs.os.le
 have ocap:=hs.os.cap
 have mle:=hs.ms.le
 have mcap:=hs.ms.cap
 have ole2:=ht.os.le
 have ocap2:=ht.os.cap
 have mle2:=ht.ms.le
 have mcap2:=ht.ms.cap
 unfold maxLen at ocap mcap ocap2 mcap2
 have n1:((s.os.n:Int) !=(t.os.n:Int))=false:=by rw [h.os.1];simp
 have n2:((s.ms.n:Int) !=(t.ms.n:Int))=false:=by rw [h.ms.1];simp
 have HL3:Hid (∀ i,i<s.os.n→(s.os.z i).ls.n≤1000):=hl3
 clear hW X0 Y0 hs ht h hl3
 unfold St.val
 go_enter Tryz.func13,Tryz.ntmps13
 go_wp2_with fail
 rw [HW.out]
 obtain ⟨X,Y,hsk,htk,hBw⟩:=HC.out W0 (Below.refl _ _)
 refine (SameRows_yes s.on t.on W0 hsk.on htk.on HS.out.on.1 HS.out.on.2).mono ?_
 rintro e w1 ⟨rfl,hB⟩
 clear X Y hsk htk hBw HW
 obtain ⟨⟨l1,c0,c1,c2,c3,c4,c5,c6⟩,⟨l2,d0,d1,d2,d3,d4,d5,d6⟩,hsk,htk,hBw⟩:=HC.out w1 hB
 go_wp2_with fail
 refine (SameHolds_yes s.hs t.hs w1 hsk.hs htk.hs HS.out.hs.1 HS.out.hs.2).mono ?_
 rintro e w2 ⟨rfl,hB2⟩
 have hB:=hB.trans (hB2.mono hB.size)
 clear l1 c0 c1 c2 c3 c4 c5 c6 l2 d0 d1 d2 d3 d4 d5 d6 hsk htk hBw hB2
 obtain ⟨⟨l1,c0,c1,c2,c3,c4,c5,c6⟩,⟨l2,d0,d1,d2,d3,d4,d5,d6⟩,hsk,htk,hBw⟩:=HC.out w2 hB
 go_wp2_with fail
 refine (SameInts_yes s.si t.si w2 hsk.si htk.si HS.out.si.1 HS.out.si.2).mono ?_
 rintro e w3 ⟨rfl,hB2⟩
 have hB:=hB.trans (hB2.mono hB.size)
 clear l1 c0 c1 c2 c3 c4 c5 c6 l2 d0 d1 d2 d3 d4 d5 d6 hsk htk hBw hB2
 obtain ⟨⟨l1,c0,c1,c2,c3,c4,c5,c6⟩,⟨l2,d0,d1,d2,d3,d4,d5,d6⟩,hsk,htk,hBw⟩:=HC.out w3 hB
 go_wp2_with fail
 refine (SameInts_yes s.so t.so w3 hsk.so htk.so HS.out.so.1 HS.out.so.2).mono ?_
 rintro e w4 ⟨rfl,hB2⟩
 have hB:=hB.trans (hB2.mono hB.size)
 clear l1 c0 c1 c2 c3 c4 c5 c6 l2 d0 d1 d2 d3 d4 d5 d6 hsk htk hBw hB2
 obtain ⟨⟨l1,c0,c1,c2,c3,c4,c5,c6⟩,⟨l2,d0,d1,d2,d3,d4,d5,d6⟩,hsk,htk,hBw⟩:=HC.out w4 hB
 go_wp2_with fail
 refine (SameInts_yes s.sf t.sf w4 hsk.sf htk.sf HS.out.sf.1 HS.out.sf.2).mono ?_
 rintro e w5 ⟨rfl,hB2⟩
 have hB:=hB.trans (hB2.mono hB.size)
 clear l1 c0 c1 c2 c3 c4 c5 c6 l2 d0 d1 d2 d3 d4 d5 d6 hsk htk hBw hB2
 go_wp2_with fail
 go_loopw [5] (fun i wk=>∃ k:Nat,k≤s.os.n∧i = .int .i64 k∧Below W0.heap.size W0 wk) (fun i _=>s.os.n - (intOf i).toNat)
 case atStart=>exact ⟨0,Nat.zero_le _,rfl,hB⟩
 case round =>
  clear hB
  obtain ⟨i,hi,rfl,hB⟩:=hrel
  obtain ⟨⟨l1,c0,c1,c2,c3,c4,c5,c6⟩,⟨l2,d0,d1,d2,d3,d4,d5,d6⟩,hsk,htk,hBw⟩:=HC.out wr hB
  by_cases hlt:i<s.os.n
  ·have hlt2:i<t.os.n:=by rw [← HS.out.os.1];exact hlt
   have qi:(0:Int)≤(i:Int):=by omega
   obtain ⟨b1,o1,hoa,hb1,y0,y1,hl⟩:=hsk.os.ods i hlt
   obtain ⟨b2,o2,hob,hb2,x0,x1,hm⟩:=htk.os.ods i hlt2
   obtain ⟨e1,e2,e3⟩:=HS.out.os.2 i hlt
   have hn3:=HL3.out i hlt
   rw [hoa] at c1
   rw [hob] at d1
   have r0:∀ d os,(grow (redrawn wr d) os).cell? ⟨w.heap.size,1,none⟩=some (.slice (some ⟨b1,o1,none⟩) s.os.n s.os.c):=fun d os=>cell_regrown c1 d os
   have r1:∀ d os,(grow (redrawn wr d) os).cell? ⟨w.heap.size+1,1,none⟩=some (.slice (some ⟨b2,o2,none⟩) t.os.n t.os.c):=fun d os=>cell_regrown d1 d os
   have r2:∀ d os,(grow (redrawn wr d) os).cell? ⟨b1,o1+i*2,none⟩=some (.int .i64 (s.os.z i).k):=fun d os=>cell_regrown y0 d os
   have r3:∀ d os,(grow (redrawn wr d) os).cell? ⟨b1,o1+i*2+1,none⟩=some (.slice (s.os.z i).ls.a (s.os.z i).ls.n (s.os.z i).ls.c):=fun d os=>cell_regrown y1 d os
   rw [← e1] at x0
   have r4:∀ d os,(grow (redrawn wr d) os).cell? ⟨b2,o2+i*2,none⟩=some (.int .i64 (s.os.z i).k):=fun d os=>cell_regrown x0 d os
   have r5:∀ d os,(grow (redrawn wr d) os).cell? ⟨b2,o2+i*2+1,none⟩=some (.slice (t.os.z i).ls.a (t.os.z i).ls.n (t.os.z i).ls.c):=fun d os=>cell_regrown x1 d os
   have HLM:Hid ((s.os.z i).ls.At wr∧(t.os.z i).ls.At wr):=⟨hl,hm⟩
   have HE:Hid ((s.os.z i).ls.n=(t.os.z i).ls.n∧∀ j,j<(s.os.z i).ls.n→(s.os.z i).ls.z j=(t.os.z i).ls.z j):=⟨e2,e3⟩
   clear hoa hob hl hm e1 e2 e3 c0 c2 c3 c4 c5 c6 d0 d2 d3 d4 d5 d6 hsk htk y0 y1 x0 x1 d1
   generalize (s.os.z i).k=KD at *
   generalize (s.os.z i).ls=LS at *
   generalize (t.os.z i).ls=LT at *
   go_wp2_with fail
   refine wp_region_made2 (fun w'=>∃ p:Regrown,w'=grow (redrawn wr p.d) p.os) (List.range 10) [10,11] [(false,12),(false,13)] (by kernel_rfl) (by kernel_rfl) (by kernel_rfl) (by kernel_rfl) (by kernel_rfl) (by kernel_rfl) (by kernel_rfl) (by kernel_rfl) (regrown_of_below ((Below.refl _ _).drew)) ?_
   rw [show List.range 10=[0,1,2,3,4,5,6,7,8,9] from rfl]
   simp only [picks,List.drop_succ_cons,List.drop_zero,List.take_succ_cons,List.take_zero,List.cons_append,List.nil_append]
   repeat (go_big_quiet_step (fail))
   refine wpQuiet_nil ?_
   refine ⟨fun j v g wk=>∃ B,g=[B]∧v = .pointer (some ⟨B,0,none⟩)∧wr.heap.size≤B∧Blk wk B 57 2 (fun j=>(#[.int .i64 0,.slice .none 0 0]:Array Value).getD j default),List.forall_mem_cons.2 ⟨?zm,List.forall_mem_cons.2 ⟨?zm2,List.forall_mem_nil _⟩⟩,List.forall_mem_cons.2 ⟨?zl,List.forall_mem_cons.2 ⟨?zl2,List.forall_mem_nil _⟩⟩,List.forall_mem_cons.2 ⟨?zs10,List.forall_mem_cons.2 ⟨?zs11,List.forall_mem_nil _⟩⟩,?zdone⟩
   case zm | zm2=>intro v g w w' hB h;obtain ⟨B,h0,h1,h2,h3⟩:=h;exact ⟨B,h0,h1,h2,h3.below hB⟩
   case zl | zl2=>intro v g w h;obtain ⟨B,rfl,h1,h2,h3⟩:=h;intro x hx;rw [List.mem_singleton] at hx;subst hx;exact h3.lt
   case zs10 =>
    intro V G wk K hS hd hK
    have hX:=below_of_regrown hS
    refine wpOp_list 10 rfl ?_
    simp only [putAll,dstOf,List.getElem?_toArray,List.getElem?_cons_succ,List.getElem?_cons_zero,Act.put,List.setIfInBounds_toArray,List.set_cons_succ,List.set_cons_zero] at hK ⊢
    go_wp2_with fail
    exact hK _ [wk.heap.size] _ (regrown_of_below (hX.alloc hX.size _)) ((Below.refl _ _).alloc (Nat.le_refl _) _) (fun x hx=>by rw [List.mem_singleton] at hx;omega) ⟨wk.heap.size,rfl,rfl,hX.size,Blk.mk' rfl rfl⟩
   case zs11 =>
    intro V G wk K hS hd hK
    have hX:=below_of_regrown hS
    refine wpOp_list 11 rfl ?_
    simp only [putAll,dstOf,List.getElem?_toArray,List.getElem?_cons_succ,List.getElem?_cons_zero,Act.put,List.setIfInBounds_toArray,List.set_cons_succ,List.set_cons_zero] at hK ⊢
    go_wp2_with fail
    exact hK _ [wk.heap.size] _ (regrown_of_below (hX.alloc hX.size _)) ((Below.refl _ _).alloc (Nat.le_refl _) _) (fun x hx=>by rw [List.mem_singleton] at hx;omega) ⟨wk.heap.size,rfl,rfl,hX.size,Blk.mk' rfl rfl⟩
   case zdone =>
    intro V G wk hS hD hA
    obtain ⟨B6,g6,h6,m6,k6⟩:=hD 10 (by simp)
    obtain ⟨B7,g7,h7,m7,k7⟩:=hD 11 (by simp)
    have hne:B6≠B7:=fun e=>hA 10 (by simp) 11 (by simp) (by decide) B6 (by rw [g6];simp) (by rw [g7,e];simp)
    have hX:=below_of_regrown hS
    clear hS hD hA g6 g7 r0 r1 r2 r3 r4 r5
    have f0:=k6.frozen 0
    have f1:=k6.frozen 1
    have e0:=k6.cell (j:=0) (by decide)
    have e1:=k6.cell (j:=1) (by decide)
    have hl6:=k6.lt
    simp only [putAll,dstOf,List.getElem?_toArray,List.getElem?_cons_succ,List.getElem?_cons_zero,Act.put,List.setIfInBounds_toArray,List.set_cons_succ,List.set_cons_zero,h6,h7]
    refine wpOrdS_one 12 (by decide) ?_
    simp only [List.drop_succ_cons,List.drop_zero,List.take_succ_cons,List.take_zero]
    go_wp2_with fail
    obtain ⟨W5,hW5,hX5,hY5,keep⟩:=order_stored k6 hX m6 KD (.slice LS.a LS.n LS.c)
    have k7:=keep _ _ _ _ hne.symm k7
    rw [hW5]
    refine ⟨regrown_of_below hX5,?_⟩
    clear hW5 hX k6 keep f0 f1 e0 e1 hl6 h6 h7
    have f0:=k7.frozen 0
    have f1:=k7.frozen 1
    have e0:=k7.cell (j:=0) (by decide)
    have e1:=k7.cell (j:=1) (by decide)
    have hl6:=k7.lt
    refine wpOrdS_one 13 (by decide) ?_
    simp only [List.drop_succ_cons,List.drop_zero,List.take_succ_cons,List.take_zero]
    go_wp2_with fail
    obtain ⟨W6,hW6,hX6,hY7,keep⟩:=order_stored k7 hX5 m7 KD (.slice LT.a LT.n LT.c)
    have hY6:=keep _ _ _ _ hne hY5
    rw [hW6]
    refine ⟨regrown_of_below hX6,?_⟩
    refine NoPanic.normal ?_
    have hB6:=hB.trans (hX6.mono hB.size)
    have HLL:Hid (LS.At W6∧LT.At W6):=⟨HLM.out.1.below hX6,HLM.out.2.below hX6⟩
    clear hW6 hX5 hX6 k7 keep f0 f1 e0 e1 hl6 hY5 HLM hB m6 m7
    have HD:Hid (∀ wk,Below W6.heap.size W6 wk→(wk.cell? ⟨B6,0,none⟩=some (.int .i64 KD)∧wk.cell? ⟨B6,1,none⟩=some (.slice LS.a LS.n LS.c)∧B6<wk.heap.size)∧(wk.cell? ⟨B7,0,none⟩=some (.int .i64 KD)∧wk.cell? ⟨B7,1,none⟩=some (.slice LT.a LT.n LT.c)∧B7<wk.heap.size)∧LS.At wk∧LT.At wk∧Below W0.heap.size W0 wk) :=
     fun wk h=>⟨⟨(hY6.below h).cell (j:=0) (by decide),(hY6.below h).cell (j:=1) (by decide),(hY6.below h).lt⟩,⟨(hY7.below h).cell (j:=0) (by decide),(hY7.below h).cell (j:=1) (by decide),(hY7.below h).lt⟩,HLL.out.1.below h,HLL.out.2.below h,hB6.trans (h.mono hB6.size)⟩
    clear hY6 hY7 HLL
    obtain ⟨⟨p0,p1,p2⟩,⟨q0,q1,q2⟩,hls,hlt',hBz⟩:=HD.out W6 (Below.refl _ _)
    have lle:=hls.le
    have lcap:=hls.cap
    have mle3:=hlt'.le
    have mcap3:=hlt'.cap
    unfold maxLen at lcap mcap3
    have n3:((LS.n:Int) !=(LT.n:Int))=false:=by rw [HE.out.1];simp
    clear hls hlt' hBz
    go_wp2_with fail
    clear p0 p1 p2 q0 q1 q2
    go_loopw [8] (fun i0 wk=>∃ k:Nat,k≤LS.n∧i0 = .int .i64 k∧Below W6.heap.size W6 wk) (fun i0 _=>LS.n - (intOf i0).toNat)
    case atStart=>exact ⟨0,Nat.zero_le _,rfl,Below.refl _ _⟩
    case round =>
     obtain ⟨j,hj,rfl,hB⟩:=hrel
     obtain ⟨⟨p0,p1,p2⟩,⟨q0,q1,q2⟩,hls,hlt',hBz⟩:=HD.out wr hB
     by_cases hlj:j<LS.n
     ·have hlj2:j<LT.n:=by rw [← HE.out.1];exact hlj
      have qj:(0:Int)≤(j:Int):=by omega
      obtain ⟨b3,o3,hla,hb3,y0,y1,y2,y3⟩:=hls.hds j hlj
      obtain ⟨b4,o4,hlb,hb4,x0,x1,x2,x3⟩:=hlt'.hds j hlj2
      rw [← HE.out.2 j hlj] at x0 x1 x2 x3
      rw [hla] at p1
      rw [hlb] at q1
      generalize LS.z j=Z at *
      clear hla hlb hls hlt' p0 q0
      go_wp2_with fail
      go_quiet (fail)
      go_wp2_with fail
      go_roundw
      case rel=>exact ⟨j+1,by omega,by go_num,below_drewN hB _⟩
      case measure=>simp [intOf];omega
     ·clear hls hlt'
      go_wp2_with fail
      go_roundw
      case rel=>exact ⟨i+1,by omega,by go_num,hBz⟩
      case measure=>simp [intOf];omega
  ·go_wp2_with fail
   clear l1 c0 c1 c2 c3 c4 c5 c6 l2 d0 d1 d2 d3 d4 d5 d6 hsk htk hBw hi hlt
   go_loopw [9] (fun i0 wk=>∃ k:Nat,k≤s.ms.n∧i0 = .int .i64 k∧Below W0.heap.size W0 wk) (fun i0 _=>s.ms.n - (intOf i0).toNat)
   case atStart=>exact ⟨0,Nat.zero_le _,rfl,hB⟩
   case round =>
    clear hB
    obtain ⟨j,hj,rfl,hB⟩:=hrel
    obtain ⟨⟨l1,c0,c1,c2,c3,c4,c5,c6⟩,⟨l2,d0,d1,d2,d3,d4,d5,d6⟩,hsk,htk,hBw⟩:=HC.out wr hB
    by_cases hlj:j<s.ms.n
    ·have hlj2:j<t.ms.n:=by rw [← HS.out.ms.1];exact hlj
     have qj:(0:Int)≤(j:Int):=by omega
     obtain ⟨b3,o3,hla,hb3,y0,y1,y2,y3⟩:=hsk.ms.hds j hlj
     obtain ⟨b4,o4,hlb,hb4,x0,x1,x2,x3⟩:=htk.ms.hds j hlj2
     rw [← HS.out.ms.2 j hlj] at x0 x1 x2 x3
     rw [hla] at c3
     rw [hlb] at d3
     generalize s.ms.z j=Z at *
     clear hla hlb hsk htk c0 c1 c2 c4 c5 c6 d0 d1 d2 d4 d5 d6
     go_wp2_with fail
     go_quiet (fail)
     go_wp2_with fail
     go_roundw
     case rel=>exact ⟨j+1,by omega,by go_num,below_drewN hB _⟩
     case measure=>simp [intOf];omega
    ·clear hsk htk
     go_wp2_with fail
     go_ret
     exact ⟨rfl,hBw⟩
theorem stateE_shelf {p:Pl} {s:St} (h:¬ shelfE p s.on=0):stateE p s=shelfE p s.on:=by unfold stateE;rw [if_neg h]
theorem stateE_many {p:Pl} {s:St} (h:shelfE p s.on=0) (h1:tooManyB s=true):stateE p s=2:=by unfold stateE;rw [if_pos h,if_pos h1]
theorem stateE_form {p:Pl} {s:St} (h:shelfE p s.on=0) (h1:tooManyB s=false) (h2:badOrdersB p s=true∨badHoldsB p s=true∨badMovesB p s=true∨badSumsB p s=true):stateE p s=1:=by
 unfold stateE
 rw [if_pos h,h1,if_neg (by decide),if_pos (by rcases h2 with h2 | h2 | h2 | h2<;>simp [h2])]
theorem stateE_sum {p:Pl} {s:St} (h:shelfE p s.on=0) (h1:tooManyB s=false) (h2:badOrdersB p s=false) (h3:badHoldsB p s=false) (h4:badMovesB p s=false) (h5:badSumsB p s=false):stateE p s=if wrongGoodsB p s||wrongOrdersB s then 7 else 0:=by
 unfold stateE
 rw [if_pos h,h1,if_neg (by decide),h2,h3,h4,h5,if_neg (by decide)]
set_option maxHeartbeats 4000000 in
theorem stateCheck_any (p:Pl) (s:St) (w:World) (hp:p.At w) (hs:s.At w) :
  Calls Tryz.prog 16 #[p.val,s.val] w fun e w'=>e = .returned (.int .i64 (stateE p s))∧Below w.heap.size w w':=by
 obtain ⟨W0,hW,hWB,X0⟩:∃ W,((w.alloc (.cells #[.slice p.ab p.nb p.cb,.slice p.sa p.ns p.cs] 25)).alloc (.cells s.cells 31))=W∧Below w.heap.size w W∧Boxes W w.heap.size (w.heap.size+1) p s:=⟨_,rfl,two_below _ _ _,boxes_new w p s _ _⟩
 have HC:Hid (∀ wk,Below W0.heap.size W0 wk→Boxes wk w.heap.size (w.heap.size+1) p s∧p.At wk∧s.At wk∧Below w.heap.size w wk):=fun wk h=>⟨X0.below h,(hp.below hWB).below h,(hs.below hWB).below h,hWB.trans (h.mono hWB.size)⟩
 have HW:Hid ((w.alloc (.cells #[.slice p.ab p.nb p.cb,.slice p.sa p.ns p.cs] 25)).alloc (.cells #[.slice s.on.a s.on.n s.on.c,.slice s.os.a s.os.n s.os.c,.slice s.hs.a s.hs.n s.hs.c,.slice s.ms.a s.ms.n s.ms.c,.slice s.si.a s.si.n s.si.c,.slice s.so.a s.so.n s.so.c,.slice s.sf.a s.sf.n s.sf.c] 31)=W0):=hW
 clear hW X0
 unfold Pl.val St.val
 go_enter Tryz.func16,Tryz.ntmps16
 go_wp2_with fail
 rw [HW.out]
 have hB:Below W0.heap.size W0 W0:=Below.refl _ _
 obtain ⟨X,hpk,hsk,hBw⟩:=HC.out W0 hB
 refine (shelfCheck_any p s.on W0 hpk hsk.on).mono ?_
 rintro e w1 ⟨rfl,hB1⟩
 have hB:=hB.trans (hB1.mono hB.size)
 clear hB1 X hpk hsk hBw
 obtain ⟨X,hpk,hsk,hBw⟩:=HC.out w1 hB
 by_cases h0:shelfE p s.on=0
 ·have E1:Hid (shelfE p s.on=0):=h0
  rw [h0]
  clear h0
  obtain ⟨⟨l1,d0,d1⟩,l2,c0,c1,c2,c3,c4,c5,c6⟩:=X
  go_wp2_with fail
  refine (tooMany_any s _ hsk).mono ?_
  rintro e w2 ⟨rfl,hB1⟩
  have hBn:=hB.trans (hB1.mono hB.size)
  clear l1 d0 d1 l2 c0 c1 c2 c3 c4 c5 c6 hpk hsk hBw hB hB1
  have hB:=hBn
  clear hBn
  obtain ⟨X,hpk,hsk,hBw⟩:=HC.out w2 hB
  cases hh2:tooManyB s
  ·have E2:Hid (tooManyB s=false):=hh2
   clear hh2
   obtain ⟨⟨l1,d0,d1⟩,l2,c0,c1,c2,c3,c4,c5,c6⟩:=X
   go_wp2_with fail
   refine (badOrders_any p s _ hpk hsk).mono ?_
   rintro e w3 ⟨rfl,hB1⟩
   have hBn:=hB.trans (hB1.mono hB.size)
   clear l1 d0 d1 l2 c0 c1 c2 c3 c4 c5 c6 hpk hsk hBw hB hB1
   have hB:=hBn
   clear hBn
   obtain ⟨X,hpk,hsk,hBw⟩:=HC.out w3 hB
   cases hh3:badOrdersB p s
   ·have E3:Hid (badOrdersB p s=false):=hh3
    clear hh3
    obtain ⟨⟨l1,d0,d1⟩,l2,c0,c1,c2,c3,c4,c5,c6⟩:=X
    go_wp2_with fail
    refine (badHolds_any p s _ hpk hsk).mono ?_
    rintro e w4 ⟨rfl,hB1⟩
    have hBn:=hB.trans (hB1.mono hB.size)
    clear l1 d0 d1 l2 c0 c1 c2 c3 c4 c5 c6 hpk hsk hBw hB hB1
    have hB:=hBn
    clear hBn
    obtain ⟨X,hpk,hsk,hBw⟩:=HC.out w4 hB
    cases hh4:badHoldsB p s
    ·have E4:Hid (badHoldsB p s=false):=hh4
     clear hh4
     obtain ⟨⟨l1,d0,d1⟩,l2,c0,c1,c2,c3,c4,c5,c6⟩:=X
     go_wp2_with fail
     refine (badMoves_any p s _ hpk hsk).mono ?_
     rintro e w5 ⟨rfl,hB1⟩
     have hBn:=hB.trans (hB1.mono hB.size)
     clear l1 d0 d1 l2 c0 c1 c2 c3 c4 c5 c6 hpk hsk hBw hB hB1
     have hB:=hBn
     clear hBn
     obtain ⟨X,hpk,hsk,hBw⟩:=HC.out w5 hB
     cases hh5:badMovesB p s
     ·have E5:Hid (badMovesB p s=false):=hh5
      clear hh5
      obtain ⟨⟨l1,d0,d1⟩,l2,c0,c1,c2,c3,c4,c5,c6⟩:=X
      go_wp2_with fail
      refine (badSums_any p s _ hpk hsk).mono ?_
      rintro e w6 ⟨rfl,hB1⟩
      have hBn:=hB.trans (hB1.mono hB.size)
      clear l1 d0 d1 l2 c0 c1 c2 c3 c4 c5 c6 hpk hsk hBw hB hB1
      have hB:=hBn
      clear hBn
      obtain ⟨X,hpk,hsk,hBw⟩:=HC.out w6 hB
      cases hh6:badSumsB p s
      ·have E6:Hid (badSumsB p s=false):=hh6
       clear hh6
       have HF:Formed p s:=formed E1.out E2.out E3.out E4.out E5.out E6.out
       obtain ⟨⟨l1,d0,d1⟩,l2,c0,c1,c2,c3,c4,c5,c6⟩:=X
       go_wp2_with fail
       refine (wrongGoods_any p s _ hpk hsk HF).mono ?_
       rintro e w7 ⟨rfl,hB1⟩
       have hBn:=hB.trans (hB1.mono hB.size)
       clear l1 d0 d1 l2 c0 c1 c2 c3 c4 c5 c6 hpk hsk hBw hB hB1
       have hB:=hBn
       clear hBn
       obtain ⟨X,hpk,hsk,hBw⟩:=HC.out w7 hB
       cases hh7:wrongGoodsB p s
       ·have E7:Hid (wrongGoodsB p s=false):=hh7
        clear hh7
        obtain ⟨⟨l1,d0,d1⟩,l2,c0,c1,c2,c3,c4,c5,c6⟩:=X
        go_wp2_with fail
        refine (wrongOrders_any p s _ hsk HF).mono ?_
        rintro e w8 ⟨rfl,hB1⟩
        have hBn:=hB.trans (hB1.mono hB.size)
        clear l1 d0 d1 l2 c0 c1 c2 c3 c4 c5 c6 hpk hsk hBw hB hB1
        have hB:=hBn
        clear hBn
        obtain ⟨X,hpk,hsk,hBw⟩:=HC.out w8 hB
        cases hh8:wrongOrdersB s
        ·have E8:Hid (wrongOrdersB s=false):=hh8
         clear hh8
         go_wp2_with fail
         go_ret
         exact ⟨by rw [stateE_sum E1.out E2.out E3.out E4.out E5.out E6.out,E7.out,E8.out];rfl,hBw⟩
        ·have E8:Hid (wrongOrdersB s=true):=hh8
         clear hh8
         go_wp2_with fail
         go_ret
         exact ⟨by rw [stateE_sum E1.out E2.out E3.out E4.out E5.out E6.out,E8.out,Bool.or_true];rfl,hBw⟩
       ·have E7:Hid (wrongGoodsB p s=true):=hh7
        clear hh7
        go_wp2_with fail
        go_ret
        exact ⟨by rw [stateE_sum E1.out E2.out E3.out E4.out E5.out E6.out,E7.out];rfl,hBw⟩
      ·have E6:Hid (badSumsB p s=true):=hh6
       clear hh6
       go_wp2_with fail
       go_ret
       exact ⟨by rw [stateE_form E1.out E2.out (.inr (.inr (.inr E6.out)))];rfl,hBw⟩
     ·have E5:Hid (badMovesB p s=true):=hh5
      clear hh5
      go_wp2_with fail
      go_ret
      exact ⟨by rw [stateE_form E1.out E2.out (.inr (.inr (.inl E5.out)))];rfl,hBw⟩
    ·have E4:Hid (badHoldsB p s=true):=hh4
     clear hh4
     go_wp2_with fail
     go_ret
     exact ⟨by rw [stateE_form E1.out E2.out (.inr (.inl E4.out))];rfl,hBw⟩
   ·have E3:Hid (badOrdersB p s=true):=hh3
    clear hh3
    go_wp2_with fail
    go_ret
    exact ⟨by rw [stateE_form E1.out E2.out (.inl E3.out)];rfl,hBw⟩
  ·have E2:Hid (tooManyB s=true):=hh2
   clear hh2
   go_wp2_with fail
   go_ret
   exact ⟨by rw [stateE_many E1.out E2.out];rfl,hBw⟩
 ·have HE:Hid (stateE p s=shelfE p s.on):=stateE_shelf h0
  go_wp2_with fail
  go_ret
  exact ⟨by rw [HE.out];rfl,hBw⟩
def availE (p:Pl) (s:St) (bin good:Int):Int:=if stateE p s=0 then (if inB bin 0 ((p.nb:Int) - 1)&&inB good 0 ((p.ns:Int) - 1) then 0 else 3) else stateE p s
def availV (p:Pl) (s:St) (bin good:Int):Int:=if availE p s bin good=0 then availZ s bin.toNat good.toNat else 0
def takeTo (p:Pl) (s:St) (b:Int):Nat→Int
 | 0=>0
 | k+1=>takeTo p s b k+(if (s.ms.z k).b=b then (s.ms.z k).n*p.zs (s.ms.z k).o.toNat else 0)
def freeZ (p:Pl) (s:St) (b:Nat):Int:=(p.zb b).room - usedTo (s.on.r b).z p.zs p.ns - takeTo p s b s.ms.n
def freeE (p:Pl) (s:St) (bin:Int):Int:=if stateE p s=0 then usedE p s.on bin else stateE p s
def freeV (p:Pl) (s:St) (bin:Int):Int:=if freeE p s bin=0 then freeZ p s bin.toNat else 0
theorem takeTo_hit {p:Pl} {s:St} {b:Int} {k:Nat} (h:(s.ms.z k).b=b):takeTo p s b (k+1)=takeTo p s b k+(s.ms.z k).n*p.zs (s.ms.z k).o.toNat:=by simp only [takeTo];rw [if_pos h]
theorem takeTo_miss {p:Pl} {s:St} {b:Int} {k:Nat} (h:¬ (s.ms.z k).b=b):takeTo p s b (k+1)=takeTo p s b k:=by simp only [takeTo];rw [if_neg h,Int.add_zero]
theorem takeTo_bd {p:Pl} {s:St} (f:Formed p s) (b:Int):∀ k,k≤s.ms.n→0≤takeTo p s b k∧takeTo p s b k≤1800*k
 | 0,_=>by simp [takeTo]
 | k+1,hk=>by
  have ih:=takeTo_bd f b k (by omega)
  have hm:=badMove_no (f.move k (by omega))
  have:=mul_bd (a:=(s.ms.z k).n) (b:=p.zs (s.ms.z k).o.toNat) ⟨by omega,hm.2.2.2.2.2⟩ (f.sh.pl.sizes _ (by omega))
  simp only [takeTo]
  split<;>omega
set_option maxHeartbeats 4000000 in
theorem Avail_any (p:Pl) (s:St) (bin good:Int) (w:World) (hp:p.At w) (hs:s.At w) :
  Calls Tryz.prog 105 #[p.val,s.val,.int .i64 bin,.int .i64 good] w fun e w'=>e = .returned (.tuple #[.int .i64 (availV p s bin good),.int .i64 (availE p s bin good)])∧Below w.heap.size w w':=by
 obtain ⟨W0,hW,hWB,X0⟩:∃ W,((w.alloc (.cells #[.slice p.ab p.nb p.cb,.slice p.sa p.ns p.cs] 25)).alloc (.cells s.cells 31))=W∧Below w.heap.size w W∧Boxes W w.heap.size (w.heap.size+1) p s:=⟨_,rfl,two_below _ _ _,boxes_new w p s _ _⟩
 have HC:Hid (∀ wk,Below W0.heap.size W0 wk→Boxes wk w.heap.size (w.heap.size+1) p s∧p.At wk∧s.At wk∧Below w.heap.size w wk):=fun wk h=>⟨X0.below h,(hp.below hWB).below h,(hs.below hWB).below h,hWB.trans (h.mono hWB.size)⟩
 have HW:Hid ((w.alloc (.cells #[.slice p.ab p.nb p.cb,.slice p.sa p.ns p.cs] 25)).alloc (.cells #[.slice s.on.a s.on.n s.on.c,.slice s.os.a s.os.n s.os.c,.slice s.hs.a s.hs.n s.hs.c,.slice s.ms.a s.ms.n s.ms.c,.slice s.si.a s.si.n s.si.c,.slice s.so.a s.so.n s.so.c,.slice s.sf.a s.sf.n s.sf.c] 31)=W0):=hW
 have hnb:p.nb≤maxLen:=Nat.le_trans hp.leb hp.capb
 have hns:p.ns≤maxLen:=Nat.le_trans hp.les hp.caps
 clear hW X0
 unfold Pl.val St.val
 go_enter Tryz.func105,Tryz.ntmps105
 go_wp2_with fail
 rw [HW.out]
 obtain ⟨X,hpk,hsk,hBw⟩:=HC.out W0 (Below.refl _ _)
 refine (stateCheck_any p s W0 hpk hsk).mono ?_
 rintro e w1 ⟨rfl,hB⟩
 clear X hpk hsk hBw
 obtain ⟨X,hpk,hsk,hBw⟩:=HC.out w1 hB
 obtain ⟨⟨l1,d0,d1⟩,l2,c0,c1,c2,c3,c4,c5,c6⟩:=X
 by_cases h0:stateE p s=0
 ·have HR:Hid (RightT p s):=rightT h0
  have H0:Hid (stateE p s=0):=h0
  rw [h0]
  clear h0
  cases h1:inB bin 0 ((p.nb:Int) - 1)
  ·have HE:Hid (availE p s bin good=3∧availV p s bin good=0):=by
    have e:availE p s bin good=3:=by unfold availE;rw [if_pos H0.out,h1];rfl
    exact ⟨e,by unfold availV;rw [e];rfl⟩
   go_wp2_with (go_at_call 71;refine calls_to (Has_any _ _ _ (by assumption)) ?_)
   go_ret2
   exact ⟨by rw [HE.out.1,HE.out.2];rfl,hBw⟩
  ·cases h2:inB good 0 ((p.ns:Int) - 1)
   ·have HE:Hid (availE p s bin good=3∧availV p s bin good=0):=by
     have e:availE p s bin good=3:=by unfold availE;rw [if_pos H0.out,h2,Bool.and_false];rfl
     exact ⟨e,by unfold availV;rw [e];rfl⟩
    go_wp2_with (go_at_call 71;refine calls_to (Has_any _ _ _ (by assumption)) ?_)
    go_ret2
    exact ⟨by rw [HE.out.1,HE.out.2];rfl,hBw⟩
   ·have HE:Hid (availE p s bin good=0∧availV p s bin good=availZ s bin.toNat good.toNat):=by
     have e:availE p s bin good=0:=by unfold availE;rw [if_pos H0.out,h1,h2];rfl
     exact ⟨e,by unfold availV;rw [e];rfl⟩
    obtain ⟨b,hb⟩:=Int.eq_ofNat_of_zero_le (inB_true h1).1
    obtain ⟨g,hg⟩:=Int.eq_ofNat_of_zero_le (inB_true h2).1
    have hbn:b<p.nb:=by have:=(inB_true h1).2;omega
    have hgn:g<p.ns:=by have:=(inB_true h2).2;omega
    subst hb hg
    go_wp2_with (go_at_call 71;refine calls_to (Has_any _ _ _ (by assumption)) ?_)
    refine (avail_any p s b g w1 hsk HR.out.fm hbn hgn).mono ?_
    rintro e w2 ⟨rfl,hB2⟩
    go_wp2_with fail
    go_ret2
    exact ⟨by rw [HE.out.1,HE.out.2];rfl,hBw.trans (hB2.mono hBw.size)⟩
 ·have HE:Hid (availE p s bin good=stateE p s∧availV p s bin good=0):=by
   have e:availE p s bin good=stateE p s:=by unfold availE;rw [if_neg h0]
   exact ⟨e,by unfold availV;rw [e,if_neg h0]⟩
  go_wp2_with fail
  go_ret2
  exact ⟨by rw [HE.out.1,HE.out.2];rfl,hBw⟩
set_option maxHeartbeats 4000000 in
theorem Free_any (p:Pl) (s:St) (bin:Int) (w:World) (hp:p.At w) (hs:s.At w) :
  Calls Tryz.prog 88 #[p.val,s.val,.int .i64 bin] w fun e w'=>e = .returned (.tuple #[.int .i64 (freeV p s bin),.int .i64 (freeE p s bin)])∧Below w.heap.size w w':=by
 obtain ⟨W0,hW,hWB,X0⟩:∃ W,((w.alloc (.cells #[.slice p.ab p.nb p.cb,.slice p.sa p.ns p.cs] 25)).alloc (.cells s.cells 31))=W∧Below w.heap.size w W∧Boxes W w.heap.size (w.heap.size+1) p s:=⟨_,rfl,two_below _ _ _,boxes_new w p s _ _⟩
 have HC:Hid (∀ wk,Below W0.heap.size W0 wk→Boxes wk w.heap.size (w.heap.size+1) p s∧p.At wk∧s.At wk∧Below w.heap.size w wk):=fun wk h=>⟨X0.below h,(hp.below hWB).below h,(hs.below hWB).below h,hWB.trans (h.mono hWB.size)⟩
 have HW:Hid ((w.alloc (.cells #[.slice p.ab p.nb p.cb,.slice p.sa p.ns p.cs] 25)).alloc (.cells #[.slice s.on.a s.on.n s.on.c,.slice s.os.a s.os.n s.os.c,.slice s.hs.a s.hs.n s.hs.c,.slice s.ms.a s.ms.n s.ms.c,.slice s.si.a s.si.n s.si.c,.slice s.so.a s.so.n s.so.c,.slice s.sf.a s.sf.n s.sf.c] 31)=W0):=hW
 have leb:=hp.leb
 have capb:=hp.capb
 have les:=hp.les
 have caps:=hp.caps
 unfold maxLen at capb caps
 clear hW X0
 unfold Pl.val St.val
 go_enter Tryz.func88,Tryz.ntmps88
 go_wp2_with fail
 rw [HW.out]
 obtain ⟨X,hpk,hsk,hBw⟩:=HC.out W0 (Below.refl _ _)
 refine (stateCheck_any p s W0 hpk hsk).mono ?_
 rintro e w1 ⟨rfl,hB⟩
 clear X hpk hsk hBw
 obtain ⟨X,hpk,hsk,hBw⟩:=HC.out w1 hB
 obtain ⟨⟨l1,d0,d1⟩,l2,c0,c1,c2,c3,c4,c5,c6⟩:=X
 by_cases h0:stateE p s=0
 ·have HR:Hid (RightT p s):=rightT h0
  have H0:Hid (stateE p s=0):=h0
  rw [h0]
  clear h0
  go_wp2_with fail
  refine (Used_any p s.on bin w1 hpk hsk.on).mono ?_
  rintro e w2 ⟨rfl,hB2⟩
  have hBn:=hB.trans (hB2.mono hB.size)
  clear hB2 hB l1 d0 d1 l2 c0 c1 c2 c3 c4 c5 c6 hpk hsk hBw
  obtain ⟨X,hpk,hsk,hBw⟩:=HC.out w2 hBn
  obtain ⟨⟨l1,d0,d1⟩,l2,c0,c1,c2,c3,c4,c5,c6⟩:=X
  by_cases h1:usedE p s.on bin=0
  ·have hin:inB bin 0 ((s.on.n:Int) - 1)=true:=by
    cases hq:inB bin 0 ((s.on.n:Int) - 1)
    ·unfold usedE at h1;rw [HR.out.fm.sh0,hq] at h1;simp at h1
    ·rfl
   have hon:=HR.out.fm.sh.n
   obtain ⟨b,hb⟩:=Int.eq_ofNat_of_zero_le (inB_true hin).1
   have hbn:b<p.nb:=by have:=(inB_true hin).2;omega
   have HE:Hid (freeE p s bin=0∧freeV p s bin=freeZ p s b∧usedV p s.on bin=usedTo (s.on.r b).z p.zs p.ns):=by
    have e:freeE p s bin=0:=by unfold freeE;rw [if_pos H0.out,h1]
    exact ⟨e,by unfold freeV;rw [e,if_pos rfl,hb];rfl,by unfold usedV;rw [h1,hb];rfl⟩
   rw [h1,HE.out.2.2]
   have hus:=usedTo_bd (z:=(s.on.r b).z) (zs:=p.zs) (n:=p.ns) (fun j hj=>⟨HR.out.fm.sh.num b (by omega) j hj,HR.out.fm.sh.pl.sizes j hj⟩) p.ns (Nat.le_refl _)
   have ns3:=HR.out.fm.sh.pl.ns3
   have ms8:=HR.out.fm.ms8
   have hroom:0≤(p.zb b).room∧(p.zb b).room≤1000:=by
    have:=HR.out.fm.sh.pl.bins b hbn
    simp only [badBin,Bool.or_eq_false_iff,Bool.not_eq_false'] at this
    exact inB_true this.1.1
   have TB:Hid (∀ k,k≤s.ms.n→0≤takeTo p s b k∧takeTo p s b k≤1800*k):=takeTo_bd HR.out.fm b
   have TH:Hid (freeZ p s b=(p.zb b).room - usedTo (s.on.r b).z p.zs p.ns - takeTo p s b s.ms.n):=rfl
   obtain ⟨bb,bo,hba,hblt,y0,y1,y2,y3⟩:=hpk.bins b hbn
   rw [hba] at d0
   have mle:=hsk.ms.le
   have mcap:=hsk.ms.cap
   unfold maxLen at mcap
   have HF:Hid (Formed p s):=HR.out.fm
   clear hba h1 hin hpk hsk hon HR
   subst hb
   generalize usedTo (s.on.r b).z p.zs p.ns=US at *
   generalize (p.zb b).room=RM at *
   have q1:(0:Int)≤(b:Int):=by omega
   go_wp2_with fail
   go_loopw [11,42] (fun u i wk=>∃ k:Nat,k≤s.ms.n∧i = .int .i64 k∧u = .int .i64 (RM - US - takeTo p s b k)∧Below W0.heap.size W0 wk) (fun _ i _=>s.ms.n - (intOf i).toNat)
   case atStart=>exact ⟨0,Nat.zero_le _,rfl,by simp [takeTo],hBn⟩
   case round =>
    clear hBn hBw l1 d0 d1 l2 c0 c1 c2 c3 c4 c5 c6 y0 y1 y2 y3 hblt
    obtain ⟨k,hk,rfl,rfl,hB⟩:=hrel
    have m1:=TB.out k hk
    by_cases hlt:k<s.ms.n
    ·obtain ⟨X,hpk,hsk,hBw⟩:=HC.out wr hB
     obtain ⟨⟨l1,d0,d1⟩,l2,-⟩:=X
     obtain ⟨b1,o1,hma,hb1,z0,z1,z2,z3⟩:=hsk.ms.hds k hlt
     have hm:=badMove_no (HF.out.move k hlt)
     obtain ⟨g,hg⟩:=Int.eq_ofNat_of_zero_le hm.1.1
     have hgn:g<p.ns:=by omega
     obtain ⟨b2,o2,hsa,hb2,y0⟩:=hpk.sizes g hgn
     have hzs:=HF.out.sh.pl.sizes g hgn
     have hnn:=hm.2.2.2.2
     have hmul:=mul_bd (a:=(s.ms.z k).n) (b:=p.zs g) ⟨by omega,hnn.2⟩ hzs
     have H1:Hid (((s.ms.z k).b=b→takeTo p s b (k+1)=takeTo p s b k+(s.ms.z k).n*p.zs g)∧(¬ (s.ms.z k).b=b→takeTo p s b (k+1)=takeTo p s b k)):=⟨fun h=>by rw [takeTo_hit h,hg];rfl,takeTo_miss⟩
     rw [hg] at z0
     rw [hsa] at d1
     obtain ⟨W1,hW1,hB1,hY⟩:∃ W1,wr.alloc (.cells #[.int .i64 g,.int .i64 (s.ms.z k).l,.int .i64 (s.ms.z k).b,.int .i64 (s.ms.z k).n] 63)=W1∧Below W0.heap.size W0 W1∧Blk W1 wr.heap.size 63 4 (fun j=>(#[.int .i64 g,.int .i64 (s.ms.z k).l,.int .i64 (s.ms.z k).b,.int .i64 (s.ms.z k).n]:Array Value).getD j default):=⟨_,rfl,hB.alloc hB.size _,Blk.mk' rfl rfl⟩
     have HV:Hid (wr.alloc (.cells #[.int .i64 g,.int .i64 (s.ms.z k).l,.int .i64 (s.ms.z k).b,.int .i64 (s.ms.z k).n] 63)=W1):=hW1
     have hBa:Below wr.heap.size wr W1:=by rw [← hW1];exact (Below.refl _ _).alloc (Nat.le_refl _) _
     have r0:∀ d os,(grow (redrawn W1 d) os).cell? ⟨wr.heap.size,0,none⟩=some (.int .i64 g):=fun d os=>cell_regrown (hY.cell (j:=0) (by decide)) d os
     have r3:∀ d os,(grow (redrawn W1 d) os).cell? ⟨wr.heap.size,3,none⟩=some (.int .i64 (s.ms.z k).n):=fun d os=>cell_regrown (hY.cell (j:=3) (by decide)) d os
     have r4:∀ d os,(grow (redrawn W1 d) os).cell? ⟨w.heap.size,1,none⟩=some (.slice (some ⟨b2,o2,none⟩) p.ns p.cs):=fun d os=>cell_regrown ((hBa.cell (p:=⟨w.heap.size,1,none⟩) l1).trans d1) d os
     have r5:∀ d os,(grow (redrawn W1 d) os).cell? ⟨b2,o2+g,none⟩=some (.int .i64 (p.zs g)):=fun d os=>cell_regrown ((hBa.cell (p:=⟨b2,o2+g,none⟩) hb2).trans y0) d os
     have q2:(0:Int)≤(g:Int):=by omega
     have q3:(0:Int)≤(k:Int):=by omega
     rw [hma]
     clear hma hsa hg hm hW1 hpk hsk hBw y0 hBa d0 d1
     generalize takeTo p s b k=U at *
     generalize (s.ms.z k).b=BB at *
     generalize (s.ms.z k).l=LL at *
     generalize (s.ms.z k).n=NN at *
     generalize p.zs g=ZG at *
     cases h1:(BB==(b:Int))
     ·have hm:=H1.out.2 (by simpa using h1)
      have HM:Hid (takeTo p s b (k+1)=U):=hm
      clear hm H1 r0 r3 r4 r5
      go_wp2_with fail
      rw [HV.out]
      go_roundw
      case rel=>exact ⟨k+1,by omega,by go_num,by rw [HM.out],hB1⟩
      case measure=>simp [intOf];omega
     ·have hm:=H1.out.1 (by simpa using h1)
      have HM:Hid (takeTo p s b (k+1)=U+NN*ZG):=hm
      clear hm H1
      go_wp2_with fail
      rw [HV.out]
      generalize hPR:NN*ZG=PR at *
      refine wp_region_quiet_below (by kernel_rfl) (by kernel_rfl) ?_
      repeat (go_big_quiet_step (fail))
      refine wpQuiet_nil ?_
      intro _ hw'
      obtain ⟨⟨dq,osq⟩,hw''⟩:=hw'
      subst hw''
      have hC:=hB1.trans ((below_regrown W1 dq osq).mono hB1.size)
      clear r0 r3 r4 r5 hY hB1 HV
      generalize grow (redrawn W1 dq) osq=wz at *
      go_wp2_with fail
      go_roundw
      case rel=>exact ⟨k+1,by omega,by go_num,by rw [HM.out,Int.sub_sub _ U],hC⟩
      case measure=>simp [intOf];omega
    ·have hkn:k=s.ms.n:=by omega
     subst hkn
     go_wp2_with fail
     go_ret2
     exact ⟨by rw [HE.out.1,HE.out.2.1,TH.out];rfl,hWB.trans (hB.mono hWB.size)⟩
  ·have HE:Hid (freeE p s bin=usedE p s.on bin∧freeV p s bin=0):=by
    have e:freeE p s bin=usedE p s.on bin:=by unfold freeE;rw [if_pos H0.out]
    exact ⟨e,by unfold freeV;rw [e,if_neg h1]⟩
   go_wp2_with fail
   go_ret2
   exact ⟨by rw [HE.out.1,HE.out.2];rfl,hBw⟩
 ·have HE:Hid (freeE p s bin=stateE p s∧freeV p s bin=0):=by
   have e:freeE p s bin=stateE p s:=by unfold freeE;rw [if_neg h0]
   exact ⟨e,by unfold freeV;rw [e,if_neg h0]⟩
  go_wp2_with fail
  go_ret2
  exact ⟨by rw [HE.out.1,HE.out.2];rfl,hBw⟩
def BegunS (p:Pl) (s:St):Prop:=s.on.n=p.nb∧(∀ i,i<p.nb→(s.on.r i).n=p.ns∧∀ j,j<p.ns→(s.on.r i).z j=0)∧s.os.n=0∧s.hs.n=0∧s.ms.n=0 ∧
 (s.si.n=p.ns∧∀ j,j<p.ns→s.si.z j=0)∧(s.so.n=p.ns∧∀ j,j<p.ns→s.so.z j=0)∧(s.sf.n=p.ns∧∀ j,j<p.ns→s.sf.z j=0)
def NoneS (s:St):Prop:=s.on.n=0∧s.os.n=0∧s.hs.n=0∧s.ms.n=0∧s.si.n=0∧s.so.n=0∧s.sf.n=0
def BeginOK (p:Pl) (s:St):Prop:=(planE p=0→BegunS p s)∧(¬ planE p=0→NoneS s)
def noneS:St:=⟨⟨none,0,0,fun _=>⟨none,0,0,fun _=>0⟩⟩,⟨none,0,0,fun _=>⟨0,⟨none,0,0,fun _=>⟨0,0,0,0⟩⟩⟩⟩,⟨none,0,0,fun _=>⟨0,0,0,0⟩⟩,⟨none,0,0,fun _=>⟨0,0,0,0⟩⟩,⟨none,0,0,fun _=>0⟩,⟨none,0,0,fun _=>0⟩,⟨none,0,0,fun _=>0⟩⟩
theorem Rw.none (w:World):Rw.At w ⟨.none,0,0,fun _=>0⟩:=⟨Nat.le_refl _,Nat.zero_le _,fun i hi=>absurd hi (Nat.not_lt_zero _)⟩
theorem Hs.none (w:World):Hs.At w ⟨.none,0,0,fun _=>⟨0,0,0,0⟩⟩:=⟨Nat.le_refl _,Nat.zero_le _,fun i hi=>absurd hi (Nat.not_lt_zero _),fun _=>rfl⟩
theorem noneS_at (w:World):noneS.At w :=
 ⟨⟨Nat.le_refl _,Nat.zero_le _,fun i hi=>absurd hi (Nat.not_lt_zero _)⟩,⟨Nat.le_refl _,Nat.zero_le _,fun i hi=>absurd hi (Nat.not_lt_zero _)⟩,Hs.none w,Hs.none w,Rw.none w,Rw.none w,Rw.none w⟩
theorem madeI {j n:Nat} (hj:j<n):(madeCells (Value.int .i64 0).cells n).toList.getD j default = .int .i64 0:=by
 simp [madeCells,Value.cells,hj,Nat.mod_one]
theorem madeS {j n:Nat} (hj:j<n):(madeCells (Value.slice .none 0 0).cells n).toList.getD j default = .slice .none 0 0:=by
 simp [madeCells,Value.cells,hj,Nat.mod_one]
theorem infoI2:(Tryz.prog.info? 3).map (fun i=>(i.zero,i.size,i.bytes))=some (some (.int .i64 0),1,8):=by kernel_rfl
theorem infoS2:(Tryz.prog.info? 23).map (fun i=>(i.zero,i.size,i.bytes))=some (some (.slice .none 0 0),1,24):=by kernel_rfl
set_option maxHeartbeats 1000000 in
theorem Begin1_any (B:Nat) (p:Pl) (w:World) (ns3:p.ns≤3) (hB:B<w.heap.size) (c1:w.cell? ⟨B,1,none⟩=some (.slice p.sa p.ns p.cs)) :
  Calls Tryz.prog 62 #[.pointer (some ⟨B,0,none⟩)] w fun e w'=>e = .returned (.slice (some ⟨w.heap.size,0,none⟩) p.ns p.ns)∧Blk w' w.heap.size 3 p.ns (fun _ => .int .i64 0)∧Below w.heap.size w w':=by
 obtain ⟨i0,hi,hz0,hz1,hz2⟩:=info_parts infoI2
 go_enter Tryz.func62,Tryz.ntmps62
 go_wp2_with (at_make;refine wpList_make_full _ rfl _ _ 23 rfl w.heap.size 3 i0 (.int .i64 0) 1 Tryz.underlying23 hi hz0 hz1 .i64 .i64 _ _ p.ns rfl rfl rfl rfl (by rw [hz2];omega) (by unfold maxLen;omega) (Nat.le_refl _) ?_;intro w1 hown hgrow)
 go_ret
 obtain ⟨g,c',hv,_,_,_,hblk⟩:=Blk.ofOwns hown (by simp)
 simp only [Value.slice.injEq,Option.some.injEq,Addr.mk.injEq,and_true] at hv
 obtain ⟨rfl,-,-⟩:=hv
 rw [Nat.mul_one] at hblk
 exact ⟨rfl,hblk.congr (fun j hj=>madeI hj),(Below.refl _ w).grown hgrow (Nat.le_refl _) (by intro k hk;cases hk)⟩
theorem zeroRw {w:World} {g n:Nat} {e:TypeId} (h:Blk w g e n (fun _ => .int .i64 0)) (hn:n≤3):Rw.At w ⟨some ⟨g,0,.none⟩,n,n,fun _=>0⟩ :=
 ⟨Nat.le_refl _,by show n≤maxLen;unfold maxLen;omega,fun i hi=>⟨g,0,rfl,h.lt,by rw [Nat.zero_add];exact h.cell hi⟩⟩
def set7 (w:World) (b:Nat) (v0 v1 v2 v3 v4 v5 v6:Value):World :=
 ((((((w.setCell ⟨b,0,none⟩ v0).setCell ⟨b,1,none⟩ v1).setCell ⟨b,2,none⟩ v2).setCell ⟨b,3,none⟩ v3).setCell ⟨b,4,none⟩ v4).setCell ⟨b,5,none⟩ v5).setCell ⟨b,6,none⟩ v6
theorem set7_blk {w:World} {b:Nat} {e:TypeId} {f:Nat→Value} (h:Blk w b e 7 f) (v0 v1 v2 v3 v4 v5 v6:Value):Blk (set7 w b v0 v1 v2 v3 v4 v5 v6) b e 7 (fun j=>(#[v0,v1,v2,v3,v4,v5,v6]:Array Value).getD j default) :=
 (((((((h.set 0 v0).set 1 v1).set 2 v2).set 3 v3).set 4 v4).set 5 v5).set 6 v6).congr fun j hj=>by match j,hj with | 0,_=>rfl | 1,_=>rfl | 2,_=>rfl | 3,_=>rfl | 4,_=>rfl | 5,_=>rfl | 6,_=>rfl
theorem set7_other {w:World} {b g:Nat} {e:TypeId} {n:Nat} {f:Nat→Value} (h:Blk w g e n f) (hne:g≠b) (v0 v1 v2 v3 v4 v5 v6:Value):Blk (set7 w b v0 v1 v2 v3 v4 v5 v6) g e n f :=
 ((((((h.other (a:=⟨b,0,none⟩) hne v0).other (a:=⟨b,1,none⟩) hne v1).other (a:=⟨b,2,none⟩) hne v2).other (a:=⟨b,3,none⟩) hne v3).other (a:=⟨b,4,none⟩) hne v4).other (a:=⟨b,5,none⟩) hne v5).other (a:=⟨b,6,none⟩) hne v6
theorem set7_below {n:Nat} {A w:World} {b:Nat} (h:Below n A w) (hb:n≤b) (v0 v1 v2 v3 v4 v5 v6:Value):Below n A (set7 w b v0 v1 v2 v3 v4 v5 v6) :=
 ((((((h.setCell (p:=⟨b,0,none⟩) hb v0).setCell (p:=⟨b,1,none⟩) hb v1).setCell (p:=⟨b,2,none⟩) hb v2).setCell (p:=⟨b,3,none⟩) hb v3).setCell (p:=⟨b,4,none⟩) hb v4).setCell (p:=⟨b,5,none⟩) hb v5).setCell (p:=⟨b,6,none⟩) hb v6
theorem box_cells {w:World} {b:Nat} {e:TypeId} {v0 v1 v2 v3 v4 v5 v6:Value} (h:Blk w b e 7 (fun j=>(#[v0,v1,v2,v3,v4,v5,v6]:Array Value).getD j default)) :
  w.cell? ⟨b,0,none⟩=some v0∧w.cell? ⟨b,1,none⟩=some v1∧w.cell? ⟨b,2,none⟩=some v2∧w.cell? ⟨b,3,none⟩=some v3∧w.cell? ⟨b,4,none⟩=some v4∧w.cell? ⟨b,5,none⟩=some v5∧w.cell? ⟨b,6,none⟩=some v6 :=
 ⟨h.cell (j:=0) (by decide),h.cell (j:=1) (by decide),h.cell (j:=2) (by decide),h.cell (j:=3) (by decide),h.cell (j:=4) (by decide),h.cell (j:=5) (by decide),h.cell (j:=6) (by decide)⟩
end Go.Proofs.YtbcacebifpagpagGreat
namespace Go.Proofs.YtbcacebifpagpagGreat
open Go.RowKit
set_option linter.unusedVariables false
def wpAnyT (P:Program) (ops:Array Oper) (Q:Exit→Act→World→Prop) (S:World→Prop) (T:Nat→Bool):Nat→Array Bool→Act→World→Prop
 | 0,listed,a,w=>Region.ready .any ops listed=[]∧Q .normal a w
 | fuel+1,listed,a,w=>(Region.ready .any ops listed=[]→Q .normal a w) ∧
   ∀ i∈Region.ready .any ops listed,wpOp P ops Q i (fun a' w'=>(T i=false→S w')∧wpAnyT P ops Q S T fuel (listed.setIfInBounds i true) a' w') a w
theorem wpAny_of_T {P:Program} {ops:Array Oper} {Q:Exit→Act→World→Prop} {S:World→Prop} {T:Nat→Bool}:∀ (fuel:Nat) (listed:Array Bool) (a:Act) (w:World),wpAnyT P ops Q S T fuel listed a w→wpAny P .any ops Q fuel listed a w
 | 0,_,_,_,h=>h
 | fuel+1,_,_,_,h=>⟨h.1,fun i hi=>wpOp_mono (fun a' w' h'=>wpAny_of_T fuel _ a' w' h'.2) (h.2 i hi)⟩
def Closed (ops:Array Oper) (listed:Array Bool):Prop:=∀ j,listed.getD j false=true→∀ d∈depsOf ops j,listed.getD d false=true
def reach (ops:Array Oper):Nat→Nat→Nat→Bool
 | 0,_,_=>false
 | f+1,j,i=>(depsOf ops j).any (fun d=>d==i||reach ops f d i)
theorem reach_listed {ops:Array Oper} {listed:Array Bool} (hc:Closed ops listed):∀ (f j i:Nat),(∀ d∈depsOf ops j,listed.getD d false=true)→reach ops f j i=true→listed.getD i false=true
 | 0,_,_,_,h=>by simp [reach] at h
 | f+1,j,i,hd,h=>by
  unfold reach at h
  obtain ⟨d,hd1,hd2⟩:=List.any_eq_true.1 h
  simp only [Bool.or_eq_true,beq_iff_eq] at hd2
  rcases hd2 with rfl | hd2
  ·exact hd d hd1
  ·exact reach_listed hc f d i (hc d (hd d hd1)) hd2
theorem ready_deps {ops:Array Oper} {listed:Array Bool} {j:Nat} (h:j∈Region.ready .any ops listed):∀ d∈depsOf ops j,listed.getD d false=true:=fun d hd=>by
 obtain ⟨_,o,ho,hdep⟩:=mem_ready.1 h
 unfold depsOf at hd
 rw [ho] at hd
 obtain ⟨e,he,rfl⟩:=List.mem_map.1 hd
 have:=List.mem_filter.1 he
 exact hdep e (by simpa using this.1) this.2
theorem getD_mono {listed:Array Bool} {i d:Nat} (h:listed.getD d false=true):(listed.setIfInBounds i true).getD d false=true:=by
 by_cases hid:i=d
 ·subst hid
  by_cases hl:i<listed.size
  ·simp [Array.getD,hl]
  ·simp [Array.getD,hl] at h
 ·rw [getD_set_ne false hid];exact h
theorem Closed.set {ops:Array Oper} {listed:Array Bool} (hc:Closed ops listed) {i:Nat} (hi:i∈Region.ready .any ops listed):Closed ops (listed.setIfInBounds i true):=fun j hj d hd=>by
 by_cases hij:i=j
 ·subst hij;exact getD_mono (ready_deps hi d hd)
 ·rw [getD_set_ne false hij] at hj
  exact getD_mono (hc j hj d hd)
theorem Closed.none (ops:Array Oper) (n:Nat):Closed ops (Array.replicate n false):=fun j hj=>by
 by_cases hl:j<n<;>simp [Array.getD,hl] at hj
theorem wpAnyT_first {P:Program} {ops:Array Oper} {Q:Exit→Act→World→Prop} {S:World→Prop} {T:Nat→Bool} {N:Nat} {i:Nat} {oi:Oper} {v:Value} (hi:ops[i]?=some oi) (hsel:∀ (j:Nat) (o:Oper) cs b,ops[j]?=some o→o.op ≠ .select cs b)
  (hQ:∀ c a w,Q (.panic c) (a.put oi.dst v) w→Q (.panic c) a w) (hT:∀ j,T j=true→reach ops N j i=true) (hTi:T i=false) :
  ∀ (fuel:Nat) (listed:Array Bool) (a:Act) (w:World),
   (∀ j oj,ops[j]?=some oj→j≠i→listed.getD j true=false→(∀ e∈oj.after,Region.binds .any e=true→e.on≠i)→oi.apart ops oj=true) →
   i∈Region.ready .any ops listed→Closed ops listed→YieldsIf P ops S oi v a→S w →
   wpAnyT P ops Q S T fuel (listed.setIfInBounds i true) (a.put oi.dst v) w→wpAnyT P ops Q S T (fuel+1) listed a w:=by
 intro fuel
 induction fuel with
 | zero =>
  intro listed a w _ hr _ hy hS H
  refine ⟨fun h=>(by rw [h] at hr;cases hr),fun j hj => ?_⟩
  by_cases hji:j=i
  ·subst hji;exact hy.wpOp hi hS ⟨fun _=>hS,H⟩
  ·have:=ready_mono hj hji
   rw [H.1] at this
   cases this
 | succ fuel ih =>
  intro listed a w hfree hr hc hy hS H
  refine ⟨fun h=>(by rw [h] at hr;cases hr),fun j hj => ?_⟩
  by_cases hji:j=i
  ·subst hji;exact hy.wpOp hi hS ⟨fun _=>hS,H⟩
  ·have h1:=H.2 j (ready_mono hj hji)
   obtain ⟨hjun,oj,hoj,hall⟩:=mem_ready.1 hj
   have hiun:¬ listed.getD i false=true:=fun h1=>by
    have h0:=(mem_ready.1 hr).1
    rcases Nat.lt_or_ge i listed.size with h' | h'
    ·simp [h'] at h0 h1;rw [h0] at h1;cases h1
    ·simp [Array.getElem?_eq_none h'] at h1
   have hnot:∀ e∈oj.after,Region.binds .any e=true→e.on≠i:=fun e he hb heq=>by
    have h1:=hall e he hb
    rw [heq] at h1
    exact hiun h1
   have hTj:T j=false:=by
    cases hq:T j
    ·rfl
    ·exact absurd (reach_listed hc N j i (ready_deps hj) (hT j hq)) hiun
   have h2:=wpOp_putIf hoj (hfree j oj hoj hji hjun hnot) (fun cs b=>hsel i oi cs b hi) (fun cs b=>hsel j oj cs b hoj) hQ hy h1
   have hfree':∀ k ok,ops[k]?=some ok→k≠i→(listed.setIfInBounds j true).getD k true=false →
     (∀ e∈ok.after,Region.binds .any e=true→e.on≠i)→oi.apart ops ok=true:=fun k ok hk hki hun hno=>by
    refine hfree k ok hk hki ?_ hno
    by_cases hjk:j=k
    ·subst hjk;exact hjun
    ·rw [getD_set_ne true hjk] at hun;exact hun
   refine wpOp_mono (fun a' w' h3=>⟨h3.2.1,ih (listed.setIfInBounds j true) a' w' hfree' (ready_mono hr (Ne.symm hji)) (hc.set hj) h3.1 (h3.2.1 hTj) ?_⟩) h2
   rw [Array.setIfInBounds_comm _ _ hji]
   exact h3.2.2
theorem wpAnyT_firsts {P:Program} {l:List Oper} {Q:Exit→Act→World→Prop} {S:World→Prop} {T:Nat→Bool} {N:Nat} {K:Act→Prop} {w:World} {fuel:Nat} (hs:Region.noSelect l.toArray=true) (hS:S w) (hQ:∀ c a a' w,Q (.panic c) a w→Q (.panic c) a' w) :
  ∀ (ks:List Nat) (os:List Oper) (listed:Array Bool) (a:Act),firstsB l.toArray ks listed=true→(∀ k∈ks,T k=false∧∀ j,T j=true→reach l.toArray N j k=true)→Closed l.toArray listed→ks.map (fun k=>l[k]?)=os.map some→(os.all vKind2)=true →
   wpQuiet P l.toArray S K os a→(∀ a,K a→Closed l.toArray (mark listed ks)→wpAnyT P l.toArray Q S T fuel (mark listed ks) a w)→wpAnyT P l.toArray Q S T (ks.length+fuel) listed a w
 | [],[],listed,a,_,_,hc,_,_,h,hK=>by rw [List.length_nil,Nat.zero_add];exact hK a h hc
 | k :: ks,o :: os,listed,a,hB,hTk,hc,hk,hv,h,hK=>by
  simp only [List.map_cons,List.cons.injEq] at hk
  simp only [List.all_cons,Bool.and_eq_true] at hv
  simp only [firstsB,Bool.and_eq_true] at hB
  rw [List.length_cons,Nat.add_right_comm]
  have hready:k∈Region.ready .any l.toArray listed:=by simpa using hB.1.1
  have go:∀ v,YieldsIf P l.toArray S o v a→wpAnyT P l.toArray Q S T (ks.length+fuel) (listed.setIfInBounds k true) (a.put o.dst v) w→wpAnyT P l.toArray Q S T (ks.length+fuel+1) listed a w :=
   fun v hy h'=>wpAnyT_first (N:=N) (by simpa using hk.1) (Region.noSelect_spec hs) (fun c a w hq=>hQ _ _ _ _ hq) (hTk k (by simp)).2 (hTk k (by simp)).1 _ listed a w (Region.free_spec (by simpa using hk.1) hB.1.2) hready hc hy hS h'
  have again:=fun (a:Act) (hq:wpQuiet P l.toArray S K os a)=>wpAnyT_firsts (N:=N) (T:=T) (fuel:=fuel) hs hS hQ ks os _ a hB.2 (fun k' hk'=>hTk k' (by simp [hk'])) (hc.set hready) hk.2 hv.2 hq hK
  unfold wpQuiet at h
  split at h
  ·rename_i hw
   obtain ⟨v,h1,h2⟩:=h
   refine go v (.inl ⟨hw,fun w' hS => ?_⟩) (again _ h2)
   have:=h1 w' hS
   unfold Oper.quietAt at this
   cases hr:(execOp a.eval o).run P w' with
   | ok n w2 =>
    rw [hr] at this
    obtain ⟨u,rfl⟩:=vKind2_spec hv.1 hr
    simp only [Oper.quietUpon] at this
    rw [this.1,this.2]
   | halt x w2=>rw [hr] at this;exact this.elim
  ·rename_i hw
   exact go undef (.inr ⟨by simpa using hw,rfl⟩) (again _ h)
 | [],_ :: _,_,_,_,_,_,hk,_,_,_=>by simp at hk
 | _ :: _,[],_,_,_,_,_,hk,_,_,_=>by simp at hk
def Late (t:Bool) (S:World→Prop) (w:World):Prop:=t=false→S w
theorem Late.yes {S:World→Prop} {w:World}:Late true S w:=fun h=>by cases h
theorem Late.no {S:World→Prop} {w:World} (h:S w):Late false S w:=fun _=>h
def wpSeq (P:Program) (ops:Array Oper) (Q:Exit→Act→World→Prop) (S:World→Prop):List (Bool × Nat)→Act→World→Prop
 | [],a,w=>Q .normal a w
 | (t,i) :: r,a,w=>wpOp P ops Q i (fun a' w'=>Late t S w'∧wpSeq P ops Q S r a' w') a w
def seqB (ops:Array Oper):List (Bool × Nat)→Array Bool→Bool
 | [],listed=>Region.ready .any ops listed==[]
 | (t,i) :: r,listed=>Region.ready .any ops listed==[i]&&seqB ops r (listed.setIfInBounds i true)
theorem wpAnyT_seq {P:Program} {ops:Array Oper} {Q:Exit→Act→World→Prop} {S:World→Prop} {T:Nat→Bool}:∀ (ord:List (Bool × Nat)) (listed:Array Bool) (a:Act) (w:World),
   seqB ops ord listed=true→(∀ t i,(t,i)∈ord→T i=t)→wpSeq P ops Q S ord a w→wpAnyT P ops Q S T ord.length listed a w
 | [],listed,a,w,hB,_,h=>⟨by simpa [seqB] using hB,h⟩
 | (t,i) :: r,listed,a,w,hB,hT,h=>by
  simp only [seqB,Bool.and_eq_true,beq_iff_eq] at hB
  refine ⟨fun h0=>absurd (hB.1.symm.trans h0) (by simp),fun j hj => ?_⟩
  rw [hB.1,List.mem_singleton] at hj
  subst hj
  refine wpOp_mono (fun a' w' h'=>⟨?_,wpAnyT_seq r _ a' w' hB.2 (fun t i hti=>hT t i (by simp [hti])) h'.2⟩) h
  rw [hT t j (by simp)]
  exact h'.1
theorem wpList_end {P:Program} {ops:Array Oper} {K:Act→World→Prop} {Q:Exit→Act→World→Prop} {a:Act} {w:World} (h:K a w):wpList P ops (Exit.then K Q) [] a w:=by unfold wpList;exact h
theorem wpSeq_one {P:Program} {l:List Oper} {Q:Exit→Act→World→Prop} {S:World→Prop} {r:List (Bool × Nat)} {t:Bool} (k:Nat) {o:Oper} {a:Act} {w:World} (hk:l[k]?=some o)
  (h:wpList P l.toArray (Exit.then (fun a' w'=>Late t S w'∧wpSeq P l.toArray Q S r a' w') Q) [o] a w):wpSeq P l.toArray Q S ((t,k) :: r) a w :=
 wpOp_list k hk h
def madeB5 (ops:Array Oper) (rem:List Nat) (L:Array Bool):Bool :=
 (List.range ops.size).all (fun i=>L.getD i true||rem.contains i||rem.all (fun r=>reach ops ops.size i r)) &&
 topoB ops L [] rem&&rem.all (fun r=>decide (r<ops.size) && !L.getD r true)&&decide (L.size=ops.size)&&decide ((rem.map (dstOf ops)).Nodup)
theorem made_aux5 {P:Program} {ops:Array Oper} {Q:Exit→Act→World→Prop} {S:World→Prop} {T:Nat→Bool} {rem:List Nat} {L:Array Bool} {a1:Act} {D:Nat→Value→List Nat→World→Prop} {fuel:Nat} (hB:madeB5 ops rem L=true) (hT:∀ r∈rem,T r=false)
  (mono:∀ j∈rem,∀ v g w w',Below w.heap.size w w'→D j v g w→D j v g w') (lt:∀ j∈rem,∀ v g w,D j v g w→∀ x∈g,x<w.heap.size)
  (step:∀ i∈rem,∀ (V:Nat→Value) (G:Nat→List Nat) (w:World) (K:Act→World→Prop),S w→(∀ d∈depsOf ops i,d∈rem→D d (V d) (G d) w) →
   (∀ v g w',S w'→Below w.heap.size w w'→(∀ x∈g,w.heap.size≤x)→D i v g w'→K ((putAll ops rem V a1).put (dstOf ops i) v) w')→wpOp P ops Q i K (putAll ops rem V a1) w)
  (done:∀ (V:Nat→Value) (G:Nat→List Nat) (w:World),S w→(∀ j∈rem,D j (V j) (G j) w)→(∀ j∈rem,∀ k∈rem,j≠k→∀ x∈G j,x ∉ G k)→wpAnyT P ops Q S T fuel (mark L rem) (putAll ops rem V a1) w) :
  ∀ (m:Nat) (listed:Array Bool) (V:Nat→Value) (G:Nat→List Nat) (w:World),(rem.filter (fun r => !listed.getD r true)).length=m→listed.size=ops.size→(∀ j,j ∉ rem→listed[j]?=L[j]?)→Closed ops listed→S w→(∀ j∈rem,listed.getD j true=true→D j (V j) (G j) w) →
   (∀ j∈rem,∀ k∈rem,listed.getD j true=true→listed.getD k true=true→j≠k→∀ x∈G j,x ∉ G k)→wpAnyT P ops Q S T (m+fuel) listed (putAll ops rem V a1) w:=by
 simp only [madeB5,Bool.and_eq_true,decide_eq_true_eq] at hB
 obtain ⟨⟨⟨⟨hoth,htopo⟩,hrem⟩,hLs⟩,hnd⟩:=hB
 have hrem':∀ r∈rem,r<ops.size∧L.getD r true=false:=fun r hr=>by
  have:=List.all_eq_true.1 hrem r hr
  simpa using this
 intro m
 induction m with
 | zero =>
  intro listed V G w hm hsz hag hcl hS hD hA
  have hall:∀ r∈rem,listed.getD r true=true:=fun r hr=>by
   cases hq:listed.getD r true
   ·have:r∈rem.filter (fun r => !listed.getD r true):=List.mem_filter.2 ⟨hr,by simp [hq]⟩
    rw [List.length_eq_zero_iff.1 hm] at this
    simp at this
   ·rfl
  have hl:listed=mark L rem:=by
   apply Array.ext_getElem?
   intro j
   by_cases hj:j<L.size
   ·rw [mark_get rem L j hj]
    by_cases hjr:j∈rem
    ·rw [if_pos hjr]
     have h1:=hall j hjr
     have h2:j<listed.size:=by omega
     simp only [Array.getD,h2,dif_pos] at h1
     simp [h2]
     exact h1
    ·rw [if_neg hjr];exact hag j hjr
   ·rw [Array.getElem?_eq_none (by omega),Array.getElem?_eq_none (by rw [mark_size];omega)]
  rw [Nat.zero_add,hl]
  exact done V G w hS (fun j hj=>hD j hj (hall j hj)) fun j hj k hk=>hA j hj k hk (hall j hj) (hall k hk)
 | succ m ih =>
  intro listed V G w hm hsz hag hcl hS hD hA
  have hex:∃ r∈rem,listed.getD r true=false:=by
   have hne:rem.filter (fun r => !listed.getD r true)≠[]:=fun e=>by rw [e] at hm;simp at hm
   obtain ⟨x,hx⟩:=List.exists_mem_of_ne_nil _ hne
   have:=List.mem_filter.1 hx
   exact ⟨x,this.1,by simpa using this.2⟩
  have hLl:∀ d,L.getD d false=true→listed.getD d false=true:=fun d hd=>by
   by_cases hdr:d∈rem
   ·have h1:=(hrem' d hdr).2
    have h2:d<L.size:=by have:=(hrem' d hdr).1;omega
    simp only [Array.getD,h2,dif_pos] at h1 hd
    rw [h1] at hd;cases hd
   ·have h1:=hag d hdr
    by_cases h2:d<L.size
    ·have h3:d<listed.size:=by omega
     simp only [Array.getD,h2,h3,dif_pos] at hd ⊢
     simp only [Array.getElem?_eq_getElem h2,Array.getElem?_eq_getElem h3,Option.some.injEq] at h1
     rw [Array.getInternal_eq_getElem] at hd ⊢
     rw [h1];exact hd
    ·simp [Array.getD,h2] at hd
  obtain ⟨r0,hr0,hr0r⟩:=topo_ready hsz [] rem htopo hLl (fun d hd=>by simp at hd) (fun r hr=>(hrem' r hr).1) hex
  rw [Nat.add_right_comm]
  refine ⟨fun h0=>absurd (h0 ▸ hr0r) (by simp),fun i hi => ?_⟩
  obtain ⟨hli,o,ho,hdep⟩:=mem_ready.1 hi
  have hdeps:∀ d∈depsOf ops i,listed.getD d false=true:=fun d hd=>by
   unfold depsOf at hd
   rw [ho] at hd
   obtain ⟨e,he,rfl⟩:=List.mem_map.1 hd
   have:=List.mem_filter.1 he
   exact hdep e (by simpa using this.1) this.2
  have hdt:∀ d,listed.getD d false=true→listed.getD d true=true:=fun d hd=>by
   by_cases h2:d<listed.size
   ·simpa [Array.getD,h2] using hd
   ·simp [Array.getD,h2]
  have hir:i∈rem:=by
   cases hc:rem.contains i
   ·exfalso
    have hlt:i<ops.size:=(Array.getElem?_eq_some_iff.1 ho).1
    have hnr:i ∉ rem:=fun h=>by
     have:=List.contains_iff_mem.2 h
     rw [this] at hc;cases hc
    have h1:=List.all_eq_true.1 hoth i (List.mem_range.2 hlt)
    have hLi:L.getD i true=false:=by
     have h2:=hag i hnr
     have h3:i<L.size:=by omega
     have h4:i<listed.size:=by omega
     simp only [Array.getElem?_eq_getElem h3,Array.getElem?_eq_getElem h4,Option.some.injEq] at h2
     simp only [Array.getD,h3,h4,dif_pos] at hli ⊢
     rw [Array.getInternal_eq_getElem] at hli ⊢
     rw [← h2];exact hli
    rw [hLi,hc] at h1
    simp only [Bool.false_or] at h1
    obtain ⟨q,hq,hq2⟩:=hex
    have h5:=List.all_eq_true.1 h1 q hq
    have h6:=hdt q (reach_listed hcl _ i q (ready_deps hi) h5)
    rw [hq2] at h6;cases h6
   ·exact List.contains_iff_mem.1 hc
  refine step i hir V G w _ hS (fun d hd hdr=>hD d hdr (hdt d (hdeps d hd))) (fun v g w' hS' hBel hfr hDi => ?_)
  refine ⟨fun _=>hS',?_⟩
  rw [putAll_put hnd hir]
  have hin:i<listed.size:=by rw [hsz];exact (hrem' i hir).1
  have gset:∀ j,(listed.setIfInBounds i true).getD j true=if j=i then true else listed.getD j true:=fun j=>by
   by_cases hj:j=i
   ·subst hj;simp [Array.getD,hin]
   ·rw [if_neg hj,getD_set_ne true (fun e=>hj e.symm)]
  refine ih (listed.setIfInBounds i true) (upd V i v) (fun j=>if j=i then g else G j) w' ?_ (by simpa using hsz) (fun j hj => ?_) (hcl.set hi) hS' (fun j hj hlj => ?_) (fun j hj k hk hlj hlk hjk x hx => ?_)
  ·have hnodup:rem.Nodup:=by
    exact (List.pairwise_map.1 hnd).imp (fun h e=>h (by rw [e]))
   have e1:(rem.filter (fun r => !listed.getD r true))=rem.filter (fun r => !listed.getD r true):=rfl
   have hcount:(rem.filter (fun r => !(listed.setIfInBounds i true).getD r true))=(rem.filter (fun r => !listed.getD r true)).erase i:=by
    have e2:rem.filter (fun r => !(listed.setIfInBounds i true).getD r true)=(rem.filter (fun r => !listed.getD r true)).filter (fun r=>r !=i):=by
     rw [List.filter_filter]
     refine List.filter_congr fun x hx => ?_
     rw [gset x]
     by_cases hxi:x=i<;>simp [hxi]
    rw [e2,← List.Nodup.erase_eq_filter (hnodup.filter _)]
   rw [hcount,List.length_erase_of_mem (List.mem_filter.2 ⟨hir,by simp [hli]⟩),hm]
   rfl
  ·rw [Array.getElem?_setIfInBounds,if_neg (fun e:i=j=>hj (by rw [← e];exact hir))]
   exact hag j hj
  ·unfold upd
   by_cases hji:j=i
   ·subst hji;rw [if_pos rfl,if_pos rfl];exact hDi
   ·rw [if_neg hji,if_neg hji]
    rw [gset j,if_neg hji] at hlj
    exact mono j hj _ _ _ _ hBel (hD j hj hlj)
  ·by_cases hji:j=i
   ·have hki:¬ k=i:=fun e=>hjk (hji.trans e.symm)
    rw [if_pos hji] at hx
    rw [if_neg hki]
    rw [gset k,if_neg hki] at hlk
    intro hx2
    have h1:=hfr x hx
    have h2:=lt k hk _ _ _ (hD k hk hlk) x hx2
    omega
   ·rw [if_neg hji] at hx
    rw [gset j,if_neg hji] at hlj
    by_cases hki:k=i
    ·rw [if_pos hki]
     intro hx2
     have h1:=hfr x hx2
     have h2:=lt j hj _ _ _ (hD j hj hlj) x hx
     omega
    ·rw [if_neg hki]
     rw [gset k,if_neg hki] at hlk
     exact hA j hj k hk hlj hlk hjk x hx
def Made5 (P:Program) (ops:Array Oper) (Q:Exit→Act→World→Prop) (S:World→Prop) (rem:List Nat) (ord:List (Bool × Nat)) (a1:Act):Prop :=
 ∃ D:Nat→Value→List Nat→World→Prop,(∀ j∈rem,∀ v g w w',Below w.heap.size w w'→D j v g w→D j v g w')∧(∀ j∈rem,∀ v g w,D j v g w→∀ x∈g,x<w.heap.size) ∧
  (∀ i∈rem,∀ (V:Nat→Value) (G:Nat→List Nat) (w:World) (K:Act→World→Prop),S w→(∀ d∈depsOf ops i,d∈rem→D d (V d) (G d) w) →
   (∀ v g w',S w'→Below w.heap.size w w'→(∀ x∈g,w.heap.size≤x)→D i v g w'→K ((putAll ops rem V a1).put (dstOf ops i) v) w')→wpOp P ops (NoPanic Q) i K (putAll ops rem V a1) w) ∧
  (∀ (V:Nat→Value) (G:Nat→List Nat) (w:World),S w→(∀ j∈rem,D j (V j) (G j) w)→(∀ j∈rem,∀ k∈rem,j≠k→∀ x∈G j,x ∉ G k)→wpSeq P ops (NoPanic Q) S ord (putAll ops rem V a1) w)
def tailsB (ops:Array Oper) (ks rem:List Nat) (ord:List (Bool × Nat)):Bool :=
 ks.all (fun k => !ord.contains (true,k)&&ord.all (fun x => !x.1||reach ops ops.size x.2 k))&&rem.all (fun r => !ord.contains (true,r))&&ord.all (fun x=>x.1 || !ord.contains (true,x.2))
theorem wp_region_made5 {P:Program} {l:List Oper} {Q:Exit→Act→World→Prop} {id:Nat} {a:Act} {w:World} (S:World→Prop) (ks rem:List Nat) (ord:List (Bool × Nat))
  (hm:P.follows .mixedOrders=true) (hs:Region.noSelect l.toArray=true) (hF:firstsB l.toArray ks (Array.replicate l.length false)=true) (hks:ks.all (fun k=>decide (k<l.length))=true) (hv:((picks l ks).all vKind2)=true)
  (hM:madeB5 l.toArray rem (mark (Array.replicate l.length false) ks)=true) (hTB:tailsB l.toArray ks rem ord=true) (hB:seqB l.toArray ord (mark (mark (Array.replicate l.length false) ks) rem)=true) (hl:ks.length+(rem.length+ord.length)=l.length)
  (hS:S w.drew) (h:wpQuiet P l.toArray S (Made5 P l.toArray Q S rem ord) (picks l ks) a):(Code.region id l.toArray true).wp P Q a w:=by
 refine wp_region_noPanic (wp_region_any hm ?_)
 have hM':=hM
 simp only [madeB5,Bool.and_eq_true,decide_eq_true_eq] at hM'
 simp only [tailsB,Bool.and_eq_true] at hTB
 have hT:∀ j,(ord.contains (true,j))=true→(true,j)∈ord:=fun j h=>by simpa using h
 have key:=wpAnyT_firsts (Q:=NoPanic Q) (T:=fun i=>ord.contains (true,i)) (N:=l.toArray.size) (fuel:=rem.length+ord.length) (w:=w.drew) hs hS (fun c a a' w h=>(h:False).elim) ks (picks l ks) _ a hF (fun k hk => ?_) (Closed.none _ _) (picks_ok hks) hv h (fun a1 hK hcl => ?_)
 ·have:=wpAny_of_T _ _ _ _ key
  rw [hl] at this
  simpa using this
 ·have h1:=List.all_eq_true.1 hTB.1.1 k hk
  simp only [Bool.and_eq_true] at h1
  refine ⟨by simpa using h1.1,fun j hj => ?_⟩
  have h2:=List.all_eq_true.1 h1.2 (true,j) (hT j hj)
  simpa using h2
 ·obtain ⟨D,mono,lt,step,done⟩:=hK
  have hall:(rem.filter (fun r => !(mark (Array.replicate l.length false) ks).getD r true))=rem:=by
   rw [List.filter_eq_self]
   intro r hr
   have:=List.all_eq_true.1 hM'.1.1.2 r hr
   simp only [Bool.and_eq_true] at this
   exact this.2
  have hun:∀ j∈rem,(mark (Array.replicate l.length false) ks).getD j true=true→False:=fun j hj hlj=>by
   have:=List.all_eq_true.1 hM'.1.1.2 j hj
   simp only [Bool.and_eq_true,hlj] at this
   simp at this
  obtain ⟨V0,hV0⟩:∃ V0,putAll l.toArray rem V0 a1=a1:=⟨_,putAll_self a1 rem⟩
  have:=made_aux5 (P:=P) (Q:=NoPanic Q) (S:=S) (T:=fun i=>ord.contains (true,i)) (a1:=a1) (fuel:=ord.length) hM (fun r hr=>by have:=List.all_eq_true.1 hTB.1.2 r hr;simpa using this) mono lt step
   (fun V G w' hS' hD hA=>wpAnyT_seq ord _ _ w' hB (fun t i hti=>by
    cases t with
    | true=>simpa using hti
    | false =>
     have:=List.all_eq_true.1 hTB.2 (false,i) hti
     simpa using this) (done V G w' hS' hD hA))
   rem.length (mark (Array.replicate l.length false) ks) V0 (fun _=>[]) w.drew (by rw [hall]) hM'.1.2 (fun _ _=>rfl) hcl hS (fun j hj hlj=>(hun j hj hlj).elim) (fun j hj k hk hlj _ _=>(hun j hj hlj).elim)
  rw [hV0] at this
  exact this
end Go.Proofs.YtbcacebifpagpagGreat
namespace Go.Proofs.YtbcacebifpagpagGreat
open Go.RowKit Go.Shelf Go.Sort
set_option linter.unusedVariables false
def OwnI (A:Nat) (w:World) (r:Rw):Prop:=∃ g,r.a=some ⟨g,0,none⟩∧A≤g∧r.n≤r.c∧r.c≤maxLen∧Blk w g 3 r.n (fun j => .int .i64 (r.z j))
theorem OwnI.at {A:Nat} {w:World} {r:Rw} (h:OwnI A w r):r.At w:=by
 obtain ⟨g,ha,_,h1,h2,hb⟩:=h
 exact ⟨h1,h2,fun i hi=>⟨g,0,ha,hb.lt,by rw [Nat.zero_add];exact hb.cell hi⟩⟩
theorem OwnI.below {A:Nat} {w w':World} {r:Rw} (h:OwnI A w r) (hB:Below w.heap.size w w'):OwnI A w' r:=by
 obtain ⟨g,ha,h0,h1,h2,hb⟩:=h
 exact ⟨g,ha,h0,h1,h2,hb.below hB⟩
structure OwnS (A:Nat) (w:World) (s:St):Prop where
 on:∃ g,s.on.a=some ⟨g,0,none⟩∧A≤g∧s.on.n≤s.on.c∧s.on.c≤maxLen∧Blk w g 23 s.on.n (fun i => .slice (s.on.r i).a (s.on.r i).n (s.on.r i).c)
 rows:∀ i,i<s.on.n→OwnI A w (s.on.r i)
 rapart:∀ i j,i<j→j<s.on.n→(s.on.r i).a≠(s.on.r j).a
 os:OwnO A w s.os
 hs:OwnH A 61 w s.hs
 ms:OwnH A 63 w s.ms
 msr:Room A w 63 4 s.ms.a s.ms.c
 si:OwnI A w s.si
 so:OwnI A w s.so
 sf:OwnI A w s.sf
 aio:s.si.a≠s.so.a
 aif:s.si.a≠s.sf.a
 aof:s.so.a≠s.sf.a
 ari:∀ i,i<s.on.n→(s.on.r i).a≠s.si.a∧(s.on.r i).a≠s.so.a∧(s.on.r i).a≠s.sf.a
theorem OwnS.at {A:Nat} {w:World} {s:St} (h:OwnS A w s):s.At w:=by
 obtain ⟨g,ha,_,h1,h2,hb⟩:=h.on
 exact ⟨⟨h1,h2,fun i hi=>⟨g,0,ha,hb.lt,by rw [Nat.zero_add];exact hb.cell hi,(h.rows i hi).at⟩⟩,h.os.at,h.hs.at,h.ms.at,h.si.at,h.so.at,h.sf.at⟩
theorem OwnI.other {A:Nat} {t:TypeId} {w:World} {r:Rw} {q n:Nat} {f:Nat→Value} (h:OwnI A w r) (hq:Blk w q t n f) (hne:3≠t) (j:Nat) (u:Value):OwnI A (w.setCell ⟨q,j,none⟩ u) r:=by
 obtain ⟨g,ha,h0,h1,h2,hb⟩:=h
 exact ⟨g,ha,h0,h1,h2,hb.other (a:=⟨q,j,none⟩) (Blk.ne2 hb hq hne) u⟩
theorem OwnO.other {A:Nat} {t:TypeId} {w:World} {s:Os} {q n:Nat} {f:Nat→Value} (h:OwnO A w s) (hq:Blk w q t n f) (h1:57≠t) (h2:59≠t) (j:Nat) (u:Value):OwnO A (w.setCell ⟨q,j,none⟩ u) s:=by
 refine ⟨h.le,h.cap,fun hn => ?_,fun i hi => ?_,h.apart,h.room.set q j u⟩
 ·obtain ⟨g,a,b,c⟩:=h.list hn
  exact ⟨g,a,b,c.other (a:=⟨q,j,none⟩) (Blk.ne2 c hq h1) u⟩
 ·obtain ⟨B,a,b,c,d,e⟩:=h.lines i hi
  exact ⟨B,a,b,c,d,e.other (a:=⟨q,j,none⟩) (Blk.ne2 e hq h2) u⟩
theorem OwnS.box {A:Nat} {w:World} {s:St} {q n:Nat} {f:Nat→Value} (h:OwnS A w s) (hq:Blk w q 31 n f) (j:Nat) (u:Value):OwnS A (w.setCell ⟨q,j,none⟩ u) s:=by
 refine ⟨?_,fun i hi=>(h.rows i hi).other hq (by decide) j u,h.rapart,h.os.other hq (by decide) (by decide) j u,h.hs.other hq (by decide) j u,h.ms.other hq (by decide) j u,h.msr.set q j u,h.si.other hq (by decide) j u,h.so.other hq (by decide) j u,h.sf.other hq (by decide) j u,h.aio,h.aif,h.aof,h.ari⟩
 obtain ⟨g,ha,h0,h1,h2,hb⟩:=h.on
 exact ⟨g,ha,h0,h1,h2,hb.other (a:=⟨q,j,none⟩) (Blk.ne2 hb hq (by decide)) u⟩
theorem OwnS.set7 {A:Nat} {w:World} {s:St} {b:Nat} {f:Nat→Value} (h:OwnS A w s) (hq:Blk w b 31 7 f) (v0 v1 v2 v3 v4 v5 v6:Value):OwnS A (Go.Proofs.YtbcacebifpagpagGreat.set7 w b v0 v1 v2 v3 v4 v5 v6) s :=
 ((((((h.box hq 0 v0).box (hq.set 0 v0) 1 v1).box ((hq.set 0 v0).set 1 v1) 2 v2).box (((hq.set 0 v0).set 1 v1).set 2 v2) 3 v3).box ((((hq.set 0 v0).set 1 v1).set 2 v2).set 3 v3) 4 v4).box (((((hq.set 0 v0).set 1 v1).set 2 v2).set 3 v3).set 4 v4) 5 v5).box ((((((hq.set 0 v0).set 1 v1).set 2 v2).set 3 v3).set 4 v4).set 5 v5) 6 v6
def DRows (A:Nat) (s:St) (v:Value) (g:List Nat) (wk:World):Prop:=∃ (g0:Nat) (G C:Nat→Nat),v = .slice (some ⟨g0,0,none⟩) s.on.n s.on.n∧A≤g0∧Blk wk g0 23 s.on.n (fun i => .slice (some ⟨G i,0,none⟩) (s.on.r i).n (C i)) ∧
 (∀ i,i<s.on.n→A≤G i∧(s.on.r i).n≤C i∧C i≤maxLen∧Blk wk (G i) 3 (s.on.r i).n (fun j => .int .i64 ((s.on.r i).z j)))∧(∀ i j,i<j→j<s.on.n→G i<G j)∧g=(List.range s.on.n).map G
theorem DRows.below {A:Nat} {s:St} {v:Value} {g:List Nat} {w w':World} (h:DRows A s v g w) (hB:Below w.heap.size w w'):DRows A s v g w':=by
 obtain ⟨g0,G,C,h1,h2,h3,h4,h5,h6⟩:=h
 exact ⟨g0,G,C,h1,h2,h3.below hB,fun i hi=>⟨(h4 i hi).1,(h4 i hi).2.1,(h4 i hi).2.2.1,(h4 i hi).2.2.2.below hB⟩,h5,h6⟩
theorem DRows.lt {A:Nat} {s:St} {v:Value} {g:List Nat} {w:World} (h:DRows A s v g w):∀ x∈g,x<w.heap.size:=by
 obtain ⟨g0,G,C,h1,h2,h3,h4,h5,rfl⟩:=h
 intro x hx
 obtain ⟨i,hi,rfl⟩:=List.mem_map.1 hx
 exact (h4 i (List.mem_range.1 hi)).2.2.2.lt
def DInts (A:Nat) (r:Rw) (v:Value) (g:List Nat) (wk:World):Prop:=∃ B c,g=[B]∧v = .slice (some ⟨B,0,none⟩) r.n c∧A≤B∧r.n≤c∧c≤maxLen∧Blk wk B 3 r.n (fun j => .int .i64 (r.z j))
theorem DInts.below {A:Nat} {r:Rw} {v:Value} {g:List Nat} {w w':World} (h:DInts A r v g w) (hB:Below w.heap.size w w'):DInts A r v g w':=by
 obtain ⟨B,c,h1,h2,h3,h4,h5,h6⟩:=h
 exact ⟨B,c,h1,h2,h3,h4,h5,h6.below hB⟩
theorem DInts.lt {A:Nat} {r:Rw} {v:Value} {g:List Nat} {w:World} (h:DInts A r v g w):∀ x∈g,x<w.heap.size:=by
 obtain ⟨B,c,rfl,h2,h3,h4,h5,h6⟩:=h
 intro x hx
 rw [List.mem_singleton] at hx
 subst hx
 exact h6.lt
def DHs (A:Nat) (e:TypeId) (s:Hs) (v:Value) (g:List Nat) (wk:World):Prop:=∃ s':Hs,g=[]∧v = .slice s'.a s'.n s'.c∧Cloned A e s wk s'
theorem DHs.below {A:Nat} {e:TypeId} {s:Hs} {v:Value} {g:List Nat} {w w':World} (h:DHs A e s v g w) (hB:Below w.heap.size w w'):DHs A e s v g w':=by
 obtain ⟨s',h1,h2,h3,h4,h5,h6⟩:=h
 exact ⟨s',h1,h2,h3,h4,h5.below hB,h6.below hB⟩
theorem OwnO.below {A:Nat} {w w':World} {s:Os} (h:OwnO A w s) (hB:Below w.heap.size w w'):OwnO A w' s:=by
 refine ⟨h.le,h.cap,fun hn => ?_,fun i hi => ?_,h.apart,h.room.below hB⟩
 ·obtain ⟨g,a,b,c⟩:=h.list hn
  exact ⟨g,a,b,c.below hB⟩
 ·obtain ⟨B,a,b,c,d,e⟩:=h.lines i hi
  exact ⟨B,a,b,c,d,e.below hB⟩
theorem OwnO.mono {A A':Nat} {w:World} {s:Os} (h:OwnO A w s) (hA:A'≤A):OwnO A' w s:=by
 refine ⟨h.le,h.cap,fun hn => ?_,fun i hi => ?_,h.apart,h.room.mono hA⟩
 ·obtain ⟨g,a,b,c⟩:=h.list hn
  exact ⟨g,a,by omega,c⟩
 ·obtain ⟨B,a,b,c⟩:=h.lines i hi
  exact ⟨B,a,by omega,c⟩
def DOs (A:Nat) (s:Os) (v:Value) (g:List Nat) (wk:World):Prop:=∃ s':Os,g=[]∧v = .slice s'.a s'.n s'.c∧SameO s' s∧OwnO A wk s'
theorem DOs.below {A:Nat} {s:Os} {v:Value} {g:List Nat} {w w':World} (h:DOs A s v g w) (hB:Below w.heap.size w w'):DOs A s v g w':=by
 obtain ⟨s',h1,h2,h3,h4⟩:=h
 exact ⟨s',h1,h2,h3,h4.below hB⟩
set_option maxRecDepth 100000 in
set_option maxHeartbeats 4000000 in
theorem copyState_any (p:Pl) (s:St) (w:World) (hs:s.At w) (f:Formed p s) :
  Calls Tryz.prog 90 #[s.val] w fun e w'=>∃ s':St,e = .returned s'.val∧SameT s' s∧OwnS w.heap.size w' s'∧Below w.heap.size w w':=by
 obtain ⟨W0,hW,hWB,X0,Z0⟩:∃ W,((w.alloc (.cells s.cells 31)).alloc (.cells #[.slice .none 0 0,.slice .none 0 0,.slice .none 0 0,.slice .none 0 0,.slice .none 0 0,.slice .none 0 0,.slice .none 0 0] 31))=W∧Below w.heap.size w W∧Blk W w.heap.size 31 7 (fun j=>s.cells.getD j default)∧Blk W (w.heap.size+1) 31 7 (fun _ => .slice .none 0 0) :=
  ⟨_,rfl,two_below _ _ _,(Blk.mk' rfl rfl).alloc _,(Blk.mk' (cur:=#[.slice .none 0 0,.slice .none 0 0,.slice .none 0 0,.slice .none 0 0,.slice .none 0 0,.slice .none 0 0,.slice .none 0 0]) (by simp) rfl).congr (fun j hj=>by match j,hj with | 0,_=>rfl | 1,_=>rfl | 2,_=>rfl | 3,_=>rfl | 4,_=>rfl | 5,_=>rfl | 6,_=>rfl)⟩
 have HW:Hid ((w.alloc (.cells #[.slice s.on.a s.on.n s.on.c,.slice s.os.a s.os.n s.os.c,.slice s.hs.a s.hs.n s.hs.c,.slice s.ms.a s.ms.n s.ms.c,.slice s.si.a s.si.n s.si.c,.slice s.so.a s.so.n s.so.c,.slice s.sf.a s.sf.n s.sf.c] 31)).alloc (.cells #[.slice .none 0 0,.slice .none 0 0,.slice .none 0 0,.slice .none 0 0,.slice .none 0 0,.slice .none 0 0,.slice .none 0 0] 31)=W0):=hW
 have HS:Hid (s.At W0):=hs.below hWB
 have HF:Hid (Formed p s):=f
 have HZ:Hid (Blk W0 (w.heap.size+1) 31 7 (fun _ => .slice .none 0 0)):=Z0
 have hsz0:=hWB.size
 obtain ⟨l1,c0,c1,c2,c3,c4,c5,c6⟩:=Boxed.of X0
 have r0:∀ d os,(grow (redrawn W0 d) os).cell? ⟨w.heap.size,0,none⟩=some (.slice s.on.a s.on.n s.on.c):=fun d os=>cell_regrown c0 d os
 have r1:∀ d os,(grow (redrawn W0 d) os).cell? ⟨w.heap.size,1,none⟩=some (.slice s.os.a s.os.n s.os.c):=fun d os=>cell_regrown c1 d os
 have r2:∀ d os,(grow (redrawn W0 d) os).cell? ⟨w.heap.size,2,none⟩=some (.slice s.hs.a s.hs.n s.hs.c):=fun d os=>cell_regrown c2 d os
 have r3:∀ d os,(grow (redrawn W0 d) os).cell? ⟨w.heap.size,3,none⟩=some (.slice s.ms.a s.ms.n s.ms.c):=fun d os=>cell_regrown c3 d os
 have r4:∀ d os,(grow (redrawn W0 d) os).cell? ⟨w.heap.size,4,none⟩=some (.slice s.si.a s.si.n s.si.c):=fun d os=>cell_regrown c4 d os
 have r5:∀ d os,(grow (redrawn W0 d) os).cell? ⟨w.heap.size,5,none⟩=some (.slice s.so.a s.so.n s.so.c):=fun d os=>cell_regrown c5 d os
 have r6:∀ d os,(grow (redrawn W0 d) os).cell? ⟨w.heap.size,6,none⟩=some (.slice s.sf.a s.sf.n s.sf.c):=fun d os=>cell_regrown c6 d os
 clear hW X0 Z0 hs f c0 c1 c2 c3 c4 c5 c6
 unfold St.val
 go_enter Tryz.func90,Tryz.ntmps90
 go_wp2_with fail
 rw [HW.out]
 refine wp_region_made5 (fun w'=>∃ p:Regrown,w'=grow (redrawn W0 p.d) p.os) [0,1,3,4,6,7,9,10,12,13,15,16,18,19] [2,5,8,11,14,17,20] [(false,21),(true,22)] (by kernel_rfl) (by kernel_rfl) (by kernel_rfl) (by kernel_rfl) (by kernel_rfl) (by kernel_rfl) (by kernel_rfl) (by kernel_rfl) (by kernel_rfl) (regrown_of_below ((Below.refl _ _).drew)) ?_
 simp only [picks,List.drop_succ_cons,List.drop_zero,List.take_succ_cons,List.take_zero,List.cons_append,List.nil_append]
 repeat (go_big_quiet_step (fail))
 refine wpQuiet_nil ?_
 clear r0 r1 r2 r3 r4 r5 r6
 refine ⟨fun j v g wk=>match j with | 2=>DRows w.heap.size s v g wk | 5=>DOs w.heap.size s.os v g wk | 8=>DHs w.heap.size 61 s.hs v g wk | 11=>DHs w.heap.size 63 s.ms v g wk | 14=>DInts w.heap.size s.si v g wk | 17=>DInts w.heap.size s.so v g wk | 20=>DInts w.heap.size s.sf v g wk | _=>True,
  List.forall_mem_cons.2 ⟨fun v g w w' hB h=>DRows.below h hB,List.forall_mem_cons.2 ⟨fun v g w w' hB h=>DOs.below h hB,List.forall_mem_cons.2 ⟨fun v g w w' hB h=>DHs.below h hB,List.forall_mem_cons.2 ⟨fun v g w w' hB h=>DHs.below h hB,List.forall_mem_cons.2 ⟨fun v g w w' hB h=>DInts.below h hB,List.forall_mem_cons.2 ⟨fun v g w w' hB h=>DInts.below h hB,List.forall_mem_cons.2 ⟨fun v g w w' hB h=>DInts.below h hB,List.forall_mem_nil _⟩⟩⟩⟩⟩⟩⟩,
  List.forall_mem_cons.2 ⟨fun v g w h=>DRows.lt h,List.forall_mem_cons.2 ⟨fun v g w h=>by obtain ⟨_,h1,_⟩:=h;rw [h1];intro x hx;simp at hx,List.forall_mem_cons.2 ⟨fun v g w h=>by obtain ⟨_,h1,_⟩:=h;rw [h1];intro x hx;simp at hx,List.forall_mem_cons.2 ⟨fun v g w h=>by obtain ⟨_,h1,_⟩:=h;rw [h1];intro x hx;simp at hx,List.forall_mem_cons.2 ⟨fun v g w h=>DInts.lt h,List.forall_mem_cons.2 ⟨fun v g w h=>DInts.lt h,List.forall_mem_cons.2 ⟨fun v g w h=>DInts.lt h,List.forall_mem_nil _⟩⟩⟩⟩⟩⟩⟩,
  List.forall_mem_cons.2 ⟨?zs2,List.forall_mem_cons.2 ⟨?zs5,List.forall_mem_cons.2 ⟨?zs8,List.forall_mem_cons.2 ⟨?zs11,List.forall_mem_cons.2 ⟨?zs14,List.forall_mem_cons.2 ⟨?zs17,List.forall_mem_cons.2 ⟨?zs20,List.forall_mem_nil _⟩⟩⟩⟩⟩⟩⟩,?zdone⟩
 case zs2 =>
  intro V G wk K hS hd hK
  have hX:=below_of_regrown hS
  refine wpOp_list 2 rfl ?_
  simp only [putAll,dstOf,List.getElem?_toArray,List.getElem?_cons_succ,List.getElem?_cons_zero,Act.put,List.setIfInBounds_toArray,List.set_cons_succ,List.set_cons_zero] at hK ⊢
  go_wp2_with fail
  refine (copyRows_any s.on wk (HS.out.on.below hX) (by rw [HF.out.sh.n];exact HF.out.sh.pl.nb6) (fun i hi=>by rw [HF.out.sh.len i hi];exact ⟨HF.out.sh.pl.ns1,HF.out.sh.pl.ns3⟩)).mono ?_
  rintro e w2 ⟨g0,Gr,Cr,rfl,a1,a2,a3,a4,hB2⟩
  go_wp2_with fail
  have q:=hX.size
  refine hK _ ((List.range s.on.n).map Gr) _ (regrown_of_below (hX.trans (hB2.mono hX.size))) hB2 (fun x hx => ?_) ⟨g0,Gr,Cr,rfl,by omega,a2,fun i hi=>⟨by have:=(a3 i hi).1;omega,(a3 i hi).2⟩,a4,rfl⟩
  obtain ⟨i,hi,rfl⟩:=List.mem_map.1 hx
  have:=(a3 i (List.mem_range.1 hi)).1
  omega
 case zs5 =>
  intro V G wk K hS hd hK
  have hX:=below_of_regrown hS
  refine wpOp_list 5 rfl ?_
  simp only [putAll,dstOf,List.getElem?_toArray,List.getElem?_cons_succ,List.getElem?_cons_zero,Act.put,List.setIfInBounds_toArray,List.set_cons_succ,List.set_cons_zero] at hK ⊢
  go_wp2_with fail
  refine (copyOrders_any s.os wk (HS.out.os.below hX) (by have:=HF.out.os4;omega) HF.out.lns).mono ?_
  rintro e w2 ⟨s',rfl,a1,a2,hB2⟩
  have q:=hX.size
  have HR:Hid (SameO s' s.os∧OwnO w.heap.size w2 s'):=⟨a1,a2.mono (by omega)⟩
  clear a1 a2
  simp only [Os.val]
  go_wp2_with fail
  exact hK _ [] _ (regrown_of_below (hX.trans (hB2.mono hX.size))) hB2 (fun x hx=>by simp at hx) ⟨s',rfl,rfl,HR.out.1,HR.out.2⟩
 case zs8 =>
  intro V G wk K hS hd hK
  have hX:=below_of_regrown hS
  refine wpOp_list 8 rfl ?_
  simp only [putAll,dstOf,List.getElem?_toArray,List.getElem?_cons_succ,List.getElem?_cons_zero,Act.put,List.setIfInBounds_toArray,List.set_cons_succ,List.set_cons_zero] at hK ⊢
  go_wp2_with fail
  refine (CloneHold_any s.hs wk (HS.out.hs.below hX) (by have:=HF.out.hs72;omega)).mono ?_
  rintro e w2 ⟨s',rfl,hc,hB2⟩
  have q:=hX.size
  have HR:Hid (Cloned w.heap.size 61 s.hs w2 s'):=⟨hc.1,hc.2.1,hc.2.2.1.mono (by omega),hc.2.2.2.mono (by omega)⟩
  clear hc
  simp only [Hs.val]
  go_wp2_with fail
  exact hK _ [] _ (regrown_of_below (hX.trans (hB2.mono hX.size))) hB2 (fun x hx=>by simp at hx) ⟨s',rfl,rfl,HR.out⟩
 case zs11 =>
  intro V G wk K hS hd hK
  have hX:=below_of_regrown hS
  refine wpOp_list 11 rfl ?_
  simp only [putAll,dstOf,List.getElem?_toArray,List.getElem?_cons_succ,List.getElem?_cons_zero,Act.put,List.setIfInBounds_toArray,List.set_cons_succ,List.set_cons_zero] at hK ⊢
  go_wp2_with fail
  refine (CloneMove_any s.ms wk (HS.out.ms.below hX) (by have:=HF.out.ms8;omega)).mono ?_
  rintro e w2 ⟨s',rfl,hc,hB2⟩
  have q:=hX.size
  have HR:Hid (Cloned w.heap.size 63 s.ms w2 s'):=⟨hc.1,hc.2.1,hc.2.2.1.mono (by omega),hc.2.2.2.mono (by omega)⟩
  clear hc
  simp only [Hs.val]
  go_wp2_with fail
  exact hK _ [] _ (regrown_of_below (hX.trans (hB2.mono hX.size))) hB2 (fun x hx=>by simp at hx) ⟨s',rfl,rfl,HR.out⟩
 case zs14 =>
  intro V G wk K hS hd hK
  have hX:=below_of_regrown hS
  have hn1:=HF.out.sh.pl.ns1
  have hn3:=HF.out.sh.pl.ns3
  have HCI:Hid (Calls Tryz.prog 140 #[.slice s.si.a s.si.n s.si.c] wk fun e w'=>∃ g c',e = .returned (.slice (some ⟨g,0,none⟩) s.si.n c')∧s.si.n≤c'∧c'≤maxLen∧wk.heap.size≤g∧Blk w' g 3 s.si.n (fun j => .int .i64 (s.si.z j))∧Below wk.heap.size wk w'):=by
   have hr:=HS.out.si.below hX
   obtain ⟨b,o,ha,-,-⟩:=hr.ints 0 (by rw [HF.out.sin];omega)
   have hi:=hr.ints
   have hz:s.si.n=p.ns:=HF.out.sin
   rw [ha] at hi
   have:=Clone_any b o s.si.n s.si.c s.si.z wk (by omega) (by omega) hi
   rw [← ha] at this
   exact this
  refine wpOp_list 14 rfl ?_
  simp only [putAll,dstOf,List.getElem?_toArray,List.getElem?_cons_succ,List.getElem?_cons_zero,Act.put,List.setIfInBounds_toArray,List.set_cons_succ,List.set_cons_zero] at hK ⊢
  go_wp2_with fail
  refine HCI.out.mono ?_
  rintro e w2 ⟨g,c',rfl,a1,a2,a3,a4,hB2⟩
  have q:=hX.size
  go_wp2_with fail
  exact hK _ [g] _ (regrown_of_below (hX.trans (hB2.mono hX.size))) hB2 (fun x hx=>by rw [List.mem_singleton] at hx;omega) ⟨g,c',rfl,rfl,by omega,a1,a2,a4⟩
 case zs17 =>
  intro V G wk K hS hd hK
  have hX:=below_of_regrown hS
  have hn1:=HF.out.sh.pl.ns1
  have hn3:=HF.out.sh.pl.ns3
  have HCI:Hid (Calls Tryz.prog 140 #[.slice s.so.a s.so.n s.so.c] wk fun e w'=>∃ g c',e = .returned (.slice (some ⟨g,0,none⟩) s.so.n c')∧s.so.n≤c'∧c'≤maxLen∧wk.heap.size≤g∧Blk w' g 3 s.so.n (fun j => .int .i64 (s.so.z j))∧Below wk.heap.size wk w'):=by
   have hr:=HS.out.so.below hX
   obtain ⟨b,o,ha,-,-⟩:=hr.ints 0 (by rw [HF.out.son];omega)
   have hi:=hr.ints
   have hz:s.so.n=p.ns:=HF.out.son
   rw [ha] at hi
   have:=Clone_any b o s.so.n s.so.c s.so.z wk (by omega) (by omega) hi
   rw [← ha] at this
   exact this
  refine wpOp_list 17 rfl ?_
  simp only [putAll,dstOf,List.getElem?_toArray,List.getElem?_cons_succ,List.getElem?_cons_zero,Act.put,List.setIfInBounds_toArray,List.set_cons_succ,List.set_cons_zero] at hK ⊢
  go_wp2_with fail
  refine HCI.out.mono ?_
  rintro e w2 ⟨g,c',rfl,a1,a2,a3,a4,hB2⟩
  have q:=hX.size
  go_wp2_with fail
  exact hK _ [g] _ (regrown_of_below (hX.trans (hB2.mono hX.size))) hB2 (fun x hx=>by rw [List.mem_singleton] at hx;omega) ⟨g,c',rfl,rfl,by omega,a1,a2,a4⟩
 case zs20 =>
  intro V G wk K hS hd hK
  have hX:=below_of_regrown hS
  have hn1:=HF.out.sh.pl.ns1
  have hn3:=HF.out.sh.pl.ns3
  have HCI:Hid (Calls Tryz.prog 140 #[.slice s.sf.a s.sf.n s.sf.c] wk fun e w'=>∃ g c',e = .returned (.slice (some ⟨g,0,none⟩) s.sf.n c')∧s.sf.n≤c'∧c'≤maxLen∧wk.heap.size≤g∧Blk w' g 3 s.sf.n (fun j => .int .i64 (s.sf.z j))∧Below wk.heap.size wk w'):=by
   have hr:=HS.out.sf.below hX
   obtain ⟨b,o,ha,-,-⟩:=hr.ints 0 (by rw [HF.out.sfn];omega)
   have hi:=hr.ints
   have hz:s.sf.n=p.ns:=HF.out.sfn
   rw [ha] at hi
   have:=Clone_any b o s.sf.n s.sf.c s.sf.z wk (by omega) (by omega) hi
   rw [← ha] at this
   exact this
  refine wpOp_list 20 rfl ?_
  simp only [putAll,dstOf,List.getElem?_toArray,List.getElem?_cons_succ,List.getElem?_cons_zero,Act.put,List.setIfInBounds_toArray,List.set_cons_succ,List.set_cons_zero] at hK ⊢
  go_wp2_with fail
  refine HCI.out.mono ?_
  rintro e w2 ⟨g,c',rfl,a1,a2,a3,a4,hB2⟩
  have q:=hX.size
  go_wp2_with fail
  exact hK _ [g] _ (regrown_of_below (hX.trans (hB2.mono hX.size))) hB2 (fun x hx=>by rw [List.mem_singleton] at hx;omega) ⟨g,c',rfl,rfl,by omega,a1,a2,a4⟩
 case zdone =>
  intro V G wk hS hD hA
  obtain ⟨g0,Gr,Cr,v2,a1,a2,a3,a4,gg2⟩:DRows w.heap.size s (V 2) (G 2) wk:=hD 2 (by simp)
  obtain ⟨o',-,v5,b1,b2⟩:DOs w.heap.size s.os (V 5) (G 5) wk:=hD 5 (by simp)
  obtain ⟨h',-,v8,d1,d2,d3,-⟩:DHs w.heap.size 61 s.hs (V 8) (G 8) wk:=hD 8 (by simp)
  obtain ⟨m',-,v11,f1,f2,f3,f4⟩:DHs w.heap.size 63 s.ms (V 11) (G 11) wk:=hD 11 (by simp)
  obtain ⟨B1,k1,gg14,v14,i1,i2,i3,i4⟩:DInts w.heap.size s.si (V 14) (G 14) wk:=hD 14 (by simp)
  obtain ⟨B2,k2,gg17,v17,j1,j2,j3,j4⟩:DInts w.heap.size s.so (V 17) (G 17) wk:=hD 17 (by simp)
  obtain ⟨B3,k3,gg20,v20,l2,l3,l4,l5⟩:DInts w.heap.size s.sf (V 20) (G 20) wk:=hD 20 (by simp)
  have n12:B1≠B2:=fun e=>hA 14 (by simp) 17 (by simp) (by decide) B1 (by rw [gg14];simp) (by rw [gg17,e];simp)
  have n13:B1≠B3:=fun e=>hA 14 (by simp) 20 (by simp) (by decide) B1 (by rw [gg14];simp) (by rw [gg20,e];simp)
  have n23:B2≠B3:=fun e=>hA 17 (by simp) 20 (by simp) (by decide) B2 (by rw [gg17];simp) (by rw [gg20,e];simp)
  have nr:∀ i,i<s.on.n→Gr i≠B1∧Gr i≠B2∧Gr i≠B3:=fun i hi=>by
   have hm:Gr i∈G 2:=by rw [gg2];exact List.mem_map.2 ⟨i,List.mem_range.2 hi,rfl⟩
   exact ⟨fun e=>hA 2 (by simp) 14 (by simp) (by decide) _ hm (by rw [gg14,e];simp),fun e=>hA 2 (by simp) 17 (by simp) (by decide) _ hm (by rw [gg17,e];simp),fun e=>hA 2 (by simp) 20 (by simp) (by decide) _ hm (by rw [gg20,e];simp)⟩
  have hX:=below_of_regrown hS
  have hz:=HZ.out.below hX
  clear hD hA gg2 gg14 gg17 gg20
  have HR:Hid (OwnS w.heap.size wk ⟨⟨some ⟨g0,0,none⟩,s.on.n,s.on.n,fun i=>⟨some ⟨Gr i,0,none⟩,(s.on.r i).n,Cr i,(s.on.r i).z⟩⟩,o',h',m',⟨some ⟨B1,0,none⟩,s.si.n,k1,s.si.z⟩,⟨some ⟨B2,0,none⟩,s.so.n,k2,s.so.z⟩,⟨some ⟨B3,0,none⟩,s.sf.n,k3,s.sf.z⟩⟩):=by
   refine ⟨⟨g0,rfl,a1,Nat.le_refl _,?_,a2⟩,fun i hi=>⟨Gr i,rfl,(a3 i hi).1,(a3 i hi).2.1,(a3 i hi).2.2.1,(a3 i hi).2.2.2⟩,fun i j hij hj => ?_,b2,d3,f3,f4,⟨B1,rfl,i1,i2,i3,i4⟩,⟨B2,rfl,j1,j2,j3,j4⟩,⟨B3,rfl,l2,l3,l4,l5⟩,?_,?_,?_,fun i hi => ?_⟩
   ·show s.on.n≤maxLen
    have:=HF.out.sh.n
    have:=HF.out.sh.pl.nb6
    unfold maxLen
    omega
   ·have:=a4 i j hij hj
    simp only [ne_eq,Option.some.injEq,Addr.mk.injEq,and_true]
    omega
   ·intro e;simp only [Option.some.injEq,Addr.mk.injEq,and_true] at e;exact n12 e
   ·intro e;simp only [Option.some.injEq,Addr.mk.injEq,and_true] at e;exact n13 e
   ·intro e;simp only [Option.some.injEq,Addr.mk.injEq,and_true] at e;exact n23 e
   ·obtain ⟨x1,x2,x3⟩:=nr i hi
    exact ⟨fun e=>by simp only [Option.some.injEq,Addr.mk.injEq,and_true] at e;exact x1 e,fun e=>by simp only [Option.some.injEq,Addr.mk.injEq,and_true] at e;exact x2 e,fun e=>by simp only [Option.some.injEq,Addr.mk.injEq,and_true] at e;exact x3 e⟩
  have HC:Hid (SameT ⟨⟨some ⟨g0,0,none⟩,s.on.n,s.on.n,fun i=>⟨some ⟨Gr i,0,none⟩,(s.on.r i).n,Cr i,(s.on.r i).z⟩⟩,o',h',m',⟨some ⟨B1,0,none⟩,s.si.n,k1,s.si.z⟩,⟨some ⟨B2,0,none⟩,s.so.n,k2,s.so.z⟩,⟨some ⟨B3,0,none⟩,s.sf.n,k3,s.sf.z⟩⟩ s) :=
   ⟨⟨rfl,fun i hi=>⟨rfl,fun j hj=>rfl⟩⟩,b1,⟨d1,fun j hj=>d2 j (by rw [← d1];exact hj)⟩,⟨f1,fun j hj=>f2 j (by rw [← f1];exact hj)⟩,⟨rfl,fun j hj=>rfl⟩,⟨rfl,fun j hj=>rfl⟩,⟨rfl,fun j hj=>rfl⟩⟩
  clear a1 a2 a3 a4 b1 b2 d1 d2 d3 f1 f2 f3 f4 i1 i2 i3 i4 j1 j2 j3 j4 l2 l3 l4 l5 n12 n13 n23 nr
  have HZ2:Hid (Blk wk (w.heap.size+1) 31 7 (fun _ => .slice .none 0 0)):=hz
  have zl:=hz.lt
  have zf0:=hz.frozen 0
  have zc0:=hz.cell (j:=0) (by decide)
  have zf1:=hz.frozen 1
  have zc1:=hz.cell (j:=1) (by decide)
  have zf2:=hz.frozen 2
  have zc2:=hz.cell (j:=2) (by decide)
  have zf3:=hz.frozen 3
  have zc3:=hz.cell (j:=3) (by decide)
  have zf4:=hz.frozen 4
  have zc4:=hz.cell (j:=4) (by decide)
  have zf5:=hz.frozen 5
  have zc5:=hz.cell (j:=5) (by decide)
  have zf6:=hz.frozen 6
  have zc6:=hz.cell (j:=6) (by decide)
  clear hz
  simp only [putAll,dstOf,List.getElem?_toArray,List.getElem?_cons_succ,List.getElem?_cons_zero,Act.put,List.setIfInBounds_toArray,List.set_cons_succ,List.set_cons_zero,v2,v5,v8,v11,v14,v17,v20]
  refine wpSeq_one 21 rfl ?_
  go_wp2_with fail
  refine ⟨Late.no hS,?_⟩
  refine wpSeq_one 22 rfl ?_
  go_wp2_with fail
  refine ⟨Late.yes,?_⟩
  refine NoPanic.normal ?_
  have KZ:=set7_blk HZ2.out (.slice (some ⟨g0,0,none⟩) s.on.n s.on.n) (.slice o'.a o'.n o'.c) (.slice h'.a h'.n h'.c) (.slice m'.a m'.n m'.c) (.slice (some ⟨B1,0,none⟩) s.si.n k1) (.slice (some ⟨B2,0,none⟩) s.so.n k2) (.slice (some ⟨B3,0,none⟩) s.sf.n k3)
  have hbz:=set7_below (b:=w.heap.size+1) (hWB.trans (hX.mono hWB.size)) (by omega) (.slice (some ⟨g0,0,none⟩) s.on.n s.on.n) (.slice o'.a o'.n o'.c) (.slice h'.a h'.n h'.c) (.slice m'.a m'.n m'.c) (.slice (some ⟨B1,0,none⟩) s.si.n k1) (.slice (some ⟨B2,0,none⟩) s.so.n k2) (.slice (some ⟨B3,0,none⟩) s.sf.n k3)
  have HR2:=OwnS.set7 HR.out HZ2.out (.slice (some ⟨g0,0,none⟩) s.on.n s.on.n) (.slice o'.a o'.n o'.c) (.slice h'.a h'.n h'.c) (.slice m'.a m'.n m'.c) (.slice (some ⟨B1,0,none⟩) s.si.n k1) (.slice (some ⟨B2,0,none⟩) s.so.n k2) (.slice (some ⟨B3,0,none⟩) s.sf.n k3)
  unfold set7 at KZ hbz HR2
  generalize (((((((wk.setCell { block:=w.heap.size+1,off:=0 } (Value.slice (some { block:=g0,off:=0 }) s.on.n s.on.n)).setCell { block:=w.heap.size+1,off:=1 } (Value.slice o'.a o'.n o'.c)).setCell { block:=w.heap.size+1,off:=2 } (Value.slice h'.a h'.n h'.c)).setCell { block:=w.heap.size+1,off:=3 } (Value.slice m'.a m'.n m'.c)).setCell { block:=w.heap.size+1,off:=4 } (Value.slice (some { block:=B1,off:=0 }) s.si.n k1)).setCell { block:=w.heap.size+1,off:=5 } (Value.slice (some { block:=B2,off:=0 }) s.so.n k2)).setCell { block:=w.heap.size+1,off:=6 } (Value.slice (some { block:=B3,off:=0 }) s.sf.n k3))=WY at *
  clear hX zl zf0 zc0 zf1 zc1 zf2 zc2 zf3 zc3 zf4 zc4 zf5 zc5 zf6 zc6 v2 v5 v8 v11 v14 v17 v20 hS
  obtain ⟨c0,c1,c2,c3,c4,c5,c6⟩:=box_cells KZ
  have HQ:Hid (OwnS w.heap.size WY ⟨⟨some ⟨g0,0,none⟩,s.on.n,s.on.n,fun i=>⟨some ⟨Gr i,0,none⟩,(s.on.r i).n,Cr i,(s.on.r i).z⟩⟩,o',h',m',⟨some ⟨B1,0,none⟩,s.si.n,k1,s.si.z⟩,⟨some ⟨B2,0,none⟩,s.so.n,k2,s.so.z⟩,⟨some ⟨B3,0,none⟩,s.sf.n,k3,s.sf.z⟩⟩):=HR2
  clear HR2
  go_wp2_with fail
  refine bodyPost_ret (v:=(⟨⟨some ⟨g0,0,none⟩,s.on.n,s.on.n,fun i=>⟨some ⟨Gr i,0,none⟩,(s.on.r i).n,Cr i,(s.on.r i).z⟩⟩,o',h',m',⟨some ⟨B1,0,none⟩,s.si.n,k1,s.si.z⟩,⟨some ⟨B2,0,none⟩,s.so.n,k2,s.so.z⟩,⟨some ⟨B3,0,none⟩,s.sf.n,k3,s.sf.z⟩⟩:St).val) (by simp [results,Tryz.results90,go_sem,St.val,c0,c1,c2,c3,c4,c5,c6]) rfl ?_
  exact ⟨_,rfl,HC.out,HQ.out,hbz⟩
theorem OwnS.mono {A A':Nat} {w:World} {s:St} (h:OwnS A w s) (hA:A'≤A):OwnS A' w s:=by
 have i:∀ {r:Rw},OwnI A w r→OwnI A' w r:=fun ⟨g,a,b,c⟩=>⟨g,a,Nat.le_trans hA b,c⟩
 refine ⟨?_,fun j hj=>i (h.rows j hj),h.rapart,h.os.mono hA,h.hs.mono hA,h.ms.mono hA,h.msr.mono hA,i h.si,i h.so,i h.sf,h.aio,h.aif,h.aof,h.ari⟩
 obtain ⟨g,a,b,c⟩:=h.on
 exact ⟨g,a,Nat.le_trans hA b,c⟩
end Go.Proofs.YtbcacebifpagpagGreat
namespace Go.Proofs.YtbcacebifpagpagGreat
open Go.RowKit
set_option linter.unusedVariables false
theorem made_aux6 {P:Program} {ops:Array Oper} {Q:Exit→Act→World→Prop} {S:World→Prop} {T:Nat→Bool} {rem:List Nat} {L:Array Bool} {a1:Act} {D:Nat→Value→List Nat→World→Prop} {fuel:Nat} (hB:madeB5 ops rem L=true) (hT:∀ r∈rem,T r=false)
  (mono:∀ j∈rem,∀ v g w w',Below w.heap.size w w'→D j v g w→D j v g w') (lt:∀ j∈rem,∀ v g w,D j v g w→∀ x∈g,x<w.heap.size)
  (step:∀ i∈rem,∀ (V:Nat→Value) (G:Nat→List Nat) (w:World) (K:Act→World→Prop),S w→(∀ d∈depsOf ops i,d∈rem→D d (V d) (G d) w)→(∀ d∈depsOf ops i,∀ k∈depsOf ops i,d∈rem→k∈rem→d≠k→∀ x∈G d,x ∉ G k) →
   (∀ v g w',S w'→Below w.heap.size w w'→(∀ x∈g,w.heap.size≤x)→D i v g w'→K ((putAll ops rem V a1).put (dstOf ops i) v) w')→wpOp P ops Q i K (putAll ops rem V a1) w)
  (done:∀ (V:Nat→Value) (G:Nat→List Nat) (w:World),S w→(∀ j∈rem,D j (V j) (G j) w)→(∀ j∈rem,∀ k∈rem,j≠k→∀ x∈G j,x ∉ G k)→wpAnyT P ops Q S T fuel (mark L rem) (putAll ops rem V a1) w) :
  ∀ (m:Nat) (listed:Array Bool) (V:Nat→Value) (G:Nat→List Nat) (w:World),(rem.filter (fun r => !listed.getD r true)).length=m→listed.size=ops.size→(∀ j,j ∉ rem→listed[j]?=L[j]?)→Closed ops listed→S w→(∀ j∈rem,listed.getD j true=true→D j (V j) (G j) w) →
   (∀ j∈rem,∀ k∈rem,listed.getD j true=true→listed.getD k true=true→j≠k→∀ x∈G j,x ∉ G k)→wpAnyT P ops Q S T (m+fuel) listed (putAll ops rem V a1) w:=by
 simp only [madeB5,Bool.and_eq_true,decide_eq_true_eq] at hB
 obtain ⟨⟨⟨⟨hoth,htopo⟩,hrem⟩,hLs⟩,hnd⟩:=hB
 have hrem':∀ r∈rem,r<ops.size∧L.getD r true=false:=fun r hr=>by
  have:=List.all_eq_true.1 hrem r hr
  simpa using this
 intro m
 induction m with
 | zero =>
  intro listed V G w hm hsz hag hcl hS hD hA
  have hall:∀ r∈rem,listed.getD r true=true:=fun r hr=>by
   cases hq:listed.getD r true
   ·have:r∈rem.filter (fun r => !listed.getD r true):=List.mem_filter.2 ⟨hr,by simp [hq]⟩
    rw [List.length_eq_zero_iff.1 hm] at this
    simp at this
   ·rfl
  have hl:listed=mark L rem:=by
   apply Array.ext_getElem?
   intro j
   by_cases hj:j<L.size
   ·rw [mark_get rem L j hj]
    by_cases hjr:j∈rem
    ·rw [if_pos hjr]
     have h1:=hall j hjr
     have h2:j<listed.size:=by omega
     simp only [Array.getD,h2,dif_pos] at h1
     simp [h2]
     exact h1
    ·rw [if_neg hjr];exact hag j hjr
   ·rw [Array.getElem?_eq_none (by omega),Array.getElem?_eq_none (by rw [mark_size];omega)]
  rw [Nat.zero_add,hl]
  exact done V G w hS (fun j hj=>hD j hj (hall j hj)) fun j hj k hk=>hA j hj k hk (hall j hj) (hall k hk)
 | succ m ih =>
  intro listed V G w hm hsz hag hcl hS hD hA
  have hex:∃ r∈rem,listed.getD r true=false:=by
   have hne:rem.filter (fun r => !listed.getD r true)≠[]:=fun e=>by rw [e] at hm;simp at hm
   obtain ⟨x,hx⟩:=List.exists_mem_of_ne_nil _ hne
   have:=List.mem_filter.1 hx
   exact ⟨x,this.1,by simpa using this.2⟩
  have hLl:∀ d,L.getD d false=true→listed.getD d false=true:=fun d hd=>by
   by_cases hdr:d∈rem
   ·have h1:=(hrem' d hdr).2
    have h2:d<L.size:=by have:=(hrem' d hdr).1;omega
    simp only [Array.getD,h2,dif_pos] at h1 hd
    rw [h1] at hd;cases hd
   ·have h1:=hag d hdr
    by_cases h2:d<L.size
    ·have h3:d<listed.size:=by omega
     simp only [Array.getD,h2,h3,dif_pos] at hd ⊢
     simp only [Array.getElem?_eq_getElem h2,Array.getElem?_eq_getElem h3,Option.some.injEq] at h1
     rw [Array.getInternal_eq_getElem] at hd ⊢
     rw [h1];exact hd
    ·simp [Array.getD,h2] at hd
  obtain ⟨r0,hr0,hr0r⟩:=topo_ready hsz [] rem htopo hLl (fun d hd=>by simp at hd) (fun r hr=>(hrem' r hr).1) hex
  rw [Nat.add_right_comm]
  refine ⟨fun h0=>absurd (h0 ▸ hr0r) (by simp),fun i hi => ?_⟩
  obtain ⟨hli,o,ho,hdep⟩:=mem_ready.1 hi
  have hdeps:∀ d∈depsOf ops i,listed.getD d false=true:=fun d hd=>by
   unfold depsOf at hd
   rw [ho] at hd
   obtain ⟨e,he,rfl⟩:=List.mem_map.1 hd
   have:=List.mem_filter.1 he
   exact hdep e (by simpa using this.1) this.2
  have hdt:∀ d,listed.getD d false=true→listed.getD d true=true:=fun d hd=>by
   by_cases h2:d<listed.size
   ·simpa [Array.getD,h2] using hd
   ·simp [Array.getD,h2]
  have hir:i∈rem:=by
   cases hc:rem.contains i
   ·exfalso
    have hlt:i<ops.size:=(Array.getElem?_eq_some_iff.1 ho).1
    have hnr:i ∉ rem:=fun h=>by
     have:=List.contains_iff_mem.2 h
     rw [this] at hc;cases hc
    have h1:=List.all_eq_true.1 hoth i (List.mem_range.2 hlt)
    have hLi:L.getD i true=false:=by
     have h2:=hag i hnr
     have h3:i<L.size:=by omega
     have h4:i<listed.size:=by omega
     simp only [Array.getElem?_eq_getElem h3,Array.getElem?_eq_getElem h4,Option.some.injEq] at h2
     simp only [Array.getD,h3,h4,dif_pos] at hli ⊢
     rw [Array.getInternal_eq_getElem] at hli ⊢
     rw [← h2];exact hli
    rw [hLi,hc] at h1
    simp only [Bool.false_or] at h1
    obtain ⟨q,hq,hq2⟩:=hex
    have h5:=List.all_eq_true.1 h1 q hq
    have h6:=hdt q (reach_listed hcl _ i q (ready_deps hi) h5)
    rw [hq2] at h6;cases h6
   ·exact List.contains_iff_mem.1 hc
  refine step i hir V G w _ hS (fun d hd hdr=>hD d hdr (hdt d (hdeps d hd))) (fun d hd k hk hdr hkr=>hA d hdr k hkr (hdt d (hdeps d hd)) (hdt k (hdeps k hk))) (fun v g w' hS' hBel hfr hDi => ?_)
  refine ⟨fun _=>hS',?_⟩
  rw [putAll_put hnd hir]
  have hin:i<listed.size:=by rw [hsz];exact (hrem' i hir).1
  have gset:∀ j,(listed.setIfInBounds i true).getD j true=if j=i then true else listed.getD j true:=fun j=>by
   by_cases hj:j=i
   ·subst hj;simp [Array.getD,hin]
   ·rw [if_neg hj,getD_set_ne true (fun e=>hj e.symm)]
  refine ih (listed.setIfInBounds i true) (upd V i v) (fun j=>if j=i then g else G j) w' ?_ (by simpa using hsz) (fun j hj => ?_) (hcl.set hi) hS' (fun j hj hlj => ?_) (fun j hj k hk hlj hlk hjk x hx => ?_)
  ·have hnodup:rem.Nodup:=by
    exact (List.pairwise_map.1 hnd).imp (fun h e=>h (by rw [e]))
   have e1:(rem.filter (fun r => !listed.getD r true))=rem.filter (fun r => !listed.getD r true):=rfl
   have hcount:(rem.filter (fun r => !(listed.setIfInBounds i true).getD r true))=(rem.filter (fun r => !listed.getD r true)).erase i:=by
    have e2:rem.filter (fun r => !(listed.setIfInBounds i true).getD r true)=(rem.filter (fun r => !listed.getD r true)).filter (fun r=>r !=i):=by
     rw [List.filter_filter]
     refine List.filter_congr fun x hx => ?_
     rw [gset x]
     by_cases hxi:x=i<;>simp [hxi]
    rw [e2,← List.Nodup.erase_eq_filter (hnodup.filter _)]
   rw [hcount,List.length_erase_of_mem (List.mem_filter.2 ⟨hir,by simp [hli]⟩),hm]
   rfl
  ·rw [Array.getElem?_setIfInBounds,if_neg (fun e:i=j=>hj (by rw [← e];exact hir))]
   exact hag j hj
  ·unfold upd
   by_cases hji:j=i
   ·subst hji;rw [if_pos rfl,if_pos rfl];exact hDi
   ·rw [if_neg hji,if_neg hji]
    rw [gset j,if_neg hji] at hlj
    exact mono j hj _ _ _ _ hBel (hD j hj hlj)
  ·by_cases hji:j=i
   ·have hki:¬ k=i:=fun e=>hjk (hji.trans e.symm)
    rw [if_pos hji] at hx
    rw [if_neg hki]
    rw [gset k,if_neg hki] at hlk
    intro hx2
    have h1:=hfr x hx
    have h2:=lt k hk _ _ _ (hD k hk hlk) x hx2
    omega
   ·rw [if_neg hji] at hx
    rw [gset j,if_neg hji] at hlj
    by_cases hki:k=i
    ·rw [if_pos hki]
     intro hx2
     have h1:=hfr x hx2
     have h2:=lt j hj _ _ _ (hD j hj hlj) x hx
     omega
    ·rw [if_neg hki]
     rw [gset k,if_neg hki] at hlk
     exact hA j hj k hk hlj hlk hjk x hx
def Made6 (P:Program) (ops:Array Oper) (Q:Exit→Act→World→Prop) (S:World→Prop) (rem:List Nat) (ord:List (Bool × Nat)) (a1:Act):Prop :=
 ∃ D:Nat→Value→List Nat→World→Prop,(∀ j∈rem,∀ v g w w',Below w.heap.size w w'→D j v g w→D j v g w')∧(∀ j∈rem,∀ v g w,D j v g w→∀ x∈g,x<w.heap.size) ∧
  (∀ i∈rem,∀ (V:Nat→Value) (G:Nat→List Nat) (w:World) (K:Act→World→Prop),S w→(∀ d∈depsOf ops i,d∈rem→D d (V d) (G d) w)→(∀ d∈depsOf ops i,∀ k∈depsOf ops i,d∈rem→k∈rem→d≠k→∀ x∈G d,x ∉ G k) →
   (∀ v g w',S w'→Below w.heap.size w w'→(∀ x∈g,w.heap.size≤x)→D i v g w'→K ((putAll ops rem V a1).put (dstOf ops i) v) w')→wpOp P ops (NoPanic Q) i K (putAll ops rem V a1) w) ∧
  (∀ (V:Nat→Value) (G:Nat→List Nat) (w:World),S w→(∀ j∈rem,D j (V j) (G j) w)→(∀ j∈rem,∀ k∈rem,j≠k→∀ x∈G j,x ∉ G k)→wpSeq P ops (NoPanic Q) S ord (putAll ops rem V a1) w)
def tailsB6 (ops:Array Oper) (ks rem:List Nat) (ord:List (Bool × Nat)):Bool :=
 ks.all (fun k => !ord.contains (true,k)&&ord.all (fun x => !x.1||reach ops ops.size x.2 k))&&rem.all (fun r => !ord.contains (true,r))&&ord.all (fun x=>x.1 || !ord.contains (true,x.2))
theorem wp_region_made6 {P:Program} {l:List Oper} {Q:Exit→Act→World→Prop} {id:Nat} {a:Act} {w:World} (S:World→Prop) (ks rem:List Nat) (ord:List (Bool × Nat))
  (hm:P.follows .mixedOrders=true) (hs:Region.noSelect l.toArray=true) (hF:firstsB l.toArray ks (Array.replicate l.length false)=true) (hks:ks.all (fun k=>decide (k<l.length))=true) (hv:((picks l ks).all vKind2)=true)
  (hM:madeB5 l.toArray rem (mark (Array.replicate l.length false) ks)=true) (hTB:tailsB6 l.toArray ks rem ord=true) (hB:seqB l.toArray ord (mark (mark (Array.replicate l.length false) ks) rem)=true) (hl:ks.length+(rem.length+ord.length)=l.length)
  (hS:S w.drew) (h:wpQuiet P l.toArray S (Made6 P l.toArray Q S rem ord) (picks l ks) a):(Code.region id l.toArray true).wp P Q a w:=by
 refine wp_region_noPanic (wp_region_any hm ?_)
 have hM':=hM
 simp only [madeB5,Bool.and_eq_true,decide_eq_true_eq] at hM'
 simp only [tailsB6,Bool.and_eq_true] at hTB
 have hT:∀ j,(ord.contains (true,j))=true→(true,j)∈ord:=fun j h=>by simpa using h
 have key:=wpAnyT_firsts (Q:=NoPanic Q) (T:=fun i=>ord.contains (true,i)) (N:=l.toArray.size) (fuel:=rem.length+ord.length) (w:=w.drew) hs hS (fun c a a' w h=>(h:False).elim) ks (picks l ks) _ a hF (fun k hk => ?_) (Closed.none _ _) (picks_ok hks) hv h (fun a1 hK hcl => ?_)
 ·have:=wpAny_of_T _ _ _ _ key
  rw [hl] at this
  simpa using this
 ·have h1:=List.all_eq_true.1 hTB.1.1 k hk
  simp only [Bool.and_eq_true] at h1
  refine ⟨by simpa using h1.1,fun j hj => ?_⟩
  have h2:=List.all_eq_true.1 h1.2 (true,j) (hT j hj)
  simpa using h2
 ·obtain ⟨D,mono,lt,step,done⟩:=hK
  have hall:(rem.filter (fun r => !(mark (Array.replicate l.length false) ks).getD r true))=rem:=by
   rw [List.filter_eq_self]
   intro r hr
   have:=List.all_eq_true.1 hM'.1.1.2 r hr
   simp only [Bool.and_eq_true] at this
   exact this.2
  have hun:∀ j∈rem,(mark (Array.replicate l.length false) ks).getD j true=true→False:=fun j hj hlj=>by
   have:=List.all_eq_true.1 hM'.1.1.2 j hj
   simp only [Bool.and_eq_true,hlj] at this
   simp at this
  obtain ⟨V0,hV0⟩:∃ V0,putAll l.toArray rem V0 a1=a1:=⟨_,putAll_self a1 rem⟩
  have:=made_aux6 (P:=P) (Q:=NoPanic Q) (S:=S) (T:=fun i=>ord.contains (true,i)) (a1:=a1) (fuel:=ord.length) hM (fun r hr=>by have:=List.all_eq_true.1 hTB.1.2 r hr;simpa using this) mono lt step
   (fun V G w' hS' hD hA=>wpAnyT_seq ord _ _ w' hB (fun t i hti=>by
    cases t with
    | true=>simpa using hti
    | false =>
     have:=List.all_eq_true.1 hTB.2 (false,i) hti
     simpa using this) (done V G w' hS' hD hA))
   rem.length (mark (Array.replicate l.length false) ks) V0 (fun _=>[]) w.drew (by rw [hall]) hM'.1.2 (fun _ _=>rfl) hcl hS (fun j hj hlj=>(hun j hj hlj).elim) (fun j hj k hk hlj _ _=>(hun j hj hlj).elim)
  rw [hV0] at this
  exact this
end Go.Proofs.YtbcacebifpagpagGreat
namespace Go.Proofs.YtbcacebifpagpagGreat
open Go.RowKit Go.Shelf Go.Sort
set_option linter.unusedVariables false
def ZeroAt (A n:Nat) (v:Value) (g:List Nat) (wk:World):Prop:=∃ B,g=[B]∧v = .slice (some ⟨B,0,none⟩) n n∧A≤B∧Blk wk B 3 n (fun _ => .int .i64 0)
theorem ZeroAt.below {A n:Nat} {v:Value} {g:List Nat} {w w':World} (h:ZeroAt A n v g w) (hB:Below w.heap.size w w'):ZeroAt A n v g w':=by
 obtain ⟨B,h0,h1,h2,h3⟩:=h
 exact ⟨B,h0,h1,h2,h3.below hB⟩
theorem ZeroAt.lt {A n:Nat} {v:Value} {g:List Nat} {w:World} (h:ZeroAt A n v g w):∀ x∈g,x<w.heap.size:=by
 obtain ⟨B,rfl,h1,h2,h3⟩:=h
 intro x hx
 rw [List.mem_singleton] at hx
 subst hx
 exact h3.lt
def BoxAt (A:Nat) (v:Value) (g:List Nat) (wk:World):Prop:=∃ B,g=[B]∧v = .pointer (some ⟨B,0,none⟩)∧A≤B∧Blk wk B 31 7 (fun _ => .slice .none 0 0)
theorem BoxAt.below {A:Nat} {v:Value} {g:List Nat} {w w':World} (h:BoxAt A v g w) (hB:Below w.heap.size w w'):BoxAt A v g w':=by
 obtain ⟨B,h0,h1,h2,h3⟩:=h
 exact ⟨B,h0,h1,h2,h3.below hB⟩
theorem BoxAt.lt {A:Nat} {v:Value} {g:List Nat} {w:World} (h:BoxAt A v g w):∀ x∈g,x<w.heap.size:=by
 obtain ⟨B,rfl,h1,h2,h3⟩:=h
 intro x hx
 rw [List.mem_singleton] at hx
 subst hx
 exact h3.lt
def SumsAt (A n:Nat) (v:Value) (g:List Nat) (wk:World):Prop:=∃ B1 B2 B3,g=[]∧v = .agg #[.slice .none 0 0,.slice .none 0 0,.slice .none 0 0,.slice .none 0 0,.slice (some ⟨B1,0,none⟩) n n,.slice (some ⟨B2,0,none⟩) n n,.slice (some ⟨B3,0,none⟩) n n] ∧
 (A≤B1∧Blk wk B1 3 n (fun _ => .int .i64 0))∧(A≤B2∧Blk wk B2 3 n (fun _ => .int .i64 0))∧(A≤B3∧Blk wk B3 3 n (fun _ => .int .i64 0))
theorem SumsAt.below {A n:Nat} {v:Value} {g:List Nat} {w w':World} (h:SumsAt A n v g w) (hB:Below w.heap.size w w'):SumsAt A n v g w':=by
 obtain ⟨B1,B2,B3,h0,h1,⟨a1,a2⟩,⟨b1,b2⟩,⟨c1,c2⟩⟩:=h
 exact ⟨B1,B2,B3,h0,h1,⟨a1,a2.below hB⟩,⟨b1,b2.below hB⟩,⟨c1,c2.below hB⟩⟩
def OneAt (A n:Nat) (v:Value) (g:List Nat) (wk:World):Prop:=∃ B R,g=[B]∧v = .slice (some ⟨B,0,none⟩) 1 1∧A≤B∧Blk wk B 23 1 (fun _ => .slice (some ⟨R,0,none⟩) n n)∧A≤R∧Blk wk R 3 n (fun _ => .int .i64 0)
theorem OneAt.below {A n:Nat} {v:Value} {g:List Nat} {w w':World} (h:OneAt A n v g w) (hB:Below w.heap.size w w'):OneAt A n v g w':=by
 obtain ⟨B,R,h0,h1,h2,h3,h4,h5⟩:=h
 exact ⟨B,R,h0,h1,h2,h3.below hB,h4,h5.below hB⟩
theorem OneAt.lt {A n:Nat} {v:Value} {g:List Nat} {w:World} (h:OneAt A n v g w):∀ x∈g,x<w.heap.size:=by
 obtain ⟨B,R,rfl,h1,h2,h3,h4,h5⟩:=h
 intro x hx
 rw [List.mem_singleton] at hx
 subst hx
 exact h3.lt
def Fr (n:Nat) (w:World) (s:St):Prop:=∀ w'':World,w.heap.size≤w''.heap.size→(∀ g,n≤g→g<w.heap.size→w''.heap[g]?=w.heap[g]?)→s.At w''
theorem Fr.at {n:Nat} {w:World} {s:St} (h:Fr n w s):s.At w:=h w (Nat.le_refl _) (fun _ _ _=>rfl)
theorem Fr.below {n:Nat} {w w':World} {s:St} (h:Fr n w s) (hB:Below w.heap.size w w'):Fr n w' s:=fun w'' hz hs=>h w'' (Nat.le_trans hB.size hz) fun g h1 h2=>(hs g h1 (Nat.lt_of_lt_of_le h2 hB.size)).trans (hB.block g h2)
theorem Fr.set {n:Nat} {w:World} {s:St} (h:Fr n w s) {q:Nat} (hq:q<n) (j:Nat) (u:Value):Fr n (w.setCell ⟨q,j,none⟩ u) s:=fun w'' hz hs=>h w'' (by simpa using hz) fun g h1 h2=>(hs g h1 (by simpa using h2)).trans (Below.heap_setCell w ⟨q,j,none⟩ u g (by show g≠q;omega))
def DOn (A:Nat) (s:St) (v:Value) (g:List Nat) (wk:World):Prop:=∃ (g0 c0:Nat) (G C:Nat→Nat),v = .slice (some ⟨g0,0,none⟩) s.on.n c0∧A≤g0∧s.on.n≤c0∧c0≤maxLen∧Blk wk g0 23 s.on.n (fun i => .slice (some ⟨G i,0,none⟩) (s.on.r i).n (C i)) ∧
 (∀ i,i<s.on.n→A≤G i∧(s.on.r i).n≤C i∧C i≤maxLen∧Blk wk (G i) 3 (s.on.r i).n (fun j => .int .i64 ((s.on.r i).z j)))∧(∀ i j,i<j→j<s.on.n→G i<G j)∧g=(List.range s.on.n).map G
theorem DOn.below {A:Nat} {s:St} {v:Value} {g:List Nat} {w w':World} (h:DOn A s v g w) (hB:Below w.heap.size w w'):DOn A s v g w':=by
 obtain ⟨g0,c0,G,C,h1,h2,h2',h2'',h3,h4,h5,h6⟩:=h
 exact ⟨g0,c0,G,C,h1,h2,h2',h2'',h3.below hB,fun i hi=>⟨(h4 i hi).1,(h4 i hi).2.1,(h4 i hi).2.2.1,(h4 i hi).2.2.2.below hB⟩,h5,h6⟩
theorem DOn.lt {A:Nat} {s:St} {v:Value} {g:List Nat} {w:World} (h:DOn A s v g w):∀ x∈g,x<w.heap.size:=by
 obtain ⟨g0,c0,G,C,h1,h2,h2',h2'',h3,h4,h5,rfl⟩:=h
 intro x hx
 obtain ⟨i,hi,rfl⟩:=List.mem_map.1 hx
 exact (h4 i (List.mem_range.1 hi)).2.2.2.lt
def DAgg (A:Nat) (s:St) (v:Value) (g:List Nat) (wk:World):Prop:=g=[]∧∃ x2 g2 x6 g6 x10 g10 x14 g14 x18 g18 x22 g22,v = .agg #[x2,.slice .none 0 0,x6,x10,x14,x18,x22]∧DOn A s x2 g2 wk∧DHs A 61 s.hs x6 g6 wk∧DHs A 63 s.ms x10 g10 wk ∧
 DInts A s.si x14 g14 wk∧DInts A s.so x18 g18 wk∧DInts A s.sf x22 g22 wk∧(∀ x∈g2,x ∉ g14)∧(∀ x∈g2,x ∉ g18)∧(∀ x∈g2,x ∉ g22)∧(∀ x∈g14,x ∉ g18)∧(∀ x∈g14,x ∉ g22)∧(∀ x∈g18,x ∉ g22)
theorem DAgg.below {A:Nat} {s:St} {v:Value} {g:List Nat} {w w':World} (h:DAgg A s v g w) (hB:Below w.heap.size w w'):DAgg A s v g w':=by
 obtain ⟨h0,x2,g2,x6,g6,x10,g10,x14,g14,x18,g18,x22,g22,h1,a,b,c,d,e,f,r⟩:=h
 exact ⟨h0,x2,g2,x6,g6,x10,g10,x14,g14,x18,g18,x22,g22,h1,a.below hB,b.below hB,c.below hB,d.below hB,e.below hB,f.below hB,r⟩
theorem OwnS.below {A:Nat} {w w':World} {s:St} (h:OwnS A w s) (hB:Below w.heap.size w w'):OwnS A w' s:=by
 refine ⟨?_,fun i hi=>(h.rows i hi).below hB,h.rapart,h.os.below hB,h.hs.below hB,h.ms.below hB,h.msr.below hB,h.si.below hB,h.so.below hB,h.sf.below hB,h.aio,h.aif,h.aof,h.ari⟩
 obtain ⟨g,ha,h0,h1,h2,hb⟩:=h.on
 exact ⟨g,ha,h0,h1,h2,hb.below hB⟩
def D16 (A:Nat) (x:Od) (v:Value) (g:List Nat) (wk:World):Prop:=∃ s':Hs,g=[]∧v = .agg #[.int .i64 x.k,.slice s'.a s'.n s'.c]∧Cloned A 59 x.ls wk s'
theorem D16.below {A:Nat} {x:Od} {v:Value} {g:List Nat} {w w':World} (h:D16 A x v g w) (hB:Below w.heap.size w w'):D16 A x v g w':=by
 obtain ⟨s',h1,h2,h3,h4,h5,h6⟩:=h
 exact ⟨s',h1,h2,h3,h4,h5.below hB,h6.below hB⟩
def D17 (A:Nat) (x:Od) (v:Value) (g:List Nat) (wk:World):Prop:=∃ (B:Nat) (s':Hs),g=[]∧v = .slice (some ⟨B,0,none⟩) 1 1∧A≤B∧Blk wk B 57 2 (fun j=>(#[.int .i64 x.k,.slice s'.a s'.n s'.c]:Array Value).getD j default)∧Cloned A 59 x.ls wk s'
theorem D17.below {A:Nat} {x:Od} {v:Value} {g:List Nat} {w w':World} (h:D17 A x v g w) (hB:Below w.heap.size w w'):D17 A x v g w':=by
 obtain ⟨B,s',h1,h2,h3,h4,h5,h6,h7,h8⟩:=h
 exact ⟨B,s',h1,h2,h3,h4.below hB,h5,h6,h7.below hB,h8.below hB⟩
end Go.Proofs.YtbcacebifpagpagGreat
namespace Go.Proofs.YtbcacebifpagpagGreat
open Go.RowKit Go.Shelf
set_option linter.unusedVariables false
def Grew (A:Nat) (e:TypeId) (w w':World):Prop:=∃ row,w.grownBy w' row∧∀ k,row=some k→A≤k∧∃ cur,w.heap[k]?=some (.cells cur e (0,0))
theorem Grew.blk {A:Nat} {e:TypeId} {w w':World} (h:Grew A e w w') {q:Nat} {t:TypeId} {m:Nat} {f:Nat→Value} (hb:Blk w q t m f) (hne:t≠e):Blk w' q t m f:=by
 obtain ⟨row,hg,hr⟩:=h
 refine hb.grown hg fun hq => ?_
 obtain ⟨_,c2,hc2⟩:=hr q hq.symm
 obtain ⟨c3,hc3,_⟩:=hb
 rw [hc3] at hc2
 cases hc2
 exact hne rfl
theorem Grew.low {A:Nat} {e:TypeId} {w w':World} (h:Grew A e w w') {q:Nat} {t:TypeId} {m:Nat} {f:Nat→Value} (hb:Blk w q t m f) (hq:q<A):Blk w' q t m f:=by
 obtain ⟨row,hg,hr⟩:=h
 exact hb.grown hg fun hq'=>by have:=(hr q hq'.symm).1;omega
theorem Grew.below {A A':Nat} {e:TypeId} {w0 w w':World} (h:Grew A e w w') (hB:Below A' w0 w) (hA:A'≤A) (hs:A'≤w.heap.size):Below A' w0 w':=by
 obtain ⟨row,hg,hr⟩:=h
 exact hB.grown hg hs fun k hk=>by have:=(hr k hk).1;omega
theorem Room.grew {A B:Nat} {t:TypeId} {w w2:World} {sz c:Nat} {a:Option Addr} {e:TypeId} (h:Room A w t sz a c) (hg:Grew B e w w2) (hne:t≠e):Room A w2 t sz a c:=by
 obtain ⟨row,hg,hr⟩:=hg
 refine h.same fun g cur hgc=>hg.block g (Array.getElem?_eq_some_iff.1 hgc).1 fun hq => ?_
 obtain ⟨_,c2,hc2⟩:=hr g hq.symm
 rw [hgc] at hc2
 cases hc2
 exact hne rfl
theorem OwnI.grew {A B:Nat} {w w2:World} {r:Rw} {e:TypeId} (h:OwnI A w r) (hg:Grew B e w w2) (hne:3≠e):OwnI A w2 r:=by
 obtain ⟨g,ha,h0,h1,h2,hb⟩:=h
 exact ⟨g,ha,h0,h1,h2,hg.blk hb hne⟩
theorem OwnH.grew {A B:Nat} {t:TypeId} {w w2:World} {s:Hs} {e:TypeId} (h:OwnH A t w s) (hg:Grew B e w w2) (hne:t≠e):OwnH A t w2 s:=by
 obtain ⟨h1,h2,h3,h4⟩:=h
 refine ⟨h1,h2,h3,fun hn => ?_⟩
 obtain ⟨g,ha,hA,hb⟩:=h4 hn
 exact ⟨g,ha,hA,hg.blk hb hne⟩
theorem owns_mono {A A':Nat} {w:World} {e:TypeId} {size:Nat} {v:Value} {n:Nat} {xs:List Value} (h:w.ownsRow A e size v n xs) (hA:A'≤A):w.ownsRow A' e size v n xs :=
 ⟨h.1,h.2.imp_right fun ⟨g,cap,cur,h1,h2,h3⟩=>⟨g,cap,cur,h1,Nat.le_trans hA h2,h3⟩⟩
theorem owns_of {A:Nat} {w:World} {e:TypeId} {size g c n:Nat} {cur:Array Value} {xs:List Value} (hA:A≤g) (hg:w.heap[g]?=some (.cells cur e (0,0))) (hsz:cur.size=c*size) (hle:n≤c) (hcap:c≤maxLen) (hl:xs.length=n*size)
  (hb:0<n→Blk w g e (n*size) (fun j=>xs.getD j default)):w.ownsRow A e size (.slice (some ⟨g,0,none⟩) n c) n xs:=by
 refine ⟨hl,Or.inr ⟨g,c,cur,rfl,hA,hg,hle,hcap,hsz,?_⟩⟩
 apply List.ext_getElem?
 intro j
 rw [List.getElem?_take]
 by_cases hj:j<n*size
 ·rw [if_pos hj]
  have hn:0<n:=by
   rcases Nat.eq_zero_or_pos n with h | h
   ·subst h;simp at hj
   ·exact h
  obtain ⟨cur',hc,_,hf⟩:=hb hn
  rw [hg] at hc
  cases hc
  have h1:=hf j hj
  have h2:j<xs.length:=by omega
  rw [List.getElem?_eq_getElem h2]
  simp only [List.getD,List.getElem?_eq_getElem h2,Option.getD_some] at h1
  simpa using h1
 ·rw [if_neg hj,List.getElem?_eq_none (by omega)]
theorem wpList_append_room {P:Program} (w:World) {ops:Array Oper} {rest:List Oper} {o:Oper} {a:Act} {Q:Exit→Act→World→Prop}
  (hg:o.guard=none) (s x:Operand) (t:TypeId) (hop:o.op=Op.call { callee:=Callee.builtin Builtin.append,args:=#[s,x],argTypes:=#[t,t] })
  (A:Nat) (e:TypeId) (i:TypeInfo) (z:Value) (size bytes:Nat) (h1:P.underlying t=some (.slice e)) (h2:P.info? e=some i) (h3:i.zero=some z) (h4:i.size=size) (h5:i.bytes=bytes) (h6:z.cells.size=size) (h7:0<size)
  (ao:Option Addr) (n c:Nat) (xs:List Value) (hs:a.eval s = .slice ao n c) (hroom:Room A w e size ao c) (hle:n≤c) (hcap:c≤maxLen) (hlo:xs.length=n*size) (hblk:0<n→∃ g,ao=some ⟨g,0,none⟩∧A≤g∧Blk w g e (n*size) (fun j=>xs.getD j default))
  (ad:Addr) (m c':Nat) (news:List Value) (hx:a.eval x = .slice (some ad) m c') (hn:news.length=m*size) (hc:∀ j u,news[j]?=some u→w.cell? (ad.add j)=some u) (h1c:∀ u∈news,u.oneCell'=true)
  (hm:0<m) (b1:n+m≤maxLen) (b2:(n+m)*bytes≤140737488355328) (hA:A≤w.heap.size)
  (hK:∀ v' w',w'.ownsRow A e size v' (n+m) (xs++news)→Grew A e w w'→wpList P ops Q rest (a.put o.dst v') w') :
  wpList P ops Q (o :: rest) a w:=by
 rcases hroom with h0 | ⟨g,cur,ha,hA',hgc,hsz⟩
 ·subst h0
  have hn0:n=0:=by omega
  subst hn0
  obtain rfl:xs=[]:=List.eq_nil_of_length_eq_zero (by simpa using hlo)
  refine wpList_append_grows w hg s x t hop e i z size bytes h1 h2 h3 h4 h5 h6 h7 ao 0 0 [] hs (fun _=>⟨rfl,rfl⟩) (by simp) (fun b _ j u hj=>by simp at hj) ad m c' news hx hn hc h1c (by omega) b1 b2 fun v' w' r1 r2 => ?_
  exact hK v' w' (owns_mono r1 hA) ⟨none,r2,fun k hk=>by cases hk⟩
 ·subst ha
  have hown:=owns_of (w:=w) (e:=e) hA' hgc hsz hle hcap hlo (fun h=>by
   obtain ⟨g',e1,_,hb⟩:=hblk h
   simp only [Option.some.injEq,Addr.mk.injEq,and_true] at e1
   subst e1
   exact hb)
  refine wpList_append_own w hg s x t hop A e i z size bytes h1 h2 h3 h4 h5 h6 h7 _ n xs hs hown ad m c' news hx hn hc h1c b1 b2 hA fun v' w' r1 r2 _ => ?_
  refine hK v' w' r1 ⟨_,r2,fun k hk => ?_⟩
  simp only [Value.ownBlock,Option.some.injEq] at hk
  subst hk
  exact ⟨hA',cur,hgc⟩
def moreO (s:Os) (x:Od) (i:Nat):Od:=if i=s.n then x else s.z i
theorem flatO_more (s:Os) (x:Od):flatO s.n s.z++odCells x=flatO (s.n+1) (moreO s x):=by
 rw [flatO,flatO_congr (z':=moreO s x) fun i hi=>by unfold moreO;rw [if_neg (by omega)]]
 congr 1
 unfold moreO
 rw [if_pos rfl]
theorem OwnO.more {A:Nat} {w w':World} {s:Os} {x:Od} {v:Value} (h:OwnO A w s) (ho:w'.ownsRow A 57 2 v (s.n+1) (flatO s.n s.z++odCells x)) (hg:Grew A 57 w w')
  {B:Nat} (ha:x.ls.a=some ⟨B,0,none⟩) (hB:A≤B) (hl:x.ls.n≤x.ls.c) (hc:x.ls.c≤maxLen) (hk:Blk w B 59 (x.ls.n*4) (fun j=>(flatH x.ls.n x.ls.z).getD j default)) (hap:∀ i,i<s.n→(s.z i).ls.a≠x.ls.a) :
  ∃ va vc,v = .slice va (s.n+1) vc∧OwnO A w' ⟨va,s.n+1,vc,moreO s x⟩:=by
 have hv:v ≠ .slice none 0 0:=by
  rintro rfl
  rcases ho.2 with ⟨_,h0⟩ | ⟨g2,cap2,cur2,h,_⟩
  ·omega
  ·cases h
 have ho':=ho
 rw [flatO_more] at ho'
 obtain ⟨g,c,rfl,h1,h2,h3,h4⟩:=Blk.ofOwns ho' hv
 refine ⟨some ⟨g,0,none⟩,c,rfl,h1,h2,fun _=>⟨g,rfl,h3,h4⟩,fun i hi => ?_,fun i j hij hj => ?_,Room.ofOwns ho (Nat.le_refl _)⟩
 ·show ∃ B,(moreO s x i).ls.a=_∧A≤B∧(moreO s x i).ls.n≤(moreO s x i).ls.c∧(moreO s x i).ls.c≤maxLen∧Blk w' B 59 ((moreO s x i).ls.n*4) (fun j=>(flatH (moreO s x i).ls.n (moreO s x i).ls.z).getD j default)
  have hi':i<s.n+1:=hi
  unfold moreO
  by_cases hin:i=s.n
  ·rw [if_pos hin]
   exact ⟨B,ha,hB,hl,hc,hg.blk hk (by decide)⟩
  ·rw [if_neg hin]
   obtain ⟨B',a1,a2,a3,a4,a5⟩:=h.lines i (by omega)
   exact ⟨B',a1,a2,a3,a4,hg.blk a5 (by decide)⟩
 ·have hj':j<s.n+1:=hj
  show (moreO s x i).ls.a≠(moreO s x j).ls.a
  unfold moreO
  rw [if_neg (by omega)]
  by_cases hjn:j=s.n
  ·rw [if_pos hjn]
   exact hap i (by omega)
  ·rw [if_neg hjn]
   exact h.apart i j hij (by omega)
end Go.Proofs.YtbcacebifpagpagGreat
namespace Go.Proofs.YtbcacebifpagpagGreat
open Go.RowKit
set_option linter.unusedVariables false
structure Bt (R:Nat) (w w':World):Prop where
 os:w'.os=w.os
 tape:w'.tape=w.tape
 output:w'.output=w.output
 size:w.heap.size≤w'.heap.size
 block:∀ q,q<w.heap.size→q≠R→w'.heap[q]?=w.heap[q]?
theorem Bt.refl (R:Nat) (w:World):Bt R w w:=⟨rfl,rfl,rfl,Nat.le_refl _,fun _ _ _=>rfl⟩
theorem Bt.trans {R:Nat} {a b c:World} (h:Bt R a b) (k:Bt R b c):Bt R a c :=
 ⟨k.os.trans h.os,k.tape.trans h.tape,k.output.trans h.output,Nat.le_trans h.size k.size,fun q hq hn=>(k.block q (Nat.lt_of_lt_of_le hq h.size) hn).trans (h.block q hq hn)⟩
theorem Bt.drew {R:Nat} {a w:World} (h:Bt R a w):Bt R a w.drew:=⟨h.os,h.tape,h.output,h.size,h.block⟩
theorem Bt.of {R B:Nat} {w w':World} (h:Below B w w') (hB:w.heap.size≤B):Bt R w w':=⟨h.os,h.tape,h.output,h.size,fun q hq _=>h.block q (by omega)⟩
theorem Bt.alloc {R:Nat} {a w:World} (h:Bt R a w) (o:Obj):Bt R a (w.alloc o):=h.trans (Bt.of ((Below.refl _ _).alloc (Nat.le_refl _) o) (Nat.le_refl _))
theorem Bt.set {R:Nat} {a w:World} (h:Bt R a w) {p:Addr} (hp:p.block=R∨a.heap.size≤p.block) (u:Value):Bt R a (w.setCell p u) :=
 ⟨h.os,h.tape,h.output,by simpa [World.setCell] using h.size,fun q hq hn=>(Below.heap_setCell w p u q (by rcases hp with hp | hp<;>omega)).trans (h.block q hq hn)⟩
theorem Bt.thenB {R:Nat} {a b c:World} (h:Bt R a b) (k:Below a.heap.size b c):Bt R a c :=
 ⟨k.os.trans h.os,k.tape.trans h.tape,k.output.trans h.output,Nat.le_trans h.size k.size,fun q hq hn=>(k.block q hq).trans (h.block q hq hn)⟩
theorem Bt.blk {R:Nat} {w w':World} (h:Bt R w w') {q:Nat} {e:TypeId} {n:Nat} {f:Nat→Value} (hb:Blk w q e n f) (hq:q≠R):Blk w' q e n f:=hb.same (h.block q hb.lt hq)
theorem Bt.below {R B:Nat} {w w':World} (h:Bt R w w') (hB:B≤R) (hs:B≤w.heap.size):Below B w w':=⟨h.os,h.tape,h.output,h.size,fun k hk=>h.block k (by omega) (by omega)⟩
theorem Bt.grew {R A:Nat} {e:TypeId} {a w w':World} (h:Bt R a w) (hg:Grew A e w w') (hA:a.heap.size≤A):Bt R a w':=by
 obtain ⟨row,hg,hr⟩:=hg
 exact ⟨hg.os.trans h.os,hg.tape.trans h.tape,hg.output.trans h.output,Nat.le_trans h.size hg.size,fun q hq hn=>(hg.block q (Nat.lt_of_lt_of_le hq h.size) (fun e=>by have:=(hr q e.symm).1;omega)).trans (h.block q hq hn)⟩
structure Eqv (w w':World):Prop where
 os:w'.os=w.os
 tape:w'.tape=w.tape
 output:w'.output=w.output
 heap:w'.heap=w.heap
theorem Eqv.refl (w:World):Eqv w w:=⟨rfl,rfl,rfl,rfl⟩
theorem Eqv.trans {a b c:World} (h:Eqv a b) (k:Eqv b c):Eqv a c:=⟨k.os.trans h.os,k.tape.trans h.tape,k.output.trans h.output,k.heap.trans h.heap⟩
theorem Eqv.drew (w:World):Eqv w w.drew:=⟨rfl,rfl,rfl,rfl⟩
theorem Eqv.drewN (w:World) (n:Nat):Eqv w (w.drewN n):=⟨rfl,rfl,rfl,rfl⟩
theorem Eqv.set {w w':World} (h:Eqv w w') (p:Addr) (u:Value):Eqv (w.setCell p u) (w'.setCell p u):=by
 refine ⟨h.os,h.tape,h.output,?_⟩
 unfold World.setCell
 rw [h.heap]
theorem Eqv.below {w w':World} (h:Eqv w w') (B:Nat):Below B w w':=⟨h.os,h.tape,h.output,by rw [h.heap];exact Nat.le_refl _,fun k _=>by rw [h.heap]⟩
theorem Eqv.bt {w w':World} (h:Eqv w w') (R:Nat):Bt R w w':=⟨h.os,h.tape,h.output,by rw [h.heap];exact Nat.le_refl _,fun k _ _=>by rw [h.heap]⟩
theorem Eqv.blk {w w':World} (h:Eqv w w') {q:Nat} {e:TypeId} {n:Nat} {f:Nat→Value} (hb:Blk w q e n f):Blk w' q e n f:=hb.same (by rw [h.heap])
def getW (R:Nat) (t:List UInt8):List Addr→Nat→World→World
 | [],_,w=>w
 | p :: ps,k,w=>getW R t ps (k+1) ((w.setCell p (.int .i64 (rdN t k))).setCell ⟨R,1,none⟩ (.int .i64 ((k+1:Nat):Int)))
theorem getW_more (R:Nat) (t:List UInt8):∀ (ps:List Addr) (p:Addr) (k:Nat) (w:World),getW R t (ps++[p]) k w=((getW R t ps k w).setCell p (.int .i64 (rdN t (k+ps.length)))).setCell ⟨R,1,none⟩ (.int .i64 ((k+ps.length+1:Nat):Int))
 | [],p,k,w=>rfl
 | q :: ps,p,k,w=>by
  show getW R t (ps++[p]) (k+1) _=_
  rw [getW_more R t ps p (k+1)]
  simp only [List.length_cons,getW]
  rw [show k+1+ps.length=k+(ps.length+1) by omega]
theorem getW_bt (R:Nat) (t:List UInt8) {a:World}:∀ (ps:List Addr) (k:Nat) (w:World),Bt R a w→(∀ p∈ps,p.block=R∨a.heap.size≤p.block)→Bt R a (getW R t ps k w)
 | [],_,_,h,_=>h
 | p :: ps,k,w,h,hp=>getW_bt R t ps (k+1) _ ((h.set (hp p (List.mem_cons_self ..)) _).set (Or.inl rfl) _) fun q hq=>hp q (List.mem_cons_of_mem _ hq)
def Shp (w:World) (q:Nat) (e:TypeId) (n:Nat):Prop:=∃ f,Blk w q e n f
theorem Shp.set {w:World} {q:Nat} {e:TypeId} {n:Nat} (h:Shp w q e n) (b j:Nat) (u:Value):Shp (w.setCell ⟨b,j,none⟩ u) q e n:=by
 obtain ⟨f,h⟩:=h
 by_cases c:q=b
 ·subst c;exact ⟨_,h.set j u⟩
 ·exact ⟨_,h.other c u⟩
theorem Shp.getW {R:Nat} {t:List UInt8} {q:Nat} {e:TypeId} {n:Nat}:∀ (ps:List Addr) (k:Nat) (w:World),(∀ p∈ps,p.spot=none)→Shp w q e n→Shp (getW R t ps k w) q e n
 | [],_,_,_,h=>h
 | ⟨b,j,s⟩ :: ps,k,w,hp,h=>by
  have h1:s=none:=hp _ (List.mem_cons_self ..)
  subst h1
  exact Shp.getW ps (k+1) _ (fun p hq=>hp p (List.mem_cons_of_mem _ hq)) ((h.set b j _).set R 1 _)
theorem getW_blk (R:Nat) (t:List UInt8) {q:Nat} {e:TypeId} {n:Nat} {f:Nat→Value}:∀ (ps:List Addr) (k:Nat) (w:World),(∀ p∈ps,q≠p.block)→q≠R→Blk w q e n f→Blk (getW R t ps k w) q e n f
 | [],_,_,_,_,h=>h
 | p :: ps,k,w,hp,hR,h=>getW_blk R t ps (k+1) _ (fun p' hq=>hp p' (List.mem_cons_of_mem _ hq)) hR ((h.other (hp p (List.mem_cons_self ..)) _).other hR _)
end Go.Proofs.YtbcacebifpagpagGreat
namespace Go.Proofs.YtbcacebifpagpagGreat
open Go.RowKit Go.Shelf
set_option linter.unusedVariables false
def RdAt (R:Nat) (w:World) (t:List UInt8) (k:Nat):Prop:=Blk w R 85 2 (fun j=>(#[.string ⟨t.toArray⟩,.int .i64 (k:Int)]:Array Value).getD j default)
structure IntC (w:World) (p:Addr):Prop where
 cell:∃ z,w.cell? p=some (.int .i64 z)
 frozen:w.frozen? p=false
 lt:p.block<w.heap.size
theorem IntC.set {w:World} {p:Addr} (h:IntC w p) (q:Addr) (v:Int):IntC (w.setCell q (.int .i64 v)) p:=by
 refine ⟨?_,(World.frozen?_setCell ..).trans h.frozen,by simpa [World.setCell] using h.lt⟩
 by_cases e:p=q
 ·subst e
  obtain ⟨z,hz⟩:=h.cell
  exact ⟨v,World.cell?_setCell_same _ _ _ hz⟩
 ·obtain ⟨z,hz⟩:=h.cell
  exact ⟨z,(World.cell?_setCell_other _ _ _ _ (fun e'=>e e'.symm)).trans hz⟩
theorem IntC.getW {R:Nat} {t:List UInt8} {p:Addr}:∀ (ps:List Addr) (k:Nat) (w:World),IntC w p→IntC (getW R t ps k w) p
 | [],_,_,h=>h
 | q :: ps,k,w,h=>IntC.getW ps (k+1) _ ((h.set q _).set _ _)
theorem IntC.eqv {w w':World} {p:Addr} (h:IntC w p) (e:Eqv w w'):IntC w' p:=by
 obtain ⟨⟨z,hz⟩,hf,hl⟩:=h
 have hb:w'.heap[p.block]?=w.heap[p.block]?:=by rw [e.heap]
 exact ⟨⟨z,(World.cell?_of_block hb).trans hz⟩,(World.frozen?_of_block hb).trans hf,by rw [e.heap];exact hl⟩
theorem RdAt.set {R:Nat} {w:World} {t:List UInt8} {k:Nat} (h:RdAt R w t k) (m:Nat):RdAt R (w.setCell ⟨R,1,none⟩ (.int .i64 (m:Int))) t m :=
 (Blk.set h 1 _).congr (fun j hj=>by match j,hj with | 0,_=>rfl | 1,_=>rfl)
theorem RdAt.getW {R:Nat} {t:List UInt8}:∀ (ps:List Addr) (k:Nat) (w:World),(∀ p∈ps,R≠p.block)→RdAt R w t k→RdAt R (getW R t ps k w) t (k+ps.length)
 | [],_,_,_,h=>h
 | q :: ps,k,w,hp,h=>by
  have h1:RdAt R (w.setCell q (.int .i64 (rdN t k))) t k:=Blk.other h (hp q (List.mem_cons_self ..)) _
  have:=RdAt.getW ps (k+1) _ (fun p hq=>hp p (List.mem_cons_of_mem _ hq)) (h1.set (k+1))
  rw [List.length_cons,show k+(ps.length+1)=k+1+ps.length by omega]
  exact this
theorem index_rd (t:List UInt8) {k:Nat} (hk:k<t.length) (w:World):(Instr.index 9 (.string ⟨t.toArray⟩) (.int .i64 (k:Int))).run Tryz.prog w = .ok (.int .u8 (rdN t k)) w:=by
 have hs:(⟨t.toArray⟩:ByteArray).size=t.length:=by simp [ByteArray.size]
 rw [run_index_string w 9 _ .i64 (k:Int) Tryz.underlying9,dif_pos ⟨by omega,by rw [hs];omega⟩]
 congr 2
 unfold rdN
 simp only [List.getD,List.getElem?_eq_getElem hk,Option.getD_some]
 simp [ByteArray.getElem_eq_getElem_data]
set_option maxRecDepth 100000 in
set_option maxHeartbeats 4000000 in
theorem get_any (R g:Nat) (t:List UInt8) (k:Nat) (ps:List Addr) (w:World) (hR:RdAt R w t k) (hk:k≤t.length) (ht:t.length≤4096) (hgR:g≠R) (hl:ps.length≤100)
  (hg:Blk w g 119 ps.length (fun j => .pointer (some (ps.getD j default)))) (hp:∀ p∈ps,IntC w p∧R≠p.block∧g≠p.block) :
  Calls Tryz.prog 87 #[.pointer (some ⟨R,0,none⟩),.slice (some ⟨g,0,none⟩) ps.length ps.length] w fun e w' =>
   (e = .returned (.tuple #[])∧k+ps.length≤t.length∧Eqv (getW R t ps k w) w')∨(e = .panicked [{ v := .iface 32 (.int .i64 1),recovered:=false }]∧t.length<k+ps.length∧∃ i,Eqv (getW R t (ps.take i) k w) w'):=by
 have HR:Hid (RdAt R w t k):=hR
 have HG:Hid (Blk w g 119 ps.length (fun j => .pointer (some (ps.getD j default)))):=hg
 have HP:Hid (∀ p∈ps,IntC w p∧R≠p.block∧g≠p.block):=hp
 have HK:Hid (k≤t.length∧t.length≤4096∧ps.length≤100∧g≠R):=⟨hk,ht,hl,hgR⟩
 clear hR hg hp hk ht hgR
 go_enter Tryz.func87,Tryz.ntmps87
 go_wp2_with fail
 go_loopw [8] (fun kv wk=>∃ i:Nat,i≤ps.length∧kv = .int .i64 i∧Hid (k+i≤t.length)∧Hid (Eqv (getW R t (ps.take i) k w) wk)) (fun kv _=>ps.length - (intOf kv).toNat)
 case atStart=>exact ⟨0,Nat.zero_le _,rfl,HK.out.1,Eqv.refl w⟩
 case round =>
  obtain ⟨i,hi,rfl,HI,HE⟩:=hrel
  by_cases hlt:i<ps.length
  ·have q0:(0:Int)≤(i:Int):=by omega
   have q1:(i:Int)<(ps.length:Int):=by omega
   obtain ⟨P,hPe⟩:∃ P,ps.getD i default=P:=⟨_,rfl⟩
   have HT:Hid (ps.take (i+1)=ps.take i++[P]∧P∈ps∧(ps.take i).length=i):=by
    refine ⟨?_,?_,by simp;omega⟩
    ·rw [List.take_add_one,← hPe]
     simp [List.getD,List.getElem?_eq_getElem hlt]
    ·rw [← hPe]
     simp [List.getD,List.getElem?_eq_getElem hlt]
   have hsub:∀ p∈ps.take i,p∈ps:=fun p hp=>List.mem_of_mem_take hp
   have HRr:Hid (RdAt R wr t (k+i)):=by
    have:=RdAt.getW (R:=R) (t:=t) (ps.take i) k w (fun p hp=>(HP.out p (hsub p hp)).2.1) HR.out
    rw [HT.out.2.2] at this
    exact HE.out.blk this
   have HPr:Hid (IntC wr P):=(IntC.getW (ps.take i) k w (HP.out P HT.out.2.1).1).eqv HE.out
   have hgr:=HE.out.blk (getW_blk R t (ps.take i) k w (fun p hp=>(HP.out p (hsub p hp)).2.2) HK.out.2.2.2 HG.out)
   have z0:wr.cell? ⟨g,i,none⟩=some (.pointer (some P)):=by rw [← hPe];exact hgr.cell hlt
   have z1:=hgr.lt
   obtain ⟨⟨pz,pc⟩,pf,pl⟩:=HPr.out
   have r0:wr.cell? ⟨R,0,none⟩=some (.string ⟨t.toArray⟩):=HRr.out.cell (j:=0) (by decide)
   have r1:wr.cell? ⟨R,1,none⟩=some (.int .i64 ((k+i:Nat):Int)):=HRr.out.cell (j:=1) (by decide)
   have rf:=Blk.frozen HRr.out 1
   have rl:=Blk.lt HRr.out
   clear hgr
   have tl:((⟨t.toArray⟩:ByteArray).size)=t.length:=by simp [ByteArray.size]
   have HNX:Hid (∀ wk,Eqv ((wr.setCell P (.int .i64 (rdN t (k+i)))).setCell ⟨R,1,none⟩ (.int .i64 (((k+i+1:Nat):Int)))) wk→Eqv (getW R t (ps.take (i+1)) k w) wk):=fun wk h=>by
    rw [HT.out.1,getW_more,HT.out.2.2]
    exact ((HE.out.set P _).set ⟨R,1,none⟩ _).trans h
   generalize hKe:k+i=K at *
   by_cases hend:K=t.length
   ·have HEND:Hid (K=t.length):=hend
    have e1:((K:Int)==(t.length:Int))=true:=by rw [hend];simp
    clear hend pc pf pl
    go_wp2_with fail
    go_quiet (fail)
    go_wp2_with fail
    exact ⟨rfl,Or.inr ⟨rfl,by have:=HEND.out;omega,i,HE.out.trans (Eqv.drewN wr nq)⟩⟩
   ·have HEND:Hid (K<t.length):=by have:=HI.out;show _<_;omega
    have e1:((K:Int)==(t.length:Int))=false:=by simp;omega
    have hix:=index_rd t HEND.out
    clear hend
    have zb:=rdN_bd t K
    generalize rdN t K=Z at *
    have hwz:wrap64 Z=Z:=by unfold wrap64;omega
    go_wp2_with fail
    go_quiet (fail)
    go_wp2_with fail
    go_region
    have K4:=HEND.out
    have K5:=HK.out.2.1
    have HE6:Hid (Eqv (wr.setCell P (.int .i64 Z)) ((wr.drewN (nq+1)).setCell P (.int .i64 Z))):=(Eqv.drewN wr (nq+1)).set P _
    generalize (wr.drewN (nq+1)).setCell P (.int .i64 Z)=W6 at *
    have HR6:Hid (RdAt R W6 t K):=HE6.out.blk (Blk.other HRr.out (HP.out P HT.out.2.1).2.1 _)
    have y0:W6.cell? ⟨R,1,none⟩=some (.int .i64 (K:Int)):=HR6.out.cell (j:=1) (by decide)
    have y1:=Blk.frozen HR6.out 1
    have y2:=Blk.lt HR6.out
    clear hix hwz r0 r1 rf rl pc pf pl z0 z1 e1
    go_wp2_with fail
    go_roundw
    case rel=>exact ⟨i+1,by omega,by go_num,(by show k+(i+1)≤t.length;omega),HNX.out _ (by rw [show (((K+1:Nat):Int))=(K:Int)+1 by omega];exact HE6.out.set _ _)⟩
    case measure=>simp [intOf];omega
  ·have hie:i=ps.length:=by omega
   subst hie
   have HEF:Hid (Eqv (getW R t ps k w) wr):=by
    have h:=HE.out
    rw [List.take_length] at h
    exact h
   clear HE
   go_wp2_with fail
   go_end0
   exact Or.inl ⟨rfl,HI.out,HEF⟩
def WrAt (L A:Nat) (w:World) (o:Bool) (xs:List Value):Prop:=∃ a c,Blk w A 79 2 (fun j=>(#[.slice a xs.length c,.bool o]:Array Value).getD j default)∧w.ownsRow L 5 1 (.slice a xs.length c) xs.length xs
def byteV (z:Int):Value := .int .u8 (z%256)
theorem infoByte:(Tryz.prog.info? 5).map (fun i=>(i.zero,i.size,i.bytes))=some (some (.int .u8 0),1,1):=by kernel_rfl
theorem owns_other {A:Nat} {w:World} {e t:TypeId} {size:Nat} {v:Value} {n:Nat} {xs:List Value} (h:w.ownsRow A e size v n xs) {q m:Nat} {f:Nat→Value} (hq:Blk w q t m f) (hne:e≠t) (j:Nat) (u:Value):(w.setCell ⟨q,j,none⟩ u).ownsRow A e size v n xs:=by
 refine ⟨h.1,h.2.imp_right fun ⟨g,cap,cur,h1,h2,h3,h4⟩=>⟨g,cap,cur,h1,h2,?_,h4⟩⟩
 rw [Below.heap_setCell w ⟨q,j,none⟩ u g (fun e'=>by
  obtain ⟨c2,hc2,_⟩:=hq
  have e'':g=q:=e'
  subst e''
  rw [hc2] at h3
  cases h3
  exact hne rfl)]
 exact h3
theorem owns_val {A:Nat} {w:World} {e:TypeId} {size:Nat} {v:Value} {n:Nat} {xs:List Value} (h:w.ownsRow A e size v n xs):∃ a c,v = .slice a n c∧n≤maxLen:=by
 obtain ⟨h0,⟨rfl,rfl⟩ | ⟨g,cap,cur,rfl,h1,h2,h3,h4,_⟩⟩:=h
 ·exact ⟨none,0,rfl,Nat.zero_le _⟩
 ·exact ⟨_,_,rfl,by omega⟩
theorem Grew.bel {A L:Nat} {e:TypeId} {w w':World} (h:Grew A e w w') (hL:L≤A) (hs:L≤w.heap.size):Below L w w':=h.below (Below.refl _ _) hL hs
theorem grew_own {A:Nat} {e:TypeId} {size:Nat} {w w':World} {v:Value} {n:Nat} {xs:List Value} (h:w.ownsRow A e size v n xs) (hg:w.grownBy w' v.ownBlock):Grew A e w w':=by
 refine ⟨_,hg,fun k hk => ?_⟩
 obtain ⟨_,⟨rfl,_⟩ | ⟨g,cap,cur,rfl,hb,h3,_⟩⟩:=h
 ·cases hk
 ·simp only [Value.ownBlock,Option.some.injEq] at hk
  subst hk
  exact ⟨hb,cur,h3⟩
theorem WrAt.mk' {L A:Nat} {w:World} {o:Bool} {ys:List Value} {v:Value} (hA:Blk w A 79 2 (fun j=>(#[v,.bool o]:Array Value).getD j default)) (ho:w.ownsRow L 5 1 v ys.length ys):WrAt L A w o ys:=by
 obtain ⟨a,c,rfl,_⟩:=owns_val ho
 exact ⟨a,c,hA,ho⟩
theorem WrAt.store {L A:Nat} {w:World} {b:Bool} {ys:List Value} {v u:Value} (hA:Blk w A 79 2 (fun j=>(#[u,.bool b]:Array Value).getD j default)) (ho:w.ownsRow L 5 1 v ys.length ys):WrAt L A (w.setCell ⟨A,0,none⟩ v) b ys :=
 WrAt.mk' ((hA.set 0 v).congr (fun j hj=>by match j,hj with | 0,_=>rfl | 1,_=>rfl)) (owns_other ho hA (by decide) 0 v)
set_option maxRecDepth 100000 in
set_option maxHeartbeats 4000000 in
theorem put_any (L A:Nat) (o:Bool) (xs:List Value) (g:Nat) (zs:List Int) (w:World) (hL:L≤A) (hw:WrAt L A w o xs) (hz:Blk w g 3 zs.length (fun j => .int .i64 (zs.getD j 0))) (hm:xs.length+zs.length≤70368744177664) :
  Calls Tryz.prog 31 #[.pointer (some ⟨A,0,none⟩),.slice (some ⟨g,0,none⟩) zs.length zs.length] w fun e w'=>e = .returned (.tuple #[])∧WrAt L A w' (o||zs.any noByte) (xs++zs.map byteV)∧Below L w w':=by
 have HM:Hid (xs.length+zs.length≤70368744177664):=hm
 have HLA:Hid (L≤A):=hL
 have HW0:Hid (WrAt L A w o xs):=hw
 have HZ0:Hid (Blk w g 3 zs.length (fun j => .int .i64 (zs.getD j 0))):=hz
 obtain ⟨iB,hB1,hB2,hB3,hB4⟩:=info_parts infoByte
 have zl:zs.length≤70368744177664:=by omega
 clear hm hL hw hz
 go_enter Tryz.func31,Tryz.ntmps31
 go_wp2_with fail
 go_loopw [8] (fun kv wk=>∃ k:Nat,k≤zs.length∧kv = .int .i64 k∧Hid (WrAt L A wk (o||(zs.take k).any noByte) (xs++(zs.take k).map byteV))∧Hid (Blk wk g 3 zs.length (fun j => .int .i64 (zs.getD j 0)))∧Hid (Below L w wk)) (fun kv _=>zs.length - (intOf kv).toNat)
 case atStart=>exact ⟨0,Nat.zero_le _,rfl,(by show WrAt L A w (o||(zs.take 0).any noByte) (xs++(zs.take 0).map byteV);simpa using HW0.out),HZ0,Below.refl _ _⟩
 case round =>
  obtain ⟨k,hk,rfl,HWR,HZ,HB⟩:=hrel
  clear HW0 HZ0
  by_cases hlt:k<zs.length
  ·have q0:(0:Int)≤(k:Int):=by omega
   have q1:(k:Int)<(zs.length:Int):=by omega
   obtain ⟨a,c,hA,hO⟩:=HWR.out
   obtain ⟨Z,hZe⟩:∃ Z,zs.getD k 0=Z:=⟨_,rfl⟩
   have z0:wr.cell? ⟨g,k,none⟩=some (.int .i64 Z):=by rw [← hZe];exact HZ.out.cell hlt
   have z1:=HZ.out.lt
   have HT:Hid (zs.take (k+1)=zs.take k++[Z]):=by
    show _=_
    rw [List.take_add_one,← hZe]
    simp [List.getD,List.getElem?_eq_getElem hlt]
   generalize hys:xs++(zs.take k).map byteV=ys at *
   have hyl:ys.length=xs.length+k:=by rw [← hys];simp;omega
   generalize hoo:(o||(zs.take k).any noByte)=oo at *
   have HN:Hid ((o||(zs.take (k+1)).any noByte)=(oo||noByte Z)∧xs++(zs.take (k+1)).map byteV=ys++[byteV Z]):=by
    refine ⟨?_,?_⟩
    ·rw [HT.out,List.any_append,← hoo];simp [Bool.or_assoc]
    ·rw [HT.out,List.map_append,← hys];simp
   have c0:wr.cell? ⟨A,0,none⟩=some (.slice a ys.length c):=hA.cell (j:=0) (by decide)
   have c1:wr.cell? ⟨A,1,none⟩=some (.bool oo):=hA.cell (j:=1) (by decide)
   have f0:=hA.frozen 0
   have f1:=hA.frozen 1
   have al:=hA.lt
   cases oo
   ·go_wp2_with fail
    refine (Within_any Z 0 255 wr).mono ?_
    rintro e w1 ⟨rfl,hw1⟩
    rw [hw1]
    clear hw1
    obtain ⟨W4,hW4,hsz,A4,O4,Z4,B4⟩:∃ W,wr.setCell ⟨A,1,none⟩ (.bool (!inB Z 0 255))=W∧W.heap.size=wr.heap.size∧Blk W A 79 2 (fun j=>(#[.slice a ys.length c,.bool (!inB Z 0 255)]:Array Value).getD j default)∧W.ownsRow L 5 1 (.slice a ys.length c) ys.length ys∧Blk W g 3 zs.length (fun j => .int .i64 (zs.getD j 0))∧Below L w W :=
     ⟨_,rfl,by simp [World.setCell],(hA.set 1 _).congr (fun j hj=>by match j,hj with | 0,_=>rfl | 1,_=>rfl),owns_other hO hA (by decide) 1 _,HZ.out.other (a:=⟨A,1,none⟩) (Blk.ne2 HZ.out hA (by decide)) _,HB.out.setCell (p:=⟨A,1,none⟩) HLA.out _⟩
    obtain ⟨W5,hW5,B5⟩:∃ W,W4.alloc (.cells #[.int .u8 (Z%256)] 5)=W∧Below W4.heap.size W4 W:=⟨_,rfl,(Below.refl _ _).alloc (Nat.le_refl _) _⟩
    have HS4:Hid (L≤W4.heap.size):=Nat.le_trans HLA.out (Nat.le_of_lt A4.lt)
    have HNW:Hid (∀ j u,([byteV Z]:List Value)[j]?=some u→W5.cell? ((⟨wr.heap.size,0,none⟩:Addr).add j)=some u):=by
     intro j u hj
     have hl:j<1:=(List.getElem?_eq_some_iff.1 hj).1
     have h0:j=0:=by omega
     subst h0
     rw [← hW5,← hsz]
     simp [Addr.add,byteV] at hj ⊢
     exact hj
    have HO5:Hid (W5.ownsRow L 5 1 (.slice a ys.length c) ys.length ys):=owns_below O4 B5
    have HA5:Hid (Blk W5 A 79 2 (fun j=>(#[.slice a ys.length c,.bool (!inB Z 0 255)]:Array Value).getD j default)∧Blk W5 g 3 zs.length (fun j => .int .i64 (zs.getD j 0))∧Below L w W5):=⟨A4.below B5,Z4.below B5,B4.trans (B5.mono HS4.out)⟩
    have HS5:Hid (L≤W5.heap.size):=Nat.le_trans HS4.out B5.size
    have HW5:Hid ((wr.setCell ⟨A,1,none⟩ (.bool (!inB Z 0 255))).alloc (.cells #[.int .u8 (Z%256)] 5)=W5):=by rw [hW4];exact hW5
    have HYL:Hid (ys.length+1≤70368744177664):=by have:=HM.out;show _≤_;omega
    clear hW4 hW5 A4 O4 Z4 B4 B5 hA hO hys hoo hyl hsz
    go_wp2_with (at_builtin;rw [HW5.out];refine wpList_append_own W5 rfl (.tmp 28) (.tmp 31) 77 rfl L 5 iB (.int .u8 0) 1 1 Tryz.underlying77 hB1 hB2 hB3 hB4 rfl (by decide) (.slice a ys.length c) ys.length ys rfl HO5.out ⟨wr.heap.size,0,none⟩ 1 1 [byteV Z] rfl rfl HNW.out (fun u hu=>by simp [byteV] at hu;subst hu;rfl) (by have:=HYL.out;unfold maxLen;omega) (by have:=HYL.out;omega) HS5.out ?_)
    intro v2 w6 r1 r2 _
    obtain ⟨a2,c2,rfl,-⟩:=owns_val r1
    have hg:=grew_own HO5.out r2
    have A6:=hg.blk HA5.out.1 (by decide)
    have Z6:=hg.blk HA5.out.2.1 (by decide)
    have B6:=hg.below HA5.out.2.2 (Nat.le_refl _) HS5.out
    have HF:Hid (WrAt L A (w6.setCell ⟨A,0,none⟩ (.slice a2 (ys.length+1) c2)) (!inB Z 0 255) (ys++[byteV Z])):=WrAt.store A6 (by rw [show (ys++[byteV Z]).length=ys.length+1 by simp];exact r1)
    have HZ7:Hid (Blk (w6.setCell ⟨A,0,none⟩ (.slice a2 (ys.length+1) c2)) g 3 zs.length (fun j => .int .i64 (zs.getD j 0))):=Z6.other (a:=⟨A,0,none⟩) (Blk.ne2 Z6 A6 (by decide)) _
    have HB7:Hid (Below L w (w6.setCell ⟨A,0,none⟩ (.slice a2 (ys.length+1) c2))):=B6.setCell (p:=⟨A,0,none⟩) HLA.out _
    have x0:w6.cell? ⟨A,0,none⟩=some (.slice a ys.length c):=A6.cell (j:=0) (by decide)
    have x1:=A6.frozen 0
    have x2:=A6.lt
    clear r1 r2 hg A6 Z6 B6 HA5 HO5 HNW HW5 c0 c1 f0 f1 al z0 z1
    try simp only [Act.put,List.setIfInBounds_toArray,List.set_cons_succ,List.set_cons_zero]
    go_wp2_with fail
    go_roundw
    case rel=>exact ⟨k+1,by omega,by go_num,(by rw [HN.out.1,HN.out.2];exact HF),HZ7,HB7⟩
    case measure=>simp [intOf];omega
   ·obtain ⟨W4,hW4,hsz,A4,O4,Z4,B4⟩:∃ W,wr.setCell ⟨A,1,none⟩ (.bool (true))=W∧W.heap.size=wr.heap.size∧Blk W A 79 2 (fun j=>(#[.slice a ys.length c,.bool (true)]:Array Value).getD j default)∧W.ownsRow L 5 1 (.slice a ys.length c) ys.length ys∧Blk W g 3 zs.length (fun j => .int .i64 (zs.getD j 0))∧Below L w W :=
     ⟨_,rfl,by simp [World.setCell],(hA.set 1 _).congr (fun j hj=>by match j,hj with | 0,_=>rfl | 1,_=>rfl),owns_other hO hA (by decide) 1 _,HZ.out.other (a:=⟨A,1,none⟩) (Blk.ne2 HZ.out hA (by decide)) _,HB.out.setCell (p:=⟨A,1,none⟩) HLA.out _⟩
    obtain ⟨W5,hW5,B5⟩:∃ W,W4.alloc (.cells #[.int .u8 (Z%256)] 5)=W∧Below W4.heap.size W4 W:=⟨_,rfl,(Below.refl _ _).alloc (Nat.le_refl _) _⟩
    have HS4:Hid (L≤W4.heap.size):=Nat.le_trans HLA.out (Nat.le_of_lt A4.lt)
    have HNW:Hid (∀ j u,([byteV Z]:List Value)[j]?=some u→W5.cell? ((⟨wr.heap.size,0,none⟩:Addr).add j)=some u):=by
     intro j u hj
     have hl:j<1:=(List.getElem?_eq_some_iff.1 hj).1
     have h0:j=0:=by omega
     subst h0
     rw [← hW5,← hsz]
     simp [Addr.add,byteV] at hj ⊢
     exact hj
    have HO5:Hid (W5.ownsRow L 5 1 (.slice a ys.length c) ys.length ys):=owns_below O4 B5
    have HA5:Hid (Blk W5 A 79 2 (fun j=>(#[.slice a ys.length c,.bool (true)]:Array Value).getD j default)∧Blk W5 g 3 zs.length (fun j => .int .i64 (zs.getD j 0))∧Below L w W5):=⟨A4.below B5,Z4.below B5,B4.trans (B5.mono HS4.out)⟩
    have HS5:Hid (L≤W5.heap.size):=Nat.le_trans HS4.out B5.size
    have HW5:Hid ((wr.setCell ⟨A,1,none⟩ (.bool (true))).alloc (.cells #[.int .u8 (Z%256)] 5)=W5):=by rw [hW4];exact hW5
    have HYL:Hid (ys.length+1≤70368744177664):=by have:=HM.out;show _≤_;omega
    clear hW4 hW5 A4 O4 Z4 B4 B5 hA hO hys hoo hyl hsz
    go_wp2_with (at_builtin;rw [HW5.out];refine wpList_append_own W5 rfl (.tmp 28) (.tmp 31) 77 rfl L 5 iB (.int .u8 0) 1 1 Tryz.underlying77 hB1 hB2 hB3 hB4 rfl (by decide) (.slice a ys.length c) ys.length ys rfl HO5.out ⟨wr.heap.size,0,none⟩ 1 1 [byteV Z] rfl rfl HNW.out (fun u hu=>by simp [byteV] at hu;subst hu;rfl) (by have:=HYL.out;unfold maxLen;omega) (by have:=HYL.out;omega) HS5.out ?_)
    intro v2 w6 r1 r2 _
    obtain ⟨a2,c2,rfl,-⟩:=owns_val r1
    have hg:=grew_own HO5.out r2
    have A6:=hg.blk HA5.out.1 (by decide)
    have Z6:=hg.blk HA5.out.2.1 (by decide)
    have B6:=hg.below HA5.out.2.2 (Nat.le_refl _) HS5.out
    have HF:Hid (WrAt L A (w6.setCell ⟨A,0,none⟩ (.slice a2 (ys.length+1) c2)) (true) (ys++[byteV Z])):=WrAt.store A6 (by rw [show (ys++[byteV Z]).length=ys.length+1 by simp];exact r1)
    have HZ7:Hid (Blk (w6.setCell ⟨A,0,none⟩ (.slice a2 (ys.length+1) c2)) g 3 zs.length (fun j => .int .i64 (zs.getD j 0))):=Z6.other (a:=⟨A,0,none⟩) (Blk.ne2 Z6 A6 (by decide)) _
    have HB7:Hid (Below L w (w6.setCell ⟨A,0,none⟩ (.slice a2 (ys.length+1) c2))):=B6.setCell (p:=⟨A,0,none⟩) HLA.out _
    have x0:w6.cell? ⟨A,0,none⟩=some (.slice a ys.length c):=A6.cell (j:=0) (by decide)
    have x1:=A6.frozen 0
    have x2:=A6.lt
    clear r1 r2 hg A6 Z6 B6 HA5 HO5 HNW HW5 c0 c1 f0 f1 al z0 z1
    try simp only [Act.put,List.setIfInBounds_toArray,List.set_cons_succ,List.set_cons_zero]
    go_wp2_with fail
    go_roundw
    case rel=>exact ⟨k+1,by omega,by go_num,(by rw [HN.out.1,HN.out.2];exact HF),HZ7,HB7⟩
    case measure=>simp [intOf];omega
  ·have q1:(zs.length:Int)≤(k:Int):=by omega
   have hke:k=zs.length:=by omega
   subst hke
   have HWF:Hid (WrAt L A wr (o||zs.any noByte) (xs++zs.map byteV)):=by
    have h:=HWR.out
    rw [List.take_length] at h
    exact h
   clear HWR HZ
   go_wp2_with fail
   go_end0
   exact ⟨rfl,HWF,HB⟩
end Go.Proofs.YtbcacebifpagpagGreat
namespace Go.Proofs.YtbcacebifpagpagGreat
open Go.RowKit
set_option linter.unusedVariables false
theorem pos_exists {z:Nat→Hd} {h:Hd} (hf:fineH h=true):∀ n,anyB n (badH z)=false→∃ i,PosH n z h i
 | 0,_=>⟨0,Nat.le_refl _,fun q hq=>absurd hq (Nat.not_lt_zero _),fun q _ hq=>absurd hq (Nat.not_lt_zero _)⟩
 | n+1,hr=>by
  obtain ⟨i,hp⟩:=pos_exists hf n (right_pred hr)
  have hle:=hp.le
  by_cases hi:i=n
  ·by_cases hc:cmpH (z n) h<0
   ·exact ⟨n+1,Nat.le_refl _,fun q hq=>by
     by_cases hqn:q=n
     ·subst hqn;exact hc
     ·exact hp.lo q (by omega),fun q h1 h2=>by omega⟩
   ·refine ⟨n,by omega,fun q hq=>hp.lo q (by omega),fun q h1 h2 => ?_⟩
    have:q=n:=by omega
    subst this;omega
  ·refine ⟨i,by omega,hp.lo,fun q h1 h2 => ?_⟩
   by_cases hqn:q=n
   ·subst hqn
    have a:=hp.hi i (Nat.le_refl _) (by omega)
    have k1:=(cmp_key (right_fine hr i (by omega)) hf).1
    have k2:=(cmp_key (right_fine hr q (by omega)) hf).1
    have k3:=right_lt hr i q (by omega) (by omega)
    omega
   ·exact hp.hi q h1 (by omega)
theorem pos_key {n:Nat} {z:Nat→Hd} {h:Hd} (hr:anyB n (badH z)=false) (hf:fineH h=true) :
  addPos n z h≤n∧(∀ j,j<addPos n z h→keyH (z j)<keyH h)∧(∀ j,addPos n z h≤j→j<n→keyH h≤keyH (z j)):=by
 obtain ⟨i,hp⟩:=pos_exists hf n hr
 rw [addPos_eq hp]
 have hle:=hp.le
 refine ⟨hp.le,fun j hj => ?_,fun j hj hjn => ?_⟩
 ·have:=hp.lo j hj
  have:=(cmp_key (right_fine hr j (by omega)) hf).1
  omega
 ·have:=hp.hi j hj hjn
  have:=(cmp_key (right_fine hr j hjn) hf).1
  omega
theorem key_match {x y:Hd} (hx:fineH x=true) (hy:fineH y=true) (h:keyH x=keyH y):matchH x y.o y.l y.b=true:=by
 have a:=fineH_true hx
 have b:=fineH_true hy
 unfold keyH at h
 have h1:x.o=y.o:=by omega
 have h2:x.l=y.l:=by omega
 have h3:x.b=y.b:=by omega
 simp [matchH,h1,h2,h3]
theorem right_mk {n:Nat} {z:Nat→Hd} (hf:∀ i,i<n→fineH (z i)=true) (hs:∀ i,i+1<n→keyH (z i)<keyH (z (i+1))):anyB n (badH z)=false:=by
 rw [← bad_eq]
 refine anyB_no fun j hj => ?_
 unfold badK
 rw [hf j hj]
 by_cases h0:0<j
 ·have:=hs (j - 1) (by omega)
  rw [show j - 1+1=j by omega] at this
  simp only [Bool.not_true,Bool.false_or,Bool.and_eq_false_imp,decide_eq_true_eq,decide_eq_false_iff_not]
  intro _
  omega
 ·simp [h0]
theorem kept_at {n k:Nat} {z:Nat→Hd} {o l b:Int} (hr:anyB n (badH z)=false) (hk:k<n) (hm:matchH (z k) o l b=true):keptV n z o l b=(z k).n∧dropI n z o l b=k:=by
 have lo:∀ j,j<k→matchH (z j) o l b=false:=fun j hj=>by
  cases hq:matchH (z j) o l b
  ·rfl
  ·have:=matchH_key hq hm
   have:=right_lt hr j k hj hk
   omega
 exact ⟨keptV_some hk lo hm,dropI_some hk lo hm⟩
theorem kept_no {n:Nat} {z:Nat→Hd} {o l b:Int} (hr:anyB n (badH z)=false) (h0:keptV n z o l b=0):∀ j,j<n→matchH (z j) o l b=false:=by
 rcases keptV_cases n z o l b with h | ⟨k,hkn,h1,h2⟩
 ·exact h
 ·rw [keptV_some hkn h1 h2] at h0
  have:=(fineH_true (right_fine hr k hkn)).2.2.2
  omega
theorem insZ_lt {z:Nat→Hd} {i j:Nat} {h:Hd} (hj:j<i):insZ z i h j=z j:=by unfold insZ;rw [if_pos hj]
theorem insZ_eq {z:Nat→Hd} {i:Nat} {h:Hd}:insZ z i h i=h:=by unfold insZ;rw [if_neg (by omega),if_pos rfl]
theorem insZ_gt {z:Nat→Hd} {i j:Nat} {h:Hd} (hj:i<j):insZ z i h j=z (j - 1):=by unfold insZ;rw [if_neg (by omega),if_neg (by omega)]
theorem setZ_eq {z:Nat→Hd} {i:Nat} {h:Hd}:setZ z i h i=h:=if_pos rfl
theorem setZ_ne {z:Nat→Hd} {i j:Nat} {h:Hd} (hj:¬ j=i):setZ z i h j=z j:=if_neg hj
theorem match_same {x y:Hd} {o l b:Int} (h1:matchH x y.o y.l y.b=true):matchH x o l b=matchH y o l b:=by
 have a:=matchH_true h1
 unfold matchH
 rw [a.1,a.2.1,a.2.2]
theorem add_ins {n:Nat} {z:Nat→Hd} {h:Hd} (hr:anyB n (badH z)=false) (hf:fineH h=true) (h0:keptV n z h.o h.l h.b=0) :
  anyB (n+1) (badH (insZ z (addPos n z h) h))=false∧(∀ o l b,keptV (n+1) (insZ z (addPos n z h) h) o l b=keptV n z o l b+if matchH h o l b then h.n else 0) ∧
   dropI (n+1) (insZ z (addPos n z h) h) h.o h.l h.b=addPos n z h:=by
 obtain ⟨p1,p2,p3⟩:=pos_key hr hf
 have no:=kept_no hr h0
 generalize addPos n z h=p at p1 p2 p3 ⊢
 have hs:∀ j,p≤j→j<n→keyH h<keyH (z j):=fun j hj hjn=>by
  have a:=p3 j hj hjn
  have b:¬ keyH (z j)=keyH h:=fun e=>by
   have:=key_match (right_fine hr j hjn) hf e
   rw [no j hjn] at this
   cases this
  omega
 have hR:anyB (n+1) (badH (insZ z p h))=false:=by
  refine right_mk (fun i hi => ?_) (fun i hi => ?_)
  ·rcases Nat.lt_trichotomy i p with hip | hip | hip
   ·rw [insZ_lt hip];exact right_fine hr i (by omega)
   ·subst hip;rw [insZ_eq];exact hf
   ·rw [insZ_gt hip];exact right_fine hr (i - 1) (by omega)
  ·rcases Nat.lt_trichotomy i p with hip | hip | hip
   ·rw [insZ_lt hip]
    by_cases hq:i+1=p
    ·subst hq;rw [insZ_eq];exact p2 i (by omega)
    ·rw [insZ_lt (by omega)];exact right_step hr i (by omega)
   ·subst hip
    rw [insZ_eq,insZ_gt (by omega)]
    exact hs _ (by omega) (by omega)
   ·rw [insZ_gt hip,insZ_gt (by omega)]
    have:=right_step hr (i - 1) (by omega)
    rw [show i - 1+1=i+1 - 1 by omega] at this
    exact this
 have hat:=kept_at (o:=h.o) (l:=h.l) (b:=h.b) hR (show p<n+1 by omega) (by rw [insZ_eq];simp [matchH])
 refine ⟨hR,fun o l b => ?_,hat.2⟩
 cases hm:matchH h o l b
 ·simp only [Bool.false_eq_true,if_false,Int.add_zero]
  rcases keptV_cases n z o l b with hn | ⟨k,hk,h1,h2⟩
  ·rw [keptV_none hn]
   refine keptV_none fun j hj => ?_
   rcases Nat.lt_trichotomy j p with hip | hip | hip
   ·rw [insZ_lt hip];exact hn j (by omega)
   ·subst hip;rw [insZ_eq];exact hm
   ·rw [insZ_gt hip];exact hn (j - 1) (by omega)
  ·rw [keptV_some hk h1 h2]
   by_cases hkp:k<p
   ·have:=(kept_at (o:=o) (l:=l) (b:=b) hR (show k<n+1 by omega) (by rw [insZ_lt hkp];exact h2)).1
    rw [this,insZ_lt hkp]
   ·have e:insZ z p h (k+1)=z k:=by rw [insZ_gt (by omega),Nat.add_sub_cancel]
    have:=(kept_at (o:=o) (l:=l) (b:=b) hR (show k+1<n+1 by omega) (by rw [e];exact h2)).1
    rw [this,e]
 ·have a:=matchH_true hm
  rw [← a.1,← a.2.1,← a.2.2,h0,hat.1,insZ_eq]
  simp
theorem add_set {n:Nat} {z:Nat→Hd} {h:Hd} (hr:anyB n (badH z)=false) (hf:fineH h=true) (h0:¬ keptV n z h.o h.l h.b=0) (h2:keptV n z h.o h.l h.b+h.n≤200) :
  anyB n (badH (setZ z (addPos n z h) ⟨h.o,h.l,h.b,keptV n z h.o h.l h.b+h.n⟩))=false∧(∀ o l b,keptV n (setZ z (addPos n z h) ⟨h.o,h.l,h.b,keptV n z h.o h.l h.b+h.n⟩) o l b=keptV n z o l b+if matchH h o l b then h.n else 0) ∧
   dropI n (setZ z (addPos n z h) ⟨h.o,h.l,h.b,keptV n z h.o h.l h.b+h.n⟩) h.o h.l h.b=addPos n z h∧addPos n z h<n∧matchH (z (addPos n z h)) h.o h.l h.b=true∧dropI n z h.o h.l h.b=addPos n z h:=by
 obtain ⟨p1,p2,p3⟩:=pos_key hr hf
 obtain ⟨q1,q2,q3,q4,q5⟩:=kept_pos hr h0
 have hkey:keyH (z (dropI n z h.o h.l h.b))=keyH h:=match_key (n:=h.n) q2
 have hp:dropI n z h.o h.l h.b=addPos n z h:=by
  rcases Nat.lt_trichotomy (dropI n z h.o h.l h.b) (addPos n z h) with c | c | c
  ·have:=p2 _ c;omega
  ·exact c
  ·have:=q4 _ c
   have:=p3 _ (Nat.le_refl _) (by omega)
   omega
 rw [hp] at q1 q2 q3 q4 q5 hkey ⊢
 generalize addPos n z h=p at p1 p2 p3 q1 q2 q3 q4 q5 hkey hp ⊢
 generalize hK:keptV n z h.o h.l h.b=K at h0 h2 q3 ⊢
 have hfz:=fineH_true (right_fine hr p q1)
 have hfh:=fineH_true hf
 have hkn:keyH ⟨h.o,h.l,h.b,K+h.n⟩=keyH (z p):=by rw [hkey];rfl
 have hR:anyB n (badH (setZ z p ⟨h.o,h.l,h.b,K+h.n⟩))=false:=by
  refine right_mk (fun i hi => ?_) (fun i hi => ?_)
  ·by_cases hip:i=p
   ·subst hip;rw [setZ_eq]
    simp only [fineH,Bool.and_eq_true]
    exact ⟨⟨⟨inB_mk (by omega),inB_mk (by omega)⟩,inB_mk (by omega)⟩,inB_mk (by show 1≤K+h.n∧K+h.n≤200;omega)⟩
   ·rw [setZ_ne hip];exact right_fine hr i hi
  ·have hst:=right_step hr i hi
   by_cases hip:i=p
   ·subst hip;rw [setZ_eq,setZ_ne (by omega),hkn];exact hst
   ·rw [setZ_ne hip]
    by_cases hiq:i+1=p
    ·rw [hiq,setZ_eq,hkn,← hiq];exact hst
    ·rw [setZ_ne hiq];exact hst
 have hat:=kept_at (o:=h.o) (l:=h.l) (b:=h.b) hR q1 (by rw [setZ_eq];simp [matchH])
 refine ⟨hR,fun o l b => ?_,hat.2,q1,q2,rfl⟩
 cases hm:matchH h o l b
 ·simp only [Bool.false_eq_true,if_false,Int.add_zero]
  have hzp:matchH (z p) o l b=false:=by rw [match_same q2];exact hm
  rcases keptV_cases n z o l b with hn | ⟨k,hk,h1,h3⟩
  ·rw [keptV_none hn]
   refine keptV_none fun j hj => ?_
   by_cases hip:j=p
   ·subst hip;rw [setZ_eq];exact hm
   ·rw [setZ_ne hip];exact hn j hj
  ·rw [keptV_some hk h1 h3]
   have hkp:¬ k=p:=fun e=>by subst e;rw [hzp] at h3;cases h3
   have:=(kept_at (o:=o) (l:=l) (b:=b) hR hk (by rw [setZ_ne hkp];exact h3)).1
   rw [this,setZ_ne hkp]
 ·have a:=matchH_true hm
  rw [← a.1,← a.2.1,← a.2.2,hK,hat.1,setZ_eq]
  simp
theorem ext_half {n m:Nat} {z y:Nat→Hd} (hr:anyB n (badH z)=false) (hq:anyB m (badH y)=false) (hk:∀ o l b,keptV n z o l b=keptV m y o l b) (j:Nat)
  (ih:∀ i,i<j→i<m→i<n∧z i=y i) (hj:j<n):j<m∧keyH (y j)≤keyH (z j):=by
 have a:=(kept_at hr hj (matchH_self (z j))).1
 have f:=(fineH_true (right_fine hr j hj)).2.2.2
 rw [hk] at a
 obtain ⟨q1,q2,q3,q4,q5⟩:=kept_pos (o:=(z j).o) (l:=(z j).l) (b:=(z j).b) hq (by omega)
 generalize dropI m y (z j).o (z j).l (z j).b=k at q1 q2 q3 q4 q5
 have hkey:keyH (y k)=keyH (z j):=match_key (n:=(z j).n) q2
 have hjk:j≤k:=by
  rcases Nat.lt_or_ge k j with c | c
  ·obtain ⟨_,e⟩:=ih k c q1
   have:=right_lt hr k j c hj
   rw [e] at this
   omega
  ·exact c
 refine ⟨by omega,?_⟩
 by_cases e:j=k
 ·rw [e] at hkey ⊢;omega
 ·have:=q4 j (by omega);omega
theorem ext_at {n m:Nat} {z y:Nat→Hd} (hr:anyB n (badH z)=false) (hq:anyB m (badH y)=false) (hk:∀ o l b,keptV n z o l b=keptV m y o l b) :
  ∀ k j,j<k→(j<n→j<m∧z j=y j)∧(j<m→j<n∧z j=y j):=by
 intro k
 induction k with
 | zero=>intro j hj;omega
 | succ k ih =>
  intro j hj
  by_cases hjk:j<k
  ·exact ih j hjk
  ·have e:j=k:=by omega
   subst e
   have both:j<n→j<m→z j=y j:=fun h1 h2=>by
    have a:=(ext_half hr hq hk j (fun i hi him=>(ih i hi).2 him) h1).2
    have b:=(ext_half hq hr (fun o l b=>(hk o l b).symm) j (fun i hi him=>⟨((ih i hi).1 him).1,((ih i hi).1 him).2.symm⟩) h2).2
    have hm:=key_match (right_fine hr j h1) (right_fine hq j h2) (by omega)
    have k1:=(kept_at hr h1 hm).1
    have k2:=(kept_at hq h2 (matchH_self (y j))).1
    rw [hk,k2] at k1
    have c:=matchH_true hm
    cases hz:z j
    cases hy:y j
    rw [hz,hy] at c k1
    simp only at c k1
    simp [c,k1]
   exact ⟨fun h=>⟨(ext_half hr hq hk j (fun i hi him=>(ih i hi).2 him) h).1,both h (ext_half hr hq hk j (fun i hi him=>(ih i hi).2 him) h).1⟩,
    fun h=>⟨(ext_half hq hr (fun o l b=>(hk o l b).symm) j (fun i hi him=>⟨((ih i hi).1 him).1,((ih i hi).1 him).2.symm⟩) h).1,both (ext_half hq hr (fun o l b=>(hk o l b).symm) j (fun i hi him=>⟨((ih i hi).1 him).1,((ih i hi).1 him).2.symm⟩) h).1 h⟩⟩
theorem right_ext {n m:Nat} {z y:Nat→Hd} (hr:anyB n (badH z)=false) (hq:anyB m (badH y)=false) (hk:∀ o l b,keptV n z o l b=keptV m y o l b):n=m∧∀ j,j<n→z j=y j:=by
 have h:=ext_at hr hq hk
 refine ⟨?_,fun j hj=>((h (j+1) j (by omega)).1 hj).2⟩
 rcases Nat.lt_trichotomy n m with c | c | c
 ·have:=((h (n+1) n (by omega)).2 c).1;omega
 ·exact c
 ·have:=((h (m+1) m (by omega)).1 c).1;omega
theorem add_both {n:Nat} {z:Nat→Hd} {h:Hd} (hr:anyB n (badH z)=false) (hf:fineH h=true) (h2:keptV n z h.o h.l h.b+h.n≤200) :
  anyB (addLen n z h) (badH (addZ n z h))=false∧∀ o l b,keptV (addLen n z h) (addZ n z h) o l b=keptV n z o l b+if matchH h o l b then h.n else 0:=by
 by_cases h0:keptV n z h.o h.l h.b=0
 ·have e1:addLen n z h=n+1:=if_pos h0
  have e2:addZ n z h=insZ z (addPos n z h) h:=if_pos h0
  rw [e1,e2]
  obtain ⟨a,b,_⟩:=add_ins hr hf h0
  exact ⟨a,b⟩
 ·have e1:addLen n z h=n:=if_neg h0
  have e2:addZ n z h=setZ z (addPos n z h) ⟨h.o,h.l,h.b,keptV n z h.o h.l h.b+h.n⟩:=if_neg h0
  rw [e1,e2]
  obtain ⟨a,b,_⟩:=add_set hr hf h0 h2
  exact ⟨a,b⟩
theorem addE_zero {n:Nat} {z:Nat→Hd} {h:Hd} (e:addE n z h=0):anyB n (badH z)=false∧fineH h=true∧keptV n z h.o h.l h.b+h.n≤200:=by
 unfold addE at e
 by_cases h0:checkH n z=0
 ·rw [if_pos h0] at e
  cases hf:fineH h
  ·rw [hf] at e;simp at e
  ·rw [hf] at e
   simp only [if_true] at e
   by_cases h2:200<keptV n z h.o h.l h.b+h.n
   ·rw [if_pos h2] at e;omega
   ·exact ⟨checkH_zero h0,rfl,by omega⟩
 ·rw [if_neg h0] at e;exact absurd e h0
theorem checkH_right {n:Nat} {z:Nat→Hd} (h:anyB n (badH z)=false):checkH n z=0:=by unfold checkH;rw [h];rfl
theorem addE_of {n:Nat} {z:Nat→Hd} {h:Hd} (hr:anyB n (badH z)=false) (hf:fineH h=true):addE n z h=if 200<keptV n z h.o h.l h.b+h.n then 3 else 0:=by
 unfold addE
 rw [checkH_right hr,hf]
 rfl
theorem badH_congr {z y:Nat→Hd} {n:Nat} (h:∀ j,j<n→z j=y j):anyB n (badH z)=anyB n (badH y):=by
 have e:∀ j,j<n→badH z j=badH y j:=fun j hj=>by
  unfold badH
  rw [h j hj]
  by_cases h0:0<j
  ·rw [h (j - 1) (by omega)]
  ·simp [h0]
 cases hq:anyB n (badH y)
 ·exact anyB_no fun j hj=>by rw [e j hj];exact anyB_false hq j hj
 ·cases hz:anyB n (badH z)
  ·have:anyB n (badH y)=false:=anyB_no fun j hj=>by rw [← e j hj];exact anyB_false hz j hj
   rw [this] at hq;cases hq
  ·rfl
theorem keptV_congr {z y:Nat→Hd} {n:Nat} (h:∀ j,j<n→z j=y j) (o l b:Int):keptV n z o l b=keptV n y o l b:=by
 rcases keptV_cases n y o l b with hn | ⟨k,hk,h1,h2⟩
 ·rw [keptV_none hn,keptV_none fun j hj=>by rw [h j hj];exact hn j hj]
 ·rw [keptV_some hk h1 h2,keptV_some hk (fun j hj=>by rw [h j (by omega)];exact h1 j hj) (by rw [h k hk];exact h2),h k hk]
theorem keptS_congr {z y:Nat→Hd} (o l:Int):∀ {n:Nat},(∀ j,j<n→z j=y j)→keptS z o l n=keptS y o l n
 | 0,_=>rfl
 | n+1,h=>by
  simp only [keptS]
  rw [keptS_congr o l (n:=n) fun j hj=>h j (by omega),h n (by omega)]
theorem AddOK.right {n:Nat} {z:Nat→Hd} {h:Hd} {x:Hs} (hx:AddOK n z h x) (e:addE n z h=0) :
  anyB x.n (badH x.z)=false∧∀ o l b,keptV x.n x.z o l b=keptV n z o l b+if matchH h o l b then h.n else 0:=by
 obtain ⟨a,b,c⟩:=addE_zero e
 obtain ⟨r,k⟩:=add_both a b c
 have hn:x.n=addLen n z h:=by have:=hx.1;rw [if_pos e] at this;exact this
 have hz:=hx.2
 rw [hn] at hz ⊢
 exact ⟨by rw [badH_congr hz];exact r,fun o l b=>by rw [keptV_congr hz];exact k o l b⟩
theorem AddOK.none {n:Nat} {z:Nat→Hd} {h:Hd} {x:Hs} (hx:AddOK n z h x) (e:¬ addE n z h=0):x.n=0:=by
 have:=hx.1;rw [if_neg e] at this;exact this
theorem stateE_of {p:Pl} {s:St} (r:RightT p s):stateE p s=0:=by
 have f:=r.fm
 have e1:tooManyB s=false:=by
  unfold tooManyB
  have h1:decide (4<s.os.n)=false:=decide_eq_false (by have:=f.os4;omega)
  have h2:decide (8<s.ms.n)=false:=decide_eq_false (by have:=f.ms8;omega)
  have h3:anyB s.os.n (fun i=>fewLines (s.os.z i))=false:=anyB_no fun i hi=>by
   unfold fewLines
   rw [inB_mk (by have:=f.lns i hi;omega)]
   rfl
  rw [h1,h2,h3]
  rfl
 have e2:badOrdersB p s=false:=anyB_no fun i hi=>by
  unfold badOrder
  rw [inB_mk (f.kind i hi),anyB_no fun j hj=>f.line i hi j hj]
  rfl
 have e3:badHoldsB p s=false:=by
  unfold badHoldsB
  rw [checkH_right f.hold,anyB_no f.home]
  rfl
 have e4:badMovesB p s=false:=anyB_no f.move
 have k:∀ {r:Rw} {low:Int},r.n=p.ns→(∀ j,j<p.ns→low≤r.z j∧r.z j≤1048576)→badSum p r low=false:=fun {r low} h1 h2=>by
  unfold badSum
  rw [Bool.or_eq_false_iff]
  refine ⟨by simp [h1],anyB_no fun j hj => ?_⟩
  rw [inB_mk (h2 j (by omega))]
  rfl
 have e5:badSumsB p s=false:=by
  unfold badSumsB
  rw [k f.sin f.sib,k f.son f.sob,k f.sfn f.sfb]
  rfl
 rw [stateE_sum f.sh0 e1 e2 e3 e4 e5,show wrongGoodsB p s=false from anyB_no r.goods,show wrongOrdersB s=false from anyB_no r.orders]
 rfl
theorem homeless_mk {p:Pl} {s:St} {h:Hd} (h1:0≤h.o∧h.o.toNat<s.os.n) (h2:0≤h.l∧h.l.toNat<(s.os.z h.o.toNat).ls.n) (h3:0≤h.b∧h.b<p.nb):homeless p s h=false:=by
 unfold homeless
 rw [inB_mk (by omega),inB_mk (by omega),inB_mk (by omega)]
 rfl
theorem heldTo_eq {x s:St} {b g:Int}:∀ {k:Nat},(∀ j,j<k→x.hs.z j=s.hs.z j)→(∀ j,j<k→goodH x (s.hs.z j)=goodH s (s.hs.z j))→heldTo x b g k=heldTo s b g k
 | 0,_,_=>rfl
 | k+1,h1,h2=>by
  simp only [heldTo]
  rw [heldTo_eq (k:=k) (fun j hj=>h1 j (by omega)) (fun j hj=>h2 j (by omega)),h1 k (by omega),h2 k (by omega)]
theorem fromTo_eq {x s:St} {b g:Int}:∀ {k:Nat},(∀ j,j<k→x.ms.z j=s.ms.z j)→fromTo x b g k=fromTo s b g k
 | 0,_=>rfl
 | k+1,h1=>by
  simp only [fromTo]
  rw [fromTo_eq (k:=k) (fun j hj=>h1 j (by omega)),h1 k (by omega)]
theorem takeTo_eq {p:Pl} {x s:St} {b:Int}:∀ {k:Nat},(∀ j,j<k→x.ms.z j=s.ms.z j)→takeTo p x b k=takeTo p s b k
 | 0,_=>rfl
 | k+1,h1=>by
  simp only [takeTo]
  rw [takeTo_eq (k:=k) (fun j hj=>h1 j (by omega)),h1 k (by omega)]
section
variable {p:Pl} {x t:St}
theorem SameT.held (h:SameT x t) (f:Formed p t) (b g:Int):heldTo x b g x.hs.n=heldTo t b g t.hs.n:=by
 rw [h.hs.1]
 refine heldTo_eq (fun j hj=>h.hs.2 j (by rw [h.hs.1];exact hj)) (fun j hj => ?_)
 obtain ⟨h1,h2,-⟩:=homeless_no (f.home j hj)
 unfold goodH
 have o:=h.os.2 (t.hs.z j).o.toNat (by rw [h.os.1];exact h1.2)
 rw [o.2.2 (t.hs.z j).l.toNat (by rw [o.2.1];exact h2.2)]
theorem SameT.from (h:SameT x t) (b g:Int):fromTo x b g x.ms.n=fromTo t b g t.ms.n:=by
 rw [h.ms.1]
 exact fromTo_eq fun j hj=>h.ms.2 j (by rw [h.ms.1];exact hj)
theorem SameT.num (h:SameT x t) (f:Formed p t) {b g:Nat} (hb:b<p.nb) (hg:g<p.ns):(x.on.r b).z g=(t.on.r b).z g:=by
 have hb':b<t.on.n:=by rw [f.sh.n];exact hb
 have r:=h.on.2 b (by rw [h.on.1];exact hb')
 exact r.2 g (by rw [r.1,f.sh.len b hb'];exact hg)
theorem SameT.avail (h:SameT x t) (f:Formed p t) {b g:Nat} (hb:b<p.nb) (hg:g<p.ns):availZ x b g=availZ t b g:=by
 unfold availZ
 rw [h.num f hb hg,h.held f,h.from]
theorem SameT.free (h:SameT x t) (f:Formed p t) {b:Nat} (hb:b<p.nb):freeZ p x b=freeZ p t b:=by
 unfold freeZ
 have e:usedTo (x.on.r b).z p.zs p.ns=usedTo (t.on.r b).z p.zs p.ns:=usedTo_congr fun j hj=>h.num f hb hj
 rw [e,h.ms.1,takeTo_eq fun j hj=>h.ms.2 j (by rw [h.ms.1];exact hj)]
theorem SameT.formed (h:SameT x t) (f:Formed p t):Formed p x:=by
 have hp:=(rightS f.sh0).1
 have hs:RightS p x.on:=⟨f.sh.pl,h.on.1.trans f.sh.n,fun i hi=>(h.on.2 i hi).1.trans (f.sh.len i (by rw [← h.on.1];exact hi)),fun i hi j hj=>by
  have hi':i<t.on.n:=by rw [← h.on.1];exact hi
  rw [h.num f (by rw [← f.sh.n];exact hi') hj]
  exact f.sh.num i hi' j hj⟩
 have o:∀ i,i<x.os.n→i<t.os.n:=fun i hi=>by rw [← h.os.1];exact hi
 refine ⟨hs,shelfE_mk hp hs,by rw [h.os.1];exact f.os4,by rw [h.ms.1];exact f.ms8,fun i hi=>by rw [(h.os.2 i hi).2.1];exact f.lns i (o i hi),fun i hi=>by rw [(h.os.2 i hi).1];exact f.kind i (o i hi),fun i hi j hj => ?_,?_,fun i hi => ?_,fun i hi => ?_,h.si.1.trans f.sin,h.so.1.trans f.son,h.sf.1.trans f.sfn,fun j hj => ?_,fun j hj => ?_,fun j hj => ?_⟩
 ·rw [(h.os.2 i hi).2.2 j hj]
  exact f.line i (o i hi) j (by rw [← (h.os.2 i hi).2.1];exact hj)
 ·rw [h.hs.1,badH_congr fun j hj=>h.hs.2 j (by rw [h.hs.1];exact hj)]
  exact f.hold
 ·have hi':i<t.hs.n:=by rw [← h.hs.1];exact hi
  obtain ⟨h1,h2,h3⟩:=homeless_no (f.home i hi')
  rw [h.hs.2 i hi]
  have h1':(t.hs.z i).o.toNat<x.os.n:=by rw [h.os.1];exact h1.2
  exact homeless_mk ⟨h1.1,h1'⟩ ⟨h2.1,by rw [(h.os.2 _ h1').2.1];exact h2.2⟩ h3
 ·rw [h.ms.2 i hi]
  exact f.move i (by rw [← h.ms.1];exact hi)
 ·rw [h.si.2 j (by rw [h.si.1,f.sin];exact hj)];exact f.sib j hj
 ·rw [h.so.2 j (by rw [h.so.1,f.son];exact hj)];exact f.sob j hj
 ·rw [h.sf.2 j (by rw [h.sf.1,f.sfn];exact hj)];exact f.sfb j hj
theorem SameT.right (h:SameT x t) (r:RightT p t):RightT p x:=by
 have f:=r.fm
 refine ⟨h.formed f,fun g hg => ?_,fun i hi => ?_⟩
 ·have:=r.goods g hg
  rw [wrongGood_eq] at this ⊢
  rw [← this]
  congr 1
  ·have e:sumTo (fun i=>(x.on.r i).z g) x.on.n=sumTo (fun i=>(t.on.r i).z g) t.on.n:=by
    rw [h.on.1]
    exact sumTo_congr fun i hi=>h.num f (by rw [← f.sh.n];exact hi) hg
   rw [e,h.si.2 g (by rw [h.si.1,f.sin];exact hg),h.so.2 g (by rw [h.so.1,f.son];exact hg),h.sf.2 g (by rw [h.sf.1,f.sfn];exact hg)]
  ·exact anyB_congr fun b hb=>by rw [h.avail f hb hg]
 ·have hi':i<t.os.n:=by rw [← h.os.1];exact hi
  have:=r.orders i hi'
  rw [← this]
  obtain ⟨e1,e2,e3⟩:=h.os.2 i hi
  unfold wrongOrder
  rw [e1,e2]
  congr 1
  ·congr 2
   exact anyB_congr fun j hj=>by rw [e3 j (by rw [e2];exact hj)]
  ·refine anyB_congr fun j hj => ?_
   rw [e3 j (by rw [e2];exact hj),h.hs.1,keptS_congr _ _ fun j hj=>h.hs.2 j (by rw [h.hs.1];exact hj)]
end
end Go.Proofs.YtbcacebifpagpagGreat
namespace Go.Proofs.YtbcacebifpagpagGreat
open Go.RowKit Go.Shelf
set_option linter.unusedVariables false
def frL (p:Pl) (f:Bool) (k:Nat):List Int:=((List.range k).filter (fun i=>(p.zb i).front==f)).map Int.ofNat
theorem frL_hit {p:Pl} {f:Bool} {k:Nat} (h:(p.zb k).front=f):frL p f (k+1)=frL p f k++[(k:Int)]:=by simp [frL,List.range_succ,h]
theorem frL_miss {p:Pl} {f:Bool} {k:Nat} (h:¬ (p.zb k).front=f):frL p f (k+1)=frL p f k:=by simp [frL,List.range_succ,h]
theorem frL_len (p:Pl) (f:Bool) (k:Nat):(frL p f k).length≤k:=by
 unfold frL
 rw [List.length_map]
 exact Nat.le_trans (List.length_filter_le _ _) (by simp)
def wayL (p:Pl):List Int:=frL p true p.nb++frL p false p.nb
theorem Rw.ofOwns {w:World} {base:Nat} {v:Value} {xs:List Int} (h:w.ownsRow base 3 1 v xs.length (xs.map (Value.int .i64))):∃ r:Rw,v=r.val∧r.At w∧r.n=xs.length∧∀ j,j<r.n→r.z j=xs.getD j 0:=by
 by_cases hv:v = .slice Option.none 0 0
 ·subst hv
  have h0:xs.length=0:=by
   rcases h.2 with ⟨_,h0⟩ | ⟨g2,cap2,cur2,e,_⟩
   ·exact h0
   ·cases e
  exact ⟨⟨Option.none,0,0,fun _=>0⟩,rfl,⟨Nat.le_refl _,Nat.zero_le _,fun i hi=>absurd hi (Nat.not_lt_zero _)⟩,h0.symm,fun j hj=>absurd hj (Nat.not_lt_zero _)⟩
 ·obtain ⟨g,c,rfl,h1,h2,h3,h4⟩:=Blk.ofOwns h hv
  rw [Nat.mul_one] at h4
  refine ⟨⟨some ⟨g,0,Option.none⟩,xs.length,c,fun j=>xs.getD j 0⟩,rfl,⟨h1,h2,fun i hi => ?_⟩,rfl,fun j _=>rfl⟩
  have hi':i<xs.length:=hi
  refine ⟨g,0,rfl,h4.lt,?_⟩
  have:=h4.cell (j:=i) hi'
  rw [Nat.zero_add,this]
  simp [List.getD,hi']
end Go.Proofs.YtbcacebifpagpagGreat
namespace Go.Proofs.YtbcacebifpagpagGreat
open Go.RowKit
set_option linter.unusedVariables false
def wayB (p:Pl) (x:Int):Bool:=(p.zb x.toNat).front
theorem frL_mem {p:Pl} {f:Bool} {k:Nat} {x:Int} (h:x∈frL p f k):0≤x∧x<k∧wayB p x=f:=by
 simp only [frL,List.mem_map,List.mem_filter,List.mem_range,beq_iff_eq] at h
 obtain ⟨i,⟨hi,hf⟩,rfl⟩:=h
 exact ⟨Int.natCast_nonneg _,by simp only [Int.ofNat_eq_natCast];omega,hf⟩
theorem frL_pw (p:Pl) (f:Bool):∀ k,(frL p f k).Pairwise (· < ·)
 | 0=>by simp [frL]
 | k+1=>by
  by_cases h:(p.zb k).front=f
  ·rw [frL_hit h,List.pairwise_append]
   refine ⟨frL_pw p f k,List.pairwise_singleton _ _,fun x hx y hy => ?_⟩
   rw [List.mem_singleton] at hy
   have:=(frL_mem hx).2.1
   omega
  ·rw [frL_miss h];exact frL_pw p f k
theorem frL_two (p:Pl):∀ k,(frL p true k).length+(frL p false k).length=k
 | 0=>by simp [frL]
 | k+1=>by
  have ih:=frL_two p k
  cases h:(p.zb k).front
  ·rw [frL_hit h,frL_miss (by rw [h];decide),List.length_append,List.length_singleton];omega
  ·rw [frL_hit h,frL_miss (by rw [h];decide),List.length_append,List.length_singleton];omega
theorem way_len (p:Pl):(wayL p).length=p.nb:=by
 unfold wayL
 rw [List.length_append,frL_two]
theorem way_mem {p:Pl} {x:Int} (h:x∈wayL p):0≤x∧x<p.nb:=by
 unfold wayL at h
 rw [List.mem_append] at h
 rcases h with h | h
 ·exact ⟨(frL_mem h).1,(frL_mem h).2.1⟩
 ·exact ⟨(frL_mem h).1,(frL_mem h).2.1⟩
theorem way_pw (p:Pl):(wayL p).Pairwise (fun x y=>¬ x=y∧(wayB p y=true→wayB p x=true)∧(wayB p x=wayB p y→x<y)):=by
 unfold wayL
 rw [List.pairwise_append]
 refine ⟨?_,?_,fun x hx y hy => ?_⟩
 ·refine List.Pairwise.imp_of_mem ?_ (frL_pw p true p.nb)
  intro x y hx hy h
  exact ⟨by omega,fun _=>(frL_mem hx).2.2,fun _=>h⟩
 ·refine List.Pairwise.imp_of_mem ?_ (frL_pw p false p.nb)
  intro x y hx hy h
  refine ⟨by omega,fun e => ?_,fun _=>h⟩
  rw [(frL_mem hy).2.2] at e;cases e
 ·have a:=(frL_mem hx).2.2
  have b:=(frL_mem hy).2.2
  refine ⟨fun e => ?_,fun e=>a,fun e => ?_⟩
  ·rw [e,b] at a;cases a
  ·rw [a,b] at e;cases e
def wayR (p:Pl):List Int:=if planE p=0 then wayL p else []
theorem wayR_yes {p:Pl} (h:planE p=0):wayR p=wayL p:=if_pos h
theorem wayR_no {p:Pl} (h:¬ planE p=0):wayR p=[]:=if_neg h
theorem owns_low {A A':Nat} {w:World} {e:TypeId} {size:Nat} {v:Value} {n:Nat} {xs:List Value} (h:w.ownsRow A e size v n xs) (hA:A'≤A):w.ownsRow A' e size v n xs :=
 ⟨h.1,h.2.imp_right fun ⟨g,cap,cur,h1,h2,h3⟩=>⟨g,cap,cur,h1,Nat.le_trans hA h2,h3⟩⟩
end Go.Proofs.YtbcacebifpagpagGreat
namespace Go.Proofs.YtbcacebifpagpagGreat
open Go.RowKit Go.Shelf Go.Sort
set_option linter.unusedVariables false
def comingTo (s:St) (b g:Int):Nat→Int
 | 0=>0
 | k+1=>comingTo s b g k+(if (s.ms.z k).b=b∧(s.ms.z k).o=g then (s.ms.z k).n else 0)
theorem comingTo_hit {s:St} {b g:Int} {k:Nat} (h1:(s.ms.z k).b=b) (h2:(s.ms.z k).o=g):comingTo s b g (k+1)=comingTo s b g k+(s.ms.z k).n:=by simp only [comingTo];rw [if_pos ⟨h1,h2⟩]
theorem comingTo_miss {s:St} {b g:Int} {k:Nat} (h:¬ ((s.ms.z k).b=b∧(s.ms.z k).o=g)):comingTo s b g (k+1)=comingTo s b g k:=by simp only [comingTo];rw [if_neg h,Int.add_zero]
theorem comingTo_bd {s:St} {b g:Int}:∀ {n:Nat},(∀ j,j<n→1≤(s.ms.z j).n∧(s.ms.z j).n≤200)→0≤comingTo s b g n∧comingTo s b g n≤200*n
 | 0,_=>by simp [comingTo]
 | n+1,h=>by
  have ih:=comingTo_bd (b:=b) (g:=g) (n:=n) fun j hj=>h j (by omega)
  have:=h n (by omega)
  simp only [comingTo]
  split<;>omega
end Go.Proofs.YtbcacebifpagpagGreat
namespace Go.Proofs.YtbcacebifpagpagGreat
open Go.RowKit
set_option linter.unusedVariables false
theorem SameT.symm {s t:St} (h:SameT s t):SameT t s:=by
 refine ⟨⟨h.on.1.symm,fun i hi => ?_⟩,⟨h.os.1.symm,fun i hi => ?_⟩,⟨h.hs.1.symm,fun j hj=>(h.hs.2 j (by rw [h.hs.1];exact hj)).symm⟩,⟨h.ms.1.symm,fun j hj=>(h.ms.2 j (by rw [h.ms.1];exact hj)).symm⟩,⟨h.si.1.symm,fun j hj=>(h.si.2 j (by rw [h.si.1];exact hj)).symm⟩,⟨h.so.1.symm,fun j hj=>(h.so.2 j (by rw [h.so.1];exact hj)).symm⟩,⟨h.sf.1.symm,fun j hj=>(h.sf.2 j (by rw [h.sf.1];exact hj)).symm⟩⟩
 ·have x:=h.on.2 i (by rw [h.on.1];exact hi)
  exact ⟨x.1.symm,fun j hj=>(x.2 j (by rw [x.1];exact hj)).symm⟩
 ·have x:=h.os.2 i (by rw [h.os.1];exact hi)
  exact ⟨x.1.symm,x.2.1.symm,fun j hj=>(x.2.2 j (by rw [x.2.1];exact hj)).symm⟩
theorem SameT.trans {s t u:St} (h:SameT s t) (k:SameT t u):SameT s u:=by
 refine ⟨⟨h.on.1.trans k.on.1,fun i hi => ?_⟩,⟨h.os.1.trans k.os.1,fun i hi => ?_⟩,⟨h.hs.1.trans k.hs.1,fun j hj=>(h.hs.2 j hj).trans (k.hs.2 j (by rw [← h.hs.1];exact hj))⟩,⟨h.ms.1.trans k.ms.1,fun j hj=>(h.ms.2 j hj).trans (k.ms.2 j (by rw [← h.ms.1];exact hj))⟩,⟨h.si.1.trans k.si.1,fun j hj=>(h.si.2 j hj).trans (k.si.2 j (by rw [← h.si.1];exact hj))⟩,⟨h.so.1.trans k.so.1,fun j hj=>(h.so.2 j hj).trans (k.so.2 j (by rw [← h.so.1];exact hj))⟩,⟨h.sf.1.trans k.sf.1,fun j hj=>(h.sf.2 j hj).trans (k.sf.2 j (by rw [← h.sf.1];exact hj))⟩⟩
 ·have x:=h.on.2 i hi
  have y:=k.on.2 i (by rw [← h.on.1];exact hi)
  exact ⟨x.1.trans y.1,fun j hj=>(x.2 j hj).trans (y.2 j (by rw [← x.1];exact hj))⟩
 ·have x:=h.os.2 i hi
  have y:=k.os.2 i (by rw [← h.os.1];exact hi)
  exact ⟨x.1.trans y.1,x.2.1.trans y.2.1,fun j hj=>(x.2.2 j hj).trans (y.2.2 j (by rw [← x.2.1];exact hj))⟩
def setRw (r:Rw) (j:Nat) (x:Int):Rw:=⟨r.a,r.n,r.c,fun i=>if i=j then x else r.z i⟩
def setOn (s:St) (b g:Nat) (x:Int):St:=⟨⟨s.on.a,s.on.n,s.on.c,fun i=>if i=b then setRw (s.on.r i) g x else s.on.r i⟩,s.os,s.hs,s.ms,s.si,s.so,s.sf⟩
def setIn (s:St) (g:Nat) (x:Int):St:=⟨s.on,s.os,s.hs,s.ms,setRw s.si g x,s.so,s.sf⟩
theorem OwnI.set {A:Nat} {w:World} {r:Rw} {G:Nat} (h:OwnI A w r) (ha:r.a=some ⟨G,0,none⟩) (j:Nat) (x:Int):OwnI A (w.setCell ⟨G,j,none⟩ (.int .i64 x)) (setRw r j x):=by
 obtain ⟨g,ha',h0,h1,h2,hb⟩:=h
 rw [ha] at ha'
 simp only [Option.some.injEq,Addr.mk.injEq,and_true] at ha'
 subst ha'
 refine ⟨G,ha,h0,h1,h2,(hb.set j (.int .i64 x)).congr fun i hi => ?_⟩
 show (if i=j then _ else _)=Value.int .i64 (if i=j then x else r.z i)
 by_cases hij:i=j<;>simp [hij]
theorem OwnI.apart {A:Nat} {w:World} {r:Rw} {G:Nat} (h:OwnI A w r) (ha:r.a≠some ⟨G,0,none⟩) (j:Nat) (u:Value):OwnI A (w.setCell ⟨G,j,none⟩ u) r:=by
 obtain ⟨g,ha',h0,h1,h2,hb⟩:=h
 refine ⟨g,ha',h0,h1,h2,hb.other (a:=⟨G,j,none⟩) (fun e=>ha ?_) u⟩
 rw [ha',show g=G from e]
theorem row_a {s:St} {b g:Nat} {x:Int} (i:Nat):(if i=b then setRw (s.on.r i) g x else s.on.r i).a=(s.on.r i).a:=by
 by_cases h:i=b<;>simp [h,setRw]
theorem OwnS.setOn {A:Nat} {w:World} {s:St} {b G:Nat} (h:OwnS A w s) (hb:b<s.on.n) (ha:(s.on.r b).a=some ⟨G,0,none⟩) (g:Nat) (x:Int):OwnS A (w.setCell ⟨G,g,none⟩ (.int .i64 x)) (Go.Proofs.YtbcacebifpagpagGreat.setOn s b g x):=by
 obtain ⟨Gb,hGb,_,_,_,hblk⟩:=h.rows b hb
 rw [ha] at hGb
 simp only [Option.some.injEq,Addr.mk.injEq,and_true] at hGb
 subst hGb
 have q:=h.ari b hb
 rw [ha] at q
 refine ⟨?_,fun i hi => ?_,fun i j hij hj => ?_,h.os.other hblk (by decide) (by decide) g _,h.hs.other hblk (by decide) g _,h.ms.other hblk (by decide) g _,h.msr.set _ _ _,h.si.apart (fun e=>q.1 e.symm) g _,h.so.apart (fun e=>q.2.1 e.symm) g _,h.sf.apart (fun e=>q.2.2 e.symm) g _,h.aio,h.aif,h.aof,fun i hi => ?_⟩
 ·obtain ⟨g0,ha0,h0,h1,h2,hb0⟩:=h.on
  refine ⟨g0,ha0,h0,h1,h2,(hb0.other (a:=⟨G,g,none⟩) (Blk.ne2 hb0 hblk (by decide)) _).congr fun i hi => ?_⟩
  show _=Value.slice (if i=b then setRw (s.on.r i) g x else s.on.r i).a (if i=b then setRw (s.on.r i) g x else s.on.r i).n (if i=b then setRw (s.on.r i) g x else s.on.r i).c
  by_cases hib:i=b<;>simp [hib,setRw]
 ·show OwnI A _ (if i=b then setRw (s.on.r i) g x else s.on.r i)
  by_cases hib:i=b
  ·subst hib
   rw [if_pos rfl]
   exact (h.rows i hi).set ha g x
  ·rw [if_neg hib]
   refine (h.rows i hi).apart (fun e => ?_) g _
   rcases Nat.lt_or_gt_of_ne hib with hlt | hgt
   ·exact h.rapart i b hlt hb (e.trans ha.symm)
   ·exact h.rapart b i hgt hi (ha.trans e.symm)
 ·show (if i=b then setRw (s.on.r i) g x else s.on.r i).a≠(if j=b then setRw (s.on.r j) g x else s.on.r j).a
  rw [row_a,row_a]
  exact h.rapart i j hij hj
 ·show (if i=b then setRw (s.on.r i) g x else s.on.r i).a≠_∧(if i=b then setRw (s.on.r i) g x else s.on.r i).a≠_∧(if i=b then setRw (s.on.r i) g x else s.on.r i).a≠_
  rw [row_a]
  exact h.ari i hi
theorem OwnS.setIn {A:Nat} {w:World} {s:St} {G:Nat} (h:OwnS A w s) (ha:s.si.a=some ⟨G,0,none⟩) (g:Nat) (x:Int):OwnS A (w.setCell ⟨G,g,none⟩ (.int .i64 x)) (Go.Proofs.YtbcacebifpagpagGreat.setIn s g x):=by
 obtain ⟨Gb,hGb,_,_,_,hblk⟩:=h.si
 rw [ha] at hGb
 simp only [Option.some.injEq,Addr.mk.injEq,and_true] at hGb
 subst hGb
 refine ⟨?_,fun i hi=>(h.rows i hi).apart (fun e=>(h.ari i hi).1 (e.trans ha.symm)) g _,h.rapart,h.os.other hblk (by decide) (by decide) g _,h.hs.other hblk (by decide) g _,h.ms.other hblk (by decide) g _,h.msr.set _ _ _,h.si.set ha g x,h.so.apart (fun e=>h.aio (ha.trans e.symm)) g _,h.sf.apart (fun e=>h.aif (ha.trans e.symm)) g _,h.aio,h.aif,h.aof,h.ari⟩
 obtain ⟨g0,ha0,h0,h1,h2,hb0⟩:=h.on
 exact ⟨g0,ha0,h0,h1,h2,hb0.other (a:=⟨G,g,none⟩) (Blk.ne2 hb0 hblk (by decide)) _⟩
def lyingZ (s:St) (b g:Nat):Int:=(s.on.r b).z g+comingTo s b g s.ms.n
def recvE (p:Pl) (s:St) (bin good n:Int):Int :=
 if stateE p s=0 then (if inB bin 0 ((p.nb:Int) - 1)&&inB good 0 ((p.ns:Int) - 1)&&inB n 1 200 then (if freeZ p s bin.toNat<n*p.zs good.toNat then 5 else if 200<lyingZ s bin.toNat good.toNat+n∨1048576<s.si.z good.toNat+n then 2 else 0) else 3) else stateE p s
def recvT (s:St) (b g:Nat) (n:Int):St:=setIn (setOn s b g ((s.on.r b).z g+n)) g (s.si.z g+n)
def ActOK (E:Int) (t s':St):Prop:=(E=0→SameT s' t)∧(¬ E=0→NoneS s')
theorem setOn_same {s t:St} (h:SameT s t) (b g:Nat) (x:Int):SameT (setOn s b g x) (setOn t b g x):=by
 refine ⟨⟨h.on.1,fun i hi => ?_⟩,h.os,h.hs,h.ms,h.si,h.so,h.sf⟩
 have y:=h.on.2 i hi
 show (if i=b then setRw (s.on.r i) g x else s.on.r i).n=(if i=b then setRw (t.on.r i) g x else t.on.r i).n∧∀ j,j<(if i=b then setRw (s.on.r i) g x else s.on.r i).n→(if i=b then setRw (s.on.r i) g x else s.on.r i).z j=(if i=b then setRw (t.on.r i) g x else t.on.r i).z j
 by_cases hib:i=b
 ·rw [if_pos hib,if_pos hib]
  refine ⟨y.1,fun j hj => ?_⟩
  show (if j=g then x else (s.on.r i).z j)=if j=g then x else (t.on.r i).z j
  rw [y.2 j hj]
 ·rw [if_neg hib,if_neg hib]
  exact y
theorem setIn_same {s t:St} (h:SameT s t) (g:Nat) (x:Int):SameT (setIn s g x) (setIn t g x):=by
 refine ⟨h.on,h.os,h.hs,h.ms,⟨h.si.1,fun j hj => ?_⟩,h.so,h.sf⟩
 show (if j=g then x else s.si.z j)=if j=g then x else t.si.z j
 rw [h.si.2 j hj]
structure Tk where
 left:Int
 took:Int→Int
def Tk.step (av:Int→Int) (t:Tk) (b:Int):Tk:=⟨t.left - min t.left (av b),fun x=>t.took x+if x=b then min t.left (av b) else 0⟩
def Tk.go (av:Int→Int) (n:Int) (l:List Int):Tk:=l.foldl (Tk.step av) ⟨n,fun _=>0⟩
theorem Tk.go_more (av:Int→Int) (n:Int) (l:List Int) (b:Int):Tk.go av n (l++[b])=(Tk.go av n l).step av b:=by
 unfold Tk.go
 rw [List.foldl_append]
 rfl
structure TkOK (av:Int→Int) (n:Int) (l:List Int) (t:Tk):Prop where
 left0:0≤t.left
 leftn:t.left≤n
 took0:∀ x,0≤t.took x
 tookn:∀ x,t.took x≤n - t.left
 had:∀ x,x∈l→t.took x≤av x
 other:∀ x,x ∉ l→t.took x=0
 all:0<t.left→∀ x,x∈l→t.took x=av x
 sum:sumTo (fun b=>t.took b) 6=n - t.left
theorem tkOK {av:Int→Int} {n:Int} (hn:0≤n):∀ {l:List Int},l.Pairwise (fun x y=>¬ x=y)→(∀ x,x∈l→0≤av x)→(∀ x,x∈l→0≤x∧x<6)→TkOK av n l (Tk.go av n l):=by
 suffices H:∀ (k:Nat) (l:List Int),l.length=k→l.Pairwise (fun x y=>¬ x=y)→(∀ x,x∈l→0≤av x)→(∀ x,x∈l→0≤x∧x<6)→TkOK av n l (Tk.go av n l) from fun {l}=>H l.length l rfl
 intro k
 induction k with
 | zero =>
  intro l hl _ _ _
  obtain rfl:=List.eq_nil_of_length_eq_zero hl
  exact ⟨hn,Int.le_refl _,fun _=>Int.le_refl _,fun _=>by show (0:Int)≤n - n;omega,fun x h=>by simp at h,fun _ _=>rfl,fun _ x h=>by simp at h,by show (0:Int)+0+0+0+0+0+0=n - n;omega⟩
 | succ m ih =>
  intro l0 hl0 hd ha hin
  obtain ⟨l,b,rfl⟩:∃ l b,l0=l++[b]:=⟨l0.dropLast,l0.getLast (by intro e;rw [e] at hl0;simp at hl0),(List.dropLast_concat_getLast _).symm⟩
  have hlm:l.length=m:=by simpa using hl0
  rw [List.pairwise_append] at hd
  have hb:b ∉ l:=fun hm=>hd.2.2 b hm b (by simp) rfl
  have k:=ih l hlm hd.1 (fun x hx=>ha x (by simp [hx])) (fun x hx=>hin x (by simp [hx]))
  have hb6:=hin b (by simp)
  have hab:=ha b (by simp)
  rw [Tk.go_more]
  generalize Tk.go av n l=t at k
  have h0:=k.left0
  have hln:=k.leftn
  have hmin:0≤min t.left (av b)∧min t.left (av b)≤t.left∧min t.left (av b)≤av b:=by omega
  have hob:=k.other b hb
  refine ⟨?_,?_,fun x => ?_,fun x => ?_,fun x hx => ?_,fun x hx => ?_,fun hl x hx => ?_,?_⟩
  ·show 0≤t.left - min t.left (av b);omega
  ·show t.left - min t.left (av b)≤n;omega
  ·have:=k.took0 x
   show 0≤t.took x+if x=b then min t.left (av b) else 0
   split<;>omega
  ·have:=k.tookn x
   show (t.took x+if x=b then min t.left (av b) else 0)≤n - (t.left - min t.left (av b))
   split<;>omega
  ·show (t.took x+if x=b then min t.left (av b) else 0)≤av x
   by_cases hxb:x=b
   ·subst hxb;rw [if_pos rfl];omega
   ·rw [if_neg hxb]
    have:x∈l:=by simpa [hxb] using hx
    have:=k.had x this
    omega
  ·show (t.took x+if x=b then min t.left (av b) else 0)=0
   have hxb:¬ x=b:=fun e=>hx (by simp [e])
   have hxl:x ∉ l:=fun e=>hx (by simp [e])
   rw [if_neg hxb,k.other x hxl]
   rfl
  ·have hl':0<t.left - min t.left (av b):=hl
   show (t.took x+if x=b then min t.left (av b) else 0)=av x
   by_cases hxb:x=b
   ·subst hxb;rw [if_pos rfl];omega
   ·rw [if_neg hxb]
    have:x∈l:=by simpa [hxb] using hx
    have:=k.all (by omega) x this
    omega
  ·show sumTo (fun x=>t.took x+if (x:Int)=b then min t.left (av b) else 0) 6=n - (t.left - min t.left (av b))
   have e:=k.sum
   rw [sumTo_put (z:=fun x=>t.took x) (m:=b.toNat) (n:=min t.left (av b)) (by omega) fun i hi=>by
    by_cases hib:i=b.toNat
    ·have:((i:Nat):Int)=b:=by omega
     rw [if_pos this,if_pos hib]
    ·have:¬ ((i:Nat):Int)=b:=by omega
     rw [if_neg this,if_neg hib,Int.add_zero],e]
   omega
def wayT (p:Pl) (but:Int):List Int:=(wayL p).filter (fun b => !(b==but))
theorem wayT_mem {p:Pl} {but x:Int}:x∈wayT p but↔x∈wayL p∧¬ x=but:=by
 unfold wayT
 rw [List.mem_filter]
 simp
theorem wayT_apart (p:Pl) (but:Int):(wayT p but).Pairwise (fun x y=>¬ x=y):=((way_pw p).imp fun h=>h.1).filter _
end Go.Proofs.YtbcacebifpagpagGreat
namespace Go.Proofs.YtbcacebifpagpagGreat
open Go.RowKit Go.Shelf Go.Sort
set_option linter.unusedVariables false
theorem recvE_state {p:Pl} {s:St} {bin good n:Int} (h:¬ stateE p s=0):recvE p s bin good n=stateE p s:=by unfold recvE;rw [if_neg h]
theorem recvE_range {p:Pl} {s:St} {bin good n:Int} (h:stateE p s=0) (h2:(inB bin 0 ((p.nb:Int) - 1)&&inB good 0 ((p.ns:Int) - 1)&&inB n 1 200)=false):recvE p s bin good n=3:=by unfold recvE;rw [if_pos h,h2];rfl
theorem recvE_full {p:Pl} {s:St} {b g:Nat} {n:Int} (h:stateE p s=0) (h1:b<p.nb) (h2:g<p.ns) (h3:inB n 1 200=true) (h4:freeZ p s b<n*p.zs g):recvE p s b g n=5:=by
 unfold recvE;simp only [Int.toNat_natCast];rw [if_pos h,inB_mk (by omega),inB_mk (by omega),h3,if_pos (by decide),if_pos h4]
theorem recvE_many {p:Pl} {s:St} {b g:Nat} {n:Int} (h:stateE p s=0) (h1:b<p.nb) (h2:g<p.ns) (h3:inB n 1 200=true) (h4:¬ freeZ p s b<n*p.zs g) (h5:200<lyingZ s b g+n∨1048576<s.si.z g+n):recvE p s b g n=2:=by
 unfold recvE;simp only [Int.toNat_natCast];rw [if_pos h,inB_mk (by omega),inB_mk (by omega),h3,if_pos (by decide),if_neg h4,if_pos h5]
theorem recvE_ok {p:Pl} {s:St} {b g:Nat} {n:Int} (h:stateE p s=0) (h1:b<p.nb) (h2:g<p.ns) (h3:inB n 1 200=true) (h4:¬ freeZ p s b<n*p.zs g) (h5:¬ (200<lyingZ s b g+n∨1048576<s.si.z g+n)):recvE p s b g n=0:=by
 unfold recvE;simp only [Int.toNat_natCast];rw [if_pos h,inB_mk (by omega),inB_mk (by omega),h3,if_pos (by decide),if_neg h4,if_neg h5]
theorem freeZ_bd {p:Pl} {s:St} (f:Formed p s) {b:Nat} (hb:b<p.nb) : -30000≤freeZ p s b∧freeZ p s b≤1000:=by
 have hon:b<s.on.n:=by rw [f.sh.n];exact hb
 have ub:=usedTo_bd (z:=(s.on.r b).z) (zs:=p.zs) (n:=p.ns) (fun j hj=>⟨f.sh.num b hon j hj,f.sh.pl.sizes j hj⟩) p.ns (Nat.le_refl _)
 have tb:=takeTo_bd f (b:Int) s.ms.n (Nat.le_refl _)
 have room:0≤(p.zb b).room∧(p.zb b).room≤1000:=by
  have:=f.sh.pl.bins b hb
  simp only [badBin,Bool.or_eq_false_iff,Bool.not_eq_false'] at this
  exact inB_true this.1.1
 have:=f.ms8
 have:=f.sh.pl.ns3
 unfold freeZ
 omega
end Go.Proofs.YtbcacebifpagpagGreat
namespace Go.Proofs.YtbcacebifpagpagGreat
open Go.RowKit Go.Shelf
set_option linter.unusedVariables false
structure OwnR (A:Nat) (w:World) (s:Sh):Prop where
 on:∃ g,s.a=some ⟨g,0,none⟩∧A≤g∧s.n≤s.c∧s.c≤maxLen∧Blk w g 23 s.n (fun i => .slice (s.r i).a (s.r i).n (s.r i).c)
 rows:∀ i,i<s.n→OwnI A w (s.r i)
 rapart:∀ i j,i<j→j<s.n→(s.r i).a≠(s.r j).a
set_option maxHeartbeats 1000000 in
theorem PutOwn_any (p:Pl) (s:Sh) (bin good n:Int) (w:World) (hp:p.At w) (hs:s.At w) (hput:putE p s bin good n=0) :
  Calls Tryz.prog 91 #[p.val,s.val,.int .i64 bin,.int .i64 good,.int .i64 n] w fun e w'=>∃ s':Sh,e = .returned (.tuple #[s'.val,.int .i64 0])∧OwnR w.heap.size w' s'∧s'.n=s.n∧(∀ i,i<s.n→(s'.r i).n=(s.r i).n∧∀ j,j<(s.r i).n→(s'.r i).z j=putZ s bin good n i j)∧Below w.heap.size w w':=by
 have hB0:Below w.heap.size w (w.alloc (.cells #[.slice p.ab p.nb p.cb,.slice p.sa p.ns p.cs] 25)):=(Below.refl w.heap.size w).alloc (Nat.le_refl _) _
 simp only [Pl.val,Sh.val]
 have sle:=hs.le
 have scap0:=hs.cap
 have scap:=scap0
 unfold maxLen at scap
 have hn0:s.n≤maxLen:=Nat.le_trans sle scap0
 have les:=hp.les
 have caps0:=hp.caps
 have hn1:p.ns≤maxLen:=Nat.le_trans les caps0
 have caps:=caps0
 unfold maxLen at caps
 go_enter Tryz.func91,Tryz.ntmps91
 go_wp2_with fail
 refine (shelfCheck_any p s _ (hp.below hB0) (hs.below hB0)).mono ?_
 rintro e w1 ⟨rfl,hB⟩
 have hBw:=hB0.trans (hB.mono (by simp))
 have hsz:w.heap.size<w1.heap.size:=by have:=hB.size;simp at this;omega
 have c1:w1.cell? ⟨w.heap.size,1,none⟩=some (.slice p.sa p.ns p.cs):=(hB.cell (p:=⟨w.heap.size,1,none⟩) (by simp)).trans (by simp)
 have h0:shelfE p s=0:=by
  apply Classical.byContradiction
  intro h0
  have hE:shelfErr p s bin good=shelfE p s:=by simp [shelfErr,h0]
  simp [putE,hE,h0] at hput
 have hE:=shelfErr_eq (bin:=bin) (good:=good) h0
 have h1:inB bin 0 ((s.n:Int) - 1)=true:=by
  cases h1:inB bin 0 ((s.n:Int) - 1)
  ·simp [putE,hE,h1] at hput
  ·rfl
 have h2:inB good 0 ((p.ns:Int) - 1)=true:=by
  cases h2:inB good 0 ((p.ns:Int) - 1)
  ·simp [putE,hE,h1,h2] at hput
  ·rfl
 have hE0:shelfErr p s bin good=0:=by simp [hE,h1,h2]
 clear hE
 obtain ⟨m,rfl⟩:=Int.eq_ofNat_of_zero_le (inB_true h1).1
 obtain ⟨q,rfl⟩:=Int.eq_ofNat_of_zero_le (inB_true h2).1
 have hm:m<s.n:=by have:=(inB_true h1).2;omega
 have hq:q<p.ns:=by have:=(inB_true h2).2;omega
 obtain ⟨pl,hn,hlen,hnum⟩:=(rightS h0).2
 have hz:=hnum m hm q hq
 have hl:=hlen m hm
 have h6:=pl.nb6
 rw [← hn] at h6
 have hr3:Hid (∀ i,i<s.n→1≤(s.r i).n∧(s.r i).n≤3):=fun i hi=>by rw [hlen i hi];exact ⟨pl.ns1,pl.ns3⟩
 have hs1:=hs.below hBw
 have m1:(0:Int)≤(m:Int):=by omega
 have m2:(0:Int)≤(q:Int):=by omega
 obtain ⟨b,o,ha,hb,z0,hat⟩:=hs1.rows m hm
 obtain ⟨b1,o1,ha1,hb1,y0⟩:=hat.ints q (by omega)
 rw [ha1] at z0
 have hql:q<(s.r m).n:=by omega
 have rle:=hat.le
 have rcap:=hat.cap
 unfold maxLen at rcap
 have h3:inB n (-((s.r m).z q)) (200 - (s.r m).z q)=true:=by
  cases h3:inB n (-((s.r m).z q)) (200 - (s.r m).z q)
  ·simp [putE,hE0,h3] at hput
  ·rfl
 clear hput
 clear pl hn hlen hnum ha1 hat hE0 hl
 obtain ⟨s0,sn,sc,sr⟩:=s
 dsimp only at *
 subst ha
 go_wp2_with (first | (go_at_call_of 71 (Value.int .i64 (m:Int));refine calls_to (Has_any _ _ _ hn0) ?_) | (go_at_call_of 71 (Value.int .i64 (q:Int));refine calls_to (Has_any _ _ _ hn1) ?_) | (go_at_call 63;refine calls_to (Within_any _ _ _ _) ?_))
 refine (copyRows_any ⟨some ⟨b,o,none⟩,sn,sc,sr⟩ w1 hs1 h6 hr3.out).mono ?_
 rintro e w2 ⟨g,G,C,rfl,hg,gb,gr,gm,hB2⟩
 dsimp only at gb gr gm ⊢
 obtain ⟨g1,g2,g3,g4⟩:=gr m hm
 have d0:=gb.cell hm
 have d1:=g4.cell hql
 have d2:=g4.frozen q
 have hnn:=inB_true h3
 unfold maxLen at g3
 have hB3:=hBw.trans (hB2.mono hBw.size)
 have hge:w.heap.size≤G m:=by have:=hBw.size;omega
 have st:=hB3.setCell (p:=⟨G m,q,none⟩) hge (.int .i64 ((sr m).z q+n))
 have HH:Hid _:=And.intro gb (And.intro gr gm)
 clear gb gr gm c1 y0 z0
 go_wp2_with fail
 go_ret2
 obtain ⟨gb,gr,gm⟩:=HH.out
 refine ⟨⟨some ⟨g,0,none⟩,sn,sn,fun i=>⟨some ⟨G i,0,none⟩,(sr i).n,C i,fun j=>putZ ⟨some ⟨b,o,none⟩,sn,sc,sr⟩ m q n i j⟩⟩,rfl,⟨⟨g,rfl,?_,Nat.le_refl _,hn0,?_⟩,?_,?_⟩,rfl,fun i hi=>⟨rfl,fun j hj=>rfl⟩,st⟩
 ·have:=hBw.size;omega
 ·exact gb.other (a:=⟨G m,q,none⟩) (by show g≠G m;omega) (.int .i64 ((sr m).z q+n))
 ·intro i hi
  have gi:=gr i hi
  refine ⟨G i,rfl,?_,gi.2.1,gi.2.2.1,?_⟩
  ·have:=hBw.size;omega
  ·by_cases him:i=m
   ·subst him
    refine (gi.2.2.2.set q (.int .i64 ((sr i).z q+n))).congr fun j hj => ?_
    by_cases hjq:j=q
    ·subst hjq;simp [putZ]
    ·simp [putZ,hjq]
   ·have hGne:G i≠G m:=by
     rcases Nat.lt_or_gt_of_ne him with h | h
     ·have:=gm i m h hm;omega
     ·have:=gm m i h hi;omega
    refine (gi.2.2.2.other (a:=⟨G m,q,none⟩) hGne (.int .i64 ((sr m).z q+n))).congr fun j hj => ?_
    simp [putZ,him]
 ·intro i j hij hj h
  have:=gm i j hij hj
  simp only [Option.some.injEq,Addr.mk.injEq,and_true] at h
  omega
end Go.Proofs.YtbcacebifpagpagGreat
namespace Go.Proofs.YtbcacebifpagpagGreat
open Go.RowKit Go.Shelf Go.Sort
set_option linter.unusedVariables false
set_option maxHeartbeats 4000000 in
theorem Lying_any (p:Pl) (s:St) (bin good:Nat) (w:World) (hs:s.At w) (f:Formed p s) (hbin:bin<p.nb) (hgood:good<p.ns) :
  Calls Tryz.prog 89 #[s.val,.int .i64 bin,.int .i64 good] w fun e w'=>e = .returned (.int .i64 (lyingZ s bin good))∧Below w.heap.size w w':=by
 obtain ⟨W0,hW0,hWB,hX⟩:∃ W0,w.alloc (.cells s.cells 31)=W0∧Below w.heap.size w W0∧Blk W0 w.heap.size 31 7 (fun j=>s.cells.getD j default):=⟨_,rfl,(Below.refl w.heap.size w).alloc (Nat.le_refl _) _,Blk.mk' rfl rfl⟩
 have hs0:=hs.below hWB
 have hon:bin<s.on.n:=by rw [f.sh.n];exact hbin
 obtain ⟨bo,oo,hoa,hbo,y0,hrow⟩:=hs0.on.rows bin hon
 have hrn:=f.sh.len bin hon
 have hnum:=f.sh.num bin hon good hgood
 obtain ⟨br,orr,hra,hbr,y1⟩:=hrow.ints good (by omega)
 have hrle:=hrow.le
 have hrcap:=hrow.cap
 have hole:=hs0.on.le
 have hocap:=hs0.on.cap
 unfold maxLen at hrcap hocap
 rw [hra,hrn] at y0
 rw [hrn] at hrle
 have c0:W0.cell? ⟨w.heap.size,0,none⟩=some (.slice s.on.a s.on.n s.on.c):=hX.cell (j:=0) (by decide)
 rw [hoa] at c0
 have l0:=hX.lt
 have HOA:Hid (s.on.a=some ⟨bo,oo,none⟩):=hoa
 have b0:(0:Int)≤(bin:Int):=by omega
 have g0:(0:Int)≤(good:Int):=by omega
 have HLY:Hid (∀ k,k=s.ms.n→lyingZ s bin good=(s.on.r bin).z good+comingTo s bin good k):=fun k hk=>by subst hk;rfl
 have HC:Hid (∀ wk,Below W0.heap.size W0 wk→s.At wk∧wk.cell? ⟨w.heap.size,3,none⟩=some (.slice s.ms.a s.ms.n s.ms.c)∧w.heap.size<wk.heap.size) :=
  fun wk h=>⟨hs0.below h,(hX.below h).cell (j:=3) (by decide),(hX.below h).lt⟩
 have hmle:=hs0.ms.le
 have hmcap:=hs0.ms.cap
 unfold maxLen at hmcap
 have m8:=f.ms8
 have MB:Hid (∀ k,k≤s.ms.n→0≤comingTo s bin good k∧comingTo s bin good k≤200*k):=fun k hk=>comingTo_bd fun j hj=>f.moveN j (by omega)
 have HW:Hid (w.alloc (.cells #[.slice (some ⟨bo,oo,none⟩) s.on.n s.on.c,.slice s.os.a s.os.n s.os.c,.slice s.hs.a s.hs.n s.hs.c,.slice s.ms.a s.ms.n s.ms.c,.slice s.si.a s.si.n s.si.c,.slice s.so.a s.so.n s.so.c,.slice s.sf.a s.sf.n s.sf.c] 31)=W0):=by show _=W0;rw [← hW0,St.cells,hoa]
 have y0e:=y0
 have y1e:=y1
 have hboe:=hbo
 have hbre:=hbr
 rw [← HW.out] at y0e y1e hboe hbre
 simp only [St.val,hoa]
 clear hX hW0 hrow hs hs0
 clear hoa hra c0 l0 y0 y1 hbo hbr hrn
 generalize (s.on.r bin).z good=ON at *
 go_enter Tryz.func89,Tryz.ntmps89
 go_wp2_with fail
 rw [HW.out]
 clear y0e y1e hboe hbre
 go_loopw [7,21] (fun u i wk=>∃ k:Nat,k≤s.ms.n∧i = .int .i64 k∧u = .int .i64 (ON+comingTo s bin good k)∧Below W0.heap.size W0 wk) (fun _ i _=>s.ms.n - (intOf i).toNat)
 case atStart=>exact ⟨0,Nat.zero_le _,rfl,by simp [comingTo],Below.refl _ _⟩
 case round =>
  obtain ⟨k,hk,rfl,rfl,hB⟩:=hrel
  have m2:=MB.out k hk
  obtain ⟨hsk,c3,hlt0⟩:=HC.out wr hB
  by_cases hlt2:k<s.ms.n
  ·obtain ⟨b,q,hma,hb,z0,z1,z2,z3⟩:=hsk.ms.hds k hlt2
   have m3:=f.moveN k hlt2
   have H1:Hid (((s.ms.z k).b=bin∧(s.ms.z k).o=good→comingTo s bin good (k+1)=comingTo s bin good k+(s.ms.z k).n)∧(¬ ((s.ms.z k).b=bin∧(s.ms.z k).o=good)→comingTo s bin good (k+1)=comingTo s bin good k)):=⟨fun h=>comingTo_hit h.1 h.2,comingTo_miss⟩
   have q4:(0:Int)≤(k:Int):=by omega
   rw [hma]
   obtain ⟨W1,hW1,hB1⟩:∃ W1,wr.alloc (.cells #[.int .i64 (s.ms.z k).o,.int .i64 (s.ms.z k).l,.int .i64 (s.ms.z k).b,.int .i64 (s.ms.z k).n] 63)=W1∧Below W0.heap.size W0 W1:=⟨_,rfl,hB.alloc hB.size _⟩
   have HV:Hid (wr.alloc (.cells #[.int .i64 (s.ms.z k).o,.int .i64 (s.ms.z k).l,.int .i64 (s.ms.z k).b,.int .i64 (s.ms.z k).n] 63)=W1):=hW1
   clear hma hsk hW1 c3 hlt0
   generalize comingTo s bin good k=U at *
   generalize (s.ms.z k).b=BB at *
   generalize (s.ms.z k).n=NN at *
   generalize (s.ms.z k).l=LL at *
   generalize (s.ms.z k).o=GD at *
   cases h1:(BB==(bin:Int))
   ·have hm:=H1.out.2 (by simp at h1;omega)
    have HM:Hid (comingTo s bin good (k+1)=U):=hm
    clear hm H1
    go_wp2_with fail
    rw [HV.out]
    go_roundw
    case rel=>exact ⟨k+1,by omega,by go_num,by rw [HM.out],hB1⟩
    case measure=>simp [intOf];omega
   ·cases h2:(GD==(good:Int))
    ·have hm:=H1.out.2 (by simp at h2;omega)
     have HM:Hid (comingTo s bin good (k+1)=U):=hm
     clear hm H1
     go_wp2_with fail
     rw [HV.out]
     go_roundw
     case rel=>exact ⟨k+1,by omega,by go_num,by rw [HM.out],hB1⟩
     case measure=>simp [intOf];omega
    ·have hm:=H1.out.1 ⟨by simpa using h1,by simpa using h2⟩
     have HM:Hid (comingTo s bin good (k+1)=U+NN):=hm
     clear hm H1
     go_wp2_with fail
     rw [HV.out]
     go_roundw
     case rel=>exact ⟨k+1,by omega,by go_num,by rw [HM.out];congr 1;omega,hB1⟩
     case measure=>simp [intOf];omega
  ·have hkn:k=s.ms.n:=by omega
   subst hkn
   go_wp2_with fail
   go_ret
   exact ⟨by rw [HLY.out _ rfl];rfl,hWB.trans (hB.mono hWB.size)⟩
theorem OwnS.swap {A B:Nat} {w0 w:World} {o:St} {r:Sh} (h:OwnS A w0 o) (hB:Below w0.heap.size w0 w) (hR:OwnR B w r) (hw:w0.heap.size≤B) (hA:A≤B):OwnS A w ⟨r,o.os,o.hs,o.ms,o.si,o.so,o.sf⟩:=by
 have k:=OwnS.below h hB
 obtain ⟨G1,a1,-,-,-,k1⟩:=h.si
 obtain ⟨G2,a2,-,-,-,k2⟩:=h.so
 obtain ⟨G3,a3,-,-,-,k3⟩:=h.sf
 have l1:=k1.lt
 have l2:=k2.lt
 have l3:=k3.lt
 refine ⟨?_,fun i hi => ?_,hR.rapart,k.os,k.hs,k.ms,k.msr,k.si,k.so,k.sf,k.aio,k.aif,k.aof,fun i hi => ?_⟩
 ·obtain ⟨g,h1,h2,h3⟩:=hR.on
  exact ⟨g,h1,by omega,h3⟩
 ·obtain ⟨g,h1,h2,h3⟩:=hR.rows i hi
  exact ⟨g,h1,by omega,h3⟩
 ·obtain ⟨g,h1,h2,h3⟩:=hR.rows i hi
  show (r.r i).a≠o.si.a∧(r.r i).a≠o.so.a∧(r.r i).a≠o.sf.a
  rw [h1,a1,a2,a3]
  simp only [ne_eq,Option.some.injEq,Addr.mk.injEq,and_true]
  omega
set_option maxRecDepth 100000 in
set_option maxHeartbeats 8000000 in
theorem ReceiveOwn_any (p:Pl) (s:St) (bin good n:Int) (w:World) (hp:p.At w) (hs:s.At w) :
  Calls Tryz.prog 41 #[p.val,s.val,.int .i64 bin,.int .i64 good,.int .i64 n] w fun e w'=>∃ s':St,e = .returned (.tuple #[s'.val,.int .i64 (recvE p s bin good n)])∧s'.At w'∧ActOK (recvE p s bin good n) (recvT s bin.toNat good.toNat n) s'∧(recvE p s bin good n=0→OwnS w.heap.size w' s')∧Below w.heap.size w w':=by
 obtain ⟨W0,hW,hWB,X0,Z0⟩:∃ W,(((w.alloc (.cells #[.slice p.ab p.nb p.cb,.slice p.sa p.ns p.cs] 25)).alloc (.cells s.cells 31)).alloc (.cells #[.slice .none 0 0,.slice .none 0 0,.slice .none 0 0,.slice .none 0 0,.slice .none 0 0,.slice .none 0 0,.slice .none 0 0] 31))=W∧Below w.heap.size w W∧Boxes W w.heap.size (w.heap.size+1) p s∧Blk W (w.heap.size+2) 31 7 (fun _ => .slice .none 0 0) :=
  ⟨_,rfl,(two_below _ _ _).alloc (by simp;omega) _,(boxes_new w p s _ _).below ((Below.refl _ _).alloc (Nat.le_refl _) _),(Blk.mk' (cur:=#[.slice .none 0 0,.slice .none 0 0,.slice .none 0 0,.slice .none 0 0,.slice .none 0 0,.slice .none 0 0,.slice .none 0 0]) (by simp) rfl).congr (fun j hj=>by match j,hj with | 0,_=>rfl | 1,_=>rfl | 2,_=>rfl | 3,_=>rfl | 4,_=>rfl | 5,_=>rfl | 6,_=>rfl)⟩
 have HC:Hid (∀ wk,Below W0.heap.size W0 wk→Boxes wk w.heap.size (w.heap.size+1) p s∧p.At wk∧s.At wk∧Below w.heap.size w wk∧Blk wk (w.heap.size+2) 31 7 (fun _ => .slice .none 0 0)):=fun wk h=>⟨X0.below h,(hp.below hWB).below h,(hs.below hWB).below h,hWB.trans (h.mono hWB.size),Z0.below h⟩
 have HW:Hid (((w.alloc (.cells #[.slice p.ab p.nb p.cb,.slice p.sa p.ns p.cs] 25)).alloc (.cells #[.slice s.on.a s.on.n s.on.c,.slice s.os.a s.os.n s.os.c,.slice s.hs.a s.hs.n s.hs.c,.slice s.ms.a s.ms.n s.ms.c,.slice s.si.a s.si.n s.si.c,.slice s.so.a s.so.n s.so.c,.slice s.sf.a s.sf.n s.sf.c] 31)).alloc (.cells #[.slice .none 0 0,.slice .none 0 0,.slice .none 0 0,.slice .none 0 0,.slice .none 0 0,.slice .none 0 0,.slice .none 0 0] 31)=W0):=hW
 have leb:=hp.leb
 have capb0:=hp.capb
 have les:=hp.les
 have caps0:=hp.caps
 have capb:=capb0
 have caps:=caps0
 have zlt0:=Z0.lt
 unfold maxLen at capb caps
 clear hW X0 Z0 hp hs
 unfold Pl.val St.val
 go_enter Tryz.func41,Tryz.ntmps41
 go_wp2_with fail
 rw [HW.out]
 obtain ⟨X,hpk,hsk,hBw,hz⟩:=HC.out W0 (Below.refl _ _)
 refine (stateCheck_any p s W0 hpk hsk).mono ?_
 rintro e w1 ⟨rfl,hB⟩
 clear X hpk hsk hBw hz HW
 obtain ⟨⟨⟨l1,d0,d1⟩,l2,c0,c1,c2,c3,c4,c5,c6⟩,hpk,hsk,hBw,hz⟩:=HC.out w1 hB
 have hnb:p.nb≤maxLen:=Nat.le_trans leb capb0
 have hns:p.ns≤maxLen:=Nat.le_trans les caps0
 by_cases h0:stateE p s=0
 ·have H0:Hid (stateE p s=0):=h0
  have HF:Hid (Formed p s):=(rightT h0).fm
  rw [h0]
  clear h0
  cases k1:inB bin 0 ((p.nb:Int) - 1)
  ·have HX:Hid (recvE p s bin good n=3):=recvE_range H0.out (by rw [k1];rfl)
   clear c0 c1 c2 c3 c4 c5 c6 hpk hsk
   have zl:=hz.lt
   have zf0:=hz.frozen 0
   have zc0:=hz.cell (j:=0) (by decide)
   have zf1:=hz.frozen 1
   have zc1:=hz.cell (j:=1) (by decide)
   have zf2:=hz.frozen 2
   have zc2:=hz.cell (j:=2) (by decide)
   have zf3:=hz.frozen 3
   have zc3:=hz.cell (j:=3) (by decide)
   have zf4:=hz.frozen 4
   have zc4:=hz.cell (j:=4) (by decide)
   have zf5:=hz.frozen 5
   have zc5:=hz.cell (j:=5) (by decide)
   have zf6:=hz.frozen 6
   have zc6:=hz.cell (j:=6) (by decide)
   go_wp2_with (first | (go_at_call_of 71 (Value.int .i64 bin);refine calls_to (Has_any _ _ _ hnb) ?_) | (go_at_call_of 71 (Value.int .i64 good);refine calls_to (Has_any _ _ _ hns) ?_) | (go_at_call 63;refine calls_to (Within_any _ _ _ _) ?_))
   have KZ:=set7_blk hz (.slice .none 0 0) (.slice .none 0 0) (.slice .none 0 0) (.slice .none 0 0) (.slice .none 0 0) (.slice .none 0 0) (.slice .none 0 0)
   have hbz:=set7_below (b:=w.heap.size+2) hBw (by omega) (.slice .none 0 0) (.slice .none 0 0) (.slice .none 0 0) (.slice .none 0 0) (.slice .none 0 0) (.slice .none 0 0) (.slice .none 0 0)
   unfold set7 at KZ hbz
   obtain ⟨c0',c1',c2',c3',c4',c5',c6'⟩:=box_cells KZ
   refine bodyPost_ret (v := .tuple #[noneS.val,.int .i64 3]) (by simp [results,Tryz.results41,go_sem,noneS,St.val,c0',c1',c2',c3',c4',c5',c6']) rfl ?_
   exact ⟨noneS,by rw [HX.out];rfl,noneS_at _,⟨fun h=>absurd h (by rw [HX.out];decide),fun _=>⟨rfl,rfl,rfl,rfl,rfl,rfl,rfl⟩⟩,fun h=>absurd h (by rw [HX.out];decide),hbz⟩
  cases k2:inB good 0 ((p.ns:Int) - 1)
  ·have HX:Hid (recvE p s bin good n=3):=recvE_range H0.out (by rw [k1,k2];rfl)
   clear c0 c1 c2 c3 c4 c5 c6 hpk hsk
   have zl:=hz.lt
   have zf0:=hz.frozen 0
   have zc0:=hz.cell (j:=0) (by decide)
   have zf1:=hz.frozen 1
   have zc1:=hz.cell (j:=1) (by decide)
   have zf2:=hz.frozen 2
   have zc2:=hz.cell (j:=2) (by decide)
   have zf3:=hz.frozen 3
   have zc3:=hz.cell (j:=3) (by decide)
   have zf4:=hz.frozen 4
   have zc4:=hz.cell (j:=4) (by decide)
   have zf5:=hz.frozen 5
   have zc5:=hz.cell (j:=5) (by decide)
   have zf6:=hz.frozen 6
   have zc6:=hz.cell (j:=6) (by decide)
   go_wp2_with (first | (go_at_call_of 71 (Value.int .i64 bin);refine calls_to (Has_any _ _ _ hnb) ?_) | (go_at_call_of 71 (Value.int .i64 good);refine calls_to (Has_any _ _ _ hns) ?_) | (go_at_call 63;refine calls_to (Within_any _ _ _ _) ?_))
   have KZ:=set7_blk hz (.slice .none 0 0) (.slice .none 0 0) (.slice .none 0 0) (.slice .none 0 0) (.slice .none 0 0) (.slice .none 0 0) (.slice .none 0 0)
   have hbz:=set7_below (b:=w.heap.size+2) hBw (by omega) (.slice .none 0 0) (.slice .none 0 0) (.slice .none 0 0) (.slice .none 0 0) (.slice .none 0 0) (.slice .none 0 0) (.slice .none 0 0)
   unfold set7 at KZ hbz
   obtain ⟨c0',c1',c2',c3',c4',c5',c6'⟩:=box_cells KZ
   refine bodyPost_ret (v := .tuple #[noneS.val,.int .i64 3]) (by simp [results,Tryz.results41,go_sem,noneS,St.val,c0',c1',c2',c3',c4',c5',c6']) rfl ?_
   exact ⟨noneS,by rw [HX.out];rfl,noneS_at _,⟨fun h=>absurd h (by rw [HX.out];decide),fun _=>⟨rfl,rfl,rfl,rfl,rfl,rfl,rfl⟩⟩,fun h=>absurd h (by rw [HX.out];decide),hbz⟩
  cases k3:inB n 1 200
  ·have HX:Hid (recvE p s bin good n=3):=recvE_range H0.out (by rw [k1,k2,k3];rfl)
   clear c0 c1 c2 c3 c4 c5 c6 hpk hsk
   have zl:=hz.lt
   have zf0:=hz.frozen 0
   have zc0:=hz.cell (j:=0) (by decide)
   have zf1:=hz.frozen 1
   have zc1:=hz.cell (j:=1) (by decide)
   have zf2:=hz.frozen 2
   have zc2:=hz.cell (j:=2) (by decide)
   have zf3:=hz.frozen 3
   have zc3:=hz.cell (j:=3) (by decide)
   have zf4:=hz.frozen 4
   have zc4:=hz.cell (j:=4) (by decide)
   have zf5:=hz.frozen 5
   have zc5:=hz.cell (j:=5) (by decide)
   have zf6:=hz.frozen 6
   have zc6:=hz.cell (j:=6) (by decide)
   go_wp2_with (first | (go_at_call_of 71 (Value.int .i64 bin);refine calls_to (Has_any _ _ _ hnb) ?_) | (go_at_call_of 71 (Value.int .i64 good);refine calls_to (Has_any _ _ _ hns) ?_) | (go_at_call 63;refine calls_to (Within_any _ _ _ _) ?_))
   have KZ:=set7_blk hz (.slice .none 0 0) (.slice .none 0 0) (.slice .none 0 0) (.slice .none 0 0) (.slice .none 0 0) (.slice .none 0 0) (.slice .none 0 0)
   have hbz:=set7_below (b:=w.heap.size+2) hBw (by omega) (.slice .none 0 0) (.slice .none 0 0) (.slice .none 0 0) (.slice .none 0 0) (.slice .none 0 0) (.slice .none 0 0) (.slice .none 0 0)
   unfold set7 at KZ hbz
   obtain ⟨c0',c1',c2',c3',c4',c5',c6'⟩:=box_cells KZ
   refine bodyPost_ret (v := .tuple #[noneS.val,.int .i64 3]) (by simp [results,Tryz.results41,go_sem,noneS,St.val,c0',c1',c2',c3',c4',c5',c6']) rfl ?_
   exact ⟨noneS,by rw [HX.out];rfl,noneS_at _,⟨fun h=>absurd h (by rw [HX.out];decide),fun _=>⟨rfl,rfl,rfl,rfl,rfl,rfl,rfl⟩⟩,fun h=>absurd h (by rw [HX.out];decide),hbz⟩
  obtain ⟨b,rfl⟩:=Int.eq_ofNat_of_zero_le (inB_true k1).1
  obtain ⟨g,rfl⟩:=Int.eq_ofNat_of_zero_le (inB_true k2).1
  have hb:b<p.nb:=by have:=(inB_true k1).2;omega
  have hg:g<p.ns:=by have:=(inB_true k2).2;omega
  have hn:=inB_true k3
  have K3:Hid (inB n 1 200=true):=k3
  have pz:=HF.out.sh.pl.sizes g hg
  have fb:=freeZ_bd HF.out hb
  have mb:=mul_bd (a:=n) (b:=p.zs g) ⟨by omega,hn.2⟩ pz
  have qb:(0:Int)≤(b:Int):=by omega
  have qg:(0:Int)≤(g:Int):=by omega
  have HPS:Hid (p.At w1∧s.At w1):=⟨hpk,hsk⟩
  clear hpk hsk
  go_wp2_with (first | (go_at_call_of 71 (Value.int .i64 (b:Int));refine calls_to (Has_any _ _ _ hnb) ?_) | (go_at_call_of 71 (Value.int .i64 (g:Int));refine calls_to (Has_any _ _ _ hns) ?_) | (go_at_call 63;refine calls_to (Within_any _ _ _ _) ?_))
  refine (Free_any p s b w1 HPS.out.1 HPS.out.2).mono ?_
  rintro e w2 ⟨rfl,hB2⟩
  have hB:=hB.trans (hB2.mono hB.size)
  clear l1 d0 d1 l2 c0 c1 c2 c3 c4 c5 c6 hBw hz hB2 HPS
  obtain ⟨⟨⟨l1,d0,d1⟩,l2,c0,c1,c2,c3,c4,c5,c6⟩,hpk,hsk,hBw,hz⟩:=HC.out w2 hB
  obtain ⟨bz,oz,hsa,hbz,y0⟩:=hpk.sizes g hg
  have HSA:Hid (p.sa=some ⟨bz,oz,none⟩∧p.At w2∧s.At w2):=⟨hsa,hpk,hsk⟩
  rw [hsa] at d1
  have HFV:Hid (freeV p s b=freeZ p s b∧freeE p s b=0):=by
   have hu:usedE p s.on b=0:=by unfold usedE;rw [HF.out.sh0];simp only [beq_self_eq_true,if_true];rw [inB_mk (by have:=HF.out.sh.n;omega)];rfl
   have e:freeE p s b=0:=by unfold freeE;rw [if_pos H0.out,hu]
   exact ⟨by unfold freeV;rw [e,if_pos rfl];rfl,e⟩
  rw [HFV.out.1,HFV.out.2]
  have HT5:Hid (freeZ p s b<n*p.zs g→recvE p s b g n=5):=fun h=>recvE_full H0.out hb hg K3.out h
  have HT2:Hid (¬ freeZ p s b<n*p.zs g→(200<lyingZ s b g+n∨1048576<s.si.z g+n)→recvE p s b g n=2):=fun h h2=>recvE_many H0.out hb hg K3.out h h2
  have HT0:Hid (¬ freeZ p s b<n*p.zs g→¬ (200<lyingZ s b g+n∨1048576<s.si.z g+n)→recvE p s b g n=0):=fun h h2=>recvE_ok H0.out hb hg K3.out h h2
  clear HFV k1 k2 hsa hpk hsk
  generalize freeZ p s b=FR at *
  generalize p.zs g=PZ at *
  by_cases h5:FR<n*PZ
  ·have HX:Hid (recvE p s b g n=5):=HT5.out h5
   clear c0 c1 c2 c3 c4 c5 c6
   have zl:=hz.lt
   have zf0:=hz.frozen 0
   have zc0:=hz.cell (j:=0) (by decide)
   have zf1:=hz.frozen 1
   have zc1:=hz.cell (j:=1) (by decide)
   have zf2:=hz.frozen 2
   have zc2:=hz.cell (j:=2) (by decide)
   have zf3:=hz.frozen 3
   have zc3:=hz.cell (j:=3) (by decide)
   have zf4:=hz.frozen 4
   have zc4:=hz.cell (j:=4) (by decide)
   have zf5:=hz.frozen 5
   have zc5:=hz.cell (j:=5) (by decide)
   have zf6:=hz.frozen 6
   have zc6:=hz.cell (j:=6) (by decide)
   go_wp2_with fail
   have KZ:=set7_blk hz (.slice .none 0 0) (.slice .none 0 0) (.slice .none 0 0) (.slice .none 0 0) (.slice .none 0 0) (.slice .none 0 0) (.slice .none 0 0)
   have hbz:=set7_below (b:=w.heap.size+2) hBw (by omega) (.slice .none 0 0) (.slice .none 0 0) (.slice .none 0 0) (.slice .none 0 0) (.slice .none 0 0) (.slice .none 0 0) (.slice .none 0 0)
   unfold set7 at KZ hbz
   obtain ⟨c0',c1',c2',c3',c4',c5',c6'⟩:=box_cells KZ
   refine bodyPost_ret (v := .tuple #[noneS.val,.int .i64 5]) (by simp [results,Tryz.results41,go_sem,noneS,St.val,c0',c1',c2',c3',c4',c5',c6']) rfl ?_
   exact ⟨noneS,by rw [HX.out];rfl,noneS_at _,⟨fun h=>absurd h (by rw [HX.out];decide),fun _=>⟨rfl,rfl,rfl,rfl,rfl,rfl,rfl⟩⟩,fun h=>absurd h (by rw [HX.out];decide),hbz⟩
  ·have d5:decide (FR<n*PZ)=false:=by simp;omega
   have hz0:=hz.lt
   clear hz
   go_wp2_with fail
   refine (Lying_any p s b g w2 HSA.out.2.2 HF.out hb hg).mono ?_
   rintro e w3 ⟨rfl,hB2⟩
   have hB:=hB.trans (hB2.mono hB.size)
   clear l1 d0 d1 l2 c0 c1 c2 c3 c4 c5 c6 hBw hB2 HSA y0 hz0 hbz d5
   obtain ⟨⟨⟨l1,d0,d1⟩,l2,c0,c1,c2,c3,c4,c5,c6⟩,hpk,hsk,hBw,hz⟩:=HC.out w3 hB
   obtain ⟨bi,oi,hia,hbi,y2⟩:=hsk.si.ints g (by rw [HF.out.sin];exact hg)
   have v5:=hsk.si.le
   have v6:=hsk.si.cap
   unfold maxLen at v6
   have u3:=HF.out.sib g hg
   have si1:g<s.si.n:=by rw [HF.out.sin];exact hg
   have ly:0≤lyingZ s b g∧lyingZ s b g≤1800:=by
    have hon:b<s.on.n:=by rw [HF.out.sh.n];exact hb
    have u1:=HF.out.sh.num b hon g hg
    have u2:=comingTo_bd (s:=s) (b:=b) (g:=g) HF.out.moveN
    have ms8:=HF.out.ms8
    unfold lyingZ
    omega
   have HSA:Hid (p.At w3∧s.At w3∧s.si.a=some ⟨bi,oi,none⟩):=⟨hpk,hsk,hia⟩
   have HT2':=HT2.out h5
   have HT0':=HT0.out h5
   have HRE:Hid (recvT s b g n=setIn (setOn s b g ((s.on.r b).z g+n)) g (s.si.z g+n)):=rfl
   clear HT2 HT0
   have HLY:Hid (lyingZ s b g=(s.on.r b).z g+comingTo s b g s.ms.n):=rfl
   clear hpk hsk
   generalize lyingZ s b g=LY at *
   generalize hSI:s.si.z g=SI at *
   have HSI:Hid (s.si.z g=SI):=hSI
   clear hSI
   rw [hia] at c4
   clear hia
   cases d6:decide (200 - LY<n)
   ·cases d7:decide (1048576 - SI<n)
    ·have HX:Hid (recvE p s b g n=0):=HT0' (by simp at d6 d7;omega)
     have hput:putE p s.on b g n=0:=by
      have hon:b<s.on.n:=by rw [HF.out.sh.n];exact hb
      have hu:shelfErr p s.on b g=0:=by rw [shelfErr_eq HF.out.sh0,inB_mk (by omega),inB_mk (by omega)];rfl
      have u1:=HF.out.sh.num b hon g hg
      have u2:=(comingTo_bd (s:=s) (b:=b) (g:=g) HF.out.moveN).1
      have ee:=HLY.out
      have hi:inB n (-((s.on.r b).z g)) (200 - (s.on.r b).z g)=true:=inB_mk (by simp at d6;omega)
      simp [putE,hu,hi]
     have HPUT:Hid (putE p s.on b g n=0):=hput
     have hz0:=hz.lt
     have hcs:=copyState_any p s w3 HSA.out.2.1 HF.out
     rw [St.val,HSA.out.2.2] at hcs
     have HCS:Hid _:=hcs
     clear HT2' HT0' hput hcs hz
     go_wp2_with fail
     refine Calls.mono HCS.out ?_
     rintro e w4 ⟨o,rfl,hsame,hown,hB2⟩
     clear HCS
     have hB4:=hB.trans (hB2.mono hB.size)
     have q3:=hB.size
     have HLOW:Hid (w.heap.size≤w3.heap.size):=Nat.le_trans (HC.out _ (Below.refl _ _)).2.2.2.1.size hB.size
     have q4:=hB2.size
     have HIN:Hid (o.si.n=p.ns):=hsame.si.1.trans HF.out.sin
     have HSQ:Hid (o.si.z g=SI):=(hsame.si.2 g (by rw [HIN.out];exact hg)).trans HSI.out
     obtain ⟨W5,hW5,hWB5,K5⟩:∃ W,w4.alloc (.cells #[.slice o.on.a o.on.n o.on.c,.slice o.os.a o.os.n o.os.c,.slice o.hs.a o.hs.n o.hs.c,.slice o.ms.a o.ms.n o.ms.c,.slice o.si.a o.si.n o.si.c,.slice o.so.a o.so.n o.so.c,.slice o.sf.a o.sf.n o.sf.c] 31)=W∧Below w4.heap.size w4 W∧Blk W w4.heap.size 31 7 (fun j=>o.cells.getD j default):=⟨_,rfl,(Below.refl _ _).alloc (Nat.le_refl _) _,Blk.mk' rfl rfl⟩
     have HW5:Hid (w4.alloc (.cells #[.slice o.on.a o.on.n o.on.c,.slice o.os.a o.os.n o.os.c,.slice o.hs.a o.hs.n o.hs.c,.slice o.ms.a o.ms.n o.ms.c,.slice o.si.a o.si.n o.si.c,.slice o.so.a o.so.n o.so.c,.slice o.sf.a o.sf.n o.sf.c] 31)=W5):=hW5
     have hB5:=hB4.trans (hWB5.mono hB4.size)
     have hown5:=OwnS.below hown hWB5
     clear l1 d0 d1 l2 c0 c1 c2 c3 c4 c5 c6 hBw HSA hz0 hbi y2
     obtain ⟨⟨⟨l1,d0,d1⟩,l2,c0,-⟩,hpk,hsk,hBw,-⟩:=HC.out W5 hB5
     have HAT:Hid (p.At W5∧s.At W5):=⟨hpk,hsk⟩
     have HOW:Hid (OwnS w3.heap.size W5 o∧Blk W5 w4.heap.size 31 7 (fun j=>o.cells.getD j default)∧SameT o s):=⟨hown5,K5,hsame⟩
     have l1e:=l1
     have l2e:=l2
     have d0e:=d0
     have d1e:=d1
     have c0e:=c0
     rw [← HW5.out] at l1e l2e d0e d1e c0e
     clear hown hown5 K5 hsame hpk hsk hBw l1 l2 d0 d1 c0 hW5
     simp only [St.val]
     go_wp2_with fail
     rw [HW5.out]
     clear l1e l2e d0e d1e c0e HW5
     refine (PutOwn_any p s.on b g n W5 HAT.out.1 HAT.out.2.on HPUT.out).mono ?_
     rintro e w6 ⟨r,rfl,hR,hrn,hrz,hB6⟩
     obtain ⟨hO5,K5,hsame⟩:=HOW.out
     have q5:=hWB5.size
     have q6:=hB6.size
     have hB6':=hB5.trans (hB6.mono hB5.size)
     have hOa:=OwnS.swap hO5 hB6 hR (Nat.le_refl _) (by omega)
     have K6:=K5.below hB6
     obtain ⟨Gi,hia,iA,i1,i2,ik⟩:=hOa.si
     have hOb:=hOa.box K6 0 (.slice r.a r.n r.c)
     have K7:=K6.set 0 (.slice r.a r.n r.c)
     have hB7:=hB6'.setCell (p:=⟨w4.heap.size,0,none⟩) (by show W0.heap.size≤w4.heap.size;omega) (.slice r.a r.n r.c)
     obtain ⟨Gi',hia',-,-,-,jk⟩:=hOb.si
     rw [show (⟨r,o.os,o.hs,o.ms,o.si,o.so,o.sf⟩:St).si=o.si from rfl] at hia hia' jk i1 i2
     rw [hia] at hia'
     simp only [Option.some.injEq,Addr.mk.injEq,and_true] at hia'
     subst hia'
     have hOc:=hOb.setIn (show (⟨r,o.os,o.hs,o.ms,o.si,o.so,o.sf⟩:St).si.a=some ⟨Gi,0,none⟩ from hia) g (SI+n)
     have K8:=K7.other (a:=⟨Gi,g,none⟩) (Blk.ne2 K7 jk (by decide)) (.int .i64 (SI+n))
     have hB8:=hB7.setCell (p:=⟨Gi,g,none⟩) (by show W0.heap.size≤Gi;omega) (.int .i64 (SI+n))
     have HEND:Hid (Below W0.heap.size W0 ((w6.setCell ⟨w4.heap.size,0,none⟩ (.slice r.a r.n r.c)).setCell ⟨Gi,g,none⟩ (.int .i64 (SI+n)))∧OwnS w3.heap.size ((w6.setCell ⟨w4.heap.size,0,none⟩ (.slice r.a r.n r.c)).setCell ⟨Gi,g,none⟩ (.int .i64 (SI+n))) (setIn ⟨r,o.os,o.hs,o.ms,o.si,o.so,o.sf⟩ g (SI+n))∧Blk ((w6.setCell ⟨w4.heap.size,0,none⟩ (.slice r.a r.n r.c)).setCell ⟨Gi,g,none⟩ (.int .i64 (SI+n))) w4.heap.size 31 7 (fun i=>if i=0 then .slice r.a r.n r.c else o.cells.getD i default)):=⟨hB8,hOc,K8⟩
     have HSM:Hid (SameT (setIn ⟨r,o.os,o.hs,o.ms,o.si,o.so,o.sf⟩ g (SI+n)) (recvT s b g n)):=by
      show SameT _ (recvT s b g n)
      rw [HRE.out]
      refine setIn_same (s:=⟨r,o.os,o.hs,o.ms,o.si,o.so,o.sf⟩) (t:=setOn s b g ((s.on.r b).z g+n)) ⟨⟨hrn,fun i hi => ?_⟩,hsame.os,hsame.hs,hsame.ms,hsame.si,hsame.so,hsame.sf⟩ _ _
      have hi':i<s.on.n:=by rw [← hrn];exact hi
      have y:=hrz i hi'
      show (r.r i).n=(if i=b then setRw (s.on.r i) g ((s.on.r b).z g+n) else s.on.r i).n∧∀ j,j<(r.r i).n→(r.r i).z j=(if i=b then setRw (s.on.r i) g ((s.on.r b).z g+n) else s.on.r i).z j
      by_cases hib:i=b
      ·subst hib
       rw [if_pos rfl]
       refine ⟨y.1,fun j hj => ?_⟩
       rw [y.2 j (by rw [← y.1];exact hj)]
       show putZ s.on i g n i j=if j=g then (s.on.r i).z g+n else (s.on.r i).z j
       unfold putZ
       by_cases hjg:j=g
       ·subst hjg;simp
       ·simp [hjg]
      ·rw [if_neg hib]
       refine ⟨y.1,fun j hj => ?_⟩
       rw [y.2 j (by rw [← y.1];exact hj)]
       unfold putZ
       simp [hib]
     have z1:=K6.lt
     have z2:=K6.frozen 0
     have z3:=K6.cell (j:=0) (by decide)
     have y4:(w6.setCell ⟨w4.heap.size,0,none⟩ (.slice r.a r.n r.c)).cell? ⟨w4.heap.size,4,none⟩=some (.slice o.si.a o.si.n o.si.c):=K7.cell (j:=4) (by decide)
     rw [hia,HIN.out] at y4
     have y5:(w6.setCell ⟨w4.heap.size,0,none⟩ (.slice r.a r.n r.c)).cell? ⟨Gi,g,none⟩=some (.int .i64 (o.si.z g)):=jk.cell (j:=g) (by rw [HIN.out];exact hg)
     rw [HSQ.out] at y5
     have y6:=jk.lt
     have y7:=jk.frozen g
     have y8:=K7.lt
     have HIA:Hid (o.si.a=some ⟨Gi,0,none⟩):=hia
     rw [HIN.out] at i1
     unfold maxLen at i2
     obtain ⟨-,-,-,hBw8,hz8⟩:=HC.out _ hB8
     have m8:=K8.lt
     have e0:((w6.setCell ⟨w4.heap.size,0,none⟩ (.slice r.a r.n r.c)).setCell ⟨Gi,g,none⟩ (.int .i64 (SI+n))).cell? ⟨w4.heap.size,0,none⟩=some (.slice r.a r.n r.c):=K8.cell (j:=0) (by decide)
     have e1:((w6.setCell ⟨w4.heap.size,0,none⟩ (.slice r.a r.n r.c)).setCell ⟨Gi,g,none⟩ (.int .i64 (SI+n))).cell? ⟨w4.heap.size,1,none⟩=some (.slice o.os.a o.os.n o.os.c):=K8.cell (j:=1) (by decide)
     have e2:((w6.setCell ⟨w4.heap.size,0,none⟩ (.slice r.a r.n r.c)).setCell ⟨Gi,g,none⟩ (.int .i64 (SI+n))).cell? ⟨w4.heap.size,2,none⟩=some (.slice o.hs.a o.hs.n o.hs.c):=K8.cell (j:=2) (by decide)
     have e3:((w6.setCell ⟨w4.heap.size,0,none⟩ (.slice r.a r.n r.c)).setCell ⟨Gi,g,none⟩ (.int .i64 (SI+n))).cell? ⟨w4.heap.size,3,none⟩=some (.slice o.ms.a o.ms.n o.ms.c):=K8.cell (j:=3) (by decide)
     have e4:((w6.setCell ⟨w4.heap.size,0,none⟩ (.slice r.a r.n r.c)).setCell ⟨Gi,g,none⟩ (.int .i64 (SI+n))).cell? ⟨w4.heap.size,4,none⟩=some (.slice o.si.a o.si.n o.si.c):=K8.cell (j:=4) (by decide)
     have e5:((w6.setCell ⟨w4.heap.size,0,none⟩ (.slice r.a r.n r.c)).setCell ⟨Gi,g,none⟩ (.int .i64 (SI+n))).cell? ⟨w4.heap.size,5,none⟩=some (.slice o.so.a o.so.n o.so.c):=K8.cell (j:=5) (by decide)
     have e6:((w6.setCell ⟨w4.heap.size,0,none⟩ (.slice r.a r.n r.c)).setCell ⟨Gi,g,none⟩ (.int .i64 (SI+n))).cell? ⟨w4.heap.size,6,none⟩=some (.slice o.sf.a o.sf.n o.sf.c):=K8.cell (j:=6) (by decide)
     have zl:=hz8.lt
     have zf0:=hz8.frozen 0
     have zc0:=hz8.cell (j:=0) (by decide)
     have zf1:=hz8.frozen 1
     have zc1:=hz8.cell (j:=1) (by decide)
     have zf2:=hz8.frozen 2
     have zc2:=hz8.cell (j:=2) (by decide)
     have zf3:=hz8.frozen 3
     have zc3:=hz8.cell (j:=3) (by decide)
     have zf4:=hz8.frozen 4
     have zc4:=hz8.cell (j:=4) (by decide)
     have zf5:=hz8.frozen 5
     have zc5:=hz8.cell (j:=5) (by decide)
     have zf6:=hz8.frozen 6
     have zc6:=hz8.cell (j:=6) (by decide)
     clear hR hrn hrz hO5 K5 K6 K7 K8 hOa hOb hOc hB7 hB8 hB6 hB6' ik jk hsame hia hB5 hWB5 hBw8 hz8
     simp only [Sh.val]
     go_wp2_with fail
     obtain ⟨hBt,hOt,hKt⟩:=HEND.out
     obtain ⟨_,_,_,hBw,hz⟩:=HC.out _ hBt
     have KZ:=set7_blk hz (.slice r.a r.n r.c) (.slice o.os.a o.os.n o.os.c) (.slice o.hs.a o.hs.n o.hs.c) (.slice o.ms.a o.ms.n o.ms.c) (.slice o.si.a o.si.n o.si.c) (.slice o.so.a o.so.n o.so.c) (.slice o.sf.a o.sf.n o.sf.c)
     have hbz:=set7_below (b:=w.heap.size+2) hBw (by omega) (.slice r.a r.n r.c) (.slice o.os.a o.os.n o.os.c) (.slice o.hs.a o.hs.n o.hs.c) (.slice o.ms.a o.ms.n o.ms.c) (.slice o.si.a o.si.n o.si.c) (.slice o.so.a o.so.n o.so.c) (.slice o.sf.a o.sf.n o.sf.c)
     have hOz:=OwnS.set7 hOt hz (.slice r.a r.n r.c) (.slice o.os.a o.os.n o.os.c) (.slice o.hs.a o.hs.n o.hs.c) (.slice o.ms.a o.ms.n o.ms.c) (.slice o.si.a o.si.n o.si.c) (.slice o.so.a o.so.n o.so.c) (.slice o.sf.a o.sf.n o.sf.c)
     unfold set7 at KZ hbz hOz
     obtain ⟨c0',c1',c2',c3',c4',c5',c6'⟩:=box_cells KZ
     refine bodyPost_ret (v := .tuple #[(setIn ⟨r,o.os,o.hs,o.ms,o.si,o.so,o.sf⟩ g (SI+n)).val,.int .i64 0]) (by simp [results,Tryz.results41,go_sem,setIn,setRw,St.val,c0',c1',c2',c3',c4',c5',c6']) rfl ?_
     exact ⟨setIn ⟨r,o.os,o.hs,o.ms,o.si,o.so,o.sf⟩ g (SI+n),by rw [HX.out];rfl,hOz.at,⟨fun _=>HSM.out,fun h=>absurd HX.out h⟩,fun _=>hOz.mono HLOW.out,hbz⟩
    ·have HX:Hid (recvE p s b g n=2):=HT2' (Or.inr (by simp at d7;omega))
     clear HT2' HT0'
     have zl:=hz.lt
     have zf0:=hz.frozen 0
     have zc0:=hz.cell (j:=0) (by decide)
     have zf1:=hz.frozen 1
     have zc1:=hz.cell (j:=1) (by decide)
     have zf2:=hz.frozen 2
     have zc2:=hz.cell (j:=2) (by decide)
     have zf3:=hz.frozen 3
     have zc3:=hz.cell (j:=3) (by decide)
     have zf4:=hz.frozen 4
     have zc4:=hz.cell (j:=4) (by decide)
     have zf5:=hz.frozen 5
     have zc5:=hz.cell (j:=5) (by decide)
     have zf6:=hz.frozen 6
     have zc6:=hz.cell (j:=6) (by decide)
     go_wp2_with fail
     have KZ:=set7_blk hz (.slice .none 0 0) (.slice .none 0 0) (.slice .none 0 0) (.slice .none 0 0) (.slice .none 0 0) (.slice .none 0 0) (.slice .none 0 0)
     have hbz:=set7_below (b:=w.heap.size+2) hBw (by omega) (.slice .none 0 0) (.slice .none 0 0) (.slice .none 0 0) (.slice .none 0 0) (.slice .none 0 0) (.slice .none 0 0) (.slice .none 0 0)
     unfold set7 at KZ hbz
     obtain ⟨c0',c1',c2',c3',c4',c5',c6'⟩:=box_cells KZ
     refine bodyPost_ret (v := .tuple #[noneS.val,.int .i64 2]) (by simp [results,Tryz.results41,go_sem,noneS,St.val,c0',c1',c2',c3',c4',c5',c6']) rfl ?_
     exact ⟨noneS,by rw [HX.out];rfl,noneS_at _,⟨fun h=>absurd h (by rw [HX.out];decide),fun _=>⟨rfl,rfl,rfl,rfl,rfl,rfl,rfl⟩⟩,fun h=>absurd h (by rw [HX.out];decide),hbz⟩
   ·have HX:Hid (recvE p s b g n=2):=HT2' (Or.inl (by simp at d6;omega))
    clear HT2' HT0'
    have zl:=hz.lt
    have zf0:=hz.frozen 0
    have zc0:=hz.cell (j:=0) (by decide)
    have zf1:=hz.frozen 1
    have zc1:=hz.cell (j:=1) (by decide)
    have zf2:=hz.frozen 2
    have zc2:=hz.cell (j:=2) (by decide)
    have zf3:=hz.frozen 3
    have zc3:=hz.cell (j:=3) (by decide)
    have zf4:=hz.frozen 4
    have zc4:=hz.cell (j:=4) (by decide)
    have zf5:=hz.frozen 5
    have zc5:=hz.cell (j:=5) (by decide)
    have zf6:=hz.frozen 6
    have zc6:=hz.cell (j:=6) (by decide)
    go_wp2_with fail
    have KZ:=set7_blk hz (.slice .none 0 0) (.slice .none 0 0) (.slice .none 0 0) (.slice .none 0 0) (.slice .none 0 0) (.slice .none 0 0) (.slice .none 0 0)
    have hbz:=set7_below (b:=w.heap.size+2) hBw (by omega) (.slice .none 0 0) (.slice .none 0 0) (.slice .none 0 0) (.slice .none 0 0) (.slice .none 0 0) (.slice .none 0 0) (.slice .none 0 0)
    unfold set7 at KZ hbz
    obtain ⟨c0',c1',c2',c3',c4',c5',c6'⟩:=box_cells KZ
    refine bodyPost_ret (v := .tuple #[noneS.val,.int .i64 2]) (by simp [results,Tryz.results41,go_sem,noneS,St.val,c0',c1',c2',c3',c4',c5',c6']) rfl ?_
    exact ⟨noneS,by rw [HX.out];rfl,noneS_at _,⟨fun h=>absurd h (by rw [HX.out];decide),fun _=>⟨rfl,rfl,rfl,rfl,rfl,rfl,rfl⟩⟩,fun h=>absurd h (by rw [HX.out];decide),hbz⟩
 ·have HX:Hid (recvE p s bin good n=stateE p s):=recvE_state h0
  clear hpk hsk c0 c1 c2 c3 c4 c5 c6
  have zl:=hz.lt
  have zf0:=hz.frozen 0
  have zc0:=hz.cell (j:=0) (by decide)
  have zf1:=hz.frozen 1
  have zc1:=hz.cell (j:=1) (by decide)
  have zf2:=hz.frozen 2
  have zc2:=hz.cell (j:=2) (by decide)
  have zf3:=hz.frozen 3
  have zc3:=hz.cell (j:=3) (by decide)
  have zf4:=hz.frozen 4
  have zc4:=hz.cell (j:=4) (by decide)
  have zf5:=hz.frozen 5
  have zc5:=hz.cell (j:=5) (by decide)
  have zf6:=hz.frozen 6
  have zc6:=hz.cell (j:=6) (by decide)
  go_wp2_with fail
  have KZ:=set7_blk hz (.slice .none 0 0) (.slice .none 0 0) (.slice .none 0 0) (.slice .none 0 0) (.slice .none 0 0) (.slice .none 0 0) (.slice .none 0 0)
  have hbz:=set7_below (b:=w.heap.size+2) hBw (by omega) (.slice .none 0 0) (.slice .none 0 0) (.slice .none 0 0) (.slice .none 0 0) (.slice .none 0 0) (.slice .none 0 0) (.slice .none 0 0)
  unfold set7 at KZ hbz
  obtain ⟨c0',c1',c2',c3',c4',c5',c6'⟩:=box_cells KZ
  refine bodyPost_ret (v := .tuple #[noneS.val,.int .i64 (stateE p s)]) (by simp [results,Tryz.results41,go_sem,noneS,St.val,c0',c1',c2',c3',c4',c5',c6']) rfl ?_
  exact ⟨noneS,by rw [HX.out];rfl,noneS_at _,⟨fun h=>absurd h (by rw [HX.out];exact h0),fun _=>⟨rfl,rfl,rfl,rfl,rfl,rfl,rfl⟩⟩,fun h=>absurd h (by rw [HX.out];exact h0),hbz⟩
def outL (p:Pl) (x:Hd):Bool := !(inB x.o 0 ((p.ns:Int) - 1)) || !(inB x.l 1 200)
def begunL (x:Hd):Bool:=x.b !=0||x.n !=0
def enterE (p:Pl) (s:St) (l:Hs):Int :=
 if stateE p s=0 then (if s.os.n=4∨¬ (1≤l.n∧l.n≤3) then 2 else if anyB l.n (fun j=>outL p (l.z j)) then 3 else if anyB l.n (fun j=>begunL (l.z j)) then 1 else 0) else stateE p s
def enterT (s:St) (l:Hs):St:=⟨s.on,⟨s.os.a,s.os.n+1,s.os.c,fun i=>if i=s.os.n then ⟨0,l⟩ else s.os.z i⟩,s.hs,s.ms,s.si,s.so,s.sf⟩
theorem enterE_state {p:Pl} {s:St} {l:Hs} (h:¬ stateE p s=0):enterE p s l=stateE p s:=by unfold enterE;rw [if_neg h]
theorem enterE_many {p:Pl} {s:St} {l:Hs} (h:stateE p s=0) (h1:s.os.n=4∨¬ (1≤l.n∧l.n≤3)):enterE p s l=2:=by unfold enterE;rw [if_pos h,if_pos h1]
theorem enterE_range {p:Pl} {s:St} {l:Hs} (h:stateE p s=0) (h1:¬ (s.os.n=4∨¬ (1≤l.n∧l.n≤3))) (h2:anyB l.n (fun j=>outL p (l.z j))=true):enterE p s l=3:=by unfold enterE;rw [if_pos h,if_neg h1,if_pos h2]
theorem enterE_form {p:Pl} {s:St} {l:Hs} (h:stateE p s=0) (h1:¬ (s.os.n=4∨¬ (1≤l.n∧l.n≤3))) (h2:¬ anyB l.n (fun j=>outL p (l.z j))=true) (h3:anyB l.n (fun j=>begunL (l.z j))=true):enterE p s l=1:=by unfold enterE;rw [if_pos h,if_neg h1,if_neg h2,if_pos h3]
theorem enterE_ok {p:Pl} {s:St} {l:Hs} (h:stateE p s=0) (h1:¬ (s.os.n=4∨¬ (1≤l.n∧l.n≤3))) (h2:¬ anyB l.n (fun j=>outL p (l.z j))=true) (h3:¬ anyB l.n (fun j=>begunL (l.z j))=true):enterE p s l=0:=by unfold enterE;rw [if_pos h,if_neg h1,if_neg h2,if_neg h3]
set_option maxHeartbeats 1000000 in
theorem Enter1_any (B:Nat) (p:Pl) (x:Hd) (w:World) (les:p.ns≤p.cs) (caps:p.cs≤maxLen) (hB:B<w.heap.size) (c1:w.cell? ⟨B,1,none⟩=some (.slice p.sa p.ns p.cs)) :
  Calls Tryz.prog 92 #[x.val,.pointer (some ⟨B,0,none⟩)] w fun e w'=>e = .returned (.bool (outL p x))∧Below w.heap.size w w':=by
 have hns:p.ns≤maxLen:=Nat.le_trans les caps
 have hB0:Below w.heap.size w (w.alloc (.cells #[.int .i64 x.o,.int .i64 x.l,.int .i64 x.b,.int .i64 x.n] 59)):=(Below.refl w.heap.size w).alloc (Nat.le_refl _) _
 have c1e:=(hB0.cell (p:=⟨B,1,none⟩) hB).trans c1
 have hBe:B<(w.alloc (.cells #[.int .i64 x.o,.int .i64 x.l,.int .i64 x.b,.int .i64 x.n] 59)).heap.size:=by have:=hB0.size;omega
 unfold outL Hd.val
 clear c1
 unfold maxLen at caps
 cases h1:inB x.o 0 ((p.ns:Int) - 1)
 all_goals
  go_enter Tryz.func92,Tryz.ntmps92
  go_wp2_with (first | (go_at_call 71;refine calls_to (Has_any _ _ _ hns) ?_) | (go_at_call 63;refine calls_to (Within_any _ _ _ _) ?_))
  go_ret
  exact ⟨by simp,hB0⟩
set_option maxHeartbeats 1000000 in
theorem Enter2_any (x:Hd) (w:World) :
  Calls Tryz.prog 93 #[x.val] w fun e w'=>e = .returned (.bool (begunL x))∧Below w.heap.size w w':=by
 have hB0:Below w.heap.size w (w.alloc (.cells #[.int .i64 x.o,.int .i64 x.l,.int .i64 x.b,.int .i64 x.n] 59)):=(Below.refl w.heap.size w).alloc (Nat.le_refl _) _
 unfold begunL Hd.val
 cases h1:(x.b !=0)
 all_goals
  go_enter Tryz.func93,Tryz.ntmps93
  go_wp2_with fail
  go_ret
  exact ⟨by simp,hB0⟩
theorem OwnS.orders {A B:Nat} {w w':World} {s:St} {os:Os} (h:OwnS A w s) (hg:Grew B 57 w w') (ho:OwnO A w' os):OwnS A w' ⟨s.on,os,s.hs,s.ms,s.si,s.so,s.sf⟩:=by
 refine ⟨?_,fun i hi=>(h.rows i hi).grew hg (by decide),h.rapart,ho,h.hs.grew hg (by decide),h.ms.grew hg (by decide),h.msr.grew hg (by decide),h.si.grew hg (by decide),h.so.grew hg (by decide),h.sf.grew hg (by decide),h.aio,h.aif,h.aof,h.ari⟩
 obtain ⟨g,a,b,c,d,e⟩:=h.on
 exact ⟨g,a,b,c,d,hg.blk e (by decide)⟩
theorem enter_same {o s:St} {l l':Hs} {a:Option Addr} {c:Nat} (h:SameT o s) (hn:l'.n=l.n) (hz:∀ j,j<l.n→l'.z j=l.z j):SameT ⟨o.on,⟨a,o.os.n+1,c,moreO o.os ⟨0,l'⟩⟩,o.hs,o.ms,o.si,o.so,o.sf⟩ (enterT s l):=by
 have hon:o.os.n=s.os.n:=h.os.1
 refine ⟨h.on,⟨by show o.os.n+1=s.os.n+1;omega,fun i hi => ?_⟩,h.hs,h.ms,h.si,h.so,h.sf⟩
 have hi':i<o.os.n+1:=hi
 show (moreO o.os ⟨0,l'⟩ i).k=(if i=s.os.n then (⟨0,l⟩:Od) else s.os.z i).k∧(moreO o.os ⟨0,l'⟩ i).ls.n=(if i=s.os.n then (⟨0,l⟩:Od) else s.os.z i).ls.n∧∀ j,j<(moreO o.os ⟨0,l'⟩ i).ls.n→(moreO o.os ⟨0,l'⟩ i).ls.z j=(if i=s.os.n then (⟨0,l⟩:Od) else s.os.z i).ls.z j
 unfold moreO
 by_cases hin:i=s.os.n
 ·rw [if_pos (by omega),if_pos hin]
  exact ⟨rfl,hn,fun j hj=>hz j (by rw [← hn];exact hj)⟩
 ·rw [if_neg (by omega),if_neg hin]
  exact h.os.2 i (by omega)
set_option maxRecDepth 100000 in
set_option maxHeartbeats 8000000 in
theorem EnterOwn_any (p:Pl) (s:St) (l:Hs) (w:World) (hp:p.At w) (hs:s.At w) (hl:l.At w) :
  Calls Tryz.prog 42 #[p.val,s.val,l.val] w fun e w'=>∃ s':St,e = .returned (.tuple #[s'.val,.int .i64 (enterE p s l)])∧s'.At w'∧ActOK (enterE p s l) (enterT s l) s'∧(enterE p s l=0→OwnS w.heap.size w' s')∧Below w.heap.size w w':=by
 obtain ⟨W0,hW,hWB,X0,Z0⟩:∃ W,(((w.alloc (.cells #[.slice p.ab p.nb p.cb,.slice p.sa p.ns p.cs] 25)).alloc (.cells s.cells 31)).alloc (.cells #[.slice .none 0 0,.slice .none 0 0,.slice .none 0 0,.slice .none 0 0,.slice .none 0 0,.slice .none 0 0,.slice .none 0 0] 31))=W∧Below w.heap.size w W∧Boxes W w.heap.size (w.heap.size+1) p s∧Blk W (w.heap.size+2) 31 7 (fun _ => .slice .none 0 0) :=
  ⟨_,rfl,(two_below _ _ _).alloc (by simp;omega) _,(boxes_new w p s _ _).below ((Below.refl _ _).alloc (Nat.le_refl _) _),(Blk.mk' (cur:=#[.slice .none 0 0,.slice .none 0 0,.slice .none 0 0,.slice .none 0 0,.slice .none 0 0,.slice .none 0 0,.slice .none 0 0]) (by simp) rfl).congr (fun j hj=>by match j,hj with | 0,_=>rfl | 1,_=>rfl | 2,_=>rfl | 3,_=>rfl | 4,_=>rfl | 5,_=>rfl | 6,_=>rfl)⟩
 have HC:Hid (∀ wk,Below W0.heap.size W0 wk→Boxes wk w.heap.size (w.heap.size+1) p s∧p.At wk∧s.At wk∧Below w.heap.size w wk∧Blk wk (w.heap.size+2) 31 7 (fun _ => .slice .none 0 0)∧l.At wk):=fun wk h=>⟨X0.below h,(hp.below hWB).below h,(hs.below hWB).below h,hWB.trans (h.mono hWB.size),Z0.below h,(hl.below hWB).below h⟩
 have HW:Hid (((w.alloc (.cells #[.slice p.ab p.nb p.cb,.slice p.sa p.ns p.cs] 25)).alloc (.cells #[.slice s.on.a s.on.n s.on.c,.slice s.os.a s.os.n s.os.c,.slice s.hs.a s.hs.n s.hs.c,.slice s.ms.a s.ms.n s.ms.c,.slice s.si.a s.si.n s.si.c,.slice s.so.a s.so.n s.so.c,.slice s.sf.a s.sf.n s.sf.c] 31)).alloc (.cells #[.slice .none 0 0,.slice .none 0 0,.slice .none 0 0,.slice .none 0 0,.slice .none 0 0,.slice .none 0 0,.slice .none 0 0] 31)=W0):=hW
 have leb:=hp.leb
 have capb0:=hp.capb
 have les:=hp.les
 have caps0:=hp.caps
 have capb:=capb0
 have caps:=caps0
 have zlt0:=Z0.lt
 unfold maxLen at capb caps
 have lle:=hl.le
 have lcap0:=hl.cap
 have lcap:=lcap0
 unfold maxLen at lcap
 clear hW X0 Z0 hp hs hl
 unfold Pl.val St.val Hs.val
 go_enter Tryz.func42,Tryz.ntmps42
 go_wp2_with fail
 rw [HW.out]
 obtain ⟨X,hpk,hsk,hBw,hz,hlk⟩:=HC.out W0 (Below.refl _ _)
 refine (stateCheck_any p s W0 hpk hsk).mono ?_
 rintro e w1 ⟨rfl,hB⟩
 clear X hpk hsk hBw hz hlk HW
 obtain ⟨⟨⟨l1,d0,d1⟩,l2,c0,c1,c2,c3,c4,c5,c6⟩,hpk,hsk,hBw,hz,hlk⟩:=HC.out w1 hB
 by_cases h0:stateE p s=0
 ·have H0:Hid (stateE p s=0):=h0
  have HF:Hid (Formed p s):=(rightT h0).fm
  rw [h0]
  clear h0
  by_cases k1:s.os.n=4
  ·have HX:Hid (enterE p s l=2):=enterE_many H0.out (Or.inl k1)
   have q1:((s.os.n:Int)==4)=true:=by rw [k1];rfl
   clear k1
   clear hpk hsk hlk
   have zl:=hz.lt
   have zf0:=hz.frozen 0
   have zc0:=hz.cell (j:=0) (by decide)
   have zf1:=hz.frozen 1
   have zc1:=hz.cell (j:=1) (by decide)
   have zf2:=hz.frozen 2
   have zc2:=hz.cell (j:=2) (by decide)
   have zf3:=hz.frozen 3
   have zc3:=hz.cell (j:=3) (by decide)
   have zf4:=hz.frozen 4
   have zc4:=hz.cell (j:=4) (by decide)
   have zf5:=hz.frozen 5
   have zc5:=hz.cell (j:=5) (by decide)
   have zf6:=hz.frozen 6
   have zc6:=hz.cell (j:=6) (by decide)
   go_wp2_with (go_at_call 63;refine calls_to (Within_any _ _ _ _) ?_)
   have KZ:=set7_blk hz (.slice .none 0 0) (.slice .none 0 0) (.slice .none 0 0) (.slice .none 0 0) (.slice .none 0 0) (.slice .none 0 0) (.slice .none 0 0)
   have hbz:=set7_below (b:=w.heap.size+2) hBw (by omega) (.slice .none 0 0) (.slice .none 0 0) (.slice .none 0 0) (.slice .none 0 0) (.slice .none 0 0) (.slice .none 0 0) (.slice .none 0 0)
   unfold set7 at KZ hbz
   obtain ⟨c0',c1',c2',c3',c4',c5',c6'⟩:=box_cells KZ
   refine bodyPost_ret (v := .tuple #[noneS.val,.int .i64 2]) (by simp [results,Tryz.results42,go_sem,noneS,St.val,c0',c1',c2',c3',c4',c5',c6']) rfl ?_
   exact ⟨noneS,by rw [HX.out];rfl,noneS_at _,⟨fun h=>absurd h (by rw [HX.out];decide),fun _=>⟨rfl,rfl,rfl,rfl,rfl,rfl,rfl⟩⟩,fun h=>absurd h (by rw [HX.out];decide),hbz⟩
  have q1:((s.os.n:Int)==4)=false:=by simp;omega
  cases k2:inB l.n 1 3
  ·have HX:Hid (enterE p s l=2):=enterE_many H0.out (Or.inr (by have:=inB_false k2;omega))
   clear k1
   clear hpk hsk hlk
   have zl:=hz.lt
   have zf0:=hz.frozen 0
   have zc0:=hz.cell (j:=0) (by decide)
   have zf1:=hz.frozen 1
   have zc1:=hz.cell (j:=1) (by decide)
   have zf2:=hz.frozen 2
   have zc2:=hz.cell (j:=2) (by decide)
   have zf3:=hz.frozen 3
   have zc3:=hz.cell (j:=3) (by decide)
   have zf4:=hz.frozen 4
   have zc4:=hz.cell (j:=4) (by decide)
   have zf5:=hz.frozen 5
   have zc5:=hz.cell (j:=5) (by decide)
   have zf6:=hz.frozen 6
   have zc6:=hz.cell (j:=6) (by decide)
   go_wp2_with (go_at_call 63;refine calls_to (Within_any _ _ _ _) ?_)
   have KZ:=set7_blk hz (.slice .none 0 0) (.slice .none 0 0) (.slice .none 0 0) (.slice .none 0 0) (.slice .none 0 0) (.slice .none 0 0) (.slice .none 0 0)
   have hbz:=set7_below (b:=w.heap.size+2) hBw (by omega) (.slice .none 0 0) (.slice .none 0 0) (.slice .none 0 0) (.slice .none 0 0) (.slice .none 0 0) (.slice .none 0 0) (.slice .none 0 0)
   unfold set7 at KZ hbz
   obtain ⟨c0',c1',c2',c3',c4',c5',c6'⟩:=box_cells KZ
   refine bodyPost_ret (v := .tuple #[noneS.val,.int .i64 2]) (by simp [results,Tryz.results42,go_sem,noneS,St.val,c0',c1',c2',c3',c4',c5',c6']) rfl ?_
   exact ⟨noneS,by rw [HX.out];rfl,noneS_at _,⟨fun h=>absurd h (by rw [HX.out];decide),fun _=>⟨rfl,rfl,rfl,rfl,rfl,rfl,rfl⟩⟩,fun h=>absurd h (by rw [HX.out];decide),hbz⟩
  have hl3:=inB_true k2
  have HM:Hid (¬ (s.os.n=4∨¬ (1≤l.n∧l.n≤3))):=by show ¬ _;omega
  clear k1
  have HLK:Hid (l.At w1):=hlk
  clear hz hpk hsk hlk
  go_wp2_with (go_at_call 63;refine calls_to (Within_any _ _ _ _) ?_)
  refine (anyL4 92 #[.pointer (some ⟨w.heap.size,0,none⟩)] (fun j=>outL p (l.z j)) _ _ _ _ lle lcap0 l.z HLK.out.hds (enters_of Tryz.func92 (by kernel_rfl) rfl) (fun i w2 _ h=>Enter1_any w.heap.size p _ w2 les caps0 (Nat.lt_of_lt_of_le l1 h.size) ((h.cell (p:=⟨w.heap.size,1,none⟩) l1).trans d1))).mono ?_
  rintro e w2 ⟨rfl,hB2⟩
  have hB:=hB.trans (hB2.mono hB.size)
  clear l1 d0 d1 l2 c0 c1 c2 c3 c4 c5 c6 hBw hB2 HLK q1 k2
  obtain ⟨⟨⟨l1,d0,d1⟩,l2,c0,c1,c2,c3,c4,c5,c6⟩,hpk,hsk,hBw,hz,hlk⟩:=HC.out w2 hB
  cases k3:anyB l.n (fun j=>outL p (l.z j))
  rotate_left
  ·have HX:Hid (enterE p s l=3):=enterE_range H0.out HM.out k3
   clear k3
   clear hpk hsk hlk
   have zl:=hz.lt
   have zf0:=hz.frozen 0
   have zc0:=hz.cell (j:=0) (by decide)
   have zf1:=hz.frozen 1
   have zc1:=hz.cell (j:=1) (by decide)
   have zf2:=hz.frozen 2
   have zc2:=hz.cell (j:=2) (by decide)
   have zf3:=hz.frozen 3
   have zc3:=hz.cell (j:=3) (by decide)
   have zf4:=hz.frozen 4
   have zc4:=hz.cell (j:=4) (by decide)
   have zf5:=hz.frozen 5
   have zc5:=hz.cell (j:=5) (by decide)
   have zf6:=hz.frozen 6
   have zc6:=hz.cell (j:=6) (by decide)
   go_wp2_with fail
   have KZ:=set7_blk hz (.slice .none 0 0) (.slice .none 0 0) (.slice .none 0 0) (.slice .none 0 0) (.slice .none 0 0) (.slice .none 0 0) (.slice .none 0 0)
   have hbz:=set7_below (b:=w.heap.size+2) hBw (by omega) (.slice .none 0 0) (.slice .none 0 0) (.slice .none 0 0) (.slice .none 0 0) (.slice .none 0 0) (.slice .none 0 0) (.slice .none 0 0)
   unfold set7 at KZ hbz
   obtain ⟨c0',c1',c2',c3',c4',c5',c6'⟩:=box_cells KZ
   refine bodyPost_ret (v := .tuple #[noneS.val,.int .i64 3]) (by simp [results,Tryz.results42,go_sem,noneS,St.val,c0',c1',c2',c3',c4',c5',c6']) rfl ?_
   exact ⟨noneS,by rw [HX.out];rfl,noneS_at _,⟨fun h=>absurd h (by rw [HX.out];decide),fun _=>⟨rfl,rfl,rfl,rfl,rfl,rfl,rfl⟩⟩,fun h=>absurd h (by rw [HX.out];decide),hbz⟩
  have K3:Hid (¬ anyB l.n (fun j=>outL p (l.z j))=true):=by show ¬ _;rw [k3];decide
  clear k3
  have HLK:Hid (l.At w2):=hlk
  clear hz hpk hsk hlk
  go_wp2_with fail
  refine (anyL4 93 #[] (fun j=>begunL (l.z j)) _ _ _ _ lle lcap0 l.z HLK.out.hds (enters_of Tryz.func93 (by kernel_rfl) rfl) (fun i w2 _ h=>by rw [Array.append_empty];exact Enter2_any _ _)).mono ?_
  rintro e w3 ⟨rfl,hB2⟩
  have hB:=hB.trans (hB2.mono hB.size)
  clear l1 d0 d1 l2 c0 c1 c2 c3 c4 c5 c6 hBw hB2 HLK
  obtain ⟨⟨⟨l1,d0,d1⟩,l2,c0,c1,c2,c3,c4,c5,c6⟩,hpk,hsk,hBw,hz,hlk⟩:=HC.out w3 hB
  cases k4:anyB l.n (fun j=>begunL (l.z j))
  rotate_left
  ·have HX:Hid (enterE p s l=1):=enterE_form H0.out HM.out K3.out k4
   clear k4
   clear hpk hsk hlk
   have zl:=hz.lt
   have zf0:=hz.frozen 0
   have zc0:=hz.cell (j:=0) (by decide)
   have zf1:=hz.frozen 1
   have zc1:=hz.cell (j:=1) (by decide)
   have zf2:=hz.frozen 2
   have zc2:=hz.cell (j:=2) (by decide)
   have zf3:=hz.frozen 3
   have zc3:=hz.cell (j:=3) (by decide)
   have zf4:=hz.frozen 4
   have zc4:=hz.cell (j:=4) (by decide)
   have zf5:=hz.frozen 5
   have zc5:=hz.cell (j:=5) (by decide)
   have zf6:=hz.frozen 6
   have zc6:=hz.cell (j:=6) (by decide)
   go_wp2_with fail
   have KZ:=set7_blk hz (.slice .none 0 0) (.slice .none 0 0) (.slice .none 0 0) (.slice .none 0 0) (.slice .none 0 0) (.slice .none 0 0) (.slice .none 0 0)
   have hbz:=set7_below (b:=w.heap.size+2) hBw (by omega) (.slice .none 0 0) (.slice .none 0 0) (.slice .none 0 0) (.slice .none 0 0) (.slice .none 0 0) (.slice .none 0 0) (.slice .none 0 0)
   unfold set7 at KZ hbz
   obtain ⟨c0',c1',c2',c3',c4',c5',c6'⟩:=box_cells KZ
   refine bodyPost_ret (v := .tuple #[noneS.val,.int .i64 1]) (by simp [results,Tryz.results42,go_sem,noneS,St.val,c0',c1',c2',c3',c4',c5',c6']) rfl ?_
   exact ⟨noneS,by rw [HX.out];rfl,noneS_at _,⟨fun h=>absurd h (by rw [HX.out];decide),fun _=>⟨rfl,rfl,rfl,rfl,rfl,rfl,rfl⟩⟩,fun h=>absurd h (by rw [HX.out];decide),hbz⟩
  have HX:Hid (enterE p s l=0):=enterE_ok H0.out HM.out K3.out (by rw [k4];decide)
  clear k4 K3 HM
  have hz0:=hz.lt
  have hcs:=copyState_any p s w3 hsk HF.out
  have HCS:Hid _:=hcs
  have HLK:Hid (l.At w3):=hlk
  clear hcs hz hlk hpk hsk
  go_wp2_with fail
  refine Calls.mono HCS.out ?_
  rintro e w4 ⟨o,rfl,hsame,hown,hB2⟩
  clear HCS
  have hB4:=hB.trans (hB2.mono hB.size)
  have q3:=hB.size
  have HLOW:Hid (w.heap.size≤w3.heap.size):=Nat.le_trans (HC.out _ (Below.refl _ _)).2.2.2.1.size hB.size
  have q4:=hB2.size
  obtain ⟨W5,hW5,hBW5,KW5⟩:∃ W,w4.alloc (.cells #[.slice o.on.a o.on.n o.on.c,.slice o.os.a o.os.n o.os.c,.slice o.hs.a o.hs.n o.hs.c,.slice o.ms.a o.ms.n o.ms.c,.slice o.si.a o.si.n o.si.c,.slice o.so.a o.so.n o.so.c,.slice o.sf.a o.sf.n o.sf.c] 31)=W∧Below w4.heap.size w4 W∧Blk W w4.heap.size 31 7 (fun j=>o.cells.getD j default):=⟨_,rfl,(Below.refl _ _).alloc (Nat.le_refl _) _,Blk.mk' rfl rfl⟩
  have HW5:Hid (w4.alloc (.cells #[.slice o.on.a o.on.n o.on.c,.slice o.os.a o.os.n o.os.c,.slice o.hs.a o.hs.n o.hs.c,.slice o.ms.a o.ms.n o.ms.c,.slice o.si.a o.si.n o.si.c,.slice o.so.a o.so.n o.so.c,.slice o.sf.a o.sf.n o.sf.c] 31)=W5):=hW5
  have hB5:=hB4.trans (hBW5.mono hB4.size)
  have hown5:=OwnS.below hown hBW5
  have hlk5:=(HLK.out.below hB2).below hBW5
  have q5:=hBW5.size
  have on4:o.os.n≤4:=by have:=HF.out.os4;have:o.os.n=s.os.n:=hsame.os.1;omega
  clear l1 d0 d1 l2 c0 c1 c2 c3 c4 c5 c6 hBw hz0 hW5
  simp only [St.val]
  go_wp2_with fail
  rw [HW5.out]
  have HOW:Hid (OwnS w3.heap.size W5 o∧Blk W5 w4.heap.size 31 7 (fun j=>o.cells.getD j default)∧SameT o s):=⟨hown5,KW5,hsame⟩
  have HL5:Hid (l.At W5):=hlk5
  have r0:∀ d os,(grow (redrawn W5 d) os).cell? ⟨w4.heap.size,1,none⟩=some (.slice o.os.a o.os.n o.os.c):=fun d os=>cell_regrown (KW5.cell (j:=1) (by decide)) d os
  have xl5:w4.heap.size<W5.heap.size:=KW5.lt
  clear hown hown5 KW5 hsame hlk5 HLK HW5 hBW5 hB2
  obtain ⟨iO,hO,hO0,hO1,hO2⟩:=info_parts infoOrderC
  refine wp_region_made6 (fun w'=>∃ p:Regrown,w'=grow (redrawn W5 p.d) p.os) [0,1,2] [3,4,5] [(true,6),(true,7),(true,8)] (by kernel_rfl) (by kernel_rfl) (by kernel_rfl) (by kernel_rfl) (by kernel_rfl) (by kernel_rfl) (by kernel_rfl) (by kernel_rfl) (by kernel_rfl) (regrown_of_below ((Below.refl _ _).drew)) ?_
  simp only [picks,List.drop_succ_cons,List.drop_zero,List.take_succ_cons,List.take_zero,List.cons_append,List.nil_append]
  repeat (go_big_quiet_step (fail))
  refine wpQuiet_nil ?_
  clear r0
  refine ⟨fun j v g wk=>match j with | 3=>DHs W5.heap.size 59 l v g wk | 4=>D16 W5.heap.size ⟨0,l⟩ v g wk | 5=>D17 W5.heap.size ⟨0,l⟩ v g wk | _=>True,
   List.forall_mem_cons.2 ⟨fun v g w w' hB h=>DHs.below h hB,List.forall_mem_cons.2 ⟨fun v g w w' hB h=>D16.below h hB,List.forall_mem_cons.2 ⟨fun v g w w' hB h=>D17.below h hB,List.forall_mem_nil _⟩⟩⟩,
   List.forall_mem_cons.2 ⟨fun v g w h=>by obtain ⟨_,h1,_⟩:=h;rw [h1];intro x hx;simp at hx,List.forall_mem_cons.2 ⟨fun v g w h=>by obtain ⟨_,h1,_⟩:=h;rw [h1];intro x hx;simp at hx,List.forall_mem_cons.2 ⟨fun v g w h=>by obtain ⟨_,_,h1,_⟩:=h;rw [h1];intro x hx;simp at hx,List.forall_mem_nil _⟩⟩⟩,
   List.forall_mem_cons.2 ⟨?zt3,List.forall_mem_cons.2 ⟨?zt4,List.forall_mem_cons.2 ⟨?zt5,List.forall_mem_nil _⟩⟩⟩,?ztdone⟩
  case zt3 =>
   intro V G wk K hS hd hA hK
   have hX:=below_of_regrown hS
   have q:=hX.size
   refine wpOp_list 3 rfl ?_
   simp only [putAll,dstOf,List.getElem?_toArray,List.getElem?_cons_succ,List.getElem?_cons_zero,Act.put,List.setIfInBounds_toArray,List.set_cons_succ,List.set_cons_zero] at hK ⊢
   go_wp2_with fail
   refine (CloneLine_any l wk (HL5.out.below hX) (by omega)).mono ?_
   rintro e w2 ⟨s',rfl,hc,hB2⟩
   have HR:Hid (Cloned W5.heap.size 59 l w2 s'):=⟨hc.1,hc.2.1,hc.2.2.1.mono (by omega),hc.2.2.2.mono (by omega)⟩
   clear hc
   simp only [Hs.val]
   go_wp2_with fail
   exact hK _ [] _ (regrown_of_below (hX.trans (hB2.mono hX.size))) hB2 (fun x hx=>by simp at hx) ⟨s',rfl,rfl,HR.out⟩
  case zt4 =>
   intro V G wk K hS hd hA hK
   obtain ⟨s',-,h15,hc⟩:DHs W5.heap.size 59 l (V 3) (G 3) wk:=hd 3 (List.contains_iff_mem.1 (by kernel_rfl)) (by simp)
   have HCL:Hid (Cloned W5.heap.size 59 l wk s'):=hc
   clear hc
   refine wpOp_list 4 rfl ?_
   simp only [putAll,dstOf,List.getElem?_toArray,List.getElem?_cons_succ,List.getElem?_cons_zero,Act.put,List.setIfInBounds_toArray,List.set_cons_succ,List.set_cons_zero,h15] at hK ⊢
   go_wp2_with fail
   exact hK _ [] _ hS (Below.refl _ _) (fun x hx=>by simp at hx) ⟨s',rfl,rfl,HCL.out⟩
  case zt5 =>
   intro V G wk K hS hd hA hK
   have hX:=below_of_regrown hS
   obtain ⟨s',-,h16,hc⟩:D16 W5.heap.size ⟨0,l⟩ (V 4) (G 4) wk:=hd 4 (List.contains_iff_mem.1 (by kernel_rfl)) (by simp)
   have HCL:Hid (Cloned W5.heap.size 59 l wk s'):=hc
   clear hc
   refine wpOp_list 5 rfl ?_
   simp only [putAll,dstOf,List.getElem?_toArray,List.getElem?_cons_succ,List.getElem?_cons_zero,Act.put,List.setIfInBounds_toArray,List.set_cons_succ,List.set_cons_zero,h16] at hK ⊢
   go_wp2_with fail
   have hBa:=(Below.refl wk.heap.size wk).alloc (Nat.le_refl _) (.cells #[.int .i64 0,.slice s'.a s'.n s'.c] 57)
   exact hK _ [] _ (regrown_of_below (hX.alloc hX.size _)) ((Below.refl _ _).alloc (Nat.le_refl _) _) (fun x hx=>by simp at hx) ⟨wk.heap.size,s',rfl,rfl,hX.size,Blk.mk' rfl rfl,HCL.out.1,HCL.out.2.1,HCL.out.2.2.1.below hBa,HCL.out.2.2.2.below hBa⟩
  case ztdone =>
   intro V G' wk hS hD hA
   obtain ⟨BO,s',-,h17,m17,k17,e1,e2,⟨o1,o2,o3,o4⟩,-⟩:D17 W5.heap.size ⟨0,l⟩ (V 5) (G' 5) wk:=hD 5 (by simp)
   have hX:=below_of_regrown hS
   have q1:=hX.size
   obtain ⟨gB,ea,hgB,kB⟩:=o4 (by rw [e1];show 0<l.n;omega)
   obtain ⟨hO5,K5,hsame⟩:=HOW.out
   have hO6:=OwnS.below hO5 hX
   have K6:=K5.below hX
   have hBk:=hB5.trans (hX.mono hB5.size)
   have HE:Hid (s'.n=l.n∧(∀ j,j<l.n→s'.z j=l.z j)∧s'.a=some ⟨gB,0,none⟩∧s'.n≤s'.c∧s'.c≤maxLen∧Blk wk gB 59 (s'.n*4) (fun j=>(flatH s'.n s'.z).getD j default)∧SameT o s∧W5.heap.size≤gB):=⟨e1,e2,ea,o1,o2,kB,hsame,hgB⟩
   have HOK:Hid (OwnS w3.heap.size wk o∧OwnS w3.heap.size W5 o):=⟨hO6,hO5⟩
   have HK6:Hid (Blk wk w4.heap.size 31 7 (fun j=>o.cells.getD j default)):=K6
   have HBk:Hid (Below W0.heap.size W0 wk):=hBk
   have HK17:Hid (Blk wk BO 57 2 (fun j=>(#[.int .i64 0,.slice s'.a s'.n s'.c]:Array Value).getD j default)):=k17
   clear hS hD hA e1 e2 ea o1 o2 o3 o4 kB hO5 K5 hsame hO6 K6 hBk k17 hB5
   simp only [putAll,dstOf,List.getElem?_toArray,List.getElem?_cons_succ,List.getElem?_cons_zero,Act.put,List.setIfInBounds_toArray,List.set_cons_succ,List.set_cons_zero,h17]
   refine wpSeq_one 6 rfl ?_
   go_wp2_with (at_builtin;refine wpList_append_room wk rfl (.tmp 45) (.tmp 49) 27 rfl w3.heap.size 57 iO (.agg #[.int .i64 0,.slice none 0 0]) 2 32 Tryz.underlying27 hO hO0 hO1 hO2 rfl (by decide) o.os.a o.os.n o.os.c (flatO o.os.n o.os.z) rfl HOK.out.1.os.room HOK.out.1.os.le HOK.out.1.os.cap (flatO_len _ _) HOK.out.1.os.list ⟨BO,0,none⟩ 1 1 [.int .i64 0,.slice s'.a s'.n s'.c] rfl rfl ?zc1 ?zc2 (by decide) ?zc3 ?zc4 ?zc5 ?_)
   case zc1 =>
    intro j u hj
    match j,hj with
    | 0,hj=>simp at hj;subst hj;exact HK17.out.cell (j:=0) (by decide)
    | 1,hj=>simp at hj;subst hj;exact HK17.out.cell (j:=1) (by decide)
   case zc2=>intro u hu;simp at hu;rcases hu with rfl | rfl<;>rfl
   case zc3=>unfold maxLen;omega
   case zc4=>omega
   case zc5=>omega
   intro v2 w2 hown2 hgrow2
   obtain ⟨e1,e2,ea,o1,o2,kB,hsame,hgB⟩:=HE.out
   obtain ⟨va,vc,rfl,hOO⟩:=OwnO.more (x:=⟨0,s'⟩) HOK.out.1.os hown2 hgrow2 ea (by omega) o1 o2 kB (fun i hi e=>by
    obtain ⟨B,x1,x2,x3,x4,x5⟩:=HOK.out.2.os.lines i hi
    rw [x1] at e
    have e':=e.trans ea
    simp only [Option.some.injEq,Addr.mk.injEq,and_true] at e'
    have:=x5.lt
    omega)
   have hOS2:=HOK.out.1.orders hgrow2 hOO
   have hB7:=hgrow2.below HBk.out (by omega) (by have:=HBk.out.size;omega)
   have K7:=hgrow2.blk HK6.out (by decide)
   have xl:=K7.lt
   have zf9:=K7.frozen 1
   have zc9:=K7.cell (j:=1) (by decide)
   have K8:=K7.set 1 (.slice va (o.os.n+1) vc)
   have hO8:=hOS2.box K7 1 (.slice va (o.os.n+1) vc)
   have hB8:=hB7.setCell (p:=⟨w4.heap.size,1,none⟩) (by show W0.heap.size≤w4.heap.size;omega) (.slice va (o.os.n+1) vc)
   have HSM:Hid (SameT ⟨o.on,⟨va,o.os.n+1,vc,moreO o.os ⟨0,s'⟩⟩,o.hs,o.ms,o.si,o.so,o.sf⟩ (enterT s l)):=enter_same hsame e1 e2
   obtain ⟨-,-,-,hBw8,hz8,-⟩:=HC.out _ hB8
   have HEND:Hid (OwnS w3.heap.size (w2.setCell ⟨w4.heap.size,1,none⟩ (.slice va (o.os.n+1) vc)) ⟨o.on,⟨va,o.os.n+1,vc,moreO o.os ⟨0,s'⟩⟩,o.hs,o.ms,o.si,o.so,o.sf⟩∧Below w.heap.size w (w2.setCell ⟨w4.heap.size,1,none⟩ (.slice va (o.os.n+1) vc))∧Blk (w2.setCell ⟨w4.heap.size,1,none⟩ (.slice va (o.os.n+1) vc)) (w.heap.size+2) 31 7 (fun _ => .slice .none 0 0)):=⟨hO8,hBw8,hz8⟩
   have m8:=K8.lt
   have e0':(w2.setCell ⟨w4.heap.size,1,none⟩ (.slice va (o.os.n+1) vc)).cell? ⟨w4.heap.size,0,none⟩=some (.slice o.on.a o.on.n o.on.c):=K8.cell (j:=0) (by decide)
   have e1':(w2.setCell ⟨w4.heap.size,1,none⟩ (.slice va (o.os.n+1) vc)).cell? ⟨w4.heap.size,1,none⟩=some (.slice va (o.os.n+1) vc):=K8.cell (j:=1) (by decide)
   have e2':(w2.setCell ⟨w4.heap.size,1,none⟩ (.slice va (o.os.n+1) vc)).cell? ⟨w4.heap.size,2,none⟩=some (.slice o.hs.a o.hs.n o.hs.c):=K8.cell (j:=2) (by decide)
   have e3':(w2.setCell ⟨w4.heap.size,1,none⟩ (.slice va (o.os.n+1) vc)).cell? ⟨w4.heap.size,3,none⟩=some (.slice o.ms.a o.ms.n o.ms.c):=K8.cell (j:=3) (by decide)
   have e4':(w2.setCell ⟨w4.heap.size,1,none⟩ (.slice va (o.os.n+1) vc)).cell? ⟨w4.heap.size,4,none⟩=some (.slice o.si.a o.si.n o.si.c):=K8.cell (j:=4) (by decide)
   have e5':(w2.setCell ⟨w4.heap.size,1,none⟩ (.slice va (o.os.n+1) vc)).cell? ⟨w4.heap.size,5,none⟩=some (.slice o.so.a o.so.n o.so.c):=K8.cell (j:=5) (by decide)
   have e6':(w2.setCell ⟨w4.heap.size,1,none⟩ (.slice va (o.os.n+1) vc)).cell? ⟨w4.heap.size,6,none⟩=some (.slice o.sf.a o.sf.n o.sf.c):=K8.cell (j:=6) (by decide)
   have zl:=hz8.lt
   have zf0:=hz8.frozen 0
   have zc0:=hz8.cell (j:=0) (by decide)
   have zf1:=hz8.frozen 1
   have zc1:=hz8.cell (j:=1) (by decide)
   have zf2:=hz8.frozen 2
   have zc2:=hz8.cell (j:=2) (by decide)
   have zf3:=hz8.frozen 3
   have zc3:=hz8.cell (j:=3) (by decide)
   have zf4:=hz8.frozen 4
   have zc4:=hz8.cell (j:=4) (by decide)
   have zf5:=hz8.frozen 5
   have zc5:=hz8.cell (j:=5) (by decide)
   have zf6:=hz8.frozen 6
   have zc6:=hz8.cell (j:=6) (by decide)
   clear hown2 hgrow2 hOO hOS2 hB7 K7 K8 hO8 hB8 hBw8 hz8 HE HOK HK6 HBk HK17 kB hsame e1 e2 ea o1 o2 hgB hX
   refine wpList_end ⟨Late.yes,?_⟩
   refine wpSeq_one 7 rfl ?_
   go_wp2_with fail
   refine ⟨Late.yes,?_⟩
   refine wpSeq_one 8 rfl ?_
   go_wp2_with fail
   refine ⟨Late.yes,?_⟩
   refine NoPanic.normal ?_
   go_wp2_with fail
   obtain ⟨hOt,hBw,hz⟩:=HEND.out
   have KZ:=set7_blk hz (.slice o.on.a o.on.n o.on.c) (.slice va (o.os.n+1) vc) (.slice o.hs.a o.hs.n o.hs.c) (.slice o.ms.a o.ms.n o.ms.c) (.slice o.si.a o.si.n o.si.c) (.slice o.so.a o.so.n o.so.c) (.slice o.sf.a o.sf.n o.sf.c)
   have hbz:=set7_below (b:=w.heap.size+2) hBw (by omega) (.slice o.on.a o.on.n o.on.c) (.slice va (o.os.n+1) vc) (.slice o.hs.a o.hs.n o.hs.c) (.slice o.ms.a o.ms.n o.ms.c) (.slice o.si.a o.si.n o.si.c) (.slice o.so.a o.so.n o.so.c) (.slice o.sf.a o.sf.n o.sf.c)
   have hOz:=OwnS.set7 hOt hz (.slice o.on.a o.on.n o.on.c) (.slice va (o.os.n+1) vc) (.slice o.hs.a o.hs.n o.hs.c) (.slice o.ms.a o.ms.n o.ms.c) (.slice o.si.a o.si.n o.si.c) (.slice o.so.a o.so.n o.so.c) (.slice o.sf.a o.sf.n o.sf.c)
   unfold set7 at KZ hbz hOz
   obtain ⟨c0',c1',c2',c3',c4',c5',c6'⟩:=box_cells KZ
   refine bodyPost_ret (v := .tuple #[(⟨o.on,⟨va,o.os.n+1,vc,moreO o.os ⟨0,s'⟩⟩,o.hs,o.ms,o.si,o.so,o.sf⟩:St).val,.int .i64 0]) (by simp [results,Tryz.results42,go_sem,St.val,c0',c1',c2',c3',c4',c5',c6']) rfl ?_
   exact ⟨⟨o.on,⟨va,o.os.n+1,vc,moreO o.os ⟨0,s'⟩⟩,o.hs,o.ms,o.si,o.so,o.sf⟩,by rw [HX.out];rfl,hOz.at,⟨fun _=>HSM.out,fun h=>absurd HX.out h⟩,fun _=>hOz.mono HLOW.out,hbz⟩
 ·have HX:Hid (enterE p s l=stateE p s):=enterE_state h0
  clear hpk hsk hlk c0 c1 c2 c3 c4 c5 c6
  have zl:=hz.lt
  have zf0:=hz.frozen 0
  have zc0:=hz.cell (j:=0) (by decide)
  have zf1:=hz.frozen 1
  have zc1:=hz.cell (j:=1) (by decide)
  have zf2:=hz.frozen 2
  have zc2:=hz.cell (j:=2) (by decide)
  have zf3:=hz.frozen 3
  have zc3:=hz.cell (j:=3) (by decide)
  have zf4:=hz.frozen 4
  have zc4:=hz.cell (j:=4) (by decide)
  have zf5:=hz.frozen 5
  have zc5:=hz.cell (j:=5) (by decide)
  have zf6:=hz.frozen 6
  have zc6:=hz.cell (j:=6) (by decide)
  go_wp2_with fail
  have KZ:=set7_blk hz (.slice .none 0 0) (.slice .none 0 0) (.slice .none 0 0) (.slice .none 0 0) (.slice .none 0 0) (.slice .none 0 0) (.slice .none 0 0)
  have hbz:=set7_below (b:=w.heap.size+2) hBw (by omega) (.slice .none 0 0) (.slice .none 0 0) (.slice .none 0 0) (.slice .none 0 0) (.slice .none 0 0) (.slice .none 0 0) (.slice .none 0 0)
  unfold set7 at KZ hbz
  obtain ⟨c0',c1',c2',c3',c4',c5',c6'⟩:=box_cells KZ
  refine bodyPost_ret (v := .tuple #[noneS.val,.int .i64 (stateE p s)]) (by simp [results,Tryz.results42,go_sem,noneS,St.val,c0',c1',c2',c3',c4',c5',c6']) rfl ?_
  exact ⟨noneS,by rw [HX.out];rfl,noneS_at _,⟨fun h=>absurd h (by rw [HX.out];exact h0),fun _=>⟨rfl,rfl,rfl,rfl,rfl,rfl,rfl⟩⟩,fun h=>absurd h (by rw [HX.out];exact h0),hbz⟩
structure BusyB (w:World) (g:Nat) (a k:Int):Prop where
 b0:Blk w (g) 3 2 (fun j=>(#[.int .i64 9,.int .i64 0]:Array Value).getD j default)
 b1:Blk w (g+1) 3 2 (fun j=>(#[.int .i64 3,.int .i64 0]:Array Value).getD j default)
 b2:Blk w (g+2) 3 2 (fun j=>(#[.int .i64 0,.int .i64 6]:Array Value).getD j default)
 b3:Blk w (g+3) 23 3 (fun j=>(#[.slice (some ⟨g,0,none⟩) 2 2,.slice (some ⟨g+1,0,none⟩) 2 2,.slice (some ⟨g+2,0,none⟩) 2 2]:Array Value).getD j default)
 b4:Blk w (g+4) 59 8 (fun j=>(#[.int .i64 0,.int .i64 6,.int .i64 1,.int .i64 0,.int .i64 1,.int .i64 9,.int .i64 0,.int .i64 3]:Array Value).getD j default)
 b5:Blk w (g+5) 59 4 (fun j=>(#[.int .i64 0,.int .i64 4,.int .i64 0,.int .i64 0]:Array Value).getD j default)
 b6:Blk w (g+6) 57 4 (fun j=>(#[.int .i64 1,.slice (some ⟨g+4,0,none⟩) 2 2,.int .i64 k,.slice (some ⟨g+5,0,none⟩) 1 1]:Array Value).getD j default)
 b7:Blk w (g+7) 61 12 (fun j=>(#[.int .i64 0,.int .i64 0,.int .i64 0,.int .i64 a,.int .i64 0,.int .i64 0,.int .i64 1,.int .i64 3,.int .i64 0,.int .i64 1,.int .i64 2,.int .i64 6]:Array Value).getD j default)
 b8:Blk w (g+8) 63 4 (fun j=>(#[.int .i64 0,.int .i64 0,.int .i64 1,.int .i64 5]:Array Value).getD j default)
 b9:Blk w (g+9) 3 2 (fun j=>(#[.int .i64 13,.int .i64 6]:Array Value).getD j default)
 b10:Blk w (g+10) 3 2 (fun j=>(#[.int .i64 1,.int .i64 0]:Array Value).getD j default)
 b11:Blk w (g+11) 3 2 (fun j=>(#[.int .i64 0,.int .i64 0]:Array Value).getD j default)
theorem BusyB.below {w w':World} {g:Nat} {a k:Int} (h:BusyB w g a k) (hB:Below w.heap.size w w'):BusyB w' g a k:=⟨h.b0.below hB,h.b1.below hB,h.b2.below hB,h.b3.below hB,h.b4.below hB,h.b5.below hB,h.b6.below hB,h.b7.below hB,h.b8.below hB,h.b9.below hB,h.b10.below hB,h.b11.below hB⟩
def bz0:Nat→Int
 | 0=>9
 | _=>0
def bz1:Nat→Int
 | 0=>3
 | _=>0
def bz2:Nat→Int
 | 0=>0
 | _=>6
def bzi:Nat→Int
 | 0=>13
 | _=>6
def bzo:Nat→Int
 | 0=>1
 | _=>0
def bl0:Nat→Hd
 | 0=>⟨0,6,1,0⟩
 | _=>⟨1,9,0,3⟩
def bhs (a:Int):Nat→Hd
 | 0=>⟨0,0,0,a⟩
 | 1=>⟨0,0,1,3⟩
 | _=>⟨0,1,2,6⟩
def bon (g:Nat):Nat→Rw
 | 0=>⟨some ⟨g,0,none⟩,2,2,bz0⟩
 | 1=>⟨some ⟨g+1,0,none⟩,2,2,bz1⟩
 | _=>⟨some ⟨g+2,0,none⟩,2,2,bz2⟩
def bos (g:Nat) (k:Int):Nat→Od
 | 0=>⟨1,⟨some ⟨g+4,0,none⟩,2,2,bl0⟩⟩
 | _=>⟨k,⟨some ⟨g+5,0,none⟩,1,1,fun _=>⟨0,4,0,0⟩⟩⟩
def busyS (g:Nat) (a k:Int):St:=⟨⟨some ⟨g+3,0,none⟩,3,3,bon g⟩,⟨some ⟨g+6,0,none⟩,2,2,bos g k⟩,⟨some ⟨g+7,0,none⟩,3,3,bhs a⟩,⟨some ⟨g+8,0,none⟩,1,1,fun _=>⟨0,0,1,5⟩⟩,⟨some ⟨g+9,0,none⟩,2,2,bzi⟩,⟨some ⟨g+10,0,none⟩,2,2,bzo⟩,⟨some ⟨g+11,0,none⟩,2,2,fun _=>0⟩⟩
theorem le_max {n:Nat} (h:n≤100):n≤maxLen:=by unfold maxLen;omega
theorem two_at {w:World} {g:Nat} {e:TypeId} {x y:Int} {z:Nat→Int} (h:Blk w g e 2 (fun j=>(#[.int .i64 x,.int .i64 y]:Array Value).getD j default)) (h0:z 0=x) (h1:z 1=y):Rw.At w ⟨some ⟨g,0,none⟩,2,2,z⟩:=by
 refine ⟨Nat.le_refl _,le_max (n:=2) (by decide),fun i hi => ?_⟩
 have hi':i<2:=hi
 refine ⟨g,0,rfl,h.lt,?_⟩
 match i,hi' with
 | 0,_=>show w.cell? ⟨g,0+0,none⟩=some (.int .i64 (z 0));rw [h0];exact h.cell (j:=0) (by decide)
 | 1,_=>show w.cell? ⟨g,0+1,none⟩=some (.int .i64 (z 1));rw [h1];exact h.cell (j:=1) (by decide)
theorem busyAt {w:World} {g:Nat} {a k:Int} (h:BusyB w g a k):(busyS g a k).At w:=by
 refine ⟨⟨Nat.le_refl _,le_max (n:=3) (by decide),fun i hi => ?_⟩,⟨Nat.le_refl _,le_max (n:=2) (by decide),fun i hi => ?_⟩,⟨Nat.le_refl _,le_max (n:=3) (by decide),fun i hi => ?_,fun e=>by cases e⟩,⟨Nat.le_refl _,le_max (n:=1) (by decide),fun i hi => ?_,fun e=>by cases e⟩,two_at h.b9 rfl rfl,two_at h.b10 rfl rfl,two_at h.b11 rfl rfl⟩
 ·have hi':i<3:=hi
  refine ⟨g+3,0,rfl,h.b3.lt,?_⟩
  match i,hi' with
  | 0,_=>exact ⟨h.b3.cell (j:=0) (by decide),two_at h.b0 rfl rfl⟩
  | 1,_=>exact ⟨h.b3.cell (j:=1) (by decide),two_at h.b1 rfl rfl⟩
  | 2,_=>exact ⟨h.b3.cell (j:=2) (by decide),two_at h.b2 rfl rfl⟩
 ·have hi':i<2:=hi
  refine ⟨g+6,0,rfl,h.b6.lt,?_⟩
  match i,hi' with
  | 0,_ =>
   refine ⟨h.b6.cell (j:=0) (by decide),h.b6.cell (j:=1) (by decide),Nat.le_refl _,le_max (n:=2) (by decide),fun j hj => ?_,fun e=>by cases e⟩
   have hj':j<2:=hj
   refine ⟨g+4,0,rfl,h.b4.lt,?_⟩
   match j,hj' with
   | 0,_=>exact ⟨h.b4.cell (j:=0) (by decide),h.b4.cell (j:=1) (by decide),h.b4.cell (j:=2) (by decide),h.b4.cell (j:=3) (by decide)⟩
   | 1,_=>exact ⟨h.b4.cell (j:=4) (by decide),h.b4.cell (j:=5) (by decide),h.b4.cell (j:=6) (by decide),h.b4.cell (j:=7) (by decide)⟩
  | 1,_ =>
   refine ⟨h.b6.cell (j:=2) (by decide),h.b6.cell (j:=3) (by decide),Nat.le_refl _,le_max (n:=1) (by decide),fun j hj => ?_,fun e=>by cases e⟩
   have hj':j<1:=hj
   refine ⟨g+5,0,rfl,h.b5.lt,?_⟩
   match j,hj' with
   | 0,_=>exact ⟨h.b5.cell (j:=0) (by decide),h.b5.cell (j:=1) (by decide),h.b5.cell (j:=2) (by decide),h.b5.cell (j:=3) (by decide)⟩
 ·have hi':i<3:=hi
  refine ⟨g+7,0,rfl,h.b7.lt,?_⟩
  match i,hi' with
  | 0,_=>exact ⟨h.b7.cell (j:=0) (by decide),h.b7.cell (j:=1) (by decide),h.b7.cell (j:=2) (by decide),h.b7.cell (j:=3) (by decide)⟩
  | 1,_=>exact ⟨h.b7.cell (j:=4) (by decide),h.b7.cell (j:=5) (by decide),h.b7.cell (j:=6) (by decide),h.b7.cell (j:=7) (by decide)⟩
  | 2,_=>exact ⟨h.b7.cell (j:=8) (by decide),h.b7.cell (j:=9) (by decide),h.b7.cell (j:=10) (by decide),h.b7.cell (j:=11) (by decide)⟩
 ·have hi':i<1:=hi
  refine ⟨g+8,0,rfl,h.b8.lt,?_⟩
  match i,hi' with
  | 0,_=>exact ⟨h.b8.cell (j:=0) (by decide),h.b8.cell (j:=1) (by decide),h.b8.cell (j:=2) (by decide),h.b8.cell (j:=3) (by decide)⟩
set_option maxRecDepth 100000 in
set_option maxHeartbeats 4000000 in
theorem busy_any (w:World) :
  Calls Tryz.prog 27 #[] w fun e w'=>∃ g,e = .returned (busyS g 2 0).val∧w.heap.size<g∧BusyB w' g 2 0∧Below w.heap.size w w':=by
 go_enter Tryz.func27,Tryz.ntmps27
 go_wp2
 refine bodyPost_ret (v:=(busyS (w.heap.size+1) 2 0).val) (by simp [results,Tryz.results27,go_sem,busyS,St.val]) rfl ?_
 refine ⟨w.heap.size+1,rfl,by omega,⟨Blk.alloc (Blk.alloc (Blk.alloc (Blk.alloc (Blk.alloc (Blk.alloc (Blk.alloc (Blk.alloc (Blk.alloc (Blk.alloc (Blk.alloc (Blk.mk' (by simp<;>omega) rfl) _) _) _) _) _) _) _) _) _) _) _,Blk.alloc (Blk.alloc (Blk.alloc (Blk.alloc (Blk.alloc (Blk.alloc (Blk.alloc (Blk.alloc (Blk.alloc (Blk.alloc (Blk.mk' (by simp<;>omega) rfl) _) _) _) _) _) _) _) _) _) _,Blk.alloc (Blk.alloc (Blk.alloc (Blk.alloc (Blk.alloc (Blk.alloc (Blk.alloc (Blk.alloc (Blk.alloc (Blk.mk' (by simp<;>omega) rfl) _) _) _) _) _) _) _) _) _,Blk.alloc (Blk.alloc (Blk.alloc (Blk.alloc (Blk.alloc (Blk.alloc (Blk.alloc (Blk.alloc (Blk.mk' (by simp<;>omega) rfl) _) _) _) _) _) _) _) _,Blk.alloc (Blk.alloc (Blk.alloc (Blk.alloc (Blk.alloc (Blk.alloc (Blk.alloc (Blk.mk' (by simp<;>omega) rfl) _) _) _) _) _) _) _,Blk.alloc (Blk.alloc (Blk.alloc (Blk.alloc (Blk.alloc (Blk.alloc (Blk.mk' (by simp<;>omega) rfl) _) _) _) _) _) _,Blk.alloc (Blk.alloc (Blk.alloc (Blk.alloc (Blk.alloc (Blk.mk' (by simp<;>omega) rfl) _) _) _) _) _,Blk.alloc (Blk.alloc (Blk.alloc (Blk.alloc (Blk.mk' (by simp<;>omega) rfl) _) _) _) _,Blk.alloc (Blk.alloc (Blk.alloc (Blk.mk' (by simp<;>omega) rfl) _) _) _,Blk.alloc (Blk.alloc (Blk.mk' (by simp<;>omega) rfl) _) _,Blk.alloc (Blk.mk' (by simp<;>omega) rfl) _,Blk.mk' (by simp<;>omega) rfl⟩,?_⟩
 exact (((((((((((((Below.refl _ _).alloc (Nat.le_refl _) _).alloc (by simp<;>omega) _).alloc (by simp<;>omega) _).alloc (by simp<;>omega) _).alloc (by simp<;>omega) _).alloc (by simp<;>omega) _).alloc (by simp<;>omega) _).alloc (by simp<;>omega) _).alloc (by simp<;>omega) _).alloc (by simp<;>omega) _).alloc (by simp<;>omega) _).alloc (by simp<;>omega) _).alloc (by simp<;>omega) _
end Go.Proofs.YtbcacebifpagpagGreat
namespace Go.Proofs.YtbcacebifpagpagGreat
open Go.RowKit
set_option linter.unusedVariables false
theorem anyB_zero {n:Nat} {f:Nat→Bool} (h:n=0):anyB n f=false:=anyB_no fun j hj=>absurd hj (by omega)
theorem sumTo_zero {z:Nat→Int}:∀ {n:Nat},(∀ j,j<n→z j=0)→sumTo z n=0
 | 0,_=>rfl
 | n+1,h=>by simp only [sumTo];rw [sumTo_zero (n:=n) fun j hj=>h j (by omega),h n (by omega)];rfl
theorem begun_shelf {p:Pl} {s:St} (h0:planE p=0) (b:BegunS p s):RightS p s.on :=
 ⟨rightP h0,b.1,fun i hi=>(b.2.1 i (by have:=b.1;omega)).1,fun i hi j hj=>by rw [(b.2.1 i (by have:=b.1;omega)).2 j hj];omega⟩
theorem begun_avail {p:Pl} {s:St} (b:BegunS p s) {i j:Nat} (hi:i<p.nb) (hj:j<p.ns):availZ s i j=0:=by
 obtain ⟨-,hr,-,hh,hm,-⟩:=b
 unfold availZ
 rw [hh,hm,(hr i hi).2 j hj]
 rfl
theorem begun_sum {p:Pl} {r:Rw} {low:Int} (h:r.n=p.ns∧∀ j,j<p.ns→r.z j=0) (hl:low≤0):badSum p r low=false:=by
 unfold badSum
 rw [Bool.or_eq_false_iff]
 refine ⟨by simp [h.1],anyB_no fun j hj => ?_⟩
 rw [h.2 j (by rw [← h.1];exact hj),inB_mk ⟨hl,by omega⟩]
 rfl
theorem begun_state {p:Pl} {s:St} (h0:planE p=0) (b:BegunS p s):stateE p s=0:=by
 have hS:=shelfE_mk h0 (begun_shelf h0 b)
 have hb:=b
 obtain ⟨hn,hr,ho,hh,hm,h1,h2,h3⟩:=hb
 have e1:tooManyB s=false:=by unfold tooManyB;rw [ho,hm];rfl
 have e2:badOrdersB p s=false:=anyB_zero ho
 have e3:badHoldsB p s=false:=by unfold badHoldsB;rw [hh];rfl
 have e4:badMovesB p s=false:=anyB_zero hm
 have e5:badSumsB p s=false:=by
  unfold badSumsB
  rw [begun_sum h1 (by omega),begun_sum h2 (by omega),begun_sum h3 (by omega)]
  rfl
 have e6:wrongGoodsB p s=false:=anyB_no fun g hg=>by
  rw [wrongGood_eq,sumTo_zero (fun i hi=>(hr i (by omega)).2 g hg),h1.2 g hg,h2.2 g hg,h3.2 g hg,anyB_no fun i hi=>by rw [begun_avail b hi hg];rfl]
  rfl
 have e7:wrongOrdersB s=false:=anyB_zero ho
 rw [stateE_sum hS e1 e2 e3 e4 e5,e6,e7]
 rfl
end Go.Proofs.YtbcacebifpagpagGreat
namespace Go.Proofs.YtbcacebifpagpagGreat
open Go.RowKit Go.Shelf Go.Sort
set_option linter.unusedVariables false
theorem enterE_zero {p:Pl} {s:St} {l:Hs} (h:enterE p s l=0):stateE p s=0∧1≤l.n∧l.n≤3∧¬ s.os.n=4∧anyB l.n (fun j=>outL p (l.z j))=false∧anyB l.n (fun j=>begunL (l.z j))=false:=by
 by_cases h0:stateE p s=0
 ·by_cases h1:s.os.n=4∨¬ (1≤l.n∧l.n≤3)
  ·rw [enterE_many h0 h1] at h;exact absurd h (by decide)
  ·cases h2:anyB l.n (fun j=>outL p (l.z j))
   ·cases h3:anyB l.n (fun j=>begunL (l.z j))
    ·exact ⟨h0,by omega,by omega,by omega,rfl,rfl⟩
    ·rw [enterE_form h0 h1 (by rw [h2];decide) h3] at h;exact absurd h (by decide)
   ·rw [enterE_range h0 h1 h2] at h;exact absurd h (by decide)
 ·rw [enterE_state h0] at h;exact absurd h h0
end Go.Proofs.YtbcacebifpagpagGreat
namespace Go.Proofs.YtbcacebifpagpagGreat
open Go.RowKit
set_option linter.unusedVariables false
theorem goods_no {p:Pl} {s:St} {g:Nat} (h:wrongGood p s g=false):sumTo (fun i=>(s.on.r i).z g) s.on.n=s.si.z g - s.so.z g+s.sf.z g∧∀ b,b<p.nb→0≤availZ s b g:=by
 rw [wrongGood_eq,Bool.or_eq_false_iff] at h
 refine ⟨by simpa using h.1,fun b hb => ?_⟩
 have:=anyB_false h.2 b hb
 simpa using this
theorem goods_mk {p:Pl} {s:St} {g:Nat} (h1:sumTo (fun i=>(s.on.r i).z g) s.on.n=s.si.z g - s.so.z g+s.sf.z g) (h2:∀ b,b<p.nb→0≤availZ s b g):wrongGood p s g=false:=by
 rw [wrongGood_eq,Bool.or_eq_false_iff]
 exact ⟨by simp [h1],anyB_no fun b hb=>by have:=h2 b hb;simpa using this⟩
theorem recvE_zeros {p:Pl} {s:St} {bin good n:Int} (h:recvE p s bin good n=0):stateE p s=0∧(0≤bin∧bin<p.nb)∧(0≤good∧good<p.ns)∧(1≤n∧n≤200)∧n*p.zs good.toNat≤freeZ p s bin.toNat∧lyingZ s bin.toNat good.toNat+n≤200∧s.si.z good.toNat+n≤1048576:=by
 unfold recvE at h
 by_cases h0:stateE p s=0
 ·rw [if_pos h0] at h
  cases h1:(inB bin 0 ((p.nb:Int) - 1)&&inB good 0 ((p.ns:Int) - 1)&&inB n 1 200)
  ·rw [h1] at h;simp at h
  ·rw [h1] at h
   simp only [if_true] at h
   simp only [Bool.and_eq_true] at h1
   have a:=inB_true h1.1.1
   have b:=inB_true h1.1.2
   have c:=inB_true h1.2
   by_cases h2:freeZ p s bin.toNat<n*p.zs good.toNat
   ·rw [if_pos h2] at h;simp at h
   ·rw [if_neg h2] at h
    by_cases h3:200<lyingZ s bin.toNat good.toNat+n∨1048576<s.si.z good.toNat+n
    ·rw [if_pos h3] at h;simp at h
    ·exact ⟨h0,by omega,by omega,c,by omega,by omega,by omega⟩
 ·rw [if_neg h0] at h;exact absurd h h0
section
variable {p:Pl} {s:St} {b g:Nat} {n:Int}
theorem recv_num (i j:Nat):((recvT s b g n).on.r i).z j=(s.on.r i).z j+if i=b∧j=g then n else 0:=by
 show (if i=b then setRw (s.on.r i) g ((s.on.r b).z g+n) else s.on.r i).z j=_
 by_cases hi:i=b
 ·subst hi
  rw [if_pos rfl]
  show (if j=g then (s.on.r i).z g+n else (s.on.r i).z j)=_
  by_cases hj:j=g
  ·subst hj;simp
  ·simp [hj]
 ·rw [if_neg hi]
  simp [hi]
theorem recv_len (i:Nat):((recvT s b g n).on.r i).n=(s.on.r i).n:=by
 show (if i=b then setRw (s.on.r i) g ((s.on.r b).z g+n) else s.on.r i).n=_
 by_cases hi:i=b
 ·rw [if_pos hi];rfl
 ·rw [if_neg hi]
theorem recv_in (j:Nat):(recvT s b g n).si.z j=s.si.z j+if j=g then n else 0:=by
 show (if j=g then s.si.z g+n else s.si.z j)=_
 by_cases hj:j=g
 ·subst hj;simp
 ·simp [hj]
theorem recv_avail (i j:Nat):availZ (recvT s b g n) i j=availZ s i j+if i=b∧j=g then n else 0:=by
 unfold availZ
 have e1:heldTo (recvT s b g n) i j (recvT s b g n).hs.n=heldTo s i j s.hs.n:=heldTo_eq (fun _ _=>rfl) (fun _ _=>rfl)
 have e2:fromTo (recvT s b g n) i j (recvT s b g n).ms.n=fromTo s i j s.ms.n:=fromTo_eq (fun _ _=>rfl)
 rw [recv_num,e1,e2]
 omega
theorem recv_right (r:RightT p s) (hb:b<p.nb) (hg:g<p.ns) (hn:1≤n) (h1:lyingZ s b g+n≤200) (h2:s.si.z g+n≤1048576):RightT p (recvT s b g n):=by
 have f:=r.fm
 have hbn:b<s.on.n:=by rw [f.sh.n];exact hb
 have hc:=(comingTo_bd (s:=s) (b:=b) (g:=g) f.moveN).1
 have hs:RightS p (recvT s b g n).on:=by
  refine ⟨f.sh.pl,f.sh.n,fun i hi=>by rw [recv_len];exact f.sh.len i hi,fun i hi j hj => ?_⟩
  have:=f.sh.num i hi j hj
  rw [recv_num]
  by_cases hij:i=b∧j=g
  ·obtain ⟨rfl,rfl⟩:=hij
   rw [if_pos ⟨rfl,rfl⟩]
   unfold lyingZ at h1
   omega
  ·rw [if_neg hij];omega
 refine ⟨⟨hs,shelfE_mk (rightS f.sh0).1 hs,f.os4,f.ms8,f.lns,f.kind,f.line,f.hold,f.home,f.move,f.sin,f.son,f.sfn,fun j hj => ?_,f.sob,f.sfb⟩,fun j hj => ?_,r.orders⟩
 ·have:=f.sib j hj
  rw [recv_in]
  by_cases hj':j=g
  ·subst hj';rw [if_pos rfl];omega
  ·rw [if_neg hj'];omega
 ·obtain ⟨a1,a2⟩:=goods_no (r.goods j hj)
  refine goods_mk ?_ fun i hi => ?_
  ·show sumTo (fun i=>((recvT s b g n).on.r i).z j) s.on.n=(recvT s b g n).si.z j - s.so.z j+s.sf.z j
   rw [recv_in]
   by_cases hj':j=g
   ·subst hj'
    rw [sumTo_put (z:=fun i=>(s.on.r i).z j) (m:=b) (n:=n) hbn fun i hi=>by
     show ((recvT s b j n).on.r i).z j=_
     rw [recv_num]
     by_cases hib:i=b<;>simp [hib],if_pos rfl,a1]
    omega
   ·rw [sumTo_congr (z':=fun i=>(s.on.r i).z j) fun i hi=>by
     show ((recvT s b g n).on.r i).z j=_
     rw [recv_num]
     simp [hj'],if_neg hj',a1]
    omega
  ·rw [recv_avail]
   have:=a2 i hi
   split<;>omega
end
section
variable {p:Pl} {s:St} {l:Hs}
theorem enter_old {i:Nat} (hi:i<s.os.n):(enterT s l).os.z i=s.os.z i:=by
 show (if i=s.os.n then (⟨0,l⟩:Od) else s.os.z i)=_
 rw [if_neg (by omega)]
theorem enter_new:(enterT s l).os.z s.os.n=⟨0,l⟩:=by
 show (if s.os.n=s.os.n then (⟨0,l⟩:Od) else s.os.z s.os.n)=_
 rw [if_pos rfl]
theorem keptS_none {z:Nat→Hd} {o l:Int}:∀ {n:Nat},(∀ j,j<n→¬ (z j).o=o)→keptS z o l n=0
 | 0,_=>rfl
 | n+1,h=>by
  simp only [keptS]
  rw [keptS_none (n:=n) fun j hj=>h j (by omega),if_neg fun e=>h n (by omega) e.1]
  rfl
theorem enter_right (h:enterE p s l=0):RightT p (enterT s l):=by
 obtain ⟨h0,l1,l3,o4,k3,k4⟩:=enterE_zero h
 have r:=rightT h0
 have f:=r.fm
 have os4:=f.os4
 have ln:∀ j,j<l.n→((0≤(l.z j).o∧(l.z j).o<p.ns)∧1≤(l.z j).l∧(l.z j).l≤200)∧(l.z j).b=0∧(l.z j).n=0:=fun j hj=>by
  have a:=anyB_false k3 j hj
  have b:=anyB_false k4 j hj
  simp only [outL,begunL,Bool.or_eq_false_iff,Bool.not_eq_false',bne_eq_false_iff_eq] at a b
  have a1:=inB_true a.1
  have a2:=inB_true a.2
  exact ⟨⟨by omega,a2⟩,b⟩
 have hl:∀ j,j<l.n→badLine p (l.z j)=false:=fun j hj=>by
  obtain ⟨⟨a1,a2⟩,a3,a4⟩:=ln j hj
  unfold badLine
  rw [inB_mk (by omega),inB_mk (by omega),inB_mk (by omega),inB_mk (by omega)]
  rfl
 have hgo:∀ j,j<s.hs.n→goodH (enterT s l) (s.hs.z j)=goodH s (s.hs.z j):=fun j hj=>by
  have:=(homeless_no (f.home j hj)).1
  unfold goodH
  rw [enter_old this.2]
 have hav:∀ b g,availZ (enterT s l) b g=availZ s b g:=fun b g=>by
  unfold availZ
  have e1:heldTo (enterT s l) b g (enterT s l).hs.n=heldTo s b g s.hs.n:=heldTo_eq (fun _ _=>rfl) hgo
  have e2:fromTo (enterT s l) b g (enterT s l).ms.n=fromTo s b g s.ms.n:=fromTo_eq (fun _ _=>rfl)
  rw [e1,e2]
  rfl
 have hi':∀ i,i<(enterT s l).os.n→i<s.os.n∨i=s.os.n:=fun i hi=>by
  have:i<s.os.n+1:=hi
  omega
 refine ⟨⟨f.sh,f.sh0,by show s.os.n+1≤4;omega,f.ms8,fun i hi => ?_,fun i hi => ?_,fun i hi j hj => ?_,f.hold,fun i hi => ?_,f.move,f.sin,f.son,f.sfn,f.sib,f.sob,f.sfb⟩,fun g hg => ?_,fun i hi => ?_⟩
 ·rcases hi' i hi with h | rfl
  ·rw [enter_old h];exact f.lns i h
  ·rw [enter_new];exact ⟨l1,l3⟩
 ·rcases hi' i hi with h | rfl
  ·rw [enter_old h];exact f.kind i h
  ·rw [enter_new];show (0:Int)≤0∧(0:Int)≤2;omega
 ·rcases hi' i hi with h | rfl
  ·rw [enter_old h] at hj ⊢;exact f.line i h j hj
  ·rw [enter_new] at hj ⊢;exact hl j hj
 ·obtain ⟨a1,a2,a3⟩:=homeless_no (f.home i hi)
  refine homeless_mk (s:=enterT s l) ⟨a1.1,?_⟩ ⟨a2.1,?_⟩ a3
  ·show _<s.os.n+1
   have:=a1.2
   show (s.hs.z i).o.toNat<s.os.n+1
   omega
  ·show (s.hs.z i).l.toNat<((enterT s l).os.z (s.hs.z i).o.toNat).ls.n
   rw [enter_old a1.2];exact a2.2
 ·obtain ⟨a1,a2⟩:=goods_no (r.goods g hg)
  exact goods_mk a1 fun b hb=>by rw [hav];exact a2 b hb
 ·rcases hi' i hi with h | rfl
  ·have:=r.orders i h
   unfold wrongOrder at this ⊢
   rw [enter_old h]
   exact this
  ·unfold wrongOrder
   rw [enter_new]
   show (((0:Int)==1 && !anyB l.n (fun j=>lacksL (l.z j)))||anyB l.n (fun j=>wrongL 0 (l.z j) (keptS s.hs.z s.os.n j s.hs.n)))=false
   rw [Bool.or_eq_false_iff]
   refine ⟨by simp,anyB_no fun j hj => ?_⟩
   obtain ⟨-,a3,a4⟩:=ln j hj
   rw [keptS_none fun q hq e=>by have:=(homeless_no (f.home q hq)).1;omega]
   unfold wrongL
   rw [if_pos rfl,a3,a4]
   rfl
end
theorem sumTo_at {z z':Nat→Int} {m:Nat} {n:Int} {k:Nat} (hm:m<k) (h:∀ i,i<k→z' i=z i+if i=m then n else 0):sumTo z' k=sumTo z k+n :=
 sumTo_put hm fun i hi=>by rw [h i hi];by_cases e:i=m<;>simp [e]
theorem sumTo_same {z z':Nat→Int} {k:Nat} (h:∀ i,i<k→z' i=z i):sumTo z' k=sumTo z k:=sumTo_congr h
def lineHeld (x:St) (b g:Int) (k:Nat) (o l:Nat):Int:=if ((x.os.z o).ls.z l).o=g then keptV k x.hs.z o l b else 0
def heldSum (x:St) (b g:Int) (k:Nat):Int:=sumTo (fun o=>sumTo (fun l=>lineHeld x b g k o l) (x.os.z o).ls.n) x.os.n
theorem heldTo_sum {p:Pl} {x:St} (b g:Int):∀ k,(∀ j,j<k→homeless p x (x.hs.z j)=false)→anyB k (badH x.hs.z)=false→heldTo x b g k=heldSum x b g k
 | 0,_,_=>by
  unfold heldSum
  rw [sumTo_zero fun o _=>sumTo_zero fun l _=>by unfold lineHeld keptV;simp]
  rfl
 | k+1,h,hr=>by
  simp only [heldTo]
  rw [heldTo_sum b g k (fun j hj=>h j (by omega)) (right_pred hr)]
  obtain ⟨h1,h2,h3⟩:=homeless_no (h k (by omega))
  have key:∀ o l,lineHeld x b g (k+1) o l=lineHeld x b g k o l+if o=(x.hs.z k).o.toNat∧l=(x.hs.z k).l.toNat then (if (x.hs.z k).b=b∧goodH x (x.hs.z k)=g then (x.hs.z k).n else 0) else 0:=fun o l=>by
   unfold lineHeld
   rw [keptV_succ hr]
   by_cases hol:o=(x.hs.z k).o.toNat∧l=(x.hs.z k).l.toNat
   ·rw [if_pos hol]
    obtain ⟨rfl,rfl⟩:=hol
    have e1:(((x.hs.z k).o.toNat:Nat):Int)=(x.hs.z k).o:=by omega
    have e2:(((x.hs.z k).l.toNat:Nat):Int)=(x.hs.z k).l:=by omega
    rw [e1,e2]
    by_cases hg:goodH x (x.hs.z k)=g
    ·have hg':((x.os.z (x.hs.z k).o.toNat).ls.z (x.hs.z k).l.toNat).o=g:=hg
     rw [if_pos hg',if_pos hg']
     by_cases hb:(x.hs.z k).b=b
     ·have hm:matchH (x.hs.z k) (x.hs.z k).o (x.hs.z k).l b=true:=by rw [← hb];exact matchH_self _
      have e3:(if (x.hs.z k).b=b∧goodH x (x.hs.z k)=g then (x.hs.z k).n else 0)=(x.hs.z k).n:=if_pos ⟨hb,hg⟩
      rw [hm,e3,if_pos rfl]
     ·have hm:matchH (x.hs.z k) (x.hs.z k).o (x.hs.z k).l b=false:=by
       cases hm:matchH (x.hs.z k) (x.hs.z k).o (x.hs.z k).l b
       ·rfl
       ·exact absurd (matchH_true hm).2.2 hb
      have e3:(if (x.hs.z k).b=b∧goodH x (x.hs.z k)=g then (x.hs.z k).n else 0)=0:=if_neg (fun e=>hb e.1)
      rw [hm,e3]
      simp
    ·have hg':¬ ((x.os.z (x.hs.z k).o.toNat).ls.z (x.hs.z k).l.toNat).o=g:=hg
     rw [if_neg hg',if_neg hg',if_neg (fun e=>hg e.2)]
     rfl
   ·rw [if_neg hol]
    have:matchH (x.hs.z k) o l b=false:=by
     cases hm:matchH (x.hs.z k) o l b
     ·rfl
     ·have:=matchH_true hm
      exact absurd ⟨by omega,by omega⟩ hol
    rw [this]
    simp
  unfold heldSum
  refine (sumTo_at h1.2 fun o ho => ?_).symm
  by_cases hoo:o=(x.hs.z k).o.toNat
  ·rw [if_pos hoo]
   subst hoo
   exact sumTo_at h2.2 fun l hl=>by
    rw [key]
    by_cases hll:l=(x.hs.z k).l.toNat
    ·rw [if_pos ⟨rfl,hll⟩,if_pos hll]
    ·rw [if_neg (fun e=>hll e.2),if_neg hll]
  ·rw [if_neg hoo,Int.add_zero]
   exact sumTo_same fun l hl=>by rw [key,if_neg (fun e=>hoo e.1)];omega
def lessL (x:Hd) (n:Int):Hd:=⟨x.o,x.l,x.b,x.n - n⟩
structure Took (s:St) (o l:Nat) (n:Int) (t:Tk) (x:St):Prop where
 on:x.on.n=s.on.n∧∀ i,i<x.on.n→(x.on.r i).n=(s.on.r i).n∧∀ j,j<(x.on.r i).n→(x.on.r i).z j=(s.on.r i).z j
 os:x.os.n=s.os.n∧∀ i,i<x.os.n→(x.os.z i).k=(s.os.z i).k∧(x.os.z i).ls.n=(s.os.z i).ls.n∧∀ j,j<(x.os.z i).ls.n→(x.os.z i).ls.z j=if i=o∧j=l then lessL ((s.os.z i).ls.z j) (n - t.left) else (s.os.z i).ls.z j
 right:anyB x.hs.n (badH x.hs.z)=false
 kept:∀ a b c:Int,keptV x.hs.n x.hs.z a b c=keptV s.hs.n s.hs.z a b c+if a=o∧b=l then t.took c else 0
 ms:x.ms.n=s.ms.n∧∀ j,j<x.ms.n→x.ms.z j=s.ms.z j
 si:x.si.n=s.si.n∧∀ j,j<x.si.n→x.si.z j=s.si.z j
 so:x.so.n=s.so.n∧∀ j,j<x.so.n→x.so.z j=s.so.z j
 sf:x.sf.n=s.sf.n∧∀ j,j<x.sf.n→x.sf.z j=s.sf.z j
theorem Took.same {s:St} {o l:Nat} {n:Int} {t:Tk} {x y:St} (h:Took s o l n t x) (k:Took s o l n t y):SameT x y:=by
 have ho:∀ i,i<x.os.n→i<y.os.n:=fun i hi=>by rw [k.os.1,← h.os.1];exact hi
 refine ⟨⟨h.on.1.trans k.on.1.symm,fun i hi => ?_⟩,⟨h.os.1.trans k.os.1.symm,fun i hi => ?_⟩,right_ext h.right k.right fun a b c=>(h.kept a b c).trans (k.kept a b c).symm,⟨h.ms.1.trans k.ms.1.symm,fun j hj=>(h.ms.2 j hj).trans (k.ms.2 j (by rw [k.ms.1,← h.ms.1];exact hj)).symm⟩,⟨h.si.1.trans k.si.1.symm,fun j hj=>(h.si.2 j hj).trans (k.si.2 j (by rw [k.si.1,← h.si.1];exact hj)).symm⟩,⟨h.so.1.trans k.so.1.symm,fun j hj=>(h.so.2 j hj).trans (k.so.2 j (by rw [k.so.1,← h.so.1];exact hj)).symm⟩,⟨h.sf.1.trans k.sf.1.symm,fun j hj=>(h.sf.2 j hj).trans (k.sf.2 j (by rw [k.sf.1,← h.sf.1];exact hj)).symm⟩⟩
 ·have a:=h.on.2 i hi
  have b:=k.on.2 i (by rw [k.on.1,← h.on.1];exact hi)
  exact ⟨a.1.trans b.1.symm,fun j hj=>(a.2 j hj).trans (b.2 j (by rw [b.1,← a.1];exact hj)).symm⟩
 ·have a:=h.os.2 i hi
  have b:=k.os.2 i (ho i hi)
  exact ⟨a.1.trans b.1.symm,a.2.1.trans b.2.1.symm,fun j hj=>(a.2.2 j hj).trans (b.2.2 j (by rw [b.2.1,← a.2.1];exact hj)).symm⟩
section
variable {p:Pl} {s x:St} {o l:Nat} {n:Int} {t:Tk}
theorem Took.line (h:Took s o l n t x) {i j:Nat} (hi:i<s.os.n) (hj:j<(s.os.z i).ls.n):(x.os.z i).ls.z j=if i=o∧j=l then lessL ((s.os.z i).ls.z j) (n - t.left) else (s.os.z i).ls.z j:=by
 have a:=h.os.2 i (by rw [h.os.1];exact hi)
 exact a.2.2 j (by rw [a.2.1];exact hj)
theorem Took.good (h:Took s o l n t x) {i j:Nat} (hi:i<s.os.n) (hj:j<(s.os.z i).ls.n):((x.os.z i).ls.z j).o=((s.os.z i).ls.z j).o:=by
 rw [h.line hi hj]
 split<;>rfl
theorem Took.keptS (h:Took s o l n t x) (f:Formed p s) (hsum:sumTo (fun b=>t.took b) 6=n - t.left) (a b:Int):Go.Proofs.YtbcacebifpagpagGreat.keptS x.hs.z a b x.hs.n=Go.Proofs.YtbcacebifpagpagGreat.keptS s.hs.z a b s.hs.n+if a=o∧b=l then n - t.left else 0:=by
 rw [← kept_eq x.hs.z a b _ h.right,← kept_eq s.hs.z a b _ f.hold]
 by_cases hab:a=o∧b=l
 ·rw [if_pos hab,← hsum]
  have:∀ m,sumTo (fun c=>keptV x.hs.n x.hs.z a b c) m=sumTo (fun c=>keptV s.hs.n s.hs.z a b c) m+sumTo (fun c=>t.took c) m:=fun m=>by
   induction m with
   | zero=>rfl
   | succ m ih=>simp only [sumTo];rw [ih,h.kept,if_pos hab];omega
  exact this 6
 ·rw [if_neg hab,Int.add_zero]
  exact sumTo_same fun c _=>by rw [h.kept,if_neg hab];omega
theorem Took.home (h:Took s o l n t x) (f:Formed p s) (ho:o<s.os.n) (hl:l<(s.os.z o).ls.n) (hin:∀ b,¬ t.took b=0→0≤b∧b<p.nb):∀ i,i<x.hs.n→homeless p x (x.hs.z i)=false:=by
 intro i hi
 have fx:=fineH_true (right_fine h.right i hi)
 have e:=(kept_at h.right hi (matchH_self (x.hs.z i))).1
 rw [h.kept] at e
 have lens:∀ a,a<s.os.n→(x.os.z a).ls.n=(s.os.z a).ls.n:=fun a ha=>(h.os.2 a (by rw [h.os.1];exact ha)).2.1
 by_cases h0:keptV s.hs.n s.hs.z (x.hs.z i).o (x.hs.z i).l (x.hs.z i).b=0
 ·by_cases hol:(x.hs.z i).o=o∧(x.hs.z i).l=l
  ·rw [if_pos hol,h0] at e
   have hb:=hin (x.hs.z i).b (by omega)
   have eo:(x.hs.z i).o.toNat=o:=by omega
   have el:(x.hs.z i).l.toNat=l:=by omega
   refine homeless_mk ⟨by omega,by rw [h.os.1];omega⟩ ⟨by omega,?_⟩ hb
   rw [eo,el,lens o ho]
   exact hl
  ·rw [if_neg hol,h0] at e
   omega
 ·obtain ⟨q1,q2,-⟩:=kept_pos f.hold h0
  obtain ⟨a1,a2,a3⟩:=homeless_no (f.home _ q1)
  obtain ⟨m1,m2,m3⟩:=matchH_true q2
  rw [m1,m2] at a2
  rw [m1] at a1
  rw [m3] at a3
  exact homeless_mk ⟨a1.1,by rw [h.os.1];exact a1.2⟩ ⟨a2.1,by rw [lens _ a1.2];exact a2.2⟩ a3
theorem Took.num (h:Took s o l n t x) (f:Formed p s) {b g:Nat} (hb:b<p.nb) (hg:g<p.ns):(x.on.r b).z g=(s.on.r b).z g:=by
 have hb':b<s.on.n:=by rw [f.sh.n];exact hb
 have r:=h.on.2 b (by rw [h.on.1];exact hb')
 exact r.2 g (by rw [r.1,f.sh.len b hb'];exact hg)
theorem Took.formed (h:Took s o l n t x) (f:Formed p s) (ho:o<s.os.n) (hl:l<(s.os.z o).ls.n) (hin:∀ b,¬ t.took b=0→0≤b∧b<p.nb) (h0:0≤n - t.left) (h1:n - t.left≤((s.os.z o).ls.z l).n):Formed p x:=by
 have hp:=(rightS f.sh0).1
 have hs:RightS p x.on:=⟨f.sh.pl,h.on.1.trans f.sh.n,fun i hi=>(h.on.2 i hi).1.trans (f.sh.len i (by rw [← h.on.1];exact hi)),fun i hi j hj=>by
  have hi':i<s.on.n:=by rw [← h.on.1];exact hi
  rw [h.num f (by rw [← f.sh.n];exact hi') hj]
  exact f.sh.num i hi' j hj⟩
 have oo:∀ i,i<x.os.n→i<s.os.n:=fun i hi=>by rw [← h.os.1];exact hi
 refine ⟨hs,shelfE_mk hp hs,by rw [h.os.1];exact f.os4,by rw [h.ms.1];exact f.ms8,fun i hi=>by rw [(h.os.2 i hi).2.1];exact f.lns i (oo i hi),fun i hi=>by rw [(h.os.2 i hi).1];exact f.kind i (oo i hi),fun i hi j hj => ?_,h.right,h.home f ho hl hin,fun i hi => ?_,h.si.1.trans f.sin,h.so.1.trans f.son,h.sf.1.trans f.sfn,fun j hj => ?_,fun j hj => ?_,fun j hj => ?_⟩
 ·have hj':j<(s.os.z i).ls.n:=by rw [← (h.os.2 i hi).2.1];exact hj
  rw [(h.os.2 i hi).2.2 j hj]
  by_cases hij:i=o∧j=l
  ·rw [if_pos hij]
   obtain ⟨rfl,rfl⟩:=hij
   obtain ⟨b1,b2,b3,b4⟩:=badLine_no (f.line i (oo i hi) j hj')
   unfold badLine lessL
   rw [inB_mk (by show _∧_;dsimp only;omega),inB_mk (by show _∧_;dsimp only;omega),inB_mk (by show _∧_;dsimp only;omega),inB_mk (by show _∧_;dsimp only;omega)]
   rfl
  ·rw [if_neg hij]
   exact f.line i (oo i hi) j hj'
 ·rw [h.ms.2 i hi]
  exact f.move i (by rw [← h.ms.1];exact hi)
 ·rw [h.si.2 j (by rw [h.si.1,f.sin];exact hj)];exact f.sib j hj
 ·rw [h.so.2 j (by rw [h.so.1,f.son];exact hj)];exact f.sob j hj
 ·rw [h.sf.2 j (by rw [h.sf.1,f.sfn];exact hj)];exact f.sfb j hj
theorem Took.held (h:Took s o l n t x) (f:Formed p s) (fx:Formed p x) (ho:o<s.os.n) (hl:l<(s.os.z o).ls.n) (b g:Int):heldTo x b g x.hs.n=heldTo s b g s.hs.n+if ((s.os.z o).ls.z l).o=g then t.took b else 0:=by
 rw [heldTo_sum b g _ fx.home fx.hold,heldTo_sum b g _ f.home f.hold]
 have lens:∀ a,a<s.os.n→(x.os.z a).ls.n=(s.os.z a).ls.n:=fun a ha=>(h.os.2 a (by rw [h.os.1];exact ha)).2.1
 have key:∀ i,i<s.os.n→∀ j,j<(s.os.z i).ls.n→lineHeld x b g x.hs.n i j=lineHeld s b g s.hs.n i j+if i=o∧j=l then (if ((s.os.z o).ls.z l).o=g then t.took b else 0) else 0:=fun i hi j hj=>by
  unfold lineHeld
  rw [h.good hi hj,h.kept]
  by_cases hij:i=o∧j=l
  ·have e1:(if ((i:Nat):Int)=o∧((j:Nat):Int)=l then t.took b else 0)=t.took b:=if_pos (by omega)
   rw [e1,if_pos hij]
   obtain ⟨rfl,rfl⟩:=hij
   by_cases hg:((s.os.z i).ls.z j).o=g<;>simp [hg]
  ·have e1:(if ((i:Nat):Int)=o∧((j:Nat):Int)=l then t.took b else 0)=0:=if_neg (by omega)
   rw [e1,if_neg hij]
   by_cases hg:((s.os.z i).ls.z j).o=g<;>simp [hg]
 unfold heldSum
 rw [h.os.1]
 refine sumTo_at ho fun i hi => ?_
 rw [lens i hi]
 by_cases hio:i=o
 ·subst hio
  rw [if_pos rfl]
  exact sumTo_at hl fun j hj=>by
   rw [key i hi j hj]
   by_cases hjl:j=l
   ·rw [if_pos ⟨rfl,hjl⟩,if_pos hjl]
   ·rw [if_neg (fun e=>hjl e.2),if_neg hjl]
 ·rw [if_neg hio,Int.add_zero]
  exact sumTo_same fun j hj=>by rw [key i hi j hj,if_neg (fun e=>hio e.1),Int.add_zero]
theorem Took.avail (h:Took s o l n t x) (f:Formed p s) (fx:Formed p x) (ho:o<s.os.n) (hl:l<(s.os.z o).ls.n) {b g:Nat} (hb:b<p.nb) (hg:g<p.ns):availZ x b g=availZ s b g - if ((s.os.z o).ls.z l).o=g then t.took b else 0:=by
 unfold availZ
 rw [h.num f hb hg,h.held f fx ho hl,h.ms.1,fromTo_eq fun j hj=>h.ms.2 j (by rw [h.ms.1];exact hj)]
 omega
theorem Took.isRight (h:Took s o l n t x) (r:RightT p s) (ho:o<s.os.n) (hl:l<(s.os.z o).ls.n) (hk:(s.os.z o).k=1) (hin:∀ b,¬ t.took b=0→0≤b∧b<p.nb) (h0:0≤n - t.left) (h1:n - t.left≤((s.os.z o).ls.z l).n)
  (hav:∀ b:Nat,b<p.nb→t.took b≤availZ s b ((s.os.z o).ls.z l).o.toNat) (ht0:∀ b,0≤t.took b) (hsum:sumTo (fun b=>t.took b) 6=n - t.left):RightT p x:=by
 have f:=r.fm
 have fx:=h.formed f ho hl hin h0 h1
 refine ⟨fx,fun g hg => ?_,fun i hi => ?_⟩
 ·obtain ⟨a1,a2⟩:=goods_no (r.goods g hg)
  refine goods_mk ?_ fun b hb => ?_
  ·have e:sumTo (fun i=>(x.on.r i).z g) x.on.n=sumTo (fun i=>(s.on.r i).z g) s.on.n:=by
    rw [h.on.1]
    exact sumTo_congr fun i hi=>h.num f (by rw [← f.sh.n];exact hi) hg
   rw [e,a1,h.si.2 g (by rw [h.si.1,f.sin];exact hg),h.so.2 g (by rw [h.so.1,f.son];exact hg),h.sf.2 g (by rw [h.sf.1,f.sfn];exact hg)]
  ·rw [h.avail f fx ho hl hb hg]
   have a3:=a2 b hb
   by_cases hgg:((s.os.z o).ls.z l).o=g
   ·rw [if_pos hgg]
    have:=hav b hb
    rw [hgg] at this
    have e:((g:Nat):Int).toNat=g:=rfl
    rw [e] at this
    omega
   ·rw [if_neg hgg];omega
 ·have hi':i<s.os.n:=by rw [← h.os.1];exact hi
  have w:=r.orders i hi'
  obtain ⟨e1,e2,e3⟩:=h.os.2 i hi
  have e4:=fun j hj=>h.line (i:=i) (j:=j) hi' hj
  unfold wrongOrder at w ⊢
  rw [Bool.or_eq_false_iff] at w ⊢
  rw [e1,e2]
  refine ⟨?_,anyB_no fun j hj => ?_⟩
  ·rw [← w.1]
   congr 2
   refine anyB_congr fun j hj => ?_
   rw [e4 j hj]
   split<;>rfl
  ·have wj:=anyB_false w.2 j hj
   rw [h.keptS f hsum,e4 j hj]
   by_cases hij:i=o∧j=l
   ·obtain ⟨rfl,rfl⟩:=hij
    rw [if_pos ⟨rfl,rfl⟩,if_pos ⟨rfl,rfl⟩]
    rw [hk] at wj ⊢
    unfold wrongL at wj ⊢
    simp only [lessL] at wj ⊢
    rw [if_neg (by decide),if_neg (by decide)] at wj ⊢
    simp only [Bool.not_eq_false',beq_iff_eq] at wj ⊢
    omega
   ·rw [if_neg hij,if_neg (fun e=>hij ⟨by omega,by omega⟩),Int.add_zero]
    exact wj
end
def missL (s:St) (order line:Int):Bool := !(inB order 0 ((s.os.n:Int) - 1)) || !(inB line 0 (((s.os.z order.toNat).ls.n:Int) - 1))
def allocR (p:Pl) (s:St) (order line n but:Int):Bool:=missL s order line || !(inB n 0 200)||((but !=-1) && !(inB but 0 ((p.nb:Int) - 1)))
def lineAt (s:St) (order line:Int):Hd:=(s.os.z order.toNat).ls.z line.toNat
def allocE (p:Pl) (s:St) (order line n but:Int):Int :=
 if stateE p s=0 then (if allocR p s order line n but then 3 else if (s.os.z order.toNat).k=1 then (if (lineAt s order line).n<n then 3 else 0) else 6) else stateE p s
def tkOf (p:Pl) (s:St) (good:Int) (n but:Int):Tk:=Tk.go (fun b=>availZ s b.toNat good.toNat) n (wayT p but)
def allocL (p:Pl) (s:St) (order line n but:Int):Int:=if allocE p s order line n but=0 then (tkOf p s (lineAt s order line).o n but).left else 0
def AllocOK (p:Pl) (s:St) (order line n but:Int) (x:St):Prop:=(allocE p s order line n but=0→Took s order.toNat line.toNat n (tkOf p s (lineAt s order line).o n but) x)∧(¬ allocE p s order line n but=0→NoneS x)
section
variable {p:Pl} {s:St} {order line n but:Int}
theorem allocE_state (h:¬ stateE p s=0):allocE p s order line n but=stateE p s:=by unfold allocE;rw [if_neg h]
theorem allocE_range (h:stateE p s=0) (h1:allocR p s order line n but=true):allocE p s order line n but=3:=by unfold allocE;rw [if_pos h,if_pos h1]
theorem allocE_done (h:stateE p s=0) (h1:allocR p s order line n but=false) (h2:¬ (s.os.z order.toNat).k=1):allocE p s order line n but=6:=by unfold allocE;rw [if_pos h,h1,if_neg h2];rfl
theorem allocE_back (h:stateE p s=0) (h1:allocR p s order line n but=false) (h2:(s.os.z order.toNat).k=1) (h3:(lineAt s order line).n<n):allocE p s order line n but=3:=by unfold allocE;rw [if_pos h,h1,if_pos h2,if_pos h3];rfl
theorem allocE_ok (h:stateE p s=0) (h1:allocR p s order line n but=false) (h2:(s.os.z order.toNat).k=1) (h3:¬ (lineAt s order line).n<n):allocE p s order line n but=0:=by unfold allocE;rw [if_pos h,h1,if_pos h2,if_neg h3];rfl
theorem allocR_no (h:allocR p s order line n but=false):(0≤order∧order.toNat<s.os.n)∧(0≤line∧line.toNat<(s.os.z order.toNat).ls.n)∧(0≤n∧n≤200)∧(but = -1∨0≤but∧but<p.nb):=by
 simp only [allocR,missL,Bool.or_eq_false_iff,Bool.not_eq_false',Bool.and_eq_false_iff,bne_eq_false_iff_eq] at h
 obtain ⟨⟨⟨a,b⟩,c⟩,d⟩:=h
 have a:=inB_true a
 have b:=inB_true b
 have c:=inB_true c
 refine ⟨by omega,by omega,c,?_⟩
 rcases d with d | d
 ·exact Or.inl d
 ·have:=inB_true d;exact Or.inr (by omega)
structure AllocIn (p:Pl) (s:St) (order line n but:Int):Prop where
 st:stateE p s=0
 o0:0≤order
 on:order.toNat<s.os.n
 l0:0≤line
 ln:line.toNat<(s.os.z order.toNat).ls.n
 n0:0≤n
 n2:n≤200
 bt:but = -1∨0≤but∧but<p.nb
 kd:(s.os.z order.toNat).k=1
 bk:n≤(lineAt s order line).n
theorem allocIn (h:allocE p s order line n but=0):AllocIn p s order line n but:=by
 by_cases h0:stateE p s=0
 ·cases h1:allocR p s order line n but
  ·obtain ⟨a,b,c,d⟩:=allocR_no h1
   by_cases h2:(s.os.z order.toNat).k=1
   ·by_cases h3:(lineAt s order line).n<n
    ·rw [allocE_back h0 h1 h2 h3] at h;exact absurd h (by decide)
    ·exact ⟨h0,a.1,a.2,b.1,b.2,c.1,c.2,d,h2,by omega⟩
   ·rw [allocE_done h0 h1 h2] at h;exact absurd h (by decide)
  ·rw [allocE_range h0 h1] at h;exact absurd h (by decide)
 ·rw [allocE_state h0] at h;exact absurd h h0
theorem AllocIn.good (h:AllocIn p s order line n but):0≤(lineAt s order line).o∧(lineAt s order line).o<p.ns:=(badLine_no ((rightT h.st).fm.line _ h.on _ h.ln)).1
theorem AllocIn.way (h:AllocIn p s order line n but):∀ x,x∈wayT p but→0≤x∧x<p.nb:=fun x hx=>way_mem (wayT_mem.1 hx).1
theorem AllocIn.tk (h:AllocIn p s order line n but) {l:List Int} (hl:l.Pairwise (fun x y=>¬ x=y)) (hm:∀ x,x∈l→0≤x∧x<p.nb):TkOK (fun b=>availZ s b.toNat (lineAt s order line).o.toNat) n l (Tk.go (fun b=>availZ s b.toNat (lineAt s order line).o.toNat) n l):=by
 have r:=rightT h.st
 have hg:=h.good
 refine tkOK h.n0 hl (fun x hx => ?_) (fun x hx => ?_)
 ·have:=hm x hx
  exact (goods_no (r.goods _ (by omega))).2 _ (by omega)
 ·have:=hm x hx
  have:=r.fm.sh.pl.nb6
  omega
theorem Took.rightAt {x:St} {l:List Int} {t:Tk} (h:AllocIn p s order line n but) (hm:∀ x,x∈l→0≤x∧x<p.nb) (k:TkOK (fun b=>availZ s b.toNat (lineAt s order line).o.toNat) n l t) (T:Took s order.toNat line.toNat n t x):RightT p x:=by
 have r:=rightT h.st
 have hb:=h.bk
 have hl0:=k.left0
 have hl1:=k.leftn
 refine T.isRight r h.on h.ln h.kd (fun b hb => ?_) (by omega) (by unfold lineAt at hb;omega) (fun b hb => ?_) k.took0 k.sum
 ·apply Classical.byContradiction
  intro hc
  refine hb (k.other b fun hbl=>hc ?_)
  exact hm b hbl
 ·by_cases hbl:((b:Nat):Int)∈l
  ·exact k.had b hbl
  ·rw [k.other b hbl]
   have hg:=h.good
   exact (goods_no (r.goods _ (by unfold lineAt at hg;omega))).2 b hb
end
end Go.Proofs.YtbcacebifpagpagGreat

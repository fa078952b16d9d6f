/- Texts that were built one behind the other, joined; what LogMore does not reach is left out. -/
import Derived.Test.YtbcacebifpagpagGreatK2LogMore
import Derived.Lib.SliceRun
namespace Go.Proofs.YtbcacebifpagpagGreat
open Go.RowKit
set_option linter.unusedVariables false
def setHd (x:Hd) (c:Nat) (v:Int):Hd:=if c=0 then ⟨v,x.l,x.b,x.n⟩ else if c=1 then ⟨x.o,v,x.b,x.n⟩ else if c=2 then ⟨x.o,x.l,v,x.n⟩ else ⟨x.o,x.l,x.b,v⟩
def setLn (h:Hs) (j c:Nat) (v:Int):Hs:=⟨h.a,h.n,h.c,fun i=>if i=j then setHd (h.z i) c v else h.z i⟩
def setOd (os:Os) (o l c:Nat) (v:Int):Os:=⟨os.a,os.n,os.c,fun i=>if i=o then ⟨(os.z i).k,setLn (os.z i).ls l c v⟩ else os.z i⟩
def setLine (s:St) (o l c:Nat) (v:Int):St:=⟨s.on,setOd s.os o l c v,s.hs,s.ms,s.si,s.so,s.sf⟩
def withHolds (s:St) (h:Hs):St:=⟨s.on,s.os,h,s.ms,s.si,s.so,s.sf⟩
theorem flatH_at {n:Nat} {z:Nat→Hd} {i c:Nat} (hi:i<n) (hc:c<4):(flatH n z).getD (i*4+c) default=(hdCells (z i)).getD c default:=by
 simp only [List.getD,flatH_get n z i c hi hc]
theorem setLn_flat {h:Hs} {j c:Nat} {v:Int} (hc:c<4) (q:Nat) (hq:q<h.n*4) :
  (if q=j*4+c then Value.int .i64 v else (flatH h.n h.z).getD q default)=(flatH h.n (setLn h j c v).z).getD q default:=by
 have hd:q=q/4*4+q%4:=by omega
 have hi:q/4<h.n:=by omega
 have hm:q%4<4:=by omega
 have e1:=flatH_at (z:=h.z) hi hm
 have e2:=flatH_at (z:=(setLn h j c v).z) hi hm
 rw [← hd] at e1 e2
 rw [e1,e2]
 show _=(hdCells (if q/4=j then setHd (h.z (q/4)) c v else h.z (q/4))).getD (q%4) default
 by_cases hj:q/4=j
 ·rw [if_pos hj]
  by_cases hqc:q=j*4+c
  ·rw [if_pos hqc]
   have:q%4=c:=by omega
   rw [this]
   have hc4:c=0∨c=1∨c=2∨c=3:=by omega
   rcases hc4 with rfl | rfl | rfl | rfl<;>rfl
  ·rw [if_neg hqc]
   have hc4:c=0∨c=1∨c=2∨c=3:=by omega
   have hm4:q%4=0∨q%4=1∨q%4=2∨q%4=3:=by omega
   rcases hc4 with rfl | rfl | rfl | rfl<;>rcases hm4 with hm | hm | hm | hm<;>first | (exfalso;omega) | (rw [hm];rfl)
 ·rw [if_neg hj,if_neg (by omega)]
theorem OwnO.setLine {A:Nat} {w:World} {s:Os} {o B:Nat} (h:OwnO A w s) (ho:o<s.n) (ha:(s.z o).ls.a=some ⟨B,0,none⟩) (l c:Nat) (hc:c<4) (v:Int):OwnO A (w.setCell ⟨B,l*4+c,none⟩ (.int .i64 v)) (setOd s o l c v):=by
 obtain ⟨B',ha',hA,h1,h2,hb⟩:=h.lines o ho
 rw [ha] at ha'
 simp only [Option.some.injEq,Addr.mk.injEq,and_true] at ha'
 subst ha'
 have hz:∀ i,(setOd s o l c v).z i=if i=o then ⟨(s.z i).k,setLn (s.z i).ls l c v⟩ else s.z i:=fun _=>rfl
 have hcells:∀ i,odCells ((setOd s o l c v).z i)=odCells (s.z i):=fun i=>by
  rw [hz]
  by_cases hio:i=o
  ·rw [if_pos hio];rfl
  ·rw [if_neg hio]
 have hla:∀ i,((setOd s o l c v).z i).ls.a=(s.z i).ls.a:=fun i=>by
  rw [hz]
  by_cases hio:i=o
  ·rw [if_pos hio];rfl
  ·rw [if_neg hio]
 refine ⟨h.le,h.cap,fun hn => ?_,fun i hi => ?_,fun i j hij hj=>by rw [hla,hla];exact h.apart i j hij hj,h.room.set _ _ _⟩
 ·obtain ⟨g,a1,a2,a3⟩:=h.list hn
  refine ⟨g,a1,a2,(a3.other (a:=⟨B,l*4+c,none⟩) (Blk.ne2 a3 hb (by decide)) _).congr fun j hj => ?_⟩
  show _=(flatO s.n (setOd s o l c v).z).getD j default
  rw [flatO_congr fun i _=>hcells i]
 ·rw [hz]
  by_cases hio:i=o
  ·subst hio
   rw [if_pos rfl]
   exact ⟨B,ha,hA,h1,h2,(hb.set (l*4+c) (.int .i64 v)).congr fun q hq=>setLn_flat hc q hq⟩
  ·rw [if_neg hio]
   obtain ⟨C,a1,a2,a3,a4,a5⟩:=h.lines i hi
   refine ⟨C,a1,a2,a3,a4,a5.other (a:=⟨B,l*4+c,none⟩) (fun e => ?_) _⟩
   have e':C=B:=e
   subst e'
   rcases Nat.lt_or_gt_of_ne hio with hlt | hgt
   ·exact h.apart i o hlt ho (a1.trans ha.symm)
   ·exact h.apart o i hgt hi (ha.trans a1.symm)
theorem OwnS.setLine {A:Nat} {w:World} {s:St} {o B:Nat} (h:OwnS A w s) (ho:o<s.os.n) (ha:(s.os.z o).ls.a=some ⟨B,0,none⟩) (l c:Nat) (hc:c<4) (v:Int):OwnS A (w.setCell ⟨B,l*4+c,none⟩ (.int .i64 v)) (Go.Proofs.YtbcacebifpagpagGreat.setLine s o l c v):=by
 obtain ⟨B',ha',-,-,-,hb⟩:=h.os.lines o ho
 rw [ha] at ha'
 simp only [Option.some.injEq,Addr.mk.injEq,and_true] at ha'
 subst ha'
 refine ⟨?_,fun i hi=>(h.rows i hi).other hb (by decide) _ _,h.rapart,h.os.setLine ho ha l c hc v,h.hs.other hb (by decide) _ _,h.ms.other hb (by decide) _ _,h.msr.set _ _ _,h.si.other hb (by decide) _ _,h.so.other hb (by decide) _ _,h.sf.other hb (by decide) _ _,h.aio,h.aif,h.aof,h.ari⟩
 obtain ⟨g,a0,a1,a2,a3,a4⟩:=h.on
 exact ⟨g,a0,a1,a2,a3,a4.other (a:=⟨B,l*4+c,none⟩) (Blk.ne2 a4 hb (by decide)) _⟩
theorem OwnS.withHolds {A:Nat} {w:World} {s:St} {h:Hs} (k:OwnS A w s) (hh:OwnH A 61 w h):OwnS A w (Go.Proofs.YtbcacebifpagpagGreat.withHolds s h) :=
 ⟨k.on,k.rows,k.rapart,k.os,hh,k.ms,k.msr,k.si,k.so,k.sf,k.aio,k.aif,k.aof,k.ari⟩
theorem OwnS.lineCell {A:Nat} {w:World} {s:St} {o l:Nat} (h:OwnS A w s) (ho:o<s.os.n) (hl:l<(s.os.z o).ls.n):∃ g B,s.os.a=some ⟨g,0,none⟩∧A≤g∧g<w.heap.size∧w.cell? ⟨g,o*2+1,none⟩=some (.slice (some ⟨B,0,none⟩) (s.os.z o).ls.n (s.os.z o).ls.c)∧(s.os.z o).ls.a=some ⟨B,0,none⟩∧A≤B∧B<w.heap.size∧(s.os.z o).ls.n≤(s.os.z o).ls.c∧(s.os.z o).ls.c≤maxLen∧(∀ j,w.frozen? ⟨B,j,none⟩=false) ∧
  w.cell? ⟨B,l*4,none⟩=some (.int .i64 ((s.os.z o).ls.z l).o)∧w.cell? ⟨B,l*4+1,none⟩=some (.int .i64 ((s.os.z o).ls.z l).l)∧w.cell? ⟨B,l*4+2,none⟩=some (.int .i64 ((s.os.z o).ls.z l).b)∧w.cell? ⟨B,l*4+3,none⟩=some (.int .i64 ((s.os.z o).ls.z l).n):=by
 obtain ⟨g,g1,g2,g3⟩:=h.os.list (by omega)
 obtain ⟨B,b1,b2,b3,b4,b5⟩:=h.os.lines o ho
 have c0:=g3.cell (j:=o*2+1) (by omega)
 rw [flatO_at (z:=s.os.z) ho (show 1<2 by decide)] at c0
 have c1:w.cell? ⟨g,o*2+1,none⟩=some (.slice (s.os.z o).ls.a (s.os.z o).ls.n (s.os.z o).ls.c):=c0
 rw [b1] at c1
 have d:∀ c,c<4→w.cell? ⟨B,l*4+c,none⟩=some ((hdCells ((s.os.z o).ls.z l)).getD c default):=fun c hc=>by
  rw [← flatH_at (z:=(s.os.z o).ls.z) hl hc]
  exact b5.cell (by omega)
 exact ⟨g,B,g1,g2,g3.lt,c1,b1,b2,b5.lt,b3,b4,fun j=>b5.frozen j,d 0 (by decide),d 1 (by decide),d 2 (by decide),d 3 (by decide)⟩
theorem setLine_at {s:St} {o l c:Nat} {v:Int} (i j:Nat):((Go.Proofs.YtbcacebifpagpagGreat.setLine s o l c v).os.z i).ls.z j=if i=o∧j=l then setHd ((s.os.z i).ls.z j) c v else (s.os.z i).ls.z j:=by
 show (if i=o then (⟨(s.os.z i).k,setLn (s.os.z i).ls l c v⟩:Od) else s.os.z i).ls.z j=_
 by_cases hi:i=o
 ·rw [if_pos hi]
  show (if j=l then setHd ((s.os.z i).ls.z j) c v else (s.os.z i).ls.z j)=_
  by_cases hj:j=l
  ·rw [if_pos hj,if_pos ⟨hi,hj⟩]
  ·rw [if_neg hj,if_neg (fun e=>hj e.2)]
 ·rw [if_neg hi,if_neg (fun e=>hi e.1)]
theorem setLine_k {s:St} {o l c:Nat} {v:Int} (i:Nat):((Go.Proofs.YtbcacebifpagpagGreat.setLine s o l c v).os.z i).k=(s.os.z i).k:=by
 show (if i=o then (⟨(s.os.z i).k,setLn (s.os.z i).ls l c v⟩:Od) else s.os.z i).k=_
 by_cases hi:i=o
 ·rw [if_pos hi]
 ·rw [if_neg hi]
theorem setLine_n {s:St} {o l c:Nat} {v:Int} (i:Nat):((Go.Proofs.YtbcacebifpagpagGreat.setLine s o l c v).os.z i).ls.n=(s.os.z i).ls.n∧((Go.Proofs.YtbcacebifpagpagGreat.setLine s o l c v).os.z i).ls.a=(s.os.z i).ls.a∧((Go.Proofs.YtbcacebifpagpagGreat.setLine s o l c v).os.z i).ls.c=(s.os.z i).ls.c:=by
 show (if i=o then (⟨(s.os.z i).k,setLn (s.os.z i).ls l c v⟩:Od) else s.os.z i).ls.n=_∧(if i=o then (⟨(s.os.z i).k,setLn (s.os.z i).ls l c v⟩:Od) else s.os.z i).ls.a=_∧(if i=o then (⟨(s.os.z i).k,setLn (s.os.z i).ls l c v⟩:Od) else s.os.z i).ls.c=_
 by_cases hi:i=o
 ·rw [if_pos hi];exact ⟨rfl,rfl,rfl⟩
 ·rw [if_neg hi];exact ⟨rfl,rfl,rfl⟩
theorem sumTo_ge {z:Nat→Int} {m:Nat}:∀ {k:Nat},m<k→(∀ i,i<k→0≤z i)→z m≤sumTo z k
 | k+1,hm,h=>by
  simp only [sumTo]
  have h0:0≤sumTo z k:=by
   have:∀ q,q≤k→0≤sumTo z q:=fun q=>by
    induction q with
    | zero=>intro _;exact Int.le_refl _
    | succ q ih=>intro hq;simp only [sumTo];have:=ih (by omega);have:=h q (by omega);omega
   exact this k (Nat.le_refl _)
  by_cases hmk:m=k
  ·subst hmk;omega
  ·have:=sumTo_ge (z:=z) (m:=m) (k:=k) (by omega) (fun i hi=>h i (by omega))
   have:=h k (by omega)
   omega
theorem kept_le {n:Nat} {z:Nat→Hd} (hr:anyB n (badH z)=false) (o l:Int) {b:Nat} (hb:b<6):keptV n z o l b≤keptS z o l n:=by
 rw [← kept_eq z o l n hr]
 exact sumTo_ge (z:=fun b=>keptV n z o l b) hb fun i _=>(keptV_bd (fun j hj=>(fineH_true (right_fine hr j hj)).2.2.2) o l i).1
theorem line_sum {p:Pl} {x:St} (r:RightT p x) {i j:Nat} (hi:i<x.os.n) (hj:j<(x.os.z i).ls.n) (hk:(x.os.z i).k=1):((x.os.z i).ls.z j).b+((x.os.z i).ls.z j).n+keptS x.hs.z i j x.hs.n=((x.os.z i).ls.z j).l∧((x.os.z i).ls.z j).l≤200∧0≤((x.os.z i).ls.z j).b:=by
 have w:=r.orders i hi
 unfold wrongOrder at w
 rw [Bool.or_eq_false_iff] at w
 have wj:=anyB_false w.2 j hj
 rw [hk] at wj
 unfold wrongL at wj
 rw [if_neg (by decide),if_neg (by decide)] at wj
 simp only [Bool.not_eq_false',beq_iff_eq] at wj
 have b:=badLine_no (r.fm.line i hi j hj)
 exact ⟨wj,by omega,by omega⟩
theorem Took.congr {s x:St} {o l:Nat} {n:Int} {t t':Tk} (h:Took s o l n t x) (h1:t'.left=t.left) (h2:∀ c,t'.took c=t.took c):Took s o l n t' x :=
 ⟨h.on,⟨h.os.1,fun i hi=>⟨(h.os.2 i hi).1,(h.os.2 i hi).2.1,fun j hj=>by rw [h1];exact (h.os.2 i hi).2.2 j hj⟩⟩,h.right,fun a b c=>by rw [h2];exact h.kept a b c,h.ms,h.si,h.so,h.sf⟩
theorem Took.stepZero {s x:St} {o l:Nat} {n:Int} {t:Tk} {av:Int→Int} {b:Int} (h:Took s o l n t x) (h0:min t.left (av b)=0):Took s o l n (t.step av b) x :=
 h.congr (by show t.left - min t.left (av b)=t.left;omega) fun c=>by
  show (t.took c+if c=b then min t.left (av b) else 0)=t.took c
  rw [h0]
  split<;>omega
def tookH (o l:Nat) (b m:Int):Hd:=⟨o,l,b,m⟩
theorem Took.start {s:St} {o l:Nat} {n:Int} (hr:anyB s.hs.n (badH s.hs.z)=false) {x:St} (hx:SameT x s):Took s o l n ⟨n,fun _=>0⟩ x:=by
 refine ⟨hx.on,⟨hx.os.1,fun i hi=>⟨(hx.os.2 i hi).1,(hx.os.2 i hi).2.1,fun j hj => ?_⟩⟩,?_,fun a b c => ?_,hx.ms,hx.si,hx.so,hx.sf⟩
 ·rw [(hx.os.2 i hi).2.2 j hj]
  by_cases hij:i=o∧j=l
  ·rw [if_pos hij]
   show _=(⟨_,_,_,_ - (n - n)⟩:Hd)
   rw [Int.sub_self,Int.sub_zero]
  ·rw [if_neg hij]
 ·rw [hx.hs.1,badH_congr fun j hj=>hx.hs.2 j (by rw [hx.hs.1];exact hj)]
  exact hr
 ·rw [hx.hs.1,keptV_congr fun j hj=>hx.hs.2 j (by rw [hx.hs.1];exact hj)]
  show _=_+if _ then (0:Int) else 0
  split<;>omega
section
variable {p:Pl} {s x:St} {order line n but:Int} {l:List Int} {t:Tk} {b:Int}
theorem Took.addE (h:AllocIn p s order line n but) (hm:∀ x,x∈l→0≤x∧x<p.nb) (k:TkOK (fun b=>availZ s b.toNat (lineAt s order line).o.toNat) n l t) (T:Took s order.toNat line.toNat n t x) (hb:0≤b∧b<p.nb) {m:Int} (hm0:0<m) (hm1:m≤t.left) :
  Go.Proofs.YtbcacebifpagpagGreat.addE x.hs.n x.hs.z (tookH order.toNat line.toNat b m)=0:=by
 have r:=T.rightAt h hm k
 have nb6:=r.fm.sh.pl.nb6
 have ho:order.toNat<x.os.n:=by rw [T.os.1];exact h.on
 have e:=T.os.2 order.toNat ho
 have hl:line.toNat<(x.os.z order.toNat).ls.n:=by rw [e.2.1];exact h.ln
 obtain ⟨a1,a2,a3⟩:=line_sum r ho hl (by rw [e.1];exact h.kd)
 have e3:=e.2.2 line.toNat hl
 rw [if_pos ⟨rfl,rfl⟩] at e3
 have e4:((x.os.z order.toNat).ls.z line.toNat).n=(lineAt s order line).n - (n - t.left):=by rw [e3];rfl
 have hbk:=h.bk
 have hln:=k.leftn
 obtain ⟨b',rfl⟩:=Int.eq_ofNat_of_zero_le hb.1
 have hkl:=kept_le T.right order.toNat line.toNat (b:=b') (by omega)
 have os4:=r.fm.os4
 have ls3:=(r.fm.lns _ ho).2
 have hf:fineH (tookH order.toNat line.toNat b' m)=true:=by
  unfold fineH tookH
  have hk0:=(keptS_bd (z:=x.hs.z) (order.toNat:Nat) (line.toNat:Nat) x.hs.n fun j hj=>(fineH_true (right_fine T.right j hj)).2.2.2).1
  rw [inB_mk (by dsimp only;omega),inB_mk (by dsimp only;omega),inB_mk (by dsimp only;omega),inB_mk (by dsimp only;omega)]
  rfl
 rw [addE_of T.right hf,if_neg]
 show ¬ 200<keptV x.hs.n x.hs.z (order.toNat:Nat) (line.toNat:Nat) b'+m
 omega
theorem Took.stepAdd {y:Hs} {av:Int→Int} (T:Took s order.toNat line.toNat n t x) (ho:order.toNat<s.os.n) (hl:line.toNat<(s.os.z order.toNat).ls.n) {m:Int} (hm:min t.left (av b)=m) (he:Go.Proofs.YtbcacebifpagpagGreat.addE x.hs.n x.hs.z (tookH order.toNat line.toNat b m)=0) (hy:AddOK x.hs.n x.hs.z (tookH order.toNat line.toNat b m) y) :
  Took s order.toNat line.toNat n (t.step av b) (withHolds (setLine x order.toNat line.toNat 3 (((x.os.z order.toNat).ls.z line.toNat).n - m)) y):=by
 obtain ⟨hr,hk⟩:=hy.right he
 refine ⟨T.on,⟨T.os.1,fun i hi => ?_⟩,hr,fun a c d => ?_,T.ms,T.si,T.so,T.sf⟩
 ·have hi':i<x.os.n:=hi
  have e:=T.os.2 i hi'
  have n1:=(setLine_n (s:=x) (o:=order.toNat) (l:=line.toNat) (c:=3) (v:=((x.os.z order.toNat).ls.z line.toNat).n - m) i).1
  refine ⟨(setLine_k i).trans e.1,n1.trans e.2.1,fun j hj => ?_⟩
  have hj':j<(x.os.z i).ls.n:=by rw [← n1];exact hj
  show ((setLine x order.toNat line.toNat 3 (((x.os.z order.toNat).ls.z line.toNat).n - m)).os.z i).ls.z j=_
  rw [setLine_at,e.2.2 j hj']
  by_cases hij:i=order.toNat∧j=line.toNat
  ·rw [if_pos hij,if_pos hij,if_pos hij]
   obtain ⟨rfl,rfl⟩:=hij
   have e3:=e.2.2 line.toNat hj'
   rw [if_pos ⟨rfl,rfl⟩] at e3
   rw [e3]
   show (⟨_,_,_,_ - (n - t.left) - m⟩:Hd)=⟨_,_,_,_ - (n - (t.left - min t.left (av b)))⟩
   rw [hm]
   congr 1
   omega
  ·rw [if_neg hij,if_neg hij,if_neg hij]
 ·show keptV y.n y.z a c d=_
  rw [hk,T.kept]
  show _=_+if _ then t.took d+(if d=b then min t.left (av b) else 0) else 0
  rw [hm]
  by_cases hac:a=order.toNat∧c=line.toNat
  ·rw [if_pos hac,if_pos hac]
   by_cases hd:d=b
   ·have:matchH (tookH order.toNat line.toNat b m) a c d=true:=by
     unfold matchH tookH
     simp [hac,hd]
    rw [this,if_pos hd,if_pos rfl]
    show _+m=_
    omega
   ·have:matchH (tookH order.toNat line.toNat b m) a c d=false:=by
     cases hq:matchH (tookH order.toNat line.toNat b m) a c d
     ·rfl
     ·exact absurd (matchH_true hq).2.2.symm hd
    rw [this,if_neg hd]
    simp
  ·have:matchH (tookH order.toNat line.toNat b m) a c d=false:=by
    cases hq:matchH (tookH order.toNat line.toNat b m) a c d
    ·rfl
    ·have:=matchH_true hq
     exact absurd ⟨this.1.symm,this.2.1.symm⟩ hac
   rw [this,if_neg hac,if_neg hac]
   simp
end
structure TakeIn (p:Pl) (s:St) (o l:Nat) (n:Int):Prop where
 fm:Formed p s
 av:∀ b,b<p.nb→0≤availZ s b ((s.os.z o).ls.z l).o.toNat
 on:o<s.os.n
 ln:l<(s.os.z o).ls.n
 n0:0≤n
 bk:n≤((s.os.z o).ls.z l).n
 sum:((s.os.z o).ls.z l).n+keptS s.hs.z o l s.hs.n≤200
def avT (s:St) (o l:Nat) (b:Int):Int:=availZ s b.toNat ((s.os.z o).ls.z l).o.toNat
section
variable {p:Pl} {s x:St} {o l:Nat} {n:Int} {L:List Int} {t:Tk}
theorem TakeIn.good (h:TakeIn p s o l n):0≤((s.os.z o).ls.z l).o∧((s.os.z o).ls.z l).o<p.ns:=(badLine_no (h.fm.line _ h.on _ h.ln)).1
theorem TakeIn.tk (h:TakeIn p s o l n) (hL:L.Pairwise (fun x y=>¬ x=y)) (hm:∀ x,x∈L→0≤x∧x<p.nb):TkOK (avT s o l) n L (Tk.go (avT s o l) n L):=by
 refine tkOK h.n0 hL (fun x hx => ?_) (fun x hx => ?_)
 ·have:=hm x hx
  exact h.av _ (by omega)
 ·have:=hm x hx
  have:=h.fm.sh.pl.nb6
  omega
theorem TakeIn.inBins (hm:∀ x,x∈L→0≤x∧x<p.nb) (k:TkOK (avT s o l) n L t):∀ b,¬ t.took b=0→0≤b∧b<p.nb:=fun b hb=>by
 apply Classical.byContradiction
 intro hc
 exact hb (k.other b fun hbl=>hc (hm b hbl))
theorem TakeIn.formed (h:TakeIn p s o l n) (hm:∀ x,x∈L→0≤x∧x<p.nb) (k:TkOK (avT s o l) n L t) (T:Took s o l n t x):Formed p x:=by
 have h0:=k.left0
 have h1:=k.leftn
 have h2:=h.bk
 exact T.formed h.fm h.on h.ln (TakeIn.inBins hm k) (by omega) (by omega)
theorem TakeIn.addE (h:TakeIn p s o l n) (hm:∀ x,x∈L→0≤x∧x<p.nb) (k:TkOK (avT s o l) n L t) (T:Took s o l n t x) {b:Int} (hb:0≤b∧b<p.nb) {m:Int} (hm0:0<m) (hm1:m≤t.left) :
  fineH (tookH o l b m)=true∧keptV x.hs.n x.hs.z o l b+m≤200∧Go.Proofs.YtbcacebifpagpagGreat.addE x.hs.n x.hs.z (tookH o l b m)=0:=by
 have fx:=h.formed hm k T
 have nb6:=fx.sh.pl.nb6
 have os4:=h.fm.os4
 have ls3:=(h.fm.lns _ h.on).2
 have ho:=h.on
 have hl:=h.ln
 have e:=T.keptS h.fm k.sum o l
 rw [if_pos ⟨rfl,rfl⟩] at e
 have hs:=h.sum
 have hbk:=h.bk
 have hln:=k.leftn
 obtain ⟨b',rfl⟩:=Int.eq_ofNat_of_zero_le hb.1
 have hkl:=kept_le T.right o l (b:=b') (by omega)
 have hk0:=(keptS_bd (z:=s.hs.z) o l s.hs.n fun j hj=>(fineH_true (right_fine h.fm.hold j hj)).2.2.2).1
 have hf:fineH (tookH o l b' m)=true:=by
  unfold fineH tookH
  rw [inB_mk (by dsimp only;omega),inB_mk (by dsimp only;omega),inB_mk (by dsimp only;omega),inB_mk (by dsimp only;omega)]
  rfl
 refine ⟨hf,by omega,?_⟩
 rw [addE_of T.right hf,if_neg]
 show ¬ 200<keptV x.hs.n x.hs.z o l b'+m
 omega
end
theorem Tk.go_congr {av av':Int→Int} {n:Int}:∀ {L:List Int} {t:Tk},(∀ b,b∈L→av b=av' b)→L.foldl (Tk.step av) t=L.foldl (Tk.step av') t
 | [],_,_=>rfl
 | b :: L,t,h=>by
  rw [List.foldl_cons,List.foldl_cons,show Tk.step av t b=Tk.step av' t b by unfold Tk.step;rw [h b (by simp)]]
  exact Tk.go_congr (n:=n) fun c hc=>h c (by simp [hc])
theorem TakeIn.same {p:Pl} {x s:St} {o l:Nat} {n:Int} (h:TakeIn p s o l n) (k:SameT x s):TakeIn p x o l n:=by
 have ho:o<x.os.n:=by rw [k.os.1];exact h.on
 have e:=k.os.2 o ho
 have hl:l<(x.os.z o).ls.n:=by rw [e.2.1];exact h.ln
 have e3:=e.2.2 l hl
 have hg:=h.good
 refine ⟨k.formed h.fm,fun b hb => ?_,ho,hl,h.n0,by rw [e3];exact h.bk,?_⟩
 ·rw [e3,k.avail h.fm hb (by omega)]
  exact h.av b hb
 ·rw [e3,k.hs.1,keptS_congr _ _ fun j hj=>k.hs.2 j (by rw [k.hs.1];exact hj)]
  exact h.sum
theorem Took.base {x0 s x:St} {o l:Nat} {n:Int} {t:Tk} (k:SameT x0 s) (h:Took x0 o l n t x):Took s o l n t x:=by
 have r:=k
 refine ⟨⟨h.on.1.trans k.on.1,fun i hi => ?_⟩,⟨h.os.1.trans k.os.1,fun i hi => ?_⟩,h.right,fun a b c => ?_,⟨h.ms.1.trans k.ms.1,fun j hj=>(h.ms.2 j hj).trans (k.ms.2 j (by rw [← h.ms.1];exact hj))⟩,⟨h.si.1.trans k.si.1,fun j hj=>(h.si.2 j hj).trans (k.si.2 j (by rw [← h.si.1];exact hj))⟩,⟨h.so.1.trans k.so.1,fun j hj=>(h.so.2 j hj).trans (k.so.2 j (by rw [← h.so.1];exact hj))⟩,⟨h.sf.1.trans k.sf.1,fun j hj=>(h.sf.2 j hj).trans (k.sf.2 j (by rw [← h.sf.1];exact hj))⟩⟩
 ·have a:=h.on.2 i hi
  have b:=k.on.2 i (by rw [← h.on.1];exact hi)
  exact ⟨a.1.trans b.1,fun j hj=>(a.2 j hj).trans (b.2 j (by rw [← a.1];exact hj))⟩
 ·have a:=h.os.2 i hi
  have b:=k.os.2 i (by rw [← h.os.1];exact hi)
  refine ⟨a.1.trans b.1,a.2.1.trans b.2.1,fun j hj => ?_⟩
  rw [a.2.2 j hj,b.2.2 j (by rw [← a.2.1];exact hj)]
 ·rw [h.kept,k.hs.1,keptV_congr fun j hj=>k.hs.2 j (by rw [k.hs.1];exact hj)]
theorem tk_same {p:Pl} {x s:St} {o l:Nat} {n but:Int} (h:TakeIn p s o l n) (k:SameT x s):Tk.go (avT x o l) n (wayT p but)=Tk.go (avT s o l) n (wayT p but):=by
 unfold Tk.go
 refine Tk.go_congr (n:=n) fun b hb => ?_
 have ho:o<x.os.n:=by rw [k.os.1];exact h.on
 have e:=k.os.2 o ho
 have hl:l<(x.os.z o).ls.n:=by rw [e.2.1];exact h.ln
 have hg:=h.good
 have hw:=way_mem (wayT_mem.1 hb).1
 unfold avT
 rw [e.2.2 l hl]
 exact k.avail h.fm (by omega) (by omega)
end Go.Proofs.YtbcacebifpagpagGreat
namespace Go.Proofs.YtbcacebifpagpagGreat
open Go.RowKit Go.Shelf Go.Sort
set_option linter.unusedVariables false
theorem recvE_zero {p:Pl} {s:St} {bin good n:Int} (h:recvE p s bin good n=0):stateE p s=0:=by
 apply Classical.byContradiction
 intro h0
 rw [recvE_state h0] at h
 exact h0 h
theorem none_same2 {s t:St} (a:NoneS s) (b:NoneS t):SameT s t:=by
 obtain ⟨a1,a2,a3,a4,a5,a6,a7⟩:=a
 obtain ⟨b1,b2,b3,b4,b5,b6,b7⟩:=b
 exact ⟨⟨by omega,fun i hi=>absurd hi (by omega)⟩,⟨by omega,fun i hi=>absurd hi (by omega)⟩,⟨by omega,fun j hj=>absurd hj (by omega)⟩,⟨by omega,fun j hj=>absurd hj (by omega)⟩,⟨by omega,fun j hj=>absurd hj (by omega)⟩,⟨by omega,fun j hj=>absurd hj (by omega)⟩,⟨by omega,fun j hj=>absurd hj (by omega)⟩⟩
theorem ActOK.same {E:Int} {t x y:St} (a:ActOK E t x) (b:ActOK E t y):SameT x y:=by
 by_cases h:E=0
 ·exact (a.1 h).trans (b.1 h).symm
 ·exact none_same2 (a.2 h) (b.2 h)
theorem ActOK.bound {E:Int} {p:Pl} {s t x:St} (h:ActOK E t x) (f:E=0→t.os.n≤1000∧t.ms.n≤1000∧∀ i,i<t.os.n→(t.os.z i).ls.n≤1000):x.os.n≤1000∧x.ms.n≤1000∧∀ i,i<x.os.n→(x.os.z i).ls.n≤1000:=by
 by_cases hE:E=0
 ·obtain ⟨f1,f2,f3⟩:=f hE
  have a:=h.1 hE
  have e1:x.os.n=t.os.n:=a.os.1
  have e2:x.ms.n=t.ms.n:=a.ms.1
  refine ⟨by omega,by omega,fun i hi => ?_⟩
  have e3:(x.os.z i).ls.n=(t.os.z i).ls.n:=(a.os.2 i hi).2.1
  have:=f3 i (by omega)
  omega
 ·obtain ⟨a1,a2,a3,a4,a5,a6,a7⟩:=h.2 hE
  exact ⟨by omega,by omega,fun i hi=>absurd hi (by omega)⟩
end Go.Proofs.YtbcacebifpagpagGreat
namespace Go.Proofs.YtbcacebifpagpagGreat
open Go.RowKit
set_option linter.unusedVariables false
theorem AllocOK.same {p:Pl} {s x y:St} {order line n but:Int} (a:AllocOK p s order line n but x) (b:AllocOK p s order line n but y):SameT x y:=by
 by_cases h:allocE p s order line n but=0
 ·exact (a.1 h).same (b.1 h)
 ·exact none_same2 (a.2 h) (b.2 h)
theorem AllocOK.bound {p:Pl} {s x:St} {order line n but:Int} (a:AllocOK p s order line n but x):x.os.n≤1000∧x.ms.n≤1000∧∀ i,i<x.os.n→(x.os.z i).ls.n≤1000:=by
 by_cases h:allocE p s order line n but=0
 ·have f:=(rightT (allocIn h).st).fm
  have T:=a.1 h
  have o4:=f.os4
  have m8:=f.ms8
  have e1:=T.os.1
  have e2:=T.ms.1
  refine ⟨by omega,by omega,fun i hi => ?_⟩
  rw [(T.os.2 i hi).2.1]
  have:=f.lns i (by omega)
  omega
 ·obtain ⟨a1,a2,a3,a4,a5,a6,a7⟩:=a.2 h
  exact ⟨by omega,by omega,fun i hi=>absurd hi (by omega)⟩
theorem frL_has {p:Pl} {f:Bool} {b:Nat}:∀ {k:Nat},b<k→(p.zb b).front=f→((b:Nat):Int)∈frL p f k
 | k+1,hb,hf=>by
  by_cases hbk:b=k
  ·subst hbk
   rw [frL_hit hf]
   simp
  ·have h:=frL_has (k:=k) (by omega) hf
   by_cases hk:(p.zb k).front=f
   ·rw [frL_hit hk];simp [h]
   ·rw [frL_miss hk];exact h
theorem way_has {p:Pl} {b:Nat} (hb:b<p.nb):((b:Nat):Int)∈wayL p:=by
 unfold wayL
 rw [List.mem_append]
 cases hf:(p.zb b).front
 ·exact Or.inr (frL_has hb hf)
 ·exact Or.inl (frL_has hb hf)
theorem Took.trans {s y z:St} {o l:Nat} {k m:Int} {t1 t2:Tk} (a:Took s o l k t1 y) (b:Took y o l m t2 z):Took s o l (k+m) ⟨t1.left+t2.left,fun c=>t1.took c+t2.took c⟩ z:=by
 refine ⟨⟨b.on.1.trans a.on.1,fun i hi => ?_⟩,⟨b.os.1.trans a.os.1,fun i hi => ?_⟩,b.right,fun e f g => ?_,⟨b.ms.1.trans a.ms.1,fun j hj=>(b.ms.2 j hj).trans (a.ms.2 j (by rw [← b.ms.1];exact hj))⟩,⟨b.si.1.trans a.si.1,fun j hj=>(b.si.2 j hj).trans (a.si.2 j (by rw [← b.si.1];exact hj))⟩,⟨b.so.1.trans a.so.1,fun j hj=>(b.so.2 j hj).trans (a.so.2 j (by rw [← b.so.1];exact hj))⟩,⟨b.sf.1.trans a.sf.1,fun j hj=>(b.sf.2 j hj).trans (a.sf.2 j (by rw [← b.sf.1];exact hj))⟩⟩
 ·have x:=b.on.2 i hi
  have y':=a.on.2 i (by rw [← b.on.1];exact hi)
  exact ⟨x.1.trans y'.1,fun j hj=>(x.2 j hj).trans (y'.2 j (by rw [← x.1];exact hj))⟩
 ·have x:=b.os.2 i hi
  have y':=a.os.2 i (by rw [← b.os.1];exact hi)
  refine ⟨x.1.trans y'.1,x.2.1.trans y'.2.1,fun j hj => ?_⟩
  rw [x.2.2 j hj,y'.2.2 j (by rw [← x.2.1];exact hj)]
  by_cases hij:i=o∧j=l
  ·rw [if_pos hij,if_pos hij,if_pos hij]
   unfold lessL
   congr 1
   show _ - (k - t1.left) - (m - t2.left)=_ - (k+m - (t1.left+t2.left))
   omega
  ·rw [if_neg hij,if_neg hij,if_neg hij]
 ·rw [b.kept,a.kept]
  show _=_+if _ then t1.took g+t2.took g else 0
  by_cases hef:e=o∧f=l
  ·rw [if_pos hef,if_pos hef,if_pos hef];omega
  ·rw [if_neg hef,if_neg hef,if_neg hef];omega
section
variable {p:Pl} {s x y z:St} {order line n but k:Int}
theorem AllocIn.less (h:AllocIn p s order line n but) (hk:0≤k∧k≤n):allocE p s order line k but=0:=by
 have h1:allocR p s order line k but=false:=by
  unfold allocR missL
  have h2:=h.n2
  have on:=h.on
  have o0:=h.o0
  have ln:=h.ln
  have l0:=h.l0
  rw [inB_mk (by omega),inB_mk (by omega),inB_mk (by omega)]
  rcases h.bt with e | e
  ·rw [e];rfl
  ·rw [inB_mk (by omega)];simp
 exact allocE_ok h.st h1 h.kd (by have:=h.bk;omega)
theorem AllocIn.rightX (h:AllocIn p s order line n but) (hx:AllocOK p s order line n but x):RightT p x :=
 (hx.1 (h.less ⟨h.n0,Int.le_refl _⟩)).rightAt h (fun x hx=>h.way x hx) (h.tk (wayT_apart p but) (fun x hx=>h.way x hx))
theorem AllocIn.none (h:AllocIn p s order line n but) (hx:AllocOK p s order line n but x) (hl:0<allocL p s order line n but) {b:Nat} (hb:b<p.nb) (hbut:¬ ((b:Nat):Int)=but):availZ x b (lineAt s order line).o.toNat=0:=by
 have e:=h.less ⟨h.n0,Int.le_refl _⟩
 have T:=hx.1 e
 have r:=h.rightX hx
 have k:=h.tk (wayT_apart p but) (fun x hx=>h.way x hx)
 unfold allocL at hl
 rw [if_pos e] at hl
 have hg:=h.good
 have hm:((b:Nat):Int)∈wayT p but:=wayT_mem.2 ⟨way_has hb,hbut⟩
 have ha:=k.all hl b hm
 rw [T.avail (rightT h.st).fm r.fm h.on h.ln hb (by omega),if_pos (by unfold lineAt;unfold lineAt at hg;omega)]
 show _ - (tkOf p s (lineAt s order line).o n but).took b=0
 have ha':(tkOf p s (lineAt s order line).o n but).took b=availZ s b (lineAt s order line).o.toNat:=ha
 rw [ha']
 omega
end
theorem SameT.self (s:St):SameT s s:=⟨⟨rfl,fun _ _=>⟨rfl,fun _ _=>rfl⟩⟩,⟨rfl,fun _ _=>⟨rfl,rfl,fun _ _=>rfl⟩⟩,⟨rfl,fun _ _=>rfl⟩,⟨rfl,fun _ _=>rfl⟩,⟨rfl,fun _ _=>rfl⟩,⟨rfl,fun _ _=>rfl⟩,⟨rfl,fun _ _=>rfl⟩⟩
theorem right_line {p:Pl} {s:St} (r:RightT p s) {o l:Nat} (ho:o<s.os.n) (hl:l<(s.os.z o).ls.n):0≤((s.os.z o).ls.z l).n∧((s.os.z o).ls.z l).n+keptS s.hs.z o l s.hs.n≤200∧0≤keptS s.hs.z o l s.hs.n:=by
 have w:=r.orders o ho
 unfold wrongOrder at w
 rw [Bool.or_eq_false_iff] at w
 have wl:wrongL (s.os.z o).k ((s.os.z o).ls.z l) (keptS s.hs.z o l s.hs.n)=false:=anyB_false w.2 l hl
 obtain ⟨b1,b2,b3,b4⟩:=badLine_no (r.fm.line o ho l hl)
 have k0:=(keptS_bd (z:=s.hs.z) o l s.hs.n fun j hj=>(fineH_true (right_fine r.fm.hold j hj)).2.2.2).1
 unfold wrongL at wl
 by_cases h0:(s.os.z o).k=0
 ·rw [if_pos h0] at wl
  simp only [Bool.or_eq_false_iff,Bool.not_eq_false',beq_iff_eq] at wl
  omega
 ·rw [if_neg h0] at wl
  by_cases h2:(s.os.z o).k=2
  ·rw [if_pos h2] at wl
   simp only [Bool.or_eq_false_iff,Bool.not_eq_false',beq_iff_eq] at wl
   omega
  ·rw [if_neg h2] at wl
   simp only [Bool.not_eq_false',beq_iff_eq] at wl
   omega
theorem RightT.takeIn {p:Pl} {s:St} (r:RightT p s) {o l:Nat} (ho:o<s.os.n) (hl:l<(s.os.z o).ls.n) {n:Int} (h0:0≤n) (hb:n≤((s.os.z o).ls.z l).n):TakeIn p s o l n:=by
 have q:=right_line r ho hl
 have hg:=(badLine_no (r.fm.line o ho l hl)).1
 exact ⟨r.fm,fun b hb=>(goods_no (r.goods _ (by omega))).2 b hb,ho,hl,h0,hb,q.2.1⟩
def Step (p:Pl) (but:Int) (y:St) (i j:Nat) (n:Int) (x:St):Prop:=Took y i j n (Tk.go (avT y i j) n (wayT p but)) x
structure StepIn (p:Pl) (but:Int) (y:St) (i j:Nat) (n:Int):Prop where
 r:RightT p y
 on:i<y.os.n
 ln:j<(y.os.z i).ls.n
 n0:0≤n
 kd:n=0∨(y.os.z i).k=1∧n≤((y.os.z i).ls.z j).n
 bt:but = -1∨0≤but∧but<p.nb
section
variable {p:Pl} {but:Int} {s y x:St} {i j:Nat} {n:Int}
theorem StepIn.bk (h:StepIn p but y i j n):n≤((y.os.z i).ls.z j).n:=by
 have q:=right_line h.r h.on h.ln
 rcases h.kd with e | e
 ·omega
 ·exact e.2
theorem StepIn.tki (h:StepIn p but y i j n):TakeIn p y i j n:=h.r.takeIn h.on h.ln h.n0 h.bk
theorem StepIn.way (x:Int) (hx:x∈wayT p but):0≤x∧x<p.nb:=way_mem (wayT_mem.1 hx).1
theorem StepIn.tk (h:StepIn p but y i j n):TkOK (avT y i j) n (wayT p but) (Tk.go (avT y i j) n (wayT p but)):=h.tki.tk (wayT_apart p but) StepIn.way
theorem TakeIn.tkw {but:Int} (h:TakeIn p y i j n):TkOK (avT y i j) n (wayT p but) (Tk.go (avT y i j) n (wayT p but)):=h.tk (wayT_apart p but) StepIn.way
theorem TakeIn.none {but:Int} (h:TakeIn p y i j 0):(Tk.go (avT y i j) 0 (wayT p but)).left=0∧∀ c,(Tk.go (avT y i j) 0 (wayT p but)).took c=0:=by
 have k:=h.tkw (but:=but)
 have h0:=k.left0
 have h1:=k.leftn
 refine ⟨by omega,fun c => ?_⟩
 have h2:=k.took0 c
 have h3:=k.tookn c
 omega
theorem Step.zero (h:TakeIn p y i j 0) (T:Step p but y i j 0 x):SameT x y:=Took.same T (Took.congr (Took.start (n:=0) h.fm.hold (SameT.self y)) h.none.1 h.none.2)
theorem Step.skip (h:TakeIn p y i j 0):Step p but y i j 0 y:=Took.congr (Took.start (n:=0) h.fm.hold (SameT.self y)) h.none.1 h.none.2
theorem StepIn.allocIn (h:StepIn p but y i j n) (hk:(y.os.z i).k=1):AllocIn p y i j n but:=by
 have q:=right_line h.r h.on h.ln
 have b:=h.bk
 have o:=h.on
 have l:=h.ln
 exact ⟨stateE_of h.r,by omega,o,by omega,l,h.n0,by omega,h.bt,hk,b⟩
theorem Step.right (h:StepIn p but y i j n) (T:Step p but y i j n x):RightT p x:=by
 rcases h.kd with e | e
 ·subst e
  exact (Step.zero h.tki T).right h.r
 ·have I:=h.allocIn e.1
  exact Took.rightAt (order:=i) (line:=j) I (fun x hx=>I.way x hx) (I.tk (wayT_apart p but) (fun x hx=>I.way x hx)) T
theorem Step.same {y' x':St} (h:TakeIn p y i j n) (e:SameT y' y) (T:Step p but y i j n x) (T':Step p but y' i j n x'):SameT x' x:=by
 unfold Step at T'
 rw [tk_same h e] at T'
 exact (Took.base e T').same T
structure Along (p:Pl) (but:Int) (s x:St):Prop where
 r:RightT p x
 osn:x.os.n=s.os.n
 kind:∀ i,i<s.os.n→(x.os.z i).k=(s.os.z i).k∧(x.os.z i).ls.n=(s.os.z i).ls.n
 line:∀ i,i<s.os.n→∀ j,j<(s.os.z i).ls.n→((x.os.z i).ls.z j).o=((s.os.z i).ls.z j).o∧((x.os.z i).ls.z j).l=((s.os.z i).ls.z j).l∧((x.os.z i).ls.z j).b=((s.os.z i).ls.z j).b
 sum:∀ i,i<s.os.n→∀ j,j<(s.os.z i).ls.n→((x.os.z i).ls.z j).n+keptS x.hs.z i j x.hs.n=((s.os.z i).ls.z j).n+keptS s.hs.z i j s.hs.n∧((x.os.z i).ls.z j).n≤((s.os.z i).ls.z j).n
 on:x.on.n=s.on.n∧∀ i,i<x.on.n→(x.on.r i).n=(s.on.r i).n∧∀ j,j<(x.on.r i).n→(x.on.r i).z j=(s.on.r i).z j
 ms:x.ms.n=s.ms.n∧∀ j,j<x.ms.n→x.ms.z j=s.ms.z j
 si:x.si.n=s.si.n∧∀ j,j<x.si.n→x.si.z j=s.si.z j
 so:x.so.n=s.so.n∧∀ j,j<x.so.n→x.so.z j=s.so.z j
 sf:x.sf.n=s.sf.n∧∀ j,j<x.sf.n→x.sf.z j=s.sf.z j
 av:∀ b g,b<p.nb→g<p.ns→availZ x b g≤availZ s b g∧(((b:Nat):Int)=but→availZ x b g=availZ s b g)
theorem SameT.kept (h:SameT x s) (a b:Int):keptS x.hs.z a b x.hs.n=keptS s.hs.z a b s.hs.n:=by
 rw [h.hs.1,keptS_congr _ _ fun j hj=>h.hs.2 j (by rw [h.hs.1];exact hj)]
theorem SameT.line (h:SameT x s) {i j:Nat} (hi:i<s.os.n) (hj:j<(s.os.z i).ls.n):(x.os.z i).ls.z j=(s.os.z i).ls.z j:=by
 have e:=h.os.2 i (by rw [h.os.1];exact hi)
 exact e.2.2 j (by rw [e.2.1];exact hj)
theorem Along.self (r:RightT p s) (h:SameT x s):Along p but s x:=by
 refine ⟨h.right r,h.os.1,fun i hi => ?_,fun i hi j hj => ?_,fun i hi j hj => ?_,h.on,h.ms,h.si,h.so,h.sf,fun b g hb hg => ?_⟩
 ·have e:=h.os.2 i (by rw [h.os.1];exact hi)
  exact ⟨e.1,e.2.1⟩
 ·rw [h.line hi hj]
  exact ⟨rfl,rfl,rfl⟩
 ·rw [h.line hi hj,h.kept]
  exact ⟨rfl,Int.le_refl _⟩
 ·rw [h.avail r.fm hb hg]
  exact ⟨Int.le_refl _,fun _=>rfl⟩
theorem Along.step (A:Along p but s y) (h:StepIn p but y i j n) (T:Step p but y i j n x):Along p but s x:=by
 have k:=h.tk
 have rx:=Step.right h T
 have T':Took y i j n (Tk.go (avT y i j) n (wayT p but)) x:=T
 generalize Tk.go (avT y i j) n (wayT p but)=t at k T'
 have h0:=k.left0
 have h1:=k.leftn
 refine ⟨rx,T'.os.1.trans A.osn,fun a ha => ?_,fun a ha b hb => ?_,fun a ha b hb => ?_,⟨T'.on.1.trans A.on.1,fun a ha => ?_⟩,⟨T'.ms.1.trans A.ms.1,fun c hc=>(T'.ms.2 c hc).trans (A.ms.2 c (by rw [← T'.ms.1];exact hc))⟩,⟨T'.si.1.trans A.si.1,fun c hc=>(T'.si.2 c hc).trans (A.si.2 c (by rw [← T'.si.1];exact hc))⟩,⟨T'.so.1.trans A.so.1,fun c hc=>(T'.so.2 c hc).trans (A.so.2 c (by rw [← T'.so.1];exact hc))⟩,⟨T'.sf.1.trans A.sf.1,fun c hc=>(T'.sf.2 c hc).trans (A.sf.2 c (by rw [← T'.sf.1];exact hc))⟩,fun b g hb hg => ?_⟩
 ·have e:=T'.os.2 a (by rw [T'.os.1,A.osn];exact ha)
  have f:=A.kind a ha
  exact ⟨e.1.trans f.1,e.2.1.trans f.2⟩
 ·have f:=A.kind a ha
  have g:=A.line a ha b hb
  rw [T'.line (by rw [A.osn];exact ha) (by rw [f.2];exact hb)]
  by_cases c:a=i∧b=j
  ·rw [if_pos c];exact g
  ·rw [if_neg c];exact g
 ·have f:=A.kind a ha
  have g:=A.sum a ha b hb
  rw [T'.line (by rw [A.osn];exact ha) (by rw [f.2];exact hb),T'.keptS h.r.fm k.sum]
  by_cases c:a=i∧b=j
  ·rw [if_pos c,if_pos ⟨by omega,by omega⟩]
   show ((y.os.z a).ls.z b).n - (n - t.left)+_=_∧((y.os.z a).ls.z b).n - (n - t.left)≤_
   omega
  ·rw [if_neg c,if_neg (fun e=>c ⟨by omega,by omega⟩)]
   omega
 ·have e:=T'.on.2 a ha
  have f:=A.on.2 a (by rw [← T'.on.1];exact ha)
  exact ⟨e.1.trans f.1,fun c hc=>(e.2 c hc).trans (f.2 c (by rw [← e.1];exact hc))⟩
 ·have e:=T'.avail h.r.fm rx.fm h.on h.ln hb hg
  have f:=A.av b g hb hg
  have t0:=k.took0 b
  refine ⟨by rw [e];split<;>omega,fun hbt => ?_⟩
  have hn:((b:Nat):Int) ∉ wayT p but:=fun hm=>(wayT_mem.1 hm).2 hbt
  rw [e,k.other _ hn,f.2 hbt]
  split<;>omega
end
def before (a b i j:Nat):Prop:=a<i∨a=i∧b<j
structure Pos (p:Pl) (but:Int) (q:Nat→Nat→Int) (s:St) (i j:Nat) (x:St):Prop where
 al:Along p but s x
 later:∀ a b,a<s.os.n→b<(s.os.z a).ls.n→¬ before a b i j→(x.os.z a).ls.z b=(s.os.z a).ls.z b∧keptS x.hs.z a b x.hs.n=keptS s.hs.z a b s.hs.n
 none:∀ a b,a<s.os.n→b<(s.os.z a).ls.n→before a b i j→q a b=((s.os.z a).ls.z b).n→0<((x.os.z a).ls.z b).n→∀ c:Nat,c<p.nb→¬ ((c:Nat):Int)=but→availZ x c ((s.os.z a).ls.z b).o.toNat=0
 first:∀ a b,a<s.os.n→b<(s.os.z a).ls.n→∀ a' b',a'<s.os.n→b'<(s.os.z a').ls.n→before a b a' b'→before a' b' i j→q a b=((s.os.z a).ls.z b).n→0<((x.os.z a).ls.z b).n→((s.os.z a).ls.z b).o=((s.os.z a').ls.z b').o→keptS x.hs.z a' b' x.hs.n=keptS s.hs.z a' b' s.hs.n
structure QIn (p:Pl) (but:Int) (q:Nat→Nat→Int) (s:St):Prop where
 r:RightT p s
 q0:∀ a b,a<s.os.n→b<(s.os.z a).ls.n→0≤q a b∧(q a b=0∨(s.os.z a).k=1∧q a b≤((s.os.z a).ls.z b).n)
 bt:but = -1∨0≤but∧but<p.nb
def TkRow (p:Pl) (but:Int) (q:Nat→Nat→Int) (i:Nat) (s:St):Nat→St→Prop
 | 0,x=>x=s
 | j+1,x=>∃ y,TkRow p but q i s j y∧Step p but y i j (q i j) x
def TkAll (p:Pl) (but:Int) (q:Nat→Nat→Int) (m:Nat→Nat) (s:St):Nat→St→Prop
 | 0,x=>SameT x s
 | i+1,x=>∃ y,TkAll p but q m s i y∧TkRow p but q i y (m i) x
section
variable {p:Pl} {but:Int} {q:Nat→Nat→Int} {s y x:St} {i j:Nat}
theorem Pos.stepIn (Q:QIn p but q s) (P:Pos p but q s i j y) (hi:i<s.os.n) (hj:j<(s.os.z i).ls.n):StepIn p but y i j (q i j):=by
 have k:=P.al.kind i hi
 have l:=P.later i j hi hj (fun e=>by unfold before at e;omega)
 have e:=Q.q0 i j hi hj
 refine ⟨P.al.r,by rw [P.al.osn];exact hi,by rw [k.2];exact hj,e.1,?_,Q.bt⟩
 rw [k.1,l.1]
 exact e.2
theorem Pos.start (Q:QIn p but q s) (h:SameT x s):Pos p but q s 0 0 x :=
 ⟨Along.self Q.r h,fun a b ha hb _=>⟨h.line ha hb,h.kept _ _⟩,fun a b _ _ hb=>by unfold before at hb;omega,fun _ _ _ _ a' b' _ _ _ hb=>by unfold before at hb;omega⟩
theorem Pos.next (P:Pos p but q s i j x) (hj:(s.os.z i).ls.n≤j):Pos p but q s (i+1) 0 x:=by
 have key:∀ a b,b<(s.os.z a).ls.n→before a b (i+1) 0→before a b i j:=fun a b hb h=>by
  unfold before at h ⊢
  rcases h with h | h
  ·by_cases e:a=i
   ·subst e
    exact Or.inr ⟨rfl,by omega⟩
   ·exact Or.inl (by omega)
  ·omega
 refine ⟨P.al,fun a b ha hb h=>P.later a b ha hb (fun e=>h ?_),fun a b ha hb h=>P.none a b ha hb (key a b hb h),fun a b ha hb a' b' ha' hb' h h'=>P.first a b ha hb a' b' ha' hb' h (key a' b' hb' h')⟩
 unfold before at e ⊢
 omega
theorem Pos.step (Q:QIn p but q s) (P:Pos p but q s i j y) (hi:i<s.os.n) (hj:j<(s.os.z i).ls.n) (T:Step p but y i j (q i j) x):Pos p but q s i (j+1) x:=by
 have I:=P.stepIn Q hi hj
 have k:=I.tk
 have rx:=Step.right I T
 have A:=P.al.step I T
 have T':Took y i j (q i j) (Tk.go (avT y i j) (q i j) (wayT p but)) x:=T
 generalize ht:Tk.go (avT y i j) (q i j) (wayT p but)=t at k T'
 have L:=P.later i j hi hj (fun e=>by unfold before at e;omega)
 have yln:∀ a,a<s.os.n→∀ b,b<(s.os.z a).ls.n→a<y.os.n∧b<(y.os.z a).ls.n:=fun a ha b hb=>⟨by rw [P.al.osn];exact ha,by rw [(P.al.kind a ha).2];exact hb⟩
 have other:∀ a,a<s.os.n→∀ b,b<(s.os.z a).ls.n→¬ (a=i∧b=j)→(x.os.z a).ls.z b=(y.os.z a).ls.z b∧keptS x.hs.z a b x.hs.n=keptS y.hs.z a b y.hs.n:=fun a ha b hb hne=>by
  have e:=yln a ha b hb
  refine ⟨by rw [T'.line e.1 e.2,if_neg hne],?_⟩
  rw [T'.keptS I.r.fm k.sum,if_neg (fun e=>hne ⟨by omega,by omega⟩),Int.add_zero]
 have prev:∀ a b,before a b i (j+1)→¬ (a=i∧b=j)→before a b i j:=fun a b h hne=>by
  unfold before at h ⊢
  omega
 have hl0:=k.left0
 have hg:=I.tki.good
 have goodE:((y.os.z i).ls.z j).o=((s.os.z i).ls.z j).o:=by rw [L.1]
 refine ⟨A,fun a b ha hb h => ?_,fun a b ha hb h hq hn c hc hcb => ?_,fun a b ha hb a' b' ha' hb' h h' hq hn hgd => ?_⟩
 ·have hne:¬ (a=i∧b=j):=fun e=>h (by unfold before;omega)
  have e:=other a ha b hb hne
  have f:=P.later a b ha hb (fun e=>h (by unfold before at e ⊢;omega))
  exact ⟨e.1.trans f.1,e.2.trans f.2⟩
 ·by_cases hne:a=i∧b=j
  ·obtain ⟨rfl,rfl⟩:=hne
   have e:=T'.line (yln a ha b hb).1 (yln a ha b hb).2
   rw [if_pos ⟨rfl,rfl⟩] at e
   have hx:((x.os.z a).ls.z b).n=((y.os.z a).ls.z b).n - (q a b - t.left):=by rw [e];rfl
   rw [hx,L.1,← hq] at hn
   have hm:((c:Nat):Int)∈wayT p but:=wayT_mem.2 ⟨way_has hc,hcb⟩
   have ha':=k.all (by omega) c hm
   rw [← goodE,T'.avail I.r.fm rx.fm I.on I.ln hc (by omega),if_pos (by omega),ha']
   unfold avT
   show availZ y c _ - availZ y c _=0
   omega
  ·have e:=other a ha b hb hne
   rw [e.1] at hn
   have f:=P.none a b ha hb (prev a b h hne) hq hn c hc hcb
   have gg:=(badLine_no (Q.r.fm.line a ha b hb)).1
   have u:=T'.avail I.r.fm rx.fm I.on I.ln hc (g:=((s.os.z a).ls.z b).o.toNat) (by omega)
   have t0:=k.took0 c
   have v:=(goods_no (rx.goods ((s.os.z a).ls.z b).o.toNat (by omega))).2 c hc
   rw [f] at u
   split at u<;>omega
 ·have nab:¬ (a=i∧b=j):=fun e=>by unfold before at h h';omega
  have eab:=other a ha b hb nab
  rw [eab.1] at hn
  by_cases hne:a'=i∧b'=j
  ·obtain ⟨rfl,rfl⟩:=hne
   have f:=P.none a b ha hb h hq hn
   have tz:∀ c:Nat,c<6→t.took c=0:=fun c hc=>by
    by_cases hm:((c:Nat):Int)∈wayT p but
    ·have w:=StepIn.way _ hm
     have u:=f c (by omega) (wayT_mem.1 hm).2
     have v:=k.had _ hm
     have t0:=k.took0 c
     have e2:avT y a' b' c=availZ y c ((s.os.z a).ls.z b).o.toNat:=by
      unfold avT
      rw [goodE,hgd]
      rfl
     rw [e2,u] at v
     omega
    ·exact k.other _ hm
   have sz:=k.sum
   rw [sumTo_zero fun c hc=>tz c hc] at sz
   rw [T'.keptS I.r.fm k.sum,if_pos ⟨rfl,rfl⟩,L.2]
   omega
  ·have e:=other a' ha' b' hb' hne
   rw [e.2]
   exact P.first a b ha hb a' b' ha' hb' h (prev a' b' h' hne) hq hn hgd
theorem TkRow.pos (Q:QIn p but q s) (P:Pos p but q s i 0 y) (hi:i<s.os.n):∀ {j:Nat} {x:St},j≤(s.os.z i).ls.n→TkRow p but q i y j x→Pos p but q s i j x
 | 0,x,_,h=>by
  have h':x=y:=h
  rw [h']
  exact P
 | j+1,x,hj,h=>by
  obtain ⟨z,hz,T⟩:=h
  exact (TkRow.pos Q P hi (by omega) hz).step Q hi (by omega) T
theorem TkAll.pos {m:Nat→Nat} (Q:QIn p but q s) (hm:∀ a,a<s.os.n→m a=(s.os.z a).ls.n):∀ {i:Nat} {x:St},i≤s.os.n→TkAll p but q m s i x→Pos p but q s i 0 x
 | 0,x,_,h=>Pos.start Q h
 | i+1,x,hi,h=>by
  obtain ⟨z,hz,T⟩:=h
  have P:=TkAll.pos Q hm (i:=i) (by omega) hz
  rw [hm i (by omega)] at T
  exact (TkRow.pos Q P (by omega) (Nat.le_refl _) T).next (Nat.le_refl _)
theorem TkRow.skip (Q:QIn p but q s) (P:Pos p but q s i 0 y) (hi:i<s.os.n):∀ {j:Nat},j≤(s.os.z i).ls.n→(∀ b,b<j→q i b=0)→TkRow p but q i y j y
 | 0,_,_=>rfl
 | j+1,hj,h0=>by
  have T:=TkRow.skip Q P hi (j:=j) (by omega) fun b hb=>h0 b (by omega)
  refine ⟨y,T,?_⟩
  have I:=(TkRow.pos Q P hi (by omega) T).stepIn Q hi (by omega)
  rw [h0 j (by omega)] at I ⊢
  exact Step.skip I.tki
theorem TkRow.same {y':St} (Q:QIn p but q s) (P:Pos p but q s i 0 y) (e:SameT y' y) (hi:i<s.os.n):∀ {j:Nat} {x x':St},j≤(s.os.z i).ls.n→TkRow p but q i y j x→TkRow p but q i y' j x'→SameT x' x
 | 0,x,x',_,h,h'=>by
  have h1:x=y:=h
  have h2:x'=y':=h'
  rw [h1,h2]
  exact e
 | j+1,x,x',hj,⟨z,hz,T⟩,⟨z',hz',T'⟩=>by
  have f:=TkRow.same Q P e hi (j:=j) (by omega) hz hz'
  exact Step.same ((TkRow.pos Q P hi (by omega) hz).stepIn Q hi (by omega)).tki f T T'
theorem TkAll.same {m:Nat→Nat} (Q:QIn p but q s) (hm:∀ a,a<s.os.n→m a=(s.os.z a).ls.n):∀ {i:Nat} {x x':St},i≤s.os.n→TkAll p but q m s i x→TkAll p but q m s i x'→SameT x' x
 | 0,x,x',_,h,h'=>SameT.trans h' (SameT.symm h)
 | i+1,x,x',hi,⟨z,hz,T⟩,⟨z',hz',T'⟩=>by
  have f:=TkAll.same Q hm (i:=i) (by omega) hz hz'
  exact TkRow.same Q (TkAll.pos Q hm (by omega) hz) f (by omega) (by rw [hm i (by omega)];exact Nat.le_refl _) T T'
theorem TkRow.base {q':Nat→Nat→Int} (hq:∀ b,b<(s.os.z i).ls.n→q' i b=q i b):∀ {j:Nat} {x:St},j≤(s.os.z i).ls.n→TkRow p but q' i y j x→TkRow p but q i y j x
 | 0,x,_,h=>h
 | j+1,x,hj,⟨z,hz,T⟩=>⟨z,TkRow.base hq (by omega) hz,by rw [← hq j (by omega)];exact T⟩
theorem TkAll.base {s':St} {q':Nat→Nat→Int} {m m':Nat→Nat} (e:SameT s' s) (hm:∀ a,a<s.os.n→m a=(s.os.z a).ls.n) (hm':∀ a,a<s.os.n→m' a=m a) (hq:∀ a b,a<s.os.n→b<(s.os.z a).ls.n→q' a b=q a b):∀ {i:Nat} {x:St},i≤s.os.n→TkAll p but q' m' s' i x→TkAll p but q m s i x
 | 0,x,_,h=>SameT.trans h e
 | i+1,x,hi,⟨z,hz,T⟩=>⟨z,TkAll.base e hm hm' hq (by omega) hz,by
   rw [hm' i (by omega)] at T
   exact TkRow.base (s:=s) (fun b hb=>hq i b (by omega) hb) (by rw [hm i (by omega)];exact Nat.le_refl _) T⟩
end
def putH (h:Hs) (x:Hd):Hs:=⟨h.a,addLen h.n h.z x,h.c,addZ h.n h.z x⟩
def takeB (s:St) (o l:Nat) (m b:Int):St:=if 0<m then withHolds (setLine s o l 3 (((s.os.z o).ls.z l).n - m)) (putH s.hs (tookH o l b m)) else s
def takeF (s0:St) (o l:Nat):List Int→Int→St→St
 | [],_,x=>x
 | b :: L,n,x=>takeF s0 o l L (n - min n (avT s0 o l b)) (takeB x o l (min n (avT s0 o l b)) b)
def takeT (p:Pl) (but:Int) (s:St) (o l:Nat) (n:Int):St:=takeF s o l (wayT p but) n s
theorem takeF_took {p:Pl} {s:St} {o l:Nat} {n:Int} (h:TakeIn p s o l n):∀ (L2 L1:List Int) (x:St),(∀ c,c∈L1++L2→0≤c∧c<p.nb)→(L1++L2).Pairwise (fun x y=>¬ x=y)→Took s o l n (Tk.go (avT s o l) n L1) x→Took s o l n (Tk.go (avT s o l) n (L1++L2)) (takeF s o l L2 (Tk.go (avT s o l) n L1).left x)
 | [],L1,x,_,_,T=>by rw [List.append_nil];exact T
 | b :: L,L1,x,hc,hp,T=>by
  have e:L1++b :: L=(L1++[b])++L:=by simp
  have hb:=hc b (by simp)
  have k:=h.tk (L:=L1) (List.pairwise_append.1 hp).1 (fun c hc'=>hc c (by simp [hc']))
  have h0:=k.left0
  have hav:0≤avT s o l b:=h.av _ (by omega)
  have T2:Took s o l n (Tk.go (avT s o l) n (L1++[b])) (takeB x o l (min (Tk.go (avT s o l) n L1).left (avT s o l b)) b):=by
   rw [Tk.go_more]
   unfold takeB
   by_cases hm:0<min (Tk.go (avT s o l) n L1).left (avT s o l b)
   ·rw [if_pos hm]
    have he:=(h.addE (fun c hc'=>hc c (by simp [hc'])) k T hb hm (Int.min_le_left _ _)).2.2
    exact T.stepAdd (order:=o) (line:=l) (y:=putH x.hs (tookH o l b (min (Tk.go (avT s o l) n L1).left (avT s o l b)))) h.on h.ln rfl he ⟨(if_pos he).symm,fun _ _=>rfl⟩
   ·rw [if_neg hm]
    exact T.stepZero (by omega)
  have R:=takeF_took h L (L1++[b]) _ (by rw [← e];exact hc) (by rw [← e];exact hp) T2
  rw [e]
  have el:(Tk.go (avT s o l) n (L1++[b])).left=(Tk.go (avT s o l) n L1).left - min (Tk.go (avT s o l) n L1).left (avT s o l b):=by rw [Tk.go_more];rfl
  rw [el] at R
  exact R
theorem takeT_step {p:Pl} {s:St} {o l:Nat} {n but:Int} (h:TakeIn p s o l n):Step p but s o l n (takeT p but s o l n) :=
 takeF_took h (wayT p but) [] s (fun c hc=>StepIn.way c hc) (wayT_apart p but) (Took.start (n:=n) h.fm.hold (SameT.self s))
def rowT (p:Pl) (but:Int) (q:Nat→Nat→Int) (i:Nat):Nat→St→St
 | 0,s=>s
 | j+1,s=>takeT p but (rowT p but q i j s) i j (q i j)
def allT (p:Pl) (but:Int) (q:Nat→Nat→Int) (m:Nat→Nat):Nat→St→St
 | 0,s=>s
 | i+1,s=>rowT p but q i (m i) (allT p but q m i s)
section
variable {p:Pl} {but:Int} {q:Nat→Nat→Int} {s y:St} {i:Nat}
theorem rowT_row (Q:QIn p but q s) (P:Pos p but q s i 0 y) (hi:i<s.os.n):∀ {j:Nat},j≤(s.os.z i).ls.n→TkRow p but q i y j (rowT p but q i j y)
 | 0,_=>rfl
 | j+1,hj=>by
  have T:=rowT_row Q P hi (j:=j) (by omega)
  exact ⟨_,T,takeT_step ((TkRow.pos Q P hi (by omega) T).stepIn Q hi (by omega)).tki⟩
theorem allT_all {m:Nat→Nat} (Q:QIn p but q s) (hm:∀ a,a<s.os.n→m a=(s.os.z a).ls.n):∀ {i:Nat},i≤s.os.n→TkAll p but q m s i (allT p but q m i s)
 | 0,_=>SameT.self s
 | i+1,hi=>by
  have T:=allT_all Q hm (i:=i) (by omega)
  exact ⟨_,T,by
   rw [show m i=(s.os.z i).ls.n from hm i (by omega)]
   show TkRow p but q i _ _ (rowT p but q i (m i) _)
   rw [hm i (by omega)]
   exact rowT_row Q (TkAll.pos Q hm (by omega) T) (by omega) (Nat.le_refl _)⟩
end
end Go.Proofs.YtbcacebifpagpagGreat
namespace Go.Proofs.YtbcacebifpagpagGreat
open Go.RowKit Go.Shelf Go.Sort
set_option linter.unusedVariables false
def lackH (x:Hd):Hd:=⟨x.o,x.l,x.b,x.l - x.b⟩
def lackL (h:Hs) (k:Nat):Hs:=⟨h.a,h.n,h.c,fun j=>if j<k then lackH (h.z j) else h.z j⟩
def lackO (os:Os) (i k:Nat):Os:=⟨os.a,os.n,os.c,fun a=>if a=i then ⟨(os.z a).k,lackL (os.z a).ls k⟩ else os.z a⟩
def lackS (s:St) (i k:Nat):St:=⟨s.on,lackO s.os i k,s.hs,s.ms,s.si,s.so,s.sf⟩
theorem lackS_at (s:St) (i k:Nat):((lackS s i k).os.z i)=⟨(s.os.z i).k,lackL (s.os.z i).ls k⟩:=if_pos rfl
theorem lackS_zero (s:St) (i:Nat):lackS s i 0=s:=by
 unfold lackS lackO
 have e:(fun a=>if a=i then (⟨(s.os.z a).k,lackL (s.os.z a).ls 0⟩:Od) else s.os.z a)=s.os.z:=by
  funext a
  by_cases h:a=i
  ·rw [if_pos h]
   have e2:lackL (s.os.z a).ls 0=(s.os.z a).ls:=by
    unfold lackL
    have e3:(fun j=>if j<0 then lackH ((s.os.z a).ls.z j) else (s.os.z a).ls.z j)=(s.os.z a).ls.z:=by funext j;rw [if_neg (Nat.not_lt_zero _)]
    rw [e3]
   rw [e2]
  ·rw [if_neg h]
 rw [e]
theorem lackS_succ (s:St) (i k:Nat):setLine (lackS s i k) i k 3 (((s.os.z i).ls.z k).l - ((s.os.z i).ls.z k).b)=lackS s i (k+1):=by
 have e:setOd (lackO s.os i k) i k 3 (((s.os.z i).ls.z k).l - ((s.os.z i).ls.z k).b)=lackO s.os i (k+1):=by
  unfold setOd lackO
  dsimp only
  congr 1
  funext a
  by_cases h:a=i
  ·subst h
   simp only [↓reduceIte]
   congr 1
   unfold setLn lackL
   dsimp only
   congr 1
   funext j
   by_cases hj:j=k
   ·subst hj
    rw [if_pos rfl,if_neg (Nat.lt_irrefl _),if_pos (by omega)]
    rfl
   ·rw [if_neg hj]
    by_cases hk:j<k
    ·rw [if_pos hk,if_pos (by omega)]
    ·rw [if_neg hk,if_neg (by omega)]
  ·rw [if_neg h,if_neg h,if_neg h]
 unfold setLine
 rw [show (lackS s i k).os=lackO s.os i k from rfl,e]
 rfl
def KeepO (w wk:World):Prop:=∀ (q:Nat) (t:TypeId) (m:Nat) (f:Nat→Value),t≠59→t≠57→Blk w q t m f→Blk wk q t m f
theorem KeepO.below {w wk wj:World} (h:KeepO w wk) (hB:Below wk.heap.size wk wj):KeepO w wj:=fun q t m f ht h2 hb=>(h q t m f ht h2 hb).below hB
theorem KeepO.refl (w:World):KeepO w w:=fun _ _ _ _ _ _ h=>h
theorem KeepO.trans {w wk wj:World} (h:KeepO w wk) (k:KeepO wk wj):KeepO w wj:=fun q t m f ht h2 hb=>k q t m f ht h2 (h q t m f ht h2 hb)
theorem KeepO.setLine {w wk:World} (h:KeepO w wk) {B n:Nat} {z:Nat→Value} (hB:Blk wk B 59 n z) (j:Nat) (u:Value):KeepO w (wk.setCell ⟨B,j,none⟩ u):=fun q t m f ht h2 hb=>(h q t m f ht h2 hb).other (a:=⟨B,j,none⟩) (Blk.ne2 (h q t m f ht h2 hb) hB ht) u
theorem KeepO.setOrder {w wk:World} (h:KeepO w wk) {B n:Nat} {z:Nat→Value} (hB:Blk wk B 57 n z) (j:Nat) (u:Value):KeepO w (wk.setCell ⟨B,j,none⟩ u):=fun q t m f ht h2 hb=>(h q t m f ht h2 hb).other (a:=⟨B,j,none⟩) (Blk.ne2 (h q t m f ht h2 hb) hB h2) u
set_option maxRecDepth 100000 in
set_option maxHeartbeats 4000000 in
theorem lack_any (x:St) (i A gO:Nat) (w:World) (hA:A≤w.heap.size) (hO:OwnS A w x) (hi:i<x.os.n) (hga:x.os.a=some ⟨gO,0,none⟩) (hbd:∀ j,j<(x.os.z i).ls.n→(0≤((x.os.z i).ls.z j).l∧((x.os.z i).ls.z j).l≤200)∧0≤((x.os.z i).ls.z j).b∧((x.os.z i).ls.z j).b≤200) :
  Calls Tryz.prog 99 #[.pointer (some ⟨gO,i*2,none⟩)] w fun e w'=>e = .returned (.tuple #[])∧OwnS A w' (lackS x i (x.os.z i).ls.n)∧Below A w w'∧KeepO w w':=by
 obtain ⟨g,hg1,hg2,hg3⟩:=hO.os.list (by omega)
 obtain ⟨B,b1,b2,b3,b4,b5⟩:=hO.os.lines i hi
 have hgg:g=gO:=by rw [hga] at hg1;simpa using hg1.symm
 subst hgg
 have HOI:Hid (∀ wk k,OwnS A wk (lackS x i k)→∀ {l:Nat},l<(x.os.z i).ls.n→∃ g' B',(lackS x i k).os.a=some ⟨g',0,none⟩∧g'<wk.heap.size∧wk.cell? ⟨g',i*2+1,none⟩=some (.slice (some ⟨B',0,none⟩) (x.os.z i).ls.n (x.os.z i).ls.c)∧((lackS x i k).os.z i).ls.a=some ⟨B',0,none⟩):=fun wk k h l hl=>by
  have hl':l<((lackS x i k).os.z i).ls.n:=by rw [lackS_at];exact hl
  obtain ⟨g',B',f1,f2,f3,f4,f5,_⟩:=h.lineCell (o:=i) (l:=l) hi hl'
  rw [lackS_at] at f4
  exact ⟨g',B',f1,f3,f4,f5⟩
 have HBD:Hid _:=hbd
 have c0:=hg3.cell (j:=i*2+1) (by omega)
 rw [flatO_at (z:=x.os.z) hi (show 1<2 by decide)] at c0
 have c1:w.cell? ⟨g,i*2+1,none⟩=some (.slice (x.os.z i).ls.a (x.os.z i).ls.n (x.os.z i).ls.c):=c0
 clear c0
 rw [b1] at c1
 have gl:=hg3.lt
 have HO:Hid (OwnS A w (lackS x i 0)):=by show OwnS A w (lackS x i 0);rw [lackS_zero];exact hO
 have HB1:Hid ((x.os.z i).ls.a=some ⟨B,0,none⟩):=b1
 have HGA:Hid (x.os.a=some ⟨g,0,none⟩):=hga
 unfold maxLen at b4
 clear hO hg1 hg3 b1 b5 hga hbd
 go_enter Tryz.func99,Tryz.ntmps99
 go_wp2_with fail
 clear c1 gl
 go_loopw [9] (fun kv wk=>∃ k:Nat,k≤(x.os.z i).ls.n∧kv = .int .i64 k∧Hid (OwnS A wk (lackS x i k))∧Hid (Below A w wk)∧Hid (KeepO w wk)) (fun kv _=>(x.os.z i).ls.n - (intOf kv).toNat)
 case atStart=>exact ⟨0,Nat.zero_le _,rfl,HO,Below.refl _ _,KeepO.refl _⟩
 case round =>
  clear HO
  obtain ⟨k,hk,rfl,HO,HB,HK⟩:=hrel
  by_cases hlt:k<(x.os.z i).ls.n
  ·have hl':k<((lackS x i k).os.z i).ls.n:=by rw [lackS_at];exact hlt
   obtain ⟨g',B',f1,f2,f3,f4,f5,f6,f7,f8,f9,f10,f11,f12,f13,f14⟩:=HO.out.lineCell (o:=i) (l:=k) hi hl'
   have e1:g'=g:=by
    have h:x.os.a=some ⟨g',0,none⟩:=f1
    rw [HGA.out] at h
    simpa using h.symm
   have e2:B'=B:=by
    have h:(x.os.z i).ls.a=some ⟨B',0,none⟩:=by rw [lackS_at] at f5;exact f5
    rw [HB1.out] at h
    simpa using h.symm
   subst e1
   subst e2
   have HF5:Hid (((lackS x i k).os.z i).ls.a=some ⟨B',0,none⟩):=f5
   have hz:((lackS x i k).os.z i).ls.z k=(x.os.z i).ls.z k:=by
    rw [lackS_at]
    exact if_neg (Nat.lt_irrefl _)
   rw [hz] at f11 f12 f13 f14
   rw [lackS_at] at f4
   have f4':wr.cell? ⟨g',i*2+1,none⟩=some (.slice (some ⟨B',0,none⟩) (x.os.z i).ls.n (x.os.z i).ls.c):=f4
   clear f4
   have HSU:Hid (setLine (lackS x i k) i k 3 (((x.os.z i).ls.z k).l - ((x.os.z i).ls.z k).b)=lackS x i (k+1)):=lackS_succ x i k
   have hb:=HBD.out k hlt
   have q0:(0:Int)≤(k:Int):=by omega
   have q1:(k:Int)<((x.os.z i).ls.n:Int):=by omega
   generalize (x.os.z i).ls.z k=Z at *
   obtain ⟨W,hW,hWB,KX⟩:∃ W,wr.alloc (.cells #[.int .i64 Z.o,.int .i64 Z.l,.int .i64 Z.b,.int .i64 Z.n] 59)=W∧Below wr.heap.size wr W∧Blk W wr.heap.size 59 4 (fun j=>(#[.int .i64 Z.o,.int .i64 Z.l,.int .i64 Z.b,.int .i64 Z.n]:Array Value).getD j default):=⟨_,rfl,(Below.refl _ _).alloc (Nat.le_refl _) _,Blk.mk' rfl rfl⟩
   have HW:Hid (wr.alloc (.cells #[.int .i64 Z.o,.int .i64 Z.l,.int .i64 Z.b,.int .i64 Z.n] 59)=W):=hW
   have HOW:Hid (OwnS A W (lackS x i k)):=HO.out.below hWB
   have hBW:=HB.out.trans (hWB.mono (Nat.le_trans hA HB.out.size))
   have HKW:Hid (KeepO w W):=HK.out.below hWB
   have t1:∀ d os,(grow (redrawn W d) os).cell? ⟨g',i*2+1,none⟩=some (.slice (some ⟨B',0,none⟩) (x.os.z i).ls.n (x.os.z i).ls.c):=fun d os=>cell_regrown ((hWB.cell (p:=⟨g',i*2+1,none⟩) f3).trans f4') d os
   have t2:∀ d os,(grow (redrawn W d) os).cell? ⟨wr.heap.size,1,none⟩=some (.int .i64 Z.l):=fun d os=>cell_regrown (KX.cell (j:=1) (by decide)) d os
   have t3:∀ d os,(grow (redrawn W d) os).cell? ⟨wr.heap.size,2,none⟩=some (.int .i64 Z.b):=fun d os=>cell_regrown (KX.cell (j:=2) (by decide)) d os
   clear hW hz f1 f2 f5 f8 f9 f10 KX HO HB HK
   go_wp2_with fail
   rw [HW.out]
   refine wp_region_made5 (fun w'=>∃ p:Regrown,w'=grow (redrawn W p.d) p.os) (List.range 12) [] [(true,12)] (by kernel_rfl) (by kernel_rfl) (by kernel_rfl) (by kernel_rfl) (by kernel_rfl) (by kernel_rfl) (by kernel_rfl) (by kernel_rfl) (by kernel_rfl) (regrown_of_below ((Below.refl _ _).drew)) ?_
   rw [show List.range 12=[0,1,2,3,4,5,6,7,8,9,10,11] from rfl]
   simp only [picks,List.drop_succ_cons,List.drop_zero,List.take_succ_cons,List.take_zero,List.cons_append,List.nil_append]
   repeat (go_big_quiet_step (fail))
   refine wpQuiet_nil ?_
   clear t1 t2 t3
   refine ⟨fun _ _ _ _=>True,List.forall_mem_nil _,List.forall_mem_nil _,List.forall_mem_nil _,fun V G wj hS _ _ => ?_⟩
   have hX:=below_of_regrown hS
   have hOj:=OwnS.below HOW.out hX
   have hBj:=hBW.trans (hX.mono (Nat.le_trans hA hBW.size))
   have hKj:=HKW.out.below hX
   obtain ⟨Bq,hla',-,-,-,hlb⟩:=hOj.os.lines i hi
   rw [HF5.out] at hla'
   simp only [Option.some.injEq,Addr.mk.injEq,and_true] at hla'
   subst hla'
   have zl:=hlb.lt
   have zf:=hlb.frozen (k*4+3)
   have zc:=hlb.cell (j:=k*4+3) (by omega)
   have hOc:=hOj.setLine (o:=i) hi HF5.out k 3 (by decide) (Z.l - Z.b)
   have kpc:=hKj.setLine hlb (k*4+3) (.int .i64 (Z.l - Z.b))
   have hBc:=hBj.setCell (p:=⟨B',k*4+3,none⟩) (by show A≤B';omega) (.int .i64 (Z.l - Z.b))
   rw [HSU.out] at hOc
   have HN:Hid (OwnS A (wj.setCell ⟨B',k*4+3,none⟩ (.int .i64 (Z.l - Z.b))) (lackS x i (k+1))∧Below A w (wj.setCell ⟨B',k*4+3,none⟩ (.int .i64 (Z.l - Z.b)))∧KeepO w (wj.setCell ⟨B',k*4+3,none⟩ (.int .i64 (Z.l - Z.b)))):=⟨hOc,hBc,kpc⟩
   clear hOj hBj hKj hlb hOc kpc hBc hX hS HOW HKW hBW
   generalize (flatH ((lackS x i k).os.z i).ls.n ((lackS x i k).os.z i).ls.z).getD (k*4+3) default=VV at zc
   simp only [putAll]
   refine wpSeq_one 12 rfl ?_
   go_wp2_with fail
   refine ⟨Late.yes,?_⟩
   refine NoPanic.normal ?_
   go_wp2_with fail
   go_roundw
   case rel=>exact ⟨k+1,by omega,by go_num,HN.out.1,HN.out.2.1,HN.out.2.2⟩
   case measure=>simp [intOf];omega
  ·have hkn:k=(x.os.z i).ls.n:=by omega
   subst hkn
   go_wp2_with fail
   first | go_end0 | refine bodyPost_ret (results_none rfl _ _ _) rfl ?_
   exact ⟨rfl,HO.out,HB.out,HK.out⟩
end Go.Proofs.YtbcacebifpagpagGreat
namespace Go.Proofs.YtbcacebifpagpagGreat
open Go.RowKit Go.Shelf
set_option linter.unusedVariables false
theorem zeroInt (w:World):(zeroValue 3).run Tryz.prog w = .ok (.int .i64 0) w:=by kernel_rfl
theorem Blk.setCells {g:Nat} {e:TypeId} {n:Nat} {f:Nat→Value}:∀ (vs:List Value) (o:Nat) (w:World),Blk w g e n f→n≤o→Blk (w.setCells g o vs) g e n f
 | [],_,_,h,_=>h
 | v :: r,o,w,h,hn=>by
  rw [World.setCells]
  exact Blk.setCells r (o+1) _ ((h.set o v).congr fun j hj=>by rw [if_neg (by omega)]) (by omega)
theorem below_cells {B g:Nat} (hg:B≤g) {a:World}:∀ (vs:List Value) (o:Nat) (w:World),Below B a w→Below B a (w.setCells g o vs)
 | [],_,_,h=>h
 | v :: r,o,w,h=>by
  rw [World.setCells]
  exact below_cells hg r (o+1) _ (h.setCell (p:=⟨g,o,none⟩) hg v)
theorem Blk.less {w:World} {g:Nat} {e:TypeId} {n m:Nat} {f:Nat→Value} (h:Blk w g e n f) (hm:m≤n):Blk w g e m f:=by
 obtain ⟨cur,h1,h2,h3⟩:=h
 exact ⟨cur,h1,by omega,fun j hj=>h3 j (by omega)⟩
set_option maxHeartbeats 400000 in
theorem idxI2 (f:Nat) (caps:Array Value) (bad:Nat→Bool) (A:Nat) (a:Option Addr) (n c:Nat) (w:World) (hA:A≤w.heap.size) (hn:n≤c) (hc:c≤maxLen) (z:Nat→Int) (hz:IntsAt w a n z)
  (eg:∀ args w,(callFunc f args).run Tryz.prog w = .ok (.enter f args) w)
  (hf:Hid (∀ i w1,i<n→Below A w w1→Calls Tryz.prog f (#[.int .i64 (z i)]++caps) w1 fun e w'=>e = .returned (.bool (bad i))∧Below w1.heap.size w1 w')) :
  Calls Tryz.prog 126 #[.slice a n c,.func (.func f) #[] caps] w fun e w'=>((e = .returned (.int .i64 (-1))∧∀ j,j<n→bad j=false)∨∃ k,k<n∧e = .returned (.int .i64 (k:Nat))∧bad k=true∧∀ j,j<k→bad j=false)∧Below w.heap.size w w':=by
 unfold maxLen at hc
 go_enter Tryz.func126,Tryz.ntmps126
 go_wp2_with fail
 go_loopw [8] (fun i w1=>∃ k:Nat,k≤n∧i = .int .i64 k∧(∀ j,j<k→bad j=false)∧Below w.heap.size w w1) (fun i _=>n - (intOf i).toNat)
 case atStart=>exact ⟨0,Nat.zero_le _,rfl,fun j hj=>absurd hj (Nat.not_lt_zero _),Below.refl _ _⟩
 case round =>
  obtain ⟨k,hk,rfl,hno,hB⟩:=hrel
  have HN:Hid (∀ j,j<k→bad j=false):=hno
  clear hno
  by_cases hlt:k<n
  ·obtain ⟨b,o,rfl,_,hcell⟩:=(hz.below hB) k hlt
   clear hz
   go_wp2_with fail
   refine (hf.out k wr hlt (hB.mono hA)).mono ?_
   rintro e w1 ⟨rfl,hB1⟩
   have hB2:=hB.trans (hB1.mono hB.size)
   cases hbad:bad k
   ·go_wp2_with fail
    go_roundw
    case rel =>
     refine ⟨k+1,by omega,by go_num,?_,hB2⟩
     intro j hj
     by_cases hjk:j=k
     ·rw [hjk,hbad]
     ·exact HN.out j (by omega)
    case measure=>simp [intOf];omega
   ·go_wp2_with fail
    go_ret
    exact ⟨Or.inr ⟨k,hlt,rfl,hbad,HN.out⟩,hB2⟩
  ·go_wp2_with fail
   go_ret
   have hkn:k=n:=by omega
   subst hkn
   exact ⟨Or.inl ⟨rfl,HN.out⟩,hB⟩
def stay (bad:Int→Bool) (xs:List Int) (k:Nat):List Int:=(xs.take k).filter (fun x => !bad x)
theorem stay_all (bad:Int→Bool) (xs:List Int):stay bad xs xs.length=xs.filter (fun x => !bad x):=by unfold stay;rw [List.take_length]
theorem stay_succ {bad:Int→Bool} {xs:List Int} {k:Nat} (hk:k<xs.length):stay bad xs (k+1)=stay bad xs k++if bad (xs.getD k 0) then [] else [xs.getD k 0]:=by
 unfold stay
 have e:xs.getD k 0=xs[k]:=by simp [List.getD,List.getElem?_eq_getElem hk]
 rw [List.take_add_one,List.getElem?_eq_getElem hk,List.filter_append,e]
 congr 1
 cases h:bad xs[k]<;>simp [h]
theorem stay_full {bad:Int→Bool} {xs:List Int}:∀ {k:Nat},k≤xs.length→(∀ j,j<k→bad (xs.getD j 0)=false)→stay bad xs k=xs.take k
 | 0,_,_=>by simp [stay]
 | k+1,hk,h=>by
  rw [stay_succ (by omega),stay_full (k:=k) (by omega) (fun j hj=>h j (by omega)),h k (by omega),List.take_add_one]
  simp [List.getD,List.getElem?_eq_getElem (show k<xs.length by omega)]
def DelAt (g:Nat) (bad:Int→Bool) (xs:List Int) (k:Nat) (wk:World):Prop:=∃ c:Nat→Value,Blk wk g 3 xs.length c∧(∀ q,q<(stay bad xs k).length→c q = .int .i64 ((stay bad xs k).getD q 0))∧∀ q,k≤q→q<xs.length→c q = .int .i64 (xs.getD q 0)
set_option maxRecDepth 100000 in
set_option maxHeartbeats 2000000 in
theorem DelI_any (f:Nat) (caps:Array Value) (bad:Int→Bool) (A g cap:Nat) (xs:List Int) (w:World) (hA:A≤g) (hA2:A≤w.heap.size) (hn:xs.length≤cap) (hcap:cap≤maxLen) (hb:Blk w g 3 xs.length (fun j => .int .i64 (xs.getD j 0)))
  (eg:∀ args w,(callFunc f args).run Tryz.prog w = .ok (.enter f args) w)
  (hf:Hid (∀ (x:Int) w1,Below A w w1→Calls Tryz.prog f (#[.int .i64 x]++caps) w1 fun e w'=>e = .returned (.bool (bad x))∧Below w1.heap.size w1 w')) :
  Calls Tryz.prog 143 #[.slice (some ⟨g,0,none⟩) xs.length cap,.func (.func f) #[] caps] w fun e w'=>e = .returned (.slice (some ⟨g,0,none⟩) (xs.filter (fun x => !bad x)).length cap)∧Blk w' g 3 (xs.filter (fun x => !bad x)).length (fun j => .int .i64 ((xs.filter (fun x => !bad x)).getD j 0))∧Below A w w':=by
 have hcap0:=hcap
 unfold maxLen at hcap
 have HBK:Hid (Blk w g 3 xs.length (fun j => .int .i64 (xs.getD j 0))):=hb
 have hz:IntsAt w (some ⟨g,0,none⟩) xs.length (fun j=>xs.getD j 0):=hb.ints
 clear hb
 go_enter Tryz.func143,Tryz.ntmps143
 go_wp2_with fail
 refine (idxI2 f caps (fun j=>bad (xs.getD j 0)) A _ _ _ w hA2 hn hcap0 _ hz eg (fun i w1 _ h=>hf.out _ w1 h)).mono ?_
 rintro e w1 ⟨h,hB1⟩
 clear hz
 have hBA:=hB1.mono hA2
 rcases h with ⟨rfl,hno⟩ | ⟨k0,hk0,rfl,hbad,hno⟩
 ·have hfil:xs.filter (fun x => !bad x)=xs:=by
   have:=stay_full (bad:=bad) (Nat.le_refl xs.length) hno
   rw [stay_all,List.take_length] at this
   exact this
  have HF:Hid (xs.filter (fun x => !bad x)=xs):=hfil
  clear hfil hno
  go_wp2_with fail
  go_ret
  rw [HF.out]
  exact ⟨rfl,HBK.out.below hB1,hBA⟩
 ·have hs0:stay bad xs (k0+1)=xs.take k0:=by rw [stay_succ hk0,stay_full (by omega) hno,hbad];simp
  have hl0:(stay bad xs (k0+1)).length=k0:=by rw [hs0,List.length_take];omega
  have H0:Hid (DelAt g bad xs (k0+1) w1):=⟨_,HBK.out.below hB1,fun q hq=>by
   rw [hl0] at hq
   rw [hs0]
   simp only [List.getD,List.getElem?_take,if_pos hq],fun q _ _=>rfl⟩
  have HL0:Hid ((stay bad xs (k0+1)).length=k0):=hl0
  clear hs0 hl0 hbad hno HBK
  go_wp2_with fail
  go_loopw [5,6] (fun i j wk=>∃ k:Nat,k≤xs.length∧j = .int .i64 k∧i = .int .i64 ((stay bad xs k).length:Nat)∧(stay bad xs k).length<k∧Hid (DelAt g bad xs k wk)∧Below A w wk) (fun _ j _=>xs.length - (intOf j).toNat)
  case atStart=>exact ⟨k0+1,by omega,by go_num,by rw [HL0.out],by rw [HL0.out];omega,H0,hBA⟩
  case round =>
   clear H0 HL0 hBA hB1
   obtain ⟨k,hk,rfl,rfl,hlen,HD,hB⟩:=hrel
   by_cases hlt:k<xs.length
   ·obtain ⟨c,hc1,hc2,hc3⟩:=HD.out
    have HB:Hid (Blk wr g 3 xs.length c∧(∀ q,q<(stay bad xs k).length→c q = .int .i64 ((stay bad xs k).getD q 0))∧∀ q,k≤q→q<xs.length→c q = .int .i64 (xs.getD q 0)):=⟨hc1,hc2,hc3⟩
    have z0:wr.cell? ⟨g,k,none⟩=some (.int .i64 (xs.getD k 0)):=(hc1.cell hlt).trans (by rw [hc3 k (Nat.le_refl _) hlt])
    have z1:=hc1.lt
    have HS:Hid (stay bad xs (k+1)=stay bad xs k++if bad (xs.getD k 0) then [] else [xs.getD k 0]):=stay_succ hlt
    have HX:Hid (xs.getD k 0=xs.getD k 0):=rfl
    clear hc1 hc2 hc3 HD
    obtain ⟨X,hX⟩:∃ X,xs.getD k 0=X:=⟨_,rfl⟩
    have HXE:Hid (xs.getD k 0=X):=hX
    rw [hX] at z0
    clear hX HX
    obtain ⟨I,hI⟩:∃ I,(stay bad xs k).length=I:=⟨_,rfl⟩
    have HIE:Hid ((stay bad xs k).length=I):=hI
    rw [hI] at hlen ⊢
    clear hI
    go_wp2_with fail
    refine (hf.out X wr hB).mono ?_
    rintro e w2 ⟨rfl,hB2⟩
    have hB3:=hB.trans (hB2.mono (Nat.le_trans hA2 hB.size))
    have kb:=HB.out.1.below hB2
    cases hbd:bad X
    ·have y1:=kb.frozen I
     have y2:=kb.cell (j:=I) (by omega)
     have y3:=kb.lt
     have KB:=kb.set I (.int .i64 X)
     have HN:Hid (DelAt g bad xs (k+1) (w2.setCell ⟨g,I,none⟩ (.int .i64 X))∧Below A w (w2.setCell ⟨g,I,none⟩ (.int .i64 X))∧(stay bad xs (k+1)).length=I+1):=by
      have e1:stay bad xs (k+1)=stay bad xs k++[X]:=by rw [HS.out,HXE.out,hbd];rfl
      have e2:(stay bad xs (k+1)).length=I+1:=by rw [e1,List.length_append,HIE.out];rfl
      refine ⟨⟨_,KB,fun q hq => ?_,fun q hq hq2 => ?_⟩,hB3.setCell (p:=⟨g,I,none⟩) hA _,e2⟩
      ·rw [e2] at hq
       show (if q=I then Value.int .i64 X else c q)=_
       rw [e1]
       by_cases hqi:q=I
       ·rw [if_pos hqi]
        simp only [List.getD]
        rw [List.getElem?_append_right (by rw [HIE.out];omega),HIE.out,hqi]
        simp
       ·rw [if_neg hqi,HB.out.2.1 q (by rw [HIE.out];omega)]
        simp only [List.getD]
        rw [List.getElem?_append_left (by rw [HIE.out];omega)]
      ·show (if q=I then Value.int .i64 X else c q)=_
       rw [if_neg (by omega),HB.out.2.2 q (by omega) hq2]
     clear kb KB HB HS
     go_wp2_with fail
     go_roundw
     case rel=>exact ⟨_,_,_,_,_,_,_,_,_,_,_,_,_,_,_,_,_,_,_,_,_,_,_,⟨k+1,by omega,by go_num,by rw [HN.out.2.2];go_num,by rw [HN.out.2.2];omega,HN.out.1,HN.out.2.1⟩,rfl⟩
     case measure=>simp [intOf];omega
    ·have HN:Hid (DelAt g bad xs (k+1) w2∧(stay bad xs (k+1)).length=I):=by
      have e1:stay bad xs (k+1)=stay bad xs k:=by rw [HS.out,HXE.out,hbd];simp
      rw [e1]
      exact ⟨⟨c,kb,by rw [e1];exact HB.out.2.1,fun q hq hq2=>HB.out.2.2 q (by omega) hq2⟩,HIE.out⟩
     clear kb HB HS
     go_wp2_with fail
     go_roundw
     case rel=>exact ⟨_,_,_,_,_,_,_,_,_,_,_,_,_,_,_,_,_,_,_,_,_,_,_,⟨k+1,by omega,by go_num,by rw [HN.out.2],by rw [HN.out.2];omega,HN.out.1,hB3⟩,rfl⟩
     case measure=>simp [intOf];omega
   ·have hkn:k=xs.length:=by omega
    subst hkn
    obtain ⟨c,hc1,hc2,hc3⟩:=HD.out
    have HIE:Hid (stay bad xs xs.length=xs.filter (fun x => !bad x)):=stay_all bad xs
    rw [stay_all] at hlen hc2 ⊢
    obtain ⟨I,hI⟩:∃ I,(xs.filter (fun x => !bad x)).length=I:=⟨_,rfl⟩
    have HI:Hid ((xs.filter (fun x => !bad x)).length=I):=hI
    rw [hI] at hlen hc2 ⊢
    clear hI
    obtain ⟨N,hN⟩:∃ N,xs.length=N:=⟨_,rfl⟩
    have HNE:Hid (xs.length=N):=hN
    rw [hN] at hlen hn hc1 ⊢
    clear hN hc3 hlt hk HD
    have hci:¬ cap=I:=by omega
    have hcl:∀ ty,(Builtin.clear_ #[23] ty #[.slice (some ⟨g,I,none⟩) (N - I) (cap - I)]).run Tryz.prog wr = .ok (.tuple #[]) (wr.setCells g I (List.replicate (N - I) (.int .i64 0))):=fun ty =>
     Lib.run_clear_slice wr 23 3 ty (.int .i64 0) Tryz.underlying23 zeroInt rfl rfl g I (N - I) (cap - I) (by omega) (fun j hj=>by rw [hc1.cell (by omega)];rfl) (fun j _=>hc1.frozen _)
    have HEND:Hid (Blk (wr.setCells g I (List.replicate (N - I) (.int .i64 0))) g 3 I (fun j => .int .i64 ((xs.filter (fun x => !bad x)).getD j 0))∧Below A w (wr.setCells g I (List.replicate (N - I) (.int .i64 0)))) :=
     ⟨Blk.setCells _ _ _ ((hc1.less (by omega)).congr fun j hj=>hc2 j hj) (Nat.le_refl _),below_cells hA _ _ _ hB⟩
    clear hc1 hc2
    go_wp2_with fail
    go_ret
    rw [HI.out]
    exact ⟨rfl,HEND.out⟩
def hd0:Hd:=⟨0,0,0,0⟩
def hc (c:Nat→Hd) (q:Nat):Value:=(hdCells (c (q/4))).getD (q%4) default
theorem hc_at (c:Nat→Hd) (i:Nat):hc c (i*4) = .int .i64 (c i).o∧hc c (i*4+1) = .int .i64 (c i).l∧hc c (i*4+2) = .int .i64 (c i).b∧hc c (i*4+3) = .int .i64 (c i).n:=by
 unfold hc
 refine ⟨?_,?_,?_,?_⟩
 ·rw [show i*4/4=i by omega,show i*4%4=0 by omega];rfl
 ·rw [show (i*4+1)/4=i by omega,show (i*4+1)%4=1 by omega];rfl
 ·rw [show (i*4+2)/4=i by omega,show (i*4+2)%4=2 by omega];rfl
 ·rw [show (i*4+3)/4=i by omega,show (i*4+3)%4=3 by omega];rfl
theorem hc_flat {n:Nat} {z:Nat→Hd} {q:Nat} (hq:q<n*4):(flatH n z).getD q default=hc z q:=by
 have h:=flatH_get n z (q/4) (q%4) (by omega) (by omega)
 rw [show q/4*4+q%4=q by omega] at h
 unfold hc
 simp only [List.getD]
 rw [h]
def set4 (w:World) (g i:Nat) (x:Hd):World:=(((w.setCell ⟨g,i*4,none⟩ (.int .i64 x.o)).setCell ⟨g,i*4+1,none⟩ (.int .i64 x.l)).setCell ⟨g,i*4+2,none⟩ (.int .i64 x.b)).setCell ⟨g,i*4+3,none⟩ (.int .i64 x.n)
theorem Blk.set4 {w:World} {g:Nat} {e:TypeId} {n:Nat} {c:Nat→Hd} (h:Blk w g e n (hc c)) (i:Nat) (x:Hd):Blk (set4 w g i x) g e n (hc fun j=>if j=i then x else c j):=by
 unfold Go.Proofs.YtbcacebifpagpagGreat.set4
 refine ((((h.set _ _).set _ _).set _ _).set _ _).congr fun q hq => ?_
 have ha:=hc_at (fun j=>if j=i then x else c j) i
 simp only [if_pos] at ha
 by_cases h3:q=i*4+3
 ·rw [if_pos h3,h3,ha.2.2.2]
 ·rw [if_neg h3]
  by_cases h2:q=i*4+2
  ·rw [if_pos h2,h2,ha.2.2.1]
  ·rw [if_neg h2]
   by_cases h1:q=i*4+1
   ·rw [if_pos h1,h1,ha.2.1]
   ·rw [if_neg h1]
    by_cases h0:q=i*4
    ·rw [if_pos h0,h0,ha.1]
    ·rw [if_neg h0]
     unfold hc
     dsimp only
     rw [if_neg (by omega)]
theorem below_set4 {A g:Nat} (hg:A≤g) {a w:World} (h:Below A a w) (i:Nat) (x:Hd):Below A a (set4 w g i x):=by
 unfold set4
 exact (((h.setCell (p:=⟨g,i*4,none⟩) hg _).setCell (p:=⟨g,i*4+1,none⟩) hg _).setCell (p:=⟨g,i*4+2,none⟩) hg _).setCell (p:=⟨g,i*4+3,none⟩) hg _
theorem Blk.hds {w:World} {g:Nat} {e:TypeId} {n:Nat} {c:Nat→Hd} (h:Blk w g e (n*4) (hc c)):HdsAt w (some ⟨g,0,none⟩) n c:=fun i hi=>by
 have a:=hc_at c i
 refine ⟨g,0,rfl,h.lt,?_,?_,?_,?_⟩
 ·rw [Nat.zero_add];exact (h.cell (by omega)).trans (by rw [a.1])
 ·rw [Nat.zero_add];exact (h.cell (by omega)).trans (by rw [a.2.1])
 ·rw [Nat.zero_add];exact (h.cell (by omega)).trans (by rw [a.2.2.1])
 ·rw [Nat.zero_add];exact (h.cell (by omega)).trans (by rw [a.2.2.2])
theorem run_clear4 (w:World) (ty:TypeId) (b o n c:Nat) (hn:0<n) (hc:∀ j,j<n*4→(w.cell? ⟨b,o+j,none⟩).isSome=true) (hf:∀ j,j<n*4→w.frozen? ⟨b,o+j,none⟩=false) :
  (Builtin.clear_ #[28] ty #[.slice (some ⟨b,o,none⟩) n c]).run Tryz.prog w = .ok (.tuple #[]) (w.setCells b o (List.replicate (n*4) (.int .i64 0))):=by
 have hzc:(Builtin.zeroCells (Value.agg #[.int .i64 0,.int .i64 0,.int .i64 0,.int .i64 0]).cells n).toList=List.replicate (n*4) (.int .i64 0):=by
  rw [show (Value.agg #[.int .i64 0,.int .i64 0,.int .i64 0,.int .i64 0]).cells=#[.int .i64 0,.int .i64 0,.int .i64 0,.int .i64 0] from rfl]
  apply List.ext_getElem
  ·simp [Builtin.zeroCells]
  ·intro i h1 h2
   have h4:i%4<4:=by omega
   simp [Builtin.zeroCells]
   generalize i%4=k at h4
   match k,h4 with
   | 0,_=>rfl
   | 1,_=>rfl
   | 2,_=>rfl
   | 3,_=>rfl
 have hst:=run_storeCells_cells (P:=Tryz.prog) b o (List.replicate (n*4) (.int .i64 0)) 0 w (by simpa using hc) (by simpa using hf) (by intro v hv';rw [List.eq_of_mem_replicate hv'];rfl)
 simp only [Nat.add_zero] at hst
 obtain ⟨m,rfl⟩:∃ m,n=m+1:=⟨n - 1,by omega⟩
 simp only [Builtin.clear_]
 simp [hzc,hst]
def KeepG (g:Nat) (w w':World):Prop:=w.heap.size≤w'.heap.size∧∀ q,q<w.heap.size→q≠g→w'.heap[q]?=w.heap[q]?
theorem KeepG.refl (g:Nat) (w:World):KeepG g w w:=⟨Nat.le_refl _,fun _ _ _=>rfl⟩
theorem KeepG.below {g:Nat} {w wk wj:World} (h:KeepG g w wk) (hB:Below wk.heap.size wk wj):KeepG g w wj:=⟨Nat.le_trans h.1 hB.size,fun q hq hne=>(hB.block q (Nat.lt_of_lt_of_le hq h.1)).trans (h.2 q hq hne)⟩
theorem KeepG.set {g:Nat} {w wk:World} (h:KeepG g w wk) (j:Nat) (u:Value):KeepG g w (wk.setCell ⟨g,j,none⟩ u):=⟨by simpa using h.1,fun q hq hne=>(Below.heap_setCell wk ⟨g,j,none⟩ u q hne).trans (h.2 q hq hne)⟩
theorem KeepG.cells {g:Nat} {w:World}:∀ (vs:List Value) (o:Nat) (wk:World),KeepG g w wk→KeepG g w (wk.setCells g o vs)
 | [],_,_,h=>h
 | v :: r,o,wk,h=>by
  rw [World.setCells]
  exact KeepG.cells r (o+1) _ (h.set o v)
theorem KeepG.set4 {g:Nat} {w wk:World} (h:KeepG g w wk) (i:Nat) (x:Hd):KeepG g w (Go.Proofs.YtbcacebifpagpagGreat.set4 wk g i x):=by
 unfold Go.Proofs.YtbcacebifpagpagGreat.set4
 exact (((h.set _ _).set _ _).set _ _).set _ _
theorem KeepG.blk {g:Nat} {w w':World} (h:KeepG g w w') {q:Nat} {t:TypeId} {m:Nat} {f:Nat→Value} (hb:Blk w q t m f) (hne:q≠g):Blk w' q t m f:=by
 have hlt:=hb.lt
 obtain ⟨cur,h1,h2⟩:=hb
 exact ⟨cur,(h.2 q hlt hne).trans h1,h2⟩
set_option maxHeartbeats 400000 in
theorem idxH2 (f:Nat) (caps:Array Value) (bad:Hd→Bool) (A:Nat) (a:Option Addr) (n c:Nat) (w:World) (hA:A≤w.heap.size) (hn:n≤c) (hc:c≤maxLen) (z:Nat→Hd) (hz:HdsAt w a n z)
  (eg:∀ args w,(callFunc f args).run Tryz.prog w = .ok (.enter f args) w)
  (hf:Hid (∀ (x:Hd) w1,Below A w w1→Calls Tryz.prog f (#[x.val]++caps) w1 fun e w'=>e = .returned (.bool (bad x))∧Below w1.heap.size w1 w')) :
  Calls Tryz.prog 133 #[.slice a n c,.func (.func f) #[] caps] w fun e w'=>((e = .returned (.int .i64 (-1))∧∀ j,j<n→bad (z j)=false)∨∃ k,k<n∧e = .returned (.int .i64 (k:Nat))∧bad (z k)=true∧∀ j,j<k→bad (z j)=false)∧Below w.heap.size w w':=by
 unfold maxLen at hc
 go_enter Tryz.func133,Tryz.ntmps133
 go_wp2_with fail
 go_loopw [8] (fun i w1=>∃ k:Nat,k≤n∧i = .int .i64 k∧Hid (∀ j,j<k→bad (z j)=false)∧Below w.heap.size w w1) (fun i _=>n - (intOf i).toNat)
 case atStart=>exact ⟨0,Nat.zero_le _,rfl,fun j hj=>absurd hj (Nat.not_lt_zero _),Below.refl _ _⟩
 case round =>
  obtain ⟨k,hk,rfl,HN,hB⟩:=hrel
  by_cases hlt:k<n
  ·obtain ⟨b,o,rfl,_,hcell0,hcell1,hcell2,hcell3⟩:=(hz.below hB) k hlt
   clear hz
   have HE:Hid (∀ j,j<k+1→bad (z k)=false→bad (z j)=false):=fun j hj h=>by
    by_cases hjk:j=k
    ·rw [hjk];exact h
    ·exact HN.out j (by omega)
   go_wp2_with fail
   refine (hf.out (z k) wr (hB.mono hA)).mono ?_
   rintro e w1 ⟨rfl,hB1⟩
   have hB2:=hB.trans (hB1.mono hB.size)
   cases hbad:bad (z k)
   ·have HN2:Hid (∀ j,j<k+1→bad (z j)=false):=fun j hj=>HE.out j hj hbad
    clear HE HN
    go_wp2_with fail
    go_roundw
    case rel=>exact ⟨k+1,by omega,by go_num,HN2,hB2⟩
    case measure=>simp [intOf];omega
   ·go_wp2_with fail
    go_ret
    exact ⟨Or.inr ⟨k,hlt,rfl,hbad,HN.out⟩,hB2⟩
  ·go_wp2_with fail
   go_ret
   have hkn:k=n:=by omega
   subst hkn
   exact ⟨Or.inl ⟨rfl,HN.out⟩,hB⟩
def stayH (bad:Hd→Bool) (xs:List Hd) (k:Nat):List Hd:=(xs.take k).filter (fun x => !bad x)
theorem stayH_all (bad:Hd→Bool) (xs:List Hd):stayH bad xs xs.length=xs.filter (fun x => !bad x):=by unfold stayH;rw [List.take_length]
theorem stayH_succ {bad:Hd→Bool} {xs:List Hd} {k:Nat} (hk:k<xs.length):stayH bad xs (k+1)=stayH bad xs k++if bad (xs.getD k hd0) then [] else [xs.getD k hd0]:=by
 unfold stayH
 have e:xs.getD k hd0=xs[k]:=by simp [List.getD,List.getElem?_eq_getElem hk]
 rw [List.take_add_one,List.getElem?_eq_getElem hk,List.filter_append,e]
 congr 1
 cases h:bad xs[k]<;>simp [h]
theorem stayH_full {bad:Hd→Bool} {xs:List Hd}:∀ {k:Nat},k≤xs.length→(∀ j,j<k→bad (xs.getD j hd0)=false)→stayH bad xs k=xs.take k
 | 0,_,_=>by simp [stayH]
 | k+1,hk,h=>by
  rw [stayH_succ (by omega),stayH_full (k:=k) (by omega) (fun j hj=>h j (by omega)),h k (by omega),List.take_add_one]
  simp [List.getD,List.getElem?_eq_getElem (show k<xs.length by omega)]
def DelAtH (g:Nat) (bad:Hd→Bool) (xs:List Hd) (k:Nat) (wk:World):Prop:=∃ c:Nat→Hd,Blk wk g 61 (xs.length*4) (hc c)∧(∀ q,q<(stayH bad xs k).length→c q=(stayH bad xs k).getD q hd0)∧∀ q,k≤q→q<xs.length→c q=xs.getD q hd0
set_option maxRecDepth 100000 in
set_option maxHeartbeats 2000000 in
theorem DelH_any (f:Nat) (caps:Array Value) (bad:Hd→Bool) (A g cap:Nat) (xs:List Hd) (w:World) (hA:A≤g) (hA2:A≤w.heap.size) (hn:xs.length≤cap) (hcap:cap≤maxLen) (hb:Blk w g 61 (xs.length*4) (hc fun j=>xs.getD j hd0))
  (eg:∀ args w,(callFunc f args).run Tryz.prog w = .ok (.enter f args) w)
  (hf:Hid (∀ (x:Hd) w1,Below A w w1→Calls Tryz.prog f (#[x.val]++caps) w1 fun e w'=>e = .returned (.bool (bad x))∧Below w1.heap.size w1 w')) :
  Calls Tryz.prog 97 #[.slice (some ⟨g,0,none⟩) xs.length cap,.func (.func f) #[] caps] w fun e w'=>e = .returned (.slice (some ⟨g,0,none⟩) (xs.filter (fun x => !bad x)).length cap)∧Blk w' g 61 ((xs.filter (fun x => !bad x)).length*4) (hc fun j=>(xs.filter (fun x => !bad x)).getD j hd0)∧Below A w w'∧KeepG g w w':=by
 have hcap0:=hcap
 unfold maxLen at hcap
 have HBK:Hid (Blk w g 61 (xs.length*4) (hc fun j=>xs.getD j hd0)):=hb
 have hz:HdsAt w (some ⟨g,0,none⟩) xs.length (fun j=>xs.getD j hd0):=hb.hds
 clear hb
 go_enter Tryz.func97,Tryz.ntmps97
 go_wp2_with fail
 refine (idxH2 f caps bad A _ _ _ w hA2 hn hcap0 _ hz eg hf).mono ?_
 rintro e w1 ⟨h,hB1⟩
 clear hz
 have hBA:=hB1.mono hA2
 rcases h with ⟨rfl,hno⟩ | ⟨k0,hk0,rfl,hbad,hno⟩
 ·have hfil:xs.filter (fun x => !bad x)=xs:=by
   have:=stayH_full (bad:=bad) (Nat.le_refl xs.length) hno
   rw [stayH_all,List.take_length] at this
   exact this
  have HF:Hid (xs.filter (fun x => !bad x)=xs):=hfil
  clear hfil hno
  go_wp2_with fail
  go_ret
  rw [HF.out]
  exact ⟨rfl,HBK.out.below hB1,hBA,(KeepG.refl g w).below hB1⟩
 ·have hs0:stayH bad xs (k0+1)=xs.take k0:=by rw [stayH_succ hk0,stayH_full (by omega) hno,hbad];simp
  have hl0:(stayH bad xs (k0+1)).length=k0:=by rw [hs0,List.length_take];omega
  have H0:Hid (DelAtH g bad xs (k0+1) w1):=⟨_,HBK.out.below hB1,fun q hq=>by
   rw [hl0] at hq
   rw [hs0]
   simp only [List.getD,List.getElem?_take,if_pos hq],fun q _ _=>rfl⟩
  have HL0:Hid ((stayH bad xs (k0+1)).length=k0):=hl0
  clear hs0 hl0 hbad hno HBK
  go_wp2_with fail
  go_loopw [5,6] (fun i j wk=>∃ k:Nat,k≤xs.length∧j = .int .i64 k∧i = .int .i64 ((stayH bad xs k).length:Nat)∧(stayH bad xs k).length<k∧Hid (DelAtH g bad xs k wk)∧Below A w wk∧Hid (KeepG g w wk)) (fun _ j _=>xs.length - (intOf j).toNat)
  case atStart=>exact ⟨k0+1,by omega,by go_num,by rw [HL0.out],by rw [HL0.out];omega,H0,hBA,(KeepG.refl g w).below hB1⟩
  case round =>
   clear H0 HL0 hBA hB1
   obtain ⟨k,hk,rfl,rfl,hlen,HD,hB,HKG⟩:=hrel
   by_cases hlt:k<xs.length
   ·obtain ⟨c,hc1,hc2,hc3⟩:=HD.out
    have HB:Hid (Blk wr g 61 (xs.length*4) (hc c)∧(∀ q,q<(stayH bad xs k).length→c q=(stayH bad xs k).getD q hd0)∧∀ q,k≤q→q<xs.length→c q=xs.getD q hd0):=⟨hc1,hc2,hc3⟩
    have HS:Hid (stayH bad xs (k+1)=stayH bad xs k++if bad (xs.getD k hd0) then [] else [xs.getD k hd0]):=stayH_succ hlt
    obtain ⟨X,hX⟩:∃ X,xs.getD k hd0=X:=⟨_,rfl⟩
    have HXE:Hid (xs.getD k hd0=X):=hX
    have hcx:c k=X:=by rw [hc3 k (Nat.le_refl _) hlt,hX]
    have ha:=hc_at c k
    rw [hcx] at ha
    have z0:wr.cell? ⟨g,k*4,none⟩=some (.int .i64 X.o):=(hc1.cell (by omega)).trans (by rw [ha.1])
    have z1:wr.cell? ⟨g,k*4+1,none⟩=some (.int .i64 X.l):=(hc1.cell (by omega)).trans (by rw [ha.2.1])
    have z2:wr.cell? ⟨g,k*4+2,none⟩=some (.int .i64 X.b):=(hc1.cell (by omega)).trans (by rw [ha.2.2.1])
    have z3:wr.cell? ⟨g,k*4+3,none⟩=some (.int .i64 X.n):=(hc1.cell (by omega)).trans (by rw [ha.2.2.2])
    have zl:=hc1.lt
    clear hc1 hc2 hc3 HD hX hcx ha
    obtain ⟨I,hI⟩:∃ I,(stayH bad xs k).length=I:=⟨_,rfl⟩
    have HIE:Hid ((stayH bad xs k).length=I):=hI
    rw [hI] at hlen ⊢
    clear hI
    obtain ⟨W,hW,hWB,KX⟩:∃ W,wr.alloc (.cells #[.int .i64 X.o,.int .i64 X.l,.int .i64 X.b,.int .i64 X.n] 61)=W∧Below wr.heap.size wr W∧Blk W wr.heap.size 61 4 (fun j=>(#[.int .i64 X.o,.int .i64 X.l,.int .i64 X.b,.int .i64 X.n]:Array Value).getD j default):=⟨_,rfl,(Below.refl _ _).alloc (Nat.le_refl _) _,Blk.mk' rfl rfl⟩
    have HW:Hid (wr.alloc (.cells #[.int .i64 X.o,.int .i64 X.l,.int .i64 X.b,.int .i64 X.n] 61)=W):=hW
    have hBW:=hB.trans (hWB.mono (Nat.le_trans hA2 hB.size))
    have HB:Hid (Blk W g 61 (xs.length*4) (hc c)∧(∀ q,q<(stayH bad xs k).length→c q=(stayH bad xs k).getD q hd0)∧∀ q,k≤q→q<xs.length→c q=xs.getD q hd0):=⟨HB.out.1.below hWB,HB.out.2⟩
    have HKG:Hid (KeepG g w W):=HKG.out.below hWB
    clear hW hWB
    go_wp2_with fail
    rw [HW.out]
    refine (hf.out X W hBW).mono ?_
    rintro e w2 ⟨rfl,hB2⟩
    have hB3:=hBW.trans (hB2.mono (Nat.le_trans hA2 hBW.size))
    have HKG:Hid (KeepG g w w2):=HKG.out.below hB2
    have kb:=HB.out.1.below hB2
    have KX2:=KX.below hB2
    have xl:=KX2.lt
    have x0:w2.cell? ⟨wr.heap.size,0,none⟩=some (.int .i64 X.o):=KX2.cell (j:=0) (by decide)
    have x1:w2.cell? ⟨wr.heap.size,1,none⟩=some (.int .i64 X.l):=KX2.cell (j:=1) (by decide)
    have x2:w2.cell? ⟨wr.heap.size,2,none⟩=some (.int .i64 X.b):=KX2.cell (j:=2) (by decide)
    have x3:w2.cell? ⟨wr.heap.size,3,none⟩=some (.int .i64 X.n):=KX2.cell (j:=3) (by decide)
    clear z0 z1 z2 z3 zl KX KX2 HW hB hBW hB2
    generalize wr.heap.size=BX at *
    cases hbd:bad X
    ·have y0:=kb.cell (j:=I*4) (by omega)
     have y1:=kb.cell (j:=I*4+1) (by omega)
     have y2:=kb.cell (j:=I*4+2) (by omega)
     have y3:=kb.cell (j:=I*4+3) (by omega)
     have f0:=kb.frozen (I*4)
     have f1:=kb.frozen (I*4+1)
     have f2:=kb.frozen (I*4+2)
     have f3:=kb.frozen (I*4+3)
     have yl:=kb.lt
     generalize hc c (I*4)=V0 at y0
     generalize hc c (I*4+1)=V1 at y1
     generalize hc c (I*4+2)=V2 at y2
     generalize hc c (I*4+3)=V3 at y3
     have KB:=kb.set4 I X
     have HN:Hid (DelAtH g bad xs (k+1) (set4 w2 g I X)∧Below A w (set4 w2 g I X)∧(stayH bad xs (k+1)).length=I+1∧KeepG g w (set4 w2 g I X)):=by
      have e1:stayH bad xs (k+1)=stayH bad xs k++[X]:=by rw [HS.out,HXE.out,hbd];rfl
      have e2:(stayH bad xs (k+1)).length=I+1:=by rw [e1,List.length_append,HIE.out];rfl
      refine ⟨⟨_,KB,fun q hq => ?_,fun q hq hq2 => ?_⟩,below_set4 hA hB3 I X,e2,HKG.out.set4 I X⟩
      ·rw [e2] at hq
       show (if q=I then X else c q)=_
       rw [e1]
       by_cases hqi:q=I
       ·rw [if_pos hqi]
        simp only [List.getD]
        rw [List.getElem?_append_right (by rw [HIE.out];omega),HIE.out,hqi]
        simp
       ·rw [if_neg hqi,HB.out.2.1 q (by rw [HIE.out];omega)]
        simp only [List.getD]
        rw [List.getElem?_append_left (by rw [HIE.out];omega)]
      ·show (if q=I then X else c q)=_
       rw [if_neg (by omega),HB.out.2.2 q (by omega) hq2]
     clear kb KB HB HS
     go_wp2_with fail
     go_roundw
     case rel=>exact ⟨_,_,_,_,_,_,_,_,_,_,_,_,_,_,_,_,_,_,_,_,_,_,_,⟨k+1,by omega,by go_num,by rw [HN.out.2.2.1];go_num,by rw [HN.out.2.2.1];omega,HN.out.1,HN.out.2.1,HN.out.2.2.2⟩,rfl⟩
     case measure=>simp [intOf];omega
    ·have HN:Hid (DelAtH g bad xs (k+1) w2∧(stayH bad xs (k+1)).length=I):=by
      have e1:stayH bad xs (k+1)=stayH bad xs k:=by rw [HS.out,HXE.out,hbd];simp
      rw [e1]
      exact ⟨⟨c,kb,by rw [e1];exact HB.out.2.1,fun q hq hq2=>HB.out.2.2 q (by omega) hq2⟩,HIE.out⟩
     clear kb HB HS
     go_wp2_with fail
     go_roundw
     case rel=>exact ⟨_,_,_,_,_,_,_,_,_,_,_,_,_,_,_,_,_,_,_,_,_,_,_,⟨k+1,by omega,by go_num,by rw [HN.out.2],by rw [HN.out.2];omega,HN.out.1,hB3,HKG⟩,rfl⟩
     case measure=>simp [intOf];omega
   ·have hkn:k=xs.length:=by omega
    subst hkn
    obtain ⟨c,hc1,hc2,hc3⟩:=HD.out
    rw [stayH_all] at hlen hc2 ⊢
    obtain ⟨I,hI⟩:∃ I,(xs.filter (fun x => !bad x)).length=I:=⟨_,rfl⟩
    have HI:Hid ((xs.filter (fun x => !bad x)).length=I):=hI
    rw [hI] at hlen hc2 ⊢
    clear hI
    obtain ⟨N,hN⟩:∃ N,xs.length=N:=⟨_,rfl⟩
    have HNE:Hid (xs.length=N):=hN
    rw [hN] at hlen hn hc1 ⊢
    clear hN hc3 hlt hk HD
    have hci:¬ cap=I:=by omega
    have hcl:∀ ty,(Builtin.clear_ #[28] ty #[.slice (some ⟨g,I*4,none⟩) (N - I) (cap - I)]).run Tryz.prog wr = .ok (.tuple #[]) (wr.setCells g (I*4) (List.replicate ((N - I)*4) (.int .i64 0))):=fun ty =>
     run_clear4 wr ty g (I*4) (N - I) (cap - I) (by omega) (fun j hj=>by rw [hc1.cell (by omega)];rfl) (fun j _=>hc1.frozen _)
    have HEND:Hid (Blk (wr.setCells g (I*4) (List.replicate ((N - I)*4) (.int .i64 0))) g 61 (I*4) (hc fun j=>(xs.filter (fun x => !bad x)).getD j hd0)∧Below A w (wr.setCells g (I*4) (List.replicate ((N - I)*4) (.int .i64 0)))∧KeepG g w (wr.setCells g (I*4) (List.replicate ((N - I)*4) (.int .i64 0)))) :=
     ⟨Blk.setCells _ _ _ ((hc1.less (by omega)).congr fun j hj=>by unfold hc;rw [hc2 (j/4) (by omega)]) (Nat.le_refl _),below_cells hA _ _ _ hB,HKG.out.cells _ _ _⟩
    clear hc1 hc2
    go_wp2_with fail
    go_ret
    rw [HI.out]
    exact ⟨rfl,HEND.out⟩
end Go.Proofs.YtbcacebifpagpagGreat
namespace Go.Proofs.YtbcacebifpagpagGreat
open Go.RowKit Go.Shelf Go.Sort
set_option linter.unusedVariables false
def kindO (os:Os) (o:Nat) (v:Int):Os:=⟨os.a,os.n,os.c,fun i=>if i=o then ⟨v,(os.z i).ls⟩ else os.z i⟩
def kindS (s:St) (o:Nat) (v:Int):St:=⟨s.on,kindO s.os o v,s.hs,s.ms,s.si,s.so,s.sf⟩
theorem kindS_at (s:St) (o:Nat) (v:Int):(kindS s o v).os.z o=⟨v,(s.os.z o).ls⟩:=if_pos rfl
theorem kindO_ls (os:Os) (o:Nat) (v:Int) (i:Nat):((kindO os o v).z i).ls=(os.z i).ls:=by
 show (if i=o then (⟨v,(os.z i).ls⟩:Od) else os.z i).ls=_
 by_cases h:i=o
 ·rw [if_pos h]
 ·rw [if_neg h]
theorem OwnO.kind {A:Nat} {w:World} {s:Os} {o g:Nat} (h:OwnO A w s) (ho:o<s.n) (ha:s.a=some ⟨g,0,none⟩) (v:Int):OwnO A (w.setCell ⟨g,o*2,none⟩ (.int .i64 v)) (kindO s o v):=by
 obtain ⟨g',ha',hA,hb⟩:=h.list (by omega)
 rw [ha] at ha'
 simp only [Option.some.injEq,Addr.mk.injEq,and_true] at ha'
 subst ha'
 refine ⟨h.le,h.cap,fun hn=>⟨g,ha,hA,(hb.set (o*2) (.int .i64 v)).congr fun q hq => ?_⟩,fun i hi => ?_,fun i j hij hj=>by rw [kindO_ls,kindO_ls];exact h.apart i j hij hj,h.room.set _ _ _⟩
 ·have hd:q=q/2*2+q%2:=by omega
  have hi:q/2<s.n:=by omega
  have hm:q%2<2:=by omega
  have e1:=flatO_at (z:=s.z) hi hm
  have e2:=flatO_at (z:=(kindO s o v).z) hi hm
  rw [← hd] at e1 e2
  show (if q=o*2 then Value.int .i64 v else (flatO s.n s.z).getD q default)=(flatO s.n (kindO s o v).z).getD q default
  rw [e1,e2]
  show _=(odCells (if q/2=o then (⟨v,(s.z (q/2)).ls⟩:Od) else s.z (q/2))).getD (q%2) default
  by_cases hj:q/2=o
  ·rw [if_pos hj]
   have hm2:q%2=0∨q%2=1:=by omega
   rcases hm2 with hm2 | hm2
   ·rw [if_pos (by omega),hm2];rfl
   ·rw [if_neg (by omega),hm2];rfl
  ·rw [if_neg hj,if_neg (by omega)]
 ·rw [kindO_ls]
  obtain ⟨C,a1,a2,a3,a4,a5⟩:=h.lines i hi
  exact ⟨C,a1,a2,a3,a4,a5.other (a:=⟨g,o*2,none⟩) (Blk.ne2 a5 hb (by decide)) _⟩
theorem OwnS.kind {A:Nat} {w:World} {s:St} {o g:Nat} (h:OwnS A w s) (ho:o<s.os.n) (ha:s.os.a=some ⟨g,0,none⟩) (v:Int):OwnS A (w.setCell ⟨g,o*2,none⟩ (.int .i64 v)) (kindS s o v):=by
 obtain ⟨g',ha',hA,hb⟩:=h.os.list (by omega)
 rw [ha] at ha'
 simp only [Option.some.injEq,Addr.mk.injEq,and_true] at ha'
 subst ha'
 refine ⟨?_,fun i hi=>(h.rows i hi).other hb (by decide) _ _,h.rapart,h.os.kind ho ha v,h.hs.other hb (by decide) _ _,h.ms.other hb (by decide) _ _,h.msr.set _ _ _,h.si.other hb (by decide) _ _,h.so.other hb (by decide) _ _,h.sf.other hb (by decide) _ _,h.aio,h.aif,h.aof,h.ari⟩
 obtain ⟨q,a0,a1,a2,a3,a4⟩:=h.on
 exact ⟨q,a0,a1,a2,a3,a4.other (a:=⟨g,o*2,none⟩) (Blk.ne2 a4 hb (by decide)) _⟩
def relS1 (s:St) (i:Nat):St:=lackS (kindS s i 1) i (s.os.z i).ls.n
set_option maxRecDepth 100000 in
set_option maxHeartbeats 2000000 in
theorem release_any (x:St) (i A gO:Nat) (w:World) (hA:A≤w.heap.size) (hO:OwnS A w x) (hi:i<x.os.n) (hga:x.os.a=some ⟨gO,0,none⟩) (hbd:∀ j,j<(x.os.z i).ls.n→(0≤((x.os.z i).ls.z j).l∧((x.os.z i).ls.z j).l≤200)∧0≤((x.os.z i).ls.z j).b∧((x.os.z i).ls.z j).b≤200) :
  Calls Tryz.prog 95 #[.pointer (some ⟨gO,i*2,none⟩)] w fun e w'=>∃ y:St,e = .returned (.tuple #[])∧((x.os.z i).k=0→y=relS1 x i)∧(¬ (x.os.z i).k=0→y=x)∧OwnS A w' y∧Below A w w'∧KeepO w w':=by
 obtain ⟨g,hg1,hg2,hg3⟩:=hO.os.list (by omega)
 have hgg:g=gO:=by rw [hga] at hg1;simpa using hg1.symm
 subst hgg
 have c0:=hg3.cell (j:=i*2) (by omega)
 have e0:=flatO_at (z:=x.os.z) hi (show 0<2 by decide)
 rw [Nat.add_zero] at e0
 rw [e0] at c0
 have c1:w.cell? ⟨g,i*2,none⟩=some (.int .i64 (x.os.z i).k):=c0
 have gl:=hg3.lt
 have gf:=hg3.frozen (i*2)
 have HO:Hid (OwnS A w x):=hO
 have HN:Hid (OwnS A (w.setCell ⟨g,i*2,none⟩ (.int .i64 1)) (kindS x i 1)∧Below A w (w.setCell ⟨g,i*2,none⟩ (.int .i64 1))∧KeepO w (w.setCell ⟨g,i*2,none⟩ (.int .i64 1))∧w.heap.size≤(w.setCell ⟨g,i*2,none⟩ (.int .i64 1)).heap.size):=by
  have hb:=(Below.refl A w).setCell (p:=⟨g,i*2,none⟩) hg2 (.int .i64 1)
  exact ⟨hO.kind hi hga 1,hb,(KeepO.refl w).setOrder hg3 _ _,hb.size⟩
 have HBD:Hid (∀ j,j<((kindS x i 1).os.z i).ls.n→(0≤(((kindS x i 1).os.z i).ls.z j).l∧(((kindS x i 1).os.z i).ls.z j).l≤200)∧0≤(((kindS x i 1).os.z i).ls.z j).b∧(((kindS x i 1).os.z i).ls.z j).b≤200):=by
  show ∀ j,j<((kindS x i 1).os.z i).ls.n→_
  rw [kindS_at]
  exact hbd
 have HGA:Hid ((kindS x i 1).os.a=some ⟨g,0,none⟩):=hga
 clear hO hg1 hg3 hga hbd c0 e0
 by_cases hk:(x.os.z i).k=0
 ·have hk0:((x.os.z i).k !=0)=false:=by simpa using hk
  have HK:Hid ((x.os.z i).k=0):=hk
  clear hk
  generalize (x.os.z i).k=KK at *
  go_enter Tryz.func95,Tryz.ntmps95
  go_wp2_with fail
  refine (lack_any (kindS x i 1) i A g _ (Nat.le_trans hA HN.out.2.2.2) HN.out.1 hi HGA.out HBD.out).mono ?_
  rintro e w2 ⟨rfl,ho2,hb2,hk2⟩
  have HE:Hid (OwnS A w2 (lackS (kindS x i 1) i ((kindS x i 1).os.z i).ls.n)∧Below A w w2∧KeepO w w2):=⟨ho2,HN.out.2.1.trans hb2,HN.out.2.2.1.trans hk2⟩
  clear ho2 hb2 hk2
  go_wp2_with fail
  first | go_end0 | refine bodyPost_ret (results_none rfl _ _ _) rfl ?_
  refine ⟨relS1 x i,rfl,fun _=>rfl,fun h=>absurd HK.out h,?_,HE.out.2⟩
  have h:=HE.out.1
  rw [kindS_at] at h
  exact h
 ·have hk0:((x.os.z i).k !=0)=true:=by simpa using hk
  have HK:Hid (¬ (x.os.z i).k=0):=hk
  clear hk
  generalize (x.os.z i).k=KK at *
  go_enter Tryz.func95,Tryz.ntmps95
  go_wp2_with fail
  first | go_end0 | refine bodyPost_ret (results_none rfl _ _ _) rfl ?_
  exact ⟨x,rfl,fun h=>absurd h HK.out,fun _=>rfl,HO.out,Below.refl _ _,KeepO.refl _⟩
theorem Cancel1_any (B:Nat) (x:Hd) (order:Int) (w:World) (hB:B<w.heap.size) (c:w.cell? ⟨B,0,none⟩=some (.int .i64 order)) :
  Calls Tryz.prog 98 #[x.val,.pointer (some ⟨B,0,none⟩)] w fun e w'=>e = .returned (.bool (x.o==order))∧Below w.heap.size w w':=by
 have hB2:=(Below.refl w.heap.size w).alloc (Nat.le_refl _) (.cells #[.int .i64 x.o,.int .i64 x.l,.int .i64 x.b,.int .i64 x.n] 61)
 unfold Hd.val
 go_enter Tryz.func98,Tryz.ntmps98
 go_wp2_with fail
 go_ret
 exact ⟨rfl,hB2⟩
def listH (h:Hs):List Hd:=(List.range h.n).map h.z
theorem listH_len (h:Hs):(listH h).length=h.n:=by simp [listH]
theorem listH_at {h:Hs} {j:Nat} (hj:j<h.n):(listH h).getD j hd0=h.z j:=by
 unfold listH
 simp [List.getD,hj]
def dropH (h:Hs) (bad:Hd→Bool):Hs:=⟨h.a,((listH h).filter (fun x => !bad x)).length,h.c,fun j=>((listH h).filter (fun x => !bad x)).getD j hd0⟩
theorem dropH_le (h:Hs) (bad:Hd→Bool):(dropH h bad).n≤h.n:=by
 have:=List.length_filter_le (fun x => !bad x) (listH h)
 rw [listH_len] at this
 exact this
theorem dropH_same {h k:Hs} (hn:h.n=k.n) (hz:∀ j,j<h.n→h.z j=k.z j) (bad:Hd→Bool):(dropH h bad).n=(dropH k bad).n∧(dropH h bad).z=(dropH k bad).z:=by
 have e:listH h=listH k:=by
  unfold listH
  rw [← hn]
  exact List.map_congr_left fun j hj=>hz j (List.mem_range.1 hj)
 unfold dropH
 rw [e]
 exact ⟨rfl,rfl⟩
theorem OwnI.keepG {A g n:Nat} {w w':World} {r:Rw} {f:Nat→Value} (h:OwnI A w r) (hg:Blk w g 61 n f) (K:KeepG g w w'):OwnI A w' r:=by
 obtain ⟨q,ha,h0,h1,h2,hb⟩:=h
 exact ⟨q,ha,h0,h1,h2,K.blk hb (Blk.ne2 hb hg (by decide))⟩
theorem OwnH.keepG {A g n:Nat} {t:TypeId} {w w':World} {s:Hs} {f:Nat→Value} (h:OwnH A t w s) (hg:Blk w g 61 n f) (hne:t≠61) (K:KeepG g w w'):OwnH A t w' s:=by
 obtain ⟨h1,h2,h3,h4⟩:=h
 refine ⟨h1,h2,h3,fun hn => ?_⟩
 obtain ⟨q,ha,hA,hb⟩:=h4 hn
 exact ⟨q,ha,hA,K.blk hb (Blk.ne2 hb hg hne)⟩
theorem Room.keepG {A g n:Nat} {t:TypeId} {w w':World} {sz c:Nat} {a:Option Addr} {f:Nat→Value} (h:Room A w t sz a c) (hg:Blk w g 61 n f) (hne:t≠61) (K:KeepG g w w'):Room A w' t sz a c:=by
 refine h.same fun q cur hq=>K.2 q (Array.getElem?_eq_some_iff.1 hq).1 fun e => ?_
 obtain ⟨c2,h1,_⟩:=hg
 rw [e,h1] at hq
 cases hq
 exact hne rfl
theorem OwnO.keepG {A g n:Nat} {w w':World} {s:Os} {f:Nat→Value} (h:OwnO A w s) (hg:Blk w g 61 n f) (K:KeepG g w w'):OwnO A w' s:=by
 refine ⟨h.le,h.cap,fun hn => ?_,fun i hi => ?_,h.apart,h.room.keepG hg (by decide) K⟩
 ·obtain ⟨q,a1,a2,a3⟩:=h.list hn
  exact ⟨q,a1,a2,K.blk a3 (Blk.ne2 a3 hg (by decide))⟩
 ·obtain ⟨C,a1,a2,a3,a4,a5⟩:=h.lines i hi
  exact ⟨C,a1,a2,a3,a4,K.blk a5 (Blk.ne2 a5 hg (by decide))⟩
theorem OwnS.keepG {A g n:Nat} {w w':World} {s:St} {h:Hs} {f:Nat→Value} (k:OwnS A w s) (hg:Blk w g 61 n f) (K:KeepG g w w') (hh:OwnH A 61 w' h):OwnS A w' (Go.Proofs.YtbcacebifpagpagGreat.withHolds s h):=by
 refine ⟨?_,fun i hi=>(k.rows i hi).keepG hg K,k.rapart,k.os.keepG hg K,hh,k.ms.keepG hg (by decide) K,k.msr.keepG hg (by decide) K,k.si.keepG hg K,k.so.keepG hg K,k.sf.keepG hg K,k.aio,k.aif,k.aof,k.ari⟩
 obtain ⟨q,a0,a1,a2,a3,a4⟩:=k.on
 exact ⟨q,a0,a1,a2,a3,K.blk a4 (Blk.ne2 a4 hg (by decide))⟩
set_option maxRecDepth 100000 in
set_option maxHeartbeats 1000000 in
theorem DelH_nil (f:Nat) (caps:Array Value) (bad:Hd→Bool) (a:Option Addr) (cap:Nat) (w:World) (hcap:cap≤maxLen)
  (eg:∀ args w,(callFunc f args).run Tryz.prog w = .ok (.enter f args) w)
  (hf:Hid (∀ (x:Hd) w1,Below w.heap.size w w1→Calls Tryz.prog f (#[x.val]++caps) w1 fun e w'=>e = .returned (.bool (bad x))∧Below w1.heap.size w1 w')) :
  Calls Tryz.prog 97 #[.slice a (0:Nat) cap,.func (.func f) #[] caps] w fun e w'=>e = .returned (.slice a (0:Nat) cap)∧Below w.heap.size w w':=by
 have hcap0:=hcap
 unfold maxLen at hcap
 go_enter Tryz.func97,Tryz.ntmps97
 go_wp2_with fail
 refine (idxH2 f caps bad w.heap.size a 0 cap w (Nat.le_refl _) (Nat.zero_le _) hcap0 (fun _=>hd0) (fun i hi=>absurd hi (Nat.not_lt_zero _)) eg hf).mono ?_
 rintro e w1 ⟨h,hB1⟩
 rcases h with ⟨rfl,-⟩ | ⟨k0,hk0,-⟩
 ·go_wp2_with fail
  go_ret
  exact ⟨rfl,hB1⟩
 ·exact absurd hk0 (Nat.not_lt_zero _)
theorem DelS_any (f:Nat) (caps:Array Value) (bad:Hd→Bool) (A:Nat) (s:St) (w:World) (hA2:A≤w.heap.size) (hO:OwnS A w s)
  (eg:∀ args w,(callFunc f args).run Tryz.prog w = .ok (.enter f args) w)
  (hf:∀ (x:Hd) w1,Below A w w1→Calls Tryz.prog f (#[x.val]++caps) w1 fun e w'=>e = .returned (.bool (bad x))∧Below w1.heap.size w1 w') :
  Calls Tryz.prog 97 #[.slice s.hs.a s.hs.n s.hs.c,.func (.func f) #[] caps] w fun e w'=>e = .returned (.slice (dropH s.hs bad).a (dropH s.hs bad).n (dropH s.hs bad).c)∧OwnS A w' (withHolds s (dropH s.hs bad))∧Below A w w'∧(∀ q t m g,t≠61→Blk w q t m g→Blk w' q t m g):=by
 obtain ⟨h1,h2,h3,h4⟩:=hO.hs
 by_cases hn:s.hs.n=0
 ·have hd:(dropH s.hs bad).n=0:=by have:=dropH_le s.hs bad;omega
  rw [hn,hd]
  refine (DelH_nil f caps bad s.hs.a s.hs.c w h2 eg (fun x w1 hB=>hf x w1 (hB.mono hA2))).mono ?_
  rintro e w1 ⟨rfl,hB⟩
  refine ⟨rfl,(hO.below hB).withHolds ⟨by rw [hd];exact Nat.zero_le _,h2,h3,fun h=>absurd h (by omega)⟩,hB.mono hA2,fun q t m g _ hb=>hb.below hB⟩
 ·obtain ⟨g,ha,hA,hb⟩:=h4 (by omega)
  have hb2:Blk w g 61 ((listH s.hs).length*4) (hc fun j=>(listH s.hs).getD j hd0):=by
   rw [listH_len]
   refine hb.congr fun q hq => ?_
   rw [hc_flat hq]
   unfold hc
   dsimp only
   rw [listH_at (by omega)]
  have hD:=DelH_any f caps bad A g s.hs.c (listH s.hs) w hA hA2 (by rw [listH_len];exact h1) h2 hb2 eg hf
  rw [listH_len] at hD
  rw [ha]
  refine hD.mono ?_
  rintro e w1 ⟨rfl,hb3,hB,hK⟩
  have hl:=dropH_le s.hs bad
  refine ⟨by show _=Ending.returned (.slice s.hs.a _ _);rw [ha];rfl,hO.keepG hb2 hK ⟨Nat.le_trans hl h1,h2,h3,fun _=>⟨g,ha,hA,hb3.congr fun q hq=>(hc_flat (z:=(dropH s.hs bad).z) hq).symm⟩⟩,hB,fun q t m f' hne hbq=>hK.blk hbq (Blk.ne2 hbq hb2 hne)⟩
end Go.Proofs.YtbcacebifpagpagGreat
namespace Go.Proofs.YtbcacebifpagpagGreat
open Go.RowKit
set_option linter.unusedVariables false
theorem kept_find (n:Nat) (z:Nat→Hd) (o l b:Int):keptV n z o l b=(((List.range n).map z).find? (fun x=>matchH x o l b)).elim 0 (fun x=>x.n):=by
 unfold keptV
 rw [List.find?_map]
 cases h:(List.range n).find? (fun i=>matchH (z i) o l b) with
 | none =>
  have h':(List.range n).find? ((fun x=>matchH x o l b) ∘ z)=none:=h
  rw [h']
  rfl
 | some i =>
  have h':(List.range n).find? ((fun x=>matchH x o l b) ∘ z)=some i:=h
  rw [h']
  rfl
theorem listOf_len (n:Nat) (L:List Hd) (h:n=L.length):(List.range n).map (fun j=>L.getD j hd0)=L:=by
 subst h
 apply List.ext_getElem
 ·simp
 ·intro i h1 h2
  simp [List.getD,h2]
theorem dropH_list (h:Hs) (bad:Hd→Bool):listH (dropH h bad)=(listH h).filter (fun x => !bad x):=listOf_len _ _ rfl
theorem dropH_kept0 (h:Hs) (bad:Hd→Bool) (o l b:Int):keptV (dropH h bad).n (dropH h bad).z o l b=((listH h).find? (fun x => !bad x&&matchH x o l b)).elim 0 (fun x=>x.n):=by
 rw [kept_find]
 have e:(List.range (dropH h bad).n).map (dropH h bad).z=(listH h).filter (fun x => !bad x):=dropH_list h bad
 rw [e,List.find?_filter]
 have e2:(fun a=>decide ((!bad a)=true∧matchH a o l b=true))=fun x => !bad x&&matchH x o l b:=by
  funext a
  cases bad a<;>cases matchH a o l b<;>rfl
 rw [e2]
theorem listH_kept (h:Hs) (o l b:Int):keptV h.n h.z o l b=((listH h).find? (fun x=>matchH x o l b)).elim 0 (fun x=>x.n):=kept_find _ _ _ _ _
theorem dropH_kept (h:Hs) (bad:Hd→Bool) {o l b:Int} {B:Bool} (hb:∀ x,matchH x o l b=true→bad x=B):keptV (dropH h bad).n (dropH h bad).z o l b=if B then 0 else keptV h.n h.z o l b:=by
 rw [dropH_kept0]
 cases B
 ·rw [if_neg (by decide),listH_kept]
  have e:(fun x => !bad x&&matchH x o l b)=fun x=>matchH x o l b:=by
   funext x
   cases hm:matchH x o l b
   ·simp
   ·rw [hb x hm];rfl
  rw [e]
 ·rw [if_pos rfl]
  have e:(listH h).find? (fun x => !bad x&&matchH x o l b)=none:=by
   rw [List.find?_eq_none]
   intro x _
   cases hm:matchH x o l b
   ·simp
   ·rw [hb x hm];simp
  rw [e]
  rfl
theorem dropH_right' {h:Hs} {bad:Hd→Bool} (hk:∀ i j,i<j→j<h.n→keyH (h.z i)<keyH (h.z j)) (hf:∀ i,i<h.n→bad (h.z i)=false→fineH (h.z i)=true):anyB (dropH h bad).n (badH (dropH h bad).z)=false:=by
 have pw:(listH h).Pairwise (fun x y=>keyH x<keyH y):=by
  rw [List.pairwise_iff_getElem]
  intro i j hi hj hij
  have hj':j<h.n:=by rw [listH_len] at hj;exact hj
  have e1:(listH h)[i]=h.z i:=by simp [listH]
  have e2:(listH h)[j]=h.z j:=by simp [listH]
  rw [e1,e2]
  exact hk i j hij hj'
 have pf:=pw.filter (fun x => !bad x)
 have at':∀ i (hi:i<((listH h).filter (fun x => !bad x)).length),(dropH h bad).z i=((listH h).filter (fun x => !bad x))[i]:=fun i hi=>by
  show ((listH h).filter (fun x => !bad x)).getD i hd0=_
  rw [List.getD_eq_getElem?_getD,List.getElem?_eq_getElem hi]
  rfl
 refine right_mk (fun i hi => ?_) fun i hi => ?_
 ·rw [at' i hi]
  have hm:=List.getElem_mem hi
  rw [List.mem_filter] at hm
  obtain ⟨h1,h2⟩:=hm
  obtain ⟨k,k1,k2⟩:∃ k,k∈List.range h.n∧h.z k=((listH h).filter (fun x => !bad x))[i]:=List.mem_map.1 h1
  have h2':bad (((listH h).filter (fun x => !bad x))[i])=false:=by simpa using h2
  rw [← k2] at h2' ⊢
  exact hf k (List.mem_range.1 k1) h2'
 ·have hi':i+1<((listH h).filter (fun x => !bad x)).length:=hi
  rw [at' i (by omega),at' (i+1) hi']
  rw [List.pairwise_iff_getElem] at pf
  exact pf i (i+1) (by omega) hi' (by omega)
theorem dropH_right {h:Hs} (bad:Hd→Bool) (hr:anyB h.n (badH h.z)=false):anyB (dropH h bad).n (badH (dropH h bad).z)=false:=dropH_right' (fun i j hij hj=>right_lt hr i j hij hj) fun i hi _=>right_fine hr i hi
theorem drop_right {n p:Nat} {z:Nat→Hd} (hr:anyB n (badH z)=false) (hp:p<n):anyB (n - 1) (badH (dropZ z p))=false:=by
 refine right_mk (fun i hi => ?_) fun i hi => ?_
 ·unfold dropZ
  split
  ·exact right_fine hr i (by omega)
  ·exact right_fine hr (i+1) (by omega)
 ·unfold dropZ
  by_cases h1:i+1<p
  ·rw [if_pos (by omega),if_pos h1]
   exact right_lt hr _ _ (by omega) (by omega)
  ·rw [if_neg h1]
   split
   ·exact right_lt hr _ _ (by omega) (by omega)
   ·exact right_lt hr _ _ (by omega) (by omega)
theorem drop_kept {n p:Nat} {z:Nat→Hd} (hr:anyB n (badH z)=false) (hp:p<n) (o l b:Int):keptV (n - 1) (dropZ z p) o l b=if matchH (z p) o l b then 0 else keptV n z o l b:=by
 have ry:=drop_right hr hp
 cases hm:matchH (z p) o l b
 ·rw [if_neg (by decide)]
  rcases keptV_cases n z o l b with h | ⟨k,hk,h1,h2⟩
  ·rw [keptV_none h,keptV_none fun j hj => ?_]
   unfold dropZ
   split
   ·exact h j (by omega)
   ·exact h (j+1) (by omega)
  ·have hkp:¬ k=p:=fun e=>by rw [e,hm] at h2;exact absurd h2 (by decide)
   rw [(kept_at hr hk h2).1]
   by_cases hlt:k<p
   ·have e:dropZ z p k=z k:=if_pos hlt
    rw [(kept_at ry (k:=k) (by omega) (by rw [e];exact h2)).1,e]
   ·have e:dropZ z p (k - 1)=z k:=by
     unfold dropZ
     rw [if_neg (by omega),show k - 1+1=k by omega]
    rw [(kept_at ry (k:=k - 1) (by omega) (by rw [e];exact h2)).1,e]
 ·rw [if_pos rfl]
  refine keptV_none fun j hj => ?_
  cases hq:matchH (dropZ z p j) o l b
  ·rfl
  ·have e:=matchH_key hq hm
   unfold dropZ at e
   split at e
   ·have:=right_lt hr j p (by omega) hp
    omega
   ·have:=right_lt hr p (j+1) (by omega) (by omega)
    omega
theorem dropE_of {n:Nat} {z:Nat→Hd} {o l b:Int} (hr:anyB n (badH z)=false):dropE n z o l b=if keptV n z o l b=0 then 4 else 0:=by
 unfold dropE;rw [if_pos (checkH_right hr)]
theorem dropN_of {n:Nat} {z:Nat→Hd} {o l b:Int} (hr:anyB n (badH z)=false):dropN n z o l b=keptV n z o l b:=by
 unfold dropN;rw [if_pos (checkH_right hr)]
def relOd (k:Nat) (i:Nat) (o:Od):Od:=if i<k∧o.k=0 then ⟨1,lackL o.ls o.ls.n⟩ else o
def relO (s:St) (k:Nat):St:=⟨s.on,⟨s.os.a,s.os.n,s.os.c,fun i=>relOd k i (s.os.z i)⟩,s.hs,s.ms,s.si,s.so,s.sf⟩
theorem relOd_later {k i:Nat} (o:Od) (h:k≤i):relOd k i o=o:=if_neg (by omega)
theorem relO_zero (s:St):relO s 0=s:=by
 unfold relO
 have e:(fun i=>relOd 0 i (s.os.z i))=s.os.z:=funext fun i=>relOd_later _ (Nat.zero_le _)
 rw [e]
theorem relOd_n (k i:Nat) (o:Od):(relOd k i o).ls.n=o.ls.n:=by
 unfold relOd
 split<;>rfl
theorem relO_hit {s:St} {k:Nat} (h:(s.os.z k).k=0):relS1 (relO s k) k=relO s (k+1):=by
 unfold relS1 lackS kindS relO lackO kindO
 dsimp only
 congr 2
 funext a
 rw [relOd_n]
 by_cases ha:a=k
 ·subst ha
  rw [if_pos rfl,if_pos rfl,relOd_later _ (Nat.le_refl _)]
  unfold relOd
  rw [if_pos ⟨by omega,h⟩]
 ·rw [if_neg ha,if_neg ha]
  unfold relOd
  by_cases hk:a<k∧(s.os.z a).k=0
  ·rw [if_pos hk,if_pos ⟨by omega,hk.2⟩]
  ·rw [if_neg hk,if_neg (fun e=>hk ⟨by omega,e.2⟩)]
theorem relO_miss {s:St} {k:Nat} (h:¬ (s.os.z k).k=0):relO s k=relO s (k+1):=by
 unfold relO
 congr 2
 funext a
 unfold relOd
 by_cases hk:a<k∧(s.os.z a).k=0
 ·rw [if_pos hk,if_pos ⟨by omega,hk.2⟩]
 ·rw [if_neg hk,if_neg (fun e=>hk ⟨by
   have:¬ a=k:=fun e2=>h (by rw [← e2];exact e.2)
   omega,e.2⟩)]
theorem relOd_line (k i:Nat) (o:Od) (j:Nat):((relOd k i o).ls.z j).o=(o.ls.z j).o∧((relOd k i o).ls.z j).l=(o.ls.z j).l∧((relOd k i o).ls.z j).b=(o.ls.z j).b:=by
 unfold relOd
 split
 ·show ((if j<o.ls.n then lackH (o.ls.z j) else o.ls.z j).o=_)∧((if j<o.ls.n then lackH (o.ls.z j) else o.ls.z j).l=_)∧((if j<o.ls.n then lackH (o.ls.z j) else o.ls.z j).b=_)
  split<;>exact ⟨rfl,rfl,rfl⟩
 ·exact ⟨rfl,rfl,rfl⟩
theorem relOd_same {o o':Od} (k i:Nat) (h:o'.k=o.k∧o'.ls.n=o.ls.n∧∀ j,j<o'.ls.n→o'.ls.z j=o.ls.z j):(relOd k i o').k=(relOd k i o).k∧(relOd k i o').ls.n=(relOd k i o).ls.n∧∀ j,j<(relOd k i o').ls.n→(relOd k i o').ls.z j=(relOd k i o).ls.z j:=by
 unfold relOd
 by_cases c:i<k∧o.k=0
 ·rw [if_pos c,if_pos ⟨c.1,h.1.trans c.2⟩]
  refine ⟨rfl,h.2.1,fun j hj => ?_⟩
  show (if j<o'.ls.n then lackH (o'.ls.z j) else o'.ls.z j)=if j<o.ls.n then lackH (o.ls.z j) else o.ls.z j
  have hj':j<o'.ls.n:=hj
  rw [if_pos hj',if_pos (by omega),h.2.2 j hj']
 ·rw [if_neg c,if_neg (fun e=>c ⟨e.1,h.1.symm.trans e.2⟩)]
  exact h
theorem relO_same {x s:St} (h:SameT x s) (k:Nat):SameT (relO x k) (relO s k) :=
 ⟨h.on,⟨h.os.1,fun i hi=>relOd_same k i (h.os.2 i hi)⟩,h.hs,h.ms,h.si,h.so,h.sf⟩
theorem rel_line {p:Pl} {s:St} (r:RightT p s) {k i j:Nat} (hi:i<s.os.n) (hj:j<(s.os.z i).ls.n) (c:i<k∧(s.os.z i).k=0):(relOd k i (s.os.z i)).k=1∧((s.os.z i).ls.z j).b=0∧((s.os.z i).ls.z j).n=0∧keptS s.hs.z i j s.hs.n=0∧((relOd k i (s.os.z i)).ls.z j).n=((s.os.z i).ls.z j).l:=by
 have w:=r.orders i hi
 unfold wrongOrder at w
 rw [Bool.or_eq_false_iff] at w
 have wl:wrongL (s.os.z i).k ((s.os.z i).ls.z j) (keptS s.hs.z i j s.hs.n)=false:=anyB_false w.2 j hj
 unfold wrongL at wl
 rw [if_pos c.2] at wl
 simp only [Bool.or_eq_false_iff,Bool.not_eq_false',beq_iff_eq] at wl
 unfold relOd
 rw [if_pos c]
 refine ⟨rfl,wl.1.1,wl.1.2,wl.2,?_⟩
 show (if j<(s.os.z i).ls.n then lackH ((s.os.z i).ls.z j) else (s.os.z i).ls.z j).n=_
 rw [if_pos hj]
 show ((s.os.z i).ls.z j).l - ((s.os.z i).ls.z j).b=_
 omega
theorem rel_formed {p:Pl} {s:St} (r:RightT p s) (k:Nat):Formed p (relO s k):=by
 have f:=r.fm
 refine ⟨f.sh,f.sh0,f.os4,f.ms8,fun i hi => ?_,fun i hi => ?_,fun i hi j hj => ?_,f.hold,fun i hi => ?_,f.move,f.sin,f.son,f.sfn,f.sib,f.sob,f.sfb⟩
 ·show 1≤(relOd k i (s.os.z i)).ls.n∧(relOd k i (s.os.z i)).ls.n≤3
  rw [relOd_n]
  exact f.lns i hi
 ·show 0≤(relOd k i (s.os.z i)).k∧(relOd k i (s.os.z i)).k≤2
  unfold relOd
  split
  ·exact ⟨(by decide:(0:Int)≤1),(by decide:(1:Int)≤2)⟩
  ·exact f.kind i hi
 ·show badLine p ((relOd k i (s.os.z i)).ls.z j)=false
  have hj':j<(s.os.z i).ls.n:=by rw [← relOd_n k i];exact hj
  by_cases c:i<k∧(s.os.z i).k=0
  ·have e:=rel_line r hi hj' c
   have g:=relOd_line k i (s.os.z i) j
   obtain ⟨b1,b2,b3,b4⟩:=badLine_no (f.line i hi j hj')
   unfold badLine
   rw [inB_mk (by omega),inB_mk (by omega),inB_mk (by omega),inB_mk (by omega)]
   rfl
  ·unfold relOd
   rw [if_neg c]
   exact f.line i hi j hj'
 ·have h:=homeless_no (f.home i hi)
  refine homeless_mk h.1 ⟨h.2.1.1,?_⟩ h.2.2
  show _<(relOd k _ (s.os.z _)).ls.n
  rw [relOd_n]
  exact h.2.1.2
theorem rel_avail (s:St) (k b g:Nat):availZ (relO s k) b g=availZ s b g:=by
 unfold availZ
 rw [heldTo_eq (x:=relO s k) (s:=s) (fun j _=>rfl) (fun j _=>(relOd_line k _ _ _).1)]
 rw [fromTo_eq (x:=relO s k) (s:=s) (fun j _=>rfl)]
 rfl
theorem rel_right {p:Pl} {s:St} (r:RightT p s) (k:Nat):RightT p (relO s k):=by
 refine ⟨rel_formed r k,fun g hg => ?_,fun i hi => ?_⟩
 ·obtain ⟨a1,a2⟩:=goods_no (r.goods g hg)
  exact goods_mk a1 fun b hb=>by rw [rel_avail];exact a2 b hb
 ·have hi':i<s.os.n:=hi
  by_cases c:i<k∧(s.os.z i).k=0
  ·have l1:=(r.fm.lns i hi').1
   have e0:=rel_line r hi' (j:=0) (by omega) c
   unfold wrongOrder
   rw [Bool.or_eq_false_iff]
   constructor
   ·have:anyB ((relO s k).os.z i).ls.n (fun j=>lacksL (((relO s k).os.z i).ls.z j))=true:=by
     refine anyB_yes (k:=0) ?_ ?_
     ·show 0<(relOd k i (s.os.z i)).ls.n
      rw [relOd_n]
      omega
     ·show lacksL ((relOd k i (s.os.z i)).ls.z 0)=true
      have g:=relOd_line k i (s.os.z i) 0
      obtain ⟨b1,b2,b3,b4⟩:=badLine_no (r.fm.line i hi' 0 (by omega))
      unfold lacksL
      rw [Bool.not_eq_true',beq_eq_false_iff_ne]
      omega
    rw [this]
    simp
   ·refine anyB_no fun j hj => ?_
    have hj':j<(s.os.z i).ls.n:=by rw [← relOd_n k i];exact hj
    have e:=rel_line r hi' hj' c
    have g:=relOd_line k i (s.os.z i) j
    show wrongL (relOd k i (s.os.z i)).k ((relOd k i (s.os.z i)).ls.z j) (keptS s.hs.z i j s.hs.n)=false
    unfold wrongL
    rw [e.1,if_neg (by decide),if_neg (by decide),Bool.not_eq_false',beq_iff_eq]
    omega
  ·have e:(relO s k).os.z i=s.os.z i:=if_neg c
   have w:=r.orders i hi'
   unfold wrongOrder at w ⊢
   rw [e]
   exact w
def relQ (s:St) (a b:Nat):Int:=if ((relO s s.os.n).os.z a).k=1 then (((relO s s.os.n).os.z a).ls.z b).n else 0
def relM (s:St) (a:Nat):Nat:=(s.os.z a).ls.n
def Released (p:Pl) (s x:St):Prop:=TkAll p (-1) (relQ s) (relM s) (relO s s.os.n) s.os.n x
def RelOK (p:Pl) (s x:St):Prop:=(stateE p s=0→Released p s x)∧(¬ stateE p s=0→NoneS x)
theorem rel_qin {p:Pl} {s:St} (r:RightT p s):QIn p (-1) (relQ s) (relO s s.os.n):=by
 have rr:=rel_right r s.os.n
 refine ⟨rr,fun a b ha hb => ?_,Or.inl rfl⟩
 unfold relQ
 have q:=right_line rr ha hb
 by_cases h:((relO s s.os.n).os.z a).k=1
 ·rw [if_pos h]
  exact ⟨q.1,Or.inr ⟨h,Int.le_refl _⟩⟩
 ·rw [if_neg h]
  exact ⟨Int.le_refl _,Or.inl rfl⟩
theorem relM_eq (s:St) (a:Nat):relM s a=((relO s s.os.n).os.z a).ls.n:=(relOd_n _ _ _).symm
theorem Released.pos {p:Pl} {s x:St} (r:RightT p s) (h:Released p s x):Pos p (-1) (relQ s) (relO s s.os.n) s.os.n 0 x:=TkAll.pos (rel_qin r) (fun a _=>relM_eq s a) (Nat.le_refl _) h
theorem Released.same {p:Pl} {s x y:St} (r:RightT p s) (h:Released p s x) (k:Released p s y):SameT x y:=TkAll.same (rel_qin r) (fun a _=>relM_eq s a) (Nat.le_refl _) k h
theorem RelOK.same {p:Pl} {s x y:St} (a:RelOK p s x) (b:RelOK p s y):SameT x y:=by
 by_cases h:stateE p s=0
 ·exact (a.1 h).same (rightT h) (b.1 h)
 ·exact none_same2 (a.2 h) (b.2 h)
def relT (p:Pl) (s:St):St:=allT p (-1) (relQ s) (relM s) s.os.n (relO s s.os.n)
theorem relT_rel {p:Pl} {s:St} (r:RightT p s):Released p s (relT p s):=allT_all (rel_qin r) (fun a _=>relM_eq s a) (Nat.le_refl _)
theorem RelOK.act {p:Pl} {s x:St} (h:RelOK p s x):ActOK (stateE p s) (relT p s) x:=⟨fun e=>(h.1 e).same (rightT e) (relT_rel (rightT e)),h.2⟩
theorem relT_same {p:Pl} {x s:St} (r:RightT p s) (e:SameT x s):SameT (relT p x) (relT p s):=by
 have rx:=e.right r
 have en:=e.os.1
 have k:=relO_same e s.os.n
 have ex:relO x x.os.n=relO x s.os.n:=by rw [en]
 have h:TkAll p (-1) (relQ s) (relM s) (relO s s.os.n) s.os.n (relT p x):=by
  have h0:=relT_rel rx
  unfold Released at h0
  rw [ex,en] at h0
  refine TkAll.base k (fun a _=>relM_eq s a) (fun a ha => ?_) (fun a b ha hb => ?_) (Nat.le_refl _) h0
  ·exact (e.os.2 a (by rw [en];exact ha)).2.1
  ·unfold relQ
   rw [ex]
   have o:=k.os.2 a (by show a<x.os.n;rw [en];exact ha)
   rw [o.1]
   by_cases c:((relO s s.os.n).os.z a).k=1
   ·rw [if_pos c,if_pos c,o.2.2 b (by rw [o.2.1];exact hb)]
   ·rw [if_neg c,if_neg c]
 exact Released.same r h (relT_rel r)
theorem RightT.bound {p:Pl} {s:St} (r:RightT p s):s.os.n≤1000∧s.ms.n≤1000∧∀ i,i<s.os.n→(s.os.z i).ls.n≤1000 :=
 ⟨Nat.le_trans r.fm.os4 (by decide),Nat.le_trans r.fm.ms8 (by decide),fun i hi=>Nat.le_trans (r.fm.lns i hi).2 (by decide)⟩
theorem relT_right {p:Pl} {s:St} (r:RightT p s):RightT p (relT p s):=((relT_rel r).pos r).al.r
def revL (z:Nat→Hd):Nat→List Hd
 | 0=>[]
 | k+1=>z k :: revL z k
def lessN (z:Nat→Hd) (i:Nat) (d:Int) (j:Nat):Hd:=if j=i then lessL (z j) d else z j
def cutI (f:Hd→Bool):Nat→Int→(Nat→Hd)→Nat→Hd
 | 0,_,z=>z
 | i+1,m,z=>if f (z i) then cutI f i (m - min m (z i).n) (lessN z i (min m (z i).n)) else cutI f i m z
def cutL (f:Hd→Bool):Int→List Hd→List Hd
 | _,[]=>[]
 | m,h :: R=>if f h then lessL h (min m h.n) :: cutL f (m - min m h.n) R else h :: cutL f m R
def cutQ (f:Hd→Bool):Int→List Hd→Int→Int→Int
 | _,[],_,_=>0
 | m,h :: R,o,l=>if f h then (if h.o=o∧h.l=l then min m h.n else 0)+cutQ f (m - min m h.n) R o l else cutQ f m R o l
def leftL (f:Hd→Bool):Int→List Hd→Int
 | m,[]=>m
 | m,h :: R=>if f h then leftL f (m - min m h.n) R else leftL f m R
def sumB (P:Hd→Bool):List Hd→Int
 | []=>0
 | h :: R=>sumB P R+if P h then h.n else 0
def goneH (x:Hd):Bool:=x.n==0
def flt (L:List Hd):List Hd:=L.filter (fun x => !goneH x)
def oneL (f:Hd→Bool):List Hd→List Hd
 | []=>[]
 | h :: R=>if f h then (if h.n=1 then R else lessL h 1 :: R) else h :: oneL f R
def lastI (f:Hd→Bool) (z:Nat→Hd):Nat→Option Nat
 | 0=>none
 | k+1=>if f (z k) then some k else lastI f z k
theorem revL_list (z:Nat→Hd):∀ n,revL z n=((List.range n).map z).reverse
 | 0=>rfl
 | n+1=>by rw [List.range_succ,List.map_append,List.reverse_append,← revL_list z n];rfl
theorem revL_len (z:Nat→Hd):∀ n,(revL z n).length=n
 | 0=>rfl
 | n+1=>by show (revL z n).length+1=_;rw [revL_len z n]
theorem revL_congr {z z':Nat→Hd}:∀ {n:Nat},(∀ j,j<n→z j=z' j)→revL z n=revL z' n
 | 0,_=>rfl
 | n+1,h=>by show z n :: revL z n=z' n :: revL z' n;rw [h n (by omega),revL_congr fun j hj=>h j (by omega)]
theorem revL_at {z z':Nat→Hd}:∀ {n:Nat},revL z n=revL z' n→∀ j,j<n→z j=z' j
 | 0,_,j,hj=>absurd hj (by omega)
 | n+1,h,j,hj=>by
  have h':z n :: revL z n=z' n :: revL z' n:=h
  rw [List.cons.injEq] at h'
  by_cases e:j=n
  ·rw [e];exact h'.1
  ·exact revL_at h'.2 j (by omega)
theorem revL_inj {z z':Nat→Hd} {n n':Nat} (h:revL z n=revL z' n'):n=n'∧∀ j,j<n→z j=z' j:=by
 have e:n=n':=by rw [← revL_len z n,h,revL_len]
 subst e
 exact ⟨rfl,revL_at h⟩
theorem revL_mem {z:Nat→Hd}:∀ {n:Nat} {x:Hd},x∈revL z n→∃ j,j<n∧z j=x
 | 0,x,h=>by cases h
 | n+1,x,h=>by
  rcases List.mem_cons.1 h with e | e
  ·exact ⟨n,by omega,e.symm⟩
  ·obtain ⟨j,hj,e⟩:=revL_mem e
   exact ⟨j,by omega,e⟩
theorem revL_has {z:Nat→Hd}:∀ {n j:Nat},j<n→z j∈revL z n
 | n+1,j,h=>by
  by_cases e:j=n
  ·rw [e];exact List.mem_cons_self
  ·exact List.mem_cons_of_mem _ (revL_has (by omega))
theorem cutI_ge (f:Hd→Bool):∀ (i:Nat) (m:Int) (z:Nat→Hd) (k:Nat),i≤k→cutI f i m z k=z k
 | 0,_,_,_,_=>rfl
 | i+1,m,z,k,h=>by
  show (if f (z i) then cutI f i (m - min m (z i).n) (lessN z i (min m (z i).n)) else cutI f i m z) k=z k
  split
  ·rw [cutI_ge f i _ _ k (by omega)]
   exact if_neg (by omega)
  ·exact cutI_ge f i _ _ k (by omega)
theorem cutI_rev (f:Hd→Bool):∀ (i:Nat) (m:Int) (z:Nat→Hd),revL (cutI f i m z) i=cutL f m (revL z i)
 | 0,_,_=>rfl
 | i+1,m,z=>by
  show cutI f (i+1) m z i :: revL (cutI f (i+1) m z) i=if f (z i) then _ else _
  have e:cutI f (i+1) m z=if f (z i) then cutI f i (m - min m (z i).n) (lessN z i (min m (z i).n)) else cutI f i m z:=rfl
  rw [e]
  by_cases h:f (z i)=true
  ·rw [if_pos h,if_pos h,cutI_rev f i,cutI_ge f i _ _ i (Nat.le_refl _)]
   have e1:lessN z i (min m (z i).n) i=lessL (z i) (min m (z i).n):=if_pos rfl
   rw [e1,revL_congr (z:=lessN z i (min m (z i).n)) (z':=z) fun j hj=>if_neg (by omega)]
  ·rw [if_neg h,if_neg h,cutI_rev f i,cutI_ge f i _ _ i (Nat.le_refl _)]
theorem lessL_zero (x:Hd):lessL x 0=x:=by unfold lessL;rw [Int.sub_zero]
theorem cutI_zero (f:Hd→Bool):∀ (i:Nat) (z:Nat→Hd),(∀ j,j<i→0≤(z j).n)→cutI f i 0 z=z
 | 0,_,_=>rfl
 | i+1,z,h=>by
  show (if f (z i) then cutI f i (0 - min 0 (z i).n) (lessN z i (min 0 (z i).n)) else cutI f i 0 z)=z
  have h0:min 0 (z i).n=0:=Int.min_eq_left (h i (by omega))
  have e:lessN z i 0=z:=by
   funext j
   unfold lessN
   rw [lessL_zero]
   split<;>rfl
  rw [h0,e,Int.sub_zero,cutI_zero f i z fun j hj=>h j (by omega)]
  split<;>rfl
theorem cutI_key (f:Hd→Bool):∀ (i:Nat) (m:Int) (z:Nat→Hd),0≤m→(∀ j,j<i→0≤(z j).n)→∀ k,((cutI f i m z k).o=(z k).o∧(cutI f i m z k).l=(z k).l∧(cutI f i m z k).b=(z k).b)∧(k<i→0≤(cutI f i m z k).n)∧(cutI f i m z k).n≤(z k).n
 | 0,_,_,_,_,_=>⟨⟨rfl,rfl,rfl⟩,fun h=>absurd h (by omega),Int.le_refl _⟩
 | i+1,m,z,hm,hz,k=>by
  have e:cutI f (i+1) m z=if f (z i) then cutI f i (m - min m (z i).n) (lessN z i (min m (z i).n)) else cutI f i m z:=rfl
  rw [e]
  have hi:=hz i (by omega)
  by_cases h:f (z i)=true
  ·rw [if_pos h]
   have hl:∀ j,¬ j=i→lessN z i (min m (z i).n) j=z j:=fun j hj=>if_neg hj
   have hs:lessN z i (min m (z i).n) i=lessL (z i) (min m (z i).n):=if_pos rfl
   have r:=cutI_key f i (m - min m (z i).n) (lessN z i (min m (z i).n)) (by omega) (fun j hj=>by rw [hl j (by omega)];exact hz j (by omega)) k
   by_cases hk:k=i
   ·subst hk
    rw [cutI_ge f k _ _ k (Nat.le_refl _),hs]
    refine ⟨⟨rfl,rfl,rfl⟩,fun _ => ?_,?_⟩
    ·show 0≤(z k).n - min m (z k).n
     omega
    ·show (z k).n - min m (z k).n≤(z k).n
     omega
   ·rw [hl k hk] at r
    exact ⟨r.1,fun h'=>r.2.1 (by omega),r.2.2⟩
  ·rw [if_neg h]
   have r:=cutI_key f i m z hm (fun j hj=>hz j (by omega)) k
   by_cases hk:k=i
   ·subst hk
    rw [cutI_ge f k _ _ k (Nat.le_refl _)]
    exact ⟨⟨rfl,rfl,rfl⟩,fun _=>hi,Int.le_refl _⟩
   ·exact ⟨r.1,fun h'=>r.2.1 (by omega),r.2.2⟩
def Blind (f:Hd→Bool):Prop:=∀ h d,f (lessL h d)=f h
def Pos0 (R:List Hd):Prop:=∀ h,h∈R→0≤h.n
theorem Pos0.tail {h:Hd} {R:List Hd} (p:Pos0 (h :: R)):Pos0 R:=fun x hx=>p x (List.mem_cons_of_mem _ hx)
theorem Pos0.head {h:Hd} {R:List Hd} (p:Pos0 (h :: R)):0≤h.n:=p h List.mem_cons_self
theorem sumB_nn {P:Hd→Bool}:∀ {R:List Hd},Pos0 R→0≤sumB P R
 | [],_=>Int.le_refl _
 | h :: R,p=>by
  have:=sumB_nn (P:=P) p.tail
  have:=p.head
  show 0≤sumB P R+if P h then h.n else 0
  split<;>omega
theorem sumB_flt (P:Hd→Bool):∀ (R:List Hd),sumB P (flt R)=sumB P R
 | []=>rfl
 | h :: R=>by
  have ih:=sumB_flt P R
  unfold flt at ih ⊢
  rw [List.filter_cons]
  cases hg:goneH h
  ·rw [if_pos (show (!false)=true from rfl)]
   show sumB P _+_=sumB P R+_
   rw [ih]
  ·rw [if_neg (by decide),ih]
   have h0:h.n=0:=by unfold goneH at hg;simpa using hg
   show _=sumB P R+if P h then h.n else 0
   rw [h0]
   split<;>omega
theorem sumB_cut {f:Hd→Bool} (hb:Blind f):∀ {R:List Hd} {m:Int},Pos0 R→0≤m→sumB f (cutL f m R)=sumB f R - min m (sumB f R)∧leftL f m R=m - min m (sumB f R)
 | [],m,_,hm=>by
  show (0:Int)=0 - min m 0∧m=m - min m 0
  omega
 | h :: R,m,p,hm=>by
  have hh:=p.head
  have sn:=sumB_nn (P:=f) p.tail
  by_cases c:f h=true
  ·have e:cutL f m (h :: R)=lessL h (min m h.n) :: cutL f (m - min m h.n) R:=if_pos c
   have e2:leftL f m (h :: R)=leftL f (m - min m h.n) R:=if_pos c
   have e3:sumB f (h :: R)=sumB f R+h.n:=by show _+(if f h then _ else _)=_;rw [if_pos c]
   have ih:=sumB_cut hb (R:=R) (m:=m - min m h.n) p.tail (by omega)
   rw [e,e2,e3,ih.2]
   have e4:sumB f (lessL h (min m h.n) :: cutL f (m - min m h.n) R)=sumB f (cutL f (m - min m h.n) R)+(h.n - min m h.n):=by show _+(if f _ then _ else _)=_;rw [hb,if_pos c];rfl
   rw [e4,ih.1]
   omega
  ·have e:cutL f m (h :: R)=h :: cutL f m R:=if_neg c
   have e2:leftL f m (h :: R)=leftL f m R:=if_neg c
   have e3:sumB f (h :: R)=sumB f R:=by show _+(if f h then _ else _)=_;rw [if_neg c,Int.add_zero]
   have ih:=sumB_cut hb (R:=R) (m:=m) p.tail hm
   have e4:sumB f (h :: cutL f m R)=sumB f (cutL f m R):=by show _+(if f h then _ else _)=_;rw [if_neg c,Int.add_zero]
   rw [e,e2,e3,e4]
   exact ih
theorem sumB_other {f P:Hd→Bool} (hd:∀ h,P h=true→f h=false) (hP:Blind P):∀ (R:List Hd) (m:Int),sumB P (cutL f m R)=sumB P R
 | [],_=>rfl
 | h :: R,m=>by
  by_cases c:f h=true
  ·have e:cutL f m (h :: R)=lessL h (min m h.n) :: cutL f (m - min m h.n) R:=if_pos c
   have hp:P h=false:=by
    cases hp:P h
    ·rfl
    ·rw [hd h hp] at c;cases c
   rw [e]
   show sumB P _+(if P (lessL h _) then _ else _)=sumB P R+if P h then _ else _
   rw [hP,hp,sumB_other hd hP R]
   rfl
  ·have e:cutL f m (h :: R)=h :: cutL f m R:=if_neg c
   rw [e]
   show sumB P _+_=sumB P R+_
   rw [sumB_other hd hP R]
def forL (o l:Int) (h:Hd):Bool:=(h.o==o)&&(h.l==l)
theorem forL_iff {o l:Int} {h:Hd}:forL o l h=true↔h.o=o∧h.l=l:=by unfold forL;simp
theorem sumB_line (f:Hd→Bool) (o l:Int):∀ (R:List Hd) (m:Int),sumB (forL o l) (cutL f m R)=sumB (forL o l) R - cutQ f m R o l
 | [],_=>rfl
 | h :: R,m=>by
  by_cases c:f h=true
  ·have e:cutL f m (h :: R)=lessL h (min m h.n) :: cutL f (m - min m h.n) R:=if_pos c
   have e2:cutQ f m (h :: R) o l=(if h.o=o∧h.l=l then min m h.n else 0)+cutQ f (m - min m h.n) R o l:=if_pos c
   rw [e,e2]
   show sumB _ _+(if forL o l (lessL h _) then h.n - min m h.n else 0)=sumB _ R+(if forL o l h then h.n else 0) - _
   rw [sumB_line f o l R]
   have e3:forL o l (lessL h (min m h.n))=forL o l h:=rfl
   rw [e3]
   by_cases k:h.o=o∧h.l=l
   ·rw [if_pos (forL_iff.2 k),if_pos (forL_iff.2 k),if_pos k];omega
   ·rw [if_neg (fun e=>k (forL_iff.1 e)),if_neg (fun e=>k (forL_iff.1 e)),if_neg k];omega
  ·have e:cutL f m (h :: R)=h :: cutL f m R:=if_neg c
   have e2:cutQ f m (h :: R) o l=cutQ f m R o l:=if_neg c
   rw [e,e2]
   show sumB _ _+_=sumB _ R+_ - _
   rw [sumB_line f o l R]
   omega
theorem cutQ_nn (f:Hd→Bool) (o l:Int):∀ {R:List Hd} {m:Int},Pos0 R→0≤m→0≤cutQ f m R o l
 | [],_,_,_=>Int.le_refl _
 | h :: R,m,p,hm=>by
  have hh:=p.head
  show 0≤if f h then _ else _
  split
  ·have:=cutQ_nn f o l (R:=R) (m:=m - min m h.n) p.tail (by omega)
   split<;>omega
  ·exact cutQ_nn f o l p.tail hm
theorem cutQ_zero (f:Hd→Bool) (o l:Int):∀ {R:List Hd},Pos0 R→cutQ f 0 R o l=0
 | [],_=>rfl
 | h :: R,p=>by
  have h0:min 0 h.n=0:=Int.min_eq_left p.head
  show (if f h then (if h.o=o∧h.l=l then min 0 h.n else 0)+cutQ f (0 - min 0 h.n) R o l else cutQ f 0 R o l)=0
  rw [h0,Int.sub_zero,cutQ_zero f o l p.tail]
  split
  ·split<;>rfl
  ·rfl
theorem cutL_zero (f:Hd→Bool):∀ {R:List Hd},Pos0 R→cutL f 0 R=R
 | [],_=>rfl
 | h :: R,p=>by
  have h0:min 0 h.n=0:=Int.min_eq_left p.head
  show (if f h then lessL h (min 0 h.n) :: cutL f (0 - min 0 h.n) R else h :: cutL f 0 R)=h :: R
  rw [h0,Int.sub_zero,cutL_zero f p.tail,lessL_zero]
  split<;>rfl
theorem cutL_pos (f:Hd→Bool):∀ {R:List Hd} {m:Int},Pos0 R→0≤m→Pos0 (cutL f m R)
 | [],_,_,_=>fun x hx=>by cases hx
 | h :: R,m,p,hm=>by
  have hh:=p.head
  by_cases c:f h=true
  ·have e:cutL f m (h :: R)=lessL h (min m h.n) :: cutL f (m - min m h.n) R:=if_pos c
   rw [e]
   intro x hx
   rcases List.mem_cons.1 hx with rfl | hx
   ·show 0≤h.n - min m h.n
    omega
   ·exact cutL_pos f p.tail (by omega) x hx
  ·have e:cutL f m (h :: R)=h :: cutL f m R:=if_neg c
   rw [e]
   intro x hx
   rcases List.mem_cons.1 hx with rfl | hx
   ·exact hh
   ·exact cutL_pos f p.tail hm x hx
theorem flt_all {R:List Hd} (h:∀ x,x∈R→1≤x.n):flt R=R:=by
 unfold flt
 rw [List.filter_eq_self]
 intro x hx
 have:=h x hx
 unfold goneH
 simp
 omega
theorem flt_cons_pos {h:Hd} {R:List Hd} (c:1≤h.n):flt (h :: R)=h :: flt R:=by
 unfold flt
 rw [List.filter_cons,if_pos]
 unfold goneH
 simp
 omega
theorem flt_cons_zero {h:Hd} {R:List Hd} (c:h.n=0):flt (h :: R)=flt R:=by
 unfold flt
 rw [List.filter_cons,if_neg]
 unfold goneH
 simp [c]
theorem one_cut {f:Hd→Bool} (hb:Blind f):∀ {R:List Hd} {m:Int},(∀ h,h∈R→1≤h.n)→0≤m→m+1≤sumB f R→oneL f (flt (cutL f m R))=flt (cutL f (m+1) R)∧∃ h0,(flt (cutL f m R)).find? f=some h0∧∀ o l,cutQ f (m+1) R o l=cutQ f m R o l+if h0.o=o∧h0.l=l then 1 else 0
 | [],m,_,_,hs=>absurd hs (by show ¬ m+1≤0;omega)
 | h :: R,m,p,hm,hs=>by
  have h1:=p h List.mem_cons_self
  have pt:∀ x,x∈R→1≤x.n:=fun x hx=>p x (List.mem_cons_of_mem _ hx)
  have p0:Pos0 R:=fun x hx=>by have:=pt x hx;omega
  by_cases c:f h=true
  ·have e:∀ k,cutL f k (h :: R)=lessL h (min k h.n) :: cutL f (k - min k h.n) R:=fun k=>if_pos c
   have eq:∀ k o l,cutQ f k (h :: R) o l=(if h.o=o∧h.l=l then min k h.n else 0)+cutQ f (k - min k h.n) R o l:=fun k o l=>if_pos c
   have e3:sumB f (h :: R)=sumB f R+h.n:=by show _+(if f h then _ else _)=_;rw [if_pos c]
   rw [e3] at hs
   by_cases k:m<h.n
   ·have m1:min m h.n=m:=by omega
    have m2:min (m+1) h.n=m+1:=by omega
    have e0:flt (cutL f m (h :: R))=lessL h m :: R:=by
     rw [e,m1,Int.sub_self,cutL_zero f p0,flt_cons_pos (by show 1≤h.n - m;omega),flt_all pt]
    refine ⟨?_,lessL h m,?_,fun o l => ?_⟩
    ·rw [e0,e,m2,Int.sub_self,cutL_zero f p0]
     show (if f (lessL h m) then (if (lessL h m).n=1 then R else lessL (lessL h m) 1 :: R) else _)=_
     rw [hb,if_pos c]
     by_cases k1:h.n - m=1
     ·rw [if_pos (show (lessL h m).n=1 from k1),flt_cons_zero (by show h.n - (m+1)=0;omega),flt_all pt]
     ·rw [if_neg (show ¬ (lessL h m).n=1 from k1),flt_cons_pos (by show 1≤h.n - (m+1);omega),flt_all pt]
      have:lessL (lessL h m) 1=lessL h (m+1):=by unfold lessL;rw [show h.n - m - 1=h.n - (m+1) by omega]
      rw [this]
    ·rw [e0,List.find?_cons,hb,c]
    ·rw [eq,eq,m1,m2,Int.sub_self,Int.sub_self]
     show (if h.o=o∧h.l=l then m+1 else 0)+_=(if h.o=o∧h.l=l then m else 0)+_+if h.o=o∧h.l=l then 1 else 0
     split<;>omega
   ·have m1:min m h.n=h.n:=by omega
    have m2:min (m+1) h.n=h.n:=by omega
    have ih:=one_cut hb (R:=R) (m:=m - h.n) pt (by omega) (by omega)
    have e0:∀ k,min k h.n=h.n→flt (cutL f k (h :: R))=flt (cutL f (k - h.n) R):=fun k hk=>by
     rw [e,hk,flt_cons_zero (by show h.n - h.n=0;omega)]
    rw [e0 m m1,e0 (m+1) m2,show m+1 - h.n=m - h.n+1 by omega]
    refine ⟨ih.1,?_⟩
    obtain ⟨h0,a1,a2⟩:=ih.2
    refine ⟨h0,a1,fun o l => ?_⟩
    rw [eq,eq,m1,m2,show m+1 - h.n=m - h.n+1 by omega,a2]
    omega
  ·have e:∀ k,cutL f k (h :: R)=h :: cutL f k R:=fun k=>if_neg c
   have eq:∀ k o l,cutQ f k (h :: R) o l=cutQ f k R o l:=fun k o l=>if_neg c
   have e3:sumB f (h :: R)=sumB f R:=by show _+(if f h then _ else _)=_;rw [if_neg c,Int.add_zero]
   rw [e3] at hs
   have ih:=one_cut hb (R:=R) (m:=m) pt hm hs
   rw [e,e,flt_cons_pos h1,flt_cons_pos h1]
   refine ⟨?_,?_⟩
   ·show (if f h then _ else h :: oneL f _)=_
    rw [if_neg c,ih.1]
   ·obtain ⟨h0,a1,a2⟩:=ih.2
    refine ⟨h0,?_,fun o l=>by rw [eq,eq,a2]⟩
    rw [List.find?_cons,show f h=false by simpa using c]
    exact a1
theorem last_find (f:Hd→Bool) (z:Nat→Hd):∀ n,(revL z n).find? f=(lastI f z n).map z
 | 0=>rfl
 | n+1=>by
  show (z n :: revL z n).find? f=(if f (z n) then some n else lastI f z n).map z
  rw [List.find?_cons]
  cases h:f (z n)
  ·rw [if_neg (by decide)];exact last_find f z n
  ·rw [if_pos rfl];rfl
theorem last_lt {f:Hd→Bool} {z:Nat→Hd}:∀ {n k:Nat},lastI f z n=some k→k<n∧f (z k)=true
 | 0,k,h=>by cases h
 | n+1,k,h=>by
  have h':(if f (z n) then some n else lastI f z n)=some k:=h
  by_cases c:f (z n)=true
  ·rw [if_pos c] at h'
   cases h'
   exact ⟨by omega,c⟩
  ·rw [if_neg c] at h'
   have:=last_lt h'
   exact ⟨by omega,this.2⟩
theorem last_none {f:Hd→Bool} {z:Nat→Hd}:∀ {n:Nat},lastI f z n=none→∀ k,k<n→f (z k)=false
 | 0,_,k,h=>absurd h (by omega)
 | n+1,h,k,hk=>by
  have h':(if f (z n) then some n else lastI f z n)=none:=h
  by_cases c:f (z n)=true
  ·rw [if_pos c] at h';cases h'
  ·rw [if_neg c] at h'
   by_cases e:k=n
   ·rw [e];simpa using c
   ·exact last_none h' k (by omega)
theorem one_less {f:Hd→Bool} {z:Nat→Hd}:∀ {n k:Nat},lastI f z n=some k→¬ (z k).n=1→revL (lessN z k 1) n=oneL f (revL z n)
 | 0,k,h,_=>by cases h
 | n+1,k,h,hn=>by
  have h':(if f (z n) then some n else lastI f z n)=some k:=h
  show lessN z k 1 n :: revL (lessN z k 1) n=if f (z n) then (if (z n).n=1 then revL z n else lessL (z n) 1 :: revL z n) else z n :: oneL f (revL z n)
  by_cases c:f (z n)=true
  ·rw [if_pos c] at h'
   cases h'
   rw [if_pos c,if_neg hn,revL_congr (z:=lessN z n 1) (z':=z) fun j hj=>if_neg (by omega)]
   have e:lessN z n 1 n=lessL (z n) 1:=if_pos rfl
   rw [e]
  ·rw [if_neg c] at h' ⊢
   have:=last_lt h'
   rw [one_less h' hn]
   have e:lessN z k 1 n=z n:=if_neg (by omega)
   rw [e]
theorem one_drop {f:Hd→Bool} {z:Nat→Hd}:∀ {n k:Nat},lastI f z (n+1)=some k→(z k).n=1→revL (dropZ z k) n=oneL f (revL z (n+1))
 | n,k,h,hn=>by
  have h':(if f (z n) then some n else lastI f z n)=some k:=h
  show revL (dropZ z k) n=if f (z n) then (if (z n).n=1 then revL z n else lessL (z n) 1 :: revL z n) else z n :: oneL f (revL z n)
  by_cases c:f (z n)=true
  ·rw [if_pos c] at h'
   cases h'
   rw [if_pos c,if_pos hn]
   exact revL_congr fun j hj=>if_pos hj
  ·rw [if_neg c] at h' ⊢
   have l:=last_lt h'
   match n,h',l with
   | q+1,h',l =>
    rw [← one_drop h' hn]
    show dropZ z k q :: revL (dropZ z k) q=_
    have e:dropZ z k q=z (q+1):=if_neg (by omega)
    rw [e]
end Go.Proofs.YtbcacebifpagpagGreat
namespace Go.Proofs.YtbcacebifpagpagGreat
open Go.RowKit Go.Shelf Go.Sort
set_option linter.unusedVariables false
def cancelE (p:Pl) (s:St) (order:Int):Int:=if stateE p s=0 then (if inB order 0 ((s.os.n:Int) - 1) then (if (s.os.z order.toNat).k=2 then 6 else 0) else 4) else stateE p s
theorem cancelE_state {p:Pl} {s:St} {order:Int} (h:¬ stateE p s=0):cancelE p s order=stateE p s:=by unfold cancelE;rw [if_neg h]
theorem cancelE_none {p:Pl} {s:St} {order:Int} (h:stateE p s=0) (h1:inB order 0 ((s.os.n:Int) - 1)=false):cancelE p s order=4:=by unfold cancelE;rw [if_pos h,h1];rfl
theorem cancelE_done {p:Pl} {s:St} {order:Int} (h:stateE p s=0) (h1:inB order 0 ((s.os.n:Int) - 1)=true) (h2:(s.os.z order.toNat).k=2):cancelE p s order=6:=by unfold cancelE;rw [if_pos h,h1,if_pos h2];rfl
theorem cancelE_ok {p:Pl} {s:St} {order:Int} (h:stateE p s=0) (h1:inB order 0 ((s.os.n:Int) - 1)=true) (h2:¬ (s.os.z order.toNat).k=2):cancelE p s order=0:=by unfold cancelE;rw [if_pos h,h1,if_neg h2];rfl
def cancelT (s:St) (o:Nat):St:=lackS (kindS (withHolds s (dropH s.hs (fun x=>x.o==(o:Int)))) o 2) o (s.os.z o).ls.n
theorem cancelT_os (s:St) (o i:Nat):(cancelT s o).os.z i=if i=o then ⟨2,lackL (s.os.z i).ls (s.os.z o).ls.n⟩ else s.os.z i:=by
 show (if i=o then (⟨(if i=o then (⟨2,(s.os.z i).ls⟩:Od) else s.os.z i).k,lackL (if i=o then (⟨2,(s.os.z i).ls⟩:Od) else s.os.z i).ls (s.os.z o).ls.n⟩:Od) else (if i=o then (⟨2,(s.os.z i).ls⟩:Od) else s.os.z i))=_
 by_cases h:i=o
 ·rw [if_pos h,if_pos h,if_pos h]
 ·rw [if_neg h,if_neg h,if_neg h]
theorem cancel_same {x s:St} (h:SameT x s) {o:Nat} (ho:o<x.os.n):SameT (cancelT x o) (cancelT s o):=by
 have eo:=h.os.2 o ho
 have d:=dropH_same h.hs.1 h.hs.2 (fun y=>y.o==(o:Int))
 refine ⟨h.on,⟨h.os.1,fun i hi => ?_⟩,⟨d.1,fun j _=>by show (dropH x.hs _).z j=(dropH s.hs _).z j;rw [d.2]⟩,h.ms,h.si,h.so,h.sf⟩
 have e:=h.os.2 i hi
 rw [cancelT_os,cancelT_os]
 by_cases hio:i=o
 ·subst hio
  rw [if_pos rfl,if_pos rfl]
  refine ⟨rfl,e.2.1,fun j hj => ?_⟩
  show (if j<(x.os.z i).ls.n then lackH ((x.os.z i).ls.z j) else (x.os.z i).ls.z j)=if j<(s.os.z i).ls.n then lackH ((s.os.z i).ls.z j) else (s.os.z i).ls.z j
  have hj':j<(x.os.z i).ls.n:=hj
  rw [if_pos hj',if_pos (by omega),e.2.2 j hj']
 ·rw [if_neg hio,if_neg hio]
  exact e
set_option maxRecDepth 100000 in
set_option maxHeartbeats 8000000 in
theorem Cancel_any (p:Pl) (s:St) (order:Int) (w:World) (hp:p.At w) (hs:s.At w) :
  Calls Tryz.prog 44 #[p.val,s.val,.int .i64 order] w fun e w'=>∃ x:St,e = .returned (.tuple #[x.val,.int .i64 (cancelE p s order)])∧x.At w'∧ActOK (cancelE p s order) (cancelT s order.toNat) x∧(cancelE p s order=0→OwnS w.heap.size w' x)∧Below w.heap.size w w':=by
 obtain ⟨W0,hW,hWB,X0,K0,Z0⟩:∃ W,((((w.alloc (.cells #[.slice p.ab p.nb p.cb,.slice p.sa p.ns p.cs] 25)).alloc (.cells s.cells 31)).alloc (.cells #[.int .i64 order] 3)).alloc (.cells #[.slice .none 0 0,.slice .none 0 0,.slice .none 0 0,.slice .none 0 0,.slice .none 0 0,.slice .none 0 0,.slice .none 0 0] 31))=W∧Below w.heap.size w W∧Boxes W w.heap.size (w.heap.size+1) p s∧Blk W (w.heap.size+2) 3 1 (fun _ => .int .i64 order)∧Blk W (w.heap.size+3) 31 7 (fun _ => .slice .none 0 0) :=
  ⟨_,rfl,((two_below _ _ _).alloc (by simp;omega) _).alloc (by simp;omega) _,((boxes_new w p s _ _).below ((Below.refl _ _).alloc (Nat.le_refl _) _)).below ((Below.refl _ _).alloc (Nat.le_refl _) _),((Blk.mk' (cur:=#[.int .i64 order]) (by simp) rfl).congr (fun j hj=>by match j,hj with | 0,_=>rfl)).alloc _,(Blk.mk' (cur:=#[.slice .none 0 0,.slice .none 0 0,.slice .none 0 0,.slice .none 0 0,.slice .none 0 0,.slice .none 0 0,.slice .none 0 0]) (by simp) rfl).congr (fun j hj=>by match j,hj with | 0,_=>rfl | 1,_=>rfl | 2,_=>rfl | 3,_=>rfl | 4,_=>rfl | 5,_=>rfl | 6,_=>rfl)⟩
 have HC:Hid (∀ wk,Below W0.heap.size W0 wk→Boxes wk w.heap.size (w.heap.size+1) p s∧p.At wk∧s.At wk∧Below w.heap.size w wk∧Blk wk (w.heap.size+3) 31 7 (fun _ => .slice .none 0 0)∧Blk wk (w.heap.size+2) 3 1 (fun _ => .int .i64 order)):=fun wk h=>⟨X0.below h,(hp.below hWB).below h,(hs.below hWB).below h,hWB.trans (h.mono hWB.size),Z0.below h,K0.below h⟩
 have HW:Hid ((((w.alloc (.cells #[.slice p.ab p.nb p.cb,.slice p.sa p.ns p.cs] 25)).alloc (.cells #[.slice s.on.a s.on.n s.on.c,.slice s.os.a s.os.n s.os.c,.slice s.hs.a s.hs.n s.hs.c,.slice s.ms.a s.ms.n s.ms.c,.slice s.si.a s.si.n s.si.c,.slice s.so.a s.so.n s.so.c,.slice s.sf.a s.sf.n s.sf.c] 31)).alloc (.cells #[.int .i64 order] 3)).alloc (.cells #[.slice .none 0 0,.slice .none 0 0,.slice .none 0 0,.slice .none 0 0,.slice .none 0 0,.slice .none 0 0,.slice .none 0 0] 31)=W0):=hW
 have zlt0:=Z0.lt
 have osl:=hs.os.le
 have osc0:=hs.os.cap
 have osc:=osc0
 have osn0:s.os.n≤maxLen:=Nat.le_trans osl osc0
 unfold maxLen at osc
 clear hW X0 Z0 K0 hp hs
 unfold Pl.val St.val
 go_enter Tryz.func44,Tryz.ntmps44
 go_wp2_with fail
 rw [HW.out]
 obtain ⟨X,hpk,hsk,hBw,hz,kb⟩:=HC.out W0 (Below.refl _ _)
 refine (stateCheck_any p s W0 hpk hsk).mono ?_
 rintro e w1 ⟨rfl,hB⟩
 clear X hpk hsk hBw hz kb HW
 obtain ⟨⟨⟨l1,d0,d1⟩,l2,c0,c1,c2,c3,c4,c5,c6⟩,hpk,hsk,hBw,hz,kb⟩:=HC.out w1 hB
 have b0:=kb.lt
 have b1:w1.cell? ⟨w.heap.size+2,0,none⟩=some (.int .i64 order):=kb.cell (j:=0) (by decide)
 by_cases h0:stateE p s=0
 ·have H0:Hid (stateE p s=0):=h0
  have HF:Hid (Formed p s):=(rightT h0).fm
  rw [h0]
  clear h0
  cases k1:inB order 0 ((s.os.n:Int) - 1)
  ·have HX:Hid (cancelE p s order=4):=cancelE_none H0.out k1
   have HNE:Hid (¬ cancelE p s order=0):=by show ¬ _;rw [HX.out];decide
   clear hpk hsk kb
   have zl:=hz.lt
   have zf0:=hz.frozen 0
   have zc0:=hz.cell (j:=0) (by decide)
   have zf1:=hz.frozen 1
   have zc1:=hz.cell (j:=1) (by decide)
   have zf2:=hz.frozen 2
   have zc2:=hz.cell (j:=2) (by decide)
   have zf3:=hz.frozen 3
   have zc3:=hz.cell (j:=3) (by decide)
   have zf4:=hz.frozen 4
   have zc4:=hz.cell (j:=4) (by decide)
   have zf5:=hz.frozen 5
   have zc5:=hz.cell (j:=5) (by decide)
   have zf6:=hz.frozen 6
   have zc6:=hz.cell (j:=6) (by decide)
   go_wp2_with (go_at_call 71;refine calls_to (Has_any _ _ _ osn0) ?_)
   have KZ:=set7_blk hz (.slice .none 0 0) (.slice .none 0 0) (.slice .none 0 0) (.slice .none 0 0) (.slice .none 0 0) (.slice .none 0 0) (.slice .none 0 0)
   have hbz:=set7_below (b:=w.heap.size+3) hBw (by omega) (.slice .none 0 0) (.slice .none 0 0) (.slice .none 0 0) (.slice .none 0 0) (.slice .none 0 0) (.slice .none 0 0) (.slice .none 0 0)
   unfold set7 at KZ hbz
   obtain ⟨c0',c1',c2',c3',c4',c5',c6'⟩:=box_cells KZ
   refine bodyPost_ret (v := .tuple #[noneS.val,.int .i64 4]) (by simp [results,Tryz.results44,go_sem,noneS,St.val,c0',c1',c2',c3',c4',c5',c6']) rfl ?_
   exact ⟨noneS,by rw [HX.out];rfl,noneS_at _,⟨fun h=>absurd h (HNE.out),fun _=>⟨rfl,rfl,rfl,rfl,rfl,rfl,rfl⟩⟩,fun h=>absurd h (HNE.out),hbz⟩
  ·have hin:=inB_true k1
   obtain ⟨o,rfl⟩:=Int.eq_ofNat_of_zero_le hin.1
   have ho:o<s.os.n:=by omega
   have q0:(0:Int)≤(o:Int):=by omega
   obtain ⟨bo,oo,hoa,hbo,z0,z1,hlk⟩:=hsk.os.ods o ho
   have HOA:Hid (s.os.a=some ⟨bo,oo,none⟩):=hoa
   rw [hoa] at c1
   clear hoa z1 hlk
   by_cases k2:(s.os.z o).k=2
   ·have HX:Hid (cancelE p s (o:Int)=6):=cancelE_done H0.out k1 k2
    have HNE:Hid (¬ cancelE p s (o:Int)=0):=by show ¬ _;rw [HX.out];decide
    rw [k2] at z0
    clear k2
    clear hpk hsk kb
    have zl:=hz.lt
    have zf0:=hz.frozen 0
    have zc0:=hz.cell (j:=0) (by decide)
    have zf1:=hz.frozen 1
    have zc1:=hz.cell (j:=1) (by decide)
    have zf2:=hz.frozen 2
    have zc2:=hz.cell (j:=2) (by decide)
    have zf3:=hz.frozen 3
    have zc3:=hz.cell (j:=3) (by decide)
    have zf4:=hz.frozen 4
    have zc4:=hz.cell (j:=4) (by decide)
    have zf5:=hz.frozen 5
    have zc5:=hz.cell (j:=5) (by decide)
    have zf6:=hz.frozen 6
    have zc6:=hz.cell (j:=6) (by decide)
    go_wp2_with (go_at_call 71;refine calls_to (Has_any _ _ _ osn0) ?_)
    have KZ:=set7_blk hz (.slice .none 0 0) (.slice .none 0 0) (.slice .none 0 0) (.slice .none 0 0) (.slice .none 0 0) (.slice .none 0 0) (.slice .none 0 0)
    have hbz:=set7_below (b:=w.heap.size+3) hBw (by omega) (.slice .none 0 0) (.slice .none 0 0) (.slice .none 0 0) (.slice .none 0 0) (.slice .none 0 0) (.slice .none 0 0) (.slice .none 0 0)
    unfold set7 at KZ hbz
    obtain ⟨c0',c1',c2',c3',c4',c5',c6'⟩:=box_cells KZ
    refine bodyPost_ret (v := .tuple #[noneS.val,.int .i64 6]) (by simp [results,Tryz.results44,go_sem,noneS,St.val,c0',c1',c2',c3',c4',c5',c6']) rfl ?_
    exact ⟨noneS,by rw [HX.out];rfl,noneS_at _,⟨fun h=>absurd h (HNE.out),fun _=>⟨rfl,rfl,rfl,rfl,rfl,rfl,rfl⟩⟩,fun h=>absurd h (HNE.out),hbz⟩
   ·have HX:Hid (cancelE p s (o:Int)=0):=cancelE_ok H0.out k1 k2
    have g2:((s.os.z o).k==2)=false:=by simpa using k2
    clear k2
    generalize (s.os.z o).k=KK at *
    have HCS:Hid (Calls Tryz.prog 90 #[s.val] w1 fun e w'=>∃ s':St,e = .returned s'.val∧SameT s' s∧OwnS w1.heap.size w' s'∧Below w1.heap.size w1 w'):=copyState_any p s w1 hsk HF.out
    have HKB:Hid (Blk w1 (w.heap.size+2) 3 1 (fun _ => .int .i64 (o:Int))):=kb
    clear hpk hsk hBw hz kb
    go_wp2_with (go_at_call 71;refine calls_to (Has_any _ _ _ osn0) ?_)
    rw [← HOA.out]
    refine Calls.mono HCS.out ?_
    rintro e w4 ⟨x0,rfl,hsame,hown,hB4⟩
    clear HCS l1 d0 d1 l2 c0 c1 c2 c3 c4 c5 c6 z0 hbo k1 g2 b0 b1 HOA
    obtain ⟨W5,hW5,hWB5,K5⟩:∃ W,w4.alloc (.cells #[.slice x0.on.a x0.on.n x0.on.c,.slice x0.os.a x0.os.n x0.os.c,.slice x0.hs.a x0.hs.n x0.hs.c,.slice x0.ms.a x0.ms.n x0.ms.c,.slice x0.si.a x0.si.n x0.si.c,.slice x0.so.a x0.so.n x0.so.c,.slice x0.sf.a x0.sf.n x0.sf.c] 31)=W∧Below w4.heap.size w4 W∧Blk W w4.heap.size 31 7 (fun j=>x0.cells.getD j default):=⟨_,rfl,(Below.refl _ _).alloc (Nat.le_refl _) _,Blk.mk' rfl rfl⟩
    have HW5:Hid (w4.alloc (.cells #[.slice x0.on.a x0.on.n x0.on.c,.slice x0.os.a x0.os.n x0.os.c,.slice x0.hs.a x0.hs.n x0.hs.c,.slice x0.ms.a x0.ms.n x0.ms.c,.slice x0.si.a x0.si.n x0.si.c,.slice x0.so.a x0.so.n x0.so.c,.slice x0.sf.a x0.sf.n x0.sf.c] 31)=W5):=hW5
    have hB15:=hB4.trans (hWB5.mono hB4.size)
    have hB5:=hB.trans (hB15.mono hB.size)
    have hown5:=OwnS.below hown hWB5
    have ho0:o<x0.os.n:=by rw [hsame.os.1];exact ho
    have HS0:Hid (SameT x0 s):=hsame
    have s2:W5.cell? ⟨w4.heap.size,2,none⟩=some (.slice x0.hs.a x0.hs.n x0.hs.c):=K5.cell (j:=2) (by decide)
    have s1:=K5.lt
    have HD:Hid (Calls Tryz.prog 97 #[.slice x0.hs.a x0.hs.n x0.hs.c,.func (.func 98) #[] #[.pointer (some ⟨w.heap.size+1+1,0,none⟩)]] W5 fun e w'=>e = .returned (.slice (dropH x0.hs (fun x=>x.o==(o:Int))).a (dropH x0.hs (fun x=>x.o==(o:Int))).n (dropH x0.hs (fun x=>x.o==(o:Int))).c)∧OwnS w1.heap.size w' (withHolds x0 (dropH x0.hs (fun x=>x.o==(o:Int))))∧Below w1.heap.size W5 w'∧(∀ q t m g,t≠61→Blk W5 q t m g→Blk w' q t m g)) :=
     DelS_any 98 #[.pointer (some ⟨w.heap.size+1+1,0,none⟩)] (fun x=>x.o==(o:Int)) w1.heap.size x0 W5 hB15.size hown5 (enters_of Tryz.func98 (by kernel_rfl) rfl) (fun x wz hz=>by
      have hlt:=HKB.out.lt
      exact Cancel1_any (w.heap.size+1+1) x o wz (Nat.lt_of_lt_of_le hlt (Nat.le_trans hB15.size hz.size)) ((hz.cell (p:=⟨w.heap.size+2,0,none⟩) hlt).trans ((hB15.cell (p:=⟨w.heap.size+2,0,none⟩) hlt).trans (HKB.out.cell (j:=0) (by decide)))))
    have HB5:Hid (Below W0.heap.size W0 W5∧W0.heap.size≤w1.heap.size∧w1.heap.size≤w4.heap.size∧w1.heap.size≤W5.heap.size):=⟨hB5,hB.size,hB4.size,hB15.size⟩
    have HK5:Hid (Blk W5 w4.heap.size 31 7 (fun j=>x0.cells.getD j default)):=K5
    rw [← HW5.out] at s1 s2
    clear hW5 hown hown5 K5 hB4 hWB5 hB15 hB5 hsame hB
    simp only [St.val]
    go_wp2_with fail
    rw [HW5.out]
    clear s1 s2 HW5
    refine HD.out.mono ?_
    rintro e w6 ⟨rfl,hO6,hB6,hkeep⟩
    have HDP:Hid (∀ h:Hs,h=dropH x0.hs (fun x=>x.o==(o:Int))→h.a=x0.hs.a∧h.c=x0.hs.c):=fun h e=>by rw [e];exact ⟨rfl,rfl⟩
    obtain ⟨hD,hDe⟩:∃ hD,dropH x0.hs (fun x=>x.o==(o:Int))=hD:=⟨_,rfl⟩
    have HDE:Hid (dropH x0.hs (fun x=>x.o==(o:Int))=hD):=hDe
    rw [hDe] at hO6 ⊢
    clear HD hDe HDP
    obtain ⟨e1,e2,e3,e4⟩:=HB5.out
    have K6:=hkeep _ _ _ _ (by decide) HK5.out
    have hB06:=e1.trans (hB6.mono e2)
    have n1:=K6.lt
    have n2:=K6.frozen 2
    have n3:=K6.cell (j:=2) (by decide)
    have hO7:=hO6.box K6 2 (.slice hD.a hD.n hD.c)
    have K7:Blk (w6.setCell ⟨w4.heap.size,2,none⟩ (.slice hD.a hD.n hD.c)) w4.heap.size 31 7 (fun j=>(withHolds x0 hD).cells.getD j default):=(K6.set 2 (.slice hD.a hD.n hD.c)).congr (fun j hj=>by match j,hj with | 0,_=>rfl | 1,_=>rfl | 2,_=>rfl | 3,_=>rfl | 4,_=>rfl | 5,_=>rfl | 6,_=>rfl)
    have hB07:=hB06.setCell (p:=⟨w4.heap.size,2,none⟩) (by show W0.heap.size≤w4.heap.size;omega) (.slice hD.a hD.n hD.c)
    have hs7:w6.heap.size≤(w6.setCell ⟨w4.heap.size,2,none⟩ (.slice hD.a hD.n hD.c)).heap.size:=by simp
    have a6:=hB6.size
    obtain ⟨gO,g1,g2,g3⟩:=hO7.os.list (by show 0<x0.os.n;omega)
    have g1':x0.os.a=some ⟨gO,0,none⟩:=g1
    have gne:¬ gO=w4.heap.size:=Blk.ne2 g3 K7 (by decide)
    have gne2:¬ w4.heap.size=gO:=fun e=>gne e.symm
    have u1:=(K7.cell (j:=1) (by decide))
    have u1':(w6.setCell ⟨w4.heap.size,2,none⟩ (.slice hD.a hD.n hD.c)).cell? ⟨w4.heap.size,1,none⟩=some (.slice x0.os.a x0.os.n x0.os.c):=u1
    rw [g1'] at u1'
    have u2:=g3.lt
    have u3:=g3.frozen (o*2)
    have u4:=g3.cell (j:=o*2) (by show o*2<x0.os.n*2;omega)
    generalize (flatO (withHolds x0 hD).os.n (withHolds x0 hD).os.z).getD (o*2) default=VV at u4
    have k8:=hO7.kind (o:=o) ho0 g1 2
    have K8:=K7.other (a:=⟨gO,o*2,none⟩) gne2 (.int .i64 2)
    have hB08:=hB07.setCell (p:=⟨gO,o*2,none⟩) (by show W0.heap.size≤gO;omega) (.int .i64 2)
    obtain ⟨⟨-,-⟩,-,-,hBx,-,kbx⟩:=HC.out _ hB07
    have u5:=kbx.cell (j:=0) (by decide)
    have u6:=kbx.lt
    have kne:¬ w.heap.size+2=gO:=by have:=HKB.out.lt;omega
    have kne2:¬ gO=w.heap.size+2:=fun e=>kne e.symm
    have ko0:o<(kindS (withHolds x0 hD) o 2).os.n:=ho0
    have HBD:Hid (∀ j,j<((kindS (withHolds x0 hD) o 2).os.z o).ls.n→(0≤(((kindS (withHolds x0 hD) o 2).os.z o).ls.z j).l∧(((kindS (withHolds x0 hD) o 2).os.z o).ls.z j).l≤200)∧0≤(((kindS (withHolds x0 hD) o 2).os.z o).ls.z j).b∧(((kindS (withHolds x0 hD) o 2).os.z o).ls.z j).b≤200):=by
     show ∀ j,j<((kindS (withHolds x0 hD) o 2).os.z o).ls.n→_
     rw [kindS_at]
     intro j hj
     have e:=HS0.out.os.2 o ho0
     have hj':j<(x0.os.z o).ls.n:=hj
     have hl:=badLine_no (HF.out.line o ho j (by omega))
     show (0≤((x0.os.z o).ls.z j).l∧((x0.os.z o).ls.z j).l≤200)∧0≤((x0.os.z o).ls.z j).b∧((x0.os.z o).ls.z j).b≤200
     rw [e.2.2 j hj']
     omega
    have H8:Hid (OwnS w1.heap.size ((w6.setCell ⟨w4.heap.size,2,none⟩ (.slice hD.a hD.n hD.c)).setCell ⟨gO,o*2,none⟩ (.int .i64 2)) (kindS (withHolds x0 hD) o 2)∧Blk ((w6.setCell ⟨w4.heap.size,2,none⟩ (.slice hD.a hD.n hD.c)).setCell ⟨gO,o*2,none⟩ (.int .i64 2)) w4.heap.size 31 7 (fun j=>(withHolds x0 hD).cells.getD j default)∧Below W0.heap.size W0 ((w6.setCell ⟨w4.heap.size,2,none⟩ (.slice hD.a hD.n hD.c)).setCell ⟨gO,o*2,none⟩ (.int .i64 2))∧w1.heap.size≤((w6.setCell ⟨w4.heap.size,2,none⟩ (.slice hD.a hD.n hD.c)).setCell ⟨gO,o*2,none⟩ (.int .i64 2)).heap.size):=⟨k8,K8,hB08,by simp;omega⟩
    have HG1:Hid ((kindS (withHolds x0 hD) o 2).os.a=some ⟨gO,0,none⟩):=g1
    have v1:x0.os.n≤x0.os.c:=hO7.os.le
    have v2:x0.os.c≤maxLen:=hO7.os.cap
    unfold maxLen at v2
    clear hO6 hB6 hkeep K6 hB06 hO7 K7 hB07 g1 g1' g3 u1 k8 K8 hB08 hBx kbx HK5
    go_wp2_with fail
    refine (lack_any (kindS (withHolds x0 hD) o 2) o w1.heap.size gO _ H8.out.2.2.2 H8.out.1 ko0 HG1.out HBD.out).mono ?_
    rintro e w9 ⟨rfl,hO9,hB9,hK9⟩
    have K9:=hK9 _ _ _ _ (by decide) (by decide) H8.out.2.1
    have hB09:=H8.out.2.2.1.trans (hB9.mono e2)
    clear n1 n2 n3 hs7 u1' u2 u3 u4 u5 u6 H8
    have HX9:Hid (OwnS w1.heap.size w9 (lackS (kindS (withHolds x0 hD) o 2) o ((kindS (withHolds x0 hD) o 2).os.z o).ls.n)):=hO9
    have KC:Blk w9 w4.heap.size 31 7 (fun j=>(cancelT x0 o).cells.getD j default):=K9.congr (fun j hj=>by unfold cancelT;rw [HDE.out];match j,hj with | 0,_=>rfl | 1,_=>rfl | 2,_=>rfl | 3,_=>rfl | 4,_=>rfl | 5,_=>rfl | 6,_=>rfl)
    have HO9:Hid (OwnS w1.heap.size w9 (cancelT x0 o)):=by
     have h:=HX9.out
     rw [kindS_at] at h
     show OwnS w1.heap.size w9 (cancelT x0 o)
     unfold cancelT
     rw [HDE.out]
     exact h
    have HTS:Hid (SameT (cancelT x0 o) (cancelT s o)):=cancel_same HS0.out ho0
    clear hO9 hB9 hK9 K9 HX9
    generalize cancelT x0 o=y at *
    obtain ⟨m1,p0,p1,p2,p3,p4,p5,p6⟩:=Boxed.of KC
    obtain ⟨-,-,-,hBw,hz,-⟩:=HC.out w9 hB09
    have HZ:Hid (Below w.heap.size w w9∧Blk w9 (w.heap.size+3) 31 7 (fun _ => .slice .none 0 0)):=⟨hBw,hz⟩
    have zl:=hz.lt
    have zf0:=hz.frozen 0
    have zc0:=hz.cell (j:=0) (by decide)
    have zf1:=hz.frozen 1
    have zc1:=hz.cell (j:=1) (by decide)
    have zf2:=hz.frozen 2
    have zc2:=hz.cell (j:=2) (by decide)
    have zf3:=hz.frozen 3
    have zc3:=hz.cell (j:=3) (by decide)
    have zf4:=hz.frozen 4
    have zc4:=hz.cell (j:=4) (by decide)
    have zf5:=hz.frozen 5
    have zc5:=hz.cell (j:=5) (by decide)
    have zf6:=hz.frozen 6
    have zc6:=hz.cell (j:=6) (by decide)
    have hlow:=(HC.out _ HB5.out.1).2.2.2.1.size
    clear KC hBw hz
    go_wp2_with fail
    have KZ:=set7_blk HZ.out.2 (.slice y.on.a y.on.n y.on.c) (.slice y.os.a y.os.n y.os.c) (.slice y.hs.a y.hs.n y.hs.c) (.slice y.ms.a y.ms.n y.ms.c) (.slice y.si.a y.si.n y.si.c) (.slice y.so.a y.so.n y.so.c) (.slice y.sf.a y.sf.n y.sf.c)
    have hbz:=set7_below (b:=w.heap.size+3) HZ.out.1 (by omega) (.slice y.on.a y.on.n y.on.c) (.slice y.os.a y.os.n y.os.c) (.slice y.hs.a y.hs.n y.hs.c) (.slice y.ms.a y.ms.n y.ms.c) (.slice y.si.a y.si.n y.si.c) (.slice y.so.a y.so.n y.so.c) (.slice y.sf.a y.sf.n y.sf.c)
    have hOz:=OwnS.set7 HO9.out HZ.out.2 (.slice y.on.a y.on.n y.on.c) (.slice y.os.a y.os.n y.os.c) (.slice y.hs.a y.hs.n y.hs.c) (.slice y.ms.a y.ms.n y.ms.c) (.slice y.si.a y.si.n y.si.c) (.slice y.so.a y.so.n y.so.c) (.slice y.sf.a y.sf.n y.sf.c)
    unfold set7 at KZ hbz hOz
    obtain ⟨c0',c1',c2',c3',c4',c5',c6'⟩:=box_cells KZ
    refine bodyPost_ret (v := .tuple #[y.val,.int .i64 0]) (by simp [results,Tryz.results44,go_sem,St.val,c0',c1',c2',c3',c4',c5',c6']) rfl ?_
    refine ⟨y,by rw [HX.out];rfl,hOz.at,⟨fun _=>HTS.out,fun h=>absurd HX.out h⟩,fun _=>hOz.mono (by omega),hbz⟩
 ·have HX:Hid (cancelE p s order=stateE p s):=cancelE_state h0
  have HNE:Hid (¬ cancelE p s order=0):=by show ¬ _;rw [cancelE_state h0];exact h0
  have g0:(stateE p s !=0)=true:=by simpa using h0
  clear h0
  clear hpk hsk kb
  have zl:=hz.lt
  have zf0:=hz.frozen 0
  have zc0:=hz.cell (j:=0) (by decide)
  have zf1:=hz.frozen 1
  have zc1:=hz.cell (j:=1) (by decide)
  have zf2:=hz.frozen 2
  have zc2:=hz.cell (j:=2) (by decide)
  have zf3:=hz.frozen 3
  have zc3:=hz.cell (j:=3) (by decide)
  have zf4:=hz.frozen 4
  have zc4:=hz.cell (j:=4) (by decide)
  have zf5:=hz.frozen 5
  have zc5:=hz.cell (j:=5) (by decide)
  have zf6:=hz.frozen 6
  have zc6:=hz.cell (j:=6) (by decide)
  go_wp2_with fail
  have KZ:=set7_blk hz (.slice .none 0 0) (.slice .none 0 0) (.slice .none 0 0) (.slice .none 0 0) (.slice .none 0 0) (.slice .none 0 0) (.slice .none 0 0)
  have hbz:=set7_below (b:=w.heap.size+3) hBw (by omega) (.slice .none 0 0) (.slice .none 0 0) (.slice .none 0 0) (.slice .none 0 0) (.slice .none 0 0) (.slice .none 0 0) (.slice .none 0 0)
  unfold set7 at KZ hbz
  obtain ⟨c0',c1',c2',c3',c4',c5',c6'⟩:=box_cells KZ
  refine bodyPost_ret (v := .tuple #[noneS.val,.int .i64 (stateE p s)]) (by simp [results,Tryz.results44,go_sem,noneS,St.val,c0',c1',c2',c3',c4',c5',c6']) rfl ?_
  exact ⟨noneS,by rw [HX.out];rfl,noneS_at _,⟨fun h=>absurd h (HNE.out),fun _=>⟨rfl,rfl,rfl,rfl,rfl,rfl,rfl⟩⟩,fun h=>absurd h (HNE.out),hbz⟩
end Go.Proofs.YtbcacebifpagpagGreat
namespace Go.Proofs.YtbcacebifpagpagGreat
open Go.RowKit
set_option linter.unusedVariables false
def withMoves (s:St) (h:Hs):St:=⟨s.on,s.os,s.hs,h,s.si,s.so,s.sf⟩
theorem OwnO.grew {A B:Nat} {w w2:World} {s:Os} {e:TypeId} (h:OwnO A w s) (hg:Grew B e w w2) (h1:57≠e) (h2:59≠e):OwnO A w2 s:=by
 refine ⟨h.le,h.cap,fun hn => ?_,fun i hi => ?_,h.apart,h.room.grew hg h1⟩
 ·obtain ⟨q,a1,a2,a3⟩:=h.list hn
  exact ⟨q,a1,a2,hg.blk a3 h1⟩
 ·obtain ⟨C,a1,a2,a3,a4,a5⟩:=h.lines i hi
  exact ⟨C,a1,a2,a3,a4,hg.blk a5 h2⟩
theorem OwnS.moreM {A:Nat} {w w2:World} {s:St} {h:Hs} (k:OwnS A w s) (hg:Grew A 63 w w2) (hh:OwnH A 63 w2 h) (hr:Room A w2 63 4 h.a h.c):OwnS A w2 (withMoves s h):=by
 refine ⟨?_,fun i hi=>(k.rows i hi).grew hg (by decide),k.rapart,k.os.grew hg (by decide) (by decide),k.hs.grew hg (by decide),hh,hr,k.si.grew hg (by decide),k.so.grew hg (by decide),k.sf.grew hg (by decide),k.aio,k.aif,k.aof,k.ari⟩
 obtain ⟨q,a0,a1,a2,a3,a4⟩:=k.on
 exact ⟨q,a0,a1,a2,a3,hg.blk a4 (by decide)⟩
def setOut (s:St) (g:Nat) (x:Int):St:=⟨s.on,s.os,s.hs,s.ms,s.si,setRw s.so g x,s.sf⟩
def lineGood (s:St) (o l:Nat):Nat:=((s.os.z o).ls.z l).o.toNat
def heldAt (s:St) (o l b:Int):Int:=keptV s.hs.n s.hs.z o l b
def pickE (p:Pl) (s:St) (order line bin n:Int):Int :=
 if stateE p s=0 then (if heldAt s order line bin=0 then 4 else if inB n 0 (heldAt s order line bin) then (if 1048576<s.so.z (lineGood s order.toNat line.toNat)+n then 2 else 0) else 3) else stateE p s
section
variable {p:Pl} {s:St} {order line bin n:Int}
theorem pickE_state (h:¬ stateE p s=0):pickE p s order line bin n=stateE p s:=by unfold pickE;rw [if_neg h]
theorem pickE_none (h:stateE p s=0) (h1:heldAt s order line bin=0):pickE p s order line bin n=4:=by unfold pickE;rw [if_pos h,if_pos h1]
theorem pickE_range (h:stateE p s=0) (h1:¬ heldAt s order line bin=0) (h2:inB n 0 (heldAt s order line bin)=false):pickE p s order line bin n=3:=by unfold pickE;rw [if_pos h,if_neg h1,h2];rfl
theorem pickE_many (h:stateE p s=0) (h1:¬ heldAt s order line bin=0) (h2:inB n 0 (heldAt s order line bin)=true) (h3:1048576<s.so.z (lineGood s order.toNat line.toNat)+n):pickE p s order line bin n=2:=by unfold pickE;rw [if_pos h,if_neg h1,h2,if_pos h3];rfl
theorem pickE_ok (h:stateE p s=0) (h1:¬ heldAt s order line bin=0) (h2:inB n 0 (heldAt s order line bin)=true) (h3:¬ 1048576<s.so.z (lineGood s order.toNat line.toNat)+n):pickE p s order line bin n=0:=by unfold pickE;rw [if_pos h,if_neg h1,h2,if_neg h3];rfl
end
structure HoldIn (p:Pl) (s:St) (o l b:Nat):Prop where
 r:RightT p s
 kp:¬ heldAt s o l b=0
 on:o<s.os.n
 ln:l<(s.os.z o).ls.n
 bn:b<p.nb
theorem holdIn {p:Pl} {s:St} {order line bin:Int} (r:RightT p s) (h:¬ heldAt s order line bin=0):∃ o l b:Nat,order=o∧line=l∧bin=b∧HoldIn p s o l b:=by
 obtain ⟨q1,q2,-⟩:=kept_pos r.fm.hold h
 obtain ⟨m1,m2,m3⟩:=matchH_true q2
 obtain ⟨a1,a2,a3⟩:=homeless_no (r.fm.home _ q1)
 rw [m1] at a1 a2
 rw [m2] at a2
 rw [m3] at a3
 obtain ⟨o,rfl⟩:=Int.eq_ofNat_of_zero_le a1.1
 obtain ⟨l,rfl⟩:=Int.eq_ofNat_of_zero_le a2.1
 obtain ⟨b,rfl⟩:=Int.eq_ofNat_of_zero_le a3.1
 exact ⟨o,l,b,rfl,rfl,rfl,r,h,a1.2,a2.2,by omega⟩
section
variable {p:Pl} {s:St} {o l b:Nat}
theorem HoldIn.bd (h:HoldIn p s o l b):1≤heldAt s o l b∧heldAt s o l b≤200∧heldAt s o l b≤keptS s.hs.z o l s.hs.n:=by
 obtain ⟨q1,q2,q3⟩:=kept_pos h.r.fm.hold h.kp
 have e:=(kept_at h.r.fm.hold q1 q2).1
 have f:=(fineH_true (right_fine h.r.fm.hold _ q1)).2.2.2
 have nb6:=h.r.fm.sh.pl.nb6
 have b6:=h.bn
 have k:=kept_le h.r.fm.hold (o:Int) (l:Int) (b:=b) (by omega)
 unfold heldAt
 omega
theorem HoldIn.kind (h:HoldIn p s o l b):(s.os.z o).k=1:=by
 have w:=h.r.orders o h.on
 unfold wrongOrder at w
 rw [Bool.or_eq_false_iff] at w
 have wl:wrongL (s.os.z o).k ((s.os.z o).ls.z l) (keptS s.hs.z o l s.hs.n)=false:=anyB_false w.2 l h.ln
 have bd:=h.bd
 have kd:=h.r.fm.kind o h.on
 unfold wrongL at wl
 by_cases h0:(s.os.z o).k=0
 ·rw [if_pos h0] at wl
  simp only [Bool.or_eq_false_iff,Bool.not_eq_false',beq_iff_eq] at wl
  omega
 ·rw [if_neg h0] at wl
  by_cases h2:(s.os.z o).k=2
  ·rw [if_pos h2] at wl
   simp only [Bool.or_eq_false_iff,Bool.not_eq_false',beq_iff_eq] at wl
   omega
  ·omega
theorem HoldIn.good (h:HoldIn p s o l b):((s.os.z o).ls.z l).o=(lineGood s o l:Int)∧lineGood s o l<p.ns:=by
 have g:=(badLine_no (h.r.fm.line o h.on l h.ln)).1
 unfold lineGood
 omega
theorem HoldIn.sum (h:HoldIn p s o l b):((s.os.z o).ls.z l).b+((s.os.z o).ls.z l).n+keptS s.hs.z o l s.hs.n=((s.os.z o).ls.z l).l∧((s.os.z o).ls.z l).l≤200∧0≤((s.os.z o).ls.z l).b:=line_sum h.r h.on h.ln h.kind
theorem held_ge {p:Pl} {s:St} (f:Formed p s) {o l:Nat} (ho:o<s.os.n) (hl:l<(s.os.z o).ls.n) (b:Int):keptV s.hs.n s.hs.z o l b≤heldTo s b ((s.os.z o).ls.z l).o s.hs.n:=by
 rw [heldTo_sum b _ _ f.home f.hold]
 unfold heldSum
 have nn:∀ i j,0≤lineHeld s b ((s.os.z o).ls.z l).o s.hs.n i j:=fun i j=>by
  unfold lineHeld
  have:=(keptV_bd (fun j hj=>(fineH_true (right_fine f.hold j hj)).2.2.2) (i:Int) (j:Int) b).1
  split<;>omega
 have e1:lineHeld s b ((s.os.z o).ls.z l).o s.hs.n o l=keptV s.hs.n s.hs.z o l b:=if_pos rfl
 have h1:=sumTo_ge (z:=fun j=>lineHeld s b ((s.os.z o).ls.z l).o s.hs.n o j) hl (fun j _=>nn o j)
 have h2:=sumTo_ge (z:=fun i=>sumTo (fun j=>lineHeld s b ((s.os.z o).ls.z l).o s.hs.n i j) (s.os.z i).ls.n) ho (fun i _=>by
  have:∀ k,0≤sumTo (fun j=>lineHeld s b ((s.os.z o).ls.z l).o s.hs.n i j) k:=fun k=>by
   induction k with
   | zero=>exact Int.le_refl _
   | succ k ih=>simp only [sumTo];have:=nn i k;omega
  exact this _)
 omega
theorem HoldIn.there (h:HoldIn p s o l b):heldAt s o l b≤(s.on.r b).z (lineGood s o l)∧(s.on.r b).z (lineGood s o l)≤200∧heldAt s o l b+availZ s b (lineGood s o l)≤(s.on.r b).z (lineGood s o l):=by
 have g:=h.good
 have a:=(goods_no (h.r.goods _ g.2)).2 b h.bn
 have k:=held_ge h.r.fm h.on h.ln b
 rw [g.1] at k
 have ft:=(fromTo_bd (s:=s) (b:=b) (g:=(lineGood s o l:Int)) (n:=s.ms.n) h.r.fm.moveN).1
 have nm:=h.r.fm.sh.num b (by rw [h.r.fm.sh.n];exact h.bn) (lineGood s o l) g.2
 unfold availZ at a ⊢
 unfold heldAt
 omega
end
def dropHs (h:Hs) (o l b:Int):Hs:=⟨h.a,h.n - 1,h.c,dropZ h.z (dropI h.n h.z o l b)⟩
def pickS (s:St) (o l b:Nat) (n:Int):St:=setLine (setLine (setOut (setOn (withHolds s (dropHs s.hs o l b)) b (lineGood s o l) ((s.on.r b).z (lineGood s o l) - n)) (lineGood s o l) (s.so.z (lineGood s o l)+n)) o l 2 (((s.os.z o).ls.z l).b+n)) o l 3 (((s.os.z o).ls.z l).n+(heldAt s o l b - n))
def gotAll (s:St) (o:Nat):Bool := !anyB (s.os.z o).ls.n (fun j=>lacksL ((s.os.z o).ls.z j))
def pickT (p:Pl) (s:St) (o l b:Nat) (n:Int):St:=if gotAll (pickS s o l b n) o then kindS (pickS s o l b n) o 2 else takeT p b (pickS s o l b n) o l (heldAt s o l b - n)
section
variable {p:Pl} {s:St} {o l b:Nat} {n:Int}
theorem pickS_line (s:St) (o l b:Nat) (n:Int) (i j:Nat):((pickS s o l b n).os.z i).ls.z j=if i=o∧j=l then ⟨((s.os.z o).ls.z l).o,((s.os.z o).ls.z l).l,((s.os.z o).ls.z l).b+n,((s.os.z o).ls.z l).n+(heldAt s o l b - n)⟩ else (s.os.z i).ls.z j:=by
 unfold pickS
 rw [setLine_at,setLine_at]
 by_cases h:i=o∧j=l
 ·rw [if_pos h,if_pos h,if_pos h]
  obtain ⟨rfl,rfl⟩:=h
  rfl
 ·rw [if_neg h,if_neg h,if_neg h]
  rfl
theorem pickS_k (s:St) (o l b:Nat) (n:Int) (i:Nat):((pickS s o l b n).os.z i).k=(s.os.z i).k∧((pickS s o l b n).os.z i).ls.n=(s.os.z i).ls.n:=by
 unfold pickS
 rw [setLine_k,setLine_k,(setLine_n i).1,(setLine_n i).1]
 exact ⟨rfl,rfl⟩
theorem pickS_on (s:St) (o l b:Nat) (n:Int) (i:Nat):((pickS s o l b n).on.r i).n=(s.on.r i).n∧∀ j,((pickS s o l b n).on.r i).z j=if i=b∧j=lineGood s o l then (s.on.r i).z j - n else (s.on.r i).z j:=by
 show (if i=b then setRw (s.on.r i) (lineGood s o l) _ else s.on.r i).n=_∧∀ j,(if i=b then setRw (s.on.r i) (lineGood s o l) _ else s.on.r i).z j=_
 by_cases h:i=b
 ·subst h
  rw [if_pos rfl]
  refine ⟨rfl,fun j => ?_⟩
  show (if j=lineGood s o l then _ else (s.on.r i).z j)=_
  by_cases hj:j=lineGood s o l
  ·rw [if_pos hj,if_pos ⟨rfl,hj⟩,hj]
  ·rw [if_neg hj,if_neg (fun e=>hj e.2)]
 ·rw [if_neg h]
  exact ⟨rfl,fun j=>by rw [if_neg (fun e=>h e.1)]⟩
theorem HoldIn.drop (h:HoldIn p s o l b):anyB (dropHs s.hs o l b).n (badH (dropHs s.hs o l b).z)=false∧∀ x y z:Int,keptV (dropHs s.hs o l b).n (dropHs s.hs o l b).z x y z=if x=o∧y=l∧z=b then 0 else keptV s.hs.n s.hs.z x y z:=by
 obtain ⟨q1,q2,q3⟩:=kept_pos h.r.fm.hold h.kp
 have e:=(kept_at h.r.fm.hold q1 q2).2
 have e':dropI s.hs.n s.hs.z o l b<s.hs.n:=by rw [e];exact q1
 refine ⟨drop_right h.r.fm.hold e',fun x y z => ?_⟩
 have k:=drop_kept h.r.fm.hold e' x y z
 show keptV (s.hs.n - 1) (dropZ s.hs.z (dropI s.hs.n s.hs.z o l b)) x y z=_
 rw [k]
 have m:=matchH_true q2
 by_cases c:x=o∧y=l∧z=b
 ·have:matchH (s.hs.z (dropI s.hs.n s.hs.z o l b)) x y z=true:=by rw [c.1,c.2.1,c.2.2];exact q2
  rw [this,if_pos c]
  rfl
 ·rw [if_neg c]
  cases hm:matchH (s.hs.z (dropI s.hs.n s.hs.z o l b)) x y z
  ·rfl
  ·exact absurd ⟨(matchH_true hm).1.symm.trans m.1,(matchH_true hm).2.1.symm.trans m.2.1,(matchH_true hm).2.2.symm.trans m.2.2⟩ c
theorem HoldIn.keptS (h:HoldIn p s o l b) (n:Int) (x y:Int):Go.Proofs.YtbcacebifpagpagGreat.keptS (pickS s o l b n).hs.z x y (pickS s o l b n).hs.n=Go.Proofs.YtbcacebifpagpagGreat.keptS s.hs.z x y s.hs.n - if x=o∧y=l then heldAt s o l b else 0:=by
 have d:=h.drop
 have nb6:=h.r.fm.sh.pl.nb6
 have hb:=h.bn
 show Go.Proofs.YtbcacebifpagpagGreat.keptS (dropHs s.hs o l b).z x y (dropHs s.hs o l b).n=_
 rw [← kept_eq _ x y _ d.1,← kept_eq _ x y _ h.r.fm.hold]
 by_cases c:x=o∧y=l
 ·rw [if_pos c]
  have e:=sumTo_at (z:=fun z=>keptV s.hs.n s.hs.z x y z) (z':=fun z=>keptV (dropHs s.hs o l b).n (dropHs s.hs o l b).z x y z) (m:=b) (n := -heldAt s o l b) (k:=6) (by omega) (fun i hi=>by
   rw [d.2]
   by_cases hi2:i=b
   ·rw [if_pos ⟨c.1,c.2,by omega⟩,if_pos hi2,hi2,c.1,c.2]
    unfold heldAt
    omega
   ·rw [if_neg (fun e=>hi2 (by omega)),if_neg hi2,Int.add_zero])
  rw [e]
  omega
 ·rw [if_neg c,Int.sub_zero]
  exact sumTo_same fun i _=>by rw [d.2,if_neg (fun e=>c ⟨e.1,e.2.1⟩)]
structure PickIn (p:Pl) (s:St) (o l b:Nat) (n:Int):Prop where
 hd:HoldIn p s o l b
 n0:0≤n
 nh:n≤heldAt s o l b
 om:s.so.z (lineGood s o l)+n≤1048576
theorem pickIn {order line bin:Int} (h:pickE p s order line bin n=0):stateE p s=0∧∃ o l b:Nat,order=o∧line=l∧bin=b∧PickIn p s o l b n:=by
 by_cases h0:stateE p s=0
 ·by_cases h1:heldAt s order line bin=0
  ·rw [pickE_none h0 h1] at h;exact absurd h (by decide)
  ·cases h2:inB n 0 (heldAt s order line bin)
   ·rw [pickE_range h0 h1 h2] at h;exact absurd h (by decide)
   ·by_cases h3:1048576<s.so.z (lineGood s order.toNat line.toNat)+n
    ·rw [pickE_many h0 h1 h2 h3] at h;exact absurd h (by decide)
    ·obtain ⟨o,l,b,rfl,rfl,rfl,hi⟩:=holdIn (rightT h0) h1
     have:=inB_true h2
     exact ⟨h0,o,l,b,rfl,rfl,rfl,hi,this.1,this.2,by have h3':¬ 1048576<s.so.z (lineGood s o l)+n:=h3;omega⟩
 ·rw [pickE_state h0] at h;exact absurd h h0
theorem PickIn.formed (h:PickIn p s o l b n):Formed p (pickS s o l b n):=by
 have f:=h.hd.r.fm
 have d:=h.hd.drop
 have g:=h.hd.good
 have th:=h.hd.there
 have sm:=h.hd.sum
 have bd:=h.hd.bd
 have n0:=h.n0
 have nh:=h.nh
 have om:=h.om
 have rs:RightS p (pickS s o l b n).on:=⟨f.sh.pl,f.sh.n,fun i hi=>(pickS_on s o l b n i).1.trans (f.sh.len i hi),fun i hi j hj=>by
  rw [(pickS_on s o l b n i).2 j]
  have nm:=f.sh.num i hi j hj
  by_cases c:i=b∧j=lineGood s o l
  ·rw [if_pos c]
   obtain ⟨rfl,rfl⟩:=c
   omega
  ·rw [if_neg c];exact nm⟩
 refine ⟨rs,shelfE_mk (rightS f.sh0).1 rs,f.os4,f.ms8,fun i hi=>by rw [(pickS_k s o l b n i).2];exact f.lns i hi,fun i hi=>by rw [(pickS_k s o l b n i).1];exact f.kind i hi,fun i hi j hj => ?_,d.1,fun i hi => ?_,f.move,f.sin,f.son,f.sfn,f.sib,fun j hj => ?_,f.sfb⟩
 ·have hj':j<(s.os.z i).ls.n:=by rw [← (pickS_k s o l b n i).2];exact hj
  rw [pickS_line]
  by_cases c:i=o∧j=l
  ·rw [if_pos c]
   obtain ⟨b1,b2,b3,b4⟩:=badLine_no (f.line o h.hd.on l h.hd.ln)
   unfold badLine
   rw [inB_mk (by dsimp only;omega),inB_mk (by dsimp only;omega),inB_mk (by dsimp only;omega),inB_mk (by dsimp only;omega)]
   rfl
  ·rw [if_neg c]
   exact f.line i hi j hj'
 ·have hx:anyB (pickS s o l b n).hs.n (badH (pickS s o l b n).hs.z)=false:=d.1
  have e:=(kept_at hx hi (matchH_self _)).1
  have fn:=(fineH_true (right_fine hx i hi)).2.2.2
  have d2:keptV (pickS s o l b n).hs.n (pickS s o l b n).hs.z ((pickS s o l b n).hs.z i).o ((pickS s o l b n).hs.z i).l ((pickS s o l b n).hs.z i).b=_:=d.2 _ _ _
  rw [d2] at e
  split at e
  ·omega
  ·obtain ⟨q1,q2,-⟩:=kept_pos f.hold (o:=((pickS s o l b n).hs.z i).o) (l:=((pickS s o l b n).hs.z i).l) (b:=((pickS s o l b n).hs.z i).b) (by omega)
   obtain ⟨m1,m2,m3⟩:=matchH_true q2
   obtain ⟨a1,a2,a3⟩:=homeless_no (f.home _ q1)
   rw [m1] at a1 a2
   rw [m2] at a2
   rw [m3] at a3
   refine homeless_mk a1 ⟨a2.1,?_⟩ a3
   rw [(pickS_k s o l b n _).2]
   exact a2.2
 ·have sb:=f.sob j hj
  show 0≤(if j=lineGood s o l then s.so.z (lineGood s o l)+n else s.so.z j)∧(if j=lineGood s o l then s.so.z (lineGood s o l)+n else s.so.z j)≤1048576
  by_cases c:j=lineGood s o l
  ·rw [if_pos c]
   rw [c] at sb
   omega
  ·rw [if_neg c];exact sb
theorem PickIn.held (h:PickIn p s o l b n) (c g:Nat):heldTo (pickS s o l b n) c g (pickS s o l b n).hs.n=heldTo s c g s.hs.n - if c=b∧g=lineGood s o l then heldAt s o l b else 0:=by
 have f:=h.hd.r.fm
 have fx:=h.formed
 have d:=h.hd.drop
 have gd:=h.hd.good
 rw [heldTo_sum (c:Int) (g:Int) _ fx.home fx.hold,heldTo_sum (c:Int) (g:Int) _ f.home f.hold]
 have key:∀ i j,lineHeld (pickS s o l b n) c g (pickS s o l b n).hs.n i j=lineHeld s c g s.hs.n i j+if i=o∧j=l then -(if c=b∧g=lineGood s o l then heldAt s o l b else 0) else 0:=fun i j=>by
  unfold lineHeld
  have e:keptV (pickS s o l b n).hs.n (pickS s o l b n).hs.z (i:Int) (j:Int) (c:Int)=_:=d.2 i j c
  rw [e]
  have eg:(((pickS s o l b n).os.z i).ls.z j).o=((s.os.z i).ls.z j).o:=by
   rw [pickS_line]
   by_cases q:i=o∧j=l
   ·rw [if_pos q,q.1,q.2]
   ·rw [if_neg q]
  rw [eg]
  by_cases q:i=o∧j=l
  ·rw [if_pos q]
   obtain ⟨rfl,rfl⟩:=q
   rw [gd.1]
   by_cases hg:g=lineGood s i j
   ·subst hg
    rw [if_pos rfl,if_pos rfl]
    by_cases hc:c=b
    ·subst hc
     rw [if_pos ⟨rfl,rfl,rfl⟩,if_pos ⟨rfl,rfl⟩]
     unfold heldAt
     omega
    ·rw [if_neg (fun e=>hc (by omega)),if_neg (fun e=>hc e.1)]
     omega
   ·rw [if_neg (fun e=>hg (by omega)),if_neg (fun e=>hg (by omega)),if_neg (fun e=>hg e.2)]
    rfl
  ·have e3:(if (i:Int)=o∧(j:Int)=l∧(c:Int)=b then 0 else keptV s.hs.n s.hs.z (i:Int) (j:Int) (c:Int))=keptV s.hs.n s.hs.z (i:Int) (j:Int) (c:Int):=if_neg (fun e=>q ⟨by omega,by omega⟩)
   rw [if_neg q,e3,Int.add_zero]
 unfold heldSum
 have hn:(pickS s o l b n).os.n=s.os.n:=rfl
 rw [hn]
 have:=sumTo_at (z:=fun i=>sumTo (fun j=>lineHeld s c g s.hs.n i j) (s.os.z i).ls.n) (z':=fun i=>sumTo (fun j=>lineHeld (pickS s o l b n) c g (pickS s o l b n).hs.n i j) ((pickS s o l b n).os.z i).ls.n) (m:=o) (n := -(if c=b∧g=lineGood s o l then heldAt s o l b else 0)) (k:=s.os.n) h.hd.on (fun i hi=>by
  rw [(pickS_k s o l b n i).2]
  by_cases q:i=o
  ·rw [if_pos q]
   subst q
   exact sumTo_at h.hd.ln fun j hj=>by
    rw [key]
    by_cases q2:j=l
    ·rw [if_pos ⟨rfl,q2⟩,if_pos q2]
    ·rw [if_neg (fun e=>q2 e.2),if_neg q2]
  ·rw [if_neg q,Int.add_zero]
   exact sumTo_same fun j hj=>by rw [key,if_neg (fun e=>q e.1),Int.add_zero])
 rw [this]
 omega
theorem PickIn.avail (h:PickIn p s o l b n) (c g:Nat):availZ (pickS s o l b n) c g=availZ s c g+if c=b∧g=lineGood s o l then heldAt s o l b - n else 0:=by
 unfold availZ
 rw [h.held,(pickS_on s o l b n c).2 g]
 have e:fromTo (pickS s o l b n) c g (pickS s o l b n).ms.n=fromTo s c g s.ms.n:=fromTo_eq (x:=pickS s o l b n) (s:=s) (fun j _=>rfl)
 rw [e]
 by_cases q:c=b∧g=lineGood s o l
 ·rw [if_pos q,if_pos q,if_pos q];omega
 ·rw [if_neg q,if_neg q,if_neg q];omega
theorem PickIn.goods (h:PickIn p s o l b n) (g:Nat) (hg:g<p.ns):sumTo (fun i=>((pickS s o l b n).on.r i).z g) (pickS s o l b n).on.n=(pickS s o l b n).si.z g - (pickS s o l b n).so.z g+(pickS s o l b n).sf.z g∧∀ c,c<p.nb→0≤availZ (pickS s o l b n) c g:=by
 obtain ⟨a1,a2⟩:=goods_no (h.hd.r.goods g hg)
 have n0:=h.n0
 have nh:=h.nh
 refine ⟨?_,fun c hc => ?_⟩
 ·show sumTo _ s.on.n=s.si.z g - (if g=lineGood s o l then s.so.z (lineGood s o l)+n else s.so.z g)+s.sf.z g
  by_cases q:g=lineGood s o l
  ·rw [if_pos q]
   have e:=sumTo_at (z:=fun i=>(s.on.r i).z g) (z':=fun i=>((pickS s o l b n).on.r i).z g) (m:=b) (n := -n) (k:=s.on.n) (by rw [h.hd.r.fm.sh.n];exact h.hd.bn) (fun i hi=>by
    rw [(pickS_on s o l b n i).2 g]
    by_cases c:i=b
    ·rw [if_pos ⟨c,q⟩,if_pos c];omega
    ·rw [if_neg (fun e=>c e.1),if_neg c,Int.add_zero])
   rw [e,a1,q]
   omega
  ·rw [if_neg q,← a1]
   exact sumTo_same fun i hi=>by rw [(pickS_on s o l b n i).2 g,if_neg (fun e=>q e.2)]
 ·rw [h.avail]
  have:=a2 c hc
  split<;>omega
theorem PickIn.lineOK (h:PickIn p s o l b n) {i j:Nat} (hi:i<s.os.n) (hj:j<(s.os.z i).ls.n):wrongL (s.os.z i).k (((pickS s o l b n).os.z i).ls.z j) (Go.Proofs.YtbcacebifpagpagGreat.keptS (pickS s o l b n).hs.z i j (pickS s o l b n).hs.n)=false:=by
 have w:=h.hd.r.orders i hi
 unfold wrongOrder at w
 rw [Bool.or_eq_false_iff] at w
 have wl:wrongL (s.os.z i).k ((s.os.z i).ls.z j) (Go.Proofs.YtbcacebifpagpagGreat.keptS s.hs.z i j s.hs.n)=false:=anyB_false w.2 j hj
 rw [h.hd.keptS,pickS_line]
 by_cases c:i=o∧j=l
 ·rw [if_pos c,if_pos ⟨by omega,by omega⟩]
  obtain ⟨rfl,rfl⟩:=c
  have sm:=h.hd.sum
  unfold wrongL
  rw [h.hd.kind,if_neg (by decide),if_neg (by decide),Bool.not_eq_false',beq_iff_eq]
  dsimp only
  omega
 ·rw [if_neg c,if_neg (fun e=>c ⟨by omega,by omega⟩),Int.sub_zero]
  exact wl
theorem PickIn.right (h:PickIn p s o l b n) (hg:gotAll (pickS s o l b n) o=false):RightT p (pickS s o l b n):=by
 refine ⟨h.formed,fun g hg=>goods_mk (h.goods g hg).1 (h.goods g hg).2,fun i hi => ?_⟩
 have w:=h.hd.r.orders i hi
 unfold wrongOrder at w ⊢
 rw [Bool.or_eq_false_iff] at w ⊢
 rw [(pickS_k s o l b n i).1]
 refine ⟨?_,anyB_no fun j hj=>h.lineOK hi (by rw [← (pickS_k s o l b n i).2];exact hj)⟩
 by_cases c:i=o
 ·subst c
  unfold gotAll at hg
  rw [hg,Bool.and_false]
 ·rw [← w.1]
  congr 2
  rw [(pickS_k s o l b n i).2]
  refine anyB_congr fun j hj => ?_
  rw [pickS_line,if_neg (fun e=>c e.1)]
theorem PickIn.closed (h:PickIn p s o l b n) (hg:gotAll (pickS s o l b n) o=true):RightT p (kindS (pickS s o l b n) o 2):=by
 have f:=h.formed
 have kz:∀ i,((kindS (pickS s o l b n) o 2).os.z i).ls=((pickS s o l b n).os.z i).ls:=fun i=>kindO_ls _ _ _ _
 have all:∀ j,j<((pickS s o l b n).os.z o).ls.n→(((pickS s o l b n).os.z o).ls.z j).b=(((pickS s o l b n).os.z o).ls.z j).l:=fun j hj=>by
  unfold gotAll at hg
  rw [Bool.not_eq_true'] at hg
  have:=anyB_false hg j hj
  unfold lacksL at this
  simpa using this
 refine ⟨⟨f.sh,f.sh0,f.os4,f.ms8,fun i hi=>by rw [kz];exact f.lns i hi,fun i hi => ?_,fun i hi j hj=>by rw [kz] at hj ⊢;exact f.line i hi j hj,f.hold,fun i hi => ?_,f.move,f.sin,f.son,f.sfn,f.sib,f.sob,f.sfb⟩,fun g hg => ?_,fun i hi => ?_⟩
 ·show 0≤(if i=o then (⟨2,((pickS s o l b n).os.z i).ls⟩:Od) else (pickS s o l b n).os.z i).k∧(if i=o then (⟨2,((pickS s o l b n).os.z i).ls⟩:Od) else (pickS s o l b n).os.z i).k≤2
  split
  ·exact ⟨(by decide:(0:Int)≤2),(by decide:(2:Int)≤2)⟩
  ·exact f.kind i hi
 ·have e:=homeless_no (f.home i hi)
  refine homeless_mk e.1 ⟨e.2.1.1,?_⟩ e.2.2
  rw [kz]
  exact e.2.1.2
 ·refine goods_mk (h.goods g hg).1 fun c hc => ?_
  have a:=(h.goods g hg).2 c hc
  have e:availZ (kindS (pickS s o l b n) o 2) c g=availZ (pickS s o l b n) c g:=by
   unfold availZ
   rw [heldTo_eq (x:=kindS (pickS s o l b n) o 2) (s:=pickS s o l b n) (fun j _=>rfl) (fun j _=>by unfold goodH;rw [kz])]
   rw [fromTo_eq (x:=kindS (pickS s o l b n) o 2) (s:=pickS s o l b n) (fun j _=>rfl)]
   rfl
  rw [e]
  exact a
 ·have hi':i<s.os.n:=hi
  unfold wrongOrder
  rw [kz,Bool.or_eq_false_iff]
  by_cases c:i=o
  ·subst c
   have ek:((kindS (pickS s i l b n) i 2).os.z i).k=2:=by rw [kindS_at]
   rw [ek]
   refine ⟨rfl,anyB_no fun j hj => ?_⟩
   have hj':j<(s.os.z i).ls.n:=by rw [← (pickS_k s i l b n i).2];exact hj
   have wl:=h.lineOK hi' hj'
   have aj:=all j hj
   have k0:=(keptS_bd (z:=(pickS s i l b n).hs.z) i j (pickS s i l b n).hs.n fun j hj=>(fineH_true (right_fine f.hold j hj)).2.2.2).1
   have bl:=badLine_no (f.line i hi j hj)
   rw [h.hd.kind] at wl
   unfold wrongL at wl ⊢
   rw [if_neg (by decide),if_neg (by decide),Bool.not_eq_false',beq_iff_eq] at wl
   rw [if_neg (by decide),if_pos rfl]
   simp only [Bool.or_eq_false_iff,Bool.not_eq_false',beq_iff_eq]
   have e:(kindS (pickS s i l b n) i 2).hs=(pickS s i l b n).hs:=rfl
   rw [e]
   omega
  ·have ez:(kindS (pickS s o l b n) o 2).os.z i=(pickS s o l b n).os.z i:=if_neg c
   rw [ez,(pickS_k s o l b n i).1]
   have w:=h.hd.r.orders i hi'
   unfold wrongOrder at w
   rw [Bool.or_eq_false_iff] at w
   refine ⟨?_,anyB_no fun j hj=>h.lineOK hi' (by rw [← (pickS_k s o l b n i).2];exact hj)⟩
   rw [← w.1]
   congr 2
   rw [(pickS_k s o l b n i).2]
   refine anyB_congr fun j hj => ?_
   rw [pickS_line,if_neg (fun e=>c e.1)]
theorem PickIn.takeIn (h:PickIn p s o l b n):TakeIn p (pickS s o l b n) o l (heldAt s o l b - n):=by
 have e:=pickS_line s o l b n o l
 rw [if_pos ⟨rfl,rfl⟩] at e
 have bl:=badLine_no (h.hd.r.fm.line o h.hd.on l h.hd.ln)
 have g:=h.hd.good
 have n0:=h.n0
 have nh:=h.nh
 have sm:=h.hd.sum
 refine ⟨h.formed,fun c hc => ?_,h.hd.on,by rw [(pickS_k s o l b n o).2];exact h.hd.ln,by omega,?_,?_⟩
 ·rw [e]
  exact (h.goods _ (by dsimp only;omega)).2 c hc
 ·rw [e]
  dsimp only
  omega
 ·rw [e,h.hd.keptS,if_pos ⟨rfl,rfl⟩]
  dsimp only
  omega
theorem PickIn.stepIn (h:PickIn p s o l b n) (hg:gotAll (pickS s o l b n) o=false):StepIn p b (pickS s o l b n) o l (heldAt s o l b - n):=by
 have t:=h.takeIn
 have:=h.hd.bn
 exact ⟨h.right hg,t.on,t.ln,t.n0,Or.inr ⟨by rw [(pickS_k s o l b n o).1];exact h.hd.kind,t.bk⟩,Or.inr ⟨by omega,by omega⟩⟩
theorem pick_right (h:PickIn p s o l b n):RightT p (pickT p s o l b n):=by
 unfold pickT
 cases hg:gotAll (pickS s o l b n) o
 ·rw [if_neg (by decide)]
  exact Step.right (h.stepIn hg) (takeT_step h.takeIn)
 ·rw [if_pos rfl]
  exact h.closed hg
end
theorem OwnS.orderCells {A:Nat} {w:World} {s:St} {o:Nat} (h:OwnS A w s) (ho:o<s.os.n):∃ g,s.os.a=some ⟨g,0,none⟩∧A≤g∧g<w.heap.size∧w.cell? ⟨g,o*2,none⟩=some (.int .i64 (s.os.z o).k)∧w.cell? ⟨g,o*2+1,none⟩=some (.slice (s.os.z o).ls.a (s.os.z o).ls.n (s.os.z o).ls.c)∧∀ j,w.frozen? ⟨g,j,none⟩=false:=by
 obtain ⟨g,g1,g2,g3⟩:=h.os.list (by omega)
 have c0:=g3.cell (j:=o*2) (by omega)
 have e0:=flatO_at (z:=s.os.z) ho (show 0<2 by decide)
 rw [Nat.add_zero] at e0
 rw [e0] at c0
 have c1:=g3.cell (j:=o*2+1) (by omega)
 rw [flatO_at (z:=s.os.z) ho (show 1<2 by decide)] at c1
 exact ⟨g,g1,g2,g3.lt,c0,c1,fun j=>g3.frozen j⟩
structure RelK (A B7:Nat) (W0:World) (cur:St) (wk:World):Prop where
 own:OwnS A wk cur
 box:Blk wk B7 31 7 (fun j=>cur.cells.getD j default)
 bel:Below W0.heap.size W0 wk
 le:A≤wk.heap.size
theorem RelK.below {A B7:Nat} {W0 wk wj:World} {cur:St} (h:RelK A B7 W0 cur wk) (hB:Below wk.heap.size wk wj):RelK A B7 W0 cur wj :=
 ⟨h.own.below hB,h.box.below hB,h.bel.trans (hB.mono h.bel.size),Nat.le_trans h.le hB.size⟩
theorem OwnS.onCell {A:Nat} {w:World} {s:St} {b g:Nat} (h:OwnS A w s) (hb:b<s.on.n) (hg:g<(s.on.r b).n):∃ g0 G,s.on.a=some ⟨g0,0,none⟩∧g0<w.heap.size∧w.cell? ⟨g0,b,none⟩=some (.slice (some ⟨G,0,none⟩) (s.on.r b).n (s.on.r b).c)∧(s.on.r b).a=some ⟨G,0,none⟩∧A≤G∧G<w.heap.size∧(s.on.r b).n≤(s.on.r b).c∧(s.on.r b).c≤maxLen∧w.cell? ⟨G,g,none⟩=some (.int .i64 ((s.on.r b).z g))∧(∀ j,w.frozen? ⟨G,j,none⟩=false)∧s.on.n≤s.on.c∧s.on.c≤maxLen:=by
 obtain ⟨g0,a1,a2,a3,a4,a5⟩:=h.on
 obtain ⟨G,b1,b2,b3,b4,b5⟩:=h.rows b hb
 have c:=a5.cell (j:=b) hb
 rw [b1] at c
 exact ⟨g0,G,a1,a5.lt,c,b1,b2,b5.lt,b3,b4,b5.cell hg,fun j=>b5.frozen j,a3,a4⟩
theorem OwnI.cellAt {A:Nat} {w:World} {r:Rw} {g:Nat} (h:OwnI A w r) (hg:g<r.n):∃ G,r.a=some ⟨G,0,none⟩∧A≤G∧G<w.heap.size∧r.n≤r.c∧r.c≤maxLen∧w.cell? ⟨G,g,none⟩=some (.int .i64 (r.z g))∧∀ j,w.frozen? ⟨G,j,none⟩=false:=by
 obtain ⟨G,b1,b2,b3,b4,b5⟩:=h
 exact ⟨G,b1,b2,b5.lt,b3,b4,b5.cell hg,fun j=>b5.frozen j⟩
theorem OwnS.setOut {A:Nat} {w:World} {s:St} {G:Nat} (h:OwnS A w s) (ha:s.so.a=some ⟨G,0,none⟩) (g:Nat) (x:Int):OwnS A (w.setCell ⟨G,g,none⟩ (.int .i64 x)) (Go.Proofs.YtbcacebifpagpagGreat.setOut s g x):=by
 obtain ⟨q,b1,b2,b3,b4,b5⟩:=h.so
 rw [ha] at b1
 simp only [Option.some.injEq,Addr.mk.injEq,and_true] at b1
 subst b1
 refine ⟨?_,fun i hi=>(h.rows i hi).apart (fun e=>(h.ari i hi).2.1 (e.trans ha.symm)) _ _,h.rapart,h.os.other b5 (by decide) (by decide) _ _,h.hs.other b5 (by decide) _ _,h.ms.other b5 (by decide) _ _,h.msr.set _ _ _,h.si.apart (fun e=>h.aio (e.trans ha.symm)) _ _,h.so.set ha _ _,h.sf.apart (fun e=>h.aof (ha.trans e.symm)) _ _,h.aio,h.aif,h.aof,h.ari⟩
 obtain ⟨q',a0,a1,a2,a3,a4⟩:=h.on
 exact ⟨q',a0,a1,a2,a3,a4.other (a:=⟨G,g,none⟩) (Blk.ne2 a4 b5 (by decide)) _⟩
theorem setOut_same {s t:St} (h:SameT s t) (g:Nat) (x:Int):SameT (setOut s g x) (setOut t g x) :=
 ⟨h.on,h.os,h.hs,h.ms,h.si,⟨h.so.1,fun j hj=>by
  show (if j=g then x else s.so.z j)=if j=g then x else t.so.z j
  rw [h.so.2 j hj]⟩,h.sf⟩
theorem setLine_same {s t:St} (h:SameT s t) (o l c:Nat) (v:Int):SameT (setLine s o l c v) (setLine t o l c v):=by
 refine ⟨h.on,⟨h.os.1,fun i hi => ?_⟩,h.hs,h.ms,h.si,h.so,h.sf⟩
 have hi':i<s.os.n:=hi
 have e:=h.os.2 i hi'
 rw [setLine_k,setLine_k,(setLine_n i).1,(setLine_n i).1]
 refine ⟨e.1,e.2.1,fun j hj => ?_⟩
 rw [setLine_at,setLine_at,e.2.2 j hj]
theorem withHolds_same {s t:St} (h:SameT s t) {k k':Hs} (hn:k.n=k'.n) (hz:∀ j,j<k.n→k.z j=k'.z j):SameT (withHolds s k) (withHolds t k'):=⟨h.on,h.os,⟨hn,hz⟩,h.ms,h.si,h.so,h.sf⟩
theorem kindS_same {s t:St} (h:SameT s t) (o:Nat) (v:Int):SameT (kindS s o v) (kindS t o v):=by
 refine ⟨h.on,⟨h.os.1,fun i hi => ?_⟩,h.hs,h.ms,h.si,h.so,h.sf⟩
 have e:=h.os.2 i hi
 show (if i=o then (⟨v,(s.os.z i).ls⟩:Od) else s.os.z i).k=(if i=o then (⟨v,(t.os.z i).ls⟩:Od) else t.os.z i).k∧((kindO s.os o v).z i).ls.n=((kindO t.os o v).z i).ls.n∧∀ j,j<((kindO s.os o v).z i).ls.n→((kindO s.os o v).z i).ls.z j=((kindO t.os o v).z i).ls.z j
 rw [kindO_ls,kindO_ls]
 refine ⟨?_,e.2⟩
 by_cases c:i=o
 ·rw [if_pos c,if_pos c]
 ·rw [if_neg c,if_neg c];exact e.1
def pickW (s:St) (h:Hs) (o l b g:Nat) (n k:Int):St:=setLine (setLine (setOut (setOn (withHolds s h) b g ((s.on.r b).z g - n)) g (s.so.z g+n)) o l 2 (((s.os.z o).ls.z l).b+n)) o l 3 (((s.os.z o).ls.z l).n+(k - n))
theorem pickW_same {p:Pl} {x s:St} (e:SameT x s) {o l b:Nat} {n:Int} (hI:HoldIn p s o l b) {h:Hs} (hn:h.n=(dropHs s.hs o l b).n) (hz:∀ j,j<h.n→h.z j=(dropHs s.hs o l b).z j):SameT (pickW x h o l b (lineGood s o l) n (heldAt s o l b)) (pickS s o l b n):=by
 have g:=hI.good
 have e1:(x.on.r b).z (lineGood s o l)=(s.on.r b).z (lineGood s o l):=e.num hI.r.fm hI.bn g.2
 have e2:x.so.z (lineGood s o l)=s.so.z (lineGood s o l):=e.so.2 _ (by rw [e.so.1,hI.r.fm.son];exact g.2)
 have e3:=e.line hI.on hI.ln
 unfold pickW pickS
 rw [e1,e2,e3]
 exact setLine_same (setLine_same (setOut_same (setOn_same (withHolds_same e hn hz) _ _ _) _ _) _ _ _ _) _ _ _ _
theorem StepIn.same {p:Pl} {but:Int} {y y':St} {i j:Nat} {n:Int} (h:StepIn p but y i j n) (e:SameT y' y):StepIn p but y' i j n:=by
 have ho:i<y'.os.n:=by rw [e.os.1];exact h.on
 have k:=e.os.2 i ho
 refine ⟨e.right h.r,ho,by rw [k.2.1];exact h.ln,h.n0,?_,h.bt⟩
 rw [k.1,e.line h.on h.ln]
 exact h.kd
theorem gotAll_same {x s:St} (e:SameT x s) {o:Nat} (ho:o<s.os.n):gotAll x o=gotAll s o:=by
 have k:=e.os.2 o (by rw [e.os.1];exact ho)
 unfold gotAll
 rw [k.2.1]
 congr 1
 exact anyB_congr fun j hj=>by rw [k.2.2 j (by rw [k.2.1];exact hj)]
abbrev BinX (p:Pl) (f:Bool):={ k:Nat // k<p.nb∧(p.zb k).front=f }
def frX (p:Pl) (f:Bool):Nat→List (BinX p f)
 | 0=>[]
 | k+1=>frX p f k++(if h:k<p.nb∧(p.zb k).front=f then [⟨k,h⟩] else [])
theorem frX_hit {p:Pl} {f:Bool} {k:Nat} (h:k<p.nb∧(p.zb k).front=f):frX p f (k+1)=frX p f k++[⟨k,h⟩]:=by
 simp only [frX];rw [dif_pos h]
theorem frX_miss {p:Pl} {f:Bool} {k:Nat} (h:¬ (p.zb k).front=f):frX p f (k+1)=frX p f k:=by
 simp only [frX];rw [dif_neg (fun e=>h e.2),List.append_nil]
theorem frX_len (p:Pl) (f:Bool) (k:Nat):(frX p f k).length≤k:=by
 induction k with
 | zero=>exact Nat.le_refl _
 | succ k ih =>
  by_cases h:k<p.nb∧(p.zb k).front=f
  ·rw [frX_hit h,List.length_append];simp;omega
  ·simp only [frX];rw [dif_neg h,List.append_nil];omega
theorem frX_prefix (p:Pl) (f:Bool) {k m:Nat} (h:k≤m):frX p f k <+: frX p f m:=by
 induction m with
 | zero=>rw [show k=0 by omega];exact List.prefix_refl _
 | succ m ih =>
  by_cases hk:k=m+1
  ·rw [hk];exact List.prefix_refl _
  ·exact (ih (by omega)).trans (List.prefix_append _ _)
def addMove (s:St) (m:Hd):St:=withMoves s ⟨s.ms.a,s.ms.n+1,s.ms.c,fun i=>if i=s.ms.n then m else s.ms.z i⟩
def fillN (p:Pl) (s:St) (b g f:Nat):Int:=min (min ((p.zb b).high - lyingZ s b g) (availZ s f g)) ((freeZ p s b).tdiv (p.zs g))
def fillOne (p:Pl) (b g f:Nat) (s:St):St:=if s.ms.n<8∧1≤fillN p s b g f then addMove s ⟨g,f,b,fillN p s b g f⟩ else s
def fillF (p:Pl) (b g:Nat) (L:List (BinX p false)) (s:St):St:=L.foldl (fun y f=>fillOne p b g f.1 y) s
def fillG (p:Pl) (b:Nat):Nat→St→St
 | 0,s=>s
 | g+1,s=>if (p.zb b).low≤lyingZ (fillG p b g s) b g then fillG p b g s else fillF p b g (frX p false p.nb) (fillG p b g s)
def fillB (p:Pl) (L:List (BinX p true)) (s:St):St:=L.foldl (fun y b=>fillG p b.1 p.ns y) s
def fillT (p:Pl) (s:St):St:=fillB p (frX p true p.nb) s
theorem fillF_snoc (p:Pl) (b g:Nat) (L:List (BinX p false)) (f:BinX p false) (s:St):fillF p b g (L++[f]) s=fillOne p b g f.1 (fillF p b g L s):=by
 unfold fillF;rw [List.foldl_append];rfl
theorem fillB_snoc (p:Pl) (L:List (BinX p true)) (b:BinX p true) (s:St):fillB p (L++[b]) s=fillG p b.1 p.ns (fillB p L s):=by
 unfold fillB;rw [List.foldl_append];rfl
theorem fillG_low {p:Pl} {b g:Nat} {s:St} (h:(p.zb b).low≤lyingZ (fillG p b g s) b g):fillG p b (g+1) s=fillG p b g s:=by
 simp only [fillG];rw [if_pos h]
theorem fillG_go {p:Pl} {b g:Nat} {s:St} (h:¬ (p.zb b).low≤lyingZ (fillG p b g s) b g):fillG p b (g+1) s=fillF p b g (frX p false p.nb) (fillG p b g s):=by
 simp only [fillG];rw [if_neg h]
theorem fillOne_full {p:Pl} {b g f:Nat} {s:St} (h:8≤s.ms.n):fillOne p b g f s=s:=if_neg (by omega)
theorem fillF_full {p:Pl} {b g:Nat} {s:St} (h:8≤s.ms.n):∀ L,fillF p b g L s=s
 | []=>rfl
 | f :: L=>by
  have:fillF p b g (f :: L) s=fillF p b g L (fillOne p b g f.1 s):=rfl
  rw [this,fillOne_full h]
  exact fillF_full h L
theorem fillG_full {p:Pl} {b:Nat} {s:St} (h:8≤s.ms.n):∀ g,fillG p b g s=s
 | 0=>rfl
 | g+1=>by
  have ih:=fillG_full (p:=p) (b:=b) h g
  simp only [fillG]
  rw [ih,fillF_full h]
  split<;>rfl
theorem fillB_full {p:Pl} {s:St} (h:8≤s.ms.n):∀ L,fillB p L s=s
 | []=>rfl
 | b :: L=>by
  have:fillB p (b :: L) s=fillB p L (fillG p b.1 p.ns s):=rfl
  rw [this,fillG_full h]
  exact fillB_full h L
theorem fillF_end {p:Pl} {b g:Nat} {s y:St} {L M:List (BinX p false)} (hL:L <+: M) (e:fillF p b g L s=y) (h:8≤y.ms.n):fillF p b g M s=y:=by
 obtain ⟨R,rfl⟩:=hL
 have:fillF p b g (L++R) s=fillF p b g R (fillF p b g L s):=List.foldl_append
 rw [this,e,fillF_full h]
theorem fillG_end {p:Pl} {b:Nat} {s y:St} {k:Nat} (e:fillG p b k s=y) (h:8≤y.ms.n):∀ {m:Nat},k≤m→fillG p b m s=y
 | 0,hm=>by rw [show k=0 by omega] at e;exact e
 | m+1,hm=>by
  by_cases hk:k=m+1
  ·rw [← hk];exact e
  ·have ih:=fillG_end e h (m:=m) (by omega)
   simp only [fillG]
   rw [ih,fillF_full h]
   split<;>rfl
theorem fillB_end {p:Pl} {s y:St} {L M:List (BinX p true)} (hL:L <+: M) (e:fillB p L s=y) (h:8≤y.ms.n):fillB p M s=y:=by
 obtain ⟨R,rfl⟩:=hL
 have:fillB p (L++R) s=fillB p R (fillB p L s):=List.foldl_append
 rw [this,e,fillB_full h]
section
variable {p:Pl} {s y:St} {m:Hd} {b g f:Nat}
theorem addMove_at (s:St) (m:Hd) {j:Nat} (h:j<s.ms.n):(addMove s m).ms.z j=s.ms.z j:=if_neg (by omega)
theorem addMove_last (s:St) (m:Hd):(addMove s m).ms.z s.ms.n=m:=if_pos rfl
theorem addMove_from (s:St) (m:Hd) (b g:Int):fromTo (addMove s m) b g (addMove s m).ms.n=fromTo s b g s.ms.n+if m.l=b∧m.o=g then m.n else 0:=by
 show fromTo (addMove s m) b g (s.ms.n+1)=_
 simp only [fromTo]
 rw [addMove_last,fromTo_eq (x:=addMove s m) (s:=s) (k:=s.ms.n) fun j hj=>addMove_at s m hj]
theorem addMove_held (s:St) (m:Hd) (b g:Int) (k:Nat):heldTo (addMove s m) b g k=heldTo s b g k:=heldTo_eq (fun j hj=>rfl) (fun j hj=>rfl)
theorem addMove_avail (s:St) (m:Hd) (b g:Nat):availZ (addMove s m) b g=availZ s b g - if m.l=(b:Int)∧m.o=(g:Int) then m.n else 0:=by
 unfold availZ
 rw [addMove_from]
 rw [show heldTo (addMove s m) b g (addMove s m).hs.n=heldTo s b g s.hs.n from addMove_held s m b g s.hs.n]
 rw [show ((addMove s m).on.r b).z g=(s.on.r b).z g from rfl]
 omega
theorem comingTo_eq {x s:St} {b g:Int}:∀ {k:Nat},(∀ j,j<k→x.ms.z j=s.ms.z j)→comingTo x b g k=comingTo s b g k
 | 0,_=>rfl
 | k+1,h=>by
  simp only [comingTo]
  rw [comingTo_eq (k:=k) fun j hj=>h j (by omega),h k (by omega)]
theorem addMove_lying (s:St) (m:Hd) (b g:Nat):lyingZ (addMove s m) b g=lyingZ s b g+if m.b=(b:Int)∧m.o=(g:Int) then m.n else 0:=by
 unfold lyingZ
 have:comingTo (addMove s m) b g (addMove s m).ms.n=comingTo s b g s.ms.n+if m.b=(b:Int)∧m.o=(g:Int) then m.n else 0:=by
  show comingTo (addMove s m) b g (s.ms.n+1)=_
  simp only [comingTo]
  rw [addMove_last,comingTo_eq (x:=addMove s m) (s:=s) (k:=s.ms.n) fun j hj=>addMove_at s m hj]
 rw [this,show ((addMove s m).on.r b).z g=(s.on.r b).z g from rfl,Int.add_assoc]
theorem addMove_free (p:Pl) (s:St) (m:Hd) (b:Nat):freeZ p (addMove s m) b=freeZ p s b - if m.b=(b:Int) then m.n*p.zs m.o.toNat else 0:=by
 unfold freeZ
 have:takeTo p (addMove s m) b (addMove s m).ms.n=takeTo p s b s.ms.n+if m.b=(b:Int) then m.n*p.zs m.o.toNat else 0:=by
  show takeTo p (addMove s m) b (s.ms.n+1)=_
  simp only [takeTo]
  rw [addMove_last,takeTo_eq (x:=addMove s m) (s:=s) (k:=s.ms.n) fun j hj=>addMove_at s m hj]
 rw [this,show (addMove s m).on=s.on from rfl]
 omega
theorem badMove_mk (h1:0≤m.o∧m.o<p.ns) (h2:0≤m.l∧m.l<p.nb) (h3:0≤m.b∧m.b<p.nb) (h4:¬ m.l=m.b) (h5:1≤m.n∧m.n≤200):badMove p m=false:=by
 unfold badMove
 rw [inB_mk (by omega),inB_mk (by omega),inB_mk (by omega),inB_mk (by omega)]
 simpa using h4
theorem addMove_right (r:RightT p s) (hm:s.ms.n<8) (hg:g<p.ns) (hf:f<p.nb) (hb:b<p.nb) (hne:¬ f=b) {n:Int} (h1:1≤n) (h2:n≤200) (h3:n≤availZ s f g):RightT p (addMove s ⟨g,f,b,n⟩):=by
 have F:=r.fm
 refine ⟨⟨F.sh,F.sh0,F.os4,by show s.ms.n+1≤8;omega,F.lns,F.kind,F.line,F.hold,F.home,fun i hi => ?_,F.sin,F.son,F.sfn,F.sib,F.sob,F.sfb⟩,fun j hj => ?_,r.orders⟩
 ·have hi':i<s.ms.n+1:=hi
  by_cases h:i=s.ms.n
  ·rw [h,addMove_last]
   refine badMove_mk ⟨?_,?_⟩ ⟨?_,?_⟩ ⟨?_,?_⟩ ?_ ⟨h1,h2⟩<;>simp<;>omega
  ·rw [addMove_at s _ (by omega)]
   exact F.move i (by omega)
 ·obtain ⟨a1,a2⟩:=goods_no (r.goods j hj)
  refine goods_mk a1 fun i hi => ?_
  rw [addMove_avail]
  have:=a2 i hi
  by_cases h:(f:Int)=(i:Int)∧(g:Int)=(j:Int)
  ·rw [if_pos h]
   have e1:f=i:=by omega
   have e2:g=j:=by omega
   subst e1 e2
   show 0≤availZ s f g - n
   omega
  ·rw [if_neg h];omega
theorem addMove_same {x y:St} (h:SameT x y) (m:Hd) {k:Hs} (hn:k.n=x.ms.n+1) (hz:∀ j,j<x.ms.n→k.z j=x.ms.z j) (hl:k.z x.ms.n=m):SameT (withMoves x k) (addMove y m):=by
 refine ⟨h.on,h.os,h.hs,⟨?_,fun j hj => ?_⟩,h.si,h.so,h.sf⟩
 ·show k.n=y.ms.n+1
  rw [hn,h.ms.1]
 ·have hj':j<x.ms.n+1:=by rw [← hn];exact hj
  show k.z j=if j=y.ms.n then m else y.ms.z j
  rw [← h.ms.1]
  by_cases e:j=x.ms.n
  ·rw [if_pos e,e];exact hl
  ·rw [if_neg e,hz j (by omega)]
   exact h.ms.2 j (by omega)
structure FillEnd (p:Pl) (s y:St):Prop where
 r:RightT p y
 eq:y=withMoves s y.ms
 ge:s.ms.n≤y.ms.n
 pre:∀ k,k<s.ms.n→y.ms.z k=s.ms.z k
 new:∀ k,s.ms.n≤k→k<y.ms.n→∃ b g f:Nat,(y.ms.z k).o=g∧(y.ms.z k).l=f∧(y.ms.z k).b=b∧f<p.nb∧b<p.nb∧g<p.ns∧(p.zb f).front=false∧(p.zb b).front=true∧lyingZ y b g≤(p.zb b).high
 free:∀ b,b<p.nb→freeZ p y b≤freeZ p s b∧(freeZ p y b<0→freeZ p y b=freeZ p s b)
theorem FillEnd.refl (r:RightT p s):FillEnd p s s:=⟨r,rfl,Nat.le_refl _,fun _ _=>rfl,fun k h1 h2=>absurd h2 (by omega),fun b hb=>⟨Int.le_refl _,fun _=>rfl⟩⟩
theorem tdiv_le {a z n:Int} (hz:1≤z) (hn:1≤n) (h:n≤a.tdiv z):n*z≤a:=by
 by_cases ha:0≤a
 ·rw [Int.tdiv_eq_ediv_of_nonneg ha] at h
  exact Int.le_trans (Int.mul_le_mul_of_nonneg_right h (by omega)) (Int.ediv_mul_le a (by omega))
 ·have h1:a.tdiv z = - ((-a).tdiv z):=by rw [Int.neg_tdiv];omega
  have h2:0≤(-a).tdiv z:=Int.tdiv_nonneg (by omega) (by omega)
  omega
theorem fillN_le (p:Pl) (s:St) (b g f:Nat):fillN p s b g f≤(p.zb b).high - lyingZ s b g∧fillN p s b g f≤availZ s f g∧fillN p s b g f≤(freeZ p s b).tdiv (p.zs g):=by
 unfold fillN
 omega
theorem fillN_bd (r:RightT p s) (hg:g<p.ns) (hb:b<p.nb):fillN p s b g f≤200:=by
 have F:=r.fm
 have h1:=(fillN_le p s b g f).1
 have h2:0≤lyingZ s b g:=by
  unfold lyingZ
  have:=(F.sh.num b (by rw [F.sh.n];exact hb) g hg).1
  have:=(comingTo_bd (s:=s) (b:=b) (g:=g) F.moveN).1
  omega
 have h3:=F.sh.pl.bins b hb
 rw [badBin_eq] at h3
 simp only [Bool.or_eq_false_iff,Bool.not_eq_false'] at h3
 have:=inB_true h3.1.2
 omega
theorem FillEnd.step (h:FillEnd p s y) (hb:b<p.nb) (hbf:(p.zb b).front=true) (hg:g<p.ns) (hf:f<p.nb) (hff:(p.zb f).front=false):FillEnd p s (fillOne p b g f y):=by
 unfold fillOne
 by_cases c:y.ms.n<8∧1≤fillN p y b g f
 ·rw [if_pos c]
  have le:=fillN_le p y b g f
  have hne:¬ f=b:=fun e=>by rw [e,hbf] at hff;cases hff
  have bd:=fillN_bd (f:=f) h.r hg hb
  obtain ⟨c1,c2⟩:=c
  generalize fillN p y b g f=n at *
  refine ⟨addMove_right h.r c1 hg hf hb hne c2 bd le.2.1,?_,by show s.ms.n≤y.ms.n+1;have:=h.ge;omega,fun k hk => ?_,fun k k1 k2 => ?_,fun c hc => ?_⟩
  ·rw [addMove];conv=>lhs;rw [h.eq]
   rfl
  ·rw [addMove_at y _ (by have:=h.ge;omega)];exact h.pre k hk
  ·have k2':k<y.ms.n+1:=k2
   by_cases e:k=y.ms.n
   ·rw [e,addMove_last]
    refine ⟨b,g,f,rfl,rfl,rfl,hf,hb,hg,hff,hbf,?_⟩
    rw [addMove_lying,if_pos ⟨rfl,rfl⟩]
    have:=le.1
    show lyingZ y b g+n≤_
    omega
   ·rw [addMove_at y _ (by omega)]
    obtain ⟨b',g',f',q1,q2,q3,q4,q5,q6,q7,q8,q9⟩:=h.new k k1 (by omega)
    refine ⟨b',g',f',q1,q2,q3,q4,q5,q6,q7,q8,?_⟩
    rw [addMove_lying]
    by_cases e2:(b:Int)=(b':Int)∧(g:Int)=(g':Int)
    ·rw [if_pos e2]
     have e3:b=b':=by omega
     have e4:g=g':=by omega
     subst e3 e4
     have:=le.1
     show lyingZ y b g+n≤_
     omega
    ·rw [if_neg e2];omega
  ·rw [addMove_free]
   obtain ⟨u1,u2⟩:=h.free c hc
   by_cases e:(b:Int)=(c:Int)
   ·rw [if_pos e]
    have e3:b=c:=by omega
    subst e3
    have hz:=(h.r.fm.sh.pl.sizes g hg).1
    have:=tdiv_le hz c2 le.2.2
    have h0:0≤n*p.zs g:=Int.mul_nonneg (by omega) (by omega)
    show freeZ p y b - n*p.zs (g:Int).toNat≤_∧(freeZ p y b - n*p.zs (g:Int).toNat<0→_)
    rw [Int.toNat_natCast]
    omega
   ·rw [if_neg e,Int.sub_zero];exact ⟨u1,u2⟩
 ·rw [if_neg c];exact h
theorem FillEnd.F (h:FillEnd p s y) (hb:b<p.nb) (hbf:(p.zb b).front=true) (hg:g<p.ns):∀ (L:List (BinX p false)),FillEnd p s (fillF p b g L y):=by
 intro L
 induction L generalizing y with
 | nil=>exact h
 | cons f L ih=>exact ih (h.step hb hbf hg f.2.1 f.2.2)
theorem FillEnd.G (h:FillEnd p s y) (hb:b<p.nb) (hbf:(p.zb b).front=true):∀ {g:Nat},g≤p.ns→FillEnd p s (fillG p b g y)
 | 0,_=>h
 | g+1,hg=>by
  have ih:=FillEnd.G h hb hbf (g:=g) (by omega)
  simp only [fillG]
  split
  ·exact ih
  ·exact ih.F hb hbf (by omega) _
theorem FillEnd.B (h:FillEnd p s y):∀ (L:List (BinX p true)),FillEnd p s (fillB p L y):=by
 intro L
 induction L generalizing y with
 | nil=>exact h
 | cons b L ih=>exact ih (h.G b.2.1 b.2.2 (Nat.le_refl _))
theorem fill_ends (r:RightT p s):FillEnd p s (fillT p s):=(FillEnd.refl r).B _
end
theorem SameT.lying {x t:St} {p:Pl} (h:SameT x t) (f:Formed p t) {b g:Nat} (hb:b<p.nb) (hg:g<p.ns):lyingZ x b g=lyingZ t b g:=by
 unfold lyingZ
 rw [h.num f hb hg,h.ms.1,comingTo_eq (x:=x) (s:=t) fun j hj=>h.ms.2 j (by rw [h.ms.1];exact hj)]
theorem fillN_same {p:Pl} {x t:St} (h:SameT x t) (F:Formed p t) {b g f:Nat} (hb:b<p.nb) (hg:g<p.ns) (hf:f<p.nb):fillN p x b g f=fillN p t b g f:=by
 unfold fillN
 rw [h.lying F hb hg,h.avail F hf hg,h.free F hb]
def delM (h:Hs) (k:Nat):Hs:=⟨h.a,h.n - 1,h.c,fun i=>if i<k then h.z i else h.z (i+1)⟩
def movedE (p:Pl) (s:St) (k n:Int):Int :=
 if stateE p s=0 then (if inB k 0 ((s.ms.n:Int) - 1) then (if inB n 0 (s.ms.z k.toNat).n then (if 200<(s.on.r (s.ms.z k.toNat).b.toNat).z (s.ms.z k.toNat).o.toNat+n then 2 else 0) else 3) else 4) else stateE p s
def movedW (s:St) (h:Hs) (f b g:Nat) (n:Int):St:=setOn (setOn (withMoves s h) f g ((s.on.r f).z g - n)) b g ((s.on.r b).z g+n)
def movedT (s:St) (k:Nat) (n:Int):St:=movedW s (delM s.ms k) (s.ms.z k).l.toNat (s.ms.z k).b.toNat (s.ms.z k).o.toNat n
section
variable {p:Pl} {s x:St} {k:Nat} {n:Int}
theorem movedE_state {k:Int} (h:¬ stateE p s=0):movedE p s k n=stateE p s:=by unfold movedE;rw [if_neg h]
theorem movedE_none {k:Int} (h:stateE p s=0) (h1:inB k 0 ((s.ms.n:Int) - 1)=false):movedE p s k n=4:=by unfold movedE;rw [if_pos h,h1];rfl
theorem movedE_range {k:Int} (h:stateE p s=0) (h1:inB k 0 ((s.ms.n:Int) - 1)=true) (h2:inB n 0 (s.ms.z k.toNat).n=false):movedE p s k n=3:=by unfold movedE;rw [if_pos h,h1,h2];rfl
theorem movedE_many {k:Int} (h:stateE p s=0) (h1:inB k 0 ((s.ms.n:Int) - 1)=true) (h2:inB n 0 (s.ms.z k.toNat).n=true) (h3:200<(s.on.r (s.ms.z k.toNat).b.toNat).z (s.ms.z k.toNat).o.toNat+n):movedE p s k n=2:=by unfold movedE;rw [if_pos h,h1,h2,if_pos h3];rfl
theorem movedE_ok {k:Int} (h:stateE p s=0) (h1:inB k 0 ((s.ms.n:Int) - 1)=true) (h2:inB n 0 (s.ms.z k.toNat).n=true) (h3:¬ 200<(s.on.r (s.ms.z k.toNat).b.toNat).z (s.ms.z k.toNat).o.toNat+n):movedE p s k n=0:=by unfold movedE;rw [if_pos h,h1,h2,if_neg h3];rfl
structure MovedIn (p:Pl) (s:St) (k f b g:Nat) (N n:Int):Prop where
 r:RightT p s
 kn:k<s.ms.n
 m:s.ms.z k=⟨g,f,b,N⟩
 fn:f<p.nb
 bn:b<p.nb
 gn:g<p.ns
 ne:¬ f=b
 n0:0≤n
 nN:n≤N
 N1:1≤N
 N2:N≤200
 to:(s.on.r b).z g+n≤200
theorem movedIn {k:Int} (h:movedE p s k n=0):stateE p s=0∧∃ (i f b g:Nat) (N:Int),k=i∧MovedIn p s i f b g N n:=by
 by_cases h0:stateE p s=0
 ·refine ⟨h0,?_⟩
  cases h1:inB k 0 ((s.ms.n:Int) - 1)
  ·rw [movedE_none h0 h1] at h;cases h
  ·cases h2:inB n 0 (s.ms.z k.toNat).n
   ·rw [movedE_range h0 h1 h2] at h;cases h
   ·by_cases h3:200<(s.on.r (s.ms.z k.toNat).b.toNat).z (s.ms.z k.toNat).o.toNat+n
    ·rw [movedE_many h0 h1 h2 h3] at h;cases h
    ·have r:=rightT h0
     have q1:=inB_true h1
     have q2:=inB_true h2
     have hk:k.toNat<s.ms.n:=by omega
     obtain ⟨u1,u2,u3,u4,u5,u6⟩:=badMove_no (r.fm.move k.toNat hk)
     refine ⟨k.toNat,(s.ms.z k.toNat).l.toNat,(s.ms.z k.toNat).b.toNat,(s.ms.z k.toNat).o.toNat,(s.ms.z k.toNat).n,by omega,r,hk,?_,by omega,by omega,by omega,by omega,q2.1,q2.2,u5,u6,by omega⟩
     rw [Int.toNat_of_nonneg u1.1,Int.toNat_of_nonneg u2.1,Int.toNat_of_nonneg u3.1]
 ·rw [movedE_state h0] at h;exact absurd h h0
end
section
variable {p:Pl} {s x:St} {k f b g:Nat} {N n:Int}
theorem MovedIn.T (h:MovedIn p s k f b g N n):movedT s k n=movedW s (delM s.ms k) f b g n:=by
 unfold movedT
 rw [h.m]
 simp only [Int.toNat_natCast]
theorem setOn_num (s:St) (b g:Nat) (v:Int) (i j:Nat):((setOn s b g v).on.r i).z j=if i=b∧j=g then v else (s.on.r i).z j:=by
 show (if i=b then setRw (s.on.r i) g v else s.on.r i).z j=_
 by_cases hi:i=b
 ·rw [if_pos hi]
  show (if j=g then v else (s.on.r i).z j)=_
  by_cases hj:j=g
  ·rw [if_pos hj,if_pos ⟨hi,hj⟩]
  ·rw [if_neg hj,if_neg (fun e=>hj e.2)]
 ·rw [if_neg hi,if_neg (fun e=>hi e.1)]
theorem setOn_len (s:St) (b g:Nat) (v:Int) (i:Nat):((setOn s b g v).on.r i).n=(s.on.r i).n:=by
 show (if i=b then setRw (s.on.r i) g v else s.on.r i).n=_
 by_cases hi:i=b
 ·rw [if_pos hi];rfl
 ·rw [if_neg hi]
theorem moved_num (h:MovedIn p s k f b g N n) (i j:Nat):((movedT s k n).on.r i).z j=(s.on.r i).z j+if j=g then (if i=b then n else if i=f then -n else 0) else 0:=by
 have hne:=h.ne
 rw [h.T,movedW,setOn_num,setOn_num,show (withMoves s (delM s.ms k)).on=s.on from rfl]
 by_cases hj:j=g
 ·subst hj
  by_cases hb:i=b
  ·subst hb;simp
  ·by_cases hf:i=f
   ·subst hf;simp [hb];omega
   ·simp [hb,hf]
 ·simp [hj]
theorem moved_len (h:MovedIn p s k f b g N n) (i:Nat):((movedT s k n).on.r i).n=(s.on.r i).n:=by
 rw [h.T,movedW,setOn_len,setOn_len];rfl
theorem moved_ms (h:MovedIn p s k f b g N n):(movedT s k n).ms=delM s.ms k:=rfl
theorem del_from {b g:Int} {x s:St} (hz:∀ i,x.ms.z i=if i<k then s.ms.z i else s.ms.z (i+1)):∀ m,(m≤k→fromTo x b g m=fromTo s b g m)∧(k≤m→fromTo x b g m+(if (s.ms.z k).l=b∧(s.ms.z k).o=g then (s.ms.z k).n else 0)=fromTo s b g (m+1))
 | 0=>⟨fun _=>rfl,fun h=>by
  rw [show k=0 by omega]
  simp [fromTo]⟩
 | m+1=>by
  obtain ⟨h1,h2⟩:=del_from (b:=b) (g:=g) hz m
  refine ⟨fun h => ?_,fun h => ?_⟩
  ·have e0:x.ms.z m=s.ms.z m:=by rw [hz m];exact if_pos (by omega)
   simp only [fromTo]
   rw [h1 (by omega),e0]
  ·by_cases e:k=m+1
   ·have:fromTo x b g (m+1)=fromTo s b g (m+1):=by
     have e0:x.ms.z m=s.ms.z m:=by rw [hz m];exact if_pos (by omega)
     simp only [fromTo]
     rw [h1 (by omega),e0]
    rw [this,e]
    simp only [fromTo]
   ·have a:=h2 (by omega)
    have e1:fromTo x b g (m+1)=fromTo x b g m+(if (s.ms.z (m+1)).l=b∧(s.ms.z (m+1)).o=g then (s.ms.z (m+1)).n else 0):=by
     have e0:x.ms.z m=s.ms.z (m+1):=by rw [hz m];exact if_neg (by omega)
     simp only [fromTo]
     rw [e0]
    have e2:fromTo s b g (m+1+1)=fromTo s b g (m+1)+(if (s.ms.z (m+1)).l=b∧(s.ms.z (m+1)).o=g then (s.ms.z (m+1)).n else 0):=rfl
    rw [e1,e2,← a]
    omega
theorem moved_from (h:MovedIn p s k f b g N n) (c j:Nat):fromTo (movedT s k n) c j (movedT s k n).ms.n+(if f=c∧g=j then N else 0)=fromTo s c j s.ms.n:=by
 have hk:=h.kn
 have:=(del_from (b:=(c:Int)) (g:=(j:Int)) (x:=movedT s k n) (s:=s) (k:=k) (fun i=>by rw [moved_ms h];rfl) (s.ms.n - 1)).2 (by omega)
 rw [show s.ms.n - 1+1=s.ms.n by omega,h.m] at this
 rw [moved_ms h]
 show fromTo (movedT s k n) c j (s.ms.n - 1)+_=_
 rw [← this]
 congr 1
 by_cases e:f=c∧g=j
 ·rw [if_pos e,if_pos (by simp [e.1,e.2])]
 ·rw [if_neg e,if_neg (by simp;omega)]
theorem moved_held (h:MovedIn p s k f b g N n) (c j:Int):heldTo (movedT s k n) c j (movedT s k n).hs.n=heldTo s c j s.hs.n:=heldTo_eq (x:=movedT s k n) (s:=s) (fun _ _=>rfl) (fun _ _=>rfl)
theorem moved_avail (h:MovedIn p s k f b g N n) (c j:Nat):availZ (movedT s k n) c j=availZ s c j+if j=g then (if c=b then n else if c=f then N - n else 0) else 0:=by
 unfold availZ
 have a:=moved_from h c j
 have hne:=h.ne
 rw [moved_held h,moved_num h,← a]
 by_cases hj:j=g
 ·subst hj
  by_cases hb:c=b
  ·subst hb;simp [hne];omega
  ·by_cases hf:c=f
   ·subst hf;simp [hb];omega
   ·have hf':¬ f=c:=fun e=>hf e.symm
    simp [hb,hf,hf']
 ·have hj':¬ g=j:=fun e=>hj e.symm
  simp [hj,hj']
theorem fromTo_ge {s:St} {b g:Int}:∀ {m:Nat},(∀ j,j<m→1≤(s.ms.z j).n∧(s.ms.z j).n≤200)→∀ {k:Nat},k<m→(s.ms.z k).l=b→(s.ms.z k).o=g→(s.ms.z k).n≤fromTo s b g m
 | m+1,h,k,hk,h1,h2=>by
  have bd:=(fromTo_bd (s:=s) (b:=b) (g:=g) (n:=m) fun j hj=>h j (by omega)).1
  by_cases e:k=m
  ·subst e
   rw [fromTo_hit h1 h2]
   omega
  ·have ih:=fromTo_ge (b:=b) (g:=g) (m:=m) (fun j hj=>h j (by omega)) (k:=k) (by omega) h1 h2
   have:=(h m (by omega)).1
   simp only [fromTo]
   split<;>omega
theorem moved_right (h:MovedIn p s k f b g N n):RightT p (movedT s k n):=by
 have r:=h.r
 have F:=r.fm
 have hf:=h.fn
 have hb:=h.bn
 have hg:=h.gn
 have n0:=h.n0
 have nN:=h.nN
 have to:=h.to
 have hne:=h.ne
 have on:N≤(s.on.r f).z g:=by
  have a:=(goods_no (r.goods g hg)).2 f hf
  have b1:=(heldTo_bd (s:=s) (b:=f) (g:=g) F.holdN).1
  have c:=fromTo_ge (s:=s) (b:=f) (g:=g) F.moveN h.kn (by rw [h.m]) (by rw [h.m])
  rw [h.m] at c
  unfold availZ at a
  have c':N≤fromTo s f g s.ms.n:=c
  omega
 have hs:RightS p (movedT s k n).on:=by
  refine ⟨F.sh.pl,F.sh.n,fun i hi=>by rw [moved_len h];exact F.sh.len i hi,fun i hi j hj => ?_⟩
  have q:=F.sh.num i hi j hj
  rw [moved_num h]
  by_cases ej:j=g
  ·subst ej
   by_cases eb:i=b
   ·subst eb;simp;omega
   ·by_cases ef:i=f
    ·subst ef;simp [eb];omega
    ·simp [eb,ef];omega
  ·simp [ej];omega
 refine ⟨⟨hs,shelfE_mk (rightS F.sh0).1 hs,F.os4,by show s.ms.n - 1≤8;have:=F.ms8;omega,F.lns,F.kind,F.line,F.hold,F.home,fun i hi => ?_,F.sin,F.son,F.sfn,F.sib,F.sob,F.sfb⟩,fun j hj => ?_,r.orders⟩
 ·have hi':i<s.ms.n - 1:=hi
  rw [moved_ms h]
  show badMove p (if i<k then s.ms.z i else s.ms.z (i+1))=false
  split
  ·exact F.move i (by omega)
  ·exact F.move (i+1) (by omega)
 ·obtain ⟨a1,a2⟩:=goods_no (r.goods j hj)
  refine goods_mk ?_ fun i hi => ?_
  ·show sumTo (fun i=>((movedT s k n).on.r i).z j) s.on.n=s.si.z j - s.so.z j+s.sf.z j
   rw [← a1]
   by_cases ej:j=g
   ·have e1:=sumTo_at (z:=fun i=>(s.on.r i).z j) (z':=fun i=>(s.on.r i).z j+if i=f then -n else 0) (m:=f) (n := -n) (k:=s.on.n) (by rw [F.sh.n];exact hf) fun i _=>rfl
    have e2:=sumTo_at (z:=fun i=>(s.on.r i).z j+if i=f then -n else 0) (z':=fun i=>((movedT s k n).on.r i).z j) (m:=b) (n:=n) (k:=s.on.n) (by rw [F.sh.n];exact hb) fun i _=>by
     rw [moved_num h,if_pos ej]
     by_cases eb:i=b
     ·have hne':¬ i=f:=by omega
      simp [eb]<;>omega
     ·simp [eb]
    omega
   ·exact sumTo_congr fun i _=>by rw [moved_num h,if_neg ej,Int.add_zero]
  ·rw [moved_avail h]
   have:=a2 i hi
   by_cases ej:j=g
   ·rw [if_pos ej]
    split
    ·omega
    ·split<;>omega
   ·rw [if_neg ej];omega
theorem withMoves_same {x t:St} (h:SameT x t) {k k':Hs} (hn:k.n=k'.n) (hz:∀ j,j<k.n→k.z j=k'.z j):SameT (withMoves x k) (withMoves t k'):=⟨h.on,h.os,h.hs,⟨hn,hz⟩,h.si,h.so,h.sf⟩
theorem movedW_same (h:MovedIn p s k f b g N n) (e:SameT x s) {q:Hs} (hn:q.n=s.ms.n - 1) (hz:∀ j,j<q.n→q.z j=(delM s.ms k).z j):SameT (movedW x q f b g n) (movedT s k n):=by
 rw [h.T]
 unfold movedW
 rw [e.num h.r.fm h.fn h.gn,e.num h.r.fm h.bn h.gn]
 exact setOn_same (setOn_same (withMoves_same e hn hz) _ _ _) _ _ _
end
def fromF (b g:Int) (m:Hd):Bool:=(m.l==b)&&(m.o==g)
def heldF (s:St) (b g:Int) (h:Hd):Bool:=(h.b==b)&&(goodH s h==g)
def cutH0 (f:Hd→Bool) (h:Hs) (m:Int):Hs:=⟨h.a,h.n,h.c,cutI f h.n m h.z⟩
def cutHs (f:Hd→Bool) (h:Hs) (m:Int):Hs:=dropH (cutH0 f h m) goneH
def moveR (s:St):List Hd:=revL s.ms.z s.ms.n
def holdR (s:St):List Hd:=revL s.hs.z s.hs.n
def moreL (x:Hd) (d:Int):Hd:=⟨x.o,x.l,x.b,x.n+d⟩
def backOs (os:Os) (q:Int→Int→Int):Os:=⟨os.a,os.n,os.c,fun i=>⟨(os.z i).k,⟨(os.z i).ls.a,(os.z i).ls.n,(os.z i).ls.c,fun j=>moreL ((os.z i).ls.z j) (q i j)⟩⟩⟩
def leftM (s:St) (b g M:Int):Int:=leftL (fromF b g) M (moveR s)
def cutQs (s:St) (b g M:Int):Int→Int→Int:=cutQ (heldF s b g) (leftM s b g M) (holdR s)
def cutS (s:St) (b g M:Int):St:=⟨s.on,backOs s.os (cutQs s b g M),cutHs (heldF s b g) s.hs (leftM s b g M),cutHs (fromF b g) s.ms M,s.si,s.so,s.sf⟩
def setFix (s:St) (g:Nat) (x:Int):St:=⟨s.on,s.os,s.hs,s.ms,s.si,s.so,setRw s.sf g x⟩
def fixOn (s:St) (b g:Nat) (seen:Int):St:=setFix (setOn s b g seen) g (s.sf.z g+(seen - (s.on.r b).z g))
def boundZ (s:St) (b g:Nat):Int:=heldTo s b g s.hs.n+fromTo s b g s.ms.n
def missZ (s:St) (b g:Nat) (seen:Int):Int:=max 0 (boundZ s b g - seen)
def countS (s:St) (b g:Nat) (seen:Int):St:=fixOn (cutS s b g (missZ s b g seen)) b g seen
def countQ (s:St) (b g:Nat) (seen:Int) (i j:Nat):Int:=cutQs s b g (missZ s b g seen) i j
def countT (p:Pl) (s:St) (b g:Nat) (seen:Int):St:=allT p b (countQ s b g seen) (relM s) s.os.n (countS s b g seen)
def countE (p:Pl) (s:St) (bin good seen:Int):Int :=
 if stateE p s=0 then (if inB bin 0 ((p.nb:Int) - 1)&&inB good 0 ((p.ns:Int) - 1)&&inB seen 0 200 then (if inB (s.sf.z good.toNat+(seen - (s.on.r bin.toNat).z good.toNat)) (-1048576) 1048576 then 0 else 2) else 3) else stateE p s
theorem fromF_iff {b g:Int} {m:Hd}:fromF b g m=true↔m.l=b∧m.o=g:=by unfold fromF;simp
theorem heldF_iff {s:St} {b g:Int} {h:Hd}:heldF s b g h=true↔h.b=b∧goodH s h=g:=by unfold heldF;simp
theorem fromF_blind (b g:Int):Blind (fromF b g):=fun _ _=>rfl
theorem heldF_blind (s:St) (b g:Int):Blind (heldF s b g):=fun _ _=>rfl
theorem from_sum (s:St) (b g:Int):∀ n,fromTo s b g n=sumB (fromF b g) (revL s.ms.z n)
 | 0=>rfl
 | n+1=>by
  show fromTo s b g n+_=sumB (fromF b g) (revL s.ms.z n)+_
  rw [from_sum s b g n]
  by_cases c:(s.ms.z n).l=b∧(s.ms.z n).o=g
  ·rw [if_pos c,if_pos (fromF_iff.2 c)]
  ·rw [if_neg c,if_neg (fun e=>c (fromF_iff.1 e))]
theorem held_sum (s:St) (b g:Int):∀ n,heldTo s b g n=sumB (heldF s b g) (revL s.hs.z n)
 | 0=>rfl
 | n+1=>by
  show heldTo s b g n+_=sumB (heldF s b g) (revL s.hs.z n)+_
  rw [held_sum s b g n]
  by_cases c:(s.hs.z n).b=b∧goodH s (s.hs.z n)=g
  ·rw [if_pos c,if_pos (heldF_iff.2 c)]
  ·rw [if_neg c,if_neg (fun e=>c (heldF_iff.1 e))]
theorem keptS_rev (z:Nat→Hd) (o l:Int):∀ n,keptS z o l n=sumB (forL o l) (revL z n)
 | 0=>rfl
 | n+1=>by
  show keptS z o l n+_=sumB (forL o l) (revL z n)+_
  rw [keptS_rev z o l n]
  by_cases c:(z n).o=o∧(z n).l=l
  ·rw [if_pos c,if_pos (forL_iff.2 c)]
  ·rw [if_neg c,if_neg (fun e=>c (forL_iff.1 e))]
theorem dropH_rev (h:Hs) (bad:Hd→Bool):revL (dropH h bad).z (dropH h bad).n=(revL h.z h.n).filter (fun x => !bad x):=by
 rw [revL_list,revL_list,List.filter_reverse]
 congr 1
 exact dropH_list h bad
theorem dropH_mem {h:Hs} {bad:Hd→Bool} {i:Nat} (hi:i<(dropH h bad).n):∃ j,j<h.n∧(dropH h bad).z i=h.z j∧bad (h.z j)=false:=by
 have hm:(dropH h bad).z i∈revL (dropH h bad).z (dropH h bad).n:=revL_has hi
 rw [dropH_rev,List.mem_filter] at hm
 obtain ⟨j,hj,e⟩:=revL_mem hm.1
 exact ⟨j,hj,e.symm,by rw [e];simpa using hm.2⟩
theorem cutHs_rev (f:Hd→Bool) (h:Hs) (m:Int):revL (cutHs f h m).z (cutHs f h m).n=flt (cutL f m (revL h.z h.n)):=by
 unfold cutHs
 rw [dropH_rev]
 show (revL (cutI f h.n m h.z) h.n).filter _=_
 rw [cutI_rev]
 rfl
theorem cutHs_mem {f:Hd→Bool} {h:Hs} {m:Int} (hm:0≤m) (hz:∀ j,j<h.n→0≤(h.z j).n) {i:Nat} (hi:i<(cutHs f h m).n):∃ j,j<h.n∧((cutHs f h m).z i).o=(h.z j).o∧((cutHs f h m).z i).l=(h.z j).l∧((cutHs f h m).z i).b=(h.z j).b∧1≤((cutHs f h m).z i).n∧((cutHs f h m).z i).n≤(h.z j).n:=by
 obtain ⟨j,hj,e,g⟩:=dropH_mem hi
 have k:=cutI_key f h.n m h.z hm hz j
 have e':(cutHs f h m).z i=cutI f h.n m h.z j:=e
 have g':goneH (cutI f h.n m h.z j)=false:=g
 rw [e']
 unfold goneH at g'
 have g2:¬ (cutI f h.n m h.z j).n=0:=by simpa using g'
 have:=k.2.1 hj
 exact ⟨j,hj,k.1.1,k.1.2.1,k.1.2.2,by omega,k.2.2⟩
theorem cutHs_right {f:Hd→Bool} {h:Hs} {m:Int} (hm:0≤m) (hr:anyB h.n (badH h.z)=false):anyB (cutHs f h m).n (badH (cutHs f h m).z)=false:=by
 have hz:∀ j,j<h.n→0≤(h.z j).n:=fun j hj=>by have:=(fineH_true (right_fine hr j hj)).2.2.2;omega
 have k:=cutI_key f h.n m h.z hm hz
 refine dropH_right' (fun i j hij hj => ?_) fun i hi hb => ?_
 ·have e:∀ q,keyH ((cutH0 f h m).z q)=keyH (h.z q):=fun q=>by
   show keyH (cutI f h.n m h.z q)=_
   unfold keyH
   rw [(k q).1.1,(k q).1.2.1,(k q).1.2.2]
  rw [e,e]
  exact right_lt hr i j hij hj
 ·have q:=k i
  have fn:=fineH_true (right_fine hr i hi)
  have g2:¬ (cutI f h.n m h.z i).n=0:=by
   have:goneH (cutI f h.n m h.z i)=false:=hb
   unfold goneH at this
   simpa using this
  have:=q.2.1 hi
  show fineH (cutI f h.n m h.z i)=true
  unfold fineH
  rw [q.1.1,q.1.2.1,q.1.2.2,inB_mk fn.1,inB_mk fn.2.1,inB_mk fn.2.2.1,inB_mk (by omega)]
  rfl
section
variable {p:Pl} {s:St} {b g M:Int}
theorem RightT.moves0 (r:RightT p s):∀ h,h∈moveR s→1≤h.n:=fun h hh=>by
 obtain ⟨j,hj,e⟩:=revL_mem hh
 have:=r.fm.moveN j hj
 rw [← e]
 omega
theorem RightT.holds0 (r:RightT p s):∀ h,h∈holdR s→1≤h.n:=fun h hh=>by
 obtain ⟨j,hj,e⟩:=revL_mem hh
 have:=r.fm.holdN j hj
 rw [← e]
 omega
theorem RightT.movesP (r:RightT p s):Pos0 (moveR s):=fun h hh=>by have:=r.moves0 h hh;omega
theorem RightT.holdsP (r:RightT p s):Pos0 (holdR s):=fun h hh=>by have:=r.holds0 h hh;omega
theorem leftM_eq (r:RightT p s) (hM:0≤M):leftM s b g M=M - min M (fromTo s b g s.ms.n)∧0≤leftM s b g M:=by
 have e:=(sumB_cut (fromF_blind b g) r.movesP hM).2
 have k:=sumB_nn (P:=fromF b g) r.movesP
 have e2:leftM s b g M=M - min M (sumB (fromF b g) (moveR s)):=e
 rw [from_sum]
 have e3:sumB (fromF b g) (revL s.ms.z s.ms.n)=sumB (fromF b g) (moveR s):=rfl
 rw [e3]
 omega
theorem cut_kept (s:St) (b g M:Int) (o l:Int):keptS (cutS s b g M).hs.z o l (cutS s b g M).hs.n=keptS s.hs.z o l s.hs.n - cutQs s b g M o l:=by
 rw [keptS_rev,keptS_rev]
 show sumB _ (revL (cutHs (heldF s b g) s.hs (leftM s b g M)).z (cutHs (heldF s b g) s.hs (leftM s b g M)).n)=_
 rw [cutHs_rev,sumB_flt,sumB_line]
 rfl
theorem cutQs_bd (r:RightT p s) (hM:0≤M) (o l:Int):0≤cutQs s b g M o l∧cutQs s b g M o l≤keptS s.hs.z o l s.hs.n:=by
 have h1:=cutQ_nn (heldF s b g) o l r.holdsP (leftM_eq (b:=b) (g:=g) r hM).2
 refine ⟨h1,?_⟩
 have e:=cut_kept s b g M o l
 have h2:0≤sumB (forL o l) (flt (cutL (heldF s b g) (leftM s b g M) (holdR s))):=by
  rw [sumB_flt]
  exact sumB_nn (cutL_pos _ r.holdsP (leftM_eq r hM).2)
 rw [keptS_rev] at e
 have e2:sumB (forL o l) (revL (cutS s b g M).hs.z (cutS s b g M).hs.n)=sumB (forL o l) (flt (cutL (heldF s b g) (leftM s b g M) (holdR s))):=by
  show sumB _ (revL (cutHs (heldF s b g) s.hs (leftM s b g M)).z (cutHs (heldF s b g) s.hs (leftM s b g M)).n)=_
  rw [cutHs_rev]
  rfl
 omega
theorem cut_held (r:RightT p s) (hM:0≤M) (b' g':Int):heldTo (cutS s b g M) b' g' (cutS s b g M).hs.n=heldTo s b' g' s.hs.n - if b'=b∧g'=g then min (leftM s b g M) (heldTo s b g s.hs.n) else 0:=by
 rw [held_sum,held_sum]
 have e1:heldF (cutS s b g M) b' g'=heldF s b' g':=rfl
 rw [e1]
 show sumB _ (revL (cutHs (heldF s b g) s.hs (leftM s b g M)).z (cutHs (heldF s b g) s.hs (leftM s b g M)).n)=_
 rw [cutHs_rev,sumB_flt]
 have eR:revL s.hs.z s.hs.n=holdR s:=rfl
 rw [eR]
 by_cases c:b'=b∧g'=g
 ·rw [if_pos c,c.1,c.2,(sumB_cut (heldF_blind s b g) r.holdsP (leftM_eq (b:=b) (g:=g) r hM).2).1,held_sum]
  rfl
 ·rw [if_neg c,Int.sub_zero]
  exact sumB_other (fun h hp=>by
   cases hf:heldF s b g h
   ·rfl
   ·have a:=heldF_iff.1 hp
    have a':=heldF_iff.1 hf
    exact absurd ⟨a.1.symm.trans a'.1,a.2.symm.trans a'.2⟩ c) (heldF_blind s b' g') _ _
theorem cut_from (r:RightT p s) (hM:0≤M) (b' g':Int):fromTo (cutS s b g M) b' g' (cutS s b g M).ms.n=fromTo s b' g' s.ms.n - if b'=b∧g'=g then min M (fromTo s b g s.ms.n) else 0:=by
 rw [from_sum,from_sum]
 show sumB _ (revL (cutHs (fromF b g) s.ms M).z (cutHs (fromF b g) s.ms M).n)=_
 rw [cutHs_rev,sumB_flt]
 have eR:revL s.ms.z s.ms.n=moveR s:=rfl
 rw [eR]
 by_cases c:b'=b∧g'=g
 ·rw [if_pos c,c.1,c.2,(sumB_cut (fromF_blind b g) r.movesP hM).1,from_sum]
  rfl
 ·rw [if_neg c,Int.sub_zero]
  exact sumB_other (fun h hp=>by
   cases hf:fromF b g h
   ·rfl
   ·have a:=fromF_iff.1 hp
    have a':=fromF_iff.1 hf
    exact absurd ⟨a.1.symm.trans a'.1,a.2.symm.trans a'.2⟩ c) (fromF_blind b' g') _ _
theorem line_kept (r:RightT p s) {i j:Nat} (hi:i<s.os.n) (hj:j<(s.os.z i).ls.n):keptS s.hs.z i j s.hs.n=0∨(s.os.z i).k=1∧((s.os.z i).ls.z j).b+((s.os.z i).ls.z j).n+keptS s.hs.z i j s.hs.n=((s.os.z i).ls.z j).l:=by
 have w:=r.orders i hi
 unfold wrongOrder at w
 rw [Bool.or_eq_false_iff] at w
 have wl:wrongL (s.os.z i).k ((s.os.z i).ls.z j) (keptS s.hs.z i j s.hs.n)=false:=anyB_false w.2 j hj
 have kd:=r.fm.kind i hi
 unfold wrongL at wl
 by_cases h0:(s.os.z i).k=0
 ·rw [if_pos h0] at wl
  simp only [Bool.or_eq_false_iff,Bool.not_eq_false',beq_iff_eq] at wl
  exact Or.inl wl.2
 ·rw [if_neg h0] at wl
  by_cases h2:(s.os.z i).k=2
  ·rw [if_pos h2] at wl
   simp only [Bool.or_eq_false_iff,Bool.not_eq_false',beq_iff_eq] at wl
   exact Or.inl wl.2
  ·rw [if_neg h2] at wl
   simp only [Bool.not_eq_false',beq_iff_eq] at wl
   exact Or.inr ⟨by omega,wl⟩
theorem cut_formed (r:RightT p s) (hM:0≤M):Formed p (cutS s b g M):=by
 have f:=r.fm
 have hz:∀ j,j<s.hs.n→0≤(s.hs.z j).n:=fun j hj=>by have:=f.holdN j hj;omega
 have mz:∀ j,j<s.ms.n→0≤(s.ms.z j).n:=fun j hj=>by have:=f.moveN j hj;omega
 have L0:=(leftM_eq (b:=b) (g:=g) r hM).2
 refine ⟨f.sh,f.sh0,f.os4,Nat.le_trans (dropH_le _ _) f.ms8,f.lns,f.kind,fun i hi j hj => ?_,cutHs_right L0 f.hold,fun i hi => ?_,fun i hi => ?_,f.sin,f.son,f.sfn,f.sib,f.sob,f.sfb⟩
 ·obtain ⟨b1,b2,b3,b4⟩:=badLine_no (f.line i hi j hj)
  have q:=cutQs_bd (b:=b) (g:=g) r hM i j
  have k:=line_kept r hi hj
  show badLine p (moreL ((s.os.z i).ls.z j) (cutQs s b g M i j))=false
  unfold badLine moreL
  rw [inB_mk (by dsimp only;omega),inB_mk (by dsimp only;omega),inB_mk (by dsimp only;omega),inB_mk (by dsimp only;omega)]
  rfl
 ·obtain ⟨j,hj,e1,e2,e3,-,-⟩:=cutHs_mem L0 hz hi
  have h:=homeless_no (f.home j hj)
  have e1':((cutS s b g M).hs.z i).o=(s.hs.z j).o:=e1
  have e2':((cutS s b g M).hs.z i).l=(s.hs.z j).l:=e2
  have e3':((cutS s b g M).hs.z i).b=(s.hs.z j).b:=e3
  refine homeless_mk ?_ ?_ ?_
  ·rw [e1'];exact h.1
  ·rw [e1',e2'];exact h.2.1
  ·rw [e3'];exact h.2.2
 ·obtain ⟨j,hj,e1,e2,e3,e4,e5⟩:=cutHs_mem hM mz hi
  have h:=badMove_no (f.move j hj)
  have e1':((cutS s b g M).ms.z i).o=(s.ms.z j).o:=e1
  have e2':((cutS s b g M).ms.z i).l=(s.ms.z j).l:=e2
  have e3':((cutS s b g M).ms.z i).b=(s.ms.z j).b:=e3
  have e4':1≤((cutS s b g M).ms.z i).n:=e4
  have e5':((cutS s b g M).ms.z i).n≤(s.ms.z j).n:=e5
  generalize (cutS s b g M).ms.z i=X at *
  unfold badMove
  rw [e1',e2',e3',inB_mk (by omega),inB_mk (by omega),inB_mk (by omega),inB_mk (by omega)]
  simpa using h.2.2.2.1
theorem cut_orders (r:RightT p s) (hM:0≤M) (i:Nat) (hi:i<s.os.n):wrongOrder (cutS s b g M) i=false:=by
 have w:=r.orders i hi
 unfold wrongOrder at w ⊢
 rw [Bool.or_eq_false_iff] at w ⊢
 refine ⟨w.1,anyB_no fun j hj => ?_⟩
 have wl:wrongL (s.os.z i).k ((s.os.z i).ls.z j) (keptS s.hs.z i j s.hs.n)=false:=anyB_false w.2 j hj
 rw [cut_kept]
 show wrongL (s.os.z i).k (moreL ((s.os.z i).ls.z j) (cutQs s b g M i j)) _=false
 have q:=cutQs_bd (b:=b) (g:=g) r hM i j
 unfold wrongL moreL at *
 by_cases h0:(s.os.z i).k=0
 ·rw [if_pos h0] at wl ⊢
  simp only [Bool.or_eq_false_iff,Bool.not_eq_false',beq_iff_eq] at wl ⊢
  omega
 ·rw [if_neg h0] at wl ⊢
  by_cases h2:(s.os.z i).k=2
  ·rw [if_pos h2] at wl ⊢
   simp only [Bool.or_eq_false_iff,Bool.not_eq_false',beq_iff_eq] at wl ⊢
   omega
  ·rw [if_neg h2] at wl ⊢
   simp only [Bool.not_eq_false',beq_iff_eq] at wl ⊢
   omega
end
section
variable {p:Pl} {s:St} {b g:Nat} {M seen:Int}
theorem cut_avail (r:RightT p s) (hM:0≤M) (c k:Nat):availZ (cutS s b g M) c k=availZ s c k+if c=b∧k=g then min M (boundZ s b g) else 0:=by
 have h1:=cut_held (b:=b) (g:=g) r hM c k
 have h2:=cut_from (b:=b) (g:=g) r hM c k
 have h3:=leftM_eq (b:=b) (g:=g) r hM
 have h4:=(heldTo_bd (s:=s) (b:=b) (g:=g) (n:=s.hs.n) r.fm.holdN).1
 have h5:=(fromTo_bd (s:=s) (b:=b) (g:=g) (n:=s.ms.n) r.fm.moveN).1
 unfold availZ boundZ
 rw [h1,h2]
 show (s.on.r c).z k - _ - _=_
 by_cases e:c=b∧k=g
 ·rw [if_pos e,if_pos (by omega),if_pos (by omega),h3.1]
  omega
 ·rw [if_neg e,if_neg (fun e'=>e (by omega)),if_neg (fun e'=>e (by omega))]
  omega
theorem cut_right (r:RightT p s) (hM:0≤M):RightT p (cutS s b g M):=by
 refine ⟨cut_formed r hM,fun k hk => ?_,fun i hi=>cut_orders r hM i hi⟩
 obtain ⟨a1,a2⟩:=goods_no (r.goods k hk)
 refine goods_mk a1 fun c hc => ?_
 rw [cut_avail r hM]
 have:=a2 c hc
 have h4:=(heldTo_bd (s:=s) (b:=b) (g:=g) (n:=s.hs.n) r.fm.holdN).1
 have h5:=(fromTo_bd (s:=s) (b:=b) (g:=g) (n:=s.ms.n) r.fm.moveN).1
 unfold boundZ
 split<;>omega
theorem fixOn_num (s:St) (b g:Nat) (seen:Int) (i j:Nat):((fixOn s b g seen).on.r i).z j=if i=b∧j=g then seen else (s.on.r i).z j:=setOn_num s b g seen i j
theorem fixOn_avail (s:St) (b g:Nat) (seen:Int) (c k:Nat):availZ (fixOn s b g seen) c k=availZ s c k+if c=b∧k=g then seen - (s.on.r b).z g else 0:=by
 have e1:heldTo (fixOn s b g seen) c k (fixOn s b g seen).hs.n=heldTo s c k s.hs.n:=heldTo_eq (x:=fixOn s b g seen) (s:=s) (fun _ _=>rfl) (fun _ _=>rfl)
 have e2:fromTo (fixOn s b g seen) c k (fixOn s b g seen).ms.n=fromTo s c k s.ms.n:=fromTo_eq (x:=fixOn s b g seen) (s:=s) (fun _ _=>rfl)
 unfold availZ
 rw [e1,e2,fixOn_num]
 by_cases e:c=b∧k=g
 ·rw [if_pos e,if_pos e,e.1,e.2];omega
 ·rw [if_neg e,if_neg e];omega
theorem fixOn_right (r:RightT p s) (hb:b<p.nb) (hg:g<p.ns) (h0:0≤seen) (h1:seen≤200) (hf : -1048576≤s.sf.z g+(seen - (s.on.r b).z g)∧s.sf.z g+(seen - (s.on.r b).z g)≤1048576) (ha:0≤availZ s b g+(seen - (s.on.r b).z g)):RightT p (fixOn s b g seen):=by
 have f:=r.fm
 have rs:RightS p (fixOn s b g seen).on:=⟨f.sh.pl,f.sh.n,fun i hi=>(setOn_len s b g seen i).trans (f.sh.len i hi),fun i hi j hj=>by
  rw [fixOn_num]
  have nm:=f.sh.num i hi j hj
  by_cases c:i=b∧j=g
  ·rw [if_pos c];omega
  ·rw [if_neg c];exact nm⟩
 refine ⟨⟨rs,shelfE_mk (rightS f.sh0).1 rs,f.os4,f.ms8,f.lns,f.kind,f.line,f.hold,f.home,f.move,f.sin,f.son,f.sfn,f.sib,f.sob,fun j hj => ?_⟩,fun k hk => ?_,r.orders⟩
 ·show -1048576≤(if j=g then _ else s.sf.z j)∧(if j=g then _ else s.sf.z j)≤1048576
  have:=f.sfb j hj
  split
  ·exact hf
  ·exact this
 ·obtain ⟨a1,a2⟩:=goods_no (r.goods k hk)
  refine goods_mk ?_ fun c hc => ?_
  ·show sumTo _ s.on.n=s.si.z k - s.so.z k+(if k=g then _ else s.sf.z k)
   by_cases q:k=g
   ·rw [if_pos q]
    have e:=sumTo_at (z:=fun i=>(s.on.r i).z k) (z':=fun i=>((fixOn s b g seen).on.r i).z k) (m:=b) (n:=seen - (s.on.r b).z g) (k:=s.on.n) (by rw [f.sh.n];exact hb) (fun i hi=>by
     rw [fixOn_num]
     by_cases c:i=b
     ·rw [if_pos ⟨c,q⟩,if_pos c,c,q];omega
     ·rw [if_neg (fun e=>c e.1),if_neg c,Int.add_zero])
    rw [e,a1,q]
    show _=_ - _+(s.sf.z g+(seen - (s.on.r b).z g))
    omega
   ·rw [if_neg q,← a1]
    exact sumTo_same fun i hi=>by rw [fixOn_num,if_neg (fun e=>q e.2)]
  ·rw [fixOn_avail]
   have:=a2 c hc
   by_cases e:c=b∧k=g
   ·rw [if_pos e,e.1,e.2];exact ha
   ·rw [if_neg e];omega
structure CountIn (p:Pl) (s:St) (b g:Nat) (seen:Int):Prop where
 r:RightT p s
 bn:b<p.nb
 gn:g<p.ns
 s0:0≤seen
 s1:seen≤200
 fx : -1048576≤s.sf.z g+(seen - (s.on.r b).z g)∧s.sf.z g+(seen - (s.on.r b).z g)≤1048576
theorem countIn {bin good:Int} (h:countE p s bin good seen=0):stateE p s=0∧∃ b g:Nat,bin=b∧good=g∧CountIn p s b g seen:=by
 unfold countE at h
 by_cases h0:stateE p s=0
 ·rw [if_pos h0] at h
  cases h1:(inB bin 0 ((p.nb:Int) - 1)&&inB good 0 ((p.ns:Int) - 1)&&inB seen 0 200)
  ·rw [h1,if_neg (by decide)] at h;exact absurd h (by decide)
  ·rw [h1] at h
   simp only [Bool.and_eq_true] at h1
   have q1:=inB_true h1.1.1
   have q2:=inB_true h1.1.2
   have q3:=inB_true h1.2
   cases h2:inB (s.sf.z good.toNat+(seen - (s.on.r bin.toNat).z good.toNat)) (-1048576) 1048576
   ·rw [h2] at h;exact absurd h (by decide)
   ·have q4:=inB_true h2
    obtain ⟨b,rfl⟩:=Int.eq_ofNat_of_zero_le q1.1
    obtain ⟨g,rfl⟩:=Int.eq_ofNat_of_zero_le q2.1
    exact ⟨h0,b,g,rfl,rfl,rightT h0,by omega,by omega,q3.1,q3.2,q4⟩
 ·rw [if_neg h0] at h;exact absurd h h0
theorem CountIn.miss0 (h:CountIn p s b g seen):0≤missZ s b g seen:=by unfold missZ;omega
theorem CountIn.bound (h:CountIn p s b g seen):0≤boundZ s b g∧boundZ s b g=(s.on.r b).z g - availZ s b g:=by
 have h4:=(heldTo_bd (s:=s) (b:=b) (g:=g) (n:=s.hs.n) h.r.fm.holdN).1
 have h5:=(fromTo_bd (s:=s) (b:=b) (g:=g) (n:=s.ms.n) h.r.fm.moveN).1
 unfold boundZ availZ
 omega
theorem CountIn.cutAv (h:CountIn p s b g seen):availZ (cutS s b g (missZ s b g seen)) b g=availZ s b g+missZ s b g seen:=by
 rw [cut_avail h.r h.miss0,if_pos ⟨rfl,rfl⟩]
 have:=h.bound
 have:=h.s0
 unfold missZ
 omega
theorem CountIn.right (h:CountIn p s b g seen):RightT p (countS s b g seen):=by
 refine fixOn_right (cut_right h.r h.miss0) h.bn h.gn h.s0 h.s1 h.fx ?_
 rw [h.cutAv]
 show 0≤_+(seen - (s.on.r b).z g)
 have:=h.bound
 unfold missZ
 omega
theorem CountIn.av (h:CountIn p s b g seen):availZ (countS s b g seen) b g=max (seen - boundZ s b g) 0:=by
 unfold countS
 rw [fixOn_avail,if_pos ⟨rfl,rfl⟩,h.cutAv]
 show _+(seen - (s.on.r b).z g)=_
 have:=h.bound
 unfold missZ
 omega
theorem CountIn.qin (h:CountIn p s b g seen):QIn p b (countQ s b g seen) (countS s b g seen):=by
 refine ⟨h.right,fun i j hi hj => ?_,Or.inr ⟨by omega,by have:=h.bn;omega⟩⟩
 have hi':i<s.os.n:=hi
 have hj':j<(s.os.z i).ls.n:=hj
 have q:=cutQs_bd (b:=b) (g:=g) (M:=missZ s b g seen) h.r h.miss0 i j
 refine ⟨q.1,?_⟩
 have bl:=(badLine_no (h.r.fm.line i hi' j hj')).2.2.2
 rcases line_kept h.r hi' hj' with k | k
 ·exact Or.inl (by show cutQs s b g (missZ s b g seen) i j=0;omega)
 ·refine Or.inr ⟨k.1,?_⟩
  show cutQs s b g (missZ s b g seen) i j≤((s.os.z i).ls.z j).n+cutQs s b g (missZ s b g seen) i j
  omega
theorem CountIn.all (h:CountIn p s b g seen):TkAll p b (countQ s b g seen) (relM s) (countS s b g seen) s.os.n (countT p s b g seen):=allT_all h.qin (fun _ _=>rfl) (Nat.le_refl s.os.n)
theorem CountIn.pos (h:CountIn p s b g seen):Pos p b (countQ s b g seen) (countS s b g seen) s.os.n 0 (countT p s b g seen):=TkAll.pos h.qin (fun _ _=>rfl) (Nat.le_refl s.os.n) h.all
theorem count_right (h:CountIn p s b g seen):RightT p (countT p s b g seen):=h.pos.al.r
end
section
variable {p:Pl} {s x:St} {b g:Nat} {seen:Int}
theorem moreL_none (x:Hd):moreL x 0=x:=by unfold moreL;rw [Int.add_zero]
theorem cutHs_none {f:Hd→Bool} {h:Hs} (hp:∀ y,y∈revL h.z h.n→1≤y.n):(cutHs f h 0).n=h.n∧∀ j,j<(cutHs f h 0).n→(cutHs f h 0).z j=h.z j:=by
 have e:=cutHs_rev f h 0
 rw [cutL_zero f (fun y hy=>by have:=hp y hy;omega),flt_all hp] at e
 exact revL_inj e
theorem cut_none (r:RightT p s) (b g:Int):SameT (cutS s b g 0) s:=by
 have l0:leftM s b g 0=0:=by
  have a:=leftM_eq (b:=b) (g:=g) r (Int.le_refl 0)
  have c:=(fromTo_bd (s:=s) (b:=b) (g:=g) (n:=s.ms.n) r.fm.moveN).1
  omega
 have q0:∀ o l,cutQs s b g 0 o l=0:=fun o l=>by
  unfold cutQs
  rw [l0]
  exact cutQ_zero _ _ _ r.holdsP
 refine ⟨⟨rfl,fun _ _=>⟨rfl,fun _ _=>rfl⟩⟩,⟨rfl,fun i _=>⟨rfl,rfl,fun j _ => ?_⟩⟩,?_,cutHs_none r.moves0,⟨rfl,fun _ _=>rfl⟩,⟨rfl,fun _ _=>rfl⟩,⟨rfl,fun _ _=>rfl⟩⟩
 ·show moreL ((s.os.z i).ls.z j) (cutQs s b g 0 i j)=_
  rw [q0,moreL_none]
 ·show (cutHs (heldF s b g) s.hs (leftM s b g 0)).n=_∧∀ j,j<(cutHs (heldF s b g) s.hs (leftM s b g 0)).n→(cutHs (heldF s b g) s.hs (leftM s b g 0)).z j=_
  rw [l0]
  exact cutHs_none r.holds0
theorem TkAll.skip {but:Int} {q:Nat→Nat→Int} {m:Nat→Nat} (Q:QIn p but q s) (hm:∀ a,a<s.os.n→m a=(s.os.z a).ls.n) (hq:∀ a b,a<s.os.n→b<(s.os.z a).ls.n→q a b=0):∀ {i:Nat},i≤s.os.n→TkAll p but q m s i s
 | 0,_=>SameT.self s
 | i+1,hi=>by
  have T:=TkAll.skip Q hm hq (i:=i) (by omega)
  exact ⟨s,T,TkRow.skip Q (TkAll.pos Q hm (by omega) T) (by omega) (by rw [hm i (by omega)];exact Nat.le_refl _) fun b hb=>hq i b (by omega) (by rw [← hm i (by omega)];exact hb)⟩
theorem count_still (h:CountIn p s b g seen) (hm:missZ s b g seen=0):SameT (countT p s b g seen) (fixOn s b g seen):=by
 have Q:=h.qin
 have q0:∀ a c,a<(countS s b g seen).os.n→c<((countS s b g seen).os.z a).ls.n→countQ s b g seen a c=0:=fun a c _ _=>by
  have k:=cutQs_bd (b:=b) (g:=g) (M:=missZ s b g seen) h.r h.miss0 a c
  unfold countQ cutQs
  rw [hm]
  have l0:leftM s b g 0=0:=by
   have e:=leftM_eq (b:=b) (g:=g) h.r (Int.le_refl 0)
   have c:=(fromTo_bd (s:=s) (b:=b) (g:=g) (n:=s.ms.n) h.r.fm.moveN).1
   omega
  rw [l0]
  exact cutQ_zero _ _ _ h.r.holdsP
 have T:=TkAll.skip (m:=relM s) Q (fun _ _=>rfl) q0 (Nat.le_refl _)
 have S1:SameT (countT p s b g seen) (countS s b g seen):=TkAll.same Q (fun _ _=>rfl) (Nat.le_refl s.os.n) T h.all
 refine S1.trans ?_
 have c:=cut_none h.r b g
 unfold countS fixOn
 rw [hm]
 have e1:((cutS s b g 0).on.r b).z g=(s.on.r b).z g:=rfl
 have e2:(cutS s b g 0).sf.z g=s.sf.z g:=rfl
 rw [e1,e2]
 exact ⟨⟨rfl,fun _ _=>⟨rfl,fun _ _=>rfl⟩⟩,c.os,c.hs,c.ms,⟨rfl,fun _ _=>rfl⟩,⟨rfl,fun _ _=>rfl⟩,⟨rfl,fun _ _=>rfl⟩⟩
theorem fixOn_self (h:(s.on.r b).z g=seen):SameT (fixOn s b g seen) s:=by
 refine ⟨⟨rfl,fun i _=>⟨setOn_len s b g seen i,fun j _ => ?_⟩⟩,⟨rfl,fun _ _=>⟨rfl,rfl,fun _ _=>rfl⟩⟩,⟨rfl,fun _ _=>rfl⟩,⟨rfl,fun _ _=>rfl⟩,⟨rfl,fun _ _=>rfl⟩,⟨rfl,fun _ _=>rfl⟩,⟨rfl,fun j _ => ?_⟩⟩
 ·rw [fixOn_num]
  by_cases c:i=b∧j=g
  ·rw [if_pos c,c.1,c.2,h]
  ·rw [if_neg c]
 ·show (if j=g then s.sf.z g+(seen - (s.on.r b).z g) else s.sf.z j)=s.sf.z j
  by_cases c:j=g
  ·rw [if_pos c,h,c];omega
  ·rw [if_neg c]
theorem countE_of (h:CountIn p s b g seen):countE p s b g seen=0:=by
 have h1:=h.bn
 have h2:=h.gn
 have h3:=h.s0
 have h4:=h.s1
 unfold countE
 rw [if_pos (stateE_of h.r),inB_mk (by omega),inB_mk (by omega),inB_mk (by omega)]
 have e:(Int.toNat (b:Int))=b:=rfl
 have e2:(Int.toNat (g:Int))=g:=rfl
 rw [e,e2,inB_mk h.fx]
 rfl
theorem CountIn.onS (h:CountIn p s b g seen) (i j:Nat):((countS s b g seen).on.r i).z j=if i=b∧j=g then seen else (s.on.r i).z j:=fixOn_num (cutS s b g (missZ s b g seen)) b g seen i j
theorem CountIn.on (h:CountIn p s b g seen) (e:SameT x (countT p s b g seen)):x.on.n=s.on.n∧∀ i,i<s.on.n→(x.on.r i).n=(s.on.r i).n∧∀ j,j<(s.on.r i).n→(x.on.r i).z j=if i=b∧j=g then seen else (s.on.r i).z j:=by
 have a:=h.pos.al.on
 have n1:x.on.n=s.on.n:=e.on.1.trans a.1
 refine ⟨n1,fun i hi => ?_⟩
 have e1:=e.on.2 i (by rw [n1];exact hi)
 have a1:=a.2 i (by rw [a.1];exact hi)
 have l1:((countS s b g seen).on.r i).n=(s.on.r i).n:=setOn_len (cutS s b g (missZ s b g seen)) b g seen i
 have l2:(x.on.r i).n=(s.on.r i).n:=e1.1.trans (a1.1.trans l1)
 refine ⟨l2,fun j hj => ?_⟩
 rw [e1.2 j (by rw [l2];exact hj),a1.2 j (by rw [a1.1,l1];exact hj),h.onS]
theorem CountIn.num (h:CountIn p s b g seen) (e:SameT x (countT p s b g seen)):(x.on.r b).z g=seen:=by
 have hb:b<s.on.n:=by rw [h.r.fm.sh.n];exact h.bn
 have l:=h.r.fm.sh.len b hb
 have k:=((h.on e).2 b hb).2 g (by rw [l];exact h.gn)
 rw [k,if_pos ⟨rfl,rfl⟩]
theorem CountIn.again (h:CountIn p s b g seen) (e:SameT x (countT p s b g seen)):CountIn p x b g seen∧SameT (countT p x b g seen) x:=by
 have rx:RightT p x:=e.right (count_right h)
 have n:=h.num e
 have f:=rx.fm.sfb g h.gn
 have I:CountIn p x b g seen:=⟨rx,h.bn,h.gn,h.s0,h.s1,by rw [n];omega⟩
 refine ⟨I,?_⟩
 have m:missZ x b g seen=0:=by
  have k:=I.bound
  have a:=(goods_no (rx.goods g h.gn)).2 b h.bn
  unfold missZ
  rw [k.2,n]
  omega
 exact (count_still I m).trans (fixOn_self n)
theorem CountIn.left (h:CountIn p s b g seen) (e:SameT x (countT p s b g seen)):availZ x b g=max (seen - boundZ s b g) 0:=by
 rw [e.avail (count_right h).fm h.bn h.gn,(h.pos.al.av b g h.bn h.gn).2 rfl,h.av]
theorem CountIn.more (h:CountIn p s b g seen) (e:SameT x (countT p s b g seen)) (hm:(s.on.r b).z g - availZ s b g≤seen):(x.hs.n=s.hs.n∧∀ j,j<x.hs.n→x.hs.z j=s.hs.z j)∧x.ms.n=s.ms.n∧∀ j,j<x.ms.n→x.ms.z j=s.ms.z j:=by
 have m:missZ s b g seen=0:=by
  have k:=h.bound
  unfold missZ
  omega
 have k:=e.trans (count_still h m)
 exact ⟨k.hs,k.ms⟩
theorem revL_same {h k:Hs} (hn:h.n=k.n) (hz:∀ j,j<h.n→h.z j=k.z j):revL h.z h.n=revL k.z k.n:=by
 rw [← hn]
 exact revL_congr hz
theorem cutL_same {f g:Hd→Bool}:∀ {R:List Hd} {m:Int},(∀ x,x∈R→f x=g x)→cutL f m R=cutL g m R
 | [],_,_=>rfl
 | h :: R,m,e=>by
  show (if f h then _ else _)=if g h then _ else _
  rw [e h List.mem_cons_self,cutL_same (m:=m - min m h.n) fun x hx=>e x (List.mem_cons_of_mem _ hx),cutL_same (m:=m) fun x hx=>e x (List.mem_cons_of_mem _ hx)]
theorem cutQ_same {f g:Hd→Bool} {o l:Int}:∀ {R:List Hd} {m:Int},(∀ x,x∈R→f x=g x)→cutQ f m R o l=cutQ g m R o l
 | [],_,_=>rfl
 | h :: R,m,e=>by
  show (if f h then _ else _)=if g h then _ else _
  rw [e h List.mem_cons_self,cutQ_same (m:=m - min m h.n) fun x hx=>e x (List.mem_cons_of_mem _ hx),cutQ_same (m:=m) fun x hx=>e x (List.mem_cons_of_mem _ hx)]
theorem cutS_same {y:St} (f:Formed p s) (e:SameT y s) (b g M:Int):SameT (cutS y b g M) (cutS s b g M)∧∀ o l,cutQs y b g M o l=cutQs s b g M o l:=by
 have em:moveR y=moveR s:=revL_same e.ms.1 e.ms.2
 have eh:holdR y=holdR s:=revL_same e.hs.1 e.hs.2
 have el:leftM y b g M=leftM s b g M:=by unfold leftM;rw [em]
 have ef:∀ x,x∈holdR s→heldF y b g x=heldF s b g x:=fun x hx=>by
  obtain ⟨j,hj,rfl⟩:=revL_mem hx
  obtain ⟨h1,h2,-⟩:=homeless_no (f.home j hj)
  unfold heldF goodH
  rw [e.line h1.2 h2.2]
 have q:∀ o l,cutQs y b g M o l=cutQs s b g M o l:=fun o l=>by
  unfold cutQs
  rw [el,eh]
  exact cutQ_same ef
 have hh:revL (cutHs (heldF y b g) y.hs (leftM y b g M)).z (cutHs (heldF y b g) y.hs (leftM y b g M)).n=revL (cutHs (heldF s b g) s.hs (leftM s b g M)).z (cutHs (heldF s b g) s.hs (leftM s b g M)).n:=by
  rw [cutHs_rev,cutHs_rev,el]
  have e1:revL y.hs.z y.hs.n=revL s.hs.z s.hs.n:=eh
  have e2:cutL (heldF y b g) (leftM s b g M) (revL s.hs.z s.hs.n)=cutL (heldF s b g) (leftM s b g M) (revL s.hs.z s.hs.n):=cutL_same ef
  rw [e1,e2]
 have hm:revL (cutHs (fromF b g) y.ms M).z (cutHs (fromF b g) y.ms M).n=revL (cutHs (fromF b g) s.ms M).z (cutHs (fromF b g) s.ms M).n:=by
  rw [cutHs_rev,cutHs_rev]
  have e1:revL y.ms.z y.ms.n=revL s.ms.z s.ms.n:=em
  rw [e1]
 refine ⟨⟨e.on,⟨e.os.1,fun i hi => ?_⟩,revL_inj hh,revL_inj hm,e.si,e.so,e.sf⟩,q⟩
 have hi':i<y.os.n:=hi
 have w:=e.os.2 i hi'
 refine ⟨w.1,w.2.1,fun j hj => ?_⟩
 have hj':j<(y.os.z i).ls.n:=hj
 show moreL ((y.os.z i).ls.z j) (cutQs y b g M i j)=moreL ((s.os.z i).ls.z j) (cutQs s b g M i j)
 rw [w.2.2 j hj',q]
theorem fixOn_same {a c:St} (e:SameT a c) {b g:Nat} {seen:Int} (h1:(a.on.r b).z g=(c.on.r b).z g) (h2:a.sf.z g=c.sf.z g):SameT (fixOn a b g seen) (fixOn c b g seen):=by
 have k:=setOn_same e b g seen
 refine ⟨k.on,k.os,k.hs,k.ms,k.si,k.so,⟨k.sf.1,fun j hj => ?_⟩⟩
 have hj':j<a.sf.n:=hj
 show (if j=g then a.sf.z g+(seen - (a.on.r b).z g) else a.sf.z j)=if j=g then c.sf.z g+(seen - (c.on.r b).z g) else c.sf.z j
 rw [h1,h2,e.sf.2 j hj']
theorem QIn.same {but:Int} {q q':Nat→Nat→Int} {y:St} (Q:QIn p but q s) (e:SameT y s) (hq:∀ a b,a<s.os.n→b<(s.os.z a).ls.n→q' a b=q a b):QIn p but q' y:=by
 refine ⟨e.right Q.r,fun a b ha hb => ?_,Q.bt⟩
 have ha':a<s.os.n:=by rw [← e.os.1];exact ha
 have k:=e.os.2 a ha
 have hb':b<(s.os.z a).ls.n:=by rw [← k.2.1];exact hb
 rw [hq a b ha' hb',k.1,k.2.2 b hb]
 exact Q.q0 a b ha' hb'
end
section
variable {p:Pl} {s x:St} {o l b:Nat} {n:Int}
structure PickEnd (p:Pl) (s x:St) (o l b:Nat) (n:Int):Prop where
 r:RightT p x
 osn:x.os.n=s.os.n
 lns:∀ i,i<s.os.n→(x.os.z i).ls.n=(s.os.z i).ls.n
 other:∀ i,i<s.os.n→∀ j,j<(s.os.z i).ls.n→¬ (i=o∧j=l)→(x.os.z i).ls.z j=(s.os.z i).ls.z j∧keptS x.hs.z i j x.hs.n=keptS s.hs.z i j s.hs.n
 mine:((x.os.z o).ls.z l).b=((s.os.z o).ls.z l).b+n∧((x.os.z o).ls.z l).o=((s.os.z o).ls.z l).o
 closed:((x.os.z o).k==2) = !anyB (x.os.z o).ls.n (fun j=>lacksL ((x.os.z o).ls.z j))
 kind:(x.os.z o).k=1∨(x.os.z o).k=2
 gone:keptV x.hs.n x.hs.z o l b=0
 short:((s.os.z o).ls.z l).n<((x.os.z o).ls.z l).n→∀ c:Nat,c<p.nb→¬ c=b→availZ x c (lineGood s o l)=0
theorem SameT.keptV (h:SameT x s) (a b c:Int):Go.Proofs.YtbcacebifpagpagGreat.keptV x.hs.n x.hs.z a b c=Go.Proofs.YtbcacebifpagpagGreat.keptV s.hs.n s.hs.z a b c:=by
 rw [h.hs.1]
 exact keptV_congr (fun j hj=>h.hs.2 j (by rw [h.hs.1];exact hj)) a b c
theorem PickEnd.same {y:St} (h:PickEnd p s y o l b n) (e:SameT x y) (ho:o<s.os.n) (hl:l<(s.os.z o).ls.n) (hg:lineGood s o l<p.ns):PickEnd p s x o l b n:=by
 have od:∀ i,i<s.os.n→i<x.os.n:=fun i hi=>by rw [e.os.1,h.osn];exact hi
 have eo:=e.os.2 o (od o ho)
 have ln:∀ i,i<s.os.n→∀ j,j<(s.os.z i).ls.n→(x.os.z i).ls.z j=(y.os.z i).ls.z j:=fun i hi j hj=>e.line (by rw [h.osn];exact hi) (by rw [h.lns i hi];exact hj)
 refine ⟨e.right h.r,e.os.1.trans h.osn,fun i hi=>(e.os.2 i (od i hi)).2.1.trans (h.lns i hi),fun i hi j hj hn => ?_,?_,?_,?_,?_,fun hs c hc hcb => ?_⟩
 ·rw [ln i hi j hj,e.kept]
  exact h.other i hi j hj hn
 ·rw [ln o ho l hl]
  exact h.mine
 ·rw [eo.1,h.closed,eo.2.1]
  exact congrArg not (anyB_congr fun j hj=>by rw [ln o ho j (by rw [← h.lns o ho];exact hj)])
 ·rw [eo.1]
  exact h.kind
 ·rw [e.keptV]
  exact h.gone
 ·rw [ln o ho l hl] at hs
  rw [e.avail h.r.fm hc hg]
  exact h.short hs c hc hcb
theorem PickEnd.sum (h:PickEnd p s x o l b n) (ho:o<x.os.n) (hl:l<(x.os.z o).ls.n):((x.os.z o).ls.z l).b+((x.os.z o).ls.z l).n+keptS x.hs.z o l x.hs.n=((x.os.z o).ls.z l).l:=by
 rcases h.kind with k | k
 ·exact (line_sum h.r ho hl k).1
 ·have w:=h.r.orders o ho
  unfold wrongOrder at w
  rw [Bool.or_eq_false_iff] at w
  have wl:wrongL (x.os.z o).k ((x.os.z o).ls.z l) (keptS x.hs.z o l x.hs.n)=false:=anyB_false w.2 l hl
  unfold wrongL at wl
  rw [k,if_neg (by decide),if_pos rfl] at wl
  simp only [Bool.or_eq_false_iff,Bool.not_eq_false',beq_iff_eq] at wl
  omega
end
theorem Step.none {p:Pl} {but:Int} {y x:St} {i j:Nat} {n:Int} (h:TakeIn p y i j n) (h0:∀ c:Nat,c<p.nb→¬ ((c:Nat):Int)=but→availZ y c ((y.os.z i).ls.z j).o.toNat=0) (T:Step p but y i j n x):SameT x y:=by
 have k:=h.tkw (but:=but)
 have tz:∀ c,(Tk.go (avT y i j) n (wayT p but)).took c=0:=fun c=>by
  by_cases hm:c∈wayT p but
  ·have w:=StepIn.way _ hm
   have u:=h0 c.toNat (by omega) (by rw [show ((c.toNat:Nat):Int)=c by omega];exact (wayT_mem.1 hm).2)
   have v:=k.had _ hm
   have t0:=k.took0 c
   have e2:avT y i j c=0:=u
   rw [e2] at v
   omega
  ·exact k.other _ hm
 have sz:=k.sum
 rw [sumTo_zero fun c hc=>tz c] at sz
 exact Took.same T (Took.congr (Took.start (n:=n) h.fm.hold (SameT.self y)) (show (Tk.go (avT y i j) n (wayT p but)).left=n by omega) tz)
section
variable {p:Pl} {s x z:St}
theorem Released.kind (r:RightT p s) (h:Released p s x) {i:Nat} (hi:i<x.os.n):¬ (x.os.z i).k=0∧(x.os.z i).ls.n=(s.os.z i).ls.n:=by
 have P:=h.pos r
 have hs:i<s.os.n:=by have:=P.al.osn;exact this ▸ hi
 have k:=P.al.kind i hs
 refine ⟨fun e => ?_,k.2.trans (relM_eq s i).symm⟩
 rw [k.1] at e
 have e':(relOd s.os.n i (s.os.z i)).k=0:=e
 unfold relOd at e'
 by_cases c:i<s.os.n∧(s.os.z i).k=0
 ·rw [if_pos c] at e';cases e'
 ·rw [if_neg c] at e';exact c ⟨hs,e'⟩
theorem Released.none (r:RightT p s) (h:Released p s x) {i j:Nat} (hi:i<x.os.n) (hj:j<(x.os.z i).ls.n) (hk:(x.os.z i).k=1) (hb:0<((x.os.z i).ls.z j).n) {c:Nat} (hc:c<p.nb):availZ x c ((x.os.z i).ls.z j).o.toNat=0:=by
 have P:=h.pos r
 have hs:i<s.os.n:=by have:=P.al.osn;exact this ▸ hi
 have k:=P.al.kind i hs
 have hj':j<((relO s s.os.n).os.z i).ls.n:=by rw [← k.2];exact hj
 have q:relQ s i j=(((relO s s.os.n).os.z i).ls.z j).n:=if_pos (k.1.symm.trans hk)
 rw [(P.al.line i hs j hj').1]
 exact P.none i j hs hj' (Or.inl hs) q hb c hc (by omega)
theorem relO_again (r:RightT p s) (h:Released p s x):relO x x.os.n=x:=by
 unfold relO
 have e:(fun i=>relOd x.os.n i (x.os.z i))=x.os.z:=funext fun i=>if_neg (fun e=>(h.kind r e.1).1 e.2)
 rw [e]
theorem Released.again (r:RightT p s) (h:Released p s x) (k:Released p x z):SameT x z:=by
 have rx:=(h.pos r).al.r
 have e:=relO_again r h
 have Q:=rel_qin rx
 have hm:∀ a,a<(relO x x.os.n).os.n→relM x a=((relO x x.os.n).os.z a).ls.n:=fun a _=>relM_eq x a
 have row:∀ i,i<x.os.n→∀ y,SameT y x→Pos p (-1) (relQ x) (relO x x.os.n) i 0 y→∀ j,j≤(x.os.z i).ls.n→∀ y',TkRow p (-1) (relQ x) i y j y'→SameT y' x:=fun i hi y hy P j=>by
  induction j with
  | zero =>
   intro _ y' h'
   have h2:y'=y:=h'
   rw [h2]
   exact hy
  | succ j ih =>
   intro hj y' ⟨u,hu,T⟩
   have su:=ih (by omega) u hu
   have I:=(TkRow.pos Q P hi (by rw [← relM_eq];show j≤(x.os.z i).ls.n;omega) hu).stepIn Q hi (by rw [← relM_eq];exact hj)
   have hju:j<(x.os.z i).ls.n:=by omega
   by_cases h0:relQ x i j=0
   ·rw [h0] at I T
    exact (Step.zero I.tki T).trans su
   ·have hq:relQ x i j=((x.os.z i).ls.z j).n∧(x.os.z i).k=1:=by
     unfold relQ at h0 ⊢
     rw [e] at h0 ⊢
     by_cases c:(x.os.z i).k=1
     ·rw [if_pos c];exact ⟨rfl,c⟩
     ·rw [if_neg c] at h0;exact absurd rfl h0
    have q0:=I.n0
    refine (Step.none I.tki (fun c hc _ => ?_) T).trans su
    have gg:=(badLine_no (rx.fm.line i hi j hju)).1
    rw [su.line hi hju,su.avail rx.fm hc (by omega)]
    exact h.none r hi hju hq.2 (by omega) hc
 have all:∀ i,i≤x.os.n→∀ y,TkAll p (-1) (relQ x) (relM x) (relO x x.os.n) i y→SameT y x:=fun i=>by
  induction i with
  | zero =>
   intro _ y hy
   have hy':SameT y (relO x x.os.n):=hy
   rw [e] at hy'
   exact hy'
  | succ i ih =>
   intro hi y ⟨u,hu,hr⟩
   exact row i (by omega) u (ih (by omega) u hu) (TkAll.pos Q hm (Nat.le_of_succ_le hi) hu) (relM x i) (Nat.le_refl _) y hr
 exact (all x.os.n (Nat.le_refl _) z k).symm
theorem Released.first (r:RightT p s) (h:Released p s x) {a b a' b':Nat} (ha:a<a') (ha':a'<s.os.n) (hb:b<(s.os.z a).ls.n) (hb':b'<(s.os.z a').ls.n) (hk:(x.os.z a).k=1) (hn:¬ ((x.os.z a).ls.z b).n=0) (hg:((x.os.z a).ls.z b).o=((x.os.z a').ls.z b').o):keptS x.hs.z a' b' x.hs.n=keptS s.hs.z a' b' s.hs.n:=by
 have P:=h.pos r
 have hs:a<s.os.n:=by omega
 have k:=P.al.kind a hs
 have hb1:b<((relO s s.os.n).os.z a).ls.n:=by rw [← relM_eq];exact hb
 have hb2:b'<((relO s s.os.n).os.z a').ls.n:=by rw [← relM_eq];exact hb'
 have q:relQ s a b=(((relO s s.os.n).os.z a).ls.z b).n:=if_pos (k.1.symm.trans hk)
 have n0:=(right_line P.al.r (by rw [P.al.osn];exact hs) (by rw [k.2];exact hb1)).1
 rw [(P.al.line a hs b hb1).1,(P.al.line a' ha' b' hb2).1] at hg
 exact P.first a b hs hb1 a' b' ha' hb2 (Or.inl ha) (Or.inl ha') q (by omega) hg
end
theorem cancel_kept (s:St) (o:Nat) (a b c:Int):keptV (cancelT s o).hs.n (cancelT s o).hs.z a b c=if a=o then 0 else keptV s.hs.n s.hs.z a b c:=by
 by_cases h:a=o
 ·rw [if_pos h]
  exact (dropH_kept s.hs (fun x=>x.o==(o:Int)) (B:=true) (fun x hm=>by rw [(matchH_true hm).1,h];simp)).trans (if_pos rfl)
 ·rw [if_neg h]
  exact (dropH_kept s.hs (fun x=>x.o==(o:Int)) (B:=false) (fun x hm=>by rw [(matchH_true hm).1];simpa using h)).trans (if_neg (by decide))
theorem cancel_keptS {s:St} (hr:anyB s.hs.n (badH s.hs.z)=false) (o:Nat) (a b:Int):keptS (cancelT s o).hs.z a b (cancelT s o).hs.n=if a=o then 0 else keptS s.hs.z a b s.hs.n:=by
 have hx:anyB (cancelT s o).hs.n (badH (cancelT s o).hs.z)=false:=dropH_right _ hr
 rw [← kept_eq _ a b _ hx,← kept_eq _ a b _ hr]
 by_cases h:a=o
 ·rw [if_pos h]
  exact sumTo_zero fun c _=>by rw [cancel_kept,if_pos h]
 ·rw [if_neg h]
  exact sumTo_same fun c _=>by rw [cancel_kept,if_neg h]
theorem cancel_line (s:St) (o i j:Nat):(((cancelT s o).os.z i).ls.z j).o=((s.os.z i).ls.z j).o∧(((cancelT s o).os.z i).ls.z j).l=((s.os.z i).ls.z j).l∧(((cancelT s o).os.z i).ls.z j).b=((s.os.z i).ls.z j).b:=by
 rw [cancelT_os]
 by_cases h:i=o
 ·rw [if_pos h]
  show ((if j<_ then lackH ((s.os.z i).ls.z j) else (s.os.z i).ls.z j).o=_)∧((if j<_ then lackH ((s.os.z i).ls.z j) else (s.os.z i).ls.z j).l=_)∧((if j<_ then lackH ((s.os.z i).ls.z j) else (s.os.z i).ls.z j).b=_)
  split<;>exact ⟨rfl,rfl,rfl⟩
 ·rw [if_neg h];exact ⟨rfl,rfl,rfl⟩
theorem cancel_lacks {s:St} {o j:Nat} (hj:j<(s.os.z o).ls.n):(((cancelT s o).os.z o).ls.z j).n=((s.os.z o).ls.z j).l - ((s.os.z o).ls.z j).b:=by
 rw [cancelT_os,if_pos rfl]
 show (if j<_ then lackH ((s.os.z o).ls.z j) else (s.os.z o).ls.z j).n=_
 rw [if_pos hj]
 rfl
theorem cancelT_len (s:St) (o i:Nat):((cancelT s o).os.z i).ls.n=(s.os.z i).ls.n:=by
 rw [cancelT_os]
 split<;>rfl
theorem cancel_formed {p:Pl} {s:St} (r:RightT p s) {o:Nat} (ho:o<s.os.n):Formed p (cancelT s o):=by
 have f:=r.fm
 have hx:anyB (cancelT s o).hs.n (badH (cancelT s o).hs.z)=false:=dropH_right _ f.hold
 refine ⟨f.sh,f.sh0,f.os4,f.ms8,fun i hi=>by rw [cancelT_len];exact f.lns i hi,fun i hi => ?_,fun i hi j hj => ?_,hx,fun i hi => ?_,f.move,f.sin,f.son,f.sfn,f.sib,f.sob,f.sfb⟩
 ·rw [cancelT_os]
  split
  ·exact ⟨(by decide:(0:Int)≤2),(by decide:(2:Int)≤2)⟩
  ·exact f.kind i hi
 ·have hj':j<(s.os.z i).ls.n:=by rw [← cancelT_len s o];exact hj
  obtain ⟨b1,b2,b3,b4⟩:=badLine_no (f.line i hi j hj')
  have g:=cancel_line s o i j
  by_cases h:i=o
  ·subst h
   have e:=cancel_lacks (s:=s) hj'
   unfold badLine
   rw [inB_mk (by omega),inB_mk (by omega),inB_mk (by omega),inB_mk (by omega)]
   rfl
  ·rw [cancelT_os,if_neg h]
   exact f.line i hi j hj'
 ·have e:=(kept_at hx hi (matchH_self _)).1
  rw [cancel_kept] at e
  have fn:=(fineH_true (right_fine hx i hi)).2.2.2
  split at e
  ·omega
  ·obtain ⟨q1,q2,-⟩:=kept_pos f.hold (o:=((cancelT s o).hs.z i).o) (l:=((cancelT s o).hs.z i).l) (b:=((cancelT s o).hs.z i).b) (by omega)
   obtain ⟨m1,m2,m3⟩:=matchH_true q2
   obtain ⟨a1,a2,a3⟩:=homeless_no (f.home _ q1)
   rw [m1] at a1 a2
   rw [m2] at a2
   rw [m3] at a3
   refine homeless_mk a1 ⟨a2.1,?_⟩ a3
   rw [cancelT_len]
   exact a2.2
theorem sumTo_le {z z':Nat→Int}:∀ {k:Nat},(∀ i,i<k→z i≤z' i)→sumTo z k≤sumTo z' k
 | 0,_=>Int.le_refl _
 | k+1,h=>by
  have:=sumTo_le (k:=k) fun i hi=>h i (by omega)
  have:=h k (by omega)
  simp only [sumTo]
  omega
theorem cancel_held {p:Pl} {s:St} (r:RightT p s) {o:Nat} (ho:o<s.os.n) (b g:Int):heldTo (cancelT s o) b g (cancelT s o).hs.n≤heldTo s b g s.hs.n:=by
 have f:=r.fm
 have fx:=cancel_formed r ho
 rw [heldTo_sum b g _ fx.home fx.hold,heldTo_sum b g _ f.home f.hold]
 unfold heldSum
 refine sumTo_le fun i hi => ?_
 rw [cancelT_len]
 refine sumTo_le fun j hj => ?_
 unfold lineHeld
 rw [(cancel_line s o i j).1,cancel_kept]
 have kb:=(keptV_bd (fun j hj=>(fineH_true (right_fine f.hold j hj)).2.2.2) (i:Int) (j:Int) b).1
 split
 ·split<;>omega
 ·omega
theorem cancel_right {p:Pl} {s:St} (r:RightT p s) {o:Nat} (ho:o<s.os.n):RightT p (cancelT s o):=by
 refine ⟨cancel_formed r ho,fun g hg => ?_,fun i hi => ?_⟩
 ·obtain ⟨a1,a2⟩:=goods_no (r.goods g hg)
  refine goods_mk a1 fun b hb => ?_
  have h1:=cancel_held r ho b g
  have h2:=a2 b hb
  unfold availZ at h2 ⊢
  have e:fromTo (cancelT s o) b g (cancelT s o).ms.n=fromTo s b g s.ms.n:=fromTo_eq (x:=cancelT s o) (s:=s) (fun j _=>rfl)
  rw [e]
  have e2:((cancelT s o).on.r b).z g=(s.on.r b).z g:=rfl
  rw [e2]
  omega
 ·have hi':i<s.os.n:=hi
  have w:=r.orders i hi'
  unfold wrongOrder at w ⊢
  rw [Bool.or_eq_false_iff] at w ⊢
  by_cases h:i=o
  ·subst h
   have ek:((cancelT s i).os.z i).k=2:=by rw [cancelT_os,if_pos rfl]
   rw [ek]
   refine ⟨rfl,anyB_no fun j hj => ?_⟩
   have hj':j<(s.os.z i).ls.n:=by rw [← cancelT_len s i];exact hj
   have g:=cancel_line s i i j
   have e:=cancel_lacks (s:=s) hj'
   have k:=cancel_keptS r.fm.hold i i j
   rw [if_pos rfl] at k
   unfold wrongL
   rw [if_neg (by decide),if_pos rfl,k]
   simp only [Bool.or_eq_false_iff,Bool.not_eq_false',beq_iff_eq]
   exact ⟨by omega,trivial⟩
  ·have e:(cancelT s o).os.z i=s.os.z i:=by rw [cancelT_os,if_neg h]
   rw [e]
   refine ⟨w.1,anyB_no fun j hj => ?_⟩
   have wj:=anyB_false w.2 j hj
   rw [cancel_keptS r.fm.hold,if_neg (by omega)]
   exact wj
theorem cancelE_zero {p:Pl} {s:St} {order:Int} (h:cancelE p s order=0):stateE p s=0∧(0≤order∧order.toNat<s.os.n)∧¬ (s.os.z order.toNat).k=2:=by
 by_cases h0:stateE p s=0
 ·cases h1:inB order 0 ((s.os.n:Int) - 1)
  ·rw [cancelE_none h0 h1] at h;exact absurd h (by decide)
  ·by_cases h2:(s.os.z order.toNat).k=2
   ·rw [cancelE_done h0 h1 h2] at h;exact absurd h (by decide)
   ·have:=inB_true h1
    exact ⟨h0,by omega,h2⟩
 ·rw [cancelE_state h0] at h;exact absurd h h0
structure Ax where
 k:Int
 a:Int
 b:Int
 c:Int
 n:Int
 ls:Hs
def Ax.cells (x:Ax):Array Value:=#[.int .i64 x.k,.int .i64 x.a,.int .i64 x.b,.int .i64 x.c,.int .i64 x.n,.slice x.ls.a x.ls.n x.ls.c]
def Ax.val (x:Ax):Value := .agg x.cells
def doE (p:Pl) (s:St) (x:Ax):Int :=
 if x.k=1 then recvE p s x.a x.b x.n else if x.k=2 then enterE p s x.ls else if x.k=3 then stateE p s else if x.k=4 then cancelE p s x.a else if x.k=5 then pickE p s x.a x.b x.c x.n else if x.k=6 then stateE p s else if x.k=7 then movedE p s x.a x.n else if x.k=8 then countE p s x.a x.b x.n else 8
def doT (p:Pl) (s:St) (x:Ax):St :=
 if x.k=1 then recvT s x.a.toNat x.b.toNat x.n else if x.k=2 then enterT s x.ls else if x.k=3 then relT p s else if x.k=4 then cancelT s x.a.toNat else if x.k=5 then pickT p s x.a.toNat x.b.toNat x.c.toNat x.n else if x.k=6 then fillT p s else if x.k=7 then movedT s x.a.toNat x.n else countT p s x.a.toNat x.b.toNat x.n
section
variable {p:Pl} {s:St} {x:Ax}
theorem do_cases (P:Int→St→Prop) (h1:x.k=1→P (recvE p s x.a x.b x.n) (recvT s x.a.toNat x.b.toNat x.n)) (h2:x.k=2→P (enterE p s x.ls) (enterT s x.ls)) (h3:x.k=3→P (stateE p s) (relT p s)) (h4:x.k=4→P (cancelE p s x.a) (cancelT s x.a.toNat)) (h5:x.k=5→P (pickE p s x.a x.b x.c x.n) (pickT p s x.a.toNat x.b.toNat x.c.toNat x.n)) (h6:x.k=6→P (stateE p s) (fillT p s)) (h7:x.k=7→P (movedE p s x.a x.n) (movedT s x.a.toNat x.n)) (h8:x.k=8→P (countE p s x.a x.b x.n) (countT p s x.a.toNat x.b.toNat x.n)) (h0:¬ x.k=1→¬ x.k=2→¬ x.k=3→¬ x.k=4→¬ x.k=5→¬ x.k=6→¬ x.k=7→¬ x.k=8→P 8 (countT p s x.a.toNat x.b.toNat x.n)):P (doE p s x) (doT p s x):=by
 unfold doE doT
 by_cases k1:x.k=1
 ·rw [if_pos k1,if_pos k1];exact h1 k1
 rw [if_neg k1,if_neg k1]
 by_cases k2:x.k=2
 ·rw [if_pos k2,if_pos k2];exact h2 k2
 rw [if_neg k2,if_neg k2]
 by_cases k3:x.k=3
 ·rw [if_pos k3,if_pos k3];exact h3 k3
 rw [if_neg k3,if_neg k3]
 by_cases k4:x.k=4
 ·rw [if_pos k4,if_pos k4];exact h4 k4
 rw [if_neg k4,if_neg k4]
 by_cases k5:x.k=5
 ·rw [if_pos k5,if_pos k5];exact h5 k5
 rw [if_neg k5,if_neg k5]
 by_cases k6:x.k=6
 ·rw [if_pos k6,if_pos k6];exact h6 k6
 rw [if_neg k6,if_neg k6]
 by_cases k7:x.k=7
 ·rw [if_pos k7,if_pos k7];exact h7 k7
 rw [if_neg k7,if_neg k7]
 by_cases k8:x.k=8
 ·rw [if_pos k8];exact h8 k8
 rw [if_neg k8]
 exact h0 k1 k2 k3 k4 k5 k6 k7 k8
theorem pickIn_nat {order line bin n:Int} (h:pickE p s order line bin n=0):PickIn p s order.toNat line.toNat bin.toNat n:=by
 obtain ⟨-,o,l,b,rfl,rfl,rfl,hi⟩:=pickIn h
 exact hi
theorem movedIn_nat {k n:Int} (h:movedE p s k n=0):∃ (f b g:Nat) (N:Int),MovedIn p s k.toNat f b g N n:=by
 obtain ⟨-,i,f,b,g,N,rfl,hi⟩:=movedIn h
 exact ⟨f,b,g,N,hi⟩
theorem countIn_nat {bin good seen:Int} (h:countE p s bin good seen=0):CountIn p s bin.toNat good.toNat seen:=by
 obtain ⟨-,b,g,rfl,rfl,hi⟩:=countIn h
 exact hi
theorem recv_okr {bin good n:Int} (h:recvE p s bin good n=0):RightT p (recvT s bin.toNat good.toNat n):=by
 obtain ⟨h0,hb,hg,hn,-,h1,h2⟩:=recvE_zeros h
 exact recv_right (rightT h0) (by omega) (by omega) hn.1 h1 h2
theorem do_right:doE p s x=0→RightT p s∧RightT p (doT p s x):=by
 refine do_cases (fun E T=>E=0→RightT p s∧RightT p T) ?_ ?_ ?_ ?_ ?_ ?_ ?_ ?_ ?_
 ·exact fun _ h=>⟨rightT (recvE_zero h),recv_okr h⟩
 ·exact fun _ h=>⟨rightT (enterE_zero h).1,enter_right h⟩
 ·exact fun _ h=>⟨rightT h,relT_right (rightT h)⟩
 ·exact fun _ h=>⟨rightT (cancelE_zero h).1,cancel_right (rightT (cancelE_zero h).1) (cancelE_zero h).2.1.2⟩
 ·exact fun _ h=>⟨rightT (pickIn h).1,pick_right (pickIn_nat h)⟩
 ·exact fun _ h=>⟨rightT h,(fill_ends (rightT h)).r⟩
 ·exact fun _ h=>⟨rightT (movedIn h).1,by obtain ⟨f,b,g,N,hi⟩:=movedIn_nat h;exact moved_right hi⟩
 ·exact fun _ h=>⟨rightT (countIn h).1,count_right (countIn_nat h)⟩
 ·exact fun _ _ _ _ _ _ _ _ h=>absurd h (by decide)
end
theorem none_at {y:St} {w1:World} (h:NoneS y) (hy:y.At w1) (w2:World):y.At w2:=by
 obtain ⟨h1,h2,h3,h4,h5,h6,h7⟩:=h
 exact ⟨⟨hy.on.le,hy.on.cap,fun i hi=>absurd hi (by omega)⟩,⟨hy.os.le,hy.os.cap,fun i hi=>absurd hi (by omega)⟩,⟨hy.hs.le,hy.hs.cap,fun i hi=>absurd hi (by omega),hy.hs.nilc⟩,⟨hy.ms.le,hy.ms.cap,fun i hi=>absurd hi (by omega),hy.ms.nilc⟩,⟨hy.si.le,hy.si.cap,fun i hi=>absurd hi (by omega)⟩,⟨hy.so.le,hy.so.cap,fun i hi=>absurd hi (by omega)⟩,⟨hy.sf.le,hy.sf.cap,fun i hi=>absurd hi (by omega)⟩⟩
theorem act_at {E:Int} {T y:St} {A:Nat} {w1 w2:World} (h:ActOK E T y) (hy:y.At w1) (ho:E=0→OwnS A w2 y):y.At w2:=by
 by_cases e:E=0
 ·exact (ho e).at
 ·exact none_at (h.2 e) hy w2
theorem cutL_more {f:Hd→Bool}:∀ {R:List Hd} {m:Int},Pos0 R→sumB f R≤m→cutL f (m+1) R=cutL f m R
 | [],_,_,_=>rfl
 | h :: R,m,p,hs=>by
  have hh:=p.head
  have sn:=sumB_nn (P:=f) p.tail
  by_cases c:f h=true
  ·have e:∀ k,cutL f k (h :: R)=lessL h (min k h.n) :: cutL f (k - min k h.n) R:=fun k=>if_pos c
   have e3:sumB f (h :: R)=sumB f R+h.n:=by show _+(if f h then _ else _)=_;rw [if_pos c]
   rw [e3] at hs
   rw [e,e,show min (m+1) h.n=h.n by omega,show min m h.n=h.n by omega,show m+1 - h.n=m - h.n+1 by omega,cutL_more p.tail (by omega)]
  ·have e:∀ k,cutL f k (h :: R)=h :: cutL f k R:=fun k=>if_neg c
   have e3:sumB f (h :: R)=sumB f R:=by show _+(if f h then _ else _)=_;rw [if_neg c,Int.add_zero]
   rw [e3] at hs
   rw [e,e,cutL_more p.tail hs]
theorem last_none_sum {f:Hd→Bool} {z:Nat→Hd}:∀ {n:Nat},lastI f z n=none→sumB f (revL z n)=0
 | 0,_=>rfl
 | n+1,h=>by
  have k:=last_none h
  have c:f (z n)=false:=k n (by omega)
  have h':lastI f z n=none:=by
   have h2:(if f (z n) then some n else lastI f z n)=none:=h
   rw [if_neg (by rw [c];decide)] at h2
   exact h2
  show sumB f (revL z n)+(if f (z n) then (z n).n else 0)=0
  rw [last_none_sum h',if_neg (by rw [c];decide)]
  rfl
theorem last_some_sum {f:Hd→Bool} {z:Nat→Hd}:∀ {n k:Nat},(∀ x,x∈revL z n→1≤x.n)→lastI f z n=some k→1≤sumB f (revL z n)
 | 0,_,_,h=>by cases h
 | n+1,k,p,h=>by
  have pt:∀ x,x∈revL z n→1≤x.n:=fun x hx=>p x (List.mem_cons_of_mem _ hx)
  have p0:=sumB_nn (P:=f) (R:=revL z n) fun x hx=>by have:=pt x hx;omega
  have h':(if f (z n) then some n else lastI f z n)=some k:=h
  show 1≤sumB f (revL z n)+(if f (z n) then (z n).n else 0)
  by_cases c:f (z n)=true
  ·have:=p (z n) List.mem_cons_self
   rw [if_pos c]
   omega
  ·rw [if_neg c] at h' ⊢
   have:=last_some_sum pt h'
   omega
theorem last_congr {f f':Hd→Bool} {z:Nat→Hd}:∀ {n:Nat},(∀ j,j<n→f' (z j)=f (z j))→lastI f' z n=lastI f z n
 | 0,_=>rfl
 | n+1,h=>by
  show (if f' (z n) then some n else lastI f' z n)=if f (z n) then some n else lastI f z n
  rw [h n (by omega),last_congr (n:=n) fun j hj=>h j (by omega)]
def OneCut (h m:Hs) (k:Nat):Prop:=if (h.z k).n=1 then m.n=h.n - 1∧(∀ i,i<m.n→m.z i=dropZ h.z k i) else m.n=h.n∧∀ i,i<m.n→m.z i=lessN h.z k 1 i
theorem OneCut.rev {f:Hd→Bool} {h m:Hs} {k:Nat} (hk:lastI f h.z h.n=some k) (c:OneCut h m k):revL m.z m.n=oneL f (revL h.z h.n):=by
 have l:=last_lt hk
 unfold OneCut at c
 by_cases e:(h.z k).n=1
 ·rw [if_pos e] at c
  obtain ⟨q,hq⟩:∃ q,h.n=q+1:=⟨h.n - 1,by omega⟩
  rw [hq] at hk ⊢
  rw [← one_drop hk e,show m.n=q by omega]
  exact revL_congr fun j hj=>c.2 j (by omega)
 ·rw [if_neg e] at c
  rw [← one_less hk e,c.1]
  exact revL_congr fun j hj=>c.2 j (by omega)
section
variable {p:Pl} {s x:St} {b g:Nat} {seen J:Int}
def CutJ (s:St) (b g:Nat) (seen J:Int) (x:St):Prop:=SameT x (fixOn (cutS s b g J) b g seen)
theorem CutJ.start (r:RightT p s) (hb:b<p.nb) (hg:g<p.ns) (h:SameT x s):CutJ s b g seen 0 (fixOn x b g seen):=by
 have c:=h.trans (cut_none r b g).symm
 have e1:(x.on.r b).z g=(s.on.r b).z g:=h.num r.fm hb hg
 refine ⟨⟨c.on.1,fun i hi => ?_⟩,c.os,c.hs,c.ms,c.si,c.so,⟨c.sf.1,fun j hj => ?_⟩⟩
 ·have hi':i<x.on.n:=hi
  have k:=c.on.2 i hi'
  have l1:=setOn_len x b g seen i
  have l2:=setOn_len (cutS s b g 0) b g seen i
  have l3:((fixOn x b g seen).on.r i).n=(x.on.r i).n:=l1
  refine ⟨l1.trans (k.1.trans l2.symm),fun j hj => ?_⟩
  rw [fixOn_num,fixOn_num,k.2 j (by rw [← l3];exact hj)]
 ·have hj':j<x.sf.n:=hj
  show (if j=g then x.sf.z g+(seen - (x.on.r b).z g) else x.sf.z j)=if j=g then s.sf.z g+(seen - (s.on.r b).z g) else s.sf.z j
  rw [h.sf.2 j hj',e1]
  by_cases q:j=g
  ·rw [if_pos q,if_pos q,← q,h.sf.2 j hj']
  ·rw [if_neg q,if_neg q]
theorem CutJ.revM (h:CutJ s b g seen J x):revL x.ms.z x.ms.n=flt (cutL (fromF b g) J (moveR s)):=by
 have e:revL x.ms.z x.ms.n=revL (cutHs (fromF b g) s.ms J).z (cutHs (fromF b g) s.ms J).n:=by
  have n:x.ms.n=(cutHs (fromF b g) s.ms J).n:=h.ms.1
  rw [n]
  exact revL_congr fun j hj=>h.ms.2 j (by rw [n];exact hj)
 rw [e,cutHs_rev]
 rfl
theorem CutJ.revH (h:CutJ s b g seen J x):revL x.hs.z x.hs.n=flt (cutL (heldF s b g) (leftM s b g J) (holdR s)):=by
 have e:revL x.hs.z x.hs.n=revL (cutHs (heldF s b g) s.hs (leftM s b g J)).z (cutHs (heldF s b g) s.hs (leftM s b g J)).n:=by
  have n:x.hs.n=(cutHs (heldF s b g) s.hs (leftM s b g J)).n:=h.hs.1
  rw [n]
  exact revL_congr fun j hj=>h.hs.2 j (by rw [n];exact hj)
 rw [e,cutHs_rev]
 rfl
theorem flt_one {R:List Hd} (p:Pos0 R):∀ y,y∈flt R→1≤y.n:=fun y hy=>by
 unfold flt at hy
 rw [List.mem_filter] at hy
 have:=p y hy.1
 have h2:=hy.2
 unfold goneH at h2
 simp at h2
 omega
theorem CutJ.move (r:RightT p s) (h0:0≤J) (h:CutJ s b g seen J x) {k:Nat} (hk:lastI (fromF b g) x.ms.z x.ms.n=some k) {m:Hs} (c:OneCut x.ms m k):CutJ s b g seen (J+1) (withMoves x m):=by
 have e:=c.rev hk
 have s1:=last_some_sum (by rw [h.revM];exact flt_one (cutL_pos _ r.movesP h0)) hk
 rw [h.revM,sumB_flt,(sumB_cut (fromF_blind b g) r.movesP h0).1] at s1
 have hJ:J+1≤sumB (fromF b g) (moveR s):=by omega
 rw [h.revM,(one_cut (fromF_blind b g) r.moves0 h0 hJ).1] at e
 have e2:revL m.z m.n=revL (cutHs (fromF b g) s.ms (J+1)).z (cutHs (fromF b g) s.ms (J+1)).n:=by rw [e,cutHs_rev];rfl
 have e3:=revL_inj e2
 have f1:fromTo s b g s.ms.n=sumB (fromF b g) (moveR s):=from_sum s b g s.ms.n
 have L:leftM s b g (J+1)=leftM s b g J:=by
  have a1:=(leftM_eq (b:=b) (g:=g) r h0).1
  have a2:=(leftM_eq (b:=b) (g:=g) (M:=J+1) r (by omega)).1
  omega
 have eq:cutQs s b g (J+1)=cutQs s b g J:=by unfold cutQs;rw [L]
 have eo:(fixOn (cutS s b g (J+1)) b g seen).os=(fixOn (cutS s b g J) b g seen).os:=by
  show backOs s.os (cutQs s b g (J+1))=backOs s.os (cutQs s b g J)
  rw [eq]
 have eh:(fixOn (cutS s b g (J+1)) b g seen).hs=(fixOn (cutS s b g J) b g seen).hs:=by
  show cutHs (heldF s b g) s.hs (leftM s b g (J+1))=cutHs (heldF s b g) s.hs (leftM s b g J)
  rw [L]
 exact ⟨h.on,by rw [eo];exact h.os,by rw [eh];exact h.hs,e3,h.si,h.so,h.sf⟩
theorem CutJ.noMove (r:RightT p s) (h0:0≤J) (h:CutJ s b g seen J x) (hk:lastI (fromF b g) x.ms.z x.ms.n=none):sumB (fromF b g) (moveR s)≤J∧leftM s b g (J+1)=leftM s b g J+1:=by
 have e:=last_none_sum hk
 rw [h.revM,sumB_flt,(sumB_cut (fromF_blind b g) r.movesP h0).1] at e
 have f1:fromTo s b g s.ms.n=sumB (fromF b g) (moveR s):=from_sum s b g s.ms.n
 have a1:=(leftM_eq (b:=b) (g:=g) r h0).1
 have a2:=(leftM_eq (b:=b) (g:=g) (M:=J+1) r (by omega)).1
 have h5:=(fromTo_bd (s:=s) (b:=b) (g:=g) (n:=s.ms.n) r.fm.moveN).1
 omega
theorem CutJ.good (r:RightT p s) (h0:0≤J) (h:CutJ s b g seen J x) {j:Nat} (hj:j<x.hs.n):heldF x b g (x.hs.z j)=heldF s b g (x.hs.z j):=by
 have f:=cut_formed (b:=b) (g:=g) r h0
 have hn:x.hs.n=(cutS s b g J).hs.n:=h.hs.1
 have hz:x.hs.z j=(cutS s b g J).hs.z j:=h.hs.2 j hj
 obtain ⟨h1,h2,-⟩:=homeless_no (f.home j (by rw [← hn];exact hj))
 rw [← hz] at h1 h2
 have hl:=h.line (i:=(x.hs.z j).o.toNat) (j:=(x.hs.z j).l.toNat) h1.2 h2.2
 unfold heldF
 congr 2
 unfold goodH
 rw [hl]
 rfl
theorem CutJ.hold (r:RightT p s) (h0:0≤J) (h:CutJ s b g seen J x) (hk:lastI (fromF b g) x.ms.z x.ms.n=none) {k:Nat} (hh:lastI (heldF x b g) x.hs.z x.hs.n=some k) {m:Hs} (c:OneCut x.hs m k) {o l:Nat} (ho:(x.hs.z k).o=o) (hl:(x.hs.z k).l=l):CutJ s b g seen (J+1) (setLine (withHolds x m) o l 3 (((x.os.z o).ls.z l).n+1))∧∀ a d:Int,cutQs s b g (J+1) a d=cutQs s b g J a d+if a=o∧d=l then 1 else 0:=by
 obtain ⟨hS,L⟩:=h.noMove r h0 hk
 have L0:=(leftM_eq (b:=b) (g:=g) r h0).2
 have hh':lastI (heldF s b g) x.hs.z x.hs.n=some k:=by rw [← hh];exact (last_congr fun j hj=>h.good r h0 hj).symm
 have e:=c.rev hh'
 have s1:=last_some_sum (by rw [h.revH];exact flt_one (cutL_pos _ r.holdsP L0)) hh'
 rw [h.revH,sumB_flt,(sumB_cut (heldF_blind s b g) r.holdsP L0).1] at s1
 have hJ:leftM s b g J+1≤sumB (heldF s b g) (holdR s):=by omega
 obtain ⟨o1,h0',f0,q1⟩:=one_cut (heldF_blind s b g) r.holds0 L0 hJ
 rw [h.revH,o1] at e
 have e2:revL m.z m.n=revL (cutHs (heldF s b g) s.hs (leftM s b g (J+1))).z (cutHs (heldF s b g) s.hs (leftM s b g (J+1))).n:=by rw [e,cutHs_rev,L];rfl
 have e3:=revL_inj e2
 have fd:(revL x.hs.z x.hs.n).find? (heldF s b g)=some (x.hs.z k):=by rw [last_find,hh'];rfl
 rw [h.revH,f0] at fd
 have eh0:h0'=x.hs.z k:=by simpa using fd
 have Q:∀ a d:Int,cutQs s b g (J+1) a d=cutQs s b g J a d+if a=o∧d=l then 1 else 0:=fun a d=>by
  unfold cutQs
  rw [L,q1,eh0,ho,hl]
  by_cases u:a=o∧d=l
  ·rw [if_pos u,if_pos ⟨u.1.symm,u.2.symm⟩]
  ·rw [if_neg u,if_neg (fun v=>u ⟨v.1.symm,v.2.symm⟩)]
 refine ⟨⟨h.on,⟨h.os.1,fun i hi => ?_⟩,e3,?_,h.si,h.so,h.sf⟩,Q⟩
 ·have hi':i<x.os.n:=hi
  have w:=h.os.2 i hi'
  rw [setLine_k,(setLine_n i).1]
  refine ⟨w.1,w.2.1,fun j hj => ?_⟩
  rw [setLine_at]
  have hj':j<(x.os.z i).ls.n:=hj
  have v:(x.os.z i).ls.z j=moreL ((s.os.z i).ls.z j) (cutQs s b g J i j):=w.2.2 j hj'
  show (if i=o∧j=l then setHd ((x.os.z i).ls.z j) 3 _ else (x.os.z i).ls.z j)=moreL ((s.os.z i).ls.z j) (cutQs s b g (J+1) i j)
  rw [Q]
  by_cases u:i=o∧j=l
  ·rw [if_pos u,if_pos ⟨by omega,by omega⟩,← u.1,← u.2,v]
   show (⟨_,_,_,_+1⟩:Hd)=⟨_,_,_,_+(_+1)⟩
   unfold moreL
   rw [Int.add_assoc]
  ·rw [if_neg u,if_neg (fun e=>u ⟨by omega,by omega⟩),v,Int.add_zero]
 ·have e4:revL (cutHs (fromF b g) s.ms (J+1)).z (cutHs (fromF b g) s.ms (J+1)).n=revL (cutHs (fromF b g) s.ms J).z (cutHs (fromF b g) s.ms J).n:=by
   have e1:revL s.ms.z s.ms.n=moveR s:=rfl
   rw [cutHs_rev,cutHs_rev,e1,cutL_more r.movesP hS]
  have e5:=revL_inj e4
  have n1:x.ms.n=(cutHs (fromF b g) s.ms J).n:=h.ms.1
  refine ⟨?_,fun j hj => ?_⟩
  ·show x.ms.n=(cutHs (fromF b g) s.ms (J+1)).n
   rw [n1,e5.1]
  ·have hj':j<x.ms.n:=hj
   show x.ms.z j=(cutHs (fromF b g) s.ms (J+1)).z j
   rw [e5.2 j (by rw [e5.1,← n1];exact hj')]
   exact h.ms.2 j hj'
end
structure SameA (x y:Ax):Prop where
 k:x.k=y.k
 a:x.a=y.a
 b:x.b=y.b
 c:x.c=y.c
 n:x.n=y.n
 ln:x.ls.n=y.ls.n
 lz:∀ j,j<y.ls.n→x.ls.z j=y.ls.z j
theorem SameA.self (x:Ax):SameA x x:=⟨rfl,rfl,rfl,rfl,rfl,rfl,fun _ _=>rfl⟩
section
variable {p:Pl} {s y:St}
theorem recvE_same (r:RightT p s) (e:SameT y s) (bin good n:Int):recvE p y bin good n=recvE p s bin good n:=by
 unfold recvE
 rw [if_pos (stateE_of (e.right r)),if_pos (stateE_of r)]
 cases h:(inB bin 0 ((p.nb:Int) - 1)&&inB good 0 ((p.ns:Int) - 1)&&inB n 1 200)
 ·rfl
 ·simp only [Bool.and_eq_true] at h
  have h1:=inB_true h.1.1
  have h2:=inB_true h.1.2
  have hb:bin.toNat<p.nb:=by omega
  have hg:good.toNat<p.ns:=by omega
  rw [e.free r.fm hb,e.lying r.fm hb hg,e.si.2 good.toNat (by rw [e.si.1,r.fm.sin];exact hg)]
theorem recvT_same (r:RightT p s) (e:SameT y s) {b g:Nat} (hb:b<p.nb) (hg:g<p.ns) (n:Int):SameT (recvT y b g n) (recvT s b g n):=by
 unfold recvT
 rw [e.num r.fm hb hg,e.si.2 g (by rw [e.si.1,r.fm.sin];exact hg)]
 exact setIn_same (setOn_same e _ _ _) _ _
theorem enterE_same (r:RightT p s) (e:SameT y s) {l l':Hs} (hn:l'.n=l.n) (hz:∀ j,j<l.n→l'.z j=l.z j):enterE p y l'=enterE p s l:=by
 unfold enterE
 rw [if_pos (stateE_of (e.right r)),if_pos (stateE_of r),e.os.1,hn,anyB_congr (f:=fun j=>outL p (l'.z j)) (g:=fun j=>outL p (l.z j)) fun j hj=>by rw [hz j hj],anyB_congr (f:=fun j=>begunL (l'.z j)) (g:=fun j=>begunL (l.z j)) fun j hj=>by rw [hz j hj]]
theorem enterT_same (e:SameT y s) {l l':Hs} (hn:l'.n=l.n) (hz:∀ j,j<l.n→l'.z j=l.z j):SameT (enterT y l') (enterT s l):=by
 refine ⟨e.on,⟨by show y.os.n+1=s.os.n+1;rw [e.os.1],fun i hi => ?_⟩,e.hs,e.ms,e.si,e.so,e.sf⟩
 have hi':i<y.os.n+1:=hi
 by_cases c:i=y.os.n
 ·have c':i=s.os.n:=c.trans e.os.1
  have e1:(enterT y l').os.z i=⟨0,l'⟩:=if_pos c
  have e2:(enterT s l).os.z i=⟨0,l⟩:=if_pos c'
  rw [e1,e2]
  exact ⟨rfl,hn,fun j hj=>hz j (by rw [← hn];exact hj)⟩
 ·have c':¬ i=s.os.n:=fun h=>c (h.trans e.os.1.symm)
  have e1:(enterT y l').os.z i=y.os.z i:=if_neg c
  have e2:(enterT s l).os.z i=s.os.z i:=if_neg c'
  rw [e1,e2]
  exact e.os.2 i (by omega)
theorem cancelE_same (r:RightT p s) (e:SameT y s) (o:Int):cancelE p y o=cancelE p s o:=by
 unfold cancelE
 rw [if_pos (stateE_of (e.right r)),if_pos (stateE_of r),e.os.1]
 cases h:inB o 0 ((s.os.n:Int) - 1)
 ·rfl
 ·have h1:=inB_true h
  rw [(e.os.2 o.toNat (by rw [e.os.1];omega)).1]
theorem lineGood_same (e:SameT y s) {o l:Nat} (ho:o<s.os.n) (hl:l<(s.os.z o).ls.n):lineGood y o l=lineGood s o l:=by
 unfold lineGood
 rw [e.line ho hl]
theorem pickE_same (r:RightT p s) (e:SameT y s) (order line bin n:Int):pickE p y order line bin n=pickE p s order line bin n:=by
 have hh:heldAt y order line bin=heldAt s order line bin:=e.keptV _ _ _
 unfold pickE
 rw [if_pos (stateE_of (e.right r)),if_pos (stateE_of r),hh]
 by_cases h:heldAt s order line bin=0
 ·rw [if_pos h,if_pos h]
 ·rw [if_neg h,if_neg h]
  obtain ⟨o,l,b,rfl,rfl,rfl,hi⟩:=holdIn r h
  have g:=hi.good
  have e1:lineGood y (o:Int).toNat (l:Int).toNat=lineGood s (o:Int).toNat (l:Int).toNat:=lineGood_same e hi.on hi.ln
  have e2:y.so.z (lineGood s (o:Int).toNat (l:Int).toNat)=s.so.z (lineGood s (o:Int).toNat (l:Int).toNat):=e.so.2 _ (by rw [e.so.1,r.fm.son];exact g.2)
  rw [e1,e2]
theorem find_same {α:Type} {f g:α→Bool}:∀ {l:List α},(∀ x,x∈l→f x=g x)→l.find? f=l.find? g
 | [],_=>rfl
 | a :: l,h=>by
  rw [List.find?_cons,List.find?_cons,h a List.mem_cons_self,find_same fun x hx=>h x (List.mem_cons_of_mem _ hx)]
theorem dropHs_same {h k:Hs} (hn:h.n=k.n) (hz:∀ j,j<h.n→h.z j=k.z j) (o l b:Int) (hp:0<k.n):(dropHs h o l b).n=(dropHs k o l b).n∧∀ j,j<(dropHs h o l b).n→(dropHs h o l b).z j=(dropHs k o l b).z j:=by
 have ei:dropI h.n h.z o l b=dropI k.n k.z o l b:=by
  unfold dropI
  rw [hn,find_same fun i hi=>by rw [hz i (by rw [hn];exact List.mem_range.1 hi)]]
 refine ⟨by show h.n - 1=k.n - 1;rw [hn],fun j hj => ?_⟩
 have hj':j<h.n - 1:=hj
 show dropZ h.z (dropI h.n h.z o l b) j=dropZ k.z (dropI k.n k.z o l b) j
 rw [ei]
 unfold dropZ
 rw [hz j (by omega),hz (j+1) (by omega)]
theorem pickS_same (e:SameT y s) {o l b:Nat} {n:Int} (hI:HoldIn p s o l b):SameT (pickS y o l b n) (pickS s o l b n):=by
 have hh:heldAt y o l b=heldAt s o l b:=e.keptV _ _ _
 have g:=lineGood_same e hI.on hI.ln
 have hp:0<s.hs.n:=by
  apply Classical.byContradiction
  intro h
  have h0:s.hs.n=0:=by omega
  exact hI.kp (by unfold heldAt;rw [h0];rfl)
 have d:=dropHs_same e.hs.1 e.hs.2 o l b hp
 have k:=pickW_same e (n:=n) hI d.1 d.2
 rw [← g,← hh] at k
 exact k
theorem pickT_same (e:SameT y s) {o l b:Nat} {n:Int} (h:PickIn p s o l b n):SameT (pickT p y o l b n) (pickT p s o l b n):=by
 have S:=pickS_same (n:=n) e h.hd
 have hh:heldAt y o l b=heldAt s o l b:=e.keptV _ _ _
 have g:=gotAll_same S (o:=o) h.hd.on
 unfold pickT
 rw [g,hh]
 by_cases c:gotAll (pickS s o l b n) o=true
 ·rw [if_pos c,if_pos c];exact kindS_same S _ _
 ·rw [if_neg c,if_neg c]
  have T:=h.takeIn
  exact Step.same T S (takeT_step T) (takeT_step (T.same S))
theorem fillOne_same (r:RightT p s) (e:SameT y s) {b g f:Nat} (hb:b<p.nb) (hg:g<p.ns) (hf:f<p.nb):SameT (fillOne p b g f y) (fillOne p b g f s):=by
 unfold fillOne
 rw [fillN_same e r.fm hb hg hf,e.ms.1]
 by_cases c:s.ms.n<8∧1≤fillN p s b g f
 ·rw [if_pos c,if_pos c]
  exact addMove_same e _ (k:=(addMove y ⟨g,f,b,fillN p s b g f⟩).ms) rfl (fun j hj=>if_neg (by omega)) (if_pos rfl)
 ·rw [if_neg c,if_neg c];exact e
theorem fillF_same {s0:St} {b g:Nat} (hb:b<p.nb) (hbf:(p.zb b).front=true) (hg:g<p.ns) (L:List (BinX p false)):∀ {s y:St},FillEnd p s0 s→SameT y s→SameT (fillF p b g L y) (fillF p b g L s):=by
 induction L with
 | nil=>exact fun _ e=>e
 | cons f L ih=>exact fun E e=>ih (E.step hb hbf hg f.2.1 f.2.2) (fillOne_same E.r e hb hg f.2.1)
theorem fillG_same {s0:St} {b:Nat} (hb:b<p.nb) (hbf:(p.zb b).front=true) {s y:St} (E:FillEnd p s0 s) (e:SameT y s):∀ {g:Nat},g≤p.ns→SameT (fillG p b g y) (fillG p b g s)
 | 0,_=>e
 | g+1,hg=>by
  have ih:=fillG_same hb hbf E e (g:=g) (by omega)
  have E':=E.G hb hbf (g:=g) (by omega)
  simp only [fillG]
  rw [ih.lying E'.r.fm hb (by omega)]
  split
  ·exact ih
  ·exact fillF_same hb hbf (by omega) _ E' ih
theorem fillB_same {s0:St} (L:List (BinX p true)):∀ {s y:St},FillEnd p s0 s→SameT y s→SameT (fillB p L y) (fillB p L s):=by
 induction L with
 | nil=>exact fun _ e=>e
 | cons b L ih=>exact fun E e=>ih (E.G b.2.1 b.2.2 (Nat.le_refl _)) (fillG_same b.2.1 b.2.2 E e (Nat.le_refl _))
theorem fillT_same (r:RightT p s) (e:SameT y s):SameT (fillT p y) (fillT p s):=fillB_same _ (FillEnd.refl r) e
theorem movedE_same (r:RightT p s) (e:SameT y s) (k n:Int):movedE p y k n=movedE p s k n:=by
 unfold movedE
 rw [if_pos (stateE_of (e.right r)),if_pos (stateE_of r),e.ms.1]
 cases h:inB k 0 ((s.ms.n:Int) - 1)
 ·rfl
 ·have h1:=inB_true h
  have hk:k.toNat<s.ms.n:=by omega
  obtain ⟨u1,u2,u3,-⟩:=badMove_no (r.fm.move k.toNat hk)
  rw [e.ms.2 k.toNat (by rw [e.ms.1];exact hk),e.num r.fm (b:=(s.ms.z k.toNat).b.toNat) (g:=(s.ms.z k.toNat).o.toNat) (by omega) (by omega)]
theorem movedT_same (e:SameT y s) {k f b g:Nat} {N n:Int} (h:MovedIn p s k f b g N n):SameT (movedT y k n) (movedT s k n):=by
 have hk:=h.kn
 have e1:y.ms.z k=⟨g,f,b,N⟩:=(e.ms.2 k (by rw [e.ms.1];exact hk)).trans h.m
 have e2:movedT y k n=movedW y (delM y.ms k) f b g n:=by
  unfold movedT
  rw [e1]
  simp only [Int.toNat_natCast]
 rw [e2]
 refine movedW_same h e (by show y.ms.n - 1=_;rw [e.ms.1]) fun j hj => ?_
 have hj':j<y.ms.n - 1:=hj
 show (if j<k then y.ms.z j else y.ms.z (j+1))=if j<k then s.ms.z j else s.ms.z (j+1)
 rw [e.ms.2 j (by omega),e.ms.2 (j+1) (by omega)]
theorem countE_same (r:RightT p s) (e:SameT y s) (bin good seen:Int):countE p y bin good seen=countE p s bin good seen:=by
 unfold countE
 rw [if_pos (stateE_of (e.right r)),if_pos (stateE_of r)]
 cases h:(inB bin 0 ((p.nb:Int) - 1)&&inB good 0 ((p.ns:Int) - 1)&&inB seen 0 200)
 ·rfl
 ·simp only [Bool.and_eq_true] at h
  have h1:=inB_true h.1.1
  have h2:=inB_true h.1.2
  have hb:bin.toNat<p.nb:=by omega
  have hg:good.toNat<p.ns:=by omega
  rw [e.num r.fm hb hg,e.sf.2 good.toNat (by rw [e.sf.1,r.fm.sfn];exact hg)]
theorem countT_same (e:SameT y s) {b g:Nat} {seen:Int} (h:CountIn p s b g seen):SameT (countT p y b g seen) (countT p s b g seen):=by
 have r:=h.r
 have e1:(y.on.r b).z g=(s.on.r b).z g:=e.num r.fm h.bn h.gn
 have e2:y.sf.z g=s.sf.z g:=e.sf.2 g (by rw [e.sf.1,r.fm.sfn];exact h.gn)
 have hy:CountIn p y b g seen:=⟨e.right r,h.bn,h.gn,h.s0,h.s1,by rw [e1,e2];exact h.fx⟩
 have em:missZ y b g seen=missZ s b g seen:=by unfold missZ boundZ;rw [e.held r.fm,e.from]
 have c:=cutS_same r.fm e b g (missZ s b g seen)
 have S:SameT (countS y b g seen) (countS s b g seen):=by
  unfold countS
  rw [em]
  exact fixOn_same c.1 e1 e2
 refine TkAll.same h.qin (fun _ _=>rfl) (Nat.le_refl s.os.n) h.all ?_
 have a:=hy.all
 rw [e.os.1] at a
 refine TkAll.base (m':=relM y) S (fun _ _=>rfl) (fun i hi => ?_) (fun i j _ _ => ?_) (Nat.le_refl s.os.n) a
 ·exact (e.os.2 i (by rw [e.os.1];exact hi)).2.1
 ·show cutQs y b g (missZ y b g seen) i j=cutQs s b g (missZ s b g seen) i j
  rw [em,c.2]
theorem do_same {x x':Ax} (r:RightT p s) (e:SameT y s) (a:SameA x' x):doE p y x'=doE p s x∧(doE p s x=0→SameT (doT p y x') (doT p s x)):=by
 obtain ⟨k',a',b',c',n',ls'⟩:=x'
 obtain ⟨ak,aa,ab,ac,an,aln,alz⟩:=a
 simp only at ak aa ab ac an aln alz
 subst ak aa ab ac an
 have hs:stateE p y=0:=stateE_of (e.right r)
 have hs':stateE p s=0:=stateE_of r
 unfold doE doT
 dsimp only
 by_cases k1:x.k=1
 ·rw [if_pos k1,if_pos k1,if_pos k1,if_pos k1]
  refine ⟨recvE_same r e _ _ _,fun h => ?_⟩
  obtain ⟨-,hb,hg,-⟩:=recvE_zeros h
  exact recvT_same r e (by omega) (by omega) _
 rw [if_neg k1,if_neg k1,if_neg k1,if_neg k1]
 by_cases k2:x.k=2
 ·rw [if_pos k2,if_pos k2,if_pos k2,if_pos k2]
  exact ⟨enterE_same r e aln alz,fun _=>enterT_same e aln alz⟩
 rw [if_neg k2,if_neg k2,if_neg k2,if_neg k2]
 by_cases k3:x.k=3
 ·rw [if_pos k3,if_pos k3,if_pos k3,if_pos k3]
  exact ⟨hs.trans hs'.symm,fun _=>relT_same r e⟩
 rw [if_neg k3,if_neg k3,if_neg k3,if_neg k3]
 by_cases k4:x.k=4
 ·rw [if_pos k4,if_pos k4,if_pos k4,if_pos k4]
  exact ⟨cancelE_same r e _,fun h=>cancel_same e (by rw [e.os.1];exact (cancelE_zero h).2.1.2)⟩
 rw [if_neg k4,if_neg k4,if_neg k4,if_neg k4]
 by_cases k5:x.k=5
 ·rw [if_pos k5,if_pos k5,if_pos k5,if_pos k5]
  exact ⟨pickE_same r e _ _ _ _,fun h=>pickT_same e (pickIn_nat h)⟩
 rw [if_neg k5,if_neg k5,if_neg k5,if_neg k5]
 by_cases k6:x.k=6
 ·rw [if_pos k6,if_pos k6,if_pos k6,if_pos k6]
  exact ⟨hs.trans hs'.symm,fun _=>fillT_same r e⟩
 rw [if_neg k6,if_neg k6,if_neg k6,if_neg k6]
 by_cases k7:x.k=7
 ·rw [if_pos k7,if_pos k7,if_pos k7,if_pos k7]
  exact ⟨movedE_same r e _ _,fun h=>by obtain ⟨f,b,g,N,hi⟩:=movedIn_nat h;exact movedT_same e hi⟩
 rw [if_neg k7,if_neg k7,if_neg k7,if_neg k7]
 by_cases k8:x.k=8
 ·rw [if_pos k8,if_pos k8]
  exact ⟨countE_same r e _ _ _,fun h=>countT_same e (countIn_nat h)⟩
 ·rw [if_neg k8,if_neg k8]
  exact ⟨rfl,fun h=>absurd h (by decide)⟩
end
def hdN (l:Hd):List Int:=[l.o,l.l,l.b,l.n]
def headN (x:Ax):List Int:=[x.k,x.a,x.b,x.c,x.n,(x.ls.n:Int)]
def linesN (z:Nat→Hd):Nat→List Int
 | 0=>[]
 | n+1=>linesN z n++hdN (z n)
theorem linesN_len (z:Nat→Hd):∀ n,(linesN z n).length=4*n
 | 0=>rfl
 | n+1=>by rw [linesN,List.length_append,linesN_len z n];simp [hdN];omega
def actN (x:Ax):List Int:=headN x++linesN x.ls.z x.ls.n
theorem actN_len (x:Ax):(actN x).length=6+4*x.ls.n:=by
 unfold actN
 rw [List.length_append,linesN_len]
 rfl
def writeE (x:Ax):Int:=if (actN x).any noByte then 3 else if 3<x.ls.n then 2 else 0
def writeB (x:Ax):List UInt8:=(actN x).map byteOf
def writeL (x:Ax):List UInt8:=if writeE x=0 then writeB x else []
theorem writeB_len (x:Ax):(writeB x).length=6+4*x.ls.n:=by
 unfold writeB
 rw [List.length_map,actN_len]
theorem writeE_zero {x:Ax} (h:writeE x=0):(actN x).any noByte=false∧x.ls.n≤3:=by
 unfold writeE at h
 cases c:(actN x).any noByte
 ·rw [c] at h
  simp only [Bool.false_eq_true,if_false] at h
  refine ⟨rfl,?_⟩
  by_cases d:3<x.ls.n
  ·rw [if_pos d] at h;cases h
  ·omega
 ·rw [c] at h
  simp at h
def rdL (t:List UInt8) (i:Nat):Hd:=⟨rdN t i,rdN t (i+1),rdN t (i+2),rdN t (i+3)⟩
def rdC (t:List UInt8) (k:Nat):Nat:=(rdN t (k+5)).toNat
theorem rdC_eq (t:List UInt8) (k:Nat):(rdC t k:Int)=rdN t (k+5):=by
 have:=rdN_bd t (k+5)
 unfold rdC
 omega
def rdZ (t:List UInt8) (k j:Nat):Hd:=if j<rdC t k then rdL t (k+6+4*j) else ⟨0,0,0,0⟩
theorem rdZ_in {t:List UInt8} {k j:Nat} (h:j<rdC t k):rdZ t k j=rdL t (k+6+4*j):=if_pos h
def rdA (t:List UInt8) (k:Nat):Ax:=⟨rdN t k,rdN t (k+1),rdN t (k+2),rdN t (k+3),rdN t (k+4),⟨none,rdC t k,0,rdZ t k⟩⟩
def rdSize (t:List UInt8) (k:Nat):Nat:=6+4*rdC t k
def rdOK (t:List UInt8) (k:Nat):Bool:=decide (k+6≤t.length)&&decide (rdC t k≤3)&&decide (k+rdSize t k≤t.length)
theorem rdOK_iff {t:List UInt8} {k:Nat}:rdOK t k=true↔k+6≤t.length∧rdC t k≤3∧k+rdSize t k≤t.length:=by
 unfold rdOK
 simp only [Bool.and_eq_true,decide_eq_true_eq,and_assoc]
def repF (t:List UInt8):Nat→Nat→List Ax × Nat
 | 0,k=>([],k)
 | f+1,k=>if rdOK t k then (rdA t k :: (repF t f (k+rdSize t k)).1,(repF t f (k+rdSize t k)).2) else ([],k)
theorem repF_yes {t:List UInt8} {f k:Nat} (h:rdOK t k=true):repF t (f+1) k=(rdA t k :: (repF t f (k+rdSize t k)).1,(repF t f (k+rdSize t k)).2):=by rw [repF,if_pos h]
theorem repF_no {t:List UInt8} {f k:Nat} (h:rdOK t k=false):repF t f k=([],k):=by
 cases f with
 | zero=>rfl
 | succ f=>rw [repF,if_neg (by rw [h];decide)]
def repE (t:List UInt8):Int:=if 4096<t.length then 2 else 0
def repL (t:List UInt8):List Ax:=if 4096<t.length then [] else (repF t 60 0).1
def repN (t:List UInt8):Nat:=if 4096<t.length then 0 else (repF t 60 0).2
theorem repF_len (t:List UInt8):∀ f k,(repF t f k).1.length≤f
 | 0,_=>Nat.le_refl _
 | f+1,k=>by
  cases h:rdOK t k
  ·rw [repF_no h];exact Nat.zero_le _
  ·rw [repF_yes h]
   have:=repF_len t f (k+rdSize t k)
   simp only [List.length_cons]
   omega
theorem repL_len (t:List UInt8):(repL t).length≤60:=by
 unfold repL
 by_cases h:4096<t.length
 ·rw [if_pos h];exact Nat.zero_le _
 ·rw [if_neg h];exact repF_len _ _ _
def doneS (p:Pl) (s:St) (x:Ax):St:=if doE p s x=0 then doT p s x else s
def doneT (p:Pl) (s:St) (l:List Ax):St:=l.foldl (doneS p) s
theorem doneS_right {p:Pl} {s:St} {x:Ax} (r:RightT p s):RightT p (doneS p s x):=by
 unfold doneS
 by_cases h:doE p s x=0
 ·rw [if_pos h];exact (do_right h).2
 ·rw [if_neg h];exact r
theorem doneT_right {p:Pl}:∀ (l:List Ax) {s:St},RightT p s→RightT p (doneT p s l)
 | [],_,r=>r
 | x :: l,s,r=>doneT_right l (s:=doneS p s x) (doneS_right r)
theorem doneS_same {p:Pl} {s y:St} {x x':Ax} (r:RightT p s) (e:SameT y s) (a:SameA x' x):SameT (doneS p y x') (doneS p s x):=by
 obtain ⟨h1,h2⟩:=do_same r e a
 unfold doneS
 rw [h1]
 by_cases h:doE p s x=0
 ·rw [if_pos h,if_pos h];exact h2 h
 ·rw [if_neg h,if_neg h];exact e
structure As where
 a:Option Addr
 n:Nat
 c:Nat
 z:Nat→Ax
def As.val (s:As):Value := .slice s.a s.n s.c
def axCells (x:Ax):List Value:=[.int .i64 x.k,.int .i64 x.a,.int .i64 x.b,.int .i64 x.c,.int .i64 x.n,.slice x.ls.a x.ls.n x.ls.c]
def flatA:Nat→(Nat→Ax)→List Value
 | 0,_=>[]
 | n+1,z=>flatA n z++axCells (z n)
theorem flatA_len (z:Nat→Ax):∀ n,(flatA n z).length=n*6
 | 0=>rfl
 | n+1=>by rw [flatA,List.length_append,flatA_len z n];simp [axCells];omega
theorem flatA_congr {z z':Nat→Ax}:∀ {n:Nat},(∀ i,i<n→z i=z' i)→flatA n z=flatA n z'
 | 0,_=>rfl
 | n+1,h=>by rw [flatA,flatA,flatA_congr fun i hi=>h i (by omega),h n (by omega)]
theorem flatA_get {z:Nat→Ax}:∀ {n i j:Nat},i<n→j<6→(flatA n z).getD (i*6+j) default=(axCells (z i)).getD j default
 | 0,_,_,h,_=>absurd h (Nat.not_lt_zero _)
 | n+1,i,j,hi,hj=>by
  rw [flatA]
  by_cases h:i=n
  ·subst h
   simp only [List.getD]
   rw [List.getElem?_append_right (by rw [flatA_len];omega),flatA_len]
   congr 2
   omega
  ·have:=flatA_get (z:=z) (n:=n) (i:=i) (j:=j) (by omega) hj
   simp only [List.getD] at this ⊢
   rw [List.getElem?_append_left (by rw [flatA_len];omega)]
   exact this
structure As.At (w:World) (s:As):Prop where
 le:s.n≤s.c
 cap:s.c≤maxLen
 cells:∀ i,i<s.n→∃ b o,s.a=some ⟨b,o,none⟩∧∀ j,j<6→w.cell? ⟨b,o+(i*6+j),none⟩=some ((axCells (s.z i)).getD j default)
 lines:∀ i,i<s.n→(s.z i).ls.At w
end Go.Proofs.YtbcacebifpagpagGreat

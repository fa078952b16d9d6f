/- Texts that were built one behind the other, joined; what is not reached is left out. -/
import Derived.Test.YtbcacebifpagpagGreatK7Log
namespace Go.Proofs.YtbcacebifpagpagGreat
variable{n b A g o l c i q j R L M:Nat}{w a d:World}{s x y u:St}{r W J D:Int}{e H:TypeId}{p:Pl}{z O:Nat->Hd}{f f':Nat->Value}{Q:Exit->Act->World->Prop}{v c1 c3 c2:Value}{xs:List Value}{U V:Hs}{X Y:Int->Int->Int}{P:Program}{h Z:Hd}{t:List UInt8}{E:Hd->Bool}{z' zs:Nat->Int}{S:World->Prop}{a1:Act}{K:Act->World->Prop}
open Go.RowKit
set_option linter.unusedVariables false
def Ln(A:Nat)(w:World)(e:TypeId)(k:Nat)(a:Option Addr)(n c:Nat):Prop:=n<=c/\c<=maxLen/\(0<n->∃g,a=some ⟨g,0,none⟩/\A<=g/\∃f,Blk w g e (n*k) f)
theorem Ln.below{b:World}{k:Nat}{a:Option Addr}(h:Ln A w e k a n c)(i:Below w.heap.size w b):Ln A b e k a n c:=⟨h.1,h.2.1,λl=>by
 obtain⟨g,m,j,f,d⟩:=h.2.2 l;exact⟨g,m,j,f,d.below i⟩⟩
theorem Ln.set{k:Nat}{a:Option Addr}(h:Ln A w e k a n c)(q j:Nat)(v:Value):Ln A (w.setCell ⟨q,j,none⟩ v) e k a n c:=⟨h.1,h.2.1,λm=>by
 obtain⟨g,l,i,f,d⟩:=h.2.2 m;by_cases b:g=q
 .subst b;exact⟨g,l,i,_,d.set j v⟩
 exact⟨g,l,i,f,d.other (a:=⟨q,j,none⟩) b v⟩⟩
structure Lay(W0:World)(B7:Nat)(t:St)(w:World):Prop where
 on:t.on.n<=t.on.c/\t.on.c<=maxLen/\(0<t.on.n->∃g,t.on.a=some ⟨g,0,none⟩/\Blk w g 23 t.on.n (λi => .slice (t.on.r i).a (t.on.r i).n (t.on.r i).c))
 rows:∀i,i<t.on.n->Ln W0.heap.size w 3 1 (t.on.r i).a (t.on.r i).n (t.on.r i).c
 os:t.os.n<=t.os.c/\t.os.c<=maxLen/\(0<t.os.n->∃g,t.os.a=some ⟨g,0,none⟩/\Blk w g 57 (t.os.n*2) (λj=>(jq t.os.n t.os.z).getD j default))
 lines:∀i,i<t.os.n->Ln W0.heap.size w 59 4 (t.os.z i).ls.a (t.os.z i).ls.n (t.os.z i).ls.c
 hs:Ln W0.heap.size w 61 4 t.hs.a t.hs.n t.hs.c
 ms:Ln W0.heap.size w 63 4 t.ms.a t.ms.n t.ms.c
 si:Ln W0.heap.size w 3 1 t.si.a t.si.n t.si.c
 sf:Ln W0.heap.size w 3 1 t.sf.a t.sf.n t.sf.c
 box:Blk w B7 31 7 (λj=>t.cells.getD j default)
 bel:Below W0.heap.size W0 w
theorem Lay.set{k:World}{m:Nat}{t:St}(h:Lay k m t w)(c:Blk w q e n f)(o:k.heap.size<=q)(s:23≠e)(r:57≠e)(u:31≠e)(j:Nat)(v:Value):Lay k m t (w.setCell ⟨q,j,none⟩ v):=
 ⟨⟨h.on.1,h.on.2.1,λl=>by
  obtain⟨g,d,b⟩:=h.on.2.2 l;exact⟨g,d,b.other (a:=⟨q,j,none⟩) (Blk.ne2 b c s) v⟩⟩,λi hi=>(h.rows i hi).set q j v,⟨h.os.1,h.os.2.1,λl=>by
  obtain⟨g,d,b⟩:=h.os.2.2 l;exact⟨g,d,b.other (a:=⟨q,j,none⟩) (Blk.ne2 b c r) v⟩⟩,λi hi=>(h.lines i hi).set q j v,h.hs.set q j v,h.ms.set q j v,h.si.set q j v,h.sf.set q j v,h.box.other (a:=⟨q,j,none⟩) (Blk.ne2 h.box c u) v,h.bel.setCell (p:=⟨q,j,none⟩) o v⟩
theorem Lay.below{e:World}{f:Nat}{t:St}{j:World}(h:Lay e f t w)(a:Below w.heap.size w j):Lay e f t j :=
 ⟨⟨h.on.1,h.on.2.1,λc=>by
  obtain⟨g,d,b⟩:=h.on.2.2 c;exact⟨g,d,b.below a⟩⟩,λi hi=>(h.rows i hi).below a,⟨h.os.1,h.os.2.1,λc=>by
  obtain⟨g,d,b⟩:=h.os.2.2 c;exact⟨g,d,b.below a⟩⟩,λi hi=>(h.lines i hi).below a,h.hs.below a,h.ms.below a,h.si.below a,h.sf.below a,h.box.below a,h.bel.trans (a.mono h.bel.size)⟩
theorem ai.lay{b:World}{t:St}(h:ai b.heap.size w t)(q:Blk w o 31 7 (λj=>t.cells.getD j default))(p:Below b.heap.size b w):Lay b o t w:=by
 have I:∀r:Rw,j9 b.heap.size w r->Ln b.heap.size w 3 1 r.a r.n r.c:=λr ⟨g,a1,f,l,d,k⟩=>⟨l,d,λ_=>⟨g,a1,f,_,by rw[Nat.mul_one];exact k⟩⟩;have K:∀(e:TypeId) (r:Hs),cw b.heap.size e w r->Ln b.heap.size w e 4 r.a r.n r.c:=λe r ⟨a1,f,_,d⟩=>⟨a1,f,λm=>by
  obtain⟨g,b1,b2,b3⟩:=d m;exact⟨g,b1,b2,_,b3⟩⟩
 obtain⟨g,a1,f,l,d,k⟩:=h.on;refine⟨⟨l,d,λ_=>⟨g,a1,k⟩⟩,λi hi=>I _ (h.rows i hi),⟨h.os.le,h.os.cap,λm => ?_⟩,λi hi => ?_,K _ _ h.hs,K _ _ h.ms,I _ h.si,I _ h.sf,q,p⟩
 .obtain⟨g,b1,b2,b3⟩:=h.os.list m;exact⟨g,b1,b3⟩
 obtain⟨B,b1,b2,b3,b4,b5⟩:=h.os.lines i hi;exact⟨b3,b4,λ_=>⟨B,b1,b2,_,b5⟩⟩
theorem abc{b:World}{t:St}(h:t.on.n=0/\t.os.n=0/\t.hs.n=0/\t.ms.n=0/\t.si.n=0/\t.so.n=0/\t.sf.n=0)(a:t.At w)(e:Blk w c 31 7 (λj=>t.cells.getD j default))(d:Below b.heap.size b w):Lay b c t w:=by
 obtain⟨g,p,l,o,m,k,f⟩:=h;exact⟨⟨a.on.le,a.on.cap,λh=>by omega⟩,λi hi=>by omega,⟨a.os.le,a.os.cap,λh=>by omega⟩,λi hi=>by omega,⟨a.hs.le,a.hs.cap,λh=>by omega⟩,⟨a.ms.le,a.ms.cap,λh=>by omega⟩,⟨a.si.le,a.si.cap,λh=>by omega⟩,⟨a.sf.le,a.sf.cap,λh=>by omega⟩,e,d⟩
open Go.Shelf Go.Sort
theorem Lay.set4{o:World}{t:St}(h:Lay o A t w)(d:Blk w q e n f)(b:o.heap.size<=q)(j:23≠e)(c:57≠e)(k:31≠e)(j0 g m s:Nat)(a i l p:Value):Lay o A t ((((w.setCell ⟨q,j0,none⟩ a).setCell ⟨q,g,none⟩ i).setCell ⟨q,m,none⟩ l).setCell ⟨q,s,none⟩ p):=
 (((h.set d b j c k j0 a).set (d.set j0 a) b j c k g i).set ((d.set j0 a).set g i) b j c k m l).set (((d.set j0 a).set g i).set m l) b j c k s p
set_option maxRecDepth 100000 in
set_option maxHeartbeats 8000000 in
theorem M3(p:Pl)(s:St)(q:Ax)(w:World)(hp:p.At w)(hs:s.At w)(hl:q.ls.At w):
  Calls Tryz.prog 7 #[p.val,s.val,q.val] w λe w'=>e = .returned (.bool true)/\Below w.heap.size w w':=by
 obtain⟨W0,S,m,X0,XA⟩:∃W,((w.alloc (.cells #[.slice p.ab p.nb p.cb,.slice p.sa p.ns p.cs] 25)).alloc (.cells s.cells 31)).alloc (.cells q.cells 47)=W/\Below w.heap.size w W/\lx W w.heap.size (w.heap.size+1) p s/\Blk W (w.heap.size+1+1) 47 6 (λj=>q.cells.getD j default):=⟨_,rfl,(ix _ _ _).alloc (by simp;omega) _,(nt w p s _ _).below (brf.alloc nlr _),Blk.mk' (cur:=q.cells) (by simp) rfl⟩;have HC:Hid (∀B,Below W0.heap.size W0 B->lx B w.heap.size (w.heap.size+1) p s/\p.At B/\s.At B/\Below w.heap.size w B/\q.ls.At B):=λB h=>⟨X0.below h,(hp.below m).below h,(hs.below m).below h,m.trans (h.mono m.size),(hl.below m).below h⟩;have P:Hid (((w.alloc (.cells #[.slice p.ab p.nb p.cb,.slice p.sa p.ns p.cs] 25)).alloc (.cells #[.slice s.on.a s.on.n s.on.c,.slice s.os.a s.os.n s.os.c,.slice s.hs.a s.hs.n s.hs.c,.slice s.ms.a s.ms.n s.ms.c,.slice s.si.a s.si.n s.si.c,.slice s.so.a s.so.n s.so.c,.slice s.sf.a s.sf.n s.sf.c] 31)).alloc (.cells #[.int .i64 q.k,.int .i64 q.a,.int .i64 q.b,.int .i64 q.c,.int .i64 q.n,.slice q.ls.a q.ls.n q.ls.c] 47)=W0):=S;have bv:Hid (∀B,Below W0.heap.size W0 B->Blk B (w.heap.size+1+1) 47 6 (λj=>q.cells.getD j default)):=λB h=>XA.below h;clear S X0 XA hp hs hl;unfold Pl.val St.val Ax.val Ax.cells;go_enter Tryz.func7,Tryz.ntmps7;go_wp2_with fail;rw[P.out];obtain⟨X,F,v,K,H⟩:=HC.out W0 brf;refine(ky p s W0 F v).mono ?_;rintro e w1 ⟨rfl,hB⟩;clear X F v K H P;by_cases h0:ag p s=0;rotate_left
 .have g0:(ag p s !=0)=true:=by simpa using h0
  go_wp2_with fail;refine(qs w1).mono ?_;rintro e w2 ⟨rfl,aa⟩;go_wp2_with fail;go_ret;exact⟨rfl,(HC.out w2 (hB.trans (aa.mono hB.size))).2.2.2.1⟩
 have HR:Hid (ar p s):=dp h0;rw[h0];clear h0;obtain⟨⟨⟨l1,d0,d1⟩,l2,U,c1,c2,c3,c4,c5,c6⟩,F,v,K,H⟩:=HC.out w1 hB;have cg:Hid (Calls Tryz.prog 20 #[s.val] w1 λe w'=>∃s':St,e = .returned s'.val/\af s' s/\ai w1.heap.size w' s'/\Below w1.heap.size w1 w'):=pd p s w1 v HR.out.fm;clear F v K H;go_wp2_with fail;refine Calls.mono cg.out ?_;rintro e w2 ⟨z,rfl,a0,bq,aa⟩;clear cg l1 d0 d1 l2 U c1 c2 c3 c4 c5 c6;have aa:=hB.trans (aa.mono hB.size);clear hB;obtain⟨E,S,m,KZ⟩:=ab7 w2 z;have P:=hid S;have dc:=hid a0.symm;have a6:=aa.trans (m.mono aa.size);have be:=qa2 (bq.at.below m) KZ;have a3:=hid a6;simp only[St.val];obtain⟨⟨⟨l1,d0,d1⟩,l2,U,c1,c2,c3,c4,c5,c6⟩,F,v,K,H⟩:=HC.out E a6;have D:=bv.out E a6;have q0:E.cell? ⟨w.heap.size+1+1,0,none⟩=some (.int .i64 q.k):=D.k 0;have J:E.cell? ⟨w.heap.size+1+1,1,none⟩=some (.int .i64 q.a):=D.k 1;have q2:E.cell? ⟨w.heap.size+1+1,2,none⟩=some (.int .i64 q.b):=D.k 2;have q3:E.cell? ⟨w.heap.size+1+1,3,none⟩=some (.int .i64 q.c):=D.k 3;have q4:E.cell? ⟨w.heap.size+1+1,4,none⟩=some (.int .i64 q.n):=D.k 4;have q5:E.cell? ⟨w.heap.size+1+1,5,none⟩=some (.slice q.ls.a q.ls.n q.ls.c):=D.k 5;have q6:=D.lt;clear D S m KZ a0 bq aa a6 F v K H;rw[<-P.out] at l1 d0 d1 l2 U c1 c2 c3 c4 c5 c6 q0 J q2 q3 q4 q5 q6;go_wp2_with fail;rw[P.out];clear P l1 d0 d1 l2 U c1 c2 c3 c4 c5 c6 q0 J q2 q3 q4 q5 q6
 generalize w2.heap.size=BZ at *
 obtain⟨X,F,v,K,H⟩:=HC.out E a3.out;refine(Mv p s q E F v H).mono ?_;rintro e w4 ⟨x,rfl,cf,ck,br,b0⟩;clear X F v K H;obtain⟨W5,S,m,KX⟩:=ab7 w4 x;have P:=hid S;have o:Hid (Lay E w4.heap.size x W5):=by
  have l:=b0.trans (m.mono b0.size);by_cases hE:doE p s q=0
  .exact((br hE).below m).lay KX l
  obtain⟨n1,n2,n3,n4,n5,n6,n7⟩:=ck.2 hE;exact abc ⟨n1,n2,n3,n4,n5,n6,n7⟩ (cf.below m) KX l
 clear S m KX cf ck br b0;simp only[St.val];go_wp2_with fail;rw[P.out];clear P
 generalize w4.heap.size=G at *
 go_loopw [10] (λt B=>∃k:Nat,k<=x.on.n/\t = .int .i64 k/\Hid (Lay E G x B)) (λt _=>x.on.n-(intOf t).toNat)
 case atStart=>exact⟨0,Qxz _,rfl,o⟩
 rename_i u;obtain⟨k,Y,rfl,d⟩:=hrel;clear o;have bc:wr.cell? ⟨G,0,none⟩=some (.slice x.on.a x.on.n x.on.c):=d.out.box.k 0;have Q:=d.out.box.lt;have le:=d.out.on.1;have cap:=d.out.on.2.1;unfold maxLen at cap;by_cases A:k<x.on.n
 .have q0:(0:Int)<=(k:Int):=by omega
  have J:(k:Int)<(x.on.n:Int):=by omega
  have o:=d;clear d;go_wp2_with fail;clear bc Q
  go_loopw [11] (λt B=>∃j:Nat,j<=(x.on.r k).n/\t = .int .i64 j/\Hid (Lay E G x B)) (λt _=>(x.on.r k).n-(intOf t).toNat)
  case atStart=>exact⟨0,Qxz _,rfl,o⟩
  rename_i u2;obtain⟨j,hj,rfl,d⟩:=hrel;clear o;have bc:wr.cell? ⟨G,0,none⟩=some (.slice x.on.a x.on.n x.on.c):=d.out.box.k 0;have Q:=d.out.box.lt;obtain⟨g0,aq,ad⟩:=d.out.on.2.2 (by omega);rw[aq] at bc;have r0:=ad.lt;have rc:=ad.cell (j:=k) A;have dn:=(d.out.rows k A).1;have aw:=(d.out.rows k A).2.1;unfold maxLen at aw;clear ad aq;by_cases cl:j<(x.on.r k).n
  .obtain⟨g,L,M,f,l⟩:=(d.out.rows k A).2.2 (by omega);rw[L] at rc;have q2:(0:Int)<=(j:Int):=by omega
   have q3:(j:Int)<((x.on.r k).n:Int):=by omega
   have yl:=l.lt;have y0:=l.cell (j:=j) (by omega);have f0:=l.frozen j
   generalize f j=V0 at y0
   have V:Hid (Lay E G x (wr.setCell ⟨g,j,none⟩ (.int .i64 (-9)))):=d.out.set l M (by decide) (by decide) (by decide) j _;clear l L M;go_wp2_with fail;go_roundw
   case rel=>exact⟨j+1,by omega,by go_num,V.out⟩
   case measure=>simp[intOf];omega
  have q3:¬(j:Int)<((x.on.r k).n:Int):=by omega
  have o:=d;clear d;go_wp2_with fail;go_roundw
  case rel=>exact⟨k+1,by omega,by go_num,o.out⟩
  case measure=>simp[intOf];omega
 have J:¬(k:Int)<(x.on.n:Int):=by omega
 have o:=d;clear d A;go_wp2_with fail;clear bc Q le cap J Y
 go_loopw [12] (λt B=>∃k:Nat,k<=x.os.n/\t = .int .i64 k/\Hid (Lay E G x B)) (λt _=>x.os.n-(intOf t).toNat)
 case atStart=>exact⟨0,Qxz _,rfl,o⟩
 rename_i u;obtain⟨k,Y,rfl,d⟩:=hrel;clear o;have bc:wr.cell? ⟨G,1,none⟩=some (.slice x.os.a x.os.n x.os.c):=d.out.box.k 1;have Q:=d.out.box.lt;have le:=d.out.os.1;have cap:=d.out.os.2.1;unfold maxLen at cap;by_cases A:k<x.os.n
 .have q0:(0:Int)<=(k:Int):=by omega
  have J:(k:Int)<(x.os.n:Int):=by omega
  have o:=d;clear d;go_wp2_with fail;clear bc Q
  go_loopw [13] (λt B=>∃j:Nat,j<=(x.os.z k).ls.n/\t = .int .i64 j/\Hid (Lay E G x B)) (λt _=>(x.os.z k).ls.n-(intOf t).toNat)
  case atStart=>exact⟨0,Qxz _,rfl,o⟩
  rename_i u2;obtain⟨j,hj,rfl,d⟩:=hrel;clear o;have bc:wr.cell? ⟨G,1,none⟩=some (.slice x.os.a x.os.n x.os.c):=d.out.box.k 1;have Q:=d.out.box.lt;obtain⟨g0,aq,ad⟩:=d.out.os.2.2 (by omega);rw[aq] at bc;have r0:=ad.lt;have bh:=ad.cell (j:=k*2+1) (by omega);rw[qc (z:=x.os.z) A (show 1<2 by decide)] at bh;have rc:wr.cell? ⟨g0,k*2+1,none⟩=some (.slice (x.os.z k).ls.a (x.os.z k).ls.n (x.os.z k).ls.c):=bh;clear bh;have dn:=(d.out.lines k A).1;have aw:=(d.out.lines k A).2.1;unfold maxLen at aw;clear ad aq;by_cases cl:j<(x.os.z k).ls.n
  .obtain⟨g,L,M,f,l⟩:=(d.out.lines k A).2.2 (by omega);rw[L] at rc;have q2:(0:Int)<=(j:Int):=by omega
   have q3:(j:Int)<((x.os.z k).ls.n:Int):=by omega
   have yl:=l.lt;have y0:=l.cell (j:=j*4) (by omega);have f0:=l.frozen (j*4)
   generalize f (j*4)=V0 at y0
   have y1:=l.cell (j:=j*4+1) (by omega);have f1:=l.frozen (j*4+1)
   generalize f (j*4+1)=V1 at y1
   have y2:=l.cell (j:=j*4+2) (by omega);have f2:=l.frozen (j*4+2)
   generalize f (j*4+2)=V2 at y2
   have y3:=l.cell (j:=j*4+3) (by omega);have f3:=l.frozen (j*4+3)
   generalize f (j*4+3)=V3 at y3
   have V:Hid (Lay E G x ((((wr.setCell ⟨g,j*4,none⟩ (.int .i64 0)).setCell ⟨g,j*4+1,none⟩ (.int .i64 0)).setCell ⟨g,j*4+2,none⟩ (.int .i64 0)).setCell ⟨g,j*4+3,none⟩ (.int .i64 0))):=d.out.set4 l M (by decide) (by decide) (by decide) _ _ _ _ _ _ _ _;clear l L M;go_wp2_with fail;go_roundw
   case rel=>exact⟨j+1,by omega,by go_num,V.out⟩
   case measure=>simp[intOf];omega
  have q3:¬(j:Int)<((x.os.z k).ls.n:Int):=by omega
  have o:=d;clear d;go_wp2_with fail;go_roundw
  case rel=>exact⟨k+1,by omega,by go_num,o.out⟩
  case measure=>simp[intOf];omega
 have J:¬(k:Int)<(x.os.n:Int):=by omega
 have o:=d;clear d A;go_wp2_with fail;clear bc Q le cap J Y
 go_loopw [14] (λt B=>∃k:Nat,k<=x.hs.n/\t = .int .i64 k/\Hid (Lay E G x B)) (λt _=>x.hs.n-(intOf t).toNat)
 case atStart=>exact⟨0,Qxz _,rfl,o⟩
 rename_i u;obtain⟨k,Y,rfl,d⟩:=hrel;clear o;have bc:wr.cell? ⟨G,2,none⟩=some (.slice x.hs.a x.hs.n x.hs.c):=d.out.box.k 2;have Q:=d.out.box.lt;have le:=d.out.hs.1;have cap:=d.out.hs.2.1;unfold maxLen at cap;by_cases A:k<x.hs.n
 .obtain⟨g,L,M,f,l⟩:=d.out.hs.2.2 (by omega);rw[L] at bc;have q0:(0:Int)<=(k:Int):=by omega
  have J:(k:Int)<(x.hs.n:Int):=by omega
  have yl:=l.lt;have y0:=l.cell (j:=k*4) (by omega);have f0:=l.frozen (k*4)
  generalize f (k*4)=V0 at y0
  have y1:=l.cell (j:=k*4+1) (by omega);have f1:=l.frozen (k*4+1)
  generalize f (k*4+1)=V1 at y1
  have y2:=l.cell (j:=k*4+2) (by omega);have f2:=l.frozen (k*4+2)
  generalize f (k*4+2)=V2 at y2
  have y3:=l.cell (j:=k*4+3) (by omega);have f3:=l.frozen (k*4+3)
  generalize f (k*4+3)=V3 at y3
  have V:Hid (Lay E G x ((((wr.setCell ⟨g,k*4,none⟩ (.int .i64 0)).setCell ⟨g,k*4+1,none⟩ (.int .i64 0)).setCell ⟨g,k*4+2,none⟩ (.int .i64 0)).setCell ⟨g,k*4+3,none⟩ (.int .i64 0))):=d.out.set4 l M (by decide) (by decide) (by decide) _ _ _ _ _ _ _ _;clear l L M;go_wp2_with fail;go_roundw
  case rel=>exact⟨k+1,by omega,by go_num,V.out⟩
  case measure=>simp[intOf];omega
 have J:¬(k:Int)<(x.hs.n:Int):=by omega
 have o:=d;clear d A;go_wp2_with fail;clear bc Q le cap J Y
 go_loopw [15] (λt B=>∃k:Nat,k<=x.ms.n/\t = .int .i64 k/\Hid (Lay E G x B)) (λt _=>x.ms.n-(intOf t).toNat)
 case atStart=>exact⟨0,Qxz _,rfl,o⟩
 rename_i u;obtain⟨k,Y,rfl,d⟩:=hrel;clear o;have bc:wr.cell? ⟨G,3,none⟩=some (.slice x.ms.a x.ms.n x.ms.c):=d.out.box.k 3;have Q:=d.out.box.lt;have le:=d.out.ms.1;have cap:=d.out.ms.2.1;unfold maxLen at cap;by_cases A:k<x.ms.n
 .obtain⟨g,L,M,f,l⟩:=d.out.ms.2.2 (by omega);rw[L] at bc;have q0:(0:Int)<=(k:Int):=by omega
  have J:(k:Int)<(x.ms.n:Int):=by omega
  have yl:=l.lt;have y0:=l.cell (j:=k*4) (by omega);have f0:=l.frozen (k*4)
  generalize f (k*4)=V0 at y0
  have y1:=l.cell (j:=k*4+1) (by omega);have f1:=l.frozen (k*4+1)
  generalize f (k*4+1)=V1 at y1
  have y2:=l.cell (j:=k*4+2) (by omega);have f2:=l.frozen (k*4+2)
  generalize f (k*4+2)=V2 at y2
  have y3:=l.cell (j:=k*4+3) (by omega);have f3:=l.frozen (k*4+3)
  generalize f (k*4+3)=V3 at y3
  have V:Hid (Lay E G x ((((wr.setCell ⟨g,k*4,none⟩ (.int .i64 0)).setCell ⟨g,k*4+1,none⟩ (.int .i64 0)).setCell ⟨g,k*4+2,none⟩ (.int .i64 0)).setCell ⟨g,k*4+3,none⟩ (.int .i64 0))):=d.out.set4 l M (by decide) (by decide) (by decide) _ _ _ _ _ _ _ _;clear l L M;go_wp2_with fail;go_roundw
  case rel=>exact⟨k+1,by omega,by go_num,V.out⟩
  case measure=>simp[intOf];omega
 have J:¬(k:Int)<(x.ms.n:Int):=by omega
 have o:=d;clear d A;go_wp2_with fail;clear bc Q le cap J Y
 go_loopw [16] (λt B=>∃k:Nat,k<=x.si.n/\t = .int .i64 k/\Hid (Lay E G x B)) (λt _=>x.si.n-(intOf t).toNat)
 case atStart=>exact⟨0,Qxz _,rfl,o⟩
 rename_i u;obtain⟨k,Y,rfl,d⟩:=hrel;clear o;have bc:wr.cell? ⟨G,4,none⟩=some (.slice x.si.a x.si.n x.si.c):=d.out.box.k 4;have Q:=d.out.box.lt;have le:=d.out.si.1;have cap:=d.out.si.2.1;unfold maxLen at cap;by_cases A:k<x.si.n
 .obtain⟨g,L,M,f,l⟩:=d.out.si.2.2 (by omega);rw[L] at bc;have q0:(0:Int)<=(k:Int):=by omega
  have J:(k:Int)<(x.si.n:Int):=by omega
  have yl:=l.lt;have y0:=l.cell (j:=k) (by omega);have f0:=l.frozen k
  generalize f k=V0 at y0
  have V:Hid (Lay E G x (wr.setCell ⟨g,k,none⟩ (.int .i64 (-9)))):=d.out.set l M (by decide) (by decide) (by decide) k _;clear l L M;go_wp2_with fail;go_roundw
  case rel=>exact⟨k+1,by omega,by go_num,V.out⟩
  case measure=>simp[intOf];omega
 have J:¬(k:Int)<(x.si.n:Int):=by omega
 have o:=d;clear d A;go_wp2_with fail;clear bc Q le cap J Y
 go_loopw [17] (λt B=>∃k:Nat,k<=x.sf.n/\t = .int .i64 k/\Hid (Lay E G x B)) (λt _=>x.sf.n-(intOf t).toNat)
 case atStart=>exact⟨0,Qxz _,rfl,o⟩
 rename_i u;obtain⟨k,Y,rfl,d⟩:=hrel;clear o;have bc:wr.cell? ⟨G,6,none⟩=some (.slice x.sf.a x.sf.n x.sf.c):=d.out.box.k 6;have Q:=d.out.box.lt;have le:=d.out.sf.1;have cap:=d.out.sf.2.1;unfold maxLen at cap;by_cases A:k<x.sf.n
 .obtain⟨g,L,M,f,l⟩:=d.out.sf.2.2 (by omega);rw[L] at bc;have q0:(0:Int)<=(k:Int):=by omega
  have J:(k:Int)<(x.sf.n:Int):=by omega
  have yl:=l.lt;have y0:=l.cell (j:=k) (by omega);have f0:=l.frozen k
  generalize f k=V0 at y0
  have V:Hid (Lay E G x (wr.setCell ⟨g,k,none⟩ (.int .i64 (-9)))):=d.out.set l M (by decide) (by decide) (by decide) k _;clear l L M;go_wp2_with fail;go_roundw
  case rel=>exact⟨k+1,by omega,by go_num,V.out⟩
  case measure=>simp[intOf];omega
 have J:¬(k:Int)<(x.sf.n:Int):=by omega
 have o:=d;clear d A;have ap:=hid (a3.out.trans (o.out.bel.mono a3.out.size));have bk:=qa2 (be.out.1.below o.out.bel) (be.out.2.below o.out.bel);clear o be a3;obtain⟨⟨⟨l1,d0,d1⟩,l2,U,c1,c2,c3,c4,c5,c6⟩,F,v,K,H⟩:=HC.out wr ap.out;have D:=bv.out wr ap.out;have a1:wr.cell? ⟨w.heap.size+1+1,0,none⟩=some (.int .i64 q.k):=D.k 0;have a2:wr.cell? ⟨w.heap.size+1+1,1,none⟩=some (.int .i64 q.a):=D.k 1;have a7:wr.cell? ⟨w.heap.size+1+1,2,none⟩=some (.int .i64 q.b):=D.k 2;have az:wr.cell? ⟨w.heap.size+1+1,3,none⟩=some (.int .i64 q.c):=D.k 3;have a8:wr.cell? ⟨w.heap.size+1+1,4,none⟩=some (.int .i64 q.n):=D.k 4;have a4:wr.cell? ⟨w.heap.size+1+1,5,none⟩=some (.slice q.ls.a q.ls.n q.ls.c):=D.k 5;have a5:=D.lt;have au:Hid (_):=Mv p s q wr F v H;clear D F v K H;go_wp2_with fail;clear bc Q le cap J Y l1 d0 d1 l2 U c1 c2 c3 c4 c5 c6 a1 a2 a7 az a8 a4 a5;refine Calls.mono au.out ?_;rintro e w7 ⟨u,rfl,b8,bm,-,bj⟩;clear au;obtain⟨W8,S,m,KU⟩:=ab7 w7 u;have P:=hid S;have ca:Hid (∀y,ij (doE p s q) (doT p s q) y->af u y):=λy h=>ij.same bm h;have bp:Hid (u.os.n<=1000/\u.ms.n<=1000/\∀i,i<u.os.n->(u.os.z i).ls.n<=1000):=ij.bound (p:=p) (s:=s) bm (λh=>aa0 h);have a9:=bj.trans (m.mono bj.size);have av:=hid (ap.out.trans (a9.mono ap.out.size));have bt:=qa2 (bk.out.1.below a9) (bk.out.2.below a9);have b1:=qa2 (b8.below m) KU;clear S m KU b8 bm bj a9 ap bk;simp only[St.val];obtain⟨⟨⟨l1,d0,d1⟩,l2,U,c1,c2,c3,c4,c5,c6⟩,F,v,K,H⟩:=HC.out W8 av.out;have D:=bv.out W8 av.out;have a1:W8.cell? ⟨w.heap.size+1+1,0,none⟩=some (.int .i64 q.k):=D.k 0;have a2:W8.cell? ⟨w.heap.size+1+1,1,none⟩=some (.int .i64 q.a):=D.k 1;have a7:W8.cell? ⟨w.heap.size+1+1,2,none⟩=some (.int .i64 q.b):=D.k 2;have az:W8.cell? ⟨w.heap.size+1+1,3,none⟩=some (.int .i64 q.c):=D.k 3;have a8:W8.cell? ⟨w.heap.size+1+1,4,none⟩=some (.int .i64 q.n):=D.k 4;have a4:W8.cell? ⟨w.heap.size+1+1,5,none⟩=some (.slice q.ls.a q.ls.n q.ls.c):=D.k 5;have a5:=D.lt;have au:Hid (_):=Lv p s q W8 F v H;clear D F v K H;rw[<-P.out] at l1 d0 d1 l2 U c1 c2 c3 c4 c5 c6 a1 a2 a7 az a8 a4 a5;go_wp2_with fail;rw[P.out];clear P l1 d0 d1 l2 U c1 c2 c3 c4 c5 c6 a1 a2 a7 az a8 a4 a5
 generalize w7.heap.size=BU at *
 refine Calls.mono au.out ?_;rintro e w9 ⟨y,rfl,cd,ci,-,bo⟩;clear au;obtain⟨WA,S,m,KY⟩:=ab7 w9 y;have P:=hid S;have dh:Hid (af u y):=ca.out y ci;have aj:=bo.trans (m.mono bo.size);have bs:=hid (av.out.trans (aj.mono av.out.size));have bg:=qa2 (bt.out.1.below aj) (bt.out.2.below aj);have bx:=qa2 (b1.out.1.below aj) (b1.out.2.below aj);have bd:=qa2 (cd.below m) KY;clear S m KY cd ci bo aj av bt b1 ca;simp only[St.val];go_wp2_with fail;rw[P.out];clear P
 generalize w9.heap.size=BY at *
 refine(qs WA).mono ?_;rintro e wb ⟨rfl,T⟩;have bi:=hid (bs.out.trans (T.mono bs.out.size));have cj:=qa2 (bg.out.1.below T) (bg.out.2.below T);have cc:=qa2 (bx.out.1.below T) (bx.out.2.below T);have ch:=qa2 (bd.out.1.below T) (bd.out.2.below T);clear T bs bg bx bd;obtain⟨⟨⟨-,-,-⟩,l2,U,c1,c2,c3,c4,c5,c6⟩,-,v,-,-⟩:=HC.out wb bi.out;obtain⟨m1,p0,p1,p2,p3,p4,p5,p6⟩:=Boxed.of cj.out.2;have ce:Hid (_):=uy s z wb v cj.out.1 dc.out HR.out.bound.1 HR.out.bound.2.1 HR.out.bound.2.2;clear v;go_wp2_with fail;clear l2 U c1 c2 c3 c4 c5 c6 m1 p0 p1 p2 p3 p4 p5 p6;refine Calls.mono ce.out ?_;rintro e wc ⟨rfl,ah⟩;obtain⟨m1,p0,p1,p2,p3,p4,p5,p6⟩:=Boxed.of (cc.out.2.below ah);obtain⟨m2,t0,t1,t2,t3,t4,t5,t6⟩:=Boxed.of (ch.out.2.below ah);have da:Hid (_):=uy u y wc (cc.out.1.below ah) (ch.out.1.below ah) dh.out bp.out.1 bp.out.2.1 bp.out.2.2;have b9:=hid (bi.out.trans (ah.mono bi.out.size));clear ah ce;go_wp2_with fail;clear m1 p0 p1 p2 p3 p4 p5 p6 m2 t0 t1 t2 t3 t4 t5 t6;refine Calls.mono da.out ?_;rintro e wd ⟨rfl,dj⟩;go_wp2_with fail;go_ret;exact⟨by simp,(HC.out wd (b9.out.trans (dj.mono b9.out.size))).2.2.2.1⟩
end Go.Proofs.YtbcacebifpagpagGreat

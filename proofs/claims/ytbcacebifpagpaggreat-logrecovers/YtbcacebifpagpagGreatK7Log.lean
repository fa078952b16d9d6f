/- Texts that were built one behind the other, joined; what is not reached is left out. -/
import Derived.Test.YtbcacebifpagpagGreatK6Log
import Derived.Test.YtbcacebifpagpagGreatRows
import Derived.ProofKit
import Derived.OpenShut
import Derived.Lib.SmallJoins
import Derived.Deep.Slices
set_option maxHeartbeats 8000000
set_option maxRecDepth 100000
set_option linter.unusedVariables false
namespace Go.Proofs.YtbcacebifpagpagGreat
variable{n b A g o l c i q j R L M:Nat}{w a d:World}{s x y u:St}{r W J D:Int}{e H:TypeId}{p:Pl}{z O:Nat->Hd}{f f':Nat->Value}{Q:Exit->Act->World->Prop}{v c1 c3 c2:Value}{xs:List Value}{U V:Hs}{X Y:Int->Int->Int}{P:Program}{h Z:Hd}{t:List UInt8}{E:Hd->Bool}{z' zs:Nat->Int}{S:World->Prop}{a1:Act}{K:Act->World->Prop}
open _root_.Go.Proofs.Tryz
open Go.RowKit Go.Shelf Go.Sort
theorem Ow(p:Pl)(s:St)(k n:Int)(w:World)(hp:p.At w)(hs:s.At w):
  Calls prog 59 #[p.val,s.val,.int .i64 k,.int .i64 n] w λe w'=>∃x:St,e = .returned (.tuple #[x.val,.int .i64 (gu p s k n)])/\x.At w'/\ij (gu p s k n) (jz s k.toNat n) x/\(gu p s k n=0->ai w.heap.size w' x)/\Below w.heap.size w w':=by
 obtain⟨W0,hW,h6,X0,Z0⟩:=Cd w p s;have HC:=Bb hp hs h6 X0 Z0;have HW:=hid hW;have leb:=hp.leb;have b6:=hp.capb;have les:=hp.les;have b8:=hp.caps;have capb:=b6;have caps:=b8;have it:=Z0.lt;unfold maxLen at capb caps;have e6:=hs.ms.le;have bw:=hs.ms.cap;have dl:s.ms.n<=maxLen:=Qzx e6 bw;have eb:=bw;have el:=dl;unfold maxLen at eb el;clear hW X0 Z0 hp hs;unfold Pl.val St.val;go_enter func59,ntmps59;go_wp2_with fail;rw[HW.out];obtain⟨X,T,D,y,L⟩:=HC.out W0 brf;refine(ky p s W0 T D).mono ?_;rintro e w1 ⟨rfl,hB⟩;clear X T D y L HW;obtain⟨⟨⟨l1,d0,d1⟩,l2,c0,c1,c2,c3,c4,c5,c6⟩,T,D,y,L⟩:=HC.out w1 hB;by_cases h0:ag p s=0;rotate_left
 .have HX:Hid (gu p s k n=ag p s):=x9 h0;have g8:Hid (¬gu p s k n=0):=by show ¬_;rw[x9 h0];exact h0
  have g0:(ag p s !=0)=true:=by simpa using h0
  clear h0;clear T D;obtain⟨zl,co,ct,ce,zc1,cv,zc2,am,zc3,cr,zc4,ca,zc5,cb,ch⟩:=z7 L;go_wp2_with fail;exact ip results59 L y (by omega) HX.out (λh=>g8.out (HX.out.trans h)) rfl rfl rfl
 have H0:=hid h0;have HR:Hid (ar p s):=dp h0;rw[h0];clear h0;cases h1:inB k 0 ((s.ms.n:Int)-1)
 .have HX:Hid (gu p s k n=4):=F1 H0.out h1;clear T D;obtain⟨zl,co,ct,ce,zc1,cv,zc2,am,zc3,cr,zc4,ca,zc5,cb,ch⟩:=z7 L;go_wp2_with(go_at_call 23;refine ah (cg _ _ _ _) ?_);exact ip results59 L y (by omega) HX.out (by decide) rfl rfl rfl
 obtain⟨i,rfl⟩:∃i:Nat,k=i:=⟨k.toNat,by have:=au h1;omega⟩;have hi:i<s.ms.n:=by have:=au h1;omega
 have bq:=rv (HR.out.fm.move i hi);obtain⟨f,b,g,N,hm⟩:∃(f b g:Nat) (N:Int),s.ms.z i=⟨g,f,b,N⟩:=⟨(s.ms.z i).l.toNat,(s.ms.z i).b.toNat,(s.ms.z i).o.toNat,(s.ms.z i).n,by rw[Int.toNat_of_nonneg bq.1.1,Int.toNat_of_nonneg bq.2.1.1,Int.toNat_of_nonneg bq.2.2.1.1]⟩;have HM:=hid hm;rw[hm] at bq;dsimp only at bq;obtain⟨u1,u2,u3,u4,u5,u6⟩:=bq;have al:g<p.ns:=by omega
 have bh:f<p.nb:=by omega
 have bs:b<p.nb:=by omega
 have dq:¬f=b:=by omega
 have H1:=hid h1;obtain⟨bm,om,fd,hg,y0,y1,y2,y3⟩:=D.ms.hds i hi;rw[hm] at y0 y1 y2 y3;dsimp only at y0 y1 y2 y3;have cp:=hid fd;rw[fd] at c3;obtain⟨W2,f8,eg,K2⟩:∃W,w1.alloc (.cells #[.int .i64 (g:Int),.int .i64 (f:Int),.int .i64 (b:Int),.int .i64 N] 63)=W/\Below w1.heap.size w1 W/\Blk W w1.heap.size 63 4 (λj=>(#[.int .i64 (g:Int),.int .i64 (f:Int),.int .i64 (b:Int),.int .i64 N]:Array Value).getD j default):=⟨_,rfl,brf.alloc nlr _,Blk.mk' rfl rfl⟩;have f9:Hid (w1.alloc (.cells #[.int .i64 (g:Int),.int .i64 (f:Int),.int .i64 (b:Int),.int .i64 N] 63)=W2):=f8;have dx:=hB.trans (eg.mono hB.size);have J:=hid K2;have q0:(0:Int)<=(i:Int):=by omega
 have q1:(i:Int)<(s.ms.n:Int):=by omega
 have A1:W0.heap.size<=w1.heap.size:=hB.size;clear T D y L fd f8 K2 hm;go_wp2_with fail;refine ah (cg _ _ _ _) ?_;go_wp2_with fail;rw[f9.out];refine ah (cg _ _ _ _) ?_;clear l1 d0 d1 l2 c0 c1 c2 c3 c4 c5 c6 hg y0 y1 y2 y3 f9 eg hB h1
 generalize w1.heap.size=BM at *
 obtain⟨⟨⟨l1,d0,d1⟩,l2,c0,c1,c2,c3,c4,c5,c6⟩,T,D,y,L⟩:=HC.out W2 dx;rw[cp.out] at c3;cases h2:inB n 0 N
 .have HX:Hid (gu p s i n=3):=Ef H0.out H1.out (by rw[Int.toNat_natCast,HM.out];exact h2);clear T D;obtain⟨zl,co,ct,ce,zc1,cv,zc2,am,zc3,cr,zc4,ca,zc5,cb,ch⟩:=z7 L;go_wp2_with fail;exact ip results59 L y (by omega) HX.out (by decide) rfl rfl rfl
 have nn:=au h2;have H2:Hid (inB n 0 (s.ms.z (i:Int).toNat).n=true):=by show inB n 0 (s.ms.z (i:Int).toNat).n=true;rw[Int.toNat_natCast,HM.out];exact h2
 have bn:b<s.on.n:=by rw[HR.out.fm.sh.n];exact bs
 have rn:=HR.out.fm.sh.len b bn;have er:Hid ((s.on.r (s.ms.z (i:Int).toNat).b.toNat).z (s.ms.z (i:Int).toNat).o.toNat=(s.on.r b).z g):=by show _=_;rw[Int.toNat_natCast,HM.out];simp only[Int.toNat_natCast]
 obtain⟨bo,oo,f5,hk,z0,bx⟩:=D.on.rows b bn;obtain⟨br,ix,gb,ho,z1⟩:=bx.ints g (by omega);have v1:=bx.le;have v2:=bx.cap;have v3:=D.on.le;have v4:=D.on.cap;unfold maxLen at v2 v4;have zb:=HR.out.fm.sh.num b bn g al;have m0:W2.cell? ⟨BM,0,none⟩=some (.int .i64 g):=J.out.k 0;have m2:W2.cell? ⟨BM,2,none⟩=some (.int .i64 b):=J.out.k 2;have ml:=J.out.lt;have q2:(0:Int)<=(b:Int):=by omega
 have q3:(b:Int)<(s.on.n:Int):=by omega
 have q4:(0:Int)<=(g:Int):=by omega
 have q5:(g:Int)<((s.on.r b).n:Int):=by omega
 rw[f5] at c0;rw[gb] at z0;have h7:=Qqq c0;have hl:=Qqq z0;have hv:=Qqq z1;have ci:=Qqq m0;have ik:=Qqq m2
 generalize hZB:(s.on.r b).z g=ZB at *
 clear f5 gb bx c1 c2 c3 c4 c5 c6 d0 d1 m0 m2 z0 z1 c0;go_wp2_with fail;refine Qxq (by kernel_rfl) (by kernel_rfl) ?_
 repeat(go_big_quiet_step(fail))
 refine Qqz ?_;intro w3 gd;have dc:=ae gd;have J:=hid (J.out.below dc);have dt:=dx.trans (dc.mono dx.size);clear h7 hl hv ci ik gd hk ho ml T D y L l1 l2 dc dx v1 v2 v3 v4;obtain⟨⟨⟨l1,d0,d1⟩,l2,c0,c1,c2,c3,c4,c5,c6⟩,T,D,y,L⟩:=HC.out w3 dt;by_cases h3:200<ZB+n
 .have HX:Hid (gu p s i n=2):=F0 H0.out H1.out H2.out (by rw[er.out];exact h3);have f6:200-ZB<n:=by omega
  clear T D;obtain⟨zl,co,ct,ce,zc1,cv,zc2,am,zc3,cr,zc4,ca,zc5,cb,ch⟩:=z7 L;go_wp2_with fail;exact ip results59 L y (by omega) HX.out (by decide) rfl rfl rfl
 have HX:Hid (gu p s i n=0):=Qn H0.out H1.out H2.out (by rw[er.out];exact h3);have HI:Hid (p8 p s i f b g N n):=⟨HR.out,hi,HM.out,bh,bs,al,dq,nn.1,nn.2,u5,u6,by rw[hZB];omega⟩;have f6:¬200-ZB<n:=by omega
 have e3:=hid y.size;have f2:Hid (Calls prog 20 #[s.val] w3 λe w'=>∃s':St,e = .returned s'.val/\af s' s/\ai w3.heap.size w' s'/\Below w3.heap.size w3 w'):=pd p s w3 D HR.out.fm;have iw:=hid y;clear T D y L h3 er;go_wp2_with fail;refine Calls.mono f2.out ?_;rintro e w4 ⟨H,rfl,M,ab,d2⟩;clear f2 l1 d0 d1 l2 c0 c1 c2 c3 c4 c5 c6 h2 f6;have f1:=hid M;have iy:i<H.ms.n:=by rw[M.ms.1];exact hi
 have cs:f<H.on.n:=by rw[M.on.1,HR.out.fm.sh.n];exact bh
 have ez:b<H.on.n:=by rw[M.on.1,HR.out.fm.sh.n];exact bs
 have db:g<(H.on.r f).n:=by rw[(M.on.2 f cs).1,HR.out.fm.sh.len f (by rw[HR.out.fm.sh.n];exact bh)];exact al
 have et:g<(H.on.r b).n:=by rw[(M.on.2 b ez).1,HR.out.fm.sh.len b bn];exact al
 have vf:0<=(H.on.r f).z g/\(H.on.r f).z g<=200:=by rw[M.num HR.out.fm bh al];exact HR.out.fm.sh.num f (by rw[HR.out.fm.sh.n];exact bh) g al
 have vb:0<=(H.on.r b).z g/\(H.on.r b).z g<=200:=by rw[M.num HR.out.fm bs al,hZB];exact zb
 obtain⟨W5,f4,dn,K5⟩:=ab7 w4 H;have eh:=hid f4;have bv:=d2.trans (dn.mono d2.size);have A2:W0.heap.size<=w3.heap.size:=dt.size;have A3:w3.heap.size<=w4.heap.size:=d2.size;have bp:Hid (de w3.heap.size w4.heap.size W0 H W5):=⟨ai.below ab dn,K5,dt.trans (bv.mono dt.size),by have:=bv.size;omega⟩;have gh:BM<w3.heap.size:=J.out.lt;have J:=hid (J.out.below bv);clear f4 ab K5 d2 dn bv M zb;obtain⟨m1,p0,p1,p2,p3,p4,p5,p6⟩:=Boxed.of bp.out.box;rw[<-eh.out] at m1 p0 p1 p2 p3 p4 p5 p6;simp only[St.val];go_wp2_with fail;rw[eh.out];clear m1 p0 p1 p2 p3 p4 p5 p6 eh
 generalize w4.heap.size=B7 at *
 have wf:=vf;have wb:=vb;clear vf vb;obtain⟨g0,G,a1,a2,a3,a4,a5,a6,a7,a8,a9,ei,e8,cj⟩:=bp.out.own.onCell cs db;have u0:W5.cell? ⟨B7,0,none⟩=some (.slice H.on.a H.on.n H.on.c):=bp.out.box.k 0;have e4:=bp.out.box.lt;rw[a1] at u0;unfold maxLen at a8 cj;have m0:W5.cell? ⟨BM,0,none⟩=some (.int .i64 g):=J.out.k 0;have m1:W5.cell? ⟨BM,1,none⟩=some (.int .i64 f):=J.out.k 1;have ml:=J.out.lt;have r0:(0:Int)<=(f:Int):=by omega
 have r1:(f:Int)<(H.on.n:Int):=by omega
 have r2:(0:Int)<=(g:Int):=by omega
 have r3:(g:Int)<((H.on.r f).n:Int):=by omega
 have ev:=Qqq u0;have ea:=Qqq a3;have fb:=Qqq a9;have ci:=Qqq m0;have ed:=Qqq m1;clear u0 a1 a3 a9 m0 m1;refine jh [(true,[0,1,2,3,4,5,6,7,8,9,10,11,12,13,14,15,16,17,18,19,20],some 21)] ?_;refine⟨λw'=>∃p:Regrown,w'=grow (redrawn W5 p.d) p.os,Qqx (brf.drew),λh=>(by cases h),?_⟩;simp only[du,Qyq,Xqq,Qyx,Qyz,Xqz,Xqx]
 repeat(go_big_quiet_step(fail))
 refine Qqz ?_;clear ev ea fb ci ed e4 ml a2 a6 ei;have bb:Below W5.heap.size W5 W5.drew:=brf.drew
 generalize W5.drew=wj at *
 have bd:=hid (bp.out.below bb);have cx:=hid (J.out.below bb);have gB:=(bd.out.own.rowBlk cs a4).2;have b1:=gB.lt;have b2:=gB.frozen g;have b3:=gB.cell db;have cc:Hid (de w3.heap.size B7 W0 (setOn H f g ((H.on.r f).z g-n)) (wj.setCell ⟨G,g,none⟩ (.int .i64 ((H.on.r f).z g-n)))):=bd.out.setOn A2 cs a4 g _;have J:Hid (Blk (wj.setCell ⟨G,g,none⟩ (.int .i64 ((H.on.r f).z g-n))) BM 63 4 (λj=>(#[.int .i64 (g:Int),.int .i64 (f:Int),.int .i64 (b:Int),.int .i64 N]:Array Value).getD j default)):=cx.out.other (a:=⟨G,g,none⟩) (Blk.ne2 cx.out gB (by decide)) _;clear bb gB bp bd cx a4 a5 a7 a8 e8 cj;refine li 21 rfl ?_;go_wp2_with fail;refine NoPanic.normal ?_;clear b1 b2 b3 r0 r1 r2 r3
 generalize wj.setCell ⟨G,g,none⟩ (.int .i64 ((H.on.r f).z g-n))=W6 at *
 go_wp2_with fail
 generalize hx2:setOn H f g ((H.on.r f).z g-n)=x2 at *
 have dz:=hid hx2;have dr:b<x2.on.n:=by rw[<-hx2];exact ez
 have dm:g<(x2.on.r b).n:=by rw[<-hx2,s9];exact et
 have ff:Hid ((x2.on.r b).z g=(H.on.r b).z g):=by show(x2.on.r b).z g=_;rw[<-hx2,Cx,if_neg (λe=>dq e.1.symm)]
 have ha:0<=(x2.on.r b).z g/\(x2.on.r b).z g<=200:=by rw[ff.out];exact wb
 clear hx2;obtain⟨g0,G,a1,a2,a3,a4,a5,a6,a7,a8,a9,ei,e8,cj⟩:=cc.out.own.onCell dr dm;have u0:W6.cell? ⟨B7,0,none⟩=some (.slice x2.on.a x2.on.n x2.on.c):=cc.out.box.k 0;have e4:=cc.out.box.lt;rw[a1] at u0;unfold maxLen at a8 cj;have m0:W6.cell? ⟨BM,0,none⟩=some (.int .i64 g):=J.out.k 0;have m1:W6.cell? ⟨BM,2,none⟩=some (.int .i64 b):=J.out.k 2;have ml:=J.out.lt;have r0:(0:Int)<=(b:Int):=by omega
 have r1:(b:Int)<(x2.on.n:Int):=by omega
 have r2:(0:Int)<=(g:Int):=by omega
 have r3:(g:Int)<((x2.on.r b).n:Int):=by omega
 have ev:=Qqq u0;have ea:=Qqq a3;have fb:=Qqq a9;have ci:=Qqq m0;have ed:=Qqq m1;clear u0 a1 a3 a9 m0 m1;refine jh [(true,[0,1,2,3,4,5,6,7,8,9,10,11,12,13,14,15,16,17,18,19,20],some 21)] ?_;refine⟨λw'=>∃p:Regrown,w'=grow (redrawn W6 p.d) p.os,Qqx (brf.drew),λh=>(by cases h),?_⟩;simp only[du,Qyq,Xqq,Qyx,Qyz,Xqz,Xqx]
 repeat(go_big_quiet_step(fail))
 refine Qqz ?_;clear ev ea fb ci ed e4 ml a2 a6 ei;have bb:Below W6.heap.size W6 W6.drew:=brf.drew
 generalize W6.drew=wj at *
 have bd:=hid (cc.out.below bb);have cx:=hid (J.out.below bb);have gB:=(bd.out.own.rowBlk dr a4).2;have b1:=gB.lt;have b2:=gB.frozen g;have b3:=gB.cell dm;have P:Hid (de w3.heap.size B7 W0 (setOn x2 b g ((x2.on.r b).z g+n)) (wj.setCell ⟨G,g,none⟩ (.int .i64 ((x2.on.r b).z g+n)))):=bd.out.setOn A2 dr a4 g _;clear bb gB cc bd cx a4 a5 a7 a8 e8 cj;refine li 21 rfl ?_;go_wp2_with fail;refine NoPanic.normal ?_;clear b1 b2 b3 r0 r1 r2 r3
 generalize wj.setCell ⟨G,g,none⟩ (.int .i64 ((x2.on.r b).z g+n))=A at *
 go_wp2_with fail
 generalize hx3:setOn x2 b g ((x2.on.r b).z g+n)=x3 at *
 have dy:=hid hx3;clear hx3;obtain⟨iM,hM,ds,dv,dw⟩:=info_parts Ec;obtain⟨⟨⟨l1,d0,d1⟩,l2,c0,c1,c2,c3,c4,c5,c6⟩,T,D,y,L⟩:=HC.out A P.out.bel;have ex:=hid D.ms;have ms8:=HR.out.fm.ms8;rw[cp.out] at c3;have f3:=Qqq c3;clear T D y L c0 c1 c2 c4 c5 c6 d0 d1 c3 cs ez db et wf wb dr dm ha gh;by_cases ga:s.ms.c=i+1;rotate_left
 .refine fh (λw'=>∃p:Regrown,w'=grow (redrawn A p.d) p.os) [1,2,3,4,6,7,8,9,10] [0] [(false,5),(false,11),(false,12),(true,13)] (Qqx (brf.drew)) ?_;simp only[du,Qyq,Xqq,Qyx,Qyz,Xqz,Xqx]
  repeat(go_big_quiet_step(fail))
  refine Qqz ?_;clear f3;refine⟨λj v g Q=>∃B,v = .slice (some ⟨B,0,none⟩) 0 0/\g=[B]/\A.heap.size<=B/\Q.heap[B]?=some (.cells #[] 63 (0,0)),
   Qjx ⟨λv g w w' hB h=>⟨h.choose,h.choose_spec.1,h.choose_spec.2.1,h.choose_spec.2.2.1,(hB.block _ (Qkq h.choose_spec.2.2.2).1).trans h.choose_spec.2.2.2⟩,Qjq _⟩,
   Qjx ⟨λv g w h=>by obtain⟨B,-,h2,-,h4⟩:=h;rw[h2];intro x hx;rw[List.mem_singleton] at hx;rw[hx];exact(Qkq h4).1,Qjq _⟩,
   Qjx ⟨?zt0,Qjq _⟩,?ztdone⟩
  case zt0 =>
   intro V G Q K hS hd hK;have U:=ae hS;refine aq 0 rfl ?_;simp only[ap,az,Qvz,Qvx,Act.put,Qvq,Qwx,Qwz] at hK ⊢;go_wp2_with fail;exact hK _ [Q.heap.size] _ (Qqx (U.alloc U.size _)) (brf.alloc nlr _) (λx hx=>by rw[List.mem_singleton] at hx;omega) ⟨Q.heap.size,rfl,rfl,U.size,heap_alloc_new Q _⟩
  case ztdone =>
   intro V G' Q hS hD hA;obtain⟨BV,d9,ef,a0,cy⟩:∃B,V 0 = .slice (some ⟨B,0,none⟩) 0 0/\G' 0=[B]/\A.heap.size<=B/\Q.heap[B]?=some (.cells #[] 63 (0,0)):=hD 0 (by simp);have U:=ae hS;clear hS hD hA ef;simp only[ap,az,Qvz,Qvx,Act.put,Qvq,Qwx,Qwz,d9];have ab:Q.ownsRow A.heap.size 63 4 (.slice (some ⟨BV,0,none⟩) 0 0) 0 []:=⟨rfl,Or.inr ⟨BV,0,#[],rfl,a0,cy,Nat.le_refl _,Qxz _,rfl,rfl⟩⟩;have cn:Hid (jj Q (some ⟨bm,om,none⟩) s.ms.n s.ms.z/\Below A.heap.size A Q):=⟨by have h:=(ex.out.below U).hds;rw[cp.out] at h;exact h,U⟩;refine cf 5 rfl ?_;refine wpList_append_own Q rfl (.tmp 97) (.tmp 101) 29 rfl A.heap.size 63 iM (.agg #[.int .i64 0,.int .i64 0,.int .i64 0,.int .i64 0]) 4 32 underlying29 hM ds dv dw rfl (by decide) _ 0 [] rfl ab ⟨bm,om,none⟩ i _ (ay i s.ms.z) rfl (eu _ _) (λj u hj=>by
    rw[xt];have h:=cn.out.1.flat (q:=0) (m:=i) (by omega) (j:=j) (u:=u) (by simpa using hj)
    simpa using h) (mw _ _) (by unfold maxLen;omega) (by omega) U.size ?_
   intro v1 ax r1 r2 _;have ck:Below A.heap.size A ax:=U.grown r2 U.size (λk e=>by cases e;exact a0);have Y:=hid ck;have bf:Hid (ax.ownsRow A.heap.size 63 4 v1 i (ay i s.ms.z)):=by have h:=r1;rw[Nat.zero_add,Xqx] at h;exact h
   clear U r1 r2 ab cy a0 cn ck;simp only[Act.put,Qvq,Qwx,Qwz];refine(?_:wpList _ _ _ [] _ _);go_wp2_with fail;refine⟨gy.no (Qqx Y.out),?_⟩;refine cf 11 rfl ?_;have f7:Hid (jj ax (some ⟨bm,om,none⟩) s.ms.n s.ms.z):=by have h:=(ex.out.below Y.out).hds;rw[cp.out] at h;exact h
   refine wpList_append_own ax rfl (.tmp 102) (.tmp 107) 29 rfl A.heap.size 63 iM (.agg #[.int .i64 0,.int .i64 0,.int .i64 0,.int .i64 0]) 4 32 underlying29 hM ds dv dw rfl (by decide) v1 i (ay i s.ms.z) rfl bf.out ⟨bm,om+(i+1)*4,none⟩ (s.ms.n-(i+1)) _ (ay (s.ms.n-(i+1)) (λj=>s.ms.z (i+1+j))) rfl (eu _ _) (λj u hj=>by rw[xt];exact f7.out.flat (q:=i+1) (m:=s.ms.n-(i+1)) (by omega) hj) (mw _ _) (by unfold maxLen;omega) (by omega) Y.out.size ?_;intro v2 S r3 r4 _;have cd:Below A.heap.size A S:=Y.out.grown r4 Y.out.size (λk e=>Dj bf.out e);have be:S.ownsRow A.heap.size 63 4 v2 (s.ms.n-1) (ay (s.ms.n-1) (fw s.ms.z i)):=by
    rw[vk s.ms.n s.ms.z i hi];have cz:=r3;rw[show i+(s.ms.n-(i+1))=s.ms.n-1 by omega] at cz;exact cz
   obtain⟨t,rfl,bg,kn,kz⟩:=cw.ofRow be nlr;have cl:Hid (fu A.heap.size S 63 4 t.a t.c):=fu.ofOwns (a:=t.a) (n:=t.n) (c:=t.c) be nlr;have ak:=qa3 bg kn kz;have F:=hid cd;clear r3 r4 cd be bg kn kz bf Y f7;simp only[Act.put,Qvq,Qwx,Qwz,Hs.val];refine(?_:wpList _ _ _ [] _ _);go_wp2_with fail;refine⟨gy.no (Qqx F.out),?_⟩;refine cf 12 rfl ?_;have E:=P.out.box.below F.out;have zl:=E.lt;have am:=E.frozen 3;have zc3:=E.k 3;go_wp2_with fail;refine⟨gy.no (Qqx F.out),?_⟩;refine cf 13 rfl ?_;go_wp2_with fail;refine⟨gy.yes,?_⟩;clear zl am zc3;have ey:Hid (Blk (S.setCell ⟨B7,3,none⟩ (.slice t.a t.n t.c)) B7 31 7 (λj=>(withMoves x3 t).cells.getD j default)):=(E.set 3 _).congr λj hj=>by match j,hj with|0,_=>rfl|1,_=>rfl|2,_=>rfl|3,_=>rfl|4,_=>rfl|5,_=>rfl|6,_=>rfl
   have ec:Hid (Below W0.heap.size W0 (S.setCell ⟨B7,3,none⟩ (.slice t.a t.n t.c))):=(P.out.bel.trans (F.out.mono P.out.bel.size)).setCell (p:=⟨B7,3,none⟩) (by show W0.heap.size<=B7;omega) _;have ee:Hid (ai w3.heap.size (S.setCell ⟨B7,3,none⟩ (.slice t.a t.n t.c)) (withMoves x3 t)):=((ai.below P.out.own F.out).withM (ak.out.1.mono P.out.le) (cl.out.mono P.out.le)).box E 3 (.slice t.a t.n t.c);have e5:Hid (af (withMoves x3 t) (jz s i n)):=by
    have h:=Co HI.out f1.out (q:=t) ak.out.2.1 (λj hj=>by rw[ak.out.2.2];rfl);have e:ve H t f b g n=withMoves x3 t:=by
     unfold ve;rw[<-dy.out,ff.out,<-dz.out]
     rfl
    rw[e] at h;exact h
   clear E P F ak dy dz cl
   generalize S.setCell ⟨B7,3,none⟩ (.slice t.a t.n t.c)=W9 at *
   generalize withMoves x3 t=x4 at *
   refine NoPanic.normal ?_;obtain⟨m1,p0,p1,p2,p3,p4,p5,p6⟩:=Boxed.of ey.out;obtain⟨-,-,-,y,L⟩:=HC.out W9 ec.out;have HZ:=qa2 y L;obtain⟨zl,co,ct,ce,zc1,cv,zc2,am,zc3,cr,zc4,ca,zc5,cb,ch⟩:=z7 L;have ge:=(HC.out _ brf).2.2.2.1.size;clear y L u1 u2 u3 u4 u5 u6 q0 q1 q2 q3 q4 q5 rn hZB hi bn nn al bh bs dq e6 bw dl eb el leb b6 les b8 capb caps;go_wp2_with fail;have KZ:=s7b HZ.out.2 x4;have c8:=s7w (b:=w.heap.size+2) HZ.out.1 (by omega) x4;have bc:=s7o ee.out HZ.out.2 x4;unfold set7 at KZ c8 bc;obtain⟨fg,e7,ej,en,d8,fc,fi⟩:=df KZ;refine Xzq (v := .tuple #[x4.val,.int .i64 0]) (by simp[results,results59,go_sem,St.val,fg,e7,ej,en,d8,fc,fi]) rfl ?_;exact⟨x4,by rw[HX.out];rfl,bc.at,⟨λ_=>e5.out,λh=>absurd HX.out h⟩,λ_=>bc.mono e3.out,c8⟩
 refine fh (λw'=>∃p:Regrown,w'=grow (redrawn A p.d) p.os) [1,2,3,4,6,7,8,9,10] [0] [(false,5),(false,11),(false,12),(true,13)] (Qqx (brf.drew)) ?_;simp only[du,Qyq,Xqq,Qyx,Qyz,Xqz,Xqx]
 repeat(go_big_quiet_step(fail))
 refine Qqz ?_;clear f3;have gc:=hid ga;clear ga;refine⟨λj v g Q=>∃B,v = .slice (some ⟨B,0,none⟩) 0 0/\g=[B]/\A.heap.size<=B/\Q.heap[B]?=some (.cells #[] 63 (0,0)),
  Qjx ⟨λv g w w' hB h=>⟨h.choose,h.choose_spec.1,h.choose_spec.2.1,h.choose_spec.2.2.1,(hB.block _ (Qkq h.choose_spec.2.2.2).1).trans h.choose_spec.2.2.2⟩,Qjq _⟩,
  Qjx ⟨λv g w h=>by obtain⟨B,-,h2,-,h4⟩:=h;rw[h2];intro x hx;rw[List.mem_singleton] at hx;rw[hx];exact(Qkq h4).1,Qjq _⟩,
  Qjx ⟨?zt0,Qjq _⟩,?ztdone⟩
 case zt0 =>
  intro V G Q K hS hd hK;have U:=ae hS;refine aq 0 rfl ?_;simp only[ap,az,Qvz,Qvx,Act.put,Qvq,Qwx,Qwz] at hK ⊢;go_wp2_with fail;exact hK _ [Q.heap.size] _ (Qqx (U.alloc U.size _)) (brf.alloc nlr _) (λx hx=>by rw[List.mem_singleton] at hx;omega) ⟨Q.heap.size,rfl,rfl,U.size,heap_alloc_new Q _⟩
 case ztdone =>
  intro V G' Q hS hD hA;obtain⟨BV,d9,ef,a0,cy⟩:∃B,V 0 = .slice (some ⟨B,0,none⟩) 0 0/\G' 0=[B]/\A.heap.size<=B/\Q.heap[B]?=some (.cells #[] 63 (0,0)):=hD 0 (by simp);have U:=ae hS;clear hS hD hA ef;simp only[ap,az,Qvz,Qvx,Act.put,Qvq,Qwx,Qwz,d9];have ab:Q.ownsRow A.heap.size 63 4 (.slice (some ⟨BV,0,none⟩) 0 0) 0 []:=⟨rfl,Or.inr ⟨BV,0,#[],rfl,a0,cy,Nat.le_refl _,Qxz _,rfl,rfl⟩⟩;have cn:Hid (jj Q (some ⟨bm,om,none⟩) s.ms.n s.ms.z/\Below A.heap.size A Q):=⟨by have h:=(ex.out.below U).hds;rw[cp.out] at h;exact h,U⟩;refine cf 5 rfl ?_;refine wpList_append_own Q rfl (.tmp 97) (.tmp 101) 29 rfl A.heap.size 63 iM (.agg #[.int .i64 0,.int .i64 0,.int .i64 0,.int .i64 0]) 4 32 underlying29 hM ds dv dw rfl (by decide) _ 0 [] rfl ab ⟨bm,om,none⟩ i _ (ay i s.ms.z) rfl (eu _ _) (λj u hj=>by
   rw[xt];have h:=cn.out.1.flat (q:=0) (m:=i) (by omega) (j:=j) (u:=u) (by simpa using hj)
   simpa using h) (mw _ _) (by unfold maxLen;omega) (by omega) U.size ?_
  intro v1 ax r1 r2 _;have ck:Below A.heap.size A ax:=U.grown r2 U.size (λk e=>by cases e;exact a0);have Y:=hid ck;have bf:Hid (ax.ownsRow A.heap.size 63 4 v1 i (ay i s.ms.z)):=by have h:=r1;rw[Nat.zero_add,Xqx] at h;exact h
  clear U r1 r2 ab cy a0 cn ck;simp only[Act.put,Qvq,Qwx,Qwz];refine(?_:wpList _ _ _ [] _ _);go_wp2_with fail;refine⟨gy.no (Qqx Y.out),?_⟩;refine cf 11 rfl ?_;refine wpList_append_own ax rfl (.tmp 102) (.tmp 107) 29 rfl A.heap.size 63 iM (.agg #[.int .i64 0,.int .i64 0,.int .i64 0,.int .i64 0]) 4 32 underlying29 hM ds dv dw rfl (by decide) v1 i (ay i s.ms.z) rfl bf.out ⟨bm,om,none⟩ _ _ [] rfl (by first|rfl|(have:=gc.out;simp;omega)) (λj u hj=>by cases hj) (λu hu=>by cases hu) (by unfold maxLen;omega) (by omega) Y.out.size ?_;intro v2 S r3 r4 _;have cd:Below A.heap.size A S:=Y.out.grown r4 Y.out.size (λk e=>Dj bf.out e);have be:S.ownsRow A.heap.size 63 4 v2 (s.ms.n-1) (ay (s.ms.n-1) (fw s.ms.z i)):=by
   rw[vk s.ms.n s.ms.z i hi];have hc:=gc.out;have e1:s.ms.n-(i+1)=0:=by omega
   rw[e1];have e2:s.ms.n-1=i:=by omega
   rw[e2]
   first|exact r3|(have cz:=r3;rw[e1] at cz;exact cz)
  obtain⟨t,rfl,bg,kn,kz⟩:=cw.ofRow be nlr;have cl:Hid (fu A.heap.size S 63 4 t.a t.c):=fu.ofOwns (a:=t.a) (n:=t.n) (c:=t.c) be nlr;have ak:=qa3 bg kn kz;have F:=hid cd;clear r3 r4 cd be bg kn kz bf Y;simp only[Act.put,Qvq,Qwx,Qwz,Hs.val];refine(?_:wpList _ _ _ [] _ _);go_wp2_with fail;refine⟨gy.no (Qqx F.out),?_⟩;refine cf 12 rfl ?_;have E:=P.out.box.below F.out;have zl:=E.lt;have am:=E.frozen 3;have zc3:=E.k 3;go_wp2_with fail;refine⟨gy.no (Qqx F.out),?_⟩;refine cf 13 rfl ?_;go_wp2_with fail;refine⟨gy.yes,?_⟩;clear zl am zc3;have ey:Hid (Blk (S.setCell ⟨B7,3,none⟩ (.slice t.a t.n t.c)) B7 31 7 (λj=>(withMoves x3 t).cells.getD j default)):=(E.set 3 _).congr λj hj=>by match j,hj with|0,_=>rfl|1,_=>rfl|2,_=>rfl|3,_=>rfl|4,_=>rfl|5,_=>rfl|6,_=>rfl
  have ec:Hid (Below W0.heap.size W0 (S.setCell ⟨B7,3,none⟩ (.slice t.a t.n t.c))):=(P.out.bel.trans (F.out.mono P.out.bel.size)).setCell (p:=⟨B7,3,none⟩) (by show W0.heap.size<=B7;omega) _;have ee:Hid (ai w3.heap.size (S.setCell ⟨B7,3,none⟩ (.slice t.a t.n t.c)) (withMoves x3 t)):=((ai.below P.out.own F.out).withM (ak.out.1.mono P.out.le) (cl.out.mono P.out.le)).box E 3 (.slice t.a t.n t.c);have e5:Hid (af (withMoves x3 t) (jz s i n)):=by
   have h:=Co HI.out f1.out (q:=t) ak.out.2.1 (λj hj=>by rw[ak.out.2.2];rfl);have e:ve H t f b g n=withMoves x3 t:=by
    unfold ve;rw[<-dy.out,ff.out,<-dz.out]
    rfl
   rw[e] at h;exact h
  clear E P F ak dy dz cl
  generalize S.setCell ⟨B7,3,none⟩ (.slice t.a t.n t.c)=W9 at *
  generalize withMoves x3 t=x4 at *
  refine NoPanic.normal ?_;obtain⟨m1,p0,p1,p2,p3,p4,p5,p6⟩:=Boxed.of ey.out;obtain⟨-,-,-,y,L⟩:=HC.out W9 ec.out;have HZ:=qa2 y L;obtain⟨zl,co,ct,ce,zc1,cv,zc2,am,zc3,cr,zc4,ca,zc5,cb,ch⟩:=z7 L;have ge:=(HC.out _ brf).2.2.2.1.size;clear y L u1 u2 u3 u4 u5 u6 q0 q1 q2 q3 q4 q5 rn hZB hi bn nn al bh bs dq e6 bw dl eb el leb b6 les b8 capb caps;go_wp2_with fail;have KZ:=s7b HZ.out.2 x4;have c8:=s7w (b:=w.heap.size+2) HZ.out.1 (by omega) x4;have bc:=s7o ee.out HZ.out.2 x4;unfold set7 at KZ c8 bc;obtain⟨fg,e7,ej,en,d8,fc,fi⟩:=df KZ;refine Xzq (v := .tuple #[x4.val,.int .i64 0]) (by simp[results,results59,go_sem,St.val,fg,e7,ej,en,d8,fc,fi]) rfl ?_;exact⟨x4,by rw[HX.out];rfl,bc.at,⟨λ_=>e5.out,λh=>absurd HX.out h⟩,λ_=>bc.mono e3.out,c8⟩
def na(f:Hd->Bool)(z:Nat->Hd)(n:Nat):Int:=match kj f z n with
 | none => -1
 | some k=>(k:Int)
theorem Qh{f:Hd->Bool}{k:Nat}(h:f (z k)=true):na f z (k+1)=(k:Int):=by
 have e:kj f z (k+1)=some k:=if_pos h;unfold na;rw[e]
theorem Df{f:Hd->Bool}{k:Nat}(h:f (z k)=false):na f z (k+1)=na f z k:=by
 have e:kj f z (k+1)=kj f z k:=if_neg (by rw[h];decide);unfold na;rw[e]
theorem Sy(s:St)(b g:Nat)(w:World)(hs:s.At w):
  Calls prog 121 #[s.val,.int .i64 (b:Int),.int .i64 (g:Int)] w λe w'=>e = .returned (.int .i64 (na (ct b g) s.ms.z s.ms.n))/\Below w.heap.size w w':=by
 obtain⟨H,U,m,K⟩:∃W,w.alloc (.cells s.cells 31)=W/\Below w.heap.size w W/\Blk W w.heap.size 31 7 (λj=>s.cells.getD j default):=⟨_,rfl,(Below.refl w.heap.size w).alloc nlr _,Blk.mk' rfl rfl⟩;have T:Hid (∀f,Below H.heap.size H f->Blk f w.heap.size 31 7 (λj=>s.cells.getD j default)/\s.At f/\Below w.heap.size w f):=λf h=>⟨K.below h,(hs.below m).below h,m.trans (h.mono m.size)⟩;have L:Hid (w.alloc (.cells #[.slice s.on.a s.on.n s.on.c,.slice s.os.a s.os.n s.os.c,.slice s.hs.a s.hs.n s.hs.c,.slice s.ms.a s.ms.n s.ms.c,.slice s.si.a s.si.n s.si.c,.slice s.so.a s.so.n s.so.c,.slice s.sf.a s.sf.n s.sf.c] 31)=H):=U;have ml:=hs.ms.le;have Y:=hs.ms.cap;unfold maxLen at Y;obtain⟨v,t,B,G,q,x,F,A⟩:=Boxed.of K;rw[<-L.out] at v t B G q x F A;clear U m K hs;unfold St.val;go_enter func121,ntmps121;go_wp2_with fail;rw[L.out];clear L v t B G q x F A
 go_loopw [7] (λP f=>∃i:Nat,i<=s.ms.n/\P = .int .i64 ((i:Int)-1)/\Hid (na (ct b g) s.ms.z s.ms.n=na (ct b g) s.ms.z i)/\Hid (Below H.heap.size H f)) (λP _=>(intOf P+1).toNat)
 case atStart=>exact⟨s.ms.n,Nat.le_refl _,rfl,rfl,Below.refl _ _⟩
 obtain⟨i,hi,rfl,d,J⟩:=hrel;rcases i with _|k
 .have r:=(T.out wr J.out).2.2;have S:=hid d.out;clear d;go_wp2_with fail;go_ret;exact⟨by rw[S.out];rfl,r⟩
 have q1:(0:Int)<=(k:Int):=by omega
 have hk:k<s.ms.n:=by omega
 have q3:(k:Int)<(s.ms.n:Int):=by omega
 have V:(((k+1:Nat):Int)-1)=(k:Int):=by omega
 rw[V];obtain⟨y,E,r⟩:=T.out wr J.out;obtain⟨v,t,B,G,q,x,F,A⟩:=Boxed.of y;obtain⟨bm,om,u,ad,z0,z1,z2,z3⟩:=E.ms.hds k hk;have ac:=hid u;rw[u] at q;have p:Hid (ct b g (s.ms.z k)=((s.ms.z k).l==(b:Int)&&(s.ms.z k).o==(g:Int))):=rfl
 generalize hZ:s.ms.z k=Z at *
 have Q:=hid hZ;clear u hZ V;cases M:(Z.l==(b:Int))
 .have D:Hid (na (ct b g) s.ms.z s.ms.n=na (ct b g) s.ms.z k):=by show _=_;rw[d.out,Df (by rw[Q.out,p.out,M];rfl)]
  clear d p;go_wp2_with fail;clear y E v t B G q x F A;go_roundw
  case rel=>exact⟨k,by omega,by go_num,D,J⟩
  case measure=>simp[intOf]
 cases X:(Z.o==(g:Int))
 .have D:Hid (na (ct b g) s.ms.z s.ms.n=na (ct b g) s.ms.z k):=by show _=_;rw[d.out,Df (by rw[Q.out,p.out,M,X];rfl)]
  clear d p;go_wp2_with fail;clear y E v t B G q x F A;go_roundw
  case rel=>exact⟨k,by omega,by go_num,D,J⟩
  case measure=>simp[intOf]
 have D:Hid (na (ct b g) s.ms.z s.ms.n=(k:Int)):=by show _=_;rw[d.out,Qh (by rw[Q.out,p.out,M,X];rfl)]
 clear d p;go_wp2_with fail;go_ret;exact⟨by rw[D.out];rfl,r⟩
theorem Sx(p:Pl)(s:St)(b g:Nat)(w:World)(hs:s.At w)(f:cx p s):
  Calls prog 122 #[s.val,.int .i64 (b:Int),.int .i64 (g:Int)] w λe w'=>e = .returned (.int .i64 (na (ce s b g) s.hs.z s.hs.n))/\Below w.heap.size w w':=by
 have bn:=hid f;have bw:=hs.os.le;have bj:=hs.os.cap;unfold maxLen at bj;clear f;obtain⟨W0,hW,T,hX⟩:∃W,w.alloc (.cells s.cells 31)=W/\Below w.heap.size w W/\Blk W w.heap.size 31 7 (λj=>s.cells.getD j default):=⟨_,rfl,(Below.refl w.heap.size w).alloc nlr _,Blk.mk' rfl rfl⟩;have HC:Hid (∀Q,Below W0.heap.size W0 Q->Blk Q w.heap.size 31 7 (λj=>s.cells.getD j default)/\s.At Q/\Below w.heap.size w Q):=λQ h=>⟨hX.below h,(hs.below T).below h,T.trans (h.mono T.size)⟩;have HW:Hid (w.alloc (.cells #[.slice s.on.a s.on.n s.on.c,.slice s.os.a s.os.n s.os.c,.slice s.hs.a s.hs.n s.hs.c,.slice s.ms.a s.ms.n s.ms.c,.slice s.si.a s.si.n s.si.c,.slice s.so.a s.so.n s.so.c,.slice s.sf.a s.sf.n s.sf.c] 31)=W0):=hW;have ml:=hs.hs.le;have mc:=hs.hs.cap;unfold maxLen at mc;obtain⟨F,u,r,t,P,J,M,y⟩:=Boxed.of hX;rw[<-HW.out] at F u r t P J M y;clear hW T hX hs;unfold St.val;go_enter func122,ntmps122;go_wp2_with fail;rw[HW.out];clear HW F u r t P J M y
 go_loopw [7] (λiv Q=>∃i:Nat,i<=s.hs.n/\iv = .int .i64 ((i:Int)-1)/\Hid (na (ce s b g) s.hs.z s.hs.n=na (ce s b g) s.hs.z i)/\Hid (Below W0.heap.size W0 Q)) (λiv _=>(intOf iv+1).toNat)
 case atStart=>exact⟨s.hs.n,Nat.le_refl _,rfl,rfl,Below.refl _ _⟩
 obtain⟨i,hi,rfl,G,HB⟩:=hrel;rcases i with _|k
 .have ba:=(HC.out wr HB.out).2.2;have bg:=hid G.out;clear G;go_wp2_with fail;go_ret;exact⟨by rw[bg.out];rfl,ba⟩
 have q1:(0:Int)<=(k:Int):=by omega
 have hk:k<s.hs.n:=by omega
 have q3:(k:Int)<(s.hs.n:Int):=by omega
 have e1:(((k+1:Nat):Int)-1)=(k:Int):=by omega
 rw[e1];obtain⟨a1,a2,a3⟩:=i8 (bn.out.home k hk);obtain⟨o,ho⟩:=Qzz a1.1;obtain⟨l,hl⟩:=Qzz a2.1;rw[ho] at a1 a2;rw[hl] at a2;have on:o<s.os.n:=a1.2;have ln:l<(s.os.z o).ls.n:=a2.2;have V:Hid (ce s b g (s.hs.z k)=((s.hs.z k).b==(b:Int)&&((s.os.z o).ls.z l).o==(g:Int))):=by
  show ce s b g (s.hs.z k)=_;unfold ce jw;rw[ho,hl]
  rfl
 obtain⟨x,B,-⟩:=HC.out wr HB.out;obtain⟨bm,om,ar,bk,v0,v1,v2,v3⟩:=B.hs.hds k hk;rw[ho] at v0;rw[hl] at v1
 generalize (s.hs.z k).b=ZB at *
 generalize (s.hs.z k).n=ZN at *
 obtain⟨W3,av,ah,K3⟩:∃W,wr.alloc (.cells #[.int .i64 (o:Int),.int .i64 (l:Int),.int .i64 ZB,.int .i64 ZN] 61)=W/\Below wr.heap.size wr W/\Blk W wr.heap.size 61 4 (λj=>(#[.int .i64 (o:Int),.int .i64 (l:Int),.int .i64 ZB,.int .i64 ZN]:Array Value).getD j default):=⟨_,rfl,brf.alloc nlr _,Blk.mk' rfl rfl⟩;have aw:Hid (wr.alloc (.cells #[.int .i64 (o:Int),.int .i64 (l:Int),.int .i64 ZB,.int .i64 ZN] 61)=W3):=av;have d:=hid (HB.out.trans (ah.mono HB.out.size));have yl:=K3.lt;have y0:W3.cell? ⟨wr.heap.size,0,none⟩=some (.int .i64 (o:Int)):=K3.k 0;have X:W3.cell? ⟨wr.heap.size,1,none⟩=some (.int .i64 (l:Int)):=K3.k 1;have Y:W3.cell? ⟨wr.heap.size,2,none⟩=some (.int .i64 ZB):=K3.k 2;have y3:W3.cell? ⟨wr.heap.size,3,none⟩=some (.int .i64 ZN):=K3.k 3;obtain⟨F,u,r,t,P,J,M,y⟩:=Boxed.of x;rw[ar] at t;clear a1 a2 a3 ho hl av ah K3 x B ar e1;go_wp2_with fail;rw[aw.out];clear aw F u r t P J M y bk v0 v1 v2 v3;obtain⟨x,B,-⟩:=HC.out W3 d.out;obtain⟨F,u,r,t,P,J,M,y⟩:=Boxed.of x;obtain⟨bo,oo,au,ad,z0,S,U⟩:=B.os.ods o on;obtain⟨bl,ol,aq,aj,w0,w1,w2,w3⟩:=U.hds l ln;have ll:=U.le;have lc:=U.cap;unfold maxLen at lc;rw[au] at r;rw[aq] at S;have s0:(0:Int)<=(o:Int):=by omega
 have s1:(o:Int)<(s.os.n:Int):=by omega
 have s2:(0:Int)<=(l:Int):=by omega
 have s3:(l:Int)<((s.os.z o).ls.n:Int):=by omega
 clear x B au aq U HB
 generalize ((s.os.z o).ls.z l).o=ZO at *
 cases h1:(ZB==(b:Int))
 .have HN:Hid (na (ce s b g) s.hs.z s.hs.n=na (ce s b g) s.hs.z k):=by show _=_;rw[G.out,Df (by rw[V.out,h1];rfl)]
  clear G V;have L:=Qqq r;have v:=Qqq y0;have E:=Qqq X;have A:=Qqq Y;have K:=Qqq S;have D:=Qqq w0;refine Qxq (by kernel_rfl) (by kernel_rfl) ?_
  repeat(go_big_quiet_step(fail))
  refine Qqz ?_;intro w4 m;have q:=ae m;have H:=hid (d.out.trans (q.mono d.out.size));clear m q L v E A K D d F u r t P J M y y0 X Y y3 yl ad z0 S aj w0 w1 w2 w3;go_wp2_with fail;go_roundw
  case rel=>exact⟨k,by omega,by go_num,HN,H⟩
  case measure=>simp[intOf]
 cases h2:(ZO==(g:Int));rotate_left
 .have HN:Hid (na (ce s b g) s.hs.z s.hs.n=(k:Int)):=by show _=_;rw[G.out,Qh (by rw[V.out,h1,h2];rfl)]
  clear G V;have L:=Qqq r;have v:=Qqq y0;have E:=Qqq X;have A:=Qqq Y;have K:=Qqq S;have D:=Qqq w0;refine Qxq (by kernel_rfl) (by kernel_rfl) ?_
  repeat(go_big_quiet_step(fail))
  refine Qqz ?_;intro w4 m;have q:=ae m;have H:=hid (d.out.trans (q.mono d.out.size));clear m q L v E A K D d F u r t P J M y y0 X Y y3 yl ad z0 S aj w0 w1 w2 w3;go_wp2_with fail;go_ret;exact⟨by rw[HN.out];rfl,(HC.out _ H.out).2.2⟩
 have HN:Hid (na (ce s b g) s.hs.z s.hs.n=na (ce s b g) s.hs.z k):=by show _=_;rw[G.out,Df (by rw[V.out,h1,h2];rfl)]
 clear G V;have L:=Qqq r;have v:=Qqq y0;have E:=Qqq X;have A:=Qqq Y;have K:=Qqq S;have D:=Qqq w0;refine Qxq (by kernel_rfl) (by kernel_rfl) ?_
 repeat(go_big_quiet_step(fail))
 refine Qqz ?_;intro w4 m;have q:=ae m;have H:=hid (d.out.trans (q.mono d.out.size));clear m q L v E A K D d F u r t P J M y y0 X Y y3 yl ad z0 S aj w0 w1 w2 w3;go_wp2_with fail;go_roundw
 case rel=>exact⟨k,by omega,by go_num,HN,H⟩
 case measure=>simp[intOf]
theorem Sk{p:Nat->Prop}(h:∃n,p n):∃n,p n/\∀m,p m->n<=m:=by
 obtain⟨n,e⟩:=h
 induction n using Nat.strongRecOn with
 | _ n ih =>
  by_cases c:∃m,m<n/\p m
  .obtain⟨m,f,d⟩:=c;exact ih m f d
  exact⟨n,e,λm b=>Nat.le_of_not_lt λa=>c ⟨m,a,b⟩⟩
theorem adh:∃f:(Nat->Prop)->Nat,(∀p:Nat->Prop,(∃n,p n)->p (f p))/\∀(p:Nat->Prop) (n:Nat),p n->f p<=n:=by
 have h:∀p:Nat->Prop,∃m,(∃n,p n)->p m/\∀n,p n->m<=n:=λp=>by
  by_cases c:∃n,p n
  .obtain⟨m,b⟩:=Sk c;exact⟨m,λ_=>b⟩
  exact⟨0,λh=>absurd h c⟩
 exact⟨λp=>Classical.choose (h p),λp d=>(Classical.choose_spec (h p) d).1,λp n a=>(Classical.choose_spec (h p) ⟨n,a⟩).2 n a⟩
section
variable {p:Pl} {s x:St} {b g:Nat} {seen J:Int}
theorem dg.formedJ(h:dg p s b g seen)(a:0<=J):cx p (ju (je s b g J) b g seen):=by
 have F:=Ha (b:=b) (g:=g) h.r a;have G:=h.right.fm;exact⟨G.sh,G.sh0,F.os4,F.ms8,F.lns,F.kind,F.line,F.hold,F.home,F.move,G.sin,G.son,G.sfn,G.sib,G.sob,G.sfb⟩
theorem nz.formed(h:dg p s b g seen)(a:0<=J)(c:nz s b g seen J x):cx p x:=af.formed c (h.formedJ a)
theorem nz.boundJ(h:dg p s b g seen)(a:0<=J)(e:J<=oq s b g)(c:nz s b g seen J x):oq x b g=oq s b g-J:=by
 rw[<-Ys h.r a e];unfold oq;rw[af.held c (h.formedJ a),af.from c];have d:ca (ju (je s b g J) b g seen) b g (ju (je s b g J) b g seen).hs.n=ca (je s b g J) b g (je s b g J).hs.n:=sw (λ_ _=>rfl) (λ_ _=>rfl);have f:bj (ju (je s b g J) b g seen) b g (ju (je s b g J) b g seen).ms.n=bj (je s b g J) b g (je s b g J).ms.n:=pr (λ_ _=>rfl);rw[d,f]
theorem de.moveN{c e:World}(h:de A j c x e)(q:c.heap.size<=A){G:Nat}(hi:i<x.ms.n)(f:x.ms.a=some ⟨G,0,none⟩)(d:Int):de A j c (withMoves x (Cw x.ms i d)) (e.setCell ⟨G,i*4+3,none⟩ (.int .i64 ((x.ms.z i).n-d))):=by
 have k:=h.own.ms;obtain⟨r,t,s,l⟩:=h.own.ms;obtain⟨o,b,m,g⟩:=l (by omega);rw[f] at b;simp only[Qkx,Qkz,and_true] at b;subst b;exact⟨h.own.keepM g ((ir.refl G e).set _ _) (k.less hi f d) (h.own.msr.set G (i*4+3) _),h.box.other (a:=⟨G,i*4+3,none⟩) (Blk.ne2 h.box g (by decide)) _,h.bel.setCell (p:=⟨G,i*4+3,none⟩) (by show c.heap.size<=G;omega) _,by have:=h.le;simpa using this⟩
theorem de.holds{e:World}(h:de A b e x d)(i:e.heap.size<=b){m:Hs}(g:cw A 61 d m):de A b e (withHolds x m) (d.setCell ⟨b,2,none⟩ (.slice m.a m.n m.c)):=by
 refine⟨(h.own.withHolds g).box h.box 2 _,(h.box.set 2 _).congr λj f => ?_,h.bel.setCell (p:=⟨b,2,none⟩) i _,by have:=h.le;simpa using this⟩
 match j,f with
 | 0,_=>rfl
 | 1,_=>rfl
 | 2,_=>rfl
 | 3,_=>rfl
 | 4,_=>rfl
 | 5,_=>rfl
 | 6,_=>rfl
theorem de.line{e:Nat}{c:World}(h:de A e c x d)(m:c.heap.size<=A){B:Nat}(g:o<x.os.n)(f:(x.os.z o).ls.a=some ⟨B,0,none⟩)(l:Nat)(v:Int):de A e c (setLine x o l 3 v) (d.setCell ⟨B,l*4+3,none⟩ (.int .i64 v)):=by
 obtain⟨B',b,j,k,q,i⟩:=h.own.os.lines o g;rw[f] at b;simp only[Qkx,Qkz,and_true] at b;subst b;exact⟨h.own.setLine g f l 3 (by decide) v,h.box.other (a:=⟨B,l*4+3,none⟩) (Blk.ne2 h.box i (by decide)) _,h.bel.setCell (p:=⟨B,l*4+3,none⟩) (by show c.heap.size<=B;omega) _,by have:=h.le;simpa using this⟩
theorem nz.cutQ_move(r:ar p s)(a:0<=J)(h:nz s b g seen J x){k:Nat}(c:kj (ct b g) x.ms.z x.ms.n=some k):ew s b g (J+1)=ew s b g J:=by
 have s1:=z9 (by rw[h.revM];exact O5 (Bo _ r.movesP a)) c;rw[h.revM,vu,(ur (ss b g) r.movesP a).1] at s1;have e:bj s b g s.ms.n=fi (ct b g) (qh s):=vl s b g s.ms.n;have L:iu s b g (J+1)=iu s b g J:=by
  have a1:=(nj (b:=b) (g:=g) r a).1;have d:=(nj (b:=b) (g:=g) (M:=J+1) r (by omega)).1;omega
 unfold ew;rw[L]
theorem ai.boxA(h:ai A w s)(b:Blk w q 152 n f)(j:Nat)(u:Value):ai A (w.setCell ⟨q,j,none⟩ u) s:=by
 refine⟨?_,λi hi=>(h.rows i hi).other b (by decide) j u,h.rapart,h.os.other b (by decide) (by decide) j u,h.hs.other b (by decide) j u,h.ms.other b (by decide) j u,h.msr.set q j u,h.si.other b (by decide) j u,h.so.other b (by decide) j u,h.sf.other b (by decide) j u,h.aio,h.aif,h.aof,h.ari⟩;obtain⟨g,k,d,e,l,c⟩:=h.on;exact⟨g,k,d,e,l,c.other (a:=⟨q,j,none⟩) (Blk.ne2 c b (by decide)) u⟩
theorem de.boxA{d:Nat}{c b:World}(h:de A d c x b)(e:Blk b q 152 n f)(g:c.heap.size<=q)(j:Nat)(u:Value):de A d c x (b.setCell ⟨q,j,none⟩ u):=
 ⟨h.own.boxA e j u,h.box.other (a:=⟨q,j,none⟩) (Blk.ne2 h.box e (by decide)) u,h.bel.setCell (p:=⟨q,j,none⟩) g u,by have:=h.le;simpa using this⟩
def xg(q:Int->Int->Int)(j:Nat):Value := .int .i64 (q ((j/3:Nat):Int) ((j%3:Nat):Int))
theorem U2(q:Int->Int->Int)(a:l<3):xg q (o*3+l) = .int .i64 (q o l):=by
 unfold xg;rw[show(o*3+l)/3=o by omega,show(o*3+l)%3=l by omega]
theorem V6(r:ar p s)(o l:Int):ew s b g 0 o l=0:=by
 have l0:iu s b g 0=0:=by
  have a:=nj (b:=b) (g:=g) r (Int.le_refl 0);have c:=(jx (s:=s) (b:=b) (g:=g) (n:=s.ms.n) r.fm.moveN).1;omega
 unfold ew;rw[l0];exact Cu _ _ _ r.holdsP
theorem Yr{q b:Int->Int->Int}(f:l<3)(h:∀a d:Int,b a d=q a d+if a=o/\d=l then 1 else 0)(j:Nat):(if j=o*3+l then Value.int .i64 (q o l+1) else xg q j)=xg b j:=by
 unfold xg;rw[h];by_cases e:j=o*3+l
 .rw[if_pos e,if_pos ⟨by omega,by omega⟩,show j/3=o by omega,show j%3=l by omega]
 rw[if_neg e,if_neg (λc=>e (by omega)),Int.add_zero]
structure CoI(A B7 BC:Nat)(W0:World)(s:St)(b g:Nat)(seen J:Int)(x:St)(wk:World):Prop where
 rel:de A B7 W0 x wk
 cut:Blk wk BC 152 12 (xg (ew s b g J))
 cj:nz s b g seen J x
 j0:0<=J
 jm:J<=ey s b g seen
theorem CoI.below{d e:Nat}{i f:World}(h:CoI A d e i s b g seen J x a)(c:Below a.heap.size a f):CoI A d e i s b g seen J x f:=⟨h.rel.below c,h.cut.below c,h.cj,h.j0,h.jm⟩
def CoN(A B7 BC:Nat)(W0:World)(s:St)(b g:Nat)(seen:Int)(wk:World)(n:Nat):Prop:=∃(J:Int) (x:St),J=ey s b g seen-n/\CoI A B7 BC W0 s b g seen J x wk
theorem CoI.num{d:Nat}{e:World}(h:CoI A c d e s b g seen J x a):CoN A c d e s b g seen a (ey s b g seen-J).toNat:=⟨J,x,by have:=h.jm;omega,h⟩
end
theorem G8{bin good seen:Int}(h:ag p s=0)(a:(inB bin 0 ((p.nb:Int)-1)&&inB good 0 ((p.ns:Int)-1)&&inB seen 0 200)=false):fo p s bin good seen=3:=by
 unfold fo;rw[if_pos h,a]
 rfl
theorem Xw(v a c:Int)(w:World):Calls prog 23 #[.int .i64 v,.int .i64 a,.int .i64 c] w λe b=>e = .returned (.bool (inB v a c))/\Below w.heap.size w b :=
 (cg v a c w).mono λe b ⟨h1,h2⟩=>⟨h1,h2▸Below.refl _ _⟩
theorem de.setFix{d:Nat}{b c:World}(h:de A d b x c)(f:b.heap.size<=A){G:Nat}(e:x.sf.a=some ⟨G,0,none⟩)(g:Nat)(v:Int):de A d b (Go.Proofs.YtbcacebifpagpagGreat.setFix x g v) (c.setCell ⟨G,g,none⟩ (.int .i64 v)):=by
 obtain⟨q,b1,b2,b3,b4,b5⟩:=h.own.sf;rw[e] at b1;simp only[Qkx,Qkz,and_true] at b1;subst b1;exact⟨h.own.setFix e g v,h.box.other (a:=⟨G,g,none⟩) (Blk.ne2 h.box b5 (by decide)) _,h.bel.setCell (p:=⟨G,g,none⟩) (by show b.heap.size<=G;omega) _,by have:=h.le;simpa using this⟩
theorem Tv(p:Pl)(s:St)(bin good seen:Int)(w:World)(hp:p.At w)(hs:s.At w):
  Calls prog 60 #[p.val,s.val,.int .i64 bin,.int .i64 good,.int .i64 seen] w λe M=>∃x:St,e = .returned (.tuple #[x.val,.int .i64 (fo p s bin good seen)])/\x.At M/\ij (fo p s bin good seen) (ni p s bin.toNat good.toNat seen) x/\(fo p s bin good seen=0->ai w.heap.size M x)/\Below w.heap.size w M:=by
 obtain⟨U,hW,pk,X0,Z0⟩:=Cd w p s;have HC:=Bb hp hs pk X0 Z0;have HW:=hid hW;have leb:=hp.leb;have gu:=hp.capb;have les:=hp.les;have gx:=hp.caps;have capb:=gu;have caps:=gx;have sr:=Z0.lt;unfold maxLen at capb caps;have oy:Hid ((s.on.n<=s.on.c/\s.on.c<=maxLen)/\s.sf.n<=s.sf.c/\s.sf.c<=maxLen):=⟨⟨hs.on.le,hs.on.cap⟩,hs.sf.le,hs.sf.cap⟩;clear hW X0 Z0 hp hs;unfold Pl.val St.val;go_enter func60,ntmps60;go_wp2_with fail;rw[HW.out];obtain⟨X,am,ak,ao,hz⟩:=HC.out U brf;refine(ky p s U am ak).mono ?_;rintro e w1 ⟨rfl,hB⟩;clear X am ak ao hz HW;obtain⟨⟨⟨l1,d0,d1⟩,l2,c0,c1,c2,c3,c4,c5,c6⟩,am,ak,ao,hz⟩:=HC.out w1 hB;by_cases h0:ag p s=0;rotate_left
 .have HX:Hid (fo p s bin good seen=ag p s):=by show fo p s bin good seen=_;unfold fo;rw[if_neg h0]
  have n6:Hid (¬fo p s bin good seen=0):=by show ¬_;rw[HX.out];exact h0
  have g0:(ag p s !=0)=true:=by simpa using h0
  clear h0
  generalize ag p s=SE at *
  clear am ak;obtain⟨zl,d6,d8,dz,zc1,d9,zc2,bu,zc3,d7,zc4,dw,zc5,dx,d4⟩:=z7 hz;go_wp2_with fail;exact ip results60 hz ao (by omega) HX.out (λh=>n6.out (HX.out.trans h)) rfl rfl rfl
 have H0:=hid h0;have HR:Hid (ar p s):=dp h0;rw[h0];clear h0 c0 c1 c2 c3 c4 c5 c6 ak;go_wp2_with fail;refine(Am p bin w1 leb gu).mono ?_;rintro e w2 ⟨rfl,fc⟩;have hB:=hB.trans (fc.mono hB.size);clear l1 d0 d1 l2 am ao hz fc;obtain⟨⟨⟨l1,d0,d1⟩,l2,c0,c1,c2,c3,c4,c5,c6⟩,am,ak,ao,hz⟩:=HC.out w2 hB;clear c0 c1 c2 c3 c4 c5 c6;cases k1:inB bin 0 ((p.nb:Int)-1)
 .have HX:Hid (fo p s bin good seen=3):=G8 H0.out (by rw[k1];simp);clear am ak;obtain⟨zl,d6,d8,dz,zc1,d9,zc2,bu,zc3,d7,zc4,dw,zc5,dx,d4⟩:=z7 hz;go_wp2_with fail;exact ip results60 hz ao (by omega) HX.out (by decide) rfl rfl rfl
 clear ak;go_wp2_with fail;refine(vn p good w2 les gx).mono ?_;rintro e w3 ⟨rfl,fc⟩;have hB:=hB.trans (fc.mono hB.size);clear l1 d0 d1 l2 am ao hz fc;obtain⟨⟨⟨l1,d0,d1⟩,l2,c0,c1,c2,c3,c4,c5,c6⟩,am,ak,ao,hz⟩:=HC.out w3 hB;cases k2:inB good 0 ((p.ns:Int)-1)
 .have HX:Hid (fo p s bin good seen=3):=G8 H0.out (by rw[k1,k2];simp);clear am ak;obtain⟨zl,d6,d8,dz,zc1,d9,zc2,bu,zc3,d7,zc4,dw,zc5,dx,d4⟩:=z7 hz;go_wp2_with fail;exact ip results60 hz ao (by omega) HX.out (by decide) rfl rfl rfl
 cases k3:inB seen 0 200
 .have HX:Hid (fo p s bin good seen=3):=G8 H0.out (by rw[k1,k2,k3];simp);clear am ak;obtain⟨zl,d6,d8,dz,zc1,d9,zc2,bu,zc3,d7,zc4,dw,zc5,dx,d4⟩:=z7 hz;go_wp2_with(go_at_call 23;refine ah (cg _ _ _ _) ?_);exact ip results60 hz ao (by omega) HX.out (by decide) rfl rfl rfl
 obtain⟨b,rfl⟩:=Qzz (au k1).1;obtain⟨g,rfl⟩:=Qzz (au k2).1;have hb:b<p.nb:=by have:=(au k1).2;omega
 have hg:g<p.ns:=by have:=(au k2).2;omega
 have sb:=au k3;have K3:=hid k3;have son:=HR.out.fm.sh.n;have gb:b<s.on.n:=by omega
 have m8:Hid ((s.on.r b).n=p.ns):=HR.out.fm.sh.len b gb;obtain⟨⟨s0,qr⟩,tb,ps⟩:=oy.out;unfold maxLen at qr ps;obtain⟨bb,ob,ir,pe,e0,ef⟩:=ak.on.rows b gb;have kw:g<(s.on.r b).n:=by rw[m8.out];exact hg
 obtain⟨bg,og,lb,oi,e1⟩:=ef.ints g kw;have rl:=ef.le;have rc:=ef.cap;unfold maxLen at rc;have sfn:g<s.sf.n:=by rw[HR.out.fm.sfn];exact hg
 obtain⟨bf,of,j6,pv,e2⟩:=ak.sf.ints g sfn;have lr:=hid ir;have l0:=hid j6;rw[ir] at c0;rw[lb] at e0;rw[j6] at c6;have q0:(0:Int)<=(b:Int):=by omega
 have q1:(b:Int)<(s.on.n:Int):=by omega
 have q2:(0:Int)<=(g:Int):=by omega
 have q3:(g:Int)<((s.on.r b).n:Int):=by omega
 have q4:(g:Int)<(s.sf.n:Int):=by omega
 have qe:=HR.out.fm.sh.num b gb g hg;have sfb:=HR.out.fm.sfb g hg;obtain⟨ON,j9⟩:∃ON,(s.on.r b).z g=ON:=⟨_,rfl⟩;obtain⟨SF,ie⟩:∃SF,s.sf.z g=SF:=⟨_,rfl⟩;have HV:=qa2 j9 ie;rw[j9] at e1 qe;rw[ie] at e2 sfb;clear ir lb j6 ef son j9 ie k1 k2 am ak;have po:=Qqq c0;have p7:=Qqq c6;have n9:=Qqq e0;have o0:=Qqq e1;have ph:=Qqq e2;have k4:Hid (∀f,Calls prog 23 #[.int .i64 (SF+seen-ON),.int .i64 (-1048576),.int .i64 1048576] f λe M=>e = .returned (.bool (inB (SF+seen-ON) (-1048576) 1048576))/\Below f.heap.size f M):=λf=>Xw _ _ _ f;go_wp2_with(go_at_call 23;refine ah (cg _ _ _ _) ?_);refine Qxq (by kernel_rfl) (by kernel_rfl) ?_
 repeat(go_big_quiet_step((go_at_call 23;exact Xxz (k4.out _))))
 refine Qqz ?_;intro Q md;have me:=ae md;have hB:=hB.trans (me.mono hB.size);clear md me po p7 n9 o0 ph k4 l1 d0 d1 l2 c0 c1 c2 c3 c4 c5 c6 ao hz pe e0 oi e1 pv e2 k3;rw[<-lr.out,<-l0.out];obtain⟨⟨⟨l1,d0,d1⟩,l2,c0,c1,c2,c3,c4,c5,c6⟩,am,ak,ao,hz⟩:=HC.out Q hB;cases h3:inB (SF+seen-ON) (-1048576) 1048576
 .have HX:Hid (fo p s b g seen=2):=Ky H0.out hb hg K3.out (by rw[HV.out.1,HV.out.2,<-Int.add_sub_assoc];exact h3);clear am ak;obtain⟨zl,d6,d8,dz,zc1,d9,zc2,bu,zc3,d7,zc4,dw,zc5,dx,d4⟩:=z7 hz;go_wp2_with fail;exact ip results60 hz ao (by omega) HX.out (by decide) rfl rfl rfl
 have ck:Hid (dg p s b g seen):=Nb H0.out hb hg K3.out (by rw[HV.out.1,HV.out.2,<-Int.add_sub_assoc];exact h3);have HX:Hid (fo p s b g seen=0):=Px ck.out;have lm:Hid (Calls prog 20 #[s.val] Q λe M=>∃s':St,e = .returned s'.val/\af s' s/\ai Q.heap.size M s'/\Below Q.heap.size Q M):=pd p s Q ak HR.out.fm;clear am ak ao hz h3 lr l0;go_wp2_with fail;refine Calls.mono lm.out ?_;rintro e w5 ⟨o,rfl,bn,bs,gj⟩;clear lm l1 d0 d1 l2 c0 c1 c2 c3 c4 c5 c6;have A0:U.heap.size<=Q.heap.size:=hB.size;have A2:Q.heap.size<=w5.heap.size:=gj.size;have m2:Hid (w.heap.size<=U.heap.size):=(HC.out _ brf).2.2.2.1.size;obtain⟨W6,ly,f1,K6⟩:=ab7 w5 o;have jw:=hid ly;have fz:=gj.trans (f1.mono gj.size);have j4:=hB.trans (fz.mono hB.size);have db:Hid (de Q.heap.size w5.heap.size U o W6):=⟨ai.below bs f1,K6,j4,fz.size⟩;have n7:=hid bn;have gt:b<o.on.n:=by rw[bn.on.1];exact gb
 have mk:g<(o.on.r b).n:=by rw[(bn.on.2 b gt).1];exact kw
 have i2:g<o.sf.n:=by rw[bn.sf.1];exact sfn
 have gp:Hid ((o.on.r b).z g=ON/\o.sf.z g=SF):=⟨(bn.num HR.out.fm hb hg).trans HV.out.1,(bn.sf.2 g i2).trans HV.out.2⟩;clear ly f1 K6 fz j4 bs gj hB bn;simp only[St.val]
 -- what was fixed
 obtain⟨g0,G,a1,a2,a3,a4,a5,a6,a7,a8,a9,f8,ml,ge⟩:=db.out.own.onCell gt mk;obtain⟨Gs,s1,s2,s3,s4,s5,s6,s7⟩:=db.out.own.sf.cellAt i2;unfold maxLen at a8 ge s5;rw[gp.out.1] at a9;rw[gp.out.2] at s6;have l8:=qa3 a4 s1 a1;have u0:W6.cell? ⟨w5.heap.size,0,none⟩=some (.slice o.on.a o.on.n o.on.c):=db.out.box.k 0;have u6:W6.cell? ⟨w5.heap.size,6,none⟩=some (.slice o.sf.a o.sf.n o.sf.c):=db.out.box.k 6;have ul:=db.out.box.lt;rw[a1] at u0;rw[s1] at u6;have q5:(b:Int)<(o.on.n:Int):=by omega
 have q6:(g:Int)<((o.on.r b).n:Int):=by omega
 have q7:(g:Int)<(o.sf.n:Int):=by omega
 clear a1 a4 f8 s1;rw[<-jw.out] at u0 u6 ul a2 a3 a6 a9 s3 s6;go_wp2_with fail;rw[jw.out] at u0 u6 ul a2 a3 a6 a9 s3 s6 ⊢;clear jw
 generalize w5.heap.size=t at *
 have pl:=Qqq u0;have pa:=Qqq u6;have n8:=Qqq a3;have ql:=Qqq a9;have rd:=Qqq s6;refine jh [(true,[0,1,2,3,4,5,6,7,8,9,10,11,12,13,14,15,16,17,18,19],some 20)] ?_;refine⟨λM=>∃p:Regrown,M=grow (redrawn W6 p.d) p.os,Qqx (brf.drew),λh=>(by cases h),?_⟩;simp only[du,Qyq,Xqq,Qyx,Qyz,Xqz,Xqx]
 repeat(go_big_quiet_step(fail))
 refine Qqz ?_;clear pl pa n8 ql rd u0 u6 ul a2 a3 a6 a9 s3 s6;have L:Below W6.heap.size W6 W6.drew:=brf.drew
 generalize W6.drew=wj at *
 have bt:=hid (db.out.below L);clear db L;obtain⟨Gq,t1,t2,t3,t4,t5,t6,t7⟩:=bt.out.own.sf.cellAt i2;have eG:Gq=Gs:=by rw[l8.out.2.1] at t1;simpa using t1.symm
 subst eG;have t8:=t7 g;have dy:Hid (de Q.heap.size t U (setFix o g (SF+seen-ON)) (wj.setCell ⟨Gq,g,none⟩ (.int .i64 (SF+seen-ON)))):=bt.out.setFix A0 l8.out.2.1 g (SF+seen-ON);clear t1 t7 bt;refine li 20 rfl ?_;go_wp2_with fail;refine NoPanic.normal ?_;clear t2 t3 t4 t5 t6 t8
 generalize wj.setCell ⟨Gq,g,none⟩ (.int .i64 (SF+seen-ON))=W7 at *
 -- what lies there
 obtain⟨qh,G',a1,a2,a3,a4,a5,a6,a7,a8,a9,f8,ml,ge⟩:=dy.out.own.onCell (s:=setFix o g (SF+seen-ON)) gt mk;have u0:W7.cell? ⟨t,0,none⟩=some (.slice o.on.a o.on.n o.on.c):=dy.out.box.k 0;have ul:=dy.out.box.lt;have kt:o.on.a=some ⟨qh,0,none⟩:=a1;have qu:(o.on.r b).a=some ⟨G',0,none⟩:=a4;rw[kt] at u0;have ow:=f8 g;have ic:Hid (de Q.heap.size t U (setOn (setFix o g (SF+seen-ON)) b g seen) (W7.setCell ⟨G',g,none⟩ (.int .i64 seen))):=dy.out.setOn A0 (b:=b) gt a4 g seen;have cn:Hid (nz s b g seen 0 (setOn (setFix o g (SF+seen-ON)) b g seen)):=by
  have h:=nz.start (seen:=seen) HR.out hb hg n7.out;have e:ju o b g seen=setOn (setFix o g (SF+seen-ON)) b g seen:=by
   unfold ju;rw[gp.out.1,gp.out.2,<-Int.add_sub_assoc]
   rfl
  rw[e] at h;exact h
 unfold maxLen at a8 ge;have A3:U.heap.size<=W7.heap.size:=dy.out.bel.size;clear a1 a4 kt qu f8 dy;obtain⟨x2,mf⟩:∃x2,setOn (setFix o g (SF+seen-ON)) b g seen=x2:=⟨_,rfl⟩;rw[mf] at ic cn;clear mf;obtain⟨W9,mt,ih,K9⟩:∃W,(W7.setCell ⟨G',g,none⟩ (.int .i64 seen)).alloc (.cells #[.int .i64 0,.int .i64 0,.int .i64 0,.int .i64 0,.int .i64 0,.int .i64 0,.int .i64 0,.int .i64 0,.int .i64 0,.int .i64 0,.int .i64 0,.int .i64 0] 152)=W/\Below (W7.setCell ⟨G',g,none⟩ (.int .i64 seen)).heap.size (W7.setCell ⟨G',g,none⟩ (.int .i64 seen)) W/\Blk W W7.heap.size 152 12 (xg (ew s b g 0)):=
  ⟨_,rfl,brf.alloc nlr _,(Blk.mk' (cur:=#[.int .i64 0,.int .i64 0,.int .i64 0,.int .i64 0,.int .i64 0,.int .i64 0,.int .i64 0,.int .i64 0,.int .i64 0,.int .i64 0,.int .i64 0,.int .i64 0]) (by simp) rfl).congr (λj hj=>by
   unfold xg;rw[V6 HR.out]
   match j,hj with
   | 0,_=>rfl
   | 1,_=>rfl
   | 2,_=>rfl
   | 3,_=>rfl
   | 4,_=>rfl
   | 5,_=>rfl
   | 6,_=>rfl
   | 7,_=>rfl
   | 8,_=>rfl
   | 9,_=>rfl
   | 10,_=>rfl
   | 11,_=>rfl)⟩
 have mc:Hid ((W7.setCell ⟨G',g,none⟩ (.int .i64 seen)).alloc (.cells #[.int .i64 0,.int .i64 0,.int .i64 0,.int .i64 0,.int .i64 0,.int .i64 0,.int .i64 0,.int .i64 0,.int .i64 0,.int .i64 0,.int .i64 0,.int .i64 0] 152)=W9):=mt;have lu:Hid (CoI Q.heap.size t W7.heap.size U s b g seen 0 x2 W9):=⟨ic.out.below ih,K9,cn.out,Int.le_refl _,ck.out.miss0⟩;clear mt ih K9 ic cn;go_wp2_with fail;rw[mc.out];clear mc u0 ul a2 a3 a6 a9 ow a5 a7 a8 ml ge
 generalize W7.heap.size=BC at *
 have tf:=ck.out.bound;obtain⟨dd,la,lv⟩:=adh;have oh:=hid la;have qz:=hid lv;clear la lv
 go_loopw [] (λf=>∃n:Nat,Hid (CoN Q.heap.size t BC U s b g seen f n)) (λf=>dd (CoN Q.heap.size t BC U s b g seen f))
 case atStart=>exact⟨_,lu.out.num⟩
 obtain⟨n0,eb⟩:=hrel;clear lu;obtain⟨J,x,hJ,hI⟩:=oh.out _ ⟨n0,eb.out⟩;have HJ:=hid hJ;have HI:=hid hI;have j0:=hI.j0;have jm:=hI.jm;have HF:Hid (cx p x):=nz.formed ck.out hI.j0 hI.cj;have i9:Hid (ca x b g x.hs.n+bj x b g x.ms.n=oq s b g-J):=nz.boundJ ck.out hI.j0 (by have h:=hI.jm;unfold ey at h;omega) hI.cj;clear eb hJ hI n0;obtain⟨m1,p0,p1,p2,p3,p4,p5,p6⟩:=Boxed.of HI.out.rel.box;go_wp2_with fail;clear m1 p0 p1 p2 p3 p4 p5 p6;refine(I4 p x b g wr HI.out.rel.own.at HF.out).mono ?_;rintro e wa ⟨rfl,fd⟩;rw[i9.out];have ci:Hid (CoI Q.heap.size t BC U s b g seen J x wa):=HI.out.below fd;have ep:Hid (∀(n:Nat) (f:World),CoN Q.heap.size t BC U s b g seen f n->(n:Int)<ey s b g seen-J->dd (CoN Q.heap.size t BC U s b g seen f)<dd (CoN Q.heap.size t BC U s b g seen wr)):=λn f h hn=>by
  have a:=qz.out _ _ h;have c:=HJ.out;omega
 clear HI fd HJ;obtain⟨BZ,fi⟩:∃BZ,oq s b g-J=BZ:=⟨_,rfl⟩;have bz0 : -100000<=BZ/\BZ<=100000:=by
  have h1:=(nw (s:=s) (b:=b) (g:=g) (n:=s.hs.n) HR.out.fm.holdN);have h2:=(jx (s:=s) (b:=b) (g:=g) (n:=s.ms.n) HR.out.fm.moveN);have h3:=HR.out.fm.hs72;have h4:=HR.out.fm.ms8;unfold ey at jm;unfold oq at fi jm;omega
 have lw:Hid (ca x b g x.hs.n+bj x b g x.ms.n=BZ):=i9.out.trans fi;clear i9;rw[fi];by_cases hd:J<ey s b g seen;rotate_left
 .have gz:J=ey s b g seen:=by omega
  have q8:¬seen<BZ:=by unfold ey at gz;omega
  have gv:Hid (af x (pi s b g seen)):=by
   have h:af x (ju (je s b g J) b g seen):=ci.out.cj;rw[gz] at h;exact h
  have k5:=hid ci.out.rel;obtain⟨QQ,gc⟩:∃QQ,ew s b g (ey s b g seen)=QQ:=⟨_,rfl⟩;have mb:Hid (Blk wa BC 152 12 (xg QQ)):=by
   have h:=ci.out.cut;rw[gz,gc] at h;exact h
  have qi:=hid gc;have gh:Hid (QIn p b (λi j=>QQ i j) x):=ck.out.qin.same gv.out (λi j _ _=>by rw[<-gc];rfl);clear fi gc ci ep lw gz hd jm j0 bz0;go_wp2_with fail
  go_loopw [17] (λkv f=>∃(i:Nat) (cur:St),i<=x.os.n/\kv = .int .i64 i/\Hid (de Q.heap.size t U cur f)/\Hid (Blk f BC 152 12 (xg QQ))/\Hid (Io p x b QQ i cur)) (λkv _=>x.os.n-(intOf kv).toNat)
  case atStart=>exact⟨0,x,Qxz _,rfl,k5,mb,af.self x⟩
  clear k5 mb;obtain⟨i,cur,hi,rfl,HK,b1,HA⟩:=hrel;have eb:Hid (cur.os.n=x.os.n):=(iq.pos gh.out (λ_ _=>rfl) hi HA.out).al.osn;have n1:(cur.os.n:Int)<=(x.os.n:Int):=by rw[eb.out];omega
  have n2:(x.os.n:Int)<=(cur.os.n:Int):=by rw[eb.out];omega
  have u1:wr.cell? ⟨t,1,none⟩=some (.slice cur.os.a cur.os.n cur.os.c):=HK.out.box.k 1;have u2:=HK.out.box.lt;have ol:cur.os.n<=cur.os.c:=HK.out.own.os.le;have oc:cur.os.c<=maxLen:=HK.out.own.os.cap;have os4:x.os.n<=4:=HF.out.os4;unfold maxLen at oc;by_cases ec:i<x.os.n;rotate_left
  .have o3:i=x.os.n:=by omega
   have q4:(cur.os.n:Int)<=(i:Int):=by omega
   have q5:¬(i:Int)<(cur.os.n:Int):=by omega
   have HY:Hid (af cur (ni p s b g seen)):=by
    refine iq.same ck.out.qin (λ_ _=>rfl) (Nat.le_refl s.os.n) ck.out.all ?_;have n4:x.os.n=s.os.n:=gv.out.os.1;have h:=HA.out;rw[o3,n4] at h;refine iq.base (m':=yd x) gv.out (λ_ _=>rfl) (λi hi => ?_) (λi j _ _ => ?_) (Nat.le_refl s.os.n) h
    .exact(gv.out.os.2 i (by rw[n4];exact hi)).2.1
    show QQ i j=ew s b g (ey s b g seen) i j;rw[qi.out]
   obtain⟨m1,p0,p1,p2,p3,p4,p5,p6⟩:=Boxed.of HK.out.box;obtain⟨-,-,-,ao,hz⟩:=HC.out wr HK.out.bel;have HZ:=qa2 ao hz;obtain⟨zl,d6,d8,dz,zc1,d9,zc2,bu,zc3,d7,zc4,dw,zc5,dx,d4⟩:=z7 hz;clear ao hz u1 u2;go_wp2_with fail;have KZ:=s7b HZ.out.2 cur;have mu:=s7w (b:=w.heap.size+2) HZ.out.1 (by omega) cur;have it:=s7o HK.out.own HZ.out.2 cur;unfold set7 at KZ mu it;obtain⟨q9,qd,ov,o5,f6,qp,ra⟩:=df KZ;refine Xzq (v := .tuple #[cur.val,.int .i64 0]) (by simp[results,results60,go_sem,St.val,q9,qd,ov,o5,f6,qp,ra]) rfl ?_;exact⟨cur,by rw[HX.out];rfl,it.at,⟨λ_=>HY.out,λh=>absurd HX.out h⟩,λ_=>it.mono (Qzx m2.out A0),mu⟩
  have q0:(0:Int)<=(i:Int):=by omega
  have q1:(i:Int)<(cur.os.n:Int):=by omega
  have sy:=(HF.out.lns i ec).2;go_wp2_with fail;clear u1 u2 ol oc q1 n1 n2 eb
  go_loopw [18] (λjv f=>∃(j:Nat) (cr:St),j<=(x.os.z i).ls.n/\jv = .int .i64 j/\Hid (de Q.heap.size t U cr f)/\Hid (Blk f BC 152 12 (xg QQ))/\Hid (ux p x b QQ i j cr)) (λjv _=>(x.os.z i).ls.n-(intOf jv).toNat)
  case atStart=>exact⟨0,cur,Qxz _,rfl,HK,b1,HA.out.row⟩
  clear HK b1 HA;obtain⟨j,cr,hj,rfl,HK,b1,HB⟩:=hrel;have fq:Hid (Pos p b (λi j=>QQ i j) x i j cr):=HB.out.pos gh.out ec hj;have en:cr.os.n=x.os.n:=fq.out.al.osn;have k6:i<cr.os.n:=by rw[en];exact ec
  have q1:(i:Int)<(cr.os.n:Int):=by omega
  have kn:(cr.os.z i).ls.n=(x.os.z i).ls.n:=(fq.out.al.kind i ec).2;have tk:=hid kn;have tg:(cr.os.z i).ls.n<=(x.os.z i).ls.n:=Nat.le_of_eq kn;have td:(x.os.z i).ls.n<=(cr.os.z i).ls.n:=Nat.le_of_eq kn.symm;obtain⟨gO,g1,g2,g3,g4,g5,g6⟩:=HK.out.own.orderCells (o:=i) k6;have u1:wr.cell? ⟨t,1,none⟩=some (.slice cr.os.a cr.os.n cr.os.c):=HK.out.box.k 1;rw[g1] at u1;have u2:=HK.out.box.lt;have ol:cr.os.n<=cr.os.c:=HK.out.own.os.le;have oc:cr.os.c<=maxLen:=HK.out.own.os.cap;unfold maxLen at oc;obtain⟨_,_,-,-,-,-,j3⟩:=HK.out.own.at.os.ods i k6;have ll:=j3.le;have lc:=j3.cap;unfold maxLen at lc;have HG:Hid (cr.os.a=some ⟨gO,0,none⟩):=g1;clear g1 g6 en kn j3;by_cases mo:j<(x.os.z i).ls.n;rotate_left
  .have mn:j=(x.os.z i).ls.n:=by omega
   have q4:((cr.os.z i).ls.n:Int)<=(j:Int):=by omega
   have q5:¬(j:Int)<((cr.os.z i).ls.n:Int):=by omega
   have HN:Hid (Io p x b QQ (i+1) cr):=by have h:=HB.out;rw[mn] at h;exact h.next
   clear mn fq HB;go_wp2_with fail;go_roundw
   case rel=>exact⟨i+1,cr,by omega,by go_num,HK,b1,HN⟩
   case measure=>simp[intOf];omega
  have q2:(0:Int)<=(j:Int):=by omega
  have q3:(j:Int)<((cr.os.z i).ls.n:Int):=by omega
  have v4:(i:Int)<4:=by omega
  have v5:(j:Int)<3:=by omega
  have j8:Hid (km p b cr i j (QQ i j)):=fq.out.stepIn gh.out ec mo;have s8:=j8.out.n0;have lj:=hid j8.out.tki;have l5:Hid (∀y,l6 p b cr i j (QQ i j) y->ux p x b QQ i (j+1) y):=λy T=>HB.out.step T;have lg:Hid (QQ i j=0->ux p x b QQ i (j+1) cr):=λh=>HB.out.skip gh.out ec mo h;have e5:wr.cell? ⟨BC,i*3+j,none⟩=some (.int .i64 (QQ i j)):=by have h:=b1.out.cell (j:=i*3+j) (by omega);rw[U2 _ (by omega)] at h;exact h
  have bl:=b1.out.lt;clear j8 HB fq
  generalize QQ i j=QV at *
  by_cases hq:0<QV;rotate_left
  .have HN:Hid (ux p x b QQ i (j+1) cr):=lg.out (by omega);go_wp2_with fail;go_roundw
   case rel=>exact⟨j+1,cr,by omega,by go_num,HK,b1,HN⟩
   case measure=>simp[intOf];omega
  go_wp2_with fail;clear u1 u2 g3 g4 g5;obtain⟨⟨⟨l1,d0,d1⟩,-⟩,am,-⟩:=HC.out wr HK.out.bel;obtain⟨m1,p0,p1,p2,p3,p4,p5,p6⟩:=Boxed.of HK.out.box;have lq:=hid am;have pq:=Qqq d0;have oe:=Qqq d1;have jd:=Qqq p0;have jp:=Qqq p1;have j1:=Qqq p2;have j2:=Qqq p3;have h9:=Qqq p4;have iy:=Qqq p5;have ib:=Qqq p6;have jn:=Qqq e5;refine jh [(true,[0,1,2,3,4,5,6,7,8,9],some 10),(false,[11,12,13],some 14)] ?_;refine⟨λM=>∃p:Regrown,M=grow (redrawn wr p.d) p.os,Qqx (brf.drew),λh=>(by cases h),?_⟩;simp only[du,Qyq,Xqq,Qyx,Qyz,Xqz,Xqx]
  repeat(go_big_quiet_step(fail))
  refine Qqz ?_;clear pq oe jd jp j1 j2 h9 iy ib jn l1 d0 d1 m1 p0 p1 p2 p3 p4 p5 p6 e5 bl am;have L:Below wr.heap.size wr wr.drew:=brf.drew
  generalize wr.drew=wj at *
  have l4:=hid (lq.out.below L);have bt:=hid (HK.out.below L);have lz:=hid (b1.out.below L);clear L lq HK b1;refine li 10 rfl ?_;go_wp2_with fail;refine(Ml p cr i j Q.heap.size QV b wj l4.out bt.out.own bt.out.le lj.out).mono ?_;rintro e w8 ⟨y,rfl,T,kx,iz,j7⟩;have HT:Hid (ux p x b QQ i (j+1) y):=l5.out y T;have gd:Hid (Blk w8 t 31 7 (λj=>cr.cells.getD j default)):=j7 _ _ _ _ (by decide) bt.out.box;have mg:Hid (Blk w8 BC 152 12 (xg QQ)):=j7 _ _ _ _ (by decide) lz.out;have px:=hid kx;have qm:=hid (bt.out.bel.trans (iz.mono A0));have pb:Hid (Q.heap.size<=w8.heap.size):=Qzx bt.out.le iz.size;clear T kx iz j7 l5 lj l4 bt lz lg
  generalize (Tk.go (avT cr i j) QV (fg p b)).left=LL at *
  simp only[St.val];go_wp2_with fail;refine⟨λ_=>True,trivial,λ_ _=>trivial,?_⟩;simp only[du,Qyq,Xqq,Qyx,Qyz,Xqz,Xqx]
  repeat(go_big_quiet_step(fail))
  refine Qqz ?_;have lx:=gd.out;obtain⟨zl,d6,d8,dz,zc1,d9,zc2,bu,zc3,d7,zc4,dw,zc5,dx,d4⟩:=z7 lx;clear lx;refine li 14 rfl ?_;go_wp2_with fail;have HN:Hid (de Q.heap.size t U y (set7 w8 t (.slice y.on.a y.on.n y.on.c) (.slice y.os.a y.os.n y.os.c) (.slice y.hs.a y.hs.n y.hs.c) (.slice y.ms.a y.ms.n y.ms.c) (.slice y.si.a y.si.n y.si.c) (.slice y.so.a y.so.n y.so.c) (.slice y.sf.a y.sf.n y.sf.c))/\Blk (set7 w8 t (.slice y.on.a y.on.n y.on.c) (.slice y.os.a y.os.n y.os.c) (.slice y.hs.a y.hs.n y.hs.c) (.slice y.ms.a y.ms.n y.ms.c) (.slice y.si.a y.si.n y.si.c) (.slice y.so.a y.so.n y.so.c) (.slice y.sf.a y.sf.n y.sf.c)) BC 152 12 (xg QQ)):=by
   have K:=s7b gd.out y;have hb:=s7w (b:=t) qm.out (Qzx A0 A2) y;have ne:=Blk.ne2 mg.out gd.out (by decide);refine⟨⟨s7o px.out gd.out y,K.congr (λj hj=>by match j,hj with|0,_=>rfl|1,_=>rfl|2,_=>rfl|3,_=>rfl|4,_=>rfl|5,_=>rfl|6,_=>rfl),hb,by have:=pb.out;simpa[set7] using this⟩,?_⟩;unfold set7;exact((((((mg.out.other (a:=⟨t,0,none⟩) ne _).other (a:=⟨t,1,none⟩) ne _).other (a:=⟨t,2,none⟩) ne _).other (a:=⟨t,3,none⟩) ne _).other (a:=⟨t,4,none⟩) ne _).other (a:=⟨t,5,none⟩) ne _).other (a:=⟨t,6,none⟩) ne _
  unfold set7 at HN;refine NoPanic.normal ?_;go_wp2_with fail;go_roundw
  case rel=>exact⟨j+1,y,by omega,by go_num,HN.out.1,HN.out.2,HT⟩
  case measure=>simp[intOf];omega
 have q8:seen<BZ:=by unfold ey at hd;omega
 clear fi;obtain⟨m1,p0,p1,p2,p3,p4,p5,p6⟩:=Boxed.of ci.out.rel.box;go_wp2_with fail;clear m1 p0 p1 p2 p3 p4 p5 p6;refine(Sy x b g wa ci.out.rel.own.at).mono ?_;rintro e wb ⟨rfl,l9⟩;have aa:Hid (CoI Q.heap.size t BC U s b g seen J x wb):=ci.out.below l9;clear ci l9;cases hl:kj (ct b g) x.ms.z x.ms.n with
 | none =>
  have LV:na (ct b g) x.ms.z x.ms.n = -1:=by unfold na;rw[hl]
  rw[LV];have HL:=hid hl;obtain⟨k,jr⟩:∃k,kj (ce x b g) x.hs.z x.hs.n=some k:=by
   cases hq:kj (ce x b g) x.hs.z x.hs.n with
   | some k=>exact⟨k,rfl⟩
   | none =>
    have h1:=z8 hq;have h2:=z8 hl;have h3:=Eb x b g x.hs.n;have h4:=vl x b g x.ms.n;have h5:=lw.out;omega
  have HH:=hid jr;obtain⟨hk,ma⟩:=Dy jr;have iu:=xx.1 ma;obtain⟨t1,t2,t3⟩:=i8 (HF.out.home k hk);obtain⟨A,jb⟩:=Qzz t1.1;obtain⟨D,i3⟩:=Qzz t2.1;rw[jb] at t1 t2;rw[i3] at t2;have on:A<x.os.n:=t1.2;have ln:D<(x.os.z A).ls.n:=t2.2;have o4:A<4:=by have:=HF.out.os4;omega
  have l3:D<3:=by have:=(HF.out.lns A on).2;omega
  obtain⟨ZN,jz⟩:∃ZN,(x.hs.z k).n=ZN:=⟨_,rfl⟩;have zn:=HF.out.holdN k hk;rw[jz] at zn;have HZ:Hid (x.hs.z k=⟨(A:Int),(D:Int),(b:Int),ZN⟩):=by
   show x.hs.z k=_;rw[<-jb,<-i3,<-jz,<-iu.1]
  have nx:=aa.out.rel.own.hs.2.1;have tc:=aa.out.rel.own.hs.1;have th:=HF.out.hs72;unfold maxLen at nx;obtain⟨Gh,ja,-,b2⟩:=aa.out.rel.own.hs.2.2.2 (show 0<x.hs.n by omega);have gs:=hid ja;have mz:Hid (∀f,Below wb.heap.size wb f->f.cell? ⟨Gh,k*4,none⟩=some (.int .i64 (A:Int))/\f.cell? ⟨Gh,k*4+1,none⟩=some (.int .i64 (D:Int))/\f.cell? ⟨Gh,k*4+2,none⟩=some (.int .i64 (b:Int))/\f.cell? ⟨Gh,k*4+3,none⟩=some (.int .i64 ZN)/\Gh<f.heap.size):=λf hB=>by
   have h:=b2.below hB;have z:=HZ.out;have e:∀c,c<4->(ay x.hs.n x.hs.z).getD (k*4+c) default=(dc (⟨(A:Int),(D:Int),(b:Int),ZN⟩:Hd)).getD c default:=λc hc=>by rw[re (z:=x.hs.z) hk hc,z]
   exact⟨(h.cell (j:=k*4) (by show _<x.hs.n*4;omega)).trans (congrArg some (e 0 (by decide))),(h.cell (j:=k*4+1) (by show _<x.hs.n*4;omega)).trans (congrArg some (e 1 (by decide))),(h.cell (j:=k*4+2) (by show _<x.hs.n*4;omega)).trans (congrArg some (e 2 (by decide))),(h.cell (j:=k*4+3) (by show _<x.hs.n*4;omega)).trans (congrArg some (e 3 (by decide))),h.lt⟩
  clear LV hl jr ma iu t1 t2 t3 jb i3 jz b2;obtain⟨m1,p0,p1,p2,p3,p4,p5,p6⟩:=Boxed.of aa.out.rel.box;rw[ja] at p2;clear ja;have q0:(0:Int)<=(k:Int):=by omega
  have q1:(k:Int)<(x.hs.n:Int):=by omega
  have jd:=Qqq p0;have jp:=Qqq p1;have j1:=Qqq p2;have j2:=Qqq p3;have h9:=Qqq p4;have iy:=Qqq p5;have ib:=Qqq p6;go_wp2_with fail;refine fh (λM=>∃p:Regrown,M=grow (redrawn wb p.d) p.os) [0,1,2,3,4] [5,6,7,8] [(true,9)] (Qqx (brf.drew)) ?_;simp only[du,Qyq,Xqq,Qyx,Qyz,Xqz,Xqx]
  repeat(go_big_quiet_step(fail))
  refine Qqz ?_;clear jd jp j1 j2 h9 iy ib m1 p0 p1 p2 p3 p4 p5 p6;refine⟨λj v gg f=>(j=5->v = .int .i64 (k:Int)/\gg=[])/\(j=6->v = .pointer (some ⟨Gh,k*4,none⟩)/\gg=[])/\(j=7->v = .agg #[.int .i64 (A:Int),.int .i64 (D:Int),.int .i64 (b:Int),.int .i64 ZN]/\gg=[])/\(j=8->∃B,v = .pointer (some ⟨B,0,none⟩)/\gg=[B]/\wb.heap.size<=B/\Blk f B 61 4 (λ_ => .int .i64 0)),
   Qjx ⟨λv g w M hB h=>⟨h.1,λe=>absurd e (by decide),λe=>absurd e (by decide),λe=>absurd e (by decide)⟩,Qjx ⟨λv g w M hB h=>⟨λe=>absurd e (by decide),h.2.1,λe=>absurd e (by decide),λe=>absurd e (by decide)⟩,Qjx ⟨λv g w M hB h=>⟨λe=>absurd e (by decide),λe=>absurd e (by decide),h.2.2.1,λe=>absurd e (by decide)⟩,Qjx ⟨λv g w M hB h=>⟨λe=>absurd e (by decide),λe=>absurd e (by decide),λe=>absurd e (by decide),λe=>(by obtain⟨B,h1,h2,h3,h4⟩:=h.2.2.2 e;exact⟨B,h1,h2,h3,h4.below hB⟩)⟩,Qjq _⟩⟩⟩⟩,
   Qjx ⟨λv g w h=>(by rw[(h.1 rfl).2];intro x hx;cases hx),Qjx ⟨λv g w h=>(by rw[(h.2.1 rfl).2];intro x hx;cases hx),Qjx ⟨λv g w h=>(by rw[(h.2.2.1 rfl).2];intro x hx;cases hx),Qjx ⟨λv g w h=>(by obtain⟨B,-,h2,-,h4⟩:=h.2.2.2 rfl;rw[h2];intro x hx;rw[List.mem_singleton] at hx;rw[hx];exact h4.lt),Qjq _⟩⟩⟩⟩,
   Qjx ⟨?zt5,Qjx ⟨?zt6,Qjx ⟨?zt7,Qjx ⟨?zt8,Qjq _⟩⟩⟩⟩,?ztdone⟩
  case zt5 =>
   intro V G f K hS hd hK;have P:=ae hS;have fn:=hid P;have qn:Hid (na (ce x b g) x.hs.z x.hs.n=(k:Int)):=by show _=_;unfold na;rw[HH.out]
   have n5:Hid (Calls prog 122 #[.agg #[.slice x.on.a x.on.n x.on.c,.slice x.os.a x.os.n x.os.c,.slice (some ⟨Gh,0,none⟩) x.hs.n x.hs.c,.slice x.ms.a x.ms.n x.ms.c,.slice x.si.a x.si.n x.si.c,.slice x.so.a x.so.n x.so.c,.slice x.sf.a x.sf.n x.sf.c],.int .i64 (b:Int),.int .i64 (g:Int)] f λe M=>e = .returned (.int .i64 (k:Int))/\Below f.heap.size f M):=by
    have h:=Sx p x b g f (aa.out.rel.below fn.out).own.at HF.out;rw[St.val,gs.out,qn.out] at h;exact h
   refine aq 5 rfl ?_;simp only[ap,az,Qvz,Qwq,Qvx,Act.put,Qvq,Qwx,Qwz] at hK ⊢;go_wp2_with fail;refine Calls.mono n5.out ?_;rintro e wj ⟨rfl,jo⟩;have mr:=qa2 (fn.out.trans (jo.mono fn.out.size)) jo;clear jo;go_wp2_with fail;exact hK _ [] _ (Qqx mr.out.1) mr.out.2 (λx hx=>(by cases hx)) ⟨λ_=>⟨rfl,rfl⟩,λe=>absurd e (by decide),λe=>absurd e (by decide),λe=>absurd e (by decide)⟩
  case zt6 =>
   intro V G f K hS hd hK;have P:=ae hS;have qk:=((hd 5 (Qjz (by kernel_rfl)) (by simp)).1 rfl).1;refine aq 6 rfl ?_;simp only[ap,az,Qvz,Qwq,Qvx,Act.put,Qvq,Qwx,Qwz,qk] at hK ⊢;go_wp2_with fail;exact hK _ [] _ hS brf (λx hx=>(by cases hx)) ⟨λe=>absurd e (by decide),λ_=>⟨rfl,rfl⟩,λe=>absurd e (by decide),λe=>absurd e (by decide)⟩
  case zt7 =>
   intro V G f K hS hd hK;have P:=ae hS;have py:=((hd 6 (Qjz (by kernel_rfl)) (by simp)).2.1 rfl).1;obtain⟨y0,y1,y2,y3,y4⟩:=mz.out f P;refine aq 7 rfl ?_;simp only[ap,az,Qvz,Qwq,Qvx,Act.put,Qvq,Qwx,Qwz,py] at hK ⊢;go_wp2_with fail;exact hK _ [] _ hS brf (λx hx=>(by cases hx)) ⟨λe=>absurd e (by decide),λe=>absurd e (by decide),λ_=>⟨rfl,rfl⟩,λe=>absurd e (by decide)⟩
  case zt8 =>
   intro V G f K hS hd hK;have P:=ae hS;refine aq 8 rfl ?_;simp only[ap,az,Qvz,Qwq,Qvx,Act.put,Qvq,Qwx,Qwz] at hK ⊢;go_wp2_with fail;exact hK _ [f.heap.size] _ (Qqx (P.alloc P.size _)) (brf.alloc nlr _) (λx hx=>(by rw[List.mem_singleton] at hx;omega)) ⟨λe=>absurd e (by decide),λe=>absurd e (by decide),λe=>absurd e (by decide),λ_=>⟨f.heap.size,rfl,rfl,P.size,(Blk.mk' (cur:=#[.int .i64 0,.int .i64 0,.int .i64 0,.int .i64 0]) rfl rfl).congr (λj hj=>by match j,hj with|0,_=>rfl|1,_=>rfl|2,_=>rfl|3,_=>rfl)⟩⟩
  case ztdone =>
   intro V G' f hS hD hA;have qo:=((hD 5 (by simp)).1 rfl).1;have rb:=((hD 6 (by simp)).2.1 rfl).1;have pr:=((hD 7 (by simp)).2.2.1 rfl).1;obtain⟨BH,el,es,bp,av⟩:=(hD 8 (by simp)).2.2.2 rfl;have P:=ae hS;have fn:=hid P;clear hS hD hA es;simp only[ap,az,Qvz,Qwq,Qvx,Act.put,Qvq,Qwx,Qwz,el,qo,rb,pr];have z1:=av.lt;have m7:=av.frozen 0;have nd:=av.frozen 1;have nf:=av.frozen 2;have m4:=av.frozen 3;have nr:=av.k 0;have nn:=av.k 1;have nl:=av.k 2;have m6:=av.k 3;have K1:=(((av.set 0 (.int .i64 (A:Int))).set 1 (.int .i64 (D:Int))).set 2 (.int .i64 (b:Int))).set 3 (.int .i64 ZN);have jg:Hid (Blk ((((f.setCell ⟨BH,0,none⟩ (.int .i64 (A:Int))).setCell ⟨BH,1,none⟩ (.int .i64 (D:Int))).setCell ⟨BH,2,none⟩ (.int .i64 (b:Int))).setCell ⟨BH,3,none⟩ (.int .i64 ZN)) BH 61 4 (λj=>(#[.int .i64 (A:Int),.int .i64 (D:Int),.int .i64 (b:Int),.int .i64 ZN]:Array Value).getD j default)/\Below wb.heap.size wb ((((f.setCell ⟨BH,0,none⟩ (.int .i64 (A:Int))).setCell ⟨BH,1,none⟩ (.int .i64 (D:Int))).setCell ⟨BH,2,none⟩ (.int .i64 (b:Int))).setCell ⟨BH,3,none⟩ (.int .i64 ZN))):=⟨K1.congr (λj hj=>by match j,hj with|0,_=>rfl|1,_=>rfl|2,_=>rfl|3,_=>rfl),(((P.setCell (p:=⟨BH,0,none⟩) bp (.int .i64 (A:Int))).setCell (p:=⟨BH,1,none⟩) bp (.int .i64 (D:Int))).setCell (p:=⟨BH,2,none⟩) bp (.int .i64 (b:Int))).setCell (p:=⟨BH,3,none⟩) bp (.int .i64 ZN)⟩;clear K1 av P;refine cf 9 rfl ?_;go_wp2_with fail;refine⟨gy.yes,?_⟩;clear z1 m7 nd nf m4 nr nn nl m6
   generalize ((((f.setCell ⟨BH,0,none⟩ (.int .i64 (A:Int))).setCell ⟨BH,1,none⟩ (.int .i64 (D:Int))).setCell ⟨BH,2,none⟩ (.int .i64 (b:Int))).setCell ⟨BH,3,none⟩ (.int .i64 ZN))=wc at *
   have cm:Hid (CoI Q.heap.size t BC U s b g seen J x wc):=aa.out.below jg.out.2;have cl:=hid jg.out.1;clear aa jg fn mz;refine NoPanic.normal ?_;have hr:=HF.out.hold;have k7:Hid (Calls prog 119 #[.slice (some ⟨Gh,0,none⟩) x.hs.n x.hs.c,.int .i64 (A:Int),.int .i64 (D:Int),.int .i64 (b:Int),.int .i64 (ZN-1)] wc λe M=>∃m:Hs,e = .returned (.slice m.a m.n m.c)/\cw wc.heap.size 61 M m/\vy x.hs m k/\Below wc.heap.size wc M):=by
    have hz:=HZ.out;have k0:=cm.out.rel.own.hs.at;have ek:ba (x.hs.z k)=ba (⟨(A:Int),(D:Int),(b:Int),ZN-1⟩:Hd):=by rw[hz];rfl
    have rg:Ce (⟨(A:Int),(D:Int),(b:Int),ZN-1⟩:Hd):=by have h:=N9 (cd hr k hk);rw[hz] at h;exact h
    have lo:∀j,j<k->ba (x.hs.z j)<ba (⟨(A:Int),(D:Int),(b:Int),ZN-1⟩:Hd):=λj hj=>by rw[<-ek];exact nk hr j k hj hk
    have k8:∀j,k<j->j<x.hs.n->ba (⟨(A:Int),(D:Int),(b:Int),ZN-1⟩:Hd)<ba (x.hs.z j):=λj h1 h2=>by rw[<-ek];exact nk hr k j h1 h2
    by_cases c:ZN=1
    .have h:=Ol x.hs ⟨(A:Int),(D:Int),(b:Int),ZN-1⟩ k wc k0 hr rg hk ek (by show ZN-1=0;omega) lo k8;rw[Hs.val,gs.out] at h;refine h.mono λe M => ?_;rintro⟨m,h1,h2,h3,h4,h5⟩;refine⟨m,h1,h2,?_,h5⟩;unfold vy;rw[hz,if_pos (show ZN=1 from c)];exact⟨h3,λi _=>by rw[h4]⟩
    have h:=Qy x.hs ⟨(A:Int),(D:Int),(b:Int),ZN-1⟩ k wc k0 hr rg hk ek (by show ¬ZN-1=0;omega) lo k8;rw[Hs.val,gs.out] at h;refine h.mono λe M => ?_;rintro⟨m,h1,h2,h3,h4,h5⟩;refine⟨m,h1,h2,?_,h5⟩;unfold vy;rw[hz,if_neg (show ¬ZN=1 from c)];refine⟨h3,λi _ => ?_⟩;rw[h4];unfold sp ig;by_cases e:i=k
    .rw[if_pos e,if_pos e,e,hz];rfl
    rw[if_neg e,if_neg e]
   obtain⟨m1,p0,p1,p2,p3,p4,p5,p6⟩:=Boxed.of cm.out.rel.box;rw[gs.out] at p2;have y0:wc.cell? ⟨BH,0,none⟩=some (.int .i64 (A:Int)):=cl.out.k 0;have y1:wc.cell? ⟨BH,1,none⟩=some (.int .i64 (D:Int)):=cl.out.k 1;have y2:wc.cell? ⟨BH,2,none⟩=some (.int .i64 (b:Int)):=cl.out.k 2;have y3:wc.cell? ⟨BH,3,none⟩=some (.int .i64 ZN):=cl.out.k 3;have y4:=cl.out.lt;clear hr;go_wp2_with fail;clear m1 p0 p1 p2 p3 p4 p5 p6 y0 y1 y2 y3 y4;refine Calls.mono k7.out ?_;rintro e wd ⟨m,rfl,mq,k9,L⟩;have f7:=hid k9;have di:=cm.out.rel.below L;have dh:Hid (de Q.heap.size t U (withHolds x m) (wd.setCell ⟨t,2,none⟩ (.slice m.a m.n m.c))):=di.holds (by omega) (mq.mono cm.out.rel.le);have b9:Hid (Blk (wd.setCell ⟨t,2,none⟩ (.slice m.a m.n m.c)) BH 61 4 (λj=>(#[.int .i64 (A:Int),.int .i64 (D:Int),.int .i64 (b:Int),.int .i64 ZN]:Array Value).getD j default)):=(cl.out.below L).other (a:=⟨t,2,none⟩) (Blk.ne2 (cl.out.below L) di.box (by decide)) _;have i6:Hid (Blk (wd.setCell ⟨t,2,none⟩ (.slice m.a m.n m.c)) BC 152 12 (xg (ew s b g J))):=(cm.out.cut.below L).other (a:=⟨t,2,none⟩) (Blk.ne2 (cm.out.cut.below L) di.box (by decide)) _;have cn:=hid cm.out.cj;have x1:=di.box.lt;have o9:=di.box.frozen 2;have x3:=di.box.k 2;clear di mq k9 L k7 cm cl;go_wp2_with fail;clear x1 o9 x3
   generalize wd.setCell ⟨t,2,none⟩ (.slice m.a m.n m.c)=we at *
   obtain⟨gO,B,hO,-,c3,c4,my,-,c7,nc,cc,qj,d0,d1,d2,d3⟩:=dh.out.own.lineCell (o:=A) (l:=D) on ln;have lk:x.os.a=some ⟨gO,0,none⟩:=hO;have fd:(x.os.z A).ls.a=some ⟨B,0,none⟩:=my;have sz:(x.os.z A).ls.n<=(x.os.z A).ls.c:=nc;have n3:(x.os.z A).ls.c<=maxLen:=cc;have oc:x.os.c<=maxLen:=dh.out.own.os.cap;have te:x.os.n<=x.os.c:=dh.out.own.os.le;unfold maxLen at n3 oc;obtain⟨LN,e8⟩:∃LN,((x.os.z A).ls.z D).n=LN:=⟨_,rfl⟩;have s9:=hid e8;have ld:we.cell? ⟨B,D*4+3,none⟩=some (.int .i64 LN):=by rw[<-e8];exact d3
   have f6:we.cell? ⟨gO,A*2+1,none⟩=some (.slice (some ⟨B,0,none⟩) (x.os.z A).ls.n (x.os.z A).ls.c):=c4;have mh:0<=((x.os.z A).ls.z D).n/\((x.os.z A).ls.z D).n<=200:=by have h:=er (HF.out.line A on D ln);omega
   rw[e8] at mh;obtain⟨sv,rv⟩:=mh;have sw : -9223372036854775808<=LN+1:=by omega
   have sm:LN+1<=9223372036854775807:=by omega
   have u1:we.cell? ⟨t,1,none⟩=some (.slice x.os.a x.os.n x.os.c):=dh.out.box.k 1;rw[lk] at u1;have ul:=dh.out.box.lt;have y0:we.cell? ⟨BH,0,none⟩=some (.int .i64 (A:Int)):=b9.out.k 0;have y1:we.cell? ⟨BH,1,none⟩=some (.int .i64 (D:Int)):=b9.out.k 1;have y4:=b9.out.lt;have v0:(0:Int)<=(A:Int):=by omega
   have v1:(A:Int)<(x.os.n:Int):=by omega
   have v2:(0:Int)<=(D:Int):=by omega
   have v3:(D:Int)<((x.os.z A).ls.n:Int):=by omega
   obtain⟨i5,lp⟩:=cn.out.hold HR.out j0 HL.out HH.out f7.out (o:=A) (l:=D) (by rw[HZ.out]) (by rw[HZ.out]);rw[e8] at i5;have f0:Hid (nz s b g seen (J+1) (setLine (withHolds x m) A D 3 (LN+1))/\∀a d:Int,ew s b g (J+1) a d=ew s b g J a d+if a=A/\d=D then 1 else 0):=⟨i5,lp⟩;have mj:=hid fd;clear hO lk my fd nc cc d0 d1 d2 d3 e8 i5 lp cn qj;have qc:=Qqq u1;have jy:=Qqq y0;have ii:=Qqq y1;have pn:=Qqq f6;have pg:=Qqq ld;refine jh [(true,[0,1,2,3,4,5,6,7,8,9,10,11,12,13,14],some 15)] ?_;refine⟨λM=>∃p:Regrown,M=grow (redrawn we p.d) p.os,Qqx (brf.drew),λh=>(by cases h),?_⟩;simp only[du,Qyq,Xqq,Qyx,Qyz,Xqz,Xqx]
   repeat(go_big_quiet_step(fail))
   refine Qqz ?_;clear qc jy ii pn pg u1 y0 y1 y4 c3 c4 f6 c7 ld ul;have L:Below we.heap.size we we.drew:=brf.drew
   generalize we.drew=wj at *
   have ix:=dh.out.below L;obtain⟨B',i1,-,-,-,ea⟩:=ix.own.os.lines A on;have eB:B'=B:=by have e:(x.os.z A).ls.a=some ⟨B',0,none⟩:=i1;rw[mj.out] at e;simpa using e.symm
   subst eB;have s1:=ea.lt;have s2:=ea.frozen (D*4+3);have s3:=ea.cell (j:=D*4+3) (by show _<(x.os.z A).ls.n*4;omega);have mm:Hid (de Q.heap.size t U (setLine (withHolds x m) A D 3 (LN+1)) (wj.setCell ⟨B',D*4+3,none⟩ (.int .i64 (LN+1)))):=ix.line A0 on i1 D (LN+1);have gm:Hid (Blk (wj.setCell ⟨B',D*4+3,none⟩ (.int .i64 (LN+1))) BH 61 4 (λj=>(#[.int .i64 (A:Int),.int .i64 (D:Int),.int .i64 (b:Int),.int .i64 ZN]:Array Value).getD j default)):=(b9.out.below L).other (a:=⟨B',D*4+3,none⟩) (Blk.ne2 (b9.out.below L) ea (by decide)) _;have gw:Hid (Blk (wj.setCell ⟨B',D*4+3,none⟩ (.int .i64 (LN+1))) BC 152 12 (xg (ew s b g J))):=(i6.out.below L).other (a:=⟨B',D*4+3,none⟩) (Blk.ne2 (i6.out.below L) ea (by decide)) _;clear ix i1 ea dh b9 i6 L mj;refine li 15 rfl ?_;go_wp2_with fail;refine NoPanic.normal ?_;clear s1 s2 s3
   generalize wj.setCell ⟨B',D*4+3,none⟩ (.int .i64 (LN+1))=wf at *
   have y0:wf.cell? ⟨BH,0,none⟩=some (.int .i64 (A:Int)):=gm.out.k 0;have y1:wf.cell? ⟨BH,1,none⟩=some (.int .i64 (D:Int)):=gm.out.k 1;have y4:=gm.out.lt;obtain⟨QV,f9⟩:∃QV,ew s b g J A D=QV:=⟨_,rfl⟩;have qb:=Br (b:=b) (g:=g) HR.out j0 A D;have kb:=tm (z:=s.hs.z) A D s.hs.n λq hq=>(cz (cd HR.out.fm.hold q hq)).2.2.2;have rh:=HR.out.fm.hs72;rw[f9] at qb;have ta:0<=QV/\QV<=100000:=by omega
   have e5:wf.cell? ⟨BC,A*3+D,none⟩=some (.int .i64 QV):=by have h:=gw.out.cell (j:=A*3+D) (by omega);rw[U2 _ l3,f9] at h;exact h
   have bl:=gw.out.lt;have v4:(A:Int)<4:=by omega
   have v5:(D:Int)<3:=by omega
   have qw:=hid f9;clear f9 qb kb rh;go_wp2_with fail;have jy:=Qqq y0;have ii:=Qqq y1;have jn:=Qqq e5;refine jh [(true,[0,1,2,3,4,5,6,7,8,9],some 10)] ?_;refine⟨λM=>∃p:Regrown,M=grow (redrawn wf p.d) p.os,Qqx (brf.drew),λh=>(by cases h),?_⟩;simp only[du,Qyq,Xqq,Qyx,Qyz,Xqz,Xqx]
   repeat(go_big_quiet_step(fail))
   refine Qqz ?_;clear jy ii jn y0 y1 y4 e5 bl;have L:Below wf.heap.size wf wf.drew:=brf.drew
   generalize wf.drew=mi at *
   have d5:=gw.out.below L;have s1:=d5.lt;have s2:=d5.frozen (A*3+D);have s3:=d5.cell (j:=A*3+D) (by omega);have bc:Hid (CoI Q.heap.size t BC U s b g seen (J+1) (setLine (withHolds x m) A D 3 (LN+1)) (mi.setCell ⟨BC,A*3+D,none⟩ (.int .i64 (QV+1)))):=by
    refine⟨(mm.out.below L).boxA d5 A3 _ _,(d5.set (A*3+D) (.int .i64 (QV+1))).congr (λj hj => ?_),f0.out.1,by omega,by omega⟩;rw[<-qw.out];exact Yr l3 f0.out.2 j
   clear d5 gw mm L gm f0;refine li 10 rfl ?_;go_wp2_with fail;refine NoPanic.normal ?_;clear s1 s2 s3
   generalize mi.setCell ⟨BC,A*3+D,none⟩ (.int .i64 (QV+1))=wg at *
   go_wp2_with fail;go_roundw
   case rel=>exact⟨_,bc.out.num⟩
   case measure=>exact ep.out _ _ bc.out.num (by have:=bc.out.jm;omega)
 | some k =>
  have LV:na (ct b g) x.ms.z x.ms.n=(k:Int):=by unfold na;rw[hl]
  rw[LV];have hk:k<x.ms.n:=(Dy hl).1;have HL:=hid hl;have od:=aa.out.rel.own.ms.2.1;have tj:=aa.out.rel.own.ms.1;have ms8:=HF.out.ms8;have zn:=HF.out.moveN k hk;unfold maxLen at od;obtain⟨Gm,gk,oo,b2⟩:=aa.out.rel.own.ms.2.2.2 (show 0<x.ms.n by omega);have ti:=hid gk;have u3:wb.cell? ⟨t,3,none⟩=some (.slice x.ms.a x.ms.n x.ms.c):=aa.out.rel.box.k 3;have ul:=aa.out.rel.box.lt;have gl:=b2.lt;have gf:=b2.frozen (k*4+3);have z3:wb.cell? ⟨Gm,k*4+3,none⟩=some (.int .i64 (x.ms.z k).n):=(b2.cell (j:=k*4+3) (by show _<x.ms.n*4;omega)).trans (congrArg some (re (z:=x.ms.z) (c:=3) hk (by decide)));have pw:¬Gm=t:=Blk.ne2 b2 aa.out.rel.box (by decide);have ne2:¬t=Gm:=λe=>pw e.symm;rw[gk] at u3;have q0:(0:Int)<=(k:Int):=by omega
  have q1:(k:Int)<(x.ms.n:Int):=by omega
  have S:Hid (de Q.heap.size t U (withMoves x (Cw x.ms k 1)) (wb.setCell ⟨Gm,k*4+3,none⟩ (.int .i64 ((x.ms.z k).n-1)))):=aa.out.rel.moveN A0 hk gk 1;have bz:Hid (Blk (wb.setCell ⟨Gm,k*4+3,none⟩ (.int .i64 ((x.ms.z k).n-1))) BC 152 12 (xg (ew s b g J))):=aa.out.cut.other (a:=⟨Gm,k*4+3,none⟩) (Blk.ne2 aa.out.cut b2 (by decide)) _;have HQ:Hid (ew s b g (J+1)=ew s b g J):=by
   have h1:=aa.out.cj.cutQ_move HR.out aa.out.j0 hl;exact h1
  have cn:=hid aa.out.cj;have js:Hid (∀m,vy x.ms m k->nz s b g seen (J+1) (withMoves x m)):=λm c=>cn.out.move HR.out j0 HL.out c;clear LV hl gk b2 oo;by_cases fr:(x.ms.z k).n=1;rotate_left
  .have HM:Hid (nz s b g seen (J+1) (withMoves x (Cw x.ms k 1))):=js.out _ (by unfold vy;rw[if_neg fr];exact⟨rfl,λ_ _=>rfl⟩);have e0:((x.ms.z k).n-1==0)=false:=by simp;omega
   clear fr
   generalize (x.ms.z k).n=ZN at *
   go_wp2_with fail;have bc:Hid (CoI Q.heap.size t BC U s b g seen (J+1) (withMoves x (Cw x.ms k 1)) (wb.setCell ⟨Gm,k*4+3,none⟩ (.int .i64 (ZN-1)))):=⟨S.out,by rw[HQ.out];exact bz.out,HM.out,by omega,by omega⟩;go_roundw
   case rel=>exact⟨_,bc.out.num⟩
   case measure=>exact ep.out _ _ bc.out.num (by have:=bc.out.jm;omega)
  have f7:Hid (∀m:Hs,m.n=x.ms.n-1->(∀i,i<m.n->m.z i=fw x.ms.z k i)->vy x.ms m k):=λm h1 h2=>by unfold vy;rw[if_pos fr];exact⟨h1,h2⟩
  have qa:(1:Int)-1=0:=rfl;rw[fr] at z3 S bz;rw[qa] at S bz;clear fr zn;go_wp2_with fail;clear u3 ul gl gf z3
  generalize wb.setCell ⟨Gm,k*4+3,none⟩ (.int .i64 0)=F at *
  obtain⟨iM,hM,ga,gn,gq⟩:=info_parts Ec;obtain⟨ZF,j5⟩:∃ZF,ig x.ms.z k 1=ZF:=⟨_,rfl⟩;have ku:=hid j5;have gr:Hid ((⟨x.ms.a,x.ms.n,x.ms.c,ZF⟩:Hs).At F):=by rw[<-j5];exact S.out.own.ms.at
  obtain⟨bm,om,mx,-⟩:=gr.out.hds k hk;have fv:x.ms.a=some ⟨bm,om,none⟩:=mx;have i7:=hid fv;have c3:F.cell? ⟨t,3,none⟩=some (.slice x.ms.a x.ms.n x.ms.c):=S.out.box.k 3;rw[fv] at c3;have lf:=Qqq c3;clear j5 mx fv c3 aa;by_cases mp:x.ms.c=k+1;rotate_left
  .refine fh (λM=>∃p:Regrown,M=grow (redrawn F p.d) p.os) [1,2,3,4,6,7,8,9,10] [0] [(false,5),(false,11),(false,12),(true,13)] (Qqx (brf.drew)) ?_;simp only[du,Qyq,Xqq,Qyx,Qyz,Xqz,Xqx]
   repeat(go_big_quiet_step(fail))
   refine Qqz ?_;clear lf;refine⟨λj v g f=>∃B,v = .slice (some ⟨B,0,none⟩) 0 0/\g=[B]/\F.heap.size<=B/\f.heap[B]?=some (.cells #[] 63 (0,0)),
    Qjx ⟨λv g w M hB h=>⟨h.choose,h.choose_spec.1,h.choose_spec.2.1,h.choose_spec.2.2.1,(hB.block _ (Qkq h.choose_spec.2.2.2).1).trans h.choose_spec.2.2.2⟩,Qjq _⟩,
    Qjx ⟨λv g w h=>by obtain⟨B,-,h2,-,h4⟩:=h;rw[h2];intro x hx;rw[List.mem_singleton] at hx;rw[hx];exact(Qkq h4).1,Qjq _⟩,
    Qjx ⟨?zt0,Qjq _⟩,?ztdone⟩
   case zt0 =>
    intro V G f K hS hd hK;have P:=ae hS;refine aq 0 rfl ?_;simp only[ap,az,Qvz,Qvx,Act.put,Qvq,Qwx,Qwz] at hK ⊢;go_wp2_with fail;exact hK _ [f.heap.size] _ (Qqx (P.alloc P.size _)) (brf.alloc nlr _) (λx hx=>by rw[List.mem_singleton] at hx;omega) ⟨f.heap.size,rfl,rfl,P.size,heap_alloc_new f _⟩
   case ztdone =>
    intro V G' f hS hD hA;obtain⟨BV,el,es,bp,av⟩:∃B,V 0 = .slice (some ⟨B,0,none⟩) 0 0/\G' 0=[B]/\F.heap.size<=B/\f.heap[B]?=some (.cells #[] 63 (0,0)):=hD 0 (by simp);have P:=ae hS;clear hS hD hA es;simp only[ap,az,Qvz,Qvx,Act.put,Qvq,Qwx,Qwz,el];have bs:f.ownsRow F.heap.size 63 4 (.slice (some ⟨BV,0,none⟩) 0 0) 0 []:=⟨rfl,Or.inr ⟨BV,0,#[],rfl,bp,av,Nat.le_refl _,Qxz _,rfl,rfl⟩⟩;have fa:Hid (jj f (some ⟨bm,om,none⟩) x.ms.n ZF/\Below F.heap.size F f):=⟨by have h:jj f x.ms.a x.ms.n ZF:=(gr.out.below P).hds;rw[i7.out] at h;exact h,P⟩;refine cf 5 rfl ?_;refine wpList_append_own f rfl (.tmp 119) (.tmp 123) 29 rfl F.heap.size 63 iM (.agg #[.int .i64 0,.int .i64 0,.int .i64 0,.int .i64 0]) 4 32 underlying29 hM ga gn gq rfl (by decide) _ 0 [] rfl bs ⟨bm,om,none⟩ k _ (ay k ZF) rfl (eu _ _) (λj u hj=>by
     rw[xt];have h:=fa.out.1.flat (q:=0) (m:=k) (by omega) (j:=j) (u:=u) (by simpa using hj)
     simpa using h) (mw _ _) (by unfold maxLen;omega) (by omega) P.size ?_
    intro v1 b4 r1 r2 _;have et:Below F.heap.size F b4:=P.grown r2 P.size (λk e=>by cases e;exact bp);have bq:=hid et;have dl:Hid (b4.ownsRow F.heap.size 63 4 v1 k (ay k ZF)):=by have h:=r1;rw[Nat.zero_add,Xqx] at h;exact h
    clear P r1 r2 bs av bp fa et;simp only[Act.put,Qvq,Qwx,Qwz];refine(?_:wpList _ _ _ [] _ _);go_wp2_with fail;refine⟨gy.no (Qqx bq.out),?_⟩;refine cf 11 rfl ?_;have l7:Hid (jj b4 (some ⟨bm,om,none⟩) x.ms.n ZF):=by have h:jj b4 x.ms.a x.ms.n ZF:=(gr.out.below bq.out).hds;rw[i7.out] at h;exact h
    refine wpList_append_own b4 rfl (.tmp 124) (.tmp 129) 29 rfl F.heap.size 63 iM (.agg #[.int .i64 0,.int .i64 0,.int .i64 0,.int .i64 0]) 4 32 underlying29 hM ga gn gq rfl (by decide) v1 k (ay k ZF) rfl dl.out ⟨bm,om+(k+1)*4,none⟩ (x.ms.n-(k+1)) _ (ay (x.ms.n-(k+1)) (λj=>ZF (k+1+j))) rfl (eu _ _) (λj u hj=>by rw[xt];exact l7.out.flat (q:=k+1) (m:=x.ms.n-(k+1)) (by omega) hj) (mw _ _) (by unfold maxLen;omega) (by omega) bq.out.size ?_;intro v2 a0 r3 r4 _;have eo:Below F.heap.size F a0:=bq.out.grown r4 bq.out.size (λk e=>Dj dl.out e);have dk:a0.ownsRow F.heap.size 63 4 v2 (x.ms.n-1) (ay (x.ms.n-1) (fw ZF k)):=by
     rw[vk x.ms.n ZF k hk];have fk:=r3;rw[show k+(x.ms.n-(k+1))=x.ms.n-1 by omega] at fk;exact fk
    obtain⟨E,rfl,dq,kn,kz⟩:=cw.ofRow dk nlr;have ev:Hid (fu F.heap.size a0 63 4 E.a E.c):=fu.ofOwns (a:=E.a) (n:=E.n) (c:=E.c) dk nlr;have b3:=qa3 dq kn kz;have H:=hid eo;clear r3 r4 eo dk dq kn kz dl bq l7;simp only[Act.put,Qvq,Qwx,Qwz,Hs.val];refine(?_:wpList _ _ _ [] _ _);go_wp2_with fail;refine⟨gy.no (Qqx H.out),?_⟩;refine cf 12 rfl ?_;have Y:=S.out.box.below H.out;have zl:=Y.lt;have bu:=Y.frozen 3;have zc3:=Y.k 3;go_wp2_with fail;refine⟨gy.no (Qqx H.out),?_⟩;refine cf 13 rfl ?_;go_wp2_with fail;refine⟨gy.yes,?_⟩;clear zl bu zc3;have fb:Hid (de Q.heap.size t U (withMoves x E) (a0.setCell ⟨t,3,none⟩ (.slice E.a E.n E.c))):=⟨((ai.below S.out.own H.out).withM (b3.out.1.mono S.out.le) (ev.out.mono S.out.le)).box Y 3 (.slice E.a E.n E.c),(Y.set 3 _).congr λj hj=>by match j,hj with|0,_=>rfl|1,_=>rfl|2,_=>rfl|3,_=>rfl|4,_=>rfl|5,_=>rfl|6,_=>rfl,(S.out.bel.trans (H.out.mono S.out.bel.size)).setCell (p:=⟨t,3,none⟩) (by show U.heap.size<=t;omega) _,by have h1:=S.out.le;have h2:=H.out.size;simp;omega⟩;have e3:Hid (Blk (a0.setCell ⟨t,3,none⟩ (.slice E.a E.n E.c)) BC 152 12 (xg (ew s b g J))):=(bz.out.below H.out).other (a:=⟨t,3,none⟩) (Blk.ne2 (bz.out.below H.out) Y (by decide)) _;have ff:Hid (nz s b g seen (J+1) (withMoves x E)):=js.out E (f7.out E b3.out.2.1 (λq hq=>by
     rw[b3.out.2.2,<-ku.out];unfold fw ig;by_cases c:q<k
     .rw[if_pos c,if_pos c,if_neg (by omega)]
     rw[if_neg c,if_neg c,if_neg (by omega)]))
    have bc:Hid (CoI Q.heap.size t BC U s b g seen (J+1) (withMoves x E) (a0.setCell ⟨t,3,none⟩ (.slice E.a E.n E.c))):=⟨fb.out,by rw[HQ.out];exact e3.out,ff.out,by omega,by omega⟩;clear Y S H b3 ev fb e3 ff bz
    generalize a0.setCell ⟨t,3,none⟩ (.slice E.a E.n E.c)=qy at *
    refine NoPanic.normal ?_;go_wp2_with fail;go_roundw
    case rel=>exact⟨_,bc.out.num⟩
    case measure=>exact ep.out _ _ bc.out.num (by have:=bc.out.jm;omega)
  refine fh (λM=>∃p:Regrown,M=grow (redrawn F p.d) p.os) [1,2,3,4,6,7,8,9,10] [0] [(false,5),(false,11),(false,12),(true,13)] (Qqx (brf.drew)) ?_;simp only[du,Qyq,Xqq,Qyx,Qyz,Xqz,Xqx]
  repeat(go_big_quiet_step(fail))
  refine Qqz ?_;clear lf;have mv:=hid mp;clear mp;refine⟨λj v g f=>∃B,v = .slice (some ⟨B,0,none⟩) 0 0/\g=[B]/\F.heap.size<=B/\f.heap[B]?=some (.cells #[] 63 (0,0)),
   Qjx ⟨λv g w M hB h=>⟨h.choose,h.choose_spec.1,h.choose_spec.2.1,h.choose_spec.2.2.1,(hB.block _ (Qkq h.choose_spec.2.2.2).1).trans h.choose_spec.2.2.2⟩,Qjq _⟩,
   Qjx ⟨λv g w h=>by obtain⟨B,-,h2,-,h4⟩:=h;rw[h2];intro x hx;rw[List.mem_singleton] at hx;rw[hx];exact(Qkq h4).1,Qjq _⟩,
   Qjx ⟨?zt0,Qjq _⟩,?ztdone⟩
  case zt0 =>
   intro V G f K hS hd hK;have P:=ae hS;refine aq 0 rfl ?_;simp only[ap,az,Qvz,Qvx,Act.put,Qvq,Qwx,Qwz] at hK ⊢;go_wp2_with fail;exact hK _ [f.heap.size] _ (Qqx (P.alloc P.size _)) (brf.alloc nlr _) (λx hx=>by rw[List.mem_singleton] at hx;omega) ⟨f.heap.size,rfl,rfl,P.size,heap_alloc_new f _⟩
  case ztdone =>
   intro V G' f hS hD hA;obtain⟨BV,el,es,bp,av⟩:∃B,V 0 = .slice (some ⟨B,0,none⟩) 0 0/\G' 0=[B]/\F.heap.size<=B/\f.heap[B]?=some (.cells #[] 63 (0,0)):=hD 0 (by simp);have P:=ae hS;clear hS hD hA es;simp only[ap,az,Qvz,Qvx,Act.put,Qvq,Qwx,Qwz,el];have bs:f.ownsRow F.heap.size 63 4 (.slice (some ⟨BV,0,none⟩) 0 0) 0 []:=⟨rfl,Or.inr ⟨BV,0,#[],rfl,bp,av,Nat.le_refl _,Qxz _,rfl,rfl⟩⟩;have fa:Hid (jj f (some ⟨bm,om,none⟩) x.ms.n ZF/\Below F.heap.size F f):=⟨by have h:jj f x.ms.a x.ms.n ZF:=(gr.out.below P).hds;rw[i7.out] at h;exact h,P⟩;refine cf 5 rfl ?_;refine wpList_append_own f rfl (.tmp 119) (.tmp 123) 29 rfl F.heap.size 63 iM (.agg #[.int .i64 0,.int .i64 0,.int .i64 0,.int .i64 0]) 4 32 underlying29 hM ga gn gq rfl (by decide) _ 0 [] rfl bs ⟨bm,om,none⟩ k _ (ay k ZF) rfl (eu _ _) (λj u hj=>by
    rw[xt];have h:=fa.out.1.flat (q:=0) (m:=k) (by omega) (j:=j) (u:=u) (by simpa using hj)
    simpa using h) (mw _ _) (by unfold maxLen;omega) (by omega) P.size ?_
   intro v1 b4 r1 r2 _;have et:Below F.heap.size F b4:=P.grown r2 P.size (λk e=>by cases e;exact bp);have bq:=hid et;have dl:Hid (b4.ownsRow F.heap.size 63 4 v1 k (ay k ZF)):=by have h:=r1;rw[Nat.zero_add,Xqx] at h;exact h
   clear P r1 r2 bs av bp fa et;simp only[Act.put,Qvq,Qwx,Qwz];refine(?_:wpList _ _ _ [] _ _);go_wp2_with fail;refine⟨gy.no (Qqx bq.out),?_⟩;refine cf 11 rfl ?_;refine wpList_append_own b4 rfl (.tmp 124) (.tmp 129) 29 rfl F.heap.size 63 iM (.agg #[.int .i64 0,.int .i64 0,.int .i64 0,.int .i64 0]) 4 32 underlying29 hM ga gn gq rfl (by decide) v1 k (ay k ZF) rfl dl.out ⟨bm,om,none⟩ _ _ [] rfl (by first|rfl|(have:=mv.out;simp;omega)) (λj u hj=>by cases hj) (λu hu=>by cases hu) (by unfold maxLen;omega) (by omega) bq.out.size ?_;intro v2 a0 r3 r4 _;have eo:Below F.heap.size F a0:=bq.out.grown r4 bq.out.size (λk e=>Dj dl.out e);have dk:a0.ownsRow F.heap.size 63 4 v2 (x.ms.n-1) (ay (x.ms.n-1) (fw ZF k)):=by
    rw[vk x.ms.n ZF k hk];have hc:=mv.out;have e1:x.ms.n-(k+1)=0:=by omega
    rw[e1];have e2:x.ms.n-1=k:=by omega
    rw[e2]
    first|exact r3|(have fk:=r3;rw[e1] at fk;exact fk)
   obtain⟨E,rfl,dq,kn,kz⟩:=cw.ofRow dk nlr;have ev:Hid (fu F.heap.size a0 63 4 E.a E.c):=fu.ofOwns (a:=E.a) (n:=E.n) (c:=E.c) dk nlr;have b3:=qa3 dq kn kz;have H:=hid eo;clear r3 r4 eo dk dq kn kz dl bq;simp only[Act.put,Qvq,Qwx,Qwz,Hs.val];refine(?_:wpList _ _ _ [] _ _);go_wp2_with fail;refine⟨gy.no (Qqx H.out),?_⟩;refine cf 12 rfl ?_;have Y:=S.out.box.below H.out;have zl:=Y.lt;have bu:=Y.frozen 3;have zc3:=Y.k 3;go_wp2_with fail;refine⟨gy.no (Qqx H.out),?_⟩;refine cf 13 rfl ?_;go_wp2_with fail;refine⟨gy.yes,?_⟩;clear zl bu zc3;have fb:Hid (de Q.heap.size t U (withMoves x E) (a0.setCell ⟨t,3,none⟩ (.slice E.a E.n E.c))):=⟨((ai.below S.out.own H.out).withM (b3.out.1.mono S.out.le) (ev.out.mono S.out.le)).box Y 3 (.slice E.a E.n E.c),(Y.set 3 _).congr λj hj=>by match j,hj with|0,_=>rfl|1,_=>rfl|2,_=>rfl|3,_=>rfl|4,_=>rfl|5,_=>rfl|6,_=>rfl,(S.out.bel.trans (H.out.mono S.out.bel.size)).setCell (p:=⟨t,3,none⟩) (by show U.heap.size<=t;omega) _,by have h1:=S.out.le;have h2:=H.out.size;simp;omega⟩;have e3:Hid (Blk (a0.setCell ⟨t,3,none⟩ (.slice E.a E.n E.c)) BC 152 12 (xg (ew s b g J))):=(bz.out.below H.out).other (a:=⟨t,3,none⟩) (Blk.ne2 (bz.out.below H.out) Y (by decide)) _;have ff:Hid (nz s b g seen (J+1) (withMoves x E)):=js.out E (f7.out E b3.out.2.1 (λq hq=>by
    rw[b3.out.2.2,<-ku.out];unfold fw ig;by_cases c:q<k
    .rw[if_pos c,if_pos c,if_neg (by omega)]
    rw[if_neg c,if_neg c,if_neg (by omega)]))
   have bc:Hid (CoI Q.heap.size t BC U s b g seen (J+1) (withMoves x E) (a0.setCell ⟨t,3,none⟩ (.slice E.a E.n E.c))):=⟨fb.out,by rw[HQ.out];exact e3.out,ff.out,by omega,by omega⟩;clear Y S H b3 ev fb e3 ff bz
   generalize a0.setCell ⟨t,3,none⟩ (.slice E.a E.n E.c)=qy at *
   refine NoPanic.normal ?_;go_wp2_with fail;go_roundw
   case rel=>exact⟨_,bc.out.num⟩
   case measure=>exact ep.out _ _ bc.out.num (by have:=bc.out.jm;omega)
theorem Yu{x:Ax}(g:p.At w)(hs:s.At w)(hx:x.ls.At w):(x.k=1->Calls prog 53 #[p.val,s.val,.int .i64 x.a,.int .i64 x.b,.int .i64 x.n] w λe d=>∃y:St,e = .returned (.tuple #[y.val,.int .i64 (doE p s x)])/\y.At d/\ij (doE p s x) (doT p s x) y/\(doE p s x=0->ai w.heap.size d y)/\Below w.heap.size w d) /\
  (x.k=2->Calls prog 54 #[p.val,s.val,x.ls.val] w λe d=>∃y:St,e = .returned (.tuple #[y.val,.int .i64 (doE p s x)])/\y.At d/\ij (doE p s x) (doT p s x) y/\(doE p s x=0->ai w.heap.size d y)/\Below w.heap.size w d) /\
  (x.k=3->Calls prog 55 #[p.val,s.val] w λe d=>∃y:St,e = .returned (.tuple #[y.val,.int .i64 (doE p s x)])/\y.At d/\ij (doE p s x) (doT p s x) y/\(doE p s x=0->ai w.heap.size d y)/\Below w.heap.size w d) /\
  (x.k=4->Calls prog 56 #[p.val,s.val,.int .i64 x.a] w λe d=>∃y:St,e = .returned (.tuple #[y.val,.int .i64 (doE p s x)])/\y.At d/\ij (doE p s x) (doT p s x) y/\(doE p s x=0->ai w.heap.size d y)/\Below w.heap.size w d) /\
  (x.k=5->Calls prog 57 #[p.val,s.val,.int .i64 x.a,.int .i64 x.b,.int .i64 x.c,.int .i64 x.n] w λe d=>∃y:St,e = .returned (.tuple #[y.val,.int .i64 (doE p s x)])/\y.At d/\ij (doE p s x) (doT p s x) y/\(doE p s x=0->ai w.heap.size d y)/\Below w.heap.size w d) /\
  (x.k=6->Calls prog 58 #[p.val,s.val] w λe d=>∃y:St,e = .returned (.tuple #[y.val,.int .i64 (doE p s x)])/\y.At d/\ij (doE p s x) (doT p s x) y/\(doE p s x=0->ai w.heap.size d y)/\Below w.heap.size w d) /\
  (x.k=7->Calls prog 59 #[p.val,s.val,.int .i64 x.a,.int .i64 x.n] w λe d=>∃y:St,e = .returned (.tuple #[y.val,.int .i64 (doE p s x)])/\y.At d/\ij (doE p s x) (doT p s x) y/\(doE p s x=0->ai w.heap.size d y)/\Below w.heap.size w d) /\
  (x.k=8->Calls prog 60 #[p.val,s.val,.int .i64 x.a,.int .i64 x.b,.int .i64 x.n] w λe d=>∃y:St,e = .returned (.tuple #[y.val,.int .i64 (doE p s x)])/\y.At d/\ij (doE p s x) (doT p s x) y/\(doE p s x=0->ai w.heap.size d y)/\Below w.heap.size w d):=by
 refine⟨λf => ?_,λf => ?_,λf => ?_,λf => ?_,λf => ?_,λf => ?_,λf => ?_,λf => ?_⟩<;>unfold doE doT<;>rw[f]
 .exact Lx p s x.a x.b x.n w g hs
 .exact Ou p s x.ls w g hs hx
 .exact(Ly p s w g hs).mono λe d ⟨y,h1,h2,h3,h4⟩=>⟨y,h1,h2,h3.act,h4⟩
 .exact Mt p s x.a w g hs
 .exact Q2 p s x.a x.b x.c x.n w g hs
 .exact Q1 p s w g hs
 .exact Ow p s x.a x.n w g hs
 exact Tv p s x.a x.b x.n w g hs
theorem Lv(p:Pl)(s:St)(x:Ax)(w:World)(hp:p.At w)(hs:s.At w)(hx:x.ls.At w):
  Calls prog 21 #[p.val,s.val,x.val] w λe Q=>∃y:St,e = .returned (.tuple #[y.val,.int .i64 (doE p s x)])/\y.At Q/\ij (doE p s x) (doT p s x) y/\(doE p s x=0->ai w.heap.size Q y)/\Below w.heap.size w Q:=by
 obtain⟨W0,o,HC,g,M,⟨⟨X,d0,d1⟩,l2,Y,c1,c2,c3,c4,c5,c6⟩,⟨P,x1,x2,x3,x4,x5,x6⟩,zl,l,A,q,zc1,B,zc2,D,zc3,z,zc4,i,zc5,j,t⟩:=Yv p s x w hp hs hx;rw[<-o.out] at X d0 d1 l2 Y c1 c2 c3 c4 c5 c6 P x1 x2 x3 x4 x5 x6 zl l A q zc1 B zc2 D zc3 z zc4 i zc5 j t;clear hp hs hx;by_cases a:x.k=1\/x.k=2\/x.k=3\/x.k=4\/x.k=5\/x.k=6\/x.k=7\/x.k=8;rotate_left
 .simp only[not_or] at a;obtain⟨L,n2,V,U,n5,K,n7,n8⟩:=a;have W:Hid (doE p s x=8):=by
   show(if x.k=1 then _ else _)=_;rw[if_neg L,if_neg n2,if_neg V,if_neg U,if_neg n5,if_neg K,if_neg n7,if_neg n8]
  have n:=(HC.out W0 brf).2.2.2.1;rw[<-o.out] at n;unfold Pl.val St.val Ax.val Ax.cells;go_enter func21,ntmps21
  generalize x.k=f at *
  have g1:(f==1)=false:=by simpa using L
  have g2:(f==2)=false:=by simpa using n2
  have g3:(f==3)=false:=by simpa using V
  have g4:(f==4)=false:=by simpa using U
  have g5:(f==5)=false:=by simpa using n5
  have g6:(f==6)=false:=by simpa using K
  have g7:(f==7)=false:=by simpa using n7
  have g8:(f==8)=false:=by simpa using n8
  clear L n2 V U n5 K n7 n8;go_wp2_with fail;refine Xzq (v := .tuple #[j5.val,.int .i64 8]) (by simp[results,results21,go_sem,j5,St.val]) rfl ?_;exact⟨j5,by rw[W.out];rfl,uo _,⟨λh=>absurd h (by rw[W.out];decide),λ_=>⟨rfl,rfl,rfl,rfl,rfl,rfl,rfl⟩⟩,λh=>absurd h (by rw[W.out];decide),n⟩
 have d:Hid _:=Yu (x:=x) g.out.1 g.out.2.1 g.out.2.2;unfold Pl.val St.val Ax.val Ax.cells;go_enter func21,ntmps21;rcases a with a|a|a|a|a|a|a|a
 all_goals
  first
   | have c:Hid _:=d.out.1 a
   | have c:Hid _:=d.out.2.1 a
   | have c:Hid _:=d.out.2.2.1 a
   | have c:Hid _:=d.out.2.2.2.1 a
   | have c:Hid _:=d.out.2.2.2.2.1 a
   | have c:Hid _:=d.out.2.2.2.2.2.1 a
   | have c:Hid _:=d.out.2.2.2.2.2.2.1 a
   | have c:Hid _:=d.out.2.2.2.2.2.2.2 a
  rw[a] at P o ⊢;clear a d;go_wp2_with fail;rw[o.out];clear X d0 d1 l2 Y c1 c2 c3 c4 c5 c6 P x1 x2 x3 x4 x5 x6 zl l A q zc1 B zc2 D zc3 z zc4 i zc5 j t o g;refine Calls.mono c.out ?_;rintro e w1 ⟨y,rfl,J,F,u,hB⟩;have E:=qa3 J F u;obtain⟨-,-,-,aa,S,-,-⟩:=HC.out w1 hB;clear J F u c;obtain⟨T,m⟩:∃T,doE p s x=T:=⟨_,rfl⟩;have ac:=hid m;rw[m];clear m;obtain⟨zl,l,A,q,zc1,B,zc2,D,zc3,z,zc4,i,zc5,j,t⟩:=z7 S;simp only[St.val];go_wp2_with fail;have KZ:=s7b S y;have G:=s7w (b:=w.heap.size+3) aa (by omega) y;have r:=λh=>s7o (E.out.2.2 h) S y;have H:=Ye E.out.2.1 E.out.1 r;unfold set7 at KZ G H r;obtain⟨ar,av,an,al,ad,aj,au⟩:=df KZ;refine Xzq (v := .tuple #[y.val,.int .i64 T]) (by simp[results,results21,go_sem,St.val,ar,av,an,al,ad,aj,au]) rfl ?_;exact⟨y,by rw[ac.out];rfl,H,E.out.2.1,λh=>(r h).mono M.out,G⟩
end Go.Proofs.YtbcacebifpagpagGreat
namespace Go.Proofs.YtbcacebifpagpagGreat
variable{n b A g o l c i q j R L M:Nat}{w a d:World}{s x y u:St}{r W J D:Int}{e H:TypeId}{p:Pl}{z O:Nat->Hd}{f f':Nat->Value}{Q:Exit->Act->World->Prop}{v c1 c3 c2:Value}{xs:List Value}{U V:Hs}{X Y:Int->Int->Int}{P:Program}{h Z:Hd}{t:List UInt8}{E:Hd->Bool}{z' zs:Nat->Int}{S:World->Prop}{a1:Act}{K:Act->World->Prop}
open _root_.Go.Proofs.Tryz
open Go.ChangeShapes Go.WideShapes Go.ChangeAt Go.RowKit Go.Joins Go.Deep
set_option maxRecDepth 100000
theorem own:ownKnob prog.godebug=none:=by kernel_rfl
theorem yw:laidOutB prog=true:=by kernel_rfl
theorem vi:prog.cellsOf 3=1:=by kernel_rfl
theorem Pv:prog.cellsOf 23=1:=by kernel_rfl
theorem aay:prog.cellsOf 68=4:=by kernel_rfl
theorem Yp:prog.cellsOf 25=2:=by kernel_rfl
theorem Yl:prog.cellsOf 4=1:=by kernel_rfl
section
variable {H:Type} {enc:TypeId × Value->H} {w:World} {held:Bool} {spare:Nat->Bool}
theorem Au{a:Addr}(h:w.cell? (a.add i)=some v)(c:∃e,w.cell? a=some e):∃b o,a=⟨b,o,none⟩/\b<w.heap.size/\w.cell? ⟨b,o+i,none⟩=some v:=by
 obtain⟨b,f,spot⟩:=a;obtain⟨e,c⟩:=c;have d:spot=none:=World.cell?_spot c;subst d;refine⟨b,f,rfl,World.block_lt_of_cell? w _ c,?_⟩;rw[<-Go.WideShapes.add_plain];exact h
theorem Ek{fuel:Nat}{x:DataW H × List MemPlace}(h:DataW.trod enc prog w 0 spare held fuel 23 xs=some x):∃r:Rw,xs=[r.val]/\r.At w:=by
 rcases open_slice1 underlying23 vi h with⟨rfl,_⟩|⟨a,len,cap,m,n,V,D,Pl,rfl,s,j,l,e,_,hx⟩
 .exact⟨⟨none,0,0,λ_=>0⟩,rfl,Nat.le_refl _,Qxz _,λi hi=>absurd hi (Qzq _)⟩
 have q:len<=m:=by rw[e];split<;>omega
 obtain⟨z,g⟩:=choose_lt (α:=Int) (n:=len) (p:=λi y=>V i = .int .i64 y) (λi hi=>by
  obtain⟨y,d,_⟩:=DataW.trod_int underlying3 (hx i (by omega)).2;simp only[List.cons.injEq,and_true] at d;exact⟨y,d⟩)
 refine⟨⟨some a,len,cap,z⟩,rfl,j,l,λi hi => ?_⟩;have f:i<len:=hi;have k:∃v0,w.cell? a=some v0:=⟨_,by have:=(hx 0 (by omega)).1;simpa[Addr.add] using this⟩;obtain⟨b,o,rfl,c,hc⟩:=Au (hx i (by omega)).1 k;exact⟨b,o,rfl,c,by rw[hc,g i f]⟩
theorem abo{fuel:Nat}{x:DataW H × List MemPlace}(h:DataW.trod enc prog w 0 spare held fuel 26 xs=some x):∃s:Sh,xs=[s.val]/\s.At w:=by
 rcases open_slice1 underlying26 Pv h with⟨rfl,_⟩|⟨a,len,cap,m,n,V,D,Pl,rfl,t,k,q,g,_,hx⟩
 .exact⟨⟨none,0,0,λ_=>⟨none,0,0,λ_=>0⟩⟩,rfl,Nat.le_refl _,Qxz _,λi hi=>absurd hi (Qzq _)⟩
 have r:len<=m:=by rw[g];split<;>omega
 haveI:Inhabited Rw:=⟨⟨none,0,0,λ_=>0⟩⟩
 obtain⟨z,d⟩:=choose_lt (α:=Rw) (n:=len) (p:=λi y=>V i=y.val/\y.At w) (λi hi=>by
  obtain⟨y,f,j⟩:=Ek (hx i (by omega)).2;simp only[List.cons.injEq,and_true] at f;exact⟨y,f,j⟩)
 refine⟨⟨some a,len,cap,z⟩,rfl,k,q,λi hi => ?_⟩;have c:i<len:=hi;have l:∃v0,w.cell? a=some v0:=⟨_,by have:=(hx 0 (by omega)).1;simpa[Addr.add] using this⟩;obtain⟨b,o,rfl,e,hc⟩:=Au (hx i (by omega)).1 l;exact⟨b,o,rfl,e,by rw[hc,(d i c).1];rfl,(d i c).2⟩
theorem acx{fuel:Nat}{a:Value}{x:DataW H × List MemPlace}(h:DataW.trod enc prog w 0 spare held fuel 68 [a,c1,c2,c3]=some x):∃y:Bin,a = .bool y.front/\c1 = .int .i64 y.room/\c2 = .int .i64 y.low/\c3 = .int .i64 y.high:=by
 obtain⟨r,m,o,q,n,hx,p,f,e,c,g⟩:=trod_struct4 underlying68 h;simp only[Yl,vi,Qyq,Xqq,Qyx,Qyz] at f e c g;obtain⟨b,e0,_⟩:=DataW.trod_bool underlying4 f;obtain⟨k,i,_⟩:=DataW.trod_int underlying3 e;obtain⟨n2,d,_⟩:=DataW.trod_int underlying3 c;obtain⟨l,j,_⟩:=DataW.trod_int underlying3 g;simp only[List.cons.injEq,and_true] at e0 i d j;exact⟨⟨b,k,n2,l⟩,e0,i,d,j⟩
theorem I8{base:Nat}{a:Addr}(h:w.cells? base a 4=some xs):∃c0 c1 c2 c3,xs=[c0,c1,c2,c3]/\w.cell? a=some c0/\w.cell? (a.add 1)=some c1/\w.cell? (a.add 2)=some c2/\w.cell? (a.add 3)=some c3:=by
 obtain⟨_,b,hc⟩:=World.cells?_some h
 match xs,b with
 | [c0,c1,c2,c3],_ =>
  refine⟨c0,c1,c2,c3,rfl,?_,?_,?_,?_⟩
  .simpa[Addr.add] using hc 0 (by decide)
  .simpa using hc 1 (by decide)
  .simpa using hc 2 (by decide)
  simpa using hc 3 (by decide)
theorem abk{fuel:Nat}{x:DataW H × List MemPlace}(h:DataW.trod enc prog w 0 spare held fuel 22 xs=some x):∃a n c z,xs=[.slice a n c]/\n<=c/\c<=maxLen/\tu w a n z:=by
 rcases open_slice underlying22 h with⟨rfl,_⟩|⟨a,len,cap,m,n,D,Pl,rfl,B,s,q,l,_,hx⟩
 .exact⟨none,0,0,λ_=>⟨false,0,0,0⟩,rfl,Nat.le_refl _,Qxz _,λi hi=>absurd hi (Qzq _)⟩
 have u:len<=m:=by rw[l];split<;>omega
 rw[aay] at hx
 haveI:Inhabited Bin:=⟨⟨false,0,0,0⟩⟩
 obtain⟨z,k⟩:=choose_lt (α:=Bin) (n:=len) (p:=λi y=>w.cell? (a.add (i*4))=some (.bool y.front)/\w.cell? (a.add (i*4+1))=some (.int .i64 y.room)/\w.cell? (a.add (i*4+2))=some (.int .i64 y.low)/\w.cell? (a.add (i*4+3))=some (.int .i64 y.high)) (λi hi=>by
  obtain⟨v,hc,r⟩:=hx i (by omega);obtain⟨A,c1,c2,c3,rfl,g,f,e,d⟩:=I8 hc;obtain⟨y,rfl,rfl,rfl,rfl⟩:=acx r;rw[add_add] at f e d;exact⟨y,g,f,e,d⟩)
 refine⟨some a,len,cap,z,rfl,s,q,λi hi => ?_⟩;have t:∃v0,w.cell? a=some v0:=⟨_,by have:=(k 0 (by omega)).1;simpa[Addr.add] using this⟩;obtain⟨g,f,e,d⟩:=k i hi;obtain⟨b,o,rfl,j,e0⟩:=Au g t;rw[Go.WideShapes.add_plain] at f e d;exact⟨b,o,rfl,j,e0,by rw[Nat.add_assoc];exact f,by rw[Nat.add_assoc];exact e,by rw[Nat.add_assoc];exact d⟩
theorem Mc{r:Reach}{d:DataW H}{q:List MemPlace}(k:Value.okWide prog w r A 25 v)(h:DataW.Trod enc prog w 0 spare held 25 v d q):∃p:Pl,v=p.val/\p.At w:=by
 obtain⟨s,c1,u,t,m,rfl,rfl,rfl,f,g⟩:=open_agg2 underlying25 (by kernel_rfl) Yp k h;obtain⟨a,n,c,z,e0,l,j,o⟩:=abk f;obtain⟨b,i,e⟩:=Ek g;simp only[List.cons.injEq,and_true] at e0 i;subst e0 i;exact⟨⟨a,n,c,z,b.a,b.n,b.c,b.z⟩,rfl,l,j,o,e.le,e.cap,e.ints⟩
end
set_option maxRecDepth 100000
namespace HoldsFrames
variable{n b A g o l c i q j R L M:Nat}{w a d:World}{s x y u:St}{r W J D:Int}{e H:TypeId}{p:Pl}{z O:Nat->Hd}{f f':Nat->Value}{Q:Exit->Act->World->Prop}{v c1 c3 c2:Value}{xs:List Value}{U V:Hs}{X Y:Int->Int->Int}{P:Program}{h Z:Hd}{t:List UInt8}{E:Hd->Bool}{z' zs:Nat->Int}{S:World->Prop}{a1:Act}{K:Act->World->Prop}
theorem own:ownKnob prog.godebug=none:=by kernel_rfl
theorem yw:laidOutB prog=true:=by kernel_rfl
theorem vi:prog.cellsOf 3=1:=by kernel_rfl
theorem Ym:prog.cellsOf 61=4:=by kernel_rfl
section
variable {H:Type} {enc:TypeId × Value->H} {w:World} {held:Bool} {spare:Nat->Bool}
theorem Au{a:Addr}(h:w.cell? (a.add i)=some v)(c:∃e,w.cell? a=some e):∃b o,a=⟨b,o,none⟩/\b<w.heap.size/\w.cell? ⟨b,o+i,none⟩=some v:=by
 obtain⟨b,f,spot⟩:=a;obtain⟨e,c⟩:=c;have d:spot=none:=World.cell?_spot c;subst d;refine⟨b,f,rfl,World.block_lt_of_cell? w _ c,?_⟩;rw[<-Go.WideShapes.add_plain];exact h
theorem I8{base:Nat}{a:Addr}(h:w.cells? base a 4=some xs):∃c0 c1 c2 c3,xs=[c0,c1,c2,c3]/\w.cell? a=some c0/\w.cell? (a.add 1)=some c1/\w.cell? (a.add 2)=some c2/\w.cell? (a.add 3)=some c3:=by
 obtain⟨_,b,hc⟩:=World.cells?_some h
 match xs,b with
 | [c0,c1,c2,c3],_ =>
  refine⟨c0,c1,c2,c3,rfl,?_,?_,?_,?_⟩
  .simpa[Addr.add] using hc 0 (by decide)
  .simpa using hc 1 (by decide)
  .simpa using hc 2 (by decide)
  simpa using hc 3 (by decide)
theorem abl{fuel:Nat}{a:Value}{x:DataW H × List MemPlace}(h:DataW.trod enc prog w 0 spare held fuel 61 [a,c1,c2,c3]=some x):∃y:Hd,a = .int .i64 y.o/\c1 = .int .i64 y.l/\c2 = .int .i64 y.b/\c3 = .int .i64 y.n:=by
 obtain⟨t,p,q,s,n,hx,r,f,e,c,g⟩:=trod_struct4 underlying61 h;simp only[vi,Qyq,Xqq,Qyx,Qyz] at f e c g;obtain⟨n0,e0,_⟩:=DataW.trod_int underlying3 f;obtain⟨k,i,_⟩:=DataW.trod_int underlying3 e;obtain⟨n2,d,_⟩:=DataW.trod_int underlying3 c;obtain⟨m,j,_⟩:=DataW.trod_int underlying3 g;simp only[List.cons.injEq,and_true] at e0 i d j;exact⟨⟨n0,k,n2,m⟩,e0,i,d,j⟩
theorem readHolds{fuel:Nat}{x:DataW H × List MemPlace}(h:DataW.trod enc prog w 0 spare held fuel 28 xs=some x):∃s:Hs,xs=[s.val]/\s.At w:=by
 rcases open_slice underlying28 h with⟨rfl,_⟩|⟨a,len,cap,m,n,D,Pl,rfl,F,u,r,q,_,hx⟩
 .exact⟨⟨none,0,0,λ_=>⟨0,0,0,0⟩⟩,rfl,Nat.le_refl _,Qxz _,λi hi=>absurd hi (Qzq _),λ_=>rfl⟩
 have A:len<=m:=by rw[q];split<;>omega
 rw[Ym] at hx
 haveI:Inhabited Hd:=⟨⟨0,0,0,0⟩⟩
 obtain⟨z,k⟩:=choose_lt (α:=Hd) (n:=len) (p:=λi y=>w.cell? (a.add (i*4))=some (.int .i64 y.o)/\w.cell? (a.add (i*4+1))=some (.int .i64 y.l)/\w.cell? (a.add (i*4+2))=some (.int .i64 y.b)/\w.cell? (a.add (i*4+3))=some (.int .i64 y.n)) (λi hi=>by
  obtain⟨B,hc,t⟩:=hx i (by omega);obtain⟨E,c1,c2,c3,rfl,f,e,d,c⟩:=I8 hc;obtain⟨y,rfl,rfl,rfl,rfl⟩:=abl t;rw[add_add] at e d c;exact⟨y,f,e,d,c⟩)
 refine⟨⟨some a,len,cap,z⟩,rfl,u,r,λi hi => ?_,λh=>by cases h⟩;have j:i<len:=hi;have v:∃v0,w.cell? a=some v0:=⟨_,by have:=(k 0 (by omega)).1;simpa[Addr.add] using this⟩;obtain⟨f,e,d,c⟩:=k i j;obtain⟨b,o,rfl,g,e0⟩:=Au f v;rw[Go.WideShapes.add_plain] at e d c;exact⟨b,o,rfl,g,e0,by rw[Nat.add_assoc];exact e,by rw[Nat.add_assoc];exact d,by rw[Nat.add_assoc];exact c⟩
end
end HoldsFrames
set_option maxRecDepth 100000
theorem Yn:prog.cellsOf 59=4:=by kernel_rfl
theorem Yo:prog.cellsOf 63=4:=by kernel_rfl
theorem Vy:prog.cellsOf 57=2:=by kernel_rfl
theorem Vz:prog.cellsOf 31=7:=by kernel_rfl
theorem G6:prog.cellsOf 45=1:=by kernel_rfl
theorem Vx:prog.cellsOf 29=1:=by kernel_rfl
theorem T8:prog.cellsOf 27=1:=by kernel_rfl
theorem Vw:prog.cellsOf 28=1:=by kernel_rfl
theorem Yq:prog.cellsOf 26=1:=by kernel_rfl
section
variable {H:Type} {enc:TypeId × Value->H} {w:World} {held:Bool} {spare:Nat->Bool}
theorem abm{fuel:Nat}{a:Value}{x:DataW H × List MemPlace}(h:DataW.trod enc prog w 0 spare held fuel 59 [a,c1,c2,c3]=some x):∃y:Hd,a = .int .i64 y.o/\c1 = .int .i64 y.l/\c2 = .int .i64 y.b/\c3 = .int .i64 y.n:=by
 obtain⟨t,p,q,s,n,hx,r,f,e,c,g⟩:=trod_struct4 underlying59 h;simp only[vi,Qyq,Xqq,Qyx,Qyz] at f e c g;obtain⟨n0,e0,_⟩:=DataW.trod_int underlying3 f;obtain⟨k,i,_⟩:=DataW.trod_int underlying3 e;obtain⟨n2,d,_⟩:=DataW.trod_int underlying3 c;obtain⟨m,j,_⟩:=DataW.trod_int underlying3 g;simp only[List.cons.injEq,and_true] at e0 i d j;exact⟨⟨n0,k,n2,m⟩,e0,i,d,j⟩
theorem Jt{fuel:Nat}{x:DataW H × List MemPlace}(h:DataW.trod enc prog w 0 spare held fuel 45 xs=some x):∃s:Hs,xs=[s.val]/\s.At w:=by
 rcases open_slice underlying45 h with⟨rfl,_⟩|⟨a,len,cap,m,n,D,Pl,rfl,F,u,r,q,_,hx⟩
 .exact⟨⟨none,0,0,λ_=>⟨0,0,0,0⟩⟩,rfl,Nat.le_refl _,Qxz _,λi hi=>absurd hi (Qzq _),λ_=>rfl⟩
 have A:len<=m:=by rw[q];split<;>omega
 rw[Yn] at hx
 haveI:Inhabited Hd:=⟨⟨0,0,0,0⟩⟩
 obtain⟨z,k⟩:=choose_lt (α:=Hd) (n:=len) (p:=λi y=>w.cell? (a.add (i*4))=some (.int .i64 y.o)/\w.cell? (a.add (i*4+1))=some (.int .i64 y.l)/\w.cell? (a.add (i*4+2))=some (.int .i64 y.b)/\w.cell? (a.add (i*4+3))=some (.int .i64 y.n)) (λi hi=>by
  obtain⟨B,hc,t⟩:=hx i (by omega);obtain⟨E,c1,c2,c3,rfl,f,e,d,c⟩:=I8 hc;obtain⟨y,rfl,rfl,rfl,rfl⟩:=abm t;rw[add_add] at e d c;exact⟨y,f,e,d,c⟩)
 refine⟨⟨some a,len,cap,z⟩,rfl,u,r,λi hi => ?_,λh=>by cases h⟩;have j:i<len:=hi;have v:∃v0,w.cell? a=some v0:=⟨_,by have:=(k 0 (by omega)).1;simpa[Addr.add] using this⟩;obtain⟨f,e,d,c⟩:=k i j;obtain⟨b,o,rfl,g,e0⟩:=Au f v;rw[Go.WideShapes.add_plain] at e d c;exact⟨b,o,rfl,g,e0,by rw[Nat.add_assoc];exact e,by rw[Nat.add_assoc];exact d,by rw[Nat.add_assoc];exact c⟩
theorem abn{fuel:Nat}{a:Value}{x:DataW H × List MemPlace}(h:DataW.trod enc prog w 0 spare held fuel 63 [a,c1,c2,c3]=some x):∃y:Hd,a = .int .i64 y.o/\c1 = .int .i64 y.l/\c2 = .int .i64 y.b/\c3 = .int .i64 y.n:=by
 obtain⟨t,p,q,s,n,hx,r,f,e,c,g⟩:=trod_struct4 underlying63 h;simp only[vi,Qyq,Xqq,Qyx,Qyz] at f e c g;obtain⟨n0,e0,_⟩:=DataW.trod_int underlying3 f;obtain⟨k,i,_⟩:=DataW.trod_int underlying3 e;obtain⟨n2,d,_⟩:=DataW.trod_int underlying3 c;obtain⟨m,j,_⟩:=DataW.trod_int underlying3 g;simp only[List.cons.injEq,and_true] at e0 i d j;exact⟨⟨n0,k,n2,m⟩,e0,i,d,j⟩
theorem Zv{fuel:Nat}{x:DataW H × List MemPlace}(h:DataW.trod enc prog w 0 spare held fuel 29 xs=some x):∃s:Hs,xs=[s.val]/\s.At w:=by
 rcases open_slice underlying29 h with⟨rfl,_⟩|⟨a,len,cap,m,n,D,Pl,rfl,F,u,r,q,_,hx⟩
 .exact⟨⟨none,0,0,λ_=>⟨0,0,0,0⟩⟩,rfl,Nat.le_refl _,Qxz _,λi hi=>absurd hi (Qzq _),λ_=>rfl⟩
 have A:len<=m:=by rw[q];split<;>omega
 rw[Yo] at hx
 haveI:Inhabited Hd:=⟨⟨0,0,0,0⟩⟩
 obtain⟨z,k⟩:=choose_lt (α:=Hd) (n:=len) (p:=λi y=>w.cell? (a.add (i*4))=some (.int .i64 y.o)/\w.cell? (a.add (i*4+1))=some (.int .i64 y.l)/\w.cell? (a.add (i*4+2))=some (.int .i64 y.b)/\w.cell? (a.add (i*4+3))=some (.int .i64 y.n)) (λi hi=>by
  obtain⟨B,hc,t⟩:=hx i (by omega);obtain⟨E,c1,c2,c3,rfl,f,e,d,c⟩:=I8 hc;obtain⟨y,rfl,rfl,rfl,rfl⟩:=abn t;rw[add_add] at e d c;exact⟨y,f,e,d,c⟩)
 refine⟨⟨some a,len,cap,z⟩,rfl,u,r,λi hi => ?_,λh=>by cases h⟩;have j:i<len:=hi;have v:∃v0,w.cell? a=some v0:=⟨_,by have:=(k 0 (by omega)).1;simpa[Addr.add] using this⟩;obtain⟨f,e,d,c⟩:=k i j;obtain⟨b,o,rfl,g,e0⟩:=Au f v;rw[Go.WideShapes.add_plain] at e d c;exact⟨b,o,rfl,g,e0,by rw[Nat.add_assoc];exact e,by rw[Nat.add_assoc];exact d,by rw[Nat.add_assoc];exact c⟩
theorem adb{base:Nat}{a:Addr}(h:w.cells? base a 2=some xs):∃c0 c1,xs=[c0,c1]/\w.cell? a=some c0/\w.cell? (a.add 1)=some c1:=by
 obtain⟨_,b,hc⟩:=World.cells?_some h
 match xs,b with
 | [c0,c1],_ =>
  refine⟨c0,c1,rfl,?_,?_⟩
  .simpa[Addr.add] using hc 0 (by decide)
  simpa using hc 1 (by decide)
theorem Zw{fuel:Nat}{b:Value}{x:DataW H × List MemPlace}(h:DataW.trod enc prog w 0 spare held fuel 57 [b,c1]=some x):∃y:Od,b = .int .i64 y.k/\c1 = .slice y.ls.a y.ls.n y.ls.c/\y.ls.At w:=by
 obtain⟨j,g,n,hx,i,e,d⟩:=trod_struct2 underlying57 h;simp only[vi,G6,Qyq,Xqq,Qyx,Qyz] at e d;obtain⟨n0,e0,_⟩:=DataW.trod_int underlying3 e;obtain⟨s,f,hs⟩:=Jt d;simp only[List.cons.injEq,and_true] at e0 f;exact⟨⟨n0,s⟩,e0,f,hs⟩
theorem Xc{fuel:Nat}{x:DataW H × List MemPlace}(h:DataW.trod enc prog w 0 spare held fuel 27 xs=some x):∃s:Go.Proofs.YtbcacebifpagpagGreat.Os,xs=[s.val]/\s.At w:=by
 rcases open_slice underlying27 h with⟨rfl,_⟩|⟨a,len,cap,m,n,D,Pl,rfl,F,u,r,q,_,hx⟩
 .exact⟨⟨none,0,0,λ_=>⟨0,⟨none,0,0,λ_=>⟨0,0,0,0⟩⟩⟩⟩,rfl,Nat.le_refl _,Qxz _,λi hi=>absurd hi (Qzq _)⟩
 have A:len<=m:=by rw[q];split<;>omega
 rw[Vy] at hx
 haveI:Inhabited Od:=⟨⟨0,⟨none,0,0,λ_=>⟨0,0,0,0⟩⟩⟩⟩
 obtain⟨z,l⟩:=choose_lt (α:=Od) (n:=len) (p:=λi y=>w.cell? (a.add (i*2))=some (.int .i64 y.k)/\w.cell? (a.add (i*2+1))=some (.slice y.ls.a y.ls.n y.ls.c)/\y.ls.At w) (λi hi=>by
  obtain⟨B,hc,t⟩:=hx i (by omega);obtain⟨E,c1,rfl,f,d⟩:=adb hc;obtain⟨y,rfl,rfl,e⟩:=Zw t;rw[add_add] at d;exact⟨y,f,d,e⟩)
 refine⟨⟨some a,len,cap,z⟩,rfl,u,r,λi hi => ?_⟩;have j:i<len:=hi;have v:∃v0,w.cell? a=some v0:=⟨_,by have:=(l 0 (by omega)).1;simpa[Addr.add] using this⟩;obtain⟨f,d,e⟩:=l i j;obtain⟨b,o,rfl,g,e0⟩:=Au f v;rw[Go.WideShapes.add_plain] at d;exact⟨b,o,rfl,g,e0,by rw[Nat.add_assoc];exact d,e⟩
theorem ac8{α:Type}{cs:Array α}(h:cs.size=7):∃c0 c1 c2 c3 c4 c5 c6,cs=#[c0,c1,c2,c3,c4,c5,c6]:=by
 obtain⟨l⟩:=cs
 match l,h with
 | [c0,c1,c2,c3,c4,c5,c6],_=>exact⟨c0,c1,c2,c3,c4,c5,c6,rfl⟩
theorem Zq{r:Reach}{d:DataW H}{x:List MemPlace}(D:Value.okWide prog w r R 31 v)(h:DataW.Trod enc prog w 0 spare held 31 v d x):∃s:St,v=s.val/\s.At w:=by
 obtain⟨cs,rfl,o⟩:=okWide_struct underlying31 D;obtain⟨K,c1,c2,c3,c4,c5,c6,rfl⟩:=ac8 (o.trans Vz);obtain⟨fuel,J⟩:=h;obtain⟨xs,n,_,hx,L,b,a⟩:=DataW.trod_struct underlying31 J
 match xs,b with
 | [y0,y1,y2,y3,y4,y5,y6],_ =>
  have p:=a 0 _ rfl;have i:=a 1 _ rfl;have g:=a 2 _ rfl;have f:=a 3 _ rfl;have m:=a 4 _ rfl;have t:=a 5 _ rfl;have e:=a 6 _ rfl;simp[Yq,T8,Vw,Vx,Pv,Value.cells] at p i g f m t e;obtain⟨on,e0,E⟩:=abo p;obtain⟨os,q,z⟩:=Xc i;obtain⟨hs,c,y⟩:=HoldsFrames.readHolds g;obtain⟨ms,u,A⟩:=Zv f;obtain⟨si,l,G⟩:=Ek m;obtain⟨so,k,B⟩:=Ek t;obtain⟨sf,j,F⟩:=Ek e;simp only[List.cons.injEq,and_true] at e0 q c u l k j;subst e0 q c u l k j;exact⟨⟨on,os,hs,ms,si,so,sf⟩,rfl,E,z,y,A,G,B,F⟩
end
set_option maxRecDepth 100000
theorem R6:prog.cellsOf 47=6:=by kernel_rfl
section
variable {H:Type} {enc:TypeId × Value->H} {w:World} {held:Bool} {spare:Nat->Bool}
theorem ac7{α:Type}{cs:Array α}(h:cs.size=6):∃c0 c1 c2 c3 c4 c5,cs=#[c0,c1,c2,c3,c4,c5]:=by
 obtain⟨l⟩:=cs
 match l,h with
 | [c0,c1,c2,c3,c4,c5],_=>exact⟨c0,c1,c2,c3,c4,c5,rfl⟩
theorem acs{r:Reach}{d:DataW H}{s:List MemPlace}(y:Value.okWide prog w r R 47 v)(h:DataW.Trod enc prog w 0 spare held 47 v d s):∃x:Ax,v=x.val/\x.ls.At w:=by
 obtain⟨cs,rfl,l⟩:=okWide_struct underlying47 y;obtain⟨D,c1,c2,c3,c4,c5,rfl⟩:=ac7 (l.trans R6);obtain⟨fuel,A⟩:=h;obtain⟨xs,n,_,hx,E,b,a⟩:=DataW.trod_struct underlying47 A
 match xs,b with
 | [y0,y1,y2,y3,y4,y5],_ =>
  have m:=a 0 _ rfl;have g:=a 1 _ rfl;have f:=a 2 _ rfl;have e:=a 3 _ rfl;have k:=a 4 _ rfl;have p:=a 5 _ rfl;simp[vi,G6,Value.cells] at m g f e k p;obtain⟨n0,e0,_⟩:=DataW.trod_int underlying3 m;obtain⟨u,o,_⟩:=DataW.trod_int underlying3 g;obtain⟨n2,c,_⟩:=DataW.trod_int underlying3 f;obtain⟨B,q,_⟩:=DataW.trod_int underlying3 e;obtain⟨z,j,_⟩:=DataW.trod_int underlying3 k;obtain⟨ls,i,t⟩:=Jt p;simp only[List.cons.injEq,and_true] at e0 o c q j i;subst e0 o c q j i;exact⟨⟨n0,u,n2,B,z,ls⟩,rfl,t⟩
end
end Go.Proofs.YtbcacebifpagpagGreat

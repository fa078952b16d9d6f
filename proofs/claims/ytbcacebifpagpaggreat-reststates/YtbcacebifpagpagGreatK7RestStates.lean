/- Texts that were built one behind the other, joined; what RestStates does not reach is left out. -/
import Derived.Test.YtbcacebifpagpagGreatK6RestStates
import Derived.Test.YtbcacebifpagpagGreatRows
import Derived.ProofKit
import Derived.OpenShut
import Derived.Lib.SmallJoins
import Derived.Deep.Slices
set_option maxHeartbeats 8000000
set_option maxRecDepth 100000
set_option linter.unusedVariables false
namespace Go.Proofs.YtbcacebifpagpagGreat
open Go.RowKit Go.Shelf Go.Sort
theorem M9(p:Pl)(s:St)(k n:Int)(w:World)(hp:p.At w)(hs:s.At w):
  Calls Tryz.prog 59 #[p.val,s.val,.int .i64 k,.int .i64 n] w λe w'=>∃x:St,e = .returned (.tuple #[x.val,.int .i64 (fk p s k n)])/\x.At w'/\du (fk p s k n) (jd s k.toNat n) x/\(fk p s k n=0->ai w.heap.size w' x)/\Below w.heap.size w w':=by
 obtain⟨W0,hW,il,X0,Z0⟩:=Ab w p s;have HC:=yu hp hs il X0 Z0;have HW:=hid hW;have leb:=hp.leb;have b0:=hp.capb;have les:=hp.les;have b9:=hp.caps;have capb:=b0;have caps:=b9;have io:=Z0.lt;unfold maxLen at capb caps;have ff:=hs.ms.le;have b4:=hs.ms.cap;have di:s.ms.n<=maxLen:=Qzx ff b4;have ea:=b4;have eg:=di;unfold maxLen at ea eg;clear hW X0 Z0 hp hs;unfold Pl.val St.val;go_enter Tryz.func59,Tryz.ntmps59;go_wp2_with fail;rw[HW.out];obtain⟨X,T,D,y,L⟩:=HC.out W0 brf;refine(kf p s W0 T D).mono ?_;rintro e w1 ⟨rfl,hB⟩;clear X T D y L HW;obtain⟨⟨⟨l1,d0,d1⟩,l2,c0,c1,c2,c3,c4,c5,c6⟩,T,D,y,L⟩:=HC.out w1 hB;by_cases h0:ag p s=0;rotate_left
 .have HX:Hid (fk p s k n=ag p s):=vx h0;have ie:Hid (¬fk p s k n=0):=by show ¬_;rw[vx h0];exact h0
  have g0:(ag p s !=0)=true:=by simpa using h0
  clear h0;clear T D;obtain⟨zl,cb,cf,ca,zc1,cv,zc2,an,zc3,cq,zc4,c7,zc5,ci,cc⟩:=z7 L;go_wp2_with fail;exact gz Tryz.results59 L y (by omega) HX.out (λh=>ie.out (HX.out.trans h)) rfl rfl rfl
 have H0:=hid h0;have HR:Hid (au p s):=ed h0;rw[h0];clear h0;cases h1:inB k 0 ((s.ms.n:Int)-1)
 .have HX:Hid (fk p s k n=4):=Eh H0.out h1;clear T D;obtain⟨zl,cb,cf,ca,zc1,cv,zc2,an,zc3,cq,zc4,c7,zc5,ci,cc⟩:=z7 L;go_wp2_with(go_at_call 23;refine ah (ce _ _ _ _) ?_);exact gz Tryz.results59 L y (by omega) HX.out (by decide) rfl rfl rfl
 obtain⟨i,rfl⟩:∃i:Nat,k=i:=⟨k.toNat,by have:=aq h1;omega⟩;have hi:i<s.ms.n:=by have:=aq h1;omega
 have bp:=qn (HR.out.fm.move i hi);obtain⟨f,b,g,N,hm⟩:∃(f b g:Nat) (N:Int),s.ms.z i=⟨g,f,b,N⟩:=⟨(s.ms.z i).l.toNat,(s.ms.z i).b.toNat,(s.ms.z i).o.toNat,(s.ms.z i).n,by rw[Int.toNat_of_nonneg bp.1.1,Int.toNat_of_nonneg bp.2.1.1,Int.toNat_of_nonneg bp.2.2.1.1]⟩;have HM:=hid hm;rw[hm] at bp;dsimp only at bp;obtain⟨u1,u2,u3,u4,u5,u6⟩:=bp;have al:g<p.ns:=by omega
 have a0:f<p.nb:=by omega
 have bl:b<p.nb:=by omega
 have ds:¬f=b:=by omega
 have H1:=hid h1;obtain⟨bm,om,em,ia,y0,y1,y2,y3⟩:=D.ms.hds i hi;rw[hm] at y0 y1 y2 y3;dsimp only at y0 y1 y2 y3;have cl:=hid em;rw[em] at c3;obtain⟨W2,f8,e0,K2⟩:∃W,w1.alloc (.cells #[.int .i64 (g:Int),.int .i64 (f:Int),.int .i64 (b:Int),.int .i64 N] 63)=W/\Below w1.heap.size w1 W/\Blk W w1.heap.size 63 4 (λj=>(#[.int .i64 (g:Int),.int .i64 (f:Int),.int .i64 (b:Int),.int .i64 N]:Array Value).getD j default):=⟨_,rfl,brf.alloc nlr _,Blk.mk' rfl rfl⟩;have f5:Hid (w1.alloc (.cells #[.int .i64 (g:Int),.int .i64 (f:Int),.int .i64 (b:Int),.int .i64 N] 63)=W2):=f8;have dq:=hB.trans (e0.mono hB.size);have J:=hid K2;have q0:(0:Int)<=(i:Int):=by omega
 have q1:(i:Int)<(s.ms.n:Int):=by omega
 have A1:W0.heap.size<=w1.heap.size:=hB.size;clear T D y L em f8 K2 hm;go_wp2_with fail;refine ah (ce _ _ _ _) ?_;go_wp2_with fail;rw[f5.out];refine ah (ce _ _ _ _) ?_;clear l1 d0 d1 l2 c0 c1 c2 c3 c4 c5 c6 ia y0 y1 y2 y3 f5 e0 hB h1
 generalize w1.heap.size=BM at *
 obtain⟨⟨⟨l1,d0,d1⟩,l2,c0,c1,c2,c3,c4,c5,c6⟩,T,D,y,L⟩:=HC.out W2 dq;rw[cl.out] at c3;cases h2:inB n 0 N
 .have HX:Hid (fk p s i n=3):=C9 H0.out H1.out (by rw[Int.toNat_natCast,HM.out];exact h2);clear T D;obtain⟨zl,cb,cf,ca,zc1,cv,zc2,an,zc3,cq,zc4,c7,zc5,ci,cc⟩:=z7 L;go_wp2_with fail;exact gz Tryz.results59 L y (by omega) HX.out (by decide) rfl rfl rfl
 have nn:=aq h2;have H2:Hid (inB n 0 (s.ms.z (i:Int).toNat).n=true):=by show inB n 0 (s.ms.z (i:Int).toNat).n=true;rw[Int.toNat_natCast,HM.out];exact h2
 have bn:b<s.on.n:=by rw[HR.out.fm.sh.n];exact bl
 have rn:=HR.out.fm.sh.len b bn;have fh:Hid ((s.on.r (s.ms.z (i:Int).toNat).b.toNat).z (s.ms.z (i:Int).toNat).o.toNat=(s.on.r b).z g):=by show _=_;rw[Int.toNat_natCast,HM.out];simp only[Int.toNat_natCast]
 obtain⟨bo,oo,gd,im,z0,b7⟩:=D.on.rows b bn;obtain⟨br,iw,ge,hw,z1⟩:=b7.ints g (by omega);have v1:=b7.le;have v2:=b7.cap;have v3:=D.on.le;have v4:=D.on.cap;unfold maxLen at v2 v4;have zb:=HR.out.fm.sh.num b bn g al;have m0:W2.cell? ⟨BM,0,none⟩=some (.int .i64 g):=J.out.k 0;have m2:W2.cell? ⟨BM,2,none⟩=some (.int .i64 b):=J.out.k 2;have ml:=J.out.lt;have q2:(0:Int)<=(b:Int):=by omega
 have q3:(b:Int)<(s.on.n:Int):=by omega
 have q4:(0:Int)<=(g:Int):=by omega
 have q5:(g:Int)<((s.on.r b).n:Int):=by omega
 rw[gd] at c0;rw[ge] at z0;have hy:=Qqq c0;have ic:=Qqq z0;have hf:=Qqq z1;have cm:=Qqq m0;have g9:=Qqq m2
 generalize hZB:(s.on.r b).z g=ZB at *
 clear gd ge b7 c1 c2 c3 c4 c5 c6 d0 d1 m0 m2 z0 z1 c0;go_wp2_with fail;refine Qxq (by kernel_rfl) (by kernel_rfl) ?_
 repeat(go_big_quiet_step(fail))
 refine Qqz ?_;intro w3 f9;have da:=af f9;have J:=hid (J.out.below da);have dr:=dq.trans (da.mono dq.size);clear hy ic hf cm g9 f9 im hw ml T D y L l1 l2 da dq v1 v2 v3 v4;obtain⟨⟨⟨l1,d0,d1⟩,l2,c0,c1,c2,c3,c4,c5,c6⟩,T,D,y,L⟩:=HC.out w3 dr;by_cases h3:200<ZB+n
 .have HX:Hid (fk p s i n=2):=Eg H0.out H1.out H2.out (by rw[fh.out];exact h3);have f6:200-ZB<n:=by omega
  clear T D;obtain⟨zl,cb,cf,ca,zc1,cv,zc2,an,zc3,cq,zc4,c7,zc5,ci,cc⟩:=z7 L;go_wp2_with fail;exact gz Tryz.results59 L y (by omega) HX.out (by decide) rfl rfl rfl
 have HX:Hid (fk p s i n=0):=O7 H0.out H1.out H2.out (by rw[fh.out];exact h3);have HI:Hid (o9 p s i f b g N n):=⟨HR.out,hi,HM.out,a0,bl,al,ds,nn.1,nn.2,u5,u6,by rw[hZB];omega⟩;have f6:¬200-ZB<n:=by omega
 have e4:=hid y.size;have f7:Hid (Calls Tryz.prog 20 #[s.val] w3 λe w'=>∃s':St,e = .returned s'.val/\ae s' s/\ai w3.heap.size w' s'/\Below w3.heap.size w3 w'):=ny p s w3 D HR.out.fm;have iv:=hid y;clear T D y L h3 fh;go_wp2_with fail;refine Calls.mono f7.out ?_;rintro e w4 ⟨H,rfl,M,ac,dt⟩;clear f7 l1 d0 d1 l2 c0 c1 c2 c3 c4 c5 c6 h2 f6;have gc:=hid M;have iu:i<H.ms.n:=by rw[M.ms.1];exact hi
 have cj:f<H.on.n:=by rw[M.on.1,HR.out.fm.sh.n];exact a0
 have ek:b<H.on.n:=by rw[M.on.1,HR.out.fm.sh.n];exact bl
 have dc:g<(H.on.r f).n:=by rw[(M.on.2 f cj).1,HR.out.fm.sh.len f (by rw[HR.out.fm.sh.n];exact a0)];exact al
 have e3:g<(H.on.r b).n:=by rw[(M.on.2 b ek).1,HR.out.fm.sh.len b bn];exact al
 have vf:0<=(H.on.r f).z g/\(H.on.r f).z g<=200:=by rw[M.num HR.out.fm a0 al];exact HR.out.fm.sh.num f (by rw[HR.out.fm.sh.n];exact a0) g al
 have vb:0<=(H.on.r b).z g/\(H.on.r b).z g<=200:=by rw[M.num HR.out.fm bl al,hZB];exact zb
 obtain⟨W5,f3,dh,K5⟩:=ab7 w4 H;have en:=hid f3;have bz:=dt.trans (dh.mono dt.size);have A2:W0.heap.size<=w3.heap.size:=dr.size;have A3:w3.heap.size<=w4.heap.size:=dt.size;have bq:Hid (de w3.heap.size w4.heap.size W0 H W5):=⟨ai.below ac dh,K5,dr.trans (bz.mono dr.size),by have:=bz.size;omega⟩;have gx:BM<w3.heap.size:=J.out.lt;have J:=hid (J.out.below bz);clear f3 ac K5 dt dh bz M zb;obtain⟨m1,p0,p1,p2,p3,p4,p5,p6⟩:=Boxed.of bq.out.box;rw[<-en.out] at m1 p0 p1 p2 p3 p4 p5 p6;simp only[St.val];go_wp2_with fail;rw[en.out];clear m1 p0 p1 p2 p3 p4 p5 p6 en
 generalize w4.heap.size=B7 at *
 have wf:=vf;have wb:=vb;clear vf vb;obtain⟨g0,G,a1,a2,a3,a4,a5,a6,a7,a8,a9,et,e5,cg⟩:=bq.out.own.onCell cj dc;have u0:W5.cell? ⟨B7,0,none⟩=some (.slice H.on.a H.on.n H.on.c):=bq.out.box.k 0;have fa:=bq.out.box.lt;rw[a1] at u0;unfold maxLen at a8 cg;have m0:W5.cell? ⟨BM,0,none⟩=some (.int .i64 g):=J.out.k 0;have m1:W5.cell? ⟨BM,1,none⟩=some (.int .i64 f):=J.out.k 1;have ml:=J.out.lt;have r0:(0:Int)<=(f:Int):=by omega
 have r1:(f:Int)<(H.on.n:Int):=by omega
 have r2:(0:Int)<=(g:Int):=by omega
 have r3:(g:Int)<((H.on.r f).n:Int):=by omega
 have el:=Qqq u0;have d9:=Qqq a3;have fg:=Qqq a9;have cm:=Qqq m0;have fb:=Qqq m1;clear u0 a1 a3 a9 m0 m1;refine i9 [(true,[0,1,2,3,4,5,6,7,8,9,10,11,12,13,14,15,16,17,18,19,20],some 21)] ?_;refine⟨λw'=>∃p:Regrown,w'=grow (redrawn W5 p.d) p.os,Qqx (brf.drew),λh=>(by cases h),?_⟩;simp only[dv,Qyq,Xqq,Qyx,Qyz,Xqz,Xqx]
 repeat(go_big_quiet_step(fail))
 refine Qqz ?_;clear el d9 fg cm fb fa ml a2 a6 et;have ba:Below W5.heap.size W5 W5.drew:=brf.drew
 generalize W5.drew=wj at *
 have be:=hid (bq.out.below ba);have ch:=hid (J.out.below ba);have gB:=(be.out.own.rowBlk cj a4).2;have b1:=gB.lt;have b2:=gB.frozen g;have b3:=gB.cell dc;have cz:Hid (de w3.heap.size B7 W0 (setOn H f g ((H.on.r f).z g-n)) (wj.setCell ⟨G,g,none⟩ (.int .i64 ((H.on.r f).z g-n)))):=be.out.setOn A2 cj a4 g _;have J:Hid (Blk (wj.setCell ⟨G,g,none⟩ (.int .i64 ((H.on.r f).z g-n))) BM 63 4 (λj=>(#[.int .i64 (g:Int),.int .i64 (f:Int),.int .i64 (b:Int),.int .i64 N]:Array Value).getD j default)):=ch.out.other (a:=⟨G,g,none⟩) (Blk.ne2 ch.out gB (by decide)) _;clear ba gB bq be ch a4 a5 a7 a8 e5 cg;refine kq 21 rfl ?_;go_wp2_with fail;refine NoPanic.normal ?_;clear b1 b2 b3 r0 r1 r2 r3
 generalize wj.setCell ⟨G,g,none⟩ (.int .i64 ((H.on.r f).z g-n))=W6 at *
 go_wp2_with fail
 generalize hx2:setOn H f g ((H.on.r f).z g-n)=x2 at *
 have dy:=hid hx2;have dw:b<x2.on.n:=by rw[<-hx2];exact ek
 have dk:g<(x2.on.r b).n:=by rw[<-hx2,rd];exact e3
 have eu:Hid ((x2.on.r b).z g=(H.on.r b).z g):=by show(x2.on.r b).z g=_;rw[<-hx2,Bo,if_neg (λe=>ds e.1.symm)]
 have hr:0<=(x2.on.r b).z g/\(x2.on.r b).z g<=200:=by rw[eu.out];exact wb
 clear hx2;obtain⟨g0,G,a1,a2,a3,a4,a5,a6,a7,a8,a9,et,e5,cg⟩:=cz.out.own.onCell dw dk;have u0:W6.cell? ⟨B7,0,none⟩=some (.slice x2.on.a x2.on.n x2.on.c):=cz.out.box.k 0;have fa:=cz.out.box.lt;rw[a1] at u0;unfold maxLen at a8 cg;have m0:W6.cell? ⟨BM,0,none⟩=some (.int .i64 g):=J.out.k 0;have m1:W6.cell? ⟨BM,2,none⟩=some (.int .i64 b):=J.out.k 2;have ml:=J.out.lt;have r0:(0:Int)<=(b:Int):=by omega
 have r1:(b:Int)<(x2.on.n:Int):=by omega
 have r2:(0:Int)<=(g:Int):=by omega
 have r3:(g:Int)<((x2.on.r b).n:Int):=by omega
 have el:=Qqq u0;have d9:=Qqq a3;have fg:=Qqq a9;have cm:=Qqq m0;have fb:=Qqq m1;clear u0 a1 a3 a9 m0 m1;refine i9 [(true,[0,1,2,3,4,5,6,7,8,9,10,11,12,13,14,15,16,17,18,19,20],some 21)] ?_;refine⟨λw'=>∃p:Regrown,w'=grow (redrawn W6 p.d) p.os,Qqx (brf.drew),λh=>(by cases h),?_⟩;simp only[dv,Qyq,Xqq,Qyx,Qyz,Xqz,Xqx]
 repeat(go_big_quiet_step(fail))
 refine Qqz ?_;clear el d9 fg cm fb fa ml a2 a6 et;have ba:Below W6.heap.size W6 W6.drew:=brf.drew
 generalize W6.drew=wj at *
 have be:=hid (cz.out.below ba);have ch:=hid (J.out.below ba);have gB:=(be.out.own.rowBlk dw a4).2;have b1:=gB.lt;have b2:=gB.frozen g;have b3:=gB.cell dk;have Q:Hid (de w3.heap.size B7 W0 (setOn x2 b g ((x2.on.r b).z g+n)) (wj.setCell ⟨G,g,none⟩ (.int .i64 ((x2.on.r b).z g+n)))):=be.out.setOn A2 dw a4 g _;clear ba gB cz be ch a4 a5 a7 a8 e5 cg;refine kq 21 rfl ?_;go_wp2_with fail;refine NoPanic.normal ?_;clear b1 b2 b3 r0 r1 r2 r3
 generalize wj.setCell ⟨G,g,none⟩ (.int .i64 ((x2.on.r b).z g+n))=A at *
 go_wp2_with fail
 generalize hx3:setOn x2 b g ((x2.on.r b).z g+n)=x3 at *
 have d2:=hid hx3;clear hx3;obtain⟨iM,hM,dp,dz,dx⟩:=info_parts C6;obtain⟨⟨⟨l1,d0,d1⟩,l2,c0,c1,c2,c3,c4,c5,c6⟩,T,D,y,L⟩:=HC.out A Q.out.bel;have eb:=hid D.ms;have ms8:=HR.out.fm.ms8;rw[cl.out] at c3;have ga:=Qqq c3;clear T D y L c0 c1 c2 c4 c5 c6 d0 d1 c3 cj ek dc e3 wf wb dw dk hr gx;by_cases f2:s.ms.c=i+1;rotate_left
 .refine jt (λw'=>∃p:Regrown,w'=grow (redrawn A p.d) p.os) [1,2,3,4,6,7,8,9,10] [0] [(false,5),(false,11),(false,12),(true,13)] (Qqx (brf.drew)) ?_;simp only[dv,Qyq,Xqq,Qyx,Qyz,Xqz,Xqx]
  repeat(go_big_quiet_step(fail))
  refine Qqz ?_;clear ga;refine⟨λj v g S=>∃B,v = .slice (some ⟨B,0,none⟩) 0 0/\g=[B]/\A.heap.size<=B/\S.heap[B]?=some (.cells #[] 63 (0,0)),
   Qjx ⟨λv g w w' hB h=>⟨h.choose,h.choose_spec.1,h.choose_spec.2.1,h.choose_spec.2.2.1,(hB.block _ (Qkq h.choose_spec.2.2.2).1).trans h.choose_spec.2.2.2⟩,Qjq _⟩,
   Qjx ⟨λv g w h=>by obtain⟨B,-,h2,-,h4⟩:=h;rw[h2];intro x hx;rw[List.mem_singleton] at hx;rw[hx];exact(Qkq h4).1,Qjq _⟩,
   Qjx ⟨?zt0,Qjq _⟩,?ztdone⟩
  case zt0 =>
   intro V G S K hS hd hK;have U:=af hS;refine ay 0 rfl ?_;simp only[am,bu,Qvz,Qvx,Act.put,Qvq,Qwx,Qwz] at hK ⊢;go_wp2_with fail;exact hK _ [S.heap.size] _ (Qqx (U.alloc U.size _)) (brf.alloc nlr _) (λx hx=>by rw[List.mem_singleton] at hx;omega) ⟨S.heap.size,rfl,rfl,U.size,heap_alloc_new S _⟩
  case ztdone =>
   intro V G' S hS hD hA;obtain⟨BV,eh,ew,bd,cd⟩:∃B,V 0 = .slice (some ⟨B,0,none⟩) 0 0/\G' 0=[B]/\A.heap.size<=B/\S.heap[B]?=some (.cells #[] 63 (0,0)):=hD 0 (by simp);have U:=af hS;clear hS hD hA ew;simp only[am,bu,Qvz,Qvx,Act.put,Qvq,Qwx,Qwz,eh];have ac:S.ownsRow A.heap.size 63 4 (.slice (some ⟨BV,0,none⟩) 0 0) 0 []:=⟨rfl,Or.inr ⟨BV,0,#[],rfl,bd,cd,Nat.le_refl _,Qxz _,rfl,rfl⟩⟩;have cx:Hid (jb S (some ⟨bm,om,none⟩) s.ms.n s.ms.z/\Below A.heap.size A S):=⟨by have h:=(eb.out.below U).hds;rw[cl.out] at h;exact h,U⟩;refine dj 5 rfl ?_;refine wpList_append_own S rfl (.tmp 97) (.tmp 101) 29 rfl A.heap.size 63 iM (.agg #[.int .i64 0,.int .i64 0,.int .i64 0,.int .i64 0]) 4 32 Tryz.underlying29 hM dp dz dx rfl (by decide) _ 0 [] rfl ac ⟨bm,om,none⟩ i _ (ax i s.ms.z) rfl (ep _ _) (λj u hj=>by
    rw[vo];have h:=cx.out.1.flat (q:=0) (m:=i) (by omega) (j:=j) (u:=u) (by simpa using hj)
    simpa using h) (ma _ _) (by unfold maxLen;omega) (by omega) U.size ?_
   intro v1 aw r1 r2 _;have c8:Below A.heap.size A aw:=U.grown r2 U.size (λk e=>by cases e;exact bd);have Y:=hid c8;have az:Hid (aw.ownsRow A.heap.size 63 4 v1 i (ax i s.ms.z)):=by have h:=r1;rw[Nat.zero_add,Xqx] at h;exact h
   clear U r1 r2 ac cd bd cx c8;simp only[Act.put,Qvq,Qwx,Qwz];refine(?_:wpList _ _ _ [] _ _);go_wp2_with fail;refine⟨jp.no (Qqx Y.out),?_⟩;refine dj 11 rfl ?_;have gb:Hid (jb aw (some ⟨bm,om,none⟩) s.ms.n s.ms.z):=by have h:=(eb.out.below Y.out).hds;rw[cl.out] at h;exact h
   refine wpList_append_own aw rfl (.tmp 102) (.tmp 107) 29 rfl A.heap.size 63 iM (.agg #[.int .i64 0,.int .i64 0,.int .i64 0,.int .i64 0]) 4 32 Tryz.underlying29 hM dp dz dx rfl (by decide) v1 i (ax i s.ms.z) rfl az.out ⟨bm,om+(i+1)*4,none⟩ (s.ms.n-(i+1)) _ (ax (s.ms.n-(i+1)) (λj=>s.ms.z (i+1+j))) rfl (ep _ _) (λj u hj=>by rw[vo];exact gb.out.flat (q:=i+1) (m:=s.ms.n-(i+1)) (by omega) hj) (ma _ _) (by unfold maxLen;omega) (by omega) Y.out.size ?_;intro v2 P r3 r4 _;have co:Below A.heap.size A P:=Y.out.grown r4 Y.out.size (λk e=>Cj az.out e);have bc:P.ownsRow A.heap.size 63 4 v2 (s.ms.n-1) (ax (s.ms.n-1) (fp s.ms.z i)):=by
    rw[tw s.ms.n s.ms.z i hi];have ck:=r3;rw[show i+(s.ms.n-(i+1))=s.ms.n-1 by omega] at ck;exact ck
   obtain⟨t,rfl,bb,kn,kz⟩:=cy.ofRow bc nlr;have cr:Hid (fo A.heap.size P 63 4 t.a t.c):=fo.ofOwns (a:=t.a) (n:=t.n) (c:=t.c) bc nlr;have ak:=qa3 bb kn kz;have E:=hid co;clear r3 r4 co bc bb kn kz az Y gb;simp only[Act.put,Qvq,Qwx,Qwz,Hs.val];refine(?_:wpList _ _ _ [] _ _);go_wp2_with fail;refine⟨jp.no (Qqx E.out),?_⟩;refine dj 12 rfl ?_;have F:=Q.out.box.below E.out;have zl:=F.lt;have an:=F.frozen 3;have zc3:=F.k 3;go_wp2_with fail;refine⟨jp.no (Qqx E.out),?_⟩;refine dj 13 rfl ?_;go_wp2_with fail;refine⟨jp.yes,?_⟩;clear zl an zc3;have ej:Hid (Blk (P.setCell ⟨B7,3,none⟩ (.slice t.a t.n t.c)) B7 31 7 (λj=>(withMoves x3 t).cells.getD j default)):=(F.set 3 _).congr λj hj=>by match j,hj with|0,_=>rfl|1,_=>rfl|2,_=>rfl|3,_=>rfl|4,_=>rfl|5,_=>rfl|6,_=>rfl
   have e7:Hid (Below W0.heap.size W0 (P.setCell ⟨B7,3,none⟩ (.slice t.a t.n t.c))):=(Q.out.bel.trans (E.out.mono Q.out.bel.size)).setCell (p:=⟨B7,3,none⟩) (by show W0.heap.size<=B7;omega) _;have ey:Hid (ai w3.heap.size (P.setCell ⟨B7,3,none⟩ (.slice t.a t.n t.c)) (withMoves x3 t)):=((ai.below Q.out.own E.out).withM (ak.out.1.mono Q.out.le) (cr.out.mono Q.out.le)).box F 3 (.slice t.a t.n t.c);have fd:Hid (ae (withMoves x3 t) (jd s i n)):=by
    have h:=Bh HI.out gc.out (q:=t) ak.out.2.1 (λj hj=>by rw[ak.out.2.2];rfl);have e:tt H t f b g n=withMoves x3 t:=by
     unfold tt;rw[<-d2.out,eu.out,<-dy.out]
     rfl
    rw[e] at h;exact h
   clear F Q E ak d2 dy cr
   generalize P.setCell ⟨B7,3,none⟩ (.slice t.a t.n t.c)=W9 at *
   generalize withMoves x3 t=x4 at *
   refine NoPanic.normal ?_;obtain⟨m1,p0,p1,p2,p3,p4,p5,p6⟩:=Boxed.of ej.out;obtain⟨-,-,-,y,L⟩:=HC.out W9 e7.out;have HZ:=qa2 y L;obtain⟨zl,cb,cf,ca,zc1,cv,zc2,an,zc3,cq,zc4,c7,zc5,ci,cc⟩:=z7 L;have gw:=(HC.out _ brf).2.2.2.1.size;clear y L u1 u2 u3 u4 u5 u6 q0 q1 q2 q3 q4 q5 rn hZB hi bn nn al a0 bl ds ff b4 di ea eg leb b0 les b9 capb caps;go_wp2_with fail;have KZ:=s7b HZ.out.2 x4;have c9:=s7w (b:=w.heap.size+2) HZ.out.1 (by omega) x4;have bf:=s7o ey.out HZ.out.2 x4;unfold set7 at KZ c9 bf;obtain⟨er,eq,eo,ei,es,fi,fe⟩:=cn KZ;refine Xzq (v := .tuple #[x4.val,.int .i64 0]) (by simp[results,Tryz.results59,go_sem,St.val,er,eq,eo,ei,es,fi,fe]) rfl ?_;exact⟨x4,by rw[HX.out];rfl,bf.at,⟨λ_=>fd.out,λh=>absurd HX.out h⟩,λ_=>bf.mono e4.out,c9⟩
 refine jt (λw'=>∃p:Regrown,w'=grow (redrawn A p.d) p.os) [1,2,3,4,6,7,8,9,10] [0] [(false,5),(false,11),(false,12),(true,13)] (Qqx (brf.drew)) ?_;simp only[dv,Qyq,Xqq,Qyx,Qyz,Xqz,Xqx]
 repeat(go_big_quiet_step(fail))
 refine Qqz ?_;clear ga;have f4:=hid f2;clear f2;refine⟨λj v g S=>∃B,v = .slice (some ⟨B,0,none⟩) 0 0/\g=[B]/\A.heap.size<=B/\S.heap[B]?=some (.cells #[] 63 (0,0)),
  Qjx ⟨λv g w w' hB h=>⟨h.choose,h.choose_spec.1,h.choose_spec.2.1,h.choose_spec.2.2.1,(hB.block _ (Qkq h.choose_spec.2.2.2).1).trans h.choose_spec.2.2.2⟩,Qjq _⟩,
  Qjx ⟨λv g w h=>by obtain⟨B,-,h2,-,h4⟩:=h;rw[h2];intro x hx;rw[List.mem_singleton] at hx;rw[hx];exact(Qkq h4).1,Qjq _⟩,
  Qjx ⟨?zt0,Qjq _⟩,?ztdone⟩
 case zt0 =>
  intro V G S K hS hd hK;have U:=af hS;refine ay 0 rfl ?_;simp only[am,bu,Qvz,Qvx,Act.put,Qvq,Qwx,Qwz] at hK ⊢;go_wp2_with fail;exact hK _ [S.heap.size] _ (Qqx (U.alloc U.size _)) (brf.alloc nlr _) (λx hx=>by rw[List.mem_singleton] at hx;omega) ⟨S.heap.size,rfl,rfl,U.size,heap_alloc_new S _⟩
 case ztdone =>
  intro V G' S hS hD hA;obtain⟨BV,eh,ew,bd,cd⟩:∃B,V 0 = .slice (some ⟨B,0,none⟩) 0 0/\G' 0=[B]/\A.heap.size<=B/\S.heap[B]?=some (.cells #[] 63 (0,0)):=hD 0 (by simp);have U:=af hS;clear hS hD hA ew;simp only[am,bu,Qvz,Qvx,Act.put,Qvq,Qwx,Qwz,eh];have ac:S.ownsRow A.heap.size 63 4 (.slice (some ⟨BV,0,none⟩) 0 0) 0 []:=⟨rfl,Or.inr ⟨BV,0,#[],rfl,bd,cd,Nat.le_refl _,Qxz _,rfl,rfl⟩⟩;have cx:Hid (jb S (some ⟨bm,om,none⟩) s.ms.n s.ms.z/\Below A.heap.size A S):=⟨by have h:=(eb.out.below U).hds;rw[cl.out] at h;exact h,U⟩;refine dj 5 rfl ?_;refine wpList_append_own S rfl (.tmp 97) (.tmp 101) 29 rfl A.heap.size 63 iM (.agg #[.int .i64 0,.int .i64 0,.int .i64 0,.int .i64 0]) 4 32 Tryz.underlying29 hM dp dz dx rfl (by decide) _ 0 [] rfl ac ⟨bm,om,none⟩ i _ (ax i s.ms.z) rfl (ep _ _) (λj u hj=>by
   rw[vo];have h:=cx.out.1.flat (q:=0) (m:=i) (by omega) (j:=j) (u:=u) (by simpa using hj)
   simpa using h) (ma _ _) (by unfold maxLen;omega) (by omega) U.size ?_
  intro v1 aw r1 r2 _;have c8:Below A.heap.size A aw:=U.grown r2 U.size (λk e=>by cases e;exact bd);have Y:=hid c8;have az:Hid (aw.ownsRow A.heap.size 63 4 v1 i (ax i s.ms.z)):=by have h:=r1;rw[Nat.zero_add,Xqx] at h;exact h
  clear U r1 r2 ac cd bd cx c8;simp only[Act.put,Qvq,Qwx,Qwz];refine(?_:wpList _ _ _ [] _ _);go_wp2_with fail;refine⟨jp.no (Qqx Y.out),?_⟩;refine dj 11 rfl ?_;refine wpList_append_own aw rfl (.tmp 102) (.tmp 107) 29 rfl A.heap.size 63 iM (.agg #[.int .i64 0,.int .i64 0,.int .i64 0,.int .i64 0]) 4 32 Tryz.underlying29 hM dp dz dx rfl (by decide) v1 i (ax i s.ms.z) rfl az.out ⟨bm,om,none⟩ _ _ [] rfl (by first|rfl|(have:=f4.out;simp;omega)) (λj u hj=>by cases hj) (λu hu=>by cases hu) (by unfold maxLen;omega) (by omega) Y.out.size ?_;intro v2 P r3 r4 _;have co:Below A.heap.size A P:=Y.out.grown r4 Y.out.size (λk e=>Cj az.out e);have bc:P.ownsRow A.heap.size 63 4 v2 (s.ms.n-1) (ax (s.ms.n-1) (fp s.ms.z i)):=by
   rw[tw s.ms.n s.ms.z i hi];have hc:=f4.out;have e1:s.ms.n-(i+1)=0:=by omega
   rw[e1];have e2:s.ms.n-1=i:=by omega
   rw[e2]
   first|exact r3|(have ck:=r3;rw[e1] at ck;exact ck)
  obtain⟨t,rfl,bb,kn,kz⟩:=cy.ofRow bc nlr;have cr:Hid (fo A.heap.size P 63 4 t.a t.c):=fo.ofOwns (a:=t.a) (n:=t.n) (c:=t.c) bc nlr;have ak:=qa3 bb kn kz;have E:=hid co;clear r3 r4 co bc bb kn kz az Y;simp only[Act.put,Qvq,Qwx,Qwz,Hs.val];refine(?_:wpList _ _ _ [] _ _);go_wp2_with fail;refine⟨jp.no (Qqx E.out),?_⟩;refine dj 12 rfl ?_;have F:=Q.out.box.below E.out;have zl:=F.lt;have an:=F.frozen 3;have zc3:=F.k 3;go_wp2_with fail;refine⟨jp.no (Qqx E.out),?_⟩;refine dj 13 rfl ?_;go_wp2_with fail;refine⟨jp.yes,?_⟩;clear zl an zc3;have ej:Hid (Blk (P.setCell ⟨B7,3,none⟩ (.slice t.a t.n t.c)) B7 31 7 (λj=>(withMoves x3 t).cells.getD j default)):=(F.set 3 _).congr λj hj=>by match j,hj with|0,_=>rfl|1,_=>rfl|2,_=>rfl|3,_=>rfl|4,_=>rfl|5,_=>rfl|6,_=>rfl
  have e7:Hid (Below W0.heap.size W0 (P.setCell ⟨B7,3,none⟩ (.slice t.a t.n t.c))):=(Q.out.bel.trans (E.out.mono Q.out.bel.size)).setCell (p:=⟨B7,3,none⟩) (by show W0.heap.size<=B7;omega) _;have ey:Hid (ai w3.heap.size (P.setCell ⟨B7,3,none⟩ (.slice t.a t.n t.c)) (withMoves x3 t)):=((ai.below Q.out.own E.out).withM (ak.out.1.mono Q.out.le) (cr.out.mono Q.out.le)).box F 3 (.slice t.a t.n t.c);have fd:Hid (ae (withMoves x3 t) (jd s i n)):=by
   have h:=Bh HI.out gc.out (q:=t) ak.out.2.1 (λj hj=>by rw[ak.out.2.2];rfl);have e:tt H t f b g n=withMoves x3 t:=by
    unfold tt;rw[<-d2.out,eu.out,<-dy.out]
    rfl
   rw[e] at h;exact h
  clear F Q E ak d2 dy cr
  generalize P.setCell ⟨B7,3,none⟩ (.slice t.a t.n t.c)=W9 at *
  generalize withMoves x3 t=x4 at *
  refine NoPanic.normal ?_;obtain⟨m1,p0,p1,p2,p3,p4,p5,p6⟩:=Boxed.of ej.out;obtain⟨-,-,-,y,L⟩:=HC.out W9 e7.out;have HZ:=qa2 y L;obtain⟨zl,cb,cf,ca,zc1,cv,zc2,an,zc3,cq,zc4,c7,zc5,ci,cc⟩:=z7 L;have gw:=(HC.out _ brf).2.2.2.1.size;clear y L u1 u2 u3 u4 u5 u6 q0 q1 q2 q3 q4 q5 rn hZB hi bn nn al a0 bl ds ff b4 di ea eg leb b0 les b9 capb caps;go_wp2_with fail;have KZ:=s7b HZ.out.2 x4;have c9:=s7w (b:=w.heap.size+2) HZ.out.1 (by omega) x4;have bf:=s7o ey.out HZ.out.2 x4;unfold set7 at KZ c9 bf;obtain⟨er,eq,eo,ei,es,fi,fe⟩:=cn KZ;refine Xzq (v := .tuple #[x4.val,.int .i64 0]) (by simp[results,Tryz.results59,go_sem,St.val,er,eq,eo,ei,es,fi,fe]) rfl ?_;exact⟨x4,by rw[HX.out];rfl,bf.at,⟨λ_=>fd.out,λh=>absurd HX.out h⟩,λ_=>bf.mono e4.out,c9⟩
def mh(f:Hd->Bool)(z:Nat->Hd)(n:Nat):Int:=match jz f z n with
 | none => -1
 | some k=>(k:Int)
theorem O1{f:Hd->Bool}{z:Nat->Hd}{k:Nat}(h:f (z k)=true):mh f z (k+1)=(k:Int):=by
 have e:jz f z (k+1)=some k:=if_pos h;unfold mh;rw[e]
theorem Ch{f:Hd->Bool}{z:Nat->Hd}{k:Nat}(h:f (z k)=false):mh f z (k+1)=mh f z k:=by
 have e:jz f z (k+1)=jz f z k:=if_neg (by rw[h];decide);unfold mh;rw[e]
theorem Ra(s:St)(b g:Nat)(w:World)(hs:s.At w):
  Calls Tryz.prog 121 #[s.val,.int .i64 (b:Int),.int .i64 (g:Int)] w λe Y=>e = .returned (.int .i64 (mh (cq b g) s.ms.z s.ms.n))/\Below w.heap.size w Y:=by
 obtain⟨G,U,m,M⟩:∃W,w.alloc (.cells s.cells 31)=W/\Below w.heap.size w W/\Blk W w.heap.size 31 7 (λj=>s.cells.getD j default):=⟨_,rfl,(Below.refl w.heap.size w).alloc nlr _,Blk.mk' rfl rfl⟩;have V:Hid (∀f,Below G.heap.size G f->Blk f w.heap.size 31 7 (λj=>s.cells.getD j default)/\s.At f/\Below w.heap.size w f):=λf h=>⟨M.below h,(hs.below m).below h,m.trans (h.mono m.size)⟩;have P:Hid (w.alloc (.cells #[.slice s.on.a s.on.n s.on.c,.slice s.os.a s.os.n s.os.c,.slice s.hs.a s.hs.n s.hs.c,.slice s.ms.a s.ms.n s.ms.c,.slice s.si.a s.si.n s.si.c,.slice s.so.a s.so.n s.so.c,.slice s.sf.a s.sf.n s.sf.c] 31)=G):=U;have ml:=hs.ms.le;have mc:=hs.ms.cap;unfold maxLen at mc;obtain⟨A,y,t,x,q,v,H,r⟩:=Boxed.of M;rw[<-P.out] at A y t x q v H r;clear U m M hs;unfold St.val;go_enter Tryz.func121,Tryz.ntmps121;go_wp2_with fail;rw[P.out];clear P A y t x q v H r
 go_loopw [7] (λK f=>∃i:Nat,i<=s.ms.n/\K = .int .i64 ((i:Int)-1)/\Hid (mh (cq b g) s.ms.z s.ms.n=mh (cq b g) s.ms.z i)/\Hid (Below G.heap.size G f)) (λK _=>(intOf K+1).toNat)
 case atStart=>exact⟨s.ms.n,Nat.le_refl _,rfl,rfl,Below.refl _ _⟩
 obtain⟨i,hi,rfl,d,J⟩:=hrel;rcases i with _|k
 .have E:=(V.out wr J.out).2.2;have X:=hid d.out;clear d;go_wp2_with fail;go_ret;exact⟨by rw[X.out];rfl,E⟩
 have q1:(0:Int)<=(k:Int):=by omega
 have hk:k<s.ms.n:=by omega
 have q3:(k:Int)<(s.ms.n:Int):=by omega
 have S:(((k+1:Nat):Int)-1)=(k:Int):=by omega
 rw[S];obtain⟨u,B,E⟩:=V.out wr J.out;obtain⟨A,y,t,x,q,v,H,r⟩:=Boxed.of u;obtain⟨bm,om,F,ac,z0,z1,z2,z3⟩:=B.ms.hds k hk;have ad:=hid F;rw[F] at q;have p:Hid (cq b g (s.ms.z k)=((s.ms.z k).l==(b:Int)&&(s.ms.z k).o==(g:Int))):=rfl
 generalize hZ:s.ms.z k=Z at *
 have Q:=hid hZ;clear F hZ S;cases L:(Z.l==(b:Int))
 .have D:Hid (mh (cq b g) s.ms.z s.ms.n=mh (cq b g) s.ms.z k):=by show _=_;rw[d.out,Ch (by rw[Q.out,p.out,L];rfl)]
  clear d p;go_wp2_with fail;clear u B A y t x q v H r;go_roundw
  case rel=>exact⟨k,by omega,by go_num,D,J⟩
  case measure=>simp[intOf]
 cases T:(Z.o==(g:Int))
 .have D:Hid (mh (cq b g) s.ms.z s.ms.n=mh (cq b g) s.ms.z k):=by show _=_;rw[d.out,Ch (by rw[Q.out,p.out,L,T];rfl)]
  clear d p;go_wp2_with fail;clear u B A y t x q v H r;go_roundw
  case rel=>exact⟨k,by omega,by go_num,D,J⟩
  case measure=>simp[intOf]
 have D:Hid (mh (cq b g) s.ms.z s.ms.n=(k:Int)):=by show _=_;rw[d.out,O1 (by rw[Q.out,p.out,L,T];rfl)]
 clear d p;go_wp2_with fail;go_ret;exact⟨by rw[D.out];rfl,E⟩
theorem Q9(p:Pl)(s:St)(b g:Nat)(w:World)(hs:s.At w)(f:cv p s):
  Calls Tryz.prog 122 #[s.val,.int .i64 (b:Int),.int .i64 (g:Int)] w λe w'=>e = .returned (.int .i64 (mh (cd s b g) s.hs.z s.hs.n))/\Below w.heap.size w w':=by
 have be:=hid f;have bw:=hs.os.le;have bi:=hs.os.cap;unfold maxLen at bi;clear f;obtain⟨W0,hW,U,hX⟩:∃W,w.alloc (.cells s.cells 31)=W/\Below w.heap.size w W/\Blk W w.heap.size 31 7 (λj=>s.cells.getD j default):=⟨_,rfl,(Below.refl w.heap.size w).alloc nlr _,Blk.mk' rfl rfl⟩;have HC:Hid (∀Q,Below W0.heap.size W0 Q->Blk Q w.heap.size 31 7 (λj=>s.cells.getD j default)/\s.At Q/\Below w.heap.size w Q):=λQ h=>⟨hX.below h,(hs.below U).below h,U.trans (h.mono U.size)⟩;have HW:Hid (w.alloc (.cells #[.slice s.on.a s.on.n s.on.c,.slice s.os.a s.os.n s.os.c,.slice s.hs.a s.hs.n s.hs.c,.slice s.ms.a s.ms.n s.ms.c,.slice s.si.a s.si.n s.si.c,.slice s.so.a s.so.n s.so.c,.slice s.sf.a s.sf.n s.sf.c] 31)=W0):=hW;have ml:=hs.hs.le;have mc:=hs.hs.cap;unfold maxLen at mc;obtain⟨J,B,r,t,K,y,A,H⟩:=Boxed.of hX;rw[<-HW.out] at J B r t K y A H;clear hW U hX hs;unfold St.val;go_enter Tryz.func122,Tryz.ntmps122;go_wp2_with fail;rw[HW.out];clear HW J B r t K y A H
 go_loopw [7] (λiv Q=>∃i:Nat,i<=s.hs.n/\iv = .int .i64 ((i:Int)-1)/\Hid (mh (cd s b g) s.hs.z s.hs.n=mh (cd s b g) s.hs.z i)/\Hid (Below W0.heap.size W0 Q)) (λiv _=>(intOf iv+1).toNat)
 case atStart=>exact⟨s.hs.n,Nat.le_refl _,rfl,rfl,Below.refl _ _⟩
 obtain⟨i,hi,rfl,F,HB⟩:=hrel;rcases i with _|k
 .have bg:=(HC.out wr HB.out).2.2;have bj:=hid F.out;clear F;go_wp2_with fail;go_ret;exact⟨by rw[bj.out];rfl,bg⟩
 have q1:(0:Int)<=(k:Int):=by omega
 have hk:k<s.hs.n:=by omega
 have q3:(k:Int)<(s.hs.n:Int):=by omega
 have e1:(((k+1:Nat):Int)-1)=(k:Int):=by omega
 rw[e1];obtain⟨a1,a2,a3⟩:=iq (be.out.home k hk);obtain⟨o,ho⟩:=Qzz a1.1;obtain⟨l,hl⟩:=Qzz a2.1;rw[ho] at a1 a2;rw[hl] at a2;have on:o<s.os.n:=a1.2;have ln:l<(s.os.z o).ls.n:=a2.2;have X:Hid (cd s b g (s.hs.z k)=((s.hs.z k).b==(b:Int)&&((s.os.z o).ls.z l).o==(g:Int))):=by
  show cd s b g (s.hs.z k)=_;unfold cd jo;rw[ho,hl]
  rfl
 obtain⟨x,L,-⟩:=HC.out wr HB.out;obtain⟨bm,om,ar,bb,v0,v1,v2,v3⟩:=L.hs.hds k hk;rw[ho] at v0;rw[hl] at v1
 generalize (s.hs.z k).b=ZB at *
 generalize (s.hs.z k).n=ZN at *
 obtain⟨Y,av,ae,V⟩:∃W,wr.alloc (.cells #[.int .i64 (o:Int),.int .i64 (l:Int),.int .i64 ZB,.int .i64 ZN] 61)=W/\Below wr.heap.size wr W/\Blk W wr.heap.size 61 4 (λj=>(#[.int .i64 (o:Int),.int .i64 (l:Int),.int .i64 ZB,.int .i64 ZN]:Array Value).getD j default):=⟨_,rfl,brf.alloc nlr _,Blk.mk' rfl rfl⟩;have aw:Hid (wr.alloc (.cells #[.int .i64 (o:Int),.int .i64 (l:Int),.int .i64 ZB,.int .i64 ZN] 61)=Y):=av;have d:=hid (HB.out.trans (ae.mono HB.out.size));have yl:=V.lt;have y0:Y.cell? ⟨wr.heap.size,0,none⟩=some (.int .i64 (o:Int)):=V.k 0;have y1:Y.cell? ⟨wr.heap.size,1,none⟩=some (.int .i64 (l:Int)):=V.k 1;have y2:Y.cell? ⟨wr.heap.size,2,none⟩=some (.int .i64 ZB):=V.k 2;have y3:Y.cell? ⟨wr.heap.size,3,none⟩=some (.int .i64 ZN):=V.k 3;obtain⟨J,B,r,t,K,y,A,H⟩:=Boxed.of x;rw[ar] at t;clear a1 a2 a3 ho hl av ae V x L ar e1;go_wp2_with fail;rw[aw.out];clear aw J B r t K y A H bb v0 v1 v2 v3;obtain⟨x,L,-⟩:=HC.out Y d.out;obtain⟨J,B,r,t,K,y,A,H⟩:=Boxed.of x;obtain⟨bo,oo,au,ak,z0,S,T⟩:=L.os.ods o on;obtain⟨bl,ol,aq,ag,w0,w1,w2,w3⟩:=T.hds l ln;have ll:=T.le;have lc:=T.cap;unfold maxLen at lc;rw[au] at r;rw[aq] at S;have s0:(0:Int)<=(o:Int):=by omega
 have s1:(o:Int)<(s.os.n:Int):=by omega
 have s2:(0:Int)<=(l:Int):=by omega
 have s3:(l:Int)<((s.os.z o).ls.n:Int):=by omega
 clear x L au aq T HB
 generalize ((s.os.z o).ls.z l).o=ZO at *
 cases h1:(ZB==(b:Int))
 .have HN:Hid (mh (cd s b g) s.hs.z s.hs.n=mh (cd s b g) s.hs.z k):=by show _=_;rw[F.out,Ch (by rw[X.out,h1];rfl)]
  clear F X;have M:=Qqq r;have D:=Qqq y0;have u:=Qqq y1;have G:=Qqq y2;have E:=Qqq S;have P:=Qqq w0;refine Qxq (by kernel_rfl) (by kernel_rfl) ?_
  repeat(go_big_quiet_step(fail))
  refine Qqz ?_;intro w4 q;have m:=af q;have v:=hid (d.out.trans (m.mono d.out.size));clear q m M D u G E P d J B r t K y A H y0 y1 y2 y3 yl ak z0 S ag w0 w1 w2 w3;go_wp2_with fail;go_roundw
  case rel=>exact⟨k,by omega,by go_num,HN,v⟩
  case measure=>simp[intOf]
 cases h2:(ZO==(g:Int));rotate_left
 .have HN:Hid (mh (cd s b g) s.hs.z s.hs.n=(k:Int)):=by show _=_;rw[F.out,O1 (by rw[X.out,h1,h2];rfl)]
  clear F X;have M:=Qqq r;have D:=Qqq y0;have u:=Qqq y1;have G:=Qqq y2;have E:=Qqq S;have P:=Qqq w0;refine Qxq (by kernel_rfl) (by kernel_rfl) ?_
  repeat(go_big_quiet_step(fail))
  refine Qqz ?_;intro w4 q;have m:=af q;have v:=hid (d.out.trans (m.mono d.out.size));clear q m M D u G E P d J B r t K y A H y0 y1 y2 y3 yl ak z0 S ag w0 w1 w2 w3;go_wp2_with fail;go_ret;exact⟨by rw[HN.out];rfl,(HC.out _ v.out).2.2⟩
 have HN:Hid (mh (cd s b g) s.hs.z s.hs.n=mh (cd s b g) s.hs.z k):=by show _=_;rw[F.out,Ch (by rw[X.out,h1,h2];rfl)]
 clear F X;have M:=Qqq r;have D:=Qqq y0;have u:=Qqq y1;have G:=Qqq y2;have E:=Qqq S;have P:=Qqq w0;refine Qxq (by kernel_rfl) (by kernel_rfl) ?_
 repeat(go_big_quiet_step(fail))
 refine Qqz ?_;intro w4 q;have m:=af q;have v:=hid (d.out.trans (m.mono d.out.size));clear q m M D u G E P d J B r t K y A H y0 y1 y2 y3 yl ak z0 S ag w0 w1 w2 w3;go_wp2_with fail;go_roundw
 case rel=>exact⟨k,by omega,by go_num,HN,v⟩
 case measure=>simp[intOf]
theorem C3{p:Nat->Prop}(h:∃n,p n):∃n,p n/\∀m,p m->n<=m:=by
 obtain⟨n,e⟩:=h
 induction n using Nat.strongRecOn with
 | _ n ih =>
  by_cases c:∃m,m<n/\p m
  .obtain⟨m,f,d⟩:=c;exact ih m f d
  exact⟨n,e,λm b=>Nat.le_of_not_lt λa=>c ⟨m,a,b⟩⟩
open Classical in
noncomputable def leastN (p:Nat->Prop):Nat:=if h:∃n,p n then Classical.choose (C3 h) else 0
theorem Sp{p:Nat->Prop}(h:∃n,p n):p (leastN p):=by
 unfold leastN;rw[dif_pos h];exact(Classical.choose_spec (C3 h)).1
theorem Wx{p:Nat->Prop}{n:Nat}(h:p n):leastN p<=n:=by
 unfold leastN;rw[dif_pos ⟨n,h⟩];exact(Classical.choose_spec (C3 ⟨n,h⟩)).2 n h
section
variable {p:Pl} {s x:St} {b g:Nat} {seen J:Int}
theorem da.formedJ(h:da p s b g seen)(a:0<=J):cv p (jn (i5 s b g J) b g seen):=by
 have F:=Fq (b:=b) (g:=g) h.r a;have G:=h.right.fm;exact⟨G.sh,G.sh0,F.os4,F.ms8,F.lns,F.kind,F.line,F.hold,F.home,F.move,G.sin,G.son,G.sfn,G.sib,G.sob,G.sfb⟩
theorem mv.formed(h:da p s b g seen)(a:0<=J)(c:mv s b g seen J x):cv p x:=ae.formed c (h.formedJ a)
theorem mv.boundJ(h:da p s b g seen)(a:0<=J)(f:J<=mx s b g)(c:mv s b g seen J x):mx x b g=mx s b g-J:=by
 rw[<-Wi h.r a f];unfold mx;rw[ae.held c (h.formedJ a),ae.from c];have d:bw (jn (i5 s b g J) b g seen) b g (jn (i5 s b g J) b g seen).hs.n=bw (i5 s b g J) b g (i5 s b g J).hs.n:=qy (λ_ _=>rfl) (λ_ _=>rfl);have e:az (jn (i5 s b g J) b g seen) b g (jn (i5 s b g J) b g seen).ms.n=az (i5 s b g J) b g (i5 s b g J).ms.n:=ox (λ_ _=>rfl);rw[d,e]
theorem de.moveN{A j:Nat}{c e:World}(h:de A j c x e)(r:c.heap.size<=A){i G:Nat}(hi:i<x.ms.n)(f:x.ms.a=some ⟨G,0,none⟩)(d:Int):de A j c (withMoves x (Bn x.ms i d)) (e.setCell ⟨G,i*4+3,none⟩ (.int .i64 ((x.ms.z i).n-d))):=by
 have k:=h.own.ms;obtain⟨t,s,q,l⟩:=h.own.ms;obtain⟨o,b,m,g⟩:=l (by omega);rw[f] at b;simp only[Qkx,Qkz,and_true] at b;subst b;exact⟨h.own.keepM g ((ie.refl G e).set _ _) (k.less hi f d) (h.own.msr.set G (i*4+3) _),h.box.other (a:=⟨G,i*4+3,none⟩) (Blk.ne2 h.box g (by decide)) _,h.bel.setCell (p:=⟨G,i*4+3,none⟩) (by show c.heap.size<=G;omega) _,by have:=h.le;simpa using this⟩
theorem de.holds{A b:Nat}{e d:World}(h:de A b e x d)(f:e.heap.size<=b){m:Hs}(g:cy A 61 d m):de A b e (withHolds x m) (d.setCell ⟨b,2,none⟩ (.slice m.a m.n m.c)):=by
 refine⟨(h.own.withHolds g).box h.box 2 _,(h.box.set 2 _).congr λj i => ?_,h.bel.setCell (p:=⟨b,2,none⟩) f _,by have:=h.le;simpa using this⟩
 match j,i with
 | 0,_=>rfl
 | 1,_=>rfl
 | 2,_=>rfl
 | 3,_=>rfl
 | 4,_=>rfl
 | 5,_=>rfl
 | 6,_=>rfl
theorem de.line{A g:Nat}{c d:World}(h:de A g c x d)(m:c.heap.size<=A){o B:Nat}(f:o<x.os.n)(e:(x.os.z o).ls.a=some ⟨B,0,none⟩)(l:Nat)(v:Int):de A g c (setLine x o l 3 v) (d.setCell ⟨B,l*4+3,none⟩ (.int .i64 v)):=by
 obtain⟨B',b,j,q,k,i⟩:=h.own.os.lines o f;rw[e] at b;simp only[Qkx,Qkz,and_true] at b;subst b;exact⟨h.own.setLine f e l 3 (by decide) v,h.box.other (a:=⟨B,l*4+3,none⟩) (Blk.ne2 h.box i (by decide)) _,h.bel.setCell (p:=⟨B,l*4+3,none⟩) (by show c.heap.size<=B;omega) _,by have:=h.le;simpa using this⟩
theorem mv.cutQ_move(r:au p s)(a:0<=J)(h:mv s b g seen J x){k:Nat}(c:jz (cq b g) x.ms.z x.ms.n=some k):et s b g (J+1)=et s b g J:=by
 have s1:=yr (by rw[h.revM];exact Ni (Al _ r.movesP a)) c;rw[h.revM,uf,(tm (qx b g) r.movesP a).1] at s1;have e:az s b g s.ms.n=ff (cq b g) (pg s):=t9 s b g s.ms.n;have L:ig s b g (J+1)=ig s b g J:=by
  have a1:=(mn (b:=b) (g:=g) r a).1;have d:=(mn (b:=b) (g:=g) (M:=J+1) r (by omega)).1;omega
 unfold et;rw[L]
theorem ai.boxA{A:Nat}{w:World}{s:St}{q n:Nat}{f:Nat->Value}(h:ai A w s)(b:Blk w q 152 n f)(j:Nat)(u:Value):ai A (w.setCell ⟨q,j,none⟩ u) s:=by
 refine⟨?_,λi hi=>(h.rows i hi).other b (by decide) j u,h.rapart,h.os.other b (by decide) (by decide) j u,h.hs.other b (by decide) j u,h.ms.other b (by decide) j u,h.msr.set q j u,h.si.other b (by decide) j u,h.so.other b (by decide) j u,h.sf.other b (by decide) j u,h.aio,h.aif,h.aof,h.ari⟩;obtain⟨g,d,k,e,l,c⟩:=h.on;exact⟨g,d,k,e,l,c.other (a:=⟨q,j,none⟩) (Blk.ne2 c b (by decide)) u⟩
theorem de.boxA{A e:Nat}{c b:World}{q n:Nat}{f:Nat->Value}(h:de A e c x b)(d:Blk b q 152 n f)(g:c.heap.size<=q)(j:Nat)(u:Value):de A e c x (b.setCell ⟨q,j,none⟩ u):=
 ⟨h.own.boxA d j u,h.box.other (a:=⟨q,j,none⟩) (Blk.ne2 h.box d (by decide)) u,h.bel.setCell (p:=⟨q,j,none⟩) g u,by have:=h.le;simpa using this⟩
def ve(q:Int->Int->Int)(j:Nat):Value := .int .i64 (q ((j/3:Nat):Int) ((j%3:Nat):Int))
theorem S6(q:Int->Int->Int){o l:Nat}(a:l<3):ve q (o*3+l) = .int .i64 (q o l):=by
 unfold ve;rw[show(o*3+l)/3=o by omega,show(o*3+l)%3=l by omega]
theorem T8(r:au p s)(o l:Int):et s b g 0 o l=0:=by
 have l0:ig s b g 0=0:=by
  have a:=mn (b:=b) (g:=g) r (Int.le_refl 0);have c:=(jq (s:=s) (b:=b) (g:=g) (n:=s.ms.n) r.fm.moveN).1;omega
 unfold et;rw[l0];exact Bm _ _ _ r.holdsP
theorem Wh{q b:Int->Int->Int}{o l:Nat}(f:l<3)(h:∀a d:Int,b a d=q a d+if a=o/\d=l then 1 else 0)(j:Nat):(if j=o*3+l then Value.int .i64 (q o l+1) else ve q j)=ve b j:=by
 unfold ve;rw[h];by_cases e:j=o*3+l
 .rw[if_pos e,if_pos ⟨by omega,by omega⟩,show j/3=o by omega,show j%3=l by omega]
 rw[if_neg e,if_neg (λc=>e (by omega)),Int.add_zero]
structure CoI(A B7 BC:Nat)(W0:World)(s:St)(b g:Nat)(seen J:Int)(x:St)(wk:World):Prop where
 rel:de A B7 W0 x wk
 cut:Blk wk BC 152 12 (ve (et s b g J))
 cj:mv s b g seen J x
 j0:0<=J
 jm:J<=eu s b g seen
theorem CoI.below{A i e:Nat}{f a d:World}(h:CoI A i e f s b g seen J x a)(c:Below a.heap.size a d):CoI A i e f s b g seen J x d:=⟨h.rel.below c,h.cut.below c,h.cj,h.j0,h.jm⟩
def CoN(A B7 BC:Nat)(W0:World)(s:St)(b g:Nat)(seen:Int)(wk:World)(n:Nat):Prop:=∃(J:Int) (x:St),J=eu s b g seen-n/\CoI A B7 BC W0 s b g seen J x wk
theorem CoI.num{A e c:Nat}{d a:World}(h:CoI A e c d s b g seen J x a):CoN A e c d s b g seen a (eu s b g seen-J).toNat:=⟨J,x,by have:=h.jm;omega,h⟩
end
theorem Fo{p:Pl}{s:St}{bin good seen:Int}(h:ag p s=0)(a:(inB bin 0 ((p.nb:Int)-1)&&inB good 0 ((p.ns:Int)-1)&&inB seen 0 200)=false):fc p s bin good seen=3:=by
 unfold fc;rw[if_pos h,a]
 rfl
theorem Vp(v a c:Int)(w:World):Calls Tryz.prog 23 #[.int .i64 v,.int .i64 a,.int .i64 c] w λe b=>e = .returned (.bool (inB v a c))/\Below w.heap.size w b :=
 (ce v a c w).mono λe b ⟨h1,h2⟩=>⟨h1,h2▸Below.refl _ _⟩
theorem de.setFix{A e:Nat}{b c:World}{x:St}(h:de A e b x c)(f:b.heap.size<=A){G:Nat}(d:x.sf.a=some ⟨G,0,none⟩)(g:Nat)(v:Int):de A e b (Go.Proofs.YtbcacebifpagpagGreat.setFix x g v) (c.setCell ⟨G,g,none⟩ (.int .i64 v)):=by
 obtain⟨q,b1,b2,b3,b4,b5⟩:=h.own.sf;rw[d] at b1;simp only[Qkx,Qkz,and_true] at b1;subst b1;exact⟨h.own.setFix d g v,h.box.other (a:=⟨G,g,none⟩) (Blk.ne2 h.box b5 (by decide)) _,h.bel.setCell (p:=⟨G,g,none⟩) (by show b.heap.size<=G;omega) _,by have:=h.le;simpa using this⟩
theorem R1(p:Pl)(s:St)(bin good seen:Int)(w:World)(hp:p.At w)(hs:s.At w):
  Calls Tryz.prog 60 #[p.val,s.val,.int .i64 bin,.int .i64 good,.int .i64 seen] w λe M=>∃x:St,e = .returned (.tuple #[x.val,.int .i64 (fc p s bin good seen)])/\x.At M/\du (fc p s bin good seen) (lu p s bin.toNat good.toNat seen) x/\(fc p s bin good seen=0->ai w.heap.size M x)/\Below w.heap.size w M:=by
 obtain⟨U,hW,qz,X0,Z0⟩:=Ab w p s;have HC:=yu hp hs qz X0 Z0;have HW:=hid hW;have leb:=hp.leb;have gn:=hp.capb;have les:=hp.les;have gx:=hp.caps;have capb:=gn;have caps:=gx;have rv:=Z0.lt;unfold maxLen at capb caps;have pp:Hid ((s.on.n<=s.on.c/\s.on.c<=maxLen)/\s.sf.n<=s.sf.c/\s.sf.c<=maxLen):=⟨⟨hs.on.le,hs.on.cap⟩,hs.sf.le,hs.sf.cap⟩;clear hW X0 Z0 hp hs;unfold Pl.val St.val;go_enter Tryz.func60,Tryz.ntmps60;go_wp2_with fail;rw[HW.out];obtain⟨X,an,ak,ap,hz⟩:=HC.out U brf;refine(kf p s U an ak).mono ?_;rintro e w1 ⟨rfl,hB⟩;clear X an ak ap hz HW;obtain⟨⟨⟨l1,d0,d1⟩,l2,c0,c1,c2,c3,c4,c5,c6⟩,an,ak,ap,hz⟩:=HC.out w1 hB;by_cases h0:ag p s=0;rotate_left
 .have HX:Hid (fc p s bin good seen=ag p s):=by show fc p s bin good seen=_;unfold fc;rw[if_neg h0]
  have qp:Hid (¬fc p s bin good seen=0):=by show ¬_;rw[HX.out];exact h0
  have g0:(ag p s !=0)=true:=by simpa using h0
  clear h0
  generalize ag p s=SE at *
  clear an ak;obtain⟨zl,dw,d4,dt,zc1,ea,zc2,bs,zc3,d9,zc4,ec,zc5,d7,dx⟩:=z7 hz;go_wp2_with fail;exact gz Tryz.results60 hz ap (by omega) HX.out (λh=>qp.out (HX.out.trans h)) rfl rfl rfl
 have H0:=hid h0;have HR:Hid (au p s):=ed h0;rw[h0];clear h0 c0 c1 c2 c3 c4 c5 c6 ak;go_wp2_with fail;refine(zi p bin w1 leb gn).mono ?_;rintro e w2 ⟨rfl,es⟩;have hB:=hB.trans (es.mono hB.size);clear l1 d0 d1 l2 an ap hz es;obtain⟨⟨⟨l1,d0,d1⟩,l2,c0,c1,c2,c3,c4,c5,c6⟩,an,ak,ap,hz⟩:=HC.out w2 hB;clear c0 c1 c2 c3 c4 c5 c6;cases k1:inB bin 0 ((p.nb:Int)-1)
 .have HX:Hid (fc p s bin good seen=3):=Fo H0.out (by rw[k1];simp);clear an ak;obtain⟨zl,dw,d4,dt,zc1,ea,zc2,bs,zc3,d9,zc4,ec,zc5,d7,dx⟩:=z7 hz;go_wp2_with fail;exact gz Tryz.results60 hz ap (by omega) HX.out (by decide) rfl rfl rfl
 clear ak;go_wp2_with fail;refine(ua p good w2 les gx).mono ?_;rintro e w3 ⟨rfl,es⟩;have hB:=hB.trans (es.mono hB.size);clear l1 d0 d1 l2 an ap hz es;obtain⟨⟨⟨l1,d0,d1⟩,l2,c0,c1,c2,c3,c4,c5,c6⟩,an,ak,ap,hz⟩:=HC.out w3 hB;cases k2:inB good 0 ((p.ns:Int)-1)
 .have HX:Hid (fc p s bin good seen=3):=Fo H0.out (by rw[k1,k2];simp);clear an ak;obtain⟨zl,dw,d4,dt,zc1,ea,zc2,bs,zc3,d9,zc4,ec,zc5,d7,dx⟩:=z7 hz;go_wp2_with fail;exact gz Tryz.results60 hz ap (by omega) HX.out (by decide) rfl rfl rfl
 cases k3:inB seen 0 200
 .have HX:Hid (fc p s bin good seen=3):=Fo H0.out (by rw[k1,k2,k3];simp);clear an ak;obtain⟨zl,dw,d4,dt,zc1,ea,zc2,bs,zc3,d9,zc4,ec,zc5,d7,dx⟩:=z7 hz;go_wp2_with(go_at_call 23;refine ah (ce _ _ _ _) ?_);exact gz Tryz.results60 hz ap (by omega) HX.out (by decide) rfl rfl rfl
 obtain⟨b,rfl⟩:=Qzz (aq k1).1;obtain⟨g,rfl⟩:=Qzz (aq k2).1;have hb:b<p.nb:=by have:=(aq k1).2;omega
 have hg:g<p.ns:=by have:=(aq k2).2;omega
 have sb:=aq k3;have K3:=hid k3;have son:=HR.out.fm.sh.n;have gw:b<s.on.n:=by omega
 have ng:Hid ((s.on.r b).n=p.ns):=HR.out.fm.sh.len b gw;obtain⟨⟨sy,ov⟩,te,pd⟩:=pp.out;unfold maxLen at ov pd;obtain⟨bb,ob,j1,o3,e0,el⟩:=ak.on.rows b gw;have kw:g<(s.on.r b).n:=by rw[ng.out];exact hg
 obtain⟨bg,og,mu,ot,e1⟩:=el.ints g kw;have rl:=el.le;have rc:=el.cap;unfold maxLen at rc;have sfn:g<s.sf.n:=by rw[HR.out.fm.sfn];exact hg
 obtain⟨bf,of,ip,pt,e2⟩:=ak.sf.ints g sfn;have l8:=hid j1;have lk:=hid ip;rw[j1] at c0;rw[mu] at e0;rw[ip] at c6;have q0:(0:Int)<=(b:Int):=by omega
 have q1:(b:Int)<(s.on.n:Int):=by omega
 have q2:(0:Int)<=(g:Int):=by omega
 have q3:(g:Int)<((s.on.r b).n:Int):=by omega
 have q4:(g:Int)<(s.sf.n:Int):=by omega
 have oy:=HR.out.fm.sh.num b gw g hg;have sfb:=HR.out.fm.sfb g hg;obtain⟨ON,it⟩:∃ON,(s.on.r b).z g=ON:=⟨_,rfl⟩;obtain⟨SF,j4⟩:∃SF,s.sf.z g=SF:=⟨_,rfl⟩;have HV:=qa2 it j4;rw[it] at e1 oy;rw[j4] at e2 sfb;clear j1 mu ip el son it j4 k1 k2 an ak;have pv:=Qqq c0;have qf:=Qqq c6;have qa:=Qqq e0;have o9:=Qqq e1;have pl:=Qqq e2;have mc:Hid (∀f,Calls Tryz.prog 23 #[.int .i64 (SF+seen-ON),.int .i64 (-1048576),.int .i64 1048576] f λe M=>e = .returned (.bool (inB (SF+seen-ON) (-1048576) 1048576))/\Below f.heap.size f M):=λf=>Vp _ _ _ f;go_wp2_with(go_at_call 23;refine ah (ce _ _ _ _) ?_);refine Qxq (by kernel_rfl) (by kernel_rfl) ?_
 repeat(go_big_quiet_step((go_at_call 23;exact Xxz (mc.out _))))
 refine Qqz ?_;intro P mq;have me:=af mq;have hB:=hB.trans (me.mono hB.size);clear mq me pv qf qa o9 pl mc l1 d0 d1 l2 c0 c1 c2 c3 c4 c5 c6 ap hz o3 e0 ot e1 pt e2 k3;rw[<-l8.out,<-lk.out];obtain⟨⟨⟨l1,d0,d1⟩,l2,c0,c1,c2,c3,c4,c5,c6⟩,an,ak,ap,hz⟩:=HC.out P hB;cases h3:inB (SF+seen-ON) (-1048576) 1048576
 .have HX:Hid (fc p s b g seen=2):=Jp H0.out hb hg K3.out (by rw[HV.out.1,HV.out.2,<-Int.add_sub_assoc];exact h3);clear an ak;obtain⟨zl,dw,d4,dt,zc1,ea,zc2,bs,zc3,d9,zc4,ec,zc5,d7,dx⟩:=z7 hz;go_wp2_with fail;exact gz Tryz.results60 hz ap (by omega) HX.out (by decide) rfl rfl rfl
 have cm:Hid (da p s b g seen):=Lt H0.out hb hg K3.out (by rw[HV.out.1,HV.out.2,<-Int.add_sub_assoc];exact h3);have HX:Hid (fc p s b g seen=0):=Ob cm.out;have ky:Hid (Calls Tryz.prog 20 #[s.val] P λe M=>∃s':St,e = .returned s'.val/\ae s' s/\ai P.heap.size M s'/\Below P.heap.size P M):=ny p s P ak HR.out.fm;clear an ak ap hz h3 l8 lk;go_wp2_with fail;refine Calls.mono ky.out ?_;rintro e w5 ⟨o,rfl,bj,br,gh⟩;clear ky l1 d0 d1 l2 c0 c1 c2 c3 c4 c5 c6;have A0:U.heap.size<=P.heap.size:=hB.size;have A2:P.heap.size<=w5.heap.size:=gh.size;have nt:Hid (w.heap.size<=U.heap.size):=(HC.out _ brf).2.2.2.1.size;obtain⟨W6,k5,fv,K6⟩:=ab7 w5 o;have i8:=hid k5;have fz:=gh.trans (fv.mono gh.size);have jr:=hB.trans (fz.mono hB.size);have dn:Hid (de P.heap.size w5.heap.size U o W6):=⟨ai.below br fv,K6,jr,fz.size⟩;have qd:=hid bj;have gb:b<o.on.n:=by rw[bj.on.1];exact gw
 have k6:g<(o.on.r b).n:=by rw[(bj.on.2 b gb).1];exact kw
 have im:g<o.sf.n:=by rw[bj.sf.1];exact sfn
 have f9:Hid ((o.on.r b).z g=ON/\o.sf.z g=SF):=⟨(bj.num HR.out.fm hb hg).trans HV.out.1,(bj.sf.2 g im).trans HV.out.2⟩;clear k5 fv K6 fz jr br gh hB bj;simp only[St.val]
 -- what was fixed
 obtain⟨g0,G,a1,a2,a3,a4,a5,a6,a7,a8,a9,gk,mo,gc⟩:=dn.out.own.onCell gb k6;obtain⟨Gs,s1,s2,s3,s4,s5,s6,s7⟩:=dn.out.own.sf.cellAt im;unfold maxLen at a8 gc s5;rw[f9.out.1] at a9;rw[f9.out.2] at s6;have k9:=qa3 a4 s1 a1;have u0:W6.cell? ⟨w5.heap.size,0,none⟩=some (.slice o.on.a o.on.n o.on.c):=dn.out.box.k 0;have u6:W6.cell? ⟨w5.heap.size,6,none⟩=some (.slice o.sf.a o.sf.n o.sf.c):=dn.out.box.k 6;have ul:=dn.out.box.lt;rw[a1] at u0;rw[s1] at u6;have q5:(b:Int)<(o.on.n:Int):=by omega
 have q6:(g:Int)<((o.on.r b).n:Int):=by omega
 have q7:(g:Int)<(o.sf.n:Int):=by omega
 clear a1 a4 gk s1;rw[<-i8.out] at u0 u6 ul a2 a3 a6 a9 s3 s6;go_wp2_with fail;rw[i8.out] at u0 u6 ul a2 a3 a6 a9 s3 s6 ⊢;clear i8
 generalize w5.heap.size=t at *
 have o2:=Qqq u0;have qx:=Qqq u6;have nz:=Qqq a3;have qs:=Qqq a9;have px:=Qqq s6;refine i9 [(true,[0,1,2,3,4,5,6,7,8,9,10,11,12,13,14,15,16,17,18,19],some 20)] ?_;refine⟨λM=>∃p:Regrown,M=grow (redrawn W6 p.d) p.os,Qqx (brf.drew),λh=>(by cases h),?_⟩;simp only[dv,Qyq,Xqq,Qyx,Qyz,Xqz,Xqx]
 repeat(go_big_quiet_step(fail))
 refine Qqz ?_;clear o2 qx nz qs px u0 u6 ul a2 a3 a6 a9 s3 s6;have L:Below W6.heap.size W6 W6.drew:=brf.drew
 generalize W6.drew=wj at *
 have bt:=hid (dn.out.below L);clear dn L;obtain⟨Gq,t1,t2,t3,t4,t5,t6,t7⟩:=bt.out.own.sf.cellAt im;have eG:Gq=Gs:=by rw[k9.out.2.1] at t1;simpa using t1.symm
 subst eG;have t8:=t7 g;have d8:Hid (de P.heap.size t U (setFix o g (SF+seen-ON)) (wj.setCell ⟨Gq,g,none⟩ (.int .i64 (SF+seen-ON)))):=bt.out.setFix A0 k9.out.2.1 g (SF+seen-ON);clear t1 t7 bt;refine kq 20 rfl ?_;go_wp2_with fail;refine NoPanic.normal ?_;clear t2 t3 t4 t5 t6 t8
 generalize wj.setCell ⟨Gq,g,none⟩ (.int .i64 (SF+seen-ON))=W7 at *
 -- what lies there
 obtain⟨qe,G',a1,a2,a3,a4,a5,a6,a7,a8,a9,gk,mo,gc⟩:=d8.out.own.onCell (s:=setFix o g (SF+seen-ON)) gb k6;have u0:W7.cell? ⟨t,0,none⟩=some (.slice o.on.a o.on.n o.on.c):=d8.out.box.k 0;have ul:=d8.out.box.lt;have lx:o.on.a=some ⟨qe,0,none⟩:=a1;have ok:(o.on.r b).a=some ⟨G',0,none⟩:=a4;rw[lx] at u0;have n5:=gk g;have j8:Hid (de P.heap.size t U (setOn (setFix o g (SF+seen-ON)) b g seen) (W7.setCell ⟨G',g,none⟩ (.int .i64 seen))):=d8.out.setOn A0 (b:=b) gb a4 g seen;have ch:Hid (mv s b g seen 0 (setOn (setFix o g (SF+seen-ON)) b g seen)):=by
  have h:=mv.start (seen:=seen) HR.out hb hg qd.out;have e:jn o b g seen=setOn (setFix o g (SF+seen-ON)) b g seen:=by
   unfold jn;rw[f9.out.1,f9.out.2,<-Int.add_sub_assoc]
   rfl
  rw[e] at h;exact h
 unfold maxLen at a8 gc;have A3:U.heap.size<=W7.heap.size:=d8.out.bel.size;clear a1 a4 lx ok gk d8;obtain⟨x2,li⟩:∃x2,setOn (setFix o g (SF+seen-ON)) b g seen=x2:=⟨_,rfl⟩;rw[li] at j8 ch;clear li;obtain⟨W9,ku,jx,K9⟩:∃W,(W7.setCell ⟨G',g,none⟩ (.int .i64 seen)).alloc (.cells #[.int .i64 0,.int .i64 0,.int .i64 0,.int .i64 0,.int .i64 0,.int .i64 0,.int .i64 0,.int .i64 0,.int .i64 0,.int .i64 0,.int .i64 0,.int .i64 0] 152)=W/\Below (W7.setCell ⟨G',g,none⟩ (.int .i64 seen)).heap.size (W7.setCell ⟨G',g,none⟩ (.int .i64 seen)) W/\Blk W W7.heap.size 152 12 (ve (et s b g 0)):=
  ⟨_,rfl,brf.alloc nlr _,(Blk.mk' (cur:=#[.int .i64 0,.int .i64 0,.int .i64 0,.int .i64 0,.int .i64 0,.int .i64 0,.int .i64 0,.int .i64 0,.int .i64 0,.int .i64 0,.int .i64 0,.int .i64 0]) (by simp) rfl).congr (λj hj=>by
   unfold ve;rw[T8 HR.out]
   match j,hj with
   | 0,_=>rfl
   | 1,_=>rfl
   | 2,_=>rfl
   | 3,_=>rfl
   | 4,_=>rfl
   | 5,_=>rfl
   | 6,_=>rfl
   | 7,_=>rfl
   | 8,_=>rfl
   | 9,_=>rfl
   | 10,_=>rfl
   | 11,_=>rfl)⟩
 have lz:Hid ((W7.setCell ⟨G',g,none⟩ (.int .i64 seen)).alloc (.cells #[.int .i64 0,.int .i64 0,.int .i64 0,.int .i64 0,.int .i64 0,.int .i64 0,.int .i64 0,.int .i64 0,.int .i64 0,.int .i64 0,.int .i64 0,.int .i64 0] 152)=W9):=ku;have m2:Hid (CoI P.heap.size t W7.heap.size U s b g seen 0 x2 W9):=⟨j8.out.below jx,K9,ch.out,Int.le_refl _,cm.out.miss0⟩;clear ku jx K9 j8 ch;go_wp2_with fail;rw[lz.out];clear lz u0 ul a2 a3 a6 a9 n5 a5 a7 a8 mo gc
 generalize W7.heap.size=BC at *
 have td:=cm.out.bound
 go_loopw [] (λf=>∃n:Nat,Hid (CoN P.heap.size t BC U s b g seen f n)) (λf=>leastN (CoN P.heap.size t BC U s b g seen f))
 case atStart=>exact⟨_,m2.out.num⟩
 obtain⟨n0,eb⟩:=hrel;clear m2;obtain⟨J,x,hJ,hI⟩:=Sp ⟨n0,eb.out⟩;have HJ:=hid hJ;have HI:=hid hI;have j0:=hI.j0;have jm:=hI.jm;have HF:Hid (cv p x):=mv.formed cm.out hI.j0 hI.cj;have jj:Hid (bw x b g x.hs.n+az x b g x.ms.n=mx s b g-J):=mv.boundJ cm.out hI.j0 (by have h:=hI.jm;unfold eu at h;omega) hI.cj;clear eb hJ hI n0;obtain⟨m1,p0,p1,p2,p3,p4,p5,p6⟩:=Boxed.of HI.out.rel.box;go_wp2_with fail;clear m1 p0 p1 p2 p3 p4 p5 p6;refine(Hn p x b g wr HI.out.rel.own.at HF.out).mono ?_;rintro e wa ⟨rfl,ez⟩;rw[jj.out];have ck:Hid (CoI P.heap.size t BC U s b g seen J x wa):=HI.out.below ez;have e8:Hid (∀(n:Nat) (f:World),CoN P.heap.size t BC U s b g seen f n->(n:Int)<eu s b g seen-J->leastN (CoN P.heap.size t BC U s b g seen f)<leastN (CoN P.heap.size t BC U s b g seen wr)):=λn f h hn=>by
  have a:=Wx h;have c:=HJ.out;omega
 clear HI ez HJ;obtain⟨BZ,eo⟩:∃BZ,mx s b g-J=BZ:=⟨_,rfl⟩;have bz0 : -100000<=BZ/\BZ<=100000:=by
  have h1:=(mr (s:=s) (b:=b) (g:=g) (n:=s.hs.n) HR.out.fm.holdN);have h2:=(jq (s:=s) (b:=b) (g:=g) (n:=s.ms.n) HR.out.fm.moveN);have h3:=HR.out.fm.hs72;have h4:=HR.out.fm.ms8;unfold eu at jm;unfold mx at eo jm;omega
 have l9:Hid (bw x b g x.hs.n+az x b g x.ms.n=BZ):=jj.out.trans eo;clear jj;rw[eo];by_cases hd:J<eu s b g seen;rotate_left
 .have gm:J=eu s b g seen:=by omega
  have q8:¬seen<BZ:=by unfold eu at gm;omega
  have ga:Hid (ae x (oe s b g seen)):=by
   have h:ae x (jn (i5 s b g J) b g seen):=ck.out.cj;rw[gm] at h;exact h
  have mz:=hid ck.out.rel;obtain⟨QQ,gp⟩:∃QQ,et s b g (eu s b g seen)=QQ:=⟨_,rfl⟩;have lp:Hid (Blk wa BC 152 12 (ve QQ)):=by
   have h:=ck.out.cut;rw[gm,gp] at h;exact h
  have pe:=hid gp;have f5:Hid (QIn p b (λi j=>QQ i j) x):=cm.out.qin.same ga.out (λi j _ _=>by rw[<-gp];rfl);clear eo gp ck e8 l9 gm hd jm j0 bz0;go_wp2_with fail
  go_loopw [17] (λkv f=>∃(i:Nat) (cur:St),i<=x.os.n/\kv = .int .i64 i/\Hid (de P.heap.size t U cur f)/\Hid (Blk f BC 152 12 (ve QQ))/\Hid (J8 p x b QQ i cur)) (λkv _=>x.os.n-(intOf kv).toNat)
  case atStart=>exact⟨0,x,Qxz _,rfl,mz,lp,ae.self x⟩
  clear mz lp;obtain⟨i,cur,hi,rfl,HK,b7,HA⟩:=hrel;have eb:Hid (cur.os.n=x.os.n):=(h9.pos f5.out (λ_ _=>rfl) hi HA.out).al.osn;have n1:(cur.os.n:Int)<=(x.os.n:Int):=by rw[eb.out];omega
  have n2:(x.os.n:Int)<=(cur.os.n:Int):=by rw[eb.out];omega
  have u1:wr.cell? ⟨t,1,none⟩=some (.slice cur.os.a cur.os.n cur.os.c):=HK.out.box.k 1;have u2:=HK.out.box.lt;have ol:cur.os.n<=cur.os.c:=HK.out.own.os.le;have oc:cur.os.c<=maxLen:=HK.out.own.os.cap;have os4:x.os.n<=4:=HF.out.os4;unfold maxLen at oc;by_cases d6:i<x.os.n;rotate_left
  .have oq:i=x.os.n:=by omega
   have q4:(cur.os.n:Int)<=(i:Int):=by omega
   have q5:¬(i:Int)<(cur.os.n:Int):=by omega
   have HY:Hid (ae cur (lu p s b g seen)):=by
    refine h9.same cm.out.qin (λ_ _=>rfl) (Nat.le_refl s.os.n) cm.out.all ?_;have n4:x.os.n=s.os.n:=ga.out.os.1;have h:=HA.out;rw[oq,n4] at h;refine h9.base (m':=v7 x) ga.out (λ_ _=>rfl) (λi hi => ?_) (λi j _ _ => ?_) (Nat.le_refl s.os.n) h
    .exact(ga.out.os.2 i (by rw[n4];exact hi)).2.1
    show QQ i j=et s b g (eu s b g seen) i j;rw[pe.out]
   obtain⟨m1,p0,p1,p2,p3,p4,p5,p6⟩:=Boxed.of HK.out.box;obtain⟨-,-,-,ap,hz⟩:=HC.out wr HK.out.bel;have HZ:=qa2 ap hz;obtain⟨zl,dw,d4,dt,zc1,ea,zc2,bs,zc3,d9,zc4,ec,zc5,d7,dx⟩:=z7 hz;clear ap hz u1 u2;go_wp2_with fail;have KZ:=s7b HZ.out.2 cur;have m3:=s7w (b:=w.heap.size+2) HZ.out.1 (by omega) cur;have jo:=s7o HK.out.own HZ.out.2 cur;unfold set7 at KZ m3 jo;obtain⟨pj,pi,pf,ou,gj,rd,qq⟩:=cn KZ;refine Xzq (v := .tuple #[cur.val,.int .i64 0]) (by simp[results,Tryz.results60,go_sem,St.val,pj,pi,pf,ou,gj,rd,qq]) rfl ?_;exact⟨cur,by rw[HX.out];rfl,jo.at,⟨λ_=>HY.out,λh=>absurd HX.out h⟩,λ_=>jo.mono (Qzx nt.out A0),m3⟩
  have q0:(0:Int)<=(i:Int):=by omega
  have q1:(i:Int)<(cur.os.n:Int):=by omega
  have tc:=(HF.out.lns i d6).2;go_wp2_with fail;clear u1 u2 ol oc q1 n1 n2 eb
  go_loopw [18] (λjv f=>∃(j:Nat) (cr:St),j<=(x.os.z i).ls.n/\jv = .int .i64 j/\Hid (de P.heap.size t U cr f)/\Hid (Blk f BC 152 12 (ve QQ))/\Hid (tq p x b QQ i j cr)) (λjv _=>(x.os.z i).ls.n-(intOf jv).toNat)
  case atStart=>exact⟨0,cur,Qxz _,rfl,HK,b7,HA.out.row⟩
  clear HK b7 HA;obtain⟨j,cr,hj,rfl,HK,b7,HB⟩:=hrel;have em:Hid (Pos p b (λi j=>QQ i j) x i j cr):=HB.out.pos f5.out d6 hj;have en:cr.os.n=x.os.n:=em.out.al.osn;have ly:i<cr.os.n:=by rw[en];exact d6
  have q1:(i:Int)<(cr.os.n:Int):=by omega
  have kn:(cr.os.z i).ls.n=(x.os.z i).ls.n:=(em.out.al.kind i d6).2;have sv:=hid kn;have s9:(cr.os.z i).ls.n<=(x.os.z i).ls.n:=Nat.le_of_eq kn;have sw:(x.os.z i).ls.n<=(cr.os.z i).ls.n:=Nat.le_of_eq kn.symm;obtain⟨gO,g1,g2,g3,g4,g5,g6⟩:=HK.out.own.orderCells (o:=i) ly;have u1:wr.cell? ⟨t,1,none⟩=some (.slice cr.os.a cr.os.n cr.os.c):=HK.out.box.k 1;rw[g1] at u1;have u2:=HK.out.box.lt;have ol:cr.os.n<=cr.os.c:=HK.out.own.os.le;have oc:cr.os.c<=maxLen:=HK.out.own.os.cap;unfold maxLen at oc;obtain⟨_,_,-,-,-,-,jg⟩:=HK.out.own.at.os.ods i ly;have ll:=jg.le;have lc:=jg.cap;unfold maxLen at lc;have HG:Hid (cr.os.a=some ⟨gO,0,none⟩):=g1;clear g1 g6 en kn jg;by_cases lb:j<(x.os.z i).ls.n;rotate_left
  .have m0:j=(x.os.z i).ls.n:=by omega
   have q4:((cr.os.z i).ls.n:Int)<=(j:Int):=by omega
   have q5:¬(j:Int)<((cr.os.z i).ls.n:Int):=by omega
   have HN:Hid (J8 p x b QQ (i+1) cr):=by have h:=HB.out;rw[m0] at h;exact h.next
   clear m0 em HB;go_wp2_with fail;go_roundw
   case rel=>exact⟨i+1,cr,by omega,by go_num,HK,b7,HN⟩
   case measure=>simp[intOf];omega
  have q2:(0:Int)<=(j:Int):=by omega
  have q3:(j:Int)<((cr.os.z i).ls.n:Int):=by omega
  have v4:(i:Int)<4:=by omega
  have v5:(j:Int)<3:=by omega
  have iz:Hid (j5 p b cr i j (QQ i j)):=em.out.stepIn f5.out d6 lb;have ta:=iz.out.n0;have l0:=hid iz.out.tki;have k0:Hid (∀y,lg p b cr i j (QQ i j) y->tq p x b QQ i (j+1) y):=λy T=>HB.out.step T;have lq:Hid (QQ i j=0->tq p x b QQ i (j+1) cr):=λh=>HB.out.skip f5.out d6 lb h;have fd:wr.cell? ⟨BC,i*3+j,none⟩=some (.int .i64 (QQ i j)):=by have h:=b7.out.cell (j:=i*3+j) (by omega);rw[S6 _ (by omega)] at h;exact h
  have bl:=b7.out.lt;clear iz HB em
  generalize QQ i j=QV at *
  by_cases hq:0<QV;rotate_left
  .have HN:Hid (tq p x b QQ i (j+1) cr):=lq.out (by omega);go_wp2_with fail;go_roundw
   case rel=>exact⟨j+1,cr,by omega,by go_num,HK,b7,HN⟩
   case measure=>simp[intOf];omega
  go_wp2_with fail;clear u1 u2 g3 g4 g5;obtain⟨⟨⟨l1,d0,d1⟩,-⟩,an,-⟩:=HC.out wr HK.out.bel;obtain⟨m1,p0,p1,p2,p3,p4,p5,p6⟩:=Boxed.of HK.out.box;have mi:=hid an;have pg:=Qqq d0;have pn:=Qqq d1;have j2:=Qqq p0;have i6:=Qqq p1;have iv:=Qqq p2;have iy:=Qqq p3;have ik:=Qqq p4;have jc:=Qqq p5;have jk:=Qqq p6;have ib:=Qqq fd;refine i9 [(true,[0,1,2,3,4,5,6,7,8,9],some 10),(false,[11,12,13],some 14)] ?_;refine⟨λM=>∃p:Regrown,M=grow (redrawn wr p.d) p.os,Qqx (brf.drew),λh=>(by cases h),?_⟩;simp only[dv,Qyq,Xqq,Qyx,Qyz,Xqz,Xqx]
  repeat(go_big_quiet_step(fail))
  refine Qqz ?_;clear pg pn j2 i6 iv iy ik jc jk ib l1 d0 d1 m1 p0 p1 p2 p3 p4 p5 p6 fd bl an;have L:Below wr.heap.size wr wr.drew:=brf.drew
  generalize wr.drew=wj at *
  have mm:=hid (mi.out.below L);have bt:=hid (HK.out.below L);have my:=hid (b7.out.below L);clear L mi HK b7;refine kq 10 rfl ?_;go_wp2_with fail;refine(Kt p cr i j P.heap.size QV b wj mm.out bt.out.own bt.out.le l0.out).mono ?_;rintro e w8 ⟨y,rfl,T,k7,ij,js⟩;have HT:Hid (tq p x b QQ i (j+1) y):=k0.out y T;have gq:Hid (Blk w8 t 31 7 (λj=>cr.cells.getD j default)):=js _ _ _ _ (by decide) bt.out.box;have mj:Hid (Blk w8 BC 152 12 (ve QQ)):=js _ _ _ _ (by decide) my.out;have op:=hid k7;have n9:=hid (bt.out.bel.trans (ij.mono A0));have oz:Hid (P.heap.size<=w8.heap.size):=Qzx bt.out.le ij.size;clear T k7 ij js k0 l0 mm bt my lq
  generalize (Tk.go (avT cr i j) QV (fa p b)).left=LL at *
  simp only[St.val];go_wp2_with fail;refine⟨λ_=>True,trivial,λ_ _=>trivial,?_⟩;simp only[dv,Qyq,Xqq,Qyx,Qyz,Xqz,Xqx]
  repeat(go_big_quiet_step(fail))
  refine Qqz ?_;have l6:=gq.out;obtain⟨zl,dw,d4,dt,zc1,ea,zc2,bs,zc3,d9,zc4,ec,zc5,d7,dx⟩:=z7 l6;clear l6;refine kq 14 rfl ?_;go_wp2_with fail;have HN:Hid (de P.heap.size t U y (set7 w8 t (.slice y.on.a y.on.n y.on.c) (.slice y.os.a y.os.n y.os.c) (.slice y.hs.a y.hs.n y.hs.c) (.slice y.ms.a y.ms.n y.ms.c) (.slice y.si.a y.si.n y.si.c) (.slice y.so.a y.so.n y.so.c) (.slice y.sf.a y.sf.n y.sf.c))/\Blk (set7 w8 t (.slice y.on.a y.on.n y.on.c) (.slice y.os.a y.os.n y.os.c) (.slice y.hs.a y.hs.n y.hs.c) (.slice y.ms.a y.ms.n y.ms.c) (.slice y.si.a y.si.n y.si.c) (.slice y.so.a y.so.n y.so.c) (.slice y.sf.a y.sf.n y.sf.c)) BC 152 12 (ve QQ)):=by
   have K:=s7b gq.out y;have hb:=s7w (b:=t) n9.out (Qzx A0 A2) y;have ne:=Blk.ne2 mj.out gq.out (by decide);refine⟨⟨s7o op.out gq.out y,K.congr (λj hj=>by match j,hj with|0,_=>rfl|1,_=>rfl|2,_=>rfl|3,_=>rfl|4,_=>rfl|5,_=>rfl|6,_=>rfl),hb,by have:=oz.out;simpa[set7] using this⟩,?_⟩;unfold set7;exact((((((mj.out.other (a:=⟨t,0,none⟩) ne _).other (a:=⟨t,1,none⟩) ne _).other (a:=⟨t,2,none⟩) ne _).other (a:=⟨t,3,none⟩) ne _).other (a:=⟨t,4,none⟩) ne _).other (a:=⟨t,5,none⟩) ne _).other (a:=⟨t,6,none⟩) ne _
  unfold set7 at HN;refine NoPanic.normal ?_;go_wp2_with fail;go_roundw
  case rel=>exact⟨j+1,y,by omega,by go_num,HN.out.1,HN.out.2,HT⟩
  case measure=>simp[intOf];omega
 have q8:seen<BZ:=by unfold eu at hd;omega
 clear eo;obtain⟨m1,p0,p1,p2,p3,p4,p5,p6⟩:=Boxed.of ck.out.rel.box;go_wp2_with fail;clear m1 p0 p1 p2 p3 p4 p5 p6;refine(Ra x b g wa ck.out.rel.own.at).mono ?_;rintro e wb ⟨rfl,l5⟩;have aa:Hid (CoI P.heap.size t BC U s b g seen J x wb):=ck.out.below l5;clear ck l5;cases hl:jz (cq b g) x.ms.z x.ms.n with
 | none =>
  have LV:mh (cq b g) x.ms.z x.ms.n = -1:=by unfold mh;rw[hl]
  rw[LV];have HL:=hid hl;obtain⟨k,ia⟩:∃k,jz (cd x b g) x.hs.z x.hs.n=some k:=by
   cases hq:jz (cd x b g) x.hs.z x.hs.n with
   | some k=>exact⟨k,rfl⟩
   | none =>
    have h1:=yq hq;have h2:=yq hl;have h3:=C5 x b g x.hs.n;have h4:=t9 x b g x.ms.n;have h5:=l9.out;omega
  have HH:=hid ia;obtain⟨hk,lw⟩:=Ct ia;have ir:=vu.1 lw;obtain⟨t1,t2,t3⟩:=iq (HF.out.home k hk);obtain⟨A,jd⟩:=Qzz t1.1;obtain⟨D,io⟩:=Qzz t2.1;rw[jd] at t1 t2;rw[io] at t2;have on:A<x.os.n:=t1.2;have ln:D<(x.os.z A).ls.n:=t2.2;have o4:A<4:=by have:=HF.out.os4;omega
  have l3:D<3:=by have:=(HF.out.lns A on).2;omega
  obtain⟨ZN,iu⟩:∃ZN,(x.hs.z k).n=ZN:=⟨_,rfl⟩;have zn:=HF.out.holdN k hk;rw[iu] at zn;have HZ:Hid (x.hs.z k=⟨(A:Int),(D:Int),(b:Int),ZN⟩):=by
   show x.hs.z k=_;rw[<-jd,<-io,<-iu,<-ir.1]
  have qr:=aa.out.rel.own.hs.2.1;have sz:=aa.out.rel.own.hs.1;have s0:=HF.out.hs72;unfold maxLen at qr;obtain⟨Gh,ii,-,b5⟩:=aa.out.rel.own.hs.2.2.2 (show 0<x.hs.n by omega);have gs:=hid ii;have mw:Hid (∀f,Below wb.heap.size wb f->f.cell? ⟨Gh,k*4,none⟩=some (.int .i64 (A:Int))/\f.cell? ⟨Gh,k*4+1,none⟩=some (.int .i64 (D:Int))/\f.cell? ⟨Gh,k*4+2,none⟩=some (.int .i64 (b:Int))/\f.cell? ⟨Gh,k*4+3,none⟩=some (.int .i64 ZN)/\Gh<f.heap.size):=λf hB=>by
   have h:=b5.below hB;have z:=HZ.out;have e:∀c,c<4->(ax x.hs.n x.hs.z).getD (k*4+c) default=(dg (⟨(A:Int),(D:Int),(b:Int),ZN⟩:Hd)).getD c default:=λc hc=>by rw[qc (z:=x.hs.z) hk hc,z]
   exact⟨(h.cell (j:=k*4) (by show _<x.hs.n*4;omega)).trans (congrArg some (e 0 (by decide))),(h.cell (j:=k*4+1) (by show _<x.hs.n*4;omega)).trans (congrArg some (e 1 (by decide))),(h.cell (j:=k*4+2) (by show _<x.hs.n*4;omega)).trans (congrArg some (e 2 (by decide))),(h.cell (j:=k*4+3) (by show _<x.hs.n*4;omega)).trans (congrArg some (e 3 (by decide))),h.lt⟩
  clear LV hl ia lw ir t1 t2 t3 jd io iu b5;obtain⟨m1,p0,p1,p2,p3,p4,p5,p6⟩:=Boxed.of aa.out.rel.box;rw[ii] at p2;clear ii;have q0:(0:Int)<=(k:Int):=by omega
  have q1:(k:Int)<(x.hs.n:Int):=by omega
  have j2:=Qqq p0;have i6:=Qqq p1;have iv:=Qqq p2;have iy:=Qqq p3;have ik:=Qqq p4;have jc:=Qqq p5;have jk:=Qqq p6;go_wp2_with fail;refine jt (λM=>∃p:Regrown,M=grow (redrawn wb p.d) p.os) [0,1,2,3,4] [5,6,7,8] [(true,9)] (Qqx (brf.drew)) ?_;simp only[dv,Qyq,Xqq,Qyx,Qyz,Xqz,Xqx]
  repeat(go_big_quiet_step(fail))
  refine Qqz ?_;clear j2 i6 iv iy ik jc jk m1 p0 p1 p2 p3 p4 p5 p6;refine⟨λj v gg f=>(j=5->v = .int .i64 (k:Int)/\gg=[])/\(j=6->v = .pointer (some ⟨Gh,k*4,none⟩)/\gg=[])/\(j=7->v = .agg #[.int .i64 (A:Int),.int .i64 (D:Int),.int .i64 (b:Int),.int .i64 ZN]/\gg=[])/\(j=8->∃B,v = .pointer (some ⟨B,0,none⟩)/\gg=[B]/\wb.heap.size<=B/\Blk f B 61 4 (λ_ => .int .i64 0)),
   Qjx ⟨λv g w M hB h=>⟨h.1,λe=>absurd e (by decide),λe=>absurd e (by decide),λe=>absurd e (by decide)⟩,Qjx ⟨λv g w M hB h=>⟨λe=>absurd e (by decide),h.2.1,λe=>absurd e (by decide),λe=>absurd e (by decide)⟩,Qjx ⟨λv g w M hB h=>⟨λe=>absurd e (by decide),λe=>absurd e (by decide),h.2.2.1,λe=>absurd e (by decide)⟩,Qjx ⟨λv g w M hB h=>⟨λe=>absurd e (by decide),λe=>absurd e (by decide),λe=>absurd e (by decide),λe=>(by obtain⟨B,h1,h2,h3,h4⟩:=h.2.2.2 e;exact⟨B,h1,h2,h3,h4.below hB⟩)⟩,Qjq _⟩⟩⟩⟩,
   Qjx ⟨λv g w h=>(by rw[(h.1 rfl).2];intro x hx;cases hx),Qjx ⟨λv g w h=>(by rw[(h.2.1 rfl).2];intro x hx;cases hx),Qjx ⟨λv g w h=>(by rw[(h.2.2.1 rfl).2];intro x hx;cases hx),Qjx ⟨λv g w h=>(by obtain⟨B,-,h2,-,h4⟩:=h.2.2.2 rfl;rw[h2];intro x hx;rw[List.mem_singleton] at hx;rw[hx];exact h4.lt),Qjq _⟩⟩⟩⟩,
   Qjx ⟨?zt5,Qjx ⟨?zt6,Qjx ⟨?zt7,Qjx ⟨?zt8,Qjq _⟩⟩⟩⟩,?ztdone⟩
  case zt5 =>
   intro V G f K hS hd hK;have Q:=af hS;have fe:=hid Q;have pq:Hid (mh (cd x b g) x.hs.z x.hs.n=(k:Int)):=by show _=_;unfold mh;rw[HH.out]
   have o7:Hid (Calls Tryz.prog 122 #[.agg #[.slice x.on.a x.on.n x.on.c,.slice x.os.a x.os.n x.os.c,.slice (some ⟨Gh,0,none⟩) x.hs.n x.hs.c,.slice x.ms.a x.ms.n x.ms.c,.slice x.si.a x.si.n x.si.c,.slice x.so.a x.so.n x.so.c,.slice x.sf.a x.sf.n x.sf.c],.int .i64 (b:Int),.int .i64 (g:Int)] f λe M=>e = .returned (.int .i64 (k:Int))/\Below f.heap.size f M):=by
    have h:=Q9 p x b g f (aa.out.rel.below fe.out).own.at HF.out;rw[St.val,gs.out,pq.out] at h;exact h
   refine ay 5 rfl ?_;simp only[am,bu,Qvz,Qwq,Qvx,Act.put,Qvq,Qwx,Qwz] at hK ⊢;go_wp2_with fail;refine Calls.mono o7.out ?_;rintro e wj ⟨rfl,jy⟩;have mf:=qa2 (fe.out.trans (jy.mono fe.out.size)) jy;clear jy;go_wp2_with fail;exact hK _ [] _ (Qqx mf.out.1) mf.out.2 (λx hx=>(by cases hx)) ⟨λ_=>⟨rfl,rfl⟩,λe=>absurd e (by decide),λe=>absurd e (by decide),λe=>absurd e (by decide)⟩
  case zt6 =>
   intro V G f K hS hd hK;have Q:=af hS;have qk:=((hd 5 (Qjz (by kernel_rfl)) (by simp)).1 rfl).1;refine ay 6 rfl ?_;simp only[am,bu,Qvz,Qwq,Qvx,Act.put,Qvq,Qwx,Qwz,qk] at hK ⊢;go_wp2_with fail;exact hK _ [] _ hS brf (λx hx=>(by cases hx)) ⟨λe=>absurd e (by decide),λ_=>⟨rfl,rfl⟩,λe=>absurd e (by decide),λe=>absurd e (by decide)⟩
  case zt7 =>
   intro V G f K hS hd hK;have Q:=af hS;have qn:=((hd 6 (Qjz (by kernel_rfl)) (by simp)).2.1 rfl).1;obtain⟨y0,y1,y2,y3,y4⟩:=mw.out f Q;refine ay 7 rfl ?_;simp only[am,bu,Qvz,Qwq,Qvx,Act.put,Qvq,Qwx,Qwz,qn] at hK ⊢;go_wp2_with fail;exact hK _ [] _ hS brf (λx hx=>(by cases hx)) ⟨λe=>absurd e (by decide),λe=>absurd e (by decide),λ_=>⟨rfl,rfl⟩,λe=>absurd e (by decide)⟩
  case zt8 =>
   intro V G f K hS hd hK;have Q:=af hS;refine ay 8 rfl ?_;simp only[am,bu,Qvz,Qwq,Qvx,Act.put,Qvq,Qwx,Qwz] at hK ⊢;go_wp2_with fail;exact hK _ [f.heap.size] _ (Qqx (Q.alloc Q.size _)) (brf.alloc nlr _) (λx hx=>(by rw[List.mem_singleton] at hx;omega)) ⟨λe=>absurd e (by decide),λe=>absurd e (by decide),λe=>absurd e (by decide),λ_=>⟨f.heap.size,rfl,rfl,Q.size,(Blk.mk' (cur:=#[.int .i64 0,.int .i64 0,.int .i64 0,.int .i64 0]) rfl rfl).congr (λj hj=>by match j,hj with|0,_=>rfl|1,_=>rfl|2,_=>rfl|3,_=>rfl)⟩⟩
  case ztdone =>
   intro V G' f hS hD hA;have pc:=((hD 5 (by simp)).1 rfl).1;have pr:=((hD 6 (by simp)).2.1 rfl).1;have ox:=((hD 7 (by simp)).2.2.1 rfl).1;obtain⟨BH,er,e6,bo,ar⟩:=(hD 8 (by simp)).2.2.2 rfl;have Q:=af hS;have fe:=hid Q;clear hS hD hA e6;simp only[am,bu,Qvz,Qwq,Qvx,Act.put,Qvq,Qwx,Qwz,er,pc,pr,ox];have z1:=ar.lt;have m8:=ar.frozen 0;have nn:=ar.frozen 1;have m7:=ar.frozen 2;have nq:=ar.frozen 3;have nm:=ar.k 0;have nh:=ar.k 1;have nj:=ar.k 2;have nr:=ar.k 3;have K1:=(((ar.set 0 (.int .i64 (A:Int))).set 1 (.int .i64 (D:Int))).set 2 (.int .i64 (b:Int))).set 3 (.int .i64 ZN);have ka:Hid (Blk ((((f.setCell ⟨BH,0,none⟩ (.int .i64 (A:Int))).setCell ⟨BH,1,none⟩ (.int .i64 (D:Int))).setCell ⟨BH,2,none⟩ (.int .i64 (b:Int))).setCell ⟨BH,3,none⟩ (.int .i64 ZN)) BH 61 4 (λj=>(#[.int .i64 (A:Int),.int .i64 (D:Int),.int .i64 (b:Int),.int .i64 ZN]:Array Value).getD j default)/\Below wb.heap.size wb ((((f.setCell ⟨BH,0,none⟩ (.int .i64 (A:Int))).setCell ⟨BH,1,none⟩ (.int .i64 (D:Int))).setCell ⟨BH,2,none⟩ (.int .i64 (b:Int))).setCell ⟨BH,3,none⟩ (.int .i64 ZN))):=⟨K1.congr (λj hj=>by match j,hj with|0,_=>rfl|1,_=>rfl|2,_=>rfl|3,_=>rfl),(((Q.setCell (p:=⟨BH,0,none⟩) bo (.int .i64 (A:Int))).setCell (p:=⟨BH,1,none⟩) bo (.int .i64 (D:Int))).setCell (p:=⟨BH,2,none⟩) bo (.int .i64 (b:Int))).setCell (p:=⟨BH,3,none⟩) bo (.int .i64 ZN)⟩;clear K1 ar Q;refine dj 9 rfl ?_;go_wp2_with fail;refine⟨jp.yes,?_⟩;clear z1 m8 nn m7 nq nm nh nj nr
   generalize ((((f.setCell ⟨BH,0,none⟩ (.int .i64 (A:Int))).setCell ⟨BH,1,none⟩ (.int .i64 (D:Int))).setCell ⟨BH,2,none⟩ (.int .i64 (b:Int))).setCell ⟨BH,3,none⟩ (.int .i64 ZN))=wc at *
   have ci:Hid (CoI P.heap.size t BC U s b g seen J x wc):=aa.out.below ka.out.2;have cl:=hid ka.out.1;clear aa ka fe mw;refine NoPanic.normal ?_;have hr:=HF.out.hold;have lm:Hid (Calls Tryz.prog 119 #[.slice (some ⟨Gh,0,none⟩) x.hs.n x.hs.c,.int .i64 (A:Int),.int .i64 (D:Int),.int .i64 (b:Int),.int .i64 (ZN-1)] wc λe M=>∃m:Hs,e = .returned (.slice m.a m.n m.c)/\cy wc.heap.size 61 M m/\uk x.hs m k/\Below wc.heap.size wc M):=by
    have hz:=HZ.out;have mg:=ci.out.rel.own.hs.at;have ek:ba (x.hs.z k)=ba (⟨(A:Int),(D:Int),(b:Int),ZN-1⟩:Hd):=by rw[hz];rfl
    have rg:A5 (⟨(A:Int),(D:Int),(b:Int),ZN-1⟩:Hd):=by have h:=Mq (ca hr k hk);rw[hz] at h;exact h
    have lo:∀j,j<k->ba (x.hs.z j)<ba (⟨(A:Int),(D:Int),(b:Int),ZN-1⟩:Hd):=λj hj=>by rw[<-ek];exact mp hr j k hj hk
    have l4:∀j,k<j->j<x.hs.n->ba (⟨(A:Int),(D:Int),(b:Int),ZN-1⟩:Hd)<ba (x.hs.z j):=λj h1 h2=>by rw[<-ek];exact mp hr k j h1 h2
    by_cases c:ZN=1
    .have h:=Mz x.hs ⟨(A:Int),(D:Int),(b:Int),ZN-1⟩ k wc mg hr rg hk ek (by show ZN-1=0;omega) lo l4;rw[Hs.val,gs.out] at h;refine h.mono λe M => ?_;rintro⟨m,h1,h2,h3,h4,h5⟩;refine⟨m,h1,h2,?_,h5⟩;unfold uk;rw[hz,if_pos (show ZN=1 from c)];exact⟨h3,λi _=>by rw[h4]⟩
    have h:=Pg x.hs ⟨(A:Int),(D:Int),(b:Int),ZN-1⟩ k wc mg hr rg hk ek (by show ¬ZN-1=0;omega) lo l4;rw[Hs.val,gs.out] at h;refine h.mono λe M => ?_;rintro⟨m,h1,h2,h3,h4,h5⟩;refine⟨m,h1,h2,?_,h5⟩;unfold uk;rw[hz,if_neg (show ¬ZN=1 from c)];refine⟨h3,λi _ => ?_⟩;rw[h4];unfold qu gy;by_cases e:i=k
    .rw[if_pos e,if_pos e,e,hz];rfl
    rw[if_neg e,if_neg e]
   obtain⟨m1,p0,p1,p2,p3,p4,p5,p6⟩:=Boxed.of ci.out.rel.box;rw[gs.out] at p2;have y0:wc.cell? ⟨BH,0,none⟩=some (.int .i64 (A:Int)):=cl.out.k 0;have y1:wc.cell? ⟨BH,1,none⟩=some (.int .i64 (D:Int)):=cl.out.k 1;have y2:wc.cell? ⟨BH,2,none⟩=some (.int .i64 (b:Int)):=cl.out.k 2;have y3:wc.cell? ⟨BH,3,none⟩=some (.int .i64 ZN):=cl.out.k 3;have y4:=cl.out.lt;clear hr;go_wp2_with fail;clear m1 p0 p1 p2 p3 p4 p5 p6 y0 y1 y2 y3 y4;refine Calls.mono lm.out ?_;rintro e wd ⟨m,rfl,l7,mt,L⟩;have f7:=hid mt;have dl:=ci.out.rel.below L;have dm:Hid (de P.heap.size t U (withHolds x m) (wd.setCell ⟨t,2,none⟩ (.slice m.a m.n m.c))):=dl.holds (by omega) (l7.mono ci.out.rel.le);have cg:Hid (Blk (wd.setCell ⟨t,2,none⟩ (.slice m.a m.n m.c)) BH 61 4 (λj=>(#[.int .i64 (A:Int),.int .i64 (D:Int),.int .i64 (b:Int),.int .i64 ZN]:Array Value).getD j default)):=(cl.out.below L).other (a:=⟨t,2,none⟩) (Blk.ne2 (cl.out.below L) dl.box (by decide)) _;have i1:Hid (Blk (wd.setCell ⟨t,2,none⟩ (.slice m.a m.n m.c)) BC 152 12 (ve (et s b g J))):=(ci.out.cut.below L).other (a:=⟨t,2,none⟩) (Blk.ne2 (ci.out.cut.below L) dl.box (by decide)) _;have ch:=hid ci.out.cj;have x1:=dl.box.lt;have pm:=dl.box.frozen 2;have x3:=dl.box.k 2;clear dl l7 mt L lm ci cl;go_wp2_with fail;clear x1 pm x3
   generalize wd.setCell ⟨t,2,none⟩ (.slice m.a m.n m.c)=we at *
   obtain⟨gO,B,hO,-,c3,c4,lj,-,c7,nc,cc,ql,d0,d1,d2,d3⟩:=dm.out.own.lineCell (o:=A) (l:=D) on ln;have lv:x.os.a=some ⟨gO,0,none⟩:=hO;have ez:(x.os.z A).ls.a=some ⟨B,0,none⟩:=lj;have th:(x.os.z A).ls.n<=(x.os.z A).ls.c:=nc;have o6:(x.os.z A).ls.c<=maxLen:=cc;have oc:x.os.c<=maxLen:=dm.out.own.os.cap;have tb:x.os.n<=x.os.c:=dm.out.own.os.le;unfold maxLen at o6 oc;obtain⟨LN,ft⟩:∃LN,((x.os.z A).ls.z D).n=LN:=⟨_,rfl⟩;have sx:=hid ft;have mn:we.cell? ⟨B,D*4+3,none⟩=some (.int .i64 LN):=by rw[<-ft];exact d3
   have gj:we.cell? ⟨gO,A*2+1,none⟩=some (.slice (some ⟨B,0,none⟩) (x.os.z A).ls.n (x.os.z A).ls.c):=c4;have ml:0<=((x.os.z A).ls.z D).n/\((x.os.z A).ls.z D).n<=200:=by have h:=dz (HF.out.line A on D ln);omega
   rw[ft] at ml;obtain⟨se,sq⟩:=ml;have rq : -9223372036854775808<=LN+1:=by omega
   have rp:LN+1<=9223372036854775807:=by omega
   have u1:we.cell? ⟨t,1,none⟩=some (.slice x.os.a x.os.n x.os.c):=dm.out.box.k 1;rw[lv] at u1;have ul:=dm.out.box.lt;have y0:we.cell? ⟨BH,0,none⟩=some (.int .i64 (A:Int)):=cg.out.k 0;have y1:we.cell? ⟨BH,1,none⟩=some (.int .i64 (D:Int)):=cg.out.k 1;have y4:=cg.out.lt;have v0:(0:Int)<=(A:Int):=by omega
   have v1:(A:Int)<(x.os.n:Int):=by omega
   have v2:(0:Int)<=(D:Int):=by omega
   have v3:(D:Int)<((x.os.z A).ls.n:Int):=by omega
   obtain⟨ih,k4⟩:=ch.out.hold HR.out j0 HL.out HH.out f7.out (o:=A) (l:=D) (by rw[HZ.out]) (by rw[HZ.out]);rw[ft] at ih;have f4:Hid (mv s b g seen (J+1) (setLine (withHolds x m) A D 3 (LN+1))/\∀a d:Int,et s b g (J+1) a d=et s b g J a d+if a=A/\d=D then 1 else 0):=⟨ih,k4⟩;have mk:=hid ez;clear hO lv lj ez nc cc d0 d1 d2 d3 ft ih k4 ch ql;have qy:=Qqq u1;have jf:=Qqq y0;have ja:=Qqq y1;have o1:=Qqq gj;have qh:=Qqq mn;refine i9 [(true,[0,1,2,3,4,5,6,7,8,9,10,11,12,13,14],some 15)] ?_;refine⟨λM=>∃p:Regrown,M=grow (redrawn we p.d) p.os,Qqx (brf.drew),λh=>(by cases h),?_⟩;simp only[dv,Qyq,Xqq,Qyx,Qyz,Xqz,Xqx]
   repeat(go_big_quiet_step(fail))
   refine Qqz ?_;clear qy jf ja o1 qh u1 y0 y1 y4 c3 c4 gj c7 mn ul;have L:Below we.heap.size we we.drew:=brf.drew
   generalize we.drew=wj at *
   have i3:=dm.out.below L;obtain⟨B',j7,-,-,-,d5⟩:=i3.own.os.lines A on;have eB:B'=B:=by have e:(x.os.z A).ls.a=some ⟨B',0,none⟩:=j7;rw[mk.out] at e;simpa using e.symm
   subst eB;have s1:=d5.lt;have s2:=d5.frozen (D*4+3);have s3:=d5.cell (j:=D*4+3) (by show _<(x.os.z A).ls.n*4;omega);have k8:Hid (de P.heap.size t U (setLine (withHolds x m) A D 3 (LN+1)) (wj.setCell ⟨B',D*4+3,none⟩ (.int .i64 (LN+1)))):=i3.line A0 on j7 D (LN+1);have gr:Hid (Blk (wj.setCell ⟨B',D*4+3,none⟩ (.int .i64 (LN+1))) BH 61 4 (λj=>(#[.int .i64 (A:Int),.int .i64 (D:Int),.int .i64 (b:Int),.int .i64 ZN]:Array Value).getD j default)):=(cg.out.below L).other (a:=⟨B',D*4+3,none⟩) (Blk.ne2 (cg.out.below L) d5 (by decide)) _;have gd:Hid (Blk (wj.setCell ⟨B',D*4+3,none⟩ (.int .i64 (LN+1))) BC 152 12 (ve (et s b g J))):=(i1.out.below L).other (a:=⟨B',D*4+3,none⟩) (Blk.ne2 (i1.out.below L) d5 (by decide)) _;clear i3 j7 d5 dm cg i1 L mk;refine kq 15 rfl ?_;go_wp2_with fail;refine NoPanic.normal ?_;clear s1 s2 s3
   generalize wj.setCell ⟨B',D*4+3,none⟩ (.int .i64 (LN+1))=wf at *
   have y0:wf.cell? ⟨BH,0,none⟩=some (.int .i64 (A:Int)):=gr.out.k 0;have y1:wf.cell? ⟨BH,1,none⟩=some (.int .i64 (D:Int)):=gr.out.k 1;have y4:=gr.out.lt;obtain⟨QV,ge⟩:∃QV,et s b g J A D=QV:=⟨_,rfl⟩;have qb:=Am (b:=b) (g:=g) HR.out j0 A D;have kb:=ro (z:=s.hs.z) A D s.hs.n λq hq=>(cx (ca HR.out.fm.hold q hq)).2.2.2;have qj:=HR.out.fm.hs72;rw[ge] at qb;have tf:0<=QV/\QV<=100000:=by omega
   have fd:wf.cell? ⟨BC,A*3+D,none⟩=some (.int .i64 QV):=by have h:=gd.out.cell (j:=A*3+D) (by omega);rw[S6 _ l3,ge] at h;exact h
   have bl:=gd.out.lt;have v4:(A:Int)<4:=by omega
   have v5:(D:Int)<3:=by omega
   have pw:=hid ge;clear ge qb kb qj;go_wp2_with fail;have jf:=Qqq y0;have ja:=Qqq y1;have ib:=Qqq fd;refine i9 [(true,[0,1,2,3,4,5,6,7,8,9],some 10)] ?_;refine⟨λM=>∃p:Regrown,M=grow (redrawn wf p.d) p.os,Qqx (brf.drew),λh=>(by cases h),?_⟩;simp only[dv,Qyq,Xqq,Qyx,Qyz,Xqz,Xqx]
   repeat(go_big_quiet_step(fail))
   refine Qqz ?_;clear jf ja ib y0 y1 y4 fd bl;have L:Below wf.heap.size wf wf.drew:=brf.drew
   generalize wf.drew=la at *
   have dy:=gd.out.below L;have s1:=dy.lt;have s2:=dy.frozen (A*3+D);have s3:=dy.cell (j:=A*3+D) (by omega);have a0:Hid (CoI P.heap.size t BC U s b g seen (J+1) (setLine (withHolds x m) A D 3 (LN+1)) (la.setCell ⟨BC,A*3+D,none⟩ (.int .i64 (QV+1)))):=by
    refine⟨(k8.out.below L).boxA dy A3 _ _,(dy.set (A*3+D) (.int .i64 (QV+1))).congr (λj hj => ?_),f4.out.1,by omega,by omega⟩;rw[<-pw.out];exact Wh l3 f4.out.2 j
   clear dy gd k8 L gr f4;refine kq 10 rfl ?_;go_wp2_with fail;refine NoPanic.normal ?_;clear s1 s2 s3
   generalize la.setCell ⟨BC,A*3+D,none⟩ (.int .i64 (QV+1))=wg at *
   go_wp2_with fail;go_roundw
   case rel=>exact⟨_,a0.out.num⟩
   case measure=>exact e8.out _ _ a0.out.num (by have:=a0.out.jm;omega)
 | some k =>
  have LV:mh (cq b g) x.ms.z x.ms.n=(k:Int):=by unfold mh;rw[hl]
  rw[LV];have hk:k<x.ms.n:=(Ct hl).1;have HL:=hid hl;have n7:=aa.out.rel.own.ms.2.1;have tg:=aa.out.rel.own.ms.1;have ms8:=HF.out.ms8;have zn:=HF.out.moveN k hk;unfold maxLen at n7;obtain⟨Gm,gv,n8,b5⟩:=aa.out.rel.own.ms.2.2.2 (show 0<x.ms.n by omega);have s8:=hid gv;have u3:wb.cell? ⟨t,3,none⟩=some (.slice x.ms.a x.ms.n x.ms.c):=aa.out.rel.box.k 3;have ul:=aa.out.rel.box.lt;have gl:=b5.lt;have gf:=b5.frozen (k*4+3);have z3:wb.cell? ⟨Gm,k*4+3,none⟩=some (.int .i64 (x.ms.z k).n):=(b5.cell (j:=k*4+3) (by show _<x.ms.n*4;omega)).trans (congrArg some (qc (z:=x.ms.z) (c:=3) hk (by decide)));have po:¬Gm=t:=Blk.ne2 b5 aa.out.rel.box (by decide);have ne2:¬t=Gm:=λe=>po e.symm;rw[gv] at u3;have q0:(0:Int)<=(k:Int):=by omega
  have q1:(k:Int)<(x.ms.n:Int):=by omega
  have S:Hid (de P.heap.size t U (withMoves x (Bn x.ms k 1)) (wb.setCell ⟨Gm,k*4+3,none⟩ (.int .i64 ((x.ms.z k).n-1)))):=aa.out.rel.moveN A0 hk gv 1;have b4:Hid (Blk (wb.setCell ⟨Gm,k*4+3,none⟩ (.int .i64 ((x.ms.z k).n-1))) BC 152 12 (ve (et s b g J))):=aa.out.cut.other (a:=⟨Gm,k*4+3,none⟩) (Blk.ne2 aa.out.cut b5 (by decide)) _;have HQ:Hid (et s b g (J+1)=et s b g J):=by
   have h1:=aa.out.cj.cutQ_move HR.out aa.out.j0 hl;exact h1
  have ch:=hid aa.out.cj;have j3:Hid (∀m,uk x.ms m k->mv s b g seen (J+1) (withMoves x m)):=λm c=>ch.out.move HR.out j0 HL.out c;clear LV hl gv b5 n8;by_cases fk:(x.ms.z k).n=1;rotate_left
  .have HM:Hid (mv s b g seen (J+1) (withMoves x (Bn x.ms k 1))):=j3.out _ (by unfold uk;rw[if_neg fk];exact⟨rfl,λ_ _=>rfl⟩);have e0:((x.ms.z k).n-1==0)=false:=by simp;omega
   clear fk
   generalize (x.ms.z k).n=ZN at *
   go_wp2_with fail;have a0:Hid (CoI P.heap.size t BC U s b g seen (J+1) (withMoves x (Bn x.ms k 1)) (wb.setCell ⟨Gm,k*4+3,none⟩ (.int .i64 (ZN-1)))):=⟨S.out,by rw[HQ.out];exact b4.out,HM.out,by omega,by omega⟩;go_roundw
   case rel=>exact⟨_,a0.out.num⟩
   case measure=>exact e8.out _ _ a0.out.num (by have:=a0.out.jm;omega)
  have f7:Hid (∀m:Hs,m.n=x.ms.n-1->(∀i,i<m.n->m.z i=fp x.ms.z k i)->uk x.ms m k):=λm h1 h2=>by unfold uk;rw[if_pos fk];exact⟨h1,h2⟩
  have qo:(1:Int)-1=0:=rfl;rw[fk] at z3 S b4;rw[qo] at S b4;clear fk zn;go_wp2_with fail;clear u3 ul gl gf z3
  generalize wb.setCell ⟨Gm,k*4+3,none⟩ (.int .i64 0)=F at *
  obtain⟨iM,hM,f8,gu,gt⟩:=info_parts C6;obtain⟨ZF,i2⟩:∃ZF,gy x.ms.z k 1=ZF:=⟨_,rfl⟩;have lf:=hid i2;have f6:Hid ((⟨x.ms.a,x.ms.n,x.ms.c,ZF⟩:Hs).At F):=by rw[<-i2];exact S.out.own.ms.at
  obtain⟨bm,om,lr,-⟩:=f6.out.hds k hk;have f1:x.ms.a=some ⟨bm,om,none⟩:=lr;have i7:=hid f1;have c3:F.cell? ⟨t,3,none⟩=some (.slice x.ms.a x.ms.n x.ms.c):=S.out.box.k 3;rw[f1] at c3;have mb:=Qqq c3;clear i2 lr f1 c3 aa;by_cases kx:x.ms.c=k+1;rotate_left
  .refine jt (λM=>∃p:Regrown,M=grow (redrawn F p.d) p.os) [1,2,3,4,6,7,8,9,10] [0] [(false,5),(false,11),(false,12),(true,13)] (Qqx (brf.drew)) ?_;simp only[dv,Qyq,Xqq,Qyx,Qyz,Xqz,Xqx]
   repeat(go_big_quiet_step(fail))
   refine Qqz ?_;clear mb;refine⟨λj v g f=>∃B,v = .slice (some ⟨B,0,none⟩) 0 0/\g=[B]/\F.heap.size<=B/\f.heap[B]?=some (.cells #[] 63 (0,0)),
    Qjx ⟨λv g w M hB h=>⟨h.choose,h.choose_spec.1,h.choose_spec.2.1,h.choose_spec.2.2.1,(hB.block _ (Qkq h.choose_spec.2.2.2).1).trans h.choose_spec.2.2.2⟩,Qjq _⟩,
    Qjx ⟨λv g w h=>by obtain⟨B,-,h2,-,h4⟩:=h;rw[h2];intro x hx;rw[List.mem_singleton] at hx;rw[hx];exact(Qkq h4).1,Qjq _⟩,
    Qjx ⟨?zt0,Qjq _⟩,?ztdone⟩
   case zt0 =>
    intro V G f K hS hd hK;have Q:=af hS;refine ay 0 rfl ?_;simp only[am,bu,Qvz,Qvx,Act.put,Qvq,Qwx,Qwz] at hK ⊢;go_wp2_with fail;exact hK _ [f.heap.size] _ (Qqx (Q.alloc Q.size _)) (brf.alloc nlr _) (λx hx=>by rw[List.mem_singleton] at hx;omega) ⟨f.heap.size,rfl,rfl,Q.size,heap_alloc_new f _⟩
   case ztdone =>
    intro V G' f hS hD hA;obtain⟨BV,er,e6,bo,ar⟩:∃B,V 0 = .slice (some ⟨B,0,none⟩) 0 0/\G' 0=[B]/\F.heap.size<=B/\f.heap[B]?=some (.cells #[] 63 (0,0)):=hD 0 (by simp);have Q:=af hS;clear hS hD hA e6;simp only[am,bu,Qvz,Qvx,Act.put,Qvq,Qwx,Qwz,er];have br:f.ownsRow F.heap.size 63 4 (.slice (some ⟨BV,0,none⟩) 0 0) 0 []:=⟨rfl,Or.inr ⟨BV,0,#[],rfl,bo,ar,Nat.le_refl _,Qxz _,rfl,rfl⟩⟩;have fr:Hid (jb f (some ⟨bm,om,none⟩) x.ms.n ZF/\Below F.heap.size F f):=⟨by have h:jb f x.ms.a x.ms.n ZF:=(f6.out.below Q).hds;rw[i7.out] at h;exact h,Q⟩;refine dj 5 rfl ?_;refine wpList_append_own f rfl (.tmp 119) (.tmp 123) 29 rfl F.heap.size 63 iM (.agg #[.int .i64 0,.int .i64 0,.int .i64 0,.int .i64 0]) 4 32 Tryz.underlying29 hM f8 gu gt rfl (by decide) _ 0 [] rfl br ⟨bm,om,none⟩ k _ (ax k ZF) rfl (ep _ _) (λj u hj=>by
     rw[vo];have h:=fr.out.1.flat (q:=0) (m:=k) (by omega) (j:=j) (u:=u) (by simpa using hj)
     simpa using h) (ma _ _) (by unfold maxLen;omega) (by omega) Q.size ?_
    intro v1 b3 r1 r2 _;have fs:Below F.heap.size F b3:=Q.grown r2 Q.size (λk e=>by cases e;exact bo);have bp:=hid fs;have db:Hid (b3.ownsRow F.heap.size 63 4 v1 k (ax k ZF)):=by have h:=r1;rw[Nat.zero_add,Xqx] at h;exact h
    clear Q r1 r2 br ar bo fr fs;simp only[Act.put,Qvq,Qwx,Qwz];refine(?_:wpList _ _ _ [] _ _);go_wp2_with fail;refine⟨jp.no (Qqx bp.out),?_⟩;refine dj 11 rfl ?_;have md:Hid (jb b3 (some ⟨bm,om,none⟩) x.ms.n ZF):=by have h:jb b3 x.ms.a x.ms.n ZF:=(f6.out.below bp.out).hds;rw[i7.out] at h;exact h
    refine wpList_append_own b3 rfl (.tmp 124) (.tmp 129) 29 rfl F.heap.size 63 iM (.agg #[.int .i64 0,.int .i64 0,.int .i64 0,.int .i64 0]) 4 32 Tryz.underlying29 hM f8 gu gt rfl (by decide) v1 k (ax k ZF) rfl db.out ⟨bm,om+(k+1)*4,none⟩ (x.ms.n-(k+1)) _ (ax (x.ms.n-(k+1)) (λj=>ZF (k+1+j))) rfl (ep _ _) (λj u hj=>by rw[vo];exact md.out.flat (q:=k+1) (m:=x.ms.n-(k+1)) (by omega) hj) (ma _ _) (by unfold maxLen;omega) (by omega) bp.out.size ?_;intro v2 bc r3 r4 _;have e5:Below F.heap.size F bc:=bp.out.grown r4 bp.out.size (λk e=>Cj db.out e);have dh:bc.ownsRow F.heap.size 63 4 v2 (x.ms.n-1) (ax (x.ms.n-1) (fp ZF k)):=by
     rw[tw x.ms.n ZF k hk];have ey:=r3;rw[show k+(x.ms.n-(k+1))=x.ms.n-1 by omega] at ey;exact ey
    obtain⟨E,rfl,dd,kn,kz⟩:=cy.ofRow dh nlr;have fh:Hid (fo F.heap.size bc 63 4 E.a E.c):=fo.ofOwns (a:=E.a) (n:=E.n) (c:=E.c) dh nlr;have b2:=qa3 dd kn kz;have H:=hid e5;clear r3 r4 e5 dh dd kn kz db bp md;simp only[Act.put,Qvq,Qwx,Qwz,Hs.val];refine(?_:wpList _ _ _ [] _ _);go_wp2_with fail;refine⟨jp.no (Qqx H.out),?_⟩;refine dj 12 rfl ?_;have Y:=S.out.box.below H.out;have zl:=Y.lt;have bs:=Y.frozen 3;have zc3:=Y.k 3;go_wp2_with fail;refine⟨jp.no (Qqx H.out),?_⟩;refine dj 13 rfl ?_;go_wp2_with fail;refine⟨jp.yes,?_⟩;clear zl bs zc3;have ev:Hid (de P.heap.size t U (withMoves x E) (bc.setCell ⟨t,3,none⟩ (.slice E.a E.n E.c))):=⟨((ai.below S.out.own H.out).withM (b2.out.1.mono S.out.le) (fh.out.mono S.out.le)).box Y 3 (.slice E.a E.n E.c),(Y.set 3 _).congr λj hj=>by match j,hj with|0,_=>rfl|1,_=>rfl|2,_=>rfl|3,_=>rfl|4,_=>rfl|5,_=>rfl|6,_=>rfl,(S.out.bel.trans (H.out.mono S.out.bel.size)).setCell (p:=⟨t,3,none⟩) (by show U.heap.size<=t;omega) _,by have h1:=S.out.le;have h2:=H.out.size;simp;omega⟩;have e4:Hid (Blk (bc.setCell ⟨t,3,none⟩ (.slice E.a E.n E.c)) BC 152 12 (ve (et s b g J))):=(b4.out.below H.out).other (a:=⟨t,3,none⟩) (Blk.ne2 (b4.out.below H.out) Y (by decide)) _;have fb:Hid (mv s b g seen (J+1) (withMoves x E)):=j3.out E (f7.out E b2.out.2.1 (λq hq=>by
     rw[b2.out.2.2,<-lf.out];unfold fp gy;by_cases c:q<k
     .rw[if_pos c,if_pos c,if_neg (by omega)]
     rw[if_neg c,if_neg c,if_neg (by omega)]))
    have a0:Hid (CoI P.heap.size t BC U s b g seen (J+1) (withMoves x E) (bc.setCell ⟨t,3,none⟩ (.slice E.a E.n E.c))):=⟨ev.out,by rw[HQ.out];exact e4.out,fb.out,by omega,by omega⟩;clear Y S H b2 fh ev e4 fb b4
    generalize bc.setCell ⟨t,3,none⟩ (.slice E.a E.n E.c)=qi at *
    refine NoPanic.normal ?_;go_wp2_with fail;go_roundw
    case rel=>exact⟨_,a0.out.num⟩
    case measure=>exact e8.out _ _ a0.out.num (by have:=a0.out.jm;omega)
  refine jt (λM=>∃p:Regrown,M=grow (redrawn F p.d) p.os) [1,2,3,4,6,7,8,9,10] [0] [(false,5),(false,11),(false,12),(true,13)] (Qqx (brf.drew)) ?_;simp only[dv,Qyq,Xqq,Qyx,Qyz,Xqz,Xqx]
  repeat(go_big_quiet_step(fail))
  refine Qqz ?_;clear mb;have ld:=hid kx;clear kx;refine⟨λj v g f=>∃B,v = .slice (some ⟨B,0,none⟩) 0 0/\g=[B]/\F.heap.size<=B/\f.heap[B]?=some (.cells #[] 63 (0,0)),
   Qjx ⟨λv g w M hB h=>⟨h.choose,h.choose_spec.1,h.choose_spec.2.1,h.choose_spec.2.2.1,(hB.block _ (Qkq h.choose_spec.2.2.2).1).trans h.choose_spec.2.2.2⟩,Qjq _⟩,
   Qjx ⟨λv g w h=>by obtain⟨B,-,h2,-,h4⟩:=h;rw[h2];intro x hx;rw[List.mem_singleton] at hx;rw[hx];exact(Qkq h4).1,Qjq _⟩,
   Qjx ⟨?zt0,Qjq _⟩,?ztdone⟩
  case zt0 =>
   intro V G f K hS hd hK;have Q:=af hS;refine ay 0 rfl ?_;simp only[am,bu,Qvz,Qvx,Act.put,Qvq,Qwx,Qwz] at hK ⊢;go_wp2_with fail;exact hK _ [f.heap.size] _ (Qqx (Q.alloc Q.size _)) (brf.alloc nlr _) (λx hx=>by rw[List.mem_singleton] at hx;omega) ⟨f.heap.size,rfl,rfl,Q.size,heap_alloc_new f _⟩
  case ztdone =>
   intro V G' f hS hD hA;obtain⟨BV,er,e6,bo,ar⟩:∃B,V 0 = .slice (some ⟨B,0,none⟩) 0 0/\G' 0=[B]/\F.heap.size<=B/\f.heap[B]?=some (.cells #[] 63 (0,0)):=hD 0 (by simp);have Q:=af hS;clear hS hD hA e6;simp only[am,bu,Qvz,Qvx,Act.put,Qvq,Qwx,Qwz,er];have br:f.ownsRow F.heap.size 63 4 (.slice (some ⟨BV,0,none⟩) 0 0) 0 []:=⟨rfl,Or.inr ⟨BV,0,#[],rfl,bo,ar,Nat.le_refl _,Qxz _,rfl,rfl⟩⟩;have fr:Hid (jb f (some ⟨bm,om,none⟩) x.ms.n ZF/\Below F.heap.size F f):=⟨by have h:jb f x.ms.a x.ms.n ZF:=(f6.out.below Q).hds;rw[i7.out] at h;exact h,Q⟩;refine dj 5 rfl ?_;refine wpList_append_own f rfl (.tmp 119) (.tmp 123) 29 rfl F.heap.size 63 iM (.agg #[.int .i64 0,.int .i64 0,.int .i64 0,.int .i64 0]) 4 32 Tryz.underlying29 hM f8 gu gt rfl (by decide) _ 0 [] rfl br ⟨bm,om,none⟩ k _ (ax k ZF) rfl (ep _ _) (λj u hj=>by
    rw[vo];have h:=fr.out.1.flat (q:=0) (m:=k) (by omega) (j:=j) (u:=u) (by simpa using hj)
    simpa using h) (ma _ _) (by unfold maxLen;omega) (by omega) Q.size ?_
   intro v1 b3 r1 r2 _;have fs:Below F.heap.size F b3:=Q.grown r2 Q.size (λk e=>by cases e;exact bo);have bp:=hid fs;have db:Hid (b3.ownsRow F.heap.size 63 4 v1 k (ax k ZF)):=by have h:=r1;rw[Nat.zero_add,Xqx] at h;exact h
   clear Q r1 r2 br ar bo fr fs;simp only[Act.put,Qvq,Qwx,Qwz];refine(?_:wpList _ _ _ [] _ _);go_wp2_with fail;refine⟨jp.no (Qqx bp.out),?_⟩;refine dj 11 rfl ?_;refine wpList_append_own b3 rfl (.tmp 124) (.tmp 129) 29 rfl F.heap.size 63 iM (.agg #[.int .i64 0,.int .i64 0,.int .i64 0,.int .i64 0]) 4 32 Tryz.underlying29 hM f8 gu gt rfl (by decide) v1 k (ax k ZF) rfl db.out ⟨bm,om,none⟩ _ _ [] rfl (by first|rfl|(have:=ld.out;simp;omega)) (λj u hj=>by cases hj) (λu hu=>by cases hu) (by unfold maxLen;omega) (by omega) bp.out.size ?_;intro v2 bc r3 r4 _;have e5:Below F.heap.size F bc:=bp.out.grown r4 bp.out.size (λk e=>Cj db.out e);have dh:bc.ownsRow F.heap.size 63 4 v2 (x.ms.n-1) (ax (x.ms.n-1) (fp ZF k)):=by
    rw[tw x.ms.n ZF k hk];have hc:=ld.out;have e1:x.ms.n-(k+1)=0:=by omega
    rw[e1];have e2:x.ms.n-1=k:=by omega
    rw[e2]
    first|exact r3|(have ey:=r3;rw[e1] at ey;exact ey)
   obtain⟨E,rfl,dd,kn,kz⟩:=cy.ofRow dh nlr;have fh:Hid (fo F.heap.size bc 63 4 E.a E.c):=fo.ofOwns (a:=E.a) (n:=E.n) (c:=E.c) dh nlr;have b2:=qa3 dd kn kz;have H:=hid e5;clear r3 r4 e5 dh dd kn kz db bp;simp only[Act.put,Qvq,Qwx,Qwz,Hs.val];refine(?_:wpList _ _ _ [] _ _);go_wp2_with fail;refine⟨jp.no (Qqx H.out),?_⟩;refine dj 12 rfl ?_;have Y:=S.out.box.below H.out;have zl:=Y.lt;have bs:=Y.frozen 3;have zc3:=Y.k 3;go_wp2_with fail;refine⟨jp.no (Qqx H.out),?_⟩;refine dj 13 rfl ?_;go_wp2_with fail;refine⟨jp.yes,?_⟩;clear zl bs zc3;have ev:Hid (de P.heap.size t U (withMoves x E) (bc.setCell ⟨t,3,none⟩ (.slice E.a E.n E.c))):=⟨((ai.below S.out.own H.out).withM (b2.out.1.mono S.out.le) (fh.out.mono S.out.le)).box Y 3 (.slice E.a E.n E.c),(Y.set 3 _).congr λj hj=>by match j,hj with|0,_=>rfl|1,_=>rfl|2,_=>rfl|3,_=>rfl|4,_=>rfl|5,_=>rfl|6,_=>rfl,(S.out.bel.trans (H.out.mono S.out.bel.size)).setCell (p:=⟨t,3,none⟩) (by show U.heap.size<=t;omega) _,by have h1:=S.out.le;have h2:=H.out.size;simp;omega⟩;have e4:Hid (Blk (bc.setCell ⟨t,3,none⟩ (.slice E.a E.n E.c)) BC 152 12 (ve (et s b g J))):=(b4.out.below H.out).other (a:=⟨t,3,none⟩) (Blk.ne2 (b4.out.below H.out) Y (by decide)) _;have fb:Hid (mv s b g seen (J+1) (withMoves x E)):=j3.out E (f7.out E b2.out.2.1 (λq hq=>by
    rw[b2.out.2.2,<-lf.out];unfold fp gy;by_cases c:q<k
    .rw[if_pos c,if_pos c,if_neg (by omega)]
    rw[if_neg c,if_neg c,if_neg (by omega)]))
   have a0:Hid (CoI P.heap.size t BC U s b g seen (J+1) (withMoves x E) (bc.setCell ⟨t,3,none⟩ (.slice E.a E.n E.c))):=⟨ev.out,by rw[HQ.out];exact e4.out,fb.out,by omega,by omega⟩;clear Y S H b2 fh ev e4 fb b4
   generalize bc.setCell ⟨t,3,none⟩ (.slice E.a E.n E.c)=qi at *
   refine NoPanic.normal ?_;go_wp2_with fail;go_roundw
   case rel=>exact⟨_,a0.out.num⟩
   case measure=>exact e8.out _ _ a0.out.num (by have:=a0.out.jm;omega)
theorem aa4(p:Pl)(s:St)(x:Ax)(w:World)(hp:p.At w)(hs:s.At w)(hx:x.ls.At w)(o:x.k=1):
  Calls Tryz.prog 21 #[p.val,s.val,x.val] w λe P=>∃y:St,e = .returned (.tuple #[y.val,.int .i64 (doE p s x)])/\y.At P/\du (doE p s x) (doT p s x) y/\(doE p s x=0->ai w.heap.size P y)/\Below w.heap.size w P:=by
 obtain⟨W0,G,HC,D,T,⟨⟨l1,d0,d1⟩,l2,c0,c1,c2,c3,c4,c5,c6⟩,⟨S,X,W,x3,x4,x5,Y⟩,zl,i,t,c,zc1,g,zc2,l,zc3,A,zc4,r,zc5,q,j⟩:=o7 p s x w hp hs hx;rw[<-G.out] at l1 d0 d1 l2 c0 c1 c2 c3 c4 c5 c6 S X W x3 x4 x5 Y zl i t c zc1 g zc2 l zc3 A zc4 r zc5 q j;clear hp hs hx;unfold Pl.val St.val Ax.val Ax.cells;go_enter Tryz.func21,Tryz.ntmps21;obtain⟨d,B⟩:∃d,x.k=d:=⟨_,rfl⟩;have HK:Hid (x.k=d):=B;rw[B] at S G ⊢;clear B;have u:d=1:=HK.out.symm.trans o;have f:Hid (doE p s x=gt p s x.a x.b x.n/\doT p s x=li s x.a.toNat x.b.toNat x.n):=by
  have o:x.k=1:=HK.out.trans u;refine⟨?_,?_⟩
  .show(if x.k=1 then _ else _)=_;rw[o]
   rfl
  show(if x.k=1 then _ else _)=_;rw[o]
  rfl
 have g1:(d==1)=true:=by rw[u];rfl
 clear u o;go_wp2_with fail;rw[G.out];clear l1 d0 d1 l2 c0 c1 c2 c3 c4 c5 c6 S X W x3 x4 x5 Y zl i t c zc1 g zc2 l zc3 A zc4 r zc5 q j;refine Calls.mono (Ka p s x.a x.b x.n W0 D.out.1 D.out.2.1) ?_;rintro e V ⟨y,rfl,L,J,E,hB⟩;have F:Hid (y.At V/\du (doE p s x) (doT p s x) y/\(doE p s x=0->ai W0.heap.size V y)):=by
  refine⟨L,?_,?_⟩
  .rw[f.out.1,f.out.2];exact J
  rw[f.out.1];exact E
 have H:=hid f.out.1;rw[<-H.out];obtain⟨-,-,-,af,Q,-,-⟩:=HC.out V hB;clear f H L J E D G g1;obtain⟨U,m⟩:∃U,doE p s x=U:=⟨_,rfl⟩;have av:=hid m;rw[m];clear m;obtain⟨zl,i,t,c,zc1,g,zc2,l,zc3,A,zc4,r,zc5,q,j⟩:=z7 Q;simp only[St.val];go_wp2_with fail;have KZ:=s7b Q y;have M:=s7w (b:=w.heap.size+3) af (by omega) y;have z:=λh=>s7o (F.out.2.2 h) Q y;have K:=qd F.out.2.1 F.out.1 z;unfold set7 at KZ M K z;obtain⟨ap,ao,ak,au,ar,aw,aj⟩:=cn KZ;refine Xzq (v := .tuple #[y.val,.int .i64 U]) (by simp[results,Tryz.results21,go_sem,St.val,ap,ao,ak,au,ar,aw,aj]) rfl ?_;exact⟨y,by rw[av.out];rfl,K,F.out.2.1,λh=>(z h).mono T.out,M⟩
theorem aa5(p:Pl)(s:St)(x:Ax)(w:World)(hp:p.At w)(hs:s.At w)(hx:x.ls.At w)(o:x.k=2):
  Calls Tryz.prog 21 #[p.val,s.val,x.val] w λe L=>∃y:St,e = .returned (.tuple #[y.val,.int .i64 (doE p s x)])/\y.At L/\du (doE p s x) (doT p s x) y/\(doE p s x=0->ai w.heap.size L y)/\Below w.heap.size w L:=by
 obtain⟨W0,E,HC,c,Q,⟨⟨l1,d0,d1⟩,l2,c0,c1,c2,c3,c4,c5,c6⟩,⟨P,V,U,x3,x4,x5,W⟩,zl,j,t,f,zc1,i,zc2,m,zc3,z,zc4,r,zc5,q,l⟩:=o7 p s x w hp hs hx;rw[<-E.out] at l1 d0 d1 l2 c0 c1 c2 c3 c4 c5 c6 P V U x3 x4 x5 W zl j t f zc1 i zc2 m zc3 z zc4 r zc5 q l;clear hp hs hx;unfold Pl.val St.val Ax.val Ax.cells;go_enter Tryz.func21,Tryz.ntmps21;obtain⟨d,A⟩:∃d,x.k=d:=⟨_,rfl⟩;have X:Hid (x.k=d):=A;rw[A] at P E ⊢;clear A;have a:d=2:=X.out.symm.trans o;have g:Hid (doE p s x=gp p s x.ls/\doT p s x=kj s x.ls):=by
  have o:x.k=2:=X.out.trans a;refine⟨?_,?_⟩
  .show(if x.k=1 then _ else _)=_;rw[o]
   rfl
  show(if x.k=1 then _ else _)=_;rw[o]
  rfl
 have g1:(d==1)=false:=by rw[a];rfl
 have g2:(d==2)=true:=by rw[a];rfl
 clear a o;go_wp2_with fail;rw[E.out];clear l1 d0 d1 l2 c0 c1 c2 c3 c4 c5 c6 P V U x3 x4 x5 W zl j t f zc1 i zc2 m zc3 z zc4 r zc5 q l;refine Calls.mono (M7 p s x.ls W0 c.out.1 c.out.2.1 c.out.2.2) ?_;rintro e T ⟨y,rfl,J,G,B,hB⟩;have D:Hid (y.At T/\du (doE p s x) (doT p s x) y/\(doE p s x=0->ai W0.heap.size T y)):=by
  refine⟨J,?_,?_⟩
  .rw[g.out.1,g.out.2];exact G
  rw[g.out.1];exact B
 have F:=hid g.out.1;rw[<-F.out];obtain⟨-,-,-,ad,M,-,-⟩:=HC.out T hB;clear g F J G B c E g1 g2;obtain⟨S,n⟩:∃S,doE p s x=S:=⟨_,rfl⟩;have ar:=hid n;rw[n];clear n;obtain⟨zl,j,t,f,zc1,i,zc2,m,zc3,z,zc4,r,zc5,q,l⟩:=z7 M;simp only[St.val];go_wp2_with fail;have Y:=s7b M y;have K:=s7w (b:=w.heap.size+3) ad (by omega) y;have u:=λh=>s7o (D.out.2.2 h) M y;have H:=qd D.out.2.1 D.out.1 u;unfold set7 at Y K H u;obtain⟨an,am,ah,aq,ap,au,ag⟩:=cn Y;refine Xzq (v := .tuple #[y.val,.int .i64 S]) (by simp[results,Tryz.results21,go_sem,St.val,an,am,ah,aq,ap,au,ag]) rfl ?_;exact⟨y,by rw[ar.out];rfl,H,D.out.2.1,λh=>(u h).mono Q.out,K⟩
theorem aa6(p:Pl)(s:St)(x:Ax)(w:World)(hp:p.At w)(hs:s.At w)(hx:x.ls.At w)(n:x.k=3):
  Calls Tryz.prog 21 #[p.val,s.val,x.val] w λe L=>∃y:St,e = .returned (.tuple #[y.val,.int .i64 (doE p s x)])/\y.At L/\du (doE p s x) (doT p s x) y/\(doE p s x=0->ai w.heap.size L y)/\Below w.heap.size w L:=by
 obtain⟨W0,E,HC,A,Q,⟨⟨l1,d0,d1⟩,l2,c0,c1,c2,c3,c4,c5,c6⟩,⟨P,V,U,x3,x4,x5,W⟩,zl,i,r,d,zc1,g,zc2,l,zc3,u,zc4,q,zc5,o,j⟩:=o7 p s x w hp hs hx;rw[<-E.out] at l1 d0 d1 l2 c0 c1 c2 c3 c4 c5 c6 P V U x3 x4 x5 W zl i r d zc1 g zc2 l zc3 u zc4 q zc5 o j;clear hp hs hx;unfold Pl.val St.val Ax.val Ax.cells;go_enter Tryz.func21,Tryz.ntmps21;obtain⟨c,z⟩:∃c,x.k=c:=⟨_,rfl⟩;have X:Hid (x.k=c):=z;rw[z] at P E ⊢;clear z;have a:c=3:=X.out.symm.trans n;have f:Hid (doE p s x=ag p s/\doT p s x=Em p s):=by
  have n:x.k=3:=X.out.trans a;refine⟨?_,?_⟩
  .show(if x.k=1 then _ else _)=_;rw[n]
   rfl
  show(if x.k=1 then _ else _)=_;rw[n]
  rfl
 have g1:(c==1)=false:=by rw[a];rfl
 have g2:(c==2)=false:=by rw[a];rfl
 have g3:(c==3)=true:=by rw[a];rfl
 clear a n;go_wp2_with fail;rw[E.out];clear l1 d0 d1 l2 c0 c1 c2 c3 c4 c5 c6 P V U x3 x4 x5 W zl i r d zc1 g zc2 l zc3 u zc4 q zc5 o j;refine Calls.mono (Kb p s  W0 A.out.1 A.out.2.1) ?_;rintro e T ⟨y,rfl,J,G,B,hB⟩;have D:Hid (y.At T/\du (doE p s x) (doT p s x) y/\(doE p s x=0->ai W0.heap.size T y)):=by
  refine⟨J,?_,?_⟩
  .rw[f.out.1,f.out.2];exact G.act
  rw[f.out.1];exact B
 have F:=hid f.out.1;rw[<-F.out];obtain⟨-,-,-,ad,M,-,-⟩:=HC.out T hB;clear f F J G B A E g1 g2 g3;obtain⟨S,m⟩:∃S,doE p s x=S:=⟨_,rfl⟩;have au:=hid m;rw[m];clear m;obtain⟨zl,i,r,d,zc1,g,zc2,l,zc3,u,zc4,q,zc5,o,j⟩:=z7 M;simp only[St.val];go_wp2_with fail;have Y:=s7b M y;have K:=s7w (b:=w.heap.size+3) ad (by omega) y;have t:=λh=>s7o (D.out.2.2 h) M y;have H:=qd D.out.2.1 D.out.1 t;unfold set7 at Y K H t;obtain⟨ao,an,aj,ar,aq,av,ah⟩:=cn Y;refine Xzq (v := .tuple #[y.val,.int .i64 S]) (by simp[results,Tryz.results21,go_sem,St.val,ao,an,aj,ar,aq,av,ah]) rfl ?_;exact⟨y,by rw[au.out];rfl,H,D.out.2.1,λh=>(t h).mono Q.out,K⟩
theorem aa7(p:Pl)(s:St)(x:Ax)(w:World)(hp:p.At w)(hs:s.At w)(hx:x.ls.At w)(o:x.k=4):
  Calls Tryz.prog 21 #[p.val,s.val,x.val] w λe M=>∃y:St,e = .returned (.tuple #[y.val,.int .i64 (doE p s x)])/\y.At M/\du (doE p s x) (doT p s x) y/\(doE p s x=0->ai w.heap.size M y)/\Below w.heap.size w M:=by
 obtain⟨W0,F,HC,B,S,⟨⟨l1,d0,d1⟩,l2,c0,c1,c2,c3,c4,c5,c6⟩,⟨Q,W,V,x3,x4,x5,X⟩,zl,j,t,f,zc1,i,zc2,m,zc3,z,zc4,r,zc5,q,l⟩:=o7 p s x w hp hs hx;rw[<-F.out] at l1 d0 d1 l2 c0 c1 c2 c3 c4 c5 c6 Q W V x3 x4 x5 X zl j t f zc1 i zc2 m zc3 z zc4 r zc5 q l;clear hp hs hx;unfold Pl.val St.val Ax.val Ax.cells;go_enter Tryz.func21,Tryz.ntmps21;obtain⟨d,A⟩:∃d,x.k=d:=⟨_,rfl⟩;have Y:Hid (x.k=d):=A;rw[A] at Q F ⊢;clear A;have c:d=4:=Y.out.symm.trans o;have g:Hid (doE p s x=fq p s x.a/\doT p s x=dr s x.a.toNat):=by
  have o:x.k=4:=Y.out.trans c;refine⟨?_,?_⟩
  .show(if x.k=1 then _ else _)=_;rw[o]
   rfl
  show(if x.k=1 then _ else _)=_;rw[o]
  rfl
 have g1:(d==1)=false:=by rw[c];rfl
 have g2:(d==2)=false:=by rw[c];rfl
 have g3:(d==3)=false:=by rw[c];rfl
 have g4:(d==4)=true:=by rw[c];rfl
 clear c o;go_wp2_with fail;rw[F.out];clear l1 d0 d1 l2 c0 c1 c2 c3 c4 c5 c6 Q W V x3 x4 x5 X zl j t f zc1 i zc2 m zc3 z zc4 r zc5 q l;refine Calls.mono (La p s x.a W0 B.out.1 B.out.2.1) ?_;rintro e U ⟨y,rfl,K,H,D,hB⟩;have E:Hid (y.At U/\du (doE p s x) (doT p s x) y/\(doE p s x=0->ai W0.heap.size U y)):=by
  refine⟨K,?_,?_⟩
  .rw[g.out.1,g.out.2];exact H
  rw[g.out.1];exact D
 have G:=hid g.out.1;rw[<-G.out];obtain⟨-,-,-,ae,P,-,-⟩:=HC.out U hB;clear g G K H D B F g1 g2 g3 g4;obtain⟨T,n⟩:∃T,doE p s x=T:=⟨_,rfl⟩;have au:=hid n;rw[n];clear n;obtain⟨zl,j,t,f,zc1,i,zc2,m,zc3,z,zc4,r,zc5,q,l⟩:=z7 P;simp only[St.val];go_wp2_with fail;have KZ:=s7b P y;have L:=s7w (b:=w.heap.size+3) ae (by omega) y;have u:=λh=>s7o (E.out.2.2 h) P y;have J:=qd E.out.2.1 E.out.1 u;unfold set7 at KZ L J u;obtain⟨ao,an,aj,ar,aq,av,ah⟩:=cn KZ;refine Xzq (v := .tuple #[y.val,.int .i64 T]) (by simp[results,Tryz.results21,go_sem,St.val,ao,an,aj,ar,aq,av,ah]) rfl ?_;exact⟨y,by rw[au.out];rfl,J,E.out.2.1,λh=>(u h).mono S.out,L⟩
theorem aa8(p:Pl)(s:St)(x:Ax)(w:World)(hp:p.At w)(hs:s.At w)(hx:x.ls.At w)(r:x.k=5):
  Calls Tryz.prog 21 #[p.val,s.val,x.val] w λe Q=>∃y:St,e = .returned (.tuple #[y.val,.int .i64 (doE p s x)])/\y.At Q/\du (doE p s x) (doT p s x) y/\(doE p s x=0->ai w.heap.size Q y)/\Below w.heap.size w Q:=by
 obtain⟨W0,H,HC,E,U,⟨⟨l1,d0,d1⟩,l2,c0,c1,c2,c3,c4,c5,c6⟩,⟨T,Y,X,x3,x4,x5,x6⟩,zl,l,z,g,zc1,j,zc2,o,zc3,B,zc4,u,zc5,t,m⟩:=o7 p s x w hp hs hx;rw[<-H.out] at l1 d0 d1 l2 c0 c1 c2 c3 c4 c5 c6 T Y X x3 x4 x5 x6 zl l z g zc1 j zc2 o zc3 B zc4 u zc5 t m;clear hp hs hx;unfold Pl.val St.val Ax.val Ax.cells;go_enter Tryz.func21,Tryz.ntmps21;obtain⟨f,D⟩:∃f,x.k=f:=⟨_,rfl⟩;have HK:Hid (x.k=f):=D;rw[D] at T H ⊢;clear D;have d:f=5:=HK.out.symm.trans r;have i:Hid (doE p s x=ir p s x.a x.b x.c x.n/\doT p s x=pi p s x.a.toNat x.b.toNat x.c.toNat x.n):=by
  have r:x.k=5:=HK.out.trans d;refine⟨?_,?_⟩
  .show(if x.k=1 then _ else _)=_;rw[r]
   rfl
  show(if x.k=1 then _ else _)=_;rw[r]
  rfl
 have g1:(f==1)=false:=by rw[d];rfl
 have g2:(f==2)=false:=by rw[d];rfl
 have g3:(f==3)=false:=by rw[d];rfl
 have g4:(f==4)=false:=by rw[d];rfl
 have g5:(f==5)=true:=by rw[d];rfl
 clear d r;go_wp2_with fail;rw[H.out];clear l1 d0 d1 l2 c0 c1 c2 c3 c4 c5 c6 T Y X x3 x4 x5 x6 zl l z g zc1 j zc2 o zc3 B zc4 u zc5 t m;refine Calls.mono (Pk p s x.a x.b x.c x.n W0 E.out.1 E.out.2.1) ?_;rintro e W ⟨y,rfl,M,K,F,hB⟩;have G:Hid (y.At W/\du (doE p s x) (doT p s x) y/\(doE p s x=0->ai W0.heap.size W y)):=by
  refine⟨M,?_,?_⟩
  .rw[i.out.1,i.out.2];exact K
  rw[i.out.1];exact F
 have J:=hid i.out.1;rw[<-J.out];obtain⟨-,-,-,ag,S,-,-⟩:=HC.out W hB;clear i J M K F E H g1 g2 g3 g4 g5;obtain⟨V,q⟩:∃V,doE p s x=V:=⟨_,rfl⟩;have aw:=hid q;rw[q];clear q;obtain⟨zl,l,z,g,zc1,j,zc2,o,zc3,B,zc4,u,zc5,t,m⟩:=z7 S;simp only[St.val];go_wp2_with fail;have KZ:=s7b S y;have P:=s7w (b:=w.heap.size+3) ag (by omega) y;have A:=λh=>s7o (G.out.2.2 h) S y;have L:=qd G.out.2.1 G.out.1 A;unfold set7 at KZ P L A;obtain⟨aq,ap,al,av,au,ax,ak⟩:=cn KZ;refine Xzq (v := .tuple #[y.val,.int .i64 V]) (by simp[results,Tryz.results21,go_sem,St.val,aq,ap,al,av,au,ax,ak]) rfl ?_;exact⟨y,by rw[aw.out];rfl,L,G.out.2.1,λh=>(A h).mono U.out,P⟩
theorem aa9(p:Pl)(s:St)(x:Ax)(w:World)(hp:p.At w)(hs:s.At w)(hx:x.ls.At w)(n:x.k=6):
  Calls Tryz.prog 21 #[p.val,s.val,x.val] w λe L=>∃y:St,e = .returned (.tuple #[y.val,.int .i64 (doE p s x)])/\y.At L/\du (doE p s x) (doT p s x) y/\(doE p s x=0->ai w.heap.size L y)/\Below w.heap.size w L:=by
 obtain⟨W0,E,HC,A,Q,⟨⟨l1,d0,d1⟩,l2,c0,c1,c2,c3,c4,c5,c6⟩,⟨P,V,U,x3,x4,x5,W⟩,zl,i,r,d,zc1,g,zc2,l,zc3,u,zc4,q,zc5,o,j⟩:=o7 p s x w hp hs hx;rw[<-E.out] at l1 d0 d1 l2 c0 c1 c2 c3 c4 c5 c6 P V U x3 x4 x5 W zl i r d zc1 g zc2 l zc3 u zc4 q zc5 o j;clear hp hs hx;unfold Pl.val St.val Ax.val Ax.cells;go_enter Tryz.func21,Tryz.ntmps21;obtain⟨c,z⟩:∃c,x.k=c:=⟨_,rfl⟩;have X:Hid (x.k=c):=z;rw[z] at P E ⊢;clear z;have a:c=6:=X.out.symm.trans n;have f:Hid (doE p s x=ag p s/\doT p s x=yp p s):=by
  have n:x.k=6:=X.out.trans a;refine⟨?_,?_⟩
  .show(if x.k=1 then _ else _)=_;rw[n]
   rfl
  show(if x.k=1 then _ else _)=_;rw[n]
  rfl
 have g1:(c==1)=false:=by rw[a];rfl
 have g2:(c==2)=false:=by rw[a];rfl
 have g3:(c==3)=false:=by rw[a];rfl
 have g4:(c==4)=false:=by rw[a];rfl
 have g5:(c==5)=false:=by rw[a];rfl
 have g6:(c==6)=true:=by rw[a];rfl
 clear a n;go_wp2_with fail;rw[E.out];clear l1 d0 d1 l2 c0 c1 c2 c3 c4 c5 c6 P V U x3 x4 x5 W zl i r d zc1 g zc2 l zc3 u zc4 q zc5 o j;refine Calls.mono (Pj p s  W0 A.out.1 A.out.2.1) ?_;rintro e T ⟨y,rfl,J,G,B,hB⟩;have D:Hid (y.At T/\du (doE p s x) (doT p s x) y/\(doE p s x=0->ai W0.heap.size T y)):=by
  refine⟨J,?_,?_⟩
  .rw[f.out.1,f.out.2];exact G
  rw[f.out.1];exact B
 have F:=hid f.out.1;rw[<-F.out];obtain⟨-,-,-,ad,M,-,-⟩:=HC.out T hB;clear f F J G B A E g1 g2 g3 g4 g5 g6;obtain⟨S,m⟩:∃S,doE p s x=S:=⟨_,rfl⟩;have au:=hid m;rw[m];clear m;obtain⟨zl,i,r,d,zc1,g,zc2,l,zc3,u,zc4,q,zc5,o,j⟩:=z7 M;simp only[St.val];go_wp2_with fail;have Y:=s7b M y;have K:=s7w (b:=w.heap.size+3) ad (by omega) y;have t:=λh=>s7o (D.out.2.2 h) M y;have H:=qd D.out.2.1 D.out.1 t;unfold set7 at Y K H t;obtain⟨ao,an,aj,ar,aq,av,ah⟩:=cn Y;refine Xzq (v := .tuple #[y.val,.int .i64 S]) (by simp[results,Tryz.results21,go_sem,St.val,ao,an,aj,ar,aq,av,ah]) rfl ?_;exact⟨y,by rw[au.out];rfl,H,D.out.2.1,λh=>(t h).mono Q.out,K⟩
theorem aba(p:Pl)(s:St)(x:Ax)(w:World)(hp:p.At w)(hs:s.At w)(hx:x.ls.At w)(q:x.k=7):
  Calls Tryz.prog 21 #[p.val,s.val,x.val] w λe P=>∃y:St,e = .returned (.tuple #[y.val,.int .i64 (doE p s x)])/\y.At P/\du (doE p s x) (doT p s x) y/\(doE p s x=0->ai w.heap.size P y)/\Below w.heap.size w P:=by
 obtain⟨W0,G,HC,D,T,⟨⟨l1,d0,d1⟩,l2,c0,c1,c2,c3,c4,c5,c6⟩,⟨S,X,W,x3,x4,x5,Y⟩,zl,j,u,f,zc1,i,zc2,m,zc3,A,zc4,t,zc5,r,l⟩:=o7 p s x w hp hs hx;rw[<-G.out] at l1 d0 d1 l2 c0 c1 c2 c3 c4 c5 c6 S X W x3 x4 x5 Y zl j u f zc1 i zc2 m zc3 A zc4 t zc5 r l;clear hp hs hx;unfold Pl.val St.val Ax.val Ax.cells;go_enter Tryz.func21,Tryz.ntmps21;obtain⟨d,B⟩:∃d,x.k=d:=⟨_,rfl⟩;have HK:Hid (x.k=d):=B;rw[B] at S G ⊢;clear B;have c:d=7:=HK.out.symm.trans q;have g:Hid (doE p s x=fk p s x.a x.n/\doT p s x=jd s x.a.toNat x.n):=by
  have q:x.k=7:=HK.out.trans c;refine⟨?_,?_⟩
  .show(if x.k=1 then _ else _)=_;rw[q]
   rfl
  show(if x.k=1 then _ else _)=_;rw[q]
  rfl
 have g1:(d==1)=false:=by rw[c];rfl
 have g2:(d==2)=false:=by rw[c];rfl
 have g3:(d==3)=false:=by rw[c];rfl
 have g4:(d==4)=false:=by rw[c];rfl
 have g5:(d==5)=false:=by rw[c];rfl
 have g6:(d==6)=false:=by rw[c];rfl
 have g7:(d==7)=true:=by rw[c];rfl
 clear c q;go_wp2_with fail;rw[G.out];clear l1 d0 d1 l2 c0 c1 c2 c3 c4 c5 c6 S X W x3 x4 x5 Y zl j u f zc1 i zc2 m zc3 A zc4 t zc5 r l;refine Calls.mono (M9 p s x.a x.n W0 D.out.1 D.out.2.1) ?_;rintro e V ⟨y,rfl,L,J,E,hB⟩;have F:Hid (y.At V/\du (doE p s x) (doT p s x) y/\(doE p s x=0->ai W0.heap.size V y)):=by
  refine⟨L,?_,?_⟩
  .rw[g.out.1,g.out.2];exact J
  rw[g.out.1];exact E
 have H:=hid g.out.1;rw[<-H.out];obtain⟨-,-,-,af,Q,-,-⟩:=HC.out V hB;clear g H L J E D G g1 g2 g3 g4 g5 g6 g7;obtain⟨U,o⟩:∃U,doE p s x=U:=⟨_,rfl⟩;have av:=hid o;rw[o];clear o;obtain⟨zl,j,u,f,zc1,i,zc2,m,zc3,A,zc4,t,zc5,r,l⟩:=z7 Q;simp only[St.val];go_wp2_with fail;have KZ:=s7b Q y;have M:=s7w (b:=w.heap.size+3) af (by omega) y;have z:=λh=>s7o (F.out.2.2 h) Q y;have K:=qd F.out.2.1 F.out.1 z;unfold set7 at KZ M K z;obtain⟨ap,ao,ak,au,ar,aw,aj⟩:=cn KZ;refine Xzq (v := .tuple #[y.val,.int .i64 U]) (by simp[results,Tryz.results21,go_sem,St.val,ap,ao,ak,au,ar,aw,aj]) rfl ?_;exact⟨y,by rw[av.out];rfl,K,F.out.2.1,λh=>(z h).mono T.out,M⟩
theorem abb(p:Pl)(s:St)(x:Ax)(w:World)(hp:p.At w)(hs:s.At w)(hx:x.ls.At w)(q:x.k=8):
  Calls Tryz.prog 21 #[p.val,s.val,x.val] w λe P=>∃y:St,e = .returned (.tuple #[y.val,.int .i64 (doE p s x)])/\y.At P/\du (doE p s x) (doT p s x) y/\(doE p s x=0->ai w.heap.size P y)/\Below w.heap.size w P:=by
 obtain⟨W0,G,HC,D,T,⟨⟨l1,d0,d1⟩,l2,c0,c1,c2,c3,c4,c5,c6⟩,⟨S,X,W,x3,x4,x5,Y⟩,zl,j,u,f,zc1,i,zc2,m,zc3,A,zc4,t,zc5,r,l⟩:=o7 p s x w hp hs hx;rw[<-G.out] at l1 d0 d1 l2 c0 c1 c2 c3 c4 c5 c6 S X W x3 x4 x5 Y zl j u f zc1 i zc2 m zc3 A zc4 t zc5 r l;clear hp hs hx;unfold Pl.val St.val Ax.val Ax.cells;go_enter Tryz.func21,Tryz.ntmps21;obtain⟨d,B⟩:∃d,x.k=d:=⟨_,rfl⟩;have HK:Hid (x.k=d):=B;rw[B] at S G ⊢;clear B;have c:d=8:=HK.out.symm.trans q;have g:Hid (doE p s x=fc p s x.a x.b x.n/\doT p s x=lu p s x.a.toNat x.b.toNat x.n):=by
  have q:x.k=8:=HK.out.trans c;refine⟨?_,?_⟩
  .show(if x.k=1 then _ else _)=_;rw[q]
   rfl
  show(if x.k=1 then _ else _)=_;rw[q]
  rfl
 have g1:(d==1)=false:=by rw[c];rfl
 have g2:(d==2)=false:=by rw[c];rfl
 have g3:(d==3)=false:=by rw[c];rfl
 have g4:(d==4)=false:=by rw[c];rfl
 have g5:(d==5)=false:=by rw[c];rfl
 have g6:(d==6)=false:=by rw[c];rfl
 have g7:(d==7)=false:=by rw[c];rfl
 have g8:(d==8)=true:=by rw[c];rfl
 clear c q;go_wp2_with fail;rw[G.out];clear l1 d0 d1 l2 c0 c1 c2 c3 c4 c5 c6 S X W x3 x4 x5 Y zl j u f zc1 i zc2 m zc3 A zc4 t zc5 r l;refine Calls.mono (R1 p s x.a x.b x.n W0 D.out.1 D.out.2.1) ?_;rintro e V ⟨y,rfl,L,J,E,hB⟩;have F:Hid (y.At V/\du (doE p s x) (doT p s x) y/\(doE p s x=0->ai W0.heap.size V y)):=by
  refine⟨L,?_,?_⟩
  .rw[g.out.1,g.out.2];exact J
  rw[g.out.1];exact E
 have H:=hid g.out.1;rw[<-H.out];obtain⟨-,-,-,af,Q,-,-⟩:=HC.out V hB;clear g H L J E D G g1 g2 g3 g4 g5 g6 g7 g8;obtain⟨U,o⟩:∃U,doE p s x=U:=⟨_,rfl⟩;have av:=hid o;rw[o];clear o;obtain⟨zl,j,u,f,zc1,i,zc2,m,zc3,A,zc4,t,zc5,r,l⟩:=z7 Q;simp only[St.val];go_wp2_with fail;have KZ:=s7b Q y;have M:=s7w (b:=w.heap.size+3) af (by omega) y;have z:=λh=>s7o (F.out.2.2 h) Q y;have K:=qd F.out.2.1 F.out.1 z;unfold set7 at KZ M K z;obtain⟨ap,ao,ak,au,ar,aw,aj⟩:=cn KZ;refine Xzq (v := .tuple #[y.val,.int .i64 U]) (by simp[results,Tryz.results21,go_sem,St.val,ap,ao,ak,au,ar,aw,aj]) rfl ?_;exact⟨y,by rw[av.out];rfl,K,F.out.2.1,λh=>(z h).mono T.out,M⟩
theorem aa3(p:Pl)(s:St)(x:Ax)(w:World)(B:p.At w)(hs:s.At w)(hx:x.ls.At w)(M:¬x.k=1)(T:¬x.k=2)(F:¬x.k=3)(D:¬x.k=4)(Q:¬x.k=5)(J:¬x.k=6)(G:¬x.k=7)(P:¬x.k=8):
  Calls Tryz.prog 21 #[p.val,s.val,x.val] w λe f=>∃y:St,e = .returned (.tuple #[y.val,.int .i64 (doE p s x)])/\y.At f/\du (doE p s x) (doT p s x) y/\(doE p s x=0->ai w.heap.size f y)/\Below w.heap.size w f:=by
 obtain⟨W0,r,HC,al,af,⟨⟨X,d0,d1⟩,l2,Y,c1,c2,c3,c4,c5,c6⟩,⟨L,V,x2,x3,x4,W,x6⟩,zl,u,E,t,zc1,K,zc2,A,zc3,H,zc4,U,zc5,S,z⟩:=o7 p s x w B hs hx;rw[<-r.out] at X d0 d1 l2 Y c1 c2 c3 c4 c5 c6 L V x2 x3 x4 W x6 zl u E t zc1 K zc2 A zc3 H zc4 U zc5 S z;clear B hs hx;unfold Pl.val St.val Ax.val Ax.cells;go_enter Tryz.func21,Tryz.ntmps21;obtain⟨a,d⟩:∃a,x.k=a:=⟨_,rfl⟩;have b:Hid (x.k=a):=d;rw[d] at L r ⊢;clear d;have g:¬a=1:=by rw[<-b.out];exact M
 have n2:¬a=2:=by rw[<-b.out];exact T
 have l:¬a=3:=by rw[<-b.out];exact F
 have j:¬a=4:=by rw[<-b.out];exact D
 have o:¬a=5:=by rw[<-b.out];exact Q
 have q:¬a=6:=by rw[<-b.out];exact J
 have i:¬a=7:=by rw[<-b.out];exact G
 have m:¬a=8:=by rw[<-b.out];exact P
 have n:Hid (doE p s x=8):=by
  show(if x.k=1 then _ else _)=_;rw[b.out,if_neg g,if_neg n2,if_neg l,if_neg j,if_neg o,if_neg q,if_neg i,if_neg m]
 have g1:(a==1)=false:=by simpa using g
 have g2:(a==2)=false:=by simpa using n2
 have g3:(a==3)=false:=by simpa using l
 have g4:(a==4)=false:=by simpa using j
 have g5:(a==5)=false:=by simpa using o
 have g6:(a==6)=false:=by simpa using q
 have g7:(a==7)=false:=by simpa using i
 have g8:(a==8)=false:=by simpa using m
 clear g n2 l j o q i m;have c:=(HC.out W0 brf).2.2.2.1;rw[<-r.out] at c;go_wp2_with fail;refine Xzq (v := .tuple #[l8.val,.int .i64 8]) (by simp[results,Tryz.results21,go_sem,l8,St.val]) rfl ?_;exact⟨l8,by rw[n.out];rfl,vy _,⟨λh=>absurd h (by rw[n.out];decide),λ_=>⟨rfl,rfl,rfl,rfl,rfl,rfl,rfl⟩⟩,λh=>absurd h (by rw[n.out];decide),c⟩
theorem Yc(p:Pl)(s:St)(x:Ax)(w:World)(a:p.At w)(hs:s.At w)(hx:x.ls.At w):
  Calls Tryz.prog 21 #[p.val,s.val,x.val] w λe b=>∃y:St,e = .returned (.tuple #[y.val,.int .i64 (doE p s x)])/\y.At b/\du (doE p s x) (doT p s x) y/\(doE p s x=0->ai w.heap.size b y)/\Below w.heap.size w b:=by
 by_cases f:x.k=1
 .exact aa4 p s x w a hs hx f
 by_cases g:x.k=2
 .exact aa5 p s x w a hs hx g
 by_cases c:x.k=3
 .exact aa6 p s x w a hs hx c
 by_cases l:x.k=4
 .exact aa7 p s x w a hs hx l
 by_cases d:x.k=5
 .exact aa8 p s x w a hs hx d
 by_cases j:x.k=6
 .exact aa9 p s x w a hs hx j
 by_cases h:x.k=7
 .exact aba p s x w a hs hx h
 by_cases i:x.k=8
 .exact abb p s x w a hs hx i
 exact aa3 p s x w a hs hx f g c l d j h i
def Ln(A:Nat)(w:World)(e:TypeId)(k:Nat)(a:Option Addr)(n c:Nat):Prop:=n<=c/\c<=maxLen/\(0<n->∃g,a=some ⟨g,0,none⟩/\A<=g/\∃f,Blk w g e (n*k) f)
theorem Ln.below{A:Nat}{w b:World}{e:TypeId}{k:Nat}{a:Option Addr}{n c:Nat}(h:Ln A w e k a n c)(d:Below w.heap.size w b):Ln A b e k a n c:=⟨h.1,h.2.1,λl=>by
 obtain⟨g,m,j,f,i⟩:=h.2.2 l;exact⟨g,m,j,f,i.below d⟩⟩
theorem Ln.set{A:Nat}{w:World}{e:TypeId}{k:Nat}{a:Option Addr}{n c:Nat}(h:Ln A w e k a n c)(q j:Nat)(v:Value):Ln A (w.setCell ⟨q,j,none⟩ v) e k a n c:=⟨h.1,h.2.1,λm=>by
 obtain⟨g,d,l,f,b⟩:=h.2.2 m;by_cases i:g=q
 .subst i;exact⟨g,d,l,_,b.set j v⟩
 exact⟨g,d,l,f,b.other (a:=⟨q,j,none⟩) i v⟩⟩
structure Lay(W0:World)(B7:Nat)(t:St)(w:World):Prop where
 on:t.on.n<=t.on.c/\t.on.c<=maxLen/\(0<t.on.n->∃g,t.on.a=some ⟨g,0,none⟩/\Blk w g 23 t.on.n (λi => .slice (t.on.r i).a (t.on.r i).n (t.on.r i).c))
 rows:∀i,i<t.on.n->Ln W0.heap.size w 3 1 (t.on.r i).a (t.on.r i).n (t.on.r i).c
 os:t.os.n<=t.os.c/\t.os.c<=maxLen/\(0<t.os.n->∃g,t.os.a=some ⟨g,0,none⟩/\Blk w g 57 (t.os.n*2) (λj=>(jh t.os.n t.os.z).getD j default))
 lines:∀i,i<t.os.n->Ln W0.heap.size w 59 4 (t.os.z i).ls.a (t.os.z i).ls.n (t.os.z i).ls.c
 hs:Ln W0.heap.size w 61 4 t.hs.a t.hs.n t.hs.c
 ms:Ln W0.heap.size w 63 4 t.ms.a t.ms.n t.ms.c
 si:Ln W0.heap.size w 3 1 t.si.a t.si.n t.si.c
 sf:Ln W0.heap.size w 3 1 t.sf.a t.sf.n t.sf.c
 box:Blk w B7 31 7 (λj=>t.cells.getD j default)
 bel:Below W0.heap.size W0 w
theorem Lay.set{l:World}{m:Nat}{t:St}{w:World}(h:Lay l m t w){q n:Nat}{e:TypeId}{f:Nat->Value}(c:Blk w q e n f)(u:l.heap.size<=q)(o:23≠e)(r:57≠e)(s:31≠e)(j:Nat)(v:Value):Lay l m t (w.setCell ⟨q,j,none⟩ v):=
 ⟨⟨h.on.1,h.on.2.1,λd=>by
  obtain⟨g,k,b⟩:=h.on.2.2 d;exact⟨g,k,b.other (a:=⟨q,j,none⟩) (Blk.ne2 b c o) v⟩⟩,λi hi=>(h.rows i hi).set q j v,⟨h.os.1,h.os.2.1,λd=>by
  obtain⟨g,k,b⟩:=h.os.2.2 d;exact⟨g,k,b.other (a:=⟨q,j,none⟩) (Blk.ne2 b c r) v⟩⟩,λi hi=>(h.lines i hi).set q j v,h.hs.set q j v,h.ms.set q j v,h.si.set q j v,h.sf.set q j v,h.box.other (a:=⟨q,j,none⟩) (Blk.ne2 h.box c s) v,h.bel.setCell (p:=⟨q,j,none⟩) u v⟩
theorem Lay.below{f:World}{j:Nat}{t:St}{w e:World}(h:Lay f j t w)(a:Below w.heap.size w e):Lay f j t e :=
 ⟨⟨h.on.1,h.on.2.1,λc=>by
  obtain⟨g,d,b⟩:=h.on.2.2 c;exact⟨g,d,b.below a⟩⟩,λi hi=>(h.rows i hi).below a,⟨h.os.1,h.os.2.1,λc=>by
  obtain⟨g,d,b⟩:=h.os.2.2 c;exact⟨g,d,b.below a⟩⟩,λi hi=>(h.lines i hi).below a,h.hs.below a,h.ms.below a,h.si.below a,h.sf.below a,h.box.below a,h.bel.trans (a.mono h.bel.size)⟩
theorem ai.lay{b:World}{o:Nat}{t:St}{w:World}(h:ai b.heap.size w t)(q:Blk w o 31 7 (λj=>t.cells.getD j default))(p:Below b.heap.size b w):Lay b o t w:=by
 have I:∀r:Rw,ju b.heap.size w r->Ln b.heap.size w 3 1 r.a r.n r.c:=λr ⟨g,a1,f,l,d,k⟩=>⟨l,d,λ_=>⟨g,a1,f,_,by rw[Nat.mul_one];exact k⟩⟩;have K:∀(e:TypeId) (r:Hs),cy b.heap.size e w r->Ln b.heap.size w e 4 r.a r.n r.c:=λe r ⟨a1,f,_,d⟩=>⟨a1,f,λm=>by
  obtain⟨g,b1,b2,b3⟩:=d m;exact⟨g,b1,b2,_,b3⟩⟩
 obtain⟨g,a1,f,l,d,k⟩:=h.on;refine⟨⟨l,d,λ_=>⟨g,a1,k⟩⟩,λi hi=>I _ (h.rows i hi),⟨h.os.le,h.os.cap,λm => ?_⟩,λi hi => ?_,K _ _ h.hs,K _ _ h.ms,I _ h.si,I _ h.sf,q,p⟩
 .obtain⟨g,b1,b2,b3⟩:=h.os.list m;exact⟨g,b1,b3⟩
 obtain⟨B,b1,b2,b3,b4,b5⟩:=h.os.lines i hi;exact⟨b3,b4,λ_=>⟨B,b1,b2,_,b5⟩⟩
theorem Y8{b:World}{c:Nat}{t:St}{w:World}(h:t.on.n=0/\t.os.n=0/\t.hs.n=0/\t.ms.n=0/\t.si.n=0/\t.so.n=0/\t.sf.n=0)(a:t.At w)(e:Blk w c 31 7 (λj=>t.cells.getD j default))(d:Below b.heap.size b w):Lay b c t w:=by
 obtain⟨p,o,f,m,l,k,g⟩:=h;exact⟨⟨a.on.le,a.on.cap,λh=>by omega⟩,λi hi=>by omega,⟨a.os.le,a.os.cap,λh=>by omega⟩,λi hi=>by omega,⟨a.hs.le,a.hs.cap,λh=>by omega⟩,⟨a.ms.le,a.ms.cap,λh=>by omega⟩,⟨a.si.le,a.si.cap,λh=>by omega⟩,⟨a.sf.le,a.sf.cap,λh=>by omega⟩,e,d⟩
theorem Lay.set4{m:World}{s:Nat}{t:St}{w:World}(h:Lay m s t w){q n:Nat}{e:TypeId}{f:Nat->Value}(j:Blk w q e n f)(k:m.heap.size<=q)(c:23≠e)(d:57≠e)(g:31≠e)(j0 b o p:Nat)(a i l r:Value):Lay m s t ((((w.setCell ⟨q,j0,none⟩ a).setCell ⟨q,b,none⟩ i).setCell ⟨q,o,none⟩ l).setCell ⟨q,p,none⟩ r):=
 (((h.set j k c d g j0 a).set (j.set j0 a) k c d g b i).set ((j.set j0 a).set b i) k c d g o l).set (((j.set j0 a).set b i).set o l) k c d g p r
theorem Lk(p:Pl)(s:St)(q:Ax)(w:World)(hp:p.At w)(hs:s.At w)(hl:q.ls.At w):
  Calls Tryz.prog 7 #[p.val,s.val,q.val] w λe w'=>e = .returned (.bool true)/\Below w.heap.size w w':=by
 obtain⟨W0,S,m,X0,XA⟩:∃W,((w.alloc (.cells #[.slice p.ab p.nb p.cb,.slice p.sa p.ns p.cs] 25)).alloc (.cells s.cells 31)).alloc (.cells q.cells 47)=W/\Below w.heap.size w W/\lq W w.heap.size (w.heap.size+1) p s/\Blk W (w.heap.size+1+1) 47 6 (λj=>q.cells.getD j default):=⟨_,rfl,(js _ _ _).alloc (by simp;omega) _,(nk w p s _ _).below (brf.alloc nlr _),Blk.mk' (cur:=q.cells) (by simp) rfl⟩;have HC:Hid (∀B,Below W0.heap.size W0 B->lq B w.heap.size (w.heap.size+1) p s/\p.At B/\s.At B/\Below w.heap.size w B/\q.ls.At B):=λB h=>⟨X0.below h,(hp.below m).below h,(hs.below m).below h,m.trans (h.mono m.size),(hl.below m).below h⟩;have P:Hid (((w.alloc (.cells #[.slice p.ab p.nb p.cb,.slice p.sa p.ns p.cs] 25)).alloc (.cells #[.slice s.on.a s.on.n s.on.c,.slice s.os.a s.os.n s.os.c,.slice s.hs.a s.hs.n s.hs.c,.slice s.ms.a s.ms.n s.ms.c,.slice s.si.a s.si.n s.si.c,.slice s.so.a s.so.n s.so.c,.slice s.sf.a s.sf.n s.sf.c] 31)).alloc (.cells #[.int .i64 q.k,.int .i64 q.a,.int .i64 q.b,.int .i64 q.c,.int .i64 q.n,.slice q.ls.a q.ls.n q.ls.c] 47)=W0):=S;have bg:Hid (∀B,Below W0.heap.size W0 B->Blk B (w.heap.size+1+1) 47 6 (λj=>q.cells.getD j default)):=λB h=>XA.below h;clear S X0 XA hp hs hl;unfold Pl.val St.val Ax.val Ax.cells;go_enter Tryz.func7,Tryz.ntmps7;go_wp2_with fail;rw[P.out];obtain⟨X,F,v,K,H⟩:=HC.out W0 brf;refine(kf p s W0 F v).mono ?_;rintro e w1 ⟨rfl,hB⟩;clear X F v K H P;by_cases h0:ag p s=0;rotate_left
 .have g0:(ag p s !=0)=true:=by simpa using h0
  go_wp2_with fail;refine(Ib w1).mono ?_;rintro e w2 ⟨rfl,Y⟩;go_wp2_with fail;go_ret;exact⟨rfl,(HC.out w2 (hB.trans (Y.mono hB.size))).2.2.2.1⟩
 have HR:Hid (au p s):=ed h0;rw[h0];clear h0;obtain⟨⟨⟨l1,d0,d1⟩,l2,V,c1,c2,c3,c4,c5,c6⟩,F,v,K,H⟩:=HC.out w1 hB;have b9:Hid (Calls Tryz.prog 20 #[s.val] w1 λe w'=>∃s':St,e = .returned s'.val/\ae s' s/\ai w1.heap.size w' s'/\Below w1.heap.size w1 w'):=ny p s w1 v HR.out.fm;clear F v K H;go_wp2_with fail;refine Calls.mono b9.out ?_;rintro e w2 ⟨z,rfl,a4,br,Y⟩;clear b9 l1 d0 d1 l2 V c1 c2 c3 c4 c5 c6;have Y:=hB.trans (Y.mono hB.size);clear hB;obtain⟨E,S,m,KZ⟩:=ab7 w2 z;have P:=hid S;have dk:=hid a4.symm;have a8:=Y.trans (m.mono Y.size);have b2:=qa2 (br.at.below m) KZ;have a9:=hid a8;simp only[St.val];obtain⟨⟨⟨l1,d0,d1⟩,l2,V,c1,c2,c3,c4,c5,c6⟩,F,v,K,H⟩:=HC.out E a8;have D:=bg.out E a8;have q0:E.cell? ⟨w.heap.size+1+1,0,none⟩=some (.int .i64 q.k):=D.k 0;have J:E.cell? ⟨w.heap.size+1+1,1,none⟩=some (.int .i64 q.a):=D.k 1;have q2:E.cell? ⟨w.heap.size+1+1,2,none⟩=some (.int .i64 q.b):=D.k 2;have q3:E.cell? ⟨w.heap.size+1+1,3,none⟩=some (.int .i64 q.c):=D.k 3;have q4:E.cell? ⟨w.heap.size+1+1,4,none⟩=some (.int .i64 q.n):=D.k 4;have q5:E.cell? ⟨w.heap.size+1+1,5,none⟩=some (.slice q.ls.a q.ls.n q.ls.c):=D.k 5;have q6:=D.lt;clear D S m KZ a4 br Y a8 F v K H;rw[<-P.out] at l1 d0 d1 l2 V c1 c2 c3 c4 c5 c6 q0 J q2 q3 q4 q5 q6;go_wp2_with fail;rw[P.out];clear P l1 d0 d1 l2 V c1 c2 c3 c4 c5 c6 q0 J q2 q3 q4 q5 q6
 generalize w2.heap.size=BZ at *
 obtain⟨X,F,v,K,H⟩:=HC.out E a9.out;refine(Lc p s q E F v H).mono ?_;rintro e w4 ⟨x,rfl,cg,ch,bq,bd⟩;clear X F v K H;obtain⟨W5,S,m,KX⟩:=ab7 w4 x;have P:=hid S;have o:Hid (Lay E w4.heap.size x W5):=by
  have l:=bd.trans (m.mono bd.size);by_cases hE:doE p s q=0
  .exact((bq hE).below m).lay KX l
  obtain⟨n1,n2,n3,n4,n5,n6,n7⟩:=ch.2 hE;exact Y8 ⟨n1,n2,n3,n4,n5,n6,n7⟩ (cg.below m) KX l
 clear S m KX cg ch bq bd;simp only[St.val];go_wp2_with fail;rw[P.out];clear P
 generalize w4.heap.size=G at *
 go_loopw [10] (λt B=>∃k:Nat,k<=x.on.n/\t = .int .i64 k/\Hid (Lay E G x B)) (λt _=>x.on.n-(intOf t).toNat)
 case atStart=>exact⟨0,Qxz _,rfl,o⟩
 rename_i u;obtain⟨k,hk,rfl,d⟩:=hrel;clear o;have bc:wr.cell? ⟨G,0,none⟩=some (.slice x.on.a x.on.n x.on.c):=d.out.box.k 0;have Q:=d.out.box.lt;have le:=d.out.on.1;have cap:=d.out.on.2.1;unfold maxLen at cap;by_cases A:k<x.on.n
 .have q0:(0:Int)<=(k:Int):=by omega
  have J:(k:Int)<(x.on.n:Int):=by omega
  have o:=d;clear d;go_wp2_with fail;clear bc Q
  go_loopw [11] (λt B=>∃j:Nat,j<=(x.on.r k).n/\t = .int .i64 j/\Hid (Lay E G x B)) (λt _=>(x.on.r k).n-(intOf t).toNat)
  case atStart=>exact⟨0,Qxz _,rfl,o⟩
  rename_i u2;obtain⟨j,hj,rfl,d⟩:=hrel;clear o;have bc:wr.cell? ⟨G,0,none⟩=some (.slice x.on.a x.on.n x.on.c):=d.out.box.k 0;have Q:=d.out.box.lt;obtain⟨g0,av,U⟩:=d.out.on.2.2 (by omega);rw[av] at bc;have r0:=U.lt;have rc:=U.cell (j:=k) A;have de:=(d.out.rows k A).1;have ax:=(d.out.rows k A).2.1;unfold maxLen at ax;clear U av;by_cases cz:j<(x.on.r k).n
  .obtain⟨g,L,M,f,l⟩:=(d.out.rows k A).2.2 (by omega);rw[L] at rc;have q2:(0:Int)<=(j:Int):=by omega
   have q3:(j:Int)<((x.on.r k).n:Int):=by omega
   have yl:=l.lt;have y0:=l.cell (j:=j) (by omega);have f0:=l.frozen j
   generalize f j=V0 at y0
   have HN:Hid (Lay E G x (wr.setCell ⟨g,j,none⟩ (.int .i64 (-9)))):=d.out.set l M (by decide) (by decide) (by decide) j _;clear l L M;go_wp2_with fail;go_roundw
   case rel=>exact⟨j+1,by omega,by go_num,HN.out⟩
   case measure=>simp[intOf];omega
  have q3:¬(j:Int)<((x.on.r k).n:Int):=by omega
  have o:=d;clear d;go_wp2_with fail;go_roundw
  case rel=>exact⟨k+1,by omega,by go_num,o.out⟩
  case measure=>simp[intOf];omega
 have J:¬(k:Int)<(x.on.n:Int):=by omega
 have o:=d;clear d A;go_wp2_with fail;clear bc Q le cap J hk
 go_loopw [12] (λt B=>∃k:Nat,k<=x.os.n/\t = .int .i64 k/\Hid (Lay E G x B)) (λt _=>x.os.n-(intOf t).toNat)
 case atStart=>exact⟨0,Qxz _,rfl,o⟩
 rename_i u;obtain⟨k,hk,rfl,d⟩:=hrel;clear o;have bc:wr.cell? ⟨G,1,none⟩=some (.slice x.os.a x.os.n x.os.c):=d.out.box.k 1;have Q:=d.out.box.lt;have le:=d.out.os.1;have cap:=d.out.os.2.1;unfold maxLen at cap;by_cases A:k<x.os.n
 .have q0:(0:Int)<=(k:Int):=by omega
  have J:(k:Int)<(x.os.n:Int):=by omega
  have o:=d;clear d;go_wp2_with fail;clear bc Q
  go_loopw [13] (λt B=>∃j:Nat,j<=(x.os.z k).ls.n/\t = .int .i64 j/\Hid (Lay E G x B)) (λt _=>(x.os.z k).ls.n-(intOf t).toNat)
  case atStart=>exact⟨0,Qxz _,rfl,o⟩
  rename_i u2;obtain⟨j,hj,rfl,d⟩:=hrel;clear o;have bc:wr.cell? ⟨G,1,none⟩=some (.slice x.os.a x.os.n x.os.c):=d.out.box.k 1;have Q:=d.out.box.lt;obtain⟨g0,av,U⟩:=d.out.os.2.2 (by omega);rw[av] at bc;have r0:=U.lt;have bf:=U.cell (j:=k*2+1) (by omega);rw[pa (z:=x.os.z) A (show 1<2 by decide)] at bf;have rc:wr.cell? ⟨g0,k*2+1,none⟩=some (.slice (x.os.z k).ls.a (x.os.z k).ls.n (x.os.z k).ls.c):=bf;clear bf;have de:=(d.out.lines k A).1;have ax:=(d.out.lines k A).2.1;unfold maxLen at ax;clear U av;by_cases cz:j<(x.os.z k).ls.n
  .obtain⟨g,L,M,f,l⟩:=(d.out.lines k A).2.2 (by omega);rw[L] at rc;have q2:(0:Int)<=(j:Int):=by omega
   have q3:(j:Int)<((x.os.z k).ls.n:Int):=by omega
   have yl:=l.lt;have y0:=l.cell (j:=j*4) (by omega);have f0:=l.frozen (j*4)
   generalize f (j*4)=V0 at y0
   have y1:=l.cell (j:=j*4+1) (by omega);have f1:=l.frozen (j*4+1)
   generalize f (j*4+1)=V1 at y1
   have y2:=l.cell (j:=j*4+2) (by omega);have f2:=l.frozen (j*4+2)
   generalize f (j*4+2)=V2 at y2
   have y3:=l.cell (j:=j*4+3) (by omega);have f3:=l.frozen (j*4+3)
   generalize f (j*4+3)=V3 at y3
   have HN:Hid (Lay E G x ((((wr.setCell ⟨g,j*4,none⟩ (.int .i64 0)).setCell ⟨g,j*4+1,none⟩ (.int .i64 0)).setCell ⟨g,j*4+2,none⟩ (.int .i64 0)).setCell ⟨g,j*4+3,none⟩ (.int .i64 0))):=d.out.set4 l M (by decide) (by decide) (by decide) _ _ _ _ _ _ _ _;clear l L M;go_wp2_with fail;go_roundw
   case rel=>exact⟨j+1,by omega,by go_num,HN.out⟩
   case measure=>simp[intOf];omega
  have q3:¬(j:Int)<((x.os.z k).ls.n:Int):=by omega
  have o:=d;clear d;go_wp2_with fail;go_roundw
  case rel=>exact⟨k+1,by omega,by go_num,o.out⟩
  case measure=>simp[intOf];omega
 have J:¬(k:Int)<(x.os.n:Int):=by omega
 have o:=d;clear d A;go_wp2_with fail;clear bc Q le cap J hk
 go_loopw [14] (λt B=>∃k:Nat,k<=x.hs.n/\t = .int .i64 k/\Hid (Lay E G x B)) (λt _=>x.hs.n-(intOf t).toNat)
 case atStart=>exact⟨0,Qxz _,rfl,o⟩
 rename_i u;obtain⟨k,hk,rfl,d⟩:=hrel;clear o;have bc:wr.cell? ⟨G,2,none⟩=some (.slice x.hs.a x.hs.n x.hs.c):=d.out.box.k 2;have Q:=d.out.box.lt;have le:=d.out.hs.1;have cap:=d.out.hs.2.1;unfold maxLen at cap;by_cases A:k<x.hs.n
 .obtain⟨g,L,M,f,l⟩:=d.out.hs.2.2 (by omega);rw[L] at bc;have q0:(0:Int)<=(k:Int):=by omega
  have J:(k:Int)<(x.hs.n:Int):=by omega
  have yl:=l.lt;have y0:=l.cell (j:=k*4) (by omega);have f0:=l.frozen (k*4)
  generalize f (k*4)=V0 at y0
  have y1:=l.cell (j:=k*4+1) (by omega);have f1:=l.frozen (k*4+1)
  generalize f (k*4+1)=V1 at y1
  have y2:=l.cell (j:=k*4+2) (by omega);have f2:=l.frozen (k*4+2)
  generalize f (k*4+2)=V2 at y2
  have y3:=l.cell (j:=k*4+3) (by omega);have f3:=l.frozen (k*4+3)
  generalize f (k*4+3)=V3 at y3
  have HN:Hid (Lay E G x ((((wr.setCell ⟨g,k*4,none⟩ (.int .i64 0)).setCell ⟨g,k*4+1,none⟩ (.int .i64 0)).setCell ⟨g,k*4+2,none⟩ (.int .i64 0)).setCell ⟨g,k*4+3,none⟩ (.int .i64 0))):=d.out.set4 l M (by decide) (by decide) (by decide) _ _ _ _ _ _ _ _;clear l L M;go_wp2_with fail;go_roundw
  case rel=>exact⟨k+1,by omega,by go_num,HN.out⟩
  case measure=>simp[intOf];omega
 have J:¬(k:Int)<(x.hs.n:Int):=by omega
 have o:=d;clear d A;go_wp2_with fail;clear bc Q le cap J hk
 go_loopw [15] (λt B=>∃k:Nat,k<=x.ms.n/\t = .int .i64 k/\Hid (Lay E G x B)) (λt _=>x.ms.n-(intOf t).toNat)
 case atStart=>exact⟨0,Qxz _,rfl,o⟩
 rename_i u;obtain⟨k,hk,rfl,d⟩:=hrel;clear o;have bc:wr.cell? ⟨G,3,none⟩=some (.slice x.ms.a x.ms.n x.ms.c):=d.out.box.k 3;have Q:=d.out.box.lt;have le:=d.out.ms.1;have cap:=d.out.ms.2.1;unfold maxLen at cap;by_cases A:k<x.ms.n
 .obtain⟨g,L,M,f,l⟩:=d.out.ms.2.2 (by omega);rw[L] at bc;have q0:(0:Int)<=(k:Int):=by omega
  have J:(k:Int)<(x.ms.n:Int):=by omega
  have yl:=l.lt;have y0:=l.cell (j:=k*4) (by omega);have f0:=l.frozen (k*4)
  generalize f (k*4)=V0 at y0
  have y1:=l.cell (j:=k*4+1) (by omega);have f1:=l.frozen (k*4+1)
  generalize f (k*4+1)=V1 at y1
  have y2:=l.cell (j:=k*4+2) (by omega);have f2:=l.frozen (k*4+2)
  generalize f (k*4+2)=V2 at y2
  have y3:=l.cell (j:=k*4+3) (by omega);have f3:=l.frozen (k*4+3)
  generalize f (k*4+3)=V3 at y3
  have HN:Hid (Lay E G x ((((wr.setCell ⟨g,k*4,none⟩ (.int .i64 0)).setCell ⟨g,k*4+1,none⟩ (.int .i64 0)).setCell ⟨g,k*4+2,none⟩ (.int .i64 0)).setCell ⟨g,k*4+3,none⟩ (.int .i64 0))):=d.out.set4 l M (by decide) (by decide) (by decide) _ _ _ _ _ _ _ _;clear l L M;go_wp2_with fail;go_roundw
  case rel=>exact⟨k+1,by omega,by go_num,HN.out⟩
  case measure=>simp[intOf];omega
 have J:¬(k:Int)<(x.ms.n:Int):=by omega
 have o:=d;clear d A;go_wp2_with fail;clear bc Q le cap J hk
 go_loopw [16] (λt B=>∃k:Nat,k<=x.si.n/\t = .int .i64 k/\Hid (Lay E G x B)) (λt _=>x.si.n-(intOf t).toNat)
 case atStart=>exact⟨0,Qxz _,rfl,o⟩
 rename_i u;obtain⟨k,hk,rfl,d⟩:=hrel;clear o;have bc:wr.cell? ⟨G,4,none⟩=some (.slice x.si.a x.si.n x.si.c):=d.out.box.k 4;have Q:=d.out.box.lt;have le:=d.out.si.1;have cap:=d.out.si.2.1;unfold maxLen at cap;by_cases A:k<x.si.n
 .obtain⟨g,L,M,f,l⟩:=d.out.si.2.2 (by omega);rw[L] at bc;have q0:(0:Int)<=(k:Int):=by omega
  have J:(k:Int)<(x.si.n:Int):=by omega
  have yl:=l.lt;have y0:=l.cell (j:=k) (by omega);have f0:=l.frozen k
  generalize f k=V0 at y0
  have HN:Hid (Lay E G x (wr.setCell ⟨g,k,none⟩ (.int .i64 (-9)))):=d.out.set l M (by decide) (by decide) (by decide) k _;clear l L M;go_wp2_with fail;go_roundw
  case rel=>exact⟨k+1,by omega,by go_num,HN.out⟩
  case measure=>simp[intOf];omega
 have J:¬(k:Int)<(x.si.n:Int):=by omega
 have o:=d;clear d A;go_wp2_with fail;clear bc Q le cap J hk
 go_loopw [17] (λt B=>∃k:Nat,k<=x.sf.n/\t = .int .i64 k/\Hid (Lay E G x B)) (λt _=>x.sf.n-(intOf t).toNat)
 case atStart=>exact⟨0,Qxz _,rfl,o⟩
 rename_i u;obtain⟨k,hk,rfl,d⟩:=hrel;clear o;have bc:wr.cell? ⟨G,6,none⟩=some (.slice x.sf.a x.sf.n x.sf.c):=d.out.box.k 6;have Q:=d.out.box.lt;have le:=d.out.sf.1;have cap:=d.out.sf.2.1;unfold maxLen at cap;by_cases A:k<x.sf.n
 .obtain⟨g,L,M,f,l⟩:=d.out.sf.2.2 (by omega);rw[L] at bc;have q0:(0:Int)<=(k:Int):=by omega
  have J:(k:Int)<(x.sf.n:Int):=by omega
  have yl:=l.lt;have y0:=l.cell (j:=k) (by omega);have f0:=l.frozen k
  generalize f k=V0 at y0
  have HN:Hid (Lay E G x (wr.setCell ⟨g,k,none⟩ (.int .i64 (-9)))):=d.out.set l M (by decide) (by decide) (by decide) k _;clear l L M;go_wp2_with fail;go_roundw
  case rel=>exact⟨k+1,by omega,by go_num,HN.out⟩
  case measure=>simp[intOf];omega
 have J:¬(k:Int)<(x.sf.n:Int):=by omega
 have o:=d;clear d A;have aq:=hid (a9.out.trans (o.out.bel.mono a9.out.size));have bj:=qa2 (b2.out.1.below o.out.bel) (b2.out.2.below o.out.bel);clear o b2 a9;obtain⟨⟨⟨l1,d0,d1⟩,l2,V,c1,c2,c3,c4,c5,c6⟩,F,v,K,H⟩:=HC.out wr aq.out;have D:=bg.out wr aq.out;have a5:wr.cell? ⟨w.heap.size+1+1,0,none⟩=some (.int .i64 q.k):=D.k 0;have a3:wr.cell? ⟨w.heap.size+1+1,1,none⟩=some (.int .i64 q.a):=D.k 1;have a0:wr.cell? ⟨w.heap.size+1+1,2,none⟩=some (.int .i64 q.b):=D.k 2;have az:wr.cell? ⟨w.heap.size+1+1,3,none⟩=some (.int .i64 q.c):=D.k 3;have a1:wr.cell? ⟨w.heap.size+1+1,4,none⟩=some (.int .i64 q.n):=D.k 4;have a6:wr.cell? ⟨w.heap.size+1+1,5,none⟩=some (.slice q.ls.a q.ls.n q.ls.c):=D.k 5;have a7:=D.lt;have ar:Hid (_):=Lc p s q wr F v H;clear D F v K H;go_wp2_with fail;clear bc Q le cap J hk l1 d0 d1 l2 V c1 c2 c3 c4 c5 c6 a5 a3 a0 az a1 a6 a7;refine Calls.mono ar.out ?_;rintro e w7 ⟨u,rfl,ck,bz,-,bh⟩;clear ar;obtain⟨W8,S,m,KU⟩:=ab7 w7 u;have P:=hid S;have b8:Hid (∀y,du (doE p s q) (doT p s q) y->ae u y):=λy h=>du.same bz h;have bp:Hid (u.os.n<=1000/\u.ms.n<=1000/\∀i,i<u.os.n->(u.os.z i).ls.n<=1000):=du.bound (p:=p) (s:=s) bz (λh=>Yt h);have a2:=bh.trans (m.mono bh.size);have ap:=hid (aq.out.trans (a2.mono aq.out.size));have bv:=qa2 (bj.out.1.below a2) (bj.out.2.below a2);have bi:=qa2 (ck.below m) KU;clear S m KU ck bz bh a2 aq bj;simp only[St.val];obtain⟨⟨⟨l1,d0,d1⟩,l2,V,c1,c2,c3,c4,c5,c6⟩,F,v,K,H⟩:=HC.out W8 ap.out;have D:=bg.out W8 ap.out;have a5:W8.cell? ⟨w.heap.size+1+1,0,none⟩=some (.int .i64 q.k):=D.k 0;have a3:W8.cell? ⟨w.heap.size+1+1,1,none⟩=some (.int .i64 q.a):=D.k 1;have a0:W8.cell? ⟨w.heap.size+1+1,2,none⟩=some (.int .i64 q.b):=D.k 2;have az:W8.cell? ⟨w.heap.size+1+1,3,none⟩=some (.int .i64 q.c):=D.k 3;have a1:W8.cell? ⟨w.heap.size+1+1,4,none⟩=some (.int .i64 q.n):=D.k 4;have a6:W8.cell? ⟨w.heap.size+1+1,5,none⟩=some (.slice q.ls.a q.ls.n q.ls.c):=D.k 5;have a7:=D.lt;have ar:Hid (_):=Yc p s q W8 F v H;clear D F v K H;rw[<-P.out] at l1 d0 d1 l2 V c1 c2 c3 c4 c5 c6 a5 a3 a0 az a1 a6 a7;go_wp2_with fail;rw[P.out];clear P l1 d0 d1 l2 V c1 c2 c3 c4 c5 c6 a5 a3 a0 az a1 a6 a7
 generalize w7.heap.size=BU at *
 refine Calls.mono ar.out ?_;rintro e w9 ⟨y,rfl,cf,ci,-,bu⟩;clear ar;obtain⟨WA,S,m,KY⟩:=ab7 w9 y;have P:=hid S;have dj:Hid (ae u y):=b8.out y ci;have aj:=bu.trans (m.mono bu.size);have b0:=hid (ap.out.trans (aj.mono ap.out.size));have bx:=qa2 (bv.out.1.below aj) (bv.out.2.below aj);have b1:=qa2 (bi.out.1.below aj) (bi.out.2.below aj);have bs:=qa2 (cf.below m) KY;clear S m KY cf ci bu aj ap bv bi b8;simp only[St.val];go_wp2_with fail;rw[P.out];clear P
 generalize w9.heap.size=BY at *
 refine(Ib WA).mono ?_;rintro e wb ⟨rfl,T⟩;have be:=hid (b0.out.trans (T.mono b0.out.size));have cd:=qa2 (bx.out.1.below T) (bx.out.2.below T);have cj:=qa2 (b1.out.1.below T) (b1.out.2.below T);have ce:=qa2 (bs.out.1.below T) (bs.out.2.below T);clear T b0 bx b1 bs;obtain⟨⟨⟨-,-,-⟩,l2,V,c1,c2,c3,c4,c5,c6⟩,-,v,-,-⟩:=HC.out wb be.out;obtain⟨m1,p0,p1,p2,p3,p4,p5,p6⟩:=Boxed.of cd.out.2;have cc:Hid (_):=Es s z wb v cd.out.1 dk.out HR.out.bound.1 HR.out.bound.2.1 HR.out.bound.2.2;clear v;go_wp2_with fail;clear l2 V c1 c2 c3 c4 c5 c6 m1 p0 p1 p2 p3 p4 p5 p6;refine Calls.mono cc.out ?_;rintro e wc ⟨rfl,ah⟩;obtain⟨m1,p0,p1,p2,p3,p4,p5,p6⟩:=Boxed.of (cj.out.2.below ah);obtain⟨m2,t0,t1,t2,t3,t4,t5,t6⟩:=Boxed.of (ce.out.2.below ah);have dp:Hid (_):=Es u y wc (cj.out.1.below ah) (ce.out.1.below ah) dj.out bp.out.1 bp.out.2.1 bp.out.2.2;have ca:=hid (be.out.trans (ah.mono be.out.size));clear ah cc;go_wp2_with fail;clear m1 p0 p1 p2 p3 p4 p5 p6 m2 t0 t1 t2 t3 t4 t5 t6;refine Calls.mono dp.out ?_;rintro e wd ⟨rfl,dl⟩;go_wp2_with fail;go_ret;exact⟨by simp,(HC.out wd (ca.out.trans (dl.mono ca.out.size))).2.2.2.1⟩
end Go.Proofs.YtbcacebifpagpagGreat
namespace Go.Proofs.YtbcacebifpagpagGreat
open Go.ChangeShapes Go.WideShapes Go.ChangeAt Go.RowKit Go.Joins Go.Deep
set_option maxRecDepth 100000
theorem own:ownKnob Tryz.prog.godebug=none:=by kernel_rfl
theorem Je:laidOutB Tryz.prog=true:=by kernel_rfl
theorem vq:Tryz.prog.cellsOf 3=1:=by kernel_rfl
theorem N9:Tryz.prog.cellsOf 23=1:=by kernel_rfl
theorem Yr:Tryz.prog.cellsOf 68=4:=by kernel_rfl
theorem Wf:Tryz.prog.cellsOf 25=2:=by kernel_rfl
theorem Wa:Tryz.prog.cellsOf 4=1:=by kernel_rfl
section
variable {H:Type} {enc:TypeId × Value->H} {w:World} {held:Bool} {spare:Nat->Bool}
theorem Bk{a:Addr}{i:Nat}{v:Value}(h:w.cell? (a.add i)=some v)(d:∃e,w.cell? a=some e):∃b o,a=⟨b,o,none⟩/\b<w.heap.size/\w.cell? ⟨b,o+i,none⟩=some v:=by
 obtain⟨b,f,spot⟩:=a;obtain⟨e,d⟩:=d;have c:spot=none:=World.cell?_spot d;subst c;refine⟨b,f,rfl,World.block_lt_of_cell? w _ d,?_⟩;rw[<-Go.WideShapes.add_plain];exact h
theorem Dd{fuel:Nat}{cs:List Value}{x:DataW H × List MemPlace}(h:DataW.trod enc Tryz.prog w 0 spare held fuel 23 cs=some x):∃r:Rw,cs=[r.val]/\r.At w:=by
 rcases open_slice1 Tryz.underlying23 vq h with⟨rfl,_⟩|⟨a,len,cap,m,n,V,D,Pl,rfl,s,g,j,d,_,hx⟩
 .exact⟨⟨none,0,0,λ_=>0⟩,rfl,Nat.le_refl _,Qxz _,λi hi=>absurd hi (Qzq _)⟩
 have q:len<=m:=by rw[d];split<;>omega
 obtain⟨z,k⟩:=choose_lt (α:=Int) (n:=len) (p:=λi y=>V i = .int .i64 y) (λi hi=>by
  obtain⟨y,f,_⟩:=DataW.trod_int Tryz.underlying3 (hx i (by omega)).2;simp only[List.cons.injEq,and_true] at f;exact⟨y,f⟩)
 refine⟨⟨some a,len,cap,z⟩,rfl,g,j,λi hi => ?_⟩;have e:i<len:=hi;have l:∃v0,w.cell? a=some v0:=⟨_,by have:=(hx 0 (by omega)).1;simpa[Addr.add] using this⟩;obtain⟨b,o,rfl,c,hc⟩:=Bk (hx i (by omega)).1 l;exact⟨b,o,rfl,c,by rw[hc,k i e]⟩
theorem Zi{fuel:Nat}{cs:List Value}{x:DataW H × List MemPlace}(h:DataW.trod enc Tryz.prog w 0 spare held fuel 26 cs=some x):∃s:Sh,cs=[s.val]/\s.At w:=by
 rcases open_slice1 Tryz.underlying26 N9 h with⟨rfl,_⟩|⟨a,len,cap,m,n,V,D,Pl,rfl,t,k,l,f,_,hx⟩
 .exact⟨⟨none,0,0,λ_=>⟨none,0,0,λ_=>0⟩⟩,rfl,Nat.le_refl _,Qxz _,λi hi=>absurd hi (Qzq _)⟩
 have r:len<=m:=by rw[f];split<;>omega
 haveI:Inhabited Rw:=⟨⟨none,0,0,λ_=>0⟩⟩
 obtain⟨z,g⟩:=choose_lt (α:=Rw) (n:=len) (p:=λi y=>V i=y.val/\y.At w) (λi hi=>by
  obtain⟨y,j,d⟩:=Dd (hx i (by omega)).2;simp only[List.cons.injEq,and_true] at j;exact⟨y,j,d⟩)
 refine⟨⟨some a,len,cap,z⟩,rfl,k,l,λi hi => ?_⟩;have c:i<len:=hi;have q:∃v0,w.cell? a=some v0:=⟨_,by have:=(hx 0 (by omega)).1;simpa[Addr.add] using this⟩;obtain⟨b,o,rfl,e,hc⟩:=Bk (hx i (by omega)).1 q;exact⟨b,o,rfl,e,by rw[hc,(g i c).1];rfl,(g i c).2⟩
theorem aaw{fuel:Nat}{d c1 c2 c3:Value}{x:DataW H × List MemPlace}(h:DataW.trod enc Tryz.prog w 0 spare held fuel 68 [d,c1,c2,c3]=some x):∃y:Bin,d = .bool y.front/\c1 = .int .i64 y.room/\c2 = .int .i64 y.low/\c3 = .int .i64 y.high:=by
 obtain⟨o,p,r,q,n,hx,m,g,j,i,c⟩:=trod_struct4 Tryz.underlying68 h;simp only[Wa,vq,Qyq,Xqq,Qyx,Qyz] at g j i c;obtain⟨b,e0,_⟩:=DataW.trod_bool Tryz.underlying4 g;obtain⟨l,a,_⟩:=DataW.trod_int Tryz.underlying3 j;obtain⟨n2,e,_⟩:=DataW.trod_int Tryz.underlying3 i;obtain⟨k,f,_⟩:=DataW.trod_int Tryz.underlying3 c;simp only[List.cons.injEq,and_true] at e0 a e f;exact⟨⟨b,l,n2,k⟩,e0,a,e,f⟩
theorem Hq{base:Nat}{a:Addr}{cs:List Value}(h:w.cells? base a 4=some cs):∃c0 c1 c2 c3,cs=[c0,c1,c2,c3]/\w.cell? a=some c0/\w.cell? (a.add 1)=some c1/\w.cell? (a.add 2)=some c2/\w.cell? (a.add 3)=some c3:=by
 obtain⟨_,b,hc⟩:=World.cells?_some h
 match cs,b with
 | [c0,c1,c2,c3],_ =>
  refine⟨c0,c1,c2,c3,rfl,?_,?_,?_,?_⟩
  .simpa[Addr.add] using hc 0 (by decide)
  .simpa using hc 1 (by decide)
  .simpa using hc 2 (by decide)
  simpa using hc 3 (by decide)
theorem Ze{fuel:Nat}{cs:List Value}{x:DataW H × List MemPlace}(h:DataW.trod enc Tryz.prog w 0 spare held fuel 22 cs=some x):∃a n c z,cs=[.slice a n c]/\n<=c/\c<=maxLen/\se w a n z:=by
 rcases open_slice Tryz.underlying22 h with⟨rfl,_⟩|⟨a,len,cap,m,n,D,Pl,rfl,A,r,t,l,_,hx⟩
 .exact⟨none,0,0,λ_=>⟨false,0,0,0⟩,rfl,Nat.le_refl _,Qxz _,λi hi=>absurd hi (Qzq _)⟩
 have v:len<=m:=by rw[l];split<;>omega
 rw[Yr] at hx
 haveI:Inhabited Bin:=⟨⟨false,0,0,0⟩⟩
 obtain⟨z,k⟩:=choose_lt (α:=Bin) (n:=len) (p:=λi y=>w.cell? (a.add (i*4))=some (.bool y.front)/\w.cell? (a.add (i*4+1))=some (.int .i64 y.room)/\w.cell? (a.add (i*4+2))=some (.int .i64 y.low)/\w.cell? (a.add (i*4+3))=some (.int .i64 y.high)) (λi hi=>by
  obtain⟨u,hc,s⟩:=hx i (by omega);obtain⟨B,c1,c2,c3,rfl,g,e,f,d⟩:=Hq hc;obtain⟨y,rfl,rfl,rfl,rfl⟩:=aaw s;rw[add_add] at e f d;exact⟨y,g,e,f,d⟩)
 refine⟨some a,len,cap,z,rfl,r,t,λi hi => ?_⟩;have q:∃v0,w.cell? a=some v0:=⟨_,by have:=(k 0 (by omega)).1;simpa[Addr.add] using this⟩;obtain⟨g,e,f,d⟩:=k i hi;obtain⟨b,o,rfl,j,e0⟩:=Bk g q;rw[Go.WideShapes.add_plain] at e f d;exact⟨b,o,rfl,j,e0,by rw[Nat.add_assoc];exact e,by rw[Nat.add_assoc];exact f,by rw[Nat.add_assoc];exact d⟩
theorem Y9{r:Reach}{b0:Nat}{v:Value}{d:DataW H}{j:List MemPlace}(o:Value.okWide Tryz.prog w r b0 25 v)(h:DataW.Trod enc Tryz.prog w 0 spare held 25 v d j):∃p:Pl,v=p.val/\p.At w:=by
 obtain⟨s,c1,t,u,m,rfl,rfl,rfl,g,i⟩:=open_agg2 Tryz.underlying25 (by kernel_rfl) Wf o h;obtain⟨a,n,c,z,e0,q,l,k⟩:=Ze g;obtain⟨b,f,e⟩:=Dd i;simp only[List.cons.injEq,and_true] at e0 f;subst e0 f;exact⟨⟨a,n,c,z,b.a,b.n,b.c,b.z⟩,rfl,q,l,k,e.le,e.cap,e.ints⟩
end
set_option maxRecDepth 100000
namespace HoldsFrames
theorem own:ownKnob Tryz.prog.godebug=none:=by kernel_rfl
theorem Je:laidOutB Tryz.prog=true:=by kernel_rfl
theorem vq:Tryz.prog.cellsOf 3=1:=by kernel_rfl
theorem Wc:Tryz.prog.cellsOf 61=4:=by kernel_rfl
section
variable {H:Type} {enc:TypeId × Value->H} {w:World} {held:Bool} {spare:Nat->Bool}
theorem Bk{a:Addr}{i:Nat}{v:Value}(h:w.cell? (a.add i)=some v)(d:∃e,w.cell? a=some e):∃b o,a=⟨b,o,none⟩/\b<w.heap.size/\w.cell? ⟨b,o+i,none⟩=some v:=by
 obtain⟨b,f,spot⟩:=a;obtain⟨e,d⟩:=d;have c:spot=none:=World.cell?_spot d;subst c;refine⟨b,f,rfl,World.block_lt_of_cell? w _ d,?_⟩;rw[<-Go.WideShapes.add_plain];exact h
theorem Hq{base:Nat}{a:Addr}{cs:List Value}(h:w.cells? base a 4=some cs):∃c0 c1 c2 c3,cs=[c0,c1,c2,c3]/\w.cell? a=some c0/\w.cell? (a.add 1)=some c1/\w.cell? (a.add 2)=some c2/\w.cell? (a.add 3)=some c3:=by
 obtain⟨_,b,hc⟩:=World.cells?_some h
 match cs,b with
 | [c0,c1,c2,c3],_ =>
  refine⟨c0,c1,c2,c3,rfl,?_,?_,?_,?_⟩
  .simpa[Addr.add] using hc 0 (by decide)
  .simpa using hc 1 (by decide)
  .simpa using hc 2 (by decide)
  simpa using hc 3 (by decide)
theorem Zf{fuel:Nat}{d c1 c2 c3:Value}{x:DataW H × List MemPlace}(h:DataW.trod enc Tryz.prog w 0 spare held fuel 61 [d,c1,c2,c3]=some x):∃y:Hd,d = .int .i64 y.o/\c1 = .int .i64 y.l/\c2 = .int .i64 y.b/\c3 = .int .i64 y.n:=by
 obtain⟨q,r,t,s,n,hx,p,g,j,i,c⟩:=trod_struct4 Tryz.underlying61 h;simp only[vq,Qyq,Xqq,Qyx,Qyz] at g j i c;obtain⟨n0,e0,_⟩:=DataW.trod_int Tryz.underlying3 g;obtain⟨m,a,_⟩:=DataW.trod_int Tryz.underlying3 j;obtain⟨n2,e,_⟩:=DataW.trod_int Tryz.underlying3 i;obtain⟨k,f,_⟩:=DataW.trod_int Tryz.underlying3 c;simp only[List.cons.injEq,and_true] at e0 a e f;exact⟨⟨n0,m,n2,k⟩,e0,a,e,f⟩
theorem readHolds{fuel:Nat}{cs:List Value}{x:DataW H × List MemPlace}(h:DataW.trod enc Tryz.prog w 0 spare held fuel 28 cs=some x):∃s:Hs,cs=[s.val]/\s.At w:=by
 rcases open_slice Tryz.underlying28 h with⟨rfl,_⟩|⟨a,len,cap,m,n,D,Pl,rfl,E,t,v,k,_,hx⟩
 .exact⟨⟨none,0,0,λ_=>⟨0,0,0,0⟩⟩,rfl,Nat.le_refl _,Qxz _,λi hi=>absurd hi (Qzq _),λ_=>rfl⟩
 have B:len<=m:=by rw[k];split<;>omega
 rw[Wc] at hx
 haveI:Inhabited Hd:=⟨⟨0,0,0,0⟩⟩
 obtain⟨z,j⟩:=choose_lt (α:=Hd) (n:=len) (p:=λi y=>w.cell? (a.add (i*4))=some (.int .i64 y.o)/\w.cell? (a.add (i*4+1))=some (.int .i64 y.l)/\w.cell? (a.add (i*4+2))=some (.int .i64 y.b)/\w.cell? (a.add (i*4+3))=some (.int .i64 y.n)) (λi hi=>by
  obtain⟨A,hc,u⟩:=hx i (by omega);obtain⟨F,c1,c2,c3,rfl,f,d,e,c⟩:=Hq hc;obtain⟨y,rfl,rfl,rfl,rfl⟩:=Zf u;rw[add_add] at d e c;exact⟨y,f,d,e,c⟩)
 refine⟨⟨some a,len,cap,z⟩,rfl,t,v,λi hi => ?_,λh=>by cases h⟩;have q:i<len:=hi;have r:∃v0,w.cell? a=some v0:=⟨_,by have:=(j 0 (by omega)).1;simpa[Addr.add] using this⟩;obtain⟨f,d,e,c⟩:=j i q;obtain⟨b,o,rfl,g,e0⟩:=Bk f r;rw[Go.WideShapes.add_plain] at d e c;exact⟨b,o,rfl,g,e0,by rw[Nat.add_assoc];exact d,by rw[Nat.add_assoc];exact e,by rw[Nat.add_assoc];exact c⟩
end
end HoldsFrames
set_option maxRecDepth 100000
theorem Wd:Tryz.prog.cellsOf 59=4:=by kernel_rfl
theorem We:Tryz.prog.cellsOf 63=4:=by kernel_rfl
theorem T6:Tryz.prog.cellsOf 57=2:=by kernel_rfl
theorem T7:Tryz.prog.cellsOf 31=7:=by kernel_rfl
theorem Lr:Tryz.prog.cellsOf 45=1:=by kernel_rfl
theorem T5:Tryz.prog.cellsOf 29=1:=by kernel_rfl
theorem Sd:Tryz.prog.cellsOf 27=1:=by kernel_rfl
theorem T4:Tryz.prog.cellsOf 28=1:=by kernel_rfl
theorem Wg:Tryz.prog.cellsOf 26=1:=by kernel_rfl
section
variable {H:Type} {enc:TypeId × Value->H} {w:World} {held:Bool} {spare:Nat->Bool}
theorem Zg{fuel:Nat}{d c1 c2 c3:Value}{x:DataW H × List MemPlace}(h:DataW.trod enc Tryz.prog w 0 spare held fuel 59 [d,c1,c2,c3]=some x):∃y:Hd,d = .int .i64 y.o/\c1 = .int .i64 y.l/\c2 = .int .i64 y.b/\c3 = .int .i64 y.n:=by
 obtain⟨q,r,t,s,n,hx,p,g,j,i,c⟩:=trod_struct4 Tryz.underlying59 h;simp only[vq,Qyq,Xqq,Qyx,Qyz] at g j i c;obtain⟨n0,e0,_⟩:=DataW.trod_int Tryz.underlying3 g;obtain⟨m,a,_⟩:=DataW.trod_int Tryz.underlying3 j;obtain⟨n2,e,_⟩:=DataW.trod_int Tryz.underlying3 i;obtain⟨k,f,_⟩:=DataW.trod_int Tryz.underlying3 c;simp only[List.cons.injEq,and_true] at e0 a e f;exact⟨⟨n0,m,n2,k⟩,e0,a,e,f⟩
theorem Pa{fuel:Nat}{cs:List Value}{x:DataW H × List MemPlace}(h:DataW.trod enc Tryz.prog w 0 spare held fuel 45 cs=some x):∃s:Hs,cs=[s.val]/\s.At w:=by
 rcases open_slice Tryz.underlying45 h with⟨rfl,_⟩|⟨a,len,cap,m,n,D,Pl,rfl,E,t,v,k,_,hx⟩
 .exact⟨⟨none,0,0,λ_=>⟨0,0,0,0⟩⟩,rfl,Nat.le_refl _,Qxz _,λi hi=>absurd hi (Qzq _),λ_=>rfl⟩
 have B:len<=m:=by rw[k];split<;>omega
 rw[Wd] at hx
 haveI:Inhabited Hd:=⟨⟨0,0,0,0⟩⟩
 obtain⟨z,j⟩:=choose_lt (α:=Hd) (n:=len) (p:=λi y=>w.cell? (a.add (i*4))=some (.int .i64 y.o)/\w.cell? (a.add (i*4+1))=some (.int .i64 y.l)/\w.cell? (a.add (i*4+2))=some (.int .i64 y.b)/\w.cell? (a.add (i*4+3))=some (.int .i64 y.n)) (λi hi=>by
  obtain⟨A,hc,u⟩:=hx i (by omega);obtain⟨F,c1,c2,c3,rfl,f,d,e,c⟩:=Hq hc;obtain⟨y,rfl,rfl,rfl,rfl⟩:=Zg u;rw[add_add] at d e c;exact⟨y,f,d,e,c⟩)
 refine⟨⟨some a,len,cap,z⟩,rfl,t,v,λi hi => ?_,λh=>by cases h⟩;have q:i<len:=hi;have r:∃v0,w.cell? a=some v0:=⟨_,by have:=(j 0 (by omega)).1;simpa[Addr.add] using this⟩;obtain⟨f,d,e,c⟩:=j i q;obtain⟨b,o,rfl,g,e0⟩:=Bk f r;rw[Go.WideShapes.add_plain] at d e c;exact⟨b,o,rfl,g,e0,by rw[Nat.add_assoc];exact d,by rw[Nat.add_assoc];exact e,by rw[Nat.add_assoc];exact c⟩
theorem Zh{fuel:Nat}{d c1 c2 c3:Value}{x:DataW H × List MemPlace}(h:DataW.trod enc Tryz.prog w 0 spare held fuel 63 [d,c1,c2,c3]=some x):∃y:Hd,d = .int .i64 y.o/\c1 = .int .i64 y.l/\c2 = .int .i64 y.b/\c3 = .int .i64 y.n:=by
 obtain⟨q,r,t,s,n,hx,p,g,j,i,c⟩:=trod_struct4 Tryz.underlying63 h;simp only[vq,Qyq,Xqq,Qyx,Qyz] at g j i c;obtain⟨n0,e0,_⟩:=DataW.trod_int Tryz.underlying3 g;obtain⟨m,a,_⟩:=DataW.trod_int Tryz.underlying3 j;obtain⟨n2,e,_⟩:=DataW.trod_int Tryz.underlying3 i;obtain⟨k,f,_⟩:=DataW.trod_int Tryz.underlying3 c;simp only[List.cons.injEq,and_true] at e0 a e f;exact⟨⟨n0,m,n2,k⟩,e0,a,e,f⟩
theorem Xm{fuel:Nat}{cs:List Value}{x:DataW H × List MemPlace}(h:DataW.trod enc Tryz.prog w 0 spare held fuel 29 cs=some x):∃s:Hs,cs=[s.val]/\s.At w:=by
 rcases open_slice Tryz.underlying29 h with⟨rfl,_⟩|⟨a,len,cap,m,n,D,Pl,rfl,E,t,v,k,_,hx⟩
 .exact⟨⟨none,0,0,λ_=>⟨0,0,0,0⟩⟩,rfl,Nat.le_refl _,Qxz _,λi hi=>absurd hi (Qzq _),λ_=>rfl⟩
 have B:len<=m:=by rw[k];split<;>omega
 rw[We] at hx
 haveI:Inhabited Hd:=⟨⟨0,0,0,0⟩⟩
 obtain⟨z,j⟩:=choose_lt (α:=Hd) (n:=len) (p:=λi y=>w.cell? (a.add (i*4))=some (.int .i64 y.o)/\w.cell? (a.add (i*4+1))=some (.int .i64 y.l)/\w.cell? (a.add (i*4+2))=some (.int .i64 y.b)/\w.cell? (a.add (i*4+3))=some (.int .i64 y.n)) (λi hi=>by
  obtain⟨A,hc,u⟩:=hx i (by omega);obtain⟨F,c1,c2,c3,rfl,f,d,e,c⟩:=Hq hc;obtain⟨y,rfl,rfl,rfl,rfl⟩:=Zh u;rw[add_add] at d e c;exact⟨y,f,d,e,c⟩)
 refine⟨⟨some a,len,cap,z⟩,rfl,t,v,λi hi => ?_,λh=>by cases h⟩;have q:i<len:=hi;have r:∃v0,w.cell? a=some v0:=⟨_,by have:=(j 0 (by omega)).1;simpa[Addr.add] using this⟩;obtain⟨f,d,e,c⟩:=j i q;obtain⟨b,o,rfl,g,e0⟩:=Bk f r;rw[Go.WideShapes.add_plain] at d e c;exact⟨b,o,rfl,g,e0,by rw[Nat.add_assoc];exact d,by rw[Nat.add_assoc];exact e,by rw[Nat.add_assoc];exact c⟩
theorem abj{base:Nat}{a:Addr}{cs:List Value}(h:w.cells? base a 2=some cs):∃c0 c1,cs=[c0,c1]/\w.cell? a=some c0/\w.cell? (a.add 1)=some c1:=by
 obtain⟨_,b,hc⟩:=World.cells?_some h
 match cs,b with
 | [c0,c1],_ =>
  refine⟨c0,c1,rfl,?_,?_⟩
  .simpa[Addr.add] using hc 0 (by decide)
  simpa using hc 1 (by decide)
theorem Xn{fuel:Nat}{d c1:Value}{x:DataW H × List MemPlace}(h:DataW.trod enc Tryz.prog w 0 spare held fuel 57 [d,c1]=some x):∃y:Od,d = .int .i64 y.k/\c1 = .slice y.ls.a y.ls.n y.ls.c/\y.ls.At w:=by
 obtain⟨i,j,n,hx,g,e,f⟩:=trod_struct2 Tryz.underlying57 h;simp only[vq,Lr,Qyq,Xqq,Qyx,Qyz] at e f;obtain⟨n0,e0,_⟩:=DataW.trod_int Tryz.underlying3 e;obtain⟨s,b,hs⟩:=Pa f;simp only[List.cons.injEq,and_true] at e0 b;exact⟨⟨n0,s⟩,e0,b,hs⟩
theorem U6{fuel:Nat}{cs:List Value}{x:DataW H × List MemPlace}(h:DataW.trod enc Tryz.prog w 0 spare held fuel 27 cs=some x):∃s:Go.Proofs.YtbcacebifpagpagGreat.Os,cs=[s.val]/\s.At w:=by
 rcases open_slice Tryz.underlying27 h with⟨rfl,_⟩|⟨a,len,cap,m,n,D,Pl,rfl,E,t,v,l,_,hx⟩
 .exact⟨⟨none,0,0,λ_=>⟨0,⟨none,0,0,λ_=>⟨0,0,0,0⟩⟩⟩⟩,rfl,Nat.le_refl _,Qxz _,λi hi=>absurd hi (Qzq _)⟩
 have B:len<=m:=by rw[l];split<;>omega
 rw[T6] at hx
 haveI:Inhabited Od:=⟨⟨0,⟨none,0,0,λ_=>⟨0,0,0,0⟩⟩⟩⟩
 obtain⟨z,j⟩:=choose_lt (α:=Od) (n:=len) (p:=λi y=>w.cell? (a.add (i*2))=some (.int .i64 y.k)/\w.cell? (a.add (i*2+1))=some (.slice y.ls.a y.ls.n y.ls.c)/\y.ls.At w) (λi hi=>by
  obtain⟨A,hc,u⟩:=hx i (by omega);obtain⟨F,c1,rfl,e,d⟩:=abj hc;obtain⟨y,rfl,rfl,f⟩:=Xn u;rw[add_add] at d;exact⟨y,e,d,f⟩)
 refine⟨⟨some a,len,cap,z⟩,rfl,t,v,λi hi => ?_⟩;have q:i<len:=hi;have r:∃v0,w.cell? a=some v0:=⟨_,by have:=(j 0 (by omega)).1;simpa[Addr.add] using this⟩;obtain⟨e,d,f⟩:=j i q;obtain⟨b,o,rfl,g,e0⟩:=Bk e r;rw[Go.WideShapes.add_plain] at d;exact⟨b,o,rfl,g,e0,by rw[Nat.add_assoc];exact d,f⟩
theorem abg{α:Type}{cs:Array α}(h:cs.size=7):∃c0 c1 c2 c3 c4 c5 c6,cs=#[c0,c1,c2,c3,c4,c5,c6]:=by
 obtain⟨l⟩:=cs
 match l,h with
 | [c0,c1,c2,c3,c4,c5,c6],_=>exact⟨c0,c1,c2,c3,c4,c5,c6,rfl⟩
theorem Xj{r:Reach}{b0:Nat}{v:Value}{d:DataW H}{x:List MemPlace}(y:Value.okWide Tryz.prog w r b0 31 v)(h:DataW.Trod enc Tryz.prog w 0 spare held 31 v d x):∃s:St,v=s.val/\s.At w:=by
 obtain⟨cs,rfl,k⟩:=okWide_struct Tryz.underlying31 y;obtain⟨M,c1,c2,c3,c4,c5,c6,rfl⟩:=abg (k.trans T7);obtain⟨fuel,z⟩:=h;obtain⟨D,n,_,hx,L,b,a⟩:=DataW.trod_struct Tryz.underlying31 z
 match D,b with
 | [y0,y1,y2,y3,y4,y5,y6],_ =>
  have q:=a 0 _ rfl;have e:=a 1 _ rfl;have u:=a 2 _ rfl;have c:=a 3 _ rfl;have t:=a 4 _ rfl;have m:=a 5 _ rfl;have l:=a 6 _ rfl;simp[Wg,Sd,T4,T5,N9,Value.cells] at q e u c t m l;obtain⟨on,e0,A⟩:=Zi q;obtain⟨os,f,E⟩:=U6 e;obtain⟨hs,g,B⟩:=HoldsFrames.readHolds u;obtain⟨ms,i,F⟩:=Xm c;obtain⟨si,j,K⟩:=Dd t;obtain⟨so,o,J⟩:=Dd m;obtain⟨sf,p,G⟩:=Dd l;simp only[List.cons.injEq,and_true] at e0 f g i j o p;subst e0 f g i j o p;exact⟨⟨on,os,hs,ms,si,so,sf⟩,rfl,A,E,B,F,K,J,G⟩
end
set_option maxRecDepth 100000
theorem Yq:Tryz.prog.cellsOf 47=6:=by kernel_rfl
section
variable {H:Type} {enc:TypeId × Value->H} {w:World} {held:Bool} {spare:Nat->Bool}
theorem abf{α:Type}{cs:Array α}(h:cs.size=6):∃c0 c1 c2 c3 c4 c5,cs=#[c0,c1,c2,c3,c4,c5]:=by
 obtain⟨l⟩:=cs
 match l,h with
 | [c0,c1,c2,c3,c4,c5],_=>exact⟨c0,c1,c2,c3,c4,c5,rfl⟩
theorem aau{r:Reach}{b0:Nat}{v:Value}{d:DataW H}{t:List MemPlace}(u:Value.okWide Tryz.prog w r b0 47 v)(h:DataW.Trod enc Tryz.prog w 0 spare held 47 v d t):∃x:Ax,v=x.val/\x.ls.At w:=by
 obtain⟨cs,rfl,k⟩:=okWide_struct Tryz.underlying47 u;obtain⟨F,c1,c2,c3,c4,c5,rfl⟩:=abf (k.trans Yq);obtain⟨fuel,y⟩:=h;obtain⟨A,n,_,hx,E,b,a⟩:=DataW.trod_struct Tryz.underlying47 y
 match A,b with
 | [y0,y1,y2,y3,y4,y5],_ =>
  have o:=a 0 _ rfl;have e:=a 1 _ rfl;have q:=a 2 _ rfl;have c:=a 3 _ rfl;have p:=a 4 _ rfl;have l:=a 5 _ rfl;simp[vq,Lr,Value.cells] at o e q c p l;obtain⟨n0,e0,_⟩:=DataW.trod_int Tryz.underlying3 o;obtain⟨z,f,_⟩:=DataW.trod_int Tryz.underlying3 e;obtain⟨n2,g,_⟩:=DataW.trod_int Tryz.underlying3 q;obtain⟨s,i,_⟩:=DataW.trod_int Tryz.underlying3 c;obtain⟨B,j,_⟩:=DataW.trod_int Tryz.underlying3 p;obtain⟨ls,m,D⟩:=Pa l;simp only[List.cons.injEq,and_true] at e0 f g i j m;subst e0 f g i j m;exact⟨⟨n0,z,n2,s,B,ls⟩,rfl,D⟩
end
end Go.Proofs.YtbcacebifpagpagGreat

/- Texts that were built one behind the other, joined; what LogDoes does not reach is left out. -/
import Derived.Test.YtbcacebifpagpafGreatK6LogDoes
import Derived.Test.YtbcacebifpagpafGreatRows
import Derived.ProofKit
import Derived.OpenShut
import Derived.Lib.SmallJoins
import Derived.Deep.Slices
set_option maxHeartbeats 8000000
set_option maxRecDepth 100000
set_option linter.unusedVariables false
namespace Go.Proofs.YtbcacebifpagpafGreat
open Go.RowKit Go.Shelf Go.Sort
theorem Nm(p:Pl)(s:St)(k n:Int)(w:World)(hp:p.At w)(hs:s.At w):
  Calls Tryz.prog 37 #[p.val,s.val,.int .i64 k,.int .i64 n] w λe w'=>∃x:St,e = .returned (.tuple #[x.val,.int .i64 (fp p s k n)])/\x.At w'/\dv (fp p s k n) (je s k.toNat n) x/\(fp p s k n=0->ai w.heap.size w' x)/\Below w.heap.size w w':=by
 obtain⟨W0,hW,ha,X0,Z0⟩:=zd w p s;have HC:=wv hp hs ha X0 Z0;have HW:=hid hW;have leb:=hp.leb;have b4:=hp.capb;have les:=hp.les;have bz:=hp.caps;have capb:=b4;have caps:=bz;have it:=Z0.lt;unfold maxLen at capb caps;have et:=hs.ms.le;have b9:=hs.ms.cap;have dm:s.ms.n<=maxLen:=Qzx et b9;have e0:=b9;have em:=dm;unfold maxLen at e0 em;clear hW X0 Z0 hp hs;unfold Pl.val St.val;go_enter Tryz.func37,Tryz.ntmps37;go_wp2_with fail;rw[HW.out];obtain⟨X,T,D,y,L⟩:=HC.out W0 brf;refine(lq p s W0 T D).mono ?_;rintro e w1 ⟨rfl,hB⟩;clear X T D y L HW;obtain⟨⟨⟨l1,d0,d1⟩,l2,c0,c1,c2,c3,c4,c5,c6⟩,T,D,y,L⟩:=HC.out w1 hB;by_cases h0:ah p s=0;rotate_left
 .have HX:Hid (fp p s k n=ah p s):=v9 h0;have g6:Hid (¬fp p s k n=0):=by show ¬_;rw[v9 h0];exact h0
  have g0:(ah p s !=0)=true:=by simpa using h0
  clear h0;clear T D;obtain⟨zl,cj,cw,cg,zc1,cy,zc2,al,zc3,cc,zc4,cp,zc5,c8,c9⟩:=z7 L;go_wp2_with fail;exact g9 Tryz.results37 L y (by omega) HX.out (λh=>g6.out (HX.out.trans h)) rfl rfl rfl
 have H0:=hid h0;have HR:Hid (au p s):=ew h0;rw[h0];clear h0;cases h1:inB k 0 ((s.ms.n:Int)-1)
 .have HX:Hid (fp p s k n=4):=Ec H0.out h1;clear T D;obtain⟨zl,cj,cw,cg,zc1,cy,zc2,al,zc3,cc,zc4,cp,zc5,c8,c9⟩:=z7 L;go_wp2_with(go_at_call 44;refine ag (cf _ _ _ _) ?_);exact g9 Tryz.results37 L y (by omega) HX.out (by decide) rfl rfl rfl
 obtain⟨i,rfl⟩:∃i:Nat,k=i:=⟨k.toNat,by have:=aq h1;omega⟩;have hi:i<s.ms.n:=by have:=aq h1;omega
 have bq:=qs (HR.out.fm.move i hi);obtain⟨f,b,g,N,hm⟩:∃(f b g:Nat) (N:Int),s.ms.z i=⟨g,f,b,N⟩:=⟨(s.ms.z i).l.toNat,(s.ms.z i).b.toNat,(s.ms.z i).o.toNat,(s.ms.z i).n,by rw[Int.toNat_of_nonneg bq.1.1,Int.toNat_of_nonneg bq.2.1.1,Int.toNat_of_nonneg bq.2.2.1.1]⟩;have HM:=hid hm;rw[hm] at bq;dsimp only at bq;obtain⟨u1,u2,u3,u4,u5,u6⟩:=bq;have ak:g<p.ns:=by omega
 have bc:f<p.nb:=by omega
 have bl:b<p.nb:=by omega
 have d2:¬f=b:=by omega
 have H1:=hid h1;obtain⟨bm,om,eb,ii,y0,y1,y2,y3⟩:=D.ms.hds i hi;rw[hm] at y0 y1 y2 y3;dsimp only at y0 y1 y2 y3;have ck:=hid eb;rw[eb] at c3;obtain⟨W2,f7,ep,K2⟩:∃W,w1.alloc (.cells #[.int .i64 (g:Int),.int .i64 (f:Int),.int .i64 (b:Int),.int .i64 N] 77)=W/\Below w1.heap.size w1 W/\Blk W w1.heap.size 77 4 (λj=>(#[.int .i64 (g:Int),.int .i64 (f:Int),.int .i64 (b:Int),.int .i64 N]:Array Value).getD j default):=⟨_,rfl,brf.alloc nlr _,Blk.mk' rfl rfl⟩;have ga:Hid (w1.alloc (.cells #[.int .i64 (g:Int),.int .i64 (f:Int),.int .i64 (b:Int),.int .i64 N] 77)=W2):=f7;have dz:=hB.trans (ep.mono hB.size);have J:=hid K2;have q0:(0:Int)<=(i:Int):=by omega
 have q1:(i:Int)<(s.ms.n:Int):=by omega
 have A1:W0.heap.size<=w1.heap.size:=hB.size;clear T D y L eb f7 K2 hm;go_wp2_with fail;refine ag (cf _ _ _ _) ?_;go_wp2_with fail;rw[ga.out];refine ag (cf _ _ _ _) ?_;clear l1 d0 d1 l2 c0 c1 c2 c3 c4 c5 c6 ii y0 y1 y2 y3 ga ep hB h1
 generalize w1.heap.size=BM at *
 obtain⟨⟨⟨l1,d0,d1⟩,l2,c0,c1,c2,c3,c4,c5,c6⟩,T,D,y,L⟩:=HC.out W2 dz;rw[ck.out] at c3;cases h2:inB n 0 N
 .have HX:Hid (fp p s i n=3):=C9 H0.out H1.out (by rw[Int.toNat_natCast,HM.out];exact h2);clear T D;obtain⟨zl,cj,cw,cg,zc1,cy,zc2,al,zc3,cc,zc4,cp,zc5,c8,c9⟩:=z7 L;go_wp2_with fail;exact g9 Tryz.results37 L y (by omega) HX.out (by decide) rfl rfl rfl
 have nn:=aq h2;have H2:Hid (inB n 0 (s.ms.z (i:Int).toNat).n=true):=by show inB n 0 (s.ms.z (i:Int).toNat).n=true;rw[Int.toNat_natCast,HM.out];exact h2
 have bp:b<s.on.n:=by rw[HR.out.fm.sh.n];exact bl
 have rn:=HR.out.fm.sh.len b bp;have ef:Hid ((s.on.r (s.ms.z (i:Int).toNat).b.toNat).z (s.ms.z (i:Int).toNat).o.toNat=(s.on.r b).z g):=by show _=_;rw[Int.toNat_natCast,HM.out];simp only[Int.toNat_natCast]
 obtain⟨bo,oo,f6,im,z0,b5⟩:=D.on.rows b bp;obtain⟨br,iw,f8,he,z1⟩:=b5.ints g (by omega);have v1:=b5.le;have v2:=b5.cap;have v3:=D.on.le;have v4:=D.on.cap;unfold maxLen at v2 v4;have zb:=HR.out.fm.sh.num b bp g ak;have m0:W2.cell? ⟨BM,0,none⟩=some (.int .i64 g):=J.out.k 0;have m2:W2.cell? ⟨BM,2,none⟩=some (.int .i64 b):=J.out.k 2;have ml:=J.out.lt;have q2:(0:Int)<=(b:Int):=by omega
 have q3:(b:Int)<(s.on.n:Int):=by omega
 have q4:(0:Int)<=(g:Int):=by omega
 have q5:(g:Int)<((s.on.r b).n:Int):=by omega
 rw[f6] at c0;rw[f8] at z0;have hg:=Qqq c0;have hw:=Qqq z0;have hn:=Qqq z1;have cu:=Qqq m0;have ik:=Qqq m2
 generalize hZB:(s.on.r b).z g=ZB at *
 clear f6 f8 b5 c1 c2 c3 c4 c5 c6 d0 d1 m0 m2 z0 z1 c0;go_wp2_with fail;refine Qxq (by kernel_rfl) (by kernel_rfl) ?_
 repeat(go_big_quiet_step(fail))
 refine Qqz ?_;intro w3 f9;have dc:=af f9;have J:=hid (J.out.below dc);have dy:=dz.trans (dc.mono dz.size);clear hg hw hn cu ik f9 im he ml T D y L l1 l2 dc dz v1 v2 v3 v4;obtain⟨⟨⟨l1,d0,d1⟩,l2,c0,c1,c2,c3,c4,c5,c6⟩,T,D,y,L⟩:=HC.out w3 dy;by_cases h3:200<ZB+n
 .have HX:Hid (fp p s i n=2):=Ed H0.out H1.out H2.out (by rw[ef.out];exact h3);have ge:200-ZB<n:=by omega
  clear T D;obtain⟨zl,cj,cw,cg,zc1,cy,zc2,al,zc3,cc,zc4,cp,zc5,c8,c9⟩:=z7 L;go_wp2_with fail;exact g9 Tryz.results37 L y (by omega) HX.out (by decide) rfl rfl rfl
 have HX:Hid (fp p s i n=0):=Ov H0.out H1.out H2.out (by rw[ef.out];exact h3);have HI:Hid (pa p s i f b g N n):=⟨HR.out,hi,HM.out,bc,bl,ak,d2,nn.1,nn.2,u5,u6,by rw[hZB];omega⟩;have ge:¬200-ZB<n:=by omega
 have e3:=hid y.size;have gb:Hid (Calls Tryz.prog 85 #[s.val] w3 λe w'=>∃s':St,e = .returned s'.val/\ae s' s/\ai w3.heap.size w' s'/\Below w3.heap.size w3 w'):=pr p s w3 D HR.out.fm;have iu:=hid y;clear T D y L h3 ef;go_wp2_with fail;refine Calls.mono gb.out ?_;rintro e w4 ⟨H,rfl,M,ac,dp⟩;clear gb l1 d0 d1 l2 c0 c1 c2 c3 c4 c5 c6 h2 ge;have gd:=hid M;have iv:i<H.ms.n:=by rw[M.ms.1];exact hi
 have ct:f<H.on.n:=by rw[M.on.1,HR.out.fm.sh.n];exact bc
 have e7:b<H.on.n:=by rw[M.on.1,HR.out.fm.sh.n];exact bl
 have db:g<(H.on.r f).n:=by rw[(M.on.2 f ct).1,HR.out.fm.sh.len f (by rw[HR.out.fm.sh.n];exact bc)];exact ak
 have fb:g<(H.on.r b).n:=by rw[(M.on.2 b e7).1,HR.out.fm.sh.len b bp];exact ak
 have vf:0<=(H.on.r f).z g/\(H.on.r f).z g<=200:=by rw[M.num HR.out.fm bc ak];exact HR.out.fm.sh.num f (by rw[HR.out.fm.sh.n];exact bc) g ak
 have vb:0<=(H.on.r b).z g/\(H.on.r b).z g<=200:=by rw[M.num HR.out.fm bl ak,hZB];exact zb
 obtain⟨W5,gc,dj,K5⟩:=ab7 w4 H;have d9:=hid gc;have bt:=dp.trans (dj.mono dp.size);have A2:W0.heap.size<=w3.heap.size:=dy.size;have A3:w3.heap.size<=w4.heap.size:=dp.size;have bn:Hid (dg w3.heap.size w4.heap.size W0 H W5):=⟨ai.below ac dj,K5,dy.trans (bt.mono dy.size),by have:=bt.size;omega⟩;have gu:BM<w3.heap.size:=J.out.lt;have J:=hid (J.out.below bt);clear gc ac K5 dp dj bt M zb;obtain⟨m1,p0,p1,p2,p3,p4,p5,p6⟩:=Boxed.of bn.out.box;rw[<-d9.out] at m1 p0 p1 p2 p3 p4 p5 p6;simp only[St.val];go_wp2_with fail;rw[d9.out];clear m1 p0 p1 p2 p3 p4 p5 p6 d9
 generalize w4.heap.size=B7 at *
 have wf:=vf;have wb:=vb;clear vf vb;obtain⟨g0,G,a1,a2,a3,a4,a5,a6,a7,a8,a9,ej,e8,ce⟩:=bn.out.own.onCell ct db;have u0:W5.cell? ⟨B7,0,none⟩=some (.slice H.on.a H.on.n H.on.c):=bn.out.box.k 0;have d8:=bn.out.box.lt;rw[a1] at u0;unfold maxLen at a8 ce;have m0:W5.cell? ⟨BM,0,none⟩=some (.int .i64 g):=J.out.k 0;have m1:W5.cell? ⟨BM,1,none⟩=some (.int .i64 f):=J.out.k 1;have ml:=J.out.lt;have r0:(0:Int)<=(f:Int):=by omega
 have r1:(f:Int)<(H.on.n:Int):=by omega
 have r2:(0:Int)<=(g:Int):=by omega
 have r3:(g:Int)<((H.on.r f).n:Int):=by omega
 have eg:=Qqq u0;have ff:=Qqq a3;have ea:=Qqq a9;have cu:=Qqq m0;have e4:=Qqq m1;clear u0 a1 a3 a9 m0 m1;refine i9 [(true,[0,1,2,3,4,5,6,7,8,9,10,11,12,13,14,15,16,17,18,19,20],some 21)] ?_;refine⟨λw'=>∃p:Regrown,w'=grow (redrawn W5 p.d) p.os,Qqx (brf.drew),λh=>(by cases h),?_⟩;simp only[dw,Qyq,Xqq,Qyx,Qyz,Xqz,Xqx]
 repeat(go_big_quiet_step(fail))
 refine Qqz ?_;clear eg ff ea cu e4 d8 ml a2 a6 ej;have bd:Below W5.heap.size W5 W5.drew:=brf.drew
 generalize W5.drew=wj at *
 have bf:=hid (bn.out.below bd);have ci:=hid (J.out.below bd);have gB:=(bf.out.own.rowBlk ct a4).2;have b1:=gB.lt;have b2:=gB.frozen g;have b3:=gB.cell db;have cn:Hid (dg w3.heap.size B7 W0 (setOn H f g ((H.on.r f).z g-n)) (wj.setCell ⟨G,g,none⟩ (.int .i64 ((H.on.r f).z g-n)))):=bf.out.setOn A2 ct a4 g _;have J:Hid (Blk (wj.setCell ⟨G,g,none⟩ (.int .i64 ((H.on.r f).z g-n))) BM 77 4 (λj=>(#[.int .i64 (g:Int),.int .i64 (f:Int),.int .i64 (b:Int),.int .i64 N]:Array Value).getD j default)):=ci.out.other (a:=⟨G,g,none⟩) (Blk.ne2 ci.out gB (by decide)) _;clear bd gB bn bf ci a4 a5 a7 a8 e8 ce;refine ki 21 rfl ?_;go_wp2_with fail;refine NoPanic.normal ?_;clear b1 b2 b3 r0 r1 r2 r3
 generalize wj.setCell ⟨G,g,none⟩ (.int .i64 ((H.on.r f).z g-n))=W6 at *
 go_wp2_with fail
 generalize hx2:setOn H f g ((H.on.r f).z g-n)=x2 at *
 have dt:=hid hx2;have du:b<x2.on.n:=by rw[<-hx2];exact e7
 have df:g<(x2.on.r b).n:=by rw[<-hx2,rd];exact fb
 have fd:Hid ((x2.on.r b).z g=(H.on.r b).z g):=by show(x2.on.r b).z g=_;rw[<-hx2,Bk,if_neg (λe=>d2 e.1.symm)]
 have hr:0<=(x2.on.r b).z g/\(x2.on.r b).z g<=200:=by rw[fd.out];exact wb
 clear hx2;obtain⟨g0,G,a1,a2,a3,a4,a5,a6,a7,a8,a9,ej,e8,ce⟩:=cn.out.own.onCell du df;have u0:W6.cell? ⟨B7,0,none⟩=some (.slice x2.on.a x2.on.n x2.on.c):=cn.out.box.k 0;have d8:=cn.out.box.lt;rw[a1] at u0;unfold maxLen at a8 ce;have m0:W6.cell? ⟨BM,0,none⟩=some (.int .i64 g):=J.out.k 0;have m1:W6.cell? ⟨BM,2,none⟩=some (.int .i64 b):=J.out.k 2;have ml:=J.out.lt;have r0:(0:Int)<=(b:Int):=by omega
 have r1:(b:Int)<(x2.on.n:Int):=by omega
 have r2:(0:Int)<=(g:Int):=by omega
 have r3:(g:Int)<((x2.on.r b).n:Int):=by omega
 have eg:=Qqq u0;have ff:=Qqq a3;have ea:=Qqq a9;have cu:=Qqq m0;have e4:=Qqq m1;clear u0 a1 a3 a9 m0 m1;refine i9 [(true,[0,1,2,3,4,5,6,7,8,9,10,11,12,13,14,15,16,17,18,19,20],some 21)] ?_;refine⟨λw'=>∃p:Regrown,w'=grow (redrawn W6 p.d) p.os,Qqx (brf.drew),λh=>(by cases h),?_⟩;simp only[dw,Qyq,Xqq,Qyx,Qyz,Xqz,Xqx]
 repeat(go_big_quiet_step(fail))
 refine Qqz ?_;clear eg ff ea cu e4 d8 ml a2 a6 ej;have bd:Below W6.heap.size W6 W6.drew:=brf.drew
 generalize W6.drew=wj at *
 have bf:=hid (cn.out.below bd);have ci:=hid (J.out.below bd);have gB:=(bf.out.own.rowBlk du a4).2;have b1:=gB.lt;have b2:=gB.frozen g;have b3:=gB.cell df;have P:Hid (dg w3.heap.size B7 W0 (setOn x2 b g ((x2.on.r b).z g+n)) (wj.setCell ⟨G,g,none⟩ (.int .i64 ((x2.on.r b).z g+n)))):=bf.out.setOn A2 du a4 g _;clear bd gB cn bf ci a4 a5 a7 a8 e8 ce;refine ki 21 rfl ?_;go_wp2_with fail;refine NoPanic.normal ?_;clear b1 b2 b3 r0 r1 r2 r3
 generalize wj.setCell ⟨G,g,none⟩ (.int .i64 ((x2.on.r b).z g+n))=A at *
 go_wp2_with fail
 generalize hx3:setOn x2 b g ((x2.on.r b).z g+n)=x3 at *
 have dx:=hid hx3;clear hx3;obtain⟨iM,hM,dr,dq,ds⟩:=info_parts C5;obtain⟨⟨⟨l1,d0,d1⟩,l2,c0,c1,c2,c3,c4,c5,c6⟩,T,D,y,L⟩:=HC.out A P.out.bel;have fe:=hid D.ms;have ms8:=HR.out.fm.ms8;rw[ck.out] at c3;have f5:=Qqq c3;clear T D y L c0 c1 c2 c4 c5 c6 d0 d1 c3 ct e7 db fb wf wb du df hr gu;by_cases f3:s.ms.c=i+1;rotate_left
 .refine jt (λw'=>∃p:Regrown,w'=grow (redrawn A p.d) p.os) [1,2,3,4,6,7,8,9,10] [0] [(false,5),(false,11),(false,12),(true,13)] (Qqx (brf.drew)) ?_;simp only[dw,Qyq,Xqq,Qyx,Qyz,Xqz,Xqx]
  repeat(go_big_quiet_step(fail))
  refine Qqz ?_;clear f5;refine⟨λj v g S=>∃B,v = .slice (some ⟨B,0,none⟩) 0 0/\g=[B]/\A.heap.size<=B/\S.heap[B]?=some (.cells #[] 77 (0,0)),
   Qjx ⟨λv g w w' hB h=>⟨h.choose,h.choose_spec.1,h.choose_spec.2.1,h.choose_spec.2.2.1,(hB.block _ (Qkq h.choose_spec.2.2.2).1).trans h.choose_spec.2.2.2⟩,Qjq _⟩,
   Qjx ⟨λv g w h=>by obtain⟨B,-,h2,-,h4⟩:=h;rw[h2];intro x hx;rw[List.mem_singleton] at hx;rw[hx];exact(Qkq h4).1,Qjq _⟩,
   Qjx ⟨?zt0,Qjq _⟩,?ztdone⟩
  case zt0 =>
   intro V G S K hS hd hK;have U:=af hS;refine ay 0 rfl ?_;simp only[ap,bu,Qvz,Qvx,Act.put,Qvq,Qwx,Qwz] at hK ⊢;go_wp2_with fail;exact hK _ [S.heap.size] _ (Qqx (U.alloc U.size _)) (brf.alloc nlr _) (λx hx=>by rw[List.mem_singleton] at hx;omega) ⟨S.heap.size,rfl,rfl,U.size,heap_alloc_new S _⟩
  case ztdone =>
   intro V G' S hS hD hA;obtain⟨BV,eh,ek,bg,cr⟩:∃B,V 0 = .slice (some ⟨B,0,none⟩) 0 0/\G' 0=[B]/\A.heap.size<=B/\S.heap[B]?=some (.cells #[] 77 (0,0)):=hD 0 (by simp);have U:=af hS;clear hS hD hA ek;simp only[ap,bu,Qvz,Qvx,Act.put,Qvq,Qwx,Qwz,eh];have ac:S.ownsRow A.heap.size 77 4 (.slice (some ⟨BV,0,none⟩) 0 0) 0 []:=⟨rfl,Or.inr ⟨BV,0,#[],rfl,bg,cr,Nat.le_refl _,Qxz _,rfl,rfl⟩⟩;have cs:Hid (jc S (some ⟨bm,om,none⟩) s.ms.n s.ms.z/\Below A.heap.size A S):=⟨by have h:=(fe.out.below U).hds;rw[ck.out] at h;exact h,U⟩;refine dk 5 rfl ?_;refine wpList_append_own S rfl (.tmp 97) (.tmp 101) 29 rfl A.heap.size 77 iM (.agg #[.int .i64 0,.int .i64 0,.int .i64 0,.int .i64 0]) 4 32 Tryz.underlying29 hM dr dq ds rfl (by decide) _ 0 [] rfl ac ⟨bm,om,none⟩ i _ (ax i s.ms.z) rfl (ed _ _) (λj u hj=>by
    rw[vx];have h:=cs.out.1.flat (q:=0) (m:=i) (by omega) (j:=j) (u:=u) (by simpa using hj)
    simpa using h) (me _ _) (by unfold maxLen;omega) (by omega) U.size ?_
   intro v1 aw r1 r2 _;have cd:Below A.heap.size A aw:=U.grown r2 U.size (λk e=>by cases e;exact bg);have Y:=hid cd;have ba:Hid (aw.ownsRow A.heap.size 77 4 v1 i (ax i s.ms.z)):=by have h:=r1;rw[Nat.zero_add,Xqx] at h;exact h
   clear U r1 r2 ac cr bg cs cd;simp only[Act.put,Qvq,Qwx,Qwz];refine(?_:wpList _ _ _ [] _ _);go_wp2_with fail;refine⟨jq.no (Qqx Y.out),?_⟩;refine dk 11 rfl ?_;have f4:Hid (jc aw (some ⟨bm,om,none⟩) s.ms.n s.ms.z):=by have h:=(fe.out.below Y.out).hds;rw[ck.out] at h;exact h
   refine wpList_append_own aw rfl (.tmp 102) (.tmp 107) 29 rfl A.heap.size 77 iM (.agg #[.int .i64 0,.int .i64 0,.int .i64 0,.int .i64 0]) 4 32 Tryz.underlying29 hM dr dq ds rfl (by decide) v1 i (ax i s.ms.z) rfl ba.out ⟨bm,om+(i+1)*4,none⟩ (s.ms.n-(i+1)) _ (ax (s.ms.n-(i+1)) (λj=>s.ms.z (i+1+j))) rfl (ed _ _) (λj u hj=>by rw[vx];exact f4.out.flat (q:=i+1) (m:=s.ms.n-(i+1)) (by omega) hj) (me _ _) (by unfold maxLen;omega) (by omega) Y.out.size ?_;intro v2 Q r3 r4 _;have cv:Below A.heap.size A Q:=Y.out.grown r4 Y.out.size (λk e=>Cd ba.out e);have bb:Q.ownsRow A.heap.size 77 4 v2 (s.ms.n-1) (ax (s.ms.n-1) (fs s.ms.z i)):=by
    rw[ua s.ms.n s.ms.z i hi];have c7:=r3;rw[show i+(s.ms.n-(i+1))=s.ms.n-1 by omega] at c7;exact c7
   obtain⟨t,rfl,az,kn,kz⟩:=cz.ofRow bb nlr;have ca:Hid (fq A.heap.size Q 77 4 t.a t.c):=fq.ofOwns (a:=t.a) (n:=t.n) (c:=t.c) bb nlr;have am:=qa3 az kn kz;have E:=hid cv;clear r3 r4 cv bb az kn kz ba Y f4;simp only[Act.put,Qvq,Qwx,Qwz,Hs.val];refine(?_:wpList _ _ _ [] _ _);go_wp2_with fail;refine⟨jq.no (Qqx E.out),?_⟩;refine dk 12 rfl ?_;have F:=P.out.box.below E.out;have zl:=F.lt;have al:=F.frozen 3;have zc3:=F.k 3;go_wp2_with fail;refine⟨jq.no (Qqx E.out),?_⟩;refine dk 13 rfl ?_;go_wp2_with fail;refine⟨jq.yes,?_⟩;clear zl al zc3;have e6:Hid (Blk (Q.setCell ⟨B7,3,none⟩ (.slice t.a t.n t.c)) B7 31 7 (λj=>(withMoves x3 t).cells.getD j default)):=(F.set 3 _).congr λj hj=>by match j,hj with|0,_=>rfl|1,_=>rfl|2,_=>rfl|3,_=>rfl|4,_=>rfl|5,_=>rfl|6,_=>rfl
   have eo:Hid (Below W0.heap.size W0 (Q.setCell ⟨B7,3,none⟩ (.slice t.a t.n t.c))):=(P.out.bel.trans (E.out.mono P.out.bel.size)).setCell (p:=⟨B7,3,none⟩) (by show W0.heap.size<=B7;omega) _;have ey:Hid (ai w3.heap.size (Q.setCell ⟨B7,3,none⟩ (.slice t.a t.n t.c)) (withMoves x3 t)):=((ai.below P.out.own E.out).withM (am.out.1.mono P.out.le) (ca.out.mono P.out.le)).box F 3 (.slice t.a t.n t.c);have eu:Hid (ae (withMoves x3 t) (je s i n)):=by
    have h:=Ba HI.out gd.out (q:=t) am.out.2.1 (λj hj=>by rw[am.out.2.2];rfl);have e:tx H t f b g n=withMoves x3 t:=by
     unfold tx;rw[<-dx.out,fd.out,<-dt.out]
     rfl
    rw[e] at h;exact h
   clear F P E am dx dt ca
   generalize Q.setCell ⟨B7,3,none⟩ (.slice t.a t.n t.c)=W9 at *
   generalize withMoves x3 t=x4 at *
   refine NoPanic.normal ?_;obtain⟨m1,p0,p1,p2,p3,p4,p5,p6⟩:=Boxed.of e6.out;obtain⟨-,-,-,y,L⟩:=HC.out W9 eo.out;have HZ:=qa2 y L;obtain⟨zl,cj,cw,cg,zc1,cy,zc2,al,zc3,cc,zc4,cp,zc5,c8,c9⟩:=z7 L;have g1:=(HC.out _ brf).2.2.2.1.size;clear y L u1 u2 u3 u4 u5 u6 q0 q1 q2 q3 q4 q5 rn hZB hi bp nn ak bc bl d2 et b9 dm e0 em leb b4 les bz capb caps;go_wp2_with fail;have KZ:=s7b HZ.out.2 x4;have cq:=s7w (b:=w.heap.size+2) HZ.out.1 (by omega) x4;have be:=s7o ey.out HZ.out.2 x4;unfold set7 at KZ cq be;obtain⟨ec,fh,ee,fg,ex,fc,ei⟩:=co KZ;refine Xzq (v := .tuple #[x4.val,.int .i64 0]) (by simp[results,Tryz.results37,go_sem,St.val,ec,fh,ee,fg,ex,fc,ei]) rfl ?_;exact⟨x4,by rw[HX.out];rfl,be.at,⟨λ_=>eu.out,λh=>absurd HX.out h⟩,λ_=>be.mono e3.out,cq⟩
 refine jt (λw'=>∃p:Regrown,w'=grow (redrawn A p.d) p.os) [1,2,3,4,6,7,8,9,10] [0] [(false,5),(false,11),(false,12),(true,13)] (Qqx (brf.drew)) ?_;simp only[dw,Qyq,Xqq,Qyx,Qyz,Xqz,Xqx]
 repeat(go_big_quiet_step(fail))
 refine Qqz ?_;clear f5;have f2:=hid f3;clear f3;refine⟨λj v g S=>∃B,v = .slice (some ⟨B,0,none⟩) 0 0/\g=[B]/\A.heap.size<=B/\S.heap[B]?=some (.cells #[] 77 (0,0)),
  Qjx ⟨λv g w w' hB h=>⟨h.choose,h.choose_spec.1,h.choose_spec.2.1,h.choose_spec.2.2.1,(hB.block _ (Qkq h.choose_spec.2.2.2).1).trans h.choose_spec.2.2.2⟩,Qjq _⟩,
  Qjx ⟨λv g w h=>by obtain⟨B,-,h2,-,h4⟩:=h;rw[h2];intro x hx;rw[List.mem_singleton] at hx;rw[hx];exact(Qkq h4).1,Qjq _⟩,
  Qjx ⟨?zt0,Qjq _⟩,?ztdone⟩
 case zt0 =>
  intro V G S K hS hd hK;have U:=af hS;refine ay 0 rfl ?_;simp only[ap,bu,Qvz,Qvx,Act.put,Qvq,Qwx,Qwz] at hK ⊢;go_wp2_with fail;exact hK _ [S.heap.size] _ (Qqx (U.alloc U.size _)) (brf.alloc nlr _) (λx hx=>by rw[List.mem_singleton] at hx;omega) ⟨S.heap.size,rfl,rfl,U.size,heap_alloc_new S _⟩
 case ztdone =>
  intro V G' S hS hD hA;obtain⟨BV,eh,ek,bg,cr⟩:∃B,V 0 = .slice (some ⟨B,0,none⟩) 0 0/\G' 0=[B]/\A.heap.size<=B/\S.heap[B]?=some (.cells #[] 77 (0,0)):=hD 0 (by simp);have U:=af hS;clear hS hD hA ek;simp only[ap,bu,Qvz,Qvx,Act.put,Qvq,Qwx,Qwz,eh];have ac:S.ownsRow A.heap.size 77 4 (.slice (some ⟨BV,0,none⟩) 0 0) 0 []:=⟨rfl,Or.inr ⟨BV,0,#[],rfl,bg,cr,Nat.le_refl _,Qxz _,rfl,rfl⟩⟩;have cs:Hid (jc S (some ⟨bm,om,none⟩) s.ms.n s.ms.z/\Below A.heap.size A S):=⟨by have h:=(fe.out.below U).hds;rw[ck.out] at h;exact h,U⟩;refine dk 5 rfl ?_;refine wpList_append_own S rfl (.tmp 97) (.tmp 101) 29 rfl A.heap.size 77 iM (.agg #[.int .i64 0,.int .i64 0,.int .i64 0,.int .i64 0]) 4 32 Tryz.underlying29 hM dr dq ds rfl (by decide) _ 0 [] rfl ac ⟨bm,om,none⟩ i _ (ax i s.ms.z) rfl (ed _ _) (λj u hj=>by
   rw[vx];have h:=cs.out.1.flat (q:=0) (m:=i) (by omega) (j:=j) (u:=u) (by simpa using hj)
   simpa using h) (me _ _) (by unfold maxLen;omega) (by omega) U.size ?_
  intro v1 aw r1 r2 _;have cd:Below A.heap.size A aw:=U.grown r2 U.size (λk e=>by cases e;exact bg);have Y:=hid cd;have ba:Hid (aw.ownsRow A.heap.size 77 4 v1 i (ax i s.ms.z)):=by have h:=r1;rw[Nat.zero_add,Xqx] at h;exact h
  clear U r1 r2 ac cr bg cs cd;simp only[Act.put,Qvq,Qwx,Qwz];refine(?_:wpList _ _ _ [] _ _);go_wp2_with fail;refine⟨jq.no (Qqx Y.out),?_⟩;refine dk 11 rfl ?_;refine wpList_append_own aw rfl (.tmp 102) (.tmp 107) 29 rfl A.heap.size 77 iM (.agg #[.int .i64 0,.int .i64 0,.int .i64 0,.int .i64 0]) 4 32 Tryz.underlying29 hM dr dq ds rfl (by decide) v1 i (ax i s.ms.z) rfl ba.out ⟨bm,om,none⟩ _ _ [] rfl (by first|rfl|(have:=f2.out;simp;omega)) (λj u hj=>by cases hj) (λu hu=>by cases hu) (by unfold maxLen;omega) (by omega) Y.out.size ?_;intro v2 Q r3 r4 _;have cv:Below A.heap.size A Q:=Y.out.grown r4 Y.out.size (λk e=>Cd ba.out e);have bb:Q.ownsRow A.heap.size 77 4 v2 (s.ms.n-1) (ax (s.ms.n-1) (fs s.ms.z i)):=by
   rw[ua s.ms.n s.ms.z i hi];have hc:=f2.out;have e1:s.ms.n-(i+1)=0:=by omega
   rw[e1];have e2:s.ms.n-1=i:=by omega
   rw[e2]
   first|exact r3|(have c7:=r3;rw[e1] at c7;exact c7)
  obtain⟨t,rfl,az,kn,kz⟩:=cz.ofRow bb nlr;have ca:Hid (fq A.heap.size Q 77 4 t.a t.c):=fq.ofOwns (a:=t.a) (n:=t.n) (c:=t.c) bb nlr;have am:=qa3 az kn kz;have E:=hid cv;clear r3 r4 cv bb az kn kz ba Y;simp only[Act.put,Qvq,Qwx,Qwz,Hs.val];refine(?_:wpList _ _ _ [] _ _);go_wp2_with fail;refine⟨jq.no (Qqx E.out),?_⟩;refine dk 12 rfl ?_;have F:=P.out.box.below E.out;have zl:=F.lt;have al:=F.frozen 3;have zc3:=F.k 3;go_wp2_with fail;refine⟨jq.no (Qqx E.out),?_⟩;refine dk 13 rfl ?_;go_wp2_with fail;refine⟨jq.yes,?_⟩;clear zl al zc3;have e6:Hid (Blk (Q.setCell ⟨B7,3,none⟩ (.slice t.a t.n t.c)) B7 31 7 (λj=>(withMoves x3 t).cells.getD j default)):=(F.set 3 _).congr λj hj=>by match j,hj with|0,_=>rfl|1,_=>rfl|2,_=>rfl|3,_=>rfl|4,_=>rfl|5,_=>rfl|6,_=>rfl
  have eo:Hid (Below W0.heap.size W0 (Q.setCell ⟨B7,3,none⟩ (.slice t.a t.n t.c))):=(P.out.bel.trans (E.out.mono P.out.bel.size)).setCell (p:=⟨B7,3,none⟩) (by show W0.heap.size<=B7;omega) _;have ey:Hid (ai w3.heap.size (Q.setCell ⟨B7,3,none⟩ (.slice t.a t.n t.c)) (withMoves x3 t)):=((ai.below P.out.own E.out).withM (am.out.1.mono P.out.le) (ca.out.mono P.out.le)).box F 3 (.slice t.a t.n t.c);have eu:Hid (ae (withMoves x3 t) (je s i n)):=by
   have h:=Ba HI.out gd.out (q:=t) am.out.2.1 (λj hj=>by rw[am.out.2.2];rfl);have e:tx H t f b g n=withMoves x3 t:=by
    unfold tx;rw[<-dx.out,fd.out,<-dt.out]
    rfl
   rw[e] at h;exact h
  clear F P E am dx dt ca
  generalize Q.setCell ⟨B7,3,none⟩ (.slice t.a t.n t.c)=W9 at *
  generalize withMoves x3 t=x4 at *
  refine NoPanic.normal ?_;obtain⟨m1,p0,p1,p2,p3,p4,p5,p6⟩:=Boxed.of e6.out;obtain⟨-,-,-,y,L⟩:=HC.out W9 eo.out;have HZ:=qa2 y L;obtain⟨zl,cj,cw,cg,zc1,cy,zc2,al,zc3,cc,zc4,cp,zc5,c8,c9⟩:=z7 L;have g1:=(HC.out _ brf).2.2.2.1.size;clear y L u1 u2 u3 u4 u5 u6 q0 q1 q2 q3 q4 q5 rn hZB hi bp nn ak bc bl d2 et b9 dm e0 em leb b4 les bz capb caps;go_wp2_with fail;have KZ:=s7b HZ.out.2 x4;have cq:=s7w (b:=w.heap.size+2) HZ.out.1 (by omega) x4;have be:=s7o ey.out HZ.out.2 x4;unfold set7 at KZ cq be;obtain⟨ec,fh,ee,fg,ex,fc,ei⟩:=co KZ;refine Xzq (v := .tuple #[x4.val,.int .i64 0]) (by simp[results,Tryz.results37,go_sem,St.val,ec,fh,ee,fg,ex,fc,ei]) rfl ?_;exact⟨x4,by rw[HX.out];rfl,be.at,⟨λ_=>eu.out,λh=>absurd HX.out h⟩,λ_=>be.mono e3.out,cq⟩
def mi(f:Hd->Bool)(z:Nat->Hd)(n:Nat):Int:=match jy f z n with
 | none => -1
 | some k=>(k:Int)
theorem Ob{f:Hd->Bool}{z:Nat->Hd}{k:Nat}(h:f (z k)=true):mi f z (k+1)=(k:Int):=by
 have e:jy f z (k+1)=some k:=if_pos h;unfold mi;rw[e]
theorem Ck{f:Hd->Bool}{z:Nat->Hd}{k:Nat}(h:f (z k)=false):mi f z (k+1)=mi f z k:=by
 have e:jy f z (k+1)=jy f z k:=if_neg (by rw[h];decide);unfold mi;rw[e]
theorem Q2(s:St)(b g:Nat)(w:World)(hs:s.At w):
  Calls Tryz.prog 91 #[s.val,.int .i64 (b:Int),.int .i64 (g:Int)] w λe w'=>e = .returned (.int .i64 (mi (ct b g) s.ms.z s.ms.n))/\Below w.heap.size w w':=by
 obtain⟨B,T,m,K⟩:∃W,w.alloc (.cells s.cells 31)=W/\Below w.heap.size w W/\Blk W w.heap.size 31 7 (λj=>s.cells.getD j default):=⟨_,rfl,(Below.refl w.heap.size w).alloc nlr _,Blk.mk' rfl rfl⟩;have X:Hid (∀f,Below B.heap.size B f->Blk f w.heap.size 31 7 (λj=>s.cells.getD j default)/\s.At f/\Below w.heap.size w f):=λf h=>⟨K.below h,(hs.below m).below h,m.trans (h.mono m.size)⟩;have M:Hid (w.alloc (.cells #[.slice s.on.a s.on.n s.on.c,.slice s.os.a s.os.n s.os.c,.slice s.hs.a s.hs.n s.hs.c,.slice s.ms.a s.ms.n s.ms.c,.slice s.si.a s.si.n s.si.c,.slice s.so.a s.so.n s.so.c,.slice s.sf.a s.sf.n s.sf.c] 31)=B):=T;have ml:=hs.ms.le;have mc:=hs.ms.cap;unfold maxLen at mc;obtain⟨D,A,t,E,q,v,F,r⟩:=Boxed.of K;rw[<-M.out] at D A t E q v F r;clear T m K hs;unfold St.val;go_enter Tryz.func91,Tryz.ntmps91;go_wp2_with fail;rw[M.out];clear M D A t E q v F r
 go_loopw [7] (λP f=>∃i:Nat,i<=s.ms.n/\P = .int .i64 ((i:Int)-1)/\Hid (mi (ct b g) s.ms.z s.ms.n=mi (ct b g) s.ms.z i)/\Hid (Below B.heap.size B f)) (λP _=>(intOf P+1).toNat)
 case atStart=>exact⟨s.ms.n,Nat.le_refl _,rfl,rfl,Below.refl _ _⟩
 obtain⟨i,hi,rfl,d,J⟩:=hrel;rcases i with _|k
 .have y:=(X.out wr J.out).2.2;have U:=hid d.out;clear d;go_wp2_with fail;go_ret;exact⟨by rw[U.out];rfl,y⟩
 have q1:(0:Int)<=(k:Int):=by omega
 have Y:k<s.ms.n:=by omega
 have q3:(k:Int)<(s.ms.n:Int):=by omega
 have V:(((k+1:Nat):Int)-1)=(k:Int):=by omega
 rw[V];obtain⟨H,u,y⟩:=X.out wr J.out;obtain⟨D,A,t,E,q,v,F,r⟩:=Boxed.of H;obtain⟨bm,om,x,ad,z0,z1,z2,z3⟩:=u.ms.hds k Y;have ac:=hid x;rw[x] at q;have p:Hid (ct b g (s.ms.z k)=((s.ms.z k).l==(b:Int)&&(s.ms.z k).o==(g:Int))):=rfl
 generalize hZ:s.ms.z k=Z at *
 have L:=hid hZ;clear x hZ V;cases Q:(Z.l==(b:Int))
 .have G:Hid (mi (ct b g) s.ms.z s.ms.n=mi (ct b g) s.ms.z k):=by show _=_;rw[d.out,Ck (by rw[L.out,p.out,Q];rfl)]
  clear d p;go_wp2_with fail;clear H u D A t E q v F r;go_roundw
  case rel=>exact⟨k,by omega,by go_num,G,J⟩
  case measure=>simp[intOf]
 cases S:(Z.o==(g:Int))
 .have G:Hid (mi (ct b g) s.ms.z s.ms.n=mi (ct b g) s.ms.z k):=by show _=_;rw[d.out,Ck (by rw[L.out,p.out,Q,S];rfl)]
  clear d p;go_wp2_with fail;clear H u D A t E q v F r;go_roundw
  case rel=>exact⟨k,by omega,by go_num,G,J⟩
  case measure=>simp[intOf]
 have G:Hid (mi (ct b g) s.ms.z s.ms.n=(k:Int)):=by show _=_;rw[d.out,Ob (by rw[L.out,p.out,Q,S];rfl)]
 clear d p;go_wp2_with fail;go_ret;exact⟨by rw[G.out];rfl,y⟩
theorem Qm(p:Pl)(s:St)(b g:Nat)(w:World)(hs:s.At w)(f:cw p s):
  Calls Tryz.prog 92 #[s.val,.int .i64 (b:Int),.int .i64 (g:Int)] w λe w'=>e = .returned (.int .i64 (mi (cd s b g) s.hs.z s.hs.n))/\Below w.heap.size w w':=by
 have ba:=hid f;have bw:=hs.os.le;have bb:=hs.os.cap;unfold maxLen at bb;clear f;obtain⟨W0,hW,T,hX⟩:∃W,w.alloc (.cells s.cells 31)=W/\Below w.heap.size w W/\Blk W w.heap.size 31 7 (λj=>s.cells.getD j default):=⟨_,rfl,(Below.refl w.heap.size w).alloc nlr _,Blk.mk' rfl rfl⟩;have HC:Hid (∀S,Below W0.heap.size W0 S->Blk S w.heap.size 31 7 (λj=>s.cells.getD j default)/\s.At S/\Below w.heap.size w S):=λS h=>⟨hX.below h,(hs.below T).below h,T.trans (h.mono T.size)⟩;have HW:Hid (w.alloc (.cells #[.slice s.on.a s.on.n s.on.c,.slice s.os.a s.os.n s.os.c,.slice s.hs.a s.hs.n s.hs.c,.slice s.ms.a s.ms.n s.ms.c,.slice s.si.a s.si.n s.si.c,.slice s.so.a s.so.n s.so.c,.slice s.sf.a s.sf.n s.sf.c] 31)=W0):=hW;have ml:=hs.hs.le;have mc:=hs.hs.cap;unfold maxLen at mc;obtain⟨A,x,r,t,K,J,B,E⟩:=Boxed.of hX;rw[<-HW.out] at A x r t K J B E;clear hW T hX hs;unfold St.val;go_enter Tryz.func92,Tryz.ntmps92;go_wp2_with fail;rw[HW.out];clear HW A x r t K J B E
 go_loopw [7] (λiv S=>∃i:Nat,i<=s.hs.n/\iv = .int .i64 ((i:Int)-1)/\Hid (mi (cd s b g) s.hs.z s.hs.n=mi (cd s b g) s.hs.z i)/\Hid (Below W0.heap.size W0 S)) (λiv _=>(intOf iv+1).toNat)
 case atStart=>exact⟨s.hs.n,Nat.le_refl _,rfl,rfl,Below.refl _ _⟩
 obtain⟨i,hi,rfl,H,HB⟩:=hrel;rcases i with _|k
 .have bh:=(HC.out wr HB.out).2.2;have bi:=hid H.out;clear H;go_wp2_with fail;go_ret;exact⟨by rw[bi.out];rfl,bh⟩
 have q1:(0:Int)<=(k:Int):=by omega
 have hk:k<s.hs.n:=by omega
 have q3:(k:Int)<(s.hs.n:Int):=by omega
 have e1:(((k+1:Nat):Int)-1)=(k:Int):=by omega
 rw[e1];obtain⟨a1,a2,a3⟩:=iu (ba.out.home k hk);obtain⟨o,ho⟩:=Qzz a1.1;obtain⟨l,hl⟩:=Qzz a2.1;rw[ho] at a1 a2;rw[hl] at a2;have on:o<s.os.n:=a1.2;have ln:l<(s.os.z o).ls.n:=a2.2;have V:Hid (cd s b g (s.hs.z k)=((s.hs.z k).b==(b:Int)&&((s.os.z o).ls.z l).o==(g:Int))):=by
  show cd s b g (s.hs.z k)=_;unfold cd jo;rw[ho,hl]
  rfl
 obtain⟨D,F,-⟩:=HC.out wr HB.out;obtain⟨bm,om,aq,bn,v0,v1,v2,v3⟩:=F.hs.hds k hk;rw[ho] at v0;rw[hl] at v1
 generalize (s.hs.z k).b=ZB at *
 generalize (s.hs.z k).n=ZN at *
 obtain⟨W3,au,ah,K3⟩:∃W,wr.alloc (.cells #[.int .i64 (o:Int),.int .i64 (l:Int),.int .i64 ZB,.int .i64 ZN] 103)=W/\Below wr.heap.size wr W/\Blk W wr.heap.size 103 4 (λj=>(#[.int .i64 (o:Int),.int .i64 (l:Int),.int .i64 ZB,.int .i64 ZN]:Array Value).getD j default):=⟨_,rfl,brf.alloc nlr _,Blk.mk' rfl rfl⟩;have ar:Hid (wr.alloc (.cells #[.int .i64 (o:Int),.int .i64 (l:Int),.int .i64 ZB,.int .i64 ZN] 103)=W3):=au;have d:=hid (HB.out.trans (ah.mono HB.out.size));have yl:=K3.lt;have Y:W3.cell? ⟨wr.heap.size,0,none⟩=some (.int .i64 (o:Int)):=K3.k 0;have X:W3.cell? ⟨wr.heap.size,1,none⟩=some (.int .i64 (l:Int)):=K3.k 1;have y2:W3.cell? ⟨wr.heap.size,2,none⟩=some (.int .i64 ZB):=K3.k 2;have y3:W3.cell? ⟨wr.heap.size,3,none⟩=some (.int .i64 ZN):=K3.k 3;obtain⟨A,x,r,t,K,J,B,E⟩:=Boxed.of D;rw[aq] at t;clear a1 a2 a3 ho hl au ah K3 D F aq e1;go_wp2_with fail;rw[ar.out];clear ar A x r t K J B E bn v0 v1 v2 v3;obtain⟨D,F,-⟩:=HC.out W3 d.out;obtain⟨A,x,r,t,K,J,B,E⟩:=Boxed.of D;obtain⟨bo,oo,av,ak,z0,Q,U⟩:=F.os.ods o on;obtain⟨bl,ol,aw,ag,w0,w1,w2,w3⟩:=U.hds l ln;have ll:=U.le;have lc:=U.cap;unfold maxLen at lc;rw[av] at r;rw[aw] at Q;have s0:(0:Int)<=(o:Int):=by omega
 have s1:(o:Int)<(s.os.n:Int):=by omega
 have s2:(0:Int)<=(l:Int):=by omega
 have s3:(l:Int)<((s.os.z o).ls.n:Int):=by omega
 clear D F av aw U HB
 generalize ((s.os.z o).ls.z l).o=ZO at *
 cases h1:(ZB==(b:Int))
 .have HN:Hid (mi (cd s b g) s.hs.z s.hs.n=mi (cd s b g) s.hs.z k):=by show _=_;rw[H.out,Ck (by rw[V.out,h1];rfl)]
  clear H V;have M:=Qqq r;have P:=Qqq Y;have G:=Qqq X;have v:=Qqq y2;have y:=Qqq Q;have L:=Qqq w0;refine Qxq (by kernel_rfl) (by kernel_rfl) ?_
  repeat(go_big_quiet_step(fail))
  refine Qqz ?_;intro w4 q;have m:=af q;have u:=hid (d.out.trans (m.mono d.out.size));clear q m M P G v y L d A x r t K J B E Y X y2 y3 yl ak z0 Q ag w0 w1 w2 w3;go_wp2_with fail;go_roundw
  case rel=>exact⟨k,by omega,by go_num,HN,u⟩
  case measure=>simp[intOf]
 cases h2:(ZO==(g:Int));rotate_left
 .have HN:Hid (mi (cd s b g) s.hs.z s.hs.n=(k:Int)):=by show _=_;rw[H.out,Ob (by rw[V.out,h1,h2];rfl)]
  clear H V;have M:=Qqq r;have P:=Qqq Y;have G:=Qqq X;have v:=Qqq y2;have y:=Qqq Q;have L:=Qqq w0;refine Qxq (by kernel_rfl) (by kernel_rfl) ?_
  repeat(go_big_quiet_step(fail))
  refine Qqz ?_;intro w4 q;have m:=af q;have u:=hid (d.out.trans (m.mono d.out.size));clear q m M P G v y L d A x r t K J B E Y X y2 y3 yl ak z0 Q ag w0 w1 w2 w3;go_wp2_with fail;go_ret;exact⟨by rw[HN.out];rfl,(HC.out _ u.out).2.2⟩
 have HN:Hid (mi (cd s b g) s.hs.z s.hs.n=mi (cd s b g) s.hs.z k):=by show _=_;rw[H.out,Ck (by rw[V.out,h1,h2];rfl)]
 clear H V;have M:=Qqq r;have P:=Qqq Y;have G:=Qqq X;have v:=Qqq y2;have y:=Qqq Q;have L:=Qqq w0;refine Qxq (by kernel_rfl) (by kernel_rfl) ?_
 repeat(go_big_quiet_step(fail))
 refine Qqz ?_;intro w4 q;have m:=af q;have u:=hid (d.out.trans (m.mono d.out.size));clear q m M P G v y L d A x r t K J B E Y X y2 y3 yl ak z0 Q ag w0 w1 w2 w3;go_wp2_with fail;go_roundw
 case rel=>exact⟨k,by omega,by go_num,HN,u⟩
 case measure=>simp[intOf]
theorem Cv{p:Nat->Prop}(h:∃n,p n):∃n,p n/\∀m,p m->n<=m:=by
 obtain⟨n,e⟩:=h
 induction n using Nat.strongRecOn with
 | _ n ih =>
  by_cases c:∃m,m<n/\p m
  .obtain⟨m,f,d⟩:=c;exact ih m f d
  exact⟨n,e,λm b=>Nat.le_of_not_lt λa=>c ⟨m,a,b⟩⟩
theorem Sfl:∃f:(Nat->Prop)->Nat,(∀p:Nat->Prop,(∃n,p n)->p (f p))/\∀(p:Nat->Prop) (n:Nat),p n->f p<=n:=by
 have h:∀p:Nat->Prop,∃m,(∃n,p n)->p m/\∀n,p n->m<=n:=λp=>by
  by_cases c:∃n,p n
  .obtain⟨m,hm⟩:=Cv c;exact⟨m,λ_=>hm⟩
  exact⟨0,λh=>absurd h c⟩
 exact⟨λp=>Classical.choose (h p),λp hp=>(Classical.choose_spec (h p) hp).1,λp n hn=>(Classical.choose_spec (h p) ⟨n,hn⟩).2 n hn⟩
section
variable {p:Pl} {s x:St} {b g:Nat} {seen J:Int}
theorem db.formedJ(h:db p s b g seen)(a:0<=J):cw p (jl (i6 s b g J) b g seen):=by
 have F:=Fs (b:=b) (g:=g) h.r a;have G:=h.right.fm;exact⟨G.sh,G.sh0,F.os4,F.ms8,F.lns,F.kind,F.line,F.hold,F.home,F.move,G.sin,G.son,G.sfn,G.sib,G.sob,G.sfb⟩
theorem mx.formed(h:db p s b g seen)(a:0<=J)(c:mx s b g seen J x):cw p x:=ae.formed c (h.formedJ a)
theorem mx.boundJ(h:db p s b g seen)(a:0<=J)(f:J<=m9 s b g)(c:mx s b g seen J x):m9 x b g=m9 s b g-J:=by
 rw[<-Xc h.r a f];unfold m9;rw[ae.held c (h.formedJ a),ae.from c];have e:ca (jl (i6 s b g J) b g seen) b g (jl (i6 s b g J) b g seen).hs.n=ca (i6 s b g J) b g (i6 s b g J).hs.n:=ri (λ_ _=>rfl) (λ_ _=>rfl);have d:az (jl (i6 s b g J) b g seen) b g (jl (i6 s b g J) b g seen).ms.n=az (i6 s b g J) b g (i6 s b g J).ms.n:=ow (λ_ _=>rfl);rw[e,d]
theorem dg.moveN{A f:Nat}{c e:World}(h:dg A f c x e)(q:c.heap.size<=A){i G:Nat}(hi:i<x.ms.n)(g:x.ms.a=some ⟨G,0,none⟩)(d:Int):dg A f c (withMoves x (Bo x.ms i d)) (e.setCell ⟨G,i*4+3,none⟩ (.int .i64 ((x.ms.z i).n-d))):=by
 have k:=h.own.ms;obtain⟨s,o,t,l⟩:=h.own.ms;obtain⟨r,b,m,j⟩:=l (by omega);rw[g] at b;simp only[Qkx,Qkz,and_true] at b;subst b;exact⟨h.own.keepM j ((im.refl G e).set _ _) (k.less hi g d) (h.own.msr.set G (i*4+3) _),h.box.other (a:=⟨G,i*4+3,none⟩) (Blk.ne2 h.box j (by decide)) _,h.bel.setCell (p:=⟨G,i*4+3,none⟩) (by show c.heap.size<=G;omega) _,by have:=h.le;simpa using this⟩
theorem dg.holds{A b:Nat}{d e:World}(h:dg A b d x e)(i:d.heap.size<=b){m:Hs}(f:cz A 103 e m):dg A b d (withHolds x m) (e.setCell ⟨b,2,none⟩ (.slice m.a m.n m.c)):=by
 refine⟨(h.own.withHolds f).box h.box 2 _,(h.box.set 2 _).congr λj g => ?_,h.bel.setCell (p:=⟨b,2,none⟩) i _,by have:=h.le;simpa using this⟩
 match j,g with
 | 0,_=>rfl
 | 1,_=>rfl
 | 2,_=>rfl
 | 3,_=>rfl
 | 4,_=>rfl
 | 5,_=>rfl
 | 6,_=>rfl
theorem dg.line{A e:Nat}{c g:World}(h:dg A e c x g)(m:c.heap.size<=A){o B:Nat}(d:o<x.os.n)(f:(x.os.z o).ls.a=some ⟨B,0,none⟩)(l:Nat)(v:Int):dg A e c (setLine x o l 3 v) (g.setCell ⟨B,l*4+3,none⟩ (.int .i64 v)):=by
 obtain⟨B',b,j,q,k,i⟩:=h.own.os.lines o d;rw[f] at b;simp only[Qkx,Qkz,and_true] at b;subst b;exact⟨h.own.setLine d f l 3 (by decide) v,h.box.other (a:=⟨B,l*4+3,none⟩) (Blk.ne2 h.box i (by decide)) _,h.bel.setCell (p:=⟨B,l*4+3,none⟩) (by show c.heap.size<=B;omega) _,by have:=h.le;simpa using this⟩
theorem mx.cutQ_move(r:au p s)(a:0<=J)(h:mx s b g seen J x){k:Nat}(c:jy (ct b g) x.ms.z x.ms.n=some k):eu s b g (J+1)=eu s b g J:=by
 have s1:=yt (by rw[h.revM];exact Nc (Ay _ r.movesP a)) c;rw[h.revM,uk,(ti (re b g) r.movesP a).1] at s1;have d:az s b g s.ms.n=fh (ct b g) (pd s):=uf s b g s.ms.n;have L:ij s b g (J+1)=ij s b g J:=by
  have a1:=(mp (b:=b) (g:=g) r a).1;have e:=(mp (b:=b) (g:=g) (M:=J+1) r (by omega)).1;omega
 unfold eu;rw[L]
theorem ai.boxA{A:Nat}{w:World}{s:St}{q n:Nat}{f:Nat->Value}(h:ai A w s)(b:Blk w q 133 n f)(j:Nat)(u:Value):ai A (w.setCell ⟨q,j,none⟩ u) s:=by
 refine⟨?_,λi hi=>(h.rows i hi).other b (by decide) j u,h.rapart,h.os.other b (by decide) (by decide) j u,h.hs.other b (by decide) j u,h.ms.other b (by decide) j u,h.msr.set q j u,h.si.other b (by decide) j u,h.so.other b (by decide) j u,h.sf.other b (by decide) j u,h.aio,h.aif,h.aof,h.ari⟩;obtain⟨g,k,e,l,d,c⟩:=h.on;exact⟨g,k,e,l,d,c.other (a:=⟨q,j,none⟩) (Blk.ne2 c b (by decide)) u⟩
theorem dg.boxA{A e:Nat}{b c:World}{q n:Nat}{f:Nat->Value}(h:dg A e b x c)(d:Blk c q 133 n f)(g:b.heap.size<=q)(j:Nat)(u:Value):dg A e b x (c.setCell ⟨q,j,none⟩ u):=
 ⟨h.own.boxA d j u,h.box.other (a:=⟨q,j,none⟩) (Blk.ne2 h.box d (by decide)) u,h.bel.setCell (p:=⟨q,j,none⟩) g u,by have:=h.le;simpa using this⟩
def vg(q:Int->Int->Int)(j:Nat):Value := .int .i64 (q ((j/3:Nat):Int) ((j%3:Nat):Int))
theorem S3(q:Int->Int->Int){o l:Nat}(a:l<3):vg q (o*3+l) = .int .i64 (q o l):=by
 unfold vg;rw[show(o*3+l)/3=o by omega,show(o*3+l)%3=l by omega]
theorem Tl(r:au p s)(o l:Int):eu s b g 0 o l=0:=by
 have l0:ij s b g 0=0:=by
  have a:=mp (b:=b) (g:=g) r (Int.le_refl 0);have c:=(jr (s:=s) (b:=b) (g:=g) (n:=s.ms.n) r.fm.moveN).1;omega
 unfold eu;rw[l0];exact Bl _ _ _ r.holdsP
theorem Vs{q b:Int->Int->Int}{o l:Nat}(f:l<3)(h:∀a d:Int,b a d=q a d+if a=o/\d=l then 1 else 0)(j:Nat):(if j=o*3+l then Value.int .i64 (q o l+1) else vg q j)=vg b j:=by
 unfold vg;rw[h];by_cases e:j=o*3+l
 .rw[if_pos e,if_pos ⟨by omega,by omega⟩,show j/3=o by omega,show j%3=l by omega]
 rw[if_neg e,if_neg (λc=>e (by omega)),Int.add_zero]
structure CoI(A B7 BC:Nat)(W0:World)(s:St)(b g:Nat)(seen J:Int)(x:St)(wk:World):Prop where
 rel:dg A B7 W0 x wk
 cut:Blk wk BC 133 12 (vg (eu s b g J))
 cj:mx s b g seen J x
 j0:0<=J
 jm:J<=er s b g seen
theorem CoI.below{A e f:Nat}{i a d:World}(h:CoI A e f i s b g seen J x a)(c:Below a.heap.size a d):CoI A e f i s b g seen J x d:=⟨h.rel.below c,h.cut.below c,h.cj,h.j0,h.jm⟩
def CoN(A B7 BC:Nat)(W0:World)(s:St)(b g:Nat)(seen:Int)(wk:World)(n:Nat):Prop:=∃(J:Int) (x:St),J=er s b g seen-n/\CoI A B7 BC W0 s b g seen J x wk
theorem CoI.num{A c d:Nat}{e a:World}(h:CoI A c d e s b g seen J x a):CoN A c d e s b g seen a (er s b g seen-J).toNat:=⟨J,x,by have:=h.jm;omega,h⟩
end
theorem F9{p:Pl}{s:St}{bin good seen:Int}(h:ah p s=0)(a:(inB bin 0 ((p.nb:Int)-1)&&inB good 0 ((p.ns:Int)-1)&&inB seen 0 200)=false):fg p s bin good seen=3:=by
 unfold fg;rw[if_pos h,a]
 rfl
theorem T5(v a c:Int)(w:World):Calls Tryz.prog 44 #[.int .i64 v,.int .i64 a,.int .i64 c] w λe b=>e = .returned (.bool (inB v a c))/\Below w.heap.size w b :=
 (cf v a c w).mono λe b ⟨h1,h2⟩=>⟨h1,h2▸Below.refl _ _⟩
theorem dg.setFix{A c:Nat}{b e:World}{x:St}(h:dg A c b x e)(f:b.heap.size<=A){G:Nat}(d:x.sf.a=some ⟨G,0,none⟩)(g:Nat)(v:Int):dg A c b (Go.Proofs.YtbcacebifpagpafGreat.setFix x g v) (e.setCell ⟨G,g,none⟩ (.int .i64 v)):=by
 obtain⟨q,b1,b2,b3,b4,b5⟩:=h.own.sf;rw[d] at b1;simp only[Qkx,Qkz,and_true] at b1;subst b1;exact⟨h.own.setFix d g v,h.box.other (a:=⟨G,g,none⟩) (Blk.ne2 h.box b5 (by decide)) _,h.bel.setCell (p:=⟨G,g,none⟩) (by show b.heap.size<=G;omega) _,by have:=h.le;simpa using this⟩
theorem Se(p:Pl)(s:St)(bin good seen:Int)(w:World)(hp:p.At w)(hs:s.At w):
  Calls Tryz.prog 38 #[p.val,s.val,.int .i64 bin,.int .i64 good,.int .i64 seen] w λe M=>∃x:St,e = .returned (.tuple #[x.val,.int .i64 (fg p s bin good seen)])/\x.At M/\dv (fg p s bin good seen) (lw p s bin.toNat good.toNat seen) x/\(fg p s bin good seen=0->ai w.heap.size M x)/\Below w.heap.size w M:=by
 obtain⟨U,hW,oo,X0,Z0⟩:=zd w p s;have HC:=wv hp hs oo X0 Z0;have HW:=hid hW;have leb:=hp.leb;have gj:=hp.capb;have les:=hp.les;have gc:=hp.caps;have capb:=gj;have caps:=gc;have su:=Z0.lt;unfold maxLen at capb caps;have p7:Hid ((s.on.n<=s.on.c/\s.on.c<=maxLen)/\s.sf.n<=s.sf.c/\s.sf.c<=maxLen):=⟨⟨hs.on.le,hs.on.cap⟩,hs.sf.le,hs.sf.cap⟩;clear hW X0 Z0 hp hs;unfold Pl.val St.val;go_enter Tryz.func38,Tryz.ntmps38;go_wp2_with fail;rw[HW.out];obtain⟨X,am,ak,ar,hz⟩:=HC.out U brf;refine(lq p s U am ak).mono ?_;rintro e w1 ⟨rfl,hB⟩;clear X am ak ar hz HW;obtain⟨⟨⟨l1,d0,d1⟩,l2,c0,c1,c2,c3,c4,c5,c6⟩,am,ak,ar,hz⟩:=HC.out w1 hB;by_cases h0:ah p s=0;rotate_left
 .have HX:Hid (fg p s bin good seen=ah p s):=by show fg p s bin good seen=_;unfold fg;rw[if_neg h0]
  have od:Hid (¬fg p s bin good seen=0):=by show ¬_;rw[HX.out];exact h0
  have g0:(ah p s !=0)=true:=by simpa using h0
  clear h0
  generalize ah p s=SE at *
  clear am ak;obtain⟨zl,dy,d8,dx,zc1,d9,zc2,bs,zc3,dt,zc4,d4,zc5,eb,ec⟩:=z7 hz;go_wp2_with fail;exact g9 Tryz.results38 hz ar (by omega) HX.out (λh=>od.out (HX.out.trans h)) rfl rfl rfl
 have H0:=hid h0;have HR:Hid (au p s):=ew h0;rw[h0];clear h0 c0 c1 c2 c3 c4 c5 c6 ak;go_wp2_with fail;refine(zq p bin w1 leb gj).mono ?_;rintro e w2 ⟨rfl,ft⟩;have hB:=hB.trans (ft.mono hB.size);clear l1 d0 d1 l2 am ar hz ft;obtain⟨⟨⟨l1,d0,d1⟩,l2,c0,c1,c2,c3,c4,c5,c6⟩,am,ak,ar,hz⟩:=HC.out w2 hB;clear c0 c1 c2 c3 c4 c5 c6;cases k1:inB bin 0 ((p.nb:Int)-1)
 .have HX:Hid (fg p s bin good seen=3):=F9 H0.out (by rw[k1];simp);clear am ak;obtain⟨zl,dy,d8,dx,zc1,d9,zc2,bs,zc3,dt,zc4,d4,zc5,eb,ec⟩:=z7 hz;go_wp2_with fail;exact g9 Tryz.results38 hz ar (by omega) HX.out (by decide) rfl rfl rfl
 clear ak;go_wp2_with fail;refine(ue p good w2 les gc).mono ?_;rintro e w3 ⟨rfl,ft⟩;have hB:=hB.trans (ft.mono hB.size);clear l1 d0 d1 l2 am ar hz ft;obtain⟨⟨⟨l1,d0,d1⟩,l2,c0,c1,c2,c3,c4,c5,c6⟩,am,ak,ar,hz⟩:=HC.out w3 hB;cases k2:inB good 0 ((p.ns:Int)-1)
 .have HX:Hid (fg p s bin good seen=3):=F9 H0.out (by rw[k1,k2];simp);clear am ak;obtain⟨zl,dy,d8,dx,zc1,d9,zc2,bs,zc3,dt,zc4,d4,zc5,eb,ec⟩:=z7 hz;go_wp2_with fail;exact g9 Tryz.results38 hz ar (by omega) HX.out (by decide) rfl rfl rfl
 cases k3:inB seen 0 200
 .have HX:Hid (fg p s bin good seen=3):=F9 H0.out (by rw[k1,k2,k3];simp);clear am ak;obtain⟨zl,dy,d8,dx,zc1,d9,zc2,bs,zc3,dt,zc4,d4,zc5,eb,ec⟩:=z7 hz;go_wp2_with(go_at_call 44;refine ag (cf _ _ _ _) ?_);exact g9 Tryz.results38 hz ar (by omega) HX.out (by decide) rfl rfl rfl
 obtain⟨b,rfl⟩:=Qzz (aq k1).1;obtain⟨g,rfl⟩:=Qzz (aq k2).1;have hb:b<p.nb:=by have:=(aq k1).2;omega
 have hg:g<p.ns:=by have:=(aq k2).2;omega
 have sb:=aq k3;have K3:=hid k3;have son:=HR.out.fm.sh.n;have gx:b<s.on.n:=by omega
 have nv:Hid ((s.on.r b).n=p.ns):=HR.out.fm.sh.len b gx;obtain⟨⟨th,op⟩,sx,pm⟩:=p7.out;unfold maxLen at op pm;obtain⟨bb,ob,io,qu,e0,eg⟩:=ak.on.rows b gx;have mu:g<(s.on.r b).n:=by rw[nv.out];exact hg
 obtain⟨bg,og,mv,n8,e1⟩:=eg.ints g mu;have rl:=eg.le;have rc:=eg.cap;unfold maxLen at rc;have sfn:g<s.sf.n:=by rw[HR.out.fm.sfn];exact hg
 obtain⟨bf,of,ic,pv,e2⟩:=ak.sf.ints g sfn;have mo:=hid io;have md:=hid ic;rw[io] at c0;rw[mv] at e0;rw[ic] at c6;have q0:(0:Int)<=(b:Int):=by omega
 have q1:(b:Int)<(s.on.n:Int):=by omega
 have q2:(0:Int)<=(g:Int):=by omega
 have q3:(g:Int)<((s.on.r b).n:Int):=by omega
 have q4:(g:Int)<(s.sf.n:Int):=by omega
 have ox:=HR.out.fm.sh.num b gx g hg;have sfb:=HR.out.fm.sfb g hg;obtain⟨ON,il⟩:∃ON,(s.on.r b).z g=ON:=⟨_,rfl⟩;obtain⟨SF,i1⟩:∃SF,s.sf.z g=SF:=⟨_,rfl⟩;have HV:=qa2 il i1;rw[il] at e1 ox;rw[i1] at e2 sfb;clear io mv ic eg son il i1 k1 k2 am ak;have o2:=Qqq c0;have o8:=Qqq c6;have oz:=Qqq e0;have ov:=Qqq e1;have px:=Qqq e2;have mr:Hid (∀f,Calls Tryz.prog 44 #[.int .i64 (SF+seen-ON),.int .i64 (-1048576),.int .i64 1048576] f λe M=>e = .returned (.bool (inB (SF+seen-ON) (-1048576) 1048576))/\Below f.heap.size f M):=λf=>T5 _ _ _ f;go_wp2_with(go_at_call 44;refine ag (cf _ _ _ _) ?_);refine Qxq (by kernel_rfl) (by kernel_rfl) ?_
 repeat(go_big_quiet_step((go_at_call 44;exact Xxz (mr.out _))))
 refine Qqz ?_;intro P mg;have kw:=af mg;have hB:=hB.trans (kw.mono hB.size);clear mg kw o2 o8 oz ov px mr l1 d0 d1 l2 c0 c1 c2 c3 c4 c5 c6 ar hz qu e0 n8 e1 pv e2 k3;rw[<-mo.out,<-md.out];obtain⟨⟨⟨l1,d0,d1⟩,l2,c0,c1,c2,c3,c4,c5,c6⟩,am,ak,ar,hz⟩:=HC.out P hB;cases h3:inB (SF+seen-ON) (-1048576) 1048576
 .have HX:Hid (fg p s b g seen=2):=Jq H0.out hb hg K3.out (by rw[HV.out.1,HV.out.2,<-Int.add_sub_assoc];exact h3);clear am ak;obtain⟨zl,dy,d8,dx,zc1,d9,zc2,bs,zc3,dt,zc4,d4,zc5,eb,ec⟩:=z7 hz;go_wp2_with fail;exact g9 Tryz.results38 hz ar (by omega) HX.out (by decide) rfl rfl rfl
 have cl:Hid (db p s b g seen):=Lf H0.out hb hg K3.out (by rw[HV.out.1,HV.out.2,<-Int.add_sub_assoc];exact h3);have HX:Hid (fg p s b g seen=0):=O8 cl.out;have mh:Hid (Calls Tryz.prog 85 #[s.val] P λe M=>∃s':St,e = .returned s'.val/\ae s' s/\ai P.heap.size M s'/\Below P.heap.size P M):=pr p s P ak HR.out.fm;clear am ak ar hz h3 mo md;go_wp2_with fail;refine Calls.mono mh.out ?_;rintro e w5 ⟨o,rfl,bk,br,gq⟩;clear mh l1 d0 d1 l2 c0 c1 c2 c3 c4 c5 c6;have A0:U.heap.size<=P.heap.size:=hB.size;have A2:P.heap.size<=w5.heap.size:=gq.size;have m4:Hid (w.heap.size<=U.heap.size):=(HC.out _ brf).2.2.2.1.size;obtain⟨W6,k0,f2,K6⟩:=ab7 w5 o;have jw:=hid k0;have f4:=gq.trans (f2.mono gq.size);have ie:=hB.trans (f4.mono hB.size);have di:Hid (dg P.heap.size w5.heap.size U o W6):=⟨ai.below br f2,K6,ie,f4.size⟩;have qw:=hid bk;have gt:b<o.on.n:=by rw[bk.on.1];exact gx
 have lp:g<(o.on.r b).n:=by rw[(bk.on.2 b gt).1];exact mu
 have it:g<o.sf.n:=by rw[bk.sf.1];exact sfn
 have gs:Hid ((o.on.r b).z g=ON/\o.sf.z g=SF):=⟨(bk.num HR.out.fm hb hg).trans HV.out.1,(bk.sf.2 g it).trans HV.out.2⟩;clear k0 f2 K6 f4 ie br gq hB bk;simp only[St.val]
 -- what was fixed
 obtain⟨g0,G,a1,a2,a3,a4,a5,a6,a7,a8,a9,f8,mn,f5⟩:=di.out.own.onCell gt lp;obtain⟨Gs,s1,s2,s3,s4,s5,s6,s7⟩:=di.out.own.sf.cellAt it;unfold maxLen at a8 f5 s5;rw[gs.out.1] at a9;rw[gs.out.2] at s6;have k4:=qa3 a4 s1 a1;have u0:W6.cell? ⟨w5.heap.size,0,none⟩=some (.slice o.on.a o.on.n o.on.c):=di.out.box.k 0;have u6:W6.cell? ⟨w5.heap.size,6,none⟩=some (.slice o.sf.a o.sf.n o.sf.c):=di.out.box.k 6;have ul:=di.out.box.lt;rw[a1] at u0;rw[s1] at u6;have q5:(b:Int)<(o.on.n:Int):=by omega
 have q6:(g:Int)<((o.on.r b).n:Int):=by omega
 have q7:(g:Int)<(o.sf.n:Int):=by omega
 clear a1 a4 f8 s1;rw[<-jw.out] at u0 u6 ul a2 a3 a6 a9 s3 s6;go_wp2_with fail;rw[jw.out] at u0 u6 ul a2 a3 a6 a9 s3 s6 ⊢;clear jw
 generalize w5.heap.size=t at *
 have oq:=Qqq u0;have qx:=Qqq u6;have qr:=Qqq a3;have nx:=Qqq a9;have qk:=Qqq s6;refine i9 [(true,[0,1,2,3,4,5,6,7,8,9,10,11,12,13,14,15,16,17,18,19],some 20)] ?_;refine⟨λM=>∃p:Regrown,M=grow (redrawn W6 p.d) p.os,Qqx (brf.drew),λh=>(by cases h),?_⟩;simp only[dw,Qyq,Xqq,Qyx,Qyz,Xqz,Xqx]
 repeat(go_big_quiet_step(fail))
 refine Qqz ?_;clear oq qx qr nx qk u0 u6 ul a2 a3 a6 a9 s3 s6;have L:Below W6.heap.size W6 W6.drew:=brf.drew
 generalize W6.drew=wj at *
 have bt:=hid (di.out.below L);clear di L;obtain⟨Gq,t1,t2,t3,t4,t5,t6,t7⟩:=bt.out.own.sf.cellAt it;have eG:Gq=Gs:=by rw[k4.out.2.1] at t1;simpa using t1.symm
 subst eG;have t8:=t7 g;have du:Hid (dg P.heap.size t U (setFix o g (SF+seen-ON)) (wj.setCell ⟨Gq,g,none⟩ (.int .i64 (SF+seen-ON)))):=bt.out.setFix A0 k4.out.2.1 g (SF+seen-ON);clear t1 t7 bt;refine ki 20 rfl ?_;go_wp2_with fail;refine NoPanic.normal ?_;clear t2 t3 t4 t5 t6 t8
 generalize wj.setCell ⟨Gq,g,none⟩ (.int .i64 (SF+seen-ON))=W7 at *
 -- what lies there
 obtain⟨n9,G',a1,a2,a3,a4,a5,a6,a7,a8,a9,f8,mn,f5⟩:=du.out.own.onCell (s:=setFix o g (SF+seen-ON)) gt lp;have u0:W7.cell? ⟨t,0,none⟩=some (.slice o.on.a o.on.n o.on.c):=du.out.box.k 0;have ul:=du.out.box.lt;have lf:o.on.a=some ⟨n9,0,none⟩:=a1;have pg:(o.on.r b).a=some ⟨G',0,none⟩:=a4;rw[lf] at u0;have ny:=f8 g;have jf:Hid (dg P.heap.size t U (setOn (setFix o g (SF+seen-ON)) b g seen) (W7.setCell ⟨G',g,none⟩ (.int .i64 seen))):=du.out.setOn A0 (b:=b) gt a4 g seen;have ch:Hid (mx s b g seen 0 (setOn (setFix o g (SF+seen-ON)) b g seen)):=by
  have h:=mx.start (seen:=seen) HR.out hb hg qw.out;have e:jl o b g seen=setOn (setFix o g (SF+seen-ON)) b g seen:=by
   unfold jl;rw[gs.out.1,gs.out.2,<-Int.add_sub_assoc]
   rfl
  rw[e] at h;exact h
 unfold maxLen at a8 f5;have A3:U.heap.size<=W7.heap.size:=du.out.bel.size;clear a1 a4 lf pg f8 du;obtain⟨x2,ly⟩:∃x2,setOn (setFix o g (SF+seen-ON)) b g seen=x2:=⟨_,rfl⟩;rw[ly] at jf ch;clear ly;obtain⟨W9,lk,jd,K9⟩:∃W,(W7.setCell ⟨G',g,none⟩ (.int .i64 seen)).alloc (.cells #[.int .i64 0,.int .i64 0,.int .i64 0,.int .i64 0,.int .i64 0,.int .i64 0,.int .i64 0,.int .i64 0,.int .i64 0,.int .i64 0,.int .i64 0,.int .i64 0] 133)=W/\Below (W7.setCell ⟨G',g,none⟩ (.int .i64 seen)).heap.size (W7.setCell ⟨G',g,none⟩ (.int .i64 seen)) W/\Blk W W7.heap.size 133 12 (vg (eu s b g 0)):=
  ⟨_,rfl,brf.alloc nlr _,(Blk.mk' (cur:=#[.int .i64 0,.int .i64 0,.int .i64 0,.int .i64 0,.int .i64 0,.int .i64 0,.int .i64 0,.int .i64 0,.int .i64 0,.int .i64 0,.int .i64 0,.int .i64 0]) (by simp) rfl).congr (λj hj=>by
   unfold vg;rw[Tl HR.out]
   match j,hj with
   | 0,_=>rfl
   | 1,_=>rfl
   | 2,_=>rfl
   | 3,_=>rfl
   | 4,_=>rfl
   | 5,_=>rfl
   | 6,_=>rfl
   | 7,_=>rfl
   | 8,_=>rfl
   | 9,_=>rfl
   | 10,_=>rfl
   | 11,_=>rfl)⟩
 have l8:Hid ((W7.setCell ⟨G',g,none⟩ (.int .i64 seen)).alloc (.cells #[.int .i64 0,.int .i64 0,.int .i64 0,.int .i64 0,.int .i64 0,.int .i64 0,.int .i64 0,.int .i64 0,.int .i64 0,.int .i64 0,.int .i64 0,.int .i64 0] 133)=W9):=lk;have lx:Hid (CoI P.heap.size t W7.heap.size U s b g seen 0 x2 W9):=⟨jf.out.below jd,K9,ch.out,Int.le_refl _,cl.out.miss0⟩;clear lk jd K9 jf ch;go_wp2_with fail;rw[l8.out];clear l8 u0 ul a2 a3 a6 a9 ny a5 a7 a8 mn f5
 generalize W7.heap.size=BC at *
 have tf:=cl.out.bound
 obtain⟨leastN,lsA,lsB⟩:=Sfl
 have LSA:Hid (∀p:Nat->Prop,(∃n,p n)->p (leastN p)):=lsA
 have LSB:Hid (∀(p:Nat->Prop) (n:Nat),p n->leastN p<=n):=lsB
 clear lsA lsB
 go_loopw [] (λf=>∃n:Nat,Hid (CoN P.heap.size t BC U s b g seen f n)) (λf=>leastN (CoN P.heap.size t BC U s b g seen f))
 case atStart=>exact⟨_,lx.out.num⟩
 obtain⟨n0,d6⟩:=hrel;clear lx;obtain⟨J,x,hJ,hI⟩:=LSA.out _ ⟨n0,d6.out⟩;have HJ:=hid hJ;have HI:=hid hI;have j0:=hI.j0;have jm:=hI.jm;have HF:Hid (cw p x):=mx.formed cl.out hI.j0 hI.cj;have i5:Hid (ca x b g x.hs.n+az x b g x.ms.n=m9 s b g-J):=mx.boundJ cl.out hI.j0 (by have h:=hI.jm;unfold er at h;omega) hI.cj;clear d6 hJ hI n0;obtain⟨m1,p0,p1,p2,p3,p4,p5,p6⟩:=Boxed.of HI.out.rel.box;go_wp2_with fail;clear m1 p0 p1 p2 p3 p4 p5 p6;refine(Hk p x b g wr HI.out.rel.own.at HF.out).mono ?_;rintro e wa ⟨rfl,e9⟩;rw[i5.out];have ci:Hid (CoI P.heap.size t BC U s b g seen J x wa):=HI.out.below e9;have fe:Hid (∀(n:Nat) (f:World),CoN P.heap.size t BC U s b g seen f n->(n:Int)<er s b g seen-J->leastN (CoN P.heap.size t BC U s b g seen f)<leastN (CoN P.heap.size t BC U s b g seen wr)):=λn f h hn=>by
  have a:=LSB.out _ _ h;have c:=HJ.out;omega
 clear HI e9 HJ;obtain⟨BZ,e4⟩:∃BZ,m9 s b g-J=BZ:=⟨_,rfl⟩;have bz0 : -100000<=BZ/\BZ<=100000:=by
  have h1:=(mt (s:=s) (b:=b) (g:=g) (n:=s.hs.n) HR.out.fm.holdN);have h2:=(jr (s:=s) (b:=b) (g:=g) (n:=s.ms.n) HR.out.fm.moveN);have h3:=HR.out.fm.hs72;have h4:=HR.out.fm.ms8;unfold er at jm;unfold m9 at e4 jm;omega
 have lr:Hid (ca x b g x.hs.n+az x b g x.ms.n=BZ):=i5.out.trans e4;clear i5;rw[e4];by_cases hd:J<er s b g seen;rotate_left
 .have gb:J=er s b g seen:=by omega
  have q8:¬seen<BZ:=by unfold er at gb;omega
  have f6:Hid (ae x (nw s b g seen)):=by
   have h:ae x (jl (i6 s b g J) b g seen):=ci.out.cj;rw[gb] at h;exact h
  have l7:=hid ci.out.rel;obtain⟨QQ,gn⟩:∃QQ,eu s b g (er s b g seen)=QQ:=⟨_,rfl⟩;have mm:Hid (Blk wa BC 133 12 (vg QQ)):=by
   have h:=ci.out.cut;rw[gb,gn] at h;exact h
  have o7:=hid gn;have gp:Hid (QIn p b (λi j=>QQ i j) x):=cl.out.qin.same f6.out (λi j _ _=>by rw[<-gn];rfl);clear e4 gn ci fe lr gb hd jm j0 bz0;go_wp2_with fail
  go_loopw [17] (λkv f=>∃(i:Nat) (cur:St),i<=x.os.n/\kv = .int .i64 i/\Hid (dg P.heap.size t U cur f)/\Hid (Blk f BC 133 12 (vg QQ))/\Hid (Kr p x b QQ i cur)) (λkv _=>x.os.n-(intOf kv).toNat)
  case atStart=>exact⟨0,x,Qxz _,rfl,l7,mm,ae.self x⟩
  clear l7 mm;obtain⟨i,cur,hi,rfl,HK,b3,HA⟩:=hrel;have d6:Hid (cur.os.n=x.os.n):=(ig.pos gp.out (λ_ _=>rfl) hi HA.out).al.osn;have n1:(cur.os.n:Int)<=(x.os.n:Int):=by rw[d6.out];omega
  have n2:(x.os.n:Int)<=(cur.os.n:Int):=by rw[d6.out];omega
  have u1:wr.cell? ⟨t,1,none⟩=some (.slice cur.os.a cur.os.n cur.os.c):=HK.out.box.k 1;have u2:=HK.out.box.lt;have ol:cur.os.n<=cur.os.c:=HK.out.own.os.le;have oc:cur.os.c<=maxLen:=HK.out.own.os.cap;have os4:x.os.n<=4:=HF.out.os4;unfold maxLen at oc;by_cases ea:i<x.os.n;rotate_left
  .have o3:i=x.os.n:=by omega
   have q4:(cur.os.n:Int)<=(i:Int):=by omega
   have q5:¬(i:Int)<(cur.os.n:Int):=by omega
   have HY:Hid (ae cur (lw p s b g seen)):=by
    refine ig.same cl.out.qin (λ_ _=>rfl) (Nat.le_refl s.os.n) cl.out.all ?_;have n4:x.os.n=s.os.n:=f6.out.os.1;have h:=HA.out;rw[o3,n4] at h;refine ig.base (m':=vy x) f6.out (λ_ _=>rfl) (λi hi => ?_) (λi j _ _ => ?_) (Nat.le_refl s.os.n) h
    .exact(f6.out.os.2 i (by rw[n4];exact hi)).2.1
    show QQ i j=eu s b g (er s b g seen) i j;rw[o7.out]
   obtain⟨m1,p0,p1,p2,p3,p4,p5,p6⟩:=Boxed.of HK.out.box;obtain⟨-,-,-,ar,hz⟩:=HC.out wr HK.out.bel;have HZ:=qa2 ar hz;obtain⟨zl,dy,d8,dx,zc1,d9,zc2,bs,zc3,dt,zc4,d4,zc5,eb,ec⟩:=z7 hz;clear ar hz u1 u2;go_wp2_with fail;have KZ:=s7b HZ.out.2 cur;have mf:=s7w (b:=w.heap.size+2) HZ.out.1 (by omega) cur;have j2:=s7o HK.out.own HZ.out.2 cur;unfold set7 at KZ mf j2;obtain⟨oh,rb,oi,qz,ge,ql,oy⟩:=co KZ;refine Xzq (v := .tuple #[cur.val,.int .i64 0]) (by simp[results,Tryz.results38,go_sem,St.val,oh,rb,oi,qz,ge,ql,oy]) rfl ?_;exact⟨cur,by rw[HX.out];rfl,j2.at,⟨λ_=>HY.out,λh=>absurd HX.out h⟩,λ_=>j2.mono (Qzx m4.out A0),mf⟩
  have q0:(0:Int)<=(i:Int):=by omega
  have q1:(i:Int)<(cur.os.n:Int):=by omega
  have tb:=(HF.out.lns i ea).2;go_wp2_with fail;clear u1 u2 ol oc q1 n1 n2 d6
  go_loopw [18] (λjv f=>∃(j:Nat) (cr:St),j<=(x.os.z i).ls.n/\jv = .int .i64 j/\Hid (dg P.heap.size t U cr f)/\Hid (Blk f BC 133 12 (vg QQ))/\Hid (tt p x b QQ i j cr)) (λjv _=>(x.os.z i).ls.n-(intOf jv).toNat)
  case atStart=>exact⟨0,cur,Qxz _,rfl,HK,b3,HA.out.row⟩
  clear HK b3 HA;obtain⟨j,cr,hj,rfl,HK,b3,HB⟩:=hrel;have e3:Hid (Pos p b (λi j=>QQ i j) x i j cr):=HB.out.pos gp.out ea hj;have en:cr.os.n=x.os.n:=e3.out.al.osn;have la:i<cr.os.n:=by rw[en];exact ea
  have q1:(i:Int)<(cr.os.n:Int):=by omega
  have kn:(cr.os.z i).ls.n=(x.os.z i).ls.n:=(e3.out.al.kind i ea).2;have s0:=hid kn;have te:(cr.os.z i).ls.n<=(x.os.z i).ls.n:=Nat.le_of_eq kn;have tg:(x.os.z i).ls.n<=(cr.os.z i).ls.n:=Nat.le_of_eq kn.symm;obtain⟨gO,g1,g2,g3,g4,g5,g6⟩:=HK.out.own.orderCells (o:=i) la;have u1:wr.cell? ⟨t,1,none⟩=some (.slice cr.os.a cr.os.n cr.os.c):=HK.out.box.k 1;rw[g1] at u1;have u2:=HK.out.box.lt;have ol:cr.os.n<=cr.os.c:=HK.out.own.os.le;have oc:cr.os.c<=maxLen:=HK.out.own.os.cap;unfold maxLen at oc;obtain⟨_,_,-,-,-,-,ja⟩:=HK.out.own.at.os.ods i la;have ll:=ja.le;have lc:=ja.cap;unfold maxLen at lc;have HG:Hid (cr.os.a=some ⟨gO,0,none⟩):=g1;clear g1 g6 en kn ja;by_cases lu:j<(x.os.z i).ls.n;rotate_left
  .have k5:j=(x.os.z i).ls.n:=by omega
   have q4:((cr.os.z i).ls.n:Int)<=(j:Int):=by omega
   have q5:¬(j:Int)<((cr.os.z i).ls.n:Int):=by omega
   have HN:Hid (Kr p x b QQ (i+1) cr):=by have h:=HB.out;rw[k5] at h;exact h.next
   clear k5 e3 HB;go_wp2_with fail;go_roundw
   case rel=>exact⟨i+1,cr,by omega,by go_num,HK,b3,HN⟩
   case measure=>simp[intOf];omega
  have q2:(0:Int)<=(j:Int):=by omega
  have q3:(j:Int)<((cr.os.z i).ls.n:Int):=by omega
  have v4:(i:Int)<4:=by omega
  have v5:(j:Int)<3:=by omega
  have ih:Hid (jz p b cr i j (QQ i j)):=e3.out.stepIn gp.out ea lu;have sy:=ih.out.n0;have l5:=hid ih.out.tki;have mw:Hid (∀y,lg p b cr i j (QQ i j) y->tt p x b QQ i (j+1) y):=λy T=>HB.out.step T;have lv:Hid (QQ i j=0->tt p x b QQ i (j+1) cr):=λh=>HB.out.skip gp.out ea lu h;have fl:wr.cell? ⟨BC,i*3+j,none⟩=some (.int .i64 (QQ i j)):=by have h:=b3.out.cell (j:=i*3+j) (by omega);rw[S3 _ (by omega)] at h;exact h
  have bl:=b3.out.lt;clear ih HB e3
  generalize QQ i j=QV at *
  by_cases hq:0<QV;rotate_left
  .have HN:Hid (tt p x b QQ i (j+1) cr):=lv.out (by omega);go_wp2_with fail;go_roundw
   case rel=>exact⟨j+1,cr,by omega,by go_num,HK,b3,HN⟩
   case measure=>simp[intOf];omega
  go_wp2_with fail;clear u1 u2 g3 g4 g5;obtain⟨⟨⟨l1,d0,d1⟩,-⟩,am,-⟩:=HC.out wr HK.out.bel;obtain⟨m1,p0,p1,p2,p3,p4,p5,p6⟩:=Boxed.of HK.out.box;have k6:=hid am;have o6:=Qqq d0;have pk:=Qqq d1;have ik:=Qqq p0;have j1:=Qqq p1;have jx:=Qqq p2;have js:=Qqq p3;have j7:=Qqq p4;have jh:=Qqq p5;have ka:=Qqq p6;have i3:=Qqq fl;refine i9 [(true,[0,1,2,3,4,5,6,7,8,9],some 10),(false,[11,12,13],some 14)] ?_;refine⟨λM=>∃p:Regrown,M=grow (redrawn wr p.d) p.os,Qqx (brf.drew),λh=>(by cases h),?_⟩;simp only[dw,Qyq,Xqq,Qyx,Qyz,Xqz,Xqx]
  repeat(go_big_quiet_step(fail))
  refine Qqz ?_;clear o6 pk ik j1 jx js j7 jh ka i3 l1 d0 d1 m1 p0 p1 p2 p3 p4 p5 p6 fl bl am;have L:Below wr.heap.size wr wr.drew:=brf.drew
  generalize wr.drew=wj at *
  have my:=hid (k6.out.below L);have bt:=hid (HK.out.below L);have mk:=hid (b3.out.below L);clear L k6 HK b3;refine ki 10 rfl ?_;go_wp2_with fail;refine(J9 p cr i j P.heap.size QV b wj my.out bt.out.own bt.out.le l5.out).mono ?_;rintro e w8 ⟨y,rfl,T,mz,je,j4⟩;have HT:Hid (tt p x b QQ i (j+1) y):=mw.out y T;have gk:Hid (Blk w8 t 31 7 (λj=>cr.cells.getD j default)):=j4 _ _ _ _ (by decide) bt.out.box;have lm:Hid (Blk w8 BC 133 12 (vg QQ)):=j4 _ _ _ _ (by decide) mk.out;have pi:=hid mz;have ph:=hid (bt.out.bel.trans (je.mono A0));have ot:Hid (P.heap.size<=w8.heap.size):=Qzx bt.out.le je.size;clear T mz je j4 mw l5 my bt mk lv
  generalize (Tk.go (avT cr i j) QV (fc p b)).left=LL at *
  simp only[St.val];go_wp2_with fail;refine⟨λ_=>True,trivial,λ_ _=>trivial,?_⟩;simp only[dw,Qyq,Xqq,Qyx,Qyz,Xqz,Xqx]
  repeat(go_big_quiet_step(fail))
  refine Qqz ?_;have kt:=gk.out;obtain⟨zl,dy,d8,dx,zc1,d9,zc2,bs,zc3,dt,zc4,d4,zc5,eb,ec⟩:=z7 kt;clear kt;refine ki 14 rfl ?_;go_wp2_with fail;have HN:Hid (dg P.heap.size t U y (set7 w8 t (.slice y.on.a y.on.n y.on.c) (.slice y.os.a y.os.n y.os.c) (.slice y.hs.a y.hs.n y.hs.c) (.slice y.ms.a y.ms.n y.ms.c) (.slice y.si.a y.si.n y.si.c) (.slice y.so.a y.so.n y.so.c) (.slice y.sf.a y.sf.n y.sf.c))/\Blk (set7 w8 t (.slice y.on.a y.on.n y.on.c) (.slice y.os.a y.os.n y.os.c) (.slice y.hs.a y.hs.n y.hs.c) (.slice y.ms.a y.ms.n y.ms.c) (.slice y.si.a y.si.n y.si.c) (.slice y.so.a y.so.n y.so.c) (.slice y.sf.a y.sf.n y.sf.c)) BC 133 12 (vg QQ)):=by
   have K:=s7b gk.out y;have hb:=s7w (b:=t) ph.out (Qzx A0 A2) y;have ne:=Blk.ne2 lm.out gk.out (by decide);refine⟨⟨s7o pi.out gk.out y,K.congr (λj hj=>by match j,hj with|0,_=>rfl|1,_=>rfl|2,_=>rfl|3,_=>rfl|4,_=>rfl|5,_=>rfl|6,_=>rfl),hb,by have:=ot.out;simpa[set7] using this⟩,?_⟩;unfold set7;exact((((((lm.out.other (a:=⟨t,0,none⟩) ne _).other (a:=⟨t,1,none⟩) ne _).other (a:=⟨t,2,none⟩) ne _).other (a:=⟨t,3,none⟩) ne _).other (a:=⟨t,4,none⟩) ne _).other (a:=⟨t,5,none⟩) ne _).other (a:=⟨t,6,none⟩) ne _
  unfold set7 at HN;refine NoPanic.normal ?_;go_wp2_with fail;go_roundw
  case rel=>exact⟨j+1,y,by omega,by go_num,HN.out.1,HN.out.2,HT⟩
  case measure=>simp[intOf];omega
 have q8:seen<BZ:=by unfold er at hd;omega
 clear e4;obtain⟨m1,p0,p1,p2,p3,p4,p5,p6⟩:=Boxed.of ci.out.rel.box;go_wp2_with fail;clear m1 p0 p1 p2 p3 p4 p5 p6;refine(Q2 x b g wa ci.out.rel.own.at).mono ?_;rintro e wb ⟨rfl,k9⟩;have aa:Hid (CoI P.heap.size t BC U s b g seen J x wb):=ci.out.below k9;clear ci k9;cases hl:jy (ct b g) x.ms.z x.ms.n with
 | none =>
  have LV:mi (ct b g) x.ms.z x.ms.n = -1:=by unfold mi;rw[hl]
  rw[LV];have HL:=hid hl;obtain⟨k,ix⟩:∃k,jy (cd x b g) x.hs.z x.hs.n=some k:=by
   cases hq:jy (cd x b g) x.hs.z x.hs.n with
   | some k=>exact⟨k,rfl⟩
   | none =>
    have h1:=yv hq;have h2:=yv hl;have h3:=Df x b g x.hs.n;have h4:=uf x b g x.ms.n;have h5:=lr.out;omega
  have HH:=hid ix;obtain⟨hk,mb⟩:=Cq ix;have iv:=vn.1 mb;obtain⟨t1,t2,t3⟩:=iu (HF.out.home k hk);obtain⟨A,im⟩:=Qzz t1.1;obtain⟨D,iq⟩:=Qzz t2.1;rw[im] at t1 t2;rw[iq] at t2;have on:A<x.os.n:=t1.2;have ln:D<(x.os.z A).ls.n:=t2.2;have o4:A<4:=by have:=HF.out.os4;omega
  have l3:D<3:=by have:=(HF.out.lns A on).2;omega
  obtain⟨ZN,jg⟩:∃ZN,(x.hs.z k).n=ZN:=⟨_,rfl⟩;have zn:=HF.out.holdN k hk;rw[jg] at zn;have HZ:Hid (x.hs.z k=⟨(A:Int),(D:Int),(b:Int),ZN⟩):=by
   show x.hs.z k=_;rw[<-im,<-iq,<-jg,<-iv.1]
  have qc:=aa.out.rel.own.hs.2.1;have td:=aa.out.rel.own.hs.1;have sv:=HF.out.hs72;unfold maxLen at qc;obtain⟨Gh,ia,-,b6⟩:=aa.out.rel.own.hs.2.2.2 (show 0<x.hs.n by omega);have f9:=hid ia;have lz:Hid (∀f,Below wb.heap.size wb f->f.cell? ⟨Gh,k*4,none⟩=some (.int .i64 (A:Int))/\f.cell? ⟨Gh,k*4+1,none⟩=some (.int .i64 (D:Int))/\f.cell? ⟨Gh,k*4+2,none⟩=some (.int .i64 (b:Int))/\f.cell? ⟨Gh,k*4+3,none⟩=some (.int .i64 ZN)/\Gh<f.heap.size):=λf hB=>by
   have h:=b6.below hB;have z:=HZ.out;have e:∀c,c<4->(ax x.hs.n x.hs.z).getD (k*4+c) default=(df (⟨(A:Int),(D:Int),(b:Int),ZN⟩:Hd)).getD c default:=λc hc=>by rw[p9 (z:=x.hs.z) hk hc,z]
   exact⟨(h.cell (j:=k*4) (by show _<x.hs.n*4;omega)).trans (congrArg some (e 0 (by decide))),(h.cell (j:=k*4+1) (by show _<x.hs.n*4;omega)).trans (congrArg some (e 1 (by decide))),(h.cell (j:=k*4+2) (by show _<x.hs.n*4;omega)).trans (congrArg some (e 2 (by decide))),(h.cell (j:=k*4+3) (by show _<x.hs.n*4;omega)).trans (congrArg some (e 3 (by decide))),h.lt⟩
  clear LV hl ix mb iv t1 t2 t3 im iq jg b6;obtain⟨m1,p0,p1,p2,p3,p4,p5,p6⟩:=Boxed.of aa.out.rel.box;rw[ia] at p2;clear ia;have q0:(0:Int)<=(k:Int):=by omega
  have q1:(k:Int)<(x.hs.n:Int):=by omega
  have ik:=Qqq p0;have j1:=Qqq p1;have jx:=Qqq p2;have js:=Qqq p3;have j7:=Qqq p4;have jh:=Qqq p5;have ka:=Qqq p6;go_wp2_with fail;refine jt (λM=>∃p:Regrown,M=grow (redrawn wb p.d) p.os) [0,1,2,3,4] [5,6,7,8] [(true,9)] (Qqx (brf.drew)) ?_;simp only[dw,Qyq,Xqq,Qyx,Qyz,Xqz,Xqx]
  repeat(go_big_quiet_step(fail))
  refine Qqz ?_;clear ik j1 jx js j7 jh ka m1 p0 p1 p2 p3 p4 p5 p6;refine⟨λj v gg f=>(j=5->v = .int .i64 (k:Int)/\gg=[])/\(j=6->v = .pointer (some ⟨Gh,k*4,none⟩)/\gg=[])/\(j=7->v = .agg #[.int .i64 (A:Int),.int .i64 (D:Int),.int .i64 (b:Int),.int .i64 ZN]/\gg=[])/\(j=8->∃B,v = .pointer (some ⟨B,0,none⟩)/\gg=[B]/\wb.heap.size<=B/\Blk f B 103 4 (λ_ => .int .i64 0)),
   Qjx ⟨λv g w M hB h=>⟨h.1,λe=>absurd e (by decide),λe=>absurd e (by decide),λe=>absurd e (by decide)⟩,Qjx ⟨λv g w M hB h=>⟨λe=>absurd e (by decide),h.2.1,λe=>absurd e (by decide),λe=>absurd e (by decide)⟩,Qjx ⟨λv g w M hB h=>⟨λe=>absurd e (by decide),λe=>absurd e (by decide),h.2.2.1,λe=>absurd e (by decide)⟩,Qjx ⟨λv g w M hB h=>⟨λe=>absurd e (by decide),λe=>absurd e (by decide),λe=>absurd e (by decide),λe=>(by obtain⟨B,h1,h2,h3,h4⟩:=h.2.2.2 e;exact⟨B,h1,h2,h3,h4.below hB⟩)⟩,Qjq _⟩⟩⟩⟩,
   Qjx ⟨λv g w h=>(by rw[(h.1 rfl).2];intro x hx;cases hx),Qjx ⟨λv g w h=>(by rw[(h.2.1 rfl).2];intro x hx;cases hx),Qjx ⟨λv g w h=>(by rw[(h.2.2.1 rfl).2];intro x hx;cases hx),Qjx ⟨λv g w h=>(by obtain⟨B,-,h2,-,h4⟩:=h.2.2.2 rfl;rw[h2];intro x hx;rw[List.mem_singleton] at hx;rw[hx];exact h4.lt),Qjq _⟩⟩⟩⟩,
   Qjx ⟨?zt5,Qjx ⟨?zt6,Qjx ⟨?zt7,Qjx ⟨?zt8,Qjq _⟩⟩⟩⟩,?ztdone⟩
  case zt5 =>
   intro V G f K hS hd hK;have Q:=af hS;have e8:=hid Q;have pq:Hid (mi (cd x b g) x.hs.z x.hs.n=(k:Int)):=by show _=_;unfold mi;rw[HH.out]
   have qg:Hid (Calls Tryz.prog 92 #[.agg #[.slice x.on.a x.on.n x.on.c,.slice x.os.a x.os.n x.os.c,.slice (some ⟨Gh,0,none⟩) x.hs.n x.hs.c,.slice x.ms.a x.ms.n x.ms.c,.slice x.si.a x.si.n x.si.c,.slice x.so.a x.so.n x.so.c,.slice x.sf.a x.sf.n x.sf.c],.int .i64 (b:Int),.int .i64 (g:Int)] f λe M=>e = .returned (.int .i64 (k:Int))/\Below f.heap.size f M):=by
    have h:=Qm p x b g f (aa.out.rel.below e8.out).own.at HF.out;rw[St.val,f9.out,pq.out] at h;exact h
   refine ay 5 rfl ?_;simp only[ap,bu,Qvz,Qwq,Qvx,Act.put,Qvq,Qwx,Qwz] at hK ⊢;go_wp2_with fail;refine Calls.mono qg.out ?_;rintro e wj ⟨rfl,jp⟩;have k8:=qa2 (e8.out.trans (jp.mono e8.out.size)) jp;clear jp;go_wp2_with fail;exact hK _ [] _ (Qqx k8.out.1) k8.out.2 (λx hx=>(by cases hx)) ⟨λ_=>⟨rfl,rfl⟩,λe=>absurd e (by decide),λe=>absurd e (by decide),λe=>absurd e (by decide)⟩
  case zt6 =>
   intro V G f K hS hd hK;have Q:=af hS;have o1:=((hd 5 (Qjz (by kernel_rfl)) (by simp)).1 rfl).1;refine ay 6 rfl ?_;simp only[ap,bu,Qvz,Qwq,Qvx,Act.put,Qvq,Qwx,Qwz,o1] at hK ⊢;go_wp2_with fail;exact hK _ [] _ hS brf (λx hx=>(by cases hx)) ⟨λe=>absurd e (by decide),λ_=>⟨rfl,rfl⟩,λe=>absurd e (by decide),λe=>absurd e (by decide)⟩
  case zt7 =>
   intro V G f K hS hd hK;have Q:=af hS;have qv:=((hd 6 (Qjz (by kernel_rfl)) (by simp)).2.1 rfl).1;obtain⟨y0,y1,y2,y3,y4⟩:=lz.out f Q;refine ay 7 rfl ?_;simp only[ap,bu,Qvz,Qwq,Qvx,Act.put,Qvq,Qwx,Qwz,qv] at hK ⊢;go_wp2_with fail;exact hK _ [] _ hS brf (λx hx=>(by cases hx)) ⟨λe=>absurd e (by decide),λe=>absurd e (by decide),λ_=>⟨rfl,rfl⟩,λe=>absurd e (by decide)⟩
  case zt8 =>
   intro V G f K hS hd hK;have Q:=af hS;refine ay 8 rfl ?_;simp only[ap,bu,Qvz,Qwq,Qvx,Act.put,Qvq,Qwx,Qwz] at hK ⊢;go_wp2_with fail;exact hK _ [f.heap.size] _ (Qqx (Q.alloc Q.size _)) (brf.alloc nlr _) (λx hx=>(by rw[List.mem_singleton] at hx;omega)) ⟨λe=>absurd e (by decide),λe=>absurd e (by decide),λe=>absurd e (by decide),λ_=>⟨f.heap.size,rfl,rfl,Q.size,(Blk.mk' (cur:=#[.int .i64 0,.int .i64 0,.int .i64 0,.int .i64 0]) rfl rfl).congr (λj hj=>by match j,hj with|0,_=>rfl|1,_=>rfl|2,_=>rfl|3,_=>rfl)⟩⟩
  case ztdone =>
   intro V G' f hS hD hA;have pp:=((hD 5 (by simp)).1 rfl).1;have ou:=((hD 6 (by simp)).2.1 rfl).1;have qf:=((hD 7 (by simp)).2.2.1 rfl).1;obtain⟨BH,ev,ey,bp,ao⟩:=(hD 8 (by simp)).2.2.2 rfl;have Q:=af hS;have e8:=hid Q;clear hS hD hA ey;simp only[ap,bu,Qvz,Qwq,Qvx,Act.put,Qvq,Qwx,Qwz,ev,pp,ou,qf];have z1:=ao.lt;have np:=ao.frozen 0;have nq:=ao.frozen 1;have nu:=ao.frozen 2;have m8:=ao.frozen 3;have nf:=ao.k 0;have ng:=ao.k 1;have nr:=ao.k 2;have ni:=ao.k 3;have K1:=(((ao.set 0 (.int .i64 (A:Int))).set 1 (.int .i64 (D:Int))).set 2 (.int .i64 (b:Int))).set 3 (.int .i64 ZN);have jk:Hid (Blk ((((f.setCell ⟨BH,0,none⟩ (.int .i64 (A:Int))).setCell ⟨BH,1,none⟩ (.int .i64 (D:Int))).setCell ⟨BH,2,none⟩ (.int .i64 (b:Int))).setCell ⟨BH,3,none⟩ (.int .i64 ZN)) BH 103 4 (λj=>(#[.int .i64 (A:Int),.int .i64 (D:Int),.int .i64 (b:Int),.int .i64 ZN]:Array Value).getD j default)/\Below wb.heap.size wb ((((f.setCell ⟨BH,0,none⟩ (.int .i64 (A:Int))).setCell ⟨BH,1,none⟩ (.int .i64 (D:Int))).setCell ⟨BH,2,none⟩ (.int .i64 (b:Int))).setCell ⟨BH,3,none⟩ (.int .i64 ZN))):=⟨K1.congr (λj hj=>by match j,hj with|0,_=>rfl|1,_=>rfl|2,_=>rfl|3,_=>rfl),(((Q.setCell (p:=⟨BH,0,none⟩) bp (.int .i64 (A:Int))).setCell (p:=⟨BH,1,none⟩) bp (.int .i64 (D:Int))).setCell (p:=⟨BH,2,none⟩) bp (.int .i64 (b:Int))).setCell (p:=⟨BH,3,none⟩) bp (.int .i64 ZN)⟩;clear K1 ao Q;refine dk 9 rfl ?_;go_wp2_with fail;refine⟨jq.yes,?_⟩;clear z1 np nq nu m8 nf ng nr ni
   generalize ((((f.setCell ⟨BH,0,none⟩ (.int .i64 (A:Int))).setCell ⟨BH,1,none⟩ (.int .i64 (D:Int))).setCell ⟨BH,2,none⟩ (.int .i64 (b:Int))).setCell ⟨BH,3,none⟩ (.int .i64 ZN))=wc at *
   have ck:Hid (CoI P.heap.size t BC U s b g seen J x wc):=aa.out.below jk.out.2;have cm:=hid jk.out.1;clear aa jk e8 lz;refine NoPanic.normal ?_;have hr:=HF.out.hold;have mc:Hid (Calls Tryz.prog 88 #[.slice (some ⟨Gh,0,none⟩) x.hs.n x.hs.c,.int .i64 (A:Int),.int .i64 (D:Int),.int .i64 (b:Int),.int .i64 (ZN-1)] wc λe M=>∃m:Hs,e = .returned (.slice m.a m.n m.c)/\cz wc.heap.size 103 M m/\uo x.hs m k/\Below wc.heap.size wc M):=by
    have hz:=HZ.out;have ky:=ck.out.rel.own.hs.at;have ek:ba (x.hs.z k)=ba (⟨(A:Int),(D:Int),(b:Int),ZN-1⟩:Hd):=by rw[hz];rfl
    have rg:Au (⟨(A:Int),(D:Int),(b:Int),ZN-1⟩:Hd):=by have h:=Lb (bw hr k hk);rw[hz] at h;exact h
    have lo:∀j,j<k->ba (x.hs.z j)<ba (⟨(A:Int),(D:Int),(b:Int),ZN-1⟩:Hd):=λj hj=>by rw[<-ek];exact mq hr j k hj hk
    have mp:∀j,k<j->j<x.hs.n->ba (⟨(A:Int),(D:Int),(b:Int),ZN-1⟩:Hd)<ba (x.hs.z j):=λj h1 h2=>by rw[<-ek];exact mq hr k j h1 h2
    by_cases c:ZN=1
    .have h:=Kv x.hs ⟨(A:Int),(D:Int),(b:Int),ZN-1⟩ k wc ky hr rg hk ek (by show ZN-1=0;omega) lo mp;rw[Hs.val,f9.out] at h;refine h.mono λe M => ?_;rintro⟨m,h1,h2,h3,h4,h5⟩;refine⟨m,h1,h2,?_,h5⟩;unfold uo;rw[hz,if_pos (show ZN=1 from c)];exact⟨h3,λi _=>by rw[h4]⟩
    have h:=N8 x.hs ⟨(A:Int),(D:Int),(b:Int),ZN-1⟩ k wc ky hr rg hk ek (by show ¬ZN-1=0;omega) lo mp;rw[Hs.val,f9.out] at h;refine h.mono λe M => ?_;rintro⟨m,h1,h2,h3,h4,h5⟩;refine⟨m,h1,h2,?_,h5⟩;unfold uo;rw[hz,if_neg (show ¬ZN=1 from c)];refine⟨h3,λi _ => ?_⟩;rw[h4];unfold qt gz;by_cases e:i=k
    .rw[if_pos e,if_pos e,e,hz];rfl
    rw[if_neg e,if_neg e]
   obtain⟨m1,p0,p1,p2,p3,p4,p5,p6⟩:=Boxed.of ck.out.rel.box;rw[f9.out] at p2;have y0:wc.cell? ⟨BH,0,none⟩=some (.int .i64 (A:Int)):=cm.out.k 0;have y1:wc.cell? ⟨BH,1,none⟩=some (.int .i64 (D:Int)):=cm.out.k 1;have y2:wc.cell? ⟨BH,2,none⟩=some (.int .i64 (b:Int)):=cm.out.k 2;have y3:wc.cell? ⟨BH,3,none⟩=some (.int .i64 ZN):=cm.out.k 3;have y4:=cm.out.lt;clear hr;go_wp2_with fail;clear m1 p0 p1 p2 p3 p4 p5 p6 y0 y1 y2 y3 y4;refine Calls.mono mc.out ?_;rintro e wd ⟨m,rfl,l0,mj,L⟩;have gh:=hid mj;have dc:=ck.out.rel.below L;have dm:Hid (dg P.heap.size t U (withHolds x m) (wd.setCell ⟨t,2,none⟩ (.slice m.a m.n m.c))):=dc.holds (by omega) (l0.mono ck.out.rel.le);have ce:Hid (Blk (wd.setCell ⟨t,2,none⟩ (.slice m.a m.n m.c)) BH 103 4 (λj=>(#[.int .i64 (A:Int),.int .i64 (D:Int),.int .i64 (b:Int),.int .i64 ZN]:Array Value).getD j default)):=(cm.out.below L).other (a:=⟨t,2,none⟩) (Blk.ne2 (cm.out.below L) dc.box (by decide)) _;have ii:Hid (Blk (wd.setCell ⟨t,2,none⟩ (.slice m.a m.n m.c)) BC 133 12 (vg (eu s b g J))):=(ck.out.cut.below L).other (a:=⟨t,2,none⟩) (Blk.ne2 (ck.out.cut.below L) dc.box (by decide)) _;have ch:=hid ck.out.cj;have x1:=dc.box.lt;have pf:=dc.box.frozen 2;have x3:=dc.box.k 2;clear dc l0 mj L mc ck cm;go_wp2_with fail;clear x1 pf x3
   generalize wd.setCell ⟨t,2,none⟩ (.slice m.a m.n m.c)=we at *
   obtain⟨gO,B,hO,-,c3,c4,m0,-,c7,nc,cc,pw,d0,d1,d2,d3⟩:=dm.out.own.lineCell (o:=A) (l:=D) on ln;have l6:x.os.a=some ⟨gO,0,none⟩:=hO;have e9:(x.os.z A).ls.a=some ⟨B,0,none⟩:=m0;have sw:(x.os.z A).ls.n<=(x.os.z A).ls.c:=nc;have qh:(x.os.z A).ls.c<=maxLen:=cc;have oc:x.os.c<=maxLen:=dm.out.own.os.cap;have s8:x.os.n<=x.os.c:=dm.out.own.os.le;unfold maxLen at qh oc;obtain⟨LN,fh⟩:∃LN,((x.os.z A).ls.z D).n=LN:=⟨_,rfl⟩;have sz:=hid fh;have m2:we.cell? ⟨B,D*4+3,none⟩=some (.int .i64 LN):=by rw[<-fh];exact d3
   have ge:we.cell? ⟨gO,A*2+1,none⟩=some (.slice (some ⟨B,0,none⟩) (x.os.z A).ls.n (x.os.z A).ls.c):=c4;have l9:0<=((x.os.z A).ls.z D).n/\((x.os.z A).ls.z D).n<=200:=by have h:=dz (HF.out.line A on D ln);omega
   rw[fh] at l9;obtain⟨rn,sr⟩:=l9;have r6 : -9223372036854775808<=LN+1:=by omega
   have ry:LN+1<=9223372036854775807:=by omega
   have u1:we.cell? ⟨t,1,none⟩=some (.slice x.os.a x.os.n x.os.c):=dm.out.box.k 1;rw[l6] at u1;have ul:=dm.out.box.lt;have y0:we.cell? ⟨BH,0,none⟩=some (.int .i64 (A:Int)):=ce.out.k 0;have y1:we.cell? ⟨BH,1,none⟩=some (.int .i64 (D:Int)):=ce.out.k 1;have y4:=ce.out.lt;have v0:(0:Int)<=(A:Int):=by omega
   have v1:(A:Int)<(x.os.n:Int):=by omega
   have v2:(0:Int)<=(D:Int):=by omega
   have v3:(D:Int)<((x.os.z A).ls.n:Int):=by omega
   obtain⟨i7,ma⟩:=ch.out.hold HR.out j0 HL.out HH.out gh.out (o:=A) (l:=D) (by rw[HZ.out]) (by rw[HZ.out]);rw[fh] at i7;have fy:Hid (mx s b g seen (J+1) (setLine (withHolds x m) A D 3 (LN+1))/\∀a d:Int,eu s b g (J+1) a d=eu s b g J a d+if a=A/\d=D then 1 else 0):=⟨i7,ma⟩;have ld:=hid e9;clear hO l6 m0 e9 nc cc d0 d1 d2 d3 fh i7 ma ch pw;have qm:=Qqq u1;have ir:=Qqq y0;have ij:=Qqq y1;have pz:=Qqq ge;have qe:=Qqq m2;refine i9 [(true,[0,1,2,3,4,5,6,7,8,9,10,11,12,13,14],some 15)] ?_;refine⟨λM=>∃p:Regrown,M=grow (redrawn we p.d) p.os,Qqx (brf.drew),λh=>(by cases h),?_⟩;simp only[dw,Qyq,Xqq,Qyx,Qyz,Xqz,Xqx]
   repeat(go_big_quiet_step(fail))
   refine Qqz ?_;clear qm ir ij pz qe u1 y0 y1 y4 c3 c4 ge c7 m2 ul;have L:Below we.heap.size we we.drew:=brf.drew
   generalize we.drew=wj at *
   have j5:=dm.out.below L;obtain⟨B',ji,-,-,-,d5⟩:=j5.own.os.lines A on;have eB:B'=B:=by have e:(x.os.z A).ls.a=some ⟨B',0,none⟩:=ji;rw[ld.out] at e;simpa using e.symm
   subst eB;have s1:=d5.lt;have s2:=d5.frozen (D*4+3);have s3:=d5.cell (j:=D*4+3) (by show _<(x.os.z A).ls.n*4;omega);have l4:Hid (dg P.heap.size t U (setLine (withHolds x m) A D 3 (LN+1)) (wj.setCell ⟨B',D*4+3,none⟩ (.int .i64 (LN+1)))):=j5.line A0 on ji D (LN+1);have gm:Hid (Blk (wj.setCell ⟨B',D*4+3,none⟩ (.int .i64 (LN+1))) BH 103 4 (λj=>(#[.int .i64 (A:Int),.int .i64 (D:Int),.int .i64 (b:Int),.int .i64 ZN]:Array Value).getD j default)):=(ce.out.below L).other (a:=⟨B',D*4+3,none⟩) (Blk.ne2 (ce.out.below L) d5 (by decide)) _;have gu:Hid (Blk (wj.setCell ⟨B',D*4+3,none⟩ (.int .i64 (LN+1))) BC 133 12 (vg (eu s b g J))):=(ii.out.below L).other (a:=⟨B',D*4+3,none⟩) (Blk.ne2 (ii.out.below L) d5 (by decide)) _;clear j5 ji d5 dm ce ii L ld;refine ki 15 rfl ?_;go_wp2_with fail;refine NoPanic.normal ?_;clear s1 s2 s3
   generalize wj.setCell ⟨B',D*4+3,none⟩ (.int .i64 (LN+1))=wf at *
   have y0:wf.cell? ⟨BH,0,none⟩=some (.int .i64 (A:Int)):=gm.out.k 0;have y1:wf.cell? ⟨BH,1,none⟩=some (.int .i64 (D:Int)):=gm.out.k 1;have y4:=gm.out.lt;obtain⟨QV,gw⟩:∃QV,eu s b g J A D=QV:=⟨_,rfl⟩;have qb:=Ap (b:=b) (g:=g) HR.out j0 A D;have kb:=ro (z:=s.hs.z) A D s.hs.n λq hq=>(cy (bw HR.out.fm.hold q hq)).2.2.2;have qp:=HR.out.fm.hs72;rw[gw] at qb;have ta:0<=QV/\QV<=100000:=by omega
   have fl:wf.cell? ⟨BC,A*3+D,none⟩=some (.int .i64 QV):=by have h:=gu.out.cell (j:=A*3+D) (by omega);rw[S3 _ l3,gw] at h;exact h
   have bl:=gu.out.lt;have v4:(A:Int)<4:=by omega
   have v5:(D:Int)<3:=by omega
   have p8:=hid gw;clear gw qb kb qp;go_wp2_with fail;have ir:=Qqq y0;have ij:=Qqq y1;have i3:=Qqq fl;refine i9 [(true,[0,1,2,3,4,5,6,7,8,9],some 10)] ?_;refine⟨λM=>∃p:Regrown,M=grow (redrawn wf p.d) p.os,Qqx (brf.drew),λh=>(by cases h),?_⟩;simp only[dw,Qyq,Xqq,Qyx,Qyz,Xqz,Xqx]
   repeat(go_big_quiet_step(fail))
   refine Qqz ?_;clear ir ij i3 y0 y1 y4 fl bl;have L:Below wf.heap.size wf wf.drew:=brf.drew
   generalize wf.drew=ml at *
   have d7:=gu.out.below L;have s1:=d7.lt;have s2:=d7.frozen (A*3+D);have s3:=d7.cell (j:=A*3+D) (by omega);have bc:Hid (CoI P.heap.size t BC U s b g seen (J+1) (setLine (withHolds x m) A D 3 (LN+1)) (ml.setCell ⟨BC,A*3+D,none⟩ (.int .i64 (QV+1)))):=by
    refine⟨(l4.out.below L).boxA d7 A3 _ _,(d7.set (A*3+D) (.int .i64 (QV+1))).congr (λj hj => ?_),fy.out.1,by omega,by omega⟩;rw[<-p8.out];exact Vs l3 fy.out.2 j
   clear d7 gu l4 L gm fy;refine ki 10 rfl ?_;go_wp2_with fail;refine NoPanic.normal ?_;clear s1 s2 s3
   generalize ml.setCell ⟨BC,A*3+D,none⟩ (.int .i64 (QV+1))=wg at *
   go_wp2_with fail;go_roundw
   case rel=>exact⟨_,bc.out.num⟩
   case measure=>exact fe.out _ _ bc.out.num (by have:=bc.out.jm;omega)
 | some k =>
  have LV:mi (ct b g) x.ms.z x.ms.n=(k:Int):=by unfold mi;rw[hl]
  rw[LV];have hk:k<x.ms.n:=(Cq hl).1;have HL:=hid hl;have qo:=aa.out.rel.own.ms.2.1;have tc:=aa.out.rel.own.ms.1;have ms8:=HF.out.ms8;have zn:=HF.out.moveN k hk;unfold maxLen at qo;obtain⟨Gm,ga,nz,b6⟩:=aa.out.rel.own.ms.2.2.2 (show 0<x.ms.n by omega);have s9:=hid ga;have u3:wb.cell? ⟨t,3,none⟩=some (.slice x.ms.a x.ms.n x.ms.c):=aa.out.rel.box.k 3;have ul:=aa.out.rel.box.lt;have gl:=b6.lt;have gf:=b6.frozen (k*4+3);have z3:wb.cell? ⟨Gm,k*4+3,none⟩=some (.int .i64 (x.ms.z k).n):=(b6.cell (j:=k*4+3) (by show _<x.ms.n*4;omega)).trans (congrArg some (p9 (z:=x.ms.z) (c:=3) hk (by decide)));have qj:¬Gm=t:=Blk.ne2 b6 aa.out.rel.box (by decide);have ne2:¬t=Gm:=λe=>qj e.symm;rw[ga] at u3;have q0:(0:Int)<=(k:Int):=by omega
  have q1:(k:Int)<(x.ms.n:Int):=by omega
  have S:Hid (dg P.heap.size t U (withMoves x (Bo x.ms k 1)) (wb.setCell ⟨Gm,k*4+3,none⟩ (.int .i64 ((x.ms.z k).n-1)))):=aa.out.rel.moveN A0 hk ga 1;have b1:Hid (Blk (wb.setCell ⟨Gm,k*4+3,none⟩ (.int .i64 ((x.ms.z k).n-1))) BC 133 12 (vg (eu s b g J))):=aa.out.cut.other (a:=⟨Gm,k*4+3,none⟩) (Blk.ne2 aa.out.cut b6 (by decide)) _;have HQ:Hid (eu s b g (J+1)=eu s b g J):=by
   have h1:=aa.out.cj.cutQ_move HR.out aa.out.j0 hl;exact h1
  have ch:=hid aa.out.cj;have ju:Hid (∀m,uo x.ms m k->mx s b g seen (J+1) (withMoves x m)):=λm c=>ch.out.move HR.out j0 HL.out c;clear LV hl ga b6 nz;by_cases fo:(x.ms.z k).n=1;rotate_left
  .have HM:Hid (mx s b g seen (J+1) (withMoves x (Bo x.ms k 1))):=ju.out _ (by unfold uo;rw[if_neg fo];exact⟨rfl,λ_ _=>rfl⟩);have e0:((x.ms.z k).n-1==0)=false:=by simp;omega
   clear fo
   generalize (x.ms.z k).n=ZN at *
   go_wp2_with fail;have bc:Hid (CoI P.heap.size t BC U s b g seen (J+1) (withMoves x (Bo x.ms k 1)) (wb.setCell ⟨Gm,k*4+3,none⟩ (.int .i64 (ZN-1)))):=⟨S.out,by rw[HQ.out];exact b1.out,HM.out,by omega,by omega⟩;go_roundw
   case rel=>exact⟨_,bc.out.num⟩
   case measure=>exact fe.out _ _ bc.out.num (by have:=bc.out.jm;omega)
  have gh:Hid (∀m:Hs,m.n=x.ms.n-1->(∀i,i<m.n->m.z i=fs x.ms.z k i)->uo x.ms m k):=λm h1 h2=>by unfold uo;rw[if_pos fo];exact⟨h1,h2⟩
  have ow:(1:Int)-1=0:=rfl;rw[fo] at z3 S b1;rw[ow] at S b1;clear fo zn;go_wp2_with fail;clear u3 ul gl gf z3
  generalize wb.setCell ⟨Gm,k*4+3,none⟩ (.int .i64 0)=F at *
  obtain⟨iM,hM,gd,f7,gr⟩:=info_parts C5;obtain⟨ZF,jn⟩:∃ZF,gz x.ms.z k 1=ZF:=⟨_,rfl⟩;have kx:=hid jn;have gv:Hid ((⟨x.ms.a,x.ms.n,x.ms.c,ZF⟩:Hs).At F):=by rw[<-jn];exact S.out.own.ms.at
  obtain⟨bm,om,ku,-⟩:=gv.out.hds k hk;have f1:x.ms.a=some ⟨bm,om,none⟩:=ku;have iy:=hid f1;have c3:F.cell? ⟨t,3,none⟩=some (.slice x.ms.a x.ms.n x.ms.c):=S.out.box.k 3;rw[f1] at c3;have lj:=Qqq c3;clear jn ku f1 c3 aa;by_cases lb:x.ms.c=k+1;rotate_left
  .refine jt (λM=>∃p:Regrown,M=grow (redrawn F p.d) p.os) [1,2,3,4,6,7,8,9,10] [0] [(false,5),(false,11),(false,12),(true,13)] (Qqx (brf.drew)) ?_;simp only[dw,Qyq,Xqq,Qyx,Qyz,Xqz,Xqx]
   repeat(go_big_quiet_step(fail))
   refine Qqz ?_;clear lj;refine⟨λj v g f=>∃B,v = .slice (some ⟨B,0,none⟩) 0 0/\g=[B]/\F.heap.size<=B/\f.heap[B]?=some (.cells #[] 77 (0,0)),
    Qjx ⟨λv g w M hB h=>⟨h.choose,h.choose_spec.1,h.choose_spec.2.1,h.choose_spec.2.2.1,(hB.block _ (Qkq h.choose_spec.2.2.2).1).trans h.choose_spec.2.2.2⟩,Qjq _⟩,
    Qjx ⟨λv g w h=>by obtain⟨B,-,h2,-,h4⟩:=h;rw[h2];intro x hx;rw[List.mem_singleton] at hx;rw[hx];exact(Qkq h4).1,Qjq _⟩,
    Qjx ⟨?zt0,Qjq _⟩,?ztdone⟩
   case zt0 =>
    intro V G f K hS hd hK;have Q:=af hS;refine ay 0 rfl ?_;simp only[ap,bu,Qvz,Qvx,Act.put,Qvq,Qwx,Qwz] at hK ⊢;go_wp2_with fail;exact hK _ [f.heap.size] _ (Qqx (Q.alloc Q.size _)) (brf.alloc nlr _) (λx hx=>by rw[List.mem_singleton] at hx;omega) ⟨f.heap.size,rfl,rfl,Q.size,heap_alloc_new f _⟩
   case ztdone =>
    intro V G' f hS hD hA;obtain⟨BV,ev,ey,bp,ao⟩:∃B,V 0 = .slice (some ⟨B,0,none⟩) 0 0/\G' 0=[B]/\F.heap.size<=B/\f.heap[B]?=some (.cells #[] 77 (0,0)):=hD 0 (by simp);have Q:=af hS;clear hS hD hA ey;simp only[ap,bu,Qvz,Qvx,Act.put,Qvq,Qwx,Qwz,ev];have br:f.ownsRow F.heap.size 77 4 (.slice (some ⟨BV,0,none⟩) 0 0) 0 []:=⟨rfl,Or.inr ⟨BV,0,#[],rfl,bp,ao,Nat.le_refl _,Qxz _,rfl,rfl⟩⟩;have fa:Hid (jc f (some ⟨bm,om,none⟩) x.ms.n ZF/\Below F.heap.size F f):=⟨by have h:jc f x.ms.a x.ms.n ZF:=(gv.out.below Q).hds;rw[iy.out] at h;exact h,Q⟩;refine dk 5 rfl ?_;refine wpList_append_own f rfl (.tmp 119) (.tmp 123) 29 rfl F.heap.size 77 iM (.agg #[.int .i64 0,.int .i64 0,.int .i64 0,.int .i64 0]) 4 32 Tryz.underlying29 hM gd f7 gr rfl (by decide) _ 0 [] rfl br ⟨bm,om,none⟩ k _ (ax k ZF) rfl (ed _ _) (λj u hj=>by
     rw[vx];have h:=fa.out.1.flat (q:=0) (m:=k) (by omega) (j:=j) (u:=u) (by simpa using hj)
     simpa using h) (me _ _) (by unfold maxLen;omega) (by omega) Q.size ?_
    intro v1 b2 r1 r2 _;have ep:Below F.heap.size F b2:=Q.grown r2 Q.size (λk e=>by cases e;exact bp);have bo:=hid ep;have dn:Hid (b2.ownsRow F.heap.size 77 4 v1 k (ax k ZF)):=by have h:=r1;rw[Nat.zero_add,Xqx] at h;exact h
    clear Q r1 r2 br ao bp fa ep;simp only[Act.put,Qvq,Qwx,Qwz];refine(?_:wpList _ _ _ [] _ _);go_wp2_with fail;refine⟨jq.no (Qqx bo.out),?_⟩;refine dk 11 rfl ?_;have li:Hid (jc b2 (some ⟨bm,om,none⟩) x.ms.n ZF):=by have h:jc b2 x.ms.a x.ms.n ZF:=(gv.out.below bo.out).hds;rw[iy.out] at h;exact h
    refine wpList_append_own b2 rfl (.tmp 124) (.tmp 129) 29 rfl F.heap.size 77 iM (.agg #[.int .i64 0,.int .i64 0,.int .i64 0,.int .i64 0]) 4 32 Tryz.underlying29 hM gd f7 gr rfl (by decide) v1 k (ax k ZF) rfl dn.out ⟨bm,om+(k+1)*4,none⟩ (x.ms.n-(k+1)) _ (ax (x.ms.n-(k+1)) (λj=>ZF (k+1+j))) rfl (ed _ _) (λj u hj=>by rw[vx];exact li.out.flat (q:=k+1) (m:=x.ms.n-(k+1)) (by omega) hj) (me _ _) (by unfold maxLen;omega) (by omega) bo.out.size ?_;intro v2 a0 r3 r4 _;have ff:Below F.heap.size F a0:=bo.out.grown r4 bo.out.size (λk e=>Cd dn.out e);have dj:a0.ownsRow F.heap.size 77 4 v2 (x.ms.n-1) (ax (x.ms.n-1) (fs ZF k)):=by
     rw[ua x.ms.n ZF k hk];have fp:=r3;rw[show k+(x.ms.n-(k+1))=x.ms.n-1 by omega] at fp;exact fp
    obtain⟨E,rfl,da,kn,kz⟩:=cz.ofRow dj nlr;have em:Hid (fq F.heap.size a0 77 4 E.a E.c):=fq.ofOwns (a:=E.a) (n:=E.n) (c:=E.c) dj nlr;have b5:=qa3 da kn kz;have H:=hid ff;clear r3 r4 ff dj da kn kz dn bo li;simp only[Act.put,Qvq,Qwx,Qwz,Hs.val];refine(?_:wpList _ _ _ [] _ _);go_wp2_with fail;refine⟨jq.no (Qqx H.out),?_⟩;refine dk 12 rfl ?_;have Y:=S.out.box.below H.out;have zl:=Y.lt;have bs:=Y.frozen 3;have zc3:=Y.k 3;go_wp2_with fail;refine⟨jq.no (Qqx H.out),?_⟩;refine dk 13 rfl ?_;go_wp2_with fail;refine⟨jq.yes,?_⟩;clear zl bs zc3;have ex:Hid (dg P.heap.size t U (withMoves x E) (a0.setCell ⟨t,3,none⟩ (.slice E.a E.n E.c))):=⟨((ai.below S.out.own H.out).withM (b5.out.1.mono S.out.le) (em.out.mono S.out.le)).box Y 3 (.slice E.a E.n E.c),(Y.set 3 _).congr λj hj=>by match j,hj with|0,_=>rfl|1,_=>rfl|2,_=>rfl|3,_=>rfl|4,_=>rfl|5,_=>rfl|6,_=>rfl,(S.out.bel.trans (H.out.mono S.out.bel.size)).setCell (p:=⟨t,3,none⟩) (by show U.heap.size<=t;omega) _,by have h1:=S.out.le;have h2:=H.out.size;simp;omega⟩;have fr:Hid (Blk (a0.setCell ⟨t,3,none⟩ (.slice E.a E.n E.c)) BC 133 12 (vg (eu s b g J))):=(b1.out.below H.out).other (a:=⟨t,3,none⟩) (Blk.ne2 (b1.out.below H.out) Y (by decide)) _;have fk:Hid (mx s b g seen (J+1) (withMoves x E)):=ju.out E (gh.out E b5.out.2.1 (λq hq=>by
     rw[b5.out.2.2,<-kx.out];unfold fs gz;by_cases c:q<k
     .rw[if_pos c,if_pos c,if_neg (by omega)]
     rw[if_neg c,if_neg c,if_neg (by omega)]))
    have bc:Hid (CoI P.heap.size t BC U s b g seen (J+1) (withMoves x E) (a0.setCell ⟨t,3,none⟩ (.slice E.a E.n E.c))):=⟨ex.out,by rw[HQ.out];exact fr.out,fk.out,by omega,by omega⟩;clear Y S H b5 em ex fr fk b1
    generalize a0.setCell ⟨t,3,none⟩ (.slice E.a E.n E.c)=qd at *
    refine NoPanic.normal ?_;go_wp2_with fail;go_roundw
    case rel=>exact⟨_,bc.out.num⟩
    case measure=>exact fe.out _ _ bc.out.num (by have:=bc.out.jm;omega)
  refine jt (λM=>∃p:Regrown,M=grow (redrawn F p.d) p.os) [1,2,3,4,6,7,8,9,10] [0] [(false,5),(false,11),(false,12),(true,13)] (Qqx (brf.drew)) ?_;simp only[dw,Qyq,Xqq,Qyx,Qyz,Xqz,Xqx]
  repeat(go_big_quiet_step(fail))
  refine Qqz ?_;clear lj;have k7:=hid lb;clear lb;refine⟨λj v g f=>∃B,v = .slice (some ⟨B,0,none⟩) 0 0/\g=[B]/\F.heap.size<=B/\f.heap[B]?=some (.cells #[] 77 (0,0)),
   Qjx ⟨λv g w M hB h=>⟨h.choose,h.choose_spec.1,h.choose_spec.2.1,h.choose_spec.2.2.1,(hB.block _ (Qkq h.choose_spec.2.2.2).1).trans h.choose_spec.2.2.2⟩,Qjq _⟩,
   Qjx ⟨λv g w h=>by obtain⟨B,-,h2,-,h4⟩:=h;rw[h2];intro x hx;rw[List.mem_singleton] at hx;rw[hx];exact(Qkq h4).1,Qjq _⟩,
   Qjx ⟨?zt0,Qjq _⟩,?ztdone⟩
  case zt0 =>
   intro V G f K hS hd hK;have Q:=af hS;refine ay 0 rfl ?_;simp only[ap,bu,Qvz,Qvx,Act.put,Qvq,Qwx,Qwz] at hK ⊢;go_wp2_with fail;exact hK _ [f.heap.size] _ (Qqx (Q.alloc Q.size _)) (brf.alloc nlr _) (λx hx=>by rw[List.mem_singleton] at hx;omega) ⟨f.heap.size,rfl,rfl,Q.size,heap_alloc_new f _⟩
  case ztdone =>
   intro V G' f hS hD hA;obtain⟨BV,ev,ey,bp,ao⟩:∃B,V 0 = .slice (some ⟨B,0,none⟩) 0 0/\G' 0=[B]/\F.heap.size<=B/\f.heap[B]?=some (.cells #[] 77 (0,0)):=hD 0 (by simp);have Q:=af hS;clear hS hD hA ey;simp only[ap,bu,Qvz,Qvx,Act.put,Qvq,Qwx,Qwz,ev];have br:f.ownsRow F.heap.size 77 4 (.slice (some ⟨BV,0,none⟩) 0 0) 0 []:=⟨rfl,Or.inr ⟨BV,0,#[],rfl,bp,ao,Nat.le_refl _,Qxz _,rfl,rfl⟩⟩;have fa:Hid (jc f (some ⟨bm,om,none⟩) x.ms.n ZF/\Below F.heap.size F f):=⟨by have h:jc f x.ms.a x.ms.n ZF:=(gv.out.below Q).hds;rw[iy.out] at h;exact h,Q⟩;refine dk 5 rfl ?_;refine wpList_append_own f rfl (.tmp 119) (.tmp 123) 29 rfl F.heap.size 77 iM (.agg #[.int .i64 0,.int .i64 0,.int .i64 0,.int .i64 0]) 4 32 Tryz.underlying29 hM gd f7 gr rfl (by decide) _ 0 [] rfl br ⟨bm,om,none⟩ k _ (ax k ZF) rfl (ed _ _) (λj u hj=>by
    rw[vx];have h:=fa.out.1.flat (q:=0) (m:=k) (by omega) (j:=j) (u:=u) (by simpa using hj)
    simpa using h) (me _ _) (by unfold maxLen;omega) (by omega) Q.size ?_
   intro v1 b2 r1 r2 _;have ep:Below F.heap.size F b2:=Q.grown r2 Q.size (λk e=>by cases e;exact bp);have bo:=hid ep;have dn:Hid (b2.ownsRow F.heap.size 77 4 v1 k (ax k ZF)):=by have h:=r1;rw[Nat.zero_add,Xqx] at h;exact h
   clear Q r1 r2 br ao bp fa ep;simp only[Act.put,Qvq,Qwx,Qwz];refine(?_:wpList _ _ _ [] _ _);go_wp2_with fail;refine⟨jq.no (Qqx bo.out),?_⟩;refine dk 11 rfl ?_;refine wpList_append_own b2 rfl (.tmp 124) (.tmp 129) 29 rfl F.heap.size 77 iM (.agg #[.int .i64 0,.int .i64 0,.int .i64 0,.int .i64 0]) 4 32 Tryz.underlying29 hM gd f7 gr rfl (by decide) v1 k (ax k ZF) rfl dn.out ⟨bm,om,none⟩ _ _ [] rfl (by first|rfl|(have:=k7.out;simp;omega)) (λj u hj=>by cases hj) (λu hu=>by cases hu) (by unfold maxLen;omega) (by omega) bo.out.size ?_;intro v2 a0 r3 r4 _;have ff:Below F.heap.size F a0:=bo.out.grown r4 bo.out.size (λk e=>Cd dn.out e);have dj:a0.ownsRow F.heap.size 77 4 v2 (x.ms.n-1) (ax (x.ms.n-1) (fs ZF k)):=by
    rw[ua x.ms.n ZF k hk];have hc:=k7.out;have e1:x.ms.n-(k+1)=0:=by omega
    rw[e1];have e2:x.ms.n-1=k:=by omega
    rw[e2]
    first|exact r3|(have fp:=r3;rw[e1] at fp;exact fp)
   obtain⟨E,rfl,da,kn,kz⟩:=cz.ofRow dj nlr;have em:Hid (fq F.heap.size a0 77 4 E.a E.c):=fq.ofOwns (a:=E.a) (n:=E.n) (c:=E.c) dj nlr;have b5:=qa3 da kn kz;have H:=hid ff;clear r3 r4 ff dj da kn kz dn bo;simp only[Act.put,Qvq,Qwx,Qwz,Hs.val];refine(?_:wpList _ _ _ [] _ _);go_wp2_with fail;refine⟨jq.no (Qqx H.out),?_⟩;refine dk 12 rfl ?_;have Y:=S.out.box.below H.out;have zl:=Y.lt;have bs:=Y.frozen 3;have zc3:=Y.k 3;go_wp2_with fail;refine⟨jq.no (Qqx H.out),?_⟩;refine dk 13 rfl ?_;go_wp2_with fail;refine⟨jq.yes,?_⟩;clear zl bs zc3;have ex:Hid (dg P.heap.size t U (withMoves x E) (a0.setCell ⟨t,3,none⟩ (.slice E.a E.n E.c))):=⟨((ai.below S.out.own H.out).withM (b5.out.1.mono S.out.le) (em.out.mono S.out.le)).box Y 3 (.slice E.a E.n E.c),(Y.set 3 _).congr λj hj=>by match j,hj with|0,_=>rfl|1,_=>rfl|2,_=>rfl|3,_=>rfl|4,_=>rfl|5,_=>rfl|6,_=>rfl,(S.out.bel.trans (H.out.mono S.out.bel.size)).setCell (p:=⟨t,3,none⟩) (by show U.heap.size<=t;omega) _,by have h1:=S.out.le;have h2:=H.out.size;simp;omega⟩;have fr:Hid (Blk (a0.setCell ⟨t,3,none⟩ (.slice E.a E.n E.c)) BC 133 12 (vg (eu s b g J))):=(b1.out.below H.out).other (a:=⟨t,3,none⟩) (Blk.ne2 (b1.out.below H.out) Y (by decide)) _;have fk:Hid (mx s b g seen (J+1) (withMoves x E)):=ju.out E (gh.out E b5.out.2.1 (λq hq=>by
    rw[b5.out.2.2,<-kx.out];unfold fs gz;by_cases c:q<k
    .rw[if_pos c,if_pos c,if_neg (by omega)]
    rw[if_neg c,if_neg c,if_neg (by omega)]))
   have bc:Hid (CoI P.heap.size t BC U s b g seen (J+1) (withMoves x E) (a0.setCell ⟨t,3,none⟩ (.slice E.a E.n E.c))):=⟨ex.out,by rw[HQ.out];exact fr.out,fk.out,by omega,by omega⟩;clear Y S H b5 em ex fr fk b1
   generalize a0.setCell ⟨t,3,none⟩ (.slice E.a E.n E.c)=qd at *
   refine NoPanic.normal ?_;go_wp2_with fail;go_roundw
   case rel=>exact⟨_,bc.out.num⟩
   case measure=>exact fe.out _ _ bc.out.num (by have:=bc.out.jm;omega)
theorem abh(p:Pl)(s:St)(x:Ax)(w:World)(hp:p.At w)(hs:s.At w)(hx:x.ls.At w)(t:x.k=1):
  Calls Tryz.prog 9 #[p.val,s.val,x.val] w λe S=>∃y:St,e = .returned (.tuple #[y.val,.int .i64 (doE p s x)])/\y.At S/\dv (doE p s x) (doT p s x) y/\(doE p s x=0->ai w.heap.size S y)/\Below w.heap.size w S:=by
 obtain⟨W0,G,HC,c,Q,⟨⟨l1,X,d1⟩,l2,c0,c1,c2,c3,c4,c5,c6⟩,⟨T,x1,x2,x3,x4,x5,x6⟩,zl,g,d,r,zc1,o,zc2,u,zc3,l,zc4,i,zc5,D,E⟩:=o8 p s x w hp hs hx;rw[<-G.out] at l1 X d1 l2 c0 c1 c2 c3 c4 c5 c6 T x1 x2 x3 x4 x5 x6 zl g d r zc1 o zc2 u zc3 l zc4 i zc5 D E;clear hp hs hx;unfold Pl.val St.val Ax.val Ax.cells;go_enter Tryz.func9,Tryz.ntmps9;obtain⟨z,m⟩:∃z,x.k=z:=⟨_,rfl⟩;have HK:Hid (x.k=z):=m;rw[m] at T G ⊢;clear m;have q:z=1:=HK.out.symm.trans t;have j:Hid (doE p s x=gw p s x.a x.b x.n/\doT p s x=li s x.a.toNat x.b.toNat x.n):=by
  have t:x.k=1:=HK.out.trans q;refine⟨?_,?_⟩
  .show(if x.k=1 then _ else _)=_;rw[t]
   rfl
  show(if x.k=1 then _ else _)=_;rw[t]
  rfl
 have g1:(z==1)=true:=by rw[q];rfl
 clear q t;go_wp2_with fail;rw[G.out];clear l1 X d1 l2 c0 c1 c2 c3 c4 c5 c6 T x1 x2 x3 x4 x5 x6 zl g d r zc1 o zc2 u zc3 l zc4 i zc5 D E;refine Calls.mono (Kn p s x.a x.b x.n W0 c.out.1 c.out.2.1) ?_;rintro e P ⟨y,rfl,K,J,f,hB⟩;have F:Hid (y.At P/\dv (doE p s x) (doT p s x) y/\(doE p s x=0->ai W0.heap.size P y)):=by
  refine⟨K,?_,?_⟩
  .rw[j.out.1,j.out.2];exact J
  rw[j.out.1];exact f
 have M:=hid j.out.1;rw[<-M.out];obtain⟨-,-,-,ao,V,-,-⟩:=HC.out P hB;clear j M K J f c G g1;obtain⟨U,A⟩:∃U,doE p s x=U:=⟨_,rfl⟩;have aa:=hid A;rw[A];clear A;obtain⟨zl,g,d,r,zc1,o,zc2,u,zc3,l,zc4,i,zc5,D,E⟩:=z7 V;simp only[St.val];go_wp2_with fail;have KZ:=s7b V y;have H:=s7w (b:=w.heap.size+3) ao (by omega) y;have B:=λh=>s7o (F.out.2.2 h) V y;have L:=qf F.out.2.1 F.out.1 B;unfold set7 at KZ H L B;obtain⟨ac,au,ad,ar,Y,W,an⟩:=co KZ;refine Xzq (v := .tuple #[y.val,.int .i64 U]) (by simp[results,Tryz.results9,go_sem,St.val,ac,au,ad,ar,Y,W,an]) rfl ?_;exact⟨y,by rw[aa.out];rfl,L,F.out.2.1,λh=>(B h).mono Q.out,H⟩
theorem abj(p:Pl)(s:St)(x:Ax)(w:World)(hp:p.At w)(hs:s.At w)(hx:x.ls.At w)(r:x.k=2):
  Calls Tryz.prog 9 #[p.val,s.val,x.val] w λe P=>∃y:St,e = .returned (.tuple #[y.val,.int .i64 (doE p s x)])/\y.At P/\dv (doE p s x) (doT p s x) y/\(doE p s x=0->ai w.heap.size P y)/\Below w.heap.size w P:=by
 obtain⟨W0,E,HC,a,M,⟨⟨l1,V,d1⟩,l2,c0,c1,c2,c3,c4,c5,c6⟩,⟨Q,x1,Y,x3,x4,x5,x6⟩,zl,i,f,q,zc1,o,zc2,t,zc3,m,zc4,j,zc5,A,B⟩:=o8 p s x w hp hs hx;rw[<-E.out] at l1 V d1 l2 c0 c1 c2 c3 c4 c5 c6 Q x1 Y x3 x4 x5 x6 zl i f q zc1 o zc2 t zc3 m zc4 j zc5 A B;clear hp hs hx;unfold Pl.val St.val Ax.val Ax.cells;go_enter Tryz.func9,Tryz.ntmps9;obtain⟨d,n⟩:∃d,x.k=d:=⟨_,rfl⟩;have HK:Hid (x.k=d):=n;rw[n] at Q E ⊢;clear n;have c:d=2:=HK.out.symm.trans r;have l:Hid (doE p s x=gp p s x.ls/\doT p s x=kj s x.ls):=by
  have r:x.k=2:=HK.out.trans c;refine⟨?_,?_⟩
  .show(if x.k=1 then _ else _)=_;rw[r]
   rfl
  show(if x.k=1 then _ else _)=_;rw[r]
  rfl
 have g1:(d==1)=false:=by rw[c];rfl
 have g2:(d==2)=true:=by rw[c];rfl
 clear c r;go_wp2_with fail;rw[E.out];clear l1 V d1 l2 c0 c1 c2 c3 c4 c5 c6 Q x1 Y x3 x4 x5 x6 zl i f q zc1 o zc2 t zc3 m zc4 j zc5 A B;refine Calls.mono (Na p s x.ls W0 a.out.1 a.out.2.1 a.out.2.2) ?_;rintro e L ⟨y,rfl,H,G,g,hB⟩;have D:Hid (y.At L/\dv (doE p s x) (doT p s x) y/\(doE p s x=0->ai W0.heap.size L y)):=by
  refine⟨H,?_,?_⟩
  .rw[l.out.1,l.out.2];exact G
  rw[l.out.1];exact g
 have K:=hid l.out.1;rw[<-K.out];obtain⟨-,-,-,am,T,-,-⟩:=HC.out L hB;clear l K H G g a E g1 g2;obtain⟨S,u⟩:∃S,doE p s x=S:=⟨_,rfl⟩;have X:=hid u;rw[u];clear u;obtain⟨zl,i,f,q,zc1,o,zc2,t,zc3,m,zc4,j,zc5,A,B⟩:=z7 T;simp only[St.val];go_wp2_with fail;have KZ:=s7b T y;have F:=s7w (b:=w.heap.size+3) am (by omega) y;have z:=λh=>s7o (D.out.2.2 h) T y;have J:=qf D.out.2.1 D.out.1 z;unfold set7 at KZ F J z;obtain⟨aa,aq,ab,ap,W,U,al⟩:=co KZ;refine Xzq (v := .tuple #[y.val,.int .i64 S]) (by simp[results,Tryz.results9,go_sem,St.val,aa,aq,ab,ap,W,U,al]) rfl ?_;exact⟨y,by rw[X.out];rfl,J,D.out.2.1,λh=>(z h).mono M.out,F⟩
theorem abl(p:Pl)(s:St)(x:Ax)(w:World)(hp:p.At w)(hs:s.At w)(hx:x.ls.At w)(r:x.k=3):
  Calls Tryz.prog 9 #[p.val,s.val,x.val] w λe P=>∃y:St,e = .returned (.tuple #[y.val,.int .i64 (doE p s x)])/\y.At P/\dv (doE p s x) (doT p s x) y/\(doE p s x=0->ai w.heap.size P y)/\Below w.heap.size w P:=by
 obtain⟨W0,E,HC,d,M,⟨⟨l1,V,d1⟩,l2,c0,c1,c2,c3,c4,c5,c6⟩,⟨Q,x1,Y,x3,x4,x5,x6⟩,zl,i,f,q,zc1,o,zc2,t,zc3,m,zc4,j,zc5,A,B⟩:=o8 p s x w hp hs hx;rw[<-E.out] at l1 V d1 l2 c0 c1 c2 c3 c4 c5 c6 Q x1 Y x3 x4 x5 x6 zl i f q zc1 o zc2 t zc3 m zc4 j zc5 A B;clear hp hs hx;unfold Pl.val St.val Ax.val Ax.cells;go_enter Tryz.func9,Tryz.ntmps9;obtain⟨c,n⟩:∃c,x.k=c:=⟨_,rfl⟩;have HK:Hid (x.k=c):=n;rw[n] at Q E ⊢;clear n;have a:c=3:=HK.out.symm.trans r;have l:Hid (doE p s x=ah p s/\doT p s x=Eh p s):=by
  have r:x.k=3:=HK.out.trans a;refine⟨?_,?_⟩
  .show(if x.k=1 then _ else _)=_;rw[r]
   rfl
  show(if x.k=1 then _ else _)=_;rw[r]
  rfl
 have g1:(c==1)=false:=by rw[a];rfl
 have g2:(c==2)=false:=by rw[a];rfl
 have g3:(c==3)=true:=by rw[a];rfl
 clear a r;go_wp2_with fail;rw[E.out];clear l1 V d1 l2 c0 c1 c2 c3 c4 c5 c6 Q x1 Y x3 x4 x5 x6 zl i f q zc1 o zc2 t zc3 m zc4 j zc5 A B;refine Calls.mono (Kk p s  W0 d.out.1 d.out.2.1) ?_;rintro e L ⟨y,rfl,H,G,g,hB⟩;have D:Hid (y.At L/\dv (doE p s x) (doT p s x) y/\(doE p s x=0->ai W0.heap.size L y)):=by
  refine⟨H,?_,?_⟩
  .rw[l.out.1,l.out.2];exact G.act
  rw[l.out.1];exact g
 have K:=hid l.out.1;rw[<-K.out];obtain⟨-,-,-,an,T,-,-⟩:=HC.out L hB;clear l K H G g d E g1 g2 g3;obtain⟨S,u⟩:∃S,doE p s x=S:=⟨_,rfl⟩;have X:=hid u;rw[u];clear u;obtain⟨zl,i,f,q,zc1,o,zc2,t,zc3,m,zc4,j,zc5,A,B⟩:=z7 T;simp only[St.val];go_wp2_with fail;have KZ:=s7b T y;have F:=s7w (b:=w.heap.size+3) an (by omega) y;have z:=λh=>s7o (D.out.2.2 h) T y;have J:=qf D.out.2.1 D.out.1 z;unfold set7 at KZ F J z;obtain⟨aa,ar,ab,aq,W,U,am⟩:=co KZ;refine Xzq (v := .tuple #[y.val,.int .i64 S]) (by simp[results,Tryz.results9,go_sem,St.val,aa,ar,ab,aq,W,U,am]) rfl ?_;exact⟨y,by rw[X.out];rfl,J,D.out.2.1,λh=>(z h).mono M.out,F⟩
theorem abp(p:Pl)(s:St)(x:Ax)(w:World)(hp:p.At w)(hs:s.At w)(hx:x.ls.At w)(t:x.k=4):
  Calls Tryz.prog 9 #[p.val,s.val,x.val] w λe Q=>∃y:St,e = .returned (.tuple #[y.val,.int .i64 (doE p s x)])/\y.At Q/\dv (doE p s x) (doT p s x) y/\(doE p s x=0->ai w.heap.size Q y)/\Below w.heap.size w Q:=by
 obtain⟨W0,F,HC,f,P,⟨⟨l1,W,d1⟩,l2,c0,c1,c2,c3,c4,c5,c6⟩,⟨S,x1,x2,x3,x4,x5,x6⟩,zl,j,g,r,zc1,q,zc2,u,zc3,n,zc4,l,zc5,B,D⟩:=o8 p s x w hp hs hx;rw[<-F.out] at l1 W d1 l2 c0 c1 c2 c3 c4 c5 c6 S x1 x2 x3 x4 x5 x6 zl j g r zc1 q zc2 u zc3 n zc4 l zc5 B D;clear hp hs hx;unfold Pl.val St.val Ax.val Ax.cells;go_enter Tryz.func9,Tryz.ntmps9;obtain⟨d,o⟩:∃d,x.k=d:=⟨_,rfl⟩;have HK:Hid (x.k=d):=o;rw[o] at S F ⊢;clear o;have c:d=4:=HK.out.symm.trans t;have m:Hid (doE p s x=fu p s x.a/\doT p s x=dt s x.a.toNat):=by
  have t:x.k=4:=HK.out.trans c;refine⟨?_,?_⟩
  .show(if x.k=1 then _ else _)=_;rw[t]
   rfl
  show(if x.k=1 then _ else _)=_;rw[t]
  rfl
 have g1:(d==1)=false:=by rw[c];rfl
 have g2:(d==2)=false:=by rw[c];rfl
 have g3:(d==3)=false:=by rw[c];rfl
 have g4:(d==4)=true:=by rw[c];rfl
 clear c t;go_wp2_with fail;rw[F.out];clear l1 W d1 l2 c0 c1 c2 c3 c4 c5 c6 S x1 x2 x3 x4 x5 x6 zl j g r zc1 q zc2 u zc3 n zc4 l zc5 B D;refine Calls.mono (Mt p s x.a W0 f.out.1 f.out.2.1) ?_;rintro e M ⟨y,rfl,J,H,i,hB⟩;have E:Hid (y.At M/\dv (doE p s x) (doT p s x) y/\(doE p s x=0->ai W0.heap.size M y)):=by
  refine⟨J,?_,?_⟩
  .rw[m.out.1,m.out.2];exact H
  rw[m.out.1];exact i
 have L:=hid m.out.1;rw[<-L.out];obtain⟨-,-,-,an,U,-,-⟩:=HC.out M hB;clear m L J H i f F g1 g2 g3 g4;obtain⟨T,z⟩:∃T,doE p s x=T:=⟨_,rfl⟩;have Y:=hid z;rw[z];clear z;obtain⟨zl,j,g,r,zc1,q,zc2,u,zc3,n,zc4,l,zc5,B,D⟩:=z7 U;simp only[St.val];go_wp2_with fail;have KZ:=s7b U y;have G:=s7w (b:=w.heap.size+3) an (by omega) y;have A:=λh=>s7o (E.out.2.2 h) U y;have K:=qf E.out.2.1 E.out.1 A;unfold set7 at KZ G K A;obtain⟨ab,ar,ac,aq,X,V,am⟩:=co KZ;refine Xzq (v := .tuple #[y.val,.int .i64 T]) (by simp[results,Tryz.results9,go_sem,St.val,ab,ar,ac,aq,X,V,am]) rfl ?_;exact⟨y,by rw[Y.out];rfl,K,E.out.2.1,λh=>(A h).mono P.out,G⟩
theorem abf(p:Pl)(s:St)(x:Ax)(w:World)(hp:p.At w)(hs:s.At w)(hx:x.ls.At w)(z:x.k=5):
  Calls Tryz.prog 9 #[p.val,s.val,x.val] w λe T=>∃y:St,e = .returned (.tuple #[y.val,.int .i64 (doE p s x)])/\y.At T/\dv (doE p s x) (doT p s x) y/\(doE p s x=0->ai w.heap.size T y)/\Below w.heap.size w T:=by
 obtain⟨W0,H,HC,g,S,⟨⟨l1,Y,d1⟩,l2,c0,c1,c2,c3,c4,c5,c6⟩,⟨U,x1,x2,x3,x4,x5,x6⟩,zl,l,i,u,zc1,t,zc2,A,zc3,q,zc4,m,zc5,E,F⟩:=o8 p s x w hp hs hx;rw[<-H.out] at l1 Y d1 l2 c0 c1 c2 c3 c4 c5 c6 U x1 x2 x3 x4 x5 x6 zl l i u zc1 t zc2 A zc3 q zc4 m zc5 E F;clear hp hs hx;unfold Pl.val St.val Ax.val Ax.cells;go_enter Tryz.func9,Tryz.ntmps9;obtain⟨f,r⟩:∃f,x.k=f:=⟨_,rfl⟩;have HK:Hid (x.k=f):=r;rw[r] at U H ⊢;clear r;have d:f=5:=HK.out.symm.trans z;have o:Hid (doE p s x=ir p s x.a x.b x.c x.n/\doT p s x=pb p s x.a.toNat x.b.toNat x.c.toNat x.n):=by
  have z:x.k=5:=HK.out.trans d;refine⟨?_,?_⟩
  .show(if x.k=1 then _ else _)=_;rw[z]
   rfl
  show(if x.k=1 then _ else _)=_;rw[z]
  rfl
 have g1:(f==1)=false:=by rw[d];rfl
 have g2:(f==2)=false:=by rw[d];rfl
 have g3:(f==3)=false:=by rw[d];rfl
 have g4:(f==4)=false:=by rw[d];rfl
 have g5:(f==5)=true:=by rw[d];rfl
 clear d z;go_wp2_with fail;rw[H.out];clear l1 Y d1 l2 c0 c1 c2 c3 c4 c5 c6 U x1 x2 x3 x4 x5 x6 zl l i u zc1 t zc2 A zc3 q zc4 m zc5 E F;refine Calls.mono (Pd p s x.a x.b x.c x.n W0 g.out.1 g.out.2.1) ?_;rintro e Q ⟨y,rfl,L,K,j,hB⟩;have G:Hid (y.At Q/\dv (doE p s x) (doT p s x) y/\(doE p s x=0->ai W0.heap.size Q y)):=by
  refine⟨L,?_,?_⟩
  .rw[o.out.1,o.out.2];exact K
  rw[o.out.1];exact j
 have P:=hid o.out.1;rw[<-P.out];obtain⟨-,-,-,ap,W,-,-⟩:=HC.out Q hB;clear o P L K j g H g1 g2 g3 g4 g5;obtain⟨V,B⟩:∃V,doE p s x=V:=⟨_,rfl⟩;have ab:=hid B;rw[B];clear B;obtain⟨zl,l,i,u,zc1,t,zc2,A,zc3,q,zc4,m,zc5,E,F⟩:=z7 W;simp only[St.val];go_wp2_with fail;have KZ:=s7b W y;have J:=s7w (b:=w.heap.size+3) ap (by omega) y;have D:=λh=>s7o (G.out.2.2 h) W y;have M:=qf G.out.2.1 G.out.1 D;unfold set7 at KZ J M D;obtain⟨ad,av,ae,au,aa,X,ao⟩:=co KZ;refine Xzq (v := .tuple #[y.val,.int .i64 V]) (by simp[results,Tryz.results9,go_sem,St.val,ad,av,ae,au,aa,X,ao]) rfl ?_;exact⟨y,by rw[ab.out];rfl,M,G.out.2.1,λh=>(D h).mono S.out,J⟩
theorem aa6(p:Pl)(s:St)(x:Ax)(w:World)(hp:p.At w)(hs:s.At w)(hx:x.ls.At w)(r:x.k=6):
  Calls Tryz.prog 9 #[p.val,s.val,x.val] w λe P=>∃y:St,e = .returned (.tuple #[y.val,.int .i64 (doE p s x)])/\y.At P/\dv (doE p s x) (doT p s x) y/\(doE p s x=0->ai w.heap.size P y)/\Below w.heap.size w P:=by
 obtain⟨W0,E,HC,d,M,⟨⟨l1,V,d1⟩,l2,c0,c1,c2,c3,c4,c5,c6⟩,⟨Q,x1,Y,x3,x4,x5,x6⟩,zl,i,f,q,zc1,o,zc2,t,zc3,m,zc4,j,zc5,A,B⟩:=o8 p s x w hp hs hx;rw[<-E.out] at l1 V d1 l2 c0 c1 c2 c3 c4 c5 c6 Q x1 Y x3 x4 x5 x6 zl i f q zc1 o zc2 t zc3 m zc4 j zc5 A B;clear hp hs hx;unfold Pl.val St.val Ax.val Ax.cells;go_enter Tryz.func9,Tryz.ntmps9;obtain⟨c,n⟩:∃c,x.k=c:=⟨_,rfl⟩;have HK:Hid (x.k=c):=n;rw[n] at Q E ⊢;clear n;have a:c=6:=HK.out.symm.trans r;have l:Hid (doE p s x=ah p s/\doT p s x=yp p s):=by
  have r:x.k=6:=HK.out.trans a;refine⟨?_,?_⟩
  .show(if x.k=1 then _ else _)=_;rw[r]
   rfl
  show(if x.k=1 then _ else _)=_;rw[r]
  rfl
 have g1:(c==1)=false:=by rw[a];rfl
 have g2:(c==2)=false:=by rw[a];rfl
 have g3:(c==3)=false:=by rw[a];rfl
 have g4:(c==4)=false:=by rw[a];rfl
 have g5:(c==5)=false:=by rw[a];rfl
 have g6:(c==6)=true:=by rw[a];rfl
 clear a r;go_wp2_with fail;rw[E.out];clear l1 V d1 l2 c0 c1 c2 c3 c4 c5 c6 Q x1 Y x3 x4 x5 x6 zl i f q zc1 o zc2 t zc3 m zc4 j zc5 A B;refine Calls.mono (Pp p s  W0 d.out.1 d.out.2.1) ?_;rintro e L ⟨y,rfl,H,G,g,hB⟩;have D:Hid (y.At L/\dv (doE p s x) (doT p s x) y/\(doE p s x=0->ai W0.heap.size L y)):=by
  refine⟨H,?_,?_⟩
  .rw[l.out.1,l.out.2];exact G
  rw[l.out.1];exact g
 have K:=hid l.out.1;rw[<-K.out];obtain⟨-,-,-,an,T,-,-⟩:=HC.out L hB;clear l K H G g d E g1 g2 g3 g4 g5 g6;obtain⟨S,u⟩:∃S,doE p s x=S:=⟨_,rfl⟩;have X:=hid u;rw[u];clear u;obtain⟨zl,i,f,q,zc1,o,zc2,t,zc3,m,zc4,j,zc5,A,B⟩:=z7 T;simp only[St.val];go_wp2_with fail;have KZ:=s7b T y;have F:=s7w (b:=w.heap.size+3) an (by omega) y;have z:=λh=>s7o (D.out.2.2 h) T y;have J:=qf D.out.2.1 D.out.1 z;unfold set7 at KZ F J z;obtain⟨aa,ar,ab,aq,W,U,am⟩:=co KZ;refine Xzq (v := .tuple #[y.val,.int .i64 S]) (by simp[results,Tryz.results9,go_sem,St.val,aa,ar,ab,aq,W,U,am]) rfl ?_;exact⟨y,by rw[X.out];rfl,J,D.out.2.1,λh=>(z h).mono M.out,F⟩
theorem abu(p:Pl)(s:St)(x:Ax)(w:World)(hp:p.At w)(hs:s.At w)(hx:x.ls.At w)(u:x.k=7):
  Calls Tryz.prog 9 #[p.val,s.val,x.val] w λe S=>∃y:St,e = .returned (.tuple #[y.val,.int .i64 (doE p s x)])/\y.At S/\dv (doE p s x) (doT p s x) y/\(doE p s x=0->ai w.heap.size S y)/\Below w.heap.size w S:=by
 obtain⟨W0,G,HC,f,Q,⟨⟨l1,X,d1⟩,l2,c0,c1,c2,c3,c4,c5,c6⟩,⟨T,x1,x2,x3,x4,x5,x6⟩,zl,j,g,t,zc1,r,zc2,z,zc3,o,zc4,l,zc5,D,E⟩:=o8 p s x w hp hs hx;rw[<-G.out] at l1 X d1 l2 c0 c1 c2 c3 c4 c5 c6 T x1 x2 x3 x4 x5 x6 zl j g t zc1 r zc2 z zc3 o zc4 l zc5 D E;clear hp hs hx;unfold Pl.val St.val Ax.val Ax.cells;go_enter Tryz.func9,Tryz.ntmps9;obtain⟨d,q⟩:∃d,x.k=d:=⟨_,rfl⟩;have HK:Hid (x.k=d):=q;rw[q] at T G ⊢;clear q;have c:d=7:=HK.out.symm.trans u;have m:Hid (doE p s x=fp p s x.a x.n/\doT p s x=je s x.a.toNat x.n):=by
  have u:x.k=7:=HK.out.trans c;refine⟨?_,?_⟩
  .show(if x.k=1 then _ else _)=_;rw[u]
   rfl
  show(if x.k=1 then _ else _)=_;rw[u]
  rfl
 have g1:(d==1)=false:=by rw[c];rfl
 have g2:(d==2)=false:=by rw[c];rfl
 have g3:(d==3)=false:=by rw[c];rfl
 have g4:(d==4)=false:=by rw[c];rfl
 have g5:(d==5)=false:=by rw[c];rfl
 have g6:(d==6)=false:=by rw[c];rfl
 have g7:(d==7)=true:=by rw[c];rfl
 clear c u;go_wp2_with fail;rw[G.out];clear l1 X d1 l2 c0 c1 c2 c3 c4 c5 c6 T x1 x2 x3 x4 x5 x6 zl j g t zc1 r zc2 z zc3 o zc4 l zc5 D E;refine Calls.mono (Nm p s x.a x.n W0 f.out.1 f.out.2.1) ?_;rintro e P ⟨y,rfl,K,J,i,hB⟩;have F:Hid (y.At P/\dv (doE p s x) (doT p s x) y/\(doE p s x=0->ai W0.heap.size P y)):=by
  refine⟨K,?_,?_⟩
  .rw[m.out.1,m.out.2];exact J
  rw[m.out.1];exact i
 have M:=hid m.out.1;rw[<-M.out];obtain⟨-,-,-,ao,V,-,-⟩:=HC.out P hB;clear m M K J i f G g1 g2 g3 g4 g5 g6 g7;obtain⟨U,A⟩:∃U,doE p s x=U:=⟨_,rfl⟩;have aa:=hid A;rw[A];clear A;obtain⟨zl,j,g,t,zc1,r,zc2,z,zc3,o,zc4,l,zc5,D,E⟩:=z7 V;simp only[St.val];go_wp2_with fail;have KZ:=s7b V y;have H:=s7w (b:=w.heap.size+3) ao (by omega) y;have B:=λh=>s7o (F.out.2.2 h) V y;have L:=qf F.out.2.1 F.out.1 B;unfold set7 at KZ H L B;obtain⟨ac,au,ad,ar,Y,W,an⟩:=co KZ;refine Xzq (v := .tuple #[y.val,.int .i64 U]) (by simp[results,Tryz.results9,go_sem,St.val,ac,au,ad,ar,Y,W,an]) rfl ?_;exact⟨y,by rw[aa.out];rfl,L,F.out.2.1,λh=>(B h).mono Q.out,H⟩
theorem aba(p:Pl)(s:St)(x:Ax)(w:World)(hp:p.At w)(hs:s.At w)(hx:x.ls.At w)(u:x.k=8):
  Calls Tryz.prog 9 #[p.val,s.val,x.val] w λe S=>∃y:St,e = .returned (.tuple #[y.val,.int .i64 (doE p s x)])/\y.At S/\dv (doE p s x) (doT p s x) y/\(doE p s x=0->ai w.heap.size S y)/\Below w.heap.size w S:=by
 obtain⟨W0,G,HC,f,Q,⟨⟨l1,X,d1⟩,l2,c0,c1,c2,c3,c4,c5,c6⟩,⟨T,x1,x2,x3,x4,x5,x6⟩,zl,j,g,t,zc1,r,zc2,z,zc3,o,zc4,l,zc5,D,E⟩:=o8 p s x w hp hs hx;rw[<-G.out] at l1 X d1 l2 c0 c1 c2 c3 c4 c5 c6 T x1 x2 x3 x4 x5 x6 zl j g t zc1 r zc2 z zc3 o zc4 l zc5 D E;clear hp hs hx;unfold Pl.val St.val Ax.val Ax.cells;go_enter Tryz.func9,Tryz.ntmps9;obtain⟨d,q⟩:∃d,x.k=d:=⟨_,rfl⟩;have HK:Hid (x.k=d):=q;rw[q] at T G ⊢;clear q;have c:d=8:=HK.out.symm.trans u;have m:Hid (doE p s x=fg p s x.a x.b x.n/\doT p s x=lw p s x.a.toNat x.b.toNat x.n):=by
  have u:x.k=8:=HK.out.trans c;refine⟨?_,?_⟩
  .show(if x.k=1 then _ else _)=_;rw[u]
   rfl
  show(if x.k=1 then _ else _)=_;rw[u]
  rfl
 have g1:(d==1)=false:=by rw[c];rfl
 have g2:(d==2)=false:=by rw[c];rfl
 have g3:(d==3)=false:=by rw[c];rfl
 have g4:(d==4)=false:=by rw[c];rfl
 have g5:(d==5)=false:=by rw[c];rfl
 have g6:(d==6)=false:=by rw[c];rfl
 have g7:(d==7)=false:=by rw[c];rfl
 have g8:(d==8)=true:=by rw[c];rfl
 clear c u;go_wp2_with fail;rw[G.out];clear l1 X d1 l2 c0 c1 c2 c3 c4 c5 c6 T x1 x2 x3 x4 x5 x6 zl j g t zc1 r zc2 z zc3 o zc4 l zc5 D E;refine Calls.mono (Se p s x.a x.b x.n W0 f.out.1 f.out.2.1) ?_;rintro e P ⟨y,rfl,K,J,i,hB⟩;have F:Hid (y.At P/\dv (doE p s x) (doT p s x) y/\(doE p s x=0->ai W0.heap.size P y)):=by
  refine⟨K,?_,?_⟩
  .rw[m.out.1,m.out.2];exact J
  rw[m.out.1];exact i
 have M:=hid m.out.1;rw[<-M.out];obtain⟨-,-,-,ao,V,-,-⟩:=HC.out P hB;clear m M K J i f G g1 g2 g3 g4 g5 g6 g7 g8;obtain⟨U,A⟩:∃U,doE p s x=U:=⟨_,rfl⟩;have aa:=hid A;rw[A];clear A;obtain⟨zl,j,g,t,zc1,r,zc2,z,zc3,o,zc4,l,zc5,D,E⟩:=z7 V;simp only[St.val];go_wp2_with fail;have KZ:=s7b V y;have H:=s7w (b:=w.heap.size+3) ao (by omega) y;have B:=λh=>s7o (F.out.2.2 h) V y;have L:=qf F.out.2.1 F.out.1 B;unfold set7 at KZ H L B;obtain⟨ac,au,ad,ar,Y,W,an⟩:=co KZ;refine Xzq (v := .tuple #[y.val,.int .i64 U]) (by simp[results,Tryz.results9,go_sem,St.val,ac,au,ad,ar,Y,W,an]) rfl ?_;exact⟨y,by rw[aa.out];rfl,L,F.out.2.1,λh=>(B h).mono Q.out,H⟩
theorem abq(p:Pl)(s:St)(x:Ax)(w:World)(S:p.At w)(hs:s.At w)(hx:x.ls.At w)(H:¬x.k=1)(P:¬x.k=2)(A:¬x.k=3)(K:¬x.k=4)(B:¬x.k=5)(Q:¬x.k=6)(M:¬x.k=7)(D:¬x.k=8):
  Calls Tryz.prog 9 #[p.val,s.val,x.val] w λe i=>∃y:St,e = .returned (.tuple #[y.val,.int .i64 (doE p s x)])/\y.At i/\dv (doE p s x) (doT p s x) y/\(doE p s x=0->ai w.heap.size i y)/\Below w.heap.size w i:=by
 obtain⟨W0,n,X,al,W,⟨⟨l1,V,d1⟩,l2,c0,c1,c2,c3,c4,c5,c6⟩,⟨G,x1,x2,x3,Y,x5,x6⟩,zl,F,E,z,zc1,J,zc2,L,zc3,u,zc4,t,zc5,T,U⟩:=o8 p s x w S hs hx;rw[<-n.out] at l1 V d1 l2 c0 c1 c2 c3 c4 c5 c6 G x1 x2 x3 Y x5 x6 zl F E z zc1 J zc2 L zc3 u zc4 t zc5 T U;clear S hs hx;unfold Pl.val St.val Ax.val Ax.cells;go_enter Tryz.func9,Tryz.ntmps9;obtain⟨a,c⟩:∃a,x.k=a:=⟨_,rfl⟩;have b:Hid (x.k=a):=c;rw[c] at G n ⊢;clear c;have f:¬a=1:=by rw[<-b.out];exact H
 have n2:¬a=2:=by rw[<-b.out];exact P
 have q:¬a=3:=by rw[<-b.out];exact A
 have g:¬a=4:=by rw[<-b.out];exact K
 have l:¬a=5:=by rw[<-b.out];exact B
 have r:¬a=6:=by rw[<-b.out];exact Q
 have m:¬a=7:=by rw[<-b.out];exact M
 have j:¬a=8:=by rw[<-b.out];exact D
 have o:Hid (doE p s x=8):=by
  show(if x.k=1 then _ else _)=_;rw[b.out,if_neg f,if_neg n2,if_neg q,if_neg g,if_neg l,if_neg r,if_neg m,if_neg j]
 have g1:(a==1)=false:=by simpa using f
 have g2:(a==2)=false:=by simpa using n2
 have g3:(a==3)=false:=by simpa using q
 have g4:(a==4)=false:=by simpa using g
 have g5:(a==5)=false:=by simpa using l
 have g6:(a==6)=false:=by simpa using r
 have g7:(a==7)=false:=by simpa using m
 have g8:(a==8)=false:=by simpa using j
 clear f n2 q g l r m j;have d:=(X.out W0 brf).2.2.2.1;rw[<-n.out] at d;go_wp2_with fail;refine Xzq (v := .tuple #[ng.val,.int .i64 8]) (by simp[results,Tryz.results9,go_sem,ng,St.val]) rfl ?_;exact⟨ng,by rw[o.out];rfl,y9 _,⟨λh=>absurd h (by rw[o.out];decide),λ_=>⟨rfl,rfl,rfl,rfl,rfl,rfl,rfl⟩⟩,λh=>absurd h (by rw[o.out];decide),d⟩
theorem Yy(p:Pl)(s:St)(x:Ax)(w:World)(a:p.At w)(hs:s.At w)(hx:x.ls.At w):
  Calls Tryz.prog 9 #[p.val,s.val,x.val] w λe b=>∃y:St,e = .returned (.tuple #[y.val,.int .i64 (doE p s x)])/\y.At b/\dv (doE p s x) (doT p s x) y/\(doE p s x=0->ai w.heap.size b y)/\Below w.heap.size w b:=by
 by_cases j:x.k=1
 .exact abh p s x w a hs hx j
 by_cases i:x.k=2
 .exact abj p s x w a hs hx i
 by_cases h:x.k=3
 .exact abl p s x w a hs hx h
 by_cases c:x.k=4
 .exact abp p s x w a hs hx c
 by_cases l:x.k=5
 .exact abf p s x w a hs hx l
 by_cases d:x.k=6
 .exact aa6 p s x w a hs hx d
 by_cases f:x.k=7
 .exact abu p s x w a hs hx f
 by_cases g:x.k=8
 .exact aba p s x w a hs hx g
 exact abq p s x w a hs hx j i h c l d f g
theorem Rq(p:Pl)(s:St)(q:Ax)(w:World)(hp:p.At w)(hs:s.At w)(hl:q.ls.At w):
  Calls Tryz.prog 4 #[p.val,s.val,q.val] w λe w'=>e = .returned (.bool true)/\Below w.heap.size w w':=by
 obtain⟨J,A,E,X0,XA⟩:∃W,((w.alloc (.cells #[.slice p.ab p.nb p.cb,.slice p.sa p.ns p.cs] 25)).alloc (.cells s.cells 31)).alloc (.cells q.cells 34)=W/\Below w.heap.size w W/\mf W w.heap.size (w.heap.size+1) p s/\Blk W (w.heap.size+1+1) 34 6 (λj=>q.cells.getD j default):=⟨_,rfl,(j8 _ _ _).alloc (by simp;omega) _,(ox w p s _ _).below (brf.alloc nlr _),Blk.mk' (cur:=q.cells) (by simp) rfl⟩;have U:Hid (∀t,Below J.heap.size J t->mf t w.heap.size (w.heap.size+1) p s/\p.At t/\s.At t/\Below w.heap.size w t/\q.ls.At t):=λt h=>⟨X0.below h,(hp.below E).below h,(hs.below E).below h,E.trans (h.mono E.size),(hl.below E).below h⟩;have G:Hid (((w.alloc (.cells #[.slice p.ab p.nb p.cb,.slice p.sa p.ns p.cs] 25)).alloc (.cells #[.slice s.on.a s.on.n s.on.c,.slice s.os.a s.os.n s.os.c,.slice s.hs.a s.hs.n s.hs.c,.slice s.ms.a s.ms.n s.ms.c,.slice s.si.a s.si.n s.si.c,.slice s.so.a s.so.n s.so.c,.slice s.sf.a s.sf.n s.sf.c] 31)).alloc (.cells #[.int .i64 q.k,.int .i64 q.a,.int .i64 q.b,.int .i64 q.c,.int .i64 q.n,.slice q.ls.a q.ls.n q.ls.c] 34)=J):=A;have aa:Hid (∀t,Below J.heap.size J t->Blk t (w.heap.size+1+1) 34 6 (λj=>q.cells.getD j default)):=λt h=>XA.below h;clear A X0 XA hp hs hl;unfold Pl.val St.val Ax.val Ax.cells;go_enter Tryz.func4,Tryz.ntmps4;go_wp2_with fail;rw[G.out];obtain⟨X,g,o,F,r⟩:=U.out J brf;refine(P6 p s q J g o r).mono ?_;rintro e u ⟨x,rfl,d,P,-,Q⟩;clear X g o F r G;obtain⟨⟨⟨l1,d0,d1⟩,l2,c0,c1,c2,c3,c4,c5,c6⟩,g,o,F,r⟩:=U.out u Q;have D:=aa.out u Q;have q0:u.cell? ⟨w.heap.size+1+1,0,none⟩=some (.int .i64 q.k):=D.k 0;have q1:u.cell? ⟨w.heap.size+1+1,1,none⟩=some (.int .i64 q.a):=D.k 1;have q2:u.cell? ⟨w.heap.size+1+1,2,none⟩=some (.int .i64 q.b):=D.k 2;have q3:u.cell? ⟨w.heap.size+1+1,3,none⟩=some (.int .i64 q.c):=D.k 3;have q4:u.cell? ⟨w.heap.size+1+1,4,none⟩=some (.int .i64 q.n):=D.k 4;have q5:u.cell? ⟨w.heap.size+1+1,5,none⟩=some (.slice q.ls.a q.ls.n q.ls.c):=D.k 5;have q6:=D.lt;clear D;obtain⟨W2,A,H,B⟩:=ab7 u x;have G:=hid A;have aj:Hid (∀y,dv (doE p s q) (doT p s q) y->ae x y):=λy h=>dv.same P h;have S:Hid (x.os.n<=1000/\x.ms.n<=1000/\∀i,i<x.os.n->(x.os.z i).ls.n<=1000):=dv.bound P (λh=>Ze h);have d:=d.below H;have K:=Q.trans (H.mono Q.size);simp only[St.val];clear A r;go_wp2_with fail;rw[G.out];clear q0 q1 q2 q3 q4 q5 q6 l1 d0 d1 l2 c0 c1 c2 c3 c4 c5 c6 g o F G H Q P
 generalize u.heap.size=B1 at *
 obtain⟨X,g,o,F,r⟩:=U.out W2 K;refine(Yy p s q W2 g o r).mono ?_;rintro e w3 ⟨y,rfl,v,Y,-,m⟩;have d:=d.below m;have B:=B.below m;have m:=K.trans (m.mono K.size);clear X g o F r K;obtain⟨W4,A,l,T⟩:=ab7 w3 y;have G:=hid A;have HS:Hid (ae x y):=aj.out y Y;have d:=d.below l;have v:=v.below l;have B:=B.below l;have M:=m.trans (l.mono m.size);simp only[St.val];clear A;go_wp2_with fail;rw[G.out];clear G l m Y
 generalize w3.heap.size=B2 at *
 refine(P0 W4).mono ?_;rintro e w5 ⟨rfl,f⟩;have d:=d.below f;have v:=v.below f;have B:=B.below f;have T:=T.below f;have f:=M.trans (f.mono M.size);clear M;obtain⟨m1,p0,p1,p2,p3,p4,p5,p6⟩:=Boxed.of B;obtain⟨m2,t0,t1,t2,t3,t4,t5,t6⟩:=Boxed.of T;clear B T;have V:=qa2 d v;clear d v;go_wp2_with fail;refine(Nw x y w5 V.out.1 V.out.2 HS.out S.out.1 S.out.2.1 S.out.2.2).mono ?_;rintro e w6 ⟨rfl,L⟩;have L:=f.trans (L.mono f.size);clear m1 p0 p1 p2 p3 p4 p5 p6 m2 t0 t1 t2 t3 t4 t5 t6;go_wp2_with fail;go_ret;exact⟨by simp,(U.out w6 L).2.2.2.1⟩
end Go.Proofs.YtbcacebifpagpafGreat
namespace Go.Proofs.YtbcacebifpagpafGreat
open Go.ChangeShapes Go.WideShapes Go.ChangeAt Go.RowKit Go.Joins Go.Deep
set_option maxRecDepth 100000
theorem own:ownKnob Tryz.prog.godebug=none:=by kernel_rfl
theorem Jd:laidOutB Tryz.prog=true:=by kernel_rfl
theorem v7:Tryz.prog.cellsOf 3=1:=by kernel_rfl
theorem Og:Tryz.prog.cellsOf 23=1:=by kernel_rfl
theorem Yt:Tryz.prog.cellsOf 112=4:=by kernel_rfl
theorem Xq:Tryz.prog.cellsOf 25=2:=by kernel_rfl
theorem Wn:Tryz.prog.cellsOf 4=1:=by kernel_rfl
section
variable {H:Type} {enc:TypeId × Value->H} {w:World} {held:Bool} {spare:Nat->Bool}
theorem Br{a:Addr}{i:Nat}{v:Value}(h:w.cell? (a.add i)=some v)(c:∃f,w.cell? a=some f):∃b o,a=⟨b,o,none⟩/\b<w.heap.size/\w.cell? ⟨b,o+i,none⟩=some v:=by
 obtain⟨b,e,spot⟩:=a;obtain⟨f,c⟩:=c;have d:spot=none:=World.cell?_spot c;subst d;refine⟨b,e,rfl,World.block_lt_of_cell? w _ c,?_⟩;rw[<-Go.WideShapes.add_plain];exact h
theorem C0{fuel:Nat}{cs:List Value}{x:DataW H × List MemPlace}(h:DataW.trod enc Tryz.prog w 0 spare held fuel 23 cs=some x):∃r:Rw,cs=[r.val]/\r.At w:=by
 rcases open_slice1 Tryz.underlying23 v7 h with⟨rfl,_⟩|⟨a,len,cap,m,n,V,D,Pl,rfl,s,l,g,d,_,hx⟩
 .exact⟨⟨none,0,0,λ_=>0⟩,rfl,Nat.le_refl _,Qxz _,λi hi=>absurd hi (Qzq _)⟩
 have q:len<=m:=by rw[d];split<;>omega
 obtain⟨z,j⟩:=choose_lt (α:=Int) (n:=len) (p:=λi y=>V i = .int .i64 y) (λi hi=>by
  obtain⟨y,f,_⟩:=DataW.trod_int Tryz.underlying3 (hx i (by omega)).2;simp only[List.cons.injEq,and_true] at f;exact⟨y,f⟩)
 refine⟨⟨some a,len,cap,z⟩,rfl,l,g,λi hi => ?_⟩;have e:i<len:=hi;have k:∃v0,w.cell? a=some v0:=⟨_,by have:=(hx 0 (by omega)).1;simpa[Addr.add] using this⟩;obtain⟨b,o,rfl,c,hc⟩:=Br (hx i (by omega)).1 k;exact⟨b,o,rfl,c,by rw[hc,j i e]⟩
theorem Yq{fuel:Nat}{cs:List Value}{x:DataW H × List MemPlace}(h:DataW.trod enc Tryz.prog w 0 spare held fuel 26 cs=some x):∃s:Sh,cs=[s.val]/\s.At w:=by
 rcases open_slice1 Tryz.underlying26 Og h with⟨rfl,_⟩|⟨a,len,cap,m,n,V,D,Pl,rfl,t,q,k,f,_,hx⟩
 .exact⟨⟨none,0,0,λ_=>⟨none,0,0,λ_=>0⟩⟩,rfl,Nat.le_refl _,Qxz _,λi hi=>absurd hi (Qzq _)⟩
 have r:len<=m:=by rw[f];split<;>omega
 haveI:Inhabited Rw:=⟨⟨none,0,0,λ_=>0⟩⟩
 obtain⟨z,e⟩:=choose_lt (α:=Rw) (n:=len) (p:=λi y=>V i=y.val/\y.At w) (λi hi=>by
  obtain⟨y,j,g⟩:=C0 (hx i (by omega)).2;simp only[List.cons.injEq,and_true] at j;exact⟨y,j,g⟩)
 refine⟨⟨some a,len,cap,z⟩,rfl,q,k,λi hi => ?_⟩;have c:i<len:=hi;have l:∃v0,w.cell? a=some v0:=⟨_,by have:=(hx 0 (by omega)).1;simpa[Addr.add] using this⟩;obtain⟨b,o,rfl,d,hc⟩:=Br (hx i (by omega)).1 l;exact⟨b,o,rfl,d,by rw[hc,(e i c).1];rfl,(e i c).2⟩
theorem aaf{fuel:Nat}{i c1 c2 c3:Value}{x:DataW H × List MemPlace}(h:DataW.trod enc Tryz.prog w 0 spare held fuel 112 [i,c1,c2,c3]=some x):∃y:Bin,i = .bool y.front/\c1 = .int .i64 y.room/\c2 = .int .i64 y.low/\c3 = .int .i64 y.high:=by
 obtain⟨p,o,m,q,n,hx,r,e,g,a,j⟩:=trod_struct4 Tryz.underlying112 h;simp only[Wn,v7,Qyq,Xqq,Qyx,Qyz] at e g a j;obtain⟨b,e0,_⟩:=DataW.trod_bool Tryz.underlying4 e;obtain⟨l,c,_⟩:=DataW.trod_int Tryz.underlying3 g;obtain⟨n2,d,_⟩:=DataW.trod_int Tryz.underlying3 a;obtain⟨k,f,_⟩:=DataW.trod_int Tryz.underlying3 j;simp only[List.cons.injEq,and_true] at e0 c d f;exact⟨⟨b,l,n2,k⟩,e0,c,d,f⟩
theorem H4{base:Nat}{a:Addr}{cs:List Value}(h:w.cells? base a 4=some cs):∃c0 c1 c2 c3,cs=[c0,c1,c2,c3]/\w.cell? a=some c0/\w.cell? (a.add 1)=some c1/\w.cell? (a.add 2)=some c2/\w.cell? (a.add 3)=some c3:=by
 obtain⟨_,b,hc⟩:=World.cells?_some h
 match cs,b with
 | [c0,c1,c2,c3],_ =>
  refine⟨c0,c1,c2,c3,rfl,?_,?_,?_,?_⟩
  .simpa[Addr.add] using hc 0 (by decide)
  .simpa using hc 1 (by decide)
  .simpa using hc 2 (by decide)
  simpa using hc 3 (by decide)
theorem Y7{fuel:Nat}{cs:List Value}{x:DataW H × List MemPlace}(h:DataW.trod enc Tryz.prog w 0 spare held fuel 22 cs=some x):∃a n c z,cs=[.slice a n c]/\n<=c/\c<=maxLen/\sl w a n z:=by
 rcases open_slice Tryz.underlying22 h with⟨rfl,_⟩|⟨a,len,cap,m,n,D,Pl,rfl,A,t,r,j,_,hx⟩
 .exact⟨none,0,0,λ_=>⟨false,0,0,0⟩,rfl,Nat.le_refl _,Qxz _,λi hi=>absurd hi (Qzq _)⟩
 have u:len<=m:=by rw[j];split<;>omega
 rw[Yt] at hx
 haveI:Inhabited Bin:=⟨⟨false,0,0,0⟩⟩
 obtain⟨z,l⟩:=choose_lt (α:=Bin) (n:=len) (p:=λi y=>w.cell? (a.add (i*4))=some (.bool y.front)/\w.cell? (a.add (i*4+1))=some (.int .i64 y.room)/\w.cell? (a.add (i*4+2))=some (.int .i64 y.low)/\w.cell? (a.add (i*4+3))=some (.int .i64 y.high)) (λi hi=>by
  obtain⟨v,hc,s⟩:=hx i (by omega);obtain⟨B,c1,c2,c3,rfl,g,e,f,d⟩:=H4 hc;obtain⟨y,rfl,rfl,rfl,rfl⟩:=aaf s;rw[add_add] at e f d;exact⟨y,g,e,f,d⟩)
 refine⟨some a,len,cap,z,rfl,t,r,λi hi => ?_⟩;have q:∃v0,w.cell? a=some v0:=⟨_,by have:=(l 0 (by omega)).1;simpa[Addr.add] using this⟩;obtain⟨g,e,f,d⟩:=l i hi;obtain⟨b,o,rfl,k,e0⟩:=Br g q;rw[Go.WideShapes.add_plain] at e f d;exact⟨b,o,rfl,k,e0,by rw[Nat.add_assoc];exact e,by rw[Nat.add_assoc];exact f,by rw[Nat.add_assoc];exact d⟩
theorem Y5{r:Reach}{b0:Nat}{v:Value}{d:DataW H}{k:List MemPlace}(l:Value.okWide Tryz.prog w r b0 25 v)(h:DataW.Trod enc Tryz.prog w 0 spare held 25 v d k):∃p:Pl,v=p.val/\p.At w:=by
 obtain⟨t,c1,u,s,m,rfl,rfl,rfl,g,i⟩:=open_agg2 Tryz.underlying25 (by kernel_rfl) Xq l h;obtain⟨a,n,c,z,e0,o,j,q⟩:=Y7 g;obtain⟨b,f,e⟩:=C0 i;simp only[List.cons.injEq,and_true] at e0 f;subst e0 f;exact⟨⟨a,n,c,z,b.a,b.n,b.c,b.z⟩,rfl,o,j,q,e.le,e.cap,e.ints⟩
end
set_option maxRecDepth 100000
namespace HoldsFrames
theorem own:ownKnob Tryz.prog.godebug=none:=by kernel_rfl
theorem Jd:laidOutB Tryz.prog=true:=by kernel_rfl
theorem v7:Tryz.prog.cellsOf 3=1:=by kernel_rfl
theorem Xk:Tryz.prog.cellsOf 103=4:=by kernel_rfl
section
variable {H:Type} {enc:TypeId × Value->H} {w:World} {held:Bool} {spare:Nat->Bool}
theorem Br{a:Addr}{i:Nat}{v:Value}(h:w.cell? (a.add i)=some v)(c:∃f,w.cell? a=some f):∃b o,a=⟨b,o,none⟩/\b<w.heap.size/\w.cell? ⟨b,o+i,none⟩=some v:=by
 obtain⟨b,e,spot⟩:=a;obtain⟨f,c⟩:=c;have d:spot=none:=World.cell?_spot c;subst d;refine⟨b,e,rfl,World.block_lt_of_cell? w _ c,?_⟩;rw[<-Go.WideShapes.add_plain];exact h
theorem H4{base:Nat}{a:Addr}{cs:List Value}(h:w.cells? base a 4=some cs):∃c0 c1 c2 c3,cs=[c0,c1,c2,c3]/\w.cell? a=some c0/\w.cell? (a.add 1)=some c1/\w.cell? (a.add 2)=some c2/\w.cell? (a.add 3)=some c3:=by
 obtain⟨_,b,hc⟩:=World.cells?_some h
 match cs,b with
 | [c0,c1,c2,c3],_ =>
  refine⟨c0,c1,c2,c3,rfl,?_,?_,?_,?_⟩
  .simpa[Addr.add] using hc 0 (by decide)
  .simpa using hc 1 (by decide)
  .simpa using hc 2 (by decide)
  simpa using hc 3 (by decide)
theorem Zr{fuel:Nat}{i c1 c2 c3:Value}{x:DataW H × List MemPlace}(h:DataW.trod enc Tryz.prog w 0 spare held fuel 103 [i,c1,c2,c3]=some x):∃y:Hd,i = .int .i64 y.o/\c1 = .int .i64 y.l/\c2 = .int .i64 y.b/\c3 = .int .i64 y.n:=by
 obtain⟨r,q,p,s,n,hx,t,e,g,a,j⟩:=trod_struct4 Tryz.underlying103 h;simp only[v7,Qyq,Xqq,Qyx,Qyz] at e g a j;obtain⟨n0,e0,_⟩:=DataW.trod_int Tryz.underlying3 e;obtain⟨m,c,_⟩:=DataW.trod_int Tryz.underlying3 g;obtain⟨n2,d,_⟩:=DataW.trod_int Tryz.underlying3 a;obtain⟨k,f,_⟩:=DataW.trod_int Tryz.underlying3 j;simp only[List.cons.injEq,and_true] at e0 c d f;exact⟨⟨n0,m,n2,k⟩,e0,c,d,f⟩
theorem readHolds{fuel:Nat}{cs:List Value}{x:DataW H × List MemPlace}(h:DataW.trod enc Tryz.prog w 0 spare held fuel 28 cs=some x):∃s:Hs,cs=[s.val]/\s.At w:=by
 rcases open_slice Tryz.underlying28 h with⟨rfl,_⟩|⟨a,len,cap,m,n,D,Pl,rfl,E,v,t,g,_,hx⟩
 .exact⟨⟨none,0,0,λ_=>⟨0,0,0,0⟩⟩,rfl,Nat.le_refl _,Qxz _,λi hi=>absurd hi (Qzq _),λ_=>rfl⟩
 have A:len<=m:=by rw[g];split<;>omega
 rw[Xk] at hx
 haveI:Inhabited Hd:=⟨⟨0,0,0,0⟩⟩
 obtain⟨z,q⟩:=choose_lt (α:=Hd) (n:=len) (p:=λi y=>w.cell? (a.add (i*4))=some (.int .i64 y.o)/\w.cell? (a.add (i*4+1))=some (.int .i64 y.l)/\w.cell? (a.add (i*4+2))=some (.int .i64 y.b)/\w.cell? (a.add (i*4+3))=some (.int .i64 y.n)) (λi hi=>by
  obtain⟨B,hc,u⟩:=hx i (by omega);obtain⟨F,c1,c2,c3,rfl,f,d,e,c⟩:=H4 hc;obtain⟨y,rfl,rfl,rfl,rfl⟩:=Zr u;rw[add_add] at d e c;exact⟨y,f,d,e,c⟩)
 refine⟨⟨some a,len,cap,z⟩,rfl,v,t,λi hi => ?_,λh=>by cases h⟩;have j:i<len:=hi;have r:∃v0,w.cell? a=some v0:=⟨_,by have:=(q 0 (by omega)).1;simpa[Addr.add] using this⟩;obtain⟨f,d,e,c⟩:=q i j;obtain⟨b,o,rfl,k,e0⟩:=Br f r;rw[Go.WideShapes.add_plain] at d e c;exact⟨b,o,rfl,k,e0,by rw[Nat.add_assoc];exact d,by rw[Nat.add_assoc];exact e,by rw[Nat.add_assoc];exact c⟩
end
end HoldsFrames
set_option maxRecDepth 100000
theorem Xe:Tryz.prog.cellsOf 68=4:=by kernel_rfl
theorem Xz:Tryz.prog.cellsOf 77=4:=by kernel_rfl
theorem Tm:Tryz.prog.cellsOf 66=2:=by kernel_rfl
theorem Tt:Tryz.prog.cellsOf 31=7:=by kernel_rfl
theorem Mq:Tryz.prog.cellsOf 32=1:=by kernel_rfl
theorem Ui:Tryz.prog.cellsOf 29=1:=by kernel_rfl
theorem Ss:Tryz.prog.cellsOf 27=1:=by kernel_rfl
theorem Un:Tryz.prog.cellsOf 28=1:=by kernel_rfl
theorem Xu:Tryz.prog.cellsOf 26=1:=by kernel_rfl
section
variable {H:Type} {enc:TypeId × Value->H} {w:World} {held:Bool} {spare:Nat->Bool}
theorem X9{fuel:Nat}{i c1 c2 c3:Value}{x:DataW H × List MemPlace}(h:DataW.trod enc Tryz.prog w 0 spare held fuel 68 [i,c1,c2,c3]=some x):∃y:Hd,i = .int .i64 y.o/\c1 = .int .i64 y.l/\c2 = .int .i64 y.b/\c3 = .int .i64 y.n:=by
 obtain⟨r,q,p,s,n,hx,t,e,g,a,j⟩:=trod_struct4 Tryz.underlying68 h;simp only[v7,Qyq,Xqq,Qyx,Qyz] at e g a j;obtain⟨n0,e0,_⟩:=DataW.trod_int Tryz.underlying3 e;obtain⟨m,c,_⟩:=DataW.trod_int Tryz.underlying3 g;obtain⟨n2,d,_⟩:=DataW.trod_int Tryz.underlying3 a;obtain⟨k,f,_⟩:=DataW.trod_int Tryz.underlying3 j;simp only[List.cons.injEq,and_true] at e0 c d f;exact⟨⟨n0,m,n2,k⟩,e0,c,d,f⟩
theorem Oe{fuel:Nat}{cs:List Value}{x:DataW H × List MemPlace}(h:DataW.trod enc Tryz.prog w 0 spare held fuel 32 cs=some x):∃s:Hs,cs=[s.val]/\s.At w:=by
 rcases open_slice Tryz.underlying32 h with⟨rfl,_⟩|⟨a,len,cap,m,n,D,Pl,rfl,E,v,t,g,_,hx⟩
 .exact⟨⟨none,0,0,λ_=>⟨0,0,0,0⟩⟩,rfl,Nat.le_refl _,Qxz _,λi hi=>absurd hi (Qzq _),λ_=>rfl⟩
 have A:len<=m:=by rw[g];split<;>omega
 rw[Xe] at hx
 haveI:Inhabited Hd:=⟨⟨0,0,0,0⟩⟩
 obtain⟨z,q⟩:=choose_lt (α:=Hd) (n:=len) (p:=λi y=>w.cell? (a.add (i*4))=some (.int .i64 y.o)/\w.cell? (a.add (i*4+1))=some (.int .i64 y.l)/\w.cell? (a.add (i*4+2))=some (.int .i64 y.b)/\w.cell? (a.add (i*4+3))=some (.int .i64 y.n)) (λi hi=>by
  obtain⟨B,hc,u⟩:=hx i (by omega);obtain⟨F,c1,c2,c3,rfl,f,d,e,c⟩:=H4 hc;obtain⟨y,rfl,rfl,rfl,rfl⟩:=X9 u;rw[add_add] at d e c;exact⟨y,f,d,e,c⟩)
 refine⟨⟨some a,len,cap,z⟩,rfl,v,t,λi hi => ?_,λh=>by cases h⟩;have j:i<len:=hi;have r:∃v0,w.cell? a=some v0:=⟨_,by have:=(q 0 (by omega)).1;simpa[Addr.add] using this⟩;obtain⟨f,d,e,c⟩:=q i j;obtain⟨b,o,rfl,k,e0⟩:=Br f r;rw[Go.WideShapes.add_plain] at d e c;exact⟨b,o,rfl,k,e0,by rw[Nat.add_assoc];exact d,by rw[Nat.add_assoc];exact e,by rw[Nat.add_assoc];exact c⟩
theorem Yx{fuel:Nat}{i c1 c2 c3:Value}{x:DataW H × List MemPlace}(h:DataW.trod enc Tryz.prog w 0 spare held fuel 77 [i,c1,c2,c3]=some x):∃y:Hd,i = .int .i64 y.o/\c1 = .int .i64 y.l/\c2 = .int .i64 y.b/\c3 = .int .i64 y.n:=by
 obtain⟨r,q,p,s,n,hx,t,e,g,a,j⟩:=trod_struct4 Tryz.underlying77 h;simp only[v7,Qyq,Xqq,Qyx,Qyz] at e g a j;obtain⟨n0,e0,_⟩:=DataW.trod_int Tryz.underlying3 e;obtain⟨m,c,_⟩:=DataW.trod_int Tryz.underlying3 g;obtain⟨n2,d,_⟩:=DataW.trod_int Tryz.underlying3 a;obtain⟨k,f,_⟩:=DataW.trod_int Tryz.underlying3 j;simp only[List.cons.injEq,and_true] at e0 c d f;exact⟨⟨n0,m,n2,k⟩,e0,c,d,f⟩
theorem Vw{fuel:Nat}{cs:List Value}{x:DataW H × List MemPlace}(h:DataW.trod enc Tryz.prog w 0 spare held fuel 29 cs=some x):∃s:Hs,cs=[s.val]/\s.At w:=by
 rcases open_slice Tryz.underlying29 h with⟨rfl,_⟩|⟨a,len,cap,m,n,D,Pl,rfl,E,v,t,g,_,hx⟩
 .exact⟨⟨none,0,0,λ_=>⟨0,0,0,0⟩⟩,rfl,Nat.le_refl _,Qxz _,λi hi=>absurd hi (Qzq _),λ_=>rfl⟩
 have A:len<=m:=by rw[g];split<;>omega
 rw[Xz] at hx
 haveI:Inhabited Hd:=⟨⟨0,0,0,0⟩⟩
 obtain⟨z,q⟩:=choose_lt (α:=Hd) (n:=len) (p:=λi y=>w.cell? (a.add (i*4))=some (.int .i64 y.o)/\w.cell? (a.add (i*4+1))=some (.int .i64 y.l)/\w.cell? (a.add (i*4+2))=some (.int .i64 y.b)/\w.cell? (a.add (i*4+3))=some (.int .i64 y.n)) (λi hi=>by
  obtain⟨B,hc,u⟩:=hx i (by omega);obtain⟨F,c1,c2,c3,rfl,f,d,e,c⟩:=H4 hc;obtain⟨y,rfl,rfl,rfl,rfl⟩:=Yx u;rw[add_add] at d e c;exact⟨y,f,d,e,c⟩)
 refine⟨⟨some a,len,cap,z⟩,rfl,v,t,λi hi => ?_,λh=>by cases h⟩;have j:i<len:=hi;have r:∃v0,w.cell? a=some v0:=⟨_,by have:=(q 0 (by omega)).1;simpa[Addr.add] using this⟩;obtain⟨f,d,e,c⟩:=q i j;obtain⟨b,o,rfl,k,e0⟩:=Br f r;rw[Go.WideShapes.add_plain] at d e c;exact⟨b,o,rfl,k,e0,by rw[Nat.add_assoc];exact d,by rw[Nat.add_assoc];exact e,by rw[Nat.add_assoc];exact c⟩
theorem abs{base:Nat}{a:Addr}{cs:List Value}(h:w.cells? base a 2=some cs):∃c0 c1,cs=[c0,c1]/\w.cell? a=some c0/\w.cell? (a.add 1)=some c1:=by
 obtain⟨_,b,hc⟩:=World.cells?_some h
 match cs,b with
 | [c0,c1],_ =>
  refine⟨c0,c1,rfl,?_,?_⟩
  .simpa[Addr.add] using hc 0 (by decide)
  simpa using hc 1 (by decide)
theorem Xx{fuel:Nat}{f c1:Value}{x:DataW H × List MemPlace}(h:DataW.trod enc Tryz.prog w 0 spare held fuel 66 [f,c1]=some x):∃y:Od,f = .int .i64 y.k/\c1 = .slice y.ls.a y.ls.n y.ls.c/\y.ls.At w:=by
 obtain⟨i,g,n,hx,j,d,e⟩:=trod_struct2 Tryz.underlying66 h;simp only[v7,Mq,Qyq,Xqq,Qyx,Qyz] at d e;obtain⟨n0,e0,_⟩:=DataW.trod_int Tryz.underlying3 d;obtain⟨s,b,hs⟩:=Oe e;simp only[List.cons.injEq,and_true] at e0 b;exact⟨⟨n0,s⟩,e0,b,hs⟩
theorem T6{fuel:Nat}{cs:List Value}{x:DataW H × List MemPlace}(h:DataW.trod enc Tryz.prog w 0 spare held fuel 27 cs=some x):∃s:Go.Proofs.YtbcacebifpagpafGreat.Os,cs=[s.val]/\s.At w:=by
 rcases open_slice Tryz.underlying27 h with⟨rfl,_⟩|⟨a,len,cap,m,n,D,Pl,rfl,E,v,t,g,_,hx⟩
 .exact⟨⟨none,0,0,λ_=>⟨0,⟨none,0,0,λ_=>⟨0,0,0,0⟩⟩⟩⟩,rfl,Nat.le_refl _,Qxz _,λi hi=>absurd hi (Qzq _)⟩
 have A:len<=m:=by rw[g];split<;>omega
 rw[Tm] at hx
 haveI:Inhabited Od:=⟨⟨0,⟨none,0,0,λ_=>⟨0,0,0,0⟩⟩⟩⟩
 obtain⟨z,q⟩:=choose_lt (α:=Od) (n:=len) (p:=λi y=>w.cell? (a.add (i*2))=some (.int .i64 y.k)/\w.cell? (a.add (i*2+1))=some (.slice y.ls.a y.ls.n y.ls.c)/\y.ls.At w) (λi hi=>by
  obtain⟨B,hc,u⟩:=hx i (by omega);obtain⟨F,c1,rfl,f,d⟩:=abs hc;obtain⟨y,rfl,rfl,e⟩:=Xx u;rw[add_add] at d;exact⟨y,f,d,e⟩)
 refine⟨⟨some a,len,cap,z⟩,rfl,v,t,λi hi => ?_⟩;have j:i<len:=hi;have r:∃v0,w.cell? a=some v0:=⟨_,by have:=(q 0 (by omega)).1;simpa[Addr.add] using this⟩;obtain⟨f,d,e⟩:=q i j;obtain⟨b,o,rfl,l,e0⟩:=Br f r;rw[Go.WideShapes.add_plain] at d;exact⟨b,o,rfl,l,e0,by rw[Nat.add_assoc];exact d,e⟩
theorem aa8{α:Type}{cs:Array α}(h:cs.size=7):∃c0 c1 c2 c3 c4 c5 c6,cs=#[c0,c1,c2,c3,c4,c5,c6]:=by
 obtain⟨l⟩:=cs
 match l,h with
 | [c0,c1,c2,c3,c4,c5,c6],_=>exact⟨c0,c1,c2,c3,c4,c5,c6,rfl⟩
theorem V6{r:Reach}{b0:Nat}{v:Value}{d:DataW H}{D:List MemPlace}(A:Value.okWide Tryz.prog w r b0 31 v)(h:DataW.Trod enc Tryz.prog w 0 spare held 31 v d D):∃s:St,v=s.val/\s.At w:=by
 obtain⟨cs,rfl,p⟩:=okWide_struct Tryz.underlying31 A;obtain⟨M,c1,c2,c3,c4,c5,c6,rfl⟩:=aa8 (p.trans Tt);obtain⟨fuel,G⟩:=h;obtain⟨F,n,_,hx,L,b,a⟩:=DataW.trod_struct Tryz.underlying31 G
 match F,b with
 | [y0,y1,y2,y3,y4,y5,y6],_ =>
  have m:=a 0 _ rfl;have f:=a 1 _ rfl;have g:=a 2 _ rfl;have e:=a 3 _ rfl;have c:=a 4 _ rfl;have j:=a 5 _ rfl;have o:=a 6 _ rfl;simp[Xu,Ss,Un,Ui,Og,Value.cells] at m f g e c j o;obtain⟨on,e0,z⟩:=Yq m;obtain⟨os,l,J⟩:=T6 f;obtain⟨hs,u,x⟩:=HoldsFrames.readHolds g;obtain⟨ms,i,K⟩:=Vw e;obtain⟨si,q,E⟩:=C0 c;obtain⟨so,t,y⟩:=C0 j;obtain⟨sf,k,B⟩:=C0 o;simp only[List.cons.injEq,and_true] at e0 l u i q t k;subst e0 l u i q t k;exact⟨⟨on,os,hs,ms,si,so,sf⟩,rfl,z,J,x,K,E,y,B⟩
end
set_option maxRecDepth 100000
theorem Zm:Tryz.prog.cellsOf 34=6:=by kernel_rfl
section
variable {H:Type} {enc:TypeId × Value->H} {w:World} {held:Bool} {spare:Nat->Bool}
theorem abt{α:Type}{cs:Array α}(h:cs.size=6):∃c0 c1 c2 c3 c4 c5,cs=#[c0,c1,c2,c3,c4,c5]:=by
 obtain⟨l⟩:=cs
 match l,h with
 | [c0,c1,c2,c3,c4,c5],_=>exact⟨c0,c1,c2,c3,c4,c5,rfl⟩
theorem aax{r:Reach}{b0:Nat}{v:Value}{d:DataW H}{A:List MemPlace}(u:Value.okWide Tryz.prog w r b0 34 v)(h:DataW.Trod enc Tryz.prog w 0 spare held 34 v d A):∃x:Ax,v=x.val/\x.ls.At w:=by
 obtain⟨cs,rfl,m⟩:=okWide_struct Tryz.underlying34 u;obtain⟨F,c1,c2,c3,c4,c5,rfl⟩:=abt (m.trans Zm);obtain⟨fuel,D⟩:=h;obtain⟨B,n,_,hx,E,b,a⟩:=DataW.trod_struct Tryz.underlying34 D
 match B,b with
 | [y0,y1,y2,y3,y4,y5],_ =>
  have l:=a 0 _ rfl;have f:=a 1 _ rfl;have g:=a 2 _ rfl;have e:=a 3 _ rfl;have c:=a 4 _ rfl;have j:=a 5 _ rfl;simp[v7,Mq,Value.cells] at l f g e c j;obtain⟨n0,e0,_⟩:=DataW.trod_int Tryz.underlying3 l;obtain⟨t,k,_⟩:=DataW.trod_int Tryz.underlying3 f;obtain⟨n2,q,_⟩:=DataW.trod_int Tryz.underlying3 g;obtain⟨z,i,_⟩:=DataW.trod_int Tryz.underlying3 e;obtain⟨y,o,_⟩:=DataW.trod_int Tryz.underlying3 c;obtain⟨ls,p,s⟩:=Oe j;simp only[List.cons.injEq,and_true] at e0 k q i o p;subst e0 k q i o p;exact⟨⟨n0,t,n2,z,y,ls⟩,rfl,s⟩
end
end Go.Proofs.YtbcacebifpagpafGreat

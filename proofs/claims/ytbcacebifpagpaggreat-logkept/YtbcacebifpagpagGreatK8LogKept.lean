/- Texts that were built one behind the other, joined; what is not reached is left out. -/
import Derived.Test.YtbcacebifpagpagGreatK7Log
import Derived.SizedLaws
import Derived.ChangeMaps5
set_option maxHeartbeats 8000000
set_option maxRecDepth 100000
set_option linter.unusedVariables false
namespace Go.Proofs.YtbcacebifpagpagGreat
variable{n b A g o l c i q j R L M:Nat}{w a d:World}{s x y u:St}{r W J D:Int}{e H:TypeId}{p:Pl}{z O:Nat->Hd}{f f':Nat->Value}{Q:Exit->Act->World->Prop}{v c1 c3 c2:Value}{xs:List Value}{U V:Hs}{X Y:Int->Int->Int}{P:Program}{h Z:Hd}{t:List UInt8}{E:Hd->Bool}{z' zs:Nat->Int}{S:World->Prop}{a1:Act}{K:Act->World->Prop}
open _root_.Go.Proofs.Tryz
open Go.RowKit Go.Shelf Go.Sort
theorem As.At.below{s:As}(h:s.At w)(d:Below w.heap.size w a):s.At a :=
 ⟨h.le,h.cap,λi hi=>by
  obtain⟨b,o,e,hc⟩:=h.cells i hi;refine⟨b,o,e,λj c => ?_⟩;rw[d.cell (p:=⟨b,o+(i*6+j),none⟩) (Ds (hc j c))];exact hc j c,λi hi=>(h.lines i hi).below d⟩
def DoU(E:Int)(T:St)(A:Nat)(u:St)(w:World):Prop:=ij E T u/\(E=0->ai A w u)
theorem DoU.below{T:St}(h:DoU r T A u w)(b:Below w.heap.size w a):DoU r T A u a:=⟨h.1,λe=>(h.2 e).below b⟩
structure Vi(E:Int)(T:St)(W:World)(dn:Nat->Bool)(V:Nat->Value)(w:World):Prop where
 bel:Below W.heap.size W w
 c3:dn 7=true->dn 6=true
 c4:dn 8=true->dn 6=true
 c7:dn 11=true->dn 6=true/\dn 10=true
 box:dn 10=true->∃B,V 10 = .pointer (some ⟨B,0,none⟩)/\W.heap.size<=B/\∃f,Blk w B 31 7 f
 got:dn 6=true->∃x:St,DoU E T W.heap.size x w/\V 6 = .tuple #[.agg #[.slice x.on.a x.on.n x.on.c,.slice x.os.a x.os.n x.os.c,.slice x.hs.a x.hs.n x.hs.c,.slice x.ms.a x.ms.n x.ms.c,.slice x.si.a x.si.n x.si.c,.slice x.so.a x.so.n x.so.c,.slice x.sf.a x.sf.n x.sf.c],.int .i64 E]/\(dn 7=true->V 7 = .tuple #[.agg #[.slice x.on.a x.on.n x.on.c,.slice x.os.a x.os.n x.os.c,.slice x.hs.a x.hs.n x.hs.c,.slice x.ms.a x.ms.n x.ms.c,.slice x.si.a x.si.n x.si.c,.slice x.so.a x.so.n x.so.c,.slice x.sf.a x.sf.n x.sf.c],.int .i64 E])/\(dn 8=true->V 8 = .agg #[.slice x.on.a x.on.n x.on.c,.slice x.os.a x.os.n x.os.c,.slice x.hs.a x.hs.n x.hs.c,.slice x.ms.a x.ms.n x.ms.c,.slice x.si.a x.si.n x.si.c,.slice x.so.a x.so.n x.so.c,.slice x.sf.a x.sf.n x.sf.c])/\(dn 11=true->∀B,V 10 = .pointer (some ⟨B,0,none⟩)->Blk w B 31 7 (λj=>x.cells.getD j default))
 n5:dn 9=true->V 9 = .int .i64 E
 n8:dn 12=true->V 12 = .int .i64 E
theorem Gw(p:Pl)(m:As)(l:List Ax)(w:World)(hp:p.At w)(h0:et p=0)(ha:m.At w)(E:m.n=l.length)(H:∀i (h:i<l.length),ru (m.z i) l[i]):
  Calls prog 11 #[p.val,m.val] w λe w'=>∃y:St,e = .returned y.val/\Fr w.heap.size w' y/\(∃s0,td p s0/\af y (jb p s0 l))/\Below w.heap.size w w':=by
 obtain⟨T,hW,X,X0,Z0,ca⟩:∃W,(w.alloc (.cells #[.slice p.ab p.nb p.cb,.slice p.sa p.ns p.cs] 25)).alloc (.cells #[.slice .none 0 0,.slice .none 0 0,.slice .none 0 0,.slice .none 0 0,.slice .none 0 0,.slice .none 0 0,.slice .none 0 0] 31)=W/\Below w.heap.size w W/\Blk W w.heap.size 25 2 (λj=>(#[.slice p.ab p.nb p.cb,.slice p.sa p.ns p.cs]:Array Value).getD j default)/\Blk W (w.heap.size+1) 31 7 (λ_ => .slice .none 0 0)/\W.heap.size=w.heap.size+2 :=
  ⟨_,rfl,ix _ _ _,(Blk.mk' rfl rfl).alloc _,(Blk.mk' (cur:=#[.slice .none 0 0,.slice .none 0 0,.slice .none 0 0,.slice .none 0 0,.slice .none 0 0,.slice .none 0 0,.slice .none 0 0]) (by simp) rfl).congr (λj hj=>by match j,hj with|0,_=>rfl|1,_=>rfl|2,_=>rfl|3,_=>rfl|4,_=>rfl|5,_=>rfl|6,_=>rfl),by simp⟩
 have HC:Hid (∀r,Below T.heap.size T r->Blk r w.heap.size 25 2 (λj=>(#[.slice p.ab p.nb p.cb,.slice p.sa p.ns p.cs]:Array Value).getD j default)/\Blk r (w.heap.size+1) 31 7 (λ_ => .slice .none 0 0)/\p.At r/\m.At r/\Below w.heap.size w r):=λr h=>⟨X0.below h,Z0.below h,(hp.below X).below h,(ha.below X).below h,X.trans (h.mono X.size)⟩;have HW:Hid ((w.alloc (.cells #[.slice p.ab p.nb p.cb,.slice p.sa p.ns p.cs] 25)).alloc (.cells #[.slice .none 0 0,.slice .none 0 0,.slice .none 0 0,.slice .none 0 0,.slice .none 0 0,.slice .none 0 0,.slice .none 0 0] 31)=T):=hW;have ci:=hid ca;have ag:=qa2 h0 (hp.below X);have HA:=qa2 E H;have eq:=ha.le;have cp:=ha.cap;unfold maxLen at cp;clear hW X X0 Z0 hp ca h0 ha E H;unfold Pl.val As.val;go_enter func11,ntmps11;go_wp2_with fail;rw[HW.out];refine(Ks p T ag.out.2 ag.out.1).mono ?_;rintro e w1 ⟨s,rfl,cc,bf,hB⟩;obtain⟨W2,b4,Q,KS⟩:=ab7 w1 s;have b7:=hid b4;have b6:=hid (hB.trans (Q.mono hB.size));have b5:Hid (Fr T.heap.size W2 s):=cc.below Q;have ce:=hid KS;have dx:=hid bf;have db:Hid (∀j,ar p (jb p s (l.take j))):=λj=>wn _ (dp (qd ag.out.1 bf));have de:=hid hB.size;clear b4 Q KS cc bf HW ag hB;simp only[St.val];go_wp2_with fail;rw[b7.out];clear b7
 generalize w1.heap.size=S at *
 go_loopw [6] (λjv r=>∃(j:Nat) (y:St) (n:Nat),j<=m.n/\jv = .int .i64 j/\Hid (Blk r S 31 7 (λj=>y.cells.getD j default)/\Fr n r y/\T.heap.size<=n/\af y (jb p s (l.take j))/\Below T.heap.size T r)) (λjv _=>m.n-(intOf jv).toNat)
 case atStart=>exact⟨0,s,T.heap.size,Qxz _,rfl,ce.out,b5.out,Nat.le_refl _,af.self _,b6.out⟩
 rename_i u0;obtain⟨j,y,n,hj,rfl,F⟩:=hrel;clear ce b5 b6;obtain⟨hP,H,ax,aj,am⟩:=HC.out wr F.out.2.2.2.2;have d0:wr.cell? ⟨w.heap.size,0,none⟩=some (.slice p.ab p.nb p.cb):=hP.k 0;have d1:wr.cell? ⟨w.heap.size,1,none⟩=some (.slice p.sa p.ns p.cs):=hP.k 1;have dl:=hP.lt;obtain⟨m1,p0,p1,p2,p3,p4,p5,p6⟩:=Boxed.of F.out.1;by_cases bh:j<m.n;rotate_left
 .have q1:¬(j:Int)<(m.n:Int):=by omega
  have dh:j=m.n:=by omega
  subst dh;obtain⟨zl,au,a7,ay,zc1,a8,zc2,bk,zc3,a6,zc4,an,zc5,ao,a0⟩:=z7 H;have d6:Hid (Fr w.heap.size (set7 wr (w.heap.size+1) (.slice y.on.a y.on.n y.on.c) (.slice y.os.a y.os.n y.os.c) (.slice y.hs.a y.hs.n y.hs.c) (.slice y.ms.a y.ms.n y.ms.c) (.slice y.si.a y.si.n y.si.c) (.slice y.so.a y.so.n y.so.c) (.slice y.sf.a y.sf.n y.sf.c)) y/\Below w.heap.size w (set7 wr (w.heap.size+1) (.slice y.on.a y.on.n y.on.c) (.slice y.os.a y.os.n y.os.c) (.slice y.hs.a y.hs.n y.hs.c) (.slice y.ms.a y.ms.n y.ms.c) (.slice y.si.a y.si.n y.si.c) (.slice y.so.a y.so.n y.so.c) (.slice y.sf.a y.sf.n y.sf.c))):=⟨(F.out.2.1.set7 (by have:=ci.out;have:=F.out.2.2.1;omega) (.slice y.on.a y.on.n y.on.c) (.slice y.os.a y.os.n y.os.c) (.slice y.hs.a y.hs.n y.hs.c) (.slice y.ms.a y.ms.n y.ms.c) (.slice y.si.a y.si.n y.si.c) (.slice y.so.a y.so.n y.so.c) (.slice y.sf.a y.sf.n y.sf.c)).less (by have:=ci.out;have:=F.out.2.2.1;omega),s7w am (by omega) y⟩;have dv:Hid (Blk (set7 wr (w.heap.size+1) (.slice y.on.a y.on.n y.on.c) (.slice y.os.a y.os.n y.os.c) (.slice y.hs.a y.hs.n y.hs.c) (.slice y.ms.a y.ms.n y.ms.c) (.slice y.si.a y.si.n y.si.c) (.slice y.so.a y.so.n y.so.c) (.slice y.sf.a y.sf.n y.sf.c)) (w.heap.size+1) 31 7 (λj=>(#[.slice y.on.a y.on.n y.on.c,.slice y.os.a y.os.n y.os.c,.slice y.hs.a y.hs.n y.hs.c,.slice y.ms.a y.ms.n y.ms.c,.slice y.si.a y.si.n y.si.c,.slice y.so.a y.so.n y.so.c,.slice y.sf.a y.sf.n y.sf.c]:Array Value).getD j default)):=s7b H y;have bd:Hid (af y (jb p s l)):=by
   have h:=F.out.2.2.2.1;rw[HA.out.1,List.take_length] at h;exact h
  clear H hP ax am F aj;go_wp2_with fail;have KZ:=dv.out;have HF:=d6.out;unfold set7 at KZ HF;obtain⟨ee,dw,dk,d9,cv,d7,ef⟩:=df KZ;refine Xzq (v:=y.val) (by simp[results,results11,go_sem,St.val,ee,dw,dk,d9,cv,d7,ef]) rfl ?_;exact⟨y,rfl,HF.1,⟨s,dx.out,bd.out⟩,HF.2⟩
 have q0:(0:Int)<=(j:Int):=by omega
 have q1:(j:Int)<(m.n:Int):=by omega
 have cd:j<l.length:=by rw[<-HA.out.1];exact bh
 obtain⟨xb,xo,cg,x0,x1,x2,x3,x4,x5⟩:=aj.six bh;have xl:=Ds x0;have b8:Hid ((m.z j).ls.At wr):=aj.lines j bh;have dm:Hid (ru (m.z j) (l[j]'cd)):=HA.out.2 j cd;have dd:Hid (jb p s (l.take (j+1))=ut p (jb p s (l.take j)) (l[j]'cd)):=Mm cd
 generalize hxe:m.z j=x at *
 generalize (l[j]'cd)=x' at *
 have be:=qa3 ax F.out.2.1.at b8.out;clear H hP ax am hxe aj b8;rw[cg];clear cg;have c9:=Qqq d0;have c6:=Qqq d1;have dc:=Qqq p0;have dt:=Qqq p1;have d3:=Qqq p2;have d5:=Qqq p3;have cx:=Qqq p4;have ei:=Qqq p5;have dr:=Qqq p6;have da:=Qqq x0;have dz:=Qqq x1;have eb:=Qqq x2;have d4:=Qqq x3;have c8:=Qqq x4;have d2:=Qqq x5;go_wp2_with fail;refine Bl (λw'=>∃p:Regrown,w'=grow (redrawn wr p.d) p.os) [0,1,2,3,4,5] [6,7,8,9,10,11,12] (by kernel_rfl) (by kernel_rfl) (by kernel_rfl) (by kernel_rfl) (by kernel_rfl) (by kernel_rfl) (by kernel_rfl) (by kernel_rfl) (Qqx (brf.drew)) ?_;simp only[du,Qyq,Xqq,Qyx,Qyz,Xqz,Xqx]
 repeat(go_big_quiet_step(fail))
 refine Qqz ?_;clear c9 c6 dc dt d3 d5 cx ei dr da dz eb d4 c8 d2 d0 d1 p0 p1 p2 p3 p4 p5 p6 x0 x1 x2 x3 x4 x5 m1 dl xl;refine⟨Vi (doE p y x) (doT p y x) wr,λD V w L hd => ?zinit,Qjx ⟨?zp6,Qjx ⟨?zp7,Qjx ⟨?zp8,Qjx ⟨?zp9,Qjx ⟨?zp10,Qjx ⟨?zp11,Qjx ⟨?zp12,Qjq _⟩⟩⟩⟩⟩⟩⟩,?zdone⟩
 case zinit =>
  have f:∀j,j∈[6,7,8,9,10,11,12]->¬D j=true:=λj hj h=>by rw[hd j hj] at h;cases h
  exact⟨ae L,λh=>absurd h (f 7 (by simp)),λh=>absurd h (f 8 (by simp)),λh=>absurd h (f 11 (by simp)),λh=>absurd h (f 10 (by simp)),λh=>absurd h (f 6 (by simp)),λh=>absurd h (f 9 (by simp)),λh=>absurd h (f 12 (by simp))⟩
 case zp6 =>
  intro D V r K L E hd g A;have o:=hid g;have q:=g.bel.size;have di:Hid (_):=Lv p y x r (be.out.1.below g.bel) (be.out.2.1.below g.bel) (be.out.2.2.below g.bel);clear g;have f3:¬D 7=true:=λh=>by rw[o.out.c3 h] at E;cases E
  have f4:¬D 8=true:=λh=>by rw[o.out.c4 h] at E;cases E
  have f7:¬D 11=true:=λh=>by rw[(o.out.c7 h).1] at E;cases E
  refine aq 6 rfl ?_;simp only[ap,az,Qvz,Qwq,Qvx,Act.put,Qvq,Qwx,Qwz] at A ⊢;go_wp2_with fail;refine Calls.mono di.out ?_;rintro e wj ⟨u,rfl,ct,b9,a9,Q⟩;have t:Hid (DoU (doE p y x) (doT p y x) wr.heap.size u wj):=⟨b9,λh=>(a9 h).mono q⟩;clear ct b9 a9;simp only[St.val];go_wp2_with fail;have g:=o.out;refine A _ _ (Qqx (g.bel.trans (Q.mono q))) ⟨g.bel.trans (Q.mono q),λ_=>rfl,λ_=>rfl,λh=>absurd h f7,λh7 => ?_,λ_=>⟨u,t.out,rfl,λh=>absurd h f3,λh=>absurd h f4,λh=>absurd h f7⟩,g.n5,g.n8⟩;obtain⟨B,b1,b2,f,b3⟩:=g.box h7;exact⟨B,b1,b2,f,b3.below Q⟩
 case zp7 =>
  intro D V r K L E hd g A;have U:D 6=true:=hd 6 (Qjz (by kernel_rfl)) (by simp);obtain⟨u,a1,J,G,M,P⟩:=g.got U;have o:=hid g;have t:=qa4 a1 J M P;clear g a1 G M P;refine aq 7 rfl ?_;simp only[ap,az,Qvz,Qwq,Qvx,Act.put,Qvq,Qwx,Qwz,J] at A ⊢;go_wp2_with fail;have g:=o.out;exact A _ _ L ⟨g.bel,λ_=>U,g.c4,g.c7,g.box,λ_=>⟨u,t.out.1,t.out.2.1,λ_=>rfl,t.out.2.2.1,t.out.2.2.2⟩,g.n5,g.n8⟩
 case zp8 =>
  intro D V r K L E hd g A;have h3:D 7=true:=hd 7 (Qjz (by kernel_rfl)) (by simp);have U:=g.c3 h3;obtain⟨u,a1,J,G,M,P⟩:=g.got U;have bj:=G h3;have o:=hid g;have t:=qa4 a1 J G P;clear g a1 J G M P;refine aq 8 rfl ?_;simp only[ap,az,Qvz,Qwq,Qvx,Act.put,Qvq,Qwx,Qwz,bj] at A ⊢;go_wp2_with fail;have g:=o.out;exact A _ _ L ⟨g.bel,g.c3,λ_=>U,g.c7,g.box,λ_=>⟨u,t.out.1,t.out.2.1,t.out.2.2.1,λ_=>rfl,t.out.2.2.2⟩,g.n5,g.n8⟩
 case zp9 =>
  intro D V r K L E hd g A;have h3:D 7=true:=hd 7 (Qjz (by kernel_rfl)) (by simp);obtain⟨u,a1,J,G,M,P⟩:=g.got (g.c3 h3);have bj:=G h3;have o:=hid g;clear g a1 J G M P;refine aq 9 rfl ?_;simp only[ap,az,Qvz,Qwq,Qvx,Act.put,Qvq,Qwx,Qwz,bj] at A ⊢;go_wp2_with fail;have g:=o.out;exact A _ _ L ⟨g.bel,g.c3,g.c4,g.c7,g.box,g.got,λ_=>rfl,g.n8⟩
 case zp10 =>
  intro D V r K L E hd g A;have o:=hid g;have q:=g.bel.size;clear g;refine aq 10 rfl ?_;simp only[ap,az,Qvz,Qwq,Qvx,Act.put,Qvq,Qwx,Qwz] at A ⊢;go_wp2_with fail;have g:=o.out;have bb:=(Below.refl r.heap.size r).alloc nlr (.cells #[.slice .none 0 0,.slice .none 0 0,.slice .none 0 0,.slice .none 0 0,.slice .none 0 0,.slice .none 0 0,.slice .none 0 0] 31);have f7:¬D 11=true:=λh=>by rw[(g.c7 h).2] at E;cases E
  refine A _ _ (Qqx (g.bel.trans (bb.mono q))) ⟨g.bel.trans (bb.mono q),g.c3,g.c4,λh=>absurd h f7,λ_=>⟨r.heap.size,rfl,q,_,Blk.mk' rfl rfl⟩,λU => ?_,g.n5,g.n8⟩;obtain⟨u,a1,J,G,M,P⟩:=g.got U;exact⟨u,a1.below bb,J,G,M,λh=>absurd h f7⟩
 case zp11 =>
  intro D V r K L E hd g A;have h7:D 10=true:=hd 10 (Qjz (by kernel_rfl)) (by simp);have h4:D 8=true:=hd 8 (Qjz (by kernel_rfl)) (by simp);have U:=g.c4 h4;obtain⟨B,ac,av,f,aa⟩:=g.box h7;obtain⟨u,a1,J,G,M,P⟩:=g.got U;have ah:=M h4;have o:=hid g;have t:=qa5 a1 J G aa ac;have H:=aa;obtain⟨zl,au,a7,ay,zc1,a8,zc2,bk,zc3,a6,zc4,an,zc5,ao,a0⟩:=z7 H;clear g a1 J G M P H aa;refine aq 11 rfl ?_;simp only[ap,az,Qvz,Qwq,Qvx,Act.put,Qvq,Qwx,Qwz,ah,ac] at A ⊢;go_wp2_with fail;have g:=o.out;have KZ:=s7b t.out.2.2.2.1 u;have bg:=s7w (b:=B) g.bel av u;have ch:DoU (doE p y x) (doT p y x) wr.heap.size u (set7 r B (.slice u.on.a u.on.n u.on.c) (.slice u.os.a u.os.n u.os.c) (.slice u.hs.a u.hs.n u.hs.c) (.slice u.ms.a u.ms.n u.ms.c) (.slice u.si.a u.si.n u.si.c) (.slice u.so.a u.so.n u.so.c) (.slice u.sf.a u.sf.n u.sf.c)):=⟨t.out.1.1,λe=>(t.out.1.2 e).set7 t.out.2.2.2.1 (.slice u.on.a u.on.n u.on.c) (.slice u.os.a u.os.n u.os.c) (.slice u.hs.a u.hs.n u.hs.c) (.slice u.ms.a u.ms.n u.ms.c) (.slice u.si.a u.si.n u.si.c) (.slice u.so.a u.so.n u.so.c) (.slice u.sf.a u.sf.n u.sf.c)⟩;unfold set7 at KZ bg ch;refine A undef _ (Qqx bg) ⟨bg,g.c3,g.c4,λ_=>⟨U,h7⟩,λ_=>⟨B,t.out.2.2.2.2,av,_,KZ⟩,λ_=>⟨u,ch,t.out.2.1,t.out.2.2.1,λ_=>ah,λ_ B' ec => ?_⟩,g.n5,g.n8⟩;have e:V 10 = .pointer (some ⟨B',0,none⟩):=ec;rw[t.out.2.2.2.2] at e;simp only[Value.pointer.injEq,Qkx,Qkz,and_true] at e;subst e;exact KZ.congr (λj hj=>by match j,hj with|0,_=>rfl|1,_=>rfl|2,_=>rfl|3,_=>rfl|4,_=>rfl|5,_=>rfl|6,_=>rfl)
 case zp12 =>
  intro D V r K L E hd g A;have ah:=g.n5 (hd 9 (Qjz (by kernel_rfl)) (by simp));have o:=hid g;clear g;refine aq 12 rfl ?_;simp only[ap,az,Qvz,Qwq,Qvx,Act.put,Qvq,Qwx,Qwz,ah] at A ⊢;go_wp2_with fail;have g:=o.out;exact A _ _ L ⟨g.bel,g.c3,g.c4,g.c7,g.box,g.got,g.n5,λ_=>rfl⟩
 intro D V WA L hd g;refine NoPanic.normal ?_;obtain⟨B,ac,av,f,aa⟩:=g.box (hd 10 (by simp));obtain⟨u,hR,J,G,M,P⟩:=g.got (hd 6 (by simp));have ed:=g.n8 (hd 12 (by simp));have KX:=P (hd 11 (by simp)) B ac;have bc:=hid g.bel;have aw:=hid hR;have b0:=hid KX;clear g J G M P aa hd L hR KX;simp only[ap,az,Qvz,Qwq,Qvx,Act.put,Qvq,Qwx,Qwz,ac,ed];have HU:Hid ((doE p y x=0->af u (jb p s (l.take (j+1))))/\(¬doE p y x=0->af y (jb p s (l.take (j+1))))):=by
  have:=Me (db.out j) F.out.2.2.2.1 dm.out aw.out.1;rw[<-dd.out] at this;exact this
 have Y:=qa3 (F.out.1.below bc.out) (F.out.2.1.below bc.out) (F.out.2.2.2.2.trans (bc.out.mono F.out.2.2.2.2.size));have cf:=qa2 F.out.2.2.2.2.size F.out.2.2.1;clear F;by_cases hE:doE p y x=0
 .have c1:Hid (af u (jb p s (l.take (j+1)))):=HU.out.1 hE;have cj:Hid (ai wr.heap.size WA u):=aw.out.2 hE;rw[hE];have H:=Y.out.1;obtain⟨zl,au,a7,ay,zc1,a8,zc2,bk,zc3,a6,zc4,an,zc5,ao,a0⟩:=z7 H;obtain⟨m1,p0,p1,p2,p3,p4,p5,p6⟩:=Boxed.of b0.out;have HN:Blk (set7 WA S (.slice u.on.a u.on.n u.on.c) (.slice u.os.a u.os.n u.os.c) (.slice u.hs.a u.hs.n u.hs.c) (.slice u.ms.a u.ms.n u.ms.c) (.slice u.si.a u.si.n u.si.c) (.slice u.so.a u.so.n u.so.c) (.slice u.sf.a u.sf.n u.sf.c)) S 31 7 (λj=>u.cells.getD j default)/\Fr wr.heap.size (set7 WA S (.slice u.on.a u.on.n u.on.c) (.slice u.os.a u.os.n u.os.c) (.slice u.hs.a u.hs.n u.hs.c) (.slice u.ms.a u.ms.n u.ms.c) (.slice u.si.a u.si.n u.si.c) (.slice u.so.a u.so.n u.so.c) (.slice u.sf.a u.sf.n u.sf.c)) u/\Below T.heap.size T (set7 WA S (.slice u.on.a u.on.n u.on.c) (.slice u.os.a u.os.n u.os.c) (.slice u.hs.a u.hs.n u.hs.c) (.slice u.ms.a u.ms.n u.ms.c) (.slice u.si.a u.si.n u.si.c) (.slice u.so.a u.so.n u.so.c) (.slice u.sf.a u.sf.n u.sf.c)):=⟨s7b H u,(cj.out.set7 H (.slice u.on.a u.on.n u.on.c) (.slice u.os.a u.os.n u.os.c) (.slice u.hs.a u.hs.n u.hs.c) (.slice u.ms.a u.ms.n u.ms.c) (.slice u.si.a u.si.n u.si.c) (.slice u.so.a u.so.n u.so.c) (.slice u.sf.a u.sf.n u.sf.c)).fr,s7w Y.out.2.2 de.out u⟩;unfold set7 at HN;have bl:Hid (_/\_/\_):=HN;clear HN hE H HU Y cj;go_wp2_with fail;clear zl au a7 ay zc1 a8 zc2 bk zc3 a6 zc4 an zc5 ao a0 m1 p0 p1 p2 p3 p4 p5 p6;go_roundw
  case rel=>exact⟨j+1,u,wr.heap.size,by omega,by go_num,bl.out.1,bl.out.2.1,cf.out.1,c1.out,bl.out.2.2⟩
  case measure=>simp[intOf];omega
 have bd:Hid (af y (jb p s (l.take (j+1)))):=HU.out.2 hE;have gE:(doE p y x==0)=false:=by simpa using hE
 clear hE HU b0 aw
 generalize doE p y x=EE at *
 go_wp2_with fail;go_roundw
 case rel=>exact⟨j+1,y,n,by omega,by go_num,Y.out.1,Y.out.2.1,cf.out.2,bd.out,Y.out.2.2⟩
 case measure=>simp[intOf];omega
end Go.Proofs.YtbcacebifpagpagGreat
namespace Go.Proofs.YtbcacebifpagpagGreat
variable{n b A g o l c i q j R L M:Nat}{w a d:World}{s x y u:St}{r W J D:Int}{e H:TypeId}{p:Pl}{z O:Nat->Hd}{f f':Nat->Value}{Q:Exit->Act->World->Prop}{v c1 c3 c2:Value}{xs:List Value}{U V:Hs}{X Y:Int->Int->Int}{P:Program}{h Z:Hd}{t:List UInt8}{E:Hd->Bool}{z' zs:Nat->Int}{S:World->Prop}{a1:Act}{K:Act->World->Prop}
open _root_.Go.Proofs.Tryz
open Go.ChangeShapes Go.WideShapes Go.ChangeAt Go.RowKit Go.ChangeMaps
set_option maxRecDepth 100000
section
variable {H:Type} {enc:TypeId × Value->H} {w:World} {spare:Nat->Bool} {held:Bool}
theorem I5:prog.bytesOf 59=32:=by kernel_rfl
theorem Jo{fuel:Nat}{x:DataW H × List MemPlace}(h:DataW.trod enc prog w 0 spare held fuel 45 xs=some x)(c:∀n∈x.1.weights prog 45,n<=reachBytes){s:Hs}(hs:xs=[s.val]):s.n<=8796093022208:=by
 rcases DataW.trod_slice underlying45 h with⟨rfl,_⟩|⟨a,len,cap,b,rest,n,_,rfl,rfl,_,_,_,d,_⟩
 .simp only[Hs.val,List.cons.injEq,Value.slice.injEq,and_true] at hs;omega
 simp only[Hs.val,List.cons.injEq,Value.slice.injEq,and_true] at hs;have:=c ((b.length+rest.length)*prog.bytesOf 59) (by simp[DataW.weights,underlying45]);rw[I5] at this;have e:reachBytes=140737488351232:=rfl;omega
theorem S4{r:Reach}{d:DataW H}{a:List MemPlace}(b:Value.okWide prog w r n 9 v)(h:DataW.Trod enc prog w 0 spare held 9 v d a):∃t:List UInt8,v = .string ⟨t.toArray⟩:=by
 obtain⟨s,rfl,_⟩:=open_string underlying9 b h;exact⟨s.data.toList,by simp⟩
end
end Go.Proofs.YtbcacebifpagpagGreat
namespace Go.Proofs.YtbcacebifpagpagGreat
variable{n b A g o l c i q j R L M:Nat}{w a d:World}{s x y u:St}{r W J D:Int}{e H:TypeId}{p:Pl}{z O:Nat->Hd}{f f':Nat->Value}{Q:Exit->Act->World->Prop}{v c1 c3 c2:Value}{xs:List Value}{U V:Hs}{X Y:Int->Int->Int}{P:Program}{h Z:Hd}{t:List UInt8}{E:Hd->Bool}{z' zs:Nat->Int}{S:World->Prop}{a1:Act}{K:Act->World->Prop}
open _root_.Go.Proofs.Tryz
open Go.RowKit
theorem Ib:∀{xs:List Ax},(∀x∈xs,mm x=0)->(dy xs).length<=18*xs.length
 | [],_=>Nat.le_refl _
 | x :: xs,h=>by
  have a:=Ib (λy d=>h y (List.mem_cons_of_mem _ d));have b:=Dq x;have c:=(Cs (h x (List.mem_cons_self ..))).2;have e:dy (x :: xs)=lj x++dy xs:=rfl;rw[e,List.length_append,List.length_cons];omega
theorem aa8{xs:List Ax}(hx:∀x∈xs,mm x=0)(t:xs.length<=24){K m:Nat}(s:m<=xs.length)(k:(dy (xs.take m)).length<=K)(p:m<xs.length->K<(dy (xs.take (m+1))).length):z5 (nf ((dy xs).take K)) (xs.take m)/\tt ((dy xs).take K)=0:=by
 have q:((dy xs).take K).length<=4096:=by
  have:=Ib hx;rw[List.length_take];omega
 have i:tt ((dy xs).take K)=0:=if_neg (by omega);refine⟨?_,i⟩;have e0:nf ((dy xs).take K)=(sk ((dy xs).take K) 60 0).1:=if_neg (by omega);have o:dy xs=dy (xs.take m)++dy (xs.drop m):=by rw[<-Dr,List.take_append_drop]
 have j:(dy xs).take K=dy (xs.take m)++(dy (xs.drop m)).take (K-(dy (xs.take m)).length):=by
  rw[o,List.take_append];rw[List.take_of_length_le k]
 have a:(xs.take m).length=m:=by rw[List.length_take];omega
 obtain⟨ys,hs,b⟩:=Lm ((dy (xs.drop m)).take (K-(dy (xs.take m)).length)) (xs.take m) (λx c=>hx x (List.mem_of_mem_take c)) (60-m);rw[a,show m+(60-m)=60 by omega,<-j] at b;have h:mg ((dy (xs.drop m)).take (K-(dy (xs.take m)).length)) 0=false:=by
  cases hd:xs.drop m with
  | nil =>
   have:(dy ([]:List Ax)).take (K-(dy (xs.take m)).length)=[]:=by simp[dy]
   rw[this]
   rfl
  | cons x r =>
   have d:m<xs.length:=by
    have:=congrArg List.length hd;rw[List.length_drop,List.length_cons] at this;omega
   have n:xs.take (m+1)=xs.take m++[x]:=by
    have:xs[m]?=some x:=by
     have:=congrArg (λl=>l[0]?) hd
     simpa using this
    rw[List.take_add_one,this]
    rfl
   have e:=p d;rw[n,Dr,List.length_append] at e;have f:dy [x]=lj x:=by simp[dy]
   rw[f] at e;have g:dy (x :: r)=lj x++dy r:=rfl;rw[g,List.take_append_of_le_length (by omega)];exact adk (hx x (by
    have:x∈xs.drop m:=by rw[hd];exact List.mem_cons_self ..
    exact List.mem_of_mem_drop this)) (by omega)
 rw[Km h,List.append_nil] at b;rw[e0,b];exact hs
def Aj(c:Int)(n:Nat):Nat:=((if c<0 then -(c+1) else c)%(n:Int)).toNat
theorem Kw{c:Int}(h:¬c<0)(a:1<=n):c%(n:Int)=((Aj c n:Nat):Int):=by
 unfold Aj;rw[if_neg h];have:=Int.emod_nonneg c (b:=(n:Int)) (by omega);omega
theorem Kv{c:Int}(h:c<0)(a:1<=n):(-(c+1))%(n:Int)=((Aj c n:Nat):Int):=by
 unfold Aj;rw[if_pos h];have:=Int.emod_nonneg (-(c+1)) (b:=(n:Int)) (by omega);omega
theorem V4(c:Int)(a:1<=n):Aj c n<n:=by
 by_cases h:c<0
 .have:=Kv h a;have:=Int.emod_lt_of_pos (-(c+1)) (b:=(n:Int)) (by omega);omega
 have:=Kw h a;have:=Int.emod_lt_of_pos c (b:=(n:Int)) (by omega);omega
theorem V5(c:Int)(n:Nat)(w:World)(hc : -9223372036854775808<=c/\c<=9223372036854775807)(b:1<=n)(g:n<=1000):
  Calls prog 15 #[.int .i64 c,.int .i64 n] w λe d=>e = .returned (.int .i64 (Aj c n:Nat))/\d=w:=by
 by_cases h:c<0
 .have a:=Kv h b;have q:(0:Int) <= -(c+1):=by omega
  have f:¬(n:Int)=0:=by omega
  go_enter func15,ntmps15
  go_wp2
  go_ret;exact⟨by rw[<-a,<-Int.tmod_eq_emod_of_nonneg q,Int.neg_tmod];rfl,rfl⟩
 have a:=Kw h b;have f:¬(n:Int)=0:=by omega
 have q:(0:Int)<=c:=by omega
 go_enter func15,ntmps15
 go_wp2
 go_ret;exact⟨by simp[<-a],rfl⟩
open Go.Shelf Go.Sort
theorem As.At.less{s:As}(h:s.At w){m:Nat}(b:m<=s.n):As.At w ⟨s.a,m,s.c,s.z⟩:=⟨Qzx b h.le,h.cap,λi hi=>h.cells i (Xzx hi b),λi hi=>h.lines i (Xzx hi b)⟩
def pre(z:Nat->Ax)(k:Nat):List Ax:=(List.range k).map z
theorem abf(z:Nat->Ax)(k:Nat):pre z (k+1)=pre z k++[z k]:=by simp[pre,List.range_succ]
theorem Dz(z:Nat->Ax)(k:Nat):(pre z k).length=k:=by simp[pre]
theorem Md(z:Nat->Ax){k:Nat}(h:k<=n):(pre z n).take k=pre z k:=by
 unfold pre;rw[<-List.map_take,List.take_range,Nat.min_eq_left h]
def zo(z:Nat->Ax)(i:Nat):Nat:=(dy (pre z (i+1))).length
theorem Uw(z:Nat->Ax)(k:Nat):dy (pre z (k+1))=dy (pre z k)++lj (z k):=by
 rw[abf,Dr];simp[dy]
theorem Zt{z:Nat->Ax}{k:Nat}(h:∀i,i<k->mm (z i)=0):(dy (pre z k)).length<=18*k:=by
 have:=Ib (xs:=pre z k) (λx hx=>by
  obtain⟨i,hi,rfl⟩:=List.mem_map.1 hx;exact h i (List.mem_range.1 hi))
 rw[Dz] at this;exact this
structure Eu(acts:As)(W0:World)(k:Nat)(v:Value)(wk:World):Prop where
 ok:∀i,i<k->mm (acts.z i)=0
 own:wk.ownsRow W0.heap.size 3 1 v k ((List.range k).map λi=>Value.int .i64 (zo acts.z i:Int))
 bel:Below W0.heap.size W0 wk
theorem Eu.below{a:As}{e:World}{k:Nat}{b:World}(h:Eu a e k v b)(c:Below b.heap.size b d):Eu a e k v d:=⟨h.ok,j6 h.own c,h.bel.trans (c.mono h.bel.size)⟩
def FrM(n m:Nat)(w:World)(x:St):Prop:=m<=w.heap.size/\∀w'':World,m<=w''.heap.size->(∀g,n<=g->g<m->w''.heap[g]?=w.heap[g]?)->x.At w''
theorem Fr.m(h:Fr n w x):FrM n w.heap.size w x:=⟨Nat.le_refl _,h⟩
theorem FrM.at{m:Nat}(h:FrM n m w x):x.At w:=h.2 w h.1 λ_ _ _=>rfl
theorem FrM.below{m:Nat}(h:FrM n m w x)(c:Below w.heap.size w a):FrM n m a x:=⟨Qzx h.1 c.size,λd i f=>h.2 d i λg e b=>(f g e b).trans (c.block g (Xzx b h.1))⟩
theorem FrM.set{m B:Nat}(h:FrM n m w x)(f:B<n\/m<=B)(v:Value):FrM n m (w.setCell ⟨B,j,none⟩ v) x:=⟨by simpa using h.1,λa e d=>h.2 a e λg b c=>(d g b c).trans (Below.heap_setCell w ⟨B,j,none⟩ v g (by show g≠B;omega))⟩
theorem FrM.set7{m B:Nat}(h:FrM n m w x)(a:B<n\/m<=B)(i f c b e d g:Value):FrM n m (Go.Proofs.YtbcacebifpagpagGreat.set7 w B i f c b e d g) x:=((((((h.set a i).set a f).set a c).set a b).set a e).set a d).set a g
structure adq(p:Pl)(t:List UInt8)(W:World)(dn:Nat->Bool)(V:Nat->Value)(w:World):Prop where
 bel:Below W.heap.size W w
 c3:dn 5=true->dn 4=true
 c4:dn 6=true->dn 4=true
 c7:dn 10=true->dn 4=true/\dn 9=true
 box:dn 9=true->∃B,V 9 = .pointer (some ⟨B,0,none⟩)/\W.heap.size<=B/\∃f,Blk w B 31 7 f
 got:dn 4=true->∃x:St,(Es p t x/\∃n m,FrM n m w x/\(dn 9=true->∀B,V 9 = .pointer (some ⟨B,0,none⟩)->B<n\/m<=B))/\V 4 = .tuple #[.agg #[.slice x.on.a x.on.n x.on.c,.slice x.os.a x.os.n x.os.c,.slice x.hs.a x.hs.n x.hs.c,.slice x.ms.a x.ms.n x.ms.c,.slice x.si.a x.si.n x.si.c,.slice x.so.a x.so.n x.so.c,.slice x.sf.a x.sf.n x.sf.c],.int .i64 (zq p t:Int),.int .i64 (pu p t)]/\(dn 5=true->V 5 = .tuple #[.agg #[.slice x.on.a x.on.n x.on.c,.slice x.os.a x.os.n x.os.c,.slice x.hs.a x.hs.n x.hs.c,.slice x.ms.a x.ms.n x.ms.c,.slice x.si.a x.si.n x.si.c,.slice x.so.a x.so.n x.so.c,.slice x.sf.a x.sf.n x.sf.c],.int .i64 (zq p t:Int),.int .i64 (pu p t)])/\(dn 6=true->V 6 = .agg #[.slice x.on.a x.on.n x.on.c,.slice x.os.a x.os.n x.os.c,.slice x.hs.a x.hs.n x.hs.c,.slice x.ms.a x.ms.n x.ms.c,.slice x.si.a x.si.n x.si.c,.slice x.so.a x.so.n x.so.c,.slice x.sf.a x.sf.n x.sf.c])/\(dn 10=true->∀B,V 9 = .pointer (some ⟨B,0,none⟩)->Blk w B 31 7 (λj=>x.cells.getD j default))
 n7:dn 7=true->V 7 = .int .i64 (zq p t:Int)
 n8:dn 8=true->V 8 = .int .i64 (pu p t)
 n11:dn 11=true->V 11 = .int .i64 (zq p t:Int)
 n12:dn 12=true->V 12 = .int .i64 (pu p t)
theorem Z9{k:Nat}(h:k<=t.length):(⟨t.toArray⟩:ByteArray).extract 0 k=⟨(t.take k).toArray⟩:=by
 apply ByteArray.ext
 simp only[ByteArray.data_extract,List.extract_toArray,List.extract_eq_take_drop,Xqq,Nat.sub_zero]
theorem aa7{a:As}{T:List UInt8}{K m:Nat}(f:et p=0)(k:dy (pre a.z a.n)=T)(s:a.n<=24)(e:∀i,i<a.n->mm (a.z i)=0)(c:m<=a.n)(o:∀i,i<m->zo a.z i<=K)(r:m<a.n->K<zo a.z m)(g:Es p (T.take K) u):pu p (T.take K)=0/\zq p (T.take K)=m/\∃s0,td p s0/\af u (jb p s0 (pre a.z m)):=by
 have b:=aa8 (xs:=pre a.z a.n) (K:=K) (m:=m) (λx hx=>by
  obtain⟨i,hi,rfl⟩:=List.mem_map.1 hx;exact e i (List.mem_range.1 hi)) (by rw[Dz];exact s) (by rw[Dz];exact c) (by
  rw[Md _ c];cases m with
  | zero=>exact Qxz _
  | succ j=>exact o j (Nat.lt_succ_self j)) (λh=>by
  rw[Dz] at h;rw[Md _ h];exact r h)
 rw[k,Md _ c] at b;have d:pu p (T.take K)=0:=by unfold pu;rw[if_pos f];exact b.2
 have l:zq p (T.take K)=m:=by
  unfold zq;rw[if_pos d,b.1.len,Dz]
 obtain⟨s0,b0,q⟩:=g.1 d;exact⟨d,l,s0,b0,q.trans (Az (dp (qd f b0)) (af.self _) b.1)⟩
theorem Ro(p:Pl)(o:As)(cut:Int)(w:World)(hp:p.At w)(ha:o.At w)(cz:∀i,i<o.n->(o.z i).ls.n<=8796093022208)(hc : -9223372036854775808<=cut/\cut<=9223372036854775807):
  Calls prog 4 #[p.val,o.val,.int .i64 cut] w λe w'=>e = .returned (.bool true)/\Below w.heap.size w w':=by
 obtain⟨G,hW,aj,X0⟩:∃W,w.alloc (.cells #[.slice p.ab p.nb p.cb,.slice p.sa p.ns p.cs] 25)=W/\Below w.heap.size w W/\Blk W w.heap.size 25 2 (λj=>(#[.slice p.ab p.nb p.cb,.slice p.sa p.ns p.cs]:Array Value).getD j default):=⟨_,rfl,brf.alloc nlr _,Blk.mk' rfl rfl⟩;have Y:Hid (∀r,Below G.heap.size G r->Blk r w.heap.size 25 2 (λj=>(#[.slice p.ab p.nb p.cb,.slice p.sa p.ns p.cs]:Array Value).getD j default)/\p.At r/\o.At r/\Below w.heap.size w r):=λr h=>⟨X0.below h,(hp.below aj).below h,(ha.below aj).below h,aj.trans (h.mono aj.size)⟩;have HW:Hid (w.alloc (.cells #[.slice p.ab p.nb p.cb,.slice p.sa p.ns p.cs] 25)=G):=hW;have be:Hid (Below G.heap.size G G):=Below.refl _ _;have eg:Hid (∀i,i<o.n->(o.z i).ls.n<=8796093022208):=cz;have ei:Hid (-9223372036854775808<=cut/\cut<=9223372036854775807):=hc;have f2:=ha.le;have dj:=ha.cap;unfold maxLen at dj;clear hW X0 hp aj ha cz hc;unfold Pl.val As.val;by_cases ga:24<o.n
 .have q1:(24:Int)<(o.n:Int):=by omega
  go_enter func4,ntmps4;go_wp2_with fail;rw[HW.out];clear HW;refine(qs G).mono ?_;rintro e wz ⟨rfl,au⟩;go_wp2_with fail;go_ret;exact⟨rfl,(Y.out wz ((be.out).trans (au.mono (be.out).size))).2.2.2⟩
 have q1:¬(24:Int)<(o.n:Int):=by omega
 have HN:Hid (o.n<=24):=by show _<=_;omega
 have c9:Hid (_):=Af p G (Y.out G be.out).2.1;go_enter func4,ntmps4;go_wp2_with fail;rw[HW.out];clear HW;refine Calls.mono c9.out ?_;rintro e w1 ⟨rfl,H⟩;have bk:=hid H;clear H be c9;by_cases h0:et p=0;rotate_left
 .have g0:(et p !=0)=true:=by simpa using h0
  go_wp2_with fail;refine(qs w1).mono ?_;rintro e wz ⟨rfl,au⟩;go_wp2_with fail;go_ret;exact⟨rfl,(Y.out wz ((bk.out).trans (au.mono (bk.out).size))).2.2.2⟩
 have bj:=hid h0;rw[h0];clear h0;obtain⟨iI,d8,dt,ep,d7⟩:=info_parts Du;go_wp2_with fail
 go_loopw [7,8,9] (λsv ev kv r=>∃(k:Nat) (a:Option Addr) (c:Nat),k<=o.n/\sv = .string ⟨(dy (pre o.z k)).toArray⟩/\ev = .slice a k c/\kv = .int .i64 k/\Hid (Eu o G k (.slice a k c) r)) (λ_ _ kv _=>o.n-(intOf kv).toNat)
 case atStart=>exact⟨0,none,0,Qxz _,rfl,rfl,rfl,λi hi=>absurd hi (Qzq _),World.ownsRow_nil _ _ _ _,bk.out⟩
 rename_i u0 u1 u2;obtain⟨k,a,c,hk,rfl,rfl,rfl,HS⟩:=hrel;clear bk;have cj:=Zt HS.out.ok;obtain⟨T,hT⟩:∃T,dy (pre o.z k)=T:=⟨_,rfl⟩;have tl:((⟨T.toArray⟩:ByteArray).size)=T.length:=by simp[ByteArray.size]
 rw[hT] at cj ⊢;have HT:=hid hT;clear hT;have e3:=HN.out;by_cases ad:k<o.n
 .have q2:(0:Int)<=(k:Int):=by omega
  have q3:(k:Int)<(o.n:Int):=by omega
  obtain⟨-,-,b7,-⟩:=Y.out wr HS.out.bel;obtain⟨xb,xo,b5,x0,x1,x2,x3,x4,x5⟩:=b7.six ad;have xl:=Ds x0;have bg:=qa2 (b7.lines k ad) (eg.out k ad);obtain⟨x,hx⟩:∃x,o.z k=x:=⟨_,rfl⟩;have t:Hid (o.z k=x):=hx;rw[hx] at x0 x1 x2 x3 x4 x5 bg;have c1:Hid (_):=Et x wr bg.out.1 bg.out.2;rw[b5];have f8:=hid b5;clear b7 hx b5;go_wp2_with fail;refine Calls.mono c1.out ?_;rintro e w2 ⟨rfl,H⟩;have bd:Hid (Eu o G k (.slice a k c) w2):=HS.out.below H;clear H HS c1 bg x0 x1 x2 x3 x4 x5 xl;by_cases hE:mm x=0;rotate_left
  .have gE:(mm x !=0)=true:=by simpa using hE
   generalize mm x=EE at *
   go_wp2_with fail;refine(qs w2).mono ?_;rintro e wz ⟨rfl,au⟩;go_wp2_with fail;go_ret;exact⟨rfl,(Y.out wz ((bd.out.bel).trans (au.mono (bd.out.bel).size))).2.2.2⟩
  have bi:Hid (wm x=lj x):=if_pos hE;have cp:=hid hE;have b1:(wm x).length<=18:=by
   have e1:=Dq x;have e2:=(Cs hE).2;rw[bi.out];omega
  obtain⟨S,bl⟩:∃S,T++lj x=S:=⟨_,rfl⟩;have ed:(⟨T.toArray⟩:ByteArray)++⟨(wm x).toArray⟩=⟨S.toArray⟩:=by rw[ByteArray.mk_append_mk,bi.out,bl]
  have wl:((⟨(wm x).toArray⟩:ByteArray).size)=(wm x).length:=by simp[ByteArray.size]
  have gb:((⟨S.toArray⟩:ByteArray).size)=S.length:=by simp[ByteArray.size]
  have b2:S.length<=18*(k+1):=by
   have:=bi.out;rw[<-bl,List.length_append,<-this];omega
  have cl:Hid (dy (pre o.z (k+1))=S):=by
   show _=_;rw[Uw,HT.out,t.out,bl]
  have s2:¬9223372036854775807<T.length+(wm x).length:=by omega
  rw[hE];obtain⟨WL,ci⟩:∃WL,wm x=WL:=⟨_,rfl⟩;rw[ci] at ed wl s2 b1 ⊢;obtain⟨W5,bw,c6⟩:∃W,w2.alloc (.cells #[.int .i64 (S.length:Int)] 3)=W/\Below w2.heap.size w2 W:=⟨_,rfl,brf.alloc nlr _⟩;have cu:Hid (w2.alloc (.cells #[.int .i64 (S.length:Int)] 3)=W5):=bw;have dd:Hid (∀j u,[Value.int .i64 (S.length:Int)][j]?=some u->W5.cell? ((⟨w2.heap.size,0,none⟩:Addr).add j)=some u):=by
   intro j u hj;rw[<-bw]
   match j,hj with
   | 0,hj=>simp at hj;subst hj;simp[Addr.add]
  have ah:Hid (Eu o G k (.slice a k c) W5):=bd.out.below c6;have bp:=hid ah.out.bel.size;clear bw c6 bd hE bl ci;go_wp2_with(at_builtin;rw[cu.out];refine wpList_append_own W5 rfl (.tmp 46) (.tmp 49) 23 rfl G.heap.size 3 iI (.int .i64 0) 1 8 underlying23 d8 dt ep d7 rfl (by decide) (.slice a k c) k ((List.range k).map λi=>Value.int .i64 (zo o.z i:Int)) rfl ah.out.own ⟨w2.heap.size,0,none⟩ 1 1 [.int .i64 (S.length:Int)] rfl rfl dd.out (λu hu=>by simp at hu;subst hu;rfl) (by unfold maxLen;omega) (by omega) bp.out ?_);intro v2 w6 r1 r2 _;obtain⟨D,c2,rfl,-⟩:=vq r1;have hg:=Ae ah.out.own r2;have em:Hid (Eu o G (k+1) (.slice D (k+1) c2) w6):=⟨λi hi=>by
    rcases Nat.lt_succ_iff_lt_or_eq.1 hi with h|h
    .exact ah.out.ok i h
    .rw[h,t.out];exact cp.out,by
    rw[List.range_succ,List.map_append];have e:zo o.z k=S.length:=by unfold zo;rw[cl.out]
    simp only[List.map_cons,List.map_nil,e];exact r1,hg.below ah.out.bel nlr bp.out⟩
  clear r1 r2 hg ah dd cu bp bi cp
  try simp only[Act.put,Qvq,Qwx,Qwz]
  go_wp2_with fail;go_roundw
  case rel=>exact⟨k+1,D,c2,by omega,by rw[cl.out],rfl,by go_num,em.out⟩
  case measure=>simp[intOf];omega
 have q3:¬(k:Int)<(o.n:Int):=by omega
 have d4:k=o.n:=by omega
 subst d4;have cx:Hid (Calls prog 15 #[.int .i64 cut,.int .i64 ((T.length:Int)+1)] wr λe w'=>e = .returned (.int .i64 (Aj cut (T.length+1):Nat))/\w'=wr):=V5 cut (T.length+1) wr ei.out (by omega) (by omega);have dw:=V4 cut (n:=T.length+1) (by omega)
 generalize Aj cut (T.length+1)=K at *
 have ec:K<=T.length:=by omega
 have gc:T.length<=432:=by omega
 clear dw ad hk cj;go_wp2_with fail;refine Calls.mono cx.out ?_;rintro e w' ⟨rfl,rfl⟩;clear cx;go_wp2_with fail
 go_loopw [13] (λmv r=>∃m:Nat,m<=o.n/\mv = .int .i64 m/\Hid ((∀i,i<m->zo o.z i<=K)/\Eu o G o.n (.slice a o.n c) r)) (λmv _=>o.n-(intOf mv).toNat)
 case atStart=>exact⟨0,Qxz _,rfl,λi hi=>absurd hi (Qzq _),HS.out⟩
 rename_i u3;obtain⟨m,hm,rfl,HM⟩:=hrel;clear HS;have cg:(m<o.n/\zo o.z m<=K)\/(m<o.n/\K<zo o.z m)\/m=o.n:=by omega
 have Q:Hid (m<o.n->∃g,a=some ⟨g,0,none⟩/\g<wr.heap.size/\wr.cell? ⟨g,m,none⟩=some (.int .i64 (zo o.z m:Int))):=λad=>by
  obtain⟨g,c',hv,-,-,-,bv⟩:=Blk.ofOwns HM.out.2.own (by intro e;simp at e;omega);simp only[Value.slice.injEq] at hv;refine⟨g,hv.1,bv.lt,?_⟩;rw[bv.cell (j:=m) (by omega)];simp[List.getD,ad]
 have q5:(0:Int)<=(m:Int):=by omega
 rcases cg with⟨h1,L⟩|⟨h1,L⟩|h1
 .obtain⟨g,aa,yl,y0⟩:=Q.out h1;have ea:Hid (∀i,i<m+1->zo o.z i<=K):=λi hi=>by
   rcases Nat.lt_succ_iff_lt_or_eq.1 hi with h|h
   .exact HM.out.1 i h
   rw[h];exact L
  have q6:(m:Int)<(o.n:Int):=by omega
  have q7:(zo o.z m:Int)<=(K:Int):=by omega
  generalize zo o.z m=EM at *
  rw[aa];have d3:=hid aa;clear aa h1 L Q;go_wp2_with fail;rw[<-d3.out];go_roundw
  case rel=>exact⟨m+1,by omega,by go_num,ea.out,HM.out.2⟩
  case measure=>simp[intOf];omega
 all_goals
  have ca:Hid (∀j,j=m->j<o.n->K<zo o.z j):=λj e h=>by subst e;omega
  have ct:Hid (∀r,Below wr.heap.size wr r->p.At r/\o.At r/\Below G.heap.size G r):=λr h=>by
   have hb:=HM.out.2.bel.trans (h.mono HM.out.2.bel.size);exact⟨(Y.out r hb).2.1,(Y.out r hb).2.2.1,hb⟩
  obtain⟨hP,-,-,-⟩:=Y.out wr HM.out.2.bel;have d0:wr.cell? ⟨w.heap.size,0,none⟩=some (.slice p.ab p.nb p.cb):=hP.k 0;have d1:wr.cell? ⟨w.heap.size,1,none⟩=some (.slice p.sa p.ns p.cs):=hP.k 1;have dl:=hP.lt;have cr:=Qqq d0;have cq:=Qqq d1;have q8:(0:Int)<=(K:Int):=by omega
  have q9:(K:Int)<=(T.length:Int):=by omega
  clear hP
  first | (have q6:¬(m:Int)<(o.n:Int):=(by omega);clear h1 Q;go_wp2_with fail) | (obtain⟨g,aa,yl,y0⟩:=Q.out h1;have q6:(m:Int)<(o.n:Int):=(by omega);have q7:¬(zo o.z m:Int)<=(K:Int):=(by omega);clear L;generalize zo o.z m=EM at *;rw[aa];clear aa h1 Q;go_wp2_with fail)
  refine Bl (λw'=>∃p:Regrown,w'=grow (redrawn wr p.d) p.os) [0,1,2,3] [4,5,6,7,8,9,10,11,12] (by kernel_rfl) (by kernel_rfl) (by kernel_rfl) (by kernel_rfl) (by kernel_rfl) (by kernel_rfl) (by kernel_rfl) (by kernel_rfl) (Qqx (brf.drew)) ?_;simp only[du,Qyq,Xqq,Qyx,Qyz,Xqz,Xqx]
  repeat(go_big_quiet_step(fail))
  refine Qqz ?_;clear cr cq d0 d1 dl;refine⟨adq p (T.take K) wr,λy V w F hd => ?_,Qjx ⟨?_,Qjx ⟨?_,Qjx ⟨?_,Qjx ⟨?_,Qjx ⟨?_,Qjx ⟨?_,Qjx ⟨?_,Qjx ⟨?_,Qjx ⟨?_,Qjq _⟩⟩⟩⟩⟩⟩⟩⟩⟩,?_⟩
  .have f:∀j,j∈[4,5,6,7,8,9,10,11,12]->¬y j=true:=λj hj h=>by rw[hd j hj] at h;cases h
   exact⟨ae F,λh=>absurd h (f 5 (by simp)),λh=>absurd h (f 6 (by simp)),λh=>absurd h (f 10 (by simp)),λh=>absurd h (f 9 (by simp)),λh=>absurd h (f 4 (by simp)),λh=>absurd h (f 7 (by simp)),λh=>absurd h (f 8 (by simp)),λh=>absurd h (f 11 (by simp)),λh=>absurd h (f 12 (by simp))⟩
  .intro y V r K' F J hd l v;have s:=hid l;have q:=l.bel.size;have el:Hid (_):=M1 p (T.take K) r (ct.out r l.bel).1;clear l;have f3:¬y 5=true:=λh=>by rw[s.out.c3 h] at J;cases J
   have f4:¬y 6=true:=λh=>by rw[s.out.c4 h] at J;cases J
   have f7:¬y 10=true:=λh=>by rw[(s.out.c7 h).1] at J;cases J
   refine aq 4 rfl ?_;simp only[ap,az,Qvz,Qwq,Qvx,Act.put,Qvq,Qwx,Qwz] at v ⊢;go_wp2_with fail;rw[Z9 ec] at v ⊢;refine Calls.mono el.out ?_;rintro e wj ⟨u,rfl,c8,cy,br⟩;have A:=qa2 cy c8.m;clear c8 cy;simp only[St.val];go_wp2_with fail;have l:=s.out;refine v _ _ (Qqx (l.bel.trans (br.mono q))) ⟨l.bel.trans (br.mono q),λ_=>rfl,λ_=>rfl,λh=>absurd h f7,λh7 => ?_,λ_=>⟨u,⟨A.out.1,_,_,A.out.2,λh9 B hb => ?_⟩,rfl,λh=>absurd h f3,λh=>absurd h f4,λh=>absurd h f7⟩,l.n7,l.n8,l.n11,l.n12⟩
   .obtain⟨B,b1,b2,f,b3⟩:=l.box h7;exact⟨B,b1,b2,f,b3.below br⟩
   obtain⟨B',b1,b2,f,b3⟩:=l.box h9;have e:V 9 = .pointer (some ⟨B,0,none⟩):=hb;rw[b1] at e;simp only[Value.pointer.injEq,Qkx,Qkz,and_true] at e;subst e;exact .inl b3.lt
  .intro y V r K' F J hd l v;have L:y 4=true:=hd 4 (Qjz (by kernel_rfl)) (by simp);obtain⟨u,a1,D,E,M,P⟩:=l.got L;have s:=hid l;have A:=qa4 a1 D M P;clear l a1 E M P;refine aq 5 rfl ?_;simp only[ap,az,Qvz,Qwq,Qvx,Act.put,Qvq,Qwx,Qwz,D] at v ⊢;go_wp2_with fail;have l:=s.out;exact v _ _ F ⟨l.bel,λ_=>L,l.c4,l.c7,l.box,λ_=>⟨u,A.out.1,A.out.2.1,λ_=>rfl,A.out.2.2.1,A.out.2.2.2⟩,l.n7,l.n8,l.n11,l.n12⟩
  .intro y V r K' F J hd l v;have h3:y 5=true:=hd 5 (Qjz (by kernel_rfl)) (by simp);have L:=l.c3 h3;obtain⟨u,a1,D,E,M,P⟩:=l.got L;have a7:=E h3;have s:=hid l;have A:=qa4 a1 D E P;clear l a1 D E M P;refine aq 6 rfl ?_;simp only[ap,az,Qvz,Qwq,Qvx,Act.put,Qvq,Qwx,Qwz,a7] at v ⊢;go_wp2_with fail;have l:=s.out;exact v _ _ F ⟨l.bel,l.c3,λ_=>L,l.c7,l.box,λ_=>⟨u,A.out.1,A.out.2.1,A.out.2.2.1,λ_=>rfl,A.out.2.2.2⟩,l.n7,l.n8,l.n11,l.n12⟩
  .intro y V r K' F J hd l v;have h3:y 5=true:=hd 5 (Qjz (by kernel_rfl)) (by simp);obtain⟨u,a1,D,E,M,P⟩:=l.got (l.c3 h3);have a7:=E h3;have s:=hid l;clear l a1 D E M P;refine aq 7 rfl ?_;simp only[ap,az,Qvz,Qwq,Qvx,Act.put,Qvq,Qwx,Qwz,a7] at v ⊢;go_wp2_with fail;have l:=s.out;exact v _ _ F ⟨l.bel,l.c3,l.c4,l.c7,l.box,l.got,λ_=>rfl,l.n8,l.n11,l.n12⟩
  .intro y V r K' F J hd l v;have h3:y 5=true:=hd 5 (Qjz (by kernel_rfl)) (by simp);obtain⟨u,a1,D,E,M,P⟩:=l.got (l.c3 h3);have a7:=E h3;have s:=hid l;clear l a1 D E M P;refine aq 8 rfl ?_;simp only[ap,az,Qvz,Qwq,Qvx,Act.put,Qvq,Qwx,Qwz,a7] at v ⊢;go_wp2_with fail;have l:=s.out;exact v _ _ F ⟨l.bel,l.c3,l.c4,l.c7,l.box,l.got,l.n7,λ_=>rfl,l.n11,l.n12⟩
  .intro y V r K' F J hd l v;have s:=hid l;have q:=l.bel.size;clear l;refine aq 9 rfl ?_;simp only[ap,az,Qvz,Qwq,Qvx,Act.put,Qvq,Qwx,Qwz] at v ⊢;go_wp2_with fail;have l:=s.out;have bt:=(Below.refl r.heap.size r).alloc nlr (.cells #[.slice .none 0 0,.slice .none 0 0,.slice .none 0 0,.slice .none 0 0,.slice .none 0 0,.slice .none 0 0,.slice .none 0 0] 31);have f7:¬y 10=true:=λh=>by rw[(l.c7 h).2] at J;cases J
   refine v _ _ (Qqx (l.bel.trans (bt.mono q))) ⟨l.bel.trans (bt.mono q),l.c3,l.c4,λh=>absurd h f7,λ_=>⟨r.heap.size,rfl,q,_,Blk.mk' rfl rfl⟩,λL => ?_,l.n7,l.n8,l.n11,l.n12⟩;obtain⟨u,⟨a0,n,m',a1,-⟩,D,E,M,P⟩:=l.got L;refine⟨u,⟨a0,n,m',a1.below bt,λ_ B hb => .inr ?_⟩,D,E,M,λh=>absurd h f7⟩;have e:Value.pointer (some ⟨r.heap.size,0,none⟩) = .pointer (some ⟨B,0,none⟩):=hb;simp only[Value.pointer.injEq,Qkx,Qkz,and_true] at e;rw[<-e];exact a1.1
  .intro y V r K' F J hd l v;have h7:y 9=true:=hd 9 (Qjz (by kernel_rfl)) (by simp);have h4:y 6=true:=hd 6 (Qjz (by kernel_rfl)) (by simp);have L:=l.c4 h4;obtain⟨B,X,bq,f,an⟩:=l.box h7;obtain⟨u,⟨a0,n,m',a1,a6⟩,D,E,M,P⟩:=l.got L;have ac:=M h4;have s:=hid l;have A:=qa5 a0 D E an X;have bu:=qa2 a1 (a6 h7 B X);have hz:=an;obtain⟨zl,fs,fz,fv,zc1,f1,zc2,gd,zc3,fx,zc4,fp,zc5,fq,fw⟩:=z7 hz;clear l a0 a1 D E M P a6 hz an;refine aq 10 rfl ?_;simp only[ap,az,Qvz,Qwq,Qvx,Act.put,Qvq,Qwx,Qwz,ac,X] at v ⊢;go_wp2_with fail;have l:=s.out;have KZ:=s7b A.out.2.2.2.1 u;have bz:=s7w (b:=B) l.bel bq u;have db:=bu.out.1.set7 bu.out.2 (.slice u.on.a u.on.n u.on.c) (.slice u.os.a u.os.n u.os.c) (.slice u.hs.a u.hs.n u.hs.c) (.slice u.ms.a u.ms.n u.ms.c) (.slice u.si.a u.si.n u.si.c) (.slice u.so.a u.so.n u.so.c) (.slice u.sf.a u.sf.n u.sf.c);unfold set7 at KZ bz db;refine v undef _ (Qqx bz) ⟨bz,l.c3,l.c4,λ_=>⟨L,h7⟩,λ_=>⟨B,A.out.2.2.2.2,bq,_,KZ⟩,λ_=>⟨u,⟨A.out.1,n,m',db,λ_ B' b6 => ?_⟩,A.out.2.1,A.out.2.2.1,λ_=>ac,λ_ B' b6 => ?_⟩,l.n7,l.n8,l.n11,l.n12⟩
   .have e:V 9 = .pointer (some ⟨B',0,none⟩):=b6;rw[A.out.2.2.2.2] at e;simp only[Value.pointer.injEq,Qkx,Qkz,and_true] at e;subst e;exact bu.out.2
   have e:V 9 = .pointer (some ⟨B',0,none⟩):=b6;rw[A.out.2.2.2.2] at e;simp only[Value.pointer.injEq,Qkx,Qkz,and_true] at e;subst e;exact KZ.congr (λj hj=>by match j,hj with|0,_=>rfl|1,_=>rfl|2,_=>rfl|3,_=>rfl|4,_=>rfl|5,_=>rfl|6,_=>rfl)
  .intro y V r K' F J hd l v;have ac:=l.n7 (hd 7 (Qjz (by kernel_rfl)) (by simp));have s:=hid l;clear l;refine aq 11 rfl ?_;simp only[ap,az,Qvz,Qwq,Qvx,Act.put,Qvq,Qwx,Qwz,ac] at v ⊢;go_wp2_with fail;have l:=s.out;exact v _ _ F ⟨l.bel,l.c3,l.c4,l.c7,l.box,l.got,l.n7,l.n8,λ_=>rfl,l.n12⟩
  .intro y V r K' F J hd l v;have ac:=l.n8 (hd 8 (Qjz (by kernel_rfl)) (by simp));have s:=hid l;clear l;refine aq 12 rfl ?_;simp only[ap,az,Qvz,Qwq,Qvx,Act.put,Qvq,Qwx,Qwz,ac] at v ⊢;go_wp2_with fail;have l:=s.out;exact v _ _ F ⟨l.bel,l.c3,l.c4,l.c7,l.box,l.got,l.n7,l.n8,l.n11,λ_=>rfl⟩
  intro y V U F hd l;refine NoPanic.normal ?_;obtain⟨B,X,bq,f,an⟩:=l.box (hd 9 (by simp));obtain⟨u,⟨a0,n,m',a1,a6⟩,D,E,M,P⟩:=l.got (hd 4 (by simp));have b4:=l.n11 (hd 11 (by simp));have bx:=l.n12 (hd 12 (by simp));have c0:=hid l.bel;have bc:Hid (Es p (T.take K) u/\u.At U/\Blk U B 31 7 (λj=>u.cells.getD j default)):=⟨a0,a1.at,P (hd 10 (by simp)) B X⟩;clear l a0 a1 D E M P a6 an hd F;simp only[ap,az,Qvz,Qwq,Qvx,Act.put,Qvq,Qwx,Qwz,X,b4,bx];have bh:Hid (pu p (T.take K)=0/\zq p (T.take K)=m/\∃s0,td p s0/\af u (jb p s0 (pre o.z m))):=aa7 bj.out HT.out HN.out HM.out.2.ok hm HM.out.1 (ca.out m rfl) bc.out.1;have bf:Hid (ar p u):=by
   obtain⟨-,-,s0,b0,k0⟩:=bh.out;exact k0.right (wn _ (dp (qd bj.out b0)))
  rw[bh.out.1,bh.out.2.1];obtain⟨cv,ck,bs⟩:=ct.out U c0.out;obtain⟨hP,-,-,-⟩:=Y.out U bs;have d0:U.cell? ⟨w.heap.size,0,none⟩=some (.slice p.ab p.nb p.cb):=hP.k 0;have d1:U.cell? ⟨w.heap.size,1,none⟩=some (.slice p.sa p.ns p.cs):=hP.k 1;have dl:=hP.lt;obtain⟨m1,p0,p1,p2,p3,p4,p5,p6⟩:=Boxed.of bc.out.2.2;have cr:=Qqq d0;have cq:=Qqq d1;have fu:=Qqq p0;have f0:=Qqq p1;have f5:=Qqq p2;have f6:=Qqq p3;have fr:=Qqq p4;have ge:=Qqq p5;have fy:=Qqq p6;have aw:=qa3 cv ck bs;clear hP cv ck bs X b4 bx c0;go_wp2_with fail;refine o8 (λw'=>∃p:Regrown,w'=grow (redrawn U p.d) p.os) [(false,0),(true,1),(true,2),(true,3),(false,4),(true,5),(true,6),(true,7),(true,8),(false,9),(true,10),(true,11),(true,12),(false,13),(true,14),(false,15),(true,16),(true,17),(true,18),(true,19),(true,20),(true,21),(false,22),(false,23),(false,24),(false,25)] (by kernel_rfl) (by kernel_rfl) (by kernel_rfl) (by kernel_rfl) (Qqx (brf.drew)) ?_;have t:Hid (Below U.heap.size U U.drew):=brf.drew
  generalize U.drew=wx at *
  refine da 0 (by decide) ?_;simp only[Xqq,Qyx,Qyz];go_wp2_with fail;refine(qs wx).mono ?_;rintro e wy ⟨rfl,H⟩;have t:=hid (t.out.trans (H.mono t.out.size));clear H;go_wp2_with fail;refine⟨Qqx t.out,?_⟩;refine am 1 rfl rfl ?_
  go_big_quiet_step(fail)
  refine Qqz ?_;refine am 2 rfl rfl ?_
  go_big_quiet_step(fail)
  refine Qqz ?_;refine am 3 rfl rfl ?_
  go_big_quiet_step(fail)
  refine Qqz ?_;refine da 4 (by decide) ?_;simp only[Qyq,Xqq,Qyx,Qyz];go_wp2_with fail;refine⟨Qqx t.out,?_⟩;refine am 5 rfl rfl ?_
  go_big_quiet_step(fail)
  refine Qqz ?_;refine am 6 rfl rfl ?_
  go_big_quiet_step(fail)
  refine Qqz ?_;refine am 7 rfl rfl ?_
  go_big_quiet_step(fail)
  refine Qqz ?_;refine am 8 rfl rfl ?_
  go_big_quiet_step(fail)
  refine Qqz ?_;refine da 9 (by decide) ?_;simp only[Qyq,Xqq,Qyx,Qyz];go_wp2_with fail;refine⟨Qqx t.out,?_⟩;refine am 10 rfl rfl ?_
  go_big_quiet_step(fail)
  refine Qqz ?_;refine am 11 rfl rfl ?_
  go_big_quiet_step(fail)
  refine Qqz ?_;refine am 12 rfl rfl ?_
  go_big_quiet_step(fail)
  refine Qqz ?_;refine da 13 (by decide) ?_;simp only[Qyq,Xqq,Qyx,Qyz];go_wp2_with fail;have cm:Hid (_):=lg p u wy (aw.out.1.below t.out) (bc.out.2.1.below t.out);refine Calls.mono cm.out ?_;rintro e wz ⟨rfl,H⟩;have t:=hid (t.out.trans (H.mono t.out.size));have cn:ag p u=0:=j8 bf.out;rw[cn];clear H cm cn;go_wp2_with fail;refine⟨Qqx t.out,?_⟩;refine am 14 rfl rfl ?_
  go_big_quiet_step(fail)
  refine Qqz ?_;refine da 15 (by decide) ?_;simp only[Qyq,Xqq,Qyx,Qyz];go_wp2_with fail;refine⟨Qqx t.out,?_⟩;refine am 16 rfl rfl ?_
  go_big_quiet_step(fail)
  refine Qqz ?_;refine am 17 rfl rfl ?_
  go_big_quiet_step(fail)
  refine Qqz ?_;refine am 18 rfl rfl ?_
  go_big_quiet_step(fail)
  refine Qqz ?_;refine am 19 rfl rfl ?_
  go_big_quiet_step(fail)
  refine Qqz ?_;refine am 20 rfl rfl ?_
  go_big_quiet_step(fail)
  refine Qqz ?_;have f9:(m:Int)<=(o.n:Int):=by omega
  have ft:(m:Int)<=(o.c:Int):=by omega
  clear q6;refine am 21 rfl rfl ?_
  go_big_quiet_step(fail)
  refine Qqz ?_;refine da 22 (by decide) ?_;simp only[Qyq,Xqq,Qyx,Qyz];go_wp2_with fail;have dc:Hid (_):=Gw p (⟨o.a,m,o.c,o.z⟩:As) (pre o.z m) wz (aw.out.1.below t.out) bj.out (aw.out.2.1.below t.out |>.less hm) (Dz _ _).symm (λi h=>by
   have e:(pre o.z m)[i]=o.z i:=by simp[pre]
   rw[e];exact ru.self _)
  refine Calls.mono dc.out ?_;rintro e wq ⟨z,rfl,c5,⟨s1,b1,k1⟩,H⟩;have t:=hid (t.out.trans (H.mono t.out.size));have co:Hid (af u z/\z.At wq):=by
   obtain⟨-,-,s0,b0,k0⟩:=bh.out;exact⟨k0.trans ((Az (dp (qd bj.out b1)) (Fs b0 b1) (z5.self _)).trans k1.symm),c5.at⟩
  clear H dc c5 b1 k1;simp only[St.val];go_wp2_with fail;refine⟨Qqx t.out,?_⟩;refine da 23 (by decide) ?_;simp only[Qyq,Xqq,Qyx,Qyz];go_wp2_with fail;have cw:Hid (_):=uy u z wq (bc.out.2.1.below t.out) co.out.2 co.out.1 bf.out.bound.1 bf.out.bound.2.1 bf.out.bound.2.2;refine Calls.mono cw.out ?_;rintro e wv ⟨rfl,H⟩;have t:=hid (t.out.trans (H.mono t.out.size));clear H cw;go_wp2_with fail;refine⟨Qqx t.out,?_⟩;refine da 24 (by decide) ?_;simp only[Qyq,Xqq,Qyx,Qyz];go_wp2_with fail;refine⟨Qqx t.out,?_⟩;refine da 25 (by decide) ?_;simp only[Qyq,Xqq,Qyx,Qyz];go_wp2_with fail;refine⟨Qqx t.out,?_⟩;refine NoPanic.normal ?_;go_wp2_with fail;go_ret;exact⟨by simp,(Y.out wv (aw.out.2.2.trans (t.out.mono aw.out.2.2.size))).2.2.2⟩
end Go.Proofs.YtbcacebifpagpagGreat
namespace Go.Proofs.YtbcacebifpagpagGreat
variable{n b A g o l c i q j R L M:Nat}{w a d:World}{s x y u:St}{r W J D:Int}{e H:TypeId}{p:Pl}{z O:Nat->Hd}{f f':Nat->Value}{Q:Exit->Act->World->Prop}{v c1 c3 c2:Value}{xs:List Value}{U V:Hs}{X Y:Int->Int->Int}{P:Program}{h Z:Hd}{t:List UInt8}{E:Hd->Bool}{z' zs:Nat->Int}{S:World->Prop}{a1:Act}{K:Act->World->Prop}
open _root_.Go.Proofs.Tryz
open Go.ChangeShapes Go.WideShapes Go.ChangeAt Go.RowKit Go.ChangeMaps Go.Joins Go.Deep
set_option maxRecDepth 100000
section
variable {H:Type} {enc:TypeId × Value->H} {w:World} {spare:Nat->Bool} {held:Bool}
theorem Lt{P:Program}{e:TypeId}{d:DataW H}{n:Nat}(a:n∈d.weights P e):∀{l:List (DataW H)},d∈l->n∈DataW.weightsAll P e l
 | x :: l,h=>by
  rw[DataW.weightsAll,List.mem_append];rcases List.mem_cons.1 h with rfl|h
  .exact .inl a
  exact .inr (Lt a h)
theorem acw{fuel:Nat}{cs:List Value}{x:DataW H × List MemPlace}(h:DataW.trod enc prog w 0 spare held fuel 47 cs=some x)(hc:cs.length=6)(z:∀n∈x.1.weights prog 47,n<=reachBytes):∃y:Ax,cs=p9 y/\y.ls.At w/\y.ls.n<=8796093022208:=by
 obtain⟨xs,n,_,hx,E,b,a⟩:=DataW.trod_struct underlying47 h
 match xs,b,cs,hc with
 | [y0,y1,y2,y3,y4,y5],_,[c0,c1,c2,c3,c4,c5],_ =>
  have p:=a 0 _ rfl;have k:=a 1 _ rfl;have i:=a 2 _ rfl;have g:=a 3 _ rfl;have o:=a 4 _ rfl;have e:=a 5 _ rfl;simp[vi,G6] at p k i g o e;obtain⟨n0,e0,_⟩:=DataW.trod_int underlying3 p;obtain⟨A,q,_⟩:=DataW.trod_int underlying3 k;obtain⟨n2,f,_⟩:=DataW.trod_int underlying3 i;obtain⟨D,r,_⟩:=DataW.trod_int underlying3 g;obtain⟨B,l,_⟩:=DataW.trod_int underlying3 o;obtain⟨ls,c,v⟩:=Jt e;have hd:x.1 = .agg [y0.1,y1.1,y2.1,y3.1,y4.1,y5.1]:=by
   have:=congrArg Prod.fst hx
   simpa using this
  have s:=Jo e (λm u=>z m (by
   rw[hd];simp only[DataW.weights,underlying47];exact DataW.weights_mem_each (j:=5) (t:=45) (d:=y5.1) rfl rfl m u)) c
  simp only[List.cons.injEq,and_true] at e0 q f r l c;subst e0 q f r l c;exact⟨⟨n0,A,n2,D,B,ls⟩,rfl,v,s⟩
theorem abd{r:Reach}{d:DataW H}{T:List MemPlace}(M:Value.okWide prog w r R 36 v)(h:DataW.Trod enc prog w 0 spare held 36 v d T)(G:∀n∈d.weights prog 36,n<=reachBytes):∃s:As,v=s.val/\s.At w/\∀i,i<s.n->(s.z i).ls.n<=8796093022208:=by
 obtain⟨X,L,K,rfl⟩:=okWide_slice underlying36 M;obtain⟨fuel,S⟩:=h;rcases open_slice underlying36 S with⟨e,_⟩|⟨a,len,cap,m,n,D,Pl,e,Y,J,E,x,B,hx⟩
 .simp only[Value.cells,List.cons.injEq,and_true] at e;exact⟨⟨none,0,0,λ_=>⟨0,0,0,0,0,⟨none,0,0,λ_=>⟨0,0,0,0⟩⟩⟩⟩,e,⟨Nat.le_refl _,Qxz _,λi hi=>absurd hi (Qzq _),λi hi=>absurd hi (Qzq _)⟩,λi hi=>absurd hi (Qzq _)⟩
 simp only[Value.cells,List.cons.injEq,and_true] at e;have V:len<=m:=by rw[x];split<;>omega
 rw[R6] at hx;have hd:d = .slice ((List.range len).map D) ((List.range (m-len)).map λj=>D (len+j)):=congrArg Prod.fst B
 haveI:Inhabited Ax:=⟨⟨0,0,0,0,0,⟨none,0,0,λ_=>⟨0,0,0,0⟩⟩⟩⟩
 obtain⟨z,c⟩:=choose_lt (α:=Ax) (n:=len) (p:=λi y=>(∀j,j<6->w.cell? (a.add (i*6+j))=some ((p9 y).getD j default))/\y.ls.At w/\y.ls.n<=8796093022208) (λi hi=>by
  obtain⟨W,hc,F⟩:=hx i (by omega);obtain⟨_,g,q⟩:=World.cells?_some hc;obtain⟨y,rfl,A,t⟩:=acw F g (λk Q=>G k (by
   rw[hd];simp only[DataW.weights,underlying36];exact List.mem_cons_of_mem _ (List.mem_append.2 (.inl (Lt Q (List.mem_map.2 ⟨i,List.mem_range.2 hi,rfl⟩))))))
  refine⟨y,λj l => ?_,A,t⟩;have:=q j (by omega);rw[add_add] at this;have u:j<(p9 y).length:=l;rw[this,List.getD,List.getElem?_eq_getElem u]
  rfl)
 refine⟨⟨some a,len,cap,z⟩,e,⟨J,E,λi hi => ?_,λi hi=>(c i hi).2.1⟩,λi hi=>(c i hi).2.2⟩;have f:i<len:=hi;have P:∃v0,w.cell? a=some v0:=⟨_,by have:=(c 0 (by omega)).1 0 (by decide);simpa[Addr.add] using this⟩;obtain⟨b,o,rfl,U,e0⟩:=Au ((c i f).1 0 (by decide)) P;refine⟨b,o,rfl,λj l => ?_⟩;have:=(c i f).1 j l;rw[Go.WideShapes.add_plain] at this;exact this
end
end Go.Proofs.YtbcacebifpagpagGreat

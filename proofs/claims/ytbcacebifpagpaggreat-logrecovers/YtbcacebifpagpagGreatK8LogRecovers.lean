/- Texts that were built one behind the other, joined; what is not reached is left out. -/
import Derived.Test.YtbcacebifpagpagGreatK7Log
import Derived.SizedLaws
import Derived.ChangeMaps5
set_option maxHeartbeats 8000000
set_option maxRecDepth 100000
set_option linter.unusedVariables false
namespace Go.Proofs.YtbcacebifpagpagGreat
variable{n b A g o l c i q j R L M:Nat}{w a d:World}{s x y u:St}{r W J D:Int}{e H:TypeId}{p:Pl}{z O:Nat->Hd}{f f':Nat->Value}{Q:Exit->Act->World->Prop}{v c1 c3 c2:Value}{xs:List Value}{U V:Hs}{X Y:Int->Int->Int}{P:Program}{h Z:Hd}{t:List UInt8}{E:Hd->Bool}{z' zs:Nat->Int}{S:World->Prop}{a1:Act}{K:Act->World->Prop}
open _root_.Go.Proofs.Tryz
open Go.RowKit Go.Shelf Go.Sort
theorem As.At.below{s:As}(h:s.At w)(d:Below w.heap.size w a):s.At a :=
 ⟨h.le,h.cap,λi hi=>by
  obtain⟨b,o,e,hc⟩:=h.cells i hi;refine⟨b,o,e,λj c => ?_⟩;rw[d.cell (p:=⟨b,o+(i*6+j),none⟩) (Ds (hc j c))];exact hc j c,λi hi=>(h.lines i hi).below d⟩
def DoU(E:Int)(T:St)(A:Nat)(u:St)(w:World):Prop:=ij E T u/\(E=0->ai A w u)
theorem DoU.below{T:St}(h:DoU r T A u w)(b:Below w.heap.size w a):DoU r T A u a:=⟨h.1,λe=>(h.2 e).below b⟩
structure Vi(E:Int)(T:St)(W:World)(dn:Nat->Bool)(V:Nat->Value)(w:World):Prop where
 bel:Below W.heap.size W w
 c3:dn 7=true->dn 6=true
 c4:dn 8=true->dn 6=true
 c7:dn 11=true->dn 6=true/\dn 10=true
 box:dn 10=true->∃B,V 10 = .pointer (some ⟨B,0,none⟩)/\W.heap.size<=B/\∃f,Blk w B 31 7 f
 got:dn 6=true->∃x:St,DoU E T W.heap.size x w/\V 6 = .tuple #[.agg #[.slice x.on.a x.on.n x.on.c,.slice x.os.a x.os.n x.os.c,.slice x.hs.a x.hs.n x.hs.c,.slice x.ms.a x.ms.n x.ms.c,.slice x.si.a x.si.n x.si.c,.slice x.so.a x.so.n x.so.c,.slice x.sf.a x.sf.n x.sf.c],.int .i64 E]/\(dn 7=true->V 7 = .tuple #[.agg #[.slice x.on.a x.on.n x.on.c,.slice x.os.a x.os.n x.os.c,.slice x.hs.a x.hs.n x.hs.c,.slice x.ms.a x.ms.n x.ms.c,.slice x.si.a x.si.n x.si.c,.slice x.so.a x.so.n x.so.c,.slice x.sf.a x.sf.n x.sf.c],.int .i64 E])/\(dn 8=true->V 8 = .agg #[.slice x.on.a x.on.n x.on.c,.slice x.os.a x.os.n x.os.c,.slice x.hs.a x.hs.n x.hs.c,.slice x.ms.a x.ms.n x.ms.c,.slice x.si.a x.si.n x.si.c,.slice x.so.a x.so.n x.so.c,.slice x.sf.a x.sf.n x.sf.c])/\(dn 11=true->∀B,V 10 = .pointer (some ⟨B,0,none⟩)->Blk w B 31 7 (λj=>x.cells.getD j default))
 n5:dn 9=true->V 9 = .int .i64 E
 n8:dn 12=true->V 12 = .int .i64 E
theorem Gw(p:Pl)(m:As)(l:List Ax)(w:World)(hp:p.At w)(h0:et p=0)(ha:m.At w)(E:m.n=l.length)(H:∀i (h:i<l.length),ru (m.z i) l[i]):
  Calls prog 11 #[p.val,m.val] w λe w'=>∃y:St,e = .returned y.val/\Fr w.heap.size w' y/\(∃s0,td p s0/\af y (jb p s0 l))/\Below w.heap.size w w':=by
 obtain⟨T,hW,X,X0,Z0,ca⟩:∃W,(w.alloc (.cells #[.slice p.ab p.nb p.cb,.slice p.sa p.ns p.cs] 25)).alloc (.cells #[.slice .none 0 0,.slice .none 0 0,.slice .none 0 0,.slice .none 0 0,.slice .none 0 0,.slice .none 0 0,.slice .none 0 0] 31)=W/\Below w.heap.size w W/\Blk W w.heap.size 25 2 (λj=>(#[.slice p.ab p.nb p.cb,.slice p.sa p.ns p.cs]:Array Value).getD j default)/\Blk W (w.heap.size+1) 31 7 (λ_ => .slice .none 0 0)/\W.heap.size=w.heap.size+2 :=
  ⟨_,rfl,ix _ _ _,(Blk.mk' rfl rfl).alloc _,(Blk.mk' (cur:=#[.slice .none 0 0,.slice .none 0 0,.slice .none 0 0,.slice .none 0 0,.slice .none 0 0,.slice .none 0 0,.slice .none 0 0]) (by simp) rfl).congr (λj hj=>by match j,hj with|0,_=>rfl|1,_=>rfl|2,_=>rfl|3,_=>rfl|4,_=>rfl|5,_=>rfl|6,_=>rfl),by simp⟩
 have HC:Hid (∀r,Below T.heap.size T r->Blk r w.heap.size 25 2 (λj=>(#[.slice p.ab p.nb p.cb,.slice p.sa p.ns p.cs]:Array Value).getD j default)/\Blk r (w.heap.size+1) 31 7 (λ_ => .slice .none 0 0)/\p.At r/\m.At r/\Below w.heap.size w r):=λr h=>⟨X0.below h,Z0.below h,(hp.below X).below h,(ha.below X).below h,X.trans (h.mono X.size)⟩;have HW:Hid ((w.alloc (.cells #[.slice p.ab p.nb p.cb,.slice p.sa p.ns p.cs] 25)).alloc (.cells #[.slice .none 0 0,.slice .none 0 0,.slice .none 0 0,.slice .none 0 0,.slice .none 0 0,.slice .none 0 0,.slice .none 0 0] 31)=T):=hW;have ci:=hid ca;have ag:=qa2 h0 (hp.below X);have HA:=qa2 E H;have eq:=ha.le;have cp:=ha.cap;unfold maxLen at cp;clear hW X X0 Z0 hp ca h0 ha E H;unfold Pl.val As.val;go_enter func11,ntmps11;go_wp2_with fail;rw[HW.out];refine(Ks p T ag.out.2 ag.out.1).mono ?_;rintro e w1 ⟨s,rfl,cc,bf,hB⟩;obtain⟨W2,b4,Q,KS⟩:=ab7 w1 s;have b7:=hid b4;have b6:=hid (hB.trans (Q.mono hB.size));have b5:Hid (Fr T.heap.size W2 s):=cc.below Q;have ce:=hid KS;have dx:=hid bf;have db:Hid (∀j,ar p (jb p s (l.take j))):=λj=>wn _ (dp (qd ag.out.1 bf));have de:=hid hB.size;clear b4 Q KS cc bf HW ag hB;simp only[St.val];go_wp2_with fail;rw[b7.out];clear b7
 generalize w1.heap.size=S at *
 go_loopw [6] (λjv r=>∃(j:Nat) (y:St) (n:Nat),j<=m.n/\jv = .int .i64 j/\Hid (Blk r S 31 7 (λj=>y.cells.getD j default)/\Fr n r y/\T.heap.size<=n/\af y (jb p s (l.take j))/\Below T.heap.size T r)) (λjv _=>m.n-(intOf jv).toNat)
 case atStart=>exact⟨0,s,T.heap.size,Qxz _,rfl,ce.out,b5.out,Nat.le_refl _,af.self _,b6.out⟩
 rename_i u0;obtain⟨j,y,n,hj,rfl,F⟩:=hrel;clear ce b5 b6;obtain⟨hP,H,ax,aj,am⟩:=HC.out wr F.out.2.2.2.2;have d0:wr.cell? ⟨w.heap.size,0,none⟩=some (.slice p.ab p.nb p.cb):=hP.k 0;have d1:wr.cell? ⟨w.heap.size,1,none⟩=some (.slice p.sa p.ns p.cs):=hP.k 1;have dl:=hP.lt;obtain⟨m1,p0,p1,p2,p3,p4,p5,p6⟩:=Boxed.of F.out.1;by_cases bh:j<m.n;rotate_left
 .have q1:¬(j:Int)<(m.n:Int):=by omega
  have dh:j=m.n:=by omega
  subst dh;obtain⟨zl,au,a7,ay,zc1,a8,zc2,bk,zc3,a6,zc4,an,zc5,ao,a0⟩:=z7 H;have d6:Hid (Fr w.heap.size (set7 wr (w.heap.size+1) (.slice y.on.a y.on.n y.on.c) (.slice y.os.a y.os.n y.os.c) (.slice y.hs.a y.hs.n y.hs.c) (.slice y.ms.a y.ms.n y.ms.c) (.slice y.si.a y.si.n y.si.c) (.slice y.so.a y.so.n y.so.c) (.slice y.sf.a y.sf.n y.sf.c)) y/\Below w.heap.size w (set7 wr (w.heap.size+1) (.slice y.on.a y.on.n y.on.c) (.slice y.os.a y.os.n y.os.c) (.slice y.hs.a y.hs.n y.hs.c) (.slice y.ms.a y.ms.n y.ms.c) (.slice y.si.a y.si.n y.si.c) (.slice y.so.a y.so.n y.so.c) (.slice y.sf.a y.sf.n y.sf.c))):=⟨(F.out.2.1.set7 (by have:=ci.out;have:=F.out.2.2.1;omega) (.slice y.on.a y.on.n y.on.c) (.slice y.os.a y.os.n y.os.c) (.slice y.hs.a y.hs.n y.hs.c) (.slice y.ms.a y.ms.n y.ms.c) (.slice y.si.a y.si.n y.si.c) (.slice y.so.a y.so.n y.so.c) (.slice y.sf.a y.sf.n y.sf.c)).less (by have:=ci.out;have:=F.out.2.2.1;omega),s7w am (by omega) y⟩;have dv:Hid (Blk (set7 wr (w.heap.size+1) (.slice y.on.a y.on.n y.on.c) (.slice y.os.a y.os.n y.os.c) (.slice y.hs.a y.hs.n y.hs.c) (.slice y.ms.a y.ms.n y.ms.c) (.slice y.si.a y.si.n y.si.c) (.slice y.so.a y.so.n y.so.c) (.slice y.sf.a y.sf.n y.sf.c)) (w.heap.size+1) 31 7 (λj=>(#[.slice y.on.a y.on.n y.on.c,.slice y.os.a y.os.n y.os.c,.slice y.hs.a y.hs.n y.hs.c,.slice y.ms.a y.ms.n y.ms.c,.slice y.si.a y.si.n y.si.c,.slice y.so.a y.so.n y.so.c,.slice y.sf.a y.sf.n y.sf.c]:Array Value).getD j default)):=s7b H y;have bd:Hid (af y (jb p s l)):=by
   have h:=F.out.2.2.2.1;rw[HA.out.1,List.take_length] at h;exact h
  clear H hP ax am F aj;go_wp2_with fail;have KZ:=dv.out;have HF:=d6.out;unfold set7 at KZ HF;obtain⟨ee,dw,dk,d9,cv,d7,ef⟩:=df KZ;refine Xzq (v:=y.val) (by simp[results,results11,go_sem,St.val,ee,dw,dk,d9,cv,d7,ef]) rfl ?_;exact⟨y,rfl,HF.1,⟨s,dx.out,bd.out⟩,HF.2⟩
 have q0:(0:Int)<=(j:Int):=by omega
 have q1:(j:Int)<(m.n:Int):=by omega
 have cd:j<l.length:=by rw[<-HA.out.1];exact bh
 obtain⟨xb,xo,cg,x0,x1,x2,x3,x4,x5⟩:=aj.six bh;have xl:=Ds x0;have b8:Hid ((m.z j).ls.At wr):=aj.lines j bh;have dm:Hid (ru (m.z j) (l[j]'cd)):=HA.out.2 j cd;have dd:Hid (jb p s (l.take (j+1))=ut p (jb p s (l.take j)) (l[j]'cd)):=Mm cd
 generalize hxe:m.z j=x at *
 generalize (l[j]'cd)=x' at *
 have be:=qa3 ax F.out.2.1.at b8.out;clear H hP ax am hxe aj b8;rw[cg];clear cg;have c9:=Qqq d0;have c6:=Qqq d1;have dc:=Qqq p0;have dt:=Qqq p1;have d3:=Qqq p2;have d5:=Qqq p3;have cx:=Qqq p4;have ei:=Qqq p5;have dr:=Qqq p6;have da:=Qqq x0;have dz:=Qqq x1;have eb:=Qqq x2;have d4:=Qqq x3;have c8:=Qqq x4;have d2:=Qqq x5;go_wp2_with fail;refine Bl (λw'=>∃p:Regrown,w'=grow (redrawn wr p.d) p.os) [0,1,2,3,4,5] [6,7,8,9,10,11,12] (by kernel_rfl) (by kernel_rfl) (by kernel_rfl) (by kernel_rfl) (by kernel_rfl) (by kernel_rfl) (by kernel_rfl) (by kernel_rfl) (Qqx (brf.drew)) ?_;simp only[du,Qyq,Xqq,Qyx,Qyz,Xqz,Xqx]
 repeat(go_big_quiet_step(fail))
 refine Qqz ?_;clear c9 c6 dc dt d3 d5 cx ei dr da dz eb d4 c8 d2 d0 d1 p0 p1 p2 p3 p4 p5 p6 x0 x1 x2 x3 x4 x5 m1 dl xl;refine⟨Vi (doE p y x) (doT p y x) wr,λD V w L hd => ?zinit,Qjx ⟨?zp6,Qjx ⟨?zp7,Qjx ⟨?zp8,Qjx ⟨?zp9,Qjx ⟨?zp10,Qjx ⟨?zp11,Qjx ⟨?zp12,Qjq _⟩⟩⟩⟩⟩⟩⟩,?zdone⟩
 case zinit =>
  have f:∀j,j∈[6,7,8,9,10,11,12]->¬D j=true:=λj hj h=>by rw[hd j hj] at h;cases h
  exact⟨ae L,λh=>absurd h (f 7 (by simp)),λh=>absurd h (f 8 (by simp)),λh=>absurd h (f 11 (by simp)),λh=>absurd h (f 10 (by simp)),λh=>absurd h (f 6 (by simp)),λh=>absurd h (f 9 (by simp)),λh=>absurd h (f 12 (by simp))⟩
 case zp6 =>
  intro D V r K L E hd g A;have o:=hid g;have q:=g.bel.size;have di:Hid (_):=Lv p y x r (be.out.1.below g.bel) (be.out.2.1.below g.bel) (be.out.2.2.below g.bel);clear g;have f3:¬D 7=true:=λh=>by rw[o.out.c3 h] at E;cases E
  have f4:¬D 8=true:=λh=>by rw[o.out.c4 h] at E;cases E
  have f7:¬D 11=true:=λh=>by rw[(o.out.c7 h).1] at E;cases E
  refine aq 6 rfl ?_;simp only[ap,az,Qvz,Qwq,Qvx,Act.put,Qvq,Qwx,Qwz] at A ⊢;go_wp2_with fail;refine Calls.mono di.out ?_;rintro e wj ⟨u,rfl,ct,b9,a9,Q⟩;have t:Hid (DoU (doE p y x) (doT p y x) wr.heap.size u wj):=⟨b9,λh=>(a9 h).mono q⟩;clear ct b9 a9;simp only[St.val];go_wp2_with fail;have g:=o.out;refine A _ _ (Qqx (g.bel.trans (Q.mono q))) ⟨g.bel.trans (Q.mono q),λ_=>rfl,λ_=>rfl,λh=>absurd h f7,λh7 => ?_,λ_=>⟨u,t.out,rfl,λh=>absurd h f3,λh=>absurd h f4,λh=>absurd h f7⟩,g.n5,g.n8⟩;obtain⟨B,b1,b2,f,b3⟩:=g.box h7;exact⟨B,b1,b2,f,b3.below Q⟩
 case zp7 =>
  intro D V r K L E hd g A;have U:D 6=true:=hd 6 (Qjz (by kernel_rfl)) (by simp);obtain⟨u,a1,J,G,M,P⟩:=g.got U;have o:=hid g;have t:=qa4 a1 J M P;clear g a1 G M P;refine aq 7 rfl ?_;simp only[ap,az,Qvz,Qwq,Qvx,Act.put,Qvq,Qwx,Qwz,J] at A ⊢;go_wp2_with fail;have g:=o.out;exact A _ _ L ⟨g.bel,λ_=>U,g.c4,g.c7,g.box,λ_=>⟨u,t.out.1,t.out.2.1,λ_=>rfl,t.out.2.2.1,t.out.2.2.2⟩,g.n5,g.n8⟩
 case zp8 =>
  intro D V r K L E hd g A;have h3:D 7=true:=hd 7 (Qjz (by kernel_rfl)) (by simp);have U:=g.c3 h3;obtain⟨u,a1,J,G,M,P⟩:=g.got U;have bj:=G h3;have o:=hid g;have t:=qa4 a1 J G P;clear g a1 J G M P;refine aq 8 rfl ?_;simp only[ap,az,Qvz,Qwq,Qvx,Act.put,Qvq,Qwx,Qwz,bj] at A ⊢;go_wp2_with fail;have g:=o.out;exact A _ _ L ⟨g.bel,g.c3,λ_=>U,g.c7,g.box,λ_=>⟨u,t.out.1,t.out.2.1,t.out.2.2.1,λ_=>rfl,t.out.2.2.2⟩,g.n5,g.n8⟩
 case zp9 =>
  intro D V r K L E hd g A;have h3:D 7=true:=hd 7 (Qjz (by kernel_rfl)) (by simp);obtain⟨u,a1,J,G,M,P⟩:=g.got (g.c3 h3);have bj:=G h3;have o:=hid g;clear g a1 J G M P;refine aq 9 rfl ?_;simp only[ap,az,Qvz,Qwq,Qvx,Act.put,Qvq,Qwx,Qwz,bj] at A ⊢;go_wp2_with fail;have g:=o.out;exact A _ _ L ⟨g.bel,g.c3,g.c4,g.c7,g.box,g.got,λ_=>rfl,g.n8⟩
 case zp10 =>
  intro D V r K L E hd g A;have o:=hid g;have q:=g.bel.size;clear g;refine aq 10 rfl ?_;simp only[ap,az,Qvz,Qwq,Qvx,Act.put,Qvq,Qwx,Qwz] at A ⊢;go_wp2_with fail;have g:=o.out;have bb:=(Below.refl r.heap.size r).alloc nlr (.cells #[.slice .none 0 0,.slice .none 0 0,.slice .none 0 0,.slice .none 0 0,.slice .none 0 0,.slice .none 0 0,.slice .none 0 0] 31);have f7:¬D 11=true:=λh=>by rw[(g.c7 h).2] at E;cases E
  refine A _ _ (Qqx (g.bel.trans (bb.mono q))) ⟨g.bel.trans (bb.mono q),g.c3,g.c4,λh=>absurd h f7,λ_=>⟨r.heap.size,rfl,q,_,Blk.mk' rfl rfl⟩,λU => ?_,g.n5,g.n8⟩;obtain⟨u,a1,J,G,M,P⟩:=g.got U;exact⟨u,a1.below bb,J,G,M,λh=>absurd h f7⟩
 case zp11 =>
  intro D V r K L E hd g A;have h7:D 10=true:=hd 10 (Qjz (by kernel_rfl)) (by simp);have h4:D 8=true:=hd 8 (Qjz (by kernel_rfl)) (by simp);have U:=g.c4 h4;obtain⟨B,ac,av,f,aa⟩:=g.box h7;obtain⟨u,a1,J,G,M,P⟩:=g.got U;have ah:=M h4;have o:=hid g;have t:=qa5 a1 J G aa ac;have H:=aa;obtain⟨zl,au,a7,ay,zc1,a8,zc2,bk,zc3,a6,zc4,an,zc5,ao,a0⟩:=z7 H;clear g a1 J G M P H aa;refine aq 11 rfl ?_;simp only[ap,az,Qvz,Qwq,Qvx,Act.put,Qvq,Qwx,Qwz,ah,ac] at A ⊢;go_wp2_with fail;have g:=o.out;have KZ:=s7b t.out.2.2.2.1 u;have bg:=s7w (b:=B) g.bel av u;have ch:DoU (doE p y x) (doT p y x) wr.heap.size u (set7 r B (.slice u.on.a u.on.n u.on.c) (.slice u.os.a u.os.n u.os.c) (.slice u.hs.a u.hs.n u.hs.c) (.slice u.ms.a u.ms.n u.ms.c) (.slice u.si.a u.si.n u.si.c) (.slice u.so.a u.so.n u.so.c) (.slice u.sf.a u.sf.n u.sf.c)):=⟨t.out.1.1,λe=>(t.out.1.2 e).set7 t.out.2.2.2.1 (.slice u.on.a u.on.n u.on.c) (.slice u.os.a u.os.n u.os.c) (.slice u.hs.a u.hs.n u.hs.c) (.slice u.ms.a u.ms.n u.ms.c) (.slice u.si.a u.si.n u.si.c) (.slice u.so.a u.so.n u.so.c) (.slice u.sf.a u.sf.n u.sf.c)⟩;unfold set7 at KZ bg ch;refine A undef _ (Qqx bg) ⟨bg,g.c3,g.c4,λ_=>⟨U,h7⟩,λ_=>⟨B,t.out.2.2.2.2,av,_,KZ⟩,λ_=>⟨u,ch,t.out.2.1,t.out.2.2.1,λ_=>ah,λ_ B' ec => ?_⟩,g.n5,g.n8⟩;have e:V 10 = .pointer (some ⟨B',0,none⟩):=ec;rw[t.out.2.2.2.2] at e;simp only[Value.pointer.injEq,Qkx,Qkz,and_true] at e;subst e;exact KZ.congr (λj hj=>by match j,hj with|0,_=>rfl|1,_=>rfl|2,_=>rfl|3,_=>rfl|4,_=>rfl|5,_=>rfl|6,_=>rfl)
 case zp12 =>
  intro D V r K L E hd g A;have ah:=g.n5 (hd 9 (Qjz (by kernel_rfl)) (by simp));have o:=hid g;clear g;refine aq 12 rfl ?_;simp only[ap,az,Qvz,Qwq,Qvx,Act.put,Qvq,Qwx,Qwz,ah] at A ⊢;go_wp2_with fail;have g:=o.out;exact A _ _ L ⟨g.bel,g.c3,g.c4,g.c7,g.box,g.got,g.n5,λ_=>rfl⟩
 intro D V WA L hd g;refine NoPanic.normal ?_;obtain⟨B,ac,av,f,aa⟩:=g.box (hd 10 (by simp));obtain⟨u,hR,J,G,M,P⟩:=g.got (hd 6 (by simp));have ed:=g.n8 (hd 12 (by simp));have KX:=P (hd 11 (by simp)) B ac;have bc:=hid g.bel;have aw:=hid hR;have b0:=hid KX;clear g J G M P aa hd L hR KX;simp only[ap,az,Qvz,Qwq,Qvx,Act.put,Qvq,Qwx,Qwz,ac,ed];have HU:Hid ((doE p y x=0->af u (jb p s (l.take (j+1))))/\(¬doE p y x=0->af y (jb p s (l.take (j+1))))):=by
  have:=Me (db.out j) F.out.2.2.2.1 dm.out aw.out.1;rw[<-dd.out] at this;exact this
 have Y:=qa3 (F.out.1.below bc.out) (F.out.2.1.below bc.out) (F.out.2.2.2.2.trans (bc.out.mono F.out.2.2.2.2.size));have cf:=qa2 F.out.2.2.2.2.size F.out.2.2.1;clear F;by_cases hE:doE p y x=0
 .have c1:Hid (af u (jb p s (l.take (j+1)))):=HU.out.1 hE;have cj:Hid (ai wr.heap.size WA u):=aw.out.2 hE;rw[hE];have H:=Y.out.1;obtain⟨zl,au,a7,ay,zc1,a8,zc2,bk,zc3,a6,zc4,an,zc5,ao,a0⟩:=z7 H;obtain⟨m1,p0,p1,p2,p3,p4,p5,p6⟩:=Boxed.of b0.out;have HN:Blk (set7 WA S (.slice u.on.a u.on.n u.on.c) (.slice u.os.a u.os.n u.os.c) (.slice u.hs.a u.hs.n u.hs.c) (.slice u.ms.a u.ms.n u.ms.c) (.slice u.si.a u.si.n u.si.c) (.slice u.so.a u.so.n u.so.c) (.slice u.sf.a u.sf.n u.sf.c)) S 31 7 (λj=>u.cells.getD j default)/\Fr wr.heap.size (set7 WA S (.slice u.on.a u.on.n u.on.c) (.slice u.os.a u.os.n u.os.c) (.slice u.hs.a u.hs.n u.hs.c) (.slice u.ms.a u.ms.n u.ms.c) (.slice u.si.a u.si.n u.si.c) (.slice u.so.a u.so.n u.so.c) (.slice u.sf.a u.sf.n u.sf.c)) u/\Below T.heap.size T (set7 WA S (.slice u.on.a u.on.n u.on.c) (.slice u.os.a u.os.n u.os.c) (.slice u.hs.a u.hs.n u.hs.c) (.slice u.ms.a u.ms.n u.ms.c) (.slice u.si.a u.si.n u.si.c) (.slice u.so.a u.so.n u.so.c) (.slice u.sf.a u.sf.n u.sf.c)):=⟨s7b H u,(cj.out.set7 H (.slice u.on.a u.on.n u.on.c) (.slice u.os.a u.os.n u.os.c) (.slice u.hs.a u.hs.n u.hs.c) (.slice u.ms.a u.ms.n u.ms.c) (.slice u.si.a u.si.n u.si.c) (.slice u.so.a u.so.n u.so.c) (.slice u.sf.a u.sf.n u.sf.c)).fr,s7w Y.out.2.2 de.out u⟩;unfold set7 at HN;have bl:Hid (_/\_/\_):=HN;clear HN hE H HU Y cj;go_wp2_with fail;clear zl au a7 ay zc1 a8 zc2 bk zc3 a6 zc4 an zc5 ao a0 m1 p0 p1 p2 p3 p4 p5 p6;go_roundw
  case rel=>exact⟨j+1,u,wr.heap.size,by omega,by go_num,bl.out.1,bl.out.2.1,cf.out.1,c1.out,bl.out.2.2⟩
  case measure=>simp[intOf];omega
 have bd:Hid (af y (jb p s (l.take (j+1)))):=HU.out.2 hE;have gE:(doE p y x==0)=false:=by simpa using hE
 clear hE HU b0 aw
 generalize doE p y x=EE at *
 go_wp2_with fail;go_roundw
 case rel=>exact⟨j+1,y,n,by omega,by go_num,Y.out.1,Y.out.2.1,cf.out.2,bd.out,Y.out.2.2⟩
 case measure=>simp[intOf];omega
def F7(w:World)(b:Nat)(v0 v1 v2 v3 v4 v5:Value):World:=((((((w.setCell ⟨b,0,none⟩ (v0)).setCell ⟨b,1,none⟩ (v1)).setCell ⟨b,2,none⟩ (v2)).setCell ⟨b,3,none⟩ (v3)).setCell ⟨b,4,none⟩ (v4)).setCell ⟨b,5,none⟩ (v5))
theorem Tf(h:Blk w b e 6 f)(k i c a g d:Value):Blk (F7 w b k i c a g d) b e 6 (λj=>(#[k,i,c,a,g,d]:Array Value).getD j default):=
 ((((((h.set 0 k).set 1 i).set 2 c).set 3 a).set 4 g).set 5 d).congr (λj l=>by match j,l with|0,_=>rfl|1,_=>rfl|2,_=>rfl|3,_=>rfl|4,_=>rfl|5,_=>rfl)
theorem Oa{A:World}(h:Below n A w)(a:n<=b)(i g d c f e:Value):Below n A (F7 w b i g d c f e):=
 (((((h.setCell (p:=⟨b,0,none⟩) a i).setCell (p:=⟨b,1,none⟩) a g).setCell (p:=⟨b,2,none⟩) a d).setCell (p:=⟨b,3,none⟩) a c).setCell (p:=⟨b,4,none⟩) a f).setCell (p:=⟨b,5,none⟩) a e
theorem Xp(h:Blk w g e n f)(c:g≠b)(m l i d k j:Value):Blk (F7 w b m l i d k j) g e n f :=
 (((((h.other (a:=⟨b,0,none⟩) c m).other (a:=⟨b,1,none⟩) c l).other (a:=⟨b,2,none⟩) c i).other (a:=⟨b,3,none⟩) c d).other (a:=⟨b,4,none⟩) c k).other (a:=⟨b,5,none⟩) c j
theorem Zs{base:Nat}{size:Nat}(k:w.ownsRow base e size v n xs){t:TypeId}(d:Blk w q t 6 f)(a:t≠e)(b c g h i j:Value):(F7 w q b c g h i j).ownsRow base e size v n xs :=
 vp (vp (vp (vp (vp (vp k d a 0 b) (d.set 0 b) a 1 c) ((d.set 0 b).set 1 c) a 2 g) (((d.set 0 b).set 1 c).set 2 g) a 3 h) ((((d.set 0 b).set 1 c).set 2 g).set 3 h) a 4 i) (((((d.set 0 b).set 1 c).set 2 g).set 3 h).set 4 i) a 5 j
def ad7(u:List UInt8)(w w':World)(e:Ending):Prop:=((mg u 0=true/\∃ls:Hs,e = .returned (.tuple #[(Ax.mk (rdN u 0) (rdN u 1) (rdN u 2) (rdN u 3) (rdN u 4) ls).val,.int .i64 (i7 u 0:Int)])/\ls.n=rdC u 0/\(∀j,j<rdC u 0->ls.z j=rdL u (6+4*j))/\cw w.heap.size 59 w' ls)\/(mg u 0=false/\e = .returned (.tuple #[.agg #[.int .i64 0,.int .i64 0,.int .i64 0,.int .i64 0,.int .i64 0,.slice none 0 0],.int .i64 0])))/\Below w.heap.size w w'
structure Vm(B:Nat)(u:List UInt8)(w wk:World)(v:Value)(n:Nat):Prop where
 x:Blk wk B 47 6 (hx u 0 v)
 o:wk.ownsRow w.heap.size 59 4 v n (ay n (λj=>rdL u (6+4*j)))
 z:Blk wk w.heap.size 47 6 zx
 b:Below w.heap.size w wk
theorem Tz(u:List UInt8)(w:World)(hu:u.length<=4096):
  Calls prog 24 #[.string ⟨u.toArray⟩] w λe T=>ad7 u w T e:=by
 have tl:((⟨u.toArray⟩:ByteArray).size)=u.length:=by simp[ByteArray.size]
 have P:Hid (Below w.heap.size w (w.alloc (.cells #[.int .i64 0,.int .i64 0,.int .i64 0,.int .i64 0,.int .i64 0,.slice none 0 0] 47))):=brf.alloc nlr _;by_cases h6:u.length<6
 .have E:mg u 0=false:=by
   cases c:mg u 0
   .rfl
   have:=(ri.1 c).1;omega
  have q1:(u.length:Int)<6:=by omega
  go_enter func24,ntmps24;go_wp2_with fail;refine Xzq (v := .tuple #[.agg #[.int .i64 0,.int .i64 0,.int .i64 0,.int .i64 0,.int .i64 0,.slice none 0 0],.int .i64 0]) (by simp[results,results24,go_sem]) rfl ?_;exact⟨Or.inr ⟨E,rfl⟩,P.out⟩
 have q1:¬(u.length:Int)<6:=by omega
 obtain⟨C,hC⟩:∃C,rdC u 0=C:=⟨_,rfl⟩;have av:rdN u 5=(C:Int):=by rw[<-hC];exact(Zu u 0).symm
 have cb:C<=255:=by have:=(v9 u 5).2;omega
 have i5:∀f,(Instr.index 9 (.string ⟨u.toArray⟩) (.int .i64 5)).run prog f = .ok (.int .u8 (C:Int)) f:=λf=>by
  have h:=tj u (k:=5) (by omega) f;rw[av] at h;exact h
 have s:Hid (rdC u 0=C/\i7 u 0=6+4*C):=⟨hC,by unfold i7;rw[hC]⟩;clear hC av;by_cases h3:3<C
 .have E:mg u 0=false:=by
   cases c:mg u 0
   .rfl
   have:=(ri.1 c).2.1;rw[s.out.1] at this;omega
  have q2:(3:Int)<(C:Int):=by omega
  go_enter func24,ntmps24;go_wp2_with fail;refine Xzq (v := .tuple #[.agg #[.int .i64 0,.int .i64 0,.int .i64 0,.int .i64 0,.int .i64 0,.slice none 0 0],.int .i64 0]) (by simp[results,results24,go_sem]) rfl ?_;exact⟨Or.inr ⟨E,rfl⟩,P.out⟩
 have q2:¬(3:Int)<(C:Int):=by omega
 by_cases hn:u.length<6+4*C
 .have E:mg u 0=false:=by
   cases c:mg u 0
   .rfl
   have:=(ri.1 c).2.2;rw[s.out.2] at this;omega
  have q3:(u.length:Int)<6+4*(C:Int):=by omega
  go_enter func24,ntmps24;go_wp2_with fail;refine Xzq (v := .tuple #[.agg #[.int .i64 0,.int .i64 0,.int .i64 0,.int .i64 0,.int .i64 0,.slice none 0 0],.int .i64 0]) (by simp[results,results24,go_sem]) rfl ?_;exact⟨Or.inr ⟨E,rfl⟩,P.out⟩
 have q3:¬(u.length:Int)<6+4*(C:Int):=by omega
 have Y:mg u 0=true:=ri.2 ⟨by omega,by rw[s.out.1];omega,by rw[s.out.2];omega⟩;have HY:=hid Y;have i0:∀f,(Instr.index 9 (.string ⟨u.toArray⟩) (.int .i64 0)).run prog f = .ok (.int .u8 (rdN u 0)) f:=λf=>tj u (k:=0) (by omega) f;obtain⟨r0,s0⟩:=v9 u 0;have i1:∀f,(Instr.index 9 (.string ⟨u.toArray⟩) (.int .i64 1)).run prog f = .ok (.int .u8 (rdN u 1)) f:=λf=>tj u (k:=1) (by omega) f;obtain⟨H,s1⟩:=v9 u 1;have i2:∀f,(Instr.index 9 (.string ⟨u.toArray⟩) (.int .i64 2)).run prog f = .ok (.int .u8 (rdN u 2)) f:=λf=>tj u (k:=2) (by omega) f;obtain⟨S,s2⟩:=v9 u 2;have i3:∀f,(Instr.index 9 (.string ⟨u.toArray⟩) (.int .i64 3)).run prog f = .ok (.int .u8 (rdN u 3)) f:=λf=>tj u (k:=3) (by omega) f;obtain⟨r3,s3⟩:=v9 u 3;have i4:∀f,(Instr.index 9 (.string ⟨u.toArray⟩) (.int .i64 4)).run prog f = .ok (.int .u8 (rdN u 4)) f:=λf=>tj u (k:=4) (by omega) f;obtain⟨r4,s4⟩:=v9 u 4;clear Y;obtain⟨W1,a4,a7,K1⟩:∃W,(w.alloc (.cells #[.int .i64 0,.int .i64 0,.int .i64 0,.int .i64 0,.int .i64 0,.slice none 0 0] 47))=W/\Below w.heap.size w W/\Blk W w.heap.size 47 6 zx:=⟨_,rfl,brf.alloc nlr _,Blk.mk' (cur:=#[.int .i64 0,.int .i64 0,.int .i64 0,.int .i64 0,.int .i64 0,.slice none 0 0]) rfl rfl⟩;have au:Hid ((w.alloc (.cells #[.int .i64 0,.int .i64 0,.int .i64 0,.int .i64 0,.int .i64 0,.slice none 0 0] 47))=W1):=a4;have A:=qa2 K1 a7;clear a4 a7 K1 P;go_enter func24,ntmps24;go_wp2_with fail;rw[au.out];clear au;refine fh (λT=>∃p:Regrown,T=grow (redrawn W1 p.d) p.os) [0,1,2,3,4,5,6,7,8,9,10,11,12,13,14,15] [16] [(true,17)] (Qqx (brf.drew)) ?_;simp only[du,Qyq,Xqq,Qyx,Qyz,Xqz,Xqx]
 repeat(go_big_quiet_step(fail))
 refine Qqz ?_;clear i0 i1 i2 i3 i4 i5 r0 s0 H s1 S s2 r3 s3 r4 s4;refine⟨λj v g f=>j=16->∃B,v = .pointer (some ⟨B,0,none⟩)/\g=[B]/\W1.heap.size<=B/\Blk f B 47 6 zx,Qjx ⟨λv g w T hB h e => ?_,Qjq _⟩,Qjx ⟨λv g w h => ?_,Qjq _⟩,Qjx ⟨?zt16,Qjq _⟩,?ztdone⟩
 .obtain⟨B,h1,h2,h3,h4⟩:=h e;exact⟨B,h1,h2,h3,h4.below hB⟩
 .obtain⟨B,-,h2,-,h4⟩:=h rfl;rw[h2];intro x hx;rw[List.mem_singleton] at hx;rw[hx];exact h4.lt
 case zt16 =>
  intro V G f K M hd L;have J:=ae M;refine aq 16 rfl ?_;simp only[ap,az,Qvz,Qwq,Qvx,Act.put,Qvq,Qwx,Qwz] at L ⊢;go_wp2_with fail;exact L _ [f.heap.size] _ (Qqx (J.alloc J.size _)) (brf.alloc nlr _) (λx hx=>(by rw[List.mem_singleton] at hx;omega)) (λ_=>⟨f.heap.size,rfl,rfl,J.size,Blk.mk' (cur:=#[.int .i64 0,.int .i64 0,.int .i64 0,.int .i64 0,.int .i64 0,.slice none 0 0]) rfl rfl⟩)
 intro V G' f M hD hA;obtain⟨B,bn,-,bt,m⟩:=hD 16 (by simp) rfl;have J:=ae M;clear M hD hA;simp only[ap,az,Qvz,Qwq,Qvx,Act.put,Qvq,Qwx,Qwz,bn];have zl:=m.lt;have an:=m.frozen 0;have a3:f.cell? ⟨B,0,none⟩=some (.int .i64 0):=m.k 0;have ax:=m.frozen 1;have zc1:f.cell? ⟨B,1,none⟩=some (.int .i64 0):=m.k 1;have a5:=m.frozen 2;have zc2:f.cell? ⟨B,2,none⟩=some (.int .i64 0):=m.k 2;have a9:=m.frozen 3;have zc3:f.cell? ⟨B,3,none⟩=some (.int .i64 0):=m.k 3;have a0:=m.frozen 4;have zc4:f.cell? ⟨B,4,none⟩=some (.int .i64 0):=m.k 4;have am:=m.frozen 5;have zc5:f.cell? ⟨B,5,none⟩=some (.slice none 0 0):=m.k 5;have a6:=A.out.2.size;have ad:Vm B u w (F7 f B (.int .i64 (rdN u 0)) (.int .i64 (rdN u 1)) (.int .i64 (rdN u 2)) (.int .i64 (rdN u 3)) (.int .i64 (rdN u 4)) (.slice none 0 0)) (.slice none 0 0) 0:=⟨(Tf m (.int .i64 (rdN u 0)) (.int .i64 (rdN u 1)) (.int .i64 (rdN u 2)) (.int .i64 (rdN u 3)) (.int .i64 (rdN u 4)) (.slice none 0 0)).congr (λj hj=>by match j,hj with|0,_=>rfl|1,_=>rfl|2,_=>rfl|3,_=>rfl|4,_=>rfl|5,_=>rfl),World.ownsRow_nil _ _ _ _,Xp (A.out.1.below J) (by have:=A.out.1.lt;omega) (.int .i64 (rdN u 0)) (.int .i64 (rdN u 1)) (.int .i64 (rdN u 2)) (.int .i64 (rdN u 3)) (.int .i64 (rdN u 4)) (.slice none 0 0),Oa (A.out.2.trans (J.mono a6)) (by omega) (.int .i64 (rdN u 0)) (.int .i64 (rdN u 1)) (.int .i64 (rdN u 2)) (.int .i64 (rdN u 3)) (.int .i64 (rdN u 4)) (.slice none 0 0)⟩;unfold F7 at ad;have HM:=hid ad;have ba:Hid (w.heap.size≠B/\w.heap.size<=B):=⟨by have:=A.out.1.lt;omega,by omega⟩;clear ad m J bt a6 A;refine cf 17 rfl ?_;go_wp2_with fail;refine⟨gy.yes,?_⟩;clear zl an a3 ax zc1 a5 zc2 a9 zc3 a0 zc4 am zc5
 generalize ((((((f.setCell ⟨B,0,none⟩ (.int .i64 (rdN u 0))).setCell ⟨B,1,none⟩ (.int .i64 (rdN u 1))).setCell ⟨B,2,none⟩ (.int .i64 (rdN u 2))).setCell ⟨B,3,none⟩ (.int .i64 (rdN u 3))).setCell ⟨B,4,none⟩ (.int .i64 (rdN u 4))).setCell ⟨B,5,none⟩ (.slice none 0 0))=W3 at *
 refine NoPanic.normal ?_;obtain⟨iL,b9,bp,bv,b0⟩:=info_parts Cv;go_wp2_with fail
 go_loopw [6] (λkv D=>∃(j:Nat) (a:Option Addr) (c:Nat),j<=C/\kv = .int .i64 ((6+4*j:Nat):Int)/\Hid (Vm B u w D (.slice a j c) j)) (λkv _=>6+4*C-(intOf kv).toNat)
 case atStart=>exact⟨0,none,0,Qxz _,rfl,HM⟩
 rename_i y0;obtain⟨j,a,c,hj,rfl,q⟩:=hrel;clear HM;have x0:wr.cell? ⟨B,0,none⟩=some (.int .i64 (rdN u 0)):=q.out.x.k 0;have x1:wr.cell? ⟨B,1,none⟩=some (.int .i64 (rdN u 1)):=q.out.x.k 1;have x2:wr.cell? ⟨B,2,none⟩=some (.int .i64 (rdN u 2)):=q.out.x.k 2;have x3:wr.cell? ⟨B,3,none⟩=some (.int .i64 (rdN u 3)):=q.out.x.k 3;have x4:wr.cell? ⟨B,4,none⟩=some (.int .i64 (rdN u 4)):=q.out.x.k 4;have x5:wr.cell? ⟨B,5,none⟩=some (.slice a j c):=q.out.x.k 5;have xl:=q.out.x.lt;by_cases c5:j<C;rotate_left
 .have q4:¬((6+4*j:Nat):Int)<6+4*(C:Int):=by omega
  have bu:j=C:=by omega
  subst bu;obtain⟨ls,hv,ho,Q,hz⟩:=cw.ofRow q.out.o nlr;have HO:=qa3 hv Q hz;have m:=q.out.z;have zl:=m.lt;have an:=m.frozen 0;have a3:wr.cell? ⟨w.heap.size,0,none⟩=some (.int .i64 0):=m.k 0;have ax:=m.frozen 1;have zc1:wr.cell? ⟨w.heap.size,1,none⟩=some (.int .i64 0):=m.k 1;have a5:=m.frozen 2;have zc2:wr.cell? ⟨w.heap.size,2,none⟩=some (.int .i64 0):=m.k 2;have a9:=m.frozen 3;have zc3:wr.cell? ⟨w.heap.size,3,none⟩=some (.int .i64 0):=m.k 3;have a0:=m.frozen 4;have zc4:wr.cell? ⟨w.heap.size,4,none⟩=some (.int .i64 0):=m.k 4;have am:=m.frozen 5;have zc5:wr.cell? ⟨w.heap.size,5,none⟩=some (.slice none 0 0):=m.k 5;have af:Blk (F7 wr w.heap.size (.int .i64 (rdN u 0)) (.int .i64 (rdN u 1)) (.int .i64 (rdN u 2)) (.int .i64 (rdN u 3)) (.int .i64 (rdN u 4)) (.slice a j c)) w.heap.size 47 6 (λi=>(#[.int .i64 (rdN u 0),.int .i64 (rdN u 1),.int .i64 (rdN u 2),.int .i64 (rdN u 3),.int .i64 (rdN u 4),.slice a j c]:Array Value).getD i default)/\Below w.heap.size w (F7 wr w.heap.size (.int .i64 (rdN u 0)) (.int .i64 (rdN u 1)) (.int .i64 (rdN u 2)) (.int .i64 (rdN u 3)) (.int .i64 (rdN u 4)) (.slice a j c))/\(F7 wr w.heap.size (.int .i64 (rdN u 0)) (.int .i64 (rdN u 1)) (.int .i64 (rdN u 2)) (.int .i64 (rdN u 3)) (.int .i64 (rdN u 4)) (.slice a j c)).ownsRow w.heap.size 59 4 (.slice a j c) j (ay j (λj=>rdL u (6+4*j))):=⟨Tf m (.int .i64 (rdN u 0)) (.int .i64 (rdN u 1)) (.int .i64 (rdN u 2)) (.int .i64 (rdN u 3)) (.int .i64 (rdN u 4)) (.slice a j c),Oa q.out.b nlr (.int .i64 (rdN u 0)) (.int .i64 (rdN u 1)) (.int .i64 (rdN u 2)) (.int .i64 (rdN u 3)) (.int .i64 (rdN u 4)) (.slice a j c),Zs q.out.o m (by decide) (.int .i64 (rdN u 0)) (.int .i64 (rdN u 1)) (.int .i64 (rdN u 2)) (.int .i64 (rdN u 3)) (.int .i64 (rdN u 4)) (.slice a j c)⟩;unfold F7 at af;have F:Hid (_/\_/\_):=af;clear af m ho hv Q hz q;go_wp2_with fail;have b8:=F.out.1.k 0;have bz:=F.out.1.k 1;have bw:=F.out.1.k 2;have b6:=F.out.1.k 3;have bo:=F.out.1.k 4;have b3:=F.out.1.k 5;obtain⟨ls,hv,ho,Q,hz⟩:=cw.ofRow F.out.2.2 nlr;refine Xzq (v := .tuple #[.agg #[.int .i64 (rdN u 0),.int .i64 (rdN u 1),.int .i64 (rdN u 2),.int .i64 (rdN u 3),.int .i64 (rdN u 4),.slice a j c],.int .i64 (6+4*(j:Int))]) (by simp[results,results24,go_sem,b8,bz,bw,b6,bo,b3]) rfl ?_;refine⟨Or.inl ⟨HY.out,ls,?_,by rw[Q,s.out.1],λi _=>by rw[hz],ho⟩,F.out.2.1⟩;rw[s.out.2];simp only[Ax.val,Ax.cells];have br:Value.slice a j c = .slice ls.a ls.n ls.c:=hv;rw[<-br];simp
 obtain⟨K,L⟩:∃K,6+4*j=K:=⟨_,rfl⟩;have q4:(K:Int)<6+4*(C:Int):=by omega
 have HZ:Hid (rdL u (6+4*j)=⟨rdN u K,rdN u (K+1),rdN u (K+2),rdN u (K+3)⟩/\6+4*(j+1)=K+4):=⟨by rw[L];rfl,by omega⟩;have n0:∀f,(Instr.index 9 (.string ⟨u.toArray⟩) (.int .i64 (K:Int))).run prog f = .ok (.int .u8 (rdN u K)) f:=λf=>tj u (k:=K) (by omega) f;have n1:∀f,(Instr.index 9 (.string ⟨u.toArray⟩) (.int .i64 ((K:Int)+1))).run prog f = .ok (.int .u8 (rdN u (K+1))) f:=λf=>tj u (k:=K+1) (by omega) f;have n2:∀f,(Instr.index 9 (.string ⟨u.toArray⟩) (.int .i64 ((K:Int)+2))).run prog f = .ok (.int .u8 (rdN u (K+2))) f:=λf=>tj u (k:=K+2) (by omega) f;have n3:∀f,(Instr.index 9 (.string ⟨u.toArray⟩) (.int .i64 ((K:Int)+3))).run prog f = .ok (.int .u8 (rdN u (K+3))) f:=λf=>tj u (k:=K+3) (by omega) f;obtain⟨r0,s0⟩:=v9 u K;obtain⟨H,s1⟩:=v9 u (K+1);obtain⟨S,s2⟩:=v9 u (K+2);obtain⟨r3,s3⟩:=v9 u (K+3);have c6:Hid (K+4<=6+4*C):=by show _<=_;omega
 have c4:K<=4096:=by omega
 rw[L];have c7:=hid L;clear L;have b2:=Qqq x5;clear x0 x1 x2 x3 x4;go_wp2_with fail;refine fh (λT=>∃p:Regrown,T=grow (redrawn wr p.d) p.os) [0,1,2,3,4,5,6,7,8,9,10,11,12,13,14,15,16,17,18,19,20,21] [] [(false,22),(true,23),(true,24),(true,25)] (Qqx (brf.drew)) ?_;simp only[du,Qyq,Xqq,Qyx,Qyz,Xqz,Xqx]
 repeat(go_big_quiet_step(fail))
 refine Qqz ?_;clear b2 n0 n1 n2 n3 r0 s0 H s1 S s2 r3 s3 x5 xl;refine⟨λ_ _ _ _=>True,Qjq _,Qjq _,Qjq _,λV G D M _ _ => ?_⟩;have aa:=ae M;clear M;obtain⟨Z,hZ⟩:∃Z,rdL u (6+4*j)=Z:=⟨_,rfl⟩;have U:=HZ.out.1;rw[hZ] at U;obtain⟨W9,ac,ab⟩:∃W,D.alloc (.cells #[.int .i64 Z.o,.int .i64 Z.l,.int .i64 Z.b,.int .i64 Z.n] 59)=W/\Below D.heap.size D W:=⟨_,rfl,brf.alloc nlr _⟩;have a8:Hid (∀j u,(dc Z)[j]?=some u->W9.cell? ((⟨D.heap.size,0,none⟩:Addr).add j)=some u):=by rw[<-ac];exact Zp D Z _
 have t:=aa.trans (ab.mono aa.size);have aw:Hid (D.alloc (.cells #[.int .i64 (rdN u K),.int .i64 (rdN u (K+1)),.int .i64 (rdN u (K+2)),.int .i64 (rdN u (K+3))] 59)=W9):=by
  have h:=ac;rw[U] at h;exact h
 have r:Hid (Vm B u w W9 (.slice a j c) j):=⟨q.out.x.below t,j6 q.out.o t,q.out.z.below t,q.out.b.trans (t.mono q.out.b.size)⟩;have X:=hid r.out.b.size;have ao:=hid t;have a1:=hid hZ;clear hZ U ac ab t aa q;simp only[ap];refine cf 22 rfl ?_;go_wp2_with fail;rw[aw.out];refine⟨gy.no (Qqx ao.out),?_⟩;refine cf 23 rfl ?_;go_wp2_with(at_builtin;refine wpList_append_own W9 rfl (.tmp 48) (.tmp 69) 45 rfl w.heap.size 59 iL (.agg #[.int .i64 0,.int .i64 0,.int .i64 0,.int .i64 0]) 4 32 underlying45 b9 bp bv b0 rfl (by decide) (.slice a j c) j (ay j (λj=>rdL u (6+4*j))) rfl r.out.o ⟨D.heap.size,0,none⟩ 1 1 (dc Z) rfl rfl a8.out (λu hu=>by simp[dc] at hu;rcases hu with rfl|rfl|rfl|rfl<;>rfl) (by unfold maxLen;omega) (by omega) X.out ?_);intro v2 w6 H S _;obtain⟨a2,c2,rfl,-⟩:=vq H;have ar:w6.ownsRow w.heap.size 59 4 (.slice a2 (j+1) c2) (j+1) (ay (j+1) (λj=>rdL u (6+4*j))):=by
  rw[tw,a1.out];exact H
 have hg:=Ae r.out.o S;have y:=hg.blk r.out.x (by decide);have b4:Hid (Vm B u w (w6.setCell ⟨B,5,none⟩ (.slice a2 (j+1) c2)) (.slice a2 (j+1) c2) (j+1)):=⟨(y.set 5 _).congr (λi hi=>by match i,hi with|0,_=>rfl|1,_=>rfl|2,_=>rfl|3,_=>rfl|4,_=>rfl|5,_=>rfl),vp ar y (by decide) 5 _,(hg.blk r.out.z (by decide)).other (a:=⟨B,5,none⟩) ba.out.1 _,(hg.below r.out.b nlr X.out).setCell (p:=⟨B,5,none⟩) ba.out.2 _⟩;have y5:w6.cell? ⟨B,5,none⟩=some (.slice a j c):=y.k 5;have y6:=y.frozen 5;have y7:=y.lt;clear H S ar hg y r a8 aw X ao a1;refine l8 ⟨gy.yes,?_⟩;refine cf 24 rfl ?_;go_wp2_with fail;refine⟨gy.yes,?_⟩;refine cf 25 rfl ?_;go_wp2_with fail;refine⟨gy.yes,?_⟩;refine NoPanic.normal ?_;go_wp2_with fail;go_roundw
 case rel=>exact⟨j+1,a2,c2,by omega,by rw[HZ.out.2];go_num,b4.out⟩
 case measure=>simp[intOf];omega
theorem Yz(t:List UInt8)(k:Nat):(⟨t.toArray⟩:ByteArray).extract k t.length=⟨(t.drop k).toArray⟩:=by
 apply ByteArray.ext
 simp only[ByteArray.data_extract,List.extract_toArray,List.extract_eq_take_drop];rw[List.take_of_length_le (by simp)]
theorem Uz{k:Nat}(h:k<=t.length):mg (t.drop k) 0=mg t k/\i7 (t.drop k) 0=i7 t k/\rdC (t.drop k) 0=rdC t k/\(∀i,rdN (t.drop k) i=rdN t (k+i))/\∀i,rdL (t.drop k) i=rdL t (k+i):=by
 have e:t.take k++t.drop k=t:=List.take_append_drop k t;have g:(t.take k).length=k:=by simp;omega
 have f:=Qr (t.take k) (t.drop k) 0;have d:=F5 (t.take k) (t.drop k) 0;have a:=Ej (t.take k) (t.drop k) 0;have c:=tp (t.take k) (t.drop k);have b:=S7 (t.take k) (t.drop k);rw[e,g] at f d a c b;exact⟨f.symm,d.symm,a.symm,λi=>(c i).symm,λi=>(b i).symm⟩
theorem Rq(t:List UInt8)(w:World):
  Calls prog 10 #[.string ⟨t.toArray⟩] w λe w'=>∃s:As,e = .returned (.tuple #[s.val,.int .i64 (C4 t:Int),.int .i64 (tt t)])/\Gy t w w' s:=by
 have tl:((⟨t.toArray⟩:ByteArray).size)=t.length:=by simp[ByteArray.size]
 by_cases d:4096<t.length
 .have q1:(4096:Int)<(t.length:Int):=by omega
  have q:Hid (tt t=2/\C4 t=0/\nf t=[]):=⟨if_pos d,if_pos d,if_pos d⟩;go_enter func10,ntmps10;go_wp2_with fail;refine Xzq (v := .tuple #[.slice none 0 0,.int .i64 0,.int .i64 2]) (by simp[results,results10,go_sem]) rfl ?_;refine⟨⟨none,0,0,λ_=>⟨0,0,0,0,0,⟨none,0,0,λ_=>⟨0,0,0,0⟩⟩⟩⟩,by rw[q.out.1,q.out.2.1];rfl,by rw[q.out.2.2];rfl,λi hi => ?_,⟨Nat.le_refl _,Qxz _,λhi=>absurd hi (Qzq _),λi hi=>absurd hi (Qzq _)⟩,Below.refl _ _⟩;rw[q.out.2.2] at hi;exact absurd hi (Qzq _)
 have q1:¬(4096:Int)<(t.length:Int):=by omega
 have HT:Hid (t.length<=4096):=by show _<=_;omega
 have q:Hid (tt t=0):=if_neg d;obtain⟨iA,ag,aw,ao,ah⟩:=info_parts U4;have V:Hid (Rep 0 t w w (.slice none 0 0) [] (λ_=>⟨0,0,0,0,0,⟨none,0,0,λ_=>⟨0,0,0,0⟩⟩⟩)):=⟨World.ownsRow_nil _ _ _ _,λi h=>absurd h (Qzq _),Qxz _,Below.refl _ _,rfl⟩;clear d;go_enter func10,ntmps10;go_wp2_with fail
 go_loopw [5,6] (λav kv wk=>∃(l:List Ax) (zs:Nat->Ax) (a:Option Addr) (c k:Nat),l.length<=60/\av = .slice a l.length c/\kv = .int .i64 (k:Int)/\Hid (Rep k t w wk (.slice a l.length c) l zs)) (λav _ _=>60-Rg av)
 case atStart=>exact⟨[],_,none,0,0,Qxz _,rfl,rfl,V⟩
 rename_i u0 u1;obtain⟨l,zs,a,c,k,hl,rfl,rfl,p⟩:=hrel;clear V;have kl:=p.out.kl;have kb:=HT.out;by_cases ap:l.length<60;rotate_left
 .have q2:¬(l.length:Int)<60:=by omega
  have Y:Hid (∃s:As,.slice a l.length c=s.val/\Gy t w wr s/\C4 t=k):=p.out.done HT.out (by rw[show 60-l.length=0 by omega];rfl);clear p;go_wp2_with fail;obtain⟨s,hv,E,hN⟩:=Y.out;refine Xzq (v := .tuple #[.slice a l.length c,.int .i64 (k:Int),.int .i64 0]) (by simp[results,results10,go_sem]) rfl ?_;exact⟨s,by rw[hv,q.out,hN],E⟩
 have q2:(l.length:Int)<60:=by omega
 have q3:(0:Int)<=(k:Int):=by omega
 have q4:(k:Int)<=(t.length:Int):=by omega
 go_wp2_with fail;rw[Yz];refine(Tz (t.drop k) wr (by simp;omega)).mono ?_;rintro e f ⟨⟨g,ls,rfl,hn,hz,ho⟩|⟨F,rfl⟩,H⟩
 .obtain⟨k1,k2,k3,r,k5⟩:=Uz kl;rw[k1] at g;rw[k3] at hn hz;have M:ru (Ax.mk (rdN (t.drop k) 0) (rdN (t.drop k) 1) (rdN (t.drop k) 2) (rdN (t.drop k) 3) (rdN (t.drop k) 4) ls) (rdA t k):=⟨r 0,r 1,r 2,r 3,r 4,hn,λj hj=>by
   have S:j<rdC t k:=hj;show ls.z j=rdZ t k j;rw[S8 S,hz j S,k5,<-Nat.add_assoc]⟩
  rw[k2]
  generalize hxe:Ax.mk (rdN (t.drop k) 0) (rdN (t.drop k) 1) (rdN (t.drop k) 2) (rdN (t.drop k) 3) (rdN (t.drop k) 4) ls=x at *
  have J:x.ls=ls:=by rw[<-hxe]
  obtain⟨y,B,D⟩:∃W,(f.alloc (.cells #[.int .i64 x.k,.int .i64 x.a,.int .i64 x.b,.int .i64 x.c,.int .i64 x.n,.slice x.ls.a x.ls.n x.ls.c] 47)).alloc (.cells #[.int .i64 x.k,.int .i64 x.a,.int .i64 x.b,.int .i64 x.c,.int .i64 x.n,.slice x.ls.a x.ls.n x.ls.c] 47)=W/\Below f.heap.size f W:=⟨_,rfl,ix _ _ _⟩;have P:Hid ((f.alloc (.cells #[.int .i64 x.k,.int .i64 x.a,.int .i64 x.b,.int .i64 x.c,.int .i64 x.n,.slice x.ls.a x.ls.n x.ls.c] 47)).alloc (.cells #[.int .i64 x.k,.int .i64 x.a,.int .i64 x.b,.int .i64 x.c,.int .i64 x.n,.slice x.ls.a x.ls.n x.ls.c] 47)=y):=B;have T:Hid (∀j u,(p9 x)[j]?=some u->y.cell? ((⟨f.heap.size+1,0,none⟩:Addr).add j)=some u):=by
   have h:=ab8 (f.alloc (.cells #[.int .i64 x.k,.int .i64 x.a,.int .i64 x.b,.int .i64 x.c,.int .i64 x.n,.slice x.ls.a x.ls.n x.ls.c] 47)) x 47;rw[B] at h;intro j u hj;have:=h j u hj
   simpa using this
  have m:Hid (Rep k t w y (.slice a l.length c) l zs):=(p.out.below H).below D;have U:Hid (cw w.heap.size 59 y x.ls):=by
   show cw _ _ _ _;rw[J];exact(ho.mono p.out.b.size).below D
  have A:=qa2 M g;have Q:=hid m.out.b.size;have az:=(ri.1 g).2.2;have g0:((i7 t k:Int)==0)=false:=by
   have:¬(i7 t k:Int)=0:=by unfold i7;omega
   simpa using this
  clear hn hz ho M hxe J g B D H p k1 k2 k3 r k5;simp only[Ax.val,Ax.cells];obtain⟨K2,G⟩:∃K,i7 t k=K:=⟨_,rfl⟩;rw[G] at az g0 ⊢;have al:=hid G;clear G;go_wp2_with(at_builtin;rw[P.out];refine wpList_append_own y rfl (.tmp 24) (.tmp 26) 36 rfl w.heap.size 47 iA (.agg #[.int .i64 0,.int .i64 0,.int .i64 0,.int .i64 0,.int .i64 0,.slice none 0 0]) 6 64 underlying36 ag aw ao ah rfl (by decide) (.slice a l.length c) l.length (vj l.length zs) rfl m.out.o ⟨f.heap.size+1,0,none⟩ 1 1 (p9 x) rfl rfl T.out (λu hu=>by simp[p9] at hu;rcases hu with rfl|rfl|rfl|rfl|rfl|rfl<;>rfl) (by unfold maxLen;omega) (by omega) Q.out ?_);intro v2 w6 X r2 _;obtain⟨a2,c2,rfl,-⟩:=vq X;have hg:=Ae m.out.o r2;have ak:Hid (Rep (k+K2) t w w6 (.slice a2 (l.length+1) c2) (l++[rdA t k]) (Dh l.length zs x)):=by
   have h:=m.out.more A.out.2 A.out.1 U.out ap hg X;rw[al.out] at h;exact h
  clear X r2 hg m U A T P Q
  try simp only[Act.put,Qvq,Qwx,Qwz]
  go_wp2_with fail;go_roundw
  case rel=>exact⟨l++[rdA t k],Dh l.length zs x,a2,c2,k+K2,by simp;omega,by simp,by go_num,(by rw[show(l++[rdA t k]).length=l.length+1 by simp];exact ak.out)⟩
  case measure=>simp[Rg];omega
 rw[(Uz kl).1] at F;have L:Below f.heap.size f (f.alloc (.cells #[.int .i64 0,.int .i64 0,.int .i64 0,.int .i64 0,.int .i64 0,.slice none 0 0] 47)):=brf.alloc nlr _;have Y:Hid (∃s:As,.slice a l.length c=s.val/\Gy t w (f.alloc (.cells #[.int .i64 0,.int .i64 0,.int .i64 0,.int .i64 0,.int .i64 0,.slice none 0 0] 47)) s/\C4 t=k):=((p.out.below H).below L).done HT.out (Km F);clear p H F L;go_wp2_with fail;obtain⟨s,hv,E,hN⟩:=Y.out;refine Xzq (v := .tuple #[.slice a l.length c,.int .i64 (k:Int),.int .i64 0]) (by simp[results,results10,go_sem]) rfl ?_;exact⟨s,by rw[hv,q.out,hN],E⟩
theorem abp{z:St}(a:et p=0)(i:tt t=0)(e:Es p t y)(b:td p s)(f:af z (jb p s (nf t))):af y z/\ar p y:=by
 have h:pu p t=0:=by unfold pu;rw[if_pos a];exact i
 obtain⟨s1,b1,c⟩:=e.1 h;have g:ar p s:=dp (qd a b);have d:ar p s1:=dp (qd a b1);exact⟨c.trans ((Az g (Fs b1 b) (z5.self (nf t))).trans f.symm),c.right (wn (nf t) d)⟩
theorem Lw(p:Pl)(t:List UInt8)(w:World)(hp:p.At w):
  Calls prog 3 #[p.val,.string ⟨t.toArray⟩] w λe w'=>e = .returned (.bool true)/\Below w.heap.size w w':=by
 obtain⟨L,hW,T,X0⟩:∃W,w.alloc (.cells #[.slice p.ab p.nb p.cb,.slice p.sa p.ns p.cs] 25)=W/\Below w.heap.size w W/\Blk W w.heap.size 25 2 (λj=>(#[.slice p.ab p.nb p.cb,.slice p.sa p.ns p.cs]:Array Value).getD j default):=⟨_,rfl,brf.alloc nlr _,Blk.mk' rfl rfl⟩;have HC:Hid (∀wk,Below L.heap.size L wk->Blk wk w.heap.size 25 2 (λj=>(#[.slice p.ab p.nb p.cb,.slice p.sa p.ns p.cs]:Array Value).getD j default)/\p.At wk/\Below w.heap.size w wk):=λwk h=>⟨X0.below h,(hp.below T).below h,T.trans (h.mono T.size)⟩;have HW:Hid (w.alloc (.cells #[.slice p.ab p.nb p.cb,.slice p.sa p.ns p.cs] 25)=L):=hW;have U:Hid (Below L.heap.size L L):=Below.refl _ _;clear hW X0 hp T;unfold Pl.val;go_enter func3,ntmps3;go_wp2_with fail;rw[HW.out];clear HW;refine(Kt p t L (HC.out L U.out).2.1).mono ?_;rintro e w1 ⟨y,rfl,a5,a3,x⟩;have g:=hid a3;obtain⟨M,az,aj,KY⟩:=ab7 w1 y;have am:=hid az;have d:=hid (U.out.trans ((x.trans (aj.mono x.size)).mono U.out.size));have v:=qa2 (a5.below aj) KY;clear az aj KY a5 a3 x U;simp only[St.val];obtain⟨A,-,-⟩:=HC.out M d.out;have d0:M.cell? ⟨w.heap.size,0,none⟩=some (.slice p.ab p.nb p.cb):=A.k 0;have d1:M.cell? ⟨w.heap.size,1,none⟩=some (.slice p.sa p.ns p.cs):=A.k 1;have dl:=A.lt;clear A;rw[<-am.out] at d0 d1 dl;go_wp2_with fail;rw[am.out];clear am d0 d1 dl
 generalize w1.heap.size=By at *
 refine(Af p M (HC.out M d.out).2.1).mono ?_;rintro e w3 ⟨rfl,x⟩;have au:=hid x;clear x;go_wp2_with fail;refine(Rq t w3).mono ?_;rintro e F ⟨ah,rfl,an,P,B,x⟩;have HA:=qa3 an P B.at;have E:=hid (au.out.trans (x.mono au.out.size));have ck:=B.le;have bg:=B.cap;have cl:ah.n<=60:=by rw[an];exact Tc t
 clear x au an P B;unfold maxLen at bg;obtain⟨D,a1,ai,KW⟩:∃W,F.alloc (.cells #[.slice .none 0 0,.slice .none 0 0,.slice .none 0 0,.slice .none 0 0,.slice .none 0 0,.slice .none 0 0,.slice .none 0 0] 31)=W/\Below F.heap.size F W/\Blk W F.heap.size 31 7 (λ_ => .slice .none 0 0):=⟨_,rfl,brf.alloc nlr _,(Blk.mk' (cur:=#[.slice .none 0 0,.slice .none 0 0,.slice .none 0 0,.slice .none 0 0,.slice .none 0 0,.slice .none 0 0,.slice .none 0 0]) (by simp) rfl).congr (λj hj=>by match j,hj with|0,_=>rfl|1,_=>rfl|2,_=>rfl|3,_=>rfl|4,_=>rfl|5,_=>rfl|6,_=>rfl)⟩;have K:Hid (F.alloc (.cells #[.slice .none 0 0,.slice .none 0 0,.slice .none 0 0,.slice .none 0 0,.slice .none 0 0,.slice .none 0 0,.slice .none 0 0] 31)=D):=a1;have m:=hid (E.out.trans (ai.mono E.out.size));have Q:=hid (d.out.trans (m.out.mono d.out.size));have q:=qa4 KW (HA.out.2.2.below ai) E.out.size (Qzx d.out.size E.out.size);clear a1 ai KW E;simp only[As.val];by_cases r:pu p t=0;rotate_left
 .have X:Hid (af y j5/\y.os.n<=1000/\y.ms.n<=1000/\∀i,i<y.os.n->(y.os.z i).ls.n<=1000):=by
   have h:=g.out.2 r;obtain⟨-,n2,-,n4,-⟩:=id h;exact⟨Di h ⟨rfl,rfl,rfl,rfl,rfl,rfl,rfl⟩,by omega,by omega,λi hi=>by omega⟩
  have hN:zq p t=0:=if_neg r;rw[hN];by_cases u:et p=0
  all_goals
   first | (have hR:pu p t=tt t:=if_pos u;rw[hR] at r ⊢;rw[u];have g1:(tt t==0)=false:=(by simpa using r);have g2:(tt t==tt t)=true:=(by simp);clear hN hR g u;generalize tt t=EE at *) | (have hR:pu p t=et p:=if_neg u;rw[hR];have g1:(et p==0)=false:=(by simpa using u);have g2:(et p==et p)=true:=(by simp);clear hN hR g u r;generalize et p=EE at *)
   have o:=hid Q.out;have s:=qa2 (v.out.1.below m.out) (v.out.2.below m.out);have l:Hid (j5.At D/\Blk D F.heap.size 31 7 (λj=>j5.cells.getD j default)):=⟨uo _,q.out.1.congr (λj hj=>by match j,hj with|0,_=>rfl|1,_=>rfl|2,_=>rfl|3,_=>rfl|4,_=>rfl|5,_=>rfl|6,_=>rfl)⟩;clear Q m q v d;go_wp2_with fail;rw[K.out];clear K
   generalize F.heap.size=f at *
   refine(qs D).mono ?_;rintro e wb ⟨rfl,b⟩;have H:=hid (o.out.trans (b.mono o.out.size));have G:=qa2 (s.out.1.below b) (s.out.2.below b);have J:=qa2 (l.out.1.below b) (l.out.2.below b);clear b o s l;obtain⟨m1,p0,p1,p2,p3,p4,p5,p6⟩:=Boxed.of G.out.2;obtain⟨m2,t0,t1,t2,t3,t4,t5,t6⟩:=Boxed.of J.out.2;have ao:Hid (_):=uy y j5 wb G.out.1 J.out.1 X.out.1 X.out.2.1 X.out.2.2.1 X.out.2.2.2;go_wp2_with fail;clear m1 p0 p1 p2 p3 p4 p5 p6 m2 t0 t1 t2 t3 t4 t5 t6;refine Calls.mono ao.out ?_;rintro e wd ⟨rfl,aq⟩;go_wp2_with fail;go_ret;exact⟨by simp,(HC.out wd (H.out.trans (aq.mono H.out.size))).2.2⟩
 have u:et p=0:=by
  cases hd:decide (et p=0)
  .have h:¬et p=0:=of_decide_eq_false hd;have e:pu p t=et p:=if_neg h;rw[e] at r;exact absurd r h
  exact of_decide_eq_true hd
 have hr:tt t=0:=by
  have e:pu p t=tt t:=if_pos u;rw[<-e];exact r
 have HH:=qa2 u hr;have hN:zq p t=(nf t).length:=if_pos r;have b8:=hid HA.out.1.symm;rw[r,hN,b8.out,u,hr];clear r hN u hr;obtain⟨A,a4,-⟩:=HC.out D Q.out;have d0:D.cell? ⟨w.heap.size,0,none⟩=some (.slice p.ab p.nb p.cb):=A.k 0;have d1:D.cell? ⟨w.heap.size,1,none⟩=some (.slice p.sa p.ns p.cs):=A.k 1;have dl:=A.lt;have a6:Hid (_):=Gw p ah (nf t) D a4 HH.out.1 q.out.2.1 HA.out.1 HA.out.2.1;clear A a4;rw[<-K.out] at d0 d1 dl;go_wp2_with fail;rw[K.out];clear K d0 d1 dl
 generalize F.heap.size=f at *
 refine Calls.mono a6.out ?_;rintro e w6 ⟨z,rfl,a2,⟨s0,av,S⟩,aw⟩;have V:Hid (af y z/\ar p y):=abp HH.out.1 HH.out.2 g.out av S;have hz:=q.out.1.below aw;obtain⟨zl,bz,ca,b4,zc1,cc,zc2,cd,zc3,b7,zc4,bv,zc5,bw,b5⟩:=z7 hz;have a0:=m.out.trans (aw.mono m.out.size);have ad:Blk (set7 w6 f (.slice z.on.a z.on.n z.on.c) (.slice z.os.a z.os.n z.os.c) (.slice z.hs.a z.hs.n z.hs.c) (.slice z.ms.a z.ms.n z.ms.c) (.slice z.si.a z.si.n z.si.c) (.slice z.so.a z.so.n z.so.c) (.slice z.sf.a z.sf.n z.sf.c)) f 31 7 (λj=>z.cells.getD j default)/\z.At (set7 w6 f (.slice z.on.a z.on.n z.on.c) (.slice z.os.a z.os.n z.os.c) (.slice z.hs.a z.hs.n z.hs.c) (.slice z.ms.a z.ms.n z.ms.c) (.slice z.si.a z.si.n z.si.c) (.slice z.so.a z.so.n z.so.c) (.slice z.sf.a z.sf.n z.sf.c))/\Below M.heap.size M (set7 w6 f (.slice z.on.a z.on.n z.on.c) (.slice z.os.a z.os.n z.os.c) (.slice z.hs.a z.hs.n z.hs.c) (.slice z.ms.a z.ms.n z.ms.c) (.slice z.si.a z.si.n z.si.c) (.slice z.so.a z.so.n z.so.c) (.slice z.sf.a z.sf.n z.sf.c)):=⟨s7b hz z,(a2.set7 q.out.1.lt (.slice z.on.a z.on.n z.on.c) (.slice z.os.a z.os.n z.os.c) (.slice z.hs.a z.hs.n z.hs.c) (.slice z.ms.a z.ms.n z.ms.c) (.slice z.si.a z.si.n z.si.c) (.slice z.so.a z.so.n z.so.c) (.slice z.sf.a z.sf.n z.sf.c)).at,s7w a0 q.out.2.2.1 z⟩;unfold set7 at ad;have Y:Hid (_/\_/\_):=ad;clear ad a0 hz a2 av S aw q m Q a6 g HA;simp only[St.val];go_wp2_with fail;clear zl bz ca b4 zc1 cc zc2 cd zc3 b7 zc4 bv zc5 bw b5
 generalize (((((((w6.setCell ⟨f,0,none⟩ (.slice z.on.a z.on.n z.on.c)).setCell ⟨f,1,none⟩ (.slice z.os.a z.os.n z.os.c)).setCell ⟨f,2,none⟩ (.slice z.hs.a z.hs.n z.hs.c)).setCell ⟨f,3,none⟩ (.slice z.ms.a z.ms.n z.ms.c)).setCell ⟨f,4,none⟩ (.slice z.si.a z.si.n z.si.c)).setCell ⟨f,5,none⟩ (.slice z.so.a z.so.n z.so.c)).setCell ⟨f,6,none⟩ (.slice z.sf.a z.sf.n z.sf.c))=WF at *
 have o:=hid (d.out.trans (Y.out.2.2.mono d.out.size));have s:=qa2 (v.out.1.below Y.out.2.2) (v.out.2.below Y.out.2.2);have l:=qa2 Y.out.2.1 Y.out.1;clear Y v d;refine(qs WF).mono ?_;rintro e wb ⟨rfl,b⟩;have H:=hid (o.out.trans (b.mono o.out.size));have G:=qa2 (s.out.1.below b) (s.out.2.below b);have J:=qa2 (l.out.1.below b) (l.out.2.below b);clear b o s l;obtain⟨m1,p0,p1,p2,p3,p4,p5,p6⟩:=Boxed.of G.out.2;obtain⟨m2,t0,t1,t2,t3,t4,t5,t6⟩:=Boxed.of J.out.2;have ao:Hid (_):=uy y z wb G.out.1 J.out.1 V.out.1 V.out.2.bound.1 V.out.2.bound.2.1 V.out.2.bound.2.2;go_wp2_with fail;clear m1 p0 p1 p2 p3 p4 p5 p6 m2 t0 t1 t2 t3 t4 t5 t6;refine Calls.mono ao.out ?_;rintro e wd ⟨rfl,aq⟩;go_wp2_with fail;go_ret;exact⟨by simp,(HC.out wd (H.out.trans (aq.mono H.out.size))).2.2⟩
end Go.Proofs.YtbcacebifpagpagGreat
namespace Go.Proofs.YtbcacebifpagpagGreat
variable{n b A g o l c i q j R L M:Nat}{w a d:World}{s x y u:St}{r W J D:Int}{e H:TypeId}{p:Pl}{z O:Nat->Hd}{f f':Nat->Value}{Q:Exit->Act->World->Prop}{v c1 c3 c2:Value}{xs:List Value}{U V:Hs}{X Y:Int->Int->Int}{P:Program}{h Z:Hd}{t:List UInt8}{E:Hd->Bool}{z' zs:Nat->Int}{S:World->Prop}{a1:Act}{K:Act->World->Prop}
open _root_.Go.Proofs.Tryz
open Go.ChangeShapes Go.WideShapes Go.ChangeAt Go.RowKit Go.ChangeMaps
set_option maxRecDepth 100000
section
variable {H:Type} {enc:TypeId × Value->H} {w:World} {spare:Nat->Bool} {held:Bool}
theorem I5:prog.bytesOf 59=32:=by kernel_rfl
theorem Jo{fuel:Nat}{x:DataW H × List MemPlace}(h:DataW.trod enc prog w 0 spare held fuel 45 xs=some x)(c:∀n∈x.1.weights prog 45,n<=reachBytes){s:Hs}(hs:xs=[s.val]):s.n<=8796093022208:=by
 rcases DataW.trod_slice underlying45 h with⟨rfl,_⟩|⟨a,len,cap,b,rest,n,_,rfl,rfl,_,_,_,d,_⟩
 .simp only[Hs.val,List.cons.injEq,Value.slice.injEq,and_true] at hs;omega
 simp only[Hs.val,List.cons.injEq,Value.slice.injEq,and_true] at hs;have:=c ((b.length+rest.length)*prog.bytesOf 59) (by simp[DataW.weights,underlying45]);rw[I5] at this;have e:reachBytes=140737488351232:=rfl;omega
theorem S4{r:Reach}{d:DataW H}{a:List MemPlace}(b:Value.okWide prog w r n 9 v)(h:DataW.Trod enc prog w 0 spare held 9 v d a):∃t:List UInt8,v = .string ⟨t.toArray⟩:=by
 obtain⟨s,rfl,_⟩:=open_string underlying9 b h;exact⟨s.data.toList,by simp⟩
end
end Go.Proofs.YtbcacebifpagpagGreat

/- Texts that were built one behind the other, joined; what LogDoes does not reach is left out. -/
import Derived.Test.YtbcacebifpagpafGreatK5LogDoes
import Derived.Laws.IdiomStrings
import Derived.Lib.QuietBelow
set_option maxHeartbeats 8000000
set_option maxRecDepth 100000
namespace Go.Proofs.YtbcacebifpagpafGreat
open _root_.Go.Proofs.Tryz
open Go.RowKit Go.Shelf Go.Sort
set_option linter.unusedVariables false
section
variable {A BC r:Nat} {W0:World} {X:St} {b g:Nat} {q:Int->Int->Int} {o l G k:Nat} {d:Int} {dn:Nat->Bool} {V:Nat->Value} {w:World}
end
section
variable {p:Pl} {x0 cur x:St} {b:Nat} {q:Int->Int->Int} {i j:Nat}
end
theorem px{A a r n:Nat}{b w:World}{y:St}{q:Int->Int->Int}{f:Nat->Value}(h:ai A w y/\Blk w a 118 10 f/\km w r q/\Below n b w)(c:n<=a)(j:Nat)(u:Value):ai A (w.setCell ⟨a,j,none⟩ u) y/\Blk (w.setCell ⟨a,j,none⟩ u) a 118 10 (λk=>if k=j then u else f k)/\km (w.setCell ⟨a,j,none⟩ u) r q/\Below n b (w.setCell ⟨a,j,none⟩ u):=
 ⟨h.1.boxC h.2.1 j u,h.2.1.set j u,h.2.2.1.set (h.2.1.noMap h.2.2.1) u,h.2.2.2.setCell (p:=⟨a,j,none⟩) c u⟩
theorem gx.newState{A e r:Nat}{i f:World}{x y:St}{b g:Int}{q:Int->Int->Int}(h:gx A e r i x b g q f)(m:ai A f y):gx A e r i y b g q (set7 f e (.slice y.on.a y.on.n y.on.c) (.slice y.os.a y.os.n y.os.c) (.slice y.hs.a y.hs.n y.hs.c) (.slice y.ms.a y.ms.n y.ms.c) (.slice y.si.a y.si.n y.si.c) (.slice y.so.a y.so.n y.so.c) (.slice y.sf.a y.sf.n y.sf.c)):=by
 have b1:=h.w0;have b2:=h.bc;have d:i.heap.size<=e:=by omega
 have k:=px (px (px (px (px (px (px ⟨m,h.box,h.map,h.bel⟩ d 0 (.slice y.on.a y.on.n y.on.c)) d 1 (.slice y.os.a y.os.n y.os.c)) d 2 (.slice y.hs.a y.hs.n y.hs.c)) d 3 (.slice y.ms.a y.ms.n y.ms.c)) d 4 (.slice y.si.a y.si.n y.si.c)) d 5 (.slice y.so.a y.so.n y.so.c)) d 6 (.slice y.sf.a y.sf.n y.sf.c);unfold set7;refine⟨k.1,k.2.1.congr λj l => ?_,k.2.2.1,k.2.2.2,by have:=h.le;simpa using this,h.w0,h.bc,h.ra⟩
 match j,l with
 | 0,_=>rfl
 | 1,_=>rfl
 | 2,_=>rfl
 | 3,_=>rfl
 | 4,_=>rfl
 | 5,_=>rfl
 | 6,_=>rfl
 | 7,_=>rfl
 | 8,_=>rfl
 | 9,_=>rfl
theorem ai.cut7{A f r:Nat}{i e:World}{x y s:St}{b g:Int}{q:Int->Int->Int}(h:gx A f r i x b g q e)(j:ai A e s):ai A (Go.Proofs.YtbcacebifpagpafGreat.set7 e f (.slice y.on.a y.on.n y.on.c) (.slice y.os.a y.os.n y.os.c) (.slice y.hs.a y.hs.n y.hs.c) (.slice y.ms.a y.ms.n y.ms.c) (.slice y.si.a y.si.n y.si.c) (.slice y.so.a y.so.n y.so.c) (.slice y.sf.a y.sf.n y.sf.c)) s:=by
 have b1:=h.w0;have b2:=h.bc;have d:i.heap.size<=f:=by omega
 have k:=px (px (px (px (px (px (px ⟨j,h.box,h.map,h.bel⟩ d 0 (.slice y.on.a y.on.n y.on.c)) d 1 (.slice y.os.a y.os.n y.os.c)) d 2 (.slice y.hs.a y.hs.n y.hs.c)) d 3 (.slice y.ms.a y.ms.n y.ms.c)) d 4 (.slice y.si.a y.si.n y.si.c)) d 5 (.slice y.so.a y.so.n y.so.c)) d 6 (.slice y.sf.a y.sf.n y.sf.c);unfold Go.Proofs.YtbcacebifpagpafGreat.set7;exact k.1
theorem Blk.cut7{w:World}{B b n:Nat}{T:TypeId}{f:Nat->Value}(h:Blk w B T n f)(ne:B≠b)(c e k g j i d:Value):Blk (set7 w b c e k g j i d) B T n f:=by
 unfold set7;exact((((((h.other (a:=⟨b,0,none⟩) ne c).other (a:=⟨b,1,none⟩) ne e).other (a:=⟨b,2,none⟩) ne k).other (a:=⟨b,3,none⟩) ne g).other (a:=⟨b,4,none⟩) ne j).other (a:=⟨b,5,none⟩) ne i).other (a:=⟨b,6,none⟩) ne d
structure D7(p:Pl)(x0:St)(A BC r:Nat)(W0:World)(b g:Int)(q:Int->Int->Int)(BP:Nat)(cur:St)(wk:World):Prop where
 own0:ai A wk x0
 cut:gx A BC r W0 cur b g q wk
 plan:Blk wk BP 25 2 (λj=>(#[.slice p.ab p.nb p.cb,.slice p.sa p.ns p.cs]:Array Value).getD j default)
theorem D7.below{p:Pl}{i cur:St}{A j r e:Nat}{f c d:World}{b g:Int}{q:Int->Int->Int}(h:D7 p i A j r f b g q e cur c)(a:Below c.heap.size c d):D7 p i A j r f b g q e cur d:=⟨ai.below h.own0 a,h.cut.below a,h.plan.below a⟩
theorem Jg(p:Pl)(A B r:Nat)(v:World)(f:St)(b g:Nat)(q:Int->Int->Int)(w:World)(h:gx A B r v f b g q w)(hp:∀E,Below v.heap.size v E->p.At E)(Q:QIn p b (λi j=>q i j) f):
  Calls prog 70 #[.pointer (some ⟨B,0,none⟩),p.val] w λe w'=>e = .returned (.tuple #[])/\∃y,ig p b (λi j=>q i j) (vy f) f f.os.n y/\gx A B r v y b g q w':=by
 have HP:Hid (∀E,Below v.heap.size v E->p.At E):=hp;have HQ:Hid (QIn p b (λi j=>q i j) f):=Q;have ol:f.os.n<=f.os.c:=h.own.os.le;have oc:f.os.c<=maxLen:=h.own.os.cap;unfold maxLen at oc;have b9:f.os.n<=4:=Q.r.fm.os4;obtain⟨W1,Y,G,K1⟩:∃W,w.alloc (.cells #[.slice p.ab p.nb p.cb,.slice p.sa p.ns p.cs] 25)=W/\Below w.heap.size w W/\Blk W w.heap.size 25 2 (λj=>(#[.slice p.ab p.nb p.cb,.slice p.sa p.ns p.cs]:Array Value).getD j default):=⟨_,rfl,brf.alloc nlr _,Blk.mk' rfl rfl⟩;have U:Hid (w.alloc (.cells #[.slice p.ab p.nb p.cb,.slice p.sa p.ns p.cs] 25)=W1):=Y;have h':=h.below G;have s:Hid (D7 p f A B r v b g q w.heap.size f W1):=⟨h'.own,h',K1⟩;obtain⟨u,-,u1,-⟩:=h'.boxed;rw[<-U.out] at u u1;clear Y G K1 h h' hp Q;unfold Pl.val;go_enter func70,ntmps70;go_wp2_with fail;rw[U.out];clear u u1 U
 generalize w.heap.size=L at *
 go_loopw [14] (λkv E=>∃(i:Nat) (cur:St),i<=f.os.n/\kv = .int .i64 i/\Hid (D7 p f A B r v b g q L cur E)/\Hid (Kr p f b q i cur)) (λkv _=>f.os.n-(intOf kv).toNat)
 case atStart=>exact⟨0,f,Qxz _,rfl,s,ae.self f⟩
 clear s;obtain⟨i,cur,hi,rfl,s,HA⟩:=hrel;by_cases M:i<f.os.n;rotate_left
 .have bs:i=f.os.n:=by omega
  subst bs;go_wp2_with fail
  go_end0
  exact⟨rfl,cur,HA.out,s.out.cut⟩
 have q0:(0:Int)<=(i:Int):=by omega
 have q1:(i:Int)<(f.os.n:Int):=by omega
 obtain⟨bo,oo,au,bn,z0,z1,af⟩:=s.out.own0.at.os.ods i M;have ll:=af.le;have lc:=af.cap;unfold maxLen at lc;have cf:(f.os.z i).ls.n<=3:=(HQ.out.r.fm.lns i M).2;rw[au];clear au af;obtain⟨W,Y,G⟩:∃W,wr.alloc (.cells #[.int .i64 (f.os.z i).k,.slice (f.os.z i).ls.a (f.os.z i).ls.n (f.os.z i).ls.c] 66)=W/\Below wr.heap.size wr W:=⟨_,rfl,brf.alloc nlr _⟩;have U:Hid (wr.alloc (.cells #[.int .i64 (f.os.z i).k,.slice (f.os.z i).ls.a (f.os.z i).ls.n (f.os.z i).ls.c] 66)=W):=Y;have am:Hid (D7 p f A B r v b g q L cur W):=s.out.below G;clear Y G;go_wp2_with fail;rw[U.out];clear z0 z1 bn U q0 q1
 go_loopw [22] (λjv E=>∃(j:Nat) (t:St),j<=(f.os.z i).ls.n/\jv = .int .i64 j/\Hid (D7 p f A B r v b g q L t E)/\Hid (tt p f b q i j t)) (λjv _=>(f.os.z i).ls.n-(intOf jv).toNat)
 case atStart=>exact⟨0,cur,Qxz _,rfl,am,HA.out.row⟩
 clear am s HA;obtain⟨j,t,hj,rfl,s,S⟩:=hrel;by_cases X:j<(f.os.z i).ls.n;rotate_left
 .have a4:j=(f.os.z i).ls.n:=by omega
  subst a4;have V:Hid (Kr p f b q (i+1) t):=S.out.next;go_wp2_with fail;go_roundw
  case rel=>exact⟨i+1,t,by omega,by go_num,s,V⟩
  case measure=>simp[intOf];omega
 have q2:(0:Int)<=(j:Int):=by omega
 have q3:(j:Int)<((f.os.z i).ls.n:Int):=by omega
 have lk:=Px (o:=i) (l:=j) s.out.cut.map (by omega) (by omega);unfold mv at lk;obtain⟨u,-,-,-,-,-,-,-,-,-,u9⟩:=s.out.cut.boxed;have ac:Hid (Pos p b (λi j=>q i j) f i j t):=S.out.pos HQ.out M (Nat.le_of_lt X);have H:Hid (jz p b t i j (q i j)):=ac.out.stepIn HQ.out M X;have aq:=H.out.n0;by_cases hq:0<q i j;rotate_left
 .have V:Hid (tt p f b q i (j+1) t):=S.out.skip HQ.out M X (by omega);clear H S ac;obtain⟨F,J⟩:∃F,q i j=F:=⟨_,rfl⟩;rw[J] at lk hq aq;clear J;go_wp2_with fail;go_roundw
  case rel=>exact⟨j+1,t,by omega,by go_num,s,V⟩
  case measure=>simp[intOf];omega
 have al:Hid ((t.os.z i).k=1):=by
  rcases H.out.kd with e|e
  .omega
  exact e.1
 have P:Hid (fa p t i j (q i j) b=0):=by have I:=H.out.allocIn al.out;exact I.less ⟨I.n0,Int.le_refl _⟩
 have ad:Hid (∀x,lg p b t i j (q i j) x->tt p f b q i (j+1) x):=λx T=>S.out.step T;clear H al S ac;obtain⟨F,J⟩:∃F,q i j=F:=⟨_,rfl⟩;rw[J] at lk P ad hq aq;clear J;go_wp2_with fail;clear lk u u9;obtain⟨pm,p0,p1,p2,p3,p4,p5,p6,p7,-,-⟩:=s.out.cut.boxed;have d0:wr.cell? ⟨L,0,none⟩=some (.slice p.ab p.nb p.cb):=s.out.plan.k 0;have d1:wr.cell? ⟨L,1,none⟩=some (.slice p.sa p.ns p.cs):=s.out.plan.k 1;have l1:=s.out.plan.lt;have bj:=Qqq p0;have br:=Qqq p1;have bp:=Qqq p2;have bg:=Qqq p3;have bb:=Qqq p4;have bq:=Qqq p5;have bu:=Qqq p6;have a3:=Qqq p7;have a5:=Qqq d0;have be:=Qqq d1;refine i9 [(false,[0,2,3,4,6,7,8,9,10,11],none),(true,[1,5,12],some 13),(false,[14,15,16,17,18,19],some 20)] ?_;refine⟨λ_=>True,trivial,λ_ _=>trivial,?_⟩;simp only[dw,Qyq,Xqq,Qyx,Qyz,Xqz,Xqx]
 repeat(go_big_quiet_step(fail))
 refine Qqz ?_;refine⟨λw'=>∃p:Regrown,w'=grow (redrawn wr p.d) p.os,Qqx (brf.drew),λh=>(by cases h),?_⟩;simp only[dw,Qyq,Xqq,Qyx,Qyz,Xqz,Xqx]
 repeat(go_big_quiet_step(fail))
 refine Qqz ?_;clear bj br bp bg bb bq bu a3 a5 be p0 p1 p2 p3 p4 p5 p6 p7 d0 d1 l1 pm;have ao:Below wr.heap.size wr wr.drew:=brf.drew
 generalize wr.drew=wj at *
 have K:Hid (D7 p f A B r v b g q L t wj):=s.out.below ao;have an:Hid (p.At wj):=HP.out wj K.out.cut.bel;clear ao s;refine ki 13 rfl ?_;go_wp2_with fail;refine(Kq p t i j F b wj an.out K.out.cut.own.at).mono ?_;rintro e w8 ⟨x,rfl,bc,ap,aa,ar⟩;have HT:Hid (tt p f b q i (j+1) x):=ad.out x (ap.1 P.out);have a2:Hid (ai A w8 x):=(aa P.out).mono K.out.cut.le;have D:Hid (D7 p f A B r v b g q L t w8):=K.out.below ar;clear bc ap aa ar ad K an P
 generalize Bm p t i j F b=LL at *
 generalize fa p t i j F b=EE at *
 simp only[St.val];go_wp2_with fail;refine⟨λ_=>True,trivial,λ_ _=>trivial,?_⟩;simp only[dw,Qyq,Xqq,Qyx,Qyz,Xqz,Xqx]
 repeat(go_big_quiet_step(fail))
 refine Qqz ?_;have m:=D.out.cut.box;have zl:=m.lt;have b7:=m.frozen 0;have b6:=m.k 0;have cd:=m.frozen 1;have zc1:=m.k 1;have cc:=m.frozen 2;have zc2:=m.k 2;have ce:=m.frozen 3;have zc3:=m.k 3;have ca:=m.frozen 4;have zc4:=m.k 4;have b8:=m.frozen 5;have zc5:=m.k 5;have cg:=m.frozen 6;have ch:=m.k 6;clear m;refine ki 20 rfl ?_;go_wp2_with fail;have V:Hid (D7 p f A B r v b g q L x (set7 w8 B (.slice x.on.a x.on.n x.on.c) (.slice x.os.a x.os.n x.os.c) (.slice x.hs.a x.hs.n x.hs.c) (.slice x.ms.a x.ms.n x.ms.c) (.slice x.si.a x.si.n x.si.c) (.slice x.so.a x.so.n x.so.c) (.slice x.sf.a x.sf.n x.sf.c))):=⟨ai.cut7 D.out.cut D.out.own0,D.out.cut.newState a2.out,D.out.plan.cut7 (Blk.ne2 D.out.plan D.out.cut.box (by decide)) _ _ _ _ _ _ _⟩;unfold set7 at V;refine NoPanic.normal ?_;go_wp2_with fail;go_roundw
 case rel=>exact⟨j+1,x,by omega,by go_num,V,HT⟩
 case measure=>simp[intOf];omega
theorem Il{p:Pl}{s:St}{bin good seen:Int}(h:¬la p s bin good=0):fg p s bin good seen=la p s bin good:=by
 unfold la at h ⊢;unfold fg;by_cases a:ah p s=0
 .rw[if_pos a] at h ⊢;rw[if_pos a];cases b:(inB bin 0 ((p.nb:Int)-1)&&inB good 0 ((p.ns:Int)-1))
  .rfl
  rw[b] at h;exact absurd rfl h
 rw[if_neg a,if_neg a]
theorem Zn{p:Pl}{s:St}{bin good:Int}(h:la p s bin good=0):ah p s=0/\∃b g:Nat,bin=b/\good=g/\b<p.nb/\g<p.ns:=by
 unfold la at h;by_cases a:ah p s=0
 .rw[if_pos a] at h;cases c:(inB bin 0 ((p.nb:Int)-1)&&inB good 0 ((p.ns:Int)-1))
  .rw[c] at h;exact absurd h (by decide)
  simp only[Xxx] at c;have d:=aq c.1;have e:=aq c.2;exact⟨a,bin.toNat,good.toNat,by omega,by omega,by omega,by omega⟩
 rw[if_neg a] at h;exact absurd h a
theorem Qx{p:Pl}{s:St}{b g:Nat}{seen:Int}(h:ah p s=0)(a:inB seen 0 200=false):fg p s b g seen=3:=by
 unfold fg;rw[if_pos h,a,Bool.and_false]
 rfl
theorem Jq{p:Pl}{s:St}{b g:Nat}{seen:Int}(h:ah p s=0)(i:b<p.nb)(f:g<p.ns)(c:inB seen 0 200=true)(d:inB (s.sf.z g+(seen-(s.on.r b).z g)) (-1048576) 1048576=false):fg p s b g seen=2:=by
 unfold fg;have e:(Int.toNat (b:Int))=b:=rfl;have a:(Int.toNat (g:Int))=g:=rfl;rw[if_pos h,bq (by omega),bq (by omega),c,e,a,d]
 rfl
theorem Lf{p:Pl}{s:St}{b g:Nat}{seen:Int}(h:ah p s=0)(d:b<p.nb)(c:g<p.ns)(a:inB seen 0 200=true)(e:inB (s.sf.z g+(seen-(s.on.r b).z g)) (-1048576) 1048576=true):db p s b g seen :=
 ⟨ew h,d,c,(aq a).1,(aq a).2,aq e⟩
theorem ai.setFix{A:Nat}{w:World}{s:St}{G:Nat}(h:ai A w s)(b:s.sf.a=some ⟨G,0,none⟩)(g:Nat)(x:Int):ai A (w.setCell ⟨G,g,none⟩ (.int .i64 x)) (Go.Proofs.YtbcacebifpagpafGreat.setFix s g x):=by
 obtain⟨q,b1,b2,b3,b4,b5⟩:=h.sf;rw[b] at b1;simp only[Qkx,Qkz,and_true] at b1;subst b1;refine⟨?_,λi hi=>(h.rows i hi).apart (λe=>(h.ari i hi).2.2 (e.trans b.symm)) _ _,h.rapart,h.os.other b5 (by decide) (by decide) _ _,h.hs.other b5 (by decide) _ _,h.ms.other b5 (by decide) _ _,h.msr.set _ _ _,h.si.apart (λe=>h.aif (e.trans b.symm)) _ _,h.so.apart (λe=>h.aof (e.trans b.symm)) _ _,h.sf.set b _ _,h.aio,h.aif,h.aof,h.ari⟩;obtain⟨f,j,a1,d,k,c⟩:=h.on;exact⟨f,j,a1,d,k,c.other (a:=⟨G,g,none⟩) (Blk.ne2 c b5 (by decide)) _⟩
theorem db.formed0{p:Pl}{s:St}{b g:Nat}{seen:Int}(h:db p s b g seen):cw p (jl s b g seen):=by
 have f:=h.r.fm;have G:=h.right.fm;exact⟨G.sh,G.sh0,f.os4,f.ms8,f.lns,f.kind,f.line,f.hold,f.home,f.move,G.sin,G.son,G.sfn,G.sib,G.sob,G.sfb⟩
theorem db.formed1{p:Pl}{s:St}{b g:Nat}{seen:Int}(h:db p s b g seen):cw p (jl (withMoves s (cq (ct b g) s.ms (er s b g seen))) b g seen):=by
 have f:=h.r.fm;have G:=h.right.fm;exact⟨G.sh,G.sh0,f.os4,G.ms8,f.lns,f.kind,f.line,f.hold,f.home,G.move,G.sin,G.son,G.sfn,G.sib,G.sob,G.sfb⟩
theorem db.qmax{p:Pl}{s:St}{b g:Nat}{seen:Int}(h:db p s b g seen)(o l:Int):eu s b g (er s b g seen) o l<=100000:=by
 have k:=(Ap (b:=b) (g:=g) h.r h.miss0 o l).2;have d:=ro (z:=s.hs.z) o l s.hs.n λq a=>(cy (bw h.r.fm.hold q a)).2.2.2;have c:=h.r.fm.hs72;omega
theorem db.cutted{p:Pl}{s a:St}{b g:Nat}{seen v:Int}(h:db p s b g seen)(e:ae a (jl s b g seen))(f:max 0 v=tp (ct b g) (er s b g seen) (pd a)):
  let x3:=withMoves a (cq (ct b g) a.ms (er s b g seen))
  let Q:=ky (cd x3 b g) (max 0 v) (l7 x3)
  ae (withHolds (mr x3 Q) (cq (cd x3 b g) x3.hs (max 0 v))) (nw s b g seen)/\(∀o l,Q o l=eu s b g (er s b g seen) o l)/\cw p x3:=by
 have c:=O0 h.formed0 e b g (er s b g seen);refine⟨?_,λo l => ?_,?_⟩
 .have d:withHolds (mr (withMoves a (cq (ct b g) a.ms (er s b g seen))) (ky (cd a b g) (max 0 v) (l7 a))) (cq (cd a b g) a.hs (max 0 v))=i6 a b g (er s b g seen):=by
   rw[f]
   rfl
  exact d▸c.1
 .have d:ky (cd a b g) (max 0 v) (l7 a) o l=eu a b g (er s b g seen) o l:=by
   rw[f]
   rfl
  exact d.trans (c.2 o l)
 refine ae.formed ?_ h.formed1;have k:cx (cq (ct b g) a.ms (er s b g seen)).z (cq (ct b g) a.ms (er s b g seen)).n=cx (cq (ct b g) s.ms (er s b g seen)).z (cq (ct b g) s.ms (er s b g seen)).n:=by
  rw[ld,ld,Ir (h:=a.ms) (k:=s.ms) e.ms.1 e.ms.2]
 exact⟨e.on,e.os,e.hs,yw k,e.si,e.so,e.sf⟩
theorem Wh(p:Pl)(s:St)(bin good seen:Int)(w:World)(hp:p.At w)(hs:s.At w):
  Calls prog 24 #[p.val,s.val,.int .i64 bin,.int .i64 good,.int .i64 seen] w λe H=>∃x:St,e = .returned (.tuple #[x.val,.int .i64 (fg p s bin good seen)])/\x.At H/\dv (fg p s bin good seen) (lw p s bin.toNat good.toNat seen) x/\(fg p s bin good seen=0->ai w.heap.size H x)/\Below w.heap.size w H:=by
 obtain⟨K,hW,d7,X0,Z0⟩:=zd w p s;have HC:=wv hp hs d7 X0 Z0;have HW:=hid hW;have leb:=hp.leb;have ca:=hp.capb;have les:=hp.les;have cg:=hp.caps;have capb:=ca;have caps:=cg;have fo:=Z0.lt;unfold maxLen at capb caps;have d6:Hid ((s.on.n<=s.on.c/\s.on.c<=maxLen)/\s.sf.n<=s.sf.c/\s.sf.c<=maxLen):=⟨⟨hs.on.le,hs.on.cap⟩,hs.sf.le,hs.sf.cap⟩;clear hW X0 Z0 hp hs;unfold Pl.val St.val;go_enter func24,ntmps24;go_wp2_with fail;rw[HW.out];obtain⟨X,A,u,E,J⟩:=HC.out K brf;refine(Ht p s bin good K A u).mono ?_;rintro e D ⟨rfl,hB⟩;clear X A u E J HW;obtain⟨⟨⟨l1,d0,d1⟩,l2,c0,c1,c2,c3,c4,c5,c6⟩,A,u,E,J⟩:=HC.out D hB;by_cases h0:la p s bin good=0;rotate_left
 .have Y:Hid (fg p s bin good seen=la p s bin good):=Il h0;have dy:Hid (¬fg p s bin good seen=0):=by show ¬_;rw[Il h0];exact h0
  have g0:(la p s bin good !=0)=true:=by simpa using h0
  clear h0
  generalize rq p s bin good=M at *
  generalize la p s bin good=AE at *
  clear A u;obtain⟨zl,bv,bu,bi,zc1,bz,zc2,b5,zc3,be,zc4,bc,zc5,b8,b9⟩:=z7 J;go_wp2_with fail;exact g9 results24 J E (by omega) Y.out (λh=>dy.out (Y.out.trans h)) rfl rfl rfl
 obtain⟨bt,b,g,rfl,rfl,hb,hg⟩:=Zn h0;have H0:=hid bt;have HR:Hid (au p s):=ew bt;have de:Hid (rq p s b g=ar s b g):=by show rq p s b g=_;unfold rq;rw[if_pos h0];rfl
 rw[de.out,h0];clear h0 bt;have son:=HR.out.fm.sh.n;have b7:b<s.on.n:=by omega
 have dl:Hid ((s.on.r b).n=p.ns):=HR.out.fm.sh.len b b7;cases h2:inB seen 0 200
 .have Y:Hid (fg p s b g seen=3):=Qx H0.out h2
  generalize ar s b g=M at *
  clear A u;obtain⟨zl,bv,bu,bi,zc1,bz,zc2,b5,zc3,be,zc4,bc,zc5,b8,b9⟩:=z7 J;go_wp2_with(go_at_call 48;refine ag (cn _ _ _ _) ?_);exact g9 results24 J E (by omega) Y.out (by decide) rfl rfl rfl
 have sb:=aq h2;obtain⟨⟨fu,d8⟩,ft,ex⟩:=d6.out;unfold maxLen at d8 ex;obtain⟨bb,ob,bo,et,e0,aa⟩:=u.on.rows b b7;have ek:g<(s.on.r b).n:=by rw[dl.out];exact hg
 obtain⟨bg,og,cz,du,e1⟩:=aa.ints g ek;have rl:=aa.le;have rc:=aa.cap;unfold maxLen at rc;have sfn:g<s.sf.n:=by rw[HR.out.fm.sfn];exact hg
 obtain⟨bf,of,bh,dp,e2⟩:=u.sf.ints g sfn;have cs:=hid bo;have cj:=hid bh;rw[bo] at c0;rw[cz] at e0;rw[bh] at c6;have q0:(0:Int)<=(b:Int):=by omega
 have q1:(b:Int)<(s.on.n:Int):=by omega
 have q2:(0:Int)<=(g:Int):=by omega
 have q3:(g:Int)<((s.on.r b).n:Int):=by omega
 have q4:(g:Int)<(s.sf.n:Int):=by omega
 have eb:=HR.out.fm.sh.num b b7 g hg;have sfb:=HR.out.fm.sfb g hg;have H2:=hid h2;clear bo cz bh aa son;cases h3:inB (s.sf.z g+(seen-(s.on.r b).z g)) (-1048576) 1048576
 .have Y:Hid (fg p s b g seen=2):=Jq H0.out hb hg H2.out h3
  generalize (s.on.r b).z g=m at *
  generalize s.sf.z g=Q at *
  generalize ar s b g=M at *
  clear A u;obtain⟨zl,bv,bu,bi,zc1,bz,zc2,b5,zc3,be,zc4,bc,zc5,b8,b9⟩:=z7 J;go_wp2_with(go_at_call 48;refine ag (cn _ _ _ _) ?_);exact g9 results24 J E (by omega) Y.out (by decide) rfl rfl rfl
 have F:Hid (db p s b g seen):=Lf H0.out hb hg H2.out h3;have Y:Hid (fg p s b g seen=0):=O8 F.out;have cv:Hid (Calls prog 51 #[s.val] D λe H=>∃U:St,e = .returned U.val/\ae U s/\ai D.heap.size H U/\Below D.heap.size D H):=nf p s D u HR.out.fm;obtain⟨m,ax⟩:∃m,(s.on.r b).z g=m:=⟨_,rfl⟩;obtain⟨Q,bx⟩:∃Q,s.sf.z g=Q:=⟨_,rfl⟩;obtain⟨M,aw⟩:∃M,ar s b g=M:=⟨_,rfl⟩;have HV:=qa3 ax bx aw;have fw:0<=M/\M<=m:=by
  have a:=(kq (HR.out.goods g hg)).2 b hb;have c:=F.out.bound;rw[aw] at a c;rw[ax] at c;omega
 rw[ax] at e1 eb h3;rw[bx] at e2 sfb h3;rw[aw];clear A u E J ax bx aw de;go_wp2_with(go_at_call 48;refine ag (cn _ _ _ _) ?_);rw[<-cs.out,<-cj.out];refine Calls.mono cv.out ?_;rintro e d ⟨o,rfl,a1,b6,bj⟩;clear cv l1 d0 d1 l2 c0 c1 c2 c3 c4 c5 c6 et e0 du e1 dp e2 h2 h3 cs cj;have A1:K.heap.size<=D.heap.size:=hB.size;have A2:D.heap.size<=d.heap.size:=bj.size;have dg:Hid (w.heap.size<=K.heap.size):=(HC.out _ brf).2.2.2.1.size;obtain⟨W5,c8,al,K5,M5⟩:∃W,(d.alloc (.map #[] 0)).alloc (.cells #[.slice o.on.a o.on.n o.on.c,.slice o.os.a o.os.n o.os.c,.slice o.hs.a o.hs.n o.hs.c,.slice o.ms.a o.ms.n o.ms.c,.slice o.si.a o.si.n o.si.c,.slice o.so.a o.so.n o.so.c,.slice o.sf.a o.sf.n o.sf.c,.int .i64 (b:Int),.int .i64 (g:Int),.map (some d.heap.size)] 118)=W/\Below d.heap.size d W/\Blk W (d.heap.size+1) 118 10 (abi o b g d.heap.size)/\km W d.heap.size (λ_ _=>0):=
  ⟨_,rfl,(brf.alloc nlr _).alloc (by simp) _,(Blk.mk' (by simp) rfl).congr (λj S=>by match j,S with|0,_=>rfl|1,_=>rfl|2,_=>rfl|3,_=>rfl|4,_=>rfl|5,_=>rfl|6,_=>rfl|7,_=>rfl|8,_=>rfl|9,_=>rfl),(km.new d).below (brf.alloc nlr _)⟩
 have ba:Hid ((d.alloc (.map #[] 0)).alloc (.cells #[.slice o.on.a o.on.n o.on.c,.slice o.os.a o.os.n o.os.c,.slice o.hs.a o.hs.n o.hs.c,.slice o.ms.a o.ms.n o.ms.c,.slice o.si.a o.si.n o.si.c,.slice o.so.a o.so.n o.so.c,.slice o.sf.a o.sf.n o.sf.c,.int .i64 (b:Int),.int .i64 (g:Int),.map (some d.heap.size)] 118)=W5):=c8;have ao:=hB.trans (bj.mono hB.size);have ap:=ao.trans (al.mono ao.size);have f:=qa6 b6 al K5 M5 ap a1;obtain⟨⟨⟨l1,d0,d1⟩,l2,c0,-⟩,A,u,-,-⟩:=HC.out W5 ap;have bm:Eg p s.on b g (seen-m)=0:=by
  have hu:t9 p s.on b g=0:=by rw[Ej HR.out.fm.sh0,bq (by omega),bq (by omega)];rfl
  have e:=HV.out.1;have hi:inB (seen-m) (-((s.on.r b).z g)) (200-(s.on.r b).z g)=true:=bq (by omega);simp[Eg,hu,hi]
 have cr:Hid (Calls prog 52 #[p.val,s.on.val,.int .i64 b,.int .i64 g,.int .i64 (seen-m)] W5 λe H=>∃U:Sh,e = .returned (.tuple #[U.val,.int .i64 0])/\Zq W5.heap.size H U/\U.n=s.on.n/\(∀i,i<s.on.n->(U.r i).n=(s.on.r i).n/\∀j,j<(s.on.r i).n->(U.r i).z j=El s.on b g (seen-m) i j)/\Below W5.heap.size W5 H):=La p s.on b g (seen-m) W5 A u.on bm;rw[<-ba.out] at l1 d0 d1 l2 c0;clear c8 al K5 M5 ao ap b6 bj hB a1 A u bm;have ev:∀(t:TypeId) (w:World),(Instr.makeMap t none).run prog w = .ok (.map (some w.heap.size)) (w.alloc (.map #[] 0)):=λ_ _=>rfl;simp only[St.val];go_wp2_with fail;rw[ba.out];clear l1 d0 d1 l2 c0 ba ev;refine Calls.mono cr.out ?_;rintro e w6 ⟨q,rfl,hR,bs,ci,L⟩;clear cr;have T:Hid (ae (setFix ⟨q,o.os,o.hs,o.ms,o.si,o.so,o.sf⟩ g (Q+(seen-m))) (jl s b g seen)):=by
  have e:=f.out.2.2.2.2.2;refine⟨⟨bs,λi hi => ?_⟩,e.os,e.hs,e.ms,e.si,e.so,⟨e.sf.1,λj S => ?_⟩⟩
  .have ea:i<s.on.n:=by rw[<-bs];exact hi
   have k:=ci i ea;refine⟨k.1.trans (rd s b g seen i).symm,λj S => ?_⟩;have b3:j<(q.r i).n:=S;rw[ta];show(q.r i).z j=_;rw[k.2 j (by rw[<-k.1];exact b3)];show(if i=b/\j=g then(s.on.r i).z j+(seen-m) else(s.on.r i).z j)=_;by_cases c:i=b/\j=g
   .have hv:=HV.out.1;rw[if_pos c,if_pos c,c.1,c.2,hv];omega
   rw[if_neg c,if_neg c]
  have b3:j<o.sf.n:=S;have hv:=HV.out;show(if j=g then Q+(seen-m) else o.sf.z j)=if j=g then s.sf.z g+(seen-(s.on.r b).z g) else s.sf.z j;rw[hv.1,hv.2.1,e.sf.2 j b3]
 have cx:Hid (o.sf.z g=Q):=(f.out.2.2.2.2.2.sf.2 g (by rw[f.out.2.2.2.2.2.sf.1];exact sfn)).trans HV.out.2.1;have cp:=f.out.2.1.size;have B6:=f.out.2.2.1.below L;have osn:g<o.sf.n:=by rw[f.out.2.2.2.2.2.sf.1];exact sfn
 have O4:=ai.below f.out.1 (f.out.2.1.trans (L.mono f.out.2.1.size));obtain⟨G,ga,gA,gl,ed,gc,ay,da⟩:=O4.sf.cellAt osn;have d3:G<d.heap.size:=by
  obtain⟨G',c7,-,fv,-⟩:=f.out.1.sf.cellAt osn;rw[ga] at c7;simp only[Qkx,Qkz,and_true] at c7;omega
 unfold maxLen at gc;rw[cx.out] at ay;have fs:=hid ga;have en:¬G=d.heap.size+1:=by omega
 have bw:¬d.heap.size+1=G:=by omega
 have y0:=B6.lt;have y1:=B6.frozen 0;have y2:=B6.k 0;have y3:w6.cell? ⟨d.heap.size+1,6,none⟩=some (.slice (some ⟨G,0,none⟩) o.sf.n o.sf.c):=by have h:=B6.k 6;rw[<-ga];exact h
 have gf:=da g;have q5:(g:Int)<(o.sf.n:Int):=by omega
 have HI:Hid (gx D.heap.size (d.heap.size+1) d.heap.size K (setFix ⟨q,o.os,o.hs,o.ms,o.si,o.so,o.sf⟩ g (Q+(seen-m))) b g (λ_ _=>0) ((w6.setCell ⟨d.heap.size+1,0,none⟩ (.slice q.a q.n q.c)).setCell ⟨G,g,none⟩ (.int .i64 (Q+(seen-m))))):=by
  have m6:=f.out.2.2.2.1.below L;have bl:=f.out.2.2.2.2.1.trans (L.mono f.out.2.2.2.2.1.size);have o1:=ai.swap f.out.1 (f.out.2.1.trans (L.mono f.out.2.1.size)) hR cp (by omega);have o2:=ai.boxC o1 B6 0 (.slice q.a q.n q.c);have o3:=o2.setFix (G:=G) ga g (Q+(seen-m));have k2:=B6.set 0 (.slice q.a q.n q.c);have sz:=L.size;obtain⟨Gq,eg,-,-,-,eo⟩:=o2.sf;have gq:G=Gq:=by have e:o.sf.a=some ⟨Gq,0,none⟩:=eg;rw[ga] at e;simpa using e
  subst gq;have m7:=m6.set (j:=0) (B6.noMap m6) (.slice q.a q.n q.c);refine⟨o3,(k2.other (a:=⟨G,g,none⟩) bw _).congr (λj S=>by match j,S with|0,_=>rfl|1,_=>rfl|2,_=>rfl|3,_=>rfl|4,_=>rfl|5,_=>rfl|6,_=>rfl|7,_=>rfl|8,_=>rfl|9,_=>rfl),m7.set (j:=g) (eo.noMap m7) _,(bl.setCell (p:=⟨d.heap.size+1,0,none⟩) (by show K.heap.size<=d.heap.size+1;omega) _).setCell (p:=⟨G,g,none⟩) (by show K.heap.size<=G;omega) _,by simp;omega,A1,by omega,A2⟩
 have dc:Hid (max 0 (-(seen-m)-M)=er s b g seen):=by
  have k:=F.out.bound;have v:=HV.out;rw[v.1,v.2.2] at k;show max 0 (-(seen-m)-M)=_;unfold er;omega
 generalize hX2:setFix ⟨q,o.os,o.hs,o.ms,o.si,o.so,o.sf⟩ g (Q+(seen-m))=x2 at T HI
 clear hX2 da B6 O4 hR bs ci L ga gA f cx ed;simp only[Sh.val];go_wp2_with fail;clear y0 y1 y2 y3 gf ay gl d3 en bw cp;obtain⟨wB,cl⟩:∃wB,((w6.setCell ⟨d.heap.size+1,0,none⟩ (.slice q.a q.n q.c)).setCell ⟨G,g,none⟩ (.int .i64 (Q+(seen-m))))=wB:=⟨_,rfl⟩;rw[cl] at HI ⊢;clear cl;have f0:=F.out.formed0;have cu:Hid (Calls prog 69 #[.pointer (some ⟨d.heap.size+1,0,none⟩),.int .i64 (-(seen-m)-M)] wB λe H=>∃v:Int,e = .returned (.int .i64 v)/\max 0 v=tp (ct b g) (er s b g seen) (pd x2)/\(-100000<=v/\v<=100000)/\gx D.heap.size (d.heap.size+1) d.heap.size K (withMoves x2 (cq (ct b g) x2.ms (er s b g seen))) b g (λ_ _=>0) H):=by
  have h:=Pv D.heap.size (d.heap.size+1) d.heap.size K x2 b g (λ_ _=>0) (-(seen-m)-M) wB HI.out (λj S=>by
   rw[T.out.ms.2 j S];have:=f0.moveN j (by rw[<-T.out.ms.1];exact S);omega) (by rw[T.out.ms.1];exact f0.ms8) (by omega)
  rw[dc.out] at h;exact h
 clear f0 HI;refine Calls.mono cu.out ?_;rintro e w7 ⟨v,rfl,hv,ch,bp⟩;clear cu;have CT:=F.out.cutted T.out hv;obtain⟨dd,c9,bn⟩:=CT;obtain⟨B,a0⟩:∃B,withMoves x2 (cq (ct b g) x2.ms (er s b g seen))=B:=⟨_,rfl⟩;rw[a0] at bp bn;have V:ae (withHolds (mr B (ky (cd B b g) (max 0 v) (l7 B))) (cq (cd B b g) B.hs (max 0 v))) (nw s b g seen):=by rw[<-a0];exact dd
 have ac:∀o l,ky (cd B b g) (max 0 v) (l7 B) o l=eu s b g (er s b g seen) o l:=by rw[<-a0];exact c9
 clear dd c9 a0 hv;have a2:=Qf p D.heap.size (d.heap.size+1) d.heap.size K B b g v w7 bp bn ch (λo l=>by rw[ac o l];exact F.out.qmax o l);obtain⟨QQ,cm⟩:∃QQ,ky (cd B b g) (max 0 v) (l7 B)=QQ:=⟨_,rfl⟩;rw[cm] at a2 V ac;obtain⟨x4,cw⟩:∃x4,withHolds (mr B QQ) (cq (cd B b g) B.hs (max 0 v))=x4:=⟨_,rfl⟩;rw[cw] at a2 V;have b2:=hid a2;have P:=qa2 V ac;clear a2 V ac bn cm cw bp ch T dc;go_wp2_with fail;refine Calls.mono b2.out ?_;rintro e w8 ⟨rfl,av⟩;clear b2;have eh:=hid av;obtain⟨⟨⟨l1,d0,d1⟩,-⟩,-⟩:=HC.out w8 av.bel;have cy:Hid (Calls prog 70 #[.pointer (some ⟨d.heap.size+1,0,none⟩),p.val] w8 λe H=>e = .returned (.tuple #[])/\∃y,ig p b (λi j=>QQ i j) (vy x4) x4 x4.os.n y/\gx D.heap.size (d.heap.size+1) d.heap.size K y b g QQ H):=
  Jg p D.heap.size (d.heap.size+1) d.heap.size K x4 b g QQ w8 av (λwk hb=>(HC.out wk hb).2.1) (F.out.qin.same P.out.1 λi j _ _=>P.out.2 i j)
 clear av eh;go_wp2_with fail;clear l1 d0 d1;refine Calls.mono cy.out ?_;rintro e w9 ⟨rfl,y,hT,az⟩;clear cy;have HY:Hid (ae y (lw p s b g seen)):=by
  refine ig.same F.out.qin (λ_ _=>rfl) (Nat.le_refl s.os.n) F.out.all ?_;have n4:x4.os.n=s.os.n:=P.out.1.os.1;rw[n4] at hT;refine ig.base (m':=vy x4) P.out.1 (λ_ _=>rfl) (λi hi => ?_) (λi j _ _=>P.out.2 i j) (Nat.le_refl s.os.n) hT;exact(P.out.1.os.2 i (by rw[n4];exact hi)).2.1
 have ds:=hid az;obtain⟨pm,p0,p1,p2,p3,p4,p5,p6,-,-,-⟩:=az.boxed;obtain⟨-,-,-,E,J⟩:=HC.out w9 az.bel;have HZ:=qa2 E J;obtain⟨zl,bv,bu,bi,zc1,bz,zc2,b5,zc3,be,zc4,bc,zc5,b8,b9⟩:=z7 J;clear E J az hT P;go_wp2_with fail;have KZ:=s7b HZ.out.2 y;have ck:=s7w (b:=w.heap.size+2) HZ.out.1 (by omega) y;have br:=s7o ds.out.own HZ.out.2 y;unfold set7 at KZ ck br;obtain⟨d2,e3,d4,ez,dr,ei,ec⟩:=co KZ;refine Xzq (v := .tuple #[y.val,.int .i64 0]) (by simp[results,results24,go_sem,St.val,d2,e3,d4,ez,dr,ei,ec]) rfl ?_;exact⟨y,by rw[Y.out];rfl,br.at,⟨λ_=>HY.out,λh=>absurd Y.out h⟩,λ_=>br.mono (Qzx dg.out A1),ck⟩
theorem acp(p:Pl)(s:St)(x:Ax)(w:World)(hp:p.At w)(hs:s.At w)(hx:x.ls.At w)(t:x.k=1):
  Calls prog 6 #[p.val,s.val,x.val] w λe S=>∃y:St,e = .returned (.tuple #[y.val,.int .i64 (doE p s x)])/\y.At S/\dv (doE p s x) (doT p s x) y/\(doE p s x=0->ai w.heap.size S y)/\Below w.heap.size w S:=by
 obtain⟨W0,G,HC,c,Q,⟨⟨l1,X,d1⟩,l2,c0,c1,c2,c3,c4,c5,c6⟩,⟨T,x1,x2,x3,x4,x5,x6⟩,zl,g,d,r,zc1,o,zc2,u,zc3,l,zc4,i,zc5,D,E⟩:=o8 p s x w hp hs hx;rw[<-G.out] at l1 X d1 l2 c0 c1 c2 c3 c4 c5 c6 T x1 x2 x3 x4 x5 x6 zl g d r zc1 o zc2 u zc3 l zc4 i zc5 D E;clear hp hs hx;unfold Pl.val St.val Ax.val Ax.cells;go_enter func6,ntmps6;obtain⟨z,m⟩:∃z,x.k=z:=⟨_,rfl⟩;have HK:Hid (x.k=z):=m;rw[m] at T G ⊢;clear m;have q:z=1:=HK.out.symm.trans t;have j:Hid (doE p s x=gw p s x.a x.b x.n/\doT p s x=li s x.a.toNat x.b.toNat x.n):=by
  have t:x.k=1:=HK.out.trans q;refine⟨?_,?_⟩
  .show(if x.k=1 then _ else _)=_;rw[t]
   rfl
  show(if x.k=1 then _ else _)=_;rw[t]
  rfl
 have g1:(z==1)=true:=by rw[q];rfl
 clear q t;go_wp2_with fail;rw[G.out];clear l1 X d1 l2 c0 c1 c2 c3 c4 c5 c6 T x1 x2 x3 x4 x5 x6 zl g d r zc1 o zc2 u zc3 l zc4 i zc5 D E;refine Calls.mono (Np p s x.a x.b x.n W0 c.out.1 c.out.2.1) ?_;rintro e P ⟨y,rfl,K,J,f,hB⟩;have F:Hid (y.At P/\dv (doE p s x) (doT p s x) y/\(doE p s x=0->ai W0.heap.size P y)):=by
  refine⟨K,?_,?_⟩
  .rw[j.out.1,j.out.2];exact J
  rw[j.out.1];exact f
 have M:=hid j.out.1;rw[<-M.out];obtain⟨-,-,-,ao,V,-,-⟩:=HC.out P hB;clear j M K J f c G g1;obtain⟨U,A⟩:∃U,doE p s x=U:=⟨_,rfl⟩;have aa:=hid A;rw[A];clear A;obtain⟨zl,g,d,r,zc1,o,zc2,u,zc3,l,zc4,i,zc5,D,E⟩:=z7 V;simp only[St.val];go_wp2_with fail;have KZ:=s7b V y;have H:=s7w (b:=w.heap.size+3) ao (by omega) y;have B:=λh=>s7o (F.out.2.2 h) V y;have L:=qf F.out.2.1 F.out.1 B;unfold set7 at KZ H L B;obtain⟨ac,au,ad,ar,Y,W,an⟩:=co KZ;refine Xzq (v := .tuple #[y.val,.int .i64 U]) (by simp[results,results6,go_sem,St.val,ac,au,ad,ar,Y,W,an]) rfl ?_;exact⟨y,by rw[aa.out];rfl,L,F.out.2.1,λh=>(B h).mono Q.out,H⟩
theorem ack(p:Pl)(s:St)(x:Ax)(w:World)(hp:p.At w)(hs:s.At w)(hx:x.ls.At w)(r:x.k=2):
  Calls prog 6 #[p.val,s.val,x.val] w λe P=>∃y:St,e = .returned (.tuple #[y.val,.int .i64 (doE p s x)])/\y.At P/\dv (doE p s x) (doT p s x) y/\(doE p s x=0->ai w.heap.size P y)/\Below w.heap.size w P:=by
 obtain⟨W0,E,HC,a,M,⟨⟨l1,V,d1⟩,l2,c0,c1,c2,c3,c4,c5,c6⟩,⟨Q,x1,Y,x3,x4,x5,x6⟩,zl,i,f,q,zc1,o,zc2,t,zc3,m,zc4,j,zc5,A,B⟩:=o8 p s x w hp hs hx;rw[<-E.out] at l1 V d1 l2 c0 c1 c2 c3 c4 c5 c6 Q x1 Y x3 x4 x5 x6 zl i f q zc1 o zc2 t zc3 m zc4 j zc5 A B;clear hp hs hx;unfold Pl.val St.val Ax.val Ax.cells;go_enter func6,ntmps6;obtain⟨d,n⟩:∃d,x.k=d:=⟨_,rfl⟩;have HK:Hid (x.k=d):=n;rw[n] at Q E ⊢;clear n;have c:d=2:=HK.out.symm.trans r;have l:Hid (doE p s x=gp p s x.ls/\doT p s x=kj s x.ls):=by
  have r:x.k=2:=HK.out.trans c;refine⟨?_,?_⟩
  .show(if x.k=1 then _ else _)=_;rw[r]
   rfl
  show(if x.k=1 then _ else _)=_;rw[r]
  rfl
 have g1:(d==1)=false:=by rw[c];rfl
 have g2:(d==2)=true:=by rw[c];rfl
 clear c r;go_wp2_with fail;rw[E.out];clear l1 V d1 l2 c0 c1 c2 c3 c4 c5 c6 Q x1 Y x3 x4 x5 x6 zl i f q zc1 o zc2 t zc3 m zc4 j zc5 A B;refine Calls.mono (P4 p s x.ls W0 a.out.1 a.out.2.1 a.out.2.2) ?_;rintro e L ⟨y,rfl,H,G,g,hB⟩;have D:Hid (y.At L/\dv (doE p s x) (doT p s x) y/\(doE p s x=0->ai W0.heap.size L y)):=by
  refine⟨H,?_,?_⟩
  .rw[l.out.1,l.out.2];exact G
  rw[l.out.1];exact g
 have K:=hid l.out.1;rw[<-K.out];obtain⟨-,-,-,am,T,-,-⟩:=HC.out L hB;clear l K H G g a E g1 g2;obtain⟨S,u⟩:∃S,doE p s x=S:=⟨_,rfl⟩;have X:=hid u;rw[u];clear u;obtain⟨zl,i,f,q,zc1,o,zc2,t,zc3,m,zc4,j,zc5,A,B⟩:=z7 T;simp only[St.val];go_wp2_with fail;have KZ:=s7b T y;have F:=s7w (b:=w.heap.size+3) am (by omega) y;have z:=λh=>s7o (D.out.2.2 h) T y;have J:=qf D.out.2.1 D.out.1 z;unfold set7 at KZ F J z;obtain⟨aa,aq,ab,ap,W,U,al⟩:=co KZ;refine Xzq (v := .tuple #[y.val,.int .i64 S]) (by simp[results,results6,go_sem,St.val,aa,aq,ab,ap,W,U,al]) rfl ?_;exact⟨y,by rw[X.out];rfl,J,D.out.2.1,λh=>(z h).mono M.out,F⟩
theorem acj(p:Pl)(s:St)(x:Ax)(w:World)(hp:p.At w)(hs:s.At w)(hx:x.ls.At w)(r:x.k=3):
  Calls prog 6 #[p.val,s.val,x.val] w λe P=>∃y:St,e = .returned (.tuple #[y.val,.int .i64 (doE p s x)])/\y.At P/\dv (doE p s x) (doT p s x) y/\(doE p s x=0->ai w.heap.size P y)/\Below w.heap.size w P:=by
 obtain⟨W0,E,HC,d,M,⟨⟨l1,V,d1⟩,l2,c0,c1,c2,c3,c4,c5,c6⟩,⟨Q,x1,Y,x3,x4,x5,x6⟩,zl,i,f,q,zc1,o,zc2,t,zc3,m,zc4,j,zc5,A,B⟩:=o8 p s x w hp hs hx;rw[<-E.out] at l1 V d1 l2 c0 c1 c2 c3 c4 c5 c6 Q x1 Y x3 x4 x5 x6 zl i f q zc1 o zc2 t zc3 m zc4 j zc5 A B;clear hp hs hx;unfold Pl.val St.val Ax.val Ax.cells;go_enter func6,ntmps6;obtain⟨c,n⟩:∃c,x.k=c:=⟨_,rfl⟩;have HK:Hid (x.k=c):=n;rw[n] at Q E ⊢;clear n;have a:c=3:=HK.out.symm.trans r;have l:Hid (doE p s x=ah p s/\doT p s x=Eh p s):=by
  have r:x.k=3:=HK.out.trans a;refine⟨?_,?_⟩
  .show(if x.k=1 then _ else _)=_;rw[r]
   rfl
  show(if x.k=1 then _ else _)=_;rw[r]
  rfl
 have g1:(c==1)=false:=by rw[a];rfl
 have g2:(c==2)=false:=by rw[a];rfl
 have g3:(c==3)=true:=by rw[a];rfl
 clear a r;go_wp2_with fail;rw[E.out];clear l1 V d1 l2 c0 c1 c2 c3 c4 c5 c6 Q x1 Y x3 x4 x5 x6 zl i f q zc1 o zc2 t zc3 m zc4 j zc5 A B;refine Calls.mono (Sc p s  W0 d.out.1 d.out.2.1) ?_;rintro e L ⟨y,rfl,H,G,g,hB⟩;have D:Hid (y.At L/\dv (doE p s x) (doT p s x) y/\(doE p s x=0->ai W0.heap.size L y)):=by
  refine⟨H,?_,?_⟩
  .rw[l.out.1,l.out.2];exact G.act
  rw[l.out.1];exact g
 have K:=hid l.out.1;rw[<-K.out];obtain⟨-,-,-,an,T,-,-⟩:=HC.out L hB;clear l K H G g d E g1 g2 g3;obtain⟨S,u⟩:∃S,doE p s x=S:=⟨_,rfl⟩;have X:=hid u;rw[u];clear u;obtain⟨zl,i,f,q,zc1,o,zc2,t,zc3,m,zc4,j,zc5,A,B⟩:=z7 T;simp only[St.val];go_wp2_with fail;have KZ:=s7b T y;have F:=s7w (b:=w.heap.size+3) an (by omega) y;have z:=λh=>s7o (D.out.2.2 h) T y;have J:=qf D.out.2.1 D.out.1 z;unfold set7 at KZ F J z;obtain⟨aa,ar,ab,aq,W,U,am⟩:=co KZ;refine Xzq (v := .tuple #[y.val,.int .i64 S]) (by simp[results,results6,go_sem,St.val,aa,ar,ab,aq,W,U,am]) rfl ?_;exact⟨y,by rw[X.out];rfl,J,D.out.2.1,λh=>(z h).mono M.out,F⟩
theorem acv(p:Pl)(s:St)(x:Ax)(w:World)(hp:p.At w)(hs:s.At w)(hx:x.ls.At w)(t:x.k=4):
  Calls prog 6 #[p.val,s.val,x.val] w λe Q=>∃y:St,e = .returned (.tuple #[y.val,.int .i64 (doE p s x)])/\y.At Q/\dv (doE p s x) (doT p s x) y/\(doE p s x=0->ai w.heap.size Q y)/\Below w.heap.size w Q:=by
 obtain⟨W0,F,HC,f,P,⟨⟨l1,W,d1⟩,l2,c0,c1,c2,c3,c4,c5,c6⟩,⟨S,x1,x2,x3,x4,x5,x6⟩,zl,j,g,r,zc1,q,zc2,u,zc3,n,zc4,l,zc5,B,D⟩:=o8 p s x w hp hs hx;rw[<-F.out] at l1 W d1 l2 c0 c1 c2 c3 c4 c5 c6 S x1 x2 x3 x4 x5 x6 zl j g r zc1 q zc2 u zc3 n zc4 l zc5 B D;clear hp hs hx;unfold Pl.val St.val Ax.val Ax.cells;go_enter func6,ntmps6;obtain⟨d,o⟩:∃d,x.k=d:=⟨_,rfl⟩;have HK:Hid (x.k=d):=o;rw[o] at S F ⊢;clear o;have c:d=4:=HK.out.symm.trans t;have m:Hid (doE p s x=fu p s x.a/\doT p s x=dt s x.a.toNat):=by
  have t:x.k=4:=HK.out.trans c;refine⟨?_,?_⟩
  .show(if x.k=1 then _ else _)=_;rw[t]
   rfl
  show(if x.k=1 then _ else _)=_;rw[t]
  rfl
 have g1:(d==1)=false:=by rw[c];rfl
 have g2:(d==2)=false:=by rw[c];rfl
 have g3:(d==3)=false:=by rw[c];rfl
 have g4:(d==4)=true:=by rw[c];rfl
 clear c t;go_wp2_with fail;rw[F.out];clear l1 W d1 l2 c0 c1 c2 c3 c4 c5 c6 S x1 x2 x3 x4 x5 x6 zl j g r zc1 q zc2 u zc3 n zc4 l zc5 B D;refine Calls.mono (Uc p s x.a W0 f.out.1 f.out.2.1) ?_;rintro e M ⟨y,rfl,J,H,i,hB⟩;have E:Hid (y.At M/\dv (doE p s x) (doT p s x) y/\(doE p s x=0->ai W0.heap.size M y)):=by
  refine⟨J,?_,?_⟩
  .rw[m.out.1,m.out.2];exact H
  rw[m.out.1];exact i
 have L:=hid m.out.1;rw[<-L.out];obtain⟨-,-,-,an,U,-,-⟩:=HC.out M hB;clear m L J H i f F g1 g2 g3 g4;obtain⟨T,z⟩:∃T,doE p s x=T:=⟨_,rfl⟩;have Y:=hid z;rw[z];clear z;obtain⟨zl,j,g,r,zc1,q,zc2,u,zc3,n,zc4,l,zc5,B,D⟩:=z7 U;simp only[St.val];go_wp2_with fail;have KZ:=s7b U y;have G:=s7w (b:=w.heap.size+3) an (by omega) y;have A:=λh=>s7o (E.out.2.2 h) U y;have K:=qf E.out.2.1 E.out.1 A;unfold set7 at KZ G K A;obtain⟨ab,ar,ac,aq,X,V,am⟩:=co KZ;refine Xzq (v := .tuple #[y.val,.int .i64 T]) (by simp[results,results6,go_sem,St.val,ab,ar,ac,aq,X,V,am]) rfl ?_;exact⟨y,by rw[Y.out];rfl,K,E.out.2.1,λh=>(A h).mono P.out,G⟩
theorem acl(p:Pl)(s:St)(x:Ax)(w:World)(hp:p.At w)(hs:s.At w)(hx:x.ls.At w)(z:x.k=5):
  Calls prog 6 #[p.val,s.val,x.val] w λe T=>∃y:St,e = .returned (.tuple #[y.val,.int .i64 (doE p s x)])/\y.At T/\dv (doE p s x) (doT p s x) y/\(doE p s x=0->ai w.heap.size T y)/\Below w.heap.size w T:=by
 obtain⟨W0,H,HC,g,S,⟨⟨l1,Y,d1⟩,l2,c0,c1,c2,c3,c4,c5,c6⟩,⟨U,x1,x2,x3,x4,x5,x6⟩,zl,l,i,u,zc1,t,zc2,A,zc3,q,zc4,m,zc5,E,F⟩:=o8 p s x w hp hs hx;rw[<-H.out] at l1 Y d1 l2 c0 c1 c2 c3 c4 c5 c6 U x1 x2 x3 x4 x5 x6 zl l i u zc1 t zc2 A zc3 q zc4 m zc5 E F;clear hp hs hx;unfold Pl.val St.val Ax.val Ax.cells;go_enter func6,ntmps6;obtain⟨f,r⟩:∃f,x.k=f:=⟨_,rfl⟩;have HK:Hid (x.k=f):=r;rw[r] at U H ⊢;clear r;have d:f=5:=HK.out.symm.trans z;have o:Hid (doE p s x=ir p s x.a x.b x.c x.n/\doT p s x=pb p s x.a.toNat x.b.toNat x.c.toNat x.n):=by
  have z:x.k=5:=HK.out.trans d;refine⟨?_,?_⟩
  .show(if x.k=1 then _ else _)=_;rw[z]
   rfl
  show(if x.k=1 then _ else _)=_;rw[z]
  rfl
 have g1:(f==1)=false:=by rw[d];rfl
 have g2:(f==2)=false:=by rw[d];rfl
 have g3:(f==3)=false:=by rw[d];rfl
 have g4:(f==4)=false:=by rw[d];rfl
 have g5:(f==5)=true:=by rw[d];rfl
 clear d z;go_wp2_with fail;rw[H.out];clear l1 Y d1 l2 c0 c1 c2 c3 c4 c5 c6 U x1 x2 x3 x4 x5 x6 zl l i u zc1 t zc2 A zc3 q zc4 m zc5 E F;refine Calls.mono (Ya p s x.a x.b x.c x.n W0 g.out.1 g.out.2.1) ?_;rintro e Q ⟨y,rfl,L,K,j,hB⟩;have G:Hid (y.At Q/\dv (doE p s x) (doT p s x) y/\(doE p s x=0->ai W0.heap.size Q y)):=by
  refine⟨L,?_,?_⟩
  .rw[o.out.1,o.out.2];exact K
  rw[o.out.1];exact j
 have P:=hid o.out.1;rw[<-P.out];obtain⟨-,-,-,ap,W,-,-⟩:=HC.out Q hB;clear o P L K j g H g1 g2 g3 g4 g5;obtain⟨V,B⟩:∃V,doE p s x=V:=⟨_,rfl⟩;have ab:=hid B;rw[B];clear B;obtain⟨zl,l,i,u,zc1,t,zc2,A,zc3,q,zc4,m,zc5,E,F⟩:=z7 W;simp only[St.val];go_wp2_with fail;have KZ:=s7b W y;have J:=s7w (b:=w.heap.size+3) ap (by omega) y;have D:=λh=>s7o (G.out.2.2 h) W y;have M:=qf G.out.2.1 G.out.1 D;unfold set7 at KZ J M D;obtain⟨ad,av,ae,au,aa,X,ao⟩:=co KZ;refine Xzq (v := .tuple #[y.val,.int .i64 V]) (by simp[results,results6,go_sem,St.val,ad,av,ae,au,aa,X,ao]) rfl ?_;exact⟨y,by rw[ab.out];rfl,M,G.out.2.1,λh=>(D h).mono S.out,J⟩
theorem acw(p:Pl)(s:St)(x:Ax)(w:World)(hp:p.At w)(hs:s.At w)(hx:x.ls.At w)(r:x.k=6):
  Calls prog 6 #[p.val,s.val,x.val] w λe P=>∃y:St,e = .returned (.tuple #[y.val,.int .i64 (doE p s x)])/\y.At P/\dv (doE p s x) (doT p s x) y/\(doE p s x=0->ai w.heap.size P y)/\Below w.heap.size w P:=by
 obtain⟨W0,E,HC,d,M,⟨⟨l1,V,d1⟩,l2,c0,c1,c2,c3,c4,c5,c6⟩,⟨Q,x1,Y,x3,x4,x5,x6⟩,zl,i,f,q,zc1,o,zc2,t,zc3,m,zc4,j,zc5,A,B⟩:=o8 p s x w hp hs hx;rw[<-E.out] at l1 V d1 l2 c0 c1 c2 c3 c4 c5 c6 Q x1 Y x3 x4 x5 x6 zl i f q zc1 o zc2 t zc3 m zc4 j zc5 A B;clear hp hs hx;unfold Pl.val St.val Ax.val Ax.cells;go_enter func6,ntmps6;obtain⟨c,n⟩:∃c,x.k=c:=⟨_,rfl⟩;have HK:Hid (x.k=c):=n;rw[n] at Q E ⊢;clear n;have a:c=6:=HK.out.symm.trans r;have l:Hid (doE p s x=ah p s/\doT p s x=yp p s):=by
  have r:x.k=6:=HK.out.trans a;refine⟨?_,?_⟩
  .show(if x.k=1 then _ else _)=_;rw[r]
   rfl
  show(if x.k=1 then _ else _)=_;rw[r]
  rfl
 have g1:(c==1)=false:=by rw[a];rfl
 have g2:(c==2)=false:=by rw[a];rfl
 have g3:(c==3)=false:=by rw[a];rfl
 have g4:(c==4)=false:=by rw[a];rfl
 have g5:(c==5)=false:=by rw[a];rfl
 have g6:(c==6)=true:=by rw[a];rfl
 clear a r;go_wp2_with fail;rw[E.out];clear l1 V d1 l2 c0 c1 c2 c3 c4 c5 c6 Q x1 Y x3 x4 x5 x6 zl i f q zc1 o zc2 t zc3 m zc4 j zc5 A B;refine Calls.mono (Ym p s  W0 d.out.1 d.out.2.1) ?_;rintro e L ⟨y,rfl,H,G,g,hB⟩;have D:Hid (y.At L/\dv (doE p s x) (doT p s x) y/\(doE p s x=0->ai W0.heap.size L y)):=by
  refine⟨H,?_,?_⟩
  .rw[l.out.1,l.out.2];exact G
  rw[l.out.1];exact g
 have K:=hid l.out.1;rw[<-K.out];obtain⟨-,-,-,an,T,-,-⟩:=HC.out L hB;clear l K H G g d E g1 g2 g3 g4 g5 g6;obtain⟨S,u⟩:∃S,doE p s x=S:=⟨_,rfl⟩;have X:=hid u;rw[u];clear u;obtain⟨zl,i,f,q,zc1,o,zc2,t,zc3,m,zc4,j,zc5,A,B⟩:=z7 T;simp only[St.val];go_wp2_with fail;have KZ:=s7b T y;have F:=s7w (b:=w.heap.size+3) an (by omega) y;have z:=λh=>s7o (D.out.2.2 h) T y;have J:=qf D.out.2.1 D.out.1 z;unfold set7 at KZ F J z;obtain⟨aa,ar,ab,aq,W,U,am⟩:=co KZ;refine Xzq (v := .tuple #[y.val,.int .i64 S]) (by simp[results,results6,go_sem,St.val,aa,ar,ab,aq,W,U,am]) rfl ?_;exact⟨y,by rw[X.out];rfl,J,D.out.2.1,λh=>(z h).mono M.out,F⟩
theorem acr(p:Pl)(s:St)(x:Ax)(w:World)(hp:p.At w)(hs:s.At w)(hx:x.ls.At w)(u:x.k=7):
  Calls prog 6 #[p.val,s.val,x.val] w λe S=>∃y:St,e = .returned (.tuple #[y.val,.int .i64 (doE p s x)])/\y.At S/\dv (doE p s x) (doT p s x) y/\(doE p s x=0->ai w.heap.size S y)/\Below w.heap.size w S:=by
 obtain⟨W0,G,HC,f,Q,⟨⟨l1,X,d1⟩,l2,c0,c1,c2,c3,c4,c5,c6⟩,⟨T,x1,x2,x3,x4,x5,x6⟩,zl,j,g,t,zc1,r,zc2,z,zc3,o,zc4,l,zc5,D,E⟩:=o8 p s x w hp hs hx;rw[<-G.out] at l1 X d1 l2 c0 c1 c2 c3 c4 c5 c6 T x1 x2 x3 x4 x5 x6 zl j g t zc1 r zc2 z zc3 o zc4 l zc5 D E;clear hp hs hx;unfold Pl.val St.val Ax.val Ax.cells;go_enter func6,ntmps6;obtain⟨d,q⟩:∃d,x.k=d:=⟨_,rfl⟩;have HK:Hid (x.k=d):=q;rw[q] at T G ⊢;clear q;have c:d=7:=HK.out.symm.trans u;have m:Hid (doE p s x=fp p s x.a x.n/\doT p s x=je s x.a.toNat x.n):=by
  have u:x.k=7:=HK.out.trans c;refine⟨?_,?_⟩
  .show(if x.k=1 then _ else _)=_;rw[u]
   rfl
  show(if x.k=1 then _ else _)=_;rw[u]
  rfl
 have g1:(d==1)=false:=by rw[c];rfl
 have g2:(d==2)=false:=by rw[c];rfl
 have g3:(d==3)=false:=by rw[c];rfl
 have g4:(d==4)=false:=by rw[c];rfl
 have g5:(d==5)=false:=by rw[c];rfl
 have g6:(d==6)=false:=by rw[c];rfl
 have g7:(d==7)=true:=by rw[c];rfl
 clear c u;go_wp2_with fail;rw[G.out];clear l1 X d1 l2 c0 c1 c2 c3 c4 c5 c6 T x1 x2 x3 x4 x5 x6 zl j g t zc1 r zc2 z zc3 o zc4 l zc5 D E;refine Calls.mono (Wi p s x.a x.n W0 f.out.1 f.out.2.1) ?_;rintro e P ⟨y,rfl,K,J,i,hB⟩;have F:Hid (y.At P/\dv (doE p s x) (doT p s x) y/\(doE p s x=0->ai W0.heap.size P y)):=by
  refine⟨K,?_,?_⟩
  .rw[m.out.1,m.out.2];exact J
  rw[m.out.1];exact i
 have M:=hid m.out.1;rw[<-M.out];obtain⟨-,-,-,ao,V,-,-⟩:=HC.out P hB;clear m M K J i f G g1 g2 g3 g4 g5 g6 g7;obtain⟨U,A⟩:∃U,doE p s x=U:=⟨_,rfl⟩;have aa:=hid A;rw[A];clear A;obtain⟨zl,j,g,t,zc1,r,zc2,z,zc3,o,zc4,l,zc5,D,E⟩:=z7 V;simp only[St.val];go_wp2_with fail;have KZ:=s7b V y;have H:=s7w (b:=w.heap.size+3) ao (by omega) y;have B:=λh=>s7o (F.out.2.2 h) V y;have L:=qf F.out.2.1 F.out.1 B;unfold set7 at KZ H L B;obtain⟨ac,au,ad,ar,Y,W,an⟩:=co KZ;refine Xzq (v := .tuple #[y.val,.int .i64 U]) (by simp[results,results6,go_sem,St.val,ac,au,ad,ar,Y,W,an]) rfl ?_;exact⟨y,by rw[aa.out];rfl,L,F.out.2.1,λh=>(B h).mono Q.out,H⟩
theorem acq(p:Pl)(s:St)(x:Ax)(w:World)(hp:p.At w)(hs:s.At w)(hx:x.ls.At w)(u:x.k=8):
  Calls prog 6 #[p.val,s.val,x.val] w λe S=>∃y:St,e = .returned (.tuple #[y.val,.int .i64 (doE p s x)])/\y.At S/\dv (doE p s x) (doT p s x) y/\(doE p s x=0->ai w.heap.size S y)/\Below w.heap.size w S:=by
 obtain⟨W0,G,HC,f,Q,⟨⟨l1,X,d1⟩,l2,c0,c1,c2,c3,c4,c5,c6⟩,⟨T,x1,x2,x3,x4,x5,x6⟩,zl,j,g,t,zc1,r,zc2,z,zc3,o,zc4,l,zc5,D,E⟩:=o8 p s x w hp hs hx;rw[<-G.out] at l1 X d1 l2 c0 c1 c2 c3 c4 c5 c6 T x1 x2 x3 x4 x5 x6 zl j g t zc1 r zc2 z zc3 o zc4 l zc5 D E;clear hp hs hx;unfold Pl.val St.val Ax.val Ax.cells;go_enter func6,ntmps6;obtain⟨d,q⟩:∃d,x.k=d:=⟨_,rfl⟩;have HK:Hid (x.k=d):=q;rw[q] at T G ⊢;clear q;have c:d=8:=HK.out.symm.trans u;have m:Hid (doE p s x=fg p s x.a x.b x.n/\doT p s x=lw p s x.a.toNat x.b.toNat x.n):=by
  have u:x.k=8:=HK.out.trans c;refine⟨?_,?_⟩
  .show(if x.k=1 then _ else _)=_;rw[u]
   rfl
  show(if x.k=1 then _ else _)=_;rw[u]
  rfl
 have g1:(d==1)=false:=by rw[c];rfl
 have g2:(d==2)=false:=by rw[c];rfl
 have g3:(d==3)=false:=by rw[c];rfl
 have g4:(d==4)=false:=by rw[c];rfl
 have g5:(d==5)=false:=by rw[c];rfl
 have g6:(d==6)=false:=by rw[c];rfl
 have g7:(d==7)=false:=by rw[c];rfl
 have g8:(d==8)=true:=by rw[c];rfl
 clear c u;go_wp2_with fail;rw[G.out];clear l1 X d1 l2 c0 c1 c2 c3 c4 c5 c6 T x1 x2 x3 x4 x5 x6 zl j g t zc1 r zc2 z zc3 o zc4 l zc5 D E;refine Calls.mono (Wh p s x.a x.b x.n W0 f.out.1 f.out.2.1) ?_;rintro e P ⟨y,rfl,K,J,i,hB⟩;have F:Hid (y.At P/\dv (doE p s x) (doT p s x) y/\(doE p s x=0->ai W0.heap.size P y)):=by
  refine⟨K,?_,?_⟩
  .rw[m.out.1,m.out.2];exact J
  rw[m.out.1];exact i
 have M:=hid m.out.1;rw[<-M.out];obtain⟨-,-,-,ao,V,-,-⟩:=HC.out P hB;clear m M K J i f G g1 g2 g3 g4 g5 g6 g7 g8;obtain⟨U,A⟩:∃U,doE p s x=U:=⟨_,rfl⟩;have aa:=hid A;rw[A];clear A;obtain⟨zl,j,g,t,zc1,r,zc2,z,zc3,o,zc4,l,zc5,D,E⟩:=z7 V;simp only[St.val];go_wp2_with fail;have KZ:=s7b V y;have H:=s7w (b:=w.heap.size+3) ao (by omega) y;have B:=λh=>s7o (F.out.2.2 h) V y;have L:=qf F.out.2.1 F.out.1 B;unfold set7 at KZ H L B;obtain⟨ac,au,ad,ar,Y,W,an⟩:=co KZ;refine Xzq (v := .tuple #[y.val,.int .i64 U]) (by simp[results,results6,go_sem,St.val,ac,au,ad,ar,Y,W,an]) rfl ?_;exact⟨y,by rw[aa.out];rfl,L,F.out.2.1,λh=>(B h).mono Q.out,H⟩
theorem acu(p:Pl)(s:St)(x:Ax)(w:World)(S:p.At w)(hs:s.At w)(hx:x.ls.At w)(H:¬x.k=1)(P:¬x.k=2)(A:¬x.k=3)(K:¬x.k=4)(B:¬x.k=5)(Q:¬x.k=6)(M:¬x.k=7)(D:¬x.k=8):
  Calls prog 6 #[p.val,s.val,x.val] w λe i=>∃y:St,e = .returned (.tuple #[y.val,.int .i64 (doE p s x)])/\y.At i/\dv (doE p s x) (doT p s x) y/\(doE p s x=0->ai w.heap.size i y)/\Below w.heap.size w i:=by
 obtain⟨W0,n,X,al,W,⟨⟨l1,V,d1⟩,l2,c0,c1,c2,c3,c4,c5,c6⟩,⟨G,x1,x2,x3,Y,x5,x6⟩,zl,F,E,z,zc1,J,zc2,L,zc3,u,zc4,t,zc5,T,U⟩:=o8 p s x w S hs hx;rw[<-n.out] at l1 V d1 l2 c0 c1 c2 c3 c4 c5 c6 G x1 x2 x3 Y x5 x6 zl F E z zc1 J zc2 L zc3 u zc4 t zc5 T U;clear S hs hx;unfold Pl.val St.val Ax.val Ax.cells;go_enter func6,ntmps6;obtain⟨a,c⟩:∃a,x.k=a:=⟨_,rfl⟩;have b:Hid (x.k=a):=c;rw[c] at G n ⊢;clear c;have f:¬a=1:=by rw[<-b.out];exact H
 have n2:¬a=2:=by rw[<-b.out];exact P
 have q:¬a=3:=by rw[<-b.out];exact A
 have g:¬a=4:=by rw[<-b.out];exact K
 have l:¬a=5:=by rw[<-b.out];exact B
 have r:¬a=6:=by rw[<-b.out];exact Q
 have m:¬a=7:=by rw[<-b.out];exact M
 have j:¬a=8:=by rw[<-b.out];exact D
 have o:Hid (doE p s x=8):=by
  show(if x.k=1 then _ else _)=_;rw[b.out,if_neg f,if_neg n2,if_neg q,if_neg g,if_neg l,if_neg r,if_neg m,if_neg j]
 have g1:(a==1)=false:=by simpa using f
 have g2:(a==2)=false:=by simpa using n2
 have g3:(a==3)=false:=by simpa using q
 have g4:(a==4)=false:=by simpa using g
 have g5:(a==5)=false:=by simpa using l
 have g6:(a==6)=false:=by simpa using r
 have g7:(a==7)=false:=by simpa using m
 have g8:(a==8)=false:=by simpa using j
 clear f n2 q g l r m j;have d:=(X.out W0 brf).2.2.2.1;rw[<-n.out] at d;go_wp2_with fail;refine Xzq (v := .tuple #[ng.val,.int .i64 8]) (by simp[results,results6,go_sem,ng,St.val]) rfl ?_;exact⟨ng,by rw[o.out];rfl,y9 _,⟨λh=>absurd h (by rw[o.out];decide),λ_=>⟨rfl,rfl,rfl,rfl,rfl,rfl,rfl⟩⟩,λh=>absurd h (by rw[o.out];decide),d⟩
theorem P6(p:Pl)(s:St)(x:Ax)(w:World)(a:p.At w)(hs:s.At w)(hx:x.ls.At w):
  Calls prog 6 #[p.val,s.val,x.val] w λe b=>∃y:St,e = .returned (.tuple #[y.val,.int .i64 (doE p s x)])/\y.At b/\dv (doE p s x) (doT p s x) y/\(doE p s x=0->ai w.heap.size b y)/\Below w.heap.size w b:=by
 by_cases j:x.k=1
 .exact acp p s x w a hs hx j
 by_cases i:x.k=2
 .exact ack p s x w a hs hx i
 by_cases h:x.k=3
 .exact acj p s x w a hs hx h
 by_cases c:x.k=4
 .exact acv p s x w a hs hx c
 by_cases l:x.k=5
 .exact acl p s x w a hs hx l
 by_cases d:x.k=6
 .exact acw p s x w a hs hx d
 by_cases f:x.k=7
 .exact acr p s x w a hs hx f
 by_cases g:x.k=8
 .exact acq p s x w a hs hx g
 exact acu p s x w a hs hx j i h c l d f g
def My(A:Nat)(w w2:World):Prop:=∀g,A<=g->g<w.heap.size->w2.heap[g]?=w.heap[g]?
theorem Blk.high{A g n:Nat}{w a:World}{e:TypeId}{f:Nat->Value}(h:Blk w g e n f)(k:My A w a)(b:A<=g):Blk a g e n f:=h.same (k g b h.lt)
theorem j6.high{A:Nat}{w b:World}{r:Rw}(h:j6 A w r)(k:My A w b):j6 A b r:=by
 obtain⟨g,d,a,e,c,f⟩:=h;exact⟨g,d,a,e,c,f.high k a⟩
theorem cz.high{A:Nat}{e:TypeId}{w b:World}{s:Hs}(h:cz A e w s)(k:My A w b):cz A e b s:=by
 obtain⟨j,c,m,i⟩:=h;refine⟨j,c,m,λf => ?_⟩;obtain⟨g,d,a,l⟩:=i f;exact⟨g,d,a,l.high k a⟩
theorem fq.high{A:Nat}{w f:World}{e:TypeId}{size:Nat}{a:Option Addr}{c:Nat}(h:fq A w e size a c)(k:My A w f):fq A f e size a c:=by
 rcases h with h|⟨g,cur,i,b,d,hs⟩
 .exact Or.inl h
 exact Or.inr ⟨g,cur,i,b,(k g b (Qkq d).1).trans d,hs⟩
theorem j7.high{A:Nat}{w f:World}{s:Os}(h:j7 A w s)(k:My A w f):j7 A f s:=by
 refine⟨h.le,h.cap,λj => ?_,λi hi => ?_,h.apart,h.room.high k⟩
 .obtain⟨g,a,b,c⟩:=h.list j;exact⟨g,a,b,c.high k b⟩
 obtain⟨C,a,b,c,d,e⟩:=h.lines i hi;exact⟨C,a,b,c,d,e.high k b⟩
theorem ai.high{A:Nat}{w b:World}{s:St}(h:ai A w s)(k:My A w b):ai A b s:=by
 refine⟨?_,λi hi=>(h.rows i hi).high k,h.rapart,h.os.high k,h.hs.high k,h.ms.high k,h.msr.high k,h.si.high k,h.so.high k,h.sf.high k,h.aio,h.aif,h.aof,h.ari⟩;obtain⟨g,d,a,e,c,f⟩:=h.on;exact⟨g,d,a,e,c,f.high k a⟩
theorem ai.fr{A:Nat}{w:World}{s:St}(h:ai A w s):Fr A w s:=λ_ _ k=>(h.high k).at
theorem Fr.set7{n:Nat}{w:World}{s:St}(h:Fr n w s){b:Nat}(a:b<n)(c e j f i g d:Value):Fr n (Go.Proofs.YtbcacebifpagpafGreat.set7 w b c e j f i g d) s :=
 ((((((h.set a 0 c).set a 1 e).set a 2 j).set a 3 f).set a 4 i).set a 5 g).set a 6 d
theorem Sp{p:Pl}{s t:St}(a:Ag p s)(b:Ag p t):ae s t:=by
 obtain⟨a1,d,k,h,l,g,e,f⟩:=a;obtain⟨b1,b2,b3,b4,b5,b6,b7,b8⟩:=b;refine⟨⟨by omega,λi hi => ?_⟩,⟨by omega,λi hi=>absurd hi (by omega)⟩,⟨by omega,λj c=>absurd c (by omega)⟩,⟨by omega,λj c=>absurd c (by omega)⟩,⟨by omega,λj c => ?_⟩,⟨by omega,λj c => ?_⟩,⟨by omega,λj c => ?_⟩⟩
 .have x:=d i (by omega);have y:=b2 i (by omega);exact⟨by omega,λj c=>by rw[x.2 j (by omega),y.2 j (by omega)]⟩
 .rw[g.2 j (by omega),b6.2 j (by omega)]
 .rw[e.2 j (by omega),b7.2 j (by omega)]
 rw[f.2 j (by omega),b8.2 j (by omega)]
theorem Zf(p:Pl)(w:World)(hp:p.At w):
  Calls prog 93 #[p.val] w λe w'=>∃s:St,e = .returned (.tuple #[s.val,.int .i64 (iz p)])/\Fr w.heap.size w' s/\aam p s/\Below w.heap.size w w':=by
 have capb:=hp.capb;have leb:=hp.leb;unfold maxLen at capb;obtain⟨W0,hW,T,X0,Z0⟩:∃W,((w.alloc (.cells #[.slice p.ab p.nb p.cb,.slice p.sa p.ns p.cs] 25)).alloc (.cells #[.slice .none 0 0,.slice .none 0 0,.slice .none 0 0,.slice .none 0 0,.slice .none 0 0,.slice .none 0 0,.slice .none 0 0] 31))=W/\Below w.heap.size w W/\Blk W w.heap.size 25 2 (λj=>(#[.slice p.ab p.nb p.cb,.slice p.sa p.ns p.cs]:Array Value).getD j default)/\Blk W (w.heap.size+1) 31 7 (λ_ => .slice .none 0 0):=
  ⟨_,rfl,j8 _ _ _,(Blk.mk' rfl rfl).alloc _,(Blk.mk' (cur:=#[.slice .none 0 0,.slice .none 0 0,.slice .none 0 0,.slice .none 0 0,.slice .none 0 0,.slice .none 0 0,.slice .none 0 0]) (by simp) rfl).congr (λj q=>by match j,q with|0,_=>rfl|1,_=>rfl|2,_=>rfl|3,_=>rfl|4,_=>rfl|5,_=>rfl|6,_=>rfl)⟩
 have HW:Hid ((w.alloc (.cells #[.slice p.ab p.nb p.cb,.slice p.sa p.ns p.cs] 25)).alloc (.cells #[.slice .none 0 0,.slice .none 0 0,.slice .none 0 0,.slice .none 0 0,.slice .none 0 0,.slice .none 0 0,.slice .none 0 0] 31)=W0):=hW;clear hW;unfold Pl.val;go_enter func93,ntmps93;go_wp2_with fail;rw[HW.out];refine(yq p W0 (hp.below T)).mono ?_;rintro e a ⟨rfl,B⟩;have u:=X0.below B;have Z1:=Z0.below B;have M:=T.trans (B.mono T.size);clear X0 Z0 B;by_cases J:iz p=0;rotate_left
 .obtain⟨zl,aw,ar,a8,zc1,a5,zc2,bc,zc3,a0,zc4,ax,zc5,bg,bh⟩:=z7 Z1;go_wp2_with fail;have KZ:=n7b Z1;have r:=n7w (b:=w.heap.size+1) M (by omega);unfold set7 at KZ r;obtain⟨c0,c1,c2,c3,c4,c5,c6⟩:=co KZ;refine Xzq (v := .tuple #[ng.val,.int .i64 (iz p)]) (by simp[results,results93,go_sem,ng,St.val,c0,c1,c2,c3,c4,c5,c6]) rfl ?_;exact⟨ng,rfl,λap _ _=>y9 _,⟨λh=>absurd h J,λ_=>⟨rfl,rfl,rfl,rfl,rfl,rfl,rfl⟩⟩,r⟩
 have R:=Lt J;have c:=R.ns3;have bk:=R.nb6;have bq:=R.ns1;have H0:=hid J;rw[J];clear J R;obtain⟨i0,hi,au,ba,a4⟩:=info_parts abn;have d0:a.cell? ⟨w.heap.size,0,none⟩=some (.slice p.ab p.nb p.cb):=u.k 0;have l1:=u.lt;go_wp2_with(at_make;refine wpList_make_full _ rfl _ _ 26 rfl a.heap.size 23 i0 (.slice .none 0 0) 1 underlying26 hi au ba .i64 .i64 _ _ p.nb rfl rfl rfl rfl (by rw[a4];omega) (by unfold maxLen;omega) nlr ?_;intro w2 X A);obtain⟨g,c',hv,_,_,_,x⟩:=Blk.ofOwns X (by simp);simp only[Value.slice.injEq,Qkx,Qkz,and_true] at hv;obtain⟨rfl,-,-⟩:=hv;rw[Nat.mul_one] at x;have al:Below a.heap.size a w2:=(Below.refl _ a).grown A nlr (by intro k hk;cases hk);clear X A d0;have eg:=enters_of func144 (by kernel_rfl) rfl
 go_loopw [21] (λi wk=>∃k:Nat,k<=p.nb/\i = .int .i64 k/\(∃(G:Nat->Nat),Blk wk a.heap.size 23 p.nb (λi=>if i<k then .slice (some ⟨G i,0,none⟩) p.ns p.ns else .slice none 0 0)/\(∀i,i<k->a.heap.size<G i/\Blk wk (G i) 3 p.ns (λ_ => .int .i64 0)))/\Below a.heap.size a wk) (λi _=>p.nb-(intOf i).toNat)
 case atStart=>exact⟨0,Qxz _,rfl,⟨λ_=>0,x.congr (λj q=>by rw[ab8 q];simp),λi hi=>absurd hi (Qzq _)⟩,al⟩
 clear x al;obtain⟨k,hk,rfl,y,F⟩:=hrel;have X2:=u.below F;have hl:=X2.lt;by_cases bf:k<p.nb
 .have HG:Hid (∃(G:Nat->Nat),Blk wr a.heap.size 23 p.nb (λi=>if i<k then .slice (some ⟨G i,0,none⟩) p.ns p.ns else .slice none 0 0)/\(∀i,i<k->a.heap.size<G i/\Blk wr (G i) 3 p.ns (λ_ => .int .i64 0))):=y;clear y;have m1:(0:Int)<=(k:Int):=by omega
  go_wp2_with fail;refine(Ce w.heap.size p wr c hl (X2.k 1)).mono ?_;rintro e d ⟨rfl,aj,f⟩;obtain⟨G,L,l⟩:=HG.out;have bt:=L.lt;have E:=L.below f;have bu:=E.frozen k;have a7:=E.cell bf;simp only[Nat.lt_irrefl,if_false] at a7;have o:=F.trans (f.mono F.size);have st:=o.setCell (p:=⟨a.heap.size,k,none⟩) nlr (.slice (some ⟨wr.heap.size,0,none⟩) p.ns p.ns);have KB:=E.set k (.slice (some ⟨wr.heap.size,0,none⟩) p.ns p.ns);have KO:∀i,i<k->Blk (d.setCell ⟨a.heap.size,k,none⟩ (.slice (some ⟨wr.heap.size,0,none⟩) p.ns p.ns)) (G i) 3 p.ns (λ_ => .int .i64 0):=λi hi=>((l i hi).2.below f).other (by have:=(l i hi).1;show _≠a.heap.size;omega) _;have KN:Blk (d.setCell ⟨a.heap.size,k,none⟩ (.slice (some ⟨wr.heap.size,0,none⟩) p.ns p.ns)) wr.heap.size 3 p.ns (λ_ => .int .i64 0):=aj.other (by show _≠a.heap.size;omega) _;have HH:Hid _:=And.intro KB (And.intro KO (And.intro KN l));clear KB KO KN L E l aj X2 HG;go_wp2_with fail;go_roundw
  case measure=>simp[intOf];omega
  obtain⟨KB,KO,KN,l⟩:=HH.out;refine⟨k+1,by omega,by go_num,⟨λi=>if i=k then wr.heap.size else G i,KB.congr ?_,?_⟩,st⟩
  .intro j q;by_cases n:j=k
   .subst n;simp
   by_cases h2:j<k
   .simp[n,h2,show j<k+1 by omega]
   simp[n,h2,show ¬j<k+1 by omega]
  intro j q;by_cases n:j=k
  .subst n;simp only[if_true];exact⟨by omega,KN⟩
  simp only[if_neg n];exact⟨(l j (by omega)).1,KO j (by omega)⟩
 have aq:k=p.nb:=by omega
 subst aq;have HG:Hid (∃(G:Nat->Nat),Blk wr a.heap.size 23 p.nb (λi=>if i<p.nb then .slice (some ⟨G i,0,none⟩) p.ns p.ns else .slice none 0 0)/\(∀i,i<p.nb->a.heap.size<G i/\Blk wr (G i) 3 p.ns (λ_ => .int .i64 0))):=y;clear y;go_wp2_with fail;refine(Ce w.heap.size p wr c hl (X2.k 1)).mono ?_;rintro e d ⟨rfl,k3,f⟩;have o:=F.trans (f.mono F.size);go_wp2_with fail;refine(Ce w.heap.size p d c (u.below o).lt ((u.below o).k 1)).mono ?_;rintro e m ⟨rfl,k4,D⟩;have z:=o.trans (D.mono o.size);go_wp2_with fail;refine(Ce w.heap.size p m c (u.below z).lt ((u.below z).k 1)).mono ?_;rintro e w5 ⟨rfl,k5,K⟩;have ak:=z.trans (K.mono z.size);have Z5:=Z1.below ak;obtain⟨zl,aw,ar,a8,zc1,a5,zc2,bc,zc3,a0,zc4,ax,zc5,bg,bh⟩:=z7 Z5;go_wp2_with fail;have KZ:=rp Z5 (.slice (some ⟨a.heap.size,0,none⟩) p.nb p.nb) (.slice .none 0 0) (.slice .none 0 0) (.slice .none 0 0) (.slice (some ⟨wr.heap.size,0,none⟩) p.ns p.ns) (.slice (some ⟨d.heap.size,0,none⟩) p.ns p.ns) (.slice (some ⟨m.heap.size,0,none⟩) p.ns p.ns);obtain⟨G,L,l⟩:=HG.out;have S:=D.trans (K.mono D.size);have Y:=f.trans (S.mono f.size);have s1:=Z1.lt;have sr:=F.size;have s3:=f.size;have s4:=D.size;have Q:=ww (b:=w.heap.size+1) (L.below Y) (by omega) (.slice (some ⟨a.heap.size,0,none⟩) p.nb p.nb) (.slice .none 0 0) (.slice .none 0 0) (.slice .none 0 0) (.slice (some ⟨wr.heap.size,0,none⟩) p.ns p.ns) (.slice (some ⟨d.heap.size,0,none⟩) p.ns p.ns) (.slice (some ⟨m.heap.size,0,none⟩) p.ns p.ns);have U:=λi (hi:i<p.nb)=>ww (b:=w.heap.size+1) ((l i hi).2.below Y) (by have:=(l i hi).1;omega) (.slice (some ⟨a.heap.size,0,none⟩) p.nb p.nb) (.slice .none 0 0) (.slice .none 0 0) (.slice .none 0 0) (.slice (some ⟨wr.heap.size,0,none⟩) p.ns p.ns) (.slice (some ⟨d.heap.size,0,none⟩) p.ns p.ns) (.slice (some ⟨m.heap.size,0,none⟩) p.ns p.ns);have V:=ww (b:=w.heap.size+1) (k3.below S) (by omega) (.slice (some ⟨a.heap.size,0,none⟩) p.nb p.nb) (.slice .none 0 0) (.slice .none 0 0) (.slice .none 0 0) (.slice (some ⟨wr.heap.size,0,none⟩) p.ns p.ns) (.slice (some ⟨d.heap.size,0,none⟩) p.ns p.ns) (.slice (some ⟨m.heap.size,0,none⟩) p.ns p.ns);have P:=ww (b:=w.heap.size+1) (k4.below K) (by omega) (.slice (some ⟨a.heap.size,0,none⟩) p.nb p.nb) (.slice .none 0 0) (.slice .none 0 0) (.slice .none 0 0) (.slice (some ⟨wr.heap.size,0,none⟩) p.ns p.ns) (.slice (some ⟨d.heap.size,0,none⟩) p.ns p.ns) (.slice (some ⟨m.heap.size,0,none⟩) p.ns p.ns);have aa:=ww (b:=w.heap.size+1) k5 (by omega) (.slice (some ⟨a.heap.size,0,none⟩) p.nb p.nb) (.slice .none 0 0) (.slice .none 0 0) (.slice .none 0 0) (.slice (some ⟨wr.heap.size,0,none⟩) p.ns p.ns) (.slice (some ⟨d.heap.size,0,none⟩) p.ns p.ns) (.slice (some ⟨m.heap.size,0,none⟩) p.ns p.ns);have r:=na (b:=w.heap.size+1) (M.trans (ak.mono M.size)) (by omega) (.slice (some ⟨a.heap.size,0,none⟩) p.nb p.nb) (.slice .none 0 0) (.slice .none 0 0) (.slice .none 0 0) (.slice (some ⟨wr.heap.size,0,none⟩) p.ns p.ns) (.slice (some ⟨d.heap.size,0,none⟩) p.ns p.ns) (.slice (some ⟨m.heap.size,0,none⟩) p.ns p.ns);unfold set7 at KZ Q U V P aa r
 generalize (((((((w5.setCell { block:=w.heap.size+1,off:=0 } (Value.slice (some { block:=a.heap.size,off:=0 }) p.nb p.nb)).setCell { block:=w.heap.size+1,off:=1 } (Value.slice none 0 0)).setCell { block:=w.heap.size+1,off:=2 } (Value.slice none 0 0)).setCell { block:=w.heap.size+1,off:=3 } (Value.slice none 0 0)).setCell { block:=w.heap.size+1,off:=4 } (Value.slice (some { block:=wr.heap.size,off:=0 }) p.ns p.ns)).setCell { block:=w.heap.size+1,off:=5 } (Value.slice (some { block:=d.heap.size,off:=0 }) p.ns p.ns)).setCell { block:=w.heap.size+1,off:=6 } (Value.slice (some { block:=m.heap.size,off:=0 }) p.ns p.ns))=WZ at *
 obtain⟨c0,c1,c2,c3,c4,c5,c6⟩:=co KZ;refine Xzq (v := .tuple #[(⟨⟨some ⟨a.heap.size,0,none⟩,p.nb,p.nb,λi=>⟨some ⟨G i,0,none⟩,p.ns,p.ns,λ_=>0⟩⟩,⟨none,0,0,λ_=>⟨0,⟨none,0,0,λ_=>⟨0,0,0,0⟩⟩⟩⟩,⟨none,0,0,λ_=>⟨0,0,0,0⟩⟩,⟨none,0,0,λ_=>⟨0,0,0,0⟩⟩,⟨some ⟨wr.heap.size,0,none⟩,p.ns,p.ns,λ_=>0⟩,⟨some ⟨d.heap.size,0,none⟩,p.ns,p.ns,λ_=>0⟩,⟨some ⟨m.heap.size,0,none⟩,p.ns,p.ns,λ_=>0⟩⟩:St).val,.int .i64 0]) (by simp[results,results93,go_sem,St.val,c0,c1,c2,c3,c4,c5,c6]) rfl ?_;refine⟨_,by rw[H0.out],λap hz hs=>⟨⟨Nat.le_refl _,by show p.nb<=maxLen;unfold maxLen;omega,λi hi => ?_⟩,⟨Nat.le_refl _,Qxz _,λi hi=>absurd hi (Qzq _)⟩,Hs.none _,Hs.none _,Kx (V.same (hs _ (by omega) V.lt)) c,Kx (P.same (hs _ (by omega) P.lt)) c,Kx (aa.same (hs _ (by omega) aa.lt)) c⟩,⟨λ_=>⟨rfl,λi hi=>⟨rfl,λj q=>rfl⟩,rfl,rfl,rfl,⟨rfl,λj q=>rfl⟩,⟨rfl,λj q=>rfl⟩,⟨rfl,λj q=>rfl⟩⟩,λh=>absurd H0.out h⟩,r⟩;have t:i<p.nb:=hi;have H:=Q.same (hs _ (by omega) Q.lt);refine⟨a.heap.size,0,rfl,H.lt,?_,Kx ((U i t).same (hs _ (by have:=(l i t).1;omega) (U i t).lt)) c⟩;have:=H.cell t;rw[if_pos t] at this;rw[Nat.zero_add];exact this
def Bv(p:Pl)(t:List UInt8):Int:=if iz p=0 then Gt t else iz p
def Qs(p:Pl)(t:List UInt8):Nat:=if Bv p t=0 then(pn t).length else 0
def Ve(p:Pl)(t:List UInt8)(y:St):Prop:=(Bv p t=0->∃s0,Ag p s0/\ae y (qr p s0 (pn t)))/\(¬Bv p t=0->Dj y)
theorem Yc{p:Pl}{s y d:St}{x c:Ax}(r:au p s)(e:ae y s)(a:yj x c)(h:dv (doE p y x) (doT p y x) d):(doE p y x=0->ae d (vl p s c))/\(¬doE p y x=0->ae y (vl p s c)):=by
 have k:=Kw r e a;unfold vl at k;refine⟨λb => ?_,λb => ?_⟩
 .rw[if_pos b] at k;exact(h.1 b).trans k
 rw[if_neg b] at k;exact k
theorem Yu{p:Pl}{s:St}{l:List Ax}{j:Nat}(h:j<l.length):qr p s (l.take (j+1))=vl p (qr p s (l.take j)) l[j]:=by
 rw[List.take_add_one,List.getElem?_eq_getElem h];exact Wu p s (l.take j) [l[j]]
theorem As.At.six{w:World}{s:As}(h:s.At w){i:Nat}(hi:i<s.n):∃b o,s.a=some ⟨b,o,none⟩/\w.cell? ⟨b,o+i*6,none⟩=some (.int .i64 (s.z i).k)/\w.cell? ⟨b,o+i*6+1,none⟩=some (.int .i64 (s.z i).a)/\w.cell? ⟨b,o+i*6+2,none⟩=some (.int .i64 (s.z i).b)/\w.cell? ⟨b,o+i*6+3,none⟩=some (.int .i64 (s.z i).c)/\w.cell? ⟨b,o+i*6+4,none⟩=some (.int .i64 (s.z i).n)/\w.cell? ⟨b,o+i*6+5,none⟩=some (.slice (s.z i).ls.a (s.z i).ls.n (s.z i).ls.c):=by
 obtain⟨b,o,d,hc⟩:=h.cells i hi;exact⟨b,o,d,hc 0 (by decide),hc 1 (by decide),hc 2 (by decide),hc 3 (by decide),hc 4 (by decide),hc 5 (by decide)⟩
theorem aag{w:World}{b o:Nat}{v:Value}(h:w.cell? ⟨b,o,none⟩=some v):b<w.heap.size:=by
 unfold World.cell? at h
 split at h
 .rename_i a;exact(Qkq a).1
 cases h
theorem Bt.set7{R:Nat}{a w:World}(h:Bt R a w)(c e b f i g d:Value):Bt R a (Go.Proofs.YtbcacebifpagpafGreat.set7 w R c e b f i g d):=
 ((((((h.set (p:=⟨R,0,none⟩) (Or.inl rfl) c).set (p:=⟨R,1,none⟩) (Or.inl rfl) e).set (p:=⟨R,2,none⟩) (Or.inl rfl) b).set (p:=⟨R,3,none⟩) (Or.inl rfl) f).set (p:=⟨R,4,none⟩) (Or.inl rfl) i).set (p:=⟨R,5,none⟩) (Or.inl rfl) g).set (p:=⟨R,6,none⟩) (Or.inl rfl) d
theorem Sb(p:Pl)(t:List UInt8)(w:World)(hp:p.At w):
  Calls prog 39 #[p.val,.string ⟨t.toArray⟩] w λe w'=>∃y:St,e = .returned (.tuple #[y.val,.int .i64 (Qs p t:Int),.int .i64 (Bv p t)])/\y.At w'/\Ve p t y/\Below w.heap.size w w':=by
 obtain⟨H,hW,ac,X0,Z0,cc⟩:∃W,(w.alloc (.cells #[.slice p.ab p.nb p.cb,.slice p.sa p.ns p.cs] 25)).alloc (.cells #[.slice .none 0 0,.slice .none 0 0,.slice .none 0 0,.slice .none 0 0,.slice .none 0 0,.slice .none 0 0,.slice .none 0 0] 31)=W/\Below w.heap.size w W/\Blk W w.heap.size 25 2 (λj=>(#[.slice p.ab p.nb p.cb,.slice p.sa p.ns p.cs]:Array Value).getD j default)/\Blk W (w.heap.size+1) 31 7 (λ_ => .slice .none 0 0)/\W.heap.size=w.heap.size+2 :=
  ⟨_,rfl,j8 _ _ _,(Blk.mk' rfl rfl).alloc _,(Blk.mk' (cur:=#[.slice .none 0 0,.slice .none 0 0,.slice .none 0 0,.slice .none 0 0,.slice .none 0 0,.slice .none 0 0,.slice .none 0 0]) (by simp) rfl).congr (λj hj=>by match j,hj with|0,_=>rfl|1,_=>rfl|2,_=>rfl|3,_=>rfl|4,_=>rfl|5,_=>rfl|6,_=>rfl),by simp⟩
 have HC:Hid (∀g,Below H.heap.size H g->Blk g w.heap.size 25 2 (λj=>(#[.slice p.ab p.nb p.cb,.slice p.sa p.ns p.cs]:Array Value).getD j default)/\Blk g (w.heap.size+1) 31 7 (λ_ => .slice .none 0 0)/\p.At g/\Below w.heap.size w g):=λg h=>⟨X0.below h,Z0.below h,(hp.below ac).below h,ac.trans (h.mono ac.size)⟩;have HW:Hid ((w.alloc (.cells #[.slice p.ab p.nb p.cb,.slice p.sa p.ns p.cs] 25)).alloc (.cells #[.slice .none 0 0,.slice .none 0 0,.slice .none 0 0,.slice .none 0 0,.slice .none 0 0,.slice .none 0 0,.slice .none 0 0] 31)=H):=hW;have c1:=hid cc;have b6:Hid (∀(E:Int) (g:World),Below H.heap.size H g->Bv p t=E->¬E=0->∃y:St,Ending.returned (.tuple #[ng.val,.int .i64 0,.int .i64 E]) = .returned (.tuple #[y.val,.int .i64 (Qs p t:Int),.int .i64 (Bv p t)])/\y.At (set7 g (w.heap.size+1) (.slice .none 0 0) (.slice .none 0 0) (.slice .none 0 0) (.slice .none 0 0) (.slice .none 0 0) (.slice .none 0 0) (.slice .none 0 0))/\Ve p t y/\Below w.heap.size w (set7 g (w.heap.size+1) (.slice .none 0 0) (.slice .none 0 0) (.slice .none 0 0) (.slice .none 0 0) (.slice .none 0 0) (.slice .none 0 0) (.slice .none 0 0))):=λE g h J U=>by
  refine⟨ng,?_,y9 _,⟨λh=>absurd (J.symm.trans h) U,λ_=>⟨rfl,rfl,rfl,rfl,rfl,rfl,rfl⟩⟩,na (HC.out g h).2.2.2 (by omega) _ _ _ _ _ _ _⟩;have hN:Qs p t=0:=if_neg (by rw[J];exact U);rw[hN,J]
  rfl
 have b5:=hid (hp.below ac);clear hW ac X0 Z0 hp cc;unfold Pl.val;go_enter func39,ntmps39;go_wp2_with fail;rw[HW.out];refine(Zf p H b5.out).mono ?_;rintro e w1 ⟨s,rfl,b9,b8,hB⟩;obtain⟨W2,ca,bi,KS⟩:=ab7 w1 s;have av:=hid ca;have aq:=hid (hB.trans (bi.mono hB.size));have bu:Hid (Fr H.heap.size W2 s):=b9.below bi;have c0:=hid b8;have b7:=hid KS;have b2:=qa2 hB.size KS.lt;clear ca bi KS b9 b8 HW b5;obtain⟨-,f,-,-⟩:=HC.out w1 hB;obtain⟨zl,A,r,o,zc1,B,zc2,D,zc3,m,zc4,l,zc5,F,G⟩:=z7 f;clear hB f;simp only[St.val];by_cases U:iz p=0;rotate_left
 .have g0:(iz p !=0)=true:=by simpa using U
  obtain⟨-,f,-,-⟩:=HC.out W2 aq.out;clear zl A r o zc1 B zc2 D zc3 m zc4 l zc5 F G;obtain⟨zl,A,r,o,zc1,B,zc2,D,zc3,m,zc4,l,zc5,F,G⟩:=z7 f;rw[<-av.out] at zl A r o zc1 B zc2 D zc3 m zc4 l zc5 F G;have ax:Hid (_):=b6.out (iz p) W2 aq.out (by unfold Bv;rw[if_neg U]) U;have P:Hid (Blk (set7 W2 (w.heap.size+1) (.slice .none 0 0) (.slice .none 0 0) (.slice .none 0 0) (.slice .none 0 0) (.slice .none 0 0) (.slice .none 0 0) (.slice .none 0 0)) (w.heap.size+1) 31 7 (λj=>(#[.slice .none 0 0,.slice .none 0 0,.slice .none 0 0,.slice .none 0 0,.slice .none 0 0,.slice .none 0 0,.slice .none 0 0]:Array Value).getD j default)):=n7b f
  generalize iz p=EE at *
  clear f;rw[<-av.out] at P ax;go_wp2_with fail;have KZ:=P.out;have T:=ax.out;unfold set7 at KZ T;obtain⟨Y,al,aa,ak,X,ag,ad⟩:=co KZ;refine Xzq (v := .tuple #[ng.val,.int .i64 0,.int .i64 EE]) (by simp[results,results39,go_sem,ng,St.val,Y,al,aa,ak,X,ag,ad]) rfl ?_;exact T
 have ay:=hid U;rw[U];clear U zl A r o zc1 B zc2 D zc3 m zc4 l zc5 F G;go_wp2_with fail;rw[av.out];refine(Lg t W2).mono ?_;rintro e w3 ⟨d,rfl,an,aw,Q,aj⟩;have L:=qa3 an aw Q;have az:=hid (aq.out.trans (aj.mono aq.out.size));have cd:Hid (Fr H.heap.size w3 s):=bu.out.below aj;have b1:=hid (b7.out.below aj);have dp:=hid aj.size;clear an aw aj bu b7 av;have dq:=Q.le;have ci:=Q.cap;have dn:d.n<=60:=by rw[L.out.1];exact Yd t
 clear Q;unfold maxLen at ci;obtain⟨-,f,-,-⟩:=HC.out w3 az.out;simp only[As.val];by_cases hr:Gt t=0;rotate_left
 .have gr:(Gt t !=0)=true:=by simpa using hr
  obtain⟨zl,A,r,o,zc1,B,zc2,D,zc3,m,zc4,l,zc5,F,G⟩:=z7 f;have ax:Hid (_):=b6.out (Gt t) w3 az.out (by unfold Bv;rw[if_pos ay.out]) hr;have P:Hid (Blk (set7 w3 (w.heap.size+1) (.slice .none 0 0) (.slice .none 0 0) (.slice .none 0 0) (.slice .none 0 0) (.slice .none 0 0) (.slice .none 0 0) (.slice .none 0 0)) (w.heap.size+1) 31 7 (λj=>(#[.slice .none 0 0,.slice .none 0 0,.slice .none 0 0,.slice .none 0 0,.slice .none 0 0,.slice .none 0 0,.slice .none 0 0]:Array Value).getD j default)):=n7b f
  generalize Gt t=EE at *
  clear f;go_wp2_with fail;have KZ:=P.out;have T:=ax.out;unfold set7 at KZ T;obtain⟨Y,al,aa,ak,X,ag,ad⟩:=co KZ;refine Xzq (v := .tuple #[ng.val,.int .i64 0,.int .i64 EE]) (by simp[results,results39,go_sem,ng,St.val,Y,al,aa,ak,X,ag,ad]) rfl ?_;exact T
 have c7:=hid hr;rw[hr];clear hr f;have ba:Hid (Bv p t=0/\Qs p t=(pn t).length):=by
  have e1:Bv p t=0:=by unfold Bv;rw[if_pos ay.out];exact c7.out
  exact⟨e1,if_pos e1⟩
 have bv:Hid (Ag p s):=c0.out.1 ay.out;have c3:Hid (∀j,au p (qr p s ((pn t).take j))):=λj=>Jw _ (ew (Jo ay.out bv.out));go_wp2_with fail
 generalize hSe:w1.heap.size=S at *
 clear hSe
 go_loopw [36] (λjv g=>∃(j:Nat) (y:St) (n:Nat),j<=d.n/\jv = .int .i64 j/\Hid (Blk g S 31 7 (λj=>y.cells.getD j default)/\Fr n g y/\H.heap.size<=n/\ae y (qr p s ((pn t).take j))/\Bt S w3 g)) (λjv _=>d.n-(intOf jv).toNat)
 case atStart=>exact⟨0,s,H.heap.size,Qxz _,rfl,b1.out,cd.out,Nat.le_refl _,ae.self _,Bt.refl _ _⟩
 obtain⟨j,y,n,hj,rfl,i⟩:=hrel;clear b1 cd;have a6:Below H.heap.size H wr:=az.out.trans (i.out.2.2.2.2.below b2.out.1 (by have:=az.out.size;omega));have c8:=hid a6;obtain⟨hP,f,bb,a9⟩:=HC.out wr a6;clear a6;have d0:wr.cell? ⟨w.heap.size,0,none⟩=some (.slice p.ab p.nb p.cb):=hP.k 0;have d1:wr.cell? ⟨w.heap.size,1,none⟩=some (.slice p.sa p.ns p.cs):=hP.k 1;have dl:=hP.lt;obtain⟨m1,p0,p1,p2,p3,p4,p5,p6⟩:=Boxed.of i.out.1;by_cases K:j<d.n;rotate_left
 .have q1:¬(j:Int)<(d.n:Int):=by omega
  have cx:j=d.n:=by omega
  subst cx;obtain⟨zl,A,r,o,zc1,B,zc2,D,zc3,m,zc4,l,zc5,F,G⟩:=z7 f;have c5:Hid (y.At (set7 wr (w.heap.size+1) (.slice y.on.a y.on.n y.on.c) (.slice y.os.a y.os.n y.os.c) (.slice y.hs.a y.hs.n y.hs.c) (.slice y.ms.a y.ms.n y.ms.c) (.slice y.si.a y.si.n y.si.c) (.slice y.so.a y.so.n y.so.c) (.slice y.sf.a y.sf.n y.sf.c))/\Below w.heap.size w (set7 wr (w.heap.size+1) (.slice y.on.a y.on.n y.on.c) (.slice y.os.a y.os.n y.os.c) (.slice y.hs.a y.hs.n y.hs.c) (.slice y.ms.a y.ms.n y.ms.c) (.slice y.si.a y.si.n y.si.c) (.slice y.so.a y.so.n y.so.c) (.slice y.sf.a y.sf.n y.sf.c))):=⟨(i.out.2.1.set7 (by have:=i.out.2.2.1;have:=c1.out;omega) (.slice y.on.a y.on.n y.on.c) (.slice y.os.a y.os.n y.os.c) (.slice y.hs.a y.hs.n y.hs.c) (.slice y.ms.a y.ms.n y.ms.c) (.slice y.si.a y.si.n y.si.c) (.slice y.so.a y.so.n y.so.c) (.slice y.sf.a y.sf.n y.sf.c)).at,s7w a9 (by omega) y⟩;have P:Hid (Blk (set7 wr (w.heap.size+1) (.slice y.on.a y.on.n y.on.c) (.slice y.os.a y.os.n y.os.c) (.slice y.hs.a y.hs.n y.hs.c) (.slice y.ms.a y.ms.n y.ms.c) (.slice y.si.a y.si.n y.si.c) (.slice y.so.a y.so.n y.so.c) (.slice y.sf.a y.sf.n y.sf.c)) (w.heap.size+1) 31 7 (λj=>(#[.slice y.on.a y.on.n y.on.c,.slice y.os.a y.os.n y.os.c,.slice y.hs.a y.hs.n y.hs.c,.slice y.ms.a y.ms.n y.ms.c,.slice y.si.a y.si.n y.si.c,.slice y.so.a y.so.n y.so.c,.slice y.sf.a y.sf.n y.sf.c]:Array Value).getD j default)):=s7b f y;have a8:Hid (ae y (qr p s (pn t))):=by
   have h:=i.out.2.2.2.1;rw[L.out.1,List.take_length] at h;exact h
  clear f hP bb a9 i;go_wp2_with fail;have KZ:=P.out;have T:=c5.out;unfold set7 at KZ T;obtain⟨Y,al,aa,ak,X,ag,ad⟩:=co KZ;refine Xzq (v := .tuple #[y.val,.int .i64 (d.n:Int),.int .i64 0]) (by simp[results,results39,go_sem,St.val,Y,al,aa,ak,X,ag,ad]) rfl ?_;exact⟨y,by rw[ba.out.1,ba.out.2,L.out.1],T.1,⟨λ_=>⟨s,bv.out,a8.out⟩,λh=>absurd ba.out.1 h⟩,T.2⟩
 have q0:(0:Int)<=(j:Int):=by omega
 have q1:(j:Int)<(d.n:Int):=by omega
 clear f;have ap:D6 W2.heap.size wr d:=L.out.2.2.bt i.out.2.2.2.2 b2.out.2;obtain⟨xb,xo,b0,x0,x1,x2,x3,x4,x5⟩:=ap.at.six K;have xl:=aag x0;have bx:Hid ((d.z j).ls.At wr):=(ap.lines j K).at;have da:Hid (yj (d.z j) ((pn t)[j]'(by rw[<-L.out.1];exact K))):=L.out.2.1 j (by rw[<-L.out.1];exact K);have cv:Hid (qr p s ((pn t).take (j+1))=vl p (qr p s ((pn t).take j)) ((pn t)[j]'(by rw[<-L.out.1];exact K))):=Yu (by rw[<-L.out.1];exact K)
 generalize hxe:d.z j=x at *
 generalize ((pn t)[j]'(by rw[<-L.out.1];exact K))=x' at *
 obtain⟨M,b3,q⟩:∃W,wr.alloc (.cells #[.int .i64 x.k,.int .i64 x.a,.int .i64 x.b,.int .i64 x.c,.int .i64 x.n,.slice x.ls.a x.ls.n x.ls.c] 34)=W/\Below wr.heap.size wr W:=⟨_,rfl,brf.alloc nlr _⟩;have bw:Hid (wr.alloc (.cells #[.int .i64 x.k,.int .i64 x.a,.int .i64 x.b,.int .i64 x.c,.int .i64 x.n,.slice x.ls.a x.ls.n x.ls.c] 34)=M):=b3;have ar:=qa3 (bb.below q) (i.out.2.1.at.below q) (bx.out.below q);have ai:Hid (Blk M S 31 7 (λj=>y.cells.getD j default)/\Fr n M y/\Bt S w3 M/\H.heap.size<=M.heap.size/\S<M.heap.size):=⟨i.out.1.below q,i.out.2.1.below q,i.out.2.2.2.2.trans (Bt.of q nlr),Qzx c8.out.size q.size,Xzx i.out.1.lt q.size⟩;have b4:=qa2 i.out.2.2.1 i.out.2.2.2.1;rw[b0];clear ap b0 hxe b3 q bb i hP a9 bx;go_wp2_with fail;rw[bw.out];refine(P6 p y x M ar.out.1 ar.out.2.1 ar.out.2.2).mono ?_;rintro e w5 ⟨u,rfl,cm,ce,a3,a7⟩;have HU:Hid ((doE p y x=0->ae u (qr p s ((pn t).take (j+1))))/\(¬doE p y x=0->ae y (qr p s ((pn t).take (j+1))))):=by
  have:=Yc (c3.out j) b4.out.2 da.out ce;rw[<-cv.out] at this;exact this
 obtain⟨W6,bz,a2,KU⟩:=ab7 w5 u;have af:=hid bz;have V:=a7.trans (a2.mono a7.size);have ah:Hid (Blk W6 S 31 7 (λj=>y.cells.getD j default)/\Fr n W6 y/\Bt S w3 W6):=⟨ai.out.1.below V,ai.out.2.1.below V,ai.out.2.2.1.trans (Bt.of V nlr)⟩;have bg:Hid (doE p y x=0->Fr M.heap.size W6 u):=λh=>(a3 h).fr.below a2;clear m1 p0 p1 p2 p3 p4 p5 p6 d0 d1 dl x0 x1 x2 x3 x4 x5 xl bw ar cm ce a3 a7 a2 V bz;simp only[St.val];by_cases J:doE p y x=0;rotate_left
 .have a8:Hid (ae y (qr p s ((pn t).take (j+1)))):=HU.out.2 J;have gE:(doE p y x==0)=false:=by simpa using J
  clear J KU bg HU
  generalize doE p y x=EE at *
  go_wp2_with fail;rw[af.out];clear af;go_roundw
  case rel=>exact⟨j+1,y,n,by omega,by go_num,ah.out.1,ah.out.2.1,b4.out.1,a8.out,ah.out.2.2⟩
  case measure=>simp[intOf];omega
 have cn:Hid (ae u (qr p s ((pn t).take (j+1)))):=HU.out.1 J;have cp:Hid (Fr M.heap.size W6 u):=bg.out J;rw[J];have f:=ah.out.1;obtain⟨zl,A,r,o,zc1,B,zc2,D,zc3,m,zc4,l,zc5,F,G⟩:=z7 f;have bh:Blk W6 w5.heap.size 31 7 (λj=>u.cells.getD j default):=KU;have c6:=bh.k 0;obtain⟨m1,p0,p1,p2,p3,p4,p5,p6⟩:=Boxed.of bh;have HN:=qa3 (s7b f u) (cp.out.set7 ai.out.2.2.2.2 (.slice u.on.a u.on.n u.on.c) (.slice u.os.a u.os.n u.os.c) (.slice u.hs.a u.hs.n u.hs.c) (.slice u.ms.a u.ms.n u.ms.c) (.slice u.si.a u.si.n u.si.c) (.slice u.so.a u.so.n u.so.c) (.slice u.sf.a u.sf.n u.sf.c)) (ah.out.2.2.set7 (.slice u.on.a u.on.n u.on.c) (.slice u.os.a u.os.n u.os.c) (.slice u.hs.a u.hs.n u.hs.c) (.slice u.ms.a u.ms.n u.ms.c) (.slice u.si.a u.si.n u.si.c) (.slice u.so.a u.so.n u.so.c) (.slice u.sf.a u.sf.n u.sf.c));clear J KU bh c6 f bg HU;rw[<-af.out] at zl A r o zc1 B zc2 D zc3 m zc4 l zc5 F G m1 p0 p1 p2 p3 p4 p5 p6;go_wp2_with fail;rw[af.out];clear af zl A r o zc1 B zc2 D zc3 m zc4 l zc5 F G m1 p0 p1 p2 p3 p4 p5 p6;have bc:=HN.out;unfold set7 at bc;have bd:Hid (_/\_/\_):=bc;clear HN bc;go_roundw
 case rel=>exact⟨j+1,u,M.heap.size,by omega,by go_num,bd.out.1,bd.out.2.1,ai.out.2.2.2.1,cn.out,bd.out.2.2⟩
 case measure=>simp[intOf];omega
theorem Zs(z:Int):nd z = .int .u8 ((z9 z).toNat:Int):=by rw[Tr];rfl
theorem T8{L A:Nat}{w:World}{o:Bool}{zs:List Int}(h:tn L A w o (zs.map nd))(v:0<zs.length):∃a c,Blk w A 80 2 (λj=>(#[.slice a zs.length c,.bool o]:Array Value).getD j default)/\∀b,Below w.heap.size w b->(convert 78 9 (.slice a zs.length c)).run prog b = .ok (.string ⟨(zs.map z9).toArray⟩) b:=by
 obtain⟨a,c,i,f⟩:=h;simp only[List.length_map] at i f;have l:(Value.slice a zs.length c) ≠ .slice none 0 0:=λe=>by simp only[Value.slice.injEq] at e;omega
 obtain⟨g,y,d,z,u,x,t⟩:=Blk.ofOwns f l;simp only[Value.slice.injEq,true_and] at d;obtain⟨d,s⟩:=d;subst d s;refine⟨_,c,i,λb q => ?_⟩;have r:=t.below q;have m:(zs.map z9).length=zs.length:=by simp
 have:=run_convert_bytes_back (P:=prog) b 78 9 5 ⟨g,0,none⟩ c (zs.map z9) underlying78 underlying5 underlying9 (λj n=>by
  have k:j<zs.length:=by rw[<-m];exact n
  have p:(⟨g,0,none⟩:Addr).add j=⟨g,j,none⟩:=by
   unfold Addr.add;by_cases h:j=0
   .subst h;rfl
   rw[if_neg h];simp
  rw[p,r.cell (j:=j) (by omega)];simp[List.getD,List.getElem?_eq_getElem k,Zs])
 rw[m] at this;exact this
theorem G7(x:Ax)(w:World)(hx:x.ls.At w)(hn:x.ls.n<=8796093022208):
  Calls prog 12 #[x.val] w λe w'=>e = .returned (.tuple #[.string ⟨(Ib x).toArray⟩,.int .i64 (vz x)])/\Below w.heap.size w w':=by
 obtain⟨g,hW,f,KA,J,p⟩:∃W,((w.alloc (.cells x.cells 34)).alloc (.cells #[.slice none 0 0,.bool false] 80)).alloc (.cells #[.int .i64 x.k,.int .i64 x.a,.int .i64 x.b,.int .i64 x.c,.int .i64 x.n,.int .i64 (x.ls.n:Int)] 3)=W/\Blk W w.heap.size 34 6 (λj=>x.cells.getD j default) /\
   tn (w.heap.size+1) (w.heap.size+1) W false []/\Blk W (w.heap.size+1+1) 3 6 (λj => .int .i64 ((z8 x).getD j 0))/\Below w.heap.size w W :=
  ⟨_,rfl,((Blk.mk' (cur:=x.cells) rfl rfl).alloc _).alloc _,⟨none,0,((Blk.mk' (cur:=#[.slice none 0 0,.bool false]) (by simp) rfl).alloc _).congr (λj y=>by match j,y with|0,_=>rfl|1,_=>rfl),World.ownsRow_nil _ _ _ _⟩,
   (Blk.mk' (cur:=#[.int .i64 x.k,.int .i64 x.a,.int .i64 x.b,.int .i64 x.c,.int .i64 x.n,.int .i64 (x.ls.n:Int)]) (by simp) rfl).congr (λj y=>by match j,y with|0,_|1,_|2,_|3,_|4,_|5,_=>rfl),((brf.alloc nlr _).alloc (by simp) _).alloc (by simp;omega) _⟩
 have HW:Hid (((w.alloc (.cells #[.int .i64 x.k,.int .i64 x.a,.int .i64 x.b,.int .i64 x.c,.int .i64 x.n,.slice x.ls.a x.ls.n x.ls.c] 34)).alloc (.cells #[.slice none 0 0,.bool false] 80)).alloc (.cells #[.int .i64 x.k,.int .i64 x.a,.int .i64 x.b,.int .i64 x.c,.int .i64 x.n,.int .i64 (x.ls.n:Int)] 3)=g):=hW;have B:Hid (tn (w.heap.size+1) (w.heap.size+1) g false []/\Blk g (w.heap.size+1+1) 3 6 (λj => .int .i64 ((z8 x).getD j 0))/\Below w.heap.size w g):=⟨KA,J,p⟩;have am:w.heap.size+1<=g.heap.size:=by rw[<-hW];simp
 have HC:Hid (∀q,Below (w.heap.size+1) g q->Blk q w.heap.size 34 6 (λj=>x.cells.getD j default)/\x.ls.At q/\Below w.heap.size w q):=λq h=>⟨f.same (h.block _ (by omega)),hx.below (p.trans (h.mono (by omega))),p.trans (h.mono (by omega))⟩;have HN:Hid (x.ls.n<=8796093022208):=hn;have a7:=hx.le;have Y:=hx.cap;unfold maxLen at Y;clear hW f KA J p hx am;unfold Ax.val Ax.cells;go_enter func12,ntmps12;go_wp2_with fail;rw[HW.out];refine(Tc (w.heap.size+1) (w.heap.size+1) false [] (w.heap.size+1+1) (z8 x) g nlr B.out.1 B.out.2.1 (by show 0+6<=_;omega)).mono ?_;rintro e K ⟨rfl,V,M⟩;have A:Hid (tn (w.heap.size+1) (w.heap.size+1) K ((z8 x++sj x.ls.z 0).any sq) ((z8 x++sj x.ls.z 0).map nd)/\Below (w.heap.size+1) g K):=⟨by simpa[sj] using V,M⟩;clear V M B HW;obtain⟨f,-,-⟩:=HC.out K A.out.2;have c5:K.cell? ⟨w.heap.size,5,none⟩=some (.slice x.ls.a x.ls.n x.ls.c):=f.k 5;have cl:=f.lt;clear f;go_wp2_with fail;clear c5 cl
 go_loopw [25] (λjv q=>∃j:Nat,j<=x.ls.n/\jv = .int .i64 j/\Hid (tn (w.heap.size+1) (w.heap.size+1) q ((z8 x++sj x.ls.z j).any sq) ((z8 x++sj x.ls.z j).map nd)/\Below (w.heap.size+1) g q)) (λjv _=>x.ls.n-(intOf jv).toNat)
 case atStart=>exact⟨0,Qxz _,rfl,A⟩
 obtain⟨j,y,rfl,i⟩:=hrel;clear A;obtain⟨f,F,-⟩:=HC.out wr i.out.2;have cl:=f.lt;by_cases ao:j<x.ls.n
 .have q0:(0:Int)<=(j:Int):=by omega
  have q1:(j:Int)<(x.ls.n:Int):=by omega
  obtain⟨lb,lo,G,ad,z0,z1,z2,z3⟩:=F.hds j ao;have ai:Hid (w.heap.size+1<=wr.heap.size):=by
   obtain⟨a,c,d,-⟩:=i.out.1;exact Nat.le_of_lt d.lt
  generalize hZ:x.ls.z j=Z at *
  have HZ:Hid (x.ls.z j=Z):=hZ;obtain⟨E,S,J,p⟩:∃W,(wr.alloc (.cells #[.int .i64 Z.o,.int .i64 Z.l,.int .i64 Z.b,.int .i64 Z.n] 68)).alloc (.cells #[.int .i64 Z.o,.int .i64 Z.l,.int .i64 Z.b,.int .i64 Z.n] 3)=W/\Blk W (wr.heap.size+1) 3 4 (λj => .int .i64 ((hdN Z).getD j 0))/\Below wr.heap.size wr W :=
   ⟨_,rfl,(Blk.mk' (cur:=#[.int .i64 Z.o,.int .i64 Z.l,.int .i64 Z.b,.int .i64 Z.n]) (by simp) rfl).congr (λj y=>by match j,y with|0,_|1,_|2,_|3,_=>rfl),(brf.alloc nlr _).alloc (by simp) _⟩
  have Q:Hid ((wr.alloc (.cells #[.int .i64 Z.o,.int .i64 Z.l,.int .i64 Z.b,.int .i64 Z.n] 68)).alloc (.cells #[.int .i64 Z.o,.int .i64 Z.l,.int .i64 Z.b,.int .i64 Z.n] 3)=E):=S;have u:Hid (Blk E (wr.heap.size+1) 3 4 (λj => .int .i64 ((hdN Z).getD j 0))/\tn (w.heap.size+1) (w.heap.size+1) E ((z8 x++sj x.ls.z j).any sq) ((z8 x++sj x.ls.z j).map nd)/\Below (w.heap.size+1) g E):=by
   refine⟨J,?_,i.out.2.trans (p.mono ai.out)⟩;obtain⟨a,c,d,hO⟩:=i.out.1;exact⟨a,c,d.below p,lv hO p⟩
  have a6:Hid (x.ls.a=some ⟨lb,lo,none⟩):=G;rw[G];clear G f F hZ S J p i;go_wp2_with fail;rw[Q.out];refine(Tc (w.heap.size+1) (w.heap.size+1) _ _ (wr.heap.size+1) (hdN Z) E nlr u.out.2.1 u.out.1 (by
   have:=HN.out;rw[List.length_map,List.length_append,Gd];show 6+4*j+4<=_;omega)).mono ?_
  rintro e w3 ⟨rfl,P,U⟩;have ae:Hid (tn (w.heap.size+1) (w.heap.size+1) w3 ((z8 x++sj x.ls.z (j+1)).any sq) ((z8 x++sj x.ls.z (j+1)).map nd)/\Below (w.heap.size+1) g w3):=by
   refine⟨?_,u.out.2.2.trans U⟩;rw[sj,HZ.out,<-List.append_assoc,List.any_append (ys:=hdN Z),List.map_append (l₂:=hdN Z)];exact P
  clear P U u Q z0 z1 z2 z3 ad;go_wp2_with fail;go_roundw
  case rel=>exact⟨j+1,by omega,by go_num,ae⟩
  case measure=>simp[intOf];omega
 have q1:¬(j:Int)<(x.ls.n:Int):=by omega
 have af:j=x.ls.n:=by omega
 subst af;have t:Hid (tn (w.heap.size+1) (w.heap.size+1) wr ((F3 x).any sq) ((F3 x).map nd)):=i.out.1;have D:Hid (Below w.heap.size w wr):=(HC.out wr i.out.2).2.2;have c5:wr.cell? ⟨w.heap.size,5,none⟩=some (.slice x.ls.a x.ls.n x.ls.c):=f.k 5;obtain⟨a,c,d,m⟩:=T8 t.out (by rw[Za];omega);have X:=m wr brf;have s:Hid (vz x=if (F3 x).any sq then 3 else if 3<x.ls.n then 2 else 0):=rfl;have ak:Hid (vz x=0->Ib x=(F3 x).map z9):=λh=>if_pos h;have T:Hid (vz x≠0->Ib x=[]):=λh=>if_neg h
 generalize (F3 x).length=AL at *
 generalize (F3 x).map z9=BB at *
 cases H:(F3 x).any sq;rotate_left
 .rw[H] at d s;have a1:wr.cell? ⟨w.heap.size+1,1,none⟩=some (.bool true):=d.k 1;have al:=d.lt;have r:Hid (vz x=3):=by show _=_;rw[s.out,if_pos rfl]
  clear f F i t d X m H;go_wp2_with fail;refine Xzq (v := .tuple #[.string ⟨#[]⟩,.int .i64 3]) (by simp[results,results12,go_sem]) rfl ?_;exact⟨by rw[T.out (by rw[r.out];decide),r.out],D.out⟩
 rw[H] at d s;have a0:wr.cell? ⟨w.heap.size+1,0,none⟩=some (.slice a AL c):=d.k 0;have a1:wr.cell? ⟨w.heap.size+1,1,none⟩=some (.bool false):=d.k 1;have al:=d.lt;by_cases L:3<x.ls.n
 .have q3:(3:Int)<(x.ls.n:Int):=by omega
  have r:Hid (vz x=2):=by show _=_;rw[s.out,if_neg (by decide),if_pos L]
  clear f F i t d X m H L;go_wp2_with fail;refine Xzq (v := .tuple #[.string ⟨#[]⟩,.int .i64 2]) (by simp[results,results12,go_sem]) rfl ?_;exact⟨by rw[T.out (by rw[r.out];decide),r.out],D.out⟩
 have q3:¬(3:Int)<(x.ls.n:Int):=by omega
 have r:Hid (vz x=0):=by show _=_;rw[s.out,if_neg (by decide),if_neg L]
 clear f F i t d m H L;go_wp2_with fail;refine Xzq (v := .tuple #[.string ⟨BB.toArray⟩,.int .i64 0]) (by simp[results,results12,go_sem]) rfl ?_;exact⟨by rw[ak.out r.out,r.out],D.out⟩
def lx1:Ax:=⟨1,1,0,0,5,⟨none,0,0,λ_=>⟨0,0,0,0⟩⟩⟩
def lx2(B:Nat):Ax:=⟨2,0,0,0,0,⟨some ⟨B,0,none⟩,1,1,λ_=>⟨1,9,0,0⟩⟩⟩
def lx3:Ax:=⟨0,0,0,0,256,⟨none,0,0,λ_=>⟨0,0,0,0⟩⟩⟩
def lx0:Ax:=⟨0,0,0,0,0,⟨none,0,0,λ_=>⟨0,0,0,0⟩⟩⟩
def lt1:List UInt8:=[1,1,0,0,5,0]
def lt2:List UInt8:=[2,0,0,0,0,1,1,9,0,0]
def Fu:List UInt8:=[1,1,0,0,5,0,2,0,0,0,0,1,1,9,0,0]
def lt3:List UInt8:=[1,1,0,0,5,0,2,0,0,0,0,1,1,9,0,0,1]
theorem lw1:Ib lx1=lt1/\vz lx1=0:=⟨by kernel_rfl,by kernel_rfl⟩
theorem lw2(B:Nat):Ib (lx2 B)=lt2/\vz (lx2 B)=0:=⟨by kernel_rfl,by kernel_rfl⟩
theorem lw3:vz lx3=3:=by kernel_rfl
theorem lr3:Hi lt3=16/\Gt lt3=0/\(pn lt3).length=2:=⟨by kernel_rfl,by kernel_rfl,by kernel_rfl⟩
theorem Yf(b a:Nat):Bv (py b a) Fu=0/\Qs (py b a) Fu=2:=⟨by kernel_rfl,by kernel_rfl⟩
def Z8:St:=⟨⟨none,3,3,λ_=>⟨none,2,2,λ_=>0⟩⟩,⟨none,0,0,λ_=>⟨0,⟨none,0,0,λ_=>⟨0,0,0,0⟩⟩⟩⟩,⟨none,0,0,λ_=>⟨0,0,0,0⟩⟩,⟨none,0,0,λ_=>⟨0,0,0,0⟩⟩,⟨none,2,2,λ_=>0⟩,⟨none,2,2,λ_=>0⟩,⟨none,2,2,λ_=>0⟩⟩
theorem Qw(b a:Nat):Ag (py b a) Z8:=⟨rfl,λ_ _=>⟨rfl,λ_ _=>rfl⟩,rfl,rfl,rfl,⟨rfl,λ_ _=>rfl⟩,⟨rfl,λ_ _=>rfl⟩,⟨rfl,λ_ _=>rfl⟩⟩
def acf(g1 g2:Nat):St:=qr (py g1 g2) Z8 (pn Fu)
theorem Dq.self:∀l:List Ax,Dq l l
 | []=>trivial
 | x :: l=>⟨yj.self x,Dq.self l⟩
theorem ach{b a:Nat}{y:St}(h:Ve (py b a) Fu y):1<y.on.n/\0<(y.on.r 1).n/\(y.on.r 1).z 0=5/\y.os.n=1:=by
 obtain⟨s0,d,hs⟩:=h.1 (Yf b a).1;have e:ae y (acf b a):=hs.trans (Lp (ew (Jo (p:=(py b a)) (by kernel_rfl) (Qw b a))) (Sp d (Qw b a)) (Dq.self _));have a1:1<y.on.n:=by rw[e.on.1];exact of_decide_eq_true (by kernel_rfl)
 have b1:0<(y.on.r 1).n:=by rw[(e.on.2 1 a1).1];exact of_decide_eq_true (by kernel_rfl)
 have c1:(y.on.r 1).z 0=5:=by rw[(e.on.2 1 a1).2 0 b1];kernel_rfl
 have c:y.os.n=1:=by rw[e.os.1];kernel_rfl
 exact⟨a1,b1,c1,c⟩
theorem aa4(w:World):(lx2 w.heap.size).ls.At (w.alloc (.cells #[.int .i64 1,.int .i64 9,.int .i64 0,.int .i64 0] 68)):=by
 have K:=Blk.new w #[.int .i64 1,.int .i64 9,.int .i64 0,.int .i64 0] 68;refine⟨Nat.le_refl _,by show 1<=maxLen;unfold maxLen;omega,λi hi => ?_,λh=>by cases h⟩;have a:i=0:=by have b:i<1:=hi;omega
 subst a;exact⟨w.heap.size,0,rfl,K.lt,K.k 0,K.k 1,K.k 2,K.k 3⟩
theorem P0(w:World):Calls prog 10 #[] w λe w'=>e = .returned (.bool true)/\Below w.heap.size w w':=by
 have s1:(⟨lt1.toArray⟩:ByteArray).size=6:=rfl;have s2:(⟨lt2.toArray⟩:ByteArray).size=10:=rfl;have bg:(⟨Fu.toArray⟩:ByteArray).size=16:=rfl;have bf:(⟨lt1.toArray⟩:ByteArray)++⟨lt2.toArray⟩=⟨Fu.toArray⟩:=by rw[ByteArray.mk_append_mk];rfl
 have a3:(⟨Fu.toArray⟩:ByteArray)++⟨#[1]⟩=⟨lt3.toArray⟩:=by show(⟨Fu.toArray⟩:ByteArray)++⟨([1]:List UInt8).toArray⟩=_;rw[ByteArray.mk_append_mk];rfl
 have e1:((⟨lt1.toArray⟩:ByteArray).toList==(⟨#[1,1,0,0,5,0]⟩:ByteArray).toList)=true:=by kernel_rfl
 go_enter func10,ntmps10;go_wp2_with fail;refine(G7 lx1 w (Hs.none w) (Qxz _)).mono ?_;rintro e p ⟨rfl,b⟩;have f:=hid b;clear b;rw[lw1.1,lw1.2];go_wp2_with fail;refine(G7 (lx2 p.heap.size) (p.alloc (.cells #[.int .i64 1,.int .i64 9,.int .i64 0,.int .i64 0] 68)) (aa4 p) (by show 1<=_;omega)).mono ?_;rintro e w2 ⟨rfl,b⟩;have x:Hid (Below w.heap.size w w2):=f.out.trans ((brf.alloc f.out.size _).trans (b.mono (by simp;have:=f.out.size;omega)));clear b f;rw[(lw2 p.heap.size).1,(lw2 p.heap.size).2];go_wp2_with fail;refine(Lg lt3 w2).mono ?_;rintro e w3 ⟨ae,rfl,an,-,-,b⟩;have B:=hid (x.out.trans (b.mono x.out.size));have be:(ae.n:Int)=2:=by rw[an,lr3.2.2];rfl
 clear b x an;rw[lr3.1,lr3.2.1];simp only[As.val];go_wp2_with fail;refine(P7 w3).mono ?_;rintro e w4 ⟨M,S,rfl,-,-,A,E,b⟩;have i:=hid (B.out.trans (b.mono B.out.size));have T:Hid ((py M S).At w4):=Ws A E;clear b B A E;go_wp2_with fail;refine(Sb (py M S) Fu w4 T.out).mono ?_;rintro e Q ⟨y,rfl,ac,aa,b⟩;have u:=hid (i.out.trans (b.mono i.out.size));have HY:=hid ac;have ad:Hid (1<y.on.n/\0<(y.on.r 1).n/\(y.on.r 1).z 0=5/\y.os.n=1):=ach aa;rw[(Yf M S).1,(Yf M S).2];clear b i T ac aa;simp only[St.val];go_wp2_with fail;obtain⟨W6,U,o,KY⟩:∃W,Q.alloc (.cells #[.slice y.on.a y.on.n y.on.c,.slice y.os.a y.os.n y.os.c,.slice y.hs.a y.hs.n y.hs.c,.slice y.ms.a y.ms.n y.ms.c,.slice y.si.a y.si.n y.si.c,.slice y.so.a y.so.n y.so.c,.slice y.sf.a y.sf.n y.sf.c] 31)=W/\Below Q.heap.size Q W/\Blk W Q.heap.size 31 7 (λj=>y.cells.getD j default):=⟨_,rfl,brf.alloc nlr _,Blk.mk' rfl rfl⟩;rw[U];have m:=hid (u.out.trans (o.mono u.out.size));have F:=qa2 (HY.out.below o) KY;clear U o KY u HY;refine(G7 lx3 W6 (Hs.none W6) (Qxz _)).mono ?_;rintro e w7 ⟨rfl,b⟩;have D:=hid (m.out.trans (b.mono m.out.size));have q:=qa2 (F.out.1.below b) (F.out.2.below b);clear b m F;rw[lw3];go_wp2_with fail;refine(P7 w7).mono ?_;rintro e w8 ⟨K,P,rfl,-,-,A,E,b⟩;have t:=hid (D.out.trans (b.mono D.out.size));have G:=qa2 (q.out.1.below b) (q.out.2.below b);have Y:Hid ((py K P).At w8):=Ws A E;clear b D q A E;go_wp2_with fail;refine(Yo w8).mono ?_;rintro e J ⟨g,rfl,-,hb,b⟩;have l:=hid (t.out.trans (b.mono t.out.size));have k:=qa2 (G.out.1.below b) (G.out.2.below b);have H:Hid ((py K P).At J/\(Fe g 2 0).At J):=⟨Y.out.below b,aa5 hb⟩;clear b hb t G Y;go_wp2_with fail;refine(P6 (py K P) (Fe g 2 0) lx0 J H.out.1 H.out.2 (Hs.none J)).mono ?_;rintro e L ⟨v,rfl,-,-,-,b⟩;have s:=hid (l.out.trans (b.mono l.out.size));have h:=qa2 (k.out.1.below b) (k.out.2.below b);clear b l k H;rw[show doE (py K P) (Fe g 2 0) lx0=8 from rfl];simp only[St.val];obtain⟨Wb,X,d⟩:∃W,L.alloc (.cells #[.slice v.on.a v.on.n v.on.c,.slice v.os.a v.os.n v.os.c,.slice v.hs.a v.hs.n v.hs.c,.slice v.ms.a v.ms.n v.ms.c,.slice v.si.a v.si.n v.si.c,.slice v.so.a v.so.n v.so.c,.slice v.sf.a v.sf.n v.sf.c] 31)=W/\Below L.heap.size L W:=⟨_,rfl,brf.alloc nlr _⟩;have ab:Hid (L.alloc (.cells #[.slice v.on.a v.on.n v.on.c,.slice v.os.a v.os.n v.os.c,.slice v.hs.a v.hs.n v.hs.c,.slice v.ms.a v.ms.n v.ms.c,.slice v.si.a v.si.n v.si.c,.slice v.so.a v.so.n v.so.c,.slice v.sf.a v.sf.n v.sf.c] 31)=Wb):=X;have av:=hid (s.out.trans (d.mono s.out.size));obtain⟨m1,p0,p1,p2,p3,p4,p5,p6⟩:=Boxed.of (h.out.2.below d);obtain⟨r1,r2,r3,r4⟩:=ad.out;obtain⟨ob,oo,oa,ol,oc,V⟩:=(h.out.1.below d).on.rows 1 r1;obtain⟨ib,io,ia,il,ic⟩:=V.ints 0 r2;rw[r3,Nat.add_zero] at ic;rw[oa] at p0;rw[ia] at oc;have q1:(1:Int)<(y.on.n:Int):=by omega
 have q2:(0:Int)<((y.on.r 1).n:Int):=by omega
 have q4:(y.os.n:Int)=1:=by omega
 clear r1 r2 r3 r4 ad h s d X oa ia V;rw[<-ab.out] at m1 p0 p1 p2 p3 p4 p5 p6 ol oc il ic;go_wp2_with fail;rw[ab.out];go_ret;exact⟨by simp,av.out⟩
theorem Hs.At.congr{w:World}{s:Hs}{z':Nat->Hd}{n:Nat}(h:s.At w)(d:s.n=n)(b:∀j,j<s.n->s.z j=z' j):Hs.At w ⟨s.a,n,s.c,z'⟩:=by
 subst d;refine⟨h.le,h.cap,λi hi => ?_,h.nilc⟩;have:=h.hds i hi;rw[b i hi] at this;exact this
theorem Xm(s:Hs)(h:Hd)(w:World)(hs:s.At w)(i:aw s.n (da s.z)=false)(p:gy h=true):
  Calls prog 88 #[s.val,.int .i64 h.o,.int .i64 h.l,.int .i64 h.b,.int .i64 (keptV s.n s.z h.o h.l h.b+h.n)] w λe F=>∃q:Hs,e = .returned q.val/\cz w.heap.size 103 F q/\q.n=pj s.n s.z h/\q.z=xx s.n s.z h/\Below w.heap.size w F:=by
 obtain⟨G,y,B⟩:=M9 i p;have m:=cy p;by_cases g:keptV s.n s.z h.o h.l h.b=0
 .have no:=Tf i g;have r:∀j,jd s.n s.z h<=j->j<s.n->ba h<ba (s.z j):=λj k d=>by
   have a:=B j k d;have b:¬ba (s.z j)=ba h:=λe=>by
    have:=Im (bw i j d) p e;rw[no j d] at this;cases this
   omega
  rw[g,Int.zero_add];have t:pj s.n s.z h=s.n+1:=if_pos g;have x:xx s.n s.z h=lx s.z (jd s.n s.z h) h:=if_pos g;rw[t,x];exact Xp s h (jd s.n s.z h) w hs i (Lb p) G (λE=>r _ nlr E) (by omega) y (λj k d=>r j (by omega) d)
 obtain⟨v,D,H,u,A⟩:=rm i g;have f:ba (s.z (jg s.n s.z h.o h.l h.b))=ba h:=Dt (n:=h.n) D;have J:jg s.n s.z h.o h.l h.b=jd s.n s.z h:=by
  rcases Nat.lt_trichotomy (jg s.n s.z h.o h.l h.b) (jd s.n s.z h) with c|c|c
  .have:=y _ c;omega
  .exact c
  have:=u _ c;have:=B _ nlr (by omega);omega
 rw[J] at v D H u A f;have K:=cy (bw i _ v);have t:pj s.n s.z h=s.n:=if_neg g;have x:xx s.n s.z h=qt s.z (jd s.n s.z h) ⟨h.o,h.l,h.b,keptV s.n s.z h.o h.l h.b+h.n⟩:=if_neg g;rw[t,x];exact N8 s ⟨h.o,h.l,h.b,keptV s.n s.z h.o h.l h.b+h.n⟩ (jd s.n s.z h) w hs i ⟨m.1,m.2.1,m.2.2.1⟩ v f (by show ¬keptV s.n s.z h.o h.l h.b+h.n=0;omega) (λj k=>by have:=u j k;rw[f] at this;exact this) (λj k d=>by have:=A j k d;rw[f] at this;exact this)
theorem Q4(s:Hs)(o l b:Int)(w:World)(hs:s.At w):
  Calls prog 87 #[s.val,.int .i64 o,.int .i64 l,.int .i64 b] w λe a=>e = .returned (.int .i64 (keptV s.n s.z o l b))/\Below w.heap.size w a :=
 (L7 s o l b w hs).mono λe a h=>⟨h.1,by rw[h.2];exact Below.refl _ _⟩
def oy(p:Pl)(but:Int)(k:Nat):List Int:=((fw p).take k).filter (λb => !(b==but))
theorem V7{p:Pl}{but:Int}{k:Nat}(a:k<(fw p).length):oy p but (k+1)=oy p but k++if (fw p).getD k 0=but then [] else [(fw p).getD k 0]:=by
 unfold oy;rw[List.take_add_one,List.getElem?_eq_getElem a,List.filter_append];have e:(fw p).getD k 0=(fw p)[k]:=by simp[List.getD,List.getElem?_eq_getElem a]
 rw[e]
 congr 1
 by_cases h:(fw p)[k]=but<;>simp[h]
theorem Y6(p:Pl)(but:Int):oy p but (fw p).length=fc p but:=by unfold oy fc;rw[List.take_length]
theorem U1(p:Pl)(but:Int)(k:Nat):(oy p but k).Pairwise (λx y=>¬x=y):=(((P2 p).imp λh=>h.1).sublist (List.take_sublist _ _)).filter _
theorem P3{p:Pl}{but x:Int}{k:Nat}(h:x∈oy p but k):x∈(fw p).take k:=(List.mem_filter.1 h).1
theorem I7{p:Pl}{but x:Int}{k:Nat}(h:x∈oy p but k):0<=x/\x<p.nb:=Fb (List.mem_of_mem_take (P3 h))
theorem X8{p:Pl}{but:Int}{k:Nat}(b:k<(fw p).length):(fw p).getD k 0 ∉ oy p but k:=λh=>by
 have c:=P3 h;have e:(fw p).getD k 0=(fw p)[k]:=by simp[List.getD,List.getElem?_eq_getElem b]
 rw[e] at c;obtain⟨j,d,a⟩:=List.mem_iff_getElem.1 c;rw[List.length_take] at d;rw[List.getElem_take] at a;have f:=List.pairwise_iff_getElem.1 (P2 p) j k (by omega) b (by omega);exact f.1 a
def Pt(s:St)(o l:Nat)(n:Int)(t:Tk)(F:List Int)(A BX BL g:Nat)(wk:World):Prop :=
 ∃x:St,ep s o l n t x/\ai A wk x/\Blk wk BX 31 7 (λj=>x.cells.getD j default)/\Blk wk g 3 F.length (λj => .int .i64 (F.getD j 0))/\(x.os.z o).ls.a=some ⟨BL,0,none⟩/\Blk wk (BX+1) 31 7 (λ_ => .slice .none 0 0)
def sv(w wk:World):Prop:=∀(q:Nat) (t:TypeId) (m:Nat) (f:Nat->Value),t≠68->Blk w q t m f->Blk wk q t m f
theorem sv.below{w a b:World}(h:sv w a)(c:Below a.heap.size a b):sv w b:=λq t m f d e=>(h q t m f d e).below c
theorem sv.refl(w:World):sv w w:=λ_ _ _ _ _ h=>h
theorem sv.setNew{w b:World}(h:sv w b){B:Nat}(e:w.heap.size<=B)(j:Nat)(u:Value):sv w (b.setCell ⟨B,j,none⟩ u):=λq t m f d c=>(h q t m f d c).other (a:=⟨B,j,none⟩) (by have:=c.lt;show q≠B;omega) u
theorem sv.setLine{w b:World}(h:sv w b){B n:Nat}{z:Nat->Value}(e:Blk b B 68 n z)(j:Nat)(u:Value):sv w (b.setCell ⟨B,j,none⟩ u):=λq t m f c d=>(h q t m f c d).other (a:=⟨B,j,none⟩) (Blk.ne2 (h q t m f c d) e c) u
def Jf(A:Nat)(x:Hs)(h:Hd)(v:Value)(g:List Nat)(wk:World):Prop:=∃y:Hs,g=[]/\v = .slice y.a y.n y.c/\cz A 103 wk y/\y.n=pj x.n x.z h/\y.z=xx x.n x.z h
theorem Jf.below{A:Nat}{x:Hs}{h:Hd}{v:Value}{g:List Nat}{w a:World}(k:Jf A x h v g w)(c:Below w.heap.size w a):Jf A x h v g a:=by
 obtain⟨y,e,b,f,d⟩:=k;exact⟨y,e,b,f.below c,d⟩
theorem J9(p:Pl)(s:St)(o l A:Nat)(n but:Int)(w:World)(hp:p.At w)(hO:ai A w s)(hA:A<=w.heap.size)(hI:iy p s o l n):
  Calls prog 86 #[p.val,s.val,.int .i64 (o:Int),.int .i64 (l:Int),.int .i64 n,.int .i64 but] w λe L=>∃x:St,e = .returned (.tuple #[x.val,.int .i64 (Tk.go (avT s o l) n (fc p but)).left])/\ep s o l n (Tk.go (avT s o l) n (fc p but)) x/\ai A L x/\Below A w L/\sv w L:=by
 obtain⟨W0,hW,a0,X0,Z0⟩:∃W,(((w.alloc (.cells #[.slice p.ab p.nb p.cb,.slice p.sa p.ns p.cs] 25)).alloc (.cells s.cells 31)).alloc (.cells #[.slice .none 0 0,.slice .none 0 0,.slice .none 0 0,.slice .none 0 0,.slice .none 0 0,.slice .none 0 0,.slice .none 0 0] 31))=W/\Below w.heap.size w W/\Blk W (w.heap.size+1) 31 7 (λj=>s.cells.getD j default)/\Blk W (w.heap.size+1+1) 31 7 (λ_ => .slice .none 0 0):=
  ⟨_,rfl,(j8 _ _ _).alloc (by simp;omega) _,(Blk.mk' (by simp) rfl).alloc _,(Blk.mk' (cur:=#[.slice .none 0 0,.slice .none 0 0,.slice .none 0 0,.slice .none 0 0,.slice .none 0 0,.slice .none 0 0,.slice .none 0 0]) (by simp) rfl).congr (λj hj=>by match j,hj with|0,_=>rfl|1,_=>rfl|2,_=>rfl|3,_=>rfl|4,_=>rfl|5,_=>rfl|6,_=>rfl)⟩
 have HW:Hid (((w.alloc (.cells #[.slice p.ab p.nb p.cb,.slice p.sa p.ns p.cs] 25)).alloc (.cells #[.slice s.on.a s.on.n s.on.c,.slice s.os.a s.os.n s.os.c,.slice s.hs.a s.hs.n s.hs.c,.slice s.ms.a s.ms.n s.ms.c,.slice s.si.a s.si.n s.si.c,.slice s.so.a s.so.n s.so.c,.slice s.sf.a s.sf.n s.sf.c] 31)).alloc (.cells #[.slice .none 0 0,.slice .none 0 0,.slice .none 0 0,.slice .none 0 0,.slice .none 0 0,.slice .none 0 0,.slice .none 0 0] 31)=W0):=hW;have X:Hid (iy p s o l n):=hI;have HP:Hid (p.At W0):=hp.below a0;have leb:=hp.leb;have capb:=hp.capb;have nb1:=hI.fm.sh.pl.nb1;have nb6:=hI.fm.sh.pl.nb6;have ho:=hI.on;have hl:=hI.ln;unfold maxLen at capb;have da:Hid (ai A W0 s/\Blk W0 (w.heap.size+1) 31 7 (λj=>s.cells.getD j default)/\Blk W0 (w.heap.size+1+1) 31 7 (λ_ => .slice .none 0 0)/\Below A w W0):=⟨ai.below hO a0,X0,Z0,a0.mono hA⟩;clear hW X0 Z0 hp hO hI;unfold Pl.val St.val;go_enter func86,ntmps86;go_wp2_with fail;rw[HW.out];refine(Rs p W0 HP.out nb6).mono ?_;rintro e w1 ⟨v,rfl,bd,an⟩;have fu:Hid ((fw p).length=p.nb):=S8 p;have hv:v ≠ .slice none 0 0:=by
  rintro rfl;rcases bd.2 with⟨_,h0⟩|⟨g2,g0,g3,h,_⟩
  .have:=fu.out;omega
  cases h
 obtain⟨g,c,rfl,hn,gh,hg,hk⟩:=Blk.ofOwns bd hv;have dq:Blk w1 g 3 (fw p).length (λj => .int .i64 ((fw p).getD j 0)):=by
  have h:=hk.less (m:=(fw p).length) (by omega);refine h.congr λj hj => ?_;simp[List.getD,List.getElem?_eq_getElem hj]
 obtain⟨di,X0,Z0,dv⟩:=da.out;have a5:=ai.below di an;have X1:=X0.below an;have Z1:=Z0.below an;have dm:=dv.trans (an.mono (Qzx hA a0.size));obtain⟨gO,F,f1,f2,f3,f4,f5,f6,f7,f8,f9,cm,bn,cg,b8,bi⟩:=a5.lineCell ho hl;have ce:Hid (Pt s o l n (Tk.go (avT s o l) n (oy p but 0)) (fw p) A (w.heap.size+1) F g w1):=⟨s,ep.start X.out.fm.hold ⟨⟨rfl,λ_ _=>⟨rfl,λ_ _=>rfl⟩⟩,⟨rfl,λ_ _=>⟨rfl,rfl,λ_ _=>rfl⟩⟩,⟨rfl,λ_ _=>rfl⟩,⟨rfl,λ_ _=>rfl⟩,⟨rfl,λ_ _=>rfl⟩,⟨rfl,λ_ _=>rfl⟩,⟨rfl,λ_ _=>rfl⟩⟩,a5,X1,dq,f5,Z1⟩;have ad:Hid (sv w w1):=((sv.refl w).below a0).below an;have d5:Hid (Below A w w1/\A<=F/\w.heap.size+1<W0.heap.size/\W0.heap.size<=g):=⟨dm,f6,X0.lt,hg⟩;have s1:w1.cell? ⟨w.heap.size+1,1,none⟩=some (.slice s.os.a s.os.n s.os.c):=X1.k 1;have s2:=X1.lt;have v1:=a5.os.le;have v2:=a5.os.cap;rw[f1] at s1;unfold maxLen at v2 f9 gh;have qo:(0:Int)<=(o:Int):=by omega
 have ql:(0:Int)<=(l:Int):=by omega
 have dh:=X.out.good;obtain⟨gd,cc⟩:=Qzz dh.1;have dn:Hid (((s.os.z o).ls.z l).o=(gd:Int)):=cc;have cl:gd<p.ns:=by omega
 rw[cc] at bn;clear bd hv hk dq di X0 Z0 dv a5 X1 Z1 dm f1 f2 f5 f6 cm cg b8 bi da HW HP an dh cc hg;go_wp2_with fail;clear s1 s2 f3 f4 f7 f8 f9 bn v1 v2
 go_loopw [4,16] (λnv kv H=>∃k:Nat,k<=(fw p).length/\kv = .int .i64 k/\nv = .int .i64 (Tk.go (avT s o l) n (oy p but k)).left/\Hid (Pt s o l n (Tk.go (avT s o l) n (oy p but k)) (fw p) A (w.heap.size+1) F g H)/\Hid (Below A w H)/\Hid (sv w H)) (λ_ kv _=>(fw p).length-(intOf kv).toNat)
 case atStart=>exact⟨0,Qxz _,rfl,rfl,ce,d5.out.1,ad⟩
 clear ce ad;obtain⟨k,hk,rfl,rfl,HV,a3,ad⟩:=hrel;have al:Hid (Ac (avT s o l) n (oy p but k) (Tk.go (avT s o l) n (oy p but k))):=X.out.tk (U1 p but k) (λx hx=>I7 hx);have Y:Hid (k<(fw p).length->Tk.go (avT s o l) n (oy p but (k+1))=if (fw p).getD k 0=but then Tk.go (avT s o l) n (oy p but k) else(Tk.go (avT s o l) n (oy p but k)).step (avT s o l) ((fw p).getD k 0)):=λh=>by
  rw[V7 h];by_cases hb:(fw p).getD k 0=but
  .rw[if_pos hb,if_pos hb,List.append_nil]
  rw[if_neg hb,if_neg hb,Tk.go_more]
 have aw:Hid (k=(fw p).length->Tk.go (avT s o l) n (oy p but k)=Tk.go (avT s o l) n (fc p but)):=λh=>by rw[h,Y6]
 obtain⟨x,hx⟩:=HV.out;have E:Hid (ep s o l n (Tk.go (avT s o l) n (oy p but k)) x/\ai A wr x/\Blk wr (w.heap.size+1) 31 7 (λj=>x.cells.getD j default)/\Blk wr g 3 (fw p).length (λj => .int .i64 ((fw p).getD j 0))/\(x.os.z o).ls.a=some ⟨F,0,none⟩/\Blk wr (w.heap.size+1+1) 31 7 (λ_ => .slice .none 0 0)):=hx;obtain⟨T,dd⟩:∃T,Tk.go (avT s o l) n (oy p but k)=T:=⟨_,rfl⟩;rw[dd] at al Y aw E ⊢;clear hx HV dd;have fv:=al.out.left0;have fl:=al.out.leftn;have h6:=X.out.bk;by_cases a7:k<(fw p).length;rotate_left
 .have fr:k=(fw p).length:=by omega
  have HT:Hid (T=Tk.go (avT s o l) n (fc p but)):=aw.out fr;clear aw Y;have KX:=E.out.2.2.1;obtain⟨m1,p0,p1,p2,p3,p4,p5,p6⟩:=Boxed.of KX;have hz:=E.out.2.2.2.2.2;obtain⟨zl,hr,hq,hi,zc1,ht,zc2,hu,zc3,hf,zc4,he,zc5,h7,h8⟩:=z7 hz;clear KX hz;go_wp2_with fail;have KZ:=s7b E.out.2.2.2.2.2 x;have c8:=s7w (b:=w.heap.size+1+1) a3.out (by omega) x;have dl:=s7o E.out.2.1 E.out.2.2.2.2.2 x;unfold set7 at KZ c8 dl;obtain⟨e6,gl,e7,gj,et,fs,fe⟩:=co KZ;refine Xzq (v := .tuple #[x.val,.int .i64 T.left]) (by simp[results,results86,go_sem,St.val,e6,gl,e7,gj,et,fs,fe]) rfl ?_;rw[<-HT.out];refine⟨x,rfl,E.out.1,dl,c8,?_⟩;exact((((((ad.out.setNew (by omega) 0 _).setNew (by omega) 1 _).setNew (by omega) 2 _).setNew (by omega) 3 _).setNew (by omega) 4 _).setNew (by omega) 5 _).setNew (by omega) 6 _
 have bg:Hid _:=Y.out a7;obtain⟨a8,a9⟩:=Fb (List.mem_iff_getElem.2 ⟨k,a7,rfl⟩:(fw p)[k]∈fw p);have d1:(fw p).getD k 0=(fw p)[k]:=by simp[List.getD,List.getElem?_eq_getElem a7]
 have z0:=E.out.2.2.2.1.cell (j:=k) a7;have z1:=E.out.2.2.2.1.lt;rw[<-d1] at a8 a9;obtain⟨r,am⟩:=Qzz a8;have bo:Hid ((fw p).getD k 0=(r:Int)):=am;rw[am] at z0 a9;have ax:r<p.nb:=by omega
 have be:=X8 (but:=but) a7;rw[am] at be;have fq:Hid (cw p x):=X.out.formed (λx hx=>I7 hx) al.out E.out.1;have gf:Hid (ar x r gd=avT s o l r):=by
  have h:=X.out.availAt (λx hx=>I7 hx) al.out E.out.1 ax be;rw[dn.out] at h;exact h
 have hy : -20000<=avT s o l r/\avT s o l r<=200:=by
  have f:=X.out.fm;have h1:=f.sh.num r (by rw[f.sh.n];exact ax) gd cl;have h2:=mt (s:=s) (b:=r) (g:=gd) f.holdN;have h3:=jr (s:=s) (b:=r) (g:=gd) f.moveN;have h4:=f.hs72;have h5:=f.ms8;unfold avT;rw[dn.out];show -20000<=ar s r gd/\ar s r gd<=200;unfold ar;omega
 have cj:Hid (avT s o l ((fw p).getD k 0)=avT s o l r):=by show avT s o l ((fw p).getD k 0)=_;rw[am]
 generalize hAVd:avT s o l (r:Int)=AV at *
 clear hAVd be a8 a9 d1;have q0:(0:Int)<=(k:Int):=by omega
 obtain⟨N,hN⟩:∃N,T.left=N:=⟨_,rfl⟩;have HN:Hid (T.left=N):=hN;rw[hN] at fv fl ⊢;clear hN;have cn:Hid (∀m,min N AV=m->min T.left (avT s o l ((fw p).getD k 0))=m):=λm h=>by rw[cj.out,HN.out];exact h
 rw[am] at bg;clear am Y aw;have hw:N<=200:=by
  have:=X.out.sum;have:=(ro (z:=s.hs.z) o l s.hs.n λj hj=>(cy (bw X.out.fm.hold j hj)).2.2.2).1;omega
 by_cases U:(r:Int)=but
 .have e8:((r:Int)==but)=true:=by simpa using U
  have P:Hid (Tk.go (avT s o l) n (oy p but (k+1))=T):=by
   show Tk.go (avT s o l) n (oy p but (k+1))=T;rw[bg.out,if_pos U]
  clear U;go_wp2_with fail;go_roundw
  case rel=>exact⟨k+1,by omega,by go_num,by rw[P.out,HN.out],by rw[P.out];exact⟨x,E.out⟩,a3,ad⟩
  case measure=>simp[intOf];omega
 have e8:((r:Int)==but)=false:=by simpa using U
 have bl:Hid (Tk.go (avT s o l) n (oy p but (k+1))=T.step (avT s o l) (r:Int)):=by
  show Tk.go (avT s o l) n (oy p but (k+1))=_;rw[bg.out,if_neg U]
 clear U bg;have KX:=E.out.2.2.1;obtain⟨m1,p0,p1,p2,p3,p4,p5,p6⟩:=Boxed.of KX;have d4:Hid (Calls prog 89 #[x.val,.int .i64 (r:Int),.int .i64 (gd:Int)] wr λe L=>e = .returned (.int .i64 AV)/\Below wr.heap.size wr L):=by
  have h:=Jm p x r gd wr E.out.2.1.at fq.out ax cl;rw[gf.out] at h;exact h
 clear KX;go_wp2_with fail;refine d4.out.mono ?_;rintro e w9 ⟨rfl,ag⟩;clear m1 p0 p1 p2 p3 p4 p5 p6 d4 z0 z1;have aa:Hid (Below A w w9):=a3.out.trans (ag.mono (Qzx hA a3.out.size));have u:Hid (ep s o l n T x/\ai A w9 x/\Blk w9 (w.heap.size+1) 31 7 (λj=>x.cells.getD j default)/\Blk w9 g 3 (fw p).length (λj => .int .i64 ((fw p).getD j 0))/\(x.os.z o).ls.a=some ⟨F,0,none⟩/\Blk w9 (w.heap.size+1+1) 31 7 (λ_ => .slice .none 0 0)):=⟨E.out.1,ai.below E.out.2.1 ag,E.out.2.2.1.below ag,E.out.2.2.2.1.below ag,E.out.2.2.2.2.1,E.out.2.2.2.2.2.below ag⟩;have ba:Hid (sv w w9):=ad.out.below ag;clear E a3 ag ad;by_cases c9:min N AV<=0
 .have e1:min N AV=0:=by
   have:=X.out.av r ax;have e:avT s o l (r:Int)=ar s r ((s.os.z o).ls.z l).o.toNat:=rfl;have:=cj.out;rw[bo.out,e] at this;omega
  have g1:¬0<min N AV:=by omega
  have g2:decide (0<min N AV)=false:=decide_eq_false g1;have P:Hid (Pt s o l n (Tk.go (avT s o l) n (oy p but (k+1))) (fw p) A (w.heap.size+1) F g w9/\(Tk.go (avT s o l) n (oy p but (k+1))).left=N):=by
   have e0:min T.left (avT s o l (r:Int))=0:=by have h:=cn.out 0 e1;rw[bo.out] at h;exact h
   refine⟨⟨x,?_,u.out.2⟩,?_⟩
   .rw[bl.out];exact u.out.1.stepZero e0
   rw[bl.out];show T.left-min T.left _=N;rw[e0,HN.out];omega
  clear c9;go_wp2_with fail;go_roundw
  case rel=>exact⟨k+1,by omega,by go_num,by rw[P.out.2],P.out.1,aa,ba⟩
  case measure=>simp[intOf];omega
 obtain⟨t,df⟩:∃t,min N AV=t:=⟨_,rfl⟩;have dc:Hid (min N AV=t):=df;have dx:0<t:=by omega
 have ge:t<=N:=by omega
 have g2:decide (0<t)=true:=decide_eq_true dx;have bh:Hid (gy (kc o l r t)=true/\keptV x.hs.n x.hs.z o l r+t<=200/\addE x.hs.n x.hs.z (kc o l r t)=0):=X.out.addE (λx hx=>I7 hx) al.out u.out.1 (b:=(r:Int)) ⟨by omega,by omega⟩ dx (by rw[HN.out];exact ge);have fy:=(Cz (λj hj=>(cy (bw u.out.1.right j hj)).2.2.2) (o:Int) (l:Int) (r:Int)).1;have ey:=bh.out.2.1;obtain⟨KV,ch⟩:∃KV,keptV x.hs.n x.hs.z o l r=KV:=⟨_,rfl⟩;have dg:Hid (keptV x.hs.n x.hs.z o l r=KV):=ch;rw[ch] at fy ey;clear ch;have KX:=u.out.2.2.1;have y2:=Qqq (KX.k 2);have y3:=KX.lt;clear KX c9;go_wp2_with fail;clear df;refine td (λL=>∃p:Regrown,L=grow (redrawn w9 p.d) p.os) [0,1,2,3,4,5,6,7,8,9,11] [10,12,13] [(true,14),(true,15)] (Qqx (brf.drew)) ?_;simp only[dw,Qyq,Xqq,Qyx,Qyz,Xqz,Xqx]
 repeat(go_big_quiet_step(fail))
 refine Qqz ?_;clear y2;refine⟨λj v g H=>match j with|10=>g=[]/\v = .int .i64 KV|12=>g=[]/\v = .int .i64 (KV+t)|13=>Jf w9.heap.size x.hs (kc o l r t) v g H|_=>True,
  Qjx ⟨λv g w L hB h=>h,Qjx ⟨λv g w L hB h=>h,Qjx ⟨λv g w L hB h=>Jf.below h hB,Qjq _⟩⟩⟩,
  Qjx ⟨λv g w h=>by rw[h.1];intro x hx;simp at hx,Qjx ⟨λv g w h=>by rw[h.1];intro x hx;simp at hx,Qjx ⟨λv g w h=>by obtain⟨_,h1,_⟩:=h;rw[h1];intro x hx;simp at hx,Qjq _⟩⟩⟩,
  Qjx ⟨?zt3,Qjx ⟨?zt4,Qjx ⟨?zt5,Qjq _⟩⟩⟩,?ztdone⟩
 case zt3 =>
  intro V G H K hS hd hA hK;have D:=af hS;refine ay 10 rfl ?_;simp only[ap,bu,Qvz,Qwq,Qvx,Act.put,Qvq,Qwx,Qwz] at hK ⊢;have fj:Hid (Calls prog 87 #[.slice x.hs.a x.hs.n x.hs.c,.int .i64 (o:Int),.int .i64 (l:Int),.int .i64 (r:Int)] H λe L=>e = .returned (.int .i64 KV)/\Below H.heap.size H L):=by
   have h:=Q4 x.hs o l r H (u.out.2.1.hs.at.below D);rw[dg.out] at h;exact h
  go_wp2_with fail;refine fj.out.mono ?_;rintro e w2 ⟨rfl,a6⟩;go_wp2_with fail;exact hK _ [] _ (Qqx (D.trans (a6.mono D.size))) a6 (λx hx=>by simp at hx) ⟨rfl,rfl⟩
 case zt4 =>
  intro V G H K hS hd hA hK;obtain⟨-,fi⟩:(G 10=[]/\V 10 = .int .i64 KV):=hd 10 (Qjz (by kernel_rfl)) (by simp);refine ay 12 rfl ?_;simp only[ap,bu,Qvz,Qwq,Qvx,Act.put,Qvq,Qwx,Qwz,fi] at hK ⊢;go_wp2_with fail;exact hK _ [] _ hS brf (λx hx=>by simp at hx) ⟨rfl,rfl⟩
 case zt5 =>
  intro V G H K hS hd hA hK;have D:=af hS;have q:=D.size;obtain⟨-,gk⟩:(G 12=[]/\V 12 = .int .i64 (KV+t)):=hd 12 (Qjz (by kernel_rfl)) (by simp);refine ay 13 rfl ?_;simp only[ap,bu,Qvz,Qwq,Qvx,Act.put,Qvq,Qwx,Qwz,gk] at hK ⊢;have e2:Hid (Calls prog 88 #[.slice x.hs.a x.hs.n x.hs.c,.int .i64 (o:Int),.int .i64 (l:Int),.int .i64 (r:Int),.int .i64 (KV+t)] H λe L=>∃s':Hs,e = .returned s'.val/\cz H.heap.size 103 L s'/\s'.n=pj x.hs.n x.hs.z (kc o l r t)/\s'.z=xx x.hs.n x.hs.z (kc o l r t)/\Below H.heap.size H L):=by
   have h:=Xm x.hs (kc o l r t) H (u.out.2.1.hs.at.below D) u.out.1.right bh.out.1;rw[show keptV x.hs.n x.hs.z (kc o l r t).o (kc o l r t).l (kc o l r t).b=KV from dg.out] at h;exact h
  go_wp2_with fail;refine e2.out.mono ?_;rintro e w2 ⟨y,rfl,h1,h2,h3,a6⟩;have HR:Hid (cz w9.heap.size 103 w2 y/\y.n=pj x.hs.n x.hs.z (kc o l r t)/\y.z=xx x.hs.n x.hs.z (kc o l r t)):=⟨h1.mono (by omega),h2,h3⟩;clear h1 h2 h3;simp only[Hs.val];go_wp2_with fail;exact hK _ [] _ (Qqx (D.trans (a6.mono D.size))) a6 (λx hx=>by simp at hx) ⟨y,rfl,rfl,HR.out⟩
 case ztdone =>
  intro V G' H hS hD f0;obtain⟨y,-,dj,cf,yn,yz⟩:Jf w9.heap.size x.hs (kc o l r t) (V 13) (G' 13) H:=hD 13 (by simp);have D:=af hS;have d3:Dw x.hs.n x.hs.z (kc o l r t) y:=⟨by rw[if_pos bh.out.2.2];exact yn,λj _=>by rw[yz]⟩;have q9:=aa.out.size;have qa:=D.size;obtain⟨b1,b2,b3,b4⟩:=d5.out;have d0:=ai.below u.out.2.1 D;have KA:=u.out.2.2.1.below D;have FA:=u.out.2.2.2.1.below D;have ZA:=u.out.2.2.2.2.2.below D;have cq:=aa.out.trans (D.mono (Qzx hA aa.out.size));have Q:o<x.os.n:=by rw[u.out.1.os.1];exact ho
  have ck:=(d0.withHolds (cf.mono (by omega))).box KA 2 (.slice y.a y.n y.c);have KB:=KA.set 2 (.slice y.a y.n y.c);have FB:=FA.other (a:=⟨w.heap.size+1,2,none⟩) (Blk.ne2 FA KA (by decide)) (.slice y.a y.n y.c);have ZB:=ZA.other (a:=⟨w.heap.size+1,2,none⟩) (by show w.heap.size+1+1≠w.heap.size+1;omega) (.slice y.a y.n y.c);have ca:=cq.setCell (p:=⟨w.heap.size+1,2,none⟩) (by show A<=w.heap.size+1;omega) (.slice y.a y.n y.c);have ao:l<(x.os.z o).ls.n:=by rw[(u.out.1.os.2 o Q).2.1];exact hl
  have c6:=u.out.1.stepAdd (av:=avT s o l) (order:=o) (line:=l) (b:=(r:Int)) (m:=t) ho hl (by have h:=cn.out t dc.out;rw[bo.out] at h;exact h) bh.out.2.2 d3;have ci:=(ba.out.below D).setNew (B:=w.heap.size+1) (by omega) 2 (.slice y.a y.n y.c);have z1:=KA.lt;have z2:=KA.frozen 2;have z3:=KA.k 2;obtain⟨S,b0⟩:∃S,H.setCell ⟨w.heap.size+1,2,none⟩ (.slice y.a y.n y.c)=S:=⟨_,rfl⟩;have d2:Hid (H.setCell ⟨w.heap.size+1,2,none⟩ (.slice y.a y.n y.c)=S):=b0;rw[b0] at ck KB FB ZB ca ci;have cp:Hid (sv w S):=ci;have J:Hid (ai A S (withHolds x y)/\Blk S (w.heap.size+1) 31 7 (λi=>if i=2 then .slice y.a y.n y.c else x.cells.getD i default)/\Blk S g 3 (fw p).length (λj => .int .i64 ((fw p).getD j 0))/\Blk S (w.heap.size+1+1) 31 7 (λ_ => .slice .none 0 0)/\Below A w S/\ep s o l n (T.step (avT s o l) r) (withHolds (setLine x o l 3 (((x.os.z o).ls.z l).n-t)) y)):=⟨ck,KB,FB,ZB,ca,c6⟩;have dt:Hid (o<x.os.n/\l<(x.os.z o).ls.n/\(x.os.z o).ls.a=some ⟨F,0,none⟩/\A<=F):=⟨Q,ao,u.out.2.2.2.2.1,b2⟩;have b6:Hid (((x.os.z o).ls.z l).n=((s.os.z o).ls.z l).n-(n-T.left)):=by
   show((x.os.z o).ls.z l).n=_;rw[(u.out.1.os.2 o Q).2.2 l ao,if_pos ⟨rfl,rfl⟩]
   rfl
  clear ci ba hS hD f0 D d0 KA FA ZA cq ck KB FB ZB ca c6 cf yn yz d3 b0 Q ao u aa;simp only[ap,bu,Qvz,Qwq,Qvx,Act.put,Qvq,Qwx,Qwz,dj];refine dk 14 rfl ?_;go_wp2_with fail;refine⟨jq.yes,?_⟩;refine dk 15 rfl ?_;go_wp2_with fail;refine⟨jq.yes,?_⟩;refine NoPanic.normal ?_;rw[d2.out];clear z1 z2 z3 d2 dj b1 b2 b3 b4 q9 qa;obtain⟨Q,ao,b9,hh⟩:=dt.out;obtain⟨gO,eu,f1,f2,f3,f4,f5,f6,f7,f8,f9,cm,bn,cg,b8,bi⟩:=J.out.1.lineCell (o:=o) (l:=l) Q ao;have cd:(x.os.z o).ls.a=some ⟨eu,0,none⟩:=f5;rw[b9] at cd;simp only[Qkx,Qkz,and_true] at cd;subst cd;have bj:Hid (((withHolds x y).os.z o).ls.a=some ⟨F,0,none⟩):=f5;have s1:S.cell? ⟨w.heap.size+1,1,none⟩=some (.slice x.os.a x.os.n x.os.c):=J.out.2.1.k 1;have c7:x.os.a=some ⟨gO,0,none⟩:=f1;rw[c7] at s1;have ds:S.cell? ⟨gO,o*2+1,none⟩=some (.slice (some ⟨F,0,none⟩) (x.os.z o).ls.n (x.os.z o).ls.c):=f4;have bb:S.cell? ⟨F,l*4+3,none⟩=some (.int .i64 ((x.os.z o).ls.z l).n):=bi;obtain⟨M,bp⟩:∃M,((x.os.z o).ls.z l).n=M:=⟨_,rfl⟩;have dr:Hid (((x.os.z o).ls.z l).n=M):=bp;have hm : -1000<=M/\M<=1000:=by
   rw[<-bp,b6.out];have:=dz (X.out.fm.line o ho l hl);have:=HN.out;omega
  rw[bp] at bb;have v1:x.os.n<=x.os.c:=J.out.1.os.le;have v2:x.os.c<=maxLen:=J.out.1.os.cap;have v3:(x.os.z o).ls.n<=(x.os.z o).ls.c:=f8;have v4:(x.os.z o).ls.c<=maxLen:=f9;unfold maxLen at v2 v4;have t1:=Qqq s1;have t2:=Qqq ds;have t3:=Qqq bb;clear bp f1 f2 f3 f4 f5 f6 f7 f8 f9 cm bn cg b8 bi s1 c7 ds bb b9 dt b6;go_wp2_with fail;refine jt (λL=>∃p:Regrown,L=grow (redrawn S p.d) p.os) (List.range 21) [] [(true,21)] (Qqx (brf.drew)) ?_;rw[show List.range 21=[0,1,2,3,4,5,6,7,8,9,10,11,12,13,14,15,16,17,18,19,20] from rfl];simp only[dw,Qyq,Xqq,Qyx,Qyz,Xqz,Xqx]
  repeat(go_big_quiet_step(fail))
  refine Qqz ?_;clear t1 t2 t3;refine⟨λ_ _ _ _=>True,Qjq _,Qjq _,Qjq _,λV G wj hS _ _ => ?_⟩;have D:=af hS;have bm:=ai.below J.out.1 D;have Kj:=J.out.2.1.below D;have Fj:=J.out.2.2.1.below D;have Zj:=J.out.2.2.2.1.below D;have db:=J.out.2.2.2.2.1.trans (D.mono (Qzx hA J.out.2.2.2.2.1.size));obtain⟨B',bf,-,-,-,ah⟩:=bm.os.lines o Q;rw[bj.out] at bf;simp only[Qkx,Qkz,and_true] at bf;subst bf;have zl:=ah.lt;have zf:=ah.frozen (l*4+3);obtain⟨gq,Bq,-,-,-,-,g5,-,-,-,-,-,-,-,-,zc⟩:=bm.lineCell (o:=o) (l:=l) Q ao;rw[bj.out] at g5;simp only[Qkx,Qkz,and_true] at g5;subst g5;have de:=bm.setLine (o:=o) Q bj.out l 3 (by decide) (M-t);have KC:=Kj.other (a:=⟨F,l*4+3,none⟩) (Blk.ne2 Kj ah (by decide)) (.int .i64 (M-t));have FC:=Fj.other (a:=⟨F,l*4+3,none⟩) (Blk.ne2 Fj ah (by decide)) (.int .i64 (M-t));have ZC:=Zj.other (a:=⟨F,l*4+3,none⟩) (Blk.ne2 Zj ah (by decide)) (.int .i64 (M-t));have dy:=(cp.out.below D).setLine ah (l*4+3) (.int .i64 (M-t));have du:=db.setCell (p:=⟨F,l*4+3,none⟩) (by show A<=F;omega) (.int .i64 (M-t));have P:Hid (Pt s o l n (Tk.go (avT s o l) n (oy p but (k+1))) (fw p) A (w.heap.size+1) F g (wj.setCell ⟨F,l*4+3,none⟩ (.int .i64 (M-t)))/\(Tk.go (avT s o l) n (oy p but (k+1))).left=N-t/\Below A w (wj.setCell ⟨F,l*4+3,none⟩ (.int .i64 (M-t)))/\sv w (wj.setCell ⟨F,l*4+3,none⟩ (.int .i64 (M-t)))):=by
   refine⟨⟨withHolds (setLine x o l 3 (M-t)) y,?_,de,KC.congr (λj hj=>by match j,hj with|0,_=>rfl|1,_=>rfl|2,_=>rfl|3,_=>rfl|4,_=>rfl|5,_=>rfl|6,_=>rfl),FC,?_,ZC⟩,?_,du,dy⟩
   .rw[bl.out];have h:=J.out.2.2.2.2.2;rw[dr.out] at h;exact h
   .exact((dp (s:=x) (o:=o) (l:=l) (c:=3) (v:=M-t) o).2.1).trans bj.out
   rw[bl.out];show T.left-min T.left _=N-t;have h:=cn.out t dc.out;rw[bo.out] at h;rw[h,HN.out]
  clear bm Kj Fj Zj db ah de KC FC ZC du dy cp D hS J;have gc:wj.cell? ⟨F,l*4+3,none⟩=some (.int .i64 ((x.os.z o).ls.z l).n):=zc;rw[dr.out] at gc;clear zc;simp only[ap];refine dk 21 rfl ?_;go_wp2_with fail;refine⟨jq.yes,?_⟩;refine NoPanic.normal ?_;go_wp2_with fail;go_roundw
  case rel=>exact⟨k+1,by omega,by go_num,by rw[P.out.2.1],P.out.1,P.out.2.2.1,P.out.2.2.2⟩
  case measure=>simp[intOf];omega
theorem Kk(p:Pl)(s:St)(w:World)(hp:p.At w)(hs:s.At w):
  Calls prog 33 #[p.val,s.val] w λe U=>∃x:St,e = .returned (.tuple #[x.val,.int .i64 (ah p s)])/\x.At U/\F7 p s x/\(ah p s=0->ai w.heap.size U x)/\Below w.heap.size w U:=by
 obtain⟨y,hW,ba,X0,Z0⟩:∃W,(((w.alloc (.cells #[.slice p.ab p.nb p.cb,.slice p.sa p.ns p.cs] 25)).alloc (.cells s.cells 31)).alloc (.cells #[.slice .none 0 0,.slice .none 0 0,.slice .none 0 0,.slice .none 0 0,.slice .none 0 0,.slice .none 0 0,.slice .none 0 0] 31))=W/\Below w.heap.size w W/\mf W w.heap.size (w.heap.size+1) p s/\Blk W (w.heap.size+2) 31 7 (λ_ => .slice .none 0 0):=
  ⟨_,rfl,(j8 _ _ _).alloc (by simp;omega) _,(ox w p s _ _).below (brf.alloc nlr _),(Blk.mk' (cur:=#[.slice .none 0 0,.slice .none 0 0,.slice .none 0 0,.slice .none 0 0,.slice .none 0 0,.slice .none 0 0,.slice .none 0 0]) (by simp) rfl).congr (λj hj=>by match j,hj with|0,_=>rfl|1,_=>rfl|2,_=>rfl|3,_=>rfl|4,_=>rfl|5,_=>rfl|6,_=>rfl)⟩
 have HC:Hid (∀G,Below y.heap.size y G->mf G w.heap.size (w.heap.size+1) p s/\p.At G/\s.At G/\Below w.heap.size w G/\Blk G (w.heap.size+2) 31 7 (λ_ => .slice .none 0 0)):=λG h=>⟨X0.below h,(hp.below ba).below h,(hs.below ba).below h,ba.trans (h.mono ba.size),Z0.below h⟩;have HW:Hid (((w.alloc (.cells #[.slice p.ab p.nb p.cb,.slice p.sa p.ns p.cs] 25)).alloc (.cells #[.slice s.on.a s.on.n s.on.c,.slice s.os.a s.os.n s.os.c,.slice s.hs.a s.hs.n s.hs.c,.slice s.ms.a s.ms.n s.ms.c,.slice s.si.a s.si.n s.si.c,.slice s.so.a s.so.n s.so.c,.slice s.sf.a s.sf.n s.sf.c] 31)).alloc (.cells #[.slice .none 0 0,.slice .none 0 0,.slice .none 0 0,.slice .none 0 0,.slice .none 0 0,.slice .none 0 0,.slice .none 0 0] 31)=y):=hW;have leb:=hp.leb;have ci:=hp.capb;have les:=hp.les;have cl:=hp.caps;have capb:=ci;have caps:=cl;have gp:=Z0.lt;unfold maxLen at capb caps;clear hW X0 Z0 hp hs;unfold Pl.val St.val;go_enter func33,ntmps33;go_wp2_with fail;rw[HW.out];obtain⟨X,M,L,E,m⟩:=HC.out y brf;refine(lq p s y M L).mono ?_;rintro e t ⟨rfl,hB⟩;clear X M L E m HW;obtain⟨⟨⟨l1,d0,d1⟩,l2,c0,c1,c2,c3,c4,c5,c6⟩,M,L,E,m⟩:=HC.out t hB;by_cases h0:ah p s=0;rotate_left
 .have cq:Hid (¬ah p s=0):=h0;have g0:(ah p s !=0)=true:=by simpa using h0
  clear h0 M L;have zl:=m.lt;have db:=m.frozen 0;have da:=m.k 0;have cv:=m.frozen 1;have zc1:=m.k 1;have dj:=m.frozen 2;have zc2:=m.k 2;have dn:=m.frozen 3;have zc3:=m.k 3;have cp:=m.frozen 4;have zc4:=m.k 4;have cn:=m.frozen 5;have zc5:=m.k 5;have du:=m.frozen 6;have dv:=m.k 6;go_wp2_with fail;have KZ:=rp m (.slice .none 0 0) (.slice .none 0 0) (.slice .none 0 0) (.slice .none 0 0) (.slice .none 0 0) (.slice .none 0 0) (.slice .none 0 0);have an:=na (b:=w.heap.size+2) E (by omega) (.slice .none 0 0) (.slice .none 0 0) (.slice .none 0 0) (.slice .none 0 0) (.slice .none 0 0) (.slice .none 0 0) (.slice .none 0 0);unfold set7 at KZ an;obtain⟨bm,cc,bp,ca,bk,b0,bt⟩:=co KZ;refine Xzq (v := .tuple #[ng.val,.int .i64 (ah p s)]) (by simp[results,results33,go_sem,ng,St.val,bm,cc,bp,ca,bk,b0,bt]) rfl ?_;exact⟨ng,rfl,y9 _,⟨λh=>absurd h cq.out,λ_=>⟨rfl,rfl,rfl,rfl,rfl,rfl,rfl⟩⟩,λh=>absurd h cq.out,an⟩
 have H0:Hid (ah p s=0):=h0;have HR:Hid (au p s):=ew h0;rw[h0];clear h0;have d9:Hid (w.heap.size<=t.heap.size):=E.size;have dc:Hid (Calls prog 85 #[s.val] t λe U=>∃s':St,e = .returned s'.val/\ae s' s/\ai t.heap.size U s'/\Below t.heap.size t U):=pr p s t L HR.out.fm;clear M L E m;go_wp2_with fail;refine Calls.mono dc.out ?_;rintro e w4 ⟨f,rfl,aj,ak,bb⟩;clear dc l1 d0 d1 l2 c0 c1 c2 c3 c4 c5 c6;obtain⟨W5,dp,S,K5⟩:∃W,w4.alloc (.cells #[.slice f.on.a f.on.n f.on.c,.slice f.os.a f.os.n f.os.c,.slice f.hs.a f.hs.n f.hs.c,.slice f.ms.a f.ms.n f.ms.c,.slice f.si.a f.si.n f.si.c,.slice f.so.a f.so.n f.so.c,.slice f.sf.a f.sf.n f.sf.c] 31)=W/\Below w4.heap.size w4 W/\Blk W w4.heap.size 31 7 (λj=>f.cells.getD j default):=⟨_,rfl,brf.alloc nlr _,Blk.mk' rfl rfl⟩;have cm:Hid (w4.alloc (.cells #[.slice f.on.a f.on.n f.on.c,.slice f.os.a f.os.n f.os.c,.slice f.hs.a f.hs.n f.hs.c,.slice f.ms.a f.ms.n f.ms.c,.slice f.si.a f.si.n f.si.c,.slice f.so.a f.so.n f.so.c,.slice f.sf.a f.sf.n f.sf.c] 31)=W5):=dp;have a6:=bb.trans (S.mono bb.size);have cz:=hB.trans (a6.mono hB.size);have D:Hid (dg t.heap.size w4.heap.size y (dh f 0) W5):=by
  show dg t.heap.size w4.heap.size y (dh f 0) W5;rw[Oo];exact⟨ai.below ak S,K5,cz,a6.size⟩
 have az:Hid (ae f s):=aj;have A1:y.heap.size<=t.heap.size:=hB.size;have A2:t.heap.size<=w4.heap.size:=bb.size;have ol:f.os.n<=f.os.c:=(ai.below ak S).os.le;have oc:f.os.c<=maxLen:=(ai.below ak S).os.cap;unfold maxLen at oc;have fa:f.os.n<=4:=by rw[aj.os.1];exact HR.out.fm.os4
 clear dp ak K5 bb S a6 cz aj hB;simp only[St.val];go_wp2_with fail;rw[cm.out];clear cm
 generalize w4.heap.size=B at *
 go_loopw [8] (λkv G=>∃k:Nat,k<=f.os.n/\kv = .int .i64 k/\Hid (dg t.heap.size B y (dh f k) G)) (λkv _=>f.os.n-(intOf kv).toNat)
 case atStart=>exact⟨0,Qxz _,rfl,D⟩
 clear D;obtain⟨k,hk,rfl,g⟩:=hrel;have P:wr.cell? ⟨B,1,none⟩=some (.slice f.os.a f.os.n f.os.c):=g.out.box.k 1;have u2:=g.out.box.lt;by_cases r:k<f.os.n
 .have q0:(0:Int)<=(k:Int):=by omega
  have q1:(k:Int)<(f.os.n:Int):=by omega
  obtain⟨gO,V,g2,g3,g4,Q,g6⟩:=g.out.own.orderCells (o:=k) r;have ac:f.os.a=some ⟨gO,0,none⟩:=V;have HG:Hid (f.os.a=some ⟨gO,0,none⟩):=V;have ek:(dh f k).os.z k=f.os.z k:=uw _ nlr;rw[ek] at g4 Q;have be:Hid ((dh f k).os.z k=f.os.z k):=ek;rw[ac] at P;have gf:=g6 (k*2);clear V ac g6 ek;by_cases aa:(f.os.z k).k=0;rotate_left
  .have H:Hid (dg t.heap.size B y (dh f (k+1)) wr):=by show dg _ _ _ (dh f (k+1)) _;rw[<-O2 aa];exact g.out
   have fh:((f.os.z k).k !=0)=true:=by simpa using aa
   clear aa Q be
   generalize (f.os.z k).k=KK at *
   go_wp2_with fail;go_roundw
   case rel=>exact⟨k+1,by omega,by go_num,H⟩
   case measure=>simp[intOf];omega
  have ap:Hid ((f.os.z k).k=0):=aa;rw[aa] at g4;have H:Hid (dg t.heap.size B y (fk (di (dh f k) k 1) k 0) (wr.setCell ⟨gO,k*2,none⟩ (.int .i64 1))):=by
   show dg _ _ _ (fk (di (dh f k) k 1) k 0) _;rw[Fp];obtain⟨gq,b1,b2,b3⟩:=g.out.own.os.list (by show 0<f.os.n;omega);have b4:f.os.a=some ⟨gq,0,none⟩:=b1;rw[HG.out] at b4;simp only[Qkx,Qkz,and_true] at b4;subst b4;exact⟨g.out.own.kind (o:=k) r b1 1,g.out.box.other (a:=⟨gO,k*2,none⟩) (Blk.ne2 g.out.box b3 (by decide)) _,g.out.bel.setCell (p:=⟨gO,k*2,none⟩) (by show y.heap.size<=gO;omega) _,by have:=g.out.le;simpa using this⟩
  have bd:Hid (∀j,((fk (di (dh f k) k 1) k j).os.z k)=⟨1,xe (f.os.z k).ls j⟩):=λj=>by
   rw[wm,uc,be.out]
  have fd:Hid (∀j,j<(f.os.z k).ls.n->((f.os.z k).ls.z j).b=0):=λj hj=>by
   have e:=az.out.os.2 k r;rw[e.2.2 j hj];exact(Fy HR.out (k:=k+1) (by rw[<-az.out.os.1];exact r) (by rw[<-e.2.1];exact hj) ⟨by omega,e.1▸ap.out⟩).2.1
  have bv:Hid ((f.os.z k).ls.n<=(f.os.z k).ls.c/\(f.os.z k).ls.c<=maxLen):=by
   have h:=g.out.own.at.os.ods k r;rw[be.out] at h;obtain⟨_,_,_,_,_,_,h⟩:=h;exact⟨h.le,h.cap⟩
  have ll:=bv.out.1;have lc:=bv.out.2;unfold maxLen at lc;clear aa be bv;go_wp2_with fail;clear g4 Q gf P u2 g
  go_loopw [9] (λjv G=>∃j:Nat,j<=(f.os.z k).ls.n/\jv = .int .i64 j/\Hid (dg t.heap.size B y (fk (di (dh f k) k 1) k j) G)) (λjv _=>(f.os.z k).ls.n-(intOf jv).toNat)
  case atStart=>exact⟨0,Qxz _,rfl,H⟩
  clear H;obtain⟨j,hj,rfl,g⟩:=hrel;have P:wr.cell? ⟨B,1,none⟩=some (.slice f.os.a f.os.n f.os.c):=g.out.box.k 1;have u2:=g.out.box.lt;rw[HG.out] at P;obtain⟨gq,V,gu,gw,g4,Q,g6⟩:=g.out.own.orderCells (o:=k) r;have ac:f.os.a=some ⟨gq,0,none⟩:=V;rw[HG.out] at ac;simp only[Qkx,Qkz,and_true] at ac;subst ac;rw[bd.out j] at Q;have bu:wr.cell? ⟨gO,k*2+1,none⟩=some (.slice (f.os.z k).ls.a (f.os.z k).ls.n (f.os.z k).ls.c):=Q;clear V g4 Q g6;by_cases bc:j<(f.os.z k).ls.n;rotate_left
  .have ay:j=(f.os.z k).ls.n:=by omega
   have H:Hid (dg t.heap.size B y (dh f (k+1)) wr):=by
    have h:=g.out;have e:Iz (dh f k) k=fk (di (dh f k) k 1) k j:=by
     unfold Iz;have e2:((dh f k).os.z k).ls.n=j:=by show(ie k k (f.os.z k)).ls.n=j;rw[zh];exact ay.symm
     rw[e2]
    show dg _ _ _ (dh f (k+1)) _;rw[<-Rp ap.out,e];exact h
   subst ay;go_wp2_with fail;go_roundw
   case rel=>exact⟨k+1,by omega,by go_num,H⟩
   case measure=>simp[intOf];omega
  have q2:(0:Int)<=(j:Int):=by omega
  have q3:(j:Int)<((f.os.z k).ls.n:Int):=by omega
  have fi:j<((fk (di (dh f k) k 1) k j).os.z k).ls.n:=by rw[bd.out];exact bc
  obtain⟨gr,BL,f1,f2,f3,f4,f5,f6,f7,f8,f9,b6,bf,aw,a9,aq⟩:=g.out.own.lineCell (o:=k) (l:=j) r fi;rw[bd.out] at f5 bf aw a9 aq;have bz:(f.os.z k).ls.a=some ⟨BL,0,none⟩:=f5;have c9:Hid (((fk (di (dh f k) k 1) k j).os.z k).ls.a=some ⟨BL,0,none⟩):=by show((fk (di (dh f k) k 1) k j).os.z k).ls.a=_;rw[bd.out];exact bz
  have m:(xe (f.os.z k).ls j).z j=(f.os.z k).ls.z j:=if_neg (Nat.lt_irrefl _);have cf:wr.cell? ⟨BL,j*4+1,none⟩=some (.int .i64 ((f.os.z k).ls.z j).l):=by rw[<-m];exact aw
  have ev:Hid (setLine (fk (di (dh f k) k 1) k j) k j 3 ((f.os.z k).ls.z j).l=fk (di (dh f k) k 1) k (j+1)):=by
   have e:((di (dh f k) k 1).os.z k).ls.z j=(f.os.z k).ls.z j:=by rw[uc];show((ie k k (f.os.z k)).ls.z j)=_;rw[uw _ nlr]
   have h:=Tz (s:=di (dh f k) k 1) (i:=k) (k:=j) (by rw[e];exact fd.out j bc);rw[e] at h;exact h
  rw[bz] at bu;have t1:=Qqq P;have t2:=Qqq bu;have t3:=Qqq cf;clear f1 f2 f3 f4 f5 bz f6 f8 f9 b6 bf aw cf a9 aq m;go_wp2_with fail;clear P bu;refine i9 [(true,[0,1,2,3,4,5,6,7,8,9,10,11,12,13,14,15,16,17,18],some 19)] ?_;refine⟨λU=>∃p:Regrown,U=grow (redrawn wr p.d) p.os,Qqx (brf.drew),λh=>(by cases h),?_⟩;simp only[dw,Qyq,Xqq,Qyx,Qyz,Xqz,Xqx]
  repeat(go_big_quiet_step(fail))
  refine Qqz ?_;clear t1 t2 t3;have A:Below wr.heap.size wr wr.drew:=brf.drew
  generalize wr.drew=wj at *
  have bl:=g.out.own.below A;have Kj:=g.out.box.below A;have cx:=g.out.bel.trans (A.mono g.out.bel.size);have c8:=Qzx g.out.le A.size;obtain⟨Bq,a8,gt,-,-,am⟩:=bl.os.lines k r;rw[c9.out] at a8;simp only[Qkx,Qkz,and_true] at a8;subst a8;have zl:=am.lt;have zf:=am.frozen (j*4+3);have zc:=am.cell (j:=j*4+3) (by omega);have bw:=bl.setLine (o:=k) r c9.out j 3 (by decide) ((f.os.z k).ls.z j).l;have cw:=Kj.other (a:=⟨BL,j*4+3,none⟩) (Blk.ne2 Kj am (by decide)) (.int .i64 ((f.os.z k).ls.z j).l);have dk:=cx.setCell (p:=⟨BL,j*4+3,none⟩) (by show y.heap.size<=BL;omega) (.int .i64 ((f.os.z k).ls.z j).l);rw[ev.out] at bw;have H:Hid (dg t.heap.size B y (fk (di (dh f k) k 1) k (j+1)) (wj.setCell ⟨BL,j*4+3,none⟩ (.int .i64 ((f.os.z k).ls.z j).l))):=⟨bw,cw,dk,by simpa using c8⟩;clear bl Kj cx c8 am bw cw dk A g
  generalize (ax ((fk (di (dh f k) k 1) k j).os.z k).ls.n ((fk (di (dh f k) k 1) k j).os.z k).ls.z).getD (j*4+3) default=VV at zc
  generalize ((f.os.z k).ls.z j).l=LV at *
  refine ki 19 rfl ?_;go_wp2_with fail;refine NoPanic.normal ?_;go_wp2_with fail;go_roundw
  case rel=>exact⟨j+1,by omega,by go_num,H⟩
  case measure=>simp[intOf];omega
 have e8:k=f.os.n:=by omega
 subst e8;have HY:Hid (xw p s 0 (dh f f.os.n)):=by
  show ae _ _;rw[az.out.os.1];exact Ik az.out _
 go_wp2_with fail;clear P u2
 go_loopw [10] (λkv G=>∃(i:Nat) (cur:St),i<=s.os.n/\kv = .int .i64 i/\Hid (dg t.heap.size B y cur G)/\Hid (xw p s i cur)) (λkv _=>s.os.n-(intOf kv).toNat)
 case atStart=>exact⟨0,_,Qxz _,rfl,g,HY⟩
 clear HY g az hk r ol oc fa;obtain⟨i,cur,hi,rfl,g,HA⟩:=hrel;have J:Hid (Pos p (-1) (pk s) (dh s s.os.n) i 0 cur):=ig.pos (uu HR.out) (λa _=>mh s a) hi HA.out;have bo:Hid (cur.os.n=s.os.n):=J.out.al.osn;have n1:(cur.os.n:Int)<=(s.os.n:Int):=by rw[bo.out];omega
 have n2:(s.os.n:Int)<=(cur.os.n:Int):=by rw[bo.out];omega
 have P:wr.cell? ⟨B,1,none⟩=some (.slice cur.os.a cur.os.n cur.os.c):=g.out.box.k 1;have u2:=g.out.box.lt;have ol:cur.os.n<=cur.os.c:=g.out.own.os.le;have oc:cur.os.c<=maxLen:=g.out.own.os.cap;unfold maxLen at oc;by_cases r:i<s.os.n;rotate_left
 .have e6:i=s.os.n:=by omega
  have ex:Hid (jw p s cur):=by have h:=HA.out;rw[e6] at h;exact h
  have q4:(cur.os.n:Int)<=(i:Int):=by omega
  have q5:cur.os.n<=i:=by omega
  obtain⟨m1,p0,p1,p2,p3,p4,p5,p6⟩:=Boxed.of g.out.box;obtain⟨-,-,-,E,m⟩:=HC.out wr g.out.bel;have HZ:Hid (Below w.heap.size w wr/\Blk wr (w.heap.size+2) 31 7 (λ_ => .slice .none 0 0)):=⟨E,m⟩;have zl:=m.lt;have db:=m.frozen 0;have da:=m.k 0;have cv:=m.frozen 1;have zc1:=m.k 1;have dj:=m.frozen 2;have zc2:=m.k 2;have dn:=m.frozen 3;have zc3:=m.k 3;have cp:=m.frozen 4;have zc4:=m.k 4;have cn:=m.frozen 5;have zc5:=m.k 5;have du:=m.frozen 6;have dv:=m.k 6;have ft:=(HC.out _ brf).2.2.2.1.size;clear E m;go_wp2_with fail;have KZ:=rp HZ.out.2 (.slice cur.on.a cur.on.n cur.on.c) (.slice cur.os.a cur.os.n cur.os.c) (.slice cur.hs.a cur.hs.n cur.hs.c) (.slice cur.ms.a cur.ms.n cur.ms.c) (.slice cur.si.a cur.si.n cur.si.c) (.slice cur.so.a cur.so.n cur.so.c) (.slice cur.sf.a cur.sf.n cur.sf.c);have an:=na (b:=w.heap.size+2) HZ.out.1 (by omega) (.slice cur.on.a cur.on.n cur.on.c) (.slice cur.os.a cur.os.n cur.os.c) (.slice cur.hs.a cur.hs.n cur.hs.c) (.slice cur.ms.a cur.ms.n cur.ms.c) (.slice cur.si.a cur.si.n cur.si.c) (.slice cur.so.a cur.so.n cur.so.c) (.slice cur.sf.a cur.sf.n cur.sf.c);have bx:=ai.set7 g.out.own HZ.out.2 (.slice cur.on.a cur.on.n cur.on.c) (.slice cur.os.a cur.os.n cur.os.c) (.slice cur.hs.a cur.hs.n cur.hs.c) (.slice cur.ms.a cur.ms.n cur.ms.c) (.slice cur.si.a cur.si.n cur.si.c) (.slice cur.so.a cur.so.n cur.so.c) (.slice cur.sf.a cur.sf.n cur.sf.c);unfold set7 at KZ an bx;obtain⟨bm,cc,bp,ca,bk,b0,bt⟩:=co KZ;refine Xzq (v := .tuple #[cur.val,.int .i64 0]) (by simp[results,results33,go_sem,St.val,bm,cc,bp,ca,bk,b0,bt]) rfl ?_;exact⟨cur,by rw[H0.out];rfl,bx.at,⟨λ_=>ex.out,λh=>absurd H0.out h⟩,λ_=>bx.mono d9.out,an⟩
 have q0:(0:Int)<=(i:Int):=by omega
 have q1:(i:Int)<(cur.os.n:Int):=by omega
 have e3:i<cur.os.n:=by omega
 have F:Hid (xy p s i 0 cur):=HA.out.row;have D:Hid (¬((dh s s.os.n).os.z i).k=1->xw p s (i+1) cur):=λh=>HA.out.skip HR.out r h;go_wp2_with fail;clear P u2 ol oc q1 e3 n1 n2 HA J bo
 go_loopw [11] (λjv G=>∃(j:Nat) (q:St),j<=(s.os.z i).ls.n/\jv = .int .i64 j/\Hid (dg t.heap.size B y q G)/\Hid (xy p s i j q)/\Hid (¬((dh s s.os.n).os.z i).k=1->xw p s (i+1) q)) (λjv _=>(s.os.z i).ls.n-(intOf jv).toNat)
 case atStart=>exact⟨0,cur,Qxz _,rfl,g,F,D⟩
 clear g F D;obtain⟨j,q,hj,rfl,g,F,D⟩:=hrel;have J:Hid (Pos p (-1) (pk s) (dh s s.os.n) i j q):=F.out.pos HR.out r hj;have en:=J.out.al.osn;have cu:q.os.n=s.os.n:=en;have bs:i<q.os.n:=by rw[cu];exact r
 have q1:(i:Int)<(q.os.n:Int):=by omega
 have kk:=J.out.al.kind i r;have av:Hid ((q.os.z i).k=((dh s s.os.n).os.z i).k):=kk.1;have kn:(q.os.z i).ls.n=(s.os.z i).ls.n:=kk.2.trans (mh s i).symm;have gv:Hid ((q.os.z i).ls.n=(s.os.z i).ls.n):=kn;obtain⟨gO,V,g2,g3,g4,Q,g6⟩:=g.out.own.orderCells (o:=i) bs;have P:wr.cell? ⟨B,1,none⟩=some (.slice q.os.a q.os.n q.os.c):=g.out.box.k 1;rw[V] at P;have HG:Hid (q.os.a=some ⟨gO,0,none⟩):=V;have u2:=g.out.box.lt;have ol:q.os.n<=q.os.c:=g.out.own.os.le;have oc:q.os.c<=maxLen:=g.out.own.os.cap;unfold maxLen at oc;have eu:=g.out.own.at.os.ods i bs;obtain⟨_,_,_,_,_,_,b8⟩:=eu;have ll:=b8.le;have lc:=b8.cap;unfold maxLen at lc;clear V g6 en cu kk b8;by_cases bc:j<(q.os.z i).ls.n;rotate_left
 .have ay:j=(s.os.z i).ls.n:=by omega
  have H:Hid (xw p s (i+1) q):=by have h:=F.out;rw[ay] at h;exact h.next
  have q4:((q.os.z i).ls.n:Int)<=(j:Int):=by omega
  have q5:¬(j:Int)<((q.os.z i).ls.n:Int):=by omega
  clear ay av D F J;go_wp2_with fail;go_roundw
  case rel=>exact⟨i+1,q,by omega,by go_num,g,H⟩
  case measure=>simp[intOf];omega
 have q2:(0:Int)<=(j:Int):=by omega
 have q3:(j:Int)<((q.os.z i).ls.n:Int):=by omega
 by_cases Y:(q.os.z i).k=1;rotate_left
 .have H:Hid (xw p s (i+1) q):=D.out (by rw[<-av.out];exact Y);have fh:((q.os.z i).k==1)=false:=by simpa using Y
  clear Y av D F J
  generalize (q.os.z i).k=KK at *
  go_wp2_with fail;go_roundw
  case rel=>exact⟨i+1,q,by omega,by go_num,g,H⟩
  case measure=>simp[intOf];omega
 have ap:Hid (((dh s s.os.n).os.z i).k=1):=av.out.symm.trans Y;rw[Y] at g4;clear Y;have dt:j<(s.os.z i).ls.n:=by omega
 have cy:Hid (jz p (-1) q i j (pk s i j)):=F.out.stepIn HR.out r dt;have HQ:Hid (pk s i j=((q.os.z i).ls.z j).n):=by
  have e:=J.out.later i j r (by rw[<-mh];exact dt) (λe=>by unfold nt at e;omega);rw[e.1];exact if_pos ap.out
 obtain⟨gr,BL,f1,f2,f3,f4,f5,f6,f7,f8,f9,b6,bf,aw,a9,aq⟩:=g.out.own.lineCell (o:=i) (l:=j) bs bc;rw[f5] at Q;obtain⟨⟨⟨l1,d0,d1⟩,l2,c0,c1,c2,c3,c4,c5,c6⟩,M,L,E,m⟩:=HC.out wr g.out.bel;obtain⟨m1,p0,p1,p2,p3,p4,p5,p6⟩:=Boxed.of g.out.box;rw[HG.out] at p1;have ct:Hid (p.At wr):=M;have dl:Hid (∀x,lg p (-1) q i j ((q.os.z i).ls.z j).n x->xy p s i (j+1) x):=λx T=>F.out.step (by rw[HQ.out];exact T);have df:Hid (iy p q i j ((q.os.z i).ls.z j).n):=by show iy _ _ _ _ _;rw[<-HQ.out];exact cy.out.tki
 clear f1 f2 f3 f4 f5 f6 f8 f9 b6 bf aw a9 M L E m c0 c1 c2 c3 c4 c5 c6 l2 cy F J av D
 generalize ((q.os.z i).ls.z j).n=NB at *
 have t0:∀d os,(grow (redrawn wr d) os).cell? ⟨w.heap.size,0,none⟩=some (.slice p.ab p.nb p.cb):=λdd os=>Qqq d0 dd os;have t1:∀d os,(grow (redrawn wr d) os).cell? ⟨w.heap.size,1,none⟩=some (.slice p.sa p.ns p.cs):=λdd os=>Qqq d1 dd os;have s0:=Qqq p0;have s1:=Qqq p1;have s2:=Qqq p2;have s3:=Qqq p3;have s4:=Qqq p4;have s5:=Qqq p5;have s6:=Qqq p6;have s7:=Qqq Q;have s8:=Qqq aq;clear d0 d1 p0 p1 p2 p3 p4 p5 p6 aq;go_wp2_with fail;clear P g4 Q;refine i9 [(true,[0,1,2,3,4,5,6,7,8,9,10,11,12,13],some 14),(false,[15,16,17],some 18)] ?_;refine⟨λU=>∃p:Regrown,U=grow (redrawn wr p.d) p.os,Qqx (brf.drew),λh=>(by cases h),?_⟩;simp only[dw,Qyq,Xqq,Qyx,Qyz,Xqz,Xqx]
 repeat(go_big_quiet_step(fail))
 refine Qqz ?_;clear t0 t1 s0 s1 s2 s3 s4 s5 s6 s7 s8;have A:Below wr.heap.size wr wr.drew:=brf.drew
 generalize wr.drew=wj at *
 have dm:Hid (p.At wj):=ct.out.below A;have dr:Hid (ai t.heap.size wj q):=g.out.own.below A;have b5:Hid (t.heap.size<=wj.heap.size):=Qzx g.out.le A.size;have de:Hid (Below y.heap.size y wj):=g.out.bel.trans (A.mono g.out.bel.size);have dq:Hid (Blk wj B 31 7 (λj=>q.cells.getD j default)):=g.out.box.below A;clear A ct g;refine ki 14 rfl ?_;go_wp2_with fail;rw[<-HG.out];refine(J9 p q i j t.heap.size NB (-1) wj dm.out dr.out b5.out df.out).mono ?_;rintro e w8 ⟨x,rfl,T,ds,b9,c7⟩;have HT:Hid (xy p s i (j+1) x):=dl.out x T;have bq:Hid (Blk w8 B 31 7 (λj=>q.cells.getD j default)):=c7 _ _ _ _ (by decide) dq.out;have ff:Hid (ai t.heap.size w8 x):=ds;have fe:Hid (Below y.heap.size y w8):=de.out.trans (b9.mono A1);have e1:Hid (t.heap.size<=w8.heap.size):=Qzx b5.out b9.size;clear T ds b9 c7 dl df dm dr b5 de dq HG
 generalize (Tk.go (avT q i j) NB (fc p (-1))).left=LL at *
 simp only[St.val];go_wp2_with fail;refine⟨λ_=>True,trivial,λ_ _=>trivial,?_⟩;simp only[dw,Qyq,Xqq,Qyx,Qyz,Xqz,Xqx]
 repeat(go_big_quiet_step(fail))
 refine Qqz ?_;have u:=bq.out;have zl:=u.lt;have db:=u.frozen 0;have da:=u.k 0;have cv:=u.frozen 1;have zc1:=u.k 1;have dj:=u.frozen 2;have zc2:=u.k 2;have dn:=u.frozen 3;have zc3:=u.k 3;have cp:=u.frozen 4;have zc4:=u.k 4;have cn:=u.frozen 5;have zc5:=u.k 5;have du:=u.frozen 6;have dv:=u.k 6;clear u;refine ki 18 rfl ?_;go_wp2_with fail;have H:Hid (dg t.heap.size B y x (set7 w8 B (.slice x.on.a x.on.n x.on.c) (.slice x.os.a x.os.n x.os.c) (.slice x.hs.a x.hs.n x.hs.c) (.slice x.ms.a x.ms.n x.ms.c) (.slice x.si.a x.si.n x.si.c) (.slice x.so.a x.so.n x.so.c) (.slice x.sf.a x.sf.n x.sf.c))):=by
  have K:=rp bq.out (.slice x.on.a x.on.n x.on.c) (.slice x.os.a x.os.n x.os.c) (.slice x.hs.a x.hs.n x.hs.c) (.slice x.ms.a x.ms.n x.ms.c) (.slice x.si.a x.si.n x.si.c) (.slice x.so.a x.so.n x.so.c) (.slice x.sf.a x.sf.n x.sf.c);have hb:=na (b:=B) fe.out (Qzx A1 A2) (.slice x.on.a x.on.n x.on.c) (.slice x.os.a x.os.n x.os.c) (.slice x.hs.a x.hs.n x.hs.c) (.slice x.ms.a x.ms.n x.ms.c) (.slice x.si.a x.si.n x.si.c) (.slice x.so.a x.so.n x.so.c) (.slice x.sf.a x.sf.n x.sf.c);exact⟨ai.set7 ff.out bq.out (.slice x.on.a x.on.n x.on.c) (.slice x.os.a x.os.n x.os.c) (.slice x.hs.a x.hs.n x.hs.c) (.slice x.ms.a x.ms.n x.ms.c) (.slice x.si.a x.si.n x.si.c) (.slice x.so.a x.so.n x.so.c) (.slice x.sf.a x.sf.n x.sf.c),K.congr (λj hj=>by match j,hj with|0,_=>rfl|1,_=>rfl|2,_=>rfl|3,_=>rfl|4,_=>rfl|5,_=>rfl|6,_=>rfl),hb,by have:=e1.out;simpa[set7] using this⟩
 unfold set7 at H;refine NoPanic.normal ?_;go_wp2_with fail;go_roundw
 case rel=>exact⟨j+1,x,by omega,by go_num,H,HT,λh=>absurd ap.out h⟩
 case measure=>simp[intOf];omega
theorem Rt{x s:St}(h:ae x s){o:Nat}(a:o<x.os.n){k:Hs}(d:k.n=(dy s.hs (λx=>x.o==(o:Int))).n)(b:∀j,j<k.n->k.z j=(dy s.hs (λx=>x.o==(o:Int))).z j):ae (fk (di (withHolds x k) o 2) o (x.os.z o).ls.n) (dt s o):=
 have c:=Ee h a
 ⟨c.on,c.os,⟨d,b⟩,c.ms,c.si,c.so,c.sf⟩
theorem Mt(p:Pl)(s:St)(order:Int)(w:World)(hp:p.At w)(hs:s.At w):
  Calls prog 34 #[p.val,s.val,.int .i64 order] w λe Q=>∃x:St,e = .returned (.tuple #[x.val,.int .i64 (fu p s order)])/\x.At Q/\dv (fu p s order) (dt s order.toNat) x/\(fu p s order=0->ai w.heap.size Q x)/\Below w.heap.size w Q:=by
 obtain⟨H,hW,e6,X0,Z0⟩:=zd w p s;have HC:=wv hp hs e6 X0 Z0;have HW:=hid hW;have leb:=hp.leb;have cd:=hp.capb;have les:=hp.les;have ck:=hp.caps;have capb:=cd;have caps:=ck;have he:=Z0.lt;unfold maxLen at capb caps;have ht:=hs.os.le;have d9:=hs.os.cap;have et:=d9;unfold maxLen at et;clear hW X0 Z0 hp hs;unfold Pl.val St.val;go_enter func34,ntmps34;go_wp2_with fail;rw[HW.out];obtain⟨X,B,m,r,t⟩:=HC.out H brf;refine(lq p s H B m).mono ?_;rintro e i ⟨rfl,hB⟩;clear X B m r t HW;obtain⟨⟨⟨l1,d0,d1⟩,l2,c0,c1,c2,c3,c4,c5,c6⟩,B,m,r,t⟩:=HC.out i hB;by_cases U:ah p s=0;rotate_left
 .have T:Hid (fu p s order=ah p s):=ur U;have ey:Hid (¬fu p s order=0):=by show ¬_;rw[ur U];exact U
  have g0:(ah p s !=0)=true:=by simpa using U
  clear U;clear B m;obtain⟨zl,bs,bq,bc,zc1,bw,zc2,b0,zc3,a8,zc4,a7,zc5,b9,ca⟩:=z7 t;go_wp2_with fail;exact g9 results34 t r (by omega) T.out (λh=>ey.out (T.out.trans h)) rfl rfl rfl
 have H0:=hid U;have HR:Hid (au p s):=ew U;rw[U];clear U;cases k1:inB order 0 ((s.os.n:Int)-1)
 .have T:Hid (fu p s order=4):=Dc H0.out k1;clear B m;obtain⟨zl,bs,bq,bc,zc1,bw,zc2,b0,zc3,a8,zc4,a7,zc5,b9,ca⟩:=z7 t;go_wp2_with(go_at_call 44;refine ag (cf _ _ _ _) ?_);exact g9 results34 t r (by omega) T.out (by decide) rfl rfl rfl
 have fj:=aq k1;obtain⟨o,rfl⟩:=Qzz fj.1;have ho:o<s.os.n:=by omega
 have q0:(0:Int)<=(o:Int):=by omega
 obtain⟨bo,oo,bl,f0,z0,z1,ff⟩:=m.os.ods o ho;have c8:=hid bl;rw[bl] at c1;clear bl z1 ff;by_cases k2:(s.os.z o).k=2
 .have T:Hid (fu p s (o:Int)=6):=Cx H0.out k1 k2;rw[k2] at z0;clear k2;clear B m;obtain⟨zl,bs,bq,bc,zc1,bw,zc2,b0,zc3,a8,zc4,a7,zc5,b9,ca⟩:=z7 t;go_wp2_with(go_at_call 44;refine ag (cf _ _ _ _) ?_);exact g9 results34 t r (by omega) T.out (by decide) rfl rfl rfl
 have T:Hid (fu p s (o:Int)=0):=Mp H0.out k1 k2;have g2:((s.os.z o).k==2)=false:=by simpa using k2
 clear k2
 generalize (s.os.z o).k=KK at *
 have d8:=hid r.size;have de:Hid (Calls prog 85 #[s.val] i λe Q=>∃s':St,e = .returned s'.val/\ae s' s/\ai i.heap.size Q s'/\Below i.heap.size i Q):=pr p s i m HR.out.fm;clear B m r t;go_wp2_with(go_at_call 44;refine ag (cf _ _ _ _) ?_);rw[<-c8.out];refine Calls.mono de.out ?_;rintro e w4 ⟨f,rfl,Y,b5,av⟩;clear de l1 d0 d1 l2 c0 c1 c2 c3 c4 c5 c6 z0 f0 k1 g2 c8;obtain⟨W5,dm,an,K5⟩:∃W,w4.alloc (.cells #[.slice f.on.a f.on.n f.on.c,.slice f.os.a f.os.n f.os.c,.slice none 0 0,.slice f.ms.a f.ms.n f.ms.c,.slice f.si.a f.si.n f.si.c,.slice f.so.a f.so.n f.so.c,.slice f.sf.a f.sf.n f.sf.c] 31)=W/\Below w4.heap.size w4 W/\Blk W w4.heap.size 31 7 (λj=>(withHolds f ⟨none,0,0,ofL []⟩).cells.getD j default):=⟨_,rfl,brf.alloc nlr _,Blk.mk' rfl rfl⟩;have cm:Hid (w4.alloc (.cells #[.slice f.on.a f.on.n f.on.c,.slice f.os.a f.os.n f.os.c,.slice none 0 0,.slice f.ms.a f.ms.n f.ms.c,.slice f.si.a f.si.n f.si.c,.slice f.so.a f.so.n f.so.c,.slice f.sf.a f.sf.n f.sf.c] 31)=W5):=dm;have ao:=av.trans (an.mono av.size);have cw:=hB.trans (ao.mono hB.size);have D:o<f.os.n:=by rw[Y.os.1];exact ho
 have dn:=hid Y;have A1:H.heap.size<=i.heap.size:=hB.size;have A2:i.heap.size<=w4.heap.size:=av.size;have cq:Hid (dg i.heap.size w4.heap.size H (withHolds f ⟨none,0,0,ofL []⟩) W5):=⟨(ai.below b5 an).withHolds (h:=⟨none,0,0,ofL []⟩) (cz.nil _ _ _ _),K5,cw,ao.size⟩;have P:Hid (fq i.heap.size W5 103 4 none 0):=Or.inl rfl;clear dm b5 K5 av an ao cw Y hB;simp only[St.val];go_wp2_with fail;rw[cm.out]
 generalize w4.heap.size=y at *
 go_loopw [10] (λkv wk=>∃(k:Nat) (h:Hs),k<=s.hs.n/\kv = .int .i64 k/\Hid (dg i.heap.size y H (withHolds f h) wk)/\Hid (fq i.heap.size wk 103 4 h.a h.c)/\Hid (h.n=(n9 s.hs (λx=>x.o==(o:Int)) k).length/\h.z=ofL (n9 s.hs (λx=>x.o==(o:Int)) k))) (λkv _=>s.hs.n-(intOf kv).toNat)
 case atStart=>exact⟨0,⟨none,0,0,ofL []⟩,Qxz _,rfl,cq,P,⟨rfl,rfl⟩⟩
 clear cq P cm;obtain⟨k,h,hk,rfl,g,P,HL⟩:=hrel;obtain⟨⟨⟨l1,d0,d1⟩,l2,c0,c1,c2,c3,c4,c5,c6⟩,B,m,r,t⟩:=HC.out wr g.out.bel;have hr:=m.hs.le;have ex:=m.hs.cap;unfold maxLen at ex;have hi:=HR.out.fm.hs72;by_cases b8:k<s.hs.n
 .have q2:(0:Int)<=(k:Int):=by omega
  have q3:(k:Int)<(s.hs.n:Int):=by omega
  obtain⟨bh,oh,cx,hn,v0,v1,v2,v3⟩:=m.hs.hds k b8;rw[cx] at c2;clear cx B m r t;by_cases S:(s.hs.z k).o=(o:Int)
  .have HN:Hid (h.n=(n9 s.hs (λx=>x.o==(o:Int)) (k+1)).length/\h.z=ofL (n9 s.hs (λx=>x.o==(o:Int)) (k+1))):=by
    show h.n=_/\h.z=_;rw[Uh b8 (by simpa using S)];exact HL.out
   have g3:((s.hs.z k).o !=(o:Int))=false:=by simpa using S
   clear S
   generalize s.hs.z k=Z at *
   go_wp2_with fail;go_roundw
   case rel=>exact⟨k+1,h,by omega,by go_num,g,P,HN⟩
   case measure=>simp[intOf];omega
  have b7:Hid (n9 s.hs (λx=>x.o==(o:Int)) (k+1)=n9 s.hs (λx=>x.o==(o:Int)) k++[s.hs.z k]):=Wv b8 (by simpa using S);have g3:((s.hs.z k).o !=(o:Int))=true:=by simpa using S
  have F:Hid (h.n<=72):=by have:=Vu s.hs (λx=>x.o==(o:Int)) k;have:=HL.out.1;show h.n<=72;omega
  clear S;obtain⟨-,p0,p1,p2,p3,p4,p5,p6⟩:=Boxed.of g.out.box;have dd:wr.cell? ⟨y,2,none⟩=some (.slice h.a h.n h.c):=p2;have HZ:Hid (∃Z,s.hs.z k=Z):=⟨_,rfl⟩
  generalize s.hs.z k=Z at *
  have t1:=Qqq dd;have t2:=Qqq c2;have t3:=Qqq v0;have t4:=Qqq v1;have t5:=Qqq v2;have t6:=Qqq v3;have xl:=g.out.box.lt;clear p0 p1 p2 dd p3 p4 p5 p6 HZ;go_wp2_with fail;clear c0 c1 c2 c3 c4 c5 c6 v0 v1 v2 v3;refine jt (λQ=>∃p:Regrown,Q=grow (redrawn wr p.d) p.os) [0,1,2,3,4,5,6] [] [(false,7),(true,8),(true,9),(true,10)] (Qqx (brf.drew)) ?_;simp only[dw,Qyq,Xqq,Qyx,Qyz,Xqz,Xqx]
  repeat(go_big_quiet_step(fail))
  refine Qqz ?_;clear t1 t2 t3 t4 t5 t6;refine⟨λ_ _ _ _=>True,Qjq _,Qjq _,Qjq _,λV G wj hS _ _ => ?_⟩;have E:=af hS;clear hS;obtain⟨W9,bm,b6,K9⟩:∃W,wj.alloc (.cells #[.int .i64 Z.o,.int .i64 Z.l,.int .i64 Z.b,.int .i64 Z.n] 103)=W/\Below wj.heap.size wj W/\Blk W wj.heap.size 103 4 (λj=>(#[.int .i64 Z.o,.int .i64 Z.l,.int .i64 Z.b,.int .i64 Z.n]:Array Value).getD j default):=⟨_,rfl,brf.alloc nlr _,Blk.mk' rfl rfl⟩;have fy:Hid (wj.alloc (.cells #[.int .i64 Z.o,.int .i64 Z.l,.int .i64 Z.b,.int .i64 Z.n] 103)=W9):=bm;have K:=E.trans (b6.mono E.size);have ab:=hid (g.out.own.below K);have cn:=hid (P.out.below K);have cr:=hid (g.out.box.below K);have br:=hid (g.out.bel.trans (K.mono g.out.bel.size));have aw:Hid (i.heap.size<=W9.heap.size):=Qzx g.out.le K.size;have dh:Hid (∀j u,(df Z)[j]?=some u->W9.cell? ((⟨wj.heap.size,0,none⟩:Addr).add j)=some u):=by rw[<-bm];exact An _ _ _
  have fe:=hid K;clear E b6 K bm K9 g P;simp only[ap];refine dk 7 rfl ?_;go_wp2_with fail;rw[fy.out];refine⟨jq.no (Qqx fe.out),?_⟩;obtain⟨iO,hO,fg,gc,eq⟩:=info_parts Hj;refine dk 8 rfl ?_;go_wp2_with(at_builtin;refine tc W9 rfl (.tmp 54) (.tmp 60) 28 rfl i.heap.size 103 iO (.agg #[.int .i64 0,.int .i64 0,.int .i64 0,.int .i64 0]) 4 32 underlying28 hO fg gc eq rfl (by decide) h.a h.n h.c (ax h.n h.z) rfl cn.out ab.out.hs.1 ab.out.hs.2.1 (ed _ _) ab.out.hs.2.2.2 ⟨wj.heap.size,0,none⟩ 1 1 (df Z) rfl rfl dh.out (zk _) (by decide) ?zc3 ?zc4 ?zc5 ?_)
  case zc3=>have:=F.out;unfold maxLen;omega
  case zc4=>have:=F.out;omega
  case zc5=>exact aw.out
  intro v2 w2 J A;have cs:Hid (∃q:Hs,v2 = .slice q.a q.n q.c/\(q.n=(n9 s.hs (λx=>x.o==(o:Int)) (k+1)).length/\q.z=ofL (n9 s.hs (λx=>x.o==(o:Int)) (k+1)))/\cz i.heap.size 103 w2 q/\fq i.heap.size w2 103 4 q.a q.c):=by
   have e:ax h.n h.z++df Z=ax (n9 s.hs (λx=>x.o==(o:Int)) (k+1)).length (ofL (n9 s.hs (λx=>x.o==(o:Int)) (k+1))):=by
    rw[b7.out,Vp,HL.out.1,HL.out.2]
   have e2:h.n+1=(n9 s.hs (λx=>x.o==(o:Int)) (k+1)).length:=by rw[b7.out,List.length_append,HL.out.1];rfl
   rw[e,e2] at J;obtain⟨q,a1,a2,a3,a4,a5⟩:=cz.ofOwns J (λe3=>by
    rcases J.2 with⟨_,e4⟩|⟨_,_,_,e4,_⟩
    .omega
    rw[e3] at e4;cases e4)
   exact⟨q,a1,⟨a2,a3⟩,a4,a5⟩
  obtain⟨q,rfl,dp,am,dq⟩:=cs.out;have ft:=hid dp;have K2:=A.blk cr.out (by decide);have z1:=K2.lt;have z2:=K2.frozen 2;have z3:=K2.k 2;have cy:=ab.out.moreH A am;have HN:Hid (dg i.heap.size y H (withHolds f q) (w2.setCell ⟨y,2,none⟩ (.slice q.a q.n q.c))):=by
   have eo:=A.below br.out (by omega) br.out.size;exact⟨cy.box K2 2 _,(K2.set 2 _).congr (λj hj=>by match j,hj with|0,_=>rfl|1,_=>rfl|2,_=>rfl|3,_=>rfl|4,_=>rfl|5,_=>rfl|6,_=>rfl),eo.setCell (p:=⟨y,2,none⟩) (by show H.heap.size<=y;omega) _,by
    have h1:=am;have h3:i.heap.size<=w2.heap.size:=Qzx aw.out (A.below (Below.refl i.heap.size W9) nlr aw.out).size
    simpa using h3⟩
  have fd:Hid (fq i.heap.size (w2.setCell ⟨y,2,none⟩ (.slice q.a q.n q.c)) 103 4 q.a q.c):=dq.set _ _ _;clear J A dp am dq K2 cy cs ab cn cr br aw dh b7 HL F;refine mg ⟨jq.yes,?_⟩;refine dk 9 rfl ?_;go_wp2_with fail;refine⟨jq.yes,?_⟩;refine dk 10 rfl ?_;go_wp2_with fail;refine⟨jq.yes,?_⟩;refine NoPanic.normal ?_;go_wp2_with fail;go_roundw
  case rel=>exact⟨k+1,q,by omega,by go_num,HN,fd,ft⟩
  case measure=>simp[intOf];omega
 have c9:k=s.hs.n:=by omega
 have q4:(s.hs.n:Int)<=(k:Int):=by omega
 have HD:Hid (h.n=(dy s.hs (λx=>x.o==(o:Int))).n/\∀j,j<h.n->h.z j=(dy s.hs (λx=>x.o==(o:Int))).z j):=by
  have e:=HL.out;rw[c9] at e;have e2:=Uq s.hs (λx=>x.o==(o:Int));exact⟨e.1.trans e2.1.symm,λj _=>by rw[e.2,e2.2]⟩
 obtain⟨L,g1,g2,g3,g4,g5,g6⟩:=g.out.own.orderCells (o:=o) D;have M:f.os.a=some ⟨L,0,none⟩:=g1;have HG:Hid (f.os.a=some ⟨L,0,none⟩):=M;have u1:wr.cell? ⟨y,1,none⟩=some (.slice f.os.a f.os.n f.os.c):=g.out.box.k 1;have u2:=g.out.box.lt;rw[M] at u1;have gf:=g6 (o*2);have ol:f.os.n<=f.os.c:=g.out.own.os.le;have oc:f.os.c<=maxLen:=g.out.own.os.cap;unfold maxLen at oc;have bi:Hid ((f.os.z o).ls.n<=(f.os.z o).ls.c/\(f.os.z o).ls.c<=maxLen):=by
  have h:=g.out.own.at.os.ods o D;obtain⟨_,_,_,_,_,_,h⟩:=h;exact⟨h.le,h.cap⟩
 have ll:=bi.out.1;have lc:=bi.out.2;unfold maxLen at lc;have HN:Hid (dg i.heap.size y H (fk (di (withHolds f h) o 2) o 0) (wr.setCell ⟨L,o*2,none⟩ (.int .i64 2))):=by
  show dg _ _ _ (fk (di (withHolds f h) o 2) o 0) _;rw[Fp];obtain⟨gq,b1,b2,b3⟩:=g.out.own.os.list (by show 0<f.os.n;omega);have bt:f.os.a=some ⟨gq,0,none⟩:=b1;rw[HG.out] at bt;simp only[Qkx,Qkz,and_true] at bt;subst bt;exact⟨g.out.own.kind (o:=o) D b1 2,g.out.box.other (a:=⟨L,o*2,none⟩) (Blk.ne2 g.out.box b3 (by decide)) _,g.out.bel.setCell (p:=⟨L,o*2,none⟩) (by show H.heap.size<=L;omega) _,by have:=g.out.le;simpa using this⟩
 have F:Hid (∀j,((fk (di (withHolds f h) o 2) o j).os.z o)=⟨2,xe (f.os.z o).ls j⟩):=λj=>by
  rw[wm,uc]
  rfl
 have c7:Hid (∀j,j<(f.os.z o).ls.n->(0<=((f.os.z o).ls.z j).l/\((f.os.z o).ls.z j).l<=200)/\0<=((f.os.z o).ls.z j).b/\((f.os.z o).ls.z j).b<=200):=λj hj=>by
  have e:=dn.out.os.2 o D;have hl:=dz (HR.out.fm.line o ho j (by rw[<-e.2.1];exact hj));rw[e.2.2 j hj];omega
 clear g1 M g6 c9 B m r t HL P bi;go_wp2_with fail;clear g4 g5 gf u1 u2 g l1 d0 d1 l2 c0 c1 c2 c3 c4 c5 c6
 go_loopw [11] (λjv wk=>∃j:Nat,j<=(f.os.z o).ls.n/\jv = .int .i64 j/\Hid (dg i.heap.size y H (fk (di (withHolds f h) o 2) o j) wk)) (λjv _=>(f.os.z o).ls.n-(intOf jv).toNat)
 case atStart=>exact⟨0,Qxz _,rfl,HN⟩
 clear HN;obtain⟨j,hj,rfl,g⟩:=hrel;have u1:wr.cell? ⟨y,1,none⟩=some (.slice f.os.a f.os.n f.os.c):=g.out.box.k 1;have u2:=g.out.box.lt;rw[HG.out] at u1;obtain⟨gq,g1,hm,hq,g4,g5,g6⟩:=g.out.own.orderCells (o:=o) D;have M:f.os.a=some ⟨gq,0,none⟩:=g1;rw[HG.out] at M;simp only[Qkx,Qkz,and_true] at M;subst M;rw[F.out j] at g5;have bg:wr.cell? ⟨L,o*2+1,none⟩=some (.slice (f.os.z o).ls.a (f.os.z o).ls.n (f.os.z o).ls.c):=g5;clear g1 g4 g5 g6;by_cases db:j<(f.os.z o).ls.n;rotate_left
 .have fr:j=(f.os.z o).ls.n:=by omega
  have fz:Hid (ae (fk (di (withHolds f h) o 2) o j) (dt s o)):=by rw[fr];exact Rt dn.out D HD.out.1 HD.out.2
  have q7:((f.os.z o).ls.n:Int)<=(j:Int):=by omega
  have p0:wr.cell? ⟨y,0,none⟩=some (.slice f.on.a f.on.n f.on.c):=g.out.box.k 0;have p2:wr.cell? ⟨y,2,none⟩=some (.slice h.a h.n h.c):=g.out.box.k 2;have p3:wr.cell? ⟨y,3,none⟩=some (.slice f.ms.a f.ms.n f.ms.c):=g.out.box.k 3;have p4:wr.cell? ⟨y,4,none⟩=some (.slice f.si.a f.si.n f.si.c):=g.out.box.k 4;have p5:wr.cell? ⟨y,5,none⟩=some (.slice f.so.a f.so.n f.so.c):=g.out.box.k 5;have p6:wr.cell? ⟨y,6,none⟩=some (.slice f.sf.a f.sf.n f.sf.c):=g.out.box.k 6;obtain⟨-,-,-,r,t⟩:=HC.out wr g.out.bel;have HZ:=qa2 r t;obtain⟨zl,bs,bq,bc,zc1,bw,zc2,b0,zc3,a8,zc4,a7,zc5,b9,ca⟩:=z7 t;clear F c7 HD r t;go_wp2_with fail;have KZ:=rp HZ.out.2 (.slice f.on.a f.on.n f.on.c) (.slice (some ⟨L,0,none⟩) f.os.n f.os.c) (.slice h.a h.n h.c) (.slice f.ms.a f.ms.n f.ms.c) (.slice f.si.a f.si.n f.si.c) (.slice f.so.a f.so.n f.so.c) (.slice f.sf.a f.sf.n f.sf.c);have cp:=na (b:=w.heap.size+2) HZ.out.1 (by omega) (.slice f.on.a f.on.n f.on.c) (.slice (some ⟨L,0,none⟩) f.os.n f.os.c) (.slice h.a h.n h.c) (.slice f.ms.a f.ms.n f.ms.c) (.slice f.si.a f.si.n f.si.c) (.slice f.so.a f.so.n f.so.c) (.slice f.sf.a f.sf.n f.sf.c);have bn:=ai.set7 g.out.own HZ.out.2 (.slice f.on.a f.on.n f.on.c) (.slice (some ⟨L,0,none⟩) f.os.n f.os.c) (.slice h.a h.n h.c) (.slice f.ms.a f.ms.n f.ms.c) (.slice f.si.a f.si.n f.si.c) (.slice f.so.a f.so.n f.so.c) (.slice f.sf.a f.sf.n f.sf.c);unfold set7 at KZ cp bn;obtain⟨e1,gd,e5,gb,er,fn,fa⟩:=co KZ;refine Xzq (v := .tuple #[.agg #[.slice f.on.a f.on.n f.on.c,.slice (some ⟨L,0,none⟩) f.os.n f.os.c,.slice h.a h.n h.c,.slice f.ms.a f.ms.n f.ms.c,.slice f.si.a f.si.n f.si.c,.slice f.so.a f.so.n f.so.c,.slice f.sf.a f.sf.n f.sf.c],.int .i64 0]) (by simp[results,results34,go_sem,e1,gd,e5,gb,er,fn,fa]) rfl ?_;refine⟨fk (di (withHolds f h) o 2) o j,?_,bn.at,⟨λ_=>fz.out,λh=>absurd T.out h⟩,λ_=>bn.mono d8.out,cp⟩;rw[T.out];show _=Ending.returned (.tuple #[.agg #[.slice f.on.a f.on.n f.on.c,.slice f.os.a f.os.n f.os.c,.slice h.a h.n h.c,.slice f.ms.a f.ms.n f.ms.c,.slice f.si.a f.si.n f.si.c,.slice f.so.a f.so.n f.so.c,.slice f.sf.a f.sf.n f.sf.c],.int .i64 0]);rw[HG.out]
 have q5:(0:Int)<=(j:Int):=by omega
 have q6:(j:Int)<((f.os.z o).ls.n:Int):=by omega
 have ga:j<((fk (di (withHolds f h) o 2) o j).os.z o).ls.n:=by rw[F.out];exact db
 obtain⟨gr,BL,f1,f2,f3,f4,f5,f6,f7,f8,f9,fx,dl,bu,bb,cv⟩:=g.out.own.lineCell (o:=o) (l:=j) D ga;rw[F.out] at f5 dl bu bb cv;have bp:(f.os.z o).ls.a=some ⟨BL,0,none⟩:=f5;have dc:Hid (((fk (di (withHolds f h) o 2) o j).os.z o).ls.a=some ⟨BL,0,none⟩):=by show((fk (di (withHolds f h) o 2) o j).os.z o).ls.a=_;rw[F.out];exact bp
 have t:(xe (f.os.z o).ls j).z j=(f.os.z o).ls.z j:=if_neg (Nat.lt_irrefl _);have cb:wr.cell? ⟨BL,j*4+1,none⟩=some (.int .i64 ((f.os.z o).ls.z j).l):=by rw[<-t];exact bu
 have a9:wr.cell? ⟨BL,j*4+2,none⟩=some (.int .i64 ((f.os.z o).ls.z j).b):=by rw[<-t];exact bb
 have eu:Hid (setLine (fk (di (withHolds f h) o 2) o j) o j 3 (((f.os.z o).ls.z j).l-((f.os.z o).ls.z j).b)=fk (di (withHolds f h) o 2) o (j+1)):=by
  have e:((di (withHolds f h) o 2).os.z o).ls.z j=(f.os.z o).ls.z j:=by rw[uc];rfl
  have hh:=Gu (di (withHolds f h) o 2) o j;rw[e] at hh;exact hh
 have hb:=c7.out j db;rw[bp] at bg;have t1:=Qqq u1;have t2:=Qqq bg;have t3:=Qqq cb;have t4:=Qqq a9;clear f1 f2 f3 f4 f5 bp f6 f8 f9 fx dl bu cb bb a9 cv t
 generalize (f.os.z o).ls.z j=Z at *
 go_wp2_with fail;clear u1 bg;refine i9 [(true,[0,1,2,3,4,5,6,7,8,9,10,11,12,13,14,15,16,17,18,19,20,21,22,23,24,25,26,27,28,29],some 30)] ?_;refine⟨λQ=>∃p:Regrown,Q=grow (redrawn wr p.d) p.os,Qqx (brf.drew),λh=>(by cases h),?_⟩;simp only[dw,Qyq,Xqq,Qyx,Qyz,Xqz,Xqx]
 repeat(go_big_quiet_step(fail))
 refine Qqz ?_;clear t1 t2 t3 t4;have E:Below wr.heap.size wr wr.drew:=brf.drew
 generalize wr.drew=wj at *
 have bx:=g.out.own.below E;have Kj:=g.out.box.below E;have cu:=g.out.bel.trans (E.mono g.out.bel.size);have da:=Qzx g.out.le E.size;obtain⟨Bq,ar,hg,-,-,ak⟩:=bx.os.lines o D;rw[dc.out] at ar;simp only[Qkx,Qkz,and_true] at ar;subst ar;have zl:=ak.lt;have zf:=ak.frozen (j*4+3);have zc:=ak.cell (j:=j*4+3) (by omega);have bj:=bx.setLine (o:=o) D dc.out j 3 (by decide) (Z.l-Z.b);have ct:=Kj.other (a:=⟨BL,j*4+3,none⟩) (Blk.ne2 Kj ak (by decide)) (.int .i64 (Z.l-Z.b));have dj:=cu.setCell (p:=⟨BL,j*4+3,none⟩) (by show H.heap.size<=BL;omega) (.int .i64 (Z.l-Z.b));rw[eu.out] at bj;have HN:Hid (dg i.heap.size y H (fk (di (withHolds f h) o 2) o (j+1)) (wj.setCell ⟨BL,j*4+3,none⟩ (.int .i64 (Z.l-Z.b)))):=⟨bj,ct,dj,by simpa using da⟩;clear bx Kj cu da ak bj ct dj E g
 generalize (ax ((fk (di (withHolds f h) o 2) o j).os.z o).ls.n ((fk (di (withHolds f h) o 2) o j).os.z o).ls.z).getD (j*4+3) default=VV at zc
 refine ki 30 rfl ?_;go_wp2_with fail;refine NoPanic.normal ?_;go_wp2_with fail;go_roundw
 case rel=>exact⟨j+1,by omega,by go_num,HN⟩
 case measure=>simp[intOf];omega
def vk(s:St)(h:Hs)(o l b g:Nat)(n k:Int):St:=setLine (setLine (setLine (setLine (withHolds (setOut (setOn s b g ((s.on.r b).z g-n)) g (s.so.z g+n)) h) o l 0 g) o l 1 ((s.os.z o).ls.z l).l) o l 2 (((s.os.z o).ls.z l).b+n)) o l 3 (((s.os.z o).ls.z l).n+k-n)
theorem Vi(s:St)(h:Hs)(o l b g:Nat)(n k:Int)(i j:Nat):((vk s h o l b g n k).os.z i).ls.z j=if i=o/\j=l then ⟨g,((s.os.z o).ls.z l).l,((s.os.z o).ls.z l).b+n,((s.os.z o).ls.z l).n+k-n⟩ else(s.os.z i).ls.z j:=by
 unfold vk;rw[oq,oq,oq,oq];by_cases c:i=o/\j=l
 .rw[if_pos c,if_pos c,if_pos c,if_pos c,if_pos c]
  rfl
 rw[if_neg c,if_neg c,if_neg c,if_neg c,if_neg c]
 rfl
theorem Nb(s:St)(h:Hs)(o l b g:Nat)(n k:Int)(i:Nat):((vk s h o l b g n k).os.z i).k=(s.os.z i).k/\((vk s h o l b g n k).os.z i).ls.n=(s.os.z i).ls.n/\((vk s h o l b g n k).os.z i).ls.a=(s.os.z i).ls.a/\((vk s h o l b g n k).os.z i).ls.c=(s.os.z i).ls.c:=by
 unfold vk;rw[qy,qy,qy,qy,(dp i).1,(dp i).1,(dp i).1,(dp i).1,(dp i).2.1,(dp i).2.1,(dp i).2.1,(dp i).2.1,(dp i).2.2,(dp i).2.2,(dp i).2.2,(dp i).2.2];exact⟨rfl,rfl,rfl,rfl⟩
theorem Ul{p:Pl}{x s:St}(e:ae x s){o l b:Nat}{n:Int}(a:ot p s o l b){h:Hs}(f:h.n=(mn s.hs o l b).n)(g:∀j,j<h.n->h.z j=(mn s.hs o l b).z j):ae (vk x h o l b (ce s o l) n (ev s o l b)) (ch s o l b n):=by
 have w:=Gl (n:=n) e a f g;refine⟨w.on,⟨w.os.1,λi hi => ?_⟩,⟨f,g⟩,w.ms,w.si,w.so,w.sf⟩;have d:i<x.os.n:=hi;have k:=e.os.2 i d;have hs:i<s.os.n:=by rw[<-e.os.1];exact d
 rw[(Nb x h o l b (ce s o l) n (ev s o l b) i).1,(Nb x h o l b (ce s o l) n (ev s o l b) i).2.1,(mu s o l b n i).1,(mu s o l b n i).2];refine⟨k.1,k.2.1,λj m => ?_⟩;rw[Vi,sx];by_cases c:i=o/\j=l
 .rw[if_pos c,if_pos c,e.line a.on a.ln,<-a.good.1]
  congr 1
  omega
 rw[if_neg c,if_neg c];exact k.2.2 j m
theorem lg.got{p:Pl}{but:Int}{y x:St}{i j:Nat}{n:Int}(T:lg p but y i j n x){o:Nat}(b:o<y.os.n):j5 x o=j5 y o:=by
 have a:ep y i j n (Tk.go (avT y i j) n (fc p but)) x:=T;have k:=a.os.2 o (by rw[a.os.1];exact b);unfold j5;rw[k.2.1]
 congr 1
 refine nz λq c => ?_;rw[a.line b c]
 split<;>rfl
theorem Pd(p:Pl)(s:St)(order line bin n:Int)(w:World)(hp:p.At w)(hs:s.At w):
  Calls prog 35 #[p.val,s.val,.int .i64 order,.int .i64 line,.int .i64 bin,.int .i64 n] w λe S=>∃x:St,e = .returned (.tuple #[x.val,.int .i64 (ir p s order line bin n)])/\x.At S/\dv (ir p s order line bin n) (pb p s order.toNat line.toNat bin.toNat n) x/\(ir p s order line bin n=0->ai w.heap.size S x)/\Below w.heap.size w S:=by
 obtain⟨F,hW,j8,X0,Z0⟩:=zd w p s;have HC:=wv hp hs j8 X0 Z0;have HW:=hid hW;have leb:=hp.leb;have fl:=hp.capb;have les:=hp.les;have fh:=hp.caps;have capb:=fl;have caps:=fh;have la:=Z0.lt;unfold maxLen at capb caps;have mk:=hs.os.le;have i1:=hs.os.cap;unfold maxLen at i1;clear hW X0 Z0 hp hs;unfold Pl.val St.val;go_enter func35,ntmps35;go_wp2_with fail;rw[HW.out];obtain⟨X,L,D,B,J⟩:=HC.out F brf;refine(lq p s F L D).mono ?_;rintro e w1 ⟨rfl,hB⟩;clear X L D B J HW;obtain⟨⟨⟨l1,d0,d1⟩,l2,c0,c1,c2,c3,c4,c5,c6⟩,L,D,B,J⟩:=HC.out w1 hB;by_cases h0:ah p s=0;rotate_left
 .have HX:Hid (ir p s order line bin n=ah p s):=yg h0;have i2:Hid (¬ir p s order line bin n=0):=by show ¬_;rw[yg h0];exact h0
  have g0:(ah p s !=0)=true:=by simpa using h0
  clear h0;clear L D;obtain⟨zl,ad,U,ac,zc1,ak,zc2,Y,zc3,bc,zc4,ba,zc5,bh,bb⟩:=z7 J;go_wp2_with fail;exact g9 results35 J B (by omega) HX.out (λh=>i2.out (HX.out.trans h)) rfl rfl rfl
 have H0:Hid (ah p s=0):=h0;have HR:Hid (au p s):=ew h0;rw[h0];clear h0;have gc:Hid (s.hs.At w1):=D.hs;clear L D B J;go_wp2_with fail;refine(Q4 s.hs order line bin w1 gc.out).mono ?_;rintro e H ⟨rfl,gt⟩;clear gc l1 d0 d1 l2 c0 c1 c2 c3 c4 c5 c6;have ay:=hB.trans (gt.mono hB.size);obtain⟨⟨⟨l1,d0,d1⟩,l2,c0,c1,c2,c3,c4,c5,c6⟩,L,D,B,J⟩:=HC.out H ay;clear gt hB;by_cases h1:keptV s.hs.n s.hs.z order line bin=0
 .have HX:Hid (ir p s order line bin n=4):=F6 H0.out h1;have d3:(keptV s.hs.n s.hs.z order line bin==0)=true:=by simpa using h1
  generalize keptV s.hs.n s.hs.z order line bin=KV at *
  clear h1;clear L D;obtain⟨zl,ad,U,ac,zc1,ak,zc2,Y,zc3,bc,zc4,ba,zc5,bh,bb⟩:=z7 J;go_wp2_with fail;exact g9 results35 J B (by omega) HX.out (by decide) rfl rfl rfl
 have d3:(keptV s.hs.n s.hs.z order line bin==0)=false:=by simpa using h1
 cases h2:inB n 0 (keptV s.hs.n s.hs.z order line bin)
 .have HX:Hid (ir p s order line bin n=3):=D8 H0.out h1 h2;clear h1
  generalize keptV s.hs.n s.hs.z order line bin=KV at *
  clear L D;obtain⟨zl,ad,U,ac,zc1,ak,zc2,Y,zc3,bc,zc4,ba,zc5,bh,bb⟩:=z7 J;go_wp2_with(go_at_call 44;refine ag (cf _ _ _ _) ?_);exact g9 results35 J B (by omega) HX.out (by decide) rfl rfl rfl
 obtain⟨o,l,b,rfl,rfl,rfl,hi⟩:=Mf HR.out h1;have HI:Hid (ot p s o l b):=hi;have gd:=HI.out.good;have bd:=HI.out.bd;have nn:=aq h2;have ho:=HI.out.on;have hl:=HI.out.ln;have hb:=HI.out.bn;obtain⟨g,hg⟩:∃g,ce s o l=g:=⟨_,rfl⟩;have HG:Hid (ce s o l=g):=hg;rw[hg] at gd;have gl:=gd.2;obtain⟨bo,oo,dq,jz,z0,z1,c9⟩:=D.os.ods o ho;obtain⟨bl,ol,hc,jm,y0,y1,y2,y3⟩:=c9.hds l hl;have ll:=c9.le;have lc:=c9.cap;unfold maxLen at lc;have son:=HR.out.fm.son;obtain⟨bs,os,dt,ku,kq⟩:=D.so.ints g (by omega);have l5:=D.so.le;have ju:=D.so.cap;unfold maxLen at ju;have gy:Hid (s.so.a=some ⟨bs,os,none⟩):=dt;have gm:Hid (s.os.a=some ⟨bo,oo,none⟩):=dq;rw[gd.1] at y0;rw[dq] at c1;rw[hc] at z1;rw[dt] at c5;have q0:(0:Int)<=(o:Int):=by omega
 have q1:(o:Int)<(s.os.n:Int):=by omega
 have q2:(0:Int)<=(l:Int):=by omega
 have q3:(l:Int)<((s.os.z o).ls.n:Int):=by omega
 have q4:(0:Int)<=(g:Int):=by omega
 have sg:g<s.so.n:=by omega
 have q5:(g:Int)<(s.so.n:Int):=by omega
 have sob:=HR.out.fm.sob g gl;have H1:Hid (¬ev s o l b=0):=h1;have H2:Hid (inB n 0 (ev s o l b)=true):=h2;have jb:1<=keptV s.hs.n s.hs.z o l b/\keptV s.hs.n s.hs.z o l b<=200:=⟨bd.1,bd.2.1⟩;clear dq hc c9 dt y1 y2 y3 z0 gd bd hi hg h1 son;by_cases h3:1048576<s.so.z g+n
 .have HX:Hid (ir p s o l b n=2):=Ft H0.out H1.out H2.out (by show 1048576<s.so.z (ce s o l)+n;rw[HG.out];exact h3)
  generalize keptV s.hs.n s.hs.z o l b=KV at *
  clear L D;obtain⟨zl,ad,U,ac,zc1,ak,zc2,Y,zc3,bc,zc4,ba,zc5,bh,bb⟩:=z7 J;go_wp2_with(go_at_call 44;refine ag (cf _ _ _ _) ?_);exact g9 results35 J B (by omega) HX.out (by decide) rfl rfl rfl
 have HX:Hid (ir p s o l b n=0):=P5 H0.out H1.out H2.out (by show ¬1048576<s.so.z (ce s o l)+n;rw[HG.out];exact h3);have cr:Hid (k9 p s o l b n):=by
  have h:=Lm HX.out;obtain⟨-,o',l',b',e1,e2,e3,h⟩:=h;have bz:o'=o:=by omega
  have kd:l'=l:=by omega
  have k0:b'=b:=by omega
  rw[bz,kd,k0] at h;exact h
 have d6:Hid (w.heap.size<=H.heap.size):=B.size;have hq:Hid (Calls prog 85 #[s.val] H λe S=>∃s':St,e = .returned s'.val/\ae s' s/\ai H.heap.size S s'/\Below H.heap.size H S):=pr p s H D HR.out.fm;obtain⟨K,hK⟩:∃K,keptV s.hs.n s.hs.z o l b=K:=⟨_,rfl⟩;have HK:Hid (ev s o l b=K):=hK;rw[hK] at jb h2 nn d3 ⊢;clear L D B J hK;go_wp2_with(go_at_call 44;refine ag (cf _ _ _ _) ?_);rw[<-gm.out,<-gy.out];refine Calls.mono hq.out ?_;rintro e w4 ⟨i,rfl,E,ef,c7⟩;clear hq l1 d0 d1 l2 c0 c1 c2 c3 c4 c5 c6 z1 jz jm ku y0 kq h2 gm gy d3;have ap:o<i.os.n:=by rw[E.os.1];exact ho
 have xk:=E.os.2 o ap;have jw:l<(i.os.z o).ls.n:=by rw[xk.2.1];exact hl
 have cw:b<i.on.n:=by rw[E.on.1,HR.out.fm.sh.n];exact hb
 have ga:g<(i.on.r b).n:=by rw[(E.on.2 b cw).1,HR.out.fm.sh.len b (by rw[HR.out.fm.sh.n];exact hb)];exact gl
 have em:g<i.so.n:=by rw[E.so.1];exact sg
 have Q:Hid (ae i s):=E;have gg:Hid ((0<=(i.on.r b).z g/\(i.on.r b).z g<=200)/\(0<=i.so.z g/\i.so.z g<=1048576)/\(0<=((i.os.z o).ls.z l).b/\((i.os.z o).ls.z l).b<=200)/\0<=((i.os.z o).ls.z l).n/\((i.os.z o).ls.z l).n<=200):=by
  have f:=HR.out.fm;have bl:=dz (f.line o ho l hl);refine⟨?_,?_,?_⟩
  .rw[E.num f hb gl];exact f.sh.num b (by rw[f.sh.n];exact hb) g gl
  .rw[E.so.2 g em];exact f.sob g gl
  rw[E.line ho hl];omega
 have v0:=gg.out;obtain⟨W5,gp,cj,K5⟩:=ab7 w4 i;have fz:=hid gp;have cd:=c7.trans (cj.mono c7.size);have hm:=ay.trans (cd.mono ay.size);have A1:F.heap.size<=H.heap.size:=ay.size;have A3:H.heap.size<=w4.heap.size:=c7.size;have bu:Hid (dg H.heap.size w4.heap.size F i W5):=⟨ai.below ef cj,K5,hm,by have:=cd.size;omega⟩;clear gp ef K5 c7 cj cd hm E ay xk gg;simp only[St.val];go_wp2_with fail;rw[fz.out];clear fz
 generalize w4.heap.size=q at *
 -- what lies there
 obtain⟨g0,G,a1,a2,a3,a4,a5,a6,a7,a8,a9,i4,mc,j7⟩:=bu.out.own.onCell cw ga;have u0:W5.cell? ⟨q,0,none⟩=some (.slice i.on.a i.on.n i.on.c):=bu.out.box.k 0;have ab:=bu.out.box.lt;rw[a1] at u0;unfold maxLen at a8 j7;have r0:(0:Int)<=(b:Int):=by omega
 have r1:(b:Int)<(i.on.n:Int):=by omega
 have r2:(g:Int)<((i.on.r b).n:Int):=by omega
 have d7:Hid ((i.on.r b).a=some ⟨G,0,none⟩):=a4;clear a1 a4 i4;have i3:=Qqq u0;have ky:=Qqq a3;have j2:=Qqq a9;go_wp2_with fail;refine i9 [(true,[0,1,2,3,4,5,6,7,8,9,10,11,12,13,14,15,16],some 17)] ?_;refine⟨λS=>∃p:Regrown,S=grow (redrawn W5 p.d) p.os,Qqx (brf.drew),λh=>(by cases h),?_⟩;simp only[dw,Qyq,Xqq,Qyx,Qyz,Xqz,Xqx]
 repeat(go_big_quiet_step(fail))
 refine Qqz ?_;clear i3 ky j2 u0 a3 a9;have an:Below W5.heap.size W5 W5.drew:=brf.drew
 generalize W5.drew=wj at *
 have m:=bu.out.below an;obtain⟨Gq,b1,b2,b3,b4,b5⟩:=m.own.rows b cw;rw[d7.out] at b1;simp only[Qkx,Qkz,and_true] at b1;subst b1;have zl:=b5.lt;have zf:=b5.frozen g;have zc:=b5.cell (j:=g) ga;have b0:Hid (dg H.heap.size q F (setOn i b g ((i.on.r b).z g-n)) (wj.setCell ⟨G,g,none⟩ (.int .i64 ((i.on.r b).z g-n)))):=⟨m.own.setOn (b:=b) cw d7.out g _,m.box.other (a:=⟨G,g,none⟩) (Blk.ne2 m.box b5 (by decide)) _,m.bel.setCell (p:=⟨G,g,none⟩) (by show F.heap.size<=G;omega) _,by have:=m.le;simpa using this⟩;clear m b2 b3 b4 b5 an bu d7 a2 a5 a6 ab;refine ki 17 rfl ?_;go_wp2_with fail;refine NoPanic.normal ?_;clear zl zf zc
 generalize wj.setCell ⟨G,g,none⟩ (.int .i64 ((i.on.r b).z g-n))=W6 at *
 clear wj
 -- what went
 obtain⟨GS,e1,e2,e3,e4,e5,e6,e7⟩:=b0.out.own.so.cellAt (g:=g) em;have bz:i.so.a=some ⟨GS,0,none⟩:=e1;have u5:W6.cell? ⟨q,5,none⟩=some (.slice i.so.a i.so.n i.so.c):=b0.out.box.k 5;have ab:=b0.out.box.lt;rw[bz] at u5;have l6:i.so.n<=i.so.c:=e4;have i7:i.so.c<=maxLen:=e5;have gb:W6.cell? ⟨GS,g,none⟩=some (.int .i64 (i.so.z g)):=e6;unfold maxLen at i7;have r3:(g:Int)<(i.so.n:Int):=by omega
 have eb:Hid (i.so.a=some ⟨GS,0,none⟩):=bz;clear e1 bz e4 e5 e6 e7;have ji:=Qqq u5;have jp:=Qqq gb;go_wp2_with fail;refine i9 [(true,[0,1,2,3,4,5,6,7,8,9,10],some 11)] ?_;refine⟨λS=>∃p:Regrown,S=grow (redrawn W6 p.d) p.os,Qqx (brf.drew),λh=>(by cases h),?_⟩;simp only[dw,Qyq,Xqq,Qyx,Qyz,Xqz,Xqx]
 repeat(go_big_quiet_step(fail))
 refine Qqz ?_;clear ji jp u5 gb;have an:Below W6.heap.size W6 W6.drew:=brf.drew
 generalize W6.drew=wj at *
 have m:=b0.out.below an;obtain⟨Gq,b1,b2,b3,b4,b5⟩:=m.own.so;have e9:i.so.a=some ⟨Gq,0,none⟩:=b1;rw[eb.out] at e9;simp only[Qkx,Qkz,and_true] at e9;subst e9;have zl:=b5.lt;have zf:=b5.frozen g;have zc:wj.cell? ⟨GS,g,none⟩=some (.int .i64 (i.so.z g)):=b5.cell (j:=g) em;have bk:Hid (dg H.heap.size q F (setOut (setOn i b g ((i.on.r b).z g-n)) g (i.so.z g+n)) (wj.setCell ⟨GS,g,none⟩ (.int .i64 (i.so.z g+n)))):=⟨m.own.setOut eb.out g _,m.box.other (a:=⟨GS,g,none⟩) (Blk.ne2 m.box b5 (by decide)) _,m.bel.setCell (p:=⟨GS,g,none⟩) (by show F.heap.size<=GS;omega) _,by have:=m.le;simpa using this⟩;clear m b1 b2 b3 b4 b5 an b0 eb e2 e3 ab;refine ki 11 rfl ?_;go_wp2_with fail;refine NoPanic.normal ?_;clear zl zf;have wl:=bk.out.box.lt;have u2:(wj.setCell ⟨GS,g,none⟩ (.int .i64 (i.so.z g+n))).cell? ⟨q,2,none⟩=some (.slice i.hs.a i.hs.n i.hs.c):=bk.out.box.k 2
 generalize wj.setCell ⟨GS,g,none⟩ (.int .i64 (i.so.z g+n))=W7 at *
 clear zc
 -- the hold
 go_wp2_with fail;clear u2 wl;have hh:Hid (Calls prog 88 #[.slice i.hs.a i.hs.n i.hs.c,.int .i64 (o:Int),.int .i64 (l:Int),.int .i64 (b:Int),.int .i64 0] W7 λe S=>∃s':Hs,e = .returned s'.val/\cz W7.heap.size 103 S s'/\(s'.n=(mn s.hs o l b).n/\∀j,j<s'.n->s'.z j=(mn s.hs o l b).z j)/\Below W7.heap.size W7 S):=by
  have ct:aw i.hs.n (da i.hs.z)=false:=(Q.out.formed HR.out.fm).hold;have j1:¬keptV i.hs.n i.hs.z o l b=0:=by
   rw[Q.out.hs.1,yb λj hj=>Q.out.hs.2 j (by rw[Q.out.hs.1];exact hj)];exact H1.out
  obtain⟨p1,p2,p3,p4,p5⟩:=rm ct j1;have fx:=bw ct _ p1;have hk:=Dt (n:=0) p2;have h:=Kv i.hs ⟨o,l,b,0⟩ (jg i.hs.n i.hs.z o l b) W7 bk.out.own.hs.at ct (Xt p2 fx) p1 hk rfl (λj hj=>by rw[<-hk];exact p4 j hj) (λj hj ja=>by rw[<-hk];exact p5 j hj ja);refine Calls.mono h λe S => ?_;rintro⟨s',rfl,q1,q2,q3,q4⟩;have ei:jg i.hs.n i.hs.z o l b=jg s.hs.n s.hs.z o l b:=by
   obtain⟨s1,s2,-⟩:=rm HR.out.fm.hold H1.out;exact((nl ct (k:=jg s.hs.n s.hs.z o l b) (by rw[Q.out.hs.1];exact s1) (by rw[Q.out.hs.2 _ (by rw[Q.out.hs.1];exact s1)];exact s2)).2)
  refine⟨s',rfl,q1,⟨by rw[q2,Q.out.hs.1];rfl,λj hj => ?_⟩,q4⟩;rw[q3,ei];show fs i.hs.z _ j=fs s.hs.z _ j;have md:j<i.hs.n-1:=by rw[<-q2];exact hj
  unfold fs
  split
  .exact Q.out.hs.2 j (by omega)
  exact Q.out.hs.2 (j+1) (by omega)
 refine Calls.mono hh.out ?_;rintro e P ⟨hd,rfl,gz,g7,bm⟩;have ht:Hid (hd.n=(mn s.hs o l b).n/\∀j,j<hd.n->hd.z j=(mn s.hs o l b).z j):=g7;have m:=bk.out.below bm;have zl:=m.box.lt;have zf:=m.box.frozen 2;have zc:=m.box.k 2;have a0:Hid (dg H.heap.size q F (withHolds (setOut (setOn i b g ((i.on.r b).z g-n)) g (i.so.z g+n)) hd) (P.setCell ⟨q,2,none⟩ (.slice hd.a hd.n hd.c))):=⟨(m.own.withHolds (gz.mono bk.out.le)).box m.box 2 _,(m.box.set 2 (.slice hd.a hd.n hd.c)).congr (λj hj=>by match j,hj with|0,_=>rfl|1,_=>rfl|2,_=>rfl|3,_=>rfl|4,_=>rfl|5,_=>rfl|6,_=>rfl),m.bel.setCell (p:=⟨q,2,none⟩) (by show F.heap.size<=q;omega) _,by have:=m.le;simpa using this⟩;clear m gz g7 bm hh bk
 -- the line
 obtain⟨gO,u,f1,f2,f3,f4,f5,f6,f7,f8,f9,fd,cs,b9,b6,c8⟩:=a0.out.own.lineCell (o:=o) (l:=l) ap jw;have eu:i.os.a=some ⟨gO,0,none⟩:=f1;have hf:Hid (i.os.a=some ⟨gO,0,none⟩):=eu;have br:Hid ((i.os.z o).ls.a=some ⟨u,0,none⟩):=f5;have u1:(P.setCell ⟨q,2,none⟩ (.slice hd.a hd.n hd.c)).cell? ⟨q,1,none⟩=some (.slice i.os.a i.os.n i.os.c):=a0.out.box.k 1;rw[eu] at u1;have gn:(P.setCell ⟨q,2,none⟩ (.slice hd.a hd.n hd.c)).cell? ⟨gO,o*2+1,none⟩=some (.slice (some ⟨u,0,none⟩) (i.os.z o).ls.n (i.os.z o).ls.c):=f4;have mj:(i.os.z o).ls.n<=(i.os.z o).ls.c:=f8;have kb:(i.os.z o).ls.c<=maxLen:=f9;have hw:(P.setCell ⟨q,2,none⟩ (.slice hd.a hd.n hd.c)).cell? ⟨u,l*4,none⟩=some (.int .i64 ((i.os.z o).ls.z l).o):=cs;have h8:(P.setCell ⟨q,2,none⟩ (.slice hd.a hd.n hd.c)).cell? ⟨u,l*4+1,none⟩=some (.int .i64 ((i.os.z o).ls.z l).l):=b9;have ip:(P.setCell ⟨q,2,none⟩ (.slice hd.a hd.n hd.c)).cell? ⟨u,l*4+2,none⟩=some (.int .i64 ((i.os.z o).ls.z l).b):=b6;have ie:(P.setCell ⟨q,2,none⟩ (.slice hd.a hd.n hd.c)).cell? ⟨u,l*4+3,none⟩=some (.int .i64 ((i.os.z o).ls.z l).n):=c8;have mh:i.os.n<=i.os.c:=a0.out.own.os.le;have jx:i.os.c<=maxLen:=a0.out.own.os.cap;unfold maxLen at kb jx;have ab:=a0.out.box.lt;have r4:(o:Int)<(i.os.n:Int):=by omega
 have r5:(l:Int)<((i.os.z o).ls.n:Int):=by omega
 clear f1 eu f2 f4 f5 f6 f8 f9 fd cs b9 b6 c8;obtain⟨W9,f0,az,K9⟩:∃W,(P.setCell ⟨q,2,none⟩ (.slice hd.a hd.n hd.c)).alloc (.cells #[.int .i64 ((i.os.z o).ls.z l).o,.int .i64 ((i.os.z o).ls.z l).l,.int .i64 ((i.os.z o).ls.z l).b,.int .i64 ((i.os.z o).ls.z l).n] 68)=W/\Below (P.setCell ⟨q,2,none⟩ (.slice hd.a hd.n hd.c)).heap.size (P.setCell ⟨q,2,none⟩ (.slice hd.a hd.n hd.c)) W/\Blk W (P.setCell ⟨q,2,none⟩ (.slice hd.a hd.n hd.c)).heap.size 68 4 (λj=>(#[.int .i64 ((i.os.z o).ls.z l).o,.int .i64 ((i.os.z o).ls.z l).l,.int .i64 ((i.os.z o).ls.z l).b,.int .i64 ((i.os.z o).ls.z l).n]:Array Value).getD j default):=⟨_,rfl,brf.alloc nlr _,Blk.mk' rfl rfl⟩;have ge:Hid ((P.setCell ⟨q,2,none⟩ (.slice hd.a hd.n hd.c)).alloc (.cells #[.int .i64 ((i.os.z o).ls.z l).o,.int .i64 ((i.os.z o).ls.z l).l,.int .i64 ((i.os.z o).ls.z l).b,.int .i64 ((i.os.z o).ls.z l).n] 68)=W9):=f0;have cv:Hid (dg H.heap.size q F (withHolds (setOut (setOn i b g ((i.on.r b).z g-n)) g (i.so.z g+n)) hd) W9):=a0.out.below az;have dy:W9.cell? ⟨q,1,none⟩=some (.slice i.os.a i.os.n i.os.c):=cv.out.box.k 1;have h6:=cv.out.box.lt;rw[hf.out] at dy;have kr:gO<W9.heap.size:=Xzx f3 az.size;have kf:u<W9.heap.size:=Xzx f7 az.size;have gx:W9.cell? ⟨gO,o*2+1,none⟩=some (.slice (some ⟨u,0,none⟩) (i.os.z o).ls.n (i.os.z o).ls.c):=(az.cell (p:=⟨gO,o*2+1,none⟩) f3).trans gn;have ec:W9.cell? ⟨(P.setCell ⟨q,2,none⟩ (.slice hd.a hd.n hd.c)).heap.size,1,none⟩=some (.int .i64 ((i.os.z o).ls.z l).l):=K9.k 1;have d5:W9.cell? ⟨(P.setCell ⟨q,2,none⟩ (.slice hd.a hd.n hd.c)).heap.size,2,none⟩=some (.int .i64 ((i.os.z o).ls.z l).b):=K9.k 2;have er:W9.cell? ⟨(P.setCell ⟨q,2,none⟩ (.slice hd.a hd.n hd.c)).heap.size,3,none⟩=some (.int .i64 ((i.os.z o).ls.z l).n):=K9.k 3;have gf:=K9.lt;clear f0 az K9;simp only[Hs.val];go_wp2_with fail;rw[ge.out];clear u1 gn hw h8 ip ie f3 f7 ab zl zf zc ge a0;have eo:(P.setCell ⟨q,2,none⟩ (.slice hd.a hd.n hd.c)).heap.size=P.heap.size:=by simp
 rw[eo] at ec d5 er gf
 try rw[eo]
 clear eo;have im:=Qqq dy;have h9:=Qqq gx;have ik:=Qqq ec;have ii:=Qqq d5;have ic:=Qqq er;go_wp2_with fail;refine i9 [(true,[0,1,2,3,4,5,6,7,8,9,10,11,12,13,14,15,16,17,18,19,20,21],some 22)] ?_;refine⟨λS=>∃p:Regrown,S=grow (redrawn W9 p.d) p.os,Qqx (brf.drew),λh=>(by cases h),?_⟩;simp only[dw,Qyq,Xqq,Qyx,Qyz,Xqz,Xqx]
 repeat(go_big_quiet_step(fail))
 refine Qqz ?_;clear im h9 ik ii ic dy gx ec d5 er gf;have an:Below W9.heap.size W9 W9.drew:=brf.drew
 generalize W9.drew=wj at *
 have m:=cv.out.below an;obtain⟨Bq,du,kk,-,-,M⟩:=m.own.os.lines o ap;have ck:(i.os.z o).ls.a=some ⟨Bq,0,none⟩:=du;rw[br.out] at ck;simp only[Qkx,Qkz,and_true] at ck;subst ck;have zl:=M.lt;have ad:=M.frozen (l*4);have ac:=M.frozen (l*4+1);have ak:=M.frozen (l*4+2);have Y:=M.frozen (l*4+3);have ks:l*4+3<(i.os.z o).ls.n*4:=by omega
 have U:=M.cell (j:=l*4) (by show l*4<(i.os.z o).ls.n*4;omega);have zc1:=M.cell (j:=l*4+1) (by show l*4+1<(i.os.z o).ls.n*4;omega);have zc2:=M.cell (j:=l*4+2) (by show l*4+2<(i.os.z o).ls.n*4;omega);have zc3:=M.cell (j:=l*4+3) ks;have s1:=m.own.setLine (o:=o) ap br.out l 0 (by decide) (g:Int);have s2:=s1.setLine (o:=o) ap (by rw[(dp o).2.1];exact br.out) l 1 (by decide) ((i.os.z o).ls.z l).l;have s3:=s2.setLine (o:=o) ap (by rw[(dp o).2.1,(dp o).2.1];exact br.out) l 2 (by decide) (((i.os.z o).ls.z l).b+n);have s4:=s3.setLine (o:=o) ap (by rw[(dp o).2.1,(dp o).2.1,(dp o).2.1];exact br.out) l 3 (by decide) (((i.os.z o).ls.z l).n+K-n);have cy:q≠u:=Blk.ne2 m.box M (by decide);have V:Hid (dg H.heap.size q F (vk i hd o l b g n K) ((((wj.setCell ⟨u,l*4,none⟩ (.int .i64 (g:Int))).setCell ⟨u,l*4+1,none⟩ (.int .i64 ((i.os.z o).ls.z l).l)).setCell ⟨u,l*4+2,none⟩ (.int .i64 (((i.os.z o).ls.z l).b+n))).setCell ⟨u,l*4+3,none⟩ (.int .i64 (((i.os.z o).ls.z l).n+K-n)))):=⟨s4,(((m.box.other (a:=⟨u,l*4,none⟩) cy _).other (a:=⟨u,l*4+1,none⟩) cy _).other (a:=⟨u,l*4+2,none⟩) cy _).other (a:=⟨u,l*4+3,none⟩) cy _,(((m.bel.setCell (p:=⟨u,l*4,none⟩) (by show F.heap.size<=u;omega) _).setCell (p:=⟨u,l*4+1,none⟩) (by show F.heap.size<=u;omega) _).setCell (p:=⟨u,l*4+2,none⟩) (by show F.heap.size<=u;omega) _).setCell (p:=⟨u,l*4+3,none⟩) (by show F.heap.size<=u;omega) _,by have:=m.le;simpa using this⟩
 generalize (ax _ _).getD (l*4) default=mg at U
 generalize (ax _ _).getD (l*4+1) default=l8 at zc1
 generalize (ax _ _).getD (l*4+2) default=l9 at zc2
 generalize (ax _ _).getD (l*4+3) default=me at zc3
 have cx:Hid (ae (vk i hd o l b g n K) (ch s o l b n)):=by have h:=Ul (n:=n) Q.out HI.out ht.out.1 ht.out.2;rw[HG.out,HK.out] at h;exact h
 have mi:Hid ((vk i hd o l b g n K).os.a=some ⟨gO,0,none⟩):=hf.out;have gh:Hid (iy p (vk i hd o l b g n K) o l (K-n)):=by have h:=iy.same cr.out.takeIn cx.out;rw[HK.out] at h;exact h
 have g8:o<(vk i hd o l b g n K).os.n:=ap;have gw:((vk i hd o l b g n K).os.z o).ls.n=(i.os.z o).ls.n:=(Nb i hd o l b g n K o).2.1;have kz:Hid (((vk i hd o l b g n K).os.z o).ls.n=(i.os.z o).ls.n):=gw;obtain⟨⟨⟨l1,d0,d1⟩,l2,c0,c1,c2,c3,c4,c5,c6⟩,L,D,B,J⟩:=HC.out _ V.out.bel;obtain⟨m1,p0,p1,p2,p3,p4,p5,p6⟩:=Boxed.of V.out.box;have gv:Hid (p.At ((((wj.setCell ⟨u,l*4,none⟩ (.int .i64 (g:Int))).setCell ⟨u,l*4+1,none⟩ (.int .i64 ((i.os.z o).ls.z l).l)).setCell ⟨u,l*4+2,none⟩ (.int .i64 (((i.os.z o).ls.z l).b+n))).setCell ⟨u,l*4+3,none⟩ (.int .i64 (((i.os.z o).ls.z l).n+K-n)))):=L;clear m du kk M s1 s2 s3 s4 an cv kr kf h6 l2 c0 c1 c2 c3 c4 c5 c6 L D B J gw;refine ki 22 rfl ?_;go_wp2_with fail;refine NoPanic.normal ?_;clear zl ad ac ak Y U zc1 zc2 zc3
 generalize ((((wj.setCell ⟨u,l*4,none⟩ (.int .i64 (g:Int))).setCell ⟨u,l*4+1,none⟩ (.int .i64 ((i.os.z o).ls.z l).l)).setCell ⟨u,l*4+2,none⟩ (.int .i64 (((i.os.z o).ls.z l).b+n))).setCell ⟨u,l*4+3,none⟩ (.int .i64 (((i.os.z o).ls.z l).n+K-n)))=jf at *
 generalize vk i hd o l b g n K=y at *
 go_wp2_with fail;clear l1 d0 d1 m1 p0 p1 p2 p3 p4 p5 p6;refine(J9 p y o l H.heap.size (K-n) b jf gv.out V.out.own V.out.le gh.out).mono ?_;rintro e b7 ⟨x,rfl,T,gs,bm,hn⟩;have HT:Hid (lg p b y o l (K-n) x):=T;have d4:Hid (Blk b7 q 31 7 (λj=>y.cells.getD j default)):=hn _ _ _ _ (by decide) V.out.box;have je:Hid (ai H.heap.size b7 x):=gs;have jd:Hid (Below F.heap.size F b7):=V.out.bel.trans (bm.mono A1);have ka:Hid (H.heap.size<=b7.heap.size):=Qzx V.out.le bm.size;have ca:o<x.os.n:=by rw[T.os.1];exact g8
 have ma:Hid ((x.os.z o).ls.n=(i.os.z o).ls.n):=(T.os.2 o ca).2.1.trans kz.out;have gu:=d4.out;obtain⟨zl,ad,U,ac,zc1,ak,zc2,Y,zc3,bc,zc4,ba,zc5,bh,bb⟩:=z7 gu;clear T gs bm hn gv gu
 generalize (Tk.go (avT y o l) (K-n) (fc p b)).left=LL at *
 have HN:Hid (dg H.heap.size q F x (set7 b7 q (.slice x.on.a x.on.n x.on.c) (.slice x.os.a x.os.n x.os.c) (.slice x.hs.a x.hs.n x.hs.c) (.slice x.ms.a x.ms.n x.ms.c) (.slice x.si.a x.si.n x.si.c) (.slice x.so.a x.so.n x.so.c) (.slice x.sf.a x.sf.n x.sf.c))):=by
  have K:=s7b d4.out x;have hb:=s7w (b:=q) jd.out (Qzx A1 A3) x;exact⟨s7o je.out d4.out x,K.congr (λj hj=>by match j,hj with|0,_=>rfl|1,_=>rfl|2,_=>rfl|3,_=>rfl|4,_=>rfl|5,_=>rfl|6,_=>rfl),hb,by have:=ka.out;simpa[set7] using this⟩
 simp only[St.val];go_wp2_with fail;clear zl ad ac ak Y bc ba bh U zc1 zc2 zc3 zc4 zc5 bb;unfold set7 at HN
 go_loopw [19,20] (λav kv wk=>∃k:Nat,k<=(x.os.z o).ls.n/\kv = .int .i64 k/\av = .bool (!aw k (λj=>js ((x.os.z o).ls.z j)))/\Hid (dg H.heap.size q F x wk)) (λ_ kv _=>(x.os.z o).ls.n-(intOf kv).toNat)
 case atStart=>exact⟨0,Qxz _,rfl,rfl,HN⟩
 clear HN;obtain⟨k,hk,rfl,rfl,t⟩:=hrel;obtain⟨gX,g1,g2,g3,g4,g5,g6⟩:=t.out.own.orderCells (o:=o) ca;have u1:wr.cell? ⟨q,1,none⟩=some (.slice x.os.a x.os.n x.os.c):=t.out.box.k 1;have ab:=t.out.box.lt;rw[g1] at u1;have db:Hid (x.os.a=some ⟨gX,0,none⟩):=g1;have mf:x.os.n<=x.os.c:=t.out.own.os.le;have jy:x.os.c<=maxLen:=t.out.own.os.cap;obtain⟨_,_,_,_,_,_,eq⟩:=t.out.own.at.os.ods o ca;have mb:=eq.le;have kx:=eq.cap;unfold maxLen at jy kx;have r6:(o:Int)<(x.os.n:Int):=by omega
 clear g1 eq;by_cases j0:k<(x.os.z o).ls.n
 .have q6:(0:Int)<=(k:Int):=by omega
  have q7:(k:Int)<((x.os.z o).ls.n:Int):=by omega
  obtain⟨gr,BX,f1,f2,f3,f4,f5,f6,f7,f8,f9,fd,cs,b9,b6,c8⟩:=t.out.own.lineCell (o:=o) (l:=k) ca j0;rw[f5] at g5;have ex:Hid (aw (k+1) (λj=>js ((x.os.z o).ls.z j))=(aw k (λj=>js ((x.os.z o).ls.z j))||js ((x.os.z o).ls.z k))):=Dr _ _;have hr:Hid (js ((x.os.z o).ls.z k) = !(((x.os.z o).ls.z k).b==((x.os.z o).ls.z k).l)):=rfl
  generalize (x.os.z o).ls.z k=Z at *
  have e8:=Qqq u1;have dn:=Qqq g5;have cm:=Qqq b6;have cl:=Qqq b9;clear f1 f2 f3 f4 f5 f6 f8 f9 fd cs b9 b6 c8 g4 g6;cases ha:aw k (λj=>js ((x.os.z o).ls.z j));rotate_left
  .simp only[Bool.not_true];go_wp2_with fail;clear u1 g5 g3 f7 ab;refine Qxq (by kernel_rfl) (by kernel_rfl) ?_
   repeat(go_big_quiet_step(fail))
   refine Qqz ?_;intro wq ao;have al:=af ao;have t:Hid (dg H.heap.size q F x wq):=t.out.below al;clear ao al e8 dn cm cl;go_wp2_with fail;go_roundw
   case rel=>exact⟨k+1,by omega,by go_num,by rw[ex.out,ha];rfl,t⟩
   case measure=>simp[intOf];omega
  cases he:(Z.b==Z.l)
  .simp only[Bool.not_false];go_wp2_with fail;clear u1 g5 g3 f7 ab;refine Qxq (by kernel_rfl) (by kernel_rfl) ?_
   repeat(go_big_quiet_step(fail))
   refine Qqz ?_;intro wq ao;have al:=af ao;have t:Hid (dg H.heap.size q F x wq):=t.out.below al;clear ao al e8 dn cm cl;go_wp2_with fail;go_roundw
   case rel=>exact⟨k+1,by omega,by go_num,by rw[ex.out,ha,hr.out,he];rfl,t⟩
   case measure=>simp[intOf];omega
  simp only[Bool.not_false];go_wp2_with fail;clear u1 g5 g3 f7 ab;refine Qxq (by kernel_rfl) (by kernel_rfl) ?_
  repeat(go_big_quiet_step(fail))
  refine Qqz ?_;intro wq ao;have al:=af ao;have t:Hid (dg H.heap.size q F x wq):=t.out.below al;clear ao al e8 dn cm cl;go_wp2_with fail;go_roundw
  case rel=>exact⟨k+1,by omega,by go_num,by rw[ex.out,ha,hr.out,he];rfl,t⟩
  case measure=>simp[intOf];omega
 have i8:k=(x.os.z o).ls.n:=by omega
 have dk:Hid ((!aw k (λj=>js ((x.os.z o).ls.z j)))=j5 (ch s o l b n) o):=by
  rw[i8];show j5 x o=_;rw[HT.out.got g8,Ek cx.out ho]
 obtain⟨AV,gk⟩:∃A,(!aw k (λj=>js ((x.os.z o).ls.z j)))=A:=⟨_,rfl⟩;rw[gk] at dk ⊢;have q7:((x.os.z o).ls.n:Int)<=(k:Int):=by omega
 clear gk;have et:=HT.out;rw[<-HK.out] at et;have cg:Hid (j5 (ch s o l b n) o=false->ae x (pb p s o l b n)):=λjo=>by
  unfold pb;rw[jo,if_neg (by decide)];exact lg.same cr.out.takeIn cx.out (wy (but:=(b:Int)) cr.out.takeIn) et
 have ci:Hid (j5 (ch s o l b n) o=true->ae (di x o 2) (pb p s o l b n)):=λgj=>by
  have e0:=cr.out.all0 gj;unfold pb;rw[gj,if_pos rfl];have T0:=HT.out;have I0:=gh.out;rw[<-HK.out,e0] at T0 I0;exact Gf ((lg.zero I0 T0).trans cx.out) o 2
 clear et;cases AV
 .have cu:Hid (ae x (pb p s o l b n)):=cg.out dk.out.symm;have am:=t;obtain⟨m1,p0,p1,p2,p3,p4,p5,p6⟩:=Boxed.of am.out.box;rw[db.out] at p1;obtain⟨-,-,-,B,J⟩:=HC.out wr am.out.bel;have HZ:Hid (Below w.heap.size w wr/\Blk wr (w.heap.size+2) 31 7 (λ_ => .slice .none 0 0)):=⟨B,J⟩;obtain⟨zl,ad,U,ac,zc1,ak,zc2,Y,zc3,bc,zc4,ba,zc5,bh,bb⟩:=z7 J;have iw:=(HC.out _ brf).2.2.2.1.size;clear B J g4 g6 cg ci;go_wp2_with fail;rw[<-db.out];have KZ:=s7b HZ.out.2 x;have bv:=s7w (b:=w.heap.size+2) HZ.out.1 (by omega) x;have bg:=s7o am.out.own HZ.out.2 x;unfold set7 at KZ bv bg;obtain⟨dm,eh,ej,eg,d2,ea,el⟩:=co KZ;refine Xzq (v := .tuple #[x.val,.int .i64 0]) (by simp[results,results35,go_sem,St.val,dm,eh,ej,eg,d2,ea,el]) rfl ?_;exact⟨x,by rw[HX.out];rfl,bg.at,⟨λ_=>cu.out,λh=>absurd HX.out h⟩,λ_=>bg.mono d6.out,bv⟩
 have cu:Hid (ae (di x o 2) (pb p s o l b n)):=ci.out dk.out.symm;have l7:=g6 (o*2);obtain⟨gq,b1,b2,b3⟩:=t.out.own.os.list (by omega);rw[db.out] at b1;simp only[Qkx,Qkz,and_true] at b1;subst b1;have ih:gX≠q:=Blk.ne2 b3 t.out.box (by decide);have am:Hid (dg H.heap.size q F (di x o 2) (wr.setCell ⟨gX,o*2,none⟩ (.int .i64 2))):=⟨t.out.own.kind (o:=o) ca db.out 2,t.out.box.other (a:=⟨gX,o*2,none⟩) ih.symm _,t.out.bel.setCell (p:=⟨gX,o*2,none⟩) (by show F.heap.size<=gX;omega) _,by have:=t.out.le;simpa using this⟩
 generalize di x o 2=z at am cu
 obtain⟨m1,p0,p1,p2,p3,p4,p5,p6⟩:=Boxed.of am.out.box;obtain⟨-,-,-,B,J⟩:=HC.out _ am.out.bel;have HZ:Hid (Below w.heap.size w (wr.setCell ⟨gX,o*2,none⟩ (.int .i64 2))/\Blk (wr.setCell ⟨gX,o*2,none⟩ (.int .i64 2)) (w.heap.size+2) 31 7 (λ_ => .slice .none 0 0)):=⟨B,J⟩;obtain⟨zl,ad,U,ac,zc1,ak,zc2,Y,zc3,bc,zc4,ba,zc5,bh,bb⟩:=z7 J;have iw:=(HC.out _ brf).2.2.2.1.size;clear B J b2 b3 g6 cg ci t
 generalize (x.os.z o).k=KK at *
 go_wp2_with fail;have KZ:=s7b HZ.out.2 z;have bv:=s7w (b:=w.heap.size+2) HZ.out.1 (by omega) z;have bg:=s7o am.out.own HZ.out.2 z;unfold set7 at KZ bv bg;obtain⟨dm,eh,ej,eg,d2,ea,el⟩:=co KZ;refine Xzq (v := .tuple #[z.val,.int .i64 0]) (by simp[results,results35,go_sem,St.val,dm,eh,ej,eg,d2,ea,el]) rfl ?_;exact⟨z,by rw[HX.out];rfl,bg.at,⟨λ_=>cu.out,λh=>absurd HX.out h⟩,λ_=>bg.mono d6.out,bv⟩
theorem ae.low{x y:St}{p:Pl}(h:ae x y)(r:au p y){b g:Nat}(c:b<p.nb)(a:g<p.ns):(x.on.r b).z g+bp x b g x.ms.n=dx y b g:=h.lying r.fm c a
theorem Pp(p:Pl)(s:St)(w:World)(hp:p.At w)(hs:s.At w):
  Calls prog 36 #[p.val,s.val] w λe L=>∃x:St,e = .returned (.tuple #[x.val,.int .i64 (ah p s)])/\x.At L/\dv (ah p s) (yp p s) x/\(ah p s=0->ai w.heap.size L x)/\Below w.heap.size w L:=by
 obtain⟨W0,hW,fe,X0,Z0⟩:=zd w p s;have HC:=wv hp hs fe X0 Z0;have HW:=hid hW;have leb:=hp.leb;have dh:=hp.capb;have les:=hp.les;have dn:=hp.caps;have capb:=dh;have caps:=dn;have gy:=Z0.lt;unfold maxLen at capb caps;clear hW X0 Z0 hp hs;unfold Pl.val St.val;go_enter func36,ntmps36;go_wp2_with fail;rw[HW.out];obtain⟨X,q,D,t,H⟩:=HC.out W0 brf;refine(lq p s W0 q D).mono ?_;rintro e P ⟨rfl,hB⟩;clear X q D t H HW;obtain⟨⟨⟨l1,J,d1⟩,l2,c0,c1,c2,c3,c4,c5,c6⟩,q,D,t,H⟩:=HC.out P hB;by_cases h0:ah p s=0;rotate_left
 .have e7:=hid h0;have g0:(ah p s !=0)=true:=by simpa using h0
  clear h0;clear q D;obtain⟨zl,fs,fr,fd,zc1,fy,zc2,f2,zc3,e5,zc4,e4,zc5,ga,gb⟩:=z7 H;go_wp2_with fail;exact g9 results36 H t (by omega) rfl e7.out rfl rfl rfl
 have HR:Hid (au p s):=ew h0;have H0:=hid h0;have ep:=hid t.size;have d7:Hid (Calls prog 85 #[s.val] P λe L=>∃s':St,e = .returned s'.val/\ae s' s/\ai P.heap.size L s'/\Below P.heap.size P L):=pr p s P D HR.out.fm;rw[h0];clear h0 q D t H;go_wp2_with fail;refine Calls.mono d7.out ?_;rintro e w4 ⟨x0,rfl,ca,db,b1⟩;clear d7 l1 J d1 l2 c0 c1 c2 c3 c4 c5 c6;obtain⟨W5,ec,bl,K5⟩:=ab7 w4 x0;have dq:=hid ec;have bj:=b1.trans (bl.mono b1.size);have A2:W0.heap.size<=P.heap.size:=hB.size;have A3:P.heap.size<=w4.heap.size:=b1.size;have ds:Hid (dg P.heap.size w4.heap.size W0 x0 W5):=⟨ai.below db bl,K5,hB.trans (bj.mono hB.size),by have:=bj.size;omega⟩;have ef:=hid ca;have nb6:=HR.out.fm.sh.pl.nb6;have ns3:=HR.out.fm.sh.pl.ns3;clear ec db K5 b1 bl bj ca hB;simp only[St.val];go_wp2_with fail;rw[dq.out];clear dq
 generalize w4.heap.size=B7 at *
 go_loopw [8] (λbv m=>∃(b:Nat) (x:St),b<=p.nb/\bv = .int .i64 b/\Hid (dg P.heap.size B7 W0 x m)/\Hid (ae x (mj p (frX p true b) s))) (λbv _=>p.nb-(intOf bv).toNat)
 case atStart=>exact⟨0,x0,Qxz _,rfl,ds,ef⟩
 clear ds ef;obtain⟨b,x,hb,rfl,i,d⟩:=hrel;obtain⟨Y,hY⟩:∃Y,mj p (frX p true b) s=Y:=⟨_,rfl⟩;have HY:=hid hY;have f0:Hid (gt p s Y):=by show gt p s Y;rw[<-hY];exact(gt.refl HR.out).B _
 rw[hY] at d;clear hY;obtain⟨⟨⟨l1,J,d1⟩,l2,c0,c1,c2,c3,c4,c5,c6⟩,q,D,t,H⟩:=HC.out wr i.out.bel;clear q D t H l2 c0 c1 c2 c3 c4 c5 c6;by_cases A:b<p.nb;rotate_left
 .have d3:b=p.nb:=by omega
  have gc:Hid (ae x (yp p s)):=by
   have h:=d.out;rw[<-HY.out,d3] at h;exact h
  have q1:(p.nb:Int)<=(b:Int):=by omega
  obtain⟨m1,p0,p1,p2,p3,p4,p5,p6⟩:=Boxed.of i.out.box;obtain⟨-,-,-,t,H⟩:=HC.out wr i.out.bel;have HZ:=qa2 t H;obtain⟨zl,fs,fr,fd,zc1,fy,zc2,f2,zc3,e5,zc4,e4,zc5,ga,gb⟩:=z7 H;have gm:=(HC.out _ brf).2.2.2.1.size;clear t H d3;go_wp2_with fail;have KZ:=s7b HZ.out.2 x;have dr:=s7w (b:=w.heap.size+2) HZ.out.1 (by omega) x;have cx:=s7o i.out.own HZ.out.2 x;unfold set7 at KZ dr cx;obtain⟨e9,f8,fb,f6,e2,fq,fj⟩:=co KZ;refine Xzq (v := .tuple #[x.val,.int .i64 0]) (by simp[results,results36,go_sem,St.val,e9,f8,fb,f6,e2,fq,fj]) rfl ?_;exact⟨x,by rw[H0.out];rfl,cx.at,⟨λ_=>gc.out,λh=>absurd H0.out h⟩,λ_=>cx.mono ep.out,dr⟩
 have q0:(0:Int)<=(b:Int):=by omega
 have q1:(b:Int)<(p.nb:Int):=by omega
 have d5:Hid (ae x (if (p.zb b).front=true then i8 p b 0 Y else Y)):=by
  have h:=d.out
  split<;>exact h
 go_wp2_with fail;clear l1 J d1 d
 go_loopw [9] (λgv m=>∃(gg:Nat) (x:St),gg<=p.ns/\gv = .int .i64 gg/\Hid (dg P.heap.size B7 W0 x m)/\Hid (ae x (if (p.zb b).front=true then i8 p b gg Y else Y))) (λgv _=>p.ns-(intOf gv).toNat)
 case atStart=>exact⟨0,x,Qxz _,rfl,i,d5⟩
 clear i d5;obtain⟨g,x,hg,rfl,i,d⟩:=hrel;obtain⟨⟨⟨l1,J,d1⟩,l2,c0,c1,c2,c3,c4,c5,c6⟩,q,D,t,H⟩:=HC.out wr i.out.bel;obtain⟨bb,ob,aa,an,z0,z1,z2,z3⟩:=q.bins b A;have fz:=hid aa;rw[aa] at J;clear q D t H l2 c0 c1 c2 c3 c4 c5 c6 aa;by_cases S:(p.zb b).front=true;rotate_left
 .-- not in front
  have o:Hid (ae x (mj p (frX p true (b+1)) s)):=by
   have h:=d.out;rw[if_neg S] at h;rw[J7 S,HY.out];exact h
  have ei:(p.zb b).front=false:=by simpa using S
  rw[ei] at z0;clear d S ei;by_cases E:g<p.ns
  .have r1:(g:Int)<(p.ns:Int):=by omega
   go_wp2_with fail;go_roundw
   case rel=>exact⟨b+1,x,by omega,by go_num,i,o⟩
   case measure=>simp[intOf];omega
  have r1:(p.ns:Int)<=(g:Int):=by omega
  go_wp2_with fail;go_roundw
  case rel=>exact⟨b+1,x,by omega,by go_num,i,o⟩
  case measure=>simp[intOf];omega
 rw[if_pos S] at d;have bf:=hid S;by_cases E:g<p.ns;rotate_left
 .have dz:g=p.ns:=by omega
  have o:Hid (ae x (mj p (frX p true (b+1)) s)):=by
   rw[Eo ⟨A,bf.out⟩,Lu,HY.out];have h:=d.out;rw[dz] at h;exact h
  have r1:(p.ns:Int)<=(g:Int):=by omega
  clear dz;rw[S] at z0;go_wp2_with fail;go_roundw
  case rel=>exact⟨b+1,x,by omega,by go_num,i,o⟩
  case measure=>simp[intOf];omega
 have r0:(0:Int)<=(g:Int):=by omega
 have r1:(g:Int)<(p.ns:Int):=by omega
 rw[S] at z0;go_wp2_with fail;obtain⟨YG,b0⟩:∃y,i8 p b g Y=y:=⟨_,rfl⟩;have ch:=hid b0;have ct:Hid (gt p s YG):=by show gt p s YG;rw[<-b0];exact f0.out.G A bf.out hg
 rw[b0] at d;clear b0;have l:Hid (au p x):=d.out.right ct.out.r;have xb:b<x.on.n:=by rw[l.out.fm.sh.n];exact A
 have bx:g<(x.on.r b).n:=by rw[l.out.fm.sh.len b xb];exact E
 have xn:(x.on.r b).n=p.ns:=l.out.fm.sh.len b xb;have ee:Hid ((x.on.r b).z g+bp x b g x.ms.n=dx YG b g):=d.out.low ct.out.r A E;have dy:=l.out.fm.sh.num b xb g E;have d2:=lj (s:=x) (b:=b) (g:=g) l.out.fm.moveN;have ms8:=l.out.fm.ms8;have lo:=Fq HR.out.fm.sh.pl A;obtain⟨m1,p0,p1,p2,p3,p4,p5,p6⟩:=Boxed.of i.out.box;obtain⟨g0,G0,a1,a2,a3,a4,a5,a6,a7,a8,a9,cw,b6,al⟩:=i.out.own.onCell xb bx;unfold maxLen at a8 al;have M:=hid i.out.own.at;have ab:=hid a1;have V:Hid (∀m,x.At m->Calls prog 84 #[.agg #[.slice (some ⟨g0,0,none⟩) x.on.n x.on.c,.slice x.os.a x.os.n x.os.c,.slice x.hs.a x.hs.n x.hs.c,.slice x.ms.a x.ms.n x.ms.c,.slice x.si.a x.si.n x.si.c,.slice x.so.a x.so.n x.so.c,.slice x.sf.a x.sf.n x.sf.c],.int .i64 b,.int .i64 g] m λe L=>e = .returned (.int .i64 (bp x b g x.ms.n))/\Below m.heap.size m L):=λm h=>by have k:=Cf p x b g m h l.out.fm;rw[St.val,ab.out] at k;exact k
 have s0:(b:Int)<(x.on.n:Int):=by omega
 have s1:(g:Int)<((x.on.r b).n:Int):=by omega
 rw[a1] at p0;have b9:=Qqq J;have eg:=Qqq z2;have b3:=Qqq p0;have b7:=Qqq p1;have b5:=Qqq p2;have b2:=Qqq p3;have ce:=Qqq p4;have ci:=Qqq p5;have cj:=Qqq p6;have cf:=Qqq a3;have bz:=Qqq a9;clear a1 a4 a5 cw
 generalize hCO:bp x b g x.ms.n=CO at *
 generalize hZO:(x.on.r b).z g=ZO at *
 have f4:Hid ((p.zb b).low=(p.zb b).low):=rfl
 generalize hLW:(p.zb b).low=LW at *
 have HQ:=qa2 ee.out hLW;have ff:=qa2 hCO hZO;clear ee hLW f4 hCO hZO l1 J d1 z0 z1 z2 z3 p0 p1 p2 p3 p4 p5 p6 a3 a9;by_cases cv:LW<=ZO+CO
 .refine Qxq (by kernel_rfl) (by kernel_rfl) ?_
  repeat(go_big_quiet_step((go_at_call 84;exact Xxz (V.out _ (M.out.below (Qxx _ _ _))))))
  refine Qqz ?_;intro w6 T;have Q:=af T;have i:=hid (i.out.below Q);clear T Q M V b9 eg b3 b7 b5 b2 ce ci cj cf bz m1 a2 a6 a7 a8 b6 al an;have o:Hid (ae x (if (p.zb b).front=true then i8 p b (g+1) Y else Y)):=by
   rw[if_pos bf.out,Oi (by rw[ch.out,<-HQ.out.1,HQ.out.2];exact cv),ch.out];exact d.out
  go_wp2_with fail;go_roundw
  case rel=>exact⟨g+1,x,by omega,by go_num,i,o⟩
  case measure=>simp[intOf];omega
 refine Qxq (by kernel_rfl) (by kernel_rfl) ?_
 repeat(go_big_quiet_step((go_at_call 84;exact Xxz (V.out _ (M.out.below (Qxx _ _ _))))))
 refine Qqz ?_;intro w6 T;have Q:=af T;have i:=hid (i.out.below Q);clear T Q M V b9 eg b3 b7 b5 b2 ce ci cj cf bz m1 a2 a6 a7 a8 b6 al an;have e6:Hid (¬(p.zb b).low<=dx (i8 p b g Y) b g):=by rw[ch.out,<-HQ.out.1,HQ.out.2];exact cv
 have dw:=hid d.out;clear HQ ff d l ab dy d2 xb bx xn s0 s1 ms8 cv;go_wp2_with fail
 go_loopw [10] (λfv m=>∃(f:Nat) (x:St),f<=p.nb/\fv = .int .i64 f/\Hid (dg P.heap.size B7 W0 x m)/\Hid (ae x (jp p b g (frX p false f) YG))) (λfv _=>p.nb-(intOf fv).toNat)
 case atStart=>exact⟨0,x,Qxz _,rfl,i,dw⟩
 clear i dw;obtain⟨f,x,hf,rfl,i,d⟩:=hrel;obtain⟨YF,cd⟩:∃y,jp p b g (frX p false f) YG=y:=⟨_,rfl⟩;have cr:=hid cd;have d6:Hid (gt p s YF):=by show gt p s YF;rw[<-cd];exact ct.out.F A bf.out E _
 rw[cd] at d;clear cd;obtain⟨⟨⟨l1,J,d1⟩,l2,c0,c1,c2,c3,c4,c5,c6⟩,q,D,t,H⟩:=HC.out wr i.out.bel;clear D t H l2 c0 c1 c2 c3 c4 c5 c6;by_cases bd:f<p.nb;rotate_left
 .have dt:f=p.nb:=by omega
  have o:Hid (ae x (if (p.zb b).front=true then i8 p b (g+1) Y else Y)):=by
   rw[if_pos bf.out,Qr (by have:=e6.out;omega),ch.out,<-dt,cr.out];exact d.out
  have q2:(p.nb:Int)<=(f:Int):=by omega
  clear q dt;go_wp2_with fail;go_roundw
  case rel=>exact⟨g+1,x,by omega,by go_num,i,o⟩
  case measure=>simp[intOf];omega
 have q2:(0:Int)<=(f:Int):=by omega
 have q3:(f:Int)<(p.nb:Int):=by omega
 obtain⟨bb,ob,aa,an,z0,z1,z2,z3⟩:=q.bins f bd;have fz:=hid aa;rw[aa] at J;have ak:=hid q;clear q aa;have l:Hid (au p x):=d.out.right d6.out.r;have ms8:=l.out.fm.ms8;have aw:=hid d.out.ms.1;obtain⟨m1,p0,p1,p2,p3,p4,p5,p6⟩:=Boxed.of i.out.box;by_cases b4:(p.zb f).front=true
 .have o:Hid (ae x (jp p b g (frX p false (f+1)) YG)):=by
   rw[J7 (by rw[b4];decide),cr.out];exact d.out
  rw[b4] at z0;clear l aw ak;go_wp2_with fail;go_roundw
  case rel=>exact⟨f+1,x,by omega,by go_num,i,o⟩
  case measure=>simp[intOf];omega
 have bg:(p.zb f).front=false:=by simpa using b4
 have am:Hid (jp p b g (frX p false (f+1)) YG=nj p b g f YF):=by show _=_;rw[Eo ⟨bd,bg⟩,Ll,cr.out]
 rw[bg] at z0;clear b4 bg;by_cases fn:8<=x.ms.n
 .have o:Hid (ae x (jp p b g (frX p false (f+1)) YG)):=by
   rw[am.out,Cu (by rw[<-aw.out];exact fn)];exact d.out
  have q4:(8:Int)<=(x.ms.n:Int):=by omega
  clear l aw ak am;go_wp2_with fail;go_roundw
  case rel=>exact⟨f+1,x,by omega,by go_num,i,o⟩
  case measure=>simp[intOf];omega
 have q4:(x.ms.n:Int)<8:=by omega
 have xb:b<x.on.n:=by rw[l.out.fm.sh.n];exact A
 have bx:g<(x.on.r b).n:=by rw[l.out.fm.sh.len b xb];exact E
 have xn:(x.on.r b).n=p.ns:=l.out.fm.sh.len b xb;go_wp2_with fail;clear J z0 z1 z2 z3 an;obtain⟨-,J,-⟩:=(HC.out wr i.out.bel).1.1;obtain⟨f3,fc,bo,an,z0,z1,z2,z3⟩:=ak.out.bins b A;rw[bo] at J;obtain⟨bs,os,c8,fx,y0⟩:=ak.out.sizes g E;have c7:=qa2 c8 bo;rw[c8] at d1;obtain⟨g0,G0,a1,a2,a3,a4,a5,a6,a7,a8,a9,cw,b6,al⟩:=i.out.own.onCell xb bx;unfold maxLen at a8 al;have M:=hid i.out.own.at;have ab:=hid a1;have V:Hid (∀m,x.At m->Calls prog 84 #[.agg #[.slice (some ⟨g0,0,none⟩) x.on.n x.on.c,.slice x.os.a x.os.n x.os.c,.slice x.hs.a x.hs.n x.hs.c,.slice x.ms.a x.ms.n x.ms.c,.slice x.si.a x.si.n x.si.c,.slice x.so.a x.so.n x.so.c,.slice x.sf.a x.sf.n x.sf.c],.int .i64 b,.int .i64 g] m λe L=>e = .returned (.int .i64 (bp x b g x.ms.n))/\Below m.heap.size m L):=λm h=>by have k:=Cf p x b g m h l.out.fm;rw[St.val,ab.out] at k;exact k
 have eh:Hid (∀m,x.At m->Calls prog 89 #[.agg #[.slice (some ⟨g0,0,none⟩) x.on.n x.on.c,.slice x.os.a x.os.n x.os.c,.slice x.hs.a x.hs.n x.hs.c,.slice x.ms.a x.ms.n x.ms.c,.slice x.si.a x.si.n x.si.c,.slice x.so.a x.so.n x.so.c,.slice x.sf.a x.sf.n x.sf.c],.int .i64 f,.int .i64 g] m λe L=>e = .returned (.int .i64 (ar x f g))/\Below m.heap.size m L):=λm h=>by have k:=Jm p x f g m h l.out.fm bd E;rw[St.val,ab.out] at k;exact k
 have du:Hid (∀m,p.At m->x.At m->Calls prog 83 #[.agg #[.slice (some ⟨f3,fc,none⟩) p.nb p.cb,.slice (some ⟨bs,os,none⟩) p.ns p.cs],.agg #[.slice (some ⟨g0,0,none⟩) x.on.n x.on.c,.slice x.os.a x.os.n x.os.c,.slice x.hs.a x.hs.n x.hs.c,.slice x.ms.a x.ms.n x.ms.c,.slice x.si.a x.si.n x.si.c,.slice x.so.a x.so.n x.so.c,.slice x.sf.a x.sf.n x.sf.c],.int .i64 b] m λe L=>e = .returned (.int .i64 (gj p x b))/\Below m.heap.size m L):=λm h1 h=>by have k:=Mm p x b m h1 h l.out.fm A;rw[St.val,Pl.val,ab.out,c7.out.1,c7.out.2] at k;exact k
 have s0:(b:Int)<(x.on.n:Int):=by omega
 have s1:(g:Int)<((x.on.r b).n:Int):=by omega
 rw[a1] at p0;have dy:=l.out.fm.sh.num b xb g E;have d2:=lj (s:=x) (b:=b) (g:=g) l.out.fm.moveN;have g3:=Fq HR.out.fm.sh.pl A;have g4:=Oh l.out bd E;have g1:=Ru l.out.fm A;have g2:=HR.out.fm.sh.pl.sizes g E;have d9:Hid (min (min ((p.zb b).high-(x.on.r b).z g-bp x b g x.ms.n) (ar x f g)) ((gj p x b).tdiv (p.zs g))=o5 p YF b g f):=by
  show _=_;rw[<-Fd d.out d6.out.r.fm A E bd,o5,dx]
  congr 2
  omega
 have b9:=Qqq J;have f1:=Qqq d1;have fk:=Qqq z3;have b3:=Qqq p0;have b7:=Qqq p1;have b5:=Qqq p2;have b2:=Qqq p3;have ce:=Qqq p4;have ci:=Qqq p5;have cj:=Qqq p6;have cf:=Qqq a3;have bz:=Qqq a9;have fo:=Qqq y0;clear a1 a4 a5 cw c8 bo
 generalize bp x b g x.ms.n=CO at *
 generalize (x.on.r b).z g=ZO at *
 generalize ar x f g=AV at *
 generalize gj p x b=FR at *
 generalize p.zs g=ZS at *
 generalize (p.zb b).high=HI at *
 clear J d1 z0 z1 z2 z3 p0 p1 p2 p3 p4 p5 p6 a3 a9 y0 l1;refine Qxq (by kernel_rfl) (by kernel_rfl) ?_
 repeat(go_big_quiet_step((first|(go_at_call 84;exact Xxz (V.out _ (M.out.below (Qxx _ _ _))))|(go_at_call 89;exact Xxz (eh.out _ (M.out.below (Qxx _ _ _))))|(go_at_call 83;exact Xxz (du.out _ (ak.out.below (Qxx _ _ _)) (M.out.below (Qxx _ _ _)))))))
 refine Qqz ?_;intro w6 T;have Q:=af T;have i:=hid (i.out.below Q);clear T Q M V eh du b9 f1 fk b3 b7 b5 b2 ce ci cj cf bz fo m1 a2 a6 a7 a8 b6 al an fx ak c7 ab;obtain⟨U,dd⟩:∃U,(if FR.tdiv ZS<if AV<HI-ZO-CO then AV else HI-ZO-CO then FR.tdiv ZS else if AV<HI-ZO-CO then AV else HI-ZO-CO)=U:=⟨_,rfl⟩;rw[dd];have cc:Hid (U=o5 p YF b g f):=by
  show U=_;rw[<-d9.out,<-dd]
  generalize FR.tdiv ZS=QQ
  split<;>split<;>omega
 clear dd d9;by_cases h1:0<U;rotate_left
 .have o:Hid (ae x (jp p b g (frX p false (f+1)) YG)):=by
   rw[am.out];unfold nj;rw[<-cc.out,if_neg (by omega)];exact d.out
  clear am cc aw l;go_wp2_with fail;go_roundw
  case rel=>exact⟨f+1,x,by omega,by go_num,i,o⟩
  case measure=>simp[intOf];omega
 have ea:Hid (nj p b g f YF=ix YF ⟨g,f,b,U⟩):=by
  show _=_;unfold nj;rw[<-cc.out,if_pos ⟨by rw[<-aw.out];omega,by omega⟩]
 obtain⟨iM,hM,f7,fh,fi⟩:=info_parts C5;obtain⟨W7,cz,c9⟩:∃W,w6.alloc (.cells #[.int .i64 (g:Int),.int .i64 (f:Int),.int .i64 (b:Int),.int .i64 U] 77)=W/\Below w6.heap.size w6 W:=⟨_,rfl,brf.alloc nlr _⟩;have eb:Hid (w6.alloc (.cells #[.int .i64 (g:Int),.int .i64 (f:Int),.int .i64 (b:Int),.int .i64 U] 77)=W7):=cz;have d8:Hid (∀j u,(df ⟨g,f,b,U⟩)[j]?=some u->W7.cell? ((⟨w6.heap.size,0,none⟩:Addr).add j)=some u):=by rw[<-cz];exact Zy w6 ⟨g,f,b,U⟩ _
 obtain⟨m1,p0,p1,p2,p3,p4,p5,p6⟩:=Boxed.of i.out.box;have K:=hid (i.out.below c9);have g5:=K.out.own.ms.1;have fg:=K.out.own.ms.2.1;unfold maxLen at fg;clear cz c9 p0 p1 p2 p4 p5 p6 i;go_wp2_with(at_builtin;rw[eb.out];refine tc W7 rfl (.tmp 120) (.tmp 126) 29 rfl P.heap.size 77 iM (.agg #[.int .i64 0,.int .i64 0,.int .i64 0,.int .i64 0]) 4 32 underlying29 hM f7 fh fi rfl (by decide) x.ms.a x.ms.n x.ms.c (ax x.ms.n x.ms.z) rfl K.out.own.msr K.out.own.ms.1 K.out.own.ms.2.1 (ed _ _) K.out.own.ms.2.2.2 ⟨w6.heap.size,0,none⟩ 1 1 (df ⟨g,f,b,U⟩) rfl rfl d8.out (λu hu=>by simp[df] at hu;rcases hu with rfl|rfl|rfl|rfl<;>rfl) (by decide) ?zc3 ?zc4 K.out.le ?_)
 case zc3=>unfold maxLen;omega
 case zc4=>omega
 intro v2 w2 cg aq;obtain⟨k,rfl,d4,kn,kz,kl,b8⟩:=K.out.more A2 A3 cg aq;have fw:=hid d4;have o:Hid (ae (withMoves x k) (jp p b g (frX p false (f+1)) YG)):=by
  rw[am.out,ea.out];exact C2 d.out _ kn kz kl
 have z1:=b8.lt;have z2:=b8.frozen 3;have z3:=b8.k 3;clear cg aq d4 kn kz kl b8 K d8 eb m1 p3 ea am cc
 try simp only[Act.put,Qvq,Qwx,Qwz]
 go_wp2_with fail;go_roundw
 case rel=>exact⟨f+1,withMoves x k,by omega,by go_num,fw,o⟩
 case measure=>simp[intOf];omega
end Go.Proofs.YtbcacebifpagpafGreat

/- Joined texts of DeskPlays. -/
import Derived.Test.YtjgckphgagdpaaaGreatDoorK5DeskPlays
import Derived.Lib.QuietBelowIn
import Derived.Sort.BigQuietIn
import Derived.Scope
set_option maxHeartbeats 8000000
set_option maxRecDepth 100000
set_option linter.unusedVariables false
namespace Go.Proofs.YtjgckphgagdpaaaGreatDoor
variable{n b A g l c i m q r j R C M u:Nat}{P:Prop}{w a w' d X:World}{s x y:St}{W J K D:Int}{e t:TypeId}{p:Pl}{z H:Nat->Hd}{f O:Nat->Value}{Q:Exit->Act->World->Prop}{v U:Value}{V Y:Hs}{Z E:Int->Int->Int}{h:Hd}{xs:List Value}{S:World->Prop}{z' zs:Nat->Int}{a1:Act}
open _root_.Go.Proofs.Tryz
open Go.RowKit Go.Shelf Go.Sort
theorem My{bin good seen:Int}(h:¬mj p s bin good=0):fs p s bin good seen=mj p s bin good:=by
 unfold mj at h ⊢;unfold fs;by_cases a:ag p s=0
 .rw[if_pos a] at h ⊢;rw[if_pos a];cases b:(inB bin 0 ((p.nb:Int)-1)&&inB good 0 ((p.ns:Int)-1))
  .rfl
  rw[b] at h;exact absurd rfl h
 rw[if_neg a,if_neg a]
theorem aqz{bin good:Int}(h:mj p s bin good=0):ag p s=0/\∃b g:Nat,bin=b/\good=g/\b<p.nb/\g<p.ns:=by
 unfold mj at h;by_cases h0:ag p s=0
 .rw[if_pos h0] at h;cases a:(inB bin 0 ((p.nb:Int)-1)&&inB good 0 ((p.ns:Int)-1))
  .rw[a] at h;exact absurd h dc
  simp only[Xxx] at a;have c:=ar a.1;have d:=ar a.2;exact⟨h0,bin.toNat,good.toNat,ow,ow,ow,ow⟩
 exact Tc
theorem Yf{seen:Int}(h:ag p s=0)(a:inB seen 0 200=false):fs p s b g seen=3:=by
 unfold fs;rw[if_pos h,a,Bool.and_false]
 rfl
theorem Pc{seen:Int}(h:ag p s=0)(f:b<p.nb)(i:g<p.ns)(c:inB seen 0 200=true)(d:inB (s.sf.z g+(seen-(s.on.r b).z g)) (-1048576) 1048576=false):fs p s b g seen=2:=by
 unfold fs;have e:(Int.toNat (b:Int))=b:=rfl;have a:(Int.toNat (g:Int))=g:=rfl;rw[if_pos h,cy ow,cy ow,c,e,a,d]
 rfl
theorem Qz{seen:Int}(h:ag p s=0)(d:b<p.nb)(e:g<p.ns)(a:inB seen 0 200=true)(c:inB (s.sf.z g+(seen-(s.on.r b).z g)) (-1048576) 1048576=true):dr p s b g seen :=
 ⟨et h,d,e,(ar a).1,(ar a).2,ar c⟩
theorem ah.setFix{G:Nat}(h:ah A w s)(b:s.sf.a=some ⟨G,0,none⟩)(g:Nat)(x:Int):ah A (w.setCell ⟨G,g,none⟩ (.int .i64 x)) (Go.Proofs.YtjgckphgagdpaaaGreatDoor.setFix s g x):=by
 obtain⟨q,b1,b2,b3,b4,b5⟩:=h.sf;rw[b] at b1;simp only[co] at b1;subst b1;refine⟨?_,λi hi=>(h.rows i hi).apart (λe=>(h.ari i hi).2.2 (e.trans b.symm)) _ _,h.rapart,h.os.other b5 dc dc _ _,h.hs.other b5 dc _ _,h.ms.other b5 dc _ _,h.msr.set _ _ _,h.si.apart (λe=>h.aif (e.trans b.symm)) _ _,h.so.apart (λe=>h.aof (e.trans b.symm)) _ _,h.sf.set b _ _,h.aio,h.aif,h.aof,h.ari⟩;exact amz
theorem dr.formed0{seen:Int}(h:dr p s b g seen):cu p (kw s b g seen):=by
 have f:=h.r.fm;have G:=h.right.fm;exact⟨G.sh,G.sh0,f.os4,f.ms8,f.lns,f.kind,f.line,f.hold,f.home,f.move,G.sin,G.son,G.sfn,G.sib,G.sob,G.sfb⟩
theorem dr.formed1{seen:Int}(h:dr p s b g seen):cu p (kw (withMoves s (db (cx b g) s.ms (fg s b g seen))) b g seen):=by
 have f:=h.r.fm;have G:=h.right.fm;exact⟨G.sh,G.sh0,f.os4,G.ms8,f.lns,f.kind,f.line,f.hold,f.home,G.move,G.sin,G.son,G.sfn,G.sib,G.sob,G.sfb⟩
theorem dr.qmax{seen:Int}(h:dr p s b g seen)(o l:Int):fa s b g (fg s b g seen) o l<=100000:=by
 have k:=(C6 (b:=b) (g:=g) h.r h.miss0 o l).2;have d:=wh (z:=s.hs.z) o l s.hs.n λq a=>(cw (cd h.r.fm.hold q a)).2.2.2;have c:=h.r.fm.hs72;omega
def Mk(p:Pl)(x0:St)(b:Nat)(q:Int->Int->Int)(i:Nat)(cur:St):Prop:=jc p b (λi j=>q i j) (Cs x0) x0 i cur
def xe(p:Pl)(x0:St)(b:Nat)(q:Int->Int->Int)(i j:Nat)(cur:St):Prop:=∃y,Mk p x0 b q i y/\na p b (λi j=>q i j) i y j cur
section
variable {p:Pl} {x0 cur x:St} {b:Nat} {q:Int->Int->Int} {i j:Nat}
theorem xe.next(h:xe p x0 b q i (x0.os.z i).ls.n cur):Mk p x0 b q (i+1) cur:=h
theorem Mk.row(h:Mk p x0 b q i cur):xe p x0 b q i 0 cur:=⟨cur,h,rfl⟩
theorem xe.pos(Q:QIn p b (λi j=>q i j) x0)(h:xe p x0 b q i j cur)(hi:i<x0.os.n)(d:j<=(x0.os.z i).ls.n):Pos p b (λi j=>q i j) x0 i j cur:=by
 obtain⟨y,a,c⟩:=h;exact na.pos Q (jc.pos Q (λ_ _=>rfl) (Nat.le_of_lt hi) a) hi d c
theorem xe.step(h:xe p x0 b q i j cur)(T:ng p b cur i j (q i j) x):xe p x0 b q i (j+1) x:=by
 obtain⟨y,a,c⟩:=h;exact⟨y,a,cur,c,T⟩
theorem xe.skip(Q:QIn p b (λi j=>q i j) x0)(h:xe p x0 b q i j cur)(hi:i<x0.os.n)(d:j<(x0.os.z i).ls.n)(c:q i j=0):xe p x0 b q i (j+1) cur:=by
 have I:=(h.pos Q hi (Nat.le_of_lt d)).stepIn Q hi d;have T:=I.tki;have a:i9 p cur i j (q i j):=T;rw[c] at a;refine h.step ?_;rw[c];exact ng.skip a
end
theorem Ka{bin good seen:Int}(h:ag p s=0)(a:(inB bin 0 ((p.nb:Int)-1)&&inB good 0 ((p.ns:Int)-1)&&inB seen 0 200)=false):fs p s bin good seen=3:=by
 unfold fs;rw[if_pos h,a]
 rfl
theorem ahh(v a c:Int)(w:World):Calls prog 34 #[.int .i64 v,.int .i64 a,.int .i64 c] w λe w'=>e = .returned (.bool (inB v a c))/\Bw w w' :=
 (da v a c w).mono λe w' ⟨h1,h2⟩=>⟨h1,h2▸Below.refl _ _⟩
theorem de.setFix{W0:World}(h:de A b W0 x d)(hA:W0.heap.size<=A){G:Nat}(c:x.sf.a=some ⟨G,0,none⟩)(g:Nat)(v:Int):de A b W0 (Go.Proofs.YtjgckphgagdpaaaGreatDoor.setFix x g v) (d.setCell ⟨G,g,none⟩ (.int .i64 v)):=by
 obtain⟨q,b1,b2,b3,b4,b5⟩:=h.own.sf;rw[c] at b1;simp only[co] at b1;subst b1;exact⟨h.own.setFix c g v,h.box.other (a:=⟨G,g,none⟩) (Blk.ne2 h.box b5 dc) _,h.bel.setCell (p:=⟨G,g,none⟩) Jp _,A9⟩
theorem acx(p:Pl)(s:St)(bin good seen:Int)(w:World)(hp:p.At w)(hs:s.At w):
  Calls prog 77 #[p.val,s.val,.int .i64 bin,.int .i64 good,.int .i64 seen] w λe w'=>∃x:St,e = .returned (.tuple #[x.val,.int .i64 (fs p s bin good seen)])/\x.At w'/\jb (fs p s bin good seen) (qd p s bin.toNat good.toNat seen) x/\(fs p s bin good seen=0->ah w.heap.size w' x)/\Bw w w':=by
 obtain⟨W0,hW,oo,X0,Z0⟩:=Dh w p s;have HC:=Cq hp hs oo X0 Z0;have HW:=hid hW;have leb:=hp.leb;have fr:=hp.capb;have les:=hp.les;have ft:=hp.caps;have capb:=fr;have caps:=ft;have r0:=Z0.lt;unfold maxLen at capb caps;have na:Hid ((s.on.n<=s.on.c/\s.on.c<=maxLen)/\s.sf.n<=s.sf.c/\s.sf.c<=maxLen):=⟨⟨hs.on.le,hs.on.cap⟩,hs.sf.le,hs.sf.cap⟩;clear hW X0 Z0 hp hs;unfold Pl.val St.val;go_enter func77,ntmps77;go_wp2_with fail;rw[HW.o];obtain⟨X,Y,aa,ac,S⟩:=HC.o W0 brf;refine(nf p s W0 Y aa).mono ?_;rintro e w1 ⟨rfl,M⟩;clear X Y aa ac S HW;obtain⟨⟨⟨l1,d0,d1⟩,l2,c0,c1,c2,c3,c4,c5,c6⟩,Y,aa,ac,S⟩:=HC.o w1 M;by_cases h0:ag p s=0;rotate_left
 .have HX:Hid (fs p s bin good seen=ag p s):=by show fs p s bin good seen=_;unfold fs;rw[if_neg h0]
  have fj:Hid (¬fs p s bin good seen=0):=by show ¬_;rw[HX.o];exact h0
  have g0:(ag p s !=0)=true:=qh;clear h0
  generalize ag p s=SE at *
  clear Y aa;obtain⟨zl,ei,eg,ej,zc1,el,zc2,cl,zc3,em,zc4,eo,zc5,ep,eh⟩:=z7 S;go_wp2_with fail;exact mu results77 S ac ow HX.o (λh=>fj.o (HX.o.trans h)) rfl rfl rfl
 have H0:=hid h0;have HR:Hid (am p s):=et h0;rw[h0];clear h0 c0 c1 c2 c3 c4 c5 c6 aa;go_wp2_with fail;refine(zq p bin w1 leb fr).mono ?_;rintro e w2 ⟨rfl,d5⟩;have M:=M.trans (d5.mono M.size);clear l1 d0 d1 l2 Y ac S d5;obtain⟨⟨⟨l1,d0,d1⟩,l2,c0,c1,c2,c3,c4,c5,c6⟩,Y,aa,ac,S⟩:=HC.o w2 M;clear c0 c1 c2 c3 c4 c5 c6;cases k1:inB bin 0 ((p.nb:Int)-1)
 .have HX:Hid (fs p s bin good seen=3):=Ka H0.o (by rw[k1];simp);exact au4
 clear aa;go_wp2_with fail;refine(Ae p good w2 les ft).mono ?_;rintro e w3 ⟨rfl,d5⟩;have M:=M.trans (d5.mono M.size);clear l1 d0 d1 l2 Y ac S d5;obtain⟨⟨⟨l1,d0,d1⟩,l2,c0,c1,c2,c3,c4,c5,c6⟩,Y,aa,ac,S⟩:=HC.o w3 M;cases k2:inB good 0 ((p.ns:Int)-1)
 .have HX:Hid (fs p s bin good seen=3):=Ka H0.o (by rw[k1,k2];simp);exact au4
 cases k3:inB seen 0 200
 .have HX:Hid (fs p s bin good seen=3):=Ka H0.o (by rw[k1,k2,k3];simp);have fj:Hid (¬fs p s bin good seen=0):=pr;clear Y aa;obtain⟨zl,ei,eg,ej,zc1,el,zc2,cl,zc3,em,zc4,eo,zc5,ep,eh⟩:=z7 S;go_wp2_with(go_at_call 34;refine ap (da _ _ _ _) ?_);exact mu results77 S ac ow HX.o dc rfl rfl rfl
 obtain⟨b,rfl⟩:=Qzz (ar k1).1;obtain⟨g,rfl⟩:=Qzz (ar k2).1;have hb:b<p.nb:=R9;have hg:g<p.ns:=aaa;have sb:=ar k3;have K3:=hid k3;have son:=HR.o.fm.sh.n;have f4:b<s.on.n:=ow;have mb:Hid ((s.on.r b).n=p.ns):=HR.o.fm.sh.len b f4;obtain⟨⟨sn,pb⟩,sq,pz⟩:=na.o;unfold maxLen at pb pz;obtain⟨bb,ob,ih,op,e0,di⟩:=aa.on.rows b f4;have j6:g<(s.on.r b).n:=by rw[mb.o];exact hg
 obtain⟨bg,og,li,ov,e1⟩:=di.ints g j6;have rl:=di.le;have rc:=di.cap;unfold maxLen at rc;have sfn:g<s.sf.n:=alf;obtain⟨bf,of,h9,ou,e2⟩:=aa.sf.ints g sfn;have j8:=hid ih;have j1:=hid h9;rw[ih] at c0;rw[li] at e0;rw[h9] at c6;have q0:(0:Int)<=(b:Int):=ow;have q1:(b:Int)<(s.on.n:Int):=ow;have q2:(0:Int)<=(g:Int):=ow;have q3:(g:Int)<((s.on.r b).n:Int):=ow;have q4:(g:Int)<(s.sf.n:Int):=ow;have pa:=HR.o.fm.sh.num b f4 g hg;have sfb:=HR.o.fm.sfb g hg;obtain⟨ON,hh⟩:∃ON,(s.on.r b).z g=ON:=⟨_,rfl⟩;obtain⟨SF,ht⟩:∃SF,s.sf.z g=SF:=⟨_,rfl⟩;have HV:=qa2 hh ht;rw[hh] at e1 pa;rw[ht] at e2 sfb;clear ih li h9 di son hh ht k1 k2 Y aa;have pi:=Qqq c0;have pl:=Qqq c6;have pp:=Qqq e0;have pq:=Qqq e1;have ps:=Qqq e2;have ly:Hid (∀wk,Calls prog 34 #[.int .i64 (SF+seen-ON),.int .i64 (-1048576),.int .i64 1048576] wk λe w'=>e = .returned (.bool (inB (SF+seen-ON) (-1048576) 1048576))/\Bw wk w'):=λwk=>ahh _ _ _ wk;go_wp2_with(go_at_call 34;refine ap (da _ _ _ _) ?_);refine Qxq ko ko ?_
 repeat(go_big_quiet_step((go_at_call 34;exact Xxz (ly.o _))))
 refine Qqz ?_;intro E lz;have ky:=ae lz;have M:=M.trans (ky.mono M.size);clear lz ky pi pl pp pq ps ly l1 d0 d1 l2 c0 c1 c2 c3 c4 c5 c6 ac S op e0 ov e1 ou e2 k3;rw[<-j8.o,<-j1.o];obtain⟨⟨⟨l1,d0,d1⟩,l2,c0,c1,c2,c3,c4,c5,c6⟩,Y,aa,ac,S⟩:=HC.o E M;cases h3:inB (SF+seen-ON) (-1048576) 1048576
 .have HX:Hid (fs p s b g seen=2):=Pc H0.o hb hg K3.o asz;have fj:Hid (¬fs p s b g seen=0):=pr;exact axu
 have bt:Hid (dr p s b g seen):=Qz H0.o hb hg K3.o asz;have HX:Hid (fs p s b g seen=0):=U7 bt.o;have j9:Hid (Calls prog 105 #[s.val] E λe w'=>∃s':St,e = .returned s'.val/\af s' s/\ah E.heap.size w' s'/\Bw E w'):=su p s E aa HR.o.fm;clear Y aa ac S h3 j8 j1;go_wp2_with fail;refine Calls.mono j9.o ?_;rintro e w5 ⟨o,rfl,au,aw,fu⟩;clear j9 l1 d0 d1 l2 c0 c1 c2 c3 c4 c5 c6;have A0:W0.heap.size<=E.heap.size:=M.size;have A2:E.heap.size<=w5.heap.size:=fu.size;have mc:Hid (w.heap.size<=W0.heap.size):=(HC.o _ brf).2.2.2.1.size;obtain⟨W6,k5,ey,K6⟩:=ab7 w5 o;have gx:=hid k5;have ex:=fu.trans (ey.mono fu.size);have g8:=M.trans (ex.mono M.size);have ca:Hid (de E.heap.size w5.heap.size W0 o W6):=⟨ah.below aw ey,K6,g8,ex.size⟩;have m9:=hid au;have f5:b<o.on.n:=by rw[au.on.1];exact f4
 have l7:g<(o.on.r b).n:=by rw[(au.on.2 b f5).1];exact j6
 have i3:g<o.sf.n:=by rw[au.sf.1];exact sfn
 have fk:Hid ((o.on.r b).z g=ON/\o.sf.z g=SF):=⟨(au.num HR.o.fm hb hg).trans HV.o.1,(au.sf.2 g i3).trans HV.o.2⟩;clear k5 ey K6 ex g8 aw fu M au;simp only[St.val]
 -- what was fixed
 obtain⟨g0,G,a1,a2,a3,a4,a5,a6,a7,a8,a9,fo,ks,fp⟩:=ca.o.own.onCell f5 l7;obtain⟨Gs,s1,s2,s3,s4,s5,s6,s7⟩:=ca.o.own.sf.cellAt i3;unfold maxLen at a8 fp s5;rw[fk.o.1] at a9;rw[fk.o.2] at s6;have j2:=qa3 a4 s1 a1;have u0:W6.cell? ⟨w5.heap.size,0,none⟩=some (.slice o.on.a o.on.n o.on.c):=ca.o.box.k 0;have u6:W6.cell? ⟨w5.heap.size,6,none⟩=some (.slice o.sf.a o.sf.n o.sf.c):=ca.o.box.k 6;have ul:=ca.o.box.lt;rw[a1] at u0;rw[s1] at u6;have q5:(b:Int)<(o.on.n:Int):=ow;have q6:(g:Int)<((o.on.r b).n:Int):=ow;have q7:(g:Int)<(o.sf.n:Int):=ow;clear a1 a4 fo s1;rw[<-gx.o] at u0 u6 ul a2 a3 a6 a9 s3 s6;go_wp2_with fail;rw[gx.o] at u0 u6 ul a2 a3 a6 a9 s3 s6 ⊢;clear gx
 generalize w5.heap.size=B7 at *
 have pv:=Qqq u0;have px:=Qqq u6;have pg:=Qqq a3;have ph:=Qqq a9;have pu:=Qqq s6;refine jq [(true,[0,1,2,3,4,5,6,7,8,9,10,11,12,13,14,15,16,17,18,19],some 20)] ?_;refine⟨λw'=>∃p:Regrown,w'=grow (redrawn W6 p.d) p.os,Qqx (brf.drew),λh=>ix,?_⟩;simp only[jg]
 repeat(go_big_quiet_step(fail))
 refine Qqz ?_;clear pv px pg ph pu u0 u6 ul a2 a3 a6 a9 s3 s6;have D:Bw W6 W6.drew:=brf.drew
 generalize W6.drew=wj at *
 have ay:=hid (ca.o.below D);clear ca D;obtain⟨Gq,t1,t2,t3,t4,t5,t6,t7⟩:=ay.o.own.sf.cellAt i3;have eG:Gq=Gs:=by rw[j2.o.2.1] at t1;simpa using t1.symm
 subst eG;have t8:=t7 g;have cy:Hid (de E.heap.size B7 W0 (setFix o g (SF+seen-ON)) (wj.setCell ⟨Gq,g,none⟩ (.int .i64 (SF+seen-ON)))):=ay.o.setFix A0 j2.o.2.1 g (SF+seen-ON);clear t1 t7 ay;refine ma 20 rfl ?_;go_wp2_with fail;refine NoPanic.normal ?_;clear t2 t3 t4 t5 t6 t8
 generalize wj.setCell ⟨Gq,g,none⟩ (.int .i64 (SF+seen-ON))=W7 at *
 -- what lies there
 obtain⟨n9,G',a1,a2,a3,a4,a5,a6,a7,a8,a9,fo,ks,fp⟩:=cy.o.own.onCell (s:=setFix o g (SF+seen-ON)) f5 l7;have u0:W7.cell? ⟨B7,0,none⟩=some (.slice o.on.a o.on.n o.on.c):=cy.o.box.k 0;have ul:=cy.o.box.lt;have kr:o.on.a=some ⟨n9,0,none⟩:=a1;have nr:(o.on.r b).a=some ⟨G',0,none⟩:=a4;rw[kr] at u0;have nq:=fo g;have gq:Hid (de E.heap.size B7 W0 (setOn (setFix o g (SF+seen-ON)) b g seen) (W7.setCell ⟨G',g,none⟩ (.int .i64 seen))):=cy.o.setOn A0 (b:=b) f5 a4 g seen;have bv:Hid (p8 s b g seen 0 (setOn (setFix o g (SF+seen-ON)) b g seen)):=by
  have h:=p8.start (seen:=seen) HR.o hb hg m9.o;have e:kw o b g seen=setOn (setFix o g (SF+seen-ON)) b g seen:=by
   unfold kw;rw[fk.o.1,fk.o.2,<-Int.add_sub_assoc]
   rfl
  rw[e] at h;exact h
 unfold maxLen at a8 fp;have A3:W0.heap.size<=W7.heap.size:=cy.o.bel.size;clear a1 a4 kr nr fo cy;obtain⟨x2,l0⟩:∃x2,setOn (setFix o g (SF+seen-ON)) b g seen=x2:=⟨_,rfl⟩;rw[l0] at gq bv;clear l0;obtain⟨W9,k6,hv,K9⟩:∃W,(W7.setCell ⟨G',g,none⟩ (.int .i64 seen)).alloc (.cells #[.int .i64 0,.int .i64 0,.int .i64 0,.int .i64 0,.int .i64 0,.int .i64 0,.int .i64 0,.int .i64 0,.int .i64 0,.int .i64 0,.int .i64 0,.int .i64 0] 144)=W/\Below (W7.setCell ⟨G',g,none⟩ (.int .i64 seen)).heap.size (W7.setCell ⟨G',g,none⟩ (.int .i64 seen)) W/\Blk W W7.heap.size 144 12 (zj (fa s b g 0)):=
  ⟨_,rfl,brf.alloc nlr _,(Blk.mk' (cur:=#[.int .i64 0,.int .i64 0,.int .i64 0,.int .i64 0,.int .i64 0,.int .i64 0,.int .i64 0,.int .i64 0,.int .i64 0,.int .i64 0,.int .i64 0,.int .i64 0]) vq rfl).congr (λj hj=>by
   unfold zj;rw[ae4 HR.o]
   match j,hj with
   | 0,_=>rfl
   | 1,_=>rfl
   | 2,_=>rfl
   | 3,_=>rfl
   | 4,_=>rfl
   | 5,_=>rfl
   | 6,_=>rfl
   | 7,_=>rfl
   | 8,_=>rfl
   | 9,_=>rfl
   | 10,_=>rfl
   | 11,_=>rfl)⟩
 have kl:Hid ((W7.setCell ⟨G',g,none⟩ (.int .i64 seen)).alloc (.cells #[.int .i64 0,.int .i64 0,.int .i64 0,.int .i64 0,.int .i64 0,.int .i64 0,.int .i64 0,.int .i64 0,.int .i64 0,.int .i64 0,.int .i64 0,.int .i64 0] 144)=W9):=k6;have j4:Hid (CoI E.heap.size B7 W7.heap.size W0 s b g seen 0 x2 W9):=⟨gq.o.below hv,K9,bv.o,Int.le_refl _,bt.o.miss0⟩;clear k6 hv K9 gq bv;go_wp2_with fail;rw[kl.o];clear kl u0 ul a2 a3 a6 a9 nq a5 a7 a8 ks fp
 generalize W7.heap.size=BC at *
 have r9:=bt.o.bound;obtain⟨ci,lr,lu⟩:=axd;have mz:=hid lr;have m0:=hid lu;clear lr lu
 go_loopw [] (λwk=>∃n:Nat,Hid (CoN E.heap.size B7 BC W0 s b g seen wk n)) (λwk=>ci (CoN E.heap.size B7 BC W0 s b g seen wk))
 case atStart=>exact⟨_,j4.o.num⟩
 obtain⟨n0,HN0⟩:=hrel;clear j4;obtain⟨J,x,hJ,hI⟩:=mz.o _ ⟨n0,HN0.o⟩;have HJ:=hid hJ;have HI:=hid hI;have j0:=hI.j0;have jm:=hI.jm;have HF:Hid (cu p x):=p8.formed bt.o hI.j0 hI.cj;have gm:Hid (ce x b g x.hs.n+bp x b g x.ms.n=pk s b g-J):=p8.boundJ bt.o hI.j0 (by have h:=hI.jm;unfold fg at h;omega) hI.cj;clear HN0 hJ hI n0;obtain⟨m1,p0,p1,p2,p3,p4,p5,p6⟩:=Boxed.of HI.o.rel.box;go_wp2_with fail;clear m1 p0 p1 p2 p3 p4 p5 p6;refine(Mt p x b g wr HI.o.rel.own.at HF.o).mono ?_;rintro e wa ⟨rfl,d7⟩;rw[gm.o];have bx:Hid (CoI E.heap.size B7 BC W0 s b g seen J x wa):=HI.o.below d7;have fe:Hid (∀(n:Nat) (wk:World),CoN E.heap.size B7 BC W0 s b g seen wk n->(n:Int)<fg s b g seen-J->ci (CoN E.heap.size B7 BC W0 s b g seen wk)<ci (CoN E.heap.size B7 BC W0 s b g seen wr)):=λn wk h hn=>by
  have a:=m0.o _ _ h;have c:=HJ.o;omega
 clear HI d7 HJ;obtain⟨BZ,d6⟩:∃BZ,pk s b g-J=BZ:=⟨_,rfl⟩;have bz0 : -100000<=BZ/\BZ<=100000:=by
  have h1:=(pd (s:=s) (b:=b) (g:=g) (n:=s.hs.n) HR.o.fm.holdN);have h2:=(lm (s:=s) (b:=b) (g:=g) (n:=s.ms.n) HR.o.fm.moveN);have h3:=HR.o.fm.hs72;have h4:=HR.o.fm.ms8;unfold fg at jm;unfold pk at d6 jm;omega
 have js:Hid (ce x b g x.hs.n+bp x b g x.ms.n=BZ):=gm.o.trans d6;clear gm;rw[d6];by_cases hd:J<fg s b g seen;rotate_left
 .have fx:J=fg s b g seen:=ow;have q8:¬seen<BZ:=by unfold fg at fx;omega
  have fn:Hid (af x (qz s b g seen)):=by
   have h:af x (kw (jn s b g J) b g seen):=bx.o.cj;rw[fx] at h;exact h
  have kg:=hid bx.o.rel;obtain⟨QQ,f1⟩:∃QQ,fa s b g (fg s b g seen)=QQ:=⟨_,rfl⟩;have jy:Hid (Blk wa BC 144 12 (zj QQ)):=by
   have h:=bx.o.cut;rw[fx,f1] at h;exact h
  have m7:=hid f1;have fl:Hid (QIn p b (λi j=>QQ i j) x):=bt.o.qin.same fn.o (λi j _ _=>by rw[<-f1];rfl);clear d6 f1 bx fe js fx hd jm j0 bz0;go_wp2_with fail
  go_loopw [17] (λkv wk=>∃(i:Nat) (cur:St),i<=x.os.n/\kv = .int .i64 i/\Hid (de E.heap.size B7 W0 cur wk)/\Hid (Blk wk BC 144 12 (zj QQ))/\Hid (Mk p x b QQ i cur)) (λkv _=>x.os.n-(intOf kv).toNat)
  case atStart=>exact⟨0,x,Qxz _,rfl,kg,jy,af.self x⟩
  clear kg jy;obtain⟨i,cur,hi,rfl,HK,be,HA⟩:=hrel;have HN0:Hid (cur.os.n=x.os.n):=(jc.pos fl.o (λ_ _=>rfl) hi HA.o).al.osn;have n1:(cur.os.n:Int)<=(x.os.n:Int):=Su;have n2:(x.os.n:Int)<=(cur.os.n:Int):=Su;have u1:wr.cell? ⟨B7,1,none⟩=some (.slice cur.os.a cur.os.n cur.os.c):=HK.o.box.k 1;have u2:=HK.o.box.lt;have ol:cur.os.n<=cur.os.c:=HK.o.own.os.le;have oc:cur.os.c<=maxLen:=HK.o.own.os.cap;have os4:x.os.n<=4:=HF.o.os4;unfold maxLen at oc;by_cases c9:i<x.os.n;rotate_left
  .have oz:i=x.os.n:=ow;have q4:(cur.os.n:Int)<=(i:Int):=ow;have q5:¬(i:Int)<(cur.os.n:Int):=ow;have HY:Hid (af cur (qd p s b g seen)):=by
    refine jc.same bt.o.qin (λ_ _=>rfl) (Nat.le_refl s.os.n) bt.o.all ?_;have n4:x.os.n=s.os.n:=fn.o.os.1;have h:=HA.o;rw[oz,n4] at h;refine jc.base (m':=Cs x) fn.o (λ_ _=>rfl) (λi hi => ?_) (λi j _ _ => ?_) (Nat.le_refl s.os.n) h
    .exact(fn.o.os.2 i (by rw[n4];exact hi)).2.1
    show QQ i j=fa s b g (fg s b g seen) i j;rw[m7.o]
   obtain⟨m1,p0,p1,p2,p3,p4,p5,p6⟩:=Boxed.of HK.o.box;obtain⟨-,-,-,ac,S⟩:=HC.o wr HK.o.bel;have HZ:=qa2 ac S;obtain⟨zl,ei,eg,ej,zc1,el,zc2,cl,zc3,em,zc4,eo,zc5,ep,eh⟩:=z7 S;clear ac S u1 u2;go_wp2_with fail;have KZ:=s7b HZ.o.2 cur;have k9:=s7w (b:=w.heap.size+2) HZ.o.1 ow cur;have hm:=s7o HK.o.own HZ.o.2 cur;unfold set7 at KZ k9 hm;obtain⟨nv,nw,nx,ny,fq,nz,n3⟩:=dp KZ;refine Xzq (v := .tuple #[cur.val,.int .i64 0]) (by simp[results,results77,go_sem,St.val,nv,nw,nx,ny,fq,nz,n3]) rfl ?_;exact⟨cur,ja,hm.at,⟨λ_=>HY.o,λh=>absurd HX.o h⟩,λ_=>hm.mono (Qzx mc.o A0),k9⟩
  have q0:(0:Int)<=(i:Int):=ow;have q1:(i:Int)<(cur.os.n:Int):=ow;have sj:=(HF.o.lns i c9).2;go_wp2_with fail;clear u1 u2 ol oc q1 n1 n2 HN0
  go_loopw [18] (λjv wk=>∃(j:Nat) (H:St),j<=(x.os.z i).ls.n/\jv = .int .i64 j/\Hid (de E.heap.size B7 W0 H wk)/\Hid (Blk wk BC 144 12 (zj QQ))/\Hid (xe p x b QQ i j H)) (λjv _=>(x.os.z i).ls.n-(intOf jv).toNat)
  case atStart=>exact⟨0,cur,Qxz _,rfl,HK,be,HA.o.row⟩
  clear HK be HA;obtain⟨j,H,hj,rfl,HK,be,HB⟩:=hrel;have dw:Hid (Pos p b (λi j=>QQ i j) x i j H):=HB.o.pos fl.o c9 hj;have en:H.os.n=x.os.n:=dw.o.al.osn;have lk:i<H.os.n:=by rw[en];exact c9
  have q1:(i:Int)<(H.os.n:Int):=ow;have kn:(H.os.z i).ls.n=(x.os.z i).ls.n:=(dw.o.al.kind i c9).2;have r6:=hid kn;have se:(H.os.z i).ls.n<=(x.os.z i).ls.n:=Nat.le_of_eq kn;have sg:(x.os.z i).ls.n<=(H.os.z i).ls.n:=Nat.le_of_eq kn.symm;obtain⟨gO,g1,g2,g3,g4,g5,g6⟩:=HK.o.own.orderCells (o:=i) lk;have u1:wr.cell? ⟨B7,1,none⟩=some (.slice H.os.a H.os.n H.os.c):=HK.o.box.k 1;rw[g1] at u1;have u2:=HK.o.box.lt;have ol:H.os.n<=H.os.c:=HK.o.own.os.le;have oc:H.os.c<=maxLen:=HK.o.own.os.cap;unfold maxLen at oc;obtain⟨_,_,-,-,-,-,ig⟩:=HK.o.own.at.os.ods i lk;have ll:=ig.le;have lc:=ig.cap;unfold maxLen at lc;have HG:Hid (H.os.a=some ⟨gO,0,none⟩):=g1;clear g1 g6 en kn ig;by_cases lp:j<(x.os.z i).ls.n;rotate_left
  .have lq:j=(x.os.z i).ls.n:=ow;have q4:((H.os.z i).ls.n:Int)<=(j:Int):=ow;have q5:¬(j:Int)<((H.os.z i).ls.n:Int):=ow;have HN:Hid (Mk p x b QQ (i+1) H):=by have h:=HB.o;rw[lq] at h;exact h.next
   clear lq dw HB;go_wp2_with fail;go_roundw
   case rel=>exact⟨i+1,H,ow,vo,HK,be,HN⟩
   case measure=>simp[intOf];omega
  have q2:(0:Int)<=(j:Int):=ow;have q3:(j:Int)<((H.os.z i).ls.n:Int):=ow;have v4:(i:Int)<4:=ow;have v5:(j:Int)<3:=ow;have gv:Hid (lf p b H i j (QQ i j)):=dw.o.stepIn fl.o c9 lp;have sc:=gv.o.n0;have kk:=hid gv.o.tki;have kj:Hid (∀y,ng p b H i j (QQ i j) y->xe p x b QQ i (j+1) y):=λy T=>HB.o.step T;have ki:Hid (QQ i j=0->xe p x b QQ i (j+1) H):=λh=>HB.o.skip fl.o c9 lp h;have ed:wr.cell? ⟨BC,i*3+j,none⟩=some (.int .i64 (QQ i j)):=by have h:=be.o.cell (j:=i*3+j) ow;rw[ad0 _ ow] at h;exact h
  have bl:=be.o.lt;clear gv HB dw
  generalize QQ i j=QV at *
  by_cases hq:0<QV;rotate_left
  .have HN:Hid (xe p x b QQ i (j+1) H):=ki.o ow;go_wp2_with fail;go_roundw
   case rel=>exact⟨j+1,H,ow,vo,HK,be,HN⟩
   case measure=>simp[intOf];omega
  go_wp2_with fail;clear u1 u2 g3 g4 g5;obtain⟨⟨⟨l1,d0,d1⟩,-⟩,Y,-⟩:=HC.o wr HK.o.bel;obtain⟨m1,p0,p1,p2,p3,p4,p5,p6⟩:=Boxed.of HK.o.box;have ka:=hid Y;have pm:=Qqq d0;have pn:=Qqq d1;have im:=Qqq p0;have ip:=Qqq p1;have iq:=Qqq p2;have ir:=Qqq p3;have it:=Qqq p4;have iu:=Qqq p5;have iv:=Qqq p6;have iw:=Qqq ed;refine jq [(true,[0,1,2,3,4,5,6,7,8,9],some 10),(false,[11,12,13],some 14)] ?_;refine⟨λw'=>∃p:Regrown,w'=grow (redrawn wr p.d) p.os,Qqx (brf.drew),λh=>ix,?_⟩;simp only[jg]
  repeat(go_big_quiet_step(fail))
  refine Qqz ?_;clear pm pn im ip iq ir it iu iv iw l1 d0 d1 m1 p0 p1 p2 p3 p4 p5 p6 ed bl Y;have D:Bw wr wr.drew:=brf.drew
  generalize wr.drew=wj at *
  have kc:=hid (ka.o.below D);have ay:=hid (HK.o.below D);have jz:=hid (be.o.below D);clear D ka HK be;refine ma 10 rfl ?_;go_wp2_with fail;refine(Qf p H i j E.heap.size QV b wj kc.o ay.o.own ay.o.le kk.o).mono ?_;rintro e w8 ⟨y,rfl,T,k4,g9,hf⟩;have HT:Hid (xe p x b QQ i (j+1) y):=kj.o y T;have e8:Hid (Blk w8 B7 36 7 (λj=>H.cells.getD j default)):=hf _ _ _ _ dc ay.o.box;have ju:Hid (Blk w8 BC 144 12 (zj QQ)):=hf _ _ _ _ dc jz.o;have m5:=hid k4;have m2:=hid (ay.o.bel.trans (g9.mono A0));have HE8:Hid (E.heap.size<=w8.heap.size):=Qzx ay.o.le g9.size;clear T k4 g9 hf kj kk kc ay jz ki
  generalize (Tk.go (avT H i j) QV (fh p b)).left=LL at *
  simp only[St.val];go_wp2_with fail;refine⟨λ_=>True,trivial,λ_ _=>trivial,?_⟩;simp only[jg]
  repeat(go_big_quiet_step(fail))
  refine Qqz ?_;have k8:=e8.o;obtain⟨zl,ei,eg,ej,zc1,el,zc2,cl,zc3,em,zc4,eo,zc5,ep,eh⟩:=z7 k8;clear k8;refine ma 14 rfl ?_;go_wp2_with fail;have HN:Hid (de E.heap.size B7 W0 y (set7 w8 B7 (.slice y.on.a y.on.n y.on.c) (.slice y.os.a y.os.n y.os.c) (.slice y.hs.a y.hs.n y.hs.c) (.slice y.ms.a y.ms.n y.ms.c) (.slice y.si.a y.si.n y.si.c) (.slice y.so.a y.so.n y.so.c) (.slice y.sf.a y.sf.n y.sf.c))/\Blk (set7 w8 B7 (.slice y.on.a y.on.n y.on.c) (.slice y.os.a y.os.n y.os.c) (.slice y.hs.a y.hs.n y.hs.c) (.slice y.ms.a y.ms.n y.ms.c) (.slice y.si.a y.si.n y.si.c) (.slice y.so.a y.so.n y.so.c) (.slice y.sf.a y.sf.n y.sf.c)) BC 144 12 (zj QQ)):=by
   have K:=s7b e8.o y;have hb:=s7w (b:=B7) m2.o (Qzx A0 A2) y;have ne:=Blk.ne2 ju.o e8.o dc;refine⟨⟨s7o m5.o e8.o y,K.congr (λj hj=>by match j,hj with|0,_=>rfl|1,_=>rfl|2,_=>rfl|3,_=>rfl|4,_=>rfl|5,_=>rfl|6,_=>rfl),hb,ag0⟩,?_⟩;unfold set7;exact((((((ju.o.other (a:=⟨B7,0,none⟩) ne _).other (a:=⟨B7,1,none⟩) ne _).other (a:=⟨B7,2,none⟩) ne _).other (a:=⟨B7,3,none⟩) ne _).other (a:=⟨B7,4,none⟩) ne _).other (a:=⟨B7,5,none⟩) ne _).other (a:=⟨B7,6,none⟩) ne _
  unfold set7 at HN;refine NoPanic.normal ?_;go_wp2_with fail;go_roundw
  case rel=>exact⟨j+1,y,ow,vo,HN.o.1,HN.o.2,HT⟩
  case measure=>simp[intOf];omega
 have q8:seen<BZ:=by unfold fg at hd;omega
 clear d6;obtain⟨m1,p0,p1,p2,p3,p4,p5,p6⟩:=Boxed.of bx.o.rel.box;go_wp2_with fail;clear m1 p0 p1 p2 p3 p4 p5 p6;refine(Za x b g wa bx.o.rel.own.at).mono ?_;rintro e wb ⟨rfl,kx⟩;have F:Hid (CoI E.heap.size B7 BC W0 s b g seen J x wb):=bx.o.below kx;clear bx kx;cases hl:ld (cx b g) x.ms.z x.ms.n with
 | none =>
  have LV:o5 (cx b g) x.ms.z x.ms.n = -1:=by unfold o5;rw[hl]
  rw[LV];have HL:=hid hl;obtain⟨k,ie⟩:∃k,ld (cg x b g) x.hs.z x.hs.n=some k:=by
   cases hq:ld (cg x b g) x.hs.z x.hs.n with
   | some k=>exact⟨k,rfl⟩
   | none =>
    have h1:=Bh hq;have h2:=Bh hl;have h3:=Gl x b g x.hs.n;have h4:=xu x b g x.ms.n;have h5:=js.o;omega
  have HH:=hid ie;obtain⟨hk,lg⟩:=F2 ie;have ia:=zo.1 lg;obtain⟨t1,t2,t3⟩:=je (HF.o.home k hk);obtain⟨f,ic⟩:=Qzz t1.1;obtain⟨t,ib⟩:=Qzz t2.1;rw[ic] at t1 t2;rw[ib] at t2;have on:f<x.os.n:=t1.2;have ln:t<(x.os.z f).ls.n:=t2.2;have o4:f<4:=aaf;have l3:t<3:=by have:=(HF.o.lns f on).2;omega
  obtain⟨L,h6⟩:∃L,(x.hs.z k).n=L:=⟨_,rfl⟩;have zn:=HF.o.holdN k hk;rw[h6] at zn;have HZ:Hid (x.hs.z k=⟨(f:Int),(t:Int),(b:Int),L⟩):=by
   show x.hs.z k=_;rw[<-ic,<-ib,<-h6,<-ia.1]
  have o0:=F.o.rel.own.hs.2.1;have sd:=F.o.rel.own.hs.1;have sa:=HF.o.hs72;unfold maxLen at o0;obtain⟨Gh,he,-,bk⟩:=F.o.rel.own.hs.2.2.2 (show 0<x.hs.n by omega);have fc:=hid he;have j3:Hid (∀wk,Bw wb wk->wk.cell? ⟨Gh,k*4,none⟩=some (.int .i64 (f:Int))/\wk.cell? ⟨Gh,k*4+1,none⟩=some (.int .i64 (t:Int))/\wk.cell? ⟨Gh,k*4+2,none⟩=some (.int .i64 (b:Int))/\wk.cell? ⟨Gh,k*4+3,none⟩=some (.int .i64 L)/\Gh<wk.heap.size):=λwk M=>by
   have h:=bk.below M;have z:=HZ.o;have e:∀c,c<4->(ba x.hs.n x.hs.z).getD (k*4+c) default=(dt (⟨(f:Int),(t:Int),(b:Int),L⟩:Hd)).getD c default:=λc hc=>by rw[tp (z:=x.hs.z) hk hc,z]
   exact⟨(h.cell (j:=k*4) G7).trans (congrArg some (e 0 dc)),(h.cell (j:=k*4+1) G7).trans (congrArg some (e 1 dc)),(h.cell (j:=k*4+2) G7).trans (congrArg some (e 2 dc)),(h.cell (j:=k*4+3) G7).trans (congrArg some (e 3 dc)),h.lt⟩
  clear LV hl ie lg ia t1 t2 t3 ic ib h6 bk;obtain⟨m1,p0,p1,p2,p3,p4,p5,p6⟩:=Boxed.of F.o.rel.box;rw[he] at p2;clear he;have q0:(0:Int)<=(k:Int):=ow;have q1:(k:Int)<(x.hs.n:Int):=ow;have im:=Qqq p0;have ip:=Qqq p1;have iq:=Qqq p2;have ir:=Qqq p3;have it:=Qqq p4;have iu:=Qqq p5;have iv:=Qqq p6;go_wp2_with fail;refine dg (λw'=>∃p:Regrown,w'=grow (redrawn wb p.d) p.os) [0,1,2,3,4] [5,6,7,8] [(true,9)] (Qqx (brf.drew)) ?_;simp only[jg]
  repeat(go_big_quiet_step(fail))
  refine Qqz ?_;clear im ip iq ir it iu iv m1 p0 p1 p2 p3 p4 p5 p6;refine⟨λj v gg wk=>(j=5->v = .int .i64 (k:Int)/\gg=[])/\(j=6->v = .pointer (some ⟨Gh,k*4,none⟩)/\gg=[])/\(j=7->v = .agg #[.int .i64 (f:Int),.int .i64 (t:Int),.int .i64 (b:Int),.int .i64 L]/\gg=[])/\(j=8->∃B,v = .pointer (some ⟨B,0,none⟩)/\gg=[B]/\wb.heap.size<=B/\Blk wk B 107 4 (λ_ => .int .i64 0)),
   Qjx ⟨λv g w w' M h=>⟨h.1,λe=>absurd e dc,λe=>absurd e dc,λe=>absurd e dc⟩,Qjx ⟨λv g w w' M h=>⟨λe=>absurd e dc,h.2.1,λe=>absurd e dc,λe=>absurd e dc⟩,Qjx ⟨λv g w w' M h=>⟨λe=>absurd e dc,λe=>absurd e dc,h.2.2.1,λe=>absurd e dc⟩,Qjx ⟨λv g w w' M h=>⟨λe=>absurd e dc,λe=>absurd e dc,λe=>absurd e dc,λe=>(by obtain⟨B,h1,h2,h3,h4⟩:=h.2.2.2 e;exact⟨B,h1,h2,h3,h4.below M⟩)⟩,Qjq _⟩⟩⟩⟩,
   Qjx ⟨λv g w h=>(by rw[(h.1 rfl).2];intro x hx;cases hx),Qjx ⟨λv g w h=>(by rw[(h.2.1 rfl).2];intro x hx;cases hx),Qjx ⟨λv g w h=>(by rw[(h.2.2.1 rfl).2];intro x hx;cases hx),Qjx ⟨λv g w h=>(by obtain⟨B,-,h2,-,h4⟩:=h.2.2.2 rfl;rw[h2];intro x hx;rw[List.mem_singleton] at hx;rw[hx];exact h4.lt),Qjq _⟩⟩⟩⟩,
   Qjx ⟨?zt5,Qjx ⟨?zt6,Qjx ⟨?zt7,Qjx ⟨?zt8,Qjq _⟩⟩⟩⟩,?ztdone⟩
  case zt5 =>
   intro V G wk K hS hd hK;have hX:=ae hS;have dx:=hid hX;have m4:Hid (o5 (cg x b g) x.hs.z x.hs.n=(k:Int)):=by show _=_;unfold o5;rw[HH.o]
   have m3:Hid (Calls prog 112 #[.agg #[.slice x.on.a x.on.n x.on.c,.slice x.os.a x.os.n x.os.c,.slice (some ⟨Gh,0,none⟩) x.hs.n x.hs.c,.slice x.ms.a x.ms.n x.ms.c,.slice x.si.a x.si.n x.si.c,.slice x.so.a x.so.n x.so.c,.slice x.sf.a x.sf.n x.sf.c],.int .i64 (b:Int),.int .i64 (g:Int)] wk λe w'=>e = .returned (.int .i64 (k:Int))/\Bw wk w'):=by
    have h:=Y9 p x b g wk (F.o.rel.below dx.o).own.at HF.o;rw[St.val,fc.o,m4.o] at h;exact h
   refine ai _ rfl ?_;simp only[bw] at hK ⊢;go_wp2_with fail;refine Calls.mono m3.o ?_;rintro e wj ⟨rfl,ha⟩;have kp:=qa2 (dx.o.trans (ha.mono dx.o.size)) ha;clear ha;go_wp2_with fail;exact hK _ [] _ (Qqx kp.o.1) kp.o.2 (λx hx=>sy) ⟨λ_=>⟨rfl,rfl⟩,λe=>absurd e dc,λe=>absurd e dc,λe=>absurd e dc⟩
  case zt6 =>
   intro V G wk K hS hd hK;have hX:=ae hS;have ox:=((hd 5 (Qjz ko) vq).1 rfl).1;refine ai _ rfl ?_;simp only[bw,ox] at hK ⊢;go_wp2_with fail;exact hK _ [] _ hS brf (λx hx=>sy) ⟨λe=>absurd e dc,λ_=>⟨rfl,rfl⟩,λe=>absurd e dc,λe=>absurd e dc⟩
  case zt7 =>
   intro V G wk K hS hd hK;have hX:=ae hS;have oy:=((hd 6 (Qjz ko) vq).2.1 rfl).1;obtain⟨y0,y1,y2,y3,y4⟩:=j3.o wk hX;refine ai _ rfl ?_;simp only[bw,oy] at hK ⊢;go_wp2_with fail;exact hK _ [] _ hS brf (λx hx=>sy) ⟨λe=>absurd e dc,λe=>absurd e dc,λ_=>⟨rfl,rfl⟩,λe=>absurd e dc⟩
  case zt8 =>
   intro V G wk K hS hd hK;have hX:=ae hS;refine ai _ rfl ?_;simp only[bw] at hK ⊢;go_wp2_with fail;exact hK _ [wk.heap.size] _ (Qqx (hX.alloc hX.size _)) (brf.alloc nlr _) (λx hx=>Ej) ⟨λe=>absurd e dc,λe=>absurd e dc,λe=>absurd e dc,λ_=>⟨wk.heap.size,rfl,rfl,hX.size,(Blk.mk' (cur:=#[.int .i64 0,.int .i64 0,.int .i64 0,.int .i64 0]) rfl rfl).congr (λj hj=>by match j,hj with|0,_=>rfl|1,_=>rfl|2,_=>rfl|3,_=>rfl)⟩⟩
  case ztdone =>
   intro V G' wk hS hD hA;have oa:=((hD 5 vq).1 rfl).1;have od:=((hD 6 vq).2.1 rfl).1;have oe:=((hD 7 vq).2.2.1 rfl).1;obtain⟨Q,d4,dz,h1l,U⟩:=(hD 8 vq).2.2.2 rfl;have hX:=ae hS;have dx:=hid hX;clear hS hD hA dz;simp only[bw,d4,oa,od,oe];have z1:=U.lt;have mq:=U.frozen 0;have mr:=U.frozen 1;have mt:=U.frozen 2;have mv:=U.frozen 3;have mm:=U.k 0;have mn:=U.k 1;have mo:=U.k 2;have mp:=U.k 3;have K1:=(((U.set 0 (.int .i64 (f:Int))).set 1 (.int .i64 (t:Int))).set 2 (.int .i64 (b:Int))).set 3 (.int .i64 L);have gw:Hid (Blk ((((wk.setCell ⟨Q,0,none⟩ (.int .i64 (f:Int))).setCell ⟨Q,1,none⟩ (.int .i64 (t:Int))).setCell ⟨Q,2,none⟩ (.int .i64 (b:Int))).setCell ⟨Q,3,none⟩ (.int .i64 L)) Q 107 4 (λj=>(#[.int .i64 (f:Int),.int .i64 (t:Int),.int .i64 (b:Int),.int .i64 L]:Array Value).getD j default)/\Bw wb ((((wk.setCell ⟨Q,0,none⟩ (.int .i64 (f:Int))).setCell ⟨Q,1,none⟩ (.int .i64 (t:Int))).setCell ⟨Q,2,none⟩ (.int .i64 (b:Int))).setCell ⟨Q,3,none⟩ (.int .i64 L))):=⟨K1.congr (λj hj=>by match j,hj with|0,_=>rfl|1,_=>rfl|2,_=>rfl|3,_=>rfl),(((hX.setCell (p:=⟨Q,0,none⟩) h1l (.int .i64 (f:Int))).setCell (p:=⟨Q,1,none⟩) h1l (.int .i64 (t:Int))).setCell (p:=⟨Q,2,none⟩) h1l (.int .i64 (b:Int))).setCell (p:=⟨Q,3,none⟩) h1l (.int .i64 L)⟩;clear K1 U hX;refine bu 9 rfl ?_;go_wp2_with fail;refine⟨fw.yes,?_⟩;clear z1 mq mr mt mv mm mn mo mp
   generalize ((((wk.setCell ⟨Q,0,none⟩ (.int .i64 (f:Int))).setCell ⟨Q,1,none⟩ (.int .i64 (t:Int))).setCell ⟨Q,2,none⟩ (.int .i64 (b:Int))).setCell ⟨Q,3,none⟩ (.int .i64 L))=wc at *
   have bz:Hid (CoI E.heap.size B7 BC W0 s b g seen J x wc):=F.o.below gw.o.2;have bs:=hid gw.o.1;clear F gw dx j3;refine NoPanic.normal ?_;have hr:=HF.o.hold;have km:Hid (Calls prog 108 #[.slice (some ⟨Gh,0,none⟩) x.hs.n x.hs.c,.int .i64 (f:Int),.int .i64 (t:Int),.int .i64 (b:Int),.int .i64 (L-1)] wc λe w'=>∃m:Hs,e = .returned (.slice m.a m.n m.c)/\ct wc.heap.size 107 w' m/\ye x.hs m k/\Bw wc w'):=by
    have S:=HZ.o;have k7:=bz.o.rel.own.hs.at;have ek:bj (x.hs.z k)=bj (⟨(f:Int),(t:Int),(b:Int),L-1⟩:Hd):=by rw[S];rfl
    have rg:Dj (⟨(f:Int),(t:Int),(b:Int),L-1⟩:Hd):=by have h:=Rz (cd hr k hk);rw[S] at h;exact h
    have lo:∀j,j<k->bj (x.hs.z j)<bj (⟨(f:Int),(t:Int),(b:Int),L-1⟩:Hd):=λj hj=>by rw[<-ek];exact re hr j k hj hk
    have lj:∀j,k<j->j<x.hs.n->bj (⟨(f:Int),(t:Int),(b:Int),L-1⟩:Hd)<bj (x.hs.z j):=λj h1 h2=>by rw[<-ek];exact re hr k j h1 h2
    by_cases c:L=1
    .have h:=Tp x.hs ⟨(f:Int),(t:Int),(b:Int),L-1⟩ k wc k7 hr rg hk ek (by show L-1=0;omega) lo lj;rw[Hs.val,fc.o] at h;refine h.mono λe w' => ?_;rintro⟨m,h1,h2,h3,h4,h5⟩;refine⟨m,h1,h2,?_,h5⟩;unfold ye;rw[S,if_pos (show L=1 from c)];exact⟨h3,λi _=>by rw[h4]⟩
    have h:=Wc x.hs ⟨(f:Int),(t:Int),(b:Int),L-1⟩ k wc k7 hr rg hk ek (by show ¬L-1=0;omega) lo lj;rw[Hs.val,fc.o] at h;refine h.mono λe w' => ?_;rintro⟨m,h1,h2,h3,h4,h5⟩;refine⟨m,h1,h2,?_,h5⟩;unfold ye;rw[S,if_neg (show ¬L=1 from c)];refine⟨h3,λi _ => ?_⟩;rw[h4];unfold ud io;by_cases e:i=k
    .rw[if_pos e,if_pos e,e,S];rfl
    rw[if_neg e,if_neg e]
   obtain⟨m1,p0,p1,p2,p3,p4,p5,p6⟩:=Boxed.of bz.o.rel.box;rw[fc.o] at p2;have y0:wc.cell? ⟨Q,0,none⟩=some (.int .i64 (f:Int)):=bs.o.k 0;have y1:wc.cell? ⟨Q,1,none⟩=some (.int .i64 (t:Int)):=bs.o.k 1;have y2:wc.cell? ⟨Q,2,none⟩=some (.int .i64 (b:Int)):=bs.o.k 2;have y3:wc.cell? ⟨Q,3,none⟩=some (.int .i64 L):=bs.o.k 3;have y4:=bs.o.lt;clear hr;go_wp2_with fail;clear m1 p0 p1 p2 p3 p4 p5 p6 y0 y1 y2 y3 y4;refine Calls.mono km.o ?_;rintro e wd ⟨m,rfl,lw,lx,D⟩;have gs:=hid lx;have cb:=bz.o.rel.below D;have cf:Hid (de E.heap.size B7 W0 (withHolds x m) (wd.setCell ⟨B7,2,none⟩ (.slice m.a m.n m.c))):=cb.holds ow (lw.mono bz.o.rel.le);have bq:Hid (Blk (wd.setCell ⟨B7,2,none⟩ (.slice m.a m.n m.c)) Q 107 4 (λj=>(#[.int .i64 (f:Int),.int .i64 (t:Int),.int .i64 (b:Int),.int .i64 L]:Array Value).getD j default)):=(bs.o.below D).other (a:=⟨B7,2,none⟩) (Blk.ne2 (bs.o.below D) cb.box dc) _;have gn:Hid (Blk (wd.setCell ⟨B7,2,none⟩ (.slice m.a m.n m.c)) BC 144 12 (zj (fa s b g J))):=(bz.o.cut.below D).other (a:=⟨B7,2,none⟩) (Blk.ne2 (bz.o.cut.below D) cb.box dc) _;have bv:=hid bz.o.cj;have x1:=cb.box.lt;have qc:=cb.box.frozen 2;have x3:=cb.box.k 2;clear cb lw lx D km bz bs;go_wp2_with fail;clear x1 qc x3
   generalize wd.setCell ⟨B7,2,none⟩ (.slice m.a m.n m.c)=we at *
   obtain⟨gO,B,hO,-,c3,c4,ku,-,c7,nc,cc,c10,d0,d1,d2,d3⟩:=cf.o.own.lineCell (o:=f) (l:=t) on ln;have k0:x.os.a=some ⟨gO,0,none⟩:=hO;have d7:(x.os.z f).ls.a=some ⟨B,0,none⟩:=ku;have sl:(x.os.z f).ls.n<=(x.os.z f).ls.c:=nc;have n6:(x.os.z f).ls.c<=maxLen:=cc;have oc:x.os.c<=maxLen:=cf.o.own.os.cap;have sm:x.os.n<=x.os.c:=cf.o.own.os.le;unfold maxLen at n6 oc;obtain⟨LN,d8⟩:∃LN,((x.os.z f).ls.z t).n=LN:=⟨_,rfl⟩;have r7:=hid d8;have kt:we.cell? ⟨B,t*4+3,none⟩=some (.int .i64 LN):=by rw[<-d8];exact d3
   have fq:we.cell? ⟨gO,f*2+1,none⟩=some (.slice (some ⟨B,0,none⟩) (x.os.z f).ls.n (x.os.z f).ls.c):=c4;have l4:0<=((x.os.z f).ls.z t).n/\((x.os.z f).ls.z t).n<=200:=by have h:=fi (HF.o.line f on t ln);omega
   rw[d8] at l4;obtain⟨rb,rd⟩:=l4;have rf : -9223372036854775808<=LN+1:=ow;have rh:LN+1<=9223372036854775807:=ow;have u1:we.cell? ⟨B7,1,none⟩=some (.slice x.os.a x.os.n x.os.c):=cf.o.box.k 1;rw[k0] at u1;have ul:=cf.o.box.lt;have y0:we.cell? ⟨Q,0,none⟩=some (.int .i64 (f:Int)):=bq.o.k 0;have y1:we.cell? ⟨Q,1,none⟩=some (.int .i64 (t:Int)):=bq.o.k 1;have y4:=bq.o.lt;have v0:(0:Int)<=(f:Int):=ow;have v1:(f:Int)<(x.os.n:Int):=ow;have v2:(0:Int)<=(t:Int):=ow;have v3:(t:Int)<((x.os.z f).ls.n:Int):=ow;obtain⟨h8,lb⟩:=bv.o.hold HR.o j0 HL.o HH.o gs.o (o:=f) (l:=t) (by rw[HZ.o]) (by rw[HZ.o]);rw[d8] at h8;have es:Hid (p8 s b g seen (J+1) (setLine (withHolds x m) f t 3 (LN+1))/\∀a d:Int,fa s b g (J+1) a d=fa s b g J a d+if a=f/\d=t then 1 else 0):=⟨h8,lb⟩;have j5:=hid d7;clear hO k0 ku d7 nc cc d0 d1 d2 d3 d8 h8 lb bv c10;have pw:=Qqq u1;have iy:=Qqq y0;have i0:=Qqq y1;have pj:=Qqq fq;have po:=Qqq kt;refine jq [(true,[0,1,2,3,4,5,6,7,8,9,10,11,12,13,14],some 15)] ?_;refine⟨λw'=>∃p:Regrown,w'=grow (redrawn we p.d) p.os,Qqx (brf.drew),λh=>ix,?_⟩;simp only[jg]
   repeat(go_big_quiet_step(fail))
   refine Qqz ?_;clear pw iy i0 pj po u1 y0 y1 y4 c3 c4 fq c7 kt ul;have D:Bw we we.drew:=brf.drew
   generalize we.drew=wj at *
   have gt:=cf.o.below D;obtain⟨B',h7,-,-,-,c8⟩:=gt.own.os.lines f on;have eB:B'=B:=by have e:(x.os.z f).ls.a=some ⟨B',0,none⟩:=h7;rw[j5.o] at e;simpa using e.symm
   subst eB;have s1:=c8.lt;have s2:=c8.frozen (t*4+3);have s3:=c8.cell (j:=t*4+3) (by show _<(x.os.z f).ls.n*4;omega);have kd:Hid (de E.heap.size B7 W0 (setLine (withHolds x m) f t 3 (LN+1)) (wj.setCell ⟨B',t*4+3,none⟩ (.int .i64 (LN+1)))):=gt.line A0 on h7 t (LN+1);have e9:Hid (Blk (wj.setCell ⟨B',t*4+3,none⟩ (.int .i64 (LN+1))) Q 107 4 (λj=>(#[.int .i64 (f:Int),.int .i64 (t:Int),.int .i64 (b:Int),.int .i64 L]:Array Value).getD j default)):=(bq.o.below D).other (a:=⟨B',t*4+3,none⟩) (Blk.ne2 (bq.o.below D) c8 dc) _;have fb:Hid (Blk (wj.setCell ⟨B',t*4+3,none⟩ (.int .i64 (LN+1))) BC 144 12 (zj (fa s b g J))):=(gn.o.below D).other (a:=⟨B',t*4+3,none⟩) (Blk.ne2 (gn.o.below D) c8 dc) _;clear gt h7 c8 cf bq gn D j5;refine ma 15 rfl ?_;go_wp2_with fail;refine NoPanic.normal ?_;clear s1 s2 s3
   generalize wj.setCell ⟨B',t*4+3,none⟩ (.int .i64 (LN+1))=wf at *
   have y0:wf.cell? ⟨Q,0,none⟩=some (.int .i64 (f:Int)):=e9.o.k 0;have y1:wf.cell? ⟨Q,1,none⟩=some (.int .i64 (t:Int)):=e9.o.k 1;have y4:=e9.o.lt;obtain⟨QV,f2⟩:∃QV,fa s b g J f t=QV:=⟨_,rfl⟩;have qb:=C6 (b:=b) (g:=g) HR.o j0 f t;have kb:=wh (z:=s.hs.z) f t s.hs.n λq hq=>(cw (cd HR.o.fm.hold q hq)).2.2.2;have py:=HR.o.fm.hs72;rw[f2] at qb;have sp:0<=QV/\QV<=100000:=ow;have ed:wf.cell? ⟨BC,f*3+t,none⟩=some (.int .i64 QV):=by have h:=fb.o.cell (j:=f*3+t) ow;rw[ad0 _ l3,f2] at h;exact h
   have bl:=fb.o.lt;have v4:(f:Int)<4:=ow;have v5:(t:Int)<3:=ow;have m8:=hid f2;clear f2 qb kb py;go_wp2_with fail;have iy:=Qqq y0;have i0:=Qqq y1;have iw:=Qqq ed;refine jq [(true,[0,1,2,3,4,5,6,7,8,9],some 10)] ?_;refine⟨λw'=>∃p:Regrown,w'=grow (redrawn wf p.d) p.os,Qqx (brf.drew),λh=>ix,?_⟩;simp only[jg]
   repeat(go_big_quiet_step(fail))
   refine Qqz ?_;clear iy i0 iw y0 y1 y4 ed bl;have D:Bw wf wf.drew:=brf.drew
   generalize wf.drew=l6 at *
   have cv:=fb.o.below D;have s1:=cv.lt;have s2:=cv.frozen (f*3+t);have s3:=cv.cell (j:=f*3+t) ow;have bh:Hid (CoI E.heap.size B7 BC W0 s b g seen (J+1) (setLine (withHolds x m) f t 3 (LN+1)) (l6.setCell ⟨BC,f*3+t,none⟩ (.int .i64 (QV+1)))):=by
    refine⟨(kd.o.below D).boxA cv A3 _ _,(cv.set (f*3+t) (.int .i64 (QV+1))).congr (λj hj => ?_),es.o.1,ow,ow⟩;rw[<-m8.o];exact aij l3 es.o.2 j
   clear cv fb kd D e9 es;refine ma 10 rfl ?_;go_wp2_with fail;refine NoPanic.normal ?_;clear s1 s2 s3
   generalize l6.setCell ⟨BC,f*3+t,none⟩ (.int .i64 (QV+1))=wg at *
   exact ax0
 | some k =>
  have LV:o5 (cx b g) x.ms.z x.ms.n=(k:Int):=by unfold o5;rw[hl]
  rw[LV];have hk:k<x.ms.n:=(F2 hl).1;have HL:=hid hl;have o3:=F.o.rel.own.ms.2.1;have sk:=F.o.rel.own.ms.1;have ms8:=HF.o.ms8;have zn:=HF.o.moveN k hk;unfold maxLen at o3;obtain⟨Gm,fv,oh,bk⟩:=F.o.rel.own.ms.2.2.2 (show 0<x.ms.n by omega);have r5:=hid fv;have u3:wb.cell? ⟨B7,3,none⟩=some (.slice x.ms.a x.ms.n x.ms.c):=F.o.rel.box.k 3;have ul:=F.o.rel.box.lt;have gl:=bk.lt;have gf:=bk.frozen (k*4+3);have z3:wb.cell? ⟨Gm,k*4+3,none⟩=some (.int .i64 (x.ms.z k).n):=(bk.cell (j:=k*4+3) aad).trans (congrArg some (tp (z:=x.ms.z) (c:=3) hk dc));have o8:¬Gm=B7:=Blk.ne2 bk F.o.rel.box dc;have ne2:¬B7=Gm:=λe=>o8 e.symm;rw[fv] at u3;have q0:(0:Int)<=(k:Int):=ow;have q1:(k:Int)<(x.ms.n:Int):=ow;have ao:Hid (de E.heap.size B7 W0 (withMoves x (Ee x.ms k 1)) (wb.setCell ⟨Gm,k*4+3,none⟩ (.int .i64 ((x.ms.z k).n-1)))):=F.o.rel.moveN A0 hk fv 1;have cs:Hid (Blk (wb.setCell ⟨Gm,k*4+3,none⟩ (.int .i64 ((x.ms.z k).n-1))) BC 144 12 (zj (fa s b g J))):=F.o.cut.other (a:=⟨Gm,k*4+3,none⟩) (Blk.ne2 F.o.cut bk dc) _;have HQ:Hid (fa s b g (J+1)=fa s b g J):=by
   have h1:=F.o.cj.cutQ_move HR.o F.o.j0 hl;exact h1
  have bv:=hid F.o.cj;have kq:Hid (∀m,ye x.ms m k->p8 s b g seen (J+1) (withMoves x m)):=λm c=>bv.o.move HR.o j0 HL.o c;clear LV hl fv bk oh;by_cases ea:(x.ms.z k).n=1;rotate_left
  .have HM:Hid (p8 s b g seen (J+1) (withMoves x (Ee x.ms k 1))):=kq.o _ (by unfold ye;rw[if_neg ea];exact⟨rfl,λ_ _=>rfl⟩);have e0:((x.ms.z k).n-1==0)=false:=oq;clear ea
   generalize (x.ms.z k).n=L at *
   go_wp2_with fail;have bh:Hid (CoI E.heap.size B7 BC W0 s b g seen (J+1) (withMoves x (Ee x.ms k 1)) (wb.setCell ⟨Gm,k*4+3,none⟩ (.int .i64 (L-1)))):=⟨ao.o,by rw[HQ.o];exact cs.o,HM.o,ow,ow⟩;exact ax1
  have gs:Hid (∀m:Hs,m.n=x.ms.n-1->(∀i,i<m.n->m.z i=gu x.ms.z k i)->ye x.ms m k):=λm h1 h2=>by unfold ye;rw[if_pos ea];exact⟨h1,h2⟩
  have e10:(1:Int)-1=0:=rfl;rw[ea] at z3 ao cs;rw[e10] at ao cs;clear ea zn;go_wp2_with fail;clear u3 ul gl gf z3
  generalize wb.setCell ⟨Gm,k*4+3,none⟩ (.int .i64 0)=A at *
  obtain⟨iM,hM,fy,fz,f0⟩:=info_parts Gn;obtain⟨ZF,hy⟩:∃ZF,io x.ms.z k 1=ZF:=⟨_,rfl⟩;have nh:=hid hy;have du:Hid ((⟨x.ms.a,x.ms.n,x.ms.c,ZF⟩:Hs).At A):=by rw[<-hy];exact ao.o.own.ms.at
  obtain⟨bm,om,lv,-⟩:=du.o.hds k hk;have ez:x.ms.a=some ⟨bm,om,none⟩:=lv;have ff:=hid ez;have c3:A.cell? ⟨B7,3,none⟩=some (.slice x.ms.a x.ms.n x.ms.c):=ao.o.box.k 3;rw[ez] at c3;have l5:=Qqq c3;clear hy lv ez c3 F;by_cases la:x.ms.c=k+1;rotate_left
  .refine dg (λw'=>∃p:Regrown,w'=grow (redrawn A p.d) p.os) [1,2,3,4,6,7,8,9,10] [0] [(false,5),(false,11),(false,12),(true,13)] (Qqx (brf.drew)) ?_;simp only[jg]
   repeat(go_big_quiet_step(fail))
   refine Qqz ?_;clear l5;refine⟨λj v g wk=>∃B,v = .slice (some ⟨B,0,none⟩) 0 0/\g=[B]/\A.heap.size<=B/\wk.heap[B]?=some (.cells #[] 110 (0,0)),
    Qjx ⟨λv g w w' M h=>⟨h.choose,h.choose_spec.1,h.choose_spec.2.1,h.choose_spec.2.2.1,(M.block _ (Qkq h.choose_spec.2.2.2).1).trans h.choose_spec.2.2.2⟩,Qjq _⟩,
    Qjx ⟨λv g w h=>agq,Qjq _⟩,
    Qjx ⟨?zt0,Qjq _⟩,?ztdone⟩
   case zt0 =>
    exact Xk
   case ztdone =>
    intro V G' wk hS hD hA;obtain⟨BV,d4,dz,h1l,U⟩:∃B,V 0 = .slice (some ⟨B,0,none⟩) 0 0/\G' 0=[B]/\A.heap.size<=B/\wk.heap[B]?=some (.cells #[] 110 (0,0)):=hD 0 vq;have hX:=ae hS;clear hS hD hA dz;simp only[bw,d4];have aw:wk.ownsRow A.heap.size 110 4 (.slice (some ⟨BV,0,none⟩) 0 0) 0 []:=⟨rfl,Or.inr ⟨BV,0,#[],rfl,h1l,U,Nat.le_refl _,Qxz _,rfl,rfl⟩⟩;have dv:Hid (jx wk (some ⟨bm,om,none⟩) x.ms.n ZF/\Bw A wk):=⟨by have h:jx wk x.ms.a x.ms.n ZF:=(du.o.below hX).hds;rw[ff.o] at h;exact h,hX⟩;refine bu 5 rfl ?_;refine wpList_append_own wk rfl (.tmp 119) (.tmp 123) 34 rfl A.heap.size 110 iM (.agg #[.int .i64 0,.int .i64 0,.int .i64 0,.int .i64 0]) 4 32 underlying34 hM fy fz f0 rfl dc _ 0 [] rfl aw ⟨bm,om,none⟩ k _ (ba k ZF) rfl (iz _ _) (λj u hj=>by
     rw[zh];have h:=dv.o.1.flat (q:=0) (m:=k) ow (j:=j) (u:=u) Jv
     simpa using h) (ot _ _) uo ow hX.size ?_
    intro v1 ax r1 r2 _;have d9:Bw A ax:=hX.grown r2 hX.size (λk e=>Sv);have av:=hid d9;have cz:Hid (ax.ownsRow A.heap.size 110 4 v1 k (ba k ZF)):=Xf;clear hX r1 r2 aw U h1l dv d9;simp only[Act.put,Qvq,Qwx,Qwz];refine(?_:wpList _ _ _ [] _ _);go_wp2_with fail;refine⟨fw.no (Qqx av.o),?_⟩;refine bu 11 rfl ?_;have gr:Hid (jx ax (some ⟨bm,om,none⟩) x.ms.n ZF):=by have h:jx ax x.ms.a x.ms.n ZF:=(du.o.below av.o).hds;rw[ff.o] at h;exact h
    refine wpList_append_own ax rfl (.tmp 124) (.tmp 129) 34 rfl A.heap.size 110 iM (.agg #[.int .i64 0,.int .i64 0,.int .i64 0,.int .i64 0]) 4 32 underlying34 hM fy fz f0 rfl dc v1 k (ba k ZF) rfl cz.o ⟨bm,om+(k+1)*4,none⟩ (x.ms.n-(k+1)) _ (ba (x.ms.n-(k+1)) (λj=>ZF (k+1+j))) rfl (iz _ _) (λj u hj=>by rw[zh];exact gr.o.flat (q:=k+1) (m:=x.ms.n-(k+1)) ow hj) (ot _ _) uo ow av.o.size ?_;intro v2 az r3 r4 _;have hw:Bw A az:=av.o.grown r4 av.o.size (λk e=>Fp cz.o e);have f3:az.ownsRow A.heap.size 110 4 v2 (x.ms.n-1) (ba (x.ms.n-1) (gu ZF k)):=by
     rw[Ab x.ms.n ZF k hk];have r3':=r3;rw[show k+(x.ms.n-(k+1))=x.ms.n-1 by omega] at r3';exact r3'
    exact ax7
  refine dg (λw'=>∃p:Regrown,w'=grow (redrawn A p.d) p.os) [1,2,3,4,6,7,8,9,10] [0] [(false,5),(false,11),(false,12),(true,13)] (Qqx (brf.drew)) ?_;simp only[jg]
  repeat(go_big_quiet_step(fail))
  refine Qqz ?_;clear l5;have jt:=hid la;clear la;refine⟨λj v g wk=>∃B,v = .slice (some ⟨B,0,none⟩) 0 0/\g=[B]/\A.heap.size<=B/\wk.heap[B]?=some (.cells #[] 110 (0,0)),
   Qjx ⟨λv g w w' M h=>⟨h.choose,h.choose_spec.1,h.choose_spec.2.1,h.choose_spec.2.2.1,(M.block _ (Qkq h.choose_spec.2.2.2).1).trans h.choose_spec.2.2.2⟩,Qjq _⟩,
   Qjx ⟨λv g w h=>agq,Qjq _⟩,
   Qjx ⟨?zt0,Qjq _⟩,?ztdone⟩
  case zt0 =>
   exact Xk
  case ztdone =>
   intro V G' wk hS hD hA;obtain⟨BV,d4,dz,h1l,U⟩:∃B,V 0 = .slice (some ⟨B,0,none⟩) 0 0/\G' 0=[B]/\A.heap.size<=B/\wk.heap[B]?=some (.cells #[] 110 (0,0)):=hD 0 vq;have hX:=ae hS;clear hS hD hA dz;simp only[bw,d4];have aw:wk.ownsRow A.heap.size 110 4 (.slice (some ⟨BV,0,none⟩) 0 0) 0 []:=⟨rfl,Or.inr ⟨BV,0,#[],rfl,h1l,U,Nat.le_refl _,Qxz _,rfl,rfl⟩⟩;have dv:Hid (jx wk (some ⟨bm,om,none⟩) x.ms.n ZF/\Bw A wk):=⟨by have h:jx wk x.ms.a x.ms.n ZF:=(du.o.below hX).hds;rw[ff.o] at h;exact h,hX⟩;refine bu 5 rfl ?_;refine wpList_append_own wk rfl (.tmp 119) (.tmp 123) 34 rfl A.heap.size 110 iM (.agg #[.int .i64 0,.int .i64 0,.int .i64 0,.int .i64 0]) 4 32 underlying34 hM fy fz f0 rfl dc _ 0 [] rfl aw ⟨bm,om,none⟩ k _ (ba k ZF) rfl (iz _ _) (λj u hj=>by
    rw[zh];have h:=dv.o.1.flat (q:=0) (m:=k) ow (j:=j) (u:=u) Jv
    simpa using h) (ot _ _) uo ow hX.size ?_
   intro v1 ax r1 r2 _;have d9:Bw A ax:=hX.grown r2 hX.size (λk e=>Sv);have av:=hid d9;have cz:Hid (ax.ownsRow A.heap.size 110 4 v1 k (ba k ZF)):=Xf;clear hX r1 r2 aw U h1l dv d9;simp only[Act.put,Qvq,Qwx,Qwz];refine(?_:wpList _ _ _ [] _ _);go_wp2_with fail;refine⟨fw.no (Qqx av.o),?_⟩;refine bu 11 rfl ?_;have gr:Hid (jx ax (some ⟨bm,om,none⟩) x.ms.n ZF):=by have h:jx ax x.ms.a x.ms.n ZF:=(du.o.below av.o).hds;rw[ff.o] at h;exact h
   refine wpList_append_own ax rfl (.tmp 124) (.tmp 129) 34 rfl A.heap.size 110 iM (.agg #[.int .i64 0,.int .i64 0,.int .i64 0,.int .i64 0]) 4 32 underlying34 hM fy fz f0 rfl dc v1 k (ba k ZF) rfl cz.o ⟨bm,om,none⟩ _ _ [] rfl (by first|rfl|(have:=jt.o;simp;omega)) (λj u hj=>by cases hj) (λu hu=>by cases hu) uo ow av.o.size ?_;intro v2 az r3 r4 _;have hw:Bw A az:=av.o.grown r4 av.o.size (λk e=>Fp cz.o e);have f3:az.ownsRow A.heap.size 110 4 v2 (x.ms.n-1) (ba (x.ms.n-1) (gu ZF k)):=by
    rw[Ab x.ms.n ZF k hk];have hc:=jt.o;have e1:x.ms.n-(k+1)=0:=ow;rw[e1];have e2:x.ms.n-1=k:=ow;exact ao8
   exact ax7
theorem aim{x:Ax}(f:p.At w)(hs:s.At w)(hx:x.ls.At w):(x.k=1->Calls prog 70 #[p.val,s.val,.int .i64 x.a,.int .i64 x.b,.int .i64 x.n] w λe w'=>∃y:St,e = .returned (.tuple #[y.val,.int .i64 (doE p s x)])/\y.At w'/\jb (doE p s x) (doT p s x) y/\(doE p s x=0->ah w.heap.size w' y)/\Bw w w') /\
  (x.k=2->Calls prog 71 #[p.val,s.val,x.ls.val] w λe w'=>∃y:St,e = .returned (.tuple #[y.val,.int .i64 (doE p s x)])/\y.At w'/\jb (doE p s x) (doT p s x) y/\(doE p s x=0->ah w.heap.size w' y)/\Bw w w') /\
  (x.k=3->Calls prog 72 #[p.val,s.val] w λe w'=>∃y:St,e = .returned (.tuple #[y.val,.int .i64 (doE p s x)])/\y.At w'/\jb (doE p s x) (doT p s x) y/\(doE p s x=0->ah w.heap.size w' y)/\Bw w w') /\
  (x.k=4->Calls prog 73 #[p.val,s.val,.int .i64 x.a] w λe w'=>∃y:St,e = .returned (.tuple #[y.val,.int .i64 (doE p s x)])/\y.At w'/\jb (doE p s x) (doT p s x) y/\(doE p s x=0->ah w.heap.size w' y)/\Bw w w') /\
  (x.k=5->Calls prog 74 #[p.val,s.val,.int .i64 x.a,.int .i64 x.b,.int .i64 x.c,.int .i64 x.n] w λe w'=>∃y:St,e = .returned (.tuple #[y.val,.int .i64 (doE p s x)])/\y.At w'/\jb (doE p s x) (doT p s x) y/\(doE p s x=0->ah w.heap.size w' y)/\Bw w w') /\
  (x.k=6->Calls prog 75 #[p.val,s.val] w λe w'=>∃y:St,e = .returned (.tuple #[y.val,.int .i64 (doE p s x)])/\y.At w'/\jb (doE p s x) (doT p s x) y/\(doE p s x=0->ah w.heap.size w' y)/\Bw w w') /\
  (x.k=7->Calls prog 76 #[p.val,s.val,.int .i64 x.a,.int .i64 x.n] w λe w'=>∃y:St,e = .returned (.tuple #[y.val,.int .i64 (doE p s x)])/\y.At w'/\jb (doE p s x) (doT p s x) y/\(doE p s x=0->ah w.heap.size w' y)/\Bw w w') /\
  (x.k=8->Calls prog 77 #[p.val,s.val,.int .i64 x.a,.int .i64 x.b,.int .i64 x.n] w λe w'=>∃y:St,e = .returned (.tuple #[y.val,.int .i64 (doE p s x)])/\y.At w'/\jb (doE p s x) (doT p s x) y/\(doE p s x=0->ah w.heap.size w' y)/\Bw w w'):=by
 refine⟨λd => ?_,λd => ?_,λd => ?_,λd => ?_,λd => ?_,λd => ?_,λd => ?_,λd => ?_⟩<;>unfold doE doT<;>rw[d]
 .exact Px p s x.a x.b x.n w f hs
 .exact Tt p s x.ls w f hs hx
 .exact(Py p s w f hs).mono λe w' ⟨y,h1,h2,h3,h4⟩=>⟨y,h1,h2,h3.act,h4⟩
 .exact Ql p s x.a w f hs
 .exact Wg p s x.a x.b x.c x.n w f hs
 .exact Wf p s w f hs
 .exact Tv p s x.a x.n w f hs
 exact acx p s x.a x.b x.n w f hs
theorem aqh(p:Pl)(s:St)(x:Ax)(w:World)(hp:p.At w)(hs:s.At w)(hx:x.ls.At w):
  Calls prog 40 #[p.val,s.val,x.val] w λe w'=>∃y:St,e = .returned (.tuple #[y.val,.int .i64 (doE p s x)])/\y.At w'/\jb (doE p s x) (doT p s x) y/\(doE p s x=0->ah w.heap.size w' y)/\Bw w w':=by
 obtain⟨W0,i,S,g,K,⟨⟨l1,d0,d1⟩,l2,V,c1,c2,c3,c4,c5,c6⟩,⟨M,x1,x2,x3,x4,x5,x6⟩,Q,q,n,r,zc1,t,zc2,u,zc3,z,zc4,A,zc5,B,o⟩:=ain p s x w hp hs hx;rw[<-i.o] at l1 d0 d1 l2 V c1 c2 c3 c4 c5 c6 M x1 x2 x3 x4 x5 x6 Q q n r zc1 t zc2 u zc3 z zc4 A zc5 B o;clear hp hs hx;by_cases a:x.k=1\/x.k=2\/x.k=3\/x.k=4\/x.k=5\/x.k=6\/x.k=7\/x.k=8;rotate_left
 .simp only[not_or] at a;obtain⟨n1,n2,n3,n4,n5,n6,n7,n8⟩:=a;have HE:Hid (doE p s x=8):=am7;have hfin:=(S.o W0 brf).2.2.2.1;rw[<-i.o] at hfin;unfold Pl.val St.val Ax.val Ax.cells;go_enter func40,ntmps40
  generalize x.k=f at *
  have g1:(f==1)=false:=by simpa using n1
  have g2:(f==2)=false:=by simpa using n2
  have g3:(f==3)=false:=by simpa using n3
  have g4:(f==4)=false:=by simpa using n4
  have g5:(f==5)=false:=by simpa using n5
  have g6:(f==6)=false:=by simpa using n6
  have g7:(f==7)=false:=by simpa using n7
  have g8:(f==8)=false:=by simpa using n8
  clear n1 n2 n3 n4 n5 n6 n7 n8;go_wp2_with fail;refine Xzq (v := .tuple #[mw.val,.int .i64 8]) (by simp[results,results40,go_sem,mw,St.val]) rfl ?_;exact al8
 have d:Hid _:=aim (x:=x) g.o.1 g.o.2.1 g.o.2.2;unfold Pl.val St.val Ax.val Ax.cells;go_enter func40,ntmps40;rcases a with a|a|a|a|a|a|a|a
 all_goals
  first
   | have c:Hid _:=d.o.1 a
   | have c:Hid _:=d.o.2.1 a
   | have c:Hid _:=d.o.2.2.1 a
   | have c:Hid _:=d.o.2.2.2.1 a
   | have c:Hid _:=d.o.2.2.2.2.1 a
   | have c:Hid _:=d.o.2.2.2.2.2.1 a
   | have c:Hid _:=d.o.2.2.2.2.2.2.1 a
   | have c:Hid _:=d.o.2.2.2.2.2.2.2 a
  rw[a] at M i ⊢;clear a d;go_wp2_with fail;rw[i.o];clear l1 d0 d1 l2 V c1 c2 c3 c4 c5 c6 M x1 x2 x3 x4 x5 x6 Q q n r zc1 t zc2 u zc3 z zc4 A zc5 B o i g;refine Calls.mono c.o ?_;rintro e w1 ⟨y,rfl,G,H,m,hB⟩;have D:=qa3 G H m;obtain⟨-,-,-,ag,L,-,-⟩:=S.o w1 hB;clear G H m c;obtain⟨J,j⟩:∃J,doE p s x=J:=⟨_,rfl⟩;have T:=hid j;rw[j];clear j;obtain⟨Q,q,n,r,zc1,t,zc2,u,zc3,z,zc4,A,zc5,B,o⟩:=z7 L;simp only[St.val];go_wp2_with fail;have U:=s7b L y;have F:=s7w (b:=w.heap.size+3) ag ow y;have l:=λh=>s7o (D.o.2.2 h) L y;have E:=ah9 D.o.2.1 D.o.1 l;unfold set7 at U F E l;obtain⟨W,X,Y,aa,ab,ac,ad⟩:=dp U;refine Xzq (v := .tuple #[y.val,.int .i64 J]) (by simp[results,results40,go_sem,St.val,W,X,Y,aa,ab,ac,ad]) rfl ?_;exact⟨y,by rw[T.o];rfl,E,D.o.2.1,λh=>(l h).mono K.o,F⟩
def Tu(A:Nat)(w w2:World):Prop:=∀g,A<=g->g<w.heap.size->w2.heap[g]?=w.heap[g]?
theorem Blk.high(h:Blk w g e n f)(k:Tu A w a)(b:A<=g):Blk a g e n f:=h.same (k g b h.lt)
theorem ki.high{b:World}{r:Rw}(h:ki A w r)(k:Tu A w b):ki A b r:=by
 obtain⟨g,e,a,c,d,f⟩:=h;exact⟨g,e,a,c,d,f.high k a⟩
theorem ct.high{s:Hs}(h:ct A e w s)(k:Tu A w a):ct A e a s:=by
 obtain⟨b,c,d,f⟩:=h;refine⟨b,c,d,λl => ?_⟩;obtain⟨g,i,hA,j⟩:=f l;exact⟨g,i,hA,j.high k hA⟩
theorem gp.high{size:Nat}{a:Option Addr}(h:gp A w e size a c)(k:Tu A w d):gp A d e size a c:=by
 rcases h with h|⟨g,cur,f,hA,b,hs⟩
 .exact Or.inl h
 exact Or.inr ⟨g,cur,f,hA,(k g hA (Qkq b).1).trans b,hs⟩
theorem kj.high{f:World}{s:Os}(h:kj A w s)(k:Tu A w f):kj A f s:=by
 refine⟨h.le,h.cap,λj => ?_,λi hi => ?_,h.apart,h.room.high k⟩
 .obtain⟨g,a,b,c⟩:=h.list j;exact⟨g,a,b,c.high k b⟩
 obtain⟨C,a,b,c,d,e⟩:=h.lines i hi;exact⟨C,a,b,c,d,e.high k b⟩
theorem ah.high{b:World}(h:ah A w s)(k:Tu A w b):ah A b s:=by
 refine⟨?_,λi hi=>(h.rows i hi).high k,h.rapart,h.os.high k,h.hs.high k,h.ms.high k,h.msr.high k,h.si.high k,h.so.high k,h.sf.high k,h.aio,h.aif,h.aof,h.ari⟩;obtain⟨g,e,a,c,d,f⟩:=h.on;exact⟨g,e,a,c,d,f.high k a⟩
theorem ah.fr(h:ah A w s):Fr A w s:=λ_ _ k=>(h.high k).at
theorem Fr.set7(h:Fr n w s)(a:b<n)(c d e f g i j:Value):Fr n (Go.Proofs.YtjgckphgagdpaaaGreatDoor.set7 w b c d e f g i j) s :=
 ((((((h.set a 0 c).set a 1 d).set a 2 e).set a 3 f).set a 4 g).set a 5 i).set a 6 j
theorem O9{t:St}(a:un p s)(b:un p t):af s t:=by
 obtain⟨a1,d,k,l,m,e,f,g⟩:=a;obtain⟨b1,b2,b3,b4,b5,b6,b7,b8⟩:=b;refine⟨⟨ow,λi hi => ?_⟩,⟨ow,λi hi=>absurd hi ow⟩,⟨ow,λj c=>absurd c ow⟩,⟨ow,λj c=>absurd c ow⟩,⟨ow,λj c => ?_⟩,⟨ow,λj c => ?_⟩,⟨ow,λj c => ?_⟩⟩
 .have x:=d i ow;have y:=b2 i ow;exact⟨ow,λj c=>by rw[x.2 j ow,y.2 j ow]⟩
 .rw[e.2 j ow,b6.2 j ow]
 .rw[f.2 j ow,b7.2 j ow]
 rw[g.2 j ow,b8.2 j ow]
theorem aqb(p:Pl)(w:World)(hp:p.At w):
  Calls prog 7 #[p.val] w λe w'=>∃s:St,e = .returned (.tuple #[s.val,.int .i64 (iu p)])/\Fr w.heap.size w' s/\avq p s/\Bw w w':=by
 have capb:=hp.capb;have leb:=hp.leb;unfold maxLen at capb;obtain⟨W0,hW,M,X0,Z0⟩:∃W,((w.alloc (.cells #[.slice p.ab p.nb p.cb,.slice p.sa p.ns p.cs] 25)).alloc (.cells #[.slice .none 0 0,.slice .none 0 0,.slice .none 0 0,.slice .none 0 0,.slice .none 0 0,.slice .none 0 0,.slice .none 0 0] 36))=W/\Bw w W/\Blk W w.heap.size 25 2 (λj=>(#[.slice p.ab p.nb p.cb,.slice p.sa p.ns p.cs]:Array Value).getD j default)/\Blk W (w.heap.size+1) 36 7 (λ_ => .slice .none 0 0):=
  ⟨_,rfl,dx _ _ _,(Blk.mk' rfl rfl).alloc _,(Blk.mk' (cur:=#[.slice .none 0 0,.slice .none 0 0,.slice .none 0 0,.slice .none 0 0,.slice .none 0 0,.slice .none 0 0,.slice .none 0 0]) vq rfl).congr (λj o=>by match j,o with|0,_=>rfl|1,_=>rfl|2,_=>rfl|3,_=>rfl|4,_=>rfl|5,_=>rfl|6,_=>rfl)⟩
 have HW:=hid hW;clear hW;unfold Pl.val;go_enter func7,ntmps7;go_wp2_with fail;rw[HW.o];refine(Bj p W0 (hp.below M)).mono ?_;rintro e w1 ⟨rfl,y⟩;have t:=X0.below y;have Z1:=Z0.below y;have L:=M.trans (y.mono M.size);clear X0 Z0 y;by_cases J:iu p=0;rotate_left
 .obtain⟨zl,a7,a5,a8,zc1,a9,zc2,ba,zc3,bb,zc4,bc,zc5,bd,a6⟩:=z7 Z1;go_wp2_with fail;have F:=n7b Z1;have q:=n7w (b:=w.heap.size+1) L ow;unfold set7 at F q;obtain⟨c0,c1,c2,c3,c4,c5,c6⟩:=dp F;refine Xzq (v := .tuple #[mw.val,.int .i64 (iu p)]) (by simp[results,results7,go_sem,mw,St.val,c0,c1,c2,c3,c4,c5,c6]) rfl ?_;exact⟨mw,rfl,λa4 _ _=>Df _,⟨λh=>absurd h J,λ_=>⟨rfl,rfl,rfl,rfl,rfl,rfl,rfl⟩⟩,q⟩
 have R:=Nm J;have a:=R.ns3;have bi:=R.nb6;have bj:=R.ns1;have H0:=hid J;rw[J];clear J R;obtain⟨i0,hi,a2,a3,hz2⟩:=info_parts aiz;have d0:w1.cell? ⟨w.heap.size,0,none⟩=some (.slice p.ab p.nb p.cb):=t.k 0;have l1:=t.lt;go_wp2_with(at_make;refine wpList_make_full _ rfl _ _ 31 rfl w1.heap.size 23 i0 (.slice .none 0 0) 1 underlying31 hi a2 a3 .i64 .i64 _ _ p.nb rfl rfl rfl rfl Ju uo nlr ?_;intro w2 T B);obtain⟨g,c',hv,_,_,_,u⟩:=Blk.ofOwns T vq;simp only[co,Value.slice.injEq] at hv;obtain⟨rfl,-,-⟩:=hv;rw[Nat.mul_one] at u;have aj:Bw w1 w2:=(Below.refl _ w1).grown B nlr Ba;clear T B d0;have eg:=enters_of func19 ko rfl
 go_loopw [21] (λi wk=>∃k:Nat,k<=p.nb/\i = .int .i64 k/\(∃(G:Nat->Nat),Blk wk w1.heap.size 23 p.nb (λi=>if i<k then .slice (some ⟨G i,0,none⟩) p.ns p.ns else .slice none 0 0)/\(∀i,i<k->w1.heap.size<G i/\Blk wk (G i) 3 p.ns (λ_ => .int .i64 0)))/\Bw w1 wk) (λi _=>p.nb-(intOf i).toNat)
 case atStart=>exact⟨0,Qxz _,rfl,⟨λ_=>0,u.congr (λj o=>by rw[ay1 o];simp),λi hi=>absurd hi (Qzq _)⟩,aj⟩
 clear u aj;obtain⟨k,hk,rfl,D,E⟩:=hrel;have X2:=t.below E;have hl:=X2.lt;by_cases a0:k<p.nb
 .have HG:Hid (∃(G:Nat->Nat),Blk wr w1.heap.size 23 p.nb (λi=>if i<k then .slice (some ⟨G i,0,none⟩) p.ns p.ns else .slice none 0 0)/\(∀i,i<k->w1.heap.size<G i/\Blk wr (G i) 3 p.ns (λ_ => .int .i64 0))):=D;clear D;have m1:(0:Int)<=(k:Int):=ow;go_wp2_with fail;refine(Fa w.heap.size p wr a hl (X2.k 1)).mono ?_;rintro e c ⟨rfl,al,d⟩;obtain⟨G,H,f⟩:=HG.o;have br:=H.lt;have x:=H.below d;have bs:=x.frozen k;have ax:=x.cell a0;simp only[Nat.lt_irrefl,if_false] at ax;have m:=E.trans (d.mono E.size);have st:=m.setCell (p:=⟨w1.heap.size,k,none⟩) nlr (.slice (some ⟨wr.heap.size,0,none⟩) p.ns p.ns);have KB:=x.set k (.slice (some ⟨wr.heap.size,0,none⟩) p.ns p.ns);have KO:∀i,i<k->Blk (c.setCell ⟨w1.heap.size,k,none⟩ (.slice (some ⟨wr.heap.size,0,none⟩) p.ns p.ns)) (G i) 3 p.ns (λ_ => .int .i64 0):=λi hi=>((f i hi).2.below d).other (by have:=(f i hi).1;show _≠w1.heap.size;omega) _;have KN:Blk (c.setCell ⟨w1.heap.size,k,none⟩ (.slice (some ⟨wr.heap.size,0,none⟩) p.ns p.ns)) wr.heap.size 3 p.ns (λ_ => .int .i64 0):=al.other (by show _≠w1.heap.size;omega) _;have HH:Hid _:=And.intro KB (And.intro KO (And.intro KN f));clear KB KO KN H x f al X2 HG;go_wp2_with fail;go_roundw
  case measure=>simp[intOf];omega
  obtain⟨KB,KO,KN,f⟩:=HH.o;refine⟨k+1,ow,vo,⟨λi=>if i=k then wr.heap.size else G i,KB.congr ?_,?_⟩,st⟩
  .intro j o;by_cases n:j=k
   .subst n;simp
   by_cases h2:j<k
   .simp[n,h2,show j<k+1 by omega]
   simp[n,h2,show ¬j<k+1 by omega]
  intro j o;by_cases n:j=k
  .subst n;simp only[if_true];exact⟨ow,KN⟩
  simp only[if_neg n];exact⟨(f j ow).1,KO j ow⟩
 have ay:k=p.nb:=ow;subst ay;have HG:Hid (∃(G:Nat->Nat),Blk wr w1.heap.size 23 p.nb (λi=>if i<p.nb then .slice (some ⟨G i,0,none⟩) p.ns p.ns else .slice none 0 0)/\(∀i,i<p.nb->w1.heap.size<G i/\Blk wr (G i) 3 p.ns (λ_ => .int .i64 0))):=D;clear D;go_wp2_with fail;refine(Fa w.heap.size p wr a hl (X2.k 1)).mono ?_;rintro e c ⟨rfl,k3,d⟩;have m:=E.trans (d.mono E.size);go_wp2_with fail;refine(Fa w.heap.size p c a (t.below m).lt ((t.below m).k 1)).mono ?_;rintro e l ⟨rfl,k4,z⟩;have A:=m.trans (z.mono m.size);go_wp2_with fail;refine(Fa w.heap.size p l a (t.below A).lt ((t.below A).k 1)).mono ?_;rintro e w5 ⟨rfl,k5,K⟩;have ak:=A.trans (K.mono A.size);have Z5:=Z1.below ak;obtain⟨zl,a7,a5,a8,zc1,a9,zc2,ba,zc3,bb,zc4,bc,zc5,bd,a6⟩:=z7 Z5;go_wp2_with fail;have F:=pc Z5 (.slice (some ⟨w1.heap.size,0,none⟩) p.nb p.nb) (.slice .none 0 0) (.slice .none 0 0) (.slice .none 0 0) (.slice (some ⟨wr.heap.size,0,none⟩) p.ns p.ns) (.slice (some ⟨c.heap.size,0,none⟩) p.ns p.ns) (.slice (some ⟨l.heap.size,0,none⟩) p.ns p.ns);obtain⟨G,H,f⟩:=HG.o;have Q:=z.trans (K.mono z.size);have S:=d.trans (Q.mono d.size);have s1:=Z1.lt;have sr:=E.size;have s3:=d.size;have s4:=z.size;have Y:=nl (b:=w.heap.size+1) (H.below S) ow (.slice (some ⟨w1.heap.size,0,none⟩) p.nb p.nb) (.slice .none 0 0) (.slice .none 0 0) (.slice .none 0 0) (.slice (some ⟨wr.heap.size,0,none⟩) p.ns p.ns) (.slice (some ⟨c.heap.size,0,none⟩) p.ns p.ns) (.slice (some ⟨l.heap.size,0,none⟩) p.ns p.ns);have ac:=λi (hi:i<p.nb)=>nl (b:=w.heap.size+1) ((f i hi).2.below S) (by have:=(f i hi).1;omega) (.slice (some ⟨w1.heap.size,0,none⟩) p.nb p.nb) (.slice .none 0 0) (.slice .none 0 0) (.slice .none 0 0) (.slice (some ⟨wr.heap.size,0,none⟩) p.ns p.ns) (.slice (some ⟨c.heap.size,0,none⟩) p.ns p.ns) (.slice (some ⟨l.heap.size,0,none⟩) p.ns p.ns);have U:=nl (b:=w.heap.size+1) (k3.below Q) ow (.slice (some ⟨w1.heap.size,0,none⟩) p.nb p.nb) (.slice .none 0 0) (.slice .none 0 0) (.slice .none 0 0) (.slice (some ⟨wr.heap.size,0,none⟩) p.ns p.ns) (.slice (some ⟨c.heap.size,0,none⟩) p.ns p.ns) (.slice (some ⟨l.heap.size,0,none⟩) p.ns p.ns);have V:=nl (b:=w.heap.size+1) (k4.below K) ow (.slice (some ⟨w1.heap.size,0,none⟩) p.nb p.nb) (.slice .none 0 0) (.slice .none 0 0) (.slice .none 0 0) (.slice (some ⟨wr.heap.size,0,none⟩) p.ns p.ns) (.slice (some ⟨c.heap.size,0,none⟩) p.ns p.ns) (.slice (some ⟨l.heap.size,0,none⟩) p.ns p.ns);have X:=nl (b:=w.heap.size+1) k5 ow (.slice (some ⟨w1.heap.size,0,none⟩) p.nb p.nb) (.slice .none 0 0) (.slice .none 0 0) (.slice .none 0 0) (.slice (some ⟨wr.heap.size,0,none⟩) p.ns p.ns) (.slice (some ⟨c.heap.size,0,none⟩) p.ns p.ns) (.slice (some ⟨l.heap.size,0,none⟩) p.ns p.ns);have q:=lr (b:=w.heap.size+1) (L.trans (ak.mono L.size)) ow (.slice (some ⟨w1.heap.size,0,none⟩) p.nb p.nb) (.slice .none 0 0) (.slice .none 0 0) (.slice .none 0 0) (.slice (some ⟨wr.heap.size,0,none⟩) p.ns p.ns) (.slice (some ⟨c.heap.size,0,none⟩) p.ns p.ns) (.slice (some ⟨l.heap.size,0,none⟩) p.ns p.ns);unfold set7 at F Y ac U V X q
 generalize (((((((w5.setCell { block:=w.heap.size+1,off:=0 } (Value.slice (some { block:=w1.heap.size,off:=0 }) p.nb p.nb)).setCell { block:=w.heap.size+1,off:=1 } (Value.slice none 0 0)).setCell { block:=w.heap.size+1,off:=2 } (Value.slice none 0 0)).setCell { block:=w.heap.size+1,off:=3 } (Value.slice none 0 0)).setCell { block:=w.heap.size+1,off:=4 } (Value.slice (some { block:=wr.heap.size,off:=0 }) p.ns p.ns)).setCell { block:=w.heap.size+1,off:=5 } (Value.slice (some { block:=c.heap.size,off:=0 }) p.ns p.ns)).setCell { block:=w.heap.size+1,off:=6 } (Value.slice (some { block:=l.heap.size,off:=0 }) p.ns p.ns))=WZ at *
 obtain⟨c0,c1,c2,c3,c4,c5,c6⟩:=dp F;refine Xzq (v := .tuple #[(⟨⟨some ⟨w1.heap.size,0,none⟩,p.nb,p.nb,λi=>⟨some ⟨G i,0,none⟩,p.ns,p.ns,λ_=>0⟩⟩,⟨none,0,0,λ_=>⟨0,⟨none,0,0,λ_=>⟨0,0,0,0⟩⟩⟩⟩,⟨none,0,0,λ_=>⟨0,0,0,0⟩⟩,⟨none,0,0,λ_=>⟨0,0,0,0⟩⟩,⟨some ⟨wr.heap.size,0,none⟩,p.ns,p.ns,λ_=>0⟩,⟨some ⟨c.heap.size,0,none⟩,p.ns,p.ns,λ_=>0⟩,⟨some ⟨l.heap.size,0,none⟩,p.ns,p.ns,λ_=>0⟩⟩:St).val,.int .i64 0]) (by simp[results,results7,go_sem,St.val,c0,c1,c2,c3,c4,c5,c6]) rfl ?_;refine⟨_,by rw[H0.o],λa4 hz hs=>⟨⟨Nat.le_refl _,by show p.nb<=maxLen;unfold maxLen;omega,λi hi => ?_⟩,⟨Nat.le_refl _,Qxz _,λi hi=>absurd hi (Qzq _)⟩,Hs.none _,Hs.none _,Eu (U.same (hs _ ow U.lt)) a,Eu (V.same (hs _ ow V.lt)) a,Eu (X.same (hs _ ow X.lt)) a⟩,⟨λ_=>⟨rfl,λi hi=>⟨rfl,λj o=>rfl⟩,rfl,rfl,rfl,⟨rfl,λj o=>rfl⟩,⟨rfl,λj o=>rfl⟩,⟨rfl,λj o=>rfl⟩⟩,λh=>absurd H0.o h⟩,q⟩;have r:i<p.nb:=hi;have aa:=Y.same (hs _ ow Y.lt);refine⟨w1.heap.size,0,rfl,aa.lt,?_,Eu ((ac i r).same (hs _ (by have:=(f i r).1;omega) (ac i r).lt)) a⟩;have:=aa.cell r;rw[if_pos r] at this;rw[Nat.zero_add];exact this
def aep:List Ax->List Ax->Prop
 | [],[]=>True
 | x :: l,y :: m=>ux x y/\aep l m
 | _,_=>False
theorem aep.len:∀{l m:List Ax},aep l m->l.length=m.length
 | [],[],_=>rfl
 | _ :: _,_ :: _,h=>by rw[List.length_cons,List.length_cons,h.2.len]
 | [],_ :: _,h=>h.elim
 | _ :: _,[],h=>h.elim
theorem ct.bt{s:Hs}(h:ct A e w s)(n:Bt R w w')(k:Blk w R t m f)(b:e≠t):ct A e w' s:=by
 obtain⟨c,d,i,j⟩:=h;refine⟨c,d,i,λo => ?_⟩;obtain⟨g,l,hA,a⟩:=j o;exact⟨g,l,hA,n.blk a (Blk.ne2 a k b)⟩
structure Rep(k:Nat)(t:List UInt8)(w wk:World)(v:Value)(l:List Ax)(zs:Nat->Ax):Prop where
 o:wk.ownsRow w.heap.size 77 6 v l.length (Aa l.length zs)
 z:∀i (h:i<l.length),ux (zs i) l[i]/\ct w.heap.size 115 wk (zs i).ls
 kl:k<=t.length
 b:Bw w wk
 rep:Ex t 60 0=(l++(Ex t (60-l.length) k).1,(Ex t (60-l.length) k).2)
theorem Rep.below{k:Nat}{t:List UInt8}{l:List Ax}{zs:Nat->Ax}(h:Rep k t w d v l zs)(c:Bw d a):Rep k t w a v l zs :=
 ⟨ky h.o c,λi hi=>⟨(h.z i hi).1,(h.z i hi).2.below c⟩,h.kl,h.b.trans (c.mono h.b.size),h.rep⟩
def Ro(n:Nat)(zs:Nat->Ax)(x:Ax)(i:Nat):Ax:=if i=n then x else zs i
theorem Rep.more{k:Nat}{t:List UInt8}{g e:World}{j:Value}{l:List Ax}{zs:Nat->Ax}{x:Ax}(h:Rep k t w g v l zs)(d:Zq t k=true)(hs:ux x (rdA t k))(n:ct w.heap.size 115 g x.ls)(p:l.length<60)(f:tm w.heap.size 77 g e)(m:e.ownsRow w.heap.size 77 6 j (l.length+1) (Aa l.length zs++Jd x)):Rep (k+Gy t k) t w e j (l++[rdA t k]) (Ro l.length zs x):=by
 have a:(l++[rdA t k]).length=l.length+1:=vq;refine⟨?_,λi hi => ?_,(arf.1 d).2.2,f.below h.b nlr h.b.size,?_⟩
 .rw[a,Aa,Pi (z':=zs) λi hi=>by unfold Ro;rw[if_neg ow],show Ro l.length zs x l.length=x from if_pos rfl];exact m
 .have o:i<l.length+1:=by rw[<-a];exact hi
  by_cases c:i=l.length
  .subst c;rw[List.getElem_append_right nlr,show Ro l.length zs x l.length=x from if_pos rfl];simp only[Nat.sub_self,List.getElem_cons_zero];exact⟨hs,n.grew f dc⟩
  rw[List.getElem_append_left ow,show Ro l.length zs x i=zs i from if_neg c];exact⟨(h.z i ow).1,(h.z i ow).2.grew f dc⟩
 rw[h.rep,a,show 60-l.length=60-(l.length+1)+1 by omega,arm d];simp
structure J3(A:Nat)(w:World)(s:As):Prop where
 le:s.n<=s.c
 cap:s.c<=maxLen
 list:0<s.n->∃g,s.a=some ⟨g,0,none⟩/\A<=g/\Blk w g 77 (s.n*6) (λj=>(Aa s.n s.z).getD j default)
 lines:∀i,i<s.n->ct A 115 w (s.z i).ls
theorem J3.at{s:As}(h:J3 A w s):s.At w:=by
 refine⟨h.le,h.cap,λi hi => ?_,λi hi=>(h.lines i hi).at⟩;obtain⟨g,a,hA,b⟩:=h.list ow;refine⟨g,0,a,λj c => ?_⟩;rw[Nat.zero_add,b.cell (j:=i*6+j) ow]
 congr 1
 exact Vh hi c
theorem J3.below{s:As}(h:J3 A w s)(a:Bw w w'):J3 A w' s:=by
 refine⟨h.le,h.cap,λd => ?_,λi hi=>(h.lines i hi).below a⟩;obtain⟨g,b,hA,c⟩:=h.list d;exact⟨g,b,hA,c.below a⟩
theorem ct.btA{s:Hs}(h:ct A e w s)(i:Bt R w w')(l:R<A):ct A e w' s:=by
 obtain⟨a,b,c,d⟩:=h;refine⟨a,b,c,λk => ?_⟩;obtain⟨g,f,hA,j⟩:=d k;exact⟨g,f,hA,i.blk j ow⟩
theorem J3.bt{s:As}(h:J3 A w s)(a:Bt R w w')(b:R<A):J3 A w' s:=by
 refine⟨h.le,h.cap,λe => ?_,λi hi=>(h.lines i hi).btA a b⟩;obtain⟨g,c,hA,d⟩:=h.list e;exact⟨g,c,hA,a.blk d ow⟩
def ays(t:List UInt8)(w w':World)(s:As):Prop:=s.n=(Ul t).length/\(∀i (h:i<(Ul t).length),ux (s.z i) (Ul t)[i])/\J3 w.heap.size w' s/\Bw w w'
theorem Rep.done{k:Nat}{t:List UInt8}{y:World}{l:List Ax}{zs:Nat->Ax}(h:Rep k t w y v l zs)(J:t.length<=4096)(B:Ex t (60-l.length) k=([],k)):∃s:As,v=s.val/\ays t w y s/\arn t=k:=by
 have q:=h.rep;rw[B] at q;have j:Ul t=l:=by unfold Ul;rw[if_neg ow,q];simp
 have A:arn t=k:=by unfold arn;rw[if_neg ow,q]
 obtain⟨a,c,x,H⟩:=wn h.o;refine⟨⟨a,l.length,c,zs⟩,x,⟨by rw[j],λi hi => ?_,?_,h.b⟩,A⟩
 .have e:(Ul t)[i]=l[i]'(by rw[<-j];exact hi):=by simp only[j]
  rw[e];exact(h.z i (by rw[<-j];exact hi)).1
 have m:=h.o;rw[x] at m;refine⟨?_,?_,λD => ?_,λi hi=>(h.z i hi).2⟩
 .obtain⟨_,⟨d,f⟩|⟨g,cap,cur,d,f,n,p,_⟩⟩:=m
  .exact aps
  exact aps
 .obtain⟨_,⟨d,f⟩|⟨g,cap,cur,d,f,n,p,G,_⟩⟩:=m
  .exact apw
  exact apw
 have E:0<l.length:=D;have u:(Value.slice a l.length c) ≠ .slice none 0 0:=λe=>by simp only[Value.slice.injEq] at e;omega
 obtain⟨g,F,r,d,f,n,p⟩:=Blk.ofOwns m u;simp only[Value.slice.injEq] at r;exact⟨g,r.1,n,p⟩
theorem ac1(x:Hd)(w:World):
  Calls prog 189 #[x.val] w λe w'=>e = .returned (.bool (kx x))/\Bw w w':=by
 have a:=(Below.refl w.heap.size w).alloc nlr (.cells #[.int .i64 x.o,.int .i64 x.l,.int .i64 x.b,.int .i64 x.n] 115);unfold Hd.val;go_enter func189,ntmps189;go_wp2_with fail;go_ret;exact⟨rfl,a⟩
theorem aeu(h:Hs)(w:World)(b:h.At w):
  Calls prog 139 #[.slice h.a h.n h.c] w λe w'=>e = .returned (.bool (!aw h.n (λj=>kx (h.z j))))/\Bw w w':=by
 go_enter func139,ntmps139;go_wp2_with fail;refine(Qw 189 #[] (λj=>kx (h.z j)) _ _ _ _ b.le b.cap h.z b.hds (enters_of func189 ko rfl) (λi w1 _ _=>ac1 (h.z i) w1)).mono ?_;rintro e w1 ⟨rfl,d⟩;go_wp2_with fail;go_ret;exact⟨rfl,d⟩
theorem aqq(p:Pl)(s:St)(order line bin n:Int)(w:World)(hp:p.At w)(hs:s.At w):
  Calls prog 94 #[p.val,s.val,.int .i64 order,.int .i64 line,.int .i64 bin,.int .i64 n] w λe w'=>∃x:St,e = .returned (.tuple #[x.val,.int .i64 (ji p s order line bin n)])/\x.At w'/\jb (ji p s order line bin n) (t9 p s order.toNat line.toNat bin.toNat n) x/\(ji p s order line bin n=0->ah w.heap.size w' x)/\Bw w w':=by
 obtain⟨W0,hW,he,X0,Z0⟩:=Dh w p s;have Y:=Cq hp hs he X0 Z0;have HW:=hid hW;have leb:=hp.leb;have db:=hp.capb;have les:=hp.les;have dd:=hp.caps;have capb:=db;have caps:=dd;have i3:=Z0.lt;unfold maxLen at capb caps;have jq:=hs.os.le;have hq:=hs.os.cap;unfold maxLen at hq;clear hW X0 Z0 hp hs;unfold Pl.val St.val;go_enter func94,ntmps94;go_wp2_with fail;rw[HW.o];obtain⟨X,B,i,m,u⟩:=Y.o W0 brf;refine(l8 p s W0 B i).mono ?_;rintro e w1 ⟨rfl,hB⟩;clear X B i m u HW;obtain⟨⟨⟨l1,d0,d1⟩,l2,c0,c1,c2,c3,c4,c5,c6⟩,B,i,m,u⟩:=Y.o w1 hB;by_cases h0:ag p s=0;rotate_left
 .have HX:Hid (ji p s order line bin n=ag p s):=Dx h0;have bc:Hid (¬ji p s order line bin n=0):=atp;have g0:(ag p s !=0)=true:=qh;clear h0;clear B i;obtain⟨zl,al,aj,an,zc1,ao,zc2,aq,zc3,au,zc4,av,zc5,ax,ak⟩:=z7 u;go_wp2_with fail;exact mu results94 u m ow HX.o (λh=>bc.o (HX.o.trans h)) rfl rfl rfl
 have H0:=hid h0;have HR:Hid (am p s):=et h0;rw[h0];clear h0;have dv:=hid i.hs;clear B i m u;go_wp2_with fail;refine(acy s.hs order line bin w1 dv.o).mono ?_;rintro e w2 ⟨hd,rfl,ek,ej,cq⟩;clear dv l1 d0 d1 l2 c0 c1 c2 c3 c4 c5 c6;rw[Yq HR.o.fm.hold,aq2 HR.o.fm.hold];have aa:=hB.trans (cq.mono hB.size);have A1:W0.heap.size<=w1.heap.size:=hB.size;have A2:w1.heap.size<=w2.heap.size:=cq.size;have ft:=hid ek;have fs:=hid ej;obtain⟨⟨⟨l1,d0,d1⟩,l2,c0,c1,c2,c3,c4,c5,c6⟩,B,i,m,u⟩:=Y.o w2 aa;clear ek ej cq hB;by_cases H:keptV s.hs.n s.hs.z order line bin=0
 .have HX:Hid (ji p s order line bin n=4):=Lc H0.o H;have bc:Hid (¬ji p s order line bin n=0):=pr;rw[if_pos H]
  generalize keptV s.hs.n s.hs.z order line bin=KV at *
  simp only[Hs.val];clear B i;obtain⟨zl,al,aj,an,zc1,ao,zc2,aq,zc3,au,zc4,av,zc5,ax,ak⟩:=z7 u;go_wp2_with fail;exact mu results94 u m ow HX.o dc rfl rfl rfl
 rw[if_neg H];cases h2:inB n 0 (keptV s.hs.n s.hs.z order line bin)
 .have HX:Hid (ji p s order line bin n=3):=Iz H0.o H h2;have bc:Hid (¬ji p s order line bin n=0):=pr;clear H
  generalize keptV s.hs.n s.hs.z order line bin=KV at *
  simp only[Hs.val];exact au9
 obtain⟨o,l,b,rfl,rfl,rfl,hi⟩:=Rd HR.o H;have HI:=hid hi;have gd:=HI.o.good;have bd:=HI.o.bd;have nn:=ar h2;have ho:=HI.o.on;have hl:=HI.o.ln;have hb:=HI.o.bn;obtain⟨g,hg⟩:∃g,cf s o l=g:=⟨_,rfl⟩;have HG:Hid (cf s o l=g):=hg;rw[hg] at gd;have gl:=gd.2;obtain⟨bo,oo,cs,hh,z0,z1,bi⟩:=i.os.ods o ho;obtain⟨bl,ol,el,hf,y0,y1,y2,y3⟩:=bi.hds l hl;have ll:=bi.le;have lc:=bi.cap;unfold maxLen at lc;have son:=HR.o.fm.son;obtain⟨bs,os,cu,hj,ia⟩:=i.so.ints g ow;have jr:=i.so.le;have h8:=i.so.cap;unfold maxLen at h8;have du:=hid cu;have ds:=hid cs;rw[gd.1] at y0;rw[cs] at c1;rw[el] at z1;rw[cu] at c5;have q0:(0:Int)<=(o:Int):=ow;have q1:(o:Int)<(s.os.n:Int):=ow;have q2:(0:Int)<=(l:Int):=ow;have q3:(l:Int)<((s.os.z o).ls.n:Int):=ow;have q4:(0:Int)<=(g:Int):=ow;have sg:g<s.so.n:=ow;have q5:(g:Int)<(s.so.n:Int):=ow;have sob:=HR.o.fm.sob g gl;have fw:Hid (ed s o l b=keptV s.hs.n s.hs.z o l b):=rfl;have H1:=hid H;have H2:=hid h2;have gr:1<=keptV s.hs.n s.hs.z o l b/\keptV s.hs.n s.hs.z o l b<=200:=⟨bd.1,bd.2.1⟩;clear cs el bi cu y1 y2 y3 z0 gd bd hi hg H son;simp only[Hs.val];by_cases h3:1048576<s.so.z g+n
 .have HX:Hid (ji p s o l b n=2):=Lb H0.o H1.o H2.o asq;have bc:Hid (¬ji p s o l b n=0):=pr;have ec:1048576-s.so.z g<n:=ow
  generalize keptV s.hs.n s.hs.z o l b=KV at *
  clear h3;exact au9
 have HX:Hid (ji p s o l b n=0):=Zn H0.o H1.o H2.o aso;have bw:Hid (mi p s o l b n):=ame;have ec:¬1048576-s.so.z g<n:=ow;have dq:Hid (hd.n=(nk s.hs o l b).n/\∀j,j<hd.n->hd.z j=(nk s.hs o l b).z j):=by
  have k:=fs.o;unfold aho at k;rw[Yq HR.o.fm.hold,if_neg (show ¬keptV s.hs.n s.hs.z o l b=0 from H1.o),if_pos rfl] at k;exact k
 have dn:Hid (Calls prog 127 #[s.val] w2 λe w'=>∃s':St,e = .returned s'.val/\af s' s/\ah w2.heap.size w' s'/\Bw w2 w'):=pv p s w2 i HR.o.fm;obtain⟨K,hK⟩:∃K,keptV s.hs.n s.hs.z o l b=K:=⟨_,rfl⟩;have HK:Hid (ed s o l b=K):=hK;rw[hK] at gr h2 nn ⊢;clear B i m u hK h3 fw;go_wp2_with(go_at_call 43;refine ap (dm _ _ _ _) ?_);rw[<-ds.o,<-du.o];refine Calls.mono dn.o ?_;rintro e L ⟨d,rfl,hsame,ct,bf⟩;clear dn l1 d0 d1 l2 c0 c1 c2 c3 c4 c5 c6 z1 hh hf hj y0 ia h2 ec ds du;have F:o<d.os.n:=Nx;have xk:=hsame.os.2 o F;have ep:l<(d.os.z o).ls.n:=by rw[xk.2.1];exact hl
 have x0b:b<d.on.n:=ate;have ib:g<(d.on.r b).n:=asc;have x0s:g<d.so.n:=by rw[hsame.so.1];exact sg
 have fz:=hid hsame;have dx:Hid ((0<=(d.on.r b).z g/\(d.on.r b).z g<=200)/\(0<=d.so.z g/\d.so.z g<=1048576)/\(0<=((d.os.z o).ls.z l).b/\((d.os.z o).ls.z l).b<=200)/\0<=((d.os.z o).ls.z l).n/\((d.os.z o).ls.z l).n<=200):=ave;have v0:=dx.o;obtain⟨t,ei,az,K5⟩:∃W,L.alloc (.cells #[.slice d.on.a d.on.n d.on.c,.slice d.os.a d.os.n d.os.c,.slice hd.a hd.n hd.c,.slice d.ms.a d.ms.n d.ms.c,.slice d.si.a d.si.n d.si.c,.slice d.so.a d.so.n d.so.c,.slice d.sf.a d.sf.n d.sf.c] 36)=W/\Bw L W/\Blk W L.heap.size 36 7 (λj=>(withHolds d hd).cells.getD j default):=⟨_,rfl,brf.alloc nlr _,Blk.mk' rfl rfl⟩;have bz:=hid ei;have ab:=bf.trans (az.mono bf.size);have ee:=aa.trans (ab.mono aa.size);have A3:w2.heap.size<=L.heap.size:=bf.size;have D:Hid (de w1.heap.size L.heap.size W0 (withHolds d hd) t):=⟨((ah.below ct az).mono A2).withHolds (ft.o.below ab),K5,ee,by have:=ab.size;omega⟩;clear ei ct K5 bf az ab ee hsame aa xk dx
 -- what lies there
 obtain⟨g0,G,a1,a2,a3,a4,a5,a6,a7,a8,a9,d3,d4,d5⟩:=D.o.own.onCell x0b ib;have u0:t.cell? ⟨L.heap.size,0,none⟩=some (.slice d.on.a d.on.n d.on.c):=D.o.box.k 0;have em:=D.o.box.lt;have d2:d.on.a=some ⟨g0,0,none⟩:=a1;have d6:t.cell? ⟨g0,b,none⟩=some (.slice (some ⟨G,0,none⟩) (d.on.r b).n (d.on.r b).c):=a3;have i4:(d.on.r b).n<=(d.on.r b).c:=a7;have gn:(d.on.r b).c<=maxLen:=a8;have d7:t.cell? ⟨G,g,none⟩=some (.int .i64 ((d.on.r b).z g)):=a9;have it:d.on.n<=d.on.c:=d4;have ex:d.on.c<=maxLen:=d5;have b6:=d3 g;rw[d2] at u0;unfold maxLen at gn ex;have r0:(0:Int)<=(b:Int):=ow;have r1:(b:Int)<(d.on.n:Int):=ow;have r2:(g:Int)<((d.on.r b).n:Int):=ow;have eh:=D.o.own.setOn (b:=b) x0b a4 g ((d.on.r b).z g-n);have GB:Blk t G 3 (d.on.r b).n (λj => .int .i64 ((d.on.r b).z j)):=by
  obtain⟨Gq,b1,b2,b3,b4,b5⟩:=D.o.own.rows b x0b;rw[a4] at b1;simp only[co] at b1;subst b1;exact b5
 have E:Hid (de w1.heap.size L.heap.size W0 (setOn (withHolds d hd) b g ((d.on.r b).z g-n)) (t.setCell ⟨G,g,none⟩ (.int .i64 ((d.on.r b).z g-n)))):=⟨eh,D.o.box.other (a:=⟨G,g,none⟩) (Blk.ne2 D.o.box GB dc) _,D.o.bel.setCell (p:=⟨G,g,none⟩) Jp _,by have:=D.o.le;simpa using this⟩;clear a1 d2 a3 a4 a5 a7 a8 a9 d3 d4 d5 eh GB
 -- what went
 obtain⟨GS,e1,e2,e3,e4,e5,e6,e7⟩:=E.o.own.so.cellAt (g:=g) x0s;have e1':d.so.a=some ⟨GS,0,none⟩:=e1;have u5:(t.setCell ⟨G,g,none⟩ (.int .i64 ((d.on.r b).z g-n))).cell? ⟨L.heap.size,5,none⟩=some (.slice d.so.a d.so.n d.so.c):=E.o.box.k 5;have en:=E.o.box.lt;rw[e1'] at u5;have jm:d.so.n<=d.so.c:=e4;have g1:d.so.c<=maxLen:=e5;have d8:(t.setCell ⟨G,g,none⟩ (.int .i64 ((d.on.r b).z g-n))).cell? ⟨GS,g,none⟩=some (.int .i64 (d.so.z g)):=e6;unfold maxLen at g1;have d9:=e7 g;have r3:(g:Int)<(d.so.n:Int):=ow;have GB:Blk (t.setCell ⟨G,g,none⟩ (.int .i64 ((d.on.r b).z g-n))) GS 3 d.so.n (λj => .int .i64 (d.so.z j)):=by
  obtain⟨Gq,b1,b2,b3,b4,b5⟩:=E.o.own.so;have b7:d.so.a=some ⟨Gq,0,none⟩:=b1;rw[e1'] at b7;simp only[co] at b7;subst b7;exact b5
 have A:Hid (de w1.heap.size L.heap.size W0 (setOut (setOn (withHolds d hd) b g ((d.on.r b).z g-n)) g (d.so.z g+n)) ((t.setCell ⟨G,g,none⟩ (.int .i64 ((d.on.r b).z g-n))).setCell ⟨GS,g,none⟩ (.int .i64 (d.so.z g+n)))):=⟨E.o.own.setOut e1 g _,E.o.box.other (a:=⟨GS,g,none⟩) (Blk.ne2 E.o.box GB dc) _,E.o.bel.setCell (p:=⟨GS,g,none⟩) alb _,by have:=E.o.le;simpa using this⟩;clear e1 e1' e2 e4 e5 e6 e7 GB E
 -- the line
 obtain⟨gO,BL,f1,f2,f3,f4,f5,f6,f7,f8,f9,ad,cd,f12,be,ae⟩:=A.o.own.lineCell (o:=o) (l:=l) F ep;have Q:d.os.a=some ⟨gO,0,none⟩:=f1;have u1:((t.setCell ⟨G,g,none⟩ (.int .i64 ((d.on.r b).z g-n))).setCell ⟨GS,g,none⟩ (.int .i64 (d.so.z g+n))).cell? ⟨L.heap.size,1,none⟩=some (.slice d.os.a d.os.n d.os.c):=A.o.box.k 1;have eo:=A.o.box.lt;rw[Q] at u1;have bt:=hid Q;have T:Hid ((d.os.z o).ls.a=some ⟨BL,0,none⟩):=f5;have ea:((t.setCell ⟨G,g,none⟩ (.int .i64 ((d.on.r b).z g-n))).setCell ⟨GS,g,none⟩ (.int .i64 (d.so.z g+n))).cell? ⟨gO,o*2+1,none⟩=some (.slice (some ⟨BL,0,none⟩) (d.os.z o).ls.n (d.os.z o).ls.c):=f4;have jn:(d.os.z o).ls.n<=(d.os.z o).ls.c:=f8;have g4:(d.os.z o).ls.c<=maxLen:=f9;have ce:((t.setCell ⟨G,g,none⟩ (.int .i64 ((d.on.r b).z g-n))).setCell ⟨GS,g,none⟩ (.int .i64 (d.so.z g+n))).cell? ⟨BL,l*4+2,none⟩=some (.int .i64 ((d.os.z o).ls.z l).b):=be;have jp:d.os.n<=d.os.c:=A.o.own.os.le;have hn:d.os.c<=maxLen:=A.o.own.os.cap;unfold maxLen at g4 hn;have cc:=ad (l*4+2);have r4:(o:Int)<(d.os.n:Int):=ow;have r5:(l:Int)<((d.os.z o).ls.n:Int):=ow;obtain⟨Bq,S,ha,-,-,ai⟩:=A.o.own.os.lines o F;have J:(d.os.z o).ls.a=some ⟨Bq,0,none⟩:=S;rw[T.o] at J;simp only[co] at J;subst J;have M:Hid (de w1.heap.size L.heap.size W0 (setLine (setOut (setOn (withHolds d hd) b g ((d.on.r b).z g-n)) g (d.so.z g+n)) o l 2 (((d.os.z o).ls.z l).b+n)) (((t.setCell ⟨G,g,none⟩ (.int .i64 ((d.on.r b).z g-n))).setCell ⟨GS,g,none⟩ (.int .i64 (d.so.z g+n))).setCell ⟨BL,l*4+2,none⟩ (.int .i64 (((d.os.z o).ls.z l).b+n)))):=⟨A.o.own.setLine (o:=o) F T.o l 2 dc _,A.o.box.other (a:=⟨BL,l*4+2,none⟩) (Blk.ne2 A.o.box ai dc) _,A.o.bel.setCell (p:=⟨BL,l*4+2,none⟩) Cx _,by have:=A.o.le;simpa using this⟩;clear f1 Q f2 f4 f5 f6 f8 f9 ad cd f12 be ae S ai A;have hk:l<((setLine (setOut (setOn (withHolds d hd) b g ((d.on.r b).z g-n)) g (d.so.z g+n)) o l 2 (((d.os.z o).ls.z l).b+n)).os.z o).ls.n:=by rw[(dw o).1];exact ep
 obtain⟨g8,fn,f1,f2,g3,f4,f5,f6,g7,f8,f9,ad,cd,f12,be,ae⟩:=M.o.own.lineCell (o:=o) (l:=l) F hk;have Q:d.os.a=some ⟨g8,0,none⟩:=f1;rw[bt.o] at Q;simp only[co] at Q;subst Q;rw[(dw o).2.1] at f5;have ci:(d.os.z o).ls.a=some ⟨fn,0,none⟩:=f5;rw[T.o] at ci;simp only[co] at ci;subst ci;rw[(dw o).1,(dw o).2.2] at f4;have eb:(((t.setCell ⟨G,g,none⟩ (.int .i64 ((d.on.r b).z g-n))).setCell ⟨GS,g,none⟩ (.int .i64 (d.so.z g+n))).setCell ⟨BL,l*4+2,none⟩ (.int .i64 (((d.os.z o).ls.z l).b+n))).cell? ⟨gO,o*2+1,none⟩=some (.slice (some ⟨BL,0,none⟩) (d.os.z o).ls.n (d.os.z o).ls.c):=f4;rw[rf,if_pos ⟨rfl,rfl⟩] at ae;have cg:(((t.setCell ⟨G,g,none⟩ (.int .i64 ((d.on.r b).z g-n))).setCell ⟨GS,g,none⟩ (.int .i64 (d.so.z g+n))).setCell ⟨BL,l*4+2,none⟩ (.int .i64 (((d.os.z o).ls.z l).b+n))).cell? ⟨BL,l*4+3,none⟩=some (.int .i64 ((d.os.z o).ls.z l).n):=ae;have cj:=ad (l*4+3);have bu:Hid (((setLine (setOut (setOn (withHolds d hd) b g ((d.on.r b).z g-n)) g (d.so.z g+n)) o l 2 (((d.os.z o).ls.z l).b+n)).os.z o).ls.a=some ⟨BL,0,none⟩):=by show _=_;rw[(dw o).2.1];exact T.o
 obtain⟨Bq,S,ha,-,-,ai⟩:=M.o.own.os.lines o F;have J:=S;rw[bu.o] at J;simp only[co] at J;subst J;have ba:Hid (de w1.heap.size L.heap.size W0 (xx d hd o l b g n K) ((((t.setCell ⟨G,g,none⟩ (.int .i64 ((d.on.r b).z g-n))).setCell ⟨GS,g,none⟩ (.int .i64 (d.so.z g+n))).setCell ⟨BL,l*4+2,none⟩ (.int .i64 (((d.os.z o).ls.z l).b+n))).setCell ⟨BL,l*4+3,none⟩ (.int .i64 (((d.os.z o).ls.z l).n+(K-n))))):=⟨M.o.own.setLine (o:=o) F bu.o l 3 dc _,M.o.box.other (a:=⟨BL,l*4+3,none⟩) (Blk.ne2 M.o.box ai dc) _,M.o.bel.setCell (p:=⟨BL,l*4+3,none⟩) Cx _,by have:=M.o.le;simpa using this⟩;clear f1 f2 f4 f5 f6 f8 f9 ad cd f12 be ae S ai M;have V:Hid (af (xx d hd o l b g n K) (ch s o l b n)):=by have h:=Ld (n:=n) fz.o HI.o dq.o.1 dq.o.2;rw[HG.o,HK.o] at h;exact h
 have yk:((xx d hd o l b g n K).os.z o).ls.n=(d.os.z o).ls.n/\((xx d hd o l b g n K).os.z o).ls.a=(d.os.z o).ls.a/\((xx d hd o l b g n K).os.z o).ls.c=(d.os.z o).ls.c:=by
  unfold xx;rw[(dw o).1,(dw o).1,(dw o).2.1,(dw o).2.1,(dw o).2.2,(dw o).2.2];exact⟨rfl,rfl,rfl⟩
 have ac:=hid yk;obtain⟨gq,H,cm,h3,h4,h5,h6⟩:=ba.o.own.orderCells (o:=o) F;have ck:d.os.a=some ⟨gq,0,none⟩:=H;rw[bt.o] at ck;simp only[co] at ck;subst ck;rw[yk.1,yk.2.1,yk.2.2,T.o] at h5;have dy:Hid (Hs.At ((((t.setCell ⟨G,g,none⟩ (.int .i64 ((d.on.r b).z g-n))).setCell ⟨GS,g,none⟩ (.int .i64 (d.so.z g+n))).setCell ⟨BL,l*4+2,none⟩ (.int .i64 (((d.os.z o).ls.z l).b+n))).setCell ⟨BL,l*4+3,none⟩ (.int .i64 (((d.os.z o).ls.z l).n+(K-n)))) ((xx d hd o l b g n K).os.z o).ls):=by
  obtain⟨_,_,_,_,_,_,h⟩:=ba.o.own.at.os.ods o F;exact h
 have dl:Hid (Calls prog 139 #[.slice (some ⟨BL,0,none⟩) (d.os.z o).ls.n (d.os.z o).ls.c] ((((t.setCell ⟨G,g,none⟩ (.int .i64 ((d.on.r b).z g-n))).setCell ⟨GS,g,none⟩ (.int .i64 (d.so.z g+n))).setCell ⟨BL,l*4+2,none⟩ (.int .i64 (((d.os.z o).ls.z l).b+n))).setCell ⟨BL,l*4+3,none⟩ (.int .i64 (((d.os.z o).ls.z l).n+(K-n)))) λe w'=>e = .returned (.bool (lg (xx d hd o l b g n K) o))/\Below ((((t.setCell ⟨G,g,none⟩ (.int .i64 ((d.on.r b).z g-n))).setCell ⟨GS,g,none⟩ (.int .i64 (d.so.z g+n))).setCell ⟨BL,l*4+2,none⟩ (.int .i64 (((d.os.z o).ls.z l).b+n))).setCell ⟨BL,l*4+3,none⟩ (.int .i64 (((d.os.z o).ls.z l).n+(K-n)))).heap.size ((((t.setCell ⟨G,g,none⟩ (.int .i64 ((d.on.r b).z g-n))).setCell ⟨GS,g,none⟩ (.int .i64 (d.so.z g+n))).setCell ⟨BL,l*4+2,none⟩ (.int .i64 (((d.os.z o).ls.z l).b+n))).setCell ⟨BL,l*4+3,none⟩ (.int .i64 (((d.os.z o).ls.z l).n+(K-n)))) w'):=by
  have h:=aeu ((xx d hd o l b g n K).os.z o).ls ((((t.setCell ⟨G,g,none⟩ (.int .i64 ((d.on.r b).z g-n))).setCell ⟨GS,g,none⟩ (.int .i64 (d.so.z g+n))).setCell ⟨BL,l*4+2,none⟩ (.int .i64 (((d.os.z o).ls.z l).b+n))).setCell ⟨BL,l*4+3,none⟩ (.int .i64 (((d.os.z o).ls.z l).n+(K-n)))) dy.o;rw[ac.o.1,ac.o.2.1,ac.o.2.2,T.o] at h;have e:lg (xx d hd o l b g n K) o = !aw (d.os.z o).ls.n (λj=>kx (((xx d hd o l b g n K).os.z o).ls.z j)):=by unfold lg;rw[ac.o.1]
  rw[e];exact h
 clear yk H cm h4 h6 dy;rw[<-bz.o] at u0 em a2 d6 a6 d7 b6 u5 en e3 d8 d9 u1 eo f3 ea f7 ce cc g3 eb g7 cg cj h3 h5;simp only[St.val];go_wp2_with fail;rw[bz.o];clear u0 em a2 d6 a6 d7 b6 u5 en e3 d8 d9 u1 eo f3 ea f7 ce cc g3 eb g7 cg cj h3 h5 bz D;refine Calls.mono dl.o ?_;rintro e wx ⟨rfl,eg⟩;have HKx:=hid (ba.o.below eg);clear dl ba eg
 generalize L.heap.size=B7 at *
 have bv:Hid (lg (xx d hd o l b g n K) o=lg (ch s o l b n) o):=Iv V.o ho;obtain⟨y,hy⟩:∃y,xx d hd o l b g n K=y:=⟨_,rfl⟩;have yo:y.os.a=d.os.a/\y.os.n=d.os.n/\y.os.c=d.os.c:=by rw[<-hy];exact⟨rfl,rfl,rfl⟩
 have b0:Hid (y.os.a=some ⟨gO,0,none⟩):=by show y.os.a=_;rw[yo.1];exact bt.o
 have c7:o<y.os.n:=by rw[yo.2.1];exact F
 rw[hy] at HKx V bv ⊢;clear hy yo ac;cases bh:lg y o;rotate_left
 .have fu:Hid (lg (ch s o l b n) o=true):=bv.o.symm.trans bh;clear bh;obtain⟨gq,H,cm,h3,h4,h5,h6⟩:=HKx.o.own.orderCells (o:=o) c7;rw[b0.o] at H;simp only[co] at H;subst H;have jo:=h6 (o*2);obtain⟨gq,b1,b2,b3⟩:=HKx.o.own.os.list ow;rw[b0.o] at b1;simp only[co] at b1;subst b1;have ez:gO≠B7:=Blk.ne2 b3 HKx.o.box dc;have bb:Hid (de w1.heap.size B7 W0 (di y o 2) (wx.setCell ⟨gO,o*2,none⟩ (.int .i64 2))):=⟨HKx.o.own.kind (o:=o) c7 b0.o 2,HKx.o.box.other (a:=⟨gO,o*2,none⟩) ez.symm _,HKx.o.bel.setCell (p:=⟨gO,o*2,none⟩) Sb _,ake⟩;have bx:Hid (af (di y o 2) (t9 p s o l b n)):=by
   unfold t9;rw[fu.o,if_pos rfl];exact Ko V.o o 2
  generalize di y o 2=x at bb bx
  obtain⟨m1,p0,p1,p2,p3,p4,p5,p6⟩:=Boxed.of bb.o.box;obtain⟨-,-,-,m,u⟩:=Y.o _ bb.o.bel;have HZ:=qa2 m u;obtain⟨zl,al,aj,an,zc1,ao,zc2,aq,zc3,au,zc4,av,zc5,ax,ak⟩:=z7 u;have fd:=(Y.o _ brf).2.2.2.1.size;clear cm h5 h6 b2 b3 m u HKx
  generalize (y.os.z o).k=KK at *
  go_wp2_with fail;have KZ:=s7b HZ.o.2 x;have cr:=s7w (b:=w.heap.size+2) HZ.o.1 ow x;have bg:=s7o bb.o.own HZ.o.2 x;exact aun
 have dr:Hid (lg (ch s o l b n) o=false):=bv.o.symm.trans bh;have f0:Hid (lf p b y o l (K-n)):=by have h:=(bw.o.stepIn dr.o).same V.o;rw[HK.o] at h;exact h
 have fv:Hid ((y.os.z o).k=1):=(V.o.os.2 o c7).1.trans ((tj s o l b n o).1.trans HI.o.kind);have br:Hid (ii p y o l (K-n) b=0):=by have I:=f0.o.allocIn fv.o;exact I.less ⟨I.n0,Int.le_refl _⟩
 clear bh;obtain⟨⟨⟨l1,d0,d1⟩,l2,c0,c1,c2,c3,c4,c5,c6⟩,B,i,m,u⟩:=Y.o wx HKx.o.bel;obtain⟨m1,p0,p1,p2,p3,p4,p5,p6⟩:=Boxed.of HKx.o.box;have dt:=hid B;clear B i m u l2 c0 c1 c2 c3 c4 c5 c6;go_wp2_with fail;clear l1 d0 d1 m1 p0 p1 p2 p3 p4 p5 p6;refine(Pz p y o l (K-n) b wx dt.o HKx.o.own.at).mono ?_;rintro e wt ⟨x,rfl,il,eq,cy,ef⟩;have HT:Hid (ng p b y o l (K-n) x):=eq.1 br.o;have fy:Hid (ah w1.heap.size wt x):=(cy br.o).mono HKx.o.le;have U:=hid (HKx.o.below ef);have q:=U.o.box;have bl0:=q.lt;have je:=q.frozen 0;have i5:=q.k 0;have jf:=q.frozen 1;have i6:=q.k 1;have jg:=q.frozen 2;have i7:=q.k 2;have jh:=q.frozen 3;have i8:=q.k 3;have jj:=q.frozen 4;have i9:=q.k 4;have jk:=q.frozen 5;have jc:=q.k 5;have jl:=q.frozen 6;have jd:=q.k 6;rw[br.o];clear il eq cy ef dt q
 generalize D8 p y o l (K-n) b=LL at *
 obtain⟨-,-,-,m,u⟩:=Y.o wt U.o.bel;have HZ:=qa2 m u;have fd:=(Y.o _ brf).2.2.2.1.size;have gs:B7≠w.heap.size+2:=by have:=U.o.box.lt;omega
 have KX:=s7b U.o.box x;have cv:=nl u (λe=>gs e.symm) (.slice x.on.a x.on.n x.on.c) (.slice x.os.a x.os.n x.os.c) (.slice x.hs.a x.hs.n x.hs.c) (.slice x.ms.a x.ms.n x.ms.c) (.slice x.si.a x.si.n x.si.c) (.slice x.so.a x.so.n x.so.c) (.slice x.sf.a x.sf.n x.sf.c);obtain⟨h9,ic,ie,ig,ih,ij,ik⟩:=dp KX;have xm:=KX.lt;obtain⟨zl,al,aj,an,zc1,ao,zc2,aq,zc3,au,zc4,av,zc5,ax,ak⟩:=z7 cv;have fr:Hid (Bw W0 (set7 wt B7 (.slice x.on.a x.on.n x.on.c) (.slice x.os.a x.os.n x.os.c) (.slice x.hs.a x.hs.n x.hs.c) (.slice x.ms.a x.ms.n x.ms.c) (.slice x.si.a x.si.n x.si.c) (.slice x.so.a x.so.n x.so.c) (.slice x.sf.a x.sf.n x.sf.c))):=s7w (b:=B7) U.o.bel ow x;have fx:Hid (ah w1.heap.size (set7 wt B7 (.slice x.on.a x.on.n x.on.c) (.slice x.os.a x.os.n x.os.c) (.slice x.hs.a x.hs.n x.hs.c) (.slice x.ms.a x.ms.n x.ms.c) (.slice x.si.a x.si.n x.si.c) (.slice x.so.a x.so.n x.so.c) (.slice x.sf.a x.sf.n x.sf.c)) x):=s7o fy.o U.o.box x;have dz:=hid cv;have bx:Hid (af x (t9 p s o l b n)):=by
  unfold t9;rw[dr.o,if_neg dc];have tk:=Ap (but:=(b:Int)) bw.o.takeIn;have T':=HT.o;rw[<-HK.o] at T';exact ng.same bw.o.takeIn V.o tk T'
 clear m u KX cv;unfold set7 at h9 ic ie ig ih ij ik xm zl al an ao aq au av ax aj zc1 zc2 zc3 zc4 zc5 ak;simp only[St.val];go_wp2_with fail;have KZ:=s7b dz.o x;have cr:=s7w (b:=w.heap.size+2) ((Y.o _ fr.o).2.2.2.1) ow x;have bg:=s7o fx.o dz.o x;exact aun
attribute [local go_sem] Oper.semAt_some
theorem aie(F:Fence)(n:Nat)(D:F.fn 190)(z:F.round=none)(U:1<=n)(l t Bf d:Nat)(p:Pl)(f:Bool)(J u:List (Bn p f)->World->Prop)
  (H:∀pre x W,J pre W->pre.length<p.nb->YieldAt F (n-1) prog l #[.int .i64 (x.1:Int)] W λe a =>
   (e = .returned (.bool true)/\J (pre++[x]) a/\Cm d Bf W a)\/(e = .returned (.bool false)/\u (pre++[x]) a))
  (W:World) (E:AbidesFrom W.heap.size J) (hn₀:d<=W.heap.size) (L:W.cell? ⟨t,0,none⟩=some (.slice p.ab p.nb p.cb)) (y:W.cell? ⟨Bf,0,none⟩=some (.bool f)) (Q:p.nb<=p.cb) (s:p.cb<=maxLen)
  (G:∀a,Below d W a->vg a p.ab p.nb p.zb) (B:J [] W) :
  CallsIn F n prog 190 #[.func (.yield l) #[] #[],.pointer (some ⟨t,0,none⟩),.pointer (some ⟨Bf,0,none⟩)] W λe a=>(∃v,e = .returned v) /\
   ((∃ys,ys=frX p f p.nb/\J ys a)\/(∃pre,pre <+: frX p f p.nb/\u pre a)):=by
 unfold maxLen at s;have hS:Hid (∀wr,Below d W wr->W.heap.size<=wr.heap.size):=λwr h=>h.size;have m:Hid (∀pre A o,J pre A->J pre (A.alloc o)):=λpre A o h=>E pre A (A.alloc o) none h (World.grownBy_alloc A o none) (λr e=>En);refine callsIn_of_wp func190 rfl D ?_ z;simp only[ntmps190,List.size_toArray,List.length_cons,List.length_nil,Nat.reduceAdd,Nat.reduceSub,Array.replicate_succ,Array.replicate_zero,List.push_toArray,List.append_toArray,Xqx,Xqz]
 gi_wp2
 gi_loopw [9] (λi wr=>∃k:Nat,k<=p.nb/\i = .int .i64 k/\J (frX p f k) wr/\Below d W wr/\wr.cell? ⟨Bf,0,none⟩=some (.bool f)) (λi _=>p.nb-(intOf i).toNat)
 case atStart=>exact⟨0,Qxz _,rfl,B,Below.refl _ _,y⟩
 obtain⟨k,T,rfl,hJs,hB,hcf⟩:=hrel;by_cases c:k<p.nb;rotate_left
 .exact anv
 obtain⟨b,o,q,S,K,Y,z2,z3⟩:=G _ hB k c;have X:(0:Int)<=(k:Int):=ow;have hltf:Bf<wr.heap.size:=World.block_lt_of_cell? wr _ hcf;have M:=awd p f k;rw[q];clear q;by_cases j:(p.zb k).front=f
 .rw[j] at K;have hJa:=m.o _ wr (.cells #[.bool f,.int .i64 (p.zb k).room,.int .i64 (p.zb k).low,.int .i64 (p.zb k).high] 82) hJs;obtain⟨fn,tmps,assign,body,V,hR⟩:=H (frX p f k) ⟨k,c,j⟩ _ hJa ow
  gi_wp2
  refine hR.mono ?_;rintro e w (⟨rfl,hJ3,hk3⟩|⟨rfl,g⟩)
  .have hB3:Below d W w:=(hB.alloc (Qzx hn₀ (hS.o wr hB)) _).trans hk3.1;have hc3:w.cell? ⟨Bf,0,none⟩=some (.bool f):=hk3.2 _ ((((Below.refl wr.heap.size wr).alloc nlr _).cell (p:=⟨Bf,0,none⟩) hltf).trans hcf);rw[<-Jg ⟨c,j⟩] at hJ3;exact am0
  rw[<-Jg ⟨c,j⟩] at g
  gi_wp2
  refine Xzq (results_none rfl _ _ _) rfl ?_;exact⟨⟨_,rfl⟩,.inr ⟨frX p f (k+1),afh p f ow,g⟩⟩
 have hJa:=m.o _ wr (.cells #[.bool (p.zb k).front,.int .i64 (p.zb k).room,.int .i64 (p.zb k).low,.int .i64 (p.zb k).high] 82) hJs;rw[<-P4 j] at hJa;exact at7
theorem Pa(F:Fence)(n:Nat)(u:F.fn 190)(r:F.round=none)(A:1<=n)(b a e:Nat)(p:Pl)(f:Bool)(w:World)(k:b<w.heap.size)(j:a<w.heap.size)(g:e<=w.heap.size)
  (o:w.cell? ⟨b,0,none⟩=some (.slice p.ab p.nb p.cb)) (m:w.cell? ⟨a,0,none⟩=some (.bool f)) (q:p.nb<=p.cb) (i:p.cb<=maxLen) (y:∀c,Below e w c->vg c p.ab p.nb p.zb) :
  SeqStopsK F n prog 190 #[.pointer (some ⟨b,0,none⟩),.pointer (some ⟨a,0,none⟩)] (λx:Bn p f=>#[Value.int .i64 (x.1:Int)]) (Cm e a) (λB=>B=frX p f p.nb) (λpre=>pre <+: frX p f p.nb) p.nb w:=λl J s W d v _ z t =>
 aie F n u r A l b a e p f J s z W v (Qzx g d.size) ((d.cell (p:=⟨b,0,none⟩) k).trans o) ((d.cell (p:=⟨a,0,none⟩) j).trans m) q i (λc h=>y c ((d.mono g).trans h)) t
end Go.Proofs.YtjgckphgagdpaaaGreatDoor
namespace Go.Proofs.YtjgckphgagdpaaaGreatDoor
open _root_.Go.Proofs.Tryz
open Go Go.Sort Go.RowKit
def Jj(l:List Oper):Bool:=l.all λo=>match o.op with|.defer _=>false|_=>true
theorem afw{l:List Oper}(h:Jj l=true){i:Nat}{o:Oper}(a:l.toArray[i]?=some o):∀c,o.op ≠ .defer c:=by
 intro c e;have b:o∈l:=by
  rw[Qvz] at a;exact List.mem_of_getElem? a
 have:=List.all_eq_true.1 h o b;rw[e] at this;cases this
section
variable {F:Fence} {n:Nat} {P:Program} {C:World->Prop} {md:Region.Mode}
theorem Uw{o:Oper}{a:Act}{K:Act->Prop}{k:Act->World->Prop}{m:Exit->Act->World->Prop}{w:World}(l:∀c,o.op ≠ .defer c)(g:C w)(h:∀a w',C w'->K a->k a w')
  (q:o.askedIn F P a C) (s:o.quietIn F n P a C K):o.wpIn F n P a w k m:=by
 obtain⟨v,p,j⟩:=s;have b:=p w g;unfold Oper.quietAtIn at b;unfold Oper.wpIn;refine⟨q w g,?_⟩;rw[Oper.semAt_plain F _ _ l]
 generalize (execOp a.eval o).run P w=r at *
 cases r with
 | ok x w' =>
  cases x<;>simp only[Oper.quietUponIn] at b<;>simp only[Oper.uponIn]
  case value u =>
   obtain⟨d,i⟩:=b;rw[d,i];exact h _ _ g j
  case skip =>
   obtain⟨d,i⟩:=b;rw[d,<-i];exact h _ _ g j
  case enter f args =>
   obtain⟨d,hd,hc⟩:=b;rw[d];exact⟨hd,hc.mono λe w'' ⟨he,hw''⟩=>by subst he;exact h _ _ hw'' j⟩
 | halt x w'=>simp only[Oper.quietUponIn] at b
variable {l:List Oper}
theorem Qj{i:Nat}{a:Act}{K:Act->Prop}{f:Act->World->Prop}{k:Exit->Act->World->Prop}{w:World}(j:Jj l=true)(c:C w)(h:∀a w',C w'->K a->f a w')
  (b:qOpIn F n P l.toArray C i K a):wpOpIn F n P l.toArray k i f a w:=by
 unfold qOpIn at b;unfold wpOpIn
 split
 .rename_i d;simp only[d] at b;exact h _ _ c b
 rename_i o d;simp only[d] at b;obtain⟨g,b⟩:=b
 split
 .rename_i e;simp only[e,if_true] at b;exact Uw (afw j d) c h g b
 rename_i e;simp only[e] at b;exact⟨g w c,h _ _ c b⟩
theorem E9{Q:Act->Prop}{e:Exit->Act->World->Prop}(c:Jj l=true)(d:∀a w,C w->Q a->e .normal a w):∀(fuel:Nat) (b:Array Bool) (a:Act) (w:World),C w ->
  wpAnyQIn F n P md l.toArray C Q fuel b a->wpAnyIn F n P md l.toArray e fuel b a w
 | 0,_,_,_,hw,h=>⟨h.1,d _ _ hw h.2⟩
 | fuel+1,_,_,_,hw,h=>⟨λj=>d _ _ hw (h.1 j),λi hi=>Qj c hw (λg w' f=>E9 c d fuel _ g w' f) (h.2 i hi)⟩
theorem Ob{id:Nat}{Q:Exit->Act->World->Prop}{a:Act}{w:World}(d:Jj l=true)(g:P.follows .mixedOrders=true)(c:Region.lexB .any l.toArray=true)(f:C { w with drawn:=w.drawn+1 })
  (h:wpQuietIn F n P l.toArray C (λb=>∀w',C w'->Q .normal b w') l a):(Code.region id l.toArray true).wpIn F n P Q a w:=by
 simp only[Region.lexB,Xxx] at c;refine wpIn_region_any g (E9 (Q:=λb=>∀w',C w'->Q .normal b w') d (λ_ w' e h=>h w' e) _ _ _ _ f ?_);have:=wpAnyQIn_lex (F:=F) (n:=n) (C:=C) (md := .any) c.1 l 0 (Array.replicate l.toArray.size false) a vq (by simpa using c.2) h
 simpa using this
theorem z4{id:Nat}{Q:Exit->Act->World->Prop}{a:Act}{w:World}(b:Jj l=true)(f:P.follows .mixedOrders=true)(e:Region.lexB .any l.toArray=true)
  (h:wpQuietIn F n P l.toArray (λw'=>∃p:Regrown,w'=grow (redrawn w p.d) p.os) (λc=>∀w',(∃p:Regrown,w'=grow (redrawn w p.d) p.os)->Q .normal c w') l a):(Code.region id l.toArray true).wpIn F n P Q a w :=
 Ob (C:=λw'=>∃p:Regrown,w'=grow (redrawn w p.d) p.os) b f e ⟨⟨w.drawn+1,#[]⟩,by rw[grow_empty];rfl⟩ h
end
end Go.Proofs.YtjgckphgagdpaaaGreatDoor
namespace Go.Proofs.YtjgckphgagdpaaaGreatDoor
variable{n b A g l c i m q r j R C M u:Nat}{P:Prop}{w a w' d X:World}{s x y:St}{W J K D:Int}{e t:TypeId}{p:Pl}{z H:Nat->Hd}{f O:Nat->Value}{Q:Exit->Act->World->Prop}{v U:Value}{V Y:Hs}{Z E:Int->Int->Int}{h:Hd}{xs:List Value}{S:World->Prop}{z' zs:Nat->Int}{a1:Act}
open _root_.Go.Proofs.Tryz
open Go.RowKit Go.Shelf Go.Sort
attribute [local go_sem] Oper.semAt_some
def ahq(P:Prop):Prop:=P
theorem Zm(h:ahq P):P:=h
theorem N9(h:P):ahq P:=h
theorem ai6{F:Fence}{P:Program}{fn:Func}{R:Ending->World->Prop}{a:Act}(c:(results fn a.tmps).run P w = .ok v w)(hd:a.defers=[])(b:R (.returned v) w):Exit.noGoto (bodyPostM F n P fn R) .ret a w:=by
 show LeavesInM F n P fn a.tmps R a.defers .returning w;rw[hd];exact⟨v,c,b⟩
theorem Zc{F:Fence}{P:Program}{fn:Func}{R:Ending->World->Prop}{a:Act}(b:w.heap[A]?=some (.deferred (some [])))(d:(results fn a.tmps).run P (w.putObj A (.deferred none)) = .ok v (w.putObj A (.deferred none)))(hd:a.defers=[{ target := .collected A,args:=#[] }])(c:R (.returned v) (w.putObj A (.deferred none))):Exit.noGoto (bodyPostM F n P fn R) .ret a w:=by
 show LeavesInM F n P fn a.tmps R a.defers .returning w;rw[hd];exact⟨vq,.inl ⟨_,_,rfl,run_takeDeferred b,⟨v,d,c⟩⟩⟩
theorem de.ck{d:Nat}{b:World}{row:Option Nat}(h:de A d b x X)(a:X.grownBy w row)(c:∀r,row=some r->M<=r/\∃o:Obj,X.heap[r]?=some o/\o.isCells=false)(f:b.heap.size<=M):de A d b x w :=
 ⟨h.own.ck (km.of a λr e=>(c r e).2),h.box.ck (km.of a λr e=>(c r e).2),h.bel.grown a h.bel.size (λk e=>Qzx f (c k e).1),Qzx h.le a.size⟩
theorem vz(h:Bw X w):KeepsOthers X w:=⟨h.size,λk o a _=>(h.block k (Qkq a).1).trans a⟩
theorem Ou{B:Nat}(h:Below c X w)(d:Blk X B e 1 (λ_=>v))(f:Blk w B e 1 (λ_=>v)):Cm c B X w:=⟨h,λu b=>by
 have a:=d.k 0;rw[a] at b;cases b;exact f.k 0⟩
def xr(p:Pl)(A B7 BF:Nat)(W0:World)(y:St)(W:World):Prop:=(∃x:St,af x y/\de A B7 W0 x W)/\Blk W BF 4 1 (λ_ => .bool true)
theorem xr.ck{row:Option Nat}(h:xr p A b c a y X)(d:X.grownBy w row)(f:∀r,row=some r->M<=r/\∃o:Obj,X.heap[r]?=some o/\o.isCells=false)(k:a.heap.size<=M):xr p A b c a y w:=by
 obtain⟨⟨x,g,i⟩,j⟩:=h;exact⟨⟨x,g,i.ck d f k⟩,j.ck (km.of d λr e=>(f r e).2)⟩
theorem xr.below{a:Nat}{c:World}(h:xr p A a b c y X)(d:Bw X w):xr p A a b c y w:=by
 obtain⟨⟨x,e,f⟩,g⟩:=h;exact⟨⟨x,e,f.below d⟩,g.below d⟩
def Fc(p:Pl)(A B7:Nat)(W0:World)(c:Code)(y:St)(W:World):Prop:=c = .exit 0/\8<=y.ms.n/\∃x:St,af x y/\de A B7 W0 x W
theorem Fc.ck{c:Code}{row:Option Nat}(h:Fc p A b a c y X)(i:X.grownBy w row)(j:∀r,row=some r->M<=r/\∃o:Obj,X.heap[r]?=some o/\o.isCells=false)(g:a.heap.size<=M):Fc p A b a c y w:=by
 obtain⟨d,h8,x,e,f⟩:=h;exact⟨d,h8,x,e,f.ck i j g⟩
theorem aju(h:q≠b)(a c d e f g i:Value):(set7 w b a c d e f g i).heap[q]?=w.heap[q]?:=by
 unfold set7;rw[Below.heap_setCell _ ⟨b,6,none⟩ _ q h,Below.heap_setCell _ ⟨b,5,none⟩ _ q h,Below.heap_setCell _ ⟨b,4,none⟩ _ q h,Below.heap_setCell _ ⟨b,3,none⟩ _ q h,Below.heap_setCell _ ⟨b,2,none⟩ _ q h,Below.heap_setCell _ ⟨b,1,none⟩ _ q h,Below.heap_setCell _ ⟨b,0,none⟩ _ q h]
theorem aqi(p:Pl)(s:St)(w:World)(hp:p.At w)(hs:s.At w):
  Calls prog 95 #[p.val,s.val] w λe w'=>∃x:St,e = .returned (.tuple #[x.val,.int .i64 (ag p s)])/\x.At w'/\jb (ag p s) (Du p s) x/\(ag p s=0->ah w.heap.size w' x)/\Bw w w':=by
 obtain⟨W0,hW,hm,X0,Z0⟩:=Dh w p s;have HC:=Cq hp hs hm X0 Z0;have HW:=hid hW;have leb:=hp.leb;have bn:=hp.capb;have les:=hp.les;have em:=hp.caps;have capb:=bn;have caps:=em;have iy:=Z0.lt;unfold maxLen at capb caps;clear hW X0 Z0 hp hs;unfold Pl.val St.val;refine(callsIn_wide (n:=9)).1 ?_;refine callsIn_of_wp_marks func95 rfl trivial ?_ rfl;simp only[ntmps95,List.size_toArray,List.length_cons,List.length_nil,Nat.reduceAdd,Nat.reduceSub,Array.replicate_succ,Array.replicate_zero,List.push_toArray,List.append_toArray,Xqx,Xqz]
 gi_wp2_with fail
 rw[HW.o];refine wpIn_wide.2 (wp_scope_straight ((wpIn_wide (n:=9)).1 ?_));obtain⟨⟨⟨l1,d0,d1⟩,l2,c0,c1,c2,c3,c4,c5,c6⟩,-,-,-,-⟩:=HC.o W0 brf
 gi_wp2_with(refine⟨trivial,?_⟩;(first|gi_at_call 99|gi_at_call 127|gi_at_call 140|gi_at_call 126|gi_at_call 141);refine Zm ?_)
 clear l1 d0 d1 l2 c0 c1 c2 c3 c4 c5 c6;refine N9 ?_;obtain⟨X,ap,a1,au,hz⟩:=HC.o W0 brf;refine(callsIn_wide.2 (l8 p s W0 ap a1)).mono ?_;rintro e w1 ⟨rfl,hB⟩;clear X ap a1 au hz HW;obtain⟨⟨⟨l1,d0,d1⟩,l2,c0,c1,c2,c3,c4,c5,c6⟩,ap,a1,au,hz⟩:=HC.o w1 hB;by_cases h0:ag p s=0;rotate_left
 .have a7:=hid h0;have g0:(ag p s !=0)=true:=qh;clear h0 ap a1;obtain⟨zl,h9,h6,ia,zc1,ib,zc2,ei,zc3,ic,zc4,ie,zc5,ig,h7⟩:=z7 hz
  gi_wp2_with fail
  have KZ:=n7b hz;have bh:=n7w (b:=w.heap.size+2) au ow;unfold set7 at KZ bh;obtain⟨df,dg,dh,di,dj,dk,dl⟩:=dp KZ;refine ai6 (v := .tuple #[mw.val,.int .i64 (ag p s)]) (by simp[results,results95,go_sem,mw,St.val,df,dg,dh,di,dj,dk,dl]) rfl ?_;exact⟨mw,rfl,Df _,⟨λh=>absurd h (a7.o),λ_=>⟨rfl,rfl,rfl,rfl,rfl,rfl,rfl⟩⟩,λh=>absurd h (a7.o),bh⟩
 have HR:Hid (am p s):=et h0;have H0:=hid h0;have es:Hid (Calls prog 127 #[s.val] w1 λe w'=>∃s':St,e = .returned s'.val/\af s' s/\ah w1.heap.size w' s'/\Bw w1 w'):=pv p s w1 a1 HR.o.fm;rw[h0];clear h0 ap a1 au hz
 gi_wp2_with(refine⟨trivial,?_⟩;(first|gi_at_call 99|gi_at_call 127|gi_at_call 140|gi_at_call 126|gi_at_call 141);refine Zm ?_)
 refine N9 ?_;refine(callsIn_wide.2 es.o).mono ?_;rintro e w4 ⟨i,rfl,cn,d5,ce⟩;clear es l1 d0 d1 l2 c0 c1 c2 c3 c4 c5 c6;obtain⟨A,fn,b8,K5⟩:=ab7 w4 i;have c9:=hid fn;have hB35:=ce.trans (b8.mono ce.size);have A2:W0.heap.size<=w1.heap.size:=hB.size;have A3:w1.heap.size<=w4.heap.size:=ce.size;have ca:Hid (de w1.heap.size w4.heap.size W0 i A):=⟨ah.below d5 b8,K5,hB.trans (hB35.mono hB.size),Sm⟩;have gy:=hid cn;obtain⟨⟨⟨l1,d0,d1⟩,l2,c0,c1,c2,c3,c4,c5,c6⟩,ap,a1,au,hz⟩:=HC.o A ca.o.bel;clear fn d5 K5 ce b8 hB35 cn hB ap a1 au hz l2 c0 c1 c2 c3 c4 c5 c6;rw[<-c9.o] at l1 d0 d1;simp only[St.val]
 gi_wp2_with fail
 refine wpIn_label ?_;rw[c9.o];rw[c9.o] at l1 d0 d1
 gi_wp2_with(refine⟨trivial,?_⟩;(first|gi_at_call 99|gi_at_call 127|gi_at_call 140|gi_at_call 126|gi_at_call 141);refine Zm ?_)
 refine N9 ?_;clear l1 d0 d1;refine(Hu Fence.wide _ trivial rfl p true A).mono ?_;rintro e w' ⟨rfl,rfl⟩
 gi_wp2_with fail
 generalize hB7:w4.heap.size=B7 at *
 have i1:B7<A.heap.size:=ca.o.box.lt;obtain⟨W6,fo,s6,fi,kF,cP⟩:∃W,(A.alloc (.cells #[.slice p.ab p.nb p.cb,.slice p.sa p.ns p.cs] 25)).alloc (.cells #[.bool true] 4)=W/\W.heap.size=A.heap.size+2/\Bw A W/\Blk W (A.heap.size+1) 4 1 (λ_ => .bool true)/\W.cell? ⟨A.heap.size,0,none⟩=some (.slice p.ab p.nb p.cb):=
  ⟨_,rfl,vq,(brf.alloc nlr _).alloc vq _,(Blk.mk' (cur:=#[.bool true]) vq rfl).congr (λj hj=>by match j,hj with|0,_=>rfl),((Blk.new A #[.slice p.ab p.nb p.cb,.slice p.sa p.ns p.cs] 25).alloc (.cells #[.bool true] 4)).cell (j:=0) vq⟩
 rw[fo];have cy:=hid (ca.o.below fi);have bp:W0.heap.size<=W6.heap.size:=cy.o.bel.size;have im:W0.heap.size<=A.heap.size:=ca.o.bel.size;have gs:Hid (∀d,Below W0.heap.size W6 d->vg d p.ab p.nb p.zb):=λd h=>(HC.o d (cy.o.bel.trans h)).2.1.bins;have gm:Hid (xr p w1.heap.size B7 (A.heap.size+1) W0 (ox p [] s) W6):=⟨⟨i,gy.o,cy.o⟩,kF⟩;clear fo fi hB7;have cF:=kF.k 0;refine wpIn_rangeFunc_ownH rfl dc (gf:=190) (lb:=#[.pointer (some ⟨A.heap.size,0,none⟩),.pointer (some ⟨A.heap.size+1,0,none⟩)]) rfl trivial (enters_of func190 ko rfl)
  (Pa Fence.wide _ trivial rfl dc A.heap.size (A.heap.size+1) W0.heap.size p true W6 ow ow bp cP cF leb bn gs.o) Km (Kl bp ow) brf (λ_=>rfl)
  (λpre W=>xr p w1.heap.size B7 (A.heap.size+1) W0 (ox p pre s) W)
  (λc pre W=>Fc p w1.heap.size B7 W0 c (ox p pre s) W)
  (λpre X Y row hs hg T=>hs.ck hg T bp)
  (λc pre X Y row hs hg T=>hs.ck hg T bp)
  gm.o
  (λb a' W=>∃Bx,Blk W Bx 3 1 (λ_ => .int .i64 (b.1:Int))/\a'={ tmps:=#[.agg #[.slice p.ab p.nb p.cb,.slice p.sa p.ns p.cs],.agg #[.slice s.on.a s.on.n s.on.c,.slice s.os.a s.os.n s.os.c,.slice s.hs.a s.hs.n s.hs.c,.slice s.ms.a s.ms.n s.ms.c,.slice s.si.a s.si.n s.si.c,.slice s.so.a s.so.n s.so.c,.slice s.sf.a s.sf.n s.sf.c],.pointer (some ⟨w.heap.size,0,none⟩),.pointer (some ⟨w.heap.size+1,0,none⟩),.pointer (some ⟨w.heap.size+1+1,0,none⟩),.int .i64 0,.int .i64 0,.pointer (some ⟨B7,0,none⟩),.pointer (some ⟨Bx,0,none⟩),undef,undef,undef,.agg #[.slice p.ab p.nb p.cb,.slice p.sa p.ns p.cs],.agg #[.slice s.on.a s.on.n s.on.c,.slice s.os.a s.os.n s.os.c,.slice s.hs.a s.hs.n s.hs.c,.slice s.ms.a s.ms.n s.ms.c,.slice s.si.a s.si.n s.si.c,.slice s.so.a s.so.n s.so.c,.slice s.sf.a s.sf.n s.sf.c],.int .i64 0,.int .i64 0,.bool false,undef,undef,.agg #[.slice s.on.a s.on.n s.on.c,.slice s.os.a s.os.n s.os.c,.slice s.hs.a s.hs.n s.hs.c,.slice s.ms.a s.ms.n s.ms.c,.slice s.si.a s.si.n s.si.c,.slice s.so.a s.so.n s.so.c,.slice s.sf.a s.sf.n s.sf.c],.agg #[.slice i.on.a i.on.n i.on.c,.slice i.os.a i.os.n i.os.c,.slice i.hs.a i.hs.n i.hs.c,.slice i.ms.a i.ms.n i.ms.c,.slice i.si.a i.si.n i.si.c,.slice i.so.a i.so.n i.so.c,.slice i.sf.a i.sf.n i.sf.c],.agg #[.slice p.ab p.nb p.cb,.slice p.sa p.ns p.cs],.func (.func 190) #[] #[.pointer (some ⟨A.heap.size,0,none⟩),.pointer (some ⟨A.heap.size+1,0,none⟩)],.int .i64 (b.1:Int),undef,undef,undef,undef,undef,undef,undef,undef,undef,undef,undef,undef,undef,undef,undef,undef,undef,undef,undef,undef,undef,undef,undef,undef,undef,undef,undef,undef,undef,undef,undef,undef,undef,undef,undef,undef,undef,undef,undef,undef,undef,undef,undef,undef],defers:=[] })
  (λb a' _ X Y row hs hg T=>by obtain⟨Bx,h1,h2⟩:=hs;exact⟨Bx,h1.ck (km.of hg λr e=>(T r e).2),h2⟩)
  ?assign ?body ?done ?stop
 case assign =>
  rintro l pre b W K hi hK
  gi_wp2
  exact hK _ _ ((KeepsOthers.alloc _ _).from _) (Ou ((Below.refl _ W).alloc (by have:=hi.1.choose_spec.2.bel.size;omega) _) hi.2 (hi.2.alloc _)) (hi.below (brf.alloc nlr _)) ⟨W.heap.size,(Blk.mk' (cur:=#[.int .i64 (b.1:Int)]) rfl rfl).congr (λj hj=>by match j,hj with|0,_=>rfl),rfl⟩
 case body =>
  rintro l pre b a' W hl ⟨r,T⟩ hi ⟨Bx,av,rfl⟩ i4;obtain⟨b,V,bx⟩:=b;dsimp only at av ⊢;obtain⟨Yb,cg⟩:∃y,ox p pre s=y:=⟨_,rfl⟩;have fe:Hid (ox p (pre++[⟨b,V,bx⟩]) s=jp p b p.ns Yb):=by show _=_;rw[Q7,cg]
  have gn:Hid (gx p s Yb):=by show gx p s Yb;rw[<-cg];exact(gx.refl HR.o).B _
  rw[cg] at hi;have e8:=qa2 hl T;have HJ:Hid (xr p w1.heap.size B7 (A.heap.size+1) W0 (jp p b 0 Yb) W/\Blk W Bx 3 1 (λ_ => .int .i64 (b:Int))/\Below W0.heap.size W W/\KeepsFrom W6.heap.size W W):=⟨hi,av,Below.refl _ _,KeepsFrom.refl _ _⟩;have cx:=hid hi;obtain⟨⟨y0,hv,fr⟩,gb⟩:=hi;obtain⟨⟨⟨l1,d0,d1⟩,l2,c0,c1,c2,c3,c4,c5,c6⟩,-,-,-,-⟩:=HC.o W fr.bel;have q0:(0:Int)<=(b:Int):=ow;have q1:(b:Int)<(p.nb:Int):=ow;clear hl T cg hv fr gb av l2 c0 c1 c2 c3 c4 c5 c6
  gi_wp2_with fail
  clear l1 d0 d1
  gi_loopw [27] (λgv wk=>∃g:Nat,g<=p.ns/\gv = .int .i64 g/\Hid (xr p w1.heap.size B7 (A.heap.size+1) W0 (jp p b g Yb) wk/\Blk wk Bx 3 1 (λ_ => .int .i64 (b:Int))/\Below W0.heap.size W wk/\KeepsFrom W6.heap.size W wk)) (λgv _=>p.ns-(intOf gv).toNat)
  case atStart=>exact⟨0,Qxz _,rfl,HJ⟩
  clear HJ;obtain⟨g,hg,rfl,HJ⟩:=hrel;by_cases bj:g<p.ns;rotate_left
  .have hn:g=p.ns:=ow;have r1:(p.ns:Int)<=(g:Int):=ow
   gi_wp2_with fail
   refine⟨HJ.o.2.2.2,Ou HJ.o.2.2.1 cx.o.2 HJ.o.1.2,?_⟩;show xr p w1.heap.size B7 (A.heap.size+1) W0 (ox p (pre++[⟨b,V,bx⟩]) s) _;rw[fe.o,<-hn];exact HJ.o.1
  have r0:(0:Int)<=(g:Int):=ow;have r1:(g:Int)<(p.ns:Int):=ow;obtain⟨M,ch⟩:∃z,jp p b g Yb=z:=⟨_,rfl⟩;have cc:=hid ch;have b9:Hid (gx p s M):=by show gx p s M;rw[<-ch];exact gn.o.G V bx hg
  rw[ch] at HJ;clear ch;obtain⟨⟨⟨y,co,d3⟩,-⟩,-,-,-⟩:=HJ.o;have fc:=hid co;have gw:Hid (am p y):=co.right b9.o.r;have gu:Hid (ep y b g=ep M b g):=co.lying b9.o.r.fm V bj;obtain⟨W8,fp,az,K8⟩:∃d,wr.alloc (.cells #[.int .i64 (g:Int)] 3)=d/\Bw wr d/\Blk d wr.heap.size 3 1 (λ_ => .int .i64 (g:Int)):=⟨_,rfl,brf.alloc nlr _,(Blk.mk' (cur:=#[.int .i64 (g:Int)]) rfl rfl).congr (λj hj=>by match j,hj with|0,_=>rfl)⟩;have fd:Hid (wr.alloc (.cells #[.int .i64 (g:Int)] 3)=W8):=fp;have S:=hid (d3.below az);have a0:=hid K8;have ar:=hid (HJ.o.2.1.below az);have a5:=hid (HJ.o.1.2.below az);have ge:W0.heap.size<=wr.heap.size:=d3.bel.size;have U:Hid (Below W0.heap.size W W8/\KeepsFrom W6.heap.size W W8):=⟨HJ.o.2.2.1.trans (az.mono ge),HJ.o.2.2.2.trans ((vz az).from _)⟩;clear fp az K8 co d3 HJ
  gi_wp2_with fail
  rw[fd.o];clear fd
  generalize wr.heap.size=Bg at *
  obtain⟨⟨⟨l1,d0,d1⟩,l2,c0,c1,c2,c3,c4,c5,c6⟩,ap,-,-,-⟩:=HC.o W8 S.o.bel;obtain⟨bb,ob,du,fq,z0,z1,z2,z3⟩:=ap.bins b V;have i0:=hid du;rw[du] at d0;obtain⟨m1,p0,p1,p2,p3,p4,p5,p6⟩:=Boxed.of S.o.box;have cp:=ar.o.k 0;have cq:=ar.o.lt;have cj:=a0.o.k 0;have d2:=a0.o.lt;have da:=hid S.o.own.at;have cv:Hid (∀wk,y.At wk->Calls prog 126 #[.agg #[.slice y.on.a y.on.n y.on.c,.slice y.os.a y.os.n y.os.c,.slice y.hs.a y.hs.n y.hs.c,.slice y.ms.a y.ms.n y.ms.c,.slice y.si.a y.si.n y.si.c,.slice y.so.a y.so.n y.so.c,.slice y.sf.a y.sf.n y.sf.c],.int .i64 b,.int .i64 g] wk λe w'=>e = .returned (.int .i64 (ep M b g))/\Bw wk w'):=λwk h=>by
   have k:=Mm p y b g wk h gw.o.fm V bj;rw[gu.o] at k;exact k
  have ly:=Vu b9.o.r.fm V bj;have i3:=Kk HR.o.fm.sh.pl V;have ft:=Qqq d0;have f1:=Qqq z2;have fu:=Qqq p0;have fv:=Qqq p1;have fw:=Qqq p2;have fx:=Qqq p3;have fy:=Qqq p4;have fz:=Qqq p5;have f0:=Qqq p6;have eg:=Qqq cp;have ef:=Qqq cj;have ez:Hid ((p.zb b).low<=ep M b g->jp p b (g+1) Yb=M):=λh=>by rw[Vf (by rw[cc.o];exact h),cc.o]
  have ey:Hid (¬(p.zb b).low<=ep M b g->jp p b (g+1) Yb=ka p b g (frX p false p.nb) M):=λh=>by rw[Yu (by rw[cc.o];exact h),cc.o]
  generalize ep M b g=LY at *
  generalize (p.zb b).low=LW at *
  clear du ap l2 c0 c1 c2 c3 c4 c5 c6 d0 d1 z0 z1 z2 z3 p0 p1 p2 p3 p4 p5 p6 cp cj;by_cases d4:LW<=LY
  .refine z4 ko ko ko ?_
   repeat(gi_big_quiet_step (fail))
   refine wpQuietIn_step (λ_ _ _ _=>trivial) (λK hK => ?_)
   go_simp
   apply Exists.intro
   refine⟨λ_ => ?_,hK _ ?_⟩
   .exact amt
   clear hK K
   repeat(gi_big_quiet_step (fail))
   refine wpQuietIn_nil ?_;intro E b1;have J:=ae b1;have S:=hid (S.o.below J);have a0:=hid (a0.o.below J);have ar:=hid (ar.o.below J);have a5:=hid (a5.o.below J);have U:Hid (Below W0.heap.size W E/\KeepsFrom W6.heap.size W E):=⟨U.o.1.trans (J.mono ask),U.o.2.trans ((vz J).from _)⟩;clear b1 J da cv ft f1 fu fv fw fx fy fz f0 eg ef m1 cq d2 fq l1;have HJ:Hid (xr p w1.heap.size B7 (A.heap.size+1) W0 (jp p b (g+1) Yb) E/\Blk E Bx 3 1 (λ_ => .int .i64 (b:Int))/\Below W0.heap.size W E/\KeepsFrom W6.heap.size W E):=by
    show _/\_;rw[ez.o d4];exact⟨⟨⟨y,fc.o,S.o⟩,a5.o⟩,ar.o,U.o⟩
   gi_wp2_with fail
   go_roundw
   case rel=>exact⟨g+1,ow,vo,HJ⟩
   case measure=>simp[intOf];omega
  refine z4 ko ko ko ?_
  repeat(gi_big_quiet_step (fail))
  refine wpQuietIn_step (λ_ _ _ _=>trivial) (λK hK => ?_)
  go_simp
  apply Exists.intro
  refine⟨λ_ => ?_,hK _ ?_⟩
  .exact amt
  clear hK K
  repeat(gi_big_quiet_step (fail))
  refine wpQuietIn_nil ?_;intro E b1;have J:=ae b1;have S:=hid (S.o.below J);have a0:=hid (a0.o.below J);have ar:=hid (ar.o.below J);have a5:=hid (a5.o.below J);have U:Hid (Below W0.heap.size W E/\KeepsFrom W6.heap.size W E):=⟨U.o.1.trans (J.mono ask),U.o.2.trans ((vz J).from _)⟩;clear b1 J da cv ft f1 fu fv fw fx fy fz f0 eg ef m1 cq d2 fq l1;have ew:Hid (jp p b (g+1) Yb=ka p b g (frX p false p.nb) M):=ey.o d4;obtain⟨⟨⟨l1,d0,d1⟩,-,-,-,-,-,-,-,-⟩,-,-,-,-⟩:=HC.o E S.o.bel;clear ez ey d4
  gi_wp2_with(refine⟨trivial,?_⟩;(first|gi_at_call 99|gi_at_call 127|gi_at_call 140|gi_at_call 126|gi_at_call 141);refine Zm ?_)
  refine N9 ?_;clear l1 d0 d1;refine(CallsIn.inRound l (Hu Fence.wide _ trivial rfl p false E)).mono ?_;rintro e w' ⟨rfl,rfl⟩
  gi_wp2_with fail
  obtain⟨L,dr,i6,aq,fs,g9⟩:∃d,(E.alloc (.cells #[.slice p.ab p.nb p.cb,.slice p.sa p.ns p.cs] 25)).alloc (.cells #[.bool false] 4)=d/\d.heap.size=E.heap.size+2/\Bw E d/\Blk d (E.heap.size+1) 4 1 (λ_ => .bool false)/\d.cell? ⟨E.heap.size,0,none⟩=some (.slice p.ab p.nb p.cb):=
   ⟨_,rfl,vq,(brf.alloc nlr _).alloc vq _,(Blk.mk' (cur:=#[.bool false]) vq rfl).congr (λj hj=>by match j,hj with|0,_=>rfl),((Blk.new E #[.slice p.ab p.nb p.cb,.slice p.sa p.ns p.cs] 25).alloc (.cells #[.bool false] 4)).cell (j:=0) vq⟩
  rw[dr];have ha:W0.heap.size<=E.heap.size:=S.o.bel.size;have fh:W0.heap.size<=W.heap.size:=cx.o.1.choose_spec.2.bel.size;have i2:W.heap.size<=E.heap.size:=U.o.1.size;have e9:Hid (Below W0.heap.size W L/\KeepsFrom W6.heap.size W L):=⟨U.o.1.trans (aq.mono ha),U.o.2.trans ((vz aq).from _)⟩;have gq:Hid ((xr p w1.heap.size B7 (A.heap.size+1) W0 (ka p b g [] M) L/\Blk L Bx 3 1 (λ_ => .int .i64 (b:Int))/\Blk L Bg 3 1 (λ_ => .int .i64 (g:Int)))/\Blk L (E.heap.size+1) 4 1 (λ_ => .bool false)/\(Below W0.heap.size W L/\KeepsFrom W6.heap.size W L)):=⟨⟨⟨⟨y,fc.o,S.o.below aq⟩,a5.o.below aq⟩,ar.o.below aq,a0.o.below aq⟩,fs,e9.o⟩;have gt:Hid (∀d,Below W0.heap.size L d->vg d p.ab p.nb p.zb):=λd h=>(HC.o d ((S.o.below aq).bel.trans h)).2.1.bins;have ax:W0.heap.size<=L.heap.size:=ow;have g8:=fs.k 0;have ht:L.heap[l]?=some (.loop r):=e9.o.2.same l (.loop r) e8.o.1 e8.o.2 rfl;clear dr S a0 ar a5 U;refine wpIn_rangeFunc_ownN (l₀:=l) (r₀:=r) rfl ht dc (gf:=190) (lb:=#[.pointer (some ⟨E.heap.size,0,none⟩),.pointer (some ⟨E.heap.size+1,0,none⟩)]) rfl trivial (enters_of func190 ko rfl)
   ((Pa Fence.wide _ trivial rfl dc E.heap.size (E.heap.size+1) W0.heap.size p false L ow ow ax g9 g8 leb bn gt.o).inRound l) Km (Kl ax ow) brf (λ_=>rfl)
   (λo d=>(xr p w1.heap.size B7 (A.heap.size+1) W0 (ka p b g o M) d/\Blk d Bx 3 1 (λ_ => .int .i64 (b:Int))/\Blk d Bg 3 1 (λ_ => .int .i64 (g:Int)))/\Blk d (E.heap.size+1) 4 1 (λ_ => .bool false)/\(Below W0.heap.size W d/\KeepsFrom W6.heap.size W d))
   (λc o d=>Fc p w1.heap.size B7 W0 c (ka p b g o M) d/\(Below W0.heap.size W d/\KeepsFrom W6.heap.size W d))
   (λo X Y row hs hg T=>⟨⟨hs.1.1.ck hg T ax,hs.1.2.1.ck (km.of hg λr e=>(T r e).2),hs.1.2.2.ck (km.of hg λr e=>(T r e).2)⟩,hs.2.1.ck (km.of hg λr e=>(T r e).2),hs.2.2.1.grown hg (Qzx fh hs.2.2.1.size) (λk e=>Qzx ax (T k e).1),ownFrom_keepsFrom (B:=W6.heap.size) (w₀:=W) (B':=L.heap.size) ow () X Y row hs.2.2.2 hg T⟩)
   (λc o X Y row hs hg T=>⟨hs.1.ck hg T ax,hs.2.1.grown hg (Qzx fh hs.2.1.size) (λk e=>Qzx ax (T k e).1),ownFrom_keepsFrom (B:=W6.heap.size) (w₀:=W) (B':=L.heap.size) ow () X Y row hs.2.2 hg T⟩)
   gq.o
   (λf fg _=>fg={ tmps:=#[.agg #[.slice p.ab p.nb p.cb,.slice p.sa p.ns p.cs],.agg #[.slice s.on.a s.on.n s.on.c,.slice s.os.a s.os.n s.os.c,.slice s.hs.a s.hs.n s.hs.c,.slice s.ms.a s.ms.n s.ms.c,.slice s.si.a s.si.n s.si.c,.slice s.so.a s.so.n s.so.c,.slice s.sf.a s.sf.n s.sf.c],.pointer (some ⟨w.heap.size,0,none⟩),.pointer (some ⟨w.heap.size+1,0,none⟩),.pointer (some ⟨w.heap.size+1+1,0,none⟩),.int .i64 0,.int .i64 0,.pointer (some ⟨B7,0,none⟩),.pointer (some ⟨Bx,0,none⟩),.pointer (some ⟨Bg,0,none⟩),.int .i64 (f.1:Int),u11,.agg #[.slice p.ab p.nb p.cb,.slice p.sa p.ns p.cs],.agg #[.slice s.on.a s.on.n s.on.c,.slice s.os.a s.os.n s.os.c,.slice s.hs.a s.hs.n s.hs.c,.slice s.ms.a s.ms.n s.ms.c,.slice s.si.a s.si.n s.si.c,.slice s.so.a s.so.n s.so.c,.slice s.sf.a s.sf.n s.sf.c],.int .i64 0,.int .i64 0,.bool false,undef,undef,.agg #[.slice s.on.a s.on.n s.on.c,.slice s.os.a s.os.n s.os.c,.slice s.hs.a s.hs.n s.hs.c,.slice s.ms.a s.ms.n s.ms.c,.slice s.si.a s.si.n s.si.c,.slice s.so.a s.so.n s.so.c,.slice s.sf.a s.sf.n s.sf.c],.agg #[.slice i.on.a i.on.n i.on.c,.slice i.os.a i.os.n i.os.c,.slice i.hs.a i.hs.n i.hs.c,.slice i.ms.a i.ms.n i.ms.c,.slice i.si.a i.si.n i.si.c,.slice i.so.a i.so.n i.so.c,.slice i.sf.a i.sf.n i.sf.c],.agg #[.slice p.ab p.nb p.cb,.slice p.sa p.ns p.cs],.func (.func 190) #[] #[.pointer (some ⟨A.heap.size,0,none⟩),.pointer (some ⟨A.heap.size+1,0,none⟩)],.int .i64 (b:Int),.pointer (some ⟨w.heap.size,1,none⟩),.slice p.sa p.ns p.cs,.int .i64 (p.ns:Int),.int .i64 (g:Int),.bool true,.int .i64 (g:Int),.agg #[.slice y.on.a y.on.n y.on.c,.slice y.os.a y.os.n y.os.c,.slice y.hs.a y.hs.n y.hs.c,.slice y.ms.a y.ms.n y.ms.c,.slice y.si.a y.si.n y.si.c,.slice y.so.a y.so.n y.so.c,.slice y.sf.a y.sf.n y.sf.c],.int .i64 (b:Int),.int .i64 (g:Int),.int .i64 LY,.pointer (some ⟨w.heap.size,0,none⟩),.slice (some ⟨bb,ob,none⟩) p.nb p.cb,.int .i64 (b:Int),.pointer (some ⟨bb,ob+b*4,none⟩),.pointer (some ⟨bb,ob+b*4+2,none⟩),.int .i64 LW,.bool false,.agg #[.slice p.ab p.nb p.cb,.slice p.sa p.ns p.cs],.func (.func 190) #[] #[.pointer (some ⟨E.heap.size,0,none⟩),.pointer (some ⟨E.heap.size+1,0,none⟩)],.int .i64 (f.1:Int),u44,u45,u46,u47,u48,u49,u50,u51,u52,u53,u54,u55,u56,u57,u58,u59,u60,u61,u62,u63,u64,u65,u66,undef],defers:=[] })
   (λ_ _ _ _ _ _ hs _ _=>hs)
   ?assign2 ?body2 ?done2 ?stop2
  case assign2 =>
   rintro l2 o f d K hi hK
   gi_wp2
   exact hK _ _ (KeepsFrom.refl _ _) ⟨Below.refl _ _,λ_ h=>h⟩ hi rfl
  case done2 =>
   rintro xs d rfl hi;have HJ:Hid (xr p w1.heap.size B7 (A.heap.size+1) W0 (jp p b (g+1) Yb) d/\Blk d Bx 3 1 (λ_ => .int .i64 (b:Int))/\Below W0.heap.size W d/\KeepsFrom W6.heap.size W d):=by
    show _/\_;rw[ew.o];exact⟨hi.1.1,hi.1.2.1,hi.2.2⟩
   clear hi
   gi_wp2_with fail
   go_roundw
   case rel=>exact⟨g+1,ow,vo,HJ⟩
   case measure=>simp[intOf];omega
  case stop2 =>
   rintro c o d a9 ⟨⟨rfl,h8,z,bc,bk⟩,dy,cl⟩;have e1:ka p b g (frX p false p.nb) M=ka p b g o M:=ais a9 rfl h8;have e2:jp p b p.ns Yb=ka p b g o M:=Ve (ew.o.trans e1) h8 ow;have bu:Hid (Fc p w1.heap.size B7 W0 (.exit 0) (ox p (pre++[⟨b,V,bx⟩]) s) d):=by
    show Fc _ _ _ _ _ _ _;rw[fe.o,e2];exact⟨rfl,h8,z,bc,bk⟩
   clear e1 e2 a9 h8 bc bk
   gi_wp2_with fail
   exact⟨cl,bu.o⟩
  case body2 =>
   rintro l2 o f fg d - - hi rfl -;obtain⟨f,bi,ci⟩:=f;dsimp only;obtain⟨YF,cf⟩:∃z,ka p b g o M=z:=⟨_,rfl⟩;have bu:Hid (ka p b g (o++[⟨f,bi,ci⟩]) M=qe p b g f YF):=by show _=_;rw[Q8,cf]
   have eu:Hid (gx p s YF):=by show gx p s YF;rw[<-cf];exact b9.o.F V bx bj _
   rw[cf] at hi;clear cf;obtain⟨⟨⟨⟨z,bc,bk⟩,dv⟩,dz,dx⟩,dw,dy,cl⟩:=hi;have HS:=hid bc;have fa:Hid (am p z):=bc.right eu.o.r;have HMN:=hid bc.ms.1;have HK:Hid (de w1.heap.size B7 W0 z d):=bk;have bv:Hid (Below W0.heap.size W d/\KeepsFrom W6.heap.size W d):=⟨dy,cl⟩;have H:=qa4 dv dz dx dw;have bo:W0.heap.size<=d.heap.size:=bk.bel.size;have ms8:=fa.o.fm.ms8;obtain⟨m1,p0,p1,p2,p3,p4,p5,p6⟩:=Boxed.of HK.o.box;clear bc bk dy cl dv dz dx dw;by_cases h8:z.ms.n=8
   .have hd:((z.ms.n:Int)==8)=true:=by rw[beq_iff_eq];omega
    have g1:Hid (Fc p w1.heap.size B7 W0 (.exit 0) (ka p b g (o++[⟨f,bi,ci⟩]) M) d):=by
     show Fc _ _ _ _ _ _ _;rw[bu.o,Gk aar];exact⟨rfl,aar,z,HS.o,HK.o⟩
    clear h8
    gi_wp2_with fail
    exact⟨KeepsFrom.refl _ _,g1.o,bv.o⟩
   have hd:((z.ms.n:Int)==8)=false:=beq_eq_false_iff_ne.2 ow;have hq:z.ms.n<8:=ow;obtain⟨cd,ds,bq,ff⟩:∃X,d.alloc (.cells #[.int .i64 (g:Int),.int .i64 (f:Int),.int .i64 (b:Int),.int .i64 0] 110)=X/\Bw d X/\Blk X d.heap.size 110 4 (λj=>(#[.int .i64 (g:Int),.int .i64 (f:Int),.int .i64 (b:Int),.int .i64 0]:Array Value).getD j default):=⟨_,rfl,brf.alloc nlr _,Blk.mk' rfl rfl⟩;have b3:Hid (d.alloc (.cells #[.int .i64 (g:Int),.int .i64 (f:Int),.int .i64 (b:Int),.int .i64 0] 110)=cd):=ds;have b2:=hid bq;have cz:=hid ff;have a6:=hid (HK.o.below bq);have cp:=H.o.2.1.k 0;have cq:=H.o.2.1.lt;have cj:=H.o.2.2.1.k 0;have gd:=H.o.2.2.1.lt;obtain⟨⟨⟨l1,d0,d1⟩,-,-,-,-,-,-,-,-⟩,-,-,-,-⟩:=HC.o cd a6.o.bel;obtain⟨n1,e0,e1,e2,e3,e4,e5,e6⟩:=Boxed.of a6.o.box;rw[<-b3.o] at l1 d0 d1 n1 e0 e1 e2 e3 e4 e5 e6;clear ds bq ff h8
   gi_wp2_with(refine⟨trivial,?_⟩;(first|gi_at_call 99|gi_at_call 127|gi_at_call 140|gi_at_call 126|gi_at_call 141);refine Zm ?_)
   refine N9 ?_;rw[b3.o];clear l1 d0 d1 n1 e0 e1 e2 e3 e4 e5 e6 m1 p0 p1 p2 p3 p4 p5 p6 cp cq cj gd b3;refine(CallsIn.inRound l2 (CallsIn.inRound l (callsIn_wide.2 (aez p z g f b 0 cd (HC.o cd a6.o.bel).2.1 a6.o.own.at fa.o bj bi V)))).mono ?_;rintro e al ⟨rfl,b6⟩;have a7:Hid (rq p z b g f=rq p YF b g f):=Kg HS.o eu.o.r.fm V bj bi
   generalize rq p z b g f=NN at *
   have fj:=b2.o.trans (b6.mono b2.o.size);have bw:=cz.o.below b6;have zl:=bw.lt;have ei:=bw.frozen 3;have zc3:=bw.k 3;have Q:Hid (Bw d (al.setCell ⟨d.heap.size,3,none⟩ (.int .i64 NN))):=fj.setCell (p:=⟨d.heap.size,3,none⟩) nlr _;have bg:Blk (al.setCell ⟨d.heap.size,3,none⟩ (.int .i64 NN)) d.heap.size 110 4 (λj=>(#[.int .i64 (g:Int),.int .i64 (f:Int),.int .i64 (b:Int),.int .i64 NN]:Array Value).getD j default):=(bw.set 3 _).congr λj hj=>by match j,hj with|0,_=>rfl|1,_=>rfl|2,_=>rfl|3,_=>rfl
   have bf:=hid (HK.o.below Q.o);have i:=bg.k 0;have x1:=bg.k 1;have x2:=bg.k 2;have x3:=bg.k 3;have xl:=bg.lt;clear b6 fj bw cz a6 b2 bg;by_cases h1:1<=NN;rotate_left
   .have c7:Hid (af z (ka p b g (o++[⟨f,bi,ci⟩]) M)):=by
     rw[bu.o];unfold qe;rw[<-a7.o,if_neg (λc=>h1 c.2)];exact HS.o
    clear a7
    gi_wp2_with fail
    refine⟨(vz Q.o).from _,Ou (Q.o.mono bo) H.o.2.2.2 (H.o.2.2.2.below Q.o),⟨⟨⟨z,c7.o,bf.o⟩,H.o.1.below Q.o⟩,H.o.2.1.below Q.o,H.o.2.2.1.below Q.o⟩,H.o.2.2.2.below Q.o,bv.o.1.trans (Q.o.mono bo),bv.o.2.trans ((vz Q.o).from _)⟩
   have ev:Hid (qe p b g f YF=jf YF ⟨g,f,b,NN⟩):=by
    show _=_;unfold qe;rw[<-a7.o,if_pos ⟨by rw[<-HMN.o];exact hq,h1⟩]
   obtain⟨iM,hM,he,hf,hh⟩:=info_parts Gn;have d6:(al.setCell ⟨d.heap.size,3,none⟩ (.int .i64 NN)).heap.size=al.heap.size:=vq;obtain⟨dd,b7,br⟩:∃X,(al.setCell ⟨d.heap.size,3,none⟩ (.int .i64 NN)).alloc (.cells #[.int .i64 (g:Int),.int .i64 (f:Int),.int .i64 (b:Int),.int .i64 NN] 110)=X/\Below (al.setCell ⟨d.heap.size,3,none⟩ (.int .i64 NN)).heap.size (al.setCell ⟨d.heap.size,3,none⟩ (.int .i64 NN)) X:=⟨_,rfl,brf.alloc nlr _⟩;have c8:Hid ((al.setCell ⟨d.heap.size,3,none⟩ (.int .i64 NN)).alloc (.cells #[.int .i64 (g:Int),.int .i64 (f:Int),.int .i64 (b:Int),.int .i64 NN] 110)=dd):=b7;have e7:Hid (∀j u,(dt ⟨g,f,b,NN⟩)[j]?=some u->dd.cell? ((⟨al.heap.size,0,none⟩:Addr).add j)=some u):=by
    have h:=asb (al.setCell ⟨d.heap.size,3,none⟩ (.int .i64 NN)) ⟨g,f,b,NN⟩ 110;rw[d6] at h;rw[<-b7];exact h
   obtain⟨n1,e0,e1,e2,e3,e4,e5,e6⟩:=Boxed.of bf.o.box;have aj:=hid (bf.o.below br);have bl:=hid (Q.o.trans (br.mono Q.o.size));have i5:=aj.o.own.ms.1;have hy:=aj.o.own.ms.2.1;unfold maxLen at hy;clear b7 br e0 e1 e2 e4 e5 e6 bf Q d6
   gi_wp2_with(gi_at_builtin;rw[c8.o];refine Mb dd rfl (.tmp 61) (.tmp 63) 34 rfl w1.heap.size 110 iM (.agg #[.int .i64 0,.int .i64 0,.int .i64 0,.int .i64 0]) 4 32 underlying34 hM he hf hh rfl dc z.ms.a z.ms.n z.ms.c (ba z.ms.n z.ms.z) rfl aj.o.own.msr aj.o.own.ms.1 aj.o.own.ms.2.1 (iz _ _) aj.o.own.ms.2.2.2 ⟨al.heap.size,0,none⟩ 1 1 (dt ⟨g,f,b,NN⟩) rfl rfl e7.o (λu hu=>asp) dc ?zc3 ?zc4 aj.o.le ?_)
   case zc3=>unfold maxLen;omega
   case zc4=>omega
   intro v2 eh cm a8;obtain⟨k,rfl,fk,kn,kz,kl,av⟩:=aj.o.more A2 A3 cm a8;have cw:=hid a8;have gr:=hid fk;have c7:Hid (af (withMoves z k) (ka p b g (o++[⟨f,bi,ci⟩]) M)):=by
    rw[bu.o,ev.o];exact F5 HS.o _ kn kz kl
   have bt:Hid (∀q t m g',t≠110->t≠36->Blk d q t m g'->Blk (eh.setCell ⟨B7,3,none⟩ (.slice k.a k.n k.c)) q t m g'):=λq t m g' h1 h2 hb=>by
    have h3:=cw.o.blk (hb.below bl.o) h1;exact h3.other (a:=⟨B7,3,none⟩) (Blk.ne2 h3 av h2) _
   have er:Hid (Below W0.heap.size d (eh.setCell ⟨B7,3,none⟩ (.slice k.a k.n k.c))):=(cw.o.below (bl.o.mono bo) A2 (Qzx bo bl.o.size)).setCell (p:=⟨B7,3,none⟩) G6 _;have ex:Hid (KeepsOthers d (eh.setCell ⟨B7,3,none⟩ (.slice k.a k.n k.c))):=((vz bl.o).trans cw.o.keeps).trans (KeepsOthers.setCell _ _ _);have z1:=av.lt;have z2:=av.frozen 3;have z3:=av.k 3;clear cm a8 fk kn kz kl av e7 c8 n1 e3 i x1 x2 x3 xl zl ei zc3 ev a7
   try simp only[Act.put,Qvq,Qwx,Qwz]
   gi_wp2_with fail
   refine⟨ex.o.from _,Ou er.o H.o.2.2.2 (bt.o _ _ _ _ dc dc H.o.2.2.2),⟨⟨⟨withMoves z k,c7.o,gr.o⟩,bt.o _ _ _ _ dc dc H.o.1⟩,bt.o _ _ _ _ dc dc H.o.2.1,bt.o _ _ _ _ dc dc H.o.2.2.1⟩,bt.o _ _ _ _ dc dc H.o.2.2.2,bv.o.1.trans er.o,bv.o.2.trans (ex.o.from _)⟩
 case done =>
  rintro D xs W hD rfl ⟨⟨x,b0,bz⟩,-⟩ hK;have fb:=hid b0;clear b0;exact ax9
 case stop =>
  rintro D c pre W hD a9 ⟨rfl,h8,x,b0,bz⟩ hK;have fb:Hid (af x (Du p s)):=by
   have e:Du p s=ox p pre s:=air a9 rfl h8;rw[e];exact b0
  clear b0 h8 a9;exact ax9
theorem ahp(p:Pl)(s:St)(k n:Int)(w:World)(hp:p.At w)(hs:s.At w):
  Calls prog 96 #[p.val,s.val,.int .i64 k,.int .i64 n] w λe w'=>∃x:St,e = .returned (.tuple #[x.val,.int .i64 (gj p s k n)])/\x.At w'/\jb (gj p s k n) (li s k.toNat n) x/\(gj p s k n=0->ah w.heap.size w' x)/\Bw w w':=by
 obtain⟨W0,hW,e4,X0,Z0⟩:=Dh w p s;have HC:=Cq hp hs e4 X0 Z0;have HW:=hid hW;have leb:=hp.leb;have bc:=hp.capb;have les:=hp.les;have bd:=hp.caps;have capb:=bc;have caps:=bd;have f6:=Z0.lt;unfold maxLen at capb caps;have dj:=hs.ms.le;have av:=hs.ms.cap;have Y:s.ms.n<=maxLen:=Qzx dj av;have di:=av;have dk:=Y;unfold maxLen at di dk;clear hW X0 Z0 hp hs;unfold Pl.val St.val;go_enter func96,ntmps96;go_wp2_with fail;rw[HW.o];obtain⟨X,D,y,A,E⟩:=HC.o W0 brf;refine(l8 p s W0 D y).mono ?_;rintro e w1 ⟨rfl,hB⟩;clear X D y A E HW;obtain⟨⟨⟨l1,d0,d1⟩,l2,c0,c1,c2,c3,c4,c5,c6⟩,D,y,A,E⟩:=HC.o w1 hB;by_cases h0:ag p s=0;rotate_left
 .have HX:Hid (gj p s k n=ag p s):=Cp h0;have ba:Hid (¬gj p s k n=0):=atm;have g0:(ag p s !=0)=true:=qh;clear h0;clear D y;obtain⟨zl,co,cm,cp,zc1,cq,zc2,aj,zc3,cr,zc4,cs,zc5,ct,cn⟩:=z7 E;go_wp2_with fail;exact mu results96 E A ow HX.o (λh=>ba.o (HX.o.trans h)) rfl rfl rfl
 have H0:=hid h0;have HR:Hid (am p s):=et h0;rw[h0];clear h0;cases h1:inB k 0 ((s.ms.n:Int)-1)
 .have HX:Hid (gj p s k n=4):=Ix H0.o h1;have ba:Hid (¬gj p s k n=0):=pr;clear D y;obtain⟨zl,co,cm,cp,zc1,cq,zc2,aj,zc3,cr,zc4,cs,zc5,ct,cn⟩:=z7 E;go_wp2_with(go_at_call 98;refine ap (im _ _ _ Y) ?_);exact mu results96 E A ow HX.o dc rfl rfl rfl
 obtain⟨i,rfl⟩:∃i:Nat,k=i:=⟨k.toNat,Si⟩;have hi:i<s.ms.n:=Si;have HMV:=sl (HR.o.fm.move i hi);obtain⟨f,b,g,N,hm⟩:∃(f b g:Nat) (N:Int),s.ms.z i=⟨g,f,b,N⟩:=⟨(s.ms.z i).l.toNat,(s.ms.z i).b.toNat,(s.ms.z i).o.toNat,(s.ms.z i).n,axn⟩;have HM:=hid hm;rw[hm] at HMV;dsimp only at HMV;obtain⟨u1,u2,u3,u4,u5,u6⟩:=HMV;have hgn:g<p.ns:=ow;have hfn:f<p.nb:=ow;have hbn:b<p.nb:=ow;have hne:¬f=b:=ow;have H1:=hid h1;obtain⟨bm,om,b8,e5,y0,y1,y2,y3⟩:=y.ms.hds i hi;rw[hm] at y0 y1 y2 y3;dsimp only at y0 y1 y2 y3;have em:=hid b8;rw[b8] at c3;obtain⟨W2,da,b5,K2⟩:∃W,w1.alloc (.cells #[.int .i64 (g:Int),.int .i64 (f:Int),.int .i64 (b:Int),.int .i64 N] 110)=W/\Bw w1 W/\Blk W w1.heap.size 110 4 (λj=>(#[.int .i64 (g:Int),.int .i64 (f:Int),.int .i64 (b:Int),.int .i64 N]:Array Value).getD j default):=⟨_,rfl,brf.alloc nlr _,Blk.mk' rfl rfl⟩;have cz:=hid da;have be:=hB.trans (b5.mono hB.size);have u:=hid K2;have q0:(0:Int)<=(i:Int):=ow;have q1:(i:Int)<(s.ms.n:Int):=ow;have A1:W0.heap.size<=w1.heap.size:=hB.size;clear D y A E b8 da K2 hm;go_wp2_with(go_at_call 98;refine ap (im _ _ _ Y) ?_);rw[cz.o];refine ap (dm _ _ _ _) ?_;clear l1 d0 d1 l2 c0 c1 c2 c3 c4 c5 c6 e5 y0 y1 y2 y3 cz b5 hB h1
 generalize w1.heap.size=H at *
 obtain⟨⟨⟨l1,d0,d1⟩,l2,c0,c1,c2,c3,c4,c5,c6⟩,D,y,A,E⟩:=HC.o W2 be;rw[em.o] at c3;cases h2:inB n 0 N
 .have HX:Hid (gj p s i n=3):=Gu H0.o H1.o atl;have ba:Hid (¬gj p s i n=0):=pr;exact al1
 have nn:=ar h2;have H2:Hid (inB n 0 (s.ms.z (i:Int).toNat).n=true):=asd;have onn:b<s.on.n:=ak5;have rn:=HR.o.fm.sh.len b onn;have HSN:Hid ((s.on.r (s.ms.z (i:Int).toNat).b.toNat).z (s.ms.z (i:Int).toNat).o.toNat=(s.on.r b).z g):=asg;obtain⟨bo,oo,df,e6,z0,U⟩:=y.on.rows b onn;obtain⟨br,f9,dg,e7,z1⟩:=U.ints g ow;have v1:=U.le;have v2:=U.cap;have v3:=y.on.le;have v4:=y.on.cap;unfold maxLen at v2 v4;have zb:=HR.o.fm.sh.num b onn g hgn;have m0:W2.cell? ⟨H,0,none⟩=some (.int .i64 g):=u.o.k 0;have m2:W2.cell? ⟨H,2,none⟩=some (.int .i64 b):=u.o.k 2;have ml:=u.o.lt;have q2:(0:Int)<=(b:Int):=ow;have q3:(b:Int)<(s.on.n:Int):=ow;have q4:(0:Int)<=(g:Int):=ow;have q5:(g:Int)<((s.on.r b).n:Int):=ow;rw[df] at c0;rw[dg] at z0;have e9:=Qqq c0;have fb:=Qqq z0;have fc:=Qqq z1;have ai:=Qqq m0;have fa:=Qqq m2
 generalize hZB:(s.on.r b).z g=ZB at *
 clear df dg U c1 c2 c3 c4 c5 c6 d0 d1 m0 m2 z0 z1 c0;go_wp2_with fail;refine Qxq ko ko ?_
 repeat(go_big_quiet_step(fail))
 refine Qqz ?_;intro F dh;have aq:=ae dh;have u:=hid (u.o.below aq);have bf:=be.trans (aq.mono be.size);clear e9 fb fc ai fa dh e6 e7 ml D y A E l1 l2 aq be v1 v2 v3 v4;obtain⟨⟨⟨l1,d0,d1⟩,l2,c0,c1,c2,c3,c4,c5,c6⟩,D,y,A,E⟩:=HC.o F bf;by_cases h3:200<ZB+n
 .have HX:Hid (gj p s i n=2):=Iw H0.o H1.o H2.o Sp;have ba:Hid (¬gj p s i n=0):=pr;have c9:200-ZB<n:=ow;exact al1
 have HX:Hid (gj p s i n=0):=Vx H0.o H1.o H2.o Sp;have HI:Hid (sd p s i f b g N n):=⟨HR.o,hi,HM.o,hfn,hbn,hgn,hne,nn.1,nn.2,u5,u6,by rw[hZB];omega⟩;have c9:¬200-ZB<n:=ow;have cy:Hid (Calls prog 127 #[s.val] F λe w'=>∃s':St,e = .returned s'.val/\af s' s/\ah F.heap.size w' s'/\Bw F w'):=pv p s F y HR.o.fm;have f7:=hid A;clear D y A E h3 HSN;go_wp2_with fail;refine Calls.mono cy.o ?_;rintro e w4 ⟨t,rfl,hsame,b9,bg⟩;clear cy l1 d0 d1 l2 c0 c1 c2 c3 c4 c5 c6 h2 c9;have bb:=hid hsame;have dl:i<t.ms.n:=by rw[hsame.ms.1];exact hi
 have x0f:f<t.on.n:=atb;have x0b:b<t.on.n:=atc;have cj:g<(t.on.r f).n:=axq;have ci:g<(t.on.r b).n:=asu;have vf:0<=(t.on.r f).z g/\(t.on.r f).z g<=200:=axm;have vb:0<=(t.on.r b).z g/\(t.on.r b).z g<=200:=as3;obtain⟨W5,db,au,K5⟩:=ab7 w4 t;have bp:=hid db;have hB35:=bg.trans (au.mono bg.size);have A2:W0.heap.size<=F.heap.size:=bf.size;have A3:F.heap.size<=w4.heap.size:=bg.size;have T:Hid (de F.heap.size w4.heap.size W0 t W5):=⟨ah.below b9 au,K5,bf.trans (hB35.mono bf.size),Sm⟩;have b6:H<F.heap.size:=u.o.lt;have u:=hid (u.o.below hB35);clear db b9 K5 bg au hB35 hsame zb;obtain⟨V,p0,p1,p2,p3,p4,p5,p6⟩:=Boxed.of T.o.box;have q6:(i:Int)+1<=9223372036854775807:=ow;rw[<-bp.o] at V p0 p1 p2 p3 p4 p5 p6;simp only[St.val];go_wp2_with fail;rw[bp.o];clear V p0 p1 p2 p3 p4 p5 p6 bp;refine Calls.mono (aqe F.heap.size t i W5 T.o.le T.o.own dl) ?_;rintro e w6 ⟨rfl,bh,b0,b7⟩
 generalize w4.heap.size=S at *
 have J:=b7 _ _ _ _ dc T.o.box;have aa:Hid (de F.heap.size S W0 (withMoves t (Ew t.ms i)) (w6.setCell ⟨S,3,none⟩ (.slice t.ms.a (t.ms.n-1) t.ms.c))):=T.o.moves A2 A3 (m:=Ew t.ms i) bh b0 b7;have u:Hid (Blk (w6.setCell ⟨S,3,none⟩ (.slice t.ms.a (t.ms.n-1) t.ms.c)) H 110 4 (λj=>(#[.int .i64 (g:Int),.int .i64 (f:Int),.int .i64 (b:Int),.int .i64 N]:Array Value).getD j default)):=(u.o.same (b0.block H b6)).other (a:=⟨S,3,none⟩) (show H≠S by omega) _;have zl:=J.lt;have aj:=J.frozen 3;have zc3:=J.k 3;clear bh b0 b7 J T;go_wp2_with fail;clear zl aj zc3
 generalize w6.setCell ⟨S,3,none⟩ (.slice t.ms.a (t.ms.n-1) t.ms.c)=W7 at *
 generalize hx1:withMoves t (Ew t.ms i)=B at *
 have bi:f<B.on.n:=by rw[<-hx1];exact x0f
 have dn:b<B.on.n:=by rw[<-hx1];exact x0b
 have ay:g<(B.on.r f).n:=by rw[<-hx1];exact cj
 have ck:g<(B.on.r b).n:=by rw[<-hx1];exact ci
 have wf:0<=(B.on.r f).z g/\(B.on.r f).z g<=200:=by rw[<-hx1];exact vf
 have wb:0<=(B.on.r b).z g/\(B.on.r b).z g<=200:=by rw[<-hx1];exact vb
 have c7:=hid hx1;clear hx1 vf vb;obtain⟨g0,G,a1,a2,a3,a4,a5,a6,a7,a8,a9,bq,bs,ad⟩:=aa.o.own.onCell bi ay;have u0:W7.cell? ⟨S,0,none⟩=some (.slice B.on.a B.on.n B.on.c):=aa.o.box.k 0;have ch:=aa.o.box.lt;rw[a1] at u0;unfold maxLen at a8 ad;have m0:W7.cell? ⟨H,0,none⟩=some (.int .i64 g):=u.o.k 0;have V:W7.cell? ⟨H,1,none⟩=some (.int .i64 f):=u.o.k 1;have ml:=u.o.lt;have r0:(0:Int)<=(f:Int):=ow;have r1:(f:Int)<(B.on.n:Int):=ow;have r2:(0:Int)<=(g:Int):=ow;have r3:(g:Int)<((B.on.r f).n:Int):=ow;have cg:=Qqq u0;have cd:=Qqq a3;have ce:=Qqq a9;have ai:=Qqq m0;have cf:=Qqq V;clear u0 a1 a3 a9 m0 V;refine jq [(true,[0,1,2,3,4,5,6,7,8,9,10,11,12],some 13)] ?_;refine⟨λw'=>∃p:Regrown,w'=grow (redrawn W7 p.d) p.os,Qqx (brf.drew),λh=>ix,?_⟩;simp only[jg]
 repeat(go_big_quiet_step(fail))
 refine Qqz ?_;clear cg cd ce ai cf ch ml a2 a6 bq;have Q:Bw W7 W7.drew:=brf.drew
 generalize W7.drew=wj at *
 have K:=hid (aa.o.below Q);have L:=hid (u.o.below Q);have M:=(K.o.own.rowBlk bi a4).2;have b1:=M.lt;have b2:=M.frozen g;have b3:=M.cell ay;have ab:Hid (de F.heap.size S W0 (setOn B f g ((B.on.r f).z g-n)) (wj.setCell ⟨G,g,none⟩ (.int .i64 ((B.on.r f).z g-n)))):=K.o.setOn A2 bi a4 g _;have u:Hid (Blk (wj.setCell ⟨G,g,none⟩ (.int .i64 ((B.on.r f).z g-n))) H 110 4 (λj=>(#[.int .i64 (g:Int),.int .i64 (f:Int),.int .i64 (b:Int),.int .i64 N]:Array Value).getD j default)):=L.o.other (a:=⟨G,g,none⟩) (Blk.ne2 L.o M dc) _;clear Q M aa K L a4 a5 a7 a8 bs ad;refine ma 13 rfl ?_;go_wp2_with fail;refine NoPanic.normal ?_;clear b1 b2 b3 r0 r1 r2 r3
 generalize wj.setCell ⟨G,g,none⟩ (.int .i64 ((B.on.r f).z g-n))=W8 at *
 go_wp2_with fail
 generalize hx2:setOn B f g ((B.on.r f).z g-n)=x2 at *
 have c8:=hid hx2;have bj:b<x2.on.n:=by rw[<-hx2];exact dn
 have az:g<(x2.on.r b).n:=by rw[<-hx2,vr];exact ck
 have cl:Hid ((x2.on.r b).z g=(B.on.r b).z g):=asf;have fk:0<=(x2.on.r b).z g/\(x2.on.r b).z g<=200:=by rw[cl.o];exact wb
 clear hx2;obtain⟨g0,G,a1,a2,a3,a4,a5,a6,a7,a8,a9,bq,bs,ad⟩:=ab.o.own.onCell bj az;have u0:W8.cell? ⟨S,0,none⟩=some (.slice x2.on.a x2.on.n x2.on.c):=ab.o.box.k 0;have ch:=ab.o.box.lt;rw[a1] at u0;unfold maxLen at a8 ad;have m0:W8.cell? ⟨H,0,none⟩=some (.int .i64 g):=u.o.k 0;have V:W8.cell? ⟨H,2,none⟩=some (.int .i64 b):=u.o.k 2;have ml:=u.o.lt;have r0:(0:Int)<=(b:Int):=ow;have r1:(b:Int)<(x2.on.n:Int):=ow;have r2:(0:Int)<=(g:Int):=ow;have r3:(g:Int)<((x2.on.r b).n:Int):=ow;have cg:=Qqq u0;have cd:=Qqq a3;have ce:=Qqq a9;have ai:=Qqq m0;have cf:=Qqq V;clear u0 a1 a3 a9 m0 V;refine jq [(true,[0,1,2,3,4,5,6,7,8,9,10,11,12],some 13)] ?_;refine⟨λw'=>∃p:Regrown,w'=grow (redrawn W8 p.d) p.os,Qqx (brf.drew),λh=>ix,?_⟩;simp only[jg]
 repeat(go_big_quiet_step(fail))
 refine Qqz ?_;clear cg cd ce ai cf ch ml a2 a6 bq;have Q:Bw W8 W8.drew:=brf.drew
 generalize W8.drew=wj at *
 have K:=hid (ab.o.below Q);have L:=hid (u.o.below Q);have M:=(K.o.own.rowBlk bj a4).2;have b1:=M.lt;have b2:=M.frozen g;have b3:=M.cell az;have bn:Hid (de F.heap.size S W0 (setOn x2 b g ((x2.on.r b).z g+n)) (wj.setCell ⟨G,g,none⟩ (.int .i64 ((x2.on.r b).z g+n)))):=K.o.setOn A2 bj a4 g _;have u:Hid (Blk (wj.setCell ⟨G,g,none⟩ (.int .i64 ((x2.on.r b).z g+n))) H 110 4 (λj=>(#[.int .i64 (g:Int),.int .i64 (f:Int),.int .i64 (b:Int),.int .i64 N]:Array Value).getD j default)):=L.o.other (a:=⟨G,g,none⟩) (Blk.ne2 L.o M dc) _;clear Q M ab K L a4 a5 a7 a8 bs ad;refine ma 13 rfl ?_;go_wp2_with fail;refine NoPanic.normal ?_;clear b1 b2 b3 r0 r1 r2 r3
 generalize wj.setCell ⟨G,g,none⟩ (.int .i64 ((x2.on.r b).z g+n))=W9 at *
 generalize hx3:setOn x2 b g ((x2.on.r b).z g+n)=x3 at *
 have en:Hid (af x3 (li s i n)):=by
  have h:=Iy HI.o bb.o (q:=Ew t.ms i) (by show t.ms.n-1=_;rw[bb.o.ms.1]) (λj hj=>by
   have f8:j<t.ms.n-1:=hj;show(if j<i then t.ms.z j else t.ms.z (j+1))=if j<i then s.ms.z j else s.ms.z (j+1);rw[bb.o.ms.2 j ow,bb.o.ms.2 (j+1) ow])
  have e:zu t (Ew t.ms i) f b g n=x3:=by
   unfold zu;rw[<-hx3,cl.o,<-c8.o,<-c7.o]
   rfl
  rw[e] at h;exact h
 clear hx3 cl;obtain⟨V,p0,p1,p2,p3,p4,p5,p6⟩:=Boxed.of bn.o.box;obtain⟨-,-,-,A,E⟩:=HC.o W9 bn.o.bel;have HZ:=qa2 A E;obtain⟨zl,co,cm,cp,zc1,cq,zc2,aj,zc3,cr,zc4,cs,zc5,ct,cn⟩:=z7 E;have fr:=(HC.o _ brf).2.2.2.1.size;clear A E dl x0f x0b cj ci bi dn ay ck wf wb bj az fk u1 u2 u3 u4 u5 u6 q0 q1 q2 q3 q4 q5 q6 rn hZB hi onn nn hgn hfn hbn hne b6 u c7 c8 dj av Y di dk leb bc les bd capb caps;go_wp2_with fail;have KZ:=s7b HZ.o.2 x3;have dd:=s7w (b:=w.heap.size+2) HZ.o.1 ow x3;have b4:=s7o bn.o.own HZ.o.2 x3;unfold set7 at KZ dd b4;obtain⟨ev,ew,ex,ey,ez,e0,e1⟩:=dp KZ;refine Xzq (v := .tuple #[x3.val,.int .i64 0]) (by simp[results,results96,go_sem,St.val,ev,ew,ex,ey,ez,e0,e1]) rfl ?_;exact⟨x3,ja,b4.at,⟨λ_=>en.o,λh=>absurd HX.o h⟩,λ_=>b4.mono ow,dd⟩
theorem Wo(x:Hd)(w:World):
  Calls prog 194 #[x.val] w λe w'=>e = .returned (.bool (vd x))/\Bw w w':=by
 unfold Hd.val vd;go_enter func194,ntmps194;exact ab9
structure C3(x:St)(b g:Nat)(n:Int)(i:Nat)(m:Int)(z:Nat->Hd):Prop where
 rest:mt (cx b g) i (max 0 m) z=mt (cx b g) x.ms.n (max 0 n) x.ms.z
 left:wv (cx b g) (max 0 m) (cz z i)=wv (cx b g) (max 0 n) (sq x)
 pos:∀j,j<x.ms.n->0<=(z j).n/\(z j).n<=200
 le:m<=max 0 n/\(m=n\/0<=m)
theorem C3.miss{n m:Int}(h:C3 x b g n (i+1) m z)(a:¬((z i).l=b/\(z i).o=g)):C3 x b g n i m z:=by
 have c:¬cx b g (z i)=true:=λe=>a (Ca.1 e);refine⟨?_,?_,h.pos,h.le⟩
 .rw[<-h.rest];exact(if_neg c).symm
 rw[<-h.left];exact(if_neg c).symm
theorem C3.hit{n m:Int}(h:C3 x b g n (i+1) m z)(hi:i<x.ms.n)(r:0<m)(f:(z i).l=b)(k:(z i).o=g):C3 x b g n i (m-min m (z i).n) (io z i (min m (z i).n)):=by
 have c:cx b g (z i)=true:=Ca.2 ⟨f,k⟩;have p:=h.pos i hi;have e0:max 0 m=m:=ow;have a:max 0 (m-min m (z i).n)=m-min m (z i).n:=ow;refine⟨?_,?_,λj d => ?_,?_⟩
 .rw[<-h.rest,e0,a];exact(if_pos c).symm
 .rw[<-h.left,e0,a,rd (z:=io z i (min m (z i).n)) (z':=z) λj d=>if_neg ow];exact(if_pos c).symm
 .unfold io;have q:=h.pos j d;by_cases e:j=i
  .exact aoi
  rw[if_neg e];exact q
 have:=h.le;omega
theorem C3.done{n m:Int}(h:C3 x b g n i m z)(hi:i<=x.ms.n)(hd:i=0\/m<=0):z=mt (cx b g) x.ms.n (max 0 n) x.ms.z/\max 0 m=wv (cx b g) (max 0 n) (sq x):=by
 rcases hd with rfl|hd
 .exact⟨h.rest,h.left⟩
 have e:max 0 m=0:=ow;have r:=h.rest;have l:=h.left;rw[e] at r l;rw[Mz _ _ _ λj c=>(h.pos j ow).1] at r;have l0:wv (cx b g) 0 (cz z i)=0:=by
  have k:=(wo (uh b g) (R:=cz z i) (m:=0) (λy a=>ash) (Int.le_refl _)).2;have d:=Dl (P:=cx b g) (R:=cz z i) (λy a=>ash);omega
 rw[e,<-l,l0];exact⟨r,rfl⟩
theorem Yi(A p r:Nat)(F:World)(x:St)(b g:Nat)(q:Int->Int->Int)(n:Int)(w:World)(h:iq A p r F x b g q w)(hm:∀j,j<x.ms.n->0<=(x.ms.z j).n/\(x.ms.z j).n<=200)(hl:x.ms.n<=8)(hn : -100000<=n/\n<=100000):
  Calls prog 145 #[.pointer (some ⟨p,0,none⟩),.int .i64 n] w λe w'=>∃v:Int,e = .returned (.int .i64 v)/\max 0 v=wv (cx b g) (max 0 n) (sq x)/\(-100000<=v/\v<=100000)/\iq A p r F (withMoves x (db (cx b g) x.ms (max 0 n))) b g q w':=by
 have f:=hid h;have B:Hid (C3 x b g n x.ms.n n x.ms.z):=⟨rfl,rfl,hm,ow,Or.inl rfl⟩;obtain⟨u,-,-,-,J,-,-,-,-,-,-⟩:=h.boxed;have mc:=h.own.ms.2.1;have ml:=h.own.ms.1;unfold maxLen at mc;clear h hm;go_enter func145,ntmps145;go_wp2_with fail;clear u J
 go_loopw [1,5] (λnv iv wk=>∃(i:Nat) (m:Int) (z:Nat->Hd),i<=x.ms.n/\iv = .int .i64 ((i:Int)-1)/\nv = .int .i64 m/\Hid (iq A p r F (withMoves x ⟨x.ms.a,x.ms.n,x.ms.c,z⟩) b g q wk)/\Hid (C3 x b g n i m z)) (λ_ iv _=>(intOf iv+1).toNat)
 case atStart=>exact⟨x.ms.n,n,x.ms.z,Nat.le_refl _,rfl,rfl,f,B⟩
 clear f B;obtain⟨i,m,z,hi,rfl,rfl,f,B⟩:=hrel;have bk:=B.o.le;by_cases hd:i=0\/m<=0
 .have HD:Hid (z=mt (cx b g) x.ms.n (max 0 n) x.ms.z/\max 0 m=wv (cx b g) (max 0 n) (sq x)):=B.o.done hi hd;obtain⟨u,-,-,-,J,-,-,-,-,-,-⟩:=f.o.boxed;have D:wr.cell? ⟨p,3,none⟩=some (.slice x.ms.a x.ms.n x.ms.c):=J;have ad:Hid (Calls prog 193 #[.slice x.ms.a x.ms.n x.ms.c,.func (.func 194) #[] #[]] wr λe w'=>e = .returned (.slice x.ms.a (db (cx b g) x.ms (max 0 n)).n x.ms.c)/\ah A w' (withMoves x (db (cx b g) x.ms (max 0 n)))/\Below A wr w'/\(∀q t m g,t≠110->Blk wr q t m g->Blk w' q t m g)/\KeepsOthers wr w'):=by
   have hz:=HD.o.1;have hD:=ahn 194 #[] vd A (withMoves x ⟨x.ms.a,x.ms.n,x.ms.c,z⟩) wr f.o.le f.o.own (enters_of func194 ko rfl) (λy Y _=>by rw[Array.append_empty];exact Wo y Y);rw[hz] at hD;exact hD
  clear J;by_cases bj:i=0
  .have q1:¬(0:Int)<=(i:Int)-1:=ow;exact at9
  have bl:m<=0:=ow;have q1:(0:Int)<=(i:Int)-1:=ow;have q2:¬0<m:=ow;exact at9
 obtain⟨k,rfl⟩:∃k,i=k+1:=⟨i-1,ow⟩;have L:k<x.ms.n:=ow;have q1:(0:Int)<=(k:Int):=ow;have q2:0<m:=ow;have q3:(k:Int)<(x.ms.n:Int):=ow;have e1:(((k+1:Nat):Int)-1)=(k:Int):=ow;rw[e1];obtain⟨u,-,-,-,J,-,-,-,X,u8,-⟩:=f.o.boxed;obtain⟨G,hG,bi,M⟩:=f.o.own.ms.2.2.2 (show 0<x.ms.n by omega);have HG:Hid (x.ms.a=some ⟨G,0,none⟩):=hG;have D:wr.cell? ⟨p,3,none⟩=some (.slice (some ⟨G,0,none⟩) x.ms.n x.ms.c):=by have h:=J;rw[hG] at h;exact h
 have z0:wr.cell? ⟨G,k*4,none⟩=some (.int .i64 (z k).o):=(M.cell (j:=k*4) (by show k*4<x.ms.n*4;omega)).trans (congrArg some (tp (z:=z) (c:=0) L dc));have z1:wr.cell? ⟨G,k*4+1,none⟩=some (.int .i64 (z k).l):=(M.cell (j:=k*4+1) aad).trans (congrArg some (tp (z:=z) (c:=1) L dc));have z3:wr.cell? ⟨G,k*4+3,none⟩=some (.int .i64 (z k).n):=(M.cell (j:=k*4+3) aad).trans (congrArg some (tp (z:=z) (c:=3) L dc));have W:=M.lt;have zp:=B.o.pos k L;clear M J
 generalize hZL:(z k).l=ZL at *
 generalize hZO:(z k).o=ZO at *
 have HZ:=qa2 hZL hZO;clear hZL hZO hd e1 hG;cases h1:(ZL==(b:Int))
 .have K:Hid (C3 x b g n k m z):=B.o.miss (λe=>aj9);have a1:(ZL !=(b:Int))=true:=Sr;exact atz
 have a1:(ZL !=(b:Int))=false:=Sr;cases h2:(ZO==(g:Int))
 .have K:Hid (C3 x b g n k m z):=B.o.miss (λe=>aka);have a3:(ZO !=(g:Int))=true:=Ss;exact atz
 have a3:(ZO !=(g:Int))=false:=Ss;have K:Hid (C3 x b g n k (m-min m (z k).n) (io z k (min m (z k).n))):=B.o.hit L q2 ak9 ala;have r3:=Qqq D;have r7:=Qqq X;have r8:=Qqq u8;have T:=Qqq z0;have U:=Qqq z1;go_wp2_with fail;refine Qxq ko ko ?_
 repeat(go_big_quiet_step(fail))
 refine Qqz ?_;intro _ S;obtain⟨⟨s,d⟩,H⟩:=S;subst H;have bb:=Qqq z3 s d;have ba:=Xzx W (Qxx wr s d).size;have E:Hid (iq A p r F (withMoves x ⟨x.ms.a,x.ms.n,x.ms.c,z⟩) b g q (grow (redrawn wr s) d)):=f.o.below (Qxx wr s d);clear r3 r7 r8 T U D X u8 z0 z1 z3 f W u
 generalize grow (redrawn wr s) d=Y at *
 obtain⟨a2,a4,a5,ae⟩:=E.o.own.ms;obtain⟨G',ag,an,aj⟩:=ae (show 0<x.ms.n by omega);have eG:G=G':=by
  have e:x.ms.a=some ⟨G',0,none⟩:=ag;rw[HG.o] at e
  simpa using e
 subst eG;have fz:=aj.frozen (k*4+3);have ay:Hid (iq A p r F (withMoves x ⟨x.ms.a,x.ms.n,x.ms.c,io z k (min m (z k).n)⟩) b g q (Y.setCell ⟨G,k*4+3,none⟩ (.int .i64 ((z k).n-min m (z k).n)))):=E.o.moveN (i:=k) (G:=G) L HG.o (min m (z k).n);clear a2 a4 a5 ae ag an aj E
 generalize (z k).n=ZN at *
 go_wp2_with fail;go_roundw
 case rel=>exact⟨k,m-min m ZN,io z k (min m ZN),ow,vo,vo,ay,K⟩
 case measure=>simp[intOf]
def pu(dn:Nat->Bool)(i j:Nat):Bool:=if j=i then true else dn j
theorem qp(a:Nat->Bool)(i:Nat):pu a i i=true:=if_pos rfl
theorem az{a:Nat->Bool}(h:¬j=i):pu a i j=a j:=if_neg h
theorem Vv{P:Program}{ops:Array Oper}{T:Nat->Bool}{rem:List Nat}{L:Array Bool}{I:(Nat->Bool)->(Nat->Value)->World->Prop}{fuel:Nat}(p:vn ops rem L=true)(B:∀r∈rem,T r=false)
  (step:∀i∈rem,∀(a:Nat->Bool) (V:Nat->Value) (w:World) (K:Act->World->Prop),S w->a i=false->(∀d∈oe ops i,d∈rem->a d=true)->I a V w ->
   (∀v w',S w'->I (pu a i) (upd V i v) w'->K ((dz ops rem V a1).put (xt ops i) v) w')->wpOp P ops Q i K (dz ops rem V a1) w)
  (done:∀(a:Nat->Bool) (V:Nat->Value) (w:World),S w->(∀j∈rem,a j=true)->I a V w->tt P ops Q S T fuel (lj L rem) (dz ops rem V a1) w) :
  ∀(m:Nat) (listed:Array Bool) (V:Nat->Value) (w:World),(rem.filter (λr => !listed.getD r true)).length=m->listed.size=ops.size->(∀j,j ∉ rem->listed[j]?=L[j]?)->qu ops listed->S w->I (λj=>listed.getD j true) V w ->
   tt P ops Q S T (m+fuel) listed (dz ops rem V a1) w:=by
 simp only[vn,Xxx,decide_eq_true_eq] at p;obtain⟨⟨⟨⟨hoth,c⟩,hrem⟩,z⟩,hnd⟩:=p;have hrem':∀r∈rem,r<ops.size/\L.getD r true=false:=λr hr=>aca;intro m
 induction m with
 | zero =>
  intro listed V w hm hsz hag hcl k g;have hall:∀r∈rem,listed.getD r true=true:=λr hr=>aly;have y:listed=lj L rem:=auk;rw[Nat.zero_add];have h:=done (λj=>listed.getD j true) V w k hall g;rw[<-y] at h;exact h
 | succ m ih =>
  intro listed V w hm hsz hag hcl k g;have hex:∃r∈rem,listed.getD r true=false:=ahd;have t:∀d,L.getD d false=true->listed.getD d false=true:=λd hd=>ag7;obtain⟨D,A,n⟩:=Fw hsz [] rem c t (λd hd=>by simp at hd) (λr hr=>(hrem' r hr).1) hex;rw[Nat.add_right_comm];refine⟨λu=>absurd (u▸n) vq,λi hi => ?_⟩;obtain⟨hli,o,ho,hdep⟩:=mem_ready.1 hi;have b:∀d∈oe ops i,listed.getD d false=true:=λd hd=>abj;have hdt:∀d,listed.getD d false=true->listed.getD d true=true:=λd hd=>abx;have hir:i∈rem:=ag3;have hin:i<listed.size:=ak1;have l:listed.getD i true=false:=hli;refine step i hir (λj=>listed.getD j true) V w _ k l (λd hd hdr=>hdt d (b d hd)) g (λv w' f s => ?_);refine⟨λ_=>f,?_⟩;rw[Lg hnd hir];have gset:∀j,(listed.setIfInBounds i true).getD j true=if j=i then true else listed.getD j true:=λj=>ano;refine ih (listed.setIfInBounds i true) (upd V i v) w' ?_ (by simpa using hsz) (λj hj => ?_) (hcl.set hi) f ?_
  .have hnodup:rem.Nodup:=apr;exact at8
  .exact anw
  have e:(λj=>(listed.setIfInBounds i true).getD j true)=pu (λj=>listed.getD j true) i:=funext λj=>gset j;rw[e];exact s
def ayr(P:Program)(ops:Array Oper)(Q:Exit->Act->World->Prop)(S:World->Prop)(rem:List Nat)(a1:Act):Prop :=
 ∃I:(Nat->Bool)->(Nat->Value)->World->Prop,(∀(dn:Nat->Bool) (V:Nat->Value) (w:World),S w->(∀j∈rem,dn j=false)->I dn V w) /\
  (∀i∈rem,∀(dn:Nat->Bool) (V:Nat->Value) (w:World) (K:Act->World->Prop),S w->dn i=false->(∀d∈oe ops i,d∈rem->dn d=true)->I dn V w ->
   (∀v w',S w'->I (pu dn i) (upd V i v) w'->K ((dz ops rem V a1).put (xt ops i) v) w')->wpOp P ops (NoPanic Q) i K (dz ops rem V a1) w) /\
  (∀(dn:Nat->Bool) (V:Nat->Value) (w:World),S w->(∀j∈rem,dn j=true)->I dn V w->NoPanic Q .normal (dz ops rem V a1) w)
theorem Ij{P:Program}{l:List Oper}{a:Act}(S:World->Prop)(d b:List Nat)
  (D:P.follows .mixedOrders=true) (hs:Region.noSelect l.toArray=true) (z:C9 l.toArray d (Array.replicate l.length false)=true) (s:d.all (λk=>decide (k<l.length))=true) (E:((ss l d).all Es)=true)
  (n:vn l.toArray b (lj (Array.replicate l.length false) d)=true) (y:Nn l.toArray [] (lj (lj (Array.replicate l.length false) d) b)=true) (hl:d.length+b.length=l.length)
  (f:S w.drew) (h:wpQuiet P l.toArray S (ayr P l.toArray Q S b) (ss l d) a):(Code.region R l.toArray true).wp P Q a w:=by
 refine wp_region_noPanic (wp_region_any D ?_);have hM':=n;simp only[vn,Xxx,decide_eq_true_eq] at hM';have key:=yh (Q:=NoPanic Q) (T:=λ_=>false) (N:=l.toArray.size) (fuel:=b.length) (w:=w.drew) hs f (λc a F w h=>(h:False).elim) d (ss l d) _ a z (λk G=>⟨rfl,λj hj=>by cases hj⟩) (qu.none _ _) (Gx s) E h (λa1 B q => ?_)
 .exact ab6
 obtain⟨I,m,step,done⟩:=B;have g:(b.filter (λr => !(lj (Array.replicate l.length false) d).getD r true))=b:=S8;have v:∀j∈b,(lj (Array.replicate l.length false) d).getD j true=false:=λj hj=>an2;obtain⟨e,p⟩:∃e,dz l.toArray b e a1=a1:=⟨_,A8 a1 b⟩;have:=Vv (P:=P) (Q:=NoPanic Q) (S:=S) (T:=λ_=>false) (a1:=a1) (fuel:=0) (I:=I) n (λ_ _=>rfl) step
  (λx V w' o hd A=>C2 [] _ _ w' y (λt i u=>by simp at u) (done x V w' o hd A))
  b.length (lj (Array.replicate l.length false) d) e w.drew (by rw[g]) hM'.1.2 (λ_ _=>rfl) q f (m _ _ _ f v)
 rw[p] at this;exact this
theorem o9(V:Nat->Value)(i:Nat)(v:Value):upd V i v i=v:=if_pos rfl
theorem fo(V:Nat->Value)(v:Value)(h:¬j=i):upd V i v j=V j:=if_neg h
theorem Ez{P:Program}{l:List Oper}{a:Act}(b:List Nat)
  (D:P.follows .mixedOrders=true) (m:vn l.toArray b (Array.replicate l.length false)=true) (z:Nn l.toArray [] (lj (Array.replicate l.length false) b)=true) (B:b.length=l.length)
  (I:(Nat->Bool)->(Nat->Value)->World->Prop) (g:∀(c:Nat->Bool) (V:Nat->Value),(∀j∈b,c j=false)->I c V w.drew)
  (step:∀i∈b,∀(c:Nat->Bool) (V:Nat->Value) (w:World) (K:Act->World->Prop),c i=false->(∀d∈oe l.toArray i,d∈b->c d=true)->I c V w ->
   (∀v w',I (pu c i) (upd V i v) w'->K ((dz l.toArray b V a).put (xt l.toArray i) v) w')->wpOp P l.toArray (NoPanic Q) i K (dz l.toArray b V a) w)
  (done:∀(c:Nat->Bool) (V:Nat->Value) (w:World),(∀j∈b,c j=true)->I c V w->NoPanic Q .normal (dz l.toArray b V a) w):(Code.region R l.toArray true).wp P Q a w:=by
 refine wp_region_noPanic (wp_region_any D ?_);have hM':=m;simp only[vn,Xxx,decide_eq_true_eq] at hM';have f:(b.filter (λr => !(Array.replicate l.length false).getD r true))=b:=S8;have p:∀j∈b,(Array.replicate l.length false).getD j true=false:=λj hj=>an2;obtain⟨e,n⟩:∃e,dz l.toArray b e a=a:=⟨_,A8 a b⟩;have:=Vv (P:=P) (Q:=NoPanic Q) (S:=λ_=>True) (T:=λ_=>false) (a1:=a) (fuel:=0) (I:=I) m (λ_ _=>rfl) (λi hi c V w K _ q s u x=>step i hi c V w K q s u λv w' y=>x v w' trivial y)
  (λc V w' E hd A=>C2 [] _ _ w' z (λt i o=>by simp at o) (done c V w' hd A))
  b.length (Array.replicate l.length false) e w.drew (by rw[f]) hM'.1.2 (λ_ _=>rfl) (qu.none _ _) trivial (g _ _ p)
 rw[n] at this;have k:=Fx _ _ _ _ this;rw[B] at k
 simpa using k
theorem Wn(x:Hd)(w:World):
  Calls prog 192 #[x.val] w λe w'=>e = .returned (.bool (vd x))/\Bw w w':=by
 unfold Hd.val vd;go_enter func192,ntmps192;exact ab9
def qt(x:St)(q:Int->Int->Int):St:=⟨x.on,Je x.os q,x.hs,x.ms,x.si,x.so,x.sf⟩
theorem aft(x:Hd):ww x 0=x:=by unfold ww;rw[Int.add_zero]
theorem ae0(x:St):qt x (λ_ _=>0)=x:=by
 unfold qt Je;simp only[aft]
theorem aqx(x:St)(q:Int->Int->Int)(o l:Nat)(d:Int):setLine (qt x q) o l 3 (((x.os.z o).ls.z l).n+q o l+d)=qt x (uc q o l (q o l+d)):=by
 unfold setLine qt Ft Je
 congr 2
 funext i
 by_cases hi:i=o
 .rw[if_pos hi];subst hi
  congr 2
  unfold Bl
  congr 1
  funext j
  dsimp only;by_cases a:j=l
  .rw[if_pos a,a];unfold Lp ww uc;rw[if_neg dc,if_neg dc,if_neg dc,if_pos ⟨rfl,rfl⟩,Int.add_assoc]
  rw[if_neg a];unfold uc;rw[if_neg (λe=>a ow)]
 rw[if_neg hi];dsimp only
 congr 2
 funext j
 unfold uc;rw[if_neg (λe=>hi ow)]
structure zd(x:St)(b g:Nat)(n:Int)(i:Nat)(m:Int)(z:Nat->Hd)(q:Int->Int->Int):Prop where
 rest:mt (cg x b g) i (max 0 m) z=mt (cg x b g) x.hs.n (max 0 n) x.hs.z
 sum:∀o l,q o l+mx (cg x b g) (max 0 m) (cz z i) o l=mx (cg x b g) (max 0 n) (pg x) o l
 q0:∀o l,0<=q o l
 pos:∀j,j<x.hs.n->0<=(z j).n/\(z j).n<=200
 key:∀j,j<x.hs.n->(z j).o=(x.hs.z j).o/\(z j).l=(x.hs.z j).l/\(z j).b=(x.hs.z j).b
 le:m<=max 0 n/\(m=n\/0<=m)
theorem zd.revP{n m:Int}{q:Int->Int->Int}(h:zd x b g n i m z q)(hi:i<=x.hs.n):yu (cz z i):=λy a=>by
 obtain⟨j,c,e⟩:=Bz a;rw[<-e];exact(h.pos j ow).1
theorem zd.qle{n m:Int}{q:Int->Int->Int}(h:zd x b g n i m z q)(hi:i<=x.hs.n)(o l:Int):q o l<=mx (cg x b g) (max 0 n) (pg x) o l:=by
 have a:=h.sum o l;have c:=Oi (cg x b g) o l (m:=max 0 m) (h.revP hi) ow;omega
theorem zd.miss{n m:Int}{q:Int->Int->Int}(h:zd x b g n (i+1) m z q)(a:¬((z i).b=b/\kf x (z i)=g)):zd x b g n i m z q:=by
 have c:¬cg x b g (z i)=true:=λe=>a (zo.1 e);refine⟨?_,λo l => ?_,h.q0,h.pos,h.key,h.le⟩
 .rw[<-h.rest];exact(if_neg c).symm
 rw[<-h.sum o l]
 congr 1
 exact(if_neg c).symm
theorem zd.hit{n m:Int}{q:Int->Int->Int}(h:zd x b g n (i+1) m z q)(hi:i<x.hs.n)(B:0<m)(u:(z i).b=b)(v:kf x (z i)=g){o:Nat}(A:(z i).o=o)(y:(z i).l=l):zd x b g n i (m-min m (z i).n) (io z i (min m (z i).n)) (uc q o l (q o l+min m (z i).n)):=by
 have c:cg x b g (z i)=true:=zo.2 ⟨u,v⟩;have p:=h.pos i hi;have e0:max 0 m=m:=ow;have r:max 0 (m-min m (z i).n)=m-min m (z i).n:=ow;have le:=h.le;refine⟨?_,λa k => ?_,λa k => ?_,λj d => ?_,λj d => ?_,ow⟩
 .rw[<-h.rest,e0,r];exact(if_pos c).symm
 .have s:=h.sum a k;have t:mx (cg x b g) m (cz z (i+1)) a k=(if (z i).o=a/\(z i).l=k then min m (z i).n else 0)+mx (cg x b g) (m-min m (z i).n) (cz z i) a k:=if_pos c;rw[e0,t,A,y] at s;rw[r,rd (z:=io z i (min m (z i).n)) (z':=z) λj d=>if_neg ow];unfold uc;by_cases e:a=o/\k=l
  .rw[if_pos ⟨e.1.symm,e.2.symm⟩] at s;rw[if_pos e];rw[e.1,e.2] at s ⊢;omega
  rw[if_neg (λf=>e ⟨f.1.symm,f.2.symm⟩)] at s;rw[if_neg e];omega
 .have:=h.q0 a k;have:=h.q0 o l;unfold uc
  split<;>omega
 .unfold io;have w:=h.pos j d;by_cases e:j=i
  .exact aoi
  rw[if_neg e];exact w
 unfold io;have w:=h.key j d;by_cases e:j=i
 .rw[if_pos e];exact w
 rw[if_neg e];exact w
theorem zd.done{n m:Int}{q:Int->Int->Int}(h:zd x b g n i m z q)(hi:i<=x.hs.n)(hd:i=0\/m<=0):z=mt (cg x b g) x.hs.n (max 0 n) x.hs.z/\q=mx (cg x b g) (max 0 n) (pg x):=by
 rcases hd with rfl|hd
 .refine⟨h.rest,?_⟩
  funext o l
  rw[<-h.sum o l];exact(Int.add_zero _).symm
 have e:max 0 m=0:=ow;have r:=h.rest;rw[e,Mz _ _ _ λj a=>(h.pos j ow).1] at r;refine⟨r,?_⟩
 funext o l
 rw[<-h.sum o l,e,Eb _ _ _ (h.revP hi),Int.add_zero]
theorem Cc{f:Nat}{q:Int->Int->Int}{k o G B:Nat}(h:iq A f r w' (withHolds (qt x q) ⟨x.hs.a,x.hs.n,x.hs.c,z⟩) b g Z d)(p:k<x.hs.n)(V:(z k).o=(o:Int))(U:(z k).l=(l:Int))(on:o<x.os.n)(ln:l<(x.os.z o).ls.n)(E:x.hs.a=some ⟨G,0,none⟩)(H:x.os.a=some ⟨m,0,none⟩)(D:(x.os.z o).ls.a=some ⟨B,0,none⟩):
  f<d.heap.size/\d.cell? ⟨f,1,none⟩=some (.slice (some ⟨m,0,none⟩) x.os.n x.os.c)/\d.cell? ⟨f,2,none⟩=some (.slice (some ⟨G,0,none⟩) x.hs.n x.hs.c)/\d.cell? ⟨f,7,none⟩=some (.int .i64 (b:Int))/\d.cell? ⟨f,8,none⟩=some (.int .i64 (g:Int))/\d.cell? ⟨f,9,none⟩=some (.map (some r)) /\
  G<d.heap.size/\d.cell? ⟨G,k*4,none⟩=some (.int .i64 (o:Int))/\d.cell? ⟨G,k*4+1,none⟩=some (.int .i64 (l:Int))/\d.cell? ⟨G,k*4+2,none⟩=some (.int .i64 (z k).b)/\d.cell? ⟨G,k*4+3,none⟩=some (.int .i64 (z k).n) /\
  m<d.heap.size/\d.cell? ⟨m,o*2+1,none⟩=some (.slice (some ⟨B,0,none⟩) (x.os.z o).ls.n (x.os.z o).ls.c)/\B<d.heap.size/\d.cell? ⟨B,l*4,none⟩=some (.int .i64 ((x.os.z o).ls.z l).o)/\d.cell? ⟨B,l*4+3,none⟩=some (.int .i64 (((x.os.z o).ls.z l).n+q o l))/\(∀j,d.frozen? ⟨G,j,none⟩=false)/\(∀j,d.frozen? ⟨B,j,none⟩=false)/\¬G=B:=by
 obtain⟨u,-,X,Y,-,-,-,-,u7,u8,u9⟩:=h.boxed;obtain⟨y,F,ac,i⟩:=h.own.hs.2.2.2 (show 0<x.hs.n by omega);obtain⟨s,B',c1,c2,c3,c4,c5,c6,L,c8,c9,c10,M,d1,d2,Q⟩:=h.own.lineCell (o:=o) (l:=l) on ln;have S:G=y:=by have e:x.hs.a=some ⟨y,0,none⟩:=F;rw[E] at e;simpa using e
 have T:m=s:=by have e:x.os.a=some ⟨s,0,none⟩:=c1;rw[H] at e;simpa using e
 have w:B=B':=by have e:(x.os.z o).ls.a=some ⟨B',0,none⟩:=c5;rw[D] at e;simpa using e
 subst S T w;have t:d.cell? ⟨f,1,none⟩=some (.slice x.os.a x.os.n x.os.c):=X;have v:d.cell? ⟨f,2,none⟩=some (.slice x.hs.a x.hs.n x.hs.c):=Y;rw[H] at t;rw[E] at v;have J:=h.own.os.lines o on;obtain⟨B',b1,b2,b3,b4,b5⟩:=J;have w:B=B':=by have e:(x.os.z o).ls.a=some ⟨B',0,none⟩:=b1;rw[D] at e;simpa using e
 subst w;exact⟨u,t,v,u7,u8,u9,i.lt,(i.cell (j:=k*4) (by show k*4<x.hs.n*4;omega)).trans (congrArg some ((tp (z:=z) (c:=0) p dc).trans (by rw[<-V];rfl))),(i.cell (j:=k*4+1) G7).trans (congrArg some ((tp (z:=z) (c:=1) p dc).trans (by rw[<-U];rfl))),(i.cell (j:=k*4+2) G7).trans (congrArg some (tp (z:=z) (c:=2) p dc)),(i.cell (j:=k*4+3) G7).trans (congrArg some (tp (z:=z) (c:=3) p dc)),c3,c4,L,M,Q,λj=>i.frozen j,c10,Blk.ne2 i b5 dc⟩
def axa(BC r G k o l:Nat)(qv d:Int)(j:Nat):Value:=(#[.pointer (some ⟨BC,0,none⟩),.pointer (some ⟨BC,0,none⟩),.pointer (some ⟨BC,9,none⟩),.map (some r),.pointer (some ⟨G,k*4,none⟩),.pointer (some ⟨G,k*4,none⟩),.pointer (some ⟨G,k*4,none⟩),.int .i64 (o:Int),.pointer (some ⟨G,k*4,none⟩),.pointer (some ⟨G,k*4,none⟩),.pointer (some ⟨G,k*4+1,none⟩),.int .i64 (l:Int),po o l,.int .i64 qv,.int .i64 d,.int .i64 (qv+d)]:Array Value).getD j default
structure vy(A BC r:Nat)(W0:World)(X:St)(b g:Nat)(q:Int->Int->Int)(o l G k:Nat)(d:Int)(dn:Nat->Bool)(V:Nat->Value)(w:World):Prop where
 val:∀j,j<16->dn j=true->V j=axa BC r G k o l (q o l) d j
 cut:dn 18=false->iq A BC r W0 X b g q w
 fin:dn 18=true->iq A BC r W0 X b g (uc q o l (q o l+d)) w
 ent:dn 16=true->dn 18=false->∃(v0:Value) (st:Nat),V 16 = .tuple #[v0,goInt st]/\(dn 17=true->V 17=goInt st)/\∀v:Int,∃w2,(Instr.entryStore 183 (.map (some r)) (goInt st) (.int .i64 v)).run prog w = .ok () w2/\lx w2 r (uc q o l v)/\ta r w w2
 c18:dn 18=true->dn 15=true/\dn 17=true
 c15:dn 15=true->dn 13=true
 c17:dn 17=true->dn 16=true
section
variable {A BC r:Nat} {W0:World} {X:St} {b g:Nat} {q:Int->Int->Int} {o l G k:Nat} {d:Int} {dn:Nat->Bool} {V:Nat->Value} {w:World}
theorem vy.any(h:vy A BC r W0 X b g q o l G k d dn V w):∃q',iq A BC r W0 X b g q' w:=by
 cases e:dn 18
 .exact⟨_,h.cut e⟩
 exact⟨_,h.fin e⟩
theorem vy.not13(h:vy A BC r W0 X b g q o l G k d dn V w)(e:dn 13=false):dn 18=false:=by
 cases a:dn 18
 .rfl
 rw[h.c15 (h.c18 a).1] at e;cases e
theorem vy.not17(h:vy A BC r W0 X b g q o l G k d dn V w)(e:dn 17=false):dn 18=false:=by
 cases a:dn 18
 .rfl
 rw[(h.c18 a).2] at e;cases e
theorem vy.not16(h:vy A BC r W0 X b g q o l G k d dn V w)(e:dn 16=false):dn 18=false/\dn 17=false:=by
 have a:dn 17=false:=by
  cases c:dn 17
  .rfl
  rw[h.c17 c] at e;cases e
 exact⟨h.not17 a,a⟩
theorem up(h:dn j=true):pu dn i j=true:=by
 by_cases e:j=i
 .rw[e];exact qp dn i
 rw[az e];exact h
theorem vy.put(h:vy A BC r W0 X b g q o l G k d dn V w)(hi:i<16)(z:v=axa BC r G k o l (q o l) d i)(m:i=15->dn 13=true):vy A BC r W0 X b g q o l G k d (pu dn i) (upd V i v) w:=by
 have c:pu dn i 18=dn 18:=az ow;have f:pu dn i 17=dn 17:=az ow;have p:pu dn i 16=dn 16:=az ow;refine⟨λj y hd => ?_,λhd=>h.cut (c▸hd),λhd=>h.fin (c▸hd),λa n => ?_,λa => ?_,λa => ?_,λa => ?_⟩
 .by_cases e:j=i
  .rw[e,o9];exact z
  rw[fo V v e];rw[az e] at hd;exact h.val j y hd
 .rw[p] at a;rw[c] at n;obtain⟨B,st,s,t,u⟩:=h.ent a n;exact⟨B,st,by rw[fo V v ow];exact s,λx=>by rw[fo V v ow];exact t (f▸x),u⟩
 .rw[c] at a;exact⟨up (h.c18 a).1,up (h.c18 a).2⟩
 .by_cases e:15=i
  .exact up (m e.symm)
  rw[az e] at a;exact up (h.c15 a)
 rw[f] at a;exact up (h.c17 a)
theorem vy.entry(h:vy A BC r W0 X b g q o l G k d dn V w)(z:dn 16=false){x:Value}(m:lx w' r q)(a:ta r w w')(hs:∀v:Int,∃f,(Instr.entryStore 183 (.map (some r)) (goInt R) (.int .i64 v)).run prog w' = .ok () f/\lx f r (uc q o l v)/\ta r w f):vy A BC r W0 X b g q o l G k d (pu dn 16) (upd V 16 (.tuple #[x,goInt R])) w':=by
 obtain⟨e,n⟩:=h.not16 z;have i:pu dn 16 18=dn 18:=az ow;have u:pu dn 16 17=dn 17:=az ow;refine⟨λj hj hd => ?_,λhd=>(h.cut e).store m a,λhd => ?_,λh1 B => ?_,λh1 => ?_,λh1 => ?_,λh1 => ?_⟩
 .exact ab0
 .rw[i,e] at hd;cases hd
 .refine⟨x,R,o9 _ _ _,λp => ?_,λv => ?_⟩
  .rw[u,n] at p;cases p
  obtain⟨f,a1,y,c⟩:=hs v;exact⟨f,a1,y,⟨c.os.trans a.os.symm,c.tape.trans a.tape.symm,c.output.trans a.output.symm,c.size.trans a.size.symm,λt s=>(c.block t s).trans (a.block t s).symm⟩⟩
 .rw[i,e] at h1;cases h1
 .exact acb
 exact qp dn 16
theorem vy.extract(h:vy A BC r W0 X b g q o l G k d dn V w)(u:dn 17=false)(c:dn 16=true){m:Value}(n:V 16 = .tuple #[m,goInt R]):vy A BC r W0 X b g q o l G k d (pu dn 17) (upd V 17 (goInt R)) w:=by
 have a:=h.not17 u;have f:pu dn 17 18=dn 18:=az ow;refine⟨λj hj hd => ?_,λhd=>h.cut a,λhd => ?_,λh1 z => ?_,λh1 => ?_,λh1 => ?_,λh1=>up c⟩
 .exact ab0
 .rw[f,a] at hd;cases hd
 .obtain⟨x,i,a1,y,p⟩:=h.ent c a;have t:goInt i=goInt R:=by
   have e:=a1.symm.trans n;simp only[Value.tuple.injEq] at e;have s:(#[x,goInt i]:Array Value)[1]?=(#[m,goInt R]:Array Value)[1]?:=by rw[e]
   simpa using s
  refine⟨m,R,by rw[fo V _ ow];exact n,λ_=>o9 _ _ _,λv => ?_⟩;rw[<-t];exact p v
 .rw[f,a] at h1;cases h1
 exact acb
theorem vy.store(h:vy A BC r W0 X b g q o l G k d dn V w)(n:dn 18=false)(e:dn 15=true)(f:dn 17=true){c:World}(m:lx c r (uc q o l (q o l+d)))(p:ta r w c)(v:Value):vy A BC r W0 X b g q o l G k d (pu dn 18) (upd V 18 v) c:=by
 have a:pu dn 18 18=true:=qp dn 18;refine⟨λj hj hd => ?_,λhd => ?_,λ_=>(h.cut n).store m p,λh1 i => ?_,λ_=>⟨up e,up f⟩,λh1 => ?_,λh1 => ?_⟩
 .exact ab0
 .rw[a] at hd;cases hd
 .rw[a] at i;cases i
 .exact acb
 rw[az ow] at h1;exact up (h.c17 h1)
end
theorem Yh(p:Pl)(A J r:Nat)(W0:World)(x:St)(b g:Nat)(n:Int)(w:World)(h:iq A J r W0 x b g (λ_ _=>0) w)(f:cu p x)(H : -100000<=n/\n<=100000)(hq:∀o l,mx (cg x b g) (max 0 n) (pg x) o l<=100000):
  Calls prog 144 #[.pointer (some ⟨J,0,none⟩),.int .i64 n] w λe w'=>e = .returned (.tuple #[])/\iq A J r W0 (withHolds (qt x (mx (cg x b g) (max 0 n) (pg x))) (db (cg x b g) x.hs (max 0 n))) b g (mx (cg x b g) (max 0 n) (pg x)) w':=by
 have Q:Hid (iq A J r W0 (withHolds (qt x (λ_ _=>0)) ⟨x.hs.a,x.hs.n,x.hs.c,x.hs.z⟩) b g (λ_ _=>0) w):=by
  show iq A J r W0 (withHolds (qt x (λ_ _=>0)) x.hs) b g (λ_ _=>0) w;rw[ae0];exact h
 have Y:Hid (zd x b g n x.hs.n n x.hs.z (λ_ _=>0)):=⟨rfl,λo l=>Int.zero_add _,λ_ _=>Int.le_refl _,λj hj=>by have:=f.holdN j hj;omega,λ_ _=>⟨rfl,rfl,rfl⟩,ow,Or.inl rfl⟩;obtain⟨u,-,-,M,-,-,-,-,-,-,-⟩:=h.boxed;have mc:=h.own.hs.2.1;have ml:=h.own.hs.1;unfold maxLen at mc;have ex:=f.hs72;have HF:=hid f;have HQ:=hid hq;clear h f hq;go_enter func144,ntmps144;go_wp2_with fail;clear u M
 go_loopw [1,4] (λnv iv F=>∃(i:Nat) (m:Int) (z:Nat->Hd) (q:Int->Int->Int),i<=x.hs.n/\iv = .int .i64 ((i:Int)-1)/\nv = .int .i64 m/\Hid (iq A J r W0 (withHolds (qt x q) ⟨x.hs.a,x.hs.n,x.hs.c,z⟩) b g q F)/\Hid (zd x b g n i m z q)) (λ_ iv _=>(intOf iv+1).toNat)
 case atStart=>exact⟨x.hs.n,n,x.hs.z,λ_ _=>0,Nat.le_refl _,rfl,rfl,Q,Y⟩
 clear Q Y;obtain⟨i,m,z,q,hi,rfl,rfl,Q,Y⟩:=hrel;have ez:=Y.o.le;by_cases hd:i=0\/m<=0
 .have HD:Hid (z=mt (cg x b g) x.hs.n (max 0 n) x.hs.z/\q=mx (cg x b g) (max 0 n) (pg x)):=Y.o.done hi hd;obtain⟨u,-,-,M,-,-,-,-,-,-,-⟩:=Q.o.boxed;have dv:wr.cell? ⟨J,2,none⟩=some (.slice x.hs.a x.hs.n x.hs.c):=M;have bz:Hid (Calls prog 135 #[.slice x.hs.a x.hs.n x.hs.c,.func (.func 192) #[] #[]] wr λe w'=>e = .returned (.slice x.hs.a (db (cg x b g) x.hs (max 0 n)).n x.hs.c)/\ah A w' (withHolds (qt x q) (db (cg x b g) x.hs (max 0 n)))/\Below A wr w'/\(∀q t m g,t≠107->Blk wr q t m g->Blk w' q t m g)/\KeepsOthers wr w'):=by
   have hz:=HD.o.1;have hD:=ahm 192 #[] vd A (withHolds (qt x q) ⟨x.hs.a,x.hs.n,x.hs.c,z⟩) wr Q.o.le Q.o.own (enters_of func192 ko rfl) (λy wz _=>by rw[Array.append_empty];exact Wn y wz);rw[hz] at hD;exact hD
  clear M;by_cases ey:i=0
  .have q1:¬(0:Int)<=(i:Int)-1:=ow;exact at4
  have fa:m<=0:=ow;have q1:(0:Int)<=(i:Int)-1:=ow;have q2:¬0<m:=ow;exact at4
 obtain⟨k,rfl⟩:∃k,i=k+1:=⟨i-1,ow⟩;have hk:k<x.hs.n:=ow;have q1:(0:Int)<=(k:Int):=ow;have q2:0<m:=ow;have q3:(k:Int)<(x.hs.n:Int):=ow;have e1:(((k+1:Nat):Int)-1)=(k:Int):=ow;rw[e1];obtain⟨ce,cf,dk⟩:=Y.o.key k hk;obtain⟨a1,a2,a3⟩:=je (HF.o.home k hk);obtain⟨o,ho⟩:=Qzz a1.1;obtain⟨l,hl⟩:=Qzz a2.1;rw[ho] at a1 a2;rw[hl] at a2;have on:o<x.os.n:=a1.2;have ln:l<(x.os.z o).ls.n:=a2.2;have o4:o<4:=aaf;have l3:l<3:=by have:=(HF.o.lns o on).2;omega
 have W:=qa2 (ce.trans ho) (cf.trans hl);have b1:Hid (kf x (z k)=((x.os.z o).ls.z l).o):=by show kf x (z k)=_;unfold kf;rw[W.o.1,W.o.2];rfl
 obtain⟨G,hG,dd,-⟩:=Q.o.own.hs.2.2.2 (show 0<x.hs.n by omega);obtain⟨gO,B,hO,-,-,-,hB,-,-,nc,cc,-⟩:=Q.o.own.lineCell (o:=o) (l:=l) on ln;have L:=qa3 hG hO hB;have fc:(x.os.z o).ls.n<=(x.os.z o).ls.c:=nc;have cz:(x.os.z o).ls.c<=maxLen:=cc;have oc:x.os.c<=maxLen:=Q.o.own.os.cap;have fd:x.os.n<=x.os.c:=Q.o.own.os.le;unfold maxLen at cz oc;have zp:=Y.o.pos k hk;have bl0:=fi (HF.o.line o on l ln);have qo:=Y.o.q0 o l;have qle:=Int.le_trans (Y.o.qle hi o l) (HQ.o o l);have s0:(0:Int)<=(o:Int):=ow;have s1:(o:Int)<(x.os.n:Int):=ow;have s2:(0:Int)<=(l:Int):=ow;have s3:(l:Int)<((x.os.z o).ls.n:Int):=ow;clear ce cf dk a1 a2 a3 ho hl hG hO hB nc cc hd e1 dd;obtain⟨u,u1,M,u7,u8,u9,gl,z0,z1,z2,z3,ol,c4,bl,U,X,fG,fB,ne⟩:=Cc Q.o hk W.o.1 W.o.2 on ln L.o.1 L.o.2.1 L.o.2.2;have e1:(((k+1:Nat):Int)-1)=(k:Int):=ow;go_wp2_with fail;clear u u1 M u7 u8 u9 gl z0 z1 z2 z3 ol c4 bl U X fG fB ne;obtain⟨u,u1,M,u7,u8,u9,gl,z0,z1,z2,z3,ol,c4,bl,U,X,fG,fB,ne⟩:=Cc Q.o hk W.o.1 W.o.2 on ln L.o.1 L.o.2.1 L.o.2.2;clear fG fB ne z3 X u9;have a4:=Qqq u1;have a5:=Qqq M;have a6:=Qqq u7;have a7:=Qqq u8;have a8:=Qqq z0;have a9:=Qqq z1;have ba:=Qqq z2;have az:=Qqq c4;have a0:=Qqq U;refine Qxq ko ko ?_
 repeat(go_big_quiet_step(fail))
 refine Qqz ?_;intro _ ax;obtain⟨⟨dq,S⟩,am⟩:=ax;subst am;have aq:Hid (iq A J r W0 (withHolds (qt x q) ⟨x.hs.a,x.hs.n,x.hs.c,z⟩) b g q (grow (redrawn wr dq) S)):=Q.o.below (Qxx wr dq S);clear a4 a5 a6 a7 a8 a9 ba az a0 u u1 M u7 u8 gl z0 z1 z2 ol c4 bl U Q
 generalize grow (redrawn wr dq) S=wa at *
 generalize hZB:(z k).b=ZB at *
 generalize hZO:((x.os.z o).ls.z l).o=ZO at *
 have HZ:=qa2 hZB b1.o;have b3:=hid hZO;clear hZB hZO;cases h1:(ZB==(b:Int))
 .have HN:Hid (zd x b g n k m z q):=Y.o.miss (λe=>aj9);have c9:(ZB !=(b:Int))=true:=Sr;exact att
 have c9:(ZB !=(b:Int))=false:=Sr;cases h2:(ZO==(g:Int))
 .have HN:Hid (zd x b g n k m z q):=Y.o.miss (λe=>aka);have da:(ZO !=(g:Int))=true:=Ss;exact att
 have da:(ZO !=(g:Int))=false:=Ss;have HN:Hid (zd x b g n k (m-min m (z k).n) (io z k (min m (z k).n)) (uc q o l (q o l+min m (z k).n))):=Y.o.hit hk q2 ak9 ala W.o.1 W.o.2;go_wp2_with fail;obtain⟨u,u1,M,u7,u8,u9,gl,z0,z1,z2,z3,ol,c4,bl,U,X,fG,fB,ne⟩:=Cc aq.o hk W.o.1 W.o.2 on ln L.o.1 L.o.2.1 L.o.2.2;clear fG fB ne z3 X u9;rw[HZ.o.1] at z2;rw[b3.o] at U;have a4:=Qqq u1;have a5:=Qqq M;have a6:=Qqq u7;have a7:=Qqq u8;have a8:=Qqq z0;have a9:=Qqq z1;have ba:=Qqq z2;have az:=Qqq c4;have a0:=Qqq U;refine Qxq ko ko ?_
 repeat(go_big_quiet_step(fail))
 refine Qqz ?_;intro _ ax;obtain⟨⟨dq,S⟩,am⟩:=ax;subst am;have aw:Hid (iq A J r W0 (withHolds (qt x q) ⟨x.hs.a,x.hs.n,x.hs.c,z⟩) b g q (grow (redrawn wa dq) S)):=aq.o.below (Qxx wa dq S);clear a4 a5 a6 a7 a8 a9 ba az a0 u u1 M u7 u8 gl z0 z1 z2 ol c4 bl U aq
 generalize grow (redrawn wa dq) S=wz at *
 obtain⟨u,u1,M,u7,u8,u9,gl,z0,z1,z2,z3,ol,c4,bl,U,X,fG,fB,ne⟩:=Cc aw.o hk W.o.1 W.o.2 on ln L.o.1 L.o.2.1 L.o.2.2;have f1:=fG (k*4+3);have f2:=fB (l*4+3);have ne2:¬B=G:=λe=>ne e.symm;have bc:Hid (iq A J r W0 (withHolds (qt x (uc q o l (q o l+min m (z k).n))) ⟨x.hs.a,x.hs.n,x.hs.c,io z k (min m (z k).n)⟩) b g q ((wz.setCell ⟨G,k*4+3,none⟩ (.int .i64 ((z k).n-min m (z k).n))).setCell ⟨B,l*4+3,none⟩ (.int .i64 (((x.os.z o).ls.z l).n+q o l+min m (z k).n)))):=by
  have h1:=aw.o.holdN (i:=k) (G:=G) hk L.o.1 (min m (z k).n);have h2:=h1.back (o:=o) (B:=B) on L.o.2.2 l (((x.os.z o).ls.z l).n+q o l+min m (z k).n);have e:setLine (withHolds (withHolds (qt x q) ⟨x.hs.a,x.hs.n,x.hs.c,z⟩) (Ee ⟨x.hs.a,x.hs.n,x.hs.c,z⟩ k (min m (z k).n))) o l 3 (((x.os.z o).ls.z l).n+q o l+min m (z k).n)=withHolds (setLine (qt x q) o l 3 (((x.os.z o).ls.z l).n+q o l+min m (z k).n)) ⟨x.hs.a,x.hs.n,x.hs.c,io z k (min m (z k).n)⟩:=rfl;rw[aqx] at e;rw[<-e];exact h2
 have bk:Hid ((io z k (min m (z k).n) k).o=(o:Int)/\(io z k (min m (z k).n) k).l=(l:Int)):=by
  have e:io z k (min m (z k).n) k=jl (z k) (min m (z k).n):=if_pos rfl;show(io z k (min m (z k).n) k).o=(o:Int)/\(io z k (min m (z k).n) k).l=(l:Int);rw[e];exact W.o
 obtain⟨X3,bf⟩:∃X3,withHolds (qt x (uc q o l (q o l+min m (z k).n))) ⟨x.hs.a,x.hs.n,x.hs.c,io z k (min m (z k).n)⟩=X3:=⟨_,rfl⟩;have b2:=hid bf;have bm:Hid (∀F q',iq A J r W0 X3 b g q' F->J<F.heap.size/\F.cell? ⟨J,9,none⟩=some (.map (some r))/\G<F.heap.size/\F.cell? ⟨G,k*4,none⟩=some (.int .i64 (o:Int))/\F.cell? ⟨G,k*4+1,none⟩=some (.int .i64 (l:Int))):=λF q' hc=>by
  rw[<-bf] at hc;obtain⟨u,u1,M,u7,u8,u9,gl,z0,z1,-⟩:=Cc (z:=io z k (min m (z k).n)) hc hk bk.o.1 bk.o.2 on ln L.o.1 L.o.2.1 L.o.2.2;exact⟨u,u9,gl,z0,z1⟩
 rw[bf] at bc;clear aw fG fB Y b1 bf bk;have qB : -9223372036854775808<=q o l+min m (z k).n/\q o l+min m (z k).n<=9223372036854775807:=ow;obtain⟨T,dh⟩:∃T,min m (z k).n=T:=⟨_,rfl⟩;rw[dh] at bc b2 HN qB;have fb:0<=T/\T<=200/\T<=m/\T<=(z k).n:=ow
 generalize (z k).n=ZN at *
 generalize ((x.os.z o).ls.z l).n=LN at *
 go_wp2_with fail;obtain⟨w3,cd⟩:∃w3,((wz.setCell ⟨G,k*4+3,none⟩ (.int .i64 (ZN-T))).setCell ⟨B,l*4+3,none⟩ (.int .i64 (LN+q o l+T)))=w3:=⟨_,rfl⟩;rw[cd] at bc ⊢;clear cd u u1 M u7 u8 u9 gl z0 z1 z2 z3 ol c4 bl U X f1 f2 ne ne2;have cl:Hid (iq A J r W0 X3 b g q w3.drew):=bc.o.below (brf.drew);refine Ez [0,1,2,3,4,5,6,7,8,9,10,11,12,13,14,15,16,17,18] ko ko ko ko (vy A J r W0 X3 b g q o l G k T) ?zei (Qjx ⟨?ze0,Qjx ⟨?ze1,Qjx ⟨?ze2,Qjx ⟨?ze3,Qjx ⟨?ze4,Qjx ⟨?ze5,Qjx ⟨?ze6,Qjx ⟨?ze7,Qjx ⟨?ze8,Qjx ⟨?ze9,Qjx ⟨?ze10,Qjx ⟨?ze11,Qjx ⟨?ze12,Qjx ⟨?ze13,Qjx ⟨?ze14,Qjx ⟨?ze15,Qjx ⟨?ze16,Qjx ⟨?ze17,Qjx ⟨?ze18,Qjq _⟩⟩⟩⟩⟩⟩⟩⟩⟩⟩⟩⟩⟩⟩⟩⟩⟩⟩⟩) ?zed
 case zei =>
  intro D V hd;have f:∀j,j∈[0,1,2,3,4,5,6,7,8,9,10,11,12,13,14,15,16,17,18]->¬D j=true:=λj hj h=>by rw[hd j hj] at h;cases h
  exact⟨λj hj h=>absurd h (f j ass),λ_=>cl.o,λh=>absurd h (f 18 vq),λh=>absurd h (f 16 vq),λh=>absurd h (f 18 vq),λh=>absurd h (f 15 vq),λh=>absurd h (f 17 vq)⟩
 case ze0 =>
  intro D V F K H hd d E;have s:=hid d;clear d;refine ai _ rfl ?_;simp only[bw] at E ⊢;go_wp2_with fail;exact s.o.put (i:=0) dc rfl (λh=>absurd h dc)
 case ze1 =>
  intro D V F K H hd d E;have U:D 0=true:=hd 0 (Qjz ko) vq;have e0:V 0 = .pointer (some ⟨J,0,none⟩):=d.val 0 dc U;have s:=hid d;clear d;refine ai _ rfl ?_;simp only[bw,e0] at E ⊢;go_wp2_with fail;exact s.o.put (i:=1) dc rfl (λh=>absurd h dc)
 case ze2 =>
  intro D V F K H hd d E;have d1:D 1=true:=hd 1 (Qjz ko) vq;have e1:V 1 = .pointer (some ⟨J,0,none⟩):=d.val 1 dc d1;have s:=hid d;clear d;refine ai _ rfl ?_;simp only[bw,e1] at E ⊢;go_wp2_with fail;exact s.o.put (i:=2) dc rfl (λh=>absurd h dc)
 case ze3 =>
  intro D V F K H hd d E;have d2:D 2=true:=hd 2 (Qjz ko) vq;have e2:V 2 = .pointer (some ⟨J,9,none⟩):=d.val 2 dc d2;have s:=hid d;obtain⟨q',ag⟩:=d.any;obtain⟨y1,y2,y3,y4,y5⟩:=bm.o F q' ag;clear ag;clear d;refine ai _ rfl ?_;simp only[bw,e2] at E ⊢;go_wp2_with fail;exact s.o.put (i:=3) dc rfl (λh=>absurd h dc)
 case ze4 =>
  intro D V F K H hd d E;have s:=hid d;clear d;refine ai _ rfl ?_;simp only[bw] at E ⊢;go_wp2_with fail;exact s.o.put (i:=4) dc rfl (λh=>absurd h dc)
 case ze5 =>
  intro D V F K H hd d E;have d4:D 4=true:=hd 4 (Qjz ko) vq;have e4:V 4 = .pointer (some ⟨G,k*4,none⟩):=d.val 4 dc d4;have s:=hid d;clear d;refine ai _ rfl ?_;simp only[bw,e4] at E ⊢;go_wp2_with fail;exact s.o.put (i:=5) dc rfl (λh=>absurd h dc)
 case ze6 =>
  intro D V F K H hd d E;have d5:D 5=true:=hd 5 (Qjz ko) vq;have e5:V 5 = .pointer (some ⟨G,k*4,none⟩):=d.val 5 dc d5;have s:=hid d;clear d;refine ai _ rfl ?_;simp only[bw,e5] at E ⊢;go_wp2_with fail;exact s.o.put (i:=6) dc rfl (λh=>absurd h dc)
 case ze7 =>
  intro D V F K H hd d E;have d6:D 6=true:=hd 6 (Qjz ko) vq;have e6:V 6 = .pointer (some ⟨G,k*4,none⟩):=d.val 6 dc d6;have s:=hid d;obtain⟨q',ag⟩:=d.any;obtain⟨y1,y2,y3,y4,y5⟩:=bm.o F q' ag;clear ag;clear d;refine ai _ rfl ?_;simp only[bw,e6] at E ⊢;go_wp2_with fail;exact s.o.put (i:=7) dc rfl (λh=>absurd h dc)
 case ze8 =>
  intro D V F K H hd d E;have s:=hid d;clear d;refine ai _ rfl ?_;simp only[bw] at E ⊢;go_wp2_with fail;exact s.o.put (i:=8) dc rfl (λh=>absurd h dc)
 case ze9 =>
  intro D V F K H hd d E;have d8:D 8=true:=hd 8 (Qjz ko) vq;have e8:V 8 = .pointer (some ⟨G,k*4,none⟩):=d.val 8 dc d8;have s:=hid d;clear d;refine ai _ rfl ?_;simp only[bw,e8] at E ⊢;go_wp2_with fail;exact s.o.put (i:=9) dc rfl (λh=>absurd h dc)
 case ze10 =>
  intro D V F K H hd d E;have d9:D 9=true:=hd 9 (Qjz ko) vq;have e9:V 9 = .pointer (some ⟨G,k*4,none⟩):=d.val 9 dc d9;have s:=hid d;clear d;refine ai _ rfl ?_;simp only[bw,e9] at E ⊢;go_wp2_with fail;exact s.o.put (i:=10) dc rfl (λh=>absurd h dc)
 case ze11 =>
  intro D V F K H hd d E;have c0:D 10=true:=hd 10 (Qjz ko) vq;have e10:V 10 = .pointer (some ⟨G,k*4+1,none⟩):=d.val 10 dc c0;have s:=hid d;obtain⟨q',ag⟩:=d.any;obtain⟨y1,y2,y3,y4,y5⟩:=bm.o F q' ag;clear ag;clear d;refine ai _ rfl ?_;simp only[bw,e10] at E ⊢;go_wp2_with fail;exact s.o.put (i:=11) dc rfl (λh=>absurd h dc)
 case ze12 =>
  intro D V F K H hd d E;have d7:D 7=true:=hd 7 (Qjz ko) vq;have e7:V 7 = .int .i64 (o:Int):=d.val 7 dc d7;have c1:D 11=true:=hd 11 (Qjz ko) vq;have c3:V 11 = .int .i64 (l:Int):=d.val 11 dc c1;have s:=hid d;clear d;refine ai _ rfl ?_;simp only[bw,e7,c3] at E ⊢;go_wp2_with fail;exact s.o.put (i:=12) dc rfl (λh=>absurd h dc)
 case ze13 =>
  intro D V F K H hd d E;have X:D 3=true:=hd 3 (Qjz ko) vq;have e3:V 3 = .map (some r):=d.val 3 dc X;have bo:D 12=true:=hd 12 (Qjz ko) vq;have e12:V 12 = .agg #[.int .i64 (o:Int),.int .i64 (l:Int)]:=d.val 12 dc bo;have s:=hid d;have lk:=Zd (d.cut (d.not13 H)).map o4 l3;unfold po at lk;clear d;refine ai _ rfl ?_;simp only[bw,e3,e12] at E ⊢;go_wp2_with fail;exact s.o.put (i:=13) dc rfl (λh=>absurd h dc)
 case ze14 =>
  intro D V F K H hd d E;have s:=hid d;clear d;refine ai _ rfl ?_;simp only[bw] at E ⊢;go_wp2_with fail;exact s.o.put (i:=14) dc rfl (λh=>absurd h dc)
 case ze15 =>
  intro D V F K H hd d E;have b4:D 13=true:=hd 13 (Qjz ko) vq;have c5:V 13 = .int .i64 (q o l):=d.val 13 dc b4;have c2:D 14=true:=hd 14 (Qjz ko) vq;have c6:V 14 = .int .i64 T:=d.val 14 dc c2;have s:=hid d;clear d;have ew:=qB;refine ai _ rfl ?_;simp only[bw,c5,c6] at E ⊢;go_wp2_with fail;exact s.o.put (i:=15) dc rfl (λ_=>b4)
 case ze16 =>
  intro D V F K H hd d E;have X:D 3=true:=hd 3 (Qjz ko) vq;have e3:V 3 = .map (some r):=d.val 3 dc X;have bo:D 12=true:=hd 12 (Qjz ko) vq;have e12:V 12 = .agg #[.int .i64 (o:Int),.int .i64 (l:Int)]:=d.val 12 dc bo;have s:=hid d;obtain⟨v0,st,w1,dm,ch,ci,cj⟩:=ajc (d.cut (d.not16 H).1).map o4 l3;unfold po at dm;have bj:Hid (ta r F w1/\lx w1 r q/\∀v:Int,∃w2,(Instr.entryStore 183 (.map (some r)) (goInt st) (.int .i64 v)).run prog w1 = .ok () w2/\lx w2 r (uc q o l v)/\ta r F w2):=⟨ch,ci,cj⟩;clear ch ci cj;clear d;refine ai _ rfl ?_;simp only[bw,e3,e12] at E ⊢;go_wp2_with fail;exact s.o.entry H bj.o.2.1 bj.o.1 bj.o.2.2
 case ze17 =>
  intro D V F K H hd d E;have b6:D 16=true:=hd 16 (Qjz ko) vq;have s:=hid d;obtain⟨v0,st,bd,-,-⟩:=d.ent b6 (d.not17 H);have ck:=hid bd;clear d;refine ai _ rfl ?_;simp only[bw,bd] at E ⊢;go_wp2_with fail;exact s.o.extract H b6 ck.o
 case ze18 =>
  intro D V F K H hd d E;have X:D 3=true:=hd 3 (Qjz ko) vq;have e3:V 3 = .map (some r):=d.val 3 dc X;have b5:D 15=true:=hd 15 (Qjz ko) vq;have e15:V 15 = .int .i64 (q o l+T):=d.val 15 dc b5;have bp:D 17=true:=hd 17 (Qjz ko) vq;have s:=hid d;obtain⟨v0,st,bd,be,es⟩:=d.ent (d.c17 bp) H;have be:=be bp;obtain⟨w2,c8,b7,b8⟩:=es (q o l+T);have b0:=qa2 b7 b8;clear es b7 b8 bd;unfold goInt at c8 be;clear d;refine ai _ rfl ?_;simp only[bw,e3,e15,be] at E ⊢;go_wp2_with fail;exact E undef _ (s.o.store H b5 bp b0.o.1 b0.o.2 undef)
 case zed =>
  intro D V F hd d;have cx:Hid (iq A J r W0 X3 b g (uc q o l (q o l+T)) F):=d.fin (hd 18 vq);clear d hd;simp only[bw];refine NoPanic.normal ?_;go_wp2_with fail;go_roundw
  case rel=>exact⟨k,m-T,io z k T,uc q o l (q o l+T),ow,vo,vo,by rw[b2.o];exact cx,HN⟩
  case measure=>simp[intOf]
theorem tg{a:Nat}{b:World}{q:Int->Int->Int}(h:ah A w y/\Blk w a 185 10 f/\lx w r q/\Below n b w)(c:n<=a)(j:Nat)(u:Value):ah A (w.setCell ⟨a,j,none⟩ u) y/\Blk (w.setCell ⟨a,j,none⟩ u) a 185 10 (λk=>if k=j then u else f k)/\lx (w.setCell ⟨a,j,none⟩ u) r q/\Below n b (w.setCell ⟨a,j,none⟩ u):=
 ⟨h.1.boxC h.2.1 j u,h.2.1.set j u,h.2.2.1.set (h.2.1.noMap h.2.2.1) u,h.2.2.2.setCell (p:=⟨a,j,none⟩) c u⟩
theorem iq.newState{e:Nat}{f i:World}{b g:Int}{q:Int->Int->Int}(h:iq A e r f x b g q i)(l:ah A i y):iq A e r f y b g q (set7 i e (.slice y.on.a y.on.n y.on.c) (.slice y.os.a y.os.n y.os.c) (.slice y.hs.a y.hs.n y.hs.c) (.slice y.ms.a y.ms.n y.ms.c) (.slice y.si.a y.si.n y.si.c) (.slice y.so.a y.so.n y.so.c) (.slice y.sf.a y.sf.n y.sf.c)):=by
 have b1:=h.w0;have b2:=h.bc;have d:f.heap.size<=e:=ow;have k:=tg (tg (tg (tg (tg (tg (tg ⟨l,h.box,h.map,h.bel⟩ d 0 (.slice y.on.a y.on.n y.on.c)) d 1 (.slice y.os.a y.os.n y.os.c)) d 2 (.slice y.hs.a y.hs.n y.hs.c)) d 3 (.slice y.ms.a y.ms.n y.ms.c)) d 4 (.slice y.si.a y.si.n y.si.c)) d 5 (.slice y.so.a y.so.n y.so.c)) d 6 (.slice y.sf.a y.sf.n y.sf.c);unfold set7;refine⟨k.1,k.2.1.congr λj hj => ?_,k.2.2.1,k.2.2.2,A9,h.w0,h.bc,h.ra⟩;exact abk
theorem ah.cut7{e:Nat}{i f:World}{b g:Int}{q:Int->Int->Int}(h:iq A e r i x b g q f)(j:ah A f s):ah A (Go.Proofs.YtjgckphgagdpaaaGreatDoor.set7 f e (.slice y.on.a y.on.n y.on.c) (.slice y.os.a y.os.n y.os.c) (.slice y.hs.a y.hs.n y.hs.c) (.slice y.ms.a y.ms.n y.ms.c) (.slice y.si.a y.si.n y.si.c) (.slice y.so.a y.so.n y.so.c) (.slice y.sf.a y.sf.n y.sf.c)) s:=by
 have b1:=h.w0;have b2:=h.bc;have d:i.heap.size<=e:=ow;have k:=tg (tg (tg (tg (tg (tg (tg ⟨j,h.box,h.map,h.bel⟩ d 0 (.slice y.on.a y.on.n y.on.c)) d 1 (.slice y.os.a y.os.n y.os.c)) d 2 (.slice y.hs.a y.hs.n y.hs.c)) d 3 (.slice y.ms.a y.ms.n y.ms.c)) d 4 (.slice y.si.a y.si.n y.si.c)) d 5 (.slice y.so.a y.so.n y.so.c)) d 6 (.slice y.sf.a y.sf.n y.sf.c);unfold Go.Proofs.YtjgckphgagdpaaaGreatDoor.set7;exact k.1
theorem Blk.cut7{B:Nat}{T:TypeId}(h:Blk w B T n f)(ne:B≠b)(c d e g i j k:Value):Blk (set7 w b c d e g i j k) B T n f:=by
 unfold set7;exact((((((h.other (a:=⟨b,0,none⟩) ne c).other (a:=⟨b,1,none⟩) ne d).other (a:=⟨b,2,none⟩) ne e).other (a:=⟨b,3,none⟩) ne g).other (a:=⟨b,4,none⟩) ne i).other (a:=⟨b,5,none⟩) ne j).other (a:=⟨b,6,none⟩) ne k
structure Im(p:Pl)(x0:St)(A BC r:Nat)(W0:World)(b g:Int)(q:Int->Int->Int)(BP:Nat)(cur:St)(wk:World):Prop where
 own0:ah A wk x0
 cut:iq A BC r W0 cur b g q wk
 plan:Blk wk BP 25 2 (λj=>(#[.slice p.ab p.nb p.cb,.slice p.sa p.ns p.cs]:Array Value).getD j default)
theorem Im.below{j cur:St}{d:Nat}{e i f:World}{b g:Int}{q:Int->Int->Int}(h:Im p j A c r e b g q d cur i)(a:Bw i f):Im p j A c r e b g q d cur f:=⟨ah.below h.own0 a,h.cut.below a,h.plan.below a⟩
theorem O3(p:Pl)(A s r:Nat)(v:World)(f:St)(b g:Nat)(q:Int->Int->Int)(w:World)(h:iq A s r v f b g q w)(hp:∀B,Bw v B->p.At B)(Q:QIn p b (λi j=>q i j) f):
  Calls prog 146 #[.pointer (some ⟨s,0,none⟩),p.val] w λe w'=>e = .returned (.tuple #[])/\∃y,jc p b (λi j=>q i j) (Cs f) f f.os.n y/\iq A s r v y b g q w':=by
 have HP:Hid (∀B,Bw v B->p.At B):=hp;have HQ:Hid (QIn p b (λi j=>q i j) f):=Q;have ol:f.os.n<=f.os.c:=h.own.os.le;have oc:f.os.c<=maxLen:=h.own.os.cap;unfold maxLen at oc;have b1:f.os.n<=4:=Q.r.fm.os4;obtain⟨W1,V,H,K1⟩:∃W,w.alloc (.cells #[.slice p.ab p.nb p.cb,.slice p.sa p.ns p.cs] 25)=W/\Bw w W/\Blk W w.heap.size 25 2 (λj=>(#[.slice p.ab p.nb p.cb,.slice p.sa p.ns p.cs]:Array Value).getD j default):=⟨_,rfl,brf.alloc nlr _,Blk.mk' rfl rfl⟩;have M:=hid V;have h':=h.below H;have HI:Hid (Im p f A s r v b g q w.heap.size f W1):=⟨h'.own,h',K1⟩;obtain⟨u,-,u1,-⟩:=h'.boxed;rw[<-M.o] at u u1;clear V H K1 h h' hp Q;unfold Pl.val;go_enter func146,ntmps146;go_wp2_with fail;rw[M.o];clear u u1 M
 generalize w.heap.size=D at *
 go_loopw [14] (λkv B=>∃(i:Nat) (cur:St),i<=f.os.n/\kv = .int .i64 i/\Hid (Im p f A s r v b g q D cur B)/\Hid (Mk p f b q i cur)) (λkv _=>f.os.n-(intOf kv).toNat)
 case atStart=>exact⟨0,f,Qxz _,rfl,HI,af.self f⟩
 clear HI;obtain⟨i,cur,hi,rfl,HI,HA⟩:=hrel;by_cases J:i<f.os.n;rotate_left
 .have az:i=f.os.n:=ow;subst az;go_wp2_with fail
  go_end0
  exact⟨rfl,cur,HA.o,HI.o.cut⟩
 have q0:(0:Int)<=(i:Int):=ow;have q1:(i:Int)<(f.os.n:Int):=ow;obtain⟨bo,oo,am,ay,z0,z1,Y⟩:=HI.o.own0.at.os.ods i J;have ll:=Y.le;have lc:=Y.cap;unfold maxLen at lc;have b0:(f.os.z i).ls.n<=3:=(HQ.o.r.fm.lns i J).2;rw[am];clear am Y;obtain⟨W,V,H⟩:∃W,wr.alloc (.cells #[.int .i64 (f.os.z i).k,.slice (f.os.z i).ls.a (f.os.z i).ls.n (f.os.z i).ls.c] 124)=W/\Bw wr W:=⟨_,rfl,brf.alloc nlr _⟩;have M:=hid V;have ai:Hid (Im p f A s r v b g q D cur W):=HI.o.below H;clear V H;go_wp2_with fail;rw[M.o];clear z0 z1 ay M q0 q1
 go_loopw [22] (λjv B=>∃(j:Nat) (cr:St),j<=(f.os.z i).ls.n/\jv = .int .i64 j/\Hid (Im p f A s r v b g q D cr B)/\Hid (xe p f b q i j cr)) (λjv _=>(f.os.z i).ls.n-(intOf jv).toNat)
 case atStart=>exact⟨0,cur,Qxz _,rfl,ai,HA.o.row⟩
 clear ai HI HA;obtain⟨j,cr,hj,rfl,HI,L⟩:=hrel;by_cases X:j<(f.os.z i).ls.n;rotate_left
 .have a0:j=(f.os.z i).ls.n:=ow;subst a0;have HN:Hid (Mk p f b q (i+1) cr):=L.o.next;exact ana
 have q2:(0:Int)<=(j:Int):=ow;have q3:(j:Int)<((f.os.z i).ls.n:Int):=ow;have lk:=Zd (o:=i) (l:=j) HI.o.cut.map ow ow;unfold po at lk;obtain⟨u,-,-,-,-,-,-,-,-,-,u9⟩:=HI.o.cut.boxed;have S:Hid (Pos p b (λi j=>q i j) f i j cr):=L.o.pos HQ.o J (Nat.le_of_lt X);have HSI:Hid (lf p b cr i j (q i j)):=S.o.stepIn HQ.o J X;have an:=HSI.o.n0;by_cases hq:0<q i j;rotate_left
 .have HN:Hid (xe p f b q i (j+1) cr):=L.o.skip HQ.o J X ow;clear HSI L S;obtain⟨F,G⟩:∃F,q i j=F:=⟨_,rfl⟩;rw[G] at lk hq an;clear G;go_wp2_with fail;go_roundw
  case rel=>exact⟨j+1,cr,ow,vo,HI,HN⟩
  case measure=>simp[intOf];omega
 have HK2:Hid ((cr.os.z i).k=1):=by
  rcases HSI.o.kd with e|e
  .omega
  exact e.1
 have K:Hid (ii p cr i j (q i j) b=0):=asm;have U:Hid (∀x,ng p b cr i j (q i j) x->xe p f b q i (j+1) x):=λx T=>L.o.step T;clear HSI HK2 L S;obtain⟨F,G⟩:∃F,q i j=F:=⟨_,rfl⟩;rw[G] at lk K U hq an;clear G;go_wp2_with fail;clear lk u u9;obtain⟨pm,p0,p1,p2,p3,p4,p5,p6,p7,-,-⟩:=HI.o.cut.boxed;have d0:wr.cell? ⟨D,0,none⟩=some (.slice p.ab p.nb p.cb):=HI.o.plan.k 0;have d1:wr.cell? ⟨D,1,none⟩=some (.slice p.sa p.ns p.cs):=HI.o.plan.k 1;have l1:=HI.o.plan.lt;have bd:=Qqq p0;have be:=Qqq p1;have bf:=Qqq p2;have bg:=Qqq p3;have bh:=Qqq p4;have bi:=Qqq p5;have bj:=Qqq p6;have bk:=Qqq p7;have bb:=Qqq d0;have bc:=Qqq d1;refine jq [(false,[0,2,3,4,6,7,8,9,10,11],none),(true,[1,5,12],some 13),(false,[14,15,16,17,18,19],some 20)] ?_;refine⟨λ_=>True,trivial,λ_ _=>trivial,?_⟩;simp only[jg]
 repeat(go_big_quiet_step(fail))
 refine Qqz ?_;refine⟨λw'=>∃p:Regrown,w'=grow (redrawn wr p.d) p.os,Qqx (brf.drew),λh=>ix,?_⟩;simp only[jg]
 repeat(go_big_quiet_step(fail))
 refine Qqz ?_;clear bd be bf bg bh bi bj bk bb bc p0 p1 p2 p3 p4 p5 p6 p7 d0 d1 l1 pm;have al:Bw wr wr.drew:=brf.drew
 generalize wr.drew=wj at *
 have E:Hid (Im p f A s r v b g q D cr wj):=HI.o.below al;have aj:Hid (p.At wj):=HP.o wj E.o.cut.bel;clear al HI;refine ma 13 rfl ?_;go_wp2_with fail;refine(Pz p cr i j F b wj aj.o E.o.cut.own.at).mono ?_;rintro e w8 ⟨x,rfl,bm,ao,aa,ak⟩;have HT:Hid (xe p f b q i (j+1) x):=U.o x (ao.1 K.o);have au:Hid (ah A w8 x):=(aa K.o).mono E.o.cut.le;have t:Hid (Im p f A s r v b g q D cr w8):=E.o.below ak;clear bm ao aa ak U E aj K
 generalize D8 p cr i j F b=LL at *
 generalize ii p cr i j F b=EE at *
 simp only[St.val];go_wp2_with fail;refine⟨λ_=>True,trivial,λ_ _=>trivial,?_⟩;simp only[jg]
 repeat(go_big_quiet_step(fail))
 refine Qqz ?_;have m:=t.o.cut.box;have zl:=m.lt;have b4:=m.frozen 0;have b2:=m.k 0;have b5:=m.frozen 1;have zc1:=m.k 1;have b6:=m.frozen 2;have zc2:=m.k 2;have b7:=m.frozen 3;have zc3:=m.k 3;have b8:=m.frozen 4;have zc4:=m.k 4;have b9:=m.frozen 5;have zc5:=m.k 5;have ca:=m.frozen 6;have b3:=m.k 6;clear m;refine ma 20 rfl ?_;go_wp2_with fail;have HN:Hid (Im p f A s r v b g q D x (set7 w8 s (.slice x.on.a x.on.n x.on.c) (.slice x.os.a x.os.n x.os.c) (.slice x.hs.a x.hs.n x.hs.c) (.slice x.ms.a x.ms.n x.ms.c) (.slice x.si.a x.si.n x.si.c) (.slice x.so.a x.so.n x.so.c) (.slice x.sf.a x.sf.n x.sf.c))):=⟨ah.cut7 t.o.cut t.o.own0,t.o.cut.newState au.o,t.o.plan.cut7 (Blk.ne2 t.o.plan t.o.cut.box dc) _ _ _ _ _ _ _⟩;unfold set7 at HN;refine NoPanic.normal ?_;go_wp2_with fail;go_roundw
 case rel=>exact⟨j+1,x,ow,vo,HN,HT⟩
 case measure=>simp[intOf];omega
theorem dr.cutted{a:St}{seen v:Int}(h:dr p s b g seen)(e:af a (kw s b g seen))(f:max 0 v=wv (cx b g) (fg s b g seen) (sq a)):
  let x3:=withMoves a (db (cx b g) a.ms (fg s b g seen))
  let Q:=mx (cg x3 b g) (max 0 v) (pg x3)
  af (withHolds (qt x3 Q) (db (cg x3 b g) x3.hs (max 0 v))) (qz s b g seen)/\(∀o l,Q o l=fa s b g (fg s b g seen) o l)/\cu p x3:=by
 have c:=Va h.formed0 e b g (fg s b g seen);refine⟨?_,λo l => ?_,?_⟩
 .have d:withHolds (qt (withMoves a (db (cx b g) a.ms (fg s b g seen))) (mx (cg a b g) (max 0 v) (pg a))) (db (cg a b g) a.hs (max 0 v))=jn a b g (fg s b g seen):=by
   rw[f]
   rfl
  exact d▸c.1
 .have d:mx (cg a b g) (max 0 v) (pg a) o l=fa a b g (fg s b g seen) o l:=by
   rw[f]
   rfl
  exact d.trans (c.2 o l)
 refine af.formed ?_ h.formed1;have k:cz (db (cx b g) a.ms (fg s b g seen)).z (db (cx b g) a.ms (fg s b g seen)).n=cz (db (cx b g) s.ms (fg s b g seen)).z (db (cx b g) s.ms (fg s b g seen)).n:=by
  rw[mn,mn,Nl (h:=a.ms) (k:=s.ms) e.ms.1 e.ms.2]
 exact⟨e.on,e.os,e.hs,Bv k,e.si,e.so,e.sf⟩
theorem ahj(p:Pl)(s:St)(bin good seen:Int)(w:World)(hp:p.At w)(hs:s.At w):
  Calls prog 97 #[p.val,s.val,.int .i64 bin,.int .i64 good,.int .i64 seen] w λe w'=>∃x:St,e = .returned (.tuple #[x.val,.int .i64 (fs p s bin good seen)])/\x.At w'/\jb (fs p s bin good seen) (qd p s bin.toNat good.toNat seen) x/\(fs p s bin good seen=0->ah w.heap.size w' x)/\Bw w w':=by
 obtain⟨W0,hW,eg,X0,Z0⟩:=Dh w p s;have HC:=Cq hp hs eg X0 Z0;have HW:=hid hW;have leb:=hp.leb;have bv:=hp.capb;have les:=hp.les;have bw:=hp.caps;have capb:=bv;have caps:=bw;have fj:=Z0.lt;unfold maxLen at capb caps;have dq:Hid ((s.on.n<=s.on.c/\s.on.c<=maxLen)/\s.sf.n<=s.sf.c/\s.sf.c<=maxLen):=⟨⟨hs.on.le,hs.on.cap⟩,hs.sf.le,hs.sf.cap⟩;clear hW X0 Z0 hp hs;unfold Pl.val St.val;go_enter func97,ntmps97;go_wp2_with fail;rw[HW.o];obtain⟨X,D,u,E,K⟩:=HC.o W0 brf;refine(Mj p s bin good W0 D u).mono ?_;rintro e w1 ⟨rfl,hB⟩;clear X D u E K HW;obtain⟨⟨⟨l1,d0,d1⟩,l2,c0,c1,c2,c3,c4,c5,c6⟩,D,u,E,K⟩:=HC.o w1 hB;by_cases h0:mj p s bin good=0;rotate_left
 .have HX:Hid (fs p s bin good seen=mj p s bin good):=My h0;have a4:Hid (¬fs p s bin good seen=0):=by show ¬_;rw[My h0];exact h0
  have g0:(mj p s bin good !=0)=true:=qh;clear h0
  generalize xf p s bin good=L at *
  generalize mj p s bin good=AE at *
  clear D u;obtain⟨zl,cr,cp,cs,zc1,ct,zc2,cu,zc3,cv,zc4,cw,zc5,cz,cq⟩:=z7 K;go_wp2_with fail;exact mu results97 K E ow HX.o (λh=>a4.o (HX.o.trans h)) rfl rfl rfl
 obtain⟨bt,b,g,rfl,rfl,hb,hg⟩:=aqz h0;have H0:=hid bt;have HR:Hid (am p s):=et bt;have b1:Hid (xf p s b g=aq s b g):=by show xf p s b g=_;unfold xf;rw[if_pos h0];rfl
 rw[b1.o,h0];clear h0 bt;have son:=HR.o.fm.sh.n;have bn:b<s.on.n:=ow;have c8:Hid ((s.on.r b).n=p.ns):=HR.o.fm.sh.len b bn;cases h2:inB seen 0 200
 .have HX:Hid (fs p s b g seen=3):=Yf H0.o h2;have a4:Hid (¬fs p s b g seen=0):=pr;exact au1
 have sb:=ar h2;obtain⟨⟨fo,er⟩,fp,es⟩:=dq.o;unfold maxLen at er es;obtain⟨bb,ob,bq,eh,e0,U⟩:=u.on.rows b bn;have dn:g<(s.on.r b).n:=by rw[c8.o];exact hg
 obtain⟨bg,og,ck,ej,e1⟩:=U.ints g dn;have rl:=U.le;have rc:=U.cap;unfold maxLen at rc;have sfn:g<s.sf.n:=alf;obtain⟨bf,of,bo,ei,e2⟩:=u.sf.ints g sfn;have b6:=hid bq;have b4:=hid bo;rw[bq] at c0;rw[ck] at e0;rw[bo] at c6;have q0:(0:Int)<=(b:Int):=ow;have q1:(b:Int)<(s.on.n:Int):=ow;have q2:(0:Int)<=(g:Int):=ow;have q3:(g:Int)<((s.on.r b).n:Int):=ow;have q4:(g:Int)<(s.sf.n:Int):=ow;have eq:=HR.o.fm.sh.num b bn g hg;have sfb:=HR.o.fm.sfb g hg;have H2:=hid h2;clear bq ck bo U son;cases h3:inB (s.sf.z g+(seen-(s.on.r b).z g)) (-1048576) 1048576
 .have HX:Hid (fs p s b g seen=2):=Pc H0.o hb hg H2.o h3;have a4:Hid (¬fs p s b g seen=0):=pr
  generalize (s.on.r b).z g=m at *
  generalize s.sf.z g=H at *
  exact au1
 have B:Hid (dr p s b g seen):=Qz H0.o hb hg H2.o h3;have HX:Hid (fs p s b g seen=0):=U7 B.o;have b3:Hid (Calls prog 127 #[s.val] w1 λe w'=>∃V:St,e = .returned V.val/\af V s/\ah w1.heap.size w' V/\Bw w1 w'):=pv p s w1 u HR.o.fm;obtain⟨m,ao⟩:∃m,(s.on.r b).z g=m:=⟨_,rfl⟩;obtain⟨H,bk⟩:∃H,s.sf.z g=H:=⟨_,rfl⟩;obtain⟨L,ak⟩:∃L,aq s b g=L:=⟨_,rfl⟩;have HV:=qa3 ao bk ak;have fl:0<=L/\L<=m:=by
  have a:=(mv (HR.o.goods g hg)).2 b hb;have c:=B.o.bound;rw[ak] at a c;rw[ao] at c;omega
 rw[ao] at e1 eq h3;rw[bk] at e2 sfb h3;rw[ak];clear D u E K ao bk ak b1;go_wp2_with(go_at_call 43;refine ap (dm _ _ _ _) ?_);rw[<-b6.o,<-b4.o];refine Calls.mono b3.o ?_;rintro e d ⟨o,rfl,au,br,be⟩;clear b3 l1 d0 d1 l2 c0 c1 c2 c3 c4 c5 c6 eh e0 ej e1 ei e2 h2 h3 b6 b4;have A1:W0.heap.size<=w1.heap.size:=hB.size;have A2:w1.heap.size<=d.heap.size:=be.size;have c9:Hid (w.heap.size<=W0.heap.size):=(HC.o _ brf).2.2.2.1.size;obtain⟨W5,ci,ae,K5,M5⟩:∃W,(d.alloc (.map #[] 0)).alloc (.cells #[.slice o.on.a o.on.n o.on.c,.slice o.os.a o.os.n o.os.c,.slice o.hs.a o.hs.n o.hs.c,.slice o.ms.a o.ms.n o.ms.c,.slice o.si.a o.si.n o.si.c,.slice o.so.a o.so.n o.so.c,.slice o.sf.a o.sf.n o.sf.c,.int .i64 (b:Int),.int .i64 (g:Int),.map (some d.heap.size)] 185)=W/\Bw d W/\Blk W (d.heap.size+1) 185 10 (aw9 o b g d.heap.size)/\lx W d.heap.size (λ_ _=>0):=
  ⟨_,rfl,(brf.alloc nlr _).alloc vq _,(Blk.mk' vq rfl).congr (λj M=>by match j,M with|0,_=>rfl|1,_=>rfl|2,_=>rfl|3,_=>rfl|4,_=>rfl|5,_=>rfl|6,_=>rfl|7,_=>rfl|8,_=>rfl|9,_=>rfl),(lx.new d).below (brf.alloc nlr _)⟩
 have a6:=hid ci;have ad:=hB.trans (be.mono hB.size);have ac:=ad.trans (ae.mono ad.size);have f:=qa6 br ae K5 M5 ac au;obtain⟨⟨⟨l1,d0,d1⟩,l2,c0,-⟩,D,u,-,-⟩:=HC.o W5 ac;have bs:I4 p s.on b g (seen-m)=0:=by
  have hu:xy p s.on b g=0:=by rw[I8 HR.o.fm.sh0,cy ow,cy ow];rfl
  have e:=HV.o.1;have hi:inB (seen-m) (-((s.on.r b).z g)) (200-(s.on.r b).z g)=true:=cy ow;simp[I4,hu,hi]
 have b7:Hid (Calls prog 128 #[p.val,s.on.val,.int .i64 b,.int .i64 g,.int .i64 (seen-m)] W5 λe w'=>∃V:Sh,e = .returned (.tuple #[V.val,.int .i64 0])/\aqp W5.heap.size w' V/\V.n=s.on.n/\(∀i,i<s.on.n->(V.r i).n=(s.on.r i).n/\∀j,j<(s.on.r i).n->(V.r i).z j=I5 s.on b g (seen-m) i j)/\Bw W5 w'):=Qr p s.on b g (seen-m) W5 D u.on bs;rw[<-a6.o] at l1 d0 d1 l2 c0;clear ci ae K5 M5 ad ac br be hB au D u bs;have el:∀(t:TypeId) (w:World),(Instr.makeMap t none).run prog w = .ok (.map (some w.heap.size)) (w.alloc (.map #[] 0)):=λ_ _=>rfl;simp only[St.val];go_wp2_with fail;rw[a6.o];clear l1 d0 d1 l2 c0 a6 el;refine Calls.mono b7.o ?_;rintro e w6 ⟨q,rfl,hR,bj,ch,J⟩;clear b7;have Q:Hid (af (setFix ⟨q,o.os,o.hs,o.ms,o.si,o.so,o.sf⟩ g (H+(seen-m))) (kw s b g seen)):=by
  have e:=f.o.2.2.2.2.2;refine⟨⟨bj,λi hi => ?_⟩,e.os,e.hs,e.ms,e.si,e.so,⟨e.sf.1,λj M => ?_⟩⟩
  .have ek:i<s.on.n:=by rw[<-bj];exact hi
   have k:=ch i ek;refine⟨k.1.trans (vr s b g seen i).symm,λj M => ?_⟩;have bp:j<(q.r i).n:=M;rw[xq];show(q.r i).z j=_;rw[k.2 j (by rw[<-k.1];exact bp)];show(if i=b/\j=g then(s.on.r i).z j+(seen-m) else(s.on.r i).z j)=_;by_cases c:i=b/\j=g
   .have hv:=HV.o.1;rw[if_pos c,if_pos c,c.1,c.2,hv];omega
   rw[if_neg c,if_neg c]
  have bp:j<o.sf.n:=M;have hv:=HV.o;show(if j=g then H+(seen-m) else o.sf.z j)=if j=g then s.sf.z g+(seen-(s.on.r b).z g) else s.sf.z j;rw[hv.1,hv.2.1,e.sf.2 j bp]
 have b9:Hid (o.sf.z g=H):=(f.o.2.2.2.2.2.sf.2 g ats).trans HV.o.2.1;have ca:=f.o.2.1.size;have Y:=f.o.2.2.1.below J;have osn:g<o.sf.n:=ats;have O4:=ah.below f.o.1 (f.o.2.1.trans (J.mono f.o.2.1.size));obtain⟨G,ga,gA,gl,ea,gc,aj,ce⟩:=O4.sf.cellAt osn;have d9:G<d.heap.size:=by
  obtain⟨G',cd,-,fn,-⟩:=f.o.1.sf.cellAt osn;rw[ga] at cd;simp only[co] at cd;omega
 unfold maxLen at gc;rw[b9.o] at aj;have fk:=hid ga;have eb:¬G=d.heap.size+1:=ow;have ba:¬d.heap.size+1=G:=ow;have y0:=Y.lt;have y1:=Y.frozen 0;have y2:=Y.k 0;have y3:w6.cell? ⟨d.heap.size+1,6,none⟩=some (.slice (some ⟨G,0,none⟩) o.sf.n o.sf.c):=by have h:=Y.k 6;rw[<-ga];exact h
 have gf:=ce g;have q5:(g:Int)<(o.sf.n:Int):=ow;have HI:Hid (iq w1.heap.size (d.heap.size+1) d.heap.size W0 (setFix ⟨q,o.os,o.hs,o.ms,o.si,o.so,o.sf⟩ g (H+(seen-m))) b g (λ_ _=>0) ((w6.setCell ⟨d.heap.size+1,0,none⟩ (.slice q.a q.n q.c)).setCell ⟨G,g,none⟩ (.int .i64 (H+(seen-m))))):=by
  have m6:=f.o.2.2.2.1.below J;have bl:=f.o.2.2.2.2.1.trans (J.mono f.o.2.2.2.2.1.size);have o1:=ah.swap f.o.1 (f.o.2.1.trans (J.mono f.o.2.1.size)) hR ca ow;have o2:=ah.boxC o1 Y 0 (.slice q.a q.n q.c);have o3:=o2.setFix (G:=G) ga g (H+(seen-m));have k2:=Y.set 0 (.slice q.a q.n q.c);have sz:=J.size;obtain⟨Gq,ec,-,-,-,ed⟩:=o2.sf;have gq:G=Gq:=by have e:o.sf.a=some ⟨Gq,0,none⟩:=ec;rw[ga] at e;simpa using e
  subst gq;have m7:=m6.set (j:=0) (Y.noMap m6) (.slice q.a q.n q.c);refine⟨o3,(k2.other (a:=⟨G,g,none⟩) ba _).congr (λj M=>by match j,M with|0,_=>rfl|1,_=>rfl|2,_=>rfl|3,_=>rfl|4,_=>rfl|5,_=>rfl|6,_=>rfl|7,_=>rfl|8,_=>rfl|9,_=>rfl),m7.set (j:=g) (ed.noMap m7) _,(bl.setCell (p:=⟨d.heap.size+1,0,none⟩) (by show W0.heap.size<=d.heap.size+1;omega) _).setCell (p:=⟨G,g,none⟩) Jp _,oq,A1,ow,A2⟩
 have b5:Hid (max 0 (-(seen-m)-L)=fg s b g seen):=by
  have k:=B.o.bound;have v:=HV.o;rw[v.1,v.2.2] at k;show max 0 (-(seen-m)-L)=_;unfold fg;omega
 generalize hX2:setFix ⟨q,o.os,o.hs,o.ms,o.si,o.so,o.sf⟩ g (H+(seen-m))=x2 at Q HI
 clear hX2 ce Y O4 hR bj ch J ga gA f b9 ea;simp only[Sh.val];go_wp2_with fail;clear y0 y1 y2 y3 gf aj gl d9 eb ba ca;obtain⟨wB,cm⟩:∃wB,((w6.setCell ⟨d.heap.size+1,0,none⟩ (.slice q.a q.n q.c)).setCell ⟨G,g,none⟩ (.int .i64 (H+(seen-m))))=wB:=⟨_,rfl⟩;rw[cm] at HI ⊢;clear cm;have f0:=B.o.formed0;have b2:Hid (Calls prog 145 #[.pointer (some ⟨d.heap.size+1,0,none⟩),.int .i64 (-(seen-m)-L)] wB λe w'=>∃v:Int,e = .returned (.int .i64 v)/\max 0 v=wv (cx b g) (fg s b g seen) (sq x2)/\(-100000<=v/\v<=100000)/\iq w1.heap.size (d.heap.size+1) d.heap.size W0 (withMoves x2 (db (cx b g) x2.ms (fg s b g seen))) b g (λ_ _=>0) w'):=by
  have h:=Yi w1.heap.size (d.heap.size+1) d.heap.size W0 x2 b g (λ_ _=>0) (-(seen-m)-L) wB HI.o (λj M=>by
   rw[Q.o.ms.2 j M];have:=f0.moveN j (by rw[<-Q.o.ms.1];exact M);omega) (by rw[Q.o.ms.1];exact f0.ms8) ow
  rw[b5.o] at h;exact h
 clear f0 HI;refine Calls.mono b2.o ?_;rintro e w7 ⟨v,rfl,hv,cl,bh⟩;clear b2;have CT:=B.o.cutted Q.o hv;obtain⟨cb,cc,a9⟩:=CT;obtain⟨A,av⟩:∃A,withMoves x2 (db (cx b g) x2.ms (fg s b g seen))=A:=⟨_,rfl⟩;rw[av] at bh a9;have S:af (withHolds (qt A (mx (cg A b g) (max 0 v) (pg A))) (db (cg A b g) A.hs (max 0 v))) (qz s b g seen):=by rw[<-av];exact cb
 have T:∀o l,mx (cg A b g) (max 0 v) (pg A) o l=fa s b g (fg s b g seen) o l:=by rw[<-av];exact cc
 clear cb cc av hv;have ai:=Yh p w1.heap.size (d.heap.size+1) d.heap.size W0 A b g v w7 bh a9 cl (λo l=>by rw[T o l];exact B.o.qmax o l);obtain⟨QQ,cf⟩:∃QQ,mx (cg A b g) (max 0 v) (pg A)=QQ:=⟨_,rfl⟩;rw[cf] at ai S T;obtain⟨x4,cn⟩:∃x4,withHolds (qt A QQ) (db (cg A b g) A.hs (max 0 v))=x4:=⟨_,rfl⟩;rw[cn] at ai S;have a3:=hid ai;have F:=qa2 S T;clear ai S T a9 cf cn bh cl Q b5;go_wp2_with fail;refine Calls.mono a3.o ?_;rintro e w8 ⟨rfl,al⟩;clear a3;have dk:=hid al;obtain⟨⟨⟨l1,d0,d1⟩,-⟩,-⟩:=HC.o w8 al.bel;have b8:Hid (Calls prog 146 #[.pointer (some ⟨d.heap.size+1,0,none⟩),p.val] w8 λe w'=>e = .returned (.tuple #[])/\∃y,jc p b (λi j=>QQ i j) (Cs x4) x4 x4.os.n y/\iq w1.heap.size (d.heap.size+1) d.heap.size W0 y b g QQ w'):=
  O3 p w1.heap.size (d.heap.size+1) d.heap.size W0 x4 b g QQ w8 al (λwk hb=>(HC.o wk hb).2.1) (B.o.qin.same F.o.1 λi j _ _=>F.o.2 i j)
 clear al dk;go_wp2_with fail;clear l1 d0 d1;refine Calls.mono b8.o ?_;rintro e w9 ⟨rfl,y,hT,an⟩;clear b8;have HY:Hid (af y (qd p s b g seen)):=by
  refine jc.same B.o.qin (λ_ _=>rfl) (Nat.le_refl s.os.n) B.o.all ?_;have n4:x4.os.n=s.os.n:=F.o.1.os.1;rw[n4] at hT;refine jc.base (m':=Cs x4) F.o.1 (λ_ _=>rfl) (λi hi => ?_) (λi j _ _=>F.o.2 i j) (Nat.le_refl s.os.n) hT;exact(F.o.1.os.2 i (by rw[n4];exact hi)).2.1
 have dl:=hid an;obtain⟨pm,p0,p1,p2,p3,p4,p5,p6,-,-,-⟩:=an.boxed;obtain⟨-,-,-,E,K⟩:=HC.o w9 an.bel;have HZ:=qa2 E K;obtain⟨zl,cr,cp,cs,zc1,ct,zc2,cu,zc3,cv,zc4,cw,zc5,cz,cq⟩:=z7 K;clear E K an hT F;go_wp2_with fail;have KZ:=s7b HZ.o.2 y;have cj:=s7w (b:=w.heap.size+2) HZ.o.1 ow y;have bi:=s7o dl.o.own HZ.o.2 y;unfold set7 at KZ cj bi;obtain⟨dy,dz,d2,d3,d4,d5,d6⟩:=dp KZ;refine Xzq (v := .tuple #[y.val,.int .i64 0]) (by simp[results,results97,go_sem,St.val,dy,dz,d2,d3,d4,d5,d6]) rfl ?_;exact⟨y,ja,bi.at,⟨λ_=>HY.o,λh=>absurd HX.o h⟩,λ_=>bi.mono (Qzx c9.o A1),cj⟩
theorem av7{x:Ax}(f:p.At w)(hs:s.At w)(hx:x.ls.At w):(x.k=1->Calls prog 90 #[p.val,s.val,.int .i64 x.a,.int .i64 x.b,.int .i64 x.n] w λe w'=>∃y:St,e = .returned (.tuple #[y.val,.int .i64 (doE p s x)])/\y.At w'/\jb (doE p s x) (doT p s x) y/\(doE p s x=0->ah w.heap.size w' y)/\Bw w w') /\
  (x.k=2->Calls prog 91 #[p.val,s.val,x.ls.val] w λe w'=>∃y:St,e = .returned (.tuple #[y.val,.int .i64 (doE p s x)])/\y.At w'/\jb (doE p s x) (doT p s x) y/\(doE p s x=0->ah w.heap.size w' y)/\Bw w w') /\
  (x.k=3->Calls prog 92 #[p.val,s.val] w λe w'=>∃y:St,e = .returned (.tuple #[y.val,.int .i64 (doE p s x)])/\y.At w'/\jb (doE p s x) (doT p s x) y/\(doE p s x=0->ah w.heap.size w' y)/\Bw w w') /\
  (x.k=4->Calls prog 93 #[p.val,s.val,.int .i64 x.a] w λe w'=>∃y:St,e = .returned (.tuple #[y.val,.int .i64 (doE p s x)])/\y.At w'/\jb (doE p s x) (doT p s x) y/\(doE p s x=0->ah w.heap.size w' y)/\Bw w w') /\
  (x.k=5->Calls prog 94 #[p.val,s.val,.int .i64 x.a,.int .i64 x.b,.int .i64 x.c,.int .i64 x.n] w λe w'=>∃y:St,e = .returned (.tuple #[y.val,.int .i64 (doE p s x)])/\y.At w'/\jb (doE p s x) (doT p s x) y/\(doE p s x=0->ah w.heap.size w' y)/\Bw w w') /\
  (x.k=6->Calls prog 95 #[p.val,s.val] w λe w'=>∃y:St,e = .returned (.tuple #[y.val,.int .i64 (doE p s x)])/\y.At w'/\jb (doE p s x) (doT p s x) y/\(doE p s x=0->ah w.heap.size w' y)/\Bw w w') /\
  (x.k=7->Calls prog 96 #[p.val,s.val,.int .i64 x.a,.int .i64 x.n] w λe w'=>∃y:St,e = .returned (.tuple #[y.val,.int .i64 (doE p s x)])/\y.At w'/\jb (doE p s x) (doT p s x) y/\(doE p s x=0->ah w.heap.size w' y)/\Bw w w') /\
  (x.k=8->Calls prog 97 #[p.val,s.val,.int .i64 x.a,.int .i64 x.b,.int .i64 x.n] w λe w'=>∃y:St,e = .returned (.tuple #[y.val,.int .i64 (doE p s x)])/\y.At w'/\jb (doE p s x) (doT p s x) y/\(doE p s x=0->ah w.heap.size w' y)/\Bw w w'):=by
 refine⟨λd => ?_,λd => ?_,λd => ?_,λd => ?_,λd => ?_,λd => ?_,λd => ?_,λd => ?_⟩<;>unfold doE doT<;>rw[d]
 .exact Tx p s x.a x.b x.n w f hs
 .exact Xr p s x.ls w f hs hx
 .exact(ac0 p s w f hs).mono λe w' ⟨y,h1,h2,h3,h4⟩=>⟨y,h1,h2,h3.act,h4⟩
 .exact aeh p s x.a w f hs
 .exact aqq p s x.a x.b x.c x.n w f hs
 .exact aqi p s w f hs
 .exact ahp p s x.a x.n w f hs
 exact ahj p s x.a x.b x.n w f hs
theorem aw1(p:Pl)(s:St)(x:Ax)(w:World)(hp:p.At w)(hs:s.At w)(hx:x.ls.At w):
  Calls prog 62 #[p.val,s.val,x.val] w λe w'=>∃y:St,e = .returned (.tuple #[y.val,.int .i64 (doE p s x)])/\y.At w'/\jb (doE p s x) (doT p s x) y/\(doE p s x=0->ah w.heap.size w' y)/\Bw w w':=by
 obtain⟨W0,i,S,g,K,⟨⟨l1,d0,d1⟩,l2,V,c1,c2,c3,c4,c5,c6⟩,⟨M,x1,x2,x3,x4,x5,x6⟩,Q,q,n,r,zc1,t,zc2,u,zc3,z,zc4,A,zc5,B,o⟩:=ain p s x w hp hs hx;rw[<-i.o] at l1 d0 d1 l2 V c1 c2 c3 c4 c5 c6 M x1 x2 x3 x4 x5 x6 Q q n r zc1 t zc2 u zc3 z zc4 A zc5 B o;clear hp hs hx;by_cases a:x.k=1\/x.k=2\/x.k=3\/x.k=4\/x.k=5\/x.k=6\/x.k=7\/x.k=8;rotate_left
 .simp only[not_or] at a;obtain⟨n1,n2,n3,n4,n5,n6,n7,n8⟩:=a;have HE:Hid (doE p s x=8):=am7;have hfin:=(S.o W0 brf).2.2.2.1;rw[<-i.o] at hfin;unfold Pl.val St.val Ax.val Ax.cells;go_enter func62,ntmps62
  generalize x.k=f at *
  have g1:(f==1)=false:=by simpa using n1
  have g2:(f==2)=false:=by simpa using n2
  have g3:(f==3)=false:=by simpa using n3
  have g4:(f==4)=false:=by simpa using n4
  have g5:(f==5)=false:=by simpa using n5
  have g6:(f==6)=false:=by simpa using n6
  have g7:(f==7)=false:=by simpa using n7
  have g8:(f==8)=false:=by simpa using n8
  clear n1 n2 n3 n4 n5 n6 n7 n8;go_wp2_with fail;refine Xzq (v := .tuple #[mw.val,.int .i64 8]) (by simp[results,results62,go_sem,mw,St.val]) rfl ?_;exact al8
 have d:Hid _:=av7 (x:=x) g.o.1 g.o.2.1 g.o.2.2;unfold Pl.val St.val Ax.val Ax.cells;go_enter func62,ntmps62;rcases a with a|a|a|a|a|a|a|a
 all_goals
  first
   | have c:Hid _:=d.o.1 a
   | have c:Hid _:=d.o.2.1 a
   | have c:Hid _:=d.o.2.2.1 a
   | have c:Hid _:=d.o.2.2.2.1 a
   | have c:Hid _:=d.o.2.2.2.2.1 a
   | have c:Hid _:=d.o.2.2.2.2.2.1 a
   | have c:Hid _:=d.o.2.2.2.2.2.2.1 a
   | have c:Hid _:=d.o.2.2.2.2.2.2.2 a
  rw[a] at M i ⊢;clear a d;go_wp2_with fail;rw[i.o];clear l1 d0 d1 l2 V c1 c2 c3 c4 c5 c6 M x1 x2 x3 x4 x5 x6 Q q n r zc1 t zc2 u zc3 z zc4 A zc5 B o i g;refine Calls.mono c.o ?_;rintro e w1 ⟨y,rfl,G,H,m,hB⟩;have D:=qa3 G H m;obtain⟨-,-,-,ag,L,-,-⟩:=S.o w1 hB;clear G H m c;obtain⟨J,j⟩:∃J,doE p s x=J:=⟨_,rfl⟩;have T:=hid j;rw[j];clear j;obtain⟨Q,q,n,r,zc1,t,zc2,u,zc3,z,zc4,A,zc5,B,o⟩:=z7 L;simp only[St.val];go_wp2_with fail;have U:=s7b L y;have F:=s7w (b:=w.heap.size+3) ag ow y;have l:=λh=>s7o (D.o.2.2 h) L y;have E:=ah9 D.o.2.1 D.o.1 l;unfold set7 at U F E l;obtain⟨W,X,Y,aa,ab,ac,ad⟩:=dp U;refine Xzq (v := .tuple #[y.val,.int .i64 J]) (by simp[results,results62,go_sem,St.val,W,X,Y,aa,ab,ac,ad]) rfl ?_;exact⟨y,by rw[T.o];rfl,E,D.o.2.1,λh=>(l h).mono K.o,F⟩
theorem Bt.set7(h:Bt R a w)(b c d e f g i:Value):Bt R a (Go.Proofs.YtjgckphgagdpaaaGreatDoor.set7 w R b c d e f g i):=
 ((((((h.set (p:=⟨R,0,none⟩) (Or.inl rfl) b).set (p:=⟨R,1,none⟩) (Or.inl rfl) c).set (p:=⟨R,2,none⟩) (Or.inl rfl) d).set (p:=⟨R,3,none⟩) (Or.inl rfl) e).set (p:=⟨R,4,none⟩) (Or.inl rfl) f).set (p:=⟨R,5,none⟩) (Or.inl rfl) g).set (p:=⟨R,6,none⟩) (Or.inl rfl) i
theorem Fr.less(h:Fr m w s)(f:n<=m):Fr n w s:=λa b c=>h a b λg d e=>c g (Qzx f d) e
end Go.Proofs.YtjgckphgagdpaaaGreatDoor

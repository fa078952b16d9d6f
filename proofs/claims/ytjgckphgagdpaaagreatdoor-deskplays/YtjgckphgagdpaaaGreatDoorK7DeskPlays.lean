/- Joined texts of DeskPlays. -/
import Derived.Test.YtjgckphgagdpaaaGreatDoorK6DeskPlays
import Derived.Lib.OthersKept
import Derived.ProofKit
import Derived.OpenShut
import Derived.Lib.SmallJoins
import Derived.Deep.Slices
import Derived.SizedLaws
import Derived.ChangeMaps5
import Derived.Test.YtjgckphgagdpaaaGreatDoorCards
import Derived.Test.YtjgckphgagdpaaaGreatDoorTie
import Derived.Lay
import Derived.LaidMore
import Derived.Lib.LaidTab
import Derived.Stop.Joined
import Derived.Stop.LaidErr
import Derived.Shelf.Vars
set_option maxHeartbeats 4000000
set_option maxRecDepth 100000
set_option linter.unusedVariables false
namespace Go.Proofs.YtjgckphgagdpaaaGreatDoor
open _root_.Go.Proofs.Tryz
open Go.RowKit Go.Shelf Go.Sort
theorem qx.owns{A:Nat}{w:World}{a:Option Addr}{c:Nat}{l:List (List UInt8)}(h:w.ownsRow A 9 1 (.slice a l.length c) l.length (xd l)):qx w a l:=λi x hi=>by
 have k:i<l.length:=(List.getElem?_eq_some_iff.1 hi).1;have f:Value.slice a l.length c ≠ .slice none 0 0:=λe=>by simp only[Value.slice.injEq] at e;omega
 obtain⟨g,m,b,n,o,p,d⟩:=Blk.ofOwns h f;simp only[Value.slice.injEq,true_and] at b;refine⟨g,0,b.1,d.lt,?_⟩;rw[Nat.zero_add,d.cell (j:=i) ow];simp[xd,List.getD,hi]
theorem qx.tail{w:World}{b o:Nat}{x:List UInt8}{l:List (List UInt8)}(h:qx w (some ⟨b,o,none⟩) (x :: l)):qx w (some ⟨b,o+1,none⟩) l:=λi y hi=>by
 obtain⟨d,f,e,a,c⟩:=h (i+1) y hi;cases e;exact⟨b,o+1,rfl,a,by rw[show o+1+i=o+(i+1) by omega];exact c⟩
theorem R3{b o n c:Nat}(hc:n+1<=c):∃o' c',(∀a,(Instr.slice 65 (.slice (some ⟨b,o,none⟩) (n+1) c) (some (.int .i64 1)) none none).run Tryz.prog a = .ok (.slice (some ⟨b,o',none⟩) n c') a)/\n<=c'/\(0<n->o'=o+1):=by
 have e:=Tryz.underlying65;have f:=Tryz.sizeOf9;have d:(1:Int)<=(n:Int)+1:=ow;by_cases h:c=1
 .subst h;exact⟨o,0,λa=>by simp[Instr.slice,run_underlying e,Instr.sliceBounds,Instr.sliceBound,asIntOf,f,d,Result.andThen],ow,λh=>ow⟩
 exact⟨o+1,c-1,λa=>by simp[Instr.slice,run_underlying e,Instr.sliceBounds,Instr.sliceBound,asIntOf,f,d,Result.andThen,h,Addr.add],ow,λ_=>rfl⟩
theorem P8{c:UInt8}:∀{t acc:List UInt8},∀x∈fc c acc t,x.length<=acc.length+t.length
 | [],acc,x,h=>by
  rw[fc,List.mem_singleton] at h;subst h;exact Nat.le_refl _
 | b :: t,acc,x,h=>by
  rw[fc] at h;by_cases a:b=c
  .rw[if_pos a] at h;rcases List.mem_cons.1 h with rfl|h
   .omega
   have:=P8 x h;rw[List.length_cons];simp only[List.length_nil] at this;omega
  rw[if_neg a] at h;have:=P8 x h;rw[List.length_append,List.length_singleton] at this;rw[List.length_cons];omega
theorem Fq(c:UInt8):∀(t acc:List UInt8),∃x l,fc c acc t=x :: l
 | [],acc=>⟨acc,[],rfl⟩
 | b :: t,acc=>by
  by_cases a:b=c
  .exact⟨acc,fc c [] t,by rw[fc,if_pos a]⟩
  obtain⟨x,l,h⟩:=Fq c t (acc++[b]);exact⟨x,l,by rw[fc,if_neg a,h]⟩
def Qu(q:Option (Int × List Int))(v:Value)(w:World):Prop :=
 match q with
  | none=>v = .tuple #[.slice none 0 0,.int .i64 0,.bool false]
  | some (E,l)=>∃a c,v = .tuple #[.slice a l.length c,.int .i64 E,.bool true]/\j7 w a l
theorem Qu.below{q:Option (Int × List Int)}{v:Value}{w w':World}(h:Qu q v w)(e:Bw w w'):Qu q v w':=by
 cases q with
 | none=>exact h
 | some q =>
  obtain⟨a,c,b,d⟩:=h;exact⟨a,c,b,d.below e⟩
theorem vh.val{q:Option (Int × List Int)}{w w':World}{e:Ending}(h:vh q w e w'):∃v,e = .returned v/\Qu q v w':=by
 cases q with
 | none=>exact⟨_,h.1,rfl⟩
 | some q =>
  obtain⟨a,c,b,d⟩:=h.1;exact⟨_,b,a,c,rfl,d⟩
def aw2(p:Pl)(s:St)(t:List UInt8)(w:World)(e:Ending)(w':World):Prop :=
 ∃y:St,e = .returned (.tuple #[y.val,.string ⟨(ij p s t).toArray⟩])/\(y=s\/Fr w.heap.size w' y)/\af y (jh p s t)/\Bw w w'
theorem aiw(p:Pl)(s:St)(t:List UInt8)(w:World)(hp:p.At w)(hs:s.At w)(r:am p s)(ht:t.length<=4096):
  Calls Tryz.prog 16 #[p.val,s.val,.string ⟨t.toArray⟩] w λe w'=>aw2 p s t w e w':=by
 obtain⟨W0,hW,b8,X0,Z0,dw⟩:∃W,((w.alloc (.cells #[.slice p.ab p.nb p.cb,.slice p.sa p.ns p.cs] 25)).alloc (.cells s.cells 36)).alloc (.cells #[.slice none 0 0,.slice none 0 0,.slice none 0 0,.slice none 0 0,.slice none 0 0,.slice none 0 0,.slice none 0 0] 36)=W/\Bw w W/\jj W w.heap.size (w.heap.size+1) p s/\Blk W (w.heap.size+1+1) 36 7 (λ_ => .slice none 0 0)/\W.heap.size=w.heap.size+3 :=
  ⟨_,rfl,(dx _ _ _).alloc oq _,(ku w p s _ _).below (brf.alloc nlr _),(Blk.mk' (cur:=#[.slice none 0 0,.slice none 0 0,.slice none 0 0,.slice none 0 0,.slice none 0 0,.slice none 0 0,.slice none 0 0]) vq rfl).congr (λj hj=>by match j,hj with|0,_|1,_|2,_|3,_|4,_|5,_|6,_=>rfl),vq⟩
 have HC:Hid (∀m,Bw W0 m->jj m w.heap.size (w.heap.size+1) p s/\p.At m/\s.At m/\Bw w m/\Blk m (w.heap.size+1+1) 36 7 (λ_ => .slice none 0 0)):=λm h=>⟨X0.below h,(hp.below b8).below h,(hs.below b8).below h,b8.trans (h.mono b8.size),Z0.below h⟩;unfold St.cells at hW;have HW:=hid hW;have HR:=qa3 r ht dw;clear hW X0 Z0 b8 hp hs r dw;unfold Pl.val St.val;go_enter Tryz.func16,Tryz.ntmps16;go_wp2_with fail;rw[HW.o];refine(aj0 t ht W0).mono ?_;rintro e w1 ⟨a,c,rfl,ho,L⟩;obtain⟨x,ws,hpt⟩:=Fq 32 t [];have de:∀y∈x :: ws,y.length<=4096:=λy hy=>ani;have es:ws.length<=4096:=amr;rw[hpt] at ho ⊢;obtain⟨b,o,rfl,hb,dr⟩:=qx.owns ho 0 x rfl;have c9:(x :: ws).length<=c:=by
  obtain⟨_,h|⟨g,cap,cur,hv,_,_,h1,_⟩⟩:=ho
  .cases h.1
  simp only[Value.slice.injEq,Qkx] at hv;rw[hv.2.2];exact h1
 obtain⟨o2,cc,du,eq,dt⟩:=R3 (b:=b) (o:=o) (n:=ws.length) (c:=c) c9;have dn:qx w1 (some ⟨b,o2,none⟩) ws:=λi y hi=>by
  have hn:0<ws.length:=Nat.lt_of_le_of_lt (Qxz _) (List.getElem?_eq_some_iff.1 hi).1;rw[dt hn];exact(qx.owns ho).tail i y hi
 have HT:Hid (qx w1 (some ⟨b,o2,none⟩) ws/\w1.cell? ⟨b,o,none⟩=some (.string ⟨x.toArray⟩)/\b<w1.heap.size/\Bw W0 w1):=⟨dn,by simpa using dr,hb,L⟩;have HP:Hid (fc 32 [] t=x :: ws/\(∀y∈ws,y.length<=4096)/\x.length<=4096):=⟨hpt,λy hy=>de y (List.mem_cons_of_mem _ hy),de x (List.mem_cons_self ..)⟩;rw[List.length_cons];clear ho hb dr hpt de L HW ht dn dt c9;go_wp2_with fail;refine(Wr (some ⟨b,o2,none⟩) cc ws w1 HT.o.1 eq ow HP.o.2.1).mono ?_;rintro e w2 ⟨⟨l,a2,c2,hl,rfl,dd⟩|⟨ds,rfl⟩,b0⟩;rotate_left
 .have ck:=hid (HT.o.2.2.2.trans (b0.mono HT.o.2.2.2.size));have HD:Hid (ij p s t=pa 1/\jh p s t=s):=M3 HP.o.1 ds;clear ds b0 HT du;obtain⟨⟨⟨l1,d0,d1⟩,l2,Q,c1,c2,c3,c4,c5,c6⟩,T,U,z,f⟩:=HC.o w2 ck.o;have v0:=Qqq Q;have v1:=Qqq c1;have v2:=Qqq c2;have v3:=Qqq c3;have v4:=Qqq c4;have v5:=Qqq c5;have v6:=Qqq c6;clear T U z f l1 d0 d1;go_wp2_with fail;refine dg (λw'=>∃p:Regrown,w'=grow (redrawn w2 p.d) p.os) [0,1] [2] [(true,3),(true,4)] (Qqx (brf.drew)) ?_;simp only[jg]
  repeat(go_big_quiet_step(fail))
  refine Qqz ?_;clear v0 v1 v2 v3 v4 v5 v6 Q c1 c2 c3 c4 c5 c6 l2;refine⟨λj v g m=>g=[]/\v = .string ⟨(pa 1).toArray⟩,Qjx ⟨λv g w w' L h=>h,Qjq _⟩,Qjx ⟨λv g w h=>pq,Qjq _⟩,Qjx ⟨?_,Qjq _⟩,?_⟩
  .exact auo
  intro V G m u F hA;have A:=ae u;have hv:=(F 2 vq).2;have H:Bw W0 m:=(ck.o).trans (A.mono (ck.o).size);obtain⟨-,-,-,z,f⟩:=HC.o m H;have zl:=f.lt;have ap:=f.frozen 0;have an:m.cell? ⟨w.heap.size+1+1,0,none⟩=some (.slice none 0 0):=f.k 0;have aq:=f.frozen 1;have zc1:m.cell? ⟨w.heap.size+1+1,1,none⟩=some (.slice none 0 0):=f.k 1;have ar:=f.frozen 2;have zc2:m.cell? ⟨w.heap.size+1+1,2,none⟩=some (.slice none 0 0):=f.k 2;have au:=f.frozen 3;have zc3:m.cell? ⟨w.heap.size+1+1,3,none⟩=some (.slice none 0 0):=f.k 3;have av:=f.frozen 4;have zc4:m.cell? ⟨w.heap.size+1+1,4,none⟩=some (.slice none 0 0):=f.k 4;have aw:=f.frozen 5;have zc5:m.cell? ⟨w.heap.size+1+1,5,none⟩=some (.slice none 0 0):=f.k 5;have az:=f.frozen 6;have ao:m.cell? ⟨w.heap.size+1+1,6,none⟩=some (.slice none 0 0):=f.k 6;have D:=And.intro (s7b f s) (And.intro (s7w (b:=w.heap.size+1+1) z ow s) A);unfold set7 at D;have HF:Hid (_/\_/\_):=D;clear u F hA A D f H z;simp only[bw,hv];refine bu 3 rfl ?_;go_wp2_with fail;refine⟨fw.yes,?_⟩;refine bu 4 rfl ?_;exact auh
 have da:=j7.owns dd;have fd:l.length<=4096:=by
  obtain⟨h1,-⟩:=Rq hl;rw[h1,List.length_map];exact es
 have HL:=hid hl;have M:Hid (j7 w2 a2 l/\w2.cell? ⟨b,o,none⟩=some (.string ⟨x.toArray⟩)/\b<w2.heap.size/\Bw W0 w2):=⟨da,(b0.cell (p:=⟨b,o,none⟩) HT.o.2.2.1).trans HT.o.2.1,Xzx HT.o.2.2.1 b0.size,HT.o.2.2.2.trans (b0.mono HT.o.2.2.2.size)⟩;clear hl dd da HT du b0;have tc:=M.o.2.1;have tb:=M.o.2.2.1;go_wp2_with fail;clear tc tb;refine(ah0 x a2 c2 l w2 M.o.1 ow).mono ?_;rintro e w3 (⟨ax,Y,hq,dv,dq,rfl,bc⟩|⟨hq,rfl,bc⟩)
 .have HD:Hid ((doE p s ax=0->ij p s t=okL/\jh p s t=doT p s ax)/\(¬doE p s ax=0->ij p s t=pa (doE p s ax)/\jh p s t=s)):=Kd HP.o.1 HL.o hq;obtain⟨sE,sT⟩:=T7 HR.o.1 (af.self s) dv;obtain⟨X,b1,bm,K4⟩:∃W,w3.alloc (.cells Y.cells 77)=W/\Bw w3 W/\Blk W w3.heap.size 77 6 (λj=>Y.cells.getD j default):=⟨_,rfl,brf.alloc nlr _,Blk.mk' rfl rfl⟩;have b4:Hid (w3.alloc (.cells #[.int .i64 Y.k,.int .i64 Y.a,.int .i64 Y.b,.int .i64 Y.c,.int .i64 Y.n,.slice Y.ls.a Y.ls.n Y.ls.c] 77)=X):=b1;have J:Hid (Bw W0 X):=(M.o.2.2.2.trans (bc.mono M.o.2.2.2.size)).trans (bm.mono (M.o.2.2.2.trans (bc.mono M.o.2.2.2.size)).size);have dj:Hid (Y.ls.At X):=dq.below bm;have cg:=qa2 sE sT;obtain⟨⟨⟨l1,d0,d1⟩,l2,Q,c1,S,c3,c4,c5,c6⟩,T,U,z,f⟩:=HC.o X J.o;have cj:=qa2 T U;have k0:X.cell? ⟨w3.heap.size,0,none⟩=some (.int .i64 Y.k):=K4.k 0;have k1:X.cell? ⟨w3.heap.size,1,none⟩=some (.int .i64 Y.a):=K4.k 1;have k2:X.cell? ⟨w3.heap.size,2,none⟩=some (.int .i64 Y.b):=K4.k 2;have k3:X.cell? ⟨w3.heap.size,3,none⟩=some (.int .i64 Y.c):=K4.k 3;have k4:X.cell? ⟨w3.heap.size,4,none⟩=some (.int .i64 Y.n):=K4.k 4;have k5:X.cell? ⟨w3.heap.size,5,none⟩=some (.slice Y.ls.a Y.ls.n Y.ls.c):=K4.k 5;have kl:=K4.lt;rw[<-b1] at k0 k1 k2 k3 k4 k5 kl l1 d0 d1 l2 Q c1 S c3 c4 c5 c6;clear hq dv dq bc bm K4 b1 sE sT T U z f M;unfold Ax.cells at k0 k1 k2 k3 k4 k5 kl l1 d0 d1 l2 Q c1 S c3 c4 c5 c6;simp only[Ax.val,Ax.cells];go_wp2_with fail;rw[b4.o];clear k0 k1 k2 k3 k4 k5 kl l1 d0 d1 l2 Q c1 S c3 c4 c5 c6 b4
  generalize w3.heap.size=B3 at *
  refine(aqh p s Y X cj.o.1 cj.o.2 dj.o).mono ?_;rintro e w5 ⟨y,rfl,ey,dh,cd,cx⟩;obtain⟨W6,cz,cy,K6⟩:∃W,w5.alloc (.cells y.cells 36)=W/\Bw w5 W/\Blk W w5.heap.size 36 7 (λj=>y.cells.getD j default):=⟨_,rfl,brf.alloc nlr _,Blk.mk' rfl rfl⟩;unfold St.cells at cz;have b5:=hid cz;have ce:Hid (Bw W0 W6):=(J.o.trans (cx.mono J.o.size)).trans (cy.mono (J.o.trans (cx.mono J.o.size)).size);have cn:=hid K6;have cf:Hid (jb (doE p s ax) (doT p s Y) y/\(doE p s ax=0->Fr X.heap.size W6 y)):=by
   rw[cg.o.1] at dh cd;exact⟨dh,λh=>(cd h).fr.below cy⟩
  have ek:=hid J.o.size;have ei:Hid (0<=doE p s ax/\doE p s ax<=8):=Yo HR.o.1 ax;rw[cg.o.1];clear ey dh cd cx cy K6 cz dj cj J;simp only[St.val];by_cases hE:doE p s ax=0;rotate_left
  .have gE:(doE p s ax !=0)=true:=by simpa using hE
   have dl:Hid (ij p s t=pa (doE p s ax)/\jh p s t=s):=HD.o.2 hE;clear hE HD cf cn cg
   generalize doE p s ax=EE at *
   go_wp2_with fail;rw[b5.o];clear b5;obtain⟨⟨⟨l1,d0,d1⟩,l2,Q,c1,c2,c3,c4,c5,c6⟩,T,U,z,f⟩:=HC.o W6 ce.o;have v0:=Qqq Q;have v1:=Qqq c1;have v2:=Qqq c2;have v3:=Qqq c3;have v4:=Qqq c4;have v5:=Qqq c5;have v6:=Qqq c6;clear T U z f l1 d0 d1;go_wp2_with fail;refine dg (λw'=>∃p:Regrown,w'=grow (redrawn W6 p.d) p.os) [0,1,2] [3] [(true,4),(true,5)] (Qqx (brf.drew)) ?_;simp only[jg]
   repeat(go_big_quiet_step(fail))
   refine Qqz ?_;clear v0 v1 v2 v3 v4 v5 v6 Q c1 c2 c3 c4 c5 c6 l2;refine⟨λj v g m=>g=[]/\v = .string ⟨(pa EE).toArray⟩,Qjx ⟨λv g w w' L h=>h,Qjq _⟩,Qjx ⟨λv g w h=>pq,Qjq _⟩,Qjx ⟨?_,Qjq _⟩,?_⟩
   .intro V G m K u hd B;have A:=ae u;refine ai _ rfl ?_;simp only[bw] at B ⊢;go_wp2_with fail;refine(I7 EE (by have:=ei.o;omega) m).mono ?_;exact abi
   intro V G m u F hA;have A:=ae u;have hv:=(F 3 vq).2;have H:Bw W0 m:=(ce.o).trans (A.mono (ce.o).size);obtain⟨-,-,-,z,f⟩:=HC.o m H;have zl:=f.lt;have ap:=f.frozen 0;have an:m.cell? ⟨w.heap.size+1+1,0,none⟩=some (.slice none 0 0):=f.k 0;have aq:=f.frozen 1;have zc1:m.cell? ⟨w.heap.size+1+1,1,none⟩=some (.slice none 0 0):=f.k 1;have ar:=f.frozen 2;have zc2:m.cell? ⟨w.heap.size+1+1,2,none⟩=some (.slice none 0 0):=f.k 2;have au:=f.frozen 3;have zc3:m.cell? ⟨w.heap.size+1+1,3,none⟩=some (.slice none 0 0):=f.k 3;have av:=f.frozen 4;have zc4:m.cell? ⟨w.heap.size+1+1,4,none⟩=some (.slice none 0 0):=f.k 4;have aw:=f.frozen 5;have zc5:m.cell? ⟨w.heap.size+1+1,5,none⟩=some (.slice none 0 0):=f.k 5;have az:=f.frozen 6;have ao:m.cell? ⟨w.heap.size+1+1,6,none⟩=some (.slice none 0 0):=f.k 6;have D:=And.intro (s7b f s) (And.intro (s7w (b:=w.heap.size+1+1) z ow s) A);unfold set7 at D;have HF:Hid (_/\_/\_):=D;clear u F hA A D f H z;simp only[bw,hv];refine bu 4 rfl ?_;go_wp2_with fail;refine⟨fw.yes,?_⟩;refine bu 5 rfl ?_;go_wp2_with fail;refine⟨fw.yes,?_⟩;refine NoPanic.normal ?_;clear zl ap an aq zc1 ar zc2 au zc3 av zc4 aw zc5 az ao;go_wp2_with fail;obtain⟨br,bs,S,bt,bv,bx,bz⟩:=dp HF.o.1;refine Xzq (v := .tuple #[s.val,.string ⟨(pa EE).toArray⟩]) Xa rfl ?_;exact⟨s,by rw[dl.o.1],Or.inl rfl,by rw[dl.o.2];exact af.self _,HF.o.2.1⟩
  have bq:Hid (ij p s t=okL/\jh p s t=doT p s ax):=HD.o.1 hE;have dm:Hid (af y (doT p s ax)/\Fr X.heap.size W6 y):=⟨(cf.o.1.1 hE).trans (cg.o.2 hE),cf.o.2 hE⟩;rw[hE];obtain⟨-,-,-,z,f⟩:=HC.o W6 ce.o;obtain⟨m1,p0,p1,p2,p3,p4,p5,p6⟩:=Boxed.of cn.o;have zl:=f.lt;have ap:=f.frozen 0;have an:W6.cell? ⟨w.heap.size+1+1,0,none⟩=some (.slice none 0 0):=f.k 0;have aq:=f.frozen 1;have zc1:W6.cell? ⟨w.heap.size+1+1,1,none⟩=some (.slice none 0 0):=f.k 1;have ar:=f.frozen 2;have zc2:W6.cell? ⟨w.heap.size+1+1,2,none⟩=some (.slice none 0 0):=f.k 2;have au:=f.frozen 3;have zc3:W6.cell? ⟨w.heap.size+1+1,3,none⟩=some (.slice none 0 0):=f.k 3;have av:=f.frozen 4;have zc4:W6.cell? ⟨w.heap.size+1+1,4,none⟩=some (.slice none 0 0):=f.k 4;have aw:=f.frozen 5;have zc5:W6.cell? ⟨w.heap.size+1+1,5,none⟩=some (.slice none 0 0):=f.k 5;have az:=f.frozen 6;have ao:W6.cell? ⟨w.heap.size+1+1,6,none⟩=some (.slice none 0 0):=f.k 6;have D:=And.intro (s7b f y) (And.intro (s7w (b:=w.heap.size+1+1) z ow y) (dm.o.2.set7 (b:=w.heap.size+1+1) ata (.slice y.on.a y.on.n y.on.c) (.slice y.os.a y.os.n y.os.c) (.slice y.hs.a y.hs.n y.hs.c) (.slice y.ms.a y.ms.n y.ms.c) (.slice y.si.a y.si.n y.si.c) (.slice y.so.a y.so.n y.so.c) (.slice y.sf.a y.sf.n y.sf.c)));unfold set7 at D;have HF:Hid (_/\_/\_):=D;rw[<-b5.o] at zl ap an aq zc1 ar zc2 au zc3 av zc4 aw zc5 az ao m1 p0 p1 p2 p3 p4 p5 p6;clear f z D hE HD cf cn;go_wp2_with fail;obtain⟨br,bs,S,bt,bv,bx,bz⟩:=dp HF.o.1;refine Xzq (v := .tuple #[y.val,.string ⟨okL.toArray⟩]) (by simp[results,Tryz.results16,go_sem,St.val,okL,b5.o,br,bs,S,bt,bv,bx,bz]) rfl ?_;rw[b5.o];exact⟨y,by rw[bq.o.1],Or.inr (HF.o.2.2.less ata),by rw[bq.o.2];exact dm.o.1,HF.o.2.1⟩
 have cl:=hid (M.o.2.2.2.trans (bc.mono M.o.2.2.2.size));have dk:=hid hq;obtain⟨X,b1,bm⟩:∃W,w3.alloc (.cells O1.cells 77)=W/\Bw w3 W:=⟨_,rfl,brf.alloc nlr _⟩;have b4:Hid (w3.alloc (.cells #[.int .i64 0,.int .i64 0,.int .i64 0,.int .i64 0,.int .i64 0,.slice none 0 0] 77)=X):=b1;have J:=hid (cl.o.trans (bm.mono cl.o.size));have ch:=bc.trans (bm.mono bc.size);have b3:Hid (j7 X a2 l/\X.cell? ⟨b,o,none⟩=some (.string ⟨x.toArray⟩)/\b<X.heap.size):=⟨M.o.1.below ch,(ch.cell (p:=⟨b,o,none⟩) M.o.2.2.1).trans M.o.2.1,Xzx M.o.2.2.1 ch.size⟩;clear hq bc b1 bm ch M cl;simp only[O1,Ax.val,Ax.cells,jt];go_wp2_with fail;rw[b4.o];clear b4
 generalize w3.heap.size=B3 at *
 obtain⟨⟨⟨l1,d0,d1⟩,l2,Q,c1,S,c3,c4,c5,c6⟩,T,U,z,f⟩:=HC.o X J.o;obtain⟨-,tc,tb⟩:=b3.o;have v0:=Qqq Q;have v1:=Qqq c1;have v2:=Qqq S;have v3:=Qqq c3;have v4:=Qqq c4;have v5:=Qqq c5;have v6:=Qqq c6;have v7:=Qqq d0;have v8:=Qqq d1;have v9:=Qqq tc;clear T U z f;cases hq:fe p s (j5 x) l with
 | none =>
  have HQ:=hid hq;have HD:Hid (ij p s t=pa 1/\jh p s t=s):=Ok HP.o.1 HL.o dk.o hq;clear hq;refine dg (λw'=>∃p:Regrown,w'=grow (redrawn X p.d) p.os) [0,1,2,3,4,5] [6,7,8,9,10,11,12,13] [] (Qqx (brf.drew)) ?_;simp only[jg]
  repeat(go_big_quiet_step(fail))
  refine Qqz ?_;clear v0 v1 v2 v3 v4 v5 v6 v7 v8 v9 Q c1 S c3 c4 c5 c6 d0 d1 l1 l2 tc tb;refine⟨λj v g m=>g=[]/\(j=6\/j=7->v = .tuple #[.slice none 0 0,.int .i64 0,.bool false])/\(j=8\/j=11->v = .slice none 0 0)/\(j=9\/j=12->v = .int .i64 0)/\(j=10\/j=13->v = .bool false),Qjx ⟨λv g w w' L h=>⟨h.1,h.2.1,h.2.2.1,h.2.2.2.1,h.2.2.2.2⟩,Qjx ⟨λv g w w' L h=>⟨h.1,h.2.1,h.2.2.1,h.2.2.2.1,h.2.2.2.2⟩,Qjx ⟨λv g w w' L h=>⟨h.1,h.2.1,h.2.2.1,h.2.2.2.1,h.2.2.2.2⟩,Qjx ⟨λv g w w' L h=>⟨h.1,h.2.1,h.2.2.1,h.2.2.2.1,h.2.2.2.2⟩,Qjx ⟨λv g w w' L h=>⟨h.1,h.2.1,h.2.2.1,h.2.2.2.1,h.2.2.2.2⟩,Qjx ⟨λv g w w' L h=>⟨h.1,h.2.1,h.2.2.1,h.2.2.2.1,h.2.2.2.2⟩,Qjx ⟨λv g w w' L h=>⟨h.1,h.2.1,h.2.2.1,h.2.2.2.1,h.2.2.2.2⟩,Qjx ⟨λv g w w' L h=>⟨h.1,h.2.1,h.2.2.1,h.2.2.2.1,h.2.2.2.2⟩,Qjq _⟩⟩⟩⟩⟩⟩⟩⟩,Qjx ⟨λv g w h=>pq,Qjx ⟨λv g w h=>pq,Qjx ⟨λv g w h=>pq,Qjx ⟨λv g w h=>pq,Qjx ⟨λv g w h=>pq,Qjx ⟨λv g w h=>pq,Qjx ⟨λv g w h=>pq,Qjx ⟨λv g w h=>pq,Qjq _⟩⟩⟩⟩⟩⟩⟩⟩,Qjx ⟨?_,Qjx ⟨?_,Qjx ⟨?_,Qjx ⟨?_,Qjx ⟨?_,Qjx ⟨?_,Qjx ⟨?_,Qjx ⟨?_,Qjq _⟩⟩⟩⟩⟩⟩⟩⟩,?_⟩
  .intro V G m K u hd B;have A:=ae u;have H:=J.o.trans (A.mono J.o.size);have cp:Hid (_):=V9 p s x a2 c2 l m (HC.o m H).2.1 (HC.o m H).2.2.1 HR.o.1 (b3.o.1.below A);refine ai _ rfl ?_;simp only[bw] at B ⊢;go_wp2_with fail;refine Calls.mono cp.o ?_;rintro e wj b9;rw[HQ.o] at b9;obtain⟨rfl,ag⟩:=b9;go_wp2_with fail;exact B _ [] _ (Qqx (A.trans (ag.mono A.size))) ag (λx hx=>sy) ⟨rfl,λ_=>rfl,λh=>j9,λh=>j9,λh=>j9⟩
  .intro V G m K u hd B;have hs:=(hd 6 (Qjz ko) vq).2.1 vq;refine ai _ rfl ?_;simp only[bw,hs] at B ⊢;go_wp2_with fail;exact B _ [] _ u brf (λx hx=>sy) ⟨rfl,λ_=>rfl,λh=>j9,λh=>j9,λh=>j9⟩
  .intro V G m K u hd B;have hs:=(hd 7 (Qjz ko) vq).2.1 vq;exact auz
  .intro V G m K u hd B;have hs:=(hd 7 (Qjz ko) vq).2.1 vq;exact auy
  .intro V G m K u hd B;have hs:=(hd 7 (Qjz ko) vq).2.1 vq;exact aux
  .intro V G m K u hd B;have hs:=(hd 8 (Qjz ko) vq).2.2.1 vq;exact auz
  .exact auj
  .exact aui
  intro V G m u F hA;have A:=ae u;have h6:=(F 6 vq).2.1 vq;have h7:=(F 7 vq).2.1 vq;have h8:=(F 8 vq).2.2.1 vq;have h9:=(F 9 vq).2.2.2.1 vq;have cr:=(F 10 vq).2.2.2.2 vq;have b7:=(F 11 vq).2.2.1 vq;have ct:=(F 12 vq).2.2.2.1 vq;have cu:=(F 13 vq).2.2.2.2 vq;have ak:=hid (J.o.trans (A.mono J.o.size));clear u F hA A J b3;simp only[bw,h6,h7,h8,h9,cr,b7,ct,cu];refine NoPanic.normal ?_;obtain⟨⟨⟨l1,d0,d1⟩,l2,Q,c1,c2,c3,c4,c5,c6⟩,T,U,z,f⟩:=HC.o m ak.o;have v0:=Qqq Q;have v1:=Qqq c1;have v2:=Qqq c2;have v3:=Qqq c3;have v4:=Qqq c4;have v5:=Qqq c5;have v6:=Qqq c6;clear T U z f l1 d0 d1;go_wp2_with fail;refine dg (λw'=>∃p:Regrown,w'=grow (redrawn m p.d) p.os) [0,1,2] [3] [(true,4),(true,5)] (Qqx (brf.drew)) ?_;simp only[jg]
  repeat(go_big_quiet_step(fail))
  refine Qqz ?_;clear v0 v1 v2 v3 v4 v5 v6 Q c1 c2 c3 c4 c5 c6 l2;refine⟨λj v g m=>g=[]/\v = .string ⟨(pa 1).toArray⟩,Qjx ⟨λv g w w' L h=>h,Qjq _⟩,Qjx ⟨λv g w h=>pq,Qjq _⟩,Qjx ⟨?_,Qjq _⟩,?_⟩
  .exact auo
  intro V G m u F hA;have A:=ae u;have hv:=(F 3 vq).2;have H:Bw W0 m:=(ak.o).trans (A.mono (ak.o).size);obtain⟨-,-,-,z,f⟩:=HC.o m H;have zl:=f.lt;have ap:=f.frozen 0;have an:m.cell? ⟨w.heap.size+1+1,0,none⟩=some (.slice none 0 0):=f.k 0;have aq:=f.frozen 1;have zc1:m.cell? ⟨w.heap.size+1+1,1,none⟩=some (.slice none 0 0):=f.k 1;have ar:=f.frozen 2;have zc2:m.cell? ⟨w.heap.size+1+1,2,none⟩=some (.slice none 0 0):=f.k 2;have au:=f.frozen 3;have zc3:m.cell? ⟨w.heap.size+1+1,3,none⟩=some (.slice none 0 0):=f.k 3;have av:=f.frozen 4;have zc4:m.cell? ⟨w.heap.size+1+1,4,none⟩=some (.slice none 0 0):=f.k 4;have aw:=f.frozen 5;have zc5:m.cell? ⟨w.heap.size+1+1,5,none⟩=some (.slice none 0 0):=f.k 5;have az:=f.frozen 6;have ao:m.cell? ⟨w.heap.size+1+1,6,none⟩=some (.slice none 0 0):=f.k 6;have D:=And.intro (s7b f s) (And.intro (s7w (b:=w.heap.size+1+1) z ow s) A);unfold set7 at D;have HF:Hid (_/\_/\_):=D;clear u F hA A D f H z;simp only[bw,hv];refine bu 4 rfl ?_;go_wp2_with fail;refine⟨fw.yes,?_⟩;refine bu 5 rfl ?_;exact auh
 | some q =>
  obtain⟨E,out⟩:=q;have HQ:=hid hq;have HD:Hid ((E=0->ij p s t=l7 out)/\(¬E=0->ij p s t=pa E)/\jh p s t=s):=Ec HP.o.1 HL.o dk.o hq;have cm:Hid ((E=0\/E=4/\out=[])/\out.length<=400/\∀x∈out,0<=x/\x<=999999):=rh HR.o.1 hq;clear hq;refine dg (λw'=>∃p:Regrown,w'=grow (redrawn X p.d) p.os) [0,1,2,3,4,5] [6,7,8,9,10,11,12,13] [] (Qqx (brf.drew)) ?_;simp only[jg]
  repeat(go_big_quiet_step(fail))
  refine Qqz ?_;clear v0 v1 v2 v3 v4 v5 v6 v7 v8 v9 Q c1 S c3 c4 c5 c6 d0 d1 l1 l2 tc tb;refine⟨λj v g m=>g=[]/\(j=6\/j=7->∃a c,v = .tuple #[.slice a out.length c,.int .i64 E,.bool true]/\j7 m a out)/\(j=8\/j=11->∃a c,v = .slice a out.length c/\j7 m a out)/\(j=9\/j=12->v = .int .i64 E)/\(j=10\/j=13->v = .bool true),Qjx ⟨λv g w w' L h=>⟨h.1,(λe=>Ii),(λe=>Ih),h.2.2.2.1,h.2.2.2.2⟩,Qjx ⟨λv g w w' L h=>⟨h.1,(λe=>Ii),(λe=>Ih),h.2.2.2.1,h.2.2.2.2⟩,Qjx ⟨λv g w w' L h=>⟨h.1,(λe=>Ii),(λe=>Ih),h.2.2.2.1,h.2.2.2.2⟩,Qjx ⟨λv g w w' L h=>⟨h.1,(λe=>Ii),(λe=>Ih),h.2.2.2.1,h.2.2.2.2⟩,Qjx ⟨λv g w w' L h=>⟨h.1,(λe=>Ii),(λe=>Ih),h.2.2.2.1,h.2.2.2.2⟩,Qjx ⟨λv g w w' L h=>⟨h.1,(λe=>Ii),(λe=>Ih),h.2.2.2.1,h.2.2.2.2⟩,Qjx ⟨λv g w w' L h=>⟨h.1,(λe=>Ii),(λe=>Ih),h.2.2.2.1,h.2.2.2.2⟩,Qjx ⟨λv g w w' L h=>⟨h.1,(λe=>Ii),(λe=>Ih),h.2.2.2.1,h.2.2.2.2⟩,Qjq _⟩⟩⟩⟩⟩⟩⟩⟩,Qjx ⟨λv g w h=>pq,Qjx ⟨λv g w h=>pq,Qjx ⟨λv g w h=>pq,Qjx ⟨λv g w h=>pq,Qjx ⟨λv g w h=>pq,Qjx ⟨λv g w h=>pq,Qjx ⟨λv g w h=>pq,Qjx ⟨λv g w h=>pq,Qjq _⟩⟩⟩⟩⟩⟩⟩⟩,Qjx ⟨?_,Qjx ⟨?_,Qjx ⟨?_,Qjx ⟨?_,Qjx ⟨?_,Qjx ⟨?_,Qjx ⟨?_,Qjx ⟨?_,Qjq _⟩⟩⟩⟩⟩⟩⟩⟩,?_⟩
  .intro V G m K u hd B;have A:=ae u;have H:=J.o.trans (A.mono J.o.size);have cp:Hid (_):=V9 p s x a2 c2 l m (HC.o m H).2.1 (HC.o m H).2.2.1 HR.o.1 (b3.o.1.below A);refine ai _ rfl ?_;simp only[bw] at B ⊢;go_wp2_with fail;refine Calls.mono cp.o ?_;rintro e wj b9;rw[HQ.o] at b9;obtain⟨⟨a3,c3,rfl,al⟩,ag⟩:=b9;go_wp2_with fail;exact B _ [] _ (Qqx (A.trans (ag.mono A.size))) ag (λx hx=>sy) ⟨rfl,λ_=>⟨a3,c3,rfl,al⟩,λh=>j9,λh=>j9,λh=>j9⟩
  .intro V G m K u hd B;have hs:=(hd 6 (Qjz ko) vq).2.1 vq;obtain⟨a3,c3,hs,al⟩:=hs;refine ai _ rfl ?_;simp only[bw,hs] at B ⊢;go_wp2_with fail;exact B _ [] _ u brf (λx hx=>sy) ⟨rfl,λ_=>⟨a3,c3,rfl,al⟩,λh=>j9,λh=>j9,λh=>j9⟩
  .intro V G m K u hd B;have hs:=(hd 7 (Qjz ko) vq).2.1 vq;exact aup
  .intro V G m K u hd B;have hs:=(hd 7 (Qjz ko) vq).2.1 vq;obtain⟨a3,c3,hs,al⟩:=hs;exact auy
  .intro V G m K u hd B;have hs:=(hd 7 (Qjz ko) vq).2.1 vq;obtain⟨a3,c3,hs,al⟩:=hs;exact aux
  .intro V G m K u hd B;have hs:=(hd 8 (Qjz ko) vq).2.2.1 vq;exact aup
  .exact auj
  .exact aui
  intro V G m u F hA;have A:=ae u;have h6:=(F 6 vq).2.1 vq;have h7:=(F 7 vq).2.1 vq;have h8:=(F 8 vq).2.2.1 vq;have h9:=(F 9 vq).2.2.2.1 vq;have cr:=(F 10 vq).2.2.2.2 vq;have b7:=(F 11 vq).2.2.1 vq;have ct:=(F 12 vq).2.2.2.1 vq;have cu:=(F 13 vq).2.2.2.2 vq;have ak:=hid (J.o.trans (A.mono J.o.size));clear u F hA A J b3;obtain⟨a6,c6,h6,-⟩:=h6;obtain⟨a7,c7,h7,-⟩:=h7;obtain⟨a8,c8,h8,-⟩:=h8;obtain⟨a3,c3,b7,al⟩:=b7;have ej:=hid al;clear al;simp only[bw,h6,h7,h8,h9,cr,b7,ct,cu];refine NoPanic.normal ?_;by_cases hE:E=0
  .subst hE;have bq:=qa2 (HD.o.1 rfl) HD.o.2.2;clear HD;obtain⟨⟨⟨l1,d0,d1⟩,l2,Q,c1,c2,c3,c4,c5,c6⟩,T,U,z,f⟩:=HC.o m ak.o;have v0:=Qqq Q;have v1:=Qqq c1;have v2:=Qqq c2;have v3:=Qqq c3;have v4:=Qqq c4;have v5:=Qqq c5;have v6:=Qqq c6;clear T U z f l1 d0 d1;go_wp2_with fail;refine dg (λw'=>∃p:Regrown,w'=grow (redrawn m p.d) p.os) [0,1] [2] [(true,3),(true,4)] (Qqx (brf.drew)) ?_;simp only[jg]
   repeat(go_big_quiet_step(fail))
   refine Qqz ?_;clear v0 v1 v2 v3 v4 v5 v6 Q c1 c2 c3 c4 c5 c6 l2;refine⟨λj v g m=>g=[]/\v = .string ⟨(l7 out).toArray⟩,Qjx ⟨λv g w w' L h=>h,Qjq _⟩,Qjx ⟨λv g w h=>pq,Qjq _⟩,Qjx ⟨?_,Qjq _⟩,?_⟩
   .intro V G m K u hd B;have A:=ae u;refine ai _ rfl ?_;simp only[bw] at B ⊢;go_wp2_with fail;refine(afo a3 c3 out m (ej.o.below A) (by have:=cm.o.2.1;omega) cm.o.2.2).mono ?_;exact abi
   intro V G m u F hA;have A:=ae u;have hv:=(F 2 vq).2;have H:Bw W0 m:=(ak.o).trans (A.mono (ak.o).size);obtain⟨-,-,-,z,f⟩:=HC.o m H;have zl:=f.lt;have ap:=f.frozen 0;have an:m.cell? ⟨w.heap.size+1+1,0,none⟩=some (.slice none 0 0):=f.k 0;have aq:=f.frozen 1;have zc1:m.cell? ⟨w.heap.size+1+1,1,none⟩=some (.slice none 0 0):=f.k 1;have ar:=f.frozen 2;have zc2:m.cell? ⟨w.heap.size+1+1,2,none⟩=some (.slice none 0 0):=f.k 2;have au:=f.frozen 3;have zc3:m.cell? ⟨w.heap.size+1+1,3,none⟩=some (.slice none 0 0):=f.k 3;have av:=f.frozen 4;have zc4:m.cell? ⟨w.heap.size+1+1,4,none⟩=some (.slice none 0 0):=f.k 4;have aw:=f.frozen 5;have zc5:m.cell? ⟨w.heap.size+1+1,5,none⟩=some (.slice none 0 0):=f.k 5;have az:=f.frozen 6;have ao:m.cell? ⟨w.heap.size+1+1,6,none⟩=some (.slice none 0 0):=f.k 6;have D:=And.intro (s7b f s) (And.intro (s7w (b:=w.heap.size+1+1) z ow s) A);unfold set7 at D;have HF:Hid (_/\_/\_):=D;clear u F hA A D f H z;simp only[bw,hv];refine bu 3 rfl ?_;go_wp2_with fail;refine⟨fw.yes,?_⟩;refine bu 4 rfl ?_;go_wp2_with fail;refine⟨fw.yes,?_⟩;refine NoPanic.normal ?_;clear zl ap an aq zc1 ar zc2 au zc3 av zc4 aw zc5 az ao;go_wp2_with fail;obtain⟨br,bs,S,bt,bv,bx,bz⟩:=dp HF.o.1;refine Xzq (v := .tuple #[s.val,.string ⟨(l7 out).toArray⟩]) Xa rfl ?_;exact aog
  have gE:(E !=0)=true:=by simpa using hE
  have bq:=qa2 (HD.o.2.1 hE) HD.o.2.2;have eh:Hid (E=4):=by
   rcases cm.o.1 with h|h
   .exact absurd h hE
   exact h.1
  clear HD hE;obtain⟨⟨⟨l1,d0,d1⟩,l2,Q,c1,c2,c3,c4,c5,c6⟩,T,U,z,f⟩:=HC.o m ak.o;have v0:=Qqq Q;have v1:=Qqq c1;have v2:=Qqq c2;have v3:=Qqq c3;have v4:=Qqq c4;have v5:=Qqq c5;have v6:=Qqq c6;clear T U z f l1 d0 d1;go_wp2_with fail;refine dg (λw'=>∃p:Regrown,w'=grow (redrawn m p.d) p.os) [0,1,2] [3] [(true,4),(true,5)] (Qqx (brf.drew)) ?_;simp only[jg]
  repeat(go_big_quiet_step(fail))
  refine Qqz ?_;clear v0 v1 v2 v3 v4 v5 v6 Q c1 c2 c3 c4 c5 c6 l2;refine⟨λj v g m=>g=[]/\v = .string ⟨(pa E).toArray⟩,Qjx ⟨λv g w w' L h=>h,Qjq _⟩,Qjx ⟨λv g w h=>pq,Qjq _⟩,Qjx ⟨?_,Qjq _⟩,?_⟩
  .intro V G m K u hd B;have A:=ae u;refine ai _ rfl ?_;simp only[bw] at B ⊢;go_wp2_with fail;refine(I7 E (by have:=eh.o;omega) m).mono ?_;exact abi
  intro V G m u F hA;have A:=ae u;have hv:=(F 3 vq).2;have H:Bw W0 m:=(ak.o).trans (A.mono (ak.o).size);obtain⟨-,-,-,z,f⟩:=HC.o m H;have zl:=f.lt;have ap:=f.frozen 0;have an:m.cell? ⟨w.heap.size+1+1,0,none⟩=some (.slice none 0 0):=f.k 0;have aq:=f.frozen 1;have zc1:m.cell? ⟨w.heap.size+1+1,1,none⟩=some (.slice none 0 0):=f.k 1;have ar:=f.frozen 2;have zc2:m.cell? ⟨w.heap.size+1+1,2,none⟩=some (.slice none 0 0):=f.k 2;have au:=f.frozen 3;have zc3:m.cell? ⟨w.heap.size+1+1,3,none⟩=some (.slice none 0 0):=f.k 3;have av:=f.frozen 4;have zc4:m.cell? ⟨w.heap.size+1+1,4,none⟩=some (.slice none 0 0):=f.k 4;have aw:=f.frozen 5;have zc5:m.cell? ⟨w.heap.size+1+1,5,none⟩=some (.slice none 0 0):=f.k 5;have az:=f.frozen 6;have ao:m.cell? ⟨w.heap.size+1+1,6,none⟩=some (.slice none 0 0):=f.k 6;have D:=And.intro (s7b f s) (And.intro (s7w (b:=w.heap.size+1+1) z ow s) A);unfold set7 at D;have HF:Hid (_/\_/\_):=D;clear u F hA A D f H z;simp only[bw,hv];refine bu 4 rfl ?_;go_wp2_with fail;refine⟨fw.yes,?_⟩;refine bu 5 rfl ?_;go_wp2_with fail;refine⟨fw.yes,?_⟩;refine NoPanic.normal ?_;clear zl ap an aq zc1 ar zc2 au zc3 av zc4 aw zc5 az ao;go_wp2_with fail;obtain⟨br,bs,S,bt,bv,bx,bz⟩:=dp HF.o.1;refine Xzq (v := .tuple #[s.val,.string ⟨(pa E).toArray⟩]) Xa rfl ?_;exact aog
def xc(e:Int):Ending := .panicked [{ v := .iface 26 (.int .i64 e),recovered:=false }]
theorem ajo{a:List (List UInt8)}{k:Nat}{x:List UInt8}(hx:a[k]?=some x){j:Nat}:(if j=k then Value.int .i64 (ie x) else if j<k then .int .i64 ((a.map ie).getD j 0) else .int .i64 0)=if j<k+1 then .int .i64 ((a.map ie).getD j 0) else .int .i64 0:=by
 by_cases b:j=k
 .subst b;rw[if_pos rfl,if_pos ow];simp[List.getD,hx]
 rw[if_neg b];by_cases c:j<k
 .rw[if_pos c,if_pos ow]
 rw[if_neg c,if_neg ow]
theorem arj(a:Option Addr)(c:Nat)(d:List (List UInt8))(w:World)(g:Gnd w)(h:qx w a d)(hn:d.length<=4097)(hl:∀x∈d,x.length<=4096):
  Calls Tryz.prog 29 #[.slice a d.length c] w λe w' =>
   ((∃l,py d=some l/\e = .returned (.slice (some ⟨w.heap.size,0,none⟩) l.length l.length)/\Blk w' w.heap.size 3 l.length (λj => .int .i64 (l.getD j 0)))\/(py d=none/\e=xc 1))/\Bw w w':=by
 have Q:=qa2 h g;have HL:=hid hl;obtain⟨i0,hi,ac,ad,hz2⟩:=info_parts Y4;clear h hl g;go_enter Tryz.func29,Tryz.ntmps29;go_wp2_with(at_make;refine wpList_make_full _ rfl _ _ 23 rfl w.heap.size 3 i0 (.int .i64 0) 1 Tryz.underlying23 hi ac ad .i64 .i64 _ _ d.length rfl rfl rfl rfl Ju uo nlr ?_;intro w1 B t);obtain⟨gb,c',hv,_,_,_,s⟩:=Blk.ofOwns B vq;simp only[co,Value.slice.injEq] at hv;obtain⟨rfl,-,-⟩:=hv;rw[Nat.mul_one] at s;have F:Hid (Blk w1 w.heap.size 3 d.length (λj=>if j<0 then .int .i64 ((d.map ie).getD j 0) else .int .i64 0)/\(∀x∈d.take 0,ie x ≠ -1)/\Bw w w1):=⟨s.congr (λj S=>afp S),(λx hx=>qm),(Below.refl _ w).grown t nlr Ba⟩;clear s t B
 go_loopw [13] (λT q=>∃k:Nat,k<=d.length/\T = .int .i64 k/\Hid (Blk q w.heap.size 3 d.length (λj=>if j<k then .int .i64 ((d.map ie).getD j 0) else .int .i64 0)/\(∀x∈d.take k,ie x ≠ -1)/\Bw w q)) (λT _=>d.length-(intOf T).toNat)
 case atStart=>exact⟨0,Qxz _,rfl,F⟩
 obtain⟨k,hk,rfl,m⟩:=hrel;clear F;by_cases K:k<d.length;rotate_left
 .have q0:¬(k:Int)<(d.length:Int):=ow;have Y:k=d.length:=ow;subst Y;have L:Hid (py d=some (d.map ie)/\Blk wr w.heap.size 3 (d.map ie).length (λj => .int .i64 ((d.map ie).getD j 0))/\Bw w wr):=by
   have h:=m.o;rw[List.take_length] at h;refine⟨Nc h.2.1,?_,h.2.2⟩;rw[List.length_map];exact h.1.congr λj S=>by rw[if_pos S]
  clear m;go_wp2_with fail;go_ret;refine⟨Or.inl ⟨d.map ie,L.o.1,?_,L.o.2.1⟩,L.o.2.2⟩;rw[List.length_map];rfl
 have q0:(k:Int)<(d.length:Int):=ow;obtain⟨x,hx⟩:∃x,d[k]?=some x:=⟨_,List.getElem?_eq_getElem K⟩;obtain⟨b,o,ha,hb,D⟩:=Q.o.1.below m.o.2.2 k x hx;have A:Hid (d[k]?=some x/\d.take (k+1)=d.take k++[x]/\x∈d/\x.length<=4096):=⟨hx,akz,List.mem_of_getElem? hx,HL.o x (List.mem_of_getElem? hx)⟩;clear hx;subst ha;go_wp2_with fail;refine(ap9 x A.o.2.2.2 _ (Q.o.2.belows m.o.2.2)).mono ?_;rintro e w2 ⟨er,rfl,r⟩;have i:=qa3 (m.o.1.below r) m.o.2.1 (m.o.2.2.trans (r.mono m.o.2.2.size));clear m r hb D;have G:=aqv x;have M:Hid ((H4 x=true/\uz x=ie x/\0<=ie x/\ie x<=999999)\/(H4 x=false/\ie x = -1)):=aiy x;have W:Hid (∀q,Gnd q->Calls Tryz.prog 27 #[.int .i64 (uz x)] q λe w'=>e = .returned (.string ⟨(Lib.itoa (uz x)).toArray⟩)/\Bw q w'):=λq g=>Pw _ G.1 G.2 q g;have v:Hid (H4 x=(inB (uz x) 0 999999&&(Lib.itoa (uz x)==x))):=rfl
 generalize uz x=N at *
 cases J:inB N 0 999999
 .have z:Hid (py d=none):=by
   rcases M.o with h|h
   .have n:=v.o;rw[h.1,J] at n;cases n
   exact Kw A.o.2.2.1 h.2
  go_wp2_with(go_at_call 43;refine ap (dm _ _ _ _) ?_);exact⟨rfl,Or.inr ⟨z.o,rfl⟩,i.o.2.2⟩
 have V:=hid J
 generalize hE:Lib.itoa N=E at *
 go_wp2_with(go_at_call 43;refine ap (dm _ _ _ _) ?_);refine(W.o _ (Q.o.2.belows i.o.2.2)).mono ?_;rintro e w3 ⟨rfl,r⟩;have f:=qa3 (i.o.1.below r) i.o.2.1 (i.o.2.2.trans (r.mono i.o.2.2.size));clear i r;cases H:(E==x)
 .have z:Hid (py d=none):=by
   rcases M.o with h|h
   .have n:=v.o;rw[h.1,H,Bool.and_false] at n;cases n
   exact Kw A.o.2.2.1 h.2
  go_wp2_with fail;exact⟨rfl,Or.inr ⟨z.o,rfl⟩,f.o.2.2⟩
 have X:Hid (N=ie x/\ie x ≠ -1):=by
  rcases M.o with h|h
  .exact⟨h.2.1,ow⟩
  have n:=v.o;rw[h.1,V.o,H] at n;cases n
 have zb:=f.o.1.lt;have zf:=f.o.1.frozen k;have zc:=f.o.1.cell K;simp only[Nat.lt_irrefl,if_false] at zc;have U:Hid (Blk (w3.setCell ⟨w.heap.size,k,none⟩ (.int .i64 N)) w.heap.size 3 d.length (λj=>if j<k+1 then .int .i64 ((d.map ie).getD j 0) else .int .i64 0)/\(∀x∈d.take (k+1),ie x ≠ -1)/\Bw w (w3.setCell ⟨w.heap.size,k,none⟩ (.int .i64 N))):=by
  refine⟨(f.o.1.set k _).congr (λj _=>by rw[X.o.1];exact ajo A.o.1),?_,f.o.2.2.setCell (p:=⟨w.heap.size,k,none⟩) nlr _⟩;intro y u;rw[A.o.2.1] at u;rcases List.mem_append.1 u with u|u
  .exact f.o.2.1 y u
  rw[List.mem_singleton.1 u];exact X.o.2
 clear f;go_wp2_with fail;go_roundw
 case rel=>exact⟨k+1,ow,vo,U⟩
 case measure=>simp[intOf];omega
theorem Rk(w:World):Calls Tryz.prog 63 #[.int .i64 0] w λe w'=>e = .returned (.tuple #[])/\w'=w:=by
 go_enter Tryz.func63,Tryz.ntmps63;go_wp2_with fail
 go_end0
 exact⟨rfl,rfl⟩
theorem afk(n:Int)(h:n≠0)(w:World):Calls Tryz.prog 63 #[.int .i64 n] w λe w'=>e=xc n/\w'=w:=by
 have a:(n !=0)=true:=Hb;go_enter Tryz.func63,Tryz.ntmps63;go_wp2_with fail;exact⟨rfl,rfl,rfl⟩
theorem ai8(a:Option Addr)(c:Nat)(l:List Int)(w:World)(hi:lw w a l.length (λj=>l.getD j 0))(aw:l.length<=6):
  Calls Tryz.prog 55 #[.slice a l.length c] w λe w' =>
   ((l.length%2=0/\∃ls:Hs,e = .returned (.slice ls.a ls.n ls.c)/\ls.n=l.length/2/\ls.z=Ah l/\ct w.heap.size 115 w' ls)\/(l.length%2≠0/\e=xc 1))/\Bw w w':=by
 have M:Hid (∀r,Bw w r->lw r a l.length (λj=>l.getD j 0)):=λr hB=>hi.below hB;obtain⟨iL,aa,ab,ac,ad⟩:=info_parts Ed;clear hi;go_enter Tryz.func55,Tryz.ntmps55;by_cases A:l.length%2=0;rotate_left
 .have x:(l.length:Int)%2=1:=ow;have HN:=hid A;clear A;go_wp2_with fail;exact⟨rfl,Or.inr ⟨HN.o,rfl⟩,Below.refl _ _⟩
 have x:(l.length:Int)%2=0:=ow;have HN:=hid A;clear A;go_wp2_with fail;simp only[x];clear x
 go_loopw [3,4] (λlv J r=>∃(j:Nat) (q:Option Addr) (Y:Nat),2*j<=l.length/\J = .int .i64 ((2*j:Nat):Int)/\lv = .slice q j Y/\Hid (r.ownsRow w.heap.size 115 4 (.slice q j Y) j (ba j (Ah l))/\Bw w r)) (λ_ J _=>l.length-(intOf J).toNat)
 case atStart=>exact⟨0,none,0,Qxz _,rfl,rfl,World.ownsRow_nil _ _ _ _,Below.refl _ _⟩
 obtain⟨j,q,c2,hj,rfl,rfl,k⟩:=hrel;by_cases F:2*j<l.length;rotate_left
 .have q4:¬((2*j:Nat):Int)<(l.length:Int):=ow;have HJ:Hid (l.length=2*j):=by show _=_;omega
  go_wp2_with fail;go_ret;obtain⟨ls,hv,ho,hn1,hz⟩:=ct.ofRow k.o.1 nlr;refine⟨Or.inl ⟨HN.o,ls,?_,ak0,hz,ho⟩,k.o.2⟩;rw[show Value.slice ls.a ls.n ls.c = .slice q j c2 from hv.symm]
  rfl
 obtain⟨b,o,ha,ax,f⟩:=M.o wr k.o.2 (2*j) F;obtain⟨_,_,e1,-,g⟩:=M.o wr k.o.2 (2*j+1) (by have:=HN.o;omega);subst ha;cases e1;have f:wr.cell? ⟨b,o+2*j,none⟩=some (.int .i64 (l.getD (2*j) 0)):=f;have g:wr.cell? ⟨b,o+(2*j+1),none⟩=some (.int .i64 (l.getD (2*j+1) 0)):=g;have HZ:Hid (Ah l j=⟨l.getD (2*j) 0,l.getD (2*j+1) 0,0,0⟩/\2*(j+1)=2*j+2/\2*j+2<=l.length):=⟨rfl,ow,ako⟩;obtain⟨K,H⟩:∃K,2*j=K:=⟨_,rfl⟩;rw[H] at f g HZ ⊢;have q4:(K:Int)<(l.length:Int):=ow;have q5:(K:Int)+1<(l.length:Int):=by have:=HZ.o.2.2;omega
 generalize l.getD K 0=X at *
 generalize l.getD (K+1) 0=T at *
 have Q:=hid H;have az:K<=6:=ow;clear H F hj;have ah:=Qqq f;have ai:=Qqq g;go_wp2_with fail;refine dg (λw'=>∃p:Regrown,w'=grow (redrawn wr p.d) p.os) [0,1,2,3,4,5,6,7,8,9,10] [] [(false,11),(true,12),(true,13)] (Qqx (brf.drew)) ?_;simp only[jg]
 repeat(go_big_quiet_step(fail))
 refine Qqz ?_;clear ah ai f g;refine⟨λ_ _ _ _=>True,Qjq _,Qjq _,Qjq _,λV G wj hS _ _ => ?_⟩;have t:=ae hS;clear hS;obtain⟨y,hW9,v⟩:∃W,wj.alloc (.cells #[.int .i64 X,.int .i64 T,.int .i64 0,.int .i64 0] 115)=W/\Bw wj W:=⟨_,rfl,brf.alloc nlr _⟩;have D:Hid (∀j u,(dt ⟨X,T,0,0⟩)[j]?=some u->y.cell? ((⟨wj.heap.size,0,none⟩:Addr).add j)=some u):=as9;have m:=t.trans (v.mono t.size);have E:=hid hW9;have i:Hid (y.ownsRow w.heap.size 115 4 (.slice q j c2) j (ba j (Ah l))/\Bw w y):=⟨ky k.o.1 m,k.o.2.trans (m.mono k.o.2.size)⟩;have s:=hid i.o.2.size;have B:=hid m;have ay:j<=3:=by have:=Q.o;omega
 clear hW9 v m t k;simp only[dz];refine bu 11 rfl ?_;go_wp2_with fail;rw[E.o];refine⟨fw.no (Qqx B.o),?_⟩;refine bu 12 rfl ?_;go_wp2_with(at_builtin;refine wpList_append_own y rfl (.tmp 16) (.tmp 27) 75 rfl w.heap.size 115 iL (.agg #[.int .i64 0,.int .i64 0,.int .i64 0,.int .i64 0]) 4 32 Tryz.underlying75 aa ab ac ad rfl dc (.slice q j c2) j (ba j (Ah l)) rfl i.o.1 ⟨wj.heap.size,0,none⟩ 1 1 (dt ⟨X,T,0,0⟩) rfl rfl D.o (λu hu=>ast) uo ow s.o ?_);intro v2 w6 L r2 _;obtain⟨U,c3,rfl,-⟩:=wn L;have S:Hid (w6.ownsRow w.heap.size 115 4 (.slice U (j+1) c3) (j+1) (ba (j+1) (Ah l))/\Bw w w6):=by
  refine⟨?_,(zm i.o.1 r2).below i.o.2 nlr s.o⟩;rw[vj,HZ.o.1];exact L
 clear L r2 i D E s B;refine o6 ⟨fw.yes,?_⟩;refine bu 13 rfl ?_;go_wp2_with fail;refine⟨fw.yes,?_⟩;refine NoPanic.normal ?_;go_wp2_with fail;go_roundw
 case rel=>exact⟨j+1,U,c3,akp,by rw[HZ.o.2.1];go_num,rfl,S.o⟩
 case measure=>simp[intOf];omega
end Go.Proofs.YtjgckphgagdpaaaGreatDoor
namespace Go.Proofs.YtjgckphgagdpaaaGreatDoor
open _root_.Go.Proofs.Tryz
open Go.RowKit Go.Shelf Go.Sort Go.ChangeMaps Go.MapKept
def Ev(w:World)(r:Nat)(l:List (List UInt8 × Value)):Prop:=∃es c,w.heap[r]?=some (.map es c)/\es.toList.map (λe=>(e.key,e.val))=l.map λx=>(.string ⟨x.1.toArray⟩,x.2)
theorem Ev.below{w w':World}{r:Nat}{l:List (List UInt8 × Value)}(h:Ev w r l)(e:Bw w w'):Ev w' r l:=by
 obtain⟨b,c,a,d⟩:=h;exact⟨b,c,(e.block r (Qkq a).1).trans a,d⟩
theorem Fi(k:List UInt8):∀(a:List MapEntry) (l:List (List UInt8 × Value)) (i:Nat),a.map (λe=>(e.key,e.val))=l.map (λx=>(.string ⟨x.1.toArray⟩,x.2)) ->
  Instr.findNow .string (.string ⟨k.toArray⟩) a i=some ((l.find? λx=>k==x.1).map λx=>(i+l.findIdx (λy=>k==y.1),x.2))
 | [],[],_,_=>rfl
 | [],_ :: _,_,h=>by cases h
 | _ :: _,[],_,h=>by cases h
 | e :: a,x :: l,i,h=>by
  simp only[List.map_cons,List.cons.injEq,Prod.mk.injEq] at h;obtain⟨⟨b,d⟩,f⟩:=h;have g:=Fi k a l (i+1) f;unfold Instr.findNow;rw[b];have hs:Instr.sameNow .string (.string ⟨k.toArray⟩) (.string ⟨x.1.toArray⟩)=some (k==x.1):=by
   show some ((⟨k.toArray⟩:ByteArray)==⟨x.1.toArray⟩)=_
   congr 1
   rw[Bool.eq_iff_iff,bytes_beq,beq_iff_eq];exact awt
  rw[hs];cases c:(k==x.1)
  .simp only[g,List.find?_cons,c,List.findIdx_cons,cond_false]
   congr 1
   cases List.find? (λx=>k==x.1) l with
   | none=>rfl
   | some y=>simp;omega
  simp[c,List.findIdx_cons,d]
theorem L8:Tryz.prog.underlying 72=some (.map 9 70):=ko
theorem Cd{w:World}{r:Nat}{l:List (List UInt8 × Value)}(h:Ev w r l)(k:List UInt8)(v:Value)(f:l.find? (λx=>k==x.1)=none):
  ∃w',(Instr.mapUpdate 72 (.map (some r)) (.string ⟨k.toArray⟩) v).run Tryz.prog w = .ok () w'/\ta r w w'/\Ev w' r (l++[(k,v)]):=by
 obtain⟨b,c,a,d⟩:=h;have e:=Fi k b.toList l 0 d;rw[f] at e;refine⟨setBlock w r (.map (b.push ⟨.string ⟨k.toArray⟩,v,c⟩) (c+1)),?_,zr _ a,_,_,(heap_set a).1,?_⟩
 .simp[Instr.mapUpdate,run_underlying L8,MapKept.run_getObj_map a,MapKept.run_checkKey (k := .string ⟨k.toArray⟩) Tryz.underlying9 trivial,MapKept.run_findKey Tryz.underlying9 e,MapKept.run_setObj_map _ a,Result.andThen,setBlock]
 rw[Array.toList_push,List.map_append,List.map_append,d]
 rfl
theorem awg{w:World}{r:Nat}{l:List (List UInt8 × Value)}(h:Ev w r l)(k:List UInt8){x:List UInt8 × Value}(f:l.find? (λx=>k==x.1)=some x):
  (Instr.lookup 72 (.map (some r)) (.string ⟨k.toArray⟩) true).run Tryz.prog w = .ok (.tuple #[x.2,.bool true]) w:=by
 obtain⟨b,c,d,e⟩:=h;have a:=Fi k b.toList l 0 e;rw[f] at a;simp[Instr.lookup,run_underlying L8,MapKept.run_getObj_map d,MapKept.run_checkKey (k := .string ⟨k.toArray⟩) Tryz.underlying9 trivial,MapKept.run_findKey Tryz.underlying9 a,Result.andThen]
theorem awh{w:World}{r:Nat}{l:List (List UInt8 × Value)}(h:Ev w r l)(k:List UInt8)(f:l.find? (λx=>k==x.1)=none):
  (Instr.lookup 72 (.map (some r)) (.string ⟨k.toArray⟩) true).run Tryz.prog w = .ok (.tuple #[.agg #[.int .i64 0,.int .i64 0,.nilFunc],.bool false]) w:=by
 obtain⟨b,c,d,e⟩:=h;have a:=Fi k b.toList l 0 e;rw[f] at a;have g:(zeroValue 70).run Tryz.prog w = .ok (.agg #[.int .i64 0,.int .i64 0,.nilFunc]) w:=ko;simp[Instr.lookup,run_underlying L8,MapKept.run_getObj_map d,MapKept.run_checkKey (k := .string ⟨k.toArray⟩) Tryz.underlying9 trivial,MapKept.run_findKey Tryz.underlying9 a,g,Result.andThen]
def Aq:List (List UInt8 × Value):=[(B0,.agg #[.int .i64 3,.int .i64 3,.func (.func 53) #[] #[]]),(Hl,.agg #[.int .i64 2,.int .i64 6,.func (.func 54) #[] #[]]),(B5,.agg #[.int .i64 0,.int .i64 0,.func (.func 56) #[] #[]]),(Dm,.agg #[.int .i64 1,.int .i64 1,.func (.func 57) #[] #[]]),(Ma,.agg #[.int .i64 4,.int .i64 4,.func (.func 58) #[] #[]]),(L9,.agg #[.int .i64 0,.int .i64 0,.func (.func 59) #[] #[]]),(Hm,.agg #[.int .i64 2,.int .i64 2,.func (.func 60) #[] #[]]),(Hk,.agg #[.int .i64 3,.int .i64 3,.func (.func 61) #[] #[]])]
theorem ap3(w:World):Calls Tryz.prog 30 #[] w λe w'=>e = .returned (.map (some w.heap.size))/\Ev w' w.heap.size Aq/\Bw w w':=by
 have G:=run_makeMap (P:=Tryz.prog) 72 w;have b:Ev (w.alloc (.map #[] 0)) w.heap.size []:=⟨#[],0,heap_alloc_new w _,rfl⟩;have a:Bw w (w.alloc (.map #[] 0)):=brf.alloc nlr _
 generalize w.alloc (.map #[] 0)=H at *
 obtain⟨J,x,d,n⟩:=Cd b B0 (.agg #[.int .i64 3,.int .i64 3,.func (.func 53) #[] #[]]) ko;obtain⟨K,y,f,o⟩:=Cd n Hl (.agg #[.int .i64 2,.int .i64 6,.func (.func 54) #[] #[]]) ko;obtain⟨L,z,g,p⟩:=Cd o B5 (.agg #[.int .i64 0,.int .i64 0,.func (.func 56) #[] #[]]) ko;obtain⟨M,A,i,q⟩:=Cd p Dm (.agg #[.int .i64 1,.int .i64 1,.func (.func 57) #[] #[]]) ko;obtain⟨Q,B,j,r⟩:=Cd q Ma (.agg #[.int .i64 4,.int .i64 4,.func (.func 58) #[] #[]]) ko;obtain⟨S,D,k,s⟩:=Cd r L9 (.agg #[.int .i64 0,.int .i64 0,.func (.func 59) #[] #[]]) ko;obtain⟨T,E,l,t⟩:=Cd s Hm (.agg #[.int .i64 2,.int .i64 2,.func (.func 60) #[] #[]]) ko;obtain⟨c,F,m,u⟩:=Cd t Hk (.agg #[.int .i64 3,.int .i64 3,.func (.func 61) #[] #[]]) ko;have v:Hid (Ev c w.heap.size Aq/\Bw w c):=⟨u,(((((((d.trans f).trans g).trans i).trans j).trans k).trans l).trans m).below a nlr⟩;simp only[B0,Hl,B5,Dm,Ma,L9,Hm,Hk] at x y z A B D E F;clear b a d n f o g p i q j r k s l t m u;go_enter Tryz.func30,Tryz.ntmps30;go_wp2_with fail;go_ret;exact⟨rfl,v.o⟩
theorem ap2(k:List UInt8):∃(a b c:Value) (ok:Bool),(∀w r,Ev w r Aq->(Instr.lookup 72 (.map (some r)) (.string ⟨k.toArray⟩) true).run Tryz.prog w = .ok (.tuple #[.agg #[a,b,c],.bool ok]) w) /\
  (ok=true->∃x,Aq.find? (λx=>k==x.1)=some x/\x.2 = .agg #[a,b,c])/\(ok=false->Aq.find? (λx=>k==x.1)=none)/\a.oneCell'=true/\b.oneCell'=true/\c.oneCell'=true:=by
 cases h:Aq.find? (λx=>k==x.1) with
 | none=>exact⟨_,_,_,false,λw r d=>awh d k h,(λe=>En),λ_=>rfl,rfl,rfl,rfl⟩
 | some x =>
  have d:=List.mem_of_find?_eq_some h;have:∃a b c,x.2 = .agg #[a,b,c]/\a.oneCell'=true/\b.oneCell'=true/\c.oneCell'=true:=by
   simp only[Aq,List.mem_cons,List.not_mem_nil,or_false] at d;rcases d with rfl|rfl|rfl|rfl|rfl|rfl|rfl|rfl<;>exact⟨_,_,_,rfl,rfl,rfl,rfl⟩
  obtain⟨a,b,c,f,hc⟩:=this;exact⟨a,b,c,true,(λw r d=>by rw[awg d k h,f]),λ_=>⟨x,rfl,f⟩,(λe=>En),hc⟩
end Go.Proofs.YtjgckphgagdpaaaGreatDoor
namespace Go.Proofs.YtjgckphgagdpaaaGreatDoor
open _root_.Go.Proofs.Tryz
variable{n b A g l c i m q r j R C M u:Nat}{P:Prop}{w a w' d X:World}{s x y:St}{W J K D:Int}{e t:TypeId}{p:Pl}{z H:Nat->Hd}{f O:Nat->Value}{Q:Exit->Act->World->Prop}{v U:Value}{V Y:Hs}{Z E:Int->Int->Int}{h:Hd}{xs:List Value}{S:World->Prop}{z' zs:Nat->Int}{a1:Act}
open Go.RowKit Go.Shelf Go.Sort
def Oh(q:Option Ax)(w:World)(e:Ending)(w':World):Prop :=
 ((∃x y,q=some x/\ux y x/\ct 0 115 w' y.ls/\e = .returned y.val)\/(q=none/\e=xc 1))/\Bw w w'
theorem ajk{s:Hs}(h:ct A e w s)(c:Blk w q t 6 f)(a:e≠t)(b d g i j k:Value):ct A e (Np w q b d g i j k) s:=by
 unfold Np;exact((((((h.other c a 0 b).other (c.set 0 b) a 1 d).other ((c.set 0 b).set 1 d) a 2 g).other (((c.set 0 b).set 1 d).set 2 g) a 3 i).other ((((c.set 0 b).set 1 d).set 2 g).set 3 i) a 4 j).other (((((c.set 0 b).set 1 d).set 2 g).set 3 i).set 4 j) a 5 k)
theorem ayd(a:Option Addr)(c:Nat)(d f g:Int)(w:World)(hi:lw w a 3 (λj=>[d,f,g].getD j 0)):
  Calls Tryz.prog 53 #[.slice a 3 c] w λe w'=>e = .returned (Ax.mk 1 d f 0 g jt).val/\Bw w w':=by
 obtain⟨b,o,rfl,p,i⟩:=hi 0 dc;have r:w.cell? ⟨b,o,none⟩=some (.int .i64 d):=i;obtain⟨_,_,m,-,k⟩:=hi 1 dc;cases m;have c1:w.cell? ⟨b,o+1,none⟩=some (.int .i64 f):=k;obtain⟨_,_,n,-,l⟩:=hi 2 dc;cases n;have c2:w.cell? ⟨b,o+2,none⟩=some (.int .i64 g):=l;have q:=Nat.lt_succ_of_lt p;clear hi i k l;go_enter Tryz.func53,Tryz.ntmps53;go_wp2_with fail
 go_region
 go_wp2_with fail;refine Xzq (v:=(Ax.mk 1 d f 0 g jt).val) (by simp[results,Tryz.results53,go_sem,Ax.val,Ax.cells,jt]) rfl ?_;exact⟨rfl,brf.alloc nlr _ |>.drew⟩
theorem ayf(a:Option Addr)(c:Nat)(w:World):
  Calls Tryz.prog 56 #[.slice a 0 c] w λe w'=>e = .returned (Ax.mk 3 0 0 0 0 jt).val/\Bw w w':=by
 go_enter Tryz.func56,Tryz.ntmps56;go_wp2_with fail;refine Xzq (v:=(Ax.mk 3 0 0 0 0 jt).val) (by simp[results,Tryz.results56,go_sem,Ax.val,Ax.cells,jt]) rfl ?_;exact Er
theorem ayg(a:Option Addr)(c:Nat)(d:Int)(w:World)(hi:lw w a 1 (λj=>[d].getD j 0)):
  Calls Tryz.prog 57 #[.slice a 1 c] w λe w'=>e = .returned (Ax.mk 4 d 0 0 0 jt).val/\Bw w w':=by
 obtain⟨b,o,rfl,g,f⟩:=hi 0 dc;have k:w.cell? ⟨b,o,none⟩=some (.int .i64 d):=f;have i:=Nat.lt_succ_of_lt g;clear hi f;go_enter Tryz.func57,Tryz.ntmps57;go_wp2_with fail;refine Xzq (v:=(Ax.mk 4 d 0 0 0 jt).val) (by simp[results,Tryz.results57,go_sem,Ax.val,Ax.cells,jt]) rfl ?_;exact Er
theorem ayh(a:Option Addr)(c:Nat)(d f g i:Int)(w:World)(hi:lw w a 4 (λj=>[d,f,g,i].getD j 0)):
  Calls Tryz.prog 58 #[.slice a 4 c] w λe w'=>e = .returned (Ax.mk 5 d f g i jt).val/\Bw w w':=by
 obtain⟨b,o,rfl,s,k⟩:=hi 0 dc;have u:w.cell? ⟨b,o,none⟩=some (.int .i64 d):=k;obtain⟨_,_,p,-,l⟩:=hi 1 dc;cases p;have c1:w.cell? ⟨b,o+1,none⟩=some (.int .i64 f):=l;obtain⟨_,_,q,-,m⟩:=hi 2 dc;cases q;have c2:w.cell? ⟨b,o+2,none⟩=some (.int .i64 g):=m;obtain⟨_,_,r,-,n⟩:=hi 3 dc;cases r;have c3:w.cell? ⟨b,o+3,none⟩=some (.int .i64 i):=n;have t:=Nat.lt_succ_of_lt s;clear hi k l m n;go_enter Tryz.func58,Tryz.ntmps58;go_wp2_with fail
 go_region
 go_wp2_with fail;refine Xzq (v:=(Ax.mk 5 d f g i jt).val) (by simp[results,Tryz.results58,go_sem,Ax.val,Ax.cells,jt]) rfl ?_;exact⟨rfl,brf.alloc nlr _ |>.drew⟩
theorem ayi(a:Option Addr)(c:Nat)(w:World):
  Calls Tryz.prog 59 #[.slice a 0 c] w λe w'=>e = .returned (Ax.mk 6 0 0 0 0 jt).val/\Bw w w':=by
 go_enter Tryz.func59,Tryz.ntmps59;go_wp2_with fail;refine Xzq (v:=(Ax.mk 6 0 0 0 0 jt).val) (by simp[results,Tryz.results59,go_sem,Ax.val,Ax.cells,jt]) rfl ?_;exact Er
theorem ayj(a:Option Addr)(c:Nat)(d f:Int)(w:World)(hi:lw w a 2 (λj=>[d,f].getD j 0)):
  Calls Tryz.prog 60 #[.slice a 2 c] w λe w'=>e = .returned (Ax.mk 7 d 0 0 f jt).val/\Bw w w':=by
 obtain⟨b,o,rfl,l,g⟩:=hi 0 dc;have n:w.cell? ⟨b,o,none⟩=some (.int .i64 d):=g;obtain⟨_,_,k,-,i⟩:=hi 1 dc;cases k;have c1:w.cell? ⟨b,o+1,none⟩=some (.int .i64 f):=i;have m:=Nat.lt_succ_of_lt l;clear hi g i;go_enter Tryz.func60,Tryz.ntmps60;go_wp2_with fail
 go_region
 go_wp2_with fail;refine Xzq (v:=(Ax.mk 7 d 0 0 f jt).val) (by simp[results,Tryz.results60,go_sem,Ax.val,Ax.cells,jt]) rfl ?_;exact⟨rfl,brf.alloc nlr _ |>.drew⟩
theorem ayk(a:Option Addr)(c:Nat)(d f g:Int)(w:World)(hi:lw w a 3 (λj=>[d,f,g].getD j 0)):
  Calls Tryz.prog 61 #[.slice a 3 c] w λe w'=>e = .returned (Ax.mk 8 d f 0 g jt).val/\Bw w w':=by
 obtain⟨b,o,rfl,p,i⟩:=hi 0 dc;have r:w.cell? ⟨b,o,none⟩=some (.int .i64 d):=i;obtain⟨_,_,m,-,k⟩:=hi 1 dc;cases m;have c1:w.cell? ⟨b,o+1,none⟩=some (.int .i64 f):=k;obtain⟨_,_,n,-,l⟩:=hi 2 dc;cases n;have c2:w.cell? ⟨b,o+2,none⟩=some (.int .i64 g):=l;have q:=Nat.lt_succ_of_lt p;clear hi i k l;go_enter Tryz.func61,Tryz.ntmps61;go_wp2_with fail
 go_region
 go_wp2_with fail;refine Xzq (v:=(Ax.mk 8 d f 0 g jt).val) (by simp[results,Tryz.results61,go_sem,Ax.val,Ax.cells,jt]) rfl ?_;exact⟨rfl,brf.alloc nlr _ |>.drew⟩
theorem aye(a:Option Addr)(c:Nat)(l:List Int)(w:World)(hi:j7 w a l)(i:2<=l.length/\l.length<=6):
  Calls Tryz.prog 54 #[.slice a l.length c] w λe w'=>Oh (tn 2 l) w e w':=by
 have q:Hid ((l.length%2=0->tn 2 l=some ⟨2,0,0,0,0,⟨none,l.length/2,0,Ah l⟩⟩)/\(l.length%2≠0->tn 2 l=none)):=⟨λh=>by unfold tn;rw[if_neg dc,if_pos rfl,if_pos ⟨h,i⟩],λh=>by unfold tn;rw[if_neg dc,if_pos rfl,if_neg λE=>h E.1]⟩;have d:Hid (Bw w (w.alloc (.cells #[.int .i64 0,.int .i64 0,.int .i64 0,.int .i64 0,.int .i64 0,.slice none 0 0] 77))/\Blk (w.alloc (.cells #[.int .i64 0,.int .i64 0,.int .i64 0,.int .i64 0,.int .i64 0,.slice none 0 0] 77)) w.heap.size 77 6 (λj=>(#[.int .i64 0,.int .i64 0,.int .i64 0,.int .i64 0,.int .i64 0,.slice none 0 0]:Array Value).getD j default)):=⟨brf.alloc nlr _,Blk.mk' rfl rfl⟩;have p:=qa2 hi i.2
 generalize hW:w.alloc (.cells #[.int .i64 0,.int .i64 0,.int .i64 0,.int .i64 0,.int .i64 0,.slice none 0 0] 77)=W at *
 have D:Hid (w.alloc (.cells #[.int .i64 0,.int .i64 0,.int .i64 0,.int .i64 0,.int .i64 0,.slice none 0 0] 77)=W):=hW;clear hi i hW;go_enter Tryz.func54,Tryz.ntmps54;go_wp2_with fail;rw[D.o];refine(ai8 a c l W (p.o.1.below d.o.1) p.o.2).mono ?_;rintro e w1 ⟨⟨g,ls,rfl,z,B,A⟩|⟨g,rfl⟩,m⟩;rotate_left
 .have HF:=qa2 (q.o.2 g) (d.o.1.trans (m.mono d.o.1.size));clear g m;exact aor
 have b:=d.o.2.below m;have Q:=b.lt;have G:=b.frozen 0;have F:=b.k 0;have H:=b.frozen 1;have zc1:=b.k 1;have J:=b.frozen 2;have zc2:=b.k 2;have K:=b.frozen 3;have zc3:=b.k 3;have L:=b.frozen 4;have zc4:=b.k 4;have M:=b.frozen 5;have zc5:=b.k 5;have f:=And.intro (Qb b (.int .i64 2) (.int .i64 0) (.int .i64 0) (.int .i64 0) (.int .i64 0) (.slice ls.a ls.n ls.c)) (And.intro (Lo (d.o.1.trans (m.mono d.o.1.size)) nlr (.int .i64 2) (.int .i64 0) (.int .i64 0) (.int .i64 0) (.int .i64 0) (.slice ls.a ls.n ls.c)) (ajk (A.mono (Qxz _)) b dc (.int .i64 2) (.int .i64 0) (.int .i64 0) (.int .i64 0) (.int .i64 0) (.slice ls.a ls.n ls.c)));unfold Np at f;have HF:Hid (_/\_/\_):=f;have o:=qa3 z B g;clear f b z B A g m;go_wp2_with fail;have r:=HF.o.1.k 0;have s:=HF.o.1.k 1;have t:=HF.o.1.k 2;have u:=HF.o.1.k 3;have x:=HF.o.1.k 4;have y:=HF.o.1.k 5;refine Xzq (v:=(Ax.mk 2 0 0 0 0 ls).val) (by simp[results,Tryz.results54,go_sem,Ax.val,Ax.cells,r,s,t,u,x,y]) rfl ?_;exact⟨Or.inl ⟨_,⟨2,0,0,0,0,ls⟩,q.o.1 o.o.2.2,⟨rfl,rfl,rfl,rfl,rfl,o.o.1,λj _=>by rw[o.o.2.1]⟩,HF.o.2.2,rfl⟩,HF.o.2.1⟩
theorem D7(K:Nat)(lo hi:Int)(a:Option Addr)(c:Nat)(l:List Int)(w:World)(q:Option Ax)(G:∀wk,(callFunc K #[.slice a l.length c]).run Tryz.prog wk = .ok (.enter K #[.slice a l.length c]) wk)(F:¬(lo<=l.length/\(l.length:Int)<=hi)->q=none)
  (E:lo<=l.length/\(l.length:Int)<=hi->∀wk,Bw w wk->Calls Tryz.prog K #[.slice a l.length c] wk λe w'=>Oh q wk e w') :
  Calls Tryz.prog 32 #[.agg #[.int .i64 lo,.int .i64 hi,.func (.func K) #[] #[]],.slice a l.length c] w λe w'=>Oh q w e w':=by
 have L:Hid (inB l.length lo hi=false->q=none):=λh=>F (M9 h);have J:Hid (inB l.length lo hi=true->∀wk,Bw w wk->Calls Tryz.prog K #[.slice a l.length c] wk λe w'=>Oh q wk e w'):=λh=>E (ar h);clear F E;go_enter Tryz.func32,Tryz.ntmps32;cases D:inB l.length lo hi
 .have M:Hid (q=none):=L.o D;go_wp2_with(go_at_call 43;refine ap (dm _ _ _ _) ?_);exact⟨rfl,Or.inr ⟨M.o,rfl⟩,dx _ _ _⟩
 have H:Hid (_):=J.o D;have f:Hid (Bw w ((w.alloc (.cells #[.int .i64 lo,.int .i64 hi,.func (.func K) #[] #[]] 70)).alloc (.cells #[.int .i64 0,.int .i64 0,.int .i64 0,.int .i64 0,.int .i64 0,.slice none 0 0] 77))/\Blk ((w.alloc (.cells #[.int .i64 lo,.int .i64 hi,.func (.func K) #[] #[]] 70)).alloc (.cells #[.int .i64 0,.int .i64 0,.int .i64 0,.int .i64 0,.int .i64 0,.slice none 0 0] 77)) (w.heap.size+1) 77 6 (λj=>(#[.int .i64 0,.int .i64 0,.int .i64 0,.int .i64 0,.int .i64 0,.slice none 0 0]:Array Value).getD j default)):=⟨dx _ _ _,Blk.mk' (cur:=#[.int .i64 0,.int .i64 0,.int .i64 0,.int .i64 0,.int .i64 0,.slice none 0 0]) vq rfl⟩;obtain⟨W,r⟩:∃W,(w.alloc (.cells #[.int .i64 lo,.int .i64 hi,.func (.func K) #[] #[]] 70)).alloc (.cells #[.int .i64 0,.int .i64 0,.int .i64 0,.int .i64 0,.int .i64 0,.slice none 0 0] 77)=W:=⟨_,rfl⟩;have Q:Hid ((w.alloc (.cells #[.int .i64 lo,.int .i64 hi,.func (.func K) #[] #[]] 70)).alloc (.cells #[.int .i64 0,.int .i64 0,.int .i64 0,.int .i64 0,.int .i64 0,.slice none 0 0] 77)=W):=r;rw[r] at f;clear r;go_wp2_with(go_at_call 43;refine ap (dm _ _ _ _) ?_);rw[Q.o];refine(H.o W f.o.1).mono ?_;rintro e w1 ⟨⟨x,y,m,p,o,rfl⟩|⟨m,rfl⟩,i⟩;rotate_left
 .have HF:=qa2 m (f.o.1.trans (i.mono f.o.1.size));clear m i;exact aor
 have d:=f.o.2.below i;have zl:=d.lt;have T:=d.frozen 0;have S:=d.k 0;have U:=d.frozen 1;have zc1:=d.k 1;have V:=d.frozen 2;have zc2:=d.k 2;have X:=d.frozen 3;have zc3:=d.k 3;have Y:=d.frozen 4;have zc4:=d.k 4;have aa:=d.frozen 5;have zc5:=d.k 5;have g:=And.intro (Qb d (.int .i64 y.k) (.int .i64 y.a) (.int .i64 y.b) (.int .i64 y.c) (.int .i64 y.n) (.slice y.ls.a y.ls.n y.ls.c)) (And.intro (Lo (f.o.1.trans (i.mono f.o.1.size)) (Nat.le_succ _) (.int .i64 y.k) (.int .i64 y.a) (.int .i64 y.b) (.int .i64 y.c) (.int .i64 y.n) (.slice y.ls.a y.ls.n y.ls.c)) (And.intro m (And.intro p (ajk o d dc (.int .i64 y.k) (.int .i64 y.a) (.int .i64 y.b) (.int .i64 y.c) (.int .i64 y.n) (.slice y.ls.a y.ls.n y.ls.c)))));unfold Np at g;have HF:Hid (_/\_/\_/\_/\_):=g;clear g d m p o i;simp only[Ax.val,Ax.cells];go_wp2_with fail;have s:=HF.o.1.k 0;have t:=HF.o.1.k 1;have u:=HF.o.1.k 2;have z:=HF.o.1.k 3;have A:=HF.o.1.k 4;have B:=HF.o.1.k 5;refine Xzq (v:=y.val) (by simp[results,Tryz.results32,go_sem,Ax.val,Ax.cells,s,t,u,z,A,B]) rfl ?_;exact⟨Or.inl ⟨x,y,HF.o.2.2.1,HF.o.2.2.2.1,HF.o.2.2.2.2,rfl⟩,HF.o.2.1⟩
theorem Dg(w:World):ct 0 115 w jt:=ct.nil _ _ _ _
theorem aq0(t:List UInt8)(a:Option Addr)(c:Nat)(l:List Int)(w:World)(hi:j7 w a l)(x:List UInt8 × Value)(hx:Aq.find? (λx=>t==x.1)=some x):
  Calls Tryz.prog 32 #[x.2,.slice a l.length c] w λe w'=>Oh (tn (j5 t) l) w e w':=by
 rcases C1 t with⟨rfl,d⟩|⟨rfl,d⟩|⟨rfl,d⟩|⟨rfl,d⟩|⟨rfl,d⟩|⟨rfl,d⟩|⟨rfl,d⟩|⟨rfl,d⟩|⟨rfl,d⟩|⟨rfl,d⟩|⟨rfl,d⟩|⟨rfl,d⟩|⟨rfl,d⟩|⟨m,n2,n,o,p,q,r,s,A,u,v,y,z,d⟩
 .rw[d];cases hx;refine D7 53 3 3 a c l w (tn 1 l) (λb=>ko) (λh=>asi) λh b i => ?_;have h:l.length=3:=ow;obtain⟨f,g,j,rfl⟩:∃f g j,l=[f,g,j]:=⟨_,_,_, mf l 3 h⟩;exact(ayd a c f g j b (hi.below i)).mono λe w' h=>⟨Or.inl ⟨_,_,rfl,ux.self _,Dg _,h.1⟩,h.2⟩
 .rw[d];cases hx;refine D7 54 2 6 a c l w (tn 2 l) (λb=>ko) (λh=>by show(if l.length%2=0/\2<=l.length/\l.length<=6 then _ else none)=none;exact if_neg ow) λh b i => ?_;exact aye a c l b (hi.below i) ow
 .rw[d];cases hx;refine D7 56 0 0 a c l w (tn 3 l) (λb=>ko) (λh=>asj) λh b i => ?_;have h:l.length=0:=ow;obtain rfl:l=[]:=List.eq_nil_of_length_eq_zero h;exact(ayf a c b).mono λe w' h=>⟨Or.inl ⟨_,_,rfl,ux.self _,Dg _,h.1⟩,h.2⟩
 .rw[d];cases hx;refine D7 57 1 1 a c l w (tn 4 l) (λb=>ko) (λh=>by show(if l.length=1 then _ else none)=none;exact if_neg ow) λh b i => ?_;have h:l.length=1:=ow;obtain⟨f,rfl⟩:∃f,l=[f]:=⟨_, mf l 1 h⟩;exact(ayg a c f b (hi.below i)).mono λe w' h=>⟨Or.inl ⟨_,_,rfl,ux.self _,Dg _,h.1⟩,h.2⟩
 .rw[d];cases hx;refine D7 58 4 4 a c l w (tn 5 l) (λb=>ko) (λh=>by show(if l.length=4 then _ else none)=none;exact if_neg ow) λh b i => ?_;have h:l.length=4:=ow;obtain⟨f,g,j,k,rfl⟩:∃f g j k,l=[f,g,j,k]:=⟨_,_,_,_, mf l 4 h⟩;exact(ayh a c f g j k b (hi.below i)).mono λe w' h=>⟨Or.inl ⟨_,_,rfl,ux.self _,Dg _,h.1⟩,h.2⟩
 .rw[d];cases hx;refine D7 59 0 0 a c l w (tn 6 l) (λb=>ko) (λh=>asj) λh b i => ?_;have h:l.length=0:=ow;obtain rfl:l=[]:=List.eq_nil_of_length_eq_zero h;exact(ayi a c b).mono λe w' h=>⟨Or.inl ⟨_,_,rfl,ux.self _,Dg _,h.1⟩,h.2⟩
 .rw[d];cases hx;refine D7 60 2 2 a c l w (tn 7 l) (λb=>ko) (λh=>by show(if l.length=2 then _ else none)=none;exact if_neg ow) λh b i => ?_;have h:l.length=2:=ow;obtain⟨f,g,rfl⟩:∃f g,l=[f,g]:=⟨_,_, mf l 2 h⟩;exact(ayj a c f g b (hi.below i)).mono λe w' h=>⟨Or.inl ⟨_,_,rfl,ux.self _,Dg _,h.1⟩,h.2⟩
 .rw[d];cases hx;refine D7 61 3 3 a c l w (tn 8 l) (λb=>ko) (λh=>asi) λh b i => ?_;have h:l.length=3:=ow;obtain⟨f,g,j,rfl⟩:∃f g j,l=[f,g,j]:=⟨_,_,_, mf l 3 h⟩;exact(ayk a c f g j b (hi.below i)).mono λe w' h=>⟨Or.inl ⟨_,_,rfl,ux.self _,Dg _,h.1⟩,h.2⟩
 .cases hx
 .cases hx
 .cases hx
 .cases hx
 .cases hx
 simp[Aq,m,n2,n,o,p,q,r,s] at hx
theorem aqs(t:List UInt8):Aq.find? (λx=>t==x.1)=none->j5 t=0\/9<=j5 t:=by
 intro hx;rcases C1 t with⟨rfl,a⟩|⟨rfl,a⟩|⟨rfl,a⟩|⟨rfl,a⟩|⟨rfl,a⟩|⟨rfl,a⟩|⟨rfl,a⟩|⟨rfl,a⟩|⟨rfl,a⟩|⟨rfl,a⟩|⟨rfl,a⟩|⟨rfl,a⟩|⟨rfl,a⟩|⟨f,n2,g,h,i,j,k,l,m,b,c,d,e,a⟩
 all_goals first|(cases hx;done)|omega
structure tu(A:Nat)(w wk:World):Prop where
 bel:Below A w wk
 typ:∀q t m f,t≠9->t≠103->Blk w q t m f->Blk wk q t m f
theorem tu.refl(A:Nat)(w:World):tu A w w:=⟨Below.refl _ _,λ_ _ _ _ _ _ h=>h⟩
theorem tu.trans{b c:World}(h:tu A a b)(k:tu A b c):tu A a c:=⟨h.bel.trans k.bel,λq t m f d e g=>k.typ q t m f d e (h.typ q t m f d e g)⟩
theorem tu.of(h:Bw w w')(hA:A<=w.heap.size):tu A w w':=⟨h.mono hA,λq t m f _ _ a=>a.below h⟩
structure mr(A R:Nat)(w:World)(a:Option Addr)(n c:Nat)(L:List (List UInt8)):Prop where
 blk:Blk w R 103 1 (λ_ => .slice a n c)
 own:w.ownsRow A 9 1 (.slice a n c) n (xd L)
 len:n=L.length
 low:A<=R
theorem mr.below{a:Option Addr}{L:List (List UInt8)}(h:mr A R w a n c L)(b:Bw w w'):mr A R w' a n c L:=⟨h.blk.below b,ky h.own b,h.len,h.low⟩
structure aeo(A R:Nat)(wr:World)(D:Nat->Value)(a:Option Addr)(n c:Nat)(L:List (List UInt8))(X:List UInt8)(dn:Nat->Bool)(V:Nat->Value)(w:World):Prop where
 val:∀j,j<7\/j=9\/j=10->dn j=true->V j=D j
 c8:dn 8=true->dn 4=true/\dn 6=true/\dn 7=true
 c11:dn 11=true->dn 8=true
 w1:dn 8=false->Bw wr w
 w7:dn 8=false->dn 7=true->dn 6=true/\∃B,V 7 = .slice (some ⟨B,0,none⟩) 1 1/\wr.heap.size<=B/\Blk w B 9 1 (λ_ => .string ⟨X.toArray⟩)
 w8:dn 8=true->∃a2 c3,V 8 = .slice a2 (n+1) c3/\w.ownsRow A 9 1 (.slice a2 (n+1) c3) (n+1) (xd (L++[X]))/\tu A wr w/\(dn 11=false->Blk w R 103 1 (λ_ => .slice a n c))/\(dn 11=true->Blk w R 103 1 (λ_ => .slice a2 (n+1) c3))
section
variable {A R:Nat} {wr w:World} {D:Nat->Value} {a:Option Addr} {n c:Nat} {L:List (List UInt8)} {X:List UInt8} {dn:Nat->Bool} {V:Nat->Value}
theorem aeo.put(h:aeo A R wr D a n c L X dn V w)(hi:i<7\/i=9\/i=10)(hv:v=D i)(d:w'=w\/(dn 8=false/\Bw w w')):aeo A R wr D a n c L X (pu dn i) (upd V i v) w':=by
 have e7:¬7=i:=ow;have b:¬8=i:=ow;have e:¬11=i:=ow;have f:dn 8=false->Bw w w':=λh8=>by
  rcases d with rfl|d
  .exact Below.refl _ _
  exact d.2
 have up:∀j,dn j=true->pu dn i j=true:=λj hj=>by
  by_cases c:j=i
  .exact Bc
  rw[az c];exact hj
 refine⟨λj hj hd => ?_,?_,?_,?_,?_,?_⟩
 .exact ank
 .rw[az b];exact λh8=>⟨up 4 (h.c8 h8).1,up 6 (h.c8 h8).2.1,up 7 (h.c8 h8).2.2⟩
 .rw[az b,az e];exact h.c11
 .rw[az b];exact λh8=>(h.w1 h8).trans ((f h8).mono (h.w1 h8).size)
 .rw[az b,az e7,fo V v e7];intro h8 k;obtain⟨g,B,b1,b2,b3⟩:=h.w7 h8 k;exact⟨up 6 g,B,b1,b2,b3.below (f h8)⟩
 rw[az b,az e,fo V v b];intro h8;rcases d with rfl|d
 .exact h.w8 h8
 rw[d.1] at h8;cases h8
end
theorem Zp(A R:Nat)(an:Option Addr)(cn:Nat)(l:List Int)(a:Option Addr)(n c:Nat)(L:List (List UInt8))(w:World)(g:Gnd w)(h8:8<=A)(hA:A<=w.heap.size)(hr:mr A R w a n c L)
  (hi:∀i,tu A w i->j7 i an l) (hb:∀x∈l,-9223372036854775808<=x/\x<=9223372036854775807) (y:n+l.length<=100000) :
  Calls Tryz.prog 66 #[.pointer (some ⟨R,0,none⟩),.slice an l.length cn] w λe w'=>e = .returned (.tuple #[])/\(∃z n' E,mr A R w' z n' E (L++l.map Lib.itoa))/\tu A w w':=by
 have HI:=hid hi;have HG:=qa6 g h8 hA hb y hr.len;have HR:=hid hr;obtain⟨iI,bs,bt,bu,bv⟩:=info_parts ad3;clear hi g h8 hA hb hr;go_enter Tryz.func66,Tryz.ntmps66;go_wp2_with fail
 go_loopw [8] (λkv i=>∃(k:Nat) (z:Option Addr) (E:Nat),k<=l.length/\kv = .int .i64 k/\Hid (mr A R i z (n+k) E (L++(l.take k).map Lib.itoa)/\tu A w i)) (λkv _=>l.length-(intOf kv).toNat)
 case atStart=>exact⟨0,a,c,Qxz _,rfl,by rw[Qyz,List.map_nil,List.append_nil];exact HR.o,tu.refl _ _⟩
 obtain⟨k,z,E,hk,rfl,G⟩:=hrel;by_cases a1:k<l.length;rotate_left
 .have q4:¬(k:Int)<(l.length:Int):=ow;have b0:k=l.length:=ow;subst b0;go_wp2_with fail
  go_end0
  have h:=G.o;rw[List.take_length] at h;exact⟨rfl,⟨z,_,E,h.1⟩,h.2⟩
 have q4:(k:Int)<(l.length:Int):=ow;obtain⟨b,o,ha,bz,am⟩:=HI.o wr G.o.2 k a1;subst ha;obtain⟨X,hX⟩:∃X,l.getD k 0=X:=⟨_,rfl⟩;have bl:wr.cell? ⟨b,o+k,none⟩=some (.int .i64 X):=by rw[<-hX];exact am
 clear am;have HX:Hid (l.take (k+1)=l.take k++[X] /\ -9223372036854775808<=X/\X<=9223372036854775807):=by
  have W:l[k]?=some X:=by rw[<-hX];simp[List.getD,List.getElem?_eq_getElem a1]
  exact⟨by rw[List.take_add_one,W];rfl,HG.o.2.2.2.1 X (List.mem_of_getElem? W)⟩
 have r0:wr.cell? ⟨R,0,none⟩=some (.slice z (n+k) E):=G.o.1.blk.k 0;have rl:=G.o.1.blk.lt;clear hX;go_wp2_with fail
 /- REGION -/
 obtain⟨S,hS⟩:∃S,Lib.itoa X=S:=⟨_,rfl⟩;have bn:Hid (∀i,Gnd i->Calls Tryz.prog 27 #[.int .i64 X] i λe w'=>e = .returned (.string ⟨S.toArray⟩)/\Bw i w'):=by
  rw[<-hS];exact λi g=>Pw _ HX.o.2.1 HX.o.2.2 i g
 have ap:Hid ((L++(l.take k).map Lib.itoa)++[S]=L++(l.take (k+1)).map Lib.itoa):=by
  show _=_;rw[HX.o.1,List.map_append,List.append_assoc,<-hS]
  rfl
 clear hS HX bl r0 rl bz;obtain⟨DV,hd0,ar,au,av,aw,ax,ay,a0,ag⟩:∃D:Nat->Value,D 0 = .pointer (some ⟨R,0,none⟩)/\D 1 = .pointer (some ⟨R,0,none⟩)/\D 2 = .pointer (some ⟨R,0,none⟩)/\D 3 = .pointer (some ⟨R,0,none⟩)/\D 4 = .slice z (n+k) E/\D 5 = .int .i64 X/\D 6 = .string ⟨S.toArray⟩/\D 9 = .pointer (some ⟨R,0,none⟩)/\D 10 = .pointer (some ⟨R,0,none⟩):=⟨λj=>if j=4 then .slice z (n+k) E else if j=5 then .int .i64 X else if j=6 then .string ⟨S.toArray⟩ else .pointer (some ⟨R,0,none⟩),rfl,rfl,rfl,rfl,rfl,rfl,rfl,rfl,rfl⟩;have D0:Hid (DV 0 = .pointer (some ⟨R,0,none⟩)):=hd0;have D1:=hid ar;have D2:=hid au;have D3:=hid av;have D4:=hid aw;have D5:=hid ax;have D6:=hid ay;have D9:=hid a0;have ae:=hid ag;clear hd0 ar au av aw ax ay a0 ag;have ck:n+k+1<=100000:=by have:=HG.o.2.2.2.2.1;omega
 refine Ez [0,1,2,3,4,5,6,7,8,9,10,11] ko ko ko ko (aeo A R wr DV z (n+k) E (L++(l.take k).map Lib.itoa) S) (λs V aa => ?_) ?_ ?_
 .have f8:¬s 8=true:=λh=>by rw[aa 8 vq] at h;cases h
  have T:¬s 11=true:=λh=>by rw[aa 11 vq] at h;cases h
  exact⟨λj F h=>(by rw[aa j oq] at h;cases h),λh=>absurd h f8,λh=>absurd h T,λ_=>brf.drew,λ_ h=>(by rw[aa 7 vq] at h;cases h),λh=>absurd h f8⟩
 rotate_left
 .intro s V i hd d;obtain⟨H,c3,g1,g2,g3,-,g5⟩:=d.w8 (hd 8 vq);obtain⟨-,-⟩:=d.c8 (hd 8 vq);have e0:=(d.val 0 dc (hd 0 vq)).trans D0.o;have e1:=(d.val 1 dc (hd 1 vq)).trans D1.o;have e2:=(d.val 2 dc (hd 2 vq)).trans D2.o;have e3:=(d.val 3 dc (hd 3 vq)).trans D3.o;have e4:=(d.val 4 dc (hd 4 vq)).trans D4.o;have e5:=(d.val 5 dc (hd 5 vq)).trans D5.o;have e6:=(d.val 6 dc (hd 6 vq)).trans D6.o;have e9:=(d.val 9 dc (hd 9 vq)).trans D9.o;have e10:=(d.val 10 dc (hd 10 vq)).trans ae.o;have HF:Hid (mr A R i H (n+(k+1)) c3 (L++(l.take (k+1)).map Lib.itoa)/\tu A w i):=by
   rw[ap.o] at g2;refine⟨⟨(g5 (hd 11 vq)),g2,?_,G.o.1.low⟩,G.o.2.trans g3⟩;rw[<-ap.o,List.length_append,<-G.o.1.len]
   rfl
  clear d g2 g3 g5;simp only[bw,e0,e1,e2,e3,e4,e5,e6,e9,e10,g1];refine NoPanic.normal ?_;go_wp2_with fail;exact⟨⟨k+1,H,c3,ow,vo,HF⟩,Cy⟩
 refine Qjx ⟨?_,Qjx ⟨?_,Qjx ⟨?_,Qjx ⟨?_,Qjx ⟨?_,Qjx ⟨?_,Qjx ⟨?_,Qjx ⟨?_,Qjx ⟨?_,Qjx ⟨?_,Qjx ⟨?_,Qjx ⟨?_,Qjq _⟩⟩⟩⟩⟩⟩⟩⟩⟩⟩⟩⟩
 .intro s V i K y hd d v;have r:=hid d;clear d;refine ai _ rfl ?_;simp only[bw] at v ⊢;go_wp2_with fail;exact r.o.put dc D0.o.symm (Or.inl rfl)
 .intro s V i K y hd d v;have r:=hid d;clear d;refine ai _ rfl ?_;simp only[bw] at v ⊢;go_wp2_with fail;exact r.o.put dc D1.o.symm (Or.inl rfl)
 .intro s V i K y hd d v;have e1:V 1 = .pointer (some ⟨R,0,none⟩):=(d.val 1 dc (hd 1 (Qjz ko) vq)).trans D1.o;have r:=hid d;clear d;refine ai _ rfl ?_;simp only[bw,e1] at v ⊢;go_wp2_with fail;exact r.o.put dc D2.o.symm (Or.inl rfl)
 .intro s V i K y hd d v;have e2:V 2 = .pointer (some ⟨R,0,none⟩):=(d.val 2 dc (hd 2 (Qjz ko) vq)).trans D2.o;have r:=hid d;clear d;refine ai _ rfl ?_;simp only[bw,e2] at v ⊢;go_wp2_with fail;exact r.o.put dc D3.o.symm (Or.inl rfl)
 .intro s V i K y hd d v;have e3:V 3 = .pointer (some ⟨R,0,none⟩):=(d.val 3 dc (hd 3 (Qjz ko) vq)).trans D3.o;have Q:s 8=false:=by
   cases h:s 8
   .rfl
   rw[(d.c8 h).1] at y;cases y
  have M:=G.o.1.blk.below (d.w1 Q);have zc:i.cell? ⟨R,0,none⟩=some (.slice z (n+k) E):=M.k 0;have zl:=M.lt;have r:=hid d;clear d M;refine ai _ rfl ?_;simp only[bw,e3] at v ⊢;go_wp2_with fail;exact r.o.put dc D4.o.symm (Or.inl rfl)
 .intro s V i K y hd d v;have r:=hid d;clear d;refine ai _ rfl ?_;simp only[bw] at v ⊢;go_wp2_with fail;exact r.o.put dc D5.o.symm (Or.inl rfl)
 .intro s V i K y hd d v;have e5:V 5 = .int .i64 X:=(d.val 5 dc (hd 5 (Qjz ko) vq)).trans D5.o;have Q:s 8=false:=by
   cases h:s 8
   .rfl
   rw[(d.c8 h).2.1] at y;cases y
  have bm:Hid (Gnd i):=(HG.o.1.below (G.o.2.bel) HG.o.2.1).belows (d.w1 Q);have r:=qa2 d Q;clear d Q;refine ai _ rfl ?_;simp only[bw,e5] at v ⊢;go_wp2_with fail;refine(bn.o i bm.o).mono ?_;rintro e wj ⟨rfl,aq⟩;have HB:=hid aq;clear aq;go_wp2_with fail;exact r.o.1.put dc D6.o.symm (Or.inr ⟨r.o.2,HB.o⟩)
 .intro s V i K y hd d v;have h6:s 6=true:=hd 6 (Qjz ko) vq;have e6:V 6 = .string ⟨S.toArray⟩:=(d.val 6 dc h6).trans D6.o;have Q:s 8=false:=by
   cases h:s 8
   .rfl
   rw[(d.c8 h).2.2] at y;cases y
  have r:=hid d;clear d;refine ai _ rfl ?_;simp only[bw,e6] at v ⊢;go_wp2_with fail;have d:=r.o;have f8:¬s 8=true:=λh=>by rw[Q] at h;cases h
  have T:¬s 11=true:=λh=>f8 (d.c11 h);have hB:Bw i (i.alloc (.cells #[.string ⟨S.toArray⟩] 9)):=brf.alloc nlr _;refine⟨λj F hd => ?_,λh=>absurd ts f8,λh=>absurd ts T,λ_=>(d.w1 Q).trans (hB.mono (d.w1 Q).size),λ_ _=>⟨Jm,i.heap.size,o9 _ _ _,(d.w1 Q).size,(Blk.new i #[.string ⟨S.toArray⟩] 9).congr (λj F=>by match j,F with|0,_=>rfl)⟩,λh=>absurd ts f8⟩;exact aou
 rotate_left
 .intro s V i K y hd d v;have e0:V 0 = .pointer (some ⟨R,0,none⟩):=(d.val 0 dc (hd 0 (Qjz ko) vq)).trans D0.o;have r:=hid d;clear d;refine ai _ rfl ?_;simp only[bw,e0] at v ⊢;go_wp2_with fail;exact r.o.put dc D9.o.symm (Or.inl rfl)
 .intro s V i K y hd d v;have e9:V 9 = .pointer (some ⟨R,0,none⟩):=(d.val 9 dc (hd 9 (Qjz ko) vq)).trans D9.o;have r:=hid d;clear d;refine ai _ rfl ?_;simp only[bw,e9] at v ⊢;go_wp2_with fail;exact r.o.put dc ae.o.symm (Or.inl rfl)
 .intro s V i K y hd d v;have h8:s 8=true:=hd 8 (Qjz ko) vq;have e10:V 10 = .pointer (some ⟨R,0,none⟩):=(d.val 10 dc (hd 10 (Qjz ko) vq)).trans ae.o;obtain⟨H,c3,g1,g2,g3,g4,g5⟩:=d.w8 h8;have M:=g4 y;have zl:=M.lt;have zf:=M.frozen 0;have zc:=M.k 0;have U:Hid ((i.setCell ⟨R,0,none⟩ (.slice H (n+k+1) c3)).ownsRow A 9 1 (.slice H (n+k+1) c3) (n+k+1) (xd ((L++(l.take k).map Lib.itoa)++[S]))/\tu A wr (i.setCell ⟨R,0,none⟩ (.slice H (n+k+1) c3))/\Blk (i.setCell ⟨R,0,none⟩ (.slice H (n+k+1) c3)) R 103 1 (λ_ => .slice H (n+k+1) c3)):=by
   refine⟨wm g2 M dc 0 _,g3.trans ⟨brf.setCell (p:=⟨R,0,none⟩) G.o.1.low _,λq t m f _ h2 h3=>h3.other (a:=⟨R,0,none⟩) (Blk.ne2 h3 M h2) _⟩,(M.set 0 _).congr (λj F=>by match j,F with|0,_=>rfl)⟩
  have r:=hid d;clear d g2 g3 g4 g5 M;refine ai _ rfl ?_;simp only[bw,e10,g1] at v ⊢;go_wp2_with fail;have d:=r.o;refine v (.bool true) _ ⟨λj F hd => ?_,λh => ?_,λ_=>(by rw[az dc];exact h8),λh=>as8,λh=>as8,λ_=>⟨H,c3,(by rw[fo V _ dc];exact g1),U.o.1,U.o.2.1,λh=>Se,λ_=>U.o.2.2⟩⟩
  .exact aou
  rw[az dc,az dc,az dc];exact d.c8 h8
 intro s V i K y hd d v;have h7:s 7=true:=hd 7 (Qjz ko) vq;have h4:s 4=true:=hd 4 (Qjz ko) vq;obtain⟨h6,B,b1,b2,b3⟩:=d.w7 y h7;have e4:V 4 = .slice z (n+k) E:=(d.val 4 dc h4).trans D4.o;have ao:Hid (∀j u,[Value.string ⟨S.toArray⟩][j]?=some u->i.cell? ((⟨B,0,none⟩:Addr).add j)=some u):=λj u F=>by
  match j,F with
  | 0,F =>
   simp at F;subst F;exact b3.cell (j:=0) Nat.zero_lt_one
 have Y:=d.w1 y;have J:Hid (mr A R i z (n+k) E (L++(l.take k).map Lib.itoa)/\A<=i.heap.size/\tu A wr i):=⟨G.o.1.below Y,Qzx HG.o.2.2.1 (Qzx G.o.2.bel.size Y.size),tu.of Y (Qzx HG.o.2.2.1 G.o.2.bel.size)⟩;have r:=hid d;clear d Y b2 b3;refine ai _ rfl ?_;simp only[bw,e4,b1] at v ⊢;go_wp2_with(at_builtin;refine wpList_append_own i rfl (.tmp 16) (.tmp 19) 65 rfl A 9 iI (.string ⟨#[]⟩) 1 16 Tryz.underlying65 bs bt bu bv rfl dc (.slice z (n+k) E) (n+k) (xd (L++(l.take k).map Lib.itoa)) rfl J.o.1.own ⟨B,0,none⟩ 1 1 [.string ⟨S.toArray⟩] rfl rfl ao.o (λu hu=>Sj) uo ow J.o.2.1 ?_);intro v2 w6 r1 r2 _;obtain⟨H,c3,rfl,-⟩:=wn r1;have W:=zm J.o.1.own r2;have U:Hid (w6.ownsRow A 9 1 (.slice H (n+k+1) c3) (n+k+1) (xd ((L++(l.take k).map Lib.itoa)++[S]))/\tu A wr w6/\Blk w6 R 103 1 (λ_ => .slice z (n+k) E)):=by
  refine⟨?_,J.o.2.2.trans ⟨W.below brf nlr J.o.2.1,λq t m f h1 _ h3=>W.blk h3 h1⟩,W.blk J.o.1.blk dc⟩;unfold xd at r1 ⊢;exact apo
 clear r1 r2 W J ao
 try simp only[Act.put,Qvq,Qwx,Qwz]
 go_wp2_with fail;have d:=r.o;have T:s 11=false:=by
  cases h:s 11
  .rfl
  rw[d.c11 h] at y;cases y
 refine⟨λj F hd => ?_,λ_=>(by rw[az dc,az dc,az dc];exact⟨h4,h6,h7⟩),λ_=>qp _ _,λh=>Se,λh=>Se,λ_=>⟨H,c3,o9 _ _ _,U.o.1,U.o.2.1,λ_=>U.o.2.2,λh=>(by rw[az dc,T] at h;cases h)⟩⟩;rw[az ow] at hd;rw[fo V _ ow];exact d.val j F hd
def Clk(C:Nat)(w:World)(p:Pl)(s:St):Prop:=Blk w C 42 9 (λj=>(#[.slice p.ab p.nb p.cb,.slice p.sa p.ns p.cs,.slice s.on.a s.on.n s.on.c,.slice s.os.a s.os.n s.os.c,.slice s.hs.a s.hs.n s.hs.c,.slice s.ms.a s.ms.n s.ms.c,.slice s.si.a s.si.n s.si.c,.slice s.so.a s.so.n s.so.c,.slice s.sf.a s.sf.n s.sf.c]:Array Value).getD j default)
structure yw(C A:Nat)(p:Pl)(s:St)(w:World):Prop where
 keep:∀wk,Below A w wk->s.At wk/\p.At wk/\Clk C wk p s
 g:Gnd w
 h8:8<=A
 hA:A<=w.heap.size
 r:am p s
theorem yw.next(h:yw C A p s w)(a:Below A w w'):yw C A p s w':=⟨λb k=>h.keep b (a.trans k),h.g.below a h.h8,h.h8,Qzx h.hA a.size,h.r⟩
theorem yw.now(h:yw C A p s w):s.At w/\p.At w/\Clk C w p s:=h.keep w brf
def aw5(A R:Nat)(q:Option (List Int))(w:World)(e:Ending)(w':World):Prop :=
 ((∃out a n c,q=some out/\e = .returned (.tuple #[])/\mr A R w' a n c (out.map Lib.itoa))\/(q=none/\e=xc 4))/\Below A w w'
theorem aji(r:am p s){k:Nat}{l:List Int}{out:List Int}(h:fe p s k l=some (0,out)):(∀x∈out,-9223372036854775808<=x/\x<=9223372036854775807)/\out.length<=1000:=by
 obtain⟨b,c,a⟩:=rh r h;exact⟨λx hx=>by have:=a x hx;omega,ow⟩
theorem Wt(A R C:Nat)(p:Pl)(s:St)(x:Int)(w:World)(h:yw C A p s w)(B:mr A R w none 0 0 [])(q:Option (List Int))(z:q=if inB x 0 ((p.nb:Int)-1) then some (ua s x.toNat) else none):
  Calls Tryz.prog 64 #[.pointer (some ⟨C,0,none⟩),.pointer (some ⟨R,0,none⟩),.int .i64 x] w λe w'=>aw5 A R q w e w':=by
 have HQ:=hid z;have b:=qa2 h B;obtain⟨hs,-,hc⟩:=h.now;have y:s.on.n=p.nb:=h.r.fm.sh.n;have c2:w.cell? ⟨C,2,none⟩=some (.slice s.on.a s.on.n s.on.c):=hc.k 2;have T:=hc.lt;have hcap:s.on.n<=maxLen:=Qzx hs.on.le hs.on.cap;have d:=hid y;clear z h B hc y;go_enter Tryz.func64,Tryz.ntmps64;cases hx:inB x 0 ((s.on.n:Int)-1)
 .have HQ2:Hid (q=none):=by show _=_;rw[HQ.o,<-d.o,hx];rfl
  exact amo
 have E:=ar hx;obtain⟨i,rfl⟩:∃i:Nat,x=i:=⟨x.toNat,ow⟩;have o:q=some (ua s i):=by rw[HQ.o,<-d.o,hx];rfl
 have f:i<s.on.n:=ow;obtain⟨L,S,ra,Q,M,l⟩:=hs.on.rows i f;rw[ra] at c2;have q0:(0:Int)<=(i:Int):=ow;have K:(i:Int)<(s.on.n:Int):=ow;have G:Hid (Calls Tryz.prog 66 #[.pointer (some ⟨R,0,none⟩),.slice (s.on.r i).a (s.on.r i).n (s.on.r i).c] w λe w'=>e = .returned (.tuple #[])/\(∃u F v,mr A R w' u F v ([]++(ua s i).map Lib.itoa))/\tu A w w'):=by
  have H:(ua s i).length=(s.on.r i).n:=Bo _ _;have D:fe p s 9 [(i:Int)]=some (0,ua s i):=by
   show(if inB ([(i:Int)].getD 0 0) 0 ((p.nb:Int)-1) then some (0,ua s ([(i:Int)].getD 0 0).toNat) else some (4,[]))=_;rw[<-d.o];exact if_pos hx
  obtain⟨b1,b2⟩:=aji b.o.1.r D;have:=Zp A R (s.on.r i).a (s.on.r i).c (ua s i) none 0 0 [] w b.o.1.g b.o.1.h8 b.o.1.hA b.o.2 (λJ m => ?_) b1 ow
  .rw[H] at this;exact this
  obtain⟨_,_,_,_,_,l⟩:=(b.o.1.keep J m.bel).1.on.rows i f;exact Zw l
 have HQ2:=hid o;clear E hs l f ra o HQ;go_wp2_with(go_at_call 98;refine ap (im _ _ _ hcap) ?_);refine G.o.mono ?_;rintro e w1 ⟨rfl,⟨u,F,v,j⟩,m⟩;have t:=qa2 j m.bel;clear j m;go_wp2_with fail
 go_end0
 exact⟨Or.inl ⟨_,_,_,_,HQ2.o,rfl,t.o.1⟩,t.o.2⟩
theorem Lh(A R B C:Nat)(p:Pl)(s:St)(l:List Int)(a:Option Addr)(n c:Nat)(L:List Int)(w:World)(h:yw C A p s w)(k:mr A R w a n c (L.map Lib.itoa))(b:Blk w B 3 l.length (λj => .int .i64 (l.getD j 0)))
  (d:∀x∈l,-9223372036854775808<=x/\x<=9223372036854775807) (i:n+l.length<=100000) :
  Calls Tryz.prog 66 #[.pointer (some ⟨R,0,none⟩),.slice (some ⟨B,0,none⟩) l.length l.length] w λe w'=>e = .returned (.tuple #[])/\(∃a' n' c',mr A R w' a' n' c' ((L++l).map Lib.itoa))/\tu A w w':=by
 have:=Zp A R (some ⟨B,0,none⟩) l.length l a n c (L.map Lib.itoa) w h.g h.h8 h.hA k (λm f=>(f.typ B _ _ _ dc dc b).ints) d i;rw[List.map_append];exact this
theorem T3{f:Nat->List Int}{x:Int}{i:Nat}:∀{n:Nat},i<n->x∈f i->x∈j6 f n
 | n+1,h,hx=>by
  rw[j6];by_cases c:i=n
  .subst c;exact List.mem_append_right _ hx
  exact List.mem_append_left _ (T3 ow hx)
theorem apz{X:Hd}(K:Blk w g 3 3 (λj=>(#[.int .i64 X.l,.int .i64 X.b,.int .i64 X.n]:Array Value).getD j default)):Blk w g 3 (ny X).length (λj => .int .i64 ((ny X).getD j 0)):=
 K.congr λj a=>by match j,a with|0,_=>rfl|1,_=>rfl|2,_=>rfl
theorem Yy{X:Hd}(K:Blk w g 3 4 (λj=>(#[.int .i64 X.o,.int .i64 X.l,.int .i64 X.b,.int .i64 X.n]:Array Value).getD j default)):Blk w g 3 (ou X).length (λj => .int .i64 ((ou X).getD j 0)):=
 K.congr λj a=>by match j,a with|0,_=>rfl|1,_=>rfl|2,_=>rfl|3,_=>rfl
theorem Ws(A R C:Nat)(p:Pl)(s:St)(x:Int)(w:World)(h:yw C A p s w)(hr:mr A R w none 0 0 [])(q:Option (List Int))(hq:q=if inB x 0 ((s.os.n:Int)-1) then some (m9 s x.toNat) else none):
  Calls Tryz.prog 65 #[.pointer (some ⟨C,0,none⟩),.pointer (some ⟨R,0,none⟩),.int .i64 x] w λe w'=>aw5 A R q w e w':=by
 have HQ:=hid hq;have v:=qa2 h hr;obtain⟨hs,-,hc⟩:=h.now;have c3:w.cell? ⟨C,3,none⟩=some (.slice s.os.a s.os.n s.os.c):=hc.k 3;have zl:=hc.lt;have hcap:s.os.n<=maxLen:=Qzx hs.os.le hs.os.cap;have a7:=hr.blk.lt;clear hq h hr hc;go_enter Tryz.func65,Tryz.ntmps65;cases hx:inB x 0 ((s.os.n:Int)-1)
 .have HQ2:Hid (q=none):=akt;exact amo
 have ay:=ar hx;obtain⟨i,rfl⟩:∃i:Nat,x=i:=⟨x.toNat,ow⟩;have V:q=some (m9 s i):=aat;have G:i<s.os.n:=ow;have ae:fe p s 10 [(i:Int)]=some (0,m9 s i):=by
  show(if inB ([(i:Int)].getD 0 0) 0 ((s.os.n:Int)-1) then some (0,m9 s ([(i:Int)].getD 0 0).toNat) else some (4,[]))=_;exact if_pos hx
 have HB:Hid ((∀x∈m9 s i,-9223372036854775808<=x/\x<=9223372036854775807)/\(m9 s i).length<=1000):=aji v.o.1.r ae;obtain⟨rb,ro,ra,rl,a8,a9,S⟩:=hs.os.ods i G;rw[ra] at c3;have q0:(0:Int)<=(i:Int):=ow;have q1:(i:Int)<(s.os.n:Int):=ow;have a4:(s.os.z i).ls.n<=3:=(v.o.1.r.fm.lns i G).2;have am:Hid (∀y,Below A w y->(s.os.z i).ls.At y):=λy H=>by
  obtain⟨_,_,_,_,_,_,S⟩:=(v.o.1.keep y H).1.os.ods i G;exact S
 have HQ2:=hid V;unfold m9 at HB HQ2
 generalize (s.os.z i).ls=ls at *
 generalize (s.os.z i).k=d at *
 obtain⟨W2,ab,M,k1,k2⟩:∃W,(w.alloc (.cells #[.int .i64 d,.slice ls.a ls.n ls.c] 124)).alloc (.cells #[.int .i64 d] 3)=W/\Bw w W/\Blk W w.heap.size 124 2 (λj=>(#[.int .i64 d,.slice ls.a ls.n ls.c]:Array Value).getD j default)/\Blk W (w.heap.size+1) 3 [d].length (λj => .int .i64 ([d].getD j 0)):=
  ⟨_,rfl,dx _ _ _,(Blk.mk' (cur:=#[.int .i64 d,.slice ls.a ls.n ls.c]) rfl rfl).alloc _,(Blk.mk' (cur:=#[.int .i64 d]) vq rfl).congr (λj hj=>by match j,hj with|0,_=>rfl)⟩
 have Y:=hid ab;have E:=qa2 k1 (M.mono v.o.1.hA);have J:Hid (Calls Tryz.prog 66 #[.pointer (some ⟨R,0,none⟩),.slice (some ⟨w.heap.size+1,0,none⟩) 1 1] W2 λe w'=>e = .returned (.tuple #[])/\(∃m u t,mr A R w' m u t (([]++[d]).map Lib.itoa))/\tu A W2 w'):=
  Lh A R (w.heap.size+1) C p s [d] none 0 0 [] W2 (v.o.1.next E.o.2) (v.o.2.below M) k2 (λx hx=>HB.o.1 x (by rw[List.mem_singleton] at hx;rw[hx];exact List.mem_cons_self ..)) alt
 clear ay hs S G ra V HQ ab M k1 k2 ae;go_wp2_with(go_at_call 98;refine ap (im _ _ _ hcap) ?_);rw[Y.o];refine J.o.mono ?_;rintro e U ⟨rfl,⟨m,u,t,f⟩,H⟩;have D:Hid (mr A R U m u t ((d :: j6 (λj=>ny (ls.z j)) 0).map Lib.itoa)/\Blk U w.heap.size 124 2 (λj=>(#[.int .i64 d,.slice ls.a ls.n ls.c]:Array Value).getD j default)/\Below A w U):=⟨f,H.typ _ _ _ _ dc dc E.o.1,E.o.2.trans H.bel⟩;have o0:U.cell? ⟨w.heap.size,1,none⟩=some (.slice ls.a ls.n ls.c):=D.o.2.1.k 1;have o1:=D.o.2.1.lt;clear f H J Y E;go_wp2_with fail;clear o0 o1
 go_loopw [35] (λkv y=>∃(k:Nat) (a:Option Addr) (n c:Nat),k<=ls.n/\kv = .int .i64 k/\Hid (mr A R y a n c ((d :: j6 (λj=>ny (ls.z j)) k).map Lib.itoa)/\Blk y w.heap.size 124 2 (λj=>(#[.int .i64 d,.slice ls.a ls.n ls.c]:Array Value).getD j default)/\Below A w y)) (λkv _=>ls.n-(intOf kv).toNat)
 case atStart=>exact⟨0,m,u,t,Qxz _,rfl,D⟩
 obtain⟨k,a,n,c,H,rfl,g⟩:=hrel;clear D;by_cases ad:k<ls.n;rotate_left
 .have q4:¬(k:Int)<(ls.n:Int):=ow;have aw:k=ls.n:=ow;subst aw;go_wp2_with fail
  go_end0
  exact⟨Or.inl ⟨_,_,_,_,HQ2.o,rfl,g.o.1⟩,g.o.2.2⟩
 have q4:(k:Int)<(ls.n:Int):=ow;have q5:(0:Int)<=(k:Int):=ow;obtain⟨hb,ho,ha,av,h0,h1,h2,h3⟩:=(am.o wr g.o.2.2).hds k ad;obtain⟨X,T⟩:∃X,ls.z k=X:=⟨_,rfl⟩;rw[T] at h0 h1 h2 h3;have K:Hid (ls.z k=X/\(∀x∈ny X,-9223372036854775808<=x/\x<=9223372036854775807)/\n<=1000):=by
  refine⟨T,λx hx=>HB.o.1 x (List.mem_cons_of_mem _ (T3 ad (by rw[T];exact hx))),?_⟩;rw[g.o.1.len,List.length_map,List.length_cons,P1];omega
 have HA:=hid ha;rw[ha];clear ha;obtain⟨L,ac,F,k5⟩:∃W,(wr.alloc (.cells #[.int .i64 X.o,.int .i64 X.l,.int .i64 X.b,.int .i64 X.n] 115)).alloc (.cells #[.int .i64 X.l,.int .i64 X.b,.int .i64 X.n] 3)=W/\Bw wr W/\Blk W (wr.heap.size+1) 3 (ny X).length (λj => .int .i64 ((ny X).getD j 0)):=⟨_,rfl,dx _ _ _,apz (Blk.mk' (cur:=#[.int .i64 X.l,.int .i64 X.b,.int .i64 X.n]) vq rfl)⟩;have aa:=hid ac;have B:Hid (Below A w L/\Bw wr L):=⟨g.o.2.2.trans (F.mono (Qzx v.o.1.hA g.o.2.2.size)),F⟩;have J:Hid (Calls Tryz.prog 66 #[.pointer (some ⟨R,0,none⟩),.slice (some ⟨wr.heap.size+1,0,none⟩) 3 3] L λe w'=>e = .returned (.tuple #[])/\(∃m u t,mr A R w' m u t (((d :: j6 (λj=>ny (ls.z j)) k)++ny X).map Lib.itoa))/\tu A L w'):=
  Lh A R (wr.heap.size+1) C p s (ny X) a n c _ L (v.o.1.next B.o.1) (g.o.1.below F) k5 K.o.2.1 (by have:=K.o.2.2;show n+3<=_;omega)
 clear T ac F k5;go_wp2_with fail;rw[aa.o];refine J.o.mono ?_;rintro e w6 ⟨rfl,⟨m,u,t,f⟩,Q⟩;have al:Hid (mr A R w6 m u t ((d :: j6 (λj=>ny (ls.z j)) (k+1)).map Lib.itoa)/\Blk w6 w.heap.size 124 2 (λj=>(#[.int .i64 d,.slice ls.a ls.n ls.c]:Array Value).getD j default)/\Below A w w6):=by
  refine⟨?_,Q.typ _ _ _ _ dc dc (g.o.2.1.below B.o.2),B.o.1.trans Q.bel⟩;rw[j6,K.o.1];exact f
 clear f Q J aa B g h0 h1 h2 h3 av;go_wp2_with fail;exact⟨⟨k+1,m,u,t,ow,vo,by rw[<-HA.o];exact al⟩,Cy⟩
def z8(q:Option (Int × List Int))(w:World)(e:Ending)(w':World):Prop :=
 ((∃out,q=some (0,out)/\e = .returned (.string ⟨(l7 out).toArray⟩))\/(∃er out,q=some (er,out)/\er≠0/\e=xc er)\/(q=none/\e=xc 1))/\Bw w w'
theorem Jk(w:World):mr w.heap.size w.heap.size (w.alloc (.cells #[.slice none 0 0] 103)) none 0 0 []:=
 ⟨(Blk.mk' (cur:=#[.slice none 0 0]) rfl rfl).congr (λj a=>by match j,a with|0,_=>rfl),World.ownsRow_nil _ _ _ _,rfl,Nat.le_refl _⟩
theorem aro{a:Option Addr}{out:List Int}(h:mr A R w a n c (out.map Lib.itoa))(j:∀x∈out,0<=x/\x<=999999)(s:out.length<=400):
  Calls Tryz.prog 68 #[.slice a n c,.string ⟨#[32]⟩] w λe w'=>e = .returned (.string ⟨(l7 out).toArray⟩)/\Bw w w':=by
 have k:=h.len;have b:n<=c:=by
  by_cases m:n=0
  .omega
  obtain⟨g,l,i,o,p,q,r⟩:=Blk.ofOwns h.own (λe=>by simp only[Value.slice.injEq] at e;omega);simp only[Value.slice.injEq,true_and] at i;omega
 have f:=h.own;rw[k] at f b ⊢;have d:=Fo out out.length j;rw[List.take_length] at d;have h8:(Lib.join (out.map Lib.itoa) [32]).length<=7*out.length:=d;exact aql a c (out.map Lib.itoa) w (qx.owns f) b (by rw[List.length_map];omega) ow
theorem arr(C:Nat)(p:Pl)(s:St)(a:Option Addr)(c:Nat)(l:List Int)(w:World)(h:¬l.length=1):
  Calls Tryz.prog 33 #[.pointer (some ⟨C,0,none⟩),.string ⟨#[115,104,101,108,102]⟩,.slice a l.length c] w λe w'=>z8 none w e w':=al5
theorem ajv(C:Nat)(p:Pl)(s:St)(a:Option Addr)(c:Nat)(l:List Int)(w:World)(h:¬l.length=1):
  Calls Tryz.prog 33 #[.pointer (some ⟨C,0,none⟩),.string ⟨#[111,114,100,101,114]⟩,.slice a l.length c] w λe w'=>z8 none w e w':=al5
theorem ajw(C:Nat)(p:Pl)(s:St)(a:Option Addr)(c:Nat)(l:List Int)(w:World)(h:¬l.length=0):
  Calls Tryz.prog 33 #[.pointer (some ⟨C,0,none⟩),.string ⟨#[104,111,108,100,115]⟩,.slice a l.length c] w λe w'=>z8 none w e w':=abc
theorem ajx(C:Nat)(p:Pl)(s:St)(a:Option Addr)(c:Nat)(l:List Int)(w:World)(h:¬l.length=0):
  Calls Tryz.prog 33 #[.pointer (some ⟨C,0,none⟩),.string ⟨#[109,111,118,101,115]⟩,.slice a l.length c] w λe w'=>z8 none w e w':=abc
theorem ajy(C:Nat)(p:Pl)(s:St)(a:Option Addr)(c:Nat)(l:List Int)(w:World)(h:¬l.length=0):
  Calls Tryz.prog 33 #[.pointer (some ⟨C,0,none⟩),.string ⟨#[111,112,101,110]⟩,.slice a l.length c] w λe w'=>z8 none w e w':=abc
theorem Zy(C:Nat)(p:Pl)(s:St)(t:List UInt8)(a:Option Addr)(c:Nat)(l:List Int)(w:World)(i:¬t=[115,104,101,108,102])(b:¬t=[111,114,100,101,114])(d:¬t=[104,111,108,100,115])(f:¬t=[109,111,118,101,115])(g:¬t=[111,112,101,110]):
  Calls Tryz.prog 33 #[.pointer (some ⟨C,0,none⟩),.string ⟨t.toArray⟩,.slice a l.length c] w λe w'=>z8 none w e w':=by
 have o:(t==[115,104,101,108,102])=false:=by simpa using i
 have j:(t==[111,114,100,101,114])=false:=by simpa using b
 have k:(t==[104,111,108,100,115])=false:=by simpa using d
 have m:(t==[109,111,118,101,115])=false:=by simpa using f
 have n:(t==[111,112,101,110])=false:=by simpa using g
 exact abq
theorem axj(C:Nat)(p:Pl)(s:St)(a:Option Addr)(c:Nat)(x:Int)(w:World)(h:yw C w.heap.size p s w)(hi:j7 w a [x]):
  Calls Tryz.prog 33 #[.pointer (some ⟨C,0,none⟩),.string ⟨#[115,104,101,108,102]⟩,.slice a 1 c] w λe w'=>z8 (fe p s 9 [x]) w e w':=by
 have HQ:Hid (fe p s 9 [x]=if inB x 0 ((p.nb:Int)-1) then some (0,ua s x.toNat) else some (4,[])):=rfl;have HB0:Hid (∀out,fe p s 9 [x]=some (0,out)->(∀x∈out,0<=x/\x<=999999)/\out.length<=400):=λout l=>⟨(rh h.r l).2.2,(rh h.r l).2.1⟩
 generalize fe p s 9 [x]=q at *
 obtain⟨i,f,d,g⟩:∃W,w.alloc (.cells #[.slice none 0 0] 103)=W/\Bw w W/\mr w.heap.size w.heap.size W none 0 0 []:=⟨_,rfl,brf.alloc nlr _,Jk w⟩;have u:=hid f;have HD:=qa3 (h.next d) g d;obtain⟨b,o,rfl,j,hc⟩:=hi 0 Nat.zero_lt_one;have m:i.cell? ⟨b,o,none⟩=some (.int .i64 x):=(d.cell (p:=⟨b,o,none⟩) j).trans hc;have n:b<i.heap.size:=Xzx j d.size;have v:(w.alloc (.cells #[.slice none 0 0] 103)).cell? ⟨b,o,none⟩=some (.int .i64 x):=by rw[f];exact m
 have t:b<(w.alloc (.cells #[.slice none 0 0] 103)).heap.size:=by rw[f];exact n
 simp at t;clear f d g hi j hc h m n;go_enter Tryz.func33,Tryz.ntmps33;go_wp2_with fail;rw[u.o];refine(Wt w.heap.size w.heap.size C p s x i HD.o.1 HD.o.2.1 _ rfl).mono ?_;clear v t;rintro e WF ⟨⟨out,a',n',c',hq,rfl,hrow⟩|⟨hq,rfl⟩,hB⟩
 .have HQ1:q=some (0,out):=by
   rw[HQ.o];cases hx:inB x 0 ((p.nb:Int)-1)
   .rw[hx] at hq;cases hq
   rw[hx] at hq;cases hq;rfl
  exact aue
 have HQ1:q=some (4,[]):=by
  rw[HQ.o];cases hx:inB x 0 ((p.nb:Int)-1)
  .rfl
  rw[hx] at hq;cases hq
 exact amc
theorem awo(C:Nat)(p:Pl)(s:St)(a:Option Addr)(c:Nat)(x:Int)(w:World)(h:yw C w.heap.size p s w)(hi:j7 w a [x]):
  Calls Tryz.prog 33 #[.pointer (some ⟨C,0,none⟩),.string ⟨#[111,114,100,101,114]⟩,.slice a 1 c] w λe w'=>z8 (fe p s 10 [x]) w e w':=by
 have HQ:Hid (fe p s 10 [x]=if inB x 0 ((s.os.n:Int)-1) then some (0,m9 s x.toNat) else some (4,[])):=rfl;have HB0:Hid (∀out,fe p s 10 [x]=some (0,out)->(∀x∈out,0<=x/\x<=999999)/\out.length<=400):=λout l=>⟨(rh h.r l).2.2,(rh h.r l).2.1⟩
 generalize fe p s 10 [x]=q at *
 obtain⟨i,f,d,g⟩:∃W,w.alloc (.cells #[.slice none 0 0] 103)=W/\Bw w W/\mr w.heap.size w.heap.size W none 0 0 []:=⟨_,rfl,brf.alloc nlr _,Jk w⟩;have v:=hid f;have HD:=qa3 (h.next d) g d;obtain⟨b,o,rfl,j,hc⟩:=hi 0 Nat.zero_lt_one;have m:i.cell? ⟨b,o,none⟩=some (.int .i64 x):=(d.cell (p:=⟨b,o,none⟩) j).trans hc;have t:b<i.heap.size:=Xzx j d.size;have y:(w.alloc (.cells #[.slice none 0 0] 103)).cell? ⟨b,o,none⟩=some (.int .i64 x):=by rw[f];exact m
 have u:b<(w.alloc (.cells #[.slice none 0 0] 103)).heap.size:=by rw[f];exact t
 simp at u;clear f d g hi j hc h m t;go_enter Tryz.func33,Tryz.ntmps33;go_wp2_with fail;rw[v.o];refine(Ws w.heap.size w.heap.size C p s x i HD.o.1 HD.o.2.1 _ rfl).mono ?_;clear y u;rintro e WF ⟨⟨out,a',n',c',hq,rfl,hrow⟩|⟨hq,rfl⟩,hB⟩
 .have HQ1:q=some (0,out):=by
   rw[HQ.o];cases hx:inB x 0 ((s.os.n:Int)-1)
   .rw[hx] at hq;cases hq
   rw[hx] at hq;cases hq;rfl
  exact aue
 have HQ1:q=some (4,[]):=by
  rw[HQ.o];cases hx:inB x 0 ((s.os.n:Int)-1)
  .rfl
  rw[hx] at hq;cases hq
 exact amc
theorem awp(C:Nat)(p:Pl)(s:St)(a:Option Addr)(c:Nat)(w:World)(h:yw C w.heap.size p s w):
  Calls Tryz.prog 33 #[.pointer (some ⟨C,0,none⟩),.string ⟨#[104,111,108,100,115]⟩,.slice a 0 c] w λe w'=>z8 (fe p s 11 []) w e w':=by
 have HQ2:Hid (fe p s 11 []=some (0,xi s)):=rfl;have HB:Hid ((∀x∈xi s,0<=x/\x<=999999)/\(xi s).length<=400):=⟨(rh h.r HQ2.o).2.2,(rh h.r HQ2.o).2.1⟩;unfold xi at HB HQ2
 generalize fe p s 11 []=q at *
 obtain⟨W0,i,g,m⟩:∃W,w.alloc (.cells #[.slice none 0 0] 103)=W/\Bw w W/\mr w.heap.size w.heap.size W none 0 0 []:=⟨_,rfl,brf.alloc nlr _,Jk w⟩;have D:=hid i;have HD:=qa3 (h.next g) m g;have f:Hid (∀d,Below w.heap.size W0 d->s.hs.At d/\Clk C d p s):=λd u=>⟨(HD.o.1.keep d u).1.hs,(HD.o.1.keep d u).2.2⟩;have y:W0.cell? ⟨C,4,none⟩=some (.slice s.hs.a s.hs.n s.hs.c):=(f.o W0 brf).2.k 4;have A:=(f.o W0 brf).2.lt;have G:=(f.o W0 brf).1.le;have E:=(f.o W0 brf).1.cap;have F:(w.alloc (.cells #[.slice none 0 0] 103)).cell? ⟨C,4,none⟩=some (.slice s.hs.a s.hs.n s.hs.c):=by rw[i];exact y
 have B:C<(w.alloc (.cells #[.slice none 0 0] 103)).heap.size:=by rw[i];exact A
 simp at B;clear i g m h y A
 generalize s.hs=ls at *
 have H:ls.n<=100:=by
  have h4:=HB.o.2;rw[C4] at h4;omega
 go_enter Tryz.func33,Tryz.ntmps33;go_wp2_with fail;rw[D.o];clear F B
 go_loopw [55] (λv d=>∃(k:Nat) (a:Option Addr) (n c:Nat),k<=ls.n/\v = .int .i64 k/\Hid (mr w.heap.size w.heap.size d a n c ((j6 (λj=>ou (ls.z j)) k).map Lib.itoa)/\Below w.heap.size W0 d)) (λv _=>ls.n-(intOf v).toNat)
 case atStart=>exact ao9
 obtain⟨k,a',n',c',u,rfl,HS⟩:=hrel;by_cases hlt:k<ls.n;rotate_left
 .exact aud
 have q4:(k:Int)<(ls.n:Int):=ow;have M:(0:Int)<=(k:Int):=ow;obtain⟨K,L,t,hbl,h0,h1,h2,h3⟩:=(f.o wr HS.o.2).1.hds k hlt;obtain⟨X,hX⟩:∃X,ls.z k=X:=⟨_,rfl⟩;rw[hX] at h0 h1 h2 h3;have HX2:Hid (ls.z k=X/\(∀x∈ou X,-9223372036854775808<=x/\x<=9223372036854775807)/\n'<=400):=avm;have J:=hid t;rw[t];clear t;obtain⟨W5,hW5,hB5,k5⟩:∃W,(wr.alloc (.cells #[.int .i64 X.o,.int .i64 X.l,.int .i64 X.b,.int .i64 X.n] 107)).alloc (.cells #[.int .i64 X.o,.int .i64 X.l,.int .i64 X.b,.int .i64 X.n] 3)=W/\Bw wr W/\Blk W (wr.heap.size+1) 3 (ou X).length (λj => .int .i64 ((ou X).getD j 0)):=⟨_,rfl,dx _ _ _,Yy (Blk.mk' (cur:=#[.int .i64 X.o,.int .i64 X.l,.int .i64 X.b,.int .i64 X.n]) vq rfl)⟩;exact ayb
theorem awq(C:Nat)(p:Pl)(s:St)(a:Option Addr)(c:Nat)(w:World)(h:yw C w.heap.size p s w):
  Calls Tryz.prog 33 #[.pointer (some ⟨C,0,none⟩),.string ⟨#[109,111,118,101,115]⟩,.slice a 0 c] w λe w'=>z8 (fe p s 12 []) w e w':=by
 have HQ2:Hid (fe p s 12 []=some (0,xj s)):=rfl;have HB:Hid ((∀x∈xj s,0<=x/\x<=999999)/\(xj s).length<=400):=⟨(rh h.r HQ2.o).2.2,(rh h.r HQ2.o).2.1⟩;unfold xj at HB HQ2
 generalize fe p s 12 []=q at *
 obtain⟨W0,i,g,m⟩:∃W,w.alloc (.cells #[.slice none 0 0] 103)=W/\Bw w W/\mr w.heap.size w.heap.size W none 0 0 []:=⟨_,rfl,brf.alloc nlr _,Jk w⟩;have D:=hid i;have HD:=qa3 (h.next g) m g;have f:Hid (∀d,Below w.heap.size W0 d->s.ms.At d/\Clk C d p s):=λd u=>⟨(HD.o.1.keep d u).1.ms,(HD.o.1.keep d u).2.2⟩;have y:W0.cell? ⟨C,5,none⟩=some (.slice s.ms.a s.ms.n s.ms.c):=(f.o W0 brf).2.k 5;have A:=(f.o W0 brf).2.lt;have G:=(f.o W0 brf).1.le;have E:=(f.o W0 brf).1.cap;have F:(w.alloc (.cells #[.slice none 0 0] 103)).cell? ⟨C,5,none⟩=some (.slice s.ms.a s.ms.n s.ms.c):=by rw[i];exact y
 have B:C<(w.alloc (.cells #[.slice none 0 0] 103)).heap.size:=by rw[i];exact A
 simp at B;clear i g m h y A
 generalize s.ms=ls at *
 have H:ls.n<=100:=by
  have h4:=HB.o.2;rw[C4] at h4;omega
 go_enter Tryz.func33,Tryz.ntmps33;go_wp2_with fail;rw[D.o];clear F B
 go_loopw [84] (λv d=>∃(k:Nat) (a:Option Addr) (n c:Nat),k<=ls.n/\v = .int .i64 k/\Hid (mr w.heap.size w.heap.size d a n c ((j6 (λj=>ou (ls.z j)) k).map Lib.itoa)/\Below w.heap.size W0 d)) (λv _=>ls.n-(intOf v).toNat)
 case atStart=>exact ao9
 obtain⟨k,a',n',c',u,rfl,HS⟩:=hrel;by_cases hlt:k<ls.n;rotate_left
 .exact aud
 have q4:(k:Int)<(ls.n:Int):=ow;have M:(0:Int)<=(k:Int):=ow;obtain⟨K,L,t,hbl,h0,h1,h2,h3⟩:=(f.o wr HS.o.2).1.hds k hlt;obtain⟨X,hX⟩:∃X,ls.z k=X:=⟨_,rfl⟩;rw[hX] at h0 h1 h2 h3;have HX2:Hid (ls.z k=X/\(∀x∈ou X,-9223372036854775808<=x/\x<=9223372036854775807)/\n'<=400):=avm;have J:=hid t;rw[t];clear t;obtain⟨W5,hW5,hB5,k5⟩:∃W,(wr.alloc (.cells #[.int .i64 X.o,.int .i64 X.l,.int .i64 X.b,.int .i64 X.n] 110)).alloc (.cells #[.int .i64 X.o,.int .i64 X.l,.int .i64 X.b,.int .i64 X.n] 3)=W/\Bw wr W/\Blk W (wr.heap.size+1) 3 (ou X).length (λj => .int .i64 ((ou X).getD j 0)):=⟨_,rfl,dx _ _ _,Yy (Blk.mk' (cur:=#[.int .i64 X.o,.int .i64 X.l,.int .i64 X.b,.int .i64 X.n]) vq rfl)⟩;exact ayb
theorem awr(C:Nat)(p:Pl)(s:St)(a:Option Addr)(c:Nat)(w:World)(h:yw C w.heap.size p s w):
  Calls Tryz.prog 33 #[.pointer (some ⟨C,0,none⟩),.string ⟨#[111,112,101,110]⟩,.slice a 0 c] w λe w'=>z8 (fe p s 13 []) w e w':=by
 have HQ2:Hid (fe p s 13 []=some (0,[(jz s s.os.n:Int)])):=rfl;have HB:Hid ((∀x∈[(jz s s.os.n:Int)],0<=x/\x<=999999)/\[(jz s s.os.n:Int)].length<=400):=⟨(rh h.r HQ2.o).2.2,(rh h.r HQ2.o).2.1⟩;have D:Hid (Kz p s=(jz s s.os.n:Nat)/\ag p s=0):=⟨if_pos (js h.r),js h.r⟩
 generalize fe p s 13 []=q at *
 obtain⟨b,T,m,A⟩:∃W,w.alloc (.cells #[.slice none 0 0] 103)=W/\Bw w W/\mr w.heap.size w.heap.size W none 0 0 []:=⟨_,rfl,brf.alloc nlr _,Jk w⟩;have X:=hid T;have f:=qa3 (h.next m) A m;have t:Hid (∀i,Bw b i->p.At i/\s.At i):=λi U=>⟨(f.o.1.keep i (U.mono f.o.1.hA)).2.1,(f.o.1.keep i (U.mono f.o.1.hA)).1⟩;have d:=f.o.1.now.2.2;have zl:=d.lt;have F:b.cell? ⟨C,0,none⟩=some (.slice p.ab p.nb p.cb):=d.k 0;have v0:=Qqq F;have G:b.cell? ⟨C,1,none⟩=some (.slice p.sa p.ns p.cs):=d.k 1;have v1:=Qqq G;have H:b.cell? ⟨C,2,none⟩=some (.slice s.on.a s.on.n s.on.c):=d.k 2;have v2:=Qqq H;have J:b.cell? ⟨C,3,none⟩=some (.slice s.os.a s.os.n s.os.c):=d.k 3;have v3:=Qqq J;have K:b.cell? ⟨C,4,none⟩=some (.slice s.hs.a s.hs.n s.hs.c):=d.k 4;have v4:=Qqq K;have L:b.cell? ⟨C,5,none⟩=some (.slice s.ms.a s.ms.n s.ms.c):=d.k 5;have v5:=Qqq L;have M:b.cell? ⟨C,6,none⟩=some (.slice s.si.a s.si.n s.si.c):=d.k 6;have v6:=Qqq M;have Q:b.cell? ⟨C,7,none⟩=some (.slice s.so.a s.so.n s.so.c):=d.k 7;have v7:=Qqq Q;have S:b.cell? ⟨C,8,none⟩=some (.slice s.sf.a s.sf.n s.sf.c):=d.k 8;have v8:=Qqq S;clear T m A h d;go_enter Tryz.func33,Tryz.ntmps33;go_wp2_with fail;rw[X.o];refine Qxq ko ko ?_
 repeat(go_big_quiet_step(first|(go_at_call 67;exact Xxz (aqn p s _ (t.o _ (Qxx _ _ _)).1 (t.o _ (Qxx _ _ _)).2))))
 refine Qqz ?_;intro w9 hw9;have hB9:Bw b w9:=Xd;clear hw9 zl F v0 G v1 H v2 J v3 K v4 L v5 M v6 Q v7 S v8;rw[D.o.1,D.o.2];obtain⟨B,y,v,V⟩:∃W,w9.alloc (.cells #[.int .i64 ((jz s s.os.n:Nat):Int)] 3)=W/\Bw w9 W/\Blk W w9.heap.size 3 [(jz s s.os.n:Int)].length (λj => .int .i64 ([(jz s s.os.n:Int)].getD j 0)):=⟨_,rfl,brf.alloc nlr _,(Blk.mk' (cur:=#[.int .i64 ((jz s s.os.n:Nat):Int)]) rfl rfl).congr (λj Y=>by match j,Y with|0,_=>rfl)⟩;have u:=hid y;have g:=hB9.trans (v.mono hB9.size);have l:=hid (g.mono f.o.1.hA);have E:Hid (Calls Tryz.prog 66 #[.pointer (some ⟨w.heap.size,0,none⟩),.slice (some ⟨w9.heap.size,0,none⟩) 1 1] B λe w'=>e = .returned (.tuple #[])/\(∃a' n' c',mr w.heap.size w.heap.size w' a' n' c' (([]++[(jz s s.os.n:Int)]).map Lib.itoa))/\tu w.heap.size B w'):=
  Lh w.heap.size w.heap.size w9.heap.size C p s [(jz s s.os.n:Int)] none 0 0 [] B (f.o.1.next l.o) (f.o.2.1.below g) V (λx hx=>by have:=HB.o.1 x hx;omega) alt
 clear y v V g hB9;go_wp2_with(go_at_call 63;refine ap (Rk _) ?_);rw[u.o];refine E.o.mono ?_;rintro e WF ⟨rfl,⟨a',n',c',o⟩,z⟩;have HF:=qa2 o (f.o.2.2.trans (l.o.trans z.bel));clear o z E u l;exact aum
theorem arq(C:Nat)(p:Pl)(s:St)(t:List UInt8)(a:Option Addr)(c:Nat)(l:List Int)(w:World)(h:yw C w.heap.size p s w)(hi:j7 w a l):
  Calls Tryz.prog 33 #[.pointer (some ⟨C,0,none⟩),.string ⟨t.toArray⟩,.slice a l.length c] w λe w'=>z8 (fe p s (j5 t) l) w e w':=by
 rcases C1 t with⟨rfl,b⟩|⟨rfl,b⟩|⟨rfl,b⟩|⟨rfl,b⟩|⟨rfl,b⟩|⟨rfl,b⟩|⟨rfl,b⟩|⟨rfl,b⟩|⟨rfl,b⟩|⟨rfl,b⟩|⟨rfl,b⟩|⟨rfl,b⟩|⟨rfl,b⟩|⟨m,n2,n,o,q,r,u,v,k,f,g,i,j,b⟩
 .exact Eo
 .exact Eo
 .exact Eo
 .exact Eo
 .exact Eo
 .exact Eo
 .exact Eo
 .exact Eo
 .rw[b];by_cases d:l.length=1
  .obtain⟨x,rfl⟩:∃x,l=[x]:=⟨_,mf l 1 d⟩;exact axj C p s a c x w h hi
  rw[show fe p s 9 l=none from if_neg d];exact arr C p s a c l w d
 .rw[b];by_cases d:l.length=1
  .obtain⟨x,rfl⟩:∃x,l=[x]:=⟨_,mf l 1 d⟩;exact awo C p s a c x w h hi
  rw[show fe p s 10 l=none from if_neg d];exact ajv C p s a c l w d
 .rw[b];by_cases d:l.length=0
  .obtain rfl:l=[]:=List.eq_nil_of_length_eq_zero d;exact awp C p s a c w h
  rw[show fe p s 11 l=none from if_neg d];exact ajw C p s a c l w d
 .rw[b];by_cases d:l.length=0
  .obtain rfl:l=[]:=List.eq_nil_of_length_eq_zero d;exact awq C p s a c w h
  rw[show fe p s 12 l=none from if_neg d];exact ajx C p s a c l w d
 .rw[b];by_cases d:l.length=0
  .obtain rfl:l=[]:=List.eq_nil_of_length_eq_zero d;exact awr C p s a c w h
  rw[show fe p s 13 l=none from if_neg d];exact ajy C p s a c l w d
 rw[b];exact Zy C p s t a c l w k f g i j
theorem ah.boxK(h:ah A w s)(hq:Blk w q 42 n f)(j:Nat)(u:Value):ah A (w.setCell ⟨q,j,none⟩ u) s:=Tf
def setK(w:World)(b:Nat)(v0 v1 v2 v3 v4 v5 v6:Value):World :=
 ((((((w.setCell ⟨b,2,none⟩ v0).setCell ⟨b,3,none⟩ v1).setCell ⟨b,4,none⟩ v2).setCell ⟨b,5,none⟩ v3).setCell ⟨b,6,none⟩ v4).setCell ⟨b,7,none⟩ v5).setCell ⟨b,8,none⟩ v6
theorem Clk.setK(h:Clk C w p s)(u:St):Clk C (Go.Proofs.YtjgckphgagdpaaaGreatDoor.setK w C (.slice u.on.a u.on.n u.on.c) (.slice u.os.a u.os.n u.os.c) (.slice u.hs.a u.hs.n u.hs.c) (.slice u.ms.a u.ms.n u.ms.c) (.slice u.si.a u.si.n u.si.c) (.slice u.so.a u.so.n u.so.c) (.slice u.sf.a u.sf.n u.sf.c)) p u :=
 (((((((Blk.set h 2 _).set 3 _).set 4 _).set 5 _).set 6 _).set 7 _).set 8 _).congr λj b=>by match j,b with|0,_=>rfl|1,_=>rfl|2,_=>rfl|3,_=>rfl|4,_=>rfl|5,_=>rfl|6,_=>rfl|7,_=>rfl|8,_=>rfl
theorem Bt.setK{a:World}(h:Bt R a w)(b c d e f g i:Value):Bt R a (Go.Proofs.YtjgckphgagdpaaaGreatDoor.setK w R b c d e f g i):=
 ((((((h.set (p:=⟨R,2,none⟩) (Or.inl rfl) b).set (p:=⟨R,3,none⟩) (Or.inl rfl) c).set (p:=⟨R,4,none⟩) (Or.inl rfl) d).set (p:=⟨R,5,none⟩) (Or.inl rfl) e).set (p:=⟨R,6,none⟩) (Or.inl rfl) f).set (p:=⟨R,7,none⟩) (Or.inl rfl) g).set (p:=⟨R,8,none⟩) (Or.inl rfl) i
theorem ah.setK(h:ah A w s)(b:Blk w C 42 9 f)(a c d e g i j:Value):ah A (Go.Proofs.YtjgckphgagdpaaaGreatDoor.setK w C a c d e g i j) s :=
 ((((((h.boxK b 2 a).boxK (b.set 2 a) 3 c).boxK ((b.set 2 a).set 3 c) 4 d).boxK (((b.set 2 a).set 3 c).set 4 d) 5 e).boxK ((((b.set 2 a).set 3 c).set 4 d).set 5 e) 6 g).boxK (((((b.set 2 a).set 3 c).set 4 d).set 5 e).set 6 g) 7 i).boxK ((((((b.set 2 a).set 3 c).set 4 d).set 5 e).set 6 g).set 7 i) 8 j
structure DoK(W:World)(E:Int)(T:St)(dn:Nat->Bool)(V:Nat->Value)(w:World):Prop where
 bel:Bw W w
 c10:dn 10=true->dn 9=true
 c11:dn 11=true->dn 9=true
 c12:dn 12=true->dn 9=true
 c14:dn 14=true->dn 9=true/\dn 13=true
 e12:dn 12=true->V 12 = .int .i64 E
 e15:dn 15=true->V 15 = .int .i64 E
 box:dn 13=true->∃B,V 13 = .pointer (some ⟨B,0,none⟩)/\W.heap.size<=B/\∃f,Blk w B 36 7 f
 got:dn 9=true->∃y:St,jb E T y/\(E=0->ah W.heap.size w y)/\V 9 = .tuple #[.agg #[.slice y.on.a y.on.n y.on.c,.slice y.os.a y.os.n y.os.c,.slice y.hs.a y.hs.n y.hs.c,.slice y.ms.a y.ms.n y.ms.c,.slice y.si.a y.si.n y.si.c,.slice y.so.a y.so.n y.so.c,.slice y.sf.a y.sf.n y.sf.c],.int .i64 E]/\(dn 10=true->V 10 = .tuple #[.agg #[.slice y.on.a y.on.n y.on.c,.slice y.os.a y.os.n y.os.c,.slice y.hs.a y.hs.n y.hs.c,.slice y.ms.a y.ms.n y.ms.c,.slice y.si.a y.si.n y.si.c,.slice y.so.a y.so.n y.so.c,.slice y.sf.a y.sf.n y.sf.c],.int .i64 E])/\(dn 11=true->V 11 = .agg #[.slice y.on.a y.on.n y.on.c,.slice y.os.a y.os.n y.os.c,.slice y.hs.a y.hs.n y.hs.c,.slice y.ms.a y.ms.n y.ms.c,.slice y.si.a y.si.n y.si.c,.slice y.so.a y.so.n y.so.c,.slice y.sf.a y.sf.n y.sf.c])/\(dn 14=true->∀B,V 13 = .pointer (some ⟨B,0,none⟩)->Blk w B 36 7 (λj=>y.cells.getD j default))
def DoP(C:Nat)(p:Pl)(s:St)(x:Ax)(w:World)(e:Ending)(w':World):Prop :=
 (doE p s x=0/\e = .returned (.tuple #[])/\Bt C w w'/\∃u,Clk C w' p u/\ah 0 w' u/\af u (doT p s x))\/(doE p s x≠0/\e=xc (doE p s x)/\Bw w w')
theorem av6(C:Nat)(p:Pl)(s:St)(x:Ax)(w:World)(hc:Clk C w p s)(hp:p.At w)(hs:s.At w)(hx:x.ls.At w):
  Calls Tryz.prog 31 #[.pointer (some ⟨C,0,none⟩),x.val] w λe w'=>DoP C p s x w e w':=by
 unfold Ax.val Ax.cells;obtain⟨t,hW,L,Y⟩:∃W,w.alloc (.cells #[.int .i64 x.k,.int .i64 x.a,.int .i64 x.b,.int .i64 x.c,.int .i64 x.n,.slice x.ls.a x.ls.n x.ls.c] 77)=W/\Bw w W/\Blk W w.heap.size 77 6 (λj=>(#[.int .i64 x.k,.int .i64 x.a,.int .i64 x.b,.int .i64 x.c,.int .i64 x.n,.slice x.ls.a x.ls.n x.ls.c]:Array Value).getD j default):=⟨_,rfl,brf.alloc nlr _,Blk.mk' rfl rfl⟩;have HW:=hid hW;obtain⟨E,hE⟩:∃E,doE p s x=E:=⟨_,rfl⟩;obtain⟨T,hT⟩:∃T,doT p s x=T:=⟨_,rfl⟩;have HE:=qa2 hE hT;have bd:Hid (∀i,Bw t i->Calls Tryz.prog 62 #[p.val,s.val,x.val] i λe w'=>∃y:St,e = .returned (.tuple #[y.val,.int .i64 E])/\y.At w'/\jb E T y/\(E=0->ah i.heap.size w' y)/\Bw i w'):=λi G=>by
  have hk:=L.trans (G.mono L.size);rw[<-hE,<-hT];exact aw1 p s x i (hp.below hk) (hs.below hk) (hx.below hk)
 have HC:Hid (∀i,Bw t i->Clk C i p s/\Bw w i):=λi G=>⟨Blk.below (Blk.below hc L) G,L.trans (G.mono L.size)⟩;have l:=(HC.o t brf).1;have zl:=l.lt;have d0:t.cell? ⟨C,0,none⟩=some (.slice p.ab p.nb p.cb):=l.k 0;have v0:=Qqq d0;have d1:t.cell? ⟨C,1,none⟩=some (.slice p.sa p.ns p.cs):=l.k 1;have v1:=Qqq d1;have d2:t.cell? ⟨C,2,none⟩=some (.slice s.on.a s.on.n s.on.c):=l.k 2;have v2:=Qqq d2;have d3:t.cell? ⟨C,3,none⟩=some (.slice s.os.a s.os.n s.os.c):=l.k 3;have v3:=Qqq d3;have d4:t.cell? ⟨C,4,none⟩=some (.slice s.hs.a s.hs.n s.hs.c):=l.k 4;have v4:=Qqq d4;have d5:t.cell? ⟨C,5,none⟩=some (.slice s.ms.a s.ms.n s.ms.c):=l.k 5;have v5:=Qqq d5;have d6:t.cell? ⟨C,6,none⟩=some (.slice s.si.a s.si.n s.si.c):=l.k 6;have v6:=Qqq d6;have d7:t.cell? ⟨C,7,none⟩=some (.slice s.so.a s.so.n s.so.c):=l.k 7;have v7:=Qqq d7;have d8:t.cell? ⟨C,8,none⟩=some (.slice s.sf.a s.sf.n s.sf.c):=l.k 8;have v8:=Qqq d8;have a0:t.cell? ⟨w.heap.size,0,none⟩=some (.int .i64 x.k):=Y.k 0;have u0:=Qqq a0;have a1:t.cell? ⟨w.heap.size,1,none⟩=some (.int .i64 x.a):=Y.k 1;have u1:=Qqq a1;have a2:t.cell? ⟨w.heap.size,2,none⟩=some (.int .i64 x.b):=Y.k 2;have u2:=Qqq a2;have a3:t.cell? ⟨w.heap.size,3,none⟩=some (.int .i64 x.c):=Y.k 3;have u3:=Qqq a3;have a4:t.cell? ⟨w.heap.size,4,none⟩=some (.int .i64 x.n):=Y.k 4;have u4:=Qqq a4;have a5:t.cell? ⟨w.heap.size,5,none⟩=some (.slice x.ls.a x.ls.n x.ls.c):=Y.k 5;have u5:=Qqq a5;have al:=Y.lt;clear hW L Y hc hp hs hx l hE hT;go_enter Tryz.func31,Tryz.ntmps31;go_wp2_with fail;rw[HW.o];clear HW;refine Ij (λw'=>∃p:Regrown,w'=grow (redrawn t p.d) p.os) [0,1,2,3,4,5,6,7,8] [9,10,11,12,13,14,15] ko ko ko ko ko ko ko ko (Qqx (brf.drew)) ?_;simp only[jg]
 repeat(go_big_quiet_step(fail))
 refine Qqz ?_;clear zl al d0 v0 d1 v1 d2 v2 d3 v3 d4 v4 d5 v5 d6 v6 d7 v7 d8 v8 a0 u0 a1 u1 a2 u2 a3 u3 a4 u4 a5 u5;refine⟨DoK t E T,λq V i D b0 => ?_,Qjx ⟨?zp9,Qjx ⟨?zp10,Qjx ⟨?zp11,Qjx ⟨?zp12,Qjx ⟨?zp13,Qjx ⟨?zp14,Qjx ⟨?zp15,Qjq _⟩⟩⟩⟩⟩⟩⟩,?zpdone⟩
 .have f:∀j∈[9,10,11,12,13,14,15],¬q j=true:=λj hj h=>by rw[b0 j hj] at h;cases h
  exact⟨ae D,λh=>absurd h (f 10 vq),λh=>absurd h (f 11 vq),λh=>absurd h (f 12 vq),λh=>absurd h (f 14 vq),λh=>absurd h (f 12 vq),λh=>absurd h (f 15 vq),λh=>absurd h (f 13 vq),λh=>absurd h (f 9 vq)⟩
 case zp9 =>
  intro q V i K D F hd g v;have u:=hid g;clear g D;refine ai _ rfl ?_;simp only[bw] at v ⊢;go_wp2_with fail;refine(bd.o i u.o.bel).mono ?_;rintro e wj ⟨y,rfl,-,a7,an,a6⟩;have HY:=qa3 a7 an a6;clear a7 an a6;simp only[St.val];go_wp2_with fail;have g:=u.o;have bu:¬q 10=true:=λh=>by rw[g.c10 h] at F;cases F
  have bv:¬q 11=true:=λh=>by rw[g.c11 h] at F;cases F
  have f12:¬q 12=true:=λh=>by rw[g.c12 h] at F;cases F
  have U:¬q 14=true:=λh=>by rw[(g.c14 h).1] at F;cases F
  have hb:=g.bel.trans (HY.o.2.2.mono g.bel.size);refine v _ _ (Qqx hb) ⟨hb,λ_=>qp _ _,λ_=>qp _ _,λ_=>qp _ _,λh=>absurd ts U,λh=>absurd ts f12,λh => ?_,λh => ?_,λ_=>⟨y,HY.o.1,λh=>(HY.o.2.1 h).mono g.bel.size,o9 _ _ _,λh=>absurd ts bu,λh=>absurd ts bv,λh=>absurd ts U⟩⟩
  .rw[az dc] at h;rw[fo V _ dc];exact g.e15 h
  rw[az dc] at h;rw[fo V _ dc];obtain⟨B,b1,b2,f,b3⟩:=g.box h;exact⟨B,b1,b2,f,b3.below HY.o.2.2⟩
 case zp10 =>
  intro q V i K D F hd g v;have Q:q 9=true:=hd 9 (Qjz ko) vq;obtain⟨y,m,o,z,r,g5,A⟩:=g.got Q;have u:=qa6 g m o r g5 A;have S:Hid (_=_):=z;clear g D m o r g5 A;refine ai _ rfl ?_;simp only[bw,z] at v ⊢;go_wp2_with fail;obtain⟨g,m,o,r,g5,A⟩:=u.o;have z:=S.o;have X:pu q 10 9=true:=Z3;exact v _ _ (Qqx g.bel) ⟨g.bel,λ_=>X,λh=>S3,λh=>S4,λh=>agw,λh=>Sa,λh=>Sf,λh=>Xb,λ_=>⟨y,m,o,Jl,λ_=>o9 _ _ _,λh=>Xc,λh B G=>Wz⟩⟩
 case zp11 =>
  intro q V i K D F hd g v;have Q:q 9=true:=g.c10 (hd 10 (Qjz ko) vq);obtain⟨y,m,o,z,r,g5,A⟩:=g.got Q;have aj:=r (hd 10 (Qjz ko) vq);have u:=qa6 g m o r g5 A;have S:Hid (_=_):=z;clear g D m o r g5 A;refine ai _ rfl ?_;simp only[bw,aj] at v ⊢;go_wp2_with fail;obtain⟨g,m,o,r,g5,A⟩:=u.o;have z:=S.o;have X:pu q 11 9=true:=Z3;exact v _ _ (Qqx g.bel) ⟨g.bel,λh=>S5,λ_=>X,λh=>S4,λh=>agw,λh=>Sa,λh=>Sf,λh=>Xb,λ_=>⟨y,m,o,Jl,λh=>S0,λ_=>o9 _ _ _,λh B G=>Wz⟩⟩
 case zp12 =>
  intro q V i K D F hd g v;have Q:q 9=true:=g.c10 (hd 10 (Qjz ko) vq);obtain⟨y,m,o,z,r,g5,A⟩:=g.got Q;have aj:=r (hd 10 (Qjz ko) vq);have u:=qa6 g m o r g5 A;have S:Hid (_=_):=z;clear g D m o r g5 A;refine ai _ rfl ?_;simp only[bw,aj] at v ⊢;go_wp2_with fail;obtain⟨g,m,o,r,g5,A⟩:=u.o;have z:=S.o;have X:pu q 12 9=true:=Z3;exact v _ _ (Qqx g.bel) ⟨g.bel,λh=>S5,λh=>S3,λ_=>X,λh=>agw,λ_=>o9 _ _ _,λh=>Sf,λh=>Xb,λ_=>⟨y,m,o,Jl,λh=>S0,λh=>Xc,λh B G=>Wz⟩⟩
 case zp13 =>
  intro q V i K D F hd g v;have u:=hid g;clear g D;refine ai _ rfl ?_;simp only[bw] at v ⊢;go_wp2_with fail;have g:=u.o;have G:Bw i (i.alloc (.cells #[.slice none 0 0,.slice none 0 0,.slice none 0 0,.slice none 0 0,.slice none 0 0,.slice none 0 0,.slice none 0 0] 36)):=brf.alloc nlr _;have hb:=g.bel.trans (G.mono g.bel.size);have U:¬q 14=true:=λh=>by rw[(g.c14 h).2] at F;cases F
  refine v _ _ (Qqx hb) ⟨hb,λh=>S5,λh=>S3,λh=>S4,λh=>absurd ts U,λh=>Sa,λh=>Sf,λ_=>⟨i.heap.size,o9 _ _ _,g.bel.size,_,Blk.mk' (cur:=#[.slice none 0 0,.slice none 0 0,.slice none 0 0,.slice none 0 0,.slice none 0 0,.slice none 0 0,.slice none 0 0]) rfl rfl⟩,λh => ?_⟩;rw[az dc] at h;obtain⟨y,m,o,z,r,g5,A⟩:=g.got h;exact⟨y,m,λh=>(o h).below G,Jl,λh=>S0,λh=>Xc,λh=>absurd ts U⟩
 case zp14 =>
  intro q V i K D F hd g v;have ay:q 13=true:=hd 13 (Qjz ko) vq;have ax:q 11=true:=hd 11 (Qjz ko) vq;have Q:=g.c11 ax;obtain⟨B,b1,b2,f,hz⟩:=g.box ay;obtain⟨y,m,o,z,r,g5,A⟩:=g.got Q;have aw:=g5 ax;obtain⟨zl,b7,b5,b8,zc1,b9,zc2,ca,zc3,cc,zc4,cd,zc5,ce,b6⟩:=z7 hz;have J:=And.intro (s7b hz y) (And.intro (s7w g.bel b2 y) (λh:E=0=>s7o (o h) hz y));unfold set7 at J;have M:Hid (_/\_/\(E=0->_)):=J;have u:=qa4 g m z r;have HV:=qa3 b1 aw b2;clear g D m o z r g5 A hz J;refine ai _ rfl ?_;simp only[bw,b1,aw] at v ⊢;go_wp2_with fail;obtain⟨g,m,z,r⟩:=u.o;have g5:=HV.o.2.1;refine v undef _ (Qqx M.o.2.1) ⟨M.o.2.1,λh=>S5,λh=>S3,λh=>S4,λ_=>(by rw[az dc,az dc];exact⟨Q,ay⟩),λh=>Sa,λh=>Sf,λ_=>⟨B,(by rw[fo V _ dc];exact HV.o.1),HV.o.2.2,_,M.o.1⟩,λ_=>⟨y,m,M.o.2.2,Jl,λh=>S0,λ_=>aj8,λ_ B' ak => ?_⟩⟩;rw[fo V _ dc,HV.o.1] at ak;simp only[co,Value.pointer.injEq] at ak;subst ak;exact M.o.1
 case zp15 =>
  intro q V i K D F hd g v;have bx:q 12=true:=hd 12 (Qjz ko) vq;have e12:=g.e12 bx;have u:=hid g;clear g D;refine ai _ rfl ?_;simp only[bw,e12] at v ⊢;go_wp2_with fail;have g:=u.o;refine v _ _ (Qqx g.bel) ⟨g.bel,λh=>S5,λh=>S3,λh=>S4,λh=>agw,λh=>Sa,λ_=>o9 _ _ _,λh=>Xb,λh => ?_⟩;rw[az dc] at h;obtain⟨y,m,o,z,r,g5,A⟩:=g.got h;exact⟨y,m,o,Jl,λh=>S0,λh=>Xc,λh B G=>Wz⟩
 case zpdone =>
  intro q V i D hd g;obtain⟨B,b1,b2,f,hz⟩:=g.box (hd 13 vq);obtain⟨y,m,o,z,r,g5,A⟩:=g.got (hd 9 vq);have H:=A (hd 14 vq) B b1;have e10:=r (hd 10 vq);have av:=g5 (hd 11 vq);have e12:=g.e12 (hd 12 vq);have e15:=g.e15 (hd 15 vq);have HK:=qa4 H g.bel m o;clear g D hz m o r g5 A H;simp only[bw,b1,z,e10,av,e12,e15];refine NoPanic.normal ?_;clear b1 z e10 av e12 e15 hd;by_cases h0:E=0;rotate_left
  .have au:=hid h0;clear h0;go_wp2_with(go_at_call 63;refine(afk _ au.o _).mono ?_;rintro e w9 ⟨rfl,rfl⟩;unfold xc);exact⟨rfl,Or.inr ⟨by rw[HE.o.1];exact au.o,by rw[HE.o.1];rfl,(HC.o _ HK.o.2.1).2⟩⟩
  have l:=(HC.o i HK.o.2.1).1;have H:=HK.o.1;have c4:C<t.heap.size:=(HC.o t brf).1.lt;have zl:=l.lt;have bl:=H.lt;have b7:=l.frozen 2;have b5:i.cell? ⟨C,2,none⟩=some (.slice s.on.a s.on.n s.on.c):=l.k 2;have cx:i.cell? ⟨B,0,none⟩=some (.slice y.on.a y.on.n y.on.c):=H.k 0;have b8:=l.frozen 3;have zc1:i.cell? ⟨C,3,none⟩=some (.slice s.os.a s.os.n s.os.c):=l.k 3;have cy:i.cell? ⟨B,1,none⟩=some (.slice y.os.a y.os.n y.os.c):=H.k 1;have b9:=l.frozen 4;have zc2:i.cell? ⟨C,4,none⟩=some (.slice s.hs.a s.hs.n s.hs.c):=l.k 4;have cz:i.cell? ⟨B,2,none⟩=some (.slice y.hs.a y.hs.n y.hs.c):=H.k 2;have ca:=l.frozen 5;have zc3:i.cell? ⟨C,5,none⟩=some (.slice s.ms.a s.ms.n s.ms.c):=l.k 5;have c0:i.cell? ⟨B,3,none⟩=some (.slice y.ms.a y.ms.n y.ms.c):=H.k 3;have cc:=l.frozen 6;have zc4:i.cell? ⟨C,6,none⟩=some (.slice s.si.a s.si.n s.si.c):=l.k 6;have c1:i.cell? ⟨B,4,none⟩=some (.slice y.si.a y.si.n y.si.c):=H.k 4;have cd:=l.frozen 7;have zc5:i.cell? ⟨C,7,none⟩=some (.slice s.so.a s.so.n s.so.c):=l.k 7;have c2:i.cell? ⟨B,5,none⟩=some (.slice y.so.a y.so.n y.so.c):=H.k 5;have ce:=l.frozen 8;have b6:i.cell? ⟨C,8,none⟩=some (.slice s.sf.a s.sf.n s.sf.c):=l.k 8;have c3:i.cell? ⟨B,6,none⟩=some (.slice y.sf.a y.sf.n y.sf.c):=H.k 6;have J:=And.intro (l.setK y) (And.intro (Bt.setK (Bt.refl C i) (.slice y.on.a y.on.n y.on.c) (.slice y.os.a y.os.n y.os.c) (.slice y.hs.a y.hs.n y.hs.c) (.slice y.ms.a y.ms.n y.ms.c) (.slice y.si.a y.si.n y.si.c) (.slice y.so.a y.so.n y.so.c) (.slice y.sf.a y.sf.n y.sf.c)) (ah.setK ((HK.o.2.2.2 h0).mono (Qxz _)) l (.slice y.on.a y.on.n y.on.c) (.slice y.os.a y.os.n y.os.c) (.slice y.hs.a y.hs.n y.hs.c) (.slice y.ms.a y.ms.n y.ms.c) (.slice y.si.a y.si.n y.si.c) (.slice y.so.a y.so.n y.so.c) (.slice y.sf.a y.sf.n y.sf.c)));have HZ:Hid (doE p s x=0/\af y (doT p s x)/\Bt C w i):=⟨HE.o.1.trans h0,by rw[HE.o.2];exact HK.o.2.2.1.1 h0,Bt.of (HC.o i HK.o.2.1).2 nlr⟩;unfold setK at J;have M:Hid (_/\_/\_):=J;clear J l H;subst h0;go_wp2_with(go_at_call 63;refine ap (Rk _) ?_)
  go_end0
  exact Or.inl ⟨HZ.o.1,rfl,HZ.o.2.2.trans M.o.2.1,y,M.o.1,M.o.2.2,HZ.o.2.1⟩
section
variable {p:Pl} {s:St}
theorem P3(r:am p s)(t:List UInt8):(ij p s t).length<=3000:=by
 have g:∀e:Int,0<=e/\e<=999999->(pa e).length<=3000:=λe h=>by
  unfold pa;rw[List.length_append];have:=Gp h;show 6+_<=_;omega
 obtain⟨x,j,b⟩:=Fq 32 t [];cases c:py j with
 | none=>rw[(M3 b c).1];exact g 1 dc
 | some l =>
  cases f:tn (j5 x) l with
  | some a =>
   by_cases h:doE p s a=0
   .rw[((Kd b c f).1 h).1];decide
   rw[((Kd b c f).2 h).1];have:=Yo r a;exact g _ ow
  | none =>
   cases hs:fe p s (j5 x) l with
   | none=>rw[(Ok b c f hs).1];exact g 1 dc
   | some q =>
    obtain⟨e,out⟩:=q;obtain⟨d,k,i⟩:=rh r hs;by_cases h:e=0
    .rw[(Ec b c f hs).1 h];have:=Fo out out.length i;rw[List.take_length] at this;omega
    rw[(Ec b c f hs).2.1 h];rcases d with d|d
    .exact absurd d h
    rw[d.1];exact g 4 dc
end
theorem Nf{p:Pl}:∀(ls:List (List UInt8)) {s:St},am p s->(nw p s ls).length<=3001*ls.length
 | [],_,_=>Nat.le_refl _
 | t :: ls,s,r=>by
  have a:=P3 r t;have b:=Nf ls (Ke r t);simp only[nw,List.length_append,List.length_cons,List.length_nil];omega
theorem Ng{p:Pl}:∀(ls:List (List UInt8)) {y s:St},am p s->af y s->nw p y ls=nw p s ls/\af (Bk p y ls) (Bk p s ls)
 | [],_,_,_,e=>⟨rfl,e⟩
 | t :: ls,y,s,r,e=>by
  obtain⟨a,b⟩:=M4 r e t;obtain⟨c,d⟩:=Ng ls (Ke r t) b;rw[nw,nw,a,c];exact⟨rfl,d⟩
def Kp(S:Nat)(w:World)(y:St):Prop:=∀w'':World,Bt S w w''->y.At w''
theorem Kp.at{S:Nat}(h:Kp S w y):y.At w:=h w (Bt.refl S w)
theorem Kp.bt{S:Nat}(h:Kp S w y)(c:Bt S w w'):Kp S w' y:=λa b=>h a (c.trans b)
theorem Kp.below{S:Nat}(h:Kp S w y)(a:Bw w w'):Kp S w' y:=h.bt (Bt.of a nlr)
theorem Fr.kp{S:Nat}(h:Fr m w y)(e:S<m):Kp S w y:=λb a=>h b a.size λg d c=>a.block g c ow
theorem Fr.kpo{S:Nat}(h:Fr m w y)(e:w.heap.size<=S)(a:Bw w w'):Kp S w' y:=λd b=>h d (Qzx a.size b.size) λg _ c=>(b.block g (Xzx c a.size) ow).trans (a.block g c)
structure Tw(S:Nat)(W:World)(D:Nat->Value)(X:List UInt8)(T:St)(dn:Nat->Bool)(V:Nat->Value)(w:World):Prop where
 bt:Bt S W w
 pre:dn 10=false->w.heap[S]?=W.heap[S]?
 val:∀j,j<6\/j=9\/j=11->dn j=true->V j=D j
 o7:dn 7=true->dn 6=true
 o8:dn 8=true->dn 6=true
 o10:dn 10=true->dn 6=true/\dn 1=true
 got:dn 6=true->∃u:St,Kp S w u/\af u T/\V 6 = .tuple #[.agg #[.slice u.on.a u.on.n u.on.c,.slice u.os.a u.os.n u.os.c,.slice u.hs.a u.hs.n u.hs.c,.slice u.ms.a u.ms.n u.ms.c,.slice u.si.a u.si.n u.si.c,.slice u.so.a u.so.n u.so.c,.slice u.sf.a u.sf.n u.sf.c],.string ⟨X.toArray⟩]/\(dn 7=true->V 7 = .tuple #[.agg #[.slice u.on.a u.on.n u.on.c,.slice u.os.a u.os.n u.os.c,.slice u.hs.a u.hs.n u.hs.c,.slice u.ms.a u.ms.n u.ms.c,.slice u.si.a u.si.n u.si.c,.slice u.so.a u.so.n u.so.c,.slice u.sf.a u.sf.n u.sf.c],.string ⟨X.toArray⟩])/\(dn 8=true->V 8 = .agg #[.slice u.on.a u.on.n u.on.c,.slice u.os.a u.os.n u.os.c,.slice u.hs.a u.hs.n u.hs.c,.slice u.ms.a u.ms.n u.ms.c,.slice u.si.a u.si.n u.si.c,.slice u.so.a u.so.n u.so.c,.slice u.sf.a u.sf.n u.sf.c])/\(dn 10=true->Blk w S 36 7 (λj=>u.cells.getD j default))
section
variable {S:Nat} {W w:World} {D:Nat->Value} {X:List UInt8} {T:St} {dn:Nat->Bool} {V:Nat->Value}
theorem Tw.bel(h:Tw S W D X T dn V w)(a:dn 10=false):Bw W w :=
 ⟨h.bt.os,h.bt.tape,h.bt.output,h.bt.size,λq b=>by
  by_cases c:q=S
  .rw[c];exact h.pre a
  exact h.bt.block q b c⟩
theorem Tw.put(h:Tw S W D X T dn V w)(hi:i<6\/i=9\/i=11)(hv:v=D i):Tw S W D X T (pu dn i) (upd V i v) w:=by
 have e6:¬6=i:=ow;have e7:¬7=i:=ow;have b:¬8=i:=ow;have e10:¬10=i:=ow;refine⟨h.bt,?_,λj hj hd => ?_,?_,?_,?_,?_⟩
 .rw[az e10];exact h.pre
 .exact ank
 .rw[az e7,az e6];exact h.o7
 .rw[az b,az e6];exact h.o8
 .rw[az e10,az e6];refine λa=>⟨(h.o10 a).1,?_⟩;by_cases c:1=i
  .exact Bc
  rw[az c];exact(h.o10 a).2
 rw[az e6,az e7,az b,az e10,fo V v e6,fo V v e7,fo V v b];exact h.got
end
theorem Q0{t:List UInt8}(h:i<t.length):(t.take (i+1)).count 10=(t.take i).count 10+(if t.getD i 0=10 then 1 else 0):=by
 rw[Zr h,List.count_append,List.count_cons,List.count_nil];by_cases c:t.getD i 0=10
 .rw[if_pos c,c];rfl
 rw[if_neg c];have:(t.getD i 0==10)=false:=by simpa using c
 rw[this]
 rfl
theorem Zb{t:List UInt8}(h:t≠[]):t.getLast?=some (t.getD (t.length-1) 0):=by
 have a:t.length-1<t.length:=by
  have:=List.length_pos_iff.2 h;omega
 rw[List.getLast?_eq_getElem?];simp[List.getD,List.getElem?_eq_getElem a]
def Ww(p:Pl)(t:List UInt8)(w:World)(e:Ending)(w':World):Prop :=
 ∃s0,(pi p t=0->un p s0)/\e = .returned (.tuple #[.string ⟨(za p s0 t).toArray⟩,.int .i64 (pi p t)])/\Bw w w'
theorem aen(p:Pl)(t:List UInt8)(w:World)(hp:p.At w)(ht:t.length<=4611686018427387904):
  Calls Tryz.prog 5 #[p.val,.string ⟨t.toArray⟩] w λe w'=>Ww p t w e w':=by
 have tl:=yt t;obtain⟨U,hW,ax,X0,b2⟩:∃W,w.alloc (.cells #[.slice p.ab p.nb p.cb,.slice p.sa p.ns p.cs] 25)=W/\Bw w W/\Blk W w.heap.size 25 2 (λj=>(#[.slice p.ab p.nb p.cb,.slice p.sa p.ns p.cs]:Array Value).getD j default)/\W.heap.size=w.heap.size+1:=⟨_,rfl,brf.alloc nlr _,Blk.mk' rfl rfl,vq⟩;have H:Hid (∀d,Bw U d->Blk d w.heap.size 25 2 (λj=>(#[.slice p.ab p.nb p.cb,.slice p.sa p.ns p.cs]:Array Value).getD j default)/\p.At d/\Bw w d):=λd h=>⟨X0.below h,(hp.below ax).below h,ax.trans (h.mono ax.size)⟩;have HW:=hid hW;have dp:=hid b2;clear hW X0 ax hp b2;unfold Pl.val;go_enter Tryz.func5,Tryz.ntmps5;go_wp2_with fail;rw[HW.o];refine(G4 p U (H.o U brf).2.1).mono ?_;rintro e w1 ⟨rfl,hB⟩;have A:=hid hB;clear hB HW;by_cases h0:iu p=0;rotate_left
 .have E:pi p t=iu p:=if_neg h0;obtain⟨EE,be⟩:∃EE,iu p=EE:=⟨_,rfl⟩;rw[be] at E h0 ⊢;have HE:=qa3 h0 E be;have g0:(EE !=0)=true:=qh;clear h0 E be;go_wp2_with fail
  go_ret2
  refine⟨mw,λh=>absurd (HE.o.2.1.symm.trans h) HE.o.1,?_,(H.o w1 A.o).2.2⟩;have:za p mw t=[]:=if_neg (by rw[HE.o.2.1];exact HE.o.1);rw[this,HE.o.2.1]
  rfl
 have ap:=hid h0;rw[h0];clear h0;go_wp2_with fail
 go_loopw [7,8] (λcv iv d=>∃(i c:Nat),i<=t.length/\c<=61/\iv = .int .i64 i/\cv = .int .i64 c/\Hid (c=(t.take i).count 10)/\d=w1) (λ_ iv _=>t.length-(intOf iv).toNat)
 case atStart=>exact⟨0,0,Qxz _,Qxz _,rfl,rfl,rfl,rfl⟩
 obtain⟨i,c,hi,hc,rfl,rfl,l,rfl⟩:=hrel;by_cases bg:i<t.length/\c<=60
 .obtain⟨D,de⟩:=bg;have q0:(i:Int)<(t.length:Int):=ow;have q1:(c:Int)<=60:=ow;have G:=Bu t D;by_cases T:t.getD i 0=10
  .have HN:Hid (c+1=(t.take (i+1)).count 10):=by show _=_;rw[Q0 D,if_pos T,l.o]
   rw[Eh.2 T] at G;clear T;go_wp2_with fail;exact⟨⟨i+1,c+1,ow,ow,vo,vo,HN,trivial⟩,Cy⟩
  have HN:Hid (c=(t.take (i+1)).count 10):=by show _=_;rw[Q0 D,if_neg T,l.o];rfl
  have c7:(rdN t i==10)=false:=by
   rw[beq_eq_false_iff_ne];exact λh=>T (Eh.1 h)
  clear T
  generalize rdN t i=Z at *
  go_wp2_with fail;exact⟨⟨i+1,c,ow,hc,vo,rfl,HN,trivial⟩,Cy⟩
 have a3:Hid (60<c↔60<t.count 10):=by
  by_cases D:i<t.length
  .have c0:60<c:=ow;refine⟨λ_ => ?_,λ_=>c0⟩;have z:(t.take i).count 10<=t.count 10:=by
    conv=>rhs;rw[<-List.take_append_drop i t]
    rw[List.count_append];omega
   have:=l.o;omega
  have c2:i=t.length:=ow;have h:=l.o;rw[c2,List.take_length] at h;rw[h];exact Iff.rfl
 have a7:Hid (4096<t.length\/60<c->∀d,Bw U d->Ww p t w (.returned (.tuple #[.string ⟨#[]⟩,.int .i64 2])) d):=λh d hB=>by
  have E:pi p t=2:=by
   unfold pi;rw[if_pos ap.o,if_pos (h.imp_right a3.o.1)]
  refine⟨mw,λh=>absurd (E.symm.trans h) dc,?_,(H.o d hB).2.2⟩;have:za p mw t=[]:=if_neg (by rw[E];decide);rw[this,E]
 by_cases D:i<t.length
 .have q0:(i:Int)<(t.length:Int):=ow;have q1:¬(c:Int)<=60:=ow;have q2:(60:Int)<(c:Int):=ow;have HM:Hid (60<c):=by show _<_;omega
  clear bg;by_cases h4:4096<t.length
  .have q3:(4096:Int)<(t.length:Int):=ow;exact ab5
  have q3:¬(4096:Int)<(t.length:Int):=ow;exact ab5
 have q0:¬(i:Int)<(t.length:Int):=ow;clear bg;by_cases h4:4096<t.length
 .have q3:(4096:Int)<(t.length:Int):=ow;have HM:=hid h4;go_wp2_with fail
  go_ret2
  exact a7.o (Or.inl HM.o) wr A.o
 have q3:¬(4096:Int)<(t.length:Int):=ow;by_cases h6:60<c
 .have q4:(60:Int)<(c:Int):=ow;have HM:=hid h6;exact ab5
 have q4:¬(60:Int)<(c:Int):=ow;have J:Hid (¬(4096<t.length\/60<t.count 10)):=λh=>h.elim h4 (λh=>h6 (a3.o.2 h));clear a7;by_cases v:t≠[]/\t.getLast?≠some 10
 .have E:pi p t=1:=by
   unfold pi;rw[if_pos ap.o,if_neg J.o,if_pos v]
  have ad:=hid E;have hl:=List.length_pos_iff.2 v.1;have q5:(0:Int)<(t.length:Int):=ow;have G:=Bu t (k:=t.length-1) ow;have dt:(rdN t (t.length-1) !=10)=true:=by
   have z:=v.2;rw[Zb v.1] at z;have:rdN t (t.length-1)≠10:=λh=>z (by rw[Eh (c:=10) |>.1 h])
   simpa using this
  rw[show((t.length-1:Nat):Int)=(t.length:Int)-1 by omega] at G;clear v E hl
  generalize rdN t (t.length-1)=Z at *
  go_wp2_with fail
  go_ret2
  refine⟨mw,λh=>absurd (ad.o.symm.trans h) dc,?_,(H.o wr A.o).2.2⟩;have:za p mw t=[]:=if_neg (by rw[ad.o];decide);rw[this,ad.o]
  rfl
 have ad:Hid (pi p t=0):=by
  show _=_;unfold pi;rw[if_pos ap.o,if_neg J.o,if_neg v]
 have bn:Hid (∀d,Bw U d->Calls Tryz.prog 15 #[.agg #[.slice p.ab p.nb p.cb,.slice p.sa p.ns p.cs]] d λe w'=>∃s:St,e = .returned s.val/\Fr d.heap.size w' s/\un p s/\Bw d w'):=λd hB=>acv p d (H.o d hB).2.1 ap.o;have d0:wr.cell? ⟨w.heap.size,0,none⟩=some (.slice p.ab p.nb p.cb):=(H.o wr A.o).1.k 0;have d1:wr.cell? ⟨w.heap.size,1,none⟩=some (.slice p.sa p.ns p.cs):=(H.o wr A.o).1.k 1;have dl:=(H.o wr A.o).1.lt;have cl:t=[]\/(0<t.length/\rdN t (t.length-1)=10):=by
  by_cases h:t=[]
  .exact Or.inl h
  refine Or.inr ⟨List.length_pos_iff.2 h,?_⟩;have z:t.getLast?=some 10:=by
   by_cases h2:t.getLast?=some 10
   .exact h2
   exact absurd ⟨h,h2⟩ v
  rw[Zb h] at z;exact(Eh (c:=10)).2 (Option.some.inj z)
 have a6:Hid (t.length<=4096/\t.count 10<=60):=by
  have:=J.o;exact⟨ow,ow⟩
 clear v a3 J hi hc l;rcases cl with bh|⟨ck,a0⟩
 all_goals
  first|(have q5:¬(0:Int)<(t.length:Int):=(by rw[bh];decide);clear bh;go_wp2_with fail)|(have q5:(0:Int)<(t.length:Int):=ow;have G:=Bu t (k:=t.length-1) ow;rw[a0,show((t.length-1:Nat):Int)=(t.length:Int)-1 by omega] at G;clear a0 ck;go_wp2_with fail;clear G)
  clear d0 d1 dl q0 q3 q4 q5;refine(bn.o wr A.o).mono ?_;rintro e w2 ⟨s,rfl,b3,bi,bs⟩;obtain⟨W3,bv,bc,K3⟩:=ab7 w2 s;have bq:=hid bv;have av:Hid (am p s/\un p s):=⟨et (Dr ap.o bi),bi⟩;have ak:=A.o.trans (bs.mono A.o.size);have an:Hid (Blk W3 w2.heap.size 36 7 (λj=>s.cells.getD j default)/\Kp w2.heap.size W3 s/\Bt w2.heap.size U W3/\U.heap.size<=w2.heap.size):=⟨K3,b3.kpo nlr bc,Bt.of (ak.trans (bc.mono ak.size)) nlr,ak.size⟩;clear bv bc K3 b3 bi bs bn ak;simp only[St.val];go_wp2_with fail;rw[bq.o];clear bq
  generalize w2.heap.size=S at *
  have a8:=hid an.o.2.2.2
  go_loopw [10,11,12] (λov fv iv d=>∃(i f:Nat) (L:List (List UInt8)) (y:St) (X:List UInt8),i<=t.length/\f<=i/\iv = .int .i64 i/\fv = .int .i64 f/\ov = .string ⟨X.toArray⟩/\Hid (X=nw p s L/\L++mp 10 ((t.drop f).take (i-f)) (t.drop i)=mp 10 [] t/\Blk d S 36 7 (λj=>y.cells.getD j default)/\Kp S d y/\af y (Bk p s L)/\Bt S U d)) (λ_ _ iv _=>t.length-(intOf iv).toNat)
  .exact⟨0,0,[],s,[],Qxz _,Nat.le_refl _,rfl,rfl,rfl,rfl,vq,an.o.1,an.o.2.1,af.self _,an.o.2.2.1⟩
  obtain⟨i,f,L,y,X,hi,hf,rfl,rfl,rfl,l⟩:=hrel;clear an;have cr:Hid (X.length<=180060/\L.length<=60):=by
   have z:=congrArg List.length l.o.2.1;rw[List.length_append,Co (t:=t)] at z;have h2:=Nf L av.o.1;have:=a6.o.2;rw[<-l.o.1] at h2;exact⟨ow,ow⟩
  by_cases D:i<t.length;rotate_left
  .have q0:¬(i:Int)<(t.length:Int):=ow;have J:Hid (X=za p s t/\Bw w wr):=by
    have h:=l.o.2.1;rw[List.drop_eq_nil_of_le (ow:t.length<=i),mp,List.append_nil] at h;refine⟨?_,?_⟩
    .have hs:za p s t=nw p s (mp 10 [] t):=if_pos ad.o;rw[l.o.1,h,hs]
    have hB:=l.o.2.2.2.2.2.below (B:=U.heap.size) a8.o nlr;exact(H.o wr hB).2.2
   clear l;go_wp2_with fail
   go_ret2
   exact⟨s,λ_=>av.o.2,by rw[<-J.o.1,ad.o];rfl,J.o.2⟩
  have q0:(i:Int)<(t.length:Int):=ow
  try(exfalso;omega)
  all_goals
   have G:=Bu t D;by_cases T:t.getD i 0=10;rotate_left
   .have HN:Hid (L++mp 10 ((t.drop f).take (i+1-f)) (t.drop (i+1))=mp 10 [] t):=by
     have z:=l.o.2.1;rw[Hx D,mp,if_neg T,<-Zf hf D] at z;exact z
    have c7:(rdN t i==10)=false:=by
     rw[beq_eq_false_iff_ne];exact λh=>T ((Eh (c:=10)).1 h)
    clear T
    generalize rdN t i=Z at *
    go_wp2_with fail;exact⟨⟨i+1,f,L,y,X,ow,ow,vo,rfl,rfl,l.o.1,HN.o,l.o.2.2⟩,Cy⟩
   rw[(Eh (c:=10)).2 T] at G;obtain⟨q,aw⟩:∃q,(t.drop f).take (i-f)=q:=⟨_,rfl⟩;have dh:(⟨t.toArray⟩:ByteArray).extract f i=⟨q.toArray⟩:=by rw[Zg,aw]
   have HN:Hid ((L++[q])++mp 10 ((t.drop (i+1)).take (i+1-(i+1))) (t.drop (i+1))=mp 10 [] t/\q.length<=4096):=by
    have z:=l.o.2.1;rw[Hx D,T,mp,if_pos rfl,aw] at z;refine⟨by rw[<-z];simp,?_⟩;rw[<-aw,List.length_take,List.length_drop];have:=a6.o.1;omega
   clear T aw;have bp:Hid (am p y):=l.o.2.2.2.2.1.right (A7 L av.o.1);go_wp2_with fail;clear G;obtain⟨F,bx⟩:∃F,ij p y q=F:=⟨_,rfl⟩;obtain⟨DV,bu⟩:∃DV:Nat->Value,DV=λj=>(#[.agg #[.slice p.ab p.nb p.cb,.slice p.sa p.ns p.cs],.agg #[.slice y.on.a y.on.n y.on.c,.slice y.os.a y.os.n y.os.c,.slice y.hs.a y.hs.n y.hs.c,.slice y.ms.a y.ms.n y.ms.c,.slice y.si.a y.si.n y.si.c,.slice y.so.a y.so.n y.so.c,.slice y.sf.a y.sf.n y.sf.c],.string ⟨t.toArray⟩,.int .i64 (f:Int),.int .i64 (i:Int),.string ⟨q.toArray⟩,.bool true,.bool true,.bool true,.string ⟨F.toArray⟩,.bool true,.string ⟨F.toArray⟩]:Array Value).getD j default:=⟨_,rfl⟩;have D0:Hid (DV 0 = .agg #[.slice p.ab p.nb p.cb,.slice p.sa p.ns p.cs]):=El;have D1:Hid (DV 1 = .agg #[.slice y.on.a y.on.n y.on.c,.slice y.os.a y.os.n y.os.c,.slice y.hs.a y.hs.n y.hs.c,.slice y.ms.a y.ms.n y.ms.c,.slice y.si.a y.si.n y.si.c,.slice y.so.a y.so.n y.so.c,.slice y.sf.a y.sf.n y.sf.c]):=El;have D2:Hid (DV 2 = .string ⟨t.toArray⟩):=El;have D3:Hid (DV 3 = .int .i64 (f:Int)):=El;have D4:Hid (DV 4 = .int .i64 (i:Int)):=El;have D5:Hid (DV 5 = .string ⟨q.toArray⟩):=El;have D9:Hid (DV 9 = .string ⟨F.toArray⟩):=El;have bm:Hid (DV 11 = .string ⟨F.toArray⟩):=El;have a9:=hid bx;clear bu bx;refine Ez [0,1,2,3,4,5,6,7,8,9,10,11] ko ko ko ko (Tw S wr DV F (jh p y q)) ?_ (Qjx ⟨?_,Qjx ⟨?_,Qjx ⟨?_,Qjx ⟨?_,Qjx ⟨?_,Qjx ⟨?_,Qjx ⟨?_,Qjx ⟨?_,Qjx ⟨?_,Qjx ⟨?_,Qjx ⟨?_,Qjx ⟨?_,Qjq _⟩⟩⟩⟩⟩⟩⟩⟩⟩⟩⟩⟩) ?_
   .intro m V hd;have f:∀j,j<12->¬m j=true:=λj hj h=>by rw[hd j ass] at h;cases h
    exact⟨Bt.drew (Bt.refl S wr),λ_=>rfl,λj hj h=>absurd h (f j ow),λh=>absurd h (f 7 dc),λh=>absurd h (f 8 dc),λh=>absurd h (f 10 dc),λh=>absurd h (f 6 dc)⟩
   .intro m V d K r hd b o;have g:=hid b;have ae:=(l.o.2.2.2.2.2.trans b.bt).below (B:=U.heap.size) a8.o nlr;have d0:d.cell? ⟨w.heap.size,0,none⟩=some (.slice p.ab p.nb p.cb):=(H.o d ae).1.k 0;have d1:d.cell? ⟨w.heap.size,1,none⟩=some (.slice p.sa p.ns p.cs):=(H.o d ae).1.k 1;have dl:=(H.o d ae).1.lt;clear b ae;refine ai _ rfl ?_;simp only[bw] at o ⊢;go_wp2_with fail;exact g.o.put dc D0.o.symm
   .intro m V d K r hd b o;have g:=hid b;have ag:m 10=false:=by
     cases h:m 10
     .rfl
     rw[(b.o10 h).2] at r;cases r
    obtain⟨m1,p0,p1,p2,p3,p4,p5,p6⟩:=Boxed.of (l.o.2.2.1.below (b.bel ag));clear b ag;refine ai _ rfl ?_;simp only[bw] at o ⊢;go_wp2_with fail;exact g.o.put dc D1.o.symm
   .intro m V d K r hd b o;have g:=hid b;clear b;refine ai _ rfl ?_;simp only[bw] at o ⊢;go_wp2_with fail;exact g.o.put dc D2.o.symm
   .intro m V d K r hd b o;have g:=hid b;clear b;refine ai _ rfl ?_;simp only[bw] at o ⊢;go_wp2_with fail;exact g.o.put dc D3.o.symm
   .intro m V d K r hd b o;have g:=hid b;clear b;refine ai _ rfl ?_;simp only[bw] at o ⊢;go_wp2_with fail;exact g.o.put dc D4.o.symm
   .intro m V d K r hd b o;have e2:V 2 = .string ⟨t.toArray⟩:=(b.val 2 dc (hd 2 (Qjz ko) vq)).trans D2.o;have e3:V 3 = .int .i64 (f:Int):=(b.val 3 dc (hd 3 (Qjz ko) vq)).trans D3.o;have e4:V 4 = .int .i64 (i:Int):=(b.val 4 dc (hd 4 (Qjz ko) vq)).trans D4.o;have g:=hid b;clear b;have q6:(0:Int)<=(f:Int):=ow;have q7:(f:Int)<=(i:Int):=ow;have q8:(i:Int)<=(t.length:Int):=ow;refine ai _ rfl ?_;simp only[bw,e2,e3,e4] at o ⊢;go_wp2_with fail;exact g.o.put dc D5.o.symm
   rotate_left
   .intro m V d K r hd b o;have h6:m 6=true:=hd 6 (Qjz ko) vq;obtain⟨u,M,Q,Y,x,g5,g6⟩:=b.got h6;have g:=hid b;have HG:=qa5 M Q Y g5 g6;clear b M Q x g5 g6;refine ai _ rfl ?_;simp only[bw,Y] at o ⊢;go_wp2_with fail;have b:=g.o;refine⟨b.bt,λh=>b.pre ts,λj hj hd => ?_,λ_=>Jm,λ_=>Jm,λh=>axp,λ_=>⟨u,HG.o.1,HG.o.2.1,as2,λ_=>o9 _ _ _,λh=>(by rw[az dc] at h;rw[fo V _ dc];exact HG.o.2.2.2.1 h),λh=>as0⟩⟩;rw[az ow] at hd;rw[fo V _ ow];exact b.val j hj hd
   .intro m V d K r hd b o;have h7:m 7=true:=hd 7 (Qjz ko) vq;have h6:=b.o7 h7;obtain⟨u,M,Q,Y,x,g5,g6⟩:=b.got h6;have x:=x h7;have g:=hid b;have HG:=qa5 M Q Y x g6;clear b M Q Y g5 g6;refine ai _ rfl ?_;simp only[bw,x] at o ⊢;go_wp2_with fail;have b:=g.o;refine⟨b.bt,λh=>b.pre ts,λj hj hd => ?_,λ_=>Jm,λ_=>Jm,λh=>axp,λ_=>⟨u,HG.o.1,HG.o.2.1,as2,λ_=>(by rw[fo V _ dc];exact HG.o.2.2.2.1),λ_=>o9 _ _ _,λh=>as0⟩⟩;rw[az ow] at hd;rw[fo V _ ow];exact b.val j hj hd
   .intro m V d K r hd b o;have h7:m 7=true:=hd 7 (Qjz ko) vq;obtain⟨u,M,Q,Y,x,g5,g6⟩:=b.got (b.o7 h7);have x:=x h7;have g:=hid b;clear b M Q Y g5 g6;refine ai _ rfl ?_;simp only[bw,x] at o ⊢;go_wp2_with fail;exact g.o.put dc D9.o.symm
   .intro m V d K r hd b o;have h8:m 8=true:=hd 8 (Qjz ko) vq;have z:m 1=true:=hd 1 (Qjz ko) vq;have h6:=b.o8 h8;obtain⟨u,M,Q,Y,x,g5,g6⟩:=b.got h6;have g5:=g5 h8;have g:=hid b;have hz:=l.o.2.2.1.below (b.bel r);obtain⟨zl,dx,dv,dy,zc1,dz,zc2,d2,zc3,d3,zc4,d4,zc5,d5,dw⟩:=z7 hz;have au:=And.intro (s7b hz u) (And.intro (Bt.set7 (Bt.refl S d) (.slice u.on.a u.on.n u.on.c) (.slice u.os.a u.os.n u.os.c) (.slice u.hs.a u.hs.n u.hs.c) (.slice u.ms.a u.ms.n u.ms.c) (.slice u.si.a u.si.n u.si.c) (.slice u.so.a u.so.n u.so.c) (.slice u.sf.a u.sf.n u.sf.c)) (And.intro Q (And.intro Y x)));have a5:=M.bt au.2.1;unfold set7 at au a5;have J:Hid (_/\_/\_/\_/\_):=au;have cd:=hid a5;clear b M Q Y x g6 hz au a5;refine ai _ rfl ?_;simp only[bw,g5] at o ⊢;go_wp2_with fail;have b:=g.o;refine o (.bool true) _ ⟨b.bt.trans J.o.2.1,λh=>Se,λj hj hd => ?_,λh=>(by rw[az dc] at h ⊢;exact b.o7 h),λ_=>Jm,λ_=>(by rw[az dc,az dc];exact⟨h6,z⟩),λ_=>⟨u,cd.o,J.o.2.2.1,(by rw[fo V _ dc];exact J.o.2.2.2.1),λh=>(by rw[az dc] at h;rw[fo V _ dc];exact J.o.2.2.2.2 h),λ_=>aj8,λ_=>J.o.1⟩⟩;rw[az ow] at hd;rw[fo V _ ow];exact b.val j hj hd
   .intro m V d K r hd b o;have e9:V 9 = .string ⟨F.toArray⟩:=(b.val 9 dc (hd 9 (Qjz ko) vq)).trans D9.o;have g:=hid b;clear b;refine ai _ rfl ?_;simp only[bw,e9] at o ⊢;go_wp2_with fail;exact g.o.put dc bm.o.symm
   .intro m V d hd b;obtain⟨u,M,Q,Y,x,g5,g6⟩:=b.got (hd 6 vq);have e0:=(b.val 0 dc (hd 0 vq)).trans D0.o;have e1:=(b.val 1 dc (hd 1 vq)).trans D1.o;have e2:=(b.val 2 dc (hd 2 vq)).trans D2.o;have e3:=(b.val 3 dc (hd 3 vq)).trans D3.o;have e4:=(b.val 4 dc (hd 4 vq)).trans D4.o;have e5:=(b.val 5 dc (hd 5 vq)).trans D5.o;have e9:=(b.val 9 dc (hd 9 vq)).trans D9.o;have cz:=(b.val 11 dc (hd 11 vq)).trans bm.o;have e7:=x (hd 7 vq);have e8:=g5 (hd 8 vq);have HU:Hid (Blk d S 36 7 (λj=>u.cells.getD j default)/\Kp S d u/\af u (jh p y q)/\Bt S U d):=⟨g6 (hd 10 vq),M,Q,l.o.2.2.2.2.2.trans b.bt⟩;have bo:Hid (X++(F++[10])=nw p s (L++[q])/\af (jh p y q) (Bk p s (L++[q]))):=by
     obtain⟨k1,k2⟩:=M4 (A7 L av.o.1) l.o.2.2.2.2.1 q;rw[Le,Ru,<-a9.o,k1,<-l.o.1];exact⟨rfl,k2⟩
    have c4:(⟨X.toArray⟩:ByteArray)++⟨F.toArray⟩=⟨(X++F).toArray⟩:=Ao X F;obtain⟨X2,ay⟩:∃X2,X++F=X2:=⟨_,rfl⟩;obtain⟨X3,bf⟩:∃X3,X2++[10]=X3:=⟨_,rfl⟩;have du:(⟨X2.toArray⟩:ByteArray)++⟨#[10]⟩=⟨X3.toArray⟩:=by rw[<-bf];exact Ao X2 [10]
    rw[ay] at c4;have dr:F.length<=3000:=by rw[<-a9.o];exact P3 bp.o q
    have ds:=cr.o.1;have dq:X2.length=X.length+F.length:=by rw[<-ay,List.length_append]
    have cq:Hid (X3=nw p s (L++[q])):=by show _=_;rw[<-bo.o.1,<-bf,<-ay,List.append_assoc]
    clear b M Q x g5 g6 ay bf;simp only[bw,e0,e1,e2,e3,e4,e5,Y,e7,e8,e9,cz];refine NoPanic.normal ?_;go_wp2_with fail;exact⟨⟨i+1,i+1,L++[q],u,X3,ow,Nat.le_refl _,vo,vo,rfl,cq.o,HN.o.1,HU.o.1,HU.o.2.1,HU.o.2.2.1.trans bo.o.2,HU.o.2.2.2⟩,Cy⟩
   intro m V d K r hd b o;have e0:V 0 = .agg #[.slice p.ab p.nb p.cb,.slice p.sa p.ns p.cs]:=(b.val 0 dc (hd 0 (Qjz ko) vq)).trans D0.o;have e1:V 1 = .agg #[.slice y.on.a y.on.n y.on.c,.slice y.os.a y.os.n y.os.c,.slice y.hs.a y.hs.n y.hs.c,.slice y.ms.a y.ms.n y.ms.c,.slice y.si.a y.si.n y.si.c,.slice y.so.a y.so.n y.so.c,.slice y.sf.a y.sf.n y.sf.c]:=(b.val 1 dc (hd 1 (Qjz ko) vq)).trans D1.o;have e5:V 5 = .string ⟨q.toArray⟩:=(b.val 5 dc (hd 5 (Qjz ko) vq)).trans D5.o;have g:=hid b;have ag:m 10=false:=by
    cases h:m 10
    .rfl
    rw[(b.o10 h).1] at r;cases r
   have ae:=(l.o.2.2.2.2.2.trans b.bt).below (B:=U.heap.size) a8.o nlr;have bz:=b.bel ag;have co:Hid (_):=aiw p y q d (H.o d ae).2.1 (l.o.2.2.2.1.below bz).at bp.o HN.o.2;have f7:¬m 7=true:=λh=>by rw[b.o7 h] at r;cases r
   have f8:¬m 8=true:=λh=>by rw[b.o8 h] at r;cases r
   have br:¬m 10=true:=λh=>by rw[ag] at h;cases h
   clear b;refine ai _ rfl ?_;simp only[bw,e0,e1,e5] at o ⊢;go_wp2_with fail;refine Calls.mono co.o ?_;rintro e wj ⟨u,rfl,b0,b1,bd⟩;rw[a9.o];simp only[St.val];have HU:Hid (Kp S wj u/\af u (jh p y q)/\Bw d wj):=by
    refine⟨?_,b1,bd⟩;rcases b0 with rfl|h
    .exact(l.o.2.2.2.1.below bz).below bd
    exact h.kp (Xzx l.o.2.2.1.lt g.o.bt.size)
   clear b0 b1 bd;go_wp2_with fail;have b:=g.o;refine⟨b.bt.trans (Bt.of HU.o.2.2 nlr),λ_ => ?_,λj hj hd => ?_,λ_=>qp _ _,λ_=>qp _ _,λh=>absurd ts br,λ_=>⟨u,HU.o.1,HU.o.2.1,o9 _ _ _,λh=>absurd ts f7,λh=>absurd ts f8,λh=>absurd ts br⟩⟩
   .exact(HU.o.2.2.block S (Xzx l.o.2.2.1.lt b.bt.size)).trans (b.pre ag)
   rw[az ow] at hd;rw[fo V _ ow];exact b.val j hj hd
theorem aey(n:Int)(w:World):(Instr.typeAssert (.iface 26 (.int .i64 n)) 20 26 false).run Tryz.prog w = .ok (.int .i64 n) w:=by
 unfold Instr.typeAssert;simp[run_underlying Tryz.underlying26,Sem.run_bind,Sem.run_pure,Result.andThen]
theorem av4(G:Nat)(f:Nat->Value)(n:Int)(w:World)(i:Blk w G 9 1 f)(g:Gnd w)(l:0<=n/\n<=999999)(a:List PanicEntry):
  CallsD Tryz.prog 26 #[.pointer (some ⟨G,0,none⟩)] (.panicking ({ v := .iface 26 (.int .i64 n),recovered:=false } :: a)) w λe s w' =>
   e = .returned (.tuple #[])/\s = .panicking ({ v := .iface 26 (.int .i64 n),recovered:=true } :: a)/\Blk w' G 9 1 (λ_ => .string ⟨(pa n).toArray⟩)/\Bt G w w':=by
 have t:=aey n;have m:Hid (Blk w G 9 1 f):=i;have o:Hid (Calls Tryz.prog 27 #[.int .i64 n] w λe w'=>e = .returned (.string ⟨(Lib.itoa n).toArray⟩)/\Bw w w'):=Pw n ow ow w g;have x:=Gp l;have hs:(⟨#[101,114,114,111,114,32]⟩:ByteArray)++⟨(Lib.itoa n).toArray⟩=⟨(pa n).toArray⟩:=Ao [101,114,114,111,114,32] (Lib.itoa n);have y:=yt (Lib.itoa n)
 generalize Lib.itoa n=S at *
 generalize pa n=X at *
 clear i g l;refine callsD_of_wpS Tryz.func26 rfl λu cs r => ?_
 apply wpS_seq
 apply wpS_region
 simp[wpOpsS,go_sem,recoverD,r,Tryz.ntmps26,Exit.thenS];refine wpS_of_wp ?_;simp only[Array.replicate_succ,Array.replicate_zero,List.push_toArray,Qvq,Qwx,Qwz,List.append_toArray,Xqx,Xqz];go_wp2_with fail;refine o.o.mono ?_;rintro e w1 ⟨rfl,c⟩;have b:=m.o.below c;have B:=b.lt;have A:=b.frozen 0;have z:=b.k 0;have d:Hid (Blk (w1.setCell ⟨G,0,none⟩ (.string ⟨X.toArray⟩)) G 9 1 (λ_ => .string ⟨X.toArray⟩)/\Bt G w (w1.setCell ⟨G,0,none⟩ (.string ⟨X.toArray⟩))):=⟨(b.set 0 _).congr (λj q=>by match j,q with|0,_=>rfl),(Bt.of c nlr).set (p:=⟨G,0,none⟩) (Or.inl rfl) _⟩;clear b c;go_wp2_with fail;exact⟨rfl,_,rfl,.tuple #[],by simp[results,Tryz.results26],rfl,rfl,d.o.1,d.o.2⟩
theorem ayv(G:Nat)(w:World):
  CallsD Tryz.prog 26 #[.pointer (some ⟨G,0,none⟩)] .returning w λe c w'=>e = .returned (.tuple #[])/\c = .returning/\w'=w:=by
 refine callsD_of_wpS Tryz.func26 rfl λa cs b => ?_
 apply wpS_seq
 apply wpS_region
 simp[wpOpsS,go_sem,recoverD,b,Tryz.ntmps26,Exit.thenS];refine wpS_of_wp ?_;simp only[Array.replicate_succ,Array.replicate_zero,List.push_toArray,Qvq,Qwx,Qwz,List.append_toArray,Xqx,Xqz];go_wp2_with fail;cases a
 simp_all[bodyPostS,results,Tryz.results26]
def ap8(C:Nat)(p:Pl)(s:St)(t:List UInt8)(w:World)(e:Ending)(w':World):Prop :=
 e = .returned (.string ⟨(ij p s t).toArray⟩)/\Bt C w w'/\∃u,Clk C w' p u/\(u=s\/ah 0 w' u)/\af u (jh p s t)
def Yd(G:Nat):Deferred:={ target := .fn (.func 26) #[.pointer (some ⟨G,0,none⟩)],args:=#[] }
theorem Ea{t:List UInt8}{n:Int}{w1:World}{tmps:Array Value}(b:tmps.getD 4 undef = .pointer (some ⟨w.heap.size,0,none⟩))
  (j:Blk w1 w.heap.size 9 1 f) (g:Gnd w1) (l:0<=n/\n<=999999) (c:Bw w w1) (hc:Clk C w p s) (hd:ij p s t=pa n/\jh p s t=s) :
  Leaves Tryz.prog Tryz.f12 tmps (λe w'=>ap8 C p s t w e w') [Yd w.heap.size] (.panicking [{ v := .iface 26 (.int .i64 n),recovered:=false }]) w1:=by
 rw[Array.getD_eq_getD_getElem?] at b;refine leaves_cons (f:=26) (args:=#[.pointer (some ⟨w.heap.size,0,none⟩)]) vq (by simp[go_sem]) ?_;refine(av4 w.heap.size f n w1 j g l []).mono ?_;rintro e q d ⟨rfl,rfl,o,m⟩;have i:d.cell? ⟨w.heap.size,0,none⟩=some (.string ⟨(pa n).toArray⟩):=o.k 0;have a:=c.trans (m.below nlr c.size);refine⟨.string ⟨(pa n).toArray⟩,?_,by rw[hd.1],Bt.of a nlr,s,Blk.below hc a,Or.inl rfl,by rw[hd.2];exact af.self _⟩;simp[results,Tryz.results12,go_sem,b,i]
theorem O8{u:St}{t:List UInt8}{w1:World}{tmps:Array Value}(a:tmps.getD 4 undef = .pointer (some ⟨w.heap.size,0,none⟩))
  (g:Blk w1 w.heap.size 9 1 (λ_ => .string ⟨(ij p s t).toArray⟩)) (d:Bt C w w1) (hc:Clk C w1 p u) (i:u=s\/ah 0 w1 u) (hd:af u (jh p s t)) :
  Leaves Tryz.prog Tryz.f12 tmps (λe w'=>ap8 C p s t w e w') [Yd w.heap.size] .returning w1:=by
 rw[Array.getD_eq_getD_getElem?] at a;refine leaves_cons (f:=26) (args:=#[.pointer (some ⟨w.heap.size,0,none⟩)]) vq (by simp[go_sem]) ?_;refine(ayv w.heap.size w1).mono ?_;rintro e j b ⟨rfl,rfl,rfl⟩;have c:b.cell? ⟨w.heap.size,0,none⟩=some (.string ⟨(ij p s t).toArray⟩):=g.k 0;refine⟨.string ⟨(ij p s t).toArray⟩,?_,rfl,d,u,hc,i,hd⟩;simp[results,Tryz.results12,go_sem,a,c]
theorem ah.boxT(h:ah A w s)(hq:Blk w q 9 n f)(j:Nat)(u:Value):ah A (w.setCell ⟨q,j,none⟩ u) s:=Tf
theorem acl{x:List UInt8}{l:List Int}{q:Int × List Int}(h:True->∃y,Aq.find? (λy=>x==y.1)=some y/\y.2=v)(d:fe p s (j5 x) l=some q):False:=by
 obtain⟨y,c,-⟩:=h trivial;have b:=List.mem_of_find?_eq_some c;have a:=List.find?_some c;simp only[beq_iff_eq] at a;simp only[Aq,List.mem_cons,List.not_mem_nil,or_false] at b;rcases b with rfl|rfl|rfl|rfl|rfl|rfl|rfl|rfl<;>(simp only at a;subst a;cases d)
structure ayo(W:World)(v0 v1 v2:Value)(ok:Bool)(dn:Nat->Bool)(V:Nat->Value)(w:World):Prop where
 bel:Bw W w
 c9:dn 9=true->dn 4=true/\dn 8=true
 m0:dn 0=true->dn 4=false->∃r,V 0 = .map (some r)/\Ev w r Aq
 c4:dn 4=true->dn 0=true
 e4:dn 4=true->V 4 = .tuple #[.agg #[v0,v1,v2],.bool ok]
 e5:dn 5=true->V 5 = .tuple #[.agg #[v0,v1,v2],.bool ok]
 e6:dn 6=true->V 6 = .agg #[v0,v1,v2]
 e7:dn 7=true->V 7 = .bool ok
 e10:dn 10=true->V 10 = .bool ok
 box:dn 8=true->∃B,V 8 = .pointer (some ⟨B,0,none⟩)/\W.heap.size<=B/\∃f,Blk w B 70 3 f/\(dn 9=true->∀j,j<3->f j=(#[v0,v1,v2]:Array Value).getD j default)
theorem aex(C:Nat)(p:Pl)(s:St)(t:List UInt8)(w:World)(hc:Clk C w p s)(hp:p.At w)(hs:s.At w)(r:am p s)(g:Gnd w)(ht:t.length<=4096):
  Calls Tryz.prog 12 #[.pointer (some ⟨C,0,none⟩),.string ⟨t.toArray⟩] w λe w'=>ap8 C p s t w e w':=by
 have c5:∀(fn:Fn) (first cap:Array Value) (w:World),(Instr.makeFunc fn first cap).run Tryz.prog w = .ok (.func fn first cap) w:=λ_ _ _ _=>rfl;obtain⟨W0,hW,a9,k0⟩:∃W,w.alloc (.cells #[.string ⟨#[]⟩] 9)=W/\Bw w W/\Blk W w.heap.size 9 1 (λ_ => .string ⟨#[]⟩):=⟨_,rfl,brf.alloc nlr _,(Blk.mk' (cur:=#[.string ⟨#[]⟩]) rfl rfl).congr (λj D=>by match j,D with|0,_=>rfl)⟩;have HW:=hid hW;have A:Hid (∀v,Bw W0 v->Clk C v p s/\p.At v/\s.At v/\Gnd v/\Bw w v/\Blk v w.heap.size 9 1 (λ_ => .string ⟨#[]⟩)):=λv hB=>by
  have hk:=a9.trans (hB.mono a9.size);exact⟨Blk.below hc hk,hp.below hk,hs.below hk,g.belows hk,hk,k0.below hB⟩
 have HR:Hid (am p s/\t.length<=4096/\Clk C w p s):=⟨r,ht,hc⟩;clear hW a9 k0 hc hp hs r g
 go_enter_defers Tryz.func12,Tryz.ntmps12
 go_wp2_with fail;rw[HW.o];refine(ahr t ht W0 (A.o W0 brf).2.2.2.1).mono ?_;rintro e w1 ⟨rfl,av,hB⟩;obtain⟨x,ws,hpt⟩:=Fq 32 t [];have bl:∀y∈x :: ws,y.length<=4096:=λy hy=>ani;have dr:ws.length<=4096:=amr;rw[hpt] at av ⊢;obtain⟨b,o,b5,hb,b6⟩:=av 0 x rfl;simp only[co] at b5;obtain⟨rfl,rfl⟩:=b5;obtain⟨o2,cc,cb,dq,b8⟩:=R3 (b:=W0.heap.size) (o:=0) (n:=ws.length) (c:=ws.length+1) nlr;have bz:qx w1 (some ⟨W0.heap.size,o2,none⟩) ws:=λi y hi=>by
  have hn:0<ws.length:=Nat.lt_of_le_of_lt (Qxz _) (List.getElem?_eq_some_iff.1 hi).1;rw[b8 hn];exact av.tail i y hi
 have HT:Hid (qx w1 (some ⟨W0.heap.size,o2,none⟩) ws/\(∀v,Bw w1 v->v.cell? ⟨W0.heap.size,0,none⟩=some (.string ⟨x.toArray⟩)/\W0.heap.size<v.heap.size)/\Bw W0 w1):=⟨bz,λv h=>⟨(h.cell (p:=⟨W0.heap.size,0,none⟩) hb).trans b6,Xzx hb h.size⟩,hB⟩;have HP:Hid (fc 32 [] t=x :: ws/\(∀y∈ws,y.length<=4096)/\x.length<=4096):=⟨hpt,λy hy=>bl y (List.mem_cons_of_mem _ hy),bl x (List.mem_cons_self ..)⟩;rw[List.length_cons];clear hb b6 hpt bl hB HW ht bz b8 av c5;go_wp2_with fail;refine(arj (some ⟨W0.heap.size,o2,none⟩) cc ws w1 (A.o w1 HT.o.2.2).2.2.2.1 HT.o.1 ow HP.o.2.1).mono ?_;rintro e w2 ⟨⟨l,hl,rfl,bk⟩|⟨a5,rfl⟩,al⟩;rotate_left
 .have ak:=HT.o.2.2.trans (al.mono HT.o.2.2.size);have HD:Hid (ij p s t=pa 1/\jh p s t=s):=M3 HP.o.1 a5;have J:Hid (Bw W0 w2):=ak;clear a5 al cb ak;unfold xc;go_wp2_with fail;exact Ea rfl (A.o w2 J.o).2.2.2.2.2 (A.o w2 J.o).2.2.2.1 dc (A.o w2 J.o).2.2.2.2.1 HR.o.2.2 HD.o
 have ak:=HT.o.2.2.trans (al.mono HT.o.2.2.size);have Q:=qa4 ak bk.ints hl al;have x0:=((HT.o.2.1 w2 al).1);have x1:=((HT.o.2.1 w2 al).2);have vx:=Qqq x0;obtain⟨v0,v1,v2,ok,bf,bm,bi,bj⟩:=ap2 x;have cm:=hid bj;have HL:=hid bf;have HV:=qa2 bm bi;clear ak al bk hl cb bf bm bi bj;go_wp2_with fail;refine Ij (λw'=>∃p:Regrown,w'=grow (redrawn w2 p.d) p.os) [1,2,3] [0,4,5,6,7,8,9,10] ko ko ko ko ko ko ko ko (Qqx (brf.drew)) ?_;simp only[jg]
 repeat(go_big_quiet_step(fail))
 refine Qqz ?_;clear vx x0 x1;refine⟨ayo w2 v0 v1 v2 ok,λz V v M a5 => ?_,Qjx ⟨?zp0,Qjx ⟨?zp4,Qjx ⟨?zp5,Qjx ⟨?zp6,Qjx ⟨?zp7,Qjx ⟨?zp8,Qjx ⟨?zp9,Qjx ⟨?zp10,Qjq _⟩⟩⟩⟩⟩⟩⟩⟩,?zpdone⟩
 .have f:∀j∈[0,4,5,6,7,8,9,10],¬z j=true:=λj D h=>by rw[a5 j D] at h;cases h
  exact⟨ae M,λh=>absurd h (f 9 vq),λh=>absurd h (f 0 vq),λh=>absurd h (f 4 vq),λh=>absurd h (f 4 vq),λh=>absurd h (f 5 vq),λh=>absurd h (f 6 vq),λh=>absurd h (f 7 vq),λh=>absurd h (f 10 vq),λh=>absurd h (f 8 vq)⟩
 case zp0 =>
  intro z V v K M hn hd m G;have F:=hid m;clear m M;refine ai _ rfl ?_;simp only[bw] at G ⊢;go_wp2_with fail;refine(ap3 v).mono ?_;rintro e wj ⟨rfl,hm,bx⟩;have HM:=qa2 hm bx;clear hm bx;go_wp2_with fail;have m:=F.o;have hb:=m.bel.trans (HM.o.2.mono m.bel.size);have up:∀j,z j=true->pu z 0 j=true:=λj D=>by
   by_cases c:j=0
   .exact Bc
   rw[az c];exact D
  refine G _ _ (Qqx hb) ⟨hb,λh=>Lw,λ_ _=>⟨v.heap.size,o9 _ _ _,HM.o.1⟩,λ_=>qp _ _,λh=>Lx,λh=>Ly,λh=>Lz,λh=>L3,λh=>Lv,λh => ?_⟩;rw[az dc] at h;rw[fo V _ dc];obtain⟨B,b1,b2,f,b3,b4⟩:=m.box h;exact⟨B,b1,b2,f,b3.below HM.o.2,λh9=>b4 aky⟩
 case zp4 =>
  intro z V v K M hn hd m G;have h0:z 0=true:=hd 0 (Qjz ko) vq;obtain⟨r,hr,hm⟩:=m.m0 h0 hn;have bf:=HL.o v r hm;have F:=hid m;clear m M hm;refine ai _ rfl ?_;simp only[bw,hr] at G ⊢;go_wp2_with fail;have m:=F.o;have up:∀j,z j=true->pu z 4 j=true:=λj D=>by
   by_cases c:j=4
   .exact Bc
   rw[az c];exact D
  exact G _ _ (Qqx m.bel) ⟨m.bel,λh=>Lw,λ_ h4=>(by rw[qp] at h4;cases h4),λ_=>up 0 h0,λ_=>o9 _ _ _,λh=>Ly,λh=>Lz,λh=>L3,λh=>Lv,λh=>Z2⟩
 case zp5 =>
  intro z V v K M hn hd m G;have q:=m.e4 (hd 4 (Qjz ko) vq);have F:=hid m;clear m M;refine ai _ rfl ?_;simp only[bw,q] at G ⊢;go_wp2_with fail;have m:=F.o;have up:∀j,z j=true->pu z 5 j=true:=λj D=>by
   by_cases c:j=5
   .exact Bc
   rw[az c];exact D
  exact G _ _ (Qqx m.bel) ⟨m.bel,λh=>Lw,λh h4=>agr,λh=>Ox,λh=>Lx,λ_=>o9 _ _ _,λh=>Lz,λh=>L3,λh=>Lv,λh=>Z2⟩
 case zp6 =>
  intro z V v K M hn hd m G;have q:=m.e5 (hd 5 (Qjz ko) vq);have F:=hid m;clear m M;refine ai _ rfl ?_;simp only[bw,q] at G ⊢;go_wp2_with fail;have m:=F.o;have up:∀j,z j=true->pu z 6 j=true:=λj D=>by
   by_cases c:j=6
   .exact Bc
   rw[az c];exact D
  exact G _ _ (Qqx m.bel) ⟨m.bel,λh=>Lw,λh h4=>agr,λh=>Ox,λh=>Lx,λh=>Ly,λ_=>o9 _ _ _,λh=>L3,λh=>Lv,λh=>Z2⟩
 case zp7 =>
  intro z V v K M hn hd m G;have q:=m.e5 (hd 5 (Qjz ko) vq);have F:=hid m;clear m M;refine ai _ rfl ?_;simp only[bw,q] at G ⊢;go_wp2_with fail;have m:=F.o;have up:∀j,z j=true->pu z 7 j=true:=λj D=>by
   by_cases c:j=7
   .exact Bc
   rw[az c];exact D
  exact G _ _ (Qqx m.bel) ⟨m.bel,λh=>Lw,λh h4=>agr,λh=>Ox,λh=>Lx,λh=>Ly,λh=>Lz,λ_=>o9 _ _ _,λh=>Lv,λh=>Z2⟩
 case zp10 =>
  intro z V v K M hn hd m G;have q:=m.e7 (hd 7 (Qjz ko) vq);have F:=hid m;clear m M;refine ai _ rfl ?_;simp only[bw,q] at G ⊢;go_wp2_with fail;have m:=F.o;have up:∀j,z j=true->pu z 10 j=true:=λj D=>by
   by_cases c:j=10
   .exact Bc
   rw[az c];exact D
  exact G _ _ (Qqx m.bel) ⟨m.bel,λh=>Lw,λh h4=>agr,λh=>Ox,λh=>Lx,λh=>Ly,λh=>Lz,λh=>L3,λ_=>o9 _ _ _,λh=>Z2⟩
 case zp8 =>
  intro z V v K M hn hd m G;have F:=hid m;clear m M;refine ai _ rfl ?_;simp only[bw] at G ⊢;go_wp2_with fail;have m:=F.o;have hB:Bw v (v.alloc (.cells #[.int .i64 0,.int .i64 0,.nilFunc] 70)):=brf.alloc nlr _;have hb:=m.bel.trans (hB.mono m.bel.size);have f9:¬z 9=true:=λh=>by rw[(m.c9 h).2] at hn;cases hn
  have up:∀j,z j=true->pu z 8 j=true:=λj D=>by
   by_cases c:j=8
   .exact Bc
   rw[az c];exact D
  refine G _ _ (Qqx hb) ⟨hb,λh=>Lw,λh h4 => ?_,λh=>Ox,λh=>Lx,λh=>Ly,λh=>Lz,λh=>L3,λh=>Lv,λ_=>⟨v.heap.size,o9 _ _ _,m.bel.size,_,Blk.mk' (cur:=#[.int .i64 0,.int .i64 0,.nilFunc]) rfl rfl,λh9=>absurd aky f9⟩⟩;rw[az dc] at h;rw[az dc] at h4;rw[fo V _ dc];obtain⟨r,r1,r2⟩:=m.m0 h h4;exact⟨r,r1,r2.below hB⟩
 case zp9 =>
  intro z V v K M hn hd m G;have h8:z 8=true:=hd 8 (Qjz ko) vq;have h4:z 4=true:=hd 4 (Qjz ko) vq;have q:=m.e6 (hd 6 (Qjz ko) vq);obtain⟨B,b1,b2,f,hz,-⟩:=m.box h8;obtain⟨o0,o1,ci⟩:=cm.o;have zl:=hz.lt;have dd:=hz.frozen 0;have db:=hz.k 0;have ds:=hz.frozen 1;have zc1:=hz.k 1;have dt:=hz.frozen 2;have zc2:=hz.k 2;have X:Hid (Blk (((v.setCell ⟨B,0,none⟩ v0).setCell ⟨B,1,none⟩ v1).setCell ⟨B,2,none⟩ v2) B 70 3 (λj=>(#[v0,v1,v2]:Array Value).getD j default)/\Bw w2 (((v.setCell ⟨B,0,none⟩ v0).setCell ⟨B,1,none⟩ v1).setCell ⟨B,2,none⟩ v2)/\w2.heap.size<=B/\V 8 = .pointer (some ⟨B,0,none⟩)):=⟨(((hz.set 0 _).set 1 _).set 2 _).congr (λj D=>by match j,D with|0,_=>rfl|1,_=>rfl|2,_=>rfl),((m.bel.setCell (p:=⟨B,0,none⟩) b2 _).setCell (p:=⟨B,1,none⟩) b2 _).setCell (p:=⟨B,2,none⟩) b2 _,b2,b1⟩;have z1:=hz.set 0 v0;have z2:=z1.set 1 v1;have s0:(store ⟨B,0,none⟩ v0).run Tryz.prog v = .ok () (v.setCell ⟨B,0,none⟩ v0):=by rw[run_store _ _ _ _ _ o0,db,dd];rfl
  have s1:(store ⟨B,1,none⟩ v1).run Tryz.prog (v.setCell ⟨B,0,none⟩ v0) = .ok () ((v.setCell ⟨B,0,none⟩ v0).setCell ⟨B,1,none⟩ v1):=by rw[run_store _ _ _ _ _ o1,z1.k 1,z1.frozen 1];rfl
  have s2:(store ⟨B,2,none⟩ v2).run Tryz.prog ((v.setCell ⟨B,0,none⟩ v0).setCell ⟨B,1,none⟩ v1) = .ok () (((v.setCell ⟨B,0,none⟩ v0).setCell ⟨B,1,none⟩ v1).setCell ⟨B,2,none⟩ v2):=by rw[run_store _ _ _ _ _ ci,z2.k 2,z2.frozen 2];rfl
  have F:=hid m;clear m M hz z1 z2 o0 o1 ci;refine ai _ rfl ?_;simp only[bw,b1,q] at G ⊢;go_wp2_with fail;have m:=F.o;have up:∀j,z j=true->pu z 9 j=true:=λj D=>by
   by_cases c:j=9
   .exact Bc
   rw[az c];exact D
  exact G undef _ (Qqx X.o.2.1) ⟨X.o.2.1,λ_=>⟨up 4 h4,up 8 h8⟩,λ_ h=>(by rw[az dc,h4] at h;cases h),λh=>Ox,λh=>Lx,λh=>Ly,λh=>Lz,λh=>L3,λh=>Lv,λ_=>⟨B,(by rw[fo V _ dc];exact X.o.2.2.2),X.o.2.2.1,_,X.o.1,λ_ j _=>rfl⟩⟩
 case zpdone =>
  intro z V v M hd m;obtain⟨B,b1,b2,f,hz,hf⟩:=m.box (hd 8 vq);have kb:=hz.congr (hf (hd 9 vq));have e4:=m.e4 (hd 4 vq);have e5:=m.e5 (hd 5 vq);have e6:=m.e6 (hd 6 vq);have e7:=m.e7 (hd 7 vq);have e10:=m.e10 (hd 10 vq);have bb:=Q.o.1.trans (m.bel.mono Q.o.1.size);have J:=qa3 bb (Q.o.2.1.below m.bel) m.bel;have c0:v.cell? ⟨B,0,none⟩=some v0:=kb.k 0;have c1:v.cell? ⟨B,1,none⟩=some v1:=kb.k 1;have c2:v.cell? ⟨B,2,none⟩=some v2:=kb.k 2;have cl:=kb.lt;have x0:=(HT.o.2.1 v (Q.o.2.2.2.trans (m.bel.mono Q.o.2.2.2.size))).1;have x1:=(HT.o.2.1 v (Q.o.2.2.2.trans (m.bel.mono Q.o.2.2.2.size))).2;clear m M hz hf kb bb;simp only[bw,b1,e4,e5,e6,e7,e10];refine NoPanic.normal ?_;clear b1 e4 e5 e6 e7 e10 hd;cases ok with
  | true =>
   obtain⟨y,cg,ch⟩:=HV.o.1 rfl;have cj:Hid (Calls Tryz.prog 32 #[.agg #[v0,v1,v2],.slice (some ⟨w1.heap.size,0,none⟩) l.length l.length] v λe w'=>Oh (tn (j5 x) l) v e w'):=by
    rw[<-ch];exact aq0 x _ _ l v J.o.2.1 y cg
   clear cg ch;clear x0 x1;go_wp2_with fail;clear c0 c1 c2 cl;refine cj.o.mono ?_;rintro e H ⟨⟨a,y,ha,cd,b0,rfl⟩|⟨ha,rfl⟩,T⟩;rotate_left
   .have HD:Hid (ij p s t=pa 1/\jh p s t=s):=by
     cases ca:fe p s (j5 x) l with
     | none=>exact Ok HP.o.1 Q.o.2.2.1 ha ca
     | some q=>exact absurd (acl HV.o.1 ca) (λh=>h)
    have S:=hid (J.o.1.trans (T.mono J.o.1.size));clear ha T;unfold xc;go_wp2_with fail;exact Ea rfl (A.o H S.o).2.2.2.2.2 (A.o H S.o).2.2.2.1 dc (A.o H S.o).2.2.2.2.1 HR.o.2.2 HD.o
   have S:=hid (J.o.1.trans (T.mono J.o.1.size));have bu:Hid ((doE p s a=0->ij p s t=okL/\jh p s t=doT p s a)/\(¬doE p s a=0->ij p s t=pa (doE p s a)/\jh p s t=s)):=Kd HP.o.1 Q.o.2.2.1 ha;have a7:Hid (doE p s y=doE p s a/\(doE p s a=0->af (doT p s y) (doT p s a))):=T7 HR.o.1 (af.self s) cd;have cs:Hid (Calls Tryz.prog 31 #[.pointer (some ⟨C,0,none⟩),y.val] H λe w'=>DoP C p s y H e w'):=av6 C p s y H (A.o H S.o).1 (A.o H S.o).2.1 (A.o H S.o).2.2.1 b0.at;clear ha cd b0 T;go_wp2_with fail;refine cs.o.mono ?_;rintro e w4 (⟨h0,rfl,bd,u,b7,b9,ce⟩|⟨h0,rfl,bv⟩)
   .have U:Blk w4 w.heap.size 9 1 (λ_ => .string ⟨#[]⟩):=bd.blk (A.o H S.o).2.2.2.2.2 (by have:=HR.o.2.2.lt;omega);have zl:=U.lt;have zf:=U.frozen 0;have zc:=U.k 0;have cf:Bt C w w4:=(Bt.of (A.o H S.o).2.2.2.2.1 nlr).trans bd;have X:Hid (Blk (w4.setCell ⟨w.heap.size,0,none⟩ (.string ⟨#[111,107]⟩)) w.heap.size 9 1 (λ_ => .string ⟨(ij p s t).toArray⟩)/\Bt C w (w4.setCell ⟨w.heap.size,0,none⟩ (.string ⟨#[111,107]⟩))/\Clk C (w4.setCell ⟨w.heap.size,0,none⟩ (.string ⟨#[111,107]⟩)) p u/\(u=s\/ah 0 (w4.setCell ⟨w.heap.size,0,none⟩ (.string ⟨#[111,107]⟩)) u)/\af u (jh p s t)):=by
     have ay:doE p s a=0:=alu;obtain⟨d1,d2⟩:=bu.o.1 ay;refine⟨?_,cf.set (p:=⟨w.heap.size,0,none⟩) (Or.inr nlr) _,Blk.other b7 (a:=⟨w.heap.size,0,none⟩) atk _,Or.inr (b9.boxT U 0 _),?_⟩
     .rw[d1];exact apa
     rw[d2];exact ce.trans (a7.o.2 ay)
    clear U cf b7 b9 ce bd h0;go_wp2_with fail;exact O8 rfl X.o.1 X.o.2.1 X.o.2.2.1 X.o.2.2.2.1 X.o.2.2.2.2
   have ay:¬doE p s a=0:=alu;have HD:Hid (ij p s t=pa (doE p s y)/\jh p s t=s):=by rw[a7.o.1];exact bu.o.2 ay
   have L:Hid (Bw W0 w4/\0<=doE p s y/\doE p s y<=999999):=⟨S.o.trans (bv.mono S.o.size),by have:=Yo HR.o.1 y;omega⟩;clear h0 ay bv
   generalize doE p s y=E at *
   unfold xc;go_wp2_with fail;exact Ea rfl (A.o w4 L.o.1).2.2.2.2.2 (A.o w4 L.o.1).2.2.2.1 L.o.2 (A.o w4 L.o.1).2.2.2.2.1 HR.o.2.2 HD.o
  | false =>
   clear c0 c1 c2 cl;have a6:Hid (tn (j5 x) l=none):=by
    show _=_;rcases aqs x (HV.o.2 rfl) with h|h
    .rw[h];rfl
    unfold tn;rw[if_neg ow,if_neg ow,if_neg ow,if_neg ow,if_neg ow,if_neg ow,if_neg ow,if_neg ow]
   have ct:Hid (Calls Tryz.prog 33 #[.pointer (some ⟨C,0,none⟩),.string ⟨x.toArray⟩,.slice (some ⟨w1.heap.size,0,none⟩) l.length l.length] v λe w'=>z8 (fe p s (j5 x) l) v e w'):=
    arq C p s x _ _ l v ⟨λwj D=>(have h:=A.o wj (J.o.1.trans (D.mono J.o.1.size));⟨h.2.2.1,h.2.1,h.1⟩),(A.o v J.o.1).2.2.2.1,(A.o v J.o.1).2.2.2.1.low,Nat.le_refl _,HR.o.1⟩ J.o.2.1
   go_wp2_with fail;clear x0 x1;refine ct.o.mono ?_;rintro e H ⟨⟨out,hq,rfl⟩|⟨er,out,hq,bh,rfl⟩|⟨hq,rfl⟩,T⟩;rotate_left
   .obtain⟨-,d2,d3⟩:=Ec (p:=p) (s:=s) HP.o.1 Q.o.2.2.1 a6.o hq;have HD:=qa2 (d2 bh) d3;have L:Hid (Bw W0 H/\0<=er/\er<=999999):=⟨J.o.1.trans (T.mono J.o.1.size),by
     rcases (rh HR.o.1 hq).1 with h|h
     .exact absurd h bh
     rw[h.1];decide⟩
    clear d2 d3 hq bh T;unfold xc;go_wp2_with fail;exact Ea rfl (A.o H L.o.1).2.2.2.2.2 (A.o H L.o.1).2.2.2.1 L.o.2 (A.o H L.o.1).2.2.2.2.1 HR.o.2.2 HD.o
   .have HD:Hid (ij p s t=pa 1/\jh p s t=s):=Ok HP.o.1 Q.o.2.2.1 a6.o hq;have L:=hid (J.o.1.trans (T.mono J.o.1.size));clear hq T;unfold xc;go_wp2_with fail;exact Ea rfl (A.o H L.o).2.2.2.2.2 (A.o H L.o).2.2.2.1 dc (A.o H L.o).2.2.2.2.1 HR.o.2.2 HD.o
   have ba:=J.o.1.trans (T.mono J.o.1.size);obtain⟨d1,-,d3⟩:=Ec (p:=p) (s:=s) HP.o.1 Q.o.2.2.1 a6.o hq;have a4:=A.o H ba;have U:=a4.2.2.2.2.2;have zl:=U.lt;have zf:=U.frozen 0;have zc:=U.k 0;have X:Hid (Blk (H.setCell ⟨w.heap.size,0,none⟩ (.string ⟨(l7 out).toArray⟩)) w.heap.size 9 1 (λ_ => .string ⟨(ij p s t).toArray⟩)/\Bt C w (H.setCell ⟨w.heap.size,0,none⟩ (.string ⟨(l7 out).toArray⟩))/\Clk C (H.setCell ⟨w.heap.size,0,none⟩ (.string ⟨(l7 out).toArray⟩)) p s/\af s (jh p s t)):=by
    refine⟨?_,(Bt.of a4.2.2.2.2.1 nlr).set (p:=⟨w.heap.size,0,none⟩) (Or.inr nlr) _,Blk.other a4.1 (a:=⟨w.heap.size,0,none⟩) atk _,?_⟩
    .rw[d1 rfl];exact apa
    rw[d3];exact af.self _
   clear U a4 d1 d3 hq T ba
   generalize l7 out=Y at *
   go_wp2_with fail;exact O8 rfl X.o.1 X.o.2.1 X.o.2.2.1 (Or.inl rfl) X.o.2.2.2
def J5(w w2:World):Prop:=∀(g:Nat) (cs:Array Value) (e:TypeId) (fz:Nat × Nat),e≠5->e≠42->e≠46->w.heap[g]?=some (.cells cs e fz)->w2.heap[g]?=some (.cells cs e fz)
theorem Blk.typed{b:World}(h:Blk w g e n f)(k:J5 w b)(c:e≠5)(d:e≠42)(i:e≠46):Blk b g e n f:=by
 obtain⟨cs,a,_⟩:=id h;exact h.same ((k g _ e _ c d i a).trans a.symm)
theorem ki.typed{a:World}{r:Rw}(h:ki A w r)(k:J5 w a):ki A a r:=by
 obtain⟨g,ha,h0,h1,h2,hb⟩:=h;exact ao3
theorem ct.typed{a:World}{s:Hs}(h:ct A e w s)(k:J5 w a)(b:e≠5)(c:e≠42)(d:e≠46):ct A e a s:=by
 obtain⟨f,i,j,l⟩:=h;refine⟨f,i,j,λo => ?_⟩;obtain⟨g,m,hA,n⟩:=l o;exact⟨g,m,hA,n.typed k b c d⟩
theorem gp.typed{b:World}{size:Nat}{a:Option Addr}(h:gp A w e size a c)(k:J5 w b)(d:e≠5)(f:e≠42)(i:e≠46):gp A b e size a c:=by
 rcases h with h|⟨g,cur,j,hA,l,hs⟩
 .exact Or.inl h
 exact Or.inr ⟨g,cur,j,hA,k g _ _ _ d f i l,hs⟩
theorem kj.typed{f:World}{s:Os}(h:kj A w s)(k:J5 w f):kj A f s:=by
 refine⟨h.le,h.cap,λj => ?_,λi hi => ?_,h.apart,h.room.typed k dc dc dc⟩
 .obtain⟨g,a,b,c⟩:=h.list j;exact⟨g,a,b,c.typed k dc dc dc⟩
 obtain⟨C,a,b,c,d,e⟩:=h.lines i hi;exact⟨C,a,b,c,d,e.typed k dc dc dc⟩
theorem ah.typed{a:World}(h:ah A w s)(k:J5 w a):ah A a s:=by
 refine⟨?_,λi hi=>(h.rows i hi).typed k,h.rapart,h.os.typed k,h.hs.typed k dc dc dc,h.ms.typed k dc dc dc,h.msr.typed k dc dc dc,h.si.typed k,h.so.typed k,h.sf.typed k,h.aio,h.aif,h.aof,h.ari⟩;obtain⟨g,ha,h0,h1,h2,hb⟩:=h.on;exact ao3
structure Rnd(C b:Nat)(w w2:World):Prop where
 size:w.heap.size<=w2.heap.size
 low:∀g,g<b->g≠C->w2.heap[g]?=w.heap[g]?
 typ:J5 w w2
theorem Rnd.refl(C b:Nat)(w:World):Rnd C b w w:=⟨Nat.le_refl _,λ_ _ _=>rfl,λ_ _ _ _ _ _ _ h=>h⟩
theorem Rnd.trans{l m:World}(h:Rnd C b w l)(k:Rnd C b l m):Rnd C b w m :=
 ⟨Qzx h.size k.size,λg i j=>(k.low g i j).trans (h.low g i j),λg cs e f a c d n=>k.typ g cs e f a c d (h.typ g cs e f a c d n)⟩
def Kq(C b:Nat)(w:World)(y:St):Prop:=∀w2,Rnd C b w w2->y.At w2
theorem Kq.at(h:Kq C b w y):y.At w:=h w (Rnd.refl C b w)
theorem Kq.next{a:World}(h:Kq C b w y)(k:Rnd C b w a):Kq C b a y:=λd c=>h d (k.trans c)
theorem ah.kq(h:ah A w y):Kq C b w y:=λa k=>(h.typed k.typ).at
theorem Fr.kq{c:World}(h:Fr n w y)(a:Bw w c)(f:w.heap.size<=C)(i:w.heap.size<=b):Kq C b c y:=λe k =>
 h e (Qzx a.size k.size) λg _ d=>(k.low g ow ow).trans (a.block g d)
theorem Rnd.below{c:World}(h:Bw w c)(i:b<=w.heap.size):Rnd C b w c :=
 ⟨h.size,λg f _=>h.block g ow,λg cs e d _ _ _ a=>(h.block g (Qkq a).1).trans a⟩
theorem Rnd.bt(h:Bt C w d)(hc:Blk w C 42 n f)(p:b<=w.heap.size):Rnd C b w d:=by
 refine⟨h.size,λg o k=>h.block g ow k,λg cs e m _ i _ a => ?_⟩;refine(h.block g (Qkq a).1 λj => ?_).trans a;subst j;obtain⟨l,c,_⟩:=hc;rw[c] at a;cases a;exact i rfl
theorem Rnd.wrote{B:Nat}{p:Value}{f:World}(h:Below B w f)(k:Lib.OthersKept 5 (some b) w f)(q:b<=B)(l:w.heap[b]?=some (.cells #[p,v] 46 (0,0))):Rnd C b w f:=by
 refine⟨h.size,λg o _=>h.block g ow,λg cs e n i _ j d=>k g _ d (λa => ?_) (λc m a => ?_)⟩
 .cases a;rw[l] at d;cases d;exact j rfl
 cases a;exact i rfl
theorem Yx:∀{r:List UInt8},r≠[]->r.getLast?=some 10->∃a b,r=a++10 :: b/\(10:UInt8) ∉ a/\(b=[]\/b.getLast?=some 10)
 | x :: r,_,h=>by
  by_cases c:x=10
  .subst c;refine⟨[],r,rfl,vq,?_⟩;cases r with
   | nil=>exact Or.inl rfl
   | cons y r=>exact Or.inr (by rw[<-h];rfl)
  cases r with
  | nil=>exact absurd (Option.some.inj h) c
  | cons y r =>
   obtain⟨a,b,e,d,f⟩:=Yx (r:=y :: r) vq (by rw[<-h];rfl);exact⟨x :: a,b,by rw[e];rfl,λg=>(List.mem_cons.1 g).elim (λe=>c e.symm) d,f⟩
theorem aw7{T:TypeId}{a:List Value}(h:Lib.IsBuilderF T e b b a w)(k:Bt C w d)(hc:C<b):Lib.IsBuilderF T e b b a d:=by
 have f:∀p,Lib.BuilderAtF T e b b p a w->Lib.BuilderAtF T e b b p a d:=λp ⟨h1,v,h2,⟨h3,c⟩,h5⟩=>by
  have n:=(Qkq h2).1;refine⟨h1,v,(k.block b n ow).trans h2,⟨h3,?_⟩,h5⟩;rcases c with c|⟨g,cap,cur,m,a1,j,i,l⟩
  .exact Or.inl c
  exact Or.inr ⟨g,cap,cur,m,a1,j,(k.block g (Qkq i).1 ow).trans i,l⟩
 exact h.imp (f _) (f _)
structure z6(C b A:Nat)(W:World)(p:Pl)(s:St)(t:List UInt8)(L:List (List UInt8))(r:List UInt8)(y:St)(w:World):Prop where
 bel:Below A W w
 sz:b<w.heap.size
 clk:Clk C w p y
 kq:Kq C b w y
 same:af y (Bk p s L)
 bld:Lib.IsBuilderF 46 5 b b (Lib.byteCells (nw p s L)) w
 lines:mp 10 [] t=L++mp 10 [] r
 last:r=[]\/r.getLast?=some 10
 len:r.length<=4096
section
variable {C b A:Nat} {W:World} {p:Pl} {s y u:St} {t r a:List UInt8} {L:List (List UInt8)} {w w4 w5 w6:World}
theorem z6.cnt(h:z6 C b A W p s t L r y w)(c:am p s)(d:t.count 10<=60):L.length<=60/\(nw p s L).length<=180060:=by
 have a:=congrArg List.length h.lines;rw[List.length_append,Co,Co] at a;have e:=Nf L c;exact⟨ow,ow⟩
theorem z6.right(h:z6 C b A W p s t L r y w)(a:am p s):am p y:=h.same.right (A7 L a)
theorem z6.bld5(h:z6 C b A W p s t L r y w)(a:C<b)(c:Bw w w4)(d:Bt C w4 w5):Lib.IsBuilderF 46 5 b b (Lib.byteCells (nw p s L)) w5:=aw7 h.bld ((Bt.of c nlr).trans d) a
theorem z6.step(h:z6 C b A W p s t L (a++10 :: r) y w)(x:am p s)(o:(10:UInt8) ∉ a)(q:r=[]\/r.getLast?=some 10)(hA:A<=C)(i:C<b)(c:Bw w w4)(f:Bt C w4 w5)
  (hc:Clk C w5 p u) (k:u=y\/ah 0 w5 u) (hs:af u (jh p y a))
  (z:Lib.BuilderAtF 46 5 b b (.pointer (some ⟨b,0,none⟩)) (Lib.byteCells (nw p s L)++Lib.strCells ⟨(ij p y a++[10]).toArray⟩) w6) (d:Below b w5 w6) (l:Lib.OthersKept 5 (some b) w5 w6) :
  z6 C b A W p s t (L++[a]) r u w6:=by
 obtain⟨B,D⟩:=M4 (A7 L x) h.same a;have e4:Clk C w4 p y:=h.clk.below c;have m:=Xzx h.sz c.size;have E:=Xzx m f.size;have F:Rnd C b w w4:=Rnd.below c (Nat.le_of_lt h.sz);have G:Rnd C b w4 w5:=Rnd.bt f e4 (Nat.le_of_lt m);have n:Rnd C b w5 w6:=by
  rcases h.bld5 i c f with⟨_,v,j,_⟩|⟨_,v,j,_⟩
  .exact Rnd.wrote d l nlr j
  exact Rnd.wrote d l nlr j
 have g:=hc.lt;refine⟨?_,Xzx E d.size,hc.same (d.block C i),?_,?_,Or.inr ?_,?_,q,?_⟩
 .exact((h.bel.trans (c.mono (by have:=h.sz;omega))).trans (f.below hA ow)).trans (d.mono ow)
 .rcases k with rfl|k
  .exact((h.kq.next F).next G).next n
  exact k.kq.next n
 .rw[Ru];exact hs.trans D
 .rw[Le,<-B];have e:Lib.byteCells (nw p s L++(ij p y a++[10]))=Lib.byteCells (nw p s L)++Lib.strCells ⟨(ij p y a++[10]).toArray⟩:=by
   show Lib.byteCells _=Lib.byteCells _++Lib.byteCells _;unfold Lib.byteCells;rw[List.map_append]
  rw[e];exact z
 .rw[h.lines,Rm o,Xqx,List.append_assoc]
  rfl
 have:=h.len;rw[List.length_append,List.length_cons] at this;omega
end
def axk:Value->Nat
 | .string s=>s.size
 | _=>0
theorem aew(w:World)(a b:Obj):((w.alloc a).alloc b).heap[w.heap.size+1]?=some b:=by
 have h:=heap_alloc_new (w.alloc a) b
 rwa[show(w.alloc a).heap.size=w.heap.size+1 by simp] at h
theorem P9{t:List UInt8}(a:pi p t=J)(h:¬J=0)(c:Bw w w'):Ww p t w (.returned (.tuple #[.string ⟨#[]⟩,.int .i64 J])) w':=by
 refine⟨mw,λb=>absurd (a.symm.trans b) h,?_,c⟩;have:za p mw t=[]:=if_neg (by rw[a];exact h);rw[this,a]
theorem Xt(p:Pl)(t:List UInt8)(w:World)(hp:p.At w)(g:Gnd w)(ht:t.length<=4611686018427387904):
  Calls Tryz.prog 4 #[p.val,.string ⟨t.toArray⟩] w λe w'=>Ww p t w e w':=by
 have tl:=yt t;obtain⟨l,hW,B,X0⟩:∃W,w.alloc (.cells #[.slice p.ab p.nb p.cb,.slice p.sa p.ns p.cs] 25)=W/\Bw w W/\Blk W w.heap.size 25 2 (λj=>(#[.slice p.ab p.nb p.cb,.slice p.sa p.ns p.cs]:Array Value).getD j default):=⟨_,rfl,brf.alloc nlr _,Blk.mk' rfl rfl⟩;have o:Hid (∀D,Bw l D->Blk D w.heap.size 25 2 (λj=>(#[.slice p.ab p.nb p.cb,.slice p.sa p.ns p.cs]:Array Value).getD j default)/\p.At D/\Bw w D/\Gnd D):=λD h=>⟨X0.below h,(hp.below B).below h,B.trans (h.mono B.size),g.belows (B.trans (h.mono B.size))⟩;have HW:=hid hW;clear hW X0 B hp g;unfold Pl.val;go_enter Tryz.func4,Tryz.ntmps4;go_wp2_with fail;rw[HW.o];refine(aqb p l (o.o l brf).2.1).mono ?_;rintro e w1 ⟨s,rfl,av,aw,hB⟩;obtain⟨b,al,Q,KS⟩:=ab7 w1 s;have F:=hid al;have f:=hid (hB.trans (Q.mono hB.size));have A:=qa4 av Q aw hB;have ah:=hid KS;clear al Q KS av aw HW hB;simp only[St.val];by_cases h0:iu p=0;rotate_left
 .have T:pi p t=iu p:=if_neg h0;obtain⟨EE,ak⟩:∃EE,iu p=EE:=⟨_,rfl⟩;rw[ak] at T h0 ⊢;have HE:=qa2 h0 T;have g0:(EE !=0)=true:=qh;clear h0 T ak;go_wp2_with fail
  go_ret2
  rw[F.o];exact P9 HE.o.2 HE.o.1 (o.o b f.o).2.2.1
 have q:=hid h0;rw[h0];clear h0;by_cases h4:4096<t.length
 .have q3:(4096:Int)<(t.length:Int):=ow;have v:Hid (pi p t=2):=by show _=_;unfold pi;rw[if_pos q.o,if_pos (Or.inl h4)]
  clear h4;go_wp2_with fail
  go_ret2
  rw[F.o];exact ax5
 have q3:¬(4096:Int)<(t.length:Int):=ow;go_wp2_with fail;rw[F.o];refine ap (aqc t b) ?_;by_cases J:60<t.count 10
 .have q4:(60:Int)<((t.count 10:Nat):Int):=ow;have v:Hid (pi p t=2):=by show _=_;unfold pi;rw[if_pos q.o,if_pos (Or.inr J)]
  clear J h4
  generalize t.count 10=N at *
  exact aon
 have q4:¬(60:Int)<((t.count 10:Nat):Int):=ow;have G:Hid (t.length<=4096/\t.count 10<=60/\¬(4096<t.length\/60<t.count 10)):=⟨ow,ow,ow⟩;clear h4 J;obtain⟨d0,d1,dl⟩:b.cell? ⟨w.heap.size,0,none⟩=some (.slice p.ab p.nb p.cb)/\b.cell? ⟨w.heap.size,1,none⟩=some (.slice p.sa p.ns p.cs)/\w.heap.size<b.heap.size:=⟨(o.o b f.o).1.k 0,(o.o b f.o).1.k 1,(o.o b f.o).1.lt⟩;obtain⟨m1,p0,p1,p2,p3,p4,p5,p6⟩:=Boxed.of ah.o;obtain⟨W4,an,z,k4,b4⟩:∃W,(b.alloc (.cells #[.slice p.ab p.nb p.cb,.slice p.sa p.ns p.cs,.slice s.on.a s.on.n s.on.c,.slice s.os.a s.os.n s.os.c,.slice s.hs.a s.hs.n s.hs.c,.slice s.ms.a s.ms.n s.ms.c,.slice s.si.a s.si.n s.si.c,.slice s.so.a s.so.n s.so.c,.slice s.sf.a s.sf.n s.sf.c] 42)).alloc (.cells #[.pointer .none,.slice .none 0 0] 46)=W/\Bw b W/\Clk b.heap.size W p s/\W.heap[b.heap.size+1]?=some (.cells #[.pointer .none,.slice .none 0 0] 46 (0,0)):=⟨_,rfl,dx _ _ _,(Blk.mk' rfl rfl).alloc _,aew _ _ _⟩;have M:=hid an;have K:Hid (un p s/\am p s):=⟨A.o.2.2.1.1 q.o,et (Dr q.o (A.o.2.2.1.1 q.o))⟩;have HD:Hid (t=[]\/t.getLast?=some 10->z6 b.heap.size (b.heap.size+1) l.heap.size l p s t [] t s W4):=λhl=>by
  refine⟨f.o.trans (z.mono f.o.size),(Qkq b4).1,k4,?_,af.self _,Or.inl ⟨Nat.le_refl _,_,b4,⟨rfl,Or.inl ⟨rfl,rfl⟩⟩,by simp[Value.ownBlock]⟩,rfl,hl,G.o.1⟩;have h1:=A.o.2.1.size;exact A.o.1.kq (A.o.2.1.trans (z.mono h1)) h1 ow
 have HA:=hid f.o.size;clear an z k4 b4 A ah F;by_cases i:¬t=[]/\¬t.getLast?=some 10
 .have qn:t.isEmpty=false:=by simpa using i.1
  have U:(t.getLast?==some 10)=false:=by simpa using i.2
  have v:Hid (pi p t=1):=by show _=_;unfold pi;rw[if_pos q.o,if_neg G.o.2.2,if_pos i]
  clear i;go_wp2_with fail;refine ap (Ml t G.o.1 b) ?_;rw[U];clear U;exact aon
 have v:Hid (pi p t=0):=by show _=_;unfold pi;rw[if_pos q.o,if_neg G.o.2.2,if_neg i]
 have S:t=[]\/t.getLast?=some 10:=by
  by_cases h:t=[]
  .exact Or.inl h
  exact Or.inr (Classical.byContradiction λh'=>i ⟨h,h'⟩)
 have ag:Hid (z6 b.heap.size (b.heap.size+1) l.heap.size l p s t [] t s W4):=HD.o S;have bg:t.isEmpty=true\/t.isEmpty=false/\(t.getLast?==some 10)=true:=by
  rcases S with rfl|h
  .exact Or.inl rfl
  refine Or.inr ⟨?_,Hb⟩;cases t with
  | nil=>cases h
  | cons x t=>rfl
 clear i S HD;rcases bg with qn|⟨qn,U⟩
 all_goals
  first|(go_wp2_with fail;rw[M.o])|(go_wp2_with fail;refine ap (Ml t G.o.1 b) ?_;rw[U];clear U;go_wp2_with fail;rw[M.o])
  generalize decide ((60:Int)<((t.count 10:Nat):Int))=NB
  clear d0 d1 dl m1 p0 p1 p2 p3 p4 p5 p6 q3 q4 qn M f
  generalize b.heap.size=C at *
  go_loopw [1] (λtv D=>∃(L:List (List UInt8)) (r:List UInt8) (y:St),tv = .string ⟨r.toArray⟩/\Hid (z6 C (C+1) l.heap.size l p s t L r y D)) (λtv _=>axk tv)
  .exact⟨[],t,s,rfl,ag⟩
  obtain⟨L,r,y,rfl,d⟩:=hrel;clear ag;by_cases E:r=[]
  .have qr:r.isEmpty=true:=by rw[E];rfl
   have HL:Hid (nw p s L=za p s t):=by
    have h:=d.o.lines;rw[E,mp,List.append_nil] at h;show _=_;rw[show za p s t=nw p s (mp 10 [] t) from if_pos v.o,h]
   clear E;go_wp2_with fail;refine(Any.Builder_String_any_k ahz uy (C+1) (C+1) (nw p s L) wr d.o.bld (Nat.le_of_lt d.o.sz)).mono ?_;rintro e w9 ⟨rfl,-,aj,-⟩;have a4:Hid (Bw l w9):=d.o.bel.trans (aj.mono (by have:=HA.o;omega));clear aj;rw[HL.o];go_wp2_with fail
   go_ret2
   exact⟨s,λ_=>K.o.1,by rw[v.o];rfl,(o.o w9 a4.o).2.2.1⟩
  have qr:r.isEmpty=false:=by simpa using E
  obtain⟨a,V,bh,ha,hl⟩:=Yx E (d.o.last.resolve_left E);subst bh;have HH:=qa2 ha hl;clear ha hl E;go_wp2_with fail;refine(aw0 a V HH.o.1 d.o.len wr (o.o wr d.o.bel).2.2.2).mono ?_;rintro e Y ⟨rfl,z⟩;have m:Hid (Bw wr Y/\Bw l Y/\a.length<=4096):=⟨z,d.o.bel.trans (z.mono d.o.bel.size),by have:=d.o.len;rw[List.length_append] at this;omega⟩;clear z;go_wp2_with fail;refine(aex C p y a Y (d.o.clk.below m.o.1) (o.o Y m.o.2.1).2.1 (d.o.kq.at.below m.o.1) (d.o.right K.o.2) (o.o Y m.o.2.1).2.2.2 m.o.2.2).mono ?_;rintro e w5 ⟨rfl,ai,u,ao,ar,au⟩;have aq:(ij p y a).length<=3000:=P3 (d.o.right K.o.2) a;have bi:(⟨(ij p y a).toArray⟩:ByteArray)++⟨#[10]⟩=⟨(ij p y a++[10]).toArray⟩:=Ao _ [10];have H:=qa4 ai ao ar au;obtain⟨X,hX⟩:∃X,ij p y a=X:=⟨_,rfl⟩;have HX:Hid (ij p y a=X/\X.length<=3000):=⟨hX,by rw[<-hX];exact aq⟩;rw[hX] at aq bi ⊢;clear ai ao ar au hX;go_wp2_with fail;refine(Any.Builder_WriteString_k ahy uy (C+1) (C+1) _ _ w5 (d.o.bld5 (Nat.lt_succ_self _) m.o.1 H.o.1) ?_ (Nat.le_of_lt (Xzx d.o.sz (Qzx m.o.1.size H.o.1.size)))).mono ?_
  .have h1:=(d.o.cnt K.o.2 G.o.2.1).2;have h2:=HX.o.2;rw[yt,List.length_append];unfold Lib.byteCells;rw[List.length_map];show _+(_+1)<=_;omega
  rintro e w6 ⟨rfl,hw,J,h7⟩;rw[<-HX.o.1] at hw;have HN:Hid (z6 C (C+1) l.heap.size l p s t (L++[a]) V u w6):=d.o.step K.o.2 HH.o.1 HH.o.2 HA.o (Nat.lt_succ_self _) m.o.1 H.o.1 H.o.2.1 H.o.2.2.1 H.o.2.2.2 hw J h7;clear hw J h7;go_wp2_with fail;exact⟨⟨L++[a],V,u,rfl,HN⟩,by show(⟨V.toArray⟩:ByteArray).size<(⟨(a++10 :: V).toArray⟩:ByteArray).size;rw[yt,yt,List.length_append,List.length_cons];omega⟩
def dZ:St:=⟨⟨none,3,3,λ_=>⟨none,2,2,λ_=>0⟩⟩,⟨none,0,0,λ_=>⟨0,⟨none,0,0,λ_=>⟨0,0,0,0⟩⟩⟩⟩,⟨none,0,0,λ_=>⟨0,0,0,0⟩⟩,⟨none,0,0,λ_=>⟨0,0,0,0⟩⟩,⟨none,2,2,λ_=>0⟩,⟨none,2,2,λ_=>0⟩,⟨none,2,2,λ_=>0⟩⟩
theorem ar7(a b:Nat):un (uf a b) dZ:=⟨rfl,λ_ _=>⟨rfl,λ_ _=>rfl⟩,rfl,rfl,rfl,⟨rfl,λ_ _=>rfl⟩,⟨rfl,λ_ _=>rfl⟩,⟨rfl,λ_ _=>rfl⟩⟩
def dT:List UInt8:=[114,101,99,101,105,118,101,32,48,32,48,32,57,10,114,101,99,101,105,118,101,32,49,32,48,32,51,10,101,110,116,101,114,32,48,32,55,32,49,32,50,10,114,101,108,101,97,115,101,10,104,111,108,100,115,10,112,105,99,107,32,48,32,48,32,49,32,51,10,102,105,108,108,10,109,111,118,101,115,10,109,111,118,101,100,32,48,32,53,10,115,104,101,108,102,32,49,10,111,114,100,101,114,32,48,10,111,112,101,110,10,99,111,117,110,116,32,48,32,48,32,50,10,104,111,108,100,115,10,99,97,110,99,101,108,32,48,10,111,112,101,110,10,115,104,101,108,102,32,51,10,120,10]
theorem dPE(a b:Nat):pi (uf a b) dT=0:=ko
def dR(g1 g2:Nat):List UInt8:=nw (uf g1 g2) dZ (mp 10 [] dT)
theorem dPS{a:Nat}(h:pi (uf a b) dT=0->un (uf a b) s):za (uf a b) s dT=dR a b:=by
 have c:=h (dPE a b);rw[show za (uf a b) s dT=nw (uf a b) s (mp 10 [] dT) from if_pos (dPE a b),(Ng _ (et (Dr (p:=uf a b) ko (ar7 a b))) (O9 c (ar7 a b))).1]
 rfl
theorem Wp(w:World)(g:Gnd w):Calls Tryz.prog 6 #[] w λe w'=>e = .returned (.bool true)/\Bw w w':=by
 have p:Hid (Gnd w):=g;clear g;go_enter Tryz.func6,Tryz.ntmps6;go_wp2_with fail;refine(ar3 w).mono ?_;rintro e o ⟨j,k,rfl,-,-,m,n,l⟩;have a:=hid l;have i:Hid ((uf j k).At o):=aym m n;clear l m n;go_wp2_with fail;have f:Hid (_):=Xt (uf j k) dT o i.o (p.o.belows a.o) dc;refine Calls.mono f.o ?_;rintro e q ⟨s0,c,rfl,b⟩;rw[dPE,dPS c];have d:=hid (a.o.trans (b.mono a.o.size));clear b c f;go_wp2_with fail;go_ret;exact⟨ko,d.o⟩
theorem ajn{t:List UInt8}{b:St}(d:pi p t=0->un p s)(a:pi p t=0->un p b):za p s t=za p b t:=by
 unfold za;by_cases h:pi p t=0
 .rw[if_pos h,if_pos h];have e:iu p=0:=by
   unfold pi at h;by_cases c:iu p=0
   .exact c
   rw[if_neg c] at h;exact h
  exact(Ng _ (et (Dr e (a h))) (O9 (d h) (a h))).1
 rw[if_neg h,if_neg h]
theorem Wq(p:Pl)(t:List UInt8)(w:World)(y:p.At w)(g:Gnd w)(z:t.length<=4611686018427387904):
  Calls Tryz.prog 3 #[p.val,.string ⟨t.toArray⟩] w λe w'=>e = .returned (.bool true)/\Bw w w':=by
 obtain⟨m,x,a,s⟩:∃W,w.alloc (.cells #[.slice p.ab p.nb p.cb,.slice p.sa p.ns p.cs] 25)=W/\Bw w W/\Blk W w.heap.size 25 2 (λj=>(#[.slice p.ab p.nb p.cb,.slice p.sa p.ns p.cs]:Array Value).getD j default):=⟨_,rfl,brf.alloc nlr _,Blk.mk' rfl rfl⟩;have b:Hid (∀f,Bw m f->Blk f w.heap.size 25 2 (λj=>(#[.slice p.ab p.nb p.cb,.slice p.sa p.ns p.cs]:Array Value).getD j default)/\p.At f/\Bw w f/\Gnd f):=λf h=>⟨s.below h,(y.below a).below h,a.trans (h.mono a.size),g.belows (a.trans (h.mono a.size))⟩;have r:=hid x;clear x s a y g;unfold Pl.val;go_enter Tryz.func3,Tryz.ntmps3;go_wp2_with fail;rw[r.o];have i:Hid (_):=Xt p t m (b.o m brf).2.1 (b.o m brf).2.2.2 z;refine Calls.mono i.o ?_;rintro e w1 ⟨s1,u,rfl,c⟩;have d:=qa2 c u;obtain⟨D,E,F⟩:w1.cell? ⟨w.heap.size,0,none⟩=some (.slice p.ab p.nb p.cb)/\w1.cell? ⟨w.heap.size,1,none⟩=some (.slice p.sa p.ns p.cs)/\w.heap.size<w1.heap.size:=⟨(b.o w1 c).1.k 0,(b.o w1 c).1.k 1,(b.o w1 c).1.lt⟩;clear c u i r;go_wp2_with fail;have i:Hid (_):=aen p t w1 (b.o w1 d.o.1).2.1 z;refine Calls.mono i.o ?_;rintro e A ⟨G,v,rfl,n⟩;rw[ajn d.o.2 v];have l:=hid (d.o.1.trans (n.mono d.o.1.size));clear n v i;go_wp2_with fail;refine(Wp A (b.o A l.o).2.2.2).mono ?_;rintro e B ⟨rfl,o⟩;have q:Hid (Bw w B):=(b.o B (l.o.trans (o.mono l.o.size))).2.2.1;clear o;go_wp2_with fail;go_ret;exact⟨vq,q.o⟩
end Go.Proofs.YtjgckphgagdpaaaGreatDoor
namespace Go.Proofs.YtjgckphgagdpaaaGreatDoor
open _root_.Go.Proofs.Tryz
open Go.ChangeShapes Go.WideShapes Go.ChangeAt Go.RowKit Go.Joins Go.Deep
set_option maxRecDepth 100000
theorem own:ownKnob Tryz.prog.godebug=none:=ko
theorem Uc:laidOutB Tryz.prog=true:=ko
theorem Yc:Tryz.prog.cellsOf 3=1:=ko
theorem aqy:Tryz.prog.cellsOf 82=4:=ko
theorem aii:Tryz.prog.cellsOf 25=2:=ko
theorem aih:Tryz.prog.cellsOf 4=1:=ko
section
variable {H:Type} {enc:TypeId × Value->H} {w:World} {held:Bool} {spare:Nat->Bool}
theorem aib{a:Addr}{i:Nat}{v:Value}(h:w.cell? (a.add i)=some v)(c:∃g,w.cell? a=some g):∃b o,a=⟨b,o,none⟩/\b<w.heap.size/\w.cell? ⟨b,o+i,none⟩=some v:=by
 obtain⟨b,f,e⟩:=a;obtain⟨g,c⟩:=c;have d:e=none:=World.cell?_spot c;subst d;refine⟨b,f,rfl,World.block_lt_of_cell? w _ c,?_⟩;rw[<-Go.WideShapes.add_plain];exact h
theorem arh{fuel:Nat}{cs:List Value}{x:DataW H × List MemPlace}(h:DataW.trod enc Tryz.prog w 0 spare held fuel 23 cs=some x):∃r:Rw,cs=[r.val]/\r.At w:=by
 rcases open_slice1 Tryz.underlying23 Yc h with⟨rfl,_⟩|⟨a,len,cap,m,n,V,D,Pl,rfl,s,j,k,e,_,hx⟩
 .exact⟨⟨none,0,0,λ_=>0⟩,rfl,Nat.le_refl _,Qxz _,λi hi=>absurd hi (Qzq _)⟩
 have q:len<=m:=by rw[e];split<;>omega
 obtain⟨z,l⟩:=choose_lt (α:=Int) (n:=len) (p:=λi y=>V i = .int .i64 y) (λi hi=>by
  obtain⟨y,f,_⟩:=DataW.trod_int Tryz.underlying3 (hx i ow).2;simp only[List.cons.injEq,and_true] at f;exact⟨y,f⟩)
 refine⟨⟨some a,len,cap,z⟩,rfl,j,k,λi hi => ?_⟩;have d:i<len:=hi;have g:∃v0,w.cell? a=some v0:=⟨_,by have:=(hx 0 ow).1;simpa[Addr.add] using this⟩;obtain⟨b,o,rfl,c,hc⟩:=aib (hx i ow).1 g;exact⟨b,o,rfl,c,by rw[hc,l i d]⟩
theorem awm{fuel:Nat}{a c1 c2 c3:Value}{x:DataW H × List MemPlace}(h:DataW.trod enc Tryz.prog w 0 spare held fuel 82 [a,c1,c2,c3]=some x):∃y:Bin,a = .bool y.front/\c1 = .int .i64 y.room/\c2 = .int .i64 y.low/\c3 = .int .i64 y.high:=by
 obtain⟨o,p,q,r,n,hx,m,f,g,i,j⟩:=trod_struct4 Tryz.underlying82 h;simp only[aih,Yc,Qyq,Xqq,Qyx,Qyz] at f g i j;obtain⟨b,e0,_⟩:=DataW.trod_bool Tryz.underlying4 f;obtain⟨k,c,_⟩:=DataW.trod_int Tryz.underlying3 g;obtain⟨n2,d,_⟩:=DataW.trod_int Tryz.underlying3 i;obtain⟨l,e,_⟩:=DataW.trod_int Tryz.underlying3 j;simp only[List.cons.injEq,and_true] at e0 c d e;exact⟨⟨b,k,n2,l⟩,e0,c,d,e⟩
theorem aw8{base:Nat}{a:Addr}{cs:List Value}(h:w.cells? base a 4=some cs):∃c0 c1 c2 c3,cs=[c0,c1,c2,c3]/\w.cell? a=some c0/\w.cell? (a.add 1)=some c1/\w.cell? (a.add 2)=some c2/\w.cell? (a.add 3)=some c3:=by
 obtain⟨_,b,hc⟩:=World.cells?_some h
 match cs,b with
 | [c0,c1,c2,c3],_ =>
  refine⟨c0,c1,c2,c3,rfl,?_,?_,?_,?_⟩
  .simpa[Addr.add] using hc 0 dc
  .simpa using hc 1 dc
  .simpa using hc 2 dc
  simpa using hc 3 dc
theorem arg{fuel:Nat}{cs:List Value}{x:DataW H × List MemPlace}(h:DataW.trod enc Tryz.prog w 0 spare held fuel 22 cs=some x):∃a n c z,cs=[.slice a n c]/\n<=c/\c<=maxLen/\vg w a n z:=by
 rcases open_slice Tryz.underlying22 h with⟨rfl,_⟩|⟨a,len,cap,m,n,D,Pl,rfl,B,r,s,k,_,hx⟩
 .exact⟨none,0,0,λ_=>⟨false,0,0,0⟩,rfl,Nat.le_refl _,Qxz _,λi hi=>absurd hi (Qzq _)⟩
 have v:len<=m:=by rw[k];split<;>omega
 rw[aqy] at hx
 haveI:Inhabited Bin:=⟨⟨false,0,0,0⟩⟩
 obtain⟨z,l⟩:=choose_lt (α:=Bin) (n:=len) (p:=λi y=>w.cell? (a.add (i*4))=some (.bool y.front)/\w.cell? (a.add (i*4+1))=some (.int .i64 y.room)/\w.cell? (a.add (i*4+2))=some (.int .i64 y.low)/\w.cell? (a.add (i*4+3))=some (.int .i64 y.high)) (λi hi=>by
  obtain⟨u,hc,t⟩:=hx i ow;obtain⟨A,c1,c2,c3,rfl,g,d,e,f⟩:=aw8 hc;obtain⟨y,rfl,rfl,rfl,rfl⟩:=awm t;rw[add_add] at d e f;exact⟨y,g,d,e,f⟩)
 refine⟨some a,len,cap,z,rfl,r,s,λi hi => ?_⟩;have q:∃v0,w.cell? a=some v0:=⟨_,by have:=(l 0 ow).1;simpa[Addr.add] using this⟩;obtain⟨g,d,e,f⟩:=l i hi;obtain⟨b,o,rfl,j,e0⟩:=aib g q;rw[Go.WideShapes.add_plain] at d e f;exact⟨b,o,rfl,j,e0,by rw[Nat.add_assoc];exact d,by rw[Nat.add_assoc];exact e,by rw[Nat.add_assoc];exact f⟩
theorem arb{r:Reach}{b0:Nat}{v:Value}{d:DataW H}{q:List MemPlace}(o:Value.okWide Tryz.prog w r b0 25 v)(h:DataW.Trod enc Tryz.prog w 0 spare held 25 v d q):∃p:Pl,v=p.val/\p.At w:=by
 obtain⟨s,c1,t,u,m,rfl,rfl,rfl,g,i⟩:=open_agg2 Tryz.underlying25 ko aii o h;obtain⟨a,n,c,z,e0,j,k,l⟩:=arg g;obtain⟨b,f,e⟩:=arh i;simp only[List.cons.injEq,and_true] at e0 f;subst e0 f;exact⟨⟨a,n,c,z,b.a,b.n,b.c,b.z⟩,rfl,j,k,l,e.le,e.cap,e.ints⟩
end
set_option maxRecDepth 100000
namespace HoldsFrames
theorem own:ownKnob Tryz.prog.godebug=none:=ko
theorem Uc:laidOutB Tryz.prog=true:=ko
section
variable {H:Type} {enc:TypeId × Value->H} {w:World} {held:Bool} {spare:Nat->Bool}
end
end HoldsFrames
end Go.Proofs.YtjgckphgagdpaaaGreatDoor
namespace Go.Proofs.YtjgckphgagdpaaaGreatDoor
open _root_.Go.Proofs.Tryz
open Go.ChangeShapes Go.WideShapes Go.ChangeAt Go.RowKit Go.ChangeMaps
set_option maxRecDepth 100000
theorem ack{W:World}{n:String}{g:Nat}{cs:Array Value}(a:Tryz.prog.globalNamed n=some g)(h:W.var? Tryz.prog n=some cs):∃t f,W.heap[g]?=some (.cells cs t f):=by
 simp only[World.var?,a,Option.bind_some] at h
 split at h
 .cases h;exact⟨_,_,Cz⟩
 cases h
theorem Rf{W:World}{n f:String}{x:DataW Unit}{r:List (String × DataW Unit)}{g:Nat}(h:laidMet Tryz.prog ((n,.iface f x) :: r) W)(a:Tryz.prog.globalNamed n=some g)(d:(Tryz.prog.globals[g]?).map (·.type)=some 50):
  ∃ev,W.cell? ⟨g,0,none⟩=some ev/\(ev = .nilIface\/∃te pe,ev = .iface te pe):=by
 obtain⟨j,⟨i,k,⟨cs⟩,fuel,p,q,b,c,e,hd,_,_⟩,_⟩:=h;obtain rfl:=Option.some.inj (a.symm.trans b);obtain rfl:=Option.some.inj (d.symm.trans c);obtain⟨_,u,v,rfl,_⟩:=iface_of_trod Tryz.underlying50 hd;exact⟨.iface u v,by simpa using World.var?_cell a e 0,Or.inr ⟨u,v,rfl⟩⟩
theorem aq6{W:World}(a:laidMetH Tryz.prog Rows.deskPlaysRow.laid W)(i:W.ShapedOpen Tryz.prog):Gnd W:=by
 rw[MakeChecks.laidMetH_plain _ _ _ ko] at a;have b:=laidMet.tail a;have c:laidMet Tryz.prog ((_,Lib.tabData .u64 Lib.pow10Tab) :: _) W:=b.tail;have d:=c.tail.tail;refine⟨?_,cell_of_shapedOpen_int (t:=3) (zero:=#[.int .i64 0]) i (of_decide_eq_true ko) ko rfl ko ko Tryz.underlying3,
  ack ko (Lib.tabIs_of_head (g:=1) (t:=195) (e:=149) (n:=20) ko ko ko ko ko ko c),
  Rf d.tail ko ko,Rf d ko ko⟩
 obtain⟨o,⟨m,r,cs,fuel,p,q,k,l,j,hd,_,_⟩,_⟩:=b;obtain⟨t,f,h⟩:=ack (g:=7) ko j;exact(Qkq h).1
section
variable {H:Type} {enc:TypeId × Value->H} {w:World} {spare:Nat->Bool} {held:Bool}
theorem ajg{r:Reach}{b0:Nat}{v:Value}{d:DataW H}{c:List MemPlace}(a:Value.okWide Tryz.prog w r b0 9 v)(h:DataW.Trod enc Tryz.prog w 0 spare held 9 v d c)(b:∀n∈d.weights Tryz.prog 9,n<=reachBytes):∃t:List UInt8,v = .string ⟨t.toArray⟩/\t.length<=4611686018427387904:=by
 obtain⟨s,rfl,rfl,_⟩:=open_string Tryz.underlying9 a h;refine⟨s.data.toList,vq,?_⟩;have:=b s.data.toList.length (by simp[DataW.weights]);have e:reachBytes=140737488351232:=rfl;omega
end
end Go.Proofs.YtjgckphgagdpaaaGreatDoor

/- Texts that were built one behind the other, joined; what RestStates does not reach is left out. -/
import Derived.Test.YtbcacebifpagpagGreatK3RestStates
import Derived.Recover
import Derived.RegionTactic
import Derived.ChangeAlike
import Derived.BigRegion
import Derived.RangeFuncBox
import Derived.RangeFuncLeaves
import Derived.Shelf.Abstract
import Derived.WalkKit
import Derived.OwnWalkIn
import Derived.TacticsInMore
import Derived.LoopNIn
import Derived.LoopIn
import Derived.Maps.AppendAt
set_option maxHeartbeats 8000000
set_option maxRecDepth 100000
namespace Go.Proofs.YtbcacebifpagpagGreat
open _root_.Go.Proofs.Tryz
open Go.RowKit Go.Shelf
set_option linter.unusedVariables false
def hd0:Hd:=⟨0,0,0,0⟩
def hc(c:Nat->Hd)(q:Nat):Value:=(dg (c (q/4))).getD (q%4) default
theorem Pz(c:Nat->Hd)(i:Nat):hc c (i*4) = .int .i64 (c i).o/\hc c (i*4+1) = .int .i64 (c i).l/\hc c (i*4+2) = .int .i64 (c i).b/\hc c (i*4+3) = .int .i64 (c i).n:=by
 unfold hc;refine⟨?_,?_,?_,?_⟩
 .rw[show i*4/4=i by omega,show i*4%4=0 by omega];rfl
 .rw[show(i*4+1)/4=i by omega,show(i*4+1)%4=1 by omega];rfl
 .rw[show(i*4+2)/4=i by omega,show(i*4+2)%4=2 by omega];rfl
 rw[show(i*4+3)/4=i by omega,show(i*4+3)%4=3 by omega];rfl
theorem uu{n:Nat}{z:Nat->Hd}{q:Nat}(a:q<n*4):(ax n z).getD q default=hc z q:=by
 have h:=vr n z (q/4) (q%4) (by omega) (by omega);rw[show q/4*4+q%4=q by omega] at h;unfold hc;simp only[List.getD];rw[h]
def set4(w:World)(g i:Nat)(x:Hd):World:=(((w.setCell ⟨g,i*4,none⟩ (.int .i64 x.o)).setCell ⟨g,i*4+1,none⟩ (.int .i64 x.l)).setCell ⟨g,i*4+2,none⟩ (.int .i64 x.b)).setCell ⟨g,i*4+3,none⟩ (.int .i64 x.n)
theorem Blk.set4{w:World}{g:Nat}{e:TypeId}{n:Nat}{c:Nat->Hd}(h:Blk w g e n (hc c))(i:Nat)(x:Hd):Blk (set4 w g i x) g e n (hc λj=>if j=i then x else c j):=by
 unfold Go.Proofs.YtbcacebifpagpagGreat.set4;refine((((h.set _ _).set _ _).set _ _).set _ _).congr λq l => ?_;have a:=Pz (λj=>if j=i then x else c j) i;simp only[if_pos] at a;by_cases b:q=i*4+3
 .rw[if_pos b,b,a.2.2.2]
 rw[if_neg b];by_cases k:q=i*4+2
 .rw[if_pos k,k,a.2.2.1]
 rw[if_neg k];by_cases d:q=i*4+1
 .rw[if_pos d,d,a.2.1]
 rw[if_neg d];by_cases f:q=i*4
 .rw[if_pos f,f,a.1]
 rw[if_neg f];unfold hc;dsimp only;rw[if_neg (by omega)]
theorem Lp{A g:Nat}(b:A<=g){a w:World}(h:Below A a w)(i:Nat)(x:Hd):Below A a (set4 w g i x):=by
 unfold set4;exact(((h.setCell (p:=⟨g,i*4,none⟩) b _).setCell (p:=⟨g,i*4+1,none⟩) b _).setCell (p:=⟨g,i*4+2,none⟩) b _).setCell (p:=⟨g,i*4+3,none⟩) b _
theorem Blk.hds{w:World}{g:Nat}{e:TypeId}{n:Nat}{c:Nat->Hd}(h:Blk w g e (n*4) (hc c)):jb w (some ⟨g,0,none⟩) n c:=λi hi=>by
 have a:=Pz c i;refine⟨g,0,rfl,h.lt,?_,?_,?_,?_⟩
 .rw[Nat.zero_add];exact(h.cell (by omega)).trans (by rw[a.1])
 .rw[Nat.zero_add];exact(h.cell (by omega)).trans (by rw[a.2.1])
 .rw[Nat.zero_add];exact(h.cell (by omega)).trans (by rw[a.2.2.1])
 rw[Nat.zero_add];exact(h.cell (by omega)).trans (by rw[a.2.2.2])
theorem Vi(w:World)(g:TypeId)(b o n c:Nat)(p:0<n)(hc:∀j,j<n*4->(w.cell? ⟨b,o+j,none⟩).isSome=true)(h:∀j,j<n*4->w.frozen? ⟨b,o+j,none⟩=false):
  (Builtin.clear_ #[28] g #[.slice (some ⟨b,o,none⟩) n c]).run prog w = .ok (.tuple #[]) (w.setCells b o (List.replicate (n*4) (.int .i64 0))):=by
 have e:(Builtin.zeroCells (Value.agg #[.int .i64 0,.int .i64 0,.int .i64 0,.int .i64 0]).cells n).toList=List.replicate (n*4) (.int .i64 0):=by
  rw[show(Value.agg #[.int .i64 0,.int .i64 0,.int .i64 0,.int .i64 0]).cells=#[.int .i64 0,.int .i64 0,.int .i64 0,.int .i64 0] from rfl]
  apply List.ext_getElem
  .simp[Builtin.zeroCells]
  intro i l q;have d:i%4<4:=by omega
  simp[Builtin.zeroCells]
  generalize i%4=k at d
  match k,d with
  | 0,_=>rfl
  | 1,_=>rfl
  | 2,_=>rfl
  | 3,_=>rfl
 have a:=run_storeCells_cells (P:=prog) b o (List.replicate (n*4) (.int .i64 0)) 0 w (by simpa using hc) (by simpa using h) (by intro v f;rw[List.eq_of_mem_replicate f];rfl);simp only[Nat.add_zero] at a;obtain⟨m,rfl⟩:∃m,n=m+1:=⟨n-1,by omega⟩;simp only[Builtin.clear_];simp[e,a]
def ie(g:Nat)(w w':World):Prop:=w.heap.size<=w'.heap.size/\∀q,q<w.heap.size->q≠g->w'.heap[q]?=w.heap[q]?
theorem ie.refl(g:Nat)(w:World):ie g w w:=⟨Nat.le_refl _,λ_ _ _=>rfl⟩
theorem ie.below{g:Nat}{w a d:World}(h:ie g w a)(c:Below a.heap.size a d):ie g w d:=⟨Qzx h.1 c.size,λq e b=>(c.block q (Xzx e h.1)).trans (h.2 q e b)⟩
theorem ie.set{g:Nat}{w b:World}(h:ie g w b)(j:Nat)(u:Value):ie g w (b.setCell ⟨g,j,none⟩ u):=⟨by simpa using h.1,λq c a=>(Below.heap_setCell b ⟨g,j,none⟩ u q a).trans (h.2 q c a)⟩
theorem ie.cells{g:Nat}{w:World}:∀(b:List Value) (o:Nat) (a:World),ie g w a->ie g w (a.setCells g o b)
 | [],_,_,h=>h
 | v :: r,o,a,h=>by
  rw[World.setCells];exact ie.cells r (o+1) _ (h.set o v)
theorem ie.set4{g:Nat}{w a:World}(h:ie g w a)(i:Nat)(x:Hd):ie g w (Go.Proofs.YtbcacebifpagpagGreat.set4 a g i x):=by
 unfold Go.Proofs.YtbcacebifpagpagGreat.set4;exact(((h.set _ _).set _ _).set _ _).set _ _
theorem ie.blk{g:Nat}{w b:World}(h:ie g w b){q:Nat}{t:TypeId}{m:Nat}{f:Nat->Value}(c:Blk w q t m f)(a:q≠g):Blk b q t m f:=by
 have d:=c.lt;obtain⟨cur,e,i⟩:=c;exact⟨cur,(h.2 q d a).trans e,i⟩
theorem Z3(f:Nat)(caps:Array Value)(bad:Hd->Bool)(A:Nat)(a:Option Addr)(n c:Nat)(w:World)(J:A<=w.heap.size)(L:n<=c)(hc:c<=maxLen)(z:Nat->Hd)(D:jb w a n z)
  (P:∀args w,(callFunc f args).run prog w = .ok (.enter f args) w)
  (K:Hid (∀(x:Hd) d,Below A w d->Calls prog f (#[x.val]++caps) d λe s=>e = .returned (.bool (bad x))/\Below d.heap.size d s)) :
  Calls prog 133 #[.slice a n c,.func (.func f) #[] caps] w λe s=>((e = .returned (.int .i64 (-1))/\∀j,j<n->bad (z j)=false)\/∃k,k<n/\e = .returned (.int .i64 (k:Nat))/\bad (z k)=true/\∀j,j<k->bad (z j)=false)/\Below w.heap.size w s:=by
 unfold maxLen at hc;go_enter func133,ntmps133;go_wp2_with fail
 go_loopw [8] (λi d=>∃k:Nat,k<=n/\i = .int .i64 k/\Hid (∀j,j<k->bad (z j)=false)/\Below w.heap.size w d) (λi _=>n-(intOf i).toNat)
 case atStart=>exact⟨0,Qxz _,rfl,λj m=>absurd m (Qzq _),Below.refl _ _⟩
 obtain⟨k,M,rfl,p,g⟩:=hrel;by_cases q:k<n;rotate_left
 .go_wp2_with fail;go_ret;have B:k=n:=by omega
  subst B;exact⟨Or.inl ⟨rfl,p.out⟩,g⟩
 obtain⟨b,o,rfl,_,y,u,t,E⟩:=(D.below g) k q;clear D;have G:Hid (∀j,j<k+1->bad (z k)=false->bad (z j)=false):=λj m h=>by
  by_cases H:j=k
  .rw[H];exact h
  exact p.out j (by omega)
 go_wp2_with fail;refine(K.out (z k) wr (g.mono J)).mono ?_;rintro e d ⟨rfl,F⟩;have r:=g.trans (F.mono g.size);cases l:bad (z k)
 .have v:Hid (∀j,j<k+1->bad (z j)=false):=λj m=>G.out j m l;clear G p;go_wp2_with fail;go_roundw
  case rel=>exact⟨k+1,by omega,by go_num,v,r⟩
  case measure=>simp[intOf];omega
 go_wp2_with fail;go_ret;exact⟨Or.inr ⟨k,q,rfl,l,p.out⟩,r⟩
def iu(bad:Hd->Bool)(xs:List Hd)(k:Nat):List Hd:=(xs.take k).filter (λx => !bad x)
theorem D0(bad:Hd->Bool)(a:List Hd):iu bad a a.length=a.filter (λx => !bad x):=by unfold iu;rw[List.take_length]
theorem Ah{bad:Hd->Bool}{a:List Hd}{k:Nat}(b:k<a.length):iu bad a (k+1)=iu bad a k++if bad (a.getD k hd0) then [] else [a.getD k hd0]:=by
 unfold iu;have e:a.getD k hd0=a[k]:=by simp[List.getD,List.getElem?_eq_getElem b]
 rw[List.take_add_one,List.getElem?_eq_getElem b,List.filter_append,e]
 congr 1
 cases h:bad a[k]<;>simp[h]
theorem Ag{bad:Hd->Bool}{a:List Hd}:∀{k:Nat},k<=a.length->(∀j,j<k->bad (a.getD j hd0)=false)->iu bad a k=a.take k
 | 0,_,_=>by simp[iu]
 | k+1,hk,h=>by
  rw[Ah (by omega),Ag (k:=k) (by omega) (λj b=>h j (by omega)),h k (by omega),List.take_add_one];simp[List.getD,List.getElem?_eq_getElem (show k<a.length by omega)]
def Lb(g:Nat)(bad:Hd->Bool)(xs:List Hd)(k:Nat)(wk:World):Prop:=∃c:Nat->Hd,Blk wk g 61 (xs.length*4) (hc c)/\(∀q,q<(iu bad xs k).length->c q=(iu bad xs k).getD q hd0)/\∀q,k<=q->q<xs.length->c q=xs.getD q hd0
theorem P1(f:Nat)(caps:Array Value)(bad:Hd->Bool)(A g cap:Nat)(a:List Hd)(w:World)(hA:A<=g)(K:A<=w.heap.size)(hn:a.length<=cap)(aa:cap<=maxLen)(hb:Blk w g 61 (a.length*4) (hc λj=>a.getD j hd0))
  (eg:∀args w,(callFunc f args).run prog w = .ok (.enter f args) w)
  (hf:Hid (∀(x:Hd) M,Below A w M->Calls prog f (#[x.val]++caps) M λe w'=>e = .returned (.bool (bad x))/\Below M.heap.size M w')) :
  Calls prog 97 #[.slice (some ⟨g,0,none⟩) a.length cap,.func (.func f) #[] caps] w λe w'=>e = .returned (.slice (some ⟨g,0,none⟩) (a.filter (λx => !bad x)).length cap)/\Blk w' g 61 ((a.filter (λx => !bad x)).length*4) (hc λj=>(a.filter (λx => !bad x)).getD j hd0)/\Below A w w'/\ie g w w':=by
 have ak:=aa;unfold maxLen at aa;have ab:=hid hb;have hz:jb w (some ⟨g,0,none⟩) a.length (λj=>a.getD j hd0):=hb.hds;clear hb;go_enter func97,ntmps97;go_wp2_with fail;refine(Z3 f caps bad A _ _ _ w K hn ak _ hz eg hf).mono ?_;rintro e M ⟨h,t⟩;clear hz;have ah:=t.mono K;rcases h with⟨rfl,D⟩|⟨P,a3,rfl,Y,D⟩
 .have U:a.filter (λx => !bad x)=a:=by
   have:=Ag (bad:=bad) (Nat.le_refl a.length) D;rw[D0,List.take_length] at this;exact this
  have HF:=hid U;clear U D;go_wp2_with fail;go_ret;rw[HF.out];exact⟨rfl,ab.out.below t,ah,(ie.refl g w).below t⟩
 have ae:iu bad a (P+1)=a.take P:=by rw[Ah a3,Ag (by omega) D,Y];simp
 have T:(iu bad a (P+1)).length=P:=by rw[ae,List.length_take];omega
 have H0:Hid (Lb g bad a (P+1) M):=⟨_,ab.out.below t,λq L=>by
  rw[T] at L;rw[ae];simp only[List.getD,List.getElem?_take,if_pos L],λq _ _=>rfl⟩
 have ac:=hid T;clear ae T Y D ab;go_wp2_with fail
 go_loopw [5,6] (λi j wk=>∃k:Nat,k<=a.length/\j = .int .i64 k/\i = .int .i64 ((iu bad a k).length:Nat)/\(iu bad a k).length<k/\Hid (Lb g bad a k wk)/\Below A w wk/\Hid (ie g w wk)) (λ_ j _=>a.length-(intOf j).toNat)
 case atStart=>exact⟨P+1,by omega,by go_num,by rw[ac.out],by rw[ac.out];omega,H0,ah,(ie.refl g w).below t⟩
 clear H0 ac ah t;obtain⟨k,hk,rfl,rfl,B,HD,hB,r⟩:=hrel;by_cases af:k<a.length;rotate_left
 .have a0:k=a.length:=by omega
  subst a0;obtain⟨c,d,p,E⟩:=HD.out;rw[D0] at B p ⊢;obtain⟨I,G⟩:∃I,(a.filter (λx => !bad x)).length=I:=⟨_,rfl⟩;have HI:=hid G;rw[G] at B p ⊢;clear G;obtain⟨N,hN⟩:∃N,a.length=N:=⟨_,rfl⟩;rw[hN] at B hn d ⊢;clear hN E af hk HD;have bn:¬cap=I:=by omega
  have bo:∀ty,(Builtin.clear_ #[28] ty #[.slice (some ⟨g,I*4,none⟩) (N-I) (cap-I)]).run prog wr = .ok (.tuple #[]) (wr.setCells g (I*4) (List.replicate ((N-I)*4) (.int .i64 0))):=λty =>
   Vi wr ty g (I*4) (N-I) (cap-I) (by omega) (λj hj=>by rw[d.cell (by omega)];rfl) (λj _=>d.frozen _)
  have aq:Hid (Blk (wr.setCells g (I*4) (List.replicate ((N-I)*4) (.int .i64 0))) g 61 (I*4) (hc λj=>(a.filter (λx => !bad x)).getD j hd0)/\Below A w (wr.setCells g (I*4) (List.replicate ((N-I)*4) (.int .i64 0)))/\ie g w (wr.setCells g (I*4) (List.replicate ((N-I)*4) (.int .i64 0)))):=
   ⟨Blk.setCells _ _ _ ((d.less (by omega)).congr λj hj=>by unfold hc;rw[p (j/4) (by omega)]) nlr,x9 hA _ _ _ hB,r.out.cells _ _ _⟩
  clear d p;go_wp2_with fail;go_ret;rw[HI.out];exact⟨rfl,aq.out⟩
 obtain⟨c,d,p,E⟩:=HD.out;have s:=qa3 d p E;have HS:Hid (iu bad a (k+1)=iu bad a k++if bad (a.getD k hd0) then [] else [a.getD k hd0]):=Ah af;obtain⟨X,hX⟩:∃X,a.getD k hd0=X:=⟨_,rfl⟩;have an:=hid hX;have ao:c k=X:=by rw[E k nlr af,hX]
 have Q:=Pz c k;rw[ao] at Q;have z0:wr.cell? ⟨g,k*4,none⟩=some (.int .i64 X.o):=(d.cell (by omega)).trans (by rw[Q.1]);have z1:wr.cell? ⟨g,k*4+1,none⟩=some (.int .i64 X.l):=(d.cell (by omega)).trans (by rw[Q.2.1]);have z2:wr.cell? ⟨g,k*4+2,none⟩=some (.int .i64 X.b):=(d.cell (by omega)).trans (by rw[Q.2.2.1]);have z3:wr.cell? ⟨g,k*4+3,none⟩=some (.int .i64 X.n):=(d.cell (by omega)).trans (by rw[Q.2.2.2]);have zl:=d.lt;clear d p E HD hX ao Q;obtain⟨I,G⟩:∃I,(iu bad a k).length=I:=⟨_,rfl⟩;have v:=hid G;rw[G] at B ⊢;clear G;obtain⟨W,hW,J,KX⟩:∃W,wr.alloc (.cells #[.int .i64 X.o,.int .i64 X.l,.int .i64 X.b,.int .i64 X.n] 61)=W/\Below wr.heap.size wr W/\Blk W wr.heap.size 61 4 (λj=>(#[.int .i64 X.o,.int .i64 X.l,.int .i64 X.b,.int .i64 X.n]:Array Value).getD j default):=⟨_,rfl,brf.alloc nlr _,Blk.mk' rfl rfl⟩;have HW:Hid (wr.alloc (.cells #[.int .i64 X.o,.int .i64 X.l,.int .i64 X.b,.int .i64 X.n] 61)=W):=hW;have H:=hB.trans (J.mono (Qzx K hB.size));have s:Hid (Blk W g 61 (a.length*4) (hc c)/\(∀q,q<(iu bad a k).length->c q=(iu bad a k).getD q hd0)/\∀q,k<=q->q<a.length->c q=a.getD q hd0):=⟨s.out.1.below J,s.out.2⟩;have r:Hid (ie g w W):=r.out.below J;clear hW J;go_wp2_with fail;rw[HW.out];refine(hf.out X W H).mono ?_;rintro e z ⟨rfl,F⟩;have ap:=H.trans (F.mono (Qzx K H.size));have r:Hid (ie g w z):=r.out.below F;have m:=s.out.1.below F;have u:=KX.below F;have xl:=u.lt;have x0:z.cell? ⟨wr.heap.size,0,none⟩=some (.int .i64 X.o):=u.k 0;have x1:z.cell? ⟨wr.heap.size,1,none⟩=some (.int .i64 X.l):=u.k 1;have x2:z.cell? ⟨wr.heap.size,2,none⟩=some (.int .i64 X.b):=u.k 2;have x3:z.cell? ⟨wr.heap.size,3,none⟩=some (.int .i64 X.n):=u.k 3;clear z0 z1 z2 z3 zl KX u HW hB H F
 generalize wr.heap.size=BX at *
 cases am:bad X;rotate_left
 .have y:Hid (Lb g bad a (k+1) z/\(iu bad a (k+1)).length=I):=by
   have S:iu bad a (k+1)=iu bad a k:=by rw[HS.out,an.out,am];simp
   rw[S];exact⟨⟨c,m,by rw[S];exact s.out.2.1,λq L ag=>s.out.2.2 q (by omega) ag⟩,v.out⟩
  clear m s HS;go_wp2_with fail;go_roundw
  case rel=>exact⟨_,_,_,_,_,_,_,_,_,_,_,_,_,_,_,_,_,_,_,_,_,_,_,⟨k+1,by omega,by go_num,by rw[y.out.2],by rw[y.out.2];omega,y.out.1,ap,r⟩,rfl⟩
  case measure=>simp[intOf];omega
 have y0:=m.cell (j:=I*4) (by omega);have y1:=m.cell (j:=I*4+1) (by omega);have y2:=m.cell (j:=I*4+2) (by omega);have y3:=m.cell (j:=I*4+3) (by omega);have f0:=m.frozen (I*4);have f1:=m.frozen (I*4+1);have f2:=m.frozen (I*4+2);have f3:=m.frozen (I*4+3);have yl:=m.lt
 generalize hc c (I*4)=V0 at y0
 generalize hc c (I*4+1)=V1 at y1
 generalize hc c (I*4+2)=V2 at y2
 generalize hc c (I*4+3)=V3 at y3
 have KB:=m.set4 I X;have y:Hid (Lb g bad a (k+1) (set4 z g I X)/\Below A w (set4 z g I X)/\(iu bad a (k+1)).length=I+1/\ie g w (set4 z g I X)):=by
  have S:iu bad a (k+1)=iu bad a k++[X]:=by rw[HS.out,an.out,am];rfl
  have e2:(iu bad a (k+1)).length=I+1:=by rw[S,List.length_append,v.out];rfl
  refine⟨⟨_,KB,λq L => ?_,λq L ag => ?_⟩,Lp hA ap I X,e2,r.out.set4 I X⟩
  .rw[e2] at L;show(if q=I then X else c q)=_;rw[S];by_cases V:q=I
   .rw[if_pos V];simp only[List.getD];rw[List.getElem?_append_right (by rw[v.out];omega),v.out,V];simp
   rw[if_neg V,s.out.2.1 q (by rw[v.out];omega)];simp only[List.getD];rw[List.getElem?_append_left (by rw[v.out];omega)]
  show(if q=I then X else c q)=_;rw[if_neg (by omega),s.out.2.2 q (by omega) ag]
 clear m KB s HS;go_wp2_with fail;go_roundw
 case rel=>exact⟨_,_,_,_,_,_,_,_,_,_,_,_,_,_,_,_,_,_,_,_,_,_,_,⟨k+1,by omega,by go_num,by rw[y.out.2.2.1];go_num,by rw[y.out.2.2.1];omega,y.out.1,y.out.2.1,y.out.2.2.2⟩,rfl⟩
 case measure=>simp[intOf];omega
open Go.Sort
def Aa(os:Os)(o:Nat)(v:Int):Os:=⟨os.a,os.n,os.c,λi=>if i=o then ⟨v,(os.z i).ls⟩ else os.z i⟩
def dh(s:St)(o:Nat)(v:Int):St:=⟨s.on,Aa s.os o v,s.hs,s.ms,s.si,s.so,s.sf⟩
theorem uc(s:St)(o:Nat)(v:Int):(dh s o v).os.z o=⟨v,(s.os.z o).ls⟩:=if_pos rfl
theorem Au(os:Os)(o:Nat)(v:Int)(i:Nat):((Aa os o v).z i).ls=(os.z i).ls:=by
 show(if i=o then(⟨v,(os.z i).ls⟩:Od) else os.z i).ls=_;by_cases h:i=o
 .rw[if_pos h]
 rw[if_neg h]
theorem j7.kind{A:Nat}{w:World}{s:Os}{o g:Nat}(h:j7 A w s)(B:o<s.n)(r:s.a=some ⟨g,0,none⟩)(v:Int):j7 A (w.setCell ⟨g,o*2,none⟩ (.int .i64 v)) (Aa s o v):=by
 obtain⟨E,c,t,f⟩:=h.list (by omega);rw[r] at c;simp only[Qkx,Qkz,and_true] at c;subst c;refine⟨h.le,h.cap,λD=>⟨g,r,t,(f.set (o*2) (.int .i64 v)).congr λq F => ?_⟩,λi hi => ?_,λi j p d=>by rw[Au,Au];exact h.apart i j p d,h.room.set _ _ _⟩;rotate_left
 .rw[Au];obtain⟨C,a1,y,x,u,k⟩:=h.lines i hi;exact⟨C,a1,y,x,u,k.other (a:=⟨g,o*2,none⟩) (Blk.ne2 k f (by decide)) _⟩
 have hd:q=q/2*2+q%2:=by omega
 have hi:q/2<s.n:=by omega
 have l:q%2<2:=by omega
 have e:=pa (z:=s.z) hi l;have m:=pa (z:=(Aa s o v).z) hi l;rw[<-hd] at e m;show(if q=o*2 then Value.int .i64 v else(jh s.n s.z).getD q default)=(jh s.n (Aa s o v).z).getD q default;rw[e,m];show _=(py (if q/2=o then(⟨v,(s.z (q/2)).ls⟩:Od) else s.z (q/2))).getD (q%2) default;by_cases d:q/2=o
 .rw[if_pos d];have b:q%2=0\/q%2=1:=by omega
  rcases b with b|b
  .rw[if_pos (by omega),b];rfl
  rw[if_neg (by omega),b];rfl
 rw[if_neg d,if_neg (by omega)]
theorem ai.kind{A:Nat}{w:World}{s:St}{o g:Nat}(h:ai A w s)(f:o<s.os.n)(e:s.os.a=some ⟨g,0,none⟩)(v:Int):ai A (w.setCell ⟨g,o*2,none⟩ (.int .i64 v)) (dh s o v):=by
 obtain⟨p,c,m,b⟩:=h.os.list (by omega);rw[e] at c;simp only[Qkx,Qkz,and_true] at c;subst c;refine⟨?_,λi hi=>(h.rows i hi).other b (by decide) _ _,h.rapart,h.os.kind f e v,h.hs.other b (by decide) _ _,h.ms.other b (by decide) _ _,h.msr.set _ _ _,h.si.other b (by decide) _ _,h.so.other b (by decide) _ _,h.sf.other b (by decide) _ _,h.aio,h.aif,h.aof,h.ari⟩;obtain⟨q,k,a1,l,j,d⟩:=h.on;exact⟨q,k,a1,l,j,d.other (a:=⟨g,o*2,none⟩) (Blk.ne2 d b (by decide)) _⟩
def Jg(s:St)(i:Nat):St:=fg (dh s i 1) i (s.os.z i).ls.n
theorem Sx(x:St)(i A B:Nat)(w:World)(S:A<=w.heap.size)(o:ai A w x)(hi:i<x.os.n)(d:x.os.a=some ⟨B,0,none⟩)(r:∀j,j<(x.os.z i).ls.n->(0<=((x.os.z i).ls.z j).l/\((x.os.z i).ls.z j).l<=200)/\0<=((x.os.z i).ls.z j).b/\((x.os.z i).ls.z j).b<=200):
  Calls prog 95 #[.pointer (some ⟨B,i*2,none⟩)] w λe D=>∃y:St,e = .returned (.tuple #[])/\((x.os.z i).k=0->y=Jg x i)/\(¬(x.os.z i).k=0->y=x)/\ai A D y/\Below A w D/\nx w D:=by
 obtain⟨g,m,L,c⟩:=o.os.list (by omega);have G:g=B:=by rw[d] at m;simpa using m.symm
 subst G;have v:=c.cell (j:=i*2) (by omega);have e0:=pa (z:=x.os.z) hi (show 0<2 by decide);rw[Nat.add_zero] at e0;rw[e0] at v;have c1:w.cell? ⟨g,i*2,none⟩=some (.int .i64 (x.os.z i).k):=v;have U:=c.lt;have gf:=c.frozen (i*2);have P:=hid o;have q:Hid (ai A (w.setCell ⟨g,i*2,none⟩ (.int .i64 1)) (dh x i 1)/\Below A w (w.setCell ⟨g,i*2,none⟩ (.int .i64 1))/\nx w (w.setCell ⟨g,i*2,none⟩ (.int .i64 1))/\w.heap.size<=(w.setCell ⟨g,i*2,none⟩ (.int .i64 1)).heap.size):=by
  have J:=(Below.refl A w).setCell (p:=⟨g,i*2,none⟩) L (.int .i64 1);exact⟨o.kind hi d 1,J,(nx.refl w).setOrder c _ _,J.size⟩
 have F:Hid (∀j,j<((dh x i 1).os.z i).ls.n->(0<=(((dh x i 1).os.z i).ls.z j).l/\(((dh x i 1).os.z i).ls.z j).l<=200)/\0<=(((dh x i 1).os.z i).ls.z j).b/\(((dh x i 1).os.z i).ls.z j).b<=200):=by
  show ∀j,j<((dh x i 1).os.z i).ls.n->_;rw[uc];exact r
 have H:=hid d;clear o m c d r v e0;by_cases f:(x.os.z i).k=0;rotate_left
 .have M:((x.os.z i).k !=0)=true:=by simpa using f
  have E:Hid (¬(x.os.z i).k=0):=f;clear f
  generalize (x.os.z i).k=Q at *
  go_enter func95,ntmps95;go_wp2_with fail
  first|go_end0|refine Xzq (results_none rfl _ _ _) rfl ?_
  exact⟨x,rfl,λh=>absurd h E.out,λ_=>rfl,P.out,Below.refl _ _,nx.refl _⟩
 have M:((x.os.z i).k !=0)=false:=by simpa using f
 have E:Hid ((x.os.z i).k=0):=f;clear f
 generalize (x.os.z i).k=Q at *
 go_enter func95,ntmps95;go_wp2_with fail;refine(Q8 (dh x i 1) i A g _ (Qzx S q.out.2.2.2) q.out.1 hi H.out F.out).mono ?_;rintro e T ⟨rfl,t,u,s⟩;have K:=qa3 t (q.out.2.1.trans u) (q.out.2.2.1.trans s);clear t u s;go_wp2_with fail
 first|go_end0|refine Xzq (results_none rfl _ _ _) rfl ?_
 refine⟨Jg x i,rfl,λ_=>rfl,λh=>absurd E.out h,?_,K.out.2⟩;have h:=K.out.1;rw[uc] at h;exact h
theorem R0(B:Nat)(x:Hd)(order:Int)(w:World)(f:B<w.heap.size)(c:w.cell? ⟨B,0,none⟩=some (.int .i64 order)):
  Calls prog 98 #[x.val,.pointer (some ⟨B,0,none⟩)] w λe d=>e = .returned (.bool (x.o==order))/\Below w.heap.size w d:=by
 have a:=(Below.refl w.heap.size w).alloc nlr (.cells #[.int .i64 x.o,.int .i64 x.l,.int .i64 x.b,.int .i64 x.n] 61);unfold Hd.val;go_enter func98,ntmps98;go_wp2_with fail;go_ret;exact⟨rfl,a⟩
def ii(h:Hs):List Hd:=(List.range h.n).map h.z
theorem mt(h:Hs):(ii h).length=h.n:=by simp[ii]
theorem Kk{h:Hs}{j:Nat}(a:j<h.n):(ii h).getD j hd0=h.z j:=by
 unfold ii;simp[List.getD,a]
def dx(h:Hs)(bad:Hd->Bool):Hs:=⟨h.a,((ii h).filter (λx => !bad x)).length,h.c,λj=>((ii h).filter (λx => !bad x)).getD j hd0⟩
theorem yy(h:Hs)(bad:Hd->Bool):(dx h bad).n<=h.n:=by
 have:=List.length_filter_le (λx => !bad x) (ii h);rw[mt] at this;exact this
theorem Ub{h k:Hs}(a:h.n=k.n)(b:∀j,j<h.n->h.z j=k.z j)(bad:Hd->Bool):(dx h bad).n=(dx k bad).n/\(dx h bad).z=(dx k bad).z:=by
 have e:ii h=ii k:=by
  unfold ii;rw[<-a];exact List.map_congr_left λj c=>b j (List.mem_range.1 c)
 unfold dx;rw[e];exact⟨rfl,rfl⟩
theorem ju.keepG{A g n:Nat}{w a:World}{r:Rw}{f:Nat->Value}(h:ju A w r)(j:Blk w g 61 n f)(K:ie g w a):ju A a r:=by
 obtain⟨q,i,e,c,d,b⟩:=h;exact⟨q,i,e,c,d,K.blk b (Blk.ne2 b j (by decide))⟩
theorem cy.keepG{A g n:Nat}{t:TypeId}{w c:World}{s:Hs}{f:Nat->Value}(h:cy A t w s)(m:Blk w g 61 n f)(a:t≠61)(K:ie g w c):cy A t c s:=by
 obtain⟨e,o,k,i⟩:=h;refine⟨e,o,k,λj => ?_⟩;obtain⟨q,l,d,b⟩:=i j;exact⟨q,l,d,K.blk b (Blk.ne2 b m a)⟩
theorem fo.keepG{A g n:Nat}{t:TypeId}{w j:World}{i c:Nat}{a:Option Addr}{f:Nat->Value}(h:fo A w t i a c)(l:Blk w g 61 n f)(d:t≠61)(K:ie g w j):fo A j t i a c:=by
 refine h.same λq cur b=>K.2 q (Qkq b).1 λe => ?_;obtain⟨c2,k,_⟩:=l;rw[e,k] at b;cases b;exact d rfl
theorem j7.keepG{A g n:Nat}{w e:World}{s:Os}{f:Nat->Value}(h:j7 A w s)(c:Blk w g 61 n f)(K:ie g w e):j7 A e s:=by
 refine⟨h.le,h.cap,λk => ?_,λi hi => ?_,h.apart,h.room.keepG c (by decide) K⟩
 .obtain⟨q,a1,b,a⟩:=h.list k;exact⟨q,a1,b,K.blk a (Blk.ne2 a c (by decide))⟩
 obtain⟨C,a1,b,a,j,d⟩:=h.lines i hi;exact⟨C,a1,b,a,j,K.blk d (Blk.ne2 d c (by decide))⟩
theorem ai.keepG{A g n:Nat}{w b:World}{s:St}{h:Hs}{f:Nat->Value}(k:ai A w s)(a:Blk w g 61 n f)(K:ie g w b)(j:cy A 61 b h):ai A b (Go.Proofs.YtbcacebifpagpagGreat.withHolds s h):=by
 refine⟨?_,λi hi=>(k.rows i hi).keepG a K,k.rapart,k.os.keepG a K,j,k.ms.keepG a (by decide) K,k.msr.keepG a (by decide) K,k.si.keepG a K,k.so.keepG a K,k.sf.keepG a K,k.aio,k.aif,k.aof,k.ari⟩;obtain⟨q,e,a1,l,d,c⟩:=k.on;exact⟨q,e,a1,l,d,K.blk c (Blk.ne2 c a (by decide))⟩
theorem P2(f:Nat)(caps:Array Value)(bad:Hd->Bool)(a:Option Addr)(cap:Nat)(w:World)(c:cap<=maxLen)
  (m:∀args w,(callFunc f args).run prog w = .ok (.enter f args) w)
  (l:Hid (∀(x:Hd) b,Below w.heap.size w b->Calls prog f (#[x.val]++caps) b λe g=>e = .returned (.bool (bad x))/\Below b.heap.size b g)) :
  Calls prog 97 #[.slice a (0:Nat) cap,.func (.func f) #[] caps] w λe g=>e = .returned (.slice a (0:Nat) cap)/\Below w.heap.size w g:=by
 have d:=c;unfold maxLen at c;go_enter func97,ntmps97;go_wp2_with fail;refine(Z3 f caps bad w.heap.size a 0 cap w nlr (Qxz _) d (λ_=>hd0) (λi hi=>absurd hi (Qzq _)) m l).mono ?_;rintro e b ⟨h,j⟩;rcases h with⟨rfl,-⟩|⟨n,k,-⟩
 .go_wp2_with fail;go_ret;exact⟨rfl,j⟩
 exact absurd k (Qzq _)
theorem Ya(f:Nat)(caps:Array Value)(bad:Hd->Bool)(A:Nat)(s:St)(w:World)(k:A<=w.heap.size)(u:ai A w s)
  (L:∀args w,(callFunc f args).run prog w = .ok (.enter f args) w)
  (K:∀(x:Hd) b,Below A w b->Calls prog f (#[x.val]++caps) b λe i=>e = .returned (.bool (bad x))/\Below b.heap.size b i) :
  Calls prog 97 #[.slice s.hs.a s.hs.n s.hs.c,.func (.func f) #[] caps] w λe i=>e = .returned (.slice (dx s.hs bad).a (dx s.hs bad).n (dx s.hs bad).c)/\ai A i (withHolds s (dx s.hs bad))/\Below A w i/\(∀q t m g,t≠61->Blk w q t m g->Blk i q t m g):=by
 obtain⟨B,o,E,M⟩:=u.hs;by_cases P:s.hs.n=0
 .have hd:(dx s.hs bad).n=0:=by have:=yy s.hs bad;omega
  rw[P,hd];refine(P2 f caps bad s.hs.a s.hs.c w o L (λx b d=>K x b (d.mono k))).mono ?_;rintro e b ⟨rfl,d⟩;refine⟨rfl,(u.below d).withHolds ⟨by rw[hd];exact Qxz _,o,E,λh=>absurd h (by omega)⟩,d.mono k,λq t m g _ y=>y.below d⟩
 obtain⟨g,v,H,y⟩:=M (by omega);have l:Blk w g 61 ((ii s.hs).length*4) (hc λj=>(ii s.hs).getD j hd0):=by
  rw[mt];refine y.congr λq r => ?_;rw[uu r];unfold hc;dsimp only;rw[Kk (by omega)]
 have F:=P1 f caps bad A g s.hs.c (ii s.hs) w H k (by rw[mt];exact B) o l L K;rw[mt] at F;rw[v];refine F.mono ?_;rintro e b ⟨rfl,D,d,G⟩;have Q:=yy s.hs bad;refine⟨by show _=Ending.returned (.slice s.hs.a _ _);rw[v];rfl,u.keepG l G ⟨Qzx Q B,o,E,λ_=>⟨g,v,H,D.congr λq r=>(uu (z:=(dx s.hs bad).z) r).symm⟩⟩,d,λq t m f' J p=>G.blk p (Blk.ne2 p l J)⟩
theorem O0(n:Nat)(z:Nat->Hd)(o l b:Int):keptV n z o l b=(((List.range n).map z).find? (λx=>be x o l b)).elim 0 (λx=>x.n):=by
 unfold keptV;rw[List.find?_map];cases h:(List.range n).find? (λi=>be (z i) o l b) with
 | none =>
  have a:(List.range n).find? ((λx=>be x o l b) ∘ z)=none:=h;rw[a]
  rfl
 | some i =>
  have a:(List.range n).find? ((λx=>be x o l b) ∘ z)=some i:=h;rw[a]
  rfl
theorem Uq(n:Nat)(L:List Hd)(h:n=L.length):(List.range n).map (λj=>L.getD j hd0)=L:=by
 subst h
 apply List.ext_getElem
 .simp
 intro i b a;simp[List.getD,a]
theorem Ly(h:Hs)(bad:Hd->Bool):ii (dx h bad)=(ii h).filter (λx => !bad x):=Uq _ _ rfl
theorem Si(h:Hs)(bad:Hd->Bool)(o l b:Int):keptV (dx h bad).n (dx h bad).z o l b=((ii h).find? (λx => !bad x&&be x o l b)).elim 0 (λx=>x.n):=by
 rw[O0];have e:(List.range (dx h bad).n).map (dx h bad).z=(ii h).filter (λx => !bad x):=Ly h bad;rw[e,List.find?_filter];have c:(λa=>decide ((!bad a)=true/\be a o l b=true))=λx => !bad x&&be x o l b:=by
  funext a
  cases bad a<;>cases be a o l b<;>rfl
 rw[c]
theorem Uo(h:Hs)(o l b:Int):keptV h.n h.z o l b=((ii h).find? (λx=>be x o l b)).elim 0 (λx=>x.n):=O0 _ _ _ _ _
theorem Lx(h:Hs)(bad:Hd->Bool){o l b:Int}{B:Bool}(c:∀x,be x o l b=true->bad x=B):keptV (dx h bad).n (dx h bad).z o l b=if B then 0 else keptV h.n h.z o l b:=by
 rw[Si];cases B
 .rw[if_neg (by decide),Uo];have e:(λx => !bad x&&be x o l b)=λx=>be x o l b:=by
   funext x
   cases a:be x o l b
   .simp
   rw[c x a];rfl
  rw[e]
 rw[if_pos rfl];have e:(ii h).find? (λx => !bad x&&be x o l b)=none:=by
  rw[List.find?_eq_none];intro x _;cases a:be x o l b
  .simp
  rw[c x a];simp
 rw[e]
 rfl
theorem Hz{h:Hs}{bad:Hd->Bool}(t:∀i j,i<j->j<h.n->ba (h.z i)<ba (h.z j))(q:∀i,i<h.n->bad (h.z i)=false->gx (h.z i)=true):aw (dx h bad).n (cz (dx h bad).z)=false:=by
 have s:(ii h).Pairwise (λx y=>ba x<ba y):=by
  rw[List.pairwise_iff_getElem];intro i j hi d f;have l:j<h.n:=by rw[mt] at d;exact d
  have m:(ii h)[i]=h.z i:=by simp[ii]
  have r:(ii h)[j]=h.z j:=by simp[ii]
  rw[m,r];exact t i j f l
 have g:=s.filter (λx => !bad x);have a:∀i (hi:i<((ii h).filter (λx => !bad x)).length),(dx h bad).z i=((ii h).filter (λx => !bad x))[i]:=λi hi=>by
  show((ii h).filter (λx => !bad x)).getD i hd0=_;rw[List.getD_eq_getElem?_getD,List.getElem?_eq_getElem hi]
  rfl
 refine Gk (λi hi => ?_) λi hi => ?_
 .rw[a i hi];have e:=List.getElem_mem hi;rw[List.mem_filter] at e;obtain⟨o,u⟩:=e;obtain⟨k,p,v⟩:∃k,k∈List.range h.n/\h.z k=((ii h).filter (λx => !bad x))[i]:=List.mem_map.1 o;have b:bad (((ii h).filter (λx => !bad x))[i])=false:=by simpa using u
  rw[<-v] at b ⊢;exact q k (List.mem_range.1 p) b
 have c:i+1<((ii h).filter (λx => !bad x)).length:=hi;rw[a i (by omega),a (i+1) c];rw[List.pairwise_iff_getElem] at g;exact g i (i+1) (by omega) c (by omega)
theorem Ju{h:Hs}(bad:Hd->Bool)(a:aw h.n (cz h.z)=false):aw (dx h bad).n (cz (dx h bad).z)=false:=Hz (λi j b c=>mp a i j b c) λi hi _=>ca a i hi
theorem Lz{n p:Nat}{z:Nat->Hd}(a:aw n (cz z)=false)(c:p<n):aw (n-1) (cz (fp z p))=false:=by
 refine Gk (λi hi => ?_) λi hi => ?_
 .unfold fp
  split
  .exact ca a i (by omega)
  exact ca a (i+1) (by omega)
 unfold fp;by_cases b:i+1<p
 .rw[if_pos (by omega),if_pos b];exact mp a _ _ (by omega) (by omega)
 rw[if_neg b]
 split
 .exact mp a _ _ (by omega) (by omega)
 exact mp a _ _ (by omega) (by omega)
theorem Wm{n p:Nat}{z:Nat->Hd}(c:aw n (cz z)=false)(d:p<n)(o l b:Int):keptV (n-1) (fp z p) o l b=if be (z p) o l b then 0 else keptV n z o l b:=by
 have i:=Lz c d;cases f:be (z p) o l b;rotate_left
 .rw[if_pos rfl];refine kc λj m => ?_;cases q:be (fp z p j) o l b
  .rfl
  have e:=F6 q f;unfold fp at e
  split at e
  .have:=mp c j p (by omega) d;omega
  have:=mp c p (j+1) (by omega) (by omega);omega
 rw[if_neg (by decide)];rcases qz n z o l b with h|⟨k,r,t,a⟩
 .rw[kc h,kc λj m => ?_];unfold fp
  split
  .exact h j (by omega)
  exact h (j+1) (by omega)
 have s:¬k=p:=λe=>by rw[e,f] at a;exact absurd a (by decide)
 rw[(np c r a).1];by_cases g:k<p
 .have e:fp z p k=z k:=if_pos g;rw[(np i (k:=k) (by omega) (by rw[e];exact a)).1,e]
 have e:fp z p (k-1)=z k:=by
  unfold fp;rw[if_neg (by omega),show k-1+1=k by omega]
 rw[(np i (k:=k-1) (by omega) (by rw[e];exact a)).1,e]
theorem Qx{n:Nat}{z:Nat->Hd}{o l b:Int}(a:aw n (cz z)=false):Bc n z o l b=if keptV n z o l b=0 then 4 else 0:=by
 unfold Bc;rw[if_pos (zz a)]
theorem Yv{n:Nat}{z:Nat->Hd}{o l b:Int}(a:aw n (cz z)=false):Ce n z o l b=keptV n z o l b:=by
 unfold Ce;rw[if_pos (zz a)]
def g9(k:Nat)(i:Nat)(o:Od):Od:=if i<k/\o.k=0 then ⟨1,xg o.ls o.ls.n⟩ else o
def df(s:St)(k:Nat):St:=⟨s.on,⟨s.os.a,s.os.n,s.os.c,λi=>g9 k i (s.os.z i)⟩,s.hs,s.ms,s.si,s.so,s.sf⟩
theorem uy{k i:Nat}(o:Od)(h:k<=i):g9 k i o=o:=if_neg (by omega)
theorem Pc(s:St):df s 0=s:=by
 unfold df;have e:(λi=>g9 0 i (s.os.z i))=s.os.z:=funext λi=>uy _ (Qxz _);rw[e]
theorem zq(k i:Nat)(o:Od):(g9 k i o).ls.n=o.ls.n:=by
 unfold g9
 split<;>rfl
theorem Rj{s:St}{k:Nat}(h:(s.os.z k).k=0):Jg (df s k) k=df s (k+1):=by
 unfold Jg fg dh df F1 Aa;dsimp only
 congr 2
 funext a
 rw[zq];by_cases c:a=k
 .subst c;rw[if_pos rfl,if_pos rfl,uy _ nlr];unfold g9;rw[if_pos ⟨by omega,h⟩]
 rw[if_neg c,if_neg c];unfold g9;by_cases b:a<k/\(s.os.z a).k=0
 .rw[if_pos b,if_pos ⟨by omega,b.2⟩]
 rw[if_neg b,if_neg (λe=>b ⟨by omega,e.2⟩)]
theorem Pb{s:St}{k:Nat}(h:¬(s.os.z k).k=0):df s k=df s (k+1):=by
 unfold df
 congr 2
 funext a
 unfold g9;by_cases b:a<k/\(s.os.z a).k=0
 .rw[if_pos b,if_pos ⟨by omega,b.2⟩]
 rw[if_neg b,if_neg (λe=>b ⟨by
  have:¬a=k:=λc=>h (by rw[<-c];exact e.2);omega,e.2⟩)]
theorem Ck(k i:Nat)(o:Od)(j:Nat):((g9 k i o).ls.z j).o=(o.ls.z j).o/\((g9 k i o).ls.z j).l=(o.ls.z j).l/\((g9 k i o).ls.z j).b=(o.ls.z j).b:=by
 unfold g9
 split
 .show((if j<o.ls.n then vj (o.ls.z j) else o.ls.z j).o=_)/\((if j<o.ls.n then vj (o.ls.z j) else o.ls.z j).l=_)/\((if j<o.ls.n then vj (o.ls.z j) else o.ls.z j).b=_)
  split<;>exact⟨rfl,rfl,rfl⟩
 exact⟨rfl,rfl,rfl⟩
theorem Vd{o a:Od}(k i:Nat)(h:a.k=o.k/\a.ls.n=o.ls.n/\∀j,j<a.ls.n->a.ls.z j=o.ls.z j):(g9 k i a).k=(g9 k i o).k/\(g9 k i a).ls.n=(g9 k i o).ls.n/\∀j,j<(g9 k i a).ls.n->(g9 k i a).ls.z j=(g9 k i o).ls.z j:=by
 unfold g9;by_cases c:i<k/\o.k=0
 .rw[if_pos c,if_pos ⟨c.1,h.1.trans c.2⟩];refine⟨rfl,h.2.1,λj d => ?_⟩;show(if j<a.ls.n then vj (a.ls.z j) else a.ls.z j)=if j<o.ls.n then vj (o.ls.z j) else o.ls.z j;have b:j<a.ls.n:=d;rw[if_pos b,if_pos (by omega),h.2.2 j b]
 rw[if_neg c,if_neg (λe=>c ⟨e.1,h.1.symm.trans e.2⟩)];exact h
theorem Ij{x s:St}(h:ae x s)(k:Nat):ae (df x k) (df s k):=
 ⟨h.on,⟨h.os.1,λi hi=>Vd k i (h.os.2 i hi)⟩,h.hs,h.ms,h.si,h.so,h.sf⟩
theorem Gg{p:Pl}{s:St}(r:au p s){k i j:Nat}(hi:i<s.os.n)(d:j<(s.os.z i).ls.n)(c:i<k/\(s.os.z i).k=0):(g9 k i (s.os.z i)).k=1/\((s.os.z i).ls.z j).b=0/\((s.os.z i).ls.z j).n=0/\keptS s.hs.z i j s.hs.n=0/\((g9 k i (s.os.z i)).ls.z j).n=((s.os.z i).ls.z j).l:=by
 have w:=r.orders i hi;unfold cf at w;rw[Xxq] at w;have a:co (s.os.z i).k ((s.os.z i).ls.z j) (keptS s.hs.z i j s.hs.n)=false:=di w.2 j d;unfold co at a;rw[if_pos c.2] at a;simp only[Xxq,Bool.not_eq_false',beq_iff_eq] at a;unfold g9;rw[if_pos c];refine⟨rfl,a.1.1,a.1.2,a.2,?_⟩;show(if j<(s.os.z i).ls.n then vj ((s.os.z i).ls.z j) else(s.os.z i).ls.z j).n=_;rw[if_pos d];show((s.os.z i).ls.z j).l-((s.os.z i).ls.z j).b=_;omega
theorem Vf{p:Pl}{s:St}(r:au p s)(k:Nat):cv p (df s k):=by
 have f:=r.fm;refine⟨f.sh,f.sh0,f.os4,f.ms8,λi hi => ?_,λi hi => ?_,λi hi j b => ?_,f.hold,λi hi => ?_,f.move,f.sin,f.son,f.sfn,f.sib,f.sob,f.sfb⟩
 .show 1<=(g9 k i (s.os.z i)).ls.n/\(g9 k i (s.os.z i)).ls.n<=3;rw[zq];exact f.lns i hi
 .show 0<=(g9 k i (s.os.z i)).k/\(g9 k i (s.os.z i)).k<=2;unfold g9
  split
  .exact⟨(by decide:(0:Int)<=1),(by decide:(1:Int)<=2)⟩
  exact f.kind i hi
 .show jy p ((g9 k i (s.os.z i)).ls.z j)=false;have a:j<(s.os.z i).ls.n:=by rw[<-zq k i];exact b
  by_cases c:i<k/\(s.os.z i).k=0
  .have e:=Gg r hi a c;have g:=Ck k i (s.os.z i) j;obtain⟨b1,b2,b3,b4⟩:=dz (f.line i hi j a);unfold jy;rw[bq (by omega),bq (by omega),bq (by omega),bq (by omega)]
   rfl
  unfold g9;rw[if_neg c];exact f.line i hi j a
 have h:=iq (f.home i hi);refine pe h.1 ⟨h.2.1.1,?_⟩ h.2.2;show _<(g9 k _ (s.os.z _)).ls.n;rw[zq];exact h.2.1.2
theorem Xp(s:St)(k b g:Nat):ar (df s k) b g=ar s b g:=by
 unfold ar;rw[qy (x:=df s k) (s:=s) (λj _=>rfl) (λj _=>(Ck k _ _ _).1)];rw[ox (x:=df s k) (s:=s) (λj _=>rfl)]
 rfl
theorem Xq{p:Pl}{s:St}(r:au p s)(k:Nat):au p (df s k):=by
 refine⟨Vf r k,λg m => ?_,λi hi => ?_⟩
 .obtain⟨a1,l⟩:=km (r.goods g m);exact rm a1 λb f=>by rw[Xp];exact l b f
 have a:i<s.os.n:=hi;by_cases c:i<k/\(s.os.z i).k=0;rotate_left
 .have e:(df s k).os.z i=s.os.z i:=if_neg c;have w:=r.orders i a;unfold cf at w ⊢;rw[e];exact w
 have o:=(r.fm.lns i a).1;have e0:=Gg r a (j:=0) (by omega) c;unfold cf;rw[Xxq];constructor
 .have:aw ((df s k).os.z i).ls.n (λj=>jr (((df s k).os.z i).ls.z j))=true:=by
   refine dt (k:=0) ?_ ?_
   .show 0<(g9 k i (s.os.z i)).ls.n;rw[zq];omega
   show jr ((g9 k i (s.os.z i)).ls.z 0)=true;have g:=Ck k i (s.os.z i) 0;obtain⟨b1,b2,b3,b4⟩:=dz (r.fm.line i a 0 (by omega));unfold jr;rw[Bool.not_eq_true',beq_eq_false_iff_ne];omega
  rw[this];simp
 refine ct λj h => ?_;have d:j<(s.os.z i).ls.n:=by rw[<-zq k i];exact h
 have e:=Gg r a d c;have g:=Ck k i (s.os.z i) j;show co (g9 k i (s.os.z i)).k ((g9 k i (s.os.z i)).ls.z j) (keptS s.hs.z i j s.hs.n)=false;unfold co;rw[e.1,if_neg (by decide),if_neg (by decide),Bool.not_eq_false',beq_iff_eq];omega
def pq(s:St)(a b:Nat):Int:=if ((df s s.os.n).os.z a).k=1 then(((df s s.os.n).os.z a).ls.z b).n else 0
def v7(s:St)(a:Nat):Nat:=(s.os.z a).ls.n
def jw(p:Pl)(s x:St):Prop:=h9 p (-1) (pq s) (v7 s) (df s s.os.n) s.os.n x
def Fg(p:Pl)(s x:St):Prop:=(ag p s=0->jw p s x)/\(¬ag p s=0->Dj x)
theorem uz{p:Pl}{s:St}(r:au p s):QIn p (-1) (pq s) (df s s.os.n):=by
 have c:=Xq r s.os.n;refine⟨c,λa b e d => ?_,Or.inl rfl⟩;unfold pq;have q:=Ad c e d;by_cases h:((df s s.os.n).os.z a).k=1
 .rw[if_pos h];exact⟨q.1,Or.inr ⟨h,Int.le_refl _⟩⟩
 rw[if_neg h];exact⟨Int.le_refl _,Or.inl rfl⟩
theorem mi(s:St)(a:Nat):v7 s a=((df s s.os.n).os.z a).ls.n:=(zq _ _ _).symm
theorem jw.pos{p:Pl}{s x:St}(r:au p s)(h:jw p s x):Pos p (-1) (pq s) (df s s.os.n) s.os.n 0 x:=h9.pos (uz r) (λa _=>mi s a) nlr h
theorem jw.same{p:Pl}{s x y:St}(r:au p s)(h:jw p s x)(k:jw p s y):ae x y:=h9.same (uz r) (λa _=>mi s a) nlr k h
theorem Fg.same{p:Pl}{s x y:St}(a:Fg p s x)(b:Fg p s y):ae x y:=by
 by_cases h:ag p s=0
 .exact(a.1 h).same (ed h) (b.1 h)
 exact F8 (a.2 h) (b.2 h)
def Em(p:Pl)(s:St):St:=Tw p (-1) (pq s) (v7 s) s.os.n (df s s.os.n)
theorem Gf{p:Pl}{s:St}(r:au p s):jw p s (Em p s):=Kd (uz r) (λa _=>mi s a) nlr
theorem Fg.act{p:Pl}{s x:St}(h:Fg p s x):du (ag p s) (Em p s) x:=⟨λe=>(h.1 e).same (ed e) (Gf (ed e)),h.2⟩
theorem Xo{p:Pl}{x s:St}(r:au p s)(e:ae x s):ae (Em p x) (Em p s):=by
 have j:=e.right r;have d:=e.os.1;have k:=Ij e s.os.n;have i:df x x.os.n=df x s.os.n:=by rw[d]
 have h:h9 p (-1) (pq s) (v7 s) (df s s.os.n) s.os.n (Em p x):=by
  have f:=Gf j;unfold jw at f;rw[i,d] at f;refine h9.base k (λa _=>mi s a) (λa g => ?_) (λa b g l => ?_) nlr f
  .exact(e.os.2 a (by rw[d];exact g)).2.1
  unfold pq;rw[i];have o:=k.os.2 a (by show a<x.os.n;rw[d];exact g);rw[o.1];by_cases c:((df s s.os.n).os.z a).k=1
  .rw[if_pos c,if_pos c,o.2.2 b (by rw[o.2.1];exact l)]
  rw[if_neg c,if_neg c]
 exact jw.same r h (Gf r)
theorem au.bound{p:Pl}{s:St}(r:au p s):s.os.n<=1000/\s.ms.n<=1000/\∀i,i<s.os.n->(s.os.z i).ls.n<=1000 :=
 ⟨Qzx r.fm.os4 (by decide),Qzx r.fm.ms8 (by decide),λi hi=>Qzx (r.fm.lns i hi).2 (by decide)⟩
theorem Ve{p:Pl}{s:St}(r:au p s):au p (Em p s):=((Gf r).pos r).al.r
def cw(z:Nat->Hd):Nat->List Hd
 | 0=>[]
 | k+1=>z k :: cw z k
def gy(z:Nat->Hd)(i:Nat)(d:Int)(j:Nat):Hd:=if j=i then iz (z j) d else z j
def lf(f:Hd->Bool):Nat->Int->(Nat->Hd)->Nat->Hd
 | 0,_,z=>z
 | i+1,m,z=>if f (z i) then lf f i (m-min m (z i).n) (gy z i (min m (z i).n)) else lf f i m z
def im(f:Hd->Bool):Int->List Hd->List Hd
 | _,[]=>[]
 | m,h :: R=>if f h then iz h (min m h.n) :: im f (m-min m h.n) R else h :: im f m R
def ky(f:Hd->Bool):Int->List Hd->Int->Int->Int
 | _,[],_,_=>0
 | m,h :: R,o,l=>if f h then(if h.o=o/\h.l=l then min m h.n else 0)+ky f (m-min m h.n) R o l else ky f m R o l
def tn(f:Hd->Bool):Int->List Hd->Int
 | m,[]=>m
 | m,h :: R=>if f h then tn f (m-min m h.n) R else tn f m R
def ff(P:Hd->Bool):List Hd->Int
 | []=>0
 | h :: R=>ff P R+if P h then h.n else 0
def ru(x:Hd):Bool:=x.n==0
def flt(L:List Hd):List Hd:=L.filter (λx => !ru x)
def Ic(f:Hd->Bool):List Hd->List Hd
 | []=>[]
 | h :: R=>if f h then(if h.n=1 then R else iz h 1 :: R) else h :: Ic f R
def jz(f:Hd->Bool)(z:Nat->Hd):Nat->Option Nat
 | 0=>none
 | k+1=>if f (z k) then some k else jz f z k
theorem Il(z:Nat->Hd):∀n,cw z n=((List.range n).map z).reverse
 | 0=>rfl
 | n+1=>by rw[List.range_succ,List.map_append,List.reverse_append,<-Il z n];rfl
theorem Kn(z:Nat->Hd):∀n,(cw z n).length=n
 | 0=>rfl
 | n+1=>by show(cw z n).length+1=_;rw[Kn z n]
theorem ot{z z':Nat->Hd}:∀{n:Nat},(∀j,j<n->z j=z' j)->cw z n=cw z' n
 | 0,_=>rfl
 | n+1,h=>by show z n :: cw z n=z' n :: cw z' n;rw[h n (by omega),ot λj a=>h j (by omega)]
theorem Tg{z z':Nat->Hd}:∀{n:Nat},cw z n=cw z' n->∀j,j<n->z j=z' j
 | 0,_,j,hj=>absurd hj (by omega)
 | n+1,h,j,hj=>by
  have a:z n :: cw z n=z' n :: cw z' n:=h;rw[List.cons.injEq] at a;by_cases e:j=n
  .rw[e];exact a.1
  exact Tg a.2 j (by omega)
theorem za{z z':Nat->Hd}{n a:Nat}(h:cw z n=cw z' a):n=a/\∀j,j<n->z j=z' j:=by
 have e:n=a:=by rw[<-Kn z n,h,Kn]
 subst e;exact⟨rfl,Tg h⟩
theorem v9{z:Nat->Hd}:∀{n:Nat} {x:Hd},x∈cw z n->∃j,j<n/\z j=x
 | 0,x,h=>by cases h
 | n+1,x,h=>by
  rcases List.mem_cons.1 h with e|e
  .exact⟨n,by omega,e.symm⟩
  obtain⟨j,a,e⟩:=v9 e;exact⟨j,by omega,e⟩
theorem Rm{z:Nat->Hd}:∀{n j:Nat},j<n->z j∈cw z n
 | n+1,j,h=>by
  by_cases e:j=n
  .rw[e];exact List.mem_cons_self
  exact List.mem_cons_of_mem _ (Rm (by omega))
theorem Co(f:Hd->Bool):∀(i:Nat) (m:Int) (z:Nat->Hd) (k:Nat),i<=k->lf f i m z k=z k
 | 0,_,_,_,_=>rfl
 | i+1,m,z,k,h=>by
  show(if f (z i) then lf f i (m-min m (z i).n) (gy z i (min m (z i).n)) else lf f i m z) k=z k
  split
  .rw[Co f i _ _ k (by omega)];exact if_neg (by omega)
  exact Co f i _ _ k (by omega)
theorem Ke(f:Hd->Bool):∀(i:Nat) (m:Int) (z:Nat->Hd),cw (lf f i m z) i=im f m (cw z i)
 | 0,_,_=>rfl
 | i+1,m,z=>by
  show lf f (i+1) m z i :: cw (lf f (i+1) m z) i=if f (z i) then _ else _;have e:lf f (i+1) m z=if f (z i) then lf f i (m-min m (z i).n) (gy z i (min m (z i).n)) else lf f i m z:=rfl;rw[e];by_cases h:f (z i)=true
  .rw[if_pos h,if_pos h,Ke f i,Co f i _ _ i nlr];have a:gy z i (min m (z i).n) i=iz (z i) (min m (z i).n):=if_pos rfl;rw[a,ot (z:=gy z i (min m (z i).n)) (z':=z) λj b=>if_neg (by omega)]
  rw[if_neg h,if_neg h,Ke f i,Co f i _ _ i nlr]
theorem Mg(x:Hd):iz x 0=x:=by unfold iz;rw[Int.sub_zero]
theorem Hv(f:Hd->Bool):∀(i:Nat) (z:Nat->Hd),(∀j,j<i->0<=(z j).n)->lf f i 0 z=z
 | 0,_,_=>rfl
 | i+1,z,h=>by
  show(if f (z i) then lf f i (0-min 0 (z i).n) (gy z i (min 0 (z i).n)) else lf f i 0 z)=z;have a:min 0 (z i).n=0:=Int.min_eq_left (h i (by omega));have e:gy z i 0=z:=by
   funext j
   unfold gy;rw[Mg]
   split<;>rfl
  rw[a,e,Int.sub_zero,Hv f i z λj b=>h j (by omega)]
  split<;>rfl
theorem Fp(f:Hd->Bool):∀(i:Nat) (m:Int) (z:Nat->Hd),0<=m->(∀j,j<i->0<=(z j).n)->∀k,((lf f i m z k).o=(z k).o/\(lf f i m z k).l=(z k).l/\(lf f i m z k).b=(z k).b)/\(k<i->0<=(lf f i m z k).n)/\(lf f i m z k).n<=(z k).n
 | 0,_,_,_,_,_=>⟨⟨rfl,rfl,rfl⟩,λh=>absurd h (by omega),Int.le_refl _⟩
 | i+1,m,z,hm,hz,k=>by
  have e:lf f (i+1) m z=if f (z i) then lf f i (m-min m (z i).n) (gy z i (min m (z i).n)) else lf f i m z:=rfl;rw[e];have hi:=hz i (by omega);by_cases h:f (z i)=true
  .rw[if_pos h];have d:∀j,¬j=i->gy z i (min m (z i).n) j=z j:=λj c=>if_neg c;have hs:gy z i (min m (z i).n) i=iz (z i) (min m (z i).n):=if_pos rfl;have r:=Fp f i (m-min m (z i).n) (gy z i (min m (z i).n)) (by omega) (λj c=>by rw[d j (by omega)];exact hz j (by omega)) k;by_cases a:k=i
   .subst a;rw[Co f k _ _ k nlr,hs];refine⟨⟨rfl,rfl,rfl⟩,λ_ => ?_,?_⟩
    .show 0<=(z k).n-min m (z k).n;omega
    show(z k).n-min m (z k).n<=(z k).n;omega
   rw[d k a] at r;exact⟨r.1,λg=>r.2.1 (by omega),r.2.2⟩
  rw[if_neg h];have r:=Fp f i m z hm (λj c=>hz j (by omega)) k;by_cases a:k=i
  .subst a;rw[Co f k _ _ k nlr];exact⟨⟨rfl,rfl,rfl⟩,λ_=>hi,Int.le_refl _⟩
  exact⟨r.1,λg=>r.2.1 (by omega),r.2.2⟩
def Ky(f:Hd->Bool):Prop:=∀h d,f (iz h d)=f h
def vd(R:List Hd):Prop:=∀h,h∈R->0<=h.n
theorem vd.tail{h:Hd}{R:List Hd}(p:vd (h :: R)):vd R:=λx hx=>p x (List.mem_cons_of_mem _ hx)
theorem vd.head{h:Hd}{R:List Hd}(p:vd (h :: R)):0<=h.n:=p h List.mem_cons_self
theorem A8{P:Hd->Bool}:∀{R:List Hd},vd R->0<=ff P R
 | [],_=>Int.le_refl _
 | h :: R,p=>by
  have:=A8 (P:=P) p.tail;have:=p.head;show 0<=ff P R+if P h then h.n else 0
  split<;>omega
theorem uf(P:Hd->Bool):∀(R:List Hd),ff P (flt R)=ff P R
 | []=>rfl
 | h :: R=>by
  have a:=uf P R;unfold flt at a ⊢;rw[List.filter_cons];cases b:ru h
  .rw[if_pos (show(!false)=true from rfl)];show ff P _+_=ff P R+_;rw[a]
  rw[if_neg (by decide),a];have c:h.n=0:=by unfold ru at b;simpa using b
  show _=ff P R+if P h then h.n else 0;rw[c]
  split<;>omega
theorem tm{f:Hd->Bool}(g:Ky f):∀{R:List Hd} {m:Int},vd R->0<=m->ff f (im f m R)=ff f R-min m (ff f R)/\tn f m R=m-min m (ff f R)
 | [],m,_,hm=>by
  show(0:Int)=0-min m 0/\m=m-min m 0;omega
 | h :: R,m,p,hm=>by
  have k:=p.head;have j:=A8 (P:=f) p.tail;by_cases c:f h=true
  .have e:im f m (h :: R)=iz h (min m h.n) :: im f (m-min m h.n) R:=if_pos c;have i:tn f m (h :: R)=tn f (m-min m h.n) R:=if_pos c;have d:ff f (h :: R)=ff f R+h.n:=by show _+(if f h then _ else _)=_;rw[if_pos c]
   have a:=tm g (R:=R) (m:=m-min m h.n) p.tail (by omega);rw[e,i,d,a.2];have b:ff f (iz h (min m h.n) :: im f (m-min m h.n) R)=ff f (im f (m-min m h.n) R)+(h.n-min m h.n):=by show _+(if f _ then _ else _)=_;rw[g,if_pos c];rfl
   rw[b,a.1];omega
  have e:im f m (h :: R)=h :: im f m R:=if_neg c;have i:tn f m (h :: R)=tn f m R:=if_neg c;have d:ff f (h :: R)=ff f R:=by show _+(if f h then _ else _)=_;rw[if_neg c,Int.add_zero]
  have a:=tm g (R:=R) (m:=m) p.tail hm;have b:ff f (h :: im f m R)=ff f (im f m R):=by show _+(if f h then _ else _)=_;rw[if_neg c,Int.add_zero]
  rw[e,i,d,b];exact a
theorem Cm{f P:Hd->Bool}(hd:∀h,P h=true->f h=false)(a:Ky P):∀(R:List Hd) (m:Int),ff P (im f m R)=ff P R
 | [],_=>rfl
 | h :: R,m=>by
  by_cases c:f h=true
  .have e:im f m (h :: R)=iz h (min m h.n) :: im f (m-min m h.n) R:=if_pos c;have b:P h=false:=by
    cases b:P h
    .rfl
    rw[hd h b] at c;cases c
   rw[e];show ff P _+(if P (iz h _) then _ else _)=ff P R+if P h then _ else _;rw[a,b,Cm hd a R]
   rfl
  have e:im f m (h :: R)=h :: im f m R:=if_neg c;rw[e];show ff P _+_=ff P R+_;rw[Cm hd a R]
def Ao(o l:Int)(h:Hd):Bool:=(h.o==o)&&(h.l==l)
theorem Ap{o l:Int}{h:Hd}:Ao o l h=true↔h.o=o/\h.l=l:=by unfold Ao;simp
theorem Ir(f:Hd->Bool)(o l:Int):∀(R:List Hd) (m:Int),ff (Ao o l) (im f m R)=ff (Ao o l) R-ky f m R o l
 | [],_=>rfl
 | h :: R,m=>by
  by_cases c:f h=true
  .have e:im f m (h :: R)=iz h (min m h.n) :: im f (m-min m h.n) R:=if_pos c;have a:ky f m (h :: R) o l=(if h.o=o/\h.l=l then min m h.n else 0)+ky f (m-min m h.n) R o l:=if_pos c;rw[e,a];show ff _ _+(if Ao o l (iz h _) then h.n-min m h.n else 0)=ff _ R+(if Ao o l h then h.n else 0)-_;rw[Ir f o l R];have b:Ao o l (iz h (min m h.n))=Ao o l h:=rfl;rw[b];by_cases k:h.o=o/\h.l=l
   .rw[if_pos (Ap.2 k),if_pos (Ap.2 k),if_pos k];omega
   rw[if_neg (λe=>k (Ap.1 e)),if_neg (λe=>k (Ap.1 e)),if_neg k];omega
  have e:im f m (h :: R)=h :: im f m R:=if_neg c;have a:ky f m (h :: R) o l=ky f m R o l:=if_neg c;rw[e,a];show ff _ _+_=ff _ R+_-_;rw[Ir f o l R];omega
theorem I8(f:Hd->Bool)(o l:Int):∀{R:List Hd} {m:Int},vd R->0<=m->0<=ky f m R o l
 | [],_,_,_=>Int.le_refl _
 | h :: R,m,p,hm=>by
  have a:=p.head;show 0<=if f h then _ else _
  split
  .have:=I8 f o l (R:=R) (m:=m-min m h.n) p.tail (by omega)
   split<;>omega
  exact I8 f o l p.tail hm
theorem Bm(f:Hd->Bool)(o l:Int):∀{R:List Hd},vd R->ky f 0 R o l=0
 | [],_=>rfl
 | h :: R,p=>by
  have a:min 0 h.n=0:=Int.min_eq_left p.head;show(if f h then(if h.o=o/\h.l=l then min 0 h.n else 0)+ky f (0-min 0 h.n) R o l else ky f 0 R o l)=0;rw[a,Int.sub_zero,Bm f o l p.tail]
  split
  .split<;>rfl
  rfl
theorem Dq(f:Hd->Bool):∀{R:List Hd},vd R->im f 0 R=R
 | [],_=>rfl
 | h :: R,p=>by
  have a:min 0 h.n=0:=Int.min_eq_left p.head;show(if f h then iz h (min 0 h.n) :: im f (0-min 0 h.n) R else h :: im f 0 R)=h :: R;rw[a,Int.sub_zero,Dq f p.tail,Mg]
  split<;>rfl
theorem Al(f:Hd->Bool):∀{R:List Hd} {m:Int},vd R->0<=m->vd (im f m R)
 | [],_,_,_=>λx hx=>by cases hx
 | h :: R,m,p,hm=>by
  have a:=p.head;by_cases c:f h=true
  .have e:im f m (h :: R)=iz h (min m h.n) :: im f (m-min m h.n) R:=if_pos c;rw[e];intro x hx;rcases List.mem_cons.1 hx with rfl|hx
   .show 0<=h.n-min m h.n;omega
   exact Al f p.tail (by omega) x hx
  have e:im f m (h :: R)=h :: im f m R:=if_neg c;rw[e];intro x hx;rcases List.mem_cons.1 hx with rfl|hx
  .exact a
  exact Al f p.tail hm x hx
theorem Ja{R:List Hd}(h:∀x,x∈R->1<=x.n):flt R=R:=by
 unfold flt;rw[List.filter_eq_self];intro x hx;have:=h x hx;unfold ru;simp;omega
theorem z4{h:Hd}{R:List Hd}(c:1<=h.n):flt (h :: R)=h :: flt R:=by
 unfold flt;rw[List.filter_cons,if_pos];unfold ru;simp;omega
theorem G4{h:Hd}{R:List Hd}(c:h.n=0):flt (h :: R)=flt R:=by
 unfold flt;rw[List.filter_cons,if_neg];unfold ru;simp[c]
theorem Jf{f:Hd->Bool}(j:Ky f):∀{R:List Hd} {m:Int},(∀h,h∈R->1<=h.n)->0<=m->m+1<=ff f R->Ic f (flt (im f m R))=flt (im f (m+1) R)/\∃a,(flt (im f m R)).find? f=some a/\∀o l,ky f (m+1) R o l=ky f m R o l+if a.o=o/\a.l=l then 1 else 0
 | [],m,_,_,hs=>absurd hs (by show ¬m+1<=0;omega)
 | h :: R,m,p,hm,hs=>by
  have s:=p h List.mem_cons_self;have b:∀x,x∈R->1<=x.n:=λx hx=>p x (List.mem_cons_of_mem _ hx);have u:vd R:=λx hx=>by have:=b x hx;omega
  by_cases c:f h=true;rotate_left
  .have e:∀k,im f k (h :: R)=h :: im f k R:=λk=>if_neg c;have eq:∀k o l,ky f k (h :: R) o l=ky f k R o l:=λk o l=>if_neg c;have q:ff f (h :: R)=ff f R:=by show _+(if f h then _ else _)=_;rw[if_neg c,Int.add_zero]
   rw[q] at hs;have d:=Jf j (R:=R) (m:=m) b hm hs;rw[e,e,z4 s,z4 s];refine⟨?_,?_⟩
   .show(if f h then _ else h :: Ic f _)=_;rw[if_neg c,d.1]
   obtain⟨a,a1,r⟩:=d.2;refine⟨a,?_,λo l=>by rw[eq,eq,r]⟩;rw[List.find?_cons,show f h=false by simpa using c];exact a1
  have e:∀k,im f k (h :: R)=iz h (min k h.n) :: im f (k-min k h.n) R:=λk=>if_pos c;have eq:∀k o l,ky f k (h :: R) o l=(if h.o=o/\h.l=l then min k h.n else 0)+ky f (k-min k h.n) R o l:=λk o l=>if_pos c;have q:ff f (h :: R)=ff f R+h.n:=by show _+(if f h then _ else _)=_;rw[if_pos c]
  rw[q] at hs;by_cases k:m<h.n;rotate_left
  .have i:min m h.n=h.n:=by omega
   have g:min (m+1) h.n=h.n:=by omega
   have d:=Jf j (R:=R) (m:=m-h.n) b (by omega) (by omega);have e0:∀k,min k h.n=h.n->flt (im f k (h :: R))=flt (im f (k-h.n) R):=λk v=>by
    rw[e,v,G4 (by show h.n-h.n=0;omega)]
   rw[e0 m i,e0 (m+1) g,show m+1-h.n=m-h.n+1 by omega];refine⟨d.1,?_⟩;obtain⟨a,a1,r⟩:=d.2;refine⟨a,a1,λo l => ?_⟩;rw[eq,eq,i,g,show m+1-h.n=m-h.n+1 by omega,r];omega
  have i:min m h.n=m:=by omega
  have g:min (m+1) h.n=m+1:=by omega
  have e0:flt (im f m (h :: R))=iz h m :: R:=by
   rw[e,i,Int.sub_self,Dq f u,z4 (by show 1<=h.n-m;omega),Ja b]
  refine⟨?_,iz h m,?_,λo l => ?_⟩
  .rw[e0,e,g,Int.sub_self,Dq f u];show(if f (iz h m) then(if (iz h m).n=1 then R else iz (iz h m) 1 :: R) else _)=_;rw[j,if_pos c];by_cases t:h.n-m=1
   .rw[if_pos (show(iz h m).n=1 from t),G4 (by show h.n-(m+1)=0;omega),Ja b]
   rw[if_neg (show ¬(iz h m).n=1 from t),z4 (by show 1<=h.n-(m+1);omega),Ja b];have:iz (iz h m) 1=iz h (m+1):=by unfold iz;rw[show h.n-m-1=h.n-(m+1) by omega]
   rw[this]
  .rw[e0,List.find?_cons,j,c]
  rw[eq,eq,i,g,Int.sub_self,Int.sub_self];show(if h.o=o/\h.l=l then m+1 else 0)+_=(if h.o=o/\h.l=l then m else 0)+_+if h.o=o/\h.l=l then 1 else 0
  split<;>omega
theorem O2(f:Hd->Bool)(z:Nat->Hd):∀n,(cw z n).find? f=(jz f z n).map z
 | 0=>rfl
 | n+1=>by
  show(z n :: cw z n).find? f=(if f (z n) then some n else jz f z n).map z;rw[List.find?_cons];cases h:f (z n)
  .rw[if_neg (by decide)];exact O2 f z n
  rw[if_pos rfl];rfl
theorem Ct{f:Hd->Bool}{z:Nat->Hd}:∀{n k:Nat},jz f z n=some k->k<n/\f (z k)=true
 | 0,k,h=>by cases h
 | n+1,k,h=>by
  have a:(if f (z n) then some n else jz f z n)=some k:=h;by_cases c:f (z n)=true
  .rw[if_pos c] at a;cases a;exact⟨by omega,c⟩
  rw[if_neg c] at a;have:=Ct a;exact⟨by omega,this.2⟩
theorem O3{f:Hd->Bool}{z:Nat->Hd}:∀{n:Nat},jz f z n=none->∀k,k<n->f (z k)=false
 | 0,_,k,h=>absurd h (by omega)
 | n+1,h,k,hk=>by
  have a:(if f (z n) then some n else jz f z n)=none:=h;by_cases c:f (z n)=true
  .rw[if_pos c] at a;cases a
  rw[if_neg c] at a;by_cases e:k=n
  .rw[e];simpa using c
  exact O3 a k (by omega)
theorem Re{f:Hd->Bool}{z:Nat->Hd}:∀{n k:Nat},jz f z n=some k->¬(z k).n=1->cw (gy z k 1) n=Ic f (cw z n)
 | 0,k,h,_=>by cases h
 | n+1,k,h,hn=>by
  have a:(if f (z n) then some n else jz f z n)=some k:=h;show gy z k 1 n :: cw (gy z k 1) n=if f (z n) then(if (z n).n=1 then cw z n else iz (z n) 1 :: cw z n) else z n :: Ic f (cw z n);by_cases c:f (z n)=true
  .rw[if_pos c] at a;cases a;rw[if_pos c,if_neg hn,ot (z:=gy z n 1) (z':=z) λj b=>if_neg (by omega)];have e:gy z n 1 n=iz (z n) 1:=if_pos rfl;rw[e]
  rw[if_neg c] at a ⊢;have:=Ct a;rw[Re a hn];have e:gy z k 1 n=z n:=if_neg (by omega);rw[e]
theorem Rd{f:Hd->Bool}{z:Nat->Hd}:∀{n k:Nat},jz f z (n+1)=some k->(z k).n=1->cw (fp z k) n=Ic f (cw z (n+1))
 | n,k,h,hn=>by
  have a:(if f (z n) then some n else jz f z n)=some k:=h;show cw (fp z k) n=if f (z n) then(if (z n).n=1 then cw z n else iz (z n) 1 :: cw z n) else z n :: Ic f (cw z n);by_cases c:f (z n)=true
  .rw[if_pos c] at a;cases a;rw[if_pos c,if_pos hn];exact ot λj b=>if_pos b
  rw[if_neg c] at a ⊢;have l:=Ct a
  match n,a,l with
  | q+1,a,l =>
   rw[<-Rd a hn];show fp z k q :: cw (fp z k) q=_;have e:fp z k q=z (q+1):=if_neg (by omega);rw[e]
def fq(p:Pl)(s:St)(order:Int):Int:=if ag p s=0 then(if inB order 0 ((s.os.n:Int)-1) then(if (s.os.z order.toNat).k=2 then 6 else 0) else 4) else ag p s
theorem un{p:Pl}{s:St}{order:Int}(h:¬ag p s=0):fq p s order=ag p s:=by unfold fq;rw[if_neg h]
theorem Cy{p:Pl}{s:St}{order:Int}(h:ag p s=0)(a:inB order 0 ((s.os.n:Int)-1)=false):fq p s order=4:=by unfold fq;rw[if_pos h,a];rfl
theorem Cx{p:Pl}{s:St}{order:Int}(h:ag p s=0)(b:inB order 0 ((s.os.n:Int)-1)=true)(a:(s.os.z order.toNat).k=2):fq p s order=6:=by unfold fq;rw[if_pos h,b,if_pos a];rfl
theorem Lq{p:Pl}{s:St}{order:Int}(h:ag p s=0)(b:inB order 0 ((s.os.n:Int)-1)=true)(a:¬(s.os.z order.toNat).k=2):fq p s order=0:=by unfold fq;rw[if_pos h,b,if_neg a];rfl
def dr(s:St)(o:Nat):St:=fg (dh (withHolds s (dx s.hs (λx=>x.o==(o:Int)))) o 2) o (s.os.z o).ls.n
theorem qp(s:St)(o i:Nat):(dr s o).os.z i=if i=o then ⟨2,xg (s.os.z i).ls (s.os.z o).ls.n⟩ else s.os.z i:=by
 show(if i=o then(⟨(if i=o then(⟨2,(s.os.z i).ls⟩:Od) else s.os.z i).k,xg (if i=o then(⟨2,(s.os.z i).ls⟩:Od) else s.os.z i).ls (s.os.z o).ls.n⟩:Od) else(if i=o then(⟨2,(s.os.z i).ls⟩:Od) else s.os.z i))=_;by_cases h:i=o
 .rw[if_pos h,if_pos h,if_pos h]
 rw[if_neg h,if_neg h,if_neg h]
theorem Ea{x s:St}(h:ae x s){o:Nat}(c:o<x.os.n):ae (dr x o) (dr s o):=by
 have g:=h.os.2 o c;have d:=Ub h.hs.1 h.hs.2 (λy=>y.o==(o:Int));refine⟨h.on,⟨h.os.1,λi hi => ?_⟩,⟨d.1,λj _=>by show(dx x.hs _).z j=(dx s.hs _).z j;rw[d.2]⟩,h.ms,h.si,h.so,h.sf⟩;have e:=h.os.2 i hi;rw[qp,qp];by_cases a:i=o
 .subst a;rw[if_pos rfl,if_pos rfl];refine⟨rfl,e.2.1,λj f => ?_⟩;show(if j<(x.os.z i).ls.n then vj ((x.os.z i).ls.z j) else(x.os.z i).ls.z j)=if j<(s.os.z i).ls.n then vj ((s.os.z i).ls.z j) else(s.os.z i).ls.z j;have b:j<(x.os.z i).ls.n:=f;rw[if_pos b,if_pos (by omega),e.2.2 j b]
 rw[if_neg a,if_neg a];exact e
theorem Tn(p:Pl)(s:St)(order:Int)(w:World)(hp:p.At w)(hs:s.At w):
  Calls prog 44 #[p.val,s.val,.int .i64 order] w λe G=>∃x:St,e = .returned (.tuple #[x.val,.int .i64 (fq p s order)])/\x.At G/\du (fq p s order) (dr s order.toNat) x/\(fq p s order=0->ai w.heap.size G x)/\Below w.heap.size w G:=by
 obtain⟨P,hW,aa,X0,K0,Z0⟩:∃W,((((w.alloc (.cells #[.slice p.ab p.nb p.cb,.slice p.sa p.ns p.cs] 25)).alloc (.cells s.cells 31)).alloc (.cells #[.int .i64 order] 3)).alloc (.cells #[.slice .none 0 0,.slice .none 0 0,.slice .none 0 0,.slice .none 0 0,.slice .none 0 0,.slice .none 0 0,.slice .none 0 0] 31))=W/\Below w.heap.size w W/\lq W w.heap.size (w.heap.size+1) p s/\Blk W (w.heap.size+2) 3 1 (λ_ => .int .i64 order)/\Blk W (w.heap.size+3) 31 7 (λ_ => .slice .none 0 0):=
  ⟨_,rfl,((js _ _ _).alloc (by simp;omega) _).alloc (by simp;omega) _,((nk w p s _ _).below (brf.alloc nlr _)).below (brf.alloc nlr _),((Blk.mk' (cur:=#[.int .i64 order]) (by simp) rfl).congr (λj M=>by match j,M with|0,_=>rfl)).alloc _,(Blk.mk' (cur:=#[.slice .none 0 0,.slice .none 0 0,.slice .none 0 0,.slice .none 0 0,.slice .none 0 0,.slice .none 0 0,.slice .none 0 0]) (by simp) rfl).congr (λj M=>by match j,M with|0,_=>rfl|1,_=>rfl|2,_=>rfl|3,_=>rfl|4,_=>rfl|5,_=>rfl|6,_=>rfl)⟩
 have HC:Hid (∀T,Below P.heap.size P T->lq T w.heap.size (w.heap.size+1) p s/\p.At T/\s.At T/\Below w.heap.size w T/\Blk T (w.heap.size+3) 31 7 (λ_ => .slice .none 0 0)/\Blk T (w.heap.size+2) 3 1 (λ_ => .int .i64 order)):=λT h=>⟨X0.below h,(hp.below aa).below h,(hs.below aa).below h,aa.trans (h.mono aa.size),Z0.below h,K0.below h⟩;have HW:Hid ((((w.alloc (.cells #[.slice p.ab p.nb p.cb,.slice p.sa p.ns p.cs] 25)).alloc (.cells #[.slice s.on.a s.on.n s.on.c,.slice s.os.a s.os.n s.os.c,.slice s.hs.a s.hs.n s.hs.c,.slice s.ms.a s.ms.n s.ms.c,.slice s.si.a s.si.n s.si.c,.slice s.so.a s.so.n s.so.c,.slice s.sf.a s.sf.n s.sf.c] 31)).alloc (.cells #[.int .i64 order] 3)).alloc (.cells #[.slice .none 0 0,.slice .none 0 0,.slice .none 0 0,.slice .none 0 0,.slice .none 0 0,.slice .none 0 0,.slice .none 0 0] 31)=P):=hW;have d7:=Z0.lt;have cl:=hs.os.le;have a7:=hs.os.cap;have da:=a7;have U:s.os.n<=maxLen:=Qzx cl a7;unfold maxLen at da;clear hW X0 Z0 K0 hp hs;unfold Pl.val St.val;go_enter func44,ntmps44;go_wp2_with fail;rw[HW.out];obtain⟨X,F,A,B,r,L⟩:=HC.out P brf;refine(lm p s P F A).mono ?_;rintro e u ⟨rfl,hB⟩;clear X F A B r L HW;obtain⟨⟨⟨l1,d0,d1⟩,l2,c0,c1,c2,c3,c4,c5,c6⟩,F,A,B,r,L⟩:=HC.out u hB;have b0:=L.lt;have b1:u.cell? ⟨w.heap.size+2,0,none⟩=some (.int .i64 order):=L.k 0;by_cases J:ag p s=0;rotate_left
 .have H:Hid (fq p s order=ag p s):=un J;have cw:Hid (¬fq p s order=0):=by show ¬_;rw[un J];exact J
  have g0:(ag p s !=0)=true:=by simpa using J
  clear J;clear F A L;obtain⟨zl,ao,a5,bd,zc1,ap,zc2,bf,zc3,am,zc4,bc,zc5,aw,ay⟩:=z7 r;go_wp2_with fail;exact gz results44 r B (by omega) H.out (λh=>cw.out (H.out.trans h)) rfl rfl rfl
 have H0:=hid J;have HF:Hid (cv p s):=(ed J).fm;rw[J];clear J;cases k1:inB order 0 ((s.os.n:Int)-1)
 .have H:Hid (fq p s order=4):=Cy H0.out k1;clear F A L;obtain⟨zl,ao,a5,bd,zc1,ap,zc2,bf,zc3,am,zc4,bc,zc5,aw,ay⟩:=z7 r;go_wp2_with(go_at_call 71;refine ah (dk _ _ _ U) ?_);exact gz results44 r B (by omega) H.out (by decide) rfl rfl rfl
 have dv:=aq k1;obtain⟨o,rfl⟩:=Qzz dv.1;have ho:o<s.os.n:=by omega
 have q0:(0:Int)<=(o:Int):=by omega
 obtain⟨bo,oo,a4,c9,z0,z1,dc⟩:=A.os.ods o ho;have bn:=hid a4;rw[a4] at c1;clear a4 z1 dc;by_cases k2:(s.os.z o).k=2
 .have H:Hid (fq p s (o:Int)=6):=Cx H0.out k1 k2;rw[k2] at z0;clear k2;clear F A L;obtain⟨zl,ao,a5,bd,zc1,ap,zc2,bf,zc3,am,zc4,bc,zc5,aw,ay⟩:=z7 r;go_wp2_with(go_at_call 71;refine ah (dk _ _ _ U) ?_);exact gz results44 r B (by omega) H.out (by decide) rfl rfl rfl
 have H:Hid (fq p s (o:Int)=0):=Lq H0.out k1 k2;have g2:((s.os.z o).k==2)=false:=by simpa using k2
 clear k2
 generalize (s.os.z o).k=KK at *
 have bw:Hid (Calls prog 90 #[s.val] u λe G=>∃s':St,e = .returned s'.val/\ae s' s/\ai u.heap.size G s'/\Below u.heap.size u G):=nd p s u A HF.out;have ax:=hid L;clear F A B r L;go_wp2_with(go_at_call 71;refine ah (dk _ _ _ U) ?_);rw[<-bn.out];refine Calls.mono bw.out ?_;rintro e i ⟨d,rfl,K,an,aj⟩;clear bw l1 d0 d1 l2 c0 c1 c2 c3 c4 c5 c6 z0 c9 k1 g2 b0 b1 bn;obtain⟨W5,br,Y,K5⟩:=ab7 i d;have a0:=hid br;have E:=aj.trans (Y.mono aj.size);have bu:=hB.trans (E.mono hB.size);have af:=ai.below an Y;have ad:o<d.os.n:=by rw[K.os.1];exact ho
 have b2:=hid K;have s2:W5.cell? ⟨i.heap.size,2,none⟩=some (.slice d.hs.a d.hs.n d.hs.c):=K5.k 2;have s1:=K5.lt;have HD:Hid (Calls prog 97 #[.slice d.hs.a d.hs.n d.hs.c,.func (.func 98) #[] #[.pointer (some ⟨w.heap.size+1+1,0,none⟩)]] W5 λe G=>e = .returned (.slice (dx d.hs (λx=>x.o==(o:Int))).a (dx d.hs (λx=>x.o==(o:Int))).n (dx d.hs (λx=>x.o==(o:Int))).c)/\ai u.heap.size G (withHolds d (dx d.hs (λx=>x.o==(o:Int))))/\Below u.heap.size W5 G/\(∀q t m g,t≠61->Blk W5 q t m g->Blk G q t m g)):=
  Ya 98 #[.pointer (some ⟨w.heap.size+1+1,0,none⟩)] (λx=>x.o==(o:Int)) u.heap.size d W5 E.size af (enters_of func98 (by kernel_rfl) rfl) (λx wz r=>by
   have be:=ax.out.lt;exact R0 (w.heap.size+1+1) x o wz (Xzx be (Qzx E.size r.size)) ((r.cell (p:=⟨w.heap.size+2,0,none⟩) be).trans ((E.cell (p:=⟨w.heap.size+2,0,none⟩) be).trans (ax.out.k 0))))
 have bz:=qa4 bu hB.size aj.size E.size;have bs:=hid K5;rw[<-a0.out] at s1 s2;clear br an af K5 aj Y E bu K hB;simp only[St.val];go_wp2_with fail;rw[a0.out];clear s1 s2 a0;refine HD.out.mono ?_;rintro e Q ⟨rfl,bb,ar,ac⟩;have dn:Hid (∀h:Hs,h=dx d.hs (λx=>x.o==(o:Int))->h.a=d.hs.a/\h.c=d.hs.c):=λh e=>by rw[e];exact⟨rfl,rfl⟩
 obtain⟨f,av⟩:∃f,dx d.hs (λx=>x.o==(o:Int))=f:=⟨_,rfl⟩;have b4:=hid av;rw[av] at bb ⊢;clear HD av dn;obtain⟨e1,e2,e3,e4⟩:=bz.out;have K6:=ac _ _ _ _ (by decide) bs.out;have a2:=e1.trans (ar.mono e2);have n1:=K6.lt;have n2:=K6.frozen 2;have n3:=K6.k 2;have S:=bb.box K6 2 (.slice f.a f.n f.c);have K7:Blk (Q.setCell ⟨i.heap.size,2,none⟩ (.slice f.a f.n f.c)) i.heap.size 31 7 (λj=>(withHolds d f).cells.getD j default):=(K6.set 2 (.slice f.a f.n f.c)).congr (λj M=>by match j,M with|0,_=>rfl|1,_=>rfl|2,_=>rfl|3,_=>rfl|4,_=>rfl|5,_=>rfl|6,_=>rfl);have V:=a2.setCell (p:=⟨i.heap.size,2,none⟩) (by show P.heap.size<=i.heap.size;omega) (.slice f.a f.n f.c);have df:Q.heap.size<=(Q.setCell ⟨i.heap.size,2,none⟩ (.slice f.a f.n f.c)).heap.size:=by simp
 have a6:=ar.size;obtain⟨D,g1,g2,g3⟩:=S.os.list (by show 0<d.os.n;omega);have bm:d.os.a=some ⟨D,0,none⟩:=g1;have cr:¬D=i.heap.size:=Blk.ne2 g3 K7 (by decide);have cc:¬i.heap.size=D:=λe=>cr e.symm;have u1:=(K7.k 1);have bq:(Q.setCell ⟨i.heap.size,2,none⟩ (.slice f.a f.n f.c)).cell? ⟨i.heap.size,1,none⟩=some (.slice d.os.a d.os.n d.os.c):=u1;rw[bm] at bq;have u2:=g3.lt;have u3:=g3.frozen (o*2);have u4:=g3.cell (j:=o*2) (by show o*2<d.os.n*2;omega)
 generalize (jh (withHolds d f).os.n (withHolds d f).os.z).getD (o*2) default=VV at u4
 have k8:=S.kind (o:=o) ad g1 2;have K8:=K7.other (a:=⟨D,o*2,none⟩) cc (.int .i64 2);have ba:=V.setCell (p:=⟨D,o*2,none⟩) (by show P.heap.size<=D;omega) (.int .i64 2);obtain⟨⟨-,-⟩,-,-,dj,-,a9⟩:=HC.out _ V;have u5:=a9.k 0;have u6:=a9.lt;have co:¬w.heap.size+2=D:=by have:=ax.out.lt;omega
 have ec:¬D=w.heap.size+2:=λe=>co e.symm;have cq:o<(dh (withHolds d f) o 2).os.n:=ad;have ce:Hid (∀j,j<((dh (withHolds d f) o 2).os.z o).ls.n->(0<=(((dh (withHolds d f) o 2).os.z o).ls.z j).l/\(((dh (withHolds d f) o 2).os.z o).ls.z j).l<=200)/\0<=(((dh (withHolds d f) o 2).os.z o).ls.z j).b/\(((dh (withHolds d f) o 2).os.z o).ls.z j).b<=200):=by
  show ∀j,j<((dh (withHolds d f) o 2).os.z o).ls.n->_;rw[uc];intro j M;have e:=b2.out.os.2 o ad;have cx:j<(d.os.z o).ls.n:=M;have hl:=dz (HF.out.line o ho j (by omega));show(0<=((d.os.z o).ls.z j).l/\((d.os.z o).ls.z j).l<=200)/\0<=((d.os.z o).ls.z j).b/\((d.os.z o).ls.z j).b<=200;rw[e.2.2 j cx];omega
 have H8:Hid (ai u.heap.size ((Q.setCell ⟨i.heap.size,2,none⟩ (.slice f.a f.n f.c)).setCell ⟨D,o*2,none⟩ (.int .i64 2)) (dh (withHolds d f) o 2)/\Blk ((Q.setCell ⟨i.heap.size,2,none⟩ (.slice f.a f.n f.c)).setCell ⟨D,o*2,none⟩ (.int .i64 2)) i.heap.size 31 7 (λj=>(withHolds d f).cells.getD j default)/\Below P.heap.size P ((Q.setCell ⟨i.heap.size,2,none⟩ (.slice f.a f.n f.c)).setCell ⟨D,o*2,none⟩ (.int .i64 2))/\u.heap.size<=((Q.setCell ⟨i.heap.size,2,none⟩ (.slice f.a f.n f.c)).setCell ⟨D,o*2,none⟩ (.int .i64 2)).heap.size):=⟨k8,K8,ba,by simp;omega⟩;have dw:=hid g1;have v1:d.os.n<=d.os.c:=S.os.le;have v2:d.os.c<=maxLen:=S.os.cap;unfold maxLen at v2;clear bb ar ac K6 a2 S K7 V g1 bm g3 u1 k8 K8 ba dj a9 bs;go_wp2_with fail;refine(Q8 (dh (withHolds d f) o 2) o u.heap.size D _ H8.out.2.2.2 H8.out.1 cq dw.out ce.out).mono ?_;rintro e w9 ⟨rfl,bt,bx,bp⟩;have K9:=bp _ _ _ _ (by decide) (by decide) H8.out.2.1;have b8:=H8.out.2.2.1.trans (bx.mono e2);clear n1 n2 n3 df bq u2 u3 u4 u5 u6 H8;have bv:=hid bt;have KC:Blk w9 i.heap.size 31 7 (λj=>(dr d o).cells.getD j default):=K9.congr (λj M=>by unfold dr;rw[b4.out];match j,M with|0,_=>rfl|1,_=>rfl|2,_=>rfl|3,_=>rfl|4,_=>rfl|5,_=>rfl|6,_=>rfl);have dt:Hid (ai u.heap.size w9 (dr d o)):=by
  have h:=bv.out;rw[uc] at h;show ai u.heap.size w9 (dr d o);unfold dr;rw[b4.out];exact h
 have cg:Hid (ae (dr d o) (dr s o)):=Ea b2.out ad;clear bt bx bp K9 bv
 generalize dr d o=y at *
 obtain⟨m1,p0,p1,p2,p3,p4,p5,p6⟩:=Boxed.of KC;obtain⟨-,-,-,B,r,-⟩:=HC.out w9 b8;have HZ:=qa2 B r;obtain⟨zl,ao,a5,bd,zc1,ap,zc2,bf,zc3,am,zc4,bc,zc5,aw,ay⟩:=z7 r;have eh:=(HC.out _ bz.out.1).2.2.2.1.size;clear KC B r;go_wp2_with fail;have KZ:=s7b HZ.out.2 y;have b3:=s7w (b:=w.heap.size+3) HZ.out.1 (by omega) y;have az:=s7o dt.out HZ.out.2 y;unfold set7 at KZ b3 az;obtain⟨db,dp,dg,ct,c7,dy,dl⟩:=cn KZ;refine Xzq (v := .tuple #[y.val,.int .i64 0]) (by simp[results,results44,go_sem,St.val,db,dp,dg,ct,c7,dy,dl]) rfl ?_;refine⟨y,by rw[H.out];rfl,az.at,⟨λ_=>cg.out,λh=>absurd H.out h⟩,λ_=>az.mono (by omega),b3⟩
def withMoves(s:St)(h:Hs):St:=⟨s.on,s.os,s.hs,h,s.si,s.so,s.sf⟩
theorem j7.grew{A B:Nat}{w d:World}{s:Os}{e:TypeId}(h:j7 A w s)(c:pk B e w d)(f:57≠e)(l:59≠e):j7 A d s:=by
 refine⟨h.le,h.cap,λj => ?_,λi hi => ?_,h.apart,h.room.grew c f⟩
 .obtain⟨q,a1,b,a⟩:=h.list j;exact⟨q,a1,b,c.blk a f⟩
 obtain⟨C,a1,b,a,g,k⟩:=h.lines i hi;exact⟨C,a1,b,a,g,c.blk k l⟩
theorem ai.moreH{A:Nat}{w b:World}{s:St}{h:Hs}(k:ai A w s)(a:pk A 61 w b)(d:cy A 61 b h):ai A b (Go.Proofs.YtbcacebifpagpagGreat.withHolds s h):=by
 refine⟨?_,λi hi=>(k.rows i hi).grew a (by decide),k.rapart,k.os.grew a (by decide) (by decide),d,k.ms.grew a (by decide),k.msr.grew a (by decide),k.si.grew a (by decide),k.so.grew a (by decide),k.sf.grew a (by decide),k.aio,k.aif,k.aof,k.ari⟩;obtain⟨q,g,a1,e,f,c⟩:=k.on;exact⟨q,g,a1,e,f,a.blk c (by decide)⟩
theorem ai.moreM{A:Nat}{w d:World}{s:St}{h:Hs}(k:ai A w s)(b:pk A 63 w d)(f:cy A 63 d h)(g:fo A d 63 4 h.a h.c):ai A d (withMoves s h):=by
 refine⟨?_,λi hi=>(k.rows i hi).grew b (by decide),k.rapart,k.os.grew b (by decide) (by decide),k.hs.grew b (by decide),f,g,k.si.grew b (by decide),k.so.grew b (by decide),k.sf.grew b (by decide),k.aio,k.aif,k.aof,k.ari⟩;obtain⟨q,m,a1,j,l,e⟩:=k.on;exact⟨q,m,a1,j,l,b.blk e (by decide)⟩
def ofL(L:List Hd)(j:Nat):Hd:=L.getD j hd0
theorem Uh(L:List Hd)(x:Hd):ax (L++[x]).length (ofL (L++[x]))=ax L.length (ofL L)++dg x:=by
 rw[List.length_append,List.length_singleton,tx];have a:ofL (L++[x]) L.length=x:=by simp[ofL,List.getD]
 rw[a]
 congr 1
 exact my λj b=>by simp[ofL,List.getD,List.getElem?_append_left b]
def oq(h:Hs)(bad:Hd->Bool)(k:Nat):List Hd:=((ii h).take k).filter (λx => !bad x)
theorem Mh{h:Hs}{k:Nat}(a:k<h.n):(ii h).take (k+1)=(ii h).take k++[h.z k]:=by
 have b:k<(ii h).length:=by rw[mt];exact a
 rw[List.take_add_one,List.getElem?_eq_getElem b];simp[ii]
theorem Wu{h:Hs}{bad:Hd->Bool}{k:Nat}(b:k<h.n)(a:bad (h.z k)=false):oq h bad (k+1)=oq h bad k++[h.z k]:=by
 unfold oq;rw[Mh b,List.filter_append];simp[a]
theorem Um{h:Hs}{bad:Hd->Bool}{k:Nat}(b:k<h.n)(a:bad (h.z k)=true):oq h bad (k+1)=oq h bad k:=by
 unfold oq;rw[Mh b,List.filter_append];simp[a]
theorem Wt(h:Hs)(bad:Hd->Bool):oq h bad h.n=(ii h).filter (λx => !bad x):=by
 unfold oq;rw[List.take_of_length_le (by rw[mt];exact Nat.le_refl _)]
theorem Wv(h:Hs)(bad:Hd->Bool)(k:Nat):(oq h bad k).length<=h.n:=by
 have a:=List.length_filter_le (λx => !bad x) ((ii h).take k);have b:=List.length_take_le' k (ii h);rw[mt] at b;unfold oq;omega
theorem Ua(h:Hs)(bad:Hd->Bool):(dx h bad).n=(oq h bad h.n).length/\(dx h bad).z=ofL (oq h bad h.n):=by
 rw[Wt];exact⟨rfl,rfl⟩
def setOut(s:St)(g:Nat)(x:Int):St:=⟨s.on,s.os,s.hs,s.ms,s.si,ku s.so g x,s.sf⟩
def bp(s:St)(o l:Nat):Nat:=((s.os.z o).ls.z l).o.toNat
def dy(s:St)(o l b:Int):Int:=keptV s.hs.n s.hs.z o l b
def ir(p:Pl)(s:St)(order line bin n:Int):Int :=
 if ag p s=0 then(if dy s order line bin=0 then 4 else if inB n 0 (dy s order line bin) then(if 1048576<s.so.z (bp s order.toNat line.toNat)+n then 2 else 0) else 3) else ag p s
section
variable {p:Pl} {s:St} {order line bin n:Int}
theorem yg(h:¬ag p s=0):ir p s order line bin n=ag p s:=by unfold ir;rw[if_neg h]
theorem Ga(h:ag p s=0)(a:dy s order line bin=0):ir p s order line bin n=4:=by unfold ir;rw[if_pos h,if_pos a]
theorem Ei(h:ag p s=0)(b:¬dy s order line bin=0)(a:inB n 0 (dy s order line bin)=false):ir p s order line bin n=3:=by unfold ir;rw[if_pos h,if_neg b,a];rfl
theorem F9(h:ag p s=0)(b:¬dy s order line bin=0)(a:inB n 0 (dy s order line bin)=true)(c:1048576<s.so.z (bp s order.toNat line.toNat)+n):ir p s order line bin n=2:=by unfold ir;rw[if_pos h,if_neg b,a,if_pos c];rfl
theorem Rg(h:ag p s=0)(b:¬dy s order line bin=0)(a:inB n 0 (dy s order line bin)=true)(c:¬1048576<s.so.z (bp s order.toNat line.toNat)+n):ir p s order line bin n=0:=by unfold ir;rw[if_pos h,if_neg b,a,if_neg c];rfl
end
structure nw(p:Pl)(s:St)(o l b:Nat):Prop where
 r:au p s
 kp:¬dy s o l b=0
 on:o<s.os.n
 ln:l<(s.os.z o).ls.n
 bn:b<p.nb
theorem Mb{p:Pl}{s:St}{order line bin:Int}(r:au p s)(h:¬dy s order line bin=0):∃o l b:Nat,order=o/\line=l/\bin=b/\nw p s o l b:=by
 obtain⟨i,f,-⟩:=rp r.fm.hold h;obtain⟨g,d,e⟩:=fh f;obtain⟨a1,a,c⟩:=iq (r.fm.home _ i);rw[g] at a1 a;rw[d] at a;rw[e] at c;obtain⟨o,rfl⟩:=Qzz a1.1;obtain⟨l,rfl⟩:=Qzz a.1;obtain⟨b,rfl⟩:=Qzz c.1;exact⟨o,l,b,rfl,rfl,rfl,r,h,a1.2,a.2,by omega⟩
section
variable {p:Pl} {s:St} {o l b:Nat}
theorem nw.bd(h:nw p s o l b):1<=dy s o l b/\dy s o l b<=200/\dy s o l b<=keptS s.hs.z o l s.hs.n:=by
 obtain⟨a,c,d⟩:=rp h.r.fm.hold h.kp;have e:=(np h.r.fm.hold a c).1;have f:=(cx (ca h.r.fm.hold _ a)).2.2.2;have nb6:=h.r.fm.sh.pl.nb6;have b6:=h.bn;have k:=Nm h.r.fm.hold (o:Int) (l:Int) (b:=b) (by omega);unfold dy;omega
theorem nw.kind(h:nw p s o l b):(s.os.z o).k=1:=by
 have w:=h.r.orders o h.on;unfold cf at w;rw[Xxq] at w;have a:co (s.os.z o).k ((s.os.z o).ls.z l) (keptS s.hs.z o l s.hs.n)=false:=di w.2 l h.ln;have bd:=h.bd;have kd:=h.r.fm.kind o h.on;unfold co at a;by_cases c:(s.os.z o).k=0
 .rw[if_pos c] at a;simp only[Xxq,Bool.not_eq_false',beq_iff_eq] at a;omega
 rw[if_neg c] at a;by_cases d:(s.os.z o).k=2
 .rw[if_pos d] at a;simp only[Xxq,Bool.not_eq_false',beq_iff_eq] at a;omega
 omega
theorem nw.good(h:nw p s o l b):((s.os.z o).ls.z l).o=(bp s o l:Int)/\bp s o l<p.ns:=by
 have g:=(dz (h.r.fm.line o h.on l h.ln)).1;unfold bp;omega
theorem nw.sum(h:nw p s o l b):((s.os.z o).ls.z l).b+((s.os.z o).ls.z l).n+keptS s.hs.z o l s.hs.n=((s.os.z o).ls.z l).l/\((s.os.z o).ls.z l).l<=200/\0<=((s.os.z o).ls.z l).b:=Ki h.r h.on h.ln h.kind
theorem aar{p:Pl}{s:St}(f:cv p s){o l:Nat}(c:o<s.os.n)(e:l<(s.os.z o).ls.n)(b:Int):keptV s.hs.n s.hs.z o l b<=bw s b ((s.os.z o).ls.z l).o s.hs.n:=by
 rw[sq b _ _ f.home f.hold];unfold Aq;have a:∀i j,0<=ko s b ((s.os.z o).ls.z l).o s.hs.n i j:=λi j=>by
  unfold ko;have:=(C7 (λj d=>(cx (ca f.hold j d)).2.2.2) (i:Int) (j:Int) b).1
  split<;>omega
 have g:ko s b ((s.os.z o).ls.z l).o s.hs.n o l=keptV s.hs.n s.hs.z o l b:=if_pos rfl;have h:=Gu (z:=λj=>ko s b ((s.os.z o).ls.z l).o s.hs.n o j) e (λj _=>a o j);have m:=Gu (z:=λi=>cu (λj=>ko s b ((s.os.z o).ls.z l).o s.hs.n i j) (s.os.z i).ls.n) c (λi _=>by
  have:∀k,0<=cu (λj=>ko s b ((s.os.z o).ls.z l).o s.hs.n i j) k:=λk=>by
   induction k with
   | zero=>exact Int.le_refl _
   | succ k ih=>simp only[cu];have:=a i k;omega
  exact this _)
 omega
theorem nw.there(h:nw p s o l b):dy s o l b<=(s.on.r b).z (bp s o l)/\(s.on.r b).z (bp s o l)<=200/\dy s o l b+ar s b (bp s o l)<=(s.on.r b).z (bp s o l):=by
 have g:=h.good;have a:=(km (h.r.goods _ g.2)).2 b h.bn;have k:=aar h.r.fm h.on h.ln b;rw[g.1] at k;have d:=(jq (s:=s) (b:=b) (g:=(bp s o l:Int)) (n:=s.ms.n) h.r.fm.moveN).1;have c:=h.r.fm.sh.num b (by rw[h.r.fm.sh.n];exact h.bn) (bp s o l) g.2;unfold ar at a ⊢;unfold dy;omega
end
def mm(h:Hs)(o l b:Int):Hs:=⟨h.a,h.n-1,h.c,fp h.z (jg h.n h.z o l b)⟩
def cg(s:St)(o l b:Nat)(n:Int):St:=setLine (setLine (setOut (setOn (withHolds s (mm s.hs o l b)) b (bp s o l) ((s.on.r b).z (bp s o l)-n)) (bp s o l) (s.so.z (bp s o l)+n)) o l 2 (((s.os.z o).ls.z l).b+n)) o l 3 (((s.os.z o).ls.z l).n+(dy s o l b-n))
def j6(s:St)(o:Nat):Bool := !aw (s.os.z o).ls.n (λj=>jr ((s.os.z o).ls.z j))
def pi(p:Pl)(s:St)(o l b:Nat)(n:Int):St:=if j6 (cg s o l b n) o then dh (cg s o l b n) o 2 else Vm p b (cg s o l b n) o l (dy s o l b-n)
section
variable {p:Pl} {s:St} {o l b:Nat} {n:Int}
theorem sx(s:St)(o l b:Nat)(n:Int)(i j:Nat):((cg s o l b n).os.z i).ls.z j=if i=o/\j=l then ⟨((s.os.z o).ls.z l).o,((s.os.z o).ls.z l).l,((s.os.z o).ls.z l).b+n,((s.os.z o).ls.z l).n+(dy s o l b-n)⟩ else(s.os.z i).ls.z j:=by
 unfold cg;rw[ou,ou];by_cases h:i=o/\j=l
 .rw[if_pos h,if_pos h,if_pos h];obtain⟨rfl,rfl⟩:=h
  rfl
 rw[if_neg h,if_neg h,if_neg h]
 rfl
theorem mu(s:St)(o l b:Nat)(n:Int)(i:Nat):((cg s o l b n).os.z i).k=(s.os.z i).k/\((cg s o l b n).os.z i).ls.n=(s.os.z i).ls.n:=by
 unfold cg;rw[rb,rb,(dm i).1,(dm i).1];exact⟨rfl,rfl⟩
theorem Db(s:St)(o l b:Nat)(n:Int)(i:Nat):((cg s o l b n).on.r i).n=(s.on.r i).n/\∀j,((cg s o l b n).on.r i).z j=if i=b/\j=bp s o l then(s.on.r i).z j-n else(s.on.r i).z j:=by
 show(if i=b then ku (s.on.r i) (bp s o l) _ else s.on.r i).n=_/\∀j,(if i=b then ku (s.on.r i) (bp s o l) _ else s.on.r i).z j=_;by_cases h:i=b
 .subst h;rw[if_pos rfl];refine⟨rfl,λj => ?_⟩;show(if j=bp s o l then _ else(s.on.r i).z j)=_;by_cases a:j=bp s o l
  .rw[if_pos a,if_pos ⟨rfl,a⟩,a]
  rw[if_neg a,if_neg (λe=>a e.2)]
 rw[if_neg h];exact⟨rfl,λj=>by rw[if_neg (λe=>h e.1)]⟩
theorem nw.drop(h:nw p s o l b):aw (mm s.hs o l b).n (cz (mm s.hs o l b).z)=false/\∀x y z:Int,keptV (mm s.hs o l b).n (mm s.hs o l b).z x y z=if x=o/\y=l/\z=b then 0 else keptV s.hs.n s.hs.z x y z:=by
 obtain⟨g,d,i⟩:=rp h.r.fm.hold h.kp;have e:=(np h.r.fm.hold g d).2;have f:jg s.hs.n s.hs.z o l b<s.hs.n:=by rw[e];exact g
 refine⟨Lz h.r.fm.hold f,λx y z => ?_⟩;have k:=Wm h.r.fm.hold f x y z;show keptV (s.hs.n-1) (fp s.hs.z (jg s.hs.n s.hs.z o l b)) x y z=_;rw[k];have m:=fh d;by_cases c:x=o/\y=l/\z=b
 .have:be (s.hs.z (jg s.hs.n s.hs.z o l b)) x y z=true:=by rw[c.1,c.2.1,c.2.2];exact d
  rw[this,if_pos c]
  rfl
 rw[if_neg c];cases a:be (s.hs.z (jg s.hs.n s.hs.z o l b)) x y z
 .rfl
 exact absurd ⟨(fh a).1.symm.trans m.1,(fh a).2.1.symm.trans m.2.1,(fh a).2.2.symm.trans m.2.2⟩ c
theorem nw.keptS(h:nw p s o l b)(n:Int)(x y:Int):Go.Proofs.YtbcacebifpagpagGreat.keptS (cg s o l b n).hs.z x y (cg s o l b n).hs.n=Go.Proofs.YtbcacebifpagpagGreat.keptS s.hs.z x y s.hs.n-if x=o/\y=l then dy s o l b else 0:=by
 have d:=h.drop;have nb6:=h.r.fm.sh.pl.nb6;have f:=h.bn;show Go.Proofs.YtbcacebifpagpagGreat.keptS (mm s.hs o l b).z x y (mm s.hs o l b).n=_;rw[<-xf _ x y _ d.1,<-xf _ x y _ h.r.fm.hold];by_cases c:x=o/\y=l
 .rw[if_pos c];have e:=rt (z:=λz=>keptV s.hs.n s.hs.z x y z) (z':=λz=>keptV (mm s.hs o l b).n (mm s.hs o l b).z x y z) (m:=b) (n := -dy s o l b) (k:=6) (by omega) (λi hi=>by
   rw[d.2];by_cases a:i=b
   .rw[if_pos ⟨c.1,c.2,by omega⟩,if_pos a,a,c.1,c.2];unfold dy;omega
   rw[if_neg (λe=>a (by omega)),if_neg a,Int.add_zero])
  rw[e];omega
 rw[if_neg c,Int.sub_zero];exact s9 λi _=>by rw[d.2,if_neg (λe=>c ⟨e.1,e.2.1⟩)]
structure k9(p:Pl)(s:St)(o l b:Nat)(n:Int):Prop where
 hd:nw p s o l b
 n0:0<=n
 nh:n<=dy s o l b
 om:s.so.z (bp s o l)+n<=1048576
theorem Mk{order line bin:Int}(h:ir p s order line bin n=0):ag p s=0/\∃o l b:Nat,order=o/\line=l/\bin=b/\k9 p s o l b n:=by
 by_cases a:ag p s=0
 .by_cases c:dy s order line bin=0
  .rw[Ga a c] at h;exact absurd h (by decide)
  cases d:inB n 0 (dy s order line bin)
  .rw[Ei a c d] at h;exact absurd h (by decide)
  by_cases e:1048576<s.so.z (bp s order.toNat line.toNat)+n
  .rw[F9 a c d e] at h;exact absurd h (by decide)
  obtain⟨o,l,b,rfl,rfl,rfl,hi⟩:=Mb (ed a) c;have:=aq d;exact⟨a,o,l,b,rfl,rfl,rfl,hi,this.1,this.2,by have f:¬1048576<s.so.z (bp s o l)+n:=e;omega⟩
 rw[yg a] at h;exact absurd h a
theorem k9.formed(h:k9 p s o l b n):cv p (cg s o l b n):=by
 have f:=h.hd.r.fm;have d:=h.hd.drop;have g:=h.hd.good;have E:=h.hd.there;have F:=h.hd.sum;have bd:=h.hd.bd;have n0:=h.n0;have nh:=h.nh;have om:=h.om;have u:um p (cg s o l b n).on:=⟨f.sh.pl,f.sh.n,λi hi=>(Db s o l b n i).1.trans (f.sh.len i hi),λi hi j a=>by
  rw[(Db s o l b n i).2 j];have v:=f.sh.num i hi j a;by_cases c:i=b/\j=bp s o l
  .rw[if_pos c];obtain⟨rfl,rfl⟩:=c;omega
  rw[if_neg c];exact v⟩
 refine⟨u,wi (uq f.sh0).1 u,f.os4,f.ms8,λi hi=>by rw[(mu s o l b n i).2];exact f.lns i hi,λi hi=>by rw[(mu s o l b n i).1];exact f.kind i hi,λi hi j a => ?_,d.1,λi hi => ?_,f.move,f.sin,f.son,f.sfn,f.sib,λj a => ?_,f.sfb⟩
 .have t:j<(s.os.z i).ls.n:=by rw[<-(mu s o l b n i).2];exact a
  rw[sx];by_cases c:i=o/\j=l
  .rw[if_pos c];obtain⟨b1,b2,b3,b4⟩:=dz (f.line o h.hd.on l h.hd.ln);unfold jy;rw[bq (by dsimp only;omega),bq (by dsimp only;omega),bq (by dsimp only;omega),bq (by dsimp only;omega)]
   rfl
  rw[if_neg c];exact f.line i hi j t
 rotate_left
 .have m:=f.sob j a;show 0<=(if j=bp s o l then s.so.z (bp s o l)+n else s.so.z j)/\(if j=bp s o l then s.so.z (bp s o l)+n else s.so.z j)<=1048576;by_cases c:j=bp s o l
  .rw[if_pos c];rw[c] at m;omega
  rw[if_neg c];exact m
 have hx:aw (cg s o l b n).hs.n (cz (cg s o l b n).hs.z)=false:=d.1;have e:=(np hx hi (uv _)).1;have fn:=(cx (ca hx i hi)).2.2.2;have D:keptV (cg s o l b n).hs.n (cg s o l b n).hs.z ((cg s o l b n).hs.z i).o ((cg s o l b n).hs.z i).l ((cg s o l b n).hs.z i).b=_:=d.2 _ _ _;rw[D] at e
 split at e
 .omega
 obtain⟨w,A,-⟩:=rp f.hold (o:=((cg s o l b n).hs.z i).o) (l:=((cg s o l b n).hs.z i).l) (b:=((cg s o l b n).hs.z i).b) (by omega);obtain⟨B,x,y⟩:=fh A;obtain⟨a1,k,q⟩:=iq (f.home _ w);rw[B] at a1 k;rw[x] at k;rw[y] at q;refine pe a1 ⟨k.1,?_⟩ q;rw[(mu s o l b n _).2];exact k.2
theorem k9.held(h:k9 p s o l b n)(c g:Nat):bw (cg s o l b n) c g (cg s o l b n).hs.n=bw s c g s.hs.n-if c=b/\g=bp s o l then dy s o l b else 0:=by
 have f:=h.hd.r.fm;have fx:=h.formed;have d:=h.hd.drop;have y:=h.hd.good;rw[sq (c:Int) (g:Int) _ fx.home fx.hold,sq (c:Int) (g:Int) _ f.home f.hold];have key:∀i j,ko (cg s o l b n) c g (cg s o l b n).hs.n i j=ko s c g s.hs.n i j+if i=o/\j=l then -(if c=b/\g=bp s o l then dy s o l b else 0) else 0:=λi j=>by
  unfold ko;have e:keptV (cg s o l b n).hs.n (cg s o l b n).hs.z (i:Int) (j:Int) (c:Int)=_:=d.2 i j c;rw[e];have x:(((cg s o l b n).os.z i).ls.z j).o=((s.os.z i).ls.z j).o:=by
   rw[sx];by_cases q:i=o/\j=l
   .rw[if_pos q,q.1,q.2]
   rw[if_neg q]
  rw[x];by_cases q:i=o/\j=l
  .rw[if_pos q];obtain⟨rfl,rfl⟩:=q;rw[y.1];by_cases t:g=bp s i j
   .subst t;rw[if_pos rfl,if_pos rfl];by_cases hc:c=b
    .subst hc;rw[if_pos ⟨rfl,rfl,rfl⟩,if_pos ⟨rfl,rfl⟩];unfold dy;omega
    rw[if_neg (λe=>hc (by omega)),if_neg (λe=>hc e.1)];omega
   rw[if_neg (λe=>t (by omega)),if_neg (λe=>t (by omega)),if_neg (λe=>t e.2)]
   rfl
  have u:(if (i:Int)=o/\(j:Int)=l/\(c:Int)=b then 0 else keptV s.hs.n s.hs.z (i:Int) (j:Int) (c:Int))=keptV s.hs.n s.hs.z (i:Int) (j:Int) (c:Int):=if_neg (λe=>q ⟨by omega,by omega⟩);rw[if_neg q,u,Int.add_zero]
 unfold Aq;have v:(cg s o l b n).os.n=s.os.n:=rfl;rw[v];have:=rt (z:=λi=>cu (λj=>ko s c g s.hs.n i j) (s.os.z i).ls.n) (z':=λi=>cu (λj=>ko (cg s o l b n) c g (cg s o l b n).hs.n i j) ((cg s o l b n).os.z i).ls.n) (m:=o) (n := -(if c=b/\g=bp s o l then dy s o l b else 0)) (k:=s.os.n) h.hd.on (λi hi=>by
  rw[(mu s o l b n i).2];by_cases q:i=o
  .rw[if_pos q];subst q;exact rt h.hd.ln λj w=>by
    rw[key];by_cases a:j=l
    .rw[if_pos ⟨rfl,a⟩,if_pos a]
    rw[if_neg (λe=>a e.2),if_neg a]
  rw[if_neg q,Int.add_zero];exact s9 λj w=>by rw[key,if_neg (λe=>q e.1),Int.add_zero])
 rw[this];omega
theorem k9.avail(h:k9 p s o l b n)(c g:Nat):ar (cg s o l b n) c g=ar s c g+if c=b/\g=bp s o l then dy s o l b-n else 0:=by
 unfold ar;rw[h.held,(Db s o l b n c).2 g];have e:az (cg s o l b n) c g (cg s o l b n).ms.n=az s c g s.ms.n:=ox (x:=cg s o l b n) (s:=s) (λj _=>rfl);rw[e];by_cases q:c=b/\g=bp s o l
 .rw[if_pos q,if_pos q,if_pos q];omega
 rw[if_neg q,if_neg q,if_neg q];omega
theorem k9.goods(h:k9 p s o l b n)(g:Nat)(d:g<p.ns):cu (λi=>((cg s o l b n).on.r i).z g) (cg s o l b n).on.n=(cg s o l b n).si.z g-(cg s o l b n).so.z g+(cg s o l b n).sf.z g/\∀c,c<p.nb->0<=ar (cg s o l b n) c g:=by
 obtain⟨a1,a⟩:=km (h.hd.r.goods g d);have n0:=h.n0;have nh:=h.nh;refine⟨?_,λc hc => ?_⟩
 .show cu _ s.on.n=s.si.z g-(if g=bp s o l then s.so.z (bp s o l)+n else s.so.z g)+s.sf.z g;by_cases q:g=bp s o l
  .rw[if_pos q];have e:=rt (z:=λi=>(s.on.r i).z g) (z':=λi=>((cg s o l b n).on.r i).z g) (m:=b) (n := -n) (k:=s.on.n) (by rw[h.hd.r.fm.sh.n];exact h.hd.bn) (λi hi=>by
    rw[(Db s o l b n i).2 g];by_cases c:i=b
    .rw[if_pos ⟨c,q⟩,if_pos c];omega
    rw[if_neg (λe=>c e.1),if_neg c,Int.add_zero])
   rw[e,a1,q];omega
  rw[if_neg q,<-a1];exact s9 λi hi=>by rw[(Db s o l b n i).2 g,if_neg (λe=>q e.2)]
 rw[h.avail];have:=a c hc
 split<;>omega
theorem k9.lineOK(h:k9 p s o l b n){i j:Nat}(hi:i<s.os.n)(a:j<(s.os.z i).ls.n):co (s.os.z i).k (((cg s o l b n).os.z i).ls.z j) (Go.Proofs.YtbcacebifpagpagGreat.keptS (cg s o l b n).hs.z i j (cg s o l b n).hs.n)=false:=by
 have w:=h.hd.r.orders i hi;unfold cf at w;rw[Xxq] at w;have d:co (s.os.z i).k ((s.os.z i).ls.z j) (Go.Proofs.YtbcacebifpagpagGreat.keptS s.hs.z i j s.hs.n)=false:=di w.2 j a;rw[h.hd.keptS,sx];by_cases c:i=o/\j=l
 .rw[if_pos c,if_pos ⟨by omega,by omega⟩];obtain⟨rfl,rfl⟩:=c;have f:=h.hd.sum;unfold co;rw[h.hd.kind,if_neg (by decide),if_neg (by decide),Bool.not_eq_false',beq_iff_eq];dsimp only;omega
 rw[if_neg c,if_neg (λe=>c ⟨by omega,by omega⟩),Int.sub_zero];exact d
theorem k9.right(h:k9 p s o l b n)(a:j6 (cg s o l b n) o=false):au p (cg s o l b n):=by
 refine⟨h.formed,λg a=>rm (h.goods g a).1 (h.goods g a).2,λi hi => ?_⟩;have w:=h.hd.r.orders i hi;unfold cf at w ⊢;rw[Xxq] at w ⊢;rw[(mu s o l b n i).1];refine⟨?_,ct λj d=>h.lineOK hi (by rw[<-(mu s o l b n i).2];exact d)⟩;by_cases c:i=o
 .subst c;unfold j6 at a;rw[a,Bool.and_false]
 rw[<-w.1]
 congr 2
 rw[(mu s o l b n i).2];refine nz λj d => ?_;rw[sx,if_neg (λe=>c e.1)]
theorem k9.closed(h:k9 p s o l b n)(m:j6 (cg s o l b n) o=true):au p (dh (cg s o l b n) o 2):=by
 have f:=h.formed;have t:∀i,((dh (cg s o l b n) o 2).os.z i).ls=((cg s o l b n).os.z i).ls:=λi=>Au _ _ _ _;have all:∀j,j<((cg s o l b n).os.z o).ls.n->(((cg s o l b n).os.z o).ls.z j).b=(((cg s o l b n).os.z o).ls.z j).l:=λj d=>by
  unfold j6 at m;rw[Bool.not_eq_true'] at m;have:=di m j d;unfold jr at this
  simpa using this
 refine⟨⟨f.sh,f.sh0,f.os4,f.ms8,λi hi=>by rw[t];exact f.lns i hi,λi hi => ?_,λi hi j d=>by rw[t] at d ⊢;exact f.line i hi j d,f.hold,λi hi => ?_,f.move,f.sin,f.son,f.sfn,f.sib,f.sob,f.sfb⟩,λg m => ?_,λi hi => ?_⟩
 .show 0<=(if i=o then(⟨2,((cg s o l b n).os.z i).ls⟩:Od) else(cg s o l b n).os.z i).k/\(if i=o then(⟨2,((cg s o l b n).os.z i).ls⟩:Od) else(cg s o l b n).os.z i).k<=2
  split
  .exact⟨(by decide:(0:Int)<=2),(by decide:(2:Int)<=2)⟩
  exact f.kind i hi
 .have e:=iq (f.home i hi);refine pe e.1 ⟨e.2.1.1,?_⟩ e.2.2;rw[t];exact e.2.1.2
 .refine rm (h.goods g m).1 λc hc => ?_;have a:=(h.goods g m).2 c hc;have e:ar (dh (cg s o l b n) o 2) c g=ar (cg s o l b n) c g:=by
   unfold ar;rw[qy (x:=dh (cg s o l b n) o 2) (s:=cg s o l b n) (λj _=>rfl) (λj _=>by unfold jo;rw[t])];rw[ox (x:=dh (cg s o l b n) o 2) (s:=cg s o l b n) (λj _=>rfl)]
   rfl
  rw[e];exact a
 have q:i<s.os.n:=hi;unfold cf;rw[t,Xxq];by_cases c:i=o;rotate_left
 .have y:(dh (cg s o l b n) o 2).os.z i=(cg s o l b n).os.z i:=if_neg c;rw[y,(mu s o l b n i).1];have w:=h.hd.r.orders i q;unfold cf at w;rw[Xxq] at w;refine⟨?_,ct λj d=>h.lineOK q (by rw[<-(mu s o l b n i).2];exact d)⟩;rw[<-w.1]
  congr 2
  rw[(mu s o l b n i).2];refine nz λj d => ?_;rw[sx,if_neg (λe=>c e.1)]
 subst c;have A:((dh (cg s i l b n) i 2).os.z i).k=2:=by rw[uc]
 rw[A];refine⟨rfl,ct λj d => ?_⟩;have v:j<(s.os.z i).ls.n:=by rw[<-(mu s i l b n i).2];exact d
 have u:=h.lineOK q v;have D:=all j d;have B:=(ro (z:=(cg s i l b n).hs.z) i j (cg s i l b n).hs.n λj d=>(cx (ca f.hold j d)).2.2.2).1;have E:=dz (f.line i hi j d);rw[h.hd.kind] at u;unfold co at u ⊢;rw[if_neg (by decide),if_neg (by decide),Bool.not_eq_false',beq_iff_eq] at u;rw[if_neg (by decide),if_pos rfl];simp only[Xxq,Bool.not_eq_false',beq_iff_eq];have e:(dh (cg s i l b n) i 2).hs=(cg s i l b n).hs:=rfl;rw[e];omega
theorem k9.takeIn(h:k9 p s o l b n):ix p (cg s o l b n) o l (dy s o l b-n):=by
 have e:=sx s o l b n o l;rw[if_pos ⟨rfl,rfl⟩] at e;have a:=dz (h.hd.r.fm.line o h.hd.on l h.hd.ln);have g:=h.hd.good;have n0:=h.n0;have nh:=h.nh;have d:=h.hd.sum;refine⟨h.formed,λc hc => ?_,h.hd.on,by rw[(mu s o l b n o).2];exact h.hd.ln,by omega,?_,?_⟩
 .rw[e];exact(h.goods _ (by dsimp only;omega)).2 c hc
 .rw[e];dsimp only;omega
 rw[e,h.hd.keptS,if_pos ⟨rfl,rfl⟩];dsimp only;omega
theorem k9.stepIn(h:k9 p s o l b n)(a:j6 (cg s o l b n) o=false):j5 p b (cg s o l b n) o l (dy s o l b-n):=by
 have t:=h.takeIn;have:=h.hd.bn;exact⟨h.right a,t.on,t.ln,t.n0,Or.inr ⟨by rw[(mu s o l b n o).1];exact h.hd.kind,t.bk⟩,Or.inr ⟨by omega,by omega⟩⟩
theorem k9.all0(h:k9 p s o l b n)(c:j6 (cg s o l b n) o=true):dy s o l b-n=0:=by
 unfold j6 at c;rw[Bool.not_eq_true'] at c;have a:=di c l (by rw[(mu s o l b n o).2];exact h.hd.ln);rw[sx,if_pos ⟨rfl,rfl⟩] at a;unfold jr at a;have e:((s.os.z o).ls.z l).b+n=((s.os.z o).ls.z l).l:=by simpa using a
 have d:=dz (h.hd.r.fm.line o h.hd.on l h.hd.ln);have f:=h.hd.sum;have bd:=h.hd.bd;have nh:=h.nh;omega
theorem U5(h:k9 p s o l b n):au p (pi p s o l b n):=by
 unfold pi;cases a:j6 (cg s o l b n) o
 .rw[if_neg (by decide)];exact lg.right (h.stepIn a) (xu h.takeIn)
 rw[if_pos rfl];exact h.closed a
end
theorem ai.orderCells{A:Nat}{w:World}{s:St}{o:Nat}(h:ai A w s)(e:o<s.os.n):∃g,s.os.a=some ⟨g,0,none⟩/\A<=g/\g<w.heap.size/\w.cell? ⟨g,o*2,none⟩=some (.int .i64 (s.os.z o).k)/\w.cell? ⟨g,o*2+1,none⟩=some (.slice (s.os.z o).ls.a (s.os.z o).ls.n (s.os.z o).ls.c)/\∀j,w.frozen? ⟨g,j,none⟩=false:=by
 obtain⟨g,f,i,b⟩:=h.os.list (by omega);have d:=b.cell (j:=o*2) (by omega);have e0:=pa (z:=s.os.z) e (show 0<2 by decide);rw[Nat.add_zero] at e0;rw[e0] at d;have c1:=b.cell (j:=o*2+1) (by omega);rw[pa (z:=s.os.z) e (show 1<2 by decide)] at c1;exact⟨g,f,i,b.lt,d,c1,λj=>b.frozen j⟩
theorem Un{s:St}{i k:Nat}(a:((s.os.z i).ls.z k).b=0):setLine (fg s i k) i k 3 ((s.os.z i).ls.z k).l=fg s i (k+1):=by
 rw[<-F2,a,Int.sub_zero]
structure de(A B7:Nat)(W0:World)(cur:St)(wk:World):Prop where
 own:ai A wk cur
 box:Blk wk B7 31 7 (λj=>cur.cells.getD j default)
 bel:Below W0.heap.size W0 wk
 le:A<=wk.heap.size
theorem de.below{A e:Nat}{d b c:World}{cur:St}(h:de A e d cur b)(a:Below b.heap.size b c):de A e d cur c :=
 ⟨h.own.below a,h.box.below a,h.bel.trans (a.mono h.bel.size),Qzx h.le a.size⟩
theorem ai.onCell{A:Nat}{w:World}{s:St}{b g:Nat}(h:ai A w s)(e:b<s.on.n)(l:g<(s.on.r b).n):∃d G,s.on.a=some ⟨d,0,none⟩/\d<w.heap.size/\w.cell? ⟨d,b,none⟩=some (.slice (some ⟨G,0,none⟩) (s.on.r b).n (s.on.r b).c)/\(s.on.r b).a=some ⟨G,0,none⟩/\A<=G/\G<w.heap.size/\(s.on.r b).n<=(s.on.r b).c/\(s.on.r b).c<=maxLen/\w.cell? ⟨G,g,none⟩=some (.int .i64 ((s.on.r b).z g))/\(∀j,w.frozen? ⟨G,j,none⟩=false)/\s.on.n<=s.on.c/\s.on.c<=maxLen:=by
 obtain⟨d,a1,m,k,i,f⟩:=h.on;obtain⟨G,b1,b2,b3,b4,b5⟩:=h.rows b e;have c:=f.cell (j:=b) e;rw[b1] at c;exact⟨d,G,a1,f.lt,c,b1,b2,b5.lt,b3,b4,b5.cell l,λj=>b5.frozen j,k,i⟩
theorem ju.cellAt{A:Nat}{w:World}{r:Rw}{g:Nat}(h:ju A w r)(b:g<r.n):∃G,r.a=some ⟨G,0,none⟩/\A<=G/\G<w.heap.size/\r.n<=r.c/\r.c<=maxLen/\w.cell? ⟨G,g,none⟩=some (.int .i64 (r.z g))/\∀j,w.frozen? ⟨G,j,none⟩=false:=by
 obtain⟨G,b1,b2,b3,b4,b5⟩:=h;exact⟨G,b1,b2,b5.lt,b3,b4,b5.cell b,λj=>b5.frozen j⟩
theorem ai.setOut{A:Nat}{w:World}{s:St}{G:Nat}(h:ai A w s)(b:s.so.a=some ⟨G,0,none⟩)(g:Nat)(x:Int):ai A (w.setCell ⟨G,g,none⟩ (.int .i64 x)) (Go.Proofs.YtbcacebifpagpagGreat.setOut s g x):=by
 obtain⟨q,b1,b2,b3,b4,b5⟩:=h.so;rw[b] at b1;simp only[Qkx,Qkz,and_true] at b1;subst b1;refine⟨?_,λi hi=>(h.rows i hi).apart (λe=>(h.ari i hi).2.1 (e.trans b.symm)) _ _,h.rapart,h.os.other b5 (by decide) (by decide) _ _,h.hs.other b5 (by decide) _ _,h.ms.other b5 (by decide) _ _,h.msr.set _ _ _,h.si.apart (λe=>h.aio (e.trans b.symm)) _ _,h.so.set b _ _,h.sf.apart (λe=>h.aof (b.trans e.symm)) _ _,h.aio,h.aif,h.aof,h.ari⟩;obtain⟨j,f,a1,k,d,c⟩:=h.on;exact⟨j,f,a1,k,d,c.other (a:=⟨G,g,none⟩) (Blk.ne2 c b5 (by decide)) _⟩
theorem Sy{s t:St}(h:ae s t)(g:Nat)(x:Int):ae (setOut s g x) (setOut t g x):=
 ⟨h.on,h.os,h.hs,h.ms,h.si,⟨h.so.1,λj a=>by
  show(if j=g then x else s.so.z j)=if j=g then x else t.so.z j;rw[h.so.2 j a]⟩,h.sf⟩
theorem Io{s t:St}(h:ae s t)(o l c:Nat)(v:Int):ae (setLine s o l c v) (setLine t o l c v):=by
 refine⟨h.on,⟨h.os.1,λi hi => ?_⟩,h.hs,h.ms,h.si,h.so,h.sf⟩;have a:i<s.os.n:=hi;have e:=h.os.2 i a;rw[rb,rb,(dm i).1,(dm i).1];refine⟨e.1,e.2.1,λj b => ?_⟩;rw[ou,ou,e.2.2 j b]
theorem N0{s t:St}(h:ae s t){k a:Hs}(b:k.n=a.n)(c:∀j,j<k.n->k.z j=a.z j):ae (withHolds s k) (withHolds t a):=⟨h.on,h.os,⟨b,c⟩,h.ms,h.si,h.so,h.sf⟩
theorem F0{s t:St}(h:ae s t)(o:Nat)(v:Int):ae (dh s o v) (dh t o v):=by
 refine⟨h.on,⟨h.os.1,λi hi => ?_⟩,h.hs,h.ms,h.si,h.so,h.sf⟩;have e:=h.os.2 i hi;show(if i=o then(⟨v,(s.os.z i).ls⟩:Od) else s.os.z i).k=(if i=o then(⟨v,(t.os.z i).ls⟩:Od) else t.os.z i).k/\((Aa s.os o v).z i).ls.n=((Aa t.os o v).z i).ls.n/\∀j,j<((Aa s.os o v).z i).ls.n->((Aa s.os o v).z i).ls.z j=((Aa t.os o v).z i).ls.z j;rw[Au,Au];refine⟨?_,e.2⟩;by_cases c:i=o
 .rw[if_pos c,if_pos c]
 rw[if_neg c,if_neg c];exact e.1
def ud(s:St)(h:Hs)(o l b g:Nat)(n k:Int):St:=setLine (setLine (setOut (setOn (withHolds s h) b g ((s.on.r b).z g-n)) g (s.so.z g+n)) o l 2 (((s.os.z o).ls.z l).b+n)) o l 3 (((s.os.z o).ls.z l).n+(k-n))
theorem Gc{p:Pl}{x s:St}(e:ae x s){o l b:Nat}{n:Int}(a:nw p s o l b){h:Hs}(i:h.n=(mm s.hs o l b).n)(d:∀j,j<h.n->h.z j=(mm s.hs o l b).z j):ae (ud x h o l b (bp s o l) n (dy s o l b)) (cg s o l b n):=by
 have g:=a.good;have c:(x.on.r b).z (bp s o l)=(s.on.r b).z (bp s o l):=e.num a.r.fm a.bn g.2;have f:x.so.z (bp s o l)=s.so.z (bp s o l):=e.so.2 _ (by rw[e.so.1,a.r.fm.son];exact g.2);have k:=e.line a.on a.ln;unfold ud cg;rw[c,f,k];exact Io (Io (Sy (xr (N0 e i d) _ _ _) _ _) _ _ _ _) _ _ _ _
theorem j5.same{p:Pl}{but:Int}{y a:St}{i j:Nat}{n:Int}(h:j5 p but y i j n)(e:ae a y):j5 p but a i j n:=by
 have b:i<a.os.n:=by rw[e.os.1];exact h.on
 have k:=e.os.2 i b;refine⟨e.right h.r,b,by rw[k.2.1];exact h.ln,h.n0,?_,h.bt⟩;rw[k.1,e.line h.on h.ln];exact h.kd
theorem Ef{x s:St}(e:ae x s){o:Nat}(b:o<s.os.n):j6 x o=j6 s o:=by
 have k:=e.os.2 o (by rw[e.os.1];exact b);unfold j6;rw[k.2.1]
 congr 1
 exact nz λj a=>by rw[k.2.2 j (by rw[k.2.1];exact a)]
abbrev yx(p:Pl)(f:Bool):={ k:Nat // k<p.nb/\(p.zb k).front=f }
def frX(p:Pl)(f:Bool):Nat->List (yx p f)
 | 0=>[]
 | k+1=>frX p f k++(if h:k<p.nb/\(p.zb k).front=f then [⟨k,h⟩] else [])
theorem Ev{p:Pl}{f:Bool}{k:Nat}(h:k<p.nb/\(p.zb k).front=f):frX p f (k+1)=frX p f k++[⟨k,h⟩]:=by
 simp only[frX];rw[dif_pos h]
theorem Kf{p:Pl}{f:Bool}{k:Nat}(h:¬(p.zb k).front=f):frX p f (k+1)=frX p f k:=by
 simp only[frX];rw[dif_neg (λe=>h e.2),List.append_nil]
theorem aaq(p:Pl)(f:Bool)(k:Nat):(frX p f k).length<=k:=by
 induction k with
 | zero=>exact Nat.le_refl _
 | succ k ih =>
  by_cases h:k<p.nb/\(p.zb k).front=f
  .rw[Ev h,List.length_append];simp;omega
  simp only[frX];rw[dif_neg h,List.append_nil];omega
theorem Ul(p:Pl)(f:Bool){k m:Nat}(h:k<=m):frX p f k <+: frX p f m:=by
 induction m with
 | zero=>rw[show k=0 by omega];exact List.prefix_refl _
 | succ m ih =>
  by_cases a:k=m+1
  .rw[a];exact List.prefix_refl _
  exact(ih (by omega)).trans (List.prefix_append _ _)
def iw(s:St)(m:Hd):St:=withMoves s ⟨s.ms.a,s.ms.n+1,s.ms.c,λi=>if i=s.ms.n then m else s.ms.z i⟩
def o5(p:Pl)(s:St)(b g f:Nat):Int:=min (min ((p.zb b).high-dw s b g) (ar s f g)) ((fw p s b).tdiv (p.zs g))
def nl(p:Pl)(b g f:Nat)(s:St):St:=if s.ms.n<8/\1<=o5 p s b g f then iw s ⟨g,f,b,o5 p s b g f⟩ else s
def jl(p:Pl)(b g:Nat)(L:List (yx p false))(s:St):St:=L.foldl (λy f=>nl p b g f.1 y) s
def i7(p:Pl)(b:Nat):Nat->St->St
 | 0,s=>s
 | g+1,s=>if (p.zb b).low<=dw (i7 p b g s) b g then i7 p b g s else jl p b g (frX p false p.nb) (i7 p b g s)
def mf(p:Pl)(L:List (yx p true))(s:St):St:=L.foldl (λy b=>i7 p b.1 p.ns y) s
def yp(p:Pl)(s:St):St:=mf p (frX p true p.nb) s
theorem L6(p:Pl)(b g:Nat)(L:List (yx p false))(f:yx p false)(s:St):jl p b g (L++[f]) s=nl p b g f.1 (jl p b g L s):=by
 unfold jl;rw[List.foldl_append];rfl
theorem L5(p:Pl)(L:List (yx p true))(b:yx p true)(s:St):mf p (L++[b]) s=i7 p b.1 p.ns (mf p L s):=by
 unfold mf;rw[List.foldl_append];rfl
theorem Ok{p:Pl}{b g:Nat}{s:St}(h:(p.zb b).low<=dw (i7 p b g s) b g):i7 p b (g+1) s=i7 p b g s:=by
 simp only[i7];rw[if_pos h]
theorem Q0{p:Pl}{b g:Nat}{s:St}(h:¬(p.zb b).low<=dw (i7 p b g s) b g):i7 p b (g+1) s=jl p b g (frX p false p.nb) (i7 p b g s):=by
 simp only[i7];rw[if_neg h]
theorem C4{p:Pl}{b g f:Nat}{s:St}(h:8<=s.ms.n):nl p b g f s=s:=if_neg (by omega)
theorem Cf{p:Pl}{b g:Nat}{s:St}(h:8<=s.ms.n):∀L,jl p b g L s=s
 | []=>rfl
 | f :: L=>by
  have:jl p b g (f :: L) s=jl p b g L (nl p b g f.1 s):=rfl;rw[this,C4 h];exact Cf h L
theorem L7{p:Pl}{b:Nat}{s:St}(h:8<=s.ms.n):∀g,i7 p b g s=s
 | 0=>rfl
 | g+1=>by
  have a:=L7 (p:=p) (b:=b) h g;simp only[i7];rw[a,Cf h]
  split<;>rfl
theorem L4{p:Pl}{s:St}(h:8<=s.ms.n):∀L,mf p L s=s
 | []=>rfl
 | b :: L=>by
  have:mf p (b :: L) s=mf p L (i7 p b.1 p.ns s):=rfl;rw[this,L7 h];exact L4 h L
theorem Wo{p:Pl}{b g:Nat}{s y:St}{L M:List (yx p false)}(a:L <+: M)(e:jl p b g L s=y)(h:8<=y.ms.n):jl p b g M s=y:=by
 obtain⟨R,rfl⟩:=a;have:jl p b g (L++R) s=jl p b g R (jl p b g L s):=List.foldl_append;rw[this,e,Cf h]
theorem Oj{p:Pl}{b:Nat}{s y:St}{k:Nat}(e:i7 p b k s=y)(h:8<=y.ms.n):∀{m:Nat},k<=m->i7 p b m s=y
 | 0,hm=>by rw[show k=0 by omega] at e;exact e
 | m+1,hm=>by
  by_cases c:k=m+1
  .rw[<-c];exact e
  have a:=Oj e h (m:=m) (by omega);simp only[i7];rw[a,Cf h]
  split<;>rfl
theorem Wn{p:Pl}{s y:St}{L M:List (yx p true)}(a:L <+: M)(e:mf p L s=y)(h:8<=y.ms.n):mf p M s=y:=by
 obtain⟨R,rfl⟩:=a;have:mf p (L++R) s=mf p R (mf p L s):=List.foldl_append;rw[this,e,L4 h]
section
variable {p:Pl} {s y:St} {m:Hd} {b g f:Nat}
theorem wv(s:St)(m:Hd){j:Nat}(h:j<s.ms.n):(iw s m).ms.z j=s.ms.z j:=if_neg (by omega)
theorem vn(s:St)(m:Hd):(iw s m).ms.z s.ms.n=m:=if_pos rfl
theorem Qc(s:St)(m:Hd)(b g:Int):az (iw s m) b g (iw s m).ms.n=az s b g s.ms.n+if m.l=b/\m.o=g then m.n else 0:=by
 show az (iw s m) b g (s.ms.n+1)=_;simp only[az];rw[vn,ox (x:=iw s m) (s:=s) (k:=s.ms.n) λj a=>wv s m a]
theorem Qd(s:St)(m:Hd)(b g:Int)(k:Nat):bw (iw s m) b g k=bw s b g k:=qy (λj a=>rfl) (λj a=>rfl)
theorem Pn(s:St)(m:Hd)(b g:Nat):ar (iw s m) b g=ar s b g-if m.l=(b:Int)/\m.o=(g:Int) then m.n else 0:=by
 unfold ar;rw[Qc];rw[show bw (iw s m) b g (iw s m).hs.n=bw s b g s.hs.n from Qd s m b g s.hs.n];rw[show((iw s m).on.r b).z g=(s.on.r b).z g from rfl];omega
theorem Ec{x s:St}{b g:Int}:∀{k:Nat},(∀j,j<k->x.ms.z j=s.ms.z j)->bj x b g k=bj s b g k
 | 0,_=>rfl
 | k+1,h=>by
  simp only[bj];rw[Ec (k:=k) λj a=>h j (by omega),h k (by omega)]
theorem Gy(s:St)(m:Hd)(b g:Nat):dw (iw s m) b g=dw s b g+if m.b=(b:Int)/\m.o=(g:Int) then m.n else 0:=by
 unfold dw;have:bj (iw s m) b g (iw s m).ms.n=bj s b g s.ms.n+if m.b=(b:Int)/\m.o=(g:Int) then m.n else 0:=by
  show bj (iw s m) b g (s.ms.n+1)=_;simp only[bj];rw[vn,Ec (x:=iw s m) (s:=s) (k:=s.ms.n) λj a=>wv s m a]
 rw[this,show((iw s m).on.r b).z g=(s.on.r b).z g from rfl,Int.add_assoc]
theorem Qb(p:Pl)(s:St)(m:Hd)(b:Nat):fw p (iw s m) b=fw p s b-if m.b=(b:Int) then m.n*p.zs m.o.toNat else 0:=by
 unfold fw;have:jj p (iw s m) b (iw s m).ms.n=jj p s b s.ms.n+if m.b=(b:Int) then m.n*p.zs m.o.toNat else 0:=by
  show jj p (iw s m) b (s.ms.n+1)=_;simp only[jj];rw[vn,It (x:=iw s m) (s:=s) (k:=s.ms.n) λj a=>wv s m a]
 rw[this,show(iw s m).on=s.on from rfl];omega
theorem Tz(e:0<=m.o/\m.o<p.ns)(d:0<=m.l/\m.l<p.nb)(c:0<=m.b/\m.b<p.nb)(a:¬m.l=m.b)(f:1<=m.n/\m.n<=200):lx p m=false:=by
 unfold lx;rw[bq (by omega),bq (by omega),bq (by omega),bq (by omega)]
 simpa using a
theorem Po(r:au p s)(u:s.ms.n<8)(w:g<p.ns)(t:f<p.nb)(q:b<p.nb)(m:¬f=b){n:Int}(c:1<=n)(l:n<=200)(v:n<=ar s f g):au p (iw s ⟨g,f,b,n⟩):=by
 have F:=r.fm;refine⟨⟨F.sh,F.sh0,F.os4,by show s.ms.n+1<=8;omega,F.lns,F.kind,F.line,F.hold,F.home,λi hi => ?_,F.sin,F.son,F.sfn,F.sib,F.sob,F.sfb⟩,λj d => ?_,r.orders⟩
 .have o:i<s.ms.n+1:=hi;by_cases h:i=s.ms.n
  .rw[h,vn];refine Tz ⟨?_,?_⟩ ⟨?_,?_⟩ ⟨?_,?_⟩ ?_ ⟨c,l⟩<;>simp<;>omega
  rw[wv s _ (by omega)];exact F.move i (by omega)
 obtain⟨a1,k⟩:=km (r.goods j d);refine rm a1 λi hi => ?_;rw[Pn];have:=k i hi;by_cases h:(f:Int)=(i:Int)/\(g:Int)=(j:Int)
 .rw[if_pos h];have a:f=i:=by omega
  have e:g=j:=by omega
  subst a e;show 0<=ar s f g-n;omega
 rw[if_neg h];omega
theorem Cv{x y:St}(h:ae x y)(m:Hd){k:Hs}(a:k.n=x.ms.n+1)(b:∀j,j<x.ms.n->k.z j=x.ms.z j)(c:k.z x.ms.n=m):ae (withMoves x k) (iw y m):=by
 refine⟨h.on,h.os,h.hs,⟨?_,λj d => ?_⟩,h.si,h.so,h.sf⟩
 .show k.n=y.ms.n+1;rw[a,h.ms.1]
 have f:j<x.ms.n+1:=by rw[<-a];exact d
 show k.z j=if j=y.ms.n then m else y.ms.z j;rw[<-h.ms.1];by_cases e:j=x.ms.n
 .rw[if_pos e,e];exact c
 rw[if_neg e,b j (by omega)];exact h.ms.2 j (by omega)
structure gh(p:Pl)(s y:St):Prop where
 r:au p y
 eq:y=withMoves s y.ms
 ge:s.ms.n<=y.ms.n
 pre:∀k,k<s.ms.n->y.ms.z k=s.ms.z k
 new:∀k,s.ms.n<=k->k<y.ms.n->∃b g f:Nat,(y.ms.z k).o=g/\(y.ms.z k).l=f/\(y.ms.z k).b=b/\f<p.nb/\b<p.nb/\g<p.ns/\(p.zb f).front=false/\(p.zb b).front=true/\dw y b g<=(p.zb b).high
 free:∀b,b<p.nb->fw p y b<=fw p s b/\(fw p y b<0->fw p y b=fw p s b)
theorem gh.refl(r:au p s):gh p s s:=⟨r,rfl,Nat.le_refl _,λ_ _=>rfl,λk d a=>absurd a (by omega),λb c=>⟨Int.le_refl _,λ_=>rfl⟩⟩
theorem aay{a z n:Int}(c:1<=z)(e:1<=n)(h:n<=a.tdiv z):n*z<=a:=by
 by_cases b:0<=a
 .rw[Int.tdiv_eq_ediv_of_nonneg b] at h;exact Int.le_trans (Int.mul_le_mul_of_nonneg_right h (by omega)) (Int.ediv_mul_le a (by omega))
 have d:a.tdiv z = - ((-a).tdiv z):=by rw[Int.neg_tdiv];omega
 have f:0<=(-a).tdiv z:=Int.tdiv_nonneg (by omega) (by omega);omega
theorem Q1(p:Pl)(s:St)(b g f:Nat):o5 p s b g f<=(p.zb b).high-dw s b g/\o5 p s b g f<=ar s f g/\o5 p s b g f<=(fw p s b).tdiv (p.zs g):=by
 unfold o5;omega
theorem Yx(r:au p s)(d:g<p.ns)(c:b<p.nb):o5 p s b g f<=200:=by
 have F:=r.fm;have e:=(Q1 p s b g f).1;have h:0<=dw s b g:=by
  unfold dw;have:=(F.sh.num b (by rw[F.sh.n];exact c) g d).1;have:=(lj (s:=s) (b:=b) (g:=g) F.moveN).1;omega
 have a:=F.sh.pl.bins b c;rw[Dn] at a;simp only[Xxq,Bool.not_eq_false'] at a;have:=aq a.1.2;omega
theorem gh.step(h:gh p s y)(m:b<p.nb)(i:(p.zb b).front=true)(d:g<p.ns)(u:f<p.nb)(a:(p.zb f).front=false):gh p s (nl p b g f y):=by
 unfold nl;by_cases c:y.ms.n<8/\1<=o5 p y b g f;rotate_left
 .rw[if_neg c];exact h
 rw[if_pos c];have le:=Q1 p y b g f;have t:¬f=b:=λe=>by rw[e,i] at a;cases a
 have bd:=Yx (f:=f) h.r d m;obtain⟨c1,c2⟩:=c
 generalize o5 p y b g f=n at *
 refine⟨Po h.r c1 d u m t c2 bd le.2.1,?_,by show s.ms.n<=y.ms.n+1;have:=h.ge;omega,λk J => ?_,λk G B => ?_,λc hc => ?_⟩
 .rw[iw];conv=>lhs;rw[h.eq]
  rfl
 .rw[wv y _ (by have:=h.ge;omega)];exact h.pre k J
 rotate_left
 .rw[Qb];obtain⟨v,H⟩:=h.free c hc;by_cases e:(b:Int)=(c:Int)
  .rw[if_pos e];have l:b=c:=by omega
   subst l;have F:=(h.r.fm.sh.pl.sizes g d).1;have:=aay F c2 le.2.2;have Q:0<=n*p.zs g:=Int.mul_nonneg (by omega) (by omega);show fw p y b-n*p.zs (g:Int).toNat<=_/\(fw p y b-n*p.zs (g:Int).toNat<0->_);rw[Int.toNat_natCast];omega
  rw[if_neg e,Int.sub_zero];exact⟨v,H⟩
 have P:k<y.ms.n+1:=B;by_cases e:k=y.ms.n
 .rw[e,vn];refine⟨b,g,f,rfl,rfl,rfl,u,m,d,a,i,?_⟩;rw[Gy,if_pos ⟨rfl,rfl⟩];have:=le.1;show dw y b g+n<=_;omega
 rw[wv y _ (by omega)];obtain⟨o,j,f',M,x,z,A,K,E,D,L,S⟩:=h.new k G (by omega);refine⟨o,j,f',M,x,z,A,K,E,D,L,?_⟩;rw[Gy];by_cases q:(b:Int)=(o:Int)/\(g:Int)=(j:Int)
 .rw[if_pos q];have l:b=o:=by omega
  have w:g=j:=by omega
  subst l w;have:=le.1;show dw y b g+n<=_;omega
 rw[if_neg q];omega
theorem gh.F(h:gh p s y)(c:b<p.nb)(a:(p.zb b).front=true)(d:g<p.ns):∀(L:List (yx p false)),gh p s (jl p b g L y):=by
 intro L
 induction L generalizing y with
 | nil=>exact h
 | cons f L ih=>exact ih (h.step c a d f.2.1 f.2.2)
theorem gh.G(h:gh p s y)(d:b<p.nb)(a:(p.zb b).front=true):∀{g:Nat},g<=p.ns->gh p s (i7 p b g y)
 | 0,_=>h
 | g+1,hg=>by
  have c:=gh.G h d a (g:=g) (by omega);simp only[i7]
  split
  .exact c
  exact c.F d a (by omega) _
theorem gh.B(h:gh p s y):∀(L:List (yx p true)),gh p s (mf p L y):=by
 intro L
 induction L generalizing y with
 | nil=>exact h
 | cons b L ih=>exact ih (h.G b.2.1 b.2.2 nlr)
theorem Wp(r:au p s):gh p s (yp p s):=(gh.refl r).B _
end
theorem ae.lying{x t:St}{p:Pl}(h:ae x t)(f:cv p t){b g:Nat}(a:b<p.nb)(c:g<p.ns):dw x b g=dw t b g:=by
 unfold dw;rw[h.num f a c,h.ms.1,Ec (x:=x) (s:=t) λj d=>h.ms.2 j (by rw[h.ms.1];exact d)]
theorem Ft{p:Pl}{x t:St}(h:ae x t)(F:cv p t){b g f:Nat}(a:b<p.nb)(c:g<p.ns)(d:f<p.nb):o5 p x b g f=o5 p t b g f:=by
 unfold o5;rw[h.lying F a c,h.avail F d c,h.free F a]
def Bv(h:Hs)(k:Nat):Hs:=⟨h.a,h.n-1,h.c,λi=>if i<k then h.z i else h.z (i+1)⟩
def fk(p:Pl)(s:St)(k n:Int):Int :=
 if ag p s=0 then(if inB k 0 ((s.ms.n:Int)-1) then(if inB n 0 (s.ms.z k.toNat).n then(if 200<(s.on.r (s.ms.z k.toNat).b.toNat).z (s.ms.z k.toNat).o.toNat+n then 2 else 0) else 3) else 4) else ag p s
def tt(s:St)(h:Hs)(f b g:Nat)(n:Int):St:=setOn (setOn (withMoves s h) f g ((s.on.r f).z g-n)) b g ((s.on.r b).z g+n)
def jd(s:St)(k:Nat)(n:Int):St:=tt s (Bv s.ms k) (s.ms.z k).l.toNat (s.ms.z k).b.toNat (s.ms.z k).o.toNat n
section
variable {p:Pl} {s x:St} {k:Nat} {n:Int}
theorem vx{k:Int}(h:¬ag p s=0):fk p s k n=ag p s:=by unfold fk;rw[if_neg h]
theorem Eh{k:Int}(h:ag p s=0)(a:inB k 0 ((s.ms.n:Int)-1)=false):fk p s k n=4:=by unfold fk;rw[if_pos h,a];rfl
theorem C9{k:Int}(h:ag p s=0)(a:inB k 0 ((s.ms.n:Int)-1)=true)(b:inB n 0 (s.ms.z k.toNat).n=false):fk p s k n=3:=by unfold fk;rw[if_pos h,a,b];rfl
theorem Eg{k:Int}(h:ag p s=0)(d:inB k 0 ((s.ms.n:Int)-1)=true)(a:inB n 0 (s.ms.z k.toNat).n=true)(c:200<(s.on.r (s.ms.z k.toNat).b.toNat).z (s.ms.z k.toNat).o.toNat+n):fk p s k n=2:=by unfold fk;rw[if_pos h,d,a,if_pos c];rfl
theorem O7{k:Int}(h:ag p s=0)(d:inB k 0 ((s.ms.n:Int)-1)=true)(a:inB n 0 (s.ms.z k.toNat).n=true)(c:¬200<(s.on.r (s.ms.z k.toNat).b.toNat).z (s.ms.z k.toNat).o.toNat+n):fk p s k n=0:=by unfold fk;rw[if_pos h,d,a,if_neg c];rfl
structure o9(p:Pl)(s:St)(k f b g:Nat)(N n:Int):Prop where
 r:au p s
 kn:k<s.ms.n
 m:s.ms.z k=⟨g,f,b,N⟩
 fn:f<p.nb
 bn:b<p.nb
 gn:g<p.ns
 ne:¬f=b
 n0:0<=n
 nN:n<=N
 N1:1<=N
 N2:N<=200
 to:(s.on.r b).z g+n<=200
theorem Ta{k:Int}(h:fk p s k n=0):ag p s=0/\∃(i f b g:Nat) (N:Int),k=i/\o9 p s i f b g N n:=by
 by_cases a:ag p s=0
 .refine⟨a,?_⟩;cases c:inB k 0 ((s.ms.n:Int)-1)
  .rw[Eh a c] at h;cases h
  cases d:inB n 0 (s.ms.z k.toNat).n
  .rw[C9 a c d] at h;cases h
  by_cases u:200<(s.on.r (s.ms.z k.toNat).b.toNat).z (s.ms.z k.toNat).o.toNat+n
  .rw[Eg a c d u] at h;cases h
  have r:=ed a;have y:=aq c;have e:=aq d;have j:k.toNat<s.ms.n:=by omega
  obtain⟨q,v,t,x,w,m⟩:=qn (r.fm.move k.toNat j);refine⟨k.toNat,(s.ms.z k.toNat).l.toNat,(s.ms.z k.toNat).b.toNat,(s.ms.z k.toNat).o.toNat,(s.ms.z k.toNat).n,by omega,r,j,?_,by omega,by omega,by omega,by omega,e.1,e.2,w,m,by omega⟩;rw[Int.toNat_of_nonneg q.1,Int.toNat_of_nonneg v.1,Int.toNat_of_nonneg t.1]
 rw[vx a] at h;exact absurd h a
end
section
variable {p:Pl} {s x:St} {k f b g:Nat} {N n:Int}
theorem o9.T(h:o9 p s k f b g N n):jd s k n=tt s (Bv s.ms k) f b g n:=by
 unfold jd;rw[h.m];simp only[Int.toNat_natCast]
theorem Bo(s:St)(b g:Nat)(v:Int)(i j:Nat):((setOn s b g v).on.r i).z j=if i=b/\j=g then v else(s.on.r i).z j:=by
 show(if i=b then ku (s.on.r i) g v else s.on.r i).z j=_;by_cases hi:i=b
 .rw[if_pos hi];show(if j=g then v else(s.on.r i).z j)=_;by_cases a:j=g
  .rw[if_pos a,if_pos ⟨hi,a⟩]
  rw[if_neg a,if_neg (λe=>a e.2)]
 rw[if_neg hi,if_neg (λe=>hi e.1)]
theorem rd(s:St)(b g:Nat)(v:Int)(i:Nat):((setOn s b g v).on.r i).n=(s.on.r i).n:=by
 show(if i=b then ku (s.on.r i) g v else s.on.r i).n=_;by_cases hi:i=b
 .rw[if_pos hi];rfl
 rw[if_neg hi]
theorem Dz(h:o9 p s k f b g N n)(i j:Nat):((jd s k n).on.r i).z j=(s.on.r i).z j+if j=g then(if i=b then n else if i=f then -n else 0) else 0:=by
 have e:=h.ne;rw[h.T,tt,Bo,Bo,show(withMoves s (Bv s.ms k)).on=s.on from rfl];by_cases c:j=g
 .subst c;by_cases a:i=b
  .subst a;simp
  by_cases d:i=f
  .subst d;simp[a];omega
  simp[a,d]
 simp[c]
theorem Xi(h:o9 p s k f b g N n)(i:Nat):((jd s k n).on.r i).n=(s.on.r i).n:=by
 rw[h.T,tt,rd,rd];rfl
theorem Kl(h:o9 p s k f b g N n):(jd s k n).ms=Bv s.ms k:=rfl
theorem Qv{b g:Int}{x s:St}(c:∀i,x.ms.z i=if i<k then s.ms.z i else s.ms.z (i+1)):∀m,(m<=k->az x b g m=az s b g m)/\(k<=m->az x b g m+(if (s.ms.z k).l=b/\(s.ms.z k).o=g then(s.ms.z k).n else 0)=az s b g (m+1))
 | 0=>⟨λ_=>rfl,λh=>by
  rw[show k=0 by omega];simp[az]⟩
 | m+1=>by
  obtain⟨d,p⟩:=Qv (b:=b) (g:=g) c m;refine⟨λh => ?_,λh => ?_⟩
  .have e0:x.ms.z m=s.ms.z m:=by rw[c m];exact if_pos (by omega)
   simp only[az];rw[d (by omega),e0]
  by_cases e:k=m+1
  .have:az x b g (m+1)=az s b g (m+1):=by
    have e0:x.ms.z m=s.ms.z m:=by rw[c m];exact if_pos (by omega)
    simp only[az];rw[d (by omega),e0]
   rw[this,e];simp only[az]
  have a:=p (by omega);have f:az x b g (m+1)=az x b g m+(if (s.ms.z (m+1)).l=b/\(s.ms.z (m+1)).o=g then(s.ms.z (m+1)).n else 0):=by
   have e0:x.ms.z m=s.ms.z (m+1):=by rw[c m];exact if_neg (by omega)
   simp only[az];rw[e0]
  have j:az s b g (m+1+1)=az s b g (m+1)+(if (s.ms.z (m+1)).l=b/\(s.ms.z (m+1)).o=g then(s.ms.z (m+1)).n else 0):=rfl;rw[f,j,<-a];omega
theorem Uw(h:o9 p s k f b g N n)(c j:Nat):az (jd s k n) c j (jd s k n).ms.n+(if f=c/\g=j then N else 0)=az s c j s.ms.n:=by
 have a:=h.kn;have:=(Qv (b:=(c:Int)) (g:=(j:Int)) (x:=jd s k n) (s:=s) (k:=k) (λi=>by rw[Kl h];rfl) (s.ms.n-1)).2 (by omega);rw[show s.ms.n-1+1=s.ms.n by omega,h.m] at this;rw[Kl h];show az (jd s k n) c j (s.ms.n-1)+_=_;rw[<-this]
 congr 1
 by_cases e:f=c/\g=j
 .rw[if_pos e,if_pos (by simp[e.1,e.2])]
 rw[if_neg e,if_neg (by simp;omega)]
theorem Ux(h:o9 p s k f b g N n)(c j:Int):bw (jd s k n) c j (jd s k n).hs.n=bw s c j s.hs.n:=qy (x:=jd s k n) (s:=s) (λ_ _=>rfl) (λ_ _=>rfl)
theorem Ss(h:o9 p s k f b g N n)(c j:Nat):ar (jd s k n) c j=ar s c j+if j=g then(if c=b then n else if c=f then N-n else 0) else 0:=by
 unfold ar;have a:=Uw h c j;have m:=h.ne;rw[Ux h,Dz h,<-a];by_cases d:j=g
 .subst d;by_cases i:c=b
  .subst i;simp[m];omega
  by_cases l:c=f
  .subst l;simp[i];omega
  have q:¬f=c:=λe=>l e.symm;simp[i,l,q]
 have o:¬g=j:=λe=>d e.symm;simp[d,o]
theorem Ot{s:St}{b g:Int}:∀{m:Nat},(∀j,j<m->1<=(s.ms.z j).n/\(s.ms.z j).n<=200)->∀{k:Nat},k<m->(s.ms.z k).l=b->(s.ms.z k).o=g->(s.ms.z k).n<=az s b g m
 | m+1,h,k,hk,h1,h2=>by
  have bd:=(jq (s:=s) (b:=b) (g:=g) (n:=m) λj a=>h j (by omega)).1;by_cases e:k=m
  .subst e;rw[Fu h1 h2];omega
  have c:=Ot (b:=b) (g:=g) (m:=m) (λj a=>h j (by omega)) (k:=k) (by omega) h1 h2;have:=(h m (by omega)).1;simp only[az]
  split<;>omega
theorem Su(h:o9 p s k f b g N n):au p (jd s k n):=by
 have r:=h.r;have F:=r.fm;have o:=h.fn;have u:=h.bn;have x:=h.gn;have n0:=h.n0;have nN:=h.nN;have to:=h.to;have y:=h.ne;have on:N<=(s.on.r f).z g:=by
  have a:=(km (r.goods g x)).2 f o;have b1:=(mr (s:=s) (b:=f) (g:=g) F.holdN).1;have c:=Ot (s:=s) (b:=f) (g:=g) F.moveN h.kn (by rw[h.m]) (by rw[h.m]);rw[h.m] at c;unfold ar at a;have D:N<=az s f g s.ms.n:=c;omega
 have hs:um p (jd s k n).on:=by
  refine⟨F.sh.pl,F.sh.n,λi hi=>by rw[Xi h];exact F.sh.len i hi,λi hi j l => ?_⟩;have q:=F.sh.num i hi j l;rw[Dz h];by_cases d:j=g
  .subst d;by_cases e:i=b
   .subst e;simp;omega
   by_cases t:i=f
   .subst t;simp[e];omega
   simp[e,t];omega
  simp[d];omega
 refine⟨⟨hs,wi (uq F.sh0).1 hs,F.os4,by show s.ms.n-1<=8;have:=F.ms8;omega,F.lns,F.kind,F.line,F.hold,F.home,λi hi => ?_,F.sin,F.son,F.sfn,F.sib,F.sob,F.sfb⟩,λj l => ?_,r.orders⟩
 .have A:i<s.ms.n-1:=hi;rw[Kl h];show lx p (if i<k then s.ms.z i else s.ms.z (i+1))=false
  split
  .exact F.move i (by omega)
  exact F.move (i+1) (by omega)
 obtain⟨a1,w⟩:=km (r.goods j l);refine rm ?_ λi hi => ?_
 .show cu (λi=>((jd s k n).on.r i).z j) s.on.n=s.si.z j-s.so.z j+s.sf.z j;rw[<-a1];by_cases d:j=g
  .have B:=rt (z:=λi=>(s.on.r i).z j) (z':=λi=>(s.on.r i).z j+if i=f then -n else 0) (m:=f) (n := -n) (k:=s.on.n) (by rw[F.sh.n];exact o) λi _=>rfl;have E:=rt (z:=λi=>(s.on.r i).z j+if i=f then -n else 0) (z':=λi=>((jd s k n).on.r i).z j) (m:=b) (n:=n) (k:=s.on.n) (by rw[F.sh.n];exact u) λi _=>by
    rw[Dz h,if_pos d];by_cases e:i=b
    .have v:¬i=f:=by omega
     simp[e]<;>omega
    simp[e]
   omega
  exact re λi _=>by rw[Dz h,if_neg d,Int.add_zero]
 rw[Ss h];have:=w i hi;by_cases d:j=g
 .rw[if_pos d]
  split
  .omega
  split<;>omega
 rw[if_neg d];omega
theorem N3{x t:St}(h:ae x t){k a:Hs}(b:k.n=a.n)(c:∀j,j<k.n->k.z j=a.z j):ae (withMoves x k) (withMoves t a):=⟨h.on,h.os,h.hs,⟨b,c⟩,h.si,h.so,h.sf⟩
theorem Bh(h:o9 p s k f b g N n)(e:ae x s){q:Hs}(a:q.n=s.ms.n-1)(c:∀j,j<q.n->q.z j=(Bv s.ms k).z j):ae (tt x q f b g n) (jd s k n):=by
 rw[h.T];unfold tt;rw[e.num h.r.fm h.fn h.gn,e.num h.r.fm h.bn h.gn];exact xr (xr (N3 e a c) _ _ _) _ _ _
end
def cq(b g:Int)(m:Hd):Bool:=(m.l==b)&&(m.o==g)
def cd(s:St)(b g:Int)(h:Hd):Bool:=(h.b==b)&&(jo s h==g)
def Zz(f:Hd->Bool)(h:Hs)(m:Int):Hs:=⟨h.a,h.n,h.c,lf f h.n m h.z⟩
def cp(f:Hd->Bool)(h:Hs)(m:Int):Hs:=dx (Zz f h m) ru
def pg(s:St):List Hd:=cw s.ms.z s.ms.n
def l6(s:St):List Hd:=cw s.hs.z s.hs.n
def tp(x:Hd)(d:Int):Hd:=⟨x.o,x.l,x.b,x.n+d⟩
def Et(os:Os)(q:Int->Int->Int):Os:=⟨os.a,os.n,os.c,λi=>⟨(os.z i).k,⟨(os.z i).ls.a,(os.z i).ls.n,(os.z i).ls.c,λj=>tp ((os.z i).ls.z j) (q i j)⟩⟩⟩
def ig(s:St)(b g M:Int):Int:=tn (cq b g) M (pg s)
def et(s:St)(b g M:Int):Int->Int->Int:=ky (cd s b g) (ig s b g M) (l6 s)
def i5(s:St)(b g M:Int):St:=⟨s.on,Et s.os (et s b g M),cp (cd s b g) s.hs (ig s b g M),cp (cq b g) s.ms M,s.si,s.so,s.sf⟩
def setFix(s:St)(g:Nat)(x:Int):St:=⟨s.on,s.os,s.hs,s.ms,s.si,s.so,ku s.sf g x⟩
def jn(s:St)(b g:Nat)(seen:Int):St:=setFix (setOn s b g seen) g (s.sf.z g+(seen-(s.on.r b).z g))
def mx(s:St)(b g:Nat):Int:=bw s b g s.hs.n+az s b g s.ms.n
def eu(s:St)(b g:Nat)(seen:Int):Int:=max 0 (mx s b g-seen)
def oe(s:St)(b g:Nat)(seen:Int):St:=jn (i5 s b g (eu s b g seen)) b g seen
def Eu(s:St)(b g:Nat)(seen:Int)(i j:Nat):Int:=et s b g (eu s b g seen) i j
def lu(p:Pl)(s:St)(b g:Nat)(seen:Int):St:=Tw p b (Eu s b g seen) (v7 s) s.os.n (oe s b g seen)
def fc(p:Pl)(s:St)(bin good seen:Int):Int :=
 if ag p s=0 then(if inB bin 0 ((p.nb:Int)-1)&&inB good 0 ((p.ns:Int)-1)&&inB seen 0 200 then(if inB (s.sf.z good.toNat+(seen-(s.on.r bin.toNat).z good.toNat)) (-1048576) 1048576 then 0 else 2) else 3) else ag p s
theorem zh{b g:Int}{m:Hd}:cq b g m=true↔m.l=b/\m.o=g:=by unfold cq;simp
theorem vu{s:St}{b g:Int}{h:Hd}:cd s b g h=true↔h.b=b/\jo s h=g:=by unfold cd;simp
theorem qx(b g:Int):Ky (cq b g):=λ_ _=>rfl
theorem Bd(s:St)(b g:Int):Ky (cd s b g):=λ_ _=>rfl
theorem t9(s:St)(b g:Int):∀n,az s b g n=ff (cq b g) (cw s.ms.z n)
 | 0=>rfl
 | n+1=>by
  show az s b g n+_=ff (cq b g) (cw s.ms.z n)+_;rw[t9 s b g n];by_cases c:(s.ms.z n).l=b/\(s.ms.z n).o=g
  .rw[if_pos c,if_pos (zh.2 c)]
  rw[if_neg c,if_neg (λe=>c (zh.1 e))]
theorem C5(s:St)(b g:Int):∀n,bw s b g n=ff (cd s b g) (cw s.hs.z n)
 | 0=>rfl
 | n+1=>by
  show bw s b g n+_=ff (cd s b g) (cw s.hs.z n)+_;rw[C5 s b g n];by_cases c:(s.hs.z n).b=b/\jo s (s.hs.z n)=g
  .rw[if_pos c,if_pos (vu.2 c)]
  rw[if_neg c,if_neg (λe=>c (vu.1 e))]
theorem Du(z:Nat->Hd)(o l:Int):∀n,keptS z o l n=ff (Ao o l) (cw z n)
 | 0=>rfl
 | n+1=>by
  show keptS z o l n+_=ff (Ao o l) (cw z n)+_;rw[Du z o l n];by_cases c:(z n).o=o/\(z n).l=l
  .rw[if_pos c,if_pos (Ap.2 c)]
  rw[if_neg c,if_neg (λe=>c (Ap.1 e))]
theorem Oh(h:Hs)(bad:Hd->Bool):cw (dx h bad).z (dx h bad).n=(cw h.z h.n).filter (λx => !bad x):=by
 rw[Il,Il,List.filter_reverse]
 congr 1
 exact Ly h bad
theorem Wl{h:Hs}{bad:Hd->Bool}{i:Nat}(hi:i<(dx h bad).n):∃j,j<h.n/\(dx h bad).z i=h.z j/\bad (h.z j)=false:=by
 have a:(dx h bad).z i∈cw (dx h bad).z (dx h bad).n:=Rm hi;rw[Oh,List.mem_filter] at a;obtain⟨j,b,e⟩:=v9 a.1;exact⟨j,b,e.symm,by rw[e];simpa using a.2⟩
theorem ld(f:Hd->Bool)(h:Hs)(m:Int):cw (cp f h m).z (cp f h m).n=flt (im f m (cw h.z h.n)):=by
 unfold cp;rw[Oh];show(cw (lf f h.n m h.z) h.n).filter _=_;rw[Ke]
 rfl
theorem Oc{f:Hd->Bool}{h:Hs}{m:Int}(q:0<=m)(d:∀j,j<h.n->0<=(h.z j).n){i:Nat}(hi:i<(cp f h m).n):∃j,j<h.n/\((cp f h m).z i).o=(h.z j).o/\((cp f h m).z i).l=(h.z j).l/\((cp f h m).z i).b=(h.z j).b/\1<=((cp f h m).z i).n/\((cp f h m).z i).n<=(h.z j).n:=by
 obtain⟨j,a,e,g⟩:=Wl hi;have k:=Fp f h.n m h.z q d j;have p:(cp f h m).z i=lf f h.n m h.z j:=e;have c:ru (lf f h.n m h.z j)=false:=g;rw[p];unfold ru at c;have r:¬(lf f h.n m h.z j).n=0:=by simpa using c
 have:=k.2.1 a;exact⟨j,a,k.1.1,k.1.2.1,k.1.2.2,by omega,k.2.2⟩
theorem Sg{f:Hd->Bool}{h:Hs}{m:Int}(g:0<=m)(b:aw h.n (cz h.z)=false):aw (cp f h m).n (cz (cp f h m).z)=false:=by
 have d:∀j,j<h.n->0<=(h.z j).n:=λj a=>by have:=(cx (ca b j a)).2.2.2;omega
 have k:=Fp f h.n m h.z g d;refine Hz (λi j c a => ?_) λi hi l => ?_
 .have e:∀q,ba ((Zz f h m).z q)=ba (h.z q):=λq=>by
   show ba (lf f h.n m h.z q)=_;unfold ba;rw[(k q).1.1,(k q).1.2.1,(k q).1.2.2]
  rw[e,e];exact mp b i j c a
 have q:=k i;have fn:=cx (ca b i hi);have o:¬(lf f h.n m h.z i).n=0:=by
  have:ru (lf f h.n m h.z i)=false:=l;unfold ru at this
  simpa using this
 have:=q.2.1 hi;show gx (lf f h.n m h.z i)=true;unfold gx;rw[q.1.1,q.1.2.1,q.1.2.2,bq fn.1,bq fn.2.1,bq fn.2.2.1,bq (by omega)]
 rfl
section
variable {p:Pl} {s:St} {b g M:Int}
theorem au.moves0(r:au p s):∀h,h∈pg s->1<=h.n:=λh a=>by
 obtain⟨j,b,e⟩:=v9 a;have:=r.fm.moveN j b;rw[<-e];omega
theorem au.holds0(r:au p s):∀h,h∈l6 s->1<=h.n:=λh a=>by
 obtain⟨j,b,e⟩:=v9 a;have:=r.fm.holdN j b;rw[<-e];omega
theorem au.movesP(r:au p s):vd (pg s):=λh a=>by have:=r.moves0 h a;omega
theorem au.holdsP(r:au p s):vd (l6 s):=λh a=>by have:=r.holds0 h a;omega
theorem mn(r:au p s)(c:0<=M):ig s b g M=M-min M (az s b g s.ms.n)/\0<=ig s b g M:=by
 have e:=(tm (qx b g) r.movesP c).2;have k:=A8 (P:=cq b g) r.movesP;have d:ig s b g M=M-min M (ff (cq b g) (pg s)):=e;rw[t9];have a:ff (cq b g) (cw s.ms.z s.ms.n)=ff (cq b g) (pg s):=rfl;rw[a];omega
theorem Qt(s:St)(b g M:Int)(o l:Int):keptS (i5 s b g M).hs.z o l (i5 s b g M).hs.n=keptS s.hs.z o l s.hs.n-et s b g M o l:=by
 rw[Du,Du];show ff _ (cw (cp (cd s b g) s.hs (ig s b g M)).z (cp (cd s b g) s.hs (ig s b g M)).n)=_;rw[ld,uf,Ir]
 rfl
theorem Am(r:au p s)(a:0<=M)(o l:Int):0<=et s b g M o l/\et s b g M o l<=keptS s.hs.z o l s.hs.n:=by
 have c:=I8 (cd s b g) o l r.holdsP (mn (b:=b) (g:=g) r a).2;refine⟨c,?_⟩;have e:=Qt s b g M o l;have d:0<=ff (Ao o l) (flt (im (cd s b g) (ig s b g M) (l6 s))):=by
  rw[uf];exact A8 (Al _ r.holdsP (mn r a).2)
 rw[Du] at e;have f:ff (Ao o l) (cw (i5 s b g M).hs.z (i5 s b g M).hs.n)=ff (Ao o l) (flt (im (cd s b g) (ig s b g M) (l6 s))):=by
  show ff _ (cw (cp (cd s b g) s.hs (ig s b g M)).z (cp (cd s b g) s.hs (ig s b g M)).n)=_;rw[ld]
  rfl
 omega
theorem Qs(r:au p s)(l:0<=M)(d e:Int):bw (i5 s b g M) d e (i5 s b g M).hs.n=bw s d e s.hs.n-if d=b/\e=g then min (ig s b g M) (bw s b g s.hs.n) else 0:=by
 rw[C5,C5];have i:cd (i5 s b g M) d e=cd s d e:=rfl;rw[i];show ff _ (cw (cp (cd s b g) s.hs (ig s b g M)).z (cp (cd s b g) s.hs (ig s b g M)).n)=_;rw[ld,uf];have j:cw s.hs.z s.hs.n=l6 s:=rfl;rw[j];by_cases c:d=b/\e=g
 .rw[if_pos c,c.1,c.2,(tm (Bd s b g) r.holdsP (mn (b:=b) (g:=g) r l).2).1,C5]
  rfl
 rw[if_neg c,Int.sub_zero];exact Cm (λh k=>by
  cases m:cd s b g h
  .rfl
  have a:=vu.1 k;have f:=vu.1 m;exact absurd ⟨a.1.symm.trans f.1,a.2.symm.trans f.2⟩ c) (Bd s d e) _ _
theorem Qr(r:au p s)(j:0<=M)(d e:Int):az (i5 s b g M) d e (i5 s b g M).ms.n=az s d e s.ms.n-if d=b/\e=g then min M (az s b g s.ms.n) else 0:=by
 rw[t9,t9];show ff _ (cw (cp (cq b g) s.ms M).z (cp (cq b g) s.ms M).n)=_;rw[ld,uf];have l:cw s.ms.z s.ms.n=pg s:=rfl;rw[l];by_cases c:d=b/\e=g
 .rw[if_pos c,c.1,c.2,(tm (qx b g) r.movesP j).1,t9]
  rfl
 rw[if_neg c,Int.sub_zero];exact Cm (λh i=>by
  cases k:cq b g h
  .rfl
  have a:=zh.1 i;have f:=zh.1 k;exact absurd ⟨a.1.symm.trans f.1,a.2.symm.trans f.2⟩ c) (qx d e) _ _
theorem O5(r:au p s){i j:Nat}(hi:i<s.os.n)(e:j<(s.os.z i).ls.n):keptS s.hs.z i j s.hs.n=0\/(s.os.z i).k=1/\((s.os.z i).ls.z j).b+((s.os.z i).ls.z j).n+keptS s.hs.z i j s.hs.n=((s.os.z i).ls.z j).l:=by
 have w:=r.orders i hi;unfold cf at w;rw[Xxq] at w;have a:co (s.os.z i).k ((s.os.z i).ls.z j) (keptS s.hs.z i j s.hs.n)=false:=di w.2 j e;have kd:=r.fm.kind i hi;unfold co at a;by_cases c:(s.os.z i).k=0
 .rw[if_pos c] at a;simp only[Xxq,Bool.not_eq_false',beq_iff_eq] at a;exact Or.inl a.2
 rw[if_neg c] at a;by_cases d:(s.os.z i).k=2
 .rw[if_pos d] at a;simp only[Xxq,Bool.not_eq_false',beq_iff_eq] at a;exact Or.inl a.2
 rw[if_neg d] at a;simp only[Bool.not_eq_false',beq_iff_eq] at a;exact Or.inr ⟨by omega,a⟩
theorem Fq(r:au p s)(u:0<=M):cv p (i5 s b g M):=by
 have f:=r.fm;have x:∀j,j<s.hs.n->0<=(s.hs.z j).n:=λj a=>by have:=f.holdN j a;omega
 have y:∀j,j<s.ms.n->0<=(s.ms.z j).n:=λj a=>by have:=f.moveN j a;omega
 have w:=(mn (b:=b) (g:=g) r u).2;refine⟨f.sh,f.sh0,f.os4,Qzx (yy _ _) f.ms8,f.lns,f.kind,λi hi j a => ?_,Sg w f.hold,λi hi => ?_,λi hi => ?_,f.sin,f.son,f.sfn,f.sib,f.sob,f.sfb⟩
 .obtain⟨b1,b2,b3,b4⟩:=dz (f.line i hi j a);have q:=Am (b:=b) (g:=g) r u i j;have k:=O5 r hi a;show jy p (tp ((s.os.z i).ls.z j) (et s b g M i j))=false;unfold jy tp;rw[bq (by dsimp only;omega),bq (by dsimp only;omega),bq (by dsimp only;omega),bq (by dsimp only;omega)]
  rfl
 .obtain⟨j,a,m,v,t,-,-⟩:=Oc w x hi;have h:=iq (f.home j a);have c:((i5 s b g M).hs.z i).o=(s.hs.z j).o:=m;have d:((i5 s b g M).hs.z i).l=(s.hs.z j).l:=v;have e:((i5 s b g M).hs.z i).b=(s.hs.z j).b:=t;refine pe ?_ ?_ ?_
  .rw[c];exact h.1
  .rw[c,d];exact h.2.1
  rw[e];exact h.2.2
 obtain⟨j,a,m,v,t,A,B⟩:=Oc u y hi;have h:=qn (f.move j a);have c:((i5 s b g M).ms.z i).o=(s.ms.z j).o:=m;have d:((i5 s b g M).ms.z i).l=(s.ms.z j).l:=v;have e:((i5 s b g M).ms.z i).b=(s.ms.z j).b:=t;have E:1<=((i5 s b g M).ms.z i).n:=A;have D:((i5 s b g M).ms.z i).n<=(s.ms.z j).n:=B
 generalize (i5 s b g M).ms.z i=X at *
 unfold lx;rw[c,d,e,bq (by omega),bq (by omega),bq (by omega),bq (by omega)]
 simpa using h.2.2.2.1
theorem T9(r:au p s)(e:0<=M)(i:Nat)(hi:i<s.os.n):cf (i5 s b g M) i=false:=by
 have w:=r.orders i hi;unfold cf at w ⊢;rw[Xxq] at w ⊢;refine⟨w.1,ct λj f => ?_⟩;have a:co (s.os.z i).k ((s.os.z i).ls.z j) (keptS s.hs.z i j s.hs.n)=false:=di w.2 j f;rw[Qt];show co (s.os.z i).k (tp ((s.os.z i).ls.z j) (et s b g M i j)) _=false;have q:=Am (b:=b) (g:=g) r e i j;unfold co tp at *;by_cases d:(s.os.z i).k=0
 .rw[if_pos d] at a ⊢;simp only[Xxq,Bool.not_eq_false',beq_iff_eq] at a ⊢;omega
 rw[if_neg d] at a ⊢;by_cases c:(s.os.z i).k=2
 .rw[if_pos c] at a ⊢;simp only[Xxq,Bool.not_eq_false',beq_iff_eq] at a ⊢;omega
 rw[if_neg c] at a ⊢;simp only[Bool.not_eq_false',beq_iff_eq] at a ⊢;omega
end
section
variable {p:Pl} {s:St} {b g:Nat} {M seen:Int}
theorem Og(r:au p s)(a:0<=M)(c k:Nat):ar (i5 s b g M) c k=ar s c k+if c=b/\k=g then min M (mx s b g) else 0:=by
 have f:=Qs (b:=b) (g:=g) r a c k;have i:=Qr (b:=b) (g:=g) r a c k;have d:=mn (b:=b) (g:=g) r a;have j:=(mr (s:=s) (b:=b) (g:=g) (n:=s.hs.n) r.fm.holdN).1;have l:=(jq (s:=s) (b:=b) (g:=g) (n:=s.ms.n) r.fm.moveN).1;unfold ar mx;rw[f,i];show(s.on.r c).z k-_-_=_;by_cases e:c=b/\k=g
 .rw[if_pos e,if_pos (by omega),if_pos (by omega),d.1];omega
 rw[if_neg e,if_neg (λh=>e (by omega)),if_neg (λh=>e (by omega))];omega
theorem Wj(r:au p s)(a:0<=M):au p (i5 s b g M):=by
 refine⟨Fq r a,λk d => ?_,λi hi=>T9 r a i hi⟩;obtain⟨a1,e⟩:=km (r.goods k d);refine rm a1 λc hc => ?_;rw[Og r a];have:=e c hc;have f:=(mr (s:=s) (b:=b) (g:=g) (n:=s.hs.n) r.fm.holdN).1;have h:=(jq (s:=s) (b:=b) (g:=g) (n:=s.ms.n) r.fm.moveN).1;unfold mx
 split<;>omega
theorem sk(s:St)(b g:Nat)(seen:Int)(i j:Nat):((jn s b g seen).on.r i).z j=if i=b/\j=g then seen else(s.on.r i).z j:=Bo s b g seen i j
theorem Jw(s:St)(b g:Nat)(seen:Int)(c k:Nat):ar (jn s b g seen) c k=ar s c k+if c=b/\k=g then seen-(s.on.r b).z g else 0:=by
 have a:bw (jn s b g seen) c k (jn s b g seen).hs.n=bw s c k s.hs.n:=qy (x:=jn s b g seen) (s:=s) (λ_ _=>rfl) (λ_ _=>rfl);have d:az (jn s b g seen) c k (jn s b g seen).ms.n=az s c k s.ms.n:=ox (x:=jn s b g seen) (s:=s) (λ_ _=>rfl);unfold ar;rw[a,d,sk];by_cases e:c=b/\k=g
 .rw[if_pos e,if_pos e,e.1,e.2];omega
 rw[if_neg e,if_neg e];omega
theorem Sn(r:au p s)(l:b<p.nb)(y:g<p.ns)(x:0<=seen)(w:seen<=200)(o : -1048576<=s.sf.z g+(seen-(s.on.r b).z g)/\s.sf.z g+(seen-(s.on.r b).z g)<=1048576)(v:0<=ar s b g+(seen-(s.on.r b).z g)):au p (jn s b g seen):=by
 have f:=r.fm;have d:um p (jn s b g seen).on:=⟨f.sh.pl,f.sh.n,λi hi=>(rd s b g seen i).trans (f.sh.len i hi),λi hi j a=>by
  rw[sk];have h:=f.sh.num i hi j a;by_cases c:i=b/\j=g
  .rw[if_pos c];omega
  rw[if_neg c];exact h⟩
 refine⟨⟨d,wi (uq f.sh0).1 d,f.os4,f.ms8,f.lns,f.kind,f.line,f.hold,f.home,f.move,f.sin,f.son,f.sfn,f.sib,f.sob,λj a => ?_⟩,λk t => ?_,r.orders⟩
 .show -1048576<=(if j=g then _ else s.sf.z j)/\(if j=g then _ else s.sf.z j)<=1048576;have:=f.sfb j a
  split
  .exact o
  exact this
 obtain⟨a1,u⟩:=km (r.goods k t);refine rm ?_ λc hc => ?_
 .show cu _ s.on.n=s.si.z k-s.so.z k+(if k=g then _ else s.sf.z k);by_cases q:k=g
  .rw[if_pos q];have e:=rt (z:=λi=>(s.on.r i).z k) (z':=λi=>((jn s b g seen).on.r i).z k) (m:=b) (n:=seen-(s.on.r b).z g) (k:=s.on.n) (by rw[f.sh.n];exact l) (λi hi=>by
    rw[sk];by_cases c:i=b
    .rw[if_pos ⟨c,q⟩,if_pos c,c,q];omega
    rw[if_neg (λe=>c e.1),if_neg c,Int.add_zero])
   rw[e,a1,q];show _=_-_+(s.sf.z g+(seen-(s.on.r b).z g));omega
  rw[if_neg q,<-a1];exact s9 λi hi=>by rw[sk,if_neg (λe=>q e.2)]
 rw[Jw];have:=u c hc;by_cases e:c=b/\k=g
 .rw[if_pos e,e.1,e.2];exact v
 rw[if_neg e];omega
structure da(p:Pl)(s:St)(b g:Nat)(seen:Int):Prop where
 r:au p s
 bn:b<p.nb
 gn:g<p.ns
 s0:0<=seen
 s1:seen<=200
 fx : -1048576<=s.sf.z g+(seen-(s.on.r b).z g)/\s.sf.z g+(seen-(s.on.r b).z g)<=1048576
theorem S5{bin good:Int}(h:fc p s bin good seen=0):ag p s=0/\∃b g:Nat,bin=b/\good=g/\da p s b g seen:=by
 unfold fc at h;by_cases c:ag p s=0
 .rw[if_pos c] at h;cases a:(inB bin 0 ((p.nb:Int)-1)&&inB good 0 ((p.ns:Int)-1)&&inB seen 0 200)
  .rw[a,if_neg (by decide)] at h;exact absurd h (by decide)
  rw[a] at h;simp only[Xxx] at a;have j:=aq a.1.1;have f:=aq a.1.2;have d:=aq a.2;cases e:inB (s.sf.z good.toNat+(seen-(s.on.r bin.toNat).z good.toNat)) (-1048576) 1048576
  .rw[e] at h;exact absurd h (by decide)
  have i:=aq e;obtain⟨b,rfl⟩:=Qzz j.1;obtain⟨g,rfl⟩:=Qzz f.1;exact⟨c,b,g,rfl,rfl,ed c,by omega,by omega,d.1,d.2,i⟩
 rw[if_neg c] at h;exact absurd h c
theorem da.miss0(h:da p s b g seen):0<=eu s b g seen:=by unfold eu;omega
theorem da.bound(h:da p s b g seen):0<=mx s b g/\mx s b g=(s.on.r b).z g-ar s b g:=by
 have a:=(mr (s:=s) (b:=b) (g:=g) (n:=s.hs.n) h.r.fm.holdN).1;have c:=(jq (s:=s) (b:=b) (g:=g) (n:=s.ms.n) h.r.fm.moveN).1;unfold mx ar;omega
theorem da.cutAv(h:da p s b g seen):ar (i5 s b g (eu s b g seen)) b g=ar s b g+eu s b g seen:=by
 rw[Og h.r h.miss0,if_pos ⟨rfl,rfl⟩];have:=h.bound;have:=h.s0;unfold eu;omega
theorem da.right(h:da p s b g seen):au p (oe s b g seen):=by
 refine Sn (Wj h.r h.miss0) h.bn h.gn h.s0 h.s1 h.fx ?_;rw[h.cutAv];show 0<=_+(seen-(s.on.r b).z g);have:=h.bound;unfold eu;omega
theorem da.av(h:da p s b g seen):ar (oe s b g seen) b g=max (seen-mx s b g) 0:=by
 unfold oe;rw[Jw,if_pos ⟨rfl,rfl⟩,h.cutAv];show _+(seen-(s.on.r b).z g)=_;have:=h.bound;unfold eu;omega
theorem da.qin(h:da p s b g seen):QIn p b (Eu s b g seen) (oe s b g seen):=by
 refine⟨h.right,λi j hi d => ?_,Or.inr ⟨by omega,by have:=h.bn;omega⟩⟩;have a:i<s.os.n:=hi;have c:j<(s.os.z i).ls.n:=d;have q:=Am (b:=b) (g:=g) (M:=eu s b g seen) h.r h.miss0 i j;refine⟨q.1,?_⟩;have e:=(dz (h.r.fm.line i a j c)).2.2.2;rcases O5 h.r a c with k|k
 .exact Or.inl (by show et s b g (eu s b g seen) i j=0;omega)
 refine Or.inr ⟨k.1,?_⟩;show et s b g (eu s b g seen) i j<=((s.os.z i).ls.z j).n+et s b g (eu s b g seen) i j;omega
theorem da.all(h:da p s b g seen):h9 p b (Eu s b g seen) (v7 s) (oe s b g seen) s.os.n (lu p s b g seen):=Kd h.qin (λ_ _=>rfl) (Nat.le_refl s.os.n)
theorem da.pos(h:da p s b g seen):Pos p b (Eu s b g seen) (oe s b g seen) s.os.n 0 (lu p s b g seen):=h9.pos h.qin (λ_ _=>rfl) (Nat.le_refl s.os.n) h.all
theorem Ed(h:da p s b g seen):au p (lu p s b g seen):=h.pos.al.r
end
section
variable {p:Pl} {s x:St} {b g:Nat} {seen:Int}
theorem Uu(x:Hd):tp x 0=x:=by unfold tp;rw[Int.add_zero]
theorem Lu{f:Hd->Bool}{h:Hs}(a:∀y,y∈cw h.z h.n->1<=y.n):(cp f h 0).n=h.n/\∀j,j<(cp f h 0).n->(cp f h 0).z j=h.z j:=by
 have e:=ld f h 0;rw[Dq f (λy b=>by have:=a y b;omega),Ja a] at e;exact za e
theorem Qu(r:au p s)(b g:Int):ae (i5 s b g 0) s:=by
 have l0:ig s b g 0=0:=by
  have a:=mn (b:=b) (g:=g) r (Int.le_refl 0);have c:=(jq (s:=s) (b:=b) (g:=g) (n:=s.ms.n) r.fm.moveN).1;omega
 have q0:∀o l,et s b g 0 o l=0:=λo l=>by
  unfold et;rw[l0];exact Bm _ _ _ r.holdsP
 refine⟨⟨rfl,λ_ _=>⟨rfl,λ_ _=>rfl⟩⟩,⟨rfl,λi _=>⟨rfl,rfl,λj _ => ?_⟩⟩,?_,Lu r.moves0,⟨rfl,λ_ _=>rfl⟩,⟨rfl,λ_ _=>rfl⟩,⟨rfl,λ_ _=>rfl⟩⟩
 .show tp ((s.os.z i).ls.z j) (et s b g 0 i j)=_;rw[q0,Uu]
 show(cp (cd s b g) s.hs (ig s b g 0)).n=_/\∀j,j<(cp (cd s b g) s.hs (ig s b g 0)).n->(cp (cd s b g) s.hs (ig s b g 0)).z j=_;rw[l0];exact Lu r.holds0
theorem h9.skip{but:Int}{q:Nat->Nat->Int}{m:Nat->Nat}(Q:QIn p but q s)(c:∀a,a<s.os.n->m a=(s.os.z a).ls.n)(d:∀a b,a<s.os.n->b<(s.os.z a).ls.n->q a b=0):∀{i:Nat},i<=s.os.n->h9 p but q m s i s
 | 0,_=>ae.self s
 | i+1,hi=>by
  have T:=h9.skip Q c d (i:=i) (by omega);exact⟨s,T,kt.skip Q (h9.pos Q c (by omega) T) (by omega) (by rw[c i (by omega)];exact Nat.le_refl _) λb e=>d i b (by omega) (by rw[<-c i (by omega)];exact e)⟩
theorem Jr(h:da p s b g seen)(d:eu s b g seen=0):ae (lu p s b g seen) (jn s b g seen):=by
 have Q:=h.qin;have q0:∀a c,a<(oe s b g seen).os.n->c<((oe s b g seen).os.z a).ls.n->Eu s b g seen a c=0:=λa c _ _=>by
  have k:=Am (b:=b) (g:=g) (M:=eu s b g seen) h.r h.miss0 a c;unfold Eu et;rw[d];have l0:ig s b g 0=0:=by
   have e:=mn (b:=b) (g:=g) h.r (Int.le_refl 0);have c:=(jq (s:=s) (b:=b) (g:=g) (n:=s.ms.n) h.r.fm.moveN).1;omega
  rw[l0];exact Bm _ _ _ h.r.holdsP
 have T:=h9.skip (m:=v7 s) Q (λ_ _=>rfl) q0 nlr;have i:ae (lu p s b g seen) (oe s b g seen):=h9.same Q (λ_ _=>rfl) (Nat.le_refl s.os.n) T h.all;refine i.trans ?_;have c:=Qu h.r b g;unfold oe jn;rw[d];have f:((i5 s b g 0).on.r b).z g=(s.on.r b).z g:=rfl;have j:(i5 s b g 0).sf.z g=s.sf.z g:=rfl;rw[f,j];exact⟨⟨rfl,λ_ _=>⟨rfl,λ_ _=>rfl⟩⟩,c.os,c.hs,c.ms,⟨rfl,λ_ _=>rfl⟩,⟨rfl,λ_ _=>rfl⟩,⟨rfl,λ_ _=>rfl⟩⟩
theorem Ug(h:(s.on.r b).z g=seen):ae (jn s b g seen) s:=by
 refine⟨⟨rfl,λi _=>⟨rd s b g seen i,λj _ => ?_⟩⟩,⟨rfl,λ_ _=>⟨rfl,rfl,λ_ _=>rfl⟩⟩,⟨rfl,λ_ _=>rfl⟩,⟨rfl,λ_ _=>rfl⟩,⟨rfl,λ_ _=>rfl⟩,⟨rfl,λ_ _=>rfl⟩,⟨rfl,λj _ => ?_⟩⟩
 .rw[sk];by_cases c:i=b/\j=g
  .rw[if_pos c,c.1,c.2,h]
  rw[if_neg c]
 show(if j=g then s.sf.z g+(seen-(s.on.r b).z g) else s.sf.z j)=s.sf.z j;by_cases c:j=g
 .rw[if_pos c,h,c];omega
 rw[if_neg c]
theorem Ob(h:da p s b g seen):fc p s b g seen=0:=by
 have d:=h.bn;have i:=h.gn;have c:=h.s0;have f:=h.s1;unfold fc;rw[if_pos (j9 h.r),bq (by omega),bq (by omega),bq (by omega)];have e:(Int.toNat (b:Int))=b:=rfl;have a:(Int.toNat (g:Int))=g:=rfl;rw[e,a,bq h.fx]
 rfl
theorem da.onS(h:da p s b g seen)(i j:Nat):((oe s b g seen).on.r i).z j=if i=b/\j=g then seen else(s.on.r i).z j:=sk (i5 s b g (eu s b g seen)) b g seen i j
theorem da.on(h:da p s b g seen)(e:ae x (lu p s b g seen)):x.on.n=s.on.n/\∀i,i<s.on.n->(x.on.r i).n=(s.on.r i).n/\∀j,j<(s.on.r i).n->(x.on.r i).z j=if i=b/\j=g then seen else(s.on.r i).z j:=by
 have a:=h.pos.al.on;have l:x.on.n=s.on.n:=e.on.1.trans a.1;refine⟨l,λi hi => ?_⟩;have c:=e.on.2 i (by rw[l];exact hi);have a1:=a.2 i (by rw[a.1];exact hi);have f:((oe s b g seen).on.r i).n=(s.on.r i).n:=rd (i5 s b g (eu s b g seen)) b g seen i;have d:(x.on.r i).n=(s.on.r i).n:=c.1.trans (a1.1.trans f);refine⟨d,λj k => ?_⟩;rw[c.2 j (by rw[d];exact k),a1.2 j (by rw[a1.1,f];exact k),h.onS]
theorem da.got(h:da p s b g seen)(e:ae x (lu p s b g seen)):x.os.n=s.os.n/\∀o,o<s.os.n->(x.os.z o).ls.n=(s.os.z o).ls.n/\∀k,k<(s.os.z o).ls.n->((x.os.z o).ls.z k).b=((s.os.z o).ls.z k).b:=by
 have a:=h.pos.al;have j:x.os.n=s.os.n:=e.os.1.trans a.osn;refine⟨j,λo d => ?_⟩;have c:=e.os.2 o (by rw[j];exact d);have i:((lu p s b g seen).os.z o).ls.n=(s.os.z o).ls.n:=(a.kind o d).2;refine⟨c.2.1.trans i,λk f => ?_⟩;rw[c.2.2 k (by rw[c.2.1,i];exact f),(a.line o d k f).2.2]
 rfl
theorem da.num(h:da p s b g seen)(e:ae x (lu p s b g seen)):(x.on.r b).z g=seen:=by
 have a:b<s.on.n:=by rw[h.r.fm.sh.n];exact h.bn
 have l:=h.r.fm.sh.len b a;have k:=((h.on e).2 b a).2 g (by rw[l];exact h.gn);rw[k,if_pos ⟨rfl,rfl⟩]
theorem da.again(h:da p s b g seen)(e:ae x (lu p s b g seen)):da p x b g seen/\ae (lu p x b g seen) x:=by
 have c:au p x:=e.right (Ed h);have n:=h.num e;have f:=c.fm.sfb g h.gn;have I:da p x b g seen:=⟨c,h.bn,h.gn,h.s0,h.s1,by rw[n];omega⟩;refine⟨I,?_⟩;have m:eu x b g seen=0:=by
  have k:=I.bound;have a:=(km (c.goods g h.gn)).2 b h.bn;unfold eu;rw[k.2,n];omega
 exact(Jr I m).trans (Ug n)
theorem da.left(h:da p s b g seen)(e:ae x (lu p s b g seen)):ar x b g=max (seen-mx s b g) 0:=by
 rw[e.avail (Ed h).fm h.bn h.gn,(h.pos.al.av b g h.bn h.gn).2 rfl,h.av]
theorem da.more(h:da p s b g seen)(e:ae x (lu p s b g seen))(a:(s.on.r b).z g-ar s b g<=seen):(x.hs.n=s.hs.n/\∀j,j<x.hs.n->x.hs.z j=s.hs.z j)/\x.ms.n=s.ms.n/\∀j,j<x.ms.n->x.ms.z j=s.ms.z j:=by
 have m:eu s b g seen=0:=by
  have k:=h.bound;unfold eu;omega
 have k:=e.trans (Jr h m);exact⟨k.hs,k.ms⟩
theorem Im{h k:Hs}(a:h.n=k.n)(b:∀j,j<h.n->h.z j=k.z j):cw h.z h.n=cw k.z k.n:=by
 rw[<-a];exact ot b
theorem Hx{f g:Hd->Bool}:∀{R:List Hd} {m:Int},(∀x,x∈R->f x=g x)->im f m R=im g m R
 | [],_,_=>rfl
 | h :: R,m,e=>by
  show(if f h then _ else _)=if g h then _ else _;rw[e h List.mem_cons_self,Hx (m:=m-min m h.n) λx hx=>e x (List.mem_cons_of_mem _ hx),Hx (m:=m) λx hx=>e x (List.mem_cons_of_mem _ hx)]
theorem Hy{f g:Hd->Bool}{o l:Int}:∀{R:List Hd} {m:Int},(∀x,x∈R->f x=g x)->ky f m R o l=ky g m R o l
 | [],_,_=>rfl
 | h :: R,m,e=>by
  show(if f h then _ else _)=if g h then _ else _;rw[e h List.mem_cons_self,Hy (m:=m-min m h.n) λx hx=>e x (List.mem_cons_of_mem _ hx),Hy (m:=m) λx hx=>e x (List.mem_cons_of_mem _ hx)]
theorem Oe{y:St}(f:cv p s)(e:ae y s)(b g M:Int):ae (i5 y b g M) (i5 s b g M)/\∀o l,et y b g M o l=et s b g M o l:=by
 have k:pg y=pg s:=Im e.ms.1 e.ms.2;have d:l6 y=l6 s:=Im e.hs.1 e.hs.2;have h:ig y b g M=ig s b g M:=by unfold ig;rw[k]
 have m:∀x,x∈l6 s->cd y b g x=cd s b g x:=λx hx=>by
  obtain⟨j,c,rfl⟩:=v9 hx;obtain⟨u,D,-⟩:=iq (f.home j c);unfold cd jo;rw[e.line u.2 D.2]
 have q:∀o l,et y b g M o l=et s b g M o l:=λo l=>by
  unfold et;rw[h,d];exact Hy m
 have B:cw (cp (cd y b g) y.hs (ig y b g M)).z (cp (cd y b g) y.hs (ig y b g M)).n=cw (cp (cd s b g) s.hs (ig s b g M)).z (cp (cd s b g) s.hs (ig s b g M)).n:=by
  rw[ld,ld,h];have a:cw y.hs.z y.hs.n=cw s.hs.z s.hs.n:=d;have A:im (cd y b g) (ig s b g M) (cw s.hs.z s.hs.n)=im (cd s b g) (ig s b g M) (cw s.hs.z s.hs.n):=Hx m;rw[a,A]
 have v:cw (cp (cq b g) y.ms M).z (cp (cq b g) y.ms M).n=cw (cp (cq b g) s.ms M).z (cp (cq b g) s.ms M).n:=by
  rw[ld,ld];have a:cw y.ms.z y.ms.n=cw s.ms.z s.ms.n:=k;rw[a]
 refine⟨⟨e.on,⟨e.os.1,λi hi => ?_⟩,za B,za v,e.si,e.so,e.sf⟩,q⟩;have r:i<y.os.n:=hi;have w:=e.os.2 i r;refine⟨w.1,w.2.1,λj c => ?_⟩;have t:j<(y.os.z i).ls.n:=c;show tp ((y.os.z i).ls.z j) (et y b g M i j)=tp ((s.os.z i).ls.z j) (et s b g M i j);rw[w.2.2 j t,q]
theorem Uf{a c:St}(e:ae a c){b g:Nat}{seen:Int}(f:(a.on.r b).z g=(c.on.r b).z g)(i:a.sf.z g=c.sf.z g):ae (jn a b g seen) (jn c b g seen):=by
 have k:=xr e b g seen;refine⟨k.on,k.os,k.hs,k.ms,k.si,k.so,⟨k.sf.1,λj h => ?_⟩⟩;have d:j<a.sf.n:=h;show(if j=g then a.sf.z g+(seen-(a.on.r b).z g) else a.sf.z j)=if j=g then c.sf.z g+(seen-(c.on.r b).z g) else c.sf.z j;rw[f,i,e.sf.2 j d]
theorem QIn.same{but:Int}{q h:Nat->Nat->Int}{y:St}(Q:QIn p but q s)(e:ae y s)(i:∀a b,a<s.os.n->b<(s.os.z a).ls.n->h a b=q a b):QIn p but h y:=by
 refine⟨e.right Q.r,λa b g f => ?_,Q.bt⟩;have d:a<s.os.n:=by rw[<-e.os.1];exact g
 have k:=e.os.2 a g;have c:b<(s.os.z a).ls.n:=by rw[<-k.2.1];exact f
 rw[i a b d c,k.1,k.2.2 b f];exact Q.q0 a b d c
end
section
variable {p:Pl} {s x:St} {o l b:Nat} {n:Int}
structure Ep(p:Pl)(s x:St)(o l b:Nat)(n:Int):Prop where
 r:au p x
 osn:x.os.n=s.os.n
 lns:∀i,i<s.os.n->(x.os.z i).ls.n=(s.os.z i).ls.n
 other:∀i,i<s.os.n->∀j,j<(s.os.z i).ls.n->¬(i=o/\j=l)->(x.os.z i).ls.z j=(s.os.z i).ls.z j/\keptS x.hs.z i j x.hs.n=keptS s.hs.z i j s.hs.n
 mine:((x.os.z o).ls.z l).b=((s.os.z o).ls.z l).b+n/\((x.os.z o).ls.z l).o=((s.os.z o).ls.z l).o
 closed:((x.os.z o).k==2) = !aw (x.os.z o).ls.n (λj=>jr ((x.os.z o).ls.z j))
 kind:(x.os.z o).k=1\/(x.os.z o).k=2
 gone:keptV x.hs.n x.hs.z o l b=0
 short:((s.os.z o).ls.z l).n<((x.os.z o).ls.z l).n->∀c:Nat,c<p.nb->¬c=b->ar x c (bp s o l)=0
theorem ae.keptV(h:ae x s)(a b c:Int):Go.Proofs.YtbcacebifpagpagGreat.keptV x.hs.n x.hs.z a b c=Go.Proofs.YtbcacebifpagpagGreat.keptV s.hs.n s.hs.z a b c:=by
 rw[h.hs.1];exact yf (λj d=>h.hs.2 j (by rw[h.hs.1];exact d)) a b c
theorem Ep.same{y:St}(h:Ep p s y o l b n)(e:ae x y)(d:o<s.os.n)(m:l<(s.os.z o).ls.n)(t:bp s o l<p.ns):Ep p s x o l b n:=by
 have g:∀i,i<s.os.n->i<x.os.n:=λi hi=>by rw[e.os.1,h.osn];exact hi
 have f:=e.os.2 o (g o d);have ln:∀i,i<s.os.n->∀j,j<(s.os.z i).ls.n->(x.os.z i).ls.z j=(y.os.z i).ls.z j:=λi hi j a=>e.line (by rw[h.osn];exact hi) (by rw[h.lns i hi];exact a);refine⟨e.right h.r,e.os.1.trans h.osn,λi hi=>(e.os.2 i (g i hi)).2.1.trans (h.lns i hi),λi hi j a q => ?_,?_,?_,?_,?_,λhs c hc k => ?_⟩
 .rw[ln i hi j a,e.kept];exact h.other i hi j a q
 .rw[ln o d l m];exact h.mine
 .rw[f.1,h.closed,f.2.1];exact congrArg not (nz λj a=>by rw[ln o d j (by rw[<-h.lns o d];exact a)])
 .rw[f.1];exact h.kind
 .rw[e.keptV];exact h.gone
 rw[ln o d l m] at hs;rw[e.avail h.r.fm hc t];exact h.short hs c hc k
theorem Ep.sum(h:Ep p s x o l b n)(d:o<x.os.n)(c:l<(x.os.z o).ls.n):((x.os.z o).ls.z l).b+((x.os.z o).ls.z l).n+keptS x.hs.z o l x.hs.n=((x.os.z o).ls.z l).l:=by
 rcases h.kind with k|k
 .exact(Ki h.r d c k).1
 have w:=h.r.orders o d;unfold cf at w;rw[Xxq] at w;have a:co (x.os.z o).k ((x.os.z o).ls.z l) (keptS x.hs.z o l x.hs.n)=false:=di w.2 l c;unfold co at a;rw[k,if_neg (by decide),if_pos rfl] at a;simp only[Xxq,Bool.not_eq_false',beq_iff_eq] at a;omega
end
theorem lg.none{p:Pl}{but:Int}{y x:St}{i j:Nat}{n:Int}(h:ix p y i j n)(e:∀c:Nat,c<p.nb->¬((c:Nat):Int)=but->ar y c ((y.os.z i).ls.z j).o.toNat=0)(T:lg p but y i j n x):ae x y:=by
 have k:=h.tkw (but:=but);have b:∀c,(Tk.go (avT y i j) n (fa p but)).took c=0:=λc=>by
  by_cases a:c∈fa p but
  .have w:=j5.way _ a;have u:=e c.toNat (by omega) (by rw[show((c.toNat:Nat):Int)=c by omega];exact(wo.1 a).2);have v:=k.had _ a;have g:=k.took0 c;have d:avT y i j c=0:=u;rw[d] at v;omega
  exact k.other _ a
 have f:=k.sum;rw[uh λc hc=>b c] at f;exact er.same T (er.congr (er.start (n:=n) h.fm.hold (ae.self y)) (show(Tk.go (avT y i j) n (fa p but)).left=n by omega) b)
section
variable {p:Pl} {s x z:St}
theorem jw.kind(r:au p s)(h:jw p s x){i:Nat}(hi:i<x.os.n):¬(x.os.z i).k=0/\(x.os.z i).ls.n=(s.os.z i).ls.n:=by
 have P:=h.pos r;have hs:i<s.os.n:=by have:=P.al.osn;exact this▸hi
 have k:=P.al.kind i hs;refine⟨λe => ?_,k.2.trans (mi s i).symm⟩;rw[k.1] at e;have a:(g9 s.os.n i (s.os.z i)).k=0:=e;unfold g9 at a;by_cases c:i<s.os.n/\(s.os.z i).k=0
 .rw[if_pos c] at a;cases a
 rw[if_neg c] at a;exact c ⟨hs,a⟩
theorem jw.none(r:au p s)(h:jw p s x){i j:Nat}(hi:i<x.os.n)(d:j<(x.os.z i).ls.n)(b:(x.os.z i).k=1)(e:0<((x.os.z i).ls.z j).n){c:Nat}(hc:c<p.nb):ar x c ((x.os.z i).ls.z j).o.toNat=0:=by
 have P:=h.pos r;have hs:i<s.os.n:=by have:=P.al.osn;exact this▸hi
 have k:=P.al.kind i hs;have a:j<((df s s.os.n).os.z i).ls.n:=by rw[<-k.2];exact d
 have q:pq s i j=(((df s s.os.n).os.z i).ls.z j).n:=if_pos (k.1.symm.trans b);rw[(P.al.line i hs j a).1];exact P.none i j hs a (Or.inl hs) q e c hc (by omega)
theorem Vc(r:au p s)(h:jw p s x):df x x.os.n=x:=by
 unfold df;have e:(λi=>g9 x.os.n i (x.os.z i))=x.os.z:=funext λi=>if_neg (λe=>(h.kind r e.1).1 e.2);rw[e]
theorem jw.again(r:au p s)(h:jw p s x)(k:jw p x z):ae x z:=by
 have m:=(h.pos r).al.r;have e:=Vc r h;have Q:=uz m;have t:∀a,a<(df x x.os.n).os.n->v7 x a=((df x x.os.n).os.z a).ls.n:=λa _=>mi x a;have row:∀i,i<x.os.n->∀y,ae y x->Pos p (-1) (pq x) (df x x.os.n) i 0 y->∀j,j<=(x.os.z i).ls.n->∀d,kt p (-1) (pq x) i y j d->ae d x:=λi hi y o P j=>by
  induction j with
  | zero =>
   intro _ d w;have A:d=y:=w;rw[A];exact o
  | succ j ih =>
   intro q d ⟨u,hu,T⟩;have g:=ih (by omega) u hu;have I:=(kt.pos Q P hi (by rw[<-mi];show j<=(x.os.z i).ls.n;omega) hu).stepIn Q hi (by rw[<-mi];exact q);have b:j<(x.os.z i).ls.n:=by omega
   by_cases f:pq x i j=0
   .rw[f] at I T;exact(lg.zero I.tki T).trans g
   have v:pq x i j=((x.os.z i).ls.z j).n/\(x.os.z i).k=1:=by
    unfold pq at f ⊢;rw[e] at f ⊢;by_cases c:(x.os.z i).k=1
    .rw[if_pos c];exact⟨rfl,c⟩
    rw[if_neg c] at f;exact absurd rfl f
   have q0:=I.n0;refine(lg.none I.tki (λc hc _ => ?_) T).trans g;have B:=(dz (m.fm.line i hi j b)).1;rw[g.line hi b,g.avail m.fm hc (by omega)];exact h.none r hi b v.2 (by omega) hc
 have all:∀i,i<=x.os.n->∀y,h9 p (-1) (pq x) (v7 x) (df x x.os.n) i y->ae y x:=λi=>by
  induction i with
  | zero =>
   intro _ y o;have l:ae y (df x x.os.n):=o;rw[e] at l;exact l
  | succ i ih =>
   intro hi y ⟨u,hu,hr⟩;exact row i (by omega) u (ih (by omega) u hu) (h9.pos Q t (Nat.le_of_succ_le hi) hu) (v7 x i) nlr y hr
 exact(all x.os.n nlr z k).symm
theorem jw.first(r:au p s)(h:jw p s x){a b c d:Nat}(l:a<c)(f:c<s.os.n)(m:b<(s.os.z a).ls.n)(i:d<(s.os.z c).ls.n)(t:(x.os.z a).k=1)(u:¬((x.os.z a).ls.z b).n=0)(j:((x.os.z a).ls.z b).o=((x.os.z c).ls.z d).o):keptS x.hs.z c d x.hs.n=keptS s.hs.z c d s.hs.n:=by
 have P:=h.pos r;have hs:a<s.os.n:=by omega
 have k:=P.al.kind a hs;have e:b<((df s s.os.n).os.z a).ls.n:=by rw[<-mi];exact m
 have g:d<((df s s.os.n).os.z c).ls.n:=by rw[<-mi];exact i
 have q:pq s a b=(((df s s.os.n).os.z a).ls.z b).n:=if_pos (k.1.symm.trans t);have n0:=(Ad P.al.r (by rw[P.al.osn];exact hs) (by rw[k.2];exact e)).1;rw[(P.al.line a hs b e).1,(P.al.line c f d g).1] at j;exact P.first a b hs e c d f g (Or.inl l) (Or.inl f) q (by omega) j
end
theorem Ba(s:St)(o:Nat)(a b c:Int):keptV (dr s o).hs.n (dr s o).hs.z a b c=if a=o then 0 else keptV s.hs.n s.hs.z a b c:=by
 by_cases h:a=o
 .rw[if_pos h];exact(Lx s.hs (λx=>x.o==(o:Int)) (B:=true) (λx d=>by rw[(fh d).1,h];simp)).trans (if_pos rfl)
 rw[if_neg h];exact(Lx s.hs (λx=>x.o==(o:Int)) (B:=false) (λx d=>by rw[(fh d).1];simpa using h)).trans (if_neg (by decide))
theorem Ho{s:St}(d:aw s.hs.n (cz s.hs.z)=false)(o:Nat)(a b:Int):keptS (dr s o).hs.z a b (dr s o).hs.n=if a=o then 0 else keptS s.hs.z a b s.hs.n:=by
 have hx:aw (dr s o).hs.n (cz (dr s o).hs.z)=false:=Ju _ d;rw[<-xf _ a b _ hx,<-xf _ a b _ d];by_cases h:a=o
 .rw[if_pos h];exact uh λc _=>by rw[Ba,if_pos h]
 rw[if_neg h];exact s9 λc _=>by rw[Ba,if_neg h]
theorem D9(s:St)(o i j:Nat):(((dr s o).os.z i).ls.z j).o=((s.os.z i).ls.z j).o/\(((dr s o).os.z i).ls.z j).l=((s.os.z i).ls.z j).l/\(((dr s o).os.z i).ls.z j).b=((s.os.z i).ls.z j).b:=by
 rw[qp];by_cases h:i=o
 .rw[if_pos h];show((if j<_ then vj ((s.os.z i).ls.z j) else(s.os.z i).ls.z j).o=_)/\((if j<_ then vj ((s.os.z i).ls.z j) else(s.os.z i).ls.z j).l=_)/\((if j<_ then vj ((s.os.z i).ls.z j) else(s.os.z i).ls.z j).b=_)
  split<;>exact⟨rfl,rfl,rfl⟩
 rw[if_neg h];exact⟨rfl,rfl,rfl⟩
theorem Hp{s:St}{o j:Nat}(a:j<(s.os.z o).ls.n):(((dr s o).os.z o).ls.z j).n=((s.os.z o).ls.z j).l-((s.os.z o).ls.z j).b:=by
 rw[qp,if_pos rfl];show(if j<_ then vj ((s.os.z o).ls.z j) else(s.os.z o).ls.z j).n=_;rw[if_pos a]
 rfl
theorem yb(s:St)(o i:Nat):((dr s o).os.z i).ls.n=(s.os.z i).ls.n:=by
 rw[qp]
 split<;>rfl
theorem Gz{p:Pl}{s:St}(r:au p s){o:Nat}(w:o<s.os.n):cv p (dr s o):=by
 have f:=r.fm;have hx:aw (dr s o).hs.n (cz (dr s o).hs.z)=false:=Ju _ f.hold;refine⟨f.sh,f.sh0,f.os4,f.ms8,λi hi=>by rw[yb];exact f.lns i hi,λi hi => ?_,λi hi j t => ?_,hx,λi hi => ?_,f.move,f.sin,f.son,f.sfn,f.sib,f.sob,f.sfb⟩
 .rw[qp]
  split
  .exact⟨(by decide:(0:Int)<=2),(by decide:(2:Int)<=2)⟩
  exact f.kind i hi
 .have a:j<(s.os.z i).ls.n:=by rw[<-yb s o];exact t
  obtain⟨b1,b2,b3,b4⟩:=dz (f.line i hi j a);have g:=D9 s o i j;by_cases h:i=o
  .subst h;have e:=Hp (s:=s) a;unfold jy;rw[bq (by omega),bq (by omega),bq (by omega),bq (by omega)]
   rfl
  rw[qp,if_neg h];exact f.line i hi j a
 have e:=(np hx hi (uv _)).1;rw[Ba] at e;have fn:=(cx (ca hx i hi)).2.2.2
 split at e
 .omega
 obtain⟨v,q,-⟩:=rp f.hold (o:=((dr s o).hs.z i).o) (l:=((dr s o).hs.z i).l) (b:=((dr s o).hs.z i).b) (by omega);obtain⟨u,k,m⟩:=fh q;obtain⟨a1,c,d⟩:=iq (f.home _ v);rw[u] at a1 c;rw[k] at c;rw[m] at d;refine pe a1 ⟨c.1,?_⟩ d;rw[yb];exact c.2
theorem Kr{z z':Nat->Int}:∀{k:Nat},(∀i,i<k->z i<=z' i)->cu z k<=cu z' k
 | 0,_=>Int.le_refl _
 | k+1,h=>by
  have:=Kr (k:=k) λi hi=>h i (by omega);have:=h k (by omega);simp only[cu];omega
theorem Sc{p:Pl}{s:St}(r:au p s){o:Nat}(c:o<s.os.n)(b g:Int):bw (dr s o) b g (dr s o).hs.n<=bw s b g s.hs.n:=by
 have f:=r.fm;have fx:=Gz r c;rw[sq b g _ fx.home fx.hold,sq b g _ f.home f.hold];unfold Aq;refine Kr λi hi => ?_;rw[yb];refine Kr λj a => ?_;unfold ko;rw[(D9 s o i j).1,Ba];have d:=(C7 (λj a=>(cx (ca f.hold j a)).2.2.2) (i:Int) (j:Int) b).1
 split
 .split<;>omega
 omega
theorem Qk{p:Pl}{s:St}(r:au p s){o:Nat}(d:o<s.os.n):au p (dr s o):=by
 refine⟨Gz r d,λg q => ?_,λi hi => ?_⟩
 .obtain⟨a1,m⟩:=km (r.goods g q);refine rm a1 λb v => ?_;have A:=Sc r d b g;have t:=m b v;unfold ar at t ⊢;have e:az (dr s o) b g (dr s o).ms.n=az s b g s.ms.n:=ox (x:=dr s o) (s:=s) (λj _=>rfl);rw[e];have l:((dr s o).on.r b).z g=(s.on.r b).z g:=rfl;rw[l];omega
 have f:i<s.os.n:=hi;have w:=r.orders i f;unfold cf at w ⊢;rw[Xxq] at w ⊢;by_cases h:i=o
 .subst h;have y:((dr s i).os.z i).k=2:=by rw[qp,if_pos rfl]
  rw[y];refine⟨rfl,ct λj a => ?_⟩;have c:j<(s.os.z i).ls.n:=by rw[<-yb s i];exact a
  have g:=D9 s i i j;have e:=Hp (s:=s) c;have k:=Ho r.fm.hold i i j;rw[if_pos rfl] at k;unfold co;rw[if_neg (by decide),if_pos rfl,k];simp only[Xxq,Bool.not_eq_false',beq_iff_eq];exact⟨by omega,trivial⟩
 have e:(dr s o).os.z i=s.os.z i:=by rw[qp,if_neg h]
 rw[e];refine⟨w.1,ct λj a => ?_⟩;have u:=di w.2 j a;rw[Ho r.fm.hold,if_neg (by omega)];exact u
theorem zy{p:Pl}{s:St}{order:Int}(h:fq p s order=0):ag p s=0/\(0<=order/\order.toNat<s.os.n)/\¬(s.os.z order.toNat).k=2:=by
 by_cases a:ag p s=0
 .cases b:inB order 0 ((s.os.n:Int)-1)
  .rw[Cy a b] at h;exact absurd h (by decide)
  by_cases c:(s.os.z order.toNat).k=2
  .rw[Cx a b c] at h;exact absurd h (by decide)
  have:=aq b;exact⟨a,by omega,c⟩
 rw[un a] at h;exact absurd h a
structure Ax where
 k:Int
 a:Int
 b:Int
 c:Int
 n:Int
 ls:Hs
def Ax.cells(x:Ax):Array Value:=#[.int .i64 x.k,.int .i64 x.a,.int .i64 x.b,.int .i64 x.c,.int .i64 x.n,.slice x.ls.a x.ls.n x.ls.c]
def Ax.val(x:Ax):Value := .agg x.cells
def doE(p:Pl)(s:St)(x:Ax):Int :=
 if x.k=1 then gt p s x.a x.b x.n else if x.k=2 then gp p s x.ls else if x.k=3 then ag p s else if x.k=4 then fq p s x.a else if x.k=5 then ir p s x.a x.b x.c x.n else if x.k=6 then ag p s else if x.k=7 then fk p s x.a x.n else if x.k=8 then fc p s x.a x.b x.n else 8
def doT(p:Pl)(s:St)(x:Ax):St :=
 if x.k=1 then li s x.a.toNat x.b.toNat x.n else if x.k=2 then kj s x.ls else if x.k=3 then Em p s else if x.k=4 then dr s x.a.toNat else if x.k=5 then pi p s x.a.toNat x.b.toNat x.c.toNat x.n else if x.k=6 then yp p s else if x.k=7 then jd s x.a.toNat x.n else lu p s x.a.toNat x.b.toNat x.n
section
variable {p:Pl} {s:St} {x:Ax}
theorem Yu(P:Int->St->Prop)(q:x.k=1->P (gt p s x.a x.b x.n) (li s x.a.toNat x.b.toNat x.n))(w:x.k=2->P (gp p s x.ls) (kj s x.ls))(o:x.k=3->P (ag p s) (Em p s))(r:x.k=4->P (fq p s x.a) (dr s x.a.toNat))(y:x.k=5->P (ir p s x.a x.b x.c x.n) (pi p s x.a.toNat x.b.toNat x.c.toNat x.n))(v:x.k=6->P (ag p s) (yp p s))(t:x.k=7->P (fk p s x.a x.n) (jd s x.a.toNat x.n))(m:x.k=8->P (fc p s x.a x.b x.n) (lu p s x.a.toNat x.b.toNat x.n))(u:¬x.k=1->¬x.k=2->¬x.k=3->¬x.k=4->¬x.k=5->¬x.k=6->¬x.k=7->¬x.k=8->P 8 (lu p s x.a.toNat x.b.toNat x.n)):P (doE p s x) (doT p s x):=by
 unfold doE doT;by_cases g:x.k=1
 .rw[if_pos g,if_pos g];exact q g
 rw[if_neg g,if_neg g];by_cases j:x.k=2
 .rw[if_pos j,if_pos j];exact w j
 rw[if_neg j,if_neg j];by_cases d:x.k=3
 .rw[if_pos d,if_pos d];exact o d
 rw[if_neg d,if_neg d];by_cases f:x.k=4
 .rw[if_pos f,if_pos f];exact r f
 rw[if_neg f,if_neg f];by_cases h:x.k=5
 .rw[if_pos h,if_pos h];exact y h
 rw[if_neg h,if_neg h];by_cases e:x.k=6
 .rw[if_pos e,if_pos e];exact v e
 rw[if_neg e,if_neg e];by_cases i:x.k=7
 .rw[if_pos i,if_pos i];exact t i
 rw[if_neg i,if_neg i];by_cases l:x.k=8
 .rw[if_pos l];exact m l
 rw[if_neg l];exact u g j d f h e i l
theorem Ml{order line bin n:Int}(h:ir p s order line bin n=0):k9 p s order.toNat line.toNat bin.toNat n:=by
 obtain⟨-,o,l,b,rfl,rfl,rfl,hi⟩:=Mk h;exact hi
theorem J2{k n:Int}(h:fk p s k n=0):∃(f b g:Nat) (N:Int),o9 p s k.toNat f b g N n:=by
 obtain⟨-,i,f,b,g,N,rfl,hi⟩:=Ta h;exact⟨f,b,g,N,hi⟩
theorem Jq{bin good seen:Int}(h:fc p s bin good seen=0):da p s bin.toNat good.toNat seen:=by
 obtain⟨-,b,g,rfl,rfl,hi⟩:=S5 h;exact hi
theorem Zm{bin good n:Int}(h:gt p s bin good n=0):au p (li s bin.toNat good.toNat n):=by
 obtain⟨c,e,f,b,-,a,d⟩:=J4 h;exact Vb (ed c) (by omega) (by omega) b.1 a d
theorem Qw:doE p s x=0->au p s/\au p (doT p s x):=by
 refine Yu (λE T=>E=0->au p s/\au p T) ?_ ?_ ?_ ?_ ?_ ?_ ?_ ?_ ?_
 .exact λ_ h=>⟨ed (U8 h),Zm h⟩
 .exact λ_ h=>⟨ed (Jv h).1,Sm h⟩
 .exact λ_ h=>⟨ed h,Ve (ed h)⟩
 .exact λ_ h=>⟨ed (zy h).1,Qk (ed (zy h).1) (zy h).2.1.2⟩
 .exact λ_ h=>⟨ed (Mk h).1,U5 (Ml h)⟩
 .exact λ_ h=>⟨ed h,(Wp (ed h)).r⟩
 .exact λ_ h=>⟨ed (Ta h).1,by obtain⟨f,b,g,N,hi⟩:=J2 h;exact Su hi⟩
 .exact λ_ h=>⟨ed (S5 h).1,Ed (Jq h)⟩
 exact λ_ _ _ _ _ _ _ _ h=>absurd h (by decide)
theorem Yt(h:doE p s x=0):(doT p s x).os.n<=1000/\(doT p s x).ms.n<=1000/\∀i,i<(doT p s x).os.n->((doT p s x).os.z i).ls.n<=1000:=(Qw h).2.bound
end
theorem aat{y:St}{b:World}(h:Dj y)(a:y.At b)(c:World):y.At c:=by
 obtain⟨e,k,d,f,l,j,g⟩:=h;exact⟨⟨a.on.le,a.on.cap,λi hi=>absurd hi (by omega)⟩,⟨a.os.le,a.os.cap,λi hi=>absurd hi (by omega)⟩,⟨a.hs.le,a.hs.cap,λi hi=>absurd hi (by omega),a.hs.nilc⟩,⟨a.ms.le,a.ms.cap,λi hi=>absurd hi (by omega),a.ms.nilc⟩,⟨a.si.le,a.si.cap,λi hi=>absurd hi (by omega)⟩,⟨a.so.le,a.so.cap,λi hi=>absurd hi (by omega)⟩,⟨a.sf.le,a.sf.cap,λi hi=>absurd hi (by omega)⟩⟩
theorem qd{E:Int}{T y:St}{A:Nat}{b a:World}(h:du E T y)(c:y.At b)(d:E=0->ai A a y):y.At a:=by
 by_cases e:E=0
 .exact(d e).at
 exact aat (h.2 e) c a
theorem Hw{f:Hd->Bool}:∀{R:List Hd} {m:Int},vd R->ff f R<=m->im f (m+1) R=im f m R
 | [],_,_,_=>rfl
 | h :: R,m,p,hs=>by
  have d:=p.head;have b:=A8 (P:=f) p.tail;by_cases c:f h=true
  .have e:∀k,im f k (h :: R)=iz h (min k h.n) :: im f (k-min k h.n) R:=λk=>if_pos c;have a:ff f (h :: R)=ff f R+h.n:=by show _+(if f h then _ else _)=_;rw[if_pos c]
   rw[a] at hs;rw[e,e,show min (m+1) h.n=h.n by omega,show min m h.n=h.n by omega,show m+1-h.n=m-h.n+1 by omega,Hw p.tail (by omega)]
  have e:∀k,im f k (h :: R)=h :: im f k R:=λk=>if_neg c;have a:ff f (h :: R)=ff f R:=by show _+(if f h then _ else _)=_;rw[if_neg c,Int.add_zero]
  rw[a] at hs;rw[e,e,Hw p.tail hs]
theorem yq{f:Hd->Bool}{z:Nat->Hd}:∀{n:Nat},jz f z n=none->ff f (cw z n)=0
 | 0,_=>rfl
 | n+1,h=>by
  have k:=O3 h;have c:f (z n)=false:=k n (by omega);have b:jz f z n=none:=by
   have a:(if f (z n) then some n else jz f z n)=none:=h;rw[if_neg (by rw[c];decide)] at a;exact a
  show ff f (cw z n)+(if f (z n) then(z n).n else 0)=0;rw[yq b,if_neg (by rw[c];decide)]
  rfl
theorem yr{f:Hd->Bool}{z:Nat->Hd}:∀{n k:Nat},(∀x,x∈cw z n->1<=x.n)->jz f z n=some k->1<=ff f (cw z n)
 | 0,_,_,h=>by cases h
 | n+1,k,p,h=>by
  have b:∀x,x∈cw z n->1<=x.n:=λx hx=>p x (List.mem_cons_of_mem _ hx);have d:=A8 (P:=f) (R:=cw z n) λx hx=>by have:=b x hx;omega
  have a:(if f (z n) then some n else jz f z n)=some k:=h;show 1<=ff f (cw z n)+(if f (z n) then(z n).n else 0);by_cases c:f (z n)=true
  .have:=p (z n) List.mem_cons_self;rw[if_pos c];omega
  rw[if_neg c] at a ⊢;have:=yr b a;omega
theorem Mf{f f':Hd->Bool}{z:Nat->Hd}:∀{n:Nat},(∀j,j<n->f' (z j)=f (z j))->jz f' z n=jz f z n
 | 0,_=>rfl
 | n+1,h=>by
  show(if f' (z n) then some n else jz f' z n)=if f (z n) then some n else jz f z n;rw[h n (by omega),Mf (n:=n) λj a=>h j (by omega)]
def uk(h m:Hs)(k:Nat):Prop:=if (h.z k).n=1 then m.n=h.n-1/\(∀i,i<m.n->m.z i=fp h.z k i) else m.n=h.n/\∀i,i<m.n->m.z i=gy h.z k 1 i
theorem uk.rev{f:Hd->Bool}{h m:Hs}{k:Nat}(a:jz f h.z h.n=some k)(c:uk h m k):cw m.z m.n=Ic f (cw h.z h.n):=by
 have l:=Ct a;unfold uk at c;by_cases e:(h.z k).n=1
 .rw[if_pos e] at c;obtain⟨q,d⟩:∃q,h.n=q+1:=⟨h.n-1,by omega⟩;rw[d] at a ⊢;rw[<-Rd a e,show m.n=q by omega];exact ot λj b=>c.2 j (by omega)
 rw[if_neg e] at c;rw[<-Re a e,c.1];exact ot λj b=>c.2 j (by omega)
section
variable {p:Pl} {s x:St} {b g:Nat} {seen J:Int}
def mv(s:St)(b g:Nat)(seen J:Int)(x:St):Prop:=ae x (jn (i5 s b g J) b g seen)
theorem mv.start(r:au p s)(t:b<p.nb)(u:g<p.ns)(h:ae x s):mv s b g seen 0 (jn x b g seen):=by
 have c:=h.trans (Qu r b g).symm;have l:(x.on.r b).z g=(s.on.r b).z g:=h.num r.fm t u;refine⟨⟨c.on.1,λi hi => ?_⟩,c.os,c.hs,c.ms,c.si,c.so,⟨c.sf.1,λj d => ?_⟩⟩
 .have e:i<x.on.n:=hi;have k:=c.on.2 i e;have f:=rd x b g seen i;have m:=rd (i5 s b g 0) b g seen i;have o:((jn x b g seen).on.r i).n=(x.on.r i).n:=f;refine⟨f.trans (k.1.trans m.symm),λj d => ?_⟩;rw[sk,sk,k.2 j (by rw[<-o];exact d)]
 have a:j<x.sf.n:=d;show(if j=g then x.sf.z g+(seen-(x.on.r b).z g) else x.sf.z j)=if j=g then s.sf.z g+(seen-(s.on.r b).z g) else s.sf.z j;rw[h.sf.2 j a,l];by_cases q:j=g
 .rw[if_pos q,if_pos q,<-q,h.sf.2 j a]
 rw[if_neg q,if_neg q]
theorem Wi(r:au p s)(a:0<=J)(c:J<=mx s b g):mx (i5 s b g J) b g=mx s b g-J:=by
 have d:=Qs (b:=b) (g:=g) r a b g;have e:=Qr (b:=b) (g:=g) r a b g;have f:=mn (b:=b) (g:=g) r a;have h:=(mr (s:=s) (b:=b) (g:=g) (n:=s.hs.n) r.fm.holdN).1;have i:=(jq (s:=s) (b:=b) (g:=g) (n:=s.ms.n) r.fm.moveN).1;rw[if_pos ⟨rfl,rfl⟩] at d e;unfold mx at c ⊢;omega
theorem mv.revM(h:mv s b g seen J x):cw x.ms.z x.ms.n=flt (im (cq b g) J (pg s)):=by
 have e:cw x.ms.z x.ms.n=cw (cp (cq b g) s.ms J).z (cp (cq b g) s.ms J).n:=by
  have n:x.ms.n=(cp (cq b g) s.ms J).n:=h.ms.1;rw[n];exact ot λj a=>h.ms.2 j (by rw[n];exact a)
 rw[e,ld]
 rfl
theorem mv.revH(h:mv s b g seen J x):cw x.hs.z x.hs.n=flt (im (cd s b g) (ig s b g J) (l6 s)):=by
 have e:cw x.hs.z x.hs.n=cw (cp (cd s b g) s.hs (ig s b g J)).z (cp (cd s b g) s.hs (ig s b g J)).n:=by
  have n:x.hs.n=(cp (cd s b g) s.hs (ig s b g J)).n:=h.hs.1;rw[n];exact ot λj a=>h.hs.2 j (by rw[n];exact a)
 rw[e,ld]
 rfl
theorem Ni{R:List Hd}(p:vd R):∀y,y∈flt R->1<=y.n:=λy a=>by
 unfold flt at a;rw[List.mem_filter] at a;have:=p y a.1;have b:=a.2;unfold ru at b;simp at b;omega
theorem mv.move(r:au p s)(a:0<=J)(h:mv s b g seen J x){k:Nat}(d:jz (cq b g) x.ms.z x.ms.n=some k){m:Hs}(c:uk x.ms m k):mv s b g seen (J+1) (withMoves x m):=by
 have e:=c.rev d;have s1:=yr (by rw[h.revM];exact Ni (Al _ r.movesP a)) d;rw[h.revM,uf,(tm (qx b g) r.movesP a).1] at s1;have o:J+1<=ff (cq b g) (pg s):=by omega
 rw[h.revM,(Jf (qx b g) r.moves0 a o).1] at e;have l:cw m.z m.n=cw (cp (cq b g) s.ms (J+1)).z (cp (cq b g) s.ms (J+1)).n:=by rw[e,ld];rfl
 have i:=za l;have t:az s b g s.ms.n=ff (cq b g) (pg s):=t9 s b g s.ms.n;have L:ig s b g (J+1)=ig s b g J:=by
  have a1:=(mn (b:=b) (g:=g) r a).1;have q:=(mn (b:=b) (g:=g) (M:=J+1) r (by omega)).1;omega
 have eq:et s b g (J+1)=et s b g J:=by unfold et;rw[L]
 have f:(jn (i5 s b g (J+1)) b g seen).os=(jn (i5 s b g J) b g seen).os:=by
  show Et s.os (et s b g (J+1))=Et s.os (et s b g J);rw[eq]
 have j:(jn (i5 s b g (J+1)) b g seen).hs=(jn (i5 s b g J) b g seen).hs:=by
  show cp (cd s b g) s.hs (ig s b g (J+1))=cp (cd s b g) s.hs (ig s b g J);rw[L]
 exact⟨h.on,by rw[f];exact h.os,by rw[j];exact h.hs,i,h.si,h.so,h.sf⟩
theorem mv.noMove(r:au p s)(a:0<=J)(h:mv s b g seen J x)(c:jz (cq b g) x.ms.z x.ms.n=none):ff (cq b g) (pg s)<=J/\ig s b g (J+1)=ig s b g J+1:=by
 have e:=yq c;rw[h.revM,uf,(tm (qx b g) r.movesP a).1] at e;have f:az s b g s.ms.n=ff (cq b g) (pg s):=t9 s b g s.ms.n;have a1:=(mn (b:=b) (g:=g) r a).1;have d:=(mn (b:=b) (g:=g) (M:=J+1) r (by omega)).1;have i:=(jq (s:=s) (b:=b) (g:=g) (n:=s.ms.n) r.fm.moveN).1;omega
theorem mv.good(r:au p s)(q:0<=J)(h:mv s b g seen J x){j:Nat}(d:j<x.hs.n):cd x b g (x.hs.z j)=cd s b g (x.hs.z j):=by
 have f:=Fq (b:=b) (g:=g) r q;have m:x.hs.n=(i5 s b g J).hs.n:=h.hs.1;have e:x.hs.z j=(i5 s b g J).hs.z j:=h.hs.2 j d;obtain⟨a,c,-⟩:=iq (f.home j (by rw[<-m];exact d));rw[<-e] at a c;have k:=h.line (i:=(x.hs.z j).o.toNat) (j:=(x.hs.z j).l.toNat) a.2 c.2;unfold cd
 congr 2
 unfold jo;rw[k]
 rfl
theorem mv.hold(r:au p s)(A:0<=J)(h:mv s b g seen J x)(S:jz (cq b g) x.ms.z x.ms.n=none){k:Nat}(Y:jz (cd x b g) x.hs.z x.hs.n=some k){m:Hs}(c:uk x.hs m k){o l:Nat}(P:(x.hs.z k).o=o)(T:(x.hs.z k).l=l):mv s b g seen (J+1) (setLine (withHolds x m) o l 3 (((x.os.z o).ls.z l).n+1))/\∀a d:Int,et s b g (J+1) a d=et s b g J a d+if a=o/\d=l then 1 else 0:=by
 obtain⟨U,L⟩:=h.noMove r A S;have B:=(mn (b:=b) (g:=g) r A).2;have t:jz (cd s b g) x.hs.z x.hs.n=some k:=by rw[<-Y];exact(Mf λj q=>h.good r A q).symm
 have e:=c.rev t;have s1:=yr (by rw[h.revH];exact Ni (Al _ r.holdsP B)) t;rw[h.revH,uf,(tm (Bd s b g) r.holdsP B).1] at s1;have hJ:ig s b g J+1<=ff (cd s b g) (l6 s):=by omega
 obtain⟨o1,G,W,V⟩:=Jf (Bd s b g) r.holds0 B hJ;rw[h.revH,o1] at e;have X:cw m.z m.n=cw (cp (cd s b g) s.hs (ig s b g (J+1))).z (cp (cd s b g) s.hs (ig s b g (J+1))).n:=by rw[e,ld,L];rfl
 have e3:=za X;have E:(cw x.hs.z x.hs.n).find? (cd s b g)=some (x.hs.z k):=by rw[O2,t];rfl
 rw[h.revH,W] at E;have D:G=x.hs.z k:=by simpa using E
 have Q:∀a d:Int,et s b g (J+1) a d=et s b g J a d+if a=o/\d=l then 1 else 0:=λa d=>by
  unfold et;rw[L,V,D,P,T];by_cases u:a=o/\d=l
  .rw[if_pos u,if_pos ⟨u.1.symm,u.2.symm⟩]
  rw[if_neg u,if_neg (λv=>u ⟨v.1.symm,v.2.symm⟩)]
 refine⟨⟨h.on,⟨h.os.1,λi hi => ?_⟩,e3,?_,h.si,h.so,h.sf⟩,Q⟩;rotate_left
 .have M:cw (cp (cq b g) s.ms (J+1)).z (cp (cq b g) s.ms (J+1)).n=cw (cp (cq b g) s.ms J).z (cp (cq b g) s.ms J).n:=by
   have K:cw s.ms.z s.ms.n=pg s:=rfl;rw[ld,ld,K,Hw r.movesP U]
  have y:=za M;have H:x.ms.n=(cp (cq b g) s.ms J).n:=h.ms.1;refine⟨?_,λj q => ?_⟩
  .show x.ms.n=(cp (cq b g) s.ms (J+1)).n;rw[H,y.1]
  have f:j<x.ms.n:=q;show x.ms.z j=(cp (cq b g) s.ms (J+1)).z j;rw[y.2 j (by rw[y.1,<-H];exact f)];exact h.ms.2 j f
 have F:i<x.os.n:=hi;have w:=h.os.2 i F;rw[rb,(dm i).1];refine⟨w.1,w.2.1,λj q => ?_⟩;rw[ou];have f:j<(x.os.z i).ls.n:=q;have v:(x.os.z i).ls.z j=tp ((s.os.z i).ls.z j) (et s b g J i j):=w.2.2 j f;show(if i=o/\j=l then Gn ((x.os.z i).ls.z j) 3 _ else(x.os.z i).ls.z j)=tp ((s.os.z i).ls.z j) (et s b g (J+1) i j);rw[Q];by_cases u:i=o/\j=l
 .rw[if_pos u,if_pos ⟨by omega,by omega⟩,<-u.1,<-u.2,v];show(⟨_,_,_,_+1⟩:Hd)=⟨_,_,_,_+(_+1)⟩;unfold tp;rw[Int.add_assoc]
 rw[if_neg u,if_neg (λe=>u ⟨by omega,by omega⟩),v,Int.add_zero]
end
structure yj(x y:Ax):Prop where
 k:x.k=y.k
 a:x.a=y.a
 b:x.b=y.b
 c:x.c=y.c
 n:x.n=y.n
 ln:x.ls.n=y.ls.n
 lz:∀j,j<y.ls.n->x.ls.z j=y.ls.z j
theorem yj.self(x:Ax):yj x x:=⟨rfl,rfl,rfl,rfl,rfl,rfl,λ_ _=>rfl⟩
section
variable {p:Pl} {s y:St}
theorem U7(r:au p s)(e:ae y s)(bin good n:Int):gt p y bin good n=gt p s bin good n:=by
 unfold gt;rw[if_pos (j9 (e.right r)),if_pos (j9 r)];cases h:(inB bin 0 ((p.nb:Int)-1)&&inB good 0 ((p.ns:Int)-1)&&inB n 1 200)
 .rfl
 simp only[Xxx] at h;have c:=aq h.1.1;have d:=aq h.1.2;have a:bin.toNat<p.nb:=by omega
 have b:good.toNat<p.ns:=by omega
 rw[e.free r.fm a,e.lying r.fm a b,e.si.2 good.toNat (by rw[e.si.1,r.fm.sin];exact b)]
theorem U9(r:au p s)(e:ae y s){b g:Nat}(c:b<p.nb)(a:g<p.ns)(n:Int):ae (li y b g n) (li s b g n):=by
 unfold li;rw[e.num r.fm c a,e.si.2 g (by rw[e.si.1,r.fm.sin];exact a)];exact Gp (xr e _ _ _) _ _
theorem Sk(r:au p s)(e:ae y s){l a:Hs}(d:a.n=l.n)(c:∀j,j<l.n->a.z j=l.z j):gp p y a=gp p s l:=by
 unfold gp;rw[if_pos (j9 (e.right r)),if_pos (j9 r),e.os.1,d,nz (f:=λj=>tj p (a.z j)) (g:=λj=>tj p (l.z j)) λj b=>by rw[c j b],nz (f:=λj=>o6 (a.z j)) (g:=λj=>o6 (l.z j)) λj b=>by rw[c j b]]
theorem Sl(e:ae y s){l a:Hs}(g:a.n=l.n)(k:∀j,j<l.n->a.z j=l.z j):ae (kj y a) (kj s l):=by
 refine⟨e.on,⟨by show y.os.n+1=s.os.n+1;rw[e.os.1],λi hi => ?_⟩,e.hs,e.ms,e.si,e.so,e.sf⟩;have o:i<y.os.n+1:=hi;by_cases c:i=y.os.n
 .have d:i=s.os.n:=c.trans e.os.1;have b:(kj y a).os.z i=⟨0,a⟩:=if_pos c;have f:(kj s l).os.z i=⟨0,l⟩:=if_pos d;rw[b,f];exact⟨rfl,g,λj m=>k j (by rw[<-g];exact m)⟩
 have d:¬i=s.os.n:=λh=>c (h.trans e.os.1.symm);have b:(kj y a).os.z i=y.os.z i:=if_neg c;have f:(kj s l).os.z i=s.os.z i:=if_neg d;rw[b,f];exact e.os.2 i (by omega)
theorem Qj(r:au p s)(e:ae y s)(o:Int):fq p y o=fq p s o:=by
 unfold fq;rw[if_pos (j9 (e.right r)),if_pos (j9 r),e.os.1];cases h:inB o 0 ((s.os.n:Int)-1)
 .rfl
 have a:=aq h;rw[(e.os.2 o.toNat (by rw[e.os.1];omega)).1]
theorem G5(e:ae y s){o l:Nat}(b:o<s.os.n)(a:l<(s.os.z o).ls.n):bp y o l=bp s o l:=by
 unfold bp;rw[e.line b a]
theorem Uz(r:au p s)(e:ae y s)(order line bin n:Int):ir p y order line bin n=ir p s order line bin n:=by
 have c:dy y order line bin=dy s order line bin:=e.keptV _ _ _;unfold ir;rw[if_pos (j9 (e.right r)),if_pos (j9 r),c];by_cases h:dy s order line bin=0
 .rw[if_pos h,if_pos h]
 rw[if_neg h,if_neg h];obtain⟨o,l,b,rfl,rfl,rfl,hi⟩:=Mb r h;have g:=hi.good;have a:bp y (o:Int).toNat (l:Int).toNat=bp s (o:Int).toNat (l:Int).toNat:=G5 e hi.on hi.ln;have d:y.so.z (bp s (o:Int).toNat (l:Int).toNat)=s.so.z (bp s (o:Int).toNat (l:Int).toNat):=e.so.2 _ (by rw[e.so.1,r.fm.son];exact g.2);rw[a,d]
theorem Ol{α:Type}{f g:α->Bool}:∀{l:List α},(∀x,x∈l->f x=g x)->l.find? f=l.find? g
 | [],_=>rfl
 | a :: l,h=>by
  rw[List.find?_cons,List.find?_cons,h a List.mem_cons_self,Ol λx hx=>h x (List.mem_cons_of_mem _ hx)]
theorem Sj{h k:Hs}(c:h.n=k.n)(a:∀j,j<h.n->h.z j=k.z j)(o l b:Int)(g:0<k.n):(mm h o l b).n=(mm k o l b).n/\∀j,j<(mm h o l b).n->(mm h o l b).z j=(mm k o l b).z j:=by
 have e:jg h.n h.z o l b=jg k.n k.z o l b:=by
  unfold jg;rw[c,Ol λi hi=>by rw[a i (by rw[c];exact List.mem_range.1 hi)]]
 refine⟨by show h.n-1=k.n-1;rw[c],λj d => ?_⟩;have f:j<h.n-1:=d;show fp h.z (jg h.n h.z o l b) j=fp k.z (jg k.n k.z o l b) j;rw[e];unfold fp;rw[a j (by omega),a (j+1) (by omega)]
theorem U1(e:ae y s){o l b:Nat}{n:Int}(a:nw p s o l b):ae (cg y o l b n) (cg s o l b n):=by
 have f:dy y o l b=dy s o l b:=e.keptV _ _ _;have g:=G5 e a.on a.ln;have c:0<s.hs.n:=by
  apply Classical.byContradiction
  intro h;have i:s.hs.n=0:=by omega
  exact a.kp (by unfold dy;rw[i];rfl)
 have d:=Sj e.hs.1 e.hs.2 o l b c;have k:=Gc e (n:=n) a d.1 d.2;rw[<-g,<-f] at k;exact k
theorem U2(e:ae y s){o l b:Nat}{n:Int}(h:k9 p s o l b n):ae (pi p y o l b n) (pi p s o l b n):=by
 have S:=U1 (n:=n) e h.hd;have a:dy y o l b=dy s o l b:=e.keptV _ _ _;have g:=Ef S (o:=o) h.hd.on;unfold pi;rw[g,a];by_cases c:j6 (cg s o l b n) o=true
 .rw[if_pos c,if_pos c];exact F0 S _ _
 rw[if_neg c,if_neg c];have T:=h.takeIn;exact lg.same T S (xu T) (xu (T.same S))
theorem Q2(r:au p s)(e:ae y s){b g f:Nat}(a:b<p.nb)(h:g<p.ns)(d:f<p.nb):ae (nl p b g f y) (nl p b g f s):=by
 unfold nl;rw[Ft e r.fm a h d,e.ms.1];by_cases c:s.ms.n<8/\1<=o5 p s b g f
 .rw[if_pos c,if_pos c];exact Cv e _ (k:=(iw y ⟨g,f,b,o5 p s b g f⟩).ms) rfl (λj i=>if_neg (by omega)) (if_pos rfl)
 rw[if_neg c,if_neg c];exact e
theorem Ud{s0:St}{b g:Nat}(a:b<p.nb)(d:(p.zb b).front=true)(c:g<p.ns)(L:List (yx p false)):∀{s y:St},gh p s0 s->ae y s->ae (jl p b g L y) (jl p b g L s):=by
 induction L with
 | nil=>exact λ_ e=>e
 | cons f L ih=>exact λE e=>ih (E.step a d c f.2.1 f.2.2) (Q2 E.r e a c f.2.1)
theorem L8{s0:St}{b:Nat}(c:b<p.nb)(a:(p.zb b).front=true){s y:St}(E:gh p s0 s)(e:ae y s):∀{g:Nat},g<=p.ns->ae (i7 p b g y) (i7 p b g s)
 | 0,_=>e
 | g+1,hg=>by
  have d:=L8 c a E e (g:=g) (by omega);have f:=E.G c a (g:=g) (by omega);simp only[i7];rw[d.lying f.r.fm c (by omega)]
  split
  .exact d
  exact Ud c a (by omega) _ f d
theorem Uc{s0:St}(L:List (yx p true)):∀{s y:St},gh p s0 s->ae y s->ae (mf p L y) (mf p L s):=by
 induction L with
 | nil=>exact λ_ e=>e
 | cons b L ih=>exact λE e=>ih (E.G b.2.1 b.2.2 nlr) (L8 b.2.1 b.2.2 E e nlr)
theorem Ue(r:au p s)(e:ae y s):ae (yp p y) (yp p s):=Uc _ (gh.refl r) e
theorem Sq(r:au p s)(e:ae y s)(k n:Int):fk p y k n=fk p s k n:=by
 unfold fk;rw[if_pos (j9 (e.right r)),if_pos (j9 r),e.ms.1];cases h:inB k 0 ((s.ms.n:Int)-1)
 .rfl
 have i:=aq h;have a:k.toNat<s.ms.n:=by omega
 obtain⟨d,c,f,-⟩:=qn (r.fm.move k.toNat a);rw[e.ms.2 k.toNat (by rw[e.ms.1];exact a),e.num r.fm (b:=(s.ms.z k.toNat).b.toNat) (g:=(s.ms.z k.toNat).o.toNat) (by omega) (by omega)]
theorem Sr(e:ae y s){k f b g:Nat}{N n:Int}(h:o9 p s k f b g N n):ae (jd y k n) (jd s k n):=by
 have i:=h.kn;have a:y.ms.z k=⟨g,f,b,N⟩:=(e.ms.2 k (by rw[e.ms.1];exact i)).trans h.m;have d:jd y k n=tt y (Bv y.ms k) f b g n:=by
  unfold jd;rw[a];simp only[Int.toNat_natCast]
 rw[d];refine Bh h e (by show y.ms.n-1=_;rw[e.ms.1]) λj c => ?_;have l:j<y.ms.n-1:=c;show(if j<k then y.ms.z j else y.ms.z (j+1))=if j<k then s.ms.z j else s.ms.z (j+1);rw[e.ms.2 j (by omega),e.ms.2 (j+1) (by omega)]
theorem Se(r:au p s)(e:ae y s)(bin good seen:Int):fc p y bin good seen=fc p s bin good seen:=by
 unfold fc;rw[if_pos (j9 (e.right r)),if_pos (j9 r)];cases h:(inB bin 0 ((p.nb:Int)-1)&&inB good 0 ((p.ns:Int)-1)&&inB seen 0 200)
 .rfl
 simp only[Xxx] at h;have c:=aq h.1.1;have d:=aq h.1.2;have b:bin.toNat<p.nb:=by omega
 have a:good.toNat<p.ns:=by omega
 rw[e.num r.fm b a,e.sf.2 good.toNat (by rw[e.sf.1,r.fm.sfn];exact a)]
theorem Sf(e:ae y s){b g:Nat}{seen:Int}(h:da p s b g seen):ae (lu p y b g seen) (lu p s b g seen):=by
 have r:=h.r;have d:(y.on.r b).z g=(s.on.r b).z g:=e.num r.fm h.bn h.gn;have k:y.sf.z g=s.sf.z g:=e.sf.2 g (by rw[e.sf.1,r.fm.sfn];exact h.gn);have l:da p y b g seen:=⟨e.right r,h.bn,h.gn,h.s0,h.s1,by rw[d,k];exact h.fx⟩;have f:eu y b g seen=eu s b g seen:=by unfold eu mx;rw[e.held r.fm,e.from]
 have c:=Oe r.fm e b g (eu s b g seen);have S:ae (oe y b g seen) (oe s b g seen):=by
  unfold oe;rw[f];exact Uf c.1 d k
 refine h9.same h.qin (λ_ _=>rfl) (Nat.le_refl s.os.n) h.all ?_;have a:=l.all;rw[e.os.1] at a;refine h9.base (m':=v7 y) S (λ_ _=>rfl) (λi hi => ?_) (λi j _ _ => ?_) (Nat.le_refl s.os.n) a
 .exact(e.os.2 i (by rw[e.os.1];exact hi)).2.1
 show et y b g (eu y b g seen) i j=et s b g (eu s b g seen) i j;rw[f,c.2]
theorem aak{x t:Ax}(r:au p s)(e:ae y s)(a:yj t x):doE p y t=doE p s x/\(doE p s x=0->ae (doT p y t) (doT p s x)):=by
 obtain⟨L,G,J,F,K,D⟩:=t;obtain⟨B,w,ab,A,z,o,q⟩:=a;simp only at B w ab A z o q;subst B w ab A z;have hs:ag p y=0:=j9 (e.right r);have v:ag p s=0:=j9 r;unfold doE doT;dsimp only;by_cases m:x.k=1
 .rw[if_pos m,if_pos m,if_pos m,if_pos m];refine⟨U7 r e _ _ _,λh => ?_⟩;obtain⟨-,H,E,-⟩:=J4 h;exact U9 r e (by omega) (by omega) _
 rw[if_neg m,if_neg m,if_neg m,if_neg m];by_cases l:x.k=2
 .rw[if_pos l,if_pos l,if_pos l,if_pos l];exact⟨Sk r e o q,λ_=>Sl e o q⟩
 rw[if_neg l,if_neg l,if_neg l,if_neg l];by_cases c:x.k=3
 .rw[if_pos c,if_pos c,if_pos c,if_pos c];exact⟨hs.trans v.symm,λ_=>Xo r e⟩
 rw[if_neg c,if_neg c,if_neg c,if_neg c];by_cases j:x.k=4
 .rw[if_pos j,if_pos j,if_pos j,if_pos j];exact⟨Qj r e _,λh=>Ea e (by rw[e.os.1];exact(zy h).2.1.2)⟩
 rw[if_neg j,if_neg j,if_neg j,if_neg j];by_cases n:x.k=5
 .rw[if_pos n,if_pos n,if_pos n,if_pos n];exact⟨Uz r e _ _ _ _,λh=>U2 e (Ml h)⟩
 rw[if_neg n,if_neg n,if_neg n,if_neg n];by_cases d:x.k=6
 .rw[if_pos d,if_pos d,if_pos d,if_pos d];exact⟨hs.trans v.symm,λ_=>Ue r e⟩
 rw[if_neg d,if_neg d,if_neg d,if_neg d];by_cases i:x.k=7
 .rw[if_pos i,if_pos i,if_pos i,if_pos i];exact⟨Sq r e _ _,λh=>by obtain⟨f,b,g,N,hi⟩:=J2 h;exact Sr e hi⟩
 rw[if_neg i,if_neg i,if_neg i,if_neg i];by_cases u:x.k=8
 .rw[if_pos u,if_pos u];exact⟨Se r e _ _ _,λh=>Sf e (Jq h)⟩
 rw[if_neg u,if_neg u];exact⟨rfl,λh=>absurd h (by decide)⟩
end
def hdN(l:Hd):List Int:=[l.o,l.l,l.b,l.n]
def z6(x:Ax):List Int:=[x.k,x.a,x.b,x.c,x.n,(x.ls.n:Int)]
def ss(z:Nat->Hd):Nat->List Int
 | 0=>[]
 | n+1=>ss z n++hdN (z n)
theorem F4(z:Nat->Hd):∀n,(ss z n).length=4*n
 | 0=>rfl
 | n+1=>by rw[ss,List.length_append,F4 z n];simp[hdN];omega
def Fh(x:Ax):List Int:=z6 x++ss x.ls.z x.ls.n
theorem Yk(x:Ax):(Fh x).length=6+4*x.ls.n:=by
 unfold Fh;rw[List.length_append,F4]
 rfl
def wu(x:Ax):Int:=if (Fh x).any sv then 3 else if 3<x.ls.n then 2 else 0
def ab1(x:Ax):List UInt8:=(Fh x).map zw
def I4(x:Ax):List UInt8:=if wu x=0 then ab1 x else []
def rdL(t:List UInt8)(i:Nat):Hd:=⟨rdN t i,rdN t (i+1),rdN t (i+2),rdN t (i+3)⟩
def rdC(t:List UInt8)(k:Nat):Nat:=(rdN t (k+5)).toNat
theorem abu(t:List UInt8)(k:Nat):(rdC t k:Int)=rdN t (k+5):=by
 have:=Xl t (k+5);unfold rdC;omega
def rdZ(t:List UInt8)(k j:Nat):Hd:=if j<rdC t k then rdL t (k+6+4*j) else ⟨0,0,0,0⟩
theorem abv{t:List UInt8}{k j:Nat}(h:j<rdC t k):rdZ t k j=rdL t (k+6+4*j):=if_pos h
def rdA(t:List UInt8)(k:Nat):Ax:=⟨rdN t k,rdN t (k+1),rdN t (k+2),rdN t (k+3),rdN t (k+4),⟨none,rdC t k,0,rdZ t k⟩⟩
def o8(t:List UInt8)(k:Nat):Nat:=6+4*rdC t k
def vg(t:List UInt8)(k:Nat):Bool:=decide (k+6<=t.length)&&decide (rdC t k<=3)&&decide (k+o8 t k<=t.length)
theorem Dc{t:List UInt8}{k:Nat}:vg t k=true↔k+6<=t.length/\rdC t k<=3/\k+o8 t k<=t.length:=by
 unfold vg;simp only[Xxx,decide_eq_true_eq,and_assoc]
def y9(t:List UInt8):Nat->Nat->List Ax × Nat
 | 0,k=>([],k)
 | f+1,k=>if vg t k then(rdA t k :: (y9 t f (k+o8 t k)).1,(y9 t f (k+o8 t k)).2) else([],k)
theorem Rl{t:List UInt8}{f k:Nat}(h:vg t k=true):y9 t (f+1) k=(rdA t k :: (y9 t f (k+o8 t k)).1,(y9 t f (k+o8 t k)).2):=by rw[y9,if_pos h]
theorem Tf{t:List UInt8}{f k:Nat}(h:vg t k=false):y9 t f k=([],k):=by
 cases f with
 | zero=>rfl
 | succ f=>rw[y9,if_neg (by rw[h];decide)]
def Gj(t:List UInt8):Int:=if 4096<t.length then 2 else 0
def pr(t:List UInt8):List Ax:=if 4096<t.length then [] else(y9 t 60 0).1
def Ik(t:List UInt8):Nat:=if 4096<t.length then 0 else(y9 t 60 0).2
theorem Rk(t:List UInt8):∀f k,(y9 t f k).1.length<=f
 | 0,_=>Nat.le_refl _
 | f+1,k=>by
  cases h:vg t k
  .rw[Tf h];exact Qxz _
  rw[Rl h];have:=Rk t f (k+o8 t k);simp only[List.length_cons];omega
theorem Zn(t:List UInt8):(pr t).length<=60:=by
 unfold pr;by_cases h:4096<t.length
 .rw[if_pos h];exact Qxz _
 rw[if_neg h];exact Rk _ _ _
def vh(p:Pl)(s:St)(x:Ax):St:=if doE p s x=0 then doT p s x else s
def qr(p:Pl)(s:St)(l:List Ax):St:=l.foldl (vh p) s
theorem Js{p:Pl}{s:St}{x:Ax}(r:au p s):au p (vh p s x):=by
 unfold vh;by_cases h:doE p s x=0
 .rw[if_pos h];exact(Qw h).2
 rw[if_neg h];exact r
theorem Jt{p:Pl}:∀(l:List Ax) {s:St},au p s->au p (qr p s l)
 | [],_,r=>r
 | x :: l,s,r=>Jt l (s:=vh p s x) (Js r)
theorem Lv{p:Pl}{s y:St}{x b:Ax}(r:au p s)(e:ae y s)(a:yj b x):ae (vh p y b) (vh p s x):=by
 obtain⟨c,d⟩:=aak r e a;unfold vh;rw[c];by_cases h:doE p s x=0
 .rw[if_pos h,if_pos h];exact d h
 rw[if_neg h,if_neg h];exact e
structure As where
 a:Option Addr
 n:Nat
 c:Nat
 z:Nat->Ax
def As.val(s:As):Value := .slice s.a s.n s.c
def ww(x:Ax):List Value:=[.int .i64 x.k,.int .i64 x.a,.int .i64 x.b,.int .i64 x.c,.int .i64 x.n,.slice x.ls.a x.ls.n x.ls.c]
def vi:Nat->(Nat->Ax)->List Value
 | 0,_=>[]
 | n+1,z=>vi n z++ww (z n)
theorem Ds(z:Nat->Ax):∀n,(vi n z).length=n*6
 | 0=>rfl
 | n+1=>by rw[vi,List.length_append,Ds z n];simp[ww];omega
theorem Jy{z z':Nat->Ax}:∀{n:Nat},(∀i,i<n->z i=z' i)->vi n z=vi n z'
 | 0,_=>rfl
 | n+1,h=>by rw[vi,vi,Jy λi hi=>h i (by omega),h n (by omega)]
theorem Om{z:Nat->Ax}:∀{n i j:Nat},i<n->j<6->(vi n z).getD (i*6+j) default=(ww (z i)).getD j default
 | 0,_,_,h,_=>absurd h (Qzq _)
 | n+1,i,j,hi,hj=>by
  rw[vi];by_cases h:i=n
  .subst h;simp only[List.getD];rw[List.getElem?_append_right (by rw[Ds];omega),Ds]
   congr 2
   omega
  have:=Om (z:=z) (n:=n) (i:=i) (j:=j) (by omega) hj;simp only[List.getD] at this ⊢;rw[List.getElem?_append_left (by rw[Ds];omega)];exact this
structure As.At(w:World)(s:As):Prop where
 le:s.n<=s.c
 cap:s.c<=maxLen
 cells:∀i,i<s.n->∃b o,s.a=some ⟨b,o,none⟩/\∀j,j<6->w.cell? ⟨b,o+(i*6+j),none⟩=some ((ww (s.z i)).getD j default)
 lines:∀i,i<s.n->(s.z i).ls.At w
def zx(j:Nat):Value:=(#[.int .i64 0,.int .i64 0,.int .i64 0,.int .i64 0,.int .i64 0,.slice none 0 0]:Array Value).getD j default
theorem Qe(w:World):(Instr.typeAssert (.iface 32 (.int .i64 1)) 20 32 false).run prog w = .ok (.int .i64 1) w:=by
 unfold Instr.typeAssert;simp[run_underlying underlying32,Sem.run_bind,Sem.run_pure,Result.andThen]
theorem abi(X E:Nat)(fx s:Nat->Value)(w:World)(b:Blk w X 47 6 fx)(g:Blk w E 32 1 s)(f:List PanicEntry):
  CallsD prog 86 #[.pointer (some ⟨X,0,none⟩),.pointer (some ⟨E,0,none⟩)] (.panicking ({ v := .iface 32 (.int .i64 1),recovered:=false } :: f)) w λe u m =>
   e = .returned (.tuple #[])/\u = .panicking ({ v := .iface 32 (.int .i64 1),recovered:=true } :: f)/\Blk m X 47 6 zx/\Blk m E 32 1 (λ_ => .int .i64 1)/\∀B,B<=X->B<=E->Below B w m:=by
 have T:=b.lt;have V:=g.lt;have J:=b.k 0;have M:=b.frozen 0;have H:=b.k 1;have z:=b.frozen 1;have P:=b.k 2;have K:=b.frozen 2;have Q:=b.k 3;have A:=b.frozen 3;have G:=b.k 4;have F:=b.frozen 4;have y:=b.k 5;have D:=b.frozen 5;have S:=g.k 0;have W:=g.frozen 0;have c:X≠E:=Blk.ne2 b g (by decide);have L:=Qe;have q:=Blk.other (((((((b.set 0 (.int .i64 0)).set 1 (.int .i64 0)).set 2 (.int .i64 0)).set 3 (.int .i64 0)).set 4 (.int .i64 0)).set 5 (.slice none 0 0))) (a:=⟨E,0,none⟩) c (.int .i64 1);have h:=q.congr (f':=zx) (λj o=>by match j,o with|0,_|1,_|2,_|3,_|4,_|5,_=>rfl);have r:=Blk.set ((((((g.other (a:=⟨X,0,none⟩) c.symm (.int .i64 0)).other (a:=⟨X,1,none⟩) c.symm (.int .i64 0)).other (a:=⟨X,2,none⟩) c.symm (.int .i64 0)).other (a:=⟨X,3,none⟩) c.symm (.int .i64 0)).other (a:=⟨X,4,none⟩) c.symm (.int .i64 0)).other (a:=⟨X,5,none⟩) c.symm (.slice none 0 0)) 0 (.int .i64 1);have i:=r.congr (f':=λ_ => .int .i64 1) (λj o=>by match j,o with|0,_=>rfl);have l:=λ(B:Nat) (d:B<=X) (n:B<=E)=>((((((((Below.refl B w).setCell (p:=⟨X,0,none⟩) d (.int .i64 0)).setCell (p:=⟨X,1,none⟩) d (.int .i64 0)).setCell (p:=⟨X,2,none⟩) d (.int .i64 0)).setCell (p:=⟨X,3,none⟩) d (.int .i64 0)).setCell (p:=⟨X,4,none⟩) d (.int .i64 0)).setCell (p:=⟨X,5,none⟩) d (.slice none 0 0)).setCell (p:=⟨E,0,none⟩) n (.int .i64 1));have x:=qa3 h i l;clear q h r i l b g;refine callsD_of_wpS func86 rfl λU cs t => ?_
 apply wpS_seq
 apply wpS_region
 simp[wpOpsS,go_sem,recoverD,t,ntmps86,Exit.thenS];refine wpS_of_wp ?_;simp only[Array.replicate_succ,Array.replicate_zero,List.push_toArray,Qvq,Qwx,Qwz,List.append_toArray,Xqx,Xqz];go_wp2_with fail
 go_region
 obtain⟨h,i,l⟩:=x.out;refine⟨rfl,_,rfl,.tuple #[],by simp[results,results86],rfl,rfl,?_,?_,λB d n => ?_⟩
 .exact Blk.below h (brf.drew)
 .exact Blk.below i (brf.drew)
 exact(l B d n).drew
theorem acx(X E:Nat)(w:World):
  CallsD prog 86 #[.pointer (some ⟨X,0,none⟩),.pointer (some ⟨E,0,none⟩)] .returning w λe c b=>e = .returned (.tuple #[])/\c = .returning/\b=w:=by
 refine callsD_of_wpS func86 rfl λd cs a => ?_
 apply wpS_seq
 apply wpS_region
 simp[wpOpsS,go_sem,recoverD,a,ntmps86,Exit.thenS];refine wpS_of_wp ?_;simp only[Array.replicate_succ,Array.replicate_zero,List.push_toArray,Qvq,Qwx,Qwz,List.append_toArray,Xqx,Xqz];go_wp2_with fail;cases d
 simp_all[bodyPostS,results,results86]
def M3(R:Nat)(t:List UInt8)(k:Nat)(w w':World)(e:Ending):Prop :=
 ((vg t k=true/\∃ls:Hs,e = .returned (.tuple #[(Ax.mk (rdN t k) (rdN t (k+1)) (rdN t (k+2)) (rdN t (k+3)) (rdN t (k+4)) ls).val,.int .i64 0])/\ls.n=rdC t k/\(∀j,j<ls.n->ls.z j=rdL t (k+6+4*j))/\cy w.heap.size 59 w' ls/\mw R w' t (k+o8 t k)) \/
  (vg t k=false/\e = .returned (.tuple #[.agg #[.int .i64 0,.int .i64 0,.int .i64 0,.int .i64 0,.int .i64 0,.slice none 0 0],.int .i64 1])))/\Bt R w w'
theorem qh.ofBlk{w:World}{b n j:Nat}{e:TypeId}{f:Nat->Value}(h:Blk w b e n f)(c:j<n){z:Int}(a:f j = .int .i64 z):qh w ⟨b,j,none⟩:=⟨⟨z,(h.cell c).trans (by rw[a])⟩,h.frozen j,h.lt⟩
def hx(t:List UInt8)(k:Nat)(v:Value)(j:Nat):Value:=(#[.int .i64 (rdN t k),.int .i64 (rdN t (k+1)),.int .i64 (rdN t (k+2)),.int .i64 (rdN t (k+3)),.int .i64 (rdN t (k+4)),v]:Array Value).getD j default
def xe(X L:Nat):List Addr:=[⟨X,0,none⟩,⟨X,1,none⟩,⟨X,2,none⟩,⟨X,3,none⟩,⟨X,4,none⟩,⟨L,0,none⟩]
def Ci(B:Nat):List Addr:=[⟨B,0,none⟩,⟨B,1,none⟩,⟨B,2,none⟩,⟨B,3,none⟩]
theorem Wr{R X L k:Nat}{t:List UInt8}{w:World}{n:Nat->Value}(o:Blk w X 47 6 zx)(p:Blk w L 3 1 n)(c:X≠L)(d:X≠R)(b:L≠R):
  Blk (getW R t (xe X L) k w) X 47 6 (hx t k (.slice none 0 0))/\Blk (getW R t (xe X L) k w) L 3 1 (λ_ => .int .i64 (rdN t (k+5))):=by
 simp only[xe,getW];refine⟨?_,?_⟩
 .have g:=(o.set 0 (.int .i64 (rdN t k))).other (a:=⟨R,1,none⟩) d (.int .i64 ((k+1:Nat):Int));have e:=(g.set 1 (.int .i64 (rdN t (k+1)))).other (a:=⟨R,1,none⟩) d (.int .i64 ((k+1+1:Nat):Int));have h:=(e.set 2 (.int .i64 (rdN t (k+1+1)))).other (a:=⟨R,1,none⟩) d (.int .i64 ((k+1+1+1:Nat):Int));have f:=(h.set 3 (.int .i64 (rdN t (k+1+1+1)))).other (a:=⟨R,1,none⟩) d (.int .i64 ((k+1+1+1+1:Nat):Int));have i:=(f.set 4 (.int .i64 (rdN t (k+1+1+1+1)))).other (a:=⟨R,1,none⟩) d (.int .i64 ((k+1+1+1+1+1:Nat):Int));have m:=(i.other (a:=⟨L,0,none⟩) c (.int .i64 (rdN t (k+1+1+1+1+1)))).other (a:=⟨R,1,none⟩) d (.int .i64 ((k+1+1+1+1+1+1:Nat):Int));exact m.congr (λj l=>by match j,l with|0,_|1,_|2,_|3,_|4,_|5,_=>rfl)
 have g:=(p.other (a:=⟨X,0,none⟩) c.symm (.int .i64 (rdN t k))).other (a:=⟨R,1,none⟩) b (.int .i64 ((k+1:Nat):Int));have e:=(g.other (a:=⟨X,1,none⟩) c.symm (.int .i64 (rdN t (k+1)))).other (a:=⟨R,1,none⟩) b (.int .i64 ((k+1+1:Nat):Int));have h:=(e.other (a:=⟨X,2,none⟩) c.symm (.int .i64 (rdN t (k+1+1)))).other (a:=⟨R,1,none⟩) b (.int .i64 ((k+1+1+1:Nat):Int));have f:=(h.other (a:=⟨X,3,none⟩) c.symm (.int .i64 (rdN t (k+1+1+1)))).other (a:=⟨R,1,none⟩) b (.int .i64 ((k+1+1+1+1:Nat):Int));have i:=(f.other (a:=⟨X,4,none⟩) c.symm (.int .i64 (rdN t (k+1+1+1+1)))).other (a:=⟨R,1,none⟩) b (.int .i64 ((k+1+1+1+1+1:Nat):Int));have m:=(i.set 0 (.int .i64 (rdN t (k+1+1+1+1+1)))).other (a:=⟨R,1,none⟩) b (.int .i64 ((k+1+1+1+1+1+1:Nat):Int));exact m.congr (λj l=>by match j,l with|0,_=>rfl)
theorem Xa{R B k:Nat}{t:List UInt8}{w:World}{f:Nat->Value}(d:Blk w B 59 4 f)(b:B≠R):
  Blk (getW R t (Ci B) k w) B 59 4 (λj=>(dg (rdL t k)).getD j default):=by
 simp only[Ci,getW];have g:=(d.set 0 (.int .i64 (rdN t k))).other (a:=⟨R,1,none⟩) b (.int .i64 ((k+1:Nat):Int));have e:=(g.set 1 (.int .i64 (rdN t (k+1)))).other (a:=⟨R,1,none⟩) b (.int .i64 ((k+1+1:Nat):Int));have i:=(e.set 2 (.int .i64 (rdN t (k+1+1)))).other (a:=⟨R,1,none⟩) b (.int .i64 ((k+1+1+1:Nat):Int));have c:=(i.set 3 (.int .i64 (rdN t (k+1+1+1)))).other (a:=⟨R,1,none⟩) b (.int .i64 ((k+1+1+1+1:Nat):Int));exact c.congr (λj h=>by match j,h with|0,_|1,_|2,_|3,_=>rfl)
def Qm(X:Nat):Deferred:={ target := .fn (.func 86) #[.pointer (some ⟨X,0,none⟩),.pointer (some ⟨X+1,0,none⟩)],args:=#[] }
theorem He{R k:Nat}{t:List UInt8}{w c:World}{tmps:Array Value}(j:tmps.getD 2 undef = .pointer (some ⟨w.heap.size,0,none⟩))(i:tmps.getD 3 undef = .pointer (some ⟨w.heap.size+1,0,none⟩))
  (d:Shp c w.heap.size 47 6) (g:Shp c (w.heap.size+1) 32 1) (s:Bt R w c) (h:vg t k=false) :
  Leaves prog Tryz.f40 tmps (λe u=>M3 R t k w u e) [Qm w.heap.size] (.panicking [{ v := .iface 32 (.int .i64 1),recovered:=false }]) c:=by
 rw[Array.getD_eq_getD_getElem?] at j i;obtain⟨fx,d⟩:=d;obtain⟨p,g⟩:=g;refine leaves_cons (f:=86) (args:=#[.pointer (some ⟨w.heap.size,0,none⟩),.pointer (some ⟨w.heap.size+1,0,none⟩)]) (by simp) (by simp[go_sem]) ?_;refine(abi w.heap.size (w.heap.size+1) fx p c d g []).mono ?_;rintro e z a ⟨rfl,rfl,b,m,y⟩;have l:a.cell? ⟨w.heap.size,0,none⟩=some (.int .i64 0):=b.k 0;have n:a.cell? ⟨w.heap.size,1,none⟩=some (.int .i64 0):=b.k 1;have o:a.cell? ⟨w.heap.size,2,none⟩=some (.int .i64 0):=b.k 2;have x:a.cell? ⟨w.heap.size,3,none⟩=some (.int .i64 0):=b.k 3;have q:a.cell? ⟨w.heap.size,4,none⟩=some (.int .i64 0):=b.k 4;have r:a.cell? ⟨w.heap.size,5,none⟩=some (.slice none 0 0):=b.k 5;have e0:a.cell? ⟨w.heap.size+1,0,none⟩=some (.int .i64 1):=m.k 0;refine⟨.tuple #[.agg #[.int .i64 0,.int .i64 0,.int .i64 0,.int .i64 0,.int .i64 0,.slice none 0 0],.int .i64 1],?_,Or.inr ⟨h,rfl⟩,s.thenB (y _ nlr (by omega))⟩;simp[results,results40,go_sem,j,i,l,n,o,x,q,r,e0]
theorem R6{R k:Nat}{t:List UInt8}{w d:World}{tmps:Array Value}(l:tmps.getD 2 undef = .pointer (some ⟨w.heap.size,0,none⟩))(i:tmps.getD 3 undef = .pointer (some ⟨w.heap.size+1,0,none⟩)){a:Option Addr}{c:Nat}
  (g:Blk d w.heap.size 47 6 (hx t k (.slice a (rdC t k) c))) (v:Blk d (w.heap.size+1) 32 1 (λ_ => .int .i64 0)) (z:Bt R w d) (h:vg t k=true) (x:d.ownsRow w.heap.size 59 4 (.slice a (rdC t k) c) (rdC t k) (ax (rdC t k) (λj=>rdL t (k+6+4*j)))) (A:mw R d t (k+o8 t k)) :
  Leaves prog Tryz.f40 tmps (λe B=>M3 R t k w B e) [Qm w.heap.size] .returning d:=by
 rw[Array.getD_eq_getD_getElem?] at l i;refine leaves_cons (f:=86) (args:=#[.pointer (some ⟨w.heap.size,0,none⟩),.pointer (some ⟨w.heap.size+1,0,none⟩)]) (by simp) (by simp[go_sem]) ?_;refine(acx w.heap.size (w.heap.size+1) d).mono ?_;rintro e F b ⟨rfl,rfl,rfl⟩;obtain⟨ls,E,o,q,m⟩:=cy.ofRow x nlr;have p:b.cell? ⟨w.heap.size,0,none⟩=some (.int .i64 (rdN t k)):=g.k 0;have r:b.cell? ⟨w.heap.size,1,none⟩=some (.int .i64 (rdN t (k+1))):=g.k 1;have s:b.cell? ⟨w.heap.size,2,none⟩=some (.int .i64 (rdN t (k+2))):=g.k 2;have D:b.cell? ⟨w.heap.size,3,none⟩=some (.int .i64 (rdN t (k+3))):=g.k 3;have u:b.cell? ⟨w.heap.size,4,none⟩=some (.int .i64 (rdN t (k+4))):=g.k 4;have y:b.cell? ⟨w.heap.size,5,none⟩=some (.slice ls.a ls.n ls.c):=(g.k 5).trans (congrArg some E);have e0:b.cell? ⟨w.heap.size+1,0,none⟩=some (.int .i64 0):=v.k 0;refine⟨.tuple #[(Ax.mk (rdN t k) (rdN t (k+1)) (rdN t (k+2)) (rdN t (k+3)) (rdN t (k+4)) ls).val,.int .i64 0],?_,Or.inl ⟨h,ls,rfl,q,λj _=>by rw[m],o,A⟩,z⟩;simp[results,results40,go_sem,l,i,p,r,s,D,u,y,e0,Ax.val,Ax.cells]
theorem Tc{A R m:Nat}{w d:World}{e t:TypeId}{size:Nat}{v:Value}{n:Nat}{b:List Value}{f:Nat->Value}(h:w.ownsRow A e size v n b)(i:Bt R w d)(j:Blk w R t m f)(a:e≠t):d.ownsRow A e size v n b:=by
 refine⟨h.1,h.2.imp_right λ⟨g,cap,cur,h1,h2,h3,h4⟩=>⟨g,cap,cur,h1,h2,?_,h4⟩⟩;rw[i.block g (Qkq h3).1 (λk=>by
  obtain⟨c2,c,_⟩:=j;subst k;rw[c] at h3;cases h3;exact a rfl)]
 exact h3
structure Mid(R k m X:Nat)(t:List UInt8)(w wk:World)(v:Value)(n:Nat):Prop where
 x:Blk wk X 47 6 (hx t k v)
 o:wk.ownsRow X 59 4 v n (ax n (λj=>rdL t (k+6+4*j)))
 e:Blk wk (X+1) 32 1 (λ_ => .int .i64 0)
 r:mw R wk t m
 b:Bt R w wk
theorem Mid.set{R k m X n j:Nat}{t:List UInt8}{w d:World}{v:Value}(h:Mid R k m X t w d v n)(g:w.heap.size<=X)(l:X≠R)(u:Value)(f:hx t k v j=u):Mid R k m X t w (d.setCell ⟨X,j,none⟩ u) v n :=
 ⟨(h.x.set j u).congr (λi _=>by by_cases c:i=j<;>simp[c,f]),xj h.o h.x (by decide) j u,h.e.other (a:=⟨X,j,none⟩) (by dsimp only;omega) u,Blk.other h.r (a:=⟨X,j,none⟩) (by dsimp only;omega) u,h.b.set (p:=⟨X,j,none⟩) (Or.inr g) u⟩
theorem Mid.setE{R k m X n:Nat}{t:List UInt8}{w c:World}{v:Value}(h:Mid R k m X t w c v n)(d:w.heap.size<=X)(f:X+1≠R):Mid R k m X t w (c.setCell ⟨X+1,0,none⟩ (.int .i64 0)) v n :=
 ⟨h.x.other (a:=⟨X+1,0,none⟩) (by dsimp only;omega) _,xj h.o h.e (by decide) 0 _,(h.e.set 0 _).congr (λi _=>by simp),Blk.other h.r (a:=⟨X+1,0,none⟩) (by dsimp only;omega) _,h.b.set (p:=⟨X+1,0,none⟩) (Or.inr (by dsimp only;omega)) _⟩
theorem Mid.bt{R k m m' X n:Nat}{t:List UInt8}{w d a:World}{v:Value}(h:Mid R k m X t w d v n)(c:Bt R d a)(f:X≠R)(i:X+1≠R)(g:mw R a t m'):Mid R k m' X t w a v n :=
 ⟨c.blk h.x f,Tc h.o c h.r (by decide),c.blk h.e i,g,h.b.trans c⟩
theorem Mid.grew{R k m X n l:Nat}{t:List UInt8}{w s d:World}{v c:Value}(h:Mid R k m X t w s v n)(f:pk X 59 s d)(o:w.heap.size<=X)(y:d.ownsRow X 59 4 c l (ax l (λj=>rdL t (k+6+4*j))))(z:X≠R):Mid R k m X t w (d.setCell ⟨X,5,none⟩ c) c l:=by
 have g:=f.blk h.x (by decide);have u:=f.blk h.e (by decide);have q:mw R d t m:=f.blk h.r (by decide);exact⟨(g.set 5 c).congr (λi hi=>by match i,hi with|0,_|1,_|2,_|3,_|4,_|5,_=>rfl),xj y g (by decide) 5 c,u.other (a:=⟨X,5,none⟩) (by dsimp only;omega) c,Blk.other q (a:=⟨X,5,none⟩) (by dsimp only;omega) c,(h.b.grew f o).set (p:=⟨X,5,none⟩) (Or.inr o) c⟩
theorem abs(w:World)(Z:Hd)(e:TypeId):∀j u,(dg Z)[j]?=some u->(w.alloc (.cells #[.int .i64 Z.o,.int .i64 Z.l,.int .i64 Z.b,.int .i64 Z.n] e)).cell? ((⟨w.heap.size,0,none⟩:Addr).add j)=some u:=by
 intro j u a;have d:(⟨w.heap.size,0,none⟩:Addr).add j=⟨w.heap.size,j,none⟩:=by
  unfold Addr.add;by_cases h:j=0
  .subst h;rfl
  rw[if_neg h];simp
 rw[d];have K:=Blk.new w #[.int .i64 Z.o,.int .i64 Z.l,.int .i64 Z.b,.int .i64 Z.n] e;have c:j<4:=(List.getElem?_eq_some_iff.1 a).1;rw[K.cell (j:=j) c,<-a]
 match j,c with
 | 0,_|1,_|2,_|3,_=>rfl
theorem aag(R:Nat)(t:List UInt8)(k:Nat)(w:World)(hR:mw R w t k)(hk:k<=t.length)(ht:t.length<=4096):
  Calls prog 40 #[.pointer (some ⟨R,0,none⟩)] w λe w'=>M3 R t k w w' e:=by
 have bs:∀(fn:Fn) (first cap:Array Value) (w:World),(Instr.makeFunc fn first cap).run prog w = .ok (.func fn first cap) w:=λ_ _ _ _=>rfl;have HR:=hid hR;have HK:=qa2 hk ht;clear hR hk ht;have L:Hid (R<w.heap.size):=Blk.lt HR.out;obtain⟨J,hW,f,D,y,B,v⟩:∃W,(((w.alloc (.cells #[.int .i64 0,.int .i64 0,.int .i64 0,.int .i64 0,.int .i64 0,.slice none 0 0] 47)).alloc (.cells #[.int .i64 0] 32)).alloc (.cells #[.int .i64 0] 3)).alloc (.cells #[.pointer (some ⟨w.heap.size,0,none⟩),.pointer (some ⟨w.heap.size,1,none⟩),.pointer (some ⟨w.heap.size,2,none⟩),.pointer (some ⟨w.heap.size,3,none⟩),.pointer (some ⟨w.heap.size,4,none⟩),.pointer (some ⟨w.heap.size+1+1,0,none⟩)] 119)=W /\
   Blk W w.heap.size 47 6 zx/\Blk W (w.heap.size+1) 32 1 (λ_ => .int .i64 0)/\Blk W (w.heap.size+1+1) 3 1 (λ_ => .int .i64 0)/\Blk W (w.heap.size+1+1+1) 119 6 (λj => .pointer (some ((xe w.heap.size (w.heap.size+1+1)).getD j default)))/\Bt R w W :=
  ⟨_,rfl,((((Blk.mk' (cur:=#[.int .i64 0,.int .i64 0,.int .i64 0,.int .i64 0,.int .i64 0,.slice none 0 0]) rfl rfl).alloc _).alloc _).alloc _).congr (λj _=>rfl),(((Blk.mk' (cur:=#[.int .i64 0]) (by simp) rfl).alloc _).alloc _).congr (λj H=>by match j,H with|0,_=>rfl),((Blk.mk' (cur:=#[.int .i64 0]) (by simp) rfl).alloc _).congr (λj H=>by match j,H with|0,_=>rfl),
   (Blk.mk' (cur:=#[.pointer (some ⟨w.heap.size,0,none⟩),.pointer (some ⟨w.heap.size,1,none⟩),.pointer (some ⟨w.heap.size,2,none⟩),.pointer (some ⟨w.heap.size,3,none⟩),.pointer (some ⟨w.heap.size,4,none⟩),.pointer (some ⟨w.heap.size+1+1,0,none⟩)]) (by simp) rfl).congr (λj H=>by match j,H with|0,_|1,_|2,_|3,_|4,_|5,_=>rfl),((((Bt.refl R w).alloc _).alloc _).alloc _).alloc _⟩
 have HW:Hid ((((w.alloc (.cells #[.int .i64 0,.int .i64 0,.int .i64 0,.int .i64 0,.int .i64 0,.slice none 0 0] 47)).alloc (.cells #[.int .i64 0] 32)).alloc (.cells #[.int .i64 0] 3)).alloc (.cells #[.pointer (some ⟨w.heap.size,0,none⟩),.pointer (some ⟨w.heap.size,1,none⟩),.pointer (some ⟨w.heap.size,2,none⟩),.pointer (some ⟨w.heap.size,3,none⟩),.pointer (some ⟨w.heap.size,4,none⟩),.pointer (some ⟨w.heap.size+1+1,0,none⟩)] 119)=J):=hW;have aw:=qa5 f D y B v;have ag:Hid (mw R J t k):=by
  have h:=HR.out;unfold mw at h ⊢;rw[<-hW];exact(((h.alloc _).alloc _).alloc _).alloc _
 clear hW f D y B v
 go_enter_defers func40,ntmps40
 go_wp2_with fail;rw[HW.out];obtain⟨f,D,y,B,v⟩:=aw.out;have bh:w.heap.size≠R:=by have:=L.out;omega
 have F:∀p∈xe w.heap.size (w.heap.size+1+1),qh J p/\R≠p.block/\w.heap.size+1+1+1≠p.block:=by
  have cc:=L.out;intro p d;simp only[xe,List.mem_cons,List.not_mem_nil,or_false] at d;rcases d with rfl|rfl|rfl|rfl|rfl|rfl
  .exact⟨qh.ofBlk f (by decide) (z:=0) rfl,by dsimp only;omega,by dsimp only;omega⟩
  .exact⟨qh.ofBlk f (by decide) (z:=0) rfl,by dsimp only;omega,by dsimp only;omega⟩
  .exact⟨qh.ofBlk f (by decide) (z:=0) rfl,by dsimp only;omega,by dsimp only;omega⟩
  .exact⟨qh.ofBlk f (by decide) (z:=0) rfl,by dsimp only;omega,by dsimp only;omega⟩
  .exact⟨qh.ofBlk f (by decide) (z:=0) rfl,by dsimp only;omega,by dsimp only;omega⟩
  exact⟨qh.ofBlk y (by decide) (z:=0) rfl,by dsimp only;omega,by dsimp only;omega⟩
 have E:∀p∈xe w.heap.size (w.heap.size+1+1),p.block=R\/w.heap.size<=p.block:=by
  intro p d;simp only[xe,List.mem_cons,List.not_mem_nil,or_false] at d;rcases d with rfl|rfl|rfl|rfl|rfl|rfl<;>(right;dsimp only;omega)
 refine(S7 R (w.heap.size+1+1+1) t k (xe w.heap.size (w.heap.size+1+1)) J ag.out HK.out.1 HK.out.2 (by have:=L.out;omega) (by show 6<=100;decide) B F).mono ?_;rintro e w1 (⟨rfl,m,q⟩|⟨rfl,m,i,q⟩);rotate_left
 .have P:vg t k=false:=by
   cases h:vg t k
   .rfl
   have h1:t.length<k+6:=m;have:=(Dc.1 h).1;omega
  have ap:∀p∈(xe w.heap.size (w.heap.size+1+1)).take i,p.spot=none:=λp d=>by
   have d:=List.mem_of_mem_take d;simp only[xe,List.mem_cons,List.not_mem_nil,or_false] at d;rcases d with rfl|rfl|rfl|rfl|rfl|rfl<;>rfl
  obtain⟨fx,bu⟩:=Shp.getW (R:=R) (t:=t) _ k J ap ⟨_,f⟩;obtain⟨fe,bb⟩:=Shp.getW (R:=R) (t:=t) _ k J ap ⟨_,D⟩;exact He rfl rfl ⟨_,q.blk bu⟩ ⟨_,q.blk bb⟩ ((Ew R t _ k J v λp d=>E p (List.mem_of_mem_take d)).trans (q.bt R)) P
 have T:k+6<=t.length:=m;have h1:=Wr (R:=R) (t:=t) (k:=k) f y (by omega) bh (by have:=L.out;omega);have af:Hid (Blk w1 w.heap.size 47 6 (hx t k (.slice none 0 0))):=q.blk h1.1;have ak:Hid (Blk w1 (w.heap.size+1) 32 1 (λ_ => .int .i64 0)):=q.blk (Kg R t _ k J (λp d=>by
  simp only[xe,List.mem_cons,List.not_mem_nil,or_false] at d;rcases d with rfl|rfl|rfl|rfl|rfl|rfl<;>(dsimp only;omega)) (by have:=L.out;omega) D)
 have ac:=q.blk h1.2;have ah:Hid (Bt R w w1):=(Ew R t _ k J v E).trans (q.bt R);have ar:Hid (mw R w1 t (k+6)):=q.blk (mw.getW (xe w.heap.size (w.heap.size+1+1)) k J (λp d=>(F p d).2.1) ag.out);have l0:w1.cell? ⟨w.heap.size+1+1,0,none⟩=some (.int .i64 (rdC t k:Int)):=by rw[abu];exact ac.k 0
 have l1:=ac.lt;clear f D y B v F E h1 ac q HW aw ag bs;by_cases h3:rdC t k<=3;rotate_left
 .have q3:(3:Int)<(rdC t k:Int):=by omega
  have P:vg t k=false:=by
   cases h:vg t k
   .rfl
   exact absurd (Dc.1 h).2.1 h3
  go_wp2_with fail;exact He rfl rfl ⟨_,af.out⟩ ⟨_,ak.out⟩ ah.out P
 have q3:¬(3:Int)<(rdC t k:Int):=by omega
 go_wp2_with fail;clear l0 l1 q3;have V:=qa3 h3 T HK.out.2;have n3:(rdC t k:Int)<=3:=by omega
 obtain⟨iL,bv,bz,bi,bo⟩:=info_parts Dt
 generalize hN:rdC t k=N at *
 have X:=hid hN;clear hN h3 m T;have g:Hid (w.heap.size≠R/\w.heap.size+1≠R):=by have:=L.out;exact⟨by omega,by omega⟩
 go_loopw [19] (λjv wk=>∃(j:Nat) (a:Option Addr) (c:Nat),j<=N/\jv = .int .i64 j/\Hid (Mid R k (k+6+4*j) w.heap.size t w wk (.slice a j c) j/\k+6+4*j<=t.length)) (λjv _=>N-(intOf jv).toNat)
 case atStart=>exact⟨0,none,0,Qxz _,rfl,⟨af.out,World.ownsRow_nil _ _ _ _,ak.out,ar.out,ah.out⟩,V.out.2.1⟩
 obtain⟨j,a,c,H,rfl,A⟩:=hrel;clear af ak ah ar;by_cases cd:j<N;rotate_left
 .have q1:¬(j:Int)<(N:Int):=by omega
  have bp:j=N:=by omega
  subst bp;have f:=A.out.1.x;have D:=A.out.1.e;have x0:wr.cell? ⟨w.heap.size,0,none⟩=some (.int .i64 (rdN t k)):=f.k 0;have x1:wr.cell? ⟨w.heap.size,1,none⟩=some (.int .i64 (rdN t (k+1))):=f.k 1;have x2:wr.cell? ⟨w.heap.size,2,none⟩=some (.int .i64 (rdN t (k+2))):=f.k 2;have x3:wr.cell? ⟨w.heap.size,3,none⟩=some (.int .i64 (rdN t (k+3))):=f.k 3;have x4:wr.cell? ⟨w.heap.size,4,none⟩=some (.int .i64 (rdN t (k+4))):=f.k 4;have x5:wr.cell? ⟨w.heap.size,5,none⟩=some (.slice a j c):=f.k 5;have f0:=f.frozen 0;have f1:=f.frozen 1;have f2:=f.frozen 2;have f3:=f.frozen 3;have f4:=f.frozen 4;have f5:=f.frozen 5;have xl:=f.lt;have e0:wr.cell? ⟨w.heap.size+1,0,none⟩=some (.int .i64 0):=D.k 0;have e1:=D.frozen 0;have el:=D.lt;clear f D;go_wp2_with fail;have hM:=((((((A.out.1.set nlr g.out.1 (j:=0) (.int .i64 (rdN t k)) rfl).set nlr g.out.1 (j:=1) (.int .i64 (rdN t (k+1))) rfl).set nlr g.out.1 (j:=2) (.int .i64 (rdN t (k+2))) rfl).set nlr g.out.1 (j:=3) (.int .i64 (rdN t (k+3))) rfl).set nlr g.out.1 (j:=4) (.int .i64 (rdN t (k+4))) rfl).set nlr g.out.1 (j:=5) (.slice a j c) rfl).setE nlr g.out.2;have a5:vg t k=true:=Dc.2 ⟨V.out.2.1,by rw[X.out];exact V.out.1,by unfold o8;rw[X.out];have:=A.out.2;omega⟩;refine R6 (a:=a) (c:=c) rfl rfl (by rw[X.out];exact hM.x) hM.e hM.b a5 (by rw[X.out];exact hM.o) ?_;have hR:=hM.r;unfold o8;rw[X.out,show k+(6+4*j)=k+6+4*j by omega];exact hR
 have q1:(j:Int)<(N:Int):=by omega
 obtain⟨S,av,y,B,v⟩:∃W,(wr.alloc (.cells #[.int .i64 0,.int .i64 0,.int .i64 0,.int .i64 0] 59)).alloc (.cells #[.pointer (some ⟨wr.heap.size,0,none⟩),.pointer (some ⟨wr.heap.size,1,none⟩),.pointer (some ⟨wr.heap.size,2,none⟩),.pointer (some ⟨wr.heap.size,3,none⟩)] 119)=W /\
   Blk W wr.heap.size 59 4 (λ_ => .int .i64 0)/\Blk W (wr.heap.size+1) 119 4 (λj => .pointer (some ((Ci wr.heap.size).getD j default)))/\Bt R wr W :=
  ⟨_,rfl,((Blk.mk' (cur:=#[.int .i64 0,.int .i64 0,.int .i64 0,.int .i64 0]) rfl rfl).alloc _).congr (λj H=>by match j,H with|0,_|1,_|2,_|3,_=>rfl),(Blk.mk' (cur:=#[.pointer (some ⟨wr.heap.size,0,none⟩),.pointer (some ⟨wr.heap.size,1,none⟩),.pointer (some ⟨wr.heap.size,2,none⟩),.pointer (some ⟨wr.heap.size,3,none⟩)]) (by simp) rfl).congr (λj H=>by match j,H with|0,_|1,_|2,_|3,_=>rfl),((Bt.refl R wr).alloc _).alloc _⟩
 have aa:Hid ((wr.alloc (.cells #[.int .i64 0,.int .i64 0,.int .i64 0,.int .i64 0] 59)).alloc (.cells #[.pointer (some ⟨wr.heap.size,0,none⟩),.pointer (some ⟨wr.heap.size,1,none⟩),.pointer (some ⟨wr.heap.size,2,none⟩),.pointer (some ⟨wr.heap.size,3,none⟩)] 119)=S):=av;have au:=qa3 y B v;clear av y B v;go_wp2_with fail;rw[aa.out];obtain⟨y,B,v⟩:=au.out;have bm:w.heap.size<=wr.heap.size:=A.out.1.b.size;have bl:R<wr.heap.size:=Blk.lt A.out.1.r;have Y:mw R S t (k+6+4*j):=by
  have h:=A.out.1.r;unfold mw at h ⊢;rw[<-aa.out];exact(h.alloc _).alloc _
 have F:∀p∈Ci wr.heap.size,qh S p/\R≠p.block/\wr.heap.size+1≠p.block:=by
  intro p d;simp only[Ci,List.mem_cons,List.not_mem_nil,or_false] at d;rcases d with rfl|rfl|rfl|rfl<;>exact⟨qh.ofBlk y (by decide) (z:=0) rfl,by dsimp only;omega,by dsimp only;omega⟩
 have E:∀p∈Ci wr.heap.size,p.block=R\/wr.heap.size<=p.block:=by
  intro p d;simp only[Ci,List.mem_cons,List.not_mem_nil,or_false] at d;rcases d with rfl|rfl|rfl|rfl<;>(right;dsimp only;omega)
 refine(S7 R (wr.heap.size+1) t (k+6+4*j) (Ci wr.heap.size) S Y A.out.2 V.out.2.2 (by omega) (by show 4<=100;decide) B F).mono ?_;rintro e s (⟨rfl,m,q⟩|⟨rfl,m,i,q⟩);rotate_left
 .have M:Bt R wr s:=(Ew R t _ _ S v λp d=>E p (List.mem_of_mem_take d)).trans (q.bt R);have P:vg t k=false:=by
   cases h:vg t k
   .rfl
   have h1:t.length<k+6+4*j+4:=m;have h2:=(Dc.1 h).2.2;unfold o8 at h2;rw[X.out] at h2;omega
  exact He rfl rfl ⟨_,M.blk A.out.1.x g.out.1⟩ ⟨_,M.blk A.out.1.e g.out.2⟩ (A.out.1.b.trans M) P
 have M:Bt R wr s:=(Ew R t _ _ S v E).trans (q.bt R);have ao:mw R s t (k+6+4*(j+1)):=q.blk (mw.getW (Ci wr.heap.size) _ S (λp d=>(F p d).2.1) Y);have Q:Hid (Mid R k (k+6+4*(j+1)) w.heap.size t w s (.slice a j c) j):=A.out.1.bt M g.out.1 g.out.2 ao;have bx:=hid m;have G:=q.blk (Xa (R:=R) (t:=t) (k:=k+6+4*j) y (by omega));obtain⟨Z,hZ⟩:∃Z,rdL t (k+6+4*j)=Z:=⟨_,rfl⟩;rw[hZ] at G;have HZ:=hid hZ;have b0:s.cell? ⟨wr.heap.size,0,none⟩=some (.int .i64 Z.o):=G.k 0;have b1:s.cell? ⟨wr.heap.size,1,none⟩=some (.int .i64 Z.l):=G.k 1;have b2:s.cell? ⟨wr.heap.size,2,none⟩=some (.int .i64 Z.b):=G.k 2;have b3:s.cell? ⟨wr.heap.size,3,none⟩=some (.int .i64 Z.n):=G.k 3;have b4:=G.lt;have x5:s.cell? ⟨w.heap.size,5,none⟩=some (.slice a j c):=Q.out.x.k 5;have xl:=Q.out.x.lt;obtain⟨W5,ab,ay,ae⟩:∃W,s.alloc (.cells #[.int .i64 Z.o,.int .i64 Z.l,.int .i64 Z.b,.int .i64 Z.n] 59)=W/\Below s.heap.size s W/\Bt R s W:=⟨_,rfl,brf.alloc nlr _,(Bt.refl _ _).alloc _⟩;have aq:Hid (s.alloc (.cells #[.int .i64 Z.o,.int .i64 Z.l,.int .i64 Z.b,.int .i64 Z.n] 59)=W5):=ab;have az:Hid (∀j u,(dg Z)[j]?=some u->W5.cell? ((⟨s.heap.size,0,none⟩:Addr).add j)=some u):=by rw[<-ab];exact abs s Z _
 have K:Hid (Mid R k (k+6+4*(j+1)) w.heap.size t w W5 (.slice a j c) j):=Q.out.bt ae g.out.1 g.out.2 (Blk.below Q.out.r ay);have br:=hid K.out.b.size;clear M ao G hZ ab ay ae y B v F E q au aa Y bm bl m Q;go_wp2_with(at_builtin;rw[aq.out];refine wpList_append_own W5 rfl (.tmp 29) (.tmp 31) 45 rfl w.heap.size 59 iL (.agg #[.int .i64 0,.int .i64 0,.int .i64 0,.int .i64 0]) 4 32 underlying45 bv bz bi bo rfl (by decide) (.slice a j c) j (ax j (λj=>rdL t (k+6+4*j))) rfl K.out.o ⟨s.heap.size,0,none⟩ 1 1 (dg Z) rfl rfl az.out (λu hu=>by simp[dg] at hu;rcases hu with rfl|rfl|rfl|rfl<;>rfl) (by unfold maxLen;omega) (by omega) br.out ?_);intro v2 w6 r1 r2 _;obtain⟨a2,c2,rfl,-⟩:=Ay r1;have a0:w6.ownsRow w.heap.size 59 4 (.slice a2 (j+1) c2) (j+1) (ax (j+1) (λj=>rdL t (k+6+4*j))):=by
  rw[tx,HZ.out];exact r1
 have hg:=Fv K.out.o r2;have U:=hg.blk K.out.x (by decide);have bc:Hid (Mid R k (k+6+4*(j+1)) w.heap.size t w (w6.setCell ⟨w.heap.size,5,none⟩ (.slice a2 (j+1) c2)) (.slice a2 (j+1) c2) (j+1)):=K.out.grew hg nlr a0 g.out.1;have y5:w6.cell? ⟨w.heap.size,5,none⟩=some (.slice a j c):=U.k 5;have y6:=U.frozen 5;have y7:=U.lt;clear r1 r2 a0 hg U K az aq b0 b1 b2 b3 b4 x5 xl
 try simp only[Act.put,Qvq,Qwx,Qwz]
 go_wp2_with fail;go_roundw
 case rel=>exact⟨j+1,a2,c2,by omega,by go_num,bc.out,bx.out⟩
 case measure=>simp[intOf];omega
def Dk:List Ax->List Ax->Prop
 | [],[]=>True
 | x :: l,y :: m=>yj x y/\Dk l m
 | _,_=>False
theorem Dk.len:∀{l m:List Ax},Dk l m->l.length=m.length
 | [],[],_=>rfl
 | _ :: _,_ :: _,h=>by rw[List.length_cons,List.length_cons,h.2.len]
 | [],_ :: _,h=>h.elim
 | _ :: _,[],h=>h.elim
theorem Lw{p:Pl}:∀{l m:List Ax} {y s:St},au p s->ae y s->Dk l m->ae (qr p y l) (qr p s m)
 | [],[],_,_,_,e,_=>e
 | x :: l,x' :: m,y,s,r,e,h=>Lw (l:=l) (m:=m) (y:=vh p y x) (s:=vh p s x') (Js r) (Lv r e h.1) h.2
 | [],_ :: _,_,_,_,_,h=>h.elim
 | _ :: _,[],_,_,_,_,h=>h.elim
theorem Wk(p:Pl)(s:St)(l m:List Ax):qr p s (l++m)=qr p (qr p s l) m:=List.foldl_append ..
theorem aas:(prog.info? 47).map (λi=>(i.zero,i.size,i.bytes))=some (some (.agg #[.int .i64 0,.int .i64 0,.int .i64 0,.int .i64 0,.int .i64 0,.slice none 0 0]),6,64):=by kernel_rfl
def Z8:Value->Nat
 | .slice _ n _=>n
 | _=>0
theorem cy.bt{A R m:Nat}{e t:TypeId}{w c:World}{s:Hs}{f:Nat->Value}(h:cy A e w s)(l:Bt R w c)(o:Blk w R t m f)(a:e≠t):cy A e c s:=by
 obtain⟨i,q,n,j⟩:=h;refine⟨i,q,n,λk => ?_⟩;obtain⟨g,p,d,b⟩:=j k;exact⟨g,p,d,l.blk b (Blk.ne2 b o a)⟩
theorem acg(w:World)(x:Ax)(e:TypeId):∀j u,(ww x)[j]?=some u->(w.alloc (.cells #[.int .i64 x.k,.int .i64 x.a,.int .i64 x.b,.int .i64 x.c,.int .i64 x.n,.slice x.ls.a x.ls.n x.ls.c] e)).cell? ((⟨w.heap.size,0,none⟩:Addr).add j)=some u:=by
 intro j u d;have g:(⟨w.heap.size,0,none⟩:Addr).add j=⟨w.heap.size,j,none⟩:=by
  unfold Addr.add;by_cases h:j=0
  .subst h;rfl
  rw[if_neg h];simp
 rw[g];have K:=Blk.new w #[.int .i64 x.k,.int .i64 x.a,.int .i64 x.b,.int .i64 x.c,.int .i64 x.n,.slice x.ls.a x.ls.n x.ls.c] e;have f:j<6:=(List.getElem?_eq_some_iff.1 d).1;rw[K.cell (j:=j) f,<-d]
 match j,f with
 | 0,_|1,_|2,_|3,_|4,_|5,_=>rfl
structure Rep(k:Nat)(t:List UInt8)(w wk:World)(v:Value)(l:List Ax)(zs:Nat->Ax):Prop where
 o:wk.ownsRow w.heap.size 47 6 v l.length (vi l.length zs)
 z:∀i (h:i<l.length),yj (zs i) l[i]/\cy w.heap.size 59 wk (zs i).ls
 kl:k<=t.length
 b:Below w.heap.size w wk
 rep:y9 t 60 0=(l++(y9 t (60-l.length) k).1,(y9 t (60-l.length) k).2)
theorem Rep.below{k:Nat}{t:List UInt8}{w c a:World}{v:Value}{l:List Ax}{zs:Nat->Ax}(h:Rep k t w c v l zs)(d:Below c.heap.size c a):Rep k t w a v l zs :=
 ⟨lv h.o d,λi hi=>⟨(h.z i hi).1,(h.z i hi).2.below d⟩,h.kl,h.b.trans (d.mono h.b.size),h.rep⟩
theorem Rep.bt{k m:Nat}{t:List UInt8}{w c a:World}{v:Value}{l:List Ax}{zs:Nat->Ax}(h:Rep k t w c v l zs)(d:Bt w.heap.size c a)(e:mw w.heap.size c t m):Rep k t w a v l zs :=
 ⟨Tc h.o d e (by decide),λi hi=>⟨(h.z i hi).1,(h.z i hi).2.bt d e (by decide)⟩,h.kl,h.b.trans (d.below nlr h.b.size),h.rep⟩
def F7(n:Nat)(zs:Nat->Ax)(x:Ax)(i:Nat):Ax:=if i=n then x else zs i
theorem Rep.more{k:Nat}{t:List UInt8}{w f e:World}{v j:Value}{l:List Ax}{zs:Nat->Ax}{x:Ax}(h:Rep k t w f v l zs)(d:vg t k=true)(hs:yj x (rdA t k))(m:cy w.heap.size 59 f x.ls)(p:l.length<60)(g:pk w.heap.size 47 f e)(n:e.ownsRow w.heap.size 47 6 j (l.length+1) (vi l.length zs++ww x)):Rep (k+o8 t k) t w e j (l++[rdA t k]) (F7 l.length zs x):=by
 have a:(l++[rdA t k]).length=l.length+1:=by simp
 refine⟨?_,λi hi => ?_,(Dc.1 d).2.2,g.below h.b nlr h.b.size,?_⟩
 .rw[a,vi,Jy (z':=zs) λi hi=>by unfold F7;rw[if_neg (by omega)],show F7 l.length zs x l.length=x from if_pos rfl];exact n
 .have o:i<l.length+1:=by rw[<-a];exact hi
  by_cases c:i=l.length
  .subst c;rw[List.getElem_append_right nlr,show F7 l.length zs x l.length=x from if_pos rfl];simp only[Nat.sub_self,List.getElem_cons_zero];exact⟨hs,m.grew g (by decide)⟩
  rw[List.getElem_append_left (by omega),show F7 l.length zs x i=zs i from if_neg c];exact⟨(h.z i (by omega)).1,(h.z i (by omega)).2.grew g (by decide)⟩
 rw[h.rep,a,show 60-l.length=60-(l.length+1)+1 by omega,Rl d];simp
structure D4(A:Nat)(w:World)(s:As):Prop where
 le:s.n<=s.c
 cap:s.c<=maxLen
 list:0<s.n->∃g,s.a=some ⟨g,0,none⟩/\A<=g/\Blk w g 47 (s.n*6) (λj=>(vi s.n s.z).getD j default)
 lines:∀i,i<s.n->cy A 59 w (s.z i).ls
theorem D4.at{A:Nat}{w:World}{s:As}(h:D4 A w s):s.At w:=by
 refine⟨h.le,h.cap,λi hi => ?_,λi hi=>(h.lines i hi).at⟩;obtain⟨g,b,d,a⟩:=h.list (by omega);refine⟨g,0,b,λj c => ?_⟩;rw[Nat.zero_add,a.cell (j:=i*6+j) (by omega)]
 congr 1
 exact Om hi c
theorem D4.below{A:Nat}{w b:World}{s:As}(h:D4 A w s)(a:Below w.heap.size w b):D4 A b s:=by
 refine⟨h.le,h.cap,λd => ?_,λi hi=>(h.lines i hi).below a⟩;obtain⟨g,f,c,e⟩:=h.list d;exact⟨g,f,c,e.below a⟩
theorem cy.btA{A R:Nat}{e:TypeId}{w a:World}{s:Hs}(h:cy A e w s)(k:Bt R w a)(n:R<A):cy A e a s:=by
 obtain⟨f,m,c,i⟩:=h;refine⟨f,m,c,λj => ?_⟩;obtain⟨g,l,b,d⟩:=i j;exact⟨g,l,b,k.blk d (by omega)⟩
theorem D4.bt{A R:Nat}{w b:World}{s:As}(h:D4 A w s)(a:Bt R w b)(d:R<A):D4 A b s:=by
 refine⟨h.le,h.cap,λe => ?_,λi hi=>(h.lines i hi).btA a d⟩;obtain⟨g,j,c,f⟩:=h.list e;exact⟨g,j,c,a.blk f (by omega)⟩
def Px(t:List UInt8)(w w':World)(s:As):Prop:=s.n=(pr t).length/\(∀i (h:i<(pr t).length),yj (s.z i) (pr t)[i])/\D4 w.heap.size w' s/\Below w.heap.size w w'
theorem Rep.done{k:Nat}{t:List UInt8}{w u:World}{v:Value}{l:List Ax}{zs:Nat->Ax}(h:Rep k t w u v l zs)(H:t.length<=4096)(A:y9 t (60-l.length) k=([],k)):∃s:As,v=s.val/\Px t w u s/\Ik t=k:=by
 have p:=h.rep;rw[A] at p;have m:pr t=l:=by unfold pr;rw[if_neg (by omega),p];simp
 have D:Ik t=k:=by unfold Ik;rw[if_neg (by omega),p]
 obtain⟨a,c,y,G⟩:=Ay h.o;refine⟨⟨a,l.length,c,zs⟩,y,⟨by rw[m],λi hi => ?_,?_,h.b⟩,D⟩
 .have e:(pr t)[i]=l[i]'(by rw[<-m];exact hi):=by simp only[m]
  rw[e];exact(h.z i (by rw[<-m];exact hi)).1
 have j:=h.o;rw[y] at j;refine⟨?_,?_,λB => ?_,λi hi=>(h.z i hi).2⟩
 .obtain⟨_,⟨d,f⟩|⟨g,cap,cur,d,f,n,q,_⟩⟩:=j
  .simp only[Value.slice.injEq] at d;show l.length<=c;omega
  simp only[Value.slice.injEq] at d;show l.length<=c;omega
 .obtain⟨_,⟨d,f⟩|⟨g,cap,cur,d,f,n,q,J,_⟩⟩:=j
  .simp only[Value.slice.injEq] at d;show c<=maxLen;omega
  simp only[Value.slice.injEq] at d;show c<=maxLen;omega
 have E:0<l.length:=B;have x:(Value.slice a l.length c) ≠ .slice none 0 0:=λe=>by simp only[Value.slice.injEq] at e;omega
 obtain⟨g,F,r,d,f,n,q⟩:=Blk.ofOwns j x;simp only[Value.slice.injEq] at r;exact⟨g,r.1,n,q⟩
theorem Lj(t:List UInt8)(w:World):
  Calls prog 17 #[.string ⟨t.toArray⟩] w λe w'=>∃s:As,e = .returned (.tuple #[s.val,.int .i64 (Ik t:Int),.int .i64 (Gj t)])/\Px t w w' s:=by
 have tl:((⟨t.toArray⟩:ByteArray).size)=t.length:=by simp[ByteArray.size]
 by_cases d:4096<t.length
 .have q1:(4096:Int)<(t.length:Int):=by omega
  have p:Hid (Gj t=2/\Ik t=0/\pr t=[]):=⟨if_pos d,if_pos d,if_pos d⟩;go_enter func17,ntmps17;go_wp2_with fail;refine Xzq (v := .tuple #[.slice none 0 0,.int .i64 0,.int .i64 2]) (by simp[results,results17,go_sem]) rfl ?_;refine⟨⟨none,0,0,λ_=>⟨0,0,0,0,0,⟨none,0,0,λ_=>⟨0,0,0,0⟩⟩⟩⟩,by rw[p.out.1,p.out.2.1];rfl,by rw[p.out.2.2];rfl,λi hi => ?_,⟨Nat.le_refl _,Qxz _,λhi=>absurd hi (Qzq _),λi hi=>absurd hi (Qzq _)⟩,Below.refl _ _⟩;rw[p.out.2.2] at hi;exact absurd hi (Qzq _)
 have q1:¬(4096:Int)<(t.length:Int):=by omega
 have V:Hid (t.length<=4096):=by show _<=_;omega
 have p:Hid (Gj t=0):=if_neg d;obtain⟨iA,af,ay,ah,aq⟩:=info_parts aas;obtain⟨W0,hW,KR,KB⟩:∃W,w.alloc (.cells #[.string ⟨t.toArray⟩,.int .i64 0] 85)=W/\mw w.heap.size W t 0/\Below w.heap.size w W:=⟨_,rfl,(Blk.mk' (cur:=#[.string ⟨t.toArray⟩,.int .i64 0]) rfl rfl).congr (λj r=>by match j,r with|0,_=>rfl|1,_=>rfl),brf.alloc nlr _⟩;have HW:Hid (w.alloc (.cells #[.string ⟨t.toArray⟩,.int .i64 0] 85)=W0):=hW;have S:Hid (Rep 0 t w W0 (.slice none 0 0) [] (λ_=>⟨0,0,0,0,0,⟨none,0,0,λ_=>⟨0,0,0,0⟩⟩⟩)/\mw w.heap.size W0 t 0):=⟨⟨World.ownsRow_nil _ _ _ _,λi h=>absurd h (Qzq _),Qxz _,KB,rfl⟩,KR⟩;clear hW KR KB d;go_enter func17,ntmps17;go_wp2_with fail;rw[HW.out];clear HW
 go_loopw [6,7] (λav kv wk=>∃(l:List Ax) (zs:Nat->Ax) (a:Option Addr) (c k:Nat),l.length<=60/\av = .slice a l.length c/\kv = .int .i64 (k:Int)/\Hid (Rep k t w wk (.slice a l.length c) l zs/\mw w.heap.size wk t k)) (λav _ _=>60-Z8 av)
 case atStart=>exact⟨[],_,none,0,0,Qxz _,rfl,rfl,S⟩
 obtain⟨l,zs,a,c,k,hl,rfl,rfl,g⟩:=hrel;clear S;by_cases ax:l.length<60;rotate_left
 .have q2:¬(l.length:Int)<60:=by omega
  have HD:Hid (∃s:As,.slice a l.length c=s.val/\Px t w wr s/\Ik t=k):=g.out.1.done V.out (by rw[show 60-l.length=0 by omega];rfl);clear g;go_wp2_with fail;obtain⟨s,hv,B,hN⟩:=HD.out;refine Xzq (v := .tuple #[.slice a l.length c,.int .i64 (k:Int),.int .i64 0]) (by simp[results,results17,go_sem]) rfl ?_;exact⟨s,by rw[hv,p.out,hN],B⟩
 have q2:(l.length:Int)<60:=by omega
 go_wp2_with fail;refine(aag w.heap.size t k wr g.out.2 g.out.1.kl V.out).mono ?_;rintro e f ⟨⟨A,ls,rfl,hn,hz,ho,hr⟩|⟨M,rfl⟩,H⟩;rotate_left
 .have J:Below f.heap.size f (f.alloc (.cells #[.int .i64 0,.int .i64 0,.int .i64 0,.int .i64 0,.int .i64 0,.slice none 0 0] 47)):=brf.alloc nlr _;have HD:Hid (∃s:As,.slice a l.length c=s.val/\Px t w (f.alloc (.cells #[.int .i64 0,.int .i64 0,.int .i64 0,.int .i64 0,.int .i64 0,.slice none 0 0] 47)) s/\Ik t=k):=((g.out.1.bt H g.out.2).below J).done V.out (Tf M);clear g H M J;go_wp2_with fail;obtain⟨s,hv,B,hN⟩:=HD.out;refine Xzq (v := .tuple #[.slice a l.length c,.int .i64 (k:Int),.int .i64 0]) (by simp[results,results17,go_sem]) rfl ?_;exact⟨s,by rw[hv,p.out,hN],B⟩
 have L:yj (Ax.mk (rdN t k) (rdN t (k+1)) (rdN t (k+2)) (rdN t (k+3)) (rdN t (k+4)) ls) (rdA t k):=⟨rfl,rfl,rfl,rfl,rfl,hn,λj r=>by
  show ls.z j=rdZ t k j;rw[abv r];exact hz j (by rw[hn];exact r)⟩
 generalize hxe:Ax.mk (rdN t k) (rdN t (k+1)) (rdN t (k+2)) (rdN t (k+3)) (rdN t (k+4)) ls=x at *
 have Q:x.ls=ls:=by rw[<-hxe]
 obtain⟨y,F,q⟩:∃W,(f.alloc (.cells #[.int .i64 x.k,.int .i64 x.a,.int .i64 x.b,.int .i64 x.c,.int .i64 x.n,.slice x.ls.a x.ls.n x.ls.c] 47)).alloc (.cells #[.int .i64 x.k,.int .i64 x.a,.int .i64 x.b,.int .i64 x.c,.int .i64 x.n,.slice x.ls.a x.ls.n x.ls.c] 47)=W/\Below f.heap.size f W:=⟨_,rfl,(brf.alloc nlr _).alloc (by simp) _⟩;have P:Hid ((f.alloc (.cells #[.int .i64 x.k,.int .i64 x.a,.int .i64 x.b,.int .i64 x.c,.int .i64 x.n,.slice x.ls.a x.ls.n x.ls.c] 47)).alloc (.cells #[.int .i64 x.k,.int .i64 x.a,.int .i64 x.b,.int .i64 x.c,.int .i64 x.n,.slice x.ls.a x.ls.n x.ls.c] 47)=y):=F;have K:Hid (∀j u,(ww x)[j]?=some u->y.cell? ((⟨f.heap.size+1,0,none⟩:Addr).add j)=some u):=by
  have h:=acg (f.alloc (.cells #[.int .i64 x.k,.int .i64 x.a,.int .i64 x.b,.int .i64 x.c,.int .i64 x.n,.slice x.ls.a x.ls.n x.ls.c] 47)) x 47;rw[F] at h;intro j u r;have:=h j u r
  simpa using this
 have m:Hid (Rep k t w y (.slice a l.length c) l zs):=(g.out.1.bt H g.out.2).below q;have D:Hid (cy w.heap.size 59 y x.ls/\mw w.heap.size y t (k+o8 t k)):=⟨by rw[Q];exact(ho.mono g.out.1.b.size).below q,Blk.below hr q⟩;have E:=qa2 L A;have T:=hid m.out.b.size;clear hn hz ho hr L hxe Q A F q H g;simp only[Ax.val,Ax.cells];go_wp2_with(at_builtin;rw[P.out];refine wpList_append_own y rfl (.tmp 24) (.tmp 26) 36 rfl w.heap.size 47 iA (.agg #[.int .i64 0,.int .i64 0,.int .i64 0,.int .i64 0,.int .i64 0,.slice none 0 0]) 6 64 underlying36 af ay ah aq rfl (by decide) (.slice a l.length c) l.length (vi l.length zs) rfl m.out.o ⟨f.heap.size+1,0,none⟩ 1 1 (ww x) rfl rfl K.out (λu hu=>by simp[ww] at hu;rcases hu with rfl|rfl|rfl|rfl|rfl|rfl<;>rfl) (by unfold maxLen;omega) (by omega) T.out ?_);intro v2 Y X r2 _;obtain⟨a2,c2,rfl,-⟩:=Ay X;have U:=Fv m.out.o r2;have am:Hid (Rep (k+o8 t k) t w Y (.slice a2 (l.length+1) c2) (l++[rdA t k]) (F7 l.length zs x)):=m.out.more E.out.2 E.out.1 D.out.1 ax U X;have G:Hid (mw w.heap.size Y t (k+o8 t k)):=U.blk D.out.2 (by decide);have y0:Y.cell? ⟨w.heap.size,1,none⟩=some (.int .i64 ((k+o8 t k:Nat):Int)):=G.out.k 1;have y1:=Blk.lt G.out
 generalize hke:k+o8 t k=K2 at *
 clear X r2 U m D E K P T hke
 try simp only[Act.put,Qvq,Qwx,Qwz]
 go_wp2_with fail;go_roundw
 case rel=>exact⟨l++[rdA t k],F7 l.length zs x,a2,c2,K2,by simp;omega,by simp,rfl,(by rw[show(l++[rdA t k]).length=l.length+1 by simp];exact am.out),G.out⟩
 case measure=>simp[Z8];omega
def acl(w:World)(b:Nat)(x:Ax):Prop:=w.cell? ⟨b,0,none⟩=some (.int .i64 x.k)/\w.cell? ⟨b,1,none⟩=some (.int .i64 x.a)/\w.cell? ⟨b,2,none⟩=some (.int .i64 x.b)/\w.cell? ⟨b,3,none⟩=some (.int .i64 x.c)/\w.cell? ⟨b,4,none⟩=some (.int .i64 x.n)/\w.cell? ⟨b,5,none⟩=some (.slice x.ls.a x.ls.n x.ls.c)/\b<w.heap.size
def abc(w:World)(b:Nat):Prop:=b<w.heap.size/\w.frozen? ⟨b,0,none⟩=false/\w.cell? ⟨b,0,none⟩=some (.slice .none 0 0)/\w.frozen? ⟨b,1,none⟩=false/\w.cell? ⟨b,1,none⟩=some (.slice .none 0 0)/\w.frozen? ⟨b,2,none⟩=false/\w.cell? ⟨b,2,none⟩=some (.slice .none 0 0)/\w.frozen? ⟨b,3,none⟩=false/\w.cell? ⟨b,3,none⟩=some (.slice .none 0 0)/\w.frozen? ⟨b,4,none⟩=false/\w.cell? ⟨b,4,none⟩=some (.slice .none 0 0)/\w.frozen? ⟨b,5,none⟩=false/\w.cell? ⟨b,5,none⟩=some (.slice .none 0 0)/\w.frozen? ⟨b,6,none⟩=false/\w.cell? ⟨b,6,none⟩=some (.slice .none 0 0)
theorem o7(p:Pl)(s:St)(x:Ax)(w:World)(m:p.At w)(hs:s.At w)(hx:x.ls.At w):∃f,Hid ((((w.alloc (.cells #[.slice p.ab p.nb p.cb,.slice p.sa p.ns p.cs] 25)).alloc (.cells #[.slice s.on.a s.on.n s.on.c,.slice s.os.a s.os.n s.os.c,.slice s.hs.a s.hs.n s.hs.c,.slice s.ms.a s.ms.n s.ms.c,.slice s.si.a s.si.n s.si.c,.slice s.so.a s.so.n s.so.c,.slice s.sf.a s.sf.n s.sf.c] 31)).alloc (.cells #[.int .i64 x.k,.int .i64 x.a,.int .i64 x.b,.int .i64 x.c,.int .i64 x.n,.slice x.ls.a x.ls.n x.ls.c] 47)).alloc (.cells #[.slice .none 0 0,.slice .none 0 0,.slice .none 0 0,.slice .none 0 0,.slice .none 0 0,.slice .none 0 0,.slice .none 0 0] 31)=f) /\
  Hid (∀g,Below f.heap.size f g->lq g w.heap.size (w.heap.size+1) p s/\p.At g/\s.At g/\Below w.heap.size w g/\Blk g (w.heap.size+3) 31 7 (λ_ => .slice .none 0 0)/\Blk g (w.heap.size+2) 47 6 (λj=>x.cells.getD j default)/\x.ls.At g) /\
  Hid (p.At f/\s.At f/\x.ls.At f)/\Hid (w.heap.size<=f.heap.size)/\lq f w.heap.size (w.heap.size+1) p s/\acl f (w.heap.size+2) x/\abc f (w.heap.size+3):=by
 obtain⟨f,o,e,l,i,d⟩:∃W,(((w.alloc (.cells #[.slice p.ab p.nb p.cb,.slice p.sa p.ns p.cs] 25)).alloc (.cells s.cells 31)).alloc (.cells x.cells 47)).alloc (.cells #[.slice .none 0 0,.slice .none 0 0,.slice .none 0 0,.slice .none 0 0,.slice .none 0 0,.slice .none 0 0,.slice .none 0 0] 31)=W/\Below w.heap.size w W/\lq W w.heap.size (w.heap.size+1) p s/\Blk W (w.heap.size+2) 47 6 (λj=>x.cells.getD j default)/\Blk W (w.heap.size+3) 31 7 (λ_ => .slice .none 0 0):=
  ⟨_,rfl,((js _ _ _).alloc (by simp;omega) _).alloc (by simp;omega) _,((nk w p s _ _).below (brf.alloc nlr _)).below (brf.alloc nlr _),(Blk.mk' (cur:=x.cells) (by simp) rfl).alloc _,(Blk.mk' (cur:=#[.slice .none 0 0,.slice .none 0 0,.slice .none 0 0,.slice .none 0 0,.slice .none 0 0,.slice .none 0 0,.slice .none 0 0]) (by simp) rfl).congr (λj q=>by match j,q with|0,_=>rfl|1,_=>rfl|2,_=>rfl|3,_=>rfl|4,_=>rfl|5,_=>rfl|6,_=>rfl)⟩
 exact⟨f,o,λg h=>⟨l.below h,(m.below e).below h,(hs.below e).below h,e.trans (h.mono e.size),d.below h,i.below h,(hx.below e).below h⟩,⟨m.below e,hs.below e,hx.below e⟩,e.size,l,⟨i.k 0,i.k 1,i.k 2,i.k 3,i.k 4,i.k 5,i.lt⟩,d.lt,d.frozen 0,d.k 0,d.frozen 1,d.k 1,d.frozen 2,d.k 2,d.frozen 3,d.k 3,d.frozen 4,d.k 4,d.frozen 5,d.k 5,d.frozen 6,d.k 6⟩
theorem Lm(p r u:Nat)(s:St)(order line:Int)(w:World)(hs:s.os.At w)(Q:p<w.heap.size)(U:r<w.heap.size)(T:u<w.heap.size)(c1:w.cell? ⟨p,1,none⟩=some (.slice s.os.a s.os.n s.os.c))(c2:w.cell? ⟨r,0,none⟩=some (.int .i64 order))(c3:w.cell? ⟨u,0,none⟩=some (.int .i64 line)):
  Calls prog 161 #[.pointer (some ⟨p,0,none⟩),.pointer (some ⟨r,0,none⟩),.pointer (some ⟨u,0,none⟩)] w λe D=>e = .returned (.bool (xi s order line))/\Below w.heap.size w D:=by
 have x:=hs.le;have f:=hs.cap;have t:=f;unfold maxLen at t;have K:s.os.n<=maxLen:=Qzx x f;have F:=Qqq c1;have M:=Qqq c2;have P:=Qqq c3;clear c1 c2 c3;cases j:inB order 0 ((s.os.n:Int)-1)
 .have l:Hid (xi s order line=true):=by show xi s order line=true;unfold xi;rw[j];rfl
  clear hs;go_enter func161,ntmps161;go_wp2_with fail;refine Qxq (by kernel_rfl) (by kernel_rfl) ?_
  repeat(go_big_quiet_step((go_at_call 71;exact Xxz ((dk _ _ _ (by assumption)).mono (λ_ _ h=>⟨h.1,h.2▸Below.refl _ _⟩)))))
  refine Qqz ?_;intro _ g;obtain⟨⟨B,v⟩,d⟩:=g;subst d;go_wp2_with fail;go_ret;exact⟨by rw[l.out];rfl,Qxx _ _ _⟩
 obtain⟨m,rfl⟩:=Qzz (aq j).1;have G:m<s.os.n:=by have:=(aq j).2;omega
 obtain⟨b,o,k,X,J,y,q⟩:=hs.ods m G;have l:Hid (xi s (m:Int) line = !(inB line 0 (((s.os.z m).ls.n:Int)-1))):=by show xi s (m:Int) line=_;unfold xi;rw[j];rfl
 have i:=q.cap;have A:=q.le;have L:(s.os.z m).ls.n<=maxLen:=Qzx A i;have Y:=Qqq y;have m1:(0:Int)<=(m:Int):=by omega
 have S:(m:Int)<(s.os.n:Int):=by omega
 rw[k] at F;unfold maxLen at i;clear J y q hs k
 generalize (s.os.z m).ls.n=H at *
 generalize (s.os.z m).ls.c=W at *
 generalize (s.os.z m).ls.a=V at *
 cases E:inB line 0 ((H:Int)-1)
 all_goals
  go_enter func161,ntmps161;go_wp2_with fail;refine Qxq (by kernel_rfl) (by kernel_rfl) ?_
  repeat(go_big_quiet_step((go_at_call 71;exact Xxz ((dk _ _ _ (by assumption)).mono (λ_ _ h=>⟨h.1,h.2▸Below.refl _ _⟩)))))
  refine Qqz ?_;intro _ g;obtain⟨⟨B,v⟩,d⟩:=g;subst d;go_wp2_with fail;go_ret;exact⟨by rw[l.out,E];simp,Qxx _ _ _⟩
theorem Nb(p:Pl)(s:St)(order line n but:Int)(w:World)(hp:p.At w)(hs:s.At w):
  Calls prog 141 #[p.val,s.val,.int .i64 order,.int .i64 line,.int .i64 n,.int .i64 but] w λe w'=>e = .returned (.int .i64 (ew p s order line n but))/\Below w.heap.size w w':=by
 obtain⟨W0,hW,ac,X0,K2,K3⟩:∃W,((((w.alloc (.cells #[.slice p.ab p.nb p.cb,.slice p.sa p.ns p.cs] 25)).alloc (.cells s.cells 31)).alloc (.cells #[.int .i64 order] 3)).alloc (.cells #[.int .i64 line] 3))=W/\Below w.heap.size w W/\lq W w.heap.size (w.heap.size+1) p s/\Blk W (w.heap.size+2) 3 1 (λ_ => .int .i64 order)/\Blk W (w.heap.size+3) 3 1 (λ_ => .int .i64 line):=
  ⟨_,rfl,((js _ _ _).alloc (by simp;omega) _).alloc (by simp;omega) _,((nk w p s _ _).below (brf.alloc nlr _)).below (brf.alloc nlr _),((Blk.mk' (cur:=#[.int .i64 order]) (by simp) rfl).congr (λj hj=>by match j,hj with|0,_=>rfl)).alloc _,(Blk.mk' (cur:=#[.int .i64 line]) (by simp) rfl).congr (λj hj=>by match j,hj with|0,_=>rfl)⟩
 have HC:Hid (∀T,Below W0.heap.size W0 T->lq T w.heap.size (w.heap.size+1) p s/\p.At T/\s.At T/\Below w.heap.size w T/\Blk T (w.heap.size+2) 3 1 (λ_ => .int .i64 order)/\Blk T (w.heap.size+3) 3 1 (λ_ => .int .i64 line)):=λT h=>⟨X0.below h,(hp.below ac).below h,(hs.below ac).below h,ac.trans (h.mono ac.size),K2.below h,K3.below h⟩;have HW:Hid ((((w.alloc (.cells #[.slice p.ab p.nb p.cb,.slice p.sa p.ns p.cs] 25)).alloc (.cells #[.slice s.on.a s.on.n s.on.c,.slice s.os.a s.os.n s.os.c,.slice s.hs.a s.hs.n s.hs.c,.slice s.ms.a s.ms.n s.ms.c,.slice s.si.a s.si.n s.si.c,.slice s.so.a s.so.n s.so.c,.slice s.sf.a s.sf.n s.sf.c] 31)).alloc (.cells #[.int .i64 order] 3)).alloc (.cells #[.int .i64 line] 3)=W0):=hW;have leb:=hp.leb;have aa:=hp.capb;have capb:=aa;unfold maxLen at capb;have H:p.nb<=maxLen:=Qzx leb aa;clear hW X0 K2 K3 hp hs;unfold Pl.val St.val;go_enter func141,ntmps141;go_wp2_with fail;rw[HW.out];obtain⟨X,m,f,F,-,-⟩:=HC.out W0 brf;refine(lm p s W0 m f).mono ?_;rintro e w1 ⟨rfl,hB⟩;clear X m f F HW;obtain⟨⟨⟨l1,d0,d1⟩,l2,Q,c1,c2,c3,c4,c5,c6⟩,m,f,F,v,t⟩:=HC.out w1 hB;have g:=hid F;clear F;by_cases h0:ag p s=0;rotate_left
 .have i:Hid (ew p s order line n but=ag p s):=Hg h0;clear m f v t Q c1 c2 c3 c4 c5 c6;go_wp2_with fail;go_ret;exact⟨by rw[i.out];rfl,g.out⟩
 have K:=hid h0;have HF:Hid (cv p s):=(ed h0).fm;rw[h0];clear h0;have aq:Hid (Calls prog 161 #[.pointer (some ⟨w.heap.size+1,0,none⟩),.pointer (some ⟨w.heap.size+1+1,0,none⟩),.pointer (some ⟨w.heap.size+1+1+1,0,none⟩)] w1 λe w'=>e = .returned (.bool (xi s order line))/\Below w1.heap.size w1 w'):=Lm (w.heap.size+1) (w.heap.size+2) (w.heap.size+3) s order line w1 f.os l2 v.lt t.lt c1 (v.k 0) (t.k 0);have eg:=enters_of func161 (by kernel_rfl) rfl;clear m f v t Q c1 c2 c3 c4 c5 c6 d1;go_wp2_with fail;refine aq.out.mono ?_;rintro e w2 ⟨rfl,ap⟩;have bi:=hB.trans (ap.mono hB.size);clear l1 d0 l2 ap aq g hB eg;obtain⟨⟨⟨l1,d0,d1⟩,l2,Q,c1,c2,c3,c4,c5,c6⟩,m,f,F,v,t⟩:=HC.out w2 bi;have g:=hid F;clear F;have U:Hid (∀a b c d,xi s order line=a->inB n 0 200=b->(but !=-1)=c->inB but 0 ((p.nb:Int)-1)=d->qe p s order line n but=(a || !b||(c && !d))):=λa b c d e1 e2 e3 e4=>by unfold qe;rw[e1,e2,e3,e4]
 cases J:xi s order line;rotate_left
 .have i:Hid (ew p s order line n but=3):=zv K.out (by rw[U.out _ _ _ _ J rfl rfl rfl];rfl);clear m f v t Q c1 c2 c3 c4 c5 c6 J;go_wp2_with fail;go_ret;exact⟨by rw[i.out];rfl,g.out⟩
 have ao:=J;cases m2:inB n 0 200
 .have i:Hid (ew p s order line n but=3):=zv K.out (by rw[U.out _ _ _ _ J m2 rfl rfl];rfl);clear m f v t Q c1 c2 c3 c4 c5 c6 J ao;go_wp2_with(go_at_call 63;refine ah (ch _ _ _ _) ?_);go_ret;exact⟨by rw[i.out];rfl,g.out⟩
 cases m3:(but !=-1)
 .have L:Hid (qe p s order line n but=false):=by show qe p s order line n but=false;rw[U.out _ _ _ _ J m2 m3 rfl];rfl
  have cf:=m3;obtain⟨a,b,-,-⟩:=Hh L.out;obtain⟨o,rfl⟩:=Qzz a.1;obtain⟨l,rfl⟩:=Qzz b.1;have ho:o<s.os.n:=a.2;have hl:l<(s.os.z o).ls.n:=b.2;obtain⟨bo,oo,P,bb,z0,z1,u⟩:=f.os.ods o ho;obtain⟨bl,ol,S,bh,y0,y1,y2,y3⟩:=u.hds l hl;have u0:=v.k 0;have u1:=t.k 0;have u2:=v.lt;have u3:=t.lt;have q0:(0:Int)<=(o:Int):=by omega
  have q1:(o:Int)<(s.os.n:Int):=by omega
  have q2:(0:Int)<=(l:Int):=by omega
  have q3:(l:Int)<((s.os.z o).ls.n:Int):=by omega
  have v1:=f.os.le;have v2:=f.os.cap;have v3:=u.le;have v4:=u.cap;unfold maxLen at v2 v4;have A:Hid (¬(s.os.z o).k=1->ew p s o l n but=6):=λh=>D8 K.out L.out h;have G:Hid ((s.os.z o).k=1->((s.os.z o).ls.z l).n<n->ew p s o l n but=3):=λh Y=>D7 K.out L.out h Y;have D:Hid ((s.os.z o).k=1->¬((s.os.z o).ls.z l).n<n->ew p s o l n but=0):=λh Y=>Hf K.out L.out h Y;rw[P] at c1;rw[S] at z1;clear m f v t Q c2 c3 c4 c5 c6 J P S u y0 y1 y2 a b U
  generalize (s.os.z o).k=V at *
  generalize ((s.os.z o).ls.z l).n=y at *
  generalize (s.os.z o).ls.n=LN at *
  generalize (s.os.z o).ls.c=LC at *
  by_cases r:V=1;rotate_left
  .have i:Hid (ew p s o l n but=6):=A.out r;have g2:(V !=1)=true:=by simpa using r
   clear A G D r;go_wp2_with(first|(go_at_call 63;refine ah (ch _ _ _ _) ?_)|(go_at_call 71;refine ah (dk _ _ _ H) ?_));go_ret;exact⟨by rw[i.out];rfl,g.out⟩
  have g2:(V !=1)=false:=by rw[r];rfl
  have t1:=Qqq c1;have t2:=Qqq u0;have t3:=Qqq u1;have t4:=Qqq z1;have t5:=Qqq y3;have E:Hid (y<n->ew p s o l n but=3):=G.out r;have x:Hid (¬y<n->ew p s o l n but=0):=D.out r;clear A G D r;cases M:decide (y<n)
  .have i:Hid (ew p s o l n but=0):=x.out (of_decide_eq_false M);have g4:¬y<n:=of_decide_eq_false M;clear E x;go_wp2_with(first|(go_at_call 63;refine ah (ch _ _ _ _) ?_)|(go_at_call 71;refine ah (dk _ _ _ H) ?_));refine Qxq (by kernel_rfl) (by kernel_rfl) ?_
   repeat(go_big_quiet_step(fail))
   refine Qqz ?_;intro _ B;obtain⟨⟨dq,ai⟩,q⟩:=B;subst q;go_wp2_with fail;go_ret;exact⟨by rw[i.out];rfl,g.out.trans ((Qxx _ _ _).mono g.out.size)⟩
  have i:Hid (ew p s o l n but=3):=E.out (of_decide_eq_true M);have g4:y<n:=of_decide_eq_true M;clear E x;go_wp2_with(first|(go_at_call 63;refine ah (ch _ _ _ _) ?_)|(go_at_call 71;refine ah (dk _ _ _ H) ?_));refine Qxq (by kernel_rfl) (by kernel_rfl) ?_
  repeat(go_big_quiet_step(fail))
  refine Qqz ?_;intro _ B;obtain⟨⟨dq,ai⟩,q⟩:=B;subst q;go_wp2_with fail;go_ret;exact⟨by rw[i.out];rfl,g.out.trans ((Qxx _ _ _).mono g.out.size)⟩
 cases m4:inB but 0 ((p.nb:Int)-1)
 .have i:Hid (ew p s order line n but=3):=zv K.out (by rw[U.out _ _ _ _ J m2 m3 m4];rfl);clear m f v t Q c1 c2 c3 c4 c5 c6 J ao;go_wp2_with(first|(go_at_call 63;refine ah (ch _ _ _ _) ?_)|(go_at_call 71;refine ah (dk _ _ _ H) ?_));go_ret;exact⟨by rw[i.out];rfl,g.out⟩
 have L:Hid (qe p s order line n but=false):=by show qe p s order line n but=false;rw[U.out _ _ _ _ J m2 m3 m4];rfl
 obtain⟨a,b,-,-⟩:=Hh L.out;obtain⟨o,rfl⟩:=Qzz a.1;obtain⟨l,rfl⟩:=Qzz b.1;have ho:o<s.os.n:=a.2;have hl:l<(s.os.z o).ls.n:=b.2;obtain⟨bo,oo,P,bb,z0,z1,u⟩:=f.os.ods o ho;obtain⟨bl,ol,S,bh,y0,y1,y2,y3⟩:=u.hds l hl;have u0:=v.k 0;have u1:=t.k 0;have u2:=v.lt;have u3:=t.lt;have q0:(0:Int)<=(o:Int):=by omega
 have q1:(o:Int)<(s.os.n:Int):=by omega
 have q2:(0:Int)<=(l:Int):=by omega
 have q3:(l:Int)<((s.os.z o).ls.n:Int):=by omega
 have v1:=f.os.le;have v2:=f.os.cap;have v3:=u.le;have v4:=u.cap;unfold maxLen at v2 v4;have A:Hid (¬(s.os.z o).k=1->ew p s o l n but=6):=λh=>D8 K.out L.out h;have G:Hid ((s.os.z o).k=1->((s.os.z o).ls.z l).n<n->ew p s o l n but=3):=λh Y=>D7 K.out L.out h Y;have D:Hid ((s.os.z o).k=1->¬((s.os.z o).ls.z l).n<n->ew p s o l n but=0):=λh Y=>Hf K.out L.out h Y;rw[P] at c1;rw[S] at z1;clear m f v t Q c2 c3 c4 c5 c6 J P S u y0 y1 y2 a b U
 generalize (s.os.z o).k=V at *
 generalize ((s.os.z o).ls.z l).n=y at *
 generalize (s.os.z o).ls.n=LN at *
 generalize (s.os.z o).ls.c=LC at *
 by_cases r:V=1;rotate_left
 .have i:Hid (ew p s o l n but=6):=A.out r;have g2:(V !=1)=true:=by simpa using r
  clear A G D r;go_wp2_with(first|(go_at_call 63;refine ah (ch _ _ _ _) ?_)|(go_at_call 71;refine ah (dk _ _ _ H) ?_));go_ret;exact⟨by rw[i.out];rfl,g.out⟩
 have g2:(V !=1)=false:=by rw[r];rfl
 have t1:=Qqq c1;have t2:=Qqq u0;have t3:=Qqq u1;have t4:=Qqq z1;have t5:=Qqq y3;have E:Hid (y<n->ew p s o l n but=3):=G.out r;have x:Hid (¬y<n->ew p s o l n but=0):=D.out r;clear A G D r;cases M:decide (y<n)
 .have i:Hid (ew p s o l n but=0):=x.out (of_decide_eq_false M);have g4:¬y<n:=of_decide_eq_false M;clear E x;go_wp2_with(first|(go_at_call 63;refine ah (ch _ _ _ _) ?_)|(go_at_call 71;refine ah (dk _ _ _ H) ?_));refine Qxq (by kernel_rfl) (by kernel_rfl) ?_
  repeat(go_big_quiet_step(fail))
  refine Qqz ?_;intro _ B;obtain⟨⟨dq,ai⟩,q⟩:=B;subst q;go_wp2_with fail;go_ret;exact⟨by rw[i.out];rfl,g.out.trans ((Qxx _ _ _).mono g.out.size)⟩
 have i:Hid (ew p s o l n but=3):=E.out (of_decide_eq_true M);have g4:y<n:=of_decide_eq_true M;clear E x;go_wp2_with(first|(go_at_call 63;refine ah (ch _ _ _ _) ?_)|(go_at_call 71;refine ah (dk _ _ _ H) ?_));refine Qxq (by kernel_rfl) (by kernel_rfl) ?_
 repeat(go_big_quiet_step(fail))
 refine Qqz ?_;intro _ B;obtain⟨⟨dq,ai⟩,q⟩:=B;subst q;go_wp2_with fail;go_ret;exact⟨by rw[i.out];rfl,g.out.trans ((Qxx _ _ _).mono g.out.size)⟩
attribute [local go_sem] Oper.semAt_some
theorem Uk(p:Pl)(f:Bool){k m:Nat}(h:k<=m):frL p f k <+: frL p f m:=by
 induction m with
 | zero=>rw[show k=0 by omega];exact List.prefix_refl _
 | succ m ih =>
  by_cases b:k=m+1
  .rw[b];exact List.prefix_refl _
  refine(ih (by omega)).trans ?_;by_cases a:(p.zb m).front=f
  .rw[ut a];exact List.prefix_append _ _
  rw[vt a];exact List.prefix_refl _
def z9(n₀ Bf:Nat)(A B:World):Prop:=Below n₀ A B/\(∀v,A.cell? ⟨Bf,0,none⟩=some v->B.cell? ⟨Bf,0,none⟩=some v)
theorem T1(F:Fence)(n:Nat)(h6:F.fn 149)(X:F.round=none)(hn:1<=n)(l Q d g:Nat)(p:Pl)(f:Bool)(J Jx:List Int->World->Prop)
  (hY:∀pre x W,J pre W->pre.length<p.nb->YieldAt F (n-1) prog l #[.int .i64 x] W λe a =>
   (e = .returned (.bool true)/\J (pre++[x]) a/\z9 g d W a)\/(e = .returned (.bool false)/\Jx (pre++[x]) a))
  (W:World) (hJ:AbidesFrom W.heap.size J) (G:g<=W.heap.size) (ai:W.cell? ⟨Q,0,none⟩=some (.slice p.ab p.nb p.cb)) (V:W.cell? ⟨d,0,none⟩=some (.bool f)) (aj:p.nb<=p.cb) (K:p.cb<=maxLen)
  (hL:∀a,Below g W a->se a p.ab p.nb p.zb) (h0:J [] W) :
  CallsIn F n prog 149 #[.func (.yield l) #[] #[],.pointer (some ⟨Q,0,none⟩),.pointer (some ⟨d,0,none⟩)] W λe a=>(∃v,e = .returned v) /\
   ((∃ys,ys=frL p f p.nb/\J ys a)\/(∃pre,pre <+: frL p f p.nb/\Jx pre a)):=by
 unfold maxLen at K;have Y:Hid (∀wr,Below g W wr->W.heap.size<=wr.heap.size):=λwr h=>h.size;have z:Hid (∀pre A o,J pre A->J pre (A.alloc o)):=λpre A o h=>hJ pre A (A.alloc o) none h (World.grownBy_alloc A o none) (λr e=>by cases e);refine callsIn_of_wp func149 rfl h6 ?_ X;simp only[ntmps149,List.size_toArray,List.length_cons,List.length_nil,Nat.reduceAdd,Nat.reduceSub,Array.replicate_succ,Array.replicate_zero,List.push_toArray,List.append_toArray,Xqx,Xqz]
 gi_wp2
 gi_loopw [9] (λi wr=>∃k:Nat,k<=p.nb/\i = .int .i64 k/\J (frL p f k) wr/\Below g W wr/\wr.cell? ⟨d,0,none⟩=some (.bool f)) (λi _=>p.nb-(intOf i).toNat)
 case atStart=>exact⟨0,Qxz _,rfl,h0,Below.refl _ _,V⟩
 obtain⟨k,hk,rfl,q,m,t⟩:=hrel;by_cases T:k<p.nb;rotate_left
 .gi_wp2
  go_end0
  have U:k=p.nb:=by omega
  subst U;exact⟨⟨_,rfl⟩,.inl ⟨_,rfl,q⟩⟩
 obtain⟨b,o,E,hb,z0,z1,z2,z3⟩:=hL _ m k T;have m1:(0:Int)<=(k:Int):=by omega
 have u:d<wr.heap.size:=World.block_lt_of_cell? wr _ t;have ak:=Jb p f k;rw[E];clear E;by_cases w:(p.zb k).front=f;rotate_left
 .have c:=z.out _ wr (.cells #[.bool (p.zb k).front,.int .i64 (p.zb k).room,.int .i64 (p.zb k).low,.int .i64 (p.zb k).high] 68) q;rw[<-vt w] at c;have y:=m.alloc (Qzx G (Y.out wr m)) (.cells #[.bool (p.zb k).front,.int .i64 (p.zb k).room,.int .i64 (p.zb k).low,.int .i64 (p.zb k).high] 68);have B:=(((Below.refl wr.heap.size wr).alloc nlr (.cells #[.bool (p.zb k).front,.int .i64 (p.zb k).room,.int .i64 (p.zb k).low,.int .i64 (p.zb k).high] 68)).cell (p:=⟨d,0,none⟩) u).trans t;have H:=qa3 c y B;clear c y B
  gi_wp2
  refine⟨λ_ h=>(by cases h),?_⟩
  gi_wp2
  go_roundw
  case rel=>exact⟨k+1,by omega,by go_num,H.out.1,H.out.2.1,H.out.2.2⟩
  case measure=>simp[intOf];omega
 rw[w] at z0;have c:=z.out _ wr (.cells #[.bool f,.int .i64 (p.zb k).room,.int .i64 (p.zb k).low,.int .i64 (p.zb k).high] 68) q;obtain⟨fn,tmps,assign,body,hy,M⟩:=hY (frL p f k) k _ c (by omega)
 gi_wp2
 refine M.mono ?_;rintro e P (⟨rfl,D,j⟩|⟨rfl,s⟩)
 .have S:Below g W P:=(m.alloc (Qzx G (Y.out wr m)) _).trans j.1;have L:P.cell? ⟨d,0,none⟩=some (.bool f):=j.2 _ ((((Below.refl wr.heap.size wr).alloc nlr _).cell (p:=⟨d,0,none⟩) u).trans t);rw[<-ut w] at D;clear j M
  gi_wp2
  go_roundw
  case rel=>exact⟨k+1,by omega,by go_num,D,S,L⟩
  case measure=>simp[intOf];omega
 rw[<-ut w] at s
 gi_wp2
 refine Xzq (results_none rfl _ _ _) rfl ?_;exact⟨⟨_,rfl⟩,.inr ⟨frL p f (k+1),Uk p f (by omega),s⟩⟩
attribute [local go_sem] Oper.semAt_some
theorem Fy{a b:Nat}{A B C:World}(h:z9 a b A B)(k:z9 a b B C):z9 a b A C:=⟨h.1.trans k.1,λv c=>k.2 v (h.2 v c)⟩
theorem Fx{c b:Nat}{w:World}(g:c<=w.heap.size)(i:b<w.heap.size)(W:World)(l:Nat)(o a:Obj)(e:w.heap.size<=l)(h:W.heap[l]?=some o)(d:o.isCells=false)(f:o.isWalk=false):z9 c b W (W.putObj l a):=
 ⟨belowK_b g W l o a e h d f,λv j=>((belowK_b nlr W l o a e h d f).cell (p:=⟨b,0,none⟩) i).trans j⟩
theorem Dp(F:Fence)(n:Nat)(c:F.fn 102)(a:F.round=none)(p:Pl)(f:Bool)(w:World):
  CallsIn F n prog 102 #[p.val,.bool f] w λe b=>e = .returned (.func (.func 149) #[] #[.pointer (some ⟨w.heap.size,0,none⟩),.pointer (some ⟨w.heap.size+1,0,none⟩)])/\b=(w.alloc (.cells #[.slice p.ab p.nb p.cb,.slice p.sa p.ns p.cs] 25)).alloc (.cells #[.bool f] 4):=by
 unfold Pl.val;refine callsIn_of_wp func102 rfl c ?_ a;simp only[ntmps102,List.size_toArray,List.length_cons,List.length_nil,Nat.reduceAdd,Nat.reduceSub,Array.replicate_succ,Array.replicate_zero,List.push_toArray,List.append_toArray,Xqx,Xqz]
 gi_wp2
 go_ret;exact⟨rfl,rfl⟩
theorem Hm(F:Fence)(n:Nat)(t:F.fn 149)(q:F.round=none)(s:1<=n)(b a c:Nat)(p:Pl)(f:Bool)(w:World)(j:b<w.heap.size)(m:a<w.heap.size)(g:c<=w.heap.size)
  (o:w.cell? ⟨b,0,none⟩=some (.slice p.ab p.nb p.cb)) (r:w.cell? ⟨a,0,none⟩=some (.bool f)) (k:p.nb<=p.cb) (i:p.cb<=maxLen) (v:∀e,Below c w e->se e p.ab p.nb p.zb) :
  SeqStopsK F n prog 149 #[.pointer (some ⟨b,0,none⟩),.pointer (some ⟨a,0,none⟩)] (λx:Int=>#[Value.int .i64 x]) (z9 c a) (λys=>ys=frL p f p.nb) (λpre=>pre <+: frL p f p.nb) p.nb w:=λl J A W d y _ u z =>
 T1 F n t q s l b a c p f J A u W y (Qzx g d.size) ((d.cell (p:=⟨b,0,none⟩) j).trans o) ((d.cell (p:=⟨a,0,none⟩) m).trans r) k i (λe h=>v e ((d.mono g).trans h)) z
end Go.Proofs.YtbcacebifpagpagGreat

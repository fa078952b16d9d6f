/- Texts that were built one behind the other, joined; what LogDoes does not reach is left out. -/
import Derived.Test.YtbcacebifpagpafGreatK3LogDoes
import Derived.Recover
import Derived.RegionTactic
import Derived.ChangeAlike
import Derived.BigRegion
import Derived.RangeFuncBox
import Derived.RangeFuncLeaves
import Derived.Shelf.Abstract
import Derived.WalkKit
import Derived.OwnWalkIn
import Derived.TacticsInMore
import Derived.LoopNIn
import Derived.LoopIn
import Derived.Maps.AppendAt
set_option maxHeartbeats 8000000
set_option maxRecDepth 100000
namespace Go.Proofs.YtbcacebifpagpafGreat
variable{b n g A l o i m q j R M N:Nat}{w a c d:World}{s x y:St}{r W J K:Int}{e t:TypeId}{p:Pl}{z D:Nat->Hd}{Q:Exit->Act->World->Prop}{f f':Nat->Value}{v c1 c3 c2:Value}{H O:Hs}{U:List Value}{P:Program}{V X:Int->Int->Int}{Y:Array Oper}{Z E:Hd->Bool}{h:Hd}{S:World->Prop}{a1:Act}{z' zs:Nat->Int}{L:Array Bool}
open _root_.Go.Proofs.Tryz
open Go.RowKit Go.Shelf
set_option linter.unusedVariables false
def hd0:Hd:=⟨0,0,0,0⟩
def hc(c:Nat->Hd)(q:Nat):Value:=(df (c (q/4))).getD (q%4) default
theorem Ps(c:Nat->Hd)(i:Nat):hc c (i*4) = .int .i64 (c i).o/\hc c (i*4+1) = .int .i64 (c i).l/\hc c (i*4+2) = .int .i64 (c i).b/\hc c (i*4+3) = .int .i64 (c i).n:=by
 unfold hc;refine⟨?_,?_,?_,?_⟩
 .rw[show i*4/4=i by omega,show i*4%4=0 by omega];rfl
 .rw[show(i*4+1)/4=i by omega,show(i*4+1)%4=1 by omega];rfl
 .rw[show(i*4+2)/4=i by omega,show(i*4+2)%4=2 by omega];rfl
 rw[show(i*4+3)/4=i by omega,show(i*4+3)%4=3 by omega];rfl
theorem uz(a:q<n*4):(ax n z).getD q default=hc z q:=by
 have h:=vq n z (q/4) (q%4) (by omega) (by omega);rw[show q/4*4+q%4=q by omega] at h;unfold hc;simp only[List.getD];rw[h]
def set4(w:World)(g i:Nat)(x:Hd):World:=(((w.setCell ⟨g,i*4,none⟩ (.int .i64 x.o)).setCell ⟨g,i*4+1,none⟩ (.int .i64 x.l)).setCell ⟨g,i*4+2,none⟩ (.int .i64 x.b)).setCell ⟨g,i*4+3,none⟩ (.int .i64 x.n)
theorem Blk.set4{c:Nat->Hd}(h:Blk w g e n (hc c))(i:Nat)(x:Hd):Blk (set4 w g i x) g e n (hc λj=>if j=i then x else c j):=by
 unfold Go.Proofs.YtbcacebifpagpafGreat.set4;refine((((h.set _ _).set _ _).set _ _).set _ _).congr λq l => ?_;have a:=Ps (λj=>if j=i then x else c j) i;simp only[if_pos] at a;by_cases b:q=i*4+3
 .rw[if_pos b,b,a.2.2.2]
 rw[if_neg b];by_cases d:q=i*4+2
 .rw[if_pos d,d,a.2.2.1]
 rw[if_neg d];by_cases k:q=i*4+1
 .rw[if_pos k,k,a.2.1]
 rw[if_neg k];by_cases f:q=i*4
 .rw[if_pos f,f,a.1]
 rw[if_neg f];unfold hc;dsimp only;rw[if_neg (by omega)]
theorem Mj(b:A<=g)(h:Below A a w)(i:Nat)(x:Hd):Below A a (set4 w g i x):=by
 unfold set4;exact(((h.setCell (p:=⟨g,i*4,none⟩) b _).setCell (p:=⟨g,i*4+1,none⟩) b _).setCell (p:=⟨g,i*4+2,none⟩) b _).setCell (p:=⟨g,i*4+3,none⟩) b _
theorem Blk.hds{c:Nat->Hd}(h:Blk w g e (n*4) (hc c)):jc w (some ⟨g,0,none⟩) n c:=λi hi=>by
 have a:=Ps c i;refine⟨g,0,rfl,h.lt,?_,?_,?_,?_⟩
 .rw[Nat.zero_add];exact(h.cell (by omega)).trans (by rw[a.1])
 .rw[Nat.zero_add];exact(h.cell (by omega)).trans (by rw[a.2.1])
 .rw[Nat.zero_add];exact(h.cell (by omega)).trans (by rw[a.2.2.1])
 rw[Nat.zero_add];exact(h.cell (by omega)).trans (by rw[a.2.2.2])
theorem U2(w:World)(g:TypeId)(b o n c:Nat)(p:0<n)(hc:∀j,j<n*4->(w.cell? ⟨b,o+j,none⟩).isSome=true)(h:∀j,j<n*4->w.frozen? ⟨b,o+j,none⟩=false):
  (Builtin.clear_ #[28] g #[.slice (some ⟨b,o,none⟩) n c]).run prog w = .ok (.tuple #[]) (w.setCells b o (List.replicate (n*4) (.int .i64 0))):=by
 have d:(Builtin.zeroCells (Value.agg #[.int .i64 0,.int .i64 0,.int .i64 0,.int .i64 0]).cells n).toList=List.replicate (n*4) (.int .i64 0):=by
  rw[show(Value.agg #[.int .i64 0,.int .i64 0,.int .i64 0,.int .i64 0]).cells=#[.int .i64 0,.int .i64 0,.int .i64 0,.int .i64 0] from rfl]
  apply List.ext_getElem
  .simp[Builtin.zeroCells]
  intro i l q;have e:i%4<4:=by omega
  simp[Builtin.zeroCells]
  generalize i%4=k at e
  match k,e with
  | 0,_=>rfl
  | 1,_=>rfl
  | 2,_=>rfl
  | 3,_=>rfl
 have a:=run_storeCells_cells (P:=prog) b o (List.replicate (n*4) (.int .i64 0)) 0 w (by simpa using hc) (by simpa using h) (by intro v f;rw[List.eq_of_mem_replicate f];rfl);simp only[Nat.add_zero] at a;obtain⟨m,rfl⟩:∃m,n=m+1:=⟨n-1,by omega⟩;simp only[Builtin.clear_];simp[d,a]
def im(g:Nat)(w w':World):Prop:=w.heap.size<=w'.heap.size/\∀q,q<w.heap.size->q≠g->w'.heap[q]?=w.heap[q]?
theorem im.refl(g:Nat)(w:World):im g w w:=⟨Nat.le_refl _,λ_ _ _=>rfl⟩
theorem im.below(h:im g w a)(e:Below a.heap.size a c):im g w c:=⟨Qzx h.1 e.size,λq b d=>(e.block q (Xzx b h.1)).trans (h.2 q b d)⟩
theorem im.set{b:World}(h:im g w b)(j:Nat)(u:Value):im g w (b.setCell ⟨g,j,none⟩ u):=⟨by simpa using h.1,λq c a=>(Below.heap_setCell b ⟨g,j,none⟩ u q a).trans (h.2 q c a)⟩
theorem im.cells{g:Nat}{w:World}:∀(b:List Value) (o:Nat) (a:World),im g w a->im g w (a.setCells g o b)
 | [],_,_,h=>h
 | v :: r,o,a,h=>by
  rw[World.setCells];exact im.cells r (o+1) _ (h.set o v)
theorem im.set4(h:im g w a)(i:Nat)(x:Hd):im g w (Go.Proofs.YtbcacebifpagpafGreat.set4 a g i x):=by
 unfold Go.Proofs.YtbcacebifpagpafGreat.set4;exact(((h.set _ _).set _ _).set _ _).set _ _
theorem im.blk(h:im g w c)(a:Blk w q t m f)(d:q≠g):Blk c q t m f:=by
 have b:=a.lt;obtain⟨cur,i,e⟩:=a;exact⟨cur,(h.2 q b d).trans i,e⟩
theorem Zv(f:Nat)(caps:Array Value)(bad:Hd->Bool)(A:Nat)(a:Option Addr)(n c:Nat)(w:World)(K:A<=w.heap.size)(P:n<=c)(hc:c<=maxLen)(z:Nat->Hd)(F:jc w a n z)
  (M:∀args w,(callFunc f args).run prog w = .ok (.enter f args) w)
  (J:Hid (∀(x:Hd) d,Below A w d->Calls prog f (#[x.val]++caps) d λe s=>e = .returned (.bool (bad x))/\Below d.heap.size d s)) :
  Calls prog 108 #[.slice a n c,.func (.func f) #[] caps] w λe s=>((e = .returned (.int .i64 (-1))/\∀j,j<n->bad (z j)=false)\/∃k,k<n/\e = .returned (.int .i64 (k:Nat))/\bad (z k)=true/\∀j,j<k->bad (z j)=false)/\Below w.heap.size w s:=by
 unfold maxLen at hc;go_enter func108,ntmps108;go_wp2_with fail
 go_loopw [8] (λi d=>∃k:Nat,k<=n/\i = .int .i64 k/\Hid (∀j,j<k->bad (z j)=false)/\Below w.heap.size w d) (λi _=>n-(intOf i).toNat)
 case atStart=>exact⟨0,Qxz _,rfl,λj p=>absurd p (Qzq _),Below.refl _ _⟩
 obtain⟨k,L,rfl,m,l⟩:=hrel;by_cases q:k<n;rotate_left
 .go_wp2_with fail;go_ret;have t:k=n:=by omega
  subst t;exact⟨Or.inl ⟨rfl,m.out⟩,l⟩
 obtain⟨b,o,rfl,_,v,G,y,D⟩:=(F.below l) k q;clear F;have u:Hid (∀j,j<k+1->bad (z k)=false->bad (z j)=false):=λj p h=>by
  by_cases B:j=k
  .rw[B];exact h
  exact m.out j (by omega)
 go_wp2_with fail;refine(J.out (z k) wr (l.mono K)).mono ?_;rintro e d ⟨rfl,H⟩;have r:=l.trans (H.mono l.size);cases g:bad (z k)
 .have E:Hid (∀j,j<k+1->bad (z j)=false):=λj p=>u.out j p g;clear u m;go_wp2_with fail;go_roundw
  case rel=>exact⟨k+1,by omega,by go_num,E,r⟩
  case measure=>simp[intOf];omega
 go_wp2_with fail;go_ret;exact⟨Or.inr ⟨k,q,rfl,g,m.out⟩,r⟩
def iw(bad:Hd->Bool)(xs:List Hd)(k:Nat):List Hd:=(xs.take k).filter (λx => !bad x)
theorem Ds(bad:Hd->Bool)(a:List Hd):iw bad a a.length=a.filter (λx => !bad x):=by unfold iw;rw[List.take_length]
theorem Ah{bad:Hd->Bool}{a:List Hd}{k:Nat}(b:k<a.length):iw bad a (k+1)=iw bad a k++if bad (a.getD k hd0) then [] else [a.getD k hd0]:=by
 unfold iw;have e:a.getD k hd0=a[k]:=by simp[List.getD,List.getElem?_eq_getElem b]
 rw[List.take_add_one,List.getElem?_eq_getElem b,List.filter_append,e]
 congr 1
 cases h:bad a[k]<;>simp[h]
theorem zt{bad:Hd->Bool}{a:List Hd}:∀{k:Nat},k<=a.length->(∀j,j<k->bad (a.getD j hd0)=false)->iw bad a k=a.take k
 | 0,_,_=>by simp[iw]
 | k+1,hk,h=>by
  rw[Ah (by omega),zt (k:=k) (by omega) (λj b=>h j (by omega)),h k (by omega),List.take_add_one];simp[List.getD,List.getElem?_eq_getElem (show k<a.length by omega)]
def Lh(g:Nat)(bad:Hd->Bool)(xs:List Hd)(k:Nat)(wk:World):Prop:=∃c:Nat->Hd,Blk wk g 103 (xs.length*4) (hc c)/\(∀q,q<(iw bad xs k).length->c q=(iw bad xs k).getD q hd0)/\∀q,k<=q->q<xs.length->c q=xs.getD q hd0
theorem Q7(f:Nat)(caps:Array Value)(bad:Hd->Bool)(A g cap:Nat)(a:List Hd)(w:World)(hA:A<=g)(J:A<=w.heap.size)(hn:a.length<=cap)(U:cap<=maxLen)(hb:Blk w g 103 (a.length*4) (hc λj=>a.getD j hd0))
  (eg:∀args w,(callFunc f args).run prog w = .ok (.enter f args) w)
  (hf:Hid (∀(x:Hd) L,Below A w L->Calls prog f (#[x.val]++caps) L λe w'=>e = .returned (.bool (bad x))/\Below L.heap.size L w')) :
  Calls prog 59 #[.slice (some ⟨g,0,none⟩) a.length cap,.func (.func f) #[] caps] w λe w'=>e = .returned (.slice (some ⟨g,0,none⟩) (a.filter (λx => !bad x)).length cap)/\Blk w' g 103 ((a.filter (λx => !bad x)).length*4) (hc λj=>(a.filter (λx => !bad x)).getD j hd0)/\Below A w w'/\im g w w':=by
 have al:=U;unfold maxLen at U;have Y:=hid hb;have hz:jc w (some ⟨g,0,none⟩) a.length (λj=>a.getD j hd0):=hb.hds;clear hb;go_enter func59,ntmps59;go_wp2_with fail;refine(Zv f caps bad A _ _ _ w J hn al _ hz eg hf).mono ?_;rintro e L ⟨h,v⟩;clear hz;have S:=v.mono J;rcases h with⟨rfl,D⟩|⟨P,a2,rfl,ab,D⟩
 .have af:a.filter (λx => !bad x)=a:=by
   have:=zt (bad:=bad) (Nat.le_refl a.length) D;rw[Ds,List.take_length] at this;exact this
  have HF:=hid af;clear af D;go_wp2_with fail;go_ret;rw[HF.out];exact⟨rfl,Y.out.below v,S,(im.refl g w).below v⟩
 have ad:iw bad a (P+1)=a.take P:=by rw[Ah a2,zt (by omega) D,ab];simp
 have V:(iw bad a (P+1)).length=P:=by rw[ad,List.length_take];omega
 have H0:Hid (Lh g bad a (P+1) L):=⟨_,Y.out.below v,λq M=>by
  rw[V] at M;rw[ad];simp only[List.getD,List.getElem?_take,if_pos M],λq _ _=>rfl⟩
 have ae:=hid V;clear ad V ab D Y;go_wp2_with fail
 go_loopw [5,6] (λi j wk=>∃k:Nat,k<=a.length/\j = .int .i64 k/\i = .int .i64 ((iw bad a k).length:Nat)/\(iw bad a k).length<k/\Hid (Lh g bad a k wk)/\Below A w wk/\Hid (im g w wk)) (λ_ j _=>a.length-(intOf j).toNat)
 case atStart=>exact⟨P+1,by omega,by go_num,by rw[ae.out],by rw[ae.out];omega,H0,S,(im.refl g w).below v⟩
 clear H0 ae S v;obtain⟨k,hk,rfl,rfl,B,HD,hB,p⟩:=hrel;by_cases ag:k<a.length;rotate_left
 .have ay:k=a.length:=by omega
  subst ay;obtain⟨c,d,r,E⟩:=HD.out;rw[Ds] at B r ⊢;obtain⟨I,G⟩:∃I,(a.filter (λx => !bad x)).length=I:=⟨_,rfl⟩;have HI:=hid G;rw[G] at B r ⊢;clear G;obtain⟨N,hN⟩:∃N,a.length=N:=⟨_,rfl⟩;rw[hN] at B hn d ⊢;clear hN E ag hk HD;have bo:¬cap=I:=by omega
  have bn:∀ty,(Builtin.clear_ #[28] ty #[.slice (some ⟨g,I*4,none⟩) (N-I) (cap-I)]).run prog wr = .ok (.tuple #[]) (wr.setCells g (I*4) (List.replicate ((N-I)*4) (.int .i64 0))):=λty =>
   U2 wr ty g (I*4) (N-I) (cap-I) (by omega) (λj hj=>by rw[d.cell (by omega)];rfl) (λj _=>d.frozen _)
  have ar:Hid (Blk (wr.setCells g (I*4) (List.replicate ((N-I)*4) (.int .i64 0))) g 103 (I*4) (hc λj=>(a.filter (λx => !bad x)).getD j hd0)/\Below A w (wr.setCells g (I*4) (List.replicate ((N-I)*4) (.int .i64 0)))/\im g w (wr.setCells g (I*4) (List.replicate ((N-I)*4) (.int .i64 0)))):=
   ⟨Blk.setCells _ _ _ ((d.less (by omega)).congr λj hj=>by unfold hc;rw[r (j/4) (by omega)]) nlr,yi hA _ _ _ hB,p.out.cells _ _ _⟩
  clear d r;go_wp2_with fail;go_ret;rw[HI.out];exact⟨rfl,ar.out⟩
 obtain⟨c,d,r,E⟩:=HD.out;have s:=qa3 d r E;have HS:Hid (iw bad a (k+1)=iw bad a k++if bad (a.getD k hd0) then [] else [a.getD k hd0]):=Ah ag;obtain⟨X,hX⟩:∃X,a.getD k hd0=X:=⟨_,rfl⟩;have an:=hid hX;have ao:c k=X:=by rw[E k nlr ag,hX]
 have Q:=Ps c k;rw[ao] at Q;have z0:wr.cell? ⟨g,k*4,none⟩=some (.int .i64 X.o):=(d.cell (by omega)).trans (by rw[Q.1]);have z1:wr.cell? ⟨g,k*4+1,none⟩=some (.int .i64 X.l):=(d.cell (by omega)).trans (by rw[Q.2.1]);have z2:wr.cell? ⟨g,k*4+2,none⟩=some (.int .i64 X.b):=(d.cell (by omega)).trans (by rw[Q.2.2.1]);have z3:wr.cell? ⟨g,k*4+3,none⟩=some (.int .i64 X.n):=(d.cell (by omega)).trans (by rw[Q.2.2.2]);have zl:=d.lt;clear d r E HD hX ao Q;obtain⟨I,G⟩:∃I,(iw bad a k).length=I:=⟨_,rfl⟩;have t:=hid G;rw[G] at B ⊢;clear G;obtain⟨W,hW,K,KX⟩:∃W,wr.alloc (.cells #[.int .i64 X.o,.int .i64 X.l,.int .i64 X.b,.int .i64 X.n] 103)=W/\Below wr.heap.size wr W/\Blk W wr.heap.size 103 4 (λj=>(#[.int .i64 X.o,.int .i64 X.l,.int .i64 X.b,.int .i64 X.n]:Array Value).getD j default):=⟨_,rfl,brf.alloc nlr _,Blk.mk' rfl rfl⟩;have HW:Hid (wr.alloc (.cells #[.int .i64 X.o,.int .i64 X.l,.int .i64 X.b,.int .i64 X.n] 103)=W):=hW;have H:=hB.trans (K.mono (Qzx J hB.size));have s:Hid (Blk W g 103 (a.length*4) (hc c)/\(∀q,q<(iw bad a k).length->c q=(iw bad a k).getD q hd0)/\∀q,k<=q->q<a.length->c q=a.getD q hd0):=⟨s.out.1.below K,s.out.2⟩;have p:Hid (im g w W):=p.out.below K;clear hW K;go_wp2_with fail;rw[HW.out];refine(hf.out X W H).mono ?_;rintro e z ⟨rfl,F⟩;have ap:=H.trans (F.mono (Qzx J H.size));have p:Hid (im g w z):=p.out.below F;have m:=s.out.1.below F;have u:=KX.below F;have xl:=u.lt;have x0:z.cell? ⟨wr.heap.size,0,none⟩=some (.int .i64 X.o):=u.k 0;have x1:z.cell? ⟨wr.heap.size,1,none⟩=some (.int .i64 X.l):=u.k 1;have x2:z.cell? ⟨wr.heap.size,2,none⟩=some (.int .i64 X.b):=u.k 2;have x3:z.cell? ⟨wr.heap.size,3,none⟩=some (.int .i64 X.n):=u.k 3;clear z0 z1 z2 z3 zl KX u HW hB H F
 generalize wr.heap.size=BX at *
 cases am:bad X;rotate_left
 .have y:Hid (Lh g bad a (k+1) z/\(iw bad a (k+1)).length=I):=by
   have e1:iw bad a (k+1)=iw bad a k:=by rw[HS.out,an.out,am];simp
   rw[e1];exact⟨⟨c,m,by rw[e1];exact s.out.2.1,λq M aa=>s.out.2.2 q (by omega) aa⟩,t.out⟩
  clear m s HS;go_wp2_with fail;go_roundw
  case rel=>exact⟨_,_,_,_,_,_,_,_,_,_,_,_,_,_,_,_,_,_,_,_,_,_,_,⟨k+1,by omega,by go_num,by rw[y.out.2],by rw[y.out.2];omega,y.out.1,ap,p⟩,rfl⟩
  case measure=>simp[intOf];omega
 have y0:=m.cell (j:=I*4) (by omega);have y1:=m.cell (j:=I*4+1) (by omega);have y2:=m.cell (j:=I*4+2) (by omega);have y3:=m.cell (j:=I*4+3) (by omega);have f0:=m.frozen (I*4);have f1:=m.frozen (I*4+1);have f2:=m.frozen (I*4+2);have f3:=m.frozen (I*4+3);have yl:=m.lt
 generalize hc c (I*4)=V0 at y0
 generalize hc c (I*4+1)=V1 at y1
 generalize hc c (I*4+2)=V2 at y2
 generalize hc c (I*4+3)=V3 at y3
 have KB:=m.set4 I X;have y:Hid (Lh g bad a (k+1) (set4 z g I X)/\Below A w (set4 z g I X)/\(iw bad a (k+1)).length=I+1/\im g w (set4 z g I X)):=by
  have e1:iw bad a (k+1)=iw bad a k++[X]:=by rw[HS.out,an.out,am];rfl
  have e2:(iw bad a (k+1)).length=I+1:=by rw[e1,List.length_append,t.out];rfl
  refine⟨⟨_,KB,λq M => ?_,λq M aa => ?_⟩,Mj hA ap I X,e2,p.out.set4 I X⟩
  .rw[e2] at M;show(if q=I then X else c q)=_;rw[e1];by_cases T:q=I
   .rw[if_pos T];simp only[List.getD];rw[List.getElem?_append_right (by rw[t.out];omega),t.out,T];simp
   rw[if_neg T,s.out.2.1 q (by rw[t.out];omega)];simp only[List.getD];rw[List.getElem?_append_left (by rw[t.out];omega)]
  show(if q=I then X else c q)=_;rw[if_neg (by omega),s.out.2.2 q (by omega) aa]
 clear m KB s HS;go_wp2_with fail;go_roundw
 case rel=>exact⟨_,_,_,_,_,_,_,_,_,_,_,_,_,_,_,_,_,_,_,_,_,_,_,⟨k+1,by omega,by go_num,by rw[y.out.2.2.1];go_num,by rw[y.out.2.2.1];omega,y.out.1,y.out.2.1,y.out.2.2.2⟩,rfl⟩
 case measure=>simp[intOf];omega
open Go.Sort
def Ai(os:Os)(o:Nat)(v:Int):Os:=⟨os.a,os.n,os.c,λi=>if i=o then ⟨v,(os.z i).ls⟩ else os.z i⟩
def di(s:St)(o:Nat)(v:Int):St:=⟨s.on,Ai s.os o v,s.hs,s.ms,s.si,s.so,s.sf⟩
theorem uc(s:St)(o:Nat)(v:Int):(di s o v).os.z o=⟨v,(s.os.z o).ls⟩:=if_pos rfl
theorem A7(os:Os)(o:Nat)(v:Int)(i:Nat):((Ai os o v).z i).ls=(os.z i).ls:=by
 show(if i=o then(⟨v,(os.z i).ls⟩:Od) else os.z i).ls=_;by_cases h:i=o
 .rw[if_pos h]
 rw[if_neg h]
theorem j7.kind{s:Os}(h:j7 A w s)(F:o<s.n)(r:s.a=some ⟨g,0,none⟩)(v:Int):j7 A (w.setCell ⟨g,o*2,none⟩ (.int .i64 v)) (Ai s o v):=by
 obtain⟨E,c,t,p⟩:=h.list (by omega);rw[r] at c;simp only[Qkx,Qkz,and_true] at c;subst c;refine⟨h.le,h.cap,λD=>⟨g,r,t,(p.set (o*2) (.int .i64 v)).congr λq B => ?_⟩,λi hi => ?_,λi j k d=>by rw[A7,A7];exact h.apart i j k d,h.room.set _ _ _⟩;rotate_left
 .rw[A7];obtain⟨C,a1,y,x,u,e⟩:=h.lines i hi;exact⟨C,a1,y,x,u,e.other (a:=⟨g,o*2,none⟩) (Blk.ne2 e p (by decide)) _⟩
 have hd:q=q/2*2+q%2:=by omega
 have hi:q/2<s.n:=by omega
 have f:q%2<2:=by omega
 have m:=qc (z:=s.z) hi f;have l:=qc (z:=(Ai s o v).z) hi f;rw[<-hd] at m l;show(if q=o*2 then Value.int .i64 v else(jn s.n s.z).getD q default)=(jn s.n (Ai s o v).z).getD q default;rw[m,l];show _=(p8 (if q/2=o then(⟨v,(s.z (q/2)).ls⟩:Od) else s.z (q/2))).getD (q%2) default;by_cases d:q/2=o
 .rw[if_pos d];have b:q%2=0\/q%2=1:=by omega
  rcases b with b|b
  .rw[if_pos (by omega),b];rfl
  rw[if_neg (by omega),b];rfl
 rw[if_neg d,if_neg (by omega)]
theorem ai.kind(h:ai A w s)(l:o<s.os.n)(e:s.os.a=some ⟨g,0,none⟩)(v:Int):ai A (w.setCell ⟨g,o*2,none⟩ (.int .i64 v)) (di s o v):=by
 obtain⟨p,c,m,b⟩:=h.os.list (by omega);rw[e] at c;simp only[Qkx,Qkz,and_true] at c;subst c;refine⟨?_,λi hi=>(h.rows i hi).other b (by decide) _ _,h.rapart,h.os.kind l e v,h.hs.other b (by decide) _ _,h.ms.other b (by decide) _ _,h.msr.set _ _ _,h.si.other b (by decide) _ _,h.so.other b (by decide) _ _,h.sf.other b (by decide) _ _,h.aio,h.aif,h.aof,h.ari⟩;obtain⟨q,j,a1,k,f,d⟩:=h.on;exact⟨q,j,a1,k,f,d.other (a:=⟨g,o*2,none⟩) (Blk.ne2 d b (by decide)) _⟩
def Iz(s:St)(i:Nat):St:=fk (di s i 1) i (s.os.z i).ls.n
theorem Sl(x:St)(i A v:Nat)(w:World)(S:A<=w.heap.size)(q:ai A w x)(hi:i<x.os.n)(d:x.os.a=some ⟨v,0,none⟩)(t:∀j,j<(x.os.z i).ls.n->(0<=((x.os.z i).ls.z j).l/\((x.os.z i).ls.z j).l<=200)/\0<=((x.os.z i).ls.z j).b/\((x.os.z i).ls.z j).b<=200):
  Calls prog 57 #[.pointer (some ⟨v,i*2,none⟩)] w λe E=>∃y:St,e = .returned (.tuple #[])/\((x.os.z i).k=0->y=Iz x i)/\(¬(x.os.z i).k=0->y=x)/\ai A E y/\Below A w E/\oe w E:=by
 obtain⟨g,m,M,c⟩:=q.os.list (by omega);have K:g=v:=by rw[d] at m;simpa using m.symm
 subst K;have D:=c.cell (j:=i*2) (by omega);have e0:=qc (z:=x.os.z) hi (show 0<2 by decide);rw[Nat.add_zero] at e0;rw[e0] at D;have c1:w.cell? ⟨g,i*2,none⟩=some (.int .i64 (x.os.z i).k):=D;have U:=c.lt;have gf:=c.frozen (i*2);have Q:=hid q;have o:Hid (ai A (w.setCell ⟨g,i*2,none⟩ (.int .i64 1)) (di x i 1)/\Below A w (w.setCell ⟨g,i*2,none⟩ (.int .i64 1))/\oe w (w.setCell ⟨g,i*2,none⟩ (.int .i64 1))/\w.heap.size<=(w.setCell ⟨g,i*2,none⟩ (.int .i64 1)).heap.size):=by
  have L:=(Below.refl A w).setCell (p:=⟨g,i*2,none⟩) M (.int .i64 1);exact⟨q.kind hi d 1,L,(oe.refl w).setOrder c _ _,L.size⟩
 have J:Hid (∀j,j<((di x i 1).os.z i).ls.n->(0<=(((di x i 1).os.z i).ls.z j).l/\(((di x i 1).os.z i).ls.z j).l<=200)/\0<=(((di x i 1).os.z i).ls.z j).b/\(((di x i 1).os.z i).ls.z j).b<=200):=by
  show ∀j,j<((di x i 1).os.z i).ls.n->_;rw[uc];exact t
 have G:=hid d;clear q m c d t D e0;by_cases f:(x.os.z i).k=0;rotate_left
 .have F:((x.os.z i).k !=0)=true:=by simpa using f
  have B:=hid f;clear f
  generalize (x.os.z i).k=P at *
  go_enter func57,ntmps57;go_wp2_with fail
  first|go_end0|refine Xzq (results_none rfl _ _ _) rfl ?_
  exact⟨x,rfl,λh=>absurd h B.out,λ_=>rfl,Q.out,Below.refl _ _,oe.refl _⟩
 have F:((x.os.z i).k !=0)=false:=by simpa using f
 have B:=hid f;clear f
 generalize (x.os.z i).k=P at *
 go_enter func57,ntmps57;go_wp2_with fail;refine(Pz (di x i 1) i A g _ (Qzx S o.out.2.2.2) o.out.1 hi G.out J.out).mono ?_;rintro e T ⟨rfl,s,u,r⟩;have H:=qa3 s (o.out.2.1.trans u) (o.out.2.2.1.trans r);clear s u r;go_wp2_with fail
 first|go_end0|refine Xzq (results_none rfl _ _ _) rfl ?_
 refine⟨Iz x i,rfl,λ_=>rfl,λh=>absurd B.out h,?_,H.out.2⟩;have h:=H.out.1;rw[uc] at h;exact h
theorem Sg(B:Nat)(x:Hd)(order:Int)(w:World)(f:B<w.heap.size)(c:w.cell? ⟨B,0,none⟩=some (.int .i64 order)):
  Calls prog 60 #[x.val,.pointer (some ⟨B,0,none⟩)] w λe d=>e = .returned (.bool (x.o==order))/\Below w.heap.size w d:=by
 have a:=(Below.refl w.heap.size w).alloc nlr (.cells #[.int .i64 x.o,.int .i64 x.l,.int .i64 x.b,.int .i64 x.n] 103);unfold Hd.val;go_enter func60,ntmps60;go_wp2_with fail;go_ret;exact⟨rfl,a⟩
def eTz(h:Hs):List Hd:=(List.range h.n).map h.z
theorem lPz(h:Hs):(eTz h).length=h.n:=by simp[eTz]
theorem Kf{h:Hs}(a:j<h.n):(eTz h).getD j hd0=h.z j:=by
 unfold eTz;simp[List.getD,a]
def dy(h:Hs)(bad:Hd->Bool):Hs:=⟨h.a,((eTz h).filter (λx => !bad x)).length,h.c,λj=>((eTz h).filter (λx => !bad x)).getD j hd0⟩
theorem za(h:Hs)(bad:Hd->Bool):(dy h bad).n<=h.n:=by
 have:=List.length_filter_le (λx => !bad x) (eTz h);rw[lPz] at this;exact this
theorem Ty{h k:Hs}(b:h.n=k.n)(a:∀j,j<h.n->h.z j=k.z j)(bad:Hd->Bool):(dy h bad).n=(dy k bad).n/\(dy h bad).z=(dy k bad).z:=by
 have e:eTz h=eTz k:=by
  unfold eTz;rw[<-b];exact List.map_congr_left λj c=>a j (List.mem_range.1 c)
 unfold dy;rw[e];exact⟨rfl,rfl⟩
theorem j6.keepG{b:World}{r:Rw}(h:j6 A w r)(c:Blk w g 103 n f)(K:im g w b):j6 A b r:=by
 obtain⟨q,i,e,j,d,a⟩:=h;exact⟨q,i,e,j,d,K.blk a (Blk.ne2 a c (by decide))⟩
theorem cz.keepG{s:Hs}(h:cz A t w s)(k:Blk w g 103 n f)(a:t≠103)(K:im g w c):cz A t c s:=by
 obtain⟨j,m,e,d⟩:=h;refine⟨j,m,e,λl => ?_⟩;obtain⟨q,o,i,b⟩:=d l;exact⟨q,o,i,K.blk b (Blk.ne2 b k a)⟩
theorem fq.keepG{j:World}{c:Nat}{a:Option Addr}(h:fq A w t i a c)(l:Blk w g 103 n f)(d:t≠103)(K:im g w j):fq A j t i a c:=by
 refine h.same λq cur b=>K.2 q (Qkq b).1 λe => ?_;obtain⟨c2,k,_⟩:=l;rw[e,k] at b;cases b;exact d rfl
theorem j7.keepG{e:World}{s:Os}(h:j7 A w s)(b:Blk w g 103 n f)(K:im g w e):j7 A e s:=by
 refine⟨h.le,h.cap,λk => ?_,λi hi => ?_,h.apart,h.room.keepG b (by decide) K⟩
 .obtain⟨q,a1,c,a⟩:=h.list k;exact⟨q,a1,c,K.blk a (Blk.ne2 a b (by decide))⟩
 obtain⟨C,a1,c,a,j,d⟩:=h.lines i hi;exact⟨C,a1,c,a,j,K.blk d (Blk.ne2 d b (by decide))⟩
theorem ai.keepG{b:World}{h:Hs}(k:ai A w s)(a:Blk w g 103 n f)(K:im g w b)(d:cz A 103 b h):ai A b (Go.Proofs.YtbcacebifpagpafGreat.withHolds s h):=by
 refine⟨?_,λi hi=>(k.rows i hi).keepG a K,k.rapart,k.os.keepG a K,d,k.ms.keepG a (by decide) K,k.msr.keepG a (by decide) K,k.si.keepG a K,k.so.keepG a K,k.sf.keepG a K,k.aio,k.aif,k.aof,k.ari⟩;obtain⟨q,j,a1,l,e,c⟩:=k.on;exact⟨q,j,a1,l,e,K.blk c (Blk.ne2 c a (by decide))⟩
theorem Rn(f:Nat)(caps:Array Value)(bad:Hd->Bool)(a:Option Addr)(cap:Nat)(w:World)(c:cap<=maxLen)
  (l:∀args w,(callFunc f args).run prog w = .ok (.enter f args) w)
  (m:Hid (∀(x:Hd) b,Below w.heap.size w b->Calls prog f (#[x.val]++caps) b λe g=>e = .returned (.bool (bad x))/\Below b.heap.size b g)) :
  Calls prog 59 #[.slice a (0:Nat) cap,.func (.func f) #[] caps] w λe g=>e = .returned (.slice a (0:Nat) cap)/\Below w.heap.size w g:=by
 have d:=c;unfold maxLen at c;go_enter func59,ntmps59;go_wp2_with fail;refine(Zv f caps bad w.heap.size a 0 cap w nlr (Qxz _) d (λ_=>hd0) (λi hi=>absurd hi (Qzq _)) l m).mono ?_;rintro e b ⟨h,k⟩;rcases h with⟨rfl,-⟩|⟨n,j,-⟩
 .go_wp2_with fail;go_ret;exact⟨rfl,k⟩
 exact absurd j (Qzq _)
theorem Yi(f:Nat)(caps:Array Value)(bad:Hd->Bool)(A:Nat)(s:St)(w:World)(k:A<=w.heap.size)(y:ai A w s)
  (J:∀args w,(callFunc f args).run prog w = .ok (.enter f args) w)
  (F:∀(x:Hd) b,Below A w b->Calls prog f (#[x.val]++caps) b λe i=>e = .returned (.bool (bad x))/\Below b.heap.size b i) :
  Calls prog 59 #[.slice s.hs.a s.hs.n s.hs.c,.func (.func f) #[] caps] w λe i=>e = .returned (.slice (dy s.hs bad).a (dy s.hs bad).n (dy s.hs bad).c)/\ai A i (withHolds s (dy s.hs bad))/\Below A w i/\(∀q t m g,t≠103->Blk w q t m g->Blk i q t m g):=by
 obtain⟨L,o,B,M⟩:=y.hs;by_cases Q:s.hs.n=0
 .have hd:(dy s.hs bad).n=0:=by have:=za s.hs bad;omega
  rw[Q,hd];refine(Rn f caps bad s.hs.a s.hs.c w o J (λx b d=>F x b (d.mono k))).mono ?_;rintro e b ⟨rfl,d⟩;refine⟨rfl,(y.below d).withHolds ⟨by rw[hd];exact Qxz _,o,B,λh=>absurd h (by omega)⟩,d.mono k,λq t m g _ u=>u.below d⟩
 obtain⟨g,v,K,u⟩:=M (by omega);have l:Blk w g 103 ((eTz s.hs).length*4) (hc λj=>(eTz s.hs).getD j hd0):=by
  rw[lPz];refine u.congr λq r => ?_;rw[uz r];unfold hc;dsimp only;rw[Kf (by omega)]
 have D:=Q7 f caps bad A g s.hs.c (eTz s.hs) w K k (by rw[lPz];exact L) o l J F;rw[lPz] at D;rw[v];refine D.mono ?_;rintro e b ⟨rfl,E,d,G⟩;have P:=za s.hs bad;refine⟨by show _=Ending.returned (.slice s.hs.a _ _);rw[v];rfl,y.keepG l G ⟨Qzx P L,o,B,λ_=>⟨g,v,K,E.congr λq r=>(uz (z:=(dy s.hs bad).z) r).symm⟩⟩,d,λq t m f' H p=>G.blk p (Blk.ne2 p l H)⟩
theorem N3(n:Nat)(z:Nat->Hd)(o l b:Int):keptV n z o l b=(((List.range n).map z).find? (λx=>bj x o l b)).elim 0 (λx=>x.n):=by
 unfold keptV;rw[List.find?_map];cases h:(List.range n).find? (λi=>bj (z i) o l b) with
 | none =>
  have a:(List.range n).find? ((λx=>bj x o l b) ∘ z)=none:=h;rw[a]
  rfl
 | some i =>
  have a:(List.range n).find? ((λx=>bj x o l b) ∘ z)=some i:=h;rw[a]
  rfl
theorem Tj(n:Nat)(L:List Hd)(h:n=L.length):(List.range n).map (λj=>L.getD j hd0)=L:=by
 subst h
 apply List.ext_getElem
 .simp
 intro i b a;simp[List.getD,a]
theorem Ky(h:Hs)(bad:Hd->Bool):eTz (dy h bad)=(eTz h).filter (λx => !bad x):=Tj _ _ rfl
theorem R2(h:Hs)(bad:Hd->Bool)(o l b:Int):keptV (dy h bad).n (dy h bad).z o l b=((eTz h).find? (λx => !bad x&&bj x o l b)).elim 0 (λx=>x.n):=by
 rw[N3];have e:(List.range (dy h bad).n).map (dy h bad).z=(eTz h).filter (λx => !bad x):=Ky h bad;rw[e,List.find?_filter];have c:(λa=>decide ((!bad a)=true/\bj a o l b=true))=λx => !bad x&&bj x o l b:=by
  funext a
  cases bad a<;>cases bj a o l b<;>rfl
 rw[c]
theorem U8(h:Hs)(o l b:Int):keptV h.n h.z o l b=((eTz h).find? (λx=>bj x o l b)).elim 0 (λx=>x.n):=N3 _ _ _ _ _
theorem Lx(h:Hs)(bad:Hd->Bool){o l b:Int}{B:Bool}(c:∀x,bj x o l b=true->bad x=B):keptV (dy h bad).n (dy h bad).z o l b=if B then 0 else keptV h.n h.z o l b:=by
 rw[R2];cases B
 .rw[if_neg (by decide),U8];have e:(λx => !bad x&&bj x o l b)=λx=>bj x o l b:=by
   funext x
   cases a:bj x o l b
   .simp
   rw[c x a];rfl
  rw[e]
 rw[if_pos rfl];have e:(eTz h).find? (λx => !bad x&&bj x o l b)=none:=by
  rw[List.find?_eq_none];intro x _;cases a:bj x o l b
  .simp
  rw[c x a];simp
 rw[e]
 rfl
theorem Ic{h:Hs}{bad:Hd->Bool}(m:∀i j,i<j->j<h.n->ba (h.z i)<ba (h.z j))(t:∀i,i<h.n->bad (h.z i)=false->gy (h.z i)=true):aw (dy h bad).n (da (dy h bad).z)=false:=by
 have p:(eTz h).Pairwise (λx y=>ba x<ba y):=by
  rw[List.pairwise_iff_getElem];intro i j hi d f;have g:j<h.n:=by rw[lPz] at d;exact d
  have r:(eTz h)[i]=h.z i:=by simp[eTz]
  have v:(eTz h)[j]=h.z j:=by simp[eTz]
  rw[r,v];exact m i j f g
 have l:=p.filter (λx => !bad x);have a:∀i (hi:i<((eTz h).filter (λx => !bad x)).length),(dy h bad).z i=((eTz h).filter (λx => !bad x))[i]:=λi hi=>by
  show((eTz h).filter (λx => !bad x)).getD i hd0=_;rw[List.getD_eq_getElem?_getD,List.getElem?_eq_getElem hi]
  rfl
 refine Ge (λi hi => ?_) λi hi => ?_
 .rw[a i hi];have e:=List.getElem_mem hi;rw[List.mem_filter] at e;obtain⟨q,s⟩:=e;obtain⟨k,u,o⟩:∃k,k∈List.range h.n/\h.z k=((eTz h).filter (λx => !bad x))[i]:=List.mem_map.1 q;have b:bad (((eTz h).filter (λx => !bad x))[i])=false:=by simpa using s
  rw[<-o] at b ⊢;exact t k (List.mem_range.1 u) b
 have c:i+1<((eTz h).filter (λx => !bad x)).length:=hi;rw[a i (by omega),a (i+1) c];rw[List.pairwise_iff_getElem] at l;exact l i (i+1) (by omega) c (by omega)
theorem J1{h:Hs}(bad:Hd->Bool)(a:aw h.n (da h.z)=false):aw (dy h bad).n (da (dy h bad).z)=false:=Ic (λi j b c=>mq a i j b c) λi hi _=>bw a i hi
theorem Mo{p:Nat}(a:aw n (da z)=false)(c:p<n):aw (n-1) (da (fs z p))=false:=by
 refine Ge (λi hi => ?_) λi hi => ?_
 .unfold fs
  split
  .exact bw a i (by omega)
  exact bw a (i+1) (by omega)
 unfold fs;by_cases b:i+1<p
 .rw[if_pos (by omega),if_pos b];exact mq a _ _ (by omega) (by omega)
 rw[if_neg b]
 split
 .exact mq a _ _ (by omega) (by omega)
 exact mq a _ _ (by omega) (by omega)
theorem Xg{p:Nat}(c:aw n (da z)=false)(f:p<n)(o l b:Int):keptV (n-1) (fs z p) o l b=if bj (z p) o l b then 0 else keptV n z o l b:=by
 have g:=Mo c f;cases d:bj (z p) o l b;rotate_left
 .rw[if_pos rfl];refine kf λj r => ?_;cases q:bj (fs z p j) o l b
  .rfl
  have e:=Fm q d;unfold fs at e
  split at e
  .have:=mq c j p (by omega) f;omega
  have:=mq c p (j+1) (by omega) (by omega);omega
 rw[if_neg (by decide)];rcases qz n z o l b with h|⟨k,m,t,a⟩
 .rw[kf h,kf λj r => ?_];unfold fs
  split
  .exact h j (by omega)
  exact h (j+1) (by omega)
 have s:¬k=p:=λe=>by rw[e,d] at a;exact absurd a (by decide)
 rw[(nl c m a).1];by_cases i:k<p
 .have e:fs z p k=z k:=if_pos i;rw[(nl g (k:=k) (by omega) (by rw[e];exact a)).1,e]
 have e:fs z p (k-1)=z k:=by
  unfold fs;rw[if_neg (by omega),show k-1+1=k by omega]
 rw[(nl g (k:=k-1) (by omega) (by rw[e];exact a)).1,e]
theorem Qu{o l b:Int}(a:aw n (da z)=false):Bh n z o l b=if keptV n z o l b=0 then 4 else 0:=by
 unfold Bh;rw[if_pos (Af a)]
theorem Y3{o l b:Int}(a:aw n (da z)=false):Cb n z o l b=keptV n z o l b:=by
 unfold Cb;rw[if_pos (Af a)]
def ie(k:Nat)(i:Nat)(o:Od):Od:=if i<k/\o.k=0 then ⟨1,xe o.ls o.ls.n⟩ else o
def dh(s:St)(k:Nat):St:=⟨s.on,⟨s.os.a,s.os.n,s.os.c,λi=>ie k i (s.os.z i)⟩,s.hs,s.ms,s.si,s.so,s.sf⟩
theorem uw{k:Nat}(o:Od)(h:k<=i):ie k i o=o:=if_neg (by omega)
theorem Oo(s:St):dh s 0=s:=by
 unfold dh;have e:(λi=>ie 0 i (s.os.z i))=s.os.z:=funext λi=>uw _ (Qxz _);rw[e]
theorem zh(k i:Nat)(o:Od):(ie k i o).ls.n=o.ls.n:=by
 unfold ie
 split<;>rfl
theorem Rp{k:Nat}(h:(s.os.z k).k=0):Iz (dh s k) k=dh s (k+1):=by
 unfold Iz fk di dh Fi Ai;dsimp only
 congr 2
 funext a
 rw[zh];by_cases c:a=k
 .subst c;rw[if_pos rfl,if_pos rfl,uw _ nlr];unfold ie;rw[if_pos ⟨by omega,h⟩]
 rw[if_neg c,if_neg c];unfold ie;by_cases b:a<k/\(s.os.z a).k=0
 .rw[if_pos b,if_pos ⟨by omega,b.2⟩]
 rw[if_neg b,if_neg (λe=>b ⟨by omega,e.2⟩)]
theorem O2{k:Nat}(h:¬(s.os.z k).k=0):dh s k=dh s (k+1):=by
 unfold dh
 congr 2
 funext a
 unfold ie;by_cases b:a<k/\(s.os.z a).k=0
 .rw[if_pos b,if_pos ⟨by omega,b.2⟩]
 rw[if_neg b,if_neg (λe=>b ⟨by
  have:¬a=k:=λc=>h (by rw[<-c];exact e.2);omega,e.2⟩)]
theorem B9(k i:Nat)(o:Od)(j:Nat):((ie k i o).ls.z j).o=(o.ls.z j).o/\((ie k i o).ls.z j).l=(o.ls.z j).l/\((ie k i o).ls.z j).b=(o.ls.z j).b:=by
 unfold ie
 split
 .show((if j<o.ls.n then vi (o.ls.z j) else o.ls.z j).o=_)/\((if j<o.ls.n then vi (o.ls.z j) else o.ls.z j).l=_)/\((if j<o.ls.n then vi (o.ls.z j) else o.ls.z j).b=_)
  split<;>exact⟨rfl,rfl,rfl⟩
 exact⟨rfl,rfl,rfl⟩
theorem Ux{o a:Od}(k i:Nat)(h:a.k=o.k/\a.ls.n=o.ls.n/\∀j,j<a.ls.n->a.ls.z j=o.ls.z j):(ie k i a).k=(ie k i o).k/\(ie k i a).ls.n=(ie k i o).ls.n/\∀j,j<(ie k i a).ls.n->(ie k i a).ls.z j=(ie k i o).ls.z j:=by
 unfold ie;by_cases c:i<k/\o.k=0
 .rw[if_pos c,if_pos ⟨c.1,h.1.trans c.2⟩];refine⟨rfl,h.2.1,λj d => ?_⟩;show(if j<a.ls.n then vi (a.ls.z j) else a.ls.z j)=if j<o.ls.n then vi (o.ls.z j) else o.ls.z j;have b:j<a.ls.n:=d;rw[if_pos b,if_pos (by omega),h.2.2 j b]
 rw[if_neg c,if_neg (λe=>c ⟨e.1,h.1.symm.trans e.2⟩)];exact h
theorem Ik(h:ae x s)(k:Nat):ae (dh x k) (dh s k):=
 ⟨h.on,⟨h.os.1,λi hi=>Ux k i (h.os.2 i hi)⟩,h.hs,h.ms,h.si,h.so,h.sf⟩
theorem Fy(r:au p s){k:Nat}(hi:i<s.os.n)(d:j<(s.os.z i).ls.n)(c:i<k/\(s.os.z i).k=0):(ie k i (s.os.z i)).k=1/\((s.os.z i).ls.z j).b=0/\((s.os.z i).ls.z j).n=0/\keptS s.hs.z i j s.hs.n=0/\((ie k i (s.os.z i)).ls.z j).n=((s.os.z i).ls.z j).l:=by
 have w:=r.orders i hi;unfold cg at w;rw[Xxq] at w;have a:cp (s.os.z i).k ((s.os.z i).ls.z j) (keptS s.hs.z i j s.hs.n)=false:=dj w.2 j d;unfold cp at a;rw[if_pos c.2] at a;simp only[Xxq,Bool.not_eq_false',beq_iff_eq] at a;unfold ie;rw[if_pos c];refine⟨rfl,a.1.1,a.1.2,a.2,?_⟩;show(if j<(s.os.z i).ls.n then vi ((s.os.z i).ls.z j) else(s.os.z i).ls.z j).n=_;rw[if_pos d];show((s.os.z i).ls.z j).l-((s.os.z i).ls.z j).b=_;omega
theorem Ua(r:au p s)(k:Nat):cw p (dh s k):=by
 have f:=r.fm;refine⟨f.sh,f.sh0,f.os4,f.ms8,λi hi => ?_,λi hi => ?_,λi hi j b => ?_,f.hold,λi hi => ?_,f.move,f.sin,f.son,f.sfn,f.sib,f.sob,f.sfb⟩
 .show 1<=(ie k i (s.os.z i)).ls.n/\(ie k i (s.os.z i)).ls.n<=3;rw[zh];exact f.lns i hi
 .show 0<=(ie k i (s.os.z i)).k/\(ie k i (s.os.z i)).k<=2;unfold ie
  split
  .exact⟨(by decide:(0:Int)<=1),(by decide:(1:Int)<=2)⟩
  exact f.kind i hi
 .show jx p ((ie k i (s.os.z i)).ls.z j)=false;have a:j<(s.os.z i).ls.n:=by rw[<-zh k i];exact b
  by_cases c:i<k/\(s.os.z i).k=0
  .have e:=Fy r hi a c;have g:=B9 k i (s.os.z i) j;obtain⟨b1,b2,b3,b4⟩:=dz (f.line i hi j a);unfold jx;rw[bq (by omega),bq (by omega),bq (by omega),bq (by omega)]
   rfl
  unfold ie;rw[if_neg c];exact f.line i hi j a
 have h:=iu (f.home i hi);refine pe h.1 ⟨h.2.1.1,?_⟩ h.2.2;show _<(ie k _ (s.os.z _)).ls.n;rw[zh];exact h.2.1.2
theorem Vv(s:St)(k b g:Nat):ar (dh s k) b g=ar s b g:=by
 unfold ar;rw[ri (x:=dh s k) (s:=s) (λj _=>rfl) (λj _=>(B9 k _ _ _).1)];rw[ow (x:=dh s k) (s:=s) (λj _=>rfl)]
 rfl
theorem Wy(r:au p s)(k:Nat):au p (dh s k):=by
 refine⟨Ua r k,λg h => ?_,λi hi => ?_⟩
 .obtain⟨a1,m⟩:=kq (r.goods g h);exact rt a1 λb l=>by rw[Vv];exact m b l
 have a:i<s.os.n:=hi;by_cases c:i<k/\(s.os.z i).k=0;rotate_left
 .have e:(dh s k).os.z i=s.os.z i:=if_neg c;have w:=r.orders i a;unfold cg at w ⊢;rw[e];exact w
 have o:=(r.fm.lns i a).1;have e0:=Fy r a (j:=0) (by omega) c;unfold cg;rw[Xxq];constructor
 .have:aw ((dh s k).os.z i).ls.n (λj=>js (((dh s k).os.z i).ls.z j))=true:=by
   refine du (k:=0) ?_ ?_
   .show 0<(ie k i (s.os.z i)).ls.n;rw[zh];omega
   show js ((ie k i (s.os.z i)).ls.z 0)=true;have g:=B9 k i (s.os.z i) 0;obtain⟨b1,b2,b3,b4⟩:=dz (r.fm.line i a 0 (by omega));unfold js;rw[Bool.not_eq_true',beq_eq_false_iff_ne];omega
  rw[this];simp
 refine cu λj f => ?_;have d:j<(s.os.z i).ls.n:=by rw[<-zh k i];exact f
 have e:=Fy r a d c;have g:=B9 k i (s.os.z i) j;show cp (ie k i (s.os.z i)).k ((ie k i (s.os.z i)).ls.z j) (keptS s.hs.z i j s.hs.n)=false;unfold cp;rw[e.1,if_neg (by decide),if_neg (by decide),Bool.not_eq_false',beq_iff_eq];omega
def pk(s:St)(a b:Nat):Int:=if ((dh s s.os.n).os.z a).k=1 then(((dh s s.os.n).os.z a).ls.z b).n else 0
def vy(s:St)(a:Nat):Nat:=(s.os.z a).ls.n
def jw(p:Pl)(s x:St):Prop:=ig p (-1) (pk s) (vy s) (dh s s.os.n) s.os.n x
def F7(p:Pl)(s x:St):Prop:=(ah p s=0->jw p s x)/\(¬ah p s=0->Dj x)
theorem uu(r:au p s):QIn p (-1) (pk s) (dh s s.os.n):=by
 have c:=Wy r s.os.n;refine⟨c,λa b e d => ?_,Or.inl rfl⟩;unfold pk;have q:=z6 c e d;by_cases h:((dh s s.os.n).os.z a).k=1
 .rw[if_pos h];exact⟨q.1,Or.inr ⟨h,Int.le_refl _⟩⟩
 rw[if_neg h];exact⟨Int.le_refl _,Or.inl rfl⟩
theorem mh(s:St)(a:Nat):vy s a=((dh s s.os.n).os.z a).ls.n:=(zh _ _ _).symm
theorem jw.pos(r:au p s)(h:jw p s x):Pos p (-1) (pk s) (dh s s.os.n) s.os.n 0 x:=ig.pos (uu r) (λa _=>mh s a) nlr h
theorem jw.same(r:au p s)(h:jw p s x)(k:jw p s y):ae x y:=ig.same (uu r) (λa _=>mh s a) nlr k h
theorem F7.same(a:F7 p s x)(b:F7 p s y):ae x y:=by
 by_cases h:ah p s=0
 .exact(a.1 h).same (ew h) (b.1 h)
 exact Gg (a.2 h) (b.2 h)
def Eh(p:Pl)(s:St):St:=Vg p (-1) (pk s) (vy s) s.os.n (dh s s.os.n)
theorem Fw(r:au p s):jw p s (Eh p s):=Kl (uu r) (λa _=>mh s a) nlr
theorem F7.act(h:F7 p s x):dv (ah p s) (Eh p s) x:=⟨λe=>(h.1 e).same (ew e) (Fw (ew e)),h.2⟩
theorem Wr(r:au p s)(e:ae x s):ae (Eh p x) (Eh p s):=by
 have j:=e.right r;have d:=e.os.1;have k:=Ik e s.os.n;have i:dh x x.os.n=dh x s.os.n:=by rw[d]
 have h:ig p (-1) (pk s) (vy s) (dh s s.os.n) s.os.n (Eh p x):=by
  have f:=Fw j;unfold jw at f;rw[i,d] at f;refine ig.base k (λa _=>mh s a) (λa g => ?_) (λa b g l => ?_) nlr f
  .exact(e.os.2 a (by rw[d];exact g)).2.1
  unfold pk;rw[i];have o:=k.os.2 a (by show a<x.os.n;rw[d];exact g);rw[o.1];by_cases c:((dh s s.os.n).os.z a).k=1
  .rw[if_pos c,if_pos c,o.2.2 b (by rw[o.2.1];exact l)]
  rw[if_neg c,if_neg c]
 exact jw.same r h (Fw r)
theorem au.bound(r:au p s):s.os.n<=1000/\s.ms.n<=1000/\∀i,i<s.os.n->(s.os.z i).ls.n<=1000 :=
 ⟨Qzx r.fm.os4 (by decide),Qzx r.fm.ms8 (by decide),λi hi=>Qzx (r.fm.lns i hi).2 (by decide)⟩
theorem Vk(r:au p s):au p (Eh p s):=((Fw r).pos r).al.r
def cx(z:Nat->Hd):Nat->List Hd
 | 0=>[]
 | k+1=>z k :: cx z k
def gz(z:Nat->Hd)(i:Nat)(d:Int)(j:Nat):Hd:=if j=i then i5 (z j) d else z j
def lf(f:Hd->Bool):Nat->Int->(Nat->Hd)->Nat->Hd
 | 0,_,z=>z
 | i+1,m,z=>if f (z i) then lf f i (m-min m (z i).n) (gz z i (min m (z i).n)) else lf f i m z
def iq(f:Hd->Bool):Int->List Hd->List Hd
 | _,[]=>[]
 | m,h :: R=>if f h then i5 h (min m h.n) :: iq f (m-min m h.n) R else h :: iq f m R
def ky(f:Hd->Bool):Int->List Hd->Int->Int->Int
 | _,[],_,_=>0
 | m,h :: R,o,l=>if f h then(if h.o=o/\h.l=l then min m h.n else 0)+ky f (m-min m h.n) R o l else ky f m R o l
def tp(f:Hd->Bool):Int->List Hd->Int
 | m,[]=>m
 | m,h :: R=>if f h then tp f (m-min m h.n) R else tp f m R
def fh(P:Hd->Bool):List Hd->Int
 | []=>0
 | h :: R=>fh P R+if P h then h.n else 0
def sd(x:Hd):Bool:=x.n==0
def flt(L:List Hd):List Hd:=L.filter (λx => !sd x)
def H7(f:Hd->Bool):List Hd->List Hd
 | []=>[]
 | h :: R=>if f h then(if h.n=1 then R else i5 h 1 :: R) else h :: H7 f R
def jy(f:Hd->Bool)(z:Nat->Hd):Nat->Option Nat
 | 0=>none
 | k+1=>if f (z k) then some k else jy f z k
theorem Ii(z:Nat->Hd):∀n,cx z n=((List.range n).map z).reverse
 | 0=>rfl
 | n+1=>by rw[List.range_succ,List.map_append,List.reverse_append,<-Ii z n];rfl
theorem Kd(z:Nat->Hd):∀n,(cx z n).length=n
 | 0=>rfl
 | n+1=>by show(cx z n).length+1=_;rw[Kd z n]
theorem nx{z z':Nat->Hd}:∀{n:Nat},(∀j,j<n->z j=z' j)->cx z n=cx z' n
 | 0,_=>rfl
 | n+1,h=>by show z n :: cx z n=z' n :: cx z' n;rw[h n (by omega),nx λj a=>h j (by omega)]
theorem Th{z z':Nat->Hd}:∀{n:Nat},cx z n=cx z' n->∀j,j<n->z j=z' j
 | 0,_,j,hj=>absurd hj (by omega)
 | n+1,h,j,hj=>by
  have a:z n :: cx z n=z' n :: cx z' n:=h;rw[List.cons.injEq] at a;by_cases e:j=n
  .rw[e];exact a.1
  exact Th a.2 j (by omega)
theorem yw{z':Nat->Hd}{a:Nat}(h:cx z n=cx z' a):n=a/\∀j,j<n->z j=z' j:=by
 have e:n=a:=by rw[<-Kd z n,h,Kd]
 subst e;exact⟨rfl,Th h⟩
theorem wi{z:Nat->Hd}:∀{n:Nat} {x:Hd},x∈cx z n->∃j,j<n/\z j=x
 | 0,x,h=>by cases h
 | n+1,x,h=>by
  rcases List.mem_cons.1 h with e|e
  .exact⟨n,by omega,e.symm⟩
  obtain⟨j,a,e⟩:=wi e;exact⟨j,by omega,e⟩
theorem Rb{z:Nat->Hd}:∀{n j:Nat},j<n->z j∈cx z n
 | n+1,j,h=>by
  by_cases e:j=n
  .rw[e];exact List.mem_cons_self
  exact List.mem_cons_of_mem _ (Rb (by omega))
theorem Cs(f:Hd->Bool):∀(i:Nat) (m:Int) (z:Nat->Hd) (k:Nat),i<=k->lf f i m z k=z k
 | 0,_,_,_,_=>rfl
 | i+1,m,z,k,h=>by
  show(if f (z i) then lf f i (m-min m (z i).n) (gz z i (min m (z i).n)) else lf f i m z) k=z k
  split
  .rw[Cs f i _ _ k (by omega)];exact if_neg (by omega)
  exact Cs f i _ _ k (by omega)
theorem Kc(f:Hd->Bool):∀(i:Nat) (m:Int) (z:Nat->Hd),cx (lf f i m z) i=iq f m (cx z i)
 | 0,_,_=>rfl
 | i+1,m,z=>by
  show lf f (i+1) m z i :: cx (lf f (i+1) m z) i=if f (z i) then _ else _;have e:lf f (i+1) m z=if f (z i) then lf f i (m-min m (z i).n) (gz z i (min m (z i).n)) else lf f i m z:=rfl;rw[e];by_cases h:f (z i)=true
  .rw[if_pos h,if_pos h,Kc f i,Cs f i _ _ i nlr];have a:gz z i (min m (z i).n) i=i5 (z i) (min m (z i).n):=if_pos rfl;rw[a,nx (z:=gz z i (min m (z i).n)) (z':=z) λj b=>if_neg (by omega)]
  rw[if_neg h,if_neg h,Kc f i,Cs f i _ _ i nlr]
theorem Lo(x:Hd):i5 x 0=x:=by unfold i5;rw[Int.sub_zero]
theorem Hy(f:Hd->Bool):∀(i:Nat) (z:Nat->Hd),(∀j,j<i->0<=(z j).n)->lf f i 0 z=z
 | 0,_,_=>rfl
 | i+1,z,h=>by
  show(if f (z i) then lf f i (0-min 0 (z i).n) (gz z i (min 0 (z i).n)) else lf f i 0 z)=z;have a:min 0 (z i).n=0:=Int.min_eq_left (h i (by omega));have e:gz z i 0=z:=by
   funext j
   unfold gz;rw[Lo]
   split<;>rfl
  rw[a,e,Int.sub_zero,Hy f i z λj b=>h j (by omega)]
  split<;>rfl
theorem F2(f:Hd->Bool):∀(i:Nat) (m:Int) (z:Nat->Hd),0<=m->(∀j,j<i->0<=(z j).n)->∀k,((lf f i m z k).o=(z k).o/\(lf f i m z k).l=(z k).l/\(lf f i m z k).b=(z k).b)/\(k<i->0<=(lf f i m z k).n)/\(lf f i m z k).n<=(z k).n
 | 0,_,_,_,_,_=>⟨⟨rfl,rfl,rfl⟩,λh=>absurd h (by omega),Int.le_refl _⟩
 | i+1,m,z,hm,hz,k=>by
  have e:lf f (i+1) m z=if f (z i) then lf f i (m-min m (z i).n) (gz z i (min m (z i).n)) else lf f i m z:=rfl;rw[e];have hi:=hz i (by omega);by_cases h:f (z i)=true
  .rw[if_pos h];have d:∀j,¬j=i->gz z i (min m (z i).n) j=z j:=λj c=>if_neg c;have hs:gz z i (min m (z i).n) i=i5 (z i) (min m (z i).n):=if_pos rfl;have r:=F2 f i (m-min m (z i).n) (gz z i (min m (z i).n)) (by omega) (λj c=>by rw[d j (by omega)];exact hz j (by omega)) k;by_cases a:k=i
   .subst a;rw[Cs f k _ _ k nlr,hs];refine⟨⟨rfl,rfl,rfl⟩,λ_ => ?_,?_⟩
    .show 0<=(z k).n-min m (z k).n;omega
    show(z k).n-min m (z k).n<=(z k).n;omega
   rw[d k a] at r;exact⟨r.1,λg=>r.2.1 (by omega),r.2.2⟩
  rw[if_neg h];have r:=F2 f i m z hm (λj c=>hz j (by omega)) k;by_cases a:k=i
  .subst a;rw[Cs f k _ _ k nlr];exact⟨⟨rfl,rfl,rfl⟩,λ_=>hi,Int.le_refl _⟩
  exact⟨r.1,λg=>r.2.1 (by omega),r.2.2⟩
def Ld(f:Hd->Bool):Prop:=∀h d,f (i5 h d)=f h
def vh(R:List Hd):Prop:=∀h,h∈R->0<=h.n
theorem vh.tail{R:List Hd}(p:vh (h :: R)):vh R:=λx hx=>p x (List.mem_cons_of_mem _ hx)
theorem vh.head{R:List Hd}(p:vh (h :: R)):0<=h.n:=p h List.mem_cons_self
theorem Aj{P:Hd->Bool}:∀{R:List Hd},vh R->0<=fh P R
 | [],_=>Int.le_refl _
 | h :: R,p=>by
  have:=Aj (P:=P) p.tail;have:=p.head;show 0<=fh P R+if P h then h.n else 0
  split<;>omega
theorem uk(P:Hd->Bool):∀(R:List Hd),fh P (flt R)=fh P R
 | []=>rfl
 | h :: R=>by
  have a:=uk P R;unfold flt at a ⊢;rw[List.filter_cons];cases b:sd h
  .rw[if_pos (show(!false)=true from rfl)];show fh P _+_=fh P R+_;rw[a]
  rw[if_neg (by decide),a];have c:h.n=0:=by unfold sd at b;simpa using b
  show _=fh P R+if P h then h.n else 0;rw[c]
  split<;>omega
theorem ti{f:Hd->Bool}(b:Ld f):∀{R:List Hd} {m:Int},vh R->0<=m->fh f (iq f m R)=fh f R-min m (fh f R)/\tp f m R=m-min m (fh f R)
 | [],m,_,hm=>by
  show(0:Int)=0-min m 0/\m=m-min m 0;omega
 | h :: R,m,p,hm=>by
  have j:=p.head;have k:=Aj (P:=f) p.tail;by_cases c:f h=true
  .have e:iq f m (h :: R)=i5 h (min m h.n) :: iq f (m-min m h.n) R:=if_pos c;have i:tp f m (h :: R)=tp f (m-min m h.n) R:=if_pos c;have g:fh f (h :: R)=fh f R+h.n:=by show _+(if f h then _ else _)=_;rw[if_pos c]
   have a:=ti b (R:=R) (m:=m-min m h.n) p.tail (by omega);rw[e,i,g,a.2];have d:fh f (i5 h (min m h.n) :: iq f (m-min m h.n) R)=fh f (iq f (m-min m h.n) R)+(h.n-min m h.n):=by show _+(if f _ then _ else _)=_;rw[b,if_pos c];rfl
   rw[d,a.1];omega
  have e:iq f m (h :: R)=h :: iq f m R:=if_neg c;have i:tp f m (h :: R)=tp f m R:=if_neg c;have g:fh f (h :: R)=fh f R:=by show _+(if f h then _ else _)=_;rw[if_neg c,Int.add_zero]
  have a:=ti b (R:=R) (m:=m) p.tail hm;have d:fh f (h :: iq f m R)=fh f (iq f m R):=by show _+(if f h then _ else _)=_;rw[if_neg c,Int.add_zero]
  rw[e,i,g,d];exact a
theorem Ch{f P:Hd->Bool}(hd:∀h,P h=true->f h=false)(a:Ld P):∀(R:List Hd) (m:Int),fh P (iq f m R)=fh P R
 | [],_=>rfl
 | h :: R,m=>by
  by_cases c:f h=true
  .have e:iq f m (h :: R)=i5 h (min m h.n) :: iq f (m-min m h.n) R:=if_pos c;have b:P h=false:=by
    cases b:P h
    .rfl
    rw[hd h b] at c;cases c
   rw[e];show fh P _+(if P (i5 h _) then _ else _)=fh P R+if P h then _ else _;rw[a,b,Ch hd a R]
   rfl
  have e:iq f m (h :: R)=h :: iq f m R:=if_neg c;rw[e];show fh P _+_=fh P R+_;rw[Ch hd a R]
def A5(o l:Int)(h:Hd):Bool:=(h.o==o)&&(h.l==l)
theorem Aw{o l:Int}:A5 o l h=true↔h.o=o/\h.l=l:=by unfold A5;simp
theorem Hz(f:Hd->Bool)(o l:Int):∀(R:List Hd) (m:Int),fh (A5 o l) (iq f m R)=fh (A5 o l) R-ky f m R o l
 | [],_=>rfl
 | h :: R,m=>by
  by_cases c:f h=true
  .have e:iq f m (h :: R)=i5 h (min m h.n) :: iq f (m-min m h.n) R:=if_pos c;have a:ky f m (h :: R) o l=(if h.o=o/\h.l=l then min m h.n else 0)+ky f (m-min m h.n) R o l:=if_pos c;rw[e,a];show fh _ _+(if A5 o l (i5 h _) then h.n-min m h.n else 0)=fh _ R+(if A5 o l h then h.n else 0)-_;rw[Hz f o l R];have b:A5 o l (i5 h (min m h.n))=A5 o l h:=rfl;rw[b];by_cases k:h.o=o/\h.l=l
   .rw[if_pos (Aw.2 k),if_pos (Aw.2 k),if_pos k];omega
   rw[if_neg (λe=>k (Aw.1 e)),if_neg (λe=>k (Aw.1 e)),if_neg k];omega
  have e:iq f m (h :: R)=h :: iq f m R:=if_neg c;have a:ky f m (h :: R) o l=ky f m R o l:=if_neg c;rw[e,a];show fh _ _+_=fh _ R+_-_;rw[Hz f o l R];omega
theorem Iy(f:Hd->Bool)(o l:Int):∀{R:List Hd} {m:Int},vh R->0<=m->0<=ky f m R o l
 | [],_,_,_=>Int.le_refl _
 | h :: R,m,p,hm=>by
  have a:=p.head;show 0<=if f h then _ else _
  split
  .have:=Iy f o l (R:=R) (m:=m-min m h.n) p.tail (by omega)
   split<;>omega
  exact Iy f o l p.tail hm
theorem Bl(f:Hd->Bool)(o l:Int):∀{R:List Hd},vh R->ky f 0 R o l=0
 | [],_=>rfl
 | h :: R,p=>by
  have a:min 0 h.n=0:=Int.min_eq_left p.head;show(if f h then(if h.o=o/\h.l=l then min 0 h.n else 0)+ky f (0-min 0 h.n) R o l else ky f 0 R o l)=0;rw[a,Int.sub_zero,Bl f o l p.tail]
  split
  .split<;>rfl
  rfl
theorem Dz(f:Hd->Bool):∀{R:List Hd},vh R->iq f 0 R=R
 | [],_=>rfl
 | h :: R,p=>by
  have a:min 0 h.n=0:=Int.min_eq_left p.head;show(if f h then i5 h (min 0 h.n) :: iq f (0-min 0 h.n) R else h :: iq f 0 R)=h :: R;rw[a,Int.sub_zero,Dz f p.tail,Lo]
  split<;>rfl
theorem Ay(f:Hd->Bool):∀{R:List Hd} {m:Int},vh R->0<=m->vh (iq f m R)
 | [],_,_,_=>λx hx=>by cases hx
 | h :: R,m,p,hm=>by
  have a:=p.head;by_cases c:f h=true
  .have e:iq f m (h :: R)=i5 h (min m h.n) :: iq f (m-min m h.n) R:=if_pos c;rw[e];intro x hx;rcases List.mem_cons.1 hx with rfl|hx
   .show 0<=h.n-min m h.n;omega
   exact Ay f p.tail (by omega) x hx
  have e:iq f m (h :: R)=h :: iq f m R:=if_neg c;rw[e];intro x hx;rcases List.mem_cons.1 hx with rfl|hx
  .exact a
  exact Ay f p.tail hm x hx
theorem I6{R:List Hd}(h:∀x,x∈R->1<=x.n):flt R=R:=by
 unfold flt;rw[List.filter_eq_self];intro x hx;have:=h x hx;unfold sd;simp;omega
theorem zv{R:List Hd}(c:1<=h.n):flt (h :: R)=h :: flt R:=by
 unfold flt;rw[List.filter_cons,if_pos];unfold sd;simp;omega
theorem Gw{R:List Hd}(c:h.n=0):flt (h :: R)=flt R:=by
 unfold flt;rw[List.filter_cons,if_neg];unfold sd;simp[c]
theorem I8{f:Hd->Bool}(j:Ld f):∀{R:List Hd} {m:Int},(∀h,h∈R->1<=h.n)->0<=m->m+1<=fh f R->H7 f (flt (iq f m R))=flt (iq f (m+1) R)/\∃a,(flt (iq f m R)).find? f=some a/\∀o l,ky f (m+1) R o l=ky f m R o l+if a.o=o/\a.l=l then 1 else 0
 | [],m,_,_,hs=>absurd hs (by show ¬m+1<=0;omega)
 | h :: R,m,p,hm,hs=>by
  have s:=p h List.mem_cons_self;have b:∀x,x∈R->1<=x.n:=λx hx=>p x (List.mem_cons_of_mem _ hx);have t:vh R:=λx hx=>by have:=b x hx;omega
  by_cases c:f h=true;rotate_left
  .have e:∀k,iq f k (h :: R)=h :: iq f k R:=λk=>if_neg c;have eq:∀k o l,ky f k (h :: R) o l=ky f k R o l:=λk o l=>if_neg c;have q:fh f (h :: R)=fh f R:=by show _+(if f h then _ else _)=_;rw[if_neg c,Int.add_zero]
   rw[q] at hs;have g:=I8 j (R:=R) (m:=m) b hm hs;rw[e,e,zv s,zv s];refine⟨?_,?_⟩
   .show(if f h then _ else h :: H7 f _)=_;rw[if_neg c,g.1]
   obtain⟨a,a1,r⟩:=g.2;refine⟨a,?_,λo l=>by rw[eq,eq,r]⟩;rw[List.find?_cons,show f h=false by simpa using c];exact a1
  have e:∀k,iq f k (h :: R)=i5 h (min k h.n) :: iq f (k-min k h.n) R:=λk=>if_pos c;have eq:∀k o l,ky f k (h :: R) o l=(if h.o=o/\h.l=l then min k h.n else 0)+ky f (k-min k h.n) R o l:=λk o l=>if_pos c;have q:fh f (h :: R)=fh f R+h.n:=by show _+(if f h then _ else _)=_;rw[if_pos c]
  rw[q] at hs;by_cases k:m<h.n;rotate_left
  .have d:min m h.n=h.n:=by omega
   have i:min (m+1) h.n=h.n:=by omega
   have g:=I8 j (R:=R) (m:=m-h.n) b (by omega) (by omega);have e0:∀k,min k h.n=h.n->flt (iq f k (h :: R))=flt (iq f (k-h.n) R):=λk v=>by
    rw[e,v,Gw (by show h.n-h.n=0;omega)]
   rw[e0 m d,e0 (m+1) i,show m+1-h.n=m-h.n+1 by omega];refine⟨g.1,?_⟩;obtain⟨a,a1,r⟩:=g.2;refine⟨a,a1,λo l => ?_⟩;rw[eq,eq,d,i,show m+1-h.n=m-h.n+1 by omega,r];omega
  have d:min m h.n=m:=by omega
  have i:min (m+1) h.n=m+1:=by omega
  have e0:flt (iq f m (h :: R))=i5 h m :: R:=by
   rw[e,d,Int.sub_self,Dz f t,zv (by show 1<=h.n-m;omega),I6 b]
  refine⟨?_,i5 h m,?_,λo l => ?_⟩
  .rw[e0,e,i,Int.sub_self,Dz f t];show(if f (i5 h m) then(if (i5 h m).n=1 then R else i5 (i5 h m) 1 :: R) else _)=_;rw[j,if_pos c];by_cases u:h.n-m=1
   .rw[if_pos (show(i5 h m).n=1 from u),Gw (by show h.n-(m+1)=0;omega),I6 b]
   rw[if_neg (show ¬(i5 h m).n=1 from u),zv (by show 1<=h.n-(m+1);omega),I6 b];have:i5 (i5 h m) 1=i5 h (m+1):=by unfold i5;rw[show h.n-m-1=h.n-(m+1) by omega]
   rw[this]
  .rw[e0,List.find?_cons,j,c]
  rw[eq,eq,d,i,Int.sub_self,Int.sub_self];show(if h.o=o/\h.l=l then m+1 else 0)+_=(if h.o=o/\h.l=l then m else 0)+_+if h.o=o/\h.l=l then 1 else 0
  split<;>omega
theorem N5(f:Hd->Bool)(z:Nat->Hd):∀n,(cx z n).find? f=(jy f z n).map z
 | 0=>rfl
 | n+1=>by
  show(z n :: cx z n).find? f=(if f (z n) then some n else jy f z n).map z;rw[List.find?_cons];cases h:f (z n)
  .rw[if_neg (by decide)];exact N5 f z n
  rw[if_pos rfl];rfl
theorem Cq{f:Hd->Bool}{z:Nat->Hd}:∀{n k:Nat},jy f z n=some k->k<n/\f (z k)=true
 | 0,k,h=>by cases h
 | n+1,k,h=>by
  have a:(if f (z n) then some n else jy f z n)=some k:=h;by_cases c:f (z n)=true
  .rw[if_pos c] at a;cases a;exact⟨by omega,c⟩
  rw[if_neg c] at a;have:=Cq a;exact⟨by omega,this.2⟩
theorem N7{f:Hd->Bool}{z:Nat->Hd}:∀{n:Nat},jy f z n=none->∀k,k<n->f (z k)=false
 | 0,_,k,h=>absurd h (by omega)
 | n+1,h,k,hk=>by
  have a:(if f (z n) then some n else jy f z n)=none:=h;by_cases c:f (z n)=true
  .rw[if_pos c] at a;cases a
  rw[if_neg c] at a;by_cases e:k=n
  .rw[e];simpa using c
  exact N7 a k (by omega)
theorem Qn{f:Hd->Bool}{z:Nat->Hd}:∀{n k:Nat},jy f z n=some k->¬(z k).n=1->cx (gz z k 1) n=H7 f (cx z n)
 | 0,k,h,_=>by cases h
 | n+1,k,h,hn=>by
  have a:(if f (z n) then some n else jy f z n)=some k:=h;show gz z k 1 n :: cx (gz z k 1) n=if f (z n) then(if (z n).n=1 then cx z n else i5 (z n) 1 :: cx z n) else z n :: H7 f (cx z n);by_cases c:f (z n)=true
  .rw[if_pos c] at a;cases a;rw[if_pos c,if_neg hn,nx (z:=gz z n 1) (z':=z) λj b=>if_neg (by omega)];have e:gz z n 1 n=i5 (z n) 1:=if_pos rfl;rw[e]
  rw[if_neg c] at a ⊢;have:=Cq a;rw[Qn a hn];have e:gz z k 1 n=z n:=if_neg (by omega);rw[e]
theorem Qd{f:Hd->Bool}{z:Nat->Hd}:∀{n k:Nat},jy f z (n+1)=some k->(z k).n=1->cx (fs z k) n=H7 f (cx z (n+1))
 | n,k,h,hn=>by
  have a:(if f (z n) then some n else jy f z n)=some k:=h;show cx (fs z k) n=if f (z n) then(if (z n).n=1 then cx z n else i5 (z n) 1 :: cx z n) else z n :: H7 f (cx z n);by_cases c:f (z n)=true
  .rw[if_pos c] at a;cases a;rw[if_pos c,if_pos hn];exact nx λj b=>if_pos b
  rw[if_neg c] at a ⊢;have l:=Cq a
  match n,a,l with
  | q+1,a,l =>
   rw[<-Qd a hn];show fs z k q :: cx (fs z k) q=_;have e:fs z k q=z (q+1):=if_neg (by omega);rw[e]
def fu(p:Pl)(s:St)(order:Int):Int:=if ah p s=0 then(if inB order 0 ((s.os.n:Int)-1) then(if (s.os.z order.toNat).k=2 then 6 else 0) else 4) else ah p s
theorem ur{order:Int}(h:¬ah p s=0):fu p s order=ah p s:=by unfold fu;rw[if_neg h]
theorem Dc{order:Int}(h:ah p s=0)(a:inB order 0 ((s.os.n:Int)-1)=false):fu p s order=4:=by unfold fu;rw[if_pos h,a];rfl
theorem Cx{order:Int}(h:ah p s=0)(b:inB order 0 ((s.os.n:Int)-1)=true)(a:(s.os.z order.toNat).k=2):fu p s order=6:=by unfold fu;rw[if_pos h,b,if_pos a];rfl
theorem Mp{order:Int}(h:ah p s=0)(b:inB order 0 ((s.os.n:Int)-1)=true)(a:¬(s.os.z order.toNat).k=2):fu p s order=0:=by unfold fu;rw[if_pos h,b,if_neg a];rfl
def dt(s:St)(o:Nat):St:=fk (di (withHolds s (dy s.hs (λx=>x.o==(o:Int)))) o 2) o (s.os.z o).ls.n
theorem qm(s:St)(o i:Nat):(dt s o).os.z i=if i=o then ⟨2,xe (s.os.z i).ls (s.os.z o).ls.n⟩ else s.os.z i:=by
 show(if i=o then(⟨(if i=o then(⟨2,(s.os.z i).ls⟩:Od) else s.os.z i).k,xe (if i=o then(⟨2,(s.os.z i).ls⟩:Od) else s.os.z i).ls (s.os.z o).ls.n⟩:Od) else(if i=o then(⟨2,(s.os.z i).ls⟩:Od) else s.os.z i))=_;by_cases h:i=o
 .rw[if_pos h,if_pos h,if_pos h]
 rw[if_neg h,if_neg h,if_neg h]
theorem Ee(h:ae x s)(f:o<x.os.n):ae (dt x o) (dt s o):=by
 have g:=h.os.2 o f;have d:=Ty h.hs.1 h.hs.2 (λy=>y.o==(o:Int));refine⟨h.on,⟨h.os.1,λi hi => ?_⟩,⟨d.1,λj _=>by show(dy x.hs _).z j=(dy s.hs _).z j;rw[d.2]⟩,h.ms,h.si,h.so,h.sf⟩;have e:=h.os.2 i hi;rw[qm,qm];by_cases a:i=o
 .subst a;rw[if_pos rfl,if_pos rfl];refine⟨rfl,e.2.1,λj c => ?_⟩;show(if j<(x.os.z i).ls.n then vi ((x.os.z i).ls.z j) else(x.os.z i).ls.z j)=if j<(s.os.z i).ls.n then vi ((s.os.z i).ls.z j) else(s.os.z i).ls.z j;have b:j<(x.os.z i).ls.n:=c;rw[if_pos b,if_pos (by omega),e.2.2 j b]
 rw[if_neg a,if_neg a];exact e
theorem Uc(p:Pl)(s:St)(order:Int)(w:World)(hp:p.At w)(hs:s.At w):
  Calls prog 20 #[p.val,s.val,.int .i64 order] w λe G=>∃x:St,e = .returned (.tuple #[x.val,.int .i64 (fu p s order)])/\x.At G/\dv (fu p s order) (dt s order.toNat) x/\(fu p s order=0->ai w.heap.size G x)/\Below w.heap.size w G:=by
 obtain⟨M,hW,ac,X0,K0,Z0⟩:∃W,((((w.alloc (.cells #[.slice p.ab p.nb p.cb,.slice p.sa p.ns p.cs] 25)).alloc (.cells s.cells 31)).alloc (.cells #[.int .i64 order] 3)).alloc (.cells #[.slice .none 0 0,.slice .none 0 0,.slice .none 0 0,.slice .none 0 0,.slice .none 0 0,.slice .none 0 0,.slice .none 0 0] 31))=W/\Below w.heap.size w W/\mf W w.heap.size (w.heap.size+1) p s/\Blk W (w.heap.size+2) 3 1 (λ_ => .int .i64 order)/\Blk W (w.heap.size+3) 31 7 (λ_ => .slice .none 0 0):=
  ⟨_,rfl,((j8 _ _ _).alloc (by simp;omega) _).alloc (by simp;omega) _,((ox w p s _ _).below (brf.alloc nlr _)).below (brf.alloc nlr _),((Blk.mk' (cur:=#[.int .i64 order]) (by simp) rfl).congr (λj L=>by match j,L with|0,_=>rfl)).alloc _,(Blk.mk' (cur:=#[.slice .none 0 0,.slice .none 0 0,.slice .none 0 0,.slice .none 0 0,.slice .none 0 0,.slice .none 0 0,.slice .none 0 0]) (by simp) rfl).congr (λj L=>by match j,L with|0,_=>rfl|1,_=>rfl|2,_=>rfl|3,_=>rfl|4,_=>rfl|5,_=>rfl|6,_=>rfl)⟩
 have HC:Hid (∀Q,Below M.heap.size M Q->mf Q w.heap.size (w.heap.size+1) p s/\p.At Q/\s.At Q/\Below w.heap.size w Q/\Blk Q (w.heap.size+3) 31 7 (λ_ => .slice .none 0 0)/\Blk Q (w.heap.size+2) 3 1 (λ_ => .int .i64 order)):=λQ h=>⟨X0.below h,(hp.below ac).below h,(hs.below ac).below h,ac.trans (h.mono ac.size),Z0.below h,K0.below h⟩;have HW:Hid ((((w.alloc (.cells #[.slice p.ab p.nb p.cb,.slice p.sa p.ns p.cs] 25)).alloc (.cells #[.slice s.on.a s.on.n s.on.c,.slice s.os.a s.os.n s.os.c,.slice s.hs.a s.hs.n s.hs.c,.slice s.ms.a s.ms.n s.ms.c,.slice s.si.a s.si.n s.si.c,.slice s.so.a s.so.n s.so.c,.slice s.sf.a s.sf.n s.sf.c] 31)).alloc (.cells #[.int .i64 order] 3)).alloc (.cells #[.slice .none 0 0,.slice .none 0 0,.slice .none 0 0,.slice .none 0 0,.slice .none 0 0,.slice .none 0 0,.slice .none 0 0] 31)=M):=hW;have ei:=Z0.lt;have cq:=hs.os.le;have ba:=hs.os.cap;have dk:=ba;have U:s.os.n<=maxLen:=Qzx cq ba;unfold maxLen at dk;clear hW X0 Z0 K0 hp hs;unfold Pl.val St.val;go_enter func20,ntmps20;go_wp2_with fail;rw[HW.out];obtain⟨X,F,B,A,r,H⟩:=HC.out M brf;refine(lm p s M F B).mono ?_;rintro e u ⟨rfl,hB⟩;clear X F B A r H HW;obtain⟨⟨⟨l1,d0,d1⟩,l2,c0,c1,c2,c3,c4,c5,c6⟩,F,B,A,r,H⟩:=HC.out u hB;have b0:=H.lt;have b1:u.cell? ⟨w.heap.size+2,0,none⟩=some (.int .i64 order):=H.k 0;by_cases J:ah p s=0;rotate_left
 .have K:Hid (fu p s order=ah p s):=ur J;have da:Hid (¬fu p s order=0):=by show ¬_;rw[ur J];exact J
  have g0:(ah p s !=0)=true:=by simpa using J
  clear J;clear F B H;obtain⟨zl,a4,a9,av,zc1,bc,zc2,a0,zc3,bg,zc4,am,zc5,bh,a1⟩:=z7 r;go_wp2_with fail;exact g9 results20 r A (by omega) K.out (λh=>da.out (K.out.trans h)) rfl rfl rfl
 have H0:=hid J;have HF:Hid (cw p s):=(ew J).fm;rw[J];clear J;cases k1:inB order 0 ((s.os.n:Int)-1)
 .have K:Hid (fu p s order=4):=Dc H0.out k1;clear F B H;obtain⟨zl,a4,a9,av,zc1,bc,zc2,a0,zc3,bg,zc4,am,zc5,bh,a1⟩:=z7 r;go_wp2_with(go_at_call 47;refine ag (dm _ _ _ U) ?_);exact g9 results20 r A (by omega) K.out (by decide) rfl rfl rfl
 have dp:=aq k1;obtain⟨o,rfl⟩:=Qzz dp.1;have ho:o<s.os.n:=by omega
 have q0:(0:Int)<=(o:Int):=by omega
 obtain⟨bo,oo,ao,du,z0,z1,cm⟩:=B.os.ods o ho;have bt:=hid ao;rw[ao] at c1;clear ao z1 cm;by_cases k2:(s.os.z o).k=2
 .have K:Hid (fu p s (o:Int)=6):=Cx H0.out k1 k2;rw[k2] at z0;clear k2;clear F B H;obtain⟨zl,a4,a9,av,zc1,bc,zc2,a0,zc3,bg,zc4,am,zc5,bh,a1⟩:=z7 r;go_wp2_with(go_at_call 47;refine ag (dm _ _ _ U) ?_);exact g9 results20 r A (by omega) K.out (by decide) rfl rfl rfl
 have K:Hid (fu p s (o:Int)=0):=Mp H0.out k1 k2;have g2:((s.os.z o).k==2)=false:=by simpa using k2
 clear k2
 generalize (s.os.z o).k=KK at *
 have br:Hid (Calls prog 51 #[s.val] u λe G=>∃s':St,e = .returned s'.val/\ae s' s/\ai u.heap.size G s'/\Below u.heap.size u G):=nf p s u B HF.out;have a2:=hid H;clear F B A r H;go_wp2_with(go_at_call 47;refine ag (dm _ _ _ U) ?_);rw[<-bt.out];refine Calls.mono br.out ?_;rintro e i ⟨d,rfl,P,ay,aj⟩;clear br l1 d0 d1 l2 c0 c1 c2 c3 c4 c5 c6 z0 du k1 g2 b0 b1 bt;obtain⟨W5,bp,Y,K5⟩:=ab7 i d;have ap:=hid bp;have E:=aj.trans (Y.mono aj.size);have bs:=hB.trans (E.mono hB.size);have aa:=ai.below ay Y;have af:o<d.os.n:=by rw[P.os.1];exact ho
 have bm:=hid P;have s2:W5.cell? ⟨i.heap.size,2,none⟩=some (.slice d.hs.a d.hs.n d.hs.c):=K5.k 2;have s1:=K5.lt;have HD:Hid (Calls prog 59 #[.slice d.hs.a d.hs.n d.hs.c,.func (.func 60) #[] #[.pointer (some ⟨w.heap.size+1+1,0,none⟩)]] W5 λe G=>e = .returned (.slice (dy d.hs (λx=>x.o==(o:Int))).a (dy d.hs (λx=>x.o==(o:Int))).n (dy d.hs (λx=>x.o==(o:Int))).c)/\ai u.heap.size G (withHolds d (dy d.hs (λx=>x.o==(o:Int))))/\Below u.heap.size W5 G/\(∀q t m g,t≠103->Blk W5 q t m g->Blk G q t m g)):=
  Yi 60 #[.pointer (some ⟨w.heap.size+1+1,0,none⟩)] (λx=>x.o==(o:Int)) u.heap.size d W5 E.size aa (enters_of func60 (by kernel_rfl) rfl) (λx wz r=>by
   have a7:=a2.out.lt;exact Sg (w.heap.size+1+1) x o wz (Xzx a7 (Qzx E.size r.size)) ((r.cell (p:=⟨w.heap.size+2,0,none⟩) a7).trans ((E.cell (p:=⟨w.heap.size+2,0,none⟩) a7).trans (a2.out.k 0))))
 have bw:=qa4 bs hB.size aj.size E.size;have bx:=hid K5;rw[<-ap.out] at s1 s2;clear bp ay aa K5 aj Y E bs P hB;simp only[St.val];go_wp2_with fail;rw[ap.out];clear s1 s2 ap;refine HD.out.mono ?_;rintro e S ⟨rfl,a5,a8,ad⟩;have cg:Hid (∀h:Hs,h=dy d.hs (λx=>x.o==(o:Int))->h.a=d.hs.a/\h.c=d.hs.c):=λh e=>by rw[e];exact⟨rfl,rfl⟩
 obtain⟨f,ax⟩:∃f,dy d.hs (λx=>x.o==(o:Int))=f:=⟨_,rfl⟩;have bz:=hid ax;rw[ax] at a5 ⊢;clear HD ax cg;obtain⟨e1,e2,e3,e4⟩:=bw.out;have K6:=ad _ _ _ _ (by decide) bx.out;have bd:=e1.trans (a8.mono e2);have n1:=K6.lt;have n2:=K6.frozen 2;have n3:=K6.k 2;have T:=a5.box K6 2 (.slice f.a f.n f.c);have K7:Blk (S.setCell ⟨i.heap.size,2,none⟩ (.slice f.a f.n f.c)) i.heap.size 31 7 (λj=>(withHolds d f).cells.getD j default):=(K6.set 2 (.slice f.a f.n f.c)).congr (λj L=>by match j,L with|0,_=>rfl|1,_=>rfl|2,_=>rfl|3,_=>rfl|4,_=>rfl|5,_=>rfl|6,_=>rfl);have V:=bd.setCell (p:=⟨i.heap.size,2,none⟩) (by show M.heap.size<=i.heap.size;omega) (.slice f.a f.n f.c);have dx:S.heap.size<=(S.setCell ⟨i.heap.size,2,none⟩ (.slice f.a f.n f.c)).heap.size:=by simp
 have a6:=a8.size;obtain⟨D,g1,g2,g3⟩:=T.os.list (by show 0<d.os.n;omega);have b2:d.os.a=some ⟨D,0,none⟩:=g1;have ce:¬D=i.heap.size:=Blk.ne2 g3 K7 (by decide);have b7:¬i.heap.size=D:=λe=>ce e.symm;have u1:=(K7.k 1);have bv:(S.setCell ⟨i.heap.size,2,none⟩ (.slice f.a f.n f.c)).cell? ⟨i.heap.size,1,none⟩=some (.slice d.os.a d.os.n d.os.c):=u1;rw[b2] at bv;have u2:=g3.lt;have u3:=g3.frozen (o*2);have u4:=g3.cell (j:=o*2) (by show o*2<d.os.n*2;omega)
 generalize (jn (withHolds d f).os.n (withHolds d f).os.z).getD (o*2) default=VV at u4
 have k8:=T.kind (o:=o) af g1 2;have K8:=K7.other (a:=⟨D,o*2,none⟩) b7 (.int .i64 2);have ar:=V.setCell (p:=⟨D,o*2,none⟩) (by show M.heap.size<=D;omega) (.int .i64 2);obtain⟨⟨-,-⟩,-,-,cl,-,a3⟩:=HC.out _ V;have u5:=a3.k 0;have u6:=a3.lt;have cn:¬w.heap.size+2=D:=by have:=a2.out.lt;omega
 have ed:¬D=w.heap.size+2:=λe=>cn e.symm;have dr:o<(di (withHolds d f) o 2).os.n:=af;have cf:Hid (∀j,j<((di (withHolds d f) o 2).os.z o).ls.n->(0<=(((di (withHolds d f) o 2).os.z o).ls.z j).l/\(((di (withHolds d f) o 2).os.z o).ls.z j).l<=200)/\0<=(((di (withHolds d f) o 2).os.z o).ls.z j).b/\(((di (withHolds d f) o 2).os.z o).ls.z j).b<=200):=by
  show ∀j,j<((di (withHolds d f) o 2).os.z o).ls.n->_;rw[uc];intro j L;have e:=bm.out.os.2 o af;have df:j<(d.os.z o).ls.n:=L;have hl:=dz (HF.out.line o ho j (by omega));show(0<=((d.os.z o).ls.z j).l/\((d.os.z o).ls.z j).l<=200)/\0<=((d.os.z o).ls.z j).b/\((d.os.z o).ls.z j).b<=200;rw[e.2.2 j df];omega
 have H8:Hid (ai u.heap.size ((S.setCell ⟨i.heap.size,2,none⟩ (.slice f.a f.n f.c)).setCell ⟨D,o*2,none⟩ (.int .i64 2)) (di (withHolds d f) o 2)/\Blk ((S.setCell ⟨i.heap.size,2,none⟩ (.slice f.a f.n f.c)).setCell ⟨D,o*2,none⟩ (.int .i64 2)) i.heap.size 31 7 (λj=>(withHolds d f).cells.getD j default)/\Below M.heap.size M ((S.setCell ⟨i.heap.size,2,none⟩ (.slice f.a f.n f.c)).setCell ⟨D,o*2,none⟩ (.int .i64 2))/\u.heap.size<=((S.setCell ⟨i.heap.size,2,none⟩ (.slice f.a f.n f.c)).setCell ⟨D,o*2,none⟩ (.int .i64 2)).heap.size):=⟨k8,K8,ar,by simp;omega⟩;have dw:=hid g1;have v1:d.os.n<=d.os.c:=T.os.le;have v2:d.os.c<=maxLen:=T.os.cap;unfold maxLen at v2;clear a5 a8 ad K6 bd T K7 V g1 b2 g3 u1 k8 K8 ar cl a3 bx;go_wp2_with fail;refine(Pz (di (withHolds d f) o 2) o u.heap.size D _ H8.out.2.2.2 H8.out.1 dr dw.out cf.out).mono ?_;rintro e w9 ⟨rfl,bn,b3,bu⟩;have K9:=bu _ _ _ _ (by decide) (by decide) H8.out.2.1;have b9:=H8.out.2.2.1.trans (b3.mono e2);clear n1 n2 n3 dx bv u2 u3 u4 u5 u6 H8;have bq:=hid bn;have KC:Blk w9 i.heap.size 31 7 (λj=>(dt d o).cells.getD j default):=K9.congr (λj L=>by unfold dt;rw[bz.out];match j,L with|0,_=>rfl|1,_=>rfl|2,_=>rfl|3,_=>rfl|4,_=>rfl|5,_=>rfl|6,_=>rfl);have cz:Hid (ai u.heap.size w9 (dt d o)):=by
  have h:=bq.out;rw[uc] at h;show ai u.heap.size w9 (dt d o);unfold dt;rw[bz.out];exact h
 have cj:Hid (ae (dt d o) (dt s o)):=Ee bm.out af;clear bn b3 bu K9 bq
 generalize dt d o=y at *
 obtain⟨m1,p0,p1,p2,p3,p4,p5,p6⟩:=Boxed.of KC;obtain⟨-,-,-,A,r,-⟩:=HC.out w9 b9;have HZ:=qa2 A r;obtain⟨zl,a4,a9,av,zc1,bc,zc2,a0,zc3,bg,zc4,am,zc5,bh,a1⟩:=z7 r;have d5:=(HC.out _ bw.out.1).2.2.2.1.size;clear KC A r;go_wp2_with fail;have KZ:=s7b HZ.out.2 y;have b4:=s7w (b:=w.heap.size+3) HZ.out.1 (by omega) y;have bf:=s7o cz.out HZ.out.2 y;unfold set7 at KZ b4 bf;obtain⟨ci,c7,ds,c9,cx,c8,ct⟩:=co KZ;refine Xzq (v := .tuple #[y.val,.int .i64 0]) (by simp[results,results20,go_sem,St.val,ci,c7,ds,c9,cx,c8,ct]) rfl ?_;refine⟨y,by rw[K.out];rfl,bf.at,⟨λ_=>cj.out,λh=>absurd K.out h⟩,λ_=>bf.mono (by omega),b4⟩
def withMoves(s:St)(h:Hs):St:=⟨s.on,s.os,s.hs,h,s.si,s.so,s.sf⟩
theorem j7.grew{B:Nat}{s:Os}(h:j7 A w s)(a:pu B e w d)(f:66≠e)(l:68≠e):j7 A d s:=by
 refine⟨h.le,h.cap,λk => ?_,λi hi => ?_,h.apart,h.room.grew a f⟩
 .obtain⟨q,a1,c,b⟩:=h.list k;exact⟨q,a1,c,a.blk b f⟩
 obtain⟨C,a1,c,b,j,g⟩:=h.lines i hi;exact⟨C,a1,c,b,j,a.blk g l⟩
theorem ai.moreH{b:World}{h:Hs}(k:ai A w s)(a:pu A 103 w b)(g:cz A 103 b h):ai A b (Go.Proofs.YtbcacebifpagpafGreat.withHolds s h):=by
 refine⟨?_,λi hi=>(k.rows i hi).grew a (by decide),k.rapart,k.os.grew a (by decide) (by decide),g,k.ms.grew a (by decide),k.msr.grew a (by decide),k.si.grew a (by decide),k.so.grew a (by decide),k.sf.grew a (by decide),k.aio,k.aif,k.aof,k.ari⟩;obtain⟨q,e,a1,f,d,c⟩:=k.on;exact⟨q,e,a1,f,d,a.blk c (by decide)⟩
theorem ai.moreM{h:Hs}(k:ai A w s)(b:pu A 77 w d)(m:cz A 77 d h)(f:fq A d 77 4 h.a h.c):ai A d (withMoves s h):=by
 refine⟨?_,λi hi=>(k.rows i hi).grew b (by decide),k.rapart,k.os.grew b (by decide) (by decide),k.hs.grew b (by decide),m,f,k.si.grew b (by decide),k.so.grew b (by decide),k.sf.grew b (by decide),k.aio,k.aif,k.aof,k.ari⟩;obtain⟨q,j,a1,l,g,e⟩:=k.on;exact⟨q,j,a1,l,g,b.blk e (by decide)⟩
def ofL(L:List Hd)(j:Nat):Hd:=L.getD j hd0
theorem Vp(L:List Hd)(x:Hd):ax (L++[x]).length (ofL (L++[x]))=ax L.length (ofL L)++df x:=by
 rw[List.length_append,List.length_singleton,ud];have a:ofL (L++[x]) L.length=x:=by simp[ofL,List.getD]
 rw[a]
 congr 1
 exact mw λj b=>by simp[ofL,List.getD,List.getElem?_append_left b]
def n9(h:Hs)(bad:Hd->Bool)(k:Nat):List Hd:=((eTz h).take k).filter (λx => !bad x)
theorem Mb{h:Hs}{k:Nat}(a:k<h.n):(eTz h).take (k+1)=(eTz h).take k++[h.z k]:=by
 have b:k<(eTz h).length:=by rw[lPz];exact a
 rw[List.take_add_one,List.getElem?_eq_getElem b];simp[eTz]
theorem Wv{h:Hs}{bad:Hd->Bool}{k:Nat}(a:k<h.n)(b:bad (h.z k)=false):n9 h bad (k+1)=n9 h bad k++[h.z k]:=by
 unfold n9;rw[Mb a,List.filter_append];simp[b]
theorem Uh{h:Hs}{bad:Hd->Bool}{k:Nat}(a:k<h.n)(b:bad (h.z k)=true):n9 h bad (k+1)=n9 h bad k:=by
 unfold n9;rw[Mb a,List.filter_append];simp[b]
theorem Wo(h:Hs)(bad:Hd->Bool):n9 h bad h.n=(eTz h).filter (λx => !bad x):=by
 unfold n9;rw[List.take_of_length_le (by rw[lPz];exact Nat.le_refl _)]
theorem Vu(h:Hs)(bad:Hd->Bool)(k:Nat):(n9 h bad k).length<=h.n:=by
 have a:=List.length_filter_le (λx => !bad x) ((eTz h).take k);have b:=List.length_take_le' k (eTz h);rw[lPz] at b;unfold n9;omega
theorem Uq(h:Hs)(bad:Hd->Bool):(dy h bad).n=(n9 h bad h.n).length/\(dy h bad).z=ofL (n9 h bad h.n):=by
 rw[Wo];exact⟨rfl,rfl⟩
def setOut(s:St)(g:Nat)(x:Int):St:=⟨s.on,s.os,s.hs,s.ms,s.si,ku s.so g x,s.sf⟩
def ce(s:St)(o l:Nat):Nat:=((s.os.z o).ls.z l).o.toNat
def ev(s:St)(o l b:Int):Int:=keptV s.hs.n s.hs.z o l b
def ir(p:Pl)(s:St)(order line bin n:Int):Int :=
 if ah p s=0 then(if ev s order line bin=0 then 4 else if inB n 0 (ev s order line bin) then(if 1048576<s.so.z (ce s order.toNat line.toNat)+n then 2 else 0) else 3) else ah p s
section
variable {p:Pl} {s:St} {order line bin n:Int}
theorem yg(h:¬ah p s=0):ir p s order line bin n=ah p s:=by unfold ir;rw[if_neg h]
theorem F6(h:ah p s=0)(a:ev s order line bin=0):ir p s order line bin n=4:=by unfold ir;rw[if_pos h,if_pos a]
theorem D8(h:ah p s=0)(b:¬ev s order line bin=0)(a:inB n 0 (ev s order line bin)=false):ir p s order line bin n=3:=by unfold ir;rw[if_pos h,if_neg b,a];rfl
theorem Ft(h:ah p s=0)(c:¬ev s order line bin=0)(b:inB n 0 (ev s order line bin)=true)(a:1048576<s.so.z (ce s order.toNat line.toNat)+n):ir p s order line bin n=2:=by unfold ir;rw[if_pos h,if_neg c,b,if_pos a];rfl
theorem P5(h:ah p s=0)(c:¬ev s order line bin=0)(b:inB n 0 (ev s order line bin)=true)(a:¬1048576<s.so.z (ce s order.toNat line.toNat)+n):ir p s order line bin n=0:=by unfold ir;rw[if_pos h,if_neg c,b,if_neg a];rfl
end
structure ot(p:Pl)(s:St)(o l b:Nat):Prop where
 r:au p s
 kp:¬ev s o l b=0
 on:o<s.os.n
 ln:l<(s.os.z o).ls.n
 bn:b<p.nb
theorem Mf{order line bin:Int}(r:au p s)(h:¬ev s order line bin=0):∃o l b:Nat,order=o/\line=l/\bin=b/\ot p s o l b:=by
 obtain⟨f,g,-⟩:=rm r.fm.hold h;obtain⟨d,e,i⟩:=fi g;obtain⟨a1,a,c⟩:=iu (r.fm.home _ f);rw[d] at a1 a;rw[e] at a;rw[i] at c;obtain⟨o,rfl⟩:=Qzz a1.1;obtain⟨l,rfl⟩:=Qzz a.1;obtain⟨b,rfl⟩:=Qzz c.1;exact⟨o,l,b,rfl,rfl,rfl,r,h,a1.2,a.2,by omega⟩
section
variable {p:Pl} {s:St} {o l b:Nat}
theorem ot.bd(h:ot p s o l b):1<=ev s o l b/\ev s o l b<=200/\ev s o l b<=keptS s.hs.z o l s.hs.n:=by
 obtain⟨a,c,d⟩:=rm h.r.fm.hold h.kp;have e:=(nl h.r.fm.hold a c).1;have f:=(cy (bw h.r.fm.hold _ a)).2.2.2;have nb6:=h.r.fm.sh.pl.nb6;have b6:=h.bn;have k:=M2 h.r.fm.hold (o:Int) (l:Int) (b:=b) (by omega);unfold ev;omega
theorem ot.kind(h:ot p s o l b):(s.os.z o).k=1:=by
 have w:=h.r.orders o h.on;unfold cg at w;rw[Xxq] at w;have a:cp (s.os.z o).k ((s.os.z o).ls.z l) (keptS s.hs.z o l s.hs.n)=false:=dj w.2 l h.ln;have bd:=h.bd;have kd:=h.r.fm.kind o h.on;unfold cp at a;by_cases c:(s.os.z o).k=0
 .rw[if_pos c] at a;simp only[Xxq,Bool.not_eq_false',beq_iff_eq] at a;omega
 rw[if_neg c] at a;by_cases d:(s.os.z o).k=2
 .rw[if_pos d] at a;simp only[Xxq,Bool.not_eq_false',beq_iff_eq] at a;omega
 omega
theorem ot.good(h:ot p s o l b):((s.os.z o).ls.z l).o=(ce s o l:Int)/\ce s o l<p.ns:=by
 have g:=(dz (h.r.fm.line o h.on l h.ln)).1;unfold ce;omega
theorem ot.sum(h:ot p s o l b):((s.os.z o).ls.z l).b+((s.os.z o).ls.z l).n+keptS s.hs.z o l s.hs.n=((s.os.z o).ls.z l).l/\((s.os.z o).ls.z l).l<=200/\0<=((s.os.z o).ls.z l).b:=Kh h.r h.on h.ln h.kind
theorem aal(f:cw p s)(c:o<s.os.n)(e:l<(s.os.z o).ls.n)(b:Int):keptV s.hs.n s.hs.z o l b<=ca s b ((s.os.z o).ls.z l).o s.hs.n:=by
 rw[sk b _ _ f.home f.hold];unfold Ak;have a:∀i j,0<=ko s b ((s.os.z o).ls.z l).o s.hs.n i j:=λi j=>by
  unfold ko;have:=(Cz (λj d=>(cy (bw f.hold j d)).2.2.2) (i:Int) (j:Int) b).1
  split<;>omega
 have h:ko s b ((s.os.z o).ls.z l).o s.hs.n o l=keptV s.hs.n s.hs.z o l b:=if_pos rfl;have g:=Gn (z:=λj=>ko s b ((s.os.z o).ls.z l).o s.hs.n o j) e (λj _=>a o j);have m:=Gn (z:=λi=>cv (λj=>ko s b ((s.os.z o).ls.z l).o s.hs.n i j) (s.os.z i).ls.n) c (λi _=>by
  have:∀k,0<=cv (λj=>ko s b ((s.os.z o).ls.z l).o s.hs.n i j) k:=λk=>by
   induction k with
   | zero=>exact Int.le_refl _
   | succ k ih=>simp only[cv];have:=a i k;omega
  exact this _)
 omega
theorem ot.there(h:ot p s o l b):ev s o l b<=(s.on.r b).z (ce s o l)/\(s.on.r b).z (ce s o l)<=200/\ev s o l b+ar s b (ce s o l)<=(s.on.r b).z (ce s o l):=by
 have g:=h.good;have a:=(kq (h.r.goods _ g.2)).2 b h.bn;have k:=aal h.r.fm h.on h.ln b;rw[g.1] at k;have c:=(jr (s:=s) (b:=b) (g:=(ce s o l:Int)) (n:=s.ms.n) h.r.fm.moveN).1;have d:=h.r.fm.sh.num b (by rw[h.r.fm.sh.n];exact h.bn) (ce s o l) g.2;unfold ar at a ⊢;unfold ev;omega
end
def mn(h:Hs)(o l b:Int):Hs:=⟨h.a,h.n-1,h.c,fs h.z (jg h.n h.z o l b)⟩
def ch(s:St)(o l b:Nat)(n:Int):St:=setLine (setLine (setOut (setOn (withHolds s (mn s.hs o l b)) b (ce s o l) ((s.on.r b).z (ce s o l)-n)) (ce s o l) (s.so.z (ce s o l)+n)) o l 2 (((s.os.z o).ls.z l).b+n)) o l 3 (((s.os.z o).ls.z l).n+(ev s o l b-n))
def j5(s:St)(o:Nat):Bool := !aw (s.os.z o).ls.n (λj=>js ((s.os.z o).ls.z j))
def pb(p:Pl)(s:St)(o l b:Nat)(n:Int):St:=if j5 (ch s o l b n) o then di (ch s o l b n) o 2 else Uw p b (ch s o l b n) o l (ev s o l b-n)
section
variable {p:Pl} {s:St} {o l b:Nat} {n:Int}
theorem sx(s:St)(o l b:Nat)(n:Int)(i j:Nat):((ch s o l b n).os.z i).ls.z j=if i=o/\j=l then ⟨((s.os.z o).ls.z l).o,((s.os.z o).ls.z l).l,((s.os.z o).ls.z l).b+n,((s.os.z o).ls.z l).n+(ev s o l b-n)⟩ else(s.os.z i).ls.z j:=by
 unfold ch;rw[oq,oq];by_cases h:i=o/\j=l
 .rw[if_pos h,if_pos h,if_pos h];obtain⟨rfl,rfl⟩:=h
  rfl
 rw[if_neg h,if_neg h,if_neg h]
 rfl
theorem mu(s:St)(o l b:Nat)(n:Int)(i:Nat):((ch s o l b n).os.z i).k=(s.os.z i).k/\((ch s o l b n).os.z i).ls.n=(s.os.z i).ls.n:=by
 unfold ch;rw[qy,qy,(dp i).1,(dp i).1];exact⟨rfl,rfl⟩
theorem Db(s:St)(o l b:Nat)(n:Int)(i:Nat):((ch s o l b n).on.r i).n=(s.on.r i).n/\∀j,((ch s o l b n).on.r i).z j=if i=b/\j=ce s o l then(s.on.r i).z j-n else(s.on.r i).z j:=by
 show(if i=b then ku (s.on.r i) (ce s o l) _ else s.on.r i).n=_/\∀j,(if i=b then ku (s.on.r i) (ce s o l) _ else s.on.r i).z j=_;by_cases h:i=b
 .subst h;rw[if_pos rfl];refine⟨rfl,λj => ?_⟩;show(if j=ce s o l then _ else(s.on.r i).z j)=_;by_cases a:j=ce s o l
  .rw[if_pos a,if_pos ⟨rfl,a⟩,a]
  rw[if_neg a,if_neg (λe=>a e.2)]
 rw[if_neg h];exact⟨rfl,λj=>by rw[if_neg (λe=>h e.1)]⟩
theorem ot.drop(h:ot p s o l b):aw (mn s.hs o l b).n (da (mn s.hs o l b).z)=false/\∀x y z:Int,keptV (mn s.hs o l b).n (mn s.hs o l b).z x y z=if x=o/\y=l/\z=b then 0 else keptV s.hs.n s.hs.z x y z:=by
 obtain⟨g,d,i⟩:=rm h.r.fm.hold h.kp;have e:=(nl h.r.fm.hold g d).2;have f:jg s.hs.n s.hs.z o l b<s.hs.n:=by rw[e];exact g
 refine⟨Mo h.r.fm.hold f,λx y z => ?_⟩;have k:=Xg h.r.fm.hold f x y z;show keptV (s.hs.n-1) (fs s.hs.z (jg s.hs.n s.hs.z o l b)) x y z=_;rw[k];have m:=fi d;by_cases c:x=o/\y=l/\z=b
 .have:bj (s.hs.z (jg s.hs.n s.hs.z o l b)) x y z=true:=by rw[c.1,c.2.1,c.2.2];exact d
  rw[this,if_pos c]
  rfl
 rw[if_neg c];cases a:bj (s.hs.z (jg s.hs.n s.hs.z o l b)) x y z
 .rfl
 exact absurd ⟨(fi a).1.symm.trans m.1,(fi a).2.1.symm.trans m.2.1,(fi a).2.2.symm.trans m.2.2⟩ c
theorem ot.keptS(h:ot p s o l b)(n:Int)(x y:Int):Go.Proofs.YtbcacebifpagpafGreat.keptS (ch s o l b n).hs.z x y (ch s o l b n).hs.n=Go.Proofs.YtbcacebifpagpafGreat.keptS s.hs.z x y s.hs.n-if x=o/\y=l then ev s o l b else 0:=by
 have d:=h.drop;have nb6:=h.r.fm.sh.pl.nb6;have f:=h.bn;show Go.Proofs.YtbcacebifpagpafGreat.keptS (mn s.hs o l b).z x y (mn s.hs o l b).n=_;rw[<-xh _ x y _ d.1,<-xh _ x y _ h.r.fm.hold];by_cases c:x=o/\y=l
 .rw[if_pos c];have e:=ru (z:=λz=>keptV s.hs.n s.hs.z x y z) (z':=λz=>keptV (mn s.hs o l b).n (mn s.hs o l b).z x y z) (m:=b) (n := -ev s o l b) (k:=6) (by omega) (λi hi=>by
   rw[d.2];by_cases a:i=b
   .rw[if_pos ⟨c.1,c.2,by omega⟩,if_pos a,a,c.1,c.2];unfold ev;omega
   rw[if_neg (λe=>a (by omega)),if_neg a,Int.add_zero])
  rw[e];omega
 rw[if_neg c,Int.sub_zero];exact sy λi _=>by rw[d.2,if_neg (λe=>c ⟨e.1,e.2.1⟩)]
structure k9(p:Pl)(s:St)(o l b:Nat)(n:Int):Prop where
 hd:ot p s o l b
 n0:0<=n
 nh:n<=ev s o l b
 om:s.so.z (ce s o l)+n<=1048576
theorem Lm{order line bin:Int}(h:ir p s order line bin n=0):ah p s=0/\∃o l b:Nat,order=o/\line=l/\bin=b/\k9 p s o l b n:=by
 by_cases a:ah p s=0
 .by_cases c:ev s order line bin=0
  .rw[F6 a c] at h;exact absurd h (by decide)
  cases d:inB n 0 (ev s order line bin)
  .rw[D8 a c d] at h;exact absurd h (by decide)
  by_cases e:1048576<s.so.z (ce s order.toNat line.toNat)+n
  .rw[Ft a c d e] at h;exact absurd h (by decide)
  obtain⟨o,l,b,rfl,rfl,rfl,hi⟩:=Mf (ew a) c;have:=aq d;exact⟨a,o,l,b,rfl,rfl,rfl,hi,this.1,this.2,by have f:¬1048576<s.so.z (ce s o l)+n:=e;omega⟩
 rw[yg a] at h;exact absurd h a
theorem k9.formed(h:k9 p s o l b n):cw p (ch s o l b n):=by
 have f:=h.hd.r.fm;have d:=h.hd.drop;have g:=h.hd.good;have E:=h.hd.there;have F:=h.hd.sum;have bd:=h.hd.bd;have n0:=h.n0;have nh:=h.nh;have om:=h.om;have m:tr p (ch s o l b n).on:=⟨f.sh.pl,f.sh.n,λi hi=>(Db s o l b n i).1.trans (f.sh.len i hi),λi hi j a=>by
  rw[(Db s o l b n i).2 j];have D:=f.sh.num i hi j a;by_cases c:i=b/\j=ce s o l
  .rw[if_pos c];obtain⟨rfl,rfl⟩:=c;omega
  rw[if_neg c];exact D⟩
 refine⟨m,vw (ts f.sh0).1 m,f.os4,f.ms8,λi hi=>by rw[(mu s o l b n i).2];exact f.lns i hi,λi hi=>by rw[(mu s o l b n i).1];exact f.kind i hi,λi hi j a => ?_,d.1,λi hi => ?_,f.move,f.sin,f.son,f.sfn,f.sib,λj a => ?_,f.sfb⟩
 .have t:j<(s.os.z i).ls.n:=by rw[<-(mu s o l b n i).2];exact a
  rw[sx];by_cases c:i=o/\j=l
  .rw[if_pos c];obtain⟨b1,b2,b3,b4⟩:=dz (f.line o h.hd.on l h.hd.ln);unfold jx;rw[bq (by dsimp only;omega),bq (by dsimp only;omega),bq (by dsimp only;omega),bq (by dsimp only;omega)]
   rfl
  rw[if_neg c];exact f.line i hi j t
 rotate_left
 .have u:=f.sob j a;show 0<=(if j=ce s o l then s.so.z (ce s o l)+n else s.so.z j)/\(if j=ce s o l then s.so.z (ce s o l)+n else s.so.z j)<=1048576;by_cases c:j=ce s o l
  .rw[if_pos c];rw[c] at u;omega
  rw[if_neg c];exact u
 have hx:aw (ch s o l b n).hs.n (da (ch s o l b n).hs.z)=false:=d.1;have e:=(nl hx hi (uv _)).1;have fn:=(cy (bw hx i hi)).2.2.2;have w:keptV (ch s o l b n).hs.n (ch s o l b n).hs.z ((ch s o l b n).hs.z i).o ((ch s o l b n).hs.z i).l ((ch s o l b n).hs.z i).b=_:=d.2 _ _ _;rw[w] at e
 split at e
 .omega
 obtain⟨B,A,-⟩:=rm f.hold (o:=((ch s o l b n).hs.z i).o) (l:=((ch s o l b n).hs.z i).l) (b:=((ch s o l b n).hs.z i).b) (by omega);obtain⟨x,y,v⟩:=fi A;obtain⟨a1,k,q⟩:=iu (f.home _ B);rw[x] at a1 k;rw[y] at k;rw[v] at q;refine pe a1 ⟨k.1,?_⟩ q;rw[(mu s o l b n _).2];exact k.2
theorem k9.held(h:k9 p s o l b n)(c g:Nat):ca (ch s o l b n) c g (ch s o l b n).hs.n=ca s c g s.hs.n-if c=b/\g=ce s o l then ev s o l b else 0:=by
 have f:=h.hd.r.fm;have fx:=h.formed;have d:=h.hd.drop;have x:=h.hd.good;rw[sk (c:Int) (g:Int) _ fx.home fx.hold,sk (c:Int) (g:Int) _ f.home f.hold];have key:∀i j,ko (ch s o l b n) c g (ch s o l b n).hs.n i j=ko s c g s.hs.n i j+if i=o/\j=l then -(if c=b/\g=ce s o l then ev s o l b else 0) else 0:=λi j=>by
  unfold ko;have e:keptV (ch s o l b n).hs.n (ch s o l b n).hs.z (i:Int) (j:Int) (c:Int)=_:=d.2 i j c;rw[e];have v:(((ch s o l b n).os.z i).ls.z j).o=((s.os.z i).ls.z j).o:=by
   rw[sx];by_cases q:i=o/\j=l
   .rw[if_pos q,q.1,q.2]
   rw[if_neg q]
  rw[v];by_cases q:i=o/\j=l
  .rw[if_pos q];obtain⟨rfl,rfl⟩:=q;rw[x.1];by_cases a:g=ce s i j
   .subst a;rw[if_pos rfl,if_pos rfl];by_cases hc:c=b
    .subst hc;rw[if_pos ⟨rfl,rfl,rfl⟩,if_pos ⟨rfl,rfl⟩];unfold ev;omega
    rw[if_neg (λe=>hc (by omega)),if_neg (λe=>hc e.1)];omega
   rw[if_neg (λe=>a (by omega)),if_neg (λe=>a (by omega)),if_neg (λe=>a e.2)]
   rfl
  have y:(if (i:Int)=o/\(j:Int)=l/\(c:Int)=b then 0 else keptV s.hs.n s.hs.z (i:Int) (j:Int) (c:Int))=keptV s.hs.n s.hs.z (i:Int) (j:Int) (c:Int):=if_neg (λe=>q ⟨by omega,by omega⟩);rw[if_neg q,y,Int.add_zero]
 unfold Ak;have w:(ch s o l b n).os.n=s.os.n:=rfl;rw[w];have:=ru (z:=λi=>cv (λj=>ko s c g s.hs.n i j) (s.os.z i).ls.n) (z':=λi=>cv (λj=>ko (ch s o l b n) c g (ch s o l b n).hs.n i j) ((ch s o l b n).os.z i).ls.n) (m:=o) (n := -(if c=b/\g=ce s o l then ev s o l b else 0)) (k:=s.os.n) h.hd.on (λi hi=>by
  rw[(mu s o l b n i).2];by_cases q:i=o
  .rw[if_pos q];subst q;exact ru h.hd.ln λj u=>by
    rw[key];by_cases t:j=l
    .rw[if_pos ⟨rfl,t⟩,if_pos t]
    rw[if_neg (λe=>t e.2),if_neg t]
  rw[if_neg q,Int.add_zero];exact sy λj u=>by rw[key,if_neg (λe=>q e.1),Int.add_zero])
 rw[this];omega
theorem k9.avail(h:k9 p s o l b n)(c g:Nat):ar (ch s o l b n) c g=ar s c g+if c=b/\g=ce s o l then ev s o l b-n else 0:=by
 unfold ar;rw[h.held,(Db s o l b n c).2 g];have e:az (ch s o l b n) c g (ch s o l b n).ms.n=az s c g s.ms.n:=ow (x:=ch s o l b n) (s:=s) (λj _=>rfl);rw[e];by_cases q:c=b/\g=ce s o l
 .rw[if_pos q,if_pos q,if_pos q];omega
 rw[if_neg q,if_neg q,if_neg q];omega
theorem k9.goods(h:k9 p s o l b n)(g:Nat)(a:g<p.ns):cv (λi=>((ch s o l b n).on.r i).z g) (ch s o l b n).on.n=(ch s o l b n).si.z g-(ch s o l b n).so.z g+(ch s o l b n).sf.z g/\∀c,c<p.nb->0<=ar (ch s o l b n) c g:=by
 obtain⟨a1,d⟩:=kq (h.hd.r.goods g a);have n0:=h.n0;have nh:=h.nh;refine⟨?_,λc hc => ?_⟩
 .show cv _ s.on.n=s.si.z g-(if g=ce s o l then s.so.z (ce s o l)+n else s.so.z g)+s.sf.z g;by_cases q:g=ce s o l
  .rw[if_pos q];have e:=ru (z:=λi=>(s.on.r i).z g) (z':=λi=>((ch s o l b n).on.r i).z g) (m:=b) (n := -n) (k:=s.on.n) (by rw[h.hd.r.fm.sh.n];exact h.hd.bn) (λi hi=>by
    rw[(Db s o l b n i).2 g];by_cases c:i=b
    .rw[if_pos ⟨c,q⟩,if_pos c];omega
    rw[if_neg (λe=>c e.1),if_neg c,Int.add_zero])
   rw[e,a1,q];omega
  rw[if_neg q,<-a1];exact sy λi hi=>by rw[(Db s o l b n i).2 g,if_neg (λe=>q e.2)]
 rw[h.avail];have:=d c hc
 split<;>omega
theorem k9.lineOK(h:k9 p s o l b n)(hi:i<s.os.n)(a:j<(s.os.z i).ls.n):cp (s.os.z i).k (((ch s o l b n).os.z i).ls.z j) (Go.Proofs.YtbcacebifpagpafGreat.keptS (ch s o l b n).hs.z i j (ch s o l b n).hs.n)=false:=by
 have w:=h.hd.r.orders i hi;unfold cg at w;rw[Xxq] at w;have d:cp (s.os.z i).k ((s.os.z i).ls.z j) (Go.Proofs.YtbcacebifpagpafGreat.keptS s.hs.z i j s.hs.n)=false:=dj w.2 j a;rw[h.hd.keptS,sx];by_cases c:i=o/\j=l
 .rw[if_pos c,if_pos ⟨by omega,by omega⟩];obtain⟨rfl,rfl⟩:=c;have f:=h.hd.sum;unfold cp;rw[h.hd.kind,if_neg (by decide),if_neg (by decide),Bool.not_eq_false',beq_iff_eq];dsimp only;omega
 rw[if_neg c,if_neg (λe=>c ⟨by omega,by omega⟩),Int.sub_zero];exact d
theorem k9.right(h:k9 p s o l b n)(a:j5 (ch s o l b n) o=false):au p (ch s o l b n):=by
 refine⟨h.formed,λg a=>rt (h.goods g a).1 (h.goods g a).2,λi hi => ?_⟩;have w:=h.hd.r.orders i hi;unfold cg at w ⊢;rw[Xxq] at w ⊢;rw[(mu s o l b n i).1];refine⟨?_,cu λj d=>h.lineOK hi (by rw[<-(mu s o l b n i).2];exact d)⟩;by_cases c:i=o
 .subst c;unfold j5 at a;rw[a,Bool.and_false]
 rw[<-w.1]
 congr 2
 rw[(mu s o l b n i).2];refine nz λj d => ?_;rw[sx,if_neg (λe=>c e.1)]
theorem k9.closed(h:k9 p s o l b n)(m:j5 (ch s o l b n) o=true):au p (di (ch s o l b n) o 2):=by
 have f:=h.formed;have q:∀i,((di (ch s o l b n) o 2).os.z i).ls=((ch s o l b n).os.z i).ls:=λi=>A7 _ _ _ _;have all:∀j,j<((ch s o l b n).os.z o).ls.n->(((ch s o l b n).os.z o).ls.z j).b=(((ch s o l b n).os.z o).ls.z j).l:=λj d=>by
  unfold j5 at m;rw[Bool.not_eq_true'] at m;have:=dj m j d;unfold js at this
  simpa using this
 refine⟨⟨f.sh,f.sh0,f.os4,f.ms8,λi hi=>by rw[q];exact f.lns i hi,λi hi => ?_,λi hi j d=>by rw[q] at d ⊢;exact f.line i hi j d,f.hold,λi hi => ?_,f.move,f.sin,f.son,f.sfn,f.sib,f.sob,f.sfb⟩,λg m => ?_,λi hi => ?_⟩
 .show 0<=(if i=o then(⟨2,((ch s o l b n).os.z i).ls⟩:Od) else(ch s o l b n).os.z i).k/\(if i=o then(⟨2,((ch s o l b n).os.z i).ls⟩:Od) else(ch s o l b n).os.z i).k<=2
  split
  .exact⟨(by decide:(0:Int)<=2),(by decide:(2:Int)<=2)⟩
  exact f.kind i hi
 .have e:=iu (f.home i hi);refine pe e.1 ⟨e.2.1.1,?_⟩ e.2.2;rw[q];exact e.2.1.2
 .refine rt (h.goods g m).1 λc hc => ?_;have a:=(h.goods g m).2 c hc;have e:ar (di (ch s o l b n) o 2) c g=ar (ch s o l b n) c g:=by
   unfold ar;rw[ri (x:=di (ch s o l b n) o 2) (s:=ch s o l b n) (λj _=>rfl) (λj _=>by unfold jo;rw[q])];rw[ow (x:=di (ch s o l b n) o 2) (s:=ch s o l b n) (λj _=>rfl)]
   rfl
  rw[e];exact a
 have t:i<s.os.n:=hi;unfold cg;rw[q,Xxq];by_cases c:i=o;rotate_left
 .have y:(di (ch s o l b n) o 2).os.z i=(ch s o l b n).os.z i:=if_neg c;rw[y,(mu s o l b n i).1];have w:=h.hd.r.orders i t;unfold cg at w;rw[Xxq] at w;refine⟨?_,cu λj d=>h.lineOK t (by rw[<-(mu s o l b n i).2];exact d)⟩;rw[<-w.1]
  congr 2
  rw[(mu s o l b n i).2];refine nz λj d => ?_;rw[sx,if_neg (λe=>c e.1)]
 subst c;have A:((di (ch s i l b n) i 2).os.z i).k=2:=by rw[uc]
 rw[A];refine⟨rfl,cu λj d => ?_⟩;have v:j<(s.os.z i).ls.n:=by rw[<-(mu s i l b n i).2];exact d
 have u:=h.lineOK t v;have E:=all j d;have B:=(ro (z:=(ch s i l b n).hs.z) i j (ch s i l b n).hs.n λj d=>(cy (bw f.hold j d)).2.2.2).1;have D:=dz (f.line i hi j d);rw[h.hd.kind] at u;unfold cp at u ⊢;rw[if_neg (by decide),if_neg (by decide),Bool.not_eq_false',beq_iff_eq] at u;rw[if_neg (by decide),if_pos rfl];simp only[Xxq,Bool.not_eq_false',beq_iff_eq];have e:(di (ch s i l b n) i 2).hs=(ch s i l b n).hs:=rfl;rw[e];omega
theorem k9.takeIn(h:k9 p s o l b n):iy p (ch s o l b n) o l (ev s o l b-n):=by
 have e:=sx s o l b n o l;rw[if_pos ⟨rfl,rfl⟩] at e;have d:=dz (h.hd.r.fm.line o h.hd.on l h.hd.ln);have g:=h.hd.good;have n0:=h.n0;have nh:=h.nh;have a:=h.hd.sum;refine⟨h.formed,λc hc => ?_,h.hd.on,by rw[(mu s o l b n o).2];exact h.hd.ln,by omega,?_,?_⟩
 .rw[e];exact(h.goods _ (by dsimp only;omega)).2 c hc
 .rw[e];dsimp only;omega
 rw[e,h.hd.keptS,if_pos ⟨rfl,rfl⟩];dsimp only;omega
theorem k9.stepIn(h:k9 p s o l b n)(a:j5 (ch s o l b n) o=false):jz p b (ch s o l b n) o l (ev s o l b-n):=by
 have t:=h.takeIn;have:=h.hd.bn;exact⟨h.right a,t.on,t.ln,t.n0,Or.inr ⟨by rw[(mu s o l b n o).1];exact h.hd.kind,t.bk⟩,Or.inr ⟨by omega,by omega⟩⟩
theorem k9.all0(h:k9 p s o l b n)(c:j5 (ch s o l b n) o=true):ev s o l b-n=0:=by
 unfold j5 at c;rw[Bool.not_eq_true'] at c;have a:=dj c l (by rw[(mu s o l b n o).2];exact h.hd.ln);rw[sx,if_pos ⟨rfl,rfl⟩] at a;unfold js at a;have e:((s.os.z o).ls.z l).b+n=((s.os.z o).ls.z l).l:=by simpa using a
 have f:=dz (h.hd.r.fm.line o h.hd.on l h.hd.ln);have d:=h.hd.sum;have bd:=h.hd.bd;have nh:=h.nh;omega
theorem Tv(h:k9 p s o l b n):au p (pb p s o l b n):=by
 unfold pb;cases a:j5 (ch s o l b n) o
 .rw[if_neg (by decide)];exact lg.right (h.stepIn a) (wy h.takeIn)
 rw[if_pos rfl];exact h.closed a
end
theorem ai.orderCells(h:ai A w s)(e:o<s.os.n):∃g,s.os.a=some ⟨g,0,none⟩/\A<=g/\g<w.heap.size/\w.cell? ⟨g,o*2,none⟩=some (.int .i64 (s.os.z o).k)/\w.cell? ⟨g,o*2+1,none⟩=some (.slice (s.os.z o).ls.a (s.os.z o).ls.n (s.os.z o).ls.c)/\∀j,w.frozen? ⟨g,j,none⟩=false:=by
 obtain⟨g,i,f,b⟩:=h.os.list (by omega);have d:=b.cell (j:=o*2) (by omega);have e0:=qc (z:=s.os.z) e (show 0<2 by decide);rw[Nat.add_zero] at e0;rw[e0] at d;have c1:=b.cell (j:=o*2+1) (by omega);rw[qc (z:=s.os.z) e (show 1<2 by decide)] at c1;exact⟨g,i,f,b.lt,d,c1,λj=>b.frozen j⟩
theorem Tz{k:Nat}(a:((s.os.z i).ls.z k).b=0):setLine (fk s i k) i k 3 ((s.os.z i).ls.z k).l=fk s i (k+1):=by
 rw[<-Gu,a,Int.sub_zero]
structure dg(A B7:Nat)(W0:World)(cur:St)(wk:World):Prop where
 own:ai A wk cur
 box:Blk wk B7 31 7 (λj=>cur.cells.getD j default)
 bel:Below W0.heap.size W0 wk
 le:A<=wk.heap.size
theorem dg.below{c:Nat}{b e:World}{cur:St}(h:dg A c d cur b)(a:Below b.heap.size b e):dg A c d cur e :=
 ⟨h.own.below a,h.box.below a,h.bel.trans (a.mono h.bel.size),Qzx h.le a.size⟩
theorem ai.onCell(h:ai A w s)(f:b<s.on.n)(k:g<(s.on.r b).n):∃d G,s.on.a=some ⟨d,0,none⟩/\d<w.heap.size/\w.cell? ⟨d,b,none⟩=some (.slice (some ⟨G,0,none⟩) (s.on.r b).n (s.on.r b).c)/\(s.on.r b).a=some ⟨G,0,none⟩/\A<=G/\G<w.heap.size/\(s.on.r b).n<=(s.on.r b).c/\(s.on.r b).c<=maxLen/\w.cell? ⟨G,g,none⟩=some (.int .i64 ((s.on.r b).z g))/\(∀j,w.frozen? ⟨G,j,none⟩=false)/\s.on.n<=s.on.c/\s.on.c<=maxLen:=by
 obtain⟨d,a1,m,l,i,e⟩:=h.on;obtain⟨G,b1,b2,b3,b4,b5⟩:=h.rows b f;have c:=e.cell (j:=b) f;rw[b1] at c;exact⟨d,G,a1,e.lt,c,b1,b2,b5.lt,b3,b4,b5.cell k,λj=>b5.frozen j,l,i⟩
theorem j6.cellAt{r:Rw}(h:j6 A w r)(b:g<r.n):∃G,r.a=some ⟨G,0,none⟩/\A<=G/\G<w.heap.size/\r.n<=r.c/\r.c<=maxLen/\w.cell? ⟨G,g,none⟩=some (.int .i64 (r.z g))/\∀j,w.frozen? ⟨G,j,none⟩=false:=by
 obtain⟨G,b1,b2,b3,b4,b5⟩:=h;exact⟨G,b1,b2,b5.lt,b3,b4,b5.cell b,λj=>b5.frozen j⟩
theorem ai.setOut{G:Nat}(h:ai A w s)(b:s.so.a=some ⟨G,0,none⟩)(g:Nat)(x:Int):ai A (w.setCell ⟨G,g,none⟩ (.int .i64 x)) (Go.Proofs.YtbcacebifpagpafGreat.setOut s g x):=by
 obtain⟨q,b1,b2,b3,b4,b5⟩:=h.so;rw[b] at b1;simp only[Qkx,Qkz,and_true] at b1;subst b1;refine⟨?_,λi hi=>(h.rows i hi).apart (λe=>(h.ari i hi).2.1 (e.trans b.symm)) _ _,h.rapart,h.os.other b5 (by decide) (by decide) _ _,h.hs.other b5 (by decide) _ _,h.ms.other b5 (by decide) _ _,h.msr.set _ _ _,h.si.apart (λe=>h.aio (e.trans b.symm)) _ _,h.so.set b _ _,h.sf.apart (λe=>h.aof (b.trans e.symm)) _ _,h.aio,h.aif,h.aof,h.ari⟩;obtain⟨k,j,a1,f,d,c⟩:=h.on;exact⟨k,j,a1,f,d,c.other (a:=⟨G,g,none⟩) (Blk.ne2 c b5 (by decide)) _⟩
theorem Sa{t:St}(h:ae s t)(g:Nat)(x:Int):ae (setOut s g x) (setOut t g x):=
 ⟨h.on,h.os,h.hs,h.ms,h.si,⟨h.so.1,λj a=>by
  show(if j=g then x else s.so.z j)=if j=g then x else t.so.z j;rw[h.so.2 j a]⟩,h.sf⟩
theorem Hc{t:St}(h:ae s t)(o l c:Nat)(v:Int):ae (setLine s o l c v) (setLine t o l c v):=by
 refine⟨h.on,⟨h.os.1,λi hi => ?_⟩,h.hs,h.ms,h.si,h.so,h.sf⟩;have a:i<s.os.n:=hi;have e:=h.os.2 i a;rw[qy,qy,(dp i).1,(dp i).1];refine⟨e.1,e.2.1,λj b => ?_⟩;rw[oq,oq,e.2.2 j b]
theorem Nt{t:St}(h:ae s t){k a:Hs}(c:k.n=a.n)(b:∀j,j<k.n->k.z j=a.z j):ae (withHolds s k) (withHolds t a):=⟨h.on,h.os,⟨c,b⟩,h.ms,h.si,h.so,h.sf⟩
theorem Gf{t:St}(h:ae s t)(o:Nat)(v:Int):ae (di s o v) (di t o v):=by
 refine⟨h.on,⟨h.os.1,λi hi => ?_⟩,h.hs,h.ms,h.si,h.so,h.sf⟩;have e:=h.os.2 i hi;show(if i=o then(⟨v,(s.os.z i).ls⟩:Od) else s.os.z i).k=(if i=o then(⟨v,(t.os.z i).ls⟩:Od) else t.os.z i).k/\((Ai s.os o v).z i).ls.n=((Ai t.os o v).z i).ls.n/\∀j,j<((Ai s.os o v).z i).ls.n->((Ai s.os o v).z i).ls.z j=((Ai t.os o v).z i).ls.z j;rw[A7,A7];refine⟨?_,e.2⟩;by_cases c:i=o
 .rw[if_pos c,if_pos c]
 rw[if_neg c,if_neg c];exact e.1
def uj(s:St)(h:Hs)(o l b g:Nat)(n k:Int):St:=setLine (setLine (setOut (setOn (withHolds s h) b g ((s.on.r b).z g-n)) g (s.so.z g+n)) o l 2 (((s.os.z o).ls.z l).b+n)) o l 3 (((s.os.z o).ls.z l).n+(k-n))
theorem Gl(e:ae x s){n:Int}(a:ot p s o l b){h:Hs}(d:h.n=(mn s.hs o l b).n)(f:∀j,j<h.n->h.z j=(mn s.hs o l b).z j):ae (uj x h o l b (ce s o l) n (ev s o l b)) (ch s o l b n):=by
 have g:=a.good;have c:(x.on.r b).z (ce s o l)=(s.on.r b).z (ce s o l):=e.num a.r.fm a.bn g.2;have k:x.so.z (ce s o l)=s.so.z (ce s o l):=e.so.2 _ (by rw[e.so.1,a.r.fm.son];exact g.2);have i:=e.line a.on a.ln;unfold uj ch;rw[c,k,i];exact Hc (Hc (Sa (xr (Nt e d f) _ _ _) _ _) _ _ _ _) _ _ _ _
theorem jz.same{but:Int}{a:St}{n:Int}(h:jz p but y i j n)(e:ae a y):jz p but a i j n:=by
 have b:i<a.os.n:=by rw[e.os.1];exact h.on
 have k:=e.os.2 i b;refine⟨e.right h.r,b,by rw[k.2.1];exact h.ln,h.n0,?_,h.bt⟩;rw[k.1,e.line h.on h.ln];exact h.kd
theorem Ek(e:ae x s)(a:o<s.os.n):j5 x o=j5 s o:=by
 have k:=e.os.2 o (by rw[e.os.1];exact a);unfold j5;rw[k.2.1]
 congr 1
 exact nz λj b=>by rw[k.2.2 j (by rw[k.2.1];exact b)]
abbrev yx(p:Pl)(f:Bool):={ k:Nat // k<p.nb/\(p.zb k).front=f }
def frX(p:Pl)(f:Bool):Nat->List (yx p f)
 | 0=>[]
 | k+1=>frX p f k++(if h:k<p.nb/\(p.zb k).front=f then [⟨k,h⟩] else [])
theorem Eo{f:Bool}{k:Nat}(h:k<p.nb/\(p.zb k).front=f):frX p f (k+1)=frX p f k++[⟨k,h⟩]:=by
 simp only[frX];rw[dif_pos h]
theorem J7{f:Bool}{k:Nat}(h:¬(p.zb k).front=f):frX p f (k+1)=frX p f k:=by
 simp only[frX];rw[dif_neg (λe=>h e.2),List.append_nil]
theorem aau(p:Pl)(f:Bool)(k:Nat):(frX p f k).length<=k:=by
 induction k with
 | zero=>exact Nat.le_refl _
 | succ k ih =>
  by_cases h:k<p.nb/\(p.zb k).front=f
  .rw[Eo h,List.length_append];simp;omega
  simp only[frX];rw[dif_neg h,List.append_nil];omega
theorem T7(p:Pl)(f:Bool){k:Nat}(h:k<=m):frX p f k <+: frX p f m:=by
 induction m with
 | zero=>rw[show k=0 by omega];exact List.prefix_refl _
 | succ m ih =>
  by_cases a:k=m+1
  .rw[a];exact List.prefix_refl _
  exact(ih (by omega)).trans (List.prefix_append _ _)
def ix(s:St)(m:Hd):St:=withMoves s ⟨s.ms.a,s.ms.n+1,s.ms.c,λi=>if i=s.ms.n then m else s.ms.z i⟩
def o5(p:Pl)(s:St)(b g f:Nat):Int:=min (min ((p.zb b).high-dx s b g) (ar s f g)) ((gj p s b).tdiv (p.zs g))
def nj(p:Pl)(b g f:Nat)(s:St):St:=if s.ms.n<8/\1<=o5 p s b g f then ix s ⟨g,f,b,o5 p s b g f⟩ else s
def jp(p:Pl)(b g:Nat)(L:List (yx p false))(s:St):St:=L.foldl (λy f=>nj p b g f.1 y) s
def i8(p:Pl)(b:Nat):Nat->St->St
 | 0,s=>s
 | g+1,s=>if (p.zb b).low<=dx (i8 p b g s) b g then i8 p b g s else jp p b g (frX p false p.nb) (i8 p b g s)
def mj(p:Pl)(L:List (yx p true))(s:St):St:=L.foldl (λy b=>i8 p b.1 p.ns y) s
def yp(p:Pl)(s:St):St:=mj p (frX p true p.nb) s
theorem Ll(p:Pl)(b g:Nat)(L:List (yx p false))(f:yx p false)(s:St):jp p b g (L++[f]) s=nj p b g f.1 (jp p b g L s):=by
 unfold jp;rw[List.foldl_append];rfl
theorem Lu(p:Pl)(L:List (yx p true))(b:yx p true)(s:St):mj p (L++[b]) s=i8 p b.1 p.ns (mj p L s):=by
 unfold mj;rw[List.foldl_append];rfl
theorem Oi(h:(p.zb b).low<=dx (i8 p b g s) b g):i8 p b (g+1) s=i8 p b g s:=by
 simp only[i8];rw[if_pos h]
theorem Qr(h:¬(p.zb b).low<=dx (i8 p b g s) b g):i8 p b (g+1) s=jp p b g (frX p false p.nb) (i8 p b g s):=by
 simp only[i8];rw[if_neg h]
theorem Cu{f:Nat}(h:8<=s.ms.n):nj p b g f s=s:=if_neg (by omega)
theorem Cj{p:Pl}{b g:Nat}{s:St}(h:8<=s.ms.n):∀L,jp p b g L s=s
 | []=>rfl
 | f :: L=>by
  have:jp p b g (f :: L) s=jp p b g L (nj p b g f.1 s):=rfl;rw[this,Cu h];exact Cj h L
theorem Lz{p:Pl}{b:Nat}{s:St}(h:8<=s.ms.n):∀g,i8 p b g s=s
 | 0=>rfl
 | g+1=>by
  have a:=Lz (p:=p) (b:=b) h g;simp only[i8];rw[a,Cj h]
  split<;>rfl
theorem Lj{p:Pl}{s:St}(h:8<=s.ms.n):∀L,mj p L s=s
 | []=>rfl
 | b :: L=>by
  have:mj p (b :: L) s=mj p L (i8 p b.1 p.ns s):=rfl;rw[this,Lz h];exact Lj h L
theorem Xb{L M:List (yx p false)}(a:L <+: M)(e:jp p b g L s=y)(h:8<=y.ms.n):jp p b g M s=y:=by
 obtain⟨R,rfl⟩:=a;have:jp p b g (L++R) s=jp p b g R (jp p b g L s):=List.foldl_append;rw[this,e,Cj h]
theorem Oy{p:Pl}{b:Nat}{s y:St}{k:Nat}(e:i8 p b k s=y)(h:8<=y.ms.n):∀{m:Nat},k<=m->i8 p b m s=y
 | 0,hm=>by rw[show k=0 by omega] at e;exact e
 | m+1,hm=>by
  by_cases a:k=m+1
  .rw[<-a];exact e
  have c:=Oy e h (m:=m) (by omega);simp only[i8];rw[c,Cj h]
  split<;>rfl
theorem Xv{L M:List (yx p true)}(a:L <+: M)(e:mj p L s=y)(h:8<=y.ms.n):mj p M s=y:=by
 obtain⟨R,rfl⟩:=a;have:mj p (L++R) s=mj p R (mj p L s):=List.foldl_append;rw[this,e,Lj h]
section
variable {p:Pl} {s y:St} {m:Hd} {b g f:Nat}
theorem xu(s:St)(m:Hd)(h:j<s.ms.n):(ix s m).ms.z j=s.ms.z j:=if_neg (by omega)
theorem wo(s:St)(m:Hd):(ix s m).ms.z s.ms.n=m:=if_pos rfl
theorem Qp(s:St)(m:Hd)(b g:Int):az (ix s m) b g (ix s m).ms.n=az s b g s.ms.n+if m.l=b/\m.o=g then m.n else 0:=by
 show az (ix s m) b g (s.ms.n+1)=_;simp only[az];rw[wo,ow (x:=ix s m) (s:=s) (k:=s.ms.n) λj a=>xu s m a]
theorem Rf(s:St)(m:Hd)(b g:Int)(k:Nat):ca (ix s m) b g k=ca s b g k:=ri (λj a=>rfl) (λj a=>rfl)
theorem Ph(s:St)(m:Hd)(b g:Nat):ar (ix s m) b g=ar s b g-if m.l=(b:Int)/\m.o=(g:Int) then m.n else 0:=by
 unfold ar;rw[Qp];rw[show ca (ix s m) b g (ix s m).hs.n=ca s b g s.hs.n from Rf s m b g s.hs.n];rw[show((ix s m).on.r b).z g=(s.on.r b).z g from rfl];omega
theorem D4{x s:St}{b g:Int}:∀{k:Nat},(∀j,j<k->x.ms.z j=s.ms.z j)->bp x b g k=bp s b g k
 | 0,_=>rfl
 | k+1,h=>by
  simp only[bp];rw[D4 (k:=k) λj a=>h j (by omega),h k (by omega)]
theorem G4(s:St)(m:Hd)(b g:Nat):dx (ix s m) b g=dx s b g+if m.b=(b:Int)/\m.o=(g:Int) then m.n else 0:=by
 unfold dx;have:bp (ix s m) b g (ix s m).ms.n=bp s b g s.ms.n+if m.b=(b:Int)/\m.o=(g:Int) then m.n else 0:=by
  show bp (ix s m) b g (s.ms.n+1)=_;simp only[bp];rw[wo,D4 (x:=ix s m) (s:=s) (k:=s.ms.n) λj a=>xu s m a]
 rw[this,show((ix s m).on.r b).z g=(s.on.r b).z g from rfl,Int.add_assoc]
theorem Qz(p:Pl)(s:St)(m:Hd)(b:Nat):gj p (ix s m) b=gj p s b-if m.b=(b:Int) then m.n*p.zs m.o.toNat else 0:=by
 unfold gj;have:jj p (ix s m) b (ix s m).ms.n=jj p s b s.ms.n+if m.b=(b:Int) then m.n*p.zs m.o.toNat else 0:=by
  show jj p (ix s m) b (s.ms.n+1)=_;simp only[jj];rw[wo,Ig (x:=ix s m) (s:=s) (k:=s.ms.n) λj a=>xu s m a]
 rw[this,show(ix s m).on=s.on from rfl];omega
theorem U4(f:0<=m.o/\m.o<p.ns)(e:0<=m.l/\m.l<p.nb)(d:0<=m.b/\m.b<p.nb)(a:¬m.l=m.b)(c:1<=m.n/\m.n<=200):l6 p m=false:=by
 unfold l6;rw[bq (by omega),bq (by omega),bq (by omega),bq (by omega)]
 simpa using a
theorem Pf(r:au p s)(t:s.ms.n<8)(u:g<p.ns)(w:f<p.nb)(v:b<p.nb)(m:¬f=b){n:Int}(c:1<=n)(e:n<=200)(q:n<=ar s f g):au p (ix s ⟨g,f,b,n⟩):=by
 have F:=r.fm;refine⟨⟨F.sh,F.sh0,F.os4,by show s.ms.n+1<=8;omega,F.lns,F.kind,F.line,F.hold,F.home,λi hi => ?_,F.sin,F.son,F.sfn,F.sib,F.sob,F.sfb⟩,λj a => ?_,r.orders⟩
 .have o:i<s.ms.n+1:=hi;by_cases h:i=s.ms.n
  .rw[h,wo];refine U4 ⟨?_,?_⟩ ⟨?_,?_⟩ ⟨?_,?_⟩ ?_ ⟨c,e⟩<;>simp<;>omega
  rw[xu s _ (by omega)];exact F.move i (by omega)
 obtain⟨a1,k⟩:=kq (r.goods j a);refine rt a1 λi hi => ?_;rw[Ph];have:=k i hi;by_cases h:(f:Int)=(i:Int)/\(g:Int)=(j:Int)
 .rw[if_pos h];have d:f=i:=by omega
  have l:g=j:=by omega
  subst d l;show 0<=ar s f g-n;omega
 rw[if_neg h];omega
theorem C2(h:ae x y)(m:Hd){k:Hs}(a:k.n=x.ms.n+1)(d:∀j,j<x.ms.n->k.z j=x.ms.z j)(b:k.z x.ms.n=m):ae (withMoves x k) (ix y m):=by
 refine⟨h.on,h.os,h.hs,⟨?_,λj c => ?_⟩,h.si,h.so,h.sf⟩
 .show k.n=y.ms.n+1;rw[a,h.ms.1]
 have f:j<x.ms.n+1:=by rw[<-a];exact c
 show k.z j=if j=y.ms.n then m else y.ms.z j;rw[<-h.ms.1];by_cases e:j=x.ms.n
 .rw[if_pos e,e];exact b
 rw[if_neg e,d j (by omega)];exact h.ms.2 j (by omega)
structure gt(p:Pl)(s y:St):Prop where
 r:au p y
 eq:y=withMoves s y.ms
 ge:s.ms.n<=y.ms.n
 pre:∀k,k<s.ms.n->y.ms.z k=s.ms.z k
 new:∀k,s.ms.n<=k->k<y.ms.n->∃b g f:Nat,(y.ms.z k).o=g/\(y.ms.z k).l=f/\(y.ms.z k).b=b/\f<p.nb/\b<p.nb/\g<p.ns/\(p.zb f).front=false/\(p.zb b).front=true/\dx y b g<=(p.zb b).high
 free:∀b,b<p.nb->gj p y b<=gj p s b/\(gj p y b<0->gj p y b=gj p s b)
theorem gt.refl(r:au p s):gt p s s:=⟨r,rfl,Nat.le_refl _,λ_ _=>rfl,λk c a=>absurd a (by omega),λb d=>⟨Int.le_refl _,λ_=>rfl⟩⟩
theorem aab{a z n:Int}(c:1<=z)(e:1<=n)(h:n<=a.tdiv z):n*z<=a:=by
 by_cases b:0<=a
 .rw[Int.tdiv_eq_ediv_of_nonneg b] at h;exact Int.le_trans (Int.mul_le_mul_of_nonneg_right h (by omega)) (Int.ediv_mul_le a (by omega))
 have d:a.tdiv z = - ((-a).tdiv z):=by rw[Int.neg_tdiv];omega
 have f:0<=(-a).tdiv z:=Int.tdiv_nonneg (by omega) (by omega);omega
theorem Rl(p:Pl)(s:St)(b g f:Nat):o5 p s b g f<=(p.zb b).high-dx s b g/\o5 p s b g f<=ar s f g/\o5 p s b g f<=(gj p s b).tdiv (p.zs g):=by
 unfold o5;omega
theorem Zo(r:au p s)(d:g<p.ns)(c:b<p.nb):o5 p s b g f<=200:=by
 have F:=r.fm;have h:=(Rl p s b g f).1;have e:0<=dx s b g:=by
  unfold dx;have:=(F.sh.num b (by rw[F.sh.n];exact c) g d).1;have:=(lj (s:=s) (b:=b) (g:=g) F.moveN).1;omega
 have a:=F.sh.pl.bins b c;rw[Dv] at a;simp only[Xxq,Bool.not_eq_false'] at a;have:=aq a.1.2;omega
theorem gt.step(h:gt p s y)(m:b<p.nb)(i:(p.zb b).front=true)(d:g<p.ns)(q:f<p.nb)(a:(p.zb f).front=false):gt p s (nj p b g f y):=by
 unfold nj;by_cases c:y.ms.n<8/\1<=o5 p y b g f;rotate_left
 .rw[if_neg c];exact h
 rw[if_pos c];have le:=Rl p y b g f;have u:¬f=b:=λe=>by rw[e,i] at a;cases a
 have bd:=Zo (f:=f) h.r d m;obtain⟨c1,c2⟩:=c
 generalize o5 p y b g f=n at *
 refine⟨Pf h.r c1 d q m u c2 bd le.2.1,?_,by show s.ms.n<=y.ms.n+1;have:=h.ge;omega,λk v => ?_,λk F x => ?_,λc hc => ?_⟩
 .rw[ix];conv=>lhs;rw[h.eq]
  rfl
 .rw[xu y _ (by have:=h.ge;omega)];exact h.pre k v
 rotate_left
 .rw[Qz];obtain⟨J,A⟩:=h.free c hc;by_cases e:(b:Int)=(c:Int)
  .rw[if_pos e];have l:b=c:=by omega
   subst l;have H:=(h.r.fm.sh.pl.sizes g d).1;have:=aab H c2 le.2.2;have S:0<=n*p.zs g:=Int.mul_nonneg (by omega) (by omega);show gj p y b-n*p.zs (g:Int).toNat<=_/\(gj p y b-n*p.zs (g:Int).toNat<0->_);rw[Int.toNat_natCast];omega
  rw[if_neg e,Int.sub_zero];exact⟨J,A⟩
 have P:k<y.ms.n+1:=x;by_cases e:k=y.ms.n
 .rw[e,wo];refine⟨b,g,f,rfl,rfl,rfl,q,m,d,a,i,?_⟩;rw[G4,if_pos ⟨rfl,rfl⟩];have:=le.1;show dx y b g+n<=_;omega
 rw[xu y _ (by omega)];obtain⟨j,o,f',L,M,w,z,D,B,G,E,Q⟩:=h.new k F (by omega);refine⟨j,o,f',L,M,w,z,D,B,G,E,?_⟩;rw[G4];by_cases t:(b:Int)=(j:Int)/\(g:Int)=(o:Int)
 .rw[if_pos t];have l:b=j:=by omega
  have K:g=o:=by omega
  subst l K;have:=le.1;show dx y b g+n<=_;omega
 rw[if_neg t];omega
theorem gt.F(h:gt p s y)(d:b<p.nb)(a:(p.zb b).front=true)(c:g<p.ns):∀(L:List (yx p false)),gt p s (jp p b g L y):=by
 intro L
 induction L generalizing y with
 | nil=>exact h
 | cons f L ih=>exact ih (h.step d a c f.2.1 f.2.2)
theorem gt.G(h:gt p s y)(c:b<p.nb)(a:(p.zb b).front=true):∀{g:Nat},g<=p.ns->gt p s (i8 p b g y)
 | 0,_=>h
 | g+1,hg=>by
  have d:=gt.G h c a (g:=g) (by omega);simp only[i8]
  split
  .exact d
  exact d.F c a (by omega) _
theorem gt.B(h:gt p s y):∀(L:List (yx p true)),gt p s (mj p L y):=by
 intro L
 induction L generalizing y with
 | nil=>exact h
 | cons b L ih=>exact ih (h.G b.2.1 b.2.2 nlr)
theorem Wd(r:au p s):gt p s (yp p s):=(gt.refl r).B _
end
theorem ae.lying{t:St}(h:ae x t)(f:cw p t)(c:b<p.nb)(a:g<p.ns):dx x b g=dx t b g:=by
 unfold dx;rw[h.num f c a,h.ms.1,D4 (x:=x) (s:=t) λj d=>h.ms.2 j (by rw[h.ms.1];exact d)]
theorem Fd{t:St}(h:ae x t)(F:cw p t){f:Nat}(c:b<p.nb)(a:g<p.ns)(d:f<p.nb):o5 p x b g f=o5 p t b g f:=by
 unfold o5;rw[h.lying F c a,h.avail F d a,h.free F c]
def Bu(h:Hs)(k:Nat):Hs:=⟨h.a,h.n-1,h.c,λi=>if i<k then h.z i else h.z (i+1)⟩
def fp(p:Pl)(s:St)(k n:Int):Int :=
 if ah p s=0 then(if inB k 0 ((s.ms.n:Int)-1) then(if inB n 0 (s.ms.z k.toNat).n then(if 200<(s.on.r (s.ms.z k.toNat).b.toNat).z (s.ms.z k.toNat).o.toNat+n then 2 else 0) else 3) else 4) else ah p s
def tx(s:St)(h:Hs)(f b g:Nat)(n:Int):St:=setOn (setOn (withMoves s h) f g ((s.on.r f).z g-n)) b g ((s.on.r b).z g+n)
def je(s:St)(k:Nat)(n:Int):St:=tx s (Bu s.ms k) (s.ms.z k).l.toNat (s.ms.z k).b.toNat (s.ms.z k).o.toNat n
section
variable {p:Pl} {s x:St} {k:Nat} {n:Int}
theorem v9{k:Int}(h:¬ah p s=0):fp p s k n=ah p s:=by unfold fp;rw[if_neg h]
theorem Ec{k:Int}(h:ah p s=0)(a:inB k 0 ((s.ms.n:Int)-1)=false):fp p s k n=4:=by unfold fp;rw[if_pos h,a];rfl
theorem C9{k:Int}(h:ah p s=0)(b:inB k 0 ((s.ms.n:Int)-1)=true)(a:inB n 0 (s.ms.z k.toNat).n=false):fp p s k n=3:=by unfold fp;rw[if_pos h,b,a];rfl
theorem Ed{k:Int}(h:ah p s=0)(d:inB k 0 ((s.ms.n:Int)-1)=true)(c:inB n 0 (s.ms.z k.toNat).n=true)(a:200<(s.on.r (s.ms.z k.toNat).b.toNat).z (s.ms.z k.toNat).o.toNat+n):fp p s k n=2:=by unfold fp;rw[if_pos h,d,c,if_pos a];rfl
theorem Ov{k:Int}(h:ah p s=0)(d:inB k 0 ((s.ms.n:Int)-1)=true)(c:inB n 0 (s.ms.z k.toNat).n=true)(a:¬200<(s.on.r (s.ms.z k.toNat).b.toNat).z (s.ms.z k.toNat).o.toNat+n):fp p s k n=0:=by unfold fp;rw[if_pos h,d,c,if_neg a];rfl
structure pa(p:Pl)(s:St)(k f b g:Nat)(N n:Int):Prop where
 r:au p s
 kn:k<s.ms.n
 m:s.ms.z k=⟨g,f,b,N⟩
 fn:f<p.nb
 bn:b<p.nb
 gn:g<p.ns
 ne:¬f=b
 n0:0<=n
 nN:n<=N
 N1:1<=N
 N2:N<=200
 to:(s.on.r b).z g+n<=200
theorem S2{k:Int}(h:fp p s k n=0):ah p s=0/\∃(i f b g:Nat) (N:Int),k=i/\pa p s i f b g N n:=by
 by_cases a:ah p s=0
 .refine⟨a,?_⟩;cases c:inB k 0 ((s.ms.n:Int)-1)
  .rw[Ec a c] at h;cases h
  cases d:inB n 0 (s.ms.z k.toNat).n
  .rw[C9 a c d] at h;cases h
  by_cases m:200<(s.on.r (s.ms.z k.toNat).b.toNat).z (s.ms.z k.toNat).o.toNat+n
  .rw[Ed a c d m] at h;cases h
  have r:=ew a;have y:=aq c;have j:=aq d;have e:k.toNat<s.ms.n:=by omega
  obtain⟨v,t,w,x,q,u⟩:=qs (r.fm.move k.toNat e);refine⟨k.toNat,(s.ms.z k.toNat).l.toNat,(s.ms.z k.toNat).b.toNat,(s.ms.z k.toNat).o.toNat,(s.ms.z k.toNat).n,by omega,r,e,?_,by omega,by omega,by omega,by omega,j.1,j.2,q,u,by omega⟩;rw[Int.toNat_of_nonneg v.1,Int.toNat_of_nonneg t.1,Int.toNat_of_nonneg w.1]
 rw[v9 a] at h;exact absurd h a
end
section
variable {p:Pl} {s x:St} {k f b g:Nat} {N n:Int}
theorem pa.T(h:pa p s k f b g N n):je s k n=tx s (Bu s.ms k) f b g n:=by
 unfold je;rw[h.m];simp only[Int.toNat_natCast]
theorem Bk(s:St)(b g:Nat)(v:Int)(i j:Nat):((setOn s b g v).on.r i).z j=if i=b/\j=g then v else(s.on.r i).z j:=by
 show(if i=b then ku (s.on.r i) g v else s.on.r i).z j=_;by_cases hi:i=b
 .rw[if_pos hi];show(if j=g then v else(s.on.r i).z j)=_;by_cases a:j=g
  .rw[if_pos a,if_pos ⟨hi,a⟩]
  rw[if_neg a,if_neg (λe=>a e.2)]
 rw[if_neg hi,if_neg (λe=>hi e.1)]
theorem rd(s:St)(b g:Nat)(v:Int)(i:Nat):((setOn s b g v).on.r i).n=(s.on.r i).n:=by
 show(if i=b then ku (s.on.r i) g v else s.on.r i).n=_;by_cases hi:i=b
 .rw[if_pos hi];rfl
 rw[if_neg hi]
theorem Dl(h:pa p s k f b g N n)(i j:Nat):((je s k n).on.r i).z j=(s.on.r i).z j+if j=g then(if i=b then n else if i=f then -n else 0) else 0:=by
 have e:=h.ne;rw[h.T,tx,Bk,Bk,show(withMoves s (Bu s.ms k)).on=s.on from rfl];by_cases c:j=g
 .subst c;by_cases a:i=b
  .subst a;simp
  by_cases d:i=f
  .subst d;simp[a];omega
  simp[a,d]
 simp[c]
theorem Xh(h:pa p s k f b g N n)(i:Nat):((je s k n).on.r i).n=(s.on.r i).n:=by
 rw[h.T,tx,rd,rd];rfl
theorem Kt(h:pa p s k f b g N n):(je s k n).ms=Bu s.ms k:=rfl
theorem Qg{b g:Int}{x s:St}(c:∀i,x.ms.z i=if i<k then s.ms.z i else s.ms.z (i+1)):∀m,(m<=k->az x b g m=az s b g m)/\(k<=m->az x b g m+(if (s.ms.z k).l=b/\(s.ms.z k).o=g then(s.ms.z k).n else 0)=az s b g (m+1))
 | 0=>⟨λ_=>rfl,λh=>by
  rw[show k=0 by omega];simp[az]⟩
 | m+1=>by
  obtain⟨d,p⟩:=Qg (b:=b) (g:=g) c m;refine⟨λh => ?_,λh => ?_⟩
  .have e0:x.ms.z m=s.ms.z m:=by rw[c m];exact if_pos (by omega)
   simp only[az];rw[d (by omega),e0]
  by_cases e:k=m+1
  .have:az x b g (m+1)=az s b g (m+1):=by
    have e0:x.ms.z m=s.ms.z m:=by rw[c m];exact if_pos (by omega)
    simp only[az];rw[d (by omega),e0]
   rw[this,e];simp only[az]
  have a:=p (by omega);have f:az x b g (m+1)=az x b g m+(if (s.ms.z (m+1)).l=b/\(s.ms.z (m+1)).o=g then(s.ms.z (m+1)).n else 0):=by
   have e0:x.ms.z m=s.ms.z (m+1):=by rw[c m];exact if_neg (by omega)
   simp only[az];rw[e0]
  have j:az s b g (m+1+1)=az s b g (m+1)+(if (s.ms.z (m+1)).l=b/\(s.ms.z (m+1)).o=g then(s.ms.z (m+1)).n else 0):=rfl;rw[f,j,<-a];omega
theorem Ut(h:pa p s k f b g N n)(c j:Nat):az (je s k n) c j (je s k n).ms.n+(if f=c/\g=j then N else 0)=az s c j s.ms.n:=by
 have a:=h.kn;have:=(Qg (b:=(c:Int)) (g:=(j:Int)) (x:=je s k n) (s:=s) (k:=k) (λi=>by rw[Kt h];rfl) (s.ms.n-1)).2 (by omega);rw[show s.ms.n-1+1=s.ms.n by omega,h.m] at this;rw[Kt h];show az (je s k n) c j (s.ms.n-1)+_=_;rw[<-this]
 congr 1
 by_cases e:f=c/\g=j
 .rw[if_pos e,if_pos (by simp[e.1,e.2])]
 rw[if_neg e,if_neg (by simp;omega)]
theorem Vm(h:pa p s k f b g N n)(c j:Int):ca (je s k n) c j (je s k n).hs.n=ca s c j s.hs.n:=ri (x:=je s k n) (s:=s) (λ_ _=>rfl) (λ_ _=>rfl)
theorem Ry(h:pa p s k f b g N n)(c j:Nat):ar (je s k n) c j=ar s c j+if j=g then(if c=b then n else if c=f then N-n else 0) else 0:=by
 unfold ar;have a:=Ut h c j;have m:=h.ne;rw[Vm h,Dl h,<-a];by_cases i:j=g
 .subst i;by_cases d:c=b
  .subst d;simp[m];omega
  by_cases l:c=f
  .subst l;simp[d];omega
  have q:¬f=c:=λe=>l e.symm;simp[d,l,q]
 have o:¬g=j:=λe=>i e.symm;simp[i,o]
theorem N4{s:St}{b g:Int}:∀{m:Nat},(∀j,j<m->1<=(s.ms.z j).n/\(s.ms.z j).n<=200)->∀{k:Nat},k<m->(s.ms.z k).l=b->(s.ms.z k).o=g->(s.ms.z k).n<=az s b g m
 | m+1,h,k,hk,h1,h2=>by
  have bd:=(jr (s:=s) (b:=b) (g:=g) (n:=m) λj a=>h j (by omega)).1;by_cases e:k=m
  .subst e;rw[Gc h1 h2];omega
  have c:=N4 (b:=b) (g:=g) (m:=m) (λj a=>h j (by omega)) (k:=k) (by omega) h1 h2;have:=(h m (by omega)).1;simp only[az]
  split<;>omega
theorem Sw(h:pa p s k f b g N n):au p (je s k n):=by
 have r:=h.r;have F:=r.fm;have o:=h.fn;have w:=h.bn;have v:=h.gn;have n0:=h.n0;have nN:=h.nN;have to:=h.to;have y:=h.ne;have on:N<=(s.on.r f).z g:=by
  have a:=(kq (r.goods g v)).2 f o;have b1:=(mt (s:=s) (b:=f) (g:=g) F.holdN).1;have c:=N4 (s:=s) (b:=f) (g:=g) F.moveN h.kn (by rw[h.m]) (by rw[h.m]);rw[h.m] at c;unfold ar at a;have D:N<=az s f g s.ms.n:=c;omega
 have hs:tr p (je s k n).on:=by
  refine⟨F.sh.pl,F.sh.n,λi hi=>by rw[Xh h];exact F.sh.len i hi,λi hi j l => ?_⟩;have q:=F.sh.num i hi j l;rw[Dl h];by_cases d:j=g
  .subst d;by_cases e:i=b
   .subst e;simp;omega
   by_cases t:i=f
   .subst t;simp[e];omega
   simp[e,t];omega
  simp[d];omega
 refine⟨⟨hs,vw (ts F.sh0).1 hs,F.os4,by show s.ms.n-1<=8;have:=F.ms8;omega,F.lns,F.kind,F.line,F.hold,F.home,λi hi => ?_,F.sin,F.son,F.sfn,F.sib,F.sob,F.sfb⟩,λj l => ?_,r.orders⟩
 .have A:i<s.ms.n-1:=hi;rw[Kt h];show l6 p (if i<k then s.ms.z i else s.ms.z (i+1))=false
  split
  .exact F.move i (by omega)
  exact F.move (i+1) (by omega)
 obtain⟨a1,x⟩:=kq (r.goods j l);refine rt ?_ λi hi => ?_
 .show cv (λi=>((je s k n).on.r i).z j) s.on.n=s.si.z j-s.so.z j+s.sf.z j;rw[<-a1];by_cases d:j=g
  .have E:=ru (z:=λi=>(s.on.r i).z j) (z':=λi=>(s.on.r i).z j+if i=f then -n else 0) (m:=f) (n := -n) (k:=s.on.n) (by rw[F.sh.n];exact o) λi _=>rfl;have B:=ru (z:=λi=>(s.on.r i).z j+if i=f then -n else 0) (z':=λi=>((je s k n).on.r i).z j) (m:=b) (n:=n) (k:=s.on.n) (by rw[F.sh.n];exact w) λi _=>by
    rw[Dl h,if_pos d];by_cases e:i=b
    .have u:¬i=f:=by omega
     simp[e]<;>omega
    simp[e]
   omega
  exact rb λi _=>by rw[Dl h,if_neg d,Int.add_zero]
 rw[Ry h];have:=x i hi;by_cases d:j=g
 .rw[if_pos d]
  split
  .omega
  split<;>omega
 rw[if_neg d];omega
theorem M1{t:St}(h:ae x t){k a:Hs}(c:k.n=a.n)(b:∀j,j<k.n->k.z j=a.z j):ae (withMoves x k) (withMoves t a):=⟨h.on,h.os,h.hs,⟨c,b⟩,h.si,h.so,h.sf⟩
theorem Ba(h:pa p s k f b g N n)(e:ae x s){q:Hs}(c:q.n=s.ms.n-1)(a:∀j,j<q.n->q.z j=(Bu s.ms k).z j):ae (tx x q f b g n) (je s k n):=by
 rw[h.T];unfold tx;rw[e.num h.r.fm h.fn h.gn,e.num h.r.fm h.bn h.gn];exact xr (xr (M1 e c a) _ _ _) _ _ _
end
def ct(b g:Int)(m:Hd):Bool:=(m.l==b)&&(m.o==g)
def cd(s:St)(b g:Int)(h:Hd):Bool:=(h.b==b)&&(jo s h==g)
def Zt(f:Hd->Bool)(h:Hs)(m:Int):Hs:=⟨h.a,h.n,h.c,lf f h.n m h.z⟩
def cq(f:Hd->Bool)(h:Hs)(m:Int):Hs:=dy (Zt f h m) sd
def pd(s:St):List Hd:=cx s.ms.z s.ms.n
def l7(s:St):List Hd:=cx s.hs.z s.hs.n
def tq(x:Hd)(d:Int):Hd:=⟨x.o,x.l,x.b,x.n+d⟩
def Ev(os:Os)(q:Int->Int->Int):Os:=⟨os.a,os.n,os.c,λi=>⟨(os.z i).k,⟨(os.z i).ls.a,(os.z i).ls.n,(os.z i).ls.c,λj=>tq ((os.z i).ls.z j) (q i j)⟩⟩⟩
def ij(s:St)(b g M:Int):Int:=tp (ct b g) M (pd s)
def eu(s:St)(b g M:Int):Int->Int->Int:=ky (cd s b g) (ij s b g M) (l7 s)
def i6(s:St)(b g M:Int):St:=⟨s.on,Ev s.os (eu s b g M),cq (cd s b g) s.hs (ij s b g M),cq (ct b g) s.ms M,s.si,s.so,s.sf⟩
def setFix(s:St)(g:Nat)(x:Int):St:=⟨s.on,s.os,s.hs,s.ms,s.si,s.so,ku s.sf g x⟩
def jl(s:St)(b g:Nat)(seen:Int):St:=setFix (setOn s b g seen) g (s.sf.z g+(seen-(s.on.r b).z g))
def m9(s:St)(b g:Nat):Int:=ca s b g s.hs.n+az s b g s.ms.n
def er(s:St)(b g:Nat)(seen:Int):Int:=max 0 (m9 s b g-seen)
def nw(s:St)(b g:Nat)(seen:Int):St:=jl (i6 s b g (er s b g seen)) b g seen
def Er(s:St)(b g:Nat)(seen:Int)(i j:Nat):Int:=eu s b g (er s b g seen) i j
def lw(p:Pl)(s:St)(b g:Nat)(seen:Int):St:=Vg p b (Er s b g seen) (vy s) s.os.n (nw s b g seen)
def fg(p:Pl)(s:St)(bin good seen:Int):Int :=
 if ah p s=0 then(if inB bin 0 ((p.nb:Int)-1)&&inB good 0 ((p.ns:Int)-1)&&inB seen 0 200 then(if inB (s.sf.z good.toNat+(seen-(s.on.r bin.toNat).z good.toNat)) (-1048576) 1048576 then 0 else 2) else 3) else ah p s
theorem ze{b g:Int}{m:Hd}:ct b g m=true↔m.l=b/\m.o=g:=by unfold ct;simp
theorem vn{b g:Int}:cd s b g h=true↔h.b=b/\jo s h=g:=by unfold cd;simp
theorem re(b g:Int):Ld (ct b g):=λ_ _=>rfl
theorem Bj(s:St)(b g:Int):Ld (cd s b g):=λ_ _=>rfl
theorem uf(s:St)(b g:Int):∀n,az s b g n=fh (ct b g) (cx s.ms.z n)
 | 0=>rfl
 | n+1=>by
  show az s b g n+_=fh (ct b g) (cx s.ms.z n)+_;rw[uf s b g n];by_cases c:(s.ms.z n).l=b/\(s.ms.z n).o=g
  .rw[if_pos c,if_pos (ze.2 c)]
  rw[if_neg c,if_neg (λe=>c (ze.1 e))]
theorem Df(s:St)(b g:Int):∀n,ca s b g n=fh (cd s b g) (cx s.hs.z n)
 | 0=>rfl
 | n+1=>by
  show ca s b g n+_=fh (cd s b g) (cx s.hs.z n)+_;rw[Df s b g n];by_cases c:(s.hs.z n).b=b/\jo s (s.hs.z n)=g
  .rw[if_pos c,if_pos (vn.2 c)]
  rw[if_neg c,if_neg (λe=>c (vn.1 e))]
theorem Dp(z:Nat->Hd)(o l:Int):∀n,keptS z o l n=fh (A5 o l) (cx z n)
 | 0=>rfl
 | n+1=>by
  show keptS z o l n+_=fh (A5 o l) (cx z n)+_;rw[Dp z o l n];by_cases c:(z n).o=o/\(z n).l=l
  .rw[if_pos c,if_pos (Aw.2 c)]
  rw[if_neg c,if_neg (λe=>c (Aw.1 e))]
theorem Ou(h:Hs)(bad:Hd->Bool):cx (dy h bad).z (dy h bad).n=(cx h.z h.n).filter (λx => !bad x):=by
 rw[Ii,Ii,List.filter_reverse]
 congr 1
 exact Ky h bad
theorem Wt{h:Hs}{bad:Hd->Bool}(hi:i<(dy h bad).n):∃j,j<h.n/\(dy h bad).z i=h.z j/\bad (h.z j)=false:=by
 have a:(dy h bad).z i∈cx (dy h bad).z (dy h bad).n:=Rb hi;rw[Ou,List.mem_filter] at a;obtain⟨j,b,e⟩:=wi a.1;exact⟨j,b,e.symm,by rw[e];simpa using a.2⟩
theorem ld(f:Hd->Bool)(h:Hs)(m:Int):cx (cq f h m).z (cq f h m).n=flt (iq f m (cx h.z h.n)):=by
 unfold cq;rw[Ou];show(cx (lf f h.n m h.z) h.n).filter _=_;rw[Kc]
 rfl
theorem O5{f:Hd->Bool}{h:Hs}{m:Int}(d:0<=m)(p:∀j,j<h.n->0<=(h.z j).n)(hi:i<(cq f h m).n):∃j,j<h.n/\((cq f h m).z i).o=(h.z j).o/\((cq f h m).z i).l=(h.z j).l/\((cq f h m).z i).b=(h.z j).b/\1<=((cq f h m).z i).n/\((cq f h m).z i).n<=(h.z j).n:=by
 obtain⟨j,a,e,g⟩:=Wt hi;have k:=F2 f h.n m h.z d p j;have q:(cq f h m).z i=lf f h.n m h.z j:=e;have c:sd (lf f h.n m h.z j)=false:=g;rw[q];unfold sd at c;have r:¬(lf f h.n m h.z j).n=0:=by simpa using c
 have:=k.2.1 a;exact⟨j,a,k.1.1,k.1.2.1,k.1.2.2,by omega,k.2.2⟩
theorem R4{f:Hd->Bool}{h:Hs}{m:Int}(d:0<=m)(a:aw h.n (da h.z)=false):aw (cq f h m).n (da (cq f h m).z)=false:=by
 have g:∀j,j<h.n->0<=(h.z j).n:=λj b=>by have:=(cy (bw a j b)).2.2.2;omega
 have k:=F2 f h.n m h.z d g;refine Ic (λi j c b => ?_) λi hi l => ?_
 .have e:∀q,ba ((Zt f h m).z q)=ba (h.z q):=λq=>by
   show ba (lf f h.n m h.z q)=_;unfold ba;rw[(k q).1.1,(k q).1.2.1,(k q).1.2.2]
  rw[e,e];exact mq a i j c b
 have q:=k i;have fn:=cy (bw a i hi);have o:¬(lf f h.n m h.z i).n=0:=by
  have:sd (lf f h.n m h.z i)=false:=l;unfold sd at this
  simpa using this
 have:=q.2.1 hi;show gy (lf f h.n m h.z i)=true;unfold gy;rw[q.1.1,q.1.2.1,q.1.2.2,bq fn.1,bq fn.2.1,bq fn.2.2.1,bq (by omega)]
 rfl
section
variable {p:Pl} {s:St} {b g M:Int}
theorem au.moves0(r:au p s):∀h,h∈pd s->1<=h.n:=λh a=>by
 obtain⟨j,b,e⟩:=wi a;have:=r.fm.moveN j b;rw[<-e];omega
theorem au.holds0(r:au p s):∀h,h∈l7 s->1<=h.n:=λh a=>by
 obtain⟨j,b,e⟩:=wi a;have:=r.fm.holdN j b;rw[<-e];omega
theorem au.movesP(r:au p s):vh (pd s):=λh a=>by have:=r.moves0 h a;omega
theorem au.holdsP(r:au p s):vh (l7 s):=λh a=>by have:=r.holds0 h a;omega
theorem mp(r:au p s)(c:0<=M):ij s b g M=M-min M (az s b g s.ms.n)/\0<=ij s b g M:=by
 have e:=(ti (re b g) r.movesP c).2;have k:=Aj (P:=ct b g) r.movesP;have d:ij s b g M=M-min M (fh (ct b g) (pd s)):=e;rw[uf];have a:fh (ct b g) (cx s.ms.z s.ms.n)=fh (ct b g) (pd s):=rfl;rw[a];omega
theorem Q9(s:St)(b g M:Int)(o l:Int):keptS (i6 s b g M).hs.z o l (i6 s b g M).hs.n=keptS s.hs.z o l s.hs.n-eu s b g M o l:=by
 rw[Dp,Dp];show fh _ (cx (cq (cd s b g) s.hs (ij s b g M)).z (cq (cd s b g) s.hs (ij s b g M)).n)=_;rw[ld,uk,Hz]
 rfl
theorem Ap(r:au p s)(a:0<=M)(o l:Int):0<=eu s b g M o l/\eu s b g M o l<=keptS s.hs.z o l s.hs.n:=by
 have c:=Iy (cd s b g) o l r.holdsP (mp (b:=b) (g:=g) r a).2;refine⟨c,?_⟩;have e:=Q9 s b g M o l;have d:0<=fh (A5 o l) (flt (iq (cd s b g) (ij s b g M) (l7 s))):=by
  rw[uk];exact Aj (Ay _ r.holdsP (mp r a).2)
 rw[Dp] at e;have f:fh (A5 o l) (cx (i6 s b g M).hs.z (i6 s b g M).hs.n)=fh (A5 o l) (flt (iq (cd s b g) (ij s b g M) (l7 s))):=by
  show fh _ (cx (cq (cd s b g) s.hs (ij s b g M)).z (cq (cd s b g) s.hs (ij s b g M)).n)=_;rw[ld]
  rfl
 omega
theorem Ra(r:au p s)(l:0<=M)(e d:Int):ca (i6 s b g M) e d (i6 s b g M).hs.n=ca s e d s.hs.n-if e=b/\d=g then min (ij s b g M) (ca s b g s.hs.n) else 0:=by
 rw[Df,Df];have i:cd (i6 s b g M) e d=cd s e d:=rfl;rw[i];show fh _ (cx (cq (cd s b g) s.hs (ij s b g M)).z (cq (cd s b g) s.hs (ij s b g M)).n)=_;rw[ld,uk];have j:cx s.hs.z s.hs.n=l7 s:=rfl;rw[j];by_cases c:e=b/\d=g
 .rw[if_pos c,c.1,c.2,(ti (Bj s b g) r.holdsP (mp (b:=b) (g:=g) r l).2).1,Df]
  rfl
 rw[if_neg c,Int.sub_zero];exact Ch (λh m=>by
  cases k:cd s b g h
  .rfl
  have a:=vn.1 m;have f:=vn.1 k;exact absurd ⟨a.1.symm.trans f.1,a.2.symm.trans f.2⟩ c) (Bj s e d) _ _
theorem Qy(r:au p s)(k:0<=M)(e d:Int):az (i6 s b g M) e d (i6 s b g M).ms.n=az s e d s.ms.n-if e=b/\d=g then min M (az s b g s.ms.n) else 0:=by
 rw[uf,uf];show fh _ (cx (cq (ct b g) s.ms M).z (cq (ct b g) s.ms M).n)=_;rw[ld,uk];have i:cx s.ms.z s.ms.n=pd s:=rfl;rw[i];by_cases c:e=b/\d=g
 .rw[if_pos c,c.1,c.2,(ti (re b g) r.movesP k).1,uf]
  rfl
 rw[if_neg c,Int.sub_zero];exact Ch (λh l=>by
  cases j:ct b g h
  .rfl
  have a:=ze.1 l;have f:=ze.1 j;exact absurd ⟨a.1.symm.trans f.1,a.2.symm.trans f.2⟩ c) (re e d) _ _
theorem Ol(r:au p s)(hi:i<s.os.n)(e:j<(s.os.z i).ls.n):keptS s.hs.z i j s.hs.n=0\/(s.os.z i).k=1/\((s.os.z i).ls.z j).b+((s.os.z i).ls.z j).n+keptS s.hs.z i j s.hs.n=((s.os.z i).ls.z j).l:=by
 have w:=r.orders i hi;unfold cg at w;rw[Xxq] at w;have a:cp (s.os.z i).k ((s.os.z i).ls.z j) (keptS s.hs.z i j s.hs.n)=false:=dj w.2 j e;have kd:=r.fm.kind i hi;unfold cp at a;by_cases d:(s.os.z i).k=0
 .rw[if_pos d] at a;simp only[Xxq,Bool.not_eq_false',beq_iff_eq] at a;exact Or.inl a.2
 rw[if_neg d] at a;by_cases c:(s.os.z i).k=2
 .rw[if_pos c] at a;simp only[Xxq,Bool.not_eq_false',beq_iff_eq] at a;exact Or.inl a.2
 rw[if_neg c] at a;simp only[Bool.not_eq_false',beq_iff_eq] at a;exact Or.inr ⟨by omega,a⟩
theorem Fs(r:au p s)(u:0<=M):cw p (i6 s b g M):=by
 have f:=r.fm;have x:∀j,j<s.hs.n->0<=(s.hs.z j).n:=λj a=>by have:=f.holdN j a;omega
 have A:∀j,j<s.ms.n->0<=(s.ms.z j).n:=λj a=>by have:=f.moveN j a;omega
 have w:=(mp (b:=b) (g:=g) r u).2;refine⟨f.sh,f.sh0,f.os4,Qzx (za _ _) f.ms8,f.lns,f.kind,λi hi j a => ?_,R4 w f.hold,λi hi => ?_,λi hi => ?_,f.sin,f.son,f.sfn,f.sib,f.sob,f.sfb⟩
 .obtain⟨b1,b2,b3,b4⟩:=dz (f.line i hi j a);have q:=Ap (b:=b) (g:=g) r u i j;have k:=Ol r hi a;show jx p (tq ((s.os.z i).ls.z j) (eu s b g M i j))=false;unfold jx tq;rw[bq (by dsimp only;omega),bq (by dsimp only;omega),bq (by dsimp only;omega),bq (by dsimp only;omega)]
  rfl
 .obtain⟨j,a,m,v,t,-,-⟩:=O5 w x hi;have h:=iu (f.home j a);have c:((i6 s b g M).hs.z i).o=(s.hs.z j).o:=m;have e:((i6 s b g M).hs.z i).l=(s.hs.z j).l:=v;have d:((i6 s b g M).hs.z i).b=(s.hs.z j).b:=t;refine pe ?_ ?_ ?_
  .rw[c];exact h.1
  .rw[c,e];exact h.2.1
  rw[d];exact h.2.2
 obtain⟨j,a,m,v,t,B,y⟩:=O5 u A hi;have h:=qs (f.move j a);have c:((i6 s b g M).ms.z i).o=(s.ms.z j).o:=m;have e:((i6 s b g M).ms.z i).l=(s.ms.z j).l:=v;have d:((i6 s b g M).ms.z i).b=(s.ms.z j).b:=t;have D:1<=((i6 s b g M).ms.z i).n:=B;have E:((i6 s b g M).ms.z i).n<=(s.ms.z j).n:=y
 generalize (i6 s b g M).ms.z i=X at *
 unfold l6;rw[c,e,d,bq (by omega),bq (by omega),bq (by omega),bq (by omega)]
 simpa using h.2.2.2.1
theorem Vb(r:au p s)(f:0<=M)(i:Nat)(hi:i<s.os.n):cg (i6 s b g M) i=false:=by
 have w:=r.orders i hi;unfold cg at w ⊢;rw[Xxq] at w ⊢;refine⟨w.1,cu λj e => ?_⟩;have a:cp (s.os.z i).k ((s.os.z i).ls.z j) (keptS s.hs.z i j s.hs.n)=false:=dj w.2 j e;rw[Q9];show cp (s.os.z i).k (tq ((s.os.z i).ls.z j) (eu s b g M i j)) _=false;have q:=Ap (b:=b) (g:=g) r f i j;unfold cp tq at *;by_cases d:(s.os.z i).k=0
 .rw[if_pos d] at a ⊢;simp only[Xxq,Bool.not_eq_false',beq_iff_eq] at a ⊢;omega
 rw[if_neg d] at a ⊢;by_cases c:(s.os.z i).k=2
 .rw[if_pos c] at a ⊢;simp only[Xxq,Bool.not_eq_false',beq_iff_eq] at a ⊢;omega
 rw[if_neg c] at a ⊢;simp only[Bool.not_eq_false',beq_iff_eq] at a ⊢;omega
end
section
variable {p:Pl} {s:St} {b g:Nat} {M seen:Int}
theorem Ot(r:au p s)(a:0<=M)(c k:Nat):ar (i6 s b g M) c k=ar s c k+if c=b/\k=g then min M (m9 s b g) else 0:=by
 have i:=Ra (b:=b) (g:=g) r a c k;have f:=Qy (b:=b) (g:=g) r a c k;have d:=mp (b:=b) (g:=g) r a;have l:=(mt (s:=s) (b:=b) (g:=g) (n:=s.hs.n) r.fm.holdN).1;have j:=(jr (s:=s) (b:=b) (g:=g) (n:=s.ms.n) r.fm.moveN).1;unfold ar m9;rw[i,f];show(s.on.r c).z k-_-_=_;by_cases e:c=b/\k=g
 .rw[if_pos e,if_pos (by omega),if_pos (by omega),d.1];omega
 rw[if_neg e,if_neg (λh=>e (by omega)),if_neg (λh=>e (by omega))];omega
theorem Vx(r:au p s)(a:0<=M):au p (i6 s b g M):=by
 refine⟨Fs r a,λk d => ?_,λi hi=>Vb r a i hi⟩;obtain⟨a1,e⟩:=kq (r.goods k d);refine rt a1 λc hc => ?_;rw[Ot r a];have:=e c hc;have f:=(mt (s:=s) (b:=b) (g:=g) (n:=s.hs.n) r.fm.holdN).1;have h:=(jr (s:=s) (b:=b) (g:=g) (n:=s.ms.n) r.fm.moveN).1;unfold m9
 split<;>omega
theorem ta(s:St)(b g:Nat)(seen:Int)(i j:Nat):((jl s b g seen).on.r i).z j=if i=b/\j=g then seen else(s.on.r i).z j:=Bk s b g seen i j
theorem Jz(s:St)(b g:Nat)(seen:Int)(c k:Nat):ar (jl s b g seen) c k=ar s c k+if c=b/\k=g then seen-(s.on.r b).z g else 0:=by
 have a:ca (jl s b g seen) c k (jl s b g seen).hs.n=ca s c k s.hs.n:=ri (x:=jl s b g seen) (s:=s) (λ_ _=>rfl) (λ_ _=>rfl);have d:az (jl s b g seen) c k (jl s b g seen).ms.n=az s c k s.ms.n:=ow (x:=jl s b g seen) (s:=s) (λ_ _=>rfl);unfold ar;rw[a,d,ta];by_cases e:c=b/\k=g
 .rw[if_pos e,if_pos e,e.1,e.2];omega
 rw[if_neg e,if_neg e];omega
theorem Sr(r:au p s)(l:b<p.nb)(x:g<p.ns)(y:0<=seen)(w:seen<=200)(o : -1048576<=s.sf.z g+(seen-(s.on.r b).z g)/\s.sf.z g+(seen-(s.on.r b).z g)<=1048576)(u:0<=ar s b g+(seen-(s.on.r b).z g)):au p (jl s b g seen):=by
 have f:=r.fm;have d:tr p (jl s b g seen).on:=⟨f.sh.pl,f.sh.n,λi hi=>(rd s b g seen i).trans (f.sh.len i hi),λi hi j a=>by
  rw[ta];have v:=f.sh.num i hi j a;by_cases c:i=b/\j=g
  .rw[if_pos c];omega
  rw[if_neg c];exact v⟩
 refine⟨⟨d,vw (ts f.sh0).1 d,f.os4,f.ms8,f.lns,f.kind,f.line,f.hold,f.home,f.move,f.sin,f.son,f.sfn,f.sib,f.sob,λj a => ?_⟩,λk h => ?_,r.orders⟩
 .show -1048576<=(if j=g then _ else s.sf.z j)/\(if j=g then _ else s.sf.z j)<=1048576;have:=f.sfb j a
  split
  .exact o
  exact this
 obtain⟨a1,t⟩:=kq (r.goods k h);refine rt ?_ λc hc => ?_
 .show cv _ s.on.n=s.si.z k-s.so.z k+(if k=g then _ else s.sf.z k);by_cases q:k=g
  .rw[if_pos q];have e:=ru (z:=λi=>(s.on.r i).z k) (z':=λi=>((jl s b g seen).on.r i).z k) (m:=b) (n:=seen-(s.on.r b).z g) (k:=s.on.n) (by rw[f.sh.n];exact l) (λi hi=>by
    rw[ta];by_cases c:i=b
    .rw[if_pos ⟨c,q⟩,if_pos c,c,q];omega
    rw[if_neg (λe=>c e.1),if_neg c,Int.add_zero])
   rw[e,a1,q];show _=_-_+(s.sf.z g+(seen-(s.on.r b).z g));omega
  rw[if_neg q,<-a1];exact sy λi hi=>by rw[ta,if_neg (λe=>q e.2)]
 rw[Jz];have:=t c hc;by_cases e:c=b/\k=g
 .rw[if_pos e,e.1,e.2];exact u
 rw[if_neg e];omega
structure db(p:Pl)(s:St)(b g:Nat)(seen:Int):Prop where
 r:au p s
 bn:b<p.nb
 gn:g<p.ns
 s0:0<=seen
 s1:seen<=200
 fx : -1048576<=s.sf.z g+(seen-(s.on.r b).z g)/\s.sf.z g+(seen-(s.on.r b).z g)<=1048576
theorem Ta{bin good:Int}(h:fg p s bin good seen=0):ah p s=0/\∃b g:Nat,bin=b/\good=g/\db p s b g seen:=by
 unfold fg at h;by_cases c:ah p s=0
 .rw[if_pos c] at h;cases a:(inB bin 0 ((p.nb:Int)-1)&&inB good 0 ((p.ns:Int)-1)&&inB seen 0 200)
  .rw[a,if_neg (by decide)] at h;exact absurd h (by decide)
  rw[a] at h;simp only[Xxx] at a;have j:=aq a.1.1;have i:=aq a.1.2;have d:=aq a.2;cases e:inB (s.sf.z good.toNat+(seen-(s.on.r bin.toNat).z good.toNat)) (-1048576) 1048576
  .rw[e] at h;exact absurd h (by decide)
  have f:=aq e;obtain⟨b,rfl⟩:=Qzz j.1;obtain⟨g,rfl⟩:=Qzz i.1;exact⟨c,b,g,rfl,rfl,ew c,by omega,by omega,d.1,d.2,f⟩
 rw[if_neg c] at h;exact absurd h c
theorem db.miss0(h:db p s b g seen):0<=er s b g seen:=by unfold er;omega
theorem db.bound(h:db p s b g seen):0<=m9 s b g/\m9 s b g=(s.on.r b).z g-ar s b g:=by
 have c:=(mt (s:=s) (b:=b) (g:=g) (n:=s.hs.n) h.r.fm.holdN).1;have a:=(jr (s:=s) (b:=b) (g:=g) (n:=s.ms.n) h.r.fm.moveN).1;unfold m9 ar;omega
theorem db.cutAv(h:db p s b g seen):ar (i6 s b g (er s b g seen)) b g=ar s b g+er s b g seen:=by
 rw[Ot h.r h.miss0,if_pos ⟨rfl,rfl⟩];have:=h.bound;have:=h.s0;unfold er;omega
theorem db.right(h:db p s b g seen):au p (nw s b g seen):=by
 refine Sr (Vx h.r h.miss0) h.bn h.gn h.s0 h.s1 h.fx ?_;rw[h.cutAv];show 0<=_+(seen-(s.on.r b).z g);have:=h.bound;unfold er;omega
theorem db.av(h:db p s b g seen):ar (nw s b g seen) b g=max (seen-m9 s b g) 0:=by
 unfold nw;rw[Jz,if_pos ⟨rfl,rfl⟩,h.cutAv];show _+(seen-(s.on.r b).z g)=_;have:=h.bound;unfold er;omega
theorem db.qin(h:db p s b g seen):QIn p b (Er s b g seen) (nw s b g seen):=by
 refine⟨h.right,λi j hi d => ?_,Or.inr ⟨by omega,by have:=h.bn;omega⟩⟩;have c:i<s.os.n:=hi;have a:j<(s.os.z i).ls.n:=d;have q:=Ap (b:=b) (g:=g) (M:=er s b g seen) h.r h.miss0 i j;refine⟨q.1,?_⟩;have e:=(dz (h.r.fm.line i c j a)).2.2.2;rcases Ol h.r c a with k|k
 .exact Or.inl (by show eu s b g (er s b g seen) i j=0;omega)
 refine Or.inr ⟨k.1,?_⟩;show eu s b g (er s b g seen) i j<=((s.os.z i).ls.z j).n+eu s b g (er s b g seen) i j;omega
theorem db.all(h:db p s b g seen):ig p b (Er s b g seen) (vy s) (nw s b g seen) s.os.n (lw p s b g seen):=Kl h.qin (λ_ _=>rfl) (Nat.le_refl s.os.n)
theorem db.pos(h:db p s b g seen):Pos p b (Er s b g seen) (nw s b g seen) s.os.n 0 (lw p s b g seen):=ig.pos h.qin (λ_ _=>rfl) (Nat.le_refl s.os.n) h.all
theorem Ea(h:db p s b g seen):au p (lw p s b g seen):=h.pos.al.r
end
section
variable {p:Pl} {s x:St} {b g:Nat} {seen:Int}
theorem Ur(x:Hd):tq x 0=x:=by unfold tq;rw[Int.add_zero]
theorem Mu{f:Hd->Bool}{h:Hs}(a:∀y,y∈cx h.z h.n->1<=y.n):(cq f h 0).n=h.n/\∀j,j<(cq f h 0).n->(cq f h 0).z j=h.z j:=by
 have e:=ld f h 0;rw[Dz f (λy b=>by have:=a y b;omega),I6 a] at e;exact yw e
theorem Rm(r:au p s)(b g:Int):ae (i6 s b g 0) s:=by
 have l0:ij s b g 0=0:=by
  have a:=mp (b:=b) (g:=g) r (Int.le_refl 0);have c:=(jr (s:=s) (b:=b) (g:=g) (n:=s.ms.n) r.fm.moveN).1;omega
 have q0:∀o l,eu s b g 0 o l=0:=λo l=>by
  unfold eu;rw[l0];exact Bl _ _ _ r.holdsP
 refine⟨⟨rfl,λ_ _=>⟨rfl,λ_ _=>rfl⟩⟩,⟨rfl,λi _=>⟨rfl,rfl,λj _ => ?_⟩⟩,?_,Mu r.moves0,⟨rfl,λ_ _=>rfl⟩,⟨rfl,λ_ _=>rfl⟩,⟨rfl,λ_ _=>rfl⟩⟩
 .show tq ((s.os.z i).ls.z j) (eu s b g 0 i j)=_;rw[q0,Ur]
 show(cq (cd s b g) s.hs (ij s b g 0)).n=_/\∀j,j<(cq (cd s b g) s.hs (ij s b g 0)).n->(cq (cd s b g) s.hs (ij s b g 0)).z j=_;rw[l0];exact Mu r.holds0
theorem ig.skip{but:Int}{q:Nat->Nat->Int}{m:Nat->Nat}(Q:QIn p but q s)(c:∀a,a<s.os.n->m a=(s.os.z a).ls.n)(d:∀a b,a<s.os.n->b<(s.os.z a).ls.n->q a b=0):∀{i:Nat},i<=s.os.n->ig p but q m s i s
 | 0,_=>ae.self s
 | i+1,hi=>by
  have T:=ig.skip Q c d (i:=i) (by omega);exact⟨s,T,kt.skip Q (ig.pos Q c (by omega) T) (by omega) (by rw[c i (by omega)];exact Nat.le_refl _) λb e=>d i b (by omega) (by rw[<-c i (by omega)];exact e)⟩
theorem J4(h:db p s b g seen)(d:er s b g seen=0):ae (lw p s b g seen) (jl s b g seen):=by
 have Q:=h.qin;have q0:∀a c,a<(nw s b g seen).os.n->c<((nw s b g seen).os.z a).ls.n->Er s b g seen a c=0:=λa c _ _=>by
  have k:=Ap (b:=b) (g:=g) (M:=er s b g seen) h.r h.miss0 a c;unfold Er eu;rw[d];have l0:ij s b g 0=0:=by
   have e:=mp (b:=b) (g:=g) h.r (Int.le_refl 0);have c:=(jr (s:=s) (b:=b) (g:=g) (n:=s.ms.n) h.r.fm.moveN).1;omega
  rw[l0];exact Bl _ _ _ h.r.holdsP
 have T:=ig.skip (m:=vy s) Q (λ_ _=>rfl) q0 nlr;have f:ae (lw p s b g seen) (nw s b g seen):=ig.same Q (λ_ _=>rfl) (Nat.le_refl s.os.n) T h.all;refine f.trans ?_;have c:=Rm h.r b g;unfold nw jl;rw[d];have i:((i6 s b g 0).on.r b).z g=(s.on.r b).z g:=rfl;have j:(i6 s b g 0).sf.z g=s.sf.z g:=rfl;rw[i,j];exact⟨⟨rfl,λ_ _=>⟨rfl,λ_ _=>rfl⟩⟩,c.os,c.hs,c.ms,⟨rfl,λ_ _=>rfl⟩,⟨rfl,λ_ _=>rfl⟩,⟨rfl,λ_ _=>rfl⟩⟩
theorem Uf(h:(s.on.r b).z g=seen):ae (jl s b g seen) s:=by
 refine⟨⟨rfl,λi _=>⟨rd s b g seen i,λj _ => ?_⟩⟩,⟨rfl,λ_ _=>⟨rfl,rfl,λ_ _=>rfl⟩⟩,⟨rfl,λ_ _=>rfl⟩,⟨rfl,λ_ _=>rfl⟩,⟨rfl,λ_ _=>rfl⟩,⟨rfl,λ_ _=>rfl⟩,⟨rfl,λj _ => ?_⟩⟩
 .rw[ta];by_cases c:i=b/\j=g
  .rw[if_pos c,c.1,c.2,h]
  rw[if_neg c]
 show(if j=g then s.sf.z g+(seen-(s.on.r b).z g) else s.sf.z j)=s.sf.z j;by_cases c:j=g
 .rw[if_pos c,h,c];omega
 rw[if_neg c]
theorem O8(h:db p s b g seen):fg p s b g seen=0:=by
 have i:=h.bn;have f:=h.gn;have d:=h.s0;have c:=h.s1;unfold fg;rw[if_pos (ka h.r),bq (by omega),bq (by omega),bq (by omega)];have e:(Int.toNat (b:Int))=b:=rfl;have a:(Int.toNat (g:Int))=g:=rfl;rw[e,a,bq h.fx]
 rfl
theorem db.onS(h:db p s b g seen)(i j:Nat):((nw s b g seen).on.r i).z j=if i=b/\j=g then seen else(s.on.r i).z j:=ta (i6 s b g (er s b g seen)) b g seen i j
theorem db.on(h:db p s b g seen)(e:ae x (lw p s b g seen)):x.on.n=s.on.n/\∀i,i<s.on.n->(x.on.r i).n=(s.on.r i).n/\∀j,j<(s.on.r i).n->(x.on.r i).z j=if i=b/\j=g then seen else(s.on.r i).z j:=by
 have a:=h.pos.al.on;have k:x.on.n=s.on.n:=e.on.1.trans a.1;refine⟨k,λi hi => ?_⟩;have f:=e.on.2 i (by rw[k];exact hi);have a1:=a.2 i (by rw[a.1];exact hi);have l:((nw s b g seen).on.r i).n=(s.on.r i).n:=rd (i6 s b g (er s b g seen)) b g seen i;have d:(x.on.r i).n=(s.on.r i).n:=f.1.trans (a1.1.trans l);refine⟨d,λj c => ?_⟩;rw[f.2 j (by rw[d];exact c),a1.2 j (by rw[a1.1,l];exact c),h.onS]
theorem db.got(h:db p s b g seen)(e:ae x (lw p s b g seen)):x.os.n=s.os.n/\∀o,o<s.os.n->(x.os.z o).ls.n=(s.os.z o).ls.n/\∀k,k<(s.os.z o).ls.n->((x.os.z o).ls.z k).b=((s.os.z o).ls.z k).b:=by
 have a:=h.pos.al;have i:x.os.n=s.os.n:=e.os.1.trans a.osn;refine⟨i,λo d => ?_⟩;have c:=e.os.2 o (by rw[i];exact d);have j:((lw p s b g seen).os.z o).ls.n=(s.os.z o).ls.n:=(a.kind o d).2;refine⟨c.2.1.trans j,λk f => ?_⟩;rw[c.2.2 k (by rw[c.2.1,j];exact f),(a.line o d k f).2.2]
 rfl
theorem db.num(h:db p s b g seen)(e:ae x (lw p s b g seen)):(x.on.r b).z g=seen:=by
 have a:b<s.on.n:=by rw[h.r.fm.sh.n];exact h.bn
 have l:=h.r.fm.sh.len b a;have k:=((h.on e).2 b a).2 g (by rw[l];exact h.gn);rw[k,if_pos ⟨rfl,rfl⟩]
theorem db.again(h:db p s b g seen)(e:ae x (lw p s b g seen)):db p x b g seen/\ae (lw p x b g seen) x:=by
 have c:au p x:=e.right (Ea h);have n:=h.num e;have f:=c.fm.sfb g h.gn;have I:db p x b g seen:=⟨c,h.bn,h.gn,h.s0,h.s1,by rw[n];omega⟩;refine⟨I,?_⟩;have m:er x b g seen=0:=by
  have k:=I.bound;have a:=(kq (c.goods g h.gn)).2 b h.bn;unfold er;rw[k.2,n];omega
 exact(J4 I m).trans (Uf n)
theorem db.left(h:db p s b g seen)(e:ae x (lw p s b g seen)):ar x b g=max (seen-m9 s b g) 0:=by
 rw[e.avail (Ea h).fm h.bn h.gn,(h.pos.al.av b g h.bn h.gn).2 rfl,h.av]
theorem db.more(h:db p s b g seen)(e:ae x (lw p s b g seen))(a:(s.on.r b).z g-ar s b g<=seen):(x.hs.n=s.hs.n/\∀j,j<x.hs.n->x.hs.z j=s.hs.z j)/\x.ms.n=s.ms.n/\∀j,j<x.ms.n->x.ms.z j=s.ms.z j:=by
 have m:er s b g seen=0:=by
  have k:=h.bound;unfold er;omega
 have k:=e.trans (J4 h m);exact⟨k.hs,k.ms⟩
theorem Ir{h k:Hs}(b:h.n=k.n)(a:∀j,j<h.n->h.z j=k.z j):cx h.z h.n=cx k.z k.n:=by
 rw[<-b];exact nx a
theorem Hp{f g:Hd->Bool}:∀{R:List Hd} {m:Int},(∀x,x∈R->f x=g x)->iq f m R=iq g m R
 | [],_,_=>rfl
 | h :: R,m,e=>by
  show(if f h then _ else _)=if g h then _ else _;rw[e h List.mem_cons_self,Hp (m:=m-min m h.n) λx hx=>e x (List.mem_cons_of_mem _ hx),Hp (m:=m) λx hx=>e x (List.mem_cons_of_mem _ hx)]
theorem G8{f g:Hd->Bool}{o l:Int}:∀{R:List Hd} {m:Int},(∀x,x∈R->f x=g x)->ky f m R o l=ky g m R o l
 | [],_,_=>rfl
 | h :: R,m,e=>by
  show(if f h then _ else _)=if g h then _ else _;rw[e h List.mem_cons_self,G8 (m:=m-min m h.n) λx hx=>e x (List.mem_cons_of_mem _ hx),G8 (m:=m) λx hx=>e x (List.mem_cons_of_mem _ hx)]
theorem O0(f:cw p s)(e:ae y s)(b g M:Int):ae (i6 y b g M) (i6 s b g M)/\∀o l,eu y b g M o l=eu s b g M o l:=by
 have d:pd y=pd s:=Ir e.ms.1 e.ms.2;have k:l7 y=l7 s:=Ir e.hs.1 e.hs.2;have h:ij y b g M=ij s b g M:=by unfold ij;rw[d]
 have r:∀x,x∈l7 s->cd y b g x=cd s b g x:=λx hx=>by
  obtain⟨j,a,rfl⟩:=wi hx;obtain⟨B,D,-⟩:=iu (f.home j a);unfold cd jo;rw[e.line B.2 D.2]
 have q:∀o l,eu y b g M o l=eu s b g M o l:=λo l=>by
  unfold eu;rw[h,k];exact G8 r
 have A:cx (cq (cd y b g) y.hs (ij y b g M)).z (cq (cd y b g) y.hs (ij y b g M)).n=cx (cq (cd s b g) s.hs (ij s b g M)).z (cq (cd s b g) s.hs (ij s b g M)).n:=by
  rw[ld,ld,h];have c:cx y.hs.z y.hs.n=cx s.hs.z s.hs.n:=k;have v:iq (cd y b g) (ij s b g M) (cx s.hs.z s.hs.n)=iq (cd s b g) (ij s b g M) (cx s.hs.z s.hs.n):=Hp r;rw[c,v]
 have u:cx (cq (ct b g) y.ms M).z (cq (ct b g) y.ms M).n=cx (cq (ct b g) s.ms M).z (cq (ct b g) s.ms M).n:=by
  rw[ld,ld];have c:cx y.ms.z y.ms.n=cx s.ms.z s.ms.n:=d;rw[c]
 refine⟨⟨e.on,⟨e.os.1,λi hi => ?_⟩,yw A,yw u,e.si,e.so,e.sf⟩,q⟩;have t:i<y.os.n:=hi;have w:=e.os.2 i t;refine⟨w.1,w.2.1,λj a => ?_⟩;have m:j<(y.os.z i).ls.n:=a;show tq ((y.os.z i).ls.z j) (eu y b g M i j)=tq ((s.os.z i).ls.z j) (eu s b g M i j);rw[w.2.2 j m,q]
theorem Ug{a c:St}(e:ae a c){seen:Int}(h:(a.on.r b).z g=(c.on.r b).z g)(i:a.sf.z g=c.sf.z g):ae (jl a b g seen) (jl c b g seen):=by
 have k:=xr e b g seen;refine⟨k.on,k.os,k.hs,k.ms,k.si,k.so,⟨k.sf.1,λj f => ?_⟩⟩;have d:j<a.sf.n:=f;show(if j=g then a.sf.z g+(seen-(a.on.r b).z g) else a.sf.z j)=if j=g then c.sf.z g+(seen-(c.on.r b).z g) else c.sf.z j;rw[h,i,e.sf.2 j d]
theorem QIn.same{but:Int}{q g:Nat->Nat->Int}(Q:QIn p but q s)(e:ae y s)(i:∀a b,a<s.os.n->b<(s.os.z a).ls.n->g a b=q a b):QIn p but g y:=by
 refine⟨e.right Q.r,λa b h f => ?_,Q.bt⟩;have d:a<s.os.n:=by rw[<-e.os.1];exact h
 have k:=e.os.2 a h;have c:b<(s.os.z a).ls.n:=by rw[<-k.2.1];exact f
 rw[i a b d c,k.1,k.2.2 b f];exact Q.q0 a b d c
end
section
variable {p:Pl} {s x:St} {o l b:Nat} {n:Int}
structure Ex(p:Pl)(s x:St)(o l b:Nat)(n:Int):Prop where
 r:au p x
 osn:x.os.n=s.os.n
 lns:∀i,i<s.os.n->(x.os.z i).ls.n=(s.os.z i).ls.n
 other:∀i,i<s.os.n->∀j,j<(s.os.z i).ls.n->¬(i=o/\j=l)->(x.os.z i).ls.z j=(s.os.z i).ls.z j/\keptS x.hs.z i j x.hs.n=keptS s.hs.z i j s.hs.n
 mine:((x.os.z o).ls.z l).b=((s.os.z o).ls.z l).b+n/\((x.os.z o).ls.z l).o=((s.os.z o).ls.z l).o
 closed:((x.os.z o).k==2) = !aw (x.os.z o).ls.n (λj=>js ((x.os.z o).ls.z j))
 kind:(x.os.z o).k=1\/(x.os.z o).k=2
 gone:keptV x.hs.n x.hs.z o l b=0
 short:((s.os.z o).ls.z l).n<((x.os.z o).ls.z l).n->∀c:Nat,c<p.nb->¬c=b->ar x c (ce s o l)=0
theorem ae.keptV(h:ae x s)(a b c:Int):Go.Proofs.YtbcacebifpagpafGreat.keptV x.hs.n x.hs.z a b c=Go.Proofs.YtbcacebifpagpafGreat.keptV s.hs.n s.hs.z a b c:=by
 rw[h.hs.1];exact yb (λj d=>h.hs.2 j (by rw[h.hs.1];exact d)) a b c
theorem Ex.same(h:Ex p s y o l b n)(e:ae x y)(d:o<s.os.n)(m:l<(s.os.z o).ls.n)(q:ce s o l<p.ns):Ex p s x o l b n:=by
 have g:∀i,i<s.os.n->i<x.os.n:=λi hi=>by rw[e.os.1,h.osn];exact hi
 have f:=e.os.2 o (g o d);have ln:∀i,i<s.os.n->∀j,j<(s.os.z i).ls.n->(x.os.z i).ls.z j=(y.os.z i).ls.z j:=λi hi j a=>e.line (by rw[h.osn];exact hi) (by rw[h.lns i hi];exact a);refine⟨e.right h.r,e.os.1.trans h.osn,λi hi=>(e.os.2 i (g i hi)).2.1.trans (h.lns i hi),λi hi j a t => ?_,?_,?_,?_,?_,λhs c hc k => ?_⟩
 .rw[ln i hi j a,e.kept];exact h.other i hi j a t
 .rw[ln o d l m];exact h.mine
 .rw[f.1,h.closed,f.2.1];exact congrArg not (nz λj a=>by rw[ln o d j (by rw[<-h.lns o d];exact a)])
 .rw[f.1];exact h.kind
 .rw[e.keptV];exact h.gone
 rw[ln o d l m] at hs;rw[e.avail h.r.fm hc q];exact h.short hs c hc k
theorem Ex.sum(h:Ex p s x o l b n)(d:o<x.os.n)(c:l<(x.os.z o).ls.n):((x.os.z o).ls.z l).b+((x.os.z o).ls.z l).n+keptS x.hs.z o l x.hs.n=((x.os.z o).ls.z l).l:=by
 rcases h.kind with k|k
 .exact(Kh h.r d c k).1
 have w:=h.r.orders o d;unfold cg at w;rw[Xxq] at w;have a:cp (x.os.z o).k ((x.os.z o).ls.z l) (keptS x.hs.z o l x.hs.n)=false:=dj w.2 l c;unfold cp at a;rw[k,if_neg (by decide),if_pos rfl] at a;simp only[Xxq,Bool.not_eq_false',beq_iff_eq] at a;omega
end
theorem lg.none{but:Int}{n:Int}(h:iy p y i j n)(e:∀c:Nat,c<p.nb->¬((c:Nat):Int)=but->ar y c ((y.os.z i).ls.z j).o.toNat=0)(T:lg p but y i j n x):ae x y:=by
 have k:=h.tkw (but:=but);have b:∀c,(Tk.go (avT y i j) n (fc p but)).took c=0:=λc=>by
  by_cases a:c∈fc p but
  .have w:=jz.way _ a;have u:=e c.toNat (by omega) (by rw[show((c.toNat:Nat):Int)=c by omega];exact(vv.1 a).2);have v:=k.had _ a;have g:=k.took0 c;have d:avT y i j c=0:=u;rw[d] at v;omega
  exact k.other _ a
 have f:=k.sum;rw[um λc hc=>b c] at f;exact ep.same T (ep.congr (ep.start (n:=n) h.fm.hold (ae.self y)) (show(Tk.go (avT y i j) n (fc p but)).left=n by omega) b)
section
variable {p:Pl} {s x z:St}
theorem jw.kind(r:au p s)(h:jw p s x)(hi:i<x.os.n):¬(x.os.z i).k=0/\(x.os.z i).ls.n=(s.os.z i).ls.n:=by
 have P:=h.pos r;have hs:i<s.os.n:=by have:=P.al.osn;exact this▸hi
 have k:=P.al.kind i hs;refine⟨λe => ?_,k.2.trans (mh s i).symm⟩;rw[k.1] at e;have a:(ie s.os.n i (s.os.z i)).k=0:=e;unfold ie at a;by_cases c:i<s.os.n/\(s.os.z i).k=0
 .rw[if_pos c] at a;cases a
 rw[if_neg c] at a;exact c ⟨hs,a⟩
theorem jw.none(r:au p s)(h:jw p s x)(hi:i<x.os.n)(e:j<(x.os.z i).ls.n)(b:(x.os.z i).k=1)(d:0<((x.os.z i).ls.z j).n){c:Nat}(hc:c<p.nb):ar x c ((x.os.z i).ls.z j).o.toNat=0:=by
 have P:=h.pos r;have hs:i<s.os.n:=by have:=P.al.osn;exact this▸hi
 have k:=P.al.kind i hs;have a:j<((dh s s.os.n).os.z i).ls.n:=by rw[<-k.2];exact e
 have q:pk s i j=(((dh s s.os.n).os.z i).ls.z j).n:=if_pos (k.1.symm.trans b);rw[(P.al.line i hs j a).1];exact P.none i j hs a (Or.inl hs) q d c hc (by omega)
theorem U3(r:au p s)(h:jw p s x):dh x x.os.n=x:=by
 unfold dh;have e:(λi=>ie x.os.n i (x.os.z i))=x.os.z:=funext λi=>if_neg (λe=>(h.kind r e.1).1 e.2);rw[e]
theorem jw.again(r:au p s)(h:jw p s x)(k:jw p x z):ae x z:=by
 have m:=(h.pos r).al.r;have e:=U3 r h;have Q:=uu m;have v:∀a,a<(dh x x.os.n).os.n->vy x a=((dh x x.os.n).os.z a).ls.n:=λa _=>mh x a;have row:∀i,i<x.os.n->∀y,ae y x->Pos p (-1) (pk x) (dh x x.os.n) i 0 y->∀j,j<=(x.os.z i).ls.n->∀d,kt p (-1) (pk x) i y j d->ae d x:=λi hi y o P j=>by
  induction j with
  | zero =>
   intro _ d w;have A:d=y:=w;rw[A];exact o
  | succ j ih =>
   intro t d ⟨u,hu,T⟩;have g:=ih (by omega) u hu;have I:=(kt.pos Q P hi (by rw[<-mh];show j<=(x.os.z i).ls.n;omega) hu).stepIn Q hi (by rw[<-mh];exact t);have b:j<(x.os.z i).ls.n:=by omega
   by_cases f:pk x i j=0
   .rw[f] at I T;exact(lg.zero I.tki T).trans g
   have q:pk x i j=((x.os.z i).ls.z j).n/\(x.os.z i).k=1:=by
    unfold pk at f ⊢;rw[e] at f ⊢;by_cases c:(x.os.z i).k=1
    .rw[if_pos c];exact⟨rfl,c⟩
    rw[if_neg c] at f;exact absurd rfl f
   have q0:=I.n0;refine(lg.none I.tki (λc hc _ => ?_) T).trans g;have B:=(dz (m.fm.line i hi j b)).1;rw[g.line hi b,g.avail m.fm hc (by omega)];exact h.none r hi b q.2 (by omega) hc
 have all:∀i,i<=x.os.n->∀y,ig p (-1) (pk x) (vy x) (dh x x.os.n) i y->ae y x:=λi=>by
  induction i with
  | zero =>
   intro _ y o;have l:ae y (dh x x.os.n):=o;rw[e] at l;exact l
  | succ i ih =>
   intro hi y ⟨u,hu,hr⟩;exact row i (by omega) u (ih (by omega) u hu) (ig.pos Q v (Nat.le_of_succ_le hi) hu) (vy x i) nlr y hr
 exact(all x.os.n nlr z k).symm
theorem jw.first(r:au p s)(h:jw p s x){a c d:Nat}(t:a<c)(e:c<s.os.n)(m:b<(s.os.z a).ls.n)(i:d<(s.os.z c).ls.n)(l:(x.os.z a).k=1)(u:¬((x.os.z a).ls.z b).n=0)(j:((x.os.z a).ls.z b).o=((x.os.z c).ls.z d).o):keptS x.hs.z c d x.hs.n=keptS s.hs.z c d s.hs.n:=by
 have P:=h.pos r;have hs:a<s.os.n:=by omega
 have k:=P.al.kind a hs;have f:b<((dh s s.os.n).os.z a).ls.n:=by rw[<-mh];exact m
 have g:d<((dh s s.os.n).os.z c).ls.n:=by rw[<-mh];exact i
 have q:pk s a b=(((dh s s.os.n).os.z a).ls.z b).n:=if_pos (k.1.symm.trans l);have n0:=(z6 P.al.r (by rw[P.al.osn];exact hs) (by rw[k.2];exact f)).1;rw[(P.al.line a hs b f).1,(P.al.line c e d g).1] at j;exact P.first a b hs f c d e g (Or.inl t) (Or.inl e) q (by omega) j
end
theorem Bi(s:St)(o:Nat)(a b c:Int):keptV (dt s o).hs.n (dt s o).hs.z a b c=if a=o then 0 else keptV s.hs.n s.hs.z a b c:=by
 by_cases h:a=o
 .rw[if_pos h];exact(Lx s.hs (λx=>x.o==(o:Int)) (B:=true) (λx d=>by rw[(fi d).1,h];simp)).trans (if_pos rfl)
 rw[if_neg h];exact(Lx s.hs (λx=>x.o==(o:Int)) (B:=false) (λx d=>by rw[(fi d).1];simpa using h)).trans (if_neg (by decide))
theorem H5(d:aw s.hs.n (da s.hs.z)=false)(o:Nat)(a b:Int):keptS (dt s o).hs.z a b (dt s o).hs.n=if a=o then 0 else keptS s.hs.z a b s.hs.n:=by
 have hx:aw (dt s o).hs.n (da (dt s o).hs.z)=false:=J1 _ d;rw[<-xh _ a b _ hx,<-xh _ a b _ d];by_cases h:a=o
 .rw[if_pos h];exact um λc _=>by rw[Bi,if_pos h]
 rw[if_neg h];exact sy λc _=>by rw[Bi,if_neg h]
theorem D3(s:St)(o i j:Nat):(((dt s o).os.z i).ls.z j).o=((s.os.z i).ls.z j).o/\(((dt s o).os.z i).ls.z j).l=((s.os.z i).ls.z j).l/\(((dt s o).os.z i).ls.z j).b=((s.os.z i).ls.z j).b:=by
 rw[qm];by_cases h:i=o
 .rw[if_pos h];show((if j<_ then vi ((s.os.z i).ls.z j) else(s.os.z i).ls.z j).o=_)/\((if j<_ then vi ((s.os.z i).ls.z j) else(s.os.z i).ls.z j).l=_)/\((if j<_ then vi ((s.os.z i).ls.z j) else(s.os.z i).ls.z j).b=_)
  split<;>exact⟨rfl,rfl,rfl⟩
 rw[if_neg h];exact⟨rfl,rfl,rfl⟩
theorem Hr(a:j<(s.os.z o).ls.n):(((dt s o).os.z o).ls.z j).n=((s.os.z o).ls.z j).l-((s.os.z o).ls.z j).b:=by
 rw[qm,if_pos rfl];show(if j<_ then vi ((s.os.z o).ls.z j) else(s.os.z o).ls.z j).n=_;rw[if_pos a]
 rfl
theorem ye(s:St)(o i:Nat):((dt s o).os.z i).ls.n=(s.os.z i).ls.n:=by
 rw[qm]
 split<;>rfl
theorem Gz(r:au p s)(w:o<s.os.n):cw p (dt s o):=by
 have f:=r.fm;have hx:aw (dt s o).hs.n (da (dt s o).hs.z)=false:=J1 _ f.hold;refine⟨f.sh,f.sh0,f.os4,f.ms8,λi hi=>by rw[ye];exact f.lns i hi,λi hi => ?_,λi hi j m => ?_,hx,λi hi => ?_,f.move,f.sin,f.son,f.sfn,f.sib,f.sob,f.sfb⟩
 .rw[qm]
  split
  .exact⟨(by decide:(0:Int)<=2),(by decide:(2:Int)<=2)⟩
  exact f.kind i hi
 .have a:j<(s.os.z i).ls.n:=by rw[<-ye s o];exact m
  obtain⟨b1,b2,b3,b4⟩:=dz (f.line i hi j a);have g:=D3 s o i j;by_cases h:i=o
  .subst h;have e:=Hr (s:=s) a;unfold jx;rw[bq (by omega),bq (by omega),bq (by omega),bq (by omega)]
   rfl
  rw[qm,if_neg h];exact f.line i hi j a
 have e:=(nl hx hi (uv _)).1;rw[Bi] at e;have fn:=(cy (bw hx i hi)).2.2.2
 split at e
 .omega
 obtain⟨v,u,-⟩:=rm f.hold (o:=((dt s o).hs.z i).o) (l:=((dt s o).hs.z i).l) (b:=((dt s o).hs.z i).b) (by omega);obtain⟨q,t,k⟩:=fi u;obtain⟨a1,c,d⟩:=iu (f.home _ v);rw[q] at a1 c;rw[t] at c;rw[k] at d;refine pe a1 ⟨c.1,?_⟩ d;rw[ye];exact c.2
theorem J8{z z':Nat->Int}:∀{k:Nat},(∀i,i<k->z i<=z' i)->cv z k<=cv z' k
 | 0,_=>Int.le_refl _
 | k+1,h=>by
  have:=J8 (k:=k) λi hi=>h i (by omega);have:=h k (by omega);simp only[cv];omega
theorem R7(r:au p s)(c:o<s.os.n)(b g:Int):ca (dt s o) b g (dt s o).hs.n<=ca s b g s.hs.n:=by
 have f:=r.fm;have fx:=Gz r c;rw[sk b g _ fx.home fx.hold,sk b g _ f.home f.hold];unfold Ak;refine J8 λi hi => ?_;rw[ye];refine J8 λj a => ?_;unfold ko;rw[(D3 s o i j).1,Bi];have d:=(Cz (λj a=>(cy (bw f.hold j a)).2.2.2) (i:Int) (j:Int) b).1
 split
 .split<;>omega
 omega
theorem Rv(r:au p s)(c:o<s.os.n):au p (dt s o):=by
 refine⟨Gz r c,λg q => ?_,λi hi => ?_⟩
 .obtain⟨a1,v⟩:=kq (r.goods g q);refine rt a1 λb t => ?_;have A:=R7 r c b g;have u:=v b t;unfold ar at u ⊢;have e:az (dt s o) b g (dt s o).ms.n=az s b g s.ms.n:=ow (x:=dt s o) (s:=s) (λj _=>rfl);rw[e];have m:((dt s o).on.r b).z g=(s.on.r b).z g:=rfl;rw[m];omega
 have d:i<s.os.n:=hi;have w:=r.orders i d;unfold cg at w ⊢;rw[Xxq] at w ⊢;by_cases h:i=o
 .subst h;have y:((dt s i).os.z i).k=2:=by rw[qm,if_pos rfl]
  rw[y];refine⟨rfl,cu λj a => ?_⟩;have f:j<(s.os.z i).ls.n:=by rw[<-ye s i];exact a
  have g:=D3 s i i j;have e:=Hr (s:=s) f;have k:=H5 r.fm.hold i i j;rw[if_pos rfl] at k;unfold cp;rw[if_neg (by decide),if_pos rfl,k];simp only[Xxq,Bool.not_eq_false',beq_iff_eq];exact⟨by omega,trivial⟩
 have e:(dt s o).os.z i=s.os.z i:=by rw[qm,if_neg h]
 rw[e];refine⟨w.1,cu λj a => ?_⟩;have l:=dj w.2 j a;rw[H5 r.fm.hold,if_neg (by omega)];exact l
theorem zw{order:Int}(h:fu p s order=0):ah p s=0/\(0<=order/\order.toNat<s.os.n)/\¬(s.os.z order.toNat).k=2:=by
 by_cases a:ah p s=0
 .cases b:inB order 0 ((s.os.n:Int)-1)
  .rw[Dc a b] at h;exact absurd h (by decide)
  by_cases c:(s.os.z order.toNat).k=2
  .rw[Cx a b c] at h;exact absurd h (by decide)
  have:=aq b;exact⟨a,by omega,c⟩
 rw[ur a] at h;exact absurd h a
structure Ax where
 k:Int
 a:Int
 b:Int
 c:Int
 n:Int
 ls:Hs
def Ax.cells(x:Ax):Array Value:=#[.int .i64 x.k,.int .i64 x.a,.int .i64 x.b,.int .i64 x.c,.int .i64 x.n,.slice x.ls.a x.ls.n x.ls.c]
def Ax.val(x:Ax):Value := .agg x.cells
def doE(p:Pl)(s:St)(x:Ax):Int :=
 if x.k=1 then gw p s x.a x.b x.n else if x.k=2 then gp p s x.ls else if x.k=3 then ah p s else if x.k=4 then fu p s x.a else if x.k=5 then ir p s x.a x.b x.c x.n else if x.k=6 then ah p s else if x.k=7 then fp p s x.a x.n else if x.k=8 then fg p s x.a x.b x.n else 8
def doT(p:Pl)(s:St)(x:Ax):St :=
 if x.k=1 then li s x.a.toNat x.b.toNat x.n else if x.k=2 then kj s x.ls else if x.k=3 then Eh p s else if x.k=4 then dt s x.a.toNat else if x.k=5 then pb p s x.a.toNat x.b.toNat x.c.toNat x.n else if x.k=6 then yp p s else if x.k=7 then je s x.a.toNat x.n else lw p s x.a.toNat x.b.toNat x.n
section
variable {p:Pl} {s:St} {x:Ax}
theorem Zp(P:Int->St->Prop)(y:x.k=1->P (gw p s x.a x.b x.n) (li s x.a.toNat x.b.toNat x.n))(t:x.k=2->P (gp p s x.ls) (kj s x.ls))(r:x.k=3->P (ah p s) (Eh p s))(m:x.k=4->P (fu p s x.a) (dt s x.a.toNat))(w:x.k=5->P (ir p s x.a x.b x.c x.n) (pb p s x.a.toNat x.b.toNat x.c.toNat x.n))(o:x.k=6->P (ah p s) (yp p s))(q:x.k=7->P (fp p s x.a x.n) (je s x.a.toNat x.n))(v:x.k=8->P (fg p s x.a x.b x.n) (lw p s x.a.toNat x.b.toNat x.n))(u:¬x.k=1->¬x.k=2->¬x.k=3->¬x.k=4->¬x.k=5->¬x.k=6->¬x.k=7->¬x.k=8->P 8 (lw p s x.a.toNat x.b.toNat x.n)):P (doE p s x) (doT p s x):=by
 unfold doE doT;by_cases f:x.k=1
 .rw[if_pos f,if_pos f];exact y f
 rw[if_neg f,if_neg f];by_cases e:x.k=2
 .rw[if_pos e,if_pos e];exact t e
 rw[if_neg e,if_neg e];by_cases j:x.k=3
 .rw[if_pos j,if_pos j];exact r j
 rw[if_neg j,if_neg j];by_cases d:x.k=4
 .rw[if_pos d,if_pos d];exact m d
 rw[if_neg d,if_neg d];by_cases g:x.k=5
 .rw[if_pos g,if_pos g];exact w g
 rw[if_neg g,if_neg g];by_cases h:x.k=6
 .rw[if_pos h,if_pos h];exact o h
 rw[if_neg h,if_neg h];by_cases i:x.k=7
 .rw[if_pos i,if_pos i];exact q i
 rw[if_neg i,if_neg i];by_cases l:x.k=8
 .rw[if_pos l];exact v l
 rw[if_neg l];exact u f e j d g h i l
theorem Mn{order line bin n:Int}(h:ir p s order line bin n=0):k9 p s order.toNat line.toNat bin.toNat n:=by
 obtain⟨-,o,l,b,rfl,rfl,rfl,hi⟩:=Lm h;exact hi
theorem Ju{k n:Int}(h:fp p s k n=0):∃(f b g:Nat) (N:Int),pa p s k.toNat f b g N n:=by
 obtain⟨-,i,f,b,g,N,rfl,hi⟩:=S2 h;exact⟨f,b,g,N,hi⟩
theorem Jj{bin good seen:Int}(h:fg p s bin good seen=0):db p s bin.toNat good.toNat seen:=by
 obtain⟨-,b,g,rfl,rfl,hi⟩:=Ta h;exact hi
theorem Zk{bin good n:Int}(h:gw p s bin good n=0):au p (li s bin.toNat good.toNat n):=by
 obtain⟨c,f,e,a,-,d,b⟩:=Jn h;exact Vf (ew c) (by omega) (by omega) a.1 d b
theorem Q6:doE p s x=0->au p s/\au p (doT p s x):=by
 refine Zp (λE T=>E=0->au p s/\au p T) ?_ ?_ ?_ ?_ ?_ ?_ ?_ ?_ ?_
 .exact λ_ h=>⟨ew (Uk h),Zk h⟩
 .exact λ_ h=>⟨ew (Jp h).1,R5 h⟩
 .exact λ_ h=>⟨ew h,Vk (ew h)⟩
 .exact λ_ h=>⟨ew (zw h).1,Rv (ew (zw h).1) (zw h).2.1.2⟩
 .exact λ_ h=>⟨ew (Lm h).1,Tv (Mn h)⟩
 .exact λ_ h=>⟨ew h,(Wd (ew h)).r⟩
 .exact λ_ h=>⟨ew (S2 h).1,by obtain⟨f,b,g,N,hi⟩:=Ju h;exact Sw hi⟩
 .exact λ_ h=>⟨ew (Ta h).1,Ea (Jj h)⟩
 exact λ_ _ _ _ _ _ _ _ h=>absurd h (by decide)
theorem Ze(h:doE p s x=0):(doT p s x).os.n<=1000/\(doT p s x).ms.n<=1000/\∀i,i<(doT p s x).os.n->((doT p s x).os.z i).ls.n<=1000:=(Q6 h).2.bound
end
theorem aav{b:World}(h:Dj y)(a:y.At b)(c:World):y.At c:=by
 obtain⟨l,j,g,d,k,e,f⟩:=h;exact⟨⟨a.on.le,a.on.cap,λi hi=>absurd hi (by omega)⟩,⟨a.os.le,a.os.cap,λi hi=>absurd hi (by omega)⟩,⟨a.hs.le,a.hs.cap,λi hi=>absurd hi (by omega),a.hs.nilc⟩,⟨a.ms.le,a.ms.cap,λi hi=>absurd hi (by omega),a.ms.nilc⟩,⟨a.si.le,a.si.cap,λi hi=>absurd hi (by omega)⟩,⟨a.so.le,a.so.cap,λi hi=>absurd hi (by omega)⟩,⟨a.sf.le,a.sf.cap,λi hi=>absurd hi (by omega)⟩⟩
theorem qf{T:St}(h:dv r T y)(b:y.At c)(d:r=0->ai A a y):y.At a:=by
 by_cases e:r=0
 .exact(d e).at
 exact aav (h.2 e) b a
theorem He{f:Hd->Bool}:∀{R:List Hd} {m:Int},vh R->fh f R<=m->iq f (m+1) R=iq f m R
 | [],_,_,_=>rfl
 | h :: R,m,p,hs=>by
  have b:=p.head;have d:=Aj (P:=f) p.tail;by_cases c:f h=true
  .have e:∀k,iq f k (h :: R)=i5 h (min k h.n) :: iq f (k-min k h.n) R:=λk=>if_pos c;have a:fh f (h :: R)=fh f R+h.n:=by show _+(if f h then _ else _)=_;rw[if_pos c]
   rw[a] at hs;rw[e,e,show min (m+1) h.n=h.n by omega,show min m h.n=h.n by omega,show m+1-h.n=m-h.n+1 by omega,He p.tail (by omega)]
  have e:∀k,iq f k (h :: R)=h :: iq f k R:=λk=>if_neg c;have a:fh f (h :: R)=fh f R:=by show _+(if f h then _ else _)=_;rw[if_neg c,Int.add_zero]
  rw[a] at hs;rw[e,e,He p.tail hs]
theorem yv{f:Hd->Bool}{z:Nat->Hd}:∀{n:Nat},jy f z n=none->fh f (cx z n)=0
 | 0,_=>rfl
 | n+1,h=>by
  have k:=N7 h;have c:f (z n)=false:=k n (by omega);have b:jy f z n=none:=by
   have a:(if f (z n) then some n else jy f z n)=none:=h;rw[if_neg (by rw[c];decide)] at a;exact a
  show fh f (cx z n)+(if f (z n) then(z n).n else 0)=0;rw[yv b,if_neg (by rw[c];decide)]
  rfl
theorem yt{f:Hd->Bool}{z:Nat->Hd}:∀{n k:Nat},(∀x,x∈cx z n->1<=x.n)->jy f z n=some k->1<=fh f (cx z n)
 | 0,_,_,h=>by cases h
 | n+1,k,p,h=>by
  have a:∀x,x∈cx z n->1<=x.n:=λx hx=>p x (List.mem_cons_of_mem _ hx);have d:=Aj (P:=f) (R:=cx z n) λx hx=>by have:=a x hx;omega
  have b:(if f (z n) then some n else jy f z n)=some k:=h;show 1<=fh f (cx z n)+(if f (z n) then(z n).n else 0);by_cases c:f (z n)=true
  .have:=p (z n) List.mem_cons_self;rw[if_pos c];omega
  rw[if_neg c] at b ⊢;have:=yt a b;omega
theorem Mv{f f':Hd->Bool}{z:Nat->Hd}:∀{n:Nat},(∀j,j<n->f' (z j)=f (z j))->jy f' z n=jy f z n
 | 0,_=>rfl
 | n+1,h=>by
  show(if f' (z n) then some n else jy f' z n)=if f (z n) then some n else jy f z n;rw[h n (by omega),Mv (n:=n) λj a=>h j (by omega)]
def uo(h m:Hs)(k:Nat):Prop:=if (h.z k).n=1 then m.n=h.n-1/\(∀i,i<m.n->m.z i=fs h.z k i) else m.n=h.n/\∀i,i<m.n->m.z i=gz h.z k 1 i
theorem uo.rev{f:Hd->Bool}{h m:Hs}{k:Nat}(a:jy f h.z h.n=some k)(c:uo h m k):cx m.z m.n=H7 f (cx h.z h.n):=by
 have l:=Cq a;unfold uo at c;by_cases e:(h.z k).n=1
 .rw[if_pos e] at c;obtain⟨q,b⟩:∃q,h.n=q+1:=⟨h.n-1,by omega⟩;rw[b] at a ⊢;rw[<-Qd a e,show m.n=q by omega];exact nx λj d=>c.2 j (by omega)
 rw[if_neg e] at c;rw[<-Qn a e,c.1];exact nx λj d=>c.2 j (by omega)
section
variable {p:Pl} {s x:St} {b g:Nat} {seen J:Int}
def mx(s:St)(b g:Nat)(seen J:Int)(x:St):Prop:=ae x (jl (i6 s b g J) b g seen)
theorem mx.start(r:au p s)(o:b<p.nb)(l:g<p.ns)(h:ae x s):mx s b g seen 0 (jl x b g seen):=by
 have c:=h.trans (Rm r b g).symm;have m:(x.on.r b).z g=(s.on.r b).z g:=h.num r.fm o l;refine⟨⟨c.on.1,λi hi => ?_⟩,c.os,c.hs,c.ms,c.si,c.so,⟨c.sf.1,λj d => ?_⟩⟩
 .have f:i<x.on.n:=hi;have k:=c.on.2 i f;have e:=rd x b g seen i;have u:=rd (i6 s b g 0) b g seen i;have t:((jl x b g seen).on.r i).n=(x.on.r i).n:=e;refine⟨e.trans (k.1.trans u.symm),λj d => ?_⟩;rw[ta,ta,k.2 j (by rw[<-t];exact d)]
 have a:j<x.sf.n:=d;show(if j=g then x.sf.z g+(seen-(x.on.r b).z g) else x.sf.z j)=if j=g then s.sf.z g+(seen-(s.on.r b).z g) else s.sf.z j;rw[h.sf.2 j a,m];by_cases q:j=g
 .rw[if_pos q,if_pos q,<-q,h.sf.2 j a]
 rw[if_neg q,if_neg q]
theorem Xc(r:au p s)(a:0<=J)(d:J<=m9 s b g):m9 (i6 s b g J) b g=m9 s b g-J:=by
 have e:=Ra (b:=b) (g:=g) r a b g;have c:=Qy (b:=b) (g:=g) r a b g;have h:=mp (b:=b) (g:=g) r a;have f:=(mt (s:=s) (b:=b) (g:=g) (n:=s.hs.n) r.fm.holdN).1;have i:=(jr (s:=s) (b:=b) (g:=g) (n:=s.ms.n) r.fm.moveN).1;rw[if_pos ⟨rfl,rfl⟩] at e c;unfold m9 at d ⊢;omega
theorem mx.revM(h:mx s b g seen J x):cx x.ms.z x.ms.n=flt (iq (ct b g) J (pd s)):=by
 have e:cx x.ms.z x.ms.n=cx (cq (ct b g) s.ms J).z (cq (ct b g) s.ms J).n:=by
  have n:x.ms.n=(cq (ct b g) s.ms J).n:=h.ms.1;rw[n];exact nx λj a=>h.ms.2 j (by rw[n];exact a)
 rw[e,ld]
 rfl
theorem mx.revH(h:mx s b g seen J x):cx x.hs.z x.hs.n=flt (iq (cd s b g) (ij s b g J) (l7 s)):=by
 have e:cx x.hs.z x.hs.n=cx (cq (cd s b g) s.hs (ij s b g J)).z (cq (cd s b g) s.hs (ij s b g J)).n:=by
  have n:x.hs.n=(cq (cd s b g) s.hs (ij s b g J)).n:=h.hs.1;rw[n];exact nx λj a=>h.hs.2 j (by rw[n];exact a)
 rw[e,ld]
 rfl
theorem Nc{R:List Hd}(p:vh R):∀y,y∈flt R->1<=y.n:=λy a=>by
 unfold flt at a;rw[List.mem_filter] at a;have:=p y a.1;have b:=a.2;unfold sd at b;simp at b;omega
theorem mx.move(r:au p s)(a:0<=J)(h:mx s b g seen J x){k:Nat}(d:jy (ct b g) x.ms.z x.ms.n=some k){m:Hs}(c:uo x.ms m k):mx s b g seen (J+1) (withMoves x m):=by
 have e:=c.rev d;have s1:=yt (by rw[h.revM];exact Nc (Ay _ r.movesP a)) d;rw[h.revM,uk,(ti (re b g) r.movesP a).1] at s1;have o:J+1<=fh (ct b g) (pd s):=by omega
 rw[h.revM,(I8 (re b g) r.moves0 a o).1] at e;have i:cx m.z m.n=cx (cq (ct b g) s.ms (J+1)).z (cq (ct b g) s.ms (J+1)).n:=by rw[e,ld];rfl
 have j:=yw i;have q:az s b g s.ms.n=fh (ct b g) (pd s):=uf s b g s.ms.n;have L:ij s b g (J+1)=ij s b g J:=by
  have a1:=(mp (b:=b) (g:=g) r a).1;have t:=(mp (b:=b) (g:=g) (M:=J+1) r (by omega)).1;omega
 have eq:eu s b g (J+1)=eu s b g J:=by unfold eu;rw[L]
 have l:(jl (i6 s b g (J+1)) b g seen).os=(jl (i6 s b g J) b g seen).os:=by
  show Ev s.os (eu s b g (J+1))=Ev s.os (eu s b g J);rw[eq]
 have f:(jl (i6 s b g (J+1)) b g seen).hs=(jl (i6 s b g J) b g seen).hs:=by
  show cq (cd s b g) s.hs (ij s b g (J+1))=cq (cd s b g) s.hs (ij s b g J);rw[L]
 exact⟨h.on,by rw[l];exact h.os,by rw[f];exact h.hs,j,h.si,h.so,h.sf⟩
theorem mx.noMove(r:au p s)(a:0<=J)(h:mx s b g seen J x)(c:jy (ct b g) x.ms.z x.ms.n=none):fh (ct b g) (pd s)<=J/\ij s b g (J+1)=ij s b g J+1:=by
 have e:=yv c;rw[h.revM,uk,(ti (re b g) r.movesP a).1] at e;have f:az s b g s.ms.n=fh (ct b g) (pd s):=uf s b g s.ms.n;have a1:=(mp (b:=b) (g:=g) r a).1;have d:=(mp (b:=b) (g:=g) (M:=J+1) r (by omega)).1;have i:=(jr (s:=s) (b:=b) (g:=g) (n:=s.ms.n) r.fm.moveN).1;omega
theorem mx.good(r:au p s)(m:0<=J)(h:mx s b g seen J x)(c:j<x.hs.n):cd x b g (x.hs.z j)=cd s b g (x.hs.z j):=by
 have f:=Fs (b:=b) (g:=g) r m;have k:x.hs.n=(i6 s b g J).hs.n:=h.hs.1;have q:x.hs.z j=(i6 s b g J).hs.z j:=h.hs.2 j c;obtain⟨d,a,-⟩:=iu (f.home j (by rw[<-k];exact c));rw[<-q] at d a;have e:=h.line (i:=(x.hs.z j).o.toNat) (j:=(x.hs.z j).l.toNat) d.2 a.2;unfold cd
 congr 2
 unfold jo;rw[e]
 rfl
theorem mx.hold(r:au p s)(y:0<=J)(h:mx s b g seen J x)(K:jy (ct b g) x.ms.z x.ms.n=none){k:Nat}(P:jy (cd x b g) x.hs.z x.hs.n=some k){m:Hs}(c:uo x.hs m k)(W:(x.hs.z k).o=o)(Y:(x.hs.z k).l=l):mx s b g seen (J+1) (setLine (withHolds x m) o l 3 (((x.os.z o).ls.z l).n+1))/\∀a d:Int,eu s b g (J+1) a d=eu s b g J a d+if a=o/\d=l then 1 else 0:=by
 obtain⟨U,L⟩:=h.noMove r y K;have B:=(mp (b:=b) (g:=g) r y).2;have t:jy (cd s b g) x.hs.z x.hs.n=some k:=by rw[<-P];exact(Mv λj q=>h.good r y q).symm
 have e:=c.rev t;have s1:=yt (by rw[h.revH];exact Nc (Ay _ r.holdsP B)) t;rw[h.revH,uk,(ti (Bj s b g) r.holdsP B).1] at s1;have hJ:ij s b g J+1<=fh (cd s b g) (l7 s):=by omega
 obtain⟨M,H,T,q1⟩:=I8 (Bj s b g) r.holds0 B hJ;rw[h.revH,M] at e;have V:cx m.z m.n=cx (cq (cd s b g) s.hs (ij s b g (J+1))).z (cq (cd s b g) s.hs (ij s b g (J+1))).n:=by rw[e,ld,L];rfl
 have S:=yw V;have G:(cx x.hs.z x.hs.n).find? (cd s b g)=some (x.hs.z k):=by rw[N5,t];rfl
 rw[h.revH,T] at G;have E:H=x.hs.z k:=by simpa using G
 have Q:∀a d:Int,eu s b g (J+1) a d=eu s b g J a d+if a=o/\d=l then 1 else 0:=λa d=>by
  unfold eu;rw[L,q1,E,W,Y];by_cases u:a=o/\d=l
  .rw[if_pos u,if_pos ⟨u.1.symm,u.2.symm⟩]
  rw[if_neg u,if_neg (λv=>u ⟨v.1.symm,v.2.symm⟩)]
 refine⟨⟨h.on,⟨h.os.1,λi hi => ?_⟩,S,?_,h.si,h.so,h.sf⟩,Q⟩;rotate_left
 .have e4:cx (cq (ct b g) s.ms (J+1)).z (cq (ct b g) s.ms (J+1)).n=cx (cq (ct b g) s.ms J).z (cq (ct b g) s.ms J).n:=by
   have X:cx s.ms.z s.ms.n=pd s:=rfl;rw[ld,ld,X,He r.movesP U]
  have A:=yw e4;have F:x.ms.n=(cq (ct b g) s.ms J).n:=h.ms.1;refine⟨?_,λj q => ?_⟩
  .show x.ms.n=(cq (ct b g) s.ms (J+1)).n;rw[F,A.1]
  have f:j<x.ms.n:=q;show x.ms.z j=(cq (ct b g) s.ms (J+1)).z j;rw[A.2 j (by rw[A.1,<-F];exact f)];exact h.ms.2 j f
 have D:i<x.os.n:=hi;have w:=h.os.2 i D;rw[qy,(dp i).1];refine⟨w.1,w.2.1,λj q => ?_⟩;rw[oq];have f:j<(x.os.z i).ls.n:=q;have v:(x.os.z i).ls.z j=tq ((s.os.z i).ls.z j) (eu s b g J i j):=w.2.2 j f;show(if i=o/\j=l then Fk ((x.os.z i).ls.z j) 3 _ else(x.os.z i).ls.z j)=tq ((s.os.z i).ls.z j) (eu s b g (J+1) i j);rw[Q];by_cases u:i=o/\j=l
 .rw[if_pos u,if_pos ⟨by omega,by omega⟩,<-u.1,<-u.2,v];show(⟨_,_,_,_+1⟩:Hd)=⟨_,_,_,_+(_+1)⟩;unfold tq;rw[Int.add_assoc]
 rw[if_neg u,if_neg (λe=>u ⟨by omega,by omega⟩),v,Int.add_zero]
end
structure yj(x y:Ax):Prop where
 k:x.k=y.k
 a:x.a=y.a
 b:x.b=y.b
 c:x.c=y.c
 n:x.n=y.n
 ln:x.ls.n=y.ls.n
 lz:∀j,j<y.ls.n->x.ls.z j=y.ls.z j
theorem yj.self(x:Ax):yj x x:=⟨rfl,rfl,rfl,rfl,rfl,rfl,λ_ _=>rfl⟩
section
variable {p:Pl} {s y:St}
theorem U7(r:au p s)(e:ae y s)(bin good n:Int):gw p y bin good n=gw p s bin good n:=by
 unfold gw;rw[if_pos (ka (e.right r)),if_pos (ka r)];cases h:(inB bin 0 ((p.nb:Int)-1)&&inB good 0 ((p.ns:Int)-1)&&inB n 1 200)
 .rfl
 simp only[Xxx] at h;have c:=aq h.1.1;have d:=aq h.1.2;have b:bin.toNat<p.nb:=by omega
 have a:good.toNat<p.ns:=by omega
 rw[e.free r.fm b,e.lying r.fm b a,e.si.2 good.toNat (by rw[e.si.1,r.fm.sin];exact a)]
theorem Ud(r:au p s)(e:ae y s)(c:b<p.nb)(a:g<p.ns)(n:Int):ae (li y b g n) (li s b g n):=by
 unfold li;rw[e.num r.fm c a,e.si.2 g (by rw[e.si.1,r.fm.sin];exact a)];exact Fc (xr e _ _ _) _ _
theorem Sv(r:au p s)(e:ae y s){l a:Hs}(d:a.n=l.n)(c:∀j,j<l.n->a.z j=l.z j):gp p y a=gp p s l:=by
 unfold gp;rw[if_pos (ka (e.right r)),if_pos (ka r),e.os.1,d,nz (f:=λj=>tg p (a.z j)) (g:=λj=>tg p (l.z j)) λj b=>by rw[c j b],nz (f:=λj=>o6 (a.z j)) (g:=λj=>o6 (l.z j)) λj b=>by rw[c j b]]
theorem So(e:ae y s){l a:Hs}(g:a.n=l.n)(m:∀j,j<l.n->a.z j=l.z j):ae (kj y a) (kj s l):=by
 refine⟨e.on,⟨by show y.os.n+1=s.os.n+1;rw[e.os.1],λi hi => ?_⟩,e.hs,e.ms,e.si,e.so,e.sf⟩;have o:i<y.os.n+1:=hi;by_cases c:i=y.os.n
 .have b:i=s.os.n:=c.trans e.os.1;have d:(kj y a).os.z i=⟨0,a⟩:=if_pos c;have f:(kj s l).os.z i=⟨0,l⟩:=if_pos b;rw[d,f];exact⟨rfl,g,λj k=>m j (by rw[<-g];exact k)⟩
 have b:¬i=s.os.n:=λh=>c (h.trans e.os.1.symm);have d:(kj y a).os.z i=y.os.z i:=if_neg c;have f:(kj s l).os.z i=s.os.z i:=if_neg b;rw[d,f];exact e.os.2 i (by omega)
theorem Qv(r:au p s)(e:ae y s)(o:Int):fu p y o=fu p s o:=by
 unfold fu;rw[if_pos (ka (e.right r)),if_pos (ka r),e.os.1];cases h:inB o 0 ((s.os.n:Int)-1)
 .rfl
 have a:=aq h;rw[(e.os.2 o.toNat (by rw[e.os.1];omega)).1]
theorem Gv(e:ae y s)(b:o<s.os.n)(a:l<(s.os.z o).ls.n):ce y o l=ce s o l:=by
 unfold ce;rw[e.line b a]
theorem U5(r:au p s)(e:ae y s)(order line bin n:Int):ir p y order line bin n=ir p s order line bin n:=by
 have d:ev y order line bin=ev s order line bin:=e.keptV _ _ _;unfold ir;rw[if_pos (ka (e.right r)),if_pos (ka r),d];by_cases h:ev s order line bin=0
 .rw[if_pos h,if_pos h]
 rw[if_neg h,if_neg h];obtain⟨o,l,b,rfl,rfl,rfl,hi⟩:=Mf r h;have g:=hi.good;have a:ce y (o:Int).toNat (l:Int).toNat=ce s (o:Int).toNat (l:Int).toNat:=Gv e hi.on hi.ln;have c:y.so.z (ce s (o:Int).toNat (l:Int).toNat)=s.so.z (ce s (o:Int).toNat (l:Int).toNat):=e.so.2 _ (by rw[e.so.1,r.fm.son];exact g.2);rw[a,c]
theorem Om{α:Type}{f g:α->Bool}:∀{l:List α},(∀x,x∈l->f x=g x)->l.find? f=l.find? g
 | [],_=>rfl
 | a :: l,h=>by
  rw[List.find?_cons,List.find?_cons,h a List.mem_cons_self,Om λx hx=>h x (List.mem_cons_of_mem _ hx)]
theorem Sj{h k:Hs}(c:h.n=k.n)(a:∀j,j<h.n->h.z j=k.z j)(o l b:Int)(g:0<k.n):(mn h o l b).n=(mn k o l b).n/\∀j,j<(mn h o l b).n->(mn h o l b).z j=(mn k o l b).z j:=by
 have e:jg h.n h.z o l b=jg k.n k.z o l b:=by
  unfold jg;rw[c,Om λi hi=>by rw[a i (by rw[c];exact List.mem_range.1 hi)]]
 refine⟨by show h.n-1=k.n-1;rw[c],λj d => ?_⟩;have f:j<h.n-1:=d;show fs h.z (jg h.n h.z o l b) j=fs k.z (jg k.n k.z o l b) j;rw[e];unfold fs;rw[a j (by omega),a (j+1) (by omega)]
theorem Uu(e:ae y s){n:Int}(a:ot p s o l b):ae (ch y o l b n) (ch s o l b n):=by
 have f:ev y o l b=ev s o l b:=e.keptV _ _ _;have g:=Gv e a.on a.ln;have c:0<s.hs.n:=by
  apply Classical.byContradiction
  intro h;have i:s.hs.n=0:=by omega
  exact a.kp (by unfold ev;rw[i];rfl)
 have d:=Sj e.hs.1 e.hs.2 o l b c;have k:=Gl e (n:=n) a d.1 d.2;rw[<-g,<-f] at k;exact k
theorem Vh(e:ae y s){n:Int}(h:k9 p s o l b n):ae (pb p y o l b n) (pb p s o l b n):=by
 have S:=Uu (n:=n) e h.hd;have a:ev y o l b=ev s o l b:=e.keptV _ _ _;have g:=Ek S (o:=o) h.hd.on;unfold pb;rw[g,a];by_cases c:j5 (ch s o l b n) o=true
 .rw[if_pos c,if_pos c];exact Gf S _ _
 rw[if_neg c,if_neg c];have T:=h.takeIn;exact lg.same T S (wy T) (wy (T.same S))
theorem Qe(r:au p s)(e:ae y s){f:Nat}(d:b<p.nb)(a:g<p.ns)(h:f<p.nb):ae (nj p b g f y) (nj p b g f s):=by
 unfold nj;rw[Fd e r.fm d a h,e.ms.1];by_cases c:s.ms.n<8/\1<=o5 p s b g f
 .rw[if_pos c,if_pos c];exact C2 e _ (k:=(ix y ⟨g,f,b,o5 p s b g f⟩).ms) rfl (λj i=>if_neg (by omega)) (if_pos rfl)
 rw[if_neg c,if_neg c];exact e
theorem Tq(c:b<p.nb)(d:(p.zb b).front=true)(a:g<p.ns)(L:List (yx p false)):∀{s y:St},gt p x s->ae y s->ae (jp p b g L y) (jp p b g L s):=by
 induction L with
 | nil=>exact λ_ e=>e
 | cons f L ih=>exact λE e=>ih (E.step c d a f.2.1 f.2.2) (Qe E.r e c a f.2.1)
theorem Ms{s0:St}{b:Nat}(c:b<p.nb)(a:(p.zb b).front=true){s y:St}(E:gt p s0 s)(e:ae y s):∀{g:Nat},g<=p.ns->ae (i8 p b g y) (i8 p b g s)
 | 0,_=>e
 | g+1,hg=>by
  have d:=Ms c a E e (g:=g) (by omega);have f:=E.G c a (g:=g) (by omega);simp only[i8];rw[d.lying f.r.fm c (by omega)]
  split
  .exact d
  exact Tq c a (by omega) _ f d
theorem Va(L:List (yx p true)):∀{s y:St},gt p x s->ae y s->ae (mj p L y) (mj p L s):=by
 induction L with
 | nil=>exact λ_ e=>e
 | cons b L ih=>exact λE e=>ih (E.G b.2.1 b.2.2 nlr) (Ms b.2.1 b.2.2 E e nlr)
theorem Vc(r:au p s)(e:ae y s):ae (yp p y) (yp p s):=Va _ (gt.refl r) e
theorem R8(r:au p s)(e:ae y s)(k n:Int):fp p y k n=fp p s k n:=by
 unfold fp;rw[if_pos (ka (e.right r)),if_pos (ka r),e.ms.1];cases h:inB k 0 ((s.ms.n:Int)-1)
 .rfl
 have i:=aq h;have a:k.toNat<s.ms.n:=by omega
 obtain⟨c,f,d,-⟩:=qs (r.fm.move k.toNat a);rw[e.ms.2 k.toNat (by rw[e.ms.1];exact a),e.num r.fm (b:=(s.ms.z k.toNat).b.toNat) (g:=(s.ms.z k.toNat).o.toNat) (by omega) (by omega)]
theorem Su(e:ae y s){k f:Nat}{N n:Int}(h:pa p s k f b g N n):ae (je y k n) (je s k n):=by
 have a:=h.kn;have i:y.ms.z k=⟨g,f,b,N⟩:=(e.ms.2 k (by rw[e.ms.1];exact a)).trans h.m;have d:je y k n=tx y (Bu y.ms k) f b g n:=by
  unfold je;rw[i];simp only[Int.toNat_natCast]
 rw[d];refine Ba h e (by show y.ms.n-1=_;rw[e.ms.1]) λj c => ?_;have l:j<y.ms.n-1:=c;show(if j<k then y.ms.z j else y.ms.z (j+1))=if j<k then s.ms.z j else s.ms.z (j+1);rw[e.ms.2 j (by omega),e.ms.2 (j+1) (by omega)]
theorem R9(r:au p s)(e:ae y s)(bin good seen:Int):fg p y bin good seen=fg p s bin good seen:=by
 unfold fg;rw[if_pos (ka (e.right r)),if_pos (ka r)];cases h:(inB bin 0 ((p.nb:Int)-1)&&inB good 0 ((p.ns:Int)-1)&&inB seen 0 200)
 .rfl
 simp only[Xxx] at h;have c:=aq h.1.1;have d:=aq h.1.2;have b:bin.toNat<p.nb:=by omega
 have a:good.toNat<p.ns:=by omega
 rw[e.num r.fm b a,e.sf.2 good.toNat (by rw[e.sf.1,r.fm.sfn];exact a)]
theorem R3(e:ae y s){seen:Int}(h:db p s b g seen):ae (lw p y b g seen) (lw p s b g seen):=by
 have r:=h.r;have f:(y.on.r b).z g=(s.on.r b).z g:=e.num r.fm h.bn h.gn;have k:y.sf.z g=s.sf.z g:=e.sf.2 g (by rw[e.sf.1,r.fm.sfn];exact h.gn);have l:db p y b g seen:=⟨e.right r,h.bn,h.gn,h.s0,h.s1,by rw[f,k];exact h.fx⟩;have d:er y b g seen=er s b g seen:=by unfold er m9;rw[e.held r.fm,e.from]
 have c:=O0 r.fm e b g (er s b g seen);have S:ae (nw y b g seen) (nw s b g seen):=by
  unfold nw;rw[d];exact Ug c.1 f k
 refine ig.same h.qin (λ_ _=>rfl) (Nat.le_refl s.os.n) h.all ?_;have a:=l.all;rw[e.os.1] at a;refine ig.base (m':=vy y) S (λ_ _=>rfl) (λi hi => ?_) (λi j _ _ => ?_) (Nat.le_refl s.os.n) a
 .exact(e.os.2 i (by rw[e.os.1];exact hi)).2.1
 show eu y b g (er y b g seen) i j=eu s b g (er s b g seen) i j;rw[d,c.2]
theorem aak{x u:Ax}(r:au p s)(e:ae y s)(a:yj u x):doE p y u=doE p s x/\(doE p s x=0->ae (doT p y u) (doT p s x)):=by
 obtain⟨H,F,E,J,G,D⟩:=u;obtain⟨B,A,ab,z,w,o,q⟩:=a;simp only at B A ab z w o q;subst B A ab z w;have hs:ah p y=0:=ka (e.right r);have v:ah p s=0:=ka r;unfold doE doT;dsimp only;by_cases d:x.k=1
 .rw[if_pos d,if_pos d,if_pos d,if_pos d];refine⟨U7 r e _ _ _,λh => ?_⟩;obtain⟨-,L,K,-⟩:=Jn h;exact Ud r e (by omega) (by omega) _
 rw[if_neg d,if_neg d,if_neg d,if_neg d];by_cases c:x.k=2
 .rw[if_pos c,if_pos c,if_pos c,if_pos c];exact⟨Sv r e o q,λ_=>So e o q⟩
 rw[if_neg c,if_neg c,if_neg c,if_neg c];by_cases n:x.k=3
 .rw[if_pos n,if_pos n,if_pos n,if_pos n];exact⟨hs.trans v.symm,λ_=>Wr r e⟩
 rw[if_neg n,if_neg n,if_neg n,if_neg n];by_cases i:x.k=4
 .rw[if_pos i,if_pos i,if_pos i,if_pos i];exact⟨Qv r e _,λh=>Ee e (by rw[e.os.1];exact(zw h).2.1.2)⟩
 rw[if_neg i,if_neg i,if_neg i,if_neg i];by_cases j:x.k=5
 .rw[if_pos j,if_pos j,if_pos j,if_pos j];exact⟨U5 r e _ _ _ _,λh=>Vh e (Mn h)⟩
 rw[if_neg j,if_neg j,if_neg j,if_neg j];by_cases l:x.k=6
 .rw[if_pos l,if_pos l,if_pos l,if_pos l];exact⟨hs.trans v.symm,λ_=>Vc r e⟩
 rw[if_neg l,if_neg l,if_neg l,if_neg l];by_cases m:x.k=7
 .rw[if_pos m,if_pos m,if_pos m,if_pos m];exact⟨R8 r e _ _,λh=>by obtain⟨f,b,g,N,hi⟩:=Ju h;exact Su e hi⟩
 rw[if_neg m,if_neg m,if_neg m,if_neg m];by_cases t:x.k=8
 .rw[if_pos t,if_pos t];exact⟨R9 r e _ _ _,λh=>R3 e (Jj h)⟩
 rw[if_neg t,if_neg t];exact⟨rfl,λh=>absurd h (by decide)⟩
end
def hdN(l:Hd):List Int:=[l.o,l.l,l.b,l.n]
def z8(x:Ax):List Int:=[x.k,x.a,x.b,x.c,x.n,(x.ls.n:Int)]
def sj(z:Nat->Hd):Nat->List Int
 | 0=>[]
 | n+1=>sj z n++hdN (z n)
theorem Gd(z:Nat->Hd):∀n,(sj z n).length=4*n
 | 0=>rfl
 | n+1=>by rw[sj,List.length_append,Gd z n];simp[hdN];omega
def F3(x:Ax):List Int:=z8 x++sj x.ls.z x.ls.n
theorem Za(x:Ax):(F3 x).length=6+4*x.ls.n:=by
 unfold F3;rw[List.length_append,Gd]
 rfl
def vz(x:Ax):Int:=if (F3 x).any sq then 3 else if 3<x.ls.n then 2 else 0
def aa2(x:Ax):List UInt8:=(F3 x).map z9
def Ib(x:Ax):List UInt8:=if vz x=0 then aa2 x else []
def rdL(t:List UInt8)(i:Nat):Hd:=⟨rdN t i,rdN t (i+1),rdN t (i+2),rdN t (i+3)⟩
def rdC(t:List UInt8)(k:Nat):Nat:=(rdN t (k+5)).toNat
theorem aa9(t:List UInt8)(k:Nat):(rdC t k:Int)=rdN t (k+5):=by
 have:=V8 t (k+5);unfold rdC;omega
def rdZ(t:List UInt8)(k j:Nat):Hd:=if j<rdC t k then rdL t (k+6+4*j) else ⟨0,0,0,0⟩
theorem abm{t:List UInt8}{k:Nat}(h:j<rdC t k):rdZ t k j=rdL t (k+6+4*j):=if_pos h
def rdA(t:List UInt8)(k:Nat):Ax:=⟨rdN t k,rdN t (k+1),rdN t (k+2),rdN t (k+3),rdN t (k+4),⟨none,rdC t k,0,rdZ t k⟩⟩
def o7(t:List UInt8)(k:Nat):Nat:=6+4*rdC t k
def ve(t:List UInt8)(k:Nat):Bool:=decide (k+6<=t.length)&&decide (rdC t k<=3)&&decide (k+o7 t k<=t.length)
theorem C4{t:List UInt8}{k:Nat}:ve t k=true↔k+6<=t.length/\rdC t k<=3/\k+o7 t k<=t.length:=by
 unfold ve;simp only[Xxx,decide_eq_true_eq,and_assoc]
def yy(t:List UInt8):Nat->Nat->List Ax × Nat
 | 0,k=>([],k)
 | f+1,k=>if ve t k then(rdA t k :: (yy t f (k+o7 t k)).1,(yy t f (k+o7 t k)).2) else([],k)
theorem Rh{t:List UInt8}{f k:Nat}(h:ve t k=true):yy t (f+1) k=(rdA t k :: (yy t f (k+o7 t k)).1,(yy t f (k+o7 t k)).2):=by rw[yy,if_pos h]
theorem Tb{t:List UInt8}{f k:Nat}(h:ve t k=false):yy t f k=([],k):=by
 cases f with
 | zero=>rfl
 | succ f=>rw[yy,if_neg (by rw[h];decide)]
def Gt(t:List UInt8):Int:=if 4096<t.length then 2 else 0
def pn(t:List UInt8):List Ax:=if 4096<t.length then [] else(yy t 60 0).1
def Hi(t:List UInt8):Nat:=if 4096<t.length then 0 else(yy t 60 0).2
theorem Rg(t:List UInt8):∀f k,(yy t f k).1.length<=f
 | 0,_=>Nat.le_refl _
 | f+1,k=>by
  cases h:ve t k
  .rw[Tb h];exact Qxz _
  rw[Rh h];have:=Rg t f (k+o7 t k);simp only[List.length_cons];omega
theorem Yd(t:List UInt8):(pn t).length<=60:=by
 unfold pn;by_cases h:4096<t.length
 .rw[if_pos h];exact Qxz _
 rw[if_neg h];exact Rg _ _ _
def vl(p:Pl)(s:St)(x:Ax):St:=if doE p s x=0 then doT p s x else s
def qr(p:Pl)(s:St)(l:List Ax):St:=l.foldl (vl p) s
theorem Ji{x:Ax}(r:au p s):au p (vl p s x):=by
 unfold vl;by_cases h:doE p s x=0
 .rw[if_pos h];exact(Q6 h).2
 rw[if_neg h];exact r
theorem Jw{p:Pl}:∀(l:List Ax) {s:St},au p s->au p (qr p s l)
 | [],_,r=>r
 | x :: l,s,r=>Jw l (s:=vl p s x) (Ji r)
theorem Kw{x b:Ax}(r:au p s)(e:ae y s)(a:yj b x):ae (vl p y b) (vl p s x):=by
 obtain⟨d,c⟩:=aak r e a;unfold vl;rw[d];by_cases h:doE p s x=0
 .rw[if_pos h,if_pos h];exact c h
 rw[if_neg h,if_neg h];exact e
structure As where
 a:Option Addr
 n:Nat
 c:Nat
 z:Nat->Ax
def As.val(s:As):Value := .slice s.a s.n s.c
def xq(x:Ax):List Value:=[.int .i64 x.k,.int .i64 x.a,.int .i64 x.b,.int .i64 x.c,.int .i64 x.n,.slice x.ls.a x.ls.n x.ls.c]
def vj:Nat->(Nat->Ax)->List Value
 | 0,_=>[]
 | n+1,z=>vj n z++xq (z n)
theorem Dk(z:Nat->Ax):∀n,(vj n z).length=n*6
 | 0=>rfl
 | n+1=>by rw[vj,List.length_append,Dk z n];simp[xq];omega
theorem Jl{z z':Nat->Ax}:∀{n:Nat},(∀i,i<n->z i=z' i)->vj n z=vj n z'
 | 0,_=>rfl
 | n+1,h=>by rw[vj,vj,Jl λi hi=>h i (by omega),h n (by omega)]
theorem Oa{z:Nat->Ax}:∀{n i j:Nat},i<n->j<6->(vj n z).getD (i*6+j) default=(xq (z i)).getD j default
 | 0,_,_,h,_=>absurd h (Qzq _)
 | n+1,i,j,hi,hj=>by
  rw[vj];by_cases h:i=n
  .subst h;simp only[List.getD];rw[List.getElem?_append_right (by rw[Dk];omega),Dk]
   congr 2
   omega
  have:=Oa (z:=z) (n:=n) (i:=i) (j:=j) (by omega) hj;simp only[List.getD] at this ⊢;rw[List.getElem?_append_left (by rw[Dk];omega)];exact this
structure As.At(w:World)(s:As):Prop where
 le:s.n<=s.c
 cap:s.c<=maxLen
 cells:∀i,i<s.n->∃b o,s.a=some ⟨b,o,none⟩/\∀j,j<6->w.cell? ⟨b,o+(i*6+j),none⟩=some ((xq (s.z i)).getD j default)
 lines:∀i,i<s.n->(s.z i).ls.At w
def zx(j:Nat):Value:=(#[.int .i64 0,.int .i64 0,.int .i64 0,.int .i64 0,.int .i64 0,.slice none 0 0]:Array Value).getD j default
theorem Rx(w:World):(Instr.typeAssert (.iface 35 (.int .i64 1)) 20 35 false).run prog w = .ok (.int .i64 1) w:=by
 unfold Instr.typeAssert;simp[run_underlying underlying35,Sem.run_bind,Sem.run_pure,Result.andThen]
theorem aay(X E:Nat)(fx t:Nat->Value)(w:World)(b:Blk w X 34 6 fx)(g:Blk w E 35 1 t)(f:List PanicEntry):
  CallsD prog 94 #[.pointer (some ⟨X,0,none⟩),.pointer (some ⟨E,0,none⟩)] (.panicking ({ v := .iface 35 (.int .i64 1),recovered:=false } :: f)) w λe x m =>
   e = .returned (.tuple #[])/\x = .panicking ({ v := .iface 35 (.int .i64 1),recovered:=true } :: f)/\Blk m X 34 6 zx/\Blk m E 35 1 (λ_ => .int .i64 1)/\∀B,B<=X->B<=E->Below B w m:=by
 have T:=b.lt;have S:=g.lt;have y:=b.k 0;have H:=b.frozen 0;have P:=b.k 1;have J:=b.frozen 1;have K:=b.k 2;have F:=b.frozen 2;have L:=b.k 3;have A:=b.frozen 3;have M:=b.k 4;have z:=b.frozen 4;have G:=b.k 5;have D:=b.frozen 5;have U:=g.k 0;have V:=g.frozen 0;have c:X≠E:=Blk.ne2 b g (by decide);have Q:=Rx;have r:=Blk.other (((((((b.set 0 (.int .i64 0)).set 1 (.int .i64 0)).set 2 (.int .i64 0)).set 3 (.int .i64 0)).set 4 (.int .i64 0)).set 5 (.slice none 0 0))) (a:=⟨E,0,none⟩) c (.int .i64 1);have l:=r.congr (f':=zx) (λj n=>by match j,n with|0,_|1,_|2,_|3,_|4,_|5,_=>rfl);have q:=Blk.set ((((((g.other (a:=⟨X,0,none⟩) c.symm (.int .i64 0)).other (a:=⟨X,1,none⟩) c.symm (.int .i64 0)).other (a:=⟨X,2,none⟩) c.symm (.int .i64 0)).other (a:=⟨X,3,none⟩) c.symm (.int .i64 0)).other (a:=⟨X,4,none⟩) c.symm (.int .i64 0)).other (a:=⟨X,5,none⟩) c.symm (.slice none 0 0)) 0 (.int .i64 1);have h:=q.congr (f':=λ_ => .int .i64 1) (λj n=>by match j,n with|0,_=>rfl);have i:=λ(B:Nat) (d:B<=X) (o:B<=E)=>((((((((Below.refl B w).setCell (p:=⟨X,0,none⟩) d (.int .i64 0)).setCell (p:=⟨X,1,none⟩) d (.int .i64 0)).setCell (p:=⟨X,2,none⟩) d (.int .i64 0)).setCell (p:=⟨X,3,none⟩) d (.int .i64 0)).setCell (p:=⟨X,4,none⟩) d (.int .i64 0)).setCell (p:=⟨X,5,none⟩) d (.slice none 0 0)).setCell (p:=⟨E,0,none⟩) o (.int .i64 1));have s:=qa3 l h i;clear r l q h i b g;refine callsD_of_wpS func94 rfl λW cs u => ?_
 apply wpS_seq
 apply wpS_region
 simp[wpOpsS,go_sem,recoverD,u,ntmps94,Exit.thenS];refine wpS_of_wp ?_;simp only[Array.replicate_succ,Array.replicate_zero,List.push_toArray,Qvq,Qwx,Qwz,List.append_toArray,Xqx,Xqz];go_wp2_with fail
 go_region
 obtain⟨l,h,i⟩:=s.out;refine⟨rfl,_,rfl,.tuple #[],by simp[results,results94],rfl,rfl,?_,?_,λB d o => ?_⟩
 .exact Blk.below l (brf.drew)
 .exact Blk.below h (brf.drew)
 exact(i B d o).drew
theorem aci(X E:Nat)(w:World):
  CallsD prog 94 #[.pointer (some ⟨X,0,none⟩),.pointer (some ⟨E,0,none⟩)] .returning w λe a b=>e = .returned (.tuple #[])/\a = .returning/\b=w:=by
 refine callsD_of_wpS func94 rfl λd cs c => ?_
 apply wpS_seq
 apply wpS_region
 simp[wpOpsS,go_sem,recoverD,c,ntmps94,Exit.thenS];refine wpS_of_wp ?_;simp only[Array.replicate_succ,Array.replicate_zero,List.push_toArray,Qvq,Qwx,Qwz,List.append_toArray,Xqx,Xqz];go_wp2_with fail;cases d
 simp_all[bodyPostS,results,results94]
def Nk(R:Nat)(t:List UInt8)(k:Nat)(w w':World)(e:Ending):Prop :=
 ((ve t k=true/\∃ls:Hs,e = .returned (.tuple #[(Ax.mk (rdN t k) (rdN t (k+1)) (rdN t (k+2)) (rdN t (k+3)) (rdN t (k+4)) ls).val,.int .i64 0])/\ls.n=rdC t k/\(∀j,j<ls.n->ls.z j=rdL t (k+6+4*j))/\cz w.heap.size 68 w' ls/\my R w' t (k+o7 t k)) \/
  (ve t k=false/\e = .returned (.tuple #[.agg #[.int .i64 0,.int .i64 0,.int .i64 0,.int .i64 0,.int .i64 0,.slice none 0 0],.int .i64 1])))/\Bt R w w'
theorem qn.ofBlk(h:Blk w b e n f)(a:j<n){z:Int}(c:f j = .int .i64 z):qn w ⟨b,j,none⟩:=⟨⟨z,(h.cell a).trans (by rw[c])⟩,h.frozen j,h.lt⟩
def hx(t:List UInt8)(k:Nat)(v:Value)(j:Nat):Value:=(#[.int .i64 (rdN t k),.int .i64 (rdN t (k+1)),.int .i64 (rdN t (k+2)),.int .i64 (rdN t (k+3)),.int .i64 (rdN t (k+4)),v]:Array Value).getD j default
def xf(X L:Nat):List Addr:=[⟨X,0,none⟩,⟨X,1,none⟩,⟨X,2,none⟩,⟨X,3,none⟩,⟨X,4,none⟩,⟨L,0,none⟩]
def Ci(B:Nat):List Addr:=[⟨B,0,none⟩,⟨B,1,none⟩,⟨B,2,none⟩,⟨B,3,none⟩]
theorem Vr{L k:Nat}{t:List UInt8}{o:Nat->Value}(p:Blk w A 34 6 zx)(n:Blk w L 3 1 o)(c:A≠L)(b:A≠R)(d:L≠R):
  Blk (getW R t (xf A L) k w) A 34 6 (hx t k (.slice none 0 0))/\Blk (getW R t (xf A L) k w) L 3 1 (λ_ => .int .i64 (rdN t (k+5))):=by
 simp only[xf,getW];refine⟨?_,?_⟩
 .have m:=(p.set 0 (.int .i64 (rdN t k))).other (a:=⟨R,1,none⟩) b (.int .i64 ((k+1:Nat):Int));have i:=(m.set 1 (.int .i64 (rdN t (k+1)))).other (a:=⟨R,1,none⟩) b (.int .i64 ((k+1+1:Nat):Int));have l:=(i.set 2 (.int .i64 (rdN t (k+1+1)))).other (a:=⟨R,1,none⟩) b (.int .i64 ((k+1+1+1:Nat):Int));have f:=(l.set 3 (.int .i64 (rdN t (k+1+1+1)))).other (a:=⟨R,1,none⟩) b (.int .i64 ((k+1+1+1+1:Nat):Int));have e:=(f.set 4 (.int .i64 (rdN t (k+1+1+1+1)))).other (a:=⟨R,1,none⟩) b (.int .i64 ((k+1+1+1+1+1:Nat):Int));have h:=(e.other (a:=⟨L,0,none⟩) c (.int .i64 (rdN t (k+1+1+1+1+1)))).other (a:=⟨R,1,none⟩) b (.int .i64 ((k+1+1+1+1+1+1:Nat):Int));exact h.congr (λj g=>by match j,g with|0,_|1,_|2,_|3,_|4,_|5,_=>rfl)
 have m:=(n.other (a:=⟨A,0,none⟩) c.symm (.int .i64 (rdN t k))).other (a:=⟨R,1,none⟩) d (.int .i64 ((k+1:Nat):Int));have i:=(m.other (a:=⟨A,1,none⟩) c.symm (.int .i64 (rdN t (k+1)))).other (a:=⟨R,1,none⟩) d (.int .i64 ((k+1+1:Nat):Int));have l:=(i.other (a:=⟨A,2,none⟩) c.symm (.int .i64 (rdN t (k+1+1)))).other (a:=⟨R,1,none⟩) d (.int .i64 ((k+1+1+1:Nat):Int));have f:=(l.other (a:=⟨A,3,none⟩) c.symm (.int .i64 (rdN t (k+1+1+1)))).other (a:=⟨R,1,none⟩) d (.int .i64 ((k+1+1+1+1:Nat):Int));have e:=(f.other (a:=⟨A,4,none⟩) c.symm (.int .i64 (rdN t (k+1+1+1+1)))).other (a:=⟨R,1,none⟩) d (.int .i64 ((k+1+1+1+1+1:Nat):Int));have h:=(e.set 0 (.int .i64 (rdN t (k+1+1+1+1+1)))).other (a:=⟨R,1,none⟩) d (.int .i64 ((k+1+1+1+1+1+1:Nat):Int));exact h.congr (λj g=>by match j,g with|0,_=>rfl)
theorem V4{B k:Nat}{t:List UInt8}(h:Blk w B 68 4 f)(b:B≠R):
  Blk (getW R t (Ci B) k w) B 68 4 (λj=>(df (rdL t k)).getD j default):=by
 simp only[Ci,getW];have d:=(h.set 0 (.int .i64 (rdN t k))).other (a:=⟨R,1,none⟩) b (.int .i64 ((k+1:Nat):Int));have i:=(d.set 1 (.int .i64 (rdN t (k+1)))).other (a:=⟨R,1,none⟩) b (.int .i64 ((k+1+1:Nat):Int));have e:=(i.set 2 (.int .i64 (rdN t (k+1+1)))).other (a:=⟨R,1,none⟩) b (.int .i64 ((k+1+1+1:Nat):Int));have c:=(e.set 3 (.int .i64 (rdN t (k+1+1+1)))).other (a:=⟨R,1,none⟩) b (.int .i64 ((k+1+1+1+1:Nat):Int));exact c.congr (λj g=>by match j,g with|0,_|1,_|2,_|3,_=>rfl)
def Q3(X:Nat):Deferred:={ target := .fn (.func 94) #[.pointer (some ⟨X,0,none⟩),.pointer (some ⟨X+1,0,none⟩)],args:=#[] }
theorem Hn{k:Nat}{t:List UInt8}{tmps:Array Value}(j:tmps.getD 2 undef = .pointer (some ⟨w.heap.size,0,none⟩))(i:tmps.getD 3 undef = .pointer (some ⟨w.heap.size+1,0,none⟩))
  (g:Shp c w.heap.size 34 6) (d:Shp c (w.heap.size+1) 35 1) (u:Bt R w c) (h:ve t k=false) :
  Leaves prog Tryz.f45 tmps (λe x=>Nk R t k w x e) [Q3 w.heap.size] (.panicking [{ v := .iface 35 (.int .i64 1),recovered:=false }]) c:=by
 rw[Array.getD_eq_getD_getElem?] at j i;obtain⟨fx,g⟩:=g;obtain⟨q,d⟩:=d;refine leaves_cons (f:=94) (args:=#[.pointer (some ⟨w.heap.size,0,none⟩),.pointer (some ⟨w.heap.size+1,0,none⟩)]) (by simp) (by simp[go_sem]) ?_;refine(aay w.heap.size (w.heap.size+1) fx q c g d []).mono ?_;rintro e z a ⟨rfl,rfl,b,l,o⟩;have s:a.cell? ⟨w.heap.size,0,none⟩=some (.int .i64 0):=b.k 0;have r:a.cell? ⟨w.heap.size,1,none⟩=some (.int .i64 0):=b.k 1;have m:a.cell? ⟨w.heap.size,2,none⟩=some (.int .i64 0):=b.k 2;have p:a.cell? ⟨w.heap.size,3,none⟩=some (.int .i64 0):=b.k 3;have y:a.cell? ⟨w.heap.size,4,none⟩=some (.int .i64 0):=b.k 4;have n:a.cell? ⟨w.heap.size,5,none⟩=some (.slice none 0 0):=b.k 5;have e0:a.cell? ⟨w.heap.size+1,0,none⟩=some (.int .i64 1):=l.k 0;refine⟨.tuple #[.agg #[.int .i64 0,.int .i64 0,.int .i64 0,.int .i64 0,.int .i64 0,.slice none 0 0],.int .i64 1],?_,Or.inr ⟨h,rfl⟩,u.thenB (o _ nlr (by omega))⟩;simp[results,results45,go_sem,j,i,s,r,m,p,y,n,e0]
theorem Sq{k:Nat}{t:List UInt8}{tmps:Array Value}(l:tmps.getD 2 undef = .pointer (some ⟨w.heap.size,0,none⟩))(i:tmps.getD 3 undef = .pointer (some ⟨w.heap.size+1,0,none⟩)){a:Option Addr}{c:Nat}
  (g:Blk d w.heap.size 34 6 (hx t k (.slice a (rdC t k) c))) (o:Blk d (w.heap.size+1) 35 1 (λ_ => .int .i64 0)) (B:Bt R w d) (h:ve t k=true) (A:d.ownsRow w.heap.size 68 4 (.slice a (rdC t k) c) (rdC t k) (ax (rdC t k) (λj=>rdL t (k+6+4*j)))) (u:my R d t (k+o7 t k)) :
  Leaves prog Tryz.f45 tmps (λe D=>Nk R t k w D e) [Q3 w.heap.size] .returning d:=by
 rw[Array.getD_eq_getD_getElem?] at l i;refine leaves_cons (f:=94) (args:=#[.pointer (some ⟨w.heap.size,0,none⟩),.pointer (some ⟨w.heap.size+1,0,none⟩)]) (by simp) (by simp[go_sem]) ?_;refine(aci w.heap.size (w.heap.size+1) d).mono ?_;rintro e F b ⟨rfl,rfl,rfl⟩;obtain⟨ls,r,p,y,s⟩:=cz.ofRow A nlr;have z:b.cell? ⟨w.heap.size,0,none⟩=some (.int .i64 (rdN t k)):=g.k 0;have x:b.cell? ⟨w.heap.size,1,none⟩=some (.int .i64 (rdN t (k+1))):=g.k 1;have m:b.cell? ⟨w.heap.size,2,none⟩=some (.int .i64 (rdN t (k+2))):=g.k 2;have v:b.cell? ⟨w.heap.size,3,none⟩=some (.int .i64 (rdN t (k+3))):=g.k 3;have E:b.cell? ⟨w.heap.size,4,none⟩=some (.int .i64 (rdN t (k+4))):=g.k 4;have q:b.cell? ⟨w.heap.size,5,none⟩=some (.slice ls.a ls.n ls.c):=(g.k 5).trans (congrArg some r);have e0:b.cell? ⟨w.heap.size+1,0,none⟩=some (.int .i64 0):=o.k 0;refine⟨.tuple #[(Ax.mk (rdN t k) (rdN t (k+1)) (rdN t (k+2)) (rdN t (k+3)) (rdN t (k+4)) ls).val,.int .i64 0],?_,Or.inl ⟨h,ls,rfl,y,λj _=>by rw[s],p,u⟩,B⟩;simp[results,results45,go_sem,l,i,z,x,m,v,E,q,e0,Ax.val,Ax.cells]
theorem Ti{b:World}{size:Nat}{d:List Value}(h:w.ownsRow A e size v n d)(k:Bt R w b)(i:Blk w R t m f)(c:e≠t):b.ownsRow A e size v n d:=by
 refine⟨h.1,h.2.imp_right λ⟨g,cap,cur,h1,h2,h3,h4⟩=>⟨g,cap,cur,h1,h2,?_,h4⟩⟩;rw[k.block g (Qkq h3).1 (λj=>by
  obtain⟨c2,a,_⟩:=i;subst j;rw[a] at h3;cases h3;exact c rfl)]
 exact h3
structure Mid(R k m X:Nat)(t:List UInt8)(w wk:World)(v:Value)(n:Nat):Prop where
 x:Blk wk X 34 6 (hx t k v)
 o:wk.ownsRow X 68 4 v n (ax n (λj=>rdL t (k+6+4*j)))
 e:Blk wk (X+1) 35 1 (λ_ => .int .i64 0)
 r:my R wk t m
 b:Bt R w wk
theorem Mid.set{k:Nat}{t:List UInt8}(h:Mid R k m A t w d v n)(g:w.heap.size<=A)(l:A≠R)(u:Value)(f:hx t k v j=u):Mid R k m A t w (d.setCell ⟨A,j,none⟩ u) v n :=
 ⟨(h.x.set j u).congr (λi _=>by by_cases c:i=j<;>simp[c,f]),xg h.o h.x (by decide) j u,h.e.other (a:=⟨A,j,none⟩) (by dsimp only;omega) u,Blk.other h.r (a:=⟨A,j,none⟩) (by dsimp only;omega) u,h.b.set (p:=⟨A,j,none⟩) (Or.inr g) u⟩
theorem Mid.setE{k:Nat}{t:List UInt8}(h:Mid R k m g t w c v n)(f:w.heap.size<=g)(d:g+1≠R):Mid R k m g t w (c.setCell ⟨g+1,0,none⟩ (.int .i64 0)) v n :=
 ⟨h.x.other (a:=⟨g+1,0,none⟩) (by dsimp only;omega) _,xg h.o h.e (by decide) 0 _,(h.e.set 0 _).congr (λi _=>by simp),Blk.other h.r (a:=⟨g+1,0,none⟩) (by dsimp only;omega) _,h.b.set (p:=⟨g+1,0,none⟩) (Or.inr (by dsimp only;omega)) _⟩
theorem Mid.bt{k m':Nat}{t:List UInt8}(h:Mid R k m A t w d v n)(c:Bt R d a)(g:A≠R)(f:A+1≠R)(i:my R a t m'):Mid R k m' A t w a v n :=
 ⟨c.blk h.x g,Ti h.o c h.r (by decide),c.blk h.e f,i,h.b.trans c⟩
theorem Mid.grew{k:Nat}{t:List UInt8}{o:World}{c:Value}(h:Mid R k m A t w o v n)(f:pu A 68 o d)(u:w.heap.size<=A)(y:d.ownsRow A 68 4 c l (ax l (λj=>rdL t (k+6+4*j))))(z:A≠R):Mid R k m A t w (d.setCell ⟨A,5,none⟩ c) c l:=by
 have g:=f.blk h.x (by decide);have s:=f.blk h.e (by decide);have q:my R d t m:=f.blk h.r (by decide);exact⟨(g.set 5 c).congr (λi hi=>by match i,hi with|0,_|1,_|2,_|3,_|4,_|5,_=>rfl),xg y g (by decide) 5 c,s.other (a:=⟨A,5,none⟩) (by dsimp only;omega) c,Blk.other q (a:=⟨A,5,none⟩) (by dsimp only;omega) c,(h.b.grew f u).set (p:=⟨A,5,none⟩) (Or.inr u) c⟩
theorem aaz(w:World)(Z:Hd)(e:TypeId):∀j u,(df Z)[j]?=some u->(w.alloc (.cells #[.int .i64 Z.o,.int .i64 Z.l,.int .i64 Z.b,.int .i64 Z.n] e)).cell? ((⟨w.heap.size,0,none⟩:Addr).add j)=some u:=by
 intro j u a;have d:(⟨w.heap.size,0,none⟩:Addr).add j=⟨w.heap.size,j,none⟩:=by
  unfold Addr.add;by_cases h:j=0
  .subst h;rfl
  rw[if_neg h];simp
 rw[d];have K:=Blk.new w #[.int .i64 Z.o,.int .i64 Z.l,.int .i64 Z.b,.int .i64 Z.n] e;have c:j<4:=(List.getElem?_eq_some_iff.1 a).1;rw[K.cell (j:=j) c,<-a]
 match j,c with
 | 0,_|1,_|2,_|3,_=>rfl
theorem aat(R:Nat)(t:List UInt8)(k:Nat)(w:World)(hR:my R w t k)(hk:k<=t.length)(ht:t.length<=4096):
  Calls prog 45 #[.pointer (some ⟨R,0,none⟩)] w λe w'=>Nk R t k w w' e:=by
 have bn:∀(fn:Fn) (first cap:Array Value) (w:World),(Instr.makeFunc fn first cap).run prog w = .ok (.func fn first cap) w:=λ_ _ _ _=>rfl;have HR:=hid hR;have HK:=qa2 hk ht;clear hR hk ht;have M:Hid (R<w.heap.size):=Blk.lt HR.out;obtain⟨J,hW,f,F,v,E,y⟩:∃W,(((w.alloc (.cells #[.int .i64 0,.int .i64 0,.int .i64 0,.int .i64 0,.int .i64 0,.slice none 0 0] 34)).alloc (.cells #[.int .i64 0] 35)).alloc (.cells #[.int .i64 0] 3)).alloc (.cells #[.pointer (some ⟨w.heap.size,0,none⟩),.pointer (some ⟨w.heap.size,1,none⟩),.pointer (some ⟨w.heap.size,2,none⟩),.pointer (some ⟨w.heap.size,3,none⟩),.pointer (some ⟨w.heap.size,4,none⟩),.pointer (some ⟨w.heap.size+1+1,0,none⟩)] 138)=W /\
   Blk W w.heap.size 34 6 zx/\Blk W (w.heap.size+1) 35 1 (λ_ => .int .i64 0)/\Blk W (w.heap.size+1+1) 3 1 (λ_ => .int .i64 0)/\Blk W (w.heap.size+1+1+1) 138 6 (λj => .pointer (some ((xf w.heap.size (w.heap.size+1+1)).getD j default)))/\Bt R w W :=
  ⟨_,rfl,((((Blk.mk' (cur:=#[.int .i64 0,.int .i64 0,.int .i64 0,.int .i64 0,.int .i64 0,.slice none 0 0]) rfl rfl).alloc _).alloc _).alloc _).congr (λj _=>rfl),(((Blk.mk' (cur:=#[.int .i64 0]) (by simp) rfl).alloc _).alloc _).congr (λj H=>by match j,H with|0,_=>rfl),((Blk.mk' (cur:=#[.int .i64 0]) (by simp) rfl).alloc _).congr (λj H=>by match j,H with|0,_=>rfl),
   (Blk.mk' (cur:=#[.pointer (some ⟨w.heap.size,0,none⟩),.pointer (some ⟨w.heap.size,1,none⟩),.pointer (some ⟨w.heap.size,2,none⟩),.pointer (some ⟨w.heap.size,3,none⟩),.pointer (some ⟨w.heap.size,4,none⟩),.pointer (some ⟨w.heap.size+1+1,0,none⟩)]) (by simp) rfl).congr (λj H=>by match j,H with|0,_|1,_|2,_|3,_|4,_|5,_=>rfl),((((Bt.refl R w).alloc _).alloc _).alloc _).alloc _⟩
 have HW:Hid ((((w.alloc (.cells #[.int .i64 0,.int .i64 0,.int .i64 0,.int .i64 0,.int .i64 0,.slice none 0 0] 34)).alloc (.cells #[.int .i64 0] 35)).alloc (.cells #[.int .i64 0] 3)).alloc (.cells #[.pointer (some ⟨w.heap.size,0,none⟩),.pointer (some ⟨w.heap.size,1,none⟩),.pointer (some ⟨w.heap.size,2,none⟩),.pointer (some ⟨w.heap.size,3,none⟩),.pointer (some ⟨w.heap.size,4,none⟩),.pointer (some ⟨w.heap.size+1+1,0,none⟩)] 138)=J):=hW;have aq:=qa5 f F v E y;have Y:Hid (my R J t k):=by
  have h:=HR.out;unfold my at h ⊢;rw[<-hW];exact(((h.alloc _).alloc _).alloc _).alloc _
 clear hW f F v E y
 go_enter_defers func45,ntmps45
 go_wp2_with fail;rw[HW.out];obtain⟨f,F,v,E,y⟩:=aq.out;have bw:w.heap.size≠R:=by have:=M.out;omega
 have G:∀p∈xf w.heap.size (w.heap.size+1+1),qn J p/\R≠p.block/\w.heap.size+1+1+1≠p.block:=by
  have cc:=M.out;intro p d;simp only[xf,List.mem_cons,List.not_mem_nil,or_false] at d;rcases d with rfl|rfl|rfl|rfl|rfl|rfl
  .exact⟨qn.ofBlk f (by decide) (z:=0) rfl,by dsimp only;omega,by dsimp only;omega⟩
  .exact⟨qn.ofBlk f (by decide) (z:=0) rfl,by dsimp only;omega,by dsimp only;omega⟩
  .exact⟨qn.ofBlk f (by decide) (z:=0) rfl,by dsimp only;omega,by dsimp only;omega⟩
  .exact⟨qn.ofBlk f (by decide) (z:=0) rfl,by dsimp only;omega,by dsimp only;omega⟩
  .exact⟨qn.ofBlk f (by decide) (z:=0) rfl,by dsimp only;omega,by dsimp only;omega⟩
  exact⟨qn.ofBlk v (by decide) (z:=0) rfl,by dsimp only;omega,by dsimp only;omega⟩
 have D:∀p∈xf w.heap.size (w.heap.size+1+1),p.block=R\/w.heap.size<=p.block:=by
  intro p d;simp only[xf,List.mem_cons,List.not_mem_nil,or_false] at d;rcases d with rfl|rfl|rfl|rfl|rfl|rfl<;>(right;dsimp only;omega)
 refine(Te R (w.heap.size+1+1+1) t k (xf w.heap.size (w.heap.size+1+1)) J Y.out HK.out.1 HK.out.2 (by have:=M.out;omega) (by show 6<=100;decide) E G).mono ?_;rintro e w1 (⟨rfl,m,q⟩|⟨rfl,m,i,q⟩);rotate_left
 .have Q:ve t k=false:=by
   cases h:ve t k
   .rfl
   have h1:t.length<k+6:=m;have:=(C4.1 h).1;omega
  have ap:∀p∈(xf w.heap.size (w.heap.size+1+1)).take i,p.spot=none:=λp d=>by
   have d:=List.mem_of_mem_take d;simp only[xf,List.mem_cons,List.not_mem_nil,or_false] at d;rcases d with rfl|rfl|rfl|rfl|rfl|rfl<;>rfl
  obtain⟨fx,bg⟩:=Shp.getW (R:=R) (t:=t) _ k J ap ⟨_,f⟩;obtain⟨fe,bj⟩:=Shp.getW (R:=R) (t:=t) _ k J ap ⟨_,F⟩;exact Hn rfl rfl ⟨_,q.blk bg⟩ ⟨_,q.blk bj⟩ ((Fa R t _ k J y λp d=>D p (List.mem_of_mem_take d)).trans (q.bt R)) Q
 have V:k+6<=t.length:=m;have h1:=Vr (R:=R) (t:=t) (k:=k) f v (by omega) bw (by have:=M.out;omega);have ag:Hid (Blk w1 w.heap.size 34 6 (hx t k (.slice none 0 0))):=q.blk h1.1;have ak:Hid (Blk w1 (w.heap.size+1) 35 1 (λ_ => .int .i64 0)):=q.blk (Km R t _ k J (λp d=>by
  simp only[xf,List.mem_cons,List.not_mem_nil,or_false] at d;rcases d with rfl|rfl|rfl|rfl|rfl|rfl<;>(dsimp only;omega)) (by have:=M.out;omega) F)
 have ab:=q.blk h1.2;have ah:Hid (Bt R w w1):=(Fa R t _ k J y D).trans (q.bt R);have ay:Hid (my R w1 t (k+6)):=q.blk (my.getW (xf w.heap.size (w.heap.size+1+1)) k J (λp d=>(G p d).2.1) Y.out);have l0:w1.cell? ⟨w.heap.size+1+1,0,none⟩=some (.int .i64 (rdC t k:Int)):=by rw[aa9];exact ab.k 0
 have l1:=ab.lt;clear f F v E y G D h1 ab q HW aq Y bn;by_cases h3:rdC t k<=3;rotate_left
 .have q3:(3:Int)<(rdC t k:Int):=by omega
  have Q:ve t k=false:=by
   cases h:ve t k
   .rfl
   exact absurd (C4.1 h).2.1 h3
  go_wp2_with fail;exact Hn rfl rfl ⟨_,ag.out⟩ ⟨_,ak.out⟩ ah.out Q
 have q3:¬(3:Int)<(rdC t k:Int):=by omega
 go_wp2_with fail;clear l0 l1 q3;have T:=qa3 h3 V HK.out.2;have n3:(rdC t k:Int)<=3:=by omega
 obtain⟨iL,bl,bm,bd,br⟩:=info_parts Dm
 generalize hN:rdC t k=N at *
 have X:=hid hN;clear hN h3 m V;have g:Hid (w.heap.size≠R/\w.heap.size+1≠R):=by have:=M.out;exact⟨by omega,by omega⟩
 go_loopw [19] (λjv wk=>∃(j:Nat) (a:Option Addr) (c:Nat),j<=N/\jv = .int .i64 j/\Hid (Mid R k (k+6+4*j) w.heap.size t w wk (.slice a j c) j/\k+6+4*j<=t.length)) (λjv _=>N-(intOf jv).toNat)
 case atStart=>exact⟨0,none,0,Qxz _,rfl,⟨ag.out,World.ownsRow_nil _ _ _ _,ak.out,ay.out,ah.out⟩,T.out.2.1⟩
 obtain⟨j,a,c,H,rfl,A⟩:=hrel;clear ag ak ah ay;by_cases cd:j<N;rotate_left
 .have q1:¬(j:Int)<(N:Int):=by omega
  have bh:j=N:=by omega
  subst bh;have f:=A.out.1.x;have F:=A.out.1.e;have x0:wr.cell? ⟨w.heap.size,0,none⟩=some (.int .i64 (rdN t k)):=f.k 0;have x1:wr.cell? ⟨w.heap.size,1,none⟩=some (.int .i64 (rdN t (k+1))):=f.k 1;have x2:wr.cell? ⟨w.heap.size,2,none⟩=some (.int .i64 (rdN t (k+2))):=f.k 2;have x3:wr.cell? ⟨w.heap.size,3,none⟩=some (.int .i64 (rdN t (k+3))):=f.k 3;have x4:wr.cell? ⟨w.heap.size,4,none⟩=some (.int .i64 (rdN t (k+4))):=f.k 4;have x5:wr.cell? ⟨w.heap.size,5,none⟩=some (.slice a j c):=f.k 5;have f0:=f.frozen 0;have f1:=f.frozen 1;have f2:=f.frozen 2;have f3:=f.frozen 3;have f4:=f.frozen 4;have f5:=f.frozen 5;have xl:=f.lt;have e0:wr.cell? ⟨w.heap.size+1,0,none⟩=some (.int .i64 0):=F.k 0;have e1:=F.frozen 0;have el:=F.lt;clear f F;go_wp2_with fail;have hM:=((((((A.out.1.set nlr g.out.1 (j:=0) (.int .i64 (rdN t k)) rfl).set nlr g.out.1 (j:=1) (.int .i64 (rdN t (k+1))) rfl).set nlr g.out.1 (j:=2) (.int .i64 (rdN t (k+2))) rfl).set nlr g.out.1 (j:=3) (.int .i64 (rdN t (k+3))) rfl).set nlr g.out.1 (j:=4) (.int .i64 (rdN t (k+4))) rfl).set nlr g.out.1 (j:=5) (.slice a j c) rfl).setE nlr g.out.2;have a6:ve t k=true:=C4.2 ⟨T.out.2.1,by rw[X.out];exact T.out.1,by unfold o7;rw[X.out];have:=A.out.2;omega⟩;refine Sq (a:=a) (c:=c) rfl rfl (by rw[X.out];exact hM.x) hM.e hM.b a6 (by rw[X.out];exact hM.o) ?_;have hR:=hM.r;unfold o7;rw[X.out,show k+(6+4*j)=k+6+4*j by omega];exact hR
 have q1:(j:Int)<(N:Int):=by omega
 obtain⟨S,ar,v,E,y⟩:∃W,(wr.alloc (.cells #[.int .i64 0,.int .i64 0,.int .i64 0,.int .i64 0] 68)).alloc (.cells #[.pointer (some ⟨wr.heap.size,0,none⟩),.pointer (some ⟨wr.heap.size,1,none⟩),.pointer (some ⟨wr.heap.size,2,none⟩),.pointer (some ⟨wr.heap.size,3,none⟩)] 138)=W /\
   Blk W wr.heap.size 68 4 (λ_ => .int .i64 0)/\Blk W (wr.heap.size+1) 138 4 (λj => .pointer (some ((Ci wr.heap.size).getD j default)))/\Bt R wr W :=
  ⟨_,rfl,((Blk.mk' (cur:=#[.int .i64 0,.int .i64 0,.int .i64 0,.int .i64 0]) rfl rfl).alloc _).congr (λj H=>by match j,H with|0,_|1,_|2,_|3,_=>rfl),(Blk.mk' (cur:=#[.pointer (some ⟨wr.heap.size,0,none⟩),.pointer (some ⟨wr.heap.size,1,none⟩),.pointer (some ⟨wr.heap.size,2,none⟩),.pointer (some ⟨wr.heap.size,3,none⟩)]) (by simp) rfl).congr (λj H=>by match j,H with|0,_|1,_|2,_|3,_=>rfl),((Bt.refl R wr).alloc _).alloc _⟩
 have af:Hid ((wr.alloc (.cells #[.int .i64 0,.int .i64 0,.int .i64 0,.int .i64 0] 68)).alloc (.cells #[.pointer (some ⟨wr.heap.size,0,none⟩),.pointer (some ⟨wr.heap.size,1,none⟩),.pointer (some ⟨wr.heap.size,2,none⟩),.pointer (some ⟨wr.heap.size,3,none⟩)] 138)=S):=ar;have ao:=qa3 v E y;clear ar v E y;go_wp2_with fail;rw[af.out];obtain⟨v,E,y⟩:=ao.out;have be:w.heap.size<=wr.heap.size:=A.out.1.b.size;have bq:R<wr.heap.size:=Blk.lt A.out.1.r;have ac:my R S t (k+6+4*j):=by
  have h:=A.out.1.r;unfold my at h ⊢;rw[<-af.out];exact(h.alloc _).alloc _
 have G:∀p∈Ci wr.heap.size,qn S p/\R≠p.block/\wr.heap.size+1≠p.block:=by
  intro p d;simp only[Ci,List.mem_cons,List.not_mem_nil,or_false] at d;rcases d with rfl|rfl|rfl|rfl<;>exact⟨qn.ofBlk v (by decide) (z:=0) rfl,by dsimp only;omega,by dsimp only;omega⟩
 have D:∀p∈Ci wr.heap.size,p.block=R\/wr.heap.size<=p.block:=by
  intro p d;simp only[Ci,List.mem_cons,List.not_mem_nil,or_false] at d;rcases d with rfl|rfl|rfl|rfl<;>(right;dsimp only;omega)
 refine(Te R (wr.heap.size+1) t (k+6+4*j) (Ci wr.heap.size) S ac A.out.2 T.out.2.2 (by omega) (by show 4<=100;decide) E G).mono ?_;rintro e s (⟨rfl,m,q⟩|⟨rfl,m,i,q⟩);rotate_left
 .have L:Bt R wr s:=(Fa R t _ _ S y λp d=>D p (List.mem_of_mem_take d)).trans (q.bt R);have Q:ve t k=false:=by
   cases h:ve t k
   .rfl
   have h1:t.length<k+6+4*j+4:=m;have h2:=(C4.1 h).2.2;unfold o7 at h2;rw[X.out] at h2;omega
  exact Hn rfl rfl ⟨_,L.blk A.out.1.x g.out.1⟩ ⟨_,L.blk A.out.1.e g.out.2⟩ (A.out.1.b.trans L) Q
 have L:Bt R wr s:=(Fa R t _ _ S y D).trans (q.bt R);have av:my R s t (k+6+4*(j+1)):=q.blk (my.getW (Ci wr.heap.size) _ S (λp d=>(G p d).2.1) ac);have P:Hid (Mid R k (k+6+4*(j+1)) w.heap.size t w s (.slice a j c) j):=A.out.1.bt L g.out.1 g.out.2 av;have bo:=hid m;have B:=q.blk (V4 (R:=R) (t:=t) (k:=k+6+4*j) v (by omega));obtain⟨Z,hZ⟩:∃Z,rdL t (k+6+4*j)=Z:=⟨_,rfl⟩;rw[hZ] at B;have HZ:=hid hZ;have b0:s.cell? ⟨wr.heap.size,0,none⟩=some (.int .i64 Z.o):=B.k 0;have b1:s.cell? ⟨wr.heap.size,1,none⟩=some (.int .i64 Z.l):=B.k 1;have b2:s.cell? ⟨wr.heap.size,2,none⟩=some (.int .i64 Z.b):=B.k 2;have b3:s.cell? ⟨wr.heap.size,3,none⟩=some (.int .i64 Z.n):=B.k 3;have b4:=B.lt;have x5:s.cell? ⟨w.heap.size,5,none⟩=some (.slice a j c):=P.out.x.k 5;have xl:=P.out.x.lt;obtain⟨W5,ai,a0,ad⟩:∃W,s.alloc (.cells #[.int .i64 Z.o,.int .i64 Z.l,.int .i64 Z.b,.int .i64 Z.n] 68)=W/\Below s.heap.size s W/\Bt R s W:=⟨_,rfl,brf.alloc nlr _,(Bt.refl _ _).alloc _⟩;have az:Hid (s.alloc (.cells #[.int .i64 Z.o,.int .i64 Z.l,.int .i64 Z.b,.int .i64 Z.n] 68)=W5):=ai;have aw:Hid (∀j u,(df Z)[j]?=some u->W5.cell? ((⟨s.heap.size,0,none⟩:Addr).add j)=some u):=by rw[<-ai];exact aaz s Z _
 have K:Hid (Mid R k (k+6+4*(j+1)) w.heap.size t w W5 (.slice a j c) j):=P.out.bt ad g.out.1 g.out.2 (Blk.below P.out.r a0);have bv:=hid K.out.b.size;clear L av B hZ ai a0 ad v E y G D q ao af ac be bq m P;go_wp2_with(at_builtin;rw[az.out];refine wpList_append_own W5 rfl (.tmp 29) (.tmp 31) 32 rfl w.heap.size 68 iL (.agg #[.int .i64 0,.int .i64 0,.int .i64 0,.int .i64 0]) 4 32 underlying32 bl bm bd br rfl (by decide) (.slice a j c) j (ax j (λj=>rdL t (k+6+4*j))) rfl K.out.o ⟨s.heap.size,0,none⟩ 1 1 (df Z) rfl rfl aw.out (λu hu=>by simp[df] at hu;rcases hu with rfl|rfl|rfl|rfl<;>rfl) (by unfold maxLen;omega) (by omega) bv.out ?_);intro v2 w6 r1 r2 _;obtain⟨a2,c2,rfl,-⟩:=Aq r1;have au:w6.ownsRow w.heap.size 68 4 (.slice a2 (j+1) c2) (j+1) (ax (j+1) (λj=>rdL t (k+6+4*j))):=by
  rw[ud,HZ.out];exact r1
 have hg:=F4 K.out.o r2;have U:=hg.blk K.out.x (by decide);have bx:Hid (Mid R k (k+6+4*(j+1)) w.heap.size t w (w6.setCell ⟨w.heap.size,5,none⟩ (.slice a2 (j+1) c2)) (.slice a2 (j+1) c2) (j+1)):=K.out.grew hg nlr au g.out.1;have y5:w6.cell? ⟨w.heap.size,5,none⟩=some (.slice a j c):=U.k 5;have y6:=U.frozen 5;have y7:=U.lt;clear r1 r2 au hg U K aw az b0 b1 b2 b3 b4 x5 xl
 try simp only[Act.put,Qvq,Qwx,Qwz]
 go_wp2_with fail;go_roundw
 case rel=>exact⟨j+1,a2,c2,by omega,by go_num,bx.out,bo.out⟩
 case measure=>simp[intOf];omega
def Dq:List Ax->List Ax->Prop
 | [],[]=>True
 | x :: l,y :: m=>yj x y/\Dq l m
 | _,_=>False
theorem Dq.len:∀{l m:List Ax},Dq l m->l.length=m.length
 | [],[],_=>rfl
 | _ :: _,_ :: _,h=>by rw[List.length_cons,List.length_cons,h.2.len]
 | [],_ :: _,h=>h.elim
 | _ :: _,[],h=>h.elim
theorem Lp{p:Pl}:∀{l m:List Ax} {y s:St},au p s->ae y s->Dq l m->ae (qr p y l) (qr p s m)
 | [],[],_,_,_,e,_=>e
 | x :: l,x' :: m,y,s,r,e,h=>Lp (l:=l) (m:=m) (y:=vl p y x) (s:=vl p s x') (Ji r) (Kw r e h.1) h.2
 | [],_ :: _,_,_,_,_,h=>h.elim
 | _ :: _,[],_,_,_,_,h=>h.elim
theorem Wu(p:Pl)(s:St)(l m:List Ax):qr p s (l++m)=qr p (qr p s l) m:=List.foldl_append ..
theorem aai:(prog.info? 34).map (λi=>(i.zero,i.size,i.bytes))=some (some (.agg #[.int .i64 0,.int .i64 0,.int .i64 0,.int .i64 0,.int .i64 0,.slice none 0 0]),6,64):=by kernel_rfl
def Z2:Value->Nat
 | .slice _ n _=>n
 | _=>0
theorem cz.bt{b:World}{s:Hs}(h:cz A e w s)(n:Bt R w b)(j:Blk w R t m f)(c:e≠t):cz A e b s:=by
 obtain⟨l,p,i,d⟩:=h;refine⟨l,p,i,λo => ?_⟩;obtain⟨g,q,k,a⟩:=d o;exact⟨g,q,k,n.blk a (Blk.ne2 a j c)⟩
theorem acg(w:World)(x:Ax)(e:TypeId):∀j u,(xq x)[j]?=some u->(w.alloc (.cells #[.int .i64 x.k,.int .i64 x.a,.int .i64 x.b,.int .i64 x.c,.int .i64 x.n,.slice x.ls.a x.ls.n x.ls.c] e)).cell? ((⟨w.heap.size,0,none⟩:Addr).add j)=some u:=by
 intro j u d;have g:(⟨w.heap.size,0,none⟩:Addr).add j=⟨w.heap.size,j,none⟩:=by
  unfold Addr.add;by_cases h:j=0
  .subst h;rfl
  rw[if_neg h];simp
 rw[g];have K:=Blk.new w #[.int .i64 x.k,.int .i64 x.a,.int .i64 x.b,.int .i64 x.c,.int .i64 x.n,.slice x.ls.a x.ls.n x.ls.c] e;have f:j<6:=(List.getElem?_eq_some_iff.1 d).1;rw[K.cell (j:=j) f,<-d]
 match j,f with
 | 0,_|1,_|2,_|3,_|4,_|5,_=>rfl
structure Rep(k:Nat)(t:List UInt8)(w wk:World)(v:Value)(l:List Ax)(zs:Nat->Ax):Prop where
 o:wk.ownsRow w.heap.size 34 6 v l.length (vj l.length zs)
 z:∀i (h:i<l.length),yj (zs i) l[i]/\cz w.heap.size 68 wk (zs i).ls
 kl:k<=t.length
 b:Below w.heap.size w wk
 rep:yy t 60 0=(l++(yy t (60-l.length) k).1,(yy t (60-l.length) k).2)
theorem Rep.below{k:Nat}{t:List UInt8}{l:List Ax}{zs:Nat->Ax}(h:Rep k t w d v l zs)(c:Below d.heap.size d a):Rep k t w a v l zs :=
 ⟨lv h.o c,λi hi=>⟨(h.z i hi).1,(h.z i hi).2.below c⟩,h.kl,h.b.trans (c.mono h.b.size),h.rep⟩
theorem Rep.bt{k:Nat}{t:List UInt8}{l:List Ax}{zs:Nat->Ax}(h:Rep k t w d v l zs)(c:Bt w.heap.size d a)(e:my w.heap.size d t m):Rep k t w a v l zs :=
 ⟨Ti h.o c e (by decide),λi hi=>⟨(h.z i hi).1,(h.z i hi).2.bt c e (by decide)⟩,h.kl,h.b.trans (c.below nlr h.b.size),h.rep⟩
def Fh(n:Nat)(zs:Nat->Ax)(x:Ax)(i:Nat):Ax:=if i=n then x else zs i
theorem Rep.more{k:Nat}{t:List UInt8}{f:World}{j:Value}{l:List Ax}{zs:Nat->Ax}{x:Ax}(h:Rep k t w f v l zs)(e:ve t k=true)(hs:yj x (rdA t k))(m:cz w.heap.size 68 f x.ls)(p:l.length<60)(g:pu w.heap.size 34 f d)(n:d.ownsRow w.heap.size 34 6 j (l.length+1) (vj l.length zs++xq x)):Rep (k+o7 t k) t w d j (l++[rdA t k]) (Fh l.length zs x):=by
 have a:(l++[rdA t k]).length=l.length+1:=by simp
 refine⟨?_,λi hi => ?_,(C4.1 e).2.2,g.below h.b nlr h.b.size,?_⟩
 .rw[a,vj,Jl (z':=zs) λi hi=>by unfold Fh;rw[if_neg (by omega)],show Fh l.length zs x l.length=x from if_pos rfl];exact n
 .have o:i<l.length+1:=by rw[<-a];exact hi
  by_cases c:i=l.length
  .subst c;rw[List.getElem_append_right nlr,show Fh l.length zs x l.length=x from if_pos rfl];simp only[Nat.sub_self,List.getElem_cons_zero];exact⟨hs,m.grew g (by decide)⟩
  rw[List.getElem_append_left (by omega),show Fh l.length zs x i=zs i from if_neg c];exact⟨(h.z i (by omega)).1,(h.z i (by omega)).2.grew g (by decide)⟩
 rw[h.rep,a,show 60-l.length=60-(l.length+1)+1 by omega,Rh e];simp
structure D6(A:Nat)(w:World)(s:As):Prop where
 le:s.n<=s.c
 cap:s.c<=maxLen
 list:0<s.n->∃g,s.a=some ⟨g,0,none⟩/\A<=g/\Blk w g 34 (s.n*6) (λj=>(vj s.n s.z).getD j default)
 lines:∀i,i<s.n->cz A 68 w (s.z i).ls
theorem D6.at{s:As}(h:D6 A w s):s.At w:=by
 refine⟨h.le,h.cap,λi hi => ?_,λi hi=>(h.lines i hi).at⟩;obtain⟨g,c,d,a⟩:=h.list (by omega);refine⟨g,0,c,λj b => ?_⟩;rw[Nat.zero_add,a.cell (j:=i*6+j) (by omega)]
 congr 1
 exact Oa hi b
theorem D6.below{s:As}(h:D6 A w s)(b:Below w.heap.size w a):D6 A a s:=by
 refine⟨h.le,h.cap,λd => ?_,λi hi=>(h.lines i hi).below b⟩;obtain⟨g,e,f,c⟩:=h.list d;exact⟨g,e,f,c.below b⟩
theorem cz.btA{s:Hs}(h:cz A e w s)(c:Bt R w a)(n:R<A):cz A e a s:=by
 obtain⟨m,j,i,d⟩:=h;refine⟨m,j,i,λf => ?_⟩;obtain⟨g,k,l,b⟩:=d f;exact⟨g,k,l,c.blk b (by omega)⟩
theorem D6.bt{s:As}(h:D6 A w s)(b:Bt R w a)(e:R<A):D6 A a s:=by
 refine⟨h.le,h.cap,λd => ?_,λi hi=>(h.lines i hi).btA b e⟩;obtain⟨g,f,j,c⟩:=h.list d;exact⟨g,f,j,b.blk c (by omega)⟩
def Pr(t:List UInt8)(w w':World)(s:As):Prop:=s.n=(pn t).length/\(∀i (h:i<(pn t).length),yj (s.z i) (pn t)[i])/\D6 w.heap.size w' s/\Below w.heap.size w w'
theorem Rep.done{k:Nat}{t:List UInt8}{r:World}{l:List Ax}{zs:Nat->Ax}(h:Rep k t w r v l zs)(J:t.length<=4096)(A:yy t (60-l.length) k=([],k)):∃s:As,v=s.val/\Pr t w r s/\Hi t=k:=by
 have q:=h.rep;rw[A] at q;have j:pn t=l:=by unfold pn;rw[if_neg (by omega),q];simp
 have B:Hi t=k:=by unfold Hi;rw[if_neg (by omega),q]
 obtain⟨a,c,u,F⟩:=Aq h.o;refine⟨⟨a,l.length,c,zs⟩,u,⟨by rw[j],λi hi => ?_,?_,h.b⟩,B⟩
 .have e:(pn t)[i]=l[i]'(by rw[<-j];exact hi):=by simp only[j]
  rw[e];exact(h.z i (by rw[<-j];exact hi)).1
 have f:=h.o;rw[u] at f;refine⟨?_,?_,λD => ?_,λi hi=>(h.z i hi).2⟩
 .obtain⟨_,⟨d,m⟩|⟨g,cap,cur,d,m,p,n,_⟩⟩:=f
  .simp only[Value.slice.injEq] at d;show l.length<=c;omega
  simp only[Value.slice.injEq] at d;show l.length<=c;omega
 .obtain⟨_,⟨d,m⟩|⟨g,cap,cur,d,m,p,n,G,_⟩⟩:=f
  .simp only[Value.slice.injEq] at d;show c<=maxLen;omega
  simp only[Value.slice.injEq] at d;show c<=maxLen;omega
 have E:0<l.length:=D;have x:(Value.slice a l.length c) ≠ .slice none 0 0:=λe=>by simp only[Value.slice.injEq] at e;omega
 obtain⟨g,H,y,d,m,p,n⟩:=Blk.ofOwns f x;simp only[Value.slice.injEq] at y;exact⟨g,y.1,p,n⟩
theorem Lg(t:List UInt8)(w:World):
  Calls prog 14 #[.string ⟨t.toArray⟩] w λe w'=>∃s:As,e = .returned (.tuple #[s.val,.int .i64 (Hi t:Int),.int .i64 (Gt t)])/\Pr t w w' s:=by
 have tl:((⟨t.toArray⟩:ByteArray).size)=t.length:=by simp[ByteArray.size]
 by_cases d:4096<t.length
 .have q1:(4096:Int)<(t.length:Int):=by omega
  have p:Hid (Gt t=2/\Hi t=0/\pn t=[]):=⟨if_pos d,if_pos d,if_pos d⟩;go_enter func14,ntmps14;go_wp2_with fail;refine Xzq (v := .tuple #[.slice none 0 0,.int .i64 0,.int .i64 2]) (by simp[results,results14,go_sem]) rfl ?_;refine⟨⟨none,0,0,λ_=>⟨0,0,0,0,0,⟨none,0,0,λ_=>⟨0,0,0,0⟩⟩⟩⟩,by rw[p.out.1,p.out.2.1];rfl,by rw[p.out.2.2];rfl,λi hi => ?_,⟨Nat.le_refl _,Qxz _,λhi=>absurd hi (Qzq _),λi hi=>absurd hi (Qzq _)⟩,Below.refl _ _⟩;rw[p.out.2.2] at hi;exact absurd hi (Qzq _)
 have q1:¬(4096:Int)<(t.length:Int):=by omega
 have HT:Hid (t.length<=4096):=by show _<=_;omega
 have p:Hid (Gt t=0):=if_neg d;obtain⟨iA,aw,ao,aj,an⟩:=info_parts aai;obtain⟨V,hW,KR,KB⟩:∃W,w.alloc (.cells #[.string ⟨t.toArray⟩,.int .i64 0] 84)=W/\my w.heap.size W t 0/\Below w.heap.size w W:=⟨_,rfl,(Blk.mk' (cur:=#[.string ⟨t.toArray⟩,.int .i64 0]) rfl rfl).congr (λj r=>by match j,r with|0,_=>rfl|1,_=>rfl),brf.alloc nlr _⟩;have HW:Hid (w.alloc (.cells #[.string ⟨t.toArray⟩,.int .i64 0] 84)=V):=hW;have P:Hid (Rep 0 t w V (.slice none 0 0) [] (λ_=>⟨0,0,0,0,0,⟨none,0,0,λ_=>⟨0,0,0,0⟩⟩⟩)/\my w.heap.size V t 0):=⟨⟨World.ownsRow_nil _ _ _ _,λi h=>absurd h (Qzq _),Qxz _,KB,rfl⟩,KR⟩;clear hW KR KB d;go_enter func14,ntmps14;go_wp2_with fail;rw[HW.out];clear HW
 go_loopw [6,7] (λav kv wk=>∃(l:List Ax) (zs:Nat->Ax) (a:Option Addr) (c k:Nat),l.length<=60/\av = .slice a l.length c/\kv = .int .i64 (k:Int)/\Hid (Rep k t w wk (.slice a l.length c) l zs/\my w.heap.size wk t k)) (λav _ _=>60-Z2 av)
 case atStart=>exact⟨[],_,none,0,0,Qxz _,rfl,rfl,P⟩
 obtain⟨l,zs,a,c,k,hl,rfl,rfl,g⟩:=hrel;clear P;by_cases ak:l.length<60;rotate_left
 .have q2:¬(l.length:Int)<60:=by omega
  have U:Hid (∃s:As,.slice a l.length c=s.val/\Pr t w wr s/\Hi t=k):=g.out.1.done HT.out (by rw[show 60-l.length=0 by omega];rfl);clear g;go_wp2_with fail;obtain⟨s,Y,G,hN⟩:=U.out;refine Xzq (v := .tuple #[.slice a l.length c,.int .i64 (k:Int),.int .i64 0]) (by simp[results,results14,go_sem]) rfl ?_;exact⟨s,by rw[Y,p.out,hN],G⟩
 have q2:(l.length:Int)<60:=by omega
 go_wp2_with fail;refine(aat w.heap.size t k wr g.out.2 g.out.1.kl HT.out).mono ?_;rintro e f ⟨⟨A,ls,rfl,hn,hz,ho,hr⟩|⟨Q,rfl⟩,H⟩;rotate_left
 .have K:Below f.heap.size f (f.alloc (.cells #[.int .i64 0,.int .i64 0,.int .i64 0,.int .i64 0,.int .i64 0,.slice none 0 0] 34)):=brf.alloc nlr _;have U:Hid (∃s:As,.slice a l.length c=s.val/\Pr t w (f.alloc (.cells #[.int .i64 0,.int .i64 0,.int .i64 0,.int .i64 0,.int .i64 0,.slice none 0 0] 34)) s/\Hi t=k):=((g.out.1.bt H g.out.2).below K).done HT.out (Tb Q);clear g H Q K;go_wp2_with fail;obtain⟨s,Y,G,hN⟩:=U.out;refine Xzq (v := .tuple #[.slice a l.length c,.int .i64 (k:Int),.int .i64 0]) (by simp[results,results14,go_sem]) rfl ?_;exact⟨s,by rw[Y,p.out,hN],G⟩
 have J:yj (Ax.mk (rdN t k) (rdN t (k+1)) (rdN t (k+2)) (rdN t (k+3)) (rdN t (k+4)) ls) (rdA t k):=⟨rfl,rfl,rfl,rfl,rfl,hn,λj r=>by
  show ls.z j=rdZ t k j;rw[abm r];exact hz j (by rw[hn];exact r)⟩
 generalize hxe:Ax.mk (rdN t k) (rdN t (k+1)) (rdN t (k+2)) (rdN t (k+3)) (rdN t (k+4)) ls=x at *
 have S:x.ls=ls:=by rw[<-hxe]
 obtain⟨y,D,q⟩:∃W,(f.alloc (.cells #[.int .i64 x.k,.int .i64 x.a,.int .i64 x.b,.int .i64 x.c,.int .i64 x.n,.slice x.ls.a x.ls.n x.ls.c] 34)).alloc (.cells #[.int .i64 x.k,.int .i64 x.a,.int .i64 x.b,.int .i64 x.c,.int .i64 x.n,.slice x.ls.a x.ls.n x.ls.c] 34)=W/\Below f.heap.size f W:=⟨_,rfl,(brf.alloc nlr _).alloc (by simp) _⟩;have M:Hid ((f.alloc (.cells #[.int .i64 x.k,.int .i64 x.a,.int .i64 x.b,.int .i64 x.c,.int .i64 x.n,.slice x.ls.a x.ls.n x.ls.c] 34)).alloc (.cells #[.int .i64 x.k,.int .i64 x.a,.int .i64 x.b,.int .i64 x.c,.int .i64 x.n,.slice x.ls.a x.ls.n x.ls.c] 34)=y):=D;have L:Hid (∀j u,(xq x)[j]?=some u->y.cell? ((⟨f.heap.size+1,0,none⟩:Addr).add j)=some u):=by
  have h:=acg (f.alloc (.cells #[.int .i64 x.k,.int .i64 x.a,.int .i64 x.b,.int .i64 x.c,.int .i64 x.n,.slice x.ls.a x.ls.n x.ls.c] 34)) x 34;rw[D] at h;intro j u r;have:=h j u r
  simpa using this
 have m:Hid (Rep k t w y (.slice a l.length c) l zs):=(g.out.1.bt H g.out.2).below q;have F:Hid (cz w.heap.size 68 y x.ls/\my w.heap.size y t (k+o7 t k)):=⟨by rw[S];exact(ho.mono g.out.1.b.size).below q,Blk.below hr q⟩;have E:=qa2 J A;have T:=hid m.out.b.size;clear hn hz ho hr J hxe S A D q H g;simp only[Ax.val,Ax.cells];go_wp2_with(at_builtin;rw[M.out];refine wpList_append_own y rfl (.tmp 24) (.tmp 26) 48 rfl w.heap.size 34 iA (.agg #[.int .i64 0,.int .i64 0,.int .i64 0,.int .i64 0,.int .i64 0,.slice none 0 0]) 6 64 underlying48 aw ao aj an rfl (by decide) (.slice a l.length c) l.length (vj l.length zs) rfl m.out.o ⟨f.heap.size+1,0,none⟩ 1 1 (xq x) rfl rfl L.out (λu hu=>by simp[xq] at hu;rcases hu with rfl|rfl|rfl|rfl|rfl|rfl<;>rfl) (by unfold maxLen;omega) (by omega) T.out ?_);intro v2 X r1 r2 _;obtain⟨a2,c2,rfl,-⟩:=Aq r1;have hg:=F4 m.out.o r2;have ai:Hid (Rep (k+o7 t k) t w X (.slice a2 (l.length+1) c2) (l++[rdA t k]) (Fh l.length zs x)):=m.out.more E.out.2 E.out.1 F.out.1 ak hg r1;have B:Hid (my w.heap.size X t (k+o7 t k)):=hg.blk F.out.2 (by decide);have y0:X.cell? ⟨w.heap.size,1,none⟩=some (.int .i64 ((k+o7 t k:Nat):Int)):=B.out.k 1;have y1:=Blk.lt B.out
 generalize hke:k+o7 t k=K2 at *
 clear r1 r2 hg m F E L M T hke
 try simp only[Act.put,Qvq,Qwx,Qwz]
 go_wp2_with fail;go_roundw
 case rel=>exact⟨l++[rdA t k],Fh l.length zs x,a2,c2,K2,by simp;omega,by simp,rfl,(by rw[show(l++[rdA t k]).length=l.length+1 by simp];exact ai.out),B.out⟩
 case measure=>simp[Z2];omega
def acn(w:World)(b:Nat)(x:Ax):Prop:=w.cell? ⟨b,0,none⟩=some (.int .i64 x.k)/\w.cell? ⟨b,1,none⟩=some (.int .i64 x.a)/\w.cell? ⟨b,2,none⟩=some (.int .i64 x.b)/\w.cell? ⟨b,3,none⟩=some (.int .i64 x.c)/\w.cell? ⟨b,4,none⟩=some (.int .i64 x.n)/\w.cell? ⟨b,5,none⟩=some (.slice x.ls.a x.ls.n x.ls.c)/\b<w.heap.size
def aa1(w:World)(b:Nat):Prop:=b<w.heap.size/\w.frozen? ⟨b,0,none⟩=false/\w.cell? ⟨b,0,none⟩=some (.slice .none 0 0)/\w.frozen? ⟨b,1,none⟩=false/\w.cell? ⟨b,1,none⟩=some (.slice .none 0 0)/\w.frozen? ⟨b,2,none⟩=false/\w.cell? ⟨b,2,none⟩=some (.slice .none 0 0)/\w.frozen? ⟨b,3,none⟩=false/\w.cell? ⟨b,3,none⟩=some (.slice .none 0 0)/\w.frozen? ⟨b,4,none⟩=false/\w.cell? ⟨b,4,none⟩=some (.slice .none 0 0)/\w.frozen? ⟨b,5,none⟩=false/\w.cell? ⟨b,5,none⟩=some (.slice .none 0 0)/\w.frozen? ⟨b,6,none⟩=false/\w.cell? ⟨b,6,none⟩=some (.slice .none 0 0)
theorem o8(p:Pl)(s:St)(x:Ax)(w:World)(m:p.At w)(hs:s.At w)(hx:x.ls.At w):∃f,Hid ((((w.alloc (.cells #[.slice p.ab p.nb p.cb,.slice p.sa p.ns p.cs] 25)).alloc (.cells #[.slice s.on.a s.on.n s.on.c,.slice s.os.a s.os.n s.os.c,.slice s.hs.a s.hs.n s.hs.c,.slice s.ms.a s.ms.n s.ms.c,.slice s.si.a s.si.n s.si.c,.slice s.so.a s.so.n s.so.c,.slice s.sf.a s.sf.n s.sf.c] 31)).alloc (.cells #[.int .i64 x.k,.int .i64 x.a,.int .i64 x.b,.int .i64 x.c,.int .i64 x.n,.slice x.ls.a x.ls.n x.ls.c] 34)).alloc (.cells #[.slice .none 0 0,.slice .none 0 0,.slice .none 0 0,.slice .none 0 0,.slice .none 0 0,.slice .none 0 0,.slice .none 0 0] 31)=f) /\
  Hid (∀g,Below f.heap.size f g->mf g w.heap.size (w.heap.size+1) p s/\p.At g/\s.At g/\Below w.heap.size w g/\Blk g (w.heap.size+3) 31 7 (λ_ => .slice .none 0 0)/\Blk g (w.heap.size+2) 34 6 (λj=>x.cells.getD j default)/\x.ls.At g) /\
  Hid (p.At f/\s.At f/\x.ls.At f)/\Hid (w.heap.size<=f.heap.size)/\mf f w.heap.size (w.heap.size+1) p s/\acn f (w.heap.size+2) x/\aa1 f (w.heap.size+3):=by
 obtain⟨f,o,e,l,i,d⟩:∃W,(((w.alloc (.cells #[.slice p.ab p.nb p.cb,.slice p.sa p.ns p.cs] 25)).alloc (.cells s.cells 31)).alloc (.cells x.cells 34)).alloc (.cells #[.slice .none 0 0,.slice .none 0 0,.slice .none 0 0,.slice .none 0 0,.slice .none 0 0,.slice .none 0 0,.slice .none 0 0] 31)=W/\Below w.heap.size w W/\mf W w.heap.size (w.heap.size+1) p s/\Blk W (w.heap.size+2) 34 6 (λj=>x.cells.getD j default)/\Blk W (w.heap.size+3) 31 7 (λ_ => .slice .none 0 0):=
  ⟨_,rfl,((j8 _ _ _).alloc (by simp;omega) _).alloc (by simp;omega) _,((ox w p s _ _).below (brf.alloc nlr _)).below (brf.alloc nlr _),(Blk.mk' (cur:=x.cells) (by simp) rfl).alloc _,(Blk.mk' (cur:=#[.slice .none 0 0,.slice .none 0 0,.slice .none 0 0,.slice .none 0 0,.slice .none 0 0,.slice .none 0 0,.slice .none 0 0]) (by simp) rfl).congr (λj q=>by match j,q with|0,_=>rfl|1,_=>rfl|2,_=>rfl|3,_=>rfl|4,_=>rfl|5,_=>rfl|6,_=>rfl)⟩
 exact⟨f,o,λg h=>⟨l.below h,(m.below e).below h,(hs.below e).below h,e.trans (h.mono e.size),d.below h,i.below h,(hx.below e).below h⟩,⟨m.below e,hs.below e,hx.below e⟩,e.size,l,⟨i.k 0,i.k 1,i.k 2,i.k 3,i.k 4,i.k 5,i.lt⟩,d.lt,d.frozen 0,d.k 0,d.frozen 1,d.k 1,d.frozen 2,d.k 2,d.frozen 3,d.k 3,d.frozen 4,d.k 4,d.frozen 5,d.k 5,d.frozen 6,d.k 6⟩
theorem Mw(p l q:Nat)(s:St)(order line:Int)(w:World)(hs:s.os.At w)(X:p<w.heap.size)(h2:l<w.heap.size)(M:q<w.heap.size)(c1:w.cell? ⟨p,1,none⟩=some (.slice s.os.a s.os.n s.os.c))(c2:w.cell? ⟨l,0,none⟩=some (.int .i64 order))(c3:w.cell? ⟨q,0,none⟩=some (.int .i64 line)):
  Calls prog 146 #[.pointer (some ⟨p,0,none⟩),.pointer (some ⟨l,0,none⟩),.pointer (some ⟨q,0,none⟩)] w λe J=>e = .returned (.bool (xc s order line))/\Below w.heap.size w J:=by
 have y:=hs.le;have f:=hs.cap;have t:=f;unfold maxLen at t;have K:s.os.n<=maxLen:=Qzx y f;have B:=Qqq c1;have V:=Qqq c2;have P:=Qqq c3;clear c1 c2 c3;cases j:inB order 0 ((s.os.n:Int)-1)
 .have r:Hid (xc s order line=true):=by show xc s order line=true;unfold xc;rw[j];rfl
  clear hs;go_enter func146,ntmps146;go_wp2_with fail;refine Qxq (by kernel_rfl) (by kernel_rfl) ?_
  repeat(go_big_quiet_step((go_at_call 47;exact Xxz ((dm _ _ _ (by assumption)).mono (λ_ _ h=>⟨h.1,h.2▸Below.refl _ _⟩)))))
  refine Qqz ?_;intro _ i;obtain⟨⟨E,v⟩,d⟩:=i;subst d;go_wp2_with fail;go_ret;exact⟨by rw[r.out];rfl,Qxx _ _ _⟩
 obtain⟨m,rfl⟩:=Qzz (aq j).1;have F:m<s.os.n:=by have:=(aq j).2;omega
 obtain⟨b,o,k,Y,G,x,u⟩:=hs.ods m F;have r:Hid (xc s (m:Int) line = !(inB line 0 (((s.os.z m).ls.n:Int)-1))):=by show xc s (m:Int) line=_;unfold xc;rw[j];rfl
 have g:=u.cap;have A:=u.le;have L:(s.os.z m).ls.n<=maxLen:=Qzx A g;have T:=Qqq x;have U:(0:Int)<=(m:Int):=by omega
 have W:(m:Int)<(s.os.n:Int):=by omega
 rw[k] at B;unfold maxLen at g;clear G x u hs k
 generalize (s.os.z m).ls.n=H at *
 generalize (s.os.z m).ls.c=S at *
 generalize (s.os.z m).ls.a=Q at *
 cases D:inB line 0 ((H:Int)-1)
 all_goals
  go_enter func146,ntmps146;go_wp2_with fail;refine Qxq (by kernel_rfl) (by kernel_rfl) ?_
  repeat(go_big_quiet_step((go_at_call 47;exact Xxz ((dm _ _ _ (by assumption)).mono (λ_ _ h=>⟨h.1,h.2▸Below.refl _ _⟩)))))
  refine Qqz ?_;intro _ i;obtain⟨⟨E,v⟩,d⟩:=i;subst d;go_wp2_with fail;go_ret;exact⟨by rw[r.out,D];simp,Qxx _ _ _⟩
theorem Nq(p:Pl)(s:St)(order line n but:Int)(w:World)(hp:p.At w)(hs:s.At w):
  Calls prog 103 #[p.val,s.val,.int .i64 order,.int .i64 line,.int .i64 n,.int .i64 but] w λe w'=>e = .returned (.int .i64 (fa p s order line n but))/\Below w.heap.size w w':=by
 obtain⟨W0,hW,aa,X0,K2,K3⟩:∃W,((((w.alloc (.cells #[.slice p.ab p.nb p.cb,.slice p.sa p.ns p.cs] 25)).alloc (.cells s.cells 31)).alloc (.cells #[.int .i64 order] 3)).alloc (.cells #[.int .i64 line] 3))=W/\Below w.heap.size w W/\mf W w.heap.size (w.heap.size+1) p s/\Blk W (w.heap.size+2) 3 1 (λ_ => .int .i64 order)/\Blk W (w.heap.size+3) 3 1 (λ_ => .int .i64 line):=
  ⟨_,rfl,((j8 _ _ _).alloc (by simp;omega) _).alloc (by simp;omega) _,((ox w p s _ _).below (brf.alloc nlr _)).below (brf.alloc nlr _),((Blk.mk' (cur:=#[.int .i64 order]) (by simp) rfl).congr (λj hj=>by match j,hj with|0,_=>rfl)).alloc _,(Blk.mk' (cur:=#[.int .i64 line]) (by simp) rfl).congr (λj hj=>by match j,hj with|0,_=>rfl)⟩
 have HC:Hid (∀T,Below W0.heap.size W0 T->mf T w.heap.size (w.heap.size+1) p s/\p.At T/\s.At T/\Below w.heap.size w T/\Blk T (w.heap.size+2) 3 1 (λ_ => .int .i64 order)/\Blk T (w.heap.size+3) 3 1 (λ_ => .int .i64 line)):=λT h=>⟨X0.below h,(hp.below aa).below h,(hs.below aa).below h,aa.trans (h.mono aa.size),K2.below h,K3.below h⟩;have HW:Hid ((((w.alloc (.cells #[.slice p.ab p.nb p.cb,.slice p.sa p.ns p.cs] 25)).alloc (.cells #[.slice s.on.a s.on.n s.on.c,.slice s.os.a s.os.n s.os.c,.slice s.hs.a s.hs.n s.hs.c,.slice s.ms.a s.ms.n s.ms.c,.slice s.si.a s.si.n s.si.c,.slice s.so.a s.so.n s.so.c,.slice s.sf.a s.sf.n s.sf.c] 31)).alloc (.cells #[.int .i64 order] 3)).alloc (.cells #[.int .i64 line] 3)=W0):=hW;have leb:=hp.leb;have ac:=hp.capb;have capb:=ac;unfold maxLen at capb;have E:p.nb<=maxLen:=Qzx leb ac;clear hW X0 K2 K3 hp hs;unfold Pl.val St.val;go_enter func103,ntmps103;go_wp2_with fail;rw[HW.out];obtain⟨X,m,f,x,-,-⟩:=HC.out W0 brf;refine(lm p s W0 m f).mono ?_;rintro e w1 ⟨rfl,hB⟩;clear X m f x HW;obtain⟨⟨⟨l1,d0,d1⟩,l2,P,c1,c2,c3,c4,c5,c6⟩,m,f,x,t,v⟩:=HC.out w1 hB;have g:=hid x;clear x;by_cases h0:ah p s=0;rotate_left
 .have i:Hid (fa p s order line n but=ah p s):=H6 h0;clear m f t v P c1 c2 c3 c4 c5 c6;go_wp2_with fail;go_ret;exact⟨by rw[i.out];rfl,g.out⟩
 have M:=hid h0;have HF:Hid (cw p s):=(ew h0).fm;rw[h0];clear h0;have ao:Hid (Calls prog 146 #[.pointer (some ⟨w.heap.size+1,0,none⟩),.pointer (some ⟨w.heap.size+1+1,0,none⟩),.pointer (some ⟨w.heap.size+1+1+1,0,none⟩)] w1 λe w'=>e = .returned (.bool (xc s order line))/\Below w1.heap.size w1 w'):=Mw (w.heap.size+1) (w.heap.size+2) (w.heap.size+3) s order line w1 f.os l2 t.lt v.lt c1 (t.k 0) (v.k 0);have eg:=enters_of func146 (by kernel_rfl) rfl;clear m f t v P c1 c2 c3 c4 c5 c6 d1;go_wp2_with fail;refine ao.out.mono ?_;rintro e w2 ⟨rfl,aq⟩;have bf:=hB.trans (aq.mono hB.size);clear l1 d0 l2 aq ao g hB eg;obtain⟨⟨⟨l1,d0,d1⟩,l2,P,c1,c2,c3,c4,c5,c6⟩,m,f,x,t,v⟩:=HC.out w2 bf;have g:=hid x;clear x;have Y:Hid (∀a b c d,xc s order line=a->inB n 0 200=b->(but !=-1)=c->inB but 0 ((p.nb:Int)-1)=d->qh p s order line n but=(a || !b||(c && !d))):=λa b c d e1 e2 e3 e4=>by unfold qh;rw[e1,e2,e3,e4]
 cases y:xc s order line;rotate_left
 .have i:Hid (fa p s order line n but=3):=z4 M.out (by rw[Y.out _ _ _ _ y rfl rfl rfl];rfl);clear m f t v P c1 c2 c3 c4 c5 c6 y;go_wp2_with fail;go_ret;exact⟨by rw[i.out];rfl,g.out⟩
 have ap:=y;cases m2:inB n 0 200
 .have i:Hid (fa p s order line n but=3):=z4 M.out (by rw[Y.out _ _ _ _ y m2 rfl rfl];rfl);clear m f t v P c1 c2 c3 c4 c5 c6 y ap;go_wp2_with(go_at_call 48;refine ag (cn _ _ _ _) ?_);go_ret;exact⟨by rw[i.out];rfl,g.out⟩
 cases m3:(but !=-1)
 .have L:Hid (qh p s order line n but=false):=by show qh p s order line n but=false;rw[Y.out _ _ _ _ y m2 m3 rfl];rfl
  have cf:=m3;obtain⟨a,b,-,-⟩:=Hg L.out;obtain⟨o,rfl⟩:=Qzz a.1;obtain⟨l,rfl⟩:=Qzz b.1;have ho:o<s.os.n:=a.2;have hl:l<(s.os.z o).ls.n:=b.2;obtain⟨bo,oo,S,bj,z0,z1,u⟩:=f.os.ods o ho;obtain⟨bl,ol,Q,bd,y0,y1,y2,y3⟩:=u.hds l hl;have u0:=t.k 0;have u1:=v.k 0;have u2:=t.lt;have u3:=v.lt;have q0:(0:Int)<=(o:Int):=by omega
  have q1:(o:Int)<(s.os.n:Int):=by omega
  have q2:(0:Int)<=(l:Int):=by omega
  have q3:(l:Int)<((s.os.z o).ls.n:Int):=by omega
  have v1:=f.os.le;have v2:=f.os.cap;have v3:=u.le;have v4:=u.cap;unfold maxLen at v2 v4;have F:Hid (¬(s.os.z o).k=1->fa p s o l n but=6):=λh=>Ei M.out L.out h;have A:Hid ((s.os.z o).k=1->((s.os.z o).ls.z l).n<n->fa p s o l n but=3):=λh U=>Eb M.out L.out h U;have H:Hid ((s.os.z o).k=1->¬((s.os.z o).ls.z l).n<n->fa p s o l n but=0):=λh U=>Hw M.out L.out h U;rw[S] at c1;rw[Q] at z1;clear m f t v P c2 c3 c4 c5 c6 y S Q u y0 y1 y2 a b Y
  generalize (s.os.z o).k=V at *
  generalize ((s.os.z o).ls.z l).n=B at *
  generalize (s.os.z o).ls.n=LN at *
  generalize (s.os.z o).ls.c=LC at *
  by_cases q:V=1;rotate_left
  .have i:Hid (fa p s o l n but=6):=F.out q;have g2:(V !=1)=true:=by simpa using q
   clear F A H q;go_wp2_with(first|(go_at_call 48;refine ag (cn _ _ _ _) ?_)|(go_at_call 47;refine ag (dm _ _ _ E) ?_));go_ret;exact⟨by rw[i.out];rfl,g.out⟩
  have g2:(V !=1)=false:=by rw[q];rfl
  have t1:=Qqq c1;have t2:=Qqq u0;have t3:=Qqq u1;have t4:=Qqq z1;have t5:=Qqq y3;have J:Hid (B<n->fa p s o l n but=3):=A.out q;have D:Hid (¬B<n->fa p s o l n but=0):=H.out q;clear F A H q;cases K:decide (B<n)
  .have i:Hid (fa p s o l n but=0):=D.out (of_decide_eq_false K);have g4:¬B<n:=of_decide_eq_false K;clear J D;go_wp2_with(first|(go_at_call 48;refine ag (cn _ _ _ _) ?_)|(go_at_call 47;refine ag (dm _ _ _ E) ?_));refine Qxq (by kernel_rfl) (by kernel_rfl) ?_
   repeat(go_big_quiet_step(fail))
   refine Qqz ?_;intro _ G;obtain⟨⟨dq,ai⟩,r⟩:=G;subst r;go_wp2_with fail;go_ret;exact⟨by rw[i.out];rfl,g.out.trans ((Qxx _ _ _).mono g.out.size)⟩
  have i:Hid (fa p s o l n but=3):=J.out (of_decide_eq_true K);have g4:B<n:=of_decide_eq_true K;clear J D;go_wp2_with(first|(go_at_call 48;refine ag (cn _ _ _ _) ?_)|(go_at_call 47;refine ag (dm _ _ _ E) ?_));refine Qxq (by kernel_rfl) (by kernel_rfl) ?_
  repeat(go_big_quiet_step(fail))
  refine Qqz ?_;intro _ G;obtain⟨⟨dq,ai⟩,r⟩:=G;subst r;go_wp2_with fail;go_ret;exact⟨by rw[i.out];rfl,g.out.trans ((Qxx _ _ _).mono g.out.size)⟩
 cases m4:inB but 0 ((p.nb:Int)-1)
 .have i:Hid (fa p s order line n but=3):=z4 M.out (by rw[Y.out _ _ _ _ y m2 m3 m4];rfl);clear m f t v P c1 c2 c3 c4 c5 c6 y ap;go_wp2_with(first|(go_at_call 48;refine ag (cn _ _ _ _) ?_)|(go_at_call 47;refine ag (dm _ _ _ E) ?_));go_ret;exact⟨by rw[i.out];rfl,g.out⟩
 have L:Hid (qh p s order line n but=false):=by show qh p s order line n but=false;rw[Y.out _ _ _ _ y m2 m3 m4];rfl
 obtain⟨a,b,-,-⟩:=Hg L.out;obtain⟨o,rfl⟩:=Qzz a.1;obtain⟨l,rfl⟩:=Qzz b.1;have ho:o<s.os.n:=a.2;have hl:l<(s.os.z o).ls.n:=b.2;obtain⟨bo,oo,S,bj,z0,z1,u⟩:=f.os.ods o ho;obtain⟨bl,ol,Q,bd,y0,y1,y2,y3⟩:=u.hds l hl;have u0:=t.k 0;have u1:=v.k 0;have u2:=t.lt;have u3:=v.lt;have q0:(0:Int)<=(o:Int):=by omega
 have q1:(o:Int)<(s.os.n:Int):=by omega
 have q2:(0:Int)<=(l:Int):=by omega
 have q3:(l:Int)<((s.os.z o).ls.n:Int):=by omega
 have v1:=f.os.le;have v2:=f.os.cap;have v3:=u.le;have v4:=u.cap;unfold maxLen at v2 v4;have F:Hid (¬(s.os.z o).k=1->fa p s o l n but=6):=λh=>Ei M.out L.out h;have A:Hid ((s.os.z o).k=1->((s.os.z o).ls.z l).n<n->fa p s o l n but=3):=λh U=>Eb M.out L.out h U;have H:Hid ((s.os.z o).k=1->¬((s.os.z o).ls.z l).n<n->fa p s o l n but=0):=λh U=>Hw M.out L.out h U;rw[S] at c1;rw[Q] at z1;clear m f t v P c2 c3 c4 c5 c6 y S Q u y0 y1 y2 a b Y
 generalize (s.os.z o).k=V at *
 generalize ((s.os.z o).ls.z l).n=B at *
 generalize (s.os.z o).ls.n=LN at *
 generalize (s.os.z o).ls.c=LC at *
 by_cases q:V=1;rotate_left
 .have i:Hid (fa p s o l n but=6):=F.out q;have g2:(V !=1)=true:=by simpa using q
  clear F A H q;go_wp2_with(first|(go_at_call 48;refine ag (cn _ _ _ _) ?_)|(go_at_call 47;refine ag (dm _ _ _ E) ?_));go_ret;exact⟨by rw[i.out];rfl,g.out⟩
 have g2:(V !=1)=false:=by rw[q];rfl
 have t1:=Qqq c1;have t2:=Qqq u0;have t3:=Qqq u1;have t4:=Qqq z1;have t5:=Qqq y3;have J:Hid (B<n->fa p s o l n but=3):=A.out q;have D:Hid (¬B<n->fa p s o l n but=0):=H.out q;clear F A H q;cases K:decide (B<n)
 .have i:Hid (fa p s o l n but=0):=D.out (of_decide_eq_false K);have g4:¬B<n:=of_decide_eq_false K;clear J D;go_wp2_with(first|(go_at_call 48;refine ag (cn _ _ _ _) ?_)|(go_at_call 47;refine ag (dm _ _ _ E) ?_));refine Qxq (by kernel_rfl) (by kernel_rfl) ?_
  repeat(go_big_quiet_step(fail))
  refine Qqz ?_;intro _ G;obtain⟨⟨dq,ai⟩,r⟩:=G;subst r;go_wp2_with fail;go_ret;exact⟨by rw[i.out];rfl,g.out.trans ((Qxx _ _ _).mono g.out.size)⟩
 have i:Hid (fa p s o l n but=3):=J.out (of_decide_eq_true K);have g4:B<n:=of_decide_eq_true K;clear J D;go_wp2_with(first|(go_at_call 48;refine ag (cn _ _ _ _) ?_)|(go_at_call 47;refine ag (dm _ _ _ E) ?_));refine Qxq (by kernel_rfl) (by kernel_rfl) ?_
 repeat(go_big_quiet_step(fail))
 refine Qqz ?_;intro _ G;obtain⟨⟨dq,ai⟩,r⟩:=G;subst r;go_wp2_with fail;go_ret;exact⟨by rw[i.out];rfl,g.out.trans ((Qxx _ _ _).mono g.out.size)⟩
attribute [local go_sem] Oper.semAt_some
theorem T1(p:Pl)(f:Bool){k:Nat}(h:k<=m):frL p f k <+: frL p f m:=by
 induction m with
 | zero=>rw[show k=0 by omega];exact List.prefix_refl _
 | succ m ih =>
  by_cases b:k=m+1
  .rw[b];exact List.prefix_refl _
  refine(ih (by omega)).trans ?_;by_cases a:(p.zb m).front=f
  .rw[uy a];exact List.prefix_append _ _
  rw[vo a];exact List.prefix_refl _
def zu(n₀ Bf:Nat)(A B:World):Prop:=Below n₀ A B/\(∀v,A.cell? ⟨Bf,0,none⟩=some v->B.cell? ⟨Bf,0,none⟩=some v)
theorem Tn(F:Fence)(n:Nat)(h6:F.fn 113)(Q:F.round=none)(hn:1<=n)(l Bp d j:Nat)(p:Pl)(f:Bool)(J U:List Int->World->Prop)
  (hY:∀pre x W,J pre W->pre.length<p.nb->YieldAt F (n-1) prog l #[.int .i64 x] W λe c =>
   (e = .returned (.bool true)/\J (pre++[x]) c/\zu j d W c)\/(e = .returned (.bool false)/\U (pre++[x]) c))
  (W:World) (hJ:AbidesFrom W.heap.size J) (E:j<=W.heap.size) (al:W.cell? ⟨Bp,0,none⟩=some (.slice p.ab p.nb p.cb)) (aa:W.cell? ⟨d,0,none⟩=some (.bool f)) (aj:p.nb<=p.cb) (K:p.cb<=maxLen)
  (hL:∀c,Below j W c->sl c p.ab p.nb p.zb) (h0:J [] W) :
  CallsIn F n prog 113 #[.func (.yield l) #[] #[],.pointer (some ⟨Bp,0,none⟩),.pointer (some ⟨d,0,none⟩)] W λe c=>(∃v,e = .returned v) /\
   ((∃ys,ys=frL p f p.nb/\J ys c)\/(∃pre,pre <+: frL p f p.nb/\U pre c)):=by
 unfold maxLen at K;have V:Hid (∀wr,Below j W wr->W.heap.size<=wr.heap.size):=λa h=>h.size;have H:Hid (∀pre A o,J pre A->J pre (A.alloc o)):=λpre A o h=>hJ pre A (A.alloc o) none h (World.grownBy_alloc A o none) (λr e=>by cases e);refine callsIn_of_wp func113 rfl h6 ?_ Q;simp only[ntmps113,List.size_toArray,List.length_cons,List.length_nil,Nat.reduceAdd,Nat.reduceSub,Array.replicate_succ,Array.replicate_zero,List.push_toArray,List.append_toArray,Xqx,Xqz]
 gi_wp2
 gi_loopw [9] (λi wr=>∃k:Nat,k<=p.nb/\i = .int .i64 k/\J (frL p f k) wr/\Below j W wr/\wr.cell? ⟨d,0,none⟩=some (.bool f)) (λi _=>p.nb-(intOf i).toNat)
 case atStart=>exact⟨0,Qxz _,rfl,h0,Below.refl _ _,aa⟩
 obtain⟨k,hk,rfl,t,m,s⟩:=hrel;by_cases T:k<p.nb;rotate_left
 .gi_wp2
  go_end0
  have P:k=p.nb:=by omega
  subst P;exact⟨⟨_,rfl⟩,.inl ⟨_,rfl,t⟩⟩
 obtain⟨b,o,B,hb,z0,z1,z2,z3⟩:=hL _ m k T;have m1:(0:Int)<=(k:Int):=by omega
 have u:d<wr.heap.size:=World.block_lt_of_cell? wr _ s;have ak:=Jc p f k;rw[B];clear B;by_cases y:(p.zb k).front=f;rotate_left
 .have g:=H.out _ wr (.cells #[.bool (p.zb k).front,.int .i64 (p.zb k).room,.int .i64 (p.zb k).low,.int .i64 (p.zb k).high] 112) t;rw[<-vo y] at g;have D:=m.alloc (Qzx E (V.out wr m)) (.cells #[.bool (p.zb k).front,.int .i64 (p.zb k).room,.int .i64 (p.zb k).low,.int .i64 (p.zb k).high] 112);have z:=(((Below.refl wr.heap.size wr).alloc nlr (.cells #[.bool (p.zb k).front,.int .i64 (p.zb k).room,.int .i64 (p.zb k).low,.int .i64 (p.zb k).high] 112)).cell (p:=⟨d,0,none⟩) u).trans s;have L:=qa3 g D z;clear g D z
  gi_wp2
  refine⟨λ_ h=>(by cases h),?_⟩
  gi_wp2
  go_roundw
  case rel=>exact⟨k+1,by omega,by go_num,L.out.1,L.out.2.1,L.out.2.2⟩
  case measure=>simp[intOf];omega
 rw[y] at z0;have g:=H.out _ wr (.cells #[.bool f,.int .i64 (p.zb k).room,.int .i64 (p.zb k).low,.int .i64 (p.zb k).high] 112) t;obtain⟨fn,tmps,assign,body,hy,X⟩:=hY (frL p f k) k _ g (by omega)
 gi_wp2
 refine X.mono ?_;rintro e M (⟨rfl,G,w⟩|⟨rfl,q⟩)
 .have Y:Below j W M:=(m.alloc (Qzx E (V.out wr m)) _).trans w.1;have S:M.cell? ⟨d,0,none⟩=some (.bool f):=w.2 _ ((((Below.refl wr.heap.size wr).alloc nlr _).cell (p:=⟨d,0,none⟩) u).trans s);rw[<-uy y] at G;clear w X
  gi_wp2
  go_roundw
  case rel=>exact⟨k+1,by omega,by go_num,G,Y,S⟩
  case measure=>simp[intOf];omega
 rw[<-uy y] at q
 gi_wp2
 refine Xzq (results_none rfl _ _ _) rfl ?_;exact⟨⟨_,rfl⟩,.inr ⟨frL p f (k+1),T1 p f (by omega),q⟩⟩
attribute [local go_sem] Oper.semAt_some
theorem F0{a:Nat}{A B C:World}(h:zu b a A B)(k:zu b a B C):zu b a A C:=⟨h.1.trans k.1,λv c=>k.2 v (h.2 v c)⟩
theorem Fg{e a:Nat}(i:e<=w.heap.size)(g:a<w.heap.size)(W:World)(l:Nat)(o b:Obj)(c:w.heap.size<=l)(h:W.heap[l]?=some o)(f:o.isCells=false)(d:o.isWalk=false):zu e a W (W.putObj l b):=
 ⟨belowK_b i W l o b c h f d,λv j=>((belowK_b nlr W l o b c h f d).cell (p:=⟨a,0,none⟩) g).trans j⟩
theorem Du(F:Fence)(n:Nat)(c:F.fn 64)(a:F.round=none)(p:Pl)(f:Bool)(w:World):
  CallsIn F n prog 64 #[p.val,.bool f] w λe b=>e = .returned (.func (.func 113) #[] #[.pointer (some ⟨w.heap.size,0,none⟩),.pointer (some ⟨w.heap.size+1,0,none⟩)])/\b=(w.alloc (.cells #[.slice p.ab p.nb p.cb,.slice p.sa p.ns p.cs] 25)).alloc (.cells #[.bool f] 4):=by
 unfold Pl.val;refine callsIn_of_wp func64 rfl c ?_ a;simp only[ntmps64,List.size_toArray,List.length_cons,List.length_nil,Nat.reduceAdd,Nat.reduceSub,Array.replicate_succ,Array.replicate_zero,List.push_toArray,List.append_toArray,Xqx,Xqz]
 gi_wp2
 go_ret;exact⟨rfl,rfl⟩
theorem Hx(F:Fence)(n:Nat)(u:F.fn 113)(m:F.round=none)(y:1<=n)(b a e:Nat)(p:Pl)(f:Bool)(w:World)(q:b<w.heap.size)(o:a<w.heap.size)(g:e<=w.heap.size)
  (k:w.cell? ⟨b,0,none⟩=some (.slice p.ab p.nb p.cb)) (r:w.cell? ⟨a,0,none⟩=some (.bool f)) (j:p.nb<=p.cb) (i:p.cb<=maxLen) (t:∀d,Below e w d->sl d p.ab p.nb p.zb) :
  SeqStopsK F n prog 113 #[.pointer (some ⟨b,0,none⟩),.pointer (some ⟨a,0,none⟩)] (λx:Int=>#[Value.int .i64 x]) (zu e a) (λys=>ys=frL p f p.nb) (λpre=>pre <+: frL p f p.nb) p.nb w:=λl J v W c A _ s z =>
 Tn F n u m y l b a e p f J v s W A (Qzx g c.size) ((c.cell (p:=⟨b,0,none⟩) q).trans k) ((c.cell (p:=⟨a,0,none⟩) o).trans r) j i (λd h=>t d ((c.mono g).trans h)) z
end Go.Proofs.YtbcacebifpagpafGreat

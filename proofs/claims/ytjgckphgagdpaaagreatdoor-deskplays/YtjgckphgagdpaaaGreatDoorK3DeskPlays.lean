/- Joined texts of DeskPlays. -/
import Derived.Test.YtjgckphgagdpaaaGreatDoorK2DeskPlays
import Derived.Laws.ResultCell
set_option maxHeartbeats 8000000
set_option maxRecDepth 100000
namespace Go.Proofs.YtjgckphgagdpaaaGreatDoor
variable{n b A g l c i m q r j R C M u:Nat}{P:Prop}{w a w' d X:World}{s x y:St}{W J K D:Int}{e t:TypeId}{p:Pl}{z H:Nat->Hd}{f O:Nat->Value}{Q:Exit->Act->World->Prop}{v U:Value}{V Y:Hs}{Z E:Int->Int->Int}{h:Hd}{xs:List Value}{S:World->Prop}{z' zs:Nat->Int}{a1:Act}
open _root_.Go.Proofs.Tryz
open Go.RowKit
set_option linter.unusedVariables false
theorem Rv{z:Nat->Hd}{h:Hd}(f:il h=true):∀n,aw n (df z)=false->∃i,Xu n z h i
 | 0,_=>⟨0,Nat.le_refl _,λq c=>absurd c (Qzq _),λq _ c=>absurd c (Qzq _)⟩
 | n+1,hr=>by
  obtain⟨i,b⟩:=Rv f n (Ln hr);have j:=b.le;by_cases hi:i=n
  .by_cases hc:oa (z n) h<0
   .exact⟨n+1,Nat.le_refl _,λq c=>by
     by_cases d:q=n
     .subst d;exact hc
     exact b.lo q ow,λq e g=>ow⟩
   refine⟨n,ow,λq c=>b.lo q ow,λq e g => ?_⟩;have:q=n:=ow;subst this;omega
  refine⟨i,ow,b.lo,λq e g => ?_⟩;by_cases d:q=n
  .subst d;have a:=b.hi i nlr ow;have k:=(C5 (cd hr i ow) f).1;have l:=(C5 (cd hr q ow) f).1;have m:=re hr i q ow ow;omega
  exact b.hi q e ow
theorem Uk(e:aw n (df z)=false)(c:il h=true):
  jr n z h<=n/\(∀j,j<jr n z h->bj (z j)<bj h)/\(∀j,jr n z h<=j->j<n->bj h<=bj (z j)):=by
 obtain⟨i,a⟩:=Rv c n e;rw[U1 a];have f:=a.le;refine⟨a.le,λj d => ?_,λj d b => ?_⟩
 .have:=a.lo j d;have:=(C5 (cd e j ow) c).1;omega
 have:=a.hi j d b;have:=(C5 (cd e j b) c).1;omega
theorem Vp{x y:Hd}(hx:il x=true)(f:il y=true)(h:bj x=bj y):bq x y.o y.l y.b=true:=by
 have a:=cw hx;have b:=cw f;unfold bj at h;have c:x.o=y.o:=ow;have d:x.l=y.l:=ow;have e:x.b=y.b:=ow;simp[bq,c,d,e]
theorem Lm(b:∀i,i<n->il (z i)=true)(hs:∀i,i+1<n->bj (z i)<bj (z (i+1))):aw n (df z)=false:=by
 rw[<-X6];refine dj λj c => ?_;unfold Av;rw[b j c];by_cases a:0<j
 .have:=hs (j-1) ow;rw[show j-1+1=j by omega] at this;simp only[Bool.not_true,Bool.false_or,Bool.and_eq_false_imp,decide_eq_true_eq,decide_eq_false_iff_not];intro _;omega
 simp[a]
theorem qf{k:Nat}{o l b:Int}(f:aw n (df z)=false)(a:k<n)(c:bq (z k) o l b=true):keptV n z o l b=(z k).n/\jy n z o l b=k:=by
 have lo:∀j,j<k->bq (z j) o l b=false:=λj d=>by
  cases e:bq (z j) o l b
  .rfl
  have:=Ku e c;have:=re f j k d a;omega
 exact⟨oy a lo c,Kf a lo c⟩
theorem ad5{o l b:Int}(f:aw n (df z)=false)(c:keptV n z o l b=0):∀j,j<n->bq (z j) o l b=false:=by
 rcases uj n z o l b with h|⟨k,a,d,e⟩
 .exact h
 rw[oy a d e] at c;have:=(cw (cd f k a)).2.2.2;omega
theorem F1(a:j<i):np z i h j=z j:=by unfold np;rw[if_pos a]
theorem Fz:np z i h i=h:=by unfold np;rw[if_neg ow,if_pos rfl]
theorem F0(a:i<j):np z i h j=z (j-1):=by unfold np;rw[if_neg ow,if_neg ow]
theorem F3:ud z i h i=h:=if_pos rfl
theorem Dk(a:¬j=i):ud z i h j=z j:=if_neg a
theorem afr{x y:Hd}{o l b:Int}(c:bq x y.o y.l y.b=true):bq x o l b=bq y o l b:=by
 have a:=fq c;unfold bq;rw[a.1,a.2.1,a.2.2]
theorem av2(hr:aw n (df z)=false)(hf:il h=true)(q:keptV n z h.o h.l h.b=0):
  aw (n+1) (df (np z (jr n z h) h))=false/\(∀o l b,keptV (n+1) (np z (jr n z h) h) o l b=keptV n z o l b+if bq h o l b then h.n else 0) /\
   jy (n+1) (np z (jr n z h) h) h.o h.l h.b=jr n z h:=by
 obtain⟨y,t,u⟩:=Uk hr hf;have no:=ad5 hr q
 generalize jr n z h=p at y t u ⊢
 have hs:∀j,p<=j->j<n->bj h<bj (z j):=λj r hjn=>by
  have a:=u j r hjn;have b:¬bj (z j)=bj h:=λe=>aow;omega
 have d:aw (n+1) (df (np z p h))=false:=by
  refine Lm (λi hi => ?_) (λi hi => ?_)
  .rcases Nat.lt_trichotomy i p with c|c|c
   .rw[F1 c];exact cd hr i ow
   .subst c;rw[Fz];exact hf
   rw[F0 c];exact cd hr (i-1) ow
  rcases Nat.lt_trichotomy i p with c|c|c
  .rw[F1 c];by_cases x:i+1=p
   .subst x;rw[Fz];exact t i ow
   rw[F1 ow];exact Cu hr i ow
  .subst c;rw[Fz,F0 ow];exact hs _ ow ow
  rw[F0 c,F0 ow];have:=Cu hr (i-1) ow;rw[show i-1+1=i+1-1 by omega] at this;exact this
 have f:=qf (o:=h.o) (l:=h.l) (b:=h.b) d (show p<n+1 by omega) (by rw[Fz];simp[bq]);refine⟨d,λo l b => ?_,f.2⟩;cases s:bq h o l b;rotate_left
 .have a:=fq s;rw[<-a.1,<-a.2.1,<-a.2.2,q,f.1,Fz];simp
 simp only[Bool.false_eq_true,if_false,Int.add_zero];rcases uj n z o l b with m|⟨k,w,v,h2⟩
 .rw[lq m];refine lq λj r => ?_;rcases Nat.lt_trichotomy j p with c|c|c
  .rw[F1 c];exact m j ow
  .subst c;rw[Fz];exact s
  rw[F0 c];exact m (j-1) ow
 rw[oy w v h2];by_cases g:k<p
 .have:=(qf (o:=o) (l:=l) (b:=b) d (show k<n+1 by omega) (by rw[F1 g];exact h2)).1;rw[this,F1 g]
 have e:np z p h (k+1)=z k:=by rw[F0 ow,Nat.add_sub_cancel]
 have:=(qf (o:=o) (l:=l) (b:=b) d (show k+1<n+1 by omega) aa4).1;rw[this,e]
theorem av3(m:aw n (df z)=false)(E:il h=true)(D:¬keptV n z h.o h.l h.b=0)(T:keptV n z h.o h.l h.b+h.n<=200):
  aw n (df (ud z (jr n z h) ⟨h.o,h.l,h.b,keptV n z h.o h.l h.b+h.n⟩))=false/\(∀o l b,keptV n (ud z (jr n z h) ⟨h.o,h.l,h.b,keptV n z h.o h.l h.b+h.n⟩) o l b=keptV n z o l b+if bq h o l b then h.n else 0) /\
   jy n (ud z (jr n z h) ⟨h.o,h.l,h.b,keptV n z h.o h.l h.b+h.n⟩) h.o h.l h.b=jr n z h/\jr n z h<n/\bq (z (jr n z h)) h.o h.l h.b=true/\jy n z h.o h.l h.b=jr n z h:=by
 obtain⟨V,L,M⟩:=Uk m E;obtain⟨r,s,A,B,Q⟩:=uu m D;have f:bj (z (jy n z h.o h.l h.b))=bj h:=H9 (n:=h.n) s;have H:jy n z h.o h.l h.b=jr n z h:=by
  rcases Nat.lt_trichotomy (jy n z h.o h.l h.b) (jr n z h) with c|c|c
  .have:=L _ c;omega
  .exact c
  have:=B _ c;have:=M _ nlr ow;omega
 rw[H] at r s A B Q f ⊢
 generalize jr n z h=p at V L M r s A B Q f H ⊢
 generalize hK:keptV n z h.o h.l h.b=K at D T A ⊢
 have X:=cw (cd m p r);have W:=cw E;have v:bj ⟨h.o,h.l,h.b,K+h.n⟩=bj (z p):=by rw[f];rfl
 have x:aw n (df (ud z p ⟨h.o,h.l,h.b,K+h.n⟩))=false:=by
  refine Lm (λi hi => ?_) (λi hi => ?_)
  .by_cases d:i=p
   .subst d;rw[F3];simp only[il,Xxx];exact⟨⟨⟨cy ow,cy ow⟩,cy ow⟩,cy (by show 1<=K+h.n/\K+h.n<=200;omega)⟩
   rw[Dk d];exact cd m i hi
  have q:=Cu m i hi;by_cases d:i=p
  .subst d;rw[F3,Dk ow,v];exact q
  rw[Dk d];by_cases g:i+1=p
  .rw[g,F3,v,<-g];exact q
  rw[Dk g];exact q
 have u:=qf (o:=h.o) (l:=h.l) (b:=h.b) x r (by rw[F3];simp[bq]);refine⟨x,λo l b => ?_,u.2,r,s,rfl⟩;cases y:bq h o l b
 .simp only[Bool.false_eq_true,if_false,Int.add_zero];have J:bq (z p) o l b=false:=by rw[afr s];exact y
  rcases uj n z o l b with G|⟨k,F,S,t⟩
  .rw[lq G];refine lq λj U => ?_;by_cases d:j=p
   .subst d;rw[F3];exact y
   rw[Dk d];exact G j U
  rw[oy F S t];have w:¬k=p:=λe=>by subst e;rw[J] at t;cases t
  have:=(qf (o:=o) (l:=l) (b:=b) x F (by rw[Dk w];exact t)).1;rw[this,Dk w]
 have a:=fq y;rw[<-a.1,<-a.2.1,<-a.2.2,hK,u.1,F3];simp
theorem C8{y:Nat->Hd}(p:aw n (df z)=false)(u:aw m (df y)=false)(t:∀o l b,keptV n z o l b=keptV m y o l b)(j:Nat)
  (v:∀i,i<j->i<m->i<n/\z i=y i) (d:j<n):j<m/\bj (y j)<=bj (z j):=by
 have a:=(qf p d (yp (z j))).1;have f:=(cw (cd p j d)).2.2.2;rw[t] at a;obtain⟨q,r,w,s,x⟩:=uu (o:=(z j).o) (l:=(z j).l) (b:=(z j).b) u ow
 generalize jy m y (z j).o (z j).l (z j).b=k at q r w s x
 have g:bj (y k)=bj (z j):=H9 (n:=(z j).n) r;have A:j<=k:=by
  rcases Nat.lt_or_ge k j with c|c
  .obtain⟨_,e⟩:=v k c q;have:=re p k j c d;rw[e] at this;omega
  exact c
 refine⟨ow,?_⟩;by_cases e:j=k
 .rw[e] at g ⊢;omega
 have:=s j ow;omega
theorem axb{y:Nat->Hd}(g:aw n (df z)=false)(f:aw m (df y)=false)(p:∀o l b,keptV n z o l b=keptV m y o l b):
  ∀k j,j<k->(j<n->j<m/\z j=y j)/\(j<m->j<n/\z j=y j):=by
 intro k
 induction k with
 | zero=>intro j w;omega
 | succ k ih =>
  intro j w;by_cases u:j<k
  .exact ih j u
  have e:j=k:=ow;subst e;have q:j<n->j<m->z j=y j:=λs t=>by
   have a:=(C8 g f p j (λi hi d=>(ih i hi).2 d) s).2;have b:=(C8 f g (λo l b=>(p o l b).symm) j (λi hi d=>⟨((ih i hi).1 d).1,((ih i hi).1 d).2.symm⟩) t).2;have v:=Vp (cd g j s) (cd f j t) ow;have r:=(qf g s v).1;have B:=(qf f t (yp (y j))).1;rw[p,B] at r;have c:=fq v;cases A:z j;cases x:y j;rw[A,x] at c r;simp only at c r;simp[c,r]
  exact⟨λh=>⟨(C8 g f p j (λi hi d=>(ih i hi).2 d) h).1,q h (C8 g f p j (λi hi d=>(ih i hi).2 d) h).1⟩,
   λh=>⟨(C8 f g (λo l b=>(p o l b).symm) j (λi hi d=>⟨((ih i hi).1 d).1,((ih i hi).1 d).2.symm⟩) h).1,q (C8 f g (λo l b=>(p o l b).symm) j (λi hi d=>⟨((ih i hi).1 d).1,((ih i hi).1 d).2.symm⟩) h).1 h⟩⟩
theorem ajs{y:Nat->Hd}(f:aw n (df z)=false)(e:aw m (df y)=false)(d:∀o l b,keptV n z o l b=keptV m y o l b):n=m/\∀j,j<n->z j=y j:=by
 have h:=axb f e d;refine⟨?_,λj a=>((h (j+1) j ow).1 a).2⟩;rcases Nat.lt_trichotomy n m with c|c|c
 .have:=((h (n+1) n ow).2 c).1;omega
 .exact c
 have:=((h (m+1) m ow).1 c).1;omega
theorem aqt(g:aw n (df z)=false)(f:il h=true)(i:keptV n z h.o h.l h.b+h.n<=200):
  aw (sw n z h) (df (Au n z h))=false/\∀o l b,keptV (sw n z h) (Au n z h) o l b=keptV n z o l b+if bq h o l b then h.n else 0:=by
 by_cases c:keptV n z h.o h.l h.b=0
 .have d:sw n z h=n+1:=if_pos c;have e:Au n z h=np z (jr n z h) h:=if_pos c;rw[d,e];obtain⟨a,b,_⟩:=av2 g f c;exact⟨a,b⟩
 have d:sw n z h=n:=if_neg c;have e:Au n z h=ud z (jr n z h) ⟨h.o,h.l,h.b,keptV n z h.o h.l h.b+h.n⟩:=if_neg c;rw[d,e];obtain⟨a,b,_⟩:=av3 g f c i;exact⟨a,b⟩
theorem aia(e:addE n z h=0):aw n (df z)=false/\il h=true/\keptV n z h.o h.l h.b+h.n<=200:=by
 unfold addE at e;by_cases a:ip n z=0
 .rw[if_pos a] at e;cases c:il h
  .rw[c] at e;simp at e
  rw[c] at e;simp only[if_true] at e;by_cases d:200<keptV n z h.o h.l h.b+h.n
  .rw[if_pos d] at e;omega
  exact⟨Iq a,rfl,ow⟩
 rw[if_neg a] at e;exact absurd e a
theorem Ci(h:aw n (df z)=false):ip n z=0:=by unfold ip;rw[h];rfl
theorem ady(c:aw n (df z)=false)(a:il h=true):addE n z h=if 200<keptV n z h.o h.l h.b+h.n then 3 else 0:=by
 unfold addE;rw[Ci c,a]
 rfl
theorem J7{y:Nat->Hd}(h:∀j,j<n->z j=y j):aw n (df z)=aw n (df y):=by
 have e:∀j,j<n->df z j=df y j:=λj a=>by
  unfold df;rw[h j a];by_cases c:0<j
  .rw[h (j-1) ow]
  simp[c]
 cases b:aw n (df y)
 .exact dj λj a=>by rw[e j a];exact dv b j a
 cases d:aw n (df z)
 .have:aw n (df y)=false:=dj λj a=>by rw[<-e j a];exact dv d j a
  rw[this] at b;cases b
 rfl
theorem A6{y:Nat->Hd}(h:∀j,j<n->z j=y j)(o l b:Int):keptV n z o l b=keptV n y o l b:=by
 rcases uj n y o l b with f|⟨k,c,d,e⟩
 .rw[lq f,lq λj a=>by rw[h j a];exact f j a]
 rw[oy c d e,oy c (λj a=>by rw[h j ow];exact d j a) (by rw[h k c];exact e),h k c]
theorem Dw{z y:Nat->Hd}(o l:Int):∀{n:Nat},(∀j,j<n->z j=y j)->keptS z o l n=keptS y o l n
 | 0,_=>rfl
 | n+1,h=>by
  simp only[keptS];rw[Dw o l (n:=n) λj a=>h j ow,h n ow]
theorem Hn.right{x:Hs}(hx:Hn n z h x)(e:addE n z h=0):
  aw x.n (df x.z)=false/\∀o l b,keptV x.n x.z o l b=keptV n z o l b+if bq h o l b then h.n else 0:=by
 obtain⟨a,b,c⟩:=aia e;obtain⟨r,k⟩:=aqt a b c;have f:x.n=sw n z h:=by have:=hx.1;rw[if_pos e] at this;exact this
 have d:=hx.2;rw[f] at d ⊢;exact⟨by rw[J7 d];exact r,λo l b=>by rw[A6 d];exact k o l b⟩
theorem Hn.none{x:Hs}(hx:Hn n z h x)(e:¬addE n z h=0):x.n=0:=by
 have:=hx.1;rw[if_neg e] at this;exact this
theorem js(r:am p s):ag p s=0:=by
 have f:=r.fm;have d:gz s=false:=by
  unfold gz;have a:decide (4<s.os.n)=false:=decide_eq_false (by have:=f.os4;omega);have b:decide (8<s.ms.n)=false:=decide_eq_false (by have:=f.ms8;omega);have l:aw s.os.n (λi=>ur (s.os.z i))=false:=dj λi hi=>by
   unfold ur;rw[cy (by have:=f.lns i hi;omega)]
   rfl
  rw[a,b,l]
  rfl
 have e:kt p s=false:=dj λi hi=>by
  unfold ni;rw[cy (f.kind i hi),dj λj c=>f.line i hi j c]
  rfl
 have g:ig p s=false:=by
  unfold ig;rw[Ci f.hold,dj f.home]
  rfl
 have e4:mm p s=false:=dj f.move;have k:∀{r:Rw} {low:Int},r.n=p.ns->(∀j,j<p.ns->low<=r.z j/\r.z j<=1048576)->nj p r low=false:=λ{r low} a b=>by
  unfold nj;rw[Xxq];refine⟨by simp[a],dj λj c => ?_⟩;rw[cy (b j ow)]
  rfl
 have e5:gt p s=false:=by
  unfold gt;rw[k f.sin f.sib,k f.son f.sob,k f.sfn f.sfb]
  rfl
 rw[Cv f.sh0 d e g e4 e5,show mh p s=false from dj r.goods,show me s=false from dj r.orders]
 rfl
theorem sp(a:0<=h.o/\h.o.toNat<s.os.n)(c:0<=h.l/\h.l.toNat<(s.os.z h.o.toNat).ls.n)(d:0<=h.b/\h.b<p.nb):jo p s h=false:=by
 unfold jo;rw[cy ow,cy ow,cy ow]
 rfl
theorem ui{x s:St}{b g:Int}:∀{k:Nat},(∀j,j<k->x.hs.z j=s.hs.z j)->(∀j,j<k->kf x (s.hs.z j)=kf s (s.hs.z j))->ce x b g k=ce s b g k
 | 0,_,_=>rfl
 | k+1,h1,h2=>by
  simp only[ce];rw[ui (k:=k) (λj a=>h1 j ow) (λj a=>h2 j ow),h1 k ow,h2 k ow]
theorem rm{x s:St}{b g:Int}:∀{k:Nat},(∀j,j<k->x.ms.z j=s.ms.z j)->bp x b g k=bp s b g k
 | 0,_=>rfl
 | k+1,h1=>by
  simp only[bp];rw[rm (k:=k) (λj a=>h1 j ow),h1 k ow]
theorem Nv{p:Pl}{x s:St}{b:Int}:∀{k:Nat},(∀j,j<k->x.ms.z j=s.ms.z j)->j8 p x b k=j8 p s b k
 | 0,_=>rfl
 | k+1,h1=>by
  simp only[j8];rw[Nv (k:=k) (λj a=>h1 j ow),h1 k ow]
section
variable {p:Pl} {x t:St}
theorem af.held(h:af x t)(f:cu p t)(b g:Int):ce x b g x.hs.n=ce t b g t.hs.n:=by
 rw[h.hs.1];refine ui (λj hj=>h.hs.2 j Js) (λj hj => ?_);obtain⟨a,c,-⟩:=je (f.home j hj);unfold kf;have o:=h.os.2 (t.hs.z j).o.toNat (by rw[h.os.1];exact a.2);rw[o.2.2 (t.hs.z j).l.toNat (by rw[o.2.1];exact c.2)]
theorem af.from(h:af x t)(b g:Int):bp x b g x.ms.n=bp t b g t.ms.n:=by
 rw[h.ms.1];exact rm λj hj=>h.ms.2 j Nz
theorem af.num(h:af x t)(f:cu p t)(hb:b<p.nb)(hg:g<p.ns):(x.on.r b).z g=(t.on.r b).z g:=by
 have hb':b<t.on.n:=G8;exact an8
theorem af.avail(h:af x t)(f:cu p t)(a:b<p.nb)(c:g<p.ns):aq x b g=aq t b g:=by
 unfold aq;rw[h.num f a c,h.held f,h.from]
theorem af.free(h:af x t)(f:cu p t)(a:b<p.nb):gw p x b=gw p t b:=by
 unfold gw;have e:ff (x.on.r b).z p.zs p.ns=ff (t.on.r b).z p.zs p.ns:=Hj λj hj=>h.num f a hj;rw[e,h.ms.1,Nv λj hj=>h.ms.2 j Nz]
theorem af.formed(h:af x t)(f:cu p t):cu p x:=by
 have g:=(yg f.sh0).1;have hs:yf p x.on:=⟨f.sh.pl,h.on.1.trans f.sh.n,λi hi=>(h.on.2 i hi).1.trans (f.sh.len i Jq),λi hi j hj=>by
  have a:i<t.on.n:=Jq;rw[h.num f (by rw[<-f.sh.n];exact a) hj];exact f.sh.num i a j hj⟩
 have o:∀i,i<x.os.n->i<t.os.n:=λi hi=>by rw[<-h.os.1];exact hi
 refine⟨hs,zw g hs,by rw[h.os.1];exact f.os4,by rw[h.ms.1];exact f.ms8,λi hi=>by rw[(h.os.2 i hi).2.1];exact f.lns i (o i hi),λi hi=>by rw[(h.os.2 i hi).1];exact f.kind i (o i hi),λi hi j hj => ?_,?_,λi hi => ?_,λi hi => ?_,h.si.1.trans f.sin,h.so.1.trans f.son,h.sf.1.trans f.sfn,λj hj => ?_,λj hj => ?_,λj hj => ?_⟩
 .rw[(h.os.2 i hi).2.2 j hj];exact f.line i (o i hi) j akl
 .rw[h.hs.1,J7 λj hj=>h.hs.2 j Js];exact f.hold
 .have a:i<t.hs.n:=by rw[<-h.hs.1];exact hi
  obtain⟨c,d,e⟩:=je (f.home i a);rw[h.hs.2 i hi];have b:(t.hs.z i).o.toNat<x.os.n:=by rw[h.os.1];exact c.2
  exact sp ⟨c.1,b⟩ ⟨d.1,by rw[(h.os.2 _ b).2.1];exact d.2⟩ e
 .exact apl
 .exact apj
 .exact api
 exact apk
theorem af.right(h:af x t)(r:am p t):am p x:=by
 have f:=r.fm;refine⟨h.formed f,λg hg => ?_,λi hi => ?_⟩
 .have:=r.goods g hg;rw[s9] at this ⊢;rw[<-this]
  congr 1
  .have e:cq (λi=>(x.on.r i).z g) x.on.n=cq (λi=>(t.on.r i).z g) t.on.n:=aos;rw[e,h.si.2 g alk,h.so.2 g alm,h.sf.2 g alo]
  exact sk λb l=>by rw[h.avail f l hg]
 have d:i<t.os.n:=So;have:=r.orders i d;rw[<-this];obtain⟨k,a,c⟩:=h.os.2 i hi;unfold cp;rw[k,a]
 congr 1
 .congr 2
  exact sk λj hj=>by rw[c j (by rw[a];exact hj)]
 refine sk λj hj => ?_;rw[c j (by rw[a];exact hj),h.hs.1,Dw _ _ λj hj=>h.hs.2 j Js]
end
open Go.Shelf
def frL(p:Pl)(f:Bool)(k:Nat):List Int:=((List.range k).filter (λi=>(p.zb i).front==f)).map Int.ofNat
theorem yj{f:Bool}{k:Nat}(h:(p.zb k).front=f):frL p f (k+1)=frL p f k++[(k:Int)]:=by simp[frL,List.range_succ,h]
theorem Br{f:Bool}{k:Nat}(h:¬(p.zb k).front=f):frL p f (k+1)=frL p f k:=by simp[frL,List.range_succ,h]
theorem Oq(p:Pl)(f:Bool)(k:Nat):(frL p f k).length<=k:=by
 unfold frL;rw[List.length_map];exact Qzx (List.length_filter_le _ _) vq
def gh(p:Pl):List Int:=frL p true p.nb++frL p false p.nb
theorem Rw.ofOwns{base:Nat}{xs:List Int}(h:w.ownsRow base 3 1 v xs.length (xs.map (Value.int .i64))):∃r:Rw,v=r.val/\r.At w/\r.n=xs.length/\∀j,j<r.n->r.z j=xs.getD j 0:=by
 by_cases f:v = .slice Option.none 0 0
 .subst f;have b:xs.length=0:=by
   rcases h.2 with⟨_,b⟩|⟨q,k,l,e,_⟩
   .exact b
   cases e
  exact⟨⟨Option.none,0,0,λ_=>0⟩,rfl,⟨Nat.le_refl _,Qxz _,λi hi=>absurd hi (Qzq _)⟩,b.symm,λj p=>absurd p (Qzq _)⟩
 obtain⟨g,c,rfl,m,o,s,d⟩:=Blk.ofOwns h f;rw[Nat.mul_one] at d;refine⟨⟨some ⟨g,0,Option.none⟩,xs.length,c,λj=>xs.getD j 0⟩,rfl,⟨m,o,λi hi => ?_⟩,rfl,λj _=>rfl⟩;have a:i<xs.length:=hi;refine⟨g,0,rfl,d.lt,?_⟩;have:=d.cell (j:=i) a;rw[Nat.zero_add,this];simp[List.getD,a]
theorem Xw(p:Pl)(w:World)(T:p.At w)(hn:p.nb<=6):
  Calls prog 161 #[p.val] w λe w'=>∃v,e = .returned v/\w'.ownsRow w.heap.size 3 1 v (gh p).length ((gh p).map (Value.int .i64))/\Bw w w':=by
 have leb:=T.leb;have capb:=T.capb;unfold maxLen at capb;have F:∃a,w.alloc (.cells #[.slice p.ab p.nb p.cb,.slice p.sa p.ns p.cs] 25)=a/\Bw w a/\a.heap.size=w.heap.size+1/\∀w1,Bw a w1->w1.cell? ⟨w.heap.size,0,Option.none⟩=some (.slice p.ab p.nb p.cb)/\w.heap.size<w1.heap.size :=
  ⟨_,rfl,(Below.refl w.heap.size w).alloc nlr _,vq,λw1 h=>⟨(h.cell (p:=⟨w.heap.size,0,Option.none⟩) vq).trans vq,by have:=h.size;simp at this;omega⟩⟩
 obtain⟨a,X,t,E,x⟩:=F;have HW:Hid (w.alloc (.cells #[.slice p.ab p.nb p.cb,.slice p.sa p.ns p.cs] 25)=a):=X;have V:=hid x;have W:Hid (∀w1,Bw a w1->p.At w1):=λw1 h=>(T.below t).below h;have HZ:=hid E;clear X x E;obtain⟨i1,hj,L,M,Q⟩:=info_parts Ad;simp only[Pl.val];go_enter func161,ntmps161;go_wp2_with fail;rw[HW.o]
 go_loopw [3,4] (λv i H=>∃k:Nat,k<=p.nb/\i = .int .i64 k/\H.ownsRow a.heap.size 3 1 v (frL p true k).length ((frL p true k).map (Value.int .i64))/\Bw a H) (λ_ i _=>p.nb-(intOf i).toNat)
 case atStart=>exact⟨0,Qxz _,rfl,World.ownsRow_nil _ _ _ _,Below.refl _ _⟩
 obtain⟨k,hk,rfl,D,hB⟩:=hrel;obtain⟨J,B⟩:=V.o _ hB;have l:=hid D;clear D;by_cases y:k<p.nb
 .obtain⟨b,o,n,hb,K,z1,z2,z3⟩:=(W.o _ hB).bins k y;rw[n] at J;clear n;have m1:(0:Int)<=(k:Int):=ow;cases r:(p.zb k).front
  .exact al9
  rw[r] at K;have Y:=Oq p true k;go_wp2_with(at_builtin;refine wpList_append_own _ rfl (.tmp 19) (.tmp 21) 23 rfl a.heap.size 3 i1 (.int .i64 0) 1 8 underlying23 hj L M Q rfl dc _ _ _ rfl (l.o.alloc _) ⟨wr.heap.size,0,Option.none⟩ 1 1 [.int .i64 k] rfl rfl ?c1 ?c2 ?c3 ?c4 ?c5 ?_)
  case c1 =>
   exact ab2
  case c2=>exact Td
  case c3=>unfold maxLen;omega
  case c4=>omega
  case c5=>have:=hB.size;simp;omega
  intro G s d c m;have f:=l.o.lt;have z:Bw a s:=(hB.alloc Jr _).grown c Ek (λq U=>(f q U).1);have S:Hid (s.ownsRow a.heap.size 3 1 G (frL p true (k+1)).length ((frL p true (k+1)).map (Value.int .i64))):=by
   show s.ownsRow a.heap.size 3 1 G (frL p true (k+1)).length ((frL p true (k+1)).map (Value.int .i64));rw[yj r]
   simpa using d
  clear d c m f;go_wp2_with fail;go_roundw
  case rel=>exact⟨k+1,ow,vo,S.o,z⟩
  case measure=>simp[intOf];omega
 have A:k=p.nb:=ow;subst A;go_wp2_with fail
 go_loopw [3,5] (λv i H=>∃k:Nat,k<=p.nb/\i = .int .i64 k/\H.ownsRow a.heap.size 3 1 v (frL p true p.nb++frL p false k).length ((frL p true p.nb++frL p false k).map (Value.int .i64))/\Bw a H) (λ_ i _=>p.nb-(intOf i).toNat)
 case atStart=>exact⟨0,Qxz _,rfl,by simpa[frL] using l.o,hB⟩
 clear l hB J B hk y;obtain⟨k,hk,rfl,D,hB⟩:=hrel;obtain⟨J,B⟩:=V.o _ hB;have l:=hid D;clear D;by_cases y:k<p.nb;rotate_left
 .go_wp2_with fail;go_ret;have A:k=p.nb:=ow;subst A;exact⟨_,rfl,⟨l.o.1,l.o.2.imp_right λ⟨g,cap,cur,h1,h2,h3⟩=>⟨g,cap,cur,h1,Qzx t.size h2,h3⟩⟩,t.trans (hB.mono t.size)⟩
 obtain⟨b,o,n,hb,K,z1,z2,z3⟩:=(W.o _ hB).bins k y;rw[n] at J;clear n;have m1:(0:Int)<=(k:Int):=ow;cases r:(p.zb k).front;rotate_left
 .exact al9
 rw[r] at K;have Y:=Oq p false k;have af:=Oq p true p.nb;go_wp2_with(at_builtin;refine wpList_append_own _ rfl (.tmp 37) (.tmp 39) 23 rfl a.heap.size 3 i1 (.int .i64 0) 1 8 underlying23 hj L M Q rfl dc _ _ _ rfl (l.o.alloc _) ⟨wr.heap.size,0,Option.none⟩ 1 1 [.int .i64 k] rfl rfl ?c1 ?c2 ?c3 ?c4 ?c5 ?_)
 case c1 =>
  exact ab2
 case c2=>exact Td
 case c3=>rw[List.length_append];unfold maxLen;omega
 case c4=>rw[List.length_append];omega
 case c5=>have:=hB.size;simp;omega
 intro G s d c m;have f:=l.o.lt;have z:Bw a s:=(hB.alloc Jr _).grown c Ek (λq U=>(f q U).1);have S:Hid (s.ownsRow a.heap.size 3 1 G (frL p true p.nb++frL p false (k+1)).length ((frL p true p.nb++frL p false (k+1)).map (Value.int .i64))):=by
  show s.ownsRow a.heap.size 3 1 G (frL p true p.nb++frL p false (k+1)).length ((frL p true p.nb++frL p false (k+1)).map (Value.int .i64));rw[yj r]
  simpa[Nat.add_assoc] using d
 clear d c m f;go_wp2_with fail;go_roundw
 case rel=>exact⟨k+1,ow,vo,S.o,z⟩
 case measure=>simp[intOf];omega
def acp(p:Pl)(x:Int):Bool:=(p.zb x.toNat).front
theorem Ac{f:Bool}{k:Nat}{x:Int}(h:x∈frL p f k):0<=x/\x<k/\acp p x=f:=by
 simp only[frL,List.mem_map,List.mem_filter,List.mem_range,beq_iff_eq] at h;obtain⟨i,⟨hi,a⟩,rfl⟩:=h;exact⟨Int.natCast_nonneg _,by simp only[Int.ofNat_eq_natCast];omega,a⟩
theorem Rb(p:Pl)(f:Bool):∀k,(frL p f k).Pairwise (· < ·)
 | 0=>by simp[frL]
 | k+1=>by
  by_cases h:(p.zb k).front=f
  .rw[yj h,List.pairwise_append];refine⟨Rb p f k,List.pairwise_singleton _ _,λx hx y a => ?_⟩;rw[List.mem_singleton] at a;have:=(Ac hx).2.1;omega
  rw[Br h];exact Rb p f k
theorem T9(p:Pl):∀k,(frL p true k).length+(frL p false k).length=k
 | 0=>by simp[frL]
 | k+1=>by
  have a:=T9 p k;cases h:(p.zb k).front
  .rw[yj h,Br aba,List.length_append,List.length_singleton];omega
  rw[yj h,Br aba,List.length_append,List.length_singleton];omega
theorem aee(p:Pl):(gh p).length=p.nb:=by
 unfold gh;rw[List.length_append,T9]
theorem Jy{x:Int}(h:x∈gh p):0<=x/\x<p.nb:=by
 unfold gh at h;rw[List.mem_append] at h;rcases h with h|h
 .exact⟨(Ac h).1,(Ac h).2.1⟩
 exact⟨(Ac h).1,(Ac h).2.1⟩
theorem acs(p:Pl):(gh p).Pairwise (λx y=>¬x=y/\(acp p y=true->acp p x=true)/\(acp p x=acp p y->x<y)):=by
 unfold gh;rw[List.pairwise_append];refine⟨?_,?_,λx hx y c => ?_⟩
 .refine List.Pairwise.imp_of_mem ?_ (Rb p true p.nb);intro x y hx c h;exact⟨ow,λ_=>(Ac hx).2.2,λ_=>h⟩
 .refine List.Pairwise.imp_of_mem ?_ (Rb p false p.nb);intro x y hx c h;refine⟨ow,λe => ?_,λ_=>h⟩;rw[(Ac c).2.2] at e;cases e
 have a:=(Ac hx).2.2;have b:=(Ac c).2.2;refine⟨λe => ?_,λe=>a,λe => ?_⟩
 .rw[e,b] at a;cases a
 rw[a,b] at e;cases e
def ahg(p:Pl):List Int:=if iu p=0 then gh p else []
theorem acr(h:iu p=0):ahg p=gh p:=if_pos h
theorem aww(h:¬iu p=0):ahg p=[]:=if_neg h
theorem arc{a:Nat}{size:Nat}(h:w.ownsRow A e size v n xs)(hA:a<=A):w.ownsRow a e size v n xs :=
 ⟨h.1,h.2.imp_right λ⟨g,cap,cur,h1,h2,h3⟩=>⟨g,cap,cur,h1,Qzx hA h2,h3⟩⟩
open Go.Sort
def ca(s:St)(b g:Int):Nat->Int
 | 0=>0
 | k+1=>ca s b g k+(if (s.ms.z k).b=b/\(s.ms.z k).o=g then(s.ms.z k).n else 0)
theorem Ge{b g:Int}{k:Nat}(a:(s.ms.z k).b=b)(c:(s.ms.z k).o=g):ca s b g (k+1)=ca s b g k+(s.ms.z k).n:=by simp only[ca];rw[if_pos ⟨a,c⟩]
theorem Be{b g:Int}{k:Nat}(h:¬((s.ms.z k).b=b/\(s.ms.z k).o=g)):ca s b g (k+1)=ca s b g k:=by simp only[ca];rw[if_neg h,Int.add_zero]
theorem nd{s:St}{b g:Int}:∀{n:Nat},(∀j,j<n->1<=(s.ms.z j).n/\(s.ms.z j).n<=200)->0<=ca s b g n/\ca s b g n<=200*n
 | 0,_=>by simp[ca]
 | n+1,h=>by
  have c:=nd (b:=b) (g:=g) (n:=n) λj a=>h j ow;have:=h n ow;simp only[ca]
  split<;>omega
theorem Pt{z z' zs:Nat->Int}{m:Nat}{d:Int}:∀{n:Nat},(∀j,j<n->z' j=z j+if j=m then d else 0)->ff z' zs n=ff z zs n+if m<n then d*zs m else 0
 | 0,_=>by simp[ff]
 | n+1,h=>by
  simp only[ff];rw[Pt (m:=m) (d:=d) (n:=n) λj c=>h j ow,h n ow];by_cases a:n=m
  .subst a;rw[if_pos rfl,if_neg (Nat.lt_irrefl n),if_pos ow,Int.add_mul];omega
  rw[if_neg a,Int.add_zero];by_cases b:m<n
  .rw[if_pos b,if_pos ow];omega
  rw[if_neg b,if_neg ow];omega
theorem T5{p:Pl}{s:St}(f:cu p s)(b:Int):∀n,n<=s.ms.n->ff (λg=>ca s b g n) p.zs p.ns=j8 p s b n
 | 0,_=>usedTo_zero' λj e=>rfl
 | n+1,hn=>by
  have i:=sl (f.move n ow);by_cases c:(s.ms.z n).b=b
  .rw[R6 c,<-T5 f b n ow,Pt (z:=λg=>ca s b g n) (m:=(s.ms.z n).o.toNat) (d:=(s.ms.z n).n) λj e => ?_,if_pos ow];by_cases a:j=(s.ms.z n).o.toNat
   .rw[if_pos a];exact Ge c ow
   rw[if_neg a,Int.add_zero];exact Be (λh=>a ow)
  rw[Ps c,<-T5 f b n ow];exact Hj λj e=>Be (λh=>c h.1)
where
 usedTo_zero' {z zs:Nat->Int}:∀{n:Nat},(∀j,j<n->z j=0)->ff z zs n=0
  | 0,_=>rfl
  | n+1,h=>by simp only[ff];rw[usedTo_zero' (n:=n) λj hj=>h j ow,h n ow];simp
theorem ad7{a b:Int}(ha:0<=a/\a<=1600)(c:1<=b/\b<=9):0<=a*b/\a*b<=14400:=amb
theorem Th{z zs:Nat->Int}{n:Nat}(h:∀j,j<n->(0<=z j/\z j<=1600)/\1<=zs j/\zs j<=9):∀k,k<=n->0<=ff z zs k/\ff z zs k<=14400*k
 | 0,_=>by simp[ff]
 | k+1,hk=>by
  have a:=Th h k ow;have:=ad7 (h k ow).1 (h k ow).2;simp only[ff];omega
theorem Fe(p:Pl)(s:St)(bin good:Nat)(w:World)(hs:s.At w)(f:cu p s):
  Calls prog 104 #[s.val,.int .i64 bin,.int .i64 good] w λe w'=>e = .returned (.int .i64 (ca s bin good s.ms.n))/\Bw w w':=by
 obtain⟨d,v,l,B⟩:∃d,w.alloc (.cells s.cells 36)=d/\Bw w d/\Blk d w.heap.size 36 7 (λj=>s.cells.getD j default):=⟨_,rfl,(Below.refl w.heap.size w).alloc nlr _,Blk.mk' rfl rfl⟩;have F:=hs.below l;have J:Hid (∀g,Bw d g->s.At g/\g.cell? ⟨w.heap.size,3,none⟩=some (.slice s.ms.a s.ms.n s.ms.c)/\w.heap.size<g.heap.size):=
  λg h=>⟨F.below h,(B.below h).k 3,(B.below h).lt⟩
 have X:=f.ms8;have L:Hid (∀k,k<=s.ms.n->0<=ca s bin good k/\ca s bin good k<=200*k):=λk D=>nd λj T=>f.moveN j ow;have K:Hid (w.alloc (.cells #[.slice s.on.a s.on.n s.on.c,.slice s.os.a s.os.n s.os.c,.slice s.hs.a s.hs.n s.hs.c,.slice s.ms.a s.ms.n s.ms.c,.slice s.si.a s.si.n s.si.c,.slice s.so.a s.so.n s.so.c,.slice s.sf.a s.sf.n s.sf.c] 36)=d):=v;simp only[St.val];clear B v;go_enter func104,ntmps104;go_wp2_with fail;rw[K.o]
 go_loopw [7,8] (λu i g=>∃k:Nat,k<=s.ms.n/\i = .int .i64 k/\u = .int .i64 (ca s bin good k)/\Bw d g) (λ_ i _=>s.ms.n-(intOf i).toNat)
 case atStart=>exact apd
 obtain⟨k,D,rfl,rfl,A⟩:=hrel;have V:=L.o k D;obtain⟨y,c3,M⟩:=J.o wr A;by_cases m:k<s.ms.n;rotate_left
 .have E:k=s.ms.n:=ow;subst E;go_wp2_with fail;go_ret;exact⟨rfl,l.trans (A.mono l.size)⟩
 obtain⟨b,q,x,S,z0,z1,z2,z3⟩:=y.ms.hds k m;have W:=f.moveN k m;have r:Hid (((s.ms.z k).b=bin/\(s.ms.z k).o=good->ca s bin good (k+1)=ca s bin good k+(s.ms.z k).n)/\(¬((s.ms.z k).b=bin/\(s.ms.z k).o=good)->ca s bin good (k+1)=ca s bin good k)):=⟨λh=>Ge h.1 h.2,Be⟩;have Y:(0:Int)<=(k:Int):=ow;rw[x] at c3;clear x y
 generalize ca s bin good k=U at *
 generalize (s.ms.z k).b=G at *
 generalize (s.ms.z k).n=Q at *
 generalize (s.ms.z k).o=H at *
 cases h1:(G==(bin:Int))
 .have t:=r.o.2 Jt;exact abh
 cases h2:(H==(good:Int))
 .have t:=r.o.2 aa2;exact abh
 have t:=r.o.1 ⟨xp,Bb⟩;exact abh
theorem O5(p:Pl)(s:St)(bin good:Nat)(w:World)(hs:s.At w)(f:cu p s)(hbin:bin<p.nb)(u:good<p.ns):
  Calls prog 109 #[s.val,.int .i64 bin,.int .i64 good] w λe w'=>e = .returned (.int .i64 (aq s bin good))/\Bw w w':=by
 obtain⟨W0,hW0,m,i⟩:∃W0,w.alloc (.cells s.cells 36)=W0/\Bw w W0/\Blk W0 w.heap.size 36 7 (λj=>s.cells.getD j default):=⟨_,rfl,(Below.refl w.heap.size w).alloc nlr _,Blk.mk' rfl rfl⟩;have l:=hs.below m;have o:bin<s.on.n:=aal;obtain⟨G,K,hoa,W,F,d⟩:=l.on.rows bin o;have q:=f.sh.len bin o;have T:=f.sh.num bin o good u;obtain⟨br,aa,A,X,L⟩:=d.ints good ow;have D:=d.le;have x:=d.cap;have U:=l.on.le;have v:=l.on.cap;unfold maxLen at x v;rw[A,q] at F;rw[q] at D;have V:=f.hs72;have m8:=f.ms8;have M:=pd (s:=s) (b:=bin) (g:=good) f.holdN;have S:=lm (s:=s) (b:=bin) (g:=good) f.moveN;have B:W0.cell? ⟨w.heap.size,0,none⟩=some (.slice s.on.a s.on.n s.on.c):=i.k 0;rw[hoa] at B;have y:=qa2 l hoa;have r0:=Qqq B;have r1:=Qqq (i.k 1);have r2:=Qqq (i.k 2);have r3:=Qqq (i.k 3);have r4:=Qqq (i.k 4);have r5:=Qqq (i.k 5);have r6:=Qqq (i.k 6);have r7:=Qqq F;have r8:=Qqq L;have H:Hid (∀t,s.At t->Calls prog 110 #[.agg #[.slice (some ⟨G,K,none⟩) s.on.n s.on.c,.slice s.os.a s.os.n s.os.c,.slice s.hs.a s.hs.n s.hs.c,.slice s.ms.a s.ms.n s.ms.c,.slice s.si.a s.si.n s.si.c,.slice s.so.a s.so.n s.so.c,.slice s.sf.a s.sf.n s.sf.c],.int .i64 bin,.int .i64 good] t λe w'=>e = .returned (.int .i64 (ce s bin good s.hs.n+bp s bin good s.ms.n))/\Bw t w'):=λt h=>by
  have:=Mt p s bin good t h f;rw[St.val,y.o.2] at this;exact this
 have HE:Hid (aq s bin good=(s.on.r bin).z good-(ce s bin good s.hs.n+bp s bin good s.ms.n)):=by show aq s bin good=_;unfold aq;omega
 have Q:Hid (w.alloc (.cells #[.slice (some ⟨G,K,none⟩) s.on.n s.on.c,.slice s.os.a s.os.n s.os.c,.slice s.hs.a s.hs.n s.hs.c,.slice s.ms.a s.ms.n s.ms.c,.slice s.si.a s.si.n s.si.c,.slice s.so.a s.so.n s.so.c,.slice s.sf.a s.sf.n s.sf.c] 36)=W0):=aj5;have q1:(0:Int)<=(bin:Int):=ow;have q2:(0:Int)<=(good:Int):=ow;simp only[St.val,hoa];clear i hW0 d q hoa A l B F L f hs
 generalize aq s bin good=AV at *
 have Y:0<=ce s bin good s.hs.n+bp s bin good s.ms.n/\ce s bin good s.hs.n+bp s bin good s.ms.n<=16000:=ow;clear M S
 generalize ce s bin good s.hs.n+bp s bin good s.ms.n=BD at *
 generalize (s.on.r bin).z good=ON at *
 generalize (s.on.r bin).c=RC at *
 go_enter func109,ntmps109;go_wp2_with fail;rw[Q.o];refine Qxq ko ko ?_
 repeat(go_big_quiet_step((go_at_call 110;exact Xxz (H.o _ (y.o.1.below (Qxx _ _ _))))))
 refine Qqz ?_;intro _ J;obtain⟨⟨dq,ab⟩,E⟩:=J;subst E;go_wp2_with fail;go_ret;exact⟨aa5,m.trans ((Qxx _ _ _).mono m.size)⟩
theorem Qp(p:Pl)(s:St)(bin:Nat)(w:World)(hp:p.At w)(hs:s.At w)(f:cu p s)(hbin:bin<p.nb):
  Calls prog 103 #[p.val,s.val,.int .i64 bin] w λe w'=>e = .returned (.int .i64 (gw p s bin))/\Bw w w':=by
 obtain⟨G,hW,ae,X0⟩:=Lf w p s;have V:=Ic hp hs ae X0;have HW:=hid hW;have x:=hid f;have ns3:=f.sh.pl.ns3;have ms8:=f.ms8;have J:bin<s.on.n:=aal;have ub:=zy (z:=(s.on.r bin).z) (zs:=p.zs) (n:=p.ns) (λj H=>⟨f.sh.num bin J j H,f.sh.pl.sizes j H⟩) p.ns nlr;have room:0<=(p.zb bin).room/\(p.zb bin).room<=1000:=by
  have:=f.sh.pl.bins bin hbin;exact abw
 have HU:Hid (∀k,k<=p.ns->0<=ff (λg=>ca s bin g s.ms.n) p.zs k/\ff (λg=>ca s bin g s.ms.n) p.zs k<=14400*k):=λk hk=>Th (n:=p.ns) (λj H=>⟨by have:=nd (s:=s) (b:=bin) (g:=j) f.moveN;omega,f.sh.pl.sizes j H⟩) k hk;have HE:Hid (gw p s bin=(p.zb bin).room-ff (s.on.r bin).z p.zs p.ns-ff (λg=>ca s bin g s.ms.n) p.zs p.ns):=by show gw p s bin=_;rw[T5 f bin s.ms.n nlr];rfl
 have q1:(0:Int)<=(bin:Int):=ow;clear hW X0 hp hs f;unfold Pl.val St.val;go_enter func103,ntmps103;go_wp2_with fail;rw[HW.o];obtain⟨X,l,m,hBw⟩:=V.o G brf;obtain⟨⟨l1,y,A⟩,l2,t,c1,c2,c3,c4,c5,c6⟩:=X;obtain⟨bb,bo,B,af,y0,y1,y2,y3⟩:=l.bins bin hbin;have q:=qa3 m.on l B;rw[B] at y;have Q:=Qqq y;have S:=Qqq A;have T:=Qqq t;have U:=Qqq y1;have K:Hid (∀d,p.At d->s.on.At d->Calls prog 159 #[.agg #[.slice (some ⟨bb,bo,none⟩) p.nb p.cb,.slice p.sa p.ns p.cs],.slice s.on.a s.on.n s.on.c,.int .i64 bin] d λe w'=>e = .returned (.int .i64 (ff (s.on.r bin).z p.zs p.ns))/\Bw d w'):=λd h1 h2=>by
  have:=aer p s.on bin d h1 h2 x.o.sh J;rw[Pl.val,q.o.2.2] at this;exact this
 clear B l m y A t c1 c2 c3 c4 c5 c6 y0 y1 y2 y3 HW
 generalize ff (s.on.r bin).z p.zs p.ns=US at *
 generalize (p.zb bin).room=RM at *
 refine Qxq ko ko ?_
 repeat(go_big_quiet_step((go_at_call 159;exact Xxz (K.o _ (q.o.2.1.below (Qxx _ _ _)) (q.o.1.below (Qxx _ _ _))))))
 refine Qqz ?_;intro _ E;obtain⟨⟨L,F⟩,o⟩:=E;subst o;have v:=Qxx G L F;clear Q S T U K q hBw l1 l2 af
 generalize grow (redrawn G L) F=wz at *
 go_wp2_with fail
 go_loopw [7,8] (λu i d=>∃k:Nat,k<=p.ns/\i = .int .i64 k/\u = .int .i64 (RM-US-ff (λg=>ca s bin g s.ms.n) p.zs k)/\Bw G d) (λ_ i _=>p.ns-(intOf i).toNat)
 case atStart=>exact⟨0,Qxz _,rfl,by simp[ff],v⟩
 clear v;obtain⟨g,hg,rfl,rfl,v⟩:=hrel;have ug:=HU.o g hg;obtain⟨X,l,m,hBw⟩:=V.o wr v;obtain⟨⟨l1,y,A⟩,l2,t,c1,c2,c3,c4,c5,c6⟩:=X;by_cases D:g<p.ns;rotate_left
 .have ai:g=p.ns:=ow;subst ai;clear l m t c1 c2 c3 c4 c5 c6;exact app
 obtain⟨b1,o1,e1,g1,z1⟩:=l.sizes g D;have qg:(0:Int)<=(g:Int):=ow;have ag:=nd (s:=s) (b:=bin) (g:=g) x.o.moveN;have M:0<=ca s bin g s.ms.n/\ca s bin g s.ms.n<=1600:=ow;have a9:=ad7 M (x.o.sh.pl.sizes g D);have Y:Hid (ff (λg=>ca s bin g s.ms.n) p.zs (g+1)=ff (λg=>ca s bin g s.ms.n) p.zs g+ca s bin g s.ms.n*p.zs g):=rfl;rw[e1] at A;have W:=hid m;have Q:=Qqq t;have S:=Qqq c1;have T:=Qqq c2;have U:=Qqq c3;have r4:=Qqq c4;have r5:=Qqq c5;have r6:=Qqq c6;have r7:=Qqq A;have r8:=Qqq z1;have ah:Hid (∀d,s.At d->Calls prog 104 #[.agg #[.slice s.on.a s.on.n s.on.c,.slice s.os.a s.os.n s.os.c,.slice s.hs.a s.hs.n s.hs.c,.slice s.ms.a s.ms.n s.ms.c,.slice s.si.a s.si.n s.si.c,.slice s.so.a s.so.n s.so.c,.slice s.sf.a s.sf.n s.sf.c],.int .i64 bin,.int .i64 g] d λe w'=>e = .returned (.int .i64 (ca s bin g s.ms.n))/\Bw d w'):=λd h=>Fe p s bin g d h x.o;have pz:=x.o.sh.pl.sizes g D;clear e1 l m y t c1 c2 c3 c4 c5 c6 z1 ag
 generalize ff (λg=>ca s bin g s.ms.n) p.zs g=U0 at *
 generalize ca s bin g s.ms.n=CM at *
 generalize p.zs g=PZ at *
 go_wp2_with fail;refine Qxq ko ko ?_
 repeat(go_big_quiet_step((go_at_call 104;exact Xxz (ah.o _ (W.o.below (Qxx _ _ _))))))
 refine Qqz ?_;intro _ E;obtain⟨⟨L,F⟩,o⟩:=E;subst o;clear Q S T U r4 r5 r6 r7 r8;go_wp2_with fail;go_roundw
 case rel=>exact⟨g+1,ow,vo,by rw[Y.o,Int.sub_sub _ U0],v.trans ((Qxx _ _ _).mono v.size)⟩
 case measure=>simp[intOf];omega
theorem af.symm{t:St}(h:af s t):af t s:=by
 refine⟨⟨h.on.1.symm,λi hi => ?_⟩,⟨h.os.1.symm,λi hi => ?_⟩,⟨h.hs.1.symm,λj hj=>(h.hs.2 j Js).symm⟩,⟨h.ms.1.symm,λj hj=>(h.ms.2 j Nz).symm⟩,⟨h.si.1.symm,λj hj=>(h.si.2 j (by rw[h.si.1];exact hj)).symm⟩,⟨h.so.1.symm,λj hj=>(h.so.2 j (by rw[h.so.1];exact hj)).symm⟩,⟨h.sf.1.symm,λj hj=>(h.sf.2 j (by rw[h.sf.1];exact hj)).symm⟩⟩
 .have x:=h.on.2 i (by rw[h.on.1];exact hi);exact⟨x.1.symm,λj hj=>(x.2 j (by rw[x.1];exact hj)).symm⟩
 have x:=h.os.2 i Sq;exact⟨x.1.symm,x.2.1.symm,λj hj=>(x.2.2 j (by rw[x.2.1];exact hj)).symm⟩
theorem af.trans{t u:St}(h:af s t)(k:af t u):af s u:=by
 refine⟨⟨h.on.1.trans k.on.1,λi hi => ?_⟩,⟨h.os.1.trans k.os.1,λi hi => ?_⟩,⟨h.hs.1.trans k.hs.1,λj a=>(h.hs.2 j a).trans (k.hs.2 j (by rw[<-h.hs.1];exact a))⟩,⟨h.ms.1.trans k.ms.1,λj a=>(h.ms.2 j a).trans (k.ms.2 j (by rw[<-h.ms.1];exact a))⟩,⟨h.si.1.trans k.si.1,λj a=>(h.si.2 j a).trans (k.si.2 j (by rw[<-h.si.1];exact a))⟩,⟨h.so.1.trans k.so.1,λj a=>(h.so.2 j a).trans (k.so.2 j (by rw[<-h.so.1];exact a))⟩,⟨h.sf.1.trans k.sf.1,λj a=>(h.sf.2 j a).trans (k.sf.2 j (by rw[<-h.sf.1];exact a))⟩⟩
 .have x:=h.on.2 i hi;have y:=k.on.2 i Jq;exact⟨x.1.trans y.1,λj a=>(x.2 j a).trans (y.2 j (by rw[<-x.1];exact a))⟩
 have x:=h.os.2 i hi;have y:=k.os.2 i So;exact⟨x.1.trans y.1,x.2.1.trans y.2.1,λj a=>(x.2.2 j a).trans (y.2.2 j (by rw[<-x.2.1];exact a))⟩
def mg(r:Rw)(j:Nat)(x:Int):Rw:=⟨r.a,r.n,r.c,λi=>if i=j then x else r.z i⟩
def setOn(s:St)(b g:Nat)(x:Int):St:=⟨⟨s.on.a,s.on.n,s.on.c,λi=>if i=b then mg (s.on.r i) g x else s.on.r i⟩,s.os,s.hs,s.ms,s.si,s.so,s.sf⟩
def setIn(s:St)(g:Nat)(x:Int):St:=⟨s.on,s.os,s.hs,s.ms,mg s.si g x,s.so,s.sf⟩
theorem ki.set{r:Rw}{G:Nat}(h:ki A w r)(c:r.a=some ⟨G,0,none⟩)(j:Nat)(x:Int):ki A (w.setCell ⟨G,j,none⟩ (.int .i64 x)) (mg r j x):=by
 obtain⟨g,b,e,f,k,l⟩:=h;rw[c] at b;simp only[co] at b;subst b;refine⟨G,c,e,f,k,(l.set j (.int .i64 x)).congr λi hi => ?_⟩;show(if i=j then _ else _)=Value.int .i64 (if i=j then x else r.z i);by_cases d:i=j<;>simp[d]
theorem ki.apart{r:Rw}{G:Nat}(h:ki A w r)(i:r.a≠some ⟨G,0,none⟩)(j:Nat)(u:Value):ki A (w.setCell ⟨G,j,none⟩ u) r:=by
 obtain⟨g,b,c,d,f,k⟩:=h;refine⟨g,b,c,d,f,k.other (a:=⟨G,j,none⟩) (λe=>i ?_) u⟩;rw[b,show g=G from e]
theorem agd{x:Int}(i:Nat):(if i=b then mg (s.on.r i) g x else s.on.r i).a=(s.on.r i).a:=by
 by_cases h:i=b<;>simp[h,mg]
theorem ah.setOn{G:Nat}(h:ah A w s)(o:b<s.on.n)(l:(s.on.r b).a=some ⟨G,0,none⟩)(g:Nat)(x:Int):ah A (w.setCell ⟨G,g,none⟩ (.int .i64 x)) (Go.Proofs.YtjgckphgagdpaaaGreatDoor.setOn s b g x):=by
 obtain⟨F,k,_,_,_,d⟩:=h.rows b o;rw[l] at k;simp only[co] at k;subst k;have q:=h.ari b o;rw[l] at q;refine⟨?_,λi hi => ?_,λi j u E => ?_,h.os.other d dc dc g _,h.hs.other d dc g _,h.ms.other d dc g _,h.msr.set _ _ _,h.si.apart (λe=>q.1 e.symm) g _,h.so.apart (λe=>q.2.1 e.symm) g _,h.sf.apart (λe=>q.2.2 e.symm) g _,h.aio,h.aif,h.aof,λi hi => ?_⟩
 .obtain⟨y,p,z,B,D,m⟩:=h.on;refine⟨y,p,z,B,D,(m.other (a:=⟨G,g,none⟩) (Blk.ne2 m d dc) _).congr λi hi => ?_⟩;show _=Value.slice (if i=b then mg (s.on.r i) g x else s.on.r i).a (if i=b then mg (s.on.r i) g x else s.on.r i).n (if i=b then mg (s.on.r i) g x else s.on.r i).c;by_cases f:i=b<;>simp[f,mg]
 .show ki A _ (if i=b then mg (s.on.r i) g x else s.on.r i);by_cases f:i=b
  .subst f;rw[if_pos rfl];exact(h.rows i hi).set l g x
  rw[if_neg f];refine(h.rows i hi).apart (λe => ?_) g _;rcases Nat.lt_or_gt_of_ne f with v|t
  .exact h.rapart i b v o (e.trans l.symm)
  exact h.rapart b i t hi (l.trans e.symm)
 .show(if i=b then mg (s.on.r i) g x else s.on.r i).a≠(if j=b then mg (s.on.r j) g x else s.on.r j).a;rw[agd,agd];exact h.rapart i j u E
 show(if i=b then mg (s.on.r i) g x else s.on.r i).a≠_/\(if i=b then mg (s.on.r i) g x else s.on.r i).a≠_/\(if i=b then mg (s.on.r i) g x else s.on.r i).a≠_;rw[agd];exact h.ari i hi
theorem ah.setIn{G:Nat}(h:ah A w s)(d:s.si.a=some ⟨G,0,none⟩)(g:Nat)(x:Int):ah A (w.setCell ⟨G,g,none⟩ (.int .i64 x)) (Go.Proofs.YtjgckphgagdpaaaGreatDoor.setIn s g x):=by
 obtain⟨o,c,_,_,_,b⟩:=h.si;rw[d] at c;simp only[co] at c;subst c;refine⟨?_,λi hi=>(h.rows i hi).apart (λe=>(h.ari i hi).1 (e.trans d.symm)) g _,h.rapart,h.os.other b dc dc g _,h.hs.other b dc g _,h.ms.other b dc g _,h.msr.set _ _ _,h.si.set d g x,h.so.apart (λe=>h.aio (d.trans e.symm)) g _,h.sf.apart (λe=>h.aif (d.trans e.symm)) g _,h.aio,h.aif,h.aof,h.ari⟩;obtain⟨k,j,l,m,n,f⟩:=h.on;exact⟨k,j,l,m,n,f.other (a:=⟨G,g,none⟩) (Blk.ne2 f b dc) _⟩
def ep(s:St)(b g:Nat):Int:=(s.on.r b).z g+ca s b g s.ms.n
def ic(p:Pl)(s:St)(bin good n:Int):Int :=
 if ag p s=0 then(if inB bin 0 ((p.nb:Int)-1)&&inB good 0 ((p.ns:Int)-1)&&inB n 1 200 then(if gw p s bin.toNat<n*p.zs good.toNat then 5 else if 200<ep s bin.toNat good.toNat+n\/1048576<s.si.z good.toNat+n then 2 else 0) else 3) else ag p s
def nx(s:St)(b g:Nat)(n:Int):St:=setIn (setOn s b g ((s.on.r b).z g+n)) g (s.si.z g+n)
def jb(E:Int)(t s':St):Prop:=(E=0->af s' t)/\(¬E=0->J2 s')
theorem Am{t:St}(h:af s t)(b g:Nat)(x:Int):af (setOn s b g x) (setOn t b g x):=by
 refine⟨⟨h.on.1,λi hi => ?_⟩,h.os,h.hs,h.ms,h.si,h.so,h.sf⟩;have y:=h.on.2 i hi;show(if i=b then mg (s.on.r i) g x else s.on.r i).n=(if i=b then mg (t.on.r i) g x else t.on.r i).n/\∀j,j<(if i=b then mg (s.on.r i) g x else s.on.r i).n->(if i=b then mg (s.on.r i) g x else s.on.r i).z j=(if i=b then mg (t.on.r i) g x else t.on.r i).z j;by_cases a:i=b
 .rw[if_pos a,if_pos a];refine⟨y.1,λj c => ?_⟩;show(if j=g then x else(s.on.r i).z j)=if j=g then x else(t.on.r i).z j;rw[y.2 j c]
 rw[if_neg a,if_neg a];exact y
theorem Lq{t:St}(h:af s t)(g:Nat)(x:Int):af (setIn s g x) (setIn t g x):=by
 refine⟨h.on,h.os,h.hs,h.ms,⟨h.si.1,λj a => ?_⟩,h.so,h.sf⟩;show(if j=g then x else s.si.z j)=if j=g then x else t.si.z j;rw[h.si.2 j a]
theorem mu{f:Func}{r u:Tmp}(p:f.results=#[.cell r 36,.tmp u]){a:Act}{c:Int}{T:St}{B:Nat}{g:Nat->Value}(s:Blk d B 36 7 g)(l:Bw w d)(n:w.heap.size<=B)(hx:W=c)(k:¬c=0)(o:a.tmps.getD r undef = .pointer (some ⟨B,0,none⟩))(q:a.tmps.getD u undef = .int .i64 c)(hd:a.defers=[]):
  bodyPost prog f (λe w'=>∃y:St,e = .returned (.tuple #[y.val,.int .i64 W])/\y.At w'/\jb W T y/\(W=0->ah w.heap.size w' y)/\Bw w w') Exit.ret a (((((((d.setCell ⟨B,0,none⟩ (.slice none 0 0)).setCell ⟨B,1,none⟩ (.slice none 0 0)).setCell ⟨B,2,none⟩ (.slice none 0 0)).setCell ⟨B,3,none⟩ (.slice none 0 0)).setCell ⟨B,4,none⟩ (.slice none 0 0)).setCell ⟨B,5,none⟩ (.slice none 0 0)).setCell ⟨B,6,none⟩ (.slice none 0 0)):=by
 have j:=pc s (.slice none 0 0) (.slice none 0 0) (.slice none 0 0) (.slice none 0 0) (.slice none 0 0) (.slice none 0 0) (.slice none 0 0);have i:=lr (b:=B) l n (.slice none 0 0) (.slice none 0 0) (.slice none 0 0) (.slice none 0 0) (.slice none 0 0) (.slice none 0 0) (.slice none 0 0);unfold set7 at j i;obtain⟨m,c1,c2,c3,c4,c5,c6⟩:=dp j
 generalize (((((((d.setCell ⟨B,0,none⟩ (.slice none 0 0)).setCell ⟨B,1,none⟩ (.slice none 0 0)).setCell ⟨B,2,none⟩ (.slice none 0 0)).setCell ⟨B,3,none⟩ (.slice none 0 0)).setCell ⟨B,4,none⟩ (.slice none 0 0)).setCell ⟨B,5,none⟩ (.slice none 0 0)).setCell ⟨B,6,none⟩ (.slice none 0 0))=E at *
 refine Xzq (v := .tuple #[mw.val,.int .i64 c]) ?_ hd ?_
 .rw[results_cell_tmp p,o,q];simp[go_sem,mw,St.val,m,c1,c2,c3,c4,c5,c6]
 exact⟨mw,by rw[hx],Df _,⟨λh=>absurd (hx.symm.trans h) k,λ_=>⟨rfl,rfl,rfl,rfl,rfl,rfl,rfl⟩⟩,λh=>absurd (hx.symm.trans h) k,i⟩
structure Tk where
 left:Int
 took:Int->Int
def Tk.step(av:Int->Int)(t:Tk)(b:Int):Tk:=⟨t.left-min t.left (av b),λx=>t.took x+if x=b then min t.left (av b) else 0⟩
def Tk.go(av:Int->Int)(n:Int)(l:List Int):Tk:=l.foldl (Tk.step av) ⟨n,λ_=>0⟩
theorem Tk.go_more(av:Int->Int)(n:Int)(l:List Int)(b:Int):Tk.go av n (l++[b])=(Tk.go av n l).step av b:=by
 unfold Tk.go;rw[List.foldl_append]
 rfl
structure Ce(av:Int->Int)(n:Int)(l:List Int)(t:Tk):Prop where
 left0:0<=t.left
 leftn:t.left<=n
 took0:∀x,0<=t.took x
 tookn:∀x,t.took x<=n-t.left
 had:∀x,x∈l->t.took x<=av x
 other:∀x,x ∉ l->t.took x=0
 all:0<t.left->∀x,x∈l->t.took x=av x
 sum:cq (λb=>t.took b) 6=n-t.left
theorem ayc{av:Int->Int}{n:Int}(u:0<=n):∀{l:List Int},l.Pairwise (λx y=>¬x=y)->(∀x,x∈l->0<=av x)->(∀x,x∈l->0<=x/\x<6)->Ce av n l (Tk.go av n l):=by
 suffices H:∀(k:Nat) (l:List Int),l.length=k->l.Pairwise (λx y=>¬x=y)->(∀x,x∈l->0<=av x)->(∀x,x∈l->0<=x/\x<6)->Ce av n l (Tk.go av n l) from λ{l}=>H l.length l rfl
 intro k
 induction k with
 | zero =>
  intro l g _ _ _;obtain rfl:=List.eq_nil_of_length_eq_zero g;exact⟨u,Int.le_refl _,λ_=>Int.le_refl _,λ_=>by show(0:Int)<=n-n;omega,λx h=>by simp at h,λ_ _=>rfl,λ_ x h=>by simp at h,by show(0:Int)+0+0+0+0+0+0=n-n;omega⟩
 | succ m ih =>
  intro l0 c hd j f;obtain⟨l,b,rfl⟩:∃l b,l0=l++[b]:=⟨l0.dropLast,l0.getLast (by intro e;rw[e] at c;simp at c),(List.dropLast_concat_getLast _).symm⟩;have o:l.length=m:=by simpa using c
  rw[List.pairwise_append] at hd;have q:b ∉ l:=λr=>hd.2.2 b r b vq rfl;have k:=ih l o hd.1 (λx hx=>j x (by simp[hx])) (λx hx=>f x (by simp[hx]));have w:=f b vq;have v:=j b vq;rw[Tk.go_more]
  generalize Tk.go av n l=t at k
  have E:=k.left0;have B:=k.leftn;have s:0<=min t.left (av b)/\min t.left (av b)<=t.left/\min t.left (av b)<=av b:=ow;have D:=k.other b q;refine⟨?_,?_,λx => ?_,λx => ?_,λx hx => ?_,λx hx => ?_,λg x hx => ?_,?_⟩
  .show 0<=t.left-min t.left (av b);omega
  .show t.left-min t.left (av b)<=n;omega
  .have:=k.took0 x;show 0<=t.took x+if x=b then min t.left (av b) else 0
   split<;>omega
  .have:=k.tookn x;show(t.took x+if x=b then min t.left (av b) else 0)<=n-(t.left-min t.left (av b))
   split<;>omega
  .show(t.took x+if x=b then min t.left (av b) else 0)<=av x;by_cases a:x=b
   .subst a;rw[if_pos rfl];omega
   rw[if_neg a];have:x∈l:=by simpa[a] using hx
   have:=k.had x this;omega
  .show(t.took x+if x=b then min t.left (av b) else 0)=0;have a:¬x=b:=λe=>hx N3;have p:x ∉ l:=λe=>hx N3;rw[if_neg a,k.other x p]
   rfl
  .have A:0<t.left-min t.left (av b):=g;show(t.took x+if x=b then min t.left (av b) else 0)=av x;by_cases a:x=b
   .subst a;rw[if_pos rfl];omega
   rw[if_neg a];have:x∈l:=by simpa[a] using hx
   have:=k.all ow x this;omega
  show cq (λx=>t.took x+if (x:Int)=b then min t.left (av b) else 0) 6=n-(t.left-min t.left (av b));have e:=k.sum;rw[Ei (z:=λx=>t.took x) (m:=b.toNat) (n:=min t.left (av b)) ow λi hi=>by
   by_cases d:i=b.toNat
   .have:((i:Nat):Int)=b:=ow;rw[if_pos this,if_pos d]
   have:¬((i:Nat):Int)=b:=ow;rw[if_neg this,if_neg d,Int.add_zero],e]
  omega
def fh(p:Pl)(but:Int):List Int:=(gh p).filter (λb => !(b==but))
theorem zz{but x:Int}:x∈fh p but↔x∈gh p/\¬x=but:=by
 unfold fh;rw[List.mem_filter];simp
theorem yd(p:Pl)(but:Int):(fh p but).Pairwise (λx y=>¬x=y):=((acs p).imp λh=>h.1).filter _
def dk(p:Pl)(s:St):Bool := !(kt p s||ig p s||mm p s||gt p s)
theorem Ys(hi:i<s.os.n)(h:ni p (s.os.z i)=true):dk p s=false:=by
 have:kt p s=true:=ir hi h;simp[dk,this]
theorem aq3(h:¬ip s.hs.n s.hs.z=0):dk p s=false:=by
 have:ig p s=true:=by simp[ig,h]
 simp[dk,this]
theorem av8(hi:i<s.hs.n)(h:jo p s (s.hs.z i)=true):dk p s=false:=by
 have:ig p s=true:=by unfold ig;rw[ir hi h,Bool.or_true]
 simp[dk,this]
theorem awc(hi:i<s.ms.n)(h:nt p (s.ms.z i)=true):dk p s=false:=by
 have:mm p s=true:=ir hi h;simp[dk,this]
theorem av9(h:¬s.si.n=p.ns):dk p s=false:=by
 have:gt p s=true:=by
  have a:((s.si.n:Int) !=(p.ns:Int))=true:=oq;simp[gt,nj,a]
 simp[dk,this]
theorem awa(h:¬s.so.n=p.ns):dk p s=false:=by
 have:gt p s=true:=by
  have a:((s.so.n:Int) !=(p.ns:Int))=true:=oq;simp[gt,nj,a]
 simp[dk,this]
theorem awb(h:¬s.sf.n=p.ns):dk p s=false:=by
 have:gt p s=true:=by
  have a:((s.sf.n:Int) !=(p.ns:Int))=true:=oq;simp[gt,nj,a]
 simp[dk,this]
theorem J8{l:Rw}(b:l.n=p.ns)(a:g<p.ns)(h:inB (l.z g) W 1048576=false):nj p l W=true:=by
 unfold nj;rw[ir (k:=g) ow (by rw[h];rfl),Bool.or_true]
theorem Mp{l:Rw}(a:l.n=p.ns)(h:∀g,g<p.ns->inB (l.z g) W 1048576=true):nj p l W=false:=by
 unfold nj;rw[dj λj b=>by rw[h j ow];rfl,a];simp
theorem Yt(h:nj p s.si 0=true\/nj p s.so 0=true\/nj p s.sf (-1048576)=true):dk p s=false:=by
 have:gt p s=true:=by
  unfold gt;rcases h with h|h|h<;>rw[h]<;>simp
 simp[dk,this]
def R4(s:St)(g:Nat):Bool:=inB (s.si.z g) 0 1048576&&inB (s.so.z g) 0 1048576&&inB (s.sf.z g) (-1048576) 1048576
theorem axc(f:∀i,i<s.os.n->ni p (s.os.z i)=false)(j:ip s.hs.n s.hs.z=0)(k:∀i,i<s.hs.n->jo p s (s.hs.z i)=false)(l:∀i,i<s.ms.n->nt p (s.ms.z i)=false)
  (b:s.si.n=p.ns/\s.so.n=p.ns/\s.sf.n=p.ns) (m:∀g,g<p.ns->R4 s g=true):dk p s=true:=by
 have c:kt p s=false:=dj f;have d:ig p s=false:=by unfold ig;rw[j,dj k];rfl
 have e:mm p s=false:=dj l;have e4:gt p s=false:=by
  have h:∀g,g<p.ns->(inB (s.si.z g) 0 1048576=true/\inB (s.so.z g) 0 1048576=true)/\inB (s.sf.z g) (-1048576) 1048576=true:=λg a=>by
   have:=m g a
   simpa[R4] using this
  unfold gt;rw[Mp b.1 λg a=>(h g a).1.1,Mp b.2.1 λg a=>(h g a).1.2,Mp b.2.2 λg a=>(h g a).2]
  rfl
 unfold dk;rw[c,d,e,e4]
 rfl
theorem Mw(h:ip n z=0):aw n (df z)=false:=apv
theorem zi{k:Nat}{f:Nat->Bool}{b:Bool}(h:∀j,j<k->f j=b)(c:f k=b):∀j,j<k+1->f j=b:=λj d=>by
 by_cases a:j=k
 .rw[a];exact c
 exact h j ow
theorem aff(p:Pl)(s:St)(w:World)(hp:p.At w)(hs:s.At w)(h0:fk p s.on=0)(h1:gz s=false):
  Calls prog 157 #[p.val,s.val] w λe w'=>e = .returned (.bool (dk p s))/\Bw w w':=by
 obtain⟨W0,hW,ck,X0⟩:=Lf w p s;have HC:=Ic hp hs ck X0;have HW:=hid hW;have HT:Hid (s.os.n<=4/\s.ms.n<=8/\(∀i,i<s.os.n->1<=(s.os.z i).ls.n/\(s.os.z i).ls.n<=3)):=by
  unfold gz at h1;simp only[Xxq,decide_eq_false_iff_not] at h1;refine⟨ow,ow,λi hi => ?_⟩;exact anq
 have leb:=hp.leb;have ad:=hp.capb;have les:=hp.les;have a2:=hp.caps;have os4:=HT.o.1;have ms8:=HT.o.2.1;clear hW X0 h0 h1 hp hs;unfold Pl.val St.val;go_enter func157,ntmps157;go_wp2_with fail;rw[HW.o]
 go_loopw [5] (λi t=>∃k:Nat,k<=s.os.n/\i = .int .i64 k/\(∀j,j<k->ni p (s.os.z j)=false)/\Bw W0 t) (λi _=>s.os.n-(intOf i).toNat)
 case atStart=>exact vu
 obtain⟨i,hi,rfl,D,hB⟩:=hrel;have HN:=hid D;clear D;obtain⟨X,v,d,hBw⟩:=HC.o wr hB;obtain⟨⟨V,T,U⟩,l2,K,c1,c2,c3,c4,c5,c6⟩:=X;by_cases r:i<s.os.n
 .obtain⟨b,o,S,hb,z0,z1,hl⟩:=d.os.ods i r;have q1:(0:Int)<=(i:Int):=ow;have d6:=(HT.o.2.2 i r);have cm:=hl.le;have a0:=hl.cap;unfold maxLen at a0;have HO:=hid S;have HE:Hid (ni p (s.os.z i)=(!inB (s.os.z i).k 0 2||aw (s.os.z i).ls.n (λj=>mq p ((s.os.z i).ls.z j)))):=rfl;rw[S] at c1;clear S hl d K c2 c3 c4 c5 c6 v;cases hk:inB (s.os.z i).k 0 2
  .have HX:Hid (dk p s=false):=Ys r (by rw[HE.o,hk];rfl)
   generalize (s.os.z i).k=KD at *
   exact abr
  have HE2:Hid (ni p (s.os.z i)=aw (s.os.z i).ls.n (λj=>mq p ((s.os.z i).ls.z j))):=by show ni p (s.os.z i)=_;rw[HE.o,hk];rfl
  clear HE
  generalize (s.os.z i).k=KD at *
  go_wp2_with(go_at_call 34;refine ap (da _ _ _ _) ?_);clear hk z0 hBw z1 c1 T U V l2 hb
  go_loopw [6] (λi0 t=>∃k:Nat,k<=(s.os.z i).ls.n/\i0 = .int .i64 k/\(∀j,j<k->mq p ((s.os.z i).ls.z j)=false)/\Bw W0 t) (λi0 _=>(s.os.z i).ls.n-(intOf i0).toNat)
  case atStart=>exact C0
  clear hB;obtain⟨j,hj,rfl,D,hB⟩:=hrel;have F:=hid D;clear D;obtain⟨X,v,d,hBw⟩:=HC.o wr hB;obtain⟨⟨V,T,U⟩,l2,K,c1,c2,c3,c4,c5,c6⟩:=X;obtain⟨b',o',S,hb,z0,z1,hl⟩:=d.os.ods i r;rw[HO.o] at S c1;simp only[co] at S;obtain⟨rfl,rfl⟩:=S;by_cases hlj:j<(s.os.z i).ls.n;rotate_left
  .have HA:Hid (ni p (s.os.z i)=false):=by show ni p (s.os.z i)=false;rw[HE2.o];exact dj λY d5=>F.o Y ow
   clear K c2 c3 c4 c5 c6 v d hl;go_wp2_with fail;go_roundw
   case rel=>exact⟨i+1,ow,vo,zi HN.o HA.o,hB⟩
   case measure=>simp[intOf];omega
  obtain⟨b2,o2,bp,cl,y0,y1,y2,y3⟩:=hl.hds j hlj;have q2:(0:Int)<=(j:Int):=ow;have f:Hid (mq p ((s.os.z i).ls.z j)=true->dk p s=false):=λh=>Ys r akm;have u:Hid (mq p ((s.os.z i).ls.z j)=false->∀Y,Y<j+1->mq p ((s.os.z i).ls.z Y)=false):=λh=>zi F.o h;have x:Hid (mq p ((s.os.z i).ls.z j)=(!inB ((s.os.z i).ls.z j).o 0 ((p.ns:Int)-1) || !inB ((s.os.z i).ls.z j).l 1 200 || !inB ((s.os.z i).ls.z j).b 0 ((s.os.z i).ls.z j).l || !inB ((s.os.z i).ls.z j).n 0 ((s.os.z i).ls.z j).l)):=rfl;rw[bp] at z1;clear bp hl d v K c2 c3 c4 c5 c6 z0 F
  generalize mq p ((s.os.z i).ls.z j)=BL at *
  generalize (s.os.z i).ls.z j=m at *
  obtain⟨E,ac,A,y⟩:∃E,wr.alloc (.cells #[.int .i64 m.o,.int .i64 m.l,.int .i64 m.b,.int .i64 m.n] 115)=E/\Bw W0 E/\Blk E wr.heap.size 115 4 (λj=>(#[.int .i64 m.o,.int .i64 m.l,.int .i64 m.b,.int .i64 m.n]:Array Value).getD j default):=⟨_,rfl,hB.alloc hB.size _,Blk.mk' rfl rfl⟩;obtain⟨W,G⟩:∃W,wr.heap.size=W:=⟨_,rfl⟩;rw[G] at y;have HV:=qa2 ac G;obtain⟨X,v,d,H⟩:=HC.o E A;clear ac G X v d;have HY:Hid (∀t,Bw E t->(t.cell? ⟨W,1,none⟩=some (.int .i64 m.l)/\t.cell? ⟨W,2,none⟩=some (.int .i64 m.b)/\t.cell? ⟨W,3,none⟩=some (.int .i64 m.n)/\W<t.heap.size)/\Bw W0 t/\Bw w t):=
   λt h=>⟨⟨(y.below h).k 1,(y.below h).k 2,(y.below h).k 3,(y.below h).lt⟩,A.trans (h.mono A.size),H.trans (h.mono H.size)⟩
  clear y A H hBw;go_wp2_with fail;rw[HV.o.1];refine(Ae p m.o E les a2).mono ?_;rintro e w2 ⟨rfl,Q⟩;rw[HV.o.2];obtain⟨⟨t1,t2,t3,l4⟩,ag,hBw⟩:=HY.o w2 Q;clear Q HY HV y0 y1 y2 y3 z1 c1 T U V l2 hb cl hB;cases B:inB m.o 0 ((p.ns:Int)-1)
  .exact aml
  cases J:inB m.l 1 200
  .have HX:Hid (dk p s=false):=f.o aah;exact abm
  cases k3:inB m.b 0 m.l
  .have HX:Hid (dk p s=false):=f.o Sd;exact abm
  cases k4:inB m.n 0 m.l
  .have HX:Hid (dk p s=false):=f.o Z6;exact abm
  have HX:=u.o Z6;have af:Hid _:=HX;clear x f u B HX;go_wp2_with(go_at_call 34;refine ap (da _ _ _ _) ?_);go_roundw
  case rel=>exact⟨j+1,ow,vo,af.o,ag⟩
  case measure=>simp[intOf];omega
 have b9:Hid (∀j,j<s.os.n->ni p (s.os.z j)=false):=λj hj=>HN.o j ow;clear HN;have bm:=hid d.hs;clear d v K c3 c4 c5 c6 hBw T U;go_wp2_with fail;refine(Tr s.hs wr bm.o).mono ?_;rintro e w2 ⟨rfl,Q⟩;have hB:=hB.trans (Q.mono hB.size);clear Q bm c1 c2 V l2 r hi;by_cases h0:ip s.hs.n s.hs.z=0;rotate_left
 .have HX:Hid (dk p s=false):=aq3 h0;obtain⟨X,v,d,hBw⟩:=HC.o w2 hB;clear X v d;exact zx
 have H0:=hid h0;have d2:s.hs.n<=72:=zv (Mw h0);rw[h0];clear h0;go_wp2_with fail
 go_loopw [8] (λi t=>∃k:Nat,k<=s.hs.n/\i = .int .i64 k/\(∀j,j<k->jo p s (s.hs.z j)=false)/\Bw W0 t) (λi _=>s.hs.n-(intOf i).toNat)
 case atStart=>exact C0
 clear hB;obtain⟨k,hk,rfl,D,hB⟩:=hrel;have F:=hid D;clear D;obtain⟨X,v,d,hBw⟩:=HC.o wr hB;obtain⟨⟨V,T,U⟩,l2,K,c1,c2,c3,c4,c5,c6⟩:=X;by_cases r:k<s.hs.n
 .obtain⟨b,q,bo,hb,z0,z1,z2,z3⟩:=d.hs.hds k r;have an:=cw (cd (Mw H0.o) k r);obtain⟨L,be⟩:=Qzz an.1.1;obtain⟨ml,bd⟩:=Qzz an.2.1.1;have q4:(0:Int)<=(k:Int):=ow;have q2:(0:Int)<=(L:Int):=ow;have q3:(0:Int)<=(ml:Int):=ow;have f:Hid (jo p s (s.hs.z k)=true->dk p s=false):=λh=>av8 r h;have u:Hid (jo p s (s.hs.z k)=false->∀Y,Y<k+1->jo p s (s.hs.z Y)=false):=λh=>zi F.o h;have x:Hid (jo p s (s.hs.z k)=(!inB L 0 ((s.os.n:Int)-1) || !inB ml 0 (((s.os.z L).ls.n:Int)-1) || !inB (s.hs.z k).b 0 ((p.nb:Int)-1))):=by
   show jo p s (s.hs.z k)=_;unfold jo;rw[be,bd]
   rfl
  rw[be] at z0;rw[bd] at z1;rw[bo] at c2;clear be bd an F bo
  generalize jo p s (s.hs.z k)=BL at *
  generalize (s.hs.z k).b=HB at *
  generalize (s.hs.z k).n=bn at *
  obtain⟨E,ac,A,y,d3⟩:∃E,wr.alloc (.cells #[.int .i64 L,.int .i64 ml,.int .i64 HB,.int .i64 bn] 107)=E/\Bw W0 E/\Blk E wr.heap.size 107 4 (λj=>(#[.int .i64 L,.int .i64 ml,.int .i64 HB,.int .i64 bn]:Array Value).getD j default)/\Bw wr E:=⟨_,rfl,hB.alloc hB.size _,Blk.mk' rfl rfl,brf.alloc nlr _⟩;have HV:=hid ac;obtain⟨X,bv,az,H⟩:=HC.o E A;obtain⟨⟨m1,e0,e1⟩,m2,f0,f1,f2,f3,f4,f5,f6⟩:=X;have r0:=Qqq (y.k 0);have r1:=Qqq (y.k 1);have r2:=Qqq (y.k 2);have r3:=Qqq e0;have r4:=Qqq e1;clear e0 e1 f0 f2 f3 f4 f5 f6 bv ac;by_cases g1:L<s.os.n;rotate_left
  .have ci:(s.os.n:Int)<=(L:Int):=ow;have B:inB L 0 ((s.os.n:Int)-1)=false:=Rg ow;have r5:=Qqq f1;have HX:Hid (dk p s=false):=f.o (by rw[x.o,B];rfl);clear x f u B f1 az;exact auq
  obtain⟨b1,o1,S,d4,-,y1,hl⟩:=az.os.ods L g1;have cm:=hl.le;have a0:=hl.cap;have l3:=HT.o.2.2 L g1;unfold maxLen at a0;rw[S] at f1;have r5:=Qqq f1;have r6:=Qqq y1;have ci:¬(s.os.n:Int)<=(L:Int):=ow;have dx:¬s.os.n<=L:=ow;have B:inB L 0 ((s.os.n:Int)-1)=true:=cy ow;clear S hl az f1 y1
  generalize (s.os.z L).ls.n=LN at *
  generalize (s.os.z L).ls.a=LA at *
  generalize (s.os.z L).ls.c=LC at *
  by_cases g2:ml<LN;rotate_left
  .have dy:(LN:Int)<=(ml:Int):=ow;have J:inB ml 0 ((LN:Int)-1)=false:=Rg ow;have HX:Hid (dk p s=false):=f.o aah;clear x f u B J;exact auq
  have dz:¬LN<=ml:=ow;have J:inB ml 0 ((LN:Int)-1)=true:=cy ow;cases k3:inB HB 0 ((p.nb:Int)-1)
  .have HX:Hid (dk p s=false):=f.o Sd;clear x f u B J;go_wp2_with fail;rw[HV.o];refine Qxq ko ko ?_
   repeat(go_big_quiet_step((go_at_call 78;exact Xxz (zq p HB _ leb ad))))
   refine Qqz ?_;intro _ au;obtain⟨⟨dq,br⟩,ai⟩:=au;subst ai;rw[k3];exact ax2
  have HX:=u.o Sd;have af:Hid _:=HX;clear x f u B J HX;go_wp2_with fail;rw[HV.o];refine Qxq ko ko ?_
  repeat(go_big_quiet_step((go_at_call 78;exact Xxz (zq p HB _ leb ad))))
  refine Qqz ?_;intro _ au;obtain⟨⟨dq,br⟩,ai⟩:=au;subst ai;rw[k3];go_wp2_with fail;go_roundw
  case rel=>exact⟨k+1,ow,vo,af.o,A.trans ((Qxx _ _ _).mono A.size)⟩
  case measure=>simp[intOf];omega
 have ca:Hid (∀j,j<s.hs.n->jo p s (s.hs.z j)=false):=λj hj=>F.o j ow;clear F;go_wp2_with fail;clear d v K c1 c2 c3 c4 c5 c6 T U hBw V l2 r hk
 go_loopw [10] (λi t=>∃k:Nat,k<=s.ms.n/\i = .int .i64 k/\(∀j,j<k->nt p (s.ms.z j)=false)/\Bw W0 t) (λi _=>s.ms.n-(intOf i).toNat)
 case atStart=>exact C0
 clear hB;obtain⟨k,hk,rfl,D,hB⟩:=hrel;have F:=hid D;clear D;obtain⟨X,v,d,hBw⟩:=HC.o wr hB;obtain⟨⟨V,T,U⟩,l2,K,c1,c2,c3,c4,c5,c6⟩:=X;by_cases r:k<s.ms.n
 .obtain⟨b,q,bq,hb,z0,z1,z2,z3⟩:=d.ms.hds k r;have q4:(0:Int)<=(k:Int):=ow;have f:Hid (nt p (s.ms.z k)=true->dk p s=false):=λh=>awc r h;have u:Hid (nt p (s.ms.z k)=false->∀Y,Y<k+1->nt p (s.ms.z Y)=false):=λh=>zi F.o h;have x:Hid (nt p (s.ms.z k)=(!inB (s.ms.z k).o 0 ((p.ns:Int)-1) || !inB (s.ms.z k).l 0 ((p.nb:Int)-1) || !inB (s.ms.z k).b 0 ((p.nb:Int)-1)||((s.ms.z k).l==(s.ms.z k).b) || !inB (s.ms.z k).n 1 200)):=rfl;rw[bq] at c3;clear bq d v K c1 c2 c4 c5 c6 F
  generalize nt p (s.ms.z k)=BL at *
  generalize s.ms.z k=m at *
  obtain⟨E,ac,A,y⟩:∃E,wr.alloc (.cells #[.int .i64 m.o,.int .i64 m.l,.int .i64 m.b,.int .i64 m.n] 110)=E/\Bw W0 E/\Blk E wr.heap.size 110 4 (λj=>(#[.int .i64 m.o,.int .i64 m.l,.int .i64 m.b,.int .i64 m.n]:Array Value).getD j default):=⟨_,rfl,hB.alloc hB.size _,Blk.mk' rfl rfl⟩;obtain⟨W,G⟩:∃W,wr.heap.size=W:=⟨_,rfl⟩;rw[G] at y;have HV:=qa2 ac G;have HY:Hid (∀t,Bw E t->(t.cell? ⟨W,1,none⟩=some (.int .i64 m.l)/\t.cell? ⟨W,2,none⟩=some (.int .i64 m.b)/\t.cell? ⟨W,3,none⟩=some (.int .i64 m.n)/\W<t.heap.size)/\(w.heap.size<t.heap.size/\t.cell? ⟨w.heap.size,0,none⟩=some (.slice p.ab p.nb p.cb)/\t.cell? ⟨w.heap.size,1,none⟩=some (.slice p.sa p.ns p.cs))/\Bw W0 t/\Bw w t):=
   λt h=>⟨⟨(y.below h).k 1,(y.below h).k 2,(y.below h).k 3,(y.below h).lt⟩,(HC.o t (A.trans (h.mono A.size))).1.1,A.trans (h.mono A.size),(HC.o t (A.trans (h.mono A.size))).2.2.2⟩
  clear y A hBw ac G;go_wp2_with fail;rw[HV.o.1];refine(Ae p m.o E les a2).mono ?_;rintro e w2 ⟨rfl,Q⟩;rw[HV.o.2];clear T U V l2 hb hB z0 z1 z2 z3 c3 HV;obtain⟨⟨t1,t2,t3,l4⟩,⟨V,T,U⟩,ag,hBw⟩:=HY.o w2 Q;cases B:inB m.o 0 ((p.ns:Int)-1)
  .exact aml
  go_wp2_with fail;refine(zq p m.l w2 leb ad).mono ?_;rintro e w3 ⟨rfl,am⟩;have am:=Q.trans (am.mono Q.size);clear Q t1 t2 t3 l4 V T U ag hBw;obtain⟨⟨t1,t2,t3,l4⟩,⟨V,T,U⟩,ag,hBw⟩:=HY.o w3 am;cases J:inB m.l 0 ((p.nb:Int)-1)
  .have HX:Hid (dk p s=false):=f.o aah;clear x f u B J;exact zx
  go_wp2_with fail;refine(zq p m.b w3 leb ad).mono ?_;rintro e w4 ⟨rfl,G⟩;have G:=am.trans (G.mono am.size);clear am t1 t2 t3 l4 V T U ag hBw;obtain⟨⟨t1,t2,t3,l4⟩,⟨V,T,U⟩,ag,hBw⟩:=HY.o w4 G;cases k3:inB m.b 0 ((p.nb:Int)-1)
  .have HX:Hid (dk p s=false):=f.o Sd;exact aol
  cases k4:(m.l==m.b)
  .cases k5:inB m.n 1 200
   .have HX:Hid (dk p s=false):=f.o akc;clear x f u B J k3;exact abr
   have HX:=u.o akc;have af:Hid _:=HX;clear x f u B J k3 HX;go_wp2_with(go_at_call 34;refine ap (da _ _ _ _) ?_);go_roundw
   case rel=>exact⟨k+1,ow,vo,af.o,ag⟩
   case measure=>simp[intOf];omega
  have HX:Hid (dk p s=false):=f.o Z6;exact aol
 have cc:Hid (∀j,j<s.ms.n->nt p (s.ms.z j)=false):=λj hj=>F.o j ow;clear F;by_cases n1:s.si.n=p.ns;rotate_left
 .have HX:Hid (dk p s=false):=av9 n1;have m1:((s.si.n:Int) !=(p.ns:Int))=true:=oq;clear d v K c1 c2 c5 c6;exact zx
 by_cases n2:s.so.n=p.ns;rotate_left
 .have HX:Hid (dk p s=false):=awa n2;have m1:((s.si.n:Int) !=(p.ns:Int))=false:=by simp[n1]
  have m2:((s.so.n:Int) !=(p.ns:Int))=true:=oq;clear d v K c1 c2 c6 n1;exact zx
 by_cases n3:s.sf.n=p.ns;rotate_left
 .have HX:Hid (dk p s=false):=awb n3;have m1:((s.si.n:Int) !=(p.ns:Int))=false:=by simp[n1]
  have m2:((s.so.n:Int) !=(p.ns:Int))=false:=by simp[n2]
  have m3:((s.sf.n:Int) !=(p.ns:Int))=true:=oq;clear d v K c1 c2 n1 n2;exact zx
 have M:=qa3 n1 n2 n3;have q1:=d.si.le;have q2:=d.si.cap;have q3:=d.so.le;have q4:=d.so.cap;have q5:=d.sf.le;have q6:=d.sf.cap;unfold maxLen at q2 q4 q6;rw[n1] at c4 q1;rw[n2] at c5 q3;rw[n3] at c6 q5;clear n1 n2 n3 d v K c1 c2 hBw;go_wp2_with fail;clear c3 c4 c5 c6 T U V l2 r hk
 go_loopw [12] (λi t=>∃k:Nat,k<=p.ns/\i = .int .i64 k/\(∀j,j<k->R4 s j=true)/\Bw W0 t) (λi _=>p.ns-(intOf i).toNat)
 case atStart=>exact C0
 clear hB;obtain⟨g,hg,rfl,D,hB⟩:=hrel;have F:=hid D;clear D;obtain⟨X,v,d,hBw⟩:=HC.o wr hB;obtain⟨⟨V,T,U⟩,l2,K,c1,c2,c3,c4,c5,c6⟩:=X;by_cases r:g<p.ns;rotate_left
 .have HX:Hid (dk p s=true):=axc b9.o H0.o ca.o cc.o M.o (λj hj=>F.o j ow);clear d v K c1 c2 c3 c4 c5 c6 F;exact zx
 obtain⟨b1,o1,e1,g1,z1⟩:=d.si.ints g (by rw[M.o.1];exact r);obtain⟨b2,o2,e2,g2,z2⟩:=d.so.ints g (by rw[M.o.2.1];exact r);obtain⟨b3,o3,e3,g3,z3⟩:=d.sf.ints g (by rw[M.o.2.2];exact r);have qq:(0:Int)<=(g:Int):=ow;rw[e1,M.o.1] at c4;rw[e2,M.o.2.1] at c5;rw[e3,M.o.2.2] at c6;have f:Hid (inB (s.si.z g) 0 1048576=false->dk p s=false):=λh=>Yt (.inl (J8 M.o.1 r h));have u:Hid (inB (s.so.z g) 0 1048576=false->dk p s=false):=λh=>Yt (.inr (.inl (J8 M.o.2.1 r h)));have a8:Hid (inB (s.sf.z g) (-1048576) 1048576=false->dk p s=false):=λh=>Yt (.inr (.inr (J8 M.o.2.2 r h)));have a9:Hid (inB (s.si.z g) 0 1048576=true->inB (s.so.z g) 0 1048576=true->inB (s.sf.z g) (-1048576) 1048576=true->∀Y,Y<g+1->R4 s Y=true):=λh1 h2 h3=>zi F.o (by unfold R4;rw[h1,h2,h3];rfl);clear e1 e2 e3 d v K c1 c2 c3 F
 generalize s.si.z g=I1 at *
 generalize s.so.z g=I2 at *
 generalize s.sf.z g=I3 at *
 cases B:inB I1 0 1048576
 .have HX:Hid (dk p s=false):=f.o B;exact abl
 cases J:inB I2 0 1048576
 .have HX:Hid (dk p s=false):=u.o J;exact abl
 cases k3:inB I3 (-1048576) 1048576
 .have HX:Hid (dk p s=false):=a8.o k3;exact abl
 have HX:=a9.o B J k3;have af:Hid _:=HX;clear f u a8 a9 HX;go_wp2_with(go_at_call 34;refine ap (da _ _ _ _) ?_);go_roundw
 case rel=>exact⟨g+1,ow,vo,af.o,hB⟩
 case measure=>simp[intOf];omega
theorem ap0(h:4<s.os.n):gz s=true:=by
 have:decide (4<s.os.n)=true:=decide_eq_true h;simp[gz,this]
theorem ary(h:8<s.ms.n):gz s=true:=by
 have:decide (8<s.ms.n)=true:=decide_eq_true h;simp[gz,this]
theorem arx(hi:i<s.os.n)(h:inB (s.os.z i).ls.n 1 3=false):gz s=true:=by
 have:aw s.os.n (λi=>ur (s.os.z i))=true:=ir hi (by unfold ur;rw[h];rfl);simp[gz,this]
theorem ay6(d:¬4<s.os.n)(e:¬8<s.ms.n)(f:∀i,i<s.os.n->inB (s.os.z i).ls.n 1 3=true):gz s=false:=by
 have a:decide (4<s.os.n)=false:=decide_eq_false d;have b:decide (8<s.ms.n)=false:=decide_eq_false e;have c:aw s.os.n (λi=>ur (s.os.z i))=false:=dj λi hi=>by unfold ur;rw[f i hi];rfl
 unfold gz;rw[a,b,c]
 rfl
theorem arp(h:¬fk p s.on=0):ag p s=fk p s.on:=by unfold ag;rw[if_neg h]
theorem Uo(h:fk p s.on=0)(a:gz s=true):ag p s=2:=by unfold ag;rw[if_pos h,a];rfl
theorem awn(h:fk p s.on=0)(b:gz s=false)(a:dk p s=false):ag p s=1:=by
 have e:(kt p s||ig p s||mm p s||gt p s)=true:=by
  cases c:(kt p s||ig p s||mm p s||gt p s)
  .rw[dk,c] at a;cases a
  rfl
 unfold ag;rw[if_pos h,b,e];rfl
theorem adj(h:fk p s.on=0)(a:gz s=false)(h2:dk p s=true):cu p s:=by
 have e:(kt p s||ig p s||mm p s||gt p s)=false:=am6;simp only[Xxq] at e;exact formed h a e.1.1.1 e.1.1.2 e.1.2 e.2
theorem axi(h:fk p s.on=0)(a:gz s=false)(h2:dk p s=true):ag p s=if l9 p s then 0 else 7:=by
 have e:(kt p s||ig p s||mm p s||gt p s)=false:=am6;unfold ag l9;rw[if_pos h,a,e];cases (mh p s||me s)<;>rfl
theorem nf(p:Pl)(s:St)(w:World)(Y:p.At w)(hs:s.At w):
  Calls prog 101 #[p.val,s.val] w λe w'=>e = .returned (.int .i64 (ag p s))/\Bw w w':=by
 obtain⟨J,V,W,U⟩:=Lf w p s;have x:=Ic Y hs W U;have S:=hid V;have al:=hs.os.le;have L:=hs.os.cap;have ak:=hs.ms.le;have K:=hs.ms.cap;unfold maxLen at L K;clear V U Y hs;unfold Pl.val St.val;go_enter func101,ntmps101;go_wp2_with fail;rw[S.o];obtain⟨X,c,a,hBw⟩:=x.o J brf;refine(O2 p s.on J c a.on).mono ?_;rintro e w1 ⟨rfl,hB⟩;clear X c a hBw S;obtain⟨X,c,a,hBw⟩:=x.o w1 hB;obtain⟨⟨u,m,q⟩,v,l,c1,c2,c3,c4,c5,c6⟩:=X;by_cases y:fk p s.on=0;rotate_left
 .have HX:Hid (ag p s=fk p s.on):=arp y;exact ao1
 have d:=hid y;rw[y];clear y c a;by_cases n1:4<s.os.n
 .have HX:Hid (ag p s=2):=Uo d.o (ap0 n1);have H:(4:Int)<(s.os.n:Int):=ow;exact zx
 by_cases n2:8<s.ms.n
 .have HX:Hid (ag p s=2):=Uo d.o (ary n2);have H:¬(4:Int)<(s.os.n:Int):=ow;have ad:(8:Int)<(s.ms.n:Int):=ow;exact zx
 have H:¬(4:Int)<(s.os.n:Int):=ow;have ad:¬(8:Int)<(s.ms.n:Int):=ow;go_wp2_with fail;clear l c1 c2 c3 c4 c5 c6 m q u v hBw
 go_loopw [6] (λi wk=>∃k:Nat,k<=s.os.n/\i = .int .i64 k/\(∀j,j<k->inB (s.os.z j).ls.n 1 3=true)/\Bw J wk) (λi _=>s.os.n-(intOf i).toNat)
 case atStart=>exact C0
 clear hB;obtain⟨i,hi,rfl,F,hB⟩:=hrel;have Q:=hid F;clear F;obtain⟨X,c,a,hBw⟩:=x.o wr hB;obtain⟨⟨u,m,q⟩,v,l,c1,c2,c3,c4,c5,c6⟩:=X;by_cases E:i<s.os.n
 .obtain⟨b,o,G,hb,z0,z1,hl⟩:=a.os.ods i E;have qi:(0:Int)<=(i:Int):=ow;have r:Hid (inB (s.os.z i).ls.n 1 3=false->ag p s=2):=λh=>Uo d.o (arx E h);have t:Hid (inB (s.os.z i).ls.n 1 3=true->∀j,j<i+1->inB (s.os.z j).ls.n 1 3=true):=λh=>zi (f:=λj=>inB (s.os.z j).ls.n 1 3) Q.o h;rw[G] at c1;clear G hl c a l c2 c3 c4 c5 c6 m q z0
  generalize (s.os.z i).ls=LS at *
  cases k1:inB LS.n 1 3
  .have HX:Hid (ag p s=2):=r.o k1;clear r t;exact abr
  have HX:=t.o k1;have T:Hid _:=HX;clear r t HX;go_wp2_with(go_at_call 34;refine ap (da _ _ _ _) ?_);go_roundw
  case rel=>exact⟨i+1,ow,vo,T.o,hB⟩
  case measure=>simp[intOf];omega
 have g:Hid (gz s=false):=ay6 n1 n2 λj hj=>Q.o j ow;go_wp2_with fail;refine(aff p s wr c a d.o g.o).mono ?_;rintro e w2 ⟨rfl,B⟩;have hB:=hB.trans (B.mono hB.size);clear c a hBw u m q v l c1 c2 c3 c4 c5 c6 B;obtain⟨X,c,a,hBw⟩:=x.o w2 hB;obtain⟨⟨u,m,q⟩,v,l,c1,c2,c3,c4,c5,c6⟩:=X;cases A:dk p s
 .have HX:Hid (ag p s=1):=awn d.o g.o A;exact ao1
 have M:Hid (cu p s):=adj d.o g.o A;have HE:Hid (ag p s=if l9 p s then 0 else 7):=axi d.o g.o A;clear A;go_wp2_with fail;refine(agm p s w2 c a M.o).mono ?_;rintro e w3 ⟨rfl,D⟩;have hBw:=hBw.trans (D.mono hBw.size);clear c a u m q v l c1 c2 c3 c4 c5 c6 D;cases k3:l9 p s
 .have HX:Hid (ag p s=7):=by show ag p s=7;rw[HE.o,k3];rfl
  exact ab4
 have HX:Hid (ag p s=0):=by show ag p s=0;rw[HE.o,k3];rfl
 exact ab4
theorem I6{bin good n:Int}(h:¬ag p s=0):ic p s bin good n=ag p s:=by unfold ic;rw[if_neg h]
theorem yq{bin good n:Int}(h:ag p s=0)(a:(inB bin 0 ((p.nb:Int)-1)&&inB good 0 ((p.ns:Int)-1)&&inB n 1 200)=false):ic p s bin good n=3:=by unfold ic;rw[if_pos h,a];rfl
theorem Rx{n:Int}(h:ag p s=0)(d:b<p.nb)(e:g<p.ns)(a:inB n 1 200=true)(c:gw p s b<n*p.zs g):ic p s b g n=5:=by
 unfold ic;simp only[Int.toNat_natCast];rw[if_pos h,cy ow,cy ow,a,if_pos dc,if_pos c]
theorem Ry{n:Int}(h:ag p s=0)(e:b<p.nb)(f:g<p.ns)(a:inB n 1 200=true)(c:¬gw p s b<n*p.zs g)(d:200<ep s b g+n\/1048576<s.si.z g+n):ic p s b g n=2:=by
 unfold ic;simp only[Int.toNat_natCast];rw[if_pos h,cy ow,cy ow,a,if_pos dc,if_neg c,if_pos d]
theorem Zs{n:Int}(h:ag p s=0)(e:b<p.nb)(f:g<p.ns)(a:inB n 1 200=true)(c:¬gw p s b<n*p.zs g)(d:¬(200<ep s b g+n\/1048576<s.si.z g+n)):ic p s b g n=0:=by
 unfold ic;simp only[Int.toNat_natCast];rw[if_pos h,cy ow,cy ow,a,if_pos dc,if_neg c,if_neg d]
theorem Yz(f:cu p s)(hb:b<p.nb): -30000<=gw p s b/\gw p s b<=1000:=by
 have c:b<s.on.n:=G8;have e:=zy (z:=(s.on.r b).z) (zs:=p.zs) (n:=p.ns) (λj a=>⟨f.sh.num b c j a,f.sh.pl.sizes j a⟩) p.ns nlr;have d:=Ig f (b:Int) s.ms.n nlr;have room:0<=(p.zb b).room/\(p.zb b).room<=1000:=by
  have:=f.sh.pl.bins b hb;exact abw
 have:=f.ms8;have:=f.sh.pl.ns3;unfold gw;omega
theorem Px(p:Pl)(s:St)(bin good n:Int)(w:World)(hp:p.At w)(hs:s.At w):
  Calls prog 70 #[p.val,s.val,.int .i64 bin,.int .i64 good,.int .i64 n] w λe w'=>∃s':St,e = .returned (.tuple #[s'.val,.int .i64 (ic p s bin good n)])/\s'.At w'/\jb (ic p s bin good n) (nx s bin.toNat good.toNat n) s'/\(ic p s bin good n=0->ah w.heap.size w' s')/\Bw w w':=by
 obtain⟨W0,hW,eu,X0,Z0⟩:=Dh w p s;have HC:=Cq hp hs eu X0 Z0;have HW:=hid hW;have leb:=hp.leb;have a6:=hp.capb;have les:=hp.les;have a7:=hp.caps;have capb:=a6;have caps:=a7;have f1:=Z0.lt;unfold maxLen at capb caps;clear hW X0 Z0 hp hs;unfold Pl.val St.val;go_enter func70,ntmps70;go_wp2_with fail;rw[HW.o];obtain⟨X,q,f,i,m⟩:=HC.o W0 brf;refine(nf p s W0 q f).mono ?_;rintro e w1 ⟨rfl,l⟩;clear X q f i m HW;obtain⟨⟨⟨l1,d0,Q⟩,l2,y,c1,c2,c3,c4,c5,c6⟩,q,f,i,m⟩:=HC.o w1 l;by_cases h0:ag p s=0;rotate_left
 .have HX:Hid (ic p s bin good n=ag p s):=I6 h0;clear q f y c1 c2 c3 c4 c5 c6;obtain⟨zl,bd,bb,be,zc1,bf,zc2,bg,zc3,bh,zc4,bj,zc5,bk,bc⟩:=z7 m;go_wp2_with fail;exact mu results70 m i ow HX.o h0 rfl rfl rfl
 have H0:=hid h0;have HF:Hid (cu p s):=(et h0).fm;rw[h0];clear h0 y c1 c2 c3 c4 c5 c6 f;go_wp2_with fail;refine(zq p bin w1 leb a6).mono ?_;rintro e w2 ⟨rfl,A⟩;have l:=l.trans (A.mono l.size);clear l1 d0 Q l2 q i m A;obtain⟨⟨⟨l1,d0,Q⟩,l2,y,c1,c2,c3,c4,c5,c6⟩,q,f,i,m⟩:=HC.o w2 l;clear y c1 c2 c3 c4 c5 c6 f;cases k1:inB bin 0 ((p.nb:Int)-1)
 .have HX:Hid (ic p s bin good n=3):=yq H0.o (by rw[k1];rfl);clear k1;exact abe
 go_wp2_with fail;refine(Ae p good w2 les a7).mono ?_;rintro e w3 ⟨rfl,A⟩;have l:=l.trans (A.mono l.size);clear l1 d0 Q l2 q i m A;obtain⟨⟨⟨l1,d0,Q⟩,l2,y,c1,c2,c3,c4,c5,c6⟩,q,f,i,m⟩:=HC.o w3 l;cases k2:inB good 0 ((p.ns:Int)-1)
 .have HX:Hid (ic p s bin good n=3):=yq H0.o (by rw[k1,k2];rfl);clear k1 k2 y c1 c2 c3 c4 c5 c6 f;exact abe
 cases k3:inB n 1 200
 .have HX:Hid (ic p s bin good n=3):=yq H0.o (by rw[k1,k2,k3];rfl);clear k1 k2 y c1 c2 c3 c4 c5 c6 f;obtain⟨zl,bd,bb,be,zc1,bf,zc2,bg,zc3,bh,zc4,bj,zc5,bk,bc⟩:=z7 m;go_wp2_with(go_at_call 34;refine ap (da _ _ _ _) ?_);exact mu results70 m i ow HX.o dc rfl rfl rfl
 obtain⟨b,rfl⟩:=Qzz (ar k1).1;obtain⟨g,rfl⟩:=Qzz (ar k2).1;have hb:b<p.nb:=R9;have hg:g<p.ns:=aaa;have hn:=ar k3;have K3:=hid k3;have pz:=HF.o.sh.pl.sizes g hg;have fb:=Yz HF.o hb;have mb:=Gv (a:=n) (b:=p.zs g) ⟨ow,hn.2⟩ pz;have qb:(0:Int)<=(b:Int):=ow;have qg:(0:Int)<=(g:Int):=ow;obtain⟨bz,oz,b8,a9,W⟩:=q.sizes g hg;have u:=qa3 b8 q f;rw[b8] at Q;have r0:=Qqq d0;have r1:=Qqq Q;have r2:=Qqq W;have s0:=Qqq y;have s1:=Qqq c1;have s2:=Qqq c2;have s3:=Qqq c3;have s4:=Qqq c4;have s5:=Qqq c5;have s6:=Qqq c6;have df:Hid (∀F,p.At F->s.At F->Calls prog 103 #[.agg #[.slice p.ab p.nb p.cb,.slice (some ⟨bz,oz,none⟩) p.ns p.cs],.agg #[.slice s.on.a s.on.n s.on.c,.slice s.os.a s.os.n s.os.c,.slice s.hs.a s.hs.n s.hs.c,.slice s.ms.a s.ms.n s.ms.c,.slice s.si.a s.si.n s.si.c,.slice s.so.a s.so.n s.so.c,.slice s.sf.a s.sf.n s.sf.c],.int .i64 b] F λe w'=>e = .returned (.int .i64 (gw p s b))/\Bw F w'):=λF h1 h2=>by
  have:=Qp p s b F h1 h2 HF.o hb;rw[Pl.val,u.o.1] at this;exact this
 have ed:Hid (gw p s b<n*p.zs g->ic p s b g n=5):=λh=>Rx H0.o hb hg K3.o h;have c7:Hid (¬gw p s b<n*p.zs g->(200<ep s b g+n\/1048576<s.si.z g+n)->ic p s b g n=2):=λh h2=>Ry H0.o hb hg K3.o h h2;have ec:Hid (¬gw p s b<n*p.zs g->¬(200<ep s b g+n\/1048576<s.si.z g+n)->ic p s b g n=0):=λh h2=>Zs H0.o hb hg K3.o h h2;clear k1 k2 b8 q f y c1 c2 c3 c4 c5 c6 d0 Q W
 generalize gw p s b=FR at *
 generalize p.zs g=PZ at *
 go_wp2_with(go_at_call 34;refine ap (da _ _ _ _) ?_);refine Qxq ko ko ?_
 repeat(go_big_quiet_step((go_at_call 103;exact Xxz (df.o _ (u.o.2.1.below (Qxx _ _ _)) (u.o.2.2.below (Qxx _ _ _))))))
 refine Qqz ?_;intro _ a0;obtain⟨⟨dq,J⟩,L⟩:=a0;subst L;have l:=l.trans ((Qxx w3 dq J).mono l.size);clear r0 r1 r2 s0 s1 s2 s3 s4 s5 s6 df u i m l1 l2 a9
 generalize grow (redrawn w3 dq) J=w4 at *
 obtain⟨⟨⟨l1,d0,Q⟩,l2,y,c1,c2,c3,c4,c5,c6⟩,q,f,i,m⟩:=HC.o w4 l;by_cases h5:FR<n*PZ
 .have HX:Hid (ic p s b g n=5):=ed.o h5;clear q f y c1 c2 c3 c4 c5 c6;exact abe
 have aa:b<s.on.n:=aae;obtain⟨bo,oo,b6,f5,W,ai⟩:=f.on.rows b aa;have H:=HF.o.sh.len b aa;obtain⟨br,f8,dh,f6,y1⟩:=ai.ints g aay;obtain⟨bi,oi,b5,f4,y2⟩:=f.si.ints g Sl;have v1:=ai.le;have v2:=ai.cap;have v3:=f.on.le;have v4:=f.on.cap;have v5:=f.si.le;have v6:=f.si.cap;have u1:=HF.o.sh.num b aa g hg;have u2:=nd (s:=s) (b:=b) (g:=g) HF.o.moveN;have u3:=HF.o.sib g hg;have ms8:=HF.o.ms8;have f9:g<s.si.n:=Sl;unfold maxLen at v2 v4 v6;have u:=qa3 f b6 b5;rw[dh,H] at W;rw[H] at v1;rw[b6] at y;rw[b5] at c4;have s0:=Qqq y;have s1:=Qqq c1;have s2:=Qqq c2;have s3:=Qqq c3;have s4:=Qqq c4;have s5:=Qqq c5;have s6:=Qqq c6;have r1:=Qqq W;have r2:=Qqq y1;have r3:=Qqq y2;have ba:Hid (∀F,s.At F->Calls prog 104 #[.agg #[.slice (some ⟨bo,oo,none⟩) s.on.n s.on.c,.slice s.os.a s.os.n s.os.c,.slice s.hs.a s.hs.n s.hs.c,.slice s.ms.a s.ms.n s.ms.c,.slice (some ⟨bi,oi,none⟩) s.si.n s.si.c,.slice s.so.a s.so.n s.so.c,.slice s.sf.a s.sf.n s.sf.c],.int .i64 b,.int .i64 g] F λe w'=>e = .returned (.int .i64 (ca s b g s.ms.n))/\Bw F w'):=λF h=>by
  have:=Fe p s b g F h HF.o;rw[St.val,u.o.2.1,u.o.2.2] at this;exact this
 have cx:Hid (ep s b g=(s.on.r b).z g+ca s b g s.ms.n):=rfl;have cm:0<=ca s b g s.ms.n/\ca s b g s.ms.n<=1600:=ow;have d9:Hid (nx s b g n=setIn (setOn s b g ((s.on.r b).z g+n)) g (s.si.z g+n)):=rfl;clear b6 dh b5 ai H q f y c1 c2 c3 c4 c5 c6 W y1 y2 d0 Q u2
 generalize ca s b g s.ms.n=CM at *
 generalize av:(s.on.r b).z g=D at *
 have d4:=hid av;clear av
 generalize (s.on.r b).c=RC at *
 generalize ax:s.si.z g=K at *
 have cz:=hid ax;clear ax;by_cases h6:200<D+CM+n
 .have HX:Hid (ic p s b g n=2):=c7.o ow (.inl (by rw[cx.o];exact h6));have d6:decide (200<D+CM+n)=true:=decide_eq_true h6;exact at3
 by_cases h7:1048576<K+n
 .have HX:Hid (ic p s b g n=2):=c7.o ow (.inr h7);have d6:decide (200<D+CM+n)=false:=decide_eq_false h6;have d7:decide (1048576<K+n)=true:=decide_eq_true h7;exact at3
 have HX:Hid (ic p s b g n=0):=ec.o ow (by rw[cx.o];omega);have d6:decide (200<D+CM+n)=false:=decide_eq_false h6;have d7:decide (1048576<K+n)=false:=decide_eq_false h7;go_wp2_with fail;refine Qxq ko ko ?_
 repeat(go_big_quiet_step((go_at_call 104;exact Xxz (ba.o _ (u.o.1.below (Qxx _ _ _))))))
 refine Qqz ?_;intro _ a0;obtain⟨⟨dq,J⟩,L⟩:=a0;subst L;have l:=l.trans ((Qxx w4 dq J).mono l.size);clear r1 r2 r3 s0 s1 s2 s3 s4 s5 s6 ba u i m l1 l2
 generalize grow (redrawn w4 dq) J=w5 at *
 obtain⟨⟨⟨l1,d0,Q⟩,l2,y,c1,c2,c3,c4,c5,c6⟩,q,f,i,m⟩:=HC.o w5 l;go_wp2_with fail;have di:=hid i.size;refine(su p s w5 f HF.o).mono ?_;rintro e w6 ⟨o,rfl,t,b7,A⟩;have Y:b<o.on.n:=by rw[t.on.1];exact aa
 obtain⟨x1,x2⟩:=t.on.2 b Y;have H:(o.on.r b).n=p.ns:=by rw[x1];exact HF.o.sh.len b aa
 have av:(o.on.r b).z g=D:=by rw[x2 g aay];exact d4.o
 have ay:o.si.n=p.ns:=by rw[t.si.1];exact HF.o.sin
 have ax:o.si.z g=K:=by rw[t.si.2 g (by rw[ay];exact hg)];exact cz.o
 have HIN:=hid ay;have bt:=hid t;have ea:Hid (af (setIn (setOn o b g (D+n)) g (K+n)) (nx s b g n)):=by
  show af _ (nx s b g n);rw[d9.o];exact Lq (Am t _ _ _) _ _
 obtain⟨W7,de,a5,K7⟩:=ab7 w6 o;have c8:=hid de;obtain⟨cw,a4⟩:∃B,w6.heap.size=B:=⟨_,rfl⟩;have q6:=l.size;have q7:=A.size;have f7:W0.heap.size<=cw:=ow;rw[a4] at K7;have bs:=hid a4;have db:=(l.trans (A.mono l.size)).trans (a5.mono (l.trans (A.mono l.size)).size);have E:=ah.below b7 a5;obtain⟨gg,ga,gA,g1,g2,gk⟩:=E.on;obtain⟨Gb,ra,rA,e2,e3,rk⟩:=E.rows b Y;obtain⟨Gi,ia,iA,ev,ew,M⟩:=E.si;have d5:=qa7 E ga ra ia rA iA K7;obtain⟨m7,p0,p1,p2,p3,p4,p5,p6⟩:=Boxed.of K7;rw[ga] at p0;rw[ia] at p4;have W:=gk.cell (j:=b) Y;rw[ra,H] at W;have y1:=rk.cell (j:=g) aay;rw[av] at y1;have y2:=M.cell (j:=g) (by rw[ay];exact hg);rw[ax] at y2;have t0:=Qqq p0;have t1:=Qqq W;have t2:=Qqq y1;have v1:=g1;have v2:=g2;have v3:=e2;have v4:=e3;rw[H] at v3;unfold maxLen at v2 v4;unfold maxLen at ew;rw[ay] at ev;clear E b7 gk rk M K7 a5 de a4 p0 p1 p2 p3 p4 p5 p6 W y1 y2 ga ra ia q f y c1 c2 c3 c4 c5 c6 x1 x2 A m i av ax t H ay;simp only[St.val];go_wp2_with fail;rw[c8.o,bs.o];clear c8 bs;refine dg (λw'=>∃p:Regrown,w'=grow (redrawn W7 p.d) p.os) (List.range 17) [] [(true,17)] (Qqx (brf.drew)) ?_;rw[show List.range 17=[0,1,2,3,4,5,6,7,8,9,10,11,12,13,14,15,16] from rfl];simp only[jg]
 repeat(go_big_quiet_step(fail))
 refine Qqz ?_;clear t0 t1 t2;refine⟨λ_ _ _ _=>True,Qjq _,Qjq _,Qjq _,λV G F hS _ _ => ?_⟩;have U:=ae hS;obtain⟨T,er,b1,aw,f2,f3,S⟩:=d5.o;have T:=ah.below T U;have S:=S.below U;obtain⟨Gq,x,_,_,_,rk⟩:=T.rows b Y;rw[b1] at x;simp only[co] at x;subst x;have zl:=rk.lt;have zf:=rk.frozen g;have d8:Hid ((o.on.r b).n=p.ns):=(bt.o.on.2 b Y).1.trans (HF.o.sh.len b aa);have zc:=rk.cell (j:=g) (by rw[d8.o];exact hg);have q8:=U.size;have dd:=db.trans (U.mono db.size);have q9:=l.size;have az:=dd.setCell (p:=⟨Gb,g,none⟩) (by show W0.heap.size<=Gb;omega) (.int .i64 (D+n));have aq:=ah.setOn T Y b1 g (D+n);have an:=S.other (a:=⟨Gb,g,none⟩) (Blk.ne2 S rk dc) (.int .i64 (D+n));have bv:=qa3 az aq an;clear az aq an T S rk U dd hS;simp only[dz];refine bu 17 rfl ?_;go_wp2_with fail;refine⟨fw.yes,?_⟩;refine NoPanic.normal ?_
 generalize F.setCell { block:=Gb,off:=g } (Value.int IntKind.i64 (D+n))=W9 at *
 clear zl zf zc;obtain⟨am,au,ao⟩:=bv.o;obtain⟨Gq,x,_,_,_,M⟩:=au.si;rw[show(setOn o b g (D+n)).si.a=some ⟨Gi,0,none⟩ from aw] at x;simp only[co] at x;subst x;have y2:=M.cell (j:=g) atr;have p4:=ao.k 4;have b9:W9.cell? ⟨cw,4,none⟩=some (.slice o.si.a o.si.n o.si.c):=p4;rw[aw,HIN.o] at b9;have eb:Hid (o.si.z g=K):=(bt.o.si.2 g aaq).trans cz.o;have cd:W9.cell? ⟨Gi,g,none⟩=some (.int .i64 (o.si.z g)):=y2;rw[eb.o] at cd;have t0:=Qqq b9;have t1:=Qqq cd;clear am au ao M y2 p4 b9 cd;go_wp2_with fail;refine dg (λw'=>∃p:Regrown,w'=grow (redrawn W9 p.d) p.os) (List.range 11) [] [(true,11)] (Qqx (brf.drew)) ?_;rw[show List.range 11=[0,1,2,3,4,5,6,7,8,9,10] from rfl];simp only[jg]
 repeat(go_big_quiet_step(fail))
 refine Qqz ?_;clear t0 t1;refine⟨λ_ _ _ _=>True,Qjq _,Qjq _,Qjq _,λV G e9 hS _ _ => ?_⟩;have U:=ae hS;obtain⟨am,au,ao⟩:=bv.o;have T:=ah.below au U;have S:=ao.below U;have bx:=am.trans (U.mono am.size);obtain⟨Gq,x,_,_,_,M⟩:=T.si;rw[show(setOn o b g (D+n)).si.a=some ⟨Gi,0,none⟩ from aw] at x;simp only[co] at x;subst x;have zl:=M.lt;have zf:=M.frozen g;have zc:=M.cell (j:=g) atr;have az:=bx.setCell (p:=⟨Gi,g,none⟩) ale (.int .i64 (K+n));have aq:=ah.setIn T (show(setOn o b g (D+n)).si.a=some ⟨Gi,0,none⟩ from aw) g (K+n);have an:=S.other (a:=⟨Gi,g,none⟩) (Blk.ne2 S M dc) (.int .i64 (K+n));have cy:=qa3 az aq an;clear az aq an T S M U bx hS am au ao bv;simp only[dz];refine bu 11 rfl ?_;go_wp2_with fail;refine⟨fw.yes,?_⟩;refine NoPanic.normal ?_
 generalize e9.setCell { block:=Gi,off:=g } (Value.int IntKind.i64 (K+n))=c9 at *
 clear zl zf zc;obtain⟨a8,b2,b0⟩:=cy.o;obtain⟨_,_,_,i,m⟩:=HC.o c9 a8;obtain⟨m8,p0,p1,p2,p3,p4,p5,p6⟩:=Boxed.of b0;obtain⟨zl,bd,bb,be,zc1,bf,zc2,bg,zc3,bh,zc4,bj,zc5,bk,bc⟩:=z7 m;clear a8 b2 b0 i m er b1 aw T S;go_wp2_with fail;obtain⟨a8,b2,b0⟩:=cy.o;obtain⟨_,_,_,i,m⟩:=HC.o c9 a8;have KZ:=s7b m o;have a9:=s7w (b:=w.heap.size+2) i ow o;have b3:=s7o b2 m o;unfold set7 at KZ a9 b3;obtain⟨eh,ei,ej,ek,el,em,en⟩:=dp KZ;refine Xzq (v := .tuple #[(setIn (setOn o b g (D+n)) g (K+n)).val,.int .i64 0]) (by simp[results,results70,go_sem,setIn,setOn,mg,St.val,eh,ei,ej,ek,el,em,en]) rfl ?_;exact⟨setIn (setOn o b g (D+n)) g (K+n),ja,b3.at,⟨λ_=>ea.o,λh=>absurd HX.o h⟩,λ_=>b3.mono di.o,a9⟩
structure aqp(A:Nat)(w:World)(s:Sh):Prop where
 on:∃g,s.a=some ⟨g,0,none⟩/\A<=g/\s.n<=s.c/\s.c<=maxLen/\Blk w g 23 s.n (λi => .slice (s.r i).a (s.r i).n (s.r i).c)
 rows:∀i,i<s.n->ki A w (s.r i)
 rapart:∀i j,i<j->j<s.n->(s.r i).a≠(s.r j).a
theorem Qr(p:Pl)(s:Sh)(bin good n:Int)(w:World)(X:p.At w)(hs:s.At w)(c:I4 p s bin good n=0):
  Calls prog 128 #[p.val,s.val,.int .i64 bin,.int .i64 good,.int .i64 n] w λe w'=>∃J:Sh,e = .returned (.tuple #[J.val,.int .i64 0])/\aqp w.heap.size w' J/\J.n=s.n/\(∀i,i<s.n->(J.r i).n=(s.r i).n/\∀j,j<(s.r i).n->(J.r i).z j=I5 s bin good n i j)/\Bw w w':=by
 have E:Bw w (w.alloc (.cells #[.slice p.ab p.nb p.cb,.slice p.sa p.ns p.cs] 25)):=(Below.refl w.heap.size w).alloc nlr _;simp only[Pl.val,Sh.val];have an:=hs.le;have v:=hs.cap;have aa:=v;unfold maxLen at aa;have T:s.n<=maxLen:=Qzx an v;have les:=X.les;have t:=X.caps;have aj:p.ns<=maxLen:=Qzx les t;have caps:=t;unfold maxLen at caps;go_enter func128,ntmps128;go_wp2_with fail;refine(An p s _ (X.below E) (hs.below E)).mono ?_;rintro e w1 ⟨rfl,hB⟩;have d:=E.trans (hB.mono vq);have a1:w.heap.size<w1.heap.size:=R7;have c1:w1.cell? ⟨w.heap.size,1,none⟩=some (.slice p.sa p.ns p.cs):=(hB.cell (p:=⟨w.heap.size,1,none⟩) vq).trans vq;have D:fk p s=0:=by
  apply Classical.byContradiction
  intro D;have A:xy p s bin good=fk p s:=by simp[xy,D]
  simp[I4,A,D] at c
 have A:=I8 (bin:=bin) (good:=good) D;have h1:inB bin 0 ((s.n:Int)-1)=true:=by
  cases h1:inB bin 0 ((s.n:Int)-1)
  .simp[I4,A,h1] at c
  rfl
 have h2:inB good 0 ((p.ns:Int)-1)=true:=by
  cases h2:inB good 0 ((p.ns:Int)-1)
  .simp[I4,A,h1,h2] at c
  rfl
 have M:xy p s bin good=0:=by simp[A,h1,h2]
 clear A;obtain⟨m,rfl⟩:=Qzz (ar h1).1;obtain⟨q,rfl⟩:=Qzz (ar h2).1;have B:m<s.n:=Nw;have hq:q<p.ns:=ak8;obtain⟨pl,hn,k,H⟩:=(yg D).2;have hz:=H m B q hq;have hl:=k m B;have h6:=pl.nb6;rw[<-hn] at h6;have al:Hid (∀i,i<s.n->1<=(s.r i).n/\(s.r i).n<=3):=λi hi=>by rw[k i hi];exact⟨pl.ns1,pl.ns3⟩
 have U:=hs.below d;have m1:(0:Int)<=(m:Int):=ow;have m2:(0:Int)<=(q:Int):=ow;obtain⟨b,o,ha,hb,z0,u⟩:=U.rows m B;obtain⟨b1,o1,Q,az,y0⟩:=u.ints q ow;rw[Q] at z0;have ak:q<(s.r m).n:=ow;have a2:=u.le;have Y:=u.cap;unfold maxLen at Y;have V:inB n (-((s.r m).z q)) (200-(s.r m).z q)=true:=by
  cases V:inB n (-((s.r m).z q)) (200-(s.r m).z q)
  .simp[I4,M,V] at c
  rfl
 clear c;clear pl hn k H Q u M hl;obtain⟨s0,L,sc,l⟩:=s;dsimp only at *;subst ha;go_wp2_with(first|(go_at_call_of 98 (Value.int .i64 (m:Int));refine ap (im _ _ _ T) ?_)|(go_at_call_of 98 (Value.int .i64 (q:Int));refine ap (im _ _ _ aj) ?_)|(go_at_call 43;refine ap (dm _ _ _ _) ?_));refine(Mx ⟨some ⟨b,o,none⟩,L,sc,l⟩ w1 U h6 al.o).mono ?_;rintro e w2 ⟨g,G,C,rfl,hg,x,y,f,ae⟩;dsimp only at x y f ⊢;obtain⟨g1,g2,g3,g4⟩:=y m B;have d0:=x.cell B;have d1:=g4.cell ak;have d2:=g4.frozen q;have a0:=ar V;unfold maxLen at g3;have af:=d.trans (ae.mono d.size);have ag:w.heap.size<=G m:=by have:=d.size;omega
 have st:=af.setCell (p:=⟨G m,q,none⟩) ag (.int .i64 ((l m).z q+n));have HH:Hid _:=And.intro x (And.intro y f);clear x y f c1 y0 z0;go_wp2_with fail
 go_ret2
 obtain⟨x,y,f⟩:=HH.o;refine⟨⟨some ⟨g,0,none⟩,L,L,λi=>⟨some ⟨G i,0,none⟩,(l i).n,C i,λj=>I5 ⟨some ⟨b,o,none⟩,L,sc,l⟩ m q n i j⟩⟩,rfl,⟨⟨g,rfl,?_,Nat.le_refl _,T,?_⟩,?_,?_⟩,rfl,λi hi=>⟨rfl,λj K=>rfl⟩,st⟩
 .have:=d.size;omega
 .exact x.other (a:=⟨G m,q,none⟩) (by show g≠G m;omega) (.int .i64 ((l m).z q+n))
 rotate_left
 .intro i j ah K h;have:=f i j ah K;simp only[co] at h;omega
 intro i hi;have gi:=y i hi;refine⟨G i,rfl,?_,gi.2.1,gi.2.2.1,?_⟩
 .have:=d.size;omega
 by_cases F:i=m
 .subst F;refine(gi.2.2.2.set q (.int .i64 ((l i).z q+n))).congr λj K => ?_;by_cases S:j=q
  .subst S;simp[I5]
  simp[I5,S]
 have W:G i≠G m:=by
  rcases Nat.lt_or_gt_of_ne F with h|h
  .have:=f i m h B;omega
  have:=f m i h hi;omega
 refine(gi.2.2.2.other (a:=⟨G m,q,none⟩) W (.int .i64 ((l m).z q+n))).congr λj K => ?_;simp[I5,F]
theorem Mm(p:Pl)(s:St)(bin good:Nat)(w:World)(hs:s.At w)(f:cu p s)(hbin:bin<p.nb)(H:good<p.ns):
  Calls prog 126 #[s.val,.int .i64 bin,.int .i64 good] w λe w'=>e = .returned (.int .i64 (ep s bin good))/\Bw w w':=by
 obtain⟨W0,hW0,x,y⟩:∃W0,w.alloc (.cells s.cells 36)=W0/\Bw w W0/\Blk W0 w.heap.size 36 7 (λj=>s.cells.getD j default):=⟨_,rfl,(Below.refl w.heap.size w).alloc nlr _,Blk.mk' rfl rfl⟩;have d:=hs.below x;have E:bin<s.on.n:=aal;obtain⟨bo,oo,hoa,T,y0,g⟩:=d.on.rows bin E;have F:=f.sh.len bin E;have av:=f.sh.num bin E good H;obtain⟨br,az,X,V,y1⟩:=g.ints good ow;have ae:=g.le;have M:=g.cap;have aw:=d.on.le;have L:=d.on.cap;unfold maxLen at M L;rw[X,F] at y0;rw[F] at ae;have c0:W0.cell? ⟨w.heap.size,0,none⟩=some (.slice s.on.a s.on.n s.on.c):=y.k 0;rw[hoa] at c0;have l0:=y.lt;have ay:=hid hoa;have b0:(0:Int)<=(bin:Int):=ow;have g0:(0:Int)<=(good:Int):=ow;have ag:Hid (∀k,k=s.ms.n->ep s bin good=(s.on.r bin).z good+ca s bin good k):=λk J=>by subst J;rfl
 have HC:Hid (∀m,Bw W0 m->s.At m/\m.cell? ⟨w.heap.size,3,none⟩=some (.slice s.ms.a s.ms.n s.ms.c)/\w.heap.size<m.heap.size):=
  λm h=>⟨d.below h,(y.below h).k 3,(y.below h).lt⟩
 have au:=d.ms.le;have K:=d.ms.cap;unfold maxLen at K;have m8:=f.ms8;have MB:Hid (∀k,k<=s.ms.n->0<=ca s bin good k/\ca s bin good k<=200*k):=λk J=>nd λj hj=>f.moveN j ow;have HW:Hid (w.alloc (.cells #[.slice (some ⟨bo,oo,none⟩) s.on.n s.on.c,.slice s.os.a s.os.n s.os.c,.slice s.hs.a s.hs.n s.hs.c,.slice s.ms.a s.ms.n s.ms.c,.slice s.si.a s.si.n s.si.c,.slice s.so.a s.so.n s.so.c,.slice s.sf.a s.sf.n s.sf.c] 36)=W0):=aj5;have aa:=y0;have ab:=y1;have A:=T;have B:=V;rw[<-HW.o] at aa ab A B;simp only[St.val,hoa];clear y hW0 g hs d;clear hoa X c0 l0 y0 y1 T V F
 generalize (s.on.r bin).z good=ON at *
 go_enter func126,ntmps126;go_wp2_with fail;rw[HW.o];clear aa ab A B
 go_loopw [7,21] (λu i m=>∃k:Nat,k<=s.ms.n/\i = .int .i64 k/\u = .int .i64 (ON+ca s bin good k)/\Bw W0 m) (λ_ i _=>s.ms.n-(intOf i).toNat)
 case atStart=>exact apd
 obtain⟨k,J,rfl,rfl,G⟩:=hrel;have m2:=MB.o k J;obtain⟨Y,c3,ad⟩:=HC.o wr G;by_cases D:k<s.ms.n;rotate_left
 .have ak:k=s.ms.n:=ow;subst ak;go_wp2_with fail;go_ret;exact⟨by rw[ag.o _ rfl];rfl,x.trans (G.mono x.size)⟩
 obtain⟨b,q,W,hb,z0,z1,z2,z3⟩:=Y.ms.hds k D;have m3:=f.moveN k D;have v:Hid (((s.ms.z k).b=bin/\(s.ms.z k).o=good->ca s bin good (k+1)=ca s bin good k+(s.ms.z k).n)/\(¬((s.ms.z k).b=bin/\(s.ms.z k).o=good)->ca s bin good (k+1)=ca s bin good k)):=⟨λh=>Ge h.1 h.2,Be⟩;have q4:(0:Int)<=(k:Int):=ow;rw[W];obtain⟨W1,S,Q⟩:∃W1,wr.alloc (.cells #[.int .i64 (s.ms.z k).o,.int .i64 (s.ms.z k).l,.int .i64 (s.ms.z k).b,.int .i64 (s.ms.z k).n] 110)=W1/\Bw W0 W1:=⟨_,rfl,G.alloc G.size _⟩;have HV:=hid S;clear W Y S c3 ad
 generalize ca s bin good k=U at *
 generalize (s.ms.z k).b=BB at *
 generalize (s.ms.z k).n=NN at *
 generalize (s.ms.z k).l=LL at *
 generalize (s.ms.z k).o=GD at *
 cases h1:(BB==(bin:Int))
 .have t:=v.o.2 Jt;exact amd
 cases h2:(GD==(good:Int))
 .have t:=v.o.2 aa2;exact amd
 have t:=v.o.1 ⟨xp,Bb⟩;have HM:=hid t;clear t v;go_wp2_with fail;rw[HV.o];go_roundw
 case rel=>exact⟨k+1,ow,vo,by rw[HM.o];congr 1;omega,Q⟩
 case measure=>simp[intOf];omega
theorem ah.swap{B:Nat}{o:St}{r:Sh}(h:ah A w' o)(l:Bw w' w)(d:aqp B w r)(u:w'.heap.size<=B)(hA:A<=B):ah A w ⟨r,o.os,o.hs,o.ms,o.si,o.so,o.sf⟩:=by
 have k:=ah.below h l;obtain⟨q,a1,-,-,-,m⟩:=h.si;obtain⟨s,f,-,-,-,n⟩:=h.so;obtain⟨t,j,-,-,-,p⟩:=h.sf;have v:=m.lt;have x:=n.lt;have y:=p.lt;refine⟨?_,λi hi => ?_,d.rapart,k.os,k.hs,k.ms,k.msr,k.si,k.so,k.sf,k.aio,k.aif,k.aof,λi hi => ?_⟩
 .obtain⟨g,b,e,c⟩:=d.on;exact⟨g,b,ow,c⟩
 .obtain⟨g,b,e,c⟩:=d.rows i hi;exact⟨g,b,ow,c⟩
 obtain⟨g,b,e,c⟩:=d.rows i hi;show(r.r i).a≠o.si.a/\(r.r i).a≠o.so.a/\(r.r i).a≠o.sf.a;rw[b,a1,f,j];exact Te
theorem Tx(p:Pl)(s:St)(bin good n:Int)(w:World)(hp:p.At w)(hs:s.At w):
  Calls prog 90 #[p.val,s.val,.int .i64 bin,.int .i64 good,.int .i64 n] w λe w'=>∃s':St,e = .returned (.tuple #[s'.val,.int .i64 (ic p s bin good n)])/\s'.At w'/\jb (ic p s bin good n) (nx s bin.toNat good.toNat n) s'/\(ic p s bin good n=0->ah w.heap.size w' s')/\Bw w w':=by
 obtain⟨W0,hW,di,X0,Z0⟩:=Dh w p s;have M:=Cq hp hs di X0 Z0;have HW:=hid hW;have leb:=hp.leb;have Y:=hp.capb;have les:=hp.les;have aa:=hp.caps;have capb:=Y;have caps:=aa;have d8:=Z0.lt;unfold maxLen at capb caps;clear hW X0 Z0 hp hs;unfold Pl.val St.val;go_enter func90,ntmps90;go_wp2_with fail;rw[HW.o];obtain⟨X,l,f,m,q⟩:=M.o W0 brf;refine(l8 p s W0 l f).mono ?_;rintro e w1 ⟨rfl,A⟩;clear X l f m q HW;obtain⟨⟨⟨T,Q,H⟩,U,D,c1,c2,c3,c4,c5,c6⟩,l,f,m,q⟩:=M.o w1 A;have bw:p.nb<=maxLen:=Qzx leb Y;have bx:p.ns<=maxLen:=Qzx les aa;by_cases h0:ag p s=0;rotate_left
 .have HX:Hid (ic p s bin good n=ag p s):=I6 h0;clear l f D c1 c2 c3 c4 c5 c6;obtain⟨zl,aj,ae,ak,zc1,al,zc2,am,zc3,an,zc4,ao,zc5,aq,ai⟩:=z7 q;go_wp2_with fail;exact mu results90 q m ow HX.o h0 rfl rfl rfl
 have V:=hid h0;have HF:Hid (cu p s):=(et h0).fm;rw[h0];clear h0;cases k1:inB bin 0 ((p.nb:Int)-1)
 .have HX:Hid (ic p s bin good n=3):=yq V.o (by rw[k1];rfl);exact ag8
 cases k2:inB good 0 ((p.ns:Int)-1)
 .have HX:Hid (ic p s bin good n=3):=yq V.o (by rw[k1,k2];rfl);exact ag8
 cases k3:inB n 1 200
 .have HX:Hid (ic p s bin good n=3):=yq V.o (by rw[k1,k2,k3];rfl);exact ag8
 obtain⟨b,rfl⟩:=Qzz (ar k1).1;obtain⟨g,rfl⟩:=Qzz (ar k2).1;have hb:b<p.nb:=R9;have hg:g<p.ns:=aaa;have hn:=ar k3;have K3:=hid k3;have pz:=HF.o.sh.pl.sizes g hg;have fb:=Yz HF.o hb;have mb:=Gv (a:=n) (b:=p.zs g) ⟨ow,hn.2⟩ pz;have qb:(0:Int)<=(b:Int):=ow;have qg:(0:Int)<=(g:Int):=ow;have az:=qa2 l f;clear l f;go_wp2_with(first|(go_at_call_of 98 (Value.int .i64 (b:Int));refine ap (im _ _ _ bw) ?_)|(go_at_call_of 98 (Value.int .i64 (g:Int));refine ap (im _ _ _ bx) ?_)|(go_at_call 43;refine ap (dm _ _ _ _) ?_));refine(Xs p s b w1 az.o.1 az.o.2).mono ?_;rintro e w2 ⟨rfl,B⟩;have A:=A.trans (B.mono A.size);clear T Q H U D c1 c2 c3 c4 c5 c6 m q B az;obtain⟨⟨⟨T,Q,H⟩,U,D,c1,c2,c3,c4,c5,c6⟩,l,f,m,q⟩:=M.o w2 A;obtain⟨bz,oz,be,ac,y0⟩:=l.sizes g hg;have F:=qa3 be l f;rw[be] at H;have ay:Hid (Ck p s b=gw p s b/\vl p s b=0):=by
  have hu:yb p s.on b=0:=by unfold yb;rw[HF.o.sh0];simp only[beq_self_eq_true,if_true];rw[cy (by have:=HF.o.sh.n;omega)];rfl
  have e:vl p s b=0:=by unfold vl;rw[if_pos V.o,hu]
  exact⟨by unfold Ck;rw[e,if_pos rfl];rfl,e⟩
 rw[ay.o.1,ay.o.2];have cq:Hid (gw p s b<n*p.zs g->ic p s b g n=5):=λh=>Rx V.o hb hg K3.o h;have bm:Hid (¬gw p s b<n*p.zs g->(200<ep s b g+n\/1048576<s.si.z g+n)->ic p s b g n=2):=λh h2=>Ry V.o hb hg K3.o h h2;have bl:Hid (¬gw p s b<n*p.zs g->¬(200<ep s b g+n\/1048576<s.si.z g+n)->ic p s b g n=0):=λh h2=>Zs V.o hb hg K3.o h h2;clear ay k1 k2 be l f
 generalize gw p s b=FR at *
 generalize p.zs g=PZ at *
 by_cases h5:FR<n*PZ
 .have HX:Hid (ic p s b g n=5):=cq.o h5;clear D c1 c2 c3 c4 c5 c6;exact axw
 have d5:decide (FR<n*PZ)=false:=oq;have bf:=q.lt;clear q;go_wp2_with fail;refine(Mm p s b g w2 F.o.2.2 HF.o hb hg).mono ?_;rintro e w3 ⟨rfl,B⟩;have A:=A.trans (B.mono A.size);clear T Q H U D c1 c2 c3 c4 c5 c6 m B F y0 bf ac d5;obtain⟨⟨⟨T,Q,H⟩,U,D,c1,c2,c3,c4,c5,c6⟩,l,f,m,q⟩:=M.o w3 A;obtain⟨bi,oi,u,dj,y2⟩:=f.si.ints g Sl;have v5:=f.si.le;have v6:=f.si.cap;unfold maxLen at v6;have u3:=HF.o.sib g hg;have ec:g<s.si.n:=Sl;have ly:0<=ep s b g/\ep s b g<=1800:=by
  have ba:b<s.on.n:=aae;have u1:=HF.o.sh.num b ba g hg;have u2:=nd (s:=s) (b:=b) (g:=g) HF.o.moveN;have ms8:=HF.o.ms8;unfold ep;omega
 have F:=qa3 l f u;have G:=bm.o h5;have W:=bl.o h5;have cl:Hid (nx s b g n=setIn (setOn s b g ((s.on.r b).z g+n)) g (s.si.z g+n)):=rfl;clear bm bl;have cj:Hid (ep s b g=(s.on.r b).z g+ca s b g s.ms.n):=rfl;clear l f
 generalize ep s b g=LY at *
 generalize hSI:s.si.z g=x at *
 have cm:=hid hSI;clear hSI;rw[u] at c4;clear u;cases d6:decide (200-LY<n);rotate_left
 .have HX:Hid (ic p s b g n=2):=G (Or.inl (by simp at d6;omega));exact al0
 cases d7:decide (1048576-x<n);rotate_left
 .have HX:Hid (ic p s b g n=2):=G (Or.inr (by simp at d7;omega));exact al0
 have HX:Hid (ic p s b g n=0):=W (by simp at d6 d7;omega);have bc:I4 p s.on b g n=0:=by
  have ba:b<s.on.n:=aae;have hu:xy p s.on b g=0:=by rw[I8 HF.o.sh0,cy ow,cy ow];rfl
  have u1:=HF.o.sh.num b ba g hg;have u2:=(nd (s:=s) (b:=b) (g:=g) HF.o.moveN).1;have ee:=cj.o;have hi:inB n (-((s.on.r b).z g)) (200-(s.on.r b).z g)=true:=cy (by simp at d6;omega);simp[I4,hu,hi]
 have b6:=hid bc;have bf:=q.lt;have a8:=pv p s w3 F.o.2.1 HF.o;rw[St.val,F.o.2.2] at a8;have bk:Hid _:=a8;clear G W bc a8 q;go_wp2_with fail;refine Calls.mono bk.o ?_;rintro e w4 ⟨o,rfl,d,bb,B⟩;clear bk;have bq:=A.trans (B.mono A.size);have q3:=A.size;have b5:Hid (w.heap.size<=w3.heap.size):=Qzx (M.o _ brf).2.2.2.1.size A.size;have q4:=B.size;have HIN:Hid (o.si.n=p.ns):=d.si.1.trans HF.o.sin;have cp:Hid (o.si.z g=x):=(d.si.2 g aaq).trans cm.o;obtain⟨W5,bu,J,K5⟩:=ab7 w4 o;have a0:=hid bu;have ab:=bq.trans (J.mono bq.size);have ad:=ah.below bb J;clear T Q H U D c1 c2 c3 c4 c5 c6 m F bf dj y2;obtain⟨⟨⟨T,Q,H⟩,U,D,-⟩,l,f,m,-⟩:=M.o W5 ab;have bj:=qa2 l f;have ck:=qa3 ad K5 d;have b2:=T;have b3:=U;have bo:=Q;have bp:=H;have bn:=D;rw[<-a0.o] at b2 b3 bo bp bn;clear bb ad K5 d l f m T U Q H D bu;simp only[St.val];go_wp2_with fail;rw[a0.o];clear b2 b3 bo bp bn a0;refine(Qr p s.on b g n W5 bj.o.1 bj.o.2.on b6.o).mono ?_;rintro e L ⟨r,rfl,hR,bd,b0,S⟩;obtain⟨bs,K5,d⟩:=ck.o;have q5:=J.size;have q6:=S.size;have a3:=ab.trans (S.mono ab.size);have a5:=ah.swap bs S hR nlr ow;have K6:=K5.below S;obtain⟨Gi,u,iA,i1,i2,ik⟩:=a5.si;have a6:=a5.box K6 0 (.slice r.a r.n r.c);have K7:=K6.set 0 (.slice r.a r.n r.c);have br:=a3.setCell (p:=⟨w4.heap.size,0,none⟩) S6 (.slice r.a r.n r.c);obtain⟨d9,K,-,-,-,jk⟩:=a6.si;rw[show(⟨r,o.os,o.hs,o.ms,o.si,o.so,o.sf⟩:St).si=o.si from rfl] at u K jk i1 i2;rw[u] at K;simp only[co] at K;subst K;have bt:=a6.setIn (show(⟨r,o.os,o.hs,o.ms,o.si,o.so,o.sf⟩:St).si.a=some ⟨Gi,0,none⟩ from u) g (x+n);have E:=K7.other (a:=⟨Gi,g,none⟩) (Blk.ne2 K7 jk dc) (.int .i64 (x+n));have a4:=br.setCell (p:=⟨Gi,g,none⟩) ale (.int .i64 (x+n));have b4:=qa3 a4 bt E;have cn:Hid (af (setIn ⟨r,o.os,o.hs,o.ms,o.si,o.so,o.sf⟩ g (x+n)) (nx s b g n)):=by
  show af _ (nx s b g n);rw[cl.o];refine Lq (s:=⟨r,o.os,o.hs,o.ms,o.si,o.so,o.sf⟩) (t:=setOn s b g ((s.on.r b).z g+n)) ⟨⟨bd,λi hi => ?_⟩,d.os,d.hs,d.ms,d.si,d.so,d.sf⟩ _ _;have dk:i<s.on.n:=by rw[<-bd];exact hi
  have y:=b0 i dk;show(r.r i).n=(if i=b then mg (s.on.r i) g ((s.on.r b).z g+n) else s.on.r i).n/\∀j,j<(r.r i).n->(r.r i).z j=(if i=b then mg (s.on.r i) g ((s.on.r b).z g+n) else s.on.r i).z j;by_cases a9:i=b
  .subst a9;rw[if_pos rfl];refine⟨y.1,λj hj => ?_⟩;rw[y.2 j (by rw[<-y.1];exact hj)];show I5 s.on i g n i j=if j=g then(s.on.r i).z g+n else(s.on.r i).z j;unfold I5;by_cases bv:j=g
   .subst bv;simp
   simp[bv]
  rw[if_neg a9];refine⟨y.1,λj hj => ?_⟩;rw[y.2 j (by rw[<-y.1];exact hj)];unfold I5;simp[a9]
 have z1:=K6.lt;have z2:=K6.frozen 0;have z3:=K6.k 0;have y4:(L.setCell ⟨w4.heap.size,0,none⟩ (.slice r.a r.n r.c)).cell? ⟨w4.heap.size,4,none⟩=some (.slice o.si.a o.si.n o.si.c):=K7.k 4;rw[u,HIN.o] at y4;have y5:(L.setCell ⟨w4.heap.size,0,none⟩ (.slice r.a r.n r.c)).cell? ⟨Gi,g,none⟩=some (.int .i64 (o.si.z g)):=jk.cell (j:=g) aaq;rw[cp.o] at y5;have y6:=jk.lt;have y7:=jk.frozen g;have y8:=K7.lt;have ea:=hid u;rw[HIN.o] at i1;unfold maxLen at i2;obtain⟨-,-,-,cd,b1⟩:=M.o _ a4;have m8:=E.lt;have e0:((L.setCell ⟨w4.heap.size,0,none⟩ (.slice r.a r.n r.c)).setCell ⟨Gi,g,none⟩ (.int .i64 (x+n))).cell? ⟨w4.heap.size,0,none⟩=some (.slice r.a r.n r.c):=E.k 0;have e1:((L.setCell ⟨w4.heap.size,0,none⟩ (.slice r.a r.n r.c)).setCell ⟨Gi,g,none⟩ (.int .i64 (x+n))).cell? ⟨w4.heap.size,1,none⟩=some (.slice o.os.a o.os.n o.os.c):=E.k 1;have e2:((L.setCell ⟨w4.heap.size,0,none⟩ (.slice r.a r.n r.c)).setCell ⟨Gi,g,none⟩ (.int .i64 (x+n))).cell? ⟨w4.heap.size,2,none⟩=some (.slice o.hs.a o.hs.n o.hs.c):=E.k 2;have e3:((L.setCell ⟨w4.heap.size,0,none⟩ (.slice r.a r.n r.c)).setCell ⟨Gi,g,none⟩ (.int .i64 (x+n))).cell? ⟨w4.heap.size,3,none⟩=some (.slice o.ms.a o.ms.n o.ms.c):=E.k 3;have e4:((L.setCell ⟨w4.heap.size,0,none⟩ (.slice r.a r.n r.c)).setCell ⟨Gi,g,none⟩ (.int .i64 (x+n))).cell? ⟨w4.heap.size,4,none⟩=some (.slice o.si.a o.si.n o.si.c):=E.k 4;have e5:((L.setCell ⟨w4.heap.size,0,none⟩ (.slice r.a r.n r.c)).setCell ⟨Gi,g,none⟩ (.int .i64 (x+n))).cell? ⟨w4.heap.size,5,none⟩=some (.slice o.so.a o.so.n o.so.c):=E.k 5;have e6:((L.setCell ⟨w4.heap.size,0,none⟩ (.slice r.a r.n r.c)).setCell ⟨Gi,g,none⟩ (.int .i64 (x+n))).cell? ⟨w4.heap.size,6,none⟩=some (.slice o.sf.a o.sf.n o.sf.c):=E.k 6;obtain⟨zl,aj,ae,ak,zc1,al,zc2,am,zc3,an,zc4,ao,zc5,aq,ai⟩:=z7 b1;clear hR bd b0 bs K5 K6 K7 E a5 a6 bt br a4 S a3 ik jk d u ab J cd b1;simp only[Sh.val];go_wp2_with fail;obtain⟨de,df,eb⟩:=b4.o;obtain⟨_,_,_,m,q⟩:=M.o _ de;have KZ:=pc q (.slice r.a r.n r.c) (.slice o.os.a o.os.n o.os.c) (.slice o.hs.a o.hs.n o.hs.c) (.slice o.ms.a o.ms.n o.ms.c) (.slice o.si.a o.si.n o.si.c) (.slice o.so.a o.so.n o.so.c) (.slice o.sf.a o.sf.n o.sf.c);have ac:=lr (b:=w.heap.size+2) m ow (.slice r.a r.n r.c) (.slice o.os.a o.os.n o.os.c) (.slice o.hs.a o.hs.n o.hs.c) (.slice o.ms.a o.ms.n o.ms.c) (.slice o.si.a o.si.n o.si.c) (.slice o.so.a o.so.n o.so.c) (.slice o.sf.a o.sf.n o.sf.c);have a7:=ah.set7 df q (.slice r.a r.n r.c) (.slice o.os.a o.os.n o.os.c) (.slice o.hs.a o.hs.n o.hs.c) (.slice o.ms.a o.ms.n o.ms.c) (.slice o.si.a o.si.n o.si.c) (.slice o.so.a o.so.n o.so.c) (.slice o.sf.a o.sf.n o.sf.c);unfold set7 at KZ ac a7;obtain⟨cx,cz,c7,c8,c9,da,db⟩:=dp KZ;refine Xzq (v := .tuple #[(setIn ⟨r,o.os,o.hs,o.ms,o.si,o.so,o.sf⟩ g (x+n)).val,.int .i64 0]) (by simp[results,results90,go_sem,setIn,mg,St.val,cx,cz,c7,c8,c9,da,db]) rfl ?_;exact⟨setIn ⟨r,o.os,o.hs,o.ms,o.si,o.so,o.sf⟩ g (x+n),ja,a7.at,⟨λ_=>cn.o,λh=>absurd HX.o h⟩,λ_=>a7.mono b5.o,ac⟩
def wi(p:Pl)(x:Hd):Bool := !(inB x.o 0 ((p.ns:Int)-1)) || !(inB x.l 1 200)
def rv(x:Hd):Bool:=x.b !=0||x.n !=0
def ib(p:Pl)(s:St)(l:Hs):Int :=
 if ag p s=0 then(if s.os.n=4\/¬(1<=l.n/\l.n<=3) then 2 else if aw l.n (λj=>wi p (l.z j)) then 3 else if aw l.n (λj=>rv (l.z j)) then 1 else 0) else ag p s
def my(s:St)(l:Hs):St:=⟨s.on,⟨s.os.a,s.os.n+1,s.os.c,λi=>if i=s.os.n then ⟨0,l⟩ else s.os.z i⟩,s.hs,s.ms,s.si,s.so,s.sf⟩
theorem Gj{l:Hs}(h:¬ag p s=0):ib p s l=ag p s:=by unfold ib;rw[if_neg h]
theorem A4{l:Hs}(h:ag p s=0)(a:s.os.n=4\/¬(1<=l.n/\l.n<=3)):ib p s l=2:=by unfold ib;rw[if_pos h,if_pos a]
theorem Gg{l:Hs}(h:ag p s=0)(a:¬(s.os.n=4\/¬(1<=l.n/\l.n<=3)))(b:aw l.n (λj=>wi p (l.z j))=true):ib p s l=3:=by unfold ib;rw[if_pos h,if_neg a,if_pos b]
theorem Iu{l:Hs}(h:ag p s=0)(a:¬(s.os.n=4\/¬(1<=l.n/\l.n<=3)))(b:¬aw l.n (λj=>wi p (l.z j))=true)(c:aw l.n (λj=>rv (l.z j))=true):ib p s l=1:=by unfold ib;rw[if_pos h,if_neg a,if_neg b,if_pos c]
theorem Vd{l:Hs}(h:ag p s=0)(a:¬(s.os.n=4\/¬(1<=l.n/\l.n<=3)))(b:¬aw l.n (λj=>wi p (l.z j))=true)(c:¬aw l.n (λj=>rv (l.z j))=true):ib p s l=0:=by unfold ib;rw[if_pos h,if_neg a,if_neg b,if_neg c]
theorem aej(B:Nat)(p:Pl)(x:Hd)(w:World)(les:p.ns<=p.cs)(caps:p.cs<=maxLen)(d:B<w.heap.size)(c1:w.cell? ⟨B,1,none⟩=some (.slice p.sa p.ns p.cs)):
  Calls prog 129 #[x.val,.pointer (some ⟨B,0,none⟩)] w λe w'=>e = .returned (.bool (wi p x))/\Bw w w':=by
 have c:p.ns<=maxLen:=Qzx les caps;have a:Bw w (w.alloc (.cells #[.int .i64 x.o,.int .i64 x.l,.int .i64 x.b,.int .i64 x.n] 115)):=(Below.refl w.heap.size w).alloc nlr _;have f:=(a.cell (p:=⟨B,1,none⟩) d).trans c1;have g:B<(w.alloc (.cells #[.int .i64 x.o,.int .i64 x.l,.int .i64 x.b,.int .i64 x.n] 115)).heap.size:=by have:=a.size;omega
 unfold wi Hd.val;clear c1;unfold maxLen at caps;cases i:inB x.o 0 ((p.ns:Int)-1)
 all_goals
  go_enter func129,ntmps129;go_wp2_with(first|(go_at_call 98;refine ap (im _ _ _ c) ?_)|(go_at_call 43;refine ap (dm _ _ _ _) ?_));go_ret;exact⟨vq,a⟩
theorem aek(x:Hd)(w:World):
  Calls prog 130 #[x.val] w λe w'=>e = .returned (.bool (rv x))/\Bw w w':=by
 have a:Bw w (w.alloc (.cells #[.int .i64 x.o,.int .i64 x.l,.int .i64 x.b,.int .i64 x.n] 115)):=(Below.refl w.heap.size w).alloc nlr _;unfold rv Hd.val;cases c:(x.b !=0)
 all_goals
  go_enter func130,ntmps130;go_wp2_with fail;go_ret;exact⟨vq,a⟩
theorem ah.orders{B:Nat}{os:Os}(h:ah A w s)(f:tm B 124 w w')(j:kj A w' os):ah A w' ⟨s.on,os,s.hs,s.ms,s.si,s.so,s.sf⟩:=by
 refine⟨?_,λi hi=>(h.rows i hi).grew f dc,h.rapart,j,h.hs.grew f dc,h.ms.grew f dc,h.msr.grew f dc,h.si.grew f dc,h.so.grew f dc,h.sf.grew f dc,h.aio,h.aif,h.aof,h.ari⟩;obtain⟨g,a,b,c,d,e⟩:=h.on;exact⟨g,a,b,c,d,f.blk e dc⟩
theorem Q5{o:St}{l b:Hs}{a:Option Addr}(h:af o s)(hn:b.n=l.n)(hz:∀j,j<l.n->b.z j=l.z j):af ⟨o.on,⟨a,o.os.n+1,c,nu o.os ⟨0,b⟩⟩,o.hs,o.ms,o.si,o.so,o.sf⟩ (my s l):=by
 have f:o.os.n=s.os.n:=h.os.1;refine⟨h.on,⟨by show o.os.n+1=s.os.n+1;omega,λi hi => ?_⟩,h.hs,h.ms,h.si,h.so,h.sf⟩;have e:i<o.os.n+1:=hi;show(nu o.os ⟨0,b⟩ i).k=(if i=s.os.n then(⟨0,l⟩:Od) else s.os.z i).k/\(nu o.os ⟨0,b⟩ i).ls.n=(if i=s.os.n then(⟨0,l⟩:Od) else s.os.z i).ls.n/\∀j,j<(nu o.os ⟨0,b⟩ i).ls.n->(nu o.os ⟨0,b⟩ i).ls.z j=(if i=s.os.n then(⟨0,l⟩:Od) else s.os.z i).ls.z j;unfold nu;by_cases d:i=s.os.n
 .rw[if_pos ow,if_pos d];exact apu
 rw[if_neg ow,if_neg d];exact h.os.2 i ow
theorem Xr(p:Pl)(s:St)(l:Hs)(w:World)(hp:p.At w)(hs:s.At w)(hl:l.At w):
  Calls prog 91 #[p.val,s.val,l.val] w λe w'=>∃s':St,e = .returned (.tuple #[s'.val,.int .i64 (ib p s l)])/\s'.At w'/\jb (ib p s l) (my s l) s'/\(ib p s l=0->ah w.heap.size w' s')/\Bw w w':=by
 obtain⟨W0,hW,U,X0,Z0⟩:=Dh w p s;have HC:Hid (∀wk,Bw W0 wk->jj wk w.heap.size (w.heap.size+1) p s/\p.At wk/\s.At wk/\Bw w wk/\Blk wk (w.heap.size+2) 36 7 (λ_ => .slice .none 0 0)/\l.At wk):=λwk h=>⟨X0.below h,(hp.below U).below h,(hs.below U).below h,U.trans (h.mono U.size),Z0.below h,(hl.below U).below h⟩;have HW:=hid hW;have leb:=hp.leb;have bl:=hp.capb;have les:=hp.les;have aa:=hp.caps;have capb:=bl;have caps:=aa;have dt:=Z0.lt;unfold maxLen at capb caps;have b8:=hl.le;have T:=hl.cap;have ce:=T;unfold maxLen at ce;clear hW X0 Z0 hp hs hl;unfold Pl.val St.val Hs.val;go_enter func91,ntmps91;go_wp2_with fail;rw[HW.o];obtain⟨X,D,y,t,E,m⟩:=HC.o W0 brf;refine(l8 p s W0 D y).mono ?_;rintro e w1 ⟨rfl,r⟩;clear X D y t E m HW;obtain⟨⟨⟨W,d0,d1⟩,l2,c0,c1,c2,c3,c4,c5,c6⟩,D,y,t,E,m⟩:=HC.o w1 r;by_cases h0:ag p s=0;rotate_left
 .have HX:Hid (ib p s l=ag p s):=Gj h0;clear D y m c0 c1 c2 c3 c4 c5 c6;obtain⟨zl,bd,bb,be,zc1,bf,zc2,bg,zc3,bh,zc4,bi,zc5,bj,bc⟩:=z7 E;go_wp2_with fail;exact mu results91 E t ow HX.o h0 rfl rfl rfl
 have H0:=hid h0;have HF:Hid (cu p s):=(et h0).fm;rw[h0];clear h0;by_cases k1:s.os.n=4
 .have HX:Hid (ib p s l=2):=A4 H0.o (Or.inl k1);have q1:((s.os.n:Int)==4)=true:=by rw[k1];rfl
  exact au6
 have q1:((s.os.n:Int)==4)=false:=oq;cases k2:inB l.n 1 3
 .have HX:Hid (ib p s l=2):=A4 H0.o (Or.inr (by have:=M9 k2;omega));exact au6
 have d3:=ar k2;have HM:Hid (¬(s.os.n=4\/¬(1<=l.n/\l.n<=3))):=by show ¬_;omega
 clear k1;have L:=hid m;clear E D y m;go_wp2_with(go_at_call 43;refine ap (dm _ _ _ _) ?_);refine(Qw 129 #[.pointer (some ⟨w.heap.size,0,none⟩)] (λj=>wi p (l.z j)) _ _ _ _ b8 T l.z L.o.hds (enters_of func129 ko rfl) (λi J _ h=>aej w.heap.size p _ J les aa (Xzx W h.size) ((h.cell (p:=⟨w.heap.size,1,none⟩) W).trans d1))).mono ?_;rintro e J ⟨rfl,hB2⟩;have r:=r.trans (hB2.mono r.size);clear W d0 d1 l2 c0 c1 c2 c3 c4 c5 c6 t hB2 L q1 k2;obtain⟨⟨⟨W,d0,d1⟩,l2,c0,c1,c2,c3,c4,c5,c6⟩,D,y,t,E,m⟩:=HC.o J r;cases k3:aw l.n (λj=>wi p (l.z j));rotate_left
 .have HX:Hid (ib p s l=3):=Gg H0.o HM.o k3;clear k3;exact alw
 have K3:Hid (¬aw l.n (λj=>wi p (l.z j))=true):=by show ¬_;rw[k3];decide
 clear k3;have L:=hid m;clear E D y m;go_wp2_with fail;refine(Qw 130 #[] (λj=>rv (l.z j)) _ _ _ _ b8 T l.z L.o.hds (enters_of func130 ko rfl) (λi J _ h=>by rw[Array.append_empty];exact aek _ _)).mono ?_;rintro e w3 ⟨rfl,hB2⟩;have r:=r.trans (hB2.mono r.size);clear W d0 d1 l2 c0 c1 c2 c3 c4 c5 c6 t hB2 L;obtain⟨⟨⟨W,d0,d1⟩,l2,c0,c1,c2,c3,c4,c5,c6⟩,D,y,t,E,m⟩:=HC.o w3 r;cases k4:aw l.n (λj=>rv (l.z j));rotate_left
 .have HX:Hid (ib p s l=1):=Iu H0.o HM.o K3.o k4;clear k4;exact alw
 have HX:Hid (ib p s l=0):=Vd H0.o HM.o K3.o (by rw[k4];decide);clear k4 K3 HM;have df:=E.lt;have b6:=pv p s w3 y HF.o;have br:Hid _:=b6;have L:=hid m;clear b6 E m D y;go_wp2_with fail;refine Calls.mono br.o ?_;rintro e w4 ⟨o,rfl,f,a5,hB2⟩;clear br;have bv:=r.trans (hB2.mono r.size);have q3:=r.size;have ca:Hid (w.heap.size<=w3.heap.size):=Qzx (HC.o _ brf).2.2.2.1.size r.size;have q4:=hB2.size;obtain⟨W5,b4,Q,Y⟩:=ab7 w4 o;have bt:=hid b4;have ay:=bv.trans (Q.mono bv.size);have ac:=ah.below a5 Q;have a4:=(L.o.below hB2).below Q;have q5:=Q.size;have d5:o.os.n<=4:=by have:=HF.o.os4;have:o.os.n=s.os.n:=f.os.1;omega
 clear W d0 d1 l2 c0 c1 c2 c3 c4 c5 c6 t df b4;simp only[St.val];go_wp2_with fail;rw[bt.o];have ck:=qa3 ac Y f;have cj:=hid a4;have r0:=Qqq (Y.k 1);have d6:w4.heap.size<W5.heap.size:=Y.lt;clear a5 ac Y f a4 L bt Q hB2;obtain⟨iO,hO,c9,da,db⟩:=info_parts Fl;refine vw (λw'=>∃p:Regrown,w'=grow (redrawn W5 p.d) p.os) [0,1,2] [3,4,5] [(true,6),(true,7),(true,8)] (Qqx (brf.drew)) ?_;simp only[jg]
 repeat(go_big_quiet_step(fail))
 refine Qqz ?_;clear r0;refine⟨λj v g wk=>match j with|3=>DHs W5.heap.size 115 l v g wk|4=>D16 W5.heap.size ⟨0,l⟩ v g wk|5=>D17 W5.heap.size ⟨0,l⟩ v g wk|_=>True,
  Qjx ⟨λv g w w' r h=>DHs.below h r,Qjx ⟨λv g w w' r h=>D16.below h r,Qjx ⟨λv g w w' r h=>D17.below h r,Qjq _⟩⟩⟩,
  Qjx ⟨λv g w h=>Bm,Qjx ⟨λv g w h=>Bm,Qjx ⟨λv g w h=>ags,Qjq _⟩⟩⟩,
  Qjx ⟨?zt3,Qjx ⟨?zt4,Qjx ⟨?zt5,Qjq _⟩⟩⟩,?ztdone⟩
 case zt3 =>
  intro V G wk K hS hd hA hK;have hX:=ae hS;have q:=hX.size;refine ai _ rfl ?_;simp only[bw] at hK ⊢;go_wp2_with fail;refine(Mc l wk (cj.o.below hX) ow).mono ?_;rintro e J ⟨s',rfl,hc,hB2⟩;have HR:Hid (uq W5.heap.size 115 l J s'):=⟨hc.1,hc.2.1,hc.2.2.1.mono ow,hc.2.2.2.mono ow⟩;exact abf
 case zt4 =>
  intro V G wk K hS hd hA hK;obtain⟨s',-,h15,hc⟩:DHs W5.heap.size 115 l (V 3) (G 3) wk:=hd 3 (Qjz ko) vq;exact avg
 case zt5 =>
  intro V G wk K hS hd hA hK;have hX:=ae hS;obtain⟨s',-,h16,hc⟩:D16 W5.heap.size ⟨0,l⟩ (V 4) (G 4) wk:=hd 4 (Qjz ko) vq;exact aug
 case ztdone =>
  intro V G' wk hS hD hA;obtain⟨BO,s',-,c7,d4,b7,e1,e2,⟨o1,o2,o3,o4⟩,-⟩:D17 W5.heap.size ⟨0,l⟩ (V 5) (G' 5) wk:=hD 5 vq;have hX:=ae hS;have q1:=hX.size;obtain⟨gB,ea,a3,kB⟩:=o4 alp;obtain⟨a0,K5,f⟩:=ck.o;have b1:=ah.below a0 hX;have K6:=K5.below hX;have b0:=ay.trans (hX.mono ay.size);have HE:=qa8 e1 e2 ea o1 o2 kB f a3;have M:=qa2 b1 a0;have bs:=hid K6;have au:=hid b0;have HK17:=hid b7;clear hS hD hA e1 e2 ea o1 o2 o3 o4 kB a0 K5 f b1 K6 b0 b7 ay;simp only[bw,c7];refine bu 6 rfl ?_;go_wp2_with(at_builtin;refine vv wk rfl (.tmp 45) (.tmp 49) 32 rfl w3.heap.size 124 iO (.agg #[.int .i64 0,.slice none 0 0]) 2 32 underlying32 hO c9 da db rfl dc o.os.a o.os.n o.os.c (ke o.os.n o.os.z) rfl M.o.1.os.room M.o.1.os.le M.o.1.os.cap (vk _ _) M.o.1.os.list ⟨BO,0,none⟩ 1 1 [.int .i64 0,.slice s'.a s'.n s'.c] rfl rfl ?zc1 ?zc2 dc ?zc3 ?zc4 ?zc5 ?_)
  case zc1 =>
   exact amx
  case zc2=>exact aoo
  case zc3=>unfold maxLen;omega
  case zc4=>omega
  case zc5=>omega
  intro v2 J ab A;obtain⟨e1,e2,ea,o1,o2,kB,f,a3⟩:=HE.o;obtain⟨F,H,rfl,b3⟩:=kj.more (x:=⟨0,s'⟩) M.o.1.os ab A ea ow o1 o2 kB (λi hi e=>by
   obtain⟨B,x1,x2,x3,x4,x5⟩:=M.o.2.os.lines i hi;rw[x1] at e;have e':=e.trans ea;simp only[co] at e';have:=x5.lt;omega)
  have a1:=M.o.1.orders A b3;have bx:=A.below au.o ow (by have:=au.o.size;omega);have K7:=A.blk bs.o dc;have xl:=K7.lt;have d8:=K7.frozen 1;have d7:=K7.k 1;have S:=K7.set 1 (.slice F (o.os.n+1) H);have b2:=a1.box K7 1 (.slice F (o.os.n+1) H);have bz:=bx.setCell (p:=⟨w4.heap.size,1,none⟩) S6 (.slice F (o.os.n+1) H);have cl:Hid (af ⟨o.on,⟨F,o.os.n+1,H,nu o.os ⟨0,s'⟩⟩,o.hs,o.ms,o.si,o.so,o.sf⟩ (my s l)):=Q5 f e1 e2;obtain⟨-,-,-,az,a6,-⟩:=HC.o _ bz;have b9:=qa3 b2 az a6;have m8:=S.lt;have du:(J.setCell ⟨w4.heap.size,1,none⟩ (.slice F (o.os.n+1) H)).cell? ⟨w4.heap.size,0,none⟩=some (.slice o.on.a o.on.n o.on.c):=S.k 0;have dv:(J.setCell ⟨w4.heap.size,1,none⟩ (.slice F (o.os.n+1) H)).cell? ⟨w4.heap.size,1,none⟩=some (.slice F (o.os.n+1) H):=S.k 1;have dw:(J.setCell ⟨w4.heap.size,1,none⟩ (.slice F (o.os.n+1) H)).cell? ⟨w4.heap.size,2,none⟩=some (.slice o.hs.a o.hs.n o.hs.c):=S.k 2;have dx:(J.setCell ⟨w4.heap.size,1,none⟩ (.slice F (o.os.n+1) H)).cell? ⟨w4.heap.size,3,none⟩=some (.slice o.ms.a o.ms.n o.ms.c):=S.k 3;have dy:(J.setCell ⟨w4.heap.size,1,none⟩ (.slice F (o.os.n+1) H)).cell? ⟨w4.heap.size,4,none⟩=some (.slice o.si.a o.si.n o.si.c):=S.k 4;have dz:(J.setCell ⟨w4.heap.size,1,none⟩ (.slice F (o.os.n+1) H)).cell? ⟨w4.heap.size,5,none⟩=some (.slice o.so.a o.so.n o.so.c):=S.k 5;have d2:(J.setCell ⟨w4.heap.size,1,none⟩ (.slice F (o.os.n+1) H)).cell? ⟨w4.heap.size,6,none⟩=some (.slice o.sf.a o.sf.n o.sf.c):=S.k 6;obtain⟨zl,bd,bb,be,zc1,bf,zc2,bg,zc3,bh,zc4,bi,zc5,bj,bc⟩:=z7 a6;clear ab A b3 a1 bx K7 S b2 bz az a6 HE M bs au HK17 kB f e1 e2 ea o1 o2 a3 hX;refine o6 ⟨fw.yes,?_⟩;refine bu 7 rfl ?_;go_wp2_with fail;refine⟨fw.yes,?_⟩;refine bu 8 rfl ?_;go_wp2_with fail;refine⟨fw.yes,?_⟩;refine NoPanic.normal ?_;go_wp2_with fail;obtain⟨dd,t,E⟩:=b9.o;have KZ:=pc E (.slice o.on.a o.on.n o.on.c) (.slice F (o.os.n+1) H) (.slice o.hs.a o.hs.n o.hs.c) (.slice o.ms.a o.ms.n o.ms.c) (.slice o.si.a o.si.n o.si.c) (.slice o.so.a o.so.n o.so.c) (.slice o.sf.a o.sf.n o.sf.c);have b5:=lr (b:=w.heap.size+2) t ow (.slice o.on.a o.on.n o.on.c) (.slice F (o.os.n+1) H) (.slice o.hs.a o.hs.n o.hs.c) (.slice o.ms.a o.ms.n o.ms.c) (.slice o.si.a o.si.n o.si.c) (.slice o.so.a o.so.n o.so.c) (.slice o.sf.a o.sf.n o.sf.c);have a2:=ah.set7 dd E (.slice o.on.a o.on.n o.on.c) (.slice F (o.os.n+1) H) (.slice o.hs.a o.hs.n o.hs.c) (.slice o.ms.a o.ms.n o.ms.c) (.slice o.si.a o.si.n o.si.c) (.slice o.so.a o.so.n o.so.c) (.slice o.sf.a o.sf.n o.sf.c);unfold set7 at KZ b5 a2;obtain⟨cs,ct,cv,cw,cx,cy,cz⟩:=dp KZ;refine Xzq (v := .tuple #[(⟨o.on,⟨F,o.os.n+1,H,nu o.os ⟨0,s'⟩⟩,o.hs,o.ms,o.si,o.so,o.sf⟩:St).val,.int .i64 0]) (by simp[results,results91,go_sem,St.val,cs,ct,cv,cw,cx,cy,cz]) rfl ?_;exact⟨⟨o.on,⟨F,o.os.n+1,H,nu o.os ⟨0,s'⟩⟩,o.hs,o.ms,o.si,o.so,o.sf⟩,ja,a2.at,⟨λ_=>cl.o,λh=>absurd HX.o h⟩,λ_=>a2.mono ca.o,b5⟩
theorem Tt(p:Pl)(s:St)(l:Hs)(w:World)(hp:p.At w)(hs:s.At w)(hl:l.At w):
  Calls prog 71 #[p.val,s.val,l.val] w λe w'=>∃s':St,e = .returned (.tuple #[s'.val,.int .i64 (ib p s l)])/\s'.At w'/\jb (ib p s l) (my s l) s'/\(ib p s l=0->ah w.heap.size w' s')/\Bw w w':=by
 obtain⟨W0,hW,am,X0,Z0⟩:=Dh w p s;have HC:Hid (∀wk,Bw W0 wk->jj wk w.heap.size (w.heap.size+1) p s/\p.At wk/\s.At wk/\Bw w wk/\Blk wk (w.heap.size+2) 36 7 (λ_ => .slice .none 0 0)/\l.At wk):=λwk h=>⟨X0.below h,(hp.below am).below h,(hs.below am).below h,am.trans (h.mono am.size),Z0.below h,(hl.below am).below h⟩;have HW:=hid hW;have leb:=hp.leb;have b3:=hp.capb;have les:=hp.les;have ac:=hp.caps;have capb:=b3;have caps:=ac;have e7:=Z0.lt;unfold maxLen at capb caps;have fg:=hl.le;have b8:=hl.cap;have c8:=b8;unfold maxLen at c8;clear hW X0 Z0 hp hs hl;unfold Pl.val St.val Hs.val;go_enter func71,ntmps71;go_wp2_with fail;rw[HW.o];obtain⟨X,D,t,f,y,m⟩:=HC.o W0 brf;refine(nf p s W0 D t).mono ?_;rintro e w1 ⟨rfl,hB⟩;clear X D t f y m HW;obtain⟨⟨⟨l1,d0,d1⟩,l2,c0,c1,c2,c3,c4,c5,c6⟩,D,t,f,y,m⟩:=HC.o w1 hB;by_cases U:ag p s=0;rotate_left
 .have HX:Hid (ib p s l=ag p s):=Gj U;clear D t m c0 c1 c2 c3 c4 c5 c6;obtain⟨zl,a4,a2,a5,zc1,a6,zc2,a7,zc3,a8,zc4,a9,zc5,bb,a3⟩:=z7 y;go_wp2_with fail;exact mu results71 y f ow HX.o U rfl rfl rfl
 have H0:=hid U;have HF:Hid (cu p s):=(et U).fm;rw[U];clear U;have os4:=HF.o.os4;by_cases k1:s.os.n=4
 .have HX:Hid (ib p s l=2):=A4 H0.o (Or.inl k1);have g1:(4:Int)<=(s.os.n:Int):=ow;have g2:4<=s.os.n:=ow;have g3:decide ((4:Int)<=(s.os.n:Int))=true:=decide_eq_true g1;have g4:decide (4<=s.os.n)=true:=decide_eq_true g2;exact au5
 have g1:¬(4:Int)<=(s.os.n:Int):=ow;have g2:¬4<=s.os.n:=ow;have g3:decide ((4:Int)<=(s.os.n:Int))=false:=decide_eq_false g1;have g4:decide (4<=s.os.n)=false:=decide_eq_false g2;cases k2:inB l.n 1 3
 .have HX:Hid (ib p s l=2):=A4 H0.o (Or.inr (by have:=M9 k2;omega));exact au5
 have ff:=ar k2;have HM:Hid (¬(s.os.n=4\/¬(1<=l.n/\l.n<=3))):=by show ¬_;omega
 clear k1;obtain⟨bl,ol,F,-⟩:=m.hds 0 ow;have bi:=hid F;clear y D t m f;rw[F];clear F;go_wp2_with(go_at_call 34;refine ap (da _ _ _ _) ?_);clear l1 d0 d1 l2 c0 c1 c2 c3 c4 c5 c6 g1 g2 g3 g4 k2 os4
 go_loopw [9] (λi wk=>∃k:Nat,k<=l.n/\i = .int .i64 k/\(∀j,j<k->wi p (l.z j)=false)/\Bw W0 wk) (λi _=>l.n-(intOf i).toNat)
 case atStart=>exact C0
 clear hB;obtain⟨k,hk,rfl,an,hB⟩:=hrel;have Y:=hid an;clear an;obtain⟨⟨⟨l1,d0,d1⟩,l2,c0,c1,c2,c3,c4,c5,c6⟩,D,t,f,y,m⟩:=HC.o wr hB;by_cases W:k<l.n
 .obtain⟨b2,o2,F,ed,y0,y1,y2,y3⟩:=m.hds k W;rw[bi.o] at F;simp only[co] at F;obtain⟨rfl,rfl⟩:=F;have Q:Hid (wi p (l.z k)=(!(inB (l.z k).o 0 ((p.ns:Int)-1)) || !(inB (l.z k).l 1 200))):=rfl;have L:Hid (wi p (l.z k)=true->ib p s l=3):=λh=>Gg H0.o HM.o (ir W h);have S:Hid (wi p (l.z k)=false->∀j,j<k+1->wi p (l.z j)=false):=λh=>zi Y.o h;have qk:(0:Int)<=(k:Int):=ow
  generalize wi p (l.z k)=OL at *
  generalize l.z k=LZ at *
  have v0:=Qqq y0;have v1:=Qqq y1;have v2:=Qqq d0;have v3:=Qqq d1;clear y0 y1 y2 y3 d0 d1 c0 c1 c2 c3 c4 c5 c6 D t m f y l1 l2 Y;cases m1:inB LZ.o 0 ((p.ns:Int)-1)
  .have HX:Hid (ib p s l=3):=L.o (by rw[Q.o,m1];rfl);exact aty
  cases m2:inB LZ.l 1 200
  .have HX:Hid (ib p s l=3):=L.o Sk;exact aty
  have bj:Hid _:=S.o Sk;clear L S Q;go_wp2_with fail;refine Qxq ko ko ?_
  repeat(go_big_quiet_step(first|(go_at_call 102;exact Xxz (Ae p _ _ les ac))|(go_at_call 34;exact Xxz ((da _ _ _ _).mono (λ_ _ h=>⟨h.1,h.2▸Below.refl _ _⟩)))))
  refine Qqz ?_;intro w9 a1;have bo:Bw W0 w9:=axo;clear a1 v0 v1 v2 v3 hB;go_wp2_with fail;go_roundw
  case rel=>exact⟨k+1,ow,vo,bj.o,bo⟩
  case measure=>simp[intOf];omega
 have K3:Hid (¬aw l.n (λj=>wi p (l.z j))=true):=by show ¬_;rw[dj λj hj=>Y.o j ow];decide
 clear Y D t m f y l1 d0 d1 l2 c0 c1 c2 c3 c4 c5 c6;go_wp2_with fail;clear hk W
 go_loopw [10] (λi wk=>∃k:Nat,k<=l.n/\i = .int .i64 k/\(∀j,j<k->rv (l.z j)=false)/\Bw W0 wk) (λi _=>l.n-(intOf i).toNat)
 case atStart=>exact C0
 clear hB;obtain⟨k,hk,rfl,an,hB⟩:=hrel;have Y:=hid an;clear an;obtain⟨⟨⟨l1,d0,d1⟩,l2,c0,c1,c2,c3,c4,c5,c6⟩,D,t,f,y,m⟩:=HC.o wr hB;by_cases W:k<l.n
 .obtain⟨b2,o2,F,ed,y0,y1,y2,y3⟩:=m.hds k W;rw[bi.o] at F;simp only[co] at F;obtain⟨rfl,rfl⟩:=F;have Q:Hid (rv (l.z k)=((l.z k).b !=0||(l.z k).n !=0)):=rfl;have L:Hid (rv (l.z k)=true->ib p s l=1):=λh=>Iu H0.o HM.o K3.o (ir W h);have S:Hid (rv (l.z k)=false->∀j,j<k+1->rv (l.z j)=false):=λh=>zi Y.o h;have qk:(0:Int)<=(k:Int):=ow
  generalize rv (l.z k)=OL at *
  generalize l.z k=LZ at *
  clear c0 c1 c2 c3 c4 c5 c6 D t m Y;cases m1:(LZ.b !=0)
  .cases m2:(LZ.n !=0)
   .have bj:Hid _:=S.o Sk;clear L S Q y f;go_wp2_with fail;go_roundw
    case rel=>exact⟨k+1,ow,vo,bj.o,hB⟩
    case measure=>simp[intOf];omega
   have HX:Hid (ib p s l=1):=L.o Sk;exact alx
  have HX:Hid (ib p s l=1):=L.o (by rw[Q.o,m1];rfl);exact alx
 have HX:Hid (ib p s l=0):=Vd H0.o HM.o K3.o (by rw[dj λj hj=>Y.o j ow];decide);clear K3 HM Y;have ee:=y.lt;have cv:=hid f.size;have cq:=su p s wr t HF.o;have cc:Hid _:=cq;have ce:=hid m;clear cq y m D t;go_wp2_with fail;refine Calls.mono cc.o ?_;rintro e w4 ⟨o,rfl,r,aj,ay⟩;clear cc;have cg:=hB.trans (ay.mono hB.size);have q3:=hB.size;have q4:=ay.size;obtain⟨W5,cn,T,ax⟩:=ab7 w4 o;have cf:=hid cn;have bn:=cg.trans (T.mono cg.size);have a0:=ah.below aj T;have bv:=(ce.o.below ay).below T;have q5:=T.size;have fi:o.os.n<=4:=by have:=HF.o.os4;have:o.os.n=s.os.n:=r.os.1;omega
 clear l1 d0 d1 l2 c0 c1 c2 c3 c4 c5 c6 f ee cn;simp only[St.val];go_wp2_with fail;rw[cf.o];have dg:=qa3 a0 ax r;have df:=hid bv;have r0:=Qqq (ax.k 1);have fk:w4.heap.size<W5.heap.size:=ax.lt;clear aj a0 ax r bv ce cf T ay;obtain⟨iO,hO,d7,d8,d9⟩:=info_parts Fl;obtain⟨iL,hL,d4,d5,d6⟩:=info_parts Ed;refine vw (λw'=>∃p:Regrown,w'=grow (redrawn W5 p.d) p.os) [0,1,3] [2,4,5,6] [(true,7),(true,8),(true,9)] (Qqx (brf.drew)) ?_;simp only[jg]
 repeat(go_big_quiet_step(fail))
 refine Qqz ?_;clear r0;refine⟨λj v g wk=>match j with|4=>DHs W5.heap.size 115 l v g wk|5=>D16 W5.heap.size ⟨0,l⟩ v g wk|6=>D17 W5.heap.size ⟨0,l⟩ v g wk|_=>DE v g,
  Qjx ⟨λv g w w' _ h=>h,Qjx ⟨λv g w w' hB h=>DHs.below h hB,Qjx ⟨λv g w w' hB h=>D16.below h hB,Qjx ⟨λv g w w' hB h=>D17.below h hB,Qjq _⟩⟩⟩⟩,
  Qjx ⟨λv g w h=>Bm,Qjx ⟨λv g w h=>Bm,Qjx ⟨λv g w h=>Bm,Qjx ⟨λv g w h=>ags,Qjq _⟩⟩⟩⟩,
  Qjx ⟨?zt2,Qjx ⟨?zt3,Qjx ⟨?zt4,Qjx ⟨?zt5,Qjq _⟩⟩⟩⟩,?ztdone⟩
 case zt2 =>
  exact L5
 case zt3 =>
  intro V G wk K hS hd hA hK;have hX:=ae hS;have q:=hX.size;obtain⟨B,-,h3⟩:DE (V 2) (G 2):=hd 2 (Qjz ko) vq;refine ai _ rfl ?_;simp only[bw,h3] at hK ⊢;go_wp2_with(at_builtin;refine ri wk rfl (.tmp 79) (.tmp 80) 75 rfl 115 iL (.agg #[.int .i64 0,.int .i64 0,.int .i64 0,.int .i64 0]) 4 32 underlying75 hL d4 d5 d6 rfl dc B rfl (some ⟨bl,ol,none⟩) l.n l.c (ba l.n l.z) rfl Sy (λad ha=>Ot (df.o.below hX) ad (bi.o.trans ha)) (ot _ _) (λh=>ix) uo ow ?_ ?_)
  .intro U;exact absurd U ow
  intro U v' w1 aj b6;have hB1:Bw wk w1:=(Below.refl _ wk).grown b6 nlr Ba;obtain⟨s',rfl,hc⟩:=Ir (A:=W5.heap.size) U aj ow;exact amv
 case zt4 =>
  intro V G wk K hS hd hA hK;obtain⟨s',-,h15,hc⟩:DHs W5.heap.size 115 l (V 4) (G 4) wk:=hd 4 (Qjz ko) vq;exact avg
 case zt5 =>
  intro V G wk K hS hd hA hK;have hX:=ae hS;obtain⟨s',-,h16,hc⟩:D16 W5.heap.size ⟨0,l⟩ (V 5) (G 5) wk:=hd 5 (Qjz ko) vq;exact aug
 case ztdone =>
  intro V G' wk hS hD hA;obtain⟨BO,s',-,d2,fh,cr,e1,e2,⟨o1,o2,o3,o4⟩,-⟩:D17 W5.heap.size ⟨0,l⟩ (V 6) (G' 6) wk:=hD 6 vq;have hX:=ae hS;have q1:=hX.size;obtain⟨gB,ea,bt,kB⟩:=o4 alp;obtain⟨bq,K5,r⟩:=dg.o;have ck:=ah.below bq hX;have K6:=K5.below hX;have cj:=bn.trans (hX.mono bn.size);have HE:=qa8 e1 e2 ea o1 o2 kB r bt;have M:=qa2 ck bq;have cd:=hid K6;have bh:=hid cj;have HK17:=hid cr;clear hS hD hA e1 e2 ea o1 o2 o3 o4 kB bq K5 r ck K6 cj cr bn;simp only[bw,d2];refine bu 7 rfl ?_;go_wp2_with(at_builtin;refine vv wk rfl (.tmp 78) (.tmp 83) 32 rfl wr.heap.size 124 iO (.agg #[.int .i64 0,.slice none 0 0]) 2 32 underlying32 hO d7 d8 d9 rfl dc o.os.a o.os.n o.os.c (ke o.os.n o.os.z) rfl M.o.1.os.room M.o.1.os.le M.o.1.os.cap (vk _ _) M.o.1.os.list ⟨BO,0,none⟩ 1 1 [.int .i64 0,.slice s'.a s'.n s'.c] rfl rfl ?zc1 ?zc2 dc ?zc3 ?zc4 ?zc5 ?_)
  case zc1 =>
   exact amx
  case zc2=>exact aoo
  case zc3=>unfold maxLen;omega
  case zc4=>omega
  case zc5=>omega
  intro v2 w2 az E;obtain⟨e1,e2,ea,o1,o2,kB,r,bt⟩:=HE.o;obtain⟨H,J,rfl,cm⟩:=kj.more (x:=⟨0,s'⟩) M.o.1.os az E ea ow o1 o2 kB (λi hi e=>by
   obtain⟨B,x1,x2,x3,x4,x5⟩:=M.o.2.os.lines i hi;rw[x1] at e;have e':=e.trans ea;simp only[co] at e';have:=x5.lt;omega)
  have br:=M.o.1.orders E cm;have ch:=E.below bh.o ow (by have:=bh.o.size;omega);have K7:=E.blk cd.o dc;have xl:=K7.lt;have fn:=K7.frozen 1;have fl:=K7.k 1;have K8:=K7.set 1 (.slice H (o.os.n+1) J);have cl:=br.box K7 1 (.slice H (o.os.n+1) J);have ci:=ch.setCell (p:=⟨w4.heap.size,1,none⟩) S6 (.slice H (o.os.n+1) J);have dh:Hid (af ⟨o.on,⟨H,o.os.n+1,J,nu o.os ⟨0,s'⟩⟩,o.hs,o.ms,o.si,o.so,o.sf⟩ (my s l)):=Q5 r e1 e2;obtain⟨-,-,-,bp,bx,-⟩:=HC.o _ ci;have cs:=qa3 cl bp bx;have m8:=K8.lt;have e8:(w2.setCell ⟨w4.heap.size,1,none⟩ (.slice H (o.os.n+1) J)).cell? ⟨w4.heap.size,0,none⟩=some (.slice o.on.a o.on.n o.on.c):=K8.k 0;have e9:(w2.setCell ⟨w4.heap.size,1,none⟩ (.slice H (o.os.n+1) J)).cell? ⟨w4.heap.size,1,none⟩=some (.slice H (o.os.n+1) J):=K8.k 1;have fa:(w2.setCell ⟨w4.heap.size,1,none⟩ (.slice H (o.os.n+1) J)).cell? ⟨w4.heap.size,2,none⟩=some (.slice o.hs.a o.hs.n o.hs.c):=K8.k 2;have fb:(w2.setCell ⟨w4.heap.size,1,none⟩ (.slice H (o.os.n+1) J)).cell? ⟨w4.heap.size,3,none⟩=some (.slice o.ms.a o.ms.n o.ms.c):=K8.k 3;have fc:(w2.setCell ⟨w4.heap.size,1,none⟩ (.slice H (o.os.n+1) J)).cell? ⟨w4.heap.size,4,none⟩=some (.slice o.si.a o.si.n o.si.c):=K8.k 4;have fd:(w2.setCell ⟨w4.heap.size,1,none⟩ (.slice H (o.os.n+1) J)).cell? ⟨w4.heap.size,5,none⟩=some (.slice o.so.a o.so.n o.so.c):=K8.k 5;have fe:(w2.setCell ⟨w4.heap.size,1,none⟩ (.slice H (o.os.n+1) J)).cell? ⟨w4.heap.size,6,none⟩=some (.slice o.sf.a o.sf.n o.sf.c):=K8.k 6;obtain⟨zl,a4,a2,a5,zc1,a6,zc2,a7,zc3,a8,zc4,a9,zc5,bb,a3⟩:=z7 bx;clear az E cm br ch K7 K8 cl ci bp bx HE M cd bh HK17 kB r e1 e2 ea o1 o2 bt hX;refine o6 ⟨fw.yes,?_⟩;refine bu 8 rfl ?_;go_wp2_with fail;refine⟨fw.yes,?_⟩;refine bu 9 rfl ?_;go_wp2_with fail;refine⟨fw.yes,?_⟩;refine NoPanic.normal ?_;go_wp2_with fail;obtain⟨eb,f,y⟩:=cs.o;have KZ:=pc y (.slice o.on.a o.on.n o.on.c) (.slice H (o.os.n+1) J) (.slice o.hs.a o.hs.n o.hs.c) (.slice o.ms.a o.ms.n o.ms.c) (.slice o.si.a o.si.n o.si.c) (.slice o.so.a o.so.n o.so.c) (.slice o.sf.a o.sf.n o.sf.c);have cp:=lr (b:=w.heap.size+2) f ow (.slice o.on.a o.on.n o.on.c) (.slice H (o.os.n+1) J) (.slice o.hs.a o.hs.n o.hs.c) (.slice o.ms.a o.ms.n o.ms.c) (.slice o.si.a o.si.n o.si.c) (.slice o.so.a o.so.n o.so.c) (.slice o.sf.a o.sf.n o.sf.c);have bs:=ah.set7 eb y (.slice o.on.a o.on.n o.on.c) (.slice H (o.os.n+1) J) (.slice o.hs.a o.hs.n o.hs.c) (.slice o.ms.a o.ms.n o.ms.c) (.slice o.si.a o.si.n o.si.c) (.slice o.so.a o.so.n o.so.c) (.slice o.sf.a o.sf.n o.sf.c);unfold set7 at KZ cp bs;obtain⟨dr,ds,dt,du,dv,dw,dx⟩:=dp KZ;refine Xzq (v := .tuple #[(⟨o.on,⟨H,o.os.n+1,J,nu o.os ⟨0,s'⟩⟩,o.hs,o.ms,o.si,o.so,o.sf⟩:St).val,.int .i64 0]) (by simp[results,results71,go_sem,St.val,dr,ds,dt,du,dv,dw,dx]) rfl ?_;exact⟨⟨o.on,⟨H,o.os.n+1,J,nu o.os ⟨0,s'⟩⟩,o.hs,o.ms,o.si,o.so,o.sf⟩,ja,bs.at,⟨λ_=>dh.o,λh=>absurd HX.o h⟩,λ_=>bs.mono cv.o,cp⟩
structure aeg(w:World)(g:Nat)(a k:Int):Prop where
 b0:Blk w (g) 3 2 (λj=>(#[.int .i64 9,.int .i64 0]:Array Value).getD j default)
 b1:Blk w (g+1) 3 2 (λj=>(#[.int .i64 3,.int .i64 0]:Array Value).getD j default)
 b2:Blk w (g+2) 3 2 (λj=>(#[.int .i64 0,.int .i64 6]:Array Value).getD j default)
 b3:Blk w (g+3) 23 3 (λj=>(#[.slice (some ⟨g,0,none⟩) 2 2,.slice (some ⟨g+1,0,none⟩) 2 2,.slice (some ⟨g+2,0,none⟩) 2 2]:Array Value).getD j default)
 b4:Blk w (g+4) 115 8 (λj=>(#[.int .i64 0,.int .i64 6,.int .i64 1,.int .i64 0,.int .i64 1,.int .i64 9,.int .i64 0,.int .i64 3]:Array Value).getD j default)
 b5:Blk w (g+5) 115 4 (λj=>(#[.int .i64 0,.int .i64 4,.int .i64 0,.int .i64 0]:Array Value).getD j default)
 b6:Blk w (g+6) 124 4 (λj=>(#[.int .i64 1,.slice (some ⟨g+4,0,none⟩) 2 2,.int .i64 k,.slice (some ⟨g+5,0,none⟩) 1 1]:Array Value).getD j default)
 b7:Blk w (g+7) 107 12 (λj=>(#[.int .i64 0,.int .i64 0,.int .i64 0,.int .i64 a,.int .i64 0,.int .i64 0,.int .i64 1,.int .i64 3,.int .i64 0,.int .i64 1,.int .i64 2,.int .i64 6]:Array Value).getD j default)
 b8:Blk w (g+8) 110 4 (λj=>(#[.int .i64 0,.int .i64 0,.int .i64 1,.int .i64 5]:Array Value).getD j default)
 b9:Blk w (g+9) 3 2 (λj=>(#[.int .i64 13,.int .i64 6]:Array Value).getD j default)
 b10:Blk w (g+10) 3 2 (λj=>(#[.int .i64 1,.int .i64 0]:Array Value).getD j default)
 b11:Blk w (g+11) 3 2 (λj=>(#[.int .i64 0,.int .i64 0]:Array Value).getD j default)
theorem aeg.below{a k:Int}(h:aeg w g a k)(b:Bw w w'):aeg w' g a k:=⟨h.b0.below b,h.b1.below b,h.b2.below b,h.b3.below b,h.b4.below b,h.b5.below b,h.b6.below b,h.b7.below b,h.b8.below b,h.b9.below b,h.b10.below b,h.b11.below b⟩
def bz0:Nat->Int
 | 0=>9
 | _=>0
def bl0:Nat->Hd
 | 0=>⟨0,6,1,0⟩
 | _=>⟨1,9,0,3⟩
theorem Mo{f:Nat->Bool}(h:n=0):aw n f=false:=dj λj a=>absurd a ow
theorem x9{z:Nat->Int}:∀{n:Nat},(∀j,j<n->z j=0)->cq z n=0
 | 0,_=>rfl
 | n+1,h=>by simp only[cq];rw[x9 (n:=n) λj a=>h j ow,h n ow];rfl
theorem ac4(a:iu p=0)(b:un p s):yf p s.on :=
 ⟨Nm a,b.1,λi hi=>(b.2.1 i (by have:=b.1;omega)).1,λi hi j c=>by rw[(b.2.1 i (by have:=b.1;omega)).2 j c];omega⟩
theorem ac3(b:un p s)(hi:i<p.nb)(c:j<p.ns):aq s i j=0:=by
 obtain⟨-,e,-,a,d,-⟩:=b;unfold aq;rw[a,d,(e i hi).2 j c]
 rfl
theorem Mr{r:Rw}(h:r.n=p.ns/\∀j,j<p.ns->r.z j=0)(b:W<=0):nj p r W=false:=by
 unfold nj;rw[Xxq];refine⟨by simp[h.1],dj λj a => ?_⟩;rw[h.2 j (by rw[<-h.1];exact a),cy ⟨b,ow⟩]
 rfl
theorem Dr(d:iu p=0)(b:un p s):ag p s=0:=by
 have o:=zw d (ac4 d b);have q:=b;obtain⟨u,t,c,r,k,e,f,j⟩:=q;have l:gz s=false:=by unfold gz;rw[c,k];rfl
 have m:kt p s=false:=Mo c;have n:ig p s=false:=by unfold ig;rw[r];rfl
 have e4:mm p s=false:=Mo k;have e5:gt p s=false:=by
  unfold gt;rw[Mr e ow,Mr f ow,Mr j ow]
  rfl
 have e6:mh p s=false:=dj λg a=>by
  rw[s9,x9 (λi hi=>(t i ow).2 g a),e.2 g a,f.2 g a,j.2 g a,dj λi hi=>by rw[ac3 b hi a];rfl]
  rfl
 have e7:me s=false:=Mo c;rw[Cv o l m n e4 e5,e6,e7]
 rfl
theorem Pg{l:Hs}(h:ib p s l=0):ag p s=0/\1<=l.n/\l.n<=3/\¬s.os.n=4/\aw l.n (λj=>wi p (l.z j))=false/\aw l.n (λj=>rv (l.z j))=false:=by
 by_cases a:ag p s=0
 .by_cases b:s.os.n=4\/¬(1<=l.n/\l.n<=3)
  .rw[A4 a b] at h;exact absurd h dc
  cases c:aw l.n (λj=>wi p (l.z j))
  .cases d:aw l.n (λj=>rv (l.z j))
   .exact⟨a,ow,ow,ow,rfl,rfl⟩
   rw[Iu a b (by rw[c];decide) d] at h;exact absurd h dc
  rw[Gg a b c] at h;exact absurd h dc
 rw[Gj a] at h;exact absurd h a
theorem mv(h:i7 p s g=false):cq (λi=>(s.on.r i).z g) s.on.n=s.si.z g-s.so.z g+s.sf.z g/\∀b,b<p.nb->0<=aq s b g:=by
 rw[s9,Xxq] at h;refine⟨aa8,λb a => ?_⟩;have:=dv h.2 b a
 simpa using this
theorem ut(a:cq (λi=>(s.on.r i).z g) s.on.n=s.si.z g-s.so.z g+s.sf.z g)(c:∀b,b<p.nb->0<=aq s b g):i7 p s g=false:=by
 rw[s9,Xxq];exact⟨by simp[a],dj λb d=>by have:=c b d;simpa using this⟩
theorem Pp{bin good n:Int}(h:ic p s bin good n=0):ag p s=0/\(0<=bin/\bin<p.nb)/\(0<=good/\good<p.ns)/\(1<=n/\n<=200)/\n*p.zs good.toNat<=gw p s bin.toNat/\ep s bin.toNat good.toNat+n<=200/\s.si.z good.toNat+n<=1048576:=by
 unfold ic at h;by_cases h0:ag p s=0;rotate_left
 .exact Tc
 rw[if_pos h0] at h;cases d:(inB bin 0 ((p.nb:Int)-1)&&inB good 0 ((p.ns:Int)-1)&&inB n 1 200)
 .rw[d] at h;simp at h
 rw[d] at h;simp only[if_true] at h;simp only[Xxx] at d;have a:=ar d.1.1;have b:=ar d.1.2;have c:=ar d.2;by_cases e:gw p s bin.toNat<n*p.zs good.toNat
 .rw[if_pos e] at h;simp at h
 rw[if_neg e] at h;by_cases f:200<ep s bin.toNat good.toNat+n\/1048576<s.si.z good.toNat+n
 .rw[if_pos f] at h;simp at h
 exact⟨h0,ow,ow,c,ow,ow,ow⟩
section
variable {p:Pl} {s:St} {b g:Nat} {n:Int}
theorem Lj(i j:Nat):((nx s b g n).on.r i).z j=(s.on.r i).z j+if i=b/\j=g then n else 0:=by
 show(if i=b then mg (s.on.r i) g ((s.on.r b).z g+n) else s.on.r i).z j=_;by_cases hi:i=b
 .subst hi;rw[if_pos rfl];show(if j=g then(s.on.r i).z g+n else(s.on.r i).z j)=_;by_cases a:j=g
  .subst a;simp
  simp[a]
 rw[if_neg hi];simp[hi]
theorem ark(i:Nat):((nx s b g n).on.r i).n=(s.on.r i).n:=by
 show(if i=b then mg (s.on.r i) g ((s.on.r b).z g+n) else s.on.r i).n=_;exact apy
theorem ad9(j:Nat):(nx s b g n).si.z j=s.si.z j+if j=g then n else 0:=by
 show(if j=g then s.si.z g+n else s.si.z j)=_;by_cases a:j=g
 .subst a;simp
 simp[a]
theorem af7(i j:Nat):aq (nx s b g n) i j=aq s i j+if i=b/\j=g then n else 0:=by
 unfold aq;have a:ce (nx s b g n) i j (nx s b g n).hs.n=ce s i j s.hs.n:=ui (λ_ _=>rfl) (λ_ _=>rfl);have c:bp (nx s b g n) i j (nx s b g n).ms.n=bp s i j s.ms.n:=rm (λ_ _=>rfl);rw[Lj,a,c];omega
theorem af8(r:am p s)(hb:b<p.nb)(t:g<p.ns)(u:1<=n)(o:ep s b g+n<=200)(q:s.si.z g+n<=1048576):am p (nx s b g n):=by
 have f:=r.fm;have e:b<s.on.n:=G8;have hc:=(nd (s:=s) (b:=b) (g:=g) f.moveN).1;have hs:yf p (nx s b g n).on:=by
  refine⟨f.sh.pl,f.sh.n,λi hi=>by rw[ark];exact f.sh.len i hi,λi hi j c => ?_⟩;have:=f.sh.num i hi j c;rw[Lj];by_cases d:i=b/\j=g
  .obtain⟨rfl,rfl⟩:=d;rw[if_pos ⟨rfl,rfl⟩];unfold ep at o;omega
  rw[if_neg d];omega
 refine⟨⟨hs,zw (yg f.sh0).1 hs,f.os4,f.ms8,f.lns,f.kind,f.line,f.hold,f.home,f.move,f.sin,f.son,f.sfn,λj c => ?_,f.sob,f.sfb⟩,λj c => ?_,r.orders⟩
 .have:=f.sib j c;rw[ad9];by_cases a:j=g
  .subst a;rw[if_pos rfl];omega
  rw[if_neg a];omega
 obtain⟨a1,l⟩:=mv (r.goods j c);refine ut ?_ λi hi => ?_
 .show cq (λi=>((nx s b g n).on.r i).z j) s.on.n=(nx s b g n).si.z j-s.so.z j+s.sf.z j;rw[ad9];by_cases a:j=g
  .subst a;rw[Ei (z:=λi=>(s.on.r i).z j) (m:=b) (n:=n) e λi hi=>by
    show((nx s b j n).on.r i).z j=_;rw[Lj];by_cases k:i=b<;>simp[k],if_pos rfl,a1]
   omega
  rw[wu (z':=λi=>(s.on.r i).z j) λi hi=>by
   show((nx s b g n).on.r i).z j=_;rw[Lj];simp[a],if_neg a,a1]
  omega
 rw[af7];have:=l i hi
 split<;>omega
end
section
variable {p:Pl} {s:St} {l:Hs}
theorem B9(hi:i<s.os.n):(my s l).os.z i=s.os.z i:=by
 show(if i=s.os.n then(⟨0,l⟩:Od) else s.os.z i)=_;rw[if_neg ow]
theorem Hy:(my s l).os.z s.os.n=⟨0,l⟩:=by
 show(if s.os.n=s.os.n then(⟨0,l⟩:Od) else s.os.z s.os.n)=_;rw[if_pos rfl]
theorem Ri{z:Nat->Hd}{o l:Int}:∀{n:Nat},(∀j,j<n->¬(z j).o=o)->keptS z o l n=0
 | 0,_=>rfl
 | n+1,h=>by
  simp only[keptS];rw[Ri (n:=n) λj a=>h j ow,if_neg λe=>h n ow e.1]
  rfl
theorem adh(h:ib p s l=0):am p (my s l):=by
 obtain⟨y,H,J,K,F,G⟩:=Pg h;have r:=et y;have f:=r.fm;have os4:=f.os4;have ln:∀j,j<l.n->((0<=(l.z j).o/\(l.z j).o<p.ns)/\1<=(l.z j).l/\(l.z j).l<=200)/\(l.z j).b=0/\(l.z j).n=0:=λj c=>by
  have a:=dv F j c;have b:=dv G j c;simp only[wi,rv,Xxq,Bool.not_eq_false',bne_eq_false_iff_eq] at a b;have a1:=ar a.1;have d:=ar a.2;exact⟨⟨ow,d⟩,b⟩
 have D:∀j,j<l.n->mq p (l.z j)=false:=λj c=>by
  obtain⟨⟨a1,d⟩,m,t⟩:=ln j c;exact abu
 have v:∀j,j<s.hs.n->kf (my s l) (s.hs.z j)=kf s (s.hs.z j):=λj c=>by
  have:=(je (f.home j c)).1;unfold kf;rw[B9 this.2]
 have u:∀b g,aq (my s l) b g=aq s b g:=λb g=>by
  unfold aq;have w:ce (my s l) b g (my s l).hs.n=ce s b g s.hs.n:=ui (λ_ _=>rfl) v;have x:bp (my s l) b g (my s l).ms.n=bp s b g s.ms.n:=rm (λ_ _=>rfl);rw[w,x]
  rfl
 have k:∀i,i<(my s l).os.n->i<s.os.n\/i=s.os.n:=λi hi=>by
  have:i<s.os.n+1:=hi;omega
 refine⟨⟨f.sh,f.sh0,by show s.os.n+1<=4;omega,f.ms8,λi hi => ?_,λi hi => ?_,λi hi j c => ?_,f.hold,λi hi => ?_,f.move,f.sin,f.son,f.sfn,f.sib,f.sob,f.sfb⟩,λg B => ?_,λi hi => ?_⟩
 .rcases k i hi with h|rfl
  .rw[B9 h];exact f.lns i h
  rw[Hy];exact⟨H,J⟩
 .rcases k i hi with h|rfl
  .rw[B9 h];exact f.kind i h
  rw[Hy];show(0:Int)<=0/\(0:Int)<=2;omega
 .rcases k i hi with h|rfl
  .rw[B9 h] at c ⊢;exact f.line i h j c
  rw[Hy] at c ⊢;exact D j c
 .obtain⟨a1,d,m⟩:=je (f.home i hi);refine sp (s:=my s l) ⟨a1.1,?_⟩ ⟨d.1,?_⟩ m
  .show _<s.os.n+1;have:=a1.2;show(s.hs.z i).o.toNat<s.os.n+1;omega
  show(s.hs.z i).l.toNat<((my s l).os.z (s.hs.z i).o.toNat).ls.n;rw[B9 a1.2];exact d.2
 .obtain⟨a1,d⟩:=mv (r.goods g B);exact ut a1 λb A=>by rw[u];exact d b A
 rcases k i hi with h|rfl
 .have:=r.orders i h;unfold cp at this ⊢;rw[B9 h];exact this
 unfold cp;rw[Hy];show(((0:Int)==1 && !aw l.n (λj=>kx (l.z j)))||aw l.n (λj=>dh 0 (l.z j) (keptS s.hs.z s.os.n j s.hs.n)))=false;rw[Xxq];refine⟨vq,dj λj c => ?_⟩;obtain⟨-,m,t⟩:=ln j c;rw[Ri λq E e=>by have:=(je (f.home q E)).1;omega];unfold dh;rw[if_pos rfl,m,t]
 rfl
end
theorem uv{z:Nat->Int}{n:Int}{k:Nat}(a:m<k)(h:∀i,i<k->z' i=z i+if i=m then n else 0):cq z' k=cq z k+n :=
 Ei a λi hi=>by rw[h i hi];by_cases e:i=m<;>simp[e]
theorem vt{z:Nat->Int}{k:Nat}(h:∀i,i<k->z' i=z i):cq z' k=cq z k:=wu h
def l6(x:St)(b g:Int)(k:Nat)(o l:Nat):Int:=if ((x.os.z o).ls.z l).o=g then keptV k x.hs.z o l b else 0
def Dc(x:St)(b g:Int)(k:Nat):Int:=cq (λo=>cq (λl=>l6 x b g k o l) (x.os.z o).ls.n) x.os.n
theorem vm{p:Pl}{x:St}(b g:Int):∀k,(∀j,j<k->jo p x (x.hs.z j)=false)->aw k (df x.hs.z)=false->ce x b g k=Dc x b g k
 | 0,_,_=>by
  unfold Dc;rw[x9 λo _=>x9 λl _=>by unfold l6 keptV;simp]
  rfl
 | k+1,h,hr=>by
  simp only[ce];rw[vm b g k (λj A=>h j ow) (Ln hr)];obtain⟨u,v,y⟩:=je (h k ow);have key:∀o l,l6 x b g (k+1) o l=l6 x b g k o l+if o=(x.hs.z k).o.toNat/\l=(x.hs.z k).l.toNat then(if (x.hs.z k).b=b/\kf x (x.hs.z k)=g then(x.hs.z k).n else 0) else 0:=λo l=>by
   unfold l6;rw[Kn hr];by_cases f:o=(x.hs.z k).o.toNat/\l=(x.hs.z k).l.toNat;rotate_left
   .rw[if_neg f];have:bq (x.hs.z k) o l b=false:=by
     cases c:bq (x.hs.z k) o l b
     .rfl
     have:=fq c;exact absurd ⟨ow,ow⟩ f
    rw[this];simp
   rw[if_pos f];obtain⟨rfl,rfl⟩:=f;have s:(((x.hs.z k).o.toNat:Nat):Int)=(x.hs.z k).o:=ow;have t:(((x.hs.z k).l.toNat:Nat):Int)=(x.hs.z k).l:=ow;rw[s,t];by_cases q:kf x (x.hs.z k)=g
   .have a:((x.os.z (x.hs.z k).o.toNat).ls.z (x.hs.z k).l.toNat).o=g:=q;rw[if_pos a,if_pos a];by_cases m:(x.hs.z k).b=b
    .have c:bq (x.hs.z k) (x.hs.z k).o (x.hs.z k).l b=true:=by rw[<-m];exact yp _
     have r:(if (x.hs.z k).b=b/\kf x (x.hs.z k)=g then(x.hs.z k).n else 0)=(x.hs.z k).n:=if_pos ⟨m,q⟩;rw[c,r,if_pos rfl]
    have c:bq (x.hs.z k) (x.hs.z k).o (x.hs.z k).l b=false:=by
     cases c:bq (x.hs.z k) (x.hs.z k).o (x.hs.z k).l b
     .rfl
     exact absurd (fq c).2.2 m
    have r:(if (x.hs.z k).b=b/\kf x (x.hs.z k)=g then(x.hs.z k).n else 0)=0:=if_neg (λe=>m e.1);rw[c,r];simp
   have a:¬((x.os.z (x.hs.z k).o.toNat).ls.z (x.hs.z k).l.toNat).o=g:=q;rw[if_neg a,if_neg a,if_neg (λe=>q e.2)]
   rfl
  unfold Dc;refine(uv u.2 λo B => ?_).symm;by_cases i:o=(x.hs.z k).o.toNat
  .rw[if_pos i];subst i;exact uv v.2 λl w=>by
    rw[key];by_cases d:l=(x.hs.z k).l.toNat
    .rw[if_pos ⟨rfl,d⟩,if_pos d]
    rw[if_neg (λe=>d e.2),if_neg d]
  rw[if_neg i,Int.add_zero];exact vt λl w=>by rw[key,if_neg (λe=>i e.1)];omega
def jl(x:Hd)(n:Int):Hd:=⟨x.o,x.l,x.b,x.n-n⟩
structure ey(s:St)(o l:Nat)(n:Int)(t:Tk)(x:St):Prop where
 on:x.on.n=s.on.n/\∀i,i<x.on.n->(x.on.r i).n=(s.on.r i).n/\∀j,j<(x.on.r i).n->(x.on.r i).z j=(s.on.r i).z j
 os:x.os.n=s.os.n/\∀i,i<x.os.n->(x.os.z i).k=(s.os.z i).k/\(x.os.z i).ls.n=(s.os.z i).ls.n/\∀j,j<(x.os.z i).ls.n->(x.os.z i).ls.z j=if i=o/\j=l then jl ((s.os.z i).ls.z j) (n-t.left) else(s.os.z i).ls.z j
 right:aw x.hs.n (df x.hs.z)=false
 kept:∀a b c:Int,keptV x.hs.n x.hs.z a b c=keptV s.hs.n s.hs.z a b c+if a=o/\b=l then t.took c else 0
 ms:x.ms.n=s.ms.n/\∀j,j<x.ms.n->x.ms.z j=s.ms.z j
 si:x.si.n=s.si.n/\∀j,j<x.si.n->x.si.z j=s.si.z j
 so:x.so.n=s.so.n/\∀j,j<x.so.n->x.so.z j=s.so.z j
 sf:x.sf.n=s.sf.n/\∀j,j<x.sf.n->x.sf.z j=s.sf.z j
theorem ey.same{o l:Nat}{n:Int}{t:Tk}(h:ey s o l n t x)(k:ey s o l n t y):af x y:=by
 have e:∀i,i<x.os.n->i<y.os.n:=λi hi=>by rw[k.os.1,<-h.os.1];exact hi
 refine⟨⟨h.on.1.trans k.on.1.symm,λi hi => ?_⟩,⟨h.os.1.trans k.os.1.symm,λi hi => ?_⟩,ajs h.right k.right λa b c=>(h.kept a b c).trans (k.kept a b c).symm,⟨h.ms.1.trans k.ms.1.symm,λj d=>(h.ms.2 j d).trans (k.ms.2 j (by rw[k.ms.1,<-h.ms.1];exact d)).symm⟩,⟨h.si.1.trans k.si.1.symm,λj d=>(h.si.2 j d).trans (k.si.2 j (by rw[k.si.1,<-h.si.1];exact d)).symm⟩,⟨h.so.1.trans k.so.1.symm,λj d=>(h.so.2 j d).trans (k.so.2 j (by rw[k.so.1,<-h.so.1];exact d)).symm⟩,⟨h.sf.1.trans k.sf.1.symm,λj d=>(h.sf.2 j d).trans (k.sf.2 j (by rw[k.sf.1,<-h.sf.1];exact d)).symm⟩⟩
 .have a:=h.on.2 i hi;have b:=k.on.2 i (by rw[k.on.1,<-h.on.1];exact hi);exact⟨a.1.trans b.1.symm,λj d=>(a.2 j d).trans (b.2 j (by rw[b.1,<-a.1];exact d)).symm⟩
 have a:=h.os.2 i hi;have b:=k.os.2 i (e i hi);exact⟨a.1.trans b.1.symm,a.2.1.trans b.2.1.symm,λj d=>(a.2.2 j d).trans (b.2.2 j (by rw[b.2.1,<-a.2.1];exact d)).symm⟩
section
variable {p:Pl} {s x:St} {o l:Nat} {n:Int} {t:Tk}
theorem ey.line(h:ey s o l n t x)(hi:i<s.os.n)(b:j<(s.os.z i).ls.n):(x.os.z i).ls.z j=if i=o/\j=l then jl ((s.os.z i).ls.z j) (n-t.left) else(s.os.z i).ls.z j:=by
 have a:=h.os.2 i Sq;exact a.2.2 j (by rw[a.2.1];exact b)
theorem ey.good(h:ey s o l n t x)(hi:i<s.os.n)(a:j<(s.os.z i).ls.n):((x.os.z i).ls.z j).o=((s.os.z i).ls.z j).o:=by
 rw[h.line hi a]
 split<;>rfl
theorem ey.keptS(h:ey s o l n t x)(f:cu p s)(e:cq (λb=>t.took b) 6=n-t.left)(a b:Int):Go.Proofs.YtjgckphgagdpaaaGreatDoor.keptS x.hs.z a b x.hs.n=Go.Proofs.YtjgckphgagdpaaaGreatDoor.keptS s.hs.z a b s.hs.n+if a=o/\b=l then n-t.left else 0:=by
 rw[<-Af x.hs.z a b _ h.right,<-Af s.hs.z a b _ f.hold];by_cases d:a=o/\b=l
 .rw[if_pos d,<-e];have:∀m,cq (λc=>keptV x.hs.n x.hs.z a b c) m=cq (λc=>keptV s.hs.n s.hs.z a b c) m+cq (λc=>t.took c) m:=λm=>by
   induction m with
   | zero=>rfl
   | succ m ih=>simp only[cq];rw[ih,h.kept,if_pos d];omega
  exact this 6
 rw[if_neg d,Int.add_zero];exact vt λc _=>by rw[h.kept,if_neg d];omega
theorem ey.home(h:ey s o l n t x)(f:cu p s)(A:o<s.os.n)(y:l<(s.os.z o).ls.n)(m:∀b,¬t.took b=0->0<=b/\b<p.nb):∀i,i<x.hs.n->jo p x (x.hs.z i)=false:=by
 intro i hi;have fx:=cw (cd h.right i hi);have e:=(qf h.right hi (yp (x.hs.z i))).1;rw[h.kept] at e;have c:∀a,a<s.os.n->(x.os.z a).ls.n=(s.os.z a).ls.n:=λa v=>(h.os.2 a (by rw[h.os.1];exact v)).2.1;by_cases j:keptV s.hs.n s.hs.z (x.hs.z i).o (x.hs.z i).l (x.hs.z i).b=0
 .by_cases d:(x.hs.z i).o=o/\(x.hs.z i).l=l
  .rw[if_pos d,j] at e;have w:=m (x.hs.z i).b ow;have u:(x.hs.z i).o.toNat=o:=ow;have r:(x.hs.z i).l.toNat=l:=ow;refine sp ⟨ow,by rw[h.os.1];omega⟩ ⟨ow,?_⟩ w;rw[u,r,c o A];exact y
  rw[if_neg d,j] at e;omega
 obtain⟨E,F,-⟩:=uu f.hold j;obtain⟨a1,g,k⟩:=je (f.home _ E);obtain⟨q,B,D⟩:=fq F;rw[q,B] at g;rw[q] at a1;rw[D] at k;exact sp ⟨a1.1,by rw[h.os.1];exact a1.2⟩ ⟨g.1,by rw[c _ a1.2];exact g.2⟩ k
theorem ey.num(h:ey s o l n t x)(f:cu p s)(hb:b<p.nb)(hg:g<p.ns):(x.on.r b).z g=(s.on.r b).z g:=by
 have hb':b<s.on.n:=G8;exact an8
theorem ey.formed(h:ey s o l n t x)(f:cu p s)(m:o<s.os.n)(k:l<(s.os.z o).ls.n)(g:∀b,¬t.took b=0->0<=b/\b<p.nb)(r:0<=n-t.left)(u:n-t.left<=((s.os.z o).ls.z l).n):cu p x:=by
 have q:=(yg f.sh0).1;have hs:yf p x.on:=⟨f.sh.pl,h.on.1.trans f.sh.n,λi hi=>(h.on.2 i hi).1.trans (f.sh.len i Jq),λi hi j hj=>by
  have d:i<s.on.n:=Jq;rw[h.num f (by rw[<-f.sh.n];exact d) hj];exact f.sh.num i d j hj⟩
 have c:∀i,i<x.os.n->i<s.os.n:=λi hi=>by rw[<-h.os.1];exact hi
 refine⟨hs,zw q hs,by rw[h.os.1];exact f.os4,by rw[h.ms.1];exact f.ms8,λi hi=>by rw[(h.os.2 i hi).2.1];exact f.lns i (c i hi),λi hi=>by rw[(h.os.2 i hi).1];exact f.kind i (c i hi),λi hi j hj => ?_,h.right,h.home f m k g,λi hi => ?_,h.si.1.trans f.sin,h.so.1.trans f.son,h.sf.1.trans f.sfn,λj hj => ?_,λj hj => ?_,λj hj => ?_⟩
 .have e:j<(s.os.z i).ls.n:=akl;rw[(h.os.2 i hi).2.2 j hj];by_cases a:i=o/\j=l
  .rw[if_pos a];obtain⟨rfl,rfl⟩:=a;obtain⟨b1,b2,b3,b4⟩:=fi (f.line i (c i hi) j e);unfold mq jl;rw[cy Sc,cy Sc,cy Sc,cy Sc]
   rfl
  rw[if_neg a];exact f.line i (c i hi) j e
 .exact apl
 .exact apj
 .exact api
 exact apk
theorem ey.held(h:ey s o l n t x)(f:cu p s)(fx:cu p x)(y:o<s.os.n)(w:l<(s.os.z o).ls.n)(b g:Int):ce x b g x.hs.n=ce s b g s.hs.n+if ((s.os.z o).ls.z l).o=g then t.took b else 0:=by
 rw[vm b g _ fx.home fx.hold,vm b g _ f.home f.hold];have u:∀a,a<s.os.n->(x.os.z a).ls.n=(s.os.z a).ls.n:=λa v=>(h.os.2 a (by rw[h.os.1];exact v)).2.1;have key:∀i,i<s.os.n->∀j,j<(s.os.z i).ls.n->l6 x b g x.hs.n i j=l6 s b g s.hs.n i j+if i=o/\j=l then(if ((s.os.z o).ls.z l).o=g then t.took b else 0) else 0:=λi hi j m=>by
  unfold l6;rw[h.good hi m,h.kept];by_cases d:i=o/\j=l
  .have q:(if ((i:Nat):Int)=o/\((j:Nat):Int)=l then t.took b else 0)=t.took b:=if_pos ow;rw[q,if_pos d];obtain⟨rfl,rfl⟩:=d;by_cases r:((s.os.z i).ls.z j).o=g<;>simp[r]
  have q:(if ((i:Nat):Int)=o/\((j:Nat):Int)=l then t.took b else 0)=0:=if_neg ow;rw[q,if_neg d];by_cases r:((s.os.z i).ls.z j).o=g<;>simp[r]
 unfold Dc;rw[h.os.1];refine uv y λi hi => ?_;rw[u i hi];by_cases k:i=o
 .subst k;rw[if_pos rfl];exact uv w λj m=>by
   rw[key i hi j m];by_cases c:j=l
   .rw[if_pos ⟨rfl,c⟩,if_pos c]
   rw[if_neg (λe=>c e.2),if_neg c]
 rw[if_neg k,Int.add_zero];exact vt λj m=>by rw[key i hi j m,if_neg (λe=>k e.1),Int.add_zero]
theorem ey.avail(h:ey s o l n t x)(f:cu p s)(fx:cu p x)(e:o<s.os.n)(d:l<(s.os.z o).ls.n)(a:b<p.nb)(c:g<p.ns):aq x b g=aq s b g-if ((s.os.z o).ls.z l).o=g then t.took b else 0:=by
 unfold aq;rw[h.num f a c,h.held f fx e d,h.ms.1,rm λj hj=>h.ms.2 j Nz];omega
theorem ey.isRight(h:ey s o l n t x)(r:am p s)(D:o<s.os.n)(B:l<(s.os.z o).ls.n)(K:(s.os.z o).k=1)(A:∀b,¬t.took b=0->0<=b/\b<p.nb)(H:0<=n-t.left)(J:n-t.left<=((s.os.z o).ls.z l).n)
  (y:∀b:Nat,b<p.nb->t.took b<=aq s b ((s.os.z o).ls.z l).o.toNat) (L:∀b,0<=t.took b) (v:cq (λb=>t.took b) 6=n-t.left):am p x:=by
 have f:=r.fm;have fx:=h.formed f D B A H J;refine⟨fx,λg hg => ?_,λi hi => ?_⟩
 .obtain⟨a1,E⟩:=mv (r.goods g hg);refine ut ?_ λb u => ?_
  .have e:cq (λi=>(x.on.r i).z g) x.on.n=cq (λi=>(s.on.r i).z g) s.on.n:=aos;rw[e,a1,h.si.2 g alk,h.so.2 g alm,h.sf.2 g alo]
  rw[h.avail f fx D B u hg];have M:=E b u;by_cases d:((s.os.z o).ls.z l).o=g
  .rw[if_pos d];have:=y b u;rw[d] at this;have e:((g:Nat):Int).toNat=g:=rfl;rw[e] at this;omega
  rw[if_neg d];omega
 have q:i<s.os.n:=So;have w:=r.orders i q;obtain⟨F,G,Q⟩:=h.os.2 i hi;have e4:=λj a=>h.line (i:=i) (j:=j) q a;unfold cp at w ⊢;rw[Xxq] at w ⊢;rw[F,G];refine⟨?_,dj λj a => ?_⟩
 .rw[<-w.1]
  congr 2
  refine sk λj a => ?_;rw[e4 j a]
  split<;>rfl
 have c:=dv w.2 j a;rw[h.keptS f v,e4 j a];by_cases m:i=o/\j=l
 .obtain⟨rfl,rfl⟩:=m;rw[if_pos ⟨rfl,rfl⟩,if_pos ⟨rfl,rfl⟩];rw[K] at c ⊢;unfold dh at c ⊢;simp only[jl] at c ⊢;rw[if_neg dc,if_neg dc] at c ⊢;simp only[Bool.not_eq_false',beq_iff_eq] at c ⊢;omega
 rw[if_neg m,if_neg (λe=>m ⟨ow,ow⟩),Int.add_zero];exact c
end
def Aj(s:St)(order line:Int):Bool := !(inB order 0 ((s.os.n:Int)-1)) || !(inB line 0 (((s.os.z order.toNat).ls.n:Int)-1))
def tr(p:Pl)(s:St)(order line n but:Int):Bool:=Aj s order line || !(inB n 0 200)||((but !=-1) && !(inB but 0 ((p.nb:Int)-1)))
def fu(s:St)(order line:Int):Hd:=(s.os.z order.toNat).ls.z line.toNat
def ii(p:Pl)(s:St)(order line n but:Int):Int :=
 if ag p s=0 then(if tr p s order line n but then 3 else if (s.os.z order.toNat).k=1 then(if (fu s order line).n<n then 3 else 0) else 6) else ag p s
def Ur(p:Pl)(s:St)(good:Int)(n but:Int):Tk:=Tk.go (λb=>aq s b.toNat good.toNat) n (fh p but)
def D8(p:Pl)(s:St)(order line n but:Int):Int:=if ii p s order line n but=0 then(Ur p s (fu s order line).o n but).left else 0
def B8(p:Pl)(s:St)(order line n but:Int)(x:St):Prop:=(ii p s order line n but=0->ey s order.toNat line.toNat n (Ur p s (fu s order line).o n but) x)/\(¬ii p s order line n but=0->J2 x)
section
variable {p:Pl} {s:St} {order line n but:Int}
theorem Mn(h:¬ag p s=0):ii p s order line n but=ag p s:=by unfold ii;rw[if_neg h]
theorem Cf(h:ag p s=0)(a:tr p s order line n but=true):ii p s order line n but=3:=by unfold ii;rw[if_pos h,if_pos a]
theorem O7(h:ag p s=0)(a:tr p s order line n but=false)(b:¬(s.os.z order.toNat).k=1):ii p s order line n but=6:=by unfold ii;rw[if_pos h,a,if_neg b];rfl
theorem O6(h:ag p s=0)(a:tr p s order line n but=false)(b:(s.os.z order.toNat).k=1)(c:(fu s order line).n<n):ii p s order line n but=3:=by unfold ii;rw[if_pos h,a,if_pos b,if_pos c];rfl
theorem U2(h:ag p s=0)(a:tr p s order line n but=false)(b:(s.os.z order.toNat).k=1)(c:¬(fu s order line).n<n):ii p s order line n but=0:=by unfold ii;rw[if_pos h,a,if_pos b,if_neg c];rfl
theorem U3(h:tr p s order line n but=false):(0<=order/\order.toNat<s.os.n)/\(0<=line/\line.toNat<(s.os.z order.toNat).ls.n)/\(0<=n/\n<=200)/\(but = -1\/0<=but/\but<p.nb):=by
 simp only[tr,Aj,Xxq,Bool.not_eq_false',Bool.and_eq_false_iff,bne_eq_false_iff_eq] at h;obtain⟨⟨⟨a,b⟩,c⟩,d⟩:=h;have a:=ar a;have b:=ar b;have c:=ar c;refine⟨ow,ow,c,?_⟩;rcases d with d|d
 .exact Or.inl d
 have:=ar d;exact Or.inr ow
structure p9(p:Pl)(s:St)(order line n but:Int):Prop where
 st:ag p s=0
 o0:0<=order
 on:order.toNat<s.os.n
 l0:0<=line
 ln:line.toNat<(s.os.z order.toNat).ls.n
 n0:0<=n
 n2:n<=200
 bt:but = -1\/0<=but/\but<p.nb
 kd:(s.os.z order.toNat).k=1
 bk:n<=(fu s order line).n
theorem allocIn(h:ii p s order line n but=0):p9 p s order line n but:=by
 by_cases e:ag p s=0
 .cases f:tr p s order line n but
  .obtain⟨a,b,c,d⟩:=U3 f;by_cases g:(s.os.z order.toNat).k=1
   .by_cases i:(fu s order line).n<n
    .rw[O6 e f g i] at h;exact absurd h dc
    exact⟨e,a.1,a.2,b.1,b.2,c.1,c.2,d,g,ow⟩
   rw[O7 e f g] at h;exact absurd h dc
  rw[Cf e f] at h;exact absurd h dc
 rw[Mn e] at h;exact absurd h e
theorem p9.good(h:p9 p s order line n but):0<=(fu s order line).o/\(fu s order line).o<p.ns:=(fi ((et h.st).fm.line _ h.on _ h.ln)).1
theorem p9.way(h:p9 p s order line n but):∀x,x∈fh p but->0<=x/\x<p.nb:=λx hx=>Jy (zz.1 hx).1
theorem p9.tk(h:p9 p s order line n but){l:List Int}(c:l.Pairwise (λx y=>¬x=y))(a:∀x,x∈l->0<=x/\x<p.nb):Ce (λb=>aq s b.toNat (fu s order line).o.toNat) n l (Tk.go (λb=>aq s b.toNat (fu s order line).o.toNat) n l):=by
 have r:=et h.st;have d:=h.good;refine ayc h.n0 c (λx hx => ?_) (λx hx => ?_)
 .have:=a x hx;exact(mv (r.goods _ ow)).2 _ ow
 have:=a x hx;have:=r.fm.sh.pl.nb6;omega
theorem ey.rightAt{l:List Int}{t:Tk}(h:p9 p s order line n but)(e:∀x,x∈l->0<=x/\x<p.nb)(k:Ce (λb=>aq s b.toNat (fu s order line).o.toNat) n l t)(T:ey s order.toNat line.toNat n t x):am p x:=by
 have r:=et h.st;have c:=h.bk;have f:=k.left0;have g:=k.leftn;refine T.isRight r h.on h.ln h.kd (λb c => ?_) ow (by unfold fu at c;omega) (λb c => ?_) k.took0 k.sum
 .apply Classical.byContradiction
  intro hc;refine c (k.other b λa=>hc ?_);exact e b a
 by_cases a:((b:Nat):Int)∈l
 .exact k.had b a
 rw[k.other b a];have d:=h.good;exact(mv (r.goods _ (by unfold fu at d;omega))).2 b c
end
def Lp(x:Hd)(c:Nat)(v:Int):Hd:=if c=0 then ⟨v,x.l,x.b,x.n⟩ else if c=1 then ⟨x.o,v,x.b,x.n⟩ else if c=2 then ⟨x.o,x.l,v,x.n⟩ else ⟨x.o,x.l,x.b,v⟩
def Bl(h:Hs)(j c:Nat)(v:Int):Hs:=⟨h.a,h.n,h.c,λi=>if i=j then Lp (h.z i) c v else h.z i⟩
def Ft(os:Os)(o l c:Nat)(v:Int):Os:=⟨os.a,os.n,os.c,λi=>if i=o then ⟨(os.z i).k,Bl (os.z i).ls l c v⟩ else os.z i⟩
def setLine(s:St)(o l c:Nat)(v:Int):St:=⟨s.on,Ft s.os o l c v,s.hs,s.ms,s.si,s.so,s.sf⟩
def withHolds(s:St)(h:Hs):St:=⟨s.on,s.os,h,s.ms,s.si,s.so,s.sf⟩
theorem tp{n:Nat}(hi:i<n)(hc:c<4):(ba n z).getD (i*4+c) default=(dt (z i)).getD c default:=by
 simp only[List.getD,zk n z i c hi hc]
theorem R0{h:Hs}{v:Int}(hc:c<4)(q:Nat)(k:q<h.n*4):
  (if q=j*4+c then Value.int .i64 v else(ba h.n h.z).getD q default)=(ba h.n (Bl h j c v).z).getD q default:=by
 have hd:q=q/4*4+q%4:=ow;have hi:q/4<h.n:=ow;have a:q%4<4:=ow;have e:=tp (z:=h.z) hi a;have f:=tp (z:=(Bl h j c v).z) hi a;rw[<-hd] at e f;rw[e,f];show _=(dt (if q/4=j then Lp (h.z (q/4)) c v else h.z (q/4))).getD (q%4) default;by_cases g:q/4=j
 .rw[if_pos g];by_cases d:q=j*4+c
  .rw[if_pos d];have:q%4=c:=ow;rw[this];have b:c=0\/c=1\/c=2\/c=3:=ow;rcases b with rfl|rfl|rfl|rfl<;>rfl
  rw[if_neg d];have b:c=0\/c=1\/c=2\/c=3:=ow;have i:q%4=0\/q%4=1\/q%4=2\/q%4=3:=ow;rcases b with rfl|rfl|rfl|rfl<;>rcases i with a|a|a|a<;>first|(exfalso;omega)|(rw[a];rfl)
 rw[if_neg g,if_neg ow]
theorem kj.setLine{s:Os}{o B:Nat}(h:kj A w s)(F:o<s.n)(p:(s.z o).ls.a=some ⟨B,0,none⟩)(l c:Nat)(hc:c<4)(v:Int):kj A (w.setCell ⟨B,l*4+c,none⟩ (.int .i64 v)) (Ft s o l c v):=by
 obtain⟨B',d,hA,L,M,u⟩:=h.lines o F;rw[p] at d;simp only[co] at d;subst d;have G:∀i,(Ft s o l c v).z i=if i=o then ⟨(s.z i).k,Bl (s.z i).ls l c v⟩ else s.z i:=λ_=>rfl;have f:∀i,ti ((Ft s o l c v).z i)=ti (s.z i):=λi=>ao5;have r:∀i,((Ft s o l c v).z i).ls.a=(s.z i).ls.a:=λi=>ao5;refine⟨h.le,h.cap,λQ => ?_,λi hi => ?_,λi j y D=>by rw[r,r];exact h.apart i j y D,h.room.set _ _ _⟩
 .obtain⟨g,a1,t,m⟩:=h.list Q;refine⟨g,a1,t,(m.other (a:=⟨B,l*4+c,none⟩) (Blk.ne2 m u dc) _).congr λj D => ?_⟩;show _=(ke s.n (Ft s o l c v).z).getD j default;rw[A5 λi _=>f i]
 rw[G];by_cases b:i=o
 .subst b;rw[if_pos rfl];exact⟨B,p,hA,L,M,(u.set (l*4+c) (.int .i64 v)).congr λq S=>R0 hc q S⟩
 rw[if_neg b];obtain⟨C,a1,t,m,H,J⟩:=h.lines i hi;refine⟨C,a1,t,m,H,J.other (a:=⟨B,l*4+c,none⟩) (λe => ?_) _⟩;have K:C=B:=e;subst K;rcases Nat.lt_or_gt_of_ne b with E|x
 .exact h.apart i o E F (a1.trans p.symm)
 exact h.apart o i x hi (p.trans a1.symm)
theorem ah.setLine{o B:Nat}(h:ah A w s)(j:o<s.os.n)(f:(s.os.z o).ls.a=some ⟨B,0,none⟩)(l c:Nat)(hc:c<4)(v:Int):ah A (w.setCell ⟨B,l*4+c,none⟩ (.int .i64 v)) (Go.Proofs.YtjgckphgagdpaaaGreatDoor.setLine s o l c v):=by
 obtain⟨B',d,-,-,-,b⟩:=h.os.lines o j;rw[f] at d;simp only[co] at d;subst d;refine⟨?_,λi hi=>(h.rows i hi).other b dc _ _,h.rapart,h.os.setLine j f l c hc v,h.hs.other b dc _ _,h.ms.other b dc _ _,h.msr.set _ _ _,h.si.other b dc _ _,h.so.other b dc _ _,h.sf.other b dc _ _,h.aio,h.aif,h.aof,h.ari⟩;obtain⟨g,k,a1,m,p,e⟩:=h.on;exact⟨g,k,a1,m,p,e.other (a:=⟨B,l*4+c,none⟩) (Blk.ne2 e b dc) _⟩
theorem ah.withHolds{h:Hs}(k:ah A w s)(a:ct A 107 w h):ah A w (Go.Proofs.YtjgckphgagdpaaaGreatDoor.withHolds s h):=
 ⟨k.on,k.rows,k.rapart,k.os,a,k.ms,k.msr,k.si,k.so,k.sf,k.aio,k.aif,k.aof,k.ari⟩
theorem ah.lineCell{o:Nat}(h:ah A w s)(i:o<s.os.n)(p:l<(s.os.z o).ls.n):∃g B,s.os.a=some ⟨g,0,none⟩/\A<=g/\g<w.heap.size/\w.cell? ⟨g,o*2+1,none⟩=some (.slice (some ⟨B,0,none⟩) (s.os.z o).ls.n (s.os.z o).ls.c)/\(s.os.z o).ls.a=some ⟨B,0,none⟩/\A<=B/\B<w.heap.size/\(s.os.z o).ls.n<=(s.os.z o).ls.c/\(s.os.z o).ls.c<=maxLen/\(∀j,w.frozen? ⟨B,j,none⟩=false) /\
  w.cell? ⟨B,l*4,none⟩=some (.int .i64 ((s.os.z o).ls.z l).o)/\w.cell? ⟨B,l*4+1,none⟩=some (.int .i64 ((s.os.z o).ls.z l).l)/\w.cell? ⟨B,l*4+2,none⟩=some (.int .i64 ((s.os.z o).ls.z l).b)/\w.cell? ⟨B,l*4+3,none⟩=some (.int .i64 ((s.os.z o).ls.z l).n):=by
 obtain⟨g,k,m,f⟩:=h.os.list ow;obtain⟨B,b1,b2,b3,b4,b5⟩:=h.os.lines o i;have e:=f.cell (j:=o*2+1) ow;rw[tq (z:=s.os.z) i (show 1<2 by decide)] at e;have c1:w.cell? ⟨g,o*2+1,none⟩=some (.slice (s.os.z o).ls.a (s.os.z o).ls.n (s.os.z o).ls.c):=e;rw[b1] at c1;have d:∀c,c<4->w.cell? ⟨B,l*4+c,none⟩=some ((dt ((s.os.z o).ls.z l)).getD c default):=λc hc=>by
  rw[<-tp (z:=(s.os.z o).ls.z) p hc];exact b5.cell ow
 exact⟨g,B,k,m,f.lt,c1,b1,b2,b5.lt,b3,b4,λj=>b5.frozen j,d 0 dc,d 1 dc,d 2 dc,d 3 dc⟩
theorem rf{o:Nat}{v:Int}(i j:Nat):((Go.Proofs.YtjgckphgagdpaaaGreatDoor.setLine s o l c v).os.z i).ls.z j=if i=o/\j=l then Lp ((s.os.z i).ls.z j) c v else(s.os.z i).ls.z j:=by
 show(if i=o then(⟨(s.os.z i).k,Bl (s.os.z i).ls l c v⟩:Od) else s.os.z i).ls.z j=_;by_cases hi:i=o
 .rw[if_pos hi];show(if j=l then Lp ((s.os.z i).ls.z j) c v else(s.os.z i).ls.z j)=_;by_cases hj:j=l
  .rw[if_pos hj,if_pos ⟨hi,hj⟩]
  exact aci
 rw[if_neg hi,if_neg (λe=>hi e.1)]
theorem um{o:Nat}{v:Int}(i:Nat):((Go.Proofs.YtjgckphgagdpaaaGreatDoor.setLine s o l c v).os.z i).k=(s.os.z i).k:=by
 show(if i=o then(⟨(s.os.z i).k,Bl (s.os.z i).ls l c v⟩:Od) else s.os.z i).k=_;by_cases hi:i=o
 .rw[if_pos hi]
 rw[if_neg hi]
theorem dw{o:Nat}{v:Int}(i:Nat):((Go.Proofs.YtjgckphgagdpaaaGreatDoor.setLine s o l c v).os.z i).ls.n=(s.os.z i).ls.n/\((Go.Proofs.YtjgckphgagdpaaaGreatDoor.setLine s o l c v).os.z i).ls.a=(s.os.z i).ls.a/\((Go.Proofs.YtjgckphgagdpaaaGreatDoor.setLine s o l c v).os.z i).ls.c=(s.os.z i).ls.c:=by
 show(if i=o then(⟨(s.os.z i).k,Bl (s.os.z i).ls l c v⟩:Od) else s.os.z i).ls.n=_/\(if i=o then(⟨(s.os.z i).k,Bl (s.os.z i).ls l c v⟩:Od) else s.os.z i).ls.a=_/\(if i=o then(⟨(s.os.z i).k,Bl (s.os.z i).ls l c v⟩:Od) else s.os.z i).ls.c=_;by_cases hi:i=o
 .rw[if_pos hi];exact⟨rfl,rfl,rfl⟩
 rw[if_neg hi];exact⟨rfl,rfl,rfl⟩
theorem Lu{z:Nat->Int}{m:Nat}:∀{k:Nat},m<k->(∀i,i<k->0<=z i)->z m<=cq z k
 | k+1,hm,h=>by
  simp only[cq];have b:0<=cq z k:=by
   have:∀q,q<=k->0<=cq z q:=λq=>by
    induction q with
    | zero=>intro _;exact Int.le_refl _
    | succ q ih=>intro c;simp only[cq];have:=ih ow;have:=h q ow;omega
   exact this k nlr
  by_cases a:m=k
  .subst a;omega
  have:=Lu (z:=z) (m:=m) (k:=k) ow (λi hi=>h i ow);have:=h k ow;omega
theorem Ub{n:Nat}(a:aw n (df z)=false)(o l:Int)(c:b<6):keptV n z o l b<=keptS z o l n:=by
 rw[<-Af z o l n a];exact Lu (z:=λb=>keptV n z o l b) c λi _=>(Gt (λj d=>(cw (cd a j d)).2.2.2) o l i).1
theorem P6(r:am p x)(hi:i<x.os.n)(c:j<(x.os.z i).ls.n)(d:(x.os.z i).k=1):((x.os.z i).ls.z j).b+((x.os.z i).ls.z j).n+keptS x.hs.z i j x.hs.n=((x.os.z i).ls.z j).l/\((x.os.z i).ls.z j).l<=200/\0<=((x.os.z i).ls.z j).b:=by
 have w:=r.orders i hi;unfold cp at w;rw[Xxq] at w;have a:=dv w.2 j c;rw[d] at a;unfold dh at a;rw[if_neg dc,if_neg dc] at a;simp only[Bool.not_eq_false',beq_iff_eq] at a;have b:=fi (r.fm.line i hi j c);exact⟨a,ow,ow⟩
theorem ey.congr{o:Nat}{n:Int}{t d:Tk}(h:ey s o l n t x)(e:d.left=t.left)(f:∀c,d.took c=t.took c):ey s o l n d x :=
 ⟨h.on,⟨h.os.1,λi hi=>⟨(h.os.2 i hi).1,(h.os.2 i hi).2.1,λj g=>by rw[e];exact(h.os.2 i hi).2.2 j g⟩⟩,h.right,λa b c=>by rw[f];exact h.kept a b c,h.ms,h.si,h.so,h.sf⟩
theorem ey.stepZero{o:Nat}{n:Int}{t:Tk}{av:Int->Int}{b:Int}(h:ey s o l n t x)(a:min t.left (av b)=0):ey s o l n (t.step av b) x :=
 h.congr (by show t.left-min t.left (av b)=t.left;omega) λc=>by
  show(t.took c+if c=b then min t.left (av b) else 0)=t.took c;rw[a]
  split<;>omega
def lu(o l:Nat)(b m:Int):Hd:=⟨o,l,b,m⟩
theorem ey.start{o:Nat}{n:Int}(f:aw s.hs.n (df s.hs.z)=false)(hx:af x s):ey s o l n ⟨n,λ_=>0⟩ x:=by
 refine⟨hx.on,⟨hx.os.1,λi hi=>⟨(hx.os.2 i hi).1,(hx.os.2 i hi).2.1,λj d => ?_⟩⟩,?_,λa b c => ?_,hx.ms,hx.si,hx.so,hx.sf⟩
 .rw[(hx.os.2 i hi).2.2 j d];by_cases e:i=o/\j=l
  .rw[if_pos e];show _=(⟨_,_,_,_-(n-n)⟩:Hd);rw[Int.sub_self,Int.sub_zero]
  rw[if_neg e]
 .rw[hx.hs.1,J7 λj d=>hx.hs.2 j (by rw[hx.hs.1];exact d)];exact f
 rw[hx.hs.1,A6 λj d=>hx.hs.2 j (by rw[hx.hs.1];exact d)];show _=_+if _ then(0:Int) else 0
 split<;>omega
section
variable {p:Pl} {s x:St} {order line n but:Int} {l:List Int} {t:Tk} {b:Int}
theorem ey.addE(h:p9 p s order line n but)(u:∀x,x∈l->0<=x/\x<p.nb)(k:Ce (λb=>aq s b.toNat (fu s order line).o.toNat) n l t)(T:ey s order.toNat line.toNat n t x)(g:0<=b/\b<p.nb){m:Int}(B:0<m)(D:m<=t.left):
  Go.Proofs.YtjgckphgagdpaaaGreatDoor.addE x.hs.n x.hs.z (lu order.toNat line.toNat b m)=0:=by
 have r:=T.rightAt h u k;have nb6:=r.fm.sh.pl.nb6;have c:order.toNat<x.os.n:=by rw[T.os.1];exact h.on
 have e:=T.os.2 order.toNat c;have f:line.toNat<(x.os.z order.toNat).ls.n:=aap;obtain⟨a1,F,G⟩:=P6 r c f (by rw[e.1];exact h.kd);have d:=e.2.2 line.toNat f;rw[if_pos ⟨rfl,rfl⟩] at d;have e4:((x.os.z order.toNat).ls.z line.toNat).n=(fu s order line).n-(n-t.left):=by rw[d];rfl
 have v:=h.bk;have A:=k.leftn;obtain⟨a,rfl⟩:=Qzz g.1;have y:=Ub T.right order.toNat line.toNat (b:=a) ow;have os4:=r.fm.os4;have E:=(r.fm.lns _ c).2;have i:il (lu order.toNat line.toNat a m)=true:=by
  unfold il lu;have w:=(wh (z:=x.hs.z) (order.toNat:Nat) (line.toNat:Nat) x.hs.n λj q=>(cw (cd T.right j q)).2.2.2).1;exact S9
 rw[ady T.right i,if_neg];show ¬200<keptV x.hs.n x.hs.z (order.toNat:Nat) (line.toNat:Nat) a+m;omega
theorem ey.stepAdd{y:Hs}{av:Int->Int}(T:ey s order.toNat line.toNat n t x)(G:order.toNat<s.os.n)(F:line.toNat<(s.os.z order.toNat).ls.n){m:Int}(r:min t.left (av b)=m)(w:Go.Proofs.YtjgckphgagdpaaaGreatDoor.addE x.hs.n x.hs.z (lu order.toNat line.toNat b m)=0)(E:Hn x.hs.n x.hs.z (lu order.toNat line.toNat b m) y):
  ey s order.toNat line.toNat n (t.step av b) (withHolds (setLine x order.toNat line.toNat 3 (((x.os.z order.toNat).ls.z line.toNat).n-m)) y):=by
 obtain⟨D,B⟩:=E.right w;refine⟨T.on,⟨T.os.1,λi hi => ?_⟩,D,λa c d => ?_,T.ms,T.si,T.so,T.sf⟩
 .have q:i<x.os.n:=hi;have e:=T.os.2 i q;have u:=(dw (s:=x) (o:=order.toNat) (l:=line.toNat) (c:=3) (v:=((x.os.z order.toNat).ls.z line.toNat).n-m) i).1;refine⟨(um i).trans e.1,u.trans e.2.1,λj A => ?_⟩;have h:j<(x.os.z i).ls.n:=by rw[<-u];exact A
  show((setLine x order.toNat line.toNat 3 (((x.os.z order.toNat).ls.z line.toNat).n-m)).os.z i).ls.z j=_;rw[rf,e.2.2 j h];by_cases f:i=order.toNat/\j=line.toNat
  .rw[if_pos f,if_pos f,if_pos f];obtain⟨rfl,rfl⟩:=f;have p:=e.2.2 line.toNat h;rw[if_pos ⟨rfl,rfl⟩] at p;rw[p];show(⟨_,_,_,_-(n-t.left)-m⟩:Hd)=⟨_,_,_,_-(n-(t.left-min t.left (av b)))⟩;rw[r]
   congr 1
   omega
  rw[if_neg f,if_neg f,if_neg f]
 show keptV y.n y.z a c d=_;rw[B,T.kept];show _=_+if _ then t.took d+(if d=b then min t.left (av b) else 0) else 0;rw[r];by_cases g:a=order.toNat/\c=line.toNat
 .rw[if_pos g,if_pos g];by_cases hd:d=b
  .have:bq (lu order.toNat line.toNat b m) a c d=true:=by
    unfold bq lu;simp[g,hd]
   rw[this,if_pos hd,if_pos rfl];show _+m=_;omega
  have:bq (lu order.toNat line.toNat b m) a c d=false:=by
   cases k:bq (lu order.toNat line.toNat b m) a c d
   .rfl
   exact absurd (fq k).2.2.symm hd
  rw[this,if_neg hd];simp
 have:bq (lu order.toNat line.toNat b m) a c d=false:=by
  cases k:bq (lu order.toNat line.toNat b m) a c d
  .rfl
  have:=fq k;exact absurd ⟨this.1.symm,this.2.1.symm⟩ g
 rw[this,if_neg g,if_neg g];simp
end
structure i9(p:Pl)(s:St)(o l:Nat)(n:Int):Prop where
 fm:cu p s
 av:∀b,b<p.nb->0<=aq s b ((s.os.z o).ls.z l).o.toNat
 on:o<s.os.n
 ln:l<(s.os.z o).ls.n
 n0:0<=n
 bk:n<=((s.os.z o).ls.z l).n
 sum:((s.os.z o).ls.z l).n+keptS s.hs.z o l s.hs.n<=200
def avT(s:St)(o l:Nat)(b:Int):Int:=aq s b.toNat ((s.os.z o).ls.z l).o.toNat
section
variable {p:Pl} {s x:St} {o l:Nat} {n:Int} {L:List Int} {t:Tk}
theorem i9.good(h:i9 p s o l n):0<=((s.os.z o).ls.z l).o/\((s.os.z o).ls.z l).o<p.ns:=(fi (h.fm.line _ h.on _ h.ln)).1
theorem i9.tk(h:i9 p s o l n)(b:L.Pairwise (λx y=>¬x=y))(a:∀x,x∈L->0<=x/\x<p.nb):Ce (avT s o l) n L (Tk.go (avT s o l) n L):=by
 refine ayc h.n0 b (λx hx => ?_) (λx hx => ?_)
 .have:=a x hx;exact h.av _ ow
 have:=a x hx;have:=h.fm.sh.pl.nb6;omega
theorem i9.inBins(d:∀x,x∈L->0<=x/\x<p.nb)(k:Ce (avT s o l) n L t):∀b,¬t.took b=0->0<=b/\b<p.nb:=λb c=>by
 apply Classical.byContradiction
 intro hc;exact c (k.other b λa=>hc (d b a))
theorem i9.formed(h:i9 p s o l n)(a:∀x,x∈L->0<=x/\x<p.nb)(k:Ce (avT s o l) n L t)(T:ey s o l n t x):cu p x:=by
 have b:=k.left0;have c:=k.leftn;have d:=h.bk;exact T.formed h.fm h.on h.ln (i9.inBins a k) ow ow
theorem i9.availAt(h:i9 p s o l n)(d:∀x,x∈L->0<=x/\x<p.nb)(k:Ce (avT s o l) n L t)(T:ey s o l n t x){b:Nat}(c:b<p.nb)(a:((b:Nat):Int) ∉ L):aq x b ((s.os.z o).ls.z l).o.toNat=avT s o l b:=by
 have e:=h.good;rw[T.avail h.fm (h.formed d k T) h.on h.ln c ow,k.other b a];unfold avT;rw[show((b:Nat):Int).toNat=b from rfl]
 split<;>omega
theorem i9.addE(h:i9 p s o l n)(g:∀x,x∈L->0<=x/\x<p.nb)(k:Ce (avT s o l) n L t)(T:ey s o l n t x){b:Int}(d:0<=b/\b<p.nb){m:Int}(v:0<m)(w:m<=t.left):
  il (lu o l b m)=true/\keptV x.hs.n x.hs.z o l b+m<=200/\Go.Proofs.YtjgckphgagdpaaaGreatDoor.addE x.hs.n x.hs.z (lu o l b m)=0:=by
 have fx:=h.formed g k T;have nb6:=fx.sh.pl.nb6;have os4:=h.fm.os4;have y:=(h.fm.lns _ h.on).2;have B:=h.on;have A:=h.ln;have e:=T.keptS h.fm k.sum o l;rw[if_pos ⟨rfl,rfl⟩] at e;have hs:=h.sum;have i:=h.bk;have u:=k.leftn;obtain⟨a,rfl⟩:=Qzz d.1;have r:=Ub T.right o l (b:=a) ow;have q:=(wh (z:=s.hs.z) o l s.hs.n λj f=>(cw (cd h.fm.hold j f)).2.2.2).1;have c:il (lu o l a m)=true:=by
  unfold il lu;exact S9
 refine⟨c,ow,?_⟩;rw[ady T.right c,if_neg];show ¬200<keptV x.hs.n x.hs.z o l a+m;omega
end
theorem Tk.go_congr{av a:Int->Int}{n:Int}:∀{L:List Int} {t:Tk},(∀b,b∈L->av b=a b)->L.foldl (Tk.step av) t=L.foldl (Tk.step a) t
 | [],_,_=>rfl
 | b :: L,t,h=>by
  rw[List.foldl_cons,List.foldl_cons,show Tk.step av t b=Tk.step a t b by unfold Tk.step;rw[h b vq]];exact Tk.go_congr (n:=n) λc hc=>h c (by simp[hc])
theorem i9.same{o:Nat}{n:Int}(h:i9 p s o l n)(k:af x s):i9 p x o l n:=by
 have f:o<x.os.n:=by rw[k.os.1];exact h.on
 have e:=k.os.2 o f;have d:l<(x.os.z o).ls.n:=aap;have a:=e.2.2 l d;have i:=h.good;refine⟨k.formed h.fm,λb c => ?_,f,d,h.n0,by rw[a];exact h.bk,?_⟩
 .rw[a,k.avail h.fm c ow];exact h.av b c
 rw[a,k.hs.1,Dw _ _ λj g=>k.hs.2 j (by rw[k.hs.1];exact g)];exact h.sum
theorem ey.base{e:St}{o:Nat}{n:Int}{t:Tk}(k:af e s)(h:ey e o l n t x):ey s o l n t x:=by
 have r:=k;refine⟨⟨h.on.1.trans k.on.1,λi hi => ?_⟩,⟨h.os.1.trans k.os.1,λi hi => ?_⟩,h.right,λa b c => ?_,⟨h.ms.1.trans k.ms.1,λj d=>(h.ms.2 j d).trans (k.ms.2 j (by rw[<-h.ms.1];exact d))⟩,⟨h.si.1.trans k.si.1,λj d=>(h.si.2 j d).trans (k.si.2 j (by rw[<-h.si.1];exact d))⟩,⟨h.so.1.trans k.so.1,λj d=>(h.so.2 j d).trans (k.so.2 j (by rw[<-h.so.1];exact d))⟩,⟨h.sf.1.trans k.sf.1,λj d=>(h.sf.2 j d).trans (k.sf.2 j (by rw[<-h.sf.1];exact d))⟩⟩
 .have a:=h.on.2 i hi;have b:=k.on.2 i Jq;exact⟨a.1.trans b.1,λj d=>(a.2 j d).trans (b.2 j (by rw[<-a.1];exact d))⟩
 .have a:=h.os.2 i hi;have b:=k.os.2 i So;refine⟨a.1.trans b.1,a.2.1.trans b.2.1,λj d => ?_⟩;rw[a.2.2 j d,b.2.2 j (by rw[<-a.2.1];exact d)]
 rw[h.kept,k.hs.1,A6 λj d=>k.hs.2 j (by rw[k.hs.1];exact d)]
theorem awv{o:Nat}{n but:Int}(h:i9 p s o l n)(k:af x s):Tk.go (avT x o l) n (fh p but)=Tk.go (avT s o l) n (fh p but):=by
 unfold Tk.go;refine Tk.go_congr (n:=n) λb a => ?_;have d:o<x.os.n:=by rw[k.os.1];exact h.on
 have e:=k.os.2 o d;have c:l<(x.os.z o).ls.n:=aap;have f:=h.good;have g:=Jy (zz.1 a).1;unfold avT;rw[e.2.2 l c];exact k.avail h.fm ow ow
theorem af5{bin good n:Int}(h:ic p s bin good n=0):ag p s=0:=by
 apply Classical.byContradiction
 intro a;rw[I6 a] at h;exact a h
theorem Kv{t:St}(a:J2 s)(b:J2 t):af s t:=by
 obtain⟨a1,d,e,f,g,k,l⟩:=a;obtain⟨b1,b2,b3,b4,b5,b6,b7⟩:=b;exact⟨⟨ow,λi hi=>absurd hi ow⟩,⟨ow,λi hi=>absurd hi ow⟩,⟨ow,λj c=>absurd c ow⟩,⟨ow,λj c=>absurd c ow⟩,⟨ow,λj c=>absurd c ow⟩,⟨ow,λj c=>absurd c ow⟩,⟨ow,λj c=>absurd c ow⟩⟩
theorem jb.same{t:St}(a:jb W t x)(b:jb W t y):af x y:=by
 by_cases h:W=0
 .exact(a.1 h).trans (b.1 h).symm
 exact Kv (a.2 h) (b.2 h)
theorem jb.bound{p:Pl}{s t:St}(h:jb W t x)(f:W=0->t.os.n<=1000/\t.ms.n<=1000/\∀i,i<t.os.n->(t.os.z i).ls.n<=1000):x.os.n<=1000/\x.ms.n<=1000/\∀i,i<x.os.n->(x.os.z i).ls.n<=1000:=by
 by_cases b:W=0
 .obtain⟨q,r,f3⟩:=f b;have a:=h.1 b;have l:x.os.n=t.os.n:=a.os.1;have m:x.ms.n=t.ms.n:=a.ms.1;refine⟨ow,ow,λi hi => ?_⟩;have o:(x.os.z i).ls.n=(t.os.z i).ls.n:=(a.os.2 i hi).2.1;have:=f3 i ow;omega
 obtain⟨a1,c,d,e,g,j,k⟩:=h.2 b;exact apq
theorem B8.same{order line n but:Int}(a:B8 p s order line n but x)(b:B8 p s order line n but y):af x y:=by
 by_cases h:ii p s order line n but=0
 .exact(a.1 h).same (b.1 h)
 exact Kv (a.2 h) (b.2 h)
theorem B8.bound{order line n but:Int}(a:B8 p s order line n but x):x.os.n<=1000/\x.ms.n<=1000/\∀i,i<x.os.n->(x.os.z i).ls.n<=1000:=by
 by_cases h:ii p s order line n but=0
 .have f:=(et (allocIn h).st).fm;have T:=a.1 h;have o:=f.os4;have m:=f.ms8;have k:=T.os.1;have l:=T.ms.1;refine⟨ow,ow,λi hi => ?_⟩;rw[(T.os.2 i hi).2.1];have:=f.lns i ow;omega
 obtain⟨a1,b,c,d,e,g,j⟩:=a.2 h;exact apq
theorem T8{p:Pl}{f:Bool}{b:Nat}:∀{k:Nat},b<k->(p.zb b).front=f->((b:Nat):Int)∈frL p f k
 | k+1,hb,hf=>by
  by_cases a:b=k
  .subst a;rw[yj hf];simp
  have h:=T8 (k:=k) ow hf;by_cases c:(p.zb k).front=f
  .rw[yj c];simp[h]
  rw[Br c];exact h
theorem aed{b:Nat}(a:b<p.nb):((b:Nat):Int)∈gh p:=by
 unfold gh;rw[List.mem_append];cases c:(p.zb b).front
 .exact Or.inr (T8 a c)
 exact Or.inl (T8 a c)
theorem ey.trans{z:St}{o:Nat}{k m:Int}{p q:Tk}(a:ey s o l k p y)(b:ey y o l m q z):ey s o l (k+m) ⟨p.left+q.left,λc=>p.took c+q.took c⟩ z:=by
 refine⟨⟨b.on.1.trans a.on.1,λi hi => ?_⟩,⟨b.os.1.trans a.os.1,λi hi => ?_⟩,b.right,λe f g => ?_,⟨b.ms.1.trans a.ms.1,λj d=>(b.ms.2 j d).trans (a.ms.2 j (by rw[<-b.ms.1];exact d))⟩,⟨b.si.1.trans a.si.1,λj d=>(b.si.2 j d).trans (a.si.2 j (by rw[<-b.si.1];exact d))⟩,⟨b.so.1.trans a.so.1,λj d=>(b.so.2 j d).trans (a.so.2 j (by rw[<-b.so.1];exact d))⟩,⟨b.sf.1.trans a.sf.1,λj d=>(b.sf.2 j d).trans (a.sf.2 j (by rw[<-b.sf.1];exact d))⟩⟩
 .have x:=b.on.2 i hi;have r:=a.on.2 i (by rw[<-b.on.1];exact hi);exact⟨x.1.trans r.1,λj d=>(x.2 j d).trans (r.2 j (by rw[<-x.1];exact d))⟩
 .have x:=b.os.2 i hi;have r:=a.os.2 i (by rw[<-b.os.1];exact hi);refine⟨x.1.trans r.1,x.2.1.trans r.2.1,λj d => ?_⟩;rw[x.2.2 j d,r.2.2 j (by rw[<-x.2.1];exact d)];by_cases n:i=o/\j=l
  .rw[if_pos n,if_pos n,if_pos n];unfold jl
   congr 1
   show _-(k-p.left)-(m-q.left)=_-(k+m-(p.left+q.left));omega
  rw[if_neg n,if_neg n,if_neg n]
 rw[b.kept,a.kept];show _=_+if _ then p.took g+q.took g else 0;by_cases h:e=o/\f=l
 .rw[if_pos h,if_pos h,if_pos h];omega
 rw[if_neg h,if_neg h,if_neg h];omega
section
variable {p:Pl} {s x y z:St} {order line n but k:Int}
theorem p9.less(h:p9 p s order line n but)(c:0<=k/\k<=n):ii p s order line k but=0:=by
 have a:tr p s order line k but=false:=by
  unfold tr Aj;have b:=h.n2;have on:=h.on;have o0:=h.o0;have ln:=h.ln;have l0:=h.l0;rw[cy ow,cy ow,cy ow];rcases h.bt with e|e
  .rw[e];rfl
  rw[cy ow];simp
 exact U2 h.st a h.kd (by have:=h.bk;omega)
theorem p9.rightX(h:p9 p s order line n but)(hx:B8 p s order line n but x):am p x :=
 (hx.1 (h.less ⟨h.n0,Int.le_refl _⟩)).rightAt h (λx hx=>h.way x hx) (h.tk (yd p but) (λx hx=>h.way x hx))
theorem p9.none(h:p9 p s order line n but)(hx:B8 p s order line n but x)(c:0<D8 p s order line n but){b:Nat}(f:b<p.nb)(a:¬((b:Nat):Int)=but):aq x b (fu s order line).o.toNat=0:=by
 have e:=h.less ⟨h.n0,Int.le_refl _⟩;have T:=hx.1 e;have r:=h.rightX hx;have k:=h.tk (yd p but) (λx hx=>h.way x hx);unfold D8 at c;rw[if_pos e] at c;have i:=h.good;have j:((b:Nat):Int)∈fh p but:=zz.2 ⟨aed f,a⟩;have g:=k.all c b j;rw[T.avail (et h.st).fm r.fm h.on h.ln f ow,if_pos (by unfold fu;unfold fu at i;omega)];show _-(Ur p s (fu s order line).o n but).took b=0;have d:(Ur p s (fu s order line).o n but).took b=aq s b (fu s order line).o.toNat:=g;rw[d];omega
end
theorem af.self(s:St):af s s:=⟨⟨rfl,λ_ _=>⟨rfl,λ_ _=>rfl⟩⟩,⟨rfl,λ_ _=>⟨rfl,rfl,λ_ _=>rfl⟩⟩,⟨rfl,λ_ _=>rfl⟩,⟨rfl,λ_ _=>rfl⟩,⟨rfl,λ_ _=>rfl⟩,⟨rfl,λ_ _=>rfl⟩,⟨rfl,λ_ _=>rfl⟩⟩
theorem Ct(r:am p s){o:Nat}(b:o<s.os.n)(a:l<(s.os.z o).ls.n):0<=((s.os.z o).ls.z l).n/\((s.os.z o).ls.z l).n+keptS s.hs.z o l s.hs.n<=200/\0<=keptS s.hs.z o l s.hs.n:=by
 have w:=r.orders o b;unfold cp at w;rw[Xxq] at w;have wl:dh (s.os.z o).k ((s.os.z o).ls.z l) (keptS s.hs.z o l s.hs.n)=false:=dv w.2 l a;obtain⟨b1,b2,b3,b4⟩:=fi (r.fm.line o b l a);have d:=(wh (z:=s.hs.z) o l s.hs.n λj c=>(cw (cd r.fm.hold j c)).2.2.2).1;unfold dh at wl;by_cases h0:(s.os.z o).k=0
 .exact anz
 rw[if_neg h0] at wl;by_cases h2:(s.os.z o).k=2
 .exact anx
 rw[if_neg h2] at wl;simp only[Bool.not_eq_false',beq_iff_eq] at wl;omega
theorem am.takeIn(r:am p s){o:Nat}(d:o<s.os.n)(c:l<(s.os.z o).ls.n){n:Int}(e:0<=n)(a:n<=((s.os.z o).ls.z l).n):i9 p s o l n:=by
 have q:=Ct r d c;have f:=(fi (r.fm.line o d l c)).1;exact⟨r.fm,λb a=>(mv (r.goods _ ow)).2 b a,d,c,e,a,q.2.1⟩
def ng(p:Pl)(but:Int)(y:St)(i j:Nat)(n:Int)(x:St):Prop:=ey y i j n (Tk.go (avT y i j) n (fh p but)) x
structure lf(p:Pl)(but:Int)(y:St)(i j:Nat)(n:Int):Prop where
 r:am p y
 on:i<y.os.n
 ln:j<(y.os.z i).ls.n
 n0:0<=n
 kd:n=0\/(y.os.z i).k=1/\n<=((y.os.z i).ls.z j).n
 bt:but = -1\/0<=but/\but<p.nb
section
variable {p:Pl} {but:Int} {s y x:St} {i j:Nat} {n:Int}
theorem lf.bk(h:lf p but y i j n):n<=((y.os.z i).ls.z j).n:=by
 have q:=Ct h.r h.on h.ln;rcases h.kd with e|e
 .omega
 exact e.2
theorem lf.tki(h:lf p but y i j n):i9 p y i j n:=h.r.takeIn h.on h.ln h.n0 h.bk
theorem lf.way(x:Int)(hx:x∈fh p but):0<=x/\x<p.nb:=Jy (zz.1 hx).1
theorem lf.tk(h:lf p but y i j n):Ce (avT y i j) n (fh p but) (Tk.go (avT y i j) n (fh p but)):=h.tki.tk (yd p but) lf.way
theorem i9.tkw{but:Int}(h:i9 p y i j n):Ce (avT y i j) n (fh p but) (Tk.go (avT y i j) n (fh p but)):=h.tk (yd p but) lf.way
theorem i9.none{but:Int}(h:i9 p y i j 0):(Tk.go (avT y i j) 0 (fh p but)).left=0/\∀c,(Tk.go (avT y i j) 0 (fh p but)).took c=0:=by
 have k:=h.tkw (but:=but);have a:=k.left0;have b:=k.leftn;refine⟨ow,λc => ?_⟩;have d:=k.took0 c;have e:=k.tookn c;omega
theorem ng.zero(h:i9 p y i j 0)(T:ng p but y i j 0 x):af x y:=ey.same T (ey.congr (ey.start (n:=0) h.fm.hold (af.self y)) h.none.1 h.none.2)
theorem ng.skip(h:i9 p y i j 0):ng p but y i j 0 y:=ey.congr (ey.start (n:=0) h.fm.hold (af.self y)) h.none.1 h.none.2
theorem lf.allocIn(h:lf p but y i j n)(a:(y.os.z i).k=1):p9 p y i j n but:=by
 have q:=Ct h.r h.on h.ln;have b:=h.bk;have o:=h.on;have l:=h.ln;exact⟨js h.r,ow,o,ow,l,h.n0,ow,h.bt,a,b⟩
theorem ng.right(h:lf p but y i j n)(T:ng p but y i j n x):am p x:=by
 rcases h.kd with e|e
 .subst e;exact(ng.zero h.tki T).right h.r
 have I:=h.allocIn e.1;exact ey.rightAt (order:=i) (line:=j) I (λx hx=>I.way x hx) (I.tk (yd p but) (λx hx=>I.way x hx)) T
theorem ng.same{c b:St}(h:i9 p y i j n)(e:af c y)(T:ng p but y i j n x)(a:ng p but c i j n b):af b x:=by
 unfold ng at a;rw[awv h e] at a;exact(ey.base e a).same T
structure J0(p:Pl)(but:Int)(s x:St):Prop where
 r:am p x
 osn:x.os.n=s.os.n
 kind:∀i,i<s.os.n->(x.os.z i).k=(s.os.z i).k/\(x.os.z i).ls.n=(s.os.z i).ls.n
 line:∀i,i<s.os.n->∀j,j<(s.os.z i).ls.n->((x.os.z i).ls.z j).o=((s.os.z i).ls.z j).o/\((x.os.z i).ls.z j).l=((s.os.z i).ls.z j).l/\((x.os.z i).ls.z j).b=((s.os.z i).ls.z j).b
 sum:∀i,i<s.os.n->∀j,j<(s.os.z i).ls.n->((x.os.z i).ls.z j).n+keptS x.hs.z i j x.hs.n=((s.os.z i).ls.z j).n+keptS s.hs.z i j s.hs.n/\((x.os.z i).ls.z j).n<=((s.os.z i).ls.z j).n
 on:x.on.n=s.on.n/\∀i,i<x.on.n->(x.on.r i).n=(s.on.r i).n/\∀j,j<(x.on.r i).n->(x.on.r i).z j=(s.on.r i).z j
 ms:x.ms.n=s.ms.n/\∀j,j<x.ms.n->x.ms.z j=s.ms.z j
 si:x.si.n=s.si.n/\∀j,j<x.si.n->x.si.z j=s.si.z j
 so:x.so.n=s.so.n/\∀j,j<x.so.n->x.so.z j=s.so.z j
 sf:x.sf.n=s.sf.n/\∀j,j<x.sf.n->x.sf.z j=s.sf.z j
 av:∀b g,b<p.nb->g<p.ns->aq x b g<=aq s b g/\(((b:Nat):Int)=but->aq x b g=aq s b g)
theorem af.kept(h:af x s)(a b:Int):keptS x.hs.z a b x.hs.n=keptS s.hs.z a b s.hs.n:=by
 rw[h.hs.1,Dw _ _ λj hj=>h.hs.2 j Js]
theorem af.line(h:af x s)(hi:i<s.os.n)(a:j<(s.os.z i).ls.n):(x.os.z i).ls.z j=(s.os.z i).ls.z j:=by
 have e:=h.os.2 i Sq;exact e.2.2 j (by rw[e.2.1];exact a)
theorem J0.self(r:am p s)(h:af x s):J0 p but s x:=by
 refine⟨h.right r,h.os.1,λi hi => ?_,λi hi j a => ?_,λi hi j a => ?_,h.on,h.ms,h.si,h.so,h.sf,λb g c d => ?_⟩
 .have e:=h.os.2 i Sq;exact⟨e.1,e.2.1⟩
 .rw[h.line hi a];exact⟨rfl,rfl,rfl⟩
 .rw[h.line hi a,h.kept];exact⟨rfl,Int.le_refl _⟩
 rw[h.avail r.fm c d];exact⟨Int.le_refl _,λ_=>rfl⟩
theorem J0.step(A:J0 p but s y)(h:lf p but y i j n)(T:ng p but y i j n x):J0 p but s x:=by
 have k:=h.tk;have u:=ng.right h T;have d:ey y i j n (Tk.go (avT y i j) n (fh p but)) x:=T
 generalize Tk.go (avT y i j) n (fh p but)=t at k d
 have B:=k.left0;have D:=k.leftn;refine⟨u,d.os.1.trans A.osn,λa l => ?_,λa l b m => ?_,λa l b m => ?_,⟨d.on.1.trans A.on.1,λa l => ?_⟩,⟨d.ms.1.trans A.ms.1,λc hc=>(d.ms.2 c hc).trans (A.ms.2 c (by rw[<-d.ms.1];exact hc))⟩,⟨d.si.1.trans A.si.1,λc hc=>(d.si.2 c hc).trans (A.si.2 c (by rw[<-d.si.1];exact hc))⟩,⟨d.so.1.trans A.so.1,λc hc=>(d.so.2 c hc).trans (A.so.2 c (by rw[<-d.so.1];exact hc))⟩,⟨d.sf.1.trans A.sf.1,λc hc=>(d.sf.2 c hc).trans (A.sf.2 c (by rw[<-d.sf.1];exact hc))⟩,λb g m q => ?_⟩
 .have e:=d.os.2 a (by rw[d.os.1,A.osn];exact l);have f:=A.kind a l;exact⟨e.1.trans f.1,e.2.1.trans f.2⟩
 .have f:=A.kind a l;have g:=A.line a l b m;rw[d.line (by rw[A.osn];exact l) (by rw[f.2];exact m)];by_cases c:a=i/\b=j
  .rw[if_pos c];exact g
  rw[if_neg c];exact g
 .have f:=A.kind a l;have g:=A.sum a l b m;rw[d.line (by rw[A.osn];exact l) (by rw[f.2];exact m),d.keptS h.r.fm k.sum];by_cases c:a=i/\b=j
  .rw[if_pos c,if_pos ⟨ow,ow⟩];show((y.os.z a).ls.z b).n-(n-t.left)+_=_/\((y.os.z a).ls.z b).n-(n-t.left)<=_;omega
  rw[if_neg c,if_neg (λe=>c ⟨ow,ow⟩)];omega
 .have e:=d.on.2 a l;have f:=A.on.2 a (by rw[<-d.on.1];exact l);exact⟨e.1.trans f.1,λc hc=>(e.2 c hc).trans (f.2 c (by rw[<-e.1];exact hc))⟩
 have e:=d.avail h.r.fm u.fm h.on h.ln m q;have f:=A.av b g m q;have E:=k.took0 b;refine⟨by rw[e];split<;>omega,λo => ?_⟩;have w:((b:Nat):Int) ∉ fh p but:=λv=>(zz.1 v).2 o;rw[e,k.other _ w,f.2 o]
 split<;>omega
end
def ru(a b i j:Nat):Prop:=a<i\/a=i/\b<j
structure Pos(p:Pl)(but:Int)(q:Nat->Nat->Int)(s:St)(i j:Nat)(x:St):Prop where
 al:J0 p but s x
 later:∀a b,a<s.os.n->b<(s.os.z a).ls.n->¬ru a b i j->(x.os.z a).ls.z b=(s.os.z a).ls.z b/\keptS x.hs.z a b x.hs.n=keptS s.hs.z a b s.hs.n
 none:∀a b,a<s.os.n->b<(s.os.z a).ls.n->ru a b i j->q a b=((s.os.z a).ls.z b).n->0<((x.os.z a).ls.z b).n->∀c:Nat,c<p.nb->¬((c:Nat):Int)=but->aq x c ((s.os.z a).ls.z b).o.toNat=0
 first:∀a b,a<s.os.n->b<(s.os.z a).ls.n->∀a' b',a'<s.os.n->b'<(s.os.z a').ls.n->ru a b a' b'->ru a' b' i j->q a b=((s.os.z a).ls.z b).n->0<((x.os.z a).ls.z b).n->((s.os.z a).ls.z b).o=((s.os.z a').ls.z b').o->keptS x.hs.z a' b' x.hs.n=keptS s.hs.z a' b' s.hs.n
structure QIn(p:Pl)(but:Int)(q:Nat->Nat->Int)(s:St):Prop where
 r:am p s
 q0:∀a b,a<s.os.n->b<(s.os.z a).ls.n->0<=q a b/\(q a b=0\/(s.os.z a).k=1/\q a b<=((s.os.z a).ls.z b).n)
 bt:but = -1\/0<=but/\but<p.nb
def na(p:Pl)(but:Int)(q:Nat->Nat->Int)(i:Nat)(s:St):Nat->St->Prop
 | 0,x=>x=s
 | j+1,x=>∃y,na p but q i s j y/\ng p but y i j (q i j) x
def jc(p:Pl)(but:Int)(q:Nat->Nat->Int)(m:Nat->Nat)(s:St):Nat->St->Prop
 | 0,x=>af x s
 | i+1,x=>∃y,jc p but q m s i y/\na p but q i y (m i) x
section
variable {p:Pl} {but:Int} {q:Nat->Nat->Int} {s y x:St} {i j:Nat}
theorem Pos.stepIn(Q:QIn p but q s)(P:Pos p but q s i j y)(hi:i<s.os.n)(a:j<(s.os.z i).ls.n):lf p but y i j (q i j):=by
 have k:=P.al.kind i hi;have l:=P.later i j hi a (λe=>aag);have e:=Q.q0 i j hi a;refine⟨P.al.r,by rw[P.al.osn];exact hi,by rw[k.2];exact a,e.1,?_,Q.bt⟩;rw[k.1,l.1];exact e.2
theorem Pos.start(Q:QIn p but q s)(h:af x s):Pos p but q s 0 0 x :=
 ⟨J0.self Q.r h,λa b d c _=>⟨h.line d c,h.kept _ _⟩,λa b _ _ c=>by unfold ru at c;omega,λ_ _ _ _ e f _ _ _ c=>by unfold ru at c;omega⟩
theorem Pos.next(P:Pos p but q s i j x)(o:(s.os.z i).ls.n<=j):Pos p but q s (i+1) 0 x:=by
 have key:∀a b,b<(s.os.z a).ls.n->ru a b (i+1) 0->ru a b i j:=λa b c h=>by
  unfold ru at h ⊢;rcases h with h|h
  .by_cases e:a=i
   .subst e;exact Or.inr ⟨rfl,ow⟩
   exact Or.inl ow
  omega
 refine⟨P.al,λa b d c h=>P.later a b d c (λe=>h ?_),λa b d c h=>P.none a b d c (key a b c h),λa b d c g k l f h m=>P.first a b d c g k l f h (key g k f m)⟩;unfold ru at e ⊢;omega
theorem Pos.step(Q:QIn p but q s)(P:Pos p but q s i j y)(hi:i<s.os.n)(hj:j<(s.os.z i).ls.n)(T:ng p but y i j (q i j) x):Pos p but q s i (j+1) x:=by
 have I:=P.stepIn Q hi hj;have k:=I.tk;have X:=ng.right I T;have A:=P.al.step I T;have B:ey y i j (q i j) (Tk.go (avT y i j) (q i j) (fh p but)) x:=T
 generalize ht:Tk.go (avT y i j) (q i j) (fh p but)=t at k B
 have L:=P.later i j hi hj (λe=>aag);have S:∀a,a<s.os.n->∀b,b<(s.os.z a).ls.n->a<y.os.n/\b<(y.os.z a).ls.n:=λa l b m=>⟨by rw[P.al.osn];exact l,by rw[(P.al.kind a l).2];exact m⟩;have other:∀a,a<s.os.n->∀b,b<(s.os.z a).ls.n->¬(a=i/\b=j)->(x.os.z a).ls.z b=(y.os.z a).ls.z b/\keptS x.hs.z a b x.hs.n=keptS y.hs.z a b y.hs.n:=λa l b m d=>by
  have e:=S a l b m;refine⟨by rw[B.line e.1 e.2,if_neg d],?_⟩;rw[B.keptS I.r.fm k.sum,if_neg (λe=>d ⟨ow,ow⟩),Int.add_zero]
 have M:∀a b,ru a b i (j+1)->¬(a=i/\b=j)->ru a b i j:=λa b h d=>by
  unfold ru at h ⊢;omega
 have ag:=k.left0;have hg:=I.tki.good;have E:((y.os.z i).ls.z j).o=((s.os.z i).ls.z j).o:=by rw[L.1]
 refine⟨A,λa b l m h => ?_,λa b l m h K D c hc V => ?_,λa b l m H J F U h h' K D W => ?_⟩
 .have d:¬(a=i/\b=j):=λe=>h (by unfold ru;omega);have e:=other a l b m d;have f:=P.later a b l m (λe=>h (by unfold ru at e ⊢;omega));exact⟨e.1.trans f.1,e.2.trans f.2⟩
 .by_cases d:a=i/\b=j
  .obtain⟨rfl,rfl⟩:=d;have e:=B.line (S a l b m).1 (S a l b m).2;rw[if_pos ⟨rfl,rfl⟩] at e;have hx:((x.os.z a).ls.z b).n=((y.os.z a).ls.z b).n-(q a b-t.left):=by rw[e];rfl
   rw[hx,L.1,<-K] at D;have G:((c:Nat):Int)∈fh p but:=zz.2 ⟨aed hc,V⟩;have F:=k.all ow c G;rw[<-E,B.avail I.r.fm X.fm I.on I.ln hc ow,if_pos ow,F];unfold avT;show aq y c _-aq y c _=0;omega
  have e:=other a l b m d;rw[e.1] at D;have f:=P.none a b l m (M a b h d) K D c hc V;have gg:=(fi (Q.r.fm.line a l b m)).1;have u:=B.avail I.r.fm X.fm I.on I.ln hc (g:=((s.os.z a).ls.z b).o.toNat) ow;have t0:=k.took0 c;have v:=(mv (X.goods ((s.os.z a).ls.z b).o.toNat ow)).2 c hc;rw[f] at u
  split at u<;>omega
 have ac:¬(a=i/\b=j):=λe=>by unfold ru at h h';omega
 have Y:=other a l b m ac;rw[Y.1] at D;by_cases d:H=i/\J=j;rotate_left
 .have e:=other H F J U d;rw[e.2];exact P.first a b l m H J F U h (M H J h' d) K D W
 obtain⟨rfl,rfl⟩:=d;have f:=P.none a b l m h K D;have tz:∀c:Nat,c<6->t.took c=0:=λc hc=>by
  by_cases G:((c:Nat):Int)∈fh p but
  .have w:=lf.way _ G;have u:=f c ow (zz.1 G).2;have v:=k.had _ G;have t0:=k.took0 c;have e2:avT y H J c=aq y c ((s.os.z a).ls.z b).o.toNat:=by
    unfold avT;rw[E,W]
    rfl
   rw[e2,u] at v;omega
  exact k.other _ G
 have sz:=k.sum;rw[x9 λc hc=>tz c hc] at sz;rw[B.keptS I.r.fm k.sum,if_pos ⟨rfl,rfl⟩,L.2];omega
theorem na.pos(Q:QIn p but q s)(P:Pos p but q s i 0 y)(hi:i<s.os.n):∀{j:Nat} {x:St},j<=(s.os.z i).ls.n->na p but q i y j x->Pos p but q s i j x
 | 0,x,_,h=>by
  have a:x=y:=h;rw[a];exact P
 | j+1,x,hj,h=>by
  obtain⟨z,b,T⟩:=h;exact(na.pos Q P hi ow b).step Q hi ow T
theorem jc.pos{m:Nat->Nat}(Q:QIn p but q s)(b:∀a,a<s.os.n->m a=(s.os.z a).ls.n):∀{i:Nat} {x:St},i<=s.os.n->jc p but q m s i x->Pos p but q s i 0 x
 | 0,x,_,h=>Pos.start Q h
 | i+1,x,hi,h=>by
  obtain⟨z,c,T⟩:=h;have P:=jc.pos Q b (i:=i) ow c;rw[b i ow] at T;exact(na.pos Q P ow nlr T).next nlr
theorem na.skip(Q:QIn p but q s)(P:Pos p but q s i 0 y)(hi:i<s.os.n):∀{j:Nat},j<=(s.os.z i).ls.n->(∀b,b<j->q i b=0)->na p but q i y j y
 | 0,_,_=>rfl
 | j+1,hj,h0=>by
  have T:=na.skip Q P hi (j:=j) ow λb a=>h0 b ow;refine⟨y,T,?_⟩;have I:=(na.pos Q P hi ow T).stepIn Q hi ow;rw[h0 j ow] at I ⊢;exact ng.skip I.tki
theorem na.same{b:St}(Q:QIn p but q s)(P:Pos p but q s i 0 y)(e:af b y)(hi:i<s.os.n):∀{j:Nat} {x a:St},j<=(s.os.z i).ls.n->na p but q i y j x->na p but q i b j a->af a x
 | 0,x,a,_,h,h'=>by
  have c:x=y:=h;have d:a=b:=h';rw[c,d];exact e
 | j+1,x,a,hj,⟨z,hz,T⟩,⟨z',hz',T'⟩=>by
  have f:=na.same Q P e hi (j:=j) ow hz hz';exact ng.same ((na.pos Q P hi ow hz).stepIn Q hi ow).tki f T T'
theorem jc.same{m:Nat->Nat}(Q:QIn p but q s)(hm:∀a,a<s.os.n->m a=(s.os.z a).ls.n):∀{i:Nat} {x b:St},i<=s.os.n->jc p but q m s i x->jc p but q m s i b->af b x
 | 0,x,b,_,h,h'=>af.trans h' (af.symm h)
 | i+1,x,b,hi,⟨z,hz,T⟩,⟨z',hz',T'⟩=>by
  have f:=jc.same Q hm (i:=i) ow hz hz';exact na.same Q (jc.pos Q hm ow hz) f ow agz T T'
theorem na.base{c:Nat->Nat->Int}(a:∀b,b<(s.os.z i).ls.n->c i b=q i b):∀{j:Nat} {x:St},j<=(s.os.z i).ls.n->na p but c i y j x->na p but q i y j x
 | 0,x,_,h=>h
 | j+1,x,hj,⟨z,hz,T⟩=>⟨z,na.base a ow hz,by rw[<-a j ow];exact T⟩
theorem jc.base{g:St}{f:Nat->Nat->Int}{m m':Nat->Nat}(e:af g s)(hm:∀a,a<s.os.n->m a=(s.os.z a).ls.n)(c:∀a,a<s.os.n->m' a=m a)(d:∀a b,a<s.os.n->b<(s.os.z a).ls.n->f a b=q a b):∀{i:Nat} {x:St},i<=s.os.n->jc p but f m' g i x->jc p but q m s i x
 | 0,x,_,h=>af.trans h e
 | i+1,x,hi,⟨z,hz,T⟩=>⟨z,jc.base e hm c d ow hz,by
   rw[c i ow] at T;exact na.base (s:=s) (λb j=>d i b ow j) agz T⟩
end
def axf(h:Hs)(x:Hd):Hs:=⟨h.a,sw h.n h.z x,h.c,Au h.n h.z x⟩
def agn(s:St)(o l:Nat)(m b:Int):St:=if 0<m then withHolds (setLine s o l 3 (((s.os.z o).ls.z l).n-m)) (axf s.hs (lu o l b m)) else s
def ago(s0:St)(o l:Nat):List Int->Int->St->St
 | [],_,x=>x
 | b :: L,n,x=>ago s0 o l L (n-min n (avT s0 o l b)) (agn x o l (min n (avT s0 o l b)) b)
def agp(p:Pl)(but:Int)(s:St)(o l:Nat)(n:Int):St:=ago s o l (fh p but) n s
theorem R5{p:Pl}{s:St}{o l:Nat}{n:Int}(h:i9 p s o l n):∀(f a:List Int) (x:St),(∀c,c∈a++f->0<=c/\c<p.nb)->(a++f).Pairwise (λx y=>¬x=y)->ey s o l n (Tk.go (avT s o l) n a) x->ey s o l n (Tk.go (avT s o l) n (a++f)) (ago s o l f (Tk.go (avT s o l) n a).left x)
 | [],a,x,_,_,T=>by rw[List.append_nil];exact T
 | b :: L,a,x,hc,hp,T=>by
  have e:a++b :: L=(a++[b])++L:=vq;have q:=hc b vq;have k:=h.tk (L:=a) (List.pairwise_append.1 hp).1 (λc d=>hc c (by simp[d]));have t:=k.left0;have r:0<=avT s o l b:=h.av _ ow;have j:ey s o l n (Tk.go (avT s o l) n (a++[b])) (agn x o l (min (Tk.go (avT s o l) n a).left (avT s o l b)) b):=by
   rw[Tk.go_more];unfold agn;by_cases g:0<min (Tk.go (avT s o l) n a).left (avT s o l b)
   .rw[if_pos g];have i:=(h.addE (λc d=>hc c (by simp[d])) k T q g (Int.min_le_left _ _)).2.2;exact T.stepAdd (order:=o) (line:=l) (y:=axf x.hs (lu o l b (min (Tk.go (avT s o l) n a).left (avT s o l b)))) h.on h.ln rfl i ⟨(if_pos i).symm,λ_ _=>rfl⟩
   rw[if_neg g];exact T.stepZero ow
  have R:=R5 h L (a++[b]) _ (by rw[<-e];exact hc) (by rw[<-e];exact hp) j;rw[e];have m:(Tk.go (avT s o l) n (a++[b])).left=(Tk.go (avT s o l) n a).left-min (Tk.go (avT s o l) n a).left (avT s o l b):=by rw[Tk.go_more];rfl
  rw[m] at R;exact R
theorem Ap{o:Nat}{n but:Int}(h:i9 p s o l n):ng p but s o l n (agp p but s o l n):=
 R5 h (fh p but) [] s (λc hc=>lf.way c hc) (yd p but) (ey.start (n:=n) h.fm.hold (af.self s))
def agc(p:Pl)(but:Int)(q:Nat->Nat->Int)(i:Nat):Nat->St->St
 | 0,s=>s
 | j+1,s=>agp p but (agc p but q i j s) i j (q i j)
def aev(p:Pl)(but:Int)(q:Nat->Nat->Int)(m:Nat->Nat):Nat->St->St
 | 0,s=>s
 | i+1,s=>agc p but q i (m i) (aev p but q m i s)
section
variable {p:Pl} {but:Int} {q:Nat->Nat->Int} {s y:St} {i:Nat}
theorem Zv(Q:QIn p but q s)(P:Pos p but q s i 0 y)(hi:i<s.os.n):∀{j:Nat},j<=(s.os.z i).ls.n->na p but q i y j (agc p but q i j y)
 | 0,_=>rfl
 | j+1,hj=>by
  have T:=Zv Q P hi (j:=j) ow;exact⟨_,T,Ap ((na.pos Q P hi ow T).stepIn Q hi ow).tki⟩
theorem P0{m:Nat->Nat}(Q:QIn p but q s)(b:∀a,a<s.os.n->m a=(s.os.z a).ls.n):∀{i:Nat},i<=s.os.n->jc p but q m s i (aev p but q m i s)
 | 0,_=>af.self s
 | i+1,hi=>by
  have T:=P0 Q b (i:=i) ow;exact⟨_,T,by
   rw[show m i=(s.os.z i).ls.n from b i ow];show na p but q i _ _ (agc p but q i (m i) _);rw[b i ow];exact Zv Q (jc.pos Q b ow T) ow nlr⟩
end
def y9(x:Hd):Hd:=⟨x.o,x.l,x.b,x.l-x.b⟩
def Ag(h:Hs)(k:Nat):Hs:=⟨h.a,h.n,h.c,λj=>if j<k then y9 (h.z j) else h.z j⟩
def Kr(os:Os)(i k:Nat):Os:=⟨os.a,os.n,os.c,λa=>if a=i then ⟨(os.z a).k,Ag (os.z a).ls k⟩ else os.z a⟩
def fp(s:St)(i k:Nat):St:=⟨s.on,Kr s.os i k,s.hs,s.ms,s.si,s.so,s.sf⟩
theorem zt(s:St)(i k:Nat):((fp s i k).os.z i)=⟨(s.os.z i).k,Ag (s.os.z i).ls k⟩:=if_pos rfl
theorem Kt(s:St)(i:Nat):fp s i 0=s:=by
 unfold fp Kr;have e:(λa=>if a=i then(⟨(s.os.z a).k,Ag (s.os.z a).ls 0⟩:Od) else s.os.z a)=s.os.z:=by
  funext a
  by_cases h:a=i
  .rw[if_pos h];have b:Ag (s.os.z a).ls 0=(s.os.z a).ls:=by
    unfold Ag;have c:(λj=>if j<0 then y9 ((s.os.z a).ls.z j) else(s.os.z a).ls.z j)=(s.os.z a).ls.z:=by funext j;rw[if_neg (Qzq _)]
    rw[c]
   rw[b]
  rw[if_neg h]
 rw[e]
theorem Ks(s:St)(i k:Nat):setLine (fp s i k) i k 3 (((s.os.z i).ls.z k).l-((s.os.z i).ls.z k).b)=fp s i (k+1):=by
 have e:Ft (Kr s.os i k) i k 3 (((s.os.z i).ls.z k).l-((s.os.z i).ls.z k).b)=Kr s.os i (k+1):=by
  unfold Ft Kr;dsimp only
  congr 1
  funext a
  by_cases h:a=i
  .subst h;simp only[↓reduceIte]
   congr 1
   unfold Bl Ag;dsimp only
   congr 1
   funext j
   by_cases c:j=k
   .subst c;rw[if_pos rfl,if_neg (Nat.lt_irrefl _),if_pos ow]
    rfl
   rw[if_neg c];by_cases d:j<k
   .rw[if_pos d,if_pos ow]
   rw[if_neg d,if_neg ow]
  rw[if_neg h,if_neg h,if_neg h]
 unfold setLine;rw[show(fp s i k).os=Kr s.os i k from rfl,e]
 rfl
def qw(w wk:World):Prop:=∀(q:Nat) (t:TypeId) (m:Nat) (f:Nat->Value),t≠115->t≠124->Blk w q t m f->Blk wk q t m f
theorem qw.below{b:World}(h:qw w b)(d:Bw b a):qw w a:=λq t m f g c e=>(h q t m f g c e).below d
theorem qw.refl(w:World):qw w w:=λ_ _ _ _ _ _ h=>h
theorem qw.trans{c:World}(h:qw w d)(k:qw d c):qw w c:=λq t m f b a e=>k q t m f b a (h q t m f b a e)
theorem qw.setLine{c:World}(h:qw w c){B n:Nat}{z:Nat->Value}(g:Blk c B 115 n z)(j:Nat)(u:Value):qw w (c.setCell ⟨B,j,none⟩ u):=λq t m f b d e=>(h q t m f b d e).other (a:=⟨B,j,none⟩) (Blk.ne2 (h q t m f b d e) g b) u
theorem qw.setOrder{c:World}(h:qw w c){B n:Nat}{z:Nat->Value}(g:Blk c B 124 n z)(j:Nat)(u:Value):qw w (c.setCell ⟨B,j,none⟩ u):=λq t m f e b d=>(h q t m f e b d).other (a:=⟨B,j,none⟩) (Blk.ne2 (h q t m f e b d) g b) u
theorem Y8(x:St)(i A gO:Nat)(w:World)(hA:A<=w.heap.size)(L:ah A w x)(hi:i<x.os.n)(hga:x.os.a=some ⟨gO,0,none⟩)(aa:∀j,j<(x.os.z i).ls.n->(0<=((x.os.z i).ls.z j).l/\((x.os.z i).ls.z j).l<=200)/\0<=((x.os.z i).ls.z j).b/\((x.os.z i).ls.z j).b<=200):
  Calls prog 137 #[.pointer (some ⟨gO,i*2,none⟩)] w λe w'=>e = .returned (.tuple #[])/\ah A w' (fp x i (x.os.z i).ls.n)/\Below A w w'/\qw w w':=by
 obtain⟨g,hg1,bf,F⟩:=L.os.list ow;obtain⟨B,b1,b2,b3,b4,b5⟩:=L.os.lines i hi;have az:g=gO:=akb;subst az;have be:Hid (∀q k,ah A q (fp x i k)->∀{l:Nat},l<(x.os.z i).ls.n->∃f B',(fp x i k).os.a=some ⟨f,0,none⟩/\f<q.heap.size/\q.cell? ⟨f,i*2+1,none⟩=some (.slice (some ⟨B',0,none⟩) (x.os.z i).ls.n (x.os.z i).ls.c)/\((fp x i k).os.z i).ls.a=some ⟨B',0,none⟩):=λq k h l hl=>by
  have H:l<((fp x i k).os.z i).ls.n:=by rw[zt];exact hl
  obtain⟨f,B',K,f2,f3,u,v,_⟩:=h.lineCell (o:=i) (l:=l) hi H;rw[zt] at u;exact⟨f,B',K,f3,u,v⟩
 have am:Hid _:=aa;have c0:=F.cell (j:=i*2+1) ow;rw[tq (z:=x.os.z) hi (show 1<2 by decide)] at c0;have c1:w.cell? ⟨g,i*2+1,none⟩=some (.slice (x.os.z i).ls.a (x.os.z i).ls.n (x.os.z i).ls.c):=c0;clear c0;rw[b1] at c1;have gl:=F.lt;have r:Hid (ah A w (fp x i 0)):=by show ah A w (fp x i 0);rw[Kt];exact L
 have al:=hid b1;have an:=hid hga;unfold maxLen at b4;clear L hg1 F b1 b5 hga aa;go_enter func137,ntmps137;go_wp2_with fail;clear c1 gl
 go_loopw [9] (λkv q=>∃k:Nat,k<=(x.os.z i).ls.n/\kv = .int .i64 k/\Hid (ah A q (fp x i k))/\Hid (Below A w q)/\Hid (qw w q)) (λkv _=>(x.os.z i).ls.n-(intOf kv).toNat)
 case atStart=>exact⟨0,Qxz _,rfl,r,Below.refl _ _,qw.refl _⟩
 clear r;obtain⟨k,hk,rfl,r,J,HK⟩:=hrel;by_cases ab:k<(x.os.z i).ls.n;rotate_left
 .have a0:k=(x.os.z i).ls.n:=ow;subst a0;go_wp2_with fail
  first|go_end0|refine Xzq (results_none rfl _ _ _) rfl ?_
  exact⟨rfl,r.o,J.o,HK.o⟩
 have H:k<((fp x i k).os.z i).ls.n:=by rw[zt];exact ab
 obtain⟨f,B',K,f2,f3,u,v,f6,f7,f8,f9,ap,aq,f12,ar,au⟩:=r.o.lineCell (o:=i) (l:=k) hi H;have e1:f=g:=by
  have h:x.os.a=some ⟨f,0,none⟩:=K;rw[an.o] at h
  simpa using h.symm
 have e2:B'=B:=by
  have h:(x.os.z i).ls.a=some ⟨B',0,none⟩:=by rw[zt] at v;exact v
  rw[al.o] at h
  simpa using h.symm
 subst e1;subst e2;have Q:Hid (((fp x i k).os.z i).ls.a=some ⟨B',0,none⟩):=v;have hz:((fp x i k).os.z i).ls.z k=(x.os.z i).ls.z k:=by
  rw[zt];exact if_neg (Nat.lt_irrefl _)
 rw[hz] at aq f12 ar au;rw[zt] at u;have aw:wr.cell? ⟨f,i*2+1,none⟩=some (.slice (some ⟨B',0,none⟩) (x.os.z i).ls.n (x.os.z i).ls.c):=u;clear u;have ao:Hid (setLine (fp x i k) i k 3 (((x.os.z i).ls.z k).l-((x.os.z i).ls.z k).b)=fp x i (k+1)):=Ks x i k;have hb:=am.o k ab;have q0:(0:Int)<=(k:Int):=ow;have q1:(k:Int)<((x.os.z i).ls.n:Int):=ow
 generalize (x.os.z i).ls.z k=Z at *
 obtain⟨W,hW,t,KX⟩:∃W,wr.alloc (.cells #[.int .i64 Z.o,.int .i64 Z.l,.int .i64 Z.b,.int .i64 Z.n] 115)=W/\Bw wr W/\Blk W wr.heap.size 115 4 (λj=>(#[.int .i64 Z.o,.int .i64 Z.l,.int .i64 Z.b,.int .i64 Z.n]:Array Value).getD j default):=⟨_,rfl,brf.alloc nlr _,Blk.mk' rfl rfl⟩;have HW:=hid hW;have T:=hid (r.o.below t);have y:=J.o.trans (t.mono (Qzx hA J.o.size));have S:Hid (qw w W):=HK.o.below t;have t1:∀d os,(grow (redrawn W d) os).cell? ⟨f,i*2+1,none⟩=some (.slice (some ⟨B',0,none⟩) (x.os.z i).ls.n (x.os.z i).ls.c):=λd os=>Qqq ((t.cell (p:=⟨f,i*2+1,none⟩) f3).trans aw) d os;have t2:=Qqq (KX.k 1);have t3:=Qqq (KX.k 2);clear hW hz K f2 v f8 f9 ap KX r J HK;go_wp2_with fail;rw[HW.o];refine dg (λw'=>∃p:Regrown,w'=grow (redrawn W p.d) p.os) (List.range 12) [] [(true,12)] (Qqx (brf.drew)) ?_;rw[show List.range 12=[0,1,2,3,4,5,6,7,8,9,10,11] from rfl];simp only[jg]
 repeat(go_big_quiet_step(fail))
 refine Qqz ?_;clear t1 t2 t3;refine⟨λ_ _ _ _=>True,Qjq _,Qjq _,Qjq _,λV G wj hS _ _ => ?_⟩;have M:=ae hS;have E:=ah.below T.o M;have X:=y.trans (M.mono (Qzx hA y.size));have Y:=S.o.below M;obtain⟨Bq,s,-,-,-,m⟩:=E.os.lines i hi;rw[Q.o] at s;simp only[co] at s;subst s;have zl:=m.lt;have zf:=m.frozen (k*4+3);have zc:=m.cell (j:=k*4+3) ow;have D:=E.setLine (o:=i) hi Q.o k 3 dc (Z.l-Z.b);have ac:=Y.setLine m (k*4+3) (.int .i64 (Z.l-Z.b));have U:=X.setCell (p:=⟨B',k*4+3,none⟩) (by show A<=B';omega) (.int .i64 (Z.l-Z.b));rw[ao.o] at D;have HN:=qa3 D U ac;clear E X Y m D ac U M hS T S y
 generalize (ba ((fp x i k).os.z i).ls.n ((fp x i k).os.z i).ls.z).getD (k*4+3) default=VV at zc
 simp only[dz];refine bu 12 rfl ?_;go_wp2_with fail;refine⟨fw.yes,?_⟩;refine NoPanic.normal ?_;go_wp2_with fail;go_roundw
 case rel=>exact⟨k+1,ow,vo,HN.o.1,HN.o.2.1,HN.o.2.2⟩
 case measure=>simp[intOf];omega
theorem awx(w:World):(zeroValue 3).run prog w = .ok (.int .i64 0) w:=ko
theorem Blk.setCells{g:Nat}{e:TypeId}{n:Nat}{f:Nat->Value}:∀(a:List Value) (o:Nat) (w:World),Blk w g e n f->n<=o->Blk (w.setCells g o a) g e n f
 | [],_,_,h,_=>h
 | v :: r,o,w,h,hn=>by
  rw[World.setCells];exact Blk.setCells r (o+1) _ ((h.set o v).congr λj b=>aan) ow
theorem Aw{B g:Nat}(b:B<=g){a:World}:∀(c:List Value) (o:Nat) (w:World),Below B a w->Below B a (w.setCells g o c)
 | [],_,_,h=>h
 | v :: r,o,w,h=>by
  rw[World.setCells];exact Aw b r (o+1) _ (h.setCell (p:=⟨g,o,none⟩) b v)
theorem Blk.less{n:Nat}(h:Blk w g e n f)(i:m<=n):Blk w g e m f:=by
 obtain⟨cur,a,c,b⟩:=h;exact⟨cur,a,ow,λj d=>b j ow⟩
theorem ayx(f:Nat)(caps:Array Value)(bad:Nat->Bool)(A:Nat)(a:Option Addr)(n c:Nat)(w:World)(hA:A<=w.heap.size)(s:n<=c)(hc:c<=maxLen)(z:Nat->Int)(l:lw w a n z)
  (q:∀args w,(callFunc f args).run prog w = .ok (.enter f args) w)
  (p:Hid (∀i w1,i<n->Below A w w1->Calls prog f (#[.int .i64 (z i)]++caps) w1 λe w'=>e = .returned (.bool (bad i))/\Bw w1 w')) :
  Calls prog 81 #[.slice a n c,.func (.func f) #[] caps] w λe w'=>((e = .returned (.int .i64 (-1))/\∀j,j<n->bad j=false)\/∃k,k<n/\e = .returned (.int .i64 (k:Nat))/\bad k=true/\∀j,j<k->bad j=false)/\Bw w w':=by
 unfold maxLen at hc;go_enter func81,ntmps81;go_wp2_with fail
 go_loopw [8] (λi w1=>∃k:Nat,k<=n/\i = .int .i64 k/\(∀j,j<k->bad j=false)/\Bw w w1) (λi _=>n-(intOf i).toNat)
 case atStart=>exact vu
 obtain⟨k,r,rfl,d,hB⟩:=hrel;have HN:=hid d;clear d;by_cases hlt:k<n
 .obtain⟨b,o,rfl,_,m⟩:=(l.below hB) k hlt;clear l;go_wp2_with fail;refine(p.o k wr hlt (hB.mono hA)).mono ?_;rintro e w1 ⟨rfl,g⟩;have hB2:=hB.trans (g.mono hB.size);cases hbad:bad k
  .exact ay5
  exact ao0
 exact anu
def ue(bad:Int->Bool)(xs:List Int)(k:Nat):List Int:=(xs.take k).filter (λx => !bad x)
theorem Qc(bad:Int->Bool)(xs:List Int):ue bad xs xs.length=xs.filter (λx => !bad x):=by unfold ue;rw[List.take_length]
theorem Nt{bad:Int->Bool}{xs:List Int}{k:Nat}(hk:k<xs.length):ue bad xs (k+1)=ue bad xs k++if bad (xs.getD k 0) then [] else [xs.getD k 0]:=by
 unfold ue;have e:xs.getD k 0=xs[k]:=Xg;exact anc
theorem Ns{bad:Int->Bool}{xs:List Int}:∀{k:Nat},k<=xs.length->(∀j,j<k->bad (xs.getD j 0)=false)->ue bad xs k=xs.take k
 | 0,_,_=>by simp[ue]
 | k+1,hk,h=>by
  rw[Nt ow,Ns (k:=k) ow (λj a=>h j ow),h k ow,List.take_add_one];simp[List.getD,List.getElem?_eq_getElem (show k<xs.length by omega)]
def Wv(g:Nat)(bad:Int->Bool)(xs:List Int)(k:Nat)(wk:World):Prop:=∃c:Nat->Value,Blk wk g 3 xs.length c/\(∀q,q<(ue bad xs k).length->c q = .int .i64 ((ue bad xs k).getD q 0))/\∀q,k<=q->q<xs.length->c q = .int .i64 (xs.getD q 0)
theorem aqd(f:Nat)(caps:Array Value)(bad:Int->Bool)(A g cap:Nat)(xs:List Int)(w:World)(hA:A<=g)(t:A<=w.heap.size)(hn:xs.length<=cap)(y:cap<=maxLen)(L:Blk w g 3 xs.length (λj => .int .i64 (xs.getD j 0)))
  (eg:∀args w,(callFunc f args).run prog w = .ok (.enter f args) w)
  (V:Hid (∀(x:Int) w1,Below A w w1->Calls prog f (#[.int .i64 x]++caps) w1 λe w'=>e = .returned (.bool (bad x))/\Bw w1 w')) :
  Calls prog 181 #[.slice (some ⟨g,0,none⟩) xs.length cap,.func (.func f) #[] caps] w λe w'=>e = .returned (.slice (some ⟨g,0,none⟩) (xs.filter (λx => !bad x)).length cap)/\Blk w' g 3 (xs.filter (λx => !bad x)).length (λj => .int .i64 ((xs.filter (λx => !bad x)).getD j 0))/\Below A w w':=by
 have F:=y;unfold maxLen at y;have s:=hid L;have hz:lw w (some ⟨g,0,none⟩) xs.length (λj=>xs.getD j 0):=L.ints;clear L;go_enter func181,ntmps181;go_wp2_with fail;refine(ayx f caps (λj=>bad (xs.getD j 0)) A _ _ _ w t hn F _ hz eg (λi w1 _ h=>V.o _ w1 h)).mono ?_;rintro e w1 ⟨h,n⟩;clear hz;have u:=n.mono t;rcases h with⟨rfl,l⟩|⟨r,Y,rfl,v,l⟩
 .have z:xs.filter (λx => !bad x)=xs:=by
   have:=Ns (bad:=bad) (Nat.le_refl xs.length) l;rw[Qc,List.take_length] at this;exact this
  have HF:=hid z;clear z l;go_wp2_with fail;go_ret;rw[HF.o];exact⟨rfl,s.o.below n,u⟩
 have hs0:ue bad xs (r+1)=xs.take r:=by rw[Nt Y,Ns ow l,v];simp
 have B:(ue bad xs (r+1)).length=r:=Z4;have S:Hid (Wv g bad xs (r+1) w1):=⟨_,s.o.below n,λq hq=>by
  rw[B] at hq;rw[hs0];simp only[List.getD,List.getElem?_take,if_pos hq],λq _ _=>rfl⟩
 have HL0:=hid B;clear hs0 B v l s;go_wp2_with fail
 go_loopw [5,6] (λi j wk=>∃k:Nat,k<=xs.length/\j = .int .i64 k/\i = .int .i64 ((ue bad xs k).length:Nat)/\(ue bad xs k).length<k/\Hid (Wv g bad xs k wk)/\Below A w wk) (λ_ j _=>xs.length-(intOf j).toNat)
 case atStart=>exact⟨r+1,ow,vo,by rw[HL0.o],aau,S,u⟩
 clear S HL0 u n;obtain⟨k,hk,rfl,rfl,a,D,E⟩:=hrel;by_cases o:k<xs.length;rotate_left
 .have aa:k=xs.length:=ow;subst aa;obtain⟨c,hc1,hc2,d⟩:=D.o;have HIE:Hid (ue bad xs xs.length=xs.filter (λx => !bad x)):=Qc bad xs;rw[Qc] at a hc2 ⊢;obtain⟨I,m⟩:∃I,(xs.filter (λx => !bad x)).length=I:=⟨_,rfl⟩;have HI:=hid m;rw[m] at a hc2 ⊢;clear m;obtain⟨N,J⟩:∃N,xs.length=N:=⟨_,rfl⟩;have ai:=hid J;rw[J] at a hn hc1 ⊢;clear J d o hk D;have aj:¬cap=I:=ow;have ak:∀M,(Builtin.clear_ #[23] M #[.slice (some ⟨g,I,none⟩) (N-I) (cap-I)]).run prog wr = .ok (.tuple #[]) (wr.setCells g I (List.replicate (N-I) (.int .i64 0))):=λM =>
   Lib.run_clear_slice wr 23 3 M (.int .i64 0) underlying23 awx rfl rfl g I (N-I) (cap-I) ow (λj W=>aab) (λj _=>hc1.frozen _)
  have HEND:Hid (Blk (wr.setCells g I (List.replicate (N-I) (.int .i64 0))) g 3 I (λj => .int .i64 ((xs.filter (λx => !bad x)).getD j 0))/\Below A w (wr.setCells g I (List.replicate (N-I) (.int .i64 0)))):=
   ⟨Blk.setCells _ _ _ ((hc1.less ow).congr λj W=>hc2 j W) nlr,Aw hA _ _ _ E⟩
  exact aby
 obtain⟨c,hc1,hc2,d⟩:=D.o;have HB:=qa3 hc1 hc2 d;have z0:wr.cell? ⟨g,k,none⟩=some (.int .i64 (xs.getD k 0)):=(hc1.cell o).trans (by rw[d k nlr o]);have HS:Hid (ue bad xs (k+1)=ue bad xs k++if bad (xs.getD k 0) then [] else [xs.getD k 0]):=Nt o;clear hc1 hc2 d D;obtain⟨X,K⟩:∃X,xs.getD k 0=X:=⟨_,rfl⟩;have HXE:=hid K;rw[K] at z0;clear K;obtain⟨I,m⟩:∃I,(ue bad xs k).length=I:=⟨_,rfl⟩;have HIE:=hid m;rw[m] at a ⊢;clear m;go_wp2_with fail;refine(V.o X wr E).mono ?_;rintro e Q ⟨rfl,G⟩;have H:=E.trans (G.mono (Qzx t E.size));have kb:=HB.o.1.below G;cases hbd:bad X;rotate_left
 .have b:Hid (Wv g bad xs (k+1) Q/\(ue bad xs (k+1)).length=I):=by
   have e1:ue bad xs (k+1)=ue bad xs k:=ak4;exact ang
  clear kb HB HS;go_wp2_with fail;go_roundw
  case rel=>exact⟨_,_,_,_,_,_,_,_,_,_,_,_,_,_,_,_,_,_,_,_,_,_,_,⟨k+1,ow,vo,by rw[b.o.2],by rw[b.o.2];omega,b.o.1,H⟩,rfl⟩
  case measure=>simp[intOf];omega
 have y1:=kb.frozen I;have y2:=kb.cell (j:=I) ow;have T:=kb.set I (.int .i64 X);have b:Hid (Wv g bad xs (k+1) (Q.setCell ⟨g,I,none⟩ (.int .i64 X))/\Below A w (Q.setCell ⟨g,I,none⟩ (.int .i64 X))/\(ue bad xs (k+1)).length=I+1):=by
  have e1:ue bad xs (k+1)=ue bad xs k++[X]:=ak7;have U:(ue bad xs (k+1)).length=I+1:=ath;refine⟨⟨_,T,λq hq => ?_,λq hq hq2 => ?_⟩,H.setCell (p:=⟨g,I,none⟩) hA _,U⟩
  .rw[U] at hq;show(if q=I then Value.int .i64 X else c q)=_;exact auw
  show(if q=I then Value.int .i64 X else c q)=_;rw[if_neg ow,HB.o.2.2 q ow hq2]
 clear kb T HB HS;go_wp2_with fail;go_roundw
 case rel=>exact⟨_,_,_,_,_,_,_,_,_,_,_,_,_,_,_,_,_,_,_,_,_,_,_,⟨k+1,ow,vo,by rw[b.o.2.2];go_num,by rw[b.o.2.2];omega,b.o.1,b.o.2.1⟩,rfl⟩
 case measure=>simp[intOf];omega
def hd0:Hd:=⟨0,0,0,0⟩
def hc(c:Nat->Hd)(q:Nat):Value:=(dt (c (q/4))).getD (q%4) default
theorem Wy(c:Nat->Hd)(i:Nat):hc c (i*4) = .int .i64 (c i).o/\hc c (i*4+1) = .int .i64 (c i).l/\hc c (i*4+2) = .int .i64 (c i).b/\hc c (i*4+3) = .int .i64 (c i).n:=by
 unfold hc;refine⟨?_,?_,?_,?_⟩
 .rw[show i*4/4=i by omega,show i*4%4=0 by omega];rfl
 .rw[show(i*4+1)/4=i by omega,show(i*4+1)%4=1 by omega];rfl
 .rw[show(i*4+2)/4=i by omega,show(i*4+2)%4=2 by omega];rfl
 rw[show(i*4+3)/4=i by omega,show(i*4+3)%4=3 by omega];rfl
theorem Cb{n:Nat}{z:Nat->Hd}{q:Nat}(a:q<n*4):(ba n z).getD q default=hc z q:=by
 have h:=zk n z (q/4) (q%4) ow ow;rw[show q/4*4+q%4=q by omega] at h;unfold hc;simp only[List.getD];rw[h]
def set4(w:World)(g i:Nat)(x:Hd):World:=(((w.setCell ⟨g,i*4,none⟩ (.int .i64 x.o)).setCell ⟨g,i*4+1,none⟩ (.int .i64 x.l)).setCell ⟨g,i*4+2,none⟩ (.int .i64 x.b)).setCell ⟨g,i*4+3,none⟩ (.int .i64 x.n)
theorem Blk.set4{n:Nat}{c:Nat->Hd}(h:Blk w g e n (hc c))(i:Nat)(x:Hd):Blk (set4 w g i x) g e n (hc λj=>if j=i then x else c j):=by
 unfold Go.Proofs.YtjgckphgagdpaaaGreatDoor.set4;refine((((h.set _ _).set _ _).set _ _).set _ _).congr λq l => ?_;have a:=Wy (λj=>if j=i then x else c j) i;simp only[if_pos] at a;by_cases k:q=i*4+3
 .rw[if_pos k,k,a.2.2.2]
 rw[if_neg k];by_cases f:q=i*4+2
 .rw[if_pos f,f,a.2.2.1]
 rw[if_neg f];by_cases d:q=i*4+1
 .rw[if_pos d,d,a.2.1]
 rw[if_neg d];by_cases b:q=i*4
 .rw[if_pos b,b,a.1]
 rw[if_neg b];unfold hc;dsimp only;rw[if_neg ow]
theorem ae2(b:A<=g)(h:Below A a w)(i:Nat)(x:Hd):Below A a (set4 w g i x):=by
 unfold set4;exact(((h.setCell (p:=⟨g,i*4,none⟩) b _).setCell (p:=⟨g,i*4+1,none⟩) b _).setCell (p:=⟨g,i*4+2,none⟩) b _).setCell (p:=⟨g,i*4+3,none⟩) b _
theorem Blk.hds{n:Nat}{c:Nat->Hd}(h:Blk w g e (n*4) (hc c)):jx w (some ⟨g,0,none⟩) n c:=λi hi=>by
 have a:=Wy c i;refine⟨g,0,rfl,h.lt,?_,?_,?_,?_⟩
 .rw[Nat.zero_add];exact(h.cell ow).trans (by rw[a.1])
 .rw[Nat.zero_add];exact(h.cell ow).trans (by rw[a.2.1])
 .rw[Nat.zero_add];exact(h.cell ow).trans (by rw[a.2.2.1])
 rw[Nat.zero_add];exact(h.cell ow).trans (by rw[a.2.2.2])
theorem age(w:World)(a:TypeId)(b o n c:Nat)(d:0<n)(hc:∀j,j<n*4->(w.cell? ⟨b,o+j,none⟩).isSome=true)(hf:∀j,j<n*4->w.frozen? ⟨b,o+j,none⟩=false):
  (Builtin.clear_ #[33] a #[.slice (some ⟨b,o,none⟩) n c]).run prog w = .ok (.tuple #[]) (w.setCells b o (List.replicate (n*4) (.int .i64 0))):=atv
def iy(g:Nat)(w w':World):Prop:=w.heap.size<=w'.heap.size/\∀q,q<w.heap.size->q≠g->w'.heap[q]?=w.heap[q]?
theorem iy.refl(g:Nat)(w:World):iy g w w:=⟨Nat.le_refl _,λ_ _ _=>rfl⟩
theorem iy.below{e:World}(h:iy g w e)(a:Bw e d):iy g w d:=⟨Qzx h.1 a.size,λq c b=>(a.block q (Xzx c h.1)).trans (h.2 q c b)⟩
theorem iy.set{b:World}(h:iy g w b)(j:Nat)(u:Value):iy g w (b.setCell ⟨g,j,none⟩ u):=⟨aa8,λq c a=>(Below.heap_setCell b ⟨g,j,none⟩ u q a).trans (h.2 q c a)⟩
theorem iy.cells{g:Nat}{w:World}:∀(b:List Value) (o:Nat) (a:World),iy g w a->iy g w (a.setCells g o b)
 | [],_,_,h=>h
 | v :: r,o,a,h=>by
  rw[World.setCells];exact iy.cells r (o+1) _ (h.set o v)
theorem iy.set4(h:iy g w a)(i:Nat)(x:Hd):iy g w (Go.Proofs.YtjgckphgagdpaaaGreatDoor.set4 a g i x):=an7
theorem iy.blk(h:iy g w w'){q:Nat}{t:TypeId}(a:Blk w q t m f)(c:q≠g):Blk w' q t m f:=by
 have b:=a.lt;obtain⟨cur,d,e⟩:=a;exact⟨cur,(h.2 q b c).trans d,e⟩
theorem ar9(f:Nat)(caps:Array Value)(bad:Hd->Bool)(A:Nat)(a:Option Addr)(n c:Nat)(w:World)(hA:A<=w.heap.size)(g:n<=c)(hc:c<=maxLen)(z:Nat->Hd)(hz:jx w a n z)
  (d:∀args w,(callFunc f args).run prog w = .ok (.enter f args) w)
  (hf:Hid (∀(x:Hd) w1,Below A w w1->Calls prog f (#[x.val]++caps) w1 λe w'=>e = .returned (.bool (bad x))/\Bw w1 w')) :
  Calls prog 184 #[.slice a n c,.func (.func f) #[] caps] w λe w'=>((e = .returned (.int .i64 (-1))/\∀j,j<n->bad (z j)=false)\/∃k,k<n/\e = .returned (.int .i64 (k:Nat))/\bad (z k)=true/\∀j,j<k->bad (z j)=false)/\Bw w w':=by
 unfold maxLen at hc;go_enter func184,ntmps184;exact aya
def jw(bad:Hd->Bool)(xs:List Hd)(k:Nat):List Hd:=(xs.take k).filter (λx => !bad x)
theorem Nr(bad:Hd->Bool)(xs:List Hd):jw bad xs xs.length=xs.filter (λx => !bad x):=by unfold jw;rw[List.take_length]
theorem Fu{bad:Hd->Bool}{xs:List Hd}{k:Nat}(hk:k<xs.length):jw bad xs (k+1)=jw bad xs k++if bad (xs.getD k hd0) then [] else [xs.getD k hd0]:=by
 unfold jw;have e:xs.getD k hd0=xs[k]:=Xg;exact anc
theorem Lr{bad:Hd->Bool}{xs:List Hd}:∀{k:Nat},k<=xs.length->(∀j,j<k->bad (xs.getD j hd0)=false)->jw bad xs k=xs.take k
 | 0,_,_=>by simp[jw]
 | k+1,hk,h=>by
  rw[Fu ow,Lr (k:=k) ow (λj a=>h j ow),h k ow,List.take_add_one];simp[List.getD,List.getElem?_eq_getElem (show k<xs.length by omega)]
def Qm(g:Nat)(bad:Hd->Bool)(xs:List Hd)(k:Nat)(wk:World):Prop:=∃c:Nat->Hd,Blk wk g 107 (xs.length*4) (hc c)/\(∀q,q<(jw bad xs k).length->c q=(jw bad xs k).getD q hd0)/\∀q,k<=q->q<xs.length->c q=xs.getD q hd0
theorem Xp(f:Nat)(caps:Array Value)(bad:Hd->Bool)(A g cap:Nat)(xs:List Hd)(w:World)(hA:A<=g)(u:A<=w.heap.size)(hn:xs.length<=cap)(F:cap<=maxLen)(U:Blk w g 107 (xs.length*4) (hc λj=>xs.getD j hd0))
  (eg:∀args w,(callFunc f args).run prog w = .ok (.enter f args) w)
  (hf:Hid (∀(x:Hd) w1,Below A w w1->Calls prog f (#[x.val]++caps) w1 λe w'=>e = .returned (.bool (bad x))/\Bw w1 w')) :
  Calls prog 135 #[.slice (some ⟨g,0,none⟩) xs.length cap,.func (.func f) #[] caps] w λe w'=>e = .returned (.slice (some ⟨g,0,none⟩) (xs.filter (λx => !bad x)).length cap)/\Blk w' g 107 ((xs.filter (λx => !bad x)).length*4) (hc λj=>(xs.filter (λx => !bad x)).getD j hd0)/\Below A w w'/\iy g w w':=by
 have M:=F;unfold maxLen at F;have D:=hid U;have hz:jx w (some ⟨g,0,none⟩) xs.length (λj=>xs.getD j hd0):=U.hds;clear U;go_enter func135,ntmps135;go_wp2_with fail;refine(ar9 f caps bad A _ _ _ w u hn M _ hz eg hf).mono ?_;rintro e w1 ⟨h,d⟩;clear hz;have E:=d.mono u;rcases h with⟨rfl,hno⟩|⟨B,hk0,rfl,hbad,hno⟩
 .have G:xs.filter (λx => !bad x)=xs:=anh;have HF:=hid G;clear G hno;go_wp2_with fail;go_ret;rw[HF.o];exact⟨rfl,D.o.below d,E,(iy.refl g w).below d⟩
 have hs0:jw bad xs (B+1)=xs.take B:=asx;have H:(jw bad xs (B+1)).length=B:=Z4;have H0:Hid (Qm g bad xs (B+1) w1):=⟨_,D.o.below d,λq hq=>by
  rw[H] at hq;rw[hs0];simp only[List.getD,List.getElem?_take,if_pos hq],λq _ _=>rfl⟩
 have HL0:=hid H;clear hs0 H hbad hno D;go_wp2_with fail
 go_loopw [5,6] (λi j Y=>∃k:Nat,k<=xs.length/\j = .int .i64 k/\i = .int .i64 ((jw bad xs k).length:Nat)/\(jw bad xs k).length<k/\Hid (Qm g bad xs k Y)/\Below A w Y/\Hid (iy g w Y)) (λ_ j _=>xs.length-(intOf j).toNat)
 case atStart=>exact⟨B+1,ow,vo,by rw[HL0.o],aau,H0,E,(iy.refl g w).below d⟩
 clear H0 HL0 E d;obtain⟨k,hk,rfl,rfl,m,K,L,HKG⟩:=hrel;by_cases J:k<xs.length;rotate_left
 .have af:k=xs.length:=ow;subst af;obtain⟨c,hc1,hc2,s⟩:=K.o;rw[Nr] at m hc2 ⊢;obtain⟨I,t⟩:∃I,(xs.filter (λx => !bad x)).length=I:=⟨_,rfl⟩;have HI:=hid t;rw[t] at m hc2 ⊢;clear t;obtain⟨N,S⟩:∃N,xs.length=N:=⟨_,rfl⟩;have ax:=hid S;rw[S] at m hn hc1 ⊢;clear S s J hk K;have ay:¬cap=I:=ow;have az:∀V,(Builtin.clear_ #[33] V #[.slice (some ⟨g,I*4,none⟩) (N-I) (cap-I)]).run prog wr = .ok (.tuple #[]) (wr.setCells g (I*4) (List.replicate ((N-I)*4) (.int .i64 0))):=λV =>
   age wr V g (I*4) (N-I) (cap-I) ow (λj hj=>aab) (λj _=>hc1.frozen _)
  have HEND:Hid (Blk (wr.setCells g (I*4) (List.replicate ((N-I)*4) (.int .i64 0))) g 107 (I*4) (hc λj=>(xs.filter (λx => !bad x)).getD j hd0)/\Below A w (wr.setCells g (I*4) (List.replicate ((N-I)*4) (.int .i64 0)))/\iy g w (wr.setCells g (I*4) (List.replicate ((N-I)*4) (.int .i64 0)))):=
   ⟨Blk.setCells _ _ _ ((hc1.less ow).congr λj hj=>aj3) nlr,Aw hA _ _ _ L,HKG.o.cells _ _ _⟩
  exact aby
 obtain⟨c,hc1,hc2,s⟩:=K.o;have HB:=qa3 hc1 hc2 s;have HS:Hid (jw bad xs (k+1)=jw bad xs k++if bad (xs.getD k hd0) then [] else [xs.getD k hd0]):=Fu J;obtain⟨X,T⟩:∃X,xs.getD k hd0=X:=⟨_,rfl⟩;have HXE:=hid T;have Q:c k=X:=by rw[s k nlr J,T]
 have z:=Wy c k;rw[Q] at z;have z0:wr.cell? ⟨g,k*4,none⟩=some (.int .i64 X.o):=(hc1.cell ow).trans (by rw[z.1]);have z1:wr.cell? ⟨g,k*4+1,none⟩=some (.int .i64 X.l):=(hc1.cell ow).trans (by rw[z.2.1]);have z2:wr.cell? ⟨g,k*4+2,none⟩=some (.int .i64 X.b):=(hc1.cell ow).trans (by rw[z.2.2.1]);have z3:wr.cell? ⟨g,k*4+3,none⟩=some (.int .i64 X.n):=(hc1.cell ow).trans (by rw[z.2.2.2]);have zl:=hc1.lt;clear hc1 hc2 s K T Q z;obtain⟨I,t⟩:∃I,(jw bad xs k).length=I:=⟨_,rfl⟩;have HIE:=hid t;rw[t] at m ⊢;clear t;obtain⟨W,hW,y,KX⟩:∃W,wr.alloc (.cells #[.int .i64 X.o,.int .i64 X.l,.int .i64 X.b,.int .i64 X.n] 107)=W/\Bw wr W/\Blk W wr.heap.size 107 4 (λj=>(#[.int .i64 X.o,.int .i64 X.l,.int .i64 X.b,.int .i64 X.n]:Array Value).getD j default):=⟨_,rfl,brf.alloc nlr _,Blk.mk' rfl rfl⟩;have HW:=hid hW;have v:=L.trans (y.mono (Qzx u L.size));have HB:Hid (Blk W g 107 (xs.length*4) (hc c)/\(∀q,q<(jw bad xs k).length->c q=(jw bad xs k).getD q hd0)/\∀q,k<=q->q<xs.length->c q=xs.getD q hd0):=⟨HB.o.1.below y,HB.o.2⟩;have HKG:Hid (iy g w W):=HKG.o.below y;clear hW y;go_wp2_with fail;rw[HW.o];refine(hf.o X W v).mono ?_;rintro e p ⟨rfl,r⟩;have hB3:=v.trans (r.mono (Qzx u v.size));have HKG:Hid (iy g w p):=HKG.o.below r;have kb:=HB.o.1.below r;have a:=KX.below r;have xl:=a.lt;have x0:p.cell? ⟨wr.heap.size,0,none⟩=some (.int .i64 X.o):=a.k 0;have x1:p.cell? ⟨wr.heap.size,1,none⟩=some (.int .i64 X.l):=a.k 1;have x2:p.cell? ⟨wr.heap.size,2,none⟩=some (.int .i64 X.b):=a.k 2;have x3:p.cell? ⟨wr.heap.size,3,none⟩=some (.int .i64 X.n):=a.k 3;clear z0 z1 z2 z3 zl KX a HW L v r
 generalize wr.heap.size=BX at *
 cases hbd:bad X;rotate_left
 .have HN:Hid (Qm g bad xs (k+1) p/\(jw bad xs (k+1)).length=I):=al3;exact avd
 have y0:=kb.cell (j:=I*4) ow;have y1:=kb.cell (j:=I*4+1) ow;have y2:=kb.cell (j:=I*4+2) ow;have y3:=kb.cell (j:=I*4+3) ow;have f0:=kb.frozen (I*4);have f1:=kb.frozen (I*4+1);have f2:=kb.frozen (I*4+2);have f3:=kb.frozen (I*4+3);have yl:=kb.lt
 generalize hc c (I*4)=V0 at y0
 generalize hc c (I*4+1)=V1 at y1
 generalize hc c (I*4+2)=V2 at y2
 generalize hc c (I*4+3)=V3 at y3
 have KB:=kb.set4 I X;have HN:Hid (Qm g bad xs (k+1) (set4 p g I X)/\Below A w (set4 p g I X)/\(jw bad xs (k+1)).length=I+1/\iy g w (set4 p g I X)):=at2;exact au2
def Cn(os:Os)(o:Nat)(v:Int):Os:=⟨os.a,os.n,os.c,λi=>if i=o then ⟨v,(os.z i).ls⟩ else os.z i⟩
def di(s:St)(o:Nat)(v:Int):St:=⟨s.on,Cn s.os o v,s.hs,s.ms,s.si,s.so,s.sf⟩
theorem xv(s:St)(o:Nat)(v:Int):(di s o v).os.z o=⟨v,(s.os.z o).ls⟩:=if_pos rfl
theorem De(os:Os)(o:Nat)(v:Int)(i:Nat):((Cn os o v).z i).ls=(os.z i).ls:=by
 show(if i=o then(⟨v,(os.z i).ls⟩:Od) else os.z i).ls=_;by_cases h:i=o
 .rw[if_pos h]
 rw[if_neg h]
theorem kj.kind{s:Os}{o:Nat}(h:kj A w s)(D:o<s.n)(l:s.a=some ⟨g,0,none⟩)(v:Int):kj A (w.setCell ⟨g,o*2,none⟩ (.int .i64 v)) (Cn s o v):=by
 obtain⟨y,c,hA,m⟩:=h.list ow;rw[l] at c;simp only[co] at c;subst c;refine⟨h.le,h.cap,λB=>⟨g,l,hA,(m.set (o*2) (.int .i64 v)).congr λq E => ?_⟩,λi hi => ?_,λi j p d=>by rw[De,De];exact h.apart i j p d,h.room.set _ _ _⟩;rotate_left
 .rw[De];obtain⟨C,a1,t,u,x,e⟩:=h.lines i hi;exact⟨C,a1,t,u,x,e.other (a:=⟨g,o*2,none⟩) (Blk.ne2 e m dc) _⟩
 have hd:q=q/2*2+q%2:=ow;have hi:q/2<s.n:=ow;have r:q%2<2:=ow;have f:=tq (z:=s.z) hi r;have k:=tq (z:=(Cn s o v).z) hi r;rw[<-hd] at f k;show(if q=o*2 then Value.int .i64 v else(ke s.n s.z).getD q default)=(ke s.n (Cn s o v).z).getD q default;rw[f,k];show _=(ti (if q/2=o then(⟨v,(s.z (q/2)).ls⟩:Od) else s.z (q/2))).getD (q%2) default;by_cases d:q/2=o
 .rw[if_pos d];have b:q%2=0\/q%2=1:=ow;rcases b with b|b
  .rw[if_pos ow,b];rfl
  rw[if_neg ow,b];rfl
 rw[if_neg d,if_neg ow]
theorem ah.kind{o:Nat}(h:ah A w s)(l:o<s.os.n)(e:s.os.a=some ⟨g,0,none⟩)(v:Int):ah A (w.setCell ⟨g,o*2,none⟩ (.int .i64 v)) (di s o v):=by
 obtain⟨m,c,hA,b⟩:=h.os.list ow;rw[e] at c;simp only[co] at c;subst c;refine⟨?_,λi hi=>(h.rows i hi).other b dc _ _,h.rapart,h.os.kind l e v,h.hs.other b dc _ _,h.ms.other b dc _ _,h.msr.set _ _ _,h.si.other b dc _ _,h.so.other b dc _ _,h.sf.other b dc _ _,h.aio,h.aif,h.aof,h.ari⟩;obtain⟨q,f,a1,j,k,d⟩:=h.on;exact⟨q,f,a1,j,k,d.other (a:=⟨g,o*2,none⟩) (Blk.ne2 d b dc) _⟩
def Ow(s:St)(i:Nat):St:=fp (di s i 1) i (s.os.z i).ls.n
theorem adr(x:St)(i A u:Nat)(w:World)(hA:A<=w.heap.size)(f:ah A w x)(hi:i<x.os.n)(hga:x.os.a=some ⟨u,0,none⟩)(o:∀j,j<(x.os.z i).ls.n->(0<=((x.os.z i).ls.z j).l/\((x.os.z i).ls.z j).l<=200)/\0<=((x.os.z i).ls.z j).b/\((x.os.z i).ls.z j).b<=200):
  Calls prog 133 #[.pointer (some ⟨u,i*2,none⟩)] w λe w'=>∃y:St,e = .returned (.tuple #[])/\((x.os.z i).k=0->y=Ow x i)/\(¬(x.os.z i).k=0->y=x)/\ah A w' y/\Below A w w'/\qw w w':=by
 obtain⟨g,hg1,F,c⟩:=f.os.list ow;have G:g=u:=akb;subst G;have t:=c.cell (j:=i*2) ow;have e0:=tq (z:=x.os.z) hi (show 0<2 by decide);rw[Nat.add_zero] at e0;rw[e0] at t;have c1:w.cell? ⟨g,i*2,none⟩=some (.int .i64 (x.os.z i).k):=t;have L:=c.lt;have gf:=c.frozen (i*2);have J:=hid f;have d:Hid (ah A (w.setCell ⟨g,i*2,none⟩ (.int .i64 1)) (di x i 1)/\Below A w (w.setCell ⟨g,i*2,none⟩ (.int .i64 1))/\qw w (w.setCell ⟨g,i*2,none⟩ (.int .i64 1))/\w.heap.size<=(w.setCell ⟨g,i*2,none⟩ (.int .i64 1)).heap.size):=by
  have E:=(Below.refl A w).setCell (p:=⟨g,i*2,none⟩) F (.int .i64 1);exact⟨f.kind hi hga 1,E,(qw.refl w).setOrder c _ _,E.size⟩
 have v:Hid (∀j,j<((di x i 1).os.z i).ls.n->(0<=(((di x i 1).os.z i).ls.z j).l/\(((di x i 1).os.z i).ls.z j).l<=200)/\0<=(((di x i 1).os.z i).ls.z j).b/\(((di x i 1).os.z i).ls.z j).b<=200):=by
  show ∀j,j<((di x i 1).os.z i).ls.n->_;rw[xv];exact o
 have D:=hid hga;clear f hg1 c hga o t e0;by_cases hk:(x.os.z i).k=0;rotate_left
 .have H:((x.os.z i).k !=0)=true:=Ha;have s:Hid (¬(x.os.z i).k=0):=hk;clear hk
  generalize (x.os.z i).k=K at *
  go_enter func133,ntmps133;go_wp2_with fail
  first|go_end0|refine Xzq (results_none rfl _ _ _) rfl ?_
  exact⟨x,rfl,λh=>absurd h s.o,λ_=>rfl,J.o,Below.refl _ _,qw.refl _⟩
 have H:((x.os.z i).k !=0)=false:=Ha;have s:Hid ((x.os.z i).k=0):=hk;clear hk
 generalize (x.os.z i).k=K at *
 go_enter func133,ntmps133;go_wp2_with fail;refine(Y8 (di x i 1) i A g _ (Qzx hA d.o.2.2.2) d.o.1 hi D.o v.o).mono ?_;rintro e M ⟨rfl,r,m,q⟩;have B:=qa3 r (d.o.2.1.trans m) (d.o.2.2.1.trans q);clear r m q;go_wp2_with fail
 first|go_end0|refine Xzq (results_none rfl _ _ _) rfl ?_
 refine⟨Ow x i,rfl,λ_=>rfl,λh=>absurd s.o h,?_,B.o.2⟩;have h:=B.o.1;rw[xv] at h;exact h
theorem acw(B:Nat)(x:Hd)(order:Int)(w:World)(d:B<w.heap.size)(c:w.cell? ⟨B,0,none⟩=some (.int .i64 order)):
  Calls prog 136 #[x.val,.pointer (some ⟨B,0,none⟩)] w λe w'=>e = .returned (.bool (x.o==order))/\Bw w w':=by
 have a:=(Below.refl w.heap.size w).alloc nlr (.cells #[.int .i64 x.o,.int .i64 x.l,.int .i64 x.b,.int .i64 x.n] 107);unfold Hd.val;go_enter func136,ntmps136;go_wp2_with fail;go_ret;exact⟨rfl,a⟩
def i6(h:Hs):List Hd:=(List.range h.n).map h.z
theorem uk(h:Hs):(i6 h).length=h.n:=by simp[i6]
theorem aq7{h:Hs}(a:j<h.n):(i6 h).getD j hd0=h.z j:=by
 unfold i6;simp[List.getD,a]
def eu(h:Hs)(bad:Hd->Bool):Hs:=⟨h.a,((i6 h).filter (λx => !bad x)).length,h.c,λj=>((i6 h).filter (λx => !bad x)).getD j hd0⟩
theorem C7(h:Hs)(bad:Hd->Bool):(eu h bad).n<=h.n:=by
 have:=List.length_filter_le (λx => !bad x) (i6 h);rw[uk] at this;exact this
theorem ae8{h k:Hs}(b:h.n=k.n)(c:∀j,j<h.n->h.z j=k.z j)(bad:Hd->Bool):(eu h bad).n=(eu k bad).n/\(eu h bad).z=(eu k bad).z:=by
 have e:i6 h=i6 k:=by
  unfold i6;rw[<-b];exact List.map_congr_left λj a=>c j (List.mem_range.1 a)
 unfold eu;rw[e];exact⟨rfl,rfl⟩
theorem ki.keepG{n:Nat}{r:Rw}(h:ki A w r)(hg:Blk w g 107 n f)(K:iy g w w'):ki A w' r:=an3
theorem ct.keepG{n:Nat}{t:TypeId}{s:Hs}(h:ct A t w s)(hg:Blk w g 107 n f)(hne:t≠107)(K:iy g w w'):ct A t w' s:=amn
theorem gp.keepG{n:Nat}{t:TypeId}{a:Option Addr}(h:gp A w t l a c)(j:Blk w g 107 n f)(d:t≠107)(K:iy g w w'):gp A w' t l a c:=by
 refine h.same λq cur b=>K.2 q (Qkq b).1 λe => ?_;obtain⟨c2,i,_⟩:=j;rw[e,i] at b;cases b;exact d rfl
theorem kj.keepG{n:Nat}{s:Os}(h:kj A w s)(hg:Blk w g 107 n f)(K:iy g w w'):kj A w' s:=by
 refine⟨h.le,h.cap,λhn => ?_,λi hi => ?_,h.apart,h.room.keepG hg dc K⟩
 .exact aod
 exact anl
theorem ah.keepG{n:Nat}{h:Hs}(k:ah A w s)(hg:Blk w g 107 n f)(K:iy g w w')(a:ct A 107 w' h):ah A w' (Go.Proofs.YtjgckphgagdpaaaGreatDoor.withHolds s h):=by
 refine⟨?_,λi hi=>(k.rows i hi).keepG hg K,k.rapart,k.os.keepG hg K,a,k.ms.keepG hg dc K,k.msr.keepG hg dc K,k.si.keepG hg K,k.so.keepG hg K,k.sf.keepG hg K,k.aio,k.aif,k.aof,k.ari⟩;exact ant
theorem Xq(f:Nat)(caps:Array Value)(bad:Hd->Bool)(a:Option Addr)(cap:Nat)(w:World)(b:cap<=maxLen)
  (d:∀args w,(callFunc f args).run prog w = .ok (.enter f args) w)
  (g:Hid (∀(x:Hd) w1,Bw w w1->Calls prog f (#[x.val]++caps) w1 λe w'=>e = .returned (.bool (bad x))/\Bw w1 w')) :
  Calls prog 135 #[.slice a (0:Nat) cap,.func (.func f) #[] caps] w λe w'=>e = .returned (.slice a (0:Nat) cap)/\Bw w w':=by
 have c:=b;unfold maxLen at b;go_enter func135,ntmps135;go_wp2_with fail;refine(ar9 f caps bad w.heap.size a 0 cap w nlr (Qxz _) c (λ_=>hd0) (λi hi=>absurd hi (Qzq _)) d g).mono ?_;exact amf
theorem aqg(f:Nat)(caps:Array Value)(bad:Hd->Bool)(A:Nat)(s:St)(w:World)(d:A<=w.heap.size)(o:ah A w s)
  (p:∀args w,(callFunc f args).run prog w = .ok (.enter f args) w)
  (B:∀(x:Hd) w1,Below A w w1->Calls prog f (#[x.val]++caps) w1 λe w'=>e = .returned (.bool (bad x))/\Bw w1 w') :
  Calls prog 135 #[.slice s.hs.a s.hs.n s.hs.c,.func (.func f) #[] caps] w λe w'=>e = .returned (.slice (eu s.hs bad).a (eu s.hs bad).n (eu s.hs bad).c)/\ah A w' (withHolds s (eu s.hs bad))/\Below A w w'/\(∀q t m g,t≠107->Blk w q t m g->Blk w' q t m g):=by
 obtain⟨h1,k,r,E⟩:=o.hs;by_cases G:s.hs.n=0
 .have hd:(eu s.hs bad).n=0:=aku;rw[G,hd];refine(Xq f caps bad s.hs.a s.hs.c w k p (λx w1 b=>B x w1 (b.mono d))).mono ?_;rintro e w1 ⟨rfl,b⟩;refine⟨rfl,(o.below b).withHolds ⟨alg,k,r,λh=>absurd h ow⟩,b.mono d,λq t m g _ hb=>hb.below b⟩
 obtain⟨g,ha,hA,hb⟩:=E ow;have i:Blk w g 107 ((i6 s.hs).length*4) (hc λj=>(i6 s.hs).getD j hd0):=abs;have u:=Xp f caps bad A g s.hs.c (i6 s.hs) w hA d aaj k i p B;rw[uk] at u;rw[ha];refine u.mono ?_;rintro e w1 ⟨rfl,y,b,v⟩;have F:=C7 s.hs bad;refine⟨asw,o.keepG i v ⟨Qzx F h1,k,r,λ_=>⟨g,ha,hA,y.congr λq hq=>(Cb (z:=(eu s.hs bad).z) hq).symm⟩⟩,b,λq t m H D l=>v.blk l (Blk.ne2 l i D)⟩
theorem Vo(n:Nat)(z:Nat->Hd)(o l b:Int):keptV n z o l b=(((List.range n).map z).find? (λx=>bq x o l b)).elim 0 (λx=>x.n):=by
 unfold keptV;rw[List.find?_map];cases h:(List.range n).find? (λi=>bq (z i) o l b) with
 | none =>
  have a:(List.range n).find? ((λx=>bq x o l b) ∘ z)=none:=h;rw[a]
  rfl
 | some i =>
  have a:(List.range n).find? ((λx=>bq x o l b) ∘ z)=some i:=h;rw[a]
  rfl
theorem afn(n:Nat)(L:List Hd)(h:n=L.length):(List.range n).map (λj=>L.getD j hd0)=L:=by
 subst h
 apply List.ext_getElem
 .simp
 intro i b a;simp[List.getD,a]
theorem Q3(h:Hs)(bad:Hd->Bool):i6 (eu h bad)=(i6 h).filter (λx => !bad x):=afn _ _ rfl
theorem adc(h:Hs)(bad:Hd->Bool)(o l b:Int):keptV (eu h bad).n (eu h bad).z o l b=((i6 h).find? (λx => !bad x&&bq x o l b)).elim 0 (λx=>x.n):=by
 rw[Vo];have e:(List.range (eu h bad).n).map (eu h bad).z=(i6 h).filter (λx => !bad x):=Q3 h bad;rw[e,List.find?_filter];have c:(λa=>decide ((!bad a)=true/\bq a o l b=true))=λx => !bad x&&bq x o l b:=by
  funext a
  cases bad a<;>cases bq a o l b<;>rfl
 rw[c]
theorem afl(h:Hs)(o l b:Int):keptV h.n h.z o l b=((i6 h).find? (λx=>bq x o l b)).elim 0 (λx=>x.n):=Vo _ _ _ _ _
theorem Q2(h:Hs)(bad:Hd->Bool){o l b:Int}{B:Bool}(c:∀x,bq x o l b=true->bad x=B):keptV (eu h bad).n (eu h bad).z o l b=if B then 0 else keptV h.n h.z o l b:=by
 rw[adc];cases B
 .rw[if_neg dc,afl];have e:(λx => !bad x&&bq x o l b)=λx=>bq x o l b:=by
   funext x
   cases a:bq x o l b
   .simp
   rw[c x a];rfl
  rw[e]
 rw[if_pos rfl];have e:(i6 h).find? (λx => !bad x&&bq x o l b)=none:=by
  rw[List.find?_eq_none];intro x _;cases a:bq x o l b
  .simp
  rw[c x a];simp
 rw[e]
 rfl
theorem M7{h:Hs}{bad:Hd->Bool}(r:∀i j,i<j->j<h.n->bj (h.z i)<bj (h.z j))(q:∀i,i<h.n->bad (h.z i)=false->il (h.z i)=true):aw (eu h bad).n (df (eu h bad).z)=false:=by
 have u:(i6 h).Pairwise (λx y=>bj x<bj y):=by
  rw[List.pairwise_iff_getElem];intro i j hi e d;have f:j<h.n:=by rw[uk] at e;exact e
  have m:(i6 h)[i]=h.z i:=by simp[i6]
  have o:(i6 h)[j]=h.z j:=by simp[i6]
  rw[m,o];exact r i j d f
 have l:=u.filter (λx => !bad x);have a:∀i (hi:i<((i6 h).filter (λx => !bad x)).length),(eu h bad).z i=((i6 h).filter (λx => !bad x))[i]:=λi hi=>by
  show((i6 h).filter (λx => !bad x)).getD i hd0=_;rw[List.getD_eq_getElem?_getD,List.getElem?_eq_getElem hi]
  rfl
 refine Lm (λi hi => ?_) λi hi => ?_
 .rw[a i hi];have g:=List.getElem_mem hi;rw[List.mem_filter] at g;obtain⟨p,h2⟩:=g;obtain⟨k,s,t⟩:∃k,k∈List.range h.n/\h.z k=((i6 h).filter (λx => !bad x))[i]:=List.mem_map.1 p;have b:bad (((i6 h).filter (λx => !bad x))[i])=false:=Bb;rw[<-t] at b ⊢;exact q k (List.mem_range.1 s) b
 have c:i+1<((i6 h).filter (λx => !bad x)).length:=hi;rw[a i ow,a (i+1) c];rw[List.pairwise_iff_getElem] at l;exact l i (i+1) ow c ow
theorem Pf{h:Hs}(bad:Hd->Bool)(b:aw h.n (df h.z)=false):aw (eu h bad).n (df (eu h bad).z)=false:=M7 (λi j a c=>re b i j a c) λi hi _=>cd b i hi
theorem Q4{n p:Nat}{z:Nat->Hd}(a:aw n (df z)=false)(c:p<n):aw (n-1) (df (gu z p))=false:=by
 refine Lm (λi hi => ?_) λi hi => ?_
 .unfold gu
  split
  .exact cd a i ow
  exact cd a (i+1) ow
 unfold gu;by_cases b:i+1<p
 .rw[if_pos ow,if_pos b];exact acf
 rw[if_neg b]
 split
 .exact acf
 exact acf
theorem aiq{n p:Nat}{z:Nat->Hd}(a:aw n (df z)=false)(f:p<n)(o l b:Int):keptV (n-1) (gu z p) o l b=if bq (z p) o l b then 0 else keptV n z o l b:=by
 have g:=Q4 a f;cases d:bq (z p) o l b;rotate_left
 .rw[if_pos rfl];refine lq λj i => ?_;cases q:bq (gu z p j) o l b
  .rfl
  have e:=Ku q d;unfold gu at e
  split at e
  .have:=re a j p ow f;omega
  have:=re a p (j+1) ow ow;omega
 rw[if_neg dc];rcases uj n z o l b with h|⟨k,m,s,h2⟩
 .rw[lq h,lq λj i => ?_];unfold gu
  split
  .exact h j ow
  exact h (j+1) ow
 have r:¬k=p:=λe=>by rw[e,d] at h2;exact absurd h2 dc
 rw[(qf a m h2).1];by_cases c:k<p
 .have e:gu z p k=z k:=if_pos c;rw[(qf g (k:=k) ow aa4).1,e]
 have e:gu z p (k-1)=z k:=by
  unfold gu;rw[if_neg ow,show k-1+1=k by omega]
 rw[(qf g (k:=k-1) ow aa4).1,e]
theorem Yq{n:Nat}{z:Nat->Hd}{o l b:Int}(a:aw n (df z)=false):Dt n z o l b=if keptV n z o l b=0 then 4 else 0:=by
 unfold Dt;rw[if_pos (Ci a)]
theorem aq2{n:Nat}{z:Nat->Hd}{o l b:Int}(a:aw n (df z)=false):Fg n z o l b=keptV n z o l b:=by
 unfold Fg;rw[if_pos (Ci a)]
end Go.Proofs.YtjgckphgagdpaaaGreatDoor
